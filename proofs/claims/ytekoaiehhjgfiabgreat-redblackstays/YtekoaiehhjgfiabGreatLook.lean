/-
  The contract of look.
-/
import Derived.Test.YtekoaiehhjgfiabGreatRowsM
import Derived.Test.YtekoaiehhjgfiabGreatList
namespace Go.Proofs.YtekoaiehhjgfiabGreat
open Go.RowKit Go.Shelf

/-- Two cells of a block that may be written. -/
structure Pairly (W : World) (n : Nat) : Prop where
  there : ∀ k, k < 2 → (W.cell? ⟨n, k, none⟩).isSome = true
  soft : ∀ k, k < 2 → W.frozen? ⟨n, k, none⟩ = false

theorem Pairly.lt {W : World} {n : Nat} (h : Pairly W n) : n < W.heap.size := by
  obtain ⟨v, hv⟩ := Option.isSome_iff_exists.1 (h.there 0 (by omega))
  exact cell_lt hv

theorem Pairly.keeps {W W' : World} {n : Nat} (h : Pairly W n) (hb : Below W.heap.size W W') : Pairly W' n :=
  ⟨fun k hk => by rw [hb.cell (p := ⟨n, k, none⟩) h.lt]; exact h.there k hk, fun k hk => by rw [hb.frozen (p := ⟨n, k, none⟩) h.lt]; exact h.soft k hk⟩

theorem pairly_alloc (w : World) (a b : Value) (ty : Nat) : Pairly (w.alloc (.cells #[a, b] ty)) w.heap.size := by
  refine ⟨fun k hk => ?_, fun k hk => by simp⟩
  match k, hk with
  | 0, _ => simp
  | 1, _ => simp

theorem Pairly.put {W : World} {n : Nat} (h : Pairly W n) (a b : Value) : ∀ j (hj : j < [a, b].length), (W.setCells n 0 [a, b]).cell? ⟨n, 0 + j, none⟩ = some ([a, b][j]) :=
  World.cell?_setCells_in n _ 0 W (fun j hj => by rw [Nat.zero_add]; exact h.there j (by simpa using hj))

theorem below_put2 {w W : World} {n : Nat} (h : Below w.heap.size w W) (hn : w.heap.size ≤ n) (a b : Value) : Below w.heap.size w (W.setCells n 0 [a, b]) :=
  (h.setCell (p := ⟨n, 0, none⟩) hn _).setCell (p := ⟨n, 0 + 1, none⟩) hn _

/-- The error of look. -/
def lookE (d : Nat) (o : Int) (l : List VT) : Int := if o < 0 ∨ 6 ≤ o then 4 else listErr d l

/-- Nothing but an error is told. -/
def NonePost (E : Int) (w : World) (e : Ending) (w' : World) : Prop := e = .returned (.tuple #[.agg #[.nilFunc, .nilFunc], .slice none 0 0, .int .i64 E]) ∧ Below w.heap.size w w'

abbrev resW (w : World) : World := w.alloc (.cells #[.nilFunc, .nilFunc] 187)

set_option maxHeartbeats 2000000 in
theorem look_kind (o : Int) (a : Option Addr) (n c : Nat) (w : World) (ho : o < 0 ∨ 6 ≤ o) : Calls Tryz.prog 127 #[.int .i64 o, .slice a n c] w (NonePost 4 w) := by
  have HO : Hid (o < 0 ∨ 6 ≤ o) := ho
  clear ho
  have HB : Hid (Below w.heap.size w (tabW (resW w))) := (Grew.two w _ _).below
  have HP : Hid (Pairly (tabW (resW w)) w.heap.size) := (pairly_alloc w _ _ _).keeps ((Grew.refl _).alloc _).below
  go_enter Tryz.func127, Tryz.ntmps127
  go_wp2_with fail
  refine (rows_any _).mono ?_
  rintro e w1 ⟨rfl, rfl⟩
  go_wp2_with fail
  refine (rowO_no _ o _ HO.out).mono ?_
  rintro e w1 ⟨rfl, hb⟩
  have hb : Below (tabW (resW w)).heap.size (tabW (resW w)) w1 := hb
  have hb1 : Below w.heap.size w w1 := HB.out.trans (hb.mono HB.out.size)
  have hb2 : Below w.heap.size w (w1.alloc (.cells #[.nilFunc, .nilFunc] 187)) := hb1.alloc hb1.size _
  have HP2 : Hid (Pairly (w1.alloc (.cells #[.nilFunc, .nilFunc] 187)) w.heap.size) := (HP.out.keeps hb).keeps ((Grew.refl _).alloc _).below
  clear hb hb1 HB HP HO
  obtain ⟨v0, s0⟩ := Option.isSome_iff_exists.1 (HP2.out.there 0 (by omega))
  obtain ⟨v1, s1⟩ := Option.isSome_iff_exists.1 (HP2.out.there 1 (by omega))
  have z0 := HP2.out.soft 0 (by omega)
  have z1 := HP2.out.soft 1 (by omega)
  have Hin : Hid _ := HP2.out.put .nilFunc .nilFunc
  have Hbf : Hid _ := below_put2 hb2 (Nat.le_refl _) .nilFunc .nilFunc
  go_wp2_with fail
  refine bodyPost_ret (v := .tuple #[.agg #[.nilFunc, .nilFunc], .slice none 0 0, .int .i64 4]) ?_ rfl ⟨rfl, Hbf.out⟩
  have q0 := Hin.out 0 (by simp)
  have q1 := Hin.out 1 (by simp)
  simp only [World.setCells, Nat.zero_add, List.getElem_cons_zero, List.getElem_cons_succ] at q0 q1
  simp [results, Tryz.results127, go_sem, q0, q1]

/-- The result's cells and the row's box. -/
structure DeskL (W : World) (n B f0 f1 : Nat) : Prop where
  res : Pairly W n
  g0 : W.cell? ⟨B, 0, none⟩ = some (fv f0)
  g1 : W.cell? ⟨B, 1, none⟩ = some (fv f1)

theorem DeskL.keeps {W W' : World} {n B f0 f1 : Nat} (h : DeskL W n B f0 f1) (hb : Below W.heap.size W W') : DeskL W' n B f0 f1 :=
  ⟨h.res.keeps hb, cell_keeps hb h.g0, cell_keeps hb h.g1⟩

set_option maxHeartbeats 2000000 in
theorem look_core (d q : Nat) (hq : q < 6) (f0 f1 : Nat) (hT : Hid (∀ w : World, (tabW (resW w)).cell? ⟨w.heap.size + 1, q * 2, none⟩ = some (fv f0) ∧ (tabW (resW w)).cell? ⟨w.heap.size + 1, q * 2 + 1, none⟩ = some (fv f1))) (l : List VT) (u : Value) (w : World) (hu : Lies (d + 1) w l u) (ms : List MB)
    (hm : Hid (listErr d l = 0 → (∀ p ∈ ms, GoodM w p) ∧ ∀ W : World, Below w.heap.size w W → Calls Tryz.prog 168 #[.agg #[fv f0, fv f1], u] W fun e w' => ∃ G, e = .returned (.slice (some ⟨G, 0, none⟩) ms.length ms.length) ∧ W.heap.size ≤ G ∧ RowM w' G 0 ms ∧ Below W.heap.size W w')) :
    Calls Tryz.prog 127 #[.int .i64 q, u] w fun e w' => (listErr d l ≠ 0 ∧ NonePost (listErr d l) w e w') ∨ (listErr d l = 0 ∧ ∃ v, e = .returned (.tuple #[.agg #[fv f0, fv f1], v, .int .i64 0]) ∧ SlM w' ms v ∧ Below w.heap.size w w') := by
  obtain ⟨a, c, rfl, _⟩ := Lies.slice hu
  have HU : Hid (Lies (d + 1) w l (.slice a l.length c)) := hu
  clear hu
  have HB : Hid (Below w.heap.size w (tabW (resW w))) := (Grew.two w _ _).below
  have HP : Hid (Pairly (tabW (resW w)) w.heap.size) := (pairly_alloc w _ _ _).keeps ((Grew.refl _).alloc _).below
  go_enter Tryz.func127, Tryz.ntmps127
  go_wp2_with fail
  refine (rows_any _).mono ?_
  rintro e w1 ⟨rfl, rfl⟩
  go_wp2_with fail
  refine (rowO_yes (w.heap.size + 1) q f0 f1 _ hq (hT.out w).1 (hT.out w).2).mono ?_
  rintro e w1 ⟨rfl, hb⟩
  have hb : Below (tabW (resW w)).heap.size (tabW (resW w)) w1 := hb
  have hb1 : Below w.heap.size w w1 := HB.out.trans (hb.mono HB.out.size)
  have hb2 : Below w.heap.size w (w1.alloc (.cells #[fv f0, fv f1] 187)) := hb1.alloc hb1.size _
  have HD2 : Hid (DeskL (w1.alloc (.cells #[fv f0, fv f1] 187)) w.heap.size w1.heap.size f0 f1) := ⟨(HP.out.keeps hb).keeps ((Grew.refl _).alloc _).below, by simp, by simp⟩
  have hlow : w.heap.size < w1.heap.size := (HP.out.keeps hb).lt
  clear hb hb1 HB HP hT
  go_wp2_with fail
  refine (checkAll_any d l _ _ (Lies.keeps hb2 _ _ _ HU.out)).mono ?_
  rintro e w3 ⟨rfl, hb⟩
  have hb3 : Below w.heap.size w w3 := hb2.trans (hb.mono hb2.size)
  have HD3 : Hid (DeskL w3 w.heap.size w1.heap.size f0 f1) := HD2.out.keeps hb
  clear hb hb2 HD2 HU
  generalize hBB : w1.heap.size = B at *
  clear hBB
  generalize hLE : listErr d l = E at *
  have HLE : Hid (listErr d l = E) := hLE
  clear hLE
  by_cases hE : E = 0
  · subst hE
    have hb4 : Below w.heap.size w w3.drew := hb3.drew
    have HD4 : Hid (DeskL w3.drew w.heap.size B f0 f1) := HD3.out.keeps (Grew.refl _).drew.below
    have Hm : Hid (∀ W : World, Below w.heap.size w W → Calls Tryz.prog 168 #[.agg #[fv f0, fv f1], .slice a l.length c] W fun e w' => ∃ G, e = .returned (.slice (some ⟨G, 0, none⟩) ms.length ms.length) ∧ W.heap.size ≤ G ∧ RowM w' G 0 ms ∧ Below W.heap.size W w') := (hm.out rfl).2
    have HGd : Hid (∀ p ∈ ms, GoodM w p) := (hm.out rfl).1
    have hne1 : ¬ (w.heap.size = B) := by omega
    have hne2 : ¬ (B = w.heap.size) := by omega
    have hgt : w.heap.size < w3.heap.size := HD3.out.res.lt
    clear hm HD3 hb3
    obtain ⟨hp4, g0, g1⟩ := HD4.out
    clear hp4
    go_wp2_with fail
    go_region_held3 (fun w' => w'.cell? ⟨B, 0, none⟩ = some (fv f0) ∧ w'.cell? ⟨B, 1, none⟩ = some (fv f1)) (first | go_keep | trivial)
      (first
        | (go_at_call 168; refine (Hm.out _ hb4).mono ?_; rintro e w5 ⟨G, rfl, hG, hrow, hg5⟩; have hG2 : w3.heap.size ≤ G := hG; clear hG; have hb5 : Below w.heap.size w w5 := hb4.trans (hg5.mono hb4.size); have HD5 : Hid (DeskL w5 w.heap.size B f0 f1) := HD4.out.keeps hg5; clear hg5 hb4 HD4 g0 g1; have HR : Hid (RowM w5 G 0 ms) := hrow; clear hrow; obtain ⟨hres, g0, g1⟩ := HD5.out; obtain ⟨v0, s0⟩ := Option.isSome_iff_exists.1 (hres.there 0 (by omega)); obtain ⟨v1, s1⟩ := Option.isSome_iff_exists.1 (hres.there 1 (by omega)); have z0 := hres.soft 0 (by omega); have z1 := hres.soft 1 (by omega); clear hres))
    have Hin : Hid _ := HD5.out.res.put (fv f0) (fv f1)
    have hbf := below_put2 hb5 (Nat.le_refl _) (fv f0) (fv f1)
    have Hbf : Hid (Below w.heap.size w (w5.setCells w.heap.size 0 [fv f0, fv f1])) := hbf
    have HS : Hid (SlM (w5.setCells w.heap.size 0 [fv f0, fv f1]) ms (.slice (some ⟨G, 0, none⟩) ms.length ms.length)) := by
      refine ⟨G, 0, _, rfl, Nat.le_refl _, fun i hi => ?_, fun p hp => (HGd.out p hp).keeps hbf⟩
      obtain ⟨k0, k1, k2, k3, k4⟩ := HR.out i hi
      have hg : G ≠ w.heap.size := by omega
      exact ⟨cell_other hg k0, cell_other hg k1, cell_other hg k2, cell_other hg k3, cell_other hg k4⟩
    clear hbf HR HGd HD5
    go_wp2_with fail
    refine bodyPost_ret (v := .tuple #[.agg #[fv f0, fv f1], .slice (some ⟨G, 0, none⟩) ms.length ms.length, .int .i64 0]) ?_ rfl (.inr ⟨HLE.out, _, rfl, HS.out, Hbf.out⟩)
    have q0 := Hin.out 0 (by simp)
    have q1 := Hin.out 1 (by simp)
    simp only [World.setCells, Nat.zero_add, List.getElem_cons_zero, List.getElem_cons_succ] at q0 q1
    simp [results, Tryz.results127, go_sem, q0, q1]
  · have HP3 : Hid (Pairly w3 w.heap.size) := HD3.out.res
    clear HD3 hm
    obtain ⟨v0, s0⟩ := Option.isSome_iff_exists.1 (HP3.out.there 0 (by omega))
    obtain ⟨v1, s1⟩ := Option.isSome_iff_exists.1 (HP3.out.there 1 (by omega))
    have z0 := HP3.out.soft 0 (by omega)
    have z1 := HP3.out.soft 1 (by omega)
    have Hin : Hid _ := HP3.out.put .nilFunc .nilFunc
    have Hbf : Hid _ := below_put2 hb3 (Nat.le_refl _) .nilFunc .nilFunc
    have hE' : (E == 0) = false := by simpa using hE
    have HE : Hid (E ≠ 0) := hE
    clear hE
    go_wp2_with fail
    refine bodyPost_ret (v := .tuple #[.agg #[.nilFunc, .nilFunc], .slice none 0 0, .int .i64 E]) ?_ rfl (.inl ⟨by rw [HLE.out]; exact HE.out, by rw [HLE.out], Hbf.out⟩)
    have q0 := Hin.out 0 (by simp)
    have q1 := Hin.out 1 (by simp)
    simp only [World.setCells, Nat.zero_add, List.getElem_cons_zero, List.getElem_cons_succ] at q0 q1
    simp [results, Tryz.results127, go_sem, q0, q1]

/-- What look tells of an order and a list: their error, or the row and the members with their measures. -/
def LookPost (d q : Nat) (l : List VT) (w : World) (e : Ending) (w' : World) : Prop :=
  (listErr d l ≠ 0 ∧ NonePost (listErr d l) w e w') ∨ (listErr d l = 0 ∧ ∃ v ms, e = .returned (.tuple #[.agg #[fv (mF q), fv (cF q)], v, .int .i64 0]) ∧ SlM w' ms v ∧ ms.map (·.t) = l ∧ (∀ p ∈ ms, p.m = msr q p.t) ∧ Below w.heap.size w w')

theorem listErr_zero6 {d : Nat} {l : List VT} (h : listErr d l = 0) : l.length ≤ 65536 ∧ ∀ x ∈ l, rightV d x = true := by
  unfold listErr at h
  by_cases h1 : 65536 < l.length
  · rw [if_pos h1] at h; cases h
  · rw [if_neg h1] at h
    cases h2 : l.all (rightV d)
    · rw [h2] at h; cases h
    · exact ⟨by omega, fun x hx => List.all_eq_true.1 h2 x hx⟩

theorem look_some (d q : Nat) (hq : q < 6) (l : List VT) (u : Value) (w : World) (hu : Lies (d + 1) w l u) : Calls Tryz.prog 127 #[.int .i64 q, u] w (LookPost d q l w) := by
  obtain ⟨a, c, rfl, hlen, ps, hps, hsd, hrow⟩ := Lies.row hu
  have hpl : ps.length = l.length := by rw [← hps]; simp
  have hpne : ps ≠ [] → l ≠ [] := fun h e => h (List.eq_nil_of_length_eq_zero (by rw [hpl, e]; rfl))
  refine (look_core d q hq (mF q) (cF q) (fun W => ?_) l _ w hu (ps.map (mkM (msr q))) ?_).mono ?_
  · have := tab_cells (resW W) q hq
    rwa [World.size_alloc] at this
  · intro hE
    obtain ⟨h1, h2⟩ := listErr_zero6 hE
    have hgood : ∀ p ∈ ps, Lies 16 w p.1.items p.2 ∧ rightV 16 p.1 = true := fun p hp => canon (hsd p hp).1 (h2 p.1 (by rw [← hps]; exact List.mem_map.2 ⟨p, hp, rfl⟩))
    refine ⟨fun m hm => ?_, fun W hW => ?_⟩
    · obtain ⟨p, hp, rfl⟩ := List.mem_map.1 hm
      exact ⟨(hgood p hp).1, (hgood p hp).2⟩
    · have := measuredAll_core (mF q) (cF q) (msr q) ps a c W (by omega) (fun hne => by
          obtain ⟨b, o, ha, hr⟩ := hrow (hpne hne)
          exact ⟨b, o, ha, hr.keeps hW⟩) (fun p hp => by
          obtain ⟨a', c', e, _⟩ := Lies.slice (hsd p hp).1
          exact ⟨a', _, c', e⟩) (fun p W' hp hW' => measured_any q hq p.1 p.2 W' (Lies.keeps (hW.trans (hW'.mono hW.size)) _ _ _ (hgood p hp).1) (hgood p hp).2)
      rw [hpl] at this
      refine this.mono ?_
      rintro e w' ⟨rfl, hr, hb⟩
      exact ⟨W.heap.size + 1, by rw [List.length_map, hpl], by omega, hr, hb⟩
  · rintro e w' (h | ⟨h1, v, h2, h3, h4⟩)
    · exact .inl h
    · refine .inr ⟨h1, v, _, h2, h3, ?_, fun p hp => ?_, h4⟩
      · rw [List.map_map]; exact hps
      · obtain ⟨x, _, rfl⟩ := List.mem_map.1 hp; rfl

end Go.Proofs.YtekoaiehhjgfiabGreat

