/-
  What TvecSteps and TvecMany want besides.
-/
import Derived.Test.YtekoaiehhjgfiaaGreatTvecS
import Derived.Test.YtekoaiehhjgfiaaGreatVals
namespace Go.Proofs.YtekoaiehhjgfiaaGreat
open Go.RowKit

theorem setCell_comm (w : World) (a b : Addr) (x y : Value) (h : a.block ≠ b.block) : (w.setCell a x).setCell b y = (w.setCell b y).setCell a x := by
  unfold World.setCell
  congr 1
  apply Array.ext_getElem?
  intro i
  simp only [Array.getElem?_modify]
  by_cases h1 : b.block = i
  · by_cases h2 : a.block = i
    · exact absurd (h2.trans h1.symm) h
    · simp [h1, h2]
  · by_cases h2 : a.block = i
    · simp [h1, h2]
    · simp [h1, h2]

theorem setCells_comm (h R : Nat) (x : Value) (hn : h ≠ R) : ∀ (vs : List Value) (o : Nat) (w : World), (w.setCell ⟨h, 0, none⟩ x).setCells R o vs = (w.setCells R o vs).setCell ⟨h, 0, none⟩ x := by
  intro vs
  induction vs with
  | nil => intro o w; rfl
  | cons v vs ih =>
    intro o w
    simp only [World.setCells]
    rw [setCell_comm w ⟨h, 0, none⟩ ⟨R, o, none⟩ x v hn, ih]

theorem frozen_setCellS (W : World) (h : Nat) (x : Value) (a : Addr) : (W.setCell ⟨h, 0, none⟩ x).frozen? a = W.frozen? a := World.frozen?_setCell W ⟨h, 0, none⟩ a x

/-- What Pop of an open transient tells. -/
def TPop (l : List VT) (b h v : Nat) (w : World) (e : Ending) (w' : World) : Prop :=
  ∃ (y : VT) (va : Option Addr) (vc kk : Nat), e = .returned (.tuple #[.agg #[.int .i64 y.kind, .int .i64 y.num, .string y.text, .slice va y.items.length vc], .int .i64 (kk : Int)]) ∧ KB h w w' ∧ Lies 16 w' y.items (.slice va y.items.length vc) ∧
    ((kk = 6 ∧ l = [] ∧ y = zeroT ∧ TV w' l b h v) ∨ (kk = 0 ∧ ∃ m v2, l = m ++ [y] ∧ TV w' m b h v2))

/-- Behind the vector's Pop: the result's cell and the transient's are written. -/
theorem tpop_tail {l : List VT} {b h v : Nat} {w wz w2 : World} {e : Ending} (t : TV w l b h v) (hwz : wz = w.alloc (.cells #[.int .i64 0, .int .i64 0, .string ⟨#[]⟩, .slice none 0 0] 34)) (hp : PopPostX (fun q => q ≠ w.heap.size) l wz e w2) :
    ∃ (y : VT) (va : Option Addr) (vc : Nat) (o : Option Addr) (kk : Nat), e = .returned (.tuple #[.pointer o, .agg #[.int .i64 y.kind, .int .i64 y.num, .string y.text, .slice va y.items.length vc], .int .i64 (kk : Int)]) ∧ Bx w2 w.heap.size zeroT (.slice none 0 0) ∧
      (∀ W, Below w2.heap.size w2 W → Calls Tryz.prog 95 #[.pointer (some ⟨h, 0, none⟩), .pointer o, .int .i64 (kk : Int)] W fun e W' => e = .returned (.int .i64 (kk : Int)) ∧ (∀ a u, a.block ≠ h → W.cell? a = some u → W'.cell? a = some u) ∧ (∀ a, W'.frozen? a = W.frozen? a) ∧ TPop l b h v w (.returned (.tuple #[.agg #[.int .i64 y.kind, .int .i64 y.num, .string y.text, .slice va y.items.length vc], .int .i64 (kk : Int)])) (W'.setCells w.heap.size 0 (encP (y, .slice va y.items.length vc)))) ∧
      (∀ W, Below w2.heap.size w2 W → Calls Tryz.prog 95 #[.pointer (some ⟨h, 0, none⟩), .pointer o, .int .i64 (kk : Int)] (W.setCells w.heap.size 0 (encP (y, .slice va y.items.length vc))) fun e W' => e = .returned (.int .i64 (kk : Int)) ∧ (Bx W' w.heap.size y (.slice va y.items.length vc)) ∧ TPop l b h v w (.returned (.tuple #[.agg #[.int .i64 y.kind, .int .i64 y.num, .string y.text, .slice va y.items.length vc], .int .i64 (kk : Int)])) W') := by
  have hbz : Below w.heap.size w wz := by rw [hwz]; exact ((Grew.refl w).alloc _).below
  have hsz : wz.heap.size = w.heap.size + 1 := by rw [hwz]; simp
  have KZ : Bx wz w.heap.size zeroT (.slice none 0 0) := by rw [hwz]; exact bx_alloc w zeroT _
  have hhlt : h < w.heap.size := t.bx.lt
  have hhR : h ≠ w.heap.size := by omega
  obtain ⟨hb2, hp⟩ := hp
  have K2 := KZ.keeps hb2
  have hbw2 : Below w.heap.size w w2 := hbz.trans (hb2.mono hbz.size)
  -- the plain world: the result's cell is written
  have hput : ∀ (W : World) (vs : List Value), Below w2.heap.size w2 W → Below w.heap.size w (W.setCells w.heap.size 0 vs) := fun W vs hW => below_setCellsB _ _ (Nat.le_refl _) _ _ _ _ (hbw2.trans (hW.mono hbw2.size))
  have hcell : ∀ (W : World) (vs : List Value), Below w2.heap.size w2 W → ∀ a u, a.block ≠ w.heap.size → w2.cell? a = some u → (W.setCells w.heap.size 0 vs).cell? a = some u := fun W vs hW a u ha hu => by
    rw [World.cell?_setCells_out _ _ 0 W a (fun e _ => absurd e ha)]
    exact cell_keeps hW hu
  rcases hp with ⟨hM0, rfl⟩ | ⟨m, y, b5, v', hMx, rfl, hvx, hLB⟩
  · refine ⟨zeroT, none, 0, none, 6, rfl, K2, fun W hW => Calls.mono (become_not h none 6 (by omega) W) ?_, fun W hW => Calls.mono (become_not h none 6 (by omega) _) ?_⟩
    · rintro e W' ⟨rfl, rfl⟩
      have hb9 := hput _ (encP (zeroT, .slice none 0 0)) hW
      exact ⟨rfl, fun _ _ _ hu => hu, fun _ => rfl, zeroT, none, 0, 6, rfl, KB.of_below hb9, LiesB.lies _ _ _ (zero_liesB 0 _), .inl ⟨rfl, hM0, rfl, t.keeps hb9⟩⟩
    · rintro e W' ⟨rfl, rfl⟩
      have hb9 := hput _ (encP (zeroT, .slice none 0 0)) hW
      exact ⟨rfl, (K2.keeps hW).put (zeroT, .slice none 0 0), zeroT, none, 0, 6, rfl, KB.of_below hb9, LiesB.lies _ _ _ (zero_liesB 0 _), .inl ⟨rfl, hM0, rfl, t.keeps hb9⟩⟩
  · obtain ⟨va, vc, rfl, _⟩ := LiesB.slice hLB
    have hml : m.length ≤ 65536 ∧ m.all (rightV 16) = true := by
      have h1 := t.vv.len
      have h2 := t.vv.right
      rw [hMx, List.length_append] at h1
      rw [hMx, List.all_append, Bool.and_eq_true] at h2
      exact ⟨by omega, h2.1⟩
    -- the world in which both are written
    have hfin : ∀ W, Below w2.heap.size w2 W → TPop l b h v w (.returned (.tuple #[.agg #[.int .i64 y.kind, .int .i64 y.num, .string y.text, .slice va y.items.length vc], .int .i64 ((0 : Nat) : Int)])) ((W.setCells w.heap.size 0 (encP (y, .slice va y.items.length vc))).setCell ⟨h, 0, none⟩ (.pointer (some ⟨b5, 0, none⟩))) := fun W hW => by
      have hb9 := hput W (encP (y, .slice va y.items.length vc)) hW
      have hvv : VV (W.setCells w.heap.size 0 (encP (y, .slice va y.items.length vc))) m (.pointer (some ⟨b5, 0, none⟩)) := ⟨(hvx.stays (fun a u hx hu => hcell W _ hW a u hx hu)).vc, hml.1, hml.2⟩
      obtain ⟨_, hnp, k3⟩ := t.moved (N0 := 0) (Nat.zero_le _) (Nat.zero_le _) hb9 hvv
      have hL9 : Lies 16 (W.setCells w.heap.size 0 (encP (y, .slice va y.items.length vc))) y.items (.slice va y.items.length vc) := LiesB.lies _ _ _ (LiesB.stays (base := wz.heap.size) (fun a u ha hu => ⟨hcell W _ hW a u (by omega) hu, (World.frozen?_setCells _ _ _ _ _).trans (hW.frozen (p := a) (cell_lt hu))⟩) _ _ _ hLB)
      refine ⟨y, va, vc, 0, rfl, KB.set _ hb9, ?_, .inr ⟨rfl, m, b5, hMx, k3⟩⟩
      exact Lies.np (KeepsNP.set (y := .pointer (some ⟨b5, 0, none⟩)) (t.keeps hb9).bx) _ _ _ hL9
    refine ⟨y, va, vc, _, 0, rfl, K2, fun W hW => Calls.mono (become_ok h (some ⟨v, 0, none⟩) _ W ((t.keeps (hbw2.trans (hW.mono hbw2.size))).bx)) ?_, fun W hW => Calls.mono (become_ok h (some ⟨v, 0, none⟩) _ _ ((t.keeps (hput W _ hW)).bx)) ?_⟩
    · rintro e W' ⟨rfl, rfl⟩
      refine ⟨rfl, fun a u ha hu => (grownBy_setCell' W h _).cell hu (fun e => ha (by injection e)), fun a => ?_, ?_⟩
      · exact frozen_setCellS W h (.pointer (some ⟨b5, 0, none⟩)) a
      · rw [setCells_comm h w.heap.size _ hhR]
        exact hfin W hW
    · rintro e W' ⟨rfl, rfl⟩
      have hB := (K2.keeps hW).put (y, .slice va y.items.length vc)
      refine ⟨rfl, ?_, hfin W hW⟩
      have hg : ∀ a u, a.block = w.heap.size → (W.setCells w.heap.size 0 (encP (y, .slice va y.items.length vc))).cell? a = some u → ((W.setCells w.heap.size 0 (encP (y, .slice va y.items.length vc))).setCell ⟨h, 0, none⟩ (.pointer (some ⟨b5, 0, none⟩))).cell? a = some u := fun a u ha hu => (grownBy_setCell' _ h _).cell hu (fun e => hhR (by injection e with e; omega))
      exact ⟨hg _ _ rfl hB.c0, hg _ _ rfl hB.c1, hg _ _ rfl hB.c2, hg _ _ rfl hB.c3, (frozen_setCellS _ h _ _).trans hB.f0, (frozen_setCellS _ h _ _).trans hB.f1, (frozen_setCellS _ h _ _).trans hB.f2, (frozen_setCellS _ h _ _).trans hB.f3⟩

set_option maxRecDepth 100000 in
set_option maxHeartbeats 16000000 in
theorem tpop_any (l : List VT) (b h v : Nat) (w : World) (t : TV w l b h v) : Calls Tryz.prog 46 #[.pointer (some ⟨b, 0, none⟩)] w (TPop l b h v w) := by
  obtain ⟨wz, hwz⟩ : ∃ wz, wz = w.alloc (.cells #[.int .i64 0, .int .i64 0, .string ⟨#[]⟩, .slice none 0 0] 34) := ⟨_, rfl⟩
  have hbz : Below w.heap.size w wz := by rw [hwz]; exact ((Grew.refl w).alloc _).below
  have tz := t.keeps hbz
  have HO : Hid _ := open_any l b h v wz tz
  have hsz : wz.heap.size = w.heap.size + 1 := by rw [hwz]; simp
  have hhlt : h < w.heap.size := t.bx.lt
  have HP : Hid (Calls Tryz.prog 98 #[.pointer (some ⟨v, 0, none⟩)] wz (PopPostX (fun q => q ≠ w.heap.size) l wz)) := vpopX_any _ l _ wz (fun q hq => by omega) ((VC.toX t.vv.vc (fun q hq => by omega)).keeps hbz) t.vv.len t.vv.right
  have HTl : Hid (∀ e w2, PopPostX (fun q => q ≠ w.heap.size) l wz e w2 → _) := fun e w2 hp => tpop_tail t hwz hp
  have h1 := tz.bx.cell
  obtain ⟨Q, hQ⟩ : ∃ Q, Q = TPop l b h v w := ⟨_, rfl⟩
  rw [← hQ] at HTl ⊢
  have HwZ : Hid (wz = w.alloc (.cells #[.int .i64 0, .int .i64 0, .string ⟨#[]⟩, .slice none 0 0] 34)) := hwz
  rw [hwz] at HO HP h1
  clear t tz hQ hbz hwz
  go_enter Tryz.func46, Tryz.ntmps46
  go_wp2_with fail
  refine Calls.mono HO.out ?_
  rintro e w1 ⟨rfl, rfl⟩
  clear HO
  go_wp2_with fail
  refine Calls.mono HP.out ?_
  intro e w2 hp
  rw [← HwZ.out] at hp
  obtain ⟨y, va, vc, o, kk, rfl, K2, hA, hB⟩ := HTl.out e w2 hp
  have hs2 : w.heap.size < w2.heap.size := cell_lt K2.c0
  obtain ⟨W, hW⟩ : ∃ W, W = (w2.alloc (.cells #[.int .i64 y.kind, .int .i64 y.num, .string y.text, .slice va y.items.length vc] 34)).drew := ⟨_, rfl⟩
  have hbW : Below w2.heap.size w2 W := by rw [hW]; exact ((Grew.refl w2).alloc _).below.drew
  have BL : Hid (Bx W w2.heap.size y (.slice va y.items.length vc)) := by rw [hW]; exact (bx_alloc w2 y _).keeps (Below.refl _ _).drew
  have KW : Hid (Bx W w.heap.size zeroT (.slice none 0 0)) := K2.keeps hbW
  have HA : Hid _ := hA W hbW
  have HB : Hid _ := hB W hbW
  have HKW : Hid (∀ W', (∀ a u, a.block ≠ h → W.cell? a = some u → W'.cell? a = some u) → (∀ a, W'.frozen? a = W.frozen? a) → Bx W' w.heap.size zeroT (.slice none 0 0) ∧ Bx W' w2.heap.size y (.slice va y.items.length vc)) := fun W' h1 h2 =>
    ⟨⟨h1 _ _ (by show w.heap.size ≠ h; omega) KW.out.c0, h1 _ _ (by show w.heap.size ≠ h; omega) KW.out.c1, h1 _ _ (by show w.heap.size ≠ h; omega) KW.out.c2, h1 _ _ (by show w.heap.size ≠ h; omega) KW.out.c3, (h2 _).trans KW.out.f0, (h2 _).trans KW.out.f1, (h2 _).trans KW.out.f2, (h2 _).trans KW.out.f3⟩,
     ⟨h1 _ _ (by show w2.heap.size ≠ h; omega) BL.out.c0, h1 _ _ (by show w2.heap.size ≠ h; omega) BL.out.c1, h1 _ _ (by show w2.heap.size ≠ h; omega) BL.out.c2, h1 _ _ (by show w2.heap.size ≠ h; omega) BL.out.c3, (h2 _).trans BL.out.f0, (h2 _).trans BL.out.f1, (h2 _).trans BL.out.f2, (h2 _).trans BL.out.f3⟩⟩
  obtain ⟨y0, y1, y2, y3, z0, z1, z2, z3⟩ := KW.out
  obtain ⟨x0, x1, x2, x3, _, _, _, _⟩ := BL.out
  have hne1 : ¬ (w.heap.size = w2.heap.size) := by omega
  have hne2 : ¬ (w2.heap.size = w.heap.size) := by omega
  rw [hW] at HA HB HKW y0 y1 y2 y3 z0 z1 z2 z3 x0 x1 x2 x3
  simp only [encP, World.setCells, Nat.zero_add, Nat.reduceAdd] at HA HB
  clear hA hB hp HP HTl K2 BL KW hW hbW HwZ
  go_wp2_with fail
  go_region_with (first
      | (go_at_call 95; refine Calls.mono HB.out ?_; rintro e W' ⟨rfl, hbx, hq⟩; have HE : Hid _ := hq; have HBx : Hid _ := hbx; clear hq hbx)
      | (go_at_call 95; refine Calls.mono HA.out ?_; rintro e W' ⟨rfl, hc9, hf9, hq⟩; have HE : Hid _ := hq; obtain ⟨hk9, hl9⟩ := HKW.out W' hc9 hf9; have HBx : Hid _ := hk9.put (y, .slice va y.items.length vc); obtain ⟨y0, y1, y2, y3, z0, z1, z2, z3⟩ := hk9; obtain ⟨x0, x1, x2, x3, _, _, _, _⟩ := hl9; clear hq hc9 hf9))
  all_goals
    try (go_wp2_with fail)
    refine bodyPost_ret (v := .tuple #[.agg #[.int .i64 y.kind, .int .i64 y.num, .string y.text, .slice va y.items.length vc], .int .i64 (kk : Int)]) ?_ rfl HE.out
    obtain ⟨q0, q1, q2, q3, _, _, _, _⟩ := HBx.out
    try simp only [encP, World.setCells, Nat.zero_add, Nat.reduceAdd] at q0 q1 q2 q3
    simp [results, Tryz.results46, go_sem, q0, q1, q2, q3]

/-- What Nth of an open transient tells. -/
def TNth (l : List VT) (i : Int) (w : World) (e : Ending) (w' : World) : Prop :=
  ∃ (y : VT) (va : Option Addr) (vc kk : Nat), e = .returned (.tuple #[.agg #[.int .i64 y.kind, .int .i64 y.num, .string y.text, .slice va y.items.length vc], .int .i64 (kk : Int)]) ∧ Below w.heap.size w w' ∧ Lies 16 w' y.items (.slice va y.items.length vc) ∧
    (((0 ≤ i ∧ i < (l.length : Int)) ∧ kk = 0 ∧ l[i.toNat]? = some y) ∨ (¬ (0 ≤ i ∧ i < (l.length : Int)) ∧ kk = 5 ∧ y = zeroT))

theorem vnth_both (l : List VT) (p : Value) (i : Int) (w : World) (h : VV w l p) : Calls Tryz.prog 99 #[p, .int .i64 i] w fun e w' => ∃ (y : VT) (va : Option Addr) (vc kk : Nat), e = .returned (.tuple #[.agg #[.int .i64 y.kind, .int .i64 y.num, .string y.text, .slice va y.items.length vc], .int .i64 (kk : Int)]) ∧ Below w.heap.size w w' ∧ LiesB w.heap.size 16 w' y.items (.slice va y.items.length vc) ∧
    (((0 ≤ i ∧ i < (l.length : Int)) ∧ kk = 0 ∧ l[i.toNat]? = some y) ∨ (¬ (0 ≤ i ∧ i < (l.length : Int)) ∧ kk = 5 ∧ y = zeroT)) := by
  by_cases hs : 0 ≤ i ∧ i < (l.length : Int)
  · obtain ⟨I, rfl⟩ := Int.eq_ofNat_of_zero_le hs.1
    have hI : I < l.length := by have := hs.2; omega
    refine Calls.mono (vnth_some l p I l[I] w h.vc (List.getElem?_eq_getElem hI) (List.all_eq_true.1 h.right _ (List.getElem_mem hI)) (by have := h.len; omega)) ?_
    rintro e w' ⟨hb, u, rfl, hu⟩
    obtain ⟨va, vc, rfl, _⟩ := LiesB.slice hu
    exact ⟨l[I], va, vc, 0, rfl, hb, hu, .inl ⟨hs, rfl, by rw [Int.toNat_natCast]; exact List.getElem?_eq_getElem hI⟩⟩
  · refine Calls.mono (vnth_none l p i w h.vc hs) ?_
    rintro e w' ⟨hb, he⟩
    have he' : e = _ := he
    subst he'
    exact ⟨zeroT, none, 0, 5, rfl, hb, zero_liesB _ _, .inr ⟨hs, rfl, rfl⟩⟩

set_option maxRecDepth 100000 in
set_option maxHeartbeats 16000000 in
theorem tnth_any (l : List VT) (b h v : Nat) (i : Int) (w : World) (t : TV w l b h v) : Calls Tryz.prog 48 #[.pointer (some ⟨b, 0, none⟩), .int .i64 i] w (TNth l i w) := by
  obtain ⟨wz, hwz⟩ : ∃ wz, wz = w.alloc (.cells #[.int .i64 0, .int .i64 0, .string ⟨#[]⟩, .slice none 0 0] 34) := ⟨_, rfl⟩
  have hbz : Below w.heap.size w wz := by rw [hwz]; exact ((Grew.refl w).alloc _).below
  have tz := t.keeps hbz
  have HO : Hid _ := open_any l b h v wz tz
  have hsz : wz.heap.size = w.heap.size + 1 := by rw [hwz]; simp
  have KZ : Hid (Bx wz w.heap.size zeroT (.slice none 0 0)) := by rw [hwz]; exact bx_alloc w zeroT _
  have HN : Hid _ := vnth_both l _ i wz tz.vv
  have h1 := tz.bx.cell
  obtain ⟨Q, hQ⟩ : ∃ Q, Q = TNth l i w := ⟨_, rfl⟩
  rw [← hQ]
  have HQ : Hid (Q = TNth l i w) := hQ
  have HwZ : Hid (wz = w.alloc (.cells #[.int .i64 0, .int .i64 0, .string ⟨#[]⟩, .slice none 0 0] 34)) := hwz
  rw [hwz] at HO HN h1
  clear t tz hQ hwz
  go_enter Tryz.func48, Tryz.ntmps48
  go_wp2_with fail
  refine Calls.mono HO.out ?_
  rintro e w1 ⟨rfl, rfl⟩
  clear HO
  go_wp2_with fail
  refine Calls.mono HN.out ?_
  rintro e w2 ⟨y, va, vc, kk, rfl, hb2, hLB, hcase⟩
  rw [← HwZ.out] at hb2 hLB
  have K2 : Hid (Bx w2 w.heap.size zeroT (.slice none 0 0)) := KZ.out.keeps hb2
  have hbw2 : Below w.heap.size w w2 := hbz.trans (hb2.mono hbz.size)
  have HE : Hid (Q (.returned (.tuple #[.agg #[.int .i64 y.kind, .int .i64 y.num, .string y.text, .slice va y.items.length vc], .int .i64 (kk : Int)])) (w2.setCells w.heap.size 0 (encP (y, .slice va y.items.length vc)))) := by
    show Q _ _
    rw [HQ.out]
    refine ⟨y, va, vc, kk, rfl, below_put hbw2 (Nat.le_refl _) _, ?_, hcase⟩
    exact LiesB.lies _ _ _ (LiesB.stays (base := wz.heap.size) (fun a u ha hu => ⟨by rw [World.cell?_setCells_out _ _ 0 w2 a (fun e _ => by omega)]; exact hu, World.frozen?_setCells ..⟩) _ _ _ hLB)
  have HBx : Hid _ := K2.out.put (y, .slice va y.items.length vc)
  obtain ⟨y0, y1, y2, y3, z0, z1, z2, z3⟩ := K2.out
  clear HN KZ hcase hLB hb2 hbw2 HQ K2 hbz
  go_wp2_with fail
  refine bodyPost_ret (v := .tuple #[.agg #[.int .i64 y.kind, .int .i64 y.num, .string y.text, .slice va y.items.length vc], .int .i64 (kk : Int)]) ?_ rfl HE.out
  obtain ⟨q0, q1, q2, q3, _, _, _, _⟩ := HBx.out
  simp only [encP, World.setCells, Nat.zero_add, Nat.reduceAdd] at q0 q1 q2 q3
  simp [results, Tryz.results48, go_sem, q0, q1, q2, q3]

end Go.Proofs.YtekoaiehhjgfiaaGreat

namespace Go.Proofs.YtekoaiehhjgfiaaGreat
open Go.RowKit

/-- What a step leaves: the transient and the list have the same items. -/
def StepPost (b h : Nat) (w : World) (e : Ending) (w' : World) : Prop :=
  ∃ (M : List VT) (v2 : Nat) (a1 : Option Addr) (n1 c1 : Nat), e = .returned (.tuple #[.slice a1 n1 c1, .bool true]) ∧ KB h w w' ∧ TV w' M b h v2 ∧ n1 = M.length ∧ Lies 17 w' M (.slice a1 n1 c1)

/-- A change of the transient, and the document's beside it. -/
theorem pairT {g : Nat} {ys : Array Value} {R : List VT ⊕ Nat} {L : List VT} {b h v : Nat} {W0 w2 : World} {e : Ending} (hm : MvX R L b h v W0 e w2) (hg : ∀ W, KB h W0 W → Calls Tryz.prog g ys W (LstPost R W)) :
    ∃ kk : Nat, e = .returned (.int .i64 (kk : Int)) ∧ KB h W0 w2 ∧ Calls Tryz.prog g ys w2 fun e w3 => ∃ (a1 : Option Addr) (n1 c1 : Nat), e = .returned (.tuple #[.slice a1 n1 c1, .int .i64 (kk : Int)]) ∧ KB h W0 w3 ∧
      ((kk = 0 ∧ ∃ M v2, TV w3 M b h v2 ∧ n1 = M.length ∧ Lies 17 w3 M (.slice a1 n1 c1)) ∨ (kk ≠ 0 ∧ TV w3 L b h v)) := by
  obtain ⟨kk, rfl, hkb, hc⟩ := hm
  refine ⟨kk, rfl, hkb, Calls.mono (hg w2 hkb) ?_⟩
  rintro e w3 ⟨hb3, hp⟩
  have hk3 : KB h W0 w3 := hkb.trans (KB.of_below hb3)
  rcases hc with ⟨rfl, m, v2, rfl, tv⟩ | ⟨hk, rfl, tv⟩
  · obtain ⟨a1, c1, rfl, hl⟩ := hp
    exact ⟨a1, _, c1, rfl, hk3, .inl ⟨rfl, m, v2, tv.keeps hb3, rfl, hl⟩⟩
  · have he : e = _ := hp
    subst he
    exact ⟨none, 0, 0, rfl, hk3, .inr ⟨hk, tv.keeps hb3⟩⟩

theorem Sx.kb {W W' : World} {h n : Nat} {k t : Int} {x : VT} {u : Value} (s : Sx W n k t x u) (hk : KB h W W') (hn : n ≠ h) : Sx W' n k t x u :=
  ⟨hk.cell hn s.c0, hk.cell hn s.c1, hk.cell hn s.c2, hk.cell hn s.c3, hk.cell hn s.c4, hk.cell hn s.c5⟩

set_option maxRecDepth 100000 in
set_option maxHeartbeats 32000000 in
theorem step_any (n : Nat) (L : List VT) (b h v : Nat) (al : Option Addr) (N cl : Nat) (k t : Int) (x : VT) (sx : Option Addr) (tx : Nat) (w : World) (tv : TV w L b h v) (hl : Lies 17 w L (.slice al N cl)) (hN : N = L.length) (hx : Lies n w x.items (.slice sx x.items.length tx)) (hxt : x.text.size ≤ 9223372036854775807) :
    Calls Tryz.prog 10 #[.pointer (some ⟨b, 0, none⟩), .slice al N cl, .agg #[.int .i64 k, .int .i64 t, .int .i64 x.kind, .int .i64 x.num, .string x.text, .slice sx x.items.length tx]] w (StepPost b h w) := by
  obtain ⟨Q, hQ⟩ : ∃ Q, Q = StepPost b h w := ⟨_, rfl⟩
  obtain ⟨W0, hW0⟩ : ∃ W0, W0 = w.alloc (.cells #[.int .i64 k, .int .i64 t, .int .i64 x.kind, .int .i64 x.num, .string x.text, .slice sx x.items.length tx] 36) := ⟨_, rfl⟩
  have hr0 : Below w.heap.size w W0 := by rw [hW0]; exact ((Grew.refl w).alloc _).below
  have B0 : Hid (Sx W0 w.heap.size k t x (.slice sx x.items.length tx)) := by rw [hW0]; exact sx_alloc _ _ _ _ _ _
  have hhlt : h < w.heap.size := tv.bx.lt
  have hRh : w.heap.size ≠ h := by omega
  have tv0 := tv.keeps hr0
  have hl0 : Lies 17 W0 L (.slice al N cl) := Lies.keeps hr0 _ _ _ hl
  have hx0 : Lies n W0 x.items (.slice sx x.items.length tx) := Lies.keeps hr0 _ _ _ hx
  have HW0 : Hid (W0 = w.alloc (.cells #[.int .i64 k, .int .i64 t, .int .i64 x.kind, .int .i64 x.num, .string x.text, .slice sx x.items.length tx] 36)) := hW0
  have hlen : L.length ≤ 65536 := tv.vv.len
  have HNp : Hid (∀ W, KB h W0 W → KeepsNP W0 W) := fun W hW => hW.np tv0.bx
  -- what is left in the end
  have HEnd : Hid (∀ W, KB h W0 W → ∀ M v2 a1 n1 c1, TV W M b h v2 → n1 = M.length → Lies 17 W M (.slice a1 n1 c1) → Q (.returned (.tuple #[.slice a1 n1 c1, .bool true])) W) := fun W hW M v2 a1 n1 c1 h1 h2 h3 => by
    rw [hQ]
    exact ⟨M, v2, a1, n1, c1, rfl, (KB.of_below hr0).trans hW, h1, h2, h3⟩
  have HOld : Hid (∀ W, KB h W0 W → Lies 17 W L (.slice al N cl)) := fun W hW => Lies.np (HNp.out W hW) _ _ _ hl0
  have HN : Hid (N = L.length) := hN
  rw [← hQ]
  clear hW0 hQ
  by_cases hk0 : k = 0
  · subst hk0
    have HP : Hid (Calls Tryz.prog 41 #[.pointer (some ⟨b, 0, none⟩), .int .i64 t, .agg #[.int .i64 x.kind, .int .i64 x.num, .string x.text, .slice sx x.items.length tx]] W0 fun e w2 => ∃ kk : Nat, e = .returned (.int .i64 (kk : Int)) ∧ KB h W0 w2 ∧ Calls Tryz.prog 44 #[.slice al N cl, .int .i64 t, .agg #[.int .i64 x.kind, .int .i64 x.num, .string x.text, .slice sx x.items.length tx]] w2 fun e w3 => ∃ (a1 : Option Addr) (n1 c1 : Nat), e = .returned (.tuple #[.slice a1 n1 c1, .int .i64 (kk : Int)]) ∧ KB h W0 w3 ∧
      ((kk = 0 ∧ ∃ M v2, TV w3 M b h v2 ∧ n1 = M.length ∧ Lies 17 w3 M (.slice a1 n1 c1)) ∨ (kk ≠ 0 ∧ TV w3 L b h v))) :=
      Calls.mono (tset_x n L b h v t x sx tx W0 tv0 hx0 hxt) (fun e w2 hm => pairT hm (fun W hW => by
        have h9 := HOld.out W hW
        rw [HN.out] at h9 ⊢
        exact rset_any n L al cl t x sx tx W h9 hlen (Lies.np (HNp.out W hW) _ _ _ hx0) hxt))
    rw [HW0.out] at HP
    clear tv hl hN hx hxt tv0 hl0 hx0 hlen HNp hr0
    go_enter Tryz.func10, Tryz.ntmps10
    go_wp2_with fail
    refine Calls.mono HP.out ?_
    rintro e w2 ⟨kk, rfl, hkb, hrf⟩
    rw [← HW0.out] at hkb hrf
    have HRf : Hid _ := hrf
    obtain ⟨x0, x1, x2, x3, x4, x5⟩ := B0.out.kb hkb hRh
    clear HP hrf
    go_wp2_with fail
    refine Calls.mono HRf.out ?_
    rintro e w3 ⟨a1, n1, c1, rfl, hk3, hc⟩
    clear HRf x0 x1 x2 x3 x4 x5 hkb
    rcases hc with ⟨rfl, M, v2, tv3, hn1, hl3⟩ | ⟨hk, tv3⟩
    · have HE : Hid _ := HEnd.out w3 hk3 M v2 a1 n1 c1 tv3 hn1 hl3
      clear tv3 hn1 hl3 hk3 HEnd HOld B0
      go_wp2_with fail
      first
        | exact HE.out
        | (go_ret2; exact HE.out)
    · have hkz : ¬ ((kk : Nat) : Int) = 0 := by omega
      have HE : Hid _ := HEnd.out w3 hk3 L v al N cl tv3 HN.out (HOld.out w3 hk3)
      clear tv3 hk3 HEnd HOld B0 hk
      go_wp2_with fail
      first
        | exact HE.out
        | (go_ret2; exact HE.out)
  · by_cases hk1 : k = 1
    · subst hk1
      have HP : Hid (Calls Tryz.prog 39 #[.pointer (some ⟨b, 0, none⟩), .agg #[.int .i64 x.kind, .int .i64 x.num, .string x.text, .slice sx x.items.length tx]] W0 fun e w2 => ∃ kk : Nat, e = .returned (.int .i64 (kk : Int)) ∧ KB h W0 w2 ∧ Calls Tryz.prog 45 #[.slice al N cl, .agg #[.int .i64 x.kind, .int .i64 x.num, .string x.text, .slice sx x.items.length tx]] w2 fun e w3 => ∃ (a1 : Option Addr) (n1 c1 : Nat), e = .returned (.tuple #[.slice a1 n1 c1, .int .i64 (kk : Int)]) ∧ KB h W0 w3 ∧
        ((kk = 0 ∧ ∃ M v2, TV w3 M b h v2 ∧ n1 = M.length ∧ Lies 17 w3 M (.slice a1 n1 c1)) ∨ (kk ≠ 0 ∧ TV w3 L b h v))) :=
        Calls.mono (tpush_x n L b h v x sx tx W0 tv0 hx0 hxt) (fun e w2 hm => pairT hm (fun W hW => by
          have h9 := HOld.out W hW
          rw [HN.out] at h9 ⊢
          exact rpush_any n L al cl x sx tx W h9 hlen (Lies.np (HNp.out W hW) _ _ _ hx0) hxt))
      rw [HW0.out] at HP
      clear tv hl hN hx hxt tv0 hl0 hx0 hlen HNp hr0
      go_enter Tryz.func10, Tryz.ntmps10
      go_wp2_with fail
      refine Calls.mono HP.out ?_
      rintro e w2 ⟨kk, rfl, hkb, hrf⟩
      rw [← HW0.out] at hkb hrf
      have HRf : Hid _ := hrf
      obtain ⟨x0, x1, x2, x3, x4, x5⟩ := B0.out.kb hkb hRh
      clear HP hrf
      go_wp2_with fail
      refine Calls.mono HRf.out ?_
      rintro e w3 ⟨a1, n1, c1, rfl, hk3, hc⟩
      clear HRf x0 x1 x2 x3 x4 x5 hkb
      rcases hc with ⟨rfl, M, v2, tv3, hn1, hl3⟩ | ⟨hk, tv3⟩
      · have HE : Hid _ := HEnd.out w3 hk3 M v2 a1 n1 c1 tv3 hn1 hl3
        clear tv3 hn1 hl3 hk3 HEnd HOld B0
        go_wp2_with fail
        first
          | exact HE.out
          | (go_ret2; exact HE.out)
      · have hkz : ¬ ((kk : Nat) : Int) = 0 := by omega
        have HE : Hid _ := HEnd.out w3 hk3 L v al N cl tv3 HN.out (HOld.out w3 hk3)
        clear tv3 hk3 HEnd HOld B0 hk
        go_wp2_with fail
        first
          | exact HE.out
          | (go_ret2; exact HE.out)
    · by_cases hk2 : k = 2
      · subst hk2
        have HP : Hid _ := tpop_any L b h v W0 tv0
        rw [HW0.out] at HP
        clear tv hl hN hx hxt tv0 hl0 hx0 HNp hr0 hk0 hk1
        go_enter Tryz.func10, Tryz.ntmps10
        go_wp2_with fail
        refine Calls.mono HP.out ?_
        rintro e w2 ⟨y, va, vc, kk, rfl, hkb, hly, hc⟩
        rw [← HW0.out] at hkb
        obtain ⟨W2, hW2⟩ : ∃ W2, W2 = (w2.alloc (.cells #[.int .i64 y.kind, .int .i64 y.num, .string y.text, .slice va y.items.length vc] 34)).alloc (.cells #[.int .i64 0, .int .i64 0, .string ⟨#[]⟩, .slice none 0 0] 34) := ⟨_, rfl⟩
        have hb22 : Below w2.heap.size w2 W2 := by rw [hW2]; exact (((Grew.refl w2).alloc _).alloc _).below
        have BP : Hid (Bx W2 w2.heap.size y (.slice va y.items.length vc)) := by rw [hW2]; exact (bx_alloc w2 y _).keeps ((Grew.refl _).alloc _).below
        have BQ : Hid (Bx W2 (w2.heap.size + 1) zeroT (.slice none 0 0)) := by
          have h9 := bx_alloc (w2.alloc (.cells #[.int .i64 y.kind, .int .i64 y.num, .string y.text, .slice va y.items.length vc] 34)) zeroT (.slice none 0 0)
          rw [World.size_alloc] at h9
          rw [hW2]
          exact h9
        have hL2 := HOld.out w2 hkb
        have HRp : Hid (Calls Tryz.prog 47 #[.slice al N cl] W2 fun e w3 => Below W2.heap.size W2 w3 ∧ ∃ (a1 : Option Addr) (n1 c1 : Nat) (ua : Option Addr) (uc : Nat), e = .returned (.tuple #[.slice a1 n1 c1, .agg #[.int .i64 y.kind, .int .i64 y.num, .string y.text, .slice ua y.items.length uc], .int .i64 (kk : Int)]) ∧ Lies 16 w2 y.items (.slice ua y.items.length uc) ∧ ((kk = 0 ∧ ∃ M v2, TV w2 M b h v2 ∧ n1 = M.length ∧ Lies 17 w2 M (.slice a1 n1 c1)) ∨ (kk ≠ 0 ∧ TV w2 L b h v))) := by
          have h9 := hL2
          rw [HN.out] at h9 ⊢
          refine Calls.mono (rpop_any L al cl w2 W2 h9 hb22 hlen) ?_
          rintro e w3 ⟨hb3, hp3⟩
          refine ⟨hb3, ?_⟩
          rcases hc with ⟨rfl, hL0, rfl, tv2⟩ | ⟨rfl, m, v2, hLm, tv2⟩
          · rcases hp3 with ⟨_, rfl⟩ | ⟨m, x, _, _, _, hMx, _⟩
            · exact ⟨none, 0, 0, none, 0, rfl, LiesB.lies _ _ _ (zero_liesB 0 _), .inr ⟨by omega, tv2⟩⟩
            · rw [hL0] at hMx
              exact absurd (congrArg List.length hMx) (by simp)
          · rcases hp3 with ⟨hL0, _⟩ | ⟨m', x', a1, n1, u, hMx, hn1, rfl, hlm, hlx⟩
            · rw [hL0] at hLm
              exact absurd (congrArg List.length hLm) (by simp)
            · rw [hLm] at hMx
              obtain ⟨rfl, hxx⟩ := List.append_inj' hMx rfl
              injection hxx with hxx _
              subst hxx
              obtain ⟨ua, uc, rfl, _⟩ := Lies.slice hlx
              exact ⟨a1, n1, n1, ua, uc, rfl, hlx, .inl ⟨rfl, m, v2, tv2, hn1, hlm⟩⟩
        have HW2 : Hid (W2 = (w2.alloc (.cells #[.int .i64 y.kind, .int .i64 y.num, .string y.text, .slice va y.items.length vc] 34)).alloc (.cells #[.int .i64 0, .int .i64 0, .string ⟨#[]⟩, .slice none 0 0] 34)) := hW2
        have Hly : Hid (Lies 16 w2 y.items (.slice va y.items.length vc)) := hly
        rw [hW2] at HRp
        clear HP hW2 hc hly hL2 hlen B0
        go_wp2_with fail
        refine Calls.mono HRp.out ?_
        rintro e w3 ⟨hb3, a1, n1, c1, ua, uc, rfl, hlu, hcase⟩
        rw [← HW2.out] at hb3
        have BP3 : Hid (Bx w3 w2.heap.size y (.slice va y.items.length vc)) := BP.out.keeps hb3
        have BQ3 : Hid (Bx w3 (w2.heap.size + 1) zeroT (.slice none 0 0)) := BQ.out.keeps hb3
        have hb23 : Below w2.heap.size w2 w3 := hb22.trans (hb3.mono hb22.size)
        obtain ⟨w4, hw4⟩ : ∃ w4, w4 = w3.setCells (w2.heap.size + 1) 0 (encP (y, .slice ua y.items.length uc)) := ⟨_, rfl⟩
        have hb24 : Below w2.heap.size w2 w4 := by rw [hw4]; exact below_setCellsB _ _ (by omega) _ _ _ _ hb23
        have HSm : Hid (Calls Tryz.prog 23 #[.agg #[.int .i64 y.kind, .int .i64 y.num, .string y.text, .slice va y.items.length vc], .agg #[.int .i64 y.kind, .int .i64 y.num, .string y.text, .slice ua y.items.length uc]] w4 fun e W' => e = .returned (.bool true) ∧ Below w4.heap.size w4 W') := (same_any 16 y y _ _ w4 (Lies.keeps hb24 _ _ _ Hly.out) (Lies.keeps hb24 _ _ _ hlu)).mono fun e W' h => ⟨by rw [h.1, sameV_self], h.2.below⟩
        have HW4 : Hid (w4 = w3.setCells (w2.heap.size + 1) 0 [.int .i64 y.kind, .int .i64 y.num, .string y.text, .slice ua y.items.length uc]) := hw4
        obtain ⟨r0, r1, r2, r3, s0, s1, s2, s3⟩ := BQ3.out
        obtain ⟨u0, u1, u2, u3, _, _, _, _⟩ := BP3.out
        rw [hw4] at HSm
        simp only [encP, World.setCells, Nat.zero_add, Nat.reduceAdd] at HSm
        have hne1 : ¬ (w2.heap.size = w2.heap.size + 1) := by omega
        have hne2 : ¬ (w2.heap.size + 1 = w2.heap.size) := by omega
        clear hw4 hb3 HRp BP BQ hb22 hb23 hlu
        go_wp2_with fail
        refine Calls.mono HSm.out ?_
        rintro e w5 ⟨rfl, hb5⟩
        have hb45 : Below w4.heap.size w4 w5 := by
          have h9 := HW4.out
          simp only [World.setCells, Nat.zero_add, Nat.reduceAdd] at h9
          rw [← h9] at hb5
          exact hb5
        have hb25 : Below w2.heap.size w2 w5 := hb24.trans (hb45.mono hb24.size)
        have hk5 : KB h W0 w5 := hkb.trans (KB.of_below hb25)
        clear HSm hb5 hb45 hb24 HW4 r0 r1 r2 r3 s0 s1 s2 s3 u0 u1 u2 u3 hne1 hne2 BP3 BQ3 Hly hkb HW2
        rcases hcase with ⟨rfl, M, v2, tv3, hn1, hl3⟩ | ⟨hk, tv3⟩
        · have HE : Hid _ := HEnd.out w5 hk5 M v2 a1 n1 c1 (tv3.keeps hb25) hn1 (Lies.keeps hb25 _ _ _ hl3)
          clear tv3 hn1 hl3 hk5 HEnd HOld hb25
          go_wp2_with fail
          first
            | exact HE.out
            | (go_ret2; exact HE.out)
        · have hkz : ¬ ((kk : Nat) : Int) = 0 := by omega
          have HE : Hid _ := HEnd.out w5 hk5 L v al N cl (tv3.keeps hb25) HN.out (HOld.out w5 hk5)
          clear tv3 hk5 HEnd HOld hk hb25
          go_wp2_with fail
          first
            | exact HE.out
            | (go_ret2; exact HE.out)
      · have HP : Hid _ := tnth_any L b h v t W0 tv0
        have TV0 : Hid (TV W0 L b h v) := tv0
        have HL0 : Hid (Lies 17 W0 L (.slice al N cl)) := hl0
        rw [HW0.out] at HP
        clear tv hl hN hx hxt tv0 hl0 hx0 HNp hr0
        go_enter Tryz.func10, Tryz.ntmps10
        go_wp2_with fail
        refine Calls.mono HP.out ?_
        rintro e w2 ⟨y, va, vc, kk, rfl, hb2, hly, hc⟩
        rw [← HW0.out] at hb2
        obtain ⟨W2, hW2⟩ : ∃ W2, W2 = w2.alloc (.cells #[.int .i64 y.kind, .int .i64 y.num, .string y.text, .slice va y.items.length vc] 34) := ⟨_, rfl⟩
        have hb22 : Below w2.heap.size w2 W2 := by rw [hW2]; exact ((Grew.refl w2).alloc _).below
        have hb02 : Below W0.heap.size W0 W2 := hb2.trans (hb22.mono hb2.size)
        have BP : Hid (Bx W2 w2.heap.size y (.slice va y.items.length vc)) := by rw [hW2]; exact bx_alloc w2 y _
        have HRn : Hid (Calls Tryz.prog 49 #[.slice al N cl, .int .i64 t] W2 fun e w3 => Below W2.heap.size W2 w3 ∧ ∃ (ua : Option Addr) (uc : Nat), e = .returned (.tuple #[.agg #[.int .i64 y.kind, .int .i64 y.num, .string y.text, .slice ua y.items.length uc], .int .i64 (kk : Int)]) ∧ Lies 16 W0 y.items (.slice ua y.items.length uc)) := by
          have h9 := HL0.out
          rw [HN.out] at h9 ⊢
          refine Calls.mono (rnth_any L al cl t W0 W2 h9 hb02 hlen) ?_
          rintro e w3 ⟨hb3, hp3⟩
          refine ⟨hb3, ?_⟩
          rcases hc with ⟨hin, rfl, hy⟩ | ⟨hin, rfl, rfl⟩
          · rcases hp3 with ⟨_, x', u, hx', rfl, hlx⟩ | ⟨hn, _⟩
            · rw [hy] at hx'
              injection hx' with hx'
              subst hx'
              obtain ⟨ua, uc, rfl, _⟩ := Lies.slice hlx
              exact ⟨ua, uc, rfl, hlx⟩
            · exact absurd hin hn
          · rcases hp3 with ⟨hn, _⟩ | ⟨_, rfl⟩
            · exact absurd hn hin
            · exact ⟨none, 0, rfl, LiesB.lies _ _ _ (zero_liesB 0 _)⟩
        have HW2 : Hid (W2 = w2.alloc (.cells #[.int .i64 y.kind, .int .i64 y.num, .string y.text, .slice va y.items.length vc] 34)) := hW2
        have Hly : Hid (Lies 16 w2 y.items (.slice va y.items.length vc)) := hly
        obtain ⟨x0, x1, x2, x3, x4, x5⟩ := B0.out.keeps hb02
        rw [hW2] at HRn x0 x1 x2 x3 x4 x5
        clear HP hW2 hc hly hlen
        go_wp2_with fail
        refine Calls.mono HRn.out ?_
        rintro e w3 ⟨hb3, ua, uc, rfl, hlu⟩
        rw [← HW2.out] at hb3
        obtain ⟨W3, hW3⟩ : ∃ W3, W3 = w3.alloc (.cells #[.int .i64 y.kind, .int .i64 y.num, .string y.text, .slice ua y.items.length uc] 34) := ⟨_, rfl⟩
        have hb33 : Below w3.heap.size w3 W3 := by rw [hW3]; exact ((Grew.refl w3).alloc _).below
        have hb23 : Below W2.heap.size W2 W3 := hb3.trans (hb33.mono hb3.size)
        have BP3 : Hid (Bx W3 w2.heap.size y (.slice va y.items.length vc)) := BP.out.keeps hb23
        have BQ3 : Hid (Bx W3 w3.heap.size y (.slice ua y.items.length uc)) := by rw [hW3]; exact bx_alloc w3 y _
        have hb03 : Below W0.heap.size W0 W3 := hb02.trans (hb23.mono hb02.size)
        have hb2w3 : Below w2.heap.size w2 W3 := hb22.trans (hb23.mono hb22.size)
        have HLn : Hid (Calls Tryz.prog 50 #[.pointer (some ⟨b, 0, none⟩)] W3 fun e w' => e = .returned (.tuple #[.int .i64 (N : Int), .int .i64 0]) ∧ Below W3.heap.size W3 w') := by
          rw [HN.out]
          exact tlen_any L b h v W3 (TV0.out.keeps hb03)
        have HW3 : Hid (W3 = w3.alloc (.cells #[.int .i64 y.kind, .int .i64 y.num, .string y.text, .slice ua y.items.length uc] 34)) := hW3
        rw [hW3] at HLn
        clear HRn hW3 hb3 hb33 hb23 BP x0 x1 x2 x3 x4 x5
        go_wp2_with fail
        refine Calls.mono HLn.out ?_
        rintro e w4 ⟨rfl, hb4⟩
        rw [← HW3.out] at hb4
        obtain ⟨u0, u1, u2, u3, _, _, _, _⟩ := BP3.out.keeps hb4
        obtain ⟨r0, r1, r2, r3, _, _, _, _⟩ := BQ3.out.keeps hb4
        have hb04 : Below W0.heap.size W0 w4 := hb03.trans (hb4.mono hb03.size)
        have hb24 : Below w2.heap.size w2 w4 := hb2w3.trans (hb4.mono hb2w3.size)
        have HSm : Hid (Calls Tryz.prog 23 #[.agg #[.int .i64 y.kind, .int .i64 y.num, .string y.text, .slice va y.items.length vc], .agg #[.int .i64 y.kind, .int .i64 y.num, .string y.text, .slice ua y.items.length uc]] w4 fun e W' => e = .returned (.bool true) ∧ Below w4.heap.size w4 W') := (same_any 16 y y _ _ w4 (Lies.keeps hb24 _ _ _ Hly.out) (Lies.keeps hb04 _ _ _ hlu)).mono fun e W' h => ⟨by rw [h.1, sameV_self], h.2.below⟩
        clear HLn hb4 hb03 hb2w3 hlu Hly BP3 BQ3
        go_wp2_with fail
        refine Calls.mono HSm.out ?_
        rintro e w5 ⟨rfl, hb5⟩
        have hb05 : Below W0.heap.size W0 w5 := hb04.trans (hb5.mono hb04.size)
        have HE : Hid _ := HEnd.out w5 (KB.of_below hb05) L v al N cl (TV0.out.keeps hb05) HN.out (Lies.keeps hb05 _ _ _ HL0.out)
        clear HSm hb5 hb04 hb24 u0 u1 u2 u3 r0 r1 r2 r3 HEnd HOld hb05 TV0 HL0 HW2 HW3
        go_wp2_with fail
        first
          | exact HE.out
          | (go_ret2; exact HE.out)

end Go.Proofs.YtekoaiehhjgfiaaGreat

namespace Go.Proofs.YtekoaiehhjgfiaaGreat
open Go.RowKit

/-- A vector's items, held against a list. -/
theorem items_pair (M : List VT) (p : Option Addr) (a : Option Addr) (n c : Nat) (X0 : World) (hV : VV X0 M (.pointer p)) (hL : Lies 17 X0 M (.slice a n c)) : ∀ V, Below X0.heap.size X0 V → Calls Tryz.prog 13 #[.pointer p] V fun e w' => ∃ (ua : Option Addr) (un uc : Nat), e = .returned (.slice ua un uc) ∧ Below V.heap.size V w' ∧ Calls Tryz.prog 12 #[.slice ua un uc, .slice a n c] w' fun e w'' => e = .returned (.bool true) ∧ Below w'.heap.size w' w'' := fun V hV2 => by
  refine Calls.mono (items_any M _ V (hV.vc.keeps hV2) hV.len hV.right) ?_
  rintro e w' ⟨u, rfl, hu, hb⟩
  have hl := LiesB.lies _ _ _ hu
  obtain ⟨ua, uc, rfl, _⟩ := Lies.slice hl
  exact ⟨ua, _, uc, rfl, hb, values_one 16 M _ _ w' hl (Lies.keeps (hV2.trans (hb.mono hV2.size)) _ _ _ hL) hV.len⟩

set_option maxRecDepth 100000 in
set_option maxHeartbeats 4000000 in
theorem tseal_x (l : List VT) (b h v : Nat) (w : World) (t : TV w l b h v) : Calls Tryz.prog 11 #[.pointer (some ⟨b, 0, none⟩)] w fun e w' => e = .returned (.tuple #[.pointer (some ⟨v, 0, none⟩), .int .i64 0]) ∧ KB h w w' ∧ VV w' l (.pointer (some ⟨v, 0, none⟩)) := by
  have HO : Hid _ := open_any l b h v w t
  have hk := KeepsNP.set (y := .pointer none) t.bx
  have HE : Hid (KB h w (w.setCell ⟨h, 0, none⟩ (.pointer none)) ∧ VV (w.setCell ⟨h, 0, none⟩ (.pointer none)) l (.pointer (some ⟨v, 0, none⟩))) := ⟨KB.set _ (Below.refl _ _), t.vv.np hk⟩
  have h1 := t.bx.cell
  have h2 := t.bx.frozen
  clear t hk
  go_enter Tryz.func11, Tryz.ntmps11
  go_wp2_with fail
  refine Calls.mono HO.out ?_
  rintro e w1 ⟨rfl, rfl⟩
  clear HO
  go_wp2_with fail
  go_ret2
  exact ⟨rfl, HE.out⟩

end Go.Proofs.YtekoaiehhjgfiaaGreat

