/-
  Sorted maps: find, of, Dissoc.
-/
import Derived.Test.YtekoaiehhjgfiabGreatAppQ
import Derived.Test.YtekoaiehhjgfiabGreatAtM
import Derived.Test.YtekoaiehhjgfiabGreatCopies
import Derived.Test.YtekoaiehhjgfiabGreatHungM
namespace Go.Proofs.YtekoaiehhjgfiabGreat
open Go.RowKit Go.Shelf

/-- Whatever block. -/
abbrev TT : Nat → Prop := fun _ => True

/-- A sorted map in memory: its order, its tree. -/
structure MC (w : World) (q : Nat) (t : RT PT) (b : Nat) : Prop where
  ord : w.cell? ⟨b, 0, none⟩ = some (.int .i64 (q : Int))
  top : ∃ p, w.cell? ⟨b, 1, none⟩ = some (.pointer p) ∧ NM TT 16 w t p
  well : RT.Well t
  black : t.isRed = false
  q6 : q < 6
  right : ∀ x ∈ t.items, Good 16 x.1 ∧ Good 16 x.2
  rises : RT.Rises (byK q) t.items
  size : t.size ≤ 65536

theorem MC.keeps {w w' : World} {q : Nat} {t : RT PT} {b : Nat} (h : MC w q t b) (hb : Below w.heap.size w w') : MC w' q t b := by
  obtain ⟨p, hp, hn⟩ := h.top
  exact ⟨cell_keeps hb h.ord, ⟨p, cell_keeps hb hp, hn.keeps hb⟩, h.well, h.black, h.q6, h.right, h.rises, h.size⟩

set_option maxRecDepth 100000 in
theorem own_14 (b : Addr) (w : World) : Calls Tryz.prog 44 #[.pointer (some b)] w fun e w' => e = .returned (.pointer (some b)) ∧ w' = w := by
  go_enter Tryz.func44, Tryz.ntmps44
  go_wp2_with fail
  go_ret
  exact ⟨rfl, rfl⟩

theorem field_size14 (s h k : Int) (W : World) : (Instr.field 96 (.agg #[.int .i64 s, .int .i64 h, .int .i64 k]) 0).run Tryz.prog W = .ok (.int .i64 s) W := by
  kernel_rfl

set_option maxRecDepth 100000 in
set_option maxHeartbeats 4000000 in
theorem mlen_14 {w : World} {q : Nat} {t : RT PT} {b : Nat} (h : MC w q t b) : Calls Tryz.prog 30 #[.pointer (some ⟨b, 0, none⟩)] w fun e w' => e = .returned (.int .i64 (t.size : Nat)) ∧ Below w.heap.size w w' := by
  obtain ⟨p, hp, hn⟩ := h.top
  have HM : Hid _ := measured_14 hn
  have hf1 : ∀ W : World, (Instr.field 96 (.agg #[.int .i64 t.size, .int .i64 t.high, .int .i64 t.blacks]) 0).run Tryz.prog W = .ok (.int .i64 (t.size : Nat)) W := fun W => field_size14 _ _ _ W
  clear hn
  go_enter Tryz.func30, Tryz.ntmps30
  go_wp2_with fail
  refine (own_14 _ _).mono ?_
  rintro e w1 ⟨rfl, rfl⟩
  go_wp2_with fail
  refine Calls.mono HM.out ?_
  rintro e w2 ⟨hb, rfl⟩
  go_wp2_with fail
  go_ret
  exact ⟨rfl, hb⟩

theorem field_high14 (s h k : Int) (W : World) : (Instr.field 96 (.agg #[.int .i64 s, .int .i64 h, .int .i64 k]) 1).run Tryz.prog W = .ok (.int .i64 h) W := by
  kernel_rfl

set_option maxRecDepth 100000 in
set_option maxHeartbeats 4000000 in
theorem mheight_14 {w : World} {q : Nat} {t : RT PT} {b : Nat} (h : MC w q t b) : Calls Tryz.prog 18 #[.pointer (some ⟨b, 0, none⟩)] w fun e w' => e = .returned (.int .i64 (t.high : Nat)) ∧ Below w.heap.size w w' := by
  obtain ⟨p, hp, hn⟩ := h.top
  have HM : Hid _ := measured_14 hn
  have hf1 : ∀ W : World, (Instr.field 96 (.agg #[.int .i64 t.size, .int .i64 t.high, .int .i64 t.blacks]) 1).run Tryz.prog W = .ok (.int .i64 (t.high : Nat)) W := fun W => field_high14 _ _ _ W
  clear hn
  go_enter Tryz.func18, Tryz.ntmps18
  go_wp2_with fail
  refine (own_14 _ _).mono ?_
  rintro e w1 ⟨rfl, rfl⟩
  go_wp2_with fail
  refine Calls.mono HM.out ?_
  rintro e w2 ⟨hb, rfl⟩
  go_wp2_with fail
  go_ret
  exact ⟨rfl, hb⟩

/-- What kept tells: a row of one's own of the pairs. -/
def KeptQ (l : List PT) (w : World) (e : Ending) (w' : World) : Prop := ∃ v, e = .returned v ∧ (∃ qs : List PP, qs.map trT = l ∧ w'.ownsRow w.heap.size 52 8 v qs.length (qs.flatMap encQ) ∧ ∀ p ∈ qs, GoodQ 16 w p) ∧ Below w.heap.size w w'

set_option maxRecDepth 100000 in
set_option maxHeartbeats 8000000 in
theorem kept_14 {w : World} {q : Nat} {t : RT PT} {b : Nat} (h : MC w q t b) : Calls Tryz.prog 51 #[.pointer (some ⟨b, 0, none⟩)] w (KeptQ t.items w) := by
  obtain ⟨po, hpo, hn⟩ := h.top
  obtain ⟨qs, hq1, hE⟩ := each14 TT 16 w t po hn
  have hq9 : qs.length = t.size := by
    have := congrArg List.length hq1
    rw [List.length_map] at this
    rw [this, ← RT.size_items]
  have hql : qs.length ≤ 65536 := by rw [hq9]; exact h.size
  obtain ⟨i0, hi, hz0, hz1, hz2⟩ := infoQ
  obtain ⟨L, hL⟩ : ∃ L, L = t.size := ⟨_, rfl⟩
  have hL6 : L ≤ 65536 := by rw [hL]; exact h.size
  obtain ⟨M, hM⟩ : ∃ M, M = madeCells (Value.agg #[.int .i64 0, .int .i64 0, .string ⟨#[]⟩, .slice none 0 0, .int .i64 0, .int .i64 0, .string ⟨#[]⟩, .slice none 0 0]).cells (((L : Nat) : Int).toNat * i0.size) := ⟨_, rfl⟩
  have hMs : M.size = L * 8 := by rw [hM, size_madeCells, hz1]; simp
  have hmk : ∀ W : World, (Instr.makeSlice 22 (.int .i64 0) (.int .i64 (L : Int))).run Tryz.prog W = .ok (.slice (some ⟨W.heap.size, 0, none⟩) 0 L) (W.alloc (.cells M 52)) := fun W => by
    have h := run_make (P := Tryz.prog) W 22 52 i0 _ Tryz.underlying22 hi hz0 .i64 .i64 0 (L : Int) (by omega) (by omega) (by rw [hz2]; omega) (by omega)
    rw [← hM] at h
    simpa using h
  have HLen : Hid (∀ V, Below w.heap.size w V → Calls Tryz.prog 30 #[.pointer (some ⟨b, 0, none⟩)] V fun e w' => e = .returned (.int .i64 (L : Int)) ∧ Below V.heap.size V w') := fun V hV => by
    rw [hL]; exact mlen_14 (h.keeps hV)
  have HApp : Hid (∀ (V : World) (g Bp : Nat), Below w.heap.size w V → V.ownsRow w.heap.size 52 8 (.slice (some ⟨g, 0, none⟩) 0 L) 0 [] → Bp < V.heap.size → V.cell? ⟨Bp, 0, none⟩ = some (.pointer po) →
      Calls Tryz.prog 92 #[.slice (some ⟨g, 0, none⟩) 0 L, .func (.func 141) #[] #[.pointer (some ⟨Bp, 0, none⟩)]] V (KeptQ t.items w)) := fun V g Bp hV hrow hlp hp => by
    refine (appendSeq_14 16 w qs hql _ _ V hV hrow (fun W hW => all1_stops 16 w po qs hE 5 Bp W (hV.trans (hW.mono hV.size)) (Nat.lt_of_lt_of_le hlp hW.size) (cell_keeps hW hp))).mono ?_
    rintro e w' ⟨v, rfl, ho, hb⟩
    refine ⟨v, rfl, ⟨qs.map (·.1), by rw [List.map_map]; exact hq1, by rw [List.length_map, List.flatMap_map]; exact ho, fun p hp => ?_⟩, hV.trans hb⟩
    obtain ⟨q, _, rfl⟩ := List.mem_map.1 hp
    exact q.2
  have HMd : Hid (∀ (V : World), Below w.heap.size w V → (V.alloc (.cells M 52)).ownsRow w.heap.size 52 8 (.slice (some ⟨V.heap.size, 0, none⟩) 0 L) 0 []) := fun V hV => World.ownsRow_made V M L hV.size (by unfold maxLen; omega) hMs
  have HA : Hid (∀ V, Below w.heap.size w V → Below w.heap.size w ((V.alloc (.cells M 52)).alloc (.cells #[.pointer po] 70)) ∧ ((V.alloc (.cells M 52)).alloc (.cells #[.pointer po] 70)).ownsRow w.heap.size 52 8 (.slice (some ⟨V.heap.size, 0, none⟩) 0 L) 0 [] ∧ V.heap.size + 1 < ((V.alloc (.cells M 52)).alloc (.cells #[.pointer po] 70)).heap.size ∧ ((V.alloc (.cells M 52)).alloc (.cells #[.pointer po] 70)).cell? ⟨V.heap.size + 1, 0, none⟩ = some (.pointer po)) := fun V hV => by
    refine ⟨(hV.alloc hV.size _).alloc (by simp; have := hV.size; omega) _, (HMd.out _ hV).alloc _, by simp, ?_⟩
    have h1 := (Go.Boxed.new (V.alloc (.cells M 52)) 70 (.pointer po)).cell
    rwa [World.size_alloc] at h1
  have HB : Hid (∀ V, Below w.heap.size w V → Below w.heap.size w ((V.alloc (.cells #[.pointer po] 70)).alloc (.cells M 52)) ∧ ((V.alloc (.cells #[.pointer po] 70)).alloc (.cells M 52)).ownsRow w.heap.size 52 8 (.slice (some ⟨V.heap.size + 1, 0, none⟩) 0 L) 0 [] ∧ V.heap.size < ((V.alloc (.cells #[.pointer po] 70)).alloc (.cells M 52)).heap.size ∧ ((V.alloc (.cells #[.pointer po] 70)).alloc (.cells M 52)).cell? ⟨V.heap.size, 0, none⟩ = some (.pointer po)) := fun V hV => by
    refine ⟨(hV.alloc hV.size _).alloc (by simp; have := hV.size; omega) _, ?_, (by first | (simp; done) | (simp; omega)), ?_⟩
    · have h1 := HMd.out _ (hV.alloc hV.size (.cells #[.pointer po] 70))
      rwa [World.size_alloc] at h1
    · exact ((Go.Boxed.new V 70 (.pointer po)).alloc _).cell
  clear hE hq1 hq9 hql hM hMs hi hz0 hz1 hz2 hL hn h
  have hmL : (0 : Int) ≤ (L : Nat) := by omega
  have Hpo : Hid (w.cell? ⟨b, 1, none⟩ = some (.pointer po)) := hpo
  go_enter Tryz.func51, Tryz.ntmps51
  go_wp2_with fail
  go_region_held3 (fun w' => w'.cell? ⟨b, 1, none⟩ = some (.pointer po)) (go_keep)
    (first
      | (go_at_call 93; refine (all_14 _ _).mono ?_; rintro e w3 ⟨rfl, rfl⟩)
      | (go_at_call 30; refine (HLen.out _ (Below.refl _ _).drew).mono ?_; rintro e w1 ⟨rfl, hb1'⟩; have hb1 : Below w.heap.size w w1 := (Below.refl _ _).drew.trans hb1'; have hpo := cell_keeps hb1 hpo; clear hb1')
      | (go_at_call 44; refine (own_14 _ _).mono ?_; rintro e w3 ⟨rfl, hw⟩; (first | (obtain rfl : w1 = w3 := hw.symm) | subst hw))
      | (go_at_call 92
         refine (HApp.out _ _ _ (by first | exact (HA.out w1 hb1).1 | exact (HB.out w1 hb1).1) (by first | exact (HA.out w1 hb1).2.1 | exact (HB.out w1 hb1).2.1) (by first | exact (HA.out w1 hb1).2.2.1 | exact (HB.out w1 hb1).2.2.1) (by first | exact (HA.out w1 hb1).2.2.2 | exact (HB.out w1 hb1).2.2.2)).mono ?_
         rintro e w4 ⟨v4, rfl, hx⟩
         have HE : Hid (KeptQ t.items w (.returned v4) w4) := ⟨v4, rfl, hx⟩
         have hpo := cell_keeps (show Below w.heap.size w w4 from hx.2) Hpo.out
         clear hx))
  all_goals (first | (go_ret; exact HE.out) | (go_wp2_with fail; go_ret; exact HE.out))

end Go.Proofs.YtekoaiehhjgfiabGreat

namespace Go.Proofs.YtekoaiehhjgfiabGreat
open Go.RowKit Go.Shelf

theorem LiesB.put8 {W : World} {base n : Nat} (hn : n < base) (vs : List Value) {d : Nat} {l : List VT} {v : Value} (h : LiesB base d W l v) : LiesB base d (W.setCells n 0 vs) l v :=
  LiesB.stays (fun _ _ ha hu => ⟨cell_other (g := n) (fun e => by omega) hu, by rw [World.frozen?_setCells]⟩) _ _ _ h

theorem LiesB.keepsB {W W' : World} {base : Nat} (hb : Below W.heap.size W W') {d : Nat} {l : List VT} {v : Value} (h : LiesB base d W l v) : LiesB base d W' l v :=
  LiesB.stays (fun _ _ _ hu => ⟨cell_keeps hb hu, hb.frozen (cell_lt hu)⟩) _ _ _ h

theorem LiesB.lower14 {W : World} {b b' : Nat} (hb : b' ≤ b) : ∀ (d : Nat) (l : List VT) (v : Value), LiesB b d W l v → LiesB b' d W l v
  | 0, _, _, h => h
  | d + 1, l, v, h => by
    obtain ⟨a, c, hv, hc, h1⟩ := h
    refine ⟨a, c, hv, hc, fun hne => ?_⟩
    obtain ⟨g, o, ha, hg, hf, h2⟩ := h1 hne
    refine ⟨g, o, ha, by omega, hf, fun i hi => ?_⟩
    obtain ⟨u, c0, c1, c2, c3, h3, h4⟩ := h2 i hi
    exact ⟨u, c0, c1, c2, c3, LiesB.lower14 hb d _ _ h3, h4⟩

/-- What copied tells. -/
def CopiedPost (x : PT) (w : World) (e : Ending) (w' : World) : Prop := ∃ ku vu, e = .returned (.agg #[.int .i64 x.1.kind, .int .i64 x.1.num, .string x.1.text, ku, .int .i64 x.2.kind, .int .i64 x.2.num, .string x.2.text, vu]) ∧ LiesB w.heap.size 16 w' x.1.items ku ∧ LiesB w.heap.size 16 w' x.2.items vu ∧ Below w.heap.size w w'

set_option maxRecDepth 100000 in
set_option maxHeartbeats 8000000 in
theorem copied_14 (x : PT) (ku vu : Value) (w : World) (hk : Lies 16 w x.1.items ku) (hv : Lies 16 w x.2.items vu) (hr : rightV 16 x.1 = true ∧ rightV 16 x.2 = true) : Calls Tryz.prog 60 #[.agg #[.int .i64 x.1.kind, .int .i64 x.1.num, .string x.1.text, ku, .int .i64 x.2.kind, .int .i64 x.2.num, .string x.2.text, vu]] w (CopiedPost x w) := by
  obtain ⟨ak, ck, rfl, _⟩ := Lies.slice hk
  obtain ⟨av, cv, rfl, _⟩ := Lies.slice hv
  have HK : Hid (∀ V, Below w.heap.size w V → Calls Tryz.prog 84 #[.agg #[.int .i64 x.1.kind, .int .i64 x.1.num, .string x.1.text, .slice ak x.1.items.length ck]] V (CopyPost 16 x.1 V)) := fun V hV => copy_right x.1 _ V (Lies.keeps hV _ _ _ hk) hr.1
  have HV : Hid (∀ V, Below w.heap.size w V → Calls Tryz.prog 84 #[.agg #[.int .i64 x.2.kind, .int .i64 x.2.num, .string x.2.text, .slice av x.2.items.length cv]] V (CopyPost 16 x.2 V)) := fun V hV => copy_right x.2 _ V (Lies.keeps hV _ _ _ hv) hr.2
  clear hk hv hr
  go_enter Tryz.func60, Tryz.ntmps60
  go_wp2_with fail
  obtain ⟨W0, hW0⟩ : ∃ W0, W0 = (w.alloc (.cells #[.int .i64 x.1.kind, .int .i64 x.1.num, .string x.1.text, .slice ak x.1.items.length ck, .int .i64 x.2.kind, .int .i64 x.2.num, .string x.2.text, .slice av x.2.items.length cv] 52)).alloc (.cells #[.int .i64 0, .int .i64 0, .string ⟨#[]⟩, .slice none 0 0, .int .i64 0, .int .i64 0, .string ⟨#[]⟩, .slice none 0 0] 52) := ⟨_, rfl⟩
  rw [← hW0]
  have hb0 : Below w.heap.size w W0 := by rw [hW0]; exact (((Grew.refl w).alloc _).alloc _).below
  have hs0 : W0.heap.size = w.heap.size + 1 + 1 := by rw [hW0]; simp
  have HX0 : Hid (Bx8 W0 w.heap.size (.int .i64 x.1.kind) (.int .i64 x.1.num) (.string x.1.text) (.slice ak x.1.items.length ck) (.int .i64 x.2.kind) (.int .i64 x.2.num) (.string x.2.text) (.slice av x.2.items.length cv)) := by
    rw [hW0]; exact (bx8_alloc w _ _ _ _ _ _ _ _ _).keeps ((Grew.refl _).alloc _).below
  have HZ0 : Hid (Bx8 W0 (w.heap.size + 1) (.int .i64 0) (.int .i64 0) (.string ⟨#[]⟩) (.slice none 0 0) (.int .i64 0) (.int .i64 0) (.string ⟨#[]⟩) (.slice none 0 0)) := by
    rw [hW0]
    have h9 := bx8_alloc (w.alloc (.cells #[.int .i64 x.1.kind, .int .i64 x.1.num, .string x.1.text, .slice ak x.1.items.length ck, .int .i64 x.2.kind, .int .i64 x.2.num, .string x.2.text, .slice av x.2.items.length cv] 52)) 52 (.int .i64 0) (.int .i64 0) (.string ⟨#[]⟩) (.slice none 0 0) (.int .i64 0) (.int .i64 0) (.string ⟨#[]⟩) (.slice none 0 0)
    rwa [World.size_alloc] at h9
  obtain ⟨x0, x1, x2, x3, x4, x5, x6, x7, _⟩ := HX0.out
  have HS0 : Hid (W0.heap.size = w.heap.size + 1 + 1) := hs0
  clear hW0 hs0
  have hbc : Below W0.heap.size W0 W0.drew := (Below.refl _ _).drew
  have hn1 : w.heap.size ≠ w.heap.size + 1 := by omega
  go_region_held3 (fun w' => w'.cell? ⟨w.heap.size, 0, none⟩ = some (.int .i64 x.1.kind) ∧ w'.cell? ⟨w.heap.size, 1, none⟩ = some (.int .i64 x.1.num) ∧ w'.cell? ⟨w.heap.size, 2, none⟩ = some (.string x.1.text) ∧ w'.cell? ⟨w.heap.size, 3, none⟩ = some ((.slice ak x.1.items.length ck)) ∧ w'.cell? ⟨w.heap.size, 4, none⟩ = some (.int .i64 x.2.kind) ∧ w'.cell? ⟨w.heap.size, 5, none⟩ = some (.int .i64 x.2.num) ∧ w'.cell? ⟨w.heap.size, 6, none⟩ = some (.string x.2.text) ∧ w'.cell? ⟨w.heap.size, 7, none⟩ = some ((.slice av x.2.items.length cv))) (first | go_keep | exact ⟨set8_keep hn1 x0, set8_keep hn1 x1, set8_keep hn1 x2, set8_keep hn1 x3, set8_keep hn1 x4, set8_keep hn1 x5, set8_keep hn1 x6, set8_keep hn1 x7⟩)
    (first
      | (go_at_call 84; (with_reducible refine Calls.mono (HK.out _ (hb0.trans (hbc.mono hb0.size))) ?_); rintro e w5 ⟨v5, rfl, hl5, hg⟩; obtain ⟨a5, c5, rfl, _⟩ := LiesB.slice hl5; have HL5 : Hid (LiesB (w.heap.size + 1 + 1) 16 w5 x.1.items (.slice a5 x.1.items.length c5)) := LiesB.lower14 (by have := hbc.size; have := HS0.out; omega) _ _ _ hl5; replace hbc := hbc.trans (hg.mono hbc.size); have x0 := cell_keeps hg x0; have x1 := cell_keeps hg x1; have x2 := cell_keeps hg x2; have x3 := cell_keeps hg x3; have x4 := cell_keeps hg x4; have x5 := cell_keeps hg x5; have x6 := cell_keeps hg x6; have x7 := cell_keeps hg x7; clear hg hl5)
      | (go_at_call 84; (with_reducible refine Calls.mono (HV.out _ (hb0.trans (hbc.mono hb0.size))) ?_); rintro e w6 ⟨v6, rfl, hl6, hg⟩; obtain ⟨a6, c6, rfl, _⟩ := LiesB.slice hl6; have HL6 : Hid (LiesB (w.heap.size + 1 + 1) 16 w6 x.2.items (.slice a6 x.2.items.length c6)) := LiesB.lower14 (by have := hbc.size; have := HS0.out; omega) _ _ _ hl6; have HL5 : Hid (LiesB (w.heap.size + 1 + 1) 16 w6 x.1.items _) := LiesB.keepsB hg HL5.out; replace hbc := hbc.trans (hg.mono hbc.size); have x0 := cell_keeps hg x0; have x1 := cell_keeps hg x1; have x2 := cell_keeps hg x2; have x3 := cell_keeps hg x3; have x4 := cell_keeps hg x4; have x5 := cell_keeps hg x5; have x6 := cell_keeps hg x6; have x7 := cell_keeps hg x7; have HZ6 : Hid (Bx8 w6 (w.heap.size + 1) (.int .i64 0) (.int .i64 0) (.string ⟨#[]⟩) (.slice none 0 0) (.int .i64 0) (.int .i64 0) (.string ⟨#[]⟩) (.slice none 0 0)) := HZ0.out.keeps hbc; obtain ⟨y0, y1, y2, y3, y4, y5, y6, y7, f0, f1, f2, f3, f4, f5, f6, f7, _⟩ := HZ6.out; clear hg hl6))
  have Hq : Hid _ := put8_in HZ6.out (.int .i64 x.1.kind) (.int .i64 x.1.num) (.string x.1.text) (.slice a5 x.1.items.length c5) (.int .i64 x.2.kind) (.int .i64 x.2.num) (.string x.2.text) (.slice a6 x.2.items.length c6)
  have hbz : Below w.heap.size w w6 := hb0.trans (hbc.mono hb0.size)
  have HE : Hid (CopiedPost x w (.returned (.agg #[.int .i64 x.1.kind, .int .i64 x.1.num, .string x.1.text, .slice a5 x.1.items.length c5, .int .i64 x.2.kind, .int .i64 x.2.num, .string x.2.text, .slice a6 x.2.items.length c6])) (w6.setCells (w.heap.size + 1) 0 [.int .i64 x.1.kind, .int .i64 x.1.num, .string x.1.text, .slice a5 x.1.items.length c5, .int .i64 x.2.kind, .int .i64 x.2.num, .string x.2.text, .slice a6 x.2.items.length c6])) := ⟨_, _, rfl, LiesB.lower14 (by omega) _ _ _ (LiesB.put8 (by omega) _ HL5.out), LiesB.lower14 (by omega) _ _ _ (LiesB.put8 (by omega) _ HL6.out), below_put8 hbz (by omega) _ _ _ _ _ _ _ _⟩
  go_wp2_with fail
  refine bodyPost_ret (v := .agg #[.int .i64 x.1.kind, .int .i64 x.1.num, .string x.1.text, .slice a5 x.1.items.length c5, .int .i64 x.2.kind, .int .i64 x.2.num, .string x.2.text, .slice a6 x.2.items.length c6]) ?_ rfl HE.out
  obtain ⟨q0, q1, q2, q3, q4, q5, q6, q7⟩ := Hq.out
  simp only [World.setCells, Nat.zero_add, Nat.reduceAdd] at q0 q1 q2 q3 q4 q5 q6 q7
  simp [results, Tryz.results60, go_sem, q0, q1, q2, q3, q4, q5, q6, q7]

end Go.Proofs.YtekoaiehhjgfiabGreat

namespace Go.Proofs.YtekoaiehhjgfiabGreat
open Go.RowKit Go.Shelf

/-- make of n pairs. -/
theorem make_pairs (n : Nat) (hn : n ≤ 65536) : ∃ M : Array Value, M.size = n * 8 ∧ ∀ W : World, (Instr.makeSlice 22 (.int .i64 (n : Int)) (.int .i64 (n : Int))).run Tryz.prog W = .ok (.slice (some ⟨W.heap.size, 0, none⟩) n n) (W.alloc (.cells M 52)) := by
  obtain ⟨i0, hi, hz0, hz1, hz2⟩ := infoQ
  refine ⟨madeCells (Value.agg #[.int .i64 0, .int .i64 0, .string ⟨#[]⟩, .slice none 0 0, .int .i64 0, .int .i64 0, .string ⟨#[]⟩, .slice none 0 0]).cells (((n : Nat) : Int).toNat * i0.size), ?_, fun W => ?_⟩
  · rw [size_madeCells, hz1]; simp
  · have h := run_make (P := Tryz.prog) W 22 52 i0 _ Tryz.underlying22 hi hz0 .i64 .i64 (n : Int) (n : Int) (by omega) (by omega) (by rw [hz2]; omega) (by omega)
    simpa using h

/-- A pair whose lists lie in new blocks. -/
def NewQ (base : Nat) (w : World) (p : PP) : Prop := (LiesB base 16 w p.1.1.items p.1.2 ∧ p.1.1.text.size ≤ 9223372036854775807) ∧ (LiesB base 16 w p.2.1.items p.2.2 ∧ p.2.1.text.size ≤ 9223372036854775807)

theorem NewQ.keeps {base : Nat} {w w' : World} {p : PP} (h : NewQ base w p) (hb : Below w.heap.size w w') : NewQ base w' p := ⟨⟨LiesB.keepsB hb h.1.1, h.1.2⟩, ⟨LiesB.keepsB hb h.2.1, h.2.2⟩⟩
theorem NewQ.good {base : Nat} {w : World} {p : PP} (h : NewQ base w p) : GoodQ 16 w p := ⟨⟨LiesB.lies _ _ _ h.1.1, h.1.2⟩, ⟨LiesB.lies _ _ _ h.2.1, h.2.2⟩⟩
theorem NewQ.lower {base b' : Nat} {w : World} {p : PP} (h : NewQ base w p) (hb : b' ≤ base) : NewQ b' w p := ⟨⟨LiesB.lower14 hb _ _ _ h.1.1, h.1.2⟩, ⟨LiesB.lower14 hb _ _ _ h.2.1, h.2.2⟩⟩

/-- The pairs so far in block G, the rest of it there to be written. -/
structure CpQ (G n : Nat) (wr : World) (ps : List PP) : Prop where
  row : QAt wr G 0 ps
  lists : ∀ p ∈ ps, NewQ (G + 1) wr p
  there : ∀ k, k < n * 8 → (wr.cell? ⟨G, k, none⟩).isSome ∧ wr.frozen? ⟨G, k, none⟩ = false
  lt : G < wr.heap.size

theorem CpQ.keeps {G n : Nat} {wr wr' : World} {ps : List PP} (h : CpQ G n wr ps) (hb : Below wr.heap.size wr wr') : CpQ G n wr' ps :=
  ⟨h.row.keeps hb, fun p hp => (h.lists p hp).keeps hb, fun k hk => by
    obtain ⟨v, hv⟩ := Option.isSome_iff_exists.1 (h.there k hk).1
    exact ⟨by rw [cell_keeps hb hv]; rfl, (hb.frozen (p := ⟨G, k, none⟩) h.lt).trans (h.there k hk).2⟩, Nat.lt_of_lt_of_le h.lt hb.size⟩

theorem CpQ.put {G n : Nat} {wr : World} {ps : List PP} (h : CpQ G n wr ps) (p : PP) (hp : NewQ (G + 1) wr p) (hl : ps.length < n) : CpQ G n (wr.setCells G (ps.length * 8) (encQ p)) (ps ++ [p]) := by
  have hlen : (encQ p).length = 8 := encQ_len p
  have hin := World.cell?_setCells_in G (encQ p) (ps.length * 8) wr (fun j hj => by
    obtain ⟨v, hv⟩ := Option.isSome_iff_exists.1 (h.there (ps.length * 8 + j) (by omega)).1
    rw [hv]; rfl)
  have hnew : ∀ q, NewQ (G + 1) wr q → NewQ (G + 1) (wr.setCells G (ps.length * 8) (encQ p)) q := fun q hq => ⟨⟨LiesB.stays (fun a u ha hu => ⟨cell_other (g := G) (fun e => by omega) hu, by rw [World.frozen?_setCells]⟩) _ _ _ hq.1.1, hq.1.2⟩, ⟨LiesB.stays (fun a u ha hu => ⟨cell_other (g := G) (fun e => by omega) hu, by rw [World.frozen?_setCells]⟩) _ _ _ hq.2.1, hq.2.2⟩⟩
  refine ⟨fun j u hj => ?_, fun q hq => ?_, fun k hk => ⟨?_, by rw [World.frozen?_setCells]; exact (h.there k hk).2⟩, by rw [size_setCells]; exact h.lt⟩
  · rw [List.flatMap_append] at hj
    by_cases hlt : j < (ps.flatMap encQ).length
    · rw [List.getElem?_append_left hlt] at hj
      rw [flat_lenQ] at hlt
      rw [World.cell?_setCells_out G (encQ p) (ps.length * 8) wr ⟨G, 0 + j, none⟩ (fun _ _ => by simp only; omega)]
      exact h.row j u hj
    · rw [List.getElem?_append_right (by omega), flat_lenQ] at hj
      rw [flat_lenQ] at hlt
      have e : [p].flatMap encQ = encQ p := by simp
      rw [e] at hj
      obtain ⟨hl2, he⟩ := List.getElem?_eq_some_iff.1 hj
      have h9 := hin (j - ps.length * 8) hl2
      have e2 : ps.length * 8 + (j - ps.length * 8) = 0 + j := by omega
      rw [e2, he] at h9
      exact h9
  · rcases List.mem_append.1 hq with hq | hq
    · exact hnew q (h.lists q hq)
    · rw [List.mem_singleton.1 hq]; exact hnew p hp
  · by_cases hr : ps.length * 8 ≤ k ∧ k < ps.length * 8 + 8
    · have h9 := hin (k - ps.length * 8) (by omega)
      have e2 : ps.length * 8 + (k - ps.length * 8) = k := by omega
      rw [e2] at h9
      rw [h9]; rfl
    · rw [World.cell?_setCells_out G (encQ p) (ps.length * 8) wr ⟨G, k, none⟩ (fun _ _ => by simp only; omega)]
      exact (h.there k hk).1

/-- What copies tells: new memory throughout. -/
def CopiesPost (l : List PT) (w : World) (e : Ending) (w' : World) : Prop := ∃ v qs, e = .returned v ∧ qs.map trT = l ∧ SlQ w.heap.size 16 w' qs v ∧ (∀ p ∈ qs, NewQ w.heap.size w' p) ∧ Below w.heap.size w w'

set_option maxRecDepth 100000 in
set_option maxHeartbeats 8000000 in
theorem copies_14 (qs : List PP) (v : Value) (w : World) (hv : SlQ 0 16 w qs v) (hlen : qs.length ≤ 65536) (hr : ∀ p ∈ qs, rightV 16 p.1.1 = true ∧ rightV 16 p.2.1 = true) :
    Calls Tryz.prog 37 #[v] w (CopiesPost (qs.map trT) w) := by
  have HS : Hid (SlQ 0 16 w qs v) := hv
  obtain ⟨a0, c0, rfl, _⟩ := hv.slice
  have HR : Hid _ := hr
  obtain ⟨M, hMs, hmk⟩ := make_pairs qs.length hlen
  have HMs : Hid (M.size = qs.length * 8) := hMs
  obtain ⟨n, hn⟩ : ∃ n, n = qs.length := ⟨_, rfl⟩
  have HN : Hid (n = qs.length) := hn
  rw [← hn] at hmk hlen HMs ⊢
  clear hMs hv hr hn
  go_enter Tryz.func37, Tryz.ntmps37
  go_wp2_with fail
  go_loopg [11] n (fun q i wr => ∃ (j : Nat) (ps : List PP), i = .int .i64 (j : Int) ∧ j ≤ n ∧ q = n - j ∧ Hid (ps.length = j ∧ ps.map trT = (qs.take j).map trT) ∧ Hid (CpQ w.heap.size n wr ps) ∧ Hid (Below w.heap.size w wr))
  case atStart =>
    refine ⟨0, [], rfl, by omega, by omega, ⟨rfl, rfl⟩, ⟨QAt.nil _ _ _, (fun p hp => by cases hp), (fun k hk => ?_), (by simp)⟩, (Below.refl _ _).alloc (Nat.le_refl _) _⟩
    have hk' : k < M.size := by rw [HMs.out]; exact hk
    simp [hk']
  case round =>
    obtain ⟨j, ps, rfl, hj, hk, Hps, HC, HB⟩ := hrel
    have Hk : Hid _ := hk
    clear hk hmk
    have hbw := HB.out
    by_cases hlt : j < n
    · have hlt' : j < qs.length := by have := HN.out; omega
      obtain ⟨b1, o1, c1', hv1, _, hq, hgq⟩ := HS.out.full (fun e => by rw [e] at hlt'; cases hlt')
      have ha1 : a0 = some ⟨b1, o1, none⟩ := by injection hv1
      subst ha1
      have Ex := hq.at j hlt'
      have gx := hgq qs[j] (List.getElem_mem hlt')
      have rx := HR.out qs[j] (List.getElem_mem hlt')
      have Htk : Hid ((qs.take (j + 1)).map trT = (qs.take j).map trT ++ [trT qs[j]]) := by
        show _ = _
        rw [List.take_succ_eq_append_getElem hlt', List.map_append]; rfl
      generalize qs[j] = x at *
      obtain ⟨⟨t1, u1⟩, ⟨t2, u2⟩⟩ := x
      obtain ⟨a1, c1, hu1, _⟩ := Lies.slice gx.1.1
      obtain ⟨a2, c2, hu2, _⟩ := Lies.slice gx.2.1
      simp only at hu1 hu2
      subst hu1 hu2
      obtain ⟨p0, p1, p2, p3, p4, p5, p6, p7⟩ := Ex.keeps hbw
      simp only at p0 p1 p2 p3 p4 p5 p6 p7
      have hl1 : b1 < wr.heap.size := cell_lt p0
      have hws2 : w.heap.size ≤ wr.heap.size := hbw.size
      have hG := HC.out.lt
      have hbA : ∀ o, Below w.heap.size w (wr.alloc o) := fun o => hbw.alloc hws2 o
      have HCp : Hid (∀ o, Calls Tryz.prog 60 #[.agg #[.int .i64 t1.kind, .int .i64 t1.num, .string t1.text, (.slice a1 t1.items.length c1), .int .i64 t2.kind, .int .i64 t2.num, .string t2.text, (.slice a2 t2.items.length c2)]] (wr.alloc o) (CopiedPost (t1, t2) (wr.alloc o))) := fun o => copied_14 (t1, t2) _ _ (wr.alloc o) (Lies.keeps (hbA o) _ _ _ gx.1.1) (Lies.keeps (hbA o) _ _ _ gx.2.1) rx
      have HTx : Hid (t1.text.size ≤ 9223372036854775807 ∧ t2.text.size ≤ 9223372036854775807) := ⟨gx.1.2, gx.2.2⟩
      have HBA : Hid _ := hbA
      have hji : (j : Int) < (n : Nat) := by omega
      clear gx rx Ex hq hgq hv1 hbA
      go_wp2_with fail
      refine Calls.mono (HCp.out _) ?_
      rintro e w1 ⟨k5, v5, rfl, hl1', hl2', hg⟩
      obtain ⟨b1', d1, rfl, _⟩ := LiesB.slice hl1'
      obtain ⟨b2', d2, rfl, _⟩ := LiesB.slice hl2'
      have hb2 : Below w.heap.size w w1 := (HBA.out _).trans (hg.mono (HBA.out _).size)
      have HC1 : Hid (CpQ w.heap.size n w1 ps) := (HC.out.keeps ((Below.refl _ _).alloc (Nat.le_refl _) _)).keeps hg
      have hpl := Hps.out.1
      have HNw : Hid (NewQ (w.heap.size + 1) w1 ((t1, .slice b1' t1.items.length d1), (t2, .slice b2' t2.items.length d2))) := ⟨⟨LiesB.lower14 (by simp; omega) _ _ _ hl1', HTx.out.1⟩, ⟨LiesB.lower14 (by simp; omega) _ _ _ hl2', HTx.out.2⟩⟩
      have hput := HC1.out.put _ HNw.out (by omega)
      rw [hpl] at hput
      have Hput : Hid _ := hput
      clear hg p0 p1 p2 p3 p4 p5 p6 p7 hl1' hl2' HC HCp hput
      obtain ⟨y0, s0⟩ := Option.isSome_iff_exists.1 (HC1.out.there (j * 8) (by omega)).1
      obtain ⟨y1, s1⟩ := Option.isSome_iff_exists.1 (HC1.out.there (j * 8 + 1) (by omega)).1
      obtain ⟨y2, s2⟩ := Option.isSome_iff_exists.1 (HC1.out.there (j * 8 + 2) (by omega)).1
      obtain ⟨y3, s3⟩ := Option.isSome_iff_exists.1 (HC1.out.there (j * 8 + 3) (by omega)).1
      obtain ⟨y4, s4⟩ := Option.isSome_iff_exists.1 (HC1.out.there (j * 8 + 4) (by omega)).1
      obtain ⟨y5, s5⟩ := Option.isSome_iff_exists.1 (HC1.out.there (j * 8 + 5) (by omega)).1
      obtain ⟨y6, s6⟩ := Option.isSome_iff_exists.1 (HC1.out.there (j * 8 + 6) (by omega)).1
      obtain ⟨y7, s7⟩ := Option.isSome_iff_exists.1 (HC1.out.there (j * 8 + 7) (by omega)).1
      have z0 := (HC1.out.there (j * 8) (by omega)).2
      have z1 := (HC1.out.there (j * 8 + 1) (by omega)).2
      have z2 := (HC1.out.there (j * 8 + 2) (by omega)).2
      have z3 := (HC1.out.there (j * 8 + 3) (by omega)).2
      have z4 := (HC1.out.there (j * 8 + 4) (by omega)).2
      have z5 := (HC1.out.there (j * 8 + 5) (by omega)).2
      have z6 := (HC1.out.there (j * 8 + 6) (by omega)).2
      have z7 := (HC1.out.there (j * 8 + 7) (by omega)).2
      have HB2 : Hid (Below w.heap.size w (w1.setCells w.heap.size (j * 8) (encQ ((t1, .slice b1' t1.items.length d1), (t2, .slice b2' t2.items.length d2))))) :=
        (((((((hb2.setCell (p := ⟨w.heap.size, j * 8, none⟩) (Nat.le_refl _) _).setCell (p := ⟨w.heap.size, j * 8 + 1, none⟩) (Nat.le_refl _) _).setCell (p := ⟨w.heap.size, j * 8 + 1 + 1, none⟩) (Nat.le_refl _) _).setCell (p := ⟨w.heap.size, j * 8 + 1 + 1 + 1, none⟩) (Nat.le_refl _) _).setCell (p := ⟨w.heap.size, j * 8 + 1 + 1 + 1 + 1, none⟩) (Nat.le_refl _) _).setCell (p := ⟨w.heap.size, j * 8 + 1 + 1 + 1 + 1 + 1, none⟩) (Nat.le_refl _) _).setCell (p := ⟨w.heap.size, j * 8 + 1 + 1 + 1 + 1 + 1 + 1, none⟩) (Nat.le_refl _) _).setCell (p := ⟨w.heap.size, j * 8 + 1 + 1 + 1 + 1 + 1 + 1 + 1, none⟩) (Nat.le_refl _) _
      have Hp2 : Hid ((ps ++ [((t1, Value.slice b1' t1.items.length d1), (t2, Value.slice b2' t2.items.length d2))]).length = j + 1 ∧ (ps ++ [((t1, Value.slice b1' t1.items.length d1), (t2, Value.slice b2' t2.items.length d2))]).map trT = (qs.take (j + 1)).map trT) := by
        refine ⟨by simp [hpl], ?_⟩
        rw [List.map_append, Hps.out.2, Htk.out]; rfl
      clear hpl
      go_wp2_with fail
      go_roundg (n - (j + 1))
      case measure => have := Hk.out; omega
      case rel => exact ⟨j + 1, _, by go_num, by omega, rfl, Hp2, Hput, HB2⟩
    · have hjl : j = n := by omega
      have HE : Hid (CopiesPost (qs.map trT) w (.returned (.slice (some ⟨w.heap.size, 0, none⟩) n n)) wr) := by
        refine ⟨_, ps, rfl, ?_, ⟨_, n, by rw [Hps.out.1, hjl], by rw [Hps.out.1, hjl]; exact Nat.le_refl _, by rw [Hps.out.1]; omega, fun _ => ⟨w.heap.size, 0, rfl, Nat.le_refl _, HC.out.row⟩, fun p hp => (HC.out.lists p hp).good⟩, fun p hp => (HC.out.lists p hp).lower (by omega), hbw⟩
        rw [Hps.out.2, hjl, HN.out, List.take_length]
      have hji : ¬ (j : Int) < (n : Nat) := by omega
      go_wp2_with fail
      go_ret
      exact HE.out

end Go.Proofs.YtekoaiehhjgfiabGreat

namespace Go.Proofs.YtekoaiehhjgfiabGreat
open Go.RowKit Go.Shelf

set_option maxRecDepth 100000 in
set_option maxHeartbeats 8000000 in
theorem flat_14 {w : World} {q : Nat} {t : RT PT} {b : Nat} (h : MC w q t b) : Calls Tryz.prog 25 #[.pointer (some ⟨b, 0, none⟩)] w fun e w' => e = .returned (.bool true) ∧ Below w.heap.size w w' := by
  have HH : Hid _ := mheight_14 h
  have HL : Hid (∀ V, Below w.heap.size w V → Calls Tryz.prog 30 #[.pointer (some ⟨b, 0, none⟩)] V fun e w' => e = .returned (.int .i64 (t.size : Nat)) ∧ Below V.heap.size V w') := fun V hV => mlen_14 (h.keeps hV)
  have HM : Hid (∀ V, Calls Tryz.prog 65 #[.int .i64 (t.size : Nat)] V (MostPost t.size V)) := fun V => most_any t.size V (by have := h.size; omega)
  have HF : Hid (∀ j, t.size < 2 ^ j → t.high ≤ 2 * j) := fun j hj => flat_high h.well h.black hj
  have HZ : Hid (t.high = 0 ↔ t.size = 0) := high_zero14 t
  generalize t.high = H at *
  generalize t.size = Z at *
  clear h
  go_enter Tryz.func25, Tryz.ntmps25
  go_wp2_with fail
  refine Calls.mono HH.out ?_
  rintro e w1 ⟨rfl, hb1⟩
  have hH0 : (0 : Int) ≤ (H : Nat) := by omega
  go_wp2_with fail
  refine Calls.mono (HL.out _ hb1) ?_
  rintro e w2 ⟨rfl, hg2⟩
  have hb2 : Below w.heap.size w w2 := hb1.trans (hg2.mono hb1.size)
  clear hg2
  go_wp2_with fail
  refine Calls.mono (HM.out _) ?_
  rintro e w3 ⟨⟨j, rfl, _, hj⟩, hw⟩
  obtain rfl : w2 = w3 := hw.symm
  have hle : (H : Int) ≤ ((2 * j : Nat) : Int) := by have := HF.out j hj; omega
  obtain ⟨J, hJ⟩ : ∃ J, J = 2 * j := ⟨_, rfl⟩
  rw [← hJ] at hle ⊢
  clear hJ hj HF HM
  go_wp2_with fail
  refine Calls.mono (HL.out _ hb2) ?_
  rintro e w4 ⟨rfl, hg4⟩
  have hb4 : Below w.heap.size w w4 := hb2.trans (hg4.mono hb2.size)
  clear hg4 HL HH
  by_cases hz : Z = 0
  · have hh : H = 0 := HZ.out.2 hz
    subst hz
    subst hh
    go_wp2_with fail
    go_ret
    exact ⟨rfl, hb4⟩
  · have hh : ¬ H = 0 := fun e => hz (HZ.out.1 e)
    have hz1 : ¬ (Z : Int) = 0 := by omega
    have hh1 : ¬ (H : Int) = 0 := by omega
    have hz2 : ((Z : Int) == 0) = false := by simp [hz]
    have hh2 : ((H : Int) == 0) = false := by simp [hh]
    go_wp2_with fail
    go_ret
    exact ⟨by simp, hb4⟩

end Go.Proofs.YtekoaiehhjgfiabGreat

namespace Go.Proofs.YtekoaiehhjgfiabGreat
open Go.RowKit Go.Shelf

theorem byK_cmp (q : Nat) : RT.Cmp (byK q) := by
  refine ⟨fun a b => ?_, fun a b c h1 h2 => ?_⟩
  · have := ordV_turn q a.1 b.1
    show ordV q a.1 b.1 < 0 ↔ 0 < ordV q b.1 a.1
    omega
  · have h1' : ordV q a.1 b.1 ≤ 0 := h1
    have h2' : ordV q b.1 c.1 < 0 := h2
    obtain ⟨h3, h4⟩ := ordV_goes q a.1 b.1 c.1 h1' (by omega)
    show ordV q a.1 c.1 < 0
    by_cases h0 : ordV q a.1 c.1 = 0
    · have := (h4 h0).2
      omega
    · omega

theorem eg_at1 : ∀ args w, (callFunc 100 args).run Tryz.prog w = .ok (.enter 100 args) w := enters_of Tryz.func100 (by kernel_rfl) rfl

/-- Where a key stands to a pair. -/
abbrev atK (q : Nat) (k : VT) (x : PT) : Int := ordV q k x.1

set_option maxRecDepth 100000 in
set_option maxHeartbeats 4000000 in
theorem mfind_wrong (d b : Nat) (k : VT) (ku : Value) (w : World) (hk : Lies d w k.items ku) (ht : k.text.size ≤ 9223372036854775807) (hr : rightV d k = false) : Calls Tryz.prog 57 #[.pointer (some ⟨b, 0, none⟩), .agg #[.int .i64 k.kind, .int .i64 k.num, .string k.text, ku]] w fun e w' => e = .returned (.tuple #[.pointer none, .int .i64 3]) ∧ Below w.heap.size w w' := by
  obtain ⟨ak, ck, rfl, _⟩ := Lies.slice hk
  have hb0 : ∀ o, Below w.heap.size w (w.alloc o) := fun o => ((Grew.refl w).alloc o).below
  have HC : Hid (∀ o, Calls Tryz.prog 58 #[.agg #[.int .i64 k.kind, .int .i64 k.num, .string k.text, .slice ak k.items.length ck]] (w.alloc o) fun e w' => e = .returned (.int .i64 3) ∧ Below (w.alloc o).heap.size (w.alloc o) w') := fun o => by
    have h9 := check_any d k _ (w.alloc o) (Lies.keeps (hb0 o) _ _ _ hk) ht
    rwa [hr] at h9
  have HB : Hid _ := hb0
  clear hk ht hr hb0
  go_enter Tryz.func57, Tryz.ntmps57
  go_wp2_with fail
  refine (HC.out _).mono ?_
  rintro e w1 ⟨rfl, hg⟩
  have hb1 : Below w.heap.size w w1 := (HB.out _).trans (hg.mono (HB.out _).size)
  clear hg
  go_wp2_with fail
  go_ret2
  exact ⟨rfl, hb1⟩

/-- What a map's find tells. -/
def MFindPost (q : Nat) (t : RT PT) (k : VT) (w : World) (e : Ending) (w' : World) : Prop := ∃ p, e = .returned (.tuple #[.pointer p, .int .i64 0]) ∧ FindPost14 TT 16 (RT.find (atK q k) t) w (.returned (.pointer p)) w'

set_option maxRecDepth 100000 in
set_option maxHeartbeats 8000000 in
theorem mfind_right (d b q : Nat) (t : RT PT) (k : VT) (ku : Value) (w : World) (hm : MC w q t b) (hk : Lies d w k.items ku) (ht : k.text.size ≤ 9223372036854775807) (hr : rightV d k = true) : Calls Tryz.prog 57 #[.pointer (some ⟨b, 0, none⟩), .agg #[.int .i64 k.kind, .int .i64 k.num, .string k.text, ku]] w (MFindPost q t k w) := by
  obtain ⟨ak, ck, rfl, _⟩ := Lies.slice hk
  obtain ⟨h16, hr16⟩ := canon hk hr
  have hb0 : ∀ o, Below w.heap.size w (w.alloc o) := fun o => ((Grew.refl w).alloc o).below
  have HC : Hid (∀ o, Calls Tryz.prog 58 #[.agg #[.int .i64 k.kind, .int .i64 k.num, .string k.text, .slice ak k.items.length ck]] (w.alloc o) fun e w' => e = .returned (.int .i64 0) ∧ Below (w.alloc o).heap.size (w.alloc o) w') := fun o => by
    have h9 := check_any d k _ (w.alloc o) (Lies.keeps (hb0 o) _ _ _ hk) ht
    rwa [hr] at h9
  obtain ⟨po, hpo, hn⟩ := hm.top
  have HA : Hid (∀ V, Below w.heap.size w V → Calls Tryz.prog 62 #[.pointer (some ⟨b, 0, none⟩), .agg #[.int .i64 k.kind, .int .i64 k.num, .string k.text, .slice ak k.items.length ck]] V (AtPost q k V)) := fun V hV => at_14 q b hm.q6 k _ V (cell_keeps hV hm.ord) (Lies.keeps hV _ _ _ h16) ht hr16
  have HF : Hid (∀ V q1 q2, Below w.heap.size w V → AtC TT 16 100 q1 q2 (atK q k) (fun x => rightV 16 x.1 = true) V → Calls Tryz.prog 96 #[.pointer po, .func (.func 100) #[] #[.pointer q1, .pointer q2]] V (FindPost14 TT 16 (RT.find (atK q k) t) V)) := fun V q1 q2 hV ha => find_14 TT 16 100 q1 q2 (atK q k) _ eg_at1 t po V ha (hn.keeps hV) (fun x hx => (hm.right x hx).1.1)
  have HB : Hid _ := hb0
  have HP : Hid (∀ (p : Option Addr) (V V' : World), Below w.heap.size w V → FindPost14 TT 16 (RT.find (atK q k) t) V (.returned (.pointer p)) V' → MFindPost q t k w (.returned (.tuple #[.pointer p, .int .i64 0])) V') := fun p V V' hV h => ⟨p, rfl, hV.trans (h.1.mono hV.size), h.2⟩
  have hbl := cell_lt hpo
  simp only at hbl
  clear hk ht hr hb0 hm hn h16 hr16
  go_enter Tryz.func57, Tryz.ntmps57
  go_wp2_with fail
  obtain ⟨W0, hW0⟩ : ∃ W0, W0 = w.alloc (.cells #[.int .i64 k.kind, .int .i64 k.num, .string k.text, .slice ak k.items.length ck] 43) := ⟨_, rfl⟩
  have HCk : Hid _ := HC.out (.cells #[.int .i64 k.kind, .int .i64 k.num, .string k.text, .slice ak k.items.length ck] 43)
  rw [← hW0] at HCk ⊢
  have hb0 : Below w.heap.size w W0 := by rw [hW0]; exact HB.out _
  have k0 : W0.cell? ⟨w.heap.size, 0, none⟩ = some (.int .i64 k.kind) := by rw [hW0]; simp
  have k1 : W0.cell? ⟨w.heap.size, 1, none⟩ = some (.int .i64 k.num) := by rw [hW0]; simp
  have k2 : W0.cell? ⟨w.heap.size, 2, none⟩ = some (.string k.text) := by rw [hW0]; simp
  have k3 : W0.cell? ⟨w.heap.size, 3, none⟩ = some (.slice ak k.items.length ck) := by rw [hW0]; simp
  clear hW0 HC
  refine Calls.mono HCk.out ?_
  rintro e w1 ⟨rfl, hg⟩
  have hb1 : Below w.heap.size w w1 := hb0.trans (hg.mono hb0.size)
  have k0 := cell_keeps hg k0; have k1 := cell_keeps hg k1; have k2 := cell_keeps hg k2; have k3 := cell_keeps hg k3
  have hpo := cell_keeps hb1 hpo
  clear hg HCk hb0
  go_wp2_with fail
  go_region_held3 (fun w' => w'.cell? ⟨b, 1, none⟩ = some (.pointer po) ∧ w'.cell? ⟨w.heap.size, 0, none⟩ = some (.int .i64 k.kind) ∧ w'.cell? ⟨w.heap.size, 1, none⟩ = some (.int .i64 k.num) ∧ w'.cell? ⟨w.heap.size, 2, none⟩ = some (.string k.text) ∧ w'.cell? ⟨w.heap.size, 3, none⟩ = some (.slice ak k.items.length ck)) (go_keep)
    (first
      | (go_at_call 62; (with_reducible refine Calls.mono (HA.out _ hb1.drew) ?_); rintro e w2 ⟨hg, q1, q2, rfl, ha⟩; have HAC : Hid (AtC TT 16 100 q1 q2 (atK q k) (fun x => rightV 16 x.1 = true) w2) := ha TT; have hb2 : Below w.heap.size w w2 := hb1.drew.trans (hg.mono hb1.drew.size); have hg2 : Below w1.heap.size w1 w2 := (Below.refl _ _).drew.trans hg; have k0 := cell_keeps hg2 k0; have k1 := cell_keeps hg2 k1; have k2 := cell_keeps hg2 k2; have k3 := cell_keeps hg2 k3; have hpo := cell_keeps hg2 hpo; clear hg ha)
      | (go_at_call 96; (with_reducible refine Calls.mono (HF.out _ _ _ hb2 HAC.out) ?_); rintro e w3 hf; obtain ⟨p3, rfl⟩ : ∃ p3, e = .returned (.pointer p3) := (by rcases hf.2 with ⟨_, h9⟩ | ⟨_, _, _, _, _, _, _, _, _, _, _, h9, _⟩ <;> exact ⟨_, h9⟩); have HE : Hid _ := HP.out p3 _ _ hb2 hf; have hg3 : Below w2.heap.size w2 w3 := hf.1; have k0 := cell_keeps hg3 k0; have k1 := cell_keeps hg3 k1; have k2 := cell_keeps hg3 k2; have k3 := cell_keeps hg3 k3; have hpo := cell_keeps hg3 hpo; clear hf))
  all_goals (first | (go_ret2; exact HE.out) | (go_wp2_with fail; go_ret2; exact HE.out))

/-- What a call tells that makes a map. -/
def MapPost14 (q : Nat) (l : List PT) (w : World) (e : Ending) (w' : World) : Prop := Below w.heap.size w w' ∧ ∃ t b, e = .returned (.pointer (some ⟨b, 0, none⟩)) ∧ MC w' q t b ∧ t.items = l

set_option maxRecDepth 100000 in
set_option maxHeartbeats 8000000 in
theorem of_14 (b q : Nat) (t : RT PT) (p : Option Addr) (w : World) (ho : w.cell? ⟨b, 0, none⟩ = some (.int .i64 (q : Int))) (hn : NM TT 16 w t p) (hw : RT.Well t) (hq : q < 6) (hr : ∀ x ∈ t.items, Good 16 x.1 ∧ Good 16 x.2) (hs : RT.Rises (byK q) t.items) (hz : t.size ≤ 65536) :
    Calls Tryz.prog 45 #[.pointer (some ⟨b, 0, none⟩), .pointer p] w (MapPost14 q t.items w) := by
  have HB : Hid (∀ V, Below w.heap.size w V → Calls Tryz.prog 85 #[.pointer p] V (TreePost TT 16 t.black V)) := fun V hV => black_14 (hn.keeps hV) (by omega)
  have hbw : RT.Well t.black := ⟨hw.1.black, by obtain ⟨_, n, hB⟩ := hw; obtain ⟨m, hm⟩ := hB.black; exact ⟨m, hm⟩⟩
  have HP : Hid (∀ (V : World) (p : Option Addr), Below w.heap.size w V → NM TT 16 V t.black p → MapPost14 q t.items w (.returned (.pointer (some ⟨V.heap.size, 0, none⟩))) (V.alloc (.cells #[.int .i64 (q : Int), .pointer p] 75))) := fun V p hV ht => by
    have hb9 : Below V.heap.size V (V.alloc (.cells #[.int .i64 (q : Int), .pointer p] 75)) := ((Grew.refl V).alloc _).below
    refine ⟨hV.trans (hb9.mono hV.size), t.black, V.heap.size, rfl, ⟨by simp, ⟨p, by simp, ht.keeps hb9⟩, hbw, RT.black_red14 t, hq, ?_, ?_, ?_⟩, RT.black_items t⟩
    · rw [RT.black_items]; exact hr
    · rw [RT.black_items]; exact hs
    · rw [RT.size_items, RT.black_items, ← RT.size_items]; exact hz
  clear hn hw hq hr hs hz hbw
  go_enter Tryz.func45, Tryz.ntmps45
  go_wp2_with fail
  go_region_held3 (fun w' => w'.cell? ⟨b, 0, none⟩ = some (.int .i64 (q : Int))) (go_keep)
    (first | (go_at_call 85; (with_reducible refine Calls.mono (HB.out _ (Below.refl _ _).drew) ?_); rintro e w2 ⟨hg, p2, rfl, ht⟩; have hg2 : Below w.heap.size w w2 := (Below.refl _ _).drew.trans hg; have ho := cell_keeps hg2 ho; have HE : Hid _ := HP.out w2 p2 hg2 ht; clear hg ht))
  all_goals (first | (go_ret; exact HE.out) | (go_wp2_with fail; go_ret; exact HE.out))

end Go.Proofs.YtekoaiehhjgfiabGreat

