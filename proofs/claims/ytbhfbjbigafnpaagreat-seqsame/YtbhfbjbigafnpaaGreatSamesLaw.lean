/-
  SeqSame.
-/
import Derived.Test.YtbhfbjbigafnpaaGreatSameM
import Derived.Test.YtbhfbjbigafnpaaGreatAskedS
namespace Go.Proofs.YtbhfbjbigafnpaaGreat
open Go.RowKit Go.Shelf

/-- How far a seq of the program is known. -/
theorem chn_known {Y : Nat → Prop} {w : World} {vs : List VT} {T : Tl} {P : Nat → Nat} (h3 : Chn pCK Y w vs T P) : Calls Tryz.prog 13 #[.pointer (some ⟨P 0, 0, none⟩)] w (fun e w' => e = .returned (.int .i64 ((min vs.length 65536 : Nat) : Int)) ∧ w' = w) := by
  refine known_len _ P vs.length w w (own_some22 (P 0) w) (fun i hi => ?_) ?_
  · obtain ⟨a, c, hc, _⟩ := h3.known i _ (List.getElem?_eq_getElem hi)
    exact hc.c6
  · match T, h3 with
    | none, h3 => exact (h3.ende rfl).c6
    | some (q, x), h3 =>
      obtain ⟨_, _, _, z, a, c, _, ⟨m, _, _, hc⟩, _⟩ := h3.lazy q x rfl
      exact hc.c6

theorem chn_rknown {Y : Nat → Prop} {w : World} {vs : List VT} {T : Tl} {Q : Nat → Nat} (h4 : Chn dCK Y w vs T Q) : Calls Tryz.prog 14 #[.pointer (some ⟨Q 0, 0, none⟩)] w (fun e w' => e = .returned (.int .i64 ((min vs.length 65536 : Nat) : Int)) ∧ w' = w) := by
  have hk : ∀ i, i < vs.length → w.cell? ⟨Q i, 0, none⟩ = some (.bool true) ∧ w.cell? ⟨Q i, 1, none⟩ = some (.bool true) ∧ w.cell? ⟨Q i, 6, none⟩ = some (.pointer (some ⟨Q (i + 1), 0, none⟩)) := fun i hi => by
    obtain ⟨a, c, ⟨kd, q, z, uz, hc⟩, _⟩ := h4.known i _ (List.getElem?_eq_getElem hi)
    exact ⟨hc.c0, hc.c1, hc.c6⟩
  match T, h4 with
  | none, h4 => exact rknown_end Q vs.length w hk ⟨(h4.ende rfl).c0, (h4.ende rfl).c1⟩
  | some (q, x), h4 =>
    obtain ⟨_, _, _, z, a, c, _, ⟨kd, _, hc⟩, _⟩ := h4.lazy q x rfl
    exact rknown_len Q vs.length w hk hc.c0

/-- Both are known as far, behind all. -/
def Kn23 (a b v u : Nat) (w : World) : Prop := ∃ M1 M2 : Int, Calls Tryz.prog 13 #[.pointer (some ⟨a, 0, none⟩)] w (fun e w' => e = .returned (.int .i64 M1) ∧ w' = w) ∧ Calls Tryz.prog 14 #[.pointer (some ⟨v, 0, none⟩)] w (fun e w' => e = .returned (.int .i64 M1) ∧ w' = w) ∧ Calls Tryz.prog 13 #[.pointer (some ⟨b, 0, none⟩)] w (fun e w' => e = .returned (.int .i64 M2) ∧ w' = w) ∧ Calls Tryz.prog 14 #[.pointer (some ⟨u, 0, none⟩)] w (fun e w' => e = .returned (.int .i64 M2) ∧ w' = w)

theorem sames_calls (L1 L2 : List VT) (T1 T2 : Tl) (n f : Int) (w W w1 w2 w3 w4 V : World) (hb0 : Below w.heap.size w W) (g1 : Below W.heap.size W w1) (g2 : Below w1.heap.size w1 w2) (g3 : Below w2.heap.size w2 w3) (g4 : Below w3.heap.size w3 w4) (hV : KC (fun m => w.heap.size ≤ m ∧ m < W.heap.size) w4 V) (PA PB PV PU : Nat → Nat)
    (hA : Chn pCK (fun n => W.heap.size ≤ n) w1 L1 T1 PA) (hB : Chn pCK (fun n => w1.heap.size ≤ n) w2 L2 T2 PB) (hC : Chn dCK (fun n => n < w.heap.size ∨ w2.heap.size ≤ n) w3 L1 T1 PV) (hD : Chn dCK (fun n => n < w.heap.size ∨ w3.heap.size ≤ n) w4 L2 T2 PU) (qV : ∀ j, j ≤ L1.length → w2.heap.size ≤ PV j) (qU : ∀ j, j ≤ L2.length → w3.heap.size ≤ PU j) :
    Calls Tryz.prog 15 #[.pointer (some ⟨PA 0, 0, none⟩), .pointer (some ⟨PB 0, 0, none⟩), .int .i64 n, .int .i64 f] V fun e w5 => KC (fun m => W.heap.size ≤ m) V w5 ∧ ∃ (ok : Bool) (left E : Int), e = .returned (.tuple #[.bool ok, .int .i64 left, .int .i64 E]) ∧
    Calls Tryz.prog 16 #[.pointer (some ⟨PV 0, 0, none⟩), .pointer (some ⟨PU 0, 0, none⟩), .int .i64 n, .int .i64 f] w5 fun e w6 => e = .returned (.tuple #[.bool ok, .int .i64 left, .int .i64 E]) ∧ Below w.heap.size w w6 ∧ Kn23 (PA 0) (PB 0) (PV 0) (PU 0) w6 := by
  have s0 := hb0.size; have s1 := g1.size; have s2 := g2.size; have s3 := g3.size; have s4 := g4.size; have s5 := hV.size
  have hA1 := hA.monoY (Z := fun n => W.heap.size ≤ n ∧ n < w1.heap.size) (fun n hn hy => ⟨hy, hn⟩)
  have hB1 := hB.monoY (Z := fun n => w1.heap.size ≤ n ∧ n < w2.heap.size) (fun n hn hy => ⟨hy, hn⟩)
  have hC1 := hC.monoY (Z := fun n => n < w.heap.size ∨ (w2.heap.size ≤ n ∧ n < w3.heap.size)) (fun n hn hy => hy.imp id (fun h => ⟨h, hn⟩))
  have hD1 := hD.monoY (Z := fun n => n < w.heap.size ∨ (w3.heap.size ≤ n ∧ n < w4.heap.size)) (fun n hn hy => hy.imp id (fun h => ⟨h, hn⟩))
  have hAV := (((hA1.keeps g2).keeps g3).keeps g4).kc hV (fun n _ hn h => by omega)
  have hBV := ((hB1.keeps g3).keeps g4).kc hV (fun n _ hn h => by omega)
  have hCV := (hC1.keeps g4).kc hV (fun n _ hn h => by omega)
  have hDV := hD1.kc hV (fun n _ hn h => by omega)
  have hwV : Below w.heap.size w V := by
    have h1 := hb0.trans (g1.mono s0)
    have h2 := h1.trans (g2.mono (by omega))
    have h3 := h2.trans (g3.mono (by omega))
    have h4 := h3.trans (g4.mono (by omega))
    exact h4.trans (hV.below (fun j hj h => by omega) h4.size)
  have cA : ∀ i, i ≤ L1.length → W.heap.size ≤ PA i ∧ PA i < w1.heap.size := fun i hi => hA1.inY i hi
  have cB : ∀ i, i ≤ L2.length → w1.heap.size ≤ PB i ∧ PB i < w2.heap.size := fun i hi => hB1.inY i hi
  have cV : ∀ i, i ≤ L1.length → w2.heap.size ≤ PV i ∧ PV i < w3.heap.size := fun i hi => ⟨qV i hi, hC.lt i hi⟩
  have cU : ∀ i, i ≤ L2.length → w3.heap.size ≤ PU i ∧ PU i < w4.heap.size := fun i hi => ⟨qU i hi, hD.lt i hi⟩
  rcases nums_or n f with hbad | ⟨n', f', rfl, rfl, hn, hf⟩
  · refine Calls.mono (ssame_bad _ _ n f hbad V) ?_
    rintro e w5 ⟨rfl, hb5⟩
    refine ⟨KC.of_below hb5, false, 0, 1, rfl, Calls.mono (srsame_bad _ _ n f hbad w5) ?_⟩
    rintro e w6 ⟨rfl, hb6⟩
    exact ⟨rfl, (hwV.trans (hb5.mono hwV.size)).trans (hb6.mono (Nat.le_trans hwV.size hb5.size)), _, _, chn_known ((hAV.keeps hb5).keeps hb6), chn_rknown ((hCV.keeps hb5).keeps hb6), chn_known ((hBV.keeps hb5).keeps hb6), chn_rknown ((hDV.keeps hb5).keeps hb6)⟩
  · refine Calls.mono (ssame_any _ _ L1 L2 T1 T2 PA PB n' f' hn hf V hAV hBV ⟨fun j hj h => by have := cA j hj; omega, fun j hj h => by have := cB j hj; omega⟩) ?_
    rintro e w5 ⟨⟨p5, q5, hS5⟩, rfl⟩
    generalize hr : smW n' ⟨L1, T1, 0⟩ ⟨L2, T2, 0⟩ f' = r at *
    have s6 := hS5.kc.size
    have hin : ∀ j, ((∃ i, i ≤ L1.length ∧ j = PA i) ∨ (∃ i, i ≤ L2.length ∧ j = PB i)) → W.heap.size ≤ j ∧ j < w2.heap.size := fun j hj => by
      rcases hj with ⟨i, hi, rfl⟩ | ⟨i, hi, rfl⟩
      · have := cA i hi; omega
      · have := cB i hi; omega
    have hC5 := hCV.kc hS5.kc (fun n _ hn h => by have := hin n h; omega)
    have hD5 := hDV.kc hS5.kc (fun n _ hn h => by have := hin n h; omega)
    have hw5 : Below w.heap.size w w5 := hwV.trans (hS5.kc.below (fun j hj h => by have := hin j h; omega) hwV.size)
    have hdoc := srsame_any _ _ L1 L2 T1 T2 PV PU n' f' hn hf w5 hC5 hD5 ⟨fun j hj h => by have := cV j hj; omega, fun j hj h => by have := cU j hj; omega⟩
    rw [hr] at hdoc
    refine ⟨hS5.kc.mono (fun j _ h => (hin j h).1), r.ok, r.left, r.err, rfl, Calls.mono hdoc ?_⟩
    rintro e w6 ⟨⟨p6, q6, hS6⟩, rfl⟩
    have hout : ∀ j, ((∃ i, i ≤ L1.length ∧ j = PV i) ∨ (∃ i, i ≤ L2.length ∧ j = PU i)) → w2.heap.size ≤ j ∧ j < w4.heap.size := fun j hj => by
      rcases hj with ⟨i, hi, rfl⟩ | ⟨i, hi, rfl⟩
      · have := cV i hi; omega
      · have := cU i hi; omega
    obtain ⟨P, Q, Z1, Z2, a1, _, _, _, _, b1, _, _, _, _, c1, c2, _, c4, c5, _⟩ := hS5.ex
    obtain ⟨P', Q', Z1', Z2', a1', _, _, _, _, b1', _, _, _, _, c1', c2', _, _, _, _⟩ := hS6.ex
    have e1 : Chn pCK Z1 w6 r.s.vs r.s.T P := c1.kc hS6.kc (fun n _ hn h => by have h9 := hout n h; have h8 := c4 n (by omega) hn; omega)
    have e2 : Chn pCK Z2 w6 r.t.vs r.t.T Q := c2.kc hS6.kc (fun n _ hn h => by have h9 := hout n h; have h8 := c5 n (by omega) hn; omega)
    refine ⟨rfl, hw5.trans (hS6.kc.below (fun j hj h => by have := hout j h; omega) hw5.size), ((min r.s.vs.length 65536 : Nat) : Int), ((min r.t.vs.length 65536 : Nat) : Int), ?_, ?_, ?_, ?_⟩
    · have h9 := chn_known e1; rw [a1 0 (Nat.zero_le _)] at h9; exact h9
    · have h9 := chn_rknown c1'; rw [a1' 0 (Nat.zero_le _)] at h9; exact h9
    · have h9 := chn_known e2; rw [b1 0 (Nat.zero_le _)] at h9; exact h9
    · have h9 := chn_rknown c2'; rw [b1' 0 (Nat.zero_le _)] at h9; exact h9

theorem ask_alloc (V : World) (a b c : Value) (T : Nat) : (V.alloc (.cells #[a, b, c] T)).cell? ⟨V.heap.size, 0, none⟩ = some a ∧ (V.alloc (.cells #[a, b, c] T)).cell? ⟨V.heap.size, 1, none⟩ = some b ∧ (V.alloc (.cells #[a, b, c] T)).cell? ⟨V.heap.size, 2, none⟩ = some c ∧ (V.alloc (.cells #[a, b, c] T)).frozen? ⟨V.heap.size, 2, none⟩ = false := by refine ⟨?_, ?_, ?_, ?_⟩ <;> simp

set_option maxRecDepth 100000 in
set_option maxHeartbeats 16000000 in
theorem sames_walk (d1 : Nat) (L1 : List VT) (aL1 : Option Addr) (cL1 : Nat) (o1 : Int) (v1 : VT) (av1 : Option Addr) (cv1 : Nat) (E1 : Bool) (d2 : Nat) (L2 : List VT) (aL2 : Option Addr) (cL2 : Nat) (o2 : Int) (v2 : VT) (av2 : Option Addr) (cv2 : Nat) (E2 : Bool) (qk qn qf : Int) (w : World)
    (hL1 : Lies (d1 + 1) w L1 (.slice aL1 L1.length cL1)) (hv1 : Lies d1 w v1.items (.slice av1 v1.items.length cv1)) (ht1 : v1.text.size ≤ 9223372036854775807)
    (hL2 : Lies (d2 + 1) w L2 (.slice aL2 L2.length cL2)) (hv2 : Lies d2 w v2.items (.slice av2 v2.items.length cv2)) (ht2 : v2.text.size ≤ 9223372036854775807) :
    Calls Tryz.prog 4 #[fromV aL1 L1.length cL1 o1 v1 (.slice av1 v1.items.length cv1) E1, fromV aL2 L2.length cL2 o2 v2 (.slice av2 v2.items.length cv2) E2, .agg #[.int .i64 qk, .int .i64 qn, .int .i64 qf]] w fun e w' => e = .returned (.bool true) ∧ Below w.heap.size w w' := by
  have HSp : Hid (∀ V, Calls Tryz.prog 9 #[] V fun e w' => e = .returned (.bool true) ∧ Below V.heap.size V w') := speaks23_any
  obtain ⟨W, hW⟩ : ∃ W, W = (((w.alloc (.cells #[.slice aL1 L1.length cL1, .int .i64 o1, .int .i64 v1.kind, .int .i64 v1.num, .string v1.text, .slice av1 v1.items.length cv1, .bool E1] 26)).alloc (.cells #[.slice aL2 L2.length cL2, .int .i64 o2, .int .i64 v2.kind, .int .i64 v2.num, .string v2.text, .slice av2 v2.items.length cv2, .bool E2] 26)).alloc (.cells #[.int .i64 qk, .int .i64 qn, .int .i64 qf] 34)) := ⟨_, rfl⟩
  have HW : Hid (W = (((w.alloc (.cells #[.slice aL1 L1.length cL1, .int .i64 o1, .int .i64 v1.kind, .int .i64 v1.num, .string v1.text, .slice av1 v1.items.length cv1, .bool E1] 26)).alloc (.cells #[.slice aL2 L2.length cL2, .int .i64 o2, .int .i64 v2.kind, .int .i64 v2.num, .string v2.text, .slice av2 v2.items.length cv2, .bool E2] 26)).alloc (.cells #[.int .i64 qk, .int .i64 qn, .int .i64 qf] 34))) := hW
  have hb0 : Below w.heap.size w W := by rw [hW]; exact ((((Grew.refl w).alloc _).alloc _).alloc _).below
  have hWs : W.heap.size = w.heap.size + 3 := by rw [hW]; simp
  have HWs : Hid (W.heap.size = w.heap.size + 3) := hWs
  have HFz : Hid (W.frozen? ⟨w.heap.size + 2, 2, none⟩ = false) := by have h9 := ask_alloc ((w.alloc (.cells #[.slice aL1 L1.length cL1, .int .i64 o1, .int .i64 v1.kind, .int .i64 v1.num, .string v1.text, .slice av1 v1.items.length cv1, .bool E1] 26)).alloc (.cells #[.slice aL2 L2.length cL2, .int .i64 o2, .int .i64 v2.kind, .int .i64 v2.num, .string v2.text, .slice av2 v2.items.length cv2, .bool E2] 26)) (.int .i64 qk) (.int .i64 qn) (.int .i64 qf) 34; rw [World.size_alloc, World.size_alloc] at h9; rw [hW]; exact h9.2.2.2
  have k0 : W.cell? ⟨w.heap.size, 0, none⟩ = some (.slice aL1 L1.length cL1) := by rw [hW]; exact cell_keeps (((Grew.refl _).alloc _).alloc _).below (show (w.alloc (.cells #[.slice aL1 L1.length cL1, .int .i64 o1, .int .i64 v1.kind, .int .i64 v1.num, .string v1.text, .slice av1 v1.items.length cv1, .bool E1] 26)).cell? ⟨w.heap.size, 0, none⟩ = some (.slice aL1 L1.length cL1) by simp)
  have k1 : W.cell? ⟨w.heap.size, 1, none⟩ = some (.int .i64 o1) := by rw [hW]; exact cell_keeps (((Grew.refl _).alloc _).alloc _).below (show (w.alloc (.cells #[.slice aL1 L1.length cL1, .int .i64 o1, .int .i64 v1.kind, .int .i64 v1.num, .string v1.text, .slice av1 v1.items.length cv1, .bool E1] 26)).cell? ⟨w.heap.size, 1, none⟩ = some (.int .i64 o1) by simp)
  have k2 : W.cell? ⟨w.heap.size, 2, none⟩ = some (.int .i64 v1.kind) := by rw [hW]; exact cell_keeps (((Grew.refl _).alloc _).alloc _).below (show (w.alloc (.cells #[.slice aL1 L1.length cL1, .int .i64 o1, .int .i64 v1.kind, .int .i64 v1.num, .string v1.text, .slice av1 v1.items.length cv1, .bool E1] 26)).cell? ⟨w.heap.size, 2, none⟩ = some (.int .i64 v1.kind) by simp)
  have k3 : W.cell? ⟨w.heap.size, 3, none⟩ = some (.int .i64 v1.num) := by rw [hW]; exact cell_keeps (((Grew.refl _).alloc _).alloc _).below (show (w.alloc (.cells #[.slice aL1 L1.length cL1, .int .i64 o1, .int .i64 v1.kind, .int .i64 v1.num, .string v1.text, .slice av1 v1.items.length cv1, .bool E1] 26)).cell? ⟨w.heap.size, 3, none⟩ = some (.int .i64 v1.num) by simp)
  have k4 : W.cell? ⟨w.heap.size, 4, none⟩ = some (.string v1.text) := by rw [hW]; exact cell_keeps (((Grew.refl _).alloc _).alloc _).below (show (w.alloc (.cells #[.slice aL1 L1.length cL1, .int .i64 o1, .int .i64 v1.kind, .int .i64 v1.num, .string v1.text, .slice av1 v1.items.length cv1, .bool E1] 26)).cell? ⟨w.heap.size, 4, none⟩ = some (.string v1.text) by simp)
  have k5 : W.cell? ⟨w.heap.size, 5, none⟩ = some (.slice av1 v1.items.length cv1) := by rw [hW]; exact cell_keeps (((Grew.refl _).alloc _).alloc _).below (show (w.alloc (.cells #[.slice aL1 L1.length cL1, .int .i64 o1, .int .i64 v1.kind, .int .i64 v1.num, .string v1.text, .slice av1 v1.items.length cv1, .bool E1] 26)).cell? ⟨w.heap.size, 5, none⟩ = some (.slice av1 v1.items.length cv1) by simp)
  have k6 : W.cell? ⟨w.heap.size, 6, none⟩ = some (.bool E1) := by rw [hW]; exact cell_keeps (((Grew.refl _).alloc _).alloc _).below (show (w.alloc (.cells #[.slice aL1 L1.length cL1, .int .i64 o1, .int .i64 v1.kind, .int .i64 v1.num, .string v1.text, .slice av1 v1.items.length cv1, .bool E1] 26)).cell? ⟨w.heap.size, 6, none⟩ = some (.bool E1) by simp)
  have m0 : W.cell? ⟨w.heap.size + 1, 0, none⟩ = some (.slice aL2 L2.length cL2) := by rw [hW]; exact cell_keeps ((Grew.refl _).alloc _).below (show ((w.alloc (.cells #[.slice aL1 L1.length cL1, .int .i64 o1, .int .i64 v1.kind, .int .i64 v1.num, .string v1.text, .slice av1 v1.items.length cv1, .bool E1] 26)).alloc (.cells #[.slice aL2 L2.length cL2, .int .i64 o2, .int .i64 v2.kind, .int .i64 v2.num, .string v2.text, .slice av2 v2.items.length cv2, .bool E2] 26)).cell? ⟨w.heap.size + 1, 0, none⟩ = some (.slice aL2 L2.length cL2) by rw [← World.size_alloc w (.cells #[.slice aL1 L1.length cL1, .int .i64 o1, .int .i64 v1.kind, .int .i64 v1.num, .string v1.text, .slice av1 v1.items.length cv1, .bool E1] 26)]; simp)
  have m1 : W.cell? ⟨w.heap.size + 1, 1, none⟩ = some (.int .i64 o2) := by rw [hW]; exact cell_keeps ((Grew.refl _).alloc _).below (show ((w.alloc (.cells #[.slice aL1 L1.length cL1, .int .i64 o1, .int .i64 v1.kind, .int .i64 v1.num, .string v1.text, .slice av1 v1.items.length cv1, .bool E1] 26)).alloc (.cells #[.slice aL2 L2.length cL2, .int .i64 o2, .int .i64 v2.kind, .int .i64 v2.num, .string v2.text, .slice av2 v2.items.length cv2, .bool E2] 26)).cell? ⟨w.heap.size + 1, 1, none⟩ = some (.int .i64 o2) by rw [← World.size_alloc w (.cells #[.slice aL1 L1.length cL1, .int .i64 o1, .int .i64 v1.kind, .int .i64 v1.num, .string v1.text, .slice av1 v1.items.length cv1, .bool E1] 26)]; simp)
  have m2 : W.cell? ⟨w.heap.size + 1, 2, none⟩ = some (.int .i64 v2.kind) := by rw [hW]; exact cell_keeps ((Grew.refl _).alloc _).below (show ((w.alloc (.cells #[.slice aL1 L1.length cL1, .int .i64 o1, .int .i64 v1.kind, .int .i64 v1.num, .string v1.text, .slice av1 v1.items.length cv1, .bool E1] 26)).alloc (.cells #[.slice aL2 L2.length cL2, .int .i64 o2, .int .i64 v2.kind, .int .i64 v2.num, .string v2.text, .slice av2 v2.items.length cv2, .bool E2] 26)).cell? ⟨w.heap.size + 1, 2, none⟩ = some (.int .i64 v2.kind) by rw [← World.size_alloc w (.cells #[.slice aL1 L1.length cL1, .int .i64 o1, .int .i64 v1.kind, .int .i64 v1.num, .string v1.text, .slice av1 v1.items.length cv1, .bool E1] 26)]; simp)
  have m3 : W.cell? ⟨w.heap.size + 1, 3, none⟩ = some (.int .i64 v2.num) := by rw [hW]; exact cell_keeps ((Grew.refl _).alloc _).below (show ((w.alloc (.cells #[.slice aL1 L1.length cL1, .int .i64 o1, .int .i64 v1.kind, .int .i64 v1.num, .string v1.text, .slice av1 v1.items.length cv1, .bool E1] 26)).alloc (.cells #[.slice aL2 L2.length cL2, .int .i64 o2, .int .i64 v2.kind, .int .i64 v2.num, .string v2.text, .slice av2 v2.items.length cv2, .bool E2] 26)).cell? ⟨w.heap.size + 1, 3, none⟩ = some (.int .i64 v2.num) by rw [← World.size_alloc w (.cells #[.slice aL1 L1.length cL1, .int .i64 o1, .int .i64 v1.kind, .int .i64 v1.num, .string v1.text, .slice av1 v1.items.length cv1, .bool E1] 26)]; simp)
  have m4 : W.cell? ⟨w.heap.size + 1, 4, none⟩ = some (.string v2.text) := by rw [hW]; exact cell_keeps ((Grew.refl _).alloc _).below (show ((w.alloc (.cells #[.slice aL1 L1.length cL1, .int .i64 o1, .int .i64 v1.kind, .int .i64 v1.num, .string v1.text, .slice av1 v1.items.length cv1, .bool E1] 26)).alloc (.cells #[.slice aL2 L2.length cL2, .int .i64 o2, .int .i64 v2.kind, .int .i64 v2.num, .string v2.text, .slice av2 v2.items.length cv2, .bool E2] 26)).cell? ⟨w.heap.size + 1, 4, none⟩ = some (.string v2.text) by rw [← World.size_alloc w (.cells #[.slice aL1 L1.length cL1, .int .i64 o1, .int .i64 v1.kind, .int .i64 v1.num, .string v1.text, .slice av1 v1.items.length cv1, .bool E1] 26)]; simp)
  have m5 : W.cell? ⟨w.heap.size + 1, 5, none⟩ = some (.slice av2 v2.items.length cv2) := by rw [hW]; exact cell_keeps ((Grew.refl _).alloc _).below (show ((w.alloc (.cells #[.slice aL1 L1.length cL1, .int .i64 o1, .int .i64 v1.kind, .int .i64 v1.num, .string v1.text, .slice av1 v1.items.length cv1, .bool E1] 26)).alloc (.cells #[.slice aL2 L2.length cL2, .int .i64 o2, .int .i64 v2.kind, .int .i64 v2.num, .string v2.text, .slice av2 v2.items.length cv2, .bool E2] 26)).cell? ⟨w.heap.size + 1, 5, none⟩ = some (.slice av2 v2.items.length cv2) by rw [← World.size_alloc w (.cells #[.slice aL1 L1.length cL1, .int .i64 o1, .int .i64 v1.kind, .int .i64 v1.num, .string v1.text, .slice av1 v1.items.length cv1, .bool E1] 26)]; simp)
  have m6 : W.cell? ⟨w.heap.size + 1, 6, none⟩ = some (.bool E2) := by rw [hW]; exact cell_keeps ((Grew.refl _).alloc _).below (show ((w.alloc (.cells #[.slice aL1 L1.length cL1, .int .i64 o1, .int .i64 v1.kind, .int .i64 v1.num, .string v1.text, .slice av1 v1.items.length cv1, .bool E1] 26)).alloc (.cells #[.slice aL2 L2.length cL2, .int .i64 o2, .int .i64 v2.kind, .int .i64 v2.num, .string v2.text, .slice av2 v2.items.length cv2, .bool E2] 26)).cell? ⟨w.heap.size + 1, 6, none⟩ = some (.bool E2) by rw [← World.size_alloc w (.cells #[.slice aL1 L1.length cL1, .int .i64 o1, .int .i64 v1.kind, .int .i64 v1.num, .string v1.text, .slice av1 v1.items.length cv1, .bool E1] 26)]; simp)
  have q0 : W.cell? ⟨w.heap.size + 2, 0, none⟩ = some (.int .i64 qk) := by have h9 := ask_alloc ((w.alloc (.cells #[.slice aL1 L1.length cL1, .int .i64 o1, .int .i64 v1.kind, .int .i64 v1.num, .string v1.text, .slice av1 v1.items.length cv1, .bool E1] 26)).alloc (.cells #[.slice aL2 L2.length cL2, .int .i64 o2, .int .i64 v2.kind, .int .i64 v2.num, .string v2.text, .slice av2 v2.items.length cv2, .bool E2] 26)) (.int .i64 qk) (.int .i64 qn) (.int .i64 qf) 34; rw [World.size_alloc, World.size_alloc] at h9; rw [hW]; exact h9.1
  have q1 : W.cell? ⟨w.heap.size + 2, 1, none⟩ = some (.int .i64 qn) := by have h9 := ask_alloc ((w.alloc (.cells #[.slice aL1 L1.length cL1, .int .i64 o1, .int .i64 v1.kind, .int .i64 v1.num, .string v1.text, .slice av1 v1.items.length cv1, .bool E1] 26)).alloc (.cells #[.slice aL2 L2.length cL2, .int .i64 o2, .int .i64 v2.kind, .int .i64 v2.num, .string v2.text, .slice av2 v2.items.length cv2, .bool E2] 26)) (.int .i64 qk) (.int .i64 qn) (.int .i64 qf) 34; rw [World.size_alloc, World.size_alloc] at h9; rw [hW]; exact h9.2.1
  have q2 : W.cell? ⟨w.heap.size + 2, 2, none⟩ = some (.int .i64 qf) := by have h9 := ask_alloc ((w.alloc (.cells #[.slice aL1 L1.length cL1, .int .i64 o1, .int .i64 v1.kind, .int .i64 v1.num, .string v1.text, .slice av1 v1.items.length cv1, .bool E1] 26)).alloc (.cells #[.slice aL2 L2.length cL2, .int .i64 o2, .int .i64 v2.kind, .int .i64 v2.num, .string v2.text, .slice av2 v2.items.length cv2, .bool E2] 26)) (.int .i64 qk) (.int .i64 qn) (.int .i64 qf) 34; rw [World.size_alloc, World.size_alloc] at h9; rw [hW]; exact h9.2.2.1
  have HA : Hid (∀ V, Below w.heap.size w V → Calls Tryz.prog 7 #[fromV aL1 L1.length cL1 o1 v1 (.slice av1 v1.items.length cv1) E1] V (SmPost pCK (fun n => V.heap.size ≤ n) d1 L1 E1 o1 v1 V)) := fun V hV => smade_any d1 L1 aL1 cL1 o1 v1 av1 cv1 E1 V (Lies.keeps hV _ _ _ hL1) (Lies.keeps hV _ _ _ hv1) ht1
  have HB : Hid (∀ V, Below w.heap.size w V → Calls Tryz.prog 7 #[fromV aL2 L2.length cL2 o2 v2 (.slice av2 v2.items.length cv2) E2] V (SmPost pCK (fun n => V.heap.size ≤ n) d2 L2 E2 o2 v2 V)) := fun V hV => smade_any d2 L2 aL2 cL2 o2 v2 av2 cv2 E2 V (Lies.keeps hV _ _ _ hL2) (Lies.keeps hV _ _ _ hv2) ht2
  have HC : Hid (∀ V, Below w.heap.size w V → Calls Tryz.prog 8 #[fromV aL1 L1.length cL1 o1 v1 (.slice av1 v1.items.length cv1) E1] V (SmPost dCK (fun n => n < w.heap.size ∨ V.heap.size ≤ n) d1 L1 E1 o1 v1 V)) := fun V hb => smeant_any d1 L1 aL1 cL1 o1 v1 av1 cv1 E1 w.heap.size V hb.size ((LiesX.of_lies hL1).keeps hb) ((LiesX.of_lies hv1).keeps hb) ht1
  have HD : Hid (∀ V, Below w.heap.size w V → Calls Tryz.prog 8 #[fromV aL2 L2.length cL2 o2 v2 (.slice av2 v2.items.length cv2) E2] V (SmPost dCK (fun n => n < w.heap.size ∨ V.heap.size ≤ n) d2 L2 E2 o2 v2 V)) := fun V hb => smeant_any d2 L2 aL2 cL2 o2 v2 av2 cv2 E2 w.heap.size V hb.size ((LiesX.of_lies hL2).keeps hb) ((LiesX.of_lies hv2).keeps hb) ht2
  clear hL1 hv1 ht1 hL2 hv2 ht2 hW hWs
  go_enter Tryz.func4, Tryz.ntmps4
  go_upto_region 1 with fail
  rw [← HW.out]
  clear HW
  go_wp2_with fail
  refine Calls.mono (HA.out _ hb0) ?_
  rintro e w1 ⟨g1, hres1⟩
  have hb1 : Below w.heap.size w w1 := hb0.trans (g1.mono hb0.size)
  have k0 := cell_keeps g1 k0; have k1 := cell_keeps g1 k1; have k2 := cell_keeps g1 k2; have k3 := cell_keeps g1 k3; have k4 := cell_keeps g1 k4; have k5 := cell_keeps g1 k5; have k6 := cell_keeps g1 k6; have m0 := cell_keeps g1 m0; have m1 := cell_keeps g1 m1; have m2 := cell_keeps g1 m2; have m3 := cell_keeps g1 m3; have m4 := cell_keeps g1 m4; have m5 := cell_keeps g1 m5; have m6 := cell_keeps g1 m6; have q0 := cell_keeps g1 q0; have q1 := cell_keeps g1 q1; have q2 := cell_keeps g1 q2
  clear HA
  rcases hres1 with ⟨hnox, rfl⟩ | ⟨hokx, PA, rfl, hC1, hP1⟩
  · go_wp2_with fail
    refine Calls.mono (HB.out _ hb1) ?_
    rintro e w2 ⟨g2, ⟨hnoy, rfl⟩ | ⟨hoky, PB, rfl, hC2, hP2⟩⟩
    · have hb2 : Below w.heap.size w w2 := hb1.trans (g2.mono hb1.size)
      have k0 := cell_keeps g2 k0; have k1 := cell_keeps g2 k1; have k2 := cell_keeps g2 k2; have k3 := cell_keeps g2 k3; have k4 := cell_keeps g2 k4; have k5 := cell_keeps g2 k5; have k6 := cell_keeps g2 k6; have m0 := cell_keeps g2 m0; have m1 := cell_keeps g2 m1; have m2 := cell_keeps g2 m2; have m3 := cell_keeps g2 m3; have m4 := cell_keeps g2 m4; have m5 := cell_keeps g2 m5; have m6 := cell_keeps g2 m6; have q0 := cell_keeps g2 q0; have q1 := cell_keeps g2 q1; have q2 := cell_keeps g2 q2
      go_wp2_with fail
      refine Calls.mono (HC.out _ hb2) ?_
      rintro e w3 ⟨g3, ⟨hno3, rfl⟩ | ⟨hok3, PV, rfl, hC3, hP3⟩⟩
      · have hb3 : Below w.heap.size w w3 := hb2.trans (g3.mono hb2.size)
        have m0 := cell_keeps g3 m0; have m1 := cell_keeps g3 m1; have m2 := cell_keeps g3 m2; have m3 := cell_keeps g3 m3; have m4 := cell_keeps g3 m4; have m5 := cell_keeps g3 m5; have m6 := cell_keeps g3 m6; have q0 := cell_keeps g3 q0; have q1 := cell_keeps g3 q1; have q2 := cell_keeps g3 q2
        go_wp2_with fail
        refine Calls.mono (HD.out _ hb3) ?_
        rintro e w4 ⟨g4, ⟨hno4, rfl⟩ | ⟨hok4, PU, rfl, hC4, hP4⟩⟩
        · have hb4 : Below w.heap.size w w4 := hb3.trans (g4.mono hb3.size)
          have q0 := cell_keeps g4 q0; have q1 := cell_keeps g4 q1; have q2 := cell_keeps g4 q2
          clear hb1 hb2 hb3 g1 g2 g3 g4 hb0
          go_wp2_with fail
          refine Calls.mono (HSp.out _) ?_
          rintro e wz ⟨rfl, hgz⟩
          have hbz : Below w.heap.size w wz := hb4.trans (hgz.mono hb4.size)
          clear hgz hb4
          go_wp2_with fail
          go_ret
          exact ⟨rfl, hbz⟩
        · exact absurd hok4 hnoy
      · exact absurd hok3 hnox
    · have hb2 : Below w.heap.size w w2 := hb1.trans (g2.mono hb1.size)
      have k0 := cell_keeps g2 k0; have k1 := cell_keeps g2 k1; have k2 := cell_keeps g2 k2; have k3 := cell_keeps g2 k3; have k4 := cell_keeps g2 k4; have k5 := cell_keeps g2 k5; have k6 := cell_keeps g2 k6; have m0 := cell_keeps g2 m0; have m1 := cell_keeps g2 m1; have m2 := cell_keeps g2 m2; have m3 := cell_keeps g2 m3; have m4 := cell_keeps g2 m4; have m5 := cell_keeps g2 m5; have m6 := cell_keeps g2 m6; have q0 := cell_keeps g2 q0; have q1 := cell_keeps g2 q1; have q2 := cell_keeps g2 q2
      generalize hpB : PB 0 = cB
      go_wp2_with fail
      refine Calls.mono (HC.out _ hb2) ?_
      rintro e w3 ⟨g3, ⟨hno3, rfl⟩ | ⟨hok3, PV, rfl, hC3, hP3⟩⟩
      · have hb3 : Below w.heap.size w w3 := hb2.trans (g3.mono hb2.size)
        have m0 := cell_keeps g3 m0; have m1 := cell_keeps g3 m1; have m2 := cell_keeps g3 m2; have m3 := cell_keeps g3 m3; have m4 := cell_keeps g3 m4; have m5 := cell_keeps g3 m5; have m6 := cell_keeps g3 m6; have q0 := cell_keeps g3 q0; have q1 := cell_keeps g3 q1; have q2 := cell_keeps g3 q2
        go_wp2_with fail
        refine Calls.mono (HD.out _ hb3) ?_
        rintro e w4 ⟨g4, ⟨hno4, rfl⟩ | ⟨hok4, PU, rfl, hC4, hP4⟩⟩
        · exact absurd hoky hno4
        · have hb4 : Below w.heap.size w w4 := hb3.trans (g4.mono hb3.size)
          have q0 := cell_keeps g4 q0; have q1 := cell_keeps g4 q1; have q2 := cell_keeps g4 q2
          generalize hpU : PU 0 = cU
          clear hb1 hb2 hb3 g1 g2 g3 g4 hb0
          go_wp2_with fail
          refine Calls.mono (HSp.out _) ?_
          rintro e wz ⟨rfl, hgz⟩
          have hbz : Below w.heap.size w wz := hb4.trans (hgz.mono hb4.size)
          clear hgz hb4
          go_wp2_with fail
          go_ret
          exact ⟨rfl, hbz⟩
      · exact absurd hok3 hnox
  · generalize hpA : PA 0 = cA
    go_wp2_with fail
    refine Calls.mono (HB.out _ hb1) ?_
    rintro e w2 ⟨g2, ⟨hnoy, rfl⟩ | ⟨hoky, PB, rfl, hC2, hP2⟩⟩
    · have hb2 : Below w.heap.size w w2 := hb1.trans (g2.mono hb1.size)
      have k0 := cell_keeps g2 k0; have k1 := cell_keeps g2 k1; have k2 := cell_keeps g2 k2; have k3 := cell_keeps g2 k3; have k4 := cell_keeps g2 k4; have k5 := cell_keeps g2 k5; have k6 := cell_keeps g2 k6; have m0 := cell_keeps g2 m0; have m1 := cell_keeps g2 m1; have m2 := cell_keeps g2 m2; have m3 := cell_keeps g2 m3; have m4 := cell_keeps g2 m4; have m5 := cell_keeps g2 m5; have m6 := cell_keeps g2 m6; have q0 := cell_keeps g2 q0; have q1 := cell_keeps g2 q1; have q2 := cell_keeps g2 q2
      go_wp2_with fail
      refine Calls.mono (HC.out _ hb2) ?_
      rintro e w3 ⟨g3, ⟨hno3, rfl⟩ | ⟨hok3, PV, rfl, hC3, hP3⟩⟩
      · exact absurd hokx hno3
      · have hb3 : Below w.heap.size w w3 := hb2.trans (g3.mono hb2.size)
        have m0 := cell_keeps g3 m0; have m1 := cell_keeps g3 m1; have m2 := cell_keeps g3 m2; have m3 := cell_keeps g3 m3; have m4 := cell_keeps g3 m4; have m5 := cell_keeps g3 m5; have m6 := cell_keeps g3 m6; have q0 := cell_keeps g3 q0; have q1 := cell_keeps g3 q1; have q2 := cell_keeps g3 q2
        generalize hpV : PV 0 = cV
        go_wp2_with fail
        refine Calls.mono (HD.out _ hb3) ?_
        rintro e w4 ⟨g4, ⟨hno4, rfl⟩ | ⟨hok4, PU, rfl, hC4, hP4⟩⟩
        · have hb4 : Below w.heap.size w w4 := hb3.trans (g4.mono hb3.size)
          have q0 := cell_keeps g4 q0; have q1 := cell_keeps g4 q1; have q2 := cell_keeps g4 q2
          clear hb1 hb2 hb3 g1 g2 g3 g4 hb0
          go_wp2_with fail
          refine Calls.mono (HSp.out _) ?_
          rintro e wz ⟨rfl, hgz⟩
          have hbz : Below w.heap.size w wz := hb4.trans (hgz.mono hb4.size)
          clear hgz hb4
          go_wp2_with fail
          go_ret
          exact ⟨rfl, hbz⟩
        · exact absurd hok4 hnoy
    · have hb2 : Below w.heap.size w w2 := hb1.trans (g2.mono hb1.size)
      have k0 := cell_keeps g2 k0; have k1 := cell_keeps g2 k1; have k2 := cell_keeps g2 k2; have k3 := cell_keeps g2 k3; have k4 := cell_keeps g2 k4; have k5 := cell_keeps g2 k5; have k6 := cell_keeps g2 k6; have m0 := cell_keeps g2 m0; have m1 := cell_keeps g2 m1; have m2 := cell_keeps g2 m2; have m3 := cell_keeps g2 m3; have m4 := cell_keeps g2 m4; have m5 := cell_keeps g2 m5; have m6 := cell_keeps g2 m6; have q0 := cell_keeps g2 q0; have q1 := cell_keeps g2 q1; have q2 := cell_keeps g2 q2
      generalize hpB : PB 0 = cB
      go_wp2_with fail
      refine Calls.mono (HC.out _ hb2) ?_
      rintro e w3 ⟨g3, ⟨hno3, rfl⟩ | ⟨hok3, PV, rfl, hC3, hP3⟩⟩
      · exact absurd hokx hno3
      · have hb3 : Below w.heap.size w w3 := hb2.trans (g3.mono hb2.size)
        have m0 := cell_keeps g3 m0; have m1 := cell_keeps g3 m1; have m2 := cell_keeps g3 m2; have m3 := cell_keeps g3 m3; have m4 := cell_keeps g3 m4; have m5 := cell_keeps g3 m5; have m6 := cell_keeps g3 m6; have q0 := cell_keeps g3 q0; have q1 := cell_keeps g3 q1; have q2 := cell_keeps g3 q2
        generalize hpV : PV 0 = cV
        go_wp2_with fail
        refine Calls.mono (HD.out _ hb3) ?_
        rintro e w4 ⟨g4, ⟨hno4, rfl⟩ | ⟨hok4, PU, rfl, hC4, hP4⟩⟩
        · exact absurd hoky hno4
        · have hb4 : Below w.heap.size w w4 := hb3.trans (g4.mono hb3.size)
          have q0 := cell_keeps g4 q0; have q1 := cell_keeps g4 q1; have q2 := cell_keeps g4 q2
          generalize hpU : PU 0 = cU
          have HCh : Hid (Chn pCK (fun n => W.heap.size ≤ n) w1 L1 (fromT E1 o1 v1) PA ∧ Chn pCK (fun n => w1.heap.size ≤ n) w2 L2 (fromT E2 o2 v2) PB ∧ Chn dCK (fun n => n < w.heap.size ∨ w2.heap.size ≤ n) w3 L1 (fromT E1 o1 v1) PV ∧ Chn dCK (fun n => n < w.heap.size ∨ w3.heap.size ≤ n) w4 L2 (fromT E2 o2 v2) PU ∧ (∀ j, j ≤ L1.length → w2.heap.size ≤ PV j) ∧ (∀ j, j ≤ L2.length → w3.heap.size ≤ PU j)) := ⟨hC1, hC2, hC3, hC4, hP3, hP4⟩
          have Hbs : Hid (Below w.heap.size w W ∧ Below W.heap.size W w1 ∧ Below w1.heap.size w1 w2 ∧ Below w2.heap.size w2 w3 ∧ Below w3.heap.size w3 w4) := ⟨hb0, g1, g2, g3, g4⟩
          have hlt4 : w.heap.size + 2 < w4.heap.size := cell_lt q0
          have fz : w4.frozen? ⟨w.heap.size + 2, 2, none⟩ = false := by
            have hw := HWs.out
            have b1 := (g1.frozen (p := ⟨w.heap.size + 2, 2, none⟩) (by show w.heap.size + 2 < _; omega)).trans HFz.out
            have b2 := (g2.frozen (p := ⟨w.heap.size + 2, 2, none⟩) (by show w.heap.size + 2 < _; have := g1.size; omega)).trans b1
            have b3 := (g3.frozen (p := ⟨w.heap.size + 2, 2, none⟩) (by show w.heap.size + 2 < _; have := g1.size; have := g2.size; omega)).trans b2
            exact (g4.frozen (p := ⟨w.heap.size + 2, 2, none⟩) (by show w.heap.size + 2 < _; have := g1.size; have := g2.size; have := g3.size; omega)).trans b3
          clear hC1 hC2 hC3 hC4 hP1 hP2 hP3 hP4 hb0 hb1 hb2 hb3 hb4 g1 g2 g3 g4 HFz
          by_cases c1 : 3000 < qn
          · by_cases c2 : 3000 < qf
            · have Q1 : (w4.setCell ⟨w.heap.size + 2, 2, none⟩ (.int .i64 3000)).cell? ⟨w.heap.size + 2, 1, none⟩ = some (.int .i64 qn) := setc_ne (by omega) q1
              have Q2 : (w4.setCell ⟨w.heap.size + 2, 2, none⟩ (.int .i64 3000)).cell? ⟨w.heap.size + 2, 2, none⟩ = some (.int .i64 3000) := World.cell?_setCell_same _ _ _ q2
              have HCa : Hid _ := sames_calls L1 L2 (fromT E1 o1 v1) (fromT E2 o2 v2) qn 3000 w W w1 w2 w3 w4 (w4.setCell ⟨w.heap.size + 2, 2, none⟩ (.int .i64 3000)) Hbs.out.1 Hbs.out.2.1 Hbs.out.2.2.1 Hbs.out.2.2.2.1 Hbs.out.2.2.2.2 (KC.set (B := fun m => w.heap.size ≤ m ∧ m < W.heap.size) (KC.refl _ w4) (.inl (by have := HWs.out; omega)) _) PA PB PV PU HCh.out.1 HCh.out.2.1 HCh.out.2.2.1 HCh.out.2.2.2.1 HCh.out.2.2.2.2.1 HCh.out.2.2.2.2.2
              rw [hpA, hpB, hpV, hpU] at HCa
              clear HCh hpA hpB hpV hpU
              go_wp2_with fail
              refine Calls.mono HCa.out ?_
              rintro e w5 ⟨hk5, ok, left, E5, rfl, hdoc⟩
              have q1 : w5.cell? ⟨w.heap.size + 2, 1, none⟩ = some (.int .i64 qn) := hk5.cell (a := ⟨w.heap.size + 2, 1, none⟩) (by have := HWs.out; show ¬ W.heap.size ≤ w.heap.size + 2; omega) Q1
              have q2 : w5.cell? ⟨w.heap.size + 2, 2, none⟩ = some (.int .i64 3000) := hk5.cell (a := ⟨w.heap.size + 2, 2, none⟩) (by have := HWs.out; show ¬ W.heap.size ≤ w.heap.size + 2; omega) Q2
              have HD5 : Hid _ := hdoc
              clear hk5 hdoc HCa Q1 Q2 Hbs
              go_wp2_with fail
              refine Calls.mono HD5.out ?_
              rintro e w6 ⟨rfl, hb6, M1, M2, n1, n2, n3, n4⟩
              have N1 : Hid _ := n1
              have N2 : Hid _ := n2
              have N3 : Hid _ := n3
              have N4 : Hid _ := n4
              have z1 : (ok == ok) = true := by simp
              have z2 : (left == left) = true := by simp
              have z3 : (E5 == E5) = true := by simp
              have z4 : (M1 == M1) = true := by simp
              have z5 : (M2 == M2) = true := by simp
              clear n1 n2 n3 n4 HD5 q1 q2
              go_wp2_with fail
              refine Calls.mono N1.out ?_
              rintro e w9 ⟨rfl, hw9⟩
              obtain rfl : w6 = w9 := hw9.symm
              clear hw9
              go_wp2_with fail
              refine Calls.mono N2.out ?_
              rintro e w9 ⟨rfl, hw9⟩
              obtain rfl : w6 = w9 := hw9.symm
              clear hw9
              go_wp2_with fail
              refine Calls.mono N3.out ?_
              rintro e w9 ⟨rfl, hw9⟩
              obtain rfl : w6 = w9 := hw9.symm
              clear hw9
              go_wp2_with fail
              refine Calls.mono N4.out ?_
              rintro e w9 ⟨rfl, hw9⟩
              obtain rfl : w6 = w9 := hw9.symm
              clear hw9 N1 N2 N3 N4
              go_wp2_with fail
              refine Calls.mono (HSp.out _) ?_
              rintro e wz ⟨rfl, hgz⟩
              have hbz : Below w.heap.size w wz := hb6.trans (hgz.mono hb6.size)
              clear hgz hb6
              go_wp2_with fail
              go_ret
              exact ⟨rfl, hbz⟩
            · have Q1 := q1
              have Q2 := q2
              have HCa : Hid _ := sames_calls L1 L2 (fromT E1 o1 v1) (fromT E2 o2 v2) qn qf w W w1 w2 w3 w4 w4 Hbs.out.1 Hbs.out.2.1 Hbs.out.2.2.1 Hbs.out.2.2.2.1 Hbs.out.2.2.2.2 (KC.refl _ w4) PA PB PV PU HCh.out.1 HCh.out.2.1 HCh.out.2.2.1 HCh.out.2.2.2.1 HCh.out.2.2.2.2.1 HCh.out.2.2.2.2.2
              rw [hpA, hpB, hpV, hpU] at HCa
              clear HCh hpA hpB hpV hpU
              go_wp2_with fail
              refine Calls.mono HCa.out ?_
              rintro e w5 ⟨hk5, ok, left, E5, rfl, hdoc⟩
              have q1 : w5.cell? ⟨w.heap.size + 2, 1, none⟩ = some (.int .i64 qn) := hk5.cell (a := ⟨w.heap.size + 2, 1, none⟩) (by have := HWs.out; show ¬ W.heap.size ≤ w.heap.size + 2; omega) Q1
              have q2 : w5.cell? ⟨w.heap.size + 2, 2, none⟩ = some (.int .i64 qf) := hk5.cell (a := ⟨w.heap.size + 2, 2, none⟩) (by have := HWs.out; show ¬ W.heap.size ≤ w.heap.size + 2; omega) Q2
              have HD5 : Hid _ := hdoc
              clear hk5 hdoc HCa Q1 Q2 Hbs
              go_wp2_with fail
              refine Calls.mono HD5.out ?_
              rintro e w6 ⟨rfl, hb6, M1, M2, n1, n2, n3, n4⟩
              have N1 : Hid _ := n1
              have N2 : Hid _ := n2
              have N3 : Hid _ := n3
              have N4 : Hid _ := n4
              have z1 : (ok == ok) = true := by simp
              have z2 : (left == left) = true := by simp
              have z3 : (E5 == E5) = true := by simp
              have z4 : (M1 == M1) = true := by simp
              have z5 : (M2 == M2) = true := by simp
              clear n1 n2 n3 n4 HD5 q1 q2
              go_wp2_with fail
              refine Calls.mono N1.out ?_
              rintro e w9 ⟨rfl, hw9⟩
              obtain rfl : w6 = w9 := hw9.symm
              clear hw9
              go_wp2_with fail
              refine Calls.mono N2.out ?_
              rintro e w9 ⟨rfl, hw9⟩
              obtain rfl : w6 = w9 := hw9.symm
              clear hw9
              go_wp2_with fail
              refine Calls.mono N3.out ?_
              rintro e w9 ⟨rfl, hw9⟩
              obtain rfl : w6 = w9 := hw9.symm
              clear hw9
              go_wp2_with fail
              refine Calls.mono N4.out ?_
              rintro e w9 ⟨rfl, hw9⟩
              obtain rfl : w6 = w9 := hw9.symm
              clear hw9 N1 N2 N3 N4
              go_wp2_with fail
              refine Calls.mono (HSp.out _) ?_
              rintro e wz ⟨rfl, hgz⟩
              have hbz : Below w.heap.size w wz := hb6.trans (hgz.mono hb6.size)
              clear hgz hb6
              go_wp2_with fail
              go_ret
              exact ⟨rfl, hbz⟩
          · have Q1 := q1
            have Q2 := q2
            have HCa : Hid _ := sames_calls L1 L2 (fromT E1 o1 v1) (fromT E2 o2 v2) qn qf w W w1 w2 w3 w4 w4 Hbs.out.1 Hbs.out.2.1 Hbs.out.2.2.1 Hbs.out.2.2.2.1 Hbs.out.2.2.2.2 (KC.refl _ w4) PA PB PV PU HCh.out.1 HCh.out.2.1 HCh.out.2.2.1 HCh.out.2.2.2.1 HCh.out.2.2.2.2.1 HCh.out.2.2.2.2.2
            rw [hpA, hpB, hpV, hpU] at HCa
            clear HCh hpA hpB hpV hpU
            go_wp2_with fail
            refine Calls.mono HCa.out ?_
            rintro e w5 ⟨hk5, ok, left, E5, rfl, hdoc⟩
            have q1 : w5.cell? ⟨w.heap.size + 2, 1, none⟩ = some (.int .i64 qn) := hk5.cell (a := ⟨w.heap.size + 2, 1, none⟩) (by have := HWs.out; show ¬ W.heap.size ≤ w.heap.size + 2; omega) Q1
            have q2 : w5.cell? ⟨w.heap.size + 2, 2, none⟩ = some (.int .i64 qf) := hk5.cell (a := ⟨w.heap.size + 2, 2, none⟩) (by have := HWs.out; show ¬ W.heap.size ≤ w.heap.size + 2; omega) Q2
            have HD5 : Hid _ := hdoc
            clear hk5 hdoc HCa Q1 Q2 Hbs
            go_wp2_with fail
            refine Calls.mono HD5.out ?_
            rintro e w6 ⟨rfl, hb6, M1, M2, n1, n2, n3, n4⟩
            have N1 : Hid _ := n1
            have N2 : Hid _ := n2
            have N3 : Hid _ := n3
            have N4 : Hid _ := n4
            have z1 : (ok == ok) = true := by simp
            have z2 : (left == left) = true := by simp
            have z3 : (E5 == E5) = true := by simp
            have z4 : (M1 == M1) = true := by simp
            have z5 : (M2 == M2) = true := by simp
            clear n1 n2 n3 n4 HD5 q1 q2
            go_wp2_with fail
            refine Calls.mono N1.out ?_
            rintro e w9 ⟨rfl, hw9⟩
            obtain rfl : w6 = w9 := hw9.symm
            clear hw9
            go_wp2_with fail
            refine Calls.mono N2.out ?_
            rintro e w9 ⟨rfl, hw9⟩
            obtain rfl : w6 = w9 := hw9.symm
            clear hw9
            go_wp2_with fail
            refine Calls.mono N3.out ?_
            rintro e w9 ⟨rfl, hw9⟩
            obtain rfl : w6 = w9 := hw9.symm
            clear hw9
            go_wp2_with fail
            refine Calls.mono N4.out ?_
            rintro e w9 ⟨rfl, hw9⟩
            obtain rfl : w6 = w9 := hw9.symm
            clear hw9 N1 N2 N3 N4
            go_wp2_with fail
            refine Calls.mono (HSp.out _) ?_
            rintro e wz ⟨rfl, hgz⟩
            have hbz : Below w.heap.size w wz := hb6.trans (hgz.mono hb6.size)
            clear hgz hb6
            go_wp2_with fail
            go_ret
            exact ⟨rfl, hbz⟩

end Go.Proofs.YtbhfbjbigafnpaaGreat

