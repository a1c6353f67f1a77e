/-
  CompactFunc at the sorted list 1, 2, 2.
-/
import Derived.Test.YtlbeepaolacjbabOrd
import Derived.Test.YtlbeepaolacjbabClone
import Derived.Deep.RegionHeld3
namespace Go.Proofs.Ytlbeepaolacjbab
open Go.RowKit

def intT (n : Int) : VT := ⟨2, n, ⟨#[]⟩, []⟩

theorem lies_nil (d : Nat) (w : World) : Lies d w [] (.slice none 0 0) := Lies.atLeast (d := 0) ⟨rfl, none, 0, rfl⟩ d (Nat.zero_le _)

theorem equal_ints (n m : Int) (w : World) : Calls Try.prog 16 #[.agg #[.int .i64 2, .int .i64 n, .string ⟨#[]⟩, .slice none 0 0], .agg #[.int .i64 2, .int .i64 m, .string ⟨#[]⟩, .slice none 0 0]] w fun e w' => e = .returned (.bool (cmpI n m == 0)) ∧ Grew w w' :=
  equal_any 0 (intT n) (intT m) _ _ w (lies_nil 0 w) (lies_nil 0 w)

/-- Twelve cells of three numbers. -/
structure Three (w : World) (g : Nat) (a b c : Int) : Prop where
  c0 : w.cell? ⟨g, 0, none⟩ = some (.int .i64 2)
  c1 : w.cell? ⟨g, 1, none⟩ = some (.int .i64 a)
  c2 : w.cell? ⟨g, 2, none⟩ = some (.string ⟨#[]⟩)
  c3 : w.cell? ⟨g, 3, none⟩ = some (.slice none 0 0)
  c4 : w.cell? ⟨g, 4, none⟩ = some (.int .i64 2)
  c5 : w.cell? ⟨g, 5, none⟩ = some (.int .i64 b)
  c6 : w.cell? ⟨g, 6, none⟩ = some (.string ⟨#[]⟩)
  c7 : w.cell? ⟨g, 7, none⟩ = some (.slice none 0 0)
  c8 : w.cell? ⟨g, 8, none⟩ = some (.int .i64 2)
  c9 : w.cell? ⟨g, 9, none⟩ = some (.int .i64 c)
  c10 : w.cell? ⟨g, 10, none⟩ = some (.string ⟨#[]⟩)
  c11 : w.cell? ⟨g, 11, none⟩ = some (.slice none 0 0)
  f8 : w.frozen? ⟨g, 8, none⟩ = false
  f9 : w.frozen? ⟨g, 9, none⟩ = false
  f10 : w.frozen? ⟨g, 10, none⟩ = false
  f11 : w.frozen? ⟨g, 11, none⟩ = false

theorem Three.keeps {w w' : World} {g : Nat} {a b c : Int} (h : Three w g a b c) (hb : Below w.heap.size w w') : Three w' g a b c := by
  have hl : g < w.heap.size := cell_lt h.c0
  exact ⟨cell_keeps hb h.c0, cell_keeps hb h.c1, cell_keeps hb h.c2, cell_keeps hb h.c3, cell_keeps hb h.c4, cell_keeps hb h.c5, cell_keeps hb h.c6, cell_keeps hb h.c7, cell_keeps hb h.c8, cell_keeps hb h.c9, cell_keeps hb h.c10, cell_keeps hb h.c11,
    (hb.frozen (p := ⟨g, 8, none⟩) hl).trans h.f8, (hb.frozen (p := ⟨g, 9, none⟩) hl).trans h.f9, (hb.frozen (p := ⟨g, 10, none⟩) hl).trans h.f10, (hb.frozen (p := ⟨g, 11, none⟩) hl).trans h.f11⟩

def zero4 : List Value := [.int .i64 0, .int .i64 0, .string ⟨#[]⟩, .slice none 0 0]

theorem clear_one (w : World) (ty : TypeId) (b o c : Nat) (hc : ∀ j, j < 4 → (w.cell? ⟨b, o + j, none⟩).isSome = true) (hf : ∀ j, j < 4 → w.frozen? ⟨b, o + j, none⟩ = false) :
    (Builtin.clear_ #[22] ty #[.slice (some ⟨b, o, none⟩) 1 c]).run Try.prog w = .ok (.tuple #[]) (w.setCells b o zero4) := by
  have hzc : (Builtin.zeroCells (Value.agg #[.int .i64 0, .int .i64 0, .string ⟨#[]⟩, .slice none 0 0]).cells 1).toList = zero4 := by
    kernel_rfl
  have hst := run_storeCells_cells (P := Try.prog) b o zero4 0 w (by simpa [zero4] using hc) (by simpa [zero4] using hf) (by intro v hv; simp [zero4] at hv; rcases hv with rfl | rfl | rfl <;> rfl)
  simp only [Nat.add_zero] at hst
  simp [Builtin.clear_, run_underlying Try.underlying22, hzc, hst]

theorem below_setCells (b : Nat) : ∀ (vs : List Value) (o : Nat) (w0 w : World), Below b w0 w → Below b w0 (w.setCells b o vs) := by
  intro vs
  induction vs with
  | nil => intro o w0 w h; exact h
  | cons v vs ih => intro o w0 w h; exact ih (o + 1) w0 _ (h.setCell (p := ⟨b, o, none⟩) (Nat.le_refl _) v)

set_option maxHeartbeats 1000000 in
theorem compact_122 (g cap : Nat) (w : World) (h3 : Three w g 1 2 2) (hcap : 3 ≤ cap) :
    Calls Try.prog 14 #[.slice (some ⟨g, 0, none⟩) 3 cap, .func (.func 16) #[] #[]] w fun e w' => e = .returned (.slice (some ⟨g, 0, none⟩) 2 cap) ∧ Below g w w' ∧ RowAt w' g 0 [(intT 1, .slice none 0 0), (intT 2, .slice none 0 0)] := by
  have hl : g < w.heap.size := cell_lt h3.c0
  have H3 : Hid (Three w g 1 2 2) := h3
  clear h3
  go_enter Try.func14, Try.ntmps14
  go_wp2_with fail
  go_loopg [5] 2 (fun q i wr => ((i = .int .i64 1 ∧ q = 2) ∨ (i = .int .i64 2 ∧ q = 1)) ∧ Grew w wr)
  case atStart => exact ⟨.inl ⟨rfl, rfl⟩, Grew.refl _⟩
  case round =>
    obtain ⟨hi, hbw⟩ := hrel
    obtain ⟨c0, c1, c2, c3, c4, c5, c6, c7, c8, c9, c10, c11, f8, f9, f10, f11⟩ := H3.out.keeps hbw.below
    rcases hi with ⟨rfl, hq⟩ | ⟨rfl, hq⟩
    · have Hq : Hid _ := hq
      clear hq
      have hw0 : IntKind.i64.wrap 0 = 0 := by decide
      go_wp2_with fail
      go_region_held3 (fun w' => w'.cell? ⟨g, 0, none⟩ = some (.int .i64 2) ∧ w'.cell? ⟨g, 1, none⟩ = some (.int .i64 1) ∧ w'.cell? ⟨g, 2, none⟩ = some (.string ⟨#[]⟩) ∧ w'.cell? ⟨g, 3, none⟩ = some (.slice none 0 0) ∧ w'.cell? ⟨g, 4, none⟩ = some (.int .i64 2) ∧ w'.cell? ⟨g, 5, none⟩ = some (.int .i64 2) ∧ w'.cell? ⟨g, 6, none⟩ = some (.string ⟨#[]⟩) ∧ w'.cell? ⟨g, 7, none⟩ = some (.slice none 0 0)) (go_keep)
          (first | (go_at_call 16; refine (equal_ints 2 1 _).mono ?_; rintro e w1 ⟨rfl, hb1⟩; have hb2 : Grew wr w1 := ((Grew.refl wr).drew).trans hb1; clear hb1; have r0 := cell_keeps hb2.below c0; have r1 := cell_keeps hb2.below c1; have r2 := cell_keeps hb2.below c2; have r3 := cell_keeps hb2.below c3; have r4 := cell_keeps hb2.below c4; have r5 := cell_keeps hb2.below c5; have r6 := cell_keeps hb2.below c6; have r7 := cell_keeps hb2.below c7; have r8 := cell_keeps hb2.below c8; have r9 := cell_keeps hb2.below c9; have r10 := cell_keeps hb2.below c10; have r11 := cell_keeps hb2.below c11))
      have hb3 : Grew w w1 := hbw.trans hb2
      have he : (cmpI 2 1 == 0) = false := by decide
      clear c0 c1 c2 c3 c4 c5 c6 c7 c8 c9 c10 c11 f8 f9 f10 f11 r0 r1 r2 r3 r4 r5 r6 r7 r8 r9 r10 r11 hb2 hbw hw0
      go_wp2_with fail
      go_roundg 1
      case measure => have := Hq.out; omega
      case rel => exact ⟨.inr ⟨rfl, rfl⟩, hb3⟩
    · have Hq : Hid _ := hq
      clear hq
      have hw1 : IntKind.i64.wrap 1 = 1 := by decide
      go_wp2_with fail
      go_region_held3 (fun w' => w'.cell? ⟨g, 4, none⟩ = some (.int .i64 2) ∧ w'.cell? ⟨g, 5, none⟩ = some (.int .i64 2) ∧ w'.cell? ⟨g, 6, none⟩ = some (.string ⟨#[]⟩) ∧ w'.cell? ⟨g, 7, none⟩ = some (.slice none 0 0) ∧ w'.cell? ⟨g, 8, none⟩ = some (.int .i64 2) ∧ w'.cell? ⟨g, 9, none⟩ = some (.int .i64 2) ∧ w'.cell? ⟨g, 10, none⟩ = some (.string ⟨#[]⟩) ∧ w'.cell? ⟨g, 11, none⟩ = some (.slice none 0 0)) (go_keep)
          (first | (go_at_call 16; refine (equal_ints 2 2 _).mono ?_; rintro e w1 ⟨rfl, hb1⟩; have hb2 : Grew wr w1 := ((Grew.refl wr).drew).trans hb1; clear hb1; have r0 := cell_keeps hb2.below c0; have r1 := cell_keeps hb2.below c1; have r2 := cell_keeps hb2.below c2; have r3 := cell_keeps hb2.below c3; have r4 := cell_keeps hb2.below c4; have r5 := cell_keeps hb2.below c5; have r6 := cell_keeps hb2.below c6; have r7 := cell_keeps hb2.below c7; have r8 := cell_keeps hb2.below c8; have r9 := cell_keeps hb2.below c9; have r10 := cell_keeps hb2.below c10; have r11 := cell_keeps hb2.below c11))
      have hb3 : Grew w w1 := hbw.trans hb2
      have he : (cmpI 2 2 == 0) = true := by decide
      have hlr : g < wr.heap.size := cell_lt c0
      have hl1 : g < w1.heap.size := cell_lt r0
      have f8 : w1.frozen? ⟨g, 8, none⟩ = false := (hb2.below.frozen (p := ⟨g, 8, none⟩) hlr).trans f8
      have f9 : w1.frozen? ⟨g, 9, none⟩ = false := (hb2.below.frozen (p := ⟨g, 9, none⟩) hlr).trans f9
      have f10 : w1.frozen? ⟨g, 10, none⟩ = false := (hb2.below.frozen (p := ⟨g, 10, none⟩) hlr).trans f10
      have f11 : w1.frozen? ⟨g, 11, none⟩ = false := (hb2.below.frozen (p := ⟨g, 11, none⟩) hlr).trans f11
      clear c0 c1 c2 c3 c4 c5 c6 c7 c8 c9 c10 c11
      have hcl : ∀ ty c, (Builtin.clear_ #[22] ty #[.slice (some ⟨g, 8, none⟩) 1 c]).run Try.prog w1 = .ok (.tuple #[]) (w1.setCells g 8 zero4) := fun ty c => clear_one w1 ty g 8 c
        (by intro j hj; match j, hj with
            | 0, _ => rw [r8]; rfl
            | 1, _ => rw [r9]; rfl
            | 2, _ => rw [r10]; rfl
            | 3, _ => rw [r11]; rfl)
        (by intro j hj; match j, hj with
            | 0, _ => exact f8
            | 1, _ => exact f9
            | 2, _ => exact f10
            | 3, _ => exact f11)
      have hro : RowAt (w1.setCells g 8 zero4) g 0 [(intT 1, .slice none 0 0), (intT 2, .slice none 0 0)] := by
        have out : ∀ k, k < 8 → (w1.setCells g 8 zero4).cell? ⟨g, k, none⟩ = w1.cell? ⟨g, k, none⟩ := fun k hk => World.cell?_setCells_out g zero4 8 w1 ⟨g, k, none⟩ (fun _ _ => .inl hk)
        intro i hi
        match i, hi with
        | 0, _ => exact ⟨(out 0 (by omega)).trans r0, (out 1 (by omega)).trans r1, (out 2 (by omega)).trans r2, (out 3 (by omega)).trans r3⟩
        | 1, _ => exact ⟨(out 4 (by omega)).trans r4, (out 5 (by omega)).trans r5, (out 6 (by omega)).trans r6, (out 7 (by omega)).trans r7⟩
      have hbf : Below g w (w1.setCells g 8 zero4) := below_setCells g zero4 8 w w1 (hb3.below.mono (by omega))
      have Hro : Hid (RowAt (w1.setCells g 8 zero4) g 0 [(intT 1, .slice none 0 0), (intT 2, .slice none 0 0)]) := hro
      clear hb2 hbw hw1 hro r0 r1 r2 r3 r4 r5 r6 r7 r8 r9 r10 r11 f8 f9 f10 f11 hb3
      go_wp2_with fail
      go_loopg [5, 7] 1 (fun q k i wx => k = .int .i64 2 ∧ i = .int .i64 1 ∧ wx = w1)
      case atStart => exact ⟨rfl, rfl, rfl⟩
      case round =>
        obtain ⟨rfl, rfl, rfl⟩ := hrel
        go_wp2_with fail
        go_ret
        exact ⟨rfl, hbf, Hro.out⟩

end Go.Proofs.Ytlbeepaolacjbab
