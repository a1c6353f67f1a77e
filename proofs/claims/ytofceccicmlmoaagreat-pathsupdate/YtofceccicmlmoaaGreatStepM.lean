/-
  steps and isLeaf.
-/
import Derived.Test.YtofceccicmlmoaaGreatPutA
import Derived.Test.YtofceccicmlmoaaGreatUtf
import Derived.Test.YtofceccicmlmoaaGreatLastP
import Derived.Test.YtofceccicmlmoaaGreatWalkT
import Derived.Test.YtofceccicmlmoaaGreatRowX
import Derived.Test.YtofceccicmlmoaaGreatOpenC
import Derived.Test.YtofceccicmlmoaaGreatAppRow
namespace Go.Proofs.YtofceccicmlmoaaGreat
open Go.RowKit Go.Shelf

def txT (n : UInt8) : VT := ⟨3, 0, ⟨#[n]⟩, []⟩
def ab26 : VT := ⟨6, 0, ⟨#[]⟩, [txT 97, ⟨6, 0, ⟨#[]⟩, [txT 98, intT 1]⟩]⟩

theorem sp26_e : putE 16 nilT [txT 97, txT 98] (intT 1) = 0 := by kernel_rfl
theorem sp26_r : putR 16 nilT [txT 97, txT 98] (intT 1) = ab26 := by kernel_rfl
theorem sp26_g : getR 16 ab26 [txT 97, txT 98] = intT 1 := by kernel_rfl
theorem sp26_b : getB 16 ab26 [txT 97, txT 98] = true := by kernel_rfl
theorem sp26_c : chkE 16 ab26 [txT 97, txT 98] = 0 := by kernel_rfl
theorem sp26_n : putE 16 ⟨4, 0, ⟨#[]⟩, []⟩ [intT 3] (txT 97) = 260 := by kernel_rfl
theorem sp26_z : putR 16 ⟨4, 0, ⟨#[]⟩, []⟩ [intT 3] (txT 97) = nilT := by kernel_rfl

theorem two_lies (W : World) (x y : VT) (hx : x.items = []) (hy : y.items = []) (hxs : x.text.size ≤ 9223372036854775807) (hys : y.text.size ≤ 9223372036854775807) :
    Lies 17 (W.alloc (.cells #[.int .i64 x.kind, .int .i64 x.num, .string x.text, .slice none 0 0, .int .i64 y.kind, .int .i64 y.num, .string y.text, .slice none 0 0] 24)) [x, y] (.slice (some ⟨W.heap.size, 0, none⟩) 2 2) := by
  refine ⟨_, _, rfl, by simp, fun _ => ⟨W.heap.size, 0, rfl, fun i hi => ?_⟩⟩
  match i, hi with
  | 0, _ => exact ⟨.slice none 0 0, by simp, by simp, by simp, by simp, by simp only [List.getElem_cons_zero]; rw [hx]; exact (liesX_nil (fun _ => True) _ _ _ _).lies, hxs⟩
  | 1, _ => exact ⟨.slice none 0 0, by simp, by simp, by simp, by simp, by simp only [List.getElem_cons_succ, List.getElem_cons_zero]; rw [hy]; exact (liesX_nil (fun _ => True) _ _ _ _).lies, hys⟩

theorem one_lies26 (W : World) (x : VT) (hx : x.items = []) (hxs : x.text.size ≤ 9223372036854775807) :
    Lies 17 (W.alloc (.cells #[.int .i64 x.kind, .int .i64 x.num, .string x.text, .slice none 0 0] 24)) [x] (.slice (some ⟨W.heap.size, 0, none⟩) 1 1) := by
  refine ⟨_, _, rfl, by simp, fun _ => ⟨W.heap.size, 0, rfl, fun i hi => ?_⟩⟩
  match i, hi with
  | 0, _ => exact ⟨.slice none 0 0, by simp, by simp, by simp, by simp, by simp only [List.getElem_cons_zero]; rw [hx]; exact (liesX_nil (fun _ => True) _ _ _ _).lies, hxs⟩

theorem bz1 (V : World) (o2 o3 : Obj) : Bx (((V.drew.alloc (.cells #[.int .i64 0, .int .i64 0, .string ⟨#[]⟩, .slice none 0 0] 24)).alloc o2).alloc o3) V.heap.size zeroT (.slice none 0 0) :=
  ((bx_alloc V.drew zeroT (.slice none 0 0)).keeps ((Grew.refl _).alloc o2).below).keeps ((Grew.refl _).alloc o3).below
theorem bz2 (V : World) (o1 o3 : Obj) : Bx (((V.drew.alloc o1).alloc (.cells #[.int .i64 0, .int .i64 0, .string ⟨#[]⟩, .slice none 0 0] 24)).alloc o3) (V.heap.size + 1) zeroT (.slice none 0 0) := by
  have := (bx_alloc (V.drew.alloc o1) zeroT (.slice none 0 0)).keeps ((Grew.refl _).alloc o3).below
  rw [World.size_alloc] at this
  exact this
theorem bz3 (V : World) (o1 o2 : Obj) : Bx (((V.drew.alloc o1).alloc o2).alloc (.cells #[.int .i64 0, .int .i64 0, .string ⟨#[]⟩, .slice none 0 0] 24)) (V.heap.size + 1 + 1) zeroT (.slice none 0 0) := by
  have := bx_alloc ((V.drew.alloc o1).alloc o2) zeroT (.slice none 0 0)
  rw [World.size_alloc, World.size_alloc] at this
  exact this

/-- What region 3 holds: the two texts' boxes, and that V's blocks stay. -/
abbrev Sx26 (n1 n2 : Nat) (V W : World) : Prop := ((W.cell? ⟨n1, 0, none⟩ = some (.int .i64 3) ∧ W.cell? ⟨n1, 1, none⟩ = some (.int .i64 0) ∧ W.cell? ⟨n1, 2, none⟩ = some (.string ⟨#[97]⟩) ∧ W.cell? ⟨n1, 3, none⟩ = some (.slice none 0 0)) ∧ (W.cell? ⟨n2, 0, none⟩ = some (.int .i64 3) ∧ W.cell? ⟨n2, 1, none⟩ = some (.int .i64 0) ∧ W.cell? ⟨n2, 2, none⟩ = some (.string ⟨#[98]⟩) ∧ W.cell? ⟨n2, 3, none⟩ = some (.slice none 0 0))) ∧ Below V.heap.size V W

theorem sx_keeps {n1 n2 : Nat} {V W W' : World} (h : Sx26 n1 n2 V W) (hb : Below W.heap.size W W') : Sx26 n1 n2 V W' := by
  obtain ⟨⟨⟨a0, a1, a2, a3⟩, b0, b1, b2, b3⟩, hV⟩ := h
  exact ⟨⟨⟨cell_keeps hb a0, cell_keeps hb a1, cell_keeps hb a2, cell_keeps hb a3⟩, cell_keeps hb b0, cell_keeps hb b1, cell_keeps hb b2, cell_keeps hb b3⟩, hV.trans (hb.mono hV.size)⟩
theorem sx_drew {n1 n2 : Nat} {V W : World} (h : Sx26 n1 n2 V W) : Sx26 n1 n2 V W.drew := sx_keeps h (Below.refl _ _).drew
theorem sx_alloc {n1 n2 : Nat} {V W : World} (o : Obj) (h : Sx26 n1 n2 V W) : Sx26 n1 n2 V (W.alloc o) := sx_keeps h ((Grew.refl _).alloc o).below
theorem sx_set {n1 n2 zb : Nat} {V W : World} {v0 v1 v2 v3 : Value} (h1 : n1 < V.heap.size) (h2 : n2 < V.heap.size) (hz : V.heap.size ≤ zb) (h : Sx26 n1 n2 V W) : Sx26 n1 n2 V ((((W.setCell ⟨zb, 0, none⟩ v0).setCell ⟨zb, 1, none⟩ v1).setCell ⟨zb, 2, none⟩ v2).setCell ⟨zb, 3, none⟩ v3) := by
  obtain ⟨⟨⟨a0, a1, a2, a3⟩, b0, b1, b2, b3⟩, hV⟩ := h
  have k1 : n1 ≠ zb := by omega
  have k2 : n2 ≠ zb := by omega
  exact ⟨⟨⟨set4_k26 k1 a0, set4_k26 k1 a1, set4_k26 k1 a2, set4_k26 k1 a3⟩, set4_k26 k2 b0, set4_k26 k2 b1, set4_k26 k2 b2, set4_k26 k2 b3⟩, (((hV.setCell (p := ⟨zb, 0, none⟩) hz _).setCell (p := ⟨zb, 1, none⟩) hz _).setCell (p := ⟨zb, 2, none⟩) hz _).setCell (p := ⟨zb, 3, none⟩) hz _⟩

theorem sx_allocD {n1 n2 : Nat} {V W : World} (o : Obj) (h : Sx26 n1 n2 V W.drew) : Sx26 n1 n2 V (W.alloc o).drew := sx_alloc o h

/-- What region 5 holds. -/
abbrev Sy26 (n1 : Nat) (V W : World) : Prop := (W.cell? ⟨n1, 0, none⟩ = some (.int .i64 3) ∧ W.cell? ⟨n1, 1, none⟩ = some (.int .i64 0) ∧ W.cell? ⟨n1, 2, none⟩ = some (.string ⟨#[97]⟩) ∧ W.cell? ⟨n1, 3, none⟩ = some (.slice none 0 0)) ∧ Below V.heap.size V W
theorem sy_keeps {n1 : Nat} {V W W' : World} (h : Sy26 n1 V W) (hb : Below W.heap.size W W') : Sy26 n1 V W' := by
  obtain ⟨⟨a0, a1, a2, a3⟩, hV⟩ := h
  exact ⟨⟨cell_keeps hb a0, cell_keeps hb a1, cell_keeps hb a2, cell_keeps hb a3⟩, hV.trans (hb.mono hV.size)⟩
theorem sy_drew {n1 : Nat} {V W : World} (h : Sy26 n1 V W) : Sy26 n1 V W.drew := sy_keeps h (Below.refl _ _).drew
theorem sy_alloc {n1 : Nat} {V W : World} (o : Obj) (h : Sy26 n1 V W) : Sy26 n1 V (W.alloc o) := sy_keeps h ((Grew.refl _).alloc o).below
theorem sy_set {n1 zb : Nat} {V W : World} {v0 v1 v2 v3 : Value} (h1 : n1 < V.heap.size) (hz : V.heap.size ≤ zb) (h : Sy26 n1 V W) : Sy26 n1 V ((((W.setCell ⟨zb, 0, none⟩ v0).setCell ⟨zb, 1, none⟩ v1).setCell ⟨zb, 2, none⟩ v2).setCell ⟨zb, 3, none⟩ v3) := by
  obtain ⟨⟨a0, a1, a2, a3⟩, hV⟩ := h
  have k1 : n1 ≠ zb := by omega
  exact ⟨⟨set4_k26 k1 a0, set4_k26 k1 a1, set4_k26 k1 a2, set4_k26 k1 a3⟩, (((hV.setCell (p := ⟨zb, 0, none⟩) hz _).setCell (p := ⟨zb, 1, none⟩) hz _).setCell (p := ⟨zb, 2, none⟩) hz _).setCell (p := ⟨zb, 3, none⟩) hz _⟩

theorem sy_allocD {n1 : Nat} {V W : World} (o : Obj) (h : Sy26 n1 V W.drew) : Sy26 n1 V (W.alloc o).drew := sy_alloc o h

theorem bz1d (V : World) (o2 o3 : Obj) : Bx (((V.alloc (.cells #[.int .i64 0, .int .i64 0, .string ⟨#[]⟩, .slice none 0 0] 24)).alloc o2).alloc o3).drew V.heap.size zeroT (.slice none 0 0) := bz1 V o2 o3
theorem bz2d (V : World) (o1 o3 : Obj) : Bx (((V.alloc o1).alloc (.cells #[.int .i64 0, .int .i64 0, .string ⟨#[]⟩, .slice none 0 0] 24)).alloc o3).drew (V.heap.size + 1) zeroT (.slice none 0 0) := bz2 V o1 o3
theorem bz3d (V : World) (o1 o2 : Obj) : Bx (((V.alloc o1).alloc o2).alloc (.cells #[.int .i64 0, .int .i64 0, .string ⟨#[]⟩, .slice none 0 0] 24)).drew (V.heap.size + 1 + 1) zeroT (.slice none 0 0) := bz3 V o1 o2

theorem lies_ad {W : World} {o : Obj} {d : Nat} {l : List VT} {v : Value} (h : Lies d W.drew l v) : Lies d (W.alloc o).drew l v := Lies.keeps (w := W.drew) (w' := W.drew.alloc o) ((Grew.refl _).alloc o).below _ _ _ h
theorem two_lz (W : World) (vb : Nat) (h : vb = W.heap.size) : Lies 17 (W.alloc (.cells #[.int .i64 3, .int .i64 0, .string ⟨#[97]⟩, .slice none 0 0, .int .i64 3, .int .i64 0, .string ⟨#[98]⟩, .slice none 0 0] 24)).drew [txT 97, txT 98] (.slice (some ⟨vb, 0, none⟩) 2 2) := by
  subst h; exact two_lies W.drew (txT 97) (txT 98) rfl rfl (by show 1 ≤ _; omega) (by show 1 ≤ _; omega)
theorem one_lz (W : World) (vb : Nat) (h : vb = W.heap.size) : Lies 17 (W.alloc (.cells #[.int .i64 2, .int .i64 3, .string ⟨#[]⟩, .slice none 0 0] 24)).drew [intT 3] (.slice (some ⟨vb, 0, none⟩) 1 1) := by
  subst h; exact one_lies26 W.drew (intT 3) rfl (by show 0 ≤ _; omega)

set_option maxRecDepth 100000 in
set_option maxHeartbeats 8000000 in
theorem speaks26 (hpc : PutAll) (w : World) : Calls Tryz.prog 9 #[] w fun e w' => e = .returned (.bool true) ∧ Below w.heap.size w w' := by
  have HTx : Hid (∀ (n : UInt8) W, Calls Tryz.prog 25 #[.string ⟨#[n]⟩] W fun e w' => e = .returned (.agg #[.int .i64 3, .int .i64 0, .string ⟨#[n]⟩, .slice none 0 0]) ∧ Grew W w') := fun n W => text26 ⟨#[n]⟩ W
  have HP1 : Hid (∀ W vb, Lies 17 W [txT 97, txT 98] (.slice (some ⟨vb, 0, none⟩) 2 2) → Calls Tryz.prog 26 #[.agg #[.int .i64 0, .int .i64 0, .string ⟨#[]⟩, .slice none 0 0], .slice (some ⟨vb, 0, none⟩) 2 2, .agg #[.int .i64 2, .int .i64 1, .string ⟨#[]⟩, .slice none 0 0]] W fun e w' => ∃ u, e = .returned (.tuple #[.agg #[.int .i64 6, .int .i64 0, .string ⟨#[]⟩, u], .int .i64 0]) ∧ LiesX (fun b => W.heap.size ≤ b) 16 w' ab26.items u ∧ Below W.heap.size W w') := fun W vb h => by
    have := put_face hpc 16 nilT (intT 1) [txT 97, txT 98] (.slice none 0 0) (.slice none 0 0) _ W (liesX_nil (fun _ => True) 16 W none 0).lies (by show 0 ≤ _; omega) h (liesX_nil (fun _ => True) 16 W none 0).lies (by show 0 ≤ _; omega)
    rw [sp26_e, sp26_r] at this
    exact this
  have HG : Hid (∀ W vb a c, Lies 16 W ab26.items (.slice a 2 c) → Lies 17 W [txT 97, txT 98] (.slice (some ⟨vb, 0, none⟩) 2 2) → Calls Tryz.prog 28 #[.agg #[.int .i64 6, .int .i64 0, .string ⟨#[]⟩, .slice a 2 c], .slice (some ⟨vb, 0, none⟩) 2 2] W fun e w' => ∃ a c, e = .returned (.tuple #[.agg #[.int .i64 2, .int .i64 1, .string ⟨#[]⟩, .slice a 0 c], .bool true, .int .i64 0]) ∧ Below W.heap.size W w') := fun W vb a c h1 h2 => by
    have := get_any 16 ab26 [txT 97, txT 98] _ _ W h1 (by show 0 ≤ _; omega) h2
    rw [sp26_g, sp26_b, sp26_c] at this
    refine this.mono ?_
    rintro e w' ⟨u, rfl, hl, hb⟩
    obtain ⟨a5, c5, rfl, _⟩ := LiesX.slice hl
    exact ⟨a5, c5, rfl, hb⟩
  have HP2 : Hid (∀ W vb, Lies 17 W [intT 3] (.slice (some ⟨vb, 0, none⟩) 1 1) → Calls Tryz.prog 26 #[.agg #[.int .i64 4, .int .i64 0, .string ⟨#[]⟩, .slice none 0 0], .slice (some ⟨vb, 0, none⟩) 1 1, .agg #[.int .i64 3, .int .i64 0, .string ⟨#[97]⟩, .slice none 0 0]] W fun e w' => ∃ a c, e = .returned (.tuple #[.agg #[.int .i64 0, .int .i64 0, .string ⟨#[]⟩, .slice a 0 c], .int .i64 260]) ∧ Below W.heap.size W w') := fun W vb h => by
    have := put_face hpc 16 ⟨4, 0, ⟨#[]⟩, []⟩ (txT 97) [intT 3] (.slice none 0 0) (.slice none 0 0) _ W (liesX_nil (fun _ => True) 16 W none 0).lies (by show 0 ≤ _; omega) h (liesX_nil (fun _ => True) 16 W none 0).lies (by show 1 ≤ _; omega)
    rw [sp26_n, sp26_z] at this
    refine this.mono ?_
    rintro e w' ⟨u, rfl, hl, hb⟩
    obtain ⟨a5, c5, rfl, _⟩ := LiesX.slice hl
    exact ⟨a5, c5, rfl, hb⟩
  clear hpc
  go_enter Tryz.func9, Tryz.ntmps9
  go_wp2_with fail
  refine Calls.mono (HTx.out 97 _) ?_
  rintro e w1 ⟨rfl, hg1⟩
  have HA1 : Hid (Bx (w1.alloc (.cells #[.int .i64 3, .int .i64 0, .string ⟨#[97]⟩, .slice none 0 0] 24)) w1.heap.size (txT 97) (.slice none 0 0)) := bx_alloc w1 (txT 97) _
  have hb1 : Below w.heap.size w (w1.alloc (.cells #[.int .i64 3, .int .i64 0, .string ⟨#[97]⟩, .slice none 0 0] 24)) := hg1.below.alloc hg1.below.size _
  clear hg1
  go_wp2_with fail
  refine Calls.mono (HTx.out 98 _) ?_
  rintro e w2 ⟨rfl, hg2⟩
  have hg2 := hg2.below
  have HA2 : Hid (Bx (w2.alloc (.cells #[.int .i64 3, .int .i64 0, .string ⟨#[98]⟩, .slice none 0 0] 24)) w1.heap.size (txT 97) (.slice none 0 0)) := (HA1.out.keeps hg2).keeps ((Grew.refl _).alloc _).below
  have HB2 : Hid (Bx (w2.alloc (.cells #[.int .i64 3, .int .i64 0, .string ⟨#[98]⟩, .slice none 0 0] 24)) w2.heap.size (txT 98) (.slice none 0 0)) := bx_alloc w2 (txT 98) _
  have hb2 : Below w.heap.size w (w2.alloc (.cells #[.int .i64 3, .int .i64 0, .string ⟨#[98]⟩, .slice none 0 0] 24)) := (hb1.trans (hg2.mono hb1.size)).alloc (hb1.trans (hg2.mono hb1.size)).size _
  obtain ⟨V, hV⟩ : ∃ V, V = w2.alloc (.cells #[.int .i64 3, .int .i64 0, .string ⟨#[98]⟩, .slice none 0 0] 24) := ⟨_, rfl⟩
  have HV : Hid (V = w2.alloc (.cells #[.int .i64 3, .int .i64 0, .string ⟨#[98]⟩, .slice none 0 0] 24)) := hV
  rw [← hV] at HA2 HB2 hb2
  clear hg2 hb1 HA1 hV HTx
  generalize w1.heap.size = n1 at *
  go_upto_region 3 with fail
  rw [← HV.out]
  clear HV
  generalize w2.heap.size = n2 at *
  obtain ⟨a0, a1, a2, a3, _, _, _, _⟩ := HA2.out
  obtain ⟨b0, b1, b2, b3, _, _, _, _⟩ := HB2.out
  simp only [txT] at a0 a1 a2 b0 b1 b2
  have HF0 : Hid (∀ W, Below V.heap.size V W → ∀ u, LiesX (fun b => V.heap.size + 2 ≤ b) 16 W ab26.items u → ∃ a c, u = .slice a 2 c ∧ Hid (Bx (W.alloc (.cells #[.int .i64 6, .int .i64 0, .string ⟨#[]⟩, .slice a 2 c] 24)) W.heap.size ab26 (.slice a 2 c) ∧ Lies 16 (W.alloc (.cells #[.int .i64 6, .int .i64 0, .string ⟨#[]⟩, .slice a 2 c] 24)) ab26.items (.slice a 2 c) ∧ Below V.heap.size V (W.alloc (.cells #[.int .i64 6, .int .i64 0, .string ⟨#[]⟩, .slice a 2 c] 24)))) := fun W hW u hu => by
    obtain ⟨a, c, rfl, _⟩ := LiesX.slice hu
    exact ⟨a, c, rfl, bx_alloc W ab26 _, Lies.keeps ((Grew.refl W).alloc _).below _ _ _ hu.lies, hW.alloc hW.size _⟩
  have HFz : Hid (∀ W zb, Below V.heap.size V W → V.heap.size ≤ zb → Bx W zb zeroT (.slice none 0 0) → ∀ u, LiesX (fun b => b ≠ zb) 16 W ab26.items u → ∃ a c, u = .slice a 2 c ∧ Hid (Bx (W.setCells zb 0 (encP (ab26, .slice a 2 c))) zb ab26 (.slice a 2 c) ∧ Lies 16 (W.setCells zb 0 (encP (ab26, .slice a 2 c))) ab26.items (.slice a 2 c) ∧ Below V.heap.size V (W.setCells zb 0 (encP (ab26, .slice a 2 c))))) := fun W zb hW hz hb u hu => by
    obtain ⟨a, c, rfl, _⟩ := LiesX.slice hu
    exact ⟨a, c, rfl, hb.put _, (LiesX.set (g := zb) (fun h => h rfl) hu).lies, below_put hW hz _⟩
  go_cut [3, 4] from 12 to 20 (fun s3 s4 wx => ∃ n3 a c, s3 = .pointer (some ⟨n3, 0, none⟩) ∧ s4 = .int .i64 0 ∧ Hid (Bx wx n3 ab26 (.slice a 2 c) ∧ Lies 16 wx ab26.items (.slice a 2 c) ∧ Below V.heap.size V wx))
  case first =>
    clear HG HP2 HA2 HB2 hb2
    have hl1 : n1 < V.heap.size := cell_lt a0
    have hl2 : n2 < V.heap.size := cell_lt b0
    have HS0 : Hid (Sx26 n1 n2 V V) := ⟨⟨⟨a0, a1, a2, a3⟩, b0, b1, b2, b3⟩, Below.refl _ _⟩
    have HS1 : Hid (∀ (zb : Nat) (W : World) (v0 v1 v2 v3 : Value), V.heap.size ≤ zb → Sx26 n1 n2 V W → Sx26 n1 n2 V ((((W.setCell ⟨zb, 0, none⟩ v0).setCell ⟨zb, 1, none⟩ v1).setCell ⟨zb, 2, none⟩ v2).setCell ⟨zb, 3, none⟩ v3)) := fun zb W v0 v1 v2 v3 h1 h2 => sx_set hl1 hl2 h1 h2
    clear hl1 hl2
    go_region_held3 (fun w' => ((w'.cell? ⟨n1, 0, none⟩ = some (.int .i64 3) ∧ w'.cell? ⟨n1, 1, none⟩ = some (.int .i64 0) ∧ w'.cell? ⟨n1, 2, none⟩ = some (.string ⟨#[97]⟩) ∧ w'.cell? ⟨n1, 3, none⟩ = some (.slice none 0 0)) ∧ (w'.cell? ⟨n2, 0, none⟩ = some (.int .i64 3) ∧ w'.cell? ⟨n2, 1, none⟩ = some (.int .i64 0) ∧ w'.cell? ⟨n2, 2, none⟩ = some (.string ⟨#[98]⟩) ∧ w'.cell? ⟨n2, 3, none⟩ = some (.slice none 0 0))) ∧ Below V.heap.size V w') (first | (with_reducible exact sx_drew HS0.out) | (with_reducible exact sx_allocD _ (by assumption)) | (with_reducible exact sx_alloc _ (by assumption)) | (with_reducible exact HS4.out) | (with_reducible exact sx_alloc _ HS4.out) | (with_reducible exact HS1.out _ _ _ _ _ _ (by omega) (by assumption)) | (with_reducible assumption))
      (first
        | (go_at_call 27; (with_reducible refine Calls.mono (int_at 1 _) ?_); rintro e w3 ⟨rfl, rfl⟩)
        | (go_at_call 26; (with_reducible refine Calls.mono (HP1.out _ _ ?_) ?_); (first | (with_reducible exact two_lz _ _ (by first | with_reducible rfl | simp only [World.size_alloc])) | (with_reducible exact lies_ad (two_lz _ _ (by first | with_reducible rfl | simp only [World.size_alloc]))) | (with_reducible exact lies_ad (lies_ad (two_lz _ _ (by first | with_reducible rfl | simp only [World.size_alloc]))))); rintro e w4 ⟨u4, rfl, hl4, hb4⟩; have hS4 := sx_keeps (n1 := n1) (n2 := n2) (V := V) (by assumption) hb4; have HS4 : Hid (Sx26 n1 n2 V w4) := hS4; have hbV4 : Below V.heap.size V w4 := hS4.2; clear hS4; (first | (have HZ : Bx w4 (V.heap.size) zeroT (.slice none 0 0) := (by first | (with_reducible exact Bx.keeps (bz1d V _ _) hb4) | (with_reducible exact Bx.keeps (bz1 V _ _) hb4)); have hlz : LiesX (fun b => b ≠ V.heap.size) 16 w4 ab26.items u4 := LiesX.mono (fun b hb => by simp at hb; omega) hl4; obtain ⟨a6, c6, rfl, HF⟩ := HFz.out w4 (V.heap.size) hbV4 (by omega) HZ u4 hlz; obtain ⟨z0, z1, z2, z3, y0, y1, y2, y3⟩ := HZ; clear hlz) | (have HZ : Bx w4 (V.heap.size + 1) zeroT (.slice none 0 0) := (by first | (with_reducible exact Bx.keeps (bz2d V _ _) hb4) | (with_reducible exact Bx.keeps (bz2 V _ _) hb4)); have hlz : LiesX (fun b => b ≠ V.heap.size + 1) 16 w4 ab26.items u4 := LiesX.mono (fun b hb => by simp at hb; omega) hl4; obtain ⟨a6, c6, rfl, HF⟩ := HFz.out w4 (V.heap.size + 1) hbV4 (by omega) HZ u4 hlz; obtain ⟨z0, z1, z2, z3, y0, y1, y2, y3⟩ := HZ; clear hlz) | (have HZ : Bx w4 (V.heap.size + 1 + 1) zeroT (.slice none 0 0) := (by first | (with_reducible exact Bx.keeps (bz3d V _ _) hb4) | (with_reducible exact Bx.keeps (bz3 V _ _) hb4)); have hlz : LiesX (fun b => b ≠ V.heap.size + 1 + 1) 16 w4 ab26.items u4 := LiesX.mono (fun b hb => by simp at hb; omega) hl4; obtain ⟨a6, c6, rfl, HF⟩ := HFz.out w4 (V.heap.size + 1 + 1) hbV4 (by omega) HZ u4 hlz; obtain ⟨z0, z1, z2, z3, y0, y1, y2, y3⟩ := HZ; clear hlz) | (have hlz : LiesX (fun b => V.heap.size + 2 ≤ b) 16 w4 ab26.items u4 := LiesX.mono (fun b hb => by simp at hb; omega) hl4; obtain ⟨a6, c6, rfl, HF⟩ := HF0.out w4 hbV4 u4 hlz; clear hlz)); clear hl4 hb4 hbV4))
    all_goals (go_wp2_with fail; go_meet; exact ⟨_, a6, c6, rfl, rfl, HF⟩)
  case rest =>
    obtain ⟨n3, a, c, rfl, rfl, H3⟩ := hcut
    clear HF0 HFz HP1 a0 a1 a2 a3 b0 b1 b2 b3
    have hbw : Below w.heap.size w wc := hb2.trans (H3.out.2.2.mono hb2.size)
    have HA3 : Hid (Bx wc n1 (txT 97) (.slice none 0 0)) := HA2.out.keeps H3.out.2.2
    have HB3 : Hid (Bx wc n2 (txT 98) (.slice none 0 0)) := HB2.out.keeps H3.out.2.2
    have HC3 : Hid (Bx wc n3 ab26 (.slice a 2 c)) := H3.out.1
    obtain ⟨a0, a1, a2, a3, _, _, _, _⟩ := HA3.out
    obtain ⟨b0, b1, b2, b3, _, _, _, _⟩ := HB3.out
    obtain ⟨c0, c1, c2, c3, _, _, _, _⟩ := HC3.out
    simp only [txT] at a0 a1 a2 b0 b1 b2
    simp only [ab26] at c0 c1 c2
    have HL3 : Hid (Lies 16 (wc.alloc (.cells #[.int .i64 3, .int .i64 0, .string ⟨#[97]⟩, .slice none 0 0, .int .i64 3, .int .i64 0, .string ⟨#[98]⟩, .slice none 0 0] 24)) ab26.items (.slice a 2 c)) := Lies.keeps ((Grew.refl wc).alloc _).below _ _ _ H3.out.2.1
    have HL4 : Hid (Lies 17 (wc.alloc (.cells #[.int .i64 3, .int .i64 0, .string ⟨#[97]⟩, .slice none 0 0, .int .i64 3, .int .i64 0, .string ⟨#[98]⟩, .slice none 0 0] 24)) [txT 97, txT 98] (.slice (some ⟨wc.heap.size, 0, none⟩) 2 2)) := two_lies wc (txT 97) (txT 98) rfl rfl (by show 1 ≤ _; omega) (by show 1 ≤ _; omega)
    have HK4 : Hid (Below wc.heap.size wc (wc.alloc (.cells #[.int .i64 3, .int .i64 0, .string ⟨#[97]⟩, .slice none 0 0, .int .i64 3, .int .i64 0, .string ⟨#[98]⟩, .slice none 0 0] 24))) := ((Grew.refl wc).alloc _).below
    clear H3 HA2 HB2 hb2
    go_upto_region 4 with fail
    go_wp2_with fail
    refine Calls.mono (HG.out _ _ _ _ HL3.out HL4.out) ?_
    rintro e w5 ⟨a5, c5, rfl, hb5⟩
    have hb5 : Below wc.heap.size wc w5 := HK4.out.trans (hb5.mono HK4.out.size)
    obtain ⟨V2, hV2⟩ : ∃ V2, V2 = w5.alloc (.cells #[.int .i64 2, .int .i64 1, .string ⟨#[]⟩, .slice a5 0 c5] 24) := ⟨_, rfl⟩
    have HV2 : Hid (V2 = w5.alloc (.cells #[.int .i64 2, .int .i64 1, .string ⟨#[]⟩, .slice a5 0 c5] 24)) := hV2
    have hbV : Below wc.heap.size wc V2 := by rw [hV2]; exact hb5.alloc hb5.size _
    have HN5 : Hid (Bx V2 w5.heap.size (intT 1) (.slice a5 0 c5)) := by rw [hV2]; exact bx_alloc w5 (intT 1) _
    have HA5 : Hid (Bx V2 n1 (txT 97) (.slice none 0 0)) := HA3.out.keeps hbV
    have HC5 : Hid (Bx V2 n3 ab26 (.slice a 2 c)) := HC3.out.keeps hbV
    have HW5 : Hid (Below w.heap.size w V2) := hbw.trans (hbV.mono hbw.size)
    clear hb5 hV2 hbV HL3 HL4 HK4 HA3 HB3 HC3 HG hbw a0 a1 a2 a3 b0 b1 b2 b3 c0 c1 c2 c3
    go_upto_region 5 with fail
    rw [← HV2.out]
    clear HV2
    generalize w5.heap.size = n5 at *
    obtain ⟨a0, a1, a2, a3, _, _, _, _⟩ := HA5.out
    simp only [txT] at a0 a1 a2
    have HF0 : Hid (∀ W, Below V2.heap.size V2 W → ∀ a c, Hid (Below V2.heap.size V2 (W.alloc (.cells #[.int .i64 0, .int .i64 0, .string ⟨#[]⟩, .slice a 0 c] 24)))) := fun W hW a c => hW.alloc hW.size _
    have HFz : Hid (∀ W zb, Below V2.heap.size V2 W → V2.heap.size ≤ zb → ∀ a c, Hid (Below V2.heap.size V2 (W.setCells zb 0 (encP (nilT, .slice a 0 c))))) := fun W zb hW hz a c => below_put hW hz _
    go_cut [8, 9] from 30 to 37 (fun s8 s9 wx => s9 = .int .i64 260 ∧ Hid (Below V2.heap.size V2 wx))
    case first =>
      have hl1 : n1 < V2.heap.size := cell_lt a0
      have HS0 : Hid (Sy26 n1 V2 V2) := ⟨⟨a0, a1, a2, a3⟩, Below.refl _ _⟩
      have HS1 : Hid (∀ (zb : Nat) (W : World) (v0 v1 v2 v3 : Value), V2.heap.size ≤ zb → Sy26 n1 V2 W → Sy26 n1 V2 ((((W.setCell ⟨zb, 0, none⟩ v0).setCell ⟨zb, 1, none⟩ v1).setCell ⟨zb, 2, none⟩ v2).setCell ⟨zb, 3, none⟩ v3)) := fun zb W v0 v1 v2 v3 h1 h2 => sy_set hl1 h1 h2
      clear hl1 HN5 HA5 HC5 HW5
      go_region_held3 (fun w' => (w'.cell? ⟨n1, 0, none⟩ = some (.int .i64 3) ∧ w'.cell? ⟨n1, 1, none⟩ = some (.int .i64 0) ∧ w'.cell? ⟨n1, 2, none⟩ = some (.string ⟨#[97]⟩) ∧ w'.cell? ⟨n1, 3, none⟩ = some (.slice none 0 0)) ∧ Below V2.heap.size V2 w') (first | (with_reducible exact sy_drew HS0.out) | (with_reducible exact sy_allocD _ (by assumption)) | (with_reducible exact sy_alloc _ (by assumption)) | (with_reducible exact HS4.out) | (with_reducible exact sy_alloc _ HS4.out) | (with_reducible exact HS1.out _ _ _ _ _ _ (by omega) (by assumption)) | (with_reducible assumption))
        (first
          | (go_at_call 27; (with_reducible refine Calls.mono (int_at 3 _) ?_); rintro e w3 ⟨rfl, rfl⟩)
          | (go_at_call 26; (with_reducible refine Calls.mono (HP2.out _ _ ?_) ?_); (first | (with_reducible exact one_lz _ _ (by first | with_reducible rfl | simp only [World.size_alloc])) | (with_reducible exact lies_ad (one_lz _ _ (by first | with_reducible rfl | simp only [World.size_alloc]))) | (with_reducible exact lies_ad (lies_ad (one_lz _ _ (by first | with_reducible rfl | simp only [World.size_alloc]))))); rintro e w4 ⟨a6, c6, rfl, hb4⟩; have hS4 := sy_keeps (n1 := n1) (V := V2) (by assumption) hb4; have HS4 : Hid (Sy26 n1 V2 w4) := hS4; have hbV4 : Below V2.heap.size V2 w4 := hS4.2; clear hS4; (first | (have HZ : Bx w4 (V2.heap.size) zeroT (.slice none 0 0) := (by first | (with_reducible exact Bx.keeps (bz1d V2 _ _) hb4) | (with_reducible exact Bx.keeps (bz1 V2 _ _) hb4)); have HF := HFz.out w4 (V2.heap.size) hbV4 (by omega) a6 c6; obtain ⟨z0, z1, z2, z3, y0, y1, y2, y3⟩ := HZ) | (have HZ : Bx w4 (V2.heap.size + 1) zeroT (.slice none 0 0) := (by first | (with_reducible exact Bx.keeps (bz2d V2 _ _) hb4) | (with_reducible exact Bx.keeps (bz2 V2 _ _) hb4)); have HF := HFz.out w4 (V2.heap.size + 1) hbV4 (by omega) a6 c6; obtain ⟨z0, z1, z2, z3, y0, y1, y2, y3⟩ := HZ) | (have HZ : Bx w4 (V2.heap.size + 1 + 1) zeroT (.slice none 0 0) := (by first | (with_reducible exact Bx.keeps (bz3d V2 _ _) hb4) | (with_reducible exact Bx.keeps (bz3 V2 _ _) hb4)); have HF := HFz.out w4 (V2.heap.size + 1 + 1) hbV4 (by omega) a6 c6; obtain ⟨z0, z1, z2, z3, y0, y1, y2, y3⟩ := HZ) | (have HF := HF0.out w4 hbV4 a6 c6)); clear hb4 hbV4))
      all_goals (go_wp2_with fail; go_meet; exact ⟨rfl, HF⟩)
    case rest =>
      obtain ⟨rfl, H6⟩ := hcut
      obtain ⟨_, d1, _, _, _, _, _, _⟩ := HN5.out.keeps H6.out
      obtain ⟨c0, _, _, _, _, _, _, _⟩ := HC5.out.keeps H6.out
      simp only [intT] at d1
      simp only [ab26] at c0
      have HE : Hid (Below w.heap.size w wc) := HW5.out.trans (H6.out.mono HW5.out.size)
      clear HF0 HFz HP2 HN5 HA5 HC5 HW5 H6 a0 a1 a2 a3
      go_wp2_with fail
      exact bodyPost_ret (v := .bool true) (by simp [results, Tryz.results9, go_sem]) rfl ⟨rfl, HE.out⟩

end Go.Proofs.YtofceccicmlmoaaGreat

namespace Go.Proofs.YtofceccicmlmoaaGreat
open Go.RowKit Go.Shelf

/-- A variable that holds a value. -/
structure KeptB (W : World) (B : Nat) (s : VT) (u : Value) : Prop where
  box : Bx W B s u
  lies : Lies 16 W s.items u

theorem KeptB.keeps {W W' : World} {B : Nat} {s : VT} {u : Value} (h : KeptB W B s u) (hb : Below W.heap.size W W') : KeptB W' B s u := ⟨h.box.keeps hb, Lies.keeps hb _ _ _ h.lies⟩

theorem keptB_new {w : World} {s : VT} {u : Value} (h : Lies 16 w s.items u) : KeptB (w.alloc (.cells #[.int .i64 s.kind, .int .i64 s.num, .string s.text, u] 24)) w.heap.size s u := ⟨bx_alloc w s u, Lies.keeps ((Grew.refl w).alloc _).below _ _ _ h⟩

theorem belowB_new {w W W' : World} (h0 : Below w.heap.size w W) (h : Below W.heap.size W W') (o : Obj) : Below w.heap.size w (W'.alloc o) ∧ Below W.heap.size W (W'.alloc o) :=
  ⟨(h0.trans (h.mono h0.size)).alloc (h0.trans (h.mono h0.size)).size o, h.alloc h.size o⟩

end Go.Proofs.YtofceccicmlmoaaGreat

namespace Go.Proofs.YtofceccicmlmoaaGreat
open Go.RowKit Go.Shelf

/-- A step: what it is by, and where its part stands. -/
abbrev ST26 := (VT × Value) × Nat
def encS (p : ST26) : List Value := [.int .i64 p.1.1.kind, .int .i64 p.1.1.num, .string p.1.1.text, p.1.2, .int .i64 (p.2 : Int)]

set_option maxRecDepth 100000 in
theorem infoS : ∃ i0, Tryz.prog.info? 68 = some i0 ∧ i0.zero = some (.agg #[.int .i64 0, .int .i64 0, .string ⟨#[]⟩, .slice none 0 0, .int .i64 0]) ∧ i0.size = 5 ∧ i0.bytes = 64 := by
  refine ⟨_, rfl, ?_, ?_, ?_⟩
  all_goals kernel_rfl

/-- Steps as they should be. -/
def StepsOk (X : Nat → Prop) (t : VT) (w : World) (n : Nat) (qs : List ST26) : Prop :=
  qs.length = n ∧ ∀ j (h : j < qs.length), qs[j].2 = posN t.kind j ∧ (t.kind = 4 → qs[j].1.1 = intT j) ∧ (t.kind = 6 → t.items[2 * j]? = some qs[j].1.1) ∧ LiesX X 16 w qs[j].1.1.items qs[j].1.2 ∧ qs[j].1.1.text.size ≤ 9223372036854775807

theorem StepsOk.snoc {X : Nat → Prop} {t : VT} {w : World} {n : Nat} {qs : List ST26} (h : StepsOk X t w n qs) (p : ST26) (h1 : p.2 = posN t.kind n) (h2 : t.kind = 4 → p.1.1 = intT n) (h3 : t.kind = 6 → t.items[2 * n]? = some p.1.1) (h4 : LiesX X 16 w p.1.1.items p.1.2) (h5 : p.1.1.text.size ≤ 9223372036854775807) : StepsOk X t w (n + 1) (qs ++ [p]) := by
  refine ⟨by simp [h.1], fun j hj => ?_⟩
  by_cases hjn : j < qs.length
  · rw [List.getElem_append_left hjn]; exact h.2 j hjn
  · have hj2 : j = n := by have := h.1; simp at hj; omega
    subst hj2
    have e : (qs ++ [p])[j] = p := by rw [List.getElem_append_right (by omega)]; simp [h.1]
    rw [e]
    exact ⟨h1, h2, h3, h4, h5⟩

/-- What steps tells. -/
def StepsP (X : Nat → Prop) (t : VT) (w : World) (e : Ending) (w' : World) : Prop :=
  ∃ (v : Value) (qs : List ST26), e = .returned v ∧ Hid (w'.ownsRow (w.heap.size + 1) 68 5 v qs.length (qs.flatMap encS)) ∧ Hid (StepsOk X t w (cntN t) qs) ∧ Below w.heap.size w w'

set_option maxHeartbeats 4000000 in
theorem isLeaf_any (t : VT) (a : Option Addr) (c : Nat) (w : World) :
    Calls Tryz.prog 47 #[.agg #[.int .i64 t.kind, .int .i64 t.num, .string t.text, .slice a t.items.length c]] w fun e w' => e = .returned (.bool (leafT t)) ∧ Below w.heap.size w w' := by
  have hal : Below w.heap.size w (w.alloc (.cells #[.int .i64 t.kind, .int .i64 t.num, .string t.text, .slice a t.items.length c] 24)) := ((Grew.refl w).alloc _).below
  have e0 : t.items.isEmpty = ((t.items.length : Int) == 0) := by cases t.items with
    | nil => rfl
    | cons x l => simp; omega
  by_cases h6 : t.kind = 6
  · have e : leafT t = ((t.items.length : Int) == 0) := by unfold leafT; rw [e0, h6]; rfl
    rw [e]
    have k6 : (t.kind != 6) = false := by simpa using h6
    clear e e0 h6
    generalize t.items.length = lt at *
    go_enter Tryz.func47, Tryz.ntmps47
    go_wp2_with fail
    go_ret
    exact ⟨rfl, hal⟩
  · have k6 : (t.kind != 6) = true := by simpa using h6
    by_cases h4 : t.kind = 4
    · have e : leafT t = ((t.items.length : Int) == 0) := by unfold leafT; rw [e0, h4]; rfl
      rw [e]
      have k4 : (t.kind != 4) = false := by simpa using h4
      clear e e0 h6 h4
      generalize t.items.length = lt at *
      go_enter Tryz.func47, Tryz.ntmps47
      go_wp2_with fail
      go_ret
      exact ⟨rfl, hal⟩
    · have e : leafT t = true := by unfold leafT; simp [h6, h4]
      rw [e]
      have k4 : (t.kind != 4) = true := by simpa using h4
      clear e e0 h6 h4
      generalize t.items.length = lt at *
      go_enter Tryz.func47, Tryz.ntmps47
      go_wp2_with fail
      go_ret
      exact ⟨rfl, hal⟩

set_option maxRecDepth 100000 in
set_option maxHeartbeats 8000000 in
theorem steps_any (X : Nat → Prop) (t : VT) (a : Option Addr) (c : Nat) (w : World) (h : LiesX X 16 w t.items (.slice a t.items.length c)) (hl : t.items.length ≤ 1024) (hk : t.kind = 4 ∨ t.kind = 6) :
    Calls Tryz.prog 48 #[.agg #[.int .i64 t.kind, .int .i64 t.num, .string t.text, .slice a t.items.length c]] w (StepsP X t w) := by
  obtain ⟨i0, hi, hz0, hz1, hz2⟩ := infoS
  have Hi : Hid _ := hi; have Hz0 : Hid _ := hz0; have Hz1 : Hid _ := hz1; have Hz2 : Hid _ := hz2
  clear hi hz0 hz1 hz2
  have HX : Hid (Bx (w.alloc (.cells #[.int .i64 t.kind, .int .i64 t.num, .string t.text, .slice a t.items.length c] 24)) w.heap.size t (.slice a t.items.length c)) := bx_alloc w t _
  have hal : Below w.heap.size w (w.alloc (.cells #[.int .i64 t.kind, .int .i64 t.num, .string t.text, .slice a t.items.length c] 24)) := ((Grew.refl w).alloc _).below
  obtain ⟨W0, hW0⟩ : ∃ W0, W0 = w.alloc (.cells #[.int .i64 t.kind, .int .i64 t.num, .string t.text, .slice a t.items.length c] 24) := ⟨_, rfl⟩
  have HW0 : Hid (W0 = w.alloc (.cells #[.int .i64 t.kind, .int .i64 t.num, .string t.text, .slice a t.items.length c] 24)) := hW0
  have hs0 : W0.heap.size = w.heap.size + 1 := by rw [hW0]; simp
  rw [← hW0] at HX hal
  clear hW0
  have HL : Hid (LiesX X 16 w t.items (.slice a t.items.length c)) := h
  obtain ⟨N, hN⟩ : ∃ N, N = t.items.length := ⟨_, rfl⟩
  have HN : Hid (N = t.items.length) := hN
  have hNl : N ≤ 1024 := by omega
  have Hs0 : Hid (W0.heap.size = w.heap.size + 1) := hs0
  obtain ⟨t0, t1, t2, t3, _, _, _, _⟩ := HX.out
  have Hk : Hid (t.kind = 4 ∨ t.kind = 6) := hk
  rw [← hN] at HX HW0 t3 ⊢
  clear h hl hN hs0
  rcases hk with h4 | h6
  · have k4 : (t.kind == 4) = true := by rw [h4]; rfl
    have HK : Hid (t.kind = 4) := h4
    clear h4
    go_enter Tryz.func48, Tryz.ntmps48
    go_upto_region 1 with fail
    rw [← HW0.out]
    clear HW0
    go_wp2_with fail
    go_loopg [3, 8] N (fun g v i wr => ∃ (j : Nat) (qs : List ST26), i = .int .i64 (j : Int) ∧ j ≤ N ∧ g = N - j ∧ Hid (StepsOk X t w (j) qs) ∧ Hid (wr.ownsRow W0.heap.size 68 5 v (j) (qs.flatMap encS)) ∧ Below W0.heap.size W0 wr)
    case atStart => exact ⟨0, [], rfl, by omega, by omega, ⟨rfl, fun j h => by simp at h⟩, World.ownsRow_nil _ _ _ _, Below.refl _ _⟩
    case round =>
      obtain ⟨j, qs, rfl, hj, hg, Hok, Hown, hbw⟩ := hrel
      have Hg : Hid _ := hg
      clear hg
      have t0 := cell_keeps hbw t0; have t3 := cell_keeps hbw t3
      by_cases hlt : j < N
      · have hji : (j : Int) < (N : Int) := by omega
        go_wp2_with (first
          | (at_builtin; refine wpList_append_own _ rfl _ _ 65 rfl W0.heap.size 68 i0 (.agg #[.int .i64 0, .int .i64 0, .string ⟨#[]⟩, .slice none 0 0, .int .i64 0]) 5 64 Tryz.underlying65 Hi.out Hz0.out Hz1.out Hz2.out rfl (by decide) _ _ _ rfl (own_keeps Hown.out ((Below.refl _ _).alloc (Nat.le_refl _) _)) ⟨wr.heap.size, 0, none⟩ 1 1 [.int .i64 2, .int .i64 (j : Int), .string ⟨#[]⟩, .slice none 0 0, .int .i64 (j : Int)] rfl rfl ?c1 ?c2 ?c3 ?c4 ?c5 ?_))
        try
          case c1 =>
            intro q u hq
            match q, hq with
            | 0, hq => simp at hq; subst hq; simp [Addr.add]
            | 1, hq => simp at hq; subst hq; simp [Addr.add]
            | 2, hq => simp at hq; subst hq; simp [Addr.add]
            | 3, hq => simp at hq; subst hq; simp [Addr.add]
            | 4, hq => simp at hq; subst hq; simp [Addr.add]
        case c2 => first | (intro u hu; simp at hu; rcases hu with rfl | rfl | rfl | rfl | rfl <;> rfl) | (refine ⟨rfl, rfl, rfl, rfl, rfl⟩)
        case c3 => unfold maxLen; omega
        case c4 => omega
        case c5 => have := hbw.size; simp; omega
        intro v' w2 hown' hgrow _
        have hb2 : Below W0.heap.size W0 w2 := (hbw.alloc hbw.size _).grown hgrow (by have := hbw.size; simp; omega) (by
          intro k hk
          rcases Hown.out.2 with ⟨hv, _⟩ | ⟨g, cap', cur, hv, hbs, _⟩
          · rw [hv] at hk; cases hk
          · rw [hv] at hk; simp [Value.ownBlock] at hk; omega)
        have Hown2 : Hid (w2.ownsRow W0.heap.size 68 5 v' (j + 1) ((qs ++ [((intT j, Value.slice none 0 0), j)]).flatMap encS)) := by
          show World.ownsRow _ _ _ _ _ _ _
          rw [List.flatMap_append, List.flatMap_cons, List.flatMap_nil, List.append_nil]
          exact hown'
        clear Hown hgrow hown'
        go_wp2_with fail
        go_roundg (N - (j + 1))
        case measure => have := Hg.out; omega
        case rel =>
          refine ⟨j + 1, _, by go_num, by omega, rfl, ?_, Hown2, hb2⟩
          exact Hok.out.snoc _ (by show j = posN t.kind j; unfold posN; rw [if_pos HK.out]) (fun _ => rfl) (fun h => by have := HK.out; omega) (liesX_nil _ _ _ _ _) (by show 0 ≤ _; omega)
      · have hjN : j = N := by omega
        have hji : ¬ (j : Int) < (N : Int) := by omega
        have hcnt : cntN t = j := by
          unfold cntN
          have h1 := HK.out
          have h2 := HN.out
          rw [if_pos h1]; omega
        have Hfin : Hid (StepsOk X t w (cntN t) qs) := by rw [hcnt]; exact Hok
        have Hown2 : Hid (wr.ownsRow (w.heap.size + 1) 68 5 u3 qs.length (qs.flatMap encS)) := by
          show World.ownsRow _ _ _ _ _ _ _
          rw [Hok.out.1, ← Hs0.out]; exact Hown
        have hbz : Below w.heap.size w wr := hal.trans (hbw.mono hal.size)
        have HJ : Hid (j = N) := hjN
        clear hjN hcnt Hok Hown hbw t0 t3
        go_wp2_with fail
        go_ret
        exact ⟨_, qs, rfl, Hown2, Hfin, hbz⟩
  · by_cases hem : t.items = []
    · have HEm : Hid (t.items = []) := hem
      clear hem
      have k4 : (t.kind == 4) = false := by rw [h6]; rfl
      have HK : Hid (t.kind = 6) := h6
      clear h6
      go_enter Tryz.func48, Tryz.ntmps48
      go_upto_region 1 with fail
      rw [← HW0.out]
      clear HW0
      go_wp2_with fail
      go_loopg [3, 8] N (fun g v i wr => ∃ (j : Nat) (qs : List ST26), i = .int .i64 (j : Int) ∧ j ≤ N ∧ g = N - j ∧ Hid (StepsOk X t w (j / 2) qs) ∧ Hid (wr.ownsRow W0.heap.size 68 5 v (j / 2) (qs.flatMap encS)) ∧ Below W0.heap.size W0 wr)
      case atStart => exact ⟨0, [], rfl, by omega, by omega, ⟨rfl, fun j h => by simp at h⟩, World.ownsRow_nil _ _ _ _, Below.refl _ _⟩
      case round =>
        obtain ⟨j, qs, rfl, hj, hg, Hok, Hown, hbw⟩ := hrel
        have Hg : Hid _ := hg
        clear hg
        have t0 := cell_keeps hbw t0; have t3 := cell_keeps hbw t3
        by_cases hlt : j < N
        · have hji : (j : Int) < (N : Int) := by omega
          exfalso
          have h1 := HN.out
          rw [HEm.out] at h1
          simp at h1
          omega
        · have hjN : j = N := by omega
          have hji : ¬ (j : Int) < (N : Int) := by omega
          have hcnt : cntN t = j / 2 := by
            unfold cntN
            have h1 := HK.out
            have h2 := HN.out
            rw [if_neg (by omega)]; omega
          have Hfin : Hid (StepsOk X t w (cntN t) qs) := by rw [hcnt]; exact Hok
          have Hown2 : Hid (wr.ownsRow (w.heap.size + 1) 68 5 u3 qs.length (qs.flatMap encS)) := by
            show World.ownsRow _ _ _ _ _ _ _
            rw [Hok.out.1, ← Hs0.out]; exact Hown
          have hbz : Below w.heap.size w wr := hal.trans (hbw.mono hal.size)
          have HJ : Hid (j = N) := hjN
          clear hjN hcnt Hok Hown hbw t0 t3
          go_wp2_with fail
          go_ret
          exact ⟨_, qs, rfl, Hown2, Hfin, hbz⟩
    · have hL0 : LiesX X 16 w t.items (.slice a t.items.length c) := HL.out
      obtain ⟨a', c', hv, _, hrow⟩ := hL0
      injection hv with e1 _ e3
      subst e1
      subst e3
      obtain ⟨b, o, ha, hXb, hall⟩ := hrow hem
      have HAll : Hid (∀ (i : Nat) (h : i < t.items.length), ∃ u, w.cell? ⟨b, o + i * 4, none⟩ = some (.int .i64 (t.items[i]'h).kind) ∧ w.cell? ⟨b, o + i * 4 + 1, none⟩ = some (.int .i64 (t.items[i]'h).num) ∧ w.cell? ⟨b, o + i * 4 + 2, none⟩ = some (.string (t.items[i]'h).text) ∧ w.cell? ⟨b, o + i * 4 + 3, none⟩ = some u ∧ LiesX X 15 w (t.items[i]'h).items u ∧ (t.items[i]'h).text.size ≤ 9223372036854775807) := hall
      clear hall hrow hXb hem HL
      subst ha
      have k4 : (t.kind == 4) = false := by rw [h6]; rfl
      have HK : Hid (t.kind = 6) := h6
      clear h6
      go_enter Tryz.func48, Tryz.ntmps48
      go_upto_region 1 with fail
      rw [← HW0.out]
      clear HW0
      go_wp2_with fail
      go_loopg [3, 8] N (fun g v i wr => ∃ (j : Nat) (qs : List ST26), i = .int .i64 (j : Int) ∧ j ≤ N ∧ g = N - j ∧ Hid (StepsOk X t w (j / 2) qs) ∧ Hid (wr.ownsRow W0.heap.size 68 5 v (j / 2) (qs.flatMap encS)) ∧ Below W0.heap.size W0 wr)
      case atStart => exact ⟨0, [], rfl, by omega, by omega, ⟨rfl, fun j h => by simp at h⟩, World.ownsRow_nil _ _ _ _, Below.refl _ _⟩
      case round =>
        obtain ⟨j, qs, rfl, hj, hg, Hok, Hown, hbw⟩ := hrel
        have Hg : Hid _ := hg
        clear hg
        have t0 := cell_keeps hbw t0; have t3 := cell_keeps hbw t3
        by_cases hlt : j < N
        · have hji : (j : Int) < (N : Int) := by omega
          by_cases hp : j % 2 = 1
          · obtain ⟨k, hk⟩ : ∃ k, j = k + 1 := ⟨j - 1, by omega⟩
            have hkN : k < t.items.length := by have := HN.out; omega
            obtain ⟨u, p0, p1, p2, p3, p4, p5⟩ := HAll.out k hkN
            obtain ⟨au, cu, rfl, hul⟩ := LiesX.slice p4
            have hbw0 : Below w.heap.size w wr := hal.trans (hbw.mono hal.size)
            replace p0 := cell_keeps hbw0 p0; replace p1 := cell_keeps hbw0 p1; replace p2 := cell_keeps hbw0 p2; replace p3 := cell_keeps hbw0 p3
            obtain ⟨x, hx⟩ : ∃ x, x = t.items[k] := ⟨_, rfl⟩
            have Hx : Hid (t.items[k]? = some x) := by show _ = _; rw [hx]; exact List.getElem?_eq_getElem hkN
            have Hp4 : Hid (LiesX X 16 w x.items (.slice au x.items.length cu)) := by rw [hx]; exact LiesX.deeper p4
            have Hp5 : Hid (x.text.size ≤ 9223372036854775807) := by rw [hx]; exact p5
            rw [← hx] at p0 p1 p2 p3
            have Hj : Hid (j = k + 1) := hk
            have hrm : (j : Int) % 2 = 1 := by omega
            have hsb : IntKind.i64.wrap ((j : Int) - 1) = (k : Int) := by rw [IntKind.wrap_i64]; omega
            have hki : (k : Int) < (N : Int) := by omega
            have Hhalf : Hid ((j + 1) / 2 = j / 2 + 1 ∧ 2 * (j / 2) = k ∧ j = 2 * (j / 2) + 1) := by show _ ∧ _; omega
            have hj2 : j / 2 ≤ 1024 := by omega
            clear hx p4 p5 hk hp hbw0 hul hkN
            generalize x.items.length = lx at *
            go_wp2_with (first
              | (at_builtin; refine wpList_append_own _ rfl _ _ 65 rfl W0.heap.size 68 i0 (.agg #[.int .i64 0, .int .i64 0, .string ⟨#[]⟩, .slice none 0 0, .int .i64 0]) 5 64 Tryz.underlying65 Hi.out Hz0.out Hz1.out Hz2.out rfl (by decide) _ _ _ rfl (own_keeps Hown.out ((Below.refl _ _).alloc (Nat.le_refl _) _)) ⟨wr.heap.size, 0, none⟩ 1 1 [.int .i64 x.kind, .int .i64 x.num, .string x.text, .slice au lx cu, .int .i64 (j : Int)] rfl rfl ?c1 ?c2 ?c3 ?c4 ?c5 ?_))
            try
              case c1 =>
                intro q u hq
                match q, hq with
                | 0, hq => simp at hq; subst hq; simp [Addr.add]
                | 1, hq => simp at hq; subst hq; simp [Addr.add]
                | 2, hq => simp at hq; subst hq; simp [Addr.add]
                | 3, hq => simp at hq; subst hq; simp [Addr.add]
                | 4, hq => simp at hq; subst hq; simp [Addr.add]
            case c2 => first | (intro u hu; simp at hu; rcases hu with rfl | rfl | rfl | rfl | rfl <;> rfl) | (refine ⟨rfl, rfl, rfl, rfl, rfl⟩)
            case c3 => unfold maxLen; omega
            case c4 => omega
            case c5 => have := hbw.size; simp; omega
            intro v' w2 hown' hgrow _
            have hb2 : Below W0.heap.size W0 w2 := (hbw.alloc hbw.size _).grown hgrow (by have := hbw.size; simp; omega) (by
              intro k hk
              rcases Hown.out.2 with ⟨hv, _⟩ | ⟨g, cap', cur, hv, hbs, _⟩
              · rw [hv] at hk; cases hk
              · rw [hv] at hk; simp [Value.ownBlock] at hk; omega)
            have Hown2 : Hid (w2.ownsRow W0.heap.size 68 5 v' (j / 2 + 1) ((qs ++ [((x, Value.slice au lx cu), j)]).flatMap encS)) := by
              show World.ownsRow _ _ _ _ _ _ _
              rw [List.flatMap_append, List.flatMap_cons, List.flatMap_nil, List.append_nil]
              exact hown'
            clear Hown hgrow hown'
            go_wp2_with fail
            go_roundg (N - (j + 1))
            case measure => have := Hg.out; omega
            case rel =>
              refine ⟨j + 1, qs ++ [((x, Value.slice au lx cu), j)], by go_num, by omega, rfl, ?_, ?_, hb2⟩
              · rw [Hhalf.out.1]
                exact Hok.out.snoc _ (by show j = posN t.kind (j / 2); unfold posN; rw [if_neg (by have := HK.out; omega)]; exact Hhalf.out.2.2) (fun h => by have := HK.out; omega) (fun _ => by rw [Hhalf.out.2.1]; exact Hx.out) Hp4.out Hp5.out
              · rw [Hhalf.out.1]; exact Hown2
          · have hrm : (j : Int) % 2 = 0 := by omega
            have Hhalf : Hid ((j + 1) / 2 = j / 2) := by show _ = _; omega
            clear hp
            go_wp2_with fail
            go_roundg (N - (j + 1))
            case measure => have := Hg.out; omega
            case rel =>
              refine ⟨j + 1, qs, by go_num, by omega, rfl, ?_, ?_, hbw⟩
              · rw [Hhalf.out]; exact Hok
              · rw [Hhalf.out]; exact Hown
        · have hjN : j = N := by omega
          have hji : ¬ (j : Int) < (N : Int) := by omega
          have hcnt : cntN t = j / 2 := by
            unfold cntN
            have h1 := HK.out
            have h2 := HN.out
            rw [if_neg (by omega)]; omega
          have Hfin : Hid (StepsOk X t w (cntN t) qs) := by rw [hcnt]; exact Hok
          have Hown2 : Hid (wr.ownsRow (w.heap.size + 1) 68 5 u3 qs.length (qs.flatMap encS)) := by
            show World.ownsRow _ _ _ _ _ _ _
            rw [Hok.out.1, ← Hs0.out]; exact Hown
          have hbz : Below w.heap.size w wr := hal.trans (hbw.mono hal.size)
          have HJ : Hid (j = N) := hjN
          clear hjN hcnt Hok Hown hbw t0 t3
          go_wp2_with fail
          go_ret
          exact ⟨_, qs, rfl, Hown2, Hfin, hbz⟩

end Go.Proofs.YtofceccicmlmoaaGreat

