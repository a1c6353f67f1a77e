/-
  The contract of speaks: it answers true.
-/
import Derived.Test.YtjlhgekckbdpjaaTwo2
import Derived.Test.YtjlhgekckbdpjaaInt1
namespace Go.Proofs.Ytjlhgekckbdpjaa
open Go.RowKit

abbrev eaS : ByteArray := ⟨#[195, 169, 97]⟩
abbrev eS : ByteArray := ⟨#[195, 169]⟩

theorem ea_right : rightV 0 ⟨3, 0, eaS, []⟩ = true := by kernel_rfl
theorem ea_first : doneT 4 ⟨3, 0, eaS, []⟩ = ⟨3, 0, eS, []⟩ := by
  show firstT ⟨3, 0, eaS, []⟩ = ⟨3, 0, eS, []⟩
  unfold firstT
  rw [if_pos rfl, if_pos (show 0 < eaS.size by decide)]
  have e : firstS eaS = eS := by kernel_rfl
  rw [e]

theorem ea_times : timesE 0 4 1 ⟨3, 0, eaS, []⟩ = 0 ∧ timesT 0 4 1 ⟨3, 0, eaS, []⟩ = ⟨3, 0, eS, []⟩ := by
  have h : timesE 0 4 1 ⟨3, 0, eaS, []⟩ = 0 := by
    unfold timesE
    rw [if_neg (by omega), if_neg (by omega), if_pos ea_right]
  refine ⟨h, ?_⟩
  unfold timesT
  rw [if_pos h]
  exact ea_first

theorem four_is : isE 0 3 (intT 4) = 0 ∧ isZ 0 3 (intT 4) = true := by
  have h : isE 0 3 (intT 4) = 0 := by kernel_rfl
  refine ⟨h, ?_⟩
  unfold isZ
  rw [if_pos h]
  kernel_rfl

set_option maxHeartbeats 400000 in
theorem text_any (s : ByteArray) (w : World) : Calls Try.prog 25 #[.string s] w fun e w' => e = .returned (.agg #[.int .i64 3, .int .i64 0, .string s, .slice none 0 0]) ∧ Below w.heap.size w w' := by
  go_enter Try.func25, Try.ntmps25
  go_wp2_with fail
  exact bodyPost_ret (v := .agg #[.int .i64 3, .int .i64 0, .string s, .slice none 0 0]) (by simp [results, Try.results25, go_sem]) rfl ⟨rfl, ((Grew.refl _).alloc _).below⟩

theorem int_right0 (n : Int) : rightV 0 (intT n) = true := by
  simp [rightV, fw, rpV, ownV, okNum, okText, okItems, intT]

theorem sum_two (w : World) : Calls Try.prog 16 #[.int .i64 6, .agg #[.int .i64 2, .int .i64 60, .string ⟨#[]⟩, .slice none 0 0], .agg #[.int .i64 2, .int .i64 50, .string ⟨#[]⟩, .slice none 0 0]] w (TPost (intT 110) true 0 w) := by
  have hn : ∀ (W : World) (n : Int), Lies 16 W (intT n).items (.slice none 0 0) := fun W n => (liesX_nil (fun _ => True) 16 W none 0).lies
  have hx : ∀ (W : World) (n : Int), LiesX (fun _ => True) 16 W (intT n).items (.slice none 0 0) := fun W n => liesX_nil _ 16 W none 0
  have h := two_core 0 6 57 63 (intT 60) (intT 50) (intT 110) true (.slice none 0 0) (.slice none 0 0) w ⟨rfl, none, 0, rfl⟩ ⟨rfl, none, 0, rfl⟩ (by show 0 ≤ 9223372036854775807; omega) (by show 0 ≤ 9223372036854775807; omega) (by omega)
    (fun x y => start4_row w _ _ x y 6 (by omega)) (fun x y => start4_row2 w _ _ x y 6 (by omega)) (twoF_enters 6 (by omega)) (stopF_enters 6 (by omega))
    (fun _ _ W _ => by
      have h := add_any (fun _ => True) (intT 60) (intT 50) none none 0 0 0 0 W (hx W 60) (hx W 50)
      rw [show addT (intT 60) (intT 50) = intT 110 by kernel_rfl] at h
      exact h)
    (fun x W hl => by
      obtain ⟨a, c, rfl, _⟩ := Lies.slice hl
      exact isGreat_any (intT 110) a _ c W)
    (fun _ _ => int_right 110)
  rw [if_pos ⟨int_right0 60, int_right0 50⟩] at h
  exact h

set_option maxHeartbeats 2000000 in
theorem speaks_any (w : World) : Calls Try.prog 13 #[] w fun e w' => e = .returned (.bool true) ∧ Below w.heap.size w w' := by
  go_enter Try.func13, Try.ntmps13
  go_wp2_with fail
  refine (text_any eaS _).mono ?_
  rintro e w1 ⟨rfl, hb1⟩
  go_wp2_with fail
  refine (one_any 0 4 ⟨3, 0, eaS, []⟩ (.slice none 0 0) _ ⟨rfl, none, 0, rfl⟩ (by decide)).mono ?_
  rw [ea_times.1, ea_times.2]
  rintro e w2 ⟨u2, rfl, hl2, hb⟩
  obtain ⟨a2, c2, rfl, _⟩ := LiesX.slice hl2
  have hb2 : Below w.heap.size w w2 := hb1.trans (hb.mono hb1.size)
  have hb2' : Below w.heap.size w (w2.alloc (.cells #[.int .i64 3, .int .i64 0, .string eS, .slice a2 0 c2] 24)) := hb2.alloc hb2.size _
  have hx2 : (w2.alloc (.cells #[.int .i64 3, .int .i64 0, .string eS, .slice a2 0 c2] 24)).cell? ⟨w2.heap.size, 2, none⟩ = some (.string eS) := by simp
  have Hx2 : Hid ((w2.alloc (.cells #[.int .i64 3, .int .i64 0, .string eS, .slice a2 0 c2] 24)).cell? ⟨w2.heap.size, 2, none⟩ = some (.string eS)) := hx2
  clear hb hb1 hl2 hx2 hb2
  go_wp2_with fail
  refine (int_any 60 _).mono ?_
  rintro e w3 ⟨rfl, hg⟩
  have hb3 := hb2'.trans (hg.below.mono hb2'.size)
  have Hx3 : Hid (w3.cell? ⟨w2.heap.size, 2, none⟩ = some (.string eS)) := cell_keeps hg.below Hx2.out
  clear hg hb2' Hx2
  generalize w2.heap.size = B at *
  go_wp2_with fail
  refine (int_any 50 _).mono ?_
  rintro e w4 ⟨rfl, hg⟩
  have hb4 := hb3.trans (hg.below.mono hb3.size)
  have Hx4 : Hid (w4.cell? ⟨B, 2, none⟩ = some (.string eS)) := cell_keeps hg.below Hx3.out
  clear hg hb3 Hx3
  go_wp2_with fail
  refine (sum_two _).mono ?_
  rintro e w5 ⟨u5, rfl, hl5, hb⟩
  obtain ⟨a5, c5, rfl, _⟩ := LiesX.slice hl5
  have hb5 := hb4.trans (hb.mono hb4.size)
  have hb5' : Below w.heap.size w (w5.alloc (.cells #[.int .i64 2, .int .i64 110, .string ⟨#[]⟩, .slice a5 0 c5] 24)) := hb5.alloc hb5.size _
  have Hx5 : Hid ((w5.alloc (.cells #[.int .i64 2, .int .i64 110, .string ⟨#[]⟩, .slice a5 0 c5] 24)).cell? ⟨B, 2, none⟩ = some (.string eS)) := cell_keeps ((Grew.refl _).alloc _).below (cell_keeps hb Hx4.out)
  have Hy5 : Hid ((w5.alloc (.cells #[.int .i64 2, .int .i64 110, .string ⟨#[]⟩, .slice a5 0 c5] 24)).cell? ⟨w5.heap.size, 1, none⟩ = some (.int .i64 110)) := by show _ = _; simp
  clear hb hl5 hb4 Hx4 hb5
  have e1 : (intT 110).kind = 2 := rfl
  have e2 : (intT 110).num = 110 := rfl
  have e3 : (intT 110).text = ⟨#[]⟩ := rfl
  have e4 : (intT 110).items = [] := rfl
  rw [e1, e2, e3, e4]
  clear e1 e2 e3 e4
  go_wp2_with fail
  refine (int_any 4 _).mono ?_
  rintro e w6 ⟨rfl, hg⟩
  have hb6 := hb5'.trans (hg.below.mono hb5'.size)
  have Hx6 : Hid (w6.cell? ⟨B, 2, none⟩ = some (.string eS)) := cell_keeps hg.below Hx5.out
  have Hy6 : Hid (w6.cell? ⟨w5.heap.size, 1, none⟩ = some (.int .i64 110)) := cell_keeps hg.below Hy5.out
  clear hg hb5' Hx5 Hy5
  generalize w5.heap.size = B5 at *
  go_wp2_with fail
  refine (pis_any 0 3 (intT 4) (.slice none 0 0) _ ⟨rfl, none, 0, rfl⟩ (by show 0 ≤ 9223372036854775807; omega)).mono ?_
  rw [four_is.1, four_is.2]
  rintro e w7 ⟨rfl, hb⟩
  have hb7 := hb6.trans (hb.mono hb6.size)
  have x7 := cell_keeps hb Hx6.out
  have y7 := cell_keeps hb Hy6.out
  clear hb hb6 Hx6 Hy6
  go_wp2_with fail
  go_ret
  exact ⟨rfl, hb7⟩

end Go.Proofs.Ytjlhgekckbdpjaa
