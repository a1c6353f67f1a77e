/-
  The contract of Join.
-/
import Derived.Test.YtekoaiehhjgfiaaGreatVecM
namespace Go.Proofs.YtekoaiehhjgfiaaGreat
open Go.RowKit

theorem take_flat (vs : List (List VT × Value)) (j : Nat) (hj : j < vs.length) : (vs.take (j + 1)).flatMap (·.1) = (vs.take j).flatMap (·.1) ++ (vs[j]'hj).1 := by
  rw [List.take_succ_eq_append_getElem hj, List.flatMap_append]; simp

theorem OT.shape {d : Nat} {w : World} {l : List VT} {v : Value} (h : OT d w l v) : v = .nilIface ∨ ∃ T q, v = .iface T q := by
  rcases h with ⟨_, h⟩ | ⟨h, hn, _⟩
  · exact .inl h
  · exact .inr (nd_iface hn)

/-- Vectors joined. -/
def joinR (vs : List (List VT × Value)) : List VT ⊕ Nat := if (vs.flatMap (·.1)).length ≤ 65536 then .inl (vs.flatMap (·.1)) else .inr 2

theorem joinR_long (vs : List (List VT × Value)) (j : Nat) (h : 65536 < ((vs.take j).flatMap (·.1)).length) : joinR vs = .inr 2 := by
  unfold joinR
  rw [if_neg]
  have e : vs.flatMap (·.1) = (vs.take j).flatMap (·.1) ++ (vs.drop j).flatMap (·.1) := by rw [← List.flatMap_append, List.take_append_drop]
  rw [e, List.length_append]
  omega

set_option maxRecDepth 100000 in
set_option maxHeartbeats 8000000 in
theorem join_any (d : Nat) (vs : List (List VT × Value)) (u : Value) (w : World) (hu : SlV w (vs.map (·.2)) u) (h1 : 1 ≤ vs.length) (h2 : vs.length ≤ 65536) (hv : ∀ (i : Nat) (hi : i < vs.length), VC d w (vs[i]'hi).1 (vs[i]'hi).2 ∧ (vs[i]'hi).1.length ≤ 65536) :
    Calls Tryz.prog 139 #[u] w (VecPost d (joinR vs) w) := by
  obtain ⟨b0, o0, c0, hue, hc0, hcs⟩ := hu.full (fun e => by have := congrArg List.length e; rw [List.length_map, List.length_nil] at this; omega)
  rw [List.length_map] at hue hc0
  subst hue
  have Hcs : Hid (∀ (i : Nat) (hi : i < vs.length), w.cell? ⟨b0, o0 + i, none⟩ = some (vs[i]'hi).2) := fun i hi => by
    have := hcs i (by rw [List.length_map]; exact hi)
    rwa [List.getElem_map] at this
  have Hv : Hid (∀ (i : Nat) (hi : i < vs.length), VC d w (vs[i]'hi).1 (vs[i]'hi).2 ∧ (vs[i]'hi).1.length ≤ 65536) := hv
  obtain ⟨L, hL⟩ : ∃ L, L = vs.length := ⟨_, rfl⟩
  have HL : Hid (L = vs.length) := hL
  rw [← hL] at h1 h2 hc0 ⊢
  obtain ⟨R, hR⟩ : ∃ R, R = joinR vs := ⟨_, rfl⟩
  rw [← hR]
  have HR : Hid (R = joinR vs) := hR
  clear hu hcs hv hL hR
  go_enter Tryz.func139, Tryz.ntmps139
  go_wp2_with fail
  go_loopg [12, 4] L (fun z vi vn wr => ∃ (j S : Nat), vi = .int .i64 (j : Int) ∧ vn = .int .i64 (S : Int) ∧ j ≤ L ∧ z = L - j ∧ S ≤ 65536 ∧ Hid (S = ((vs.take j).flatMap (·.1)).length) ∧ Below w.heap.size w wr)
  case atStart => exact ⟨0, 0, rfl, rfl, by omega, by omega, by omega, by show _ = _; simp, Below.refl _ _⟩
  case round =>
    obtain ⟨j, S, rfl, rfl, hj, hk, hS, HS, hbw⟩ := hrel
    have Hk : Hid _ := hk
    clear hk
    by_cases hlt : j < L
    · have hji : (j : Int) < (L : Nat) := by omega
      have hjv : j < vs.length := by have := HL.out; omega
      have pj := cell_keeps hbw (Hcs.out j hjv)
      have hbl : b0 < wr.heap.size := cell_lt pj
      obtain ⟨q1, q2⟩ := Hv.out j hjv
      have HCl : Hid _ := vlen_any d _ _ wr (q1.keeps hbw)
      obtain ⟨S2, hS2⟩ : ∃ S2, S2 = S + (vs[j]'hjv).1.length := ⟨_, rfl⟩
      have HS2 : Hid (S2 = ((vs.take (j + 1)).flatMap (·.1)).length) := by show _ = _; rw [hS2, HS.out, take_flat vs j hjv, List.length_append]
      have hwS : IntKind.i64.wrap ((S : Int) + (((vs[j]'hjv).1.length : Nat) : Int)) = (S2 : Int) := by rw [IntKind.wrap_i64]; omega
      generalize (vs[j]'hjv).1.length = n at *
      generalize (vs[j]'hjv).2 = vj at *
      clear hS2 q1
      go_wp2_with fail
      refine Calls.mono HCl.out ?_
      rintro e w1 ⟨rfl, hg⟩
      have hbw1 : Below w.heap.size w w1 := hbw.trans (hg.mono hbw.size)
      clear HCl hg
      by_cases hbig : 65536 < S2
      · have hbi : (65536 : Int) < (S2 : Nat) := by omega
        have HE : Hid (VecPost d R w (.returned (.tuple #[.pointer none, .int .i64 2])) w1) := by
          show VecPost _ _ _ _ _
          rw [HR.out, joinR_long vs (j + 1) (by rw [← HS2.out]; exact hbig)]
          exact ⟨hbw1, rfl⟩
        go_wp2_with fail
        go_ret2
        exact HE.out
      · have hbi : ¬ (65536 : Int) < (S2 : Nat) := by omega
        go_wp2_with fail
        go_roundg (L - (j + 1))
        case measure => have := Hk.out; omega
        case rel => exact ⟨j + 1, S2, by go_num, rfl, by omega, rfl, by omega, HS2, hbw1⟩
    · have hji : ¬ (j : Int) < (L : Nat) := by omega
      have hjL : j = L := by omega
      have HAll : Hid (S = (vs.flatMap (·.1)).length) := by
        show _ = _
        rw [HS.out, List.take_of_length_le (by have := HL.out; omega)]
      clear hlt hj Hk HS hjL
      go_wp2_with fail
      go_loopg [25, 7] L (fun z vi t wq => ∃ (i : Nat), vi = .int .i64 (i : Int) ∧ i ≤ L ∧ z = L - i ∧ Hid (OT d wq ((vs.take i).flatMap (·.1)) t) ∧ Below w.heap.size w wq)
      case atStart => exact ⟨0, rfl, by omega, by omega, .inl ⟨by simp, rfl⟩, hbw⟩
      case round =>
        obtain ⟨i, rfl, hi, hk, HT, hbq⟩ := hrel
        have Hk : Hid _ := hk
        clear hk
        by_cases hlt : i < L
        · have hii : (i : Int) < (L : Nat) := by omega
          have hiv : i < vs.length := by have := HL.out; omega
          have pj := cell_keeps hbq (Hcs.out i hiv)
          have hbl : b0 < wr.heap.size := cell_lt pj
          obtain ⟨q1, q2⟩ := Hv.out i hiv
          have HCl : Hid _ := vown_any d _ _ wr (q1.keeps hbq)
          have Htf : Hid ((vs.take (i + 1)).flatMap (·.1) = (vs.take i).flatMap (·.1) ++ (vs[i]'hiv).1) := take_flat vs i hiv
          have Hsm : Hid (((vs.take i).flatMap (·.1)).length + (vs[i]'hiv).1.length ≤ 1099511627776) := by
            have e : vs.flatMap (·.1) = (vs.take (i + 1)).flatMap (·.1) ++ (vs.drop (i + 1)).flatMap (·.1) := by rw [← List.flatMap_append, List.take_append_drop]
            have h9 := HAll.out
            rw [e, List.length_append, take_flat vs i hiv, List.length_append] at h9
            show _ ≤ _
            omega
          generalize (vs[i]'hiv).1 = li at *
          generalize (vs[i]'hiv).2 = vi at *
          clear q1
          go_wp2_with fail
          refine Calls.mono HCl.out ?_
          rintro e w1 ⟨b1, t1, rfl, hc1, ht1, hg⟩
          have hbw1 : Below w.heap.size w w1 := hbq.trans (hg.mono hbq.size)
          have HJ : Hid _ := joined_any d _ _ _ t1 w1 (HT.out.keeps hg) ht1 Hsm.out
          clear HCl hg ht1
          go_wp2_with fail
          refine Calls.mono HJ.out ?_
          rintro e w2 ⟨v2, rfl, ht2, hg2⟩
          have hbw2 : Below w.heap.size w w2 := hbw1.trans (hg2.mono hbw1.size)
          have HT2 : Hid (OT d w2 ((vs.take (i + 1)).flatMap (·.1)) v2) := by show OT _ _ _ _; rw [Htf.out]; exact ht2
          clear HJ ht2 hg2 HT
          go_wp2_with fail
          go_roundg (L - (i + 1))
          case measure => have := Hk.out; omega
          case rel => exact ⟨i + 1, by go_num, by omega, rfl, HT2, hbw2⟩
        · have hii : ¬ (i : Int) < (L : Nat) := by omega
          have HE : Hid (VecPost d R w (.returned (.tuple #[.pointer (some ⟨wr.heap.size, 0, none⟩), .int .i64 0])) (wr.alloc (.cells #[u7] 80))) := by
            show VecPost _ _ _ _ _
            have h9 := HAll.out
            have e9 : R = .inl (vs.flatMap (·.1)) := by rw [HR.out]; unfold joinR; rw [if_pos (by omega)]
            rw [e9]
            have ht := HT.out
            rw [List.take_of_length_le (by have := HL.out; omega)] at ht
            exact ⟨hbq.alloc hbq.size _, wr.heap.size, rfl, VC.made ht _⟩
          rcases HT.out.shape with hz | ⟨T, q, hz⟩
          · subst hz
            clear HT
            go_wp2_with fail
            go_ret2
            exact HE.out
          · subst hz
            clear HT
            go_wp2_with fail
            go_ret2
            exact HE.out

end Go.Proofs.YtekoaiehhjgfiaaGreat

