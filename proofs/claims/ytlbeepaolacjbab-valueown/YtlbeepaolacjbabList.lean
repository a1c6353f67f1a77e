/-
  The contracts of CheckAll and checkList.
-/
import Derived.Test.YtlbeepaolacjbabFit
namespace Go.Proofs.Ytlbeepaolacjbab
open Go.RowKit

/-- What rule R1 finds wrong first in a list. -/
def listErr (d : Nat) (l : List VT) : Int := if 65536 < l.length then 2 else if l.all (rightV d) then 0 else 3

set_option maxHeartbeats 1000000 in
theorem checkAll_any (d : Nat) (l : List VT) (u : Value) (w : World) (hu : Lies (d + 1) w l u) :
    Calls Try.prog 25 #[u, .func (.func 21) #[] #[]] w fun e w' => e = .returned (.int .i64 (listErr d l)) ∧ Below w.heap.size w w' := by
  obtain ⟨a, c, rfl, hb1, hr1⟩ := hu
  have Hr : Hid _ := hr1
  clear hr1
  by_cases hlong : 65536 < l.length
  · have hlong' : (65536 : Int) < (l.length : Int) := by omega
    have Hfin : Hid (listErr d l = 2) := if_pos hlong
    clear hlong
    go_enter Try.func25, Try.ntmps25
    go_wp2_with fail
    go_ret
    exact ⟨ret_int Hfin.out.symm, Below.refl _ _⟩
  · have hlong' : ¬ (65536 : Int) < (l.length : Int) := by omega
    have Hfin : Hid (listErr d l = if l.all (rightV d) then 0 else 3) := if_neg hlong
    go_enter Try.func25, Try.ntmps25
    go_wp2_with fail
    go_loopg [13] l.length (fun g i wr => ∃ j : Nat, i = .int .i64 (j : Int) ∧ j ≤ l.length ∧ g = l.length - j ∧ Hid (l.all (rightV d) = (l.drop j).all (rightV d)) ∧ Below w.heap.size w wr)
    case atStart => exact ⟨0, rfl, by omega, by omega, rfl, Below.refl _ _⟩
    case round =>
      obtain ⟨j, rfl, hj, hk, Hc, hbw⟩ := hrel
      have Hk : Hid _ := hk
      clear hk
      by_cases hlt : j < l.length
      · obtain ⟨b1, o1, rfl, hall1⟩ := Hr.out (by intro e; simp [e] at hlt)
        obtain ⟨x, p0, p1, p2, p3, p4, p5⟩ := hall1 j hlt
        clear hall1
        obtain ⟨ax, cx, rfl, _⟩ := Lies.slice p4
        have p0 := cell_keeps hbw p0; have p1 := cell_keeps hbw p1; have p2 := cell_keeps hbw p2; have p3 := cell_keeps hbw p3
        have p4 : Hid (Lies d w l[j].items (.slice ax l[j].items.length cx)) := p4
        have hl1 : b1 < wr.heap.size := cell_lt p0
        have Hd : Hid (l.drop j = l[j] :: l.drop (j + 1)) := List.drop_eq_getElem_cons hlt
        have hws2 : w.heap.size ≤ wr.heap.size := hbw.size
        go_wp2_with fail
        refine (check_any d l[j] _ _ (Lies.keeps (hbw.alloc hws2 _) _ _ _ p4.out) p5).mono ?_
        rintro e w1 ⟨rfl, hg⟩
        have hb2 : Below w.heap.size w w1 := (hbw.alloc hws2 _).trans (hg.mono (by simp; omega))
        clear hg p0 p1 p2 p3 p4
        cases hx : rightV d l[j]
        · have he : errOf false = 3 := rfl
          rw [he]
          clear he
          go_wp2_with fail
          go_ret
          exact ⟨ret_int (by rw [Hfin.out, Hc.out, Hd.out, List.all_cons, hx]; rfl), hb2⟩
        · have he : errOf true = 0 := rfl
          rw [he]
          clear he
          go_wp2_with fail
          go_roundg (l.length - (j + 1))
          case measure => have := Hk.out; omega
          case rel =>
            refine ⟨j + 1, by go_num, by omega, rfl, ?_, hb2⟩
            show _ = _
            rw [Hc.out, Hd.out, List.all_cons, hx]; rfl
      · have Hd : Hid (l.all (rightV d) = true) := by
          show _ = _
          rw [Hc.out, List.drop_eq_nil_of_le (by omega)]; rfl
        clear Hc Hr
        go_wp2_with fail
        go_ret
        exact ⟨ret_int (by rw [Hfin.out, Hd.out]; rfl), hbw⟩

theorem checkList_any (d : Nat) (l : List VT) (u : Value) (w : World) (hu : Lies (d + 1) w l u) :
    Calls Try.prog 12 #[u] w fun e w' => e = .returned (.int .i64 (listErr d l)) ∧ Below w.heap.size w w' := by
  obtain ⟨a, c, rfl, _⟩ := Lies.slice hu
  have HL : Hid (Lies (d + 1) w l (.slice a l.length c)) := hu
  clear hu
  go_enter Try.func12, Try.ntmps12
  go_wp2_with fail
  refine (checkAll_any d l _ _ HL.out).mono ?_
  rintro e w1 ⟨rfl, hb⟩
  go_wp2_with fail
  go_ret
  exact ⟨rfl, hb⟩

end Go.Proofs.Ytlbeepaolacjbab
