/-
  The contract of the document's Listed: the errors of a list of values are the program's.
-/
import Derived.Test.YtofceccicmlmoaaGreatLevel
import Derived.Test.YtofceccicmlmoaaGreatList
namespace Go.Proofs.YtofceccicmlmoaaGreat
open Go.RowKit

set_option maxHeartbeats 1000000 in
theorem listed_any (d : Nat) (l : List VT) (u : Value) (w : World) (hu : Lies (d + 1) w l u) :
    Calls Tryz.prog 38 #[u] w fun e w' => e = .returned (.int .i64 (listErr d l)) ∧ Below w.heap.size w w' := by
  obtain ⟨a, c, rfl, hb1, hr1⟩ := hu
  have Hr : Hid _ := hr1
  clear hr1
  by_cases hl : 65536 < l.length
  · have hl' : (65536 : Int) < (l.length : Nat) := by omega
    have hz : Hid (listErr d l = 2) := by show _ = _; unfold listErr; rw [if_pos hl]
    clear Hr
    go_enter Tryz.func38, Tryz.ntmps38
    go_wp2_with fail
    go_ret
    rw [hz.out]
    exact ⟨rfl, Below.refl _ _⟩
  · have hl' : ¬ ((65536 : Int) < (l.length : Nat)) := by omega
    have hz : Hid (listErr d l = if l.all (rightV d) then 0 else 3) := by show _ = _; unfold listErr; rw [if_neg hl]
    go_enter Tryz.func38, Tryz.ntmps38
    go_wp2_with fail
    go_loopg [10] l.length (fun g i wr => ∃ j : Nat, i = .int .i64 (j : Int) ∧ j ≤ l.length ∧ g = l.length - j ∧ Hid (l.all (rightV d) = (l.drop j).all (rightV d)) ∧ Below w.heap.size w wr)
    case atStart => exact ⟨0, rfl, by omega, by omega, rfl, Below.refl _ _⟩
    case round =>
      obtain ⟨j, rfl, hj, hk, Hc, hbw⟩ := hrel
      have Hk : Hid _ := hk
      clear hk
      by_cases hlt : j < l.length
      · obtain ⟨b1, o1, rfl, hall1⟩ := Hr.out (by intro e; simp [e] at hlt)
        obtain ⟨x, p0, p1, p2, p3, p4, _⟩ := hall1 j hlt
        clear hall1
        obtain ⟨ax, cx, rfl, _⟩ := Lies.slice p4
        have p0 := cell_keeps hbw p0; have p1 := cell_keeps hbw p1; have p2 := cell_keeps hbw p2; have p3 := cell_keeps hbw p3
        have p4 : Hid (Lies d w l[j].items (.slice ax l[j].items.length cx)) := p4
        have hws : w.heap.size ≤ wr.heap.size := hbw.size
        have Hd : Hid (l.drop j = l[j] :: l.drop (j + 1)) := List.drop_eq_getElem_cons hlt
        go_wp2_with fail
        refine (right_any d l[j] _ _ (Lies.keeps (hbw.alloc hws _) _ _ _ p4.out)).mono ?_
        rintro e w1 ⟨rfl, hg⟩
        have hb2 : Below w.heap.size w w1 := (hbw.alloc hws _).trans (hg.mono (by simp; omega))
        clear hg p0 p1 p2 p3 p4
        cases hr : rightV d l[j]
        · have hfin : Hid (listErr d l = 3) := by
            show _ = _
            rw [hz.out, Hc.out, Hd.out, List.all_cons, hr]
            rfl
          clear hr Hc Hd hz
          go_wp2_with fail
          go_ret
          rw [hfin.out]
          exact ⟨rfl, hb2⟩
        · have hfin : Hid (l.all (rightV d) = (l.drop (j + 1)).all (rightV d)) := by
            show _ = _
            rw [Hc.out, Hd.out, List.all_cons, hr]
            rfl
          clear hr Hc Hd
          go_wp2_with fail
          go_roundg (l.length - (j + 1))
          case measure => have := Hk.out; omega
          case rel => exact ⟨j + 1, by go_num, by omega, rfl, hfin, hb2⟩
      · have hfin : Hid (listErr d l = 0) := by
          show _ = _
          rw [hz.out, Hc.out, List.drop_eq_nil_of_le (by omega)]
          rfl
        clear Hc hz
        go_wp2_with fail
        go_ret
        rw [hfin.out]
        exact ⟨rfl, hbw⟩

end Go.Proofs.YtofceccicmlmoaaGreat

