/-
  SeqList.
-/
import Derived.Test.YtbhfbjbigafnpaaListM
import Derived.Test.YtbhfbjbigafnpaaRListM
import Derived.Test.YtbhfbjbigafnpaaSpeaks23
namespace Go.Proofs.Ytbhfbjbigafnpaa
open Go.RowKit Go.Shelf

set_option maxRecDepth 100000 in
set_option maxHeartbeats 16000000 in
theorem seqlist_walk (d : Nat) (L : List VT) (aL : Option Addr) (cL : Nat) (n f : Int) (w : World) (hL : Lies (d + 1) w L (.slice aL L.length cL)) :
    Calls Try.prog 3 #[.slice aL L.length cL, .int .i64 n, .int .i64 f] w fun e w' => e = .returned (.bool true) ∧ Below w.heap.size w w' := by
  have HSp : Hid (∀ V, Calls Try.prog 7 #[] V fun e w' => e = .returned (.bool true) ∧ Below V.heap.size V w') := speaks23_any
  have HD : Hid (∀ V, Below w.heap.size w V → Calls Try.prog 6 #[.slice aL L.length cL] V fun e w' => Below V.heap.size V w' ∧ ((listErr d L ≠ 0 ∧ e = .returned (.tuple #[.pointer none, .int .i64 (listErr d L)])) ∨ (listErr d L = 0 ∧ ∃ P, e = .returned (.tuple #[.pointer (some ⟨P 0, 0, none⟩), .int .i64 0]) ∧ Chn dCK (fun n => n < w.heap.size ∨ V.heap.size ≤ n) w' L none P ∧ ∀ j, j ≤ L.length → V.heap.size ≤ P j))) := fun V hV => rlist_any d L aL cL w.heap.size V hV.size ((LiesX.of_lies hL).keeps hV)
  by_cases he : listErr d L = 0
  · have HP : Hid (Calls Try.prog 5 #[.slice aL L.length cL] w (SListPost L w)) := slist_ok d L aL L.length cL w hL he
    clear hL
    generalize listErr d L = E at *
    go_enter Try.func3, Try.ntmps3
    go_wp2_with fail
    refine Calls.mono HP.out ?_
    rintro e w1 ⟨g1, P, rfl, hC1⟩
    have HD1 : Hid _ := HD.out w1 g1
    clear HP HD
    go_wp2_with fail
    refine Calls.mono HD1.out ?_
    rintro e w2 ⟨g2, ⟨hx, _⟩ | ⟨_, Q, rfl, hC2, hQ⟩⟩
    · exact absurd he hx
    have s1 := g1.size
    have s2 := g2.size
    have HS : Hid (St23 w (P 0) (Q 0) L none w2) := ⟨g1.trans (g2.mono s1), fun n => w.heap.size ≤ n ∧ n < w1.heap.size, fun n => n < w.heap.size ∨ w1.heap.size ≤ n, P, Q, rfl, rfl, (hC1.monoY (fun n hn hy => ⟨hy, hn⟩)).keeps g2, hC2, fun n h1 h2 => by omega, fun j hj => hC1.inY j hj, fun j hj => Nat.le_trans s1 (hQ j hj)⟩
    have HT : Hid _ := HS.out.take (Below.refl _ _) n f
    clear HS HD1 hC1 hC2 hQ g1 g2 he s1 s2
    go_wp2_with fail
    refine Calls.mono HT.out ?_
    rintro e w3 ⟨_, a3, l3, k3, left, E3, rfl, hT3⟩
    have HT3 : Hid _ := hT3
    clear HT hT3
    go_wp2_with fail
    refine Calls.mono HT3.out ?_
    rintro e w4 ⟨_, a4, l4, k4, vs', T', rfl, hS4, hV4⟩
    have HV4 : Hid _ := hV4
    have Hb4 : Hid (Below w.heap.size w w4) := hS4.1
    clear HT3 hV4 hS4
    go_wp2_with fail
    refine Calls.mono HV4.out ?_
    rintro e w5 ⟨rfl, g5⟩
    have Hb5 : Hid (Below w.heap.size w w5) := Hb4.out.trans (g5.mono Hb4.out.size)
    clear HV4 g5 Hb4
    go_wp2_with fail
    refine Calls.mono (HSp.out _) ?_
    rintro e w6 ⟨rfl, g6⟩
    have Hb6 : Hid (Below w.heap.size w w6) := Hb5.out.trans (g6.mono Hb5.out.size)
    clear g6 Hb5 HSp
    go_wp2_with fail
    go_ret
    exact ⟨rfl, Hb6.out⟩
  · have HP : Hid (Calls Try.prog 5 #[.slice aL L.length cL] w fun e w' => e = .returned (.tuple #[.pointer none, .int .i64 (listErr d L)]) ∧ Below w.heap.size w w') := slist_wrong d L aL L.length cL w hL he
    clear hL
    generalize listErr d L = E at *
    go_enter Try.func3, Try.ntmps3
    go_wp2_with fail
    refine Calls.mono HP.out ?_
    rintro e w1 ⟨rfl, g1⟩
    have HD1 : Hid _ := HD.out w1 g1
    clear HP HD
    go_wp2_with fail
    refine Calls.mono HD1.out ?_
    rintro e w2 ⟨g2, ⟨_, rfl⟩ | ⟨hx, _⟩⟩
    · have hb2 : Below w.heap.size w w2 := g1.trans (g2.mono g1.size)
      have e7 : (E != 0) = true := by simpa using he
      clear HD1 g1 g2
      go_wp2_with fail
      refine Calls.mono (HSp.out _) ?_
      rintro e w3 ⟨rfl, g3⟩
      have hb3 : Below w.heap.size w w3 := hb2.trans (g3.mono hb2.size)
      go_wp2_with fail
      go_ret
      exact ⟨rfl, hb3⟩
    · exact absurd hx he

end Go.Proofs.Ytbhfbjbigafnpaa

