/-
  The contracts of lastOfEachKey, CheckPairs and value.Map.
-/
import Derived.Test.YtpmodiodpilmeaaGreatLastOf
import Derived.Test.YtpmodiodpilmeaaGreatMapP
namespace Go.Proofs.YtpmodiodpilmeaaGreat
open Go.RowKit

set_option maxRecDepth 100000 in
set_option maxHeartbeats 2000000 in
theorem lastOf_none (f : Nat) (a : Option Addr) (c : Nat) (w : World) :
    Calls Tryz.prog 60 #[.slice a 0 c, .func (.func f) #[] #[]] w fun e w' => e = .returned (.slice none 0 0) ∧ Below w.heap.size w w' := by
  go_enter Tryz.func60, Tryz.ntmps60
  go_wp2_with fail
  refine (cloneQ_none a c _).mono ?_
  rintro e w1 ⟨a', c', rfl, hb1⟩
  go_wp2_with fail
  refine (sortStable_none f a' c' _).mono ?_
  rintro e w2 ⟨rfl, rfl⟩
  go_wp2_with fail
  go_loopg [16, 6] 0 (fun z vj vo wr => vj = .int .i64 0 ∧ vo = .slice none 0 0 ∧ z = 0 ∧ wr = w2)
  case atStart => exact ⟨rfl, rfl, rfl, rfl⟩
  case round =>
    obtain ⟨rfl, rfl, rfl, rfl⟩ := hrel
    go_wp2_with fail
    go_ret
    exact ⟨rfl, hb1⟩

theorem lastOf_any (f d : Nat) (eg : ∀ args w, (callFunc f args).run Tryz.prog w = .ok (.enter f args) w) (cf : PP → PP → Int) (hc : CmpQ f (GoodQ d) cf) (h3 : Cmp3 cf) (qs : List PP) (u : Value) (w : World) (hu : SlQ 0 d w qs u) (hlen : qs.length ≤ 65536) :
    Calls Tryz.prog 60 #[u, .func (.func f) #[] #[]] w fun e w' => ∃ v, e = .returned v ∧ SlQ w.heap.size d w' (kyd cf (qs.length + 1) qs) v ∧ Below w.heap.size w w' := by
  by_cases hne : qs = []
  · subst hne
    obtain ⟨a, c, rfl, _⟩ := hu.slice
    refine (lastOf_none f a c w).mono ?_
    rintro e w' ⟨rfl, hb⟩
    exact ⟨_, rfl, ⟨none, 0, rfl, by simp [kyd], by simp [kyd], (fun h => absurd rfl h), (fun p hp => by cases hp)⟩, hb⟩
  · obtain ⟨b, o, c, rfl, _, hr, hg⟩ := hu.full hne
    exact lastOf_full f d eg cf hc h3 qs b o c w hr hg hlen hne

end Go.Proofs.YtpmodiodpilmeaaGreat

