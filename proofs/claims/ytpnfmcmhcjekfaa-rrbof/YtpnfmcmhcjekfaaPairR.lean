/-
  A vector and a list beside each other, or an error; Set and Push of vectors of right items.
-/
import Derived.Test.YtpnfmcmhcjekfaaRef11
import Derived.Test.YtpnfmcmhcjekfaaRSet
import Derived.Test.YtpnfmcmhcjekfaaHeightLaw
namespace Go.Proofs.Ytpnfmcmhcjekfaa
open Go.RowKit

/-- A vector and a list of the same items, or an error. -/
def Pair11 (w : World) (p : Value) (k : Nat) (u : Value) : Prop :=
  (k = 0 ∧ ∃ (l : List VT) (b : Nat) (a : Option Addr) (n c : Nat), n = l.length ∧ p = .pointer (some ⟨b, 0, none⟩) ∧ u = .slice a n c ∧ VV w l p ∧ Lies 17 w l u) ∨ (k ≠ 0 ∧ p = .pointer none ∧ u = .slice none 0 0)

theorem Pair11.keeps {w w' : World} {p : Value} {k : Nat} {u : Value} (h : Pair11 w p k u) (hb : Below w.heap.size w w') : Pair11 w' p k u := by
  rcases h with ⟨rfl, l, b, a, n, c, hn, rfl, rfl, hv, hl⟩ | h
  · exact .inl ⟨rfl, l, b, a, n, c, hn, rfl, rfl, hv.keeps hb, Lies.keeps hb _ _ _ hl⟩
  · exact .inr h

/-- Two calls that tell the same, beside each other. -/
theorem pair11_any {f g : Nat} {xs ys : Array Value} {R : List VT ⊕ Nat} {w : World} (hf : Calls Try.prog f xs w (VvPost R w)) (hg : ∀ W, Below w.heap.size w W → Calls Try.prog g ys W (LstPost R W)) (h0 : ∀ k, R = .inr k → k ≠ 0) :
    Calls Try.prog f xs w fun e w1 => Below w.heap.size w w1 ∧ ∃ (k : Nat) (p1 : Option Addr), e = .returned (.tuple #[.pointer p1, .int .i64 (k : Int)]) ∧
      ∀ W, Below w1.heap.size w1 W → Calls Try.prog g ys W fun e w2 => Below W.heap.size W w2 ∧ ∃ (a1 : Option Addr) (n1 c1 : Nat), e = .returned (.tuple #[.slice a1 n1 c1, .int .i64 (k : Int)]) ∧ Pair11 w2 (.pointer p1) k (.slice a1 n1 c1) := by
  refine Calls.mono hf ?_
  rintro e w1 ⟨hb1, hp⟩
  refine ⟨hb1, ?_⟩
  have hr := fun W (hW : Below w1.heap.size w1 W) => hg W (hb1.trans (hW.mono hb1.size))
  cases R with
  | inl m =>
    obtain ⟨b, rfl, v1⟩ := hp
    refine ⟨0, _, rfl, fun W hW => Calls.mono (hr W hW) ?_⟩
    rintro e w2 ⟨hb2, a1, c1, rfl, l1⟩
    exact ⟨hb2, a1, _, c1, rfl, .inl ⟨rfl, _, b, a1, _, c1, rfl, rfl, rfl, (v1.keeps hW).keeps hb2, l1⟩⟩
  | inr k =>
    have hk := h0 k rfl
    have hp' : e = _ := hp
    subst hp'
    refine ⟨k, _, rfl, fun W hW => Calls.mono (hr W hW) ?_⟩
    rintro e w2 ⟨hb2, hq⟩
    have hq' : e = _ := hq
    subst hq'
    exact ⟨hb2, none, 0, 0, rfl, .inr ⟨hk, rfl, rfl⟩⟩

theorem pushN_err (n : Nat) (l : List VT) (x : VT) : ∀ k, pushN n l x = .inr k → k ≠ 0 := fun k h => by
  unfold pushN at h
  split at h
  · split at h
    · cases h
    · injection h with h; omega
  · injection h with h; omega

theorem setN_err (n : Nat) (l : List VT) (i : Int) (x : VT) : ∀ k, setN n l i x = .inr k → k ≠ 0 := fun k h => by
  unfold setN at h
  split at h
  · split at h
    · cases h
    · injection h with h; omega
  · injection h with h; omega

theorem vpush_vv (n : Nat) (l : List VT) (p : Value) (x : VT) (ax : Option Addr) (cx : Nat) (w : World) (h : VV w l p) (hx : Lies n w x.items (.slice ax x.items.length cx)) (hts : x.text.size ≤ 9223372036854775807) :
    Calls Try.prog 20 #[p, .agg #[.int .i64 x.kind, .int .i64 x.num, .string x.text, .slice ax x.items.length cx]] w (VvPost (pushN n l x) w) :=
  Calls.mono (push_n n l p x ax cx w h.vc hx hts h.len) (fun _ _ hp => VecPost.vv hp (fun _ hm => push_right hx h.right hm))

theorem set_right {n : Nat} {l m : List VT} {i : Int} {x : VT} {w : World} {u : Value} (hx : Lies n w x.items u) (hlen : l.length ≤ 65536) (hr : l.all (rightV 16) = true) (h : setN n l i x = .inl m) : m.length ≤ 65536 ∧ m.all (rightV 16) = true := by
  unfold setN at h
  by_cases h1 : rightV n x = true
  · rw [if_pos h1] at h
    by_cases h2 : 0 ≤ i ∧ i < (l.length : Int)
    · rw [if_pos h2] at h
      injection h with h
      subst h
      refine ⟨by rw [List.length_set]; exact hlen, List.all_eq_true.2 fun y hy => ?_⟩
      rcases List.mem_or_eq_of_mem_set hy with hy | rfl
      · exact List.all_eq_true.1 hr y hy
      · exact (canon hx h1).2
    · rw [if_neg h2] at h; cases h
  · rw [if_neg h1] at h; cases h

theorem vset_vv (n : Nat) (l : List VT) (p : Value) (i : Int) (x : VT) (ax : Option Addr) (cx : Nat) (w : World) (h : VV w l p) (hx : Lies n w x.items (.slice ax x.items.length cx)) (hts : x.text.size ≤ 9223372036854775807) :
    Calls Try.prog 18 #[p, .int .i64 i, .agg #[.int .i64 x.kind, .int .i64 x.num, .string x.text, .slice ax x.items.length cx]] w (VvPost (setN n l i x) w) :=
  Calls.mono (vset_n n l p i x ax cx w h.vc hx hts (by have := h.len; omega)) (fun _ _ hp => VecPost.vv hp (fun _ hm => set_right hx h.len h.right hm))

end Go.Proofs.Ytpnfmcmhcjekfaa

