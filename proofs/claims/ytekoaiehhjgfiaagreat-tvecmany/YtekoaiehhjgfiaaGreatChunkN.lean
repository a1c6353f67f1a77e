/-
  slices.Chunk at nodes: the iterator's contract; and what slices.Chunk itself tells.
-/
import Derived.Test.YtekoaiehhjgfiaaGreatJoinV
import Derived.RangeFuncNested
import Derived.RangeFuncBound
import Derived.RangeFuncCalls
import Derived.RangeFuncLeaves
import Derived.Shelf.Abstract
import Derived.Shelf.RegionOpen
import Derived.WalkKit
import Derived.OwnWalkIn
import Derived.TacticsInMore
import Derived.LoopNIn
import Derived.LoopIn
namespace Go.Proofs.YtekoaiehhjgfiaaGreat
open Go.RowKit Go.Shelf

attribute [local go_sem] Oper.semAt_some

/-- Where a chunk of a list of so many begins and ends. -/
def Ck (len : Nat) : Type := { x : Nat × Nat // x.1 < len ∧ x.2 = x.1 + min 32 (len - x.1) ∧ x.1 % 32 = 0 }

/-- The chunk that begins in a place. -/
def ckAt (len j : Nat) (h : 0 < len) : Ck len := if hj : j * 32 < len then ⟨(j * 32, j * 32 + min 32 (len - j * 32)), hj, rfl, Nat.mul_mod_left _ _⟩ else ⟨(0, 0 + min 32 (len - 0)), h, rfl, rfl⟩

theorem ckAt_val (len j : Nat) (h : 0 < len) (hj : j * 32 < len) : (ckAt len j h).1 = (j * 32, j * 32 + min 32 (len - j * 32)) := by
  have e : ckAt len j h = ⟨(j * 32, j * 32 + min 32 (len - j * 32)), hj, rfl, Nat.mul_mod_left _ _⟩ := dif_pos hj
  rw [e]

/-- The first so many chunks. -/
def cks (len : Nat) (h : 0 < len) (k : Nat) : List (Ck len) := (List.range k).map fun j => ckAt len j h

theorem cks_succ (len : Nat) (h : 0 < len) (k : Nat) : cks len h (k + 1) = cks len h k ++ [ckAt len k h] := by simp [cks, List.range_succ]

theorem cks_len (len : Nat) (h : 0 < len) (k : Nat) : (cks len h k).length = k := by simp [cks]

/-- All chunks have come, or a round has said that it wants no more. -/
def ChPost (len : Nat) (hlen : 0 < len) (J Jx : List (Ck len) → World → Prop) (e : Ending) (W' : World) : Prop := (∃ v, e = .returned v) ∧ ((∃ ys, ys = cks len hlen ((len + 31) / 32) ∧ J ys W') ∨ (∃ pre, True ∧ Jx pre W'))

set_option maxRecDepth 100000 in
set_option maxHeartbeats 4000000 in
theorem chunkV1_in (n : Nat) (hn : 1 ≤ n) (l Bs Bn b off len cap : Nat) (hlen : 0 < len) (hcap : len ≤ cap) (hbig : len ≤ 65536) (Kp : World → World → Prop) (hK : ∀ W W', Kp W W' → W'.cell? ⟨Bs, 0, none⟩ = W.cell? ⟨Bs, 0, none⟩ ∧ W'.cell? ⟨Bn, 0, none⟩ = W.cell? ⟨Bn, 0, none⟩)
    (J Jx : List (Ck len) → World → Prop) (hJd : ∀ s W q, J s W → J s (W.drewN q))
    (hY : ∀ pre (x : Ck len) W, J pre W → pre.length < (len + 31) / 32 → YieldAt Fence.wide (n - 1) Tryz.prog l #[.slice (some ⟨b, off + x.1.1 * 4, none⟩) (x.1.2 - x.1.1) (x.1.2 - x.1.1)] W fun e W' =>
      (e = .returned (.bool true) ∧ J (pre ++ [x]) W' ∧ Kp W W') ∨ (e = .returned (.bool false) ∧ Jx (pre ++ [x]) W'))
    (W : World) (hBs : W.cell? ⟨Bs, 0, none⟩ = some (.slice (some ⟨b, off, none⟩) len cap)) (hBn : W.cell? ⟨Bn, 0, none⟩ = some (.int .i64 32)) (h0 : J [] W) :
    CallsIn Fence.wide n Tryz.prog 137 #[.func (.yield l) #[] #[], .pointer (some ⟨Bs, 0, none⟩), .pointer (some ⟨Bn, 0, none⟩)] W (ChPost len hlen J Jx) := by
  refine callsIn_of_wp Tryz.func137 rfl trivial ?_ rfl
  simp only [Tryz.ntmps137, List.size_toArray, List.length_cons, List.length_nil, Nat.reduceAdd, Nat.reduceSub, Array.replicate_succ, Array.replicate_zero, List.push_toArray, List.append_toArray, List.nil_append, List.cons_append]
  gi_wp2
  gi_loopw [4] (fun i wr => ∃ k : Nat, k ≤ (len + 31) / 32 ∧ i = .int .i64 ((k * 32 : Nat) : Int) ∧ J (cks len hlen k) wr ∧ wr.cell? ⟨Bs, 0, none⟩ = some (.slice (some ⟨b, off, none⟩) len cap) ∧ wr.cell? ⟨Bn, 0, none⟩ = some (.int .i64 32))
    (fun i _ => len + 32 - (intOf i).toNat)
  case atStart => exact ⟨0, Nat.zero_le _, rfl, h0, hBs, hBn⟩
  case round =>
    obtain ⟨k, hk, rfl, hJs, hcs, hcn⟩ := hrel
    obtain ⟨I, hI⟩ : ∃ I, I = k * 32 := ⟨_, rfl⟩
    rw [← hI]
    obtain ⟨I2, hI2⟩ : ∃ I2, I2 = (k + 1) * 32 := ⟨_, rfl⟩
    by_cases hlt : I < len
    · obtain ⟨K, hKe⟩ : ∃ K, K = I + min 32 (len - I) := ⟨_, rfl⟩
      have hx := ckAt_val len k hlen (by omega)
      rw [← hI, ← hKe] at hx
      have HYx : Hid (∀ q, YieldAt Fence.wide (n - 1) Tryz.prog l #[.slice (some ⟨b, off + I * 4, none⟩) (K - I) (K - I)] (wr.drewN q) fun e W' =>
          (e = .returned (.bool true) ∧ J (cks len hlen (k + 1)) W' ∧ Kp (wr.drewN q) W') ∨ (e = .returned (.bool false) ∧ Jx (cks len hlen (k + 1)) W')) := fun q => by
        have hYx := hY _ (ckAt len k hlen) (wr.drewN q) (hJd _ _ q hJs) (by rw [cks_len]; omega)
        rw [← cks_succ, hx] at hYx
        exact hYx
      have hIi : (I : Int) < (len : Nat) := by omega
      have hIi2 : (I : Int) ≤ (len : Nat) := by omega
      have hIl : I ≤ len := by omega
      have hIc : I ≤ cap := by omega
      have hIci : (I : Int) ≤ (cap : Nat) := by omega
      have hlci : (len : Int) ≤ (cap : Nat) := by omega
      have hcI : ¬ (cap = I) := by omega
      have hcIi : ¬ ((cap : Nat) : Int) = (I : Nat) := by omega
      have hIK : I ≤ K := by omega
      have hIKi : (I : Int) ≤ (K : Nat) := by omega
      have hKc : K ≤ cap := by omega
      have hKci : (K : Int) ≤ (cap : Nat) := by omega
      have hKI : ¬ (K = I) := by omega
      have hKIi : ¬ ((K : Nat) : Int) = (I : Nat) := by omega
      have HI2 : Hid (I2 = (k + 1) * 32) := hI2
      have HK1 : Hid (k + 1 ≤ (len + 31) / 32) := by show _ ≤ _; omega
      have HII : Hid (I2 = I + 32 ∧ I < len) := ⟨by omega, hlt⟩
      have hw2 : IntKind.i64.wrap ((I : Nat) + 32 : Int) = (I2 : Int) := by rw [IntKind.wrap_i64]; omega
      by_cases h32 : 32 ≤ len - I
      · have h32i : (32 : Int) ≤ ((len - I : Nat) : Int) := by omega
        have h32j : ¬ (((len - I : Nat) : Int) < 32) := by omega
        have e2 : I2 = K := by omega
        subst e2
        clear hI2
        clear hY hKe hx hJs hI
        gi_wp2
        gi_quiet (fail)
        rename_i nq
        obtain ⟨fn, tmps, assign, body, hy, hR⟩ := HYx.out nq
        gi_wp2
        refine hR.mono ?_
        rintro e W3 (⟨rfl, hJ3, hk3⟩ | ⟨rfl, hJx3⟩)
        · have hc1 : W3.cell? ⟨Bs, 0, none⟩ = some (.slice (some ⟨b, off, none⟩) len cap) := (hK _ _ hk3).1.trans hcs
          have hc2 : W3.cell? ⟨Bn, 0, none⟩ = some (.int .i64 32) := (hK _ _ hk3).2.trans hcn
          gi_wp2
          go_roundw
          case rel => exact ⟨k + 1, HK1.out, by rw [HI2.out], hJ3, hc1, hc2⟩
          case measure => have := HII.out; simp [intOf]; omega
        · gi_wp2
          refine bodyPost_ret (results_none rfl _ _ _) rfl ?_
          exact ⟨⟨_, rfl⟩, .inr ⟨_, trivial, hJx3⟩⟩
      · have h32i : ((len - I : Nat) : Int) ≤ 32 := by omega
        have h32j : ((len - I : Nat) : Int) < 32 := by omega
        clear hI2
        have hwK : IntKind.i64.wrap ((I : Nat) + ((len - I : Nat) : Int) : Int) = (K : Int) := by rw [IntKind.wrap_i64]; omega
        clear hY hKe hx hJs hI
        gi_wp2
        gi_quiet (fail)
        rename_i nq
        obtain ⟨fn, tmps, assign, body, hy, hR⟩ := HYx.out nq
        gi_wp2
        refine hR.mono ?_
        rintro e W3 (⟨rfl, hJ3, hk3⟩ | ⟨rfl, hJx3⟩)
        · have hc1 : W3.cell? ⟨Bs, 0, none⟩ = some (.slice (some ⟨b, off, none⟩) len cap) := (hK _ _ hk3).1.trans hcs
          have hc2 : W3.cell? ⟨Bn, 0, none⟩ = some (.int .i64 32) := (hK _ _ hk3).2.trans hcn
          gi_wp2
          go_roundw
          case rel => exact ⟨k + 1, HK1.out, by rw [HI2.out], hJ3, hc1, hc2⟩
          case measure => have := HII.out; simp [intOf]; omega
        · gi_wp2
          refine bodyPost_ret (results_none rfl _ _ _) rfl ?_
          exact ⟨⟨_, rfl⟩, .inr ⟨_, trivial, hJx3⟩⟩
    · have hIi : ¬ (I : Int) < (len : Nat) := by omega
      have hke : k = (len + 31) / 32 := by omega
      have HJs : Hid (J (cks len hlen ((len + 31) / 32)) wr) := by rw [← hke]; exact hJs
      clear hJs hI hY hI2 hke
      gi_wp2
      go_end0
      exact ⟨⟨_, rfl⟩, .inl ⟨_, rfl, HJs.out⟩⟩

end Go.Proofs.YtekoaiehhjgfiaaGreat

namespace Go.Proofs.YtekoaiehhjgfiaaGreat
open Go.RowKit Go.Shelf

attribute [local go_sem] Oper.semAt_some

set_option maxRecDepth 100000 in
set_option maxHeartbeats 4000000 in
theorem chunkN1_in (n : Nat) (hn : 1 ≤ n) (l Bs Bn b off len cap : Nat) (hlen : 0 < len) (hcap : len ≤ cap) (hbig : len ≤ 65536) (Kp : World → World → Prop) (hK : ∀ W W', Kp W W' → W'.cell? ⟨Bs, 0, none⟩ = W.cell? ⟨Bs, 0, none⟩ ∧ W'.cell? ⟨Bn, 0, none⟩ = W.cell? ⟨Bn, 0, none⟩)
    (J Jx : List (Ck len) → World → Prop) (hJd : ∀ s W q, J s W → J s (W.drewN q))
    (hY : ∀ pre (x : Ck len) W, J pre W → pre.length < (len + 31) / 32 → YieldAt Fence.wide (n - 1) Tryz.prog l #[.slice (some ⟨b, off + x.1.1, none⟩) (x.1.2 - x.1.1) (x.1.2 - x.1.1)] W fun e W' =>
      (e = .returned (.bool true) ∧ J (pre ++ [x]) W' ∧ Kp W W') ∨ (e = .returned (.bool false) ∧ Jx (pre ++ [x]) W'))
    (W : World) (hBs : W.cell? ⟨Bs, 0, none⟩ = some (.slice (some ⟨b, off, none⟩) len cap)) (hBn : W.cell? ⟨Bn, 0, none⟩ = some (.int .i64 32)) (h0 : J [] W) :
    CallsIn Fence.wide n Tryz.prog 138 #[.func (.yield l) #[] #[], .pointer (some ⟨Bs, 0, none⟩), .pointer (some ⟨Bn, 0, none⟩)] W (ChPost len hlen J Jx) := by
  refine callsIn_of_wp Tryz.func138 rfl trivial ?_ rfl
  simp only [Tryz.ntmps138, List.size_toArray, List.length_cons, List.length_nil, Nat.reduceAdd, Nat.reduceSub, Array.replicate_succ, Array.replicate_zero, List.push_toArray, List.append_toArray, List.nil_append, List.cons_append]
  gi_wp2
  gi_loopw [4] (fun i wr => ∃ k : Nat, k ≤ (len + 31) / 32 ∧ i = .int .i64 ((k * 32 : Nat) : Int) ∧ J (cks len hlen k) wr ∧ wr.cell? ⟨Bs, 0, none⟩ = some (.slice (some ⟨b, off, none⟩) len cap) ∧ wr.cell? ⟨Bn, 0, none⟩ = some (.int .i64 32))
    (fun i _ => len + 32 - (intOf i).toNat)
  case atStart => exact ⟨0, Nat.zero_le _, rfl, h0, hBs, hBn⟩
  case round =>
    obtain ⟨k, hk, rfl, hJs, hcs, hcn⟩ := hrel
    obtain ⟨I, hI⟩ : ∃ I, I = k * 32 := ⟨_, rfl⟩
    rw [← hI]
    obtain ⟨I2, hI2⟩ : ∃ I2, I2 = (k + 1) * 32 := ⟨_, rfl⟩
    by_cases hlt : I < len
    · obtain ⟨K, hKe⟩ : ∃ K, K = I + min 32 (len - I) := ⟨_, rfl⟩
      have hx := ckAt_val len k hlen (by omega)
      rw [← hI, ← hKe] at hx
      have HYx : Hid (∀ q, YieldAt Fence.wide (n - 1) Tryz.prog l #[.slice (some ⟨b, off + I, none⟩) (K - I) (K - I)] (wr.drewN q) fun e W' =>
          (e = .returned (.bool true) ∧ J (cks len hlen (k + 1)) W' ∧ Kp (wr.drewN q) W') ∨ (e = .returned (.bool false) ∧ Jx (cks len hlen (k + 1)) W')) := fun q => by
        have hYx := hY _ (ckAt len k hlen) (wr.drewN q) (hJd _ _ q hJs) (by rw [cks_len]; omega)
        rw [← cks_succ, hx] at hYx
        exact hYx
      have hIi : (I : Int) < (len : Nat) := by omega
      have hIi2 : (I : Int) ≤ (len : Nat) := by omega
      have hIl : I ≤ len := by omega
      have hIc : I ≤ cap := by omega
      have hIci : (I : Int) ≤ (cap : Nat) := by omega
      have hlci : (len : Int) ≤ (cap : Nat) := by omega
      have hcI : ¬ (cap = I) := by omega
      have hcIi : ¬ ((cap : Nat) : Int) = (I : Nat) := by omega
      have hIK : I ≤ K := by omega
      have hIKi : (I : Int) ≤ (K : Nat) := by omega
      have hKc : K ≤ cap := by omega
      have hKci : (K : Int) ≤ (cap : Nat) := by omega
      have hKI : ¬ (K = I) := by omega
      have hKIi : ¬ ((K : Nat) : Int) = (I : Nat) := by omega
      have HI2 : Hid (I2 = (k + 1) * 32) := hI2
      have HK1 : Hid (k + 1 ≤ (len + 31) / 32) := by show _ ≤ _; omega
      have HII : Hid (I2 = I + 32 ∧ I < len) := ⟨by omega, hlt⟩
      have hw2 : IntKind.i64.wrap ((I : Nat) + 32 : Int) = (I2 : Int) := by rw [IntKind.wrap_i64]; omega
      by_cases h32 : 32 ≤ len - I
      · have h32i : (32 : Int) ≤ ((len - I : Nat) : Int) := by omega
        have h32j : ¬ (((len - I : Nat) : Int) < 32) := by omega
        have e2 : I2 = K := by omega
        subst e2
        clear hI2
        clear hY hKe hx hJs hI
        gi_wp2
        gi_quiet (fail)
        rename_i nq
        obtain ⟨fn, tmps, assign, body, hy, hR⟩ := HYx.out nq
        gi_wp2
        refine hR.mono ?_
        rintro e W3 (⟨rfl, hJ3, hk3⟩ | ⟨rfl, hJx3⟩)
        · have hc1 : W3.cell? ⟨Bs, 0, none⟩ = some (.slice (some ⟨b, off, none⟩) len cap) := (hK _ _ hk3).1.trans hcs
          have hc2 : W3.cell? ⟨Bn, 0, none⟩ = some (.int .i64 32) := (hK _ _ hk3).2.trans hcn
          gi_wp2
          go_roundw
          case rel => exact ⟨k + 1, HK1.out, by rw [HI2.out], hJ3, hc1, hc2⟩
          case measure => have := HII.out; simp [intOf]; omega
        · gi_wp2
          refine bodyPost_ret (results_none rfl _ _ _) rfl ?_
          exact ⟨⟨_, rfl⟩, .inr ⟨_, trivial, hJx3⟩⟩
      · have h32i : ((len - I : Nat) : Int) ≤ 32 := by omega
        have h32j : ((len - I : Nat) : Int) < 32 := by omega
        clear hI2
        have hwK : IntKind.i64.wrap ((I : Nat) + ((len - I : Nat) : Int) : Int) = (K : Int) := by rw [IntKind.wrap_i64]; omega
        clear hY hKe hx hJs hI
        gi_wp2
        gi_quiet (fail)
        rename_i nq
        obtain ⟨fn, tmps, assign, body, hy, hR⟩ := HYx.out nq
        gi_wp2
        refine hR.mono ?_
        rintro e W3 (⟨rfl, hJ3, hk3⟩ | ⟨rfl, hJx3⟩)
        · have hc1 : W3.cell? ⟨Bs, 0, none⟩ = some (.slice (some ⟨b, off, none⟩) len cap) := (hK _ _ hk3).1.trans hcs
          have hc2 : W3.cell? ⟨Bn, 0, none⟩ = some (.int .i64 32) := (hK _ _ hk3).2.trans hcn
          gi_wp2
          go_roundw
          case rel => exact ⟨k + 1, HK1.out, by rw [HI2.out], hJ3, hc1, hc2⟩
          case measure => have := HII.out; simp [intOf]; omega
        · gi_wp2
          refine bodyPost_ret (results_none rfl _ _ _) rfl ?_
          exact ⟨⟨_, rfl⟩, .inr ⟨_, trivial, hJx3⟩⟩
    · have hIi : ¬ (I : Int) < (len : Nat) := by omega
      have hke : k = (len + 31) / 32 := by omega
      have HJs : Hid (J (cks len hlen ((len + 31) / 32)) wr) := by rw [← hke]; exact hJs
      clear hJs hI hY hI2 hke
      gi_wp2
      go_end0
      exact ⟨⟨_, rfl⟩, .inl ⟨_, rfl, HJs.out⟩⟩

set_option maxRecDepth 100000 in
theorem chunkV_in (n : Nat) (a : Option Addr) (len cap : Nat) (w : World) :
    CallsIn Fence.wide n Tryz.prog 91 #[.slice a len cap, .int .i64 32] w fun e w' => e = .returned (.func (.func 137) #[] #[.pointer (some ⟨w.heap.size, 0, none⟩), .pointer (some ⟨w.heap.size + 1, 0, none⟩)]) ∧ w' = (w.alloc (.cells #[.slice a len cap] 22)).alloc (.cells #[.int .i64 32] 3) := by
  refine callsIn_of_wp Tryz.func91 rfl trivial ?_ rfl
  simp only [Tryz.ntmps91, List.size_toArray, List.length_cons, List.length_nil, Nat.reduceAdd, Nat.reduceSub, Array.replicate_succ, Array.replicate_zero, List.push_toArray, List.append_toArray, List.nil_append, List.cons_append]
  gi_wp2
  go_ret
  exact ⟨rfl, rfl⟩

set_option maxRecDepth 100000 in
theorem chunkN_in (n : Nat) (a : Option Addr) (len cap : Nat) (w : World) :
    CallsIn Fence.wide n Tryz.prog 93 #[.slice a len cap, .int .i64 32] w fun e w' => e = .returned (.func (.func 138) #[] #[.pointer (some ⟨w.heap.size, 0, none⟩), .pointer (some ⟨w.heap.size + 1, 0, none⟩)]) ∧ w' = (w.alloc (.cells #[.slice a len cap] 148)).alloc (.cells #[.int .i64 32] 3) := by
  refine callsIn_of_wp Tryz.func93 rfl trivial ?_ rfl
  simp only [Tryz.ntmps93, List.size_toArray, List.length_cons, List.length_nil, Nat.reduceAdd, Nat.reduceSub, Array.replicate_succ, Array.replicate_zero, List.push_toArray, List.append_toArray, List.nil_append, List.cons_append]
  gi_wp2
  go_ret
  exact ⟨rfl, rfl⟩

end Go.Proofs.YtekoaiehhjgfiaaGreat

