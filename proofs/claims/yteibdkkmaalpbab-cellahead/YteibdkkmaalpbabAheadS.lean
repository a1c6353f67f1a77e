/-
  Both seqs beside each other, and both Aheads.
-/
import Derived.Test.YteibdkkmaalpbabRSeq
import Derived.Test.YteibdkkmaalpbabRCell
namespace Go.Proofs.Yteibdkkmaalpbab
open Go.RowKit Go.Shelf

set_option maxRecDepth 100000 in
set_option maxHeartbeats 4000000 in
theorem rahead_bad (cv : Option Addr) (n f : Int) (h : (n < 0 ∨ 65536 < n) ∨ (f < 0 ∨ 1073741824 < f)) (w : World) : Calls Try.prog 11 #[.pointer cv, .int .i64 n, .int .i64 f] w fun e w' => e = .returned (.tuple #[.int .i64 0, .int .i64 1]) ∧ w' = w := by
  by_cases h1 : n < 0
  · clear h
    go_enter Try.func11, Try.ntmps11
    go_wp2_with fail
    exact bodyPost_ret (v := .tuple #[.int .i64 0, .int .i64 1]) (by simp [results, Try.results11, go_sem]) rfl ⟨rfl, rfl⟩
  · by_cases h2 : (65536 : Int) < n
    · clear h
      go_enter Try.func11, Try.ntmps11
      go_wp2_with fail
      exact bodyPost_ret (v := .tuple #[.int .i64 0, .int .i64 1]) (by simp [results, Try.results11, go_sem]) rfl ⟨rfl, rfl⟩
    · by_cases h3 : f < 0
      · clear h
        go_enter Try.func11, Try.ntmps11
        go_wp2_with fail
        exact bodyPost_ret (v := .tuple #[.int .i64 0, .int .i64 1]) (by simp [results, Try.results11, go_sem]) rfl ⟨rfl, rfl⟩
      · have h4 : (1073741824 : Int) < f := by omega
        clear h
        go_enter Try.func11, Try.ntmps11
        go_wp2_with fail
        exact bodyPost_ret (v := .tuple #[.int .i64 0, .int .i64 1]) (by simp [results, Try.results11, go_sem]) rfl ⟨rfl, rfl⟩

/-- Both are known equally far; none lies in the other one's way. -/
def St22 (w0 : World) (b b2 q : Nat) (v : VT) (wr : World) : Prop :=
  Below w0.heap.size w0 wr ∧ ∃ (k : Nat) (P Q : Nat → Nat), P 0 = b ∧ Q 0 = b2 ∧ (∀ i, i ≤ k → w0.heap.size ≤ Q i) ∧ Sq (fun n => w0.heap.size ≤ n ∧ ∀ i, i ≤ k → n ≠ Q i) wr q v k P ∧ Dq (fun n => ∀ i, i ≤ k → n ≠ P i) wr q v k Q

theorem St22.keeps {w0 : World} {b b2 q : Nat} {v : VT} {wr V : World} (s : St22 w0 b b2 q v wr) (hV : Below wr.heap.size wr V) : St22 w0 b b2 q v V := by
  obtain ⟨hb, k, P, Q, h1, h2, h3, h4, h5⟩ := s
  exact ⟨hb.trans (hV.mono hb.size), k, P, Q, h1, h2, h3, h4.keeps hV, h5.keeps hV⟩

theorem St22.known {w0 : World} {b b2 q : Nat} {v : VT} {wr : World} (s : St22 w0 b b2 q v wr) : ∃ M : Int, Calls Try.prog 12 #[.pointer (some ⟨b, 0, none⟩)] wr (fun e w' => e = .returned (.int .i64 M) ∧ w' = wr) ∧ Calls Try.prog 13 #[.pointer (some ⟨b2, 0, none⟩)] wr (fun e w' => e = .returned (.int .i64 M) ∧ w' = wr) := by
  obtain ⟨hb, k, P, Q, rfl, rfl, h3, h4, h5⟩ := s
  exact ⟨_, h4.len, h5.len⟩

/-- Behind the program's Ahead the document's tells the same, and both stand so again. -/
def Mid22 (w0 : World) (b b2 q : Nat) (v : VT) (n f : Int) (wr V : World) (e : Ending) (w' : World) : Prop :=
  ∃ L E : Int, e = .returned (.tuple #[.int .i64 L, .int .i64 E]) ∧ (∀ (x : Addr) (u : Value), wr.heap.size ≤ x.block → V.cell? x = some u → w'.cell? x = some u) ∧ Calls Try.prog 11 #[.pointer (some ⟨b2, 0, none⟩), .int .i64 n, .int .i64 f] w' (fun e w'' => e = .returned (.tuple #[.int .i64 L, .int .i64 E]) ∧ St22 w0 b b2 q v w'')

theorem St22.ahead {w0 : World} {b b2 q : Nat} {v : VT} {wr V : World} (s : St22 w0 b b2 q v wr) (hV : Below wr.heap.size wr V) (n f : Int) :
    Calls Try.prog 10 #[.pointer (some ⟨b, 0, none⟩), .int .i64 n, .int .i64 f] V (Mid22 w0 b b2 q v n f wr V) := by
  by_cases hbad : (n < 0 ∨ 65536 < n) ∨ (f < 0 ∨ 1073741824 < f)
  · refine Calls.mono (ahead_bad _ n f hbad V) ?_
    rintro e w' ⟨rfl, rfl⟩
    refine ⟨0, 1, rfl, fun x u _ h => h, Calls.mono (rahead_bad _ n f hbad w') ?_⟩
    rintro e w'' ⟨rfl, rfl⟩
    exact ⟨rfl, s.keeps hV⟩
  · obtain ⟨N, rfl⟩ : ∃ N : Nat, n = (N : Int) := ⟨n.toNat, by omega⟩
    obtain ⟨F, rfl⟩ : ∃ F : Nat, f = (F : Int) := ⟨f.toNat, by omega⟩
    obtain ⟨hb, k, P, Q, rfl, rfl, hQ0, hs, hd⟩ := s
    have hPl := hs.lt
    have hQl := hd.lt
    have hbV : Below w0.heap.size w0 V := hb.trans (hV.mono hb.size)
    have hVs := hV.size
    have hbs := hb.size
    refine Calls.mono (ahead_any _ q v k P N F (by omega) (by omega) V (hs.keeps hV) (fun n hn => ⟨by omega, fun i hi => by have := hQl i hi; omega⟩)) ?_
    rintro e w' ⟨K, P', hP, hN, hs', hkc, hcase⟩
    have hkb : ∀ j, (∃ i, i ≤ k ∧ j = P i) → j < wr.heap.size ∧ w0.heap.size ≤ j := fun j hj => by
      obtain ⟨i, hi, rfl⟩ := hj
      exact ⟨hPl i hi, (hs.inY i hi).1⟩
    have hd' : Dq (fun n => ∀ i, i ≤ K → n ≠ P' i) w' q v k Q := by
      refine ((hd.keeps hV).monoY (Z := fun n => ∀ i, i ≤ K → n ≠ P' i) (fun n hn hy i hi => ?_)).kc hkc (fun n hn hy hB => ?_)
      · by_cases e : i ≤ k
        · rw [hP i e]; exact hy i e
        · have := hN i (by omega) hi; omega
      · obtain ⟨i, hi, e⟩ := hB
        have hiK : i ≤ K := by
          rcases hcase with ⟨_, h, _⟩ | ⟨_, h, _⟩ <;> omega
        exact hy i hiK (by rw [hP i hi]; exact e)
    have hw's := hkc.size
    have hP'l := hs'.lt
    have hb' : Below w0.heap.size w0 w' := hbV.trans (hkc.below (fun j hj hh => by have := hkb j hh; omega) hbV.size)
    have hra := rahead_any _ q v k Q N F (by omega) (by omega) w' hd' (fun n hn i hi => by have := hP'l i hi; omega)
    obtain ⟨L, E, hLE, rfl⟩ : ∃ L E : Int, ((max k N ≤ k + F ∧ K = max k N ∧ L = ((F + k - K : Nat) : Int) ∧ E = 0) ∨ (k + F < max k N ∧ K = k + F ∧ L = 0 ∧ E = 220)) ∧ e = .returned (.tuple #[.int .i64 L, .int .i64 E]) := by
      rcases hcase with ⟨h1, h2, h3⟩ | ⟨h1, h2, h3⟩
      · exact ⟨_, _, .inl ⟨h1, h2, rfl, rfl⟩, h3⟩
      · exact ⟨_, _, .inr ⟨h1, h2, rfl, rfl⟩, h3⟩
    refine ⟨L, E, rfl, fun x u hx hu => hkc.cell (fun hh => by have := hkb _ hh; omega) hu, Calls.mono hra ?_⟩
    rintro e2 w'' ⟨K2, Q', hQ, hN2, hd'', hkc2, hcase2⟩
    have hKK : K2 = K ∧ e2 = .returned (.tuple #[.int .i64 L, .int .i64 E]) := by
      rcases hLE with ⟨h1, h2, h3, h4⟩ | ⟨h1, h2, h3, h4⟩
      · rcases hcase2 with ⟨g1, g2, g3⟩ | ⟨g1, _⟩
        · have e9 : K2 = K := by omega
          exact ⟨e9, by rw [g3, h3, h4, e9]⟩
        · omega
      · rcases hcase2 with ⟨g1, _⟩ | ⟨g1, g2, g3⟩
        · omega
        · exact ⟨by omega, by rw [g3, h3, h4]⟩
    obtain ⟨rfl, rfl⟩ := hKK
    have hkK : k ≤ K2 := by rcases hLE with ⟨_, h, _⟩ | ⟨_, h, _⟩ <;> omega
    refine ⟨rfl, hb'.trans (hkc2.below (fun j hj hh => by obtain ⟨i, hi, e⟩ := hh; have := hQ0 i hi; omega) hb'.size), K2, P', Q', hP 0 (Nat.zero_le _), hQ 0 (Nat.zero_le _), fun i hi => ?_, ?_, hd''⟩
    · by_cases e : i ≤ k
      · rw [hQ i e]; exact hQ0 i e
      · have := hN2 i (by omega) hi; omega
    · refine (hs'.monoY (Z := fun n => w0.heap.size ≤ n ∧ ∀ i, i ≤ K2 → n ≠ Q' i) (fun n hn hy => ⟨hy.1, fun i hi => ?_⟩)).kc hkc2 (fun n hn hy hB => ?_)
      · by_cases e : i ≤ k
        · rw [hQ i e]; exact hy.2 i e
        · have := hN2 i (by omega) hi; omega
      · obtain ⟨i, hi, e⟩ := hB
        exact hy.2 i (by omega) (by rw [hQ i hi]; exact e)

end Go.Proofs.Yteibdkkmaalpbab

