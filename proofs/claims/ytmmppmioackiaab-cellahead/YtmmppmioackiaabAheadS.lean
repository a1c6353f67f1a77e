/-
  Both seqs beside each other, and both Aheads.
-/
import Derived.Test.YtmmppmioackiaabRApi
import Derived.Test.YtmmppmioackiaabConsM
namespace Go.Proofs.Ytmmppmioackiaab
open Go.RowKit Go.Shelf

/-- The document's seq of Iter: as Sq. -/
structure Dq (Y : Nat → Prop) (w : World) (q : Nat) (v : VT) (k : Nat) (P : Nat → Nat) : Prop where
  q8 : q < 8
  right : rightV 16 v = true
  dp : Dp 16 v
  inj : ∀ i j, i ≤ k → j ≤ k → P i = P j → i = j
  inY : ∀ i, i ≤ k → Y (P i)
  known : ∀ i, i < k → ∃ a c kd z uz, DB w (P i) true true (itv q i v) (.slice a (itv q i v).items.length c) (some ⟨P (i + 1), 0, none⟩) kd q z uz ∧ LiesX (fun n => Y n ∧ ∀ j, j ≤ k → n ≠ P j) 16 w (itv q i v).items (.slice a (itv q i v).items.length c)
  lazy : ∃ kd z a c, ((kd = 1 ∧ z = itv q k v) ∨ (kd = 13 ∧ doneT q z = itv q k v)) ∧ rightV 16 z = true ∧ DB w (P k) false false zeroT (.slice none 0 0) none kd q z (.slice a z.items.length c) ∧ LiesX (fun n => Y n ∧ ∀ j, j ≤ k → n ≠ P j) 16 w z.items (.slice a z.items.length c)

theorem Dq.lt {Y : Nat → Prop} {w : World} {q : Nat} {v : VT} {k : Nat} {P : Nat → Nat} (s : Dq Y w q v k P) (i : Nat) (hi : i ≤ k) : P i < w.heap.size := by
  by_cases h : i < k
  · obtain ⟨a, c, kd, z, uz, hc, _⟩ := s.known i h
    exact hc.lt
  · obtain rfl : i = k := by omega
    obtain ⟨kd, z, a, c, _, _, hc, _⟩ := s.lazy
    exact hc.lt

theorem Dq.kc {Y B : Nat → Prop} {w w' : World} {q : Nat} {v : VT} {k : Nat} {P : Nat → Nat} (s : Dq Y w q v k P) (hk : KC B w w') (hB : ∀ n, n < w.heap.size → Y n → ¬ B n) : Dq Y w' q v k P := by
  have hp := fun i hi => hB (P i) (s.lt i hi) (s.inY i hi)
  refine ⟨s.q8, s.right, s.dp, s.inj, s.inY, fun i hi => ?_, ?_⟩
  · obtain ⟨a, c, kd, z, uz, hc, hl⟩ := s.known i hi
    exact ⟨a, c, kd, z, uz, hk.db (hp i (by omega)) hc, LiesX.mono (fun n hn => hn.1) (hk.liesX (fun n hn => hB n hn.2 hn.1.1) hl.both)⟩
  · obtain ⟨kd, z, a, c, h1, h3, hc, hl⟩ := s.lazy
    exact ⟨kd, z, a, c, h1, h3, hk.db (hp k (by omega)) hc, LiesX.mono (fun n hn => hn.1) (hk.liesX (fun n hn => hB n hn.2 hn.1.1) hl.both)⟩

theorem Dq.keeps {Y : Nat → Prop} {w w' : World} {q : Nat} {v : VT} {k : Nat} {P : Nat → Nat} (s : Dq Y w q v k P) (hb : Below w.heap.size w w') : Dq Y w' q v k P :=
  s.kc (B := fun _ => False) (KC.of_below hb) (fun _ _ _ h => h)

theorem Dq.monoY {Y Z : Nat → Prop} {w : World} {q : Nat} {v : VT} {k : Nat} {P : Nat → Nat} (s : Dq Y w q v k P) (h : ∀ n, n < w.heap.size → Y n → Z n) : Dq Z w q v k P := by
  refine ⟨s.q8, s.right, s.dp, s.inj, fun i hi => h _ (s.lt i hi) (s.inY i hi), fun i hi => ?_, ?_⟩
  · obtain ⟨a, c, kd, z, uz, hc, hl⟩ := s.known i hi
    exact ⟨a, c, kd, z, uz, hc, LiesX.mono (fun n hn => ⟨h n hn.2 hn.1.1, hn.1.2⟩) hl.both⟩
  · obtain ⟨kd, z, a, c, h1, h3, hc, hl⟩ := s.lazy
    exact ⟨kd, z, a, c, h1, h3, hc, LiesX.mono (fun n hn => ⟨h n hn.2 hn.1.1, hn.1.2⟩) hl.both⟩

theorem Dq.force {Y : Nat → Prop} {w w' : World} {q : Nat} {v : VT} {k : Nat} {P : Nat → Nat} (s : Dq Y w q v k P) (hY : ∀ n, w.heap.size ≤ n → Y n) {b' : Nat} {a1 : Option Addr} {c1 : Nat} {kd : Int} {z : VT} {uz : Value} (hk : KC (fun j => j = P k) w w') (hb' : w.heap.size ≤ b') (hc : DB w' (P k) true true (itv q k v) (.slice a1 (itv q k v).items.length c1) (some ⟨b', 0, none⟩) kd q z uz) (hc' : DB w' b' false false zeroT (.slice none 0 0) none 13 q (itv q k v) (.slice a1 (itv q k v).items.length c1)) (h1 : LiesX (fun n => ((Y n ∧ ∀ j, j ≤ k → n ≠ P j) ∧ n < w.heap.size) ∨ (w.heap.size ≤ n ∧ n ≠ b')) 16 w' (itv q k v).items (.slice a1 (itv q k v).items.length c1)) :
    Dq Y w' q v (k + 1) (fun i => if i = k + 1 then b' else P i) := by
  have hlt := s.lt
  have hO : ∀ n, (Y n ∧ ∀ j, j ≤ k → n ≠ P j) ∧ n < w.heap.size → Y n ∧ ∀ j, j ≤ k + 1 → n ≠ (if j = k + 1 then b' else P j) := fun n hn => by
    refine ⟨hn.1.1, fun j hj => ?_⟩
    by_cases e : j = k + 1
    · rw [if_pos e]; omega
    · rw [if_neg e]; exact hn.1.2 j (by omega)
  have hX : ∀ n, (((Y n ∧ ∀ j, j ≤ k → n ≠ P j) ∧ n < w.heap.size) ∨ (w.heap.size ≤ n ∧ n ≠ b')) → Y n ∧ ∀ j, j ≤ k + 1 → n ≠ (if j = k + 1 then b' else P j) := fun n hn => by
    rcases hn with hn | hn
    · exact hO n hn
    · refine ⟨hY n hn.1, fun j hj => ?_⟩
      by_cases e : j = k + 1
      · rw [if_pos e]; exact hn.2
      · rw [if_neg e]; have := hlt j (by omega); omega
  refine ⟨s.q8, s.right, s.dp, fun i j hi hj e => ?_, fun i hi => ?_, fun i hi => ?_, ?_⟩
  · by_cases e1 : i = k + 1
    · by_cases e2 : j = k + 1
      · omega
      · simp only [if_pos e1, if_neg e2] at e; have := hlt j (by omega); omega
    · by_cases e2 : j = k + 1
      · simp only [if_neg e1, if_pos e2] at e; have := hlt i (by omega); omega
      · simp only [if_neg e1, if_neg e2] at e; exact s.inj i j (by omega) (by omega) e
  · by_cases e1 : i = k + 1
    · simp only [if_pos e1]; exact hY _ hb'
    · simp only [if_neg e1]; exact s.inY i (by omega)
  · by_cases e1 : i = k
    · subst e1
      have n1 : ¬ i = i + 1 := by omega
      simp only [if_neg n1, if_true]
      exact ⟨a1, c1, kd, z, uz, hc, LiesX.mono hX h1⟩
    · have n1 : ¬ i = k + 1 := by omega
      have n2 : ¬ i + 1 = k + 1 := by omega
      simp only [if_neg n1, if_neg n2]
      obtain ⟨a, c, kd0, z0, uz0, hc0, hl⟩ := s.known i (by omega)
      exact ⟨a, c, kd0, z0, uz0, hk.db (fun e => e1 (s.inj i k (by omega) (by omega) e)) hc0, LiesX.mono hO (hk.liesX (fun n hn => hn.1.2 k (by omega)) hl.both)⟩
  · simp only [if_true]
    exact ⟨13, itv q k v, a1, c1, .inr ⟨rfl, rfl⟩, (it_right q s.right s.dp k).1, hc', LiesX.mono hX h1⟩

/-- The document's force of the first that is not known. -/
theorem Dq.step {Y : Nat → Prop} {w : World} {q : Nat} {v : VT} {k : Nat} {P : Nat → Nat} (s : Dq Y w q v k P) (f : Nat) (hf : f < 1073741824) : ∃ kd z uz,
    Calls Try.prog 31 #[.pointer (some ⟨P k, 0, none⟩), .int .i64 ((f + 1 : Nat) : Int)] w (RForce (fun n => (Y n ∧ ∀ j, j ≤ k → n ≠ P j) ∧ n < w.heap.size) q (itv q k v) f (P k) kd z uz w) := by
  obtain ⟨kd, z, a, c, h1, h3, hc, hl⟩ := s.lazy
  refine ⟨kd, z, _, rforce_lazy _ q f (P k) hf kd (itv q k v) z _ (fun h => h.1.2 k (Nat.le_refl _) rfl) w (fun n hn => hn.2) hc (fun V hV => ?_)⟩
  rcases h1 with ⟨rfl, rfl⟩ | ⟨rfl, hz⟩
  · exact rstep1 _ q (P k) f _ a c V (hc.keeps hV) (hl.both.keeps hV)
  · rw [← hz]
    exact rstep13 _ q (P k) s.q8 f z a c V (hc.keeps hV) (hl.both.keeps hV) h3

/-- What the document's Ahead leaves. -/
def RAPost (Y : Nat → Prop) (q : Nat) (v : VT) (k : Nat) (P : Nat → Nat) (n f : Nat) (w : World) (e : Ending) (w' : World) : Prop :=
  ∃ K P', (∀ i, i ≤ k → P' i = P i) ∧ (∀ i, k < i → i ≤ K → w.heap.size ≤ P' i) ∧ Dq Y w' q v K P' ∧ KC (fun j => ∃ i, i ≤ k ∧ j = P i) w w' ∧
    ((max k n ≤ k + f ∧ K = max k n ∧ e = .returned (.tuple #[.int .i64 ((f + k - K : Nat) : Int), .int .i64 0])) ∨ (k + f < max k n ∧ K = k + f ∧ e = .returned (.tuple #[.int .i64 0, .int .i64 220])))

set_option maxRecDepth 100000 in
set_option maxHeartbeats 8000000 in
theorem rahead_any (Y : Nat → Prop) (q : Nat) (v : VT) (k : Nat) (P : Nat → Nat) (n f : Nat) (hn : n ≤ 65536) (hf : f ≤ 1073741824) (w : World) (s : Dq Y w q v k P) (hY : ∀ n, w.heap.size ≤ n → Y n) :
    Calls Try.prog 11 #[.pointer (some ⟨P 0, 0, none⟩), .int .i64 (n : Int), .int .i64 (f : Int)] w (RAPost Y q v k P n f w) := by
  have HS : Hid (Dq Y w q v k P) := s
  have HY : Hid (∀ n, w.heap.size ≤ n → Y n) := hY
  have h0 : ¬ (n : Int) < 0 := by omega
  have h1 : ¬ (65536 : Int) < (n : Int) := by omega
  have h2 : ¬ (f : Int) < 0 := by omega
  have h3 : ¬ (1073741824 : Int) < (f : Int) := by omega
  have Hf : Hid (f ≤ 1073741824 ∧ n ≤ 65536) := ⟨hf, hn⟩
  clear s hY hf hn
  go_enter Try.func11, Try.ntmps11
  go_upto_region 3 with fail
  clear h0 h1 h2 h3
  go_wp2_with fail
  go_loopg [0, 2, 8] n (fun g at_ fu i wr => ∃ (j fl b : Nat), i = .int .i64 (j : Int) ∧ at_ = .pointer (some ⟨b, 0, none⟩) ∧ fu = .int .i64 (fl : Int) ∧ j ≤ n ∧ g = n - j ∧ Hid (∃ (k' : Nat) (P' : Nat → Nat), b = P' j ∧ k' = max k j ∧ fl + k' = f + k ∧ Dq Y wr q v k' P' ∧ (∀ i, i ≤ k → P' i = P i) ∧ (∀ i, k < i → i ≤ k' → w.heap.size ≤ P' i) ∧ KC (fun j => ∃ i, i ≤ k ∧ j = P i) w wr))
  case atStart => exact ⟨0, f, P 0, rfl, rfl, rfl, by omega, by omega, k, P, rfl, by omega, rfl, HS.out, fun _ _ => rfl, fun i h1 h2 => by omega, KC.refl _ _⟩
  case round =>
    obtain ⟨j, fl, b, rfl, rfl, rfl, hj, hg, HI⟩ := hrel
    have Hg : Hid _ := hg
    clear hg
    by_cases hlt : j < n
    · have hji : (j : Int) < (n : Int) := by omega
      obtain ⟨k', P', hb, hk', hfl, hs, hP, hN, hkc⟩ := HI.out
      have e1 : IntKind.i64.wrap ((j : Int) + 1) = ((j + 1 : Nat) : Int) := by have := Hf.out; rw [IntKind.wrap_i64]; omega
      by_cases hjk : j < k'
      · obtain ⟨a, c, kd, z, uz, hc, _⟩ := hs.known j hjk
        generalize hx : itv q j v = x at hc
        have HFo : Hid (Calls Try.prog 31 #[.pointer (some ⟨b, 0, none⟩), .int .i64 (fl : Int)] wr (RK x a c (some ⟨P' (j + 1), 0, none⟩) fl wr)) := by rw [hb]; exact rforce_known _ q fl kd x z uz a c _ wr hc
        have HI2 : Hid (∀ V, Below wr.heap.size wr V → ∃ (k' : Nat) (P'' : Nat → Nat), P' (j + 1) = P'' (j + 1) ∧ k' = max k (j + 1) ∧ fl + k' = f + k ∧ Dq Y V q v k' P'' ∧ (∀ i, i ≤ k → P'' i = P i) ∧ (∀ i, k < i → i ≤ k' → w.heap.size ≤ P'' i) ∧ KC (fun j => ∃ i, i ≤ k ∧ j = P i) w V) := fun V hV => ⟨k', P', rfl, by omega, hfl, hs.keeps hV, hP, hN, hkc.trans (KC.of_below hV)⟩
        clear hb hk' hfl hs hP hN hkc hjk hc HI hx
        generalize P' (j + 1) = b2 at *
        go_wp2_with fail
        refine Calls.mono HFo.out ?_
        rintro e w2 ⟨rfl, hg2⟩
        have HI3 : Hid (∀ A, _) := fun A => HI2.out (w2.alloc A) (hg2.trans (((Grew.refl w2).alloc A).below.mono hg2.size))
        clear HFo HI2 hg2
        go_wp2_with fail
        go_roundg (n - (j + 1))
        case measure => have := Hg.out; omega
        case rel => exact ⟨j + 1, fl, b2, rfl, rfl, rfl, by omega, rfl, HI3.out _⟩
      · obtain rfl : j = k' := by omega
        by_cases hfz : fl = 0
        · subst hfz
          obtain ⟨kd, z, a, c, _, _, hc, _⟩ := hs.lazy
          have HFo : Hid (Calls Try.prog 31 #[.pointer (some ⟨b, 0, none⟩), .int .i64 0] wr (FNil 0 220 wr)) := by rw [hb]; exact rforce_dry _ q kd z _ wr hc
          have HE : Hid (∀ V, Below wr.heap.size wr V → RAPost Y q v k P n f w (.returned (.tuple #[.int .i64 0, .int .i64 220])) V) := fun V hV => ⟨j, P', hP, hN, hs.keeps hV, hkc.trans (KC.of_below hV), .inr ⟨by omega, by omega, rfl⟩⟩
          clear hb hk' hfl hs hP hN hkc hjk hc HI
          go_wp2_with fail
          refine Calls.mono HFo.out ?_
          rintro e w2 ⟨a2, c2, rfl, hg2⟩
          have HE3 : Hid (∀ A, _) := fun A => HE.out (w2.alloc A) (hg2.trans (((Grew.refl w2).alloc A).below.mono hg2.size))
          clear HFo HE hg2
          go_wp2_with fail
          refine bodyPost_ret (v := .tuple #[.int .i64 0, .int .i64 220]) ?_ rfl (HE3.out _)
          simp [results, Try.results11, go_sem]
        · obtain ⟨f1, rfl⟩ : ∃ f1, fl = f1 + 1 := ⟨fl - 1, by omega⟩
          obtain ⟨kd, z, uz, hst⟩ := hs.step f1 (by have := Hf.out; omega)
          rw [← hb] at hst
          generalize hx : itv q j v = x at hst
          have HFo : Hid _ := hst
          have HX : Hid (itv q j v = x) := hx
          have HS2 : Hid (Dq Y wr q v j P') := hs
          have HR : Hid (b = P' j ∧ j = max k j ∧ f1 + 1 + j = f + k ∧ (∀ i, i ≤ k → P' i = P i) ∧ (∀ i, k < i → i ≤ j → w.heap.size ≤ P' i) ∧ KC (fun j => ∃ i, i ≤ k ∧ j = P i) w wr) := ⟨hb, hk', hfl, hP, hN, hkc⟩
          clear hb hk' hfl hs hP hN hkc hjk HI hfz hst hx
          go_wp2_with fail
          refine Calls.mono HFo.out ?_
          rintro e w2 ⟨hk2, a1, c1, b', rfl, hb', hc, hc', h1⟩
          have HI2 : Hid (∀ V, Below w2.heap.size w2 V → ∃ (k' : Nat) (P'' : Nat → Nat), b' = P'' (j + 1) ∧ k' = max k (j + 1) ∧ f1 + k' = f + k ∧ Dq Y V q v k' P'' ∧ (∀ i, i ≤ k → P'' i = P i) ∧ (∀ i, k < i → i ≤ k' → w.heap.size ≤ P'' i) ∧ KC (fun j => ∃ i, i ≤ k ∧ j = P i) w V) := by
            intro V hV
            obtain ⟨hb, hk', hfl, hP, hN, hkc⟩ := HR.out
            have hx := HX.out
            subst hb hx
            refine ⟨j + 1, _, ?_, by omega, by omega, (HS2.out.force (fun n hn => HY.out n (Nat.le_trans hkc.size hn)) hk2 hb' hc hc' (LiesX.mono (fun n hn => by rcases hn with h | h; exact .inl h.1; exact .inr h) h1)).keeps hV, fun i hi => ?_, fun i h3 h4 => ?_, ?_⟩
            · simp
            · have : ¬ i = j + 1 := by omega
              simp only [if_neg this]
              exact hP i hi
            · by_cases e : i = j + 1
              · simp only [if_pos e]; exact Nat.le_trans hkc.size hb'
              · simp only [if_neg e]; exact hN i h3 (by omega)
            · refine (hkc.trans2 hk2 (fun i hi e => ?_)).trans (KC.of_below hV)
              by_cases hjk : j ≤ k
              · exact ⟨j, hjk, by rw [e]; exact hP j hjk⟩
              · exfalso
                have := hN j (by omega) (Nat.le_refl _)
                omega
          have HI3 : Hid (∀ A, _) := fun A => HI2.out (w2.alloc A) ((Grew.refl w2).alloc A).below
          clear hk2 hb' hc hc' h1 HFo HS2 HR HI2 HX
          go_wp2_with fail
          go_roundg (n - (j + 1))
          case measure => have := Hg.out; omega
          case rel => exact ⟨j + 1, f1, b', rfl, rfl, rfl, by omega, rfl, HI3.out _⟩
    · have hji : ¬ (j : Int) < (n : Int) := by omega
      have HE : Hid (RAPost Y q v k P n f w (.returned (.tuple #[.int .i64 (fl : Int), .int .i64 0])) wr) := by
        obtain ⟨k', P', hb, hk', hfl, hs, hP, hN, hkc⟩ := HI.out
        have hjn : j = n := by omega
        subst hjn
        exact ⟨k', P', hP, hN, hs, hkc, .inl ⟨by omega, hk', by rw [show f + k - k' = fl by omega]⟩⟩
      clear HI
      go_wp2_with fail
      refine bodyPost_ret (v := .tuple #[.int .i64 (fl : Int), .int .i64 0]) ?_ rfl HE.out
      simp [results, Try.results11, go_sem]

/-- As many as are known. -/
theorem Dq.len {Y : Nat → Prop} {w : World} {q : Nat} {v : VT} {k : Nat} {P : Nat → Nat} (s : Dq Y w q v k P) : Calls Try.prog 13 #[.pointer (some ⟨P 0, 0, none⟩)] w fun e w' => e = .returned (.int .i64 ((min k 65536 : Nat) : Int)) ∧ w' = w := by
  refine rknown_len P k w (fun i hi => ?_) ?_
  · obtain ⟨a, c, kd, z, uz, hc, _⟩ := s.known i hi
    exact ⟨hc.c0, hc.c1, hc.c6⟩
  · obtain ⟨kd, z, a, c, _, _, hc, _⟩ := s.lazy
    exact hc.c0

end Go.Proofs.Ytmmppmioackiaab

namespace Go.Proofs.Ytmmppmioackiaab
open Go.RowKit Go.Shelf

set_option maxRecDepth 100000 in
set_option maxHeartbeats 4000000 in
theorem rahead_bad (cv : Option Addr) (n f : Int) (h : (n < 0 ∨ 65536 < n) ∨ (f < 0 ∨ 1073741824 < f)) (w : World) : Calls Try.prog 11 #[.pointer cv, .int .i64 n, .int .i64 f] w fun e w' => e = .returned (.tuple #[.int .i64 0, .int .i64 1]) ∧ w' = w := by
  by_cases h1 : n < 0
  · clear h
    go_enter Try.func11, Try.ntmps11
    go_wp2_with fail
    exact bodyPost_ret (v := .tuple #[.int .i64 0, .int .i64 1]) (by simp [results, Try.results11, go_sem]) rfl ⟨rfl, rfl⟩
  · by_cases h2 : (65536 : Int) < n
    · clear h
      go_enter Try.func11, Try.ntmps11
      go_wp2_with fail
      exact bodyPost_ret (v := .tuple #[.int .i64 0, .int .i64 1]) (by simp [results, Try.results11, go_sem]) rfl ⟨rfl, rfl⟩
    · by_cases h3 : f < 0
      · clear h
        go_enter Try.func11, Try.ntmps11
        go_wp2_with fail
        exact bodyPost_ret (v := .tuple #[.int .i64 0, .int .i64 1]) (by simp [results, Try.results11, go_sem]) rfl ⟨rfl, rfl⟩
      · have h4 : (1073741824 : Int) < f := by omega
        clear h
        go_enter Try.func11, Try.ntmps11
        go_wp2_with fail
        exact bodyPost_ret (v := .tuple #[.int .i64 0, .int .i64 1]) (by simp [results, Try.results11, go_sem]) rfl ⟨rfl, rfl⟩

/-- Both are known equally far; none lies in the other one's way. -/
def St22 (w0 : World) (b b2 q : Nat) (v : VT) (wr : World) : Prop :=
  Below w0.heap.size w0 wr ∧ ∃ (k : Nat) (P Q : Nat → Nat), P 0 = b ∧ Q 0 = b2 ∧ (∀ i, i ≤ k → w0.heap.size ≤ Q i) ∧ Sq (fun n => w0.heap.size ≤ n ∧ ∀ i, i ≤ k → n ≠ Q i) wr q v k P ∧ Dq (fun n => ∀ i, i ≤ k → n ≠ P i) wr q v k Q

theorem St22.keeps {w0 : World} {b b2 q : Nat} {v : VT} {wr V : World} (s : St22 w0 b b2 q v wr) (hV : Below wr.heap.size wr V) : St22 w0 b b2 q v V := by
  obtain ⟨hb, k, P, Q, h1, h2, h3, h4, h5⟩ := s
  exact ⟨hb.trans (hV.mono hb.size), k, P, Q, h1, h2, h3, h4.keeps hV, h5.keeps hV⟩

theorem St22.known {w0 : World} {b b2 q : Nat} {v : VT} {wr : World} (s : St22 w0 b b2 q v wr) : ∃ M : Int, Calls Try.prog 12 #[.pointer (some ⟨b, 0, none⟩)] wr (fun e w' => e = .returned (.int .i64 M) ∧ w' = wr) ∧ Calls Try.prog 13 #[.pointer (some ⟨b2, 0, none⟩)] wr (fun e w' => e = .returned (.int .i64 M) ∧ w' = wr) := by
  obtain ⟨hb, k, P, Q, rfl, rfl, h3, h4, h5⟩ := s
  exact ⟨_, h4.len, h5.len⟩

/-- Behind the program's Ahead the document's tells the same, and both stand so again. -/
def Mid22 (w0 : World) (b b2 q : Nat) (v : VT) (n f : Int) (wr V : World) (e : Ending) (w' : World) : Prop :=
  ∃ L E : Int, e = .returned (.tuple #[.int .i64 L, .int .i64 E]) ∧ (∀ (x : Addr) (u : Value), wr.heap.size ≤ x.block → V.cell? x = some u → w'.cell? x = some u) ∧ Calls Try.prog 11 #[.pointer (some ⟨b2, 0, none⟩), .int .i64 n, .int .i64 f] w' (fun e w'' => e = .returned (.tuple #[.int .i64 L, .int .i64 E]) ∧ St22 w0 b b2 q v w'')

theorem St22.ahead {w0 : World} {b b2 q : Nat} {v : VT} {wr V : World} (s : St22 w0 b b2 q v wr) (hV : Below wr.heap.size wr V) (n f : Int) :
    Calls Try.prog 10 #[.pointer (some ⟨b, 0, none⟩), .int .i64 n, .int .i64 f] V (Mid22 w0 b b2 q v n f wr V) := by
  by_cases hbad : (n < 0 ∨ 65536 < n) ∨ (f < 0 ∨ 1073741824 < f)
  · refine Calls.mono (ahead_bad _ n f hbad V) ?_
    rintro e w' ⟨rfl, rfl⟩
    refine ⟨0, 1, rfl, fun x u _ h => h, Calls.mono (rahead_bad _ n f hbad w') ?_⟩
    rintro e w'' ⟨rfl, rfl⟩
    exact ⟨rfl, s.keeps hV⟩
  · obtain ⟨N, rfl⟩ : ∃ N : Nat, n = (N : Int) := ⟨n.toNat, by omega⟩
    obtain ⟨F, rfl⟩ : ∃ F : Nat, f = (F : Int) := ⟨f.toNat, by omega⟩
    obtain ⟨hb, k, P, Q, rfl, rfl, hQ0, hs, hd⟩ := s
    have hPl := hs.lt
    have hQl := hd.lt
    have hbV : Below w0.heap.size w0 V := hb.trans (hV.mono hb.size)
    have hVs := hV.size
    have hbs := hb.size
    refine Calls.mono (ahead_any _ q v k P N F (by omega) (by omega) V (hs.keeps hV) (fun n hn => ⟨by omega, fun i hi => by have := hQl i hi; omega⟩)) ?_
    rintro e w' ⟨K, P', hP, hN, hs', hkc, hcase⟩
    have hkb : ∀ j, (∃ i, i ≤ k ∧ j = P i) → j < wr.heap.size ∧ w0.heap.size ≤ j := fun j hj => by
      obtain ⟨i, hi, rfl⟩ := hj
      exact ⟨hPl i hi, (hs.inY i hi).1⟩
    have hd' : Dq (fun n => ∀ i, i ≤ K → n ≠ P' i) w' q v k Q := by
      refine ((hd.keeps hV).monoY (Z := fun n => ∀ i, i ≤ K → n ≠ P' i) (fun n hn hy i hi => ?_)).kc hkc (fun n hn hy hB => ?_)
      · by_cases e : i ≤ k
        · rw [hP i e]; exact hy i e
        · have := hN i (by omega) hi; omega
      · obtain ⟨i, hi, e⟩ := hB
        have hiK : i ≤ K := by
          rcases hcase with ⟨_, h, _⟩ | ⟨_, h, _⟩ <;> omega
        exact hy i hiK (by rw [hP i hi]; exact e)
    have hw's := hkc.size
    have hP'l := hs'.lt
    have hb' : Below w0.heap.size w0 w' := hbV.trans (hkc.below (fun j hj hh => by have := hkb j hh; omega) hbV.size)
    have hra := rahead_any _ q v k Q N F (by omega) (by omega) w' hd' (fun n hn i hi => by have := hP'l i hi; omega)
    obtain ⟨L, E, hLE, rfl⟩ : ∃ L E : Int, ((max k N ≤ k + F ∧ K = max k N ∧ L = ((F + k - K : Nat) : Int) ∧ E = 0) ∨ (k + F < max k N ∧ K = k + F ∧ L = 0 ∧ E = 220)) ∧ e = .returned (.tuple #[.int .i64 L, .int .i64 E]) := by
      rcases hcase with ⟨h1, h2, h3⟩ | ⟨h1, h2, h3⟩
      · exact ⟨_, _, .inl ⟨h1, h2, rfl, rfl⟩, h3⟩
      · exact ⟨_, _, .inr ⟨h1, h2, rfl, rfl⟩, h3⟩
    refine ⟨L, E, rfl, fun x u hx hu => hkc.cell (fun hh => by have := hkb _ hh; omega) hu, Calls.mono hra ?_⟩
    rintro e2 w'' ⟨K2, Q', hQ, hN2, hd'', hkc2, hcase2⟩
    have hKK : K2 = K ∧ e2 = .returned (.tuple #[.int .i64 L, .int .i64 E]) := by
      rcases hLE with ⟨h1, h2, h3, h4⟩ | ⟨h1, h2, h3, h4⟩
      · rcases hcase2 with ⟨g1, g2, g3⟩ | ⟨g1, _⟩
        · have e9 : K2 = K := by omega
          exact ⟨e9, by rw [g3, h3, h4, e9]⟩
        · omega
      · rcases hcase2 with ⟨g1, _⟩ | ⟨g1, g2, g3⟩
        · omega
        · exact ⟨by omega, by rw [g3, h3, h4]⟩
    obtain ⟨rfl, rfl⟩ := hKK
    have hkK : k ≤ K2 := by rcases hLE with ⟨_, h, _⟩ | ⟨_, h, _⟩ <;> omega
    refine ⟨rfl, hb'.trans (hkc2.below (fun j hj hh => by obtain ⟨i, hi, e⟩ := hh; have := hQ0 i hi; omega) hb'.size), K2, P', Q', hP 0 (Nat.zero_le _), hQ 0 (Nat.zero_le _), fun i hi => ?_, ?_, hd''⟩
    · by_cases e : i ≤ k
      · rw [hQ i e]; exact hQ0 i e
      · have := hN2 i (by omega) hi; omega
    · refine (hs'.monoY (Z := fun n => w0.heap.size ≤ n ∧ ∀ i, i ≤ K2 → n ≠ Q' i) (fun n hn hy => ⟨hy.1, fun i hi => ?_⟩)).kc hkc2 (fun n hn hy hB => ?_)
      · by_cases e : i ≤ k
        · rw [hQ i e]; exact hy.2 i e
        · have := hN2 i (by omega) hi; omega
      · obtain ⟨i, hi, e⟩ := hB
        exact hy.2 i (by omega) (by rw [hQ i hi]; exact e)

end Go.Proofs.Ytmmppmioackiaab

