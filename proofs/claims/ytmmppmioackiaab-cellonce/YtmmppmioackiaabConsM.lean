/-
  Cons; how many are known of a seq of Iter, and of one with an item ahead.
-/
import Derived.Test.YtmmppmioackiaabSpeaks22
namespace Go.Proofs.Ytmmppmioackiaab
open Go.RowKit Go.Shelf

/-- The i-th item. -/
abbrev itv (q i : Nat) (v : VT) : VT := itT (doneT q) i v

/-- A seq of Iter: cells P 0 .. P k, k of them known; all lists lie in blocks that Y holds of and that are none of the cells'. -/
structure Sq (Y : Nat → Prop) (w : World) (q : Nat) (v : VT) (k : Nat) (P : Nat → Nat) : Prop where
  q8 : q < 8
  right : rightV 16 v = true
  dp : Dp 16 v
  inj : ∀ i j, i ≤ k → j ≤ k → P i = P j → i = j
  inY : ∀ i, i ≤ k → Y (P i)
  known : ∀ i, i < k → ∃ a c, CB w (P i) .nilIface 0 (itv q i v) (.slice a (itv q i v).items.length c) (some ⟨P (i + 1), 0, none⟩) ∧ LiesX (fun n => Y n ∧ ∀ j, j ≤ k → n ≠ P j) 16 w (itv q i v).items (.slice a (itv q i v).items.length c)
  lazy : ∃ m z a c, m ≤ 1 ∧ itT (doneT q) m z = itv q k v ∧ rightV 16 z = true ∧ CB w (P k) (stepV q m z (.slice a z.items.length c)) 0 zeroT (.slice none 0 0) none ∧ LiesX (fun n => Y n ∧ ∀ j, j ≤ k → n ≠ P j) 16 w z.items (.slice a z.items.length c)

theorem Sq.lt {Y : Nat → Prop} {w : World} {q : Nat} {v : VT} {k : Nat} {P : Nat → Nat} (s : Sq Y w q v k P) (i : Nat) (hi : i ≤ k) : P i < w.heap.size := by
  by_cases h : i < k
  · obtain ⟨a, c, hc, _⟩ := s.known i h
    exact hc.lt
  · obtain rfl : i = k := by omega
    obtain ⟨m, z, a, c, _, _, _, hc, _⟩ := s.lazy
    exact hc.lt

theorem Sq.kc {Y B : Nat → Prop} {w w' : World} {q : Nat} {v : VT} {k : Nat} {P : Nat → Nat} (s : Sq Y w q v k P) (hk : KC B w w') (hB : ∀ n, n < w.heap.size → Y n → ¬ B n) : Sq Y w' q v k P := by
  have hp := fun i hi => hB (P i) (s.lt i hi) (s.inY i hi)
  refine ⟨s.q8, s.right, s.dp, s.inj, s.inY, fun i hi => ?_, ?_⟩
  · obtain ⟨a, c, hc, hl⟩ := s.known i hi
    exact ⟨a, c, hk.cb (hp i (by omega)) hc, LiesX.mono (fun n hn => hn.1) (hk.liesX (fun n hn => hB n hn.2 hn.1.1) hl.both)⟩
  · obtain ⟨m, z, a, c, h1, h2, h3, hc, hl⟩ := s.lazy
    exact ⟨m, z, a, c, h1, h2, h3, hk.cb (hp k (by omega)) hc, LiesX.mono (fun n hn => hn.1) (hk.liesX (fun n hn => hB n hn.2 hn.1.1) hl.both)⟩

theorem Sq.keeps {Y : Nat → Prop} {w w' : World} {q : Nat} {v : VT} {k : Nat} {P : Nat → Nat} (s : Sq Y w q v k P) (hb : Below w.heap.size w w') : Sq Y w' q v k P :=
  s.kc (B := fun _ => False) (KC.of_below hb) (fun _ _ _ h => h)

theorem Sq.monoY {Y Z : Nat → Prop} {w : World} {q : Nat} {v : VT} {k : Nat} {P : Nat → Nat} (s : Sq Y w q v k P) (h : ∀ n, n < w.heap.size → Y n → Z n) : Sq Z w q v k P := by
  refine ⟨s.q8, s.right, s.dp, s.inj, fun i hi => h _ (s.lt i hi) (s.inY i hi), fun i hi => ?_, ?_⟩
  · obtain ⟨a, c, hc, hl⟩ := s.known i hi
    exact ⟨a, c, hc, LiesX.mono (fun n hn => ⟨h n hn.2 hn.1.1, hn.1.2⟩) hl.both⟩
  · obtain ⟨m, z, a, c, h1, h2, h3, hc, hl⟩ := s.lazy
    exact ⟨m, z, a, c, h1, h2, h3, hc, LiesX.mono (fun n hn => ⟨h n hn.2 hn.1.1, hn.1.2⟩) hl.both⟩

/-- One more is known. -/
theorem Sq.force {Y : Nat → Prop} {w w' : World} {q : Nat} {v : VT} {k : Nat} {P : Nat → Nat} (s : Sq Y w q v k P) (hY : ∀ n, w.heap.size ≤ n → Y n) {b' : Nat} {a1 a2 : Option Addr} {c1 c2 : Nat} (hk : KC (fun j => j = P k) w w') (hb' : w.heap.size ≤ b') (hc : CB w' (P k) .nilIface 0 (itv q k v) (.slice a1 (itv q k v).items.length c1) (some ⟨b', 0, none⟩)) (hc' : CB w' b' (stepV q 1 (itv q k v) (.slice a2 (itv q k v).items.length c2)) 0 zeroT (.slice none 0 0) none) (h1 : LiesX (fun n => w.heap.size ≤ n ∧ n ≠ b') 16 w' (itv q k v).items (.slice a1 (itv q k v).items.length c1)) (h2 : LiesX (fun n => w.heap.size ≤ n ∧ n ≠ b') 16 w' (itv q k v).items (.slice a2 (itv q k v).items.length c2)) :
    Sq Y w' q v (k + 1) (fun i => if i = k + 1 then b' else P i) := by
  have hlt := s.lt
  have hX : ∀ n, w.heap.size ≤ n ∧ n ≠ b' → Y n ∧ ∀ j, j ≤ k + 1 → n ≠ (if j = k + 1 then b' else P j) := fun n hn => by
    refine ⟨hY n hn.1, fun j hj => ?_⟩
    by_cases e : j = k + 1
    · rw [if_pos e]; exact hn.2
    · rw [if_neg e]; have := hlt j (by omega); omega
  have hO : ∀ n, (Y n ∧ ∀ j, j ≤ k → n ≠ P j) ∧ n < w.heap.size → Y n ∧ ∀ j, j ≤ k + 1 → n ≠ (if j = k + 1 then b' else P j) := fun n hn => by
    refine ⟨hn.1.1, fun j hj => ?_⟩
    by_cases e : j = k + 1
    · rw [if_pos e]; omega
    · rw [if_neg e]; exact hn.1.2 j (by omega)
  refine ⟨s.q8, s.right, s.dp, fun i j hi hj e => ?_, fun i hi => ?_, fun i hi => ?_, ?_⟩
  · by_cases e1 : i = k + 1
    · by_cases e2 : j = k + 1
      · omega
      · simp only [if_pos e1, if_neg e2] at e; have := hlt j (by omega); omega
    · by_cases e2 : j = k + 1
      · simp only [if_neg e1, if_pos e2] at e; have := hlt i (by omega); omega
      · simp only [if_neg e1, if_neg e2] at e; exact s.inj i j (by omega) (by omega) e
  · by_cases e1 : i = k + 1
    · simp only [if_pos e1]; exact hY _ hb'
    · simp only [if_neg e1]; exact s.inY i (by omega)
  · by_cases e1 : i = k
    · subst e1
      have n1 : ¬ i = i + 1 := by omega
      simp only [if_neg n1, if_true]
      exact ⟨a1, c1, hc, LiesX.mono hX h1⟩
    · have n1 : ¬ i = k + 1 := by omega
      have n2 : ¬ i + 1 = k + 1 := by omega
      simp only [if_neg n1, if_neg n2]
      obtain ⟨a, c, hc0, hl⟩ := s.known i (by omega)
      exact ⟨a, c, hk.cb (fun e => e1 (s.inj i k (by omega) (by omega) e)) hc0, LiesX.mono hO (hk.liesX (fun n hn => hn.1.2 k (by omega)) hl.both)⟩
  · simp only [if_true]
    exact ⟨1, itv q k v, a2, c2, by omega, rfl, (it_right q s.right s.dp k).1, hc', LiesX.mono hX h2⟩

/-- What Ahead leaves: K cells are known, and the fuel. -/
def APost (Y : Nat → Prop) (q : Nat) (v : VT) (k : Nat) (P : Nat → Nat) (n f : Nat) (w : World) (e : Ending) (w' : World) : Prop :=
  ∃ K P', (∀ i, i ≤ k → P' i = P i) ∧ (∀ i, k < i → i ≤ K → w.heap.size ≤ P' i) ∧ Sq Y w' q v K P' ∧ KC (fun j => ∃ i, i ≤ k ∧ j = P i) w w' ∧
    ((max k n ≤ k + f ∧ K = max k n ∧ e = .returned (.tuple #[.int .i64 ((f + k - K : Nat) : Int), .int .i64 0])) ∨ (k + f < max k n ∧ K = k + f ∧ e = .returned (.tuple #[.int .i64 0, .int .i64 220])))

set_option maxRecDepth 100000 in
set_option maxHeartbeats 8000000 in
theorem ahead_any (Y : Nat → Prop) (q : Nat) (v : VT) (k : Nat) (P : Nat → Nat) (n f : Nat) (hn : n ≤ 65536) (hf : f ≤ 1073741824) (w : World) (s : Sq Y w q v k P) (hY : ∀ n, w.heap.size ≤ n → Y n) :
    Calls Try.prog 10 #[.pointer (some ⟨P 0, 0, none⟩), .int .i64 (n : Int), .int .i64 (f : Int)] w (APost Y q v k P n f w) := by
  have HCf : Hid (∀ V, Calls Try.prog 28 #[.int .i64 (f : Int)] V fun e w' => e = .returned (.int .i64 0) ∧ w' = V) := fun V => checkFuel_ok f hf V
  have HOw : Hid (∀ V, Calls Try.prog 29 #[.pointer (some ⟨P 0, 0, none⟩)] V fun e w' => e = .returned (.pointer (some ⟨P 0, 0, none⟩)) ∧ w' = V) := own_some22 (P 0)
  have HS : Hid (Sq Y w q v k P) := s
  have HY : Hid (∀ n, w.heap.size ≤ n → Y n) := hY
  have h0 : ¬ (n : Int) < 0 := by omega
  have h1 : ¬ (65536 : Int) < (n : Int) := by omega
  have Hf : Hid (f ≤ 1073741824 ∧ n ≤ 65536) := ⟨hf, hn⟩
  clear s hY hf hn
  go_enter Try.func10, Try.ntmps10
  go_wp2_with fail
  refine Calls.mono (HCf.out _) ?_
  rintro e w9 ⟨rfl, hw9⟩
  obtain rfl : w = w9 := hw9.symm
  clear hw9 HCf
  go_wp2_with fail
  refine Calls.mono (HOw.out _) ?_
  rintro e w9 ⟨rfl, hw9⟩
  obtain rfl : w = w9 := hw9.symm
  clear hw9 HOw h0 h1
  go_wp2_with fail
  go_loopg [2, 9, 26] n (fun g fu at_ i wr => ∃ (j fl b : Nat), i = .int .i64 (j : Int) ∧ at_ = .pointer (some ⟨b, 0, none⟩) ∧ fu = .int .i64 (fl : Int) ∧ j ≤ n ∧ g = n - j ∧ Hid (∃ (k' : Nat) (P' : Nat → Nat), b = P' j ∧ k' = max k j ∧ fl + k' = f + k ∧ Sq Y wr q v k' P' ∧ (∀ i, i ≤ k → P' i = P i) ∧ (∀ i, k < i → i ≤ k' → w.heap.size ≤ P' i) ∧ KC (fun j => ∃ i, i ≤ k ∧ j = P i) w wr))
  case atStart => exact ⟨0, f, P 0, rfl, rfl, rfl, by omega, by omega, k, P, rfl, by omega, rfl, HS.out, fun _ _ => rfl, fun i h1 h2 => by omega, KC.refl _ _⟩
  case round =>
    obtain ⟨j, fl, b, rfl, rfl, rfl, hj, hg, HI⟩ := hrel
    have Hg : Hid _ := hg
    clear hg
    by_cases hlt : j < n
    · have hji : (j : Int) < (n : Int) := by omega
      obtain ⟨k', P', hb, hk', hfl, hs, hP, hN, hkc⟩ := HI.out
      by_cases hjk : j < k'
      · obtain ⟨a, c, hc, _⟩ := hs.known j hjk
        have HFo : Hid (Calls Try.prog 30 #[.pointer (some ⟨b, 0, none⟩), .int .i64 (fl : Int)] wr fun e w' => e = .returned (.tuple #[.int .i64 (fl : Int), .int .i64 0]) ∧ w' = wr) := by rw [hb]; exact force_known _ _ wr hc.c0
        have c6 : wr.cell? ⟨b, 6, none⟩ = some (.pointer (some ⟨P' (j + 1), 0, none⟩)) := by rw [hb]; exact hc.c6
        have HI2 : Hid (∃ (k' : Nat) (P'' : Nat → Nat), P' (j + 1) = P'' (j + 1) ∧ k' = max k (j + 1) ∧ fl + k' = f + k ∧ Sq Y wr q v k' P'' ∧ (∀ i, i ≤ k → P'' i = P i) ∧ (∀ i, k < i → i ≤ k' → w.heap.size ≤ P'' i) ∧ KC (fun j => ∃ i, i ≤ k ∧ j = P i) w wr) := ⟨k', P', rfl, by omega, hfl, hs, hP, hN, hkc⟩
        have e1 : IntKind.i64.wrap ((j : Int) + 1) = ((j + 1 : Nat) : Int) := by have := Hf.out; rw [IntKind.wrap_i64]; omega
        clear hb hk' hfl hs hP hN hkc hjk hc HI
        generalize P' (j + 1) = b2 at *
        go_wp2_with fail
        refine Calls.mono HFo.out ?_
        rintro e w9 ⟨rfl, hw9⟩
        obtain rfl : wr = w9 := hw9.symm
        clear hw9 HFo
        go_wp2_with fail
        go_roundg (n - (j + 1))
        case measure => have := Hg.out; omega
        case rel => exact ⟨j + 1, fl, b2, rfl, rfl, rfl, by omega, rfl, HI2.out⟩
      · obtain rfl : j = k' := by omega
        obtain ⟨m, z, a, c, hm, hmz, hzr, hc, hl⟩ := hs.lazy
        by_cases hfz : fl = 0
        · subst hfz
          have HFo : Hid (Calls Try.prog 30 #[.pointer (some ⟨b, 0, none⟩), .int .i64 0] wr fun e w' => e = .returned (.tuple #[.int .i64 0, .int .i64 220]) ∧ w' = wr) := by rw [hb]; exact force_dry _ _ _ wr hc.c0
          have HE : Hid (APost Y q v k P n f w (.returned (.tuple #[.int .i64 0, .int .i64 220])) wr) := ⟨j, P', hP, hN, hs, hkc, .inr ⟨by omega, by omega, rfl⟩⟩
          clear hb hk' hfl hs hP hN hkc hjk hc HI hm hmz hzr hl
          go_wp2_with fail
          refine Calls.mono HFo.out ?_
          rintro e w9 ⟨rfl, hw9⟩
          obtain rfl : wr = w9 := hw9.symm
          clear hw9 HFo
          go_wp2_with fail
          refine bodyPost_ret (v := .tuple #[.int .i64 0, .int .i64 220]) ?_ rfl HE.out
          simp [results, Try.results10, go_sem]
        · obtain ⟨f1, rfl⟩ : ∃ f1, fl = f1 + 1 := ⟨fl - 1, by omega⟩
          have HFo : Hid (Calls Try.prog 30 #[.pointer (some ⟨b, 0, none⟩), .int .i64 ((f1 + 1 : Nat) : Int)] wr (ForcePost q (itv q j v) f1 b wr)) := by
            have h9 := force_lazy q m f1 b hs.q8 (by omega) (by have := Hf.out; omega) z a c wr (by rw [hb]; exact hc) (LiesX.mono (fun n hn => by rw [hb]; exact hn.2 j (by omega)) hl) hzr
            rw [hmz] at h9
            exact h9
          have HS2 : Hid (Sq Y wr q v j P') := hs
          have HR : Hid (b = P' j ∧ j = max k j ∧ f1 + 1 + j = f + k ∧ (∀ i, i ≤ k → P' i = P i) ∧ (∀ i, k < i → i ≤ j → w.heap.size ≤ P' i) ∧ KC (fun j => ∃ i, i ≤ k ∧ j = P i) w wr) := ⟨hb, hk', hfl, hP, hN, hkc⟩
          have e1 : IntKind.i64.wrap ((j : Int) + 1) = ((j + 1 : Nat) : Int) := by have := Hf.out; rw [IntKind.wrap_i64]; omega
          clear hb hk' hfl hs hP hN hkc hjk hc HI hm hmz hzr hl hfz
          go_wp2_with fail
          refine Calls.mono HFo.out ?_
          rintro e w2 ⟨hk2, rfl, a1, c1, a2, c2, b', hb', hc, hc', h1, h2⟩
          have c6 := hc.c6
          have HI2 : Hid (∃ (k' : Nat) (P'' : Nat → Nat), b' = P'' (j + 1) ∧ k' = max k (j + 1) ∧ f1 + k' = f + k ∧ Sq Y w2 q v k' P'' ∧ (∀ i, i ≤ k → P'' i = P i) ∧ (∀ i, k < i → i ≤ k' → w.heap.size ≤ P'' i) ∧ KC (fun j => ∃ i, i ≤ k ∧ j = P i) w w2) := by
            obtain ⟨hb, hk', hfl, hP, hN, hkc⟩ := HR.out
            have hbs := HS2.out.lt j (Nat.le_refl _)
            subst hb
            refine ⟨j + 1, _, ?_, by omega, by omega, HS2.out.force (fun n hn => HY.out n (Nat.le_trans hkc.size hn)) hk2 hb' hc hc' h1 h2, fun i hi => ?_, fun i h3 h4 => ?_, ?_⟩
            · simp
            · have : ¬ i = j + 1 := by omega
              simp only [if_neg this]
              exact hP i hi
            · by_cases e : i = j + 1
              · simp only [if_pos e]; exact Nat.le_trans hkc.size hb'
              · simp only [if_neg e]; exact hN i h3 (by omega)
            · refine hkc.trans2 hk2 (fun i hi e => ?_)
              by_cases hjk : j ≤ k
              · exact ⟨j, hjk, by rw [e]; exact hP j hjk⟩
              · exfalso
                have := hN j (by omega) (Nat.le_refl _)
                omega
          clear hk2 hb' hc hc' h1 h2 HFo HS2 HR
          go_wp2_with fail
          go_roundg (n - (j + 1))
          case measure => have := Hg.out; omega
          case rel => exact ⟨j + 1, f1, b', rfl, rfl, rfl, by omega, rfl, HI2.out⟩
    · have hji : ¬ (j : Int) < (n : Int) := by omega
      have HE : Hid (APost Y q v k P n f w (.returned (.tuple #[.int .i64 (fl : Int), .int .i64 0])) wr) := by
        obtain ⟨k', P', hb, hk', hfl, hs, hP, hN, hkc⟩ := HI.out
        have hjn : j = n := by omega
        subst hjn
        exact ⟨k', P', hP, hN, hs, hkc, .inl ⟨by omega, hk', by rw [show f + k - k' = fl by omega]⟩⟩
      clear HI
      go_wp2_with fail
      refine bodyPost_ret (v := .tuple #[.int .i64 (fl : Int), .int .i64 0]) ?_ rfl HE.out
      simp [results, Try.results10, go_sem]

end Go.Proofs.Ytmmppmioackiaab

namespace Go.Proofs.Ytmmppmioackiaab
open Go.RowKit Go.Shelf

/-- What Cons tells of a right value. -/
def ConsPost (v : VT) (b : Nat) (w : World) (e : Ending) (w' : World) : Prop :=
  Below w.heap.size w w' ∧ ∃ d a c, e = .returned (.tuple #[.pointer (some ⟨d, 0, none⟩), .int .i64 0]) ∧ w.heap.size ≤ d ∧ CB w' d .nilIface 0 v (.slice a v.items.length c) (some ⟨b, 0, none⟩) ∧ LiesX (fun n => w.heap.size ≤ n ∧ n ≠ d) 16 w' v.items (.slice a v.items.length c)

set_option maxRecDepth 100000 in
set_option maxHeartbeats 8000000 in
theorem cons_ok (v : VT) (u : Value) (b : Nat) (w : World) (hu : Lies 16 w v.items u) (hr : rightV 16 v = true) :
    Calls Try.prog 16 #[.agg #[.int .i64 v.kind, .int .i64 v.num, .string v.text, u], .pointer (some ⟨b, 0, none⟩)] w (ConsPost v b w) := by
  obtain ⟨au, cu, rfl, _⟩ := Lies.slice hu
  have HC : Hid (∀ V, Below w.heap.size w V → Calls Try.prog 32 #[.agg #[.int .i64 v.kind, .int .i64 v.num, .string v.text, .slice au v.items.length cu]] V fun e w' => e = .returned (.int .i64 0) ∧ Below V.heap.size V w') := fun V hV => by
    have h9 := check_grew 16 v _ V (Lies.keeps hV _ _ _ hu) (Nat.le_trans (right_size hr) (by omega))
    rw [hr] at h9
    exact Calls.mono h9 fun e w' h => ⟨h.1, h.2.below⟩
  have HCp : Hid (∀ V, Below w.heap.size w V → Calls Try.prog 33 #[.agg #[.int .i64 v.kind, .int .i64 v.num, .string v.text, .slice au v.items.length cu]] V (CopyPost 16 v V)) := fun V hV => copy_right v _ V (Lies.keeps hV _ _ _ hu) hr
  have HOw : Hid (∀ V, Calls Try.prog 29 #[.pointer (some ⟨b, 0, none⟩)] V fun e w' => e = .returned (.pointer (some ⟨b, 0, none⟩)) ∧ w' = V) := own_some22 b
  obtain ⟨W0, hW0⟩ : ∃ W0, W0 = w.alloc (.cells #[.int .i64 v.kind, .int .i64 v.num, .string v.text, .slice au v.items.length cu] 24) := ⟨_, rfl⟩
  have HW0 : Hid (W0 = w.alloc (.cells #[.int .i64 v.kind, .int .i64 v.num, .string v.text, .slice au v.items.length cu] 24)) := hW0
  have hb0 : Below w.heap.size w W0 := by rw [hW0]; exact ((Grew.refl _).alloc _).below
  have HK : Hid (Bx W0 w.heap.size v (.slice au v.items.length cu)) := by rw [hW0]; exact bx_alloc _ _ _
  obtain ⟨k0, k1, k2, k3, _, _, _, _⟩ := HK.out
  clear hW0 hu hr HK
  go_enter Try.func16, Try.ntmps16
  go_upto_region 1 with fail
  rw [← HW0.out]
  clear HW0
  go_wp2_with fail
  refine Calls.mono (HC.out _ hb0) ?_
  rintro e w1 ⟨rfl, hg1⟩
  have hb1 : Below w.heap.size w w1 := hb0.trans (hg1.mono hb0.size)
  have k0 := cell_keeps hg1 k0; have k1 := cell_keeps hg1 k1; have k2 := cell_keeps hg1 k2; have k3 := cell_keeps hg1 k3
  clear hg1 HC hb0
  go_wp2_with fail
  refine Calls.mono (HCp.out _ hb1) ?_
  rintro e w2 ⟨u2, rfl, hl2, hg2⟩
  obtain ⟨a2, c2, rfl, _⟩ := LiesB.slice hl2
  have hb2 : Below w.heap.size w w2 := hb1.trans (hg2.mono hb1.size)
  have HL : Hid (LiesX (fun n => w.heap.size ≤ n ∧ n < w2.heap.size) 16 w2 v.items (.slice a2 v.items.length c2)) := by
    have hs := hb1.size
    exact LiesX.mono (fun n hn => ⟨by omega, hn.2⟩) (LiesX.of_b hl2).both
  clear hg2 HCp hb1 k0 k1 k2 k3 hl2
  go_wp2_with fail
  refine Calls.mono (HOw.out _) ?_
  rintro e w9 ⟨rfl, hw9⟩
  obtain rfl : w2 = w9 := hw9.symm
  clear hw9 HOw
  have HE : Hid (ConsPost v b w (.returned (.tuple #[.pointer (some ⟨w2.heap.size, 0, none⟩), .int .i64 0])) (w2.alloc (.cells #[.nilIface, .int .i64 0, .int .i64 v.kind, .int .i64 v.num, .string v.text, .slice a2 v.items.length c2, .pointer (some ⟨b, 0, none⟩)] 72))) := by
    have hal : Below w2.heap.size w2 (w2.alloc (.cells #[.nilIface, .int .i64 0, .int .i64 v.kind, .int .i64 v.num, .string v.text, .slice a2 v.items.length c2, .pointer (some ⟨b, 0, none⟩)] 72)) := ((Grew.refl _).alloc _).below
    exact ⟨hb2.trans (hal.mono hb2.size), _, a2, c2, rfl, hb2.size, cb_alloc w2 72 .nilIface 0 v (.slice a2 v.items.length c2) (some ⟨b, 0, none⟩), LiesX.mono (fun n hn => ⟨hn.1, by omega⟩) (HL.out.keeps hal)⟩
  clear hb2 HL
  go_wp2_with fail
  refine bodyPost_ret (v := .tuple #[.pointer (some ⟨w2.heap.size, 0, none⟩), .int .i64 0]) ?_ rfl HE.out
  simp [results, Try.results16, go_sem]

set_option maxRecDepth 100000 in
set_option maxHeartbeats 8000000 in
theorem cons_wrong (d : Nat) (v : VT) (u : Value) (p : Option Addr) (w : World) (hu : Lies d w v.items u) (hs : v.text.size ≤ 9223372036854775807) (hr : rightV d v = false) :
    Calls Try.prog 16 #[.agg #[.int .i64 v.kind, .int .i64 v.num, .string v.text, u], .pointer p] w fun e w' => e = .returned (.tuple #[.pointer none, .int .i64 3]) ∧ Below w.heap.size w w' := by
  obtain ⟨au, cu, rfl, _⟩ := Lies.slice hu
  have HC : Hid (∀ V, Below w.heap.size w V → Calls Try.prog 32 #[.agg #[.int .i64 v.kind, .int .i64 v.num, .string v.text, .slice au v.items.length cu]] V fun e w' => e = .returned (.int .i64 3) ∧ Below V.heap.size V w') := fun V hV => by
    have h9 := check_grew d v _ V (Lies.keeps hV _ _ _ hu) hs
    rw [hr] at h9
    exact Calls.mono h9 fun e w' h => ⟨h.1, h.2.below⟩
  obtain ⟨W0, hW0⟩ : ∃ W0, W0 = w.alloc (.cells #[.int .i64 v.kind, .int .i64 v.num, .string v.text, .slice au v.items.length cu] 24) := ⟨_, rfl⟩
  have HW0 : Hid (W0 = w.alloc (.cells #[.int .i64 v.kind, .int .i64 v.num, .string v.text, .slice au v.items.length cu] 24)) := hW0
  have hb0 : Below w.heap.size w W0 := by rw [hW0]; exact ((Grew.refl _).alloc _).below
  have HK : Hid (Bx W0 w.heap.size v (.slice au v.items.length cu)) := by rw [hW0]; exact bx_alloc _ _ _
  obtain ⟨k0, k1, k2, k3, _, _, _, _⟩ := HK.out
  clear hW0 hu hr hs HK
  go_enter Try.func16, Try.ntmps16
  go_upto_region 1 with fail
  rw [← HW0.out]
  clear HW0
  go_wp2_with fail
  refine Calls.mono (HC.out _ hb0) ?_
  rintro e w1 ⟨rfl, hg1⟩
  have hb1 : Below w.heap.size w w1 := hb0.trans (hg1.mono hb0.size)
  clear hg1 HC hb0 k0 k1 k2 k3
  go_wp2_with fail
  refine bodyPost_ret (v := .tuple #[.pointer none, .int .i64 3]) ?_ rfl ⟨rfl, hb1⟩
  simp [results, Try.results16, go_sem]

/-- As many as are known. -/
theorem Sq.len {Y : Nat → Prop} {w : World} {q : Nat} {v : VT} {k : Nat} {P : Nat → Nat} (s : Sq Y w q v k P) : Calls Try.prog 12 #[.pointer (some ⟨P 0, 0, none⟩)] w fun e w' => e = .returned (.int .i64 ((min k 65536 : Nat) : Int)) ∧ w' = w := by
  refine known_len _ P k w w (own_some22 _ w) (fun i hi => ?_) ?_
  · obtain ⟨a, c, hc, _⟩ := s.known i hi
    exact hc.c6
  · obtain ⟨m, z, a, c, _, _, _, hc, _⟩ := s.lazy
    exact hc.c6

/-- And of a cell ahead of it. -/
theorem Sq.len1 {Y : Nat → Prop} {w : World} {q : Nat} {v : VT} {k : Nat} {P : Nat → Nat} (s : Sq Y w q v k P) {d : Nat} (hd : w.cell? ⟨d, 6, none⟩ = some (.pointer (some ⟨P 0, 0, none⟩))) : Calls Try.prog 12 #[.pointer (some ⟨d, 0, none⟩)] w fun e w' => e = .returned (.int .i64 ((min (k + 1) 65536 : Nat) : Int)) ∧ w' = w := by
  refine known_len _ (fun i => match i with | 0 => d | i + 1 => P i) (k + 1) w w (own_some22 _ w) (fun i hi => ?_) ?_
  · cases i with
    | zero => exact hd
    | succ i =>
      obtain ⟨a, c, hc, _⟩ := s.known i (by omega)
      exact hc.c6
  · obtain ⟨m, z, a, c, _, _, _, hc, _⟩ := s.lazy
    exact hc.c6

end Go.Proofs.Ytmmppmioackiaab

