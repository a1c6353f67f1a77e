/-
  RrbHeight.
-/
import Derived.Test.YtplahohaahfjmabRCut
import Derived.Test.YtplahohaahfjmabSpeaks11
import Derived.Test.YtplahohaahfjmabFold
namespace Go.Proofs.Ytplahohaahfjmab
open Go.RowKit

/-- What Of tells, right or not. -/
theorem of_vv (n : Nat) (l : List VT) (u : Value) (w : World) (hl : Lies (n + 1) w l u) : Calls Try.prog 8 #[u] w fun e w' => Below w.heap.size w w' ∧ ((∃ b, e = .returned (.tuple #[.pointer (some ⟨b, 0, none⟩), .int .i64 0]) ∧ VV w' l (.pointer (some ⟨b, 0, none⟩)) ∧ Lies 17 w' l u) ∨ (∃ k : Nat, e = .returned (.tuple #[.pointer none, .int .i64 (k : Int)]) ∧ (k = 2 ∨ k = 3))) := by
  refine Calls.mono (of_n n l _ w hl) ?_
  rintro e w' ⟨hb, hp⟩
  refine ⟨hb, ?_⟩
  unfold ofN at hp
  by_cases h1 : 65536 < l.length
  · rw [if_pos h1] at hp
    exact .inr ⟨2, hp, .inl rfl⟩
  · rw [if_neg h1] at hp
    by_cases h2 : l.all (rightV n) = true
    · rw [if_pos h2] at hp
      obtain ⟨b, rfl, hv⟩ := hp
      exact .inl ⟨b, rfl, ⟨hv, by omega, (canonL hl h2).2⟩, Lies.keeps hb _ _ _ (canonL hl h2).1⟩
    · rw [if_neg h2] at hp
      exact .inr ⟨3, hp, .inr rfl⟩

/-- A vector and a list, or an error, as a statement holds them beside each other. -/
def Pair12 (w : World) (p : Value) (k : Nat) (u : Value) : Prop :=
  (k = 0 ∧ ∃ (l : List VT) (b : Nat) (a : Option Addr) (c : Nat), p = .pointer (some ⟨b, 0, none⟩) ∧ u = .slice a l.length c ∧ VV w l p ∧ Lies 17 w l u) ∨ (k ≠ 0 ∧ p = .pointer none ∧ u = .slice none 0 0)

theorem Pair12.keeps {w w' : World} {p : Value} {k : Nat} {u : Value} (h : Pair12 w p k u) (hb : Below w.heap.size w w') : Pair12 w' p k u := by
  rcases h with ⟨rfl, l, b, a, c, rfl, rfl, hv, hl⟩ | h
  · exact .inl ⟨rfl, l, b, a, c, rfl, rfl, hv.keeps hb, Lies.keeps hb _ _ _ hl⟩
  · exact .inr h

theorem is_pair (p : Value) (k : Nat) (u : Value) (w : World) (h : Pair12 w p k u) : Calls Try.prog 14 #[p, .int .i64 (k : Int), u, .int .i64 (k : Int)] w fun e w' => e = .returned (.bool true) ∧ Below w.heap.size w w' := by
  rcases h with ⟨rfl, l, b, a, c, rfl, rfl, hv, hl⟩ | ⟨hk, rfl, rfl⟩
  · exact is_some l b _ w hv hl
  · exact is_none k hk none 0 0 w

/-- What both Cuts tell, beside each other. -/
theorem cut_pair (l : List VT) (p : Value) (a : Option Addr) (c : Nat) (i : Int) (w : World) (hv : VV w l p) (hl : Lies 17 w l (.slice a l.length c)) :
    Calls Try.prog 10 #[p, .int .i64 i] w fun e w1 => Below w.heap.size w w1 ∧ ∃ (k : Nat) (p1 p2 : Value), e = .returned (.tuple #[p1, p2, .int .i64 (k : Int)]) ∧
      ∀ W, Below w1.heap.size w1 W → Calls Try.prog 11 #[.slice a l.length c, .int .i64 i] W fun e w2 => Below W.heap.size W w2 ∧ ∃ (a1 a2 : Option Addr) (n1 c1 n2 c2 : Nat), e = .returned (.tuple #[.slice a1 n1 c1, .slice a2 n2 c2, .int .i64 (k : Int)]) ∧ Pair12 w2 p1 k (.slice a1 n1 c1) ∧ Pair12 w2 p2 k (.slice a2 n2 c2) := by
  refine Calls.mono (cut_any l p i w hv) ?_
  rintro e w1 ⟨hb1, hp⟩
  refine ⟨hb1, ?_⟩
  rcases hp with ⟨hi, b1, b2, rfl, v1, v2⟩ | ⟨hi, rfl⟩
  · refine ⟨0, _, _, rfl, fun W hW => ?_⟩
    refine Calls.mono (rcut_any l a c i W (Lies.keeps (hb1.trans (hW.mono hb1.size)) _ _ _ hl) hv.len) ?_
    rintro e w2 ⟨hb2, hq⟩
    rw [if_pos hi] at hq
    obtain ⟨a1, c1, a2, c2, rfl, l1, l2⟩ := hq
    exact ⟨hb2, a1, a2, _, c1, _, c2, rfl, .inl ⟨rfl, _, b1, a1, c1, rfl, rfl, (v1.keeps hW).keeps hb2, l1⟩, .inl ⟨rfl, _, b2, a2, c2, rfl, rfl, (v2.keeps hW).keeps hb2, l2⟩⟩
  · refine ⟨5, _, _, rfl, fun W hW => ?_⟩
    refine Calls.mono (rcut_any l a c i W (Lies.keeps (hb1.trans (hW.mono hb1.size)) _ _ _ hl) hv.len) ?_
    rintro e w2 ⟨hb2, hq⟩
    rw [if_neg hi] at hq
    subst hq
    exact ⟨hb2, none, none, 0, 0, 0, 0, rfl, .inr ⟨by omega, rfl, rfl⟩, .inr ⟨by omega, rfl, rfl⟩⟩

/-- What both Slices tell, beside each other. -/
theorem slice_pair (l : List VT) (p : Value) (a : Option Addr) (c : Nat) (i j : Int) (w : World) (hv : VV w l p) (hl : Lies 17 w l (.slice a l.length c)) :
    Calls Try.prog 12 #[p, .int .i64 i, .int .i64 j] w fun e w1 => Below w.heap.size w w1 ∧ ∃ (k : Nat) (p1 : Value), e = .returned (.tuple #[p1, .int .i64 (k : Int)]) ∧
      ∀ W, Below w1.heap.size w1 W → Calls Try.prog 13 #[.slice a l.length c, .int .i64 i, .int .i64 j] W fun e w2 => Below W.heap.size W w2 ∧ ∃ (a1 : Option Addr) (n1 c1 : Nat), e = .returned (.tuple #[.slice a1 n1 c1, .int .i64 (k : Int)]) ∧ Pair12 w2 p1 k (.slice a1 n1 c1) := by
  refine Calls.mono (slice_any l p i j w hv) ?_
  rintro e w1 ⟨hb1, hp⟩
  refine ⟨hb1, ?_⟩
  have hr := fun W (hW : Below w1.heap.size w1 W) => rslice_any l a c i j W (Lies.keeps (hb1.trans (hW.mono hb1.size)) _ _ _ hl) hv.len
  have hr5 : ∀ k, sliceR l i j = .inr k → k = 5 := fun k hk => by
    unfold sliceR at hk
    split at hk
    · cases hk
    · injection hk with hk; exact hk.symm
  generalize sliceR l i j = R at *
  cases R with
  | inl m =>
    obtain ⟨b, rfl, v1⟩ := hp
    refine ⟨0, _, rfl, fun W hW => Calls.mono (hr W hW) ?_⟩
    rintro e w2 ⟨hb2, a1, c1, rfl, l1⟩
    exact ⟨hb2, a1, _, c1, rfl, .inl ⟨rfl, _, b, a1, c1, rfl, rfl, (v1.keeps hW).keeps hb2, l1⟩⟩
  | inr k =>
    have hk := hr5 k rfl
    subst hk
    have hp' := hp
    simp only at hp'
    subst hp'
    refine ⟨5, _, rfl, fun W hW => Calls.mono (hr W hW) ?_⟩
    rintro e w2 ⟨hb2, hq⟩
    simp only at hq
    subst hq
    exact ⟨hb2, none, 0, 0, rfl, .inr ⟨by omega, rfl, rfl⟩⟩

set_option maxRecDepth 100000 in
set_option maxHeartbeats 16000000 in
theorem cuts_walk (n : Nat) (l : List VT) (ul : Value) (i j : Int) (w : World) (hl : Lies (n + 1) w l ul) : Calls Try.prog 3 #[ul, .int .i64 i, .int .i64 j] w fun e w' => e = .returned (.bool true) ∧ Below w.heap.size w w' := by
  obtain ⟨al, cl, rfl, hlb⟩ := Lies.slice hl
  have HO : Hid _ := of_vv n l _ w hl
  have HSp : Hid (∀ V, Calls Try.prog 9 #[] V fun e w' => e = .returned (.bool true) ∧ Below V.heap.size V w') := speaks12_any
  have HIs : Hid (∀ (p : Value) (k : Nat) (u : Value) (W : World), Pair12 W p k u → Calls Try.prog 14 #[p, .int .i64 (k : Int), u, .int .i64 (k : Int)] W fun e w' => e = .returned (.bool true) ∧ Below W.heap.size W w') := is_pair
  clear hl
  go_enter Try.func3, Try.ntmps3
  go_wp2_with fail
  refine Calls.mono HO.out ?_
  rintro e w1 ⟨hb1, hp1⟩
  rcases hp1 with ⟨b, rfl, hv, hl17⟩ | ⟨k, rfl, hk⟩
  · have HV : Hid (VV w1 l (.pointer (some ⟨b, 0, none⟩))) := hv
    have HL : Hid (Lies 17 w1 l (.slice al l.length cl)) := hl17
    have HCu : Hid _ := cut_pair l _ al cl i w1 hv hl17
    have HP0 : Hid (Pair12 w1 (.pointer (some ⟨b, 0, none⟩)) 0 (.slice al l.length cl)) := .inl ⟨rfl, l, b, al, cl, rfl, rfl, hv, hl17⟩
    clear HO hv hl17
    go_wp2_with fail
    refine Calls.mono HCu.out ?_
    rintro e w2 ⟨hb2, k, p1, p2, rfl, hrc⟩
    have HRc : Hid _ := hrc w2 (Below.refl _ _)
    have HB2 : Hid (Below w.heap.size w w2) := hb1.trans (hb2.mono hb1.size)
    have HP2 : Hid (Pair12 w2 (.pointer (some ⟨b, 0, none⟩)) 0 (.slice al l.length cl)) := HP0.out.keeps hb2
    have HV2 : Hid (VV w2 l (.pointer (some ⟨b, 0, none⟩))) := HV.out.keeps hb2
    have HL2 : Hid (Lies 17 w2 l (.slice al l.length cl)) := Lies.keeps hb2 _ _ _ HL.out
    clear HCu hrc hb2 hb1 HP0 HV HL
    go_wp2_with fail
    refine Calls.mono HRc.out ?_
    rintro e w3 ⟨hb3, a1, a2, n1, c1, n2, c2, rfl, hq1, hq2⟩
    have HQ1 : Hid (Pair12 w3 p1 k (.slice a1 n1 c1)) := hq1
    have HQ2 : Hid (Pair12 w3 p2 k (.slice a2 n2 c2)) := hq2
    have HB3 : Hid (Below w.heap.size w w3) := HB2.out.trans (hb3.mono HB2.out.size)
    have HP3 : Hid (Pair12 w3 (.pointer (some ⟨b, 0, none⟩)) 0 (.slice al l.length cl)) := HP2.out.keeps hb3
    have HSl : Hid _ := slice_pair l _ al cl i j w3 (HV2.out.keeps hb3) (Lies.keeps hb3 _ _ _ HL2.out)
    clear HRc hb3 hq1 hq2 HB2 HP2 HV2 HL2
    go_wp2_with fail
    refine Calls.mono HSl.out ?_
    rintro e w4 ⟨hb4, k3, p3, rfl, hrs⟩
    have HRs : Hid _ := hrs w4 (Below.refl _ _)
    have HQ1 : Hid (Pair12 w4 p1 k (.slice a1 n1 c1)) := HQ1.out.keeps hb4
    have HQ2 : Hid (Pair12 w4 p2 k (.slice a2 n2 c2)) := HQ2.out.keeps hb4
    have HB4 : Hid (Below w.heap.size w w4) := HB3.out.trans (hb4.mono HB3.out.size)
    have HP4 : Hid (Pair12 w4 (.pointer (some ⟨b, 0, none⟩)) 0 (.slice al l.length cl)) := HP3.out.keeps hb4
    clear HSl hrs hb4 HB3 HP3
    go_wp2_with fail
    refine Calls.mono HRs.out ?_
    rintro e w5 ⟨hb5, a3, n3, c3, rfl, hq3⟩
    have HQ3 : Hid (Pair12 w5 p3 k3 (.slice a3 n3 c3)) := hq3
    have HQ1 : Hid (Pair12 w5 p1 k (.slice a1 n1 c1)) := HQ1.out.keeps hb5
    have HQ2 : Hid (Pair12 w5 p2 k (.slice a2 n2 c2)) := HQ2.out.keeps hb5
    have HB5 : Hid (Below w.heap.size w w5) := HB4.out.trans (hb5.mono HB4.out.size)
    have HP5 : Hid (Pair12 w5 (.pointer (some ⟨b, 0, none⟩)) 0 (.slice al l.length cl)) := HP4.out.keeps hb5
    clear HRs hq3 hb5 HB4 HP4
    go_wp2_with fail
    refine Calls.mono (HIs.out _ _ _ _ HQ1.out) ?_
    rintro e w6 ⟨rfl, hb6⟩
    have HQ3 : Hid (Pair12 w6 p3 k3 (.slice a3 n3 c3)) := HQ3.out.keeps hb6
    have HQ2 : Hid (Pair12 w6 p2 k (.slice a2 n2 c2)) := HQ2.out.keeps hb6
    have HB6 : Hid (Below w.heap.size w w6) := HB5.out.trans (hb6.mono HB5.out.size)
    have HP6 : Hid (Pair12 w6 (.pointer (some ⟨b, 0, none⟩)) 0 (.slice al l.length cl)) := HP5.out.keeps hb6
    clear hb6 HB5 HP5 HQ1
    go_wp2_with fail
    refine Calls.mono (HIs.out _ _ _ _ HQ2.out) ?_
    rintro e w7 ⟨rfl, hb7⟩
    have HQ3 : Hid (Pair12 w7 p3 k3 (.slice a3 n3 c3)) := HQ3.out.keeps hb7
    have HB7 : Hid (Below w.heap.size w w7) := HB6.out.trans (hb7.mono HB6.out.size)
    have HP7 : Hid (Pair12 w7 (.pointer (some ⟨b, 0, none⟩)) 0 (.slice al l.length cl)) := HP6.out.keeps hb7
    clear hb7 HB6 HP6 HQ2
    go_wp2_with fail
    refine Calls.mono (HIs.out _ _ _ _ HQ3.out) ?_
    rintro e w8 ⟨rfl, hb8⟩
    have HB8 : Hid (Below w.heap.size w w8) := HB7.out.trans (hb8.mono HB7.out.size)
    have HP8 : Hid (Pair12 w8 (.pointer (some ⟨b, 0, none⟩)) 0 (.slice al l.length cl)) := HP7.out.keeps hb8
    clear hb8 HB7 HP7 HQ3
    go_wp2_with fail
    refine Calls.mono (HIs.out _ 0 _ _ HP8.out) ?_
    rintro e w9 ⟨rfl, hb9⟩
    have HB9 : Hid (Below w.heap.size w w9) := HB8.out.trans (hb9.mono HB8.out.size)
    clear hb9 HB8 HP8 HIs
    go_wp2_with fail
    refine Calls.mono (HSp.out _) ?_
    rintro e wz ⟨rfl, hbz⟩
    have HBz : Hid (Below w.heap.size w wz) := HB9.out.trans (hbz.mono HB9.out.size)
    clear hbz HB9
    go_wp2_with fail
    go_ret
    exact ⟨rfl, HBz.out⟩
  · have hkz : ¬ ((k : Int) = 0) := by rcases hk with rfl | rfl <;> decide
    clear HO hk
    go_wp2_with fail
    refine Calls.mono (HSp.out _) ?_
    rintro e wz ⟨rfl, hbz⟩
    have HBz : Hid (Below w.heap.size w wz) := hb1.trans (hbz.mono hb1.size)
    clear hbz hb1
    go_wp2_with fail
    go_ret
    exact ⟨rfl, HBz.out⟩

end Go.Proofs.Ytplahohaahfjmab

namespace Go.Proofs.Ytplahohaahfjmab
open Go.RowKit

structure Rw (w W : World) (v : Value) (n : Nat) (xs : List Value) : Prop where
  below : Below w.heap.size w W
  own : W.ownsRow w.heap.size 38 4 v n xs

theorem Rw.start (w : World) : Rw w (w.alloc (.cells #[] 38)) (.slice (some ⟨w.heap.size, 0, none⟩) 0 0) 0 [] := ⟨((Grew.refl w).alloc _).below, own_empty w _ (Nat.le_refl _)⟩

theorem Rw.append {w W : World} {ops : Array Oper} {rest : List Oper} {o : Oper} {act : Act} {Q : Exit → Act → World → Prop} (hgd : o.guard = none) (s x : Operand)
    (ho : o.op = .call { callee := .builtin .append, args := #[s, x], argTypes := #[22, 22] })
    {v : Value} {n : Nat} {xs : List Value} (hr : Rw w W v n xs) (hs : act.eval s = v) {aa : Option Addr} {m c : Nat} (hx : act.eval x = .slice aa m c) {news : List Value} (hsrc : Src w aa m 4 news) (k : Nat) (hk : n + m = k) (hm : k ≤ 200000)
    (h : ∀ a' c' W', Rw w W' (.slice a' k c') k (xs ++ news) → wpList Try.prog ops Q rest (act.put o.dst (.slice a' k c')) W') : wpList Try.prog ops Q (o :: rest) act W := by
  subst hk
  obtain ⟨i0, hi, hz0, hz1, hz2⟩ := info24
  refine wpList_append_row hgd s x ho w.heap.size i0 hi hz0 hz1 hz2 v n xs hs hr.own aa m c news hx hsrc.none hsrc.len (hsrc.cell hr.below) hsrc.one (by unfold maxLen; omega) (by omega) hr.below.size (fun v' w' h1 h2 => ?_)
  have hb : Below w.heap.size w w' := own_growM hr.below hr.below.size hr.own h2
  have hv : ∃ a' c', v' = .slice a' (n + m) c' := by
    rcases h1.2 with ⟨e1, e2⟩ | ⟨g, cap, _, e1, _⟩
    · exact ⟨none, 0, by rw [e1, e2]⟩
    · exact ⟨_, cap, e1⟩
  obtain ⟨a', c', rfl⟩ := hv
  exact h a' c' w' ⟨hb, h1⟩

theorem Rw.lies {w W : World} {v : Value} {n : Nat} {ps : List (VT × Value)} (h : Rw w W v n (ps.flatMap encP)) (hn : n = ps.length) (hs : ∀ p ∈ ps, Sound 16 w p) (hl : n ≤ 200000) : Lies 17 W (ps.map (·.1)) v :=
  own_lies (d := 16) hn h.own (fun p hp => (hs p hp).keeps h.below) (by omega)

/-- The first items of a list, as a source. -/
theorem src_take {w : World} {l : List VT} {a : Option Addr} {c : Nat} (hl : Lies 17 w l (.slice a l.length c)) (n : Nat) (hnl : n ≤ l.length) : ∃ ps : List (VT × Value), ps.map (·.1) = l.take n ∧ ps.length = n ∧ Src w a n 4 (ps.flatMap encP) ∧ ∀ p ∈ ps, Sound 16 w p := by
  have e1 : (l.take n).length = n := by rw [List.length_take, Nat.min_eq_left hnl]
  by_cases hn0 : n = 0
  · subst hn0
    exact ⟨[], rfl, rfl, Src.nil w a, fun p hp => by cases hp⟩
  · obtain ⟨g, o, rfl, _⟩ := Lies.some_at hl (by omega)
    have h2 := Lies.taken hl n hnl
    rw [← e1] at h2
    obtain ⟨ps, p1, p2, p3, p4⟩ := src_of (l := l.take n) (by rw [e1] at h2 ⊢; exact h2)
    rw [e1] at p2 p3
    exact ⟨ps, p1, p2, p3, p4⟩

end Go.Proofs.Ytplahohaahfjmab

namespace Go.Proofs.Ytplahohaahfjmab
open Go.RowKit

end Go.Proofs.Ytplahohaahfjmab

namespace Go.Proofs.Ytplahohaahfjmab
open Go.RowKit

set_option maxRecDepth 100000 in
set_option maxHeartbeats 8000000 in
theorem rsplice_any (l m : List VT) (a am : Option Addr) (c cm : Nat) (i j : Int) (w : World) (hl : Lies 17 w l (.slice a l.length c)) (hlen : l.length ≤ 65536) (hm : Lies 17 w m (.slice am m.length cm)) (hmlen : m.length ≤ 65536) : Calls Try.prog 44 #[.slice a l.length c, .int .i64 i, .int .i64 j, .slice am m.length cm] w (LstPost (spliceR l i j m) w) := by
  have HE1 : Hid _ := rend_any l a c i w
  have HE2 : Hid _ := rend_any l a c j w
  obtain ⟨R, hR⟩ : ∃ R, R = spliceR l i j m := ⟨_, rfl⟩
  rw [← hR]
  unfold spliceR at hR
  by_cases h1 : endB l i
  · rw [decide_eq_true h1] at HE1
    by_cases h2 : endB l j
    · rw [decide_eq_true h2] at HE2
      by_cases h3 : i ≤ j
      · rw [if_pos ⟨h1, h2, h3⟩] at hR
        obtain ⟨ni, rfl⟩ := Int.eq_ofNat_of_zero_le h1.1
        obtain ⟨nj, rfl⟩ := Int.eq_ofNat_of_zero_le h2.1
        rw [Int.toNat_natCast, Int.toNat_natCast] at hR
        have hjl : nj ≤ l.length := by have := h2.2; omega
        have hij : ni ≤ nj := by omega
        have hgt : ¬ ((nj : Nat) : Int) < (ni : Nat) := by omega
        have hlc : l.length ≤ c := by obtain ⟨_, _, e, h, _⟩ := hl; injection e with _ _ e; omega
        have e1 : (l.take ni ++ (m ++ l.drop nj)).length = ni + m.length + (l.length - nj) := by
          rw [List.length_append, List.length_append, List.length_take, List.length_drop, Nat.min_eq_left (by omega)]
          omega
        obtain ⟨D, hD⟩ : ∃ D : Nat, D = nj - ni := ⟨_, rfl⟩
        obtain ⟨E, hE⟩ : ∃ E : Nat, E = l.length - D := ⟨_, rfl⟩
        obtain ⟨F, hF⟩ : ∃ F : Int, F = 65536 - (E : Nat) := ⟨_, rfl⟩
        have hw1 : IntKind.i64.wrap ((nj : Int) - (ni : Nat)) = (D : Nat) := by rw [IntKind.wrap_i64]; omega
        have hw2 : IntKind.i64.wrap ((l.length : Int) - (D : Nat)) = (E : Nat) := by rw [IntKind.wrap_i64]; omega
        have hw3 : IntKind.i64.wrap (65536 - ((E : Nat) : Int)) = F := by rw [IntKind.wrap_i64]; omega
        by_cases hsz : (l.take ni ++ (m ++ l.drop nj)).length ≤ 65536
        · rw [if_pos hsz] at hR
          have hcmp : ¬ F < ((m.length : Nat) : Int) := by omega
          rw [e1] at hsz
          have HR : Hid (R = .inl (l.take ni ++ (m ++ l.drop nj))) := hR
          obtain ⟨ps, hp1, hp2, hsA, hsd⟩ := src_take hl ni (by omega)
          obtain ⟨pm, hm1, hm2, hsM, hsm⟩ := src_of hm
          have HSA : Hid (Src w a ni 4 (ps.flatMap encP)) := hsA
          have HSM : Hid (Src w am m.length 4 (pm.flatMap encP)) := hsM
          have hfin : ∀ (qs : List (VT × Value)) (N : Nat) (W : World) (a9 c9), qs.map (·.1) = l.drop nj → (∀ p ∈ qs, Sound 16 w p) → N = ni + m.length + (l.length - nj) → Rw w W (.slice a9 N c9) N ((([] ++ ps.flatMap encP) ++ pm.flatMap encP) ++ qs.flatMap encP) → LstPost R w (.returned (.tuple #[.slice a9 N c9, .int .i64 0])) W := fun qs N W a9 c9 q1 q2 hN h => by
            have hq : qs.length = l.length - nj := by have := congrArg List.length q1; rw [List.length_map, List.length_drop] at this; exact this
            have e9 : (([] ++ ps.flatMap encP) ++ pm.flatMap encP) ++ qs.flatMap encP = (ps ++ (pm ++ qs)).flatMap encP := by simp [List.flatMap_append]
            rw [e9] at h
            have h9 := h.lies (by rw [List.length_append, List.length_append, hp2, hm2, hq]; omega) (fun p hp => by
              rcases List.mem_append.1 hp with hp | hp
              · exact hsd p hp
              · rcases List.mem_append.1 hp with hp | hp
                · exact hsm p hp
                · exact q2 p hp) (by omega)
            rw [List.map_append, List.map_append, hp1, hm1, q1] at h9
            rw [HR.out]
            obtain rfl : N = (l.take ni ++ (m ++ l.drop nj)).length := by rw [e1]; exact hN
            exact ⟨h.below, a9, c9, rfl, h9⟩
          obtain ⟨M, hM⟩ : ∃ M, M = m.length := ⟨_, rfl⟩
          by_cases hne : nj = l.length
          · have hd : l.drop nj = [] := List.drop_eq_nil_of_le (by omega)
            have HF : Hid (∀ (N : Nat) (W : World) (a9 c9), Rw w W (.slice a9 N c9) N ((([] ++ ps.flatMap encP) ++ pm.flatMap encP) ++ []) → N = ni + m.length → LstPost R w (.returned (.tuple #[.slice a9 N c9, .int .i64 0])) W) := fun N W a9 c9 h hN => hfin [] N W a9 c9 (by rw [hd]; rfl) (fun p hp => by cases hp) (by omega) h
            have hE' : E = l.length - D := hE
            obtain ⟨L, hL⟩ : ∃ L, L = l.length := ⟨_, rfl⟩
            rw [← hL] at hne hjl hlc hlen HE1 HE2 hw2 hsz ⊢
            rw [← hM] at hmlen HSM HF hcmp hsz ⊢
            subst hne
            have hnci : (nj : Int) ≤ (c : Nat) := by omega
            have hici : (ni : Int) ≤ (c : Nat) := by omega
            have hself : ¬ ((nj : Nat) : Int) < (nj : Nat) := by omega
            clear hfin hl hm hsA hsM hp1 hm1 hsd hsm e1 hd hL h1 h2 h3 hR hE hE' hD hF hM hm2 hp2
            by_cases hcn : c = nj
            · subst hcn
              cases a with
              | none =>
                go_enter Try.func44, Try.ntmps44
                go_wp2_with fail
                refine Calls.mono HE1.out ?_
                rintro e w1 ⟨rfl, hw1⟩
                obtain rfl : w = w1 := hw1.symm
                clear HE1
                go_wp2_with fail
                refine Calls.mono HE2.out ?_
                rintro e w1 ⟨rfl, hw1⟩
                obtain rfl : w = w1 := hw1.symm
                clear HE2
                have HC := Rw.start w
                go_wp2_with
                  (first
                    | (at_builtin; refine Rw.append rfl _ _ rfl HC rfl rfl HSA.out (ni) (by omega) (by omega) ?_; clear HC; intro ax cx W HC)
                    | (at_builtin; refine Rw.append rfl _ _ rfl HC rfl rfl HSM.out (ni + M) (by omega) (by omega) ?_; clear HC; intro ax cx W HC)
                    | (at_builtin; refine Rw.append rfl _ _ rfl HC rfl rfl (Src.nil w _) (ni + M) (by omega) (by omega) ?_; clear HC; intro ax cx W HC))
                have HG0 := HF.out _ _ _ _ HC
                have HG : Hid _ := HG0 (by omega)
                clear HG0
                clear HC HF
                go_wp2_with fail
                go_ret2
                exact HG.out
              | some ad =>
                go_enter Try.func44, Try.ntmps44
                go_wp2_with fail
                refine Calls.mono HE1.out ?_
                rintro e w1 ⟨rfl, hw1⟩
                obtain rfl : w = w1 := hw1.symm
                clear HE1
                go_wp2_with fail
                refine Calls.mono HE2.out ?_
                rintro e w1 ⟨rfl, hw1⟩
                obtain rfl : w = w1 := hw1.symm
                clear HE2
                have HC := Rw.start w
                go_wp2_with
                  (first
                    | (at_builtin; refine Rw.append rfl _ _ rfl HC rfl rfl HSA.out (ni) (by omega) (by omega) ?_; clear HC; intro ax cx W HC)
                    | (at_builtin; refine Rw.append rfl _ _ rfl HC rfl rfl HSM.out (ni + M) (by omega) (by omega) ?_; clear HC; intro ax cx W HC)
                    | (at_builtin; refine Rw.append rfl _ _ rfl HC rfl rfl (Src.nil w _) (ni + M) (by omega) (by omega) ?_; clear HC; intro ax cx W HC))
                have HG0 := HF.out _ _ _ _ HC
                have HG : Hid _ := HG0 (by omega)
                clear HG0
                clear HC HF
                go_wp2_with fail
                go_ret2
                exact HG.out
            · have hcni : ¬ ((c : Nat) : Int) = (nj : Nat) := by omega
              cases a with
              | none =>
                go_enter Try.func44, Try.ntmps44
                go_wp2_with fail
                refine Calls.mono HE1.out ?_
                rintro e w1 ⟨rfl, hw1⟩
                obtain rfl : w = w1 := hw1.symm
                clear HE1
                go_wp2_with fail
                refine Calls.mono HE2.out ?_
                rintro e w1 ⟨rfl, hw1⟩
                obtain rfl : w = w1 := hw1.symm
                clear HE2
                have HC := Rw.start w
                go_wp2_with
                  (first
                    | (at_builtin; refine Rw.append rfl _ _ rfl HC rfl rfl HSA.out (ni) (by omega) (by omega) ?_; clear HC; intro ax cx W HC)
                    | (at_builtin; refine Rw.append rfl _ _ rfl HC rfl rfl HSM.out (ni + M) (by omega) (by omega) ?_; clear HC; intro ax cx W HC)
                    | (at_builtin; refine Rw.append rfl _ _ rfl HC rfl rfl (Src.nil w _) (ni + M) (by omega) (by omega) ?_; clear HC; intro ax cx W HC))
                have HG0 := HF.out _ _ _ _ HC
                have HG : Hid _ := HG0 (by omega)
                clear HG0
                clear HC HF
                go_wp2_with fail
                go_ret2
                exact HG.out
              | some ad =>
                go_enter Try.func44, Try.ntmps44
                go_wp2_with fail
                refine Calls.mono HE1.out ?_
                rintro e w1 ⟨rfl, hw1⟩
                obtain rfl : w = w1 := hw1.symm
                clear HE1
                go_wp2_with fail
                refine Calls.mono HE2.out ?_
                rintro e w1 ⟨rfl, hw1⟩
                obtain rfl : w = w1 := hw1.symm
                clear HE2
                have HC := Rw.start w
                go_wp2_with
                  (first
                    | (at_builtin; refine Rw.append rfl _ _ rfl HC rfl rfl HSA.out (ni) (by omega) (by omega) ?_; clear HC; intro ax cx W HC)
                    | (at_builtin; refine Rw.append rfl _ _ rfl HC rfl rfl HSM.out (ni + M) (by omega) (by omega) ?_; clear HC; intro ax cx W HC)
                    | (at_builtin; refine Rw.append rfl _ _ rfl HC rfl rfl (Src.nil w _) (ni + M) (by omega) (by omega) ?_; clear HC; intro ax cx W HC))
                have HG0 := HF.out _ _ _ _ HC
                have HG : Hid _ := HG0 (by omega)
                clear HG0
                clear HC HF
                go_wp2_with fail
                go_ret2
                exact HG.out
          · have hlt : nj < l.length := by omega
            obtain ⟨g, o, rfl, hcl⟩ := Lies.some_at hl (by omega)
            obtain ⟨qs, q1, q2, hsB, hsq⟩ := src_part hl nj l.length (Nat.le_refl _)
            rw [List.take_length] at q1
            have HSB : Hid (Src w (some ⟨g, o + nj * 4, none⟩) (l.length - nj) 4 (qs.flatMap encP)) := hsB
            have HF : Hid (∀ (N : Nat) (W : World) (a9 c9), Rw w W (.slice a9 N c9) N ((([] ++ ps.flatMap encP) ++ pm.flatMap encP) ++ qs.flatMap encP) → N = ni + m.length + (l.length - nj) → LstPost R w (.returned (.tuple #[.slice a9 N c9, .int .i64 0])) W) := fun N W a9 c9 h hN => hfin qs N W a9 c9 q1 hsq hN h
            obtain ⟨L, hL⟩ : ∃ L, L = l.length := ⟨_, rfl⟩
            rw [← hL] at hlt hjl hlc hlen HE1 HE2 hw2 HSB HF hsz ⊢
            rw [← hM] at hmlen HSM HF hcmp hsz ⊢
            have hnci : (nj : Int) ≤ (c : Nat) := by omega
            have hici : (ni : Int) ≤ (c : Nat) := by omega
            have hnLi : (nj : Int) ≤ (L : Nat) := by omega
            have hLci : (L : Int) ≤ (c : Nat) := by omega
            have hcn : ¬ (c = nj) := by omega
            have hcni : ¬ ((c : Nat) : Int) = (nj : Nat) := by omega
            clear hfin hl hm hsA hsM hsB hp1 hm1 hsd hsm hsq q1 q2 e1 hL h1 h2 h3 hR hne hcl hE hD hF hM hm2 hp2
            go_enter Try.func44, Try.ntmps44
            go_wp2_with fail
            refine Calls.mono HE1.out ?_
            rintro e w1 ⟨rfl, hw1⟩
            obtain rfl : w = w1 := hw1.symm
            clear HE1
            go_wp2_with fail
            refine Calls.mono HE2.out ?_
            rintro e w1 ⟨rfl, hw1⟩
            obtain rfl : w = w1 := hw1.symm
            clear HE2
            have HC := Rw.start w
            go_wp2_with
              (first
                | (at_builtin; refine Rw.append rfl _ _ rfl HC rfl rfl HSA.out (ni) (by omega) (by omega) ?_; clear HC; intro ax cx W HC)
                | (at_builtin; refine Rw.append rfl _ _ rfl HC rfl rfl HSM.out (ni + M) (by omega) (by omega) ?_; clear HC; intro ax cx W HC)
                | (at_builtin; refine Rw.append rfl _ _ rfl HC rfl rfl HSB.out (ni + M + (L - nj)) (by omega) (by omega) ?_; clear HC; intro ax cx W HC))
            have HG0 := HF.out _ _ _ _ HC
            have HG : Hid _ := HG0 (by omega)
            clear HG0
            clear HC HF
            go_wp2_with fail
            go_ret2
            exact HG.out
        · rw [if_neg hsz] at hR
          have hcmp : F < ((m.length : Nat) : Int) := by omega
          have HE : Hid (LstPost R w (.returned (.tuple #[.slice none 0 0, .int .i64 2])) w) := by
            show LstPost _ _ _ _
            rw [hR]
            exact ⟨Below.refl _ _, rfl⟩
          clear hl hm hR hsz e1 hE hD hF h1 h2 h3
          go_enter Try.func44, Try.ntmps44
          go_wp2_with fail
          refine Calls.mono HE1.out ?_
          rintro e w1 ⟨rfl, hw1⟩
          obtain rfl : w = w1 := hw1.symm
          clear HE1
          go_wp2_with fail
          refine Calls.mono HE2.out ?_
          rintro e w1 ⟨rfl, hw1⟩
          obtain rfl : w = w1 := hw1.symm
          clear HE2
          go_wp2_with fail
          go_ret2
          exact HE.out
      · rw [if_neg (fun h => h3 h.2.2)] at hR
        have hgt : ((j : Int) < i) := by omega
        have HE : Hid (LstPost R w (.returned (.tuple #[.slice none 0 0, .int .i64 5])) w) := by
          show LstPost _ _ _ _
          rw [hR]
          exact ⟨Below.refl _ _, rfl⟩
        clear hl hm hR
        go_enter Try.func44, Try.ntmps44
        go_wp2_with fail
        refine Calls.mono HE1.out ?_
        rintro e w1 ⟨rfl, hw1⟩
        obtain rfl : w = w1 := hw1.symm
        clear HE1
        go_wp2_with fail
        refine Calls.mono HE2.out ?_
        rintro e w1 ⟨rfl, hw1⟩
        obtain rfl : w = w1 := hw1.symm
        clear HE2
        go_wp2_with fail
        go_ret2
        exact HE.out
    · rw [decide_eq_false h2] at HE2
      rw [if_neg (fun h => h2 h.2.1)] at hR
      have HE : Hid (LstPost R w (.returned (.tuple #[.slice none 0 0, .int .i64 5])) w) := by
        show LstPost _ _ _ _
        rw [hR]
        exact ⟨Below.refl _ _, rfl⟩
      clear hl hm hR
      go_enter Try.func44, Try.ntmps44
      go_wp2_with fail
      refine Calls.mono HE1.out ?_
      rintro e w1 ⟨rfl, hw1⟩
      obtain rfl : w = w1 := hw1.symm
      clear HE1
      go_wp2_with fail
      refine Calls.mono HE2.out ?_
      rintro e w1 ⟨rfl, hw1⟩
      obtain rfl : w = w1 := hw1.symm
      clear HE2
      go_wp2_with fail
      go_ret2
      exact HE.out
  · rw [decide_eq_false h1] at HE1
    rw [if_neg (fun h => h1 h.1)] at hR
    have HE : Hid (LstPost R w (.returned (.tuple #[.slice none 0 0, .int .i64 5])) w) := by
      show LstPost _ _ _ _
      rw [hR]
      exact ⟨Below.refl _ _, rfl⟩
    clear hl hm hR HE2
    go_enter Try.func44, Try.ntmps44
    go_wp2_with fail
    refine Calls.mono HE1.out ?_
    rintro e w1 ⟨rfl, hw1⟩
    obtain rfl : w = w1 := hw1.symm
    clear HE1
    go_wp2_with fail
    go_ret2
    exact HE.out

end Go.Proofs.Ytplahohaahfjmab

namespace Go.Proofs.Ytplahohaahfjmab
open Go.RowKit

/-- What 'made' tells. -/
def Made2Post (l m : List VT) (u1 u2 : Value) (w : World) (e : Ending) (w' : World) : Prop :=
  Below w.heap.size w w' ∧ ((∃ b1 b2, e = .returned (.tuple #[.pointer (some ⟨b1, 0, none⟩), .pointer (some ⟨b2, 0, none⟩), .bool true]) ∧ VV w' l (.pointer (some ⟨b1, 0, none⟩)) ∧ VV w' m (.pointer (some ⟨b2, 0, none⟩)) ∧ Lies 17 w' l u1 ∧ Lies 17 w' m u2) ∨ (∃ p q : Option Addr, e = .returned (.tuple #[.pointer p, .pointer q, .bool false])))

set_option maxRecDepth 100000 in
set_option maxHeartbeats 8000000 in
theorem made2_any (n : Nat) (l m : List VT) (a am : Option Addr) (c cm : Nat) (w : World) (hl : Lies (n + 1) w l (.slice a l.length c)) (hm : Lies (n + 1) w m (.slice am m.length cm)) :
    Calls Try.prog 20 #[.agg #[.slice a l.length c, .slice am m.length cm]] w (Made2Post l m (.slice a l.length c) (.slice am m.length cm) w) := by
  obtain ⟨wA, hwA⟩ : ∃ wA, wA = w.alloc (.cells #[.slice a l.length c, .slice am m.length cm] 48) := ⟨_, rfl⟩
  have hbA : Below w.heap.size w wA := by rw [hwA]; exact ((Grew.refl w).alloc _).below
  have hc : wA.cell? ⟨w.heap.size, 1, none⟩ = some (.slice am m.length cm) := by rw [hwA]; simp
  have HO : Hid _ := of_vv n l _ wA (Lies.keeps hbA _ _ _ hl)
  have HwA : Hid (wA = w.alloc (.cells #[.slice a l.length c, .slice am m.length cm] 48)) := hwA
  have HM : Hid (Lies (n + 1) w m (.slice am m.length cm)) := hm
  rw [hwA] at HO
  clear hl hm hwA
  go_enter Try.func20, Try.ntmps20
  go_wp2_with fail
  refine Calls.mono HO.out ?_
  rintro e w1 ⟨hg1, hp1⟩
  rw [← HwA.out] at hg1
  have hb1 : Below w.heap.size w w1 := hbA.trans (hg1.mono hbA.size)
  have hc1 := cell_keeps hg1 hc
  have HO2 : Hid _ := of_vv n m _ w1 (Lies.keeps hb1 _ _ _ HM.out)
  clear HO hc hg1 HM HwA hbA
  have hp1' : ∃ (p : Option Addr) (k : Nat), e = .returned (.tuple #[.pointer p, .int .i64 (k : Int)]) ∧ ((k = 0 ∧ ∃ b, p = some ⟨b, 0, none⟩ ∧ VV w1 l (.pointer p) ∧ Lies 17 w1 l (.slice a l.length c)) ∨ k ≠ 0) := by
    rcases hp1 with ⟨b, rfl, hv, hl⟩ | ⟨k, rfl, hk⟩
    · exact ⟨_, 0, rfl, .inl ⟨rfl, b, rfl, hv, hl⟩⟩
    · exact ⟨_, k, rfl, .inr (by omega)⟩
  obtain ⟨p, k, rfl, HP1⟩ := hp1'
  have HP1 : Hid _ := HP1
  clear hp1
  go_wp2_with fail
  refine Calls.mono HO2.out ?_
  rintro e w2 ⟨hg2, hp2⟩
  have hb2 : Below w.heap.size w w2 := hb1.trans (hg2.mono hb1.size)
  clear HO2 hc1
  rcases HP1.out with ⟨rfl, b1, rfl, hv1, hl1⟩ | hk
  · have HV1 : Hid (VV w2 l (.pointer (some ⟨b1, 0, none⟩))) := hv1.keeps hg2
    have HL1 : Hid (Lies 17 w2 l (.slice a l.length c)) := Lies.keeps hg2 _ _ _ hl1
    clear HP1 hv1 hl1
    rcases hp2 with ⟨b2, rfl, hv2, hl2⟩ | ⟨k2, rfl, hk2⟩
    · have HE : Hid (Made2Post l m (.slice a l.length c) (.slice am m.length cm) w (.returned (.tuple #[.pointer (some ⟨b1, 0, none⟩), .pointer (some ⟨b2, 0, none⟩), .bool true])) w2) := ⟨hb2, .inl ⟨b1, b2, rfl, HV1.out, hv2, HL1.out, hl2⟩⟩
      clear HV1 HL1 hv2 hl2
      go_wp2_with fail
      go_ret3
      exact HE.out
    · have hkz : ¬ ((k2 : Int) = 0) := by omega
      have HE : Hid (Made2Post l m (.slice a l.length c) (.slice am m.length cm) w (.returned (.tuple #[.pointer (some ⟨b1, 0, none⟩), .pointer none, .bool false])) w2) := ⟨hb2, .inr ⟨_, _, rfl⟩⟩
      clear HV1 HL1 hk2
      go_wp2_with fail
      go_ret3
      exact HE.out
  · have hkz : ¬ ((k : Int) = 0) := by omega
    obtain ⟨q, k2, rfl⟩ : ∃ (q : Option Addr) (k2 : Nat), e = .returned (.tuple #[.pointer q, .int .i64 (k2 : Int)]) := by
      rcases hp2 with ⟨b2, rfl, _⟩ | ⟨k2, rfl, _⟩
      · exact ⟨_, 0, rfl⟩
      · exact ⟨_, k2, rfl⟩
    have HE : Hid (Made2Post l m (.slice a l.length c) (.slice am m.length cm) w (.returned (.tuple #[.pointer p, .pointer q, .bool false])) w2) := ⟨hb2, .inr ⟨_, _, rfl⟩⟩
    clear HP1 hp2 hk
    go_wp2_with fail
    go_ret3
    exact HE.out

def catR3 (l m r : List VT) : List VT ⊕ Nat := if (l ++ (m ++ r)).length ≤ 65536 then .inl (l ++ (m ++ r)) else .inr 2

set_option maxRecDepth 100000 in
set_option maxHeartbeats 8000000 in
theorem all3_any (l m r : List VT) (p q s : Option Addr) (w : World) (h1 : VV w l (.pointer p)) (h2 : VV w m (.pointer q)) (h3 : VV w r (.pointer s)) :
    Calls Try.prog 23 #[.slice (some ⟨w.heap.size, 0, none⟩) 3 3] (w.alloc (.cells #[.pointer p, .pointer q, .pointer s] 23)) (VvPost (catR3 l m r) w) := by
  have hba : Below w.heap.size w (w.alloc (.cells #[.pointer p, .pointer q, .pointer s] 23)) := ((Grew.refl w).alloc _).below
  have h9 := join_vv [(l, .pointer p), (m, .pointer q), (r, .pointer s)] w.heap.size (w.alloc (.cells #[.pointer p, .pointer q, .pointer s] 23)) (fun i hi => by
    match i, hi with
    | 0, _ => simp
    | 1, _ => simp
    | 2, _ => simp) (by simp) (by simp) (fun p hp => by
      simp only [List.mem_cons, List.not_mem_nil, or_false] at hp
      rcases hp with rfl | rfl | rfl
      · exact h1.keeps hba
      · exact h2.keeps hba
      · exact h3.keeps hba)
  have e : joinR [(l, .pointer p), (m, .pointer q), (r, .pointer s)] = catR3 l m r := by
    unfold joinR catR3
    simp only [List.flatMap_cons, List.flatMap_nil, List.append_nil]
  rw [e] at h9
  have HJ : Hid (Calls Try.prog 47 #[.slice (some ⟨w.heap.size, 0, none⟩) 3 3] (w.alloc (.cells #[.pointer p, .pointer q, .pointer s] 23)) (VvPost (catR3 l m r) w)) := Calls.mono h9 (fun e w' hp => ⟨hba.trans (hp.1.mono hba.size), hp.2⟩)
  clear h9 e h1 h2 h3
  generalize catR3 l m r = R at *
  go_enter Try.func23, Try.ntmps23
  go_wp2_with fail
  refine Calls.mono HJ.out ?_
  intro e w1 hp
  clear HJ
  cases R with
  | inl t =>
    obtain ⟨hb2, b2, rfl, hv2⟩ := hp
    have HE : Hid (VvPost (.inl t) w (.returned (.tuple #[.pointer (some ⟨b2, 0, none⟩), .int .i64 0])) w1) := ⟨hb2, b2, rfl, hv2⟩
    clear hv2
    go_wp2_with fail
    go_ret2
    exact HE.out
  | inr k =>
    obtain ⟨hb2, he⟩ := hp
    simp only at he
    subst he
    have HE : Hid (VvPost (.inr k) w (.returned (.tuple #[.pointer none, .int .i64 (k : Int)])) w1) := ⟨hb2, rfl⟩
    go_wp2_with fail
    go_ret2
    exact HE.out

end Go.Proofs.Ytplahohaahfjmab

namespace Go.Proofs.Ytplahohaahfjmab
open Go.RowKit

/-- A vector's height, and the document's bound of it. -/
theorem height_pair (l : List VT) (p : Value) (w : World) (h : VV w l p) : Calls Try.prog 29 #[p] w fun e w' => Below w.heap.size w w' ∧ ∃ hN : Nat, e = .returned (.int .i64 (hN : Int)) ∧ ∀ V, Calls Try.prog 30 #[.int .i64 (l.length : Int)] V fun e w' => ∃ g : Nat, e = .returned (.int .i64 (g : Int)) ∧ hN ≤ g ∧ w' = V := by
  have hlen := h.len
  refine Calls.mono (vheight_any 16 l p w h.vc (by omega)) ?_
  rintro e w' ⟨n, rfl, hh, hb⟩
  refine ⟨hb, n, rfl, fun V => ?_⟩
  cases l with
  | nil =>
    refine Calls.mono (high_zero V) ?_
    rintro e w' ⟨rfl, rfl⟩
    refine ⟨0, rfl, ?_, rfl⟩
    rcases hh with ⟨_, rfl⟩ | ⟨h, _⟩
    · exact Nat.le_refl _
    · exact absurd rfl h
  | cons x l =>
    refine Calls.mono (high_any (x :: l).length V (by simp) hlen) ?_
    rintro e w' ⟨⟨j, rfl, _, hj⟩, rfl⟩
    refine ⟨j / 4 + 3, rfl, ?_, rfl⟩
    rcases hh with ⟨h, _⟩ | ⟨_, h, rfl, hh⟩
    · cases h
    · exact height_low _ h j hh hj

theorem Rw.nil (w : World) : Rw w w (.slice none 0 0) 0 [] := ⟨Below.refl _ _, World.ownsRow_nil _ _ _ _⟩

end Go.Proofs.Ytplahohaahfjmab

namespace Go.Proofs.Ytplahohaahfjmab
open Go.RowKit

/-- Two calls that tell the same, beside each other. -/
theorem pair_any {f g : Nat} {xs ys : Array Value} {R : List VT ⊕ Nat} {w : World} (hf : Calls Try.prog f xs w (VvPost R w)) (hg : ∀ W, Below w.heap.size w W → Calls Try.prog g ys W (LstPost R W)) (h0 : ∀ k, R = .inr k → k ≠ 0) :
    Calls Try.prog f xs w fun e w1 => Below w.heap.size w w1 ∧ ∃ (k : Nat) (p1 : Value), e = .returned (.tuple #[p1, .int .i64 (k : Int)]) ∧
      ∀ W, Below w1.heap.size w1 W → Calls Try.prog g ys W fun e w2 => Below W.heap.size W w2 ∧ ∃ (a1 : Option Addr) (n1 c1 : Nat), e = .returned (.tuple #[.slice a1 n1 c1, .int .i64 (k : Int)]) ∧ Pair12 w2 p1 k (.slice a1 n1 c1) := by
  refine Calls.mono hf ?_
  rintro e w1 ⟨hb1, hp⟩
  refine ⟨hb1, ?_⟩
  have hr := fun W (hW : Below w1.heap.size w1 W) => hg W (hb1.trans (hW.mono hb1.size))
  cases R with
  | inl m =>
    obtain ⟨b, rfl, v1⟩ := hp
    refine ⟨0, _, rfl, fun W hW => Calls.mono (hr W hW) ?_⟩
    rintro e w2 ⟨hb2, a1, c1, rfl, l1⟩
    exact ⟨hb2, a1, _, c1, rfl, .inl ⟨rfl, _, b, a1, c1, rfl, rfl, (v1.keeps hW).keeps hb2, l1⟩⟩
  | inr k =>
    have hk := h0 k rfl
    have hp' : e = _ := hp
    subst hp'
    refine ⟨k, _, rfl, fun W hW => Calls.mono (hr W hW) ?_⟩
    rintro e w2 ⟨hb2, hq⟩
    have hq' : e = _ := hq
    subst hq'
    exact ⟨hb2, none, 0, 0, rfl, .inr ⟨hk, rfl, rfl⟩⟩

theorem catR_err (l m : List VT) : ∀ k, catR l m = .inr k → k ≠ 0 := fun k h => by
  unfold catR at h
  split at h
  · cases h
  · injection h with h; omega

theorem spliceR_err (l m : List VT) (i j : Int) : ∀ k, spliceR l i j m = .inr k → k ≠ 0 := fun k h => by
  unfold spliceR at h
  split at h
  · split at h
    · cases h
    · injection h with h; omega
  · injection h with h; omega

set_option maxRecDepth 100000 in
theorem equal12_any (l m : List VT) (p q : Value) (w : World) (h1 : VV w l p) (h2 : VV w m q) : Calls Try.prog 28 #[p, q] w fun e w' => e = .returned (.bool (eqL (sameV 16) l m)) ∧ Below w.heap.size w w' := by
  obtain ⟨po, rfl⟩ := h1.vc.shape
  obtain ⟨qo, rfl⟩ := h2.vc.shape
  obtain ⟨R, hR⟩ : ∃ R, R = eqL (sameV 16) l m := ⟨_, rfl⟩
  have HS : Hid _ := rsame_any l m _ _ w h1 h2
  rw [← hR] at HS ⊢
  clear h1 h2 hR
  go_enter Try.func28, Try.ntmps28
  go_wp2_with fail
  refine Calls.mono HS.out ?_
  rintro e w1 ⟨rfl, hb⟩
  clear HS
  go_wp2_with fail
  go_ret
  exact ⟨rfl, hb⟩

end Go.Proofs.Ytplahohaahfjmab

namespace Go.Proofs.Ytplahohaahfjmab
open Go.RowKit

/-- A step: its kind, its place, its value. -/
abbrev StepP : Type := Int × Int × (VT × Value)

/-- The six cells of a step. -/
def SixAt (w : World) (b o : Nat) (s : StepP) : Prop :=
  w.cell? ⟨b, o, none⟩ = some (.int .i64 s.1) ∧ w.cell? ⟨b, o + 1, none⟩ = some (.int .i64 s.2.1) ∧ w.cell? ⟨b, o + 2, none⟩ = some (.int .i64 s.2.2.1.kind) ∧ w.cell? ⟨b, o + 3, none⟩ = some (.int .i64 s.2.2.1.num) ∧ w.cell? ⟨b, o + 4, none⟩ = some (.string s.2.2.1.text) ∧ w.cell? ⟨b, o + 5, none⟩ = some s.2.2.2

/-- A slice of steps. -/
def SlS (n : Nat) (w : World) (ss : List StepP) (v : Value) : Prop :=
  ∃ a c, v = .slice a ss.length c ∧ ss.length ≤ c ∧ ss.length ≤ 9223372036854775807 ∧ (ss ≠ [] → ∃ b o, a = some ⟨b, o, none⟩ ∧ ∀ (i : Nat) (h : i < ss.length), SixAt w b (o + i * 6) (ss[i]'h)) ∧ ∀ s ∈ ss, Sound n w s.2.2

/-- What a step holds, wherever it is looked at. -/
theorem SlS.at {n : Nat} {w : World} {ss : List StepP} {v : Value} (h : SlS n w ss v) : ∃ a c, v = .slice a ss.length c ∧ ss.length ≤ c ∧ ss.length ≤ 9223372036854775807 ∧ ∀ (j : Nat), j < ss.length → ∃ (b o : Nat) (k t : Int) (x : VT) (ax : Option Addr) (cx : Nat), a = some ⟨b, o, none⟩ ∧ ss[j]? = some (k, t, (x, .slice ax x.items.length cx)) ∧ Lies n w x.items (.slice ax x.items.length cx) ∧ x.text.size ≤ 9223372036854775807 ∧ ∀ W, Below w.heap.size w W → SixAt W b (o + j * 6) (k, t, (x, .slice ax x.items.length cx)) ∧ b < W.heap.size := by
  obtain ⟨a, c, hv, h1, h2, hr, hs⟩ := h
  refine ⟨a, c, hv, h1, h2, fun j hj => ?_⟩
  obtain ⟨b, o, ha, hcs⟩ := hr (fun e => by rw [e] at hj; cases hj)
  obtain ⟨⟨k, t, x, u⟩, hx⟩ : ∃ x, x = ss[j] := ⟨_, rfl⟩
  have hc := hcs j hj
  have hsd := hs _ (List.getElem_mem hj)
  rw [← hx] at hc hsd
  obtain ⟨ax, cx, hu, _⟩ := Lies.slice hsd.1
  simp only at hu
  subst hu
  refine ⟨b, o, k, t, x, ax, cx, ha, by rw [List.getElem?_eq_getElem hj, hx], hsd.1, hsd.2, fun W hW => ?_⟩
  obtain ⟨c0, c1, c2, c3, c4, c5⟩ := hc
  exact ⟨⟨cell_keeps hW c0, cell_keeps hW c1, cell_keeps hW c2, cell_keeps hW c3, cell_keeps hW c4, cell_keeps hW c5⟩, cell_lt (cell_keeps hW c0)⟩

/-- As high as it may be. -/
def HtOK (l : List VT) (n : Nat) : Prop := (l = [] ∧ n = 0) ∨ (l ≠ [] ∧ ∃ h, n = h + 1 ∧ (h = 0 ∨ 16 ^ h ≤ l.length))

theorem high_for (l : List VT) (w : World) (hl : l.length ≤ 65536) : Calls Try.prog 30 #[.int .i64 (l.length : Int)] w fun e w' => ∃ g : Nat, e = .returned (.int .i64 (g : Int)) ∧ (∀ n, HtOK l n → n ≤ g) ∧ w' = w := by
  cases l with
  | nil =>
    refine Calls.mono (high_zero w) ?_
    rintro e w' ⟨rfl, rfl⟩
    refine ⟨0, rfl, fun n hn => ?_, rfl⟩
    rcases hn with ⟨_, rfl⟩ | ⟨h, _⟩
    · exact Nat.le_refl _
    · exact absurd rfl h
  | cons x l =>
    refine Calls.mono (high_any (x :: l).length w (by simp) hl) ?_
    rintro e w' ⟨⟨j, rfl, _, hj⟩, rfl⟩
    refine ⟨j / 4 + 3, rfl, fun n hn => ?_, rfl⟩
    rcases hn with ⟨h, _⟩ | ⟨_, h, rfl, hh⟩
    · cases h
    · exact height_low _ h j hh hj

theorem height_for (l : List VT) (p : Value) (w : World) (h : VV w l p) : Calls Try.prog 29 #[p] w fun e w' => ∃ n : Nat, e = .returned (.int .i64 (n : Int)) ∧ HtOK l n ∧ Below w.heap.size w w' :=
  vheight_any 16 l p w h.vc (by have := h.len; omega)

end Go.Proofs.Ytplahohaahfjmab

namespace Go.Proofs.Ytplahohaahfjmab
open Go.RowKit

/-- The vector's pointer as the walk writes it. -/
theorem VV.ptr {w : World} {l : List VT} {p : Value} (h : VV w l p) : ∃ o, p = .pointer o := h.vc.shape

theorem push_right {n : Nat} {l m : List VT} {x : VT} {w : World} {u : Value} (hx : Lies n w x.items u) (hr : l.all (rightV 16) = true) (h : pushN n l x = .inl m) : m.length ≤ 65536 ∧ m.all (rightV 16) = true := by
  unfold pushN at h
  by_cases h1 : rightV n x = true
  · rw [if_pos h1] at h
    by_cases h2 : l.length + 1 ≤ 65536
    · rw [if_pos h2] at h
      injection h with h
      subst h
      refine ⟨by rw [List.length_append]; exact h2, ?_⟩
      rw [List.all_append, hr]
      simpa using (canon hx h1).2
    · rw [if_neg h2] at h; cases h
  · rw [if_neg h1] at h; cases h

end Go.Proofs.Ytplahohaahfjmab

