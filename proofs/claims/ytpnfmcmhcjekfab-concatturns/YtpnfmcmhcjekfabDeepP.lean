/-
  What ConcatDeep wants besides.
-/
import Derived.Test.YtpnfmcmhcjekfabCutsLaw
import Derived.Test.YtpnfmcmhcjekfabFold
namespace Go.Proofs.Ytpnfmcmhcjekfab
open Go.RowKit

structure Rw (w W : World) (v : Value) (n : Nat) (xs : List Value) : Prop where
  below : Below w.heap.size w W
  own : W.ownsRow w.heap.size 38 4 v n xs

theorem Rw.start (w : World) : Rw w (w.alloc (.cells #[] 38)) (.slice (some ⟨w.heap.size, 0, none⟩) 0 0) 0 [] := ⟨((Grew.refl w).alloc _).below, own_empty w _ (Nat.le_refl _)⟩

theorem Rw.append {w W : World} {ops : Array Oper} {rest : List Oper} {o : Oper} {act : Act} {Q : Exit → Act → World → Prop} (hgd : o.guard = none) (s x : Operand)
    (ho : o.op = .call { callee := .builtin .append, args := #[s, x], argTypes := #[22, 22] })
    {v : Value} {n : Nat} {xs : List Value} (hr : Rw w W v n xs) (hs : act.eval s = v) {aa : Option Addr} {m c : Nat} (hx : act.eval x = .slice aa m c) {news : List Value} (hsrc : Src w aa m 4 news) (k : Nat) (hk : n + m = k) (hm : k ≤ 200000)
    (h : ∀ a' c' W', Rw w W' (.slice a' k c') k (xs ++ news) → wpList Try.prog ops Q rest (act.put o.dst (.slice a' k c')) W') : wpList Try.prog ops Q (o :: rest) act W := by
  subst hk
  obtain ⟨i0, hi, hz0, hz1, hz2⟩ := info24
  refine wpList_append_row hgd s x ho w.heap.size i0 hi hz0 hz1 hz2 v n xs hs hr.own aa m c news hx hsrc.none hsrc.len (hsrc.cell hr.below) hsrc.one (by unfold maxLen; omega) (by omega) hr.below.size (fun v' w' h1 h2 => ?_)
  have hb : Below w.heap.size w w' := own_growM hr.below hr.below.size hr.own h2
  have hv : ∃ a' c', v' = .slice a' (n + m) c' := by
    rcases h1.2 with ⟨e1, e2⟩ | ⟨g, cap, _, e1, _⟩
    · exact ⟨none, 0, by rw [e1, e2]⟩
    · exact ⟨_, cap, e1⟩
  obtain ⟨a', c', rfl⟩ := hv
  exact h a' c' w' ⟨hb, h1⟩

theorem Rw.lies {w W : World} {v : Value} {n : Nat} {ps : List (VT × Value)} (h : Rw w W v n (ps.flatMap encP)) (hn : n = ps.length) (hs : ∀ p ∈ ps, Sound 16 w p) (hl : n ≤ 200000) : Lies 17 W (ps.map (·.1)) v :=
  own_lies (d := 16) hn h.own (fun p hp => (hs p hp).keeps h.below) (by omega)

end Go.Proofs.Ytpnfmcmhcjekfab

namespace Go.Proofs.Ytpnfmcmhcjekfab
open Go.RowKit

/-- What 'made' tells. -/
def Made2Post (l m : List VT) (u1 u2 : Value) (w : World) (e : Ending) (w' : World) : Prop :=
  Below w.heap.size w w' ∧ ((∃ b1 b2, e = .returned (.tuple #[.pointer (some ⟨b1, 0, none⟩), .pointer (some ⟨b2, 0, none⟩), .bool true]) ∧ VV w' l (.pointer (some ⟨b1, 0, none⟩)) ∧ VV w' m (.pointer (some ⟨b2, 0, none⟩)) ∧ Lies 17 w' l u1 ∧ Lies 17 w' m u2) ∨ (∃ p q : Option Addr, e = .returned (.tuple #[.pointer p, .pointer q, .bool false])))

set_option maxRecDepth 100000 in
set_option maxHeartbeats 8000000 in
theorem made2_any (n : Nat) (l m : List VT) (a am : Option Addr) (c cm : Nat) (w : World) (hl : Lies (n + 1) w l (.slice a l.length c)) (hm : Lies (n + 1) w m (.slice am m.length cm)) :
    Calls Try.prog 20 #[.agg #[.slice a l.length c, .slice am m.length cm]] w (Made2Post l m (.slice a l.length c) (.slice am m.length cm) w) := by
  obtain ⟨wA, hwA⟩ : ∃ wA, wA = w.alloc (.cells #[.slice a l.length c, .slice am m.length cm] 48) := ⟨_, rfl⟩
  have hbA : Below w.heap.size w wA := by rw [hwA]; exact ((Grew.refl w).alloc _).below
  have hc : wA.cell? ⟨w.heap.size, 1, none⟩ = some (.slice am m.length cm) := by rw [hwA]; simp
  have HO : Hid _ := of_vv n l _ wA (Lies.keeps hbA _ _ _ hl)
  have HwA : Hid (wA = w.alloc (.cells #[.slice a l.length c, .slice am m.length cm] 48)) := hwA
  have HM : Hid (Lies (n + 1) w m (.slice am m.length cm)) := hm
  rw [hwA] at HO
  clear hl hm hwA
  go_enter Try.func20, Try.ntmps20
  go_wp2_with fail
  refine Calls.mono HO.out ?_
  rintro e w1 ⟨hg1, hp1⟩
  rw [← HwA.out] at hg1
  have hb1 : Below w.heap.size w w1 := hbA.trans (hg1.mono hbA.size)
  have hc1 := cell_keeps hg1 hc
  have HO2 : Hid _ := of_vv n m _ w1 (Lies.keeps hb1 _ _ _ HM.out)
  clear HO hc hg1 HM HwA hbA
  have hp1' : ∃ (p : Option Addr) (k : Nat), e = .returned (.tuple #[.pointer p, .int .i64 (k : Int)]) ∧ ((k = 0 ∧ ∃ b, p = some ⟨b, 0, none⟩ ∧ VV w1 l (.pointer p) ∧ Lies 17 w1 l (.slice a l.length c)) ∨ k ≠ 0) := by
    rcases hp1 with ⟨b, rfl, hv, hl⟩ | ⟨k, rfl, hk⟩
    · exact ⟨_, 0, rfl, .inl ⟨rfl, b, rfl, hv, hl⟩⟩
    · exact ⟨_, k, rfl, .inr (by omega)⟩
  obtain ⟨p, k, rfl, HP1⟩ := hp1'
  have HP1 : Hid _ := HP1
  clear hp1
  go_wp2_with fail
  refine Calls.mono HO2.out ?_
  rintro e w2 ⟨hg2, hp2⟩
  have hb2 : Below w.heap.size w w2 := hb1.trans (hg2.mono hb1.size)
  clear HO2 hc1
  rcases HP1.out with ⟨rfl, b1, rfl, hv1, hl1⟩ | hk
  · have HV1 : Hid (VV w2 l (.pointer (some ⟨b1, 0, none⟩))) := hv1.keeps hg2
    have HL1 : Hid (Lies 17 w2 l (.slice a l.length c)) := Lies.keeps hg2 _ _ _ hl1
    clear HP1 hv1 hl1
    rcases hp2 with ⟨b2, rfl, hv2, hl2⟩ | ⟨k2, rfl, hk2⟩
    · have HE : Hid (Made2Post l m (.slice a l.length c) (.slice am m.length cm) w (.returned (.tuple #[.pointer (some ⟨b1, 0, none⟩), .pointer (some ⟨b2, 0, none⟩), .bool true])) w2) := ⟨hb2, .inl ⟨b1, b2, rfl, HV1.out, hv2, HL1.out, hl2⟩⟩
      clear HV1 HL1 hv2 hl2
      go_wp2_with fail
      go_ret3
      exact HE.out
    · have hkz : ¬ ((k2 : Int) = 0) := by omega
      have HE : Hid (Made2Post l m (.slice a l.length c) (.slice am m.length cm) w (.returned (.tuple #[.pointer (some ⟨b1, 0, none⟩), .pointer none, .bool false])) w2) := ⟨hb2, .inr ⟨_, _, rfl⟩⟩
      clear HV1 HL1 hk2
      go_wp2_with fail
      go_ret3
      exact HE.out
  · have hkz : ¬ ((k : Int) = 0) := by omega
    obtain ⟨q, k2, rfl⟩ : ∃ (q : Option Addr) (k2 : Nat), e = .returned (.tuple #[.pointer q, .int .i64 (k2 : Int)]) := by
      rcases hp2 with ⟨b2, rfl, _⟩ | ⟨k2, rfl, _⟩
      · exact ⟨_, 0, rfl⟩
      · exact ⟨_, k2, rfl⟩
    have HE : Hid (Made2Post l m (.slice a l.length c) (.slice am m.length cm) w (.returned (.tuple #[.pointer p, .pointer q, .bool false])) w2) := ⟨hb2, .inr ⟨_, _, rfl⟩⟩
    clear HP1 hp2 hk
    go_wp2_with fail
    go_ret3
    exact HE.out

def catR3 (l m r : List VT) : List VT ⊕ Nat := if (l ++ (m ++ r)).length ≤ 65536 then .inl (l ++ (m ++ r)) else .inr 2

set_option maxRecDepth 100000 in
set_option maxHeartbeats 8000000 in
theorem all3_any (l m r : List VT) (p q s : Option Addr) (w : World) (h1 : VV w l (.pointer p)) (h2 : VV w m (.pointer q)) (h3 : VV w r (.pointer s)) :
    Calls Try.prog 23 #[.slice (some ⟨w.heap.size, 0, none⟩) 3 3] (w.alloc (.cells #[.pointer p, .pointer q, .pointer s] 23)) (VvPost (catR3 l m r) w) := by
  have hba : Below w.heap.size w (w.alloc (.cells #[.pointer p, .pointer q, .pointer s] 23)) := ((Grew.refl w).alloc _).below
  have h9 := join_vv [(l, .pointer p), (m, .pointer q), (r, .pointer s)] w.heap.size (w.alloc (.cells #[.pointer p, .pointer q, .pointer s] 23)) (fun i hi => by
    match i, hi with
    | 0, _ => simp
    | 1, _ => simp
    | 2, _ => simp) (by simp) (by simp) (fun p hp => by
      simp only [List.mem_cons, List.not_mem_nil, or_false] at hp
      rcases hp with rfl | rfl | rfl
      · exact h1.keeps hba
      · exact h2.keeps hba
      · exact h3.keeps hba)
  have e : joinR [(l, .pointer p), (m, .pointer q), (r, .pointer s)] = catR3 l m r := by
    unfold joinR catR3
    simp only [List.flatMap_cons, List.flatMap_nil, List.append_nil]
  rw [e] at h9
  have HJ : Hid (Calls Try.prog 47 #[.slice (some ⟨w.heap.size, 0, none⟩) 3 3] (w.alloc (.cells #[.pointer p, .pointer q, .pointer s] 23)) (VvPost (catR3 l m r) w)) := Calls.mono h9 (fun e w' hp => ⟨hba.trans (hp.1.mono hba.size), hp.2⟩)
  clear h9 e h1 h2 h3
  generalize catR3 l m r = R at *
  go_enter Try.func23, Try.ntmps23
  go_wp2_with fail
  refine Calls.mono HJ.out ?_
  intro e w1 hp
  clear HJ
  cases R with
  | inl t =>
    obtain ⟨hb2, b2, rfl, hv2⟩ := hp
    have HE : Hid (VvPost (.inl t) w (.returned (.tuple #[.pointer (some ⟨b2, 0, none⟩), .int .i64 0])) w1) := ⟨hb2, b2, rfl, hv2⟩
    clear hv2
    go_wp2_with fail
    go_ret2
    exact HE.out
  | inr k =>
    obtain ⟨hb2, he⟩ := hp
    simp only at he
    subst he
    have HE : Hid (VvPost (.inr k) w (.returned (.tuple #[.pointer none, .int .i64 (k : Int)])) w1) := ⟨hb2, rfl⟩
    go_wp2_with fail
    go_ret2
    exact HE.out

end Go.Proofs.Ytpnfmcmhcjekfab

namespace Go.Proofs.Ytpnfmcmhcjekfab
open Go.RowKit

/-- A vector's height, and the document's bound of it. -/
theorem height_pair (l : List VT) (p : Value) (w : World) (h : VV w l p) : Calls Try.prog 29 #[p] w fun e w' => Below w.heap.size w w' ∧ ∃ hN : Nat, e = .returned (.int .i64 (hN : Int)) ∧ ∀ V, Calls Try.prog 30 #[.int .i64 (l.length : Int)] V fun e w' => ∃ g : Nat, e = .returned (.int .i64 (g : Int)) ∧ hN ≤ g ∧ w' = V := by
  have hlen := h.len
  refine Calls.mono (vheight_any 16 l p w h.vc (by omega)) ?_
  rintro e w' ⟨n, rfl, hh, hb⟩
  refine ⟨hb, n, rfl, fun V => ?_⟩
  cases l with
  | nil =>
    refine Calls.mono (high_zero V) ?_
    rintro e w' ⟨rfl, rfl⟩
    refine ⟨0, rfl, ?_, rfl⟩
    rcases hh with ⟨_, rfl⟩ | ⟨h, _⟩
    · exact Nat.le_refl _
    · exact absurd rfl h
  | cons x l =>
    refine Calls.mono (high_any (x :: l).length V (by simp) hlen) ?_
    rintro e w' ⟨⟨j, rfl, _, hj⟩, rfl⟩
    refine ⟨j / 4 + 3, rfl, ?_, rfl⟩
    rcases hh with ⟨h, _⟩ | ⟨_, h, rfl, hh⟩
    · cases h
    · exact height_low _ h j hh hj

theorem Rw.nil (w : World) : Rw w w (.slice none 0 0) 0 [] := ⟨Below.refl _ _, World.ownsRow_nil _ _ _ _⟩

end Go.Proofs.Ytpnfmcmhcjekfab

