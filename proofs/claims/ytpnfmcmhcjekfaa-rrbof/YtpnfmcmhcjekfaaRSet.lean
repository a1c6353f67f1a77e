/-
  Chapter 11's lists, as the document says them: Set, Pop, Nth.
-/
import Derived.Test.YtpnfmcmhcjekfaaRef11
import Derived.Test.YtpnfmcmhcjekfaaPopT
import Derived.BigRegion
import Derived.Test.YtpnfmcmhcjekfaaUniq
namespace Go.Proofs.Ytpnfmcmhcjekfaa
open Go.RowKit

/-- What the document's Pop tells: a list without its last item, and that one; both lay there already in w0. -/
def RPopPost (l : List VT) (w0 w : World) (e : Ending) (w' : World) : Prop :=
  Below w.heap.size w w' ∧ ((l = [] ∧ e = .returned (.tuple #[.slice none 0 0, zeroAgg, .int .i64 6])) ∨
    ∃ m x a n v, l = m ++ [x] ∧ n = m.length ∧ e = .returned (.tuple #[.slice a n n, .agg #[.int .i64 x.kind, .int .i64 x.num, .string x.text, v], .int .i64 0]) ∧ Lies 17 w0 m (.slice a n n) ∧ Lies 16 w0 x.items v)

set_option maxRecDepth 100000 in
set_option maxHeartbeats 8000000 in
theorem rpop_any (l : List VT) (a : Option Addr) (c : Nat) (w0 w : World) (hl : Lies 17 w0 l (.slice a l.length c)) (hb0 : Below w0.heap.size w0 w) (hlen : l.length ≤ 65536) : Calls Try.prog 23 #[.slice a l.length c] w (RPopPost l w0 w) := by
  have hbz : Below w.heap.size w (w.alloc (.cells #[.int .i64 0, .int .i64 0, .string ⟨#[]⟩, .slice none 0 0] 31)) := ((Grew.refl w).alloc _).below
  rcases List.eq_nil_or_concat l with rfl | ⟨m, x, rfl⟩
  · have HP : Hid (RPopPost [] w0 w (.returned (.tuple #[.slice none 0 0, .agg #[.int .i64 0, .int .i64 0, .string ⟨#[]⟩, .slice none 0 0], .int .i64 6])) (w.alloc (.cells #[.int .i64 0, .int .i64 0, .string ⟨#[]⟩, .slice none 0 0] 31))) := ⟨hbz, .inl ⟨rfl, rfl⟩⟩
    clear hl hlen hbz hb0
    go_enter Try.func23, Try.ntmps23
    go_wp2_with fail
    refine bodyPost_ret (v := .tuple #[.slice none 0 0, .agg #[.int .i64 0, .int .i64 0, .string ⟨#[]⟩, .slice none 0 0], .int .i64 6]) ?_ rfl HP.out
    simp [results, Try.results23, go_sem]
  · rw [List.concat_eq_append] at *
    obtain ⟨g, o, rfl, hcap⟩ := Lies.some_at hl (by simp)
    obtain ⟨n, hn⟩ : ∃ n, n = m.length := ⟨_, rfl⟩
    obtain ⟨N, hN⟩ : ∃ N, N = n + 1 := ⟨_, rfl⟩
    have hlN : (m ++ [x]).length = N := by rw [List.length_append, hN, hn]; rfl
    have h9 : Lies 17 w0 m (.slice (some ⟨g, o, none⟩) n n) := by
      have h8 := Lies.taken hl n (by rw [hlN]; omega)
      rw [hn, List.take_left' rfl] at h8
      obtain ⟨a', c', e8, hc8, hr8⟩ := h8
      injection e8 with e1 e2 e3
      rw [← hn] at hc8
      refine ⟨_, n, by rw [hn], ⟨by rw [← hn]; exact Nat.le_refl _, by omega⟩, fun hne => ?_⟩
      obtain ⟨b, o', ha, hall⟩ := hr8 hne
      exact ⟨b, o', by rw [e1, ha], hall⟩
    obtain ⟨a', c', e7, hc7, hr7⟩ := hl
    obtain ⟨b', o', ha', hall⟩ := hr7 (by simp)
    injection e7 with e1 e2 e3
    rw [← e1] at ha'
    injection ha' with ha'
    injection ha' with hb' ho' _
    subst hb' ho'
    obtain ⟨u, c0, c1, c2, c3, hLx, hsx⟩ := hall n (by rw [hlN]; omega)
    have hgx : (m ++ [x])[n]'(by rw [hlN]; omega) = x := by simp [hn]
    rw [hgx] at c0 c1 c2 hLx hsx
    replace c0 := cell_keeps hb0 c0
    replace c1 := cell_keeps hb0 c1
    replace c2 := cell_keeps hb0 c2
    replace c3 := cell_keeps hb0 c3
    have hglt : g < w.heap.size := cell_lt c0
    obtain ⟨ux, cx, rfl, _⟩ := Lies.slice hLx
    rw [hlN] at hlen ⊢
    have HP : Hid (RPopPost (m ++ [x]) w0 w (.returned (.tuple #[.slice (some ⟨g, o, none⟩) n n, .agg #[.int .i64 x.kind, .int .i64 x.num, .string x.text, .slice ux x.items.length cx], .int .i64 0])) (w.alloc (.cells #[.int .i64 x.kind, .int .i64 x.num, .string x.text, .slice ux x.items.length cx] 31)).drew) := by
      have hb9 : Below w.heap.size w (w.alloc (.cells #[.int .i64 x.kind, .int .i64 x.num, .string x.text, .slice ux x.items.length cx] 31)).drew := ((Grew.refl w).alloc _).below.drew
      exact ⟨hb9, .inr ⟨m, x, _, n, _, rfl, hn, rfl, h9, hLx⟩⟩
    have hnb : ¬ (g = w.heap.size) := by omega
    have hnb2 : ¬ (w.heap.size = g) := by omega
    have hN0 : ¬ ((N : Nat) : Int) = 0 := by omega
    have hwn : IntKind.i64.wrap ((N : Nat) - 1 : Int) = (n : Int) := by rw [IntKind.wrap_i64]; omega
    have hnc : n ≤ c := by omega
    have hnci : (n : Int) ≤ (c : Nat) := by omega
    have hnNi : (n : Int) < (N : Nat) := by omega
    clear hLx h9 hn hN hlN hgx hsx hall hr7 e1 e2 e3 hc7 hbz hb0
    go_enter Try.func23, Try.ntmps23
    go_wp2_with fail
    go_region
    go_wp2_with fail
    refine bodyPost_ret (v := .tuple #[.slice (some ⟨g, o, none⟩) n n, .agg #[.int .i64 x.kind, .int .i64 x.num, .string x.text, .slice ux x.items.length cx], .int .i64 0]) ?_ rfl HP.out
    simp [results, Try.results23, go_sem]

set_option maxRecDepth 100000 in
set_option maxHeartbeats 8000000 in
/-- The document's Nth. -/
theorem rnth_any (l : List VT) (a : Option Addr) (c : Nat) (i : Int) (w0 w : World) (hl : Lies 17 w0 l (.slice a l.length c)) (hb0 : Below w0.heap.size w0 w) (hlen : l.length ≤ 65536) : Calls Try.prog 14 #[.slice a l.length c, .int .i64 i] w fun e w' => Below w.heap.size w w' ∧ (((0 ≤ i ∧ i < (l.length : Int)) ∧ ∃ x v, l[i.toNat]? = some x ∧ e = .returned (.tuple #[.agg #[.int .i64 x.kind, .int .i64 x.num, .string x.text, v], .int .i64 0]) ∧ Lies 16 w0 x.items v) ∨ (¬ (0 ≤ i ∧ i < (l.length : Int)) ∧ e = .returned (.tuple #[zeroAgg, .int .i64 5]))) := by
  have hbz : Below w.heap.size w (w.alloc (.cells #[.int .i64 0, .int .i64 0, .string ⟨#[]⟩, .slice none 0 0] 31)) := ((Grew.refl w).alloc _).below
  by_cases hs : 0 ≤ i ∧ i < (l.length : Int)
  · obtain ⟨I, rfl⟩ := Int.eq_ofNat_of_zero_le hs.1
    have hI : I < l.length := by have := hs.2; omega
    obtain ⟨g, o, rfl, hcap⟩ := Lies.some_at hl (by omega)
    obtain ⟨a', c', e7, hc7, hr7⟩ := hl
    obtain ⟨b', o', ha', hall⟩ := hr7 (fun e => by rw [e] at hI; simp at hI)
    injection e7 with e1 e2 e3
    rw [← e1] at ha'
    injection ha' with ha'
    injection ha' with hb' ho' _
    subst hb' ho'
    obtain ⟨u, c0, c1, c2, c3, hLx, hsx⟩ := hall I hI
    obtain ⟨x, hx⟩ : ∃ x, x = l[I] := ⟨_, rfl⟩
    have hxs : l[I]? = some x := by rw [List.getElem?_eq_getElem hI, hx]
    rw [← hx] at c0 c1 c2 hLx hsx
    replace c0 := cell_keeps hb0 c0
    replace c1 := cell_keeps hb0 c1
    replace c2 := cell_keeps hb0 c2
    replace c3 := cell_keeps hb0 c3
    have hglt : g < w.heap.size := cell_lt c0
    obtain ⟨ux, cx, rfl, _⟩ := Lies.slice hLx
    have HP : Hid (Below w.heap.size w (w.alloc (.cells #[.int .i64 x.kind, .int .i64 x.num, .string x.text, .slice ux x.items.length cx] 31)) ∧ (((0 ≤ (I : Int) ∧ (I : Int) < (l.length : Int)) ∧ ∃ x' v, l[(I : Int).toNat]? = some x' ∧ Ending.returned (.tuple #[.agg #[.int .i64 x.kind, .int .i64 x.num, .string x.text, .slice ux x.items.length cx], .int .i64 0]) = .returned (.tuple #[.agg #[.int .i64 x'.kind, .int .i64 x'.num, .string x'.text, v], .int .i64 0]) ∧ Lies 16 w0 x'.items v) ∨ (¬ (0 ≤ (I : Int) ∧ (I : Int) < (l.length : Int)) ∧ Ending.returned (.tuple #[.agg #[.int .i64 x.kind, .int .i64 x.num, .string x.text, .slice ux x.items.length cx], .int .i64 0]) = .returned (.tuple #[zeroAgg, .int .i64 5])))) := ⟨((Grew.refl w).alloc _).below, .inl ⟨hs, x, _, by rw [Int.toNat_natCast]; exact hxs, rfl, hLx⟩⟩
    obtain ⟨R, hR⟩ : ∃ R : Ending → World → Prop, R = fun e w' => Below w.heap.size w w' ∧ (((0 ≤ (I : Int) ∧ (I : Int) < (l.length : Int)) ∧ ∃ x v, l[(I : Int).toNat]? = some x ∧ e = .returned (.tuple #[.agg #[.int .i64 x.kind, .int .i64 x.num, .string x.text, v], .int .i64 0]) ∧ Lies 16 w0 x.items v) ∨ (¬ (0 ≤ (I : Int) ∧ (I : Int) < (l.length : Int)) ∧ e = .returned (.tuple #[zeroAgg, .int .i64 5]))) := ⟨_, rfl⟩
    have HE : Hid (R (.returned (.tuple #[.agg #[.int .i64 x.kind, .int .i64 x.num, .string x.text, .slice ux x.items.length cx], .int .i64 0])) (w.alloc (.cells #[.int .i64 x.kind, .int .i64 x.num, .string x.text, .slice ux x.items.length cx] 31))) := by
      show R _ _
      rw [hR]
      exact HP.out
    rw [← hR]
    obtain ⟨L, hL⟩ : ∃ L, L = l.length := ⟨_, rfl⟩
    rw [← hL] at hI hlen ⊢
    have hnb : ¬ (g = w.heap.size) := by omega
    have hIi : (I : Int) < (L : Nat) := by omega
    have hI0 : ¬ (I : Int) < 0 := by omega
    have hIn : ¬ ((L : Nat) : Int) ≤ (I : Int) := by omega
    clear hall hr7 e1 e2 e3 hc7 hbz hb0 hx hxs hLx hsx HP hR hs hL
    go_enter Try.func14, Try.ntmps14
    go_wp2_with fail
    refine bodyPost_ret (v := .tuple #[.agg #[.int .i64 x.kind, .int .i64 x.num, .string x.text, .slice ux x.items.length cx], .int .i64 0]) ?_ rfl HE.out
    simp [results, Try.results14, go_sem]
  · obtain ⟨R, hR⟩ : ∃ R : Ending → World → Prop, R = fun e w' => Below w.heap.size w w' ∧ (((0 ≤ i ∧ i < (l.length : Int)) ∧ ∃ x v, l[i.toNat]? = some x ∧ e = .returned (.tuple #[.agg #[.int .i64 x.kind, .int .i64 x.num, .string x.text, v], .int .i64 0]) ∧ Lies 16 w0 x.items v) ∨ (¬ (0 ≤ i ∧ i < (l.length : Int)) ∧ e = .returned (.tuple #[zeroAgg, .int .i64 5]))) := ⟨_, rfl⟩
    have HE : Hid (R (.returned (.tuple #[.agg #[.int .i64 0, .int .i64 0, .string ⟨#[]⟩, .slice none 0 0], .int .i64 5])) (w.alloc (.cells #[.int .i64 0, .int .i64 0, .string ⟨#[]⟩, .slice none 0 0] 31))) := by
      show R _ _
      rw [hR]
      exact ⟨hbz, .inr ⟨hs, rfl⟩⟩
    rw [← hR]
    have hex : i < 0 ∨ (¬ i < 0 ∧ ((l.length : Nat) : Int) ≤ i) := by omega
    obtain ⟨L, hL⟩ : ∃ L, L = l.length := ⟨_, rfl⟩
    rw [← hL] at hex ⊢
    clear hl hs hlen hL hbz hb0 hR
    rcases hex with h1 | ⟨h1, h2⟩
    all_goals
      go_enter Try.func14, Try.ntmps14
      go_wp2_with fail
      refine bodyPost_ret (v := .tuple #[.agg #[.int .i64 0, .int .i64 0, .string ⟨#[]⟩, .slice none 0 0], .int .i64 5]) ?_ rfl HE.out
      simp [results, Try.results14, go_sem]

end Go.Proofs.Ytpnfmcmhcjekfaa

namespace Go.Proofs.Ytpnfmcmhcjekfaa
open Go.RowKit

/-- A row of one's own that grows by whatever sources, seen from world w. -/
structure Rs (w W : World) (v : Value) (n : Nat) (xs : List Value) : Prop where
  below : Below w.heap.size w W
  own : W.ownsRow w.heap.size 31 4 v n xs

theorem Rs.append {w W : World} {ops : Array Oper} {rest : List Oper} {o : Oper} {act : Act} {Q : Exit → Act → World → Prop} (hgd : o.guard = none) (s x : Operand)
    (ho : o.op = .call { callee := .builtin .append, args := #[s, x], argTypes := #[22, 22] })
    {v : Value} {n : Nat} {xs : List Value} (hr : Rs w W v n xs) (hs : act.eval s = v) {aa : Option Addr} {m c : Nat} (hx : act.eval x = .slice aa m c) {news : List Value} (hsrc : Src w aa m 4 news) (k : Nat) (hk : n + m = k) (hm : k ≤ 200000)
    (h : ∀ a' c' W', Rs w W' (.slice a' k c') k (xs ++ news) → wpList Try.prog ops Q rest (act.put o.dst (.slice a' k c')) W') : wpList Try.prog ops Q (o :: rest) act W := by
  subst hk
  obtain ⟨i0, hi, hz0, hz1, hz2⟩ := info24
  refine wpList_append_row hgd s x ho w.heap.size i0 hi hz0 hz1 hz2 v n xs hs hr.own aa m c news hx hsrc.none hsrc.len (hsrc.cell hr.below) hsrc.one (by unfold maxLen; omega) (by omega) hr.below.size (fun v' w' h1 h2 => ?_)
  have hb : Below w.heap.size w w' := own_growM hr.below hr.below.size hr.own h2
  have hv : ∃ a' c', v' = .slice a' (n + m) c' := by
    rcases h1.2 with ⟨e1, e2⟩ | ⟨g, cap, _, e1, _⟩
    · exact ⟨none, 0, by rw [e1, e2]⟩
    · exact ⟨_, cap, e1⟩
  obtain ⟨a', c', rfl⟩ := hv
  exact h a' c' w' ⟨hb, h1⟩

theorem Rs.nil (w : World) : Rs w w (.slice none 0 0) 0 [] := ⟨Below.refl _ _, World.ownsRow_nil _ _ _ _⟩

set_option maxRecDepth 100000 in
set_option maxHeartbeats 8000000 in
theorem rset_any (n : Nat) (l : List VT) (a : Option Addr) (c : Nat) (i : Int) (x : VT) (ax : Option Addr) (cx : Nat) (w : World) (hl : Lies 17 w l (.slice a l.length c)) (hlen : l.length ≤ 65536) (hx : Lies n w x.items (.slice ax x.items.length cx)) (hts : x.text.size ≤ 9223372036854775807) :
    Calls Try.prog 19 #[.slice a l.length c, .int .i64 i, .agg #[.int .i64 x.kind, .int .i64 x.num, .string x.text, .slice ax x.items.length cx]] w (LstPost (setN n l i x) w) := by
  obtain ⟨wA, hwA⟩ : ∃ wA, wA = w.alloc (.cells #[.int .i64 x.kind, .int .i64 x.num, .string x.text, .slice ax x.items.length cx] 31) := ⟨_, rfl⟩
  have hbA : Below w.heap.size w wA := by rw [hwA]; exact ((Grew.refl w).alloc _).below
  have HRt : Hid _ := right_any n x (.slice ax x.items.length cx) wA (Lies.keeps hbA _ _ _ hx)
  have HBx : Hid (Bx wA w.heap.size x (.slice ax x.items.length cx)) := by rw [hwA]; exact bx_alloc w x _
  obtain ⟨x0, x1, x2, x3, _, _, _, _⟩ := HBx.out
  have HwA : Hid (wA = w.alloc (.cells #[.int .i64 x.kind, .int .i64 x.num, .string x.text, .slice ax x.items.length cx] 31)) := hwA
  obtain ⟨R, hR⟩ : ∃ R, R = setN n l i x := ⟨_, rfl⟩
  rw [← hR]
  unfold setN at hR
  rw [hwA] at HRt x0 x1 x2 x3
  by_cases hr : rightV n x = true
  · rw [if_pos hr] at hR
    rw [hr] at HRt
    by_cases hs : 0 ≤ i ∧ i < (l.length : Int)
    · rw [if_pos hs] at hR
      obtain ⟨I, rfl⟩ := Int.eq_ofNat_of_zero_le hs.1
      have hI : I < l.length := by have := hs.2; omega
      rw [Int.toNat_natCast] at hR
      have HR : Hid (R = .inl (l.set I x)) := hR
      have Hx16 : Hid (Lies 16 w x.items (.slice ax x.items.length cx)) := (canon hx hr).1
      have HL : Hid (Lies 17 w l (.slice a l.length c)) := hl
      have HF : Hid (∀ (w1 W : World) (g cap : Nat) (ps : List PR), Below w.heap.size w w1 → w.heap.size < g → Below w1.heap.size w1 W → w1.heap.size ≤ g → RowAt W g 0 ps → ps.map (·.1) = l → (∀ p ∈ ps, Sound 16 w1 p) → ps.length ≤ cap → LstPost R w (.returned (.tuple #[.slice (some ⟨g, 0, none⟩) l.length cap, .int .i64 0])) (W.setCells g (I * 4) (encP (x, .slice ax x.items.length cx)))) := fun w1 W g cap ps h1 h2 h3 h4 h5 h6 h7 h8 => by
        have hpl : ps.length = l.length := by rw [← h6, List.length_map]
        have hb9 : Below w1.heap.size w1 (W.setCells g (I * 4) (encP (x, .slice ax x.items.length cx))) := below_setCellsB g _ h4 _ _ _ _ h3
        have hr9 := h5.put I (by omega) (x, .slice ax x.items.length cx)
        have hl9 := lies_of_row (d := 16) (c := cap) hr9 (fun p hp => by
          rcases List.mem_or_eq_of_mem_set hp with hp | rfl
          · exact (h7 p hp).keeps hb9
          · exact ⟨Lies.keeps hb9 _ _ _ (Lies.keeps h1 _ _ _ Hx16.out), hts⟩) (by rw [List.length_set]; omega) (by rw [List.length_set]; omega)
        rw [List.map_set, h6, List.length_set, hpl] at hl9
        rw [HR.out]
        refine ⟨h1.trans (hb9.mono h1.size), some ⟨g, 0, none⟩, cap, by rw [List.length_set], ?_⟩
        rw [List.length_set]
        exact hl9
      obtain ⟨L, hL⟩ : ∃ L, L = l.length := ⟨_, rfl⟩
      have HLL : Hid (L = l.length) := hL
      rw [← hL] at hI hlen HF ⊢
      have hIi : (I : Int) < (L : Nat) := by omega
      have hI0 : ¬ (I : Int) < 0 := by omega
      have hIn : ¬ ((L : Nat) : Int) ≤ (I : Int) := by omega
      clear hl hx hr hR hwA hts hs hL
      go_enter Try.func19, Try.ntmps19
      go_wp2_with fail
      refine Calls.mono HRt.out ?_
      rintro e w1 ⟨rfl, hg1⟩
      rw [← HwA.out] at hg1
      have hb1 : Below w.heap.size w w1 := hbA.trans (hg1.mono hbA.size)
      have HB1 : Hid (Bx w1 w.heap.size x (.slice ax x.items.length cx)) := HBx.out.keeps hg1
      have hs1 : w.heap.size < w1.heap.size := cell_lt HB1.out.1
      obtain ⟨ps, hp1, hp2, hsrc, hsd⟩ := src_of (Lies.keeps hb1 _ _ _ HL.out)
      rw [← HLL.out] at hsrc hp2
      have hne : ps ≠ [] := fun e => by rw [e] at hp2; simp at hp2; omega
      have HS : Hid (Src w1 a L 4 (ps.flatMap encP)) := hsrc
      have HQ : Hid (ps.map (·.1) = l ∧ ps.length = L ∧ ps ≠ [] ∧ ∀ p ∈ ps, Sound 16 w1 p) := ⟨hp1, hp2, hne, hsd⟩
      clear HRt x0 x1 x2 x3 HBx HwA hg1 hbA hsrc hp1 hp2 hne hsd
      have HC := Rs.nil w1
      go_wp2_with (at_builtin; refine Rs.append rfl _ _ rfl HC rfl rfl HS.out L (by omega) (by omega) ?_; clear HC; intro ay cy W HC; obtain ⟨g, cap, he, hg, hcap, hlt, hrow, hfz⟩ := own_row (ps := ps) (base := w1.heap.size) (w := W) (v := .slice ay L cy) (by rw [HQ.out.2.1]; exact HC.own) HQ.out.2.2.1; injection he with he1 he2 he3; clear he2; subst he1 he3; obtain ⟨x0, x1, x2, x3, _, _, _, _⟩ := HB1.out.keeps HC.below; have hIp : I < ps.length := by { rw [HQ.out.2.1]; exact hI }; obtain ⟨p0, p1, p2, p3⟩ := hrow I hIp; simp only [Nat.zero_add] at p0 p1 p2 p3; have f0 := hfz (I * 4); have f1 := hfz (I * 4 + 1); have f2 := hfz (I * 4 + 2); have f3 := hfz (I * 4 + 3); have HE : Hid _ := HF.out w1 W g cy ps hb1 (by omega) HC.below hg hrow HQ.out.1 HQ.out.2.2.2 hcap; clear HC hrow hfz hcap hlt; generalize ps[I]'hIp = pI at *; clear hIp)
      simp only [encP, World.setCells] at HE
      go_wp2_with fail
      go_ret2
      exact HE.out
    · rw [if_neg hs] at hR
      have HR : Hid (R = .inr 5) := hR
      have hex : i < 0 ∨ (¬ i < 0 ∧ ((l.length : Nat) : Int) ≤ i) := by omega
      obtain ⟨L, hL⟩ : ∃ L, L = l.length := ⟨_, rfl⟩
      rw [← hL] at hex ⊢
      clear hl hx hr hR hwA hts hs hlen hL
      rcases hex with h1 | ⟨h1, h2⟩
      all_goals
        go_enter Try.func19, Try.ntmps19
        go_wp2_with fail
        refine Calls.mono HRt.out ?_
        rintro e w1 ⟨rfl, hg1⟩
        rw [← HwA.out] at hg1
        have HE : Hid (LstPost R w (.returned (.tuple #[.slice none 0 0, .int .i64 5])) w1) := by
          show LstPost _ _ _ _
          rw [HR.out]
          exact ⟨hbA.trans (hg1.mono hbA.size), rfl⟩
        clear HRt x0 x1 x2 x3 HBx HwA hg1 hbA
        go_wp2_with fail
        go_ret2
        exact HE.out
  · rw [if_neg hr] at hR
    have hr' : rightV n x = false := by simpa using hr
    rw [hr'] at HRt
    have HR : Hid (R = .inr 3) := hR
    clear hl hx hr hr' hR hwA hts hlen
    go_enter Try.func19, Try.ntmps19
    go_wp2_with fail
    refine Calls.mono HRt.out ?_
    rintro e w1 ⟨rfl, hg1⟩
    rw [← HwA.out] at hg1
    have HE : Hid (LstPost R w (.returned (.tuple #[.slice none 0 0, .int .i64 3])) w1) := by
      show LstPost _ _ _ _
      rw [HR.out]
      exact ⟨hbA.trans (hg1.mono hbA.size), rfl⟩
    clear HRt x0 x1 x2 x3 HBx HwA hg1 hbA
    go_wp2_with fail
    go_ret2
    exact HE.out

end Go.Proofs.Ytpnfmcmhcjekfaa

