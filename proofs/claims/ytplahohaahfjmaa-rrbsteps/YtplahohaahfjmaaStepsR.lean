/-
  A list of steps in memory; the height and its bound.
-/
import Derived.Test.YtplahohaahfjmaaRef11
import Derived.Test.YtplahohaahfjmaaPopT
import Derived.BigRegion
import Derived.Test.YtplahohaahfjmaaUniq
namespace Go.Proofs.Ytplahohaahfjmaa
open Go.RowKit

/-- What the document's Pop tells: a list without its last item, and that one; both lay there already in w0. -/
def RPopPost (l : List VT) (w0 w : World) (e : Ending) (w' : World) : Prop :=
  Below w.heap.size w w' ∧ ((l = [] ∧ e = .returned (.tuple #[.slice none 0 0, zeroAgg, .int .i64 6])) ∨
    ∃ m x a n v, l = m ++ [x] ∧ n = m.length ∧ e = .returned (.tuple #[.slice a n n, .agg #[.int .i64 x.kind, .int .i64 x.num, .string x.text, v], .int .i64 0]) ∧ Lies 17 w0 m (.slice a n n) ∧ Lies 16 w0 x.items v)

set_option maxRecDepth 100000 in
set_option maxHeartbeats 8000000 in
theorem rpop_any (l : List VT) (a : Option Addr) (c : Nat) (w0 w : World) (hl : Lies 17 w0 l (.slice a l.length c)) (hb0 : Below w0.heap.size w0 w) (hlen : l.length ≤ 65536) : Calls Try.prog 23 #[.slice a l.length c] w (RPopPost l w0 w) := by
  have hbz : Below w.heap.size w (w.alloc (.cells #[.int .i64 0, .int .i64 0, .string ⟨#[]⟩, .slice none 0 0] 31)) := ((Grew.refl w).alloc _).below
  rcases List.eq_nil_or_concat l with rfl | ⟨m, x, rfl⟩
  · have HP : Hid (RPopPost [] w0 w (.returned (.tuple #[.slice none 0 0, .agg #[.int .i64 0, .int .i64 0, .string ⟨#[]⟩, .slice none 0 0], .int .i64 6])) (w.alloc (.cells #[.int .i64 0, .int .i64 0, .string ⟨#[]⟩, .slice none 0 0] 31))) := ⟨hbz, .inl ⟨rfl, rfl⟩⟩
    clear hl hlen hbz hb0
    go_enter Try.func23, Try.ntmps23
    go_wp2_with fail
    refine bodyPost_ret (v := .tuple #[.slice none 0 0, .agg #[.int .i64 0, .int .i64 0, .string ⟨#[]⟩, .slice none 0 0], .int .i64 6]) ?_ rfl HP.out
    simp [results, Try.results23, go_sem]
  · rw [List.concat_eq_append] at *
    obtain ⟨g, o, rfl, hcap⟩ := Lies.some_at hl (by simp)
    obtain ⟨n, hn⟩ : ∃ n, n = m.length := ⟨_, rfl⟩
    obtain ⟨N, hN⟩ : ∃ N, N = n + 1 := ⟨_, rfl⟩
    have hlN : (m ++ [x]).length = N := by rw [List.length_append, hN, hn]; rfl
    have h9 : Lies 17 w0 m (.slice (some ⟨g, o, none⟩) n n) := by
      have h8 := Lies.taken hl n (by rw [hlN]; omega)
      rw [hn, List.take_left' rfl] at h8
      obtain ⟨a', c', e8, hc8, hr8⟩ := h8
      injection e8 with e1 e2 e3
      rw [← hn] at hc8
      refine ⟨_, n, by rw [hn], ⟨by rw [← hn]; exact Nat.le_refl _, by omega⟩, fun hne => ?_⟩
      obtain ⟨b, o', ha, hall⟩ := hr8 hne
      exact ⟨b, o', by rw [e1, ha], hall⟩
    obtain ⟨a', c', e7, hc7, hr7⟩ := hl
    obtain ⟨b', o', ha', hall⟩ := hr7 (by simp)
    injection e7 with e1 e2 e3
    rw [← e1] at ha'
    injection ha' with ha'
    injection ha' with hb' ho' _
    subst hb' ho'
    obtain ⟨u, c0, c1, c2, c3, hLx, hsx⟩ := hall n (by rw [hlN]; omega)
    have hgx : (m ++ [x])[n]'(by rw [hlN]; omega) = x := by simp [hn]
    rw [hgx] at c0 c1 c2 hLx hsx
    replace c0 := cell_keeps hb0 c0
    replace c1 := cell_keeps hb0 c1
    replace c2 := cell_keeps hb0 c2
    replace c3 := cell_keeps hb0 c3
    have hglt : g < w.heap.size := cell_lt c0
    obtain ⟨ux, cx, rfl, _⟩ := Lies.slice hLx
    rw [hlN] at hlen ⊢
    have HP : Hid (RPopPost (m ++ [x]) w0 w (.returned (.tuple #[.slice (some ⟨g, o, none⟩) n n, .agg #[.int .i64 x.kind, .int .i64 x.num, .string x.text, .slice ux x.items.length cx], .int .i64 0])) (w.alloc (.cells #[.int .i64 x.kind, .int .i64 x.num, .string x.text, .slice ux x.items.length cx] 31)).drew) := by
      have hb9 : Below w.heap.size w (w.alloc (.cells #[.int .i64 x.kind, .int .i64 x.num, .string x.text, .slice ux x.items.length cx] 31)).drew := ((Grew.refl w).alloc _).below.drew
      exact ⟨hb9, .inr ⟨m, x, _, n, _, rfl, hn, rfl, h9, hLx⟩⟩
    have hnb : ¬ (g = w.heap.size) := by omega
    have hnb2 : ¬ (w.heap.size = g) := by omega
    have hN0 : ¬ ((N : Nat) : Int) = 0 := by omega
    have hwn : IntKind.i64.wrap ((N : Nat) - 1 : Int) = (n : Int) := by rw [IntKind.wrap_i64]; omega
    have hnc : n ≤ c := by omega
    have hnci : (n : Int) ≤ (c : Nat) := by omega
    have hnNi : (n : Int) < (N : Nat) := by omega
    clear hLx h9 hn hN hlN hgx hsx hall hr7 e1 e2 e3 hc7 hbz hb0
    go_enter Try.func23, Try.ntmps23
    go_wp2_with fail
    go_region
    go_wp2_with fail
    refine bodyPost_ret (v := .tuple #[.slice (some ⟨g, o, none⟩) n n, .agg #[.int .i64 x.kind, .int .i64 x.num, .string x.text, .slice ux x.items.length cx], .int .i64 0]) ?_ rfl HP.out
    simp [results, Try.results23, go_sem]

set_option maxRecDepth 100000 in
set_option maxHeartbeats 8000000 in
/-- The document's Nth. -/
theorem rnth_any (l : List VT) (a : Option Addr) (c : Nat) (i : Int) (w0 w : World) (hl : Lies 17 w0 l (.slice a l.length c)) (hb0 : Below w0.heap.size w0 w) (hlen : l.length ≤ 65536) : Calls Try.prog 14 #[.slice a l.length c, .int .i64 i] w fun e w' => Below w.heap.size w w' ∧ (((0 ≤ i ∧ i < (l.length : Int)) ∧ ∃ x v, l[i.toNat]? = some x ∧ e = .returned (.tuple #[.agg #[.int .i64 x.kind, .int .i64 x.num, .string x.text, v], .int .i64 0]) ∧ Lies 16 w0 x.items v) ∨ (¬ (0 ≤ i ∧ i < (l.length : Int)) ∧ e = .returned (.tuple #[zeroAgg, .int .i64 5]))) := by
  have hbz : Below w.heap.size w (w.alloc (.cells #[.int .i64 0, .int .i64 0, .string ⟨#[]⟩, .slice none 0 0] 31)) := ((Grew.refl w).alloc _).below
  by_cases hs : 0 ≤ i ∧ i < (l.length : Int)
  · obtain ⟨I, rfl⟩ := Int.eq_ofNat_of_zero_le hs.1
    have hI : I < l.length := by have := hs.2; omega
    obtain ⟨g, o, rfl, hcap⟩ := Lies.some_at hl (by omega)
    obtain ⟨a', c', e7, hc7, hr7⟩ := hl
    obtain ⟨b', o', ha', hall⟩ := hr7 (fun e => by rw [e] at hI; simp at hI)
    injection e7 with e1 e2 e3
    rw [← e1] at ha'
    injection ha' with ha'
    injection ha' with hb' ho' _
    subst hb' ho'
    obtain ⟨u, c0, c1, c2, c3, hLx, hsx⟩ := hall I hI
    obtain ⟨x, hx⟩ : ∃ x, x = l[I] := ⟨_, rfl⟩
    have hxs : l[I]? = some x := by rw [List.getElem?_eq_getElem hI, hx]
    rw [← hx] at c0 c1 c2 hLx hsx
    replace c0 := cell_keeps hb0 c0
    replace c1 := cell_keeps hb0 c1
    replace c2 := cell_keeps hb0 c2
    replace c3 := cell_keeps hb0 c3
    have hglt : g < w.heap.size := cell_lt c0
    obtain ⟨ux, cx, rfl, _⟩ := Lies.slice hLx
    have HP : Hid (Below w.heap.size w (w.alloc (.cells #[.int .i64 x.kind, .int .i64 x.num, .string x.text, .slice ux x.items.length cx] 31)) ∧ (((0 ≤ (I : Int) ∧ (I : Int) < (l.length : Int)) ∧ ∃ x' v, l[(I : Int).toNat]? = some x' ∧ Ending.returned (.tuple #[.agg #[.int .i64 x.kind, .int .i64 x.num, .string x.text, .slice ux x.items.length cx], .int .i64 0]) = .returned (.tuple #[.agg #[.int .i64 x'.kind, .int .i64 x'.num, .string x'.text, v], .int .i64 0]) ∧ Lies 16 w0 x'.items v) ∨ (¬ (0 ≤ (I : Int) ∧ (I : Int) < (l.length : Int)) ∧ Ending.returned (.tuple #[.agg #[.int .i64 x.kind, .int .i64 x.num, .string x.text, .slice ux x.items.length cx], .int .i64 0]) = .returned (.tuple #[zeroAgg, .int .i64 5])))) := ⟨((Grew.refl w).alloc _).below, .inl ⟨hs, x, _, by rw [Int.toNat_natCast]; exact hxs, rfl, hLx⟩⟩
    obtain ⟨R, hR⟩ : ∃ R : Ending → World → Prop, R = fun e w' => Below w.heap.size w w' ∧ (((0 ≤ (I : Int) ∧ (I : Int) < (l.length : Int)) ∧ ∃ x v, l[(I : Int).toNat]? = some x ∧ e = .returned (.tuple #[.agg #[.int .i64 x.kind, .int .i64 x.num, .string x.text, v], .int .i64 0]) ∧ Lies 16 w0 x.items v) ∨ (¬ (0 ≤ (I : Int) ∧ (I : Int) < (l.length : Int)) ∧ e = .returned (.tuple #[zeroAgg, .int .i64 5]))) := ⟨_, rfl⟩
    have HE : Hid (R (.returned (.tuple #[.agg #[.int .i64 x.kind, .int .i64 x.num, .string x.text, .slice ux x.items.length cx], .int .i64 0])) (w.alloc (.cells #[.int .i64 x.kind, .int .i64 x.num, .string x.text, .slice ux x.items.length cx] 31))) := by
      show R _ _
      rw [hR]
      exact HP.out
    rw [← hR]
    obtain ⟨L, hL⟩ : ∃ L, L = l.length := ⟨_, rfl⟩
    rw [← hL] at hI hlen ⊢
    have hnb : ¬ (g = w.heap.size) := by omega
    have hIi : (I : Int) < (L : Nat) := by omega
    have hI0 : ¬ (I : Int) < 0 := by omega
    have hIn : ¬ ((L : Nat) : Int) ≤ (I : Int) := by omega
    clear hall hr7 e1 e2 e3 hc7 hbz hb0 hx hxs hLx hsx HP hR hs hL
    go_enter Try.func14, Try.ntmps14
    go_wp2_with fail
    refine bodyPost_ret (v := .tuple #[.agg #[.int .i64 x.kind, .int .i64 x.num, .string x.text, .slice ux x.items.length cx], .int .i64 0]) ?_ rfl HE.out
    simp [results, Try.results14, go_sem]
  · obtain ⟨R, hR⟩ : ∃ R : Ending → World → Prop, R = fun e w' => Below w.heap.size w w' ∧ (((0 ≤ i ∧ i < (l.length : Int)) ∧ ∃ x v, l[i.toNat]? = some x ∧ e = .returned (.tuple #[.agg #[.int .i64 x.kind, .int .i64 x.num, .string x.text, v], .int .i64 0]) ∧ Lies 16 w0 x.items v) ∨ (¬ (0 ≤ i ∧ i < (l.length : Int)) ∧ e = .returned (.tuple #[zeroAgg, .int .i64 5]))) := ⟨_, rfl⟩
    have HE : Hid (R (.returned (.tuple #[.agg #[.int .i64 0, .int .i64 0, .string ⟨#[]⟩, .slice none 0 0], .int .i64 5])) (w.alloc (.cells #[.int .i64 0, .int .i64 0, .string ⟨#[]⟩, .slice none 0 0] 31))) := by
      show R _ _
      rw [hR]
      exact ⟨hbz, .inr ⟨hs, rfl⟩⟩
    rw [← hR]
    have hex : i < 0 ∨ (¬ i < 0 ∧ ((l.length : Nat) : Int) ≤ i) := by omega
    obtain ⟨L, hL⟩ : ∃ L, L = l.length := ⟨_, rfl⟩
    rw [← hL] at hex ⊢
    clear hl hs hlen hL hbz hb0 hR
    rcases hex with h1 | ⟨h1, h2⟩
    all_goals
      go_enter Try.func14, Try.ntmps14
      go_wp2_with fail
      refine bodyPost_ret (v := .tuple #[.agg #[.int .i64 0, .int .i64 0, .string ⟨#[]⟩, .slice none 0 0], .int .i64 5]) ?_ rfl HE.out
      simp [results, Try.results14, go_sem]

end Go.Proofs.Ytplahohaahfjmaa

namespace Go.Proofs.Ytplahohaahfjmaa
open Go.RowKit

/-- A row of one's own that grows by whatever sources, seen from world w. -/
structure Rs (w W : World) (v : Value) (n : Nat) (xs : List Value) : Prop where
  below : Below w.heap.size w W
  own : W.ownsRow w.heap.size 31 4 v n xs

theorem Rs.append {w W : World} {ops : Array Oper} {rest : List Oper} {o : Oper} {act : Act} {Q : Exit → Act → World → Prop} (hgd : o.guard = none) (s x : Operand)
    (ho : o.op = .call { callee := .builtin .append, args := #[s, x], argTypes := #[22, 22] })
    {v : Value} {n : Nat} {xs : List Value} (hr : Rs w W v n xs) (hs : act.eval s = v) {aa : Option Addr} {m c : Nat} (hx : act.eval x = .slice aa m c) {news : List Value} (hsrc : Src w aa m 4 news) (k : Nat) (hk : n + m = k) (hm : k ≤ 200000)
    (h : ∀ a' c' W', Rs w W' (.slice a' k c') k (xs ++ news) → wpList Try.prog ops Q rest (act.put o.dst (.slice a' k c')) W') : wpList Try.prog ops Q (o :: rest) act W := by
  subst hk
  obtain ⟨i0, hi, hz0, hz1, hz2⟩ := info24
  refine wpList_append_row hgd s x ho w.heap.size i0 hi hz0 hz1 hz2 v n xs hs hr.own aa m c news hx hsrc.none hsrc.len (hsrc.cell hr.below) hsrc.one (by unfold maxLen; omega) (by omega) hr.below.size (fun v' w' h1 h2 => ?_)
  have hb : Below w.heap.size w w' := own_growM hr.below hr.below.size hr.own h2
  have hv : ∃ a' c', v' = .slice a' (n + m) c' := by
    rcases h1.2 with ⟨e1, e2⟩ | ⟨g, cap, _, e1, _⟩
    · exact ⟨none, 0, by rw [e1, e2]⟩
    · exact ⟨_, cap, e1⟩
  obtain ⟨a', c', rfl⟩ := hv
  exact h a' c' w' ⟨hb, h1⟩

theorem Rs.nil (w : World) : Rs w w (.slice none 0 0) 0 [] := ⟨Below.refl _ _, World.ownsRow_nil _ _ _ _⟩

set_option maxRecDepth 100000 in
set_option maxHeartbeats 8000000 in
theorem rset_any (n : Nat) (l : List VT) (a : Option Addr) (c : Nat) (i : Int) (x : VT) (ax : Option Addr) (cx : Nat) (w : World) (hl : Lies 17 w l (.slice a l.length c)) (hlen : l.length ≤ 65536) (hx : Lies n w x.items (.slice ax x.items.length cx)) (hts : x.text.size ≤ 9223372036854775807) :
    Calls Try.prog 19 #[.slice a l.length c, .int .i64 i, .agg #[.int .i64 x.kind, .int .i64 x.num, .string x.text, .slice ax x.items.length cx]] w (LstPost (setN n l i x) w) := by
  obtain ⟨wA, hwA⟩ : ∃ wA, wA = w.alloc (.cells #[.int .i64 x.kind, .int .i64 x.num, .string x.text, .slice ax x.items.length cx] 31) := ⟨_, rfl⟩
  have hbA : Below w.heap.size w wA := by rw [hwA]; exact ((Grew.refl w).alloc _).below
  have HRt : Hid _ := right_any n x (.slice ax x.items.length cx) wA (Lies.keeps hbA _ _ _ hx)
  have HBx : Hid (Bx wA w.heap.size x (.slice ax x.items.length cx)) := by rw [hwA]; exact bx_alloc w x _
  obtain ⟨x0, x1, x2, x3, _, _, _, _⟩ := HBx.out
  have HwA : Hid (wA = w.alloc (.cells #[.int .i64 x.kind, .int .i64 x.num, .string x.text, .slice ax x.items.length cx] 31)) := hwA
  obtain ⟨R, hR⟩ : ∃ R, R = setN n l i x := ⟨_, rfl⟩
  rw [← hR]
  unfold setN at hR
  rw [hwA] at HRt x0 x1 x2 x3
  by_cases hr : rightV n x = true
  · rw [if_pos hr] at hR
    rw [hr] at HRt
    by_cases hs : 0 ≤ i ∧ i < (l.length : Int)
    · rw [if_pos hs] at hR
      obtain ⟨I, rfl⟩ := Int.eq_ofNat_of_zero_le hs.1
      have hI : I < l.length := by have := hs.2; omega
      rw [Int.toNat_natCast] at hR
      have HR : Hid (R = .inl (l.set I x)) := hR
      have Hx16 : Hid (Lies 16 w x.items (.slice ax x.items.length cx)) := (canon hx hr).1
      have HL : Hid (Lies 17 w l (.slice a l.length c)) := hl
      have HF : Hid (∀ (w1 W : World) (g cap : Nat) (ps : List PR), Below w.heap.size w w1 → w.heap.size < g → Below w1.heap.size w1 W → w1.heap.size ≤ g → RowAt W g 0 ps → ps.map (·.1) = l → (∀ p ∈ ps, Sound 16 w1 p) → ps.length ≤ cap → LstPost R w (.returned (.tuple #[.slice (some ⟨g, 0, none⟩) l.length cap, .int .i64 0])) (W.setCells g (I * 4) (encP (x, .slice ax x.items.length cx)))) := fun w1 W g cap ps h1 h2 h3 h4 h5 h6 h7 h8 => by
        have hpl : ps.length = l.length := by rw [← h6, List.length_map]
        have hb9 : Below w1.heap.size w1 (W.setCells g (I * 4) (encP (x, .slice ax x.items.length cx))) := below_setCellsB g _ h4 _ _ _ _ h3
        have hr9 := h5.put I (by omega) (x, .slice ax x.items.length cx)
        have hl9 := lies_of_row (d := 16) (c := cap) hr9 (fun p hp => by
          rcases List.mem_or_eq_of_mem_set hp with hp | rfl
          · exact (h7 p hp).keeps hb9
          · exact ⟨Lies.keeps hb9 _ _ _ (Lies.keeps h1 _ _ _ Hx16.out), hts⟩) (by rw [List.length_set]; omega) (by rw [List.length_set]; omega)
        rw [List.map_set, h6, List.length_set, hpl] at hl9
        rw [HR.out]
        refine ⟨h1.trans (hb9.mono h1.size), some ⟨g, 0, none⟩, cap, by rw [List.length_set], ?_⟩
        rw [List.length_set]
        exact hl9
      obtain ⟨L, hL⟩ : ∃ L, L = l.length := ⟨_, rfl⟩
      have HLL : Hid (L = l.length) := hL
      rw [← hL] at hI hlen HF ⊢
      have hIi : (I : Int) < (L : Nat) := by omega
      have hI0 : ¬ (I : Int) < 0 := by omega
      have hIn : ¬ ((L : Nat) : Int) ≤ (I : Int) := by omega
      clear hl hx hr hR hwA hts hs hL
      go_enter Try.func19, Try.ntmps19
      go_wp2_with fail
      refine Calls.mono HRt.out ?_
      rintro e w1 ⟨rfl, hg1⟩
      rw [← HwA.out] at hg1
      have hb1 : Below w.heap.size w w1 := hbA.trans (hg1.mono hbA.size)
      have HB1 : Hid (Bx w1 w.heap.size x (.slice ax x.items.length cx)) := HBx.out.keeps hg1
      have hs1 : w.heap.size < w1.heap.size := cell_lt HB1.out.1
      obtain ⟨ps, hp1, hp2, hsrc, hsd⟩ := src_of (Lies.keeps hb1 _ _ _ HL.out)
      rw [← HLL.out] at hsrc hp2
      have hne : ps ≠ [] := fun e => by rw [e] at hp2; simp at hp2; omega
      have HS : Hid (Src w1 a L 4 (ps.flatMap encP)) := hsrc
      have HQ : Hid (ps.map (·.1) = l ∧ ps.length = L ∧ ps ≠ [] ∧ ∀ p ∈ ps, Sound 16 w1 p) := ⟨hp1, hp2, hne, hsd⟩
      clear HRt x0 x1 x2 x3 HBx HwA hg1 hbA hsrc hp1 hp2 hne hsd
      have HC := Rs.nil w1
      go_wp2_with (at_builtin; refine Rs.append rfl _ _ rfl HC rfl rfl HS.out L (by omega) (by omega) ?_; clear HC; intro ay cy W HC; obtain ⟨g, cap, he, hg, hcap, hlt, hrow, hfz⟩ := own_row (ps := ps) (base := w1.heap.size) (w := W) (v := .slice ay L cy) (by rw [HQ.out.2.1]; exact HC.own) HQ.out.2.2.1; injection he with he1 he2 he3; clear he2; subst he1 he3; obtain ⟨x0, x1, x2, x3, _, _, _, _⟩ := HB1.out.keeps HC.below; have hIp : I < ps.length := by { rw [HQ.out.2.1]; exact hI }; obtain ⟨p0, p1, p2, p3⟩ := hrow I hIp; simp only [Nat.zero_add] at p0 p1 p2 p3; have f0 := hfz (I * 4); have f1 := hfz (I * 4 + 1); have f2 := hfz (I * 4 + 2); have f3 := hfz (I * 4 + 3); have HE : Hid _ := HF.out w1 W g cy ps hb1 (by omega) HC.below hg hrow HQ.out.1 HQ.out.2.2.2 hcap; clear HC hrow hfz hcap hlt; generalize ps[I]'hIp = pI at *; clear hIp)
      simp only [encP, World.setCells] at HE
      go_wp2_with fail
      go_ret2
      exact HE.out
    · rw [if_neg hs] at hR
      have HR : Hid (R = .inr 5) := hR
      have hex : i < 0 ∨ (¬ i < 0 ∧ ((l.length : Nat) : Int) ≤ i) := by omega
      obtain ⟨L, hL⟩ : ∃ L, L = l.length := ⟨_, rfl⟩
      rw [← hL] at hex ⊢
      clear hl hx hr hR hwA hts hs hlen hL
      rcases hex with h1 | ⟨h1, h2⟩
      all_goals
        go_enter Try.func19, Try.ntmps19
        go_wp2_with fail
        refine Calls.mono HRt.out ?_
        rintro e w1 ⟨rfl, hg1⟩
        rw [← HwA.out] at hg1
        have HE : Hid (LstPost R w (.returned (.tuple #[.slice none 0 0, .int .i64 5])) w1) := by
          show LstPost _ _ _ _
          rw [HR.out]
          exact ⟨hbA.trans (hg1.mono hbA.size), rfl⟩
        clear HRt x0 x1 x2 x3 HBx HwA hg1 hbA
        go_wp2_with fail
        go_ret2
        exact HE.out
  · rw [if_neg hr] at hR
    have hr' : rightV n x = false := by simpa using hr
    rw [hr'] at HRt
    have HR : Hid (R = .inr 3) := hR
    clear hl hx hr hr' hR hwA hts hlen
    go_enter Try.func19, Try.ntmps19
    go_wp2_with fail
    refine Calls.mono HRt.out ?_
    rintro e w1 ⟨rfl, hg1⟩
    rw [← HwA.out] at hg1
    have HE : Hid (LstPost R w (.returned (.tuple #[.slice none 0 0, .int .i64 3])) w1) := by
      show LstPost _ _ _ _
      rw [HR.out]
      exact ⟨hbA.trans (hg1.mono hbA.size), rfl⟩
    clear HRt x0 x1 x2 x3 HBx HwA hg1 hbA
    go_wp2_with fail
    go_ret2
    exact HE.out

end Go.Proofs.Ytplahohaahfjmaa

namespace Go.Proofs.Ytplahohaahfjmaa
open Go.RowKit

set_option maxRecDepth 100000 in
set_option maxHeartbeats 8000000 in
theorem speaks11_any (w : World) : Calls Try.prog 11 #[] w fun e w' => e = .returned (.bool true) ∧ Below w.heap.size w w' := by
  have hbA : Below w.heap.size w (w.alloc (.cells #[.int .i64 1, .int .i64 2, .int .i64 3] 2)) := ((Grew.refl w).alloc _).below
  have HI : Hid (Calls Try.prog 46 #[.slice (some ⟨w.heap.size, 0, none⟩) 3 3] (w.alloc (.cells #[.int .i64 1, .int .i64 2, .int .i64 3] 2)) fun e w' => ∃ g c, e = .returned (.slice (some ⟨g, 0, none⟩) 3 c) ∧ Lies 17 w' ([1, 2, 3].map numT) (.slice (some ⟨g, 0, none⟩) 3 c) ∧ Below w.heap.size w w') := by
    refine Calls.mono (nums_any [1, 2, 3] w.heap.size 3 _ (by simp) (by simp) (fun i hi => by
      match i, hi with
      | 0, _ => simp
      | 1, _ => simp
      | 2, _ => simp)) ?_
    rintro e w1 ⟨g, c, rfl, hl, hb⟩
    exact ⟨g, c, rfl, hl, hbA.trans (hb.mono hbA.size)⟩
  have HO : Hid (∀ V v, Lies 17 V ([1, 2, 3].map numT) v → Calls Try.prog 9 #[v] V fun e w' => ∃ b, e = .returned (.tuple #[.pointer (some ⟨b, 0, none⟩), .int .i64 0]) ∧ VC 16 w' ([1, 2, 3].map numT) (.pointer (some ⟨b, 0, none⟩)) ∧ Below V.heap.size V w') := fun V v hv => by
    have h9 := of_any _ v V hv
    rw [nums_of [1, 2, 3] (by simp)] at h9
    refine Calls.mono h9 ?_
    rintro e w1 ⟨hb, b, rfl, hvc⟩
    exact ⟨b, rfl, hvc, hb⟩
  have HS : Hid (∀ V b, VC 16 V ([1, 2, 3].map numT) (.pointer (some ⟨b, 0, none⟩)) → Calls Try.prog 18 #[.pointer (some ⟨b, 0, none⟩), .int .i64 1, .agg #[.int .i64 2, .int .i64 9, .string ⟨#[]⟩, .slice none 0 0]] V fun e w' => ∃ b', e = .returned (.tuple #[.pointer (some ⟨b', 0, none⟩), .int .i64 0]) ∧ VC 16 w' ([1, 9, 3].map numT) (.pointer (some ⟨b', 0, none⟩)) ∧ Below V.heap.size V w') := fun V b hv => by
    have h9 := vset_any ([1, 2, 3].map numT) _ 1 (numT 9) none 0 V hv (lies_nilD _ _) (by show 0 ≤ 9223372036854775807; omega) (by simp)
    have e : setR ([1, 2, 3].map numT) 1 (numT 9) = .inl ([1, 9, 3].map numT) := by
      unfold setR
      rw [if_pos (right_num 9), if_pos (by simp)]
      rfl
    rw [e] at h9
    refine Calls.mono h9 ?_
    rintro e w1 ⟨hb, b, rfl, hvc⟩
    exact ⟨b, rfl, hvc, hb⟩
  have HN : Hid (∀ V b (a c n : Int), VC 16 V ([a, n, c].map numT) (.pointer (some ⟨b, 0, none⟩)) → Calls Try.prog 13 #[.pointer (some ⟨b, 0, none⟩), .int .i64 1] V fun e w' => ∃ a5 c5, e = .returned (.tuple #[.agg #[.int .i64 2, .int .i64 n, .string ⟨#[]⟩, .slice a5 0 c5], .int .i64 0]) ∧ Below V.heap.size V w') := fun V b a c n hv => by
    refine Calls.mono (vnth_some _ _ 1 (numT n) V hv rfl (right_num n) (by simp)) ?_
    rintro e w1 ⟨hb, v, rfl, hL⟩
    obtain ⟨a2, c2, rfl, _⟩ := Lies.slice (LiesB.lies _ _ _ hL)
    exact ⟨a2, c2, rfl, hb⟩
  have HN3 : Hid (∀ V b, VC 16 V ([1, 2, 3].map numT) (.pointer (some ⟨b, 0, none⟩)) → Calls Try.prog 13 #[.pointer (some ⟨b, 0, none⟩), .int .i64 3] V fun e w' => e = .returned (.tuple #[.agg #[.int .i64 0, .int .i64 0, .string ⟨#[]⟩, .slice none 0 0], .int .i64 5]) ∧ Below V.heap.size V w') := fun V b hv => by
    refine Calls.mono (vnth_none _ _ 3 V hv (by simp)) ?_
    rintro e w1 ⟨hb, rfl⟩
    exact ⟨rfl, hb⟩
  have HL : Hid (∀ V b, VC 16 V ([1, 9, 3].map numT) (.pointer (some ⟨b, 0, none⟩)) → Calls Try.prog 24 #[.pointer (some ⟨b, 0, none⟩)] V (NumPost 3 V)) := fun V b hv => vlen_any 16 _ _ V hv
  clear hbA
  go_enter Try.func11, Try.ntmps11
  go_wp2_with fail
  refine Calls.mono HI.out ?_
  rintro e w1 ⟨g, c, rfl, hl1, hb1⟩
  have HO1 : Hid _ := HO.out w1 _ hl1
  clear HI HO hl1
  go_wp2_with fail
  refine Calls.mono HO1.out ?_
  rintro e w2 ⟨b, rfl, hv2, hg2⟩
  have hb2 : Below w.heap.size w w2 := hb1.trans (hg2.mono hb1.size)
  have HV2 : Hid (VC 16 w2 ([1, 2, 3].map numT) (.pointer (some ⟨b, 0, none⟩))) := hv2
  clear HO1 hv2 hg2
  go_wp2_with fail
  refine (int_any 9 _).mono ?_
  rintro e w3 ⟨rfl, hg3⟩
  have hb3 : Below w.heap.size w w3 := hb2.trans (hg3.below.mono hb2.size)
  have HV3 : Hid (VC 16 w3 ([1, 2, 3].map numT) (.pointer (some ⟨b, 0, none⟩))) := HV2.out.keeps hg3.below
  have HS3 : Hid _ := HS.out w3 b HV3.out
  clear HV2 hg3 HS
  go_wp2_with fail
  refine Calls.mono HS3.out ?_
  rintro e w4 ⟨b', rfl, hv4, hg4⟩
  have hb4 : Below w.heap.size w w4 := hb3.trans (hg4.mono hb3.size)
  have HV4 : Hid (VC 16 w4 ([1, 2, 3].map numT) (.pointer (some ⟨b, 0, none⟩))) := HV3.out.keeps hg4
  have HW4 : Hid (VC 16 w4 ([1, 9, 3].map numT) (.pointer (some ⟨b', 0, none⟩))) := hv4
  have HN4 : Hid _ := HN.out w4 b' 1 3 9 hv4
  clear HS3 hv4 hg4 HV3
  go_wp2_with fail
  refine Calls.mono HN4.out ?_
  rintro e w5 ⟨a5, c5, rfl, hg5⟩
  obtain ⟨V5, hV5⟩ : ∃ V5, V5 = w5.alloc (.cells #[.int .i64 2, .int .i64 9, .string ⟨#[]⟩, .slice a5 0 c5] 31) := ⟨_, rfl⟩
  have hbx : Below w5.heap.size w5 V5 := by rw [hV5]; exact ((Grew.refl w5).alloc _).below
  have hg5' : Below w4.heap.size w4 V5 := hg5.trans (hbx.mono hg5.size)
  have hb5 : Below w.heap.size w V5 := hb4.trans (hg5'.mono hb4.size)
  have HV5 : Hid (VC 16 V5 ([1, 2, 3].map numT) (.pointer (some ⟨b, 0, none⟩))) := HV4.out.keeps hg5'
  have HW5 : Hid (VC 16 V5 ([1, 9, 3].map numT) (.pointer (some ⟨b', 0, none⟩))) := HW4.out.keeps hg5'
  have HN5 : Hid (Calls Try.prog 13 #[.pointer (some ⟨b, 0, none⟩), .int .i64 1] V5 fun e w' => ∃ a6 c6, e = .returned (.tuple #[.agg #[.int .i64 2, .int .i64 2, .string ⟨#[]⟩, .slice a6 0 c6], .int .i64 0]) ∧ Below V5.heap.size V5 w') := HN.out _ b 1 3 2 HV5.out
  have k5 : V5.cell? ⟨w5.heap.size, 1, none⟩ = some (.int .i64 9) := by rw [hV5]; simp
  have HVe : Hid (V5 = w5.alloc (.cells #[.int .i64 2, .int .i64 9, .string ⟨#[]⟩, .slice a5 0 c5] 31)) := hV5
  rw [hV5] at HN5
  clear HN4 hg5 hbx hg5' HV4 HW4 HN hV5
  go_wp2_with fail
  refine Calls.mono HN5.out ?_
  rintro e w6 ⟨a6, c6, rfl, hg6⟩
  rw [← HVe.out] at hg6
  obtain ⟨V6, hV6⟩ : ∃ V6, V6 = w6.alloc (.cells #[.int .i64 2, .int .i64 2, .string ⟨#[]⟩, .slice a6 0 c6] 31) := ⟨_, rfl⟩
  have hbx : Below w6.heap.size w6 V6 := by rw [hV6]; exact ((Grew.refl w6).alloc _).below
  have hg6' : Below V5.heap.size V5 V6 := hg6.trans (hbx.mono hg6.size)
  have hb6 : Below w.heap.size w V6 := hb5.trans (hg6'.mono hb5.size)
  have HV6 : Hid (VC 16 V6 ([1, 2, 3].map numT) (.pointer (some ⟨b, 0, none⟩))) := HV5.out.keeps hg6'
  have HW6 : Hid (VC 16 V6 ([1, 9, 3].map numT) (.pointer (some ⟨b', 0, none⟩))) := HW5.out.keeps hg6'
  have HN6 : Hid (Calls Try.prog 13 #[.pointer (some ⟨b, 0, none⟩), .int .i64 3] V6 fun e w' => e = .returned (.tuple #[.agg #[.int .i64 0, .int .i64 0, .string ⟨#[]⟩, .slice none 0 0], .int .i64 5]) ∧ Below V6.heap.size V6 w') := HN3.out _ b HV6.out
  have k6 : V6.cell? ⟨w6.heap.size, 1, none⟩ = some (.int .i64 2) := by rw [hV6]; simp
  have k5 := cell_keeps hg6' k5
  have HVe6 : Hid (V6 = w6.alloc (.cells #[.int .i64 2, .int .i64 2, .string ⟨#[]⟩, .slice a6 0 c6] 31)) := hV6
  rw [hV6] at HN6
  clear HN5 hg6 hbx hg6' HV5 HW5 HN3 hV6
  go_wp2_with fail
  refine Calls.mono HN6.out ?_
  rintro e w7 ⟨rfl, hg7⟩
  rw [← HVe6.out] at hg7
  obtain ⟨V7, hV7⟩ : ∃ V7, V7 = w7.alloc (.cells #[.int .i64 0, .int .i64 0, .string ⟨#[]⟩, .slice none 0 0] 31) := ⟨_, rfl⟩
  have hbx : Below w7.heap.size w7 V7 := by rw [hV7]; exact ((Grew.refl w7).alloc _).below
  have hg7' : Below V6.heap.size V6 V7 := hg7.trans (hbx.mono hg7.size)
  have hb7 : Below w.heap.size w V7 := hb6.trans (hg7'.mono hb6.size)
  have HL7 : Hid (Calls Try.prog 24 #[.pointer (some ⟨b', 0, none⟩)] V7 (NumPost 3 V7)) := HL.out _ b' (HW6.out.keeps hg7')
  have k5 := cell_keeps hg7' k5
  have k6 := cell_keeps hg7' k6
  have HVe7 : Hid (V7 = w7.alloc (.cells #[.int .i64 0, .int .i64 0, .string ⟨#[]⟩, .slice none 0 0] 31)) := hV7
  rw [hV7] at HL7 k5 k6
  clear HN6 hg7 hbx hg7' HV6 HW6 HL hV7
  go_wp2_with fail
  refine Calls.mono HL7.out ?_
  rintro e w8 ⟨rfl, hg8⟩
  rw [← HVe7.out] at hg8
  have hb8 : Below w.heap.size w w8 := hb7.trans (hg8.mono hb7.size)
  go_wp2_with fail
  go_ret
  exact ⟨rfl, hb8⟩

end Go.Proofs.Ytplahohaahfjmaa

namespace Go.Proofs.Ytplahohaahfjmaa
open Go.RowKit

/-- A step: its kind, its place, its value. -/
abbrev StepP : Type := Int × Int × (VT × Value)

/-- The six cells of a step. -/
def SixAt (w : World) (b o : Nat) (s : StepP) : Prop :=
  w.cell? ⟨b, o, none⟩ = some (.int .i64 s.1) ∧ w.cell? ⟨b, o + 1, none⟩ = some (.int .i64 s.2.1) ∧ w.cell? ⟨b, o + 2, none⟩ = some (.int .i64 s.2.2.1.kind) ∧ w.cell? ⟨b, o + 3, none⟩ = some (.int .i64 s.2.2.1.num) ∧ w.cell? ⟨b, o + 4, none⟩ = some (.string s.2.2.1.text) ∧ w.cell? ⟨b, o + 5, none⟩ = some s.2.2.2

/-- A slice of steps. -/
def SlS (n : Nat) (w : World) (ss : List StepP) (v : Value) : Prop :=
  ∃ a c, v = .slice a ss.length c ∧ ss.length ≤ c ∧ ss.length ≤ 9223372036854775807 ∧ (ss ≠ [] → ∃ b o, a = some ⟨b, o, none⟩ ∧ ∀ (i : Nat) (h : i < ss.length), SixAt w b (o + i * 6) (ss[i]'h)) ∧ ∀ s ∈ ss, Sound n w s.2.2

/-- What a step holds, wherever it is looked at. -/
theorem SlS.at {n : Nat} {w : World} {ss : List StepP} {v : Value} (h : SlS n w ss v) : ∃ a c, v = .slice a ss.length c ∧ ss.length ≤ c ∧ ss.length ≤ 9223372036854775807 ∧ ∀ (j : Nat), j < ss.length → ∃ (b o : Nat) (k t : Int) (x : VT) (ax : Option Addr) (cx : Nat), a = some ⟨b, o, none⟩ ∧ ss[j]? = some (k, t, (x, .slice ax x.items.length cx)) ∧ Lies n w x.items (.slice ax x.items.length cx) ∧ x.text.size ≤ 9223372036854775807 ∧ ∀ W, Below w.heap.size w W → SixAt W b (o + j * 6) (k, t, (x, .slice ax x.items.length cx)) ∧ b < W.heap.size := by
  obtain ⟨a, c, hv, h1, h2, hr, hs⟩ := h
  refine ⟨a, c, hv, h1, h2, fun j hj => ?_⟩
  obtain ⟨b, o, ha, hcs⟩ := hr (fun e => by rw [e] at hj; cases hj)
  obtain ⟨⟨k, t, x, u⟩, hx⟩ : ∃ x, x = ss[j] := ⟨_, rfl⟩
  have hc := hcs j hj
  have hsd := hs _ (List.getElem_mem hj)
  rw [← hx] at hc hsd
  obtain ⟨ax, cx, hu, _⟩ := Lies.slice hsd.1
  simp only at hu
  subst hu
  refine ⟨b, o, k, t, x, ax, cx, ha, by rw [List.getElem?_eq_getElem hj, hx], hsd.1, hsd.2, fun W hW => ?_⟩
  obtain ⟨c0, c1, c2, c3, c4, c5⟩ := hc
  exact ⟨⟨cell_keeps hW c0, cell_keeps hW c1, cell_keeps hW c2, cell_keeps hW c3, cell_keeps hW c4, cell_keeps hW c5⟩, cell_lt (cell_keeps hW c0)⟩

/-- As high as it may be. -/
def HtOK (l : List VT) (n : Nat) : Prop := (l = [] ∧ n = 0) ∨ (l ≠ [] ∧ ∃ h, n = h + 1 ∧ (h = 0 ∨ 16 ^ h ≤ l.length))

theorem high_for (l : List VT) (w : World) (hl : l.length ≤ 65536) : Calls Try.prog 26 #[.int .i64 (l.length : Int)] w fun e w' => ∃ g : Nat, e = .returned (.int .i64 (g : Int)) ∧ (∀ n, HtOK l n → n ≤ g) ∧ w' = w := by
  cases l with
  | nil =>
    refine Calls.mono (high_zero w) ?_
    rintro e w' ⟨rfl, rfl⟩
    refine ⟨0, rfl, fun n hn => ?_, rfl⟩
    rcases hn with ⟨_, rfl⟩ | ⟨h, _⟩
    · exact Nat.le_refl _
    · exact absurd rfl h
  | cons x l =>
    refine Calls.mono (high_any (x :: l).length w (by simp) hl) ?_
    rintro e w' ⟨⟨j, rfl, _, hj⟩, rfl⟩
    refine ⟨j / 4 + 3, rfl, fun n hn => ?_, rfl⟩
    rcases hn with ⟨h, _⟩ | ⟨_, h, rfl, hh⟩
    · cases h
    · exact height_low _ h j hh hj

theorem height_for (l : List VT) (p : Value) (w : World) (h : VV w l p) : Calls Try.prog 25 #[p] w fun e w' => ∃ n : Nat, e = .returned (.int .i64 (n : Int)) ∧ HtOK l n ∧ Below w.heap.size w w' :=
  vheight_any 16 l p w h.vc (by have := h.len; omega)

end Go.Proofs.Ytplahohaahfjmaa

