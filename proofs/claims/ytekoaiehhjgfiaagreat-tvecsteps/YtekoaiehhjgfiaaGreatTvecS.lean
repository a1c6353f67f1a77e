/-
  Transients by their exact errors: what stays, and what is changed.
-/
import Derived.Test.YtekoaiehhjgfiaaGreatTvecQ
import Derived.Test.YtekoaiehhjgfiaaGreatPopT
import Derived.BigRegion
import Derived.Test.YtekoaiehhjgfiaaGreatUniq
import Derived.Test.YtekoaiehhjgfiaaGreatVals
import Derived.Test.YtekoaiehhjgfiaaGreatLevel
import Derived.Test.YtekoaiehhjgfiaaGreatList
import Derived.Test.YtekoaiehhjgfiaaGreatVList
import Derived.Test.YtekoaiehhjgfiaaGreatLiesX
import Derived.Deep.RegionHeld3
namespace Go.Proofs.YtekoaiehhjgfiaaGreat
open Go.RowKit

/-- What the document's Pop tells: a list without its last item, and that one; both lay there already in w0. -/
def RPopPost (l : List VT) (w0 w : World) (e : Ending) (w' : World) : Prop :=
  Below w.heap.size w w' ∧ ((l = [] ∧ e = .returned (.tuple #[.slice none 0 0, zeroAgg, .int .i64 6])) ∨
    ∃ m x a n v, l = m ++ [x] ∧ n = m.length ∧ e = .returned (.tuple #[.slice a n n, .agg #[.int .i64 x.kind, .int .i64 x.num, .string x.text, v], .int .i64 0]) ∧ Lies 17 w0 m (.slice a n n) ∧ Lies 16 w0 x.items v)

set_option maxRecDepth 100000 in
set_option maxHeartbeats 8000000 in
theorem rpop_any (l : List VT) (a : Option Addr) (c : Nat) (w0 w : World) (hl : Lies 17 w0 l (.slice a l.length c)) (hb0 : Below w0.heap.size w0 w) (hlen : l.length ≤ 65536) : Calls Tryz.prog 47 #[.slice a l.length c] w (RPopPost l w0 w) := by
  have hbz : Below w.heap.size w (w.alloc (.cells #[.int .i64 0, .int .i64 0, .string ⟨#[]⟩, .slice none 0 0] 34)) := ((Grew.refl w).alloc _).below
  rcases List.eq_nil_or_concat l with rfl | ⟨m, x, rfl⟩
  · have HP : Hid (RPopPost [] w0 w (.returned (.tuple #[.slice none 0 0, .agg #[.int .i64 0, .int .i64 0, .string ⟨#[]⟩, .slice none 0 0], .int .i64 6])) (w.alloc (.cells #[.int .i64 0, .int .i64 0, .string ⟨#[]⟩, .slice none 0 0] 34))) := ⟨hbz, .inl ⟨rfl, rfl⟩⟩
    clear hl hlen hbz hb0
    go_enter Tryz.func47, Tryz.ntmps47
    go_wp2_with fail
    refine bodyPost_ret (v := .tuple #[.slice none 0 0, .agg #[.int .i64 0, .int .i64 0, .string ⟨#[]⟩, .slice none 0 0], .int .i64 6]) ?_ rfl HP.out
    simp [results, Tryz.results47, go_sem]
  · rw [List.concat_eq_append] at *
    obtain ⟨g, o, rfl, hcap⟩ := Lies.some_at hl (by simp)
    obtain ⟨n, hn⟩ : ∃ n, n = m.length := ⟨_, rfl⟩
    obtain ⟨N, hN⟩ : ∃ N, N = n + 1 := ⟨_, rfl⟩
    have hlN : (m ++ [x]).length = N := by rw [List.length_append, hN, hn]; rfl
    have h9 : Lies 17 w0 m (.slice (some ⟨g, o, none⟩) n n) := by
      have h8 := Lies.taken hl n (by rw [hlN]; omega)
      rw [hn, List.take_left' rfl] at h8
      obtain ⟨a', c', e8, hc8, hr8⟩ := h8
      injection e8 with e1 e2 e3
      rw [← hn] at hc8
      refine ⟨_, n, by rw [hn], ⟨by rw [← hn]; exact Nat.le_refl _, by omega⟩, fun hne => ?_⟩
      obtain ⟨b, o', ha, hall⟩ := hr8 hne
      exact ⟨b, o', by rw [e1, ha], hall⟩
    obtain ⟨a', c', e7, hc7, hr7⟩ := hl
    obtain ⟨b', o', ha', hall⟩ := hr7 (by simp)
    injection e7 with e1 e2 e3
    rw [← e1] at ha'
    injection ha' with ha'
    injection ha' with hb' ho' _
    subst hb' ho'
    obtain ⟨u, c0, c1, c2, c3, hLx, hsx⟩ := hall n (by rw [hlN]; omega)
    have hgx : (m ++ [x])[n]'(by rw [hlN]; omega) = x := by simp [hn]
    rw [hgx] at c0 c1 c2 hLx hsx
    replace c0 := cell_keeps hb0 c0
    replace c1 := cell_keeps hb0 c1
    replace c2 := cell_keeps hb0 c2
    replace c3 := cell_keeps hb0 c3
    have hglt : g < w.heap.size := cell_lt c0
    obtain ⟨ux, cx, rfl, _⟩ := Lies.slice hLx
    rw [hlN] at hlen ⊢
    have HP : Hid (RPopPost (m ++ [x]) w0 w (.returned (.tuple #[.slice (some ⟨g, o, none⟩) n n, .agg #[.int .i64 x.kind, .int .i64 x.num, .string x.text, .slice ux x.items.length cx], .int .i64 0])) (w.alloc (.cells #[.int .i64 x.kind, .int .i64 x.num, .string x.text, .slice ux x.items.length cx] 34)).drew) := by
      have hb9 : Below w.heap.size w (w.alloc (.cells #[.int .i64 x.kind, .int .i64 x.num, .string x.text, .slice ux x.items.length cx] 34)).drew := ((Grew.refl w).alloc _).below.drew
      exact ⟨hb9, .inr ⟨m, x, _, n, _, rfl, hn, rfl, h9, hLx⟩⟩
    have hnb : ¬ (g = w.heap.size) := by omega
    have hnb2 : ¬ (w.heap.size = g) := by omega
    have hN0 : ¬ ((N : Nat) : Int) = 0 := by omega
    have hwn : IntKind.i64.wrap ((N : Nat) - 1 : Int) = (n : Int) := by rw [IntKind.wrap_i64]; omega
    have hnc : n ≤ c := by omega
    have hnci : (n : Int) ≤ (c : Nat) := by omega
    have hnNi : (n : Int) < (N : Nat) := by omega
    clear hLx h9 hn hN hlN hgx hsx hall hr7 e1 e2 e3 hc7 hbz hb0
    go_enter Tryz.func47, Tryz.ntmps47
    go_wp2_with fail
    go_region
    go_wp2_with fail
    refine bodyPost_ret (v := .tuple #[.slice (some ⟨g, o, none⟩) n n, .agg #[.int .i64 x.kind, .int .i64 x.num, .string x.text, .slice ux x.items.length cx], .int .i64 0]) ?_ rfl HP.out
    simp [results, Tryz.results47, go_sem]

set_option maxRecDepth 100000 in
set_option maxHeartbeats 8000000 in
/-- The document's Nth. -/
theorem rnth_any (l : List VT) (a : Option Addr) (c : Nat) (i : Int) (w0 w : World) (hl : Lies 17 w0 l (.slice a l.length c)) (hb0 : Below w0.heap.size w0 w) (hlen : l.length ≤ 65536) : Calls Tryz.prog 49 #[.slice a l.length c, .int .i64 i] w fun e w' => Below w.heap.size w w' ∧ (((0 ≤ i ∧ i < (l.length : Int)) ∧ ∃ x v, l[i.toNat]? = some x ∧ e = .returned (.tuple #[.agg #[.int .i64 x.kind, .int .i64 x.num, .string x.text, v], .int .i64 0]) ∧ Lies 16 w0 x.items v) ∨ (¬ (0 ≤ i ∧ i < (l.length : Int)) ∧ e = .returned (.tuple #[zeroAgg, .int .i64 5]))) := by
  have hbz : Below w.heap.size w (w.alloc (.cells #[.int .i64 0, .int .i64 0, .string ⟨#[]⟩, .slice none 0 0] 34)) := ((Grew.refl w).alloc _).below
  by_cases hs : 0 ≤ i ∧ i < (l.length : Int)
  · obtain ⟨I, rfl⟩ := Int.eq_ofNat_of_zero_le hs.1
    have hI : I < l.length := by have := hs.2; omega
    obtain ⟨g, o, rfl, hcap⟩ := Lies.some_at hl (by omega)
    obtain ⟨a', c', e7, hc7, hr7⟩ := hl
    obtain ⟨b', o', ha', hall⟩ := hr7 (fun e => by rw [e] at hI; simp at hI)
    injection e7 with e1 e2 e3
    rw [← e1] at ha'
    injection ha' with ha'
    injection ha' with hb' ho' _
    subst hb' ho'
    obtain ⟨u, c0, c1, c2, c3, hLx, hsx⟩ := hall I hI
    obtain ⟨x, hx⟩ : ∃ x, x = l[I] := ⟨_, rfl⟩
    have hxs : l[I]? = some x := by rw [List.getElem?_eq_getElem hI, hx]
    rw [← hx] at c0 c1 c2 hLx hsx
    replace c0 := cell_keeps hb0 c0
    replace c1 := cell_keeps hb0 c1
    replace c2 := cell_keeps hb0 c2
    replace c3 := cell_keeps hb0 c3
    have hglt : g < w.heap.size := cell_lt c0
    obtain ⟨ux, cx, rfl, _⟩ := Lies.slice hLx
    have HP : Hid (Below w.heap.size w (w.alloc (.cells #[.int .i64 x.kind, .int .i64 x.num, .string x.text, .slice ux x.items.length cx] 34)) ∧ (((0 ≤ (I : Int) ∧ (I : Int) < (l.length : Int)) ∧ ∃ x' v, l[(I : Int).toNat]? = some x' ∧ Ending.returned (.tuple #[.agg #[.int .i64 x.kind, .int .i64 x.num, .string x.text, .slice ux x.items.length cx], .int .i64 0]) = .returned (.tuple #[.agg #[.int .i64 x'.kind, .int .i64 x'.num, .string x'.text, v], .int .i64 0]) ∧ Lies 16 w0 x'.items v) ∨ (¬ (0 ≤ (I : Int) ∧ (I : Int) < (l.length : Int)) ∧ Ending.returned (.tuple #[.agg #[.int .i64 x.kind, .int .i64 x.num, .string x.text, .slice ux x.items.length cx], .int .i64 0]) = .returned (.tuple #[zeroAgg, .int .i64 5])))) := ⟨((Grew.refl w).alloc _).below, .inl ⟨hs, x, _, by rw [Int.toNat_natCast]; exact hxs, rfl, hLx⟩⟩
    obtain ⟨R, hR⟩ : ∃ R : Ending → World → Prop, R = fun e w' => Below w.heap.size w w' ∧ (((0 ≤ (I : Int) ∧ (I : Int) < (l.length : Int)) ∧ ∃ x v, l[(I : Int).toNat]? = some x ∧ e = .returned (.tuple #[.agg #[.int .i64 x.kind, .int .i64 x.num, .string x.text, v], .int .i64 0]) ∧ Lies 16 w0 x.items v) ∨ (¬ (0 ≤ (I : Int) ∧ (I : Int) < (l.length : Int)) ∧ e = .returned (.tuple #[zeroAgg, .int .i64 5]))) := ⟨_, rfl⟩
    have HE : Hid (R (.returned (.tuple #[.agg #[.int .i64 x.kind, .int .i64 x.num, .string x.text, .slice ux x.items.length cx], .int .i64 0])) (w.alloc (.cells #[.int .i64 x.kind, .int .i64 x.num, .string x.text, .slice ux x.items.length cx] 34))) := by
      show R _ _
      rw [hR]
      exact HP.out
    rw [← hR]
    obtain ⟨L, hL⟩ : ∃ L, L = l.length := ⟨_, rfl⟩
    rw [← hL] at hI hlen ⊢
    have hnb : ¬ (g = w.heap.size) := by omega
    have hIi : (I : Int) < (L : Nat) := by omega
    have hI0 : ¬ (I : Int) < 0 := by omega
    have hIn : ¬ ((L : Nat) : Int) ≤ (I : Int) := by omega
    clear hall hr7 e1 e2 e3 hc7 hbz hb0 hx hxs hLx hsx HP hR hs hL
    go_enter Tryz.func49, Tryz.ntmps49
    go_wp2_with fail
    refine bodyPost_ret (v := .tuple #[.agg #[.int .i64 x.kind, .int .i64 x.num, .string x.text, .slice ux x.items.length cx], .int .i64 0]) ?_ rfl HE.out
    simp [results, Tryz.results49, go_sem]
  · obtain ⟨R, hR⟩ : ∃ R : Ending → World → Prop, R = fun e w' => Below w.heap.size w w' ∧ (((0 ≤ i ∧ i < (l.length : Int)) ∧ ∃ x v, l[i.toNat]? = some x ∧ e = .returned (.tuple #[.agg #[.int .i64 x.kind, .int .i64 x.num, .string x.text, v], .int .i64 0]) ∧ Lies 16 w0 x.items v) ∨ (¬ (0 ≤ i ∧ i < (l.length : Int)) ∧ e = .returned (.tuple #[zeroAgg, .int .i64 5]))) := ⟨_, rfl⟩
    have HE : Hid (R (.returned (.tuple #[.agg #[.int .i64 0, .int .i64 0, .string ⟨#[]⟩, .slice none 0 0], .int .i64 5])) (w.alloc (.cells #[.int .i64 0, .int .i64 0, .string ⟨#[]⟩, .slice none 0 0] 34))) := by
      show R _ _
      rw [hR]
      exact ⟨hbz, .inr ⟨hs, rfl⟩⟩
    rw [← hR]
    have hex : i < 0 ∨ (¬ i < 0 ∧ ((l.length : Nat) : Int) ≤ i) := by omega
    obtain ⟨L, hL⟩ : ∃ L, L = l.length := ⟨_, rfl⟩
    rw [← hL] at hex ⊢
    clear hl hs hlen hL hbz hb0 hR
    rcases hex with h1 | ⟨h1, h2⟩
    all_goals
      go_enter Tryz.func49, Tryz.ntmps49
      go_wp2_with fail
      refine bodyPost_ret (v := .tuple #[.agg #[.int .i64 0, .int .i64 0, .string ⟨#[]⟩, .slice none 0 0], .int .i64 5]) ?_ rfl HE.out
      simp [results, Tryz.results49, go_sem]

end Go.Proofs.YtekoaiehhjgfiaaGreat

namespace Go.Proofs.YtekoaiehhjgfiaaGreat
open Go.RowKit

/-- A row of one's own that grows by whatever sources, seen from world w. -/
structure Rs (w W : World) (v : Value) (n : Nat) (xs : List Value) : Prop where
  below : Below w.heap.size w W
  own : W.ownsRow w.heap.size 34 4 v n xs

theorem Rs.append {w W : World} {ops : Array Oper} {rest : List Oper} {o : Oper} {act : Act} {Q : Exit → Act → World → Prop} (hgd : o.guard = none) (s x : Operand)
    (ho : o.op = .call { callee := .builtin .append, args := #[s, x], argTypes := #[22, 22] })
    {v : Value} {n : Nat} {xs : List Value} (hr : Rs w W v n xs) (hs : act.eval s = v) {aa : Option Addr} {m c : Nat} (hx : act.eval x = .slice aa m c) {news : List Value} (hsrc : Src w aa m 4 news) (k : Nat) (hk : n + m = k) (hm : k ≤ 200000)
    (h : ∀ a' c' W', Rs w W' (.slice a' k c') k (xs ++ news) → wpList Tryz.prog ops Q rest (act.put o.dst (.slice a' k c')) W') : wpList Tryz.prog ops Q (o :: rest) act W := by
  subst hk
  obtain ⟨i0, hi, hz0, hz1, hz2⟩ := info24
  refine wpList_append_row hgd s x ho w.heap.size i0 hi hz0 hz1 hz2 v n xs hs hr.own aa m c news hx hsrc.none hsrc.len (hsrc.cell hr.below) hsrc.one (by unfold maxLen; omega) (by omega) hr.below.size (fun v' w' h1 h2 => ?_)
  have hb : Below w.heap.size w w' := own_growM hr.below hr.below.size hr.own h2
  have hv : ∃ a' c', v' = .slice a' (n + m) c' := by
    rcases h1.2 with ⟨e1, e2⟩ | ⟨g, cap, _, e1, _⟩
    · exact ⟨none, 0, by rw [e1, e2]⟩
    · exact ⟨_, cap, e1⟩
  obtain ⟨a', c', rfl⟩ := hv
  exact h a' c' w' ⟨hb, h1⟩

theorem Rs.nil (w : World) : Rs w w (.slice none 0 0) 0 [] := ⟨Below.refl _ _, World.ownsRow_nil _ _ _ _⟩

set_option maxRecDepth 100000 in
set_option maxHeartbeats 8000000 in
theorem rset_any (n : Nat) (l : List VT) (a : Option Addr) (c : Nat) (i : Int) (x : VT) (ax : Option Addr) (cx : Nat) (w : World) (hl : Lies 17 w l (.slice a l.length c)) (hlen : l.length ≤ 65536) (hx : Lies n w x.items (.slice ax x.items.length cx)) (hts : x.text.size ≤ 9223372036854775807) :
    Calls Tryz.prog 44 #[.slice a l.length c, .int .i64 i, .agg #[.int .i64 x.kind, .int .i64 x.num, .string x.text, .slice ax x.items.length cx]] w (LstPost (setN n l i x) w) := by
  obtain ⟨wA, hwA⟩ : ∃ wA, wA = w.alloc (.cells #[.int .i64 x.kind, .int .i64 x.num, .string x.text, .slice ax x.items.length cx] 34) := ⟨_, rfl⟩
  have hbA : Below w.heap.size w wA := by rw [hwA]; exact ((Grew.refl w).alloc _).below
  have HRt : Hid _ := right_any n x (.slice ax x.items.length cx) wA (Lies.keeps hbA _ _ _ hx)
  have HBx : Hid (Bx wA w.heap.size x (.slice ax x.items.length cx)) := by rw [hwA]; exact bx_alloc w x _
  obtain ⟨x0, x1, x2, x3, _, _, _, _⟩ := HBx.out
  have HwA : Hid (wA = w.alloc (.cells #[.int .i64 x.kind, .int .i64 x.num, .string x.text, .slice ax x.items.length cx] 34)) := hwA
  obtain ⟨R, hR⟩ : ∃ R, R = setN n l i x := ⟨_, rfl⟩
  rw [← hR]
  unfold setN at hR
  rw [hwA] at HRt x0 x1 x2 x3
  by_cases hr : rightV n x = true
  · rw [if_pos hr] at hR
    rw [hr] at HRt
    by_cases hs : 0 ≤ i ∧ i < (l.length : Int)
    · rw [if_pos hs] at hR
      obtain ⟨I, rfl⟩ := Int.eq_ofNat_of_zero_le hs.1
      have hI : I < l.length := by have := hs.2; omega
      rw [Int.toNat_natCast] at hR
      have HR : Hid (R = .inl (l.set I x)) := hR
      have Hx16 : Hid (Lies 16 w x.items (.slice ax x.items.length cx)) := (canon hx hr).1
      have HL : Hid (Lies 17 w l (.slice a l.length c)) := hl
      have HF : Hid (∀ (w1 W : World) (g cap : Nat) (ps : List PR), Below w.heap.size w w1 → w.heap.size < g → Below w1.heap.size w1 W → w1.heap.size ≤ g → RowAt W g 0 ps → ps.map (·.1) = l → (∀ p ∈ ps, Sound 16 w1 p) → ps.length ≤ cap → LstPost R w (.returned (.tuple #[.slice (some ⟨g, 0, none⟩) l.length cap, .int .i64 0])) (W.setCells g (I * 4) (encP (x, .slice ax x.items.length cx)))) := fun w1 W g cap ps h1 h2 h3 h4 h5 h6 h7 h8 => by
        have hpl : ps.length = l.length := by rw [← h6, List.length_map]
        have hb9 : Below w1.heap.size w1 (W.setCells g (I * 4) (encP (x, .slice ax x.items.length cx))) := below_setCellsB g _ h4 _ _ _ _ h3
        have hr9 := h5.put I (by omega) (x, .slice ax x.items.length cx)
        have hl9 := lies_of_row (d := 16) (c := cap) hr9 (fun p hp => by
          rcases List.mem_or_eq_of_mem_set hp with hp | rfl
          · exact (h7 p hp).keeps hb9
          · exact ⟨Lies.keeps hb9 _ _ _ (Lies.keeps h1 _ _ _ Hx16.out), hts⟩) (by rw [List.length_set]; omega) (by rw [List.length_set]; omega)
        rw [List.map_set, h6, List.length_set, hpl] at hl9
        rw [HR.out]
        refine ⟨h1.trans (hb9.mono h1.size), some ⟨g, 0, none⟩, cap, by rw [List.length_set], ?_⟩
        rw [List.length_set]
        exact hl9
      obtain ⟨L, hL⟩ : ∃ L, L = l.length := ⟨_, rfl⟩
      have HLL : Hid (L = l.length) := hL
      rw [← hL] at hI hlen HF ⊢
      have hIi : (I : Int) < (L : Nat) := by omega
      have hI0 : ¬ (I : Int) < 0 := by omega
      have hIn : ¬ ((L : Nat) : Int) ≤ (I : Int) := by omega
      clear hl hx hr hR hwA hts hs hL
      go_enter Tryz.func44, Tryz.ntmps44
      go_wp2_with fail
      refine Calls.mono HRt.out ?_
      rintro e w1 ⟨rfl, hg1⟩
      rw [← HwA.out] at hg1
      have hb1 : Below w.heap.size w w1 := hbA.trans (hg1.mono hbA.size)
      have HB1 : Hid (Bx w1 w.heap.size x (.slice ax x.items.length cx)) := HBx.out.keeps hg1
      have hs1 : w.heap.size < w1.heap.size := cell_lt HB1.out.1
      obtain ⟨ps, hp1, hp2, hsrc, hsd⟩ := src_of (Lies.keeps hb1 _ _ _ HL.out)
      rw [← HLL.out] at hsrc hp2
      have hne : ps ≠ [] := fun e => by rw [e] at hp2; simp at hp2; omega
      have HS : Hid (Src w1 a L 4 (ps.flatMap encP)) := hsrc
      have HQ : Hid (ps.map (·.1) = l ∧ ps.length = L ∧ ps ≠ [] ∧ ∀ p ∈ ps, Sound 16 w1 p) := ⟨hp1, hp2, hne, hsd⟩
      clear HRt x0 x1 x2 x3 HBx HwA hg1 hbA hsrc hp1 hp2 hne hsd
      have HC := Rs.nil w1
      go_wp2_with (at_builtin; refine Rs.append rfl _ _ rfl HC rfl rfl HS.out L (by omega) (by omega) ?_; clear HC; intro ay cy W HC; obtain ⟨g, cap, he, hg, hcap, hlt, hrow, hfz⟩ := own_row (ps := ps) (base := w1.heap.size) (w := W) (v := .slice ay L cy) (by rw [HQ.out.2.1]; exact HC.own) HQ.out.2.2.1; injection he with he1 he2 he3; clear he2; subst he1 he3; obtain ⟨x0, x1, x2, x3, _, _, _, _⟩ := HB1.out.keeps HC.below; have hIp : I < ps.length := by { rw [HQ.out.2.1]; exact hI }; obtain ⟨p0, p1, p2, p3⟩ := hrow I hIp; simp only [Nat.zero_add] at p0 p1 p2 p3; have f0 := hfz (I * 4); have f1 := hfz (I * 4 + 1); have f2 := hfz (I * 4 + 2); have f3 := hfz (I * 4 + 3); have HE : Hid _ := HF.out w1 W g cy ps hb1 (by omega) HC.below hg hrow HQ.out.1 HQ.out.2.2.2 hcap; clear HC hrow hfz hcap hlt; generalize ps[I]'hIp = pI at *; clear hIp)
      simp only [encP, World.setCells] at HE
      go_wp2_with fail
      go_ret2
      exact HE.out
    · rw [if_neg hs] at hR
      have HR : Hid (R = .inr 5) := hR
      have hex : i < 0 ∨ (¬ i < 0 ∧ ((l.length : Nat) : Int) ≤ i) := by omega
      obtain ⟨L, hL⟩ : ∃ L, L = l.length := ⟨_, rfl⟩
      rw [← hL] at hex ⊢
      clear hl hx hr hR hwA hts hs hlen hL
      rcases hex with h1 | ⟨h1, h2⟩
      all_goals
        go_enter Tryz.func44, Tryz.ntmps44
        go_wp2_with fail
        refine Calls.mono HRt.out ?_
        rintro e w1 ⟨rfl, hg1⟩
        rw [← HwA.out] at hg1
        have HE : Hid (LstPost R w (.returned (.tuple #[.slice none 0 0, .int .i64 5])) w1) := by
          show LstPost _ _ _ _
          rw [HR.out]
          exact ⟨hbA.trans (hg1.mono hbA.size), rfl⟩
        clear HRt x0 x1 x2 x3 HBx HwA hg1 hbA
        go_wp2_with fail
        go_ret2
        exact HE.out
  · rw [if_neg hr] at hR
    have hr' : rightV n x = false := by simpa using hr
    rw [hr'] at HRt
    have HR : Hid (R = .inr 3) := hR
    clear hl hx hr hr' hR hwA hts hlen
    go_enter Tryz.func44, Tryz.ntmps44
    go_wp2_with fail
    refine Calls.mono HRt.out ?_
    rintro e w1 ⟨rfl, hg1⟩
    rw [← HwA.out] at hg1
    have HE : Hid (LstPost R w (.returned (.tuple #[.slice none 0 0, .int .i64 3])) w1) := by
      show LstPost _ _ _ _
      rw [HR.out]
      exact ⟨hbA.trans (hg1.mono hbA.size), rfl⟩
    clear HRt x0 x1 x2 x3 HBx HwA hg1 hbA
    go_wp2_with fail
    go_ret2
    exact HE.out

end Go.Proofs.YtekoaiehhjgfiaaGreat

namespace Go.Proofs.YtekoaiehhjgfiaaGreat
open Go.RowKit

/-- A vector and a list of the same items, or an error. -/
def Pair11 (w : World) (p : Value) (k : Nat) (u : Value) : Prop :=
  (k = 0 ∧ ∃ (l : List VT) (b : Nat) (a : Option Addr) (n c : Nat), n = l.length ∧ p = .pointer (some ⟨b, 0, none⟩) ∧ u = .slice a n c ∧ VV w l p ∧ Lies 17 w l u) ∨ (k ≠ 0 ∧ p = .pointer none ∧ u = .slice none 0 0)

theorem Pair11.keeps {w w' : World} {p : Value} {k : Nat} {u : Value} (h : Pair11 w p k u) (hb : Below w.heap.size w w') : Pair11 w' p k u := by
  rcases h with ⟨rfl, l, b, a, n, c, hn, rfl, rfl, hv, hl⟩ | h
  · exact .inl ⟨rfl, l, b, a, n, c, hn, rfl, rfl, hv.keeps hb, Lies.keeps hb _ _ _ hl⟩
  · exact .inr h

theorem pushN_err (n : Nat) (l : List VT) (x : VT) : ∀ k, pushN n l x = .inr k → k ≠ 0 := fun k h => by
  unfold pushN at h
  split at h
  · split at h
    · cases h
    · injection h with h; omega
  · injection h with h; omega

theorem setN_err (n : Nat) (l : List VT) (i : Int) (x : VT) : ∀ k, setN n l i x = .inr k → k ≠ 0 := fun k h => by
  unfold setN at h
  split at h
  · split at h
    · cases h
    · injection h with h; omega
  · injection h with h; omega

theorem vpush_vv (n : Nat) (l : List VT) (p : Value) (x : VT) (ax : Option Addr) (cx : Nat) (w : World) (h : VV w l p) (hx : Lies n w x.items (.slice ax x.items.length cx)) (hts : x.text.size ≤ 9223372036854775807) :
    Calls Tryz.prog 96 #[p, .agg #[.int .i64 x.kind, .int .i64 x.num, .string x.text, .slice ax x.items.length cx]] w (VvPost (pushN n l x) w) :=
  Calls.mono (push_n n l p x ax cx w h.vc hx hts h.len) (fun _ _ hp => VecPost.vv hp (fun _ hm => push_right hx h.right hm))

theorem set_right {n : Nat} {l m : List VT} {i : Int} {x : VT} {w : World} {u : Value} (hx : Lies n w x.items u) (hlen : l.length ≤ 65536) (hr : l.all (rightV 16) = true) (h : setN n l i x = .inl m) : m.length ≤ 65536 ∧ m.all (rightV 16) = true := by
  unfold setN at h
  by_cases h1 : rightV n x = true
  · rw [if_pos h1] at h
    by_cases h2 : 0 ≤ i ∧ i < (l.length : Int)
    · rw [if_pos h2] at h
      injection h with h
      subst h
      refine ⟨by rw [List.length_set]; exact hlen, List.all_eq_true.2 fun y hy => ?_⟩
      rcases List.mem_or_eq_of_mem_set hy with hy | rfl
      · exact List.all_eq_true.1 hr y hy
      · exact (canon hx h1).2
    · rw [if_neg h2] at h; cases h
  · rw [if_neg h1] at h; cases h

theorem vset_vv (n : Nat) (l : List VT) (p : Value) (i : Int) (x : VT) (ax : Option Addr) (cx : Nat) (w : World) (h : VV w l p) (hx : Lies n w x.items (.slice ax x.items.length cx)) (hts : x.text.size ≤ 9223372036854775807) :
    Calls Tryz.prog 97 #[p, .int .i64 i, .agg #[.int .i64 x.kind, .int .i64 x.num, .string x.text, .slice ax x.items.length cx]] w (VvPost (setN n l i x) w) :=
  Calls.mono (vset_n n l p i x ax cx w h.vc hx hts (by have := h.len; omega)) (fun _ _ hp => VecPost.vv hp (fun _ hm => set_right hx h.len h.right hm))

end Go.Proofs.YtekoaiehhjgfiaaGreat

namespace Go.Proofs.YtekoaiehhjgfiaaGreat
open Go.RowKit

theorem of_vv11 (n : Nat) (l : List VT) (u : Value) (w : World) (hl : Lies (n + 1) w l u) : Calls Tryz.prog 7 #[u] w fun e w' => Below w.heap.size w w' ∧ ((∃ b, e = .returned (.tuple #[.pointer (some ⟨b, 0, none⟩), .int .i64 0]) ∧ VV w' l (.pointer (some ⟨b, 0, none⟩)) ∧ Lies 17 w' l u) ∨ (∃ k : Nat, e = .returned (.tuple #[.pointer none, .int .i64 (k : Int)]) ∧ (k = 2 ∨ k = 3))) := by
  refine Calls.mono (of_n n l _ w hl) ?_
  rintro e w' ⟨hb, hp⟩
  refine ⟨hb, ?_⟩
  unfold ofN at hp
  by_cases h1 : 65536 < l.length
  · rw [if_pos h1] at hp
    exact .inr ⟨2, hp, .inl rfl⟩
  · rw [if_neg h1] at hp
    by_cases h2 : l.all (rightV n) = true
    · rw [if_pos h2] at hp
      obtain ⟨b, rfl, hv⟩ := hp
      exact .inl ⟨b, rfl, ⟨hv, by omega, (canonL hl h2).2⟩, Lies.keeps hb _ _ _ (canonL hl h2).1⟩
    · rw [if_neg h2] at hp
      exact .inr ⟨3, hp, .inr rfl⟩

/-- A step in a block of its own. -/
structure Sx (W : World) (n : Nat) (k t : Int) (x : VT) (u : Value) : Prop where
  c0 : W.cell? ⟨n, 0, none⟩ = some (.int .i64 k)
  c1 : W.cell? ⟨n, 1, none⟩ = some (.int .i64 t)
  c2 : W.cell? ⟨n, 2, none⟩ = some (.int .i64 x.kind)
  c3 : W.cell? ⟨n, 3, none⟩ = some (.int .i64 x.num)
  c4 : W.cell? ⟨n, 4, none⟩ = some (.string x.text)
  c5 : W.cell? ⟨n, 5, none⟩ = some u

theorem Sx.keeps {W W' : World} {n : Nat} {k t : Int} {x : VT} {u : Value} (h : Sx W n k t x u) (hb : Below W.heap.size W W') : Sx W' n k t x u :=
  ⟨cell_keeps hb h.c0, cell_keeps hb h.c1, cell_keeps hb h.c2, cell_keeps hb h.c3, cell_keeps hb h.c4, cell_keeps hb h.c5⟩

theorem sx_alloc (W : World) (k t : Int) (x : VT) (u : Value) (T : Nat) : Sx (W.alloc (.cells #[.int .i64 k, .int .i64 t, .int .i64 x.kind, .int .i64 x.num, .string x.text, u] T)) W.heap.size k t x u := by
  refine ⟨?_, ?_, ?_, ?_, ?_, ?_⟩ <;> simp

theorem zero_liesB (B : Nat) (w : World) : LiesB B 16 w zeroT.items (.slice none 0 0) := ⟨none, 0, rfl, by simp, fun h => absurd rfl h⟩

end Go.Proofs.YtekoaiehhjgfiaaGreat

namespace Go.Proofs.YtekoaiehhjgfiaaGreat
open Go.RowKit

set_option maxRecDepth 100000 in
set_option maxHeartbeats 8000000 in
theorem tset_any (n : Nat) (l : List VT) (b h v : Nat) (i : Int) (x : VT) (ax : Option Addr) (cx : Nat) (N0 : Nat) (w : World) (t : TV w l b h v) (hN : N0 ≤ h) (hN2 : N0 ≤ w.heap.size) (hx : Lies n w x.items (.slice ax x.items.length cx)) (hts : x.text.size ≤ 9223372036854775807) :
    Calls Tryz.prog 41 #[.pointer (some ⟨b, 0, none⟩), .int .i64 i, .agg #[.int .i64 x.kind, .int .i64 x.num, .string x.text, .slice ax x.items.length cx]] w (MvPost N0 l (l.set i.toNat x) (rightV n x = true ∧ (0 ≤ i ∧ i < (l.length : Int))) b h v w) := by
  obtain ⟨wA, hwA⟩ : ∃ wA, wA = w.alloc (.cells #[.int .i64 x.kind, .int .i64 x.num, .string x.text, .slice ax x.items.length cx] 34) := ⟨_, rfl⟩
  have hbz : Below w.heap.size w wA := by rw [hwA]; exact ((Grew.refl w).alloc _).below
  have tA := t.keeps hbz
  have HO : Hid _ := open_any l b h v wA tA
  have HBx : Hid (Bx wA w.heap.size x (.slice ax x.items.length cx)) := by rw [hwA]; exact bx_alloc w x _
  have HP : Hid (Calls Tryz.prog 97 #[.pointer (some ⟨v, 0, none⟩), .int .i64 i, .agg #[.int .i64 x.kind, .int .i64 x.num, .string x.text, .slice ax x.items.length cx]] wA.drew fun e w1 => ∃ (o : Option Addr) (k : Nat), e = .returned (.tuple #[.pointer o, .int .i64 (k : Int)]) ∧ Calls Tryz.prog 95 #[.pointer (some ⟨h, 0, none⟩), .pointer o, .int .i64 (k : Int)] w1 (MvPost N0 l (l.set i.toNat x) (rightV n x = true ∧ (0 ≤ i ∧ i < (l.length : Int))) b h v w)) := by
    have hd : Below w.heap.size w wA.drew := hbz.drew
    have tD := t.keeps hd
    refine Calls.mono (vset_n n l _ i x ax cx wA.drew tD.vv.vc (Lies.keeps hd _ _ _ hx) hts (by have := t.vv.len; omega)) ?_
    rintro e w1 ⟨hg1, hp1⟩
    have hb1 : Below w.heap.size w w1 := hd.trans (hg1.mono hd.size)
    by_cases hr : rightV n x = true
    · by_cases hs : 0 ≤ i ∧ i < (l.length : Int)
      · have e9 : setN n l i x = .inl (l.set i.toNat x) := by unfold setN; rw [if_pos hr, if_pos hs]
        rw [e9] at hp1
        obtain ⟨v2, rfl, hv2⟩ := hp1
        have hvv : VV w1 (l.set i.toNat x) (.pointer (some ⟨v2, 0, none⟩)) := ⟨hv2, by rw [List.length_set]; exact t.vv.len, List.all_eq_true.2 fun y hy => (List.mem_or_eq_of_mem_set hy).elim (fun h => List.all_eq_true.1 t.vv.right y h) (fun h => by rw [h]; exact (canon hx hr).2)⟩
        obtain ⟨k1, k2, k3⟩ := t.moved hN hN2 hb1 hvv
        refine ⟨_, 0, rfl, Calls.mono (become_ok h _ _ w1 (t.keeps hb1).bx) ?_⟩
        rintro e w2 ⟨rfl, rfl⟩
        exact ⟨0, rfl, k1, k2, .inl ⟨rfl, ⟨hr, hs⟩, v2, k3⟩⟩
      · have e9 : setN n l i x = .inr 5 := by unfold setN; rw [if_pos hr, if_neg hs]
        rw [e9] at hp1
        subst hp1
        refine ⟨_, 5, rfl, Calls.mono (become_not h _ 5 (by omega) w1) ?_⟩
        rintro e w2 ⟨rfl, rfl⟩
        exact ⟨5, rfl, hb1.mono hN2, KeepsNP.below hb1, .inr ⟨by omega, fun h => hs h.2, t.keeps hb1⟩⟩
    · have e9 : setN n l i x = .inr 3 := by unfold setN; rw [if_neg hr]
      rw [e9] at hp1
      subst hp1
      refine ⟨_, 3, rfl, Calls.mono (become_not h _ 3 (by omega) w1) ?_⟩
      rintro e w2 ⟨rfl, rfl⟩
      exact ⟨3, rfl, hb1.mono hN2, KeepsNP.below hb1, .inr ⟨by omega, fun h => hr h.1, t.keeps hb1⟩⟩
  obtain ⟨x0, x1, x2, x3, _, _, _, _⟩ := HBx.out
  have h1 := tA.bx.cell
  obtain ⟨Q, hQ⟩ : ∃ Q, Q = MvPost N0 l (l.set i.toNat x) (rightV n x = true ∧ (0 ≤ i ∧ i < (l.length : Int))) b h v w := ⟨_, rfl⟩
  have HQ : Hid (∀ e w', Q e w' → ∃ k : Nat, e = .returned (.int .i64 (k : Int))) := fun e w' hq => by
    rw [hQ] at hq
    obtain ⟨k, he, _⟩ := hq
    exact ⟨k, he⟩
  rw [← hQ] at HP ⊢
  subst hwA
  clear t hN hN2 hx hts tA hQ HBx
  go_enter Tryz.func41, Tryz.ntmps41
  go_wp2_with fail
  refine Calls.mono HO.out ?_
  rintro e w1 ⟨rfl, rfl⟩
  clear HO
  go_wp2_with fail
  go_region_with (first
      | (go_at_call 95; refine Calls.mono HB9.out ?_; intro e w3 hq3; obtain ⟨k3, hk3⟩ := HQ.out e w3 hq3; subst hk3; have HE : Hid _ := hq3; clear hq3)
      | (go_at_call 97; refine Calls.mono HP.out ?_; rintro e w2 ⟨o2, k2, rfl, hbec⟩; have HB9 : Hid _ := hbec; clear hbec))
  all_goals (first | (go_ret; exact HE.out) | (go_wp2_with fail; go_ret; exact HE.out))

set_option maxRecDepth 100000 in
set_option maxHeartbeats 4000000 in
theorem tseal_any (l : List VT) (b h v : Nat) (N0 : Nat) (w : World) (t : TV w l b h v) (hN : N0 ≤ h) : Calls Tryz.prog 11 #[.pointer (some ⟨b, 0, none⟩)] w fun e w' => e = .returned (.tuple #[.pointer (some ⟨v, 0, none⟩), .int .i64 0]) ∧ Below N0 w w' ∧ KeepsNP w w' ∧ VV w' l (.pointer (some ⟨v, 0, none⟩)) ∧ TS w' b h := by
  have HO : Hid _ := open_any l b h v w t
  have hk := KeepsNP.set (y := .pointer none) t.bx
  have HE : Hid (Below N0 w (w.setCell ⟨h, 0, none⟩ (.pointer none)) ∧ KeepsNP w (w.setCell ⟨h, 0, none⟩ (.pointer none)) ∧ VV (w.setCell ⟨h, 0, none⟩ (.pointer none)) l (.pointer (some ⟨v, 0, none⟩)) ∧ TS (w.setCell ⟨h, 0, none⟩ (.pointer none)) b h) := ⟨(Below.refl _ _).setCell (p := ⟨h, 0, none⟩) hN _, hk, t.vv.np hk, ⟨(grownBy_setCell' w h _).cell t.c0 (fun e => t.ne (by injection e)), t.bx.set _⟩⟩
  have h1 := t.bx.cell
  have h2 := t.bx.frozen
  clear t hk hN
  go_enter Tryz.func11, Tryz.ntmps11
  go_wp2_with fail
  refine Calls.mono HO.out ?_
  rintro e w1 ⟨rfl, rfl⟩
  clear HO
  go_wp2_with fail
  go_ret2
  exact ⟨rfl, HE.out⟩

set_option maxRecDepth 100000 in
set_option maxHeartbeats 4000000 in
theorem tlen_any (l : List VT) (b h v : Nat) (w : World) (t : TV w l b h v) : Calls Tryz.prog 50 #[.pointer (some ⟨b, 0, none⟩)] w fun e w' => e = .returned (.tuple #[.int .i64 (l.length : Int), .int .i64 0]) ∧ Below w.heap.size w w' := by
  have HO : Hid _ := open_any l b h v w t
  have HL : Hid _ := vlen_any 16 l _ w t.vv.vc
  have h1 := t.bx.cell
  clear t
  go_enter Tryz.func50, Tryz.ntmps50
  go_wp2_with fail
  refine Calls.mono HO.out ?_
  rintro e w1 ⟨rfl, rfl⟩
  clear HO
  go_wp2_with fail
  refine Calls.mono HL.out ?_
  rintro e w2 ⟨rfl, hb2⟩
  clear HL
  go_wp2_with fail
  go_ret2
  exact ⟨rfl, hb2⟩

set_option maxRecDepth 100000 in
theorem newT_any (w : World) : Calls Tryz.prog 43 #[] w fun e w' => e = .returned (.pointer (some ⟨w.heap.size, 0, none⟩)) ∧ VV w' [] (.pointer (some ⟨w.heap.size, 0, none⟩)) ∧ Below w.heap.size w w' := by
  have HE : Hid (VV (w.alloc (.cells #[.nilIface] 80)) [] (.pointer (some ⟨w.heap.size, 0, none⟩)) ∧ Below w.heap.size w (w.alloc (.cells #[.nilIface] 80))) := ⟨⟨VC.made (.inl ⟨rfl, rfl⟩) _, by simp, rfl⟩, ((Grew.refl w).alloc _).below⟩
  go_enter Tryz.func43, Tryz.ntmps43
  go_wp2_with fail
  go_ret
  exact ⟨rfl, HE.out.1, HE.out.2⟩

set_option maxRecDepth 100000 in
set_option maxHeartbeats 4000000 in
theorem or_first (B : Nat) (p : Addr) (q : Option Addr) (w : World) (h0 : w.cell? ⟨B, 0, none⟩ = some (.pointer (some p))) (h1 : w.cell? ⟨B, 1, none⟩ = some (.pointer q)) : Calls Tryz.prog 42 #[.slice (some ⟨B, 0, none⟩) 2 2] w fun e w' => e = .returned (.pointer (some p)) ∧ w' = w := by
  go_enter Tryz.func42, Tryz.ntmps42
  go_wp2_with fail
  go_loopg [8] 2 (fun g i wr => i = .int .i64 0 ∧ g = 2 ∧ wr = w)
  case atStart => exact ⟨rfl, rfl, rfl⟩
  case round =>
    obtain ⟨rfl, hg, rfl⟩ := hrel
    go_wp2_with fail
    go_ret
    exact ⟨rfl, rfl⟩

set_option maxRecDepth 100000 in
set_option maxHeartbeats 4000000 in
theorem or_second (B : Nat) (q : Addr) (w : World) (h0 : w.cell? ⟨B, 0, none⟩ = some (.pointer none)) (h1 : w.cell? ⟨B, 1, none⟩ = some (.pointer (some q))) : Calls Tryz.prog 42 #[.slice (some ⟨B, 0, none⟩) 2 2] w fun e w' => e = .returned (.pointer (some q)) ∧ w' = w := by
  go_enter Tryz.func42, Tryz.ntmps42
  go_wp2_with fail
  go_loopg [8] 2 (fun g i wr => ((i = .int .i64 0 ∧ g = 2) ∨ (i = .int .i64 1 ∧ g = 1)) ∧ wr = w)
  case atStart => exact ⟨.inl ⟨rfl, rfl⟩, rfl⟩
  case round =>
    obtain ⟨hrel, rfl⟩ := hrel
    rcases hrel with ⟨rfl, hg⟩ | ⟨rfl, hg⟩
    · have Hg : Hid _ := hg
      clear hg
      go_wp2_with fail
      go_roundg 1
      case measure => have := Hg.out; omega
      case rel => exact ⟨.inr ⟨rfl, rfl⟩, rfl⟩
    · clear hg
      go_wp2_with fail
      go_ret
      exact ⟨rfl, rfl⟩

/-- What Begin tells. -/
def BegPost (l : List VT) (w : World) (e : Ending) (w' : World) : Prop := ∃ b h v, e = .returned (.pointer (some ⟨b, 0, none⟩)) ∧ TV w' l b h v ∧ Below w.heap.size w w' ∧ w.heap.size ≤ h ∧ w.heap.size ≤ b

set_option maxRecDepth 100000 in
set_option maxHeartbeats 4000000 in
theorem begin_any (l : List VT) (p : Value) (w : World) (hv : VV w l p) : Calls Tryz.prog 9 #[p] w (BegPost l w) := by
  have HFin : Hid (∀ (V : World) (v : Nat), Below w.heap.size w V → VV V l (.pointer (some ⟨v, 0, none⟩)) → BegPost l w (.returned (.pointer (some ⟨V.heap.size + 1, 0, none⟩))) ((V.alloc (.cells #[.pointer (some ⟨v, 0, none⟩)] 89)).alloc (.cells #[.pointer (some ⟨V.heap.size, 0, none⟩)] 91))) := fun V v hV hv => by
    have hb : Below V.heap.size V ((V.alloc (.cells #[.pointer (some ⟨v, 0, none⟩)] 89)).alloc (.cells #[.pointer (some ⟨V.heap.size, 0, none⟩)] 91)) := (((Grew.refl V).alloc _).alloc _).below
    refine ⟨V.heap.size + 1, V.heap.size, v, rfl, ⟨?_, (Go.Boxed.new V 89 _).alloc _, hv.keeps hb, by omega⟩, hV.trans (hb.mono hV.size), hV.size, by have := hV.size; omega⟩
    have h1 := (Go.Boxed.new (V.alloc (.cells #[.pointer (some ⟨v, 0, none⟩)] 89)) 91 (.pointer (some ⟨V.heap.size, 0, none⟩))).cell
    rwa [World.size_alloc] at h1
  have HNw : Hid _ := newT_any w
  obtain ⟨po, rfl⟩ := hv.vc.shape
  cases po with
  | none =>
    have hl0 : l = [] := by
      rcases hv.vc with ⟨h, _⟩ | ⟨_, _, h, _⟩
      · exact h
      · cases h
    subst hl0
    clear hv
    go_enter Tryz.func9, Tryz.ntmps9
    go_wp2_with fail
    refine Calls.mono HNw.out ?_
    rintro e w1 ⟨rfl, hv1, hb1⟩
    obtain ⟨W1, hW1⟩ : ∃ W1, W1 = w1.alloc (.cells #[.pointer none, .pointer (some ⟨w.heap.size, 0, none⟩)] 24) := ⟨_, rfl⟩
    have hbx : Below w1.heap.size w1 W1 := by rw [hW1]; exact ((Grew.refl w1).alloc _).below
    have HOr : Hid (Calls Tryz.prog 42 #[.slice (some ⟨w1.heap.size, 0, none⟩) 2 2] W1 fun e w' => e = .returned (.pointer (some ⟨w.heap.size, 0, none⟩)) ∧ w' = W1) := or_second w1.heap.size _ W1 (by rw [hW1]; simp) (by rw [hW1]; simp)
    have HE : Hid _ := HFin.out W1 _ (hb1.trans (hbx.mono hb1.size)) (hv1.keeps hbx)
    have HW1 : Hid (W1 = w1.alloc (.cells #[.pointer none, .pointer (some ⟨w.heap.size, 0, none⟩)] 24)) := hW1
    rw [hW1] at HOr
    clear HNw hv1 hbx hW1 HFin
    go_wp2_with fail
    refine Calls.mono HOr.out ?_
    rintro e w2 ⟨rfl, hw2⟩
    rw [← HW1.out] at hw2
    subst hw2
    clear HOr
    go_wp2_with fail
    go_ret
    exact HE.out
  | some pa =>
    obtain ⟨v, hpa⟩ : ∃ v, pa = ⟨v, 0, none⟩ := by
      rcases hv.vc with ⟨_, h⟩ | ⟨v, _, h, _⟩
      · cases h
      · injection h with h; injection h with h; exact ⟨v, h⟩
    subst hpa
    have HV : Hid (VV w l (.pointer (some ⟨v, 0, none⟩))) := hv
    clear hv
    go_enter Tryz.func9, Tryz.ntmps9
    go_wp2_with fail
    refine Calls.mono HNw.out ?_
    rintro e w1 ⟨rfl, _, hb1⟩
    obtain ⟨W1, hW1⟩ : ∃ W1, W1 = w1.alloc (.cells #[.pointer (some ⟨v, 0, none⟩), .pointer (some ⟨w.heap.size, 0, none⟩)] 24) := ⟨_, rfl⟩
    have hbx : Below w1.heap.size w1 W1 := by rw [hW1]; exact ((Grew.refl w1).alloc _).below
    have HOr : Hid (Calls Tryz.prog 42 #[.slice (some ⟨w1.heap.size, 0, none⟩) 2 2] W1 fun e w' => e = .returned (.pointer (some ⟨v, 0, none⟩)) ∧ w' = W1) := or_first w1.heap.size _ (some ⟨w.heap.size, 0, none⟩) W1 (by rw [hW1]; simp) (by rw [hW1]; simp)
    have HE : Hid _ := HFin.out W1 v (hb1.trans (hbx.mono hb1.size)) ((HV.out.keeps hb1).keeps hbx)
    have HW1 : Hid (W1 = w1.alloc (.cells #[.pointer (some ⟨v, 0, none⟩), .pointer (some ⟨w.heap.size, 0, none⟩)] 24)) := hW1
    rw [hW1] at HOr
    clear HNw hbx hW1 HFin HV
    go_wp2_with fail
    refine Calls.mono HOr.out ?_
    rintro e w2 ⟨rfl, hw2⟩
    rw [← HW1.out] at hw2
    subst hw2
    clear HOr
    go_wp2_with fail
    go_ret
    exact HE.out

end Go.Proofs.YtekoaiehhjgfiaaGreat

namespace Go.Proofs.YtekoaiehhjgfiaaGreat
open Go.RowKit

set_option maxRecDepth 100000 in
set_option maxHeartbeats 8000000 in
theorem speaks13_any (w : World) : Calls Tryz.prog 8 #[] w fun e w' => e = .returned (.bool true) ∧ Below w.heap.size w w' := by
  have HI1 : Hid (Calls Tryz.prog 38 #[.slice (some ⟨w.heap.size, 0, none⟩) 2 2] (w.alloc (.cells #[.int .i64 1, .int .i64 2] 2)) fun e w' => ∃ g c, e = .returned (.slice (some ⟨g, 0, none⟩) 2 c) ∧ Lies 17 w' ([1, 2].map numT) (.slice (some ⟨g, 0, none⟩) 2 c) ∧ Below w.heap.size w w') := by
    have hbA : Below w.heap.size w (w.alloc (.cells #[.int .i64 1, .int .i64 2] 2)) := ((Grew.refl w).alloc _).below
    refine Calls.mono (nums_any [1, 2] w.heap.size 2 _ (by simp) (by simp) (fun i hi => by
      match i, hi with
      | 0, _ => simp
      | 1, _ => simp)) ?_
    rintro e w1 ⟨g, c, rfl, hl, hb⟩
    exact ⟨g, c, rfl, hl, hbA.trans (hb.mono hbA.size)⟩
  have HO : Hid (∀ V v, Lies 17 V ([1, 2].map numT) v → Calls Tryz.prog 7 #[v] V fun e w' => ∃ b, e = .returned (.tuple #[.pointer (some ⟨b, 0, none⟩), .int .i64 0]) ∧ VV w' ([1, 2].map numT) (.pointer (some ⟨b, 0, none⟩)) ∧ Below V.heap.size V w') := fun V v hv => by
    have h9 := of_any _ v V hv
    rw [nums_of [1, 2] (by simp)] at h9
    refine Calls.mono h9 ?_
    rintro e w1 ⟨hb, b, rfl, hvc⟩
    exact ⟨b, rfl, ⟨hvc, by simp, nums_right _⟩, hb⟩
  have HI3 : Hid (∀ V : World, Calls Tryz.prog 38 #[.slice (some ⟨V.heap.size, 0, none⟩) 3 3] (V.alloc (.cells #[.int .i64 9, .int .i64 2, .int .i64 3] 2)) fun e w' => ∃ g c, e = .returned (.slice (some ⟨g, 0, none⟩) 3 c) ∧ Lies 17 w' ([9, 2, 3].map numT) (.slice (some ⟨g, 0, none⟩) 3 c) ∧ Below V.heap.size V w') := fun V => by
    have hbA : Below V.heap.size V (V.alloc (.cells #[.int .i64 9, .int .i64 2, .int .i64 3] 2)) := ((Grew.refl V).alloc _).below
    refine Calls.mono (nums_any [9, 2, 3] V.heap.size 3 _ (by simp) (by simp) (fun i hi => by
      match i, hi with
      | 0, _ => simp
      | 1, _ => simp
      | 2, _ => simp)) ?_
    rintro e w1 ⟨g, c, rfl, hl, hb⟩
    exact ⟨g, c, rfl, hl, hbA.trans (hb.mono hbA.size)⟩
  go_enter Tryz.func8, Tryz.ntmps8
  go_wp2_with fail
  refine Calls.mono HI1.out ?_
  rintro e w1 ⟨g1, c1, rfl, hl1, hb1⟩
  have HO1 : Hid _ := HO.out w1 _ hl1
  clear HI1 hl1 HO
  go_wp2_with fail
  refine Calls.mono HO1.out ?_
  rintro e w2 ⟨b2, rfl, hv2, hg2⟩
  have hb2 : Below w.heap.size w w2 := hb1.trans (hg2.mono hb1.size)
  have HV2 : Hid (VV w2 ([1, 2].map numT) (.pointer (some ⟨b2, 0, none⟩))) := hv2
  have HBg : Hid _ := begin_any _ _ w2 hv2
  clear HO1 hv2 hg2
  go_wp2_with fail
  refine Calls.mono HBg.out ?_
  rintro e w3 ⟨b, h, v, rfl, t3, hg3, hh3, _⟩
  have hb3 : Below w.heap.size w w3 := hb2.trans (hg3.mono hb2.size)
  have hNh : w.heap.size ≤ h := Nat.le_trans hb2.size hh3
  have T3 : Hid (TV w3 ([1, 2].map numT) b h v) := t3
  have HV3 : Hid (VV w3 ([1, 2].map numT) (.pointer (some ⟨b2, 0, none⟩))) := HV2.out.keeps hg3
  clear HBg t3 hg3 HV2
  go_wp2_with fail
  refine (int_any 3 _).mono ?_
  rintro e w4 ⟨rfl, hg4⟩
  have hb4 : Below w.heap.size w w4 := hb3.trans (hg4.below.mono hb3.size)
  have T4 : Hid (TV w4 ([1, 2].map numT) b h v) := T3.out.keeps hg4.below
  have HV4 : Hid (VV w4 ([1, 2].map numT) (.pointer (some ⟨b2, 0, none⟩))) := HV3.out.keeps hg4.below
  have HP4 : Hid (Calls Tryz.prog 39 #[.pointer (some ⟨b, 0, none⟩), .agg #[.int .i64 2, .int .i64 3, .string ⟨#[]⟩, .slice none 0 0]] w4 fun e w' => e = .returned (.int .i64 0) ∧ Below w.heap.size w4 w' ∧ KeepsNP w4 w' ∧ ∃ v2, TV w' ([1, 2, 3].map numT) b h v2) := by
    refine Calls.mono (tpush_any 16 _ b h v (numT 3) none 0 w.heap.size w4 T4.out hNh hb4.size (lies_nilD _ _) (by show 0 ≤ 9223372036854775807; omega)) ?_
    rintro e w' ⟨k, rfl, h1, h2, ⟨rfl, _, v2, h3⟩ | ⟨_, hno, _⟩⟩
    · exact ⟨rfl, h1, h2, v2, h3⟩
    · exact absurd ⟨right_num 3, by simp⟩ hno
  clear T3 HV3 hg4
  go_wp2_with fail
  refine Calls.mono HP4.out ?_
  rintro e w5 ⟨rfl, hg5, hn5, v5, t5⟩
  have hb5 : Below w.heap.size w w5 := hb4.trans hg5
  have T5 : Hid (TV w5 ([1, 2, 3].map numT) b h v5) := t5
  have HV5 : Hid (VV w5 ([1, 2].map numT) (.pointer (some ⟨b2, 0, none⟩))) := HV4.out.np hn5
  clear HP4 T4 HV4 hg5 hn5 t5
  go_wp2_with fail
  refine (int_any 9 _).mono ?_
  rintro e w6 ⟨rfl, hg6⟩
  have hb6 : Below w.heap.size w w6 := hb5.trans (hg6.below.mono hb5.size)
  have T6 : Hid (TV w6 ([1, 2, 3].map numT) b h v5) := T5.out.keeps hg6.below
  have HV6 : Hid (VV w6 ([1, 2].map numT) (.pointer (some ⟨b2, 0, none⟩))) := HV5.out.keeps hg6.below
  have HS6 : Hid (Calls Tryz.prog 41 #[.pointer (some ⟨b, 0, none⟩), .int .i64 0, .agg #[.int .i64 2, .int .i64 9, .string ⟨#[]⟩, .slice none 0 0]] w6 fun e w' => e = .returned (.int .i64 0) ∧ Below w.heap.size w6 w' ∧ KeepsNP w6 w' ∧ ∃ v2, TV w' ([9, 2, 3].map numT) b h v2) := by
    refine Calls.mono (tset_any 16 _ b h v5 0 (numT 9) none 0 w.heap.size w6 T6.out hNh hb6.size (lies_nilD _ _) (by show 0 ≤ 9223372036854775807; omega)) ?_
    rintro e w' ⟨k, rfl, h1, h2, ⟨rfl, _, v2, h3⟩ | ⟨_, hno, _⟩⟩
    · exact ⟨rfl, h1, h2, v2, h3⟩
    · exact absurd ⟨right_num 9, by simp⟩ hno
  clear T5 HV5 hg6
  go_wp2_with fail
  refine Calls.mono HS6.out ?_
  rintro e w7 ⟨rfl, hg7, hn7, v7, t7⟩
  have hb7 : Below w.heap.size w w7 := hb6.trans hg7
  have HV7 : Hid (VV w7 ([1, 2].map numT) (.pointer (some ⟨b2, 0, none⟩))) := HV6.out.np hn7
  have HSl : Hid _ := tseal_any _ b h v7 w.heap.size w7 t7 hNh
  clear HS6 T6 HV6 hg7 hn7 t7
  go_wp2_with fail
  refine Calls.mono HSl.out ?_
  rintro e w8 ⟨rfl, hg8, hn8, hv8, ts8⟩
  have hb8 : Below w.heap.size w w8 := hb7.trans hg8
  have HV8 : Hid (VV w8 ([1, 2].map numT) (.pointer (some ⟨b2, 0, none⟩))) := HV7.out.np hn8
  have HIt : Hid _ := items_any _ _ w8 hv8.vc hv8.len hv8.right
  have TS8 : Hid (Shut13 w8 (.pointer (some ⟨b, 0, none⟩))) := ts8.shut
  clear HSl HV7 hg8 hn8 hv8 ts8
  go_wp2_with fail
  refine Calls.mono HIt.out ?_
  rintro e w9 ⟨v9, rfl, hv9, hg9⟩
  have hb9 : Below w.heap.size w w9 := hb8.trans (hg9.mono hb8.size)
  have HL9 : Hid (Lies 17 w9 ([9, 2, 3].map numT) v9) := LiesB.lies _ _ _ hv9
  have HV9 : Hid (VV w9 ([1, 2].map numT) (.pointer (some ⟨b2, 0, none⟩))) := HV8.out.keeps hg9
  have TS9 : Hid (Shut13 w9 (.pointer (some ⟨b, 0, none⟩))) := TS8.out.keeps hg9
  obtain ⟨a9, c9, rfl, _⟩ := Lies.slice HL9.out
  have HI9 : Hid _ := HI3.out w9
  clear HIt hv9 hg9 HV8 TS8 HI3
  go_wp2_with fail
  refine Calls.mono HI9.out ?_
  rintro e wa ⟨ga, ca, rfl, hla, hga⟩
  have hba : Below w.heap.size w wa := hb9.trans (hga.mono hb9.size)
  have HVs : Hid _ := values_one 16 ([9, 2, 3].map numT) _ _ wa (Lies.keeps hga _ _ _ HL9.out) hla (by simp)
  have HVa : Hid (VV wa ([1, 2].map numT) (.pointer (some ⟨b2, 0, none⟩))) := HV9.out.keeps hga
  have TSa : Hid (Shut13 wa (.pointer (some ⟨b, 0, none⟩))) := TS9.out.keeps hga
  clear HI9 hla hga HV9 TS9 HL9
  go_wp2_with fail
  refine Calls.mono HVs.out ?_
  rintro e wb ⟨rfl, hgb⟩
  have hbb : Below w.heap.size w wb := hba.trans (hgb.mono hba.size)
  have HVb : Hid (VV wb ([1, 2].map numT) (.pointer (some ⟨b2, 0, none⟩))) := HVa.out.keeps hgb
  have TSb : Hid (Shut13 wb (.pointer (some ⟨b, 0, none⟩))) := TSa.out.keeps hgb
  clear HVs hgb HVa TSa
  go_wp2_with fail
  refine (int_any 4 _).mono ?_
  rintro e wc ⟨rfl, hgc⟩
  have hbc : Below w.heap.size w wc := hbb.trans (hgc.below.mono hbb.size)
  have HVc : Hid (VV wc ([1, 2].map numT) (.pointer (some ⟨b2, 0, none⟩))) := HVb.out.keeps hgc.below
  have HPc : Hid (Calls Tryz.prog 39 #[.pointer (some ⟨b, 0, none⟩), .agg #[.int .i64 2, .int .i64 4, .string ⟨#[]⟩, .slice none 0 0]] wc fun e w' => e = .returned (.int .i64 7) ∧ Below wc.heap.size wc w') := shut_push _ (numT 4) none 0 wc (TSb.out.keeps hgc.below)
  clear HVb TSb hgc
  go_wp2_with fail
  refine Calls.mono HPc.out ?_
  rintro e wd ⟨rfl, hgd⟩
  have hbd : Below w.heap.size w wd := hbc.trans (hgd.mono hbc.size)
  have HLd : Hid (Calls Tryz.prog 14 #[.pointer (some ⟨b2, 0, none⟩)] wd (NumPost 2 wd)) := vlen_any 16 _ _ wd (HVc.out.keeps hgd).vc
  clear HPc hgd HVc
  go_wp2_with fail
  refine Calls.mono HLd.out ?_
  rintro e we ⟨rfl, hge⟩
  go_wp2_with fail
  go_ret
  exact ⟨rfl, hbd.trans (hge.mono hbd.size)⟩

end Go.Proofs.YtekoaiehhjgfiaaGreat

namespace Go.Proofs.YtekoaiehhjgfiaaGreat
open Go.RowKit

/-- The six cells of a step, in a block of their own. -/
structure Bx6 (W : World) (n : Nat) (k t : Int) (x : VT) (u : Value) : Prop where
  c0 : W.cell? ⟨n, 0, none⟩ = some (.int .i64 k)
  c1 : W.cell? ⟨n, 1, none⟩ = some (.int .i64 t)
  c2 : W.cell? ⟨n, 2, none⟩ = some (.int .i64 x.kind)
  c3 : W.cell? ⟨n, 3, none⟩ = some (.int .i64 x.num)
  c4 : W.cell? ⟨n, 4, none⟩ = some (.string x.text)
  c5 : W.cell? ⟨n, 5, none⟩ = some u

theorem Bx6.keeps {W W' : World} {n : Nat} {k t : Int} {x : VT} {u : Value} (h : Bx6 W n k t x u) (hb : Below W.heap.size W W') : Bx6 W' n k t x u :=
  ⟨cell_keeps hb h.c0, cell_keeps hb h.c1, cell_keeps hb h.c2, cell_keeps hb h.c3, cell_keeps hb h.c4, cell_keeps hb h.c5⟩

end Go.Proofs.YtekoaiehhjgfiaaGreat

namespace Go.Proofs.YtekoaiehhjgfiaaGreat
open Go.RowKit

/-- All blocks that were there are as they were, but one. -/
structure KB (h : Nat) (w w' : World) : Prop where
  os : w'.os = w.os
  tape : w'.tape = w.tape
  output : w'.output = w.output
  size : w.heap.size ≤ w'.heap.size
  block : ∀ j, j < w.heap.size → j ≠ h → w'.heap[j]? = w.heap[j]?

theorem KB.of_below {h : Nat} {w w' : World} (hb : Below w.heap.size w w') : KB h w w' := ⟨hb.os, hb.tape, hb.output, hb.size, fun j hj _ => hb.block j hj⟩

theorem KB.trans {h : Nat} {a b c : World} (k1 : KB h a b) (k2 : KB h b c) : KB h a c :=
  ⟨k2.os.trans k1.os, k2.tape.trans k1.tape, k2.output.trans k1.output, Nat.le_trans k1.size k2.size, fun j hj hn => (k2.block j (Nat.lt_of_lt_of_le hj k1.size) hn).trans (k1.block j hj hn)⟩

theorem KB.set {h : Nat} {w w1 : World} (y : Value) (hb : Below w.heap.size w w1) : KB h w (w1.setCell ⟨h, 0, none⟩ y) := by
  have hg := grownBy_setCell' w1 h y
  exact ⟨hg.os.trans hb.os, hg.tape.trans hb.tape, hg.output.trans hb.output, Nat.le_trans hb.size hg.size, fun j hj hn => (hg.block j (Nat.lt_of_lt_of_le hj hb.size) (fun e => hn (by injection e))).trans (hb.block j hj)⟩

theorem KB.below {h N0 : Nat} {w w' : World} (k : KB h w w') (h1 : N0 ≤ h) (h2 : N0 ≤ w.heap.size) : Below N0 w w' := ⟨k.os, k.tape, k.output, k.size, fun j hj => k.block j (by omega) (by omega)⟩

theorem KB.cell {h : Nat} {w w' : World} (k : KB h w w') {a : Addr} {u : Value} (hn : a.block ≠ h) (hu : w.cell? a = some u) : w'.cell? a = some u := by
  have hlt : a.block < w.heap.size := cell_lt hu
  exact (World.cell?_of_block (k.block a.block hlt hn)).trans hu

theorem KB.np {h T : Nat} {x : Option Addr} {w w' : World} (k : KB h w w') (hB : Go.Boxed w h T (.pointer x)) : KeepsNP w w' := by
  intro a u hu hc
  by_cases hab : a.block = h
  · exfalso
    have hB' : w.heap[h]? = some (.cells #[.pointer x] T (0, 0)) := hB
    unfold World.cell? at hc
    rw [hab, hB'] at hc
    obtain ⟨ab, ao, asp⟩ := a
    cases asp with
    | none =>
      cases ao with
      | zero => simp at hc; exact hu x hc.symm
      | succ n => simp at hc
    | some sp => simp at hc
  · exact k.cell hab hc

/-- Another transient stays. -/
theorem TV.kb {h : Nat} {T : Nat} {x : Option Addr} {w w' : World} {l : List VT} {b2 h2 v2 : Nat} (t : TV w l b2 h2 v2) (k : KB h w w') (hB : Go.Boxed w h T (.pointer x)) (hb : b2 ≠ h) (hh : h2 ≠ h) : TV w' l b2 h2 v2 :=
  ⟨k.cell hb t.c0, (k.block h2 t.bx.lt hh).trans t.bx, t.vv.np (k.np hB), t.ne⟩

/-- What a call that may change a transient leaves, and its error. -/
def MvX (R : List VT ⊕ Nat) (l : List VT) (b h v : Nat) (w : World) (e : Ending) (w' : World) : Prop :=
  ∃ k : Nat, e = .returned (.int .i64 (k : Int)) ∧ KB h w w' ∧ ((k = 0 ∧ ∃ m v2, R = .inl m ∧ TV w' m b h v2) ∨ (k ≠ 0 ∧ R = .inr k ∧ TV w' l b h v))

theorem mv_of {R : List VT ⊕ Nat} {l : List VT} {b h v : Nat} {w W w1 : World} {e : Ending} (t : TV w l b h v) (hb : Below w.heap.size w W) (h0 : ∀ k, R = .inr k → k ≠ 0) (hp : VvPost R W e w1) :
    ∃ (o : Option Addr) (k : Nat), e = .returned (.tuple #[.pointer o, .int .i64 (k : Int)]) ∧ Calls Tryz.prog 95 #[.pointer (some ⟨h, 0, none⟩), .pointer o, .int .i64 (k : Int)] w1 (MvX R l b h v w) := by
  obtain ⟨hg, hp⟩ := hp
  have hb1 : Below w.heap.size w w1 := hb.trans (hg.mono hb.size)
  cases R with
  | inl m =>
    obtain ⟨v2, rfl, hv2⟩ := hp
    obtain ⟨_, _, k3⟩ := t.moved (N0 := 0) (Nat.zero_le _) (Nat.zero_le _) hb1 hv2
    refine ⟨_, 0, rfl, Calls.mono (become_ok h _ _ w1 (t.keeps hb1).bx) ?_⟩
    rintro e w2 ⟨rfl, rfl⟩
    exact ⟨0, rfl, KB.set _ hb1, .inl ⟨rfl, m, v2, rfl, k3⟩⟩
  | inr k =>
    have he : e = _ := hp
    subst he
    refine ⟨_, k, rfl, Calls.mono (become_not h _ k (h0 k rfl) w1) ?_⟩
    rintro e w2 ⟨rfl, rfl⟩
    exact ⟨k, rfl, KB.of_below hb1, .inr ⟨h0 k rfl, rfl, t.keeps hb1⟩⟩

set_option maxRecDepth 100000 in
set_option maxHeartbeats 8000000 in
theorem tpush_x (n : Nat) (l : List VT) (b h v : Nat) (x : VT) (ax : Option Addr) (cx : Nat) (w : World) (t : TV w l b h v) (hx : Lies n w x.items (.slice ax x.items.length cx)) (hts : x.text.size ≤ 9223372036854775807) :
    Calls Tryz.prog 39 #[.pointer (some ⟨b, 0, none⟩), .agg #[.int .i64 x.kind, .int .i64 x.num, .string x.text, .slice ax x.items.length cx]] w (MvX (pushN n l x) l b h v w) := by
  obtain ⟨wA, hwA⟩ : ∃ wA, wA = w.alloc (.cells #[.int .i64 x.kind, .int .i64 x.num, .string x.text, .slice ax x.items.length cx] 34) := ⟨_, rfl⟩
  have hbz : Below w.heap.size w wA := by rw [hwA]; exact ((Grew.refl w).alloc _).below
  have tA := t.keeps hbz
  have HO : Hid _ := open_any l b h v wA tA
  have HBx : Hid (Bx wA w.heap.size x (.slice ax x.items.length cx)) := by rw [hwA]; exact bx_alloc w x _
  have HP : Hid (Calls Tryz.prog 96 #[.pointer (some ⟨v, 0, none⟩), .agg #[.int .i64 x.kind, .int .i64 x.num, .string x.text, .slice ax x.items.length cx]] wA.drew fun e w1 => ∃ (o : Option Addr) (k : Nat), e = .returned (.tuple #[.pointer o, .int .i64 (k : Int)]) ∧ Calls Tryz.prog 95 #[.pointer (some ⟨h, 0, none⟩), .pointer o, .int .i64 (k : Int)] w1 (MvX (pushN n l x) l b h v w)) := by
    have hd : Below w.heap.size w wA.drew := hbz.drew
    have tD := t.keeps hd
    exact Calls.mono (vpush_vv n l _ x ax cx wA.drew tD.vv (Lies.keeps hd _ _ _ hx) hts) (fun e w1 hp => mv_of t hd (pushN_err n l x) hp)
  obtain ⟨x0, x1, x2, x3, _, _, _, _⟩ := HBx.out
  have h1 := tA.bx.cell
  obtain ⟨Q, hQ⟩ : ∃ Q, Q = MvX (pushN n l x) l b h v w := ⟨_, rfl⟩
  have HQ : Hid (∀ e w', Q e w' → ∃ k : Nat, e = .returned (.int .i64 (k : Int))) := fun e w' hq => by
    rw [hQ] at hq
    obtain ⟨k, he, _⟩ := hq
    exact ⟨k, he⟩
  rw [← hQ] at HP ⊢
  subst hwA
  clear t hx hts tA hQ HBx
  go_enter Tryz.func39, Tryz.ntmps39
  go_wp2_with fail
  refine Calls.mono HO.out ?_
  rintro e w1 ⟨rfl, rfl⟩
  clear HO
  go_wp2_with fail
  go_region_with (first
      | (go_at_call 95; refine Calls.mono HB9.out ?_; intro e w3 hq3; obtain ⟨k3, hk3⟩ := HQ.out e w3 hq3; subst hk3; have HE : Hid _ := hq3; clear hq3)
      | (go_at_call 96; refine Calls.mono HP.out ?_; rintro e w2 ⟨o2, k2, rfl, hbec⟩; have HB9 : Hid _ := hbec; clear hbec))
  all_goals (first | (go_ret; exact HE.out) | (go_wp2_with fail; go_ret; exact HE.out))

set_option maxRecDepth 100000 in
set_option maxHeartbeats 8000000 in
theorem tset_x (n : Nat) (l : List VT) (b h v : Nat) (i : Int) (x : VT) (ax : Option Addr) (cx : Nat) (w : World) (t : TV w l b h v) (hx : Lies n w x.items (.slice ax x.items.length cx)) (hts : x.text.size ≤ 9223372036854775807) :
    Calls Tryz.prog 41 #[.pointer (some ⟨b, 0, none⟩), .int .i64 i, .agg #[.int .i64 x.kind, .int .i64 x.num, .string x.text, .slice ax x.items.length cx]] w (MvX (setN n l i x) l b h v w) := by
  obtain ⟨wA, hwA⟩ : ∃ wA, wA = w.alloc (.cells #[.int .i64 x.kind, .int .i64 x.num, .string x.text, .slice ax x.items.length cx] 34) := ⟨_, rfl⟩
  have hbz : Below w.heap.size w wA := by rw [hwA]; exact ((Grew.refl w).alloc _).below
  have tA := t.keeps hbz
  have HO : Hid _ := open_any l b h v wA tA
  have HBx : Hid (Bx wA w.heap.size x (.slice ax x.items.length cx)) := by rw [hwA]; exact bx_alloc w x _
  have HP : Hid (Calls Tryz.prog 97 #[.pointer (some ⟨v, 0, none⟩), .int .i64 i, .agg #[.int .i64 x.kind, .int .i64 x.num, .string x.text, .slice ax x.items.length cx]] wA.drew fun e w1 => ∃ (o : Option Addr) (k : Nat), e = .returned (.tuple #[.pointer o, .int .i64 (k : Int)]) ∧ Calls Tryz.prog 95 #[.pointer (some ⟨h, 0, none⟩), .pointer o, .int .i64 (k : Int)] w1 (MvX (setN n l i x) l b h v w)) := by
    have hd : Below w.heap.size w wA.drew := hbz.drew
    have tD := t.keeps hd
    exact Calls.mono (vset_vv n l _ i x ax cx wA.drew tD.vv (Lies.keeps hd _ _ _ hx) hts) (fun e w1 hp => mv_of t hd (setN_err n l i x) hp)
  obtain ⟨x0, x1, x2, x3, _, _, _, _⟩ := HBx.out
  have h1 := tA.bx.cell
  obtain ⟨Q, hQ⟩ : ∃ Q, Q = MvX (setN n l i x) l b h v w := ⟨_, rfl⟩
  have HQ : Hid (∀ e w', Q e w' → ∃ k : Nat, e = .returned (.int .i64 (k : Int))) := fun e w' hq => by
    rw [hQ] at hq
    obtain ⟨k, he, _⟩ := hq
    exact ⟨k, he⟩
  rw [← hQ] at HP ⊢
  subst hwA
  clear t hx hts tA hQ HBx
  go_enter Tryz.func41, Tryz.ntmps41
  go_wp2_with fail
  refine Calls.mono HO.out ?_
  rintro e w1 ⟨rfl, rfl⟩
  clear HO
  go_wp2_with fail
  go_region_with (first
      | (go_at_call 95; refine Calls.mono HB9.out ?_; intro e w3 hq3; obtain ⟨k3, hk3⟩ := HQ.out e w3 hq3; subst hk3; have HE : Hid _ := hq3; clear hq3)
      | (go_at_call 97; refine Calls.mono HP.out ?_; rintro e w2 ⟨o2, k2, rfl, hbec⟩; have HB9 : Hid _ := hbec; clear hbec))
  all_goals (first | (go_ret; exact HE.out) | (go_wp2_with fail; go_ret; exact HE.out))

end Go.Proofs.YtekoaiehhjgfiaaGreat

