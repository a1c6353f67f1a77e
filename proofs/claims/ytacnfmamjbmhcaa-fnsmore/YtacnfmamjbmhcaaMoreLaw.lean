/-
  The walk of FnsMore.
-/
import Derived.Test.YtacnfmamjbmhcaaOneLaw
namespace Go.Proofs.Ytacnfmamjbmhcaa
open Go.RowKit

theorem it_add (f : VT → VT) (n : Nat) (t : VT) : ∀ m, itT f m (itT f n t) = itT f (n + m) t := by
  intro m
  induction m with
  | zero => rfl
  | succ m ih => show f (itT f m (itT f n t)) = f (itT f (n + m) t); rw [ih]

theorem timesT_ok {d : Nat} {q n : Int} {t : VT} (h : timesE d q n t = 0) : timesT d q n t = itT (doneT q.toNat) n.toNat t := by
  unfold timesT; rw [if_pos h]

theorem timesE_any (d : Nat) (q n m : Int) (t : VT) (hn : 0 ≤ n) (hn2 : n ≤ 65536) (hm : 0 ≤ m) (hm2 : m ≤ 65536) : timesE d q n t = timesE d q m t := by
  unfold timesE
  rw [if_neg (show ¬ (n < 0 ∨ 65536 < n) by omega), if_neg (show ¬ (m < 0 ∨ 65536 < m) by omega)]

set_option maxHeartbeats 4000000 in
theorem moreLaw_few (q n m : Int) (t : VT) (a : Option Addr) (l c : Nat) (w : World) (h : n < 0 ∨ m < 0 ∨ 2000 < n ∨ 2000 < m) :
    Calls Try.prog 7 #[.agg #[.int .i64 q, .int .i64 n, .int .i64 m], .agg #[.int .i64 t.kind, .int .i64 t.num, .string t.text, .slice a l c]] w fun e w' => e = .returned (.bool true) ∧ Below w.heap.size w w' := by
  have hal : ∀ o1 o2, Below w.heap.size w ((w.alloc o1).alloc o2) := fun o1 o2 => (Grew.two _ _ _).below
  have Hal : Hid (∀ o1 o2, Below w.heap.size w ((w.alloc o1).alloc o2)) := hal
  clear hal
  by_cases h1 : n < 0
  · go_enter Try.func7, Try.ntmps7
    go_wp2_with fail
    refine (speaks_any _).mono ?_
    rintro e w7 ⟨rfl, hb⟩
    have hb7 := (Hal.out _ _).trans (hb.mono (Hal.out _ _).size)
    go_wp2_with fail
    go_ret
    exact ⟨rfl, hb7⟩
  by_cases h2 : m < 0
  · go_enter Try.func7, Try.ntmps7
    go_wp2_with fail
    refine (speaks_any _).mono ?_
    rintro e w7 ⟨rfl, hb⟩
    have hb7 := (Hal.out _ _).trans (hb.mono (Hal.out _ _).size)
    go_wp2_with fail
    go_ret
    exact ⟨rfl, hb7⟩
  by_cases h3 : 2000 < n
  · go_enter Try.func7, Try.ntmps7
    go_wp2_with fail
    refine (speaks_any _).mono ?_
    rintro e w7 ⟨rfl, hb⟩
    have hb7 := (Hal.out _ _).trans (hb.mono (Hal.out _ _).size)
    go_wp2_with fail
    go_ret
    exact ⟨rfl, hb7⟩
  · have h4 : 2000 < m := by omega
    go_enter Try.func7, Try.ntmps7
    go_wp2_with fail
    refine (speaks_any _).mono ?_
    rintro e w7 ⟨rfl, hb⟩
    have hb7 := (Hal.out _ _).trans (hb.mono (Hal.out _ _).size)
    go_wp2_with fail
    go_ret
    exact ⟨rfl, hb7⟩

set_option maxHeartbeats 4000000 in
theorem moreLaw_core (q n m : Int) (t s r : VT) (e1 : Int) (a : Option Addr) (l c : Nat) (w : World) (h1 : 0 ≤ n) (h2 : 0 ≤ m) (h3 : n ≤ 2000) (h4 : m ≤ 2000)
    (H1 : Hid (∀ W, Below w.heap.size w W → Calls Try.prog 10 #[.int .i64 q, .int .i64 n, .agg #[.int .i64 t.kind, .int .i64 t.num, .string t.text, .slice a l c]] W (VPost s e1 W)))
    (H2 : Hid (∀ W, Below w.heap.size w W → Calls Try.prog 10 #[.int .i64 q, .int .i64 (n + m), .agg #[.int .i64 t.kind, .int .i64 t.num, .string t.text, .slice a l c]] W (VPost r e1 W)))
    (H3 : Hid (e1 = 0 → ∀ v W, Lies 16 W s.items v → Calls Try.prog 10 #[.int .i64 q, .int .i64 m, .agg #[.int .i64 s.kind, .int .i64 s.num, .string s.text, v]] W (VPost r 0 W))) :
    Calls Try.prog 7 #[.agg #[.int .i64 q, .int .i64 n, .int .i64 m], .agg #[.int .i64 t.kind, .int .i64 t.num, .string t.text, .slice a l c]] w fun e w' => e = .returned (.bool true) ∧ Below w.heap.size w w' := by
  have hal : Below w.heap.size w ((w.alloc (.cells #[.int .i64 q, .int .i64 n, .int .i64 m] 47)).alloc (.cells #[.int .i64 t.kind, .int .i64 t.num, .string t.text, .slice a l c] 24)) := (Grew.two _ _ _).below
  have HX : Hid (Bx ((w.alloc (.cells #[.int .i64 q, .int .i64 n, .int .i64 m] 47)).alloc (.cells #[.int .i64 t.kind, .int .i64 t.num, .string t.text, .slice a l c] 24)) (w.heap.size + 1) t (.slice a l c)) := by
    have := bx_alloc (w.alloc (.cells #[.int .i64 q, .int .i64 n, .int .i64 m] 47)) t (.slice a l c)
    rwa [World.size_alloc] at this
  have HS : Hid (∀ (p : VT) (x y : Value) (W : World), Lies 16 W p.items x → Lies 16 W p.items y → Calls Try.prog 12 #[.agg #[.int .i64 p.kind, .int .i64 p.num, .string p.text, x], .agg #[.int .i64 p.kind, .int .i64 p.num, .string p.text, y]] W fun e W' => e = .returned (.bool true) ∧ Below W.heap.size W W') := fun p x y W h1 h2 => (same_any 16 p p x y W h1 h2).mono fun e W' h => ⟨by rw [h.1, sameV_self], h.2.below⟩
  have n1 : ¬ n < 0 := by omega
  have n2 : ¬ m < 0 := by omega
  have n3 : ¬ 2000 < n := by omega
  have n4 : ¬ 2000 < m := by omega
  go_enter Try.func7, Try.ntmps7
  go_wp2_with fail
  refine Calls.mono (H1.out _ hal) ?_
  rintro e w1 ⟨v1, rfl, hl1, hb⟩
  obtain ⟨a1, c1, rfl, _⟩ := LiesX.slice hl1
  obtain ⟨hb1, hg⟩ := below_new hal hb (.cells #[.int .i64 s.kind, .int .i64 s.num, .string s.text, .slice a1 s.items.length c1] 24)
  have HX1 : Hid (Bx (w1.alloc (.cells #[.int .i64 s.kind, .int .i64 s.num, .string s.text, .slice a1 s.items.length c1] 24)) (w.heap.size + 1) t (.slice a l c)) := HX.out.keeps hg
  have HA1 : Hid (Kept (w1.alloc (.cells #[.int .i64 s.kind, .int .i64 s.num, .string s.text, .slice a1 s.items.length c1] 24)) w1.heap.size s (.slice a1 s.items.length c1)) := kept_new hl1.lies
  obtain ⟨x0, x1, x2, x3, _, _, _, _⟩ := HX1.out
  clear hal hb hg HX hl1 H1
  go_wp2_with fail
  refine Calls.mono (H2.out _ hb1) ?_
  rintro e w2 ⟨v2, rfl, hl2, hb⟩
  obtain ⟨a2, c2, rfl, _⟩ := LiesX.slice hl2
  obtain ⟨hb2, hg⟩ := below_new hb1 hb (.cells #[.int .i64 r.kind, .int .i64 r.num, .string r.text, .slice a2 r.items.length c2] 24)
  have HA2 : Hid (Kept (w2.alloc (.cells #[.int .i64 r.kind, .int .i64 r.num, .string r.text, .slice a2 r.items.length c2] 24)) w1.heap.size s (.slice a1 s.items.length c1)) := HA1.out.keeps hg
  have HB2 : Hid (Kept (w2.alloc (.cells #[.int .i64 r.kind, .int .i64 r.num, .string r.text, .slice a2 r.items.length c2] 24)) w2.heap.size r (.slice a2 r.items.length c2)) := kept_new hl2.lies
  clear hb hg HX1 hl2 H2 x0 x1 x2 x3 hb1 HA1
  by_cases he : e1 = 0
  · have H3' : Hid (∀ v W, Lies 16 W s.items v → Calls Try.prog 10 #[.int .i64 q, .int .i64 m, .agg #[.int .i64 s.kind, .int .i64 s.num, .string s.text, v]] W (VPost r 0 W)) := H3.out he
    subst he
    clear H3
    generalize w1.heap.size = B1 at *
    obtain ⟨⟨p0, p1, p2, p3, _, _, _, _⟩, _⟩ := HA2.out
    go_wp2_with fail
    refine Calls.mono (H3'.out _ _ HA2.out.lies) ?_
    rintro e w3 ⟨v3, rfl, hl3, hb⟩
    obtain ⟨a3, c3, rfl, _⟩ := LiesX.slice hl3
    obtain ⟨hb3, hg⟩ := below_new hb2 hb (.cells #[.int .i64 r.kind, .int .i64 r.num, .string r.text, .slice a3 r.items.length c3] 24)
    have HB3 : Hid (Kept (w3.alloc (.cells #[.int .i64 r.kind, .int .i64 r.num, .string r.text, .slice a3 r.items.length c3] 24)) w2.heap.size r (.slice a2 r.items.length c2)) := HB2.out.keeps hg
    have HC3 : Hid (Kept (w3.alloc (.cells #[.int .i64 r.kind, .int .i64 r.num, .string r.text, .slice a3 r.items.length c3] 24)) w3.heap.size r (.slice a3 r.items.length c3)) := kept_new hl3.lies
    clear hb hg hl3 H3' hb2 HA2 HB2 p0 p1 p2 p3
    generalize w2.heap.size = B2 at *
    obtain ⟨⟨p0, p1, p2, p3, _, _, _, _⟩, _⟩ := HB3.out
    go_wp2_with fail
    refine Calls.mono (HS.out r (.slice a2 r.items.length c2) (.slice a3 r.items.length c3) _ HB3.out.lies HC3.out.lies) ?_
    rintro e w6 ⟨rfl, hb⟩
    have hb6 : Below w.heap.size w w6 := hb3.trans (hb.mono hb3.size)
    clear hb hb3 HB3 HC3 p0 p1 p2 p3
    go_wp2_with fail
    refine (speaks_any _).mono ?_
    rintro e w7 ⟨rfl, hb⟩
    have hb7 : Below w.heap.size w w7 := hb6.trans (hb.mono hb6.size)
    go_wp2_with fail
    go_ret
    exact ⟨rfl, hb7⟩
  · have hne : (e1 != 0) = true := by simpa using he
    have hee : (e1 == e1) = true := by simp
    clear he H3
    go_wp2_with fail
    refine (speaks_any _).mono ?_
    rintro e w7 ⟨rfl, hb⟩
    have hb7 : Below w.heap.size w w7 := hb2.trans (hb.mono hb2.size)
    go_wp2_with fail
    go_ret
    exact ⟨rfl, hb7⟩

theorem moreLaw_walk (q n m : Int) (d : Nat) (t : VT) (u : Value) (w : World) (hu : Lies d w t.items u) (hs : t.text.size ≤ 9223372036854775807) :
    Calls Try.prog 7 #[.agg #[.int .i64 q, .int .i64 n, .int .i64 m], .agg #[.int .i64 t.kind, .int .i64 t.num, .string t.text, u]] w fun e w' => e = .returned (.bool true) ∧ Below w.heap.size w w' := by
  obtain ⟨a, c, rfl, _⟩ := Lies.slice hu
  by_cases h : n < 0 ∨ m < 0 ∨ 2000 < n ∨ 2000 < m
  · exact moreLaw_few q n m t a _ c w h
  · have eE : timesE d q (n + m) t = timesE d q n t := timesE_any d q (n + m) n t (by omega) (by omega) (by omega) (by omega)
    refine moreLaw_core q n m t (timesT d q n t) (timesT d q (n + m) t) (timesE d q n t) a _ c w (by omega) (by omega) (by omega) (by omega) (fun W hW => times_any d q n t _ W (Lies.keeps hW _ _ _ hu) hs) (fun W hW => ?_) (fun he v W hv => ?_)
    · have := times_any d q (n + m) t _ W (Lies.keeps hW _ _ _ hu) hs
      rwa [eE] at this
    · have hk : ¬ (q < 0 ∨ 8 ≤ q) := by
        intro hq
        unfold timesE at he
        rw [if_pos hq] at he
        omega
      have hr : rightV d t = true := by
        cases hr : rightV d t
        · exfalso
          unfold timesE at he
          rw [if_neg hk, if_neg (by omega), hr] at he
          simp at he
        · rfl
      have hc := canon hu hr
      have hd := right_deep hr (Dp.of_lies d w t _ hu)
      have es : timesT d q n t = itT (doneT q.toNat) n.toNat t := by unfold timesT; rw [if_pos he]
      have er : timesT d q (n + m) t = itT (doneT q.toNat) (n + m).toNat t := by unfold timesT; rw [if_pos (by rw [eE]; exact he)]
      have hri := it_right q.toNat hc.2 hd n.toNat
      rw [← es] at hri
      have hsz := right_size hri.1
      have h0 : timesE 16 q m (timesT d q n t) = 0 := by
        unfold timesE
        rw [if_neg hk, if_neg (by omega), if_pos hri.1]
      have h5 := times_any 16 q m (timesT d q n t) v W hv (by omega)
      have e5 : timesT 16 q m (timesT d q n t) = timesT d q (n + m) t := by
        rw [timesT_ok h0, er, es, it_add]
        congr 1
        omega
      rw [e5, h0] at h5
      exact h5

end Go.Proofs.Ytacnfmamjbmhcaa

