/-
  The walk of ValueLine, another way.
-/
import Derived.Test.YtfedbbicolbngaaLineW
namespace Go.Proofs.Ytfedbbicolbngaa
open Go.RowKit

set_option maxHeartbeats 2000000 in
theorem valueLine_A (hsp : Hid (∀ W : World, Calls Try.prog 15 #[] W fun e W' => e = .returned (.bool true) ∧ Below W.heap.size W W'))
    (d : Nat) (t s r : VT) (x y z : Value) (w : World) (hx : Lies d w t.items x) (hy : Lies d w s.items y) (hz : Lies d w r.items z) (hst : t.text.size ≤ 9223372036854775807) (hss : s.text.size ≤ 9223372036854775807) (h1 : cmpV d t s ≤ 0) (h2 : cmpV d s r ≤ 0) :
    Calls Try.prog 5 #[.agg #[.int .i64 t.kind, .int .i64 t.num, .string t.text, x], .agg #[.int .i64 s.kind, .int .i64 s.num, .string s.text, y], .agg #[.int .i64 r.kind, .int .i64 r.num, .string r.text, z]] w fun e w' => e = .returned (.bool true) ∧ Below w.heap.size w w' := by
  obtain ⟨ax, cx, rfl, _⟩ := Lies.slice hx
  obtain ⟨ay, cy, rfl, _⟩ := Lies.slice hy
  obtain ⟨az, cz, rfl, _⟩ := Lies.slice hz
  have hx : Hid (Lies d w t.items (.slice ax t.items.length cx)) := hx
  have hy : Hid (Lies d w s.items (.slice ay s.items.length cy)) := hy
  have hz : Hid (Lies d w r.items (.slice az r.items.length cz)) := hz
  have Hg : Hid _ := goes_V d t s r
  have Hself : Hid _ := cmpV_self d t
  have H3 : Hid (∀ o1 o2 o3 : Obj, Below w.heap.size w (((w.alloc o1).alloc o2).alloc o3)) := fun o1 o2 o3 => ((Grew.two w o1 o2).alloc o3).below
  have HT : Hid (Two (((w.alloc (.cells #[.int .i64 t.kind, .int .i64 t.num, .string t.text, .slice ax t.items.length cx] 24)).alloc (.cells #[.int .i64 s.kind, .int .i64 s.num, .string s.text, .slice ay s.items.length cy] 24)).alloc (.cells #[.int .i64 r.kind, .int .i64 r.num, .string r.text, .slice az r.items.length cz] 24)) w.heap.size t s (.slice ax t.items.length cx) (.slice ay s.items.length cy)) :=
    ⟨((boxed_alloc w _ _ _ _ 24).keeps ((Grew.refl _).alloc _).below).keeps ((Grew.refl _).alloc _).below, by
      have := (boxed_alloc (w.alloc (.cells #[.int .i64 t.kind, .int .i64 t.num, .string t.text, .slice ax t.items.length cx] 24)) s.kind s.num s.text (.slice ay s.items.length cy) 24).keeps ((Grew.refl _).alloc (.cells #[.int .i64 r.kind, .int .i64 r.num, .string r.text, .slice az r.items.length cz] 24)).below
      rw [World.size_alloc] at this
      exact this⟩
  have HC : Hid (Boxed (((w.alloc (.cells #[.int .i64 t.kind, .int .i64 t.num, .string t.text, .slice ax t.items.length cx] 24)).alloc (.cells #[.int .i64 s.kind, .int .i64 s.num, .string s.text, .slice ay s.items.length cy] 24)).alloc (.cells #[.int .i64 r.kind, .int .i64 r.num, .string r.text, .slice az r.items.length cz] 24)) (w.heap.size + 2) r.kind r.num r.text (.slice az r.items.length cz)) := by
    have := boxed_alloc ((w.alloc (.cells #[.int .i64 t.kind, .int .i64 t.num, .string t.text, .slice ax t.items.length cx] 24)).alloc (.cells #[.int .i64 s.kind, .int .i64 s.num, .string s.text, .slice ay s.items.length cy] 24)) r.kind r.num r.text (.slice az r.items.length cz) 24
    rw [World.size_alloc, World.size_alloc] at this
    exact this
  go_enter Try.func5, Try.ntmps5
  go_wp2_with fail
  refine (compare_any d t s _ _ _ (Lies.keeps (H3.out _ _ _) _ _ _ hx.out) (Lies.keeps (H3.out _ _ _) _ _ _ hy.out)).mono ?_
  rintro e W ⟨rfl, hb⟩
  have hbW : Below w.heap.size w W := (H3.out _ _ _).trans (hb.below.mono (by simp; omega))
  have HT1 : Hid (Two W w.heap.size t s (.slice ax t.items.length cx) (.slice ay s.items.length cy)) := HT.out.keeps hb.below
  have HC1 : Hid (Boxed W (w.heap.size + 2) r.kind r.num r.text (.slice az r.items.length cz)) := HC.out.keeps hb.below
  clear hb HT HC H3
  obtain ⟨⟨x0, x1, x2, x3⟩, y0, y1, y2, y3⟩ := HT1.out
  obtain ⟨z0, z1, z2, z3⟩ := HC1.out
  have mixed := mixed_try
  go_wp2_with fail
  refine (compare_any d s r _ _ _ (Lies.keeps hbW _ _ _ hy.out) (Lies.keeps hbW _ _ _ hz.out)).mono ?_
  rintro e W2 ⟨rfl, hb⟩
  have hbW2 : Below w.heap.size w W2 := hbW.trans (hb.below.mono hbW.size)
  have HT2 : Hid (Two W2 w.heap.size t s (.slice ax t.items.length cx) (.slice ay s.items.length cy)) := HT1.out.keeps hb.below
  have HC2 : Hid (Boxed W2 (w.heap.size + 2) r.kind r.num r.text (.slice az r.items.length cz)) := HC1.out.keeps hb.below
  clear hb HT1 HC1 x0 x1 x2 x3 y0 y1 y2 y3 z0 z1 z2 z3 hbW
  obtain ⟨⟨x0, x1, x2, x3⟩, y0, y1, y2, y3⟩ := HT2.out
  obtain ⟨z0, z1, z2, z3⟩ := HC2.out
  have h3 : cmpV d t r ≤ 0 := (Hg.out h1 h2).1
  go_wp2_with fail
  refine (compare_any d t r _ _ _ (Lies.keeps hbW2 _ _ _ hx.out) (Lies.keeps hbW2 _ _ _ hz.out)).mono ?_
  rintro e W3 ⟨rfl, hb⟩
  have hbW3 : Below w.heap.size w W3 := hbW2.trans (hb.below.mono hbW2.size)
  have HT3 : Hid (Two W3 w.heap.size t s (.slice ax t.items.length cx) (.slice ay s.items.length cy)) := HT2.out.keeps hb.below
  clear hb HT2 HC2 x0 x1 x2 x3 y0 y1 y2 y3 z0 z1 z2 z3 hbW2
  obtain ⟨⟨x0, x1, x2, x3⟩, y0, y1, y2, y3⟩ := HT3.out
  go_wp2_with fail
  have X : Hid (∀ n os, Lies d (Go.Sort.grow (W3.drewN n) os) t.items (.slice ax t.items.length cx)) := fun n os => Lies.keeps (grew_of_grow W3 n os).below _ _ _ (Lies.keeps hbW3 _ _ _ hx.out)
  have Y : Hid (∀ n os, Lies d (Go.Sort.grow (W3.drewN n) os) s.items (.slice ay s.items.length cy)) := fun n os => Lies.keeps (grew_of_grow W3 n os).below _ _ _ (Lies.keeps hbW3 _ _ _ hy.out)
  have G : Hid (∀ n os, Below w.heap.size w (Go.Sort.grow (W3.drewN n) os)) := fun n os => hbW3.trans ((grew_of_grow W3 n os).below.mono hbW3.size)
  have gx0 := cell_grown (cell_lt x0) x0; have gx1 := cell_grown (cell_lt x1) x1; have gx2 := cell_grown (cell_lt x2) x2; have gx3 := cell_grown (cell_lt x3) x3
  have gy0 := cell_grown (cell_lt y0) y0; have gy1 := cell_grown (cell_lt y1) y1; have gy2 := cell_grown (cell_lt y2) y2; have gy3 := cell_grown (cell_lt y3) y3
  clear x0 x1 x2 x3 y0 y1 y2 y3
  cases hra : rightV d t
  · have hck : Hid (∀ n os, Calls Try.prog 13 #[.agg #[.int .i64 t.kind, .int .i64 t.num, .string t.text, .slice ax t.items.length cx]] (Go.Sort.grow (W3.drewN n) os) fun e w' => e = .returned (.int .i64 3) ∧ Grew (Go.Sort.grow (W3.drewN n) os) w') := fun n os => by
      have h := check_grew d t _ (Go.Sort.grow (W3.drewN n) os) (X.out n os) hst
      rw [hra] at h; exact h
    go_quiet_grown (first | (go_at_call 13; exact quiet_of (hck.out _ _)))
    go_wp2_with fail
    have hcm := compare_any d t t _ _ (Go.Sort.grow (W3.drewN nq) osq) (X.out nq osq) (X.out nq osq)
    rw [Hself.out] at hcm
    refine Calls.mono hcm ?_
    rintro e wb ⟨rfl, hgb⟩
    have hbb : Below w.heap.size w wb := (G.out nq osq).trans (hgb.below.mono (G.out nq osq).size)
    clear hcm hgb gx0 gx1 gx2 gx3 gy0 gy1 gy2 gy3
    go_wp2_with fail
    refine (hsp.out _).mono ?_
    rintro e wc ⟨rfl, hbc⟩
    go_wp2_with fail
    go_ret
    exact ⟨rfl, hbb.trans (hbc.mono hbb.size)⟩
  · have hcka : Hid (∀ n os, Calls Try.prog 13 #[.agg #[.int .i64 t.kind, .int .i64 t.num, .string t.text, .slice ax t.items.length cx]] (Go.Sort.grow (W3.drewN n) os) fun e w' => e = .returned (.int .i64 0) ∧ Grew (Go.Sort.grow (W3.drewN n) os) w') := fun n os => by
      have h := check_grew d t _ (Go.Sort.grow (W3.drewN n) os) (X.out n os) hst
      rw [hra] at h; exact h
    cases hrb : rightV d s
    · have hckb : Hid (∀ n os, Calls Try.prog 13 #[.agg #[.int .i64 s.kind, .int .i64 s.num, .string s.text, .slice ay s.items.length cy]] (Go.Sort.grow (W3.drewN n) os) fun e w' => e = .returned (.int .i64 3) ∧ Grew (Go.Sort.grow (W3.drewN n) os) w') := fun n os => by
        have h := check_grew d s _ (Go.Sort.grow (W3.drewN n) os) (Y.out n os) hss
        rw [hrb] at h; exact h
      go_quiet_grown (first | (go_at_call_of 13 (VT.kind t); exact quiet_of (hcka.out _ _)) | (go_at_call_of 13 (VT.kind s); exact quiet_of (hckb.out _ _)))
      go_wp2_with fail
      have hcm := compare_any d t t _ _ (Go.Sort.grow (W3.drewN nq) osq) (X.out nq osq) (X.out nq osq)
      rw [Hself.out] at hcm
      refine Calls.mono hcm ?_
      rintro e wb ⟨rfl, hgb⟩
      have hbb : Below w.heap.size w wb := (G.out nq osq).trans (hgb.below.mono (G.out nq osq).size)
      clear hcm hgb gx0 gx1 gx2 gx3 gy0 gy1 gy2 gy3
      go_wp2_with fail
      refine (hsp.out _).mono ?_
      rintro e wc ⟨rfl, hbc⟩
      go_wp2_with fail
      go_ret
      exact ⟨rfl, hbb.trans (hbc.mono hbb.size)⟩
    · have hckb : Hid (∀ n os, Calls Try.prog 13 #[.agg #[.int .i64 s.kind, .int .i64 s.num, .string s.text, .slice ay s.items.length cy]] (Go.Sort.grow (W3.drewN n) os) fun e w' => e = .returned (.int .i64 0) ∧ Grew (Go.Sort.grow (W3.drewN n) os) w') := fun n os => by
        have h := check_grew d s _ (Go.Sort.grow (W3.drewN n) os) (Y.out n os) hss
        rw [hrb] at h; exact h
      have hqe : Hid (∀ n os, Calls Try.prog 18 #[.agg #[.int .i64 t.kind, .int .i64 t.num, .string t.text, .slice ax t.items.length cx], .agg #[.int .i64 s.kind, .int .i64 s.num, .string s.text, .slice ay s.items.length cy]] (Go.Sort.grow (W3.drewN n) os) fun e w' => e = .returned (.bool (sameV d t s)) ∧ Grew (Go.Sort.grow (W3.drewN n) os) w') := fun n os => by
        have h := equal_any d t s _ _ (Go.Sort.grow (W3.drewN n) os) (X.out n os) (Y.out n os)
        rw [right_same d t s hra hrb] at h; exact h
      have hqs : Hid (∀ n os, Calls Try.prog 19 #[.agg #[.int .i64 t.kind, .int .i64 t.num, .string t.text, .slice ax t.items.length cx], .agg #[.int .i64 s.kind, .int .i64 s.num, .string s.text, .slice ay s.items.length cy]] (Go.Sort.grow (W3.drewN n) os) fun e w' => e = .returned (.bool (sameV d t s)) ∧ Grew (Go.Sort.grow (W3.drewN n) os) w') := fun n os => same_any d t s _ _ (Go.Sort.grow (W3.drewN n) os) (X.out n os) (Y.out n os)
      go_quiet_grown (first | (go_at_call_of 13 (VT.kind t); exact quiet_of (hcka.out _ _)) | (go_at_call_of 13 (VT.kind s); exact quiet_of (hckb.out _ _)) | (go_at_call 18; exact quiet_of (hqe.out _ _)) | (go_at_call 19; exact quiet_of (hqs.out _ _)))
      have hne : (sameV d t s != sameV d t s) = false := by simp
      go_wp2_with fail
      have hcm := compare_any d t t _ _ (Go.Sort.grow (W3.drewN nq) osq) (X.out nq osq) (X.out nq osq)
      rw [Hself.out] at hcm
      refine Calls.mono hcm ?_
      rintro e wb ⟨rfl, hgb⟩
      have hbb : Below w.heap.size w wb := (G.out nq osq).trans (hgb.below.mono (G.out nq osq).size)
      clear hcm hgb gx0 gx1 gx2 gx3 gy0 gy1 gy2 gy3
      go_wp2_with fail
      refine (hsp.out _).mono ?_
      rintro e wc ⟨rfl, hbc⟩
      go_wp2_with fail
      go_ret
      exact ⟨rfl, hbb.trans (hbc.mono hbb.size)⟩

end Go.Proofs.Ytfedbbicolbngaa
