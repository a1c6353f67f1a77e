/-
  The walk of FnsRight.
-/
import Derived.Test.YtacnfmamjbmhcaaTwo3
import Derived.Test.YtacnfmamjbmhcaaSpeaks
namespace Go.Proofs.Ytacnfmamjbmhcaa
open Go.RowKit

/-- A variable that holds a value. -/
structure KeptR (W : World) (B : Nat) (s : VT) (u : Value) : Prop where
  box : Bx W B s u
  lies : Lies 16 W s.items u

theorem KeptR.keeps {W W' : World} {B : Nat} {s : VT} {u : Value} (h : KeptR W B s u) (hb : Below W.heap.size W W') : KeptR W' B s u := ⟨h.box.keeps hb, Lies.keeps hb _ _ _ h.lies⟩

theorem keptR_new {w : World} {s : VT} {u : Value} (h : Lies 16 w s.items u) : KeptR (w.alloc (.cells #[.int .i64 s.kind, .int .i64 s.num, .string s.text, u] 24)) w.heap.size s u := ⟨bx_alloc w s u, Lies.keeps ((Grew.refl w).alloc _).below _ _ _ h⟩

theorem belowR_new {w W W' : World} (h0 : Below w.heap.size w W) (h : Below W.heap.size W W') (o : Obj) : Below w.heap.size w (W'.alloc o) ∧ Below W.heap.size W (W'.alloc o) :=
  ⟨(h0.trans (h.mono h0.size)).alloc (h0.trans (h.mono h0.size)).size o, h.alloc h.size o⟩

set_option maxHeartbeats 4000000 in
theorem fright_core (q : Int) (t s x y : VT) (b : Bool) (e1 e2 : Int) (a a2 : Option Addr) (l c l2 c2 : Nat) (w : World)
    (H1 : Hid (∀ W, Below w.heap.size w W → Calls Try.prog 8 #[.int .i64 q, .agg #[.int .i64 t.kind, .int .i64 t.num, .string t.text, .slice a l c]] W (VPost x e1 W)))
    (H2 : Hid (∀ W, Below w.heap.size w W → Calls Try.prog 16 #[.int .i64 q, .agg #[.int .i64 t.kind, .int .i64 t.num, .string t.text, .slice a l c], .agg #[.int .i64 s.kind, .int .i64 s.num, .string s.text, .slice a2 l2 c2]] W (TPost y b e2 W)))
    (R1 : Hid (e1 = 0 → rightV 16 x = true)) (R2 : Hid (e2 = 0 → rightV 16 y = true)) :
    Calls Try.prog 6 #[.int .i64 q, .agg #[.int .i64 t.kind, .int .i64 t.num, .string t.text, .slice a l c], .agg #[.int .i64 s.kind, .int .i64 s.num, .string s.text, .slice a2 l2 c2]] w fun e w' => e = .returned (.bool true) ∧ Below w.heap.size w w' := by
  have hal : Below w.heap.size w ((w.alloc (.cells #[.int .i64 t.kind, .int .i64 t.num, .string t.text, .slice a l c] 24)).alloc (.cells #[.int .i64 s.kind, .int .i64 s.num, .string s.text, .slice a2 l2 c2] 24)) := (Grew.two _ _ _).below
  have HX : Hid (Bx ((w.alloc (.cells #[.int .i64 t.kind, .int .i64 t.num, .string t.text, .slice a l c] 24)).alloc (.cells #[.int .i64 s.kind, .int .i64 s.num, .string s.text, .slice a2 l2 c2] 24)) w.heap.size t (.slice a l c)) := (bx_alloc w t _).keeps ((Grew.refl _).alloc _).below
  have HY : Hid (Bx ((w.alloc (.cells #[.int .i64 t.kind, .int .i64 t.num, .string t.text, .slice a l c] 24)).alloc (.cells #[.int .i64 s.kind, .int .i64 s.num, .string s.text, .slice a2 l2 c2] 24)) (w.heap.size + 1) s (.slice a2 l2 c2)) := by
    have := bx_alloc (w.alloc (.cells #[.int .i64 t.kind, .int .i64 t.num, .string t.text, .slice a l c] 24)) s (.slice a2 l2 c2)
    rwa [World.size_alloc] at this
  have HCk : Hid (∀ (p : VT) (v : Value) (W : World), Lies 16 W p.items v → rightV 16 p = true → Calls Try.prog 18 #[.agg #[.int .i64 p.kind, .int .i64 p.num, .string p.text, v]] W fun e W' => e = .returned (.int .i64 0) ∧ Below W.heap.size W W') := fun p v W hl hr => (check_any 16 p v W hl (by have := right_size hr; omega)).mono fun e W' h => ⟨by rw [h.1, hr]; rfl, h.2⟩
  go_enter Try.func6, Try.ntmps6
  go_wp2_with fail
  refine Calls.mono (H1.out _ hal) ?_
  rintro e w1 ⟨v1, rfl, hl1, hb⟩
  obtain ⟨a1, c1, rfl, _⟩ := LiesX.slice hl1
  obtain ⟨hb1, hg⟩ := belowR_new hal hb (.cells #[.int .i64 x.kind, .int .i64 x.num, .string x.text, .slice a1 x.items.length c1] 24)
  obtain ⟨x0, x1, x2, x3, _, _, _, _⟩ := HX.out.keeps hg
  obtain ⟨u0, u1, u2, u3, _, _, _, _⟩ := HY.out.keeps hg
  have HA1 : Hid (KeptR (w1.alloc (.cells #[.int .i64 x.kind, .int .i64 x.num, .string x.text, .slice a1 x.items.length c1] 24)) w1.heap.size x (.slice a1 x.items.length c1)) := keptR_new hl1.lies
  clear hal hb hg HX HY hl1 H1
  go_wp2_with fail
  refine Calls.mono (H2.out _ hb1) ?_
  rintro e w2 ⟨v2, rfl, hl2, hb⟩
  obtain ⟨a3, c3, rfl, _⟩ := LiesX.slice hl2
  obtain ⟨hb2, hg⟩ := belowR_new hb1 hb (.cells #[.int .i64 y.kind, .int .i64 y.num, .string y.text, .slice a3 y.items.length c3] 24)
  have HA2 : Hid (KeptR (w2.alloc (.cells #[.int .i64 y.kind, .int .i64 y.num, .string y.text, .slice a3 y.items.length c3] 24)) w1.heap.size x (.slice a1 x.items.length c1)) := HA1.out.keeps hg
  have HB2 : Hid (KeptR (w2.alloc (.cells #[.int .i64 y.kind, .int .i64 y.num, .string y.text, .slice a3 y.items.length c3] 24)) w2.heap.size y (.slice a3 y.items.length c3)) := keptR_new hl2.lies
  clear hb hg hl2 H2 x0 x1 x2 x3 u0 u1 u2 u3 hb1 HA1
  generalize w1.heap.size = B1 at *
  obtain ⟨⟨p0, p1, p2, p3, _, _, _, _⟩, _⟩ := HA2.out
  by_cases he1 : e1 = 0
  · have hr1 : Hid (rightV 16 x = true) := R1.out he1
    subst he1
    clear R1
    go_wp2_with fail
    refine Calls.mono (HCk.out x (.slice a1 x.items.length c1) _ HA2.out.lies hr1.out) ?_
    rintro e w3 ⟨rfl, hb⟩
    have hb3 : Below w.heap.size w w3 := hb2.trans (hb.mono hb2.size)
    have HB3 : Hid (KeptR w3 w2.heap.size y (.slice a3 y.items.length c3)) := HB2.out.keeps hb
    clear hb hb2 HA2 HB2 p0 p1 p2 p3
    generalize w2.heap.size = B2 at *
    obtain ⟨⟨m0, m1, m2, m3, _, _, _, _⟩, _⟩ := HB3.out
    by_cases he2 : e2 = 0
    · have hr2 : Hid (rightV 16 y = true) := R2.out he2
      subst he2
      clear R2
      go_wp2_with fail
      refine Calls.mono (HCk.out y (.slice a3 y.items.length c3) _ HB3.out.lies hr2.out) ?_
      rintro e w4 ⟨rfl, hb⟩
      have hb4 : Below w.heap.size w w4 := hb3.trans (hb.mono hb3.size)
      clear hb hb3 HB3 m0 m1 m2 m3
      go_wp2_with fail
      refine (speaks_any _).mono ?_
      rintro e w5 ⟨rfl, hb⟩
      have hb5 : Below w.heap.size w w5 := hb4.trans (hb.mono hb4.size)
      go_wp2_with fail
      go_ret
      exact ⟨rfl, hb5⟩
    · have hne2 : (e2 != 0) = true := by simpa using he2
      clear R2 he2
      go_wp2_with fail
      refine (speaks_any _).mono ?_
      rintro e w5 ⟨rfl, hb⟩
      have hb5 : Below w.heap.size w w5 := hb3.trans (hb.mono hb3.size)
      go_wp2_with fail
      go_ret
      exact ⟨rfl, hb5⟩
  · have hne1 : (e1 != 0) = true := by simpa using he1
    clear R1 he1
    generalize w2.heap.size = B2 at *
    obtain ⟨⟨m0, m1, m2, m3, _, _, _, _⟩, _⟩ := HB2.out
    by_cases he2 : e2 = 0
    · have hr2 : Hid (rightV 16 y = true) := R2.out he2
      subst he2
      clear R2
      go_wp2_with fail
      refine Calls.mono (HCk.out y (.slice a3 y.items.length c3) _ HB2.out.lies hr2.out) ?_
      rintro e w4 ⟨rfl, hb⟩
      have hb4 : Below w.heap.size w w4 := hb2.trans (hb.mono hb2.size)
      clear hb hb2 HB2 HA2 m0 m1 m2 m3 p0 p1 p2 p3
      go_wp2_with fail
      refine (speaks_any _).mono ?_
      rintro e w5 ⟨rfl, hb⟩
      have hb5 : Below w.heap.size w w5 := hb4.trans (hb.mono hb4.size)
      go_wp2_with fail
      go_ret
      exact ⟨rfl, hb5⟩
    · have hne2 : (e2 != 0) = true := by simpa using he2
      clear R2 he2
      go_wp2_with fail
      refine (speaks_any _).mono ?_
      rintro e w5 ⟨rfl, hb⟩
      have hb5 : Below w.heap.size w w5 := hb2.trans (hb.mono hb2.size)
      go_wp2_with fail
      go_ret
      exact ⟨rfl, hb5⟩

theorem fright_walk (q : Int) (d1 d2 : Nat) (t s : VT) (u v : Value) (w : World) (hu : Lies d1 w t.items u) (hv : Lies d2 w s.items v) (hs : t.text.size ≤ 9223372036854775807) (hs2 : s.text.size ≤ 9223372036854775807) :
    Calls Try.prog 6 #[.int .i64 q, .agg #[.int .i64 t.kind, .int .i64 t.num, .string t.text, u], .agg #[.int .i64 s.kind, .int .i64 s.num, .string s.text, v]] w fun e w' => e = .returned (.bool true) ∧ Below w.heap.size w w' := by
  have hu' := hu.atLeast (max d1 d2) (by omega)
  have hv' := hv.atLeast (max d1 d2) (by omega)
  generalize max d1 d2 = d at *
  obtain ⟨a, c, rfl, _⟩ := Lies.slice hu
  obtain ⟨a2, c2, rfl, _⟩ := Lies.slice hv
  exact fright_core q t s _ _ _ _ _ a a2 _ c _ c2 w (fun W hW => one_any d q t _ W (Lies.keeps hW _ _ _ hu') hs) (fun W hW => two_any d q t s _ _ W (Lies.keeps hW _ _ _ hu') (Lies.keeps hW _ _ _ hv') hs hs2) (fun h => times_right hu' h) (fun h => two_right hu' hv' h)

end Go.Proofs.Ytacnfmamjbmhcaa

