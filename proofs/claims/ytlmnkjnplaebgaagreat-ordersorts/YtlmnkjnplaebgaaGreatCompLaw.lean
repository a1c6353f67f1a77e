/-
  The contract of the document's Compare, and the walk of OrderCompares.
-/
import Derived.Test.YtlmnkjnplaebgaaGreatROrd
import Derived.Test.YtlmnkjnplaebgaaGreatSpeaks6
namespace Go.Proofs.YtlmnkjnplaebgaaGreat
open Go.RowKit

/-- Is there such an order? -/
def kindO (o : Int) : Bool := decide (0 ≤ o ∧ o ≤ 5)

theorem rkind6_any (o : Int) (w : World) : Calls Tryz.prog 26 #[.int .i64 o] w fun e w' => e = .returned (.bool (kindO o)) ∧ w' = w := by
  unfold kindO
  by_cases h1 : 0 ≤ o
  · by_cases h2 : o ≤ 5
    · rw [decide_eq_true (show 0 ≤ o ∧ o ≤ 5 from ⟨h1, h2⟩)]
      go_enter Tryz.func26, Tryz.ntmps26
      go_wp2
      go_ret
      exact ⟨rfl, rfl⟩
    · rw [decide_eq_false (show ¬ (0 ≤ o ∧ o ≤ 5) from fun h => h2 h.2)]
      go_enter Tryz.func26, Tryz.ntmps26
      go_wp2
      go_ret
      exact ⟨rfl, rfl⟩
  · rw [decide_eq_false (show ¬ (0 ≤ o ∧ o ≤ 5) from fun h => h1 h.1)]
    go_enter Tryz.func26, Tryz.ntmps26
    go_wp2
    go_ret
    exact ⟨rfl, rfl⟩

set_option maxHeartbeats 2000000 in
theorem rcompare6_any (d : Nat) (o : Int) (t s : VT) (x y : Value) (w : World) (hx : Lies d w t.items x) (hy : Lies d w s.items y) :
    Calls Tryz.prog 8 #[.int .i64 o, .agg #[.int .i64 t.kind, .int .i64 t.num, .string t.text, x], .agg #[.int .i64 s.kind, .int .i64 s.num, .string s.text, y]] w fun e w' => e = .returned (.tuple #[.int .i64 (ordR d o t s), .int .i64 (ordE d o t s)]) ∧ Below w.heap.size w w' := by
  obtain ⟨ax, cx, rfl, _⟩ := Lies.slice hx
  obtain ⟨ay, cy, rfl, _⟩ := Lies.slice hy
  have HX : Hid (Lies d w t.items (.slice ax t.items.length cx)) := hx
  have HY : Hid (Lies d w s.items (.slice ay s.items.length cy)) := hy
  clear hx hy
  have HBx : Hid (Boxed (twoW w t s (.slice ax t.items.length cx) (.slice ay s.items.length cy)) w.heap.size t.kind t.num t.text (.slice ax t.items.length cx) ∧ Boxed (twoW w t s (.slice ax t.items.length cx) (.slice ay s.items.length cy)) (w.heap.size + 1) s.kind s.num s.text (.slice ay s.items.length cy)) := two_boxes w t s _ _
  have hb0 : Below w.heap.size w (twoW w t s (.slice ax t.items.length cx) (.slice ay s.items.length cy)) := (Grew.two w _ _).below
  by_cases ho : o < 0 ∨ 6 ≤ o
  · have hE : ordE d o t s = 4 := by unfold ordE; rw [if_pos ho]
    have hR : ordR d o t s = 0 := by unfold ordR; rw [if_neg (by omega)]
    rw [hE, hR]
    have hk : kindO o = false := decide_eq_false (by omega)
    clear hE hR ho HX HY
    go_enter Tryz.func8, Tryz.ntmps8
    go_wp2_with fail
    refine (rkind6_any o _).mono ?_
    rintro e w' ⟨rfl, rfl⟩
    rw [hk]
    go_wp2_with fail
    go_ret2
    exact ⟨rfl, hb0⟩
  · obtain ⟨q, rfl⟩ : ∃ q : Nat, o = q := ⟨o.toNat, by omega⟩
    have hq : q < 6 := by omega
    have hk : kindO q = true := decide_eq_true (by omega)
    have He : Hid (ordE d q t s = if rightV d t = true ∧ rightV d s = true then 0 else 3) := by
      show _ = _
      unfold ordE; rw [if_neg (by omega)]
    have Hr0 : Hid (ordE d q t s = 0 → ordR d q t s = ordV q t s) := fun h => by unfold ordR; rw [if_pos h]; simp
    have Hr1 : Hid (ordE d q t s = 3 → ordR d q t s = 0) := fun h => by unfold ordR; rw [if_neg (by omega)]
    generalize ordE d q t s = E at *
    generalize ordR d q t s = R at *
    have Hc : Hid (∀ W : World, Lies 16 W t.items (.slice ax t.items.length cx) → Lies 16 W s.items (.slice ay s.items.length cy) → rightV 16 t = true → rightV 16 s = true → Calls Tryz.prog 28 #[.int .i64 q, .agg #[.int .i64 t.kind, .int .i64 t.num, .string t.text, .slice ax t.items.length cx], .agg #[.int .i64 s.kind, .int .i64 s.num, .string s.text, .slice ay s.items.length cy]] W fun e w' => e = .returned (.int .i64 (ordV q t s)) ∧ Below W.heap.size W w') := fun W h1 h2 h3 h4 => rordV_any q hq t s _ _ W h1 h2 h3 h4
    generalize ordV q t s = Z at *
    clear ho
    go_enter Tryz.func8, Tryz.ntmps8
    go_wp2_with fail
    refine (rkind6_any q _).mono ?_
    rintro e w' ⟨rfl, rfl⟩
    rw [hk]
    go_wp2_with fail
    refine (right_any d t _ _ (Lies.keeps hb0 _ _ _ HX.out)).mono ?_
    rintro e w1 ⟨rfl, hb⟩
    have hb1 : Below w.heap.size w w1 := hb0.trans (hb.mono hb0.size)
    have HB1 : Hid (Boxed w1 w.heap.size t.kind t.num t.text (.slice ax t.items.length cx) ∧ Boxed w1 (w.heap.size + 1) s.kind s.num s.text (.slice ay s.items.length cy)) := ⟨HBx.out.1.keeps hb, HBx.out.2.keeps hb⟩
    clear hb HBx hb0 hk
    obtain ⟨⟨x0, x1, x2, x3⟩, ⟨y0, y1, y2, y3⟩⟩ := HB1.out
    cases hrt : rightV d t
    · have hE : E = 3 := by rw [He.out, hrt]; simp
      have hR : R = 0 := Hr1.out hE
      subst hE hR
      clear He Hr0 Hr1
      go_wp2_with fail
      go_ret2
      exact ⟨rfl, hb1⟩
    · go_wp2_with fail
      refine (right_any d s _ _ (Lies.keeps hb1 _ _ _ HY.out)).mono ?_
      rintro e w2 ⟨rfl, hb⟩
      have hb2 : Below w.heap.size w w2 := hb1.trans (hb.mono hb1.size)
      have HB2 : Hid (Boxed w2 w.heap.size t.kind t.num t.text (.slice ax t.items.length cx) ∧ Boxed w2 (w.heap.size + 1) s.kind s.num s.text (.slice ay s.items.length cy)) := ⟨HB1.out.1.keeps hb, HB1.out.2.keeps hb⟩
      clear hb HB1 hb1 x0 x1 x2 x3 y0 y1 y2 y3
      obtain ⟨⟨x0, x1, x2, x3⟩, ⟨y0, y1, y2, y3⟩⟩ := HB2.out
      cases hrs : rightV d s
      · have hE : E = 3 := by rw [He.out, hrs]; simp
        have hR : R = 0 := Hr1.out hE
        subst hE hR
        clear He Hr0 Hr1
        go_wp2_with fail
        go_ret2
        exact ⟨rfl, hb2⟩
      · have hE : E = 0 := by rw [He.out, hrt, hrs]; simp
        have hR : R = Z := Hr0.out hE
        subst hE hR
        have h1 := canon HX.out hrt
        have h2 := canon HY.out hrs
        have H1 : Hid (Lies 16 w t.items (.slice ax t.items.length cx) ∧ rightV 16 t = true) := h1
        have H2 : Hid (Lies 16 w s.items (.slice ay s.items.length cy) ∧ rightV 16 s = true) := h2
        clear h1 h2 He Hr0 Hr1 hrt hrs HX HY
        go_wp2_with fail
        refine (Hc.out _ (Lies.keeps hb2 _ _ _ H1.out.1) (Lies.keeps hb2 _ _ _ H2.out.1) H1.out.2 H2.out.2).mono ?_
        rintro e w3 ⟨rfl, hb⟩
        have hb3 : Below w.heap.size w w3 := hb2.trans (hb.mono hb2.size)
        clear hb x0 x1 x2 x3 y0 y1 y2 y3
        go_wp2_with fail
        go_ret2
        exact ⟨rfl, hb3⟩

set_option maxHeartbeats 2000000 in
theorem compLaw_core (o : Int) (t s : VT) (ax ay : Option Addr) (lx cx ly cy : Nat) (w : World) (R E : Int)
    (H1 : Hid (∀ W, Below w.heap.size w W → Calls Tryz.prog 7 #[.int .i64 o, .agg #[.int .i64 t.kind, .int .i64 t.num, .string t.text, .slice ax lx cx], .agg #[.int .i64 s.kind, .int .i64 s.num, .string s.text, .slice ay ly cy]] W fun e W' => e = .returned (.tuple #[.int .i64 R, .int .i64 E]) ∧ Below W.heap.size W W'))
    (H2 : Hid (∀ W, Below w.heap.size w W → Calls Tryz.prog 8 #[.int .i64 o, .agg #[.int .i64 t.kind, .int .i64 t.num, .string t.text, .slice ax lx cx], .agg #[.int .i64 s.kind, .int .i64 s.num, .string s.text, .slice ay ly cy]] W fun e W' => e = .returned (.tuple #[.int .i64 R, .int .i64 E]) ∧ Below W.heap.size W W')) :
    Calls Tryz.prog 3 #[.int .i64 o, .agg #[.int .i64 t.kind, .int .i64 t.num, .string t.text, .slice ax lx cx], .agg #[.int .i64 s.kind, .int .i64 s.num, .string s.text, .slice ay ly cy]] w fun e w' => e = .returned (.bool true) ∧ Below w.heap.size w w' := by
  have hsp : Hid (∀ w, Calls Tryz.prog 9 #[] w fun e w' => e = .returned (.bool true) ∧ Below w.heap.size w w') := speaks_any
  have HBx : Hid (Boxed (twoW w t s (.slice ax lx cx) (.slice ay ly cy)) w.heap.size t.kind t.num t.text (.slice ax lx cx) ∧ Boxed (twoW w t s (.slice ax lx cx) (.slice ay ly cy)) (w.heap.size + 1) s.kind s.num s.text (.slice ay ly cy)) := two_boxes w t s _ _
  have hb0 : Below w.heap.size w (twoW w t s (.slice ax lx cx) (.slice ay ly cy)) := (Grew.two w _ _).below
  go_enter Tryz.func3, Tryz.ntmps3
  go_wp2_with fail
  refine (H1.out _ hb0).mono ?_
  rintro e w1 ⟨rfl, hb⟩
  have hb1 : Below w.heap.size w w1 := hb0.trans (hb.mono hb0.size)
  obtain ⟨⟨x0, x1, x2, x3⟩, ⟨y0, y1, y2, y3⟩⟩ := (⟨HBx.out.1.keeps hb, HBx.out.2.keeps hb⟩ : Boxed w1 w.heap.size t.kind t.num t.text (.slice ax lx cx) ∧ Boxed w1 (w.heap.size + 1) s.kind s.num s.text (.slice ay ly cy))
  clear hb HBx hb0
  go_wp2_with fail
  refine (H2.out _ hb1).mono ?_
  rintro e w2 ⟨rfl, hb⟩
  have hb2 : Below w.heap.size w w2 := hb1.trans (hb.mono hb1.size)
  clear hb x0 x1 x2 x3 y0 y1 y2 y3
  go_wp2_with fail
  refine (hsp.out _).mono ?_
  rintro e w3 ⟨rfl, hb⟩
  have hb3 : Below w.heap.size w w3 := hb2.trans (hb.mono hb2.size)
  clear hb
  go_wp2_with fail
  go_ret
  exact ⟨rfl, hb3⟩

theorem compLaw_walk (o : Int) (n m : Nat) (t s : VT) (x y : Value) (w : World) (hx : Lies n w t.items x) (hy : Lies m w s.items y) (ht : t.text.size ≤ 9223372036854775807) (hs : s.text.size ≤ 9223372036854775807) :
    Calls Tryz.prog 3 #[.int .i64 o, .agg #[.int .i64 t.kind, .int .i64 t.num, .string t.text, x], .agg #[.int .i64 s.kind, .int .i64 s.num, .string s.text, y]] w fun e w' => e = .returned (.bool true) ∧ Below w.heap.size w w' := by
  have hx2 := hx.atLeast (max n m) (by omega)
  have hy2 := hy.atLeast (max n m) (by omega)
  obtain ⟨ax, cx, rfl, _⟩ := Lies.slice hx
  obtain ⟨ay, cy, rfl, _⟩ := Lies.slice hy
  exact compLaw_core o t s ax ay _ cx _ cy w _ _ (fun W hW => compareO_any (max n m) o t s _ _ W (Lies.keeps hW _ _ _ hx2) (Lies.keeps hW _ _ _ hy2) ht hs) (fun W hW => rcompare6_any (max n m) o t s _ _ W (Lies.keeps hW _ _ _ hx2) (Lies.keeps hW _ _ _ hy2))

end Go.Proofs.YtlmnkjnplaebgaaGreat
