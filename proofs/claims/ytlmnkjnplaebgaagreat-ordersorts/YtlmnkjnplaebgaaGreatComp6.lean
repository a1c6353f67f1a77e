/-
  The contract of order.Compare.
-/
import Derived.Test.YtlmnkjnplaebgaaGreatMsrd
namespace Go.Proofs.YtlmnkjnplaebgaaGreat
open Go.RowKit Go.Shelf

/-- The error of Compare. -/
def ordE (d : Nat) (o : Int) (t s : VT) : Int := if o < 0 ∨ 6 ≤ o then 4 else if rightV d t = true ∧ rightV d s = true then 0 else 3

/-- What Compare tells. -/
def ordR (d : Nat) (o : Int) (t s : VT) : Int := if ordE d o t s = 0 then ordV o.toNat t s else 0

/-- Two values' boxes and the row's. -/
structure DeskC (W : World) (n B f0 f1 : Nat) (t s : VT) (x y : Value) : Prop where
  b1 : Boxed W n t.kind t.num t.text x
  b2 : Boxed W (n + 1) s.kind s.num s.text y
  g0 : W.cell? ⟨B, 0, none⟩ = some (fv f0)
  g1 : W.cell? ⟨B, 1, none⟩ = some (fv f1)

theorem DeskC.keeps {W W' : World} {n B f0 f1 : Nat} {t s : VT} {x y : Value} (h : DeskC W n B f0 f1 t s x y) (hb : Below W.heap.size W W') : DeskC W' n B f0 f1 t s x y :=
  ⟨h.b1.keeps hb, h.b2.keeps hb, cell_keeps hb h.g0, cell_keeps hb h.g1⟩

/-- Two boxes. -/
abbrev twoW (w : World) (t s : VT) (x y : Value) : World := (w.alloc (.cells #[.int .i64 t.kind, .int .i64 t.num, .string t.text, x] 24)).alloc (.cells #[.int .i64 s.kind, .int .i64 s.num, .string s.text, y] 24)

theorem two_boxes (w : World) (t s : VT) (x y : Value) : Boxed (twoW w t s x y) w.heap.size t.kind t.num t.text x ∧ Boxed (twoW w t s x y) (w.heap.size + 1) s.kind s.num s.text y := by
  refine ⟨(boxed_alloc w t.kind t.num t.text x 24).keeps ((Grew.refl _).alloc _).below, ?_⟩
  have := boxed_alloc (w.alloc (.cells #[.int .i64 t.kind, .int .i64 t.num, .string t.text, x] 24)) s.kind s.num s.text y 24
  rwa [World.size_alloc] at this

set_option maxHeartbeats 2000000 in
theorem compareO_kind (o : Int) (t s : VT) (ax ay : Option Addr) (lx cx ly cy : Nat) (w : World) (ho : o < 0 ∨ 6 ≤ o) :
    Calls Tryz.prog 7 #[.int .i64 o, .agg #[.int .i64 t.kind, .int .i64 t.num, .string t.text, .slice ax lx cx], .agg #[.int .i64 s.kind, .int .i64 s.num, .string s.text, .slice ay ly cy]] w fun e w' => e = .returned (.tuple #[.int .i64 0, .int .i64 4]) ∧ Below w.heap.size w w' := by
  have HO : Hid (o < 0 ∨ 6 ≤ o) := ho
  clear ho
  have HB : Hid (Below w.heap.size w (tabW (twoW w t s (.slice ax lx cx) (.slice ay ly cy)))) := (((Grew.refl w).alloc _).alloc _).alloc _ |>.below
  go_enter Tryz.func7, Tryz.ntmps7
  go_wp2_with fail
  refine (rows_any _).mono ?_
  rintro e w1 ⟨rfl, rfl⟩
  go_wp2_with fail
  refine (rowO_no _ o _ HO.out).mono ?_
  rintro e w1 ⟨rfl, hb⟩
  have hb1 : Below w.heap.size w w1 := HB.out.trans (hb.mono HB.out.size)
  clear hb HB HO
  go_wp2_with fail
  go_ret2
  exact ⟨rfl, hb1.alloc hb1.size _⟩

set_option maxHeartbeats 4000000 in
theorem compareO_some (d q : Nat) (hq : q < 6) (t s : VT) (x y : Value) (w : World) (hx : Lies d w t.items x) (hy : Lies d w s.items y) (ht : t.text.size ≤ 9223372036854775807) (hs : s.text.size ≤ 9223372036854775807) :
    Calls Tryz.prog 7 #[.int .i64 q, .agg #[.int .i64 t.kind, .int .i64 t.num, .string t.text, x], .agg #[.int .i64 s.kind, .int .i64 s.num, .string s.text, y]] w fun e w' => e = .returned (.tuple #[.int .i64 (ordR d q t s), .int .i64 (ordE d q t s)]) ∧ Below w.heap.size w w' := by
  obtain ⟨ax, cx, rfl, _⟩ := Lies.slice hx
  obtain ⟨ay, cy, rfl, _⟩ := Lies.slice hy
  have HX : Hid (Lies d w t.items (.slice ax t.items.length cx)) := hx
  have HY : Hid (Lies d w s.items (.slice ay s.items.length cy)) := hy
  clear hx hy
  have Hm : Hid (∀ (r : VT) (u : Value) (W : World), Lies 16 W r.items u → rightV 16 r = true → Calls Tryz.prog 25 #[.agg #[fv (mF q), fv (cF q)], .agg #[.int .i64 r.kind, .int .i64 r.num, .string r.text, u]] W fun e w' => e = .returned (.agg #[.int .i64 r.kind, .int .i64 r.num, .string r.text, u, .int .u64 (msr q r)]) ∧ Below W.heap.size W w') := fun r u W h1 h2 => measured_any q hq r u W h1 h2
  have Hc : Hid (∀ (W : World), Lies 16 W t.items (.slice ax t.items.length cx) → Lies 16 W s.items (.slice ay s.items.length cy) → Calls Tryz.prog (cF q) #[.agg #[.int .i64 t.kind, .int .i64 t.num, .string t.text, .slice ax t.items.length cx, .int .u64 (msr q t)], .agg #[.int .i64 s.kind, .int .i64 s.num, .string s.text, .slice ay s.items.length cy, .int .u64 (msr q s)]] W fun e w' => e = .returned (.int .i64 (ordV q t s)) ∧ Grew W w') := fun W h1 h2 => cmpO_any q hq t s _ _ _ _ W h1 h2
  have eg := cF_enters q hq
  have hT := tab_cells (twoW w t s (.slice ax t.items.length cx) (.slice ay s.items.length cy)) q hq
  simp only [World.size_alloc] at hT
  have HT : Hid ((tabW (twoW w t s (.slice ax t.items.length cx) (.slice ay s.items.length cy))).cell? ⟨w.heap.size + 1 + 1, q * 2, none⟩ = some (fv (mF q)) ∧ (tabW (twoW w t s (.slice ax t.items.length cx) (.slice ay s.items.length cy))).cell? ⟨w.heap.size + 1 + 1, q * 2 + 1, none⟩ = some (fv (cF q))) := hT
  clear hT
  have He : Hid (ordE d q t s = if rightV d t = true ∧ rightV d s = true then 0 else 3) := by
    show _ = _
    unfold ordE; rw [if_neg (by omega)]
  have Hr0 : Hid (ordE d q t s = 0 → ordR d q t s = ordV q t s) := fun h => by unfold ordR; rw [if_pos h]; simp
  have Hr1 : Hid (ordE d q t s = 3 → ordR d q t s = 0) := fun h => by unfold ordR; rw [if_neg (by omega)]
  generalize ordV q t s = Z at *
  generalize ordE d q t s = E at *
  generalize ordR d q t s = R at *
  generalize mF q = f0 at *
  generalize cF q = f1 at *
  have HB : Hid (Below w.heap.size w (tabW (twoW w t s (.slice ax t.items.length cx) (.slice ay s.items.length cy)))) := (((Grew.refl w).alloc _).alloc _).alloc _ |>.below
  have HBx : Hid (Boxed (tabW (twoW w t s (.slice ax t.items.length cx) (.slice ay s.items.length cy))) w.heap.size t.kind t.num t.text (.slice ax t.items.length cx) ∧ Boxed (tabW (twoW w t s (.slice ax t.items.length cx) (.slice ay s.items.length cy))) (w.heap.size + 1) s.kind s.num s.text (.slice ay s.items.length cy)) :=
    ⟨(two_boxes w t s _ _).1.keeps ((Grew.refl _).alloc _).below, (two_boxes w t s _ _).2.keeps ((Grew.refl _).alloc _).below⟩
  go_enter Tryz.func7, Tryz.ntmps7
  go_wp2_with fail
  refine (rows_any _).mono ?_
  rintro e w1 ⟨rfl, rfl⟩
  go_wp2_with fail
  refine (rowO_yes (w.heap.size + 1 + 1) q f0 f1 _ hq HT.out.1 HT.out.2).mono ?_
  rintro e w1 ⟨rfl, hb⟩
  have hb : Below (tabW (twoW w t s (.slice ax t.items.length cx) (.slice ay s.items.length cy))).heap.size (tabW (twoW w t s (.slice ax t.items.length cx) (.slice ay s.items.length cy))) w1 := hb
  have hb1 : Below w.heap.size w w1 := HB.out.trans (hb.mono HB.out.size)
  have hb2 : Below w.heap.size w (w1.alloc (.cells #[fv f0, fv f1] 58)) := hb1.alloc hb1.size _
  have HD2 : Hid (DeskC (w1.alloc (.cells #[fv f0, fv f1] 58)) w.heap.size w1.heap.size f0 f1 t s (.slice ax t.items.length cx) (.slice ay s.items.length cy)) :=
    ⟨(HBx.out.1.keeps hb).keeps ((Grew.refl _).alloc _).below, (HBx.out.2.keeps hb).keeps ((Grew.refl _).alloc _).below, by simp, by simp⟩
  clear hb HB HBx HT hb1
  obtain ⟨⟨x0, x1, x2, x3⟩, ⟨y0, y1, y2, y3⟩, g0, g1⟩ := HD2.out
  go_wp2_with fail
  refine (check_any d t _ _ (Lies.keeps hb2 _ _ _ HX.out) ht).mono ?_
  rintro e w3 ⟨rfl, hb⟩
  have hb3 : Below w.heap.size w w3 := hb2.trans (hb.mono hb2.size)
  have HD3 : Hid (DeskC w3 w.heap.size w1.heap.size f0 f1 t s (.slice ax t.items.length cx) (.slice ay s.items.length cy)) := HD2.out.keeps hb
  generalize w1.heap.size = B at *
  clear hb hb2 HD2 x0 x1 x2 x3 y0 y1 y2 y3 g0 g1
  cases hrt : rightV d t
  · have he : errOf false = 3 := rfl
    have hE : E = 3 := by rw [He.out, hrt]; simp
    have hR : R = 0 := Hr1.out hE
    rw [he]
    subst hE hR
    clear He Hr0 Hr1 he
    go_wp2_with fail
    go_ret2
    exact ⟨rfl, hb3⟩
  · have he : errOf true = 0 := rfl
    rw [he]
    clear he
    obtain ⟨⟨x0, x1, x2, x3⟩, ⟨y0, y1, y2, y3⟩, g0, g1⟩ := HD3.out
    go_wp2_with fail
    refine (check_any d s _ _ (Lies.keeps hb3 _ _ _ HY.out) hs).mono ?_
    rintro e w4 ⟨rfl, hb⟩
    have hb4 : Below w.heap.size w w4.drew := (hb3.trans (hb.mono hb3.size)).drew
    have HD4 : Hid (DeskC w4.drew w.heap.size B f0 f1 t s (.slice ax t.items.length cx) (.slice ay s.items.length cy)) := (HD3.out.keeps hb).keeps (Grew.refl _).drew.below
    have hb4' : Below w.heap.size w w4 := hb3.trans (hb.mono hb3.size)
    clear hb hb3 HD3 x0 x1 x2 x3 y0 y1 y2 y3 g0 g1
    cases hrs : rightV d s
    · have he : errOf false = 3 := rfl
      have hE : E = 3 := by rw [He.out, hrs]; simp
      have hR : R = 0 := Hr1.out hE
      rw [he]
      subst hE hR
      clear He Hr0 Hr1 he HD4
      go_wp2_with fail
      go_ret2
      exact ⟨rfl, hb4'⟩
    · have he : errOf true = 0 := rfl
      rw [he]
      clear he
      have hE : E = 0 := by rw [He.out, hrt, hrs]; simp
      have hR : R = Z := Hr0.out hE
      subst hE hR
      have h1 := canon HX.out hrt
      have h2 := canon HY.out hrs
      have H1 : Hid (Lies 16 w t.items (.slice ax t.items.length cx) ∧ rightV 16 t = true) := h1
      have H2 : Hid (Lies 16 w s.items (.slice ay s.items.length cy) ∧ rightV 16 s = true) := h2
      clear h1 h2 He Hr0 Hr1 hrt hrs HX HY hb4'
      obtain ⟨⟨x0, x1, x2, x3⟩, ⟨y0, y1, y2, y3⟩, g0, g1⟩ := HD4.out
      go_wp2_with fail
      go_region_held3 (fun w' => w'.cell? ⟨B, 0, none⟩ = some (fv f0) ∧ w'.cell? ⟨B, 1, none⟩ = some (fv f1) ∧ w'.cell? ⟨w.heap.size, 0, none⟩ = some (.int .i64 t.kind) ∧ w'.cell? ⟨w.heap.size, 1, none⟩ = some (.int .i64 t.num) ∧ w'.cell? ⟨w.heap.size, 2, none⟩ = some (.string t.text) ∧ w'.cell? ⟨w.heap.size, 3, none⟩ = some (.slice ax t.items.length cx) ∧ w'.cell? ⟨w.heap.size + 1, 0, none⟩ = some (.int .i64 s.kind) ∧ w'.cell? ⟨w.heap.size + 1, 1, none⟩ = some (.int .i64 s.num) ∧ w'.cell? ⟨w.heap.size + 1, 2, none⟩ = some (.string s.text) ∧ w'.cell? ⟨w.heap.size + 1, 3, none⟩ = some (.slice ay s.items.length cy)) (go_keep)
        (first
          | (go_at_fn f1; refine (Hc.out _ (Lies.keeps hb6 _ _ _ H1.out.1) (Lies.keeps hb6 _ _ _ H2.out.1)).mono ?_; rintro e w7 ⟨rfl, hg7⟩; have hb7 : Below w.heap.size w w7 := hb6.trans (hg7.below.mono hb6.size); have HD7 : Hid (DeskC w7 w.heap.size B f0 f1 t s (.slice ax t.items.length cx) (.slice ay s.items.length cy)) := HD6.out.keeps hg7.below; clear hg7 hb6 HD6 x0 x1 x2 x3 y0 y1 y2 y3 g0 g1; obtain ⟨⟨x0, x1, x2, x3⟩, ⟨y0, y1, y2, y3⟩, g0, g1⟩ := HD7.out)
          | (go_at_call 25; refine (Hm.out s _ _ (Lies.keeps hb5 _ _ _ H2.out.1) H2.out.2).mono ?_; rintro e w6 ⟨rfl, hg6⟩; have hb6 : Below w.heap.size w w6 := hb5.trans (hg6.mono hb5.size); have HD6 : Hid (DeskC w6 w.heap.size B f0 f1 t s (.slice ax t.items.length cx) (.slice ay s.items.length cy)) := HD5.out.keeps hg6; clear hg6 hb5 HD5 x0 x1 x2 x3 y0 y1 y2 y3 g0 g1; obtain ⟨⟨x0, x1, x2, x3⟩, ⟨y0, y1, y2, y3⟩, g0, g1⟩ := HD6.out)
          | (go_at_call 25; refine (Hm.out t _ _ (Lies.keeps hb4 _ _ _ H1.out.1) H1.out.2).mono ?_; rintro e w5 ⟨rfl, hg5⟩; have hb5 : Below w.heap.size w w5 := hb4.trans (hg5.mono hb4.size); have HD5 : Hid (DeskC w5 w.heap.size B f0 f1 t s (.slice ax t.items.length cx) (.slice ay s.items.length cy)) := HD4.out.keeps hg5; clear hg5 hb4 HD4 x0 x1 x2 x3 y0 y1 y2 y3 g0 g1; obtain ⟨⟨x0, x1, x2, x3⟩, ⟨y0, y1, y2, y3⟩, g0, g1⟩ := HD5.out))
      go_wp2_with fail
      go_ret2
      exact ⟨rfl, hb7⟩

theorem compareO_any (d : Nat) (o : Int) (t s : VT) (x y : Value) (w : World) (hx : Lies d w t.items x) (hy : Lies d w s.items y) (ht : t.text.size ≤ 9223372036854775807) (hs : s.text.size ≤ 9223372036854775807) :
    Calls Tryz.prog 7 #[.int .i64 o, .agg #[.int .i64 t.kind, .int .i64 t.num, .string t.text, x], .agg #[.int .i64 s.kind, .int .i64 s.num, .string s.text, y]] w fun e w' => e = .returned (.tuple #[.int .i64 (ordR d o t s), .int .i64 (ordE d o t s)]) ∧ Below w.heap.size w w' := by
  by_cases ho : o < 0 ∨ 6 ≤ o
  · have hE : ordE d o t s = 4 := by unfold ordE; rw [if_pos ho]
    have hR : ordR d o t s = 0 := by unfold ordR; rw [if_neg (by omega)]
    rw [hE, hR]
    obtain ⟨ax, cx, rfl, _⟩ := Lies.slice hx
    obtain ⟨ay, cy, rfl, _⟩ := Lies.slice hy
    exact compareO_kind o t s ax ay _ cx _ cy w ho
  · obtain ⟨q, rfl⟩ : ∃ q : Nat, o = q := ⟨o.toNat, by omega⟩
    exact compareO_some d q (by omega) t s x y w hx hy ht hs

end Go.Proofs.YtlmnkjnplaebgaaGreat
