/-
  joined: two heaps, either of which may be none.
-/
import Derived.Test.YtgmmocbgeilpiaaGreatTab6
import Derived.Test.YtgmmocbgeilpiaaGreatUniq
import Derived.Deep.RegionHeld3
import Derived.Test.YtgmmocbgeilpiaaGreatMeas
import Derived.Test.YtgmmocbgeilpiaaGreatLiesX
import Derived.BigQuiet
import Derived.BigRegion
namespace Go.Proofs.YtgmmocbgeilpiaaGreat
open Go.RowKit Go.Shelf

/-- A member: a tree, the slice of its items, its measure. -/
structure MB where
  t : VT
  u : Value
  m : Int

/-- What a member's cells hold. -/
def encM (p : MB) : List Value := [.int .i64 p.t.kind, .int .i64 p.t.num, .string p.t.text, p.u, .int .u64 p.m]

/-- Five cells of a block that may be written. -/
structure Five (W : World) (n : Nat) : Prop where
  there : ∀ k, k < 5 → (W.cell? ⟨n, k, none⟩).isSome = true
  soft : ∀ k, k < 5 → W.frozen? ⟨n, k, none⟩ = false

theorem Five.lt {W : World} {n : Nat} (h : Five W n) : n < W.heap.size := by
  obtain ⟨v, hv⟩ := Option.isSome_iff_exists.1 (h.there 0 (by omega))
  exact cell_lt hv

theorem Five.keeps {W W' : World} {n : Nat} (h : Five W n) (hb : Below W.heap.size W W') : Five W' n :=
  ⟨fun k hk => by rw [hb.cell (p := ⟨n, k, none⟩) h.lt]; exact h.there k hk, fun k hk => by rw [hb.frozen (p := ⟨n, k, none⟩) h.lt]; exact h.soft k hk⟩

theorem Five.put {W : World} {n : Nat} (h : Five W n) (p : MB) : ∀ j (hj : j < (encM p).length), (W.setCells n 0 (encM p)).cell? ⟨n, 0 + j, none⟩ = some ((encM p)[j]) :=
  World.cell?_setCells_in n _ 0 W (fun j hj => by rw [Nat.zero_add]; exact h.there j (by simpa [encM] using hj))

theorem below_putM {w W : World} {n : Nat} (h : Below w.heap.size w W) (hn : w.heap.size ≤ n) (o : Nat) (p : MB) : Below w.heap.size w (W.setCells n o (encM p)) :=
  ((((h.setCell (p := ⟨n, o, none⟩) hn _).setCell (p := ⟨n, o + 1, none⟩) hn _).setCell (p := ⟨n, o + 1 + 1, none⟩) hn _).setCell (p := ⟨n, o + 1 + 1 + 1, none⟩) hn _).setCell (p := ⟨n, o + 1 + 1 + 1 + 1, none⟩) hn _

/-- The row's box, the value's box, the result's cells. -/
structure DeskM (W : World) (n f0 f1 : Nat) (t : VT) (u : Value) : Prop where
  g0 : W.cell? ⟨n, 0, none⟩ = some (fv f0)
  g1 : W.cell? ⟨n, 1, none⟩ = some (fv f1)
  box : Boxed W (n + 1) t.kind t.num t.text u
  res : Five W (n + 2)

theorem DeskM.keeps {W W' : World} {n f0 f1 : Nat} {t : VT} {u : Value} (h : DeskM W n f0 f1 t u) (hb : Below W.heap.size W W') : DeskM W' n f0 f1 t u :=
  ⟨cell_keeps hb h.g0, cell_keeps hb h.g1, h.box.keeps hb, h.res.keeps hb⟩

abbrev deskW (w : World) (f0 f1 : Nat) (t : VT) (u : Value) : World :=
  (((w.alloc (.cells #[fv f0, fv f1] 95)).alloc (.cells #[.int .i64 t.kind, .int .i64 t.num, .string t.text, u] 37)).alloc (.cells #[.int .i64 0, .int .i64 0, .string ⟨#[]⟩, .slice none 0 0, .int .u64 0] 102)).drew

theorem five_alloc (w : World) (a b c d e : Value) (ty : Nat) : Five (w.alloc (.cells #[a, b, c, d, e] ty)) w.heap.size := by
  refine ⟨fun k hk => ?_, fun k hk => by simp⟩
  match k, hk with
  | 0, _ => simp
  | 1, _ => simp
  | 2, _ => simp
  | 3, _ => simp
  | 4, _ => simp

theorem deskM_start (w : World) (f0 f1 : Nat) (t : VT) (u : Value) : DeskM (deskW w f0 f1 t u) w.heap.size f0 f1 t u := by
  have h2 : ∀ (W : World) (o1 o2 : Obj), Below W.heap.size W ((W.alloc o1).alloc o2).drew := fun W o1 o2 => (Grew.two W o1 o2).drew.below
  have h1 : ∀ (W : World) (o1 : Obj), Below W.heap.size W (W.alloc o1).drew := fun W o1 => ((Grew.refl W).alloc o1).drew.below
  have h0 : ∀ (W : World), Below W.heap.size W W.drew := fun W => (Grew.refl W).drew.below
  refine ⟨cell_keeps (h2 _ _ _) (by simp), cell_keeps (h2 _ _ _) (by simp), ?_, ?_⟩
  · have := (boxed_alloc (w.alloc (.cells #[fv f0, fv f1] 95)) t.kind t.num t.text u 37).keeps (h1 _ (.cells #[.int .i64 0, .int .i64 0, .string ⟨#[]⟩, .slice none 0 0, .int .u64 0] 102))
    rwa [World.size_alloc] at this
  · have := (five_alloc ((w.alloc (.cells #[fv f0, fv f1] 95)).alloc (.cells #[.int .i64 t.kind, .int .i64 t.num, .string t.text, u] 37)) (.int .i64 0) (.int .i64 0) (.string ⟨#[]⟩) (.slice none 0 0) (.int .u64 0) 102).keeps (h0 _)
    rwa [World.size_alloc, World.size_alloc] at this

set_option maxHeartbeats 2000000 in
theorem measured_core (f0 f1 : Nat) (eg : ∀ args w, (callFunc f0 args).run Tryz.prog w = .ok (.enter f0 args) w) (z : Int) (t : VT) (a : Option Addr) (l c : Nat) (w : World)
    (hf : Hid (∀ W : World, Below w.heap.size w W → Calls Tryz.prog f0 #[.agg #[.int .i64 t.kind, .int .i64 t.num, .string t.text, .slice a l c]] W (MeasPost z W))) :
    Calls Tryz.prog 52 #[.agg #[fv f0, fv f1], .agg #[.int .i64 t.kind, .int .i64 t.num, .string t.text, .slice a l c]] w fun e w' => e = .returned (.agg #[.int .i64 t.kind, .int .i64 t.num, .string t.text, .slice a l c, .int .u64 z]) ∧ Below w.heap.size w w' := by
  have HD0 : Hid (DeskM (deskW w f0 f1 t (.slice a l c)) w.heap.size f0 f1 t (.slice a l c)) := deskM_start w f0 f1 t _
  have HB : Hid (Below w.heap.size w (deskW w f0 f1 t (.slice a l c))) := ((((Grew.refl w).alloc _).alloc _).alloc _).drew.below
  have hne1 : ¬ (w.heap.size + 1 + 1 = w.heap.size) := by omega
  have hne2 : ¬ (w.heap.size = w.heap.size + 1 + 1) := by omega
  go_enter Tryz.func52, Tryz.ntmps52
  go_wp2_with fail
  go_region_held3 (fun w' => w'.cell? ⟨w.heap.size, 0, none⟩ = some (fv f0) ∧ w'.cell? ⟨w.heap.size + 1, 0, none⟩ = some (.int .i64 t.kind) ∧ w'.cell? ⟨w.heap.size + 1, 1, none⟩ = some (.int .i64 t.num) ∧ w'.cell? ⟨w.heap.size + 1, 2, none⟩ = some (.string t.text) ∧ w'.cell? ⟨w.heap.size + 1, 3, none⟩ = some (.slice a l c)) (go_keep)
    (first | (go_at_fn f0; refine (hf.out _ HB.out).mono ?_; rintro e w1 ⟨rfl, hb1⟩; have HD1 : Hid (DeskM w1 w.heap.size f0 f1 t (.slice a l c)) := HD0.out.keeps hb1; have hbw1 : Below w.heap.size w w1 := HB.out.trans (hb1.mono (by simp; omega)); clear hb1 HD0 HB; obtain ⟨g0, g1, ⟨x0, x1, x2, x3⟩, hres⟩ := HD1.out; obtain ⟨v0, s0⟩ := Option.isSome_iff_exists.1 (hres.there 0 (by omega)); have z0 := hres.soft 0 (by omega); obtain ⟨v1, s1⟩ := Option.isSome_iff_exists.1 (hres.there 1 (by omega)); have z1 := hres.soft 1 (by omega); obtain ⟨v2, s2⟩ := Option.isSome_iff_exists.1 (hres.there 2 (by omega)); have z2 := hres.soft 2 (by omega); obtain ⟨v3, s3⟩ := Option.isSome_iff_exists.1 (hres.there 3 (by omega)); have z3 := hres.soft 3 (by omega); obtain ⟨v4, s4⟩ := Option.isSome_iff_exists.1 (hres.there 4 (by omega)); have z4 := hres.soft 4 (by omega); have Hres : Hid (Five w1 (w.heap.size + 2)) := hres; clear hres))
  have Hin : Hid _ := Hres.out.put ⟨t, .slice a l c, z⟩
  have Hbf : Hid _ := below_putM hbw1 (show w.heap.size ≤ w.heap.size + 2 by omega) 0 ⟨t, .slice a l c, z⟩
  clear Hres HD1
  go_wp2_with fail
  refine bodyPost_ret (v := .agg #[.int .i64 t.kind, .int .i64 t.num, .string t.text, .slice a l c, .int .u64 z]) ?_ rfl ⟨rfl, Hbf.out⟩
  have q0 := Hin.out 0 (by simp [encM])
  have q1 := Hin.out 1 (by simp [encM])
  have q2 := Hin.out 2 (by simp [encM])
  have q3 := Hin.out 3 (by simp [encM])
  have q4 := Hin.out 4 (by simp [encM])
  simp only [encM, World.setCells, Nat.zero_add, Nat.reduceAdd, List.getElem_cons_zero, List.getElem_cons_succ] at q0 q1 q2 q3 q4
  simp [results, Tryz.results52, go_sem, q0, q1, q2, q3, q4]

/-- A right value with its measure by row q. -/
theorem measured_any (q : Nat) (hq : q < 6) (t : VT) (u : Value) (w : World) (hu : Lies 16 w t.items u) (hr : rightV 16 t = true) :
    Calls Tryz.prog 52 #[.agg #[fv (mF q), fv (cF q)], .agg #[.int .i64 t.kind, .int .i64 t.num, .string t.text, u]] w fun e w' => e = .returned (.agg #[.int .i64 t.kind, .int .i64 t.num, .string t.text, u, .int .u64 (msr q t)]) ∧ Below w.heap.size w w' := by
  obtain ⟨a, c, rfl, _⟩ := Lies.slice hu
  exact measured_core _ _ (mF_enters q hq) _ t a _ c w (fun W hW => meas_any q hq t _ W (Lies.keeps hW _ _ _ hu) hr)

end Go.Proofs.YtgmmocbgeilpiaaGreat

namespace Go.Proofs.YtgmmocbgeilpiaaGreat
open Go.RowKit Go.Shelf

/-- The error of Compare. -/
def ordE (d : Nat) (o : Int) (t s : VT) : Int := if o < 0 ∨ 6 ≤ o then 4 else if rightV d t = true ∧ rightV d s = true then 0 else 3

/-- What Compare tells. -/
def ordR (d : Nat) (o : Int) (t s : VT) : Int := if ordE d o t s = 0 then ordV o.toNat t s else 0

/-- Two values' boxes and the row's. -/
structure DeskC (W : World) (n B f0 f1 : Nat) (t s : VT) (x y : Value) : Prop where
  b1 : Boxed W n t.kind t.num t.text x
  b2 : Boxed W (n + 1) s.kind s.num s.text y
  g0 : W.cell? ⟨B, 0, none⟩ = some (fv f0)
  g1 : W.cell? ⟨B, 1, none⟩ = some (fv f1)

theorem DeskC.keeps {W W' : World} {n B f0 f1 : Nat} {t s : VT} {x y : Value} (h : DeskC W n B f0 f1 t s x y) (hb : Below W.heap.size W W') : DeskC W' n B f0 f1 t s x y :=
  ⟨h.b1.keeps hb, h.b2.keeps hb, cell_keeps hb h.g0, cell_keeps hb h.g1⟩

/-- Two boxes. -/
abbrev twoW (w : World) (t s : VT) (x y : Value) : World := (w.alloc (.cells #[.int .i64 t.kind, .int .i64 t.num, .string t.text, x] 37)).alloc (.cells #[.int .i64 s.kind, .int .i64 s.num, .string s.text, y] 37)

theorem two_boxes (w : World) (t s : VT) (x y : Value) : Boxed (twoW w t s x y) w.heap.size t.kind t.num t.text x ∧ Boxed (twoW w t s x y) (w.heap.size + 1) s.kind s.num s.text y := by
  refine ⟨(boxed_alloc w t.kind t.num t.text x 37).keeps ((Grew.refl _).alloc _).below, ?_⟩
  have := boxed_alloc (w.alloc (.cells #[.int .i64 t.kind, .int .i64 t.num, .string t.text, x] 37)) s.kind s.num s.text y 37
  rwa [World.size_alloc] at this

set_option maxHeartbeats 2000000 in
theorem compareO_kind (o : Int) (t s : VT) (ax ay : Option Addr) (lx cx ly cy : Nat) (w : World) (ho : o < 0 ∨ 6 ≤ o) :
    Calls Tryz.prog 40 #[.int .i64 o, .agg #[.int .i64 t.kind, .int .i64 t.num, .string t.text, .slice ax lx cx], .agg #[.int .i64 s.kind, .int .i64 s.num, .string s.text, .slice ay ly cy]] w fun e w' => e = .returned (.tuple #[.int .i64 0, .int .i64 4]) ∧ Below w.heap.size w w' := by
  have HO : Hid (o < 0 ∨ 6 ≤ o) := ho
  clear ho
  have HB : Hid (Below w.heap.size w (tabW (twoW w t s (.slice ax lx cx) (.slice ay ly cy)))) := (((Grew.refl w).alloc _).alloc _).alloc _ |>.below
  go_enter Tryz.func40, Tryz.ntmps40
  go_wp2_with fail
  refine (rows_any _).mono ?_
  rintro e w1 ⟨rfl, rfl⟩
  go_wp2_with fail
  refine (rowO_no _ o _ HO.out).mono ?_
  rintro e w1 ⟨rfl, hb⟩
  have hb1 : Below w.heap.size w w1 := HB.out.trans (hb.mono HB.out.size)
  clear hb HB HO
  go_wp2_with fail
  go_ret2
  exact ⟨rfl, hb1.alloc hb1.size _⟩

set_option maxHeartbeats 4000000 in
theorem compareO_some (d q : Nat) (hq : q < 6) (t s : VT) (x y : Value) (w : World) (hx : Lies d w t.items x) (hy : Lies d w s.items y) (ht : t.text.size ≤ 9223372036854775807) (hs : s.text.size ≤ 9223372036854775807) :
    Calls Tryz.prog 40 #[.int .i64 q, .agg #[.int .i64 t.kind, .int .i64 t.num, .string t.text, x], .agg #[.int .i64 s.kind, .int .i64 s.num, .string s.text, y]] w fun e w' => e = .returned (.tuple #[.int .i64 (ordR d q t s), .int .i64 (ordE d q t s)]) ∧ Below w.heap.size w w' := by
  obtain ⟨ax, cx, rfl, _⟩ := Lies.slice hx
  obtain ⟨ay, cy, rfl, _⟩ := Lies.slice hy
  have HX : Hid (Lies d w t.items (.slice ax t.items.length cx)) := hx
  have HY : Hid (Lies d w s.items (.slice ay s.items.length cy)) := hy
  clear hx hy
  have Hm : Hid (∀ (r : VT) (u : Value) (W : World), Lies 16 W r.items u → rightV 16 r = true → Calls Tryz.prog 52 #[.agg #[fv (mF q), fv (cF q)], .agg #[.int .i64 r.kind, .int .i64 r.num, .string r.text, u]] W fun e w' => e = .returned (.agg #[.int .i64 r.kind, .int .i64 r.num, .string r.text, u, .int .u64 (msr q r)]) ∧ Below W.heap.size W w') := fun r u W h1 h2 => measured_any q hq r u W h1 h2
  have Hc : Hid (∀ (W : World), Lies 16 W t.items (.slice ax t.items.length cx) → Lies 16 W s.items (.slice ay s.items.length cy) → Calls Tryz.prog (cF q) #[.agg #[.int .i64 t.kind, .int .i64 t.num, .string t.text, .slice ax t.items.length cx, .int .u64 (msr q t)], .agg #[.int .i64 s.kind, .int .i64 s.num, .string s.text, .slice ay s.items.length cy, .int .u64 (msr q s)]] W fun e w' => e = .returned (.int .i64 (ordV q t s)) ∧ Grew W w') := fun W h1 h2 => cmpO_any q hq t s _ _ _ _ W h1 h2
  have eg := cF_enters q hq
  have hT := tab_cells (twoW w t s (.slice ax t.items.length cx) (.slice ay s.items.length cy)) q hq
  simp only [World.size_alloc] at hT
  have HT : Hid ((tabW (twoW w t s (.slice ax t.items.length cx) (.slice ay s.items.length cy))).cell? ⟨w.heap.size + 1 + 1, q * 2, none⟩ = some (fv (mF q)) ∧ (tabW (twoW w t s (.slice ax t.items.length cx) (.slice ay s.items.length cy))).cell? ⟨w.heap.size + 1 + 1, q * 2 + 1, none⟩ = some (fv (cF q))) := hT
  clear hT
  have He : Hid (ordE d q t s = if rightV d t = true ∧ rightV d s = true then 0 else 3) := by
    show _ = _
    unfold ordE; rw [if_neg (by omega)]
  have Hr0 : Hid (ordE d q t s = 0 → ordR d q t s = ordV q t s) := fun h => by unfold ordR; rw [if_pos h]; simp
  have Hr1 : Hid (ordE d q t s = 3 → ordR d q t s = 0) := fun h => by unfold ordR; rw [if_neg (by omega)]
  generalize ordV q t s = Z at *
  generalize ordE d q t s = E at *
  generalize ordR d q t s = R at *
  generalize mF q = f0 at *
  generalize cF q = f1 at *
  have HB : Hid (Below w.heap.size w (tabW (twoW w t s (.slice ax t.items.length cx) (.slice ay s.items.length cy)))) := (((Grew.refl w).alloc _).alloc _).alloc _ |>.below
  have HBx : Hid (Boxed (tabW (twoW w t s (.slice ax t.items.length cx) (.slice ay s.items.length cy))) w.heap.size t.kind t.num t.text (.slice ax t.items.length cx) ∧ Boxed (tabW (twoW w t s (.slice ax t.items.length cx) (.slice ay s.items.length cy))) (w.heap.size + 1) s.kind s.num s.text (.slice ay s.items.length cy)) :=
    ⟨(two_boxes w t s _ _).1.keeps ((Grew.refl _).alloc _).below, (two_boxes w t s _ _).2.keeps ((Grew.refl _).alloc _).below⟩
  go_enter Tryz.func40, Tryz.ntmps40
  go_wp2_with fail
  refine (rows_any _).mono ?_
  rintro e w1 ⟨rfl, rfl⟩
  go_wp2_with fail
  refine (rowO_yes (w.heap.size + 1 + 1) q f0 f1 _ hq HT.out.1 HT.out.2).mono ?_
  rintro e w1 ⟨rfl, hb⟩
  have hb : Below (tabW (twoW w t s (.slice ax t.items.length cx) (.slice ay s.items.length cy))).heap.size (tabW (twoW w t s (.slice ax t.items.length cx) (.slice ay s.items.length cy))) w1 := hb
  have hb1 : Below w.heap.size w w1 := HB.out.trans (hb.mono HB.out.size)
  have hb2 : Below w.heap.size w (w1.alloc (.cells #[fv f0, fv f1] 95)) := hb1.alloc hb1.size _
  have HD2 : Hid (DeskC (w1.alloc (.cells #[fv f0, fv f1] 95)) w.heap.size w1.heap.size f0 f1 t s (.slice ax t.items.length cx) (.slice ay s.items.length cy)) :=
    ⟨(HBx.out.1.keeps hb).keeps ((Grew.refl _).alloc _).below, (HBx.out.2.keeps hb).keeps ((Grew.refl _).alloc _).below, by simp, by simp⟩
  clear hb HB HBx HT hb1
  obtain ⟨⟨x0, x1, x2, x3⟩, ⟨y0, y1, y2, y3⟩, g0, g1⟩ := HD2.out
  go_wp2_with fail
  refine (check_any d t _ _ (Lies.keeps hb2 _ _ _ HX.out) ht).mono ?_
  rintro e w3 ⟨rfl, hb⟩
  have hb3 : Below w.heap.size w w3 := hb2.trans (hb.mono hb2.size)
  have HD3 : Hid (DeskC w3 w.heap.size w1.heap.size f0 f1 t s (.slice ax t.items.length cx) (.slice ay s.items.length cy)) := HD2.out.keeps hb
  generalize w1.heap.size = B at *
  clear hb hb2 HD2 x0 x1 x2 x3 y0 y1 y2 y3 g0 g1
  cases hrt : rightV d t
  · have he : errOf false = 3 := rfl
    have hE : E = 3 := by rw [He.out, hrt]; simp
    have hR : R = 0 := Hr1.out hE
    rw [he]
    subst hE hR
    clear He Hr0 Hr1 he
    go_wp2_with fail
    go_ret2
    exact ⟨rfl, hb3⟩
  · have he : errOf true = 0 := rfl
    rw [he]
    clear he
    obtain ⟨⟨x0, x1, x2, x3⟩, ⟨y0, y1, y2, y3⟩, g0, g1⟩ := HD3.out
    go_wp2_with fail
    refine (check_any d s _ _ (Lies.keeps hb3 _ _ _ HY.out) hs).mono ?_
    rintro e w4 ⟨rfl, hb⟩
    have hb4 : Below w.heap.size w w4.drew := (hb3.trans (hb.mono hb3.size)).drew
    have HD4 : Hid (DeskC w4.drew w.heap.size B f0 f1 t s (.slice ax t.items.length cx) (.slice ay s.items.length cy)) := (HD3.out.keeps hb).keeps (Grew.refl _).drew.below
    have hb4' : Below w.heap.size w w4 := hb3.trans (hb.mono hb3.size)
    clear hb hb3 HD3 x0 x1 x2 x3 y0 y1 y2 y3 g0 g1
    cases hrs : rightV d s
    · have he : errOf false = 3 := rfl
      have hE : E = 3 := by rw [He.out, hrs]; simp
      have hR : R = 0 := Hr1.out hE
      rw [he]
      subst hE hR
      clear He Hr0 Hr1 he HD4
      go_wp2_with fail
      go_ret2
      exact ⟨rfl, hb4'⟩
    · have he : errOf true = 0 := rfl
      rw [he]
      clear he
      have hE : E = 0 := by rw [He.out, hrt, hrs]; simp
      have hR : R = Z := Hr0.out hE
      subst hE hR
      have h1 := canon HX.out hrt
      have h2 := canon HY.out hrs
      have H1 : Hid (Lies 16 w t.items (.slice ax t.items.length cx) ∧ rightV 16 t = true) := h1
      have H2 : Hid (Lies 16 w s.items (.slice ay s.items.length cy) ∧ rightV 16 s = true) := h2
      clear h1 h2 He Hr0 Hr1 hrt hrs HX HY hb4'
      obtain ⟨⟨x0, x1, x2, x3⟩, ⟨y0, y1, y2, y3⟩, g0, g1⟩ := HD4.out
      go_wp2_with fail
      go_region_held3 (fun w' => w'.cell? ⟨B, 0, none⟩ = some (fv f0) ∧ w'.cell? ⟨B, 1, none⟩ = some (fv f1) ∧ w'.cell? ⟨w.heap.size, 0, none⟩ = some (.int .i64 t.kind) ∧ w'.cell? ⟨w.heap.size, 1, none⟩ = some (.int .i64 t.num) ∧ w'.cell? ⟨w.heap.size, 2, none⟩ = some (.string t.text) ∧ w'.cell? ⟨w.heap.size, 3, none⟩ = some (.slice ax t.items.length cx) ∧ w'.cell? ⟨w.heap.size + 1, 0, none⟩ = some (.int .i64 s.kind) ∧ w'.cell? ⟨w.heap.size + 1, 1, none⟩ = some (.int .i64 s.num) ∧ w'.cell? ⟨w.heap.size + 1, 2, none⟩ = some (.string s.text) ∧ w'.cell? ⟨w.heap.size + 1, 3, none⟩ = some (.slice ay s.items.length cy)) (go_keep)
        (first
          | (go_at_fn f1; refine (Hc.out _ (Lies.keeps hb6 _ _ _ H1.out.1) (Lies.keeps hb6 _ _ _ H2.out.1)).mono ?_; rintro e w7 ⟨rfl, hg7⟩; have hb7 : Below w.heap.size w w7 := hb6.trans (hg7.below.mono hb6.size); have HD7 : Hid (DeskC w7 w.heap.size B f0 f1 t s (.slice ax t.items.length cx) (.slice ay s.items.length cy)) := HD6.out.keeps hg7.below; clear hg7 hb6 HD6 x0 x1 x2 x3 y0 y1 y2 y3 g0 g1; obtain ⟨⟨x0, x1, x2, x3⟩, ⟨y0, y1, y2, y3⟩, g0, g1⟩ := HD7.out)
          | (go_at_call 52; refine (Hm.out s _ _ (Lies.keeps hb5 _ _ _ H2.out.1) H2.out.2).mono ?_; rintro e w6 ⟨rfl, hg6⟩; have hb6 : Below w.heap.size w w6 := hb5.trans (hg6.mono hb5.size); have HD6 : Hid (DeskC w6 w.heap.size B f0 f1 t s (.slice ax t.items.length cx) (.slice ay s.items.length cy)) := HD5.out.keeps hg6; clear hg6 hb5 HD5 x0 x1 x2 x3 y0 y1 y2 y3 g0 g1; obtain ⟨⟨x0, x1, x2, x3⟩, ⟨y0, y1, y2, y3⟩, g0, g1⟩ := HD6.out)
          | (go_at_call 52; refine (Hm.out t _ _ (Lies.keeps hb4 _ _ _ H1.out.1) H1.out.2).mono ?_; rintro e w5 ⟨rfl, hg5⟩; have hb5 : Below w.heap.size w w5 := hb4.trans (hg5.mono hb4.size); have HD5 : Hid (DeskC w5 w.heap.size B f0 f1 t s (.slice ax t.items.length cx) (.slice ay s.items.length cy)) := HD4.out.keeps hg5; clear hg5 hb4 HD4 x0 x1 x2 x3 y0 y1 y2 y3 g0 g1; obtain ⟨⟨x0, x1, x2, x3⟩, ⟨y0, y1, y2, y3⟩, g0, g1⟩ := HD5.out))
      go_wp2_with fail
      go_ret2
      exact ⟨rfl, hb7⟩

theorem compareO_any (d : Nat) (o : Int) (t s : VT) (x y : Value) (w : World) (hx : Lies d w t.items x) (hy : Lies d w s.items y) (ht : t.text.size ≤ 9223372036854775807) (hs : s.text.size ≤ 9223372036854775807) :
    Calls Tryz.prog 40 #[.int .i64 o, .agg #[.int .i64 t.kind, .int .i64 t.num, .string t.text, x], .agg #[.int .i64 s.kind, .int .i64 s.num, .string s.text, y]] w fun e w' => e = .returned (.tuple #[.int .i64 (ordR d o t s), .int .i64 (ordE d o t s)]) ∧ Below w.heap.size w w' := by
  by_cases ho : o < 0 ∨ 6 ≤ o
  · have hE : ordE d o t s = 4 := by unfold ordE; rw [if_pos ho]
    have hR : ordR d o t s = 0 := by unfold ordR; rw [if_neg (by omega)]
    rw [hE, hR]
    obtain ⟨ax, cx, rfl, _⟩ := Lies.slice hx
    obtain ⟨ay, cy, rfl, _⟩ := Lies.slice hy
    exact compareO_kind o t s ax ay _ cx _ cy w ho
  · obtain ⟨q, rfl⟩ : ∃ q : Nat, o = q := ⟨o.toNat, by omega⟩
    exact compareO_some d q (by omega) t s x y w hx hy ht hs

end Go.Proofs.YtgmmocbgeilpiaaGreat

namespace Go.Proofs.YtgmmocbgeilpiaaGreat
open Go.RowKit

/-- A right item, whose list lies in blocks that X holds of. -/
structure ItM (X : Nat → Prop) (w : World) (x : VT) (u : Value) : Prop where
  lies : LiesX X 16 w x.items u
  right : rightV 16 x = true

theorem ItM.keeps {X : Nat → Prop} {w w' : World} (hb : Below w.heap.size w w') {x : VT} {u : Value} (h : ItM X w x u) : ItM X w' x u := ⟨LiesX.keeps hb h.1, h.2⟩

theorem ItM.size {X : Nat → Prop} {w : World} {x : VT} {u : Value} (h : ItM X w x u) : x.text.size ≤ 9223372036854775807 := by have := right_short h.right; omega

/-- A heap's five cells. -/
structure HCells (w : World) (c : Nat) (x : VT) (u : Value) (pb : Option Addr) : Prop where
  kind : w.cell? ⟨c, 0, none⟩ = some (.int .i64 x.kind)
  num : w.cell? ⟨c, 1, none⟩ = some (.int .i64 x.num)
  text : w.cell? ⟨c, 2, none⟩ = some (.string x.text)
  items : w.cell? ⟨c, 3, none⟩ = some u
  below : w.cell? ⟨c, 4, none⟩ = some (.pointer pb)

theorem HCells.keeps {w w' : World} (hb : Below w.heap.size w w') {c : Nat} {x : VT} {u : Value} {pb : Option Addr} (h : HCells w c x u pb) : HCells w' c x u pb :=
  ⟨cell_keeps hb h.1, cell_keeps hb h.2, cell_keeps hb h.3, cell_keeps hb h.4, cell_keeps hb h.5⟩

/-- The pointer is a row of heaps. -/
def RowH (X : Nat → Prop) (w : World) : BT → Option Addr → Prop
  | .nil, p => p = none
  | .node x below rest, p => ∃ b c pb pr u, p = some ⟨b, 0, none⟩ ∧ w.cell? ⟨b, 0, none⟩ = some (.pointer (some ⟨c, 0, none⟩)) ∧ w.cell? ⟨b, 1, none⟩ = some (.pointer pr) ∧
      HCells w c x u pb ∧ ItM X w x u ∧ RowH X w below pb ∧ RowH X w rest pr

/-- The pointer is a heap. -/
def HpM (X : Nat → Prop) (w : World) (h : HP) (p : Option Addr) : Prop := ∃ c pb u, p = some ⟨c, 0, none⟩ ∧ HCells w c h.1 u pb ∧ ItM X w h.1 u ∧ RowH X w h.2 pb

/-- The pointer is a heap, or none. -/
def HpO (X : Nat → Prop) (w : World) : Option HP → Option Addr → Prop
  | none, p => p = none
  | some h, p => HpM X w h p

/-- Heaps stay while what is in the lists' blocks stays, and blocks of five cells, and cells with pointers. -/
structure KeepsH (X : Nat → Prop) (w w' : World) : Prop where
  lists : ∀ a v, X a.block → w.cell? a = some v → w'.cell? a = some v
  five : ∀ b k u, k < 5 → w.cell? ⟨b, 4, none⟩ ≠ none → w.cell? ⟨b, k, none⟩ = some u → w'.cell? ⟨b, k, none⟩ = some u
  ptr : ∀ b k p, w.cell? ⟨b, k, none⟩ = some (.pointer p) → w'.cell? ⟨b, k, none⟩ = some (.pointer p)

theorem KeepsH.of_below {X : Nat → Prop} {w w' : World} (hb : Below w.heap.size w w') : KeepsH X w w' := ⟨fun _ _ _ h => cell_keeps hb h, fun _ _ _ _ _ h => cell_keeps hb h, fun _ _ _ h => cell_keeps hb h⟩

theorem KeepsH.cells {X : Nat → Prop} {w w' : World} (hk : KeepsH X w w') {c : Nat} {x : VT} {u : Value} {pb : Option Addr} (h : HCells w c x u pb) : HCells w' c x u pb := by
  have h4 : w.cell? ⟨c, 4, none⟩ ≠ none := by rw [h.below]; simp
  exact ⟨hk.five c 0 _ (by omega) h4 h.1, hk.five c 1 _ (by omega) h4 h.2, hk.five c 2 _ (by omega) h4 h.3, hk.five c 3 _ (by omega) h4 h.4, hk.five c 4 _ (by omega) h4 h.5⟩

theorem RowH.stays {X Y : Nat → Prop} (hY : ∀ b, X b → Y b) {w w' : World} (hk : KeepsH X w w') : ∀ {t : BT} {p : Option Addr}, RowH X w t p → RowH Y w' t p
  | .nil, _, h => h
  | .node x b r, p, h => by
    obtain ⟨b, c, pb, pr, u, hp, c0, c1, hc, hi, h1, h2⟩ := h
    exact ⟨b, c, pb, pr, u, hp, hk.ptr b 0 _ c0, hk.ptr b 1 _ c1, hk.cells hc, ⟨LiesX.stays hY hk.lists hi.1, hi.2⟩, RowH.stays hY hk h1, RowH.stays hY hk h2⟩

theorem HpM.stays {X Y : Nat → Prop} (hY : ∀ b, X b → Y b) {w w' : World} (hk : KeepsH X w w') {h : HP} {p : Option Addr} (hm : HpM X w h p) : HpM Y w' h p := by
  obtain ⟨c, pb, u, hp, hc, hi, hr⟩ := hm
  exact ⟨c, pb, u, hp, hk.cells hc, ⟨LiesX.stays hY hk.lists hi.1, hi.2⟩, RowH.stays hY hk hr⟩

theorem HpO.stays {X Y : Nat → Prop} (hY : ∀ b, X b → Y b) {w w' : World} (hk : KeepsH X w w') {h : Option HP} {p : Option Addr} (hm : HpO X w h p) : HpO Y w' h p := by
  cases h with
  | none => exact hm
  | some h => exact HpM.stays hY hk hm

theorem RowH.keeps {X : Nat → Prop} {w w' : World} (hb : Below w.heap.size w w') {t : BT} {p : Option Addr} (h : RowH X w t p) : RowH X w' t p := RowH.stays (fun _ h => h) (KeepsH.of_below hb) h
theorem HpM.keeps {X : Nat → Prop} {w w' : World} (hb : Below w.heap.size w w') {t : HP} {p : Option Addr} (h : HpM X w t p) : HpM X w' t p := HpM.stays (fun _ h => h) (KeepsH.of_below hb) h
theorem HpO.keeps {X : Nat → Prop} {w w' : World} (hb : Below w.heap.size w w') {t : Option HP} {p : Option Addr} (h : HpO X w t p) : HpO X w' t p := HpO.stays (fun _ h => h) (KeepsH.of_below hb) h

theorem RowH.right {X : Nat → Prop} {w : World} : ∀ {t : BT} {p : Option Addr}, RowH X w t p → ∀ x ∈ t.items, rightV 16 x = true
  | .nil, _, _, x, hx => by cases hx
  | .node y b r, p, h, x, hx => by
    obtain ⟨b', c, pb, pr, u, hp, c0, c1, hc, hi, h1, h2⟩ := h
    rcases List.mem_cons.1 hx with rfl | hx
    · exact hi.right
    · rcases List.mem_append.1 hx with hx | hx
      · exact RowH.right h1 x hx
      · exact RowH.right h2 x hx

theorem HpM.right {X : Nat → Prop} {w : World} {h : HP} {p : Option Addr} (hm : HpM X w h p) : ∀ x ∈ HP.items h, rightV 16 x = true := by
  obtain ⟨c, pb, u, hp, hc, hi, hr⟩ := hm
  intro x hx
  rcases List.mem_cons.1 hx with rfl | hx
  · exact hi.right
  · exact hr.right x hx

theorem ItM.good {X : Nat → Prop} {w : World} {x : VT} {u : Value} (h : ItM X w x u) : Good 16 x := ⟨h.right, Dp.of_lies 16 w _ u h.lies.lies⟩

theorem RowH.good {X : Nat → Prop} {w : World} : ∀ {t : BT} {p : Option Addr}, RowH X w t p → ∀ x ∈ t.items, Good 16 x
  | .nil, _, _, x, hx => by cases hx
  | .node y b r, p, h, x, hx => by
    obtain ⟨b', c, pb, pr, u, hp, c0, c1, hc, hi, h1, h2⟩ := h
    rcases List.mem_cons.1 hx with rfl | hx
    · exact hi.good
    · rcases List.mem_append.1 hx with hx | hx
      · exact RowH.good h1 x hx
      · exact RowH.good h2 x hx

theorem HpM.good {X : Nat → Prop} {w : World} {h : HP} {p : Option Addr} (hm : HpM X w h p) : ∀ x ∈ HP.items h, Good 16 x := by
  obtain ⟨c, pb, u, hp, hc, hi, hr⟩ := hm
  intro x hx
  rcases List.mem_cons.1 hx with rfl | hx
  · exact hi.good
  · exact hr.good x hx

theorem ordR_19 (q : Nat) (hq : q < 6) (a b : VT) (ha : rightV 16 a = true) (hb : rightV 16 b = true) : ordR 16 q a b = ordV q a b ∧ ordE 16 q a b = 0 := by
  have e : ordE 16 q a b = 0 := by
    unfold ordE
    rw [if_neg (by omega), if_pos ⟨ha, hb⟩]
  refine ⟨?_, e⟩
  unfold ordR
  rw [if_pos e]
  rfl

/-- The question that byOrder tells. -/
abbrev fnBy (g : Nat) : Value := .func (.func 44) #[] #[.pointer (some ⟨g, 0, none⟩)]

set_option maxRecDepth 100000 in
set_option maxHeartbeats 4000000 in
theorem byOrder_any (q : Int) (w : World) : Calls Tryz.prog 25 #[.int .i64 q] w fun e w' => e = .returned (fnBy w.heap.size) ∧ w' = w.alloc (.cells #[.int .i64 q] 3) := by
  go_enter Tryz.func25, Tryz.ntmps25
  go_wp2_with fail
  go_ret
  exact ⟨rfl, rfl⟩

set_option maxRecDepth 100000 in
set_option maxHeartbeats 8000000 in
theorem byOrder1_core (q bx : Nat) (x y : VT) (xu yu : Value) (w : World) (hbx : w.cell? ⟨bx, 0, none⟩ = some (.int .i64 (q : Int))) (R : Int)
    (hc : ∀ V, Below w.heap.size w V → Calls Tryz.prog 40 #[.int .i64 (q : Int), .agg #[.int .i64 x.kind, .int .i64 x.num, .string x.text, xu], .agg #[.int .i64 y.kind, .int .i64 y.num, .string y.text, yu]] V fun e w' => e = .returned (.tuple #[.int .i64 R, .int .i64 0]) ∧ Below V.heap.size V w') :
    Calls Tryz.prog 44 #[.agg #[.int .i64 x.kind, .int .i64 x.num, .string x.text, xu], .agg #[.int .i64 y.kind, .int .i64 y.num, .string y.text, yu], .pointer (some ⟨bx, 0, none⟩)] w fun e w' => e = .returned (.bool (decide (R < 0))) ∧ Below w.heap.size w w' := by
  have HC : Hid _ := hc
  have hbl := cell_lt hbx
  simp only at hbl
  have hbn : ¬ bx = w.heap.size := by omega
  have hbn2 : ¬ bx = w.heap.size + 1 := by omega
  have hb2 : ∀ A B, Below w.heap.size w ((w.alloc A).alloc B) := fun A B => (((Grew.refl w).alloc A).alloc B).below
  have z0 : ∀ A B, ((w.alloc A).alloc B).cell? ⟨bx, 0, none⟩ = some (.int .i64 (q : Int)) := fun A B => cell_keeps (hb2 A B) hbx
  have HB : Hid _ := hb2
  clear hc hb2
  go_enter Tryz.func44, Tryz.ntmps44
  go_wp2_with fail
  refine (HC.out _ (HB.out _ _)).mono ?_
  rintro e w1 ⟨rfl, hg⟩
  have hb1 : Below w.heap.size w w1 := (HB.out _ _).trans (hg.mono (HB.out _ _).size)
  clear hg HC HB
  go_wp2_with fail
  go_ret
  exact ⟨rfl, hb1⟩

theorem byOrder1_any (q bx : Nat) (hq : q < 6) {X : Nat → Prop} (x y : VT) (xu yu : Value) (w : World) (hbx : w.cell? ⟨bx, 0, none⟩ = some (.int .i64 (q : Int))) (hx : ItM X w x xu) (hy : ItM X w y yu) :
    Calls Tryz.prog 44 #[.agg #[.int .i64 x.kind, .int .i64 x.num, .string x.text, xu], .agg #[.int .i64 y.kind, .int .i64 y.num, .string y.text, yu], .pointer (some ⟨bx, 0, none⟩)] w fun e w' => e = .returned (.bool (decide (ordV q x y < 0))) ∧ Below w.heap.size w w' := by
  refine byOrder1_core q bx x y xu yu w hbx _ fun V hV => ?_
  have h9 := compareO_any 16 (q : Int) x y xu yu V (LiesX.keeps hV hx.lies).lies (LiesX.keeps hV hy.lies).lies hx.size hy.size
  rw [(ordR_19 q hq x y hx.right hy.right).1, (ordR_19 q hq x y hx.right hy.right).2] at h9
  exact h9

end Go.Proofs.YtgmmocbgeilpiaaGreat

namespace Go.Proofs.YtgmmocbgeilpiaaGreat
open Go.RowKit

def joinO (f : VT → VT → Int) : Option HP → Option HP → Option HP
  | none, b => b
  | some a, none => some a
  | some a, some b => some (joinH f a b)

/-- What a call tells that makes a heap. -/
def HpPost (X : Nat → Prop) (h : Option HP) (w : World) (e : Ending) (w' : World) : Prop := Below w.heap.size w w' ∧ ∃ p, e = .returned (.pointer p) ∧ HpO X w' h p

set_option maxRecDepth 100000 in
theorem joined_left (p : Option Addr) (g : Nat) (w : World) : Calls Tryz.prog 38 #[.pointer none, .pointer p, fnBy g] w fun e w' => e = .returned (.pointer p) ∧ w' = w := by
  go_enter Tryz.func38, Tryz.ntmps38
  go_wp2_with fail
  go_ret
  exact ⟨rfl, rfl⟩

set_option maxRecDepth 100000 in
theorem joined_right (c g : Nat) (w : World) : Calls Tryz.prog 38 #[.pointer (some ⟨c, 0, none⟩), .pointer none, fnBy g] w fun e w' => e = .returned (.pointer (some ⟨c, 0, none⟩)) ∧ w' = w := by
  go_enter Tryz.func38, Tryz.ntmps38
  go_wp2_with fail
  go_ret
  exact ⟨rfl, rfl⟩

theorem join_fin (X : Nat → Prop) {w V : World} {n cl : Nat} {x y : VT} {xb yb : BT} {xu yu : Value} {px py : Option Addr} (T1 T2 : Nat) (hb : Below w.heap.size w V) (hn : n = V.heap.size) (hx : ItM X w x xu) (hxr : RowH X w xb px) (hy : HCells w cl y yu py) (hyi : ItM X w y yu) (hyr : RowH X w yb py) :
    HpPost X (some (x, .node y yb xb)) w (.returned (.pointer (some ⟨n + 1, 0, none⟩))) ((V.alloc (.cells #[.pointer (some ⟨cl, 0, none⟩), .pointer px] T1)).alloc (.cells #[.int .i64 x.kind, .int .i64 x.num, .string x.text, xu, .pointer (some ⟨n, 0, none⟩)] T2)).drew := by
  subst hn
  have hb' : Below w.heap.size w ((V.alloc (.cells #[.pointer (some ⟨cl, 0, none⟩), .pointer px] T1)).alloc (.cells #[.int .i64 x.kind, .int .i64 x.num, .string x.text, xu, .pointer (some ⟨V.heap.size, 0, none⟩)] T2)).drew := ((hb.alloc hb.size _).alloc (hb.alloc hb.size _).size _).drew
  refine ⟨hb', _, rfl, V.heap.size + 1, some ⟨V.heap.size, 0, none⟩, xu, rfl, ?_, hx.keeps hb', V.heap.size, cl, py, px, yu, rfl, ?_, ?_, hy.keeps hb', hyi.keeps hb', hyr.keeps hb', hxr.keeps hb'⟩
  · constructor <;> simp
  · simp
  · simp

set_option maxRecDepth 100000 in
set_option maxHeartbeats 8000000 in
theorem joined_yes (g ca cb : Nat) (a b : HP) (au bu : Value) (pa pb : Option Addr) (w : World) (ha : HCells w ca a.1 au pa) (hb : HCells w cb b.1 bu pb)
    (hc : ∀ V, Below w.heap.size w V → Calls Tryz.prog 44 #[.agg #[.int .i64 b.1.kind, .int .i64 b.1.num, .string b.1.text, bu], .agg #[.int .i64 a.1.kind, .int .i64 a.1.num, .string a.1.text, au], .pointer (some ⟨g, 0, none⟩)] V fun e w' => e = .returned (.bool true) ∧ Below V.heap.size V w')
    (Q : Ending → World → Prop) (hQ : ∀ V, Below w.heap.size w V → Q (.returned (.pointer (some ⟨V.heap.size + 1, 0, none⟩))) ((V.alloc (.cells #[.pointer (some ⟨ca, 0, none⟩), .pointer pb] 90)).alloc (.cells #[.int .i64 b.1.kind, .int .i64 b.1.num, .string b.1.text, bu, .pointer (some ⟨V.heap.size, 0, none⟩)] 84)).drew) :
    Calls Tryz.prog 38 #[.pointer (some ⟨ca, 0, none⟩), .pointer (some ⟨cb, 0, none⟩), fnBy g] w Q := by
  obtain ⟨x0, x1, x2, x3, x4⟩ := ha
  obtain ⟨y0, y1, y2, y3, y4⟩ := hb
  have HC : Hid _ := hc
  have HQ : Hid _ := hQ
  have eg : ∀ args w, (callFunc 44 args).run Tryz.prog w = .ok (.enter 44 args) w := enters_of Tryz.func44 (by kernel_rfl) rfl
  clear hc hQ
  go_enter Tryz.func38, Tryz.ntmps38
  go_wp2_with fail
  go_region_held3 (fun w' => w'.cell? ⟨ca, 0, none⟩ = some (.int .i64 a.1.kind) ∧ w'.cell? ⟨ca, 1, none⟩ = some (.int .i64 a.1.num) ∧ w'.cell? ⟨ca, 2, none⟩ = some (.string a.1.text) ∧ w'.cell? ⟨ca, 3, none⟩ = some au ∧ w'.cell? ⟨cb, 0, none⟩ = some (.int .i64 b.1.kind) ∧ w'.cell? ⟨cb, 1, none⟩ = some (.int .i64 b.1.num) ∧ w'.cell? ⟨cb, 2, none⟩ = some (.string b.1.text) ∧ w'.cell? ⟨cb, 3, none⟩ = some bu) (go_keep)
    (first | (go_at_call 44; refine (HC.out _ (Below.refl _ _).drew).mono ?_; rintro e w2 ⟨rfl, hb⟩; have hbZ : Below w.heap.size w w2 := (Below.refl _ _).drew.trans hb; have x0 := cell_keeps hbZ x0; have x1 := cell_keeps hbZ x1; have x2 := cell_keeps hbZ x2; have x3 := cell_keeps hbZ x3; have x4 := cell_keeps hbZ x4; have y0 := cell_keeps hbZ y0; have y1 := cell_keeps hbZ y1; have y2 := cell_keeps hbZ y2; have y3 := cell_keeps hbZ y3; have y4 := cell_keeps hbZ y4; clear hb))
  clear HC eg
  have z0 : ∀ A, (w2.alloc A).cell? ⟨cb, 0, none⟩ = some (.int .i64 b.1.kind) := fun A => cell_keeps ((Grew.refl w2).alloc A).below y0
  have u0 : ∀ A, (w2.alloc A).drew.cell? ⟨cb, 0, none⟩ = some (.int .i64 b.1.kind) := fun A => cell_keeps ((Grew.refl w2).alloc A).drew.below y0
  have z1 : ∀ A, (w2.alloc A).cell? ⟨cb, 1, none⟩ = some (.int .i64 b.1.num) := fun A => cell_keeps ((Grew.refl w2).alloc A).below y1
  have u1 : ∀ A, (w2.alloc A).drew.cell? ⟨cb, 1, none⟩ = some (.int .i64 b.1.num) := fun A => cell_keeps ((Grew.refl w2).alloc A).drew.below y1
  have z2 : ∀ A, (w2.alloc A).cell? ⟨cb, 2, none⟩ = some (.string b.1.text) := fun A => cell_keeps ((Grew.refl w2).alloc A).below y2
  have u2 : ∀ A, (w2.alloc A).drew.cell? ⟨cb, 2, none⟩ = some (.string b.1.text) := fun A => cell_keeps ((Grew.refl w2).alloc A).drew.below y2
  have z3 : ∀ A, (w2.alloc A).cell? ⟨cb, 3, none⟩ = some (bu) := fun A => cell_keeps ((Grew.refl w2).alloc A).below y3
  have u3 : ∀ A, (w2.alloc A).drew.cell? ⟨cb, 3, none⟩ = some (bu) := fun A => cell_keeps ((Grew.refl w2).alloc A).drew.below y3
  have z4 : ∀ A, (w2.alloc A).cell? ⟨cb, 4, none⟩ = some (.pointer pb) := fun A => cell_keeps ((Grew.refl w2).alloc A).below y4
  have u4 : ∀ A, (w2.alloc A).drew.cell? ⟨cb, 4, none⟩ = some (.pointer pb) := fun A => cell_keeps ((Grew.refl w2).alloc A).drew.below y4
  have HE : Hid _ := HQ.out w2 hbZ
  clear HQ hbZ
  go_wp2_with fail
  go_region
  all_goals (go_wp2_with fail; first | exact HE.out | (go_ret; exact HE.out) | (go_ret2; exact HE.out))

set_option maxRecDepth 100000 in
set_option maxHeartbeats 8000000 in
theorem joined_no (g ca cb : Nat) (a b : HP) (au bu : Value) (pa pb : Option Addr) (w : World) (ha : HCells w ca a.1 au pa) (hb : HCells w cb b.1 bu pb)
    (hc : ∀ V, Below w.heap.size w V → Calls Tryz.prog 44 #[.agg #[.int .i64 b.1.kind, .int .i64 b.1.num, .string b.1.text, bu], .agg #[.int .i64 a.1.kind, .int .i64 a.1.num, .string a.1.text, au], .pointer (some ⟨g, 0, none⟩)] V fun e w' => e = .returned (.bool false) ∧ Below V.heap.size V w')
    (Q : Ending → World → Prop) (hQ : ∀ V, Below w.heap.size w V → Q (.returned (.pointer (some ⟨V.heap.size + 1, 0, none⟩))) ((V.alloc (.cells #[.pointer (some ⟨cb, 0, none⟩), .pointer pa] 90)).alloc (.cells #[.int .i64 a.1.kind, .int .i64 a.1.num, .string a.1.text, au, .pointer (some ⟨V.heap.size, 0, none⟩)] 84)).drew) :
    Calls Tryz.prog 38 #[.pointer (some ⟨ca, 0, none⟩), .pointer (some ⟨cb, 0, none⟩), fnBy g] w Q := by
  obtain ⟨x0, x1, x2, x3, x4⟩ := ha
  obtain ⟨y0, y1, y2, y3, y4⟩ := hb
  have HC : Hid _ := hc
  have HQ : Hid _ := hQ
  have eg : ∀ args w, (callFunc 44 args).run Tryz.prog w = .ok (.enter 44 args) w := enters_of Tryz.func44 (by kernel_rfl) rfl
  clear hc hQ
  go_enter Tryz.func38, Tryz.ntmps38
  go_wp2_with fail
  go_region_held3 (fun w' => w'.cell? ⟨ca, 0, none⟩ = some (.int .i64 a.1.kind) ∧ w'.cell? ⟨ca, 1, none⟩ = some (.int .i64 a.1.num) ∧ w'.cell? ⟨ca, 2, none⟩ = some (.string a.1.text) ∧ w'.cell? ⟨ca, 3, none⟩ = some au ∧ w'.cell? ⟨cb, 0, none⟩ = some (.int .i64 b.1.kind) ∧ w'.cell? ⟨cb, 1, none⟩ = some (.int .i64 b.1.num) ∧ w'.cell? ⟨cb, 2, none⟩ = some (.string b.1.text) ∧ w'.cell? ⟨cb, 3, none⟩ = some bu) (go_keep)
    (first | (go_at_call 44; refine (HC.out _ (Below.refl _ _).drew).mono ?_; rintro e w2 ⟨rfl, hb⟩; have hbZ : Below w.heap.size w w2 := (Below.refl _ _).drew.trans hb; have x0 := cell_keeps hbZ x0; have x1 := cell_keeps hbZ x1; have x2 := cell_keeps hbZ x2; have x3 := cell_keeps hbZ x3; have x4 := cell_keeps hbZ x4; have y0 := cell_keeps hbZ y0; have y1 := cell_keeps hbZ y1; have y2 := cell_keeps hbZ y2; have y3 := cell_keeps hbZ y3; have y4 := cell_keeps hbZ y4; clear hb))
  clear HC eg
  have z0 : ∀ A, (w2.alloc A).cell? ⟨ca, 0, none⟩ = some (.int .i64 a.1.kind) := fun A => cell_keeps ((Grew.refl w2).alloc A).below x0
  have u0 : ∀ A, (w2.alloc A).drew.cell? ⟨ca, 0, none⟩ = some (.int .i64 a.1.kind) := fun A => cell_keeps ((Grew.refl w2).alloc A).drew.below x0
  have z1 : ∀ A, (w2.alloc A).cell? ⟨ca, 1, none⟩ = some (.int .i64 a.1.num) := fun A => cell_keeps ((Grew.refl w2).alloc A).below x1
  have u1 : ∀ A, (w2.alloc A).drew.cell? ⟨ca, 1, none⟩ = some (.int .i64 a.1.num) := fun A => cell_keeps ((Grew.refl w2).alloc A).drew.below x1
  have z2 : ∀ A, (w2.alloc A).cell? ⟨ca, 2, none⟩ = some (.string a.1.text) := fun A => cell_keeps ((Grew.refl w2).alloc A).below x2
  have u2 : ∀ A, (w2.alloc A).drew.cell? ⟨ca, 2, none⟩ = some (.string a.1.text) := fun A => cell_keeps ((Grew.refl w2).alloc A).drew.below x2
  have z3 : ∀ A, (w2.alloc A).cell? ⟨ca, 3, none⟩ = some (au) := fun A => cell_keeps ((Grew.refl w2).alloc A).below x3
  have u3 : ∀ A, (w2.alloc A).drew.cell? ⟨ca, 3, none⟩ = some (au) := fun A => cell_keeps ((Grew.refl w2).alloc A).drew.below x3
  have z4 : ∀ A, (w2.alloc A).cell? ⟨ca, 4, none⟩ = some (.pointer pa) := fun A => cell_keeps ((Grew.refl w2).alloc A).below x4
  have u4 : ∀ A, (w2.alloc A).drew.cell? ⟨ca, 4, none⟩ = some (.pointer pa) := fun A => cell_keeps ((Grew.refl w2).alloc A).drew.below x4
  have HE : Hid _ := HQ.out w2 hbZ
  clear HQ hbZ
  go_wp2_with fail
  go_region
  all_goals (go_wp2_with fail; first | exact HE.out | (go_ret; exact HE.out) | (go_ret2; exact HE.out))

theorem joined_any (X : Nat → Prop) (q g : Nat) (hq : q < 6) (a b : Option HP) (pa pb : Option Addr) (w : World) (hg : w.cell? ⟨g, 0, none⟩ = some (.int .i64 (q : Int))) (ha : HpO X w a pa) (hb : HpO X w b pb) :
    Calls Tryz.prog 38 #[.pointer pa, .pointer pb, fnBy g] w (HpPost X (joinO (ordV q) a b) w) := by
  cases a with
  | none =>
    have hp : pa = none := ha
    subst hp
    refine Calls.mono (joined_left pb g w) ?_
    rintro e w' ⟨rfl, rfl⟩
    exact ⟨Below.refl _ _, pb, rfl, hb⟩
  | some a =>
    cases b with
    | none =>
      have hp : pb = none := hb
      subst hp
      obtain ⟨c, pl, u, rfl, h⟩ := id ha
      refine Calls.mono (joined_right c g w) ?_
      rintro e w' ⟨rfl, rfl⟩
      exact ⟨Below.refl _ _, _, rfl, ha⟩
    | some b =>
      obtain ⟨ca, qa, au, rfl, hac, hai, har⟩ := ha
      obtain ⟨cb, qb, bu, rfl, hbc, hbi, hbr⟩ := hb
      have hc : ∀ V, Below w.heap.size w V → Calls Tryz.prog 44 #[.agg #[.int .i64 b.1.kind, .int .i64 b.1.num, .string b.1.text, bu], .agg #[.int .i64 a.1.kind, .int .i64 a.1.num, .string a.1.text, au], .pointer (some ⟨g, 0, none⟩)] V fun e w' => e = .returned (.bool (decide (ordV q b.1 a.1 < 0))) ∧ Below V.heap.size V w' :=
        fun V hV => byOrder1_any q g hq b.1 a.1 bu au V (cell_keeps hV hg) (hbi.keeps hV) (hai.keeps hV)
      show Calls _ _ _ _ (HpPost X (some (joinH (ordV q) a b)) w)
      unfold joinH
      by_cases h : ordV q b.1 a.1 < 0
      · rw [if_pos h]
        simp only [h, decide_true] at hc
        exact joined_yes g ca cb a b au bu qa qb w hac hbc hc _ fun V hV => join_fin X _ _ hV rfl hbi hbr hac hai har
      · rw [if_neg h]
        simp only [h, decide_false] at hc
        exact joined_no g ca cb a b au bu qa qb w hac hbc hc _ fun V hV => join_fin X _ _ hV rfl hai har hbc hbi hbr

end Go.Proofs.YtgmmocbgeilpiaaGreat

