/-
  The contract of Two, of whatever row.
-/
import Derived.Test.YtdapildmegdjkaaGreatTwo
import Derived.Deep.RegionHeld3
namespace Go.Proofs.YtdapildmegdjkaaGreat
open Go.RowKit

/-- A value, in new memory, an answer and a number are told. -/
def TPost (s : VT) (b : Bool) (r : Int) (W : World) (e : Ending) (W' : World) : Prop :=
  ∃ u, e = .returned (.tuple #[.agg #[.int .i64 s.kind, .int .i64 s.num, .string s.text, u], .bool b, .int .i64 r]) ∧ LiesX (fun b => W.heap.size ≤ b) 16 W' s.items u ∧ Below W.heap.size W W'

theorem tPost_nil {r : Int} {W W' : World} (h : Below W.heap.size W W') : TPost nilT false r W (.returned (.tuple #[.agg #[.int .i64 0, .int .i64 0, .string ⟨#[]⟩, .slice none 0 0], .bool false, .int .i64 r])) W' :=
  ⟨_, rfl, liesX_nil _ _ _ _ _, h⟩

def start4 (w : World) (t s : VT) (u v : Value) : World := (two3 w t s u v).alloc (.cells #[fv 151, fv 142, fv 152, fv 142, fv 153, fv 142, fv 154, fv 142, fv 155, fv 142, fv 156, fv 142, fv 151, fv 157, fv 158, fv 142] 134)

theorem start4_below (w : World) (t s : VT) (u v : Value) : Below w.heap.size w (start4 w t s u v) := grew4 _ _ _ _ _
theorem start4_size (w : World) (t s : VT) (u v : Value) : (start4 w t s u v).heap.size = w.heap.size + 4 := by unfold start4; rw [World.size_alloc, two3_size]
theorem start4_row (w : World) (t s : VT) (u v : Value) (q : Nat) (hq : q < 8) : (start4 w t s u v).cell? ⟨w.heap.size + 1 + 1 + 1, q * 2, none⟩ = some (fv (twoF q)) := by
  have := twoF_cell (two3 w t s u v) q hq
  rwa [two3_size] at this
theorem start4_row2 (w : World) (t s : VT) (u v : Value) (q : Nat) (hq : q < 8) : (start4 w t s u v).cell? ⟨w.heap.size + 1 + 1 + 1, q * 2 + 1, none⟩ = some (fv (stopF q)) := by
  have := stopF_cell (two3 w t s u v) q hq
  rwa [two3_size] at this

/-- The two boxes, the result's cells, the row. -/
structure Desk2 (W : World) (N B f g : Nat) (t s : VT) (u v : Value) : Prop where
  one : Bx W N t u
  two : Bx W (N + 1) s v
  res : Bx W (N + 2) zeroT (.slice none 0 0)
  fn : W.cell? ⟨B, 0, none⟩ = some (fv f)
  st : W.cell? ⟨B, 1, none⟩ = some (fv g)

theorem Desk2.keeps {W W' : World} {N B f g : Nat} {t s : VT} {u v : Value} (h : Desk2 W N B f g t s u v) (hb : Below W.heap.size W W') : Desk2 W' N B f g t s u v :=
  ⟨h.one.keeps hb, h.two.keeps hb, h.res.keeps hb, cell_keeps hb h.fn, cell_keeps hb h.st⟩

set_option maxHeartbeats 2000000 in
theorem two_kind (d : Nat) (q : Int) (t s : VT) (u v : Value) (w : World) (hu : Lies d w t.items u) (hv : Lies d w s.items v) (hq : q < 0 ∨ 8 ≤ q) :
    Calls Tryz.prog 72 #[.int .i64 q, .agg #[.int .i64 t.kind, .int .i64 t.num, .string t.text, u], .agg #[.int .i64 s.kind, .int .i64 s.num, .string s.text, v]] w (TPost nilT false 4 w) := by
  obtain ⟨a, c, rfl, _⟩ := Lies.slice hu
  obtain ⟨a2, c2, rfl, _⟩ := Lies.slice hv
  have HL : Hid (Lies d w t.items (.slice a t.items.length c)) := hu
  have HL2 : Hid (Lies d w s.items (.slice a2 s.items.length c2)) := hv
  clear hu hv
  generalize t.items.length = l at *
  generalize s.items.length = l2 at *
  have HB := start4_below w t s (.slice a l c) (.slice a2 l2 c2)
  have HX : Hid (Bx (start4 w t s (.slice a l c) (.slice a2 l2 c2)) w.heap.size t (.slice a l c)) := (two3_first _ _ _ _ _).keeps ((Grew.refl _).alloc _).below
  have HY : Hid (Bx (start4 w t s (.slice a l c) (.slice a2 l2 c2)) (w.heap.size + 1) s (.slice a2 l2 c2)) := (two3_second _ _ _ _ _).keeps ((Grew.refl _).alloc _).below
  have HR : Hid (Bx (start4 w t s (.slice a l c) (.slice a2 l2 c2)) (w.heap.size + 2) zeroT (.slice none 0 0)) := (two3_res _ _ _ _ _).keeps ((Grew.refl _).alloc _).below
  have Hz : Hid ((start4 w t s (.slice a l c) (.slice a2 l2 c2)).heap.size = w.heap.size + 4) := start4_size _ _ _ _ _
  have HQ : Hid (q < 0 ∨ 8 ≤ q) := hq
  clear hq HL HL2 HX HY
  go_enter Tryz.func72, Tryz.ntmps72
  go_wp2_with fail
  refine (twos_any _).mono ?_
  rintro e w1 ⟨rfl, rfl⟩
  go_wp2_with fail
  refine (rowT_no (w.heap.size + 1 + 1 + 1) q _ HQ.out).mono ?_
  rintro e w1 ⟨rfl, hb⟩
  have hb : Below (start4 w t s (.slice a l c) (.slice a2 l2 c2)).heap.size (start4 w t s (.slice a l c) (.slice a2 l2 c2)) w1 := hb
  have hb1 : Below w.heap.size w w1 := HB.trans (hb.mono (by rw [Hz.out]; omega))
  have hb2 : Below w.heap.size w (w1.alloc (.cells #[.nilFunc, .nilFunc] 134)) := hb1.alloc hb1.size _
  have HR2 : Hid (Bx (w1.alloc (.cells #[.nilFunc, .nilFunc] 134)) (w.heap.size + 2) zeroT (.slice none 0 0)) := (HR.out.keeps hb).keeps ((Grew.refl _).alloc _).below
  clear hb HR HB Hz
  obtain ⟨y0, y1, y2, y3, z0, z1, z2, z3⟩ := HR2.out
  have Hbx : Hid (Bx ((w1.alloc (.cells #[.nilFunc, .nilFunc] 134)).setCells (w.heap.size + 2) 0 (encP (zeroT, .slice none 0 0))) (w.heap.size + 2) zeroT (.slice none 0 0)) := HR2.out.put (zeroT, .slice none 0 0)
  have Hbl : Hid (Below w.heap.size w ((w1.alloc (.cells #[.nilFunc, .nilFunc] 134)).setCells (w.heap.size + 2) 0 (encP (zeroT, .slice none 0 0)))) := below_put hb2 (by omega) (zeroT, .slice none 0 0)
  go_wp2_with fail
  refine bodyPost_ret (v := .tuple #[.agg #[.int .i64 0, .int .i64 0, .string ⟨#[]⟩, .slice none 0 0], .bool false, .int .i64 4]) ?_ rfl (tPost_nil Hbl.out)
  obtain ⟨q0, q1, q2, q3, _, _, _, _⟩ := Hbx.out
  simp only [encP, World.setCells, Nat.zero_add, Nat.reduceAdd] at q0 q1 q2 q3
  simp [results, Tryz.results72, go_sem, q0, q1, q2, q3]

theorem set4_keep {W : World} {n : Nat} {v0 v1 v2 v3 : Value} {a : Addr} {v : Value} (hn : a.block ≠ n) (h : W.cell? a = some v) : ((((W.setCell ⟨n, 0, none⟩ v0).setCell ⟨n, 1, none⟩ v1).setCell ⟨n, 2, none⟩ v2).setCell ⟨n, 3, none⟩ v3).cell? a = some v :=
  cell_other (g := n) (o := 0) (vs := [v0, v1, v2, v3]) hn h

set_option maxHeartbeats 4000000 in
theorem two_core (d q f g : Nat) (t s r : VT) (b : Bool) (u v : Value) (w : World) (hu : Lies d w t.items u) (hv : Lies d w s.items v) (hs : t.text.size ≤ 9223372036854775807) (hs2 : s.text.size ≤ 9223372036854775807) (hq : q < 8)
    (Hrow : Hid (∀ x y, (start4 w t s x y).cell? ⟨w.heap.size + 1 + 1 + 1, q * 2, none⟩ = some (fv f))) (Hrow2 : Hid (∀ x y, (start4 w t s x y).cell? ⟨w.heap.size + 1 + 1 + 1, q * 2 + 1, none⟩ = some (fv g)))
    (eg : ∀ args w, (callFunc f args).run Tryz.prog w = .ok (.enter f args) w) (eg2 : ∀ args w, (callFunc g args).run Tryz.prog w = .ok (.enter g args) w)
    (Hf : Hid (rightV d t = true → rightV d s = true → ∀ W, Below w.heap.size w W → Calls Tryz.prog f #[.agg #[.int .i64 t.kind, .int .i64 t.num, .string t.text, u], .agg #[.int .i64 s.kind, .int .i64 s.num, .string s.text, v]] W (FnPost (fun _ => True) r W)))
    (Hg : Hid (∀ x W, Lies 16 W r.items x → Calls Tryz.prog g #[.agg #[.int .i64 r.kind, .int .i64 r.num, .string r.text, x]] W (QPost b W)))
    (Hr : Hid (rightV d t = true → rightV d s = true → rightV 16 r = true)) :
    Calls Tryz.prog 72 #[.int .i64 q, .agg #[.int .i64 t.kind, .int .i64 t.num, .string t.text, u], .agg #[.int .i64 s.kind, .int .i64 s.num, .string s.text, v]] w (if rightV d t = true ∧ rightV d s = true then TPost r b 0 w else TPost nilT false 3 w) := by
  obtain ⟨a, c, rfl, _⟩ := Lies.slice hu
  obtain ⟨a2, c2, rfl, _⟩ := Lies.slice hv
  have HL : Hid (Lies d w t.items (.slice a t.items.length c)) := hu
  have HL2 : Hid (Lies d w s.items (.slice a2 s.items.length c2)) := hv
  clear hu hv
  generalize t.items.length = l at *
  generalize s.items.length = l2 at *
  have HB := start4_below w t s (.slice a l c) (.slice a2 l2 c2)
  have HX : Hid (Bx (start4 w t s (.slice a l c) (.slice a2 l2 c2)) w.heap.size t (.slice a l c)) := (two3_first _ _ _ _ _).keeps ((Grew.refl _).alloc _).below
  have HY : Hid (Bx (start4 w t s (.slice a l c) (.slice a2 l2 c2)) (w.heap.size + 1) s (.slice a2 l2 c2)) := (two3_second _ _ _ _ _).keeps ((Grew.refl _).alloc _).below
  have HR : Hid (Bx (start4 w t s (.slice a l c) (.slice a2 l2 c2)) (w.heap.size + 2) zeroT (.slice none 0 0)) := (two3_res _ _ _ _ _).keeps ((Grew.refl _).alloc _).below
  have Hz : Hid ((start4 w t s (.slice a l c) (.slice a2 l2 c2)).heap.size = w.heap.size + 4) := start4_size _ _ _ _ _
  generalize hP : (if rightV d t = true ∧ rightV d s = true then TPost r b 0 w else TPost nilT false 3 w) = P
  have HP : Hid ((if rightV d t = true ∧ rightV d s = true then TPost r b 0 w else TPost nilT false 3 w) = P) := hP
  clear hP
  go_enter Tryz.func72, Tryz.ntmps72
  go_wp2_with fail
  refine (twos_any _).mono ?_
  rintro e w1 ⟨rfl, rfl⟩
  go_wp2_with fail
  refine (rowT_yes (w.heap.size + 1 + 1 + 1) q f g _ hq (Hrow.out _ _) (Hrow2.out _ _)).mono ?_
  rintro e w1 ⟨rfl, hb⟩
  have hb : Below (start4 w t s (.slice a l c) (.slice a2 l2 c2)).heap.size (start4 w t s (.slice a l c) (.slice a2 l2 c2)) w1 := hb
  have hb1 : Below w.heap.size w w1 := HB.trans (hb.mono (by rw [Hz.out]; omega))
  have hsz : w.heap.size + 4 ≤ w1.heap.size := by have := hb.size; rw [Hz.out] at this; exact this
  have hb2 : Below w.heap.size w (w1.alloc (.cells #[fv f, fv g] 134)) := hb1.alloc hb1.size _
  have HD2 : Hid (Desk2 (w1.alloc (.cells #[fv f, fv g] 134)) w.heap.size w1.heap.size f g t s (.slice a l c) (.slice a2 l2 c2)) :=
    ⟨(HX.out.keeps hb).keeps ((Grew.refl _).alloc _).below, (HY.out.keeps hb).keeps ((Grew.refl _).alloc _).below, (HR.out.keeps hb).keeps ((Grew.refl _).alloc _).below, by simp, by simp⟩
  clear hb HR HX HY HB Hz Hrow Hrow2
  obtain ⟨⟨x0, x1, x2, x3, _, _, _, _⟩, ⟨u0, u1, u2, u3, _, _, _, _⟩, _, _, _⟩ := HD2.out
  go_wp2_with fail
  refine (check_any d t _ _ (Lies.keeps hb2 _ _ _ HL.out) hs).mono ?_
  rintro e w2 ⟨rfl, hb⟩
  have hb3 : Below w.heap.size w w2 := hb2.trans (hb.mono hb2.size)
  have HD3 : Hid (Desk2 w2 w.heap.size w1.heap.size f g t s (.slice a l c) (.slice a2 l2 c2)) := HD2.out.keeps hb
  clear hb HD2 x0 x1 x2 x3 u0 u1 u2 u3 hb2 hb1
  have hB : w.heap.size + 4 ≤ w1.heap.size := hsz
  clear hsz
  generalize w1.heap.size = B at *
  cases hr : rightV d t
  · have he : errOf false = 3 := rfl
    rw [he]
    have HR3 : Hid (Bx w2 (w.heap.size + 2) zeroT (.slice none 0 0)) := HD3.out.res
    have HP2 : Hid (P = TPost nilT false 3 w) := by show _ = _; rw [← HP.out, if_neg (fun h => by rw [hr] at h; exact absurd h.1 (by simp))]
    clear he hr HP HD3
    obtain ⟨y0, y1, y2, y3, z0, z1, z2, z3⟩ := HR3.out
    have Hbx : Hid (Bx (w2.setCells (w.heap.size + 2) 0 (encP (zeroT, .slice none 0 0))) (w.heap.size + 2) zeroT (.slice none 0 0)) := HR3.out.put (zeroT, .slice none 0 0)
    have Hbl : Hid (Below w.heap.size w (w2.setCells (w.heap.size + 2) 0 (encP (zeroT, .slice none 0 0)))) := below_put hb3 (by omega) (zeroT, .slice none 0 0)
    go_wp2_with fail
    refine bodyPost_ret (v := .tuple #[.agg #[.int .i64 0, .int .i64 0, .string ⟨#[]⟩, .slice none 0 0], .bool false, .int .i64 3]) ?_ rfl (by rw [HP2.out]; exact tPost_nil Hbl.out)
    obtain ⟨q0, q1, q2, q3, _, _, _, _⟩ := Hbx.out
    simp only [encP, World.setCells, Nat.zero_add, Nat.reduceAdd] at q0 q1 q2 q3
    simp [results, Tryz.results72, go_sem, q0, q1, q2, q3]
  have he : errOf true = 0 := rfl
  rw [he]
  have HrT : Hid (rightV d t = true) := hr
  clear he hr
  obtain ⟨⟨x0, x1, x2, x3, _, _, _, _⟩, ⟨u0, u1, u2, u3, _, _, _, _⟩, _, _, _⟩ := HD3.out
  go_wp2_with fail
  refine (check_any d s _ _ (Lies.keeps hb3 _ _ _ HL2.out) hs2).mono ?_
  rintro e w3 ⟨rfl, hb⟩
  have hb4 : Below w.heap.size w w3 := hb3.trans (hb.mono hb3.size)
  have HD4 : Hid (Desk2 w3 w.heap.size B f g t s (.slice a l c) (.slice a2 l2 c2)) := HD3.out.keeps hb
  clear hb HD3 x0 x1 x2 x3 u0 u1 u2 u3 hb3
  cases hr : rightV d s
  · have he : errOf false = 3 := rfl
    rw [he]
    have HR3 : Hid (Bx w3 (w.heap.size + 2) zeroT (.slice none 0 0)) := HD4.out.res
    have HP2 : Hid (P = TPost nilT false 3 w) := by show _ = _; rw [← HP.out, if_neg (fun h => by rw [hr] at h; exact absurd h.2 (by simp))]
    clear he hr HP HD4
    obtain ⟨y0, y1, y2, y3, z0, z1, z2, z3⟩ := HR3.out
    have Hbx : Hid (Bx (w3.setCells (w.heap.size + 2) 0 (encP (zeroT, .slice none 0 0))) (w.heap.size + 2) zeroT (.slice none 0 0)) := HR3.out.put (zeroT, .slice none 0 0)
    have Hbl : Hid (Below w.heap.size w (w3.setCells (w.heap.size + 2) 0 (encP (zeroT, .slice none 0 0)))) := below_put hb4 (by omega) (zeroT, .slice none 0 0)
    go_wp2_with fail
    refine bodyPost_ret (v := .tuple #[.agg #[.int .i64 0, .int .i64 0, .string ⟨#[]⟩, .slice none 0 0], .bool false, .int .i64 3]) ?_ rfl (by rw [HP2.out]; exact tPost_nil Hbl.out)
    obtain ⟨q0, q1, q2, q3, _, _, _, _⟩ := Hbx.out
    simp only [encP, World.setCells, Nat.zero_add, Nat.reduceAdd] at q0 q1 q2 q3
    simp [results, Tryz.results72, go_sem, q0, q1, q2, q3]
  have he : errOf true = 0 := rfl
  rw [he]
  have HP2 : Hid (P = TPost r b 0 w) := by show _ = _; rw [← HP.out, if_pos ⟨HrT.out, hr⟩]
  have HfW : Hid (∀ W, Below w.heap.size w W → Calls Tryz.prog f #[.agg #[.int .i64 t.kind, .int .i64 t.num, .string t.text, .slice a l c], .agg #[.int .i64 s.kind, .int .i64 s.num, .string s.text, .slice a2 l2 c2]] W (FnPost (fun _ => True) r W)) := Hf.out HrT.out hr
  have HrR : Hid (rightV 16 r = true) := Hr.out HrT.out hr
  clear he hr HP Hf Hr HrT
  obtain ⟨⟨x0, x1, x2, x3, _, _, _, _⟩, ⟨u0, u1, u2, u3, _, _, _, _⟩, _, xf, _⟩ := HD4.out
  go_wp2_with (go_at_fn f; refine Calls.mono (HfW.out _ hb4) ?_; rintro e w4 ⟨v4, rfl, hl4, hb5⟩; fail)
  go_at_fn f
  refine Calls.mono (HfW.out _ hb4) ?_
  rintro e w4 ⟨v4, rfl, hl4, hb5⟩
  obtain ⟨a4, c4, rfl, _⟩ := LiesX.slice hl4
  have HL4 : Hid (Lies 16 w4 r.items (.slice a4 r.items.length c4)) := hl4.lies
  generalize r.items.length = l4 at *
  have hb6 : Below w.heap.size w (w4.alloc (.cells #[.int .i64 r.kind, .int .i64 r.num, .string r.text, .slice a4 l4 c4] 24)) := (hb4.trans (hb5.mono hb4.size)).alloc (hb4.trans (hb5.mono hb4.size)).size _
  have HD6 : Hid (Desk2 (w4.alloc (.cells #[.int .i64 r.kind, .int .i64 r.num, .string r.text, .slice a4 l4 c4] 24)) w.heap.size B f g t s (.slice a l c) (.slice a2 l2 c2)) := (HD4.out.keeps hb5).keeps ((Grew.refl _).alloc _).below
  have HV6 : Hid (Bx (w4.alloc (.cells #[.int .i64 r.kind, .int .i64 r.num, .string r.text, .slice a4 l4 c4] 24)) w4.heap.size r (.slice a4 l4 c4)) := bx_alloc w4 r _
  have HL6 : Hid (Lies 16 (w4.alloc (.cells #[.int .i64 r.kind, .int .i64 r.num, .string r.text, .slice a4 l4 c4] 24)) r.items (.slice a4 l4 c4)) := Lies.keeps ((Grew.refl w4).alloc _).below _ _ _ HL4.out
  have hB2 : B < w4.heap.size := cell_lt (cell_keeps hb5 HD4.out.fn)
  clear hl4 hb5 HD4 hb4 x0 x1 x2 x3 u0 u1 u2 u3 xf HL4 HfW
  go_wp2_with fail
  generalize w4.alloc (.cells #[.int .i64 r.kind, .int .i64 r.num, .string r.text, .slice a4 l4 c4] 24) = W6 at *
  generalize w4.heap.size = B2 at *
  obtain ⟨x0, x1, x2, x3, _, _, _, _⟩ := HV6.out
  have xg := HD6.out.st
  have n1 : B2 ≠ w.heap.size + 1 + 1 := by omega
  have n2 : B ≠ w.heap.size + 1 + 1 := by omega
  go_region_held3 (fun w' => w'.cell? ⟨B2, 0, none⟩ = some (.int .i64 r.kind) ∧ w'.cell? ⟨B2, 1, none⟩ = some (.int .i64 r.num) ∧ w'.cell? ⟨B2, 2, none⟩ = some (.string r.text) ∧ w'.cell? ⟨B2, 3, none⟩ = some (.slice a4 l4 c4) ∧ w'.cell? ⟨B, 1, none⟩ = some (fv g)) (first | go_keep | exact ⟨set4_keep n1 m0, set4_keep n1 m1, set4_keep n1 m2, set4_keep n1 m3, set4_keep n2 mg⟩)
    (first | (go_at_call 29; refine (copy_right r (.slice a4 l4 c4) _ (Lies.keeps (Below.refl W6.heap.size W6).drew _ _ _ HL6.out) HrR.out).mono ?_; rintro e w7 ⟨v7, rfl, hl7, hb⟩; have hb7 : Below W6.heap.size W6 w7 := (Below.refl _ _).drew.trans hb; have hl7' : LiesB W6.heap.size 16 w7 r.items v7 := hl7; clear hl7 hb; have k0 := cell_keeps hb7 x0; have k1 := cell_keeps hb7 x1; have k2 := cell_keeps hb7 x2; have k3 := cell_keeps hb7 x3; have kg := cell_keeps hb7 xg; clear x0 x1 x2 x3 xg; obtain ⟨a7, c7, rfl, _⟩ := LiesB.slice hl7'; have HL7 : Hid (LiesB W6.heap.size 16 w7 r.items (.slice a7 r.items.length c7)) := hl7'; clear hl7')
           | (go_at_fn g; refine Calls.mono (Hg.out (.slice a4 l4 c4) _ (Lies.keeps hb7 _ _ _ HL6.out)) ?_; rintro e w8 ⟨rfl, hb⟩; have hb8 : Below W6.heap.size W6 w8 := hb7.trans (hb.mono hb7.size); have m0 := cell_keeps hb k0; have m1 := cell_keeps hb k1; have m2 := cell_keeps hb k2; have m3 := cell_keeps hb k3; have mg := cell_keeps hb kg; clear k0 k1 k2 k3 kg; have HL8 : Hid (LiesB W6.heap.size 16 w8 r.items (.slice a7 r.items.length c7)) := LiesB.stays (fun a v _ hv => ⟨cell_keeps hb hv, hb.frozen (cell_lt hv)⟩) _ _ _ HL7.out; clear HL7 hb; have HR8 : Hid (Bx w8 (w.heap.size + 2) zeroT (.slice none 0 0)) := HD6.out.res.keeps hb8; obtain ⟨y0, y1, y2, y3, z0, z1, z2, z3⟩ := HR8.out))
  have Hbx : Hid (Bx (w8.setCells (w.heap.size + 2) 0 (encP (r, .slice a7 r.items.length c7))) (w.heap.size + 2) r (.slice a7 r.items.length c7)) := HR8.out.put (r, .slice a7 r.items.length c7)
  have hbw : Below w.heap.size w w8 := hb6.trans (hb8.mono hb6.size)
  have Hbl : Hid (Below w.heap.size w (w8.setCells (w.heap.size + 2) 0 (encP (r, .slice a7 r.items.length c7)))) := below_put hbw (by omega) (r, .slice a7 r.items.length c7)
  have hsz6 : w.heap.size + 2 < W6.heap.size := cell_lt HD6.out.res.c0
  have Hfin : Hid (LiesX (fun b => w.heap.size ≤ b) 16 (w8.setCells (w.heap.size + 2) 0 (encP (r, .slice a7 r.items.length c7))) r.items (.slice a7 r.items.length c7)) := ((LiesX.of_b HL8.out).set (g := w.heap.size + 2) (by omega)).mono (fun b hb => by omega)
  go_wp2_with fail
  refine bodyPost_ret (v := .tuple #[.agg #[.int .i64 r.kind, .int .i64 r.num, .string r.text, .slice a7 r.items.length c7], .bool b, .int .i64 0]) ?_ rfl (by rw [HP2.out]; exact ⟨_, rfl, Hfin.out, Hbl.out⟩)
  obtain ⟨q0, q1, q2, q3, _, _, _, _⟩ := Hbx.out
  simp only [encP, World.setCells, Nat.zero_add, Nat.reduceAdd] at q0 q1 q2 q3
  simp [results, Tryz.results72, go_sem, q0, q1, q2, q3]

end Go.Proofs.YtdapildmegdjkaaGreat

