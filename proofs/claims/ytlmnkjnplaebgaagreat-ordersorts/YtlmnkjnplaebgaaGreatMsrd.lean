/-
  The contract of measured: a value with its measure.
-/
import Derived.Test.YtlmnkjnplaebgaaGreatTab6
import Derived.Test.YtlmnkjnplaebgaaGreatBox
import Derived.Deep.RegionHeld3
namespace Go.Proofs.YtlmnkjnplaebgaaGreat
open Go.RowKit Go.Shelf

/-- A member: a tree, the slice of its items, its measure. -/
structure MB where
  t : VT
  u : Value
  m : Int

/-- What a member's cells hold. -/
def encM (p : MB) : List Value := [.int .i64 p.t.kind, .int .i64 p.t.num, .string p.t.text, p.u, .int .u64 p.m]

/-- Five cells of a block that may be written. -/
structure Five (W : World) (n : Nat) : Prop where
  there : ∀ k, k < 5 → (W.cell? ⟨n, k, none⟩).isSome = true
  soft : ∀ k, k < 5 → W.frozen? ⟨n, k, none⟩ = false

theorem Five.lt {W : World} {n : Nat} (h : Five W n) : n < W.heap.size := by
  obtain ⟨v, hv⟩ := Option.isSome_iff_exists.1 (h.there 0 (by omega))
  exact cell_lt hv

theorem Five.keeps {W W' : World} {n : Nat} (h : Five W n) (hb : Below W.heap.size W W') : Five W' n :=
  ⟨fun k hk => by rw [hb.cell (p := ⟨n, k, none⟩) h.lt]; exact h.there k hk, fun k hk => by rw [hb.frozen (p := ⟨n, k, none⟩) h.lt]; exact h.soft k hk⟩

theorem Five.put {W : World} {n : Nat} (h : Five W n) (p : MB) : ∀ j (hj : j < (encM p).length), (W.setCells n 0 (encM p)).cell? ⟨n, 0 + j, none⟩ = some ((encM p)[j]) :=
  World.cell?_setCells_in n _ 0 W (fun j hj => by rw [Nat.zero_add]; exact h.there j (by simpa [encM] using hj))

theorem below_putM {w W : World} {n : Nat} (h : Below w.heap.size w W) (hn : w.heap.size ≤ n) (o : Nat) (p : MB) : Below w.heap.size w (W.setCells n o (encM p)) :=
  ((((h.setCell (p := ⟨n, o, none⟩) hn _).setCell (p := ⟨n, o + 1, none⟩) hn _).setCell (p := ⟨n, o + 1 + 1, none⟩) hn _).setCell (p := ⟨n, o + 1 + 1 + 1, none⟩) hn _).setCell (p := ⟨n, o + 1 + 1 + 1 + 1, none⟩) hn _

/-- The row's box, the value's box, the result's cells. -/
structure DeskM (W : World) (n f0 f1 : Nat) (t : VT) (u : Value) : Prop where
  g0 : W.cell? ⟨n, 0, none⟩ = some (fv f0)
  g1 : W.cell? ⟨n, 1, none⟩ = some (fv f1)
  box : Boxed W (n + 1) t.kind t.num t.text u
  res : Five W (n + 2)

theorem DeskM.keeps {W W' : World} {n f0 f1 : Nat} {t : VT} {u : Value} (h : DeskM W n f0 f1 t u) (hb : Below W.heap.size W W') : DeskM W' n f0 f1 t u :=
  ⟨cell_keeps hb h.g0, cell_keeps hb h.g1, h.box.keeps hb, h.res.keeps hb⟩

abbrev deskW (w : World) (f0 f1 : Nat) (t : VT) (u : Value) : World :=
  (((w.alloc (.cells #[fv f0, fv f1] 58)).alloc (.cells #[.int .i64 t.kind, .int .i64 t.num, .string t.text, u] 24)).alloc (.cells #[.int .i64 0, .int .i64 0, .string ⟨#[]⟩, .slice none 0 0, .int .u64 0] 66)).drew

theorem five_alloc (w : World) (a b c d e : Value) (ty : Nat) : Five (w.alloc (.cells #[a, b, c, d, e] ty)) w.heap.size := by
  refine ⟨fun k hk => ?_, fun k hk => by simp⟩
  match k, hk with
  | 0, _ => simp
  | 1, _ => simp
  | 2, _ => simp
  | 3, _ => simp
  | 4, _ => simp

theorem deskM_start (w : World) (f0 f1 : Nat) (t : VT) (u : Value) : DeskM (deskW w f0 f1 t u) w.heap.size f0 f1 t u := by
  have h2 : ∀ (W : World) (o1 o2 : Obj), Below W.heap.size W ((W.alloc o1).alloc o2).drew := fun W o1 o2 => (Grew.two W o1 o2).drew.below
  have h1 : ∀ (W : World) (o1 : Obj), Below W.heap.size W (W.alloc o1).drew := fun W o1 => ((Grew.refl W).alloc o1).drew.below
  have h0 : ∀ (W : World), Below W.heap.size W W.drew := fun W => (Grew.refl W).drew.below
  refine ⟨cell_keeps (h2 _ _ _) (by simp), cell_keeps (h2 _ _ _) (by simp), ?_, ?_⟩
  · have := (boxed_alloc (w.alloc (.cells #[fv f0, fv f1] 58)) t.kind t.num t.text u 24).keeps (h1 _ (.cells #[.int .i64 0, .int .i64 0, .string ⟨#[]⟩, .slice none 0 0, .int .u64 0] 66))
    rwa [World.size_alloc] at this
  · have := (five_alloc ((w.alloc (.cells #[fv f0, fv f1] 58)).alloc (.cells #[.int .i64 t.kind, .int .i64 t.num, .string t.text, u] 24)) (.int .i64 0) (.int .i64 0) (.string ⟨#[]⟩) (.slice none 0 0) (.int .u64 0) 66).keeps (h0 _)
    rwa [World.size_alloc, World.size_alloc] at this

set_option maxHeartbeats 2000000 in
theorem measured_core (f0 f1 : Nat) (eg : ∀ args w, (callFunc f0 args).run Tryz.prog w = .ok (.enter f0 args) w) (z : Int) (t : VT) (a : Option Addr) (l c : Nat) (w : World)
    (hf : Hid (∀ W : World, Below w.heap.size w W → Calls Tryz.prog f0 #[.agg #[.int .i64 t.kind, .int .i64 t.num, .string t.text, .slice a l c]] W (MeasPost z W))) :
    Calls Tryz.prog 25 #[.agg #[fv f0, fv f1], .agg #[.int .i64 t.kind, .int .i64 t.num, .string t.text, .slice a l c]] w fun e w' => e = .returned (.agg #[.int .i64 t.kind, .int .i64 t.num, .string t.text, .slice a l c, .int .u64 z]) ∧ Below w.heap.size w w' := by
  have HD0 : Hid (DeskM (deskW w f0 f1 t (.slice a l c)) w.heap.size f0 f1 t (.slice a l c)) := deskM_start w f0 f1 t _
  have HB : Hid (Below w.heap.size w (deskW w f0 f1 t (.slice a l c))) := ((((Grew.refl w).alloc _).alloc _).alloc _).drew.below
  have hne1 : ¬ (w.heap.size + 1 + 1 = w.heap.size) := by omega
  have hne2 : ¬ (w.heap.size = w.heap.size + 1 + 1) := by omega
  go_enter Tryz.func25, Tryz.ntmps25
  go_wp2_with fail
  go_region_held3 (fun w' => w'.cell? ⟨w.heap.size, 0, none⟩ = some (fv f0) ∧ w'.cell? ⟨w.heap.size + 1, 0, none⟩ = some (.int .i64 t.kind) ∧ w'.cell? ⟨w.heap.size + 1, 1, none⟩ = some (.int .i64 t.num) ∧ w'.cell? ⟨w.heap.size + 1, 2, none⟩ = some (.string t.text) ∧ w'.cell? ⟨w.heap.size + 1, 3, none⟩ = some (.slice a l c)) (go_keep)
    (first | (go_at_fn f0; refine (hf.out _ HB.out).mono ?_; rintro e w1 ⟨rfl, hb1⟩; have HD1 : Hid (DeskM w1 w.heap.size f0 f1 t (.slice a l c)) := HD0.out.keeps hb1; have hbw1 : Below w.heap.size w w1 := HB.out.trans (hb1.mono (by simp; omega)); clear hb1 HD0 HB; obtain ⟨g0, g1, ⟨x0, x1, x2, x3⟩, hres⟩ := HD1.out; obtain ⟨v0, s0⟩ := Option.isSome_iff_exists.1 (hres.there 0 (by omega)); have z0 := hres.soft 0 (by omega); obtain ⟨v1, s1⟩ := Option.isSome_iff_exists.1 (hres.there 1 (by omega)); have z1 := hres.soft 1 (by omega); obtain ⟨v2, s2⟩ := Option.isSome_iff_exists.1 (hres.there 2 (by omega)); have z2 := hres.soft 2 (by omega); obtain ⟨v3, s3⟩ := Option.isSome_iff_exists.1 (hres.there 3 (by omega)); have z3 := hres.soft 3 (by omega); obtain ⟨v4, s4⟩ := Option.isSome_iff_exists.1 (hres.there 4 (by omega)); have z4 := hres.soft 4 (by omega); have Hres : Hid (Five w1 (w.heap.size + 2)) := hres; clear hres))
  have Hin : Hid _ := Hres.out.put ⟨t, .slice a l c, z⟩
  have Hbf : Hid _ := below_putM hbw1 (show w.heap.size ≤ w.heap.size + 2 by omega) 0 ⟨t, .slice a l c, z⟩
  clear Hres HD1
  go_wp2_with fail
  refine bodyPost_ret (v := .agg #[.int .i64 t.kind, .int .i64 t.num, .string t.text, .slice a l c, .int .u64 z]) ?_ rfl ⟨rfl, Hbf.out⟩
  have q0 := Hin.out 0 (by simp [encM])
  have q1 := Hin.out 1 (by simp [encM])
  have q2 := Hin.out 2 (by simp [encM])
  have q3 := Hin.out 3 (by simp [encM])
  have q4 := Hin.out 4 (by simp [encM])
  simp only [encM, World.setCells, Nat.zero_add, Nat.reduceAdd, List.getElem_cons_zero, List.getElem_cons_succ] at q0 q1 q2 q3 q4
  simp [results, Tryz.results25, go_sem, q0, q1, q2, q3, q4]

/-- A right value with its measure by row q. -/
theorem measured_any (q : Nat) (hq : q < 6) (t : VT) (u : Value) (w : World) (hu : Lies 16 w t.items u) (hr : rightV 16 t = true) :
    Calls Tryz.prog 25 #[.agg #[fv (mF q), fv (cF q)], .agg #[.int .i64 t.kind, .int .i64 t.num, .string t.text, u]] w fun e w' => e = .returned (.agg #[.int .i64 t.kind, .int .i64 t.num, .string t.text, u, .int .u64 (msr q t)]) ∧ Below w.heap.size w w' := by
  obtain ⟨a, c, rfl, _⟩ := Lies.slice hu
  exact measured_core _ _ (mF_enters q hq) _ t a _ c w (fun W hW => meas_any q hq t _ W (Lies.keeps hW _ _ _ hu) hr)

end Go.Proofs.YtlmnkjnplaebgaaGreat
