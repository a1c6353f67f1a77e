/-
  What a step of PairingSteps leaves: queues while the two boxes of the step are written.
-/
import Derived.Test.YtgmmocbgeilpiaaGreatOfLaw19
import Derived.Test.YtgmmocbgeilpiaaGreatSortsLaw19
import Derived.BigRegion
namespace Go.Proofs.YtgmmocbgeilpiaaGreat
open Go.RowKit

/-- The document's queue, whose list lies in an older world. -/
structure RX (w00 w : World) (q : Nat) (L : List VT) (b : Nat) : Prop where
  below : Below w00.heap.size w00 w
  order : w.cell? ⟨b, 0, none⟩ = some (.int .i64 (q : Int))
  ex : ∃ v, w.cell? ⟨b, 1, none⟩ = some v ∧ SlI All w00 L v
  lt : q < 6
  le : L.length ≤ 65536
  up : srtV q L = L

theorem RX.rq {w00 w : World} {q b : Nat} {L : List VT} (h : RX w00 w q L b) : RQ w q L b := by
  obtain ⟨v, h1, h2⟩ := h.ex
  exact ⟨h.order, ⟨v, h1, h2.keeps h.below⟩, h.lt, h.le, h.up⟩

theorem RQ.rx {w : World} {q b : Nat} {L : List VT} (h : RQ w q L b) : RX w w q L b := ⟨Below.refl _ _, h.order, h.ex, h.lt, h.le, h.up⟩

theorem RX.keeps {w00 w w' : World} (hb : Below w.heap.size w w') {q b : Nat} {L : List VT} (h : RX w00 w q L b) : RX w00 w' q L b := by
  obtain ⟨v, h1, h2⟩ := h.ex
  exact ⟨h.below.trans (hb.mono h.below.size), cell_keeps hb h.order, ⟨v, cell_keeps hb h1, h2⟩, h.lt, h.le, h.up⟩

/-- The first item of such a queue. -/
theorem RX.first {w00 w : World} {q b : Nat} {x : VT} {m : List VT} (h : RX w00 w q (x :: m) b) : ∃ b1 o1 c u, w.cell? ⟨b, 1, none⟩ = some (.slice (some ⟨b1, o1, none⟩) (m.length + 1) c) ∧ m.length + 1 ≤ c ∧ w00.cell? ⟨b1, o1, none⟩ = some (.int .i64 x.kind) ∧ w00.cell? ⟨b1, o1 + 1, none⟩ = some (.int .i64 x.num) ∧ w00.cell? ⟨b1, o1 + 2, none⟩ = some (.string x.text) ∧ w00.cell? ⟨b1, o1 + 3, none⟩ = some u ∧ ItM All w00 x u ∧ SlI All w00 m (.slice (some ⟨b1, o1 + 4, none⟩) m.length (c - 1)) := by
  obtain ⟨v, c1, ps, hpl, hsp, hit⟩ := h.ex
  cases ps with
  | nil => cases hpl
  | cons p ps =>
    injection hpl with h1 h2
    have hln : ps.length = m.length := by rw [← h2, List.length_map]
    obtain ⟨b1, o1, c, rfl, hc, hrow, hs⟩ := hsp.some (by simp)
    obtain ⟨k0, k1, k2, k3⟩ := hrow 0 (by simp)
    have hd := hsp.dropped 1
    simp only [List.length_cons, List.drop_succ_cons, List.drop_zero, Nat.add_sub_cancel] at hd
    refine ⟨b1, o1, c, p.2, by rw [c1, List.length_cons, hln], by rw [List.length_cons, hln] at hc; exact hc, ?_, ?_, ?_, ?_, by rw [← h1]; exact hit p (by simp), ps, h2, by rw [← hln]; exact hd, fun p' hp' => hit p' (by simp [hp'])⟩
    · rw [← h1]; simpa using k0
    · rw [← h1]; simpa using k1
    · rw [← h1]; simpa using k2
    · simpa using k3

/-- What the document's Pop tells. -/
def RPopPost (w00 : World) (q : Nat) (L : List VT) (w : World) (e : Ending) (w' : World) : Prop :=
  Below w.heap.size w w' ∧ ((L = [] ∧ e = .returned (.tuple #[.pointer none, .agg #[.int .i64 0, .int .i64 0, .string ⟨#[]⟩, .slice none 0 0], .int .i64 6])) ∨
    ∃ x m u b, L = x :: m ∧ e = .returned (.tuple #[.pointer (some ⟨b, 0, none⟩), .agg #[.int .i64 x.kind, .int .i64 x.num, .string x.text, u], .int .i64 0]) ∧ RX w00 w' q m b ∧ w.heap.size < b ∧ ItM All w00 x u)

set_option maxRecDepth 100000 in
set_option maxHeartbeats 4000000 in
theorem rpop19_bare {q b : Nat} {w00 w : World} (h : RX w00 w q [] b) : Calls Tryz.prog 13 #[.pointer (some ⟨b, 0, none⟩)] w (RPopPost w00 q [] w) := by
  obtain ⟨a, c, c1⟩ := h.rq.bare
  have hbz : Below w.heap.size w (w.alloc (.cells #[.int .i64 0, .int .i64 0, .string ⟨#[]⟩, .slice none 0 0] 37)) := ((Grew.refl w).alloc _).below
  obtain ⟨w0, hw0⟩ : ∃ w0, w0 = w.alloc (.cells #[.int .i64 0, .int .i64 0, .string ⟨#[]⟩, .slice none 0 0] 37) := ⟨_, rfl⟩
  have HK : Hid (Blank w0 w.heap.size) := by rw [hw0]; exact blank_alloc w
  rw [← hw0] at hbz
  have c1 := cell_keeps hbz c1
  obtain ⟨y0, y1, y2, y3, z0, z1, z2, z3⟩ := HK.out
  have Hbx : Hid _ := HK.out.put (⟨0, 0, ⟨#[]⟩, []⟩, .slice none 0 0)
  have Hbl : Hid _ := below_put hbz (Nat.le_refl _) (⟨0, 0, ⟨#[]⟩, []⟩, .slice none 0 0)
  have Hw0 : Hid (w0 = _) := hw0
  clear h hw0 hbz
  go_enter Tryz.func13, Tryz.ntmps13
  go_upto_region 1 with fail
  rw [← Hw0.out]
  clear Hw0
  go_wp2_with fail
  refine bodyPost_ret (v := .tuple #[.pointer none, .agg #[.int .i64 0, .int .i64 0, .string ⟨#[]⟩, .slice none 0 0], .int .i64 6]) ?_ rfl ⟨Hbl.out, .inl ⟨rfl, rfl⟩⟩
  obtain ⟨q0, q1, q2, q3⟩ := Hbx.out
  simp only [encP, World.setCells, Nat.zero_add, Nat.reduceAdd] at q0 q1 q2 q3
  simp [results, Tryz.results13, go_sem, q0, q1, q2, q3]

theorem rpop_fin {q T : Nat} {x : VT} {m : List VT} {u v : Value} {w00 w w0 : World} (h00 : Below w00.heap.size w00 w) (hB : Below w.heap.size w w0) (hK : Blank w0 w.heap.size) (hq : q < 6) (hle : (x :: m).length ≤ 65536) (hup : srtV q (x :: m) = x :: m) (hgd : ∀ y ∈ x :: m, Good 16 y) (hs : SlI All w00 m v) (hit : ItM All w00 x u) (hR : w.heap.size < w0.heap.size) :
    RPopPost w00 q (x :: m) w (.returned (.tuple #[.pointer (some ⟨w0.heap.size, 0, none⟩), .agg #[.int .i64 x.kind, .int .i64 x.num, .string x.text, u], .int .i64 0])) ((w0.setCells w.heap.size 0 (encP (x, u))).alloc (.cells #[.int .i64 (q : Int), v] T)).drew ∧
    Boxed ((w0.setCells w.heap.size 0 (encP (x, u))).alloc (.cells #[.int .i64 (q : Int), v] T)).drew w.heap.size x.kind x.num x.text u := by
  obtain ⟨V, hV⟩ : ∃ V, V = w0.setCells w.heap.size 0 (encP (x, u)) := ⟨_, rfl⟩
  have hz : V.heap.size = w0.heap.size := by rw [hV]; exact size_setCells _ _ _ _
  have hbV : Below w.heap.size w V := by rw [hV]; exact below_put hB (Nat.le_refl _) (x, u)
  have hBx : Boxed V w.heap.size x.kind x.num x.text u := by rw [hV]; exact hK.put (x, u)
  rw [← hV, ← hz]
  have hbA : Below V.heap.size V (V.alloc (.cells #[.int .i64 (q : Int), v] T)).drew := ((Grew.refl V).alloc _).drew.below
  have hF : Below w.heap.size w (V.alloc (.cells #[.int .i64 (q : Int), v] T)).drew := hbV.trans (hbA.mono hbV.size)
  have hup' : srtV q m = m := by
    have h1 := srt_drop19 q (x :: m) hgd 1
    rw [hup] at h1
    exact h1
  have d0 : (V.alloc (.cells #[.int .i64 (q : Int), v] T)).cell? ⟨V.heap.size, 0, none⟩ = some (.int .i64 (q : Int)) := by simp
  have d1 : (V.alloc (.cells #[.int .i64 (q : Int), v] T)).cell? ⟨V.heap.size, 1, none⟩ = some v := by simp
  exact ⟨⟨hF, .inr ⟨x, m, u, _, rfl, rfl, ⟨h00.trans (hF.mono h00.size), d0, ⟨v, d1, hs⟩, hq, by simp at hle; omega, hup'⟩, by rw [hz]; exact hR, hit⟩⟩, hBx.keeps hbA⟩

set_option maxRecDepth 100000 in
set_option maxHeartbeats 8000000 in
theorem rpop19_some {q b : Nat} {x : VT} {m : List VT} {w00 w : World} (h : RX w00 w q (x :: m) b) : Calls Tryz.prog 13 #[.pointer (some ⟨b, 0, none⟩)] w (RPopPost w00 q (x :: m) w) := by
  obtain ⟨b1, o1, c, u, c1, hc, p0, p1, p2, p3, hit, hs⟩ := h.first
  have h00 := h.below
  have p0 := cell_keeps h00 p0; have p1 := cell_keeps h00 p1; have p2 := cell_keeps h00 p2; have p3 := cell_keeps h00 p3
  have hgd : ∀ y ∈ x :: m, Good 16 y := by obtain ⟨v, _, hs⟩ := h.ex; exact hs.good
  obtain ⟨av, cv, rfl, _⟩ := LiesX.slice hit.lies
  have hbz : Below w.heap.size w (w.alloc (.cells #[.int .i64 0, .int .i64 0, .string ⟨#[]⟩, .slice none 0 0] 37)) := ((Grew.refl w).alloc _).below
  obtain ⟨w0, hw0⟩ : ∃ w0, w0 = w.alloc (.cells #[.int .i64 0, .int .i64 0, .string ⟨#[]⟩, .slice none 0 0] 37) := ⟨_, rfl⟩
  have HK : Hid (Blank w0 w.heap.size) := by rw [hw0]; exact blank_alloc w
  rw [← hw0] at hbz
  have c0 := h.order
  have hbl1 : b1 < w.heap.size := cell_lt p0
  have hbl : b < w.heap.size := cell_lt c0
  have c0 := cell_keeps hbz c0; have c1 := cell_keeps hbz c1; have p0 := cell_keeps hbz p0; have p1 := cell_keeps hbz p1; have p2 := cell_keeps hbz p2; have p3 := cell_keeps hbz p3
  obtain ⟨y0, y1, y2, y3, f0, f1, f2, f3⟩ := HK.out
  have hR : w.heap.size < w0.heap.size := cell_lt y0
  have zc0 : ∀ A, (w0.alloc A).cell? ⟨b, 0, none⟩ = some (.int .i64 (q : Int)) := fun A => cell_keeps ((Grew.refl w0).alloc A).below c0
  have zc1 : ∀ A, (w0.alloc A).cell? ⟨b, 1, none⟩ = some (.slice (some ⟨b1, o1, none⟩) (m.length + 1) c) := fun A => cell_keeps ((Grew.refl w0).alloc A).below c1
  have zp0 : ∀ A, (w0.alloc A).cell? ⟨b1, o1, none⟩ = some (.int .i64 x.kind) := fun A => cell_keeps ((Grew.refl w0).alloc A).below p0
  have zp1 : ∀ A, (w0.alloc A).cell? ⟨b1, o1 + 1, none⟩ = some (.int .i64 x.num) := fun A => cell_keeps ((Grew.refl w0).alloc A).below p1
  have zp2 : ∀ A, (w0.alloc A).cell? ⟨b1, o1 + 2, none⟩ = some (.string x.text) := fun A => cell_keeps ((Grew.refl w0).alloc A).below p2
  have zp3 : ∀ A, (w0.alloc A).cell? ⟨b1, o1 + 3, none⟩ = some (.slice av x.items.length cv) := fun A => cell_keeps ((Grew.refl w0).alloc A).below p3
  have zy0 : ∀ A, (w0.alloc A).cell? ⟨w.heap.size, 0, none⟩ = some (.int .i64 0) := fun A => cell_keeps ((Grew.refl w0).alloc A).below y0
  have zf0 : ∀ A, (w0.alloc A).frozen? ⟨w.heap.size, 0, none⟩ = false := fun A => (((Grew.refl w0).alloc A).below.frozen (p := ⟨w.heap.size, 0, none⟩) hR).trans f0
  have zy1 : ∀ A, (w0.alloc A).cell? ⟨w.heap.size, 1, none⟩ = some (.int .i64 0) := fun A => cell_keeps ((Grew.refl w0).alloc A).below y1
  have zf1 : ∀ A, (w0.alloc A).frozen? ⟨w.heap.size, 1, none⟩ = false := fun A => (((Grew.refl w0).alloc A).below.frozen (p := ⟨w.heap.size, 1, none⟩) hR).trans f1
  have zy2 : ∀ A, (w0.alloc A).cell? ⟨w.heap.size, 2, none⟩ = some (.string ⟨#[]⟩) := fun A => cell_keeps ((Grew.refl w0).alloc A).below y2
  have zf2 : ∀ A, (w0.alloc A).frozen? ⟨w.heap.size, 2, none⟩ = false := fun A => (((Grew.refl w0).alloc A).below.frozen (p := ⟨w.heap.size, 2, none⟩) hR).trans f2
  have zy3 : ∀ A, (w0.alloc A).cell? ⟨w.heap.size, 3, none⟩ = some (.slice none 0 0) := fun A => cell_keeps ((Grew.refl w0).alloc A).below y3
  have zf3 : ∀ A, (w0.alloc A).frozen? ⟨w.heap.size, 3, none⟩ = false := fun A => (((Grew.refl w0).alloc A).below.frozen (p := ⟨w.heap.size, 3, none⟩) hR).trans f3
  have n1 : ¬ b = w.heap.size := by omega
  have n2 : ¬ w.heap.size = b := by omega
  have n3 : ¬ b1 = w.heap.size := by omega
  have n4 : ¬ w.heap.size = b1 := by omega
  have n5 : ¬ w.heap.size = w0.heap.size := by omega
  have n6 : ¬ w0.heap.size = w.heap.size := by omega
  have hm0 : ¬ ((m.length : Int) + 1 = 0) := by omega
  have hm1 : (0 : Int) < (m.length : Int) + 1 := by omega
  have Hle : Hid ((x :: m).length ≤ 65536) := h.le
  have Hup : Hid (srtV q (x :: m) = x :: m) := h.up
  have Hgd : Hid (∀ y ∈ x :: m, Good 16 y) := hgd
  have HS : Hid (SlI All w00 m (.slice (some ⟨b1, o1 + 4, none⟩) m.length (c - 1))) := hs
  have HI : Hid (ItM All w00 x (.slice av x.items.length cv)) := hit
  have HB0 : Hid (Below w.heap.size w w0) := hbz
  have HQ : Hid (q < 6) := h.lt
  have Hw0 : Hid (w0 = _) := hw0
  have hcc : (1 : Int) ≤ (c : Int) := by omega
  have hcm : (m.length : Int) + 1 ≤ (c : Int) := by omega
  have hl1 : (1 : Int) ≤ (m.length : Int) + 1 := by omega
  have H00 : Hid (Below w00.heap.size w00 w) := h00
  have HRr : Hid (w.heap.size < w0.heap.size) := hR
  clear h hw0 hbz hs hit hgd hbl hbl1 h00
  by_cases hc1 : c = 1
  · have hm : m = [] := List.eq_nil_of_length_eq_zero (by omega)
    subst hm hc1
    have HS1 : Hid (SlI All w00 [] (.slice (some ⟨b1, o1, none⟩) 0 0)) := ⟨[], rfl, ⟨_, 0, rfl, by simp, by simp, fun h => absurd rfl h, fun p hp => by cases hp⟩, fun p hp => by cases hp⟩
    have Hfin : Hid _ := rpop_fin (T := 47) H00.out HB0.out HK.out HQ.out Hle.out Hup.out Hgd.out HS1.out HI.out HRr.out
    go_enter Tryz.func13, Tryz.ntmps13
    go_upto_region 1 with fail
    rw [← Hw0.out]
    clear Hw0
    go_wp2_with fail
    go_region
    all_goals go_wp2_with fail
    all_goals refine bodyPost_ret (v := .tuple #[.pointer (some ⟨w0.heap.size, 0, none⟩), .agg #[.int .i64 x.kind, .int .i64 x.num, .string x.text, .slice av x.items.length cv], .int .i64 0]) ?_ rfl Hfin.out.1
    all_goals obtain ⟨q0, q1, q2, q3⟩ := Hfin.out.2
    all_goals simp only [encP, World.setCells, Nat.zero_add, Nat.reduceAdd] at q0 q1 q2 q3
    all_goals simp [results, Tryz.results13, go_sem, q0, q1, q2, q3]
  · have hc1' : ¬ (c : Int) = 1 := by omega
    have Hfin : Hid _ := rpop_fin (T := 47) H00.out HB0.out HK.out HQ.out Hle.out Hup.out Hgd.out HS.out HI.out HRr.out
    go_enter Tryz.func13, Tryz.ntmps13
    go_upto_region 1 with fail
    rw [← Hw0.out]
    clear Hw0
    go_wp2_with fail
    go_region
    all_goals go_wp2_with fail
    all_goals refine bodyPost_ret (v := .tuple #[.pointer (some ⟨w0.heap.size, 0, none⟩), .agg #[.int .i64 x.kind, .int .i64 x.num, .string x.text, .slice av x.items.length cv], .int .i64 0]) ?_ rfl Hfin.out.1
    all_goals obtain ⟨q0, q1, q2, q3⟩ := Hfin.out.2
    all_goals simp only [encP, World.setCells, Nat.zero_add, Nat.reduceAdd] at q0 q1 q2 q3
    all_goals simp [results, Tryz.results13, go_sem, q0, q1, q2, q3]

theorem rpop19_any {q b : Nat} {L : List VT} {w00 w : World} (h : RX w00 w q L b) : Calls Tryz.prog 13 #[.pointer (some ⟨b, 0, none⟩)] w (RPopPost w00 q L w) := by
  cases L with
  | nil => exact rpop19_bare h
  | cons x m => exact rpop19_some h

end Go.Proofs.YtgmmocbgeilpiaaGreat

namespace Go.Proofs.YtgmmocbgeilpiaaGreat
open Go.RowKit Go.Shelf

theorem HpO.both {X : Nat → Prop} {w : World} {h : Option HP} {p : Option Addr} (hm : HpO X w h p) : HpO (fun b => X b ∧ b < w.heap.size) w h p := by
  cases h with
  | none => exact hm
  | some h =>
    obtain ⟨c, pb, u, hp, hc, hi, hr⟩ := hm
    exact ⟨c, pb, u, hp, hc, ⟨hi.1.both, hi.2⟩, hr.both⟩

theorem QC.both {X : Nat → Prop} {w : World} {q : Nat} {I : List VT} {b : Nat} (h : QC X w q I b) : QC (fun b => X b ∧ b < w.heap.size) w q I b := by
  obtain ⟨t, tp, h1, h2, h3, h4⟩ := h.ex
  exact ⟨⟨t, tp, h1, h2.both, h3, h4⟩, h.order, h.size, h.lt, h.le⟩

theorem QC.mono {X Y : Nat → Prop} (hY : ∀ b, X b → Y b) {w : World} {q : Nat} {I : List VT} {b : Nat} (h : QC X w q I b) : QC Y w q I b := by
  obtain ⟨t, tp, h1, h2, h3, h4⟩ := h.ex
  exact ⟨⟨t, tp, h1, HpO.stays hY ⟨fun _ _ _ h => h, fun _ _ _ _ _ h => h, fun _ _ _ h => h⟩ h2, h3, h4⟩, h.order, h.size, h.lt, h.le⟩

/-- A box written that is none of the lists': the queue stays. -/
theorem QC.put {X : Nat → Prop} {W : World} {n : Nat} (hn : ¬ X n) (hK : Blank W n) (h4 : W.cell? ⟨n, 4, none⟩ = none) (p : VT × Value) {q : Nat} {I : List VT} {b : Nat} (h : QC X W q I b) : QC X (W.setCells n 0 (encP p)) q I b := by
  obtain ⟨t, tp, h1, h2, h3, h5⟩ := h.ex
  have hk := keepsH_put hn hK h4 p
  have hne : b ≠ n := fun e => by
    rw [e, hK.c2] at h1
    cases h1
  have ho : ∀ k u, W.cell? ⟨b, k, none⟩ = some u → (W.setCells n 0 (encP p)).cell? ⟨b, k, none⟩ = some u := fun k u hu => by
    rw [World.cell?_setCells_out n _ 0 W ⟨b, k, none⟩ (fun e _ => absurd e hne)]; exact hu
  exact ⟨⟨t, tp, ho _ _ h1, HpO.stays (fun _ h => h) hk h2, h3, h5⟩, ho _ _ h.order, ho _ _ h.size, h.lt, h.le⟩

end Go.Proofs.YtgmmocbgeilpiaaGreat

