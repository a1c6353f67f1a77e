/-
  The document's Min, Meld.
-/
import Derived.Test.YtffjdpbobkdmfaaGreatRefQ
import Derived.Test.YtffjdpbobkdmfaaGreatUniq
namespace Go.Proofs.YtffjdpbobkdmfaaGreat
open Go.RowKit

/-- What the document's Min tells. -/
def RMinPost (L : List VT) (w : World) (e : Ending) (w' : World) : Prop :=
  Below w.heap.size w w' ∧ ((L = [] ∧ e = .returned (.tuple #[.agg #[.int .i64 0, .int .i64 0, .string ⟨#[]⟩, .slice none 0 0], .int .i64 6])) ∨
    ∃ x m u, L = x :: m ∧ e = .returned (.tuple #[.agg #[.int .i64 x.kind, .int .i64 x.num, .string x.text, u], .int .i64 0]) ∧ Lies 16 w' x.items u)

/-- The first item of a queue that has one. -/
theorem RQ.first {w : World} {q b : Nat} {x : VT} {m : List VT} (h : RQ w q (x :: m) b) : ∃ b1 o1 c u, w.cell? ⟨b, 1, none⟩ = some (.slice (some ⟨b1, o1, none⟩) (m.length + 1) c) ∧ m.length + 1 ≤ c ∧ w.cell? ⟨b1, o1, none⟩ = some (.int .i64 x.kind) ∧ w.cell? ⟨b1, o1 + 1, none⟩ = some (.int .i64 x.num) ∧ w.cell? ⟨b1, o1 + 2, none⟩ = some (.string x.text) ∧ w.cell? ⟨b1, o1 + 3, none⟩ = some u ∧ ItM All w x u ∧ SlI All w m (.slice (some ⟨b1, o1 + 4, none⟩) m.length (c - 1)) := by
  obtain ⟨v, c1, ps, hpl, hsp, hit⟩ := h.ex
  cases ps with
  | nil => cases hpl
  | cons p ps =>
    injection hpl with h1 h2
    have hln : ps.length = m.length := by rw [← h2, List.length_map]
    obtain ⟨b1, o1, c, rfl, hc, hrow, hs⟩ := hsp.some (by simp)
    obtain ⟨k0, k1, k2, k3⟩ := hrow 0 (by simp)
    have hd := hsp.dropped 1
    simp only [List.length_cons, List.drop_succ_cons, List.drop_zero, Nat.add_sub_cancel] at hd
    refine ⟨b1, o1, c, p.2, by rw [c1, List.length_cons, hln], by rw [List.length_cons, hln] at hc; exact hc, ?_, ?_, ?_, ?_, by rw [← h1]; exact hit p (by simp), ps, h2, by rw [← hln]; exact hd, fun p' hp' => hit p' (by simp [hp'])⟩
    · rw [← h1]; simpa using k0
    · rw [← h1]; simpa using k1
    · rw [← h1]; simpa using k2
    · simpa using k3

theorem RQ.bare {w : World} {q b : Nat} (h : RQ w q [] b) : ∃ a c, w.cell? ⟨b, 1, none⟩ = some (.slice a 0 c) := by
  obtain ⟨v, c1, hs⟩ := h.ex
  obtain ⟨a, c, rfl, _⟩ := Lies.slice hs.lies
  exact ⟨a, c, c1⟩

set_option maxRecDepth 100000 in
set_option maxHeartbeats 4000000 in
theorem rmin_bare {q b : Nat} {w : World} (h : RQ w q [] b) : Calls Tryz.prog 33 #[.pointer (some ⟨b, 0, none⟩)] w (RMinPost [] w) := by
  obtain ⟨a, c, c1⟩ := h.bare
  have hbz : Below w.heap.size w (w.alloc (.cells #[.int .i64 0, .int .i64 0, .string ⟨#[]⟩, .slice none 0 0] 37)) := ((Grew.refl w).alloc _).below
  obtain ⟨w0, hw0⟩ : ∃ w0, w0 = w.alloc (.cells #[.int .i64 0, .int .i64 0, .string ⟨#[]⟩, .slice none 0 0] 37) := ⟨_, rfl⟩
  have HK : Hid (Blank w0 w.heap.size) := by rw [hw0]; exact blank_alloc w
  rw [← hw0] at hbz
  have c1 := cell_keeps hbz c1
  obtain ⟨y0, y1, y2, y3, z0, z1, z2, z3⟩ := HK.out
  have Hbx : Hid _ := HK.out.put (⟨0, 0, ⟨#[]⟩, []⟩, .slice none 0 0)
  have Hbl : Hid _ := below_put hbz (Nat.le_refl _) (⟨0, 0, ⟨#[]⟩, []⟩, .slice none 0 0)
  have Hw0 : Hid (w0 = _) := hw0
  clear h hw0 hbz
  go_enter Tryz.func33, Tryz.ntmps33
  go_upto_region 1 with fail
  rw [← Hw0.out]
  clear Hw0
  go_wp2_with fail
  refine bodyPost_ret (v := .tuple #[.agg #[.int .i64 0, .int .i64 0, .string ⟨#[]⟩, .slice none 0 0], .int .i64 6]) ?_ rfl ⟨Hbl.out, .inl ⟨rfl, rfl⟩⟩
  obtain ⟨q0, q1, q2, q3⟩ := Hbx.out
  simp only [encP, World.setCells, Nat.zero_add, Nat.reduceAdd] at q0 q1 q2 q3
  simp [results, Tryz.results33, go_sem, q0, q1, q2, q3]

set_option maxRecDepth 100000 in
set_option maxHeartbeats 4000000 in
theorem rmin_some {q b : Nat} {x : VT} {m : List VT} {w : World} (h : RQ w q (x :: m) b) : Calls Tryz.prog 33 #[.pointer (some ⟨b, 0, none⟩)] w (RMinPost (x :: m) w) := by
  obtain ⟨b1, o1, c, u, c1, hc, p0, p1, p2, p3, hit, _⟩ := h.first
  obtain ⟨av, cv, rfl, _⟩ := LiesX.slice hit.lies
  have hbz : Below w.heap.size w (w.alloc (.cells #[.int .i64 0, .int .i64 0, .string ⟨#[]⟩, .slice none 0 0] 37)) := ((Grew.refl w).alloc _).below
  obtain ⟨w0, hw0⟩ : ∃ w0, w0 = w.alloc (.cells #[.int .i64 0, .int .i64 0, .string ⟨#[]⟩, .slice none 0 0] 37) := ⟨_, rfl⟩
  have HK : Hid (Blank w0 w.heap.size) := by rw [hw0]; exact blank_alloc w
  rw [← hw0] at hbz
  have hbl1 : b1 < w.heap.size := cell_lt p0
  have c1 := cell_keeps hbz c1; have p0 := cell_keeps hbz p0; have p1 := cell_keeps hbz p1; have p2 := cell_keeps hbz p2; have p3 := cell_keeps hbz p3
  obtain ⟨y0, y1, y2, y3, z0, z1, z2, z3⟩ := HK.out
  have Hbx : Hid _ := HK.out.put (x, .slice av x.items.length cv)
  have Hbl : Hid _ := below_put hbz (Nat.le_refl _) (x, .slice av x.items.length cv)
  have Hfin : Hid (Lies 16 (w0.setCells w.heap.size 0 (encP (x, .slice av x.items.length cv))) x.items (.slice av x.items.length cv)) :=
    (LiesX.set (g := w.heap.size) (fun h => Nat.lt_irrefl _ h.2) (LiesX.keeps hbz hit.lies.both)).lies
  have Hw0 : Hid (w0 = _) := hw0
  have hm0 : ¬ ((m.length : Int) + 1 = 0) := by omega
  have hm1 : (0 : Int) < (m.length : Int) + 1 := by omega
  clear h hw0 hbz hit
  go_enter Tryz.func33, Tryz.ntmps33
  go_upto_region 1 with fail
  rw [← Hw0.out]
  clear Hw0
  go_wp2_with fail
  refine bodyPost_ret (v := .tuple #[.agg #[.int .i64 x.kind, .int .i64 x.num, .string x.text, .slice av x.items.length cv], .int .i64 0]) ?_ rfl ⟨Hbl.out, .inr ⟨x, m, _, rfl, rfl, Hfin.out⟩⟩
  obtain ⟨q0, q1, q2, q3⟩ := Hbx.out
  simp only [encP, World.setCells, Nat.zero_add, Nat.reduceAdd] at q0 q1 q2 q3
  simp [results, Tryz.results33, go_sem, q0, q1, q2, q3]

theorem rmin_any {q b : Nat} {L : List VT} {w : World} (h : RQ w q L b) : Calls Tryz.prog 33 #[.pointer (some ⟨b, 0, none⟩)] w (RMinPost L w) := by
  cases L with
  | nil => exact rmin_bare h
  | cons x m => exact rmin_some h

end Go.Proofs.YtffjdpbobkdmfaaGreat

