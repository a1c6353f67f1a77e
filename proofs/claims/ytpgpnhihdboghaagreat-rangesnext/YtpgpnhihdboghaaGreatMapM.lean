/-
  Sorted maps in memory: own, Len, Height, Order, kept.
-/
import Derived.Test.YtpgpnhihdboghaaGreatAppQ
import Derived.Test.YtpgpnhihdboghaaGreatFindM
namespace Go.Proofs.YtpgpnhihdboghaaGreat
open Go.RowKit Go.Shelf

/-- Whatever block. -/
abbrev TT : Nat → Prop := fun _ => True

/-- A sorted map in memory: its order, its tree. -/
structure MC (w : World) (q : Nat) (t : RT PT) (b : Nat) : Prop where
  ord : w.cell? ⟨b, 0, none⟩ = some (.int .i64 (q : Int))
  top : ∃ p, w.cell? ⟨b, 1, none⟩ = some (.pointer p) ∧ NM TT 16 w t p
  well : RT.Well t
  black : t.isRed = false
  q6 : q < 6
  right : ∀ x ∈ t.items, Good 16 x.1 ∧ Good 16 x.2
  rises : RT.Rises (byK q) t.items
  size : t.size ≤ 65536

theorem MC.keeps {w w' : World} {q : Nat} {t : RT PT} {b : Nat} (h : MC w q t b) (hb : Below w.heap.size w w') : MC w' q t b := by
  obtain ⟨p, hp, hn⟩ := h.top
  exact ⟨cell_keeps hb h.ord, ⟨p, cell_keeps hb hp, hn.keeps hb⟩, h.well, h.black, h.q6, h.right, h.rises, h.size⟩

set_option maxRecDepth 100000 in
theorem own_14 (b : Addr) (w : World) : Calls Tryz.prog 45 #[.pointer (some b)] w fun e w' => e = .returned (.pointer (some b)) ∧ w' = w := by
  go_enter Tryz.func45, Tryz.ntmps45
  go_wp2_with fail
  go_ret
  exact ⟨rfl, rfl⟩

theorem field_size14 (s h k : Int) (W : World) : (Instr.field 84 (.agg #[.int .i64 s, .int .i64 h, .int .i64 k]) 0).run Tryz.prog W = .ok (.int .i64 s) W := by
  kernel_rfl

end Go.Proofs.YtpgpnhihdboghaaGreat

