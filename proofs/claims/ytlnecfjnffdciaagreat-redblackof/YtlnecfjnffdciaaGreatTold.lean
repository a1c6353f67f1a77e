import Derived.Test.YtlnecfjnffdciaaGreatMade
import Derived.Test.YtlnecfjnffdciaaGreatEq
import Derived.Test.YtlnecfjnffdciaaGreatSameEq
import Derived.Test.YtlnecfjnffdciaaGreatLevel
import Derived.Test.YtlnecfjnffdciaaGreatLiesX
import Derived.Test.YtlnecfjnffdciaaGreatRotate
import Derived.Deep.RegionHeld3
namespace Go.Proofs.YtlnecfjnffdciaaGreat
open Go.RowKit

def zeroAgg : Value := .agg #[.int .i64 0, .int .i64 0, .string ⟨#[]⟩, .slice none 0 0]

theorem right_txt : ∀ (d : Nat) (t : VT), rpV d t = true → Txt (fun s => s.size ≤ 281474976710656) d t := by
 intro d
 induction d with
 | zero => intro t h; have := (right_text (d := 0) h).1; exact Nat.le_trans this (by omega)
 | succ d ih =>
  intro t h
  simp only [rpV, Bool.and_eq_true, List.all_eq_true] at h
  exact ⟨Nat.le_trans (right_text h.2).1 (by omega), fun x hx => ih x (h.1 x hx)⟩

theorem right_rp {d : Nat} {t : VT} (h : rightV d t = true) : rpV d t = true := by
 simp only [rightV, Bool.and_eq_true] at h
 exact h.2

theorem madeLies {d : Nat} {t : VT} {w : World} {e : Ending} {w' : World} (h : MadePost d t w e w') :
 Below w.heap.size w w' ∧ (((fw d t 16 1024).1 = false ∧ e = .returned (.tuple #[zeroAgg, .int .i64 2])) ∨ ((fw d t 16 1024).1 = true ∧ ∃ v, e = .returned (.tuple #[.agg #[.int .i64 t.kind, .int .i64 0, .string ⟨#[]⟩, v], .int .i64 0]) ∧ LiesB w.heap.size d w' t.items v)) := by
 unfold MadePost at h
 by_cases hf : (fw d t 16 1024).1 = true
 ·rw [if_pos hf] at h
  obtain ⟨v, he, hl, hb⟩ := h
  exact ⟨hb, .inr ⟨hf, v, he, hl⟩⟩
 ·rw [if_neg hf] at h
  exact ⟨h.2, .inl ⟨by simpa using hf, h.1⟩⟩

end Go.Proofs.YtlnecfjnffdciaaGreat

namespace Go.Proofs.YtlnecfjnffdciaaGreat
open Go.RowKit

def ToldPost (X : Nat → Prop) (d : Nat) (t : VT) (w : World) (e : Ending) (w' : World) : Prop :=
 Below w.heap.size w w' ∧ ((rightV d t = false ∧ e = .returned (.tuple #[zeroAgg, .int .i64 2])) ∨ (rightV d t = true ∧ ∃ v, e = .returned (.tuple #[.agg #[.int .i64 t.kind, .int .i64 t.num, .string t.text, v], .int .i64 0]) ∧ LiesX X d w' t.items v))

set_option maxHeartbeats 2000000 in
theorem rtold_any (X : Nat → Prop) (d : Nat) (t : VT) (u : Value) (w : World) (hX : ∀ b, X b → b < w.heap.size) (hu : LiesX X d w t.items u) : Calls Tryz.prog 154 #[.agg #[.int .i64 t.kind, .int .i64 t.num, .string t.text, u]] w (ToldPost X d t w) := by
 obtain ⟨a, c, rfl, _⟩ := LiesX.slice hu
 have HLX : Hid (LiesX X d w t.items (.slice a t.items.length c)) := hu
 have HL : Hid (Lies d w t.items (.slice a t.items.length c)) := hu.lies
 have HXX : Hid (∀ b, X b → b < w.heap.size) := hX
 clear hu hX
 have hb2 : Below w.heap.size w ((w.alloc (.cells #[.int .i64 t.kind, .int .i64 t.num, .string t.text, .slice a t.items.length c] 34)).alloc (.cells #[.int .i64 0, .int .i64 0, .string ⟨#[]⟩, .slice none 0 0] 34)) := (Grew.two _ _ _).below
 have HR : Hid (Bx ((w.alloc (.cells #[.int .i64 t.kind, .int .i64 t.num, .string t.text, .slice a t.items.length c] 34)).alloc (.cells #[.int .i64 0, .int .i64 0, .string ⟨#[]⟩, .slice none 0 0] 34)) (w.heap.size + 1) zeroT (.slice none 0 0)) := by
  have := bx_alloc (w.alloc (.cells #[.int .i64 t.kind, .int .i64 t.num, .string t.text, .slice a t.items.length c] 34)) zeroT (.slice none 0 0)
  rwa [World.size_alloc] at this
 have HX : Hid (Bx ((w.alloc (.cells #[.int .i64 t.kind, .int .i64 t.num, .string t.text, .slice a t.items.length c] 34)).alloc (.cells #[.int .i64 0, .int .i64 0, .string ⟨#[]⟩, .slice none 0 0] 34)) w.heap.size t (.slice a t.items.length c)) := (bx_alloc w t _).keeps ((Grew.refl _).alloc _).below
 go_enter Tryz.func154, Tryz.ntmps154
 go_wp2_with fail
 refine (right_any d t _ _ (Lies.keeps hb2 _ _ _ HL.out)).mono ?_
 rintro e w2 ⟨rfl, hb⟩
 have hb3 : Below w.heap.size w w2 := hb2.trans (hb.mono hb2.size)
 have HR2 : Hid (Bx w2 (w.heap.size + 1) zeroT (.slice none 0 0)) := HR.out.keeps hb
 obtain ⟨x0, x1, x2, x3, _, _, _, _⟩ := HX.out.keeps hb
 clear hb hb2 HR HX
 cases hr : rightV d t
 ·have Hr : Hid (rightV d t = false) := hr
  clear hr
  obtain ⟨y0, y1, y2, y3, z0, z1, z2, z3⟩ := HR2.out
  have Hbx : Hid (Bx (w2.setCells (w.heap.size + 1) 0 (encP (zeroT, .slice none 0 0))) (w.heap.size + 1) (zeroT) (.slice none 0 0)) := HR2.out.put (zeroT, .slice none 0 0)
  have Hbl : Hid (Below w.heap.size w (w2.setCells (w.heap.size + 1) 0 (encP (zeroT, .slice none 0 0)))) := below_put hb3 (by omega) (zeroT, .slice none 0 0)
  go_wp2_with fail
  refine bodyPost_ret (v := .tuple #[.agg #[.int .i64 0, .int .i64 0, .string ⟨#[]⟩, .slice none 0 0], .int .i64 2]) ?_ rfl ⟨Hbl.out, .inl ⟨Hr.out, rfl⟩⟩
  obtain ⟨q0, q1, q2, q3, _, _, _, _⟩ := Hbx.out
  simp only [encP, World.setCells, Nat.zero_add, Nat.reduceAdd] at q0 q1 q2 q3
  simp [results, Tryz.results154, go_sem, q0, q1, q2, q3]
 ·have Hr : Hid (rightV d t = true) := hr
  clear hr
  obtain ⟨y0, y1, y2, y3, z0, z1, z2, z3⟩ := HR2.out
  have Hbx : Hid (Bx (w2.setCells (w.heap.size + 1) 0 (encP (t, .slice a t.items.length c))) (w.heap.size + 1) (t) (.slice a t.items.length c)) := HR2.out.put (t, .slice a t.items.length c)
  have Hbl : Hid (Below w.heap.size w (w2.setCells (w.heap.size + 1) 0 (encP (t, .slice a t.items.length c)))) := below_put hb3 (by omega) (t, .slice a t.items.length c)
  have Hfin : Hid (LiesX X d (w2.setCells (w.heap.size + 1) 0 (encP (t, .slice a t.items.length c))) t.items (.slice a t.items.length c)) := (HLX.out.keeps hb3).set (g := w.heap.size + 1) (fun h => by have := HXX.out _ h; omega)
  go_wp2_with fail
  refine bodyPost_ret (v := .tuple #[.agg #[.int .i64 t.kind, .int .i64 t.num, .string t.text, .slice a t.items.length c], .int .i64 0]) ?_ rfl ⟨Hbl.out, .inr ⟨Hr.out, _, rfl, Hfin.out⟩⟩
  obtain ⟨q0, q1, q2, q3, _, _, _, _⟩ := Hbx.out
  simp only [encP, World.setCells, Nat.zero_add, Nat.reduceAdd] at q0 q1 q2 q3
  simp [results, Tryz.results154, go_sem, q0, q1, q2, q3]

end Go.Proofs.YtlnecfjnffdciaaGreat

