/-
  The document's List (as in chapter 1's texts, without sorting).
-/
import Derived.Test.YtpnfmcmhcjekfaaListed
import Derived.Test.YtpnfmcmhcjekfaaVList
import Derived.Test.YtpnfmcmhcjekfaaLiesX
import Derived.Test.YtpnfmcmhcjekfaaUniq
import Derived.Deep.RegionHeld3
namespace Go.Proofs.Ytpnfmcmhcjekfaa
open Go.RowKit

/-- What the document's told leaves: the value, or the zero value and ErrLong. -/
def ToldPost (X : Nat → Prop) (d : Nat) (t : VT) (w : World) (e : Ending) (w' : World) : Prop :=
  Below w.heap.size w w' ∧ ((rightV d t = false ∧ e = .returned (.tuple #[zeroAgg, .int .i64 2])) ∨ (rightV d t = true ∧ ∃ v, e = .returned (.tuple #[.agg #[.int .i64 t.kind, .int .i64 t.num, .string t.text, v], .int .i64 0]) ∧ LiesX X d w' t.items v))

set_option maxHeartbeats 2000000 in
theorem rtold_any (X : Nat → Prop) (d : Nat) (t : VT) (u : Value) (w : World) (hX : ∀ b, X b → b < w.heap.size) (hu : LiesX X d w t.items u) : Calls Try.prog 61 #[.agg #[.int .i64 t.kind, .int .i64 t.num, .string t.text, u]] w (ToldPost X d t w) := by
  obtain ⟨a, c, rfl, _⟩ := LiesX.slice hu
  have HLX : Hid (LiesX X d w t.items (.slice a t.items.length c)) := hu
  have HL : Hid (Lies d w t.items (.slice a t.items.length c)) := hu.lies
  have HXX : Hid (∀ b, X b → b < w.heap.size) := hX
  clear hu hX
  have hb2 : Below w.heap.size w ((w.alloc (.cells #[.int .i64 t.kind, .int .i64 t.num, .string t.text, .slice a t.items.length c] 31)).alloc (.cells #[.int .i64 0, .int .i64 0, .string ⟨#[]⟩, .slice none 0 0] 31)) := (Grew.two _ _ _).below
  have HR : Hid (Bx ((w.alloc (.cells #[.int .i64 t.kind, .int .i64 t.num, .string t.text, .slice a t.items.length c] 31)).alloc (.cells #[.int .i64 0, .int .i64 0, .string ⟨#[]⟩, .slice none 0 0] 31)) (w.heap.size + 1) zeroT (.slice none 0 0)) := by
    have := bx_alloc (w.alloc (.cells #[.int .i64 t.kind, .int .i64 t.num, .string t.text, .slice a t.items.length c] 31)) zeroT (.slice none 0 0)
    rwa [World.size_alloc] at this
  have HX : Hid (Bx ((w.alloc (.cells #[.int .i64 t.kind, .int .i64 t.num, .string t.text, .slice a t.items.length c] 31)).alloc (.cells #[.int .i64 0, .int .i64 0, .string ⟨#[]⟩, .slice none 0 0] 31)) w.heap.size t (.slice a t.items.length c)) := (bx_alloc w t _).keeps ((Grew.refl _).alloc _).below
  go_enter Try.func61, Try.ntmps61
  go_wp2_with fail
  refine (right_any d t _ _ (Lies.keeps hb2 _ _ _ HL.out)).mono ?_
  rintro e w2 ⟨rfl, hb⟩
  have hb3 : Below w.heap.size w w2 := hb2.trans (hb.mono hb2.size)
  have HR2 : Hid (Bx w2 (w.heap.size + 1) zeroT (.slice none 0 0)) := HR.out.keeps hb
  obtain ⟨x0, x1, x2, x3, _, _, _, _⟩ := HX.out.keeps hb
  clear hb hb2 HR HX
  cases hr : rightV d t
  · have Hr : Hid (rightV d t = false) := hr
    clear hr
    obtain ⟨y0, y1, y2, y3, z0, z1, z2, z3⟩ := HR2.out
    have Hbx : Hid (Bx (w2.setCells (w.heap.size + 1) 0 (encP (zeroT, .slice none 0 0))) (w.heap.size + 1) (zeroT) (.slice none 0 0)) := HR2.out.put (zeroT, .slice none 0 0)
    have Hbl : Hid (Below w.heap.size w (w2.setCells (w.heap.size + 1) 0 (encP (zeroT, .slice none 0 0)))) := below_put hb3 (by omega) (zeroT, .slice none 0 0)
    go_wp2_with fail
    refine bodyPost_ret (v := .tuple #[.agg #[.int .i64 0, .int .i64 0, .string ⟨#[]⟩, .slice none 0 0], .int .i64 2]) ?_ rfl ⟨Hbl.out, .inl ⟨Hr.out, rfl⟩⟩
    obtain ⟨q0, q1, q2, q3, _, _, _, _⟩ := Hbx.out
    simp only [encP, World.setCells, Nat.zero_add, Nat.reduceAdd] at q0 q1 q2 q3
    simp [results, Try.results61, go_sem, q0, q1, q2, q3]
  · have Hr : Hid (rightV d t = true) := hr
    clear hr
    obtain ⟨y0, y1, y2, y3, z0, z1, z2, z3⟩ := HR2.out
    have Hbx : Hid (Bx (w2.setCells (w.heap.size + 1) 0 (encP (t, .slice a t.items.length c))) (w.heap.size + 1) (t) (.slice a t.items.length c)) := HR2.out.put (t, .slice a t.items.length c)
    have Hbl : Hid (Below w.heap.size w (w2.setCells (w.heap.size + 1) 0 (encP (t, .slice a t.items.length c)))) := below_put hb3 (by omega) (t, .slice a t.items.length c)
    have Hfin : Hid (LiesX X d (w2.setCells (w.heap.size + 1) 0 (encP (t, .slice a t.items.length c))) t.items (.slice a t.items.length c)) := (HLX.out.keeps hb3).set (g := w.heap.size + 1) (fun h => by have := HXX.out _ h; omega)
    go_wp2_with fail
    refine bodyPost_ret (v := .tuple #[.agg #[.int .i64 t.kind, .int .i64 t.num, .string t.text, .slice a t.items.length c], .int .i64 0]) ?_ rfl ⟨Hbl.out, .inr ⟨Hr.out, _, rfl, Hfin.out⟩⟩
    obtain ⟨q0, q1, q2, q3, _, _, _, _⟩ := Hbx.out
    simp only [encP, World.setCells, Nat.zero_add, Nat.reduceAdd] at q0 q1 q2 q3
    simp [results, Try.results61, go_sem, q0, q1, q2, q3]

end Go.Proofs.Ytpnfmcmhcjekfaa

namespace Go.Proofs.Ytpnfmcmhcjekfaa
open Go.RowKit

theorem list_right (d : Nat) (l : List VT) (h : ∀ x ∈ l, rightV d x = true) : rightV (d + 1) (listT l) = (fw (d + 1) (listT l) 16 1024).1 := by
  have hall : (listT l).items.all (rpV d) = true := List.all_eq_true.2 fun x hx => right_rp (h x hx)
  have hown : ownV d (listT l) = true := by simp [ownV, okNum, okText, okItems, listT]
  have h1 : rpV (d + 1) (listT l) = true := by
    show ((listT l).items.all (rpV d) && ownV d (listT l)) = true
    rw [hall, hown]; rfl
  unfold rightV
  rw [h1, Bool.and_true]

def listA (d : Nat) (l : List VT) : VT × Int :=
  if listErr d l ≠ 0 then (zeroT, listErr d l) else if (fw (d + 1) (listT l) 16 1024).1 = true then (listT l, 0) else (zeroT, 2)

/-- A value and an error are told. -/
def Tells (d : Nat) (a : VT × Int) (w : World) (e : Ending) (w' : World) : Prop :=
  ∃ v, e = .returned (.tuple #[.agg #[.int .i64 a.1.kind, .int .i64 a.1.num, .string a.1.text, v], .int .i64 a.2]) ∧ Lies d w' a.1.items v ∧ Below w.heap.size w w'

theorem tells_zero (d : Nat) (n : Int) {w w' : World} (h : Below w.heap.size w w') : Tells d (zeroT, n) w (.returned (.tuple #[zeroAgg, .int .i64 n])) w' :=
  ⟨.slice none 0 0, rfl, Lies.atLeast (d := 0) ⟨rfl, none, 0, rfl⟩ d (Nat.zero_le _), h⟩

/-- A value and an error are told, and in which blocks. -/
def TellsX (X : Nat → Prop) (d : Nat) (a : VT × Int) (w : World) (e : Ending) (w' : World) : Prop :=
  ∃ v, e = .returned (.tuple #[.agg #[.int .i64 a.1.kind, .int .i64 a.1.num, .string a.1.text, v], .int .i64 a.2]) ∧ LiesX X d w' a.1.items v ∧ Below w.heap.size w w'

/-- The document's told, in one form. -/
theorem told_tells {X : Nat → Prop} {d : Nat} {t : VT} {w : World} {e : Ending} {w' : World} (h : ToldPost X d t w e w') : TellsX X d (if rightV d t = true then (t, 0) else (zeroT, 2)) w e w' := by
  obtain ⟨hb, ⟨hr, rfl⟩ | ⟨hr, v, rfl, hL⟩⟩ := h
  · rw [if_neg (by rw [hr]; simp)]
    exact ⟨.slice none 0 0, rfl, liesX_nil _ _ _ _ _, hb⟩
  · rw [if_pos hr]
    exact ⟨v, rfl, hL, hb⟩

set_option maxHeartbeats 4000000 in
theorem rlist_tells (d : Nat) (l : List VT) (u : Value) (w : World) (hu : Lies (d + 1) w l u) : Calls Try.prog 31 #[u] w (Tells (d + 1) (listA d l) w) := by
  obtain ⟨a, c, rfl, _⟩ := Lies.slice hu
  have HL : Hid (Lies (d + 1) w l (.slice a l.length c)) := hu
  have HLX : Hid (LiesX (fun b => b < w.heap.size) (d + 1) w l (.slice a l.length c)) := LiesX.of_lies hu
  have HK : Hid (Bx (w.alloc (.cells #[.int .i64 0, .int .i64 0, .string ⟨#[]⟩, .slice none 0 0] 31)) w.heap.size zeroT (.slice none 0 0)) := bx_alloc w zeroT _
  have hbz : Below w.heap.size w (w.alloc (.cells #[.int .i64 0, .int .i64 0, .string ⟨#[]⟩, .slice none 0 0] 31)) := ((Grew.refl w).alloc _).below
  clear hu
  by_cases herr : listErr d l = 0
  · have Herr : Hid (listErr d l = 0) := herr
    have Ha : Hid ((if rightV (d + 1) (listT l) = true then ((listT l, 0) : VT × Int) else (zeroT, 2)) = listA d l) := by
      show _ = _
      unfold listA
      rw [list_right d l (listErr_zero herr).2, if_neg (show ¬ (listErr d l ≠ 0) from fun h => h herr)]
    clear herr
    go_enter Try.func31, Try.ntmps31
    go_wp2_with fail
    refine (listed_any d l (.slice a l.length c) _ (Lies.keeps hbz _ _ _ HL.out)).mono ?_
    rintro e w1 ⟨rfl, hb⟩
    rw [Herr.out]
    have hb1 : Below w.heap.size w w1 := hbz.trans (hb.mono (by simp))
    have HK1 : Hid (Bx w1 w.heap.size zeroT (.slice none 0 0)) := HK.out.keeps hb
    clear hb HK hbz
    go_wp2_with fail
    refine (rtold_any (fun b => b ≠ w.heap.size ∧ b < w1.heap.size) (d + 1) (listT l) (.slice a l.length c) _ (fun b h => h.2) (HLX.out.keeps hb1 |>.mono (fun b (h : b < w.heap.size) => ⟨by omega, by have := hb1.size; omega⟩))).mono ?_
    intro e w2 ht
    have ht := told_tells ht
    rw [Ha.out] at ht
    obtain ⟨v, rfl, hL2, hb2⟩ := ht
    have hbw2 : Below w.heap.size w w2 := hb1.trans (hb2.mono hb1.size)
    have HK2 : Hid (Bx w2 w.heap.size zeroT (.slice none 0 0)) := HK1.out.keeps hb2
    clear hb2 HK1 Ha Herr
    generalize listA d l = A at *
    obtain ⟨t, n⟩ := A
    obtain ⟨av, cv, rfl, _⟩ := LiesX.slice hL2
    obtain ⟨y0, y1, y2, y3, z0, z1, z2, z3⟩ := HK2.out
    have Hbx : Hid (Bx (w2.setCells w.heap.size 0 (encP (t, .slice av t.items.length cv))) w.heap.size t (.slice av t.items.length cv)) := HK2.out.put (t, .slice av t.items.length cv)
    have Hbl : Hid (Below w.heap.size w (w2.setCells w.heap.size 0 (encP (t, .slice av t.items.length cv)))) := below_put hbw2 (Nat.le_refl _) (t, .slice av t.items.length cv)
    have HLx : Hid (LiesX (fun b => b ≠ w.heap.size) (d + 1) w2 t.items (.slice av t.items.length cv)) := hL2.mono (fun b h => h.1)
    have Hfin : Hid (Lies (d + 1) (w2.setCells w.heap.size 0 (encP (t, .slice av t.items.length cv))) t.items (.slice av t.items.length cv)) := (HLx.out.set (g := w.heap.size) (fun h => h rfl)).lies
    go_wp2_with fail
    refine bodyPost_ret (v := .tuple #[.agg #[.int .i64 t.kind, .int .i64 t.num, .string t.text, .slice av t.items.length cv], .int .i64 n]) ?_ rfl ⟨_, rfl, Hfin.out, Hbl.out⟩
    obtain ⟨q0, q1, q2, q3, _, _, _, _⟩ := Hbx.out
    simp only [encP, World.setCells, Nat.zero_add, Nat.reduceAdd] at q0 q1 q2 q3
    simp [results, Try.results31, go_sem, q0, q1, q2, q3]
  · have Ha : Hid (listA d l = (zeroT, listErr d l)) := by show _ = _; unfold listA; rw [if_pos herr]
    have hne : (listErr d l != 0) = true := by simpa using herr
    have HL0 := HL
    go_enter Try.func31, Try.ntmps31
    go_wp2_with fail
    refine (listed_any d l (.slice a l.length c) _ (Lies.keeps hbz _ _ _ HL.out)).mono ?_
    rintro e w1 ⟨rfl, hb⟩
    have hb1 : Below w.heap.size w w1 := hbz.trans (hb.mono (by simp))
    have HK1 : Hid (Bx w1 w.heap.size zeroT (.slice none 0 0)) := HK.out.keeps hb
    clear hb HK hbz
    obtain ⟨y0, y1, y2, y3, z0, z1, z2, z3⟩ := HK1.out
    have Hbx : Hid (Bx (w1.setCells w.heap.size 0 (encP (zeroT, .slice none 0 0))) w.heap.size zeroT (.slice none 0 0)) := HK1.out.put (zeroT, .slice none 0 0)
    have Hbl : Hid (Below w.heap.size w (w1.setCells w.heap.size 0 (encP (zeroT, .slice none 0 0)))) := below_put hb1 (Nat.le_refl _) (zeroT, .slice none 0 0)
    go_wp2_with fail
    refine bodyPost_ret (v := .tuple #[.agg #[.int .i64 0, .int .i64 0, .string ⟨#[]⟩, .slice none 0 0], .int .i64 (listErr d l)]) ?_ rfl (by rw [Ha.out]; exact tells_zero _ _ Hbl.out)
    obtain ⟨q0, q1, q2, q3, _, _, _, _⟩ := Hbx.out
    simp only [encP, World.setCells, Nat.zero_add, Nat.reduceAdd] at q0 q1 q2 q3
    simp [results, Try.results31, go_sem, q0, q1, q2, q3]
  
end Go.Proofs.Ytpnfmcmhcjekfaa

