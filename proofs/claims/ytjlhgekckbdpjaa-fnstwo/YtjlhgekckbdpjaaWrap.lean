/-
  The contract of wrap: a list of a value.
-/
import Derived.Test.YtjlhgekckbdpjaaSize
import Derived.Test.YtjlhgekckbdpjaaVList
namespace Go.Proofs.Ytjlhgekckbdpjaa
open Go.RowKit

/-- FnWrap. -/
def wrapT (t : VT) : VT := if (fw 17 (listT [t]) 16 1024).1 = true then listT [t] else nilT

theorem lies_one {d : Nat} {w : World} {t : VT} {u : Value} {b c : Nat} (hb : Boxed w b t.kind t.num t.text u) (hl : Lies d w t.items u) (hs : t.text.size ≤ 9223372036854775807) (hc : 1 ≤ c) : Lies (d + 1) w [t] (.slice (some ⟨b, 0, none⟩) 1 c) := by
  refine ⟨some ⟨b, 0, none⟩, c, rfl, ⟨hc, by simp⟩, fun _ => ⟨b, 0, rfl, fun i hi => ?_⟩⟩
  have : i = 0 := by simp at hi; omega
  subst this
  exact ⟨u, hb.c0, hb.c1, hb.c2, hb.c3, hl, hs⟩

theorem listErr_one {d : Nat} {t : VT} (h : rightV d t = true) : listErr d [t] = 0 := by
  simp [listErr, h]

theorem dp_list {l : List VT} (h : (fw 17 (listT l) 16 1024).1 = true) (hd : ∀ x ∈ l, Dp 16 x) : Dp 16 (listT l) := fw_deep 17 (listT l) 16 1024 (by omega) h hd

set_option maxHeartbeats 2000000 in
theorem wrap_any (X : Nat → Prop) (t : VT) (a : Option Addr) (l c : Nat) (w : World) (h : Lies 16 w t.items (.slice a l c)) (hr : rightV 16 t = true) (hs : t.text.size ≤ 9223372036854775807) :
    Calls Try.prog 44 #[.agg #[.int .i64 t.kind, .int .i64 t.num, .string t.text, .slice a l c]] w (FnPost X (wrapT t) w) := by
  have HD : Hid (Dp 16 t) := Dp.of_lies 16 w t _ h
  have HL : Hid (Lies 16 w t.items (.slice a l c)) := h
  have HR : Hid (listErr 16 [t] = 0) := listErr_one hr
  clear h hr
  have hbz : Below w.heap.size w (((w.alloc (.cells #[.int .i64 t.kind, .int .i64 t.num, .string t.text, .slice a l c] 24)).alloc (.cells #[.int .i64 0, .int .i64 0, .string ⟨#[]⟩, .slice none 0 0] 24)).alloc (.cells #[.int .i64 t.kind, .int .i64 t.num, .string t.text, .slice a l c] 24)) := grew3 _ _ _ _
  have HK : Hid (Blank (((w.alloc (.cells #[.int .i64 t.kind, .int .i64 t.num, .string t.text, .slice a l c] 24)).alloc (.cells #[.int .i64 0, .int .i64 0, .string ⟨#[]⟩, .slice none 0 0] 24)).alloc (.cells #[.int .i64 t.kind, .int .i64 t.num, .string t.text, .slice a l c] 24)) (w.heap.size + 1)) := by
    have := (blank_alloc (w.alloc (.cells #[.int .i64 t.kind, .int .i64 t.num, .string t.text, .slice a l c] 24))).keeps ((Grew.refl _).alloc (.cells #[.int .i64 t.kind, .int .i64 t.num, .string t.text, .slice a l c] 24)).below
    rwa [World.size_alloc] at this
  have HX : Hid (Boxed (((w.alloc (.cells #[.int .i64 t.kind, .int .i64 t.num, .string t.text, .slice a l c] 24)).alloc (.cells #[.int .i64 0, .int .i64 0, .string ⟨#[]⟩, .slice none 0 0] 24)).alloc (.cells #[.int .i64 t.kind, .int .i64 t.num, .string t.text, .slice a l c] 24)) (w.heap.size + 1 + 1) t.kind t.num t.text (.slice a l c)) := by
    have := boxed_alloc ((w.alloc (.cells #[.int .i64 t.kind, .int .i64 t.num, .string t.text, .slice a l c] 24)).alloc (.cells #[.int .i64 0, .int .i64 0, .string ⟨#[]⟩, .slice none 0 0] 24)) t.kind t.num t.text (.slice a l c) 24
    rwa [World.size_alloc, World.size_alloc] at this
  go_enter Try.func44, Try.ntmps44
  go_wp2_with fail
  refine (vlist_any 16 [t] _ _ (lies_one HX.out (Lies.keeps hbz _ _ _ HL.out) hs (Nat.le_refl _))).mono ?_
  rintro e w1 ⟨hb, hp⟩
  have hb1 : Below w.heap.size w w1 := hbz.trans (hb.mono (by simp; omega))
  have hsz : w.heap.size + 3 ≤ w1.heap.size := by have := hb.size; simp at this; omega
  have HK1 : Hid (Blank w1 (w.heap.size + 1)) := HK.out.keeps hb
  have hp := hp.resolve_left (fun h => h.1 HR.out)
  obtain ⟨_, hp⟩ := hp
  clear hbz HX HK
  rcases hp with ⟨hf, rfl⟩ | ⟨hf, v, rfl, hLB⟩
  · have He : Hid (wrapT t = nilT) := by show _ = _; unfold wrapT; rw [hf]; rfl
    clear hf hb
    unfold zeroAgg
    have HK2 : Hid (Blank (w1.alloc (.cells #[.int .i64 0, .int .i64 0, .string ⟨#[]⟩, .slice none 0 0] 24)) (w.heap.size + 1)) := HK1.out.keeps ((Grew.refl _).alloc _).below
    have hb2 : Below w.heap.size w (w1.alloc (.cells #[.int .i64 0, .int .i64 0, .string ⟨#[]⟩, .slice none 0 0] 24)) := hb1.alloc hb1.size _
    obtain ⟨y0, y1, y2, y3, z0, z1, z2, z3⟩ := HK2.out
    have Hbx : Hid _ := HK2.out.put (⟨0, 0, ⟨#[]⟩, []⟩, .slice none 0 0)
    have Hbl : Hid _ := below_put hb2 (Nat.le_succ _) (⟨0, 0, ⟨#[]⟩, []⟩, .slice none 0 0)
    go_wp2_with fail
    refine bodyPost_ret (v := .agg #[.int .i64 0, .int .i64 0, .string ⟨#[]⟩, .slice none 0 0]) ?_ rfl (by rw [He.out]; exact fnPost_nil Hbl.out)
    obtain ⟨q0, q1, q2, q3⟩ := Hbx.out
    simp only [encP, World.setCells, Nat.zero_add, Nat.reduceAdd] at q0 q1 q2 q3
    simp [results, Try.results44, go_sem, q0, q1, q2, q3]
  · have He : Hid (wrapT t = listT [t]) := by show _ = _; unfold wrapT; rw [hf]; rfl
    have hd : Dp 16 (listT [t]) := dp_list hf (fun x hx => by
      have : x = t := by simpa using hx
      subst this; exact HD.out)
    obtain ⟨av, cv, rfl, _⟩ := LiesB.slice hLB
    have HLB : Hid (LiesB (w.heap.size + 3) 17 w1 [t] (.slice av [t].length cv)) := LiesB.lower (by simp) _ _ _ hLB
    clear hf hb hLB
    simp only [List.length_singleton] at HLB ⊢
    have HK2 : Hid (Blank (w1.alloc (.cells #[.int .i64 4, .int .i64 0, .string ⟨#[]⟩, .slice av 1 cv] 24)) (w.heap.size + 1)) := HK1.out.keeps ((Grew.refl _).alloc _).below
    have hb2 : Below w.heap.size w (w1.alloc (.cells #[.int .i64 4, .int .i64 0, .string ⟨#[]⟩, .slice av 1 cv] 24)) := hb1.alloc hb1.size _
    obtain ⟨y0, y1, y2, y3, z0, z1, z2, z3⟩ := HK2.out
    have Hbx : Hid _ := HK2.out.put (listT [t], .slice av 1 cv)
    have Hbl : Hid _ := below_put hb2 (Nat.le_succ _) (listT [t], .slice av 1 cv)
    have Hfin : Hid (LiesX (fun b => X b ∨ w.heap.size ≤ b) 16 ((w1.alloc (.cells #[.int .i64 4, .int .i64 0, .string ⟨#[]⟩, .slice av 1 cv] 24)).setCells (w.heap.size + 1) 0 (encP (listT [t], .slice av 1 cv))) [t] (.slice av 1 cv)) := by
      have h1 : LiesX (fun b => w.heap.size + 3 ≤ b) 17 w1 [t] (.slice av 1 cv) := LiesX.of_b HLB.out
      have h2 := (h1.keeps ((Grew.refl w1).alloc (.cells #[.int .i64 4, .int .i64 0, .string ⟨#[]⟩, .slice av 1 cv] 24)).below).set (g := w.heap.size + 1) (o := 0) (vs := encP (listT [t], .slice av 1 cv)) (by omega)
      exact (LiesX.to (t := listT [t]) h2 hd).mono (fun b hb => .inr (by omega))
    go_wp2_with fail
    refine bodyPost_ret (v := .agg #[.int .i64 4, .int .i64 0, .string ⟨#[]⟩, .slice av 1 cv]) ?_ rfl (by rw [He.out]; exact ⟨_, rfl, Hfin.out, Hbl.out⟩)
    obtain ⟨q0, q1, q2, q3⟩ := Hbx.out
    simp only [encP, listT, World.setCells, Nat.zero_add, Nat.reduceAdd] at q0 q1 q2 q3
    simp [results, Try.results44, go_sem, q0, q1, q2, q3]

end Go.Proofs.Ytjlhgekckbdpjaa
