/-
  The contracts of the document's Done, Times and One.
-/
import Derived.Test.YtacnfmamjbmhcaaRDone
import Derived.Test.YtacnfmamjbmhcaaRIs
namespace Go.Proofs.Ytacnfmamjbmhcaa
open Go.RowKit

def wrap4 (w : World) (t : VT) (u : Value) : World :=
  (((w.alloc (.cells #[.int .i64 t.kind, .int .i64 t.num, .string t.text, u] 24)).alloc (.cells #[.int .i64 0, .int .i64 0, .string ⟨#[]⟩, .slice none 0 0] 24)).alloc (.cells #[.int .i64 t.kind, .int .i64 t.num, .string t.text, u] 24)).alloc (.cells #[.int .i64 4, .int .i64 0, .string ⟨#[]⟩, .slice (some ⟨w.heap.size + 1 + 1, 0, none⟩) 1 1] 24)

theorem wrap4_below (w : World) (t : VT) (u : Value) : Below w.heap.size w (wrap4 w t u) := (((Grew.two _ _ _).alloc _).alloc _).below
theorem wrap4_res (w : World) (t : VT) (u : Value) : Bx (wrap4 w t u) (w.heap.size + 1) zeroT (.slice none 0 0) := by
  have := (bx_alloc (w.alloc (.cells #[.int .i64 t.kind, .int .i64 t.num, .string t.text, u] 24)) zeroT (.slice none 0 0)).keeps (Grew.two _ (.cells #[.int .i64 t.kind, .int .i64 t.num, .string t.text, u] 24) (.cells #[.int .i64 4, .int .i64 0, .string ⟨#[]⟩, .slice (some ⟨w.heap.size + 1 + 1, 0, none⟩) 1 1] 24)).below
  rwa [World.size_alloc] at this
theorem wrap4_row (w : World) (t : VT) (u : Value) : Bx (wrap4 w t u) (w.heap.size + 1 + 1) t u := by
  have := (bx_alloc ((w.alloc (.cells #[.int .i64 t.kind, .int .i64 t.num, .string t.text, u] 24)).alloc (.cells #[.int .i64 0, .int .i64 0, .string ⟨#[]⟩, .slice none 0 0] 24)) t u).keeps ((Grew.refl _).alloc (.cells #[.int .i64 4, .int .i64 0, .string ⟨#[]⟩, .slice (some ⟨w.heap.size + 1 + 1, 0, none⟩) 1 1] 24)).below
  rwa [World.size_alloc, World.size_alloc] at this
theorem wrap4_val (w : World) (t : VT) (u : Value) : Bx (wrap4 w t u) (w.heap.size + 1 + 1 + 1) (listT [t]) (.slice (some ⟨w.heap.size + 1 + 1, 0, none⟩) 1 1) := by
  have := bx_alloc (((w.alloc (.cells #[.int .i64 t.kind, .int .i64 t.num, .string t.text, u] 24)).alloc (.cells #[.int .i64 0, .int .i64 0, .string ⟨#[]⟩, .slice none 0 0] 24)).alloc (.cells #[.int .i64 t.kind, .int .i64 t.num, .string t.text, u] 24)) (listT [t]) (.slice (some ⟨w.heap.size + 1 + 1, 0, none⟩) 1 1)
  rwa [World.size_alloc, World.size_alloc, World.size_alloc] at this

set_option maxHeartbeats 2000000 in
theorem rdone5 (X : Nat → Prop) (t : VT) (a : Option Addr) (l c : Nat) (w : World) (h : LiesX X 16 w t.items (.slice a l c)) (hr : rightV 16 t = true) (hs : t.text.size ≤ 9223372036854775807) : Calls Try.prog 21 #[.int .i64 5, .agg #[.int .i64 t.kind, .int .i64 t.num, .string t.text, .slice a l c]] w (FnPost X (wrapT t) w) := by
  have HD : Hid (Dp 16 t) := Dp.of_lies 16 w t _ h.lies
  have hbl := wrap4_below w t (.slice a l c)
  have HR : Hid (Bx (wrap4 w t (.slice a l c)) (w.heap.size + 1) zeroT (.slice none 0 0)) := wrap4_res _ _ _
  have HV : Hid (Bx (wrap4 w t (.slice a l c)) (w.heap.size + 1 + 1 + 1) (listT [t]) (.slice (some ⟨w.heap.size + 1 + 1, 0, none⟩) 1 1)) := wrap4_val _ _ _
  have HL : Hid (LiesX (fun b => (X b ∧ b < w.heap.size) ∨ b = w.heap.size + 1 + 1) 17 (wrap4 w t (.slice a l c)) [t] (.slice (some ⟨w.heap.size + 1 + 1, 0, none⟩) 1 1)) :=
    liesX_one (.inr rfl) (wrap4_row w t _) ((h.both.keeps hbl).mono (fun _ h => .inl h)) hs (Nat.le_refl _)
  have HW : Hid (rightV 17 (listT [t]) = (fw 17 (listT [t]) 16 1024).1) := list_right [t] (fun x hx => by
    have : x = t := by simpa using hx
    subst this; exact hr)
  clear h hr
  go_enter Try.func21, Try.ntmps21
  go_wp2_with fail
  refine (right_any 17 (listT [t]) (.slice (some ⟨w.heap.size + 1 + 1, 0, none⟩) 1 1) _ HL.out.lies).mono ?_
  rintro e w1 ⟨rfl, hb⟩
  have hb : Below (wrap4 w t (.slice a l c)).heap.size (wrap4 w t (.slice a l c)) w1 := hb
  have hb1 : Below w.heap.size w w1 := hbl.trans (hb.mono hbl.size)
  have HR1 : Hid (Bx w1 (w.heap.size + 1) zeroT (.slice none 0 0)) := HR.out.keeps hb
  obtain ⟨x0, x1, x2, x3, _, _, _, _⟩ := HV.out.keeps hb
  have HL1 : Hid (LiesX (fun b => (X b ∧ b < w.heap.size) ∨ b = w.heap.size + 1 + 1) 17 w1 [t] (.slice (some ⟨w.heap.size + 1 + 1, 0, none⟩) 1 1)) := HL.out.keeps hb
  rw [HW.out]
  clear hb hbl HR HV HL HW
  obtain ⟨y0, y1, y2, y3, z0, z1, z2, z3⟩ := HR1.out
  cases hf : (fw 17 (listT [t]) 16 1024).1
  · have He : Hid (wrapT t = nilT) := by show _ = _; unfold wrapT; rw [hf]; rfl
    have Hbx : Hid (Bx (w1.setCells (w.heap.size + 1) 0 (encP (zeroT, .slice none 0 0))) (w.heap.size + 1) zeroT (.slice none 0 0)) := HR1.out.put (zeroT, .slice none 0 0)
    have Hbl : Hid (Below w.heap.size w (w1.setCells (w.heap.size + 1) 0 (encP (zeroT, .slice none 0 0)))) := below_put hb1 (Nat.le_succ _) (zeroT, .slice none 0 0)
    clear hf
    go_wp2_with fail
    refine bodyPost_ret (v := .agg #[.int .i64 0, .int .i64 0, .string ⟨#[]⟩, .slice none 0 0]) ?_ rfl (by rw [He.out]; exact fnPost_nil Hbl.out)
    obtain ⟨q0, q1, q2, q3, _, _, _, _⟩ := Hbx.out
    simp only [encP, World.setCells, Nat.zero_add, Nat.reduceAdd] at q0 q1 q2 q3
    simp [results, Try.results21, go_sem, q0, q1, q2, q3]
  · have He : Hid (wrapT t = listT [t]) := by show _ = _; unfold wrapT; rw [hf]; rfl
    have hd : Dp 16 (listT [t]) := dp_list hf (fun x hx => by
      have : x = t := by simpa using hx
      subst this; exact HD.out)
    have Hbx : Hid (Bx (w1.setCells (w.heap.size + 1) 0 (encP (listT [t], .slice (some ⟨w.heap.size + 1 + 1, 0, none⟩) 1 1))) (w.heap.size + 1) (listT [t]) (.slice (some ⟨w.heap.size + 1 + 1, 0, none⟩) 1 1)) := HR1.out.put (listT [t], .slice (some ⟨w.heap.size + 1 + 1, 0, none⟩) 1 1)
    have Hbl : Hid (Below w.heap.size w (w1.setCells (w.heap.size + 1) 0 (encP (listT [t], .slice (some ⟨w.heap.size + 1 + 1, 0, none⟩) 1 1)))) := below_put hb1 (Nat.le_succ _) (listT [t], .slice (some ⟨w.heap.size + 1 + 1, 0, none⟩) 1 1)
    have Hfin : Hid (LiesX (fun b => X b ∨ w.heap.size ≤ b) 16 (w1.setCells (w.heap.size + 1) 0 (encP (listT [t], .slice (some ⟨w.heap.size + 1 + 1, 0, none⟩) 1 1))) [t] (.slice (some ⟨w.heap.size + 1 + 1, 0, none⟩) 1 1)) := by
      have h2 := HL1.out.set (g := w.heap.size + 1) (o := 0) (vs := encP (listT [t], .slice (some ⟨w.heap.size + 1 + 1, 0, none⟩) 1 1)) (by omega)
      exact (LiesX.to (t := listT [t]) h2 hd).mono (fun b hb => by
        rcases hb with hb | hb
        · exact .inl hb.1
        · exact .inr (by omega))
    clear hf
    simp only [listT] at x0 x1 x2
    go_wp2_with fail
    refine bodyPost_ret (v := .agg #[.int .i64 4, .int .i64 0, .string ⟨#[]⟩, .slice (some ⟨w.heap.size + 1 + 1, 0, none⟩) 1 1]) ?_ rfl (by rw [He.out]; exact ⟨_, rfl, Hfin.out, Hbl.out⟩)
    obtain ⟨q0, q1, q2, q3, _, _, _, _⟩ := Hbx.out
    simp only [encP, listT, World.setCells, Nat.zero_add, Nat.reduceAdd] at q0 q1 q2 q3
    simp [results, Try.results21, go_sem, q0, q1, q2, q3]

theorem rdone_any (X : Nat → Prop) (q : Nat) (hq : q < 8) (t : VT) (u : Value) (w : World) (hl : LiesX X 16 w t.items u) (hr : rightV 16 t = true) :
    Calls Try.prog 21 #[.int .i64 q, .agg #[.int .i64 t.kind, .int .i64 t.num, .string t.text, u]] w (FnPost X (doneT q t) w) := by
  have hs := right_size hr
  obtain ⟨a, c, rfl, _⟩ := LiesX.slice hl
  match q, hq with
  | 0, _ => exact rdone0 X t a _ c w hl
  | 1, _ => exact rdone1 X t a _ c w hl
  | 2, _ => exact rdone2 X t a _ c w hl
  | 3, _ => exact rdone3 X t a c w hr
  | 4, _ =>
    refine rdone4 X t a _ c w (fun W hW => ?_)
    by_cases k3 : t.kind = 3
    · exact rfirst_text _ t a c W hr k3
    · exact rfirst_items _ t _ W k3 (hl.both.keeps hW) (fun h1 h2 => map_two hr h1 h2)
  | 5, _ => exact rdone5 X t a _ c w hl hr (by omega)
  | 6, _ => exact rdone6 X t a _ c w
  | 7, _ => exact rdone7 X t a _ c w hl

/-- A value and a number are told, in whatever memory. -/
def RPost (s : VT) (r : Int) (W : World) (e : Ending) (W' : World) : Prop :=
  ∃ u, e = .returned (.tuple #[.agg #[.int .i64 s.kind, .int .i64 s.num, .string s.text, u], .int .i64 r]) ∧ Lies 16 W' s.items u ∧ Below W.heap.size W W'

theorem rPost_nil {r : Int} {W W' : World} (h : Below W.heap.size W W') : RPost nilT r W (.returned (.tuple #[.agg #[.int .i64 0, .int .i64 0, .string ⟨#[]⟩, .slice none 0 0], .int .i64 r])) W' :=
  ⟨_, rfl, (liesX_nil (fun _ => True) _ _ _ _).lies, h⟩

/-- What stands before a round. -/
structure RTurn (w wr : World) (N : Nat) (s : VT) (u : Value) : Prop where
  box : Bx wr N s u
  res : Bx wr (N + 1) zeroT (.slice none 0 0)
  lies : LiesX (fun b => b ≠ N ∧ b ≠ N + 1) 16 wr s.items u
  below : Below w.heap.size w wr

theorem RTurn.next {w wr w1 : World} {N : Nat} {s s' : VT} {u u' : Value} (h : RTurn w wr N s u) (hN : w.heap.size ≤ N) (hb : Below wr.heap.size wr w1) (hl : LiesX (fun b => (b ≠ N ∧ b ≠ N + 1) ∨ wr.heap.size ≤ b) 16 w1 s'.items u') :
    RTurn w (w1.setCells N 0 (encP (s', u'))) N s' u' := by
  have hsz : N + 1 < wr.heap.size := cell_lt h.res.c0
  refine ⟨(h.box.keeps hb).put (s', u'), (h.res.keeps hb).other (by omega) _, ?_, below_put (h.below.trans (hb.mono h.below.size)) hN (s', u')⟩
  exact (hl.mono (Y := fun b => b ≠ N ∧ b ≠ N + 1) (fun b hb => by omega)).set (by simp)

set_option maxHeartbeats 2000000 in
theorem rtimes_kind (d : Nat) (q n : Int) (t : VT) (u : Value) (w : World) (hu : Lies d w t.items u) (hq : ¬ (0 ≤ q ∧ q ≤ 7)) : Calls Try.prog 11 #[.int .i64 q, .int .i64 n, .agg #[.int .i64 t.kind, .int .i64 t.num, .string t.text, u]] w (RPost nilT 4 w) := by
  obtain ⟨a, c, rfl, _⟩ := Lies.slice hu
  have HL : Hid (Lies d w t.items (.slice a t.items.length c)) := hu
  clear hu
  have hb2 : Below w.heap.size w ((w.alloc (.cells #[.int .i64 t.kind, .int .i64 t.num, .string t.text, .slice a t.items.length c] 24)).alloc (.cells #[.int .i64 0, .int .i64 0, .string ⟨#[]⟩, .slice none 0 0] 24)) := (Grew.two _ _ _).below
  have HR : Hid (Bx ((w.alloc (.cells #[.int .i64 t.kind, .int .i64 t.num, .string t.text, .slice a t.items.length c] 24)).alloc (.cells #[.int .i64 0, .int .i64 0, .string ⟨#[]⟩, .slice none 0 0] 24)) (w.heap.size + 1) zeroT (.slice none 0 0)) := by
    have := bx_alloc (w.alloc (.cells #[.int .i64 t.kind, .int .i64 t.num, .string t.text, .slice a t.items.length c] 24)) zeroT (.slice none 0 0)
    rwa [World.size_alloc] at this
  have HX : Hid (Bx ((w.alloc (.cells #[.int .i64 t.kind, .int .i64 t.num, .string t.text, .slice a t.items.length c] 24)).alloc (.cells #[.int .i64 0, .int .i64 0, .string ⟨#[]⟩, .slice none 0 0] 24)) w.heap.size t (.slice a t.items.length c)) := (bx_alloc w t _).keeps ((Grew.refl _).alloc _).below
  have HK : Hid (∀ W, Calls Try.prog 19 #[.int .i64 q] W fun e w' => e = .returned (.bool false) ∧ w' = W) := by
    intro W
    have := rkind5_any q W
    rwa [k5B_false (by omega)] at this
  clear HL HX
  clear hq HR
  go_enter Try.func11, Try.ntmps11
  go_wp2_with fail
  refine Calls.mono (HK.out _) ?_
  rintro e w1 ⟨rfl, rfl⟩
  clear HK
  go_wp2_with fail
  refine bodyPost_ret (v := .tuple #[.agg #[.int .i64 0, .int .i64 0, .string ⟨#[]⟩, .slice none 0 0], .int .i64 4]) (by simp [results, Try.results11, go_sem]) rfl (rPost_nil hb2)

set_option maxHeartbeats 2000000 in
theorem rtimes_num (d : Nat) (q n : Int) (t : VT) (u : Value) (w : World) (hu : Lies d w t.items u) (h0 : 0 ≤ q) (h7 : q ≤ 7) (hn : n < 0 ∨ 65536 < n) : Calls Try.prog 11 #[.int .i64 q, .int .i64 n, .agg #[.int .i64 t.kind, .int .i64 t.num, .string t.text, u]] w (RPost nilT 1 w) := by
  obtain ⟨a, c, rfl, _⟩ := Lies.slice hu
  have HL : Hid (Lies d w t.items (.slice a t.items.length c)) := hu
  clear hu
  have hb2 : Below w.heap.size w ((w.alloc (.cells #[.int .i64 t.kind, .int .i64 t.num, .string t.text, .slice a t.items.length c] 24)).alloc (.cells #[.int .i64 0, .int .i64 0, .string ⟨#[]⟩, .slice none 0 0] 24)) := (Grew.two _ _ _).below
  have HR : Hid (Bx ((w.alloc (.cells #[.int .i64 t.kind, .int .i64 t.num, .string t.text, .slice a t.items.length c] 24)).alloc (.cells #[.int .i64 0, .int .i64 0, .string ⟨#[]⟩, .slice none 0 0] 24)) (w.heap.size + 1) zeroT (.slice none 0 0)) := by
    have := bx_alloc (w.alloc (.cells #[.int .i64 t.kind, .int .i64 t.num, .string t.text, .slice a t.items.length c] 24)) zeroT (.slice none 0 0)
    rwa [World.size_alloc] at this
  have HX : Hid (Bx ((w.alloc (.cells #[.int .i64 t.kind, .int .i64 t.num, .string t.text, .slice a t.items.length c] 24)).alloc (.cells #[.int .i64 0, .int .i64 0, .string ⟨#[]⟩, .slice none 0 0] 24)) w.heap.size t (.slice a t.items.length c)) := (bx_alloc w t _).keeps ((Grew.refl _).alloc _).below
  have HK : Hid (∀ W, Calls Try.prog 19 #[.int .i64 q] W fun e w' => e = .returned (.bool true) ∧ w' = W) := by
    intro W
    have := rkind5_any q W
    rwa [k5B_true (by omega) (by omega)] at this
  clear HL HX
  clear HR
  rcases hn with hn | hn
  · go_enter Try.func11, Try.ntmps11
    go_wp2_with fail
    refine Calls.mono (HK.out _) ?_
    rintro e w1 ⟨rfl, rfl⟩
    clear HK
    go_wp2_with fail
    refine bodyPost_ret (v := .tuple #[.agg #[.int .i64 0, .int .i64 0, .string ⟨#[]⟩, .slice none 0 0], .int .i64 1]) (by simp [results, Try.results11, go_sem]) rfl (rPost_nil hb2)
  · have hn2 : ¬ n < 0 := by omega
    go_enter Try.func11, Try.ntmps11
    go_wp2_with fail
    refine Calls.mono (HK.out _) ?_
    rintro e w1 ⟨rfl, rfl⟩
    clear HK
    go_wp2_with fail
    refine bodyPost_ret (v := .tuple #[.agg #[.int .i64 0, .int .i64 0, .string ⟨#[]⟩, .slice none 0 0], .int .i64 1]) (by simp [results, Try.results11, go_sem]) rfl (rPost_nil hb2)

set_option maxHeartbeats 4000000 in
theorem rtimes_ok (d : Nat) (q n : Nat) (t : VT) (u : Value) (w : World) (hu : Lies d w t.items u) (hq : q < 8) (hn : n ≤ 65536) : Calls Try.prog 11 #[.int .i64 q, .int .i64 n, .agg #[.int .i64 t.kind, .int .i64 t.num, .string t.text, u]] w (if rightV d t = true then RPost (itT (doneT q) n t) 0 w else RPost nilT 3 w) := by
  generalize hP : (if rightV d t = true then RPost (itT (doneT q) n t) 0 w else RPost nilT 3 w) = P
  have HP : Hid ((if rightV d t = true then RPost (itT (doneT q) n t) 0 w else RPost nilT 3 w) = P) := hP
  have Hd : Hid (∀ (s : VT) (v : Value) (W : World), LiesX (fun b => b ≠ w.heap.size ∧ b ≠ w.heap.size + 1) 16 W s.items v → rightV 16 s = true → Calls Try.prog 21 #[.int .i64 q, .agg #[.int .i64 s.kind, .int .i64 s.num, .string s.text, v]] W (FnPost (fun b => b ≠ w.heap.size ∧ b ≠ w.heap.size + 1) (doneT q s) W)) := fun s v W h1 h2 => rdone_any _ q hq s v W h1 h2
  have HRt : Hid (rightV 16 t = true → Dp 16 t → ∀ j, rightV 16 (itT (doneT q) j t) = true ∧ Dp 16 (itT (doneT q) j t)) := fun h1 h2 j => it_right q h1 h2 j
  have HC : Hid (rightV d t = true → Lies 16 w t.items u ∧ rightV 16 t = true ∧ Dp 16 t) := fun hr => ⟨(canon hu hr).1, (canon hu hr).2, right_deep hr (Dp.of_lies d w t u hu)⟩
  generalize doneT q = D at *
  clear hP
  have HK : Hid (∀ W, Calls Try.prog 19 #[.int .i64 q] W fun e w' => e = .returned (.bool true) ∧ w' = W) := by
    intro W
    have := rkind5_any q W
    rwa [k5B_true (by omega) (by omega)] at this
  obtain ⟨a, c, rfl, _⟩ := Lies.slice hu
  have HL : Hid (Lies d w t.items (.slice a t.items.length c)) := hu
  clear hu
  have hb2 : Below w.heap.size w ((w.alloc (.cells #[.int .i64 t.kind, .int .i64 t.num, .string t.text, .slice a t.items.length c] 24)).alloc (.cells #[.int .i64 0, .int .i64 0, .string ⟨#[]⟩, .slice none 0 0] 24)) := (Grew.two _ _ _).below
  have HR : Hid (Bx ((w.alloc (.cells #[.int .i64 t.kind, .int .i64 t.num, .string t.text, .slice a t.items.length c] 24)).alloc (.cells #[.int .i64 0, .int .i64 0, .string ⟨#[]⟩, .slice none 0 0] 24)) (w.heap.size + 1) zeroT (.slice none 0 0)) := by
    have := bx_alloc (w.alloc (.cells #[.int .i64 t.kind, .int .i64 t.num, .string t.text, .slice a t.items.length c] 24)) zeroT (.slice none 0 0)
    rwa [World.size_alloc] at this
  have HX : Hid (Bx ((w.alloc (.cells #[.int .i64 t.kind, .int .i64 t.num, .string t.text, .slice a t.items.length c] 24)).alloc (.cells #[.int .i64 0, .int .i64 0, .string ⟨#[]⟩, .slice none 0 0] 24)) w.heap.size t (.slice a t.items.length c)) := (bx_alloc w t _).keeps ((Grew.refl _).alloc _).below
  have hn1 : ¬ (n : Int) < 0 := by omega
  have hn2 : ¬ 65536 < (n : Int) := by omega
  go_enter Try.func11, Try.ntmps11
  go_wp2_with fail
  refine Calls.mono (HK.out _) ?_
  rintro e w1 ⟨rfl, rfl⟩
  clear HK
  go_wp2_with fail
  refine (right_any d t _ _ (Lies.keeps hb2 _ _ _ HL.out)).mono ?_
  rintro e w2 ⟨rfl, hb⟩
  have hb3 : Below w.heap.size w w2 := hb2.trans (hb.mono hb2.size)
  have HR2 : Hid (Bx w2 (w.heap.size + 1) zeroT (.slice none 0 0)) := HR.out.keeps hb
  have HX2 : Hid (Bx w2 w.heap.size t (.slice a t.items.length c)) := HX.out.keeps hb
  clear hb hb2 HR HX
  cases hr : rightV d t
  · have HP2 : Hid (P = RPost nilT 3 w) := by show _ = _; rw [← HP.out, if_neg (by rw [hr]; simp)]
    clear hr HP HX2 HC HRt Hd
    obtain ⟨y0, y1, y2, y3, z0, z1, z2, z3⟩ := HR2.out
    have Hbx : Hid (Bx (w2.setCells (w.heap.size + 1) 0 (encP (zeroT, .slice none 0 0))) (w.heap.size + 1) zeroT (.slice none 0 0)) := HR2.out.put (zeroT, .slice none 0 0)
    have Hbl : Hid (Below w.heap.size w (w2.setCells (w.heap.size + 1) 0 (encP (zeroT, .slice none 0 0)))) := below_put hb3 (Nat.le_succ _) (zeroT, .slice none 0 0)
    go_wp2_with fail
    refine bodyPost_ret (v := .tuple #[.agg #[.int .i64 0, .int .i64 0, .string ⟨#[]⟩, .slice none 0 0], .int .i64 3]) ?_ rfl (by rw [HP2.out]; exact rPost_nil Hbl.out)
    obtain ⟨q0, q1, q2, q3, _, _, _, _⟩ := Hbx.out
    simp only [encP, World.setCells, Nat.zero_add, Nat.reduceAdd] at q0 q1 q2 q3
    simp [results, Try.results11, go_sem, q0, q1, q2, q3]
  · have HP2 : Hid (P = RPost (itT D n t) 0 w) := by show _ = _; rw [← HP.out, if_pos hr]
    obtain ⟨c1, c2, c3⟩ := HC.out hr
    have HR16 : Hid (∀ j, rightV 16 (itT D j t) = true ∧ Dp 16 (itT D j t)) := HRt.out c2 c3
    have HT1 : Hid (RTurn w w2 w.heap.size t (.slice a t.items.length c)) := ⟨HX2.out, HR2.out, ((LiesX.of_lies c1).keeps hb3).mono (fun b hb => by omega), hb3⟩
    clear hr HP HC HRt c1 c2 c3 HX2 HR2 hb3
    go_wp2_with fail
    go_loopg [8] n (fun g i wr => ∃ (j : Nat) (s : VT) (v : Value), i = .int .i64 (j : Int) ∧ j ≤ n ∧ g = n - j ∧ Hid (s = itT D j t) ∧ Hid (RTurn w wr w.heap.size s v))
    case atStart => exact ⟨0, t, _, rfl, by omega, by omega, rfl, HT1⟩
    case round =>
      obtain ⟨j, s, v, rfl, hj, hk, Hs, HT⟩ := hrel
      have Hk : Hid _ := hk
      clear hk HT1
      obtain ⟨av, cv, rfl, _⟩ := LiesX.slice HT.out.lies
      obtain ⟨x0, x1, x2, x3, k0, k1, k2, k3⟩ := HT.out.box
      by_cases hlt : j < n
      · go_wp2_with fail
        refine Calls.mono (Hd.out s (.slice av s.items.length cv) _ HT.out.lies (by rw [Hs.out]; exact (HR16.out j).1)) ?_
        rintro e w3 ⟨v', rfl, hl3, hb3⟩
        have HT3 : Hid (RTurn w (w3.setCells w.heap.size 0 (encP (D s, v'))) w.heap.size (D s) v') := HT.out.next (Nat.le_refl _) hb3 hl3
        obtain ⟨a3, c3, rfl, _⟩ := LiesX.slice hl3
        have HBx := HT.out.box.keeps hb3
        obtain ⟨x0, x1, x2, x3, k0, k1, k2, k3⟩ := HBx
        have Hs3 : Hid (D s = itT D (j + 1) t) := by show _ = _; rw [Hs.out]; rfl
        clear hl3 hb3 HT
        generalize D s = s' at *
        go_wp2_with fail
        go_roundg (n - (j + 1))
        case measure => have := Hk.out; omega
        case rel => exact ⟨j + 1, s', .slice a3 s'.items.length c3, by go_num, by omega, rfl, Hs3, HT3⟩
      · have hjn : j = n := by omega
        subst hjn
        obtain ⟨y0, y1, y2, y3, z0, z1, z2, z3⟩ := HT.out.res
        have Hbx : Hid (Bx (wr.setCells (w.heap.size + 1) 0 (encP (s, .slice av s.items.length cv))) (w.heap.size + 1) s (.slice av s.items.length cv)) := HT.out.res.put (s, .slice av s.items.length cv)
        have Hbl : Hid (Below w.heap.size w (wr.setCells (w.heap.size + 1) 0 (encP (s, .slice av s.items.length cv)))) := below_put HT.out.below (Nat.le_succ _) (s, .slice av s.items.length cv)
        have Hfin : Hid (Lies 16 (wr.setCells (w.heap.size + 1) 0 (encP (s, .slice av s.items.length cv))) s.items (.slice av s.items.length cv)) := (HT.out.lies.set (g := w.heap.size + 1) (by omega)).lies
        go_wp2_with fail
        refine bodyPost_ret (v := .tuple #[.agg #[.int .i64 s.kind, .int .i64 s.num, .string s.text, .slice av s.items.length cv], .int .i64 0]) ?_ rfl (by rw [HP2.out, ← Hs.out]; exact ⟨_, rfl, Hfin.out, Hbl.out⟩)
        obtain ⟨q0, q1, q2, q3, _, _, _, _⟩ := Hbx.out
        simp only [encP, World.setCells, Nat.zero_add, Nat.reduceAdd] at q0 q1 q2 q3
        simp [results, Try.results11, go_sem, q0, q1, q2, q3]

theorem rtimes_any (d : Nat) (q n : Int) (t : VT) (u : Value) (w : World) (hu : Lies d w t.items u) : Calls Try.prog 11 #[.int .i64 q, .int .i64 n, .agg #[.int .i64 t.kind, .int .i64 t.num, .string t.text, u]] w (RPost (timesT d q n t) (timesE d q n t) w) := by
  unfold timesT
  by_cases hq : q < 0 ∨ 8 ≤ q
  · have e : timesE d q n t = 4 := by unfold timesE; rw [if_pos hq]
    rw [e]
    exact rtimes_kind d q n t u w hu (by omega)
  · obtain ⟨Q, hQ, hQ8⟩ : ∃ Q : Nat, q = Q ∧ Q < 8 := ⟨q.toNat, by omega, by omega⟩
    subst hQ
    by_cases hn : n < 0 ∨ 65536 < n
    · have e : timesE d Q n t = 1 := by unfold timesE; rw [if_neg hq, if_pos hn]
      rw [e]
      exact rtimes_num d Q n t u w hu (by omega) (by omega) hn
    · obtain ⟨K, hK, hK8⟩ : ∃ K : Nat, n = K ∧ K ≤ 65536 := ⟨n.toNat, by omega, by omega⟩
      subst hK
      have h := rtimes_ok d Q K t u w hu hQ8 hK8
      cases hr : rightV d t
      · have e : timesE d Q K t = 3 := by unfold timesE; rw [if_neg hq, if_neg hn, hr]; rfl
        rw [e]
        rw [hr] at h
        exact h
      · have e : timesE d Q K t = 0 := by unfold timesE; rw [if_neg hq, if_neg hn, if_pos hr]
        rw [e]
        rw [hr] at h
        exact h

end Go.Proofs.Ytacnfmamjbmhcaa

