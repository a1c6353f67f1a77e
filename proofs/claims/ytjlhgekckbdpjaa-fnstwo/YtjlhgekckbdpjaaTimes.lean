/-
  The contracts of Times and One.
-/
import Derived.Test.YtjlhgekckbdpjaaRightly
import Derived.Test.YtjlhgekckbdpjaaBox
namespace Go.Proofs.Ytjlhgekckbdpjaa
open Go.RowKit

theorem done_any (X : Nat → Prop) (q : Nat) (hq : q < 8) (t : VT) (u : Value) (w : World) (hl : LiesX X 16 w t.items u) (hr : rightV 16 t = true) :
    Calls Try.prog (oneF q) #[.agg #[.int .i64 t.kind, .int .i64 t.num, .string t.text, u]] w (FnPost X (doneT q t) w) := by
  have hs := right_size hr
  have hn := right_len hr
  obtain ⟨a, c, rfl, _⟩ := LiesX.slice hl
  match q, hq with
  | 0, _ => exact same1_any X t a _ c w hl
  | 1, _ => exact inc_any X t a _ c w hl
  | 2, _ => exact neg_any X t a _ c w hl
  | 3, _ => exact size_any X t a c w (by omega) hn
  | 4, _ =>
    by_cases k3 : t.kind = 3
    · exact first_text X t a c w k3
    · exact first_items X t _ w k3 hl (fun h1 h2 => map_two hr h1 h2)
  | 5, _ => exact wrap_any X t a _ c w hl.lies hr (by omega)
  | 6, _ => exact kind_any X t a _ c w
  | 7, _ => exact half_any X t a _ c w hl

/-- A function done so many times. -/
def itT (f : VT → VT) : Nat → VT → VT
  | 0, t => t
  | n + 1, t => f (itT f n t)

theorem it_right (q : Nat) {t : VT} (hr : rightV 16 t = true) (hd : Dp 16 t) : ∀ n, rightV 16 (itT (doneT q) n t) = true ∧ Dp 16 (itT (doneT q) n t) := by
  intro n
  induction n with
  | zero => exact ⟨hr, hd⟩
  | succ n ih => exact done_right q ih.1 ih.2

/-- The error of Times. -/
def timesE (d : Nat) (q n : Int) (t : VT) : Int :=
  if q < 0 ∨ 8 ≤ q then 4 else if n < 0 ∨ 65536 < n then 1 else if rightV d t = true then 0 else 3

/-- What Times tells. -/
def timesT (d : Nat) (q n : Int) (t : VT) : VT := if timesE d q n t = 0 then itT (doneT q.toNat) n.toNat t else nilT

/-- A value, in new memory, and a number are told. -/
def VPost (s : VT) (r : Int) (W : World) (e : Ending) (W' : World) : Prop :=
  ∃ u, e = .returned (.tuple #[.agg #[.int .i64 s.kind, .int .i64 s.num, .string s.text, u], .int .i64 r]) ∧ LiesX (fun b => W.heap.size ≤ b) 16 W' s.items u ∧ Below W.heap.size W W'

theorem vPost_nil {r : Int} {W W' : World} (h : Below W.heap.size W W') : VPost nilT r W (.returned (.tuple #[.agg #[.int .i64 0, .int .i64 0, .string ⟨#[]⟩, .slice none 0 0], .int .i64 r])) W' :=
  ⟨_, rfl, liesX_nil _ _ _ _ _, h⟩

/-- The world behind the first region: the value's box, the result's cells, the table. -/
def start3 (w : World) (t : VT) (u : Value) : World :=
  ((w.alloc (.cells #[.int .i64 t.kind, .int .i64 t.num, .string t.text, u] 24)).alloc (.cells #[.int .i64 0, .int .i64 0, .string ⟨#[]⟩, .slice none 0 0] 24)).alloc
    (.cells #[fv 39, fv 40, fv 41, fv 42, fv 43, fv 44, fv 45, fv 46] 54)

theorem start3_below (w : World) (t : VT) (u : Value) : Below w.heap.size w (start3 w t u) := grew3 _ _ _ _

theorem start3_box (w : World) (t : VT) (u : Value) : Bx (start3 w t u) w.heap.size t u := (bx_alloc w t u).keeps (Grew.two _ _ _).below

theorem start3_res (w : World) (t : VT) (u : Value) : Bx (start3 w t u) (w.heap.size + 1) zeroT (.slice none 0 0) := by
  have := (bx_alloc (w.alloc (.cells #[.int .i64 t.kind, .int .i64 t.num, .string t.text, u] 24)) zeroT (.slice none 0 0)).keeps ((Grew.refl _).alloc (.cells #[fv 39, fv 40, fv 41, fv 42, fv 43, fv 44, fv 45, fv 46] 54)).below
  rwa [World.size_alloc] at this

theorem start3_row (w : World) (t : VT) (u : Value) (q : Nat) (hq : q < 8) : (start3 w t u).cell? ⟨w.heap.size + 2, q, none⟩ = some (fv (oneF q)) := by
  have := oneF_cell ((w.alloc (.cells #[.int .i64 t.kind, .int .i64 t.num, .string t.text, u] 24)).alloc (.cells #[.int .i64 0, .int .i64 0, .string ⟨#[]⟩, .slice none 0 0] 24)) q hq
  rwa [World.size_alloc, World.size_alloc] at this

theorem start3_size (w : World) (t : VT) (u : Value) : (start3 w t u).heap.size = w.heap.size + 3 := by
  unfold start3; simp

set_option maxHeartbeats 2000000 in
theorem times_kind (d : Nat) (q n : Int) (t : VT) (u : Value) (w : World) (hu : Lies d w t.items u) (hq : q < 0 ∨ 8 ≤ q) :
    Calls Try.prog 10 #[.int .i64 q, .int .i64 n, .agg #[.int .i64 t.kind, .int .i64 t.num, .string t.text, u]] w (VPost nilT 4 w) := by
  obtain ⟨a, c, rfl, _⟩ := Lies.slice hu
  have HL : Hid (Lies d w t.items (.slice a t.items.length c)) := hu
  clear hu
  have HB := start3_below w t (.slice a t.items.length c)
  have HR : Hid (Bx (start3 w t (.slice a t.items.length c)) (w.heap.size + 1) zeroT (.slice none 0 0)) := start3_res w t _
  have HX : Hid (Bx (start3 w t (.slice a t.items.length c)) w.heap.size t (.slice a t.items.length c)) := start3_box w t _
  have hz := start3_size w t (.slice a t.items.length c)
  have Hz : Hid ((start3 w t (.slice a t.items.length c)).heap.size = w.heap.size + 3) := hz
  clear hz
  have HQ : Hid (q < 0 ∨ 8 ≤ q) := hq
  clear hq HL HX
  go_enter Try.func10, Try.ntmps10
  go_wp2_with fail
  refine (functions_any _).mono ?_
  rintro e w1 ⟨rfl, rfl⟩
  go_wp2_with fail
  refine (rowF_no (w.heap.size + 1 + 1) q _ HQ.out).mono ?_
  rintro e w1 ⟨rfl, hb⟩
  have hb : Below (start3 w t (.slice a t.items.length c)).heap.size (start3 w t (.slice a t.items.length c)) w1 := hb
  have hb1 : Below w.heap.size w w1 := HB.trans (hb.mono (by rw [Hz.out]; omega))
  have hb2 : Below w.heap.size w (w1.alloc (.cells #[.nilFunc] 54)) := hb1.alloc hb1.size _
  have HR2 : Hid (Bx (w1.alloc (.cells #[.nilFunc] 54)) (w.heap.size + 1) zeroT (.slice none 0 0)) := (HR.out.keeps hb).keeps ((Grew.refl _).alloc _).below
  clear hb HR HB Hz
  obtain ⟨y0, y1, y2, y3, z0, z1, z2, z3⟩ := HR2.out
  have Hbx : Hid (Bx ((w1.alloc (.cells #[.nilFunc] 54)).setCells (w.heap.size + 1) 0 (encP (zeroT, .slice none 0 0))) (w.heap.size + 1) zeroT (.slice none 0 0)) := HR2.out.put (zeroT, .slice none 0 0)
  have Hbl : Hid (Below w.heap.size w ((w1.alloc (.cells #[.nilFunc] 54)).setCells (w.heap.size + 1) 0 (encP (zeroT, .slice none 0 0)))) := below_put hb2 (Nat.le_succ _) (zeroT, .slice none 0 0)
  go_wp2_with fail
  refine bodyPost_ret (v := .tuple #[.agg #[.int .i64 0, .int .i64 0, .string ⟨#[]⟩, .slice none 0 0], .int .i64 4]) ?_ rfl (vPost_nil Hbl.out)
  obtain ⟨q0, q1, q2, q3, _, _, _, _⟩ := Hbx.out
  simp only [encP, World.setCells, Nat.zero_add, Nat.reduceAdd] at q0 q1 q2 q3
  simp [results, Try.results10, go_sem, q0, q1, q2, q3]

set_option maxHeartbeats 2000000 in
theorem times_num (d : Nat) (q : Nat) (n : Int) (t : VT) (u : Value) (w : World) (hu : Lies d w t.items u) (hq : q < 8) (hn : n < 0 ∨ 65536 < n) :
    Calls Try.prog 10 #[.int .i64 q, .int .i64 n, .agg #[.int .i64 t.kind, .int .i64 t.num, .string t.text, u]] w (VPost nilT 1 w) := by
  obtain ⟨a, c, rfl, _⟩ := Lies.slice hu
  have HL : Hid (Lies d w t.items (.slice a t.items.length c)) := hu
  clear hu
  have HB := start3_below w t (.slice a t.items.length c)
  have HR : Hid (Bx (start3 w t (.slice a t.items.length c)) (w.heap.size + 1) zeroT (.slice none 0 0)) := start3_res w t _
  have HX : Hid (Bx (start3 w t (.slice a t.items.length c)) w.heap.size t (.slice a t.items.length c)) := start3_box w t _
  have hz := start3_size w t (.slice a t.items.length c)
  have Hz : Hid ((start3 w t (.slice a t.items.length c)).heap.size = w.heap.size + 3) := hz
  clear hz
  go_enter Try.func10, Try.ntmps10
  go_wp2_with fail
  refine (functions_any _).mono ?_
  rintro e w1 ⟨rfl, rfl⟩
  go_wp2_with fail
  refine (rowF_yes (w.heap.size + 1 + 1) q (oneF q) _ hq (start3_row w t (.slice a t.items.length c) q hq)).mono ?_
  rintro e w1 ⟨rfl, hb⟩
  have hb : Below (start3 w t (.slice a t.items.length c)).heap.size (start3 w t (.slice a t.items.length c)) w1 := hb
  have hb1 : Below w.heap.size w w1 := HB.trans (hb.mono (by rw [Hz.out]; omega))
  have hsz : w.heap.size + 3 ≤ w1.heap.size := by have := hb.size; rw [Hz.out] at this; exact this
  have hb2 : Below w.heap.size w (w1.alloc (.cells #[fv (oneF q)] 54)) := hb1.alloc hb1.size _
  have HR2 : Hid (Bx (w1.alloc (.cells #[fv (oneF q)] 54)) (w.heap.size + 1) zeroT (.slice none 0 0)) := (HR.out.keeps hb).keeps ((Grew.refl _).alloc _).below
  have HX2 : Hid (Bx (w1.alloc (.cells #[fv (oneF q)] 54)) w.heap.size t (.slice a t.items.length c)) := (HX.out.keeps hb).keeps ((Grew.refl _).alloc _).below
  have HF2 : Hid ((w1.alloc (.cells #[fv (oneF q)] 54)).cell? ⟨w1.heap.size, 0, none⟩ = some (fv (oneF q))) := by show _ = _; simp
  have hs2 : (w1.alloc (.cells #[fv (oneF q)] 54)).heap.size = w1.heap.size + 1 := by simp
  have HS2 : Hid ((w1.alloc (.cells #[fv (oneF q)] 54)).heap.size = w1.heap.size + 1) := hs2
  clear hb HR HX HB Hz hs2
  clear HX2 HF2 HL HS2
  rcases hn with hn | hn
  · obtain ⟨y0, y1, y2, y3, z0, z1, z2, z3⟩ := HR2.out
    have Hbx : Hid (Bx ((w1.alloc (.cells #[fv (oneF q)] 54)).setCells (w.heap.size + 1) 0 (encP (zeroT, .slice none 0 0))) (w.heap.size + 1) zeroT (.slice none 0 0)) := HR2.out.put (zeroT, .slice none 0 0)
    have Hbl : Hid (Below w.heap.size w ((w1.alloc (.cells #[fv (oneF q)] 54)).setCells (w.heap.size + 1) 0 (encP (zeroT, .slice none 0 0)))) := below_put hb2 (Nat.le_succ _) (zeroT, .slice none 0 0)
    go_wp2_with fail
    refine bodyPost_ret (v := .tuple #[.agg #[.int .i64 0, .int .i64 0, .string ⟨#[]⟩, .slice none 0 0], .int .i64 1]) ?_ rfl (vPost_nil Hbl.out)
    obtain ⟨q0, q1, q2, q3, _, _, _, _⟩ := Hbx.out
    simp only [encP, World.setCells, Nat.zero_add, Nat.reduceAdd] at q0 q1 q2 q3
    simp [results, Try.results10, go_sem, q0, q1, q2, q3]
  · have hn' : ¬ n < 0 := by omega
    obtain ⟨y0, y1, y2, y3, z0, z1, z2, z3⟩ := HR2.out
    have Hbx : Hid (Bx ((w1.alloc (.cells #[fv (oneF q)] 54)).setCells (w.heap.size + 1) 0 (encP (zeroT, .slice none 0 0))) (w.heap.size + 1) zeroT (.slice none 0 0)) := HR2.out.put (zeroT, .slice none 0 0)
    have Hbl : Hid (Below w.heap.size w ((w1.alloc (.cells #[fv (oneF q)] 54)).setCells (w.heap.size + 1) 0 (encP (zeroT, .slice none 0 0)))) := below_put hb2 (Nat.le_succ _) (zeroT, .slice none 0 0)
    go_wp2_with fail
    refine bodyPost_ret (v := .tuple #[.agg #[.int .i64 0, .int .i64 0, .string ⟨#[]⟩, .slice none 0 0], .int .i64 1]) ?_ rfl (vPost_nil Hbl.out)
    obtain ⟨q0, q1, q2, q3, _, _, _, _⟩ := Hbx.out
    simp only [encP, World.setCells, Nat.zero_add, Nat.reduceAdd] at q0 q1 q2 q3
    simp [results, Try.results10, go_sem, q0, q1, q2, q3]

set_option maxHeartbeats 2000000 in
theorem times_val (d : Nat) (q n : Nat) (t : VT) (u : Value) (w : World) (hu : Lies d w t.items u) (hs : t.text.size ≤ 9223372036854775807) (hq : q < 8) (hn : n ≤ 65536) (hr : rightV d t = false) :
    Calls Try.prog 10 #[.int .i64 q, .int .i64 n, .agg #[.int .i64 t.kind, .int .i64 t.num, .string t.text, u]] w (VPost nilT 3 w) := by
  have HE : Hid (rightV d t = false) := hr
  clear hr
  obtain ⟨a, c, rfl, _⟩ := Lies.slice hu
  have HL : Hid (Lies d w t.items (.slice a t.items.length c)) := hu
  clear hu
  have HB := start3_below w t (.slice a t.items.length c)
  have HR : Hid (Bx (start3 w t (.slice a t.items.length c)) (w.heap.size + 1) zeroT (.slice none 0 0)) := start3_res w t _
  have HX : Hid (Bx (start3 w t (.slice a t.items.length c)) w.heap.size t (.slice a t.items.length c)) := start3_box w t _
  have hz := start3_size w t (.slice a t.items.length c)
  have Hz : Hid ((start3 w t (.slice a t.items.length c)).heap.size = w.heap.size + 3) := hz
  clear hz
  go_enter Try.func10, Try.ntmps10
  go_wp2_with fail
  refine (functions_any _).mono ?_
  rintro e w1 ⟨rfl, rfl⟩
  go_wp2_with fail
  refine (rowF_yes (w.heap.size + 1 + 1) q (oneF q) _ hq (start3_row w t (.slice a t.items.length c) q hq)).mono ?_
  rintro e w1 ⟨rfl, hb⟩
  have hb : Below (start3 w t (.slice a t.items.length c)).heap.size (start3 w t (.slice a t.items.length c)) w1 := hb
  have hb1 : Below w.heap.size w w1 := HB.trans (hb.mono (by rw [Hz.out]; omega))
  have hsz : w.heap.size + 3 ≤ w1.heap.size := by have := hb.size; rw [Hz.out] at this; exact this
  have hb2 : Below w.heap.size w (w1.alloc (.cells #[fv (oneF q)] 54)) := hb1.alloc hb1.size _
  have HR2 : Hid (Bx (w1.alloc (.cells #[fv (oneF q)] 54)) (w.heap.size + 1) zeroT (.slice none 0 0)) := (HR.out.keeps hb).keeps ((Grew.refl _).alloc _).below
  have HX2 : Hid (Bx (w1.alloc (.cells #[fv (oneF q)] 54)) w.heap.size t (.slice a t.items.length c)) := (HX.out.keeps hb).keeps ((Grew.refl _).alloc _).below
  have HF2 : Hid ((w1.alloc (.cells #[fv (oneF q)] 54)).cell? ⟨w1.heap.size, 0, none⟩ = some (fv (oneF q))) := by show _ = _; simp
  have hs2 : (w1.alloc (.cells #[fv (oneF q)] 54)).heap.size = w1.heap.size + 1 := by simp
  have HS2 : Hid ((w1.alloc (.cells #[fv (oneF q)] 54)).heap.size = w1.heap.size + 1) := hs2
  clear hb HR HX HB Hz hs2
  have hn1 : ¬ (n : Int) < 0 := by omega
  have hn2 : ¬ 65536 < (n : Int) := by omega
  obtain ⟨x0, x1, x2, x3, _, _, _, _⟩ := HX2.out
  go_wp2_with fail
  refine (check_any d t _ _ (Lies.keeps hb2 _ _ _ HL.out) hs).mono ?_
  rintro e w2 ⟨rfl, hb⟩
  have he : errOf (rightV d t) = 3 := by rw [HE.out]; rfl
  rw [he]
  have hb3 : Below w.heap.size w w2 := hb2.trans (hb.mono hb2.size)
  have HR3 : Hid (Bx w2 (w.heap.size + 1) zeroT (.slice none 0 0)) := HR2.out.keeps hb
  clear hb HR2 x0 x1 x2 x3 HX2 HF2 HL hb2 he HS2 hsz hb1
  obtain ⟨y0, y1, y2, y3, z0, z1, z2, z3⟩ := HR3.out
  have Hbx : Hid (Bx (w2.setCells (w.heap.size + 1) 0 (encP (zeroT, .slice none 0 0))) (w.heap.size + 1) zeroT (.slice none 0 0)) := HR3.out.put (zeroT, .slice none 0 0)
  have Hbl : Hid (Below w.heap.size w (w2.setCells (w.heap.size + 1) 0 (encP (zeroT, .slice none 0 0)))) := below_put hb3 (Nat.le_succ _) (zeroT, .slice none 0 0)
  go_wp2_with fail
  refine bodyPost_ret (v := .tuple #[.agg #[.int .i64 0, .int .i64 0, .string ⟨#[]⟩, .slice none 0 0], .int .i64 3]) ?_ rfl (vPost_nil Hbl.out)
  obtain ⟨q0, q1, q2, q3, _, _, _, _⟩ := Hbx.out
  simp only [encP, World.setCells, Nat.zero_add, Nat.reduceAdd] at q0 q1 q2 q3
  simp [results, Try.results10, go_sem, q0, q1, q2, q3]

end Go.Proofs.Ytjlhgekckbdpjaa
