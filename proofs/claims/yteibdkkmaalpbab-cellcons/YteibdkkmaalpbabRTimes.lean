/-
  The contracts of the document's Done, Times and One.
-/
import Derived.Test.YteibdkkmaalpbabTimes
import Derived.Deep.RegionHeld3
namespace Go.Proofs.Yteibdkkmaalpbab
open Go.RowKit

/-- What stands before a round: the value so far in its box, the result's cells, the row. -/
structure Turning (w wr : World) (N B f : Nat) (s : VT) (u : Value) : Prop where
  box : Bx wr N s u
  res : Bx wr (N + 1) zeroT (.slice none 0 0)
  row : wr.cell? ⟨B, 0, none⟩ = some (fv f)
  lies : LiesX (fun b => b ≠ N) 16 wr s.items u
  below : Below w.heap.size w wr
  size : N < wr.heap.size
  far : N + 1 < B

theorem Turning.next {w wr w1 : World} {N B f : Nat} {s s' : VT} {u u' : Value} (h : Turning w wr N B f s u) (hN : w.heap.size ≤ N) (hb : Below wr.heap.size wr w1) (hl : LiesX (fun b => b ≠ N ∨ wr.heap.size ≤ b) 16 w1 s'.items u') :
    Turning w (w1.setCells N 0 (encP (s', u'))) N B f s' u' := by
  have hsz := h.size
  have hfar := h.far
  refine ⟨(h.box.keeps hb).put (s', u'), (h.res.keeps hb).other (by omega) _, cell_other (show B ≠ N by omega) (cell_keeps hb h.row), ?_, below_put (h.below.trans (hb.mono h.below.size)) hN (s', u'), ?_, hfar⟩
  · exact (hl.mono (Y := fun b => b ≠ N) (fun b hb => by omega)).set (by simp)
  · rw [size_setCells]; have := hb.size; omega

theorem right_len_all {t : VT} (hr : rightV 16 t = true) : Len 16 t := by
  have h := hr
  simp only [rightV, Bool.and_eq_true] at h
  exact sm_len 16 t (fw_small 16 t 16 1024 (by omega) (by omega) h.1)

theorem copy_right (t : VT) (u : Value) (w : World) (hl : Lies 16 w t.items u) (hr : rightV 16 t = true) : Calls Try.prog 33 #[.agg #[.int .i64 t.kind, .int .i64 t.num, .string t.text, u]] w (CopyPost 16 t w) :=
  copyOf_any (fun s => s.size ≤ 281474976710656) txt_any 16 t u w hl (right_txt 16 t (right_rp hr)) (right_len_all hr)

set_option maxHeartbeats 4000000 in
theorem times_ok (q n : Nat) (t : VT) (u : Value) (w : World) (hu : Lies 16 w t.items u) (hs : t.text.size ≤ 9223372036854775807) (hq : q < 8) (hn : n ≤ 65536) (hr : rightV 16 t = true) :
    Calls Try.prog 24 #[.int .i64 q, .int .i64 n, .agg #[.int .i64 t.kind, .int .i64 t.num, .string t.text, u]] w (VPost (itT (doneT q) n t) 0 w) := by
  have HD : Hid (Dp 16 t) := Dp.of_lies 16 w t u hu
  have HE : Hid (rightV 16 t = true) := hr
  have HRt : Hid (∀ j, rightV 16 (itT (doneT q) j t) = true ∧ Dp 16 (itT (doneT q) j t)) := fun j => it_right q HE.out HD.out j
  have Hd : Hid (∀ (s : VT) (v : Value) (W : World), LiesX (fun b => b ≠ w.heap.size) 16 W s.items v → rightV 16 s = true → Calls Try.prog (oneF q) #[.agg #[.int .i64 s.kind, .int .i64 s.num, .string s.text, v]] W (FnPost (fun b => b ≠ w.heap.size) (doneT q s) W)) := fun s v W h1 h2 => done_any _ q hq s v W h1 h2
  have Hrow : Hid (∀ v, (start3 w t v).cell? ⟨w.heap.size + 2, q, none⟩ = some (fv (oneF q))) := fun v => start3_row w t v q hq
  have eg := oneF_enters q hq
  generalize oneF q = f at *
  generalize doneT q = D at *
  clear hr
  obtain ⟨a, c, rfl, _⟩ := Lies.slice hu
  have HL : Hid (Lies 16 w t.items (.slice a t.items.length c)) := hu
  clear hu
  have HB := start3_below w t (.slice a t.items.length c)
  have HR : Hid (Bx (start3 w t (.slice a t.items.length c)) (w.heap.size + 1) zeroT (.slice none 0 0)) := start3_res w t _
  have HX : Hid (Bx (start3 w t (.slice a t.items.length c)) w.heap.size t (.slice a t.items.length c)) := start3_box w t _
  have hz := start3_size w t (.slice a t.items.length c)
  have Hz : Hid ((start3 w t (.slice a t.items.length c)).heap.size = w.heap.size + 3) := hz
  clear hz
  go_enter Try.func24, Try.ntmps24
  go_wp2_with fail
  refine (functions_any _).mono ?_
  rintro e w1 ⟨rfl, rfl⟩
  go_wp2_with fail
  refine (rowF_yes (w.heap.size + 1 + 1) q f _ hq (Hrow.out _)).mono ?_
  rintro e w1 ⟨rfl, hb⟩
  have hb : Below (start3 w t (.slice a t.items.length c)).heap.size (start3 w t (.slice a t.items.length c)) w1 := hb
  have hb1 : Below w.heap.size w w1 := HB.trans (hb.mono (by rw [Hz.out]; omega))
  have hsz : w.heap.size + 3 ≤ w1.heap.size := by have := hb.size; rw [Hz.out] at this; exact this
  have hb2 : Below w.heap.size w (w1.alloc (.cells #[fv f] 78)) := hb1.alloc hb1.size _
  have HR2 : Hid (Bx (w1.alloc (.cells #[fv f] 78)) (w.heap.size + 1) zeroT (.slice none 0 0)) := (HR.out.keeps hb).keeps ((Grew.refl _).alloc _).below
  have HX2 : Hid (Bx (w1.alloc (.cells #[fv f] 78)) w.heap.size t (.slice a t.items.length c)) := (HX.out.keeps hb).keeps ((Grew.refl _).alloc _).below
  have HF2 : Hid ((w1.alloc (.cells #[fv f] 78)).cell? ⟨w1.heap.size, 0, none⟩ = some (fv f)) := by show _ = _; simp
  have hs2 : (w1.alloc (.cells #[fv f] 78)).heap.size = w1.heap.size + 1 := by simp
  have HS2 : Hid ((w1.alloc (.cells #[fv f] 78)).heap.size = w1.heap.size + 1) := hs2
  clear hb HR HX HB Hz hs2
  have hn1 : ¬ (n : Int) < 0 := by omega
  have hn2 : ¬ 65536 < (n : Int) := by omega
  have HLX : Hid (LiesX (fun b => b ≠ w.heap.size) 16 (w1.alloc (.cells #[fv f] 78)) t.items (.slice a t.items.length c)) := ((LiesX.of_lies HL.out).keeps hb2).mono (fun b hb => by omega)
  have HT0 : Hid (Turning w (w1.alloc (.cells #[fv f] 78)) w.heap.size w1.heap.size f t (.slice a t.items.length c)) := ⟨HX2.out, HR2.out, HF2.out, HLX.out, hb2, by rw [HS2.out]; omega, by omega⟩
  obtain ⟨x0, x1, x2, x3, _, _, _, _⟩ := HX2.out
  clear HR2 HX2 HF2 HLX HS2
  go_wp2_with fail
  refine (check_any 16 t _ _ (Lies.keeps hb2 _ _ _ HL.out) hs).mono ?_
  rintro e w2 ⟨rfl, hb⟩
  have he : errOf (rightV 16 t) = 0 := by rw [HE.out]; rfl
  rw [he]
  have HT1 : Hid (Turning w w2 w.heap.size w1.heap.size f t (.slice a t.items.length c)) := by
    have h := HT0.out
    exact ⟨h.box.keeps hb, h.res.keeps hb, cell_keeps hb h.row, h.lies.keeps hb, h.below.trans (hb.mono h.below.size), Nat.lt_of_lt_of_le h.size hb.size, h.far⟩
  clear hb HT0 x0 x1 x2 x3 hb2 he hb1 hsz
  generalize w1.heap.size = B at *
  go_wp2_with fail
  go_loopg [35] n (fun g i wr => ∃ (j : Nat) (s : VT) (v : Value), i = .int .i64 (j : Int) ∧ j ≤ n ∧ g = n - j ∧ Hid (s = itT D j t) ∧ Hid (Turning w wr w.heap.size B f s v))
  case atStart => exact ⟨0, t, _, rfl, by omega, by omega, rfl, HT1⟩
  case round =>
    obtain ⟨j, s, v, rfl, hj, hk, Hs, HT⟩ := hrel
    have Hk : Hid _ := hk
    clear hk HT1
    obtain ⟨av, cv, rfl, _⟩ := LiesX.slice HT.out.lies
    obtain ⟨x0, x1, x2, x3, k0, k1, k2, k3⟩ := HT.out.box
    have xr := HT.out.row
    by_cases hlt : j < n
    · go_wp2_with (go_at_fn f; refine (Hd.out s (.slice av s.items.length cv) _ HT.out.lies (by rw [Hs.out]; exact (HRt.out j).1)).mono ?_; rintro e w3 ⟨v', rfl, hl3, hb3⟩; fail)
      go_at_fn f
      refine (Hd.out s (.slice av s.items.length cv) _ HT.out.lies (by rw [Hs.out]; exact (HRt.out j).1)).mono ?_
      rintro e w3 ⟨v', rfl, hl3, hb3⟩
      have HT3 : Hid (Turning w (w3.setCells w.heap.size 0 (encP (D s, v'))) w.heap.size B f (D s) v') := HT.out.next (Nat.le_refl _) hb3 hl3
      obtain ⟨a3, c3, rfl, _⟩ := LiesX.slice hl3
      have HBx := HT.out.box.keeps hb3
      obtain ⟨x0, x1, x2, x3, k0, k1, k2, k3⟩ := HBx
      have Hs3 : Hid (D s = itT D (j + 1) t) := by show _ = _; rw [Hs.out]; rfl
      clear hl3 hb3 HT xr
      generalize D s = s' at *
      go_wp2_with fail
      go_roundg (n - (j + 1))
      case measure => have := Hk.out; omega
      case rel => exact ⟨j + 1, s', .slice a3 s'.items.length c3, by go_num, by omega, rfl, Hs3, HT3⟩
    · have hjn : j = n := by omega
      subst hjn
      go_wp2_with fail
      refine (copy_right s _ _ HT.out.lies.lies (by rw [Hs.out]; exact (HRt.out j).1)).mono ?_
      rintro e w3 ⟨v', rfl, hl3, hb3⟩
      have HR3 : Hid (Bx w3 (w.heap.size + 1) zeroT (.slice none 0 0)) := HT.out.res.keeps hb3
      have hbw : Below w.heap.size w w3 := HT.out.below.trans (hb3.mono HT.out.below.size)
      have hsz3 : w.heap.size + 1 < wr.heap.size := cell_lt HT.out.res.c0
      obtain ⟨a3, c3, rfl, _⟩ := LiesB.slice hl3
      obtain ⟨y0, y1, y2, y3, z0, z1, z2, z3⟩ := HR3.out
      have Hbx : Hid (Bx (w3.setCells (w.heap.size + 1) 0 (encP (s, .slice a3 s.items.length c3))) (w.heap.size + 1) s (.slice a3 s.items.length c3)) := HR3.out.put (s, .slice a3 s.items.length c3)
      have Hbl : Hid (Below w.heap.size w (w3.setCells (w.heap.size + 1) 0 (encP (s, .slice a3 s.items.length c3)))) := below_put hbw (Nat.le_succ _) (s, .slice a3 s.items.length c3)
      have Hfin : Hid (LiesX (fun b => w.heap.size ≤ b) 16 (w3.setCells (w.heap.size + 1) 0 (encP (s, .slice a3 s.items.length c3))) s.items (.slice a3 s.items.length c3)) := ((LiesX.of_b hl3).set (g := w.heap.size + 1) (by omega)).mono (fun b hb => by have := HT.out.size; omega)
      clear hl3 hb3 HT xr x0 x1 x2 x3 k0 k1 k2 k3
      go_wp2_with fail
      refine bodyPost_ret (v := .tuple #[.agg #[.int .i64 s.kind, .int .i64 s.num, .string s.text, .slice a3 s.items.length c3], .int .i64 0]) ?_ rfl (by rw [← Hs.out]; exact ⟨_, rfl, Hfin.out, Hbl.out⟩)
      obtain ⟨q0, q1, q2, q3, _, _, _, _⟩ := Hbx.out
      simp only [encP, World.setCells, Nat.zero_add, Nat.reduceAdd] at q0 q1 q2 q3
      simp [results, Try.results24, go_sem, q0, q1, q2, q3]

theorem times_any (d : Nat) (q n : Int) (t : VT) (u : Value) (w : World) (hu : Lies d w t.items u) (hs : t.text.size ≤ 9223372036854775807) :
    Calls Try.prog 24 #[.int .i64 q, .int .i64 n, .agg #[.int .i64 t.kind, .int .i64 t.num, .string t.text, u]] w (VPost (timesT d q n t) (timesE d q n t) w) := by
  unfold timesT
  by_cases hq : q < 0 ∨ 8 ≤ q
  · have e : timesE d q n t = 4 := by unfold timesE; rw [if_pos hq]
    rw [e]
    exact times_kind d q n t u w hu hq
  · obtain ⟨Q, hQ, hQ8⟩ : ∃ Q : Nat, q = Q ∧ Q < 8 := ⟨q.toNat, by omega, by omega⟩
    subst hQ
    by_cases hn : n < 0 ∨ 65536 < n
    · have e : timesE d Q n t = 1 := by unfold timesE; rw [if_neg hq, if_pos hn]
      rw [e]
      exact times_num d Q n t u w hu hQ8 hn
    · obtain ⟨K, hK, hK8⟩ : ∃ K : Nat, n = K ∧ K ≤ 65536 := ⟨n.toNat, by omega, by omega⟩
      subst hK
      cases hr : rightV d t
      · have e : timesE d Q K t = 3 := by unfold timesE; rw [if_neg hq, if_neg hn, hr]; rfl
        rw [e]
        exact times_val d Q K t u w hu hs hQ8 hK8 hr
      · have e : timesE d Q K t = 0 := by unfold timesE; rw [if_neg hq, if_neg hn, if_pos hr]
        rw [e]
        have hc := canon hu hr
        exact times_ok Q K t u w hc.1 hs hQ8 hK8 hc.2

end Go.Proofs.Yteibdkkmaalpbab

namespace Go.Proofs.Yteibdkkmaalpbab
open Go.RowKit

/-- What stands before a round. -/
structure RTurn (w wr : World) (N : Nat) (s : VT) (u : Value) : Prop where
  box : Bx wr N s u
  res : Bx wr (N + 1) zeroT (.slice none 0 0)
  lies : LiesX (fun b => b ≠ N ∧ b ≠ N + 1) 16 wr s.items u
  below : Below w.heap.size w wr

theorem RTurn.next {w wr w1 : World} {N : Nat} {s s' : VT} {u u' : Value} (h : RTurn w wr N s u) (hN : w.heap.size ≤ N) (hb : Below wr.heap.size wr w1) (hl : LiesX (fun b => (b ≠ N ∧ b ≠ N + 1) ∨ wr.heap.size ≤ b) 16 w1 s'.items u') :
    RTurn w (w1.setCells N 0 (encP (s', u'))) N s' u' := by
  have hsz : N + 1 < wr.heap.size := cell_lt h.res.c0
  refine ⟨(h.box.keeps hb).put (s', u'), (h.res.keeps hb).other (by omega) _, ?_, below_put (h.below.trans (hb.mono h.below.size)) hN (s', u')⟩
  exact (hl.mono (Y := fun b => b ≠ N ∧ b ≠ N + 1) (fun b hb => by omega)).set (by simp)

end Go.Proofs.Yteibdkkmaalpbab

