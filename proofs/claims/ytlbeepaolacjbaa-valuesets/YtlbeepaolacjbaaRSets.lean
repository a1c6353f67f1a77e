/-
  The contracts of the document's Set, List and Sort.
-/
import Derived.Test.YtlbeepaolacjbaaVSort
import Derived.Test.YtlbeepaolacjbaaTold
namespace Go.Proofs.Ytlbeepaolacjbaa
open Go.RowKit

theorem list_right (d : Nat) (l : List VT) (h : ∀ x ∈ l, rightV d x = true) : rightV (d + 1) (listT l) = (fw (d + 1) (listT l) 16 1024).1 := by
  have hall : (listT l).items.all (rpV d) = true := List.all_eq_true.2 fun x hx => right_rp (h x hx)
  have hown : ownV d (listT l) = true := by simp [ownV, okNum, okText, okItems, listT]
  have h1 : rpV (d + 1) (listT l) = true := by
    show ((listT l).items.all (rpV d) && ownV d (listT l)) = true
    rw [hall, hown]; rfl
  unfold rightV
  rw [h1, Bool.and_true]

theorem set_right' (d : Nat) (l : List VT) (hg : ∀ x ∈ l, Good d x) : rightV (d + 1) ⟨5, 0, ⟨#[]⟩, setM d l⟩ = (fw (d + 1) ⟨5, 0, ⟨#[]⟩, setM d l⟩ 16 1024).1 := by
  have hm := setM_members d l hg
  cases hf : (fw (d + 1) ⟨5, 0, ⟨#[]⟩, setM d l⟩ 16 1024).1
  · unfold rightV; rw [hf]; rfl
  · exact set_right d (setM d l) hm.strict (fun x hx => (hg x ((hm.mem x).1 hx)).1) hf

/-- A value and an error are told, and in which blocks. -/
def TellsX (X : Nat → Prop) (d : Nat) (a : VT × Int) (w : World) (e : Ending) (w' : World) : Prop :=
  ∃ v, e = .returned (.tuple #[.agg #[.int .i64 a.1.kind, .int .i64 a.1.num, .string a.1.text, v], .int .i64 a.2]) ∧ LiesX X d w' a.1.items v ∧ Below w.heap.size w w'

/-- The document's told, in one form. -/
theorem told_tells {X : Nat → Prop} {d : Nat} {t : VT} {w : World} {e : Ending} {w' : World} (h : ToldPost X d t w e w') : TellsX X d (if rightV d t = true then (t, 0) else (zeroT, 2)) w e w' := by
  obtain ⟨hb, ⟨hr, rfl⟩ | ⟨hr, v, rfl, hL⟩⟩ := h
  · rw [if_neg (by rw [hr]; simp)]
    exact ⟨.slice none 0 0, rfl, liesX_nil _ _ _ _ _, hb⟩
  · rw [if_pos hr]
    exact ⟨v, rfl, hL, hb⟩

set_option maxHeartbeats 4000000 in
theorem rlist_tells (d : Nat) (l : List VT) (u : Value) (w : World) (hu : Lies (d + 1) w l u) : Calls Try.prog 23 #[u] w (Tells (d + 1) (listA d l) w) := by
  obtain ⟨a, c, rfl, _⟩ := Lies.slice hu
  have HL : Hid (Lies (d + 1) w l (.slice a l.length c)) := hu
  have HLX : Hid (LiesX (fun b => b < w.heap.size) (d + 1) w l (.slice a l.length c)) := LiesX.of_lies hu
  have HK : Hid (Bx (w.alloc (.cells #[.int .i64 0, .int .i64 0, .string ⟨#[]⟩, .slice none 0 0] 24)) w.heap.size zeroT (.slice none 0 0)) := bx_alloc w zeroT _
  have hbz : Below w.heap.size w (w.alloc (.cells #[.int .i64 0, .int .i64 0, .string ⟨#[]⟩, .slice none 0 0] 24)) := ((Grew.refl w).alloc _).below
  clear hu
  by_cases herr : listErr d l = 0
  · have Herr : Hid (listErr d l = 0) := herr
    have Ha : Hid ((if rightV (d + 1) (listT l) = true then ((listT l, 0) : VT × Int) else (zeroT, 2)) = listA d l) := by
      show _ = _
      unfold listA
      rw [list_right d l (listErr_zero herr).2, if_neg (show ¬ (listErr d l ≠ 0) from fun h => h herr)]
    clear herr
    go_enter Try.func23, Try.ntmps23
    go_wp2_with fail
    refine (listed_any d l (.slice a l.length c) _ (Lies.keeps hbz _ _ _ HL.out)).mono ?_
    rintro e w1 ⟨rfl, hb⟩
    rw [Herr.out]
    have hb1 : Below w.heap.size w w1 := hbz.trans (hb.mono (by simp))
    have HK1 : Hid (Bx w1 w.heap.size zeroT (.slice none 0 0)) := HK.out.keeps hb
    clear hb HK hbz
    go_wp2_with fail
    refine (rtold_any (fun b => b ≠ w.heap.size ∧ b < w1.heap.size) (d + 1) (listT l) (.slice a l.length c) _ (fun b h => h.2) (HLX.out.keeps hb1 |>.mono (fun b (h : b < w.heap.size) => ⟨by omega, by have := hb1.size; omega⟩))).mono ?_
    intro e w2 ht
    have ht := told_tells ht
    rw [Ha.out] at ht
    obtain ⟨v, rfl, hL2, hb2⟩ := ht
    have hbw2 : Below w.heap.size w w2 := hb1.trans (hb2.mono hb1.size)
    have HK2 : Hid (Bx w2 w.heap.size zeroT (.slice none 0 0)) := HK1.out.keeps hb2
    clear hb2 HK1 Ha Herr
    generalize listA d l = A at *
    obtain ⟨t, n⟩ := A
    obtain ⟨av, cv, rfl, _⟩ := LiesX.slice hL2
    obtain ⟨y0, y1, y2, y3, z0, z1, z2, z3⟩ := HK2.out
    have Hbx : Hid (Bx (w2.setCells w.heap.size 0 (encP (t, .slice av t.items.length cv))) w.heap.size t (.slice av t.items.length cv)) := HK2.out.put (t, .slice av t.items.length cv)
    have Hbl : Hid (Below w.heap.size w (w2.setCells w.heap.size 0 (encP (t, .slice av t.items.length cv)))) := below_put hbw2 (Nat.le_refl _) (t, .slice av t.items.length cv)
    have HLx : Hid (LiesX (fun b => b ≠ w.heap.size) (d + 1) w2 t.items (.slice av t.items.length cv)) := hL2.mono (fun b h => h.1)
    have Hfin : Hid (Lies (d + 1) (w2.setCells w.heap.size 0 (encP (t, .slice av t.items.length cv))) t.items (.slice av t.items.length cv)) := (HLx.out.set (g := w.heap.size) (fun h => h rfl)).lies
    go_wp2_with fail
    refine bodyPost_ret (v := .tuple #[.agg #[.int .i64 t.kind, .int .i64 t.num, .string t.text, .slice av t.items.length cv], .int .i64 n]) ?_ rfl ⟨_, rfl, Hfin.out, Hbl.out⟩
    obtain ⟨q0, q1, q2, q3, _, _, _, _⟩ := Hbx.out
    simp only [encP, World.setCells, Nat.zero_add, Nat.reduceAdd] at q0 q1 q2 q3
    simp [results, Try.results23, go_sem, q0, q1, q2, q3]
  · have Ha : Hid (listA d l = (zeroT, listErr d l)) := by show _ = _; unfold listA; rw [if_pos herr]
    have hne : (listErr d l != 0) = true := by simpa using herr
    have HL0 := HL
    go_enter Try.func23, Try.ntmps23
    go_wp2_with fail
    refine (listed_any d l (.slice a l.length c) _ (Lies.keeps hbz _ _ _ HL.out)).mono ?_
    rintro e w1 ⟨rfl, hb⟩
    have hb1 : Below w.heap.size w w1 := hbz.trans (hb.mono (by simp))
    have HK1 : Hid (Bx w1 w.heap.size zeroT (.slice none 0 0)) := HK.out.keeps hb
    clear hb HK hbz
    obtain ⟨y0, y1, y2, y3, z0, z1, z2, z3⟩ := HK1.out
    have Hbx : Hid (Bx (w1.setCells w.heap.size 0 (encP (zeroT, .slice none 0 0))) w.heap.size zeroT (.slice none 0 0)) := HK1.out.put (zeroT, .slice none 0 0)
    have Hbl : Hid (Below w.heap.size w (w1.setCells w.heap.size 0 (encP (zeroT, .slice none 0 0)))) := below_put hb1 (Nat.le_refl _) (zeroT, .slice none 0 0)
    go_wp2_with fail
    refine bodyPost_ret (v := .tuple #[.agg #[.int .i64 0, .int .i64 0, .string ⟨#[]⟩, .slice none 0 0], .int .i64 (listErr d l)]) ?_ rfl (by rw [Ha.out]; exact tells_zero _ _ Hbl.out)
    obtain ⟨q0, q1, q2, q3, _, _, _, _⟩ := Hbx.out
    simp only [encP, World.setCells, Nat.zero_add, Nat.reduceAdd] at q0 q1 q2 q3
    simp [results, Try.results23, go_sem, q0, q1, q2, q3]
  
set_option maxHeartbeats 4000000 in
theorem rset_tells (d : Nat) (l : List VT) (u : Value) (w : World) (hu : Lies (d + 1) w l u) : Calls Try.prog 21 #[u] w (Tells (d + 1) (setA d l) w) := by
  have HG : Hid (listErr d l = 0 → l.length ≤ 65536 ∧ ∀ x ∈ l, Good d x) := fun h => ⟨(listErr_zero h).1, good_list hu (listErr_zero h).2⟩
  obtain ⟨a, c, rfl, _⟩ := Lies.slice hu
  have HL : Hid (Lies (d + 1) w l (.slice a l.length c)) := hu
  have HLX : Hid (LiesX (fun b => b < w.heap.size) (d + 1) w l (.slice a l.length c)) := LiesX.of_lies hu
  have HK : Hid (Bx (w.alloc (.cells #[.int .i64 0, .int .i64 0, .string ⟨#[]⟩, .slice none 0 0] 24)) w.heap.size zeroT (.slice none 0 0)) := bx_alloc w zeroT _
  have hbz : Below w.heap.size w (w.alloc (.cells #[.int .i64 0, .int .i64 0, .string ⟨#[]⟩, .slice none 0 0] 24)) := ((Grew.refl w).alloc _).below
  clear hu
  by_cases herr : listErr d l = 0
  · have Herr : Hid (listErr d l = 0) := herr
    have Ha : Hid ((if rightV (d + 1) ⟨5, 0, ⟨#[]⟩, setM d l⟩ = true then ((⟨5, 0, ⟨#[]⟩, setM d l⟩, 0) : VT × Int) else (zeroT, 2)) = setA d l) := by
      show _ = _
      unfold setA
      rw [set_right' d l (HG.out herr).2, if_neg (show ¬ (listErr d l ≠ 0) from fun h => h herr)]
    have Hlen : Hid (l.length ≤ 65536) := (HG.out herr).1
    obtain ⟨ps, hps, hpl, hsl⟩ := SlP.of_lies HL.out
    have HSP : Hid (SlP 0 d w ps (.slice a l.length c)) := hsl
    have HPX : Hid (∀ p ∈ ps, LiesX (fun b => b < w.heap.size) d w p.1.items p.2) := fun p hp => by
      obtain ⟨_, _, _, _, _, _, h4⟩ := HSP.out
      exact LiesX.of_lies (h4 p hp).1
    have HSo : Hid _ := fun (W : World) (h : SlP 0 d W ps (.slice a l.length c)) => rsorted_any d ps.length ps (.slice a l.length c) W h (by rw [hpl]; exact Hlen.out) (by omega)
    have HOn : Hid _ := fun (v : Value) (W : World) (h : SlP 0 d W (srt (ltQ d) (ps.length + 1) ps) v) => ronce_any d (srt (ltQ d) (ps.length + 1) ps) v W h (by rw [srt_len, hpl]; exact Hlen.out)
    have HM : Hid ((once (eqQ d) (srt (ltQ d) (ps.length + 1) ps)).map (·.1) = setM d l) := setM_of d ps l _ hps (by rw [hpl])
    have HMM : Hid (∀ p ∈ once (eqQ d) (srt (ltQ d) (ps.length + 1) ps), p ∈ ps) := fun p hp => srt_mem _ _ _ _ (once_mem _ _ _ hp)
    clear hps hpl hsl
    clear herr HG
    go_enter Try.func21, Try.ntmps21
    go_wp2_with fail
    refine (listed_any d l (.slice a l.length c) _ (Lies.keeps hbz _ _ _ HL.out)).mono ?_
    rintro e w1 ⟨rfl, hb⟩
    rw [Herr.out]
    have hb1 : Below w.heap.size w w1 := hbz.trans (hb.mono (by simp))
    have HK1 : Hid (Bx w1 w.heap.size zeroT (.slice none 0 0)) := HK.out.keeps hb
    clear hb HK hbz
    go_wp2_with fail
    refine (HSo.out _ (HSP.out.keeps hb1)).mono ?_
    rintro e w3 ⟨v3, rfl, hL3, hb3⟩
    have HL3 : Hid (SlP 0 d w3 (srt (ltQ d) (ps.length + 1) ps) v3) := hL3.mono (Nat.zero_le _)
    have hbw3 : Below w.heap.size w w3 := hb1.trans (hb3.mono hb1.size)
    have hsz3 : w.heap.size < w3.heap.size := by have h1 : w.heap.size < w1.heap.size := cell_lt HK1.out.c0; have := hb3.size; omega
    have HK3 : Hid (Bx w3 w.heap.size zeroT (.slice none 0 0)) := HK1.out.keeps hb3
    clear hL3 hb3 HK1 hb1
    go_wp2_with fail
    refine (HOn.out _ _ HL3.out).mono ?_
    rintro e w4 ⟨v4, rfl, hL4, hb4⟩
    obtain ⟨a4, c4, rfl, _⟩ := SlP.slice hL4
    generalize hn4 : (once (eqQ d) (srt (ltQ d) (ps.length + 1) ps)).length = n4 at *
    have hbw4 : Below w.heap.size w w4 := hbw3.trans (hb4.mono hbw3.size)
    have hs4 : w.heap.size ≤ w4.heap.size := hbw4.size
    have HL4 : Hid (LiesX (fun b => b ≠ w.heap.size ∧ b < w4.heap.size) (d + 1) w4 (setM d l) (.slice a4 n4 c4)) := by
      rw [← HM.out]
      exact SlP.liesX hL4 (fun b h1 h2 => ⟨by omega, h2⟩) (fun p hp => ((HPX.out p (HMM.out p hp)).keeps hbw4).mono (fun b (h : b < w.heap.size) => ⟨by omega, by omega⟩))
    have HK4 : Hid (Bx w4 w.heap.size zeroT (.slice none 0 0)) := HK3.out.keeps hb4
    clear hL4 hb4 HK3 hbw3 HSo HOn HL3 HM HMM HPX HSP
    go_wp2_with fail
    refine (rtold_any (fun b => b ≠ w.heap.size ∧ b < w4.heap.size) (d + 1) ⟨5, 0, ⟨#[]⟩, setM d l⟩ (.slice a4 n4 c4) _ (fun b h => h.2) HL4.out).mono ?_
    intro e w2 ht
    have ht := told_tells ht
    rw [Ha.out] at ht
    obtain ⟨v, rfl, hL2, hb2⟩ := ht
    have hbw2 : Below w.heap.size w w2 := hbw4.trans (hb2.mono hbw4.size)
    have HK2 : Hid (Bx w2 w.heap.size zeroT (.slice none 0 0)) := HK4.out.keeps hb2
    clear hb2 HK4 Ha Herr HL4
    generalize setA d l = A at *
    obtain ⟨t, n⟩ := A
    obtain ⟨av, cv, rfl, _⟩ := LiesX.slice hL2
    obtain ⟨y0, y1, y2, y3, z0, z1, z2, z3⟩ := HK2.out
    have Hbx : Hid (Bx (w2.setCells w.heap.size 0 (encP (t, .slice av t.items.length cv))) w.heap.size t (.slice av t.items.length cv)) := HK2.out.put (t, .slice av t.items.length cv)
    have Hbl : Hid (Below w.heap.size w (w2.setCells w.heap.size 0 (encP (t, .slice av t.items.length cv)))) := below_put hbw2 (Nat.le_refl _) (t, .slice av t.items.length cv)
    have HLx : Hid (LiesX (fun b => b ≠ w.heap.size) (d + 1) w2 t.items (.slice av t.items.length cv)) := hL2.mono (fun b h => h.1)
    have Hfin : Hid (Lies (d + 1) (w2.setCells w.heap.size 0 (encP (t, .slice av t.items.length cv))) t.items (.slice av t.items.length cv)) := (HLx.out.set (g := w.heap.size) (fun h => h rfl)).lies
    go_wp2_with fail
    refine bodyPost_ret (v := .tuple #[.agg #[.int .i64 t.kind, .int .i64 t.num, .string t.text, .slice av t.items.length cv], .int .i64 n]) ?_ rfl ⟨_, rfl, Hfin.out, Hbl.out⟩
    obtain ⟨q0, q1, q2, q3, _, _, _, _⟩ := Hbx.out
    simp only [encP, World.setCells, Nat.zero_add, Nat.reduceAdd] at q0 q1 q2 q3
    simp [results, Try.results21, go_sem, q0, q1, q2, q3]
  · have Ha : Hid (setA d l = (zeroT, listErr d l)) := by show _ = _; unfold setA; rw [if_pos herr]
    have hne : (listErr d l != 0) = true := by simpa using herr
    have HL0 := HL
    go_enter Try.func21, Try.ntmps21
    go_wp2_with fail
    refine (listed_any d l (.slice a l.length c) _ (Lies.keeps hbz _ _ _ HL.out)).mono ?_
    rintro e w1 ⟨rfl, hb⟩
    have hb1 : Below w.heap.size w w1 := hbz.trans (hb.mono (by simp))
    have HK1 : Hid (Bx w1 w.heap.size zeroT (.slice none 0 0)) := HK.out.keeps hb
    clear hb HK hbz
    obtain ⟨y0, y1, y2, y3, z0, z1, z2, z3⟩ := HK1.out
    have Hbx : Hid (Bx (w1.setCells w.heap.size 0 (encP (zeroT, .slice none 0 0))) w.heap.size zeroT (.slice none 0 0)) := HK1.out.put (zeroT, .slice none 0 0)
    have Hbl : Hid (Below w.heap.size w (w1.setCells w.heap.size 0 (encP (zeroT, .slice none 0 0)))) := below_put hb1 (Nat.le_refl _) (zeroT, .slice none 0 0)
    go_wp2_with fail
    refine bodyPost_ret (v := .tuple #[.agg #[.int .i64 0, .int .i64 0, .string ⟨#[]⟩, .slice none 0 0], .int .i64 (listErr d l)]) ?_ rfl (by rw [Ha.out]; exact tells_zero _ _ Hbl.out)
    obtain ⟨q0, q1, q2, q3, _, _, _, _⟩ := Hbx.out
    simp only [encP, World.setCells, Nat.zero_add, Nat.reduceAdd] at q0 q1 q2 q3
    simp [results, Try.results21, go_sem, q0, q1, q2, q3]

set_option maxHeartbeats 4000000 in
theorem rsort_tells (d : Nat) (l : List VT) (u : Value) (w : World) (hu : Lies (d + 1) w l u) : Calls Try.prog 25 #[u] w fun e w' => ∃ v, e = .returned (.tuple #[v, .int .i64 (sortA d l).2]) ∧ Lies (d + 1) w' (sortA d l).1 v ∧ Below w.heap.size w w' := by
  obtain ⟨a, c, rfl, _⟩ := Lies.slice hu
  have HL : Hid (Lies (d + 1) w l (.slice a l.length c)) := hu
  clear hu
  by_cases herr : listErr d l = 0
  · have Ha : Hid (sortA d l = (sortT d l, 0)) := by show _ = _; unfold sortA; rw [if_neg (fun h => h herr)]
    have Hlen : Hid (l.length ≤ 65536) := (listErr_zero herr).1
    have Herr : Hid (listErr d l = 0) := herr
    obtain ⟨ps, hps, hpl, hsl⟩ := SlP.of_lies HL.out
    have HSP : Hid (SlP 0 d w ps (.slice a l.length c)) := hsl
    have HSo : Hid _ := fun (W : World) (h : SlP 0 d W ps (.slice a l.length c)) => rsorted_any d ps.length ps (.slice a l.length c) W h (by rw [hpl]; exact Hlen.out) (by omega)
    have HM : Hid ((srt (ltQ d) (ps.length + 1) ps).map (·.1) = sortT d l) := sort_fst d ps l _ hps (by rw [hpl])
    clear herr hps hpl hsl
    go_enter Try.func25, Try.ntmps25
    go_wp2_with fail
    refine (listed_any d l (.slice a l.length c) _ HL.out).mono ?_
    rintro e w1 ⟨rfl, hb1⟩
    rw [Herr.out]
    go_wp2_with fail
    refine (HSo.out _ (HSP.out.keeps hb1)).mono ?_
    rintro e w3 ⟨v3, rfl, hL3, hb3⟩
    have HL3 : Hid (Lies (d + 1) w3 (sortT d l) v3) := by rw [← HM.out]; exact hL3.lies
    have hbw3 : Below w.heap.size w w3 := hb1.trans (hb3.mono hb1.size)
    clear hL3 hb3
    obtain ⟨av, cv, rfl, _⟩ := Lies.slice HL3.out
    go_wp2_with fail
    refine bodyPost_ret (v := .tuple #[.slice av (sortT d l).length cv, .int .i64 0]) (by simp [results, Try.results25, go_sem]) rfl ?_
    rw [Ha.out]
    exact ⟨_, rfl, HL3.out, hbw3⟩
  · have Ha : Hid (sortA d l = ([], listErr d l)) := by show _ = _; unfold sortA; rw [if_pos herr]
    have hne : (listErr d l != 0) = true := by simpa using herr
    go_enter Try.func25, Try.ntmps25
    go_wp2_with fail
    refine (listed_any d l (.slice a l.length c) _ HL.out).mono ?_
    rintro e w1 ⟨rfl, hb1⟩
    go_wp2_with fail
    refine bodyPost_ret (v := .tuple #[.slice none 0 0, .int .i64 (listErr d l)]) (by simp [results, Try.results25, go_sem]) rfl ?_
    rw [Ha.out]
    exact ⟨_, rfl, lies_nil _ _, hb1⟩

end Go.Proofs.Ytlbeepaolacjbaa
