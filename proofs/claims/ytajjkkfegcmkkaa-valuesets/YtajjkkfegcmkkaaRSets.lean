/-
  The contracts of the document's Set, List and Sort.
-/
import Derived.Test.YtajjkkfegcmkkaaSetH
import Derived.Test.YtajjkkfegcmkkaaROnce
import Derived.Test.YtajjkkfegcmkkaaMade
import Derived.Test.YtajjkkfegcmkkaaLiesX
import Derived.Test.YtajjkkfegcmkkaaTold
namespace Go.Proofs.Ytajjkkfegcmkkaa
open Go.RowKit

/-- A list sorted. -/
def sortT (d : Nat) (l : List VT) : List VT := srt (ltV d) (l.length + 1) l

theorem ltV_as (d : Nat) (a b : VT) (h : ltV d a b = true) : ltV d b a = false := by
  have h1 : cmpV d a b < 0 := of_decide_eq_true h
  have := cmpV_turn d a b
  exact decide_eq_false (by omega)

theorem ltV_tr (d : Nat) (a b c : VT) (h1 : ltV d b a = false) (h2 : ltV d c b = false) : ltV d c a = false := by
  have k1 : ¬ cmpV d b a < 0 := of_decide_eq_false h1
  have k2 : ¬ cmpV d c b < 0 := of_decide_eq_false h2
  have t1 := cmpV_turn d a b
  have t2 := cmpV_turn d b c
  have t3 := cmpV_turn d a c
  have := (goes_V d a b c (by omega) (by omega)).1
  exact decide_eq_false (by omega)

theorem sortT_up (d : Nat) (l : List VT) : Up (ltV d) (sortT d l) := srt_up (ltV d) (ltV_as d) (ltV_tr d) _ l (by omega)

theorem up_rises {d : Nat} {l : List VT} (h : l.Pairwise fun x y => cmpV d x y ≤ 0) : Up (ltV d) l :=
  List.Pairwise.imp (fun {a b} hab => decide_eq_false (by have := cmpV_turn d a b; omega)) h

theorem rises_up {d : Nat} {l : List VT} (h : Up (ltV d) l) : l.Pairwise fun x y => cmpV d x y ≤ 0 :=
  List.Pairwise.imp (fun {a b} hab => by
    have k : ¬ cmpV d b a < 0 := of_decide_eq_false hab
    have := cmpV_turn d a b
    omega) h

/-- Two lists of the same right values that go up are one. -/
theorem up_oneV (d : Nat) : ∀ (l m : List VT), l.Perm m → (∀ x ∈ l, Good d x) → Up (ltV d) l → Up (ltV d) m → l = m := by
  intro l
  induction l with
  | nil => intro m hp _ _ _; exact hp.nil_eq
  | cons x l ih =>
    intro m hp hg hl hm
    cases m with
    | nil => exact absurd hp.length_eq (by simp)
    | cons y m =>
      obtain ⟨hl1, hl2⟩ := List.pairwise_cons.1 hl
      obtain ⟨hm1, hm2⟩ := List.pairwise_cons.1 hm
      have hx : x ∈ y :: m := hp.subset List.mem_cons_self
      have hy : y ∈ x :: l := hp.symm.subset List.mem_cons_self
      have hself : ∀ a, ltV d a a = false := fun a => decide_eq_false (by have := cmpV_self d a; omega)
      have h1 : ltV d x y = false := by
        rcases List.mem_cons.1 hx with rfl | h
        · exact hself _
        · exact hm1 x h
      have h2 : ltV d y x = false := by
        rcases List.mem_cons.1 hy with rfl | h
        · exact hself _
        · exact hl1 y h
      have k1 : ¬ cmpV d x y < 0 := of_decide_eq_false h1
      have k2 : ¬ cmpV d y x < 0 := of_decide_eq_false h2
      have k3 := cmpV_turn d x y
      have e : x = y := good_eq (hg x List.mem_cons_self) (hg y hy) (by omega)
      subst e
      rw [ih m (List.Perm.cons_inv hp) (fun z hz => hg z (List.mem_cons_of_mem _ hz)) hl2 hm2]

theorem good_list {d : Nat} {w : World} {l : List VT} {u : Value} (hu : Lies (d + 1) w l u) (h : ∀ x ∈ l, rightV d x = true) : ∀ x ∈ l, Good d x := by
  intro x hx
  obtain ⟨a, c, rfl, _, ps, hps, hsd, _⟩ := Lies.row hu
  have hr := h x hx
  rw [← hps] at hx
  obtain ⟨p, hp, rfl⟩ := List.mem_map.1 hx
  exact ⟨hr, lies_dp d w p.1 p.2 (hsd p hp).1⟩

/-- A value with no place of its own. -/
def bare (t : VT) : PR := (t, .slice none 0 0)

/-- The document's set of a list. -/
def setM (d : Nat) (l : List VT) : List VT := (once (eqQ d) ((sortT d l).map bare)).map (·.1)

theorem setM_members (d : Nat) (l : List VT) (hg : ∀ x ∈ l, Good d x) : Members d l (setM d l) := by
  have hp : ((sortT d l).map bare).Perm (l.map bare) := (srt_perm _ _ _).map bare
  have hm : (l.map bare).map (·.1) = l := by rw [List.map_map]; exact List.map_id l
  refine (once_members d l (l.map bare) ((sortT d l).map bare) hm hg hp ?_).1
  rw [List.pairwise_map]
  exact rises_up (sortT_up d l)

theorem onceFrom_fst (d : Nat) : ∀ (l m : List PR) (p q : PR), p.1 = q.1 → l.map (·.1) = m.map (·.1) → (onceFrom (eqQ d) p l).map (·.1) = (onceFrom (eqQ d) q m).map (·.1) := by
  intro l
  induction l with
  | nil =>
    intro m p q _ h
    have : m = [] := by cases m with
      | nil => rfl
      | cons _ _ => simp at h
    subst this
    rfl
  | cons x l ih =>
    intro m p q hpq h
    cases m with
    | nil => simp at h
    | cons y m =>
      simp only [List.map_cons, List.cons.injEq] at h
      unfold onceFrom
      have e : eqQ d p x = eqQ d q y := by unfold eqQ; rw [hpq, h.1]
      rw [e]
      split
      · exact ih m p q hpq h.2
      · simp only [List.map_cons, List.cons.injEq]
        exact ⟨h.1, ih m x y h.1 h.2⟩

theorem once_fst (d : Nat) (l m : List PR) (h : l.map (·.1) = m.map (·.1)) : (once (eqQ d) l).map (·.1) = (once (eqQ d) m).map (·.1) := by
  cases l with
  | nil =>
    cases m with
    | nil => rfl
    | cons _ _ => simp at h
  | cons x l =>
    cases m with
    | nil => simp at h
    | cons y m =>
      simp only [List.map_cons, List.cons.injEq] at h
      show x.1 :: _ = y.1 :: _
      rw [h.1, onceFrom_fst d l m x y h.1 h.2]

theorem sort_fst (d : Nat) (ps : List PR) (l : List VT) (n : Nat) (h : ps.map (·.1) = l) (hn : n = l.length + 1) : (srt (ltQ d) n ps).map (·.1) = sortT d l := by
  rw [srt_map (·.1) (ltQ d) (ltV d) (fun _ => True) (fun _ _ _ _ => rfl) n ps (fun _ _ => trivial), h, hn]
  rfl

theorem setM_of (d : Nat) (ps : List PR) (l : List VT) (n : Nat) (h : ps.map (·.1) = l) (hn : n = l.length + 1) : (once (eqQ d) (srt (ltQ d) n ps)).map (·.1) = setM d l := by
  refine once_fst d _ _ ?_
  rw [sort_fst d ps l n h hn, List.map_map]
  exact (List.map_id _).symm

/-- In which blocks a slice of values lies. -/
theorem SlP.liesX {X : Nat → Prop} {base d : Nat} {w : World} {ps : List PR} {v : Value} (h : SlP base d w ps v) (hb : ∀ b, base ≤ b → b < w.heap.size → X b) (hp : ∀ p ∈ ps, LiesX X d w p.1.items p.2) : LiesX X (d + 1) w (ps.map (·.1)) v := by
  obtain ⟨a, c, rfl, h1, h2, h3, h4⟩ := h
  refine ⟨a, c, by rw [List.length_map], by rw [List.length_map]; exact ⟨h1, h2⟩, fun hne => ?_⟩
  obtain ⟨b, o, ha, hbb, hr⟩ := h3 (fun e => hne (by rw [e]; rfl))
  have hlen : 0 < ps.length := by
    cases ps with
    | nil => exact absurd rfl hne
    | cons _ _ => simp
  have hblt : b < w.heap.size := cell_lt (hr 0 hlen).1
  refine ⟨b, o, ha, hb b hbb hblt, fun i hi => ?_⟩
  rw [List.length_map] at hi
  obtain ⟨p0, p1, p2, p3⟩ := hr i hi
  refine ⟨ps[i].2, ?_⟩
  rw [List.getElem_map]
  exact ⟨p0, p1, p2, p3, hp _ (List.getElem_mem hi), (h4 _ (List.getElem_mem hi)).2⟩

/-- What a list's set, list, and sorting tell. -/
def setA (d : Nat) (l : List VT) : VT × Int :=
  if listErr d l ≠ 0 then (zeroT, listErr d l) else if (fw (d + 1) ⟨5, 0, ⟨#[]⟩, setM d l⟩ 16 1024).1 = true then (⟨5, 0, ⟨#[]⟩, setM d l⟩, 0) else (zeroT, 2)
def listA (d : Nat) (l : List VT) : VT × Int :=
  if listErr d l ≠ 0 then (zeroT, listErr d l) else if (fw (d + 1) (listT l) 16 1024).1 = true then (listT l, 0) else (zeroT, 2)
def sortA (d : Nat) (l : List VT) : List VT × Int :=
  if listErr d l ≠ 0 then ([], listErr d l) else (sortT d l, 0)

/-- A value and an error are told. -/
def Tells (d : Nat) (a : VT × Int) (w : World) (e : Ending) (w' : World) : Prop :=
  ∃ v, e = .returned (.tuple #[.agg #[.int .i64 a.1.kind, .int .i64 a.1.num, .string a.1.text, v], .int .i64 a.2]) ∧ Lies d w' a.1.items v ∧ Below w.heap.size w w'

theorem tells_zero (d : Nat) (n : Int) {w w' : World} (h : Below w.heap.size w w') : Tells d (zeroT, n) w (.returned (.tuple #[zeroAgg, .int .i64 n])) w' :=
  ⟨.slice none 0 0, rfl, lies_nil d w', h⟩

theorem vset_tells (d : Nat) (l : List VT) (a : Option Addr) (c : Nat) (w : World) (hu : Lies (d + 1) w l (.slice a l.length c)) : Calls Try.prog 20 #[.slice a l.length c] w (Tells (d + 1) (setA d l) w) := by
  refine (set_any d l a c w hu).mono ?_
  rintro e w' ⟨hb, ⟨h0, rfl⟩ | ⟨h0, m, hm, ⟨hf, rfl⟩ | ⟨hf, v, rfl, hL⟩⟩⟩
  · unfold setA
    rw [if_pos h0]
    exact tells_zero _ _ hb
  · have hme := members_one hm (setM_members d l (good_list hu (listErr_zero h0).2)) (fun x => Iff.rfl)
    unfold setA
    rw [if_neg (fun h => h h0), ← hme, if_neg (by rw [hf]; simp)]
    exact tells_zero _ _ hb
  · have hme := members_one hm (setM_members d l (good_list hu (listErr_zero h0).2)) (fun x => Iff.rfl)
    unfold setA
    rw [if_neg (fun h => h h0), ← hme, if_pos hf]
    exact ⟨v, rfl, hL, hb⟩

theorem vlist_tells (d : Nat) (l : List VT) (u : Value) (w : World) (hu : Lies (d + 1) w l u) : Calls Try.prog 22 #[u] w (Tells (d + 1) (listA d l) w) := by
  refine (vlist_any d l u w hu).mono ?_
  rintro e w' ⟨hb, ⟨h0, rfl⟩ | ⟨h0, ⟨hf, rfl⟩ | ⟨hf, v, rfl, hL⟩⟩⟩
  · unfold listA
    rw [if_pos h0]
    exact tells_zero _ _ hb
  · unfold listA
    rw [if_neg (fun h => h h0), if_neg (by rw [hf]; simp)]
    exact tells_zero _ _ hb
  · unfold listA
    rw [if_neg (fun h => h h0), if_pos hf]
    exact ⟨v, rfl, LiesB.lies _ _ _ hL, hb⟩

theorem right_lenD {d : Nat} {t : VT} (h : rightV d t = true) : Len d t := by
  simp only [rightV, Bool.and_eq_true] at h
  exact sm_len d t (fw_small d t 16 1024 (by omega) (by omega) h.1)

/-- A list and an error are told. -/
def TellsL (d : Nat) (a : List VT × Int) (w : World) (e : Ending) (w' : World) : Prop :=
  ∃ v, e = .returned (.tuple #[v, .int .i64 a.2]) ∧ LiesB w.heap.size (d + 1) w' a.1 v ∧ Below w.heap.size w w'

/-- The program's sorted, at any right list. -/
theorem sortedV (d : Nat) (l : List VT) (a : Option Addr) (c : Nat) (W : World) (hu : Lies (d + 1) W l (.slice a l.length c)) (hlen : l.length ≤ 65536) (hright : ∀ x ∈ l, rightV d x = true) :
    Calls Try.prog 49 #[.slice a l.length c] W fun e W' => ∃ a' c', e = .returned (.slice a' (sortT d l).length c') ∧ Lies (d + 1) W' (sortT d l) (.slice a' (sortT d l).length c') ∧ Below W.heap.size W W' := by
  by_cases hne : l = []
  · subst hne
    refine (sorted_none a c W).mono fun e W1 hh => ?_
    obtain ⟨a', c', he, hb1⟩ := hh
    have e0 : sortT d [] = [] := by unfold sortT; rw [List.length_nil]; unfold srt; simp
    rw [e0]
    exact ⟨a', c', he, ⟨a', c', rfl, by simp, fun h => absurd rfl h⟩, hb1⟩
  · obtain ⟨a0, c0, hv, _, ps, hps, hsd, hrow⟩ := Lies.row hu
    obtain ⟨b, o, ha, hr⟩ := hrow hne
    have e1 : ps.length = l.length := by rw [← hps, List.length_map]
    have hv' : (Value.slice a l.length c) = .slice (some ⟨b, o, none⟩) ps.length c := by
      have := hv
      simp only [Value.slice.injEq] at this
      rw [this.1, ha, e1]
    rw [hv']
    have hpne : ps ≠ [] := fun e => hne (by rw [← hps, e]; rfl)
    refine (sorted_some d b o c ps W hr hsd hpne (by omega)).mono fun e W1 hh => ?_
    obtain ⟨g, cap, qs, he, hp, hri, hrow1, hfz, hg, hcap, hlt, hb1⟩ := hh
    have hql : qs.length = ps.length := hp.length_eq
    have hgood : ∀ x ∈ l, Good d x := good_list hu hright
    have hqp : (qs.map (·.1)).Perm l := by rw [← hps]; exact hp.map _
    have hqe : qs.map (·.1) = sortT d l := up_oneV d _ _ (hqp.trans (srt_perm _ _ _).symm) (fun x hx => hgood x (hqp.mem_iff.1 hx)) (up_rises (by rw [List.pairwise_map]; exact hri)) (sortT_up d l)
    have hsl : (sortT d l).length = ps.length := by rw [← hqe, List.length_map, hql]
    have hL := lies_of_row (d := d) (c := cap) hrow1 (fun p hpq => (hsd p (hp.mem_iff.1 hpq)).keeps hb1) (by omega) (by omega)
    rw [hqe, hql, ← hsl] at hL
    exact ⟨_, cap, by rw [he, hsl], hL, hb1⟩

set_option maxHeartbeats 4000000 in
theorem vsort_tells (d : Nat) (l : List VT) (a : Option Addr) (c : Nat) (w : World) (hu : Lies (d + 1) w l (.slice a l.length c)) : Calls Try.prog 24 #[.slice a l.length c] w (TellsL d (sortA d l) w) := by
  have HL : Hid (Lies (d + 1) w l (.slice a l.length c)) := hu
  clear hu
  by_cases herr : listErr d l = 0
  · have Ha : Hid (sortA d l = (sortT d l, 0)) := by show _ = _; unfold sortA; rw [if_neg (fun h => h herr)]
    obtain ⟨hlen, hright⟩ := listErr_zero herr
    have HG : Hid (l.length ≤ 65536 ∧ ∀ x ∈ l, rightV d x = true) := ⟨hlen, hright⟩
    have Herr : Hid (listErr d l = 0) := herr
    clear herr hright
    go_enter Try.func24, Try.ntmps24
    go_wp2_with fail
    refine (checkList_any d l (.slice a l.length c) _ HL.out).mono ?_
    rintro e w1 ⟨rfl, hb1⟩
    rw [Herr.out]
    go_wp2_with fail
    refine (sortedV d l a c _ (Lies.keeps hb1 _ _ _ HL.out) HG.out.1 HG.out.2).mono ?_
    rintro e w2 ⟨a2, c2, rfl, hL2, hb2⟩
    have HL2 : Hid (Lies (d + 1) w2 (sortT d l) (.slice a2 (sortT d l).length c2)) := hL2
    have hbw2 : Below w.heap.size w w2 := hb1.trans (hb2.mono hb1.size)
    have Hsl : Hid ((sortT d l).length ≤ 65536 ∧ ∀ x ∈ sortT d l, rightV d x = true) := ⟨by unfold sortT; rw [srt_len]; exact HG.out.1, fun x hx => HG.out.2 x (srt_mem _ _ _ _ hx)⟩
    clear hL2 hb2
    generalize sortT d l = S at *
    go_wp2_with fail
    refine (copyAll_core d S _ _ HL2.out Hsl.out.1 (fun x v W hx hLx hts => copyOf_any (fun s => s.size ≤ 281474976710656) (fun s W h => txt_any s W h) d x v W hLx (right_txt d x (right_rp (Hsl.out.2 x hx))) (right_lenD (Hsl.out.2 x hx)))).mono ?_
    rintro e w3 ⟨v, rfl, hL3, hb3⟩
    obtain ⟨av, cv, rfl, _⟩ := LiesB.slice hL3
    have HL3 : Hid (LiesB w.heap.size (d + 1) w3 S (.slice av S.length cv)) := LiesB.lower hbw2.size _ _ _ hL3
    have hbw3 : Below w.heap.size w w3 := hbw2.trans (hb3.mono hbw2.size)
    clear hL3 hb3
    go_wp2_with fail
    refine bodyPost_ret (v := .tuple #[.slice av S.length cv, .int .i64 0]) (by simp [results, Try.results24, go_sem]) rfl ?_
    rw [Ha.out]
    exact ⟨_, rfl, HL3.out, hbw3⟩
  · have Ha : Hid (sortA d l = ([], listErr d l)) := by show _ = _; unfold sortA; rw [if_pos herr]
    have hne : (listErr d l != 0) = true := by simpa using herr
    go_enter Try.func24, Try.ntmps24
    go_wp2_with fail
    refine (checkList_any d l (.slice a l.length c) _ HL.out).mono ?_
    rintro e w1 ⟨rfl, hb1⟩
    go_wp2_with fail
    refine bodyPost_ret (v := .tuple #[.slice none 0 0, .int .i64 (listErr d l)]) (by simp [results, Try.results24, go_sem]) rfl ?_
    rw [Ha.out]
    exact ⟨_, rfl, ⟨none, 0, rfl, by simp, fun h => absurd rfl h⟩, hb1⟩

end Go.Proofs.Ytajjkkfegcmkkaa

namespace Go.Proofs.Ytajjkkfegcmkkaa
open Go.RowKit

theorem list_rightS (d : Nat) (l : List VT) (h : ∀ x ∈ l, rightV d x = true) : rightV (d + 1) (listT l) = (fw (d + 1) (listT l) 16 1024).1 := by
  have hall : (listT l).items.all (rpV d) = true := List.all_eq_true.2 fun x hx => right_rp (h x hx)
  have hown : ownV d (listT l) = true := by simp [ownV, okNum, okText, okItems, listT]
  have h1 : rpV (d + 1) (listT l) = true := by
    show ((listT l).items.all (rpV d) && ownV d (listT l)) = true
    rw [hall, hown]; rfl
  unfold rightV
  rw [h1, Bool.and_true]

theorem set_right' (d : Nat) (l : List VT) (hg : ∀ x ∈ l, Good d x) : rightV (d + 1) ⟨5, 0, ⟨#[]⟩, setM d l⟩ = (fw (d + 1) ⟨5, 0, ⟨#[]⟩, setM d l⟩ 16 1024).1 := by
  have hm := setM_members d l hg
  cases hf : (fw (d + 1) ⟨5, 0, ⟨#[]⟩, setM d l⟩ 16 1024).1
  · unfold rightV; rw [hf]; rfl
  · exact set_right d (setM d l) hm.strict (fun x hx => (hg x ((hm.mem x).1 hx)).1) hf

/-- A value and an error are told, and in which blocks. -/
def TellsX (X : Nat → Prop) (d : Nat) (a : VT × Int) (w : World) (e : Ending) (w' : World) : Prop :=
  ∃ v, e = .returned (.tuple #[.agg #[.int .i64 a.1.kind, .int .i64 a.1.num, .string a.1.text, v], .int .i64 a.2]) ∧ LiesX X d w' a.1.items v ∧ Below w.heap.size w w'

/-- The document's told, in one form. -/
theorem told_tells {X : Nat → Prop} {d : Nat} {t : VT} {w : World} {e : Ending} {w' : World} (h : ToldPost X d t w e w') : TellsX X d (if rightV d t = true then (t, 0) else (zeroT, 2)) w e w' := by
  obtain ⟨hb, ⟨hr, rfl⟩ | ⟨hr, v, rfl, hL⟩⟩ := h
  · rw [if_neg (by rw [hr]; simp)]
    exact ⟨.slice none 0 0, rfl, liesX_nil _ _ _ _ _, hb⟩
  · rw [if_pos hr]
    exact ⟨v, rfl, hL, hb⟩

set_option maxHeartbeats 4000000 in
theorem rlist_tells (d : Nat) (l : List VT) (u : Value) (w : World) (hu : Lies (d + 1) w l u) : Calls Try.prog 23 #[u] w (Tells (d + 1) (listA d l) w) := by
  obtain ⟨a, c, rfl, _⟩ := Lies.slice hu
  have HL : Hid (Lies (d + 1) w l (.slice a l.length c)) := hu
  have HLX : Hid (LiesX (fun b => b < w.heap.size) (d + 1) w l (.slice a l.length c)) := LiesX.of_lies hu
  have HK : Hid (Bx (w.alloc (.cells #[.int .i64 0, .int .i64 0, .string ⟨#[]⟩, .slice none 0 0] 24)) w.heap.size zeroT (.slice none 0 0)) := bx_alloc w zeroT _
  have hbz : Below w.heap.size w (w.alloc (.cells #[.int .i64 0, .int .i64 0, .string ⟨#[]⟩, .slice none 0 0] 24)) := ((Grew.refl w).alloc _).below
  clear hu
  by_cases herr : listErr d l = 0
  · have Herr : Hid (listErr d l = 0) := herr
    have Ha : Hid ((if rightV (d + 1) (listT l) = true then ((listT l, 0) : VT × Int) else (zeroT, 2)) = listA d l) := by
      show _ = _
      unfold listA
      rw [list_rightS d l (listErr_zero herr).2, if_neg (show ¬ (listErr d l ≠ 0) from fun h => h herr)]
    clear herr
    go_enter Try.func23, Try.ntmps23
    go_wp2_with fail
    refine (listed_any d l (.slice a l.length c) _ (Lies.keeps hbz _ _ _ HL.out)).mono ?_
    rintro e w1 ⟨rfl, hb⟩
    rw [Herr.out]
    have hb1 : Below w.heap.size w w1 := hbz.trans (hb.mono (by simp))
    have HK1 : Hid (Bx w1 w.heap.size zeroT (.slice none 0 0)) := HK.out.keeps hb
    clear hb HK hbz
    go_wp2_with fail
    refine (rtold_any (fun b => b ≠ w.heap.size ∧ b < w1.heap.size) (d + 1) (listT l) (.slice a l.length c) _ (fun b h => h.2) (HLX.out.keeps hb1 |>.mono (fun b (h : b < w.heap.size) => ⟨by omega, by have := hb1.size; omega⟩))).mono ?_
    intro e w2 ht
    have ht := told_tells ht
    rw [Ha.out] at ht
    obtain ⟨v, rfl, hL2, hb2⟩ := ht
    have hbw2 : Below w.heap.size w w2 := hb1.trans (hb2.mono hb1.size)
    have HK2 : Hid (Bx w2 w.heap.size zeroT (.slice none 0 0)) := HK1.out.keeps hb2
    clear hb2 HK1 Ha Herr
    generalize listA d l = A at *
    obtain ⟨t, n⟩ := A
    obtain ⟨av, cv, rfl, _⟩ := LiesX.slice hL2
    obtain ⟨y0, y1, y2, y3, z0, z1, z2, z3⟩ := HK2.out
    have Hbx : Hid (Bx (w2.setCells w.heap.size 0 (encP (t, .slice av t.items.length cv))) w.heap.size t (.slice av t.items.length cv)) := HK2.out.put (t, .slice av t.items.length cv)
    have Hbl : Hid (Below w.heap.size w (w2.setCells w.heap.size 0 (encP (t, .slice av t.items.length cv)))) := below_put hbw2 (Nat.le_refl _) (t, .slice av t.items.length cv)
    have HLx : Hid (LiesX (fun b => b ≠ w.heap.size) (d + 1) w2 t.items (.slice av t.items.length cv)) := hL2.mono (fun b h => h.1)
    have Hfin : Hid (Lies (d + 1) (w2.setCells w.heap.size 0 (encP (t, .slice av t.items.length cv))) t.items (.slice av t.items.length cv)) := (HLx.out.set (g := w.heap.size) (fun h => h rfl)).lies
    go_wp2_with fail
    refine bodyPost_ret (v := .tuple #[.agg #[.int .i64 t.kind, .int .i64 t.num, .string t.text, .slice av t.items.length cv], .int .i64 n]) ?_ rfl ⟨_, rfl, Hfin.out, Hbl.out⟩
    obtain ⟨q0, q1, q2, q3, _, _, _, _⟩ := Hbx.out
    simp only [encP, World.setCells, Nat.zero_add, Nat.reduceAdd] at q0 q1 q2 q3
    simp [results, Try.results23, go_sem, q0, q1, q2, q3]
  · have Ha : Hid (listA d l = (zeroT, listErr d l)) := by show _ = _; unfold listA; rw [if_pos herr]
    have hne : (listErr d l != 0) = true := by simpa using herr
    have HL0 := HL
    go_enter Try.func23, Try.ntmps23
    go_wp2_with fail
    refine (listed_any d l (.slice a l.length c) _ (Lies.keeps hbz _ _ _ HL.out)).mono ?_
    rintro e w1 ⟨rfl, hb⟩
    have hb1 : Below w.heap.size w w1 := hbz.trans (hb.mono (by simp))
    have HK1 : Hid (Bx w1 w.heap.size zeroT (.slice none 0 0)) := HK.out.keeps hb
    clear hb HK hbz
    obtain ⟨y0, y1, y2, y3, z0, z1, z2, z3⟩ := HK1.out
    have Hbx : Hid (Bx (w1.setCells w.heap.size 0 (encP (zeroT, .slice none 0 0))) w.heap.size zeroT (.slice none 0 0)) := HK1.out.put (zeroT, .slice none 0 0)
    have Hbl : Hid (Below w.heap.size w (w1.setCells w.heap.size 0 (encP (zeroT, .slice none 0 0)))) := below_put hb1 (Nat.le_refl _) (zeroT, .slice none 0 0)
    go_wp2_with fail
    refine bodyPost_ret (v := .tuple #[.agg #[.int .i64 0, .int .i64 0, .string ⟨#[]⟩, .slice none 0 0], .int .i64 (listErr d l)]) ?_ rfl (by rw [Ha.out]; exact tells_zero _ _ Hbl.out)
    obtain ⟨q0, q1, q2, q3, _, _, _, _⟩ := Hbx.out
    simp only [encP, World.setCells, Nat.zero_add, Nat.reduceAdd] at q0 q1 q2 q3
    simp [results, Try.results23, go_sem, q0, q1, q2, q3]
  
set_option maxHeartbeats 4000000 in
theorem rset_tells (d : Nat) (l : List VT) (u : Value) (w : World) (hu : Lies (d + 1) w l u) : Calls Try.prog 21 #[u] w (Tells (d + 1) (setA d l) w) := by
  have HG : Hid (listErr d l = 0 → l.length ≤ 65536 ∧ ∀ x ∈ l, Good d x) := fun h => ⟨(listErr_zero h).1, good_list hu (listErr_zero h).2⟩
  obtain ⟨a, c, rfl, _⟩ := Lies.slice hu
  have HL : Hid (Lies (d + 1) w l (.slice a l.length c)) := hu
  have HLX : Hid (LiesX (fun b => b < w.heap.size) (d + 1) w l (.slice a l.length c)) := LiesX.of_lies hu
  have HK : Hid (Bx (w.alloc (.cells #[.int .i64 0, .int .i64 0, .string ⟨#[]⟩, .slice none 0 0] 24)) w.heap.size zeroT (.slice none 0 0)) := bx_alloc w zeroT _
  have hbz : Below w.heap.size w (w.alloc (.cells #[.int .i64 0, .int .i64 0, .string ⟨#[]⟩, .slice none 0 0] 24)) := ((Grew.refl w).alloc _).below
  clear hu
  by_cases herr : listErr d l = 0
  · have Herr : Hid (listErr d l = 0) := herr
    have Ha : Hid ((if rightV (d + 1) ⟨5, 0, ⟨#[]⟩, setM d l⟩ = true then ((⟨5, 0, ⟨#[]⟩, setM d l⟩, 0) : VT × Int) else (zeroT, 2)) = setA d l) := by
      show _ = _
      unfold setA
      rw [set_right' d l (HG.out herr).2, if_neg (show ¬ (listErr d l ≠ 0) from fun h => h herr)]
    have Hlen : Hid (l.length ≤ 65536) := (HG.out herr).1
    obtain ⟨ps, hps, hpl, hsl⟩ := SlP.of_lies HL.out
    have HSP : Hid (SlP 0 d w ps (.slice a l.length c)) := hsl
    have HPX : Hid (∀ p ∈ ps, LiesX (fun b => b < w.heap.size) d w p.1.items p.2) := fun p hp => by
      obtain ⟨_, _, _, _, _, _, h4⟩ := HSP.out
      exact LiesX.of_lies (h4 p hp).1
    have HSo : Hid _ := fun (W : World) (h : SlP 0 d W ps (.slice a l.length c)) => rsorted_any d ps.length ps (.slice a l.length c) W h (by rw [hpl]; exact Hlen.out) (by omega)
    have HOn : Hid _ := fun (v : Value) (W : World) (h : SlP 0 d W (srt (ltQ d) (ps.length + 1) ps) v) => ronce_any d (srt (ltQ d) (ps.length + 1) ps) v W h (by rw [srt_len, hpl]; exact Hlen.out)
    have HM : Hid ((once (eqQ d) (srt (ltQ d) (ps.length + 1) ps)).map (·.1) = setM d l) := setM_of d ps l _ hps (by rw [hpl])
    have HMM : Hid (∀ p ∈ once (eqQ d) (srt (ltQ d) (ps.length + 1) ps), p ∈ ps) := fun p hp => srt_mem _ _ _ _ (once_mem _ _ _ hp)
    clear hps hpl hsl
    clear herr HG
    go_enter Try.func21, Try.ntmps21
    go_wp2_with fail
    refine (listed_any d l (.slice a l.length c) _ (Lies.keeps hbz _ _ _ HL.out)).mono ?_
    rintro e w1 ⟨rfl, hb⟩
    rw [Herr.out]
    have hb1 : Below w.heap.size w w1 := hbz.trans (hb.mono (by simp))
    have HK1 : Hid (Bx w1 w.heap.size zeroT (.slice none 0 0)) := HK.out.keeps hb
    clear hb HK hbz
    go_wp2_with fail
    refine (HSo.out _ (HSP.out.keeps hb1)).mono ?_
    rintro e w3 ⟨v3, rfl, hL3, hb3⟩
    have HL3 : Hid (SlP 0 d w3 (srt (ltQ d) (ps.length + 1) ps) v3) := hL3.mono (Nat.zero_le _)
    have hbw3 : Below w.heap.size w w3 := hb1.trans (hb3.mono hb1.size)
    have hsz3 : w.heap.size < w3.heap.size := by have h1 : w.heap.size < w1.heap.size := cell_lt HK1.out.c0; have := hb3.size; omega
    have HK3 : Hid (Bx w3 w.heap.size zeroT (.slice none 0 0)) := HK1.out.keeps hb3
    clear hL3 hb3 HK1 hb1
    go_wp2_with fail
    refine (HOn.out _ _ HL3.out).mono ?_
    rintro e w4 ⟨v4, rfl, hL4, hb4⟩
    obtain ⟨a4, c4, rfl, _⟩ := SlP.slice hL4
    generalize hn4 : (once (eqQ d) (srt (ltQ d) (ps.length + 1) ps)).length = n4 at *
    have hbw4 : Below w.heap.size w w4 := hbw3.trans (hb4.mono hbw3.size)
    have hs4 : w.heap.size ≤ w4.heap.size := hbw4.size
    have HL4 : Hid (LiesX (fun b => b ≠ w.heap.size ∧ b < w4.heap.size) (d + 1) w4 (setM d l) (.slice a4 n4 c4)) := by
      rw [← HM.out]
      exact SlP.liesX hL4 (fun b h1 h2 => ⟨by omega, h2⟩) (fun p hp => ((HPX.out p (HMM.out p hp)).keeps hbw4).mono (fun b (h : b < w.heap.size) => ⟨by omega, by omega⟩))
    have HK4 : Hid (Bx w4 w.heap.size zeroT (.slice none 0 0)) := HK3.out.keeps hb4
    clear hL4 hb4 HK3 hbw3 HSo HOn HL3 HM HMM HPX HSP
    go_wp2_with fail
    refine (rtold_any (fun b => b ≠ w.heap.size ∧ b < w4.heap.size) (d + 1) ⟨5, 0, ⟨#[]⟩, setM d l⟩ (.slice a4 n4 c4) _ (fun b h => h.2) HL4.out).mono ?_
    intro e w2 ht
    have ht := told_tells ht
    rw [Ha.out] at ht
    obtain ⟨v, rfl, hL2, hb2⟩ := ht
    have hbw2 : Below w.heap.size w w2 := hbw4.trans (hb2.mono hbw4.size)
    have HK2 : Hid (Bx w2 w.heap.size zeroT (.slice none 0 0)) := HK4.out.keeps hb2
    clear hb2 HK4 Ha Herr HL4
    generalize setA d l = A at *
    obtain ⟨t, n⟩ := A
    obtain ⟨av, cv, rfl, _⟩ := LiesX.slice hL2
    obtain ⟨y0, y1, y2, y3, z0, z1, z2, z3⟩ := HK2.out
    have Hbx : Hid (Bx (w2.setCells w.heap.size 0 (encP (t, .slice av t.items.length cv))) w.heap.size t (.slice av t.items.length cv)) := HK2.out.put (t, .slice av t.items.length cv)
    have Hbl : Hid (Below w.heap.size w (w2.setCells w.heap.size 0 (encP (t, .slice av t.items.length cv)))) := below_put hbw2 (Nat.le_refl _) (t, .slice av t.items.length cv)
    have HLx : Hid (LiesX (fun b => b ≠ w.heap.size) (d + 1) w2 t.items (.slice av t.items.length cv)) := hL2.mono (fun b h => h.1)
    have Hfin : Hid (Lies (d + 1) (w2.setCells w.heap.size 0 (encP (t, .slice av t.items.length cv))) t.items (.slice av t.items.length cv)) := (HLx.out.set (g := w.heap.size) (fun h => h rfl)).lies
    go_wp2_with fail
    refine bodyPost_ret (v := .tuple #[.agg #[.int .i64 t.kind, .int .i64 t.num, .string t.text, .slice av t.items.length cv], .int .i64 n]) ?_ rfl ⟨_, rfl, Hfin.out, Hbl.out⟩
    obtain ⟨q0, q1, q2, q3, _, _, _, _⟩ := Hbx.out
    simp only [encP, World.setCells, Nat.zero_add, Nat.reduceAdd] at q0 q1 q2 q3
    simp [results, Try.results21, go_sem, q0, q1, q2, q3]
  · have Ha : Hid (setA d l = (zeroT, listErr d l)) := by show _ = _; unfold setA; rw [if_pos herr]
    have hne : (listErr d l != 0) = true := by simpa using herr
    have HL0 := HL
    go_enter Try.func21, Try.ntmps21
    go_wp2_with fail
    refine (listed_any d l (.slice a l.length c) _ (Lies.keeps hbz _ _ _ HL.out)).mono ?_
    rintro e w1 ⟨rfl, hb⟩
    have hb1 : Below w.heap.size w w1 := hbz.trans (hb.mono (by simp))
    have HK1 : Hid (Bx w1 w.heap.size zeroT (.slice none 0 0)) := HK.out.keeps hb
    clear hb HK hbz
    obtain ⟨y0, y1, y2, y3, z0, z1, z2, z3⟩ := HK1.out
    have Hbx : Hid (Bx (w1.setCells w.heap.size 0 (encP (zeroT, .slice none 0 0))) w.heap.size zeroT (.slice none 0 0)) := HK1.out.put (zeroT, .slice none 0 0)
    have Hbl : Hid (Below w.heap.size w (w1.setCells w.heap.size 0 (encP (zeroT, .slice none 0 0)))) := below_put hb1 (Nat.le_refl _) (zeroT, .slice none 0 0)
    go_wp2_with fail
    refine bodyPost_ret (v := .tuple #[.agg #[.int .i64 0, .int .i64 0, .string ⟨#[]⟩, .slice none 0 0], .int .i64 (listErr d l)]) ?_ rfl (by rw [Ha.out]; exact tells_zero _ _ Hbl.out)
    obtain ⟨q0, q1, q2, q3, _, _, _, _⟩ := Hbx.out
    simp only [encP, World.setCells, Nat.zero_add, Nat.reduceAdd] at q0 q1 q2 q3
    simp [results, Try.results21, go_sem, q0, q1, q2, q3]

set_option maxHeartbeats 4000000 in
theorem rsort_tells (d : Nat) (l : List VT) (u : Value) (w : World) (hu : Lies (d + 1) w l u) : Calls Try.prog 25 #[u] w fun e w' => ∃ v, e = .returned (.tuple #[v, .int .i64 (sortA d l).2]) ∧ Lies (d + 1) w' (sortA d l).1 v ∧ Below w.heap.size w w' := by
  obtain ⟨a, c, rfl, _⟩ := Lies.slice hu
  have HL : Hid (Lies (d + 1) w l (.slice a l.length c)) := hu
  clear hu
  by_cases herr : listErr d l = 0
  · have Ha : Hid (sortA d l = (sortT d l, 0)) := by show _ = _; unfold sortA; rw [if_neg (fun h => h herr)]
    have Hlen : Hid (l.length ≤ 65536) := (listErr_zero herr).1
    have Herr : Hid (listErr d l = 0) := herr
    obtain ⟨ps, hps, hpl, hsl⟩ := SlP.of_lies HL.out
    have HSP : Hid (SlP 0 d w ps (.slice a l.length c)) := hsl
    have HSo : Hid _ := fun (W : World) (h : SlP 0 d W ps (.slice a l.length c)) => rsorted_any d ps.length ps (.slice a l.length c) W h (by rw [hpl]; exact Hlen.out) (by omega)
    have HM : Hid ((srt (ltQ d) (ps.length + 1) ps).map (·.1) = sortT d l) := sort_fst d ps l _ hps (by rw [hpl])
    clear herr hps hpl hsl
    go_enter Try.func25, Try.ntmps25
    go_wp2_with fail
    refine (listed_any d l (.slice a l.length c) _ HL.out).mono ?_
    rintro e w1 ⟨rfl, hb1⟩
    rw [Herr.out]
    go_wp2_with fail
    refine (HSo.out _ (HSP.out.keeps hb1)).mono ?_
    rintro e w3 ⟨v3, rfl, hL3, hb3⟩
    have HL3 : Hid (Lies (d + 1) w3 (sortT d l) v3) := by rw [← HM.out]; exact hL3.lies
    have hbw3 : Below w.heap.size w w3 := hb1.trans (hb3.mono hb1.size)
    clear hL3 hb3
    obtain ⟨av, cv, rfl, _⟩ := Lies.slice HL3.out
    go_wp2_with fail
    refine bodyPost_ret (v := .tuple #[.slice av (sortT d l).length cv, .int .i64 0]) (by simp [results, Try.results25, go_sem]) rfl ?_
    rw [Ha.out]
    exact ⟨_, rfl, HL3.out, hbw3⟩
  · have Ha : Hid (sortA d l = ([], listErr d l)) := by show _ = _; unfold sortA; rw [if_pos herr]
    have hne : (listErr d l != 0) = true := by simpa using herr
    go_enter Try.func25, Try.ntmps25
    go_wp2_with fail
    refine (listed_any d l (.slice a l.length c) _ HL.out).mono ?_
    rintro e w1 ⟨rfl, hb1⟩
    go_wp2_with fail
    refine bodyPost_ret (v := .tuple #[.slice none 0 0, .int .i64 (listErr d l)]) (by simp [results, Try.results25, go_sem]) rfl ?_
    rw [Ha.out]
    exact ⟨_, rfl, lies_nil _ _, hb1⟩

end Go.Proofs.Ytajjkkfegcmkkaa

