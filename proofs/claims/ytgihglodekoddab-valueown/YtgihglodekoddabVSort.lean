/-
  The contract of the program's Sort, and what the program's Set and List tell, in one form with the document's.
-/
import Derived.Test.YtgihglodekoddabSetH
import Derived.Test.YtgihglodekoddabROnce
import Derived.Test.YtgihglodekoddabMade
import Derived.Test.YtgihglodekoddabLiesX
namespace Go.Proofs.Ytgihglodekoddab
open Go.RowKit

/-- A list sorted. -/
def sortT (d : Nat) (l : List VT) : List VT := srt (ltV d) (l.length + 1) l

theorem ltV_as (d : Nat) (a b : VT) (h : ltV d a b = true) : ltV d b a = false := by
  have h1 : cmpV d a b < 0 := of_decide_eq_true h
  have := cmpV_turn d a b
  exact decide_eq_false (by omega)

theorem ltV_tr (d : Nat) (a b c : VT) (h1 : ltV d b a = false) (h2 : ltV d c b = false) : ltV d c a = false := by
  have k1 : ¬ cmpV d b a < 0 := of_decide_eq_false h1
  have k2 : ¬ cmpV d c b < 0 := of_decide_eq_false h2
  have t1 := cmpV_turn d a b
  have t2 := cmpV_turn d b c
  have t3 := cmpV_turn d a c
  have := (goes_V d a b c (by omega) (by omega)).1
  exact decide_eq_false (by omega)

theorem sortT_up (d : Nat) (l : List VT) : Up (ltV d) (sortT d l) := srt_up (ltV d) (ltV_as d) (ltV_tr d) _ l (by omega)

theorem up_rises {d : Nat} {l : List VT} (h : l.Pairwise fun x y => cmpV d x y ≤ 0) : Up (ltV d) l :=
  List.Pairwise.imp (fun {a b} hab => decide_eq_false (by have := cmpV_turn d a b; omega)) h

theorem rises_up {d : Nat} {l : List VT} (h : Up (ltV d) l) : l.Pairwise fun x y => cmpV d x y ≤ 0 :=
  List.Pairwise.imp (fun {a b} hab => by
    have k : ¬ cmpV d b a < 0 := of_decide_eq_false hab
    have := cmpV_turn d a b
    omega) h

/-- Two lists of the same right values that go up are one. -/
theorem up_oneV (d : Nat) : ∀ (l m : List VT), l.Perm m → (∀ x ∈ l, Good d x) → Up (ltV d) l → Up (ltV d) m → l = m := by
  intro l
  induction l with
  | nil => intro m hp _ _ _; exact hp.nil_eq
  | cons x l ih =>
    intro m hp hg hl hm
    cases m with
    | nil => exact absurd hp.length_eq (by simp)
    | cons y m =>
      obtain ⟨hl1, hl2⟩ := List.pairwise_cons.1 hl
      obtain ⟨hm1, hm2⟩ := List.pairwise_cons.1 hm
      have hx : x ∈ y :: m := hp.subset List.mem_cons_self
      have hy : y ∈ x :: l := hp.symm.subset List.mem_cons_self
      have hself : ∀ a, ltV d a a = false := fun a => decide_eq_false (by have := cmpV_self d a; omega)
      have h1 : ltV d x y = false := by
        rcases List.mem_cons.1 hx with rfl | h
        · exact hself _
        · exact hm1 x h
      have h2 : ltV d y x = false := by
        rcases List.mem_cons.1 hy with rfl | h
        · exact hself _
        · exact hl1 y h
      have k1 : ¬ cmpV d x y < 0 := of_decide_eq_false h1
      have k2 : ¬ cmpV d y x < 0 := of_decide_eq_false h2
      have k3 := cmpV_turn d x y
      have e : x = y := good_eq (hg x List.mem_cons_self) (hg y hy) (by omega)
      subst e
      rw [ih m (List.Perm.cons_inv hp) (fun z hz => hg z (List.mem_cons_of_mem _ hz)) hl2 hm2]

theorem good_list {d : Nat} {w : World} {l : List VT} {u : Value} (hu : Lies (d + 1) w l u) (h : ∀ x ∈ l, rightV d x = true) : ∀ x ∈ l, Good d x := by
  intro x hx
  obtain ⟨a, c, rfl, _, ps, hps, hsd, _⟩ := Lies.row hu
  have hr := h x hx
  rw [← hps] at hx
  obtain ⟨p, hp, rfl⟩ := List.mem_map.1 hx
  exact ⟨hr, lies_dp d w p.1 p.2 (hsd p hp).1⟩

/-- A value with no place of its own. -/
def bare (t : VT) : PR := (t, .slice none 0 0)

/-- The document's set of a list. -/
def setM (d : Nat) (l : List VT) : List VT := (once (eqQ d) ((sortT d l).map bare)).map (·.1)

theorem setM_members (d : Nat) (l : List VT) (hg : ∀ x ∈ l, Good d x) : Members d l (setM d l) := by
  have hp : ((sortT d l).map bare).Perm (l.map bare) := (srt_perm _ _ _).map bare
  have hm : (l.map bare).map (·.1) = l := by rw [List.map_map]; exact List.map_id l
  refine (once_members d l (l.map bare) ((sortT d l).map bare) hm hg hp ?_).1
  rw [List.pairwise_map]
  exact rises_up (sortT_up d l)

/-- In which blocks a slice of values lies. -/
theorem SlP.liesX {X : Nat → Prop} {base d : Nat} {w : World} {ps : List PR} {v : Value} (h : SlP base d w ps v) (hb : ∀ b, base ≤ b → b < w.heap.size → X b) (hp : ∀ p ∈ ps, LiesX X d w p.1.items p.2) : LiesX X (d + 1) w (ps.map (·.1)) v := by
  obtain ⟨a, c, rfl, h1, h2, h3, h4⟩ := h
  refine ⟨a, c, by rw [List.length_map], by rw [List.length_map]; exact ⟨h1, h2⟩, fun hne => ?_⟩
  obtain ⟨b, o, ha, hbb, hr⟩ := h3 (fun e => hne (by rw [e]; rfl))
  have hlen : 0 < ps.length := by
    cases ps with
    | nil => exact absurd rfl hne
    | cons _ _ => simp
  have hblt : b < w.heap.size := cell_lt (hr 0 hlen).1
  refine ⟨b, o, ha, hb b hbb hblt, fun i hi => ?_⟩
  rw [List.length_map] at hi
  obtain ⟨p0, p1, p2, p3⟩ := hr i hi
  refine ⟨ps[i].2, ?_⟩
  rw [List.getElem_map]
  exact ⟨p0, p1, p2, p3, hp _ (List.getElem_mem hi), (h4 _ (List.getElem_mem hi)).2⟩

/-- What a list's set, list, and sorting tell. -/
def setA (d : Nat) (l : List VT) : VT × Int :=
  if listErr d l ≠ 0 then (zeroT, listErr d l) else if (fw (d + 1) ⟨5, 0, ⟨#[]⟩, setM d l⟩ 16 1024).1 = true then (⟨5, 0, ⟨#[]⟩, setM d l⟩, 0) else (zeroT, 2)
def listA (d : Nat) (l : List VT) : VT × Int :=
  if listErr d l ≠ 0 then (zeroT, listErr d l) else if (fw (d + 1) (listT l) 16 1024).1 = true then (listT l, 0) else (zeroT, 2)
def sortA (d : Nat) (l : List VT) : List VT × Int :=
  if listErr d l ≠ 0 then ([], listErr d l) else (sortT d l, 0)

theorem right_lenD {d : Nat} {t : VT} (h : rightV d t = true) : Len d t := by
  simp only [rightV, Bool.and_eq_true] at h
  exact sm_len d t (fw_small d t 16 1024 (by omega) (by omega) h.1)

/-- A list and an error are told. -/
def TellsL (d : Nat) (a : List VT × Int) (w : World) (e : Ending) (w' : World) : Prop :=
  ∃ v, e = .returned (.tuple #[v, .int .i64 a.2]) ∧ LiesB w.heap.size (d + 1) w' a.1 v ∧ Below w.heap.size w w'

/-- The program's sorted, at any right list. -/
theorem sortedV (d : Nat) (l : List VT) (a : Option Addr) (c : Nat) (W : World) (hu : Lies (d + 1) W l (.slice a l.length c)) (hlen : l.length ≤ 65536) (hright : ∀ x ∈ l, rightV d x = true) :
    Calls Try.prog 15 #[.slice a l.length c] W fun e W' => ∃ a' c', e = .returned (.slice a' (sortT d l).length c') ∧ Lies (d + 1) W' (sortT d l) (.slice a' (sortT d l).length c') ∧ Below W.heap.size W W' := by
  by_cases hne : l = []
  · subst hne
    refine (sorted_none a c W).mono fun e W1 hh => ?_
    obtain ⟨a', c', he, hb1⟩ := hh
    have e0 : sortT d [] = [] := by unfold sortT; rw [List.length_nil]; unfold srt; simp
    rw [e0]
    exact ⟨a', c', he, ⟨a', c', rfl, by simp, fun h => absurd rfl h⟩, hb1⟩
  · obtain ⟨a0, c0, hv, _, ps, hps, hsd, hrow⟩ := Lies.row hu
    obtain ⟨b, o, ha, hr⟩ := hrow hne
    have e1 : ps.length = l.length := by rw [← hps, List.length_map]
    have hv' : (Value.slice a l.length c) = .slice (some ⟨b, o, none⟩) ps.length c := by
      have := hv
      simp only [Value.slice.injEq] at this
      rw [this.1, ha, e1]
    rw [hv']
    have hpne : ps ≠ [] := fun e => hne (by rw [← hps, e]; rfl)
    refine (sorted_some d b o c ps W hr hsd hpne (by omega)).mono fun e W1 hh => ?_
    obtain ⟨g, cap, qs, he, hp, hri, hrow1, hfz, hg, hcap, hlt, hb1⟩ := hh
    have hql : qs.length = ps.length := hp.length_eq
    have hgood : ∀ x ∈ l, Good d x := good_list hu hright
    have hqp : (qs.map (·.1)).Perm l := by rw [← hps]; exact hp.map _
    have hqe : qs.map (·.1) = sortT d l := up_oneV d _ _ (hqp.trans (srt_perm _ _ _).symm) (fun x hx => hgood x (hqp.mem_iff.1 hx)) (up_rises (by rw [List.pairwise_map]; exact hri)) (sortT_up d l)
    have hsl : (sortT d l).length = ps.length := by rw [← hqe, List.length_map, hql]
    have hL := lies_of_row (d := d) (c := cap) hrow1 (fun p hpq => (hsd p (hp.mem_iff.1 hpq)).keeps hb1) (by omega) (by omega)
    rw [hqe, hql, ← hsl] at hL
    exact ⟨_, cap, by rw [he, hsl], hL, hb1⟩

set_option maxHeartbeats 4000000 in
theorem vsort_tells (d : Nat) (l : List VT) (a : Option Addr) (c : Nat) (w : World) (hu : Lies (d + 1) w l (.slice a l.length c)) : Calls Try.prog 7 #[.slice a l.length c] w (TellsL d (sortA d l) w) := by
  have HL : Hid (Lies (d + 1) w l (.slice a l.length c)) := hu
  clear hu
  by_cases herr : listErr d l = 0
  · have Ha : Hid (sortA d l = (sortT d l, 0)) := by show _ = _; unfold sortA; rw [if_neg (fun h => h herr)]
    obtain ⟨hlen, hright⟩ := listErr_zero herr
    have HG : Hid (l.length ≤ 65536 ∧ ∀ x ∈ l, rightV d x = true) := ⟨hlen, hright⟩
    have Herr : Hid (listErr d l = 0) := herr
    clear herr hright
    go_enter Try.func7, Try.ntmps7
    go_wp2_with fail
    refine (checkList_any d l (.slice a l.length c) _ HL.out).mono ?_
    rintro e w1 ⟨rfl, hb1⟩
    rw [Herr.out]
    go_wp2_with fail
    refine (sortedV d l a c _ (Lies.keeps hb1 _ _ _ HL.out) HG.out.1 HG.out.2).mono ?_
    rintro e w2 ⟨a2, c2, rfl, hL2, hb2⟩
    have HL2 : Hid (Lies (d + 1) w2 (sortT d l) (.slice a2 (sortT d l).length c2)) := hL2
    have hbw2 : Below w.heap.size w w2 := hb1.trans (hb2.mono hb1.size)
    have Hsl : Hid ((sortT d l).length ≤ 65536 ∧ ∀ x ∈ sortT d l, rightV d x = true) := ⟨by unfold sortT; rw [srt_len]; exact HG.out.1, fun x hx => HG.out.2 x (srt_mem _ _ _ _ hx)⟩
    clear hL2 hb2
    generalize sortT d l = S at *
    go_wp2_with fail
    refine (copyAll_core d S _ _ HL2.out Hsl.out.1 (fun x v W hx hLx hts => copyOf_any (fun s => s.size ≤ 281474976710656) (fun s W h => txt_any s W h) d x v W hLx (right_txt d x (right_rp (Hsl.out.2 x hx))) (right_lenD (Hsl.out.2 x hx)))).mono ?_
    rintro e w3 ⟨v, rfl, hL3, hb3⟩
    obtain ⟨av, cv, rfl, _⟩ := LiesB.slice hL3
    have HL3 : Hid (LiesB w.heap.size (d + 1) w3 S (.slice av S.length cv)) := LiesB.lower hbw2.size _ _ _ hL3
    have hbw3 : Below w.heap.size w w3 := hbw2.trans (hb3.mono hbw2.size)
    clear hL3 hb3
    go_wp2_with fail
    refine bodyPost_ret (v := .tuple #[.slice av S.length cv, .int .i64 0]) (by simp [results, Try.results7, go_sem]) rfl ?_
    rw [Ha.out]
    exact ⟨_, rfl, HL3.out, hbw3⟩
  · have Ha : Hid (sortA d l = ([], listErr d l)) := by show _ = _; unfold sortA; rw [if_pos herr]
    have hne : (listErr d l != 0) = true := by simpa using herr
    go_enter Try.func7, Try.ntmps7
    go_wp2_with fail
    refine (checkList_any d l (.slice a l.length c) _ HL.out).mono ?_
    rintro e w1 ⟨rfl, hb1⟩
    go_wp2_with fail
    refine bodyPost_ret (v := .tuple #[.slice none 0 0, .int .i64 (listErr d l)]) (by simp [results, Try.results7, go_sem]) rfl ?_
    rw [Ha.out]
    exact ⟨_, rfl, ⟨none, 0, rfl, by simp, fun h => absurd rfl h⟩, hb1⟩

end Go.Proofs.Ytgihglodekoddab

