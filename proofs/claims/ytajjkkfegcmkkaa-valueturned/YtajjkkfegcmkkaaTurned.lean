/-
  The walk of ValueTurned.
-/
import Derived.Test.YtajjkkfegcmkkaaSetG
import Derived.Test.YtajjkkfegcmkkaaSetM
import Derived.Test.YtajjkkfegcmkkaaSpeaks
import Derived.Test.YtajjkkfegcmkkaaVList
namespace Go.Proofs.Ytajjkkfegcmkkaa
open Go.RowKit

/-- What Set leaves: an error and the zero value, or OK and the set of the members. -/
def SetPost (d : Nat) (l : List VT) (w : World) (e : Ending) (w' : World) : Prop :=
  Below w.heap.size w w' ∧
  ((listErr d l ≠ 0 ∧ e = .returned (.tuple #[zeroAgg, .int .i64 (listErr d l)])) ∨
   (listErr d l = 0 ∧ ∃ m, Members d l m ∧
     (((fw (d + 1) ⟨5, 0, ⟨#[]⟩, m⟩ 16 1024).1 = false ∧ e = .returned (.tuple #[zeroAgg, .int .i64 2])) ∨
      ((fw (d + 1) ⟨5, 0, ⟨#[]⟩, m⟩ 16 1024).1 = true ∧ ∃ v, e = .returned (.tuple #[.agg #[.int .i64 5, .int .i64 0, .string ⟨#[]⟩, v], .int .i64 0]) ∧ Lies (d + 1) w' m v))))

/-- The same, the set in memory from the call's own on. -/
def SetPostB (d : Nat) (l : List VT) (w : World) (e : Ending) (w' : World) : Prop :=
  Below w.heap.size w w' ∧
  ((listErr d l ≠ 0 ∧ e = .returned (.tuple #[zeroAgg, .int .i64 (listErr d l)])) ∨
   (listErr d l = 0 ∧ ∃ m, Members d l m ∧
     (((fw (d + 1) ⟨5, 0, ⟨#[]⟩, m⟩ 16 1024).1 = false ∧ e = .returned (.tuple #[zeroAgg, .int .i64 2])) ∨
      ((fw (d + 1) ⟨5, 0, ⟨#[]⟩, m⟩ 16 1024).1 = true ∧ ∃ v, e = .returned (.tuple #[.agg #[.int .i64 5, .int .i64 0, .string ⟨#[]⟩, v], .int .i64 0]) ∧ LiesB w.heap.size (d + 1) w' m v))))

theorem SetPostB.weak {d : Nat} {l : List VT} {w : World} {e : Ending} {w' : World} (h : SetPostB d l w e w') : SetPost d l w e w' := by
  obtain ⟨hb, h1 | ⟨h0, m, hm, h2 | ⟨hf, v, he, hL⟩⟩⟩ := h
  · exact ⟨hb, .inl h1⟩
  · exact ⟨hb, .inr ⟨h0, m, hm, .inl h2⟩⟩
  · exact ⟨hb, .inr ⟨h0, m, hm, .inr ⟨hf, v, he, LiesB.lies _ _ _ hL⟩⟩⟩

theorem uniqFrom_le (g : PR → PR → Bool) : ∀ (ys : List PR) (prev : PR), (uniqFrom g prev ys).length ≤ ys.length := by
  intro ys
  induction ys with
  | nil => intro prev; exact Nat.le_refl _
  | cons y r ih =>
    intro prev
    unfold uniqFrom
    have := ih y
    split
    · simp only [List.length_cons]; omega
    · simp only [List.length_cons]; omega

theorem uniq_le (g : PR → PR → Bool) (ps : List PR) : (uniq g ps).length ≤ ps.length := by
  cases ps with
  | nil => exact Nat.le_refl _
  | cons x xs => have := uniqFrom_le g xs x; unfold uniq; simp only [List.length_cons]; omega

set_option maxHeartbeats 2000000 in
/-- Set's last part: what is made is stored and handed back. -/
theorem set_core (d : Nat) (l : List VT) (a : Option Addr) (c : Nat) (w : World) (hu : Lies (d + 1) w l (.slice a l.length c)) (herr : listErr d l = 0)
    (hmid : Hid (∀ W : World, Below w.heap.size w W → w.heap.size < W.heap.size → Blank W w.heap.size → Calls Try.prog 49 #[.slice a l.length c] W fun e W1 => ∃ v1, e = .returned v1 ∧ Below W.heap.size W W1 ∧ Calls Try.prog 48 #[v1, .func (.func 18) #[] #[]] W1 fun e2 W2 => ∃ v2 m, e2 = .returned v2 ∧ Members d l m ∧ Lies (d + 1) W2 m v2 ∧ Below w.heap.size w W2 ∧ Blank W2 w.heap.size)) :
    Calls Try.prog 20 #[.slice a l.length c] w (SetPostB d l w) := by
  have HL : Hid (Lies (d + 1) w l (.slice a l.length c)) := hu
  have Herr : Hid (listErr d l = 0) := herr
  have Hgood : Hid (∀ x ∈ l, rightV d x = true) := (listErr_zero herr).2
  have HK : Hid (Blank (w.alloc (.cells #[.int .i64 0, .int .i64 0, .string ⟨#[]⟩, .slice none 0 0] 24)) w.heap.size) := blank_alloc w
  have hbz : Below w.heap.size w (w.alloc (.cells #[.int .i64 0, .int .i64 0, .string ⟨#[]⟩, .slice none 0 0] 24)) := ((Grew.refl w).alloc _).below
  clear hu herr
  go_enter Try.func20, Try.ntmps20
  go_wp2_with fail
  refine (checkList_any d l (.slice a l.length c) _ (Lies.keeps hbz _ _ _ HL.out)).mono ?_
  rintro e w1 ⟨rfl, hb⟩
  rw [Herr.out]
  have hb1 : Below w.heap.size w w1 := hbz.trans (hb.mono (by simp))
  have HK1 : Hid (Blank w1 w.heap.size) := HK.out.keeps hb
  have hsz1 : w.heap.size < w1.heap.size := by have := hb.size; simp at this; omega
  clear hb HK hbz
  go_wp2_with fail
  refine (hmid.out w1 hb1 hsz1 HK1.out).mono ?_
  rintro e w2 ⟨v1, rfl, hb2, hcall⟩
  have Hcall : Hid _ := hcall
  clear hcall HK1
  go_wp2_with fail
  refine Calls.mono Hcall.out ?_
  rintro e w3 ⟨v2, m, rfl, hmem, hL3, hbw3, hbl3⟩
  have Hmem : Hid (Members d l m) := hmem
  have HL3 : Hid (Lies (d + 1) w3 m v2) := hL3
  have HK3 : Hid (Blank w3 w.heap.size) := hbl3
  have hsz3 : w.heap.size < w3.heap.size := cell_lt hbl3.c0
  clear hmem hL3 hbl3 Hcall hb2
  obtain ⟨a2, c2, rfl, _⟩ := Lies.slice HL3.out
  have Htx : Hid (Txt (fun s => s.size ≤ 281474976710656) (d + 1) ⟨5, 0, ⟨#[]⟩, m⟩) := ⟨(by show 0 ≤ 281474976710656; omega), fun x hx => right_txt d x (by
    have := Hgood.out x ((Hmem.out.mem x).1 hx)
    simp only [rightV, Bool.and_eq_true] at this
    exact this.2)⟩
  go_wp2_with fail
  refine (made_any (d + 1) 5 m (.slice a2 m.length c2) _ HL3.out Htx.out).mono ?_
  intro e w4 hm
  obtain ⟨hb4, hm⟩ := madeLies hm
  have hbw4 : Below w.heap.size w w4 := hbw3.trans (hb4.mono hbw3.size)
  have HK4 : Hid (Blank w4 w.heap.size) := HK3.out.keeps hb4
  clear HK3 HL3 Htx hb4
  obtain ⟨y0, y1, y2, y3, z0, z1, z2, z3⟩ := HK4.out
  rcases hm with ⟨hf, rfl⟩ | ⟨hf, v, rfl, hLB⟩
  · have Hf : Hid ((fw (d + 1) ⟨5, 0, ⟨#[]⟩, m⟩ 16 1024).1 = false) := hf
    have Hbx : Hid _ := HK4.out.put (⟨0, 0, ⟨#[]⟩, []⟩, .slice none 0 0)
    have Hbl : Hid _ := below_put hbw4 (Nat.le_refl _) (⟨0, 0, ⟨#[]⟩, []⟩, .slice none 0 0)
    clear hf
    unfold zeroAgg
    go_wp2_with fail
    refine bodyPost_ret (v := .tuple #[.agg #[.int .i64 0, .int .i64 0, .string ⟨#[]⟩, .slice none 0 0], .int .i64 2]) ?_ rfl ⟨Hbl.out, .inr ⟨Herr.out, m, Hmem.out, .inl ⟨Hf.out, rfl⟩⟩⟩
    obtain ⟨q0, q1, q2, q3⟩ := Hbx.out
    simp only [encP, World.setCells, Nat.zero_add, Nat.reduceAdd] at q0 q1 q2 q3
    simp [results, Try.results20, go_sem, q0, q1, q2, q3]
  · have Hf : Hid ((fw (d + 1) ⟨5, 0, ⟨#[]⟩, m⟩ 16 1024).1 = true) := hf
    have HLB : Hid (LiesB (w.heap.size + 1) (d + 1) w4 m v) := LiesB.lower (by omega) _ _ _ hLB
    clear hf hLB
    obtain ⟨av, cv, rfl, _⟩ := LiesB.slice HLB.out
    have Hbx : Hid _ := HK4.out.put (⟨5, 0, ⟨#[]⟩, m⟩, .slice av m.length cv)
    have Hbl : Hid _ := below_put hbw4 (Nat.le_refl _) (⟨5, 0, ⟨#[]⟩, m⟩, .slice av m.length cv)
    have Hfin : Hid (LiesB w.heap.size (d + 1) (w4.setCells w.heap.size 0 (encP (⟨5, 0, ⟨#[]⟩, m⟩, .slice av m.length cv))) m (.slice av m.length cv)) :=
      LiesB.lower (by omega) _ _ _ (LiesB.stays (base := w.heap.size + 1) (fun x v hx hv => ⟨by rw [World.cell?_setCells_out w.heap.size _ 0 w4 x (fun e _ => by omega)]; exact hv, World.frozen?_setCells ..⟩) _ _ _ HLB.out)
    go_wp2_with fail
    refine bodyPost_ret (v := .tuple #[.agg #[.int .i64 5, .int .i64 0, .string ⟨#[]⟩, .slice av m.length cv], .int .i64 0]) ?_ rfl ⟨Hbl.out, .inr ⟨Herr.out, m, Hmem.out, .inr ⟨Hf.out, _, rfl, Hfin.out⟩⟩⟩
    obtain ⟨q0, q1, q2, q3⟩ := Hbx.out
    simp only [encP, World.setCells, Nat.zero_add, Nat.reduceAdd] at q0 q1 q2 q3
    simp [results, Try.results20, go_sem, q0, q1, q2, q3]

set_option maxHeartbeats 2000000 in
theorem set_bad (d : Nat) (l : List VT) (a : Option Addr) (c : Nat) (w : World) (hu : Lies (d + 1) w l (.slice a l.length c)) (herr : listErr d l ≠ 0) : Calls Try.prog 20 #[.slice a l.length c] w (SetPostB d l w) := by
  have HL : Hid (Lies (d + 1) w l (.slice a l.length c)) := hu
  have Herr : Hid (listErr d l ≠ 0) := herr
  have hne : (listErr d l != 0) = true := by simpa using herr
  have HK : Hid (Blank (w.alloc (.cells #[.int .i64 0, .int .i64 0, .string ⟨#[]⟩, .slice none 0 0] 24)) w.heap.size) := blank_alloc w
  have hbz : Below w.heap.size w (w.alloc (.cells #[.int .i64 0, .int .i64 0, .string ⟨#[]⟩, .slice none 0 0] 24)) := ((Grew.refl w).alloc _).below
  clear hu herr
  go_enter Try.func20, Try.ntmps20
  go_wp2_with fail
  refine (checkList_any d l (.slice a l.length c) _ (Lies.keeps hbz _ _ _ HL.out)).mono ?_
  rintro e w1 ⟨rfl, hb⟩
  have hb1 : Below w.heap.size w w1 := hbz.trans (hb.mono (by simp))
  have HK1 : Hid (Blank w1 w.heap.size) := HK.out.keeps hb
  clear hb HK hbz
  obtain ⟨y0, y1, y2, y3, z0, z1, z2, z3⟩ := HK1.out
  have Hbx : Hid _ := HK1.out.put (⟨0, 0, ⟨#[]⟩, []⟩, .slice none 0 0)
  have Hbl : Hid _ := below_put hb1 (Nat.le_refl _) (⟨0, 0, ⟨#[]⟩, []⟩, .slice none 0 0)
  go_wp2_with fail
  refine bodyPost_ret (v := .tuple #[.agg #[.int .i64 0, .int .i64 0, .string ⟨#[]⟩, .slice none 0 0], .int .i64 (listErr d l)]) ?_ rfl ⟨Hbl.out, .inl ⟨Herr.out, rfl⟩⟩
  obtain ⟨q0, q1, q2, q3⟩ := Hbx.out
  simp only [encP, World.setCells, Nat.zero_add, Nat.reduceAdd] at q0 q1 q2 q3
  simp [results, Try.results20, go_sem, q0, q1, q2, q3]

theorem set_anyB (d : Nat) (l : List VT) (a : Option Addr) (c : Nat) (w : World) (hu : Lies (d + 1) w l (.slice a l.length c)) : Calls Try.prog 20 #[.slice a l.length c] w (SetPostB d l w) := by
  by_cases herr : listErr d l = 0
  · obtain ⟨hlen, hright⟩ := listErr_zero herr
    refine set_core d l a c w hu herr (fun W hbW hszW hblW => ?_)
    have hLW := Lies.keeps hbW _ _ _ hu
    by_cases hne : l = []
    · subst hne
      refine (sorted_none a c W).mono fun e W1 hh => ?_
      obtain ⟨a', c', he, hb1⟩ := hh
      refine ⟨_, he, hb1, (compact_few a' 0 c' W1 (by omega)).mono fun e2 W2 h2 => ?_⟩
      obtain ⟨he2, hw2⟩ := h2
      subst hw2
      exact ⟨_, [], he2, ⟨List.Pairwise.nil, fun x => Iff.rfl⟩, ⟨a', c', rfl, by simp, fun h => absurd rfl h⟩, hbW.trans (hb1.mono hbW.size), hblW.keeps hb1⟩
    · obtain ⟨a0, c0, hv, _, ps, hps, hsd, hrow⟩ := Lies.row hLW
      obtain ⟨b, o, ha, hr⟩ := hrow hne
      have e1 : ps.length = l.length := by rw [← hps, List.length_map]
      have hv' : (Value.slice a l.length c) = .slice (some ⟨b, o, none⟩) ps.length c := by
        have := hv
        simp only [Value.slice.injEq] at this
        rw [this.1, ha, e1]
      rw [hv']
      have hpne : ps ≠ [] := fun e => hne (by rw [← hps, e]; rfl)
      refine (sorted_some d b o c ps W hr hsd hpne (by omega)).mono fun e W1 hh => ?_
      obtain ⟨g, cap, qs, he, hp, hri, hrow1, hfz, hg, hcap, hlt, hb1⟩ := hh
      have hql : qs.length = ps.length := hp.length_eq
      refine ⟨_, he, hb1, ?_⟩
      rw [← hql]
      have hRW : RowW W g qs.length qs W1 := ⟨hrow1, (fun k hk => hfz k (by rw [hql] at hk; exact hk)), hlt, hb1⟩
      refine (compact_any d g cap W W1 qs (fun p hpq => hsd p (hp.mem_iff.1 hpq)) hg hRW (by omega) (by omega)).mono fun e2 W2 h2 => ?_
      obtain ⟨k, he2, hk, hRW2⟩ := h2
      have hgood : ∀ x ∈ l, Good d x := fun x hx => ⟨hright x hx, by
        rw [← hps] at hx
        obtain ⟨p, hpp, rfl⟩ := List.mem_map.1 hx
        exact lies_dp d W p.1 p.2 (hsd p hpp).1⟩
      obtain ⟨hM, hsub⟩ := uniq_members d l ps qs hps hgood hp hri
      have hb2 : Below W.heap.size W W2 := hRW2.below
      refine ⟨_, _, he2, hM, ?_, hbW.trans (hb2.mono hbW.size), hblW.keeps hb2⟩
      have := lies_of_row (d := d) (c := cap) hRW2.row (fun p hpu => (hsd p (hsub p hpu)).keeps hb2) (by
        have := hM
        have hle : (uniq (eqB d) qs).length ≤ qs.length := by
          have hlen2 := hRW2
          exact uniq_le _ _
        omega) (by have := uniq_le (eqB d) qs; omega)
      rw [hk]
      exact this
  · exact set_bad d l a c w hu herr

theorem set_any (d : Nat) (l : List VT) (a : Option Addr) (c : Nat) (w : World) (hu : Lies (d + 1) w l (.slice a l.length c)) : Calls Try.prog 20 #[.slice a l.length c] w (SetPost d l w) :=
  (set_anyB d l a c w hu).mono fun _ _ h => h.weak

end Go.Proofs.Ytajjkkfegcmkkaa

namespace Go.Proofs.Ytajjkkfegcmkkaa
open Go.RowKit

theorem turned_mem (l : List VT) (x : VT) : x ∈ l.reverse ++ l ↔ x ∈ l := by simp

theorem turned_err {d : Nat} {l : List VT} (h : listErr d l = 0) (h2 : 2 * l.length ≤ 65536) : listErr d (l.reverse ++ l) = 0 := by
  obtain ⟨_, hr⟩ := listErr_zero h
  unfold listErr
  rw [if_neg (by simp; omega)]
  have : (l.reverse ++ l).all (rightV d) = true := List.all_eq_true.2 fun x hx => hr x ((turned_mem l x).1 hx)
  rw [this]; rfl

theorem rev_step (ps : List PR) (j : Nat) (h : j < ps.length) : ps.reverse.take (j + 1) = ps.reverse.take j ++ [ps[ps.length - 1 - j]'(by omega)] := by
  rw [List.take_succ_eq_append_getElem (by simpa using h), List.getElem_reverse]

set_option maxHeartbeats 4000000 in
theorem turned_any (hsp : Hid (∀ W : World, Calls Try.prog 15 #[] W fun e W' => e = .returned (.bool true) ∧ Below W.heap.size W W'))
    (d : Nat) (l : List VT) (a : Option Addr) (c : Nat) (w : World) (hu : Lies (d + 1) w l (.slice a l.length c)) (hlen : l.length ≤ 9223372036854775807) :
    Calls Try.prog 8 #[.slice a l.length c] w fun e w' => e = .returned (.bool true) ∧ Below w.heap.size w w' := by
  have HL : Hid (Lies (d + 1) w l (.slice a l.length c)) := hu
  clear hu
  go_enter Try.func8, Try.ntmps8
  go_wp2_with fail
  refine (set_any d l a c _ HL.out).mono ?_
  rintro e w1 ⟨hb1, hres⟩
  rcases hres with ⟨he, rfl⟩ | ⟨he, m, hM, ⟨hf, rfl⟩ | ⟨hf, v, rfl, hLm⟩⟩
  · have he' : (listErr d l != 0) = true := by simpa using he
    have he2 : (listErr d l == 0) = false := by simpa using he
    unfold zeroAgg
    have hbx : Below w.heap.size w (w1.alloc (.cells #[.int .i64 0, .int .i64 0, .string ⟨#[]⟩, .slice none 0 0] 24)) := hb1.alloc hb1.size _
    go_wp2_with fail
    refine (hsp.out _).mono ?_
    rintro e w2 ⟨rfl, hb2⟩
    go_wp2_with fail
    go_ret
    exact ⟨rfl, hbx.trans (hb2.mono hbx.size)⟩
  · unfold zeroAgg
    have hbx : Below w.heap.size w (w1.alloc (.cells #[.int .i64 0, .int .i64 0, .string ⟨#[]⟩, .slice none 0 0] 24)) := hb1.alloc hb1.size _
    clear he hf
    go_wp2_with fail
    refine (hsp.out _).mono ?_
    rintro e w2 ⟨rfl, hb2⟩
    go_wp2_with fail
    go_ret
    exact ⟨rfl, hbx.trans (hb2.mono hbx.size)⟩
  · have hlen2 := (listErr_zero he).1
    obtain ⟨av, cv, rfl, _⟩ := Lies.slice hLm
    have hbx : Below w.heap.size w (w1.alloc (.cells #[.int .i64 5, .int .i64 0, .string ⟨#[]⟩, .slice av m.length cv] 24)) := hb1.alloc hb1.size _
    have HBx : Hid (Boxed (w1.alloc (.cells #[.int .i64 5, .int .i64 0, .string ⟨#[]⟩, .slice av m.length cv] 24)) w1.heap.size 5 0 ⟨#[]⟩ (.slice av m.length cv)) := boxed_alloc w1 5 0 ⟨#[]⟩ (.slice av m.length cv) 24
    by_cases h2 : 2 * l.length ≤ 65536
    · have hle : ¬ (65536 : Int) < 2 * (l.length : Int) := by omega
      have HF : Hid (listErr d l = 0 ∧ Members d l m ∧ (fw (d + 1) ⟨5, 0, ⟨#[]⟩, m⟩ 16 1024).1 = true ∧ Lies (d + 1) (w1.alloc (.cells #[.int .i64 5, .int .i64 0, .string ⟨#[]⟩, .slice av m.length cv] 24)) m (.slice av m.length cv)) := ⟨he, hM, hf, Lies.keeps ((Grew.refl w1).alloc _).below _ _ _ hLm⟩
      clear he hM hf hLm
      go_wp2_with fail
      generalize hWB : (w1.alloc (.cells #[.int .i64 5, .int .i64 0, .string ⟨#[]⟩, .slice av m.length cv] 24)) = Wb at *
      have hB1 : w1.heap.size < Wb.heap.size := cell_lt HBx.out.c0
      clear hWB hb1
      obtain ⟨i0, hi, hz0, hz1, hz2⟩ := info24
      have Hi : Hid _ := hi; have Hz0 : Hid _ := hz0; have Hz1 : Hid _ := hz1; have Hz2 : Hid _ := hz2
      clear hi hz0 hz1 hz2
      by_cases hne : l = []
      · subst hne
        go_loopg [5, 6] 1 (fun q v i wr => v = .slice none 0 0 ∧ i = .int .i64 (-1) ∧ wr = Wb)
        case atStart => exact ⟨rfl, rfl, rfl⟩
        case round =>
          obtain ⟨rfl, rfl, hwb⟩ := hrel
          rw [hwb]
          clear hwb
          cases a with
          | none =>
            go_wp2_with fail
            have hset : Calls Try.prog 20 #[.slice none 0 0] Wb (SetPost d [] Wb) := set_any d [] none 0 Wb ⟨none, 0, rfl, by simp, fun h => absurd rfl h⟩
            refine Calls.mono hset ?_
            rintro e w3 ⟨hb3, hres⟩
            have he2 : listErr d ([] : List VT) = 0 := HF.out.1
            rcases hres with ⟨hbad, _⟩ | ⟨_, m', hM', hres⟩
            · exact absurd he2 hbad
            have hmm : m = m' := members_one HF.out.2.1 hM' (fun x => Iff.rfl)
            subst hmm
            rcases hres with ⟨hf', _⟩ | ⟨_, v2, rfl, hLm2⟩
            · rw [HF.out.2.2.1] at hf'; cases hf'
            have hbw3 : Below Wb.heap.size Wb w3 := hb3
            obtain ⟨a2, c2, rfl, _⟩ := Lies.slice hLm2
            have Hright : Hid (rightV (d + 1) ⟨5, 0, ⟨#[]⟩, m⟩ = true) := set_right d m HF.out.2.1.strict (fun x hx => (listErr_zero HF.out.1).2 x ((HF.out.2.1.mem x).1 hx)) HF.out.2.2.1
            have hB2 : Below Wb.heap.size Wb (w3.alloc (.cells #[.int .i64 5, .int .i64 0, .string ⟨#[]⟩, .slice a2 m.length c2] 24)) := hbw3.alloc hbw3.size _
            obtain ⟨x0, x1, x2, x3⟩ := HBx.out.keeps hB2
            obtain ⟨y0, y1, y2, y3⟩ := boxed_alloc w3 5 0 ⟨#[]⟩ (.slice a2 m.length c2) 24
            have HLs : Hid (Lies (d + 1) (w3.alloc (.cells #[.int .i64 5, .int .i64 0, .string ⟨#[]⟩, .slice a2 m.length c2] 24)) m (.slice av m.length cv)) := Lies.keeps hB2 _ _ _ HF.out.2.2.2
            have HLt : Hid (Lies (d + 1) (w3.alloc (.cells #[.int .i64 5, .int .i64 0, .string ⟨#[]⟩, .slice a2 m.length c2] 24)) m (.slice a2 m.length c2)) := Lies.keeps ((Grew.refl w3).alloc _).below _ _ _ hLm2
            have hsm := same_any (d + 1) ⟨5, 0, ⟨#[]⟩, m⟩ ⟨5, 0, ⟨#[]⟩, m⟩ _ _ _ HLs.out HLt.out
            rw [same_self] at hsm
            have Hsm : Hid _ := hsm
            have hb1s : w1.heap.size < w3.heap.size := by have := hbw3.size; omega
            clear hset he2 hM' hLm2 hb3 hsm
            go_wp2_with fail
            refine Calls.mono Hsm.out ?_
            rintro e w4 ⟨rfl, hg4⟩
            have hB4 : Below Wb.heap.size Wb w4 := hB2.trans (hg4.below.mono hB2.size)
            have HLs4 : Hid (Lies (d + 1) w4 m (.slice av m.length cv)) := Lies.keeps hg4.below _ _ _ HLs.out
            clear x0 x1 x2 x3 y0 y1 y2 y3 Hsm hg4 HLs HLt
            obtain ⟨x0, x1, x2, x3⟩ := HBx.out.keeps hB4
            go_wp2_with fail
            have hck := check_any (d + 1) ⟨5, 0, ⟨#[]⟩, m⟩ _ w4 HLs4.out (by show 0 ≤ 9223372036854775807; omega)
            rw [Hright.out] at hck
            refine Calls.mono hck ?_
            rintro e w5 ⟨rfl, hb5⟩
            have hB5 : Below w.heap.size w w5 := (hbx.trans (hB4.mono hbx.size)).trans (hb5.mono (by have := hB4.size; have := hbx.size; omega))
            have he0 : errOf true = 0 := rfl
            rw [he0]
            clear hck hb5 x0 x1 x2 x3 he0
            go_wp2_with fail
            refine (hsp.out _).mono ?_
            rintro e w6 ⟨rfl, hb6⟩
            go_wp2_with fail
            go_ret
            exact ⟨rfl, hB5.trans (hb6.mono hB5.size)⟩
          | some ad =>
            go_wp2_with (first
              | (at_builtin; refine wpList_append_own _ rfl _ _ 22 rfl Wb.heap.size 24 i0 (.agg #[.int .i64 0, .int .i64 0, .string ⟨#[]⟩, .slice none 0 0]) 4 56 Try.underlying22 Hi.out Hz0.out Hz1.out Hz2.out rfl (by decide) (.slice none 0 0) 0 [] rfl (World.ownsRow_nil _ _ _ _) ad 0 c [] rfl rfl ?c1 ?c2 ?c3 ?c4 ?c5 ?_))
            case c1 => intro q u hq; simp at hq
            case c2 => intro u hu; cases hu
            case c3 => unfold maxLen; omega
            case c4 => omega
            case c5 => exact Nat.le_refl _
            intro v' w2 _ hgrow hiff
            have hv' : v' = .slice none 0 0 := hiff
            rw [hv']
            have hb2 : Below Wb.heap.size Wb w2 := (Below.refl _ _).grown hgrow (Nat.le_refl _) (by intro k hk; cases hk)
            clear hgrow hiff hv'
            go_wp2_with fail
            have hset : Calls Try.prog 20 #[.slice none 0 0] w2 (SetPost d [] w2) := set_any d [] none 0 w2 ⟨none, 0, rfl, by simp, fun h => absurd rfl h⟩
            refine Calls.mono hset ?_
            rintro e w3 ⟨hb3, hres⟩
            have he2 : listErr d ([] : List VT) = 0 := HF.out.1
            rcases hres with ⟨hbad, _⟩ | ⟨_, m', hM', hres⟩
            · exact absurd he2 hbad
            have hmm : m = m' := members_one HF.out.2.1 hM' (fun x => Iff.rfl)
            subst hmm
            rcases hres with ⟨hf', _⟩ | ⟨_, v2, rfl, hLm2⟩
            · rw [HF.out.2.2.1] at hf'; cases hf'
            have hbw3 : Below Wb.heap.size Wb w3 := hb2.trans (hb3.mono hb2.size)
            obtain ⟨a2, c2, rfl, _⟩ := Lies.slice hLm2
            have Hright : Hid (rightV (d + 1) ⟨5, 0, ⟨#[]⟩, m⟩ = true) := set_right d m HF.out.2.1.strict (fun x hx => (listErr_zero HF.out.1).2 x ((HF.out.2.1.mem x).1 hx)) HF.out.2.2.1
            have hB2 : Below Wb.heap.size Wb (w3.alloc (.cells #[.int .i64 5, .int .i64 0, .string ⟨#[]⟩, .slice a2 m.length c2] 24)) := hbw3.alloc hbw3.size _
            obtain ⟨x0, x1, x2, x3⟩ := HBx.out.keeps hB2
            obtain ⟨y0, y1, y2, y3⟩ := boxed_alloc w3 5 0 ⟨#[]⟩ (.slice a2 m.length c2) 24
            have HLs : Hid (Lies (d + 1) (w3.alloc (.cells #[.int .i64 5, .int .i64 0, .string ⟨#[]⟩, .slice a2 m.length c2] 24)) m (.slice av m.length cv)) := Lies.keeps hB2 _ _ _ HF.out.2.2.2
            have HLt : Hid (Lies (d + 1) (w3.alloc (.cells #[.int .i64 5, .int .i64 0, .string ⟨#[]⟩, .slice a2 m.length c2] 24)) m (.slice a2 m.length c2)) := Lies.keeps ((Grew.refl w3).alloc _).below _ _ _ hLm2
            have hsm := same_any (d + 1) ⟨5, 0, ⟨#[]⟩, m⟩ ⟨5, 0, ⟨#[]⟩, m⟩ _ _ _ HLs.out HLt.out
            rw [same_self] at hsm
            have Hsm : Hid _ := hsm
            have hb1s : w1.heap.size < w3.heap.size := by have := hbw3.size; omega
            clear hset he2 hM' hLm2 hb3 hsm
            go_wp2_with fail
            refine Calls.mono Hsm.out ?_
            rintro e w4 ⟨rfl, hg4⟩
            have hB4 : Below Wb.heap.size Wb w4 := hB2.trans (hg4.below.mono hB2.size)
            have HLs4 : Hid (Lies (d + 1) w4 m (.slice av m.length cv)) := Lies.keeps hg4.below _ _ _ HLs.out
            clear x0 x1 x2 x3 y0 y1 y2 y3 Hsm hg4 HLs HLt
            obtain ⟨x0, x1, x2, x3⟩ := HBx.out.keeps hB4
            go_wp2_with fail
            have hck := check_any (d + 1) ⟨5, 0, ⟨#[]⟩, m⟩ _ w4 HLs4.out (by show 0 ≤ 9223372036854775807; omega)
            rw [Hright.out] at hck
            refine Calls.mono hck ?_
            rintro e w5 ⟨rfl, hb5⟩
            have hB5 : Below w.heap.size w w5 := (hbx.trans (hB4.mono hbx.size)).trans (hb5.mono (by have := hB4.size; have := hbx.size; omega))
            have he0 : errOf true = 0 := rfl
            rw [he0]
            clear hck hb5 x0 x1 x2 x3 he0
            go_wp2_with fail
            refine (hsp.out _).mono ?_
            rintro e w6 ⟨rfl, hb6⟩
            go_wp2_with fail
            go_ret
            exact ⟨rfl, hB5.trans (hb6.mono hB5.size)⟩
      · obtain ⟨a0, c0, hv, _, ps, hps, hsd, hrow⟩ := Lies.row (Lies.keeps hbx _ _ _ HL.out)
        obtain ⟨b, o, ha, hr⟩ := hrow hne
        have e1 : ps.length = l.length := by rw [← hps, List.length_map]
        have hva : a = some ⟨b, o, none⟩ := by
          simp only [Value.slice.injEq] at hv
          rw [hv.1, ha]
        subst hva
        have HR : Hid (RowAt Wb b o ps) := hr
        have HS : Hid (∀ p ∈ ps, Sound d Wb p) := hsd
        have Hps : Hid (ps.map (·.1) = l ∧ ps.length = l.length) := ⟨hps, e1⟩
        have HNe : Hid (l ≠ []) := hne
        clear hv hrow ha hr hsd hps e1 hne
        go_loopg [5, 6] (l.length + 1) (fun q v i wr => ∃ (j : Nat) (t : Int), i = .int .i64 t ∧ Hid (t = (l.length : Int) - 1 - j) ∧ j ≤ l.length ∧ q = l.length + 1 - j ∧ wr.ownsRow Wb.heap.size 24 4 v j ((ps.reverse.take j).flatMap encP) ∧ Below Wb.heap.size Wb wr)
        case atStart => exact ⟨0, (l.length : Int) - 1, rfl, by show _ = _; omega, by omega, by omega, World.ownsRow_nil _ _ _ _, Below.refl _ _⟩
        case round =>
          obtain ⟨j, t, rfl, Ht, hj, hq, hown, hbw⟩ := hrel
          have Hq : Hid _ := hq
          have Hown : Hid (wr.ownsRow Wb.heap.size 24 4 u5 j ((ps.reverse.take j).flatMap encP)) := hown
          clear hq hown
          by_cases hlt : j < l.length
          · obtain ⟨idx, rfl⟩ : ∃ idx : Nat, t = (idx : Int) := ⟨(l.length - 1 - j), by have := Ht.out; omega⟩
            have hidx : idx < ps.length := by have := Ht.out; have := Hps.out.2; omega
            have hidl : idx < l.length := by have := Hps.out.2; omega
            obtain ⟨p0, p1, p2, p3⟩ := HR.out idx hidx
            have p0 := cell_keeps hbw p0; have p1 := cell_keeps hbw p1; have p2 := cell_keeps hbw p2; have p3 := cell_keeps hbw p3
            obtain ⟨s1, _⟩ := HS.out ps[idx] (List.getElem_mem hidx)
            obtain ⟨bx, dx, ex, _⟩ := Lies.slice s1
            have Hone : Hid (∀ u ∈ encP ps[idx], u.oneCell' = true) := encP_one (HS.out ps[idx] (List.getElem_mem hidx))
            have Hrs : Hid (ps.reverse.take (j + 1) = ps.reverse.take j ++ [ps[idx]]) := by
              show _ = _
              have hjp : j < ps.length := by have := Hps.out.2; omega
              have h := rev_step ps j hjp
              have e : ps.length - 1 - j = idx := by have := Ht.out; have := Hps.out.2; omega
              simp only [e] at h
              exact h
            have Hpp : Hid (encP ps[idx] = [.int .i64 ps[idx].1.kind, .int .i64 ps[idx].1.num, .string ps[idx].1.text, .slice bx ps[idx].1.items.length dx]) := by show _ = _; rw [← ex]; rfl
            rw [ex] at p3
            generalize ps[idx] = X at *
            clear s1 ex
            go_wp2_with (first
              | (at_builtin; refine wpList_append_own _ rfl _ _ 22 rfl Wb.heap.size 24 i0 (.agg #[.int .i64 0, .int .i64 0, .string ⟨#[]⟩, .slice none 0 0]) 4 56 Try.underlying22 Hi.out Hz0.out Hz1.out Hz2.out rfl (by decide) _ _ _ rfl (own_keeps Hown.out ((Below.refl _ _).alloc (Nat.le_refl _) _)) ⟨wr.heap.size, 0, none⟩ 1 1 (encP X) rfl rfl ?c1 ?c2 ?c3 ?c4 ?c5 ?_))
            case c1 =>
              intro q u hq
              rw [Hpp.out] at hq
              match q, hq with
              | 0, hq => simp at hq; subst hq; simp [Addr.add]
              | 1, hq => simp at hq; subst hq; simp [Addr.add]
              | 2, hq => simp at hq; subst hq; simp [Addr.add]
              | 3, hq => simp at hq; subst hq; simp [Addr.add]
            case c2 => exact Hone.out
            case c3 => unfold maxLen; omega
            case c4 => omega
            case c5 => have := hbw.size; simp; omega
            intro v' w2 hown' hgrow _
            have hb2 : Below Wb.heap.size Wb w2 := (hbw.alloc hbw.size _).grown hgrow (by have := hbw.size; simp; omega) (by
              intro k hk
              rcases Hown.out.2 with ⟨hv, _⟩ | ⟨g, cap', cur, hv, hbs, _⟩
              · rw [hv] at hk; cases hk
              · rw [hv] at hk; simp [Value.ownBlock] at hk; omega)
            have Hown2 : Hid (w2.ownsRow Wb.heap.size 24 4 v' (j + 1) ((ps.reverse.take j).flatMap encP ++ encP X)) := hown'
            clear hown' hgrow Hown p0 p1 p2 p3
            go_wp2_with fail
            go_roundg (l.length + 1 - (j + 1))
            case measure => have := Hq.out; omega
            case rel =>
              refine ⟨j + 1, (idx : Int) - 1, rfl, ?_, by omega, rfl, ?_, hb2⟩
              · have := Ht.out; show _ = _; omega
              · rw [Hrs.out, List.flatMap_append, List.flatMap_cons, List.flatMap_nil, List.append_nil]; exact Hown2.out
          · have hjl : j = l.length := by omega
            subst hjl
            have ht1 : t = -1 := by have := Ht.out; omega
            subst ht1
            have hpl : ps.length = l.length := Hps.out.2
            have Hnl : Hid ((ps.flatMap encP).length = l.length * 4) := by show _ = _; rw [flat_len, hpl]
            clear hpl hlt hj hlen
            go_wp2_with (first
              | (at_builtin; refine wpList_append_own _ rfl _ _ 22 rfl Wb.heap.size 24 i0 (.agg #[.int .i64 0, .int .i64 0, .string ⟨#[]⟩, .slice none 0 0]) 4 56 Try.underlying22 Hi.out Hz0.out Hz1.out Hz2.out rfl (by decide) _ _ _ rfl Hown.out ⟨b, o, none⟩ l.length c (ps.flatMap encP) rfl Hnl.out ?c1 ?c2 ?c3 ?c4 ?c5 ?_))
            case c1 =>
              intro q u hq
              have h := RowAt.flat HR.out q u hq
              have hadd : (⟨b, o, none⟩ : Addr).add q = ⟨b, o + q, none⟩ := by
                unfold Addr.add
                by_cases hk : q = 0
                · subst hk; rfl
                · rw [if_neg hk]
              rw [hadd]
              exact cell_keeps hbw h
            case c2 =>
              intro u hu
              obtain ⟨p, hp, hup⟩ := List.mem_flatMap.1 hu
              exact encP_one (HS.out p hp) u hup
            case c3 => unfold maxLen; omega
            case c4 => omega
            case c5 => exact hbw.size
            intro v' w2 hown' hgrow _
            have hb2 : Below Wb.heap.size Wb w2 := hbw.grown hgrow hbw.size (by
              intro k hk
              rcases Hown.out.2 with ⟨hv, _⟩ | ⟨g, cap', cur, hv, hbs, _⟩
              · rw [hv] at hk; cases hk
              · rw [hv] at hk; simp [Value.ownBlock] at hk; omega)
            have hts : (ps.reverse ++ ps).length = l.length + l.length := by have := Hps.out.2; simp; omega
            have hown2 : w2.ownsRow Wb.heap.size 24 4 v' (ps.reverse ++ ps).length ((ps.reverse ++ ps).flatMap encP) := by
              rw [hts, List.flatMap_append]
              have h := hown'
              rw [List.take_of_length_le (by have := Hps.out.2; simp; omega)] at h
              exact h
            obtain ⟨g, cap, rfl, _, hcapT, _, hrow2, _⟩ := own_row hown2 (by intro e; rw [e] at hts; simp at hts; have := Hps.out; have hlz : l.length = 0 := by omega
                                                                             exact absurd (List.eq_nil_of_length_eq_zero hlz) HNe.out)
            have hmapl : (ps.reverse ++ ps).map (·.1) = l.reverse ++ l := by rw [List.map_append, List.map_reverse, Hps.out.1]
            have hL2 : Lies (d + 1) w2 ((ps.reverse ++ ps).map (·.1)) (.slice (some ⟨g, 0, none⟩) (ps.reverse ++ ps).length cap) := lies_of_row hrow2 (fun p hp => (HS.out p (by simpa using hp)).keeps hb2) (by rw [hts]; omega) hcapT
            rw [hmapl] at hL2
            have hle2 : (ps.reverse ++ ps).length = (l.reverse ++ l).length := by rw [hts]; simp
            rw [hle2] at hL2 ⊢
            have HL2 : Hid (Lies (d + 1) w2 (l.reverse ++ l) (.slice (some ⟨g, 0, none⟩) (l.reverse ++ l).length cap)) := hL2
            clear hown' hgrow Hown hown2 hrow2 hmapl hL2 hle2 hts
            have hbxw : Below w.heap.size w w2 := hbx.trans (hb2.mono hbx.size)
            generalize hN : (l.reverse ++ l).length = N at *
            have HN : Hid ((l.reverse ++ l).length = N) := hN
            clear hN
            go_wp2_with fail
            have hset := set_any d (l.reverse ++ l) (some ⟨g, 0, none⟩) cap w2 (by rw [HN.out]; exact HL2.out)
            rw [HN.out] at hset
            refine Calls.mono hset ?_
            rintro e w3 ⟨hb3, hres⟩
            have he2 := turned_err HF.out.1 h2
            rcases hres with ⟨hbad, _⟩ | ⟨_, m', hM', hres⟩
            · exact absurd he2 hbad
            have hmm : m = m' := members_one HF.out.2.1 hM' (fun x => (turned_mem l x).symm)
            subst hmm
            rcases hres with ⟨hf', _⟩ | ⟨_, v2, rfl, hLm2⟩
            · rw [HF.out.2.2.1] at hf'; cases hf'
            have hbw3 : Below Wb.heap.size Wb w3 := hb2.trans (hb3.mono hb2.size)
            obtain ⟨a2, c2, rfl, _⟩ := Lies.slice hLm2
            have Hright : Hid (rightV (d + 1) ⟨5, 0, ⟨#[]⟩, m⟩ = true) := set_right d m HF.out.2.1.strict (fun x hx => (listErr_zero HF.out.1).2 x ((HF.out.2.1.mem x).1 hx)) HF.out.2.2.1
            have hB2 : Below Wb.heap.size Wb (w3.alloc (.cells #[.int .i64 5, .int .i64 0, .string ⟨#[]⟩, .slice a2 m.length c2] 24)) := hbw3.alloc hbw3.size _
            obtain ⟨x0, x1, x2, x3⟩ := HBx.out.keeps hB2
            obtain ⟨y0, y1, y2, y3⟩ := boxed_alloc w3 5 0 ⟨#[]⟩ (.slice a2 m.length c2) 24
            have HLs : Hid (Lies (d + 1) (w3.alloc (.cells #[.int .i64 5, .int .i64 0, .string ⟨#[]⟩, .slice a2 m.length c2] 24)) m (.slice av m.length cv)) := Lies.keeps hB2 _ _ _ HF.out.2.2.2
            have HLt : Hid (Lies (d + 1) (w3.alloc (.cells #[.int .i64 5, .int .i64 0, .string ⟨#[]⟩, .slice a2 m.length c2] 24)) m (.slice a2 m.length c2)) := Lies.keeps ((Grew.refl w3).alloc _).below _ _ _ hLm2
            have hsm := same_any (d + 1) ⟨5, 0, ⟨#[]⟩, m⟩ ⟨5, 0, ⟨#[]⟩, m⟩ _ _ _ HLs.out HLt.out
            rw [same_self] at hsm
            have Hsm : Hid _ := hsm
            have hb1s : w1.heap.size < w3.heap.size := by have := hbw3.size; omega
            clear hset he2 hM' hLm2 hb3 hsm HL2
            go_wp2_with fail
            refine Calls.mono Hsm.out ?_
            rintro e w4 ⟨rfl, hg4⟩
            have hB4 : Below Wb.heap.size Wb w4 := hB2.trans (hg4.below.mono hB2.size)
            have HLs4 : Hid (Lies (d + 1) w4 m (.slice av m.length cv)) := Lies.keeps hg4.below _ _ _ HLs.out
            clear x0 x1 x2 x3 y0 y1 y2 y3 Hsm hg4 HLs HLt
            obtain ⟨x0, x1, x2, x3⟩ := HBx.out.keeps hB4
            go_wp2_with fail
            have hck := check_any (d + 1) ⟨5, 0, ⟨#[]⟩, m⟩ _ w4 HLs4.out (by show 0 ≤ 9223372036854775807; omega)
            rw [Hright.out] at hck
            refine Calls.mono hck ?_
            rintro e w5 ⟨rfl, hb5⟩
            have hB5 : Below w.heap.size w w5 := (hbx.trans (hB4.mono hbx.size)).trans (hb5.mono (by have := hB4.size; have := hbx.size; omega))
            have he0 : errOf true = 0 := rfl
            rw [he0]
            clear hck hb5 x0 x1 x2 x3 he0
            go_wp2_with fail
            refine (hsp.out _).mono ?_
            rintro e w6 ⟨rfl, hb6⟩
            go_wp2_with fail
            go_ret
            exact ⟨rfl, hB5.trans (hb6.mono hB5.size)⟩
    · have hle : (65536 : Int) < 2 * (l.length : Int) := by omega
      clear he hM hf hLm
      go_wp2_with fail
      refine (hsp.out _).mono ?_
      rintro e w2 ⟨rfl, hb2⟩
      go_wp2_with fail
      go_ret
      exact ⟨rfl, hbx.trans (hb2.mono hbx.size)⟩

end Go.Proofs.Ytajjkkfegcmkkaa

