/-
  The contracts of the document's Done, Times and One.
-/
import Derived.Test.YtofceccicmlmoaaGreatRIs
import Derived.Deep.RegionHeld3
namespace Go.Proofs.YtofceccicmlmoaaGreat
open Go.RowKit

def sizeZ (t : VT) : Int := if t.kind = 3 then runesZ t.text else if t.kind = 6 then (t.items.length : Int).tdiv 2 else t.items.length

theorem set4_keep' {W : World} {n : Nat} {v0 v1 v2 v3 : Value} {a : Addr} {v : Value} (hn : a.block ≠ n) (h : W.cell? a = some v) : ((((W.setCell ⟨n, 0, none⟩ v0).setCell ⟨n, 1, none⟩ v1).setCell ⟨n, 2, none⟩ v2).setCell ⟨n, 3, none⟩ v3).cell? a = some v :=
  cell_other (g := n) (o := 0) (vs := [v0, v1, v2, v3]) hn h

set_option maxHeartbeats 400000 in
theorem r5int_any (n : Int) (w : World) : Calls Tryz.prog 42 #[.int .i64 n] w fun e w' => e = .returned (.agg #[.int .i64 2, .int .i64 n, .string ⟨#[]⟩, .slice none 0 0]) ∧ w' = w.alloc (.cells #[.int .i64 2, .int .i64 n, .string ⟨#[]⟩, .slice none 0 0] 24) := by
  go_enter Tryz.func42, Tryz.ntmps42
  go_wp2_with fail
  exact bodyPost_ret (v := .agg #[.int .i64 2, .int .i64 n, .string ⟨#[]⟩, .slice none 0 0]) (by simp [results, Tryz.results42, go_sem]) rfl ⟨rfl, rfl⟩

theorem right_own {t : VT} (h : rightV 16 t = true) : ownV 15 t = true := (rp_succ (d := 15) (right_rp h)).2

set_option maxHeartbeats 1000000 in
theorem rsize_any (t : VT) (a : Option Addr) (c : Nat) (w : World) (hr : rightV 16 t = true) : Calls Tryz.prog 43 #[.agg #[.int .i64 t.kind, .int .i64 t.num, .string t.text, .slice a t.items.length c]] w fun e w' => e = .returned (.int .i64 (sizeZ t)) ∧ ∃ o, w' = w.alloc o := by
  have hs := right_size hr
  have hn := right_len hr
  have hf := own_facts (right_own hr)
  have ht := right_text (right_own hr)
  clear hr
  cases h3 : (t.kind == 3)
  · have k3 : ¬ t.kind = 3 := by simpa using h3
    cases h4 : (t.kind == 4)
    · cases h5 : (t.kind == 5)
      · cases h6 : (t.kind == 6)
        · have k6 : ¬ t.kind = 6 := by simpa using h6
          have e0 : t.items.length = 0 := hf.2.2.2.2 (by simpa using h4) (by simpa using h5) k6
          have e : Hid (sizeZ t = 0) := by show _ = _; unfold sizeZ; rw [if_neg k3, if_neg k6, e0]; rfl
          clear hf ht k3 k6 e0
          go_enter Tryz.func43, Tryz.ntmps43
          go_wp2_with fail
          go_ret
          exact ⟨by rw [e.out]; rfl, _, rfl⟩
        · have k6 : t.kind = 6 := by simpa using h6
          have e : Hid (sizeZ t = (t.items.length : Int) / 2) := by show _ = _; unfold sizeZ; rw [if_neg k3, if_pos k6, Int.tdiv_eq_ediv_of_nonneg (by omega)]
          clear hf ht k3 k6
          go_enter Tryz.func43, Tryz.ntmps43
          go_wp2_with fail
          go_ret
          exact ⟨by rw [e.out]; rfl, _, rfl⟩
      · have k5 : t.kind = 5 := by simpa using h5
        have e : Hid (sizeZ t = t.items.length) := by show _ = _; unfold sizeZ; rw [if_neg k3, if_neg (by omega)]
        clear hf ht k3 k5
        go_enter Tryz.func43, Tryz.ntmps43
        go_wp2_with fail
        go_ret
        exact ⟨by rw [e.out]; rfl, _, rfl⟩
    · have k4 : t.kind = 4 := by simpa using h4
      have e : Hid (sizeZ t = t.items.length) := by show _ = _; unfold sizeZ; rw [if_neg k3, if_neg (by omega)]
      clear hf ht k3 k4
      go_enter Tryz.func43, Tryz.ntmps43
      go_wp2_with fail
      go_ret
      exact ⟨by rw [e.out]; rfl, _, rfl⟩
  · have k3 : t.kind = 3 := by simpa using h3
    have e : Hid (sizeZ t = lettersZ t.text) := by show _ = _; unfold sizeZ; rw [if_pos k3, runes_letters t.text (ht.2.1 k3)]
    clear hf ht k3
    go_enter Tryz.func43, Tryz.ntmps43
    go_wp2_with (go_at_call 65; refine (letters_any _ _ (by omega)).mono ?_; rintro e w' ⟨rfl, rfl⟩)
    go_ret
    exact ⟨by rw [e.out]; rfl, _, rfl⟩

theorem rfirst1_any (s : ByteArray) (w : World) (hs : s.size ≤ 4294967296) (h0 : 0 < s.size) : Calls Tryz.prog 66 #[.string s] w fun e w' => e = .returned (.int .i64 (utfW s 0)) ∧ w' = w := by
  go_enter Tryz.func66, Tryz.ntmps66
  go_wp2_with fail
  refine (utf_any s 0 _ hs h0).mono ?_
  rintro e w' ⟨rfl, rfl⟩
  go_wp2_with fail
  go_ret
  exact ⟨rfl, rfl⟩

set_option maxHeartbeats 2000000 in
theorem rfirst_text (X : Nat → Prop) (t : VT) (a : Option Addr) (c : Nat) (w : World) (hr : rightV 16 t = true) (k3 : t.kind = 3) : Calls Tryz.prog 44 #[.agg #[.int .i64 t.kind, .int .i64 t.num, .string t.text, .slice a t.items.length c]] w (FnPost X (firstT t) w) := by
  have hs := right_size hr
  have hf := own_facts (right_own hr)
  have ht := right_text (right_own hr)
  have h3 : (t.kind == 3) = true := by simpa using k3
  have h6 : (t.kind == 6) = false := by rw [k3]; rfl
  have e0 : t.items.length = 0 := hf.2.2.2.2 (by omega) (by omega) (by omega)
  rw [e0]
  by_cases h0 : 0 < t.text.size
  · obtain ⟨f1, f2, f3⟩ := first_ok t.text (ht.2.1 k3) h0
    have hrg := utfW_range t.text 0 h0
    have hz := utf_first t.text (ht.2.1 k3) h0
    obtain ⟨U, hU⟩ : ∃ U : Nat, utfW t.text 0 = U := ⟨(utfW t.text 0).toNat, by omega⟩
    rw [hU, Int.toNat_natCast] at f1
    have e : Hid (firstT t = ⟨3, 0, t.text.extract 0 U, []⟩) := by show _ = _; unfold firstT; rw [if_pos k3, if_pos h0, f1]
    have hU2 : U ≤ t.text.size := by omega
    have HF : Hid (∀ W, Calls Tryz.prog 66 #[.string t.text] W fun e w' => e = .returned (.int .i64 (U : Int)) ∧ w' = W) := by
      intro W
      have := rfirst1_any t.text W (by omega) h0
      rwa [hU] at this
    have hne : (t.text.toList == []) = false := by
      rw [beq_eq_false_iff_ne]
      intro h
      have : t.text = ⟨#[]⟩ := bytes_eq (by rw [h, Lib.toList_data])
      rw [this] at h0; exact absurd h0 (by decide)
    have hne' : (t.text.toList != []) = true := by simp [bne, hne]
    clear hrg hz hU f1 f2 f3 hf ht k3 e0
    go_enter Tryz.func44, Tryz.ntmps44
    go_wp2_with fail
    have HK : Hid (Bx ((w.alloc (.cells #[.int .i64 t.kind, .int .i64 t.num, .string t.text, .slice a 0 c] 24)).alloc (.cells #[.int .i64 0, .int .i64 0, .string ⟨#[]⟩, .slice none 0 0] 24)) (w.heap.size + 1) zeroT (.slice none 0 0)) := by
      have := bx_alloc (w.alloc (.cells #[.int .i64 t.kind, .int .i64 t.num, .string t.text, .slice a 0 c] 24)) zeroT (.slice none 0 0)
      rwa [World.size_alloc] at this
    have HX : Hid (Bx ((w.alloc (.cells #[.int .i64 t.kind, .int .i64 t.num, .string t.text, .slice a 0 c] 24)).alloc (.cells #[.int .i64 0, .int .i64 0, .string ⟨#[]⟩, .slice none 0 0] 24)) w.heap.size t (.slice a 0 c)) := (bx_alloc w t _).keeps ((Grew.refl _).alloc _).below
    have hbl : Below w.heap.size w ((w.alloc (.cells #[.int .i64 t.kind, .int .i64 t.num, .string t.text, .slice a 0 c] 24)).alloc (.cells #[.int .i64 0, .int .i64 0, .string ⟨#[]⟩, .slice none 0 0] 24)) := (Grew.two _ _ _).below
    generalize (w.alloc (.cells #[.int .i64 t.kind, .int .i64 t.num, .string t.text, .slice a 0 c] 24)).alloc (.cells #[.int .i64 0, .int .i64 0, .string ⟨#[]⟩, .slice none 0 0] 24) = W at *
    have x2 := HX.out.c2
    obtain ⟨y0, y1, y2, y3, z0, z1, z2, z3⟩ := HK.out
    have n1 : w.heap.size ≠ w.heap.size + 1 := by omega
    go_region_held3 (fun w' => w'.cell? ⟨w.heap.size, 2, none⟩ = some (.string t.text)) (first | go_keep | exact set4_keep' n1 x2)
      (first | (go_at_call 66; refine Calls.mono (HF.out _) ?_; rintro e w7 ⟨rfl, rfl⟩))
    have Hbx : Hid (Bx (W.setCells (w.heap.size + 1) 0 (encP (⟨3, 0, t.text.extract 0 U, []⟩, .slice none 0 0))) (w.heap.size + 1) ⟨3, 0, t.text.extract 0 U, []⟩ (.slice none 0 0)) := HK.out.put (⟨3, 0, t.text.extract 0 U, []⟩, .slice none 0 0)
    have Hbl : Hid (Below w.heap.size w (W.setCells (w.heap.size + 1) 0 (encP (⟨3, 0, t.text.extract 0 U, []⟩, .slice none 0 0))).drew) := (below_put hbl (Nat.le_succ _) (⟨3, 0, t.text.extract 0 U, []⟩, .slice none 0 0)).drew
    generalize t.text.extract 0 U = E at *
    go_wp2_with fail
    refine bodyPost_ret (v := .agg #[.int .i64 3, .int .i64 0, .string E, .slice none 0 0]) ?_ rfl (by rw [e.out]; exact ⟨_, rfl, liesX_nil _ _ _ _ _, Hbl.out⟩)
    obtain ⟨q0, q1, q2, q3, _, _, _, _⟩ := Hbx.out
    simp only [encP, World.setCells, Nat.zero_add, Nat.reduceAdd] at q0 q1 q2 q3
    simp [results, Tryz.results44, go_sem, q0, q1, q2, q3]
  · have e : Hid (firstT t = nilT) := by show _ = _; unfold firstT; rw [if_pos k3, if_neg h0]
    have hnil : t.text = ⟨#[]⟩ := by
      apply ByteArray.ext
      apply Array.eq_empty_of_size_eq_zero
      show t.text.size = 0
      omega
    rw [hnil]
    clear hf ht k3 e0 hs h0 hnil
    go_enter Tryz.func44, Tryz.ntmps44
    go_wp2_with fail
    exact bodyPost_ret (v := .agg #[.int .i64 0, .int .i64 0, .string ⟨#[]⟩, .slice none 0 0]) (by simp [results, Tryz.results44, go_sem]) rfl (by rw [e.out]; exact fnPost_nil (Grew.two _ _ _).below)

set_option maxHeartbeats 1000000 in
theorem rfirst_items (X : Nat → Prop) (t : VT) (u : Value) (w : World) (k3 : ¬ t.kind = 3) (hu : LiesX X 16 w t.items u) (h2 : t.kind = 6 → t.items ≠ [] → 2 ≤ t.items.length) : Calls Tryz.prog 44 #[.agg #[.int .i64 t.kind, .int .i64 t.num, .string t.text, u]] w (FnPost X (firstT t) w) := by
  have h3 : (t.kind == 3) = false := by simp [k3]
  obtain ⟨a, c, rfl, hlen⟩ := LiesX.slice hu
  have HL : Hid (LiesX X 16 w t.items (.slice a t.items.length c)) := hu
  cases hi : t.items with
  | nil =>
    have e : firstT t = nilT := by unfold firstT; rw [if_neg k3, hi]
    rw [e]
    clear e k3 hu h2 HL hlen
    cases h6 : (t.kind == 6)
    · go_enter Tryz.func44, Tryz.ntmps44
      go_wp2_with fail
      exact bodyPost_ret (v := .agg #[.int .i64 0, .int .i64 0, .string ⟨#[]⟩, .slice none 0 0]) (by simp [results, Tryz.results44, go_sem]) rfl (fnPost_nil (Grew.two _ _ _).below)
    · go_enter Tryz.func44, Tryz.ntmps44
      go_wp2_with fail
      exact bodyPost_ret (v := .agg #[.int .i64 0, .int .i64 0, .string ⟨#[]⟩, .slice none 0 0]) (by simp [results, Tryz.results44, go_sem]) rfl (fnPost_nil (Grew.two _ _ _).below)
  | cons x l =>
    rw [hi] at HL hlen hu
    obtain ⟨a', c', hv, _, hr⟩ := hu
    injection hv with hv1 hv2 hv3
    subst hv1 hv3
    clear hv2
    obtain ⟨b, o, rfl, hbb, hall⟩ := hr (by simp)
    obtain ⟨v, p0, p1, p2, p3, p4, _⟩ := hall 0 (by simp)
    simp only [Nat.zero_mul, Nat.add_zero, List.getElem_cons_zero] at p0 p1 p2 p3 p4
    clear hall hr
    obtain ⟨av, cv, rfl, _⟩ := LiesX.slice p4
    have hb : b < w.heap.size := cell_lt p0
    have hpos : (0 : Int) < ((x :: l).length : Int) := by simp
    cases h6 : (t.kind == 6)
    · have e : firstT t = x := by unfold firstT; rw [if_neg k3, hi]; simp only; rw [if_neg (by simpa using h6)]
      rw [e]
      have HP : Hid (LiesX X 15 w x.items (.slice av x.items.length cv)) := p4
      clear e k3 h2 HL p4
      go_enter Tryz.func44, Tryz.ntmps44
      go_wp2_with fail
      exact bodyPost_ret (v := .agg #[.int .i64 x.kind, .int .i64 x.num, .string x.text, .slice av x.items.length cv]) (by simp [results, Tryz.results44, go_sem]) rfl (fnPost_same (HP.out.atLeast 16 (by omega)) (Grew.two _ _ _).below)
    · have k6 : t.kind = 6 := by simpa using h6
      have h2' := h2 k6 (by rw [hi]; simp)
      rw [hi] at h2'
      have hll : 1 ≤ l.length := by simpa using h2'
      have e : firstT t = ⟨4, 0, ⟨#[]⟩, x :: l.take 1⟩ := by unfold firstT; rw [if_neg k3, hi]; simp only; rw [if_pos k6]
      rw [e]
      have hcap : (x :: l).length ≤ c := Lies.cap HL.out.lies
      have hc2 : 2 ≤ c := by simp at hcap; omega
      have HT : Hid (LiesX X 16 w (x :: l.take 1) (.slice (some ⟨b, o, none⟩) 2 2)) := lies_tail HL.out hll (Nat.le_refl _)
      clear e k3 h2 HL p4 k6 h2' hcap
      go_enter Tryz.func44, Tryz.ntmps44
      go_wp2_with fail
      exact bodyPost_ret (v := .agg #[.int .i64 4, .int .i64 0, .string ⟨#[]⟩, .slice (some ⟨b, o, none⟩) 2 2]) (by simp [results, Tryz.results44, go_sem]) rfl (fnPost_same (t := ⟨4, 0, ⟨#[]⟩, x :: l.take 1⟩) HT.out (Grew.two _ _ _).below)

theorem liesX_one {X : Nat → Prop} {d : Nat} {w : World} {t : VT} {u : Value} {b c : Nat} (hX : X b) (hb : Bx w b t u) (hl : LiesX X d w t.items u) (hs : t.text.size ≤ 9223372036854775807) (hc : 1 ≤ c) : LiesX X (d + 1) w [t] (.slice (some ⟨b, 0, none⟩) 1 c) := by
  refine ⟨some ⟨b, 0, none⟩, c, rfl, ⟨hc, by simp⟩, fun _ => ⟨b, 0, rfl, hX, fun i hi => ?_⟩⟩
  have : i = 0 := by simp at hi; omega
  subst this
  exact ⟨u, hb.c0, hb.c1, hb.c2, hb.c3, hl, hs⟩

set_option maxHeartbeats 1000000 in
theorem rdone1 (X : Nat → Prop) (t : VT) (a : Option Addr) (l c : Nat) (w : World) (h : LiesX X 16 w t.items (.slice a l c)) : Calls Tryz.prog 21 #[.int .i64 1, .agg #[.int .i64 t.kind, .int .i64 t.num, .string t.text, .slice a l c]] w (FnPost X (numT incI t) w) := by
  have HL : Hid (LiesX X 16 w t.items (.slice a l c)) := h
  clear h
  cases hk : (t.kind == 2)
  · rw [numT_no (by simpa using hk)]
    go_enter Tryz.func21, Tryz.ntmps21
    go_wp2_with fail
    exact bodyPost_ret (v := .agg #[.int .i64 t.kind, .int .i64 t.num, .string t.text, .slice a l c]) (by simp [results, Tryz.results21, go_sem]) rfl (fnPost_same HL.out (Grew.two _ _ _).below)
  · rw [numT_yes (by simpa using hk)]
    go_enter Tryz.func21, Tryz.ntmps21
    go_wp2_with (go_at_call 42; refine (r5int_any _ _).mono ?_; rintro e w' ⟨rfl, rfl⟩)
    exact bodyPost_ret (v := .agg #[.int .i64 2, .int .i64 (incI t.num), .string ⟨#[]⟩, .slice none 0 0]) (by simp [results, Tryz.results21, go_sem, incI]) rfl (fnPost_int (grew3 _ _ _ _))

set_option maxHeartbeats 1000000 in
theorem rdone2 (X : Nat → Prop) (t : VT) (a : Option Addr) (l c : Nat) (w : World) (h : LiesX X 16 w t.items (.slice a l c)) : Calls Tryz.prog 21 #[.int .i64 2, .agg #[.int .i64 t.kind, .int .i64 t.num, .string t.text, .slice a l c]] w (FnPost X (numT negI t) w) := by
  have HL : Hid (LiesX X 16 w t.items (.slice a l c)) := h
  clear h
  cases hk : (t.kind == 2)
  · rw [numT_no (by simpa using hk)]
    go_enter Tryz.func21, Tryz.ntmps21
    go_wp2_with fail
    exact bodyPost_ret (v := .agg #[.int .i64 t.kind, .int .i64 t.num, .string t.text, .slice a l c]) (by simp [results, Tryz.results21, go_sem]) rfl (fnPost_same HL.out (Grew.two _ _ _).below)
  · rw [numT_yes (by simpa using hk)]
    go_enter Tryz.func21, Tryz.ntmps21
    go_wp2_with (go_at_call 42; refine (r5int_any _ _).mono ?_; rintro e w' ⟨rfl, rfl⟩)
    exact bodyPost_ret (v := .agg #[.int .i64 2, .int .i64 (negI t.num), .string ⟨#[]⟩, .slice none 0 0]) (by simp [results, Tryz.results21, go_sem, negI]) rfl (fnPost_int (grew3 _ _ _ _))

set_option maxHeartbeats 1000000 in
theorem rdone7 (X : Nat → Prop) (t : VT) (a : Option Addr) (l c : Nat) (w : World) (h : LiesX X 16 w t.items (.slice a l c)) : Calls Tryz.prog 21 #[.int .i64 7, .agg #[.int .i64 t.kind, .int .i64 t.num, .string t.text, .slice a l c]] w (FnPost X (numT halfI t) w) := by
  have HL : Hid (LiesX X 16 w t.items (.slice a l c)) := h
  clear h
  cases hk : (t.kind == 2)
  · rw [numT_no (by simpa using hk)]
    go_enter Tryz.func21, Tryz.ntmps21
    go_wp2_with fail
    exact bodyPost_ret (v := .agg #[.int .i64 t.kind, .int .i64 t.num, .string t.text, .slice a l c]) (by simp [results, Tryz.results21, go_sem]) rfl (fnPost_same HL.out (Grew.two _ _ _).below)
  · rw [numT_yes (by simpa using hk)]
    go_enter Tryz.func21, Tryz.ntmps21
    go_wp2_with (go_at_call 42; refine (r5int_any _ _).mono ?_; rintro e w' ⟨rfl, rfl⟩)
    exact bodyPost_ret (v := .agg #[.int .i64 2, .int .i64 (halfI t.num), .string ⟨#[]⟩, .slice none 0 0]) (by simp [results, Tryz.results21, go_sem, halfI]) rfl (fnPost_int (grew3 _ _ _ _))

set_option maxHeartbeats 1000000 in
theorem rdone0 (X : Nat → Prop) (t : VT) (a : Option Addr) (l c : Nat) (w : World) (h : LiesX X 16 w t.items (.slice a l c)) : Calls Tryz.prog 21 #[.int .i64 0, .agg #[.int .i64 t.kind, .int .i64 t.num, .string t.text, .slice a l c]] w (FnPost X t w) := by
  have HL : Hid (LiesX X 16 w t.items (.slice a l c)) := h
  clear h
  cases hk : (t.kind == 2)
  · go_enter Tryz.func21, Tryz.ntmps21
    go_wp2_with fail
    exact bodyPost_ret (v := .agg #[.int .i64 t.kind, .int .i64 t.num, .string t.text, .slice a l c]) (by simp [results, Tryz.results21, go_sem]) rfl (fnPost_same HL.out (Grew.two _ _ _).below)
  · go_enter Tryz.func21, Tryz.ntmps21
    go_wp2_with fail
    exact bodyPost_ret (v := .agg #[.int .i64 t.kind, .int .i64 t.num, .string t.text, .slice a l c]) (by simp [results, Tryz.results21, go_sem]) rfl (fnPost_same HL.out (Grew.two _ _ _).below)

set_option maxHeartbeats 1000000 in
theorem rdone6 (X : Nat → Prop) (t : VT) (a : Option Addr) (l c : Nat) (w : World) : Calls Tryz.prog 21 #[.int .i64 6, .agg #[.int .i64 t.kind, .int .i64 t.num, .string t.text, .slice a l c]] w (FnPost X (intT t.kind) w) := by
  go_enter Tryz.func21, Tryz.ntmps21
  go_wp2_with (go_at_call 42; refine (r5int_any _ _).mono ?_; rintro e w' ⟨rfl, rfl⟩)
  exact bodyPost_ret (v := .agg #[.int .i64 2, .int .i64 t.kind, .string ⟨#[]⟩, .slice none 0 0]) (by simp [results, Tryz.results21, go_sem]) rfl (fnPost_int (grew3 _ _ _ _))

set_option maxHeartbeats 1000000 in
theorem rdone3 (X : Nat → Prop) (t : VT) (a : Option Addr) (c : Nat) (w : World) (hr : rightV 16 t = true) : Calls Tryz.prog 21 #[.int .i64 3, .agg #[.int .i64 t.kind, .int .i64 t.num, .string t.text, .slice a t.items.length c]] w (FnPost X (sizeT t) w) := by
  have e : sizeT t = intT (sizeZ t) := rfl
  rw [e]
  have HS : Hid (∀ W, Calls Tryz.prog 43 #[.agg #[.int .i64 t.kind, .int .i64 t.num, .string t.text, .slice a t.items.length c]] W fun e w' => e = .returned (.int .i64 (sizeZ t)) ∧ ∃ o, w' = W.alloc o) := fun W => rsize_any t a c W hr
  generalize sizeZ t = Z at *
  generalize t.items.length = l at *
  go_enter Tryz.func21, Tryz.ntmps21
  go_wp2_with (first | (go_at_call 42; refine (r5int_any _ _).mono ?_; rintro e w' ⟨rfl, rfl⟩) | (go_at_call 43; refine Calls.mono (HS.out _) ?_; rintro e w' ⟨rfl, o, rfl⟩))
  exact bodyPost_ret (v := .agg #[.int .i64 2, .int .i64 Z, .string ⟨#[]⟩, .slice none 0 0]) (by simp [results, Tryz.results21, go_sem]) rfl (fnPost_int (((Grew.two _ _ _).alloc _).alloc _).below)

set_option maxHeartbeats 1000000 in
theorem rdone4 (X : Nat → Prop) (t : VT) (a : Option Addr) (l c : Nat) (w : World) (Hf : Hid (∀ W, Below w.heap.size w W → Calls Tryz.prog 44 #[.agg #[.int .i64 t.kind, .int .i64 t.num, .string t.text, .slice a l c]] W (FnPost (fun b => X b ∧ b < w.heap.size) (firstT t) W))) : Calls Tryz.prog 21 #[.int .i64 4, .agg #[.int .i64 t.kind, .int .i64 t.num, .string t.text, .slice a l c]] w (FnPost X (firstT t) w) := by
  have hbl : Below w.heap.size w ((w.alloc (.cells #[.int .i64 t.kind, .int .i64 t.num, .string t.text, .slice a l c] 24)).alloc (.cells #[.int .i64 0, .int .i64 0, .string ⟨#[]⟩, .slice none 0 0] 24)) := (Grew.two _ _ _).below
  have HK : Hid (Bx ((w.alloc (.cells #[.int .i64 t.kind, .int .i64 t.num, .string t.text, .slice a l c] 24)).alloc (.cells #[.int .i64 0, .int .i64 0, .string ⟨#[]⟩, .slice none 0 0] 24)) (w.heap.size + 1) zeroT (.slice none 0 0)) := by
    have := bx_alloc (w.alloc (.cells #[.int .i64 t.kind, .int .i64 t.num, .string t.text, .slice a l c] 24)) zeroT (.slice none 0 0)
    rwa [World.size_alloc] at this
  generalize firstT t = s at *
  go_enter Tryz.func21, Tryz.ntmps21
  go_wp2_with fail
  refine Calls.mono (Hf.out _ hbl) ?_
  rintro e w3 ⟨v, rfl, hl3, hb3⟩
  have HR3 : Hid (Bx w3 (w.heap.size + 1) zeroT (.slice none 0 0)) := HK.out.keeps hb3
  have hbw : Below w.heap.size w w3 := hbl.trans (hb3.mono hbl.size)
  obtain ⟨a3, c3, rfl, _⟩ := LiesX.slice hl3
  simp only [World.size_alloc] at hl3
  obtain ⟨y0, y1, y2, y3, z0, z1, z2, z3⟩ := HR3.out
  have Hbx : Hid (Bx (w3.setCells (w.heap.size + 1) 0 (encP (s, .slice a3 s.items.length c3))) (w.heap.size + 1) s (.slice a3 s.items.length c3)) := HR3.out.put (s, .slice a3 s.items.length c3)
  have Hbl : Hid (Below w.heap.size w (w3.setCells (w.heap.size + 1) 0 (encP (s, .slice a3 s.items.length c3)))) := below_put hbw (Nat.le_succ _) (s, .slice a3 s.items.length c3)
  have Hfin : Hid (LiesX (fun b => X b ∨ w.heap.size ≤ b) 16 (w3.setCells (w.heap.size + 1) 0 (encP (s, .slice a3 s.items.length c3))) s.items (.slice a3 s.items.length c3)) := (hl3.set (g := w.heap.size + 1) (by omega)).mono (fun b hb => by
    rcases hb with hb | hb
    · exact .inl hb.1
    · exact .inr (by omega))
  clear hl3 hb3 hbl HK
  go_wp2_with fail
  refine bodyPost_ret (v := .agg #[.int .i64 s.kind, .int .i64 s.num, .string s.text, .slice a3 s.items.length c3]) ?_ rfl ⟨_, rfl, Hfin.out, Hbl.out⟩
  obtain ⟨q0, q1, q2, q3, _, _, _, _⟩ := Hbx.out
  simp only [encP, World.setCells, Nat.zero_add, Nat.reduceAdd] at q0 q1 q2 q3
  simp [results, Tryz.results21, go_sem, q0, q1, q2, q3]

end Go.Proofs.YtofceccicmlmoaaGreat

namespace Go.Proofs.YtofceccicmlmoaaGreat
open Go.RowKit

def wrap4 (w : World) (t : VT) (u : Value) : World :=
  (((w.alloc (.cells #[.int .i64 t.kind, .int .i64 t.num, .string t.text, u] 24)).alloc (.cells #[.int .i64 0, .int .i64 0, .string ⟨#[]⟩, .slice none 0 0] 24)).alloc (.cells #[.int .i64 t.kind, .int .i64 t.num, .string t.text, u] 24)).alloc (.cells #[.int .i64 4, .int .i64 0, .string ⟨#[]⟩, .slice (some ⟨w.heap.size + 1 + 1, 0, none⟩) 1 1] 24)

theorem wrap4_below (w : World) (t : VT) (u : Value) : Below w.heap.size w (wrap4 w t u) := (((Grew.two _ _ _).alloc _).alloc _).below
theorem wrap4_res (w : World) (t : VT) (u : Value) : Bx (wrap4 w t u) (w.heap.size + 1) zeroT (.slice none 0 0) := by
  have := (bx_alloc (w.alloc (.cells #[.int .i64 t.kind, .int .i64 t.num, .string t.text, u] 24)) zeroT (.slice none 0 0)).keeps (Grew.two _ (.cells #[.int .i64 t.kind, .int .i64 t.num, .string t.text, u] 24) (.cells #[.int .i64 4, .int .i64 0, .string ⟨#[]⟩, .slice (some ⟨w.heap.size + 1 + 1, 0, none⟩) 1 1] 24)).below
  rwa [World.size_alloc] at this
theorem wrap4_row (w : World) (t : VT) (u : Value) : Bx (wrap4 w t u) (w.heap.size + 1 + 1) t u := by
  have := (bx_alloc ((w.alloc (.cells #[.int .i64 t.kind, .int .i64 t.num, .string t.text, u] 24)).alloc (.cells #[.int .i64 0, .int .i64 0, .string ⟨#[]⟩, .slice none 0 0] 24)) t u).keeps ((Grew.refl _).alloc (.cells #[.int .i64 4, .int .i64 0, .string ⟨#[]⟩, .slice (some ⟨w.heap.size + 1 + 1, 0, none⟩) 1 1] 24)).below
  rwa [World.size_alloc, World.size_alloc] at this
theorem wrap4_val (w : World) (t : VT) (u : Value) : Bx (wrap4 w t u) (w.heap.size + 1 + 1 + 1) (listT [t]) (.slice (some ⟨w.heap.size + 1 + 1, 0, none⟩) 1 1) := by
  have := bx_alloc (((w.alloc (.cells #[.int .i64 t.kind, .int .i64 t.num, .string t.text, u] 24)).alloc (.cells #[.int .i64 0, .int .i64 0, .string ⟨#[]⟩, .slice none 0 0] 24)).alloc (.cells #[.int .i64 t.kind, .int .i64 t.num, .string t.text, u] 24)) (listT [t]) (.slice (some ⟨w.heap.size + 1 + 1, 0, none⟩) 1 1)
  rwa [World.size_alloc, World.size_alloc, World.size_alloc] at this

set_option maxHeartbeats 2000000 in
theorem rdone5 (X : Nat → Prop) (t : VT) (a : Option Addr) (l c : Nat) (w : World) (h : LiesX X 16 w t.items (.slice a l c)) (hr : rightV 16 t = true) (hs : t.text.size ≤ 9223372036854775807) : Calls Tryz.prog 21 #[.int .i64 5, .agg #[.int .i64 t.kind, .int .i64 t.num, .string t.text, .slice a l c]] w (FnPost X (wrapT t) w) := by
  have HD : Hid (Dp 16 t) := Dp.of_lies 16 w t _ h.lies
  have hbl := wrap4_below w t (.slice a l c)
  have HR : Hid (Bx (wrap4 w t (.slice a l c)) (w.heap.size + 1) zeroT (.slice none 0 0)) := wrap4_res _ _ _
  have HV : Hid (Bx (wrap4 w t (.slice a l c)) (w.heap.size + 1 + 1 + 1) (listT [t]) (.slice (some ⟨w.heap.size + 1 + 1, 0, none⟩) 1 1)) := wrap4_val _ _ _
  have HL : Hid (LiesX (fun b => (X b ∧ b < w.heap.size) ∨ b = w.heap.size + 1 + 1) 17 (wrap4 w t (.slice a l c)) [t] (.slice (some ⟨w.heap.size + 1 + 1, 0, none⟩) 1 1)) :=
    liesX_one (.inr rfl) (wrap4_row w t _) ((h.both.keeps hbl).mono (fun _ h => .inl h)) hs (Nat.le_refl _)
  have HW : Hid (rightV 17 (listT [t]) = (fw 17 (listT [t]) 16 1024).1) := list_right [t] (fun x hx => by
    have : x = t := by simpa using hx
    subst this; exact hr)
  clear h hr
  go_enter Tryz.func21, Tryz.ntmps21
  go_wp2_with fail
  refine (right_any 17 (listT [t]) (.slice (some ⟨w.heap.size + 1 + 1, 0, none⟩) 1 1) _ HL.out.lies).mono ?_
  rintro e w1 ⟨rfl, hb⟩
  have hb : Below (wrap4 w t (.slice a l c)).heap.size (wrap4 w t (.slice a l c)) w1 := hb
  have hb1 : Below w.heap.size w w1 := hbl.trans (hb.mono hbl.size)
  have HR1 : Hid (Bx w1 (w.heap.size + 1) zeroT (.slice none 0 0)) := HR.out.keeps hb
  obtain ⟨x0, x1, x2, x3, _, _, _, _⟩ := HV.out.keeps hb
  have HL1 : Hid (LiesX (fun b => (X b ∧ b < w.heap.size) ∨ b = w.heap.size + 1 + 1) 17 w1 [t] (.slice (some ⟨w.heap.size + 1 + 1, 0, none⟩) 1 1)) := HL.out.keeps hb
  rw [HW.out]
  clear hb hbl HR HV HL HW
  obtain ⟨y0, y1, y2, y3, z0, z1, z2, z3⟩ := HR1.out
  cases hf : (fw 17 (listT [t]) 16 1024).1
  · have He : Hid (wrapT t = nilT) := by show _ = _; unfold wrapT; rw [hf]; rfl
    have Hbx : Hid (Bx (w1.setCells (w.heap.size + 1) 0 (encP (zeroT, .slice none 0 0))) (w.heap.size + 1) zeroT (.slice none 0 0)) := HR1.out.put (zeroT, .slice none 0 0)
    have Hbl : Hid (Below w.heap.size w (w1.setCells (w.heap.size + 1) 0 (encP (zeroT, .slice none 0 0)))) := below_put hb1 (Nat.le_succ _) (zeroT, .slice none 0 0)
    clear hf
    go_wp2_with fail
    refine bodyPost_ret (v := .agg #[.int .i64 0, .int .i64 0, .string ⟨#[]⟩, .slice none 0 0]) ?_ rfl (by rw [He.out]; exact fnPost_nil Hbl.out)
    obtain ⟨q0, q1, q2, q3, _, _, _, _⟩ := Hbx.out
    simp only [encP, World.setCells, Nat.zero_add, Nat.reduceAdd] at q0 q1 q2 q3
    simp [results, Tryz.results21, go_sem, q0, q1, q2, q3]
  · have He : Hid (wrapT t = listT [t]) := by show _ = _; unfold wrapT; rw [hf]; rfl
    have hd : Dp 16 (listT [t]) := dp_list hf (fun x hx => by
      have : x = t := by simpa using hx
      subst this; exact HD.out)
    have Hbx : Hid (Bx (w1.setCells (w.heap.size + 1) 0 (encP (listT [t], .slice (some ⟨w.heap.size + 1 + 1, 0, none⟩) 1 1))) (w.heap.size + 1) (listT [t]) (.slice (some ⟨w.heap.size + 1 + 1, 0, none⟩) 1 1)) := HR1.out.put (listT [t], .slice (some ⟨w.heap.size + 1 + 1, 0, none⟩) 1 1)
    have Hbl : Hid (Below w.heap.size w (w1.setCells (w.heap.size + 1) 0 (encP (listT [t], .slice (some ⟨w.heap.size + 1 + 1, 0, none⟩) 1 1)))) := below_put hb1 (Nat.le_succ _) (listT [t], .slice (some ⟨w.heap.size + 1 + 1, 0, none⟩) 1 1)
    have Hfin : Hid (LiesX (fun b => X b ∨ w.heap.size ≤ b) 16 (w1.setCells (w.heap.size + 1) 0 (encP (listT [t], .slice (some ⟨w.heap.size + 1 + 1, 0, none⟩) 1 1))) [t] (.slice (some ⟨w.heap.size + 1 + 1, 0, none⟩) 1 1)) := by
      have h2 := HL1.out.set (g := w.heap.size + 1) (o := 0) (vs := encP (listT [t], .slice (some ⟨w.heap.size + 1 + 1, 0, none⟩) 1 1)) (by omega)
      exact (LiesX.to (t := listT [t]) h2 hd).mono (fun b hb => by
        rcases hb with hb | hb
        · exact .inl hb.1
        · exact .inr (by omega))
    clear hf
    simp only [listT] at x0 x1 x2
    go_wp2_with fail
    refine bodyPost_ret (v := .agg #[.int .i64 4, .int .i64 0, .string ⟨#[]⟩, .slice (some ⟨w.heap.size + 1 + 1, 0, none⟩) 1 1]) ?_ rfl (by rw [He.out]; exact ⟨_, rfl, Hfin.out, Hbl.out⟩)
    obtain ⟨q0, q1, q2, q3, _, _, _, _⟩ := Hbx.out
    simp only [encP, listT, World.setCells, Nat.zero_add, Nat.reduceAdd] at q0 q1 q2 q3
    simp [results, Tryz.results21, go_sem, q0, q1, q2, q3]

theorem rdone_any (X : Nat → Prop) (q : Nat) (hq : q < 8) (t : VT) (u : Value) (w : World) (hl : LiesX X 16 w t.items u) (hr : rightV 16 t = true) :
    Calls Tryz.prog 21 #[.int .i64 q, .agg #[.int .i64 t.kind, .int .i64 t.num, .string t.text, u]] w (FnPost X (doneT q t) w) := by
  have hs := right_size hr
  obtain ⟨a, c, rfl, _⟩ := LiesX.slice hl
  match q, hq with
  | 0, _ => exact rdone0 X t a _ c w hl
  | 1, _ => exact rdone1 X t a _ c w hl
  | 2, _ => exact rdone2 X t a _ c w hl
  | 3, _ => exact rdone3 X t a c w hr
  | 4, _ =>
    refine rdone4 X t a _ c w (fun W hW => ?_)
    by_cases k3 : t.kind = 3
    · exact rfirst_text _ t a c W hr k3
    · exact rfirst_items _ t _ W k3 (hl.both.keeps hW) (fun h1 h2 => map_two hr h1 h2)
  | 5, _ => exact rdone5 X t a _ c w hl hr (by omega)
  | 6, _ => exact rdone6 X t a _ c w
  | 7, _ => exact rdone7 X t a _ c w hl

/-- What stands before a round. -/
structure RTurn (w wr : World) (N : Nat) (s : VT) (u : Value) : Prop where
  box : Bx wr N s u
  res : Bx wr (N + 1) zeroT (.slice none 0 0)
  lies : LiesX (fun b => b ≠ N ∧ b ≠ N + 1) 16 wr s.items u
  below : Below w.heap.size w wr

theorem RTurn.next {w wr w1 : World} {N : Nat} {s s' : VT} {u u' : Value} (h : RTurn w wr N s u) (hN : w.heap.size ≤ N) (hb : Below wr.heap.size wr w1) (hl : LiesX (fun b => (b ≠ N ∧ b ≠ N + 1) ∨ wr.heap.size ≤ b) 16 w1 s'.items u') :
    RTurn w (w1.setCells N 0 (encP (s', u'))) N s' u' := by
  have hsz : N + 1 < wr.heap.size := cell_lt h.res.c0
  refine ⟨(h.box.keeps hb).put (s', u'), (h.res.keeps hb).other (by omega) _, ?_, below_put (h.below.trans (hb.mono h.below.size)) hN (s', u')⟩
  exact (hl.mono (Y := fun b => b ≠ N ∧ b ≠ N + 1) (fun b hb => by omega)).set (by simp)

end Go.Proofs.YtofceccicmlmoaaGreat

