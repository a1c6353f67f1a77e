/-
  The contracts of the document's size, first and Done.
-/
import Derived.Test.YtacnfmamjbmhcaaIs
import Derived.Deep.RegionHeld3
namespace Go.Proofs.Ytacnfmamjbmhcaa
open Go.RowKit

def sizeZ (t : VT) : Int := if t.kind = 3 then runesZ t.text else if t.kind = 6 then (t.items.length : Int).tdiv 2 else t.items.length

theorem set4_keep' {W : World} {n : Nat} {v0 v1 v2 v3 : Value} {a : Addr} {v : Value} (hn : a.block ≠ n) (h : W.cell? a = some v) : ((((W.setCell ⟨n, 0, none⟩ v0).setCell ⟨n, 1, none⟩ v1).setCell ⟨n, 2, none⟩ v2).setCell ⟨n, 3, none⟩ v3).cell? a = some v :=
  cell_other (g := n) (o := 0) (vs := [v0, v1, v2, v3]) hn h

set_option maxHeartbeats 400000 in
theorem r5int_any (n : Int) (w : World) : Calls Try.prog 36 #[.int .i64 n] w fun e w' => e = .returned (.agg #[.int .i64 2, .int .i64 n, .string ⟨#[]⟩, .slice none 0 0]) ∧ w' = w.alloc (.cells #[.int .i64 2, .int .i64 n, .string ⟨#[]⟩, .slice none 0 0] 24) := by
  go_enter Try.func36, Try.ntmps36
  go_wp2_with fail
  exact bodyPost_ret (v := .agg #[.int .i64 2, .int .i64 n, .string ⟨#[]⟩, .slice none 0 0]) (by simp [results, Try.results36, go_sem]) rfl ⟨rfl, rfl⟩

theorem right_own {t : VT} (h : rightV 16 t = true) : ownV 15 t = true := (rp_succ (d := 15) (right_rp h)).2

set_option maxHeartbeats 1000000 in
theorem rsize_any (t : VT) (a : Option Addr) (c : Nat) (w : World) (hr : rightV 16 t = true) : Calls Try.prog 37 #[.agg #[.int .i64 t.kind, .int .i64 t.num, .string t.text, .slice a t.items.length c]] w fun e w' => e = .returned (.int .i64 (sizeZ t)) ∧ ∃ o, w' = w.alloc o := by
  have hs := right_size hr
  have hn := right_len hr
  have hf := own_facts (right_own hr)
  have ht := right_text (right_own hr)
  clear hr
  cases h3 : (t.kind == 3)
  · have k3 : ¬ t.kind = 3 := by simpa using h3
    cases h4 : (t.kind == 4)
    · cases h5 : (t.kind == 5)
      · cases h6 : (t.kind == 6)
        · have k6 : ¬ t.kind = 6 := by simpa using h6
          have e0 : t.items.length = 0 := hf.2.2.2.2 (by simpa using h4) (by simpa using h5) k6
          have e : Hid (sizeZ t = 0) := by show _ = _; unfold sizeZ; rw [if_neg k3, if_neg k6, e0]; rfl
          clear hf ht k3 k6 e0
          go_enter Try.func37, Try.ntmps37
          go_wp2_with fail
          go_ret
          exact ⟨by rw [e.out]; rfl, _, rfl⟩
        · have k6 : t.kind = 6 := by simpa using h6
          have e : Hid (sizeZ t = (t.items.length : Int) / 2) := by show _ = _; unfold sizeZ; rw [if_neg k3, if_pos k6, Int.tdiv_eq_ediv_of_nonneg (by omega)]
          clear hf ht k3 k6
          go_enter Try.func37, Try.ntmps37
          go_wp2_with fail
          go_ret
          exact ⟨by rw [e.out]; rfl, _, rfl⟩
      · have k5 : t.kind = 5 := by simpa using h5
        have e : Hid (sizeZ t = t.items.length) := by show _ = _; unfold sizeZ; rw [if_neg k3, if_neg (by omega)]
        clear hf ht k3 k5
        go_enter Try.func37, Try.ntmps37
        go_wp2_with fail
        go_ret
        exact ⟨by rw [e.out]; rfl, _, rfl⟩
    · have k4 : t.kind = 4 := by simpa using h4
      have e : Hid (sizeZ t = t.items.length) := by show _ = _; unfold sizeZ; rw [if_neg k3, if_neg (by omega)]
      clear hf ht k3 k4
      go_enter Try.func37, Try.ntmps37
      go_wp2_with fail
      go_ret
      exact ⟨by rw [e.out]; rfl, _, rfl⟩
  · have k3 : t.kind = 3 := by simpa using h3
    have e : Hid (sizeZ t = lettersZ t.text) := by show _ = _; unfold sizeZ; rw [if_pos k3, runes_letters t.text (ht.2.1 k3)]
    clear hf ht k3
    go_enter Try.func37, Try.ntmps37
    go_wp2_with (go_at_call 73; refine (letters_any _ _ (by omega)).mono ?_; rintro e w' ⟨rfl, rfl⟩)
    go_ret
    exact ⟨by rw [e.out]; rfl, _, rfl⟩

theorem rfirst1_any (s : ByteArray) (w : World) (hs : s.size ≤ 4294967296) (h0 : 0 < s.size) : Calls Try.prog 74 #[.string s] w fun e w' => e = .returned (.int .i64 (utfW s 0)) ∧ w' = w := by
  go_enter Try.func74, Try.ntmps74
  go_wp2_with fail
  refine (utf_any s 0 _ hs h0).mono ?_
  rintro e w' ⟨rfl, rfl⟩
  go_wp2_with fail
  go_ret
  exact ⟨rfl, rfl⟩

set_option maxHeartbeats 2000000 in
theorem rfirst_text (X : Nat → Prop) (t : VT) (a : Option Addr) (c : Nat) (w : World) (hr : rightV 16 t = true) (k3 : t.kind = 3) : Calls Try.prog 38 #[.agg #[.int .i64 t.kind, .int .i64 t.num, .string t.text, .slice a t.items.length c]] w (FnPost X (firstT t) w) := by
  have hs := right_size hr
  have hf := own_facts (right_own hr)
  have ht := right_text (right_own hr)
  have h3 : (t.kind == 3) = true := by simpa using k3
  have h6 : (t.kind == 6) = false := by rw [k3]; rfl
  have e0 : t.items.length = 0 := hf.2.2.2.2 (by omega) (by omega) (by omega)
  rw [e0]
  by_cases h0 : 0 < t.text.size
  · obtain ⟨f1, f2, f3⟩ := first_ok t.text (ht.2.1 k3) h0
    have hrg := utfW_range t.text 0 h0
    have hz := utf_first t.text (ht.2.1 k3) h0
    obtain ⟨U, hU⟩ : ∃ U : Nat, utfW t.text 0 = U := ⟨(utfW t.text 0).toNat, by omega⟩
    rw [hU, Int.toNat_natCast] at f1
    have e : Hid (firstT t = ⟨3, 0, t.text.extract 0 U, []⟩) := by show _ = _; unfold firstT; rw [if_pos k3, if_pos h0, f1]
    have hU2 : U ≤ t.text.size := by omega
    have HF : Hid (∀ W, Calls Try.prog 74 #[.string t.text] W fun e w' => e = .returned (.int .i64 (U : Int)) ∧ w' = W) := by
      intro W
      have := rfirst1_any t.text W (by omega) h0
      rwa [hU] at this
    have hne : (t.text.toList == []) = false := by
      rw [beq_eq_false_iff_ne]
      intro h
      have : t.text = ⟨#[]⟩ := bytes_eq (by rw [h, Lib.toList_data])
      rw [this] at h0; exact absurd h0 (by decide)
    have hne' : (t.text.toList != []) = true := by simp [bne, hne]
    clear hrg hz hU f1 f2 f3 hf ht k3 e0
    go_enter Try.func38, Try.ntmps38
    go_wp2_with fail
    have HK : Hid (Bx ((w.alloc (.cells #[.int .i64 t.kind, .int .i64 t.num, .string t.text, .slice a 0 c] 24)).alloc (.cells #[.int .i64 0, .int .i64 0, .string ⟨#[]⟩, .slice none 0 0] 24)) (w.heap.size + 1) zeroT (.slice none 0 0)) := by
      have := bx_alloc (w.alloc (.cells #[.int .i64 t.kind, .int .i64 t.num, .string t.text, .slice a 0 c] 24)) zeroT (.slice none 0 0)
      rwa [World.size_alloc] at this
    have HX : Hid (Bx ((w.alloc (.cells #[.int .i64 t.kind, .int .i64 t.num, .string t.text, .slice a 0 c] 24)).alloc (.cells #[.int .i64 0, .int .i64 0, .string ⟨#[]⟩, .slice none 0 0] 24)) w.heap.size t (.slice a 0 c)) := (bx_alloc w t _).keeps ((Grew.refl _).alloc _).below
    have hbl : Below w.heap.size w ((w.alloc (.cells #[.int .i64 t.kind, .int .i64 t.num, .string t.text, .slice a 0 c] 24)).alloc (.cells #[.int .i64 0, .int .i64 0, .string ⟨#[]⟩, .slice none 0 0] 24)) := (Grew.two _ _ _).below
    generalize (w.alloc (.cells #[.int .i64 t.kind, .int .i64 t.num, .string t.text, .slice a 0 c] 24)).alloc (.cells #[.int .i64 0, .int .i64 0, .string ⟨#[]⟩, .slice none 0 0] 24) = W at *
    have x2 := HX.out.c2
    obtain ⟨y0, y1, y2, y3, z0, z1, z2, z3⟩ := HK.out
    have n1 : w.heap.size ≠ w.heap.size + 1 := by omega
    go_region_held3 (fun w' => w'.cell? ⟨w.heap.size, 2, none⟩ = some (.string t.text)) (first | go_keep | exact set4_keep' n1 x2)
      (first | (go_at_call 74; refine Calls.mono (HF.out _) ?_; rintro e w7 ⟨rfl, rfl⟩))
    have Hbx : Hid (Bx (W.setCells (w.heap.size + 1) 0 (encP (⟨3, 0, t.text.extract 0 U, []⟩, .slice none 0 0))) (w.heap.size + 1) ⟨3, 0, t.text.extract 0 U, []⟩ (.slice none 0 0)) := HK.out.put (⟨3, 0, t.text.extract 0 U, []⟩, .slice none 0 0)
    have Hbl : Hid (Below w.heap.size w (W.setCells (w.heap.size + 1) 0 (encP (⟨3, 0, t.text.extract 0 U, []⟩, .slice none 0 0))).drew) := (below_put hbl (Nat.le_succ _) (⟨3, 0, t.text.extract 0 U, []⟩, .slice none 0 0)).drew
    generalize t.text.extract 0 U = E at *
    go_wp2_with fail
    refine bodyPost_ret (v := .agg #[.int .i64 3, .int .i64 0, .string E, .slice none 0 0]) ?_ rfl (by rw [e.out]; exact ⟨_, rfl, liesX_nil _ _ _ _ _, Hbl.out⟩)
    obtain ⟨q0, q1, q2, q3, _, _, _, _⟩ := Hbx.out
    simp only [encP, World.setCells, Nat.zero_add, Nat.reduceAdd] at q0 q1 q2 q3
    simp [results, Try.results38, go_sem, q0, q1, q2, q3]
  · have e : Hid (firstT t = nilT) := by show _ = _; unfold firstT; rw [if_pos k3, if_neg h0]
    have hnil : t.text = ⟨#[]⟩ := by
      apply ByteArray.ext
      apply Array.eq_empty_of_size_eq_zero
      show t.text.size = 0
      omega
    rw [hnil]
    clear hf ht k3 e0 hs h0 hnil
    go_enter Try.func38, Try.ntmps38
    go_wp2_with fail
    exact bodyPost_ret (v := .agg #[.int .i64 0, .int .i64 0, .string ⟨#[]⟩, .slice none 0 0]) (by simp [results, Try.results38, go_sem]) rfl (by rw [e.out]; exact fnPost_nil (Grew.two _ _ _).below)

set_option maxHeartbeats 1000000 in
theorem rfirst_items (X : Nat → Prop) (t : VT) (u : Value) (w : World) (k3 : ¬ t.kind = 3) (hu : LiesX X 16 w t.items u) (h2 : t.kind = 6 → t.items ≠ [] → 2 ≤ t.items.length) : Calls Try.prog 38 #[.agg #[.int .i64 t.kind, .int .i64 t.num, .string t.text, u]] w (FnPost X (firstT t) w) := by
  have h3 : (t.kind == 3) = false := by simp [k3]
  obtain ⟨a, c, rfl, hlen⟩ := LiesX.slice hu
  have HL : Hid (LiesX X 16 w t.items (.slice a t.items.length c)) := hu
  cases hi : t.items with
  | nil =>
    have e : firstT t = nilT := by unfold firstT; rw [if_neg k3, hi]
    rw [e]
    clear e k3 hu h2 HL hlen
    cases h6 : (t.kind == 6)
    · go_enter Try.func38, Try.ntmps38
      go_wp2_with fail
      exact bodyPost_ret (v := .agg #[.int .i64 0, .int .i64 0, .string ⟨#[]⟩, .slice none 0 0]) (by simp [results, Try.results38, go_sem]) rfl (fnPost_nil (Grew.two _ _ _).below)
    · go_enter Try.func38, Try.ntmps38
      go_wp2_with fail
      exact bodyPost_ret (v := .agg #[.int .i64 0, .int .i64 0, .string ⟨#[]⟩, .slice none 0 0]) (by simp [results, Try.results38, go_sem]) rfl (fnPost_nil (Grew.two _ _ _).below)
  | cons x l =>
    rw [hi] at HL hlen hu
    obtain ⟨a', c', hv, _, hr⟩ := hu
    injection hv with hv1 hv2 hv3
    subst hv1 hv3
    clear hv2
    obtain ⟨b, o, rfl, hbb, hall⟩ := hr (by simp)
    obtain ⟨v, p0, p1, p2, p3, p4, _⟩ := hall 0 (by simp)
    simp only [Nat.zero_mul, Nat.add_zero, List.getElem_cons_zero] at p0 p1 p2 p3 p4
    clear hall hr
    obtain ⟨av, cv, rfl, _⟩ := LiesX.slice p4
    have hb : b < w.heap.size := cell_lt p0
    have hpos : (0 : Int) < ((x :: l).length : Int) := by simp
    cases h6 : (t.kind == 6)
    · have e : firstT t = x := by unfold firstT; rw [if_neg k3, hi]; simp only; rw [if_neg (by simpa using h6)]
      rw [e]
      have HP : Hid (LiesX X 15 w x.items (.slice av x.items.length cv)) := p4
      clear e k3 h2 HL p4
      go_enter Try.func38, Try.ntmps38
      go_wp2_with fail
      exact bodyPost_ret (v := .agg #[.int .i64 x.kind, .int .i64 x.num, .string x.text, .slice av x.items.length cv]) (by simp [results, Try.results38, go_sem]) rfl (fnPost_same (HP.out.atLeast 16 (by omega)) (Grew.two _ _ _).below)
    · have k6 : t.kind = 6 := by simpa using h6
      have h2' := h2 k6 (by rw [hi]; simp)
      rw [hi] at h2'
      have hll : 1 ≤ l.length := by simpa using h2'
      have e : firstT t = ⟨4, 0, ⟨#[]⟩, x :: l.take 1⟩ := by unfold firstT; rw [if_neg k3, hi]; simp only; rw [if_pos k6]
      rw [e]
      have hcap : (x :: l).length ≤ c := Lies.cap HL.out.lies
      have hc2 : 2 ≤ c := by simp at hcap; omega
      have HT : Hid (LiesX X 16 w (x :: l.take 1) (.slice (some ⟨b, o, none⟩) 2 2)) := lies_tail HL.out hll (Nat.le_refl _)
      clear e k3 h2 HL p4 k6 h2' hcap
      go_enter Try.func38, Try.ntmps38
      go_wp2_with fail
      exact bodyPost_ret (v := .agg #[.int .i64 4, .int .i64 0, .string ⟨#[]⟩, .slice (some ⟨b, o, none⟩) 2 2]) (by simp [results, Try.results38, go_sem]) rfl (fnPost_same (t := ⟨4, 0, ⟨#[]⟩, x :: l.take 1⟩) HT.out (Grew.two _ _ _).below)

theorem liesX_one {X : Nat → Prop} {d : Nat} {w : World} {t : VT} {u : Value} {b c : Nat} (hX : X b) (hb : Bx w b t u) (hl : LiesX X d w t.items u) (hs : t.text.size ≤ 9223372036854775807) (hc : 1 ≤ c) : LiesX X (d + 1) w [t] (.slice (some ⟨b, 0, none⟩) 1 c) := by
  refine ⟨some ⟨b, 0, none⟩, c, rfl, ⟨hc, by simp⟩, fun _ => ⟨b, 0, rfl, hX, fun i hi => ?_⟩⟩
  have : i = 0 := by simp at hi; omega
  subst this
  exact ⟨u, hb.c0, hb.c1, hb.c2, hb.c3, hl, hs⟩

set_option maxHeartbeats 1000000 in
theorem rdone1 (X : Nat → Prop) (t : VT) (a : Option Addr) (l c : Nat) (w : World) (h : LiesX X 16 w t.items (.slice a l c)) : Calls Try.prog 21 #[.int .i64 1, .agg #[.int .i64 t.kind, .int .i64 t.num, .string t.text, .slice a l c]] w (FnPost X (numT incI t) w) := by
  have HL : Hid (LiesX X 16 w t.items (.slice a l c)) := h
  clear h
  cases hk : (t.kind == 2)
  · rw [numT_no (by simpa using hk)]
    go_enter Try.func21, Try.ntmps21
    go_wp2_with fail
    exact bodyPost_ret (v := .agg #[.int .i64 t.kind, .int .i64 t.num, .string t.text, .slice a l c]) (by simp [results, Try.results21, go_sem]) rfl (fnPost_same HL.out (Grew.two _ _ _).below)
  · rw [numT_yes (by simpa using hk)]
    go_enter Try.func21, Try.ntmps21
    go_wp2_with (go_at_call 36; refine (r5int_any _ _).mono ?_; rintro e w' ⟨rfl, rfl⟩)
    exact bodyPost_ret (v := .agg #[.int .i64 2, .int .i64 (incI t.num), .string ⟨#[]⟩, .slice none 0 0]) (by simp [results, Try.results21, go_sem, incI]) rfl (fnPost_int (grew3 _ _ _ _))

set_option maxHeartbeats 1000000 in
theorem rdone2 (X : Nat → Prop) (t : VT) (a : Option Addr) (l c : Nat) (w : World) (h : LiesX X 16 w t.items (.slice a l c)) : Calls Try.prog 21 #[.int .i64 2, .agg #[.int .i64 t.kind, .int .i64 t.num, .string t.text, .slice a l c]] w (FnPost X (numT negI t) w) := by
  have HL : Hid (LiesX X 16 w t.items (.slice a l c)) := h
  clear h
  cases hk : (t.kind == 2)
  · rw [numT_no (by simpa using hk)]
    go_enter Try.func21, Try.ntmps21
    go_wp2_with fail
    exact bodyPost_ret (v := .agg #[.int .i64 t.kind, .int .i64 t.num, .string t.text, .slice a l c]) (by simp [results, Try.results21, go_sem]) rfl (fnPost_same HL.out (Grew.two _ _ _).below)
  · rw [numT_yes (by simpa using hk)]
    go_enter Try.func21, Try.ntmps21
    go_wp2_with (go_at_call 36; refine (r5int_any _ _).mono ?_; rintro e w' ⟨rfl, rfl⟩)
    exact bodyPost_ret (v := .agg #[.int .i64 2, .int .i64 (negI t.num), .string ⟨#[]⟩, .slice none 0 0]) (by simp [results, Try.results21, go_sem, negI]) rfl (fnPost_int (grew3 _ _ _ _))

set_option maxHeartbeats 1000000 in
theorem rdone7 (X : Nat → Prop) (t : VT) (a : Option Addr) (l c : Nat) (w : World) (h : LiesX X 16 w t.items (.slice a l c)) : Calls Try.prog 21 #[.int .i64 7, .agg #[.int .i64 t.kind, .int .i64 t.num, .string t.text, .slice a l c]] w (FnPost X (numT halfI t) w) := by
  have HL : Hid (LiesX X 16 w t.items (.slice a l c)) := h
  clear h
  cases hk : (t.kind == 2)
  · rw [numT_no (by simpa using hk)]
    go_enter Try.func21, Try.ntmps21
    go_wp2_with fail
    exact bodyPost_ret (v := .agg #[.int .i64 t.kind, .int .i64 t.num, .string t.text, .slice a l c]) (by simp [results, Try.results21, go_sem]) rfl (fnPost_same HL.out (Grew.two _ _ _).below)
  · rw [numT_yes (by simpa using hk)]
    go_enter Try.func21, Try.ntmps21
    go_wp2_with (go_at_call 36; refine (r5int_any _ _).mono ?_; rintro e w' ⟨rfl, rfl⟩)
    exact bodyPost_ret (v := .agg #[.int .i64 2, .int .i64 (halfI t.num), .string ⟨#[]⟩, .slice none 0 0]) (by simp [results, Try.results21, go_sem, halfI]) rfl (fnPost_int (grew3 _ _ _ _))

set_option maxHeartbeats 1000000 in
theorem rdone0 (X : Nat → Prop) (t : VT) (a : Option Addr) (l c : Nat) (w : World) (h : LiesX X 16 w t.items (.slice a l c)) : Calls Try.prog 21 #[.int .i64 0, .agg #[.int .i64 t.kind, .int .i64 t.num, .string t.text, .slice a l c]] w (FnPost X t w) := by
  have HL : Hid (LiesX X 16 w t.items (.slice a l c)) := h
  clear h
  cases hk : (t.kind == 2)
  · go_enter Try.func21, Try.ntmps21
    go_wp2_with fail
    exact bodyPost_ret (v := .agg #[.int .i64 t.kind, .int .i64 t.num, .string t.text, .slice a l c]) (by simp [results, Try.results21, go_sem]) rfl (fnPost_same HL.out (Grew.two _ _ _).below)
  · go_enter Try.func21, Try.ntmps21
    go_wp2_with fail
    exact bodyPost_ret (v := .agg #[.int .i64 t.kind, .int .i64 t.num, .string t.text, .slice a l c]) (by simp [results, Try.results21, go_sem]) rfl (fnPost_same HL.out (Grew.two _ _ _).below)

set_option maxHeartbeats 1000000 in
theorem rdone6 (X : Nat → Prop) (t : VT) (a : Option Addr) (l c : Nat) (w : World) : Calls Try.prog 21 #[.int .i64 6, .agg #[.int .i64 t.kind, .int .i64 t.num, .string t.text, .slice a l c]] w (FnPost X (intT t.kind) w) := by
  go_enter Try.func21, Try.ntmps21
  go_wp2_with (go_at_call 36; refine (r5int_any _ _).mono ?_; rintro e w' ⟨rfl, rfl⟩)
  exact bodyPost_ret (v := .agg #[.int .i64 2, .int .i64 t.kind, .string ⟨#[]⟩, .slice none 0 0]) (by simp [results, Try.results21, go_sem]) rfl (fnPost_int (grew3 _ _ _ _))

set_option maxHeartbeats 1000000 in
theorem rdone3 (X : Nat → Prop) (t : VT) (a : Option Addr) (c : Nat) (w : World) (hr : rightV 16 t = true) : Calls Try.prog 21 #[.int .i64 3, .agg #[.int .i64 t.kind, .int .i64 t.num, .string t.text, .slice a t.items.length c]] w (FnPost X (sizeT t) w) := by
  have e : sizeT t = intT (sizeZ t) := rfl
  rw [e]
  have HS : Hid (∀ W, Calls Try.prog 37 #[.agg #[.int .i64 t.kind, .int .i64 t.num, .string t.text, .slice a t.items.length c]] W fun e w' => e = .returned (.int .i64 (sizeZ t)) ∧ ∃ o, w' = W.alloc o) := fun W => rsize_any t a c W hr
  generalize sizeZ t = Z at *
  generalize t.items.length = l at *
  go_enter Try.func21, Try.ntmps21
  go_wp2_with (first | (go_at_call 36; refine (r5int_any _ _).mono ?_; rintro e w' ⟨rfl, rfl⟩) | (go_at_call 37; refine Calls.mono (HS.out _) ?_; rintro e w' ⟨rfl, o, rfl⟩))
  exact bodyPost_ret (v := .agg #[.int .i64 2, .int .i64 Z, .string ⟨#[]⟩, .slice none 0 0]) (by simp [results, Try.results21, go_sem]) rfl (fnPost_int (((Grew.two _ _ _).alloc _).alloc _).below)

set_option maxHeartbeats 1000000 in
theorem rdone4 (X : Nat → Prop) (t : VT) (a : Option Addr) (l c : Nat) (w : World) (Hf : Hid (∀ W, Below w.heap.size w W → Calls Try.prog 38 #[.agg #[.int .i64 t.kind, .int .i64 t.num, .string t.text, .slice a l c]] W (FnPost (fun b => X b ∧ b < w.heap.size) (firstT t) W))) : Calls Try.prog 21 #[.int .i64 4, .agg #[.int .i64 t.kind, .int .i64 t.num, .string t.text, .slice a l c]] w (FnPost X (firstT t) w) := by
  have hbl : Below w.heap.size w ((w.alloc (.cells #[.int .i64 t.kind, .int .i64 t.num, .string t.text, .slice a l c] 24)).alloc (.cells #[.int .i64 0, .int .i64 0, .string ⟨#[]⟩, .slice none 0 0] 24)) := (Grew.two _ _ _).below
  have HK : Hid (Bx ((w.alloc (.cells #[.int .i64 t.kind, .int .i64 t.num, .string t.text, .slice a l c] 24)).alloc (.cells #[.int .i64 0, .int .i64 0, .string ⟨#[]⟩, .slice none 0 0] 24)) (w.heap.size + 1) zeroT (.slice none 0 0)) := by
    have := bx_alloc (w.alloc (.cells #[.int .i64 t.kind, .int .i64 t.num, .string t.text, .slice a l c] 24)) zeroT (.slice none 0 0)
    rwa [World.size_alloc] at this
  generalize firstT t = s at *
  go_enter Try.func21, Try.ntmps21
  go_wp2_with fail
  refine Calls.mono (Hf.out _ hbl) ?_
  rintro e w3 ⟨v, rfl, hl3, hb3⟩
  have HR3 : Hid (Bx w3 (w.heap.size + 1) zeroT (.slice none 0 0)) := HK.out.keeps hb3
  have hbw : Below w.heap.size w w3 := hbl.trans (hb3.mono hbl.size)
  obtain ⟨a3, c3, rfl, _⟩ := LiesX.slice hl3
  simp only [World.size_alloc] at hl3
  obtain ⟨y0, y1, y2, y3, z0, z1, z2, z3⟩ := HR3.out
  have Hbx : Hid (Bx (w3.setCells (w.heap.size + 1) 0 (encP (s, .slice a3 s.items.length c3))) (w.heap.size + 1) s (.slice a3 s.items.length c3)) := HR3.out.put (s, .slice a3 s.items.length c3)
  have Hbl : Hid (Below w.heap.size w (w3.setCells (w.heap.size + 1) 0 (encP (s, .slice a3 s.items.length c3)))) := below_put hbw (Nat.le_succ _) (s, .slice a3 s.items.length c3)
  have Hfin : Hid (LiesX (fun b => X b ∨ w.heap.size ≤ b) 16 (w3.setCells (w.heap.size + 1) 0 (encP (s, .slice a3 s.items.length c3))) s.items (.slice a3 s.items.length c3)) := (hl3.set (g := w.heap.size + 1) (by omega)).mono (fun b hb => by
    rcases hb with hb | hb
    · exact .inl hb.1
    · exact .inr (by omega))
  clear hl3 hb3 hbl HK
  go_wp2_with fail
  refine bodyPost_ret (v := .agg #[.int .i64 s.kind, .int .i64 s.num, .string s.text, .slice a3 s.items.length c3]) ?_ rfl ⟨_, rfl, Hfin.out, Hbl.out⟩
  obtain ⟨q0, q1, q2, q3, _, _, _, _⟩ := Hbx.out
  simp only [encP, World.setCells, Nat.zero_add, Nat.reduceAdd] at q0 q1 q2 q3
  simp [results, Try.results21, go_sem, q0, q1, q2, q3]

end Go.Proofs.Ytacnfmamjbmhcaa

