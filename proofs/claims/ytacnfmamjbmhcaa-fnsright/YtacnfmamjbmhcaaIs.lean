/-
  The contracts of the questions, and of Is.
-/
import Derived.Test.YtacnfmamjbmhcaaSize
import Derived.Test.YtacnfmamjbmhcaaVList
import Derived.Test.YtacnfmamjbmhcaaCopy3
namespace Go.Proofs.Ytacnfmamjbmhcaa
open Go.RowKit

/-- FnWrap. -/
def wrapT (t : VT) : VT := if (fw 17 (listT [t]) 16 1024).1 = true then listT [t] else nilT

theorem lies_one {d : Nat} {w : World} {t : VT} {u : Value} {b c : Nat} (hb : Boxed w b t.kind t.num t.text u) (hl : Lies d w t.items u) (hs : t.text.size ≤ 9223372036854775807) (hc : 1 ≤ c) : Lies (d + 1) w [t] (.slice (some ⟨b, 0, none⟩) 1 c) := by
  refine ⟨some ⟨b, 0, none⟩, c, rfl, ⟨hc, by simp⟩, fun _ => ⟨b, 0, rfl, fun i hi => ?_⟩⟩
  have : i = 0 := by simp at hi; omega
  subst this
  exact ⟨u, hb.c0, hb.c1, hb.c2, hb.c3, hl, hs⟩

theorem listErr_one {d : Nat} {t : VT} (h : rightV d t = true) : listErr d [t] = 0 := by
  simp [listErr, h]

theorem dp_list {l : List VT} (h : (fw 17 (listT l) 16 1024).1 = true) (hd : ∀ x ∈ l, Dp 16 x) : Dp 16 (listT l) := fw_deep 17 (listT l) 16 1024 (by omega) h hd

set_option maxHeartbeats 2000000 in
theorem wrap_any (X : Nat → Prop) (t : VT) (a : Option Addr) (l c : Nat) (w : World) (h : Lies 16 w t.items (.slice a l c)) (hr : rightV 16 t = true) (hs : t.text.size ≤ 9223372036854775807) :
    Calls Try.prog 44 #[.agg #[.int .i64 t.kind, .int .i64 t.num, .string t.text, .slice a l c]] w (FnPost X (wrapT t) w) := by
  have HD : Hid (Dp 16 t) := Dp.of_lies 16 w t _ h
  have HL : Hid (Lies 16 w t.items (.slice a l c)) := h
  have HR : Hid (listErr 16 [t] = 0) := listErr_one hr
  clear h hr
  have hbz : Below w.heap.size w (((w.alloc (.cells #[.int .i64 t.kind, .int .i64 t.num, .string t.text, .slice a l c] 24)).alloc (.cells #[.int .i64 0, .int .i64 0, .string ⟨#[]⟩, .slice none 0 0] 24)).alloc (.cells #[.int .i64 t.kind, .int .i64 t.num, .string t.text, .slice a l c] 24)) := grew3 _ _ _ _
  have HK : Hid (Blank (((w.alloc (.cells #[.int .i64 t.kind, .int .i64 t.num, .string t.text, .slice a l c] 24)).alloc (.cells #[.int .i64 0, .int .i64 0, .string ⟨#[]⟩, .slice none 0 0] 24)).alloc (.cells #[.int .i64 t.kind, .int .i64 t.num, .string t.text, .slice a l c] 24)) (w.heap.size + 1)) := by
    have := (blank_alloc (w.alloc (.cells #[.int .i64 t.kind, .int .i64 t.num, .string t.text, .slice a l c] 24))).keeps ((Grew.refl _).alloc (.cells #[.int .i64 t.kind, .int .i64 t.num, .string t.text, .slice a l c] 24)).below
    rwa [World.size_alloc] at this
  have HX : Hid (Boxed (((w.alloc (.cells #[.int .i64 t.kind, .int .i64 t.num, .string t.text, .slice a l c] 24)).alloc (.cells #[.int .i64 0, .int .i64 0, .string ⟨#[]⟩, .slice none 0 0] 24)).alloc (.cells #[.int .i64 t.kind, .int .i64 t.num, .string t.text, .slice a l c] 24)) (w.heap.size + 1 + 1) t.kind t.num t.text (.slice a l c)) := by
    have := boxed_alloc ((w.alloc (.cells #[.int .i64 t.kind, .int .i64 t.num, .string t.text, .slice a l c] 24)).alloc (.cells #[.int .i64 0, .int .i64 0, .string ⟨#[]⟩, .slice none 0 0] 24)) t.kind t.num t.text (.slice a l c) 24
    rwa [World.size_alloc, World.size_alloc] at this
  go_enter Try.func44, Try.ntmps44
  go_wp2_with fail
  refine (vlist_any 16 [t] _ _ (lies_one HX.out (Lies.keeps hbz _ _ _ HL.out) hs (Nat.le_refl _))).mono ?_
  rintro e w1 ⟨hb, hp⟩
  have hb1 : Below w.heap.size w w1 := hbz.trans (hb.mono (by simp; omega))
  have hsz : w.heap.size + 3 ≤ w1.heap.size := by have := hb.size; simp at this; omega
  have HK1 : Hid (Blank w1 (w.heap.size + 1)) := HK.out.keeps hb
  have hp := hp.resolve_left (fun h => h.1 HR.out)
  obtain ⟨_, hp⟩ := hp
  clear hbz HX HK
  rcases hp with ⟨hf, rfl⟩ | ⟨hf, v, rfl, hLB⟩
  · have He : Hid (wrapT t = nilT) := by show _ = _; unfold wrapT; rw [hf]; rfl
    clear hf hb
    unfold zeroAgg
    have HK2 : Hid (Blank (w1.alloc (.cells #[.int .i64 0, .int .i64 0, .string ⟨#[]⟩, .slice none 0 0] 24)) (w.heap.size + 1)) := HK1.out.keeps ((Grew.refl _).alloc _).below
    have hb2 : Below w.heap.size w (w1.alloc (.cells #[.int .i64 0, .int .i64 0, .string ⟨#[]⟩, .slice none 0 0] 24)) := hb1.alloc hb1.size _
    obtain ⟨y0, y1, y2, y3, z0, z1, z2, z3⟩ := HK2.out
    have Hbx : Hid _ := HK2.out.put (⟨0, 0, ⟨#[]⟩, []⟩, .slice none 0 0)
    have Hbl : Hid _ := below_put hb2 (Nat.le_succ _) (⟨0, 0, ⟨#[]⟩, []⟩, .slice none 0 0)
    go_wp2_with fail
    refine bodyPost_ret (v := .agg #[.int .i64 0, .int .i64 0, .string ⟨#[]⟩, .slice none 0 0]) ?_ rfl (by rw [He.out]; exact fnPost_nil Hbl.out)
    obtain ⟨q0, q1, q2, q3⟩ := Hbx.out
    simp only [encP, World.setCells, Nat.zero_add, Nat.reduceAdd] at q0 q1 q2 q3
    simp [results, Try.results44, go_sem, q0, q1, q2, q3]
  · have He : Hid (wrapT t = listT [t]) := by show _ = _; unfold wrapT; rw [hf]; rfl
    have hd : Dp 16 (listT [t]) := dp_list hf (fun x hx => by
      have : x = t := by simpa using hx
      subst this; exact HD.out)
    obtain ⟨av, cv, rfl, _⟩ := LiesB.slice hLB
    have HLB : Hid (LiesB (w.heap.size + 3) 17 w1 [t] (.slice av [t].length cv)) := LiesB.lower (by simp) _ _ _ hLB
    clear hf hb hLB
    simp only [List.length_singleton] at HLB ⊢
    have HK2 : Hid (Blank (w1.alloc (.cells #[.int .i64 4, .int .i64 0, .string ⟨#[]⟩, .slice av 1 cv] 24)) (w.heap.size + 1)) := HK1.out.keeps ((Grew.refl _).alloc _).below
    have hb2 : Below w.heap.size w (w1.alloc (.cells #[.int .i64 4, .int .i64 0, .string ⟨#[]⟩, .slice av 1 cv] 24)) := hb1.alloc hb1.size _
    obtain ⟨y0, y1, y2, y3, z0, z1, z2, z3⟩ := HK2.out
    have Hbx : Hid _ := HK2.out.put (listT [t], .slice av 1 cv)
    have Hbl : Hid _ := below_put hb2 (Nat.le_succ _) (listT [t], .slice av 1 cv)
    have Hfin : Hid (LiesX (fun b => X b ∨ w.heap.size ≤ b) 16 ((w1.alloc (.cells #[.int .i64 4, .int .i64 0, .string ⟨#[]⟩, .slice av 1 cv] 24)).setCells (w.heap.size + 1) 0 (encP (listT [t], .slice av 1 cv))) [t] (.slice av 1 cv)) := by
      have h1 : LiesX (fun b => w.heap.size + 3 ≤ b) 17 w1 [t] (.slice av 1 cv) := LiesX.of_b HLB.out
      have h2 := (h1.keeps ((Grew.refl w1).alloc (.cells #[.int .i64 4, .int .i64 0, .string ⟨#[]⟩, .slice av 1 cv] 24)).below).set (g := w.heap.size + 1) (o := 0) (vs := encP (listT [t], .slice av 1 cv)) (by omega)
      exact (LiesX.to (t := listT [t]) h2 hd).mono (fun b hb => .inr (by omega))
    go_wp2_with fail
    refine bodyPost_ret (v := .agg #[.int .i64 4, .int .i64 0, .string ⟨#[]⟩, .slice av 1 cv]) ?_ rfl (by rw [He.out]; exact ⟨_, rfl, Hfin.out, Hbl.out⟩)
    obtain ⟨q0, q1, q2, q3⟩ := Hbx.out
    simp only [encP, listT, World.setCells, Nat.zero_add, Nat.reduceAdd] at q0 q1 q2 q3
    simp [results, Try.results44, go_sem, q0, q1, q2, q3]

end Go.Proofs.Ytacnfmamjbmhcaa

namespace Go.Proofs.Ytacnfmamjbmhcaa
open Go.RowKit Go.PlainAid

theorem fwL_mono {f g : VT → Int → Bool × Int} (hf : ∀ x m, 0 ≤ m → 0 ≤ (f x m).2) (h : ∀ x m m', 0 ≤ m → m ≤ m' → (f x m).1 = true → (g x m').1 = true ∧ (g x m').2 = (f x m).2 + (m' - m)) :
    ∀ (l : List VT) (n n' : Int), 0 ≤ n → n ≤ n' → (fwL f l n).1 = true → (fwL g l n').1 = true ∧ (fwL g l n').2 = (fwL f l n).2 + (n' - n) := by
  intro l
  induction l with
  | nil => intro n n' _ _ _; exact ⟨rfl, by show n' = n + (n' - n); omega⟩
  | cons x l ih =>
    intro n n' h0 hn hh
    unfold fwL at hh ⊢
    by_cases hx : (f x n).1 = true
    · rw [if_pos hx] at hh ⊢
      obtain ⟨g1, g2⟩ := h x n n' h0 hn hx
      rw [if_pos g1]
      have h1 := hf x n h0
      obtain ⟨i1, i2⟩ := ih (f x n).2 (g x n').2 h1 (by omega) hh
      exact ⟨i1, by omega⟩
    · rw [if_neg hx] at hh; cases hh

theorem fw_mono : ∀ (d : Nat) (t : VT) (lv lv' n n' : Int), 0 ≤ n → lv ≤ lv' → n ≤ n' → (fw d t lv n).1 = true → (fw d t lv' n').1 = true ∧ (fw d t lv' n').2 = (fw d t lv n).2 + (n' - n) := by
  intro d
  induction d with
  | zero =>
    intro t lv lv' n n' h0 hl hn hh
    unfold fw at hh ⊢
    by_cases hx : lv < 0 ∨ n = 0
    · rw [if_pos hx] at hh; cases hh
    · rw [if_neg hx, if_neg (by omega)]; exact ⟨rfl, by show n' - 1 = n - 1 + (n' - n); omega⟩
  | succ d ih =>
    intro t lv lv' n n' h0 hl hn hh
    unfold fw at hh ⊢
    by_cases hx : lv < 0 ∨ n = 0
    · rw [if_pos hx] at hh; cases hh
    · rw [if_neg hx] at hh ⊢
      rw [if_neg (by omega)]
      have := fwL_mono (f := fun x m => fw d x (lv - 1) m) (g := fun x m => fw d x (lv' - 1) m) (fun x m hm => (fw_range d x _ m hm).1) (fun x m m' hm hmm hb => ih x (lv - 1) (lv' - 1) m m' hm (by omega) hmm hb) t.items (n - 1) (n' - 1) (by omega) (by omega) hh
      exact ⟨this.1, by omega⟩

theorem fwL_prefix {f : VT → Int → Bool × Int} : ∀ (l m : List VT) (n : Int), (fwL f (l ++ m) n).1 = true → (fwL f l n).1 = true := by
  intro l
  induction l with
  | nil => intro m n _; rfl
  | cons x l ih =>
    intro m n h
    rw [List.cons_append] at h
    unfold fwL at h ⊢
    by_cases hx : (f x n).1 = true
    · rw [if_pos hx] at h ⊢; exact ih m _ h
    · rw [if_neg hx] at h; cases h

theorem fw_items {d : Nat} {t : VT} {lv n : Int} (h : (fw (d + 1) t lv n).1 = true) : ¬ (lv < 0 ∨ n = 0) ∧ (fwL (fun x m => fw d x (lv - 1) m) t.items (n - 1)).1 = true := by
  unfold fw at h
  by_cases hx : lv < 0 ∨ n = 0
  · rw [if_pos hx] at h; cases h
  · rw [if_neg hx] at h; exact ⟨hx, h⟩

theorem rp_succ {d : Nat} {t : VT} (h : rpV (d + 1) t = true) : (∀ x ∈ t.items, rpV d x = true) ∧ ownV d t = true := by
  unfold rpV at h
  rw [Bool.and_eq_true, List.all_eq_true] at h
  exact h

/-- An item of a right value is right. -/
theorem item_right {t x : VT} (hr : rightV 16 t = true) (hd : Dp 16 t) (hx : x ∈ t.items) : rightV 16 x = true ∧ Dp 16 x := by
  have hdx : Dp 15 x := hd x hx
  refine ⟨?_, hdx.up⟩
  rw [rightV_eq x hdx (by omega)]
  simp only [rightV, Bool.and_eq_true] at hr ⊢
  have hrp := rp_succ (d := 15) hr.2
  refine ⟨?_, hrp.1 x hx⟩
  obtain ⟨_, h2⟩ := fw_items hr.1
  obtain ⟨_, _, i3⟩ := fwL_len (f := fun x m => fw 15 x ((16 : Int) - 1) m) (fun x m hm => (fw_range 15 x _ m hm).1) (fun x m hm hb => fw_less 15 x _ m hm hb) t.items (1024 - 1) (by omega) h2
  obtain ⟨m, m1, m2, m3⟩ := i3 x hx
  exact (fw_mono 15 x (16 - 1) 16 m 1024 m1 (by omega) (by omega) m3).1

theorem int_right (n : Int) : rightV 16 (intT n) = true := by
  simp [rightV, fw, fwL, rpV, ownV, okNum, okText, okItems, intT]

theorem nil_right : rightV 16 nilT = true := by
  simp [rightV, fw, fwL, rpV, ownV, okNum, okText, okItems, nilT]

theorem dp_leaf {t : VT} (h : t.items = []) : Dp 16 t := Dp.mono (d := 0) h (by omega)

theorem own_list (d : Nat) (l : List VT) : ownV d (listT l) = true := by
  simp [ownV, okNum, okText, okItems, listT]

theorem rp_list {d : Nat} {l : List VT} (h : ∀ x ∈ l, rpV d x = true) : rpV (d + 1) (listT l) = true := by
  unfold rpV
  rw [Bool.and_eq_true, List.all_eq_true]
  exact ⟨h, own_list d l⟩

/-- Whether a list of right values is right: whether it fits. -/
theorem list_right (l : List VT) (hr : ∀ x ∈ l, rightV 16 x = true) : rightV 17 (listT l) = (fw 17 (listT l) 16 1024).1 := by
  unfold rightV
  rw [rp_list (fun x hx => right_rp (hr x hx)), Bool.and_true]

theorem list_right16 {l : List VT} (hr : ∀ x ∈ l, rightV 16 x = true) (hd : ∀ x ∈ l, Dp 16 x) (hf : (fw 17 (listT l) 16 1024).1 = true) : rightV 16 (listT l) = true ∧ Dp 16 (listT l) := by
  have h1 := dp_list hf hd
  refine ⟨?_, h1⟩
  rw [← rightV_eq (listT l) h1 (show 16 ≤ 17 by omega), list_right l hr]
  exact hf

/-- A right map that is not empty has a key and a value. -/
theorem map_two {t : VT} (hr : rightV 16 t = true) (hk : t.kind = 6) (hne : t.items ≠ []) : 2 ≤ t.items.length := by
  have ho := (rp_succ (d := 15) (right_rp hr)).2
  simp only [ownV, Bool.and_eq_true] at ho
  have hi := ho.2.2.2.2
  unfold okItems at hi
  rw [hk] at hi
  have hi' : ((t.items.length : Int) % 2 == 0 && risF (cmpV 15) 2 t.items t.items.length 0) = true := hi
  rw [Bool.and_eq_true, beq_iff_eq] at hi'
  have hp : 0 < t.items.length := List.length_pos_iff.2 hne
  omega

theorem bt_extract (s : ByteArray) (k i : Nat) (h : i < k) (hk : k ≤ s.size) : bt (s.extract 0 k) i = bt s i := by
  have h1 : i < (s.extract 0 k).size := by simp; omega
  have h2 : i < s.size := by omega
  unfold bt
  rw [dif_pos h1, dif_pos h2]
  have e : (s.extract 0 k)[i]'h1 = s[i]'h2 := by
    simp [ByteArray.getElem_extract]
  rw [e]

theorem genV_pre (s : ByteArray) (n : Nat) (lo hi : Int) (h2 : 2 ≤ n) (hg : genV s 0 n lo hi ≠ 0) : genV s 0 n lo hi = n ∧ genV (s.extract 0 n) 0 n lo hi = n := by
  unfold genV at hg ⊢
  by_cases hc : 0 + n ≤ s.size ∧ lo ≤ bt s (0 + 1) ∧ bt s (0 + 1) ≤ hi ∧ (∀ m, m < n → 2 ≤ m → 128 ≤ bt s (0 + m) ∧ bt s (0 + m) ≤ 191)
  · rw [if_pos hc]
    obtain ⟨c1, c2, c3, c4⟩ := hc
    have hsz : (s.extract 0 n).size = n := by simp; omega
    refine ⟨rfl, ?_⟩
    rw [if_pos]
    refine ⟨by omega, ?_, ?_, fun m hm hm2 => ?_⟩
    · rw [bt_extract s n _ (by omega) (by omega)]; exact c2
    · rw [bt_extract s n _ (by omega) (by omega)]; exact c3
    · rw [bt_extract s n _ (by omega) (by omega)]; exact c4 m hm hm2
  · rw [if_neg hc] at hg; exact absurd rfl hg

theorem utfW_cls (s : ByteArray) (n : Nat) (lo hi : Int) (hC : ∀ s' : ByteArray, bt s' 0 = bt s 0 → utfW s' 0 = genV s' 0 n lo hi) (h2 : 2 ≤ n) (hz : utfW s 0 ≠ 0) : utfW (s.extract 0 (utfW s 0).toNat) 0 = utfW s 0 := by
  have e := hC s rfl
  rw [e] at hz ⊢
  have h := genV_pre s n lo hi h2 hz
  have hr := genV_range s 0 n lo hi
  have hb : bt (s.extract 0 n) 0 = bt s 0 := bt_extract s n 0 (by omega) (by omega)
  rw [h.1, Int.toNat_natCast, hC _ hb, h.2]

theorem utfW_pre (s : ByteArray) (hp : 0 < s.size) (hz : utfW s 0 ≠ 0) : utfW (s.extract 0 (utfW s 0).toNat) 0 = utfW s 0 := by
  by_cases c1 : bt s 0 < 128
  · have e : utfW s 0 = 1 := by unfold utfW; rw [if_pos c1]
    have one : bt (s.extract 0 1) 0 = bt s 0 := bt_extract s 1 0 (by omega) (by omega)
    rw [e]
    unfold utfW
    rw [show ((1 : Int).toNat) = 1 from rfl, one, if_pos c1]
  by_cases c2 : 194 ≤ bt s 0 ∧ bt s 0 ≤ 223
  · exact utfW_cls s 2 128 191 (fun s' h => by unfold utfW; rw [h, if_neg c1, if_pos c2]) (by omega) hz
  by_cases c3 : bt s 0 = 224
  · exact utfW_cls s 3 160 191 (fun s' h => by unfold utfW; rw [h, if_neg c1, if_neg c2, if_pos c3]) (by omega) hz
  by_cases c4 : bt s 0 = 237
  · exact utfW_cls s 3 128 159 (fun s' h => by unfold utfW; rw [h, if_neg c1, if_neg c2, if_neg c3, if_pos c4]) (by omega) hz
  by_cases c5 : 225 ≤ bt s 0 ∧ bt s 0 ≤ 239
  · exact utfW_cls s 3 128 191 (fun s' h => by unfold utfW; rw [h, if_neg c1, if_neg c2, if_neg c3, if_neg c4, if_pos c5]) (by omega) hz
  by_cases c6 : bt s 0 = 240
  · exact utfW_cls s 4 144 191 (fun s' h => by unfold utfW; rw [h, if_neg c1, if_neg c2, if_neg c3, if_neg c4, if_neg c5, if_pos c6]) (by omega) hz
  by_cases c7 : bt s 0 = 244
  · exact utfW_cls s 4 128 143 (fun s' h => by unfold utfW; rw [h, if_neg c1, if_neg c2, if_neg c3, if_neg c4, if_neg c5, if_neg c6, if_pos c7]) (by omega) hz
  by_cases c8 : 241 ≤ bt s 0 ∧ bt s 0 ≤ 243
  · exact utfW_cls s 4 128 191 (fun s' h => by unfold utfW; rw [h, if_neg c1, if_neg c2, if_neg c3, if_neg c4, if_neg c5, if_neg c6, if_neg c7, if_pos c8]) (by omega) hz
  · exfalso
    apply hz
    unfold utfW
    rw [if_neg c1, if_neg c2, if_neg c3, if_neg c4, if_neg c5, if_neg c6, if_neg c7, if_neg c8]

/-- The first letter of a right text: one letter of its bytes. -/
theorem utf_first (s : ByteArray) (h : utfB s = true) (h0 : 0 < s.size) : utfW s 0 ≠ 0 := by
  have e := letters_right s
  rw [h, decide_eq_true_eq] at e
  intro hz
  unfold lettersZ at e
  obtain ⟨n, hn⟩ : ∃ n, s.size = n + 1 := ⟨s.size - 1, by omega⟩
  rw [hn] at e
  unfold ltF at e
  rw [if_pos (by omega), if_pos hz] at e
  omega

theorem first_ok (s : ByteArray) (h : utfB s = true) (h0 : 0 < s.size) : firstS s = s.extract 0 (utfW s 0).toNat ∧ (firstS s).size ≤ s.size ∧ utfB (firstS s) = true := by
  have hz := utf_first s h h0
  have e : firstS s = s.extract 0 (utfW s 0).toNat := encode_first s h0 hz
  have hr := utfW_range s 0 h0
  have hp := utfW_pre s h0 hz
  refine ⟨e, by rw [e]; simp; omega, ?_⟩
  rw [e]
  generalize hk : (utfW s 0).toNat = k at *
  have hk1 : 1 ≤ k := by omega
  have hsz : (s.extract 0 k).size = k := by simp; omega
  rw [← letters_right, decide_eq_true_eq]
  unfold lettersZ
  rw [hsz]
  obtain ⟨n, hn⟩ : ∃ n, k = n + 1 := ⟨k - 1, by omega⟩
  have e2 : ltF (s.extract 0 k) (n + 1) 0 0 = ltF (s.extract 0 k) n (0 + (utfW (s.extract 0 k) 0).toNat) (0 + 1) := by
    conv => lhs; unfold ltF
    rw [if_pos (by omega), if_neg (by rw [hp]; exact hz)]
  rw [show ltF (s.extract 0 k) k 0 0 = ltF (s.extract 0 k) (n + 1) 0 0 by rw [← hn], e2, ltF_end _ _ _ _ (by rw [hp, hsz]; omega)]
  omega

theorem text_right {s : ByteArray} (h : utfB s = true) (hs : s.size ≤ 256) : rightV 16 ⟨3, 0, s, []⟩ = true := by
  simp [rightV, fw, fwL, rpV, ownV, okNum, okText, okItems, h, hs]

theorem first_right {t : VT} (hr : rightV 16 t = true) (hd : Dp 16 t) : rightV 16 (firstT t) = true ∧ Dp 16 (firstT t) := by
  have hown := (rp_succ (d := 15) (right_rp hr)).2
  obtain ⟨t1, t2, t3⟩ := right_text hown
  unfold firstT
  by_cases k3 : t.kind = 3
  · rw [if_pos k3]
    by_cases h0 : 0 < t.text.size
    · rw [if_pos h0]
      obtain ⟨_, f2, f3⟩ := first_ok t.text (t2 k3) h0
      exact ⟨text_right f3 (by omega), dp_leaf rfl⟩
    · rw [if_neg h0]; exact ⟨nil_right, dp_leaf rfl⟩
  · rw [if_neg k3]
    cases hi : t.items with
    | nil => exact ⟨nil_right, dp_leaf rfl⟩
    | cons x l =>
      simp only
      have hxm : x ∈ t.items := by rw [hi]; exact List.mem_cons_self
      by_cases k6 : t.kind = 6
      · rw [if_pos k6]
        have hsub : ∀ y ∈ x :: l.take 1, y ∈ t.items := fun y hy => by
          rw [hi]
          rcases List.mem_cons.1 hy with rfl | hy
          · exact List.mem_cons_self
          · exact List.mem_cons_of_mem _ (List.mem_of_mem_take hy)
        have hall : ∀ y ∈ x :: l.take 1, rightV 16 y = true ∧ Dp 16 y := fun y hy => item_right hr hd (hsub y hy)
        have hdd : Dp 16 (listT (x :: l.take 1)) := fun y hy => hd y (hsub y hy)
        refine ⟨?_, hdd⟩
        show rightV 16 (listT (x :: l.take 1)) = true
        rw [← rightV_eq (listT (x :: l.take 1)) hdd (show 16 ≤ 17 by omega), list_right _ (fun y hy => (hall y hy).1), fw_up 16 _ _ _ hdd]
        have hf := hr
        simp only [rightV, Bool.and_eq_true] at hf
        obtain ⟨_, h2⟩ := fw_items hf.1
        rw [hi] at h2
        have h3 : (fwL (fun x m => fw 15 x ((16 : Int) - 1) m) ((x :: l.take 1) ++ l.drop 1) (1024 - 1)).1 = true := by
          rw [List.cons_append, List.take_append_drop]; exact h2
        have h4 := fwL_prefix _ _ _ h3
        unfold fw
        rw [if_neg (by omega)]
        exact h4
      · rw [if_neg k6]
        exact item_right hr hd hxm

theorem wrap_right {t : VT} (hr : rightV 16 t = true) (hd : Dp 16 t) : rightV 16 (wrapT t) = true ∧ Dp 16 (wrapT t) := by
  unfold wrapT
  by_cases hf : (fw 17 (listT [t]) 16 1024).1 = true
  · rw [if_pos hf]
    exact list_right16 (fun x hx => by
      have : x = t := by simpa using hx
      subst this; exact hr) (fun x hx => by
      have : x = t := by simpa using hx
      subst this; exact hd) hf
  · rw [if_neg hf]; exact ⟨nil_right, dp_leaf rfl⟩

theorem num_right {f : Int → Int} {t : VT} (hr : rightV 16 t = true) (hd : Dp 16 t) : rightV 16 (numT f t) = true ∧ Dp 16 (numT f t) := by
  unfold numT
  split
  · exact ⟨int_right _, dp_leaf rfl⟩
  · exact ⟨hr, hd⟩

/-- The functions of one value. -/
def doneT : Nat → VT → VT
  | 0 => fun t => t
  | 1 => numT incI
  | 2 => numT negI
  | 3 => sizeT
  | 4 => firstT
  | 5 => wrapT
  | 6 => fun t => intT t.kind
  | _ => numT halfI

theorem done_right (q : Nat) {t : VT} (hr : rightV 16 t = true) (hd : Dp 16 t) : rightV 16 (doneT q t) = true ∧ Dp 16 (doneT q t) := by
  unfold doneT
  split
  · exact ⟨hr, hd⟩
  · exact num_right hr hd
  · exact num_right hr hd
  · exact ⟨int_right _, dp_leaf rfl⟩
  · exact first_right hr hd
  · exact wrap_right hr hd
  · exact ⟨int_right _, dp_leaf rfl⟩
  · exact num_right hr hd

theorem right_len {t : VT} (hr : rightV 16 t = true) : t.items.length ≤ 1024 := by
  have h := hr
  simp only [rightV, Bool.and_eq_true] at h
  exact (fw_small 16 t 16 1024 (by omega) (by omega) h.1).1

theorem right_size {t : VT} (hr : rightV 16 t = true) : t.text.size ≤ 256 := (right_text (rp_succ (d := 15) (right_rp hr)).2).1

end Go.Proofs.Ytacnfmamjbmhcaa

namespace Go.Proofs.Ytacnfmamjbmhcaa
open Go.RowKit

theorem done_any (X : Nat → Prop) (q : Nat) (hq : q < 8) (t : VT) (u : Value) (w : World) (hl : LiesX X 16 w t.items u) (hr : rightV 16 t = true) :
    Calls Try.prog (oneF q) #[.agg #[.int .i64 t.kind, .int .i64 t.num, .string t.text, u]] w (FnPost X (doneT q t) w) := by
  have hs := right_size hr
  have hn := right_len hr
  obtain ⟨a, c, rfl, _⟩ := LiesX.slice hl
  match q, hq with
  | 0, _ => exact same1_any X t a _ c w hl
  | 1, _ => exact inc_any X t a _ c w hl
  | 2, _ => exact neg_any X t a _ c w hl
  | 3, _ => exact size_any X t a c w (by omega) hn
  | 4, _ =>
    by_cases k3 : t.kind = 3
    · exact first_text X t a c w k3
    · exact first_items X t _ w k3 hl (fun h1 h2 => map_two hr h1 h2)
  | 5, _ => exact wrap_any X t a _ c w hl.lies hr (by omega)
  | 6, _ => exact kind_any X t a _ c w
  | 7, _ => exact half_any X t a _ c w hl

/-- A function done so many times. -/
def itT (f : VT → VT) : Nat → VT → VT
  | 0, t => t
  | n + 1, t => f (itT f n t)

theorem it_right (q : Nat) {t : VT} (hr : rightV 16 t = true) (hd : Dp 16 t) : ∀ n, rightV 16 (itT (doneT q) n t) = true ∧ Dp 16 (itT (doneT q) n t) := by
  intro n
  induction n with
  | zero => exact ⟨hr, hd⟩
  | succ n ih => exact done_right q ih.1 ih.2

/-- The error of Times. -/
def timesE (d : Nat) (q n : Int) (t : VT) : Int :=
  if q < 0 ∨ 8 ≤ q then 4 else if n < 0 ∨ 65536 < n then 1 else if rightV d t = true then 0 else 3

/-- What Times tells. -/
def timesT (d : Nat) (q n : Int) (t : VT) : VT := if timesE d q n t = 0 then itT (doneT q.toNat) n.toNat t else nilT

/-- A value, in new memory, and a number are told. -/
def VPost (s : VT) (r : Int) (W : World) (e : Ending) (W' : World) : Prop :=
  ∃ u, e = .returned (.tuple #[.agg #[.int .i64 s.kind, .int .i64 s.num, .string s.text, u], .int .i64 r]) ∧ LiesX (fun b => W.heap.size ≤ b) 16 W' s.items u ∧ Below W.heap.size W W'

theorem vPost_nil {r : Int} {W W' : World} (h : Below W.heap.size W W') : VPost nilT r W (.returned (.tuple #[.agg #[.int .i64 0, .int .i64 0, .string ⟨#[]⟩, .slice none 0 0], .int .i64 r])) W' :=
  ⟨_, rfl, liesX_nil _ _ _ _ _, h⟩

/-- The world behind the first region: the value's box, the result's cells, the table. -/
def start3 (w : World) (t : VT) (u : Value) : World :=
  ((w.alloc (.cells #[.int .i64 t.kind, .int .i64 t.num, .string t.text, u] 24)).alloc (.cells #[.int .i64 0, .int .i64 0, .string ⟨#[]⟩, .slice none 0 0] 24)).alloc
    (.cells #[fv 39, fv 40, fv 41, fv 42, fv 43, fv 44, fv 45, fv 46] 54)

theorem start3_below (w : World) (t : VT) (u : Value) : Below w.heap.size w (start3 w t u) := grew3 _ _ _ _

theorem start3_box (w : World) (t : VT) (u : Value) : Bx (start3 w t u) w.heap.size t u := (bx_alloc w t u).keeps (Grew.two _ _ _).below

theorem start3_res (w : World) (t : VT) (u : Value) : Bx (start3 w t u) (w.heap.size + 1) zeroT (.slice none 0 0) := by
  have := (bx_alloc (w.alloc (.cells #[.int .i64 t.kind, .int .i64 t.num, .string t.text, u] 24)) zeroT (.slice none 0 0)).keeps ((Grew.refl _).alloc (.cells #[fv 39, fv 40, fv 41, fv 42, fv 43, fv 44, fv 45, fv 46] 54)).below
  rwa [World.size_alloc] at this

theorem start3_row (w : World) (t : VT) (u : Value) (q : Nat) (hq : q < 8) : (start3 w t u).cell? ⟨w.heap.size + 2, q, none⟩ = some (fv (oneF q)) := by
  have := oneF_cell ((w.alloc (.cells #[.int .i64 t.kind, .int .i64 t.num, .string t.text, u] 24)).alloc (.cells #[.int .i64 0, .int .i64 0, .string ⟨#[]⟩, .slice none 0 0] 24)) q hq
  rwa [World.size_alloc, World.size_alloc] at this

theorem start3_size (w : World) (t : VT) (u : Value) : (start3 w t u).heap.size = w.heap.size + 3 := by
  unfold start3; simp

set_option maxHeartbeats 2000000 in
theorem times_kind (d : Nat) (q n : Int) (t : VT) (u : Value) (w : World) (hu : Lies d w t.items u) (hq : q < 0 ∨ 8 ≤ q) :
    Calls Try.prog 10 #[.int .i64 q, .int .i64 n, .agg #[.int .i64 t.kind, .int .i64 t.num, .string t.text, u]] w (VPost nilT 4 w) := by
  obtain ⟨a, c, rfl, _⟩ := Lies.slice hu
  have HL : Hid (Lies d w t.items (.slice a t.items.length c)) := hu
  clear hu
  have HB := start3_below w t (.slice a t.items.length c)
  have HR : Hid (Bx (start3 w t (.slice a t.items.length c)) (w.heap.size + 1) zeroT (.slice none 0 0)) := start3_res w t _
  have HX : Hid (Bx (start3 w t (.slice a t.items.length c)) w.heap.size t (.slice a t.items.length c)) := start3_box w t _
  have hz := start3_size w t (.slice a t.items.length c)
  have Hz : Hid ((start3 w t (.slice a t.items.length c)).heap.size = w.heap.size + 3) := hz
  clear hz
  have HQ : Hid (q < 0 ∨ 8 ≤ q) := hq
  clear hq HL HX
  go_enter Try.func10, Try.ntmps10
  go_wp2_with fail
  refine (functions_any _).mono ?_
  rintro e w1 ⟨rfl, rfl⟩
  go_wp2_with fail
  refine (rowF_no (w.heap.size + 1 + 1) q _ HQ.out).mono ?_
  rintro e w1 ⟨rfl, hb⟩
  have hb : Below (start3 w t (.slice a t.items.length c)).heap.size (start3 w t (.slice a t.items.length c)) w1 := hb
  have hb1 : Below w.heap.size w w1 := HB.trans (hb.mono (by rw [Hz.out]; omega))
  have hb2 : Below w.heap.size w (w1.alloc (.cells #[.nilFunc] 54)) := hb1.alloc hb1.size _
  have HR2 : Hid (Bx (w1.alloc (.cells #[.nilFunc] 54)) (w.heap.size + 1) zeroT (.slice none 0 0)) := (HR.out.keeps hb).keeps ((Grew.refl _).alloc _).below
  clear hb HR HB Hz
  obtain ⟨y0, y1, y2, y3, z0, z1, z2, z3⟩ := HR2.out
  have Hbx : Hid (Bx ((w1.alloc (.cells #[.nilFunc] 54)).setCells (w.heap.size + 1) 0 (encP (zeroT, .slice none 0 0))) (w.heap.size + 1) zeroT (.slice none 0 0)) := HR2.out.put (zeroT, .slice none 0 0)
  have Hbl : Hid (Below w.heap.size w ((w1.alloc (.cells #[.nilFunc] 54)).setCells (w.heap.size + 1) 0 (encP (zeroT, .slice none 0 0)))) := below_put hb2 (Nat.le_succ _) (zeroT, .slice none 0 0)
  go_wp2_with fail
  refine bodyPost_ret (v := .tuple #[.agg #[.int .i64 0, .int .i64 0, .string ⟨#[]⟩, .slice none 0 0], .int .i64 4]) ?_ rfl (vPost_nil Hbl.out)
  obtain ⟨q0, q1, q2, q3, _, _, _, _⟩ := Hbx.out
  simp only [encP, World.setCells, Nat.zero_add, Nat.reduceAdd] at q0 q1 q2 q3
  simp [results, Try.results10, go_sem, q0, q1, q2, q3]

set_option maxHeartbeats 2000000 in
theorem times_num (d : Nat) (q : Nat) (n : Int) (t : VT) (u : Value) (w : World) (hu : Lies d w t.items u) (hq : q < 8) (hn : n < 0 ∨ 65536 < n) :
    Calls Try.prog 10 #[.int .i64 q, .int .i64 n, .agg #[.int .i64 t.kind, .int .i64 t.num, .string t.text, u]] w (VPost nilT 1 w) := by
  obtain ⟨a, c, rfl, _⟩ := Lies.slice hu
  have HL : Hid (Lies d w t.items (.slice a t.items.length c)) := hu
  clear hu
  have HB := start3_below w t (.slice a t.items.length c)
  have HR : Hid (Bx (start3 w t (.slice a t.items.length c)) (w.heap.size + 1) zeroT (.slice none 0 0)) := start3_res w t _
  have HX : Hid (Bx (start3 w t (.slice a t.items.length c)) w.heap.size t (.slice a t.items.length c)) := start3_box w t _
  have hz := start3_size w t (.slice a t.items.length c)
  have Hz : Hid ((start3 w t (.slice a t.items.length c)).heap.size = w.heap.size + 3) := hz
  clear hz
  go_enter Try.func10, Try.ntmps10
  go_wp2_with fail
  refine (functions_any _).mono ?_
  rintro e w1 ⟨rfl, rfl⟩
  go_wp2_with fail
  refine (rowF_yes (w.heap.size + 1 + 1) q (oneF q) _ hq (start3_row w t (.slice a t.items.length c) q hq)).mono ?_
  rintro e w1 ⟨rfl, hb⟩
  have hb : Below (start3 w t (.slice a t.items.length c)).heap.size (start3 w t (.slice a t.items.length c)) w1 := hb
  have hb1 : Below w.heap.size w w1 := HB.trans (hb.mono (by rw [Hz.out]; omega))
  have hsz : w.heap.size + 3 ≤ w1.heap.size := by have := hb.size; rw [Hz.out] at this; exact this
  have hb2 : Below w.heap.size w (w1.alloc (.cells #[fv (oneF q)] 54)) := hb1.alloc hb1.size _
  have HR2 : Hid (Bx (w1.alloc (.cells #[fv (oneF q)] 54)) (w.heap.size + 1) zeroT (.slice none 0 0)) := (HR.out.keeps hb).keeps ((Grew.refl _).alloc _).below
  have HX2 : Hid (Bx (w1.alloc (.cells #[fv (oneF q)] 54)) w.heap.size t (.slice a t.items.length c)) := (HX.out.keeps hb).keeps ((Grew.refl _).alloc _).below
  have HF2 : Hid ((w1.alloc (.cells #[fv (oneF q)] 54)).cell? ⟨w1.heap.size, 0, none⟩ = some (fv (oneF q))) := by show _ = _; simp
  have hs2 : (w1.alloc (.cells #[fv (oneF q)] 54)).heap.size = w1.heap.size + 1 := by simp
  have HS2 : Hid ((w1.alloc (.cells #[fv (oneF q)] 54)).heap.size = w1.heap.size + 1) := hs2
  clear hb HR HX HB Hz hs2
  clear HX2 HF2 HL HS2
  rcases hn with hn | hn
  · obtain ⟨y0, y1, y2, y3, z0, z1, z2, z3⟩ := HR2.out
    have Hbx : Hid (Bx ((w1.alloc (.cells #[fv (oneF q)] 54)).setCells (w.heap.size + 1) 0 (encP (zeroT, .slice none 0 0))) (w.heap.size + 1) zeroT (.slice none 0 0)) := HR2.out.put (zeroT, .slice none 0 0)
    have Hbl : Hid (Below w.heap.size w ((w1.alloc (.cells #[fv (oneF q)] 54)).setCells (w.heap.size + 1) 0 (encP (zeroT, .slice none 0 0)))) := below_put hb2 (Nat.le_succ _) (zeroT, .slice none 0 0)
    go_wp2_with fail
    refine bodyPost_ret (v := .tuple #[.agg #[.int .i64 0, .int .i64 0, .string ⟨#[]⟩, .slice none 0 0], .int .i64 1]) ?_ rfl (vPost_nil Hbl.out)
    obtain ⟨q0, q1, q2, q3, _, _, _, _⟩ := Hbx.out
    simp only [encP, World.setCells, Nat.zero_add, Nat.reduceAdd] at q0 q1 q2 q3
    simp [results, Try.results10, go_sem, q0, q1, q2, q3]
  · have hn' : ¬ n < 0 := by omega
    obtain ⟨y0, y1, y2, y3, z0, z1, z2, z3⟩ := HR2.out
    have Hbx : Hid (Bx ((w1.alloc (.cells #[fv (oneF q)] 54)).setCells (w.heap.size + 1) 0 (encP (zeroT, .slice none 0 0))) (w.heap.size + 1) zeroT (.slice none 0 0)) := HR2.out.put (zeroT, .slice none 0 0)
    have Hbl : Hid (Below w.heap.size w ((w1.alloc (.cells #[fv (oneF q)] 54)).setCells (w.heap.size + 1) 0 (encP (zeroT, .slice none 0 0)))) := below_put hb2 (Nat.le_succ _) (zeroT, .slice none 0 0)
    go_wp2_with fail
    refine bodyPost_ret (v := .tuple #[.agg #[.int .i64 0, .int .i64 0, .string ⟨#[]⟩, .slice none 0 0], .int .i64 1]) ?_ rfl (vPost_nil Hbl.out)
    obtain ⟨q0, q1, q2, q3, _, _, _, _⟩ := Hbx.out
    simp only [encP, World.setCells, Nat.zero_add, Nat.reduceAdd] at q0 q1 q2 q3
    simp [results, Try.results10, go_sem, q0, q1, q2, q3]

set_option maxHeartbeats 2000000 in
theorem times_val (d : Nat) (q n : Nat) (t : VT) (u : Value) (w : World) (hu : Lies d w t.items u) (hs : t.text.size ≤ 9223372036854775807) (hq : q < 8) (hn : n ≤ 65536) (hr : rightV d t = false) :
    Calls Try.prog 10 #[.int .i64 q, .int .i64 n, .agg #[.int .i64 t.kind, .int .i64 t.num, .string t.text, u]] w (VPost nilT 3 w) := by
  have HE : Hid (rightV d t = false) := hr
  clear hr
  obtain ⟨a, c, rfl, _⟩ := Lies.slice hu
  have HL : Hid (Lies d w t.items (.slice a t.items.length c)) := hu
  clear hu
  have HB := start3_below w t (.slice a t.items.length c)
  have HR : Hid (Bx (start3 w t (.slice a t.items.length c)) (w.heap.size + 1) zeroT (.slice none 0 0)) := start3_res w t _
  have HX : Hid (Bx (start3 w t (.slice a t.items.length c)) w.heap.size t (.slice a t.items.length c)) := start3_box w t _
  have hz := start3_size w t (.slice a t.items.length c)
  have Hz : Hid ((start3 w t (.slice a t.items.length c)).heap.size = w.heap.size + 3) := hz
  clear hz
  go_enter Try.func10, Try.ntmps10
  go_wp2_with fail
  refine (functions_any _).mono ?_
  rintro e w1 ⟨rfl, rfl⟩
  go_wp2_with fail
  refine (rowF_yes (w.heap.size + 1 + 1) q (oneF q) _ hq (start3_row w t (.slice a t.items.length c) q hq)).mono ?_
  rintro e w1 ⟨rfl, hb⟩
  have hb : Below (start3 w t (.slice a t.items.length c)).heap.size (start3 w t (.slice a t.items.length c)) w1 := hb
  have hb1 : Below w.heap.size w w1 := HB.trans (hb.mono (by rw [Hz.out]; omega))
  have hsz : w.heap.size + 3 ≤ w1.heap.size := by have := hb.size; rw [Hz.out] at this; exact this
  have hb2 : Below w.heap.size w (w1.alloc (.cells #[fv (oneF q)] 54)) := hb1.alloc hb1.size _
  have HR2 : Hid (Bx (w1.alloc (.cells #[fv (oneF q)] 54)) (w.heap.size + 1) zeroT (.slice none 0 0)) := (HR.out.keeps hb).keeps ((Grew.refl _).alloc _).below
  have HX2 : Hid (Bx (w1.alloc (.cells #[fv (oneF q)] 54)) w.heap.size t (.slice a t.items.length c)) := (HX.out.keeps hb).keeps ((Grew.refl _).alloc _).below
  have HF2 : Hid ((w1.alloc (.cells #[fv (oneF q)] 54)).cell? ⟨w1.heap.size, 0, none⟩ = some (fv (oneF q))) := by show _ = _; simp
  have hs2 : (w1.alloc (.cells #[fv (oneF q)] 54)).heap.size = w1.heap.size + 1 := by simp
  have HS2 : Hid ((w1.alloc (.cells #[fv (oneF q)] 54)).heap.size = w1.heap.size + 1) := hs2
  clear hb HR HX HB Hz hs2
  have hn1 : ¬ (n : Int) < 0 := by omega
  have hn2 : ¬ 65536 < (n : Int) := by omega
  obtain ⟨x0, x1, x2, x3, _, _, _, _⟩ := HX2.out
  go_wp2_with fail
  refine (check_any d t _ _ (Lies.keeps hb2 _ _ _ HL.out) hs).mono ?_
  rintro e w2 ⟨rfl, hb⟩
  have he : errOf (rightV d t) = 3 := by rw [HE.out]; rfl
  rw [he]
  have hb3 : Below w.heap.size w w2 := hb2.trans (hb.mono hb2.size)
  have HR3 : Hid (Bx w2 (w.heap.size + 1) zeroT (.slice none 0 0)) := HR2.out.keeps hb
  clear hb HR2 x0 x1 x2 x3 HX2 HF2 HL hb2 he HS2 hsz hb1
  obtain ⟨y0, y1, y2, y3, z0, z1, z2, z3⟩ := HR3.out
  have Hbx : Hid (Bx (w2.setCells (w.heap.size + 1) 0 (encP (zeroT, .slice none 0 0))) (w.heap.size + 1) zeroT (.slice none 0 0)) := HR3.out.put (zeroT, .slice none 0 0)
  have Hbl : Hid (Below w.heap.size w (w2.setCells (w.heap.size + 1) 0 (encP (zeroT, .slice none 0 0)))) := below_put hb3 (Nat.le_succ _) (zeroT, .slice none 0 0)
  go_wp2_with fail
  refine bodyPost_ret (v := .tuple #[.agg #[.int .i64 0, .int .i64 0, .string ⟨#[]⟩, .slice none 0 0], .int .i64 3]) ?_ rfl (vPost_nil Hbl.out)
  obtain ⟨q0, q1, q2, q3, _, _, _, _⟩ := Hbx.out
  simp only [encP, World.setCells, Nat.zero_add, Nat.reduceAdd] at q0 q1 q2 q3
  simp [results, Try.results10, go_sem, q0, q1, q2, q3]

end Go.Proofs.Ytacnfmamjbmhcaa

namespace Go.Proofs.Ytacnfmamjbmhcaa
open Go.RowKit

/-- What stands before a round: the value so far in its box, the result's cells, the row. -/
structure Turning (w wr : World) (N B f : Nat) (s : VT) (u : Value) : Prop where
  box : Bx wr N s u
  res : Bx wr (N + 1) zeroT (.slice none 0 0)
  row : wr.cell? ⟨B, 0, none⟩ = some (fv f)
  lies : LiesX (fun b => b ≠ N) 16 wr s.items u
  below : Below w.heap.size w wr
  size : N < wr.heap.size
  far : N + 1 < B

theorem Turning.next {w wr w1 : World} {N B f : Nat} {s s' : VT} {u u' : Value} (h : Turning w wr N B f s u) (hN : w.heap.size ≤ N) (hb : Below wr.heap.size wr w1) (hl : LiesX (fun b => b ≠ N ∨ wr.heap.size ≤ b) 16 w1 s'.items u') :
    Turning w (w1.setCells N 0 (encP (s', u'))) N B f s' u' := by
  have hsz := h.size
  have hfar := h.far
  refine ⟨(h.box.keeps hb).put (s', u'), (h.res.keeps hb).other (by omega) _, cell_other (show B ≠ N by omega) (cell_keeps hb h.row), ?_, below_put (h.below.trans (hb.mono h.below.size)) hN (s', u'), ?_, hfar⟩
  · exact (hl.mono (Y := fun b => b ≠ N) (fun b hb => by omega)).set (by simp)
  · rw [size_setCells]; have := hb.size; omega

theorem right_len_all {t : VT} (hr : rightV 16 t = true) : Len 16 t := by
  have h := hr
  simp only [rightV, Bool.and_eq_true] at h
  exact sm_len 16 t (fw_small 16 t 16 1024 (by omega) (by omega) h.1)

theorem copy_right (t : VT) (u : Value) (w : World) (hl : Lies 16 w t.items u) (hr : rightV 16 t = true) : Calls Try.prog 24 #[.agg #[.int .i64 t.kind, .int .i64 t.num, .string t.text, u]] w (CopyPost 16 t w) :=
  copyOf_any (fun s => s.size ≤ 281474976710656) txt_any 16 t u w hl (right_txt 16 t (right_rp hr)) (right_len_all hr)

set_option maxHeartbeats 4000000 in
theorem times_ok (q n : Nat) (t : VT) (u : Value) (w : World) (hu : Lies 16 w t.items u) (hs : t.text.size ≤ 9223372036854775807) (hq : q < 8) (hn : n ≤ 65536) (hr : rightV 16 t = true) :
    Calls Try.prog 10 #[.int .i64 q, .int .i64 n, .agg #[.int .i64 t.kind, .int .i64 t.num, .string t.text, u]] w (VPost (itT (doneT q) n t) 0 w) := by
  have HD : Hid (Dp 16 t) := Dp.of_lies 16 w t u hu
  have HE : Hid (rightV 16 t = true) := hr
  have HRt : Hid (∀ j, rightV 16 (itT (doneT q) j t) = true ∧ Dp 16 (itT (doneT q) j t)) := fun j => it_right q HE.out HD.out j
  have Hd : Hid (∀ (s : VT) (v : Value) (W : World), LiesX (fun b => b ≠ w.heap.size) 16 W s.items v → rightV 16 s = true → Calls Try.prog (oneF q) #[.agg #[.int .i64 s.kind, .int .i64 s.num, .string s.text, v]] W (FnPost (fun b => b ≠ w.heap.size) (doneT q s) W)) := fun s v W h1 h2 => done_any _ q hq s v W h1 h2
  have Hrow : Hid (∀ v, (start3 w t v).cell? ⟨w.heap.size + 2, q, none⟩ = some (fv (oneF q))) := fun v => start3_row w t v q hq
  have eg := oneF_enters q hq
  generalize oneF q = f at *
  generalize doneT q = D at *
  clear hr
  obtain ⟨a, c, rfl, _⟩ := Lies.slice hu
  have HL : Hid (Lies 16 w t.items (.slice a t.items.length c)) := hu
  clear hu
  have HB := start3_below w t (.slice a t.items.length c)
  have HR : Hid (Bx (start3 w t (.slice a t.items.length c)) (w.heap.size + 1) zeroT (.slice none 0 0)) := start3_res w t _
  have HX : Hid (Bx (start3 w t (.slice a t.items.length c)) w.heap.size t (.slice a t.items.length c)) := start3_box w t _
  have hz := start3_size w t (.slice a t.items.length c)
  have Hz : Hid ((start3 w t (.slice a t.items.length c)).heap.size = w.heap.size + 3) := hz
  clear hz
  go_enter Try.func10, Try.ntmps10
  go_wp2_with fail
  refine (functions_any _).mono ?_
  rintro e w1 ⟨rfl, rfl⟩
  go_wp2_with fail
  refine (rowF_yes (w.heap.size + 1 + 1) q f _ hq (Hrow.out _)).mono ?_
  rintro e w1 ⟨rfl, hb⟩
  have hb : Below (start3 w t (.slice a t.items.length c)).heap.size (start3 w t (.slice a t.items.length c)) w1 := hb
  have hb1 : Below w.heap.size w w1 := HB.trans (hb.mono (by rw [Hz.out]; omega))
  have hsz : w.heap.size + 3 ≤ w1.heap.size := by have := hb.size; rw [Hz.out] at this; exact this
  have hb2 : Below w.heap.size w (w1.alloc (.cells #[fv f] 54)) := hb1.alloc hb1.size _
  have HR2 : Hid (Bx (w1.alloc (.cells #[fv f] 54)) (w.heap.size + 1) zeroT (.slice none 0 0)) := (HR.out.keeps hb).keeps ((Grew.refl _).alloc _).below
  have HX2 : Hid (Bx (w1.alloc (.cells #[fv f] 54)) w.heap.size t (.slice a t.items.length c)) := (HX.out.keeps hb).keeps ((Grew.refl _).alloc _).below
  have HF2 : Hid ((w1.alloc (.cells #[fv f] 54)).cell? ⟨w1.heap.size, 0, none⟩ = some (fv f)) := by show _ = _; simp
  have hs2 : (w1.alloc (.cells #[fv f] 54)).heap.size = w1.heap.size + 1 := by simp
  have HS2 : Hid ((w1.alloc (.cells #[fv f] 54)).heap.size = w1.heap.size + 1) := hs2
  clear hb HR HX HB Hz hs2
  have hn1 : ¬ (n : Int) < 0 := by omega
  have hn2 : ¬ 65536 < (n : Int) := by omega
  have HLX : Hid (LiesX (fun b => b ≠ w.heap.size) 16 (w1.alloc (.cells #[fv f] 54)) t.items (.slice a t.items.length c)) := ((LiesX.of_lies HL.out).keeps hb2).mono (fun b hb => by omega)
  have HT0 : Hid (Turning w (w1.alloc (.cells #[fv f] 54)) w.heap.size w1.heap.size f t (.slice a t.items.length c)) := ⟨HX2.out, HR2.out, HF2.out, HLX.out, hb2, by rw [HS2.out]; omega, by omega⟩
  obtain ⟨x0, x1, x2, x3, _, _, _, _⟩ := HX2.out
  clear HR2 HX2 HF2 HLX HS2
  go_wp2_with fail
  refine (check_any 16 t _ _ (Lies.keeps hb2 _ _ _ HL.out) hs).mono ?_
  rintro e w2 ⟨rfl, hb⟩
  have he : errOf (rightV 16 t) = 0 := by rw [HE.out]; rfl
  rw [he]
  have HT1 : Hid (Turning w w2 w.heap.size w1.heap.size f t (.slice a t.items.length c)) := by
    have h := HT0.out
    exact ⟨h.box.keeps hb, h.res.keeps hb, cell_keeps hb h.row, h.lies.keeps hb, h.below.trans (hb.mono h.below.size), Nat.lt_of_lt_of_le h.size hb.size, h.far⟩
  clear hb HT0 x0 x1 x2 x3 hb2 he hb1 hsz
  generalize w1.heap.size = B at *
  go_wp2_with fail
  go_loopg [35] n (fun g i wr => ∃ (j : Nat) (s : VT) (v : Value), i = .int .i64 (j : Int) ∧ j ≤ n ∧ g = n - j ∧ Hid (s = itT D j t) ∧ Hid (Turning w wr w.heap.size B f s v))
  case atStart => exact ⟨0, t, _, rfl, by omega, by omega, rfl, HT1⟩
  case round =>
    obtain ⟨j, s, v, rfl, hj, hk, Hs, HT⟩ := hrel
    have Hk : Hid _ := hk
    clear hk HT1
    obtain ⟨av, cv, rfl, _⟩ := LiesX.slice HT.out.lies
    obtain ⟨x0, x1, x2, x3, k0, k1, k2, k3⟩ := HT.out.box
    have xr := HT.out.row
    by_cases hlt : j < n
    · go_wp2_with (go_at_fn f; refine (Hd.out s (.slice av s.items.length cv) _ HT.out.lies (by rw [Hs.out]; exact (HRt.out j).1)).mono ?_; rintro e w3 ⟨v', rfl, hl3, hb3⟩; fail)
      go_at_fn f
      refine (Hd.out s (.slice av s.items.length cv) _ HT.out.lies (by rw [Hs.out]; exact (HRt.out j).1)).mono ?_
      rintro e w3 ⟨v', rfl, hl3, hb3⟩
      have HT3 : Hid (Turning w (w3.setCells w.heap.size 0 (encP (D s, v'))) w.heap.size B f (D s) v') := HT.out.next (Nat.le_refl _) hb3 hl3
      obtain ⟨a3, c3, rfl, _⟩ := LiesX.slice hl3
      have HBx := HT.out.box.keeps hb3
      obtain ⟨x0, x1, x2, x3, k0, k1, k2, k3⟩ := HBx
      have Hs3 : Hid (D s = itT D (j + 1) t) := by show _ = _; rw [Hs.out]; rfl
      clear hl3 hb3 HT xr
      generalize D s = s' at *
      go_wp2_with fail
      go_roundg (n - (j + 1))
      case measure => have := Hk.out; omega
      case rel => exact ⟨j + 1, s', .slice a3 s'.items.length c3, by go_num, by omega, rfl, Hs3, HT3⟩
    · have hjn : j = n := by omega
      subst hjn
      go_wp2_with fail
      refine (copy_right s _ _ HT.out.lies.lies (by rw [Hs.out]; exact (HRt.out j).1)).mono ?_
      rintro e w3 ⟨v', rfl, hl3, hb3⟩
      have HR3 : Hid (Bx w3 (w.heap.size + 1) zeroT (.slice none 0 0)) := HT.out.res.keeps hb3
      have hbw : Below w.heap.size w w3 := HT.out.below.trans (hb3.mono HT.out.below.size)
      have hsz3 : w.heap.size + 1 < wr.heap.size := cell_lt HT.out.res.c0
      obtain ⟨a3, c3, rfl, _⟩ := LiesB.slice hl3
      obtain ⟨y0, y1, y2, y3, z0, z1, z2, z3⟩ := HR3.out
      have Hbx : Hid (Bx (w3.setCells (w.heap.size + 1) 0 (encP (s, .slice a3 s.items.length c3))) (w.heap.size + 1) s (.slice a3 s.items.length c3)) := HR3.out.put (s, .slice a3 s.items.length c3)
      have Hbl : Hid (Below w.heap.size w (w3.setCells (w.heap.size + 1) 0 (encP (s, .slice a3 s.items.length c3)))) := below_put hbw (Nat.le_succ _) (s, .slice a3 s.items.length c3)
      have Hfin : Hid (LiesX (fun b => w.heap.size ≤ b) 16 (w3.setCells (w.heap.size + 1) 0 (encP (s, .slice a3 s.items.length c3))) s.items (.slice a3 s.items.length c3)) := ((LiesX.of_b hl3).set (g := w.heap.size + 1) (by omega)).mono (fun b hb => by have := HT.out.size; omega)
      clear hl3 hb3 HT xr x0 x1 x2 x3 k0 k1 k2 k3
      go_wp2_with fail
      refine bodyPost_ret (v := .tuple #[.agg #[.int .i64 s.kind, .int .i64 s.num, .string s.text, .slice a3 s.items.length c3], .int .i64 0]) ?_ rfl (by rw [← Hs.out]; exact ⟨_, rfl, Hfin.out, Hbl.out⟩)
      obtain ⟨q0, q1, q2, q3, _, _, _, _⟩ := Hbx.out
      simp only [encP, World.setCells, Nat.zero_add, Nat.reduceAdd] at q0 q1 q2 q3
      simp [results, Try.results10, go_sem, q0, q1, q2, q3]

theorem times_any (d : Nat) (q n : Int) (t : VT) (u : Value) (w : World) (hu : Lies d w t.items u) (hs : t.text.size ≤ 9223372036854775807) :
    Calls Try.prog 10 #[.int .i64 q, .int .i64 n, .agg #[.int .i64 t.kind, .int .i64 t.num, .string t.text, u]] w (VPost (timesT d q n t) (timesE d q n t) w) := by
  unfold timesT
  by_cases hq : q < 0 ∨ 8 ≤ q
  · have e : timesE d q n t = 4 := by unfold timesE; rw [if_pos hq]
    rw [e]
    exact times_kind d q n t u w hu hq
  · obtain ⟨Q, hQ, hQ8⟩ : ∃ Q : Nat, q = Q ∧ Q < 8 := ⟨q.toNat, by omega, by omega⟩
    subst hQ
    by_cases hn : n < 0 ∨ 65536 < n
    · have e : timesE d Q n t = 1 := by unfold timesE; rw [if_neg hq, if_pos hn]
      rw [e]
      exact times_num d Q n t u w hu hQ8 hn
    · obtain ⟨K, hK, hK8⟩ : ∃ K : Nat, n = K ∧ K ≤ 65536 := ⟨n.toNat, by omega, by omega⟩
      subst hK
      cases hr : rightV d t
      · have e : timesE d Q K t = 3 := by unfold timesE; rw [if_neg hq, if_neg hn, hr]; rfl
        rw [e]
        exact times_val d Q K t u w hu hs hQ8 hK8 hr
      · have e : timesE d Q K t = 0 := by unfold timesE; rw [if_neg hq, if_neg hn, if_pos hr]
        rw [e]
        have hc := canon hu hr
        exact times_ok Q K t u w hc.1 hs hQ8 hK8 hc.2

theorem one_any (d : Nat) (q : Int) (t : VT) (u : Value) (w : World) (hu : Lies d w t.items u) (hs : t.text.size ≤ 9223372036854775807) :
    Calls Try.prog 8 #[.int .i64 q, .agg #[.int .i64 t.kind, .int .i64 t.num, .string t.text, u]] w (VPost (timesT d q 1 t) (timesE d q 1 t) w) := by
  obtain ⟨a, c, rfl, _⟩ := Lies.slice hu
  have HL : Hid (Lies d w t.items (.slice a t.items.length c)) := hu
  clear hu
  have hb2 : Below w.heap.size w ((w.alloc (.cells #[.int .i64 t.kind, .int .i64 t.num, .string t.text, .slice a t.items.length c] 24)).alloc (.cells #[.int .i64 0, .int .i64 0, .string ⟨#[]⟩, .slice none 0 0] 24)) := (Grew.two _ _ _).below
  have HR : Hid (Bx ((w.alloc (.cells #[.int .i64 t.kind, .int .i64 t.num, .string t.text, .slice a t.items.length c] 24)).alloc (.cells #[.int .i64 0, .int .i64 0, .string ⟨#[]⟩, .slice none 0 0] 24)) (w.heap.size + 1) zeroT (.slice none 0 0)) := by
    have := bx_alloc (w.alloc (.cells #[.int .i64 t.kind, .int .i64 t.num, .string t.text, .slice a t.items.length c] 24)) zeroT (.slice none 0 0)
    rwa [World.size_alloc] at this
  go_enter Try.func8, Try.ntmps8
  go_wp2_with fail
  refine (times_any d q 1 t _ _ (Lies.keeps hb2 _ _ _ HL.out) hs).mono ?_
  rintro e w3 ⟨v, rfl, hl3, hb3⟩
  have HR3 : Hid (Bx w3 (w.heap.size + 1) zeroT (.slice none 0 0)) := HR.out.keeps hb3
  have hbw : Below w.heap.size w w3 := hb2.trans (hb3.mono hb2.size)
  generalize timesT d q 1 t = s at *
  generalize timesE d q 1 t = E at *
  obtain ⟨a3, c3, rfl, _⟩ := LiesX.slice hl3
  simp only [World.size_alloc] at hl3
  obtain ⟨y0, y1, y2, y3, z0, z1, z2, z3⟩ := HR3.out
  have Hbx : Hid (Bx (w3.setCells (w.heap.size + 1) 0 (encP (s, .slice a3 s.items.length c3))) (w.heap.size + 1) s (.slice a3 s.items.length c3)) := HR3.out.put (s, .slice a3 s.items.length c3)
  have Hbl : Hid (Below w.heap.size w (w3.setCells (w.heap.size + 1) 0 (encP (s, .slice a3 s.items.length c3)))) := below_put hbw (Nat.le_succ _) (s, .slice a3 s.items.length c3)
  have Hfin : Hid (LiesX (fun b => w.heap.size ≤ b) 16 (w3.setCells (w.heap.size + 1) 0 (encP (s, .slice a3 s.items.length c3))) s.items (.slice a3 s.items.length c3)) := (hl3.set (g := w.heap.size + 1) (by omega)).mono (fun b hb => by omega)
  clear hl3 hb3 hb2 HL HR
  go_wp2_with fail
  refine bodyPost_ret (v := .tuple #[.agg #[.int .i64 s.kind, .int .i64 s.num, .string s.text, .slice a3 s.items.length c3], .int .i64 E]) ?_ rfl ⟨_, rfl, Hfin.out, Hbl.out⟩
  obtain ⟨q0, q1, q2, q3, _, _, _, _⟩ := Hbx.out
  simp only [encP, World.setCells, Nat.zero_add, Nat.reduceAdd] at q0 q1 q2 q3
  simp [results, Try.results8, go_sem, q0, q1, q2, q3]

end Go.Proofs.Ytacnfmamjbmhcaa

namespace Go.Proofs.Ytacnfmamjbmhcaa
open Go.RowKit

def evenB (n : Int) : Bool := n.tmod 2 == 0

/-- What a question is answered. -/
def qB : Nat → VT → Bool
  | 0, _ => true
  | 1, _ => false
  | 2, t => t.kind == 2
  | 3, t => t.kind == 2 && evenB t.num
  | 4, t => t.kind == 2 && decide (0 < t.num)
  | 5, t => t.kind == 3
  | 6, t => t.kind == 4 || (t.kind == 5 || t.kind == 6)
  | _, t => t.kind == 0

def QPost (b : Bool) (W : World) (e : Ending) (W' : World) : Prop := e = .returned (.bool b) ∧ Below W.heap.size W W'

set_option maxHeartbeats 400000 in
theorem isInt_any (t : VT) (a : Option Addr) (l c : Nat) (w : World) : Calls Try.prog 51 #[.agg #[.int .i64 t.kind, .int .i64 t.num, .string t.text, .slice a l c]] w fun e w' => e = .returned (.bool (t.kind == 2)) ∧ w' = w.alloc (.cells #[.int .i64 t.kind, .int .i64 t.num, .string t.text, .slice a l c] 24) := by
  go_enter Try.func51, Try.ntmps51
  go_wp2_with fail
  go_ret
  exact ⟨rfl, rfl⟩

set_option maxHeartbeats 400000 in
theorem never_any (t : VT) (a : Option Addr) (l c : Nat) (w : World) : Calls Try.prog 50 #[.agg #[.int .i64 t.kind, .int .i64 t.num, .string t.text, .slice a l c]] w (QPost false w) := by
  go_enter Try.func50, Try.ntmps50
  go_wp2_with fail
  go_ret
  first | exact ⟨rfl, (Grew.refl _).alloc _ |>.below⟩ | exact ⟨rfl, Below.refl _ _⟩

set_option maxHeartbeats 400000 in
theorem question_any (q : Nat) (hq : q < 8) (t : VT) (u : Value) (d : Nat) (w : World) (hl : Lies d w t.items u) :
    Calls Try.prog (isF q) #[.agg #[.int .i64 t.kind, .int .i64 t.num, .string t.text, u]] w (QPost (qB q t) w) := by
  obtain ⟨a, c, rfl, _⟩ := Lies.slice hl
  clear hl
  generalize t.items.length = l
  match q, hq with
  | 0, _ =>
    show Calls Try.prog 49 _ _ _
    go_enter Try.func49, Try.ntmps49
    go_wp2_with fail
    go_ret
    first | exact ⟨rfl, (Grew.refl _).alloc _ |>.below⟩ | exact ⟨rfl, Below.refl _ _⟩
  | 1, _ => exact never_any t a l c w
  | 2, _ => exact (isInt_any t a l c w).mono fun e w' h => ⟨h.1, by rw [h.2]; exact ((Grew.refl _).alloc _).below⟩
  | 3, _ =>
    show Calls Try.prog 52 _ _ _
    cases hk : (t.kind == 2)
    · go_enter Try.func52, Try.ntmps52
      go_wp2_with (go_at_call 51; refine (isInt_any t _ _ _ _).mono ?_; rintro e w' ⟨rfl, rfl⟩)
      go_ret
      exact ⟨by simp [qB, hk], (Grew.two _ _ _).below⟩
    · go_enter Try.func52, Try.ntmps52
      go_wp2_with (go_at_call 51; refine (isInt_any t _ _ _ _).mono ?_; rintro e w' ⟨rfl, rfl⟩)
      go_ret
      exact ⟨by simp [qB, hk, evenB], (Grew.two _ _ _).below⟩
  | 4, _ =>
    show Calls Try.prog 53 _ _ _
    cases hk : (t.kind == 2)
    · go_enter Try.func53, Try.ntmps53
      go_wp2_with (go_at_call 51; refine (isInt_any t _ _ _ _).mono ?_; rintro e w' ⟨rfl, rfl⟩)
      go_ret
      exact ⟨by simp [qB, hk], (Grew.two _ _ _).below⟩
    · go_enter Try.func53, Try.ntmps53
      go_wp2_with (go_at_call 51; refine (isInt_any t _ _ _ _).mono ?_; rintro e w' ⟨rfl, rfl⟩)
      go_ret
      exact ⟨by simp [qB, hk], (Grew.two _ _ _).below⟩
  | 5, _ =>
    show Calls Try.prog 54 _ _ _
    go_enter Try.func54, Try.ntmps54
    go_wp2_with fail
    go_ret
    exact ⟨rfl, ((Grew.refl _).alloc _).below⟩
  | 6, _ =>
    show Calls Try.prog 55 _ _ _
    cases h4 : (t.kind == 4)
    · cases h5 : (t.kind == 5)
      · go_enter Try.func55, Try.ntmps55
        go_wp2_with fail
        go_ret
        exact ⟨by simp [qB, h4, h5], ((Grew.refl _).alloc _).below⟩
      · go_enter Try.func55, Try.ntmps55
        go_wp2_with fail
        go_ret
        exact ⟨by simp [qB, h5], ((Grew.refl _).alloc _).below⟩
    · go_enter Try.func55, Try.ntmps55
      go_wp2_with fail
      go_ret
      exact ⟨by simp [qB, h4], ((Grew.refl _).alloc _).below⟩
  | 7, _ =>
    show Calls Try.prog 56 _ _ _
    go_enter Try.func56, Try.ntmps56
    go_wp2_with fail
    go_ret
    exact ⟨rfl, ((Grew.refl _).alloc _).below⟩

/-- The error of Is, and its answer. -/
def isE (d : Nat) (q : Int) (t : VT) : Int := if q < 0 ∨ 8 ≤ q then 4 else if rightV d t = true then 0 else 3
def isZ (d : Nat) (q : Int) (t : VT) : Bool := if isE d q t = 0 then qB q.toNat t else false

/-- The world behind the first region. -/
def startQ (w : World) (t : VT) (u : Value) : World :=
  (w.alloc (.cells #[.int .i64 t.kind, .int .i64 t.num, .string t.text, u] 24)).alloc
    (.cells #[fv 49, fv 50, fv 51, fv 52, fv 53, fv 54, fv 55, fv 56] 62)

theorem startQ_below (w : World) (t : VT) (u : Value) : Below w.heap.size w (startQ w t u) := (Grew.two _ _ _).below
theorem startQ_box (w : World) (t : VT) (u : Value) : Bx (startQ w t u) w.heap.size t u := (bx_alloc w t u).keeps ((Grew.refl _).alloc _).below
theorem startQ_row (w : World) (t : VT) (u : Value) (q : Nat) (hq : q < 8) : (startQ w t u).cell? ⟨w.heap.size + 1, q, none⟩ = some (fv (isF q)) := by
  have := isF_cell (w.alloc (.cells #[.int .i64 t.kind, .int .i64 t.num, .string t.text, u] 24)) q hq
  rwa [World.size_alloc] at this
theorem startQ_size (w : World) (t : VT) (u : Value) : (startQ w t u).heap.size = w.heap.size + 2 := by unfold startQ; simp

def IPost (b : Bool) (r : Int) (W : World) (e : Ending) (W' : World) : Prop := e = .returned (.tuple #[.bool b, .int .i64 r]) ∧ Below W.heap.size W W'

set_option maxHeartbeats 2000000 in
theorem pis_no (d : Nat) (q : Int) (t : VT) (u : Value) (w : World) (hu : Lies d w t.items u) (hq : q < 0 ∨ 8 ≤ q) :
    Calls Try.prog 14 #[.int .i64 q, .agg #[.int .i64 t.kind, .int .i64 t.num, .string t.text, u]] w (IPost false 4 w) := by
  obtain ⟨a, c, rfl, _⟩ := Lies.slice hu
  clear hu
  have HB := startQ_below w t (.slice a t.items.length c)
  have Hz : Hid ((startQ w t (.slice a t.items.length c)).heap.size = w.heap.size + 2) := startQ_size _ _ _
  have HQ : Hid (q < 0 ∨ 8 ≤ q) := hq
  clear hq
  go_enter Try.func14, Try.ntmps14
  go_wp2_with fail
  refine (questions_any _).mono ?_
  rintro e w1 ⟨rfl, rfl⟩
  go_wp2_with fail
  refine (rowQ_no (w.heap.size + 1) q _ HQ.out).mono ?_
  rintro e w1 ⟨rfl, hb⟩
  have hb : Below (startQ w t (.slice a t.items.length c)).heap.size (startQ w t (.slice a t.items.length c)) w1 := hb
  have hb1 : Below w.heap.size w w1 := HB.trans (hb.mono (by rw [Hz.out]; omega))
  clear hb HB
  go_wp2_with fail
  go_ret2
  exact ⟨rfl, hb1.alloc hb1.size _⟩

set_option maxHeartbeats 2000000 in
theorem pis_yes (d q : Nat) (t : VT) (u : Value) (w : World) (hu : Lies d w t.items u) (hs : t.text.size ≤ 9223372036854775807) (hq : q < 8) :
    Calls Try.prog 14 #[.int .i64 q, .agg #[.int .i64 t.kind, .int .i64 t.num, .string t.text, u]] w (IPost (if rightV d t = true then qB q t else false) (errOf (rightV d t)) w) := by
  have Hd : Hid (∀ (v : Value) (W : World), Lies d W t.items v → Calls Try.prog (isF q) #[.agg #[.int .i64 t.kind, .int .i64 t.num, .string t.text, v]] W (QPost (qB q t) W)) := fun v W h => question_any q hq t v d W h
  have Hrow : Hid (∀ v, (startQ w t v).cell? ⟨w.heap.size + 1, q, none⟩ = some (fv (isF q))) := fun v => startQ_row w t v q hq
  have eg := isF_enters q hq
  generalize isF q = f at *
  generalize qB q t = Q at *
  generalize hZ : (if rightV d t = true then Q else false) = Z
  generalize hE : errOf (rightV d t) = E
  have HZ : Hid ((if rightV d t = true then Q else false) = Z) := hZ
  have HE : Hid (errOf (rightV d t) = E) := hE
  clear hZ hE
  obtain ⟨a, c, rfl, _⟩ := Lies.slice hu
  have HL : Hid (Lies d w t.items (.slice a t.items.length c)) := hu
  clear hu
  have HB := startQ_below w t (.slice a t.items.length c)
  have HX : Hid (Bx (startQ w t (.slice a t.items.length c)) w.heap.size t (.slice a t.items.length c)) := startQ_box w t _
  have Hz : Hid ((startQ w t (.slice a t.items.length c)).heap.size = w.heap.size + 2) := startQ_size _ _ _
  go_enter Try.func14, Try.ntmps14
  go_wp2_with fail
  refine (questions_any _).mono ?_
  rintro e w1 ⟨rfl, rfl⟩
  go_wp2_with fail
  refine (rowQ_yes (w.heap.size + 1) q f _ hq (Hrow.out _)).mono ?_
  rintro e w1 ⟨rfl, hb⟩
  have hb : Below (startQ w t (.slice a t.items.length c)).heap.size (startQ w t (.slice a t.items.length c)) w1 := hb
  have hb1 : Below w.heap.size w w1 := HB.trans (hb.mono (by rw [Hz.out]; omega))
  have hb2 : Below w.heap.size w (w1.alloc (.cells #[fv f] 62)) := hb1.alloc hb1.size _
  have HX2 : Hid (Bx (w1.alloc (.cells #[fv f] 62)) w.heap.size t (.slice a t.items.length c)) := (HX.out.keeps hb).keeps ((Grew.refl _).alloc _).below
  have HF2 : Hid ((w1.alloc (.cells #[fv f] 62)).cell? ⟨w1.heap.size, 0, none⟩ = some (fv f)) := by show _ = _; simp
  clear hb HB HX Hz Hrow
  obtain ⟨x0, x1, x2, x3, _, _, _, _⟩ := HX2.out
  go_wp2_with fail
  refine (check_any d t _ _ (Lies.keeps hb2 _ _ _ HL.out) hs).mono ?_
  rintro e w2 ⟨rfl, hb⟩
  have hb3 : Below w.heap.size w w2 := hb2.trans (hb.mono hb2.size)
  have HX3 := HX2.out.keeps hb
  have xr := cell_keeps hb HF2.out
  clear hb HX2 HF2 x0 x1 x2 x3 hb2 hb1
  obtain ⟨x0, x1, x2, x3, _, _, _, _⟩ := HX3
  generalize w1.heap.size = B at *
  cases hr : rightV d t
  · have he : errOf false = 3 := rfl
    rw [he]
    have Hr : Hid (rightV d t = false) := hr
    clear he hr
    go_wp2_with fail
    go_ret2
    rw [← HZ.out, ← HE.out, Hr.out]
    exact ⟨rfl, hb3⟩
  · have he : errOf true = 0 := rfl
    rw [he]
    have Hr : Hid (rightV d t = true) := hr
    clear he hr
    go_wp2_with (go_at_fn f; refine Calls.mono (Hd.out (.slice a t.items.length c) _ (Lies.keeps hb3 _ _ _ HL.out)) ?_; rintro e w4 ⟨rfl, hb4⟩)
    go_ret2
    rw [← HZ.out, ← HE.out, Hr.out]
    exact ⟨rfl, hb3.trans (hb4.mono hb3.size)⟩

theorem pis_any (d : Nat) (q : Int) (t : VT) (u : Value) (w : World) (hu : Lies d w t.items u) (hs : t.text.size ≤ 9223372036854775807) :
    Calls Try.prog 14 #[.int .i64 q, .agg #[.int .i64 t.kind, .int .i64 t.num, .string t.text, u]] w (IPost (isZ d q t) (isE d q t) w) := by
  unfold isZ
  by_cases hq : q < 0 ∨ 8 ≤ q
  · have e : isE d q t = 4 := by unfold isE; rw [if_pos hq]
    rw [e]
    exact pis_no d q t u w hu hq
  · obtain ⟨Q, hQ, hQ8⟩ : ∃ Q : Nat, q = Q ∧ Q < 8 := ⟨q.toNat, by omega, by omega⟩
    subst hQ
    have h := pis_yes d Q t u w hu hs hQ8
    cases hr : rightV d t
    · have e : isE d Q t = 3 := by unfold isE; rw [if_neg hq, hr]; rfl
      rw [hr] at h
      rw [e]; exact h
    · have e : isE d Q t = 0 := by unfold isE; rw [if_neg hq, if_pos hr]
      rw [hr] at h
      rw [e]; exact h

end Go.Proofs.Ytacnfmamjbmhcaa

