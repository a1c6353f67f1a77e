/-
  A value with what a function makes of each leaf, plainly.
-/
import Derived.Test.YtofceccicmlmoaaGreatSize
import Derived.Test.YtofceccicmlmoaaGreatVList
import Derived.Test.YtofceccicmlmoaaGreatSameEq
import Derived.Test.YtofceccicmlmoaaGreatLevel
import Derived.Test.YtofceccicmlmoaaGreatLastP
import Derived.Test.YtofceccicmlmoaaGreatSame
namespace Go.Proofs.YtofceccicmlmoaaGreat
open Go.RowKit

/-- FnWrap. -/
def wrapT (t : VT) : VT := if (fw 17 (listT [t]) 16 1024).1 = true then listT [t] else nilT

theorem lies_one {d : Nat} {w : World} {t : VT} {u : Value} {b c : Nat} (hb : Boxed w b t.kind t.num t.text u) (hl : Lies d w t.items u) (hs : t.text.size ≤ 9223372036854775807) (hc : 1 ≤ c) : Lies (d + 1) w [t] (.slice (some ⟨b, 0, none⟩) 1 c) := by
  refine ⟨some ⟨b, 0, none⟩, c, rfl, ⟨hc, by simp⟩, fun _ => ⟨b, 0, rfl, fun i hi => ?_⟩⟩
  have : i = 0 := by simp at hi; omega
  subst this
  exact ⟨u, hb.c0, hb.c1, hb.c2, hb.c3, hl, hs⟩

theorem listErr_one {d : Nat} {t : VT} (h : rightV d t = true) : listErr d [t] = 0 := by
  simp [listErr, h]

theorem dp_list {l : List VT} (h : (fw 17 (listT l) 16 1024).1 = true) (hd : ∀ x ∈ l, Dp 16 x) : Dp 16 (listT l) := fw_deep 17 (listT l) 16 1024 (by omega) h hd

set_option maxHeartbeats 2000000 in
theorem wrap_any (X : Nat → Prop) (t : VT) (a : Option Addr) (l c : Nat) (w : World) (h : Lies 16 w t.items (.slice a l c)) (hr : rightV 16 t = true) (hs : t.text.size ≤ 9223372036854775807) :
    Calls Tryz.prog 80 #[.agg #[.int .i64 t.kind, .int .i64 t.num, .string t.text, .slice a l c]] w (FnPost X (wrapT t) w) := by
  have HD : Hid (Dp 16 t) := Dp.of_lies 16 w t _ h
  have HL : Hid (Lies 16 w t.items (.slice a l c)) := h
  have HR : Hid (listErr 16 [t] = 0) := listErr_one hr
  clear h hr
  have hbz : Below w.heap.size w (((w.alloc (.cells #[.int .i64 t.kind, .int .i64 t.num, .string t.text, .slice a l c] 24)).alloc (.cells #[.int .i64 0, .int .i64 0, .string ⟨#[]⟩, .slice none 0 0] 24)).alloc (.cells #[.int .i64 t.kind, .int .i64 t.num, .string t.text, .slice a l c] 24)) := grew3 _ _ _ _
  have HK : Hid (Blank (((w.alloc (.cells #[.int .i64 t.kind, .int .i64 t.num, .string t.text, .slice a l c] 24)).alloc (.cells #[.int .i64 0, .int .i64 0, .string ⟨#[]⟩, .slice none 0 0] 24)).alloc (.cells #[.int .i64 t.kind, .int .i64 t.num, .string t.text, .slice a l c] 24)) (w.heap.size + 1)) := by
    have := (blank_alloc (w.alloc (.cells #[.int .i64 t.kind, .int .i64 t.num, .string t.text, .slice a l c] 24))).keeps ((Grew.refl _).alloc (.cells #[.int .i64 t.kind, .int .i64 t.num, .string t.text, .slice a l c] 24)).below
    rwa [World.size_alloc] at this
  have HX : Hid (Boxed (((w.alloc (.cells #[.int .i64 t.kind, .int .i64 t.num, .string t.text, .slice a l c] 24)).alloc (.cells #[.int .i64 0, .int .i64 0, .string ⟨#[]⟩, .slice none 0 0] 24)).alloc (.cells #[.int .i64 t.kind, .int .i64 t.num, .string t.text, .slice a l c] 24)) (w.heap.size + 1 + 1) t.kind t.num t.text (.slice a l c)) := by
    have := boxed_alloc ((w.alloc (.cells #[.int .i64 t.kind, .int .i64 t.num, .string t.text, .slice a l c] 24)).alloc (.cells #[.int .i64 0, .int .i64 0, .string ⟨#[]⟩, .slice none 0 0] 24)) t.kind t.num t.text (.slice a l c) 24
    rwa [World.size_alloc, World.size_alloc] at this
  go_enter Tryz.func80, Tryz.ntmps80
  go_wp2_with fail
  refine (vlist_any 16 [t] _ _ (lies_one HX.out (Lies.keeps hbz _ _ _ HL.out) hs (Nat.le_refl _))).mono ?_
  rintro e w1 ⟨hb, hp⟩
  have hb1 : Below w.heap.size w w1 := hbz.trans (hb.mono (by simp; omega))
  have hsz : w.heap.size + 3 ≤ w1.heap.size := by have := hb.size; simp at this; omega
  have HK1 : Hid (Blank w1 (w.heap.size + 1)) := HK.out.keeps hb
  have hp := hp.resolve_left (fun h => h.1 HR.out)
  obtain ⟨_, hp⟩ := hp
  clear hbz HX HK
  rcases hp with ⟨hf, rfl⟩ | ⟨hf, v, rfl, hLB⟩
  · have He : Hid (wrapT t = nilT) := by show _ = _; unfold wrapT; rw [hf]; rfl
    clear hf hb
    unfold zeroAgg
    have HK2 : Hid (Blank (w1.alloc (.cells #[.int .i64 0, .int .i64 0, .string ⟨#[]⟩, .slice none 0 0] 24)) (w.heap.size + 1)) := HK1.out.keeps ((Grew.refl _).alloc _).below
    have hb2 : Below w.heap.size w (w1.alloc (.cells #[.int .i64 0, .int .i64 0, .string ⟨#[]⟩, .slice none 0 0] 24)) := hb1.alloc hb1.size _
    obtain ⟨y0, y1, y2, y3, z0, z1, z2, z3⟩ := HK2.out
    have Hbx : Hid _ := HK2.out.put (⟨0, 0, ⟨#[]⟩, []⟩, .slice none 0 0)
    have Hbl : Hid _ := below_put hb2 (Nat.le_succ _) (⟨0, 0, ⟨#[]⟩, []⟩, .slice none 0 0)
    go_wp2_with fail
    refine bodyPost_ret (v := .agg #[.int .i64 0, .int .i64 0, .string ⟨#[]⟩, .slice none 0 0]) ?_ rfl (by rw [He.out]; exact fnPost_nil Hbl.out)
    obtain ⟨q0, q1, q2, q3⟩ := Hbx.out
    simp only [encP, World.setCells, Nat.zero_add, Nat.reduceAdd] at q0 q1 q2 q3
    simp [results, Tryz.results80, go_sem, q0, q1, q2, q3]
  · have He : Hid (wrapT t = listT [t]) := by show _ = _; unfold wrapT; rw [hf]; rfl
    have hd : Dp 16 (listT [t]) := dp_list hf (fun x hx => by
      have : x = t := by simpa using hx
      subst this; exact HD.out)
    obtain ⟨av, cv, rfl, _⟩ := LiesB.slice hLB
    have HLB : Hid (LiesB (w.heap.size + 3) 17 w1 [t] (.slice av [t].length cv)) := LiesB.lower (by simp) _ _ _ hLB
    clear hf hb hLB
    simp only [List.length_singleton] at HLB ⊢
    have HK2 : Hid (Blank (w1.alloc (.cells #[.int .i64 4, .int .i64 0, .string ⟨#[]⟩, .slice av 1 cv] 24)) (w.heap.size + 1)) := HK1.out.keeps ((Grew.refl _).alloc _).below
    have hb2 : Below w.heap.size w (w1.alloc (.cells #[.int .i64 4, .int .i64 0, .string ⟨#[]⟩, .slice av 1 cv] 24)) := hb1.alloc hb1.size _
    obtain ⟨y0, y1, y2, y3, z0, z1, z2, z3⟩ := HK2.out
    have Hbx : Hid _ := HK2.out.put (listT [t], .slice av 1 cv)
    have Hbl : Hid _ := below_put hb2 (Nat.le_succ _) (listT [t], .slice av 1 cv)
    have Hfin : Hid (LiesX (fun b => X b ∨ w.heap.size ≤ b) 16 ((w1.alloc (.cells #[.int .i64 4, .int .i64 0, .string ⟨#[]⟩, .slice av 1 cv] 24)).setCells (w.heap.size + 1) 0 (encP (listT [t], .slice av 1 cv))) [t] (.slice av 1 cv)) := by
      have h1 : LiesX (fun b => w.heap.size + 3 ≤ b) 17 w1 [t] (.slice av 1 cv) := LiesX.of_b HLB.out
      have h2 := (h1.keeps ((Grew.refl w1).alloc (.cells #[.int .i64 4, .int .i64 0, .string ⟨#[]⟩, .slice av 1 cv] 24)).below).set (g := w.heap.size + 1) (o := 0) (vs := encP (listT [t], .slice av 1 cv)) (by omega)
      exact (LiesX.to (t := listT [t]) h2 hd).mono (fun b hb => .inr (by omega))
    go_wp2_with fail
    refine bodyPost_ret (v := .agg #[.int .i64 4, .int .i64 0, .string ⟨#[]⟩, .slice av 1 cv]) ?_ rfl (by rw [He.out]; exact ⟨_, rfl, Hfin.out, Hbl.out⟩)
    obtain ⟨q0, q1, q2, q3⟩ := Hbx.out
    simp only [encP, listT, World.setCells, Nat.zero_add, Nat.reduceAdd] at q0 q1 q2 q3
    simp [results, Tryz.results80, go_sem, q0, q1, q2, q3]

end Go.Proofs.YtofceccicmlmoaaGreat

namespace Go.Proofs.YtofceccicmlmoaaGreat
open Go.RowKit Go.PlainAid

theorem fwL_mono {f g : VT → Int → Bool × Int} (hf : ∀ x m, 0 ≤ m → 0 ≤ (f x m).2) (h : ∀ x m m', 0 ≤ m → m ≤ m' → (f x m).1 = true → (g x m').1 = true ∧ (g x m').2 = (f x m).2 + (m' - m)) :
    ∀ (l : List VT) (n n' : Int), 0 ≤ n → n ≤ n' → (fwL f l n).1 = true → (fwL g l n').1 = true ∧ (fwL g l n').2 = (fwL f l n).2 + (n' - n) := by
  intro l
  induction l with
  | nil => intro n n' _ _ _; exact ⟨rfl, by show n' = n + (n' - n); omega⟩
  | cons x l ih =>
    intro n n' h0 hn hh
    unfold fwL at hh ⊢
    by_cases hx : (f x n).1 = true
    · rw [if_pos hx] at hh ⊢
      obtain ⟨g1, g2⟩ := h x n n' h0 hn hx
      rw [if_pos g1]
      have h1 := hf x n h0
      obtain ⟨i1, i2⟩ := ih (f x n).2 (g x n').2 h1 (by omega) hh
      exact ⟨i1, by omega⟩
    · rw [if_neg hx] at hh; cases hh

theorem fw_mono : ∀ (d : Nat) (t : VT) (lv lv' n n' : Int), 0 ≤ n → lv ≤ lv' → n ≤ n' → (fw d t lv n).1 = true → (fw d t lv' n').1 = true ∧ (fw d t lv' n').2 = (fw d t lv n).2 + (n' - n) := by
  intro d
  induction d with
  | zero =>
    intro t lv lv' n n' h0 hl hn hh
    unfold fw at hh ⊢
    by_cases hx : lv < 0 ∨ n = 0
    · rw [if_pos hx] at hh; cases hh
    · rw [if_neg hx, if_neg (by omega)]; exact ⟨rfl, by show n' - 1 = n - 1 + (n' - n); omega⟩
  | succ d ih =>
    intro t lv lv' n n' h0 hl hn hh
    unfold fw at hh ⊢
    by_cases hx : lv < 0 ∨ n = 0
    · rw [if_pos hx] at hh; cases hh
    · rw [if_neg hx] at hh ⊢
      rw [if_neg (by omega)]
      have := fwL_mono (f := fun x m => fw d x (lv - 1) m) (g := fun x m => fw d x (lv' - 1) m) (fun x m hm => (fw_range d x _ m hm).1) (fun x m m' hm hmm hb => ih x (lv - 1) (lv' - 1) m m' hm (by omega) hmm hb) t.items (n - 1) (n' - 1) (by omega) (by omega) hh
      exact ⟨this.1, by omega⟩

theorem fwL_prefix {f : VT → Int → Bool × Int} : ∀ (l m : List VT) (n : Int), (fwL f (l ++ m) n).1 = true → (fwL f l n).1 = true := by
  intro l
  induction l with
  | nil => intro m n _; rfl
  | cons x l ih =>
    intro m n h
    rw [List.cons_append] at h
    unfold fwL at h ⊢
    by_cases hx : (f x n).1 = true
    · rw [if_pos hx] at h ⊢; exact ih m _ h
    · rw [if_neg hx] at h; cases h

theorem fw_items {d : Nat} {t : VT} {lv n : Int} (h : (fw (d + 1) t lv n).1 = true) : ¬ (lv < 0 ∨ n = 0) ∧ (fwL (fun x m => fw d x (lv - 1) m) t.items (n - 1)).1 = true := by
  unfold fw at h
  by_cases hx : lv < 0 ∨ n = 0
  · rw [if_pos hx] at h; cases h
  · rw [if_neg hx] at h; exact ⟨hx, h⟩

theorem rp_succ {d : Nat} {t : VT} (h : rpV (d + 1) t = true) : (∀ x ∈ t.items, rpV d x = true) ∧ ownV d t = true := by
  unfold rpV at h
  rw [Bool.and_eq_true, List.all_eq_true] at h
  exact h

/-- An item of a right value is right. -/
theorem item_right {t x : VT} (hr : rightV 16 t = true) (hd : Dp 16 t) (hx : x ∈ t.items) : rightV 16 x = true ∧ Dp 16 x := by
  have hdx : Dp 15 x := hd x hx
  refine ⟨?_, hdx.up⟩
  rw [rightV_eq x hdx (by omega)]
  simp only [rightV, Bool.and_eq_true] at hr ⊢
  have hrp := rp_succ (d := 15) hr.2
  refine ⟨?_, hrp.1 x hx⟩
  obtain ⟨_, h2⟩ := fw_items hr.1
  obtain ⟨_, _, i3⟩ := fwL_len (f := fun x m => fw 15 x ((16 : Int) - 1) m) (fun x m hm => (fw_range 15 x _ m hm).1) (fun x m hm hb => fw_less 15 x _ m hm hb) t.items (1024 - 1) (by omega) h2
  obtain ⟨m, m1, m2, m3⟩ := i3 x hx
  exact (fw_mono 15 x (16 - 1) 16 m 1024 m1 (by omega) (by omega) m3).1

theorem int_right (n : Int) : rightV 16 (intT n) = true := by
  simp [rightV, fw, fwL, rpV, ownV, okNum, okText, okItems, intT]

theorem nil_right : rightV 16 nilT = true := by
  simp [rightV, fw, fwL, rpV, ownV, okNum, okText, okItems, nilT]

theorem dp_leaf {t : VT} (h : t.items = []) : Dp 16 t := Dp.mono (d := 0) h (by omega)

theorem own_list (d : Nat) (l : List VT) : ownV d (listT l) = true := by
  simp [ownV, okNum, okText, okItems, listT]

theorem rp_list {d : Nat} {l : List VT} (h : ∀ x ∈ l, rpV d x = true) : rpV (d + 1) (listT l) = true := by
  unfold rpV
  rw [Bool.and_eq_true, List.all_eq_true]
  exact ⟨h, own_list d l⟩

/-- Whether a list of right values is right: whether it fits. -/
theorem list_right (l : List VT) (hr : ∀ x ∈ l, rightV 16 x = true) : rightV 17 (listT l) = (fw 17 (listT l) 16 1024).1 := by
  unfold rightV
  rw [rp_list (fun x hx => right_rp (hr x hx)), Bool.and_true]

theorem list_right16 {l : List VT} (hr : ∀ x ∈ l, rightV 16 x = true) (hd : ∀ x ∈ l, Dp 16 x) (hf : (fw 17 (listT l) 16 1024).1 = true) : rightV 16 (listT l) = true ∧ Dp 16 (listT l) := by
  have h1 := dp_list hf hd
  refine ⟨?_, h1⟩
  rw [← rightV_eq (listT l) h1 (show 16 ≤ 17 by omega), list_right l hr]
  exact hf

/-- A right map that is not empty has a key and a value. -/
theorem map_two {t : VT} (hr : rightV 16 t = true) (hk : t.kind = 6) (hne : t.items ≠ []) : 2 ≤ t.items.length := by
  have ho := (rp_succ (d := 15) (right_rp hr)).2
  simp only [ownV, Bool.and_eq_true] at ho
  have hi := ho.2.2.2.2
  unfold okItems at hi
  rw [hk] at hi
  have hi' : ((t.items.length : Int) % 2 == 0 && risF (cmpV 15) 2 t.items t.items.length 0) = true := hi
  rw [Bool.and_eq_true, beq_iff_eq] at hi'
  have hp : 0 < t.items.length := List.length_pos_iff.2 hne
  omega

theorem bt_extract (s : ByteArray) (k i : Nat) (h : i < k) (hk : k ≤ s.size) : bt (s.extract 0 k) i = bt s i := by
  have h1 : i < (s.extract 0 k).size := by simp; omega
  have h2 : i < s.size := by omega
  unfold bt
  rw [dif_pos h1, dif_pos h2]
  have e : (s.extract 0 k)[i]'h1 = s[i]'h2 := by
    simp [ByteArray.getElem_extract]
  rw [e]

theorem genV_pre (s : ByteArray) (n : Nat) (lo hi : Int) (h2 : 2 ≤ n) (hg : genV s 0 n lo hi ≠ 0) : genV s 0 n lo hi = n ∧ genV (s.extract 0 n) 0 n lo hi = n := by
  unfold genV at hg ⊢
  by_cases hc : 0 + n ≤ s.size ∧ lo ≤ bt s (0 + 1) ∧ bt s (0 + 1) ≤ hi ∧ (∀ m, m < n → 2 ≤ m → 128 ≤ bt s (0 + m) ∧ bt s (0 + m) ≤ 191)
  · rw [if_pos hc]
    obtain ⟨c1, c2, c3, c4⟩ := hc
    have hsz : (s.extract 0 n).size = n := by simp; omega
    refine ⟨rfl, ?_⟩
    rw [if_pos]
    refine ⟨by omega, ?_, ?_, fun m hm hm2 => ?_⟩
    · rw [bt_extract s n _ (by omega) (by omega)]; exact c2
    · rw [bt_extract s n _ (by omega) (by omega)]; exact c3
    · rw [bt_extract s n _ (by omega) (by omega)]; exact c4 m hm hm2
  · rw [if_neg hc] at hg; exact absurd rfl hg

theorem utfW_cls (s : ByteArray) (n : Nat) (lo hi : Int) (hC : ∀ s' : ByteArray, bt s' 0 = bt s 0 → utfW s' 0 = genV s' 0 n lo hi) (h2 : 2 ≤ n) (hz : utfW s 0 ≠ 0) : utfW (s.extract 0 (utfW s 0).toNat) 0 = utfW s 0 := by
  have e := hC s rfl
  rw [e] at hz ⊢
  have h := genV_pre s n lo hi h2 hz
  have hr := genV_range s 0 n lo hi
  have hb : bt (s.extract 0 n) 0 = bt s 0 := bt_extract s n 0 (by omega) (by omega)
  rw [h.1, Int.toNat_natCast, hC _ hb, h.2]

theorem utfW_pre (s : ByteArray) (hp : 0 < s.size) (hz : utfW s 0 ≠ 0) : utfW (s.extract 0 (utfW s 0).toNat) 0 = utfW s 0 := by
  by_cases c1 : bt s 0 < 128
  · have e : utfW s 0 = 1 := by unfold utfW; rw [if_pos c1]
    have one : bt (s.extract 0 1) 0 = bt s 0 := bt_extract s 1 0 (by omega) (by omega)
    rw [e]
    unfold utfW
    rw [show ((1 : Int).toNat) = 1 from rfl, one, if_pos c1]
  by_cases c2 : 194 ≤ bt s 0 ∧ bt s 0 ≤ 223
  · exact utfW_cls s 2 128 191 (fun s' h => by unfold utfW; rw [h, if_neg c1, if_pos c2]) (by omega) hz
  by_cases c3 : bt s 0 = 224
  · exact utfW_cls s 3 160 191 (fun s' h => by unfold utfW; rw [h, if_neg c1, if_neg c2, if_pos c3]) (by omega) hz
  by_cases c4 : bt s 0 = 237
  · exact utfW_cls s 3 128 159 (fun s' h => by unfold utfW; rw [h, if_neg c1, if_neg c2, if_neg c3, if_pos c4]) (by omega) hz
  by_cases c5 : 225 ≤ bt s 0 ∧ bt s 0 ≤ 239
  · exact utfW_cls s 3 128 191 (fun s' h => by unfold utfW; rw [h, if_neg c1, if_neg c2, if_neg c3, if_neg c4, if_pos c5]) (by omega) hz
  by_cases c6 : bt s 0 = 240
  · exact utfW_cls s 4 144 191 (fun s' h => by unfold utfW; rw [h, if_neg c1, if_neg c2, if_neg c3, if_neg c4, if_neg c5, if_pos c6]) (by omega) hz
  by_cases c7 : bt s 0 = 244
  · exact utfW_cls s 4 128 143 (fun s' h => by unfold utfW; rw [h, if_neg c1, if_neg c2, if_neg c3, if_neg c4, if_neg c5, if_neg c6, if_pos c7]) (by omega) hz
  by_cases c8 : 241 ≤ bt s 0 ∧ bt s 0 ≤ 243
  · exact utfW_cls s 4 128 191 (fun s' h => by unfold utfW; rw [h, if_neg c1, if_neg c2, if_neg c3, if_neg c4, if_neg c5, if_neg c6, if_neg c7, if_pos c8]) (by omega) hz
  · exfalso
    apply hz
    unfold utfW
    rw [if_neg c1, if_neg c2, if_neg c3, if_neg c4, if_neg c5, if_neg c6, if_neg c7, if_neg c8]

/-- The first letter of a right text: one letter of its bytes. -/
theorem utf_first (s : ByteArray) (h : utfB s = true) (h0 : 0 < s.size) : utfW s 0 ≠ 0 := by
  have e := letters_right s
  rw [h, decide_eq_true_eq] at e
  intro hz
  unfold lettersZ at e
  obtain ⟨n, hn⟩ : ∃ n, s.size = n + 1 := ⟨s.size - 1, by omega⟩
  rw [hn] at e
  unfold ltF at e
  rw [if_pos (by omega), if_pos hz] at e
  omega

theorem first_ok (s : ByteArray) (h : utfB s = true) (h0 : 0 < s.size) : firstS s = s.extract 0 (utfW s 0).toNat ∧ (firstS s).size ≤ s.size ∧ utfB (firstS s) = true := by
  have hz := utf_first s h h0
  have e : firstS s = s.extract 0 (utfW s 0).toNat := encode_first s h0 hz
  have hr := utfW_range s 0 h0
  have hp := utfW_pre s h0 hz
  refine ⟨e, by rw [e]; simp; omega, ?_⟩
  rw [e]
  generalize hk : (utfW s 0).toNat = k at *
  have hk1 : 1 ≤ k := by omega
  have hsz : (s.extract 0 k).size = k := by simp; omega
  rw [← letters_right, decide_eq_true_eq]
  unfold lettersZ
  rw [hsz]
  obtain ⟨n, hn⟩ : ∃ n, k = n + 1 := ⟨k - 1, by omega⟩
  have e2 : ltF (s.extract 0 k) (n + 1) 0 0 = ltF (s.extract 0 k) n (0 + (utfW (s.extract 0 k) 0).toNat) (0 + 1) := by
    conv => lhs; unfold ltF
    rw [if_pos (by omega), if_neg (by rw [hp]; exact hz)]
  rw [show ltF (s.extract 0 k) k 0 0 = ltF (s.extract 0 k) (n + 1) 0 0 by rw [← hn], e2, ltF_end _ _ _ _ (by rw [hp, hsz]; omega)]
  omega

theorem text_right {s : ByteArray} (h : utfB s = true) (hs : s.size ≤ 256) : rightV 16 ⟨3, 0, s, []⟩ = true := by
  simp [rightV, fw, fwL, rpV, ownV, okNum, okText, okItems, h, hs]

theorem first_right {t : VT} (hr : rightV 16 t = true) (hd : Dp 16 t) : rightV 16 (firstT t) = true ∧ Dp 16 (firstT t) := by
  have hown := (rp_succ (d := 15) (right_rp hr)).2
  obtain ⟨t1, t2, t3⟩ := right_text hown
  unfold firstT
  by_cases k3 : t.kind = 3
  · rw [if_pos k3]
    by_cases h0 : 0 < t.text.size
    · rw [if_pos h0]
      obtain ⟨_, f2, f3⟩ := first_ok t.text (t2 k3) h0
      exact ⟨text_right f3 (by omega), dp_leaf rfl⟩
    · rw [if_neg h0]; exact ⟨nil_right, dp_leaf rfl⟩
  · rw [if_neg k3]
    cases hi : t.items with
    | nil => exact ⟨nil_right, dp_leaf rfl⟩
    | cons x l =>
      simp only
      have hxm : x ∈ t.items := by rw [hi]; exact List.mem_cons_self
      by_cases k6 : t.kind = 6
      · rw [if_pos k6]
        have hsub : ∀ y ∈ x :: l.take 1, y ∈ t.items := fun y hy => by
          rw [hi]
          rcases List.mem_cons.1 hy with rfl | hy
          · exact List.mem_cons_self
          · exact List.mem_cons_of_mem _ (List.mem_of_mem_take hy)
        have hall : ∀ y ∈ x :: l.take 1, rightV 16 y = true ∧ Dp 16 y := fun y hy => item_right hr hd (hsub y hy)
        have hdd : Dp 16 (listT (x :: l.take 1)) := fun y hy => hd y (hsub y hy)
        refine ⟨?_, hdd⟩
        show rightV 16 (listT (x :: l.take 1)) = true
        rw [← rightV_eq (listT (x :: l.take 1)) hdd (show 16 ≤ 17 by omega), list_right _ (fun y hy => (hall y hy).1), fw_up 16 _ _ _ hdd]
        have hf := hr
        simp only [rightV, Bool.and_eq_true] at hf
        obtain ⟨_, h2⟩ := fw_items hf.1
        rw [hi] at h2
        have h3 : (fwL (fun x m => fw 15 x ((16 : Int) - 1) m) ((x :: l.take 1) ++ l.drop 1) (1024 - 1)).1 = true := by
          rw [List.cons_append, List.take_append_drop]; exact h2
        have h4 := fwL_prefix _ _ _ h3
        unfold fw
        rw [if_neg (by omega)]
        exact h4
      · rw [if_neg k6]
        exact item_right hr hd hxm

theorem wrap_right {t : VT} (hr : rightV 16 t = true) (hd : Dp 16 t) : rightV 16 (wrapT t) = true ∧ Dp 16 (wrapT t) := by
  unfold wrapT
  by_cases hf : (fw 17 (listT [t]) 16 1024).1 = true
  · rw [if_pos hf]
    exact list_right16 (fun x hx => by
      have : x = t := by simpa using hx
      subst this; exact hr) (fun x hx => by
      have : x = t := by simpa using hx
      subst this; exact hd) hf
  · rw [if_neg hf]; exact ⟨nil_right, dp_leaf rfl⟩

theorem num_right {f : Int → Int} {t : VT} (hr : rightV 16 t = true) (hd : Dp 16 t) : rightV 16 (numT f t) = true ∧ Dp 16 (numT f t) := by
  unfold numT
  split
  · exact ⟨int_right _, dp_leaf rfl⟩
  · exact ⟨hr, hd⟩

/-- The functions of one value. -/
def doneT : Nat → VT → VT
  | 0 => fun t => t
  | 1 => numT incI
  | 2 => numT negI
  | 3 => sizeT
  | 4 => firstT
  | 5 => wrapT
  | 6 => fun t => intT t.kind
  | _ => numT halfI

theorem done_right (q : Nat) {t : VT} (hr : rightV 16 t = true) (hd : Dp 16 t) : rightV 16 (doneT q t) = true ∧ Dp 16 (doneT q t) := by
  unfold doneT
  split
  · exact ⟨hr, hd⟩
  · exact num_right hr hd
  · exact num_right hr hd
  · exact ⟨int_right _, dp_leaf rfl⟩
  · exact first_right hr hd
  · exact wrap_right hr hd
  · exact ⟨int_right _, dp_leaf rfl⟩
  · exact num_right hr hd

theorem right_len {t : VT} (hr : rightV 16 t = true) : t.items.length ≤ 1024 := by
  have h := hr
  simp only [rightV, Bool.and_eq_true] at h
  exact (fw_small 16 t 16 1024 (by omega) (by omega) h.1).1

theorem right_size {t : VT} (hr : rightV 16 t = true) : t.text.size ≤ 256 := (right_text (rp_succ (d := 15) (right_rp hr)).2).1

end Go.Proofs.YtofceccicmlmoaaGreat

namespace Go.Proofs.YtofceccicmlmoaaGreat
open Go.RowKit

theorem nil_dp : Dp 16 nilT := fun x hx => by cases hx

/-- Every second one, from the first on: a map's keys. -/
def keysOf : List VT → List VT
  | k :: _ :: r => k :: keysOf r
  | _ => []

/-- How many of a rising list stand ahead of s. -/
def upN (s : VT) (ks : List VT) : Nat := (ks.takeWhile fun k => decide (cmpV 16 k s < 0)).length

/-- Is s among them? -/
def hasN (s : VT) (ks : List VT) : Bool := match ks[upN s ks]? with | some k => cmpV 16 k s == 0 | none => false

def Up16 (ks : List VT) : Prop := ks.Pairwise fun a b => cmpV 16 a b < 0

theorem cmp_lt_le {a b c : VT} (h1 : cmpV 16 a b < 0) (h2 : cmpV 16 b c ≤ 0) : cmpV 16 a c < 0 := by
  have h := goes_V 16 a b c (by omega) h2
  have := h.2
  by_cases e : cmpV 16 a c = 0
  · have := (h.2 e).1; omega
  · have := h.1; omega

theorem upN_le (s : VT) (ks : List VT) : upN s ks ≤ ks.length := (List.takeWhile_sublist _).length_le

theorem upN_cons (s k : VT) (ks : List VT) : upN s (k :: ks) = if cmpV 16 k s < 0 then upN s ks + 1 else 0 := by
  unfold upN
  by_cases h : cmpV 16 k s < 0
  · rw [List.takeWhile_cons_of_pos (by simpa using h), if_pos h]; rfl
  · rw [List.takeWhile_cons_of_neg (by simpa using h), if_neg h]; rfl

theorem upN_lo (s : VT) : ∀ (ks : List VT) (t : Nat) (h : t < ks.length), t < upN s ks → cmpV 16 ks[t] s < 0 := by
  intro ks
  induction ks with
  | nil => intro t h; simp at h
  | cons k ks ih =>
    intro t h hu
    rw [upN_cons] at hu
    by_cases hk : cmpV 16 k s < 0
    · rw [if_pos hk] at hu
      cases t with
      | zero => simpa using hk
      | succ t => simpa using ih t (by simpa using h) (by omega)
    · rw [if_neg hk] at hu; omega

theorem upN_hi (s : VT) : ∀ (ks : List VT), Up16 ks → ∀ (t : Nat) (h : t < ks.length), upN s ks ≤ t → ¬ cmpV 16 ks[t] s < 0 := by
  intro ks
  induction ks with
  | nil => intro _ t h; simp at h
  | cons k ks ih =>
    intro hp t h hu
    have hp2 := List.pairwise_cons.1 hp
    rw [upN_cons] at hu
    by_cases hk : cmpV 16 k s < 0
    · rw [if_pos hk] at hu
      cases t with
      | zero => omega
      | succ t => simpa using ih hp2.2 t (by simpa using h) (by omega)
    · cases t with
      | zero => simpa using hk
      | succ t =>
        intro hc
        have hlt : t < ks.length := by simpa using h
        have h1 := hp2.1 (ks[t]'hlt) (List.getElem_mem _)
        have hc : cmpV 16 (ks[t]'hlt) s < 0 := by simpa using hc
        exact hk (cmp_lt_le h1 (by omega))

theorem hasN_of {s : VT} {ks : List VT} (h : upN s ks < ks.length) : hasN s ks = (cmpV 16 ks[upN s ks] s == 0) := by
  unfold hasN
  rw [List.getElem?_eq_getElem h]

theorem hasN_none {s : VT} {ks : List VT} (h : ¬ upN s ks < ks.length) : hasN s ks = false := by
  unfold hasN
  rw [List.getElem?_eq_none (by omega)]

theorem hasN_lt {s : VT} {ks : List VT} (h : hasN s ks = true) : upN s ks < ks.length := by
  by_cases hl : upN s ks < ks.length
  · exact hl
  · rw [hasN_none hl] at h; cases h

/-- With s put between. -/
theorem upN_put (s : VT) : ∀ ks : List VT, upN s (ks.take (upN s ks) ++ s :: ks.drop (upN s ks)) = upN s ks := by
  intro ks
  induction ks with
  | nil => show upN s [s] = 0; rw [upN_cons, cmpV_self]; simp
  | cons k ks ih =>
    rw [upN_cons]
    by_cases hk : cmpV 16 k s < 0
    · rw [if_pos hk]
      simp only [List.take_succ_cons, List.drop_succ_cons, List.cons_append]
      rw [upN_cons, if_pos hk, ih]
    · rw [if_neg hk]
      simp only [List.take_zero, List.drop_zero, List.nil_append]
      rw [upN_cons, cmpV_self]; simp

theorem hasN_put (s : VT) (ks : List VT) : hasN s (ks.take (upN s ks) ++ s :: ks.drop (upN s ks)) = true := by
  have hl : (ks.take (upN s ks)).length = upN s ks := by rw [List.length_take]; have := upN_le s ks; omega
  unfold hasN
  rw [upN_put, List.getElem?_append_right (by omega), hl, Nat.sub_self]
  simp [cmpV_self]

theorem up_put {s : VT} {ks : List VT} (h : Up16 ks) (hn : hasN s ks = false) : Up16 (ks.take (upN s ks) ++ s :: ks.drop (upN s ks)) := by
  unfold Up16 at *
  have hdrop : ∀ k ∈ ks.drop (upN s ks), cmpV 16 s k < 0 := by
    intro k hk
    obtain ⟨j, hj, rfl⟩ := List.mem_iff_getElem.1 hk
    rw [List.length_drop] at hj
    rw [List.getElem_drop]
    have h1 := upN_hi s ks h (upN s ks + j) (by omega) (by omega)
    have ht := cmpV_turn 16 s (ks[upN s ks + j]'(by omega))
    by_cases hz : cmpV 16 (ks[upN s ks + j]'(by omega)) s = 0
    · exfalso
      cases j with
      | zero =>
        have := hasN_of (s := s) (ks := ks) (by omega)
        rw [hn] at this
        simp only [Nat.add_zero] at hz
        rw [hz] at this
        cases this
      | succ j =>
        have h2 := List.pairwise_iff_getElem.1 h (upN s ks) (upN s ks + (j + 1)) (by omega) (by omega) (by omega)
        have h3 := upN_hi s ks h (upN s ks) (by omega) (Nat.le_refl _)
        exact h3 (cmp_lt_le h2 (by omega))
    · omega
  have htake : ∀ k ∈ ks.take (upN s ks), cmpV 16 k s < 0 := by
    intro k hk
    obtain ⟨j, hj, rfl⟩ := List.mem_iff_getElem.1 hk
    rw [List.length_take] at hj
    rw [List.getElem_take]
    exact upN_lo s ks j (by omega) (by omega)
  refine List.pairwise_append.2 ⟨h.sublist (List.take_sublist _ _), List.pairwise_cons.2 ⟨hdrop, h.sublist (List.drop_sublist _ _)⟩, fun a ha b hb => ?_⟩
  rcases List.mem_cons.1 hb with rfl | hb
  · exact htake a ha
  · exact cmp_lt_le (htake a ha) (by have := hdrop b hb; omega)

theorem keysOf_get : ∀ (l : List VT) (i : Nat), 2 * i + 1 < l.length → (keysOf l)[i]? = l[2 * i]?
  | [], i, h => by simp at h
  | [_], i, h => by simp at h
  | k :: v :: r, 0, _ => rfl
  | k :: v :: r, i + 1, h => by
    have := keysOf_get r i (by simp at h; omega)
    rw [show 2 * (i + 1) = 2 * i + 1 + 1 by omega]
    simp only [keysOf, List.getElem?_cons_succ]
    exact this

theorem keysOf_len : ∀ (l : List VT), (keysOf l).length = l.length / 2
  | [] => rfl
  | [_] => by simp [keysOf]
  | k :: v :: r => by
    have := keysOf_len r
    simp only [keysOf, List.length_cons, this]; omega

theorem keysOf_set : ∀ (l : List VT) (n : Nat) (y : VT), keysOf (l.set (2 * n + 1) y) = keysOf l
  | [], n, y => rfl
  | [a], n, y => by rw [List.set_cons_succ]; rfl
  | k :: v :: r, 0, y => rfl
  | k :: v :: r, n + 1, y => by
    rw [show 2 * (n + 1) + 1 = (2 * n + 1) + 1 + 1 by omega, List.set_cons_succ, List.set_cons_succ]
    simp only [keysOf, keysOf_set r n y]

theorem keysOf_put : ∀ (l : List VT) (n : Nat) (a b : VT), 2 * n ≤ l.length → keysOf (l.take (2 * n) ++ a :: b :: l.drop (2 * n)) = (keysOf l).take n ++ a :: (keysOf l).drop n
  | [], n, a, b, h => by
    have : n = 0 := by simp at h; omega
    subst this; rfl
  | [x], n, a, b, h => by
    have : n = 0 := by simp at h; omega
    subst this; rfl
  | k :: v :: r, 0, a, b, h => rfl
  | k :: v :: r, n + 1, a, b, h => by
    have := keysOf_put r n a b (by simp at h; omega)
    rw [show 2 * (n + 1) = 2 * n + 1 + 1 by omega]
    simp only [List.take_succ_cons, List.drop_succ_cons, List.cons_append, keysOf, this]

/-- Where the part s stands among the items, and whether there is one. -/
def plcI (t s : VT) : Int := if t.kind = 0 ∨ t.kind = 6 then ((2 * upN s (keysOf t.items) + 1 : Nat) : Int) else if t.kind = 4 then s.num else if t.kind = 5 then (upN s t.items : Int) else 0
def plcB (t s : VT) : Bool := if t.kind = 0 ∨ t.kind = 6 then hasN s (keysOf t.items) else if t.kind = 4 then (s.kind == 2 && (decide (0 ≤ s.num) && decide (s.num < (t.items.length : Int)))) else if t.kind = 5 then hasN s t.items else false

/-- What stands at a path. -/
def atT : VT → List VT → Option VT
  | t, [] => some t
  | t, s :: r => if plcB t s = true then (match t.items[(plcI t s).toNat]? with | some x => atT x r | none => none) else none

/-- A map's items with a key s. -/
def keyed (s : VT) (l : List VT) : List VT := if hasN s (keysOf l) = true then l else l.take (2 * upN s (keysOf l)) ++ s :: nilT :: l.drop (2 * upN s (keysOf l))

/-- A value with a part s, and where it stands. -/
def opnT (t s : VT) : Option (VT × Nat) :=
  if t.kind = 0 ∨ t.kind = 6 then some (⟨6, t.num, t.text, keyed s t.items⟩, 2 * upN s (keysOf t.items) + 1)
  else if t.kind = 4 then (if s.kind = 2 ∧ s.num = (t.items.length : Int) then some (⟨4, t.num, t.text, t.items ++ [nilT]⟩, t.items.length) else if plcB t s = true then some (t, s.num.toNat) else none)
  else none

def VT.putI (t : VT) (i : Nat) (y : VT) : VT := ⟨t.kind, t.num, t.text, t.items.set i y⟩

/-- A value with x at a path. -/
def putT : VT → List VT → VT → Option VT
  | _, [], x => some x
  | t, s :: r, x => match opnT t s with
    | none => none
    | some (t', i) => match t'.items[i]? with
      | none => none
      | some y => match putT y r x with
        | none => none
        | some z => some (t'.putI i z)

theorem plcB_lt {t s : VT} (hev : t.kind = 0 ∨ t.kind = 6 → t.items.length % 2 = 0) (h : plcB t s = true) : 0 ≤ plcI t s ∧ (plcI t s).toNat < t.items.length := by
  unfold plcB at h
  unfold plcI
  by_cases h0 : t.kind = 0 ∨ t.kind = 6
  · rw [if_pos h0] at h ⊢
    have := hasN_lt h
    rw [keysOf_len] at this
    have := hev h0
    omega
  · rw [if_neg h0] at h ⊢
    by_cases h4 : t.kind = 4
    · rw [if_pos h4] at h ⊢
      simp only [Bool.and_eq_true, decide_eq_true_eq] at h
      omega
    · rw [if_neg h4] at h ⊢
      by_cases h5 : t.kind = 5
      · rw [if_pos h5] at h ⊢
        have := hasN_lt h
        omega
      · rw [if_neg h5] at h; cases h

/-- Behind opening the part is there, and stays there whatever is laid into it. -/
theorem opn_there {t s t' : VT} {i : Nat} (h : opnT t s = some (t', i)) (hev : t.kind = 0 ∨ t.kind = 6 → t.items.length % 2 = 0) :
    i < t'.items.length ∧ (t'.kind = 0 ∨ t'.kind = 6 → t'.items.length % 2 = 0) ∧ (∀ y, plcB (t'.putI i y) s = true ∧ plcI (t'.putI i y) s = (i : Int)) ∧ (∀ y, opnT (t'.putI i y) s = some (t'.putI i y, i)) ∧ (t'.items[i]? = some nilT ∨ ∃ x ∈ t.items, t'.items[i]? = some x) := by
  unfold opnT at h
  by_cases h0 : t.kind = 0 ∨ t.kind = 6
  · rw [if_pos h0] at h
    injection h with h
    injection h with h1 h2
    subst h1
    subst h2
    have hev := hev h0
    have hle := upN_le s (keysOf t.items)
    rw [keysOf_len] at hle
    have hkey : upN s (keysOf (keyed s t.items)) = upN s (keysOf t.items) ∧ hasN s (keysOf (keyed s t.items)) = true ∧ 2 * upN s (keysOf t.items) + 1 < (keyed s t.items).length ∧ (keyed s t.items).length % 2 = 0 ∧ ((keyed s t.items)[2 * upN s (keysOf t.items) + 1]? = some nilT ∨ ∃ x ∈ t.items, (keyed s t.items)[2 * upN s (keysOf t.items) + 1]? = some x) := by
      unfold keyed
      by_cases hh : hasN s (keysOf t.items) = true
      · rw [if_pos hh]
        have hlt := hasN_lt hh
        rw [keysOf_len] at hlt
        have hl2 : 2 * upN s (keysOf t.items) + 1 < t.items.length := by omega
        exact ⟨rfl, hh, hl2, hev, .inr ⟨_, List.getElem_mem hl2, List.getElem?_eq_getElem hl2⟩⟩
      · rw [if_neg hh, keysOf_put _ _ _ _ (by omega)]
        have hl3 : (t.items.take (2 * upN s (keysOf t.items))).length = 2 * upN s (keysOf t.items) := by rw [List.length_take]; omega
        refine ⟨upN_put _ _, hasN_put _ _, ?_, ?_, .inl ?_⟩
        · simp; omega
        · simp; omega
        · rw [List.getElem?_append_right (by omega), hl3, show 2 * upN s (keysOf t.items) + 1 - 2 * upN s (keysOf t.items) = 0 + 1 by omega, List.getElem?_cons_succ]; rfl
    obtain ⟨k1, k2, k3, k4, k5⟩ := hkey
    refine ⟨k3, fun _ => k4, fun y => ?_, fun y => ?_, k5⟩
    · unfold plcB plcI VT.putI
      simp only [or_true, if_true]
      rw [keysOf_set, k1, k2]
      exact ⟨rfl, rfl⟩
    · unfold opnT VT.putI
      simp only [or_true, if_true]
      rw [keysOf_set, k1]
      unfold keyed
      simp only [keysOf_set]
      rw [if_pos (by exact k2)]
  · rw [if_neg h0] at h
    by_cases h4 : t.kind = 4
    · rw [if_pos h4] at h
      by_cases he : s.kind = 2 ∧ s.num = (t.items.length : Int)
      · rw [if_pos he] at h
        injection h with h
        injection h with h1 h2
        subst h1
        subst h2
        have hB : ∀ y, plcB ((⟨4, t.num, t.text, t.items ++ [nilT]⟩ : VT).putI t.items.length y) s = true := by
          intro y
          unfold plcB VT.putI
          simp [he.1, he.2]
          omega
        refine ⟨by simp, fun k => by rcases k with k | k <;> simp at k, fun y => ⟨hB y, ?_⟩, fun y => ?_, .inl (by simp)⟩
        · unfold plcI VT.putI
          simp [he.2]
        · have hB := hB y
          unfold opnT
          rw [if_neg (by simp [VT.putI]), if_pos (by simp [VT.putI]), if_neg (by simp [VT.putI, he.2]; omega), if_pos hB, he.2]
          rfl
      · rw [if_neg he] at h
        by_cases hb : plcB t s = true
        · rw [if_pos hb] at h
          injection h with h
          injection h with h1 h2
          subst h1
          subst h2
          have hp : plcI t s = s.num := by unfold plcI; rw [if_neg h0, if_pos h4]
          have hl := plcB_lt hev hb
          rw [hp] at hl
          have hB : ∀ y, plcB (t.putI s.num.toNat y) s = true := by
            intro y
            unfold plcB VT.putI at *
            rw [if_neg h0, if_pos h4] at hb ⊢
            simp only [List.length_set]
            exact hb
          refine ⟨hl.2, fun k => absurd k h0, fun y => ⟨hB y, ?_⟩, fun y => ?_, .inr ⟨_, List.getElem_mem hl.2, List.getElem?_eq_getElem hl.2⟩⟩
          · unfold plcI VT.putI
            rw [if_neg h0, if_pos h4]
            show s.num = _
            omega
          · have hB := hB y
            unfold opnT
            rw [if_neg (by exact h0), if_pos (by exact h4), if_neg (by simp only [VT.putI, List.length_set]; exact he), if_pos hB]
        · rw [if_neg hb] at h; cases h
    · rw [if_neg h4] at h; cases h

end Go.Proofs.YtofceccicmlmoaaGreat

namespace Go.Proofs.YtofceccicmlmoaaGreat
open Go.RowKit

theorem ris_adj (f : VT → VT → Int) (s : Nat) (l : List VT) : ∀ (b j : Nat), risF f s l b j = true → ∀ (m : Nat), m < b → (h : j + m * s + s < l.length) → f (l[j + m * s]'(by omega)) (l[j + m * s + s]) < 0 := by
  intro b
  induction b with
  | zero => intro j _ m hm; omega
  | succ b ih =>
    intro j h m hm hl
    have h0 : j + s < l.length := by
      have := Nat.le_add_left 0 (m * s); omega
    rw [risF_step f s l b j (by omega) h0] at h
    by_cases h1 : 0 ≤ f (l[j]'(by omega)) l[j + s]
    · rw [if_pos h1] at h; cases h
    · rw [if_neg h1] at h
      cases m with
      | zero =>
        have e1 : l[j + 0 * s]'(by omega) = l[j]'(by omega) := by congr 1; omega
        have e2 : l[j + 0 * s + s]'(by omega) = l[j + s]'(by omega) := by congr 1; omega
        rw [e1, e2]; omega
      | succ m =>
        have e0 : j + (m + 1) * s = j + s + m * s := by rw [Nat.succ_mul]; omega
        have := ih (j + s) h m (by omega) (by omega)
        have e1 : l[j + (m + 1) * s]'(by omega) = l[j + s + m * s]'(by omega) := by congr 1
        have e2 : l[j + (m + 1) * s + s]'(by omega) = l[j + s + m * s + s]'(by omega) := by congr 1; omega
        rw [e1, e2]; exact this

theorem up_of_adj : ∀ (ks : List VT), (∀ i (h : i + 1 < ks.length), cmpV 16 (ks[i]'(by omega)) ks[i + 1] < 0) → Up16 ks := by
  intro ks
  induction ks with
  | nil => intro _; exact List.Pairwise.nil
  | cons k ks ih =>
    intro h
    have hp := ih (fun i hi => by have := h (i + 1) (by simpa using hi); simpa using this)
    refine List.pairwise_cons.2 ⟨fun x hx => ?_, hp⟩
    cases ks with
    | nil => cases hx
    | cons k2 ks =>
      have h1 : cmpV 16 k k2 < 0 := by have := h 0 (by simp); simpa using this
      rcases List.mem_cons.1 hx with rfl | hx
      · exact h1
      · exact cmp_lt_le h1 (by have := (List.pairwise_cons.1 hp).1 x hx; omega)

theorem even_iff (n : Nat) : ((n : Int) % 2 == 0) = true ↔ n % 2 = 0 := by
  rw [beq_iff_eq]; omega

theorem items_six {d : Nat} {t : VT} (h : t.kind = 6) : okItems d t = ((t.items.length : Int) % 2 == 0 && risF (cmpV d) 2 t.items t.items.length 0) := by
  unfold okItems; rw [h]; rfl
theorem items_five {d : Nat} {t : VT} (h : t.kind = 5) : okItems d t = risF (cmpV d) 1 t.items t.items.length 0 := by
  unfold okItems; rw [h]; rfl

theorem own_items {t : VT} (hr : rightV 16 t = true) (hd : Dp 16 t) : okItems 16 t = true := by
  have ho := (rp_succ (d := 15) (right_rp hr)).2
  rw [okItems_congr (d := 16) (e := 15) (fun x hx y hy => cmpV_up 15 x y (hd x hx) (hd y hy))]
  simp only [ownV, Bool.and_eq_true] at ho
  exact ho.2.2.2.2

/-- A right map's keys rise, and it has as many values. -/
theorem map_keys {t : VT} (hr : rightV 16 t = true) (hd : Dp 16 t) (hk : t.kind = 6) : t.items.length % 2 = 0 ∧ Up16 (keysOf t.items) := by
  have ho := own_items hr hd
  rw [items_six hk, Bool.and_eq_true] at ho
  have he : t.items.length % 2 = 0 := (even_iff _).1 ho.1
  refine ⟨he, up_of_adj _ (fun i hi => ?_)⟩
  rw [keysOf_len] at hi
  have h := ris_adj (cmpV 16) 2 t.items t.items.length 0 ho.2 i (by omega) (by omega)
  have e1 : (keysOf t.items)[i]? = t.items[2 * i]? := keysOf_get _ i (by omega)
  have e2 : (keysOf t.items)[i + 1]? = t.items[2 * (i + 1)]? := keysOf_get _ (i + 1) (by omega)
  rw [List.getElem?_eq_getElem (by rw [keysOf_len]; omega), List.getElem?_eq_getElem (by omega)] at e1 e2
  injection e1 with e1
  injection e2 with e2
  rw [e1, e2]
  have a1 : t.items[0 + i * 2]'(by omega) = t.items[2 * i]'(by omega) := by congr 1; omega
  have a2 : t.items[0 + i * 2 + 2]'(by omega) = t.items[2 * (i + 1)]'(by omega) := by congr 1; omega
  rw [← a1, ← a2]; exact h

theorem set_items {t : VT} (hr : rightV 16 t = true) (hd : Dp 16 t) (hk : t.kind = 5) : Up16 t.items := by
  have ho := own_items hr hd
  rw [items_five hk] at ho
  refine up_of_adj _ (fun i hi => ?_)
  have h := ris_adj (cmpV 16) 1 t.items t.items.length 0 ho i (by omega) (by omega)
  have a1 : t.items[0 + i * 1]'(by omega) = t.items[i]'(by omega) := by congr 1; omega
  have a2 : t.items[0 + i * 1 + 1]'(by omega) = t.items[i + 1]'(by omega) := by congr 1; omega
  rw [← a1, ← a2]; exact h

theorem leaf_items {t : VT} (hr : rightV 16 t = true) (h4 : t.kind ≠ 4) (h5 : t.kind ≠ 5) (h6 : t.kind ≠ 6) : t.items = [] := by
  have ho := (rp_succ (d := 15) (right_rp hr)).2
  exact List.length_eq_zero_iff.1 ((own_facts ho).2.2.2.2 h4 h5 h6)

theorem right_even (t : VT) (hd : Dp 16 t) (hr : rightV 16 t = true) (hk : t.kind = 0 ∨ t.kind = 6) : t.items.length % 2 = 0 := by
  rcases hk with hk | hk
  · rw [leaf_items hr (by omega) (by omega) (by omega)]; rfl
  · exact (map_keys hr hd hk).1

theorem right_up {t : VT} (hr : rightV 16 t = true) (hd : Dp 16 t) (hk : t.kind = 0 ∨ t.kind = 6) : Up16 (keysOf t.items) := by
  rcases hk with hk | hk
  · rw [leaf_items hr (by omega) (by omega) (by omega)]; exact List.Pairwise.nil
  · exact (map_keys hr hd hk).2

theorem ris_keys (l : List VT) (he : l.length % 2 = 0) (h : Up16 (keysOf l)) : ∀ b k, risF (cmpV 16) 2 l b (2 * k) = true := by
  intro b
  induction b with
  | zero => intro k; rfl
  | succ b ih =>
    intro k
    by_cases hj : 2 * k + 2 < l.length
    · rw [risF_step (cmpV 16) 2 l b (2 * k) (by omega) hj]
      have e1 : (keysOf l)[k]? = l[2 * k]? := keysOf_get _ k (by omega)
      have e2 : (keysOf l)[k + 1]? = l[2 * (k + 1)]? := keysOf_get _ (k + 1) (by omega)
      have hl := keysOf_len l
      rw [List.getElem?_eq_getElem (by omega), List.getElem?_eq_getElem (by omega)] at e1 e2
      injection e1 with e1
      injection e2 with e2
      have := (List.pairwise_iff_getElem.1 h) k (k + 1) (by omega) (by omega) (by omega)
      rw [e1, e2] at this
      have a2 : l[2 * k + 2]'hj = l[2 * (k + 1)]'(by omega) := by congr 1
      rw [a2, if_neg (by omega)]
      exact ih (k + 1)
    · exact risF_end _ _ _ _ _ hj

theorem own_mk {d : Nat} {k n : Int} {tx : ByteArray} {l : List VT} (hk : k = 4 ∨ k = 6) (hn : n = 0) (ht : tx.toList = []) (hi : okItems d ⟨k, n, tx, l⟩ = true) : ownV d ⟨k, n, tx, l⟩ = true := by
  rcases hk with rfl | rfl <;> subst hn <;> simp [ownV, okNum, okText, ht, hi]

theorem fw_any {d e : Nat} (t : VT) (ht : Dp d t) (h : d ≤ e) (lv n : Int) : fw e t lv n = fw d t lv n := by
  induction e with
  | zero => have : d = 0 := by omega
            subst this; rfl
  | succ e ih =>
    by_cases hd : d = e + 1
    · subst hd; rfl
    · rw [fw_up e t lv n (ht.mono (by omega)), ih (by omega)]

theorem keyed_mem {s : VT} {l : List VT} {u : VT} (h : u ∈ keyed s l) : u ∈ l ∨ u = s ∨ u = nilT := by
  unfold keyed at h
  split at h
  · exact .inl h
  · rcases List.mem_append.1 h with h | h
    · exact .inl (List.mem_of_mem_take h)
    · rcases List.mem_cons.1 h with h | h
      · exact .inr (.inl h)
      · rcases List.mem_cons.1 h with h | h
        · exact .inr (.inr h)
        · exact .inl (List.mem_of_mem_drop h)

theorem opn_mem {t s t' : VT} {i : Nat} (h : opnT t s = some (t', i)) : ∀ u ∈ t'.items, u ∈ t.items ∨ u = s ∨ u = nilT := by
  intro u hu
  unfold opnT at h
  split at h
  · injection h with h; injection h with h1 h2; subst h1; exact keyed_mem hu
  · split at h
    · split at h
      · injection h with h; injection h with h1 h2; subst h1
        rcases List.mem_append.1 hu with hu | hu
        · exact .inl hu
        · exact .inr (.inr (by simpa using hu))
      · split at h
        · injection h with h; injection h with h1 h2; subst h1; exact .inl hu
        · cases h
    · cases h

/-- What is put is right in all its parts. -/
theorem put_right : ∀ (p : List VT) (t x z : VT), (∀ s ∈ p, rightV 16 s = true) → rightV 16 t = true → Dp 16 t → rightV 16 x = true → Dp 16 x → putT t p x = some z → Dp 16 z → rpV 16 z = true := by
  intro p
  induction p with
  | nil => intro t x z _ _ _ hx _ h _; injection h with h; subst h; exact right_rp hx
  | cons s r ih =>
    intro t x z hp hr hd hx hdx h hz
    unfold putT at h
    cases ho : opnT t s with
    | none => rw [ho] at h; cases h
    | some q =>
      obtain ⟨t', i⟩ := q
      rw [ho] at h
      obtain ⟨k1, k2, k3, k4, k5⟩ := opn_there ho (right_even t hd hr)
      simp only at h
      rw [List.getElem?_eq_getElem k1] at h k5
      simp only at h
      cases hq : putT t'.items[i] r x with
      | none => rw [hq] at h; cases h
      | some y =>
        rw [hq] at h
        injection h with h
        subst h
        have hy : rightV 16 t'.items[i] = true ∧ Dp 16 t'.items[i] := by
          rcases k5 with k5 | ⟨u, hu, k5⟩
          · injection k5 with k5; rw [k5]; exact ⟨nil_right, nil_dp⟩
          · injection k5 with k5; rw [k5]; exact item_right hr hd hu
        have hz : ∀ u ∈ t'.items.set i y, Dp 15 u := hz
        have hyz : Dp 15 y := hz y (by
          have := List.getElem_mem (l := t'.items.set i y) (n := i) (by simpa using k1)
          simpa using this)
        have hry := ih _ x y (fun s hs => hp s (List.mem_cons_of_mem _ hs)) hy.1 hy.2 hx hdx hq hyz.up
        have hs := hp s List.mem_cons_self
        have hrt := rp_succ (d := 15) (right_rp hr)
        have hall : (t'.items.set i y).all (rpV 15) = true := by
          rw [List.all_eq_true]
          intro u hu
          have hdu := hz u hu
          rcases List.mem_or_eq_of_mem_set hu with h | h
          · rcases opn_mem ho u h with h | h | h
            · exact hrt.1 u h
            · subst h; rw [← rpV_up 15 u hdu]; exact right_rp hs
            · subst h; rw [← rpV_up 15 nilT hdu]; exact right_rp nil_right
          · subst h; rw [← rpV_up 15 u hdu]; exact hry
        have hf := own_facts hrt.2
        have hown : ownV 15 (t'.putI i y) = true := by
          unfold opnT at ho
          by_cases h0 : t.kind = 0 ∨ t.kind = 6
          · rw [if_pos h0] at ho
            injection ho with ho
            injection ho with e1 e2
            subst e1
            subst e2
            refine own_mk (.inr rfl) (hf.2.2.1 (by omega) (by omega)) (hf.2.2.2.1 (by omega)) ?_
            rw [okItems_congr (d := 15) (e := 16) (fun x hx y hy => (cmpV_up 15 x y (hz x hx) (hz y hy)).symm)]
            have hev := k2 (.inr rfl)
            have hup : Up16 (keysOf (keyed s t.items)) := by
              unfold keyed
              by_cases hh : hasN s (keysOf t.items) = true
              · rw [if_pos hh]; exact right_up hr hd h0
              · rw [if_neg hh, keysOf_put _ _ _ _ (by have := upN_le s (keysOf t.items); rw [keysOf_len] at this; omega)]
                exact up_put (right_up hr hd h0) (by simpa using hh)
            have := ris_keys ((keyed s t.items).set (2 * upN s (keysOf t.items) + 1) y) (by simpa using hev) (by rw [keysOf_set]; exact hup) ((keyed s t.items).set (2 * upN s (keysOf t.items) + 1) y).length 0
            rw [items_six rfl, Bool.and_eq_true]
            refine ⟨(even_iff _).2 ?_, this⟩
            show ((keyed s t.items).set (2 * upN s (keysOf t.items) + 1) y).length % 2 = 0
            rw [List.length_set]
            exact hev
          · rw [if_neg h0] at ho
            by_cases h4 : t.kind = 4
            · have hk4 : t'.kind = 4 ∧ t'.num = t.num ∧ t'.text = t.text := by
                rw [if_pos h4] at ho
                split at ho
                · injection ho with ho; injection ho with e1 e2; subst e1; exact ⟨rfl, rfl, rfl⟩
                · split at ho
                  · injection ho with ho; injection ho with e1 e2; subst e1; exact ⟨h4, rfl, rfl⟩
                  · cases ho
              refine own_mk (.inl hk4.1) (by rw [hk4.2.1]; exact hf.2.2.1 (by omega) (by omega)) (by rw [hk4.2.2]; exact hf.2.2.2.1 (by omega)) ?_
              unfold okItems
              simp [hk4.1]
            · rw [if_neg h4] at ho; cases ho
        show ((t'.items.set i y).all (rpV 15) && ownV 15 (t'.putI i y)) = true
        rw [hall, hown]; rfl

theorem put_fits {p : List VT} {t x z : VT} (hp : ∀ s ∈ p, rightV 16 s = true) (hr : rightV 16 t = true) (hd : Dp 16 t) (hx : rightV 16 x = true) (hdx : Dp 16 x) (h : putT t p x = some z) {D : Nat} (hD : 16 ≤ D) (hdz : Dp D z) (hf : (fw D z 16 1024).1 = true) : rightV 16 z = true ∧ Dp 16 z := by
  have h16 : Dp 16 z := fw_deep D z 16 1024 (by omega) hf hdz
  refine ⟨?_, h16⟩
  unfold rightV
  rw [← fw_any z h16 hD, hf, put_right p t x z hp hr hd hx hdx h h16]; rfl

theorem at_right : ∀ (p : List VT) (t x : VT), rightV 16 t = true → Dp 16 t → atT t p = some x → rightV 16 x = true ∧ Dp 16 x := by
  intro p
  induction p with
  | nil => intro t x hr hd h; injection h with h; subst h; exact ⟨hr, hd⟩
  | cons s r ih =>
    intro t x hr hd h
    unfold atT at h
    split at h
    · cases hx : t.items[(plcI t s).toNat]? with
      | none => rw [hx] at h; cases h
      | some u =>
        rw [hx] at h
        have := item_right hr hd (List.mem_of_getElem? hx)
        exact ih u x this.1 this.2 h
    · cases h

end Go.Proofs.YtofceccicmlmoaaGreat

namespace Go.Proofs.YtofceccicmlmoaaGreat
open Go.RowKit

theorem own_mk5 {d : Nat} {k n : Int} {tx : ByteArray} {l : List VT} (hk : k = 4 ∨ k = 5 ∨ k = 6) (hn : n = 0) (ht : tx.toList = []) (hi : okItems d ⟨k, n, tx, l⟩ = true) : ownV d ⟨k, n, tx, l⟩ = true := by
  rcases hk with rfl | rfl | rfl <;> subst hn <;> simp [ownV, okNum, okText, ht, hi]

end Go.Proofs.YtofceccicmlmoaaGreat

namespace Go.Proofs.YtofceccicmlmoaaGreat
open Go.RowKit Go.Shelf

theorem rsame26_any (t s : VT) (x y : Value) (w : World) (hx : Lies 16 w t.items x) (hy : Lies 16 w s.items y) : Calls Tryz.prog 88 #[.agg #[.int .i64 t.kind, .int .i64 t.num, .string t.text, x], .agg #[.int .i64 s.kind, .int .i64 s.num, .string s.text, y]] w fun e w' => e = .returned (.bool (cmpV 16 t s == 0)) ∧ Below w.heap.size w w' := by
  obtain ⟨ax, cx, rfl, _⟩ := Lies.slice hx
  obtain ⟨ay, cy, rfl, _⟩ := Lies.slice hy
  have HX : Hid (Lies 16 w t.items (.slice ax t.items.length cx)) := hx
  have HY : Hid (Lies 16 w s.items (.slice ay s.items.length cy)) := hy
  clear hx hy
  go_enter Tryz.func88, Tryz.ntmps88
  go_wp2_with fail
  refine (ref_any 16 t s _ _ _ (Lies.keeps (Grew.two _ _ _).below _ _ _ HX.out) (Lies.keeps (Grew.two _ _ _).below _ _ _ HY.out)).mono ?_
  rintro e w1 ⟨rfl, hb⟩
  have hb1 : Below w.heap.size w w1 := (Grew.two w _ _).below.trans (hb.mono (by simp; omega))
  clear hb
  go_wp2_with fail
  go_ret
  exact ⟨rfl, hb1⟩

end Go.Proofs.YtofceccicmlmoaaGreat

namespace Go.Proofs.YtofceccicmlmoaaGreat
open Go.RowKit

/-- Neither a map nor a list, or an empty one. -/
def leafT (t : VT) : Bool := (!(t.kind == 6) && !(t.kind == 4)) || t.items.isEmpty

/-- Where the part of number j stands. -/
def posN (k : Int) (j : Nat) : Nat := if k = 4 then j else 2 * j + 1
/-- How many parts there are. -/
def cntN (t : VT) : Nat := if t.kind = 4 then t.items.length else t.items.length / 2

/-- With f of the first n parts. -/
def wlkG (f : VT → VT) (k : Int) (l : List VT) : Nat → List VT
  | 0 => l
  | n + 1 => match l[posN k n]? with
    | some y => (wlkG f k l n).set (posN k n) (f y)
    | none => wlkG f k l n

def walkT (g : VT → VT) : Nat → VT → VT
  | 0, t => g t
  | d + 1, t => if leafT t = true then g t else ⟨t.kind, t.num, t.text, wlkG (walkT g d) t.kind t.items (cntN t)⟩

theorem wlkG_len (f : VT → VT) (k : Int) (l : List VT) : ∀ n, (wlkG f k l n).length = l.length := by
  intro n
  induction n with
  | zero => rfl
  | succ n ih =>
    unfold wlkG
    cases l[posN k n]? with
    | none => exact ih
    | some y => simp only [List.length_set]; exact ih

theorem posN_lt (k : Int) {i j : Nat} (h : i < j) : posN k i < posN k j := by
  unfold posN; split <;> omega

/-- What is not yet reached is as it was. -/
theorem wlkG_ge (f : VT → VT) (k : Int) (l : List VT) : ∀ n i, (∀ j, j < n → posN k j ≠ i) → (wlkG f k l n)[i]? = l[i]? := by
  intro n
  induction n with
  | zero => intro i _; rfl
  | succ n ih =>
    intro i hi
    have h1 := ih i (fun j hj => hi j (by omega))
    have h2 := hi n (by omega)
    unfold wlkG
    cases l[posN k n]? with
    | none => exact h1
    | some y => simp only; rw [List.getElem?_set_ne h2]; exact h1

theorem wlkG_at (f : VT → VT) (k : Int) (l : List VT) : ∀ n j, j < n → (wlkG f k l n)[posN k j]? = (l[posN k j]?).map f := by
  intro n
  induction n with
  | zero => intro j hj; omega
  | succ n ih =>
    intro j hj
    by_cases hjn : j = n
    · subst hjn
      have hg := wlkG_ge f k l j (posN k j) (fun i hi => by have := posN_lt k hi; omega)
      unfold wlkG
      cases hy : l[posN k j]? with
      | none => simp only; rw [hg, hy]; rfl
      | some y =>
        simp only
        have hl : posN k j < (wlkG f k l j).length := by
          rw [wlkG_len]
          rcases Nat.lt_or_ge (posN k j) l.length with h | h
          · exact h
          · rw [List.getElem?_eq_none h] at hy; cases hy
        rw [List.getElem?_set_self hl]; rfl
    · have h1 := ih j (by omega)
      have hne := posN_lt k (i := j) (j := n) (by omega)
      unfold wlkG
      cases l[posN k n]? with
      | none => exact h1
      | some y => simp only; rw [List.getElem?_set_ne (by omega)]; exact h1

theorem wlkG_mem (f : VT → VT) (k : Int) (l : List VT) : ∀ n u, u ∈ wlkG f k l n → u ∈ l ∨ ∃ y ∈ l, u = f y := by
  intro n
  induction n with
  | zero => intro u hu; exact .inl hu
  | succ n ih =>
    intro u hu
    unfold wlkG at hu
    cases hy : l[posN k n]? with
    | none => rw [hy] at hu; exact ih u hu
    | some y =>
      rw [hy] at hu
      rcases List.mem_or_eq_of_mem_set hu with h | h
      · exact ih u h
      · exact .inr ⟨y, List.mem_of_getElem? hy, h⟩

theorem wlkG_keys (f : VT → VT) (l : List VT) : ∀ n, keysOf (wlkG f 6 l n) = keysOf l := by
  intro n
  induction n with
  | zero => rfl
  | succ n ih =>
    unfold wlkG
    cases l[posN 6 n]? with
    | none => exact ih
    | some y =>
      simp only
      have : posN 6 n = 2 * n + 1 := by unfold posN; rw [if_neg (by omega)]
      rw [this, keysOf_set]; exact ih

theorem leaf_or {t : VT} (h : leafT t = false) : (t.kind = 4 ∨ t.kind = 6) ∧ t.items ≠ [] := by
  unfold leafT at h
  simp only [Bool.or_eq_false_iff, Bool.and_eq_false_iff, Bool.not_eq_false', beq_iff_eq, List.isEmpty_eq_false_iff] at h
  exact ⟨by rcases h.1 with h | h; exact .inr h; exact .inl h, h.2⟩

/-- How deep it may be. -/
theorem walk_dp (g : VT → VT) (hg : ∀ x, rightV 16 x = true → Dp 16 x → Dp 16 (g x)) : ∀ (d : Nat) (t : VT), rightV 16 t = true → Dp d t → d ≤ 16 → Dp (16 + d) (walkT g d t) := by
  intro d
  induction d with
  | zero => intro t hr hd _; exact hg t hr (hd.mono (by omega))
  | succ d ih =>
    intro t hr hd hd16
    unfold walkT
    by_cases hl : leafT t = true
    · rw [if_pos hl]; exact (hg t hr (hd.mono hd16)).mono (by omega)
    · rw [if_neg hl]
      intro u hu
      rcases wlkG_mem _ _ _ _ u hu with h | ⟨y, hy, rfl⟩
      · exact (hd u h).mono (e := 16 + d) (by omega)
      · exact ih y (item_right hr (hd.mono hd16) hy).1 (hd y hy) (by omega)

/-- What is made of a right value is right in all its parts. -/
theorem walk_right (g : VT → VT) (hg : ∀ x, rightV 16 x = true → Dp 16 x → rightV 16 (g x) = true ∧ Dp 16 (g x)) : ∀ (d : Nat) (t : VT), rightV 16 t = true → Dp d t → d ≤ 16 → Dp 16 (walkT g d t) → rpV 16 (walkT g d t) = true := by
  intro d
  induction d with
  | zero => intro t hr hd _ _; exact right_rp (hg t hr (hd.mono (by omega))).1
  | succ d ih =>
    intro t hr hd hd16 hz
    have hd16' : Dp 16 t := hd.mono hd16
    unfold walkT at hz ⊢
    by_cases hl : leafT t = true
    · rw [if_pos hl]; exact right_rp (hg t hr hd16').1
    · rw [if_neg hl] at hz ⊢
      have hlf : leafT t = false := by simpa using hl
      obtain ⟨hk, _⟩ := leaf_or hlf
      have hz : ∀ u ∈ wlkG (walkT g d) t.kind t.items (cntN t), Dp 15 u := hz
      have hrt := rp_succ (d := 15) (right_rp hr)
      have hf := own_facts hrt.2
      have hall : (wlkG (walkT g d) t.kind t.items (cntN t)).all (rpV 15) = true := by
        rw [List.all_eq_true]
        intro u hu
        have hdu := hz u hu
        rcases wlkG_mem _ _ _ _ u hu with h | ⟨y, hy, rfl⟩
        · exact hrt.1 u h
        · rw [← rpV_up 15 _ hdu]
          exact ih y (item_right hr hd16' hy).1 (hd y hy) (by omega) hdu.up
      have hown : ownV 15 ⟨t.kind, t.num, t.text, wlkG (walkT g d) t.kind t.items (cntN t)⟩ = true := by
        rcases hk with h4 | h6
        · refine own_mk5 (.inl h4) (hf.2.2.1 (by omega) (by omega)) (hf.2.2.2.1 (by omega)) ?_
          unfold okItems
          simp [h4]
        · obtain ⟨hev, hup⟩ := map_keys hr hd16' h6
          refine own_mk5 (.inr (.inr h6)) (hf.2.2.1 (by omega) (by omega)) (hf.2.2.2.1 (by omega)) ?_
          rw [okItems_congr (d := 15) (e := 16) (fun x hx y hy => (cmpV_up 15 x y (hz x hx) (hz y hy)).symm)]
          rw [items_six (t := ⟨t.kind, t.num, t.text, wlkG (walkT g d) t.kind t.items (cntN t)⟩) h6, Bool.and_eq_true]
          have hlen : (wlkG (walkT g d) t.kind t.items (cntN t)).length % 2 = 0 := by rw [wlkG_len]; exact hev
          refine ⟨(even_iff _).2 hlen, ris_keys _ hlen ?_ _ 0⟩
          rw [h6, wlkG_keys]; exact hup
      show ((wlkG (walkT g d) t.kind t.items (cntN t)).all (rpV 15) && ownV 15 _) = true
      rw [hall, hown]; rfl

theorem walk_fits (g : VT → VT) (hg : ∀ x, rightV 16 x = true → Dp 16 x → rightV 16 (g x) = true ∧ Dp 16 (g x)) {t : VT} (hr : rightV 16 t = true) (hd : Dp 16 t) (hf : (fw 32 (walkT g 16 t) 16 1024).1 = true) : rightV 16 (walkT g 16 t) = true ∧ Dp 16 (walkT g 16 t) := by
  have h32 := walk_dp g (fun x h1 h2 => (hg x h1 h2).2) 16 t hr hd (by omega)
  have h16 : Dp 16 (walkT g 16 t) := fw_deep 32 _ 16 1024 (by omega) hf h32
  refine ⟨?_, h16⟩
  unfold rightV
  rw [← fw_any _ h16 (show 16 ≤ 32 by omega), hf, walk_right g hg 16 t hr hd (by omega) h16]; rfl

/-- The document's way: item by item. -/
def wlkI (f : VT → VT) (k : Int) (i : Nat) (x : VT) : VT := if k = 6 ∧ i % 2 = 0 then x else f x

theorem wlkG_idx (f : VT → VT) {t : VT} (hk : t.kind = 4 ∨ t.kind = 6) (hev : t.kind = 6 → t.items.length % 2 = 0) : wlkG f t.kind t.items (cntN t) = t.items.mapIdx (wlkI f t.kind) := by
  apply List.ext_getElem?
  intro i
  rw [List.getElem?_mapIdx]
  by_cases hi : i < t.items.length
  · rcases hk with h4 | h6
    · have e1 : posN t.kind i = i := by unfold posN; rw [if_pos h4]
      have e2 : i < cntN t := by unfold cntN; rw [if_pos h4]; exact hi
      have := wlkG_at f t.kind t.items (cntN t) i e2
      rw [e1] at this
      rw [this]
      have e3 : wlkI f t.kind i = f := by funext x; unfold wlkI; rw [if_neg (by omega)]
      rw [e3]
    · have hev := hev h6
      have ec : cntN t = t.items.length / 2 := by unfold cntN; rw [if_neg (by omega)]
      by_cases hp : i % 2 = 0
      · rw [wlkG_ge f t.kind t.items (cntN t) i (fun j _ e => by unfold posN at e; rw [if_neg (by omega)] at e; omega)]
        have e3 : wlkI f t.kind i = id := by funext x; unfold wlkI; rw [if_pos ⟨h6, hp⟩]; rfl
        rw [e3, Option.map_id]; rfl
      · have e1 : posN t.kind (i / 2) = i := by unfold posN; rw [if_neg (by omega)]; omega
        have := wlkG_at f t.kind t.items (cntN t) (i / 2) (by rw [ec]; omega)
        rw [e1] at this
        rw [this]
        have e3 : wlkI f t.kind i = f := by funext x; unfold wlkI; rw [if_neg (fun h => hp h.2)]
        rw [e3]
  · rw [List.getElem?_eq_none (show (wlkG f t.kind t.items (cntN t)).length ≤ i by rw [wlkG_len]; omega), List.getElem?_eq_none (show t.items.length ≤ i by omega)]; rfl

end Go.Proofs.YtofceccicmlmoaaGreat

