/-
  What the functions of one value make of a right value is right. Plain mathematics.
-/
import Derived.Test.YtjlhgekckbdpjaaWrap
namespace Go.Proofs.Ytjlhgekckbdpjaa
open Go.RowKit Go.PlainAid

theorem fwL_mono {f g : VT → Int → Bool × Int} (hf : ∀ x m, 0 ≤ m → 0 ≤ (f x m).2) (h : ∀ x m m', 0 ≤ m → m ≤ m' → (f x m).1 = true → (g x m').1 = true ∧ (g x m').2 = (f x m).2 + (m' - m)) :
    ∀ (l : List VT) (n n' : Int), 0 ≤ n → n ≤ n' → (fwL f l n).1 = true → (fwL g l n').1 = true ∧ (fwL g l n').2 = (fwL f l n).2 + (n' - n) := by
  intro l
  induction l with
  | nil => intro n n' _ _ _; exact ⟨rfl, by show n' = n + (n' - n); omega⟩
  | cons x l ih =>
    intro n n' h0 hn hh
    unfold fwL at hh ⊢
    by_cases hx : (f x n).1 = true
    · rw [if_pos hx] at hh ⊢
      obtain ⟨g1, g2⟩ := h x n n' h0 hn hx
      rw [if_pos g1]
      have h1 := hf x n h0
      obtain ⟨i1, i2⟩ := ih (f x n).2 (g x n').2 h1 (by omega) hh
      exact ⟨i1, by omega⟩
    · rw [if_neg hx] at hh; cases hh

theorem fw_mono : ∀ (d : Nat) (t : VT) (lv lv' n n' : Int), 0 ≤ n → lv ≤ lv' → n ≤ n' → (fw d t lv n).1 = true → (fw d t lv' n').1 = true ∧ (fw d t lv' n').2 = (fw d t lv n).2 + (n' - n) := by
  intro d
  induction d with
  | zero =>
    intro t lv lv' n n' h0 hl hn hh
    unfold fw at hh ⊢
    by_cases hx : lv < 0 ∨ n = 0
    · rw [if_pos hx] at hh; cases hh
    · rw [if_neg hx, if_neg (by omega)]; exact ⟨rfl, by show n' - 1 = n - 1 + (n' - n); omega⟩
  | succ d ih =>
    intro t lv lv' n n' h0 hl hn hh
    unfold fw at hh ⊢
    by_cases hx : lv < 0 ∨ n = 0
    · rw [if_pos hx] at hh; cases hh
    · rw [if_neg hx] at hh ⊢
      rw [if_neg (by omega)]
      have := fwL_mono (f := fun x m => fw d x (lv - 1) m) (g := fun x m => fw d x (lv' - 1) m) (fun x m hm => (fw_range d x _ m hm).1) (fun x m m' hm hmm hb => ih x (lv - 1) (lv' - 1) m m' hm (by omega) hmm hb) t.items (n - 1) (n' - 1) (by omega) (by omega) hh
      exact ⟨this.1, by omega⟩

theorem fwL_prefix {f : VT → Int → Bool × Int} : ∀ (l m : List VT) (n : Int), (fwL f (l ++ m) n).1 = true → (fwL f l n).1 = true := by
  intro l
  induction l with
  | nil => intro m n _; rfl
  | cons x l ih =>
    intro m n h
    rw [List.cons_append] at h
    unfold fwL at h ⊢
    by_cases hx : (f x n).1 = true
    · rw [if_pos hx] at h ⊢; exact ih m _ h
    · rw [if_neg hx] at h; cases h

theorem fw_items {d : Nat} {t : VT} {lv n : Int} (h : (fw (d + 1) t lv n).1 = true) : ¬ (lv < 0 ∨ n = 0) ∧ (fwL (fun x m => fw d x (lv - 1) m) t.items (n - 1)).1 = true := by
  unfold fw at h
  by_cases hx : lv < 0 ∨ n = 0
  · rw [if_pos hx] at h; cases h
  · rw [if_neg hx] at h; exact ⟨hx, h⟩

theorem rp_succ {d : Nat} {t : VT} (h : rpV (d + 1) t = true) : (∀ x ∈ t.items, rpV d x = true) ∧ ownV d t = true := by
  unfold rpV at h
  rw [Bool.and_eq_true, List.all_eq_true] at h
  exact h

/-- An item of a right value is right. -/
theorem item_right {t x : VT} (hr : rightV 16 t = true) (hd : Dp 16 t) (hx : x ∈ t.items) : rightV 16 x = true ∧ Dp 16 x := by
  have hdx : Dp 15 x := hd x hx
  refine ⟨?_, hdx.up⟩
  rw [rightV_eq x hdx (by omega)]
  simp only [rightV, Bool.and_eq_true] at hr ⊢
  have hrp := rp_succ (d := 15) hr.2
  refine ⟨?_, hrp.1 x hx⟩
  obtain ⟨_, h2⟩ := fw_items hr.1
  obtain ⟨_, _, i3⟩ := fwL_len (f := fun x m => fw 15 x ((16 : Int) - 1) m) (fun x m hm => (fw_range 15 x _ m hm).1) (fun x m hm hb => fw_less 15 x _ m hm hb) t.items (1024 - 1) (by omega) h2
  obtain ⟨m, m1, m2, m3⟩ := i3 x hx
  exact (fw_mono 15 x (16 - 1) 16 m 1024 m1 (by omega) (by omega) m3).1

theorem int_right (n : Int) : rightV 16 (intT n) = true := by
  simp [rightV, fw, fwL, rpV, ownV, okNum, okText, okItems, intT]

theorem nil_right : rightV 16 nilT = true := by
  simp [rightV, fw, fwL, rpV, ownV, okNum, okText, okItems, nilT]

theorem dp_leaf {t : VT} (h : t.items = []) : Dp 16 t := Dp.mono (d := 0) h (by omega)

theorem own_list (d : Nat) (l : List VT) : ownV d (listT l) = true := by
  simp [ownV, okNum, okText, okItems, listT]

theorem rp_list {d : Nat} {l : List VT} (h : ∀ x ∈ l, rpV d x = true) : rpV (d + 1) (listT l) = true := by
  unfold rpV
  rw [Bool.and_eq_true, List.all_eq_true]
  exact ⟨h, own_list d l⟩

/-- Whether a list of right values is right: whether it fits. -/
theorem list_right (l : List VT) (hr : ∀ x ∈ l, rightV 16 x = true) : rightV 17 (listT l) = (fw 17 (listT l) 16 1024).1 := by
  unfold rightV
  rw [rp_list (fun x hx => right_rp (hr x hx)), Bool.and_true]

theorem list_right16 {l : List VT} (hr : ∀ x ∈ l, rightV 16 x = true) (hd : ∀ x ∈ l, Dp 16 x) (hf : (fw 17 (listT l) 16 1024).1 = true) : rightV 16 (listT l) = true ∧ Dp 16 (listT l) := by
  have h1 := dp_list hf hd
  refine ⟨?_, h1⟩
  rw [← rightV_eq (listT l) h1 (show 16 ≤ 17 by omega), list_right l hr]
  exact hf

/-- A right map that is not empty has a key and a value. -/
theorem map_two {t : VT} (hr : rightV 16 t = true) (hk : t.kind = 6) (hne : t.items ≠ []) : 2 ≤ t.items.length := by
  have ho := (rp_succ (d := 15) (right_rp hr)).2
  simp only [ownV, Bool.and_eq_true] at ho
  have hi := ho.2.2.2.2
  unfold okItems at hi
  rw [hk] at hi
  have hi' : ((t.items.length : Int) % 2 == 0 && risF (cmpV 15) 2 t.items t.items.length 0) = true := hi
  rw [Bool.and_eq_true, beq_iff_eq] at hi'
  have hp : 0 < t.items.length := List.length_pos_iff.2 hne
  omega

theorem bt_extract (s : ByteArray) (k i : Nat) (h : i < k) (hk : k ≤ s.size) : bt (s.extract 0 k) i = bt s i := by
  have h1 : i < (s.extract 0 k).size := by simp; omega
  have h2 : i < s.size := by omega
  unfold bt
  rw [dif_pos h1, dif_pos h2]
  have e : (s.extract 0 k)[i]'h1 = s[i]'h2 := by
    simp [ByteArray.getElem_extract]
  rw [e]

theorem genV_pre (s : ByteArray) (n : Nat) (lo hi : Int) (h2 : 2 ≤ n) (hg : genV s 0 n lo hi ≠ 0) : genV s 0 n lo hi = n ∧ genV (s.extract 0 n) 0 n lo hi = n := by
  unfold genV at hg ⊢
  by_cases hc : 0 + n ≤ s.size ∧ lo ≤ bt s (0 + 1) ∧ bt s (0 + 1) ≤ hi ∧ (∀ m, m < n → 2 ≤ m → 128 ≤ bt s (0 + m) ∧ bt s (0 + m) ≤ 191)
  · rw [if_pos hc]
    obtain ⟨c1, c2, c3, c4⟩ := hc
    have hsz : (s.extract 0 n).size = n := by simp; omega
    refine ⟨rfl, ?_⟩
    rw [if_pos]
    refine ⟨by omega, ?_, ?_, fun m hm hm2 => ?_⟩
    · rw [bt_extract s n _ (by omega) (by omega)]; exact c2
    · rw [bt_extract s n _ (by omega) (by omega)]; exact c3
    · rw [bt_extract s n _ (by omega) (by omega)]; exact c4 m hm hm2
  · rw [if_neg hc] at hg; exact absurd rfl hg

theorem utfW_cls (s : ByteArray) (n : Nat) (lo hi : Int) (hC : ∀ s' : ByteArray, bt s' 0 = bt s 0 → utfW s' 0 = genV s' 0 n lo hi) (h2 : 2 ≤ n) (hz : utfW s 0 ≠ 0) : utfW (s.extract 0 (utfW s 0).toNat) 0 = utfW s 0 := by
  have e := hC s rfl
  rw [e] at hz ⊢
  have h := genV_pre s n lo hi h2 hz
  have hr := genV_range s 0 n lo hi
  have hb : bt (s.extract 0 n) 0 = bt s 0 := bt_extract s n 0 (by omega) (by omega)
  rw [h.1, Int.toNat_natCast, hC _ hb, h.2]

theorem utfW_pre (s : ByteArray) (hp : 0 < s.size) (hz : utfW s 0 ≠ 0) : utfW (s.extract 0 (utfW s 0).toNat) 0 = utfW s 0 := by
  by_cases c1 : bt s 0 < 128
  · have e : utfW s 0 = 1 := by unfold utfW; rw [if_pos c1]
    have one : bt (s.extract 0 1) 0 = bt s 0 := bt_extract s 1 0 (by omega) (by omega)
    rw [e]
    unfold utfW
    rw [show ((1 : Int).toNat) = 1 from rfl, one, if_pos c1]
  by_cases c2 : 194 ≤ bt s 0 ∧ bt s 0 ≤ 223
  · exact utfW_cls s 2 128 191 (fun s' h => by unfold utfW; rw [h, if_neg c1, if_pos c2]) (by omega) hz
  by_cases c3 : bt s 0 = 224
  · exact utfW_cls s 3 160 191 (fun s' h => by unfold utfW; rw [h, if_neg c1, if_neg c2, if_pos c3]) (by omega) hz
  by_cases c4 : bt s 0 = 237
  · exact utfW_cls s 3 128 159 (fun s' h => by unfold utfW; rw [h, if_neg c1, if_neg c2, if_neg c3, if_pos c4]) (by omega) hz
  by_cases c5 : 225 ≤ bt s 0 ∧ bt s 0 ≤ 239
  · exact utfW_cls s 3 128 191 (fun s' h => by unfold utfW; rw [h, if_neg c1, if_neg c2, if_neg c3, if_neg c4, if_pos c5]) (by omega) hz
  by_cases c6 : bt s 0 = 240
  · exact utfW_cls s 4 144 191 (fun s' h => by unfold utfW; rw [h, if_neg c1, if_neg c2, if_neg c3, if_neg c4, if_neg c5, if_pos c6]) (by omega) hz
  by_cases c7 : bt s 0 = 244
  · exact utfW_cls s 4 128 143 (fun s' h => by unfold utfW; rw [h, if_neg c1, if_neg c2, if_neg c3, if_neg c4, if_neg c5, if_neg c6, if_pos c7]) (by omega) hz
  by_cases c8 : 241 ≤ bt s 0 ∧ bt s 0 ≤ 243
  · exact utfW_cls s 4 128 191 (fun s' h => by unfold utfW; rw [h, if_neg c1, if_neg c2, if_neg c3, if_neg c4, if_neg c5, if_neg c6, if_neg c7, if_pos c8]) (by omega) hz
  · exfalso
    apply hz
    unfold utfW
    rw [if_neg c1, if_neg c2, if_neg c3, if_neg c4, if_neg c5, if_neg c6, if_neg c7, if_neg c8]

/-- The first letter of a right text: one letter of its bytes. -/
theorem utf_first (s : ByteArray) (h : utfB s = true) (h0 : 0 < s.size) : utfW s 0 ≠ 0 := by
  have e := letters_right s
  rw [h, decide_eq_true_eq] at e
  intro hz
  unfold lettersZ at e
  obtain ⟨n, hn⟩ : ∃ n, s.size = n + 1 := ⟨s.size - 1, by omega⟩
  rw [hn] at e
  unfold ltF at e
  rw [if_pos (by omega), if_pos hz] at e
  omega

theorem first_ok (s : ByteArray) (h : utfB s = true) (h0 : 0 < s.size) : firstS s = s.extract 0 (utfW s 0).toNat ∧ (firstS s).size ≤ s.size ∧ utfB (firstS s) = true := by
  have hz := utf_first s h h0
  have e : firstS s = s.extract 0 (utfW s 0).toNat := encode_first s h0 hz
  have hr := utfW_range s 0 h0
  have hp := utfW_pre s h0 hz
  refine ⟨e, by rw [e]; simp; omega, ?_⟩
  rw [e]
  generalize hk : (utfW s 0).toNat = k at *
  have hk1 : 1 ≤ k := by omega
  have hsz : (s.extract 0 k).size = k := by simp; omega
  rw [← letters_right, decide_eq_true_eq]
  unfold lettersZ
  rw [hsz]
  obtain ⟨n, hn⟩ : ∃ n, k = n + 1 := ⟨k - 1, by omega⟩
  have e2 : ltF (s.extract 0 k) (n + 1) 0 0 = ltF (s.extract 0 k) n (0 + (utfW (s.extract 0 k) 0).toNat) (0 + 1) := by
    conv => lhs; unfold ltF
    rw [if_pos (by omega), if_neg (by rw [hp]; exact hz)]
  rw [show ltF (s.extract 0 k) k 0 0 = ltF (s.extract 0 k) (n + 1) 0 0 by rw [← hn], e2, ltF_end _ _ _ _ (by rw [hp, hsz]; omega)]
  omega

theorem text_right {s : ByteArray} (h : utfB s = true) (hs : s.size ≤ 256) : rightV 16 ⟨3, 0, s, []⟩ = true := by
  simp [rightV, fw, fwL, rpV, ownV, okNum, okText, okItems, h, hs]

theorem first_right {t : VT} (hr : rightV 16 t = true) (hd : Dp 16 t) : rightV 16 (firstT t) = true ∧ Dp 16 (firstT t) := by
  have hown := (rp_succ (d := 15) (right_rp hr)).2
  obtain ⟨t1, t2, t3⟩ := right_text hown
  unfold firstT
  by_cases k3 : t.kind = 3
  · rw [if_pos k3]
    by_cases h0 : 0 < t.text.size
    · rw [if_pos h0]
      obtain ⟨_, f2, f3⟩ := first_ok t.text (t2 k3) h0
      exact ⟨text_right f3 (by omega), dp_leaf rfl⟩
    · rw [if_neg h0]; exact ⟨nil_right, dp_leaf rfl⟩
  · rw [if_neg k3]
    cases hi : t.items with
    | nil => exact ⟨nil_right, dp_leaf rfl⟩
    | cons x l =>
      simp only
      have hxm : x ∈ t.items := by rw [hi]; exact List.mem_cons_self
      by_cases k6 : t.kind = 6
      · rw [if_pos k6]
        have hsub : ∀ y ∈ x :: l.take 1, y ∈ t.items := fun y hy => by
          rw [hi]
          rcases List.mem_cons.1 hy with rfl | hy
          · exact List.mem_cons_self
          · exact List.mem_cons_of_mem _ (List.mem_of_mem_take hy)
        have hall : ∀ y ∈ x :: l.take 1, rightV 16 y = true ∧ Dp 16 y := fun y hy => item_right hr hd (hsub y hy)
        have hdd : Dp 16 (listT (x :: l.take 1)) := fun y hy => hd y (hsub y hy)
        refine ⟨?_, hdd⟩
        show rightV 16 (listT (x :: l.take 1)) = true
        rw [← rightV_eq (listT (x :: l.take 1)) hdd (show 16 ≤ 17 by omega), list_right _ (fun y hy => (hall y hy).1), fw_up 16 _ _ _ hdd]
        have hf := hr
        simp only [rightV, Bool.and_eq_true] at hf
        obtain ⟨_, h2⟩ := fw_items hf.1
        rw [hi] at h2
        have h3 : (fwL (fun x m => fw 15 x ((16 : Int) - 1) m) ((x :: l.take 1) ++ l.drop 1) (1024 - 1)).1 = true := by
          rw [List.cons_append, List.take_append_drop]; exact h2
        have h4 := fwL_prefix _ _ _ h3
        unfold fw
        rw [if_neg (by omega)]
        exact h4
      · rw [if_neg k6]
        exact item_right hr hd hxm

theorem wrap_right {t : VT} (hr : rightV 16 t = true) (hd : Dp 16 t) : rightV 16 (wrapT t) = true ∧ Dp 16 (wrapT t) := by
  unfold wrapT
  by_cases hf : (fw 17 (listT [t]) 16 1024).1 = true
  · rw [if_pos hf]
    exact list_right16 (fun x hx => by
      have : x = t := by simpa using hx
      subst this; exact hr) (fun x hx => by
      have : x = t := by simpa using hx
      subst this; exact hd) hf
  · rw [if_neg hf]; exact ⟨nil_right, dp_leaf rfl⟩

theorem num_right {f : Int → Int} {t : VT} (hr : rightV 16 t = true) (hd : Dp 16 t) : rightV 16 (numT f t) = true ∧ Dp 16 (numT f t) := by
  unfold numT
  split
  · exact ⟨int_right _, dp_leaf rfl⟩
  · exact ⟨hr, hd⟩

/-- The functions of one value. -/
def doneT : Nat → VT → VT
  | 0 => fun t => t
  | 1 => numT incI
  | 2 => numT negI
  | 3 => sizeT
  | 4 => firstT
  | 5 => wrapT
  | 6 => fun t => intT t.kind
  | _ => numT halfI

theorem done_right (q : Nat) {t : VT} (hr : rightV 16 t = true) (hd : Dp 16 t) : rightV 16 (doneT q t) = true ∧ Dp 16 (doneT q t) := by
  unfold doneT
  split
  · exact ⟨hr, hd⟩
  · exact num_right hr hd
  · exact num_right hr hd
  · exact ⟨int_right _, dp_leaf rfl⟩
  · exact first_right hr hd
  · exact wrap_right hr hd
  · exact ⟨int_right _, dp_leaf rfl⟩
  · exact num_right hr hd

theorem right_len {t : VT} (hr : rightV 16 t = true) : t.items.length ≤ 1024 := by
  have h := hr
  simp only [rightV, Bool.and_eq_true] at h
  exact (fw_small 16 t 16 1024 (by omega) (by omega) h.1).1

theorem right_size {t : VT} (hr : rightV 16 t = true) : t.text.size ≤ 256 := (right_text (rp_succ (d := 15) (right_rp hr)).2).1

end Go.Proofs.Ytjlhgekckbdpjaa
