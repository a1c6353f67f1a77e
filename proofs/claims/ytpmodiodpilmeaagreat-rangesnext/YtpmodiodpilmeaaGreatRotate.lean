/-
  The contract of slices.rotateCmpFunc at pairs: two rows that lie one behind the other change places.
-/
import Derived.Test.YtpmodiodpilmeaaGreatSwapRange
namespace Go.Proofs.YtpmodiodpilmeaaGreat
open Go.RowKit

theorem swp2_app (A B C : List PP) (x y : PP) : swp2 (A ++ (x :: (B ++ (y :: C)))) A.length (A.length + 1 + B.length) = A ++ (y :: (B ++ (x :: C))) := by
  unfold swp2
  have h1 : A.length < (A ++ (x :: (B ++ (y :: C)))).length := by simp
  have h2 : A.length + 1 + B.length < (A ++ (x :: (B ++ (y :: C)))).length := by simp; omega
  rw [dif_pos ⟨h1, h2⟩]
  unfold swapL
  have e1 : (A ++ (x :: (B ++ (y :: C))))[A.length] = x := by simp
  have e2 : (A ++ (x :: (B ++ (y :: C))))[A.length + 1 + B.length] = y := by
    rw [List.getElem_append_right (by omega)]
    have : A.length + 1 + B.length - A.length = B.length + 1 := by omega
    simp only [this, List.getElem_cons_succ]
    simp
  rw [e1, e2]
  have s1 : (A ++ (x :: (B ++ (y :: C)))).set A.length y = A ++ (y :: (B ++ (y :: C))) := by
    rw [List.set_append_right _ _ (by omega)]
    simp
  rw [s1, List.set_append_right _ _ (by omega)]
  have : A.length + 1 + B.length - A.length = B.length + 1 := by omega
  rw [this, List.set_cons_succ, List.set_append_right _ _ (by omega)]
  simp

theorem swpN_app : ∀ (n : Nat) (A U B V C : List PP), U.length = n → V.length = n → swpN (A ++ (U ++ (B ++ (V ++ C)))) A.length (A.length + n + B.length) n = A ++ (V ++ (B ++ (U ++ C))) := by
  intro n
  induction n with
  | zero =>
    intro A U B V C hu hv
    have e1 : U = [] := List.eq_nil_of_length_eq_zero hu
    have e2 : V = [] := List.eq_nil_of_length_eq_zero hv
    subst e1 e2
    rfl
  | succ n ih =>
    intro A U B V C hu hv
    obtain ⟨U', u, rfl⟩ : ∃ U' u, U = U' ++ [u] := by
      rcases List.eq_nil_or_concat U with h | ⟨l, b, h⟩
      · subst h; simp at hu
      · exact ⟨l, b, by rw [h, List.concat_eq_append]⟩
    obtain ⟨V', v, rfl⟩ : ∃ V' v, V = V' ++ [v] := by
      rcases List.eq_nil_or_concat V with h | ⟨l, b, h⟩
      · subst h; simp at hv
      · exact ⟨l, b, by rw [h, List.concat_eq_append]⟩
    have hu' : U'.length = n := by simp at hu; omega
    have hv' : V'.length = n := by simp at hv; omega
    have hin : A ++ ((U' ++ [u]) ++ (B ++ ((V' ++ [v]) ++ C))) = A ++ (U' ++ ((u :: B) ++ (V' ++ (v :: C)))) := by simp
    show swp2 (swpN _ _ _ n) (A.length + n) (A.length + (n + 1) + B.length + n) = _
    have hb : A.length + (n + 1) + B.length = A.length + n + (u :: B).length := by simp; omega
    rw [hin, hb, ih A U' (u :: B) V' (v :: C) hu' hv']
    have e3 : A ++ (V' ++ ((u :: B) ++ (U' ++ (v :: C)))) = (A ++ V') ++ (u :: ((B ++ U') ++ (v :: C))) := by simp
    have e4 : A.length + n = (A ++ V').length := by simp [hv']
    have e5 : A.length + n + (u :: B).length + n = (A ++ V').length + 1 + (B ++ U').length := by simp [hv', hu']; omega
    rw [e3, e5, e4, swp2_app]
    simp

theorem swp2_mem {ps : List PP} {i j : Nat} {x : PP} (h : x ∈ swp2 ps i j) : x ∈ ps := by
  unfold swp2 at h
  split at h
  · unfold swapL at h
    rcases List.mem_or_eq_of_mem_set h with h | h
    · rcases List.mem_or_eq_of_mem_set h with h | h
      · exact h
      · rw [h]; exact List.getElem_mem _
    · rw [h]; exact List.getElem_mem _
  · exact h

theorem swpN_mem {ps : List PP} {a b : Nat} {x : PP} : ∀ n, x ∈ swpN ps a b n → x ∈ ps := by
  intro n
  induction n with
  | zero => intro h; exact h
  | succ n ih => intro h; exact ih (swp2_mem h)

/-- The same in parts. -/
theorem swapRange_parts (w0 : World) (g cap : Nat) (fv : Value) (A U B V C : List PP) (n a b L : Nat) (w : World) (hg : w0.heap.size ≤ g) (hU : U.length = n) (hV : V.length = n) (ha : a = A.length) (hb : b = A.length + n + B.length) (hL : L = (A ++ (U ++ (B ++ (V ++ C)))).length) (hR : RowQ w0 g (A ++ (U ++ (B ++ (V ++ C)))) w) (hS : Slq (A ++ (U ++ (B ++ (V ++ C))))) (hlen : L ≤ 65536) :
    Calls Tryz.prog 174 #[.slice (some ⟨g, 0, none⟩) L cap, .int .i64 a, .int .i64 b, .int .i64 n, fv] w fun e w' => e = .returned (.tuple #[]) ∧ RowQ w0 g (A ++ (V ++ (B ++ (U ++ C)))) w' := by
  subst ha hb hL
  have h := swapRange_any w0 g cap A.length (A.length + n + B.length) n fv (A ++ (U ++ (B ++ (V ++ C)))) w hg hR (fun i p hp => hS p (swpN_mem i hp)) (by omega) (by simp; omega) hlen
  rw [swpN_app n A U B V C hU hV] at h
  exact h

/-- What stands before a round: what is left to change places, and what will be. -/
structure Rot (w0 : World) (g L m : Nat) (T : List PP) (wr : World) (i j : Nat) (A X Y C : List PP) : Prop where
  ei : X.length = i
  ej : Y.length = j
  pi : 0 < i
  pj : 0 < j
  em : A.length + i = m
  el : (A ++ (X ++ (Y ++ C))).length = L
  row : RowQ w0 g (A ++ (X ++ (Y ++ C))) wr
  tgt : A ++ (Y ++ (X ++ C)) = T
  sl : Slq (A ++ (X ++ (Y ++ C)))

theorem Slq.perm {l m : List PP} (h : Slq l) (hm : ∀ x ∈ m, x ∈ l) : Slq m := fun p hp => h p (hm p hp)

theorem Rot.more {w0 : World} {g L m : Nat} {T : List PP} {wr : World} {i j : Nat} {A X1 X2 Y C : List PP} (h : Rot w0 g L m T wr i j A (X1 ++ X2) Y C) (hj : j < i) (h1 : X1.length = j) {W : World} (hR : RowQ w0 g (A ++ (Y ++ (X2 ++ (X1 ++ C)))) W) : Rot w0 g L m T W (i - j) j (A ++ Y) X2 X1 C := by
  have hei := h.ei
  have hej := h.ej
  have hem := h.em
  have hel := h.el
  simp at hei hel
  refine ⟨by omega, h1, by omega, h.pj, by simp; omega, by simp; omega, by simpa using hR, by rw [← h.tgt]; simp, h.sl.perm (fun x hx => ?_)⟩
  simp at hx ⊢
  rcases hx with hx | hx | hx | hx | hx <;> simp [hx]

theorem Rot.less {w0 : World} {g L m : Nat} {T : List PP} {wr : World} {i j : Nat} {A X Y1 Y2 C : List PP} (h : Rot w0 g L m T wr i j A X (Y1 ++ Y2) C) (hj : i < j) (h2 : Y2.length = i) {W : World} (hR : RowQ w0 g (A ++ (Y2 ++ (Y1 ++ (X ++ C)))) W) : Rot w0 g L m T W i (j - i) A Y2 Y1 (X ++ C) := by
  have hei := h.ei
  have hej := h.ej
  have hem := h.em
  have hel := h.el
  simp at hej hel
  refine ⟨h2, by omega, h.pi, by omega, hem, by simp; omega, by simpa using hR, by rw [← h.tgt]; simp, h.sl.perm (fun x hx => ?_)⟩
  simp at hx ⊢
  rcases hx with hx | hx | hx | hx | hx <;> simp [hx]

set_option maxRecDepth 100000 in
set_option maxHeartbeats 8000000 in
theorem rotate_any (w0 : World) (g cap a m b L : Nat) (fv : Value) (A X Y C : List PP) (w : World) (hg : w0.heap.size ≤ g) (ha : a = A.length) (hm : m = A.length + X.length) (hb : b = A.length + X.length + Y.length) (hX : 0 < X.length) (hY : 0 < Y.length) (hL : L = (A ++ (X ++ (Y ++ C))).length) (hR : RowQ w0 g (A ++ (X ++ (Y ++ C))) w) (hS : Slq (A ++ (X ++ (Y ++ C)))) (hlen : L ≤ 65536) :
    Calls Tryz.prog 168 #[.slice (some ⟨g, 0, none⟩) L cap, .int .i64 a, .int .i64 m, .int .i64 b, fv] w fun e w' => e = .returned (.tuple #[]) ∧ RowQ w0 g (A ++ (Y ++ (X ++ C))) w' := by
  have HR0 : Hid (Rot w0 g L m (A ++ (Y ++ (X ++ C))) w X.length Y.length A X Y C) := ⟨rfl, rfl, hX, hY, hm.symm, hL.symm, hR, rfl, hS⟩
  have hml : b ≤ L := by rw [hb, hL]; simp; omega
  have hw1 : IntKind.i64.wrap ((m : Int) - (a : Int)) = (X.length : Int) := by rw [IntKind.wrap_i64]; omega
  have hw2 : IntKind.i64.wrap ((b : Int) - (m : Int)) = (Y.length : Int) := by rw [IntKind.wrap_i64]; omega
  have hmL : m ≤ 65536 := by omega
  generalize X.length = i0 at *
  generalize Y.length = j0 at *
  generalize A ++ (Y ++ (X ++ C)) = T at *
  clear hR hS hL ha hm hb hml
  go_enter Tryz.func168, Tryz.ntmps168
  go_wp2_with fail
  go_loopg [10, 11] (i0 + j0) (fun z vi vj wr => ∃ (i j : Nat) (A X Y C : List PP), vi = .int .i64 (i : Int) ∧ vj = .int .i64 (j : Int) ∧ z = i + j ∧ Hid (Rot w0 g L m T wr i j A X Y C))
  case atStart => exact ⟨i0, j0, A, X, Y, C, rfl, rfl, rfl, HR0⟩
  case round =>
    obtain ⟨i, j, A, X, Y, C, rfl, rfl, hk, HM⟩ := hrel
    have Hk : Hid _ := hk
    clear hk HR0 hw1 hw2
    have pi := HM.out.pi
    have pj := HM.out.pj
    have em := HM.out.em
    have ei := HM.out.ei
    have ej := HM.out.ej
    have hLj : A.length + i + j ≤ L := by have := HM.out.el; simp at this; omega
    by_cases hij : i = j
    · subst hij
      have hwa : IntKind.i64.wrap ((m : Int) - (i : Int)) = (A.length : Int) := by rw [IntKind.wrap_i64]; omega
      have Hc : Hid _ := fun W (h : RowQ w0 g (A ++ (X ++ ([] ++ (Y ++ C)))) W) => swapRange_parts w0 g cap fv A X [] Y C i A.length m L W hg ei ej rfl (by simp; omega) (by have := HM.out.el; simp at this ⊢; omega) h (by simpa using HM.out.sl) hlen
      have HT : Hid (A ++ (Y ++ ([] ++ (X ++ C))) = T) := by show _ = _; rw [← HM.out.tgt]; simp
      have Hrow : Hid (RowQ w0 g (A ++ (X ++ ([] ++ (Y ++ C)))) wr) := by show RowQ _ _ _ _; simpa using HM.out.row
      clear HM ei ej em
      go_wp2_with fail
      refine (Hc.out _ Hrow.out).mono ?_
      rintro e w1 ⟨rfl, hr1⟩
      go_wp2_with fail
      exact bodyPost_end (v := .tuple #[]) (by simp [results, Tryz.results168, go_sem]) rfl ⟨rfl, by rw [← HT.out]; exact hr1⟩
    · have hij' : ¬ (i : Int) = (j : Int) := by omega
      by_cases hlt : j < i
      · have hlti : (j : Int) < (i : Int) := by omega
        obtain ⟨X1, X2, rfl, h1⟩ : ∃ X1 X2, X = X1 ++ X2 ∧ X1.length = j := ⟨X.take j, X.drop j, (List.take_append_drop j X).symm, by rw [List.length_take]; omega⟩
        have hwa : IntKind.i64.wrap ((m : Int) - (i : Int)) = (A.length : Int) := by rw [IntKind.wrap_i64]; omega
        have hwi : IntKind.i64.wrap ((i : Int) - (j : Int)) = ((i - j : Nat) : Int) := by rw [IntKind.wrap_i64]; omega
        have Hc : Hid _ := fun W (h : RowQ w0 g (A ++ (X1 ++ (X2 ++ (Y ++ C)))) W) => swapRange_parts w0 g cap fv A X1 X2 Y C j A.length m L W hg h1 ej rfl (by simp at ei; omega) (by have := HM.out.el; simp at this ⊢; omega) h (by simpa using HM.out.sl) hlen
        have HN : Hid (∀ W, RowQ w0 g (A ++ (Y ++ (X2 ++ (X1 ++ C)))) W → Rot w0 g L m T W (i - j) j (A ++ Y) X2 X1 C) := fun W h => HM.out.more hlt h1 h
        have Hrow : Hid (RowQ w0 g (A ++ (X1 ++ (X2 ++ (Y ++ C)))) wr) := by show RowQ _ _ _ _; simpa using HM.out.row
        clear HM ei ej em h1
        go_wp2_with fail
        refine (Hc.out _ Hrow.out).mono ?_
        rintro e w1 ⟨rfl, hr1⟩
        have HN1 : Hid _ := HN.out _ hr1
        clear hr1 HN Hc Hrow
        go_wp2_with fail
        go_roundg (i - j + j)
        case measure => have := Hk.out; omega
        case rel => exact ⟨i - j, j, _, _, _, _, rfl, rfl, rfl, HN1⟩
      · have hlti : ¬ (j : Int) < (i : Int) := by omega
        have hji : i < j := by omega
        obtain ⟨Y1, Y2, rfl, h2⟩ : ∃ Y1 Y2, Y = Y1 ++ Y2 ∧ Y2.length = i := ⟨Y.take (j - i), Y.drop (j - i), (List.take_append_drop _ Y).symm, by rw [List.length_drop]; omega⟩
        have hwa : IntKind.i64.wrap ((m : Int) - (i : Int)) = (A.length : Int) := by rw [IntKind.wrap_i64]; omega
        have hws : IntKind.i64.wrap ((m : Int) + (j : Int)) = ((m + j : Nat) : Int) := by rw [IntKind.wrap_i64]; omega
        have hwt : IntKind.i64.wrap (((m + j : Nat) : Int) - (i : Int)) = ((m + j - i : Nat) : Int) := by rw [IntKind.wrap_i64]; omega
        have hwi : IntKind.i64.wrap ((j : Int) - (i : Int)) = ((j - i : Nat) : Int) := by rw [IntKind.wrap_i64]; omega
        have Hc : Hid _ := fun W (h : RowQ w0 g (A ++ (X ++ (Y1 ++ (Y2 ++ C)))) W) => swapRange_parts w0 g cap fv A X Y1 Y2 C i A.length (m + j - i) L W hg ei h2 rfl (by simp at ej; omega) (by have := HM.out.el; simp at this ⊢; omega) h (by simpa using HM.out.sl) hlen
        have HN : Hid (∀ W, RowQ w0 g (A ++ (Y2 ++ (Y1 ++ (X ++ C)))) W → Rot w0 g L m T W i (j - i) A Y2 Y1 (X ++ C)) := fun W h => HM.out.less hji h2 h
        have Hrow : Hid (RowQ w0 g (A ++ (X ++ (Y1 ++ (Y2 ++ C)))) wr) := by show RowQ _ _ _ _; simpa using HM.out.row
        clear HM ei ej em h2
        generalize m + j = s at *
        go_wp2_with fail
        refine (Hc.out _ Hrow.out).mono ?_
        rintro e w1 ⟨rfl, hr1⟩
        have HN1 : Hid _ := HN.out _ hr1
        clear hr1 HN Hc Hrow
        go_wp2_with fail
        go_roundg (i + (j - i))
        case measure => have := Hk.out; omega
        case rel => exact ⟨i, j - i, _, _, _, _, rfl, rfl, rfl, HN1⟩

end Go.Proofs.YtpmodiodpilmeaaGreat

