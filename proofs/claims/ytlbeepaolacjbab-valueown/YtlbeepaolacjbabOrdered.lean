/-
  Sorting by merging keeps what is there, and its answer goes up: plain mathematics.
-/
import Derived.Test.YtlbeepaolacjbabPlain
namespace Go.Proofs.Ytlbeepaolacjbab

variable {α : Type}

def mrgF (lt : α → α → Bool) : Nat → List α → List α → List α
  | n + 1, x :: xs, y :: ys => if lt y x = true then y :: mrgF lt n (x :: xs) ys else x :: mrgF lt n xs (y :: ys)
  | _, xs, ys => xs ++ ys

/-- Two lists put together: of the second one first what is before the first one's. -/
def mrg (lt : α → α → Bool) (xs ys : List α) : List α := mrgF lt (xs.length + ys.length) xs ys

theorem mrg_left (lt : α → α → Bool) (ys : List α) : mrg lt [] ys = ys := by
  unfold mrg
  cases h : ([] : List α).length + ys.length with
  | zero => rfl
  | succ n => rfl

theorem mrg_right (lt : α → α → Bool) (xs : List α) : mrg lt xs [] = xs := by
  unfold mrg
  cases h : xs.length + ([] : List α).length with
  | zero => show xs ++ [] = xs; simp
  | succ n => cases xs with
    | nil => rfl
    | cons x xs => show (x :: xs) ++ [] = x :: xs; simp

theorem mrg_step (lt : α → α → Bool) (x y : α) (xs ys : List α) : mrg lt (x :: xs) (y :: ys) = if lt y x = true then y :: mrg lt (x :: xs) ys else x :: mrg lt xs (y :: ys) := by
  unfold mrg
  have e : (x :: xs).length + (y :: ys).length = (xs.length + 1 + ys.length) + 1 := by simp; omega
  have e1 : (x :: xs).length + ys.length = xs.length + 1 + ys.length := by simp
  have e2 : xs.length + (y :: ys).length = xs.length + 1 + ys.length := by simp; omega
  rw [e, e1, e2]
  rfl

theorem mrg_len (lt : α → α → Bool) : ∀ (n : Nat) (xs ys : List α), xs.length + ys.length ≤ n → (mrg lt xs ys).length = xs.length + ys.length := by
  intro n
  induction n with
  | zero =>
    intro xs ys h
    have : xs = [] := List.eq_nil_of_length_eq_zero (by omega)
    subst this
    rw [mrg_left]; simp
  | succ n ih =>
    intro xs ys h
    cases xs with
    | nil => rw [mrg_left]; simp
    | cons x xs =>
      cases ys with
      | nil => rw [mrg_right]; simp
      | cons y ys =>
        simp only [List.length_cons] at h
        rw [mrg_step]
        split
        · rw [List.length_cons, ih (x :: xs) ys (by simp; omega)]; simp; omega
        · rw [List.length_cons, ih xs (y :: ys) (by simp; omega)]; simp; omega

theorem mrg_mem (lt : α → α → Bool) : ∀ (n : Nat) (xs ys : List α), xs.length + ys.length ≤ n → ∀ z, z ∈ mrg lt xs ys → z ∈ xs ∨ z ∈ ys := by
  intro n
  induction n with
  | zero =>
    intro xs ys h z hz
    have : xs = [] := List.eq_nil_of_length_eq_zero (by omega)
    subst this
    rw [mrg_left] at hz; exact .inr hz
  | succ n ih =>
    intro xs ys h z hz
    cases xs with
    | nil => rw [mrg_left] at hz; exact .inr hz
    | cons x xs =>
      cases ys with
      | nil => rw [mrg_right] at hz; exact .inl hz
      | cons y ys =>
        simp only [List.length_cons] at h
        rw [mrg_step] at hz
        split at hz
        · rcases List.mem_cons.1 hz with rfl | hz
          · exact .inr List.mem_cons_self
          · rcases ih (x :: xs) ys (by simp; omega) z hz with h1 | h1
            · exact .inl h1
            · exact .inr (List.mem_cons_of_mem _ h1)
        · rcases List.mem_cons.1 hz with rfl | hz
          · exact .inl List.mem_cons_self
          · rcases ih xs (y :: ys) (by simp; omega) z hz with h1 | h1
            · exact .inl (List.mem_cons_of_mem _ h1)
            · exact .inr h1

/-- Sorted by halves. -/
def srt (lt : α → α → Bool) : Nat → List α → List α
  | 0, l => l
  | n + 1, l => if l.length < 2 then l else mrg lt (srt lt n (l.take (l.length / 2))) (srt lt n (l.drop (l.length / 2)))

theorem srt_len (lt : α → α → Bool) : ∀ (n : Nat) (l : List α), (srt lt n l).length = l.length := by
  intro n
  induction n with
  | zero => intro l; rfl
  | succ n ih =>
    intro l
    unfold srt
    split
    · rfl
    · rw [mrg_len lt _ _ _ (Nat.le_refl _), ih, ih]
      simp
      omega

theorem srt_mem (lt : α → α → Bool) : ∀ (n : Nat) (l : List α) (z : α), z ∈ srt lt n l → z ∈ l := by
  intro n
  induction n with
  | zero => intro l z h; exact h
  | succ n ih =>
    intro l z h
    unfold srt at h
    split at h
    · exact h
    · rcases mrg_mem lt _ _ _ (Nat.le_refl _) z h with h1 | h1
      · exact List.mem_of_mem_take (ih _ z h1)
      · exact List.mem_of_mem_drop (ih _ z h1)

theorem srt_step (lt : α → α → Bool) (n : Nat) (l : List α) (h : ¬ l.length < 2) : srt lt (n + 1) l = mrg lt (srt lt n (l.take (l.length / 2))) (srt lt n (l.drop (l.length / 2))) := by
  show (if l.length < 2 then l else _) = _
  rw [if_neg h]

theorem mrg_map {α β : Type} (h : α → β) (lt : α → α → Bool) (lt' : β → β → Bool) : ∀ (n : Nat) (xs ys : List α), xs.length + ys.length ≤ n → (∀ x ∈ xs, ∀ y ∈ ys, lt y x = lt' (h y) (h x)) → (mrg lt xs ys).map h = mrg lt' (xs.map h) (ys.map h) := by
  intro n
  induction n with
  | zero =>
    intro xs ys hn _
    have : xs = [] := List.eq_nil_of_length_eq_zero (by omega)
    subst this
    rw [mrg_left, List.map_nil, mrg_left]
  | succ n ih =>
    intro xs ys hn hl
    cases xs with
    | nil => rw [mrg_left, List.map_nil, mrg_left]
    | cons x xs =>
      cases ys with
      | nil => rw [mrg_right, List.map_nil, mrg_right]
      | cons y ys =>
        simp only [List.length_cons] at hn
        rw [mrg_step, List.map_cons, List.map_cons, mrg_step, hl x List.mem_cons_self y List.mem_cons_self]
        split
        · rw [List.map_cons, ih (x :: xs) ys (by simp; omega) (fun a ha b hb => hl a ha b (List.mem_cons_of_mem _ hb)), List.map_cons]
        · rw [List.map_cons, ih xs (y :: ys) (by simp; omega) (fun a ha b hb => hl a (List.mem_cons_of_mem _ ha) b hb), List.map_cons]

theorem srt_map {α β : Type} (h : α → β) (lt : α → α → Bool) (lt' : β → β → Bool) (P : α → Prop) (hl : ∀ x y, P x → P y → lt y x = lt' (h y) (h x)) : ∀ (n : Nat) (l : List α), (∀ x ∈ l, P x) → (srt lt n l).map h = srt lt' n (l.map h) := by
  intro n
  induction n with
  | zero => intro l _; rfl
  | succ n ih =>
    intro l hp
    by_cases h2 : l.length < 2
    · show (if l.length < 2 then l else _).map h = (if (l.map h).length < 2 then l.map h else _)
      rw [if_pos h2, if_pos (by simpa using h2)]
    · rw [srt_step lt n l h2, srt_step lt' n (l.map h) (by simpa using h2), mrg_map h lt lt' _ _ _ (Nat.le_refl _) (fun x hx y hy => hl x y (hp x (List.mem_of_mem_take (srt_mem _ _ _ _ hx))) (hp y (List.mem_of_mem_drop (srt_mem _ _ _ _ hy)))), ih _ (fun x hx => hp x (List.mem_of_mem_take hx)), ih _ (fun x hx => hp x (List.mem_of_mem_drop hx))]
      simp

end Go.Proofs.Ytlbeepaolacjbab

namespace Go.Proofs.Ytlbeepaolacjbab

variable {α : Type}

theorem mrg_perm (lt : α → α → Bool) : ∀ (n : Nat) (xs ys : List α), xs.length + ys.length ≤ n → (mrg lt xs ys).Perm (xs ++ ys) := by
  intro n
  induction n with
  | zero =>
    intro xs ys h
    have : xs = [] := List.eq_nil_of_length_eq_zero (by omega)
    subst this
    rw [mrg_left]; exact List.Perm.refl _
  | succ n ih =>
    intro xs ys h
    cases xs with
    | nil => rw [mrg_left]; exact List.Perm.refl _
    | cons x xs =>
      cases ys with
      | nil => rw [mrg_right, List.append_nil]
      | cons y ys =>
        simp only [List.length_cons] at h
        rw [mrg_step]
        split
        · exact ((ih (x :: xs) ys (by simp; omega)).cons y).trans (List.perm_middle.symm)
        · exact (ih xs (y :: ys) (by simp; omega)).cons x

theorem srt_perm (lt : α → α → Bool) : ∀ (n : Nat) (l : List α), (srt lt n l).Perm l := by
  intro n
  induction n with
  | zero => intro l; exact List.Perm.refl _
  | succ n ih =>
    intro l
    unfold srt
    split
    · exact List.Perm.refl _
    · refine (mrg_perm lt _ _ _ (Nat.le_refl _)).trans ?_
      refine ((ih _).append (ih _)).trans ?_
      rw [List.take_append_drop]

/-- It goes up: none is before one that stands ahead of it. -/
def Up (lt : α → α → Bool) (l : List α) : Prop := l.Pairwise fun a b => lt b a = false

theorem mrg_up (lt : α → α → Bool) (has : ∀ a b, lt a b = true → lt b a = false) (htr : ∀ a b c, lt b a = false → lt c b = false → lt c a = false) :
    ∀ (n : Nat) (xs ys : List α), xs.length + ys.length ≤ n → Up lt xs → Up lt ys → Up lt (mrg lt xs ys) := by
  intro n
  induction n with
  | zero =>
    intro xs ys h hx hy
    have : xs = [] := List.eq_nil_of_length_eq_zero (by omega)
    subst this
    rw [mrg_left]; exact hy
  | succ n ih =>
    intro xs ys h hx hy
    cases xs with
    | nil => rw [mrg_left]; exact hy
    | cons x xs =>
      cases ys with
      | nil => rw [mrg_right]; exact hx
      | cons y ys =>
        simp only [List.length_cons] at h
        obtain ⟨hx1, hx2⟩ := List.pairwise_cons.1 hx
        obtain ⟨hy1, hy2⟩ := List.pairwise_cons.1 hy
        rw [mrg_step]
        split
        · rename_i hlt
          refine List.pairwise_cons.2 ⟨fun z hz => ?_, ih (x :: xs) ys (by simp; omega) hx hy2⟩
          rcases mrg_mem lt _ _ _ (Nat.le_refl _) z hz with h1 | h1
          · rcases List.mem_cons.1 h1 with rfl | h1
            · exact has _ _ hlt
            · exact htr _ _ _ (has _ _ hlt) (hx1 z h1)
          · exact hy1 z h1
        · rename_i hlt
          have hlt : lt y x = false := by simpa using hlt
          refine List.pairwise_cons.2 ⟨fun z hz => ?_, ih xs (y :: ys) (by simp; omega) hx2 hy⟩
          rcases mrg_mem lt _ _ _ (Nat.le_refl _) z hz with h1 | h1
          · exact hx1 z h1
          · rcases List.mem_cons.1 h1 with rfl | h1
            · exact hlt
            · exact htr _ _ _ hlt (hy1 z h1)

theorem srt_up (lt : α → α → Bool) (has : ∀ a b, lt a b = true → lt b a = false) (htr : ∀ a b c, lt b a = false → lt c b = false → lt c a = false) :
    ∀ (n : Nat) (l : List α), l.length ≤ n → Up lt (srt lt n l) := by
  intro n
  induction n with
  | zero =>
    intro l h
    have : l = [] := List.eq_nil_of_length_eq_zero (by omega)
    subst this
    exact List.Pairwise.nil
  | succ n ih =>
    intro l h
    unfold srt
    split
    · rename_i h2
      match l, h2 with
      | [], _ => exact List.Pairwise.nil
      | [x], _ => exact List.pairwise_cons.2 ⟨fun z hz => (List.not_mem_nil hz).elim, List.Pairwise.nil⟩
      | _ :: _ :: _, h2 => simp at h2; omega
    · rename_i h2
      exact mrg_up lt has htr _ _ _ (Nat.le_refl _) (ih _ (by simp; omega)) (ih _ (by simp; omega))


/-- Two lists with the same in them that go up are one. -/
theorem up_same (lt : α → α → Bool) (hrf : ∀ a, lt a a = false) (hat : ∀ a b, lt a b = false → lt b a = false → a = b) :
    ∀ (l m : List α), l.Perm m → Up lt l → Up lt m → l = m := by
  intro l
  induction l with
  | nil => intro m hp _ _; exact hp.nil_eq
  | cons x l ih =>
    intro m hp hl hm
    cases m with
    | nil => exact absurd hp.length_eq (by simp)
    | cons y m =>
      obtain ⟨hl1, hl2⟩ := List.pairwise_cons.1 hl
      obtain ⟨hm1, hm2⟩ := List.pairwise_cons.1 hm
      have hx : x ∈ y :: m := hp.subset List.mem_cons_self
      have hy : y ∈ x :: l := hp.symm.subset List.mem_cons_self
      have h1 : lt x y = false := by
        rcases List.mem_cons.1 hx with rfl | h
        · exact hrf _
        · exact hm1 x h
      have h2 : lt y x = false := by
        rcases List.mem_cons.1 hy with rfl | h
        · exact hrf _
        · exact hl1 y h
      have e := hat x y h1 h2
      subst e
      rw [ih m (List.Perm.cons_inv hp) hl2 hm2]

theorem up_map {β : Type} (f : α → β) (lt : β → β → Bool) (l : List α) (h : Up (fun a b => lt (f a) (f b)) l) : Up lt (l.map f) := by
  unfold Up at h ⊢
  rw [List.pairwise_map]
  exact h

end Go.Proofs.Ytlbeepaolacjbab

