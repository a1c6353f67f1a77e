/-
  Sorting by merging: plain mathematics.
-/
import Derived.Test.YtlmnkjnplaebgaaGreatPlain
namespace Go.Proofs.YtlmnkjnplaebgaaGreat

variable {α : Type}

def mrgF (lt : α → α → Bool) : Nat → List α → List α → List α
  | n + 1, x :: xs, y :: ys => if lt y x = true then y :: mrgF lt n (x :: xs) ys else x :: mrgF lt n xs (y :: ys)
  | _, xs, ys => xs ++ ys

/-- Two lists put together: of the second one first what is before the first one's. -/
def mrg (lt : α → α → Bool) (xs ys : List α) : List α := mrgF lt (xs.length + ys.length) xs ys

theorem mrg_left (lt : α → α → Bool) (ys : List α) : mrg lt [] ys = ys := by
  unfold mrg
  cases h : ([] : List α).length + ys.length with
  | zero => rfl
  | succ n => rfl

theorem mrg_right (lt : α → α → Bool) (xs : List α) : mrg lt xs [] = xs := by
  unfold mrg
  cases h : xs.length + ([] : List α).length with
  | zero => show xs ++ [] = xs; simp
  | succ n => cases xs with
    | nil => rfl
    | cons x xs => show (x :: xs) ++ [] = x :: xs; simp

theorem mrg_step (lt : α → α → Bool) (x y : α) (xs ys : List α) : mrg lt (x :: xs) (y :: ys) = if lt y x = true then y :: mrg lt (x :: xs) ys else x :: mrg lt xs (y :: ys) := by
  unfold mrg
  have e : (x :: xs).length + (y :: ys).length = (xs.length + 1 + ys.length) + 1 := by simp; omega
  have e1 : (x :: xs).length + ys.length = xs.length + 1 + ys.length := by simp
  have e2 : xs.length + (y :: ys).length = xs.length + 1 + ys.length := by simp; omega
  rw [e, e1, e2]
  rfl

theorem mrg_len (lt : α → α → Bool) : ∀ (n : Nat) (xs ys : List α), xs.length + ys.length ≤ n → (mrg lt xs ys).length = xs.length + ys.length := by
  intro n
  induction n with
  | zero =>
    intro xs ys h
    have : xs = [] := List.eq_nil_of_length_eq_zero (by omega)
    subst this
    rw [mrg_left]; simp
  | succ n ih =>
    intro xs ys h
    cases xs with
    | nil => rw [mrg_left]; simp
    | cons x xs =>
      cases ys with
      | nil => rw [mrg_right]; simp
      | cons y ys =>
        simp only [List.length_cons] at h
        rw [mrg_step]
        split
        · rw [List.length_cons, ih (x :: xs) ys (by simp; omega)]; simp; omega
        · rw [List.length_cons, ih xs (y :: ys) (by simp; omega)]; simp; omega

theorem mrg_mem (lt : α → α → Bool) : ∀ (n : Nat) (xs ys : List α), xs.length + ys.length ≤ n → ∀ z, z ∈ mrg lt xs ys → z ∈ xs ∨ z ∈ ys := by
  intro n
  induction n with
  | zero =>
    intro xs ys h z hz
    have : xs = [] := List.eq_nil_of_length_eq_zero (by omega)
    subst this
    rw [mrg_left] at hz; exact .inr hz
  | succ n ih =>
    intro xs ys h z hz
    cases xs with
    | nil => rw [mrg_left] at hz; exact .inr hz
    | cons x xs =>
      cases ys with
      | nil => rw [mrg_right] at hz; exact .inl hz
      | cons y ys =>
        simp only [List.length_cons] at h
        rw [mrg_step] at hz
        split at hz
        · rcases List.mem_cons.1 hz with rfl | hz
          · exact .inr List.mem_cons_self
          · rcases ih (x :: xs) ys (by simp; omega) z hz with h1 | h1
            · exact .inl h1
            · exact .inr (List.mem_cons_of_mem _ h1)
        · rcases List.mem_cons.1 hz with rfl | hz
          · exact .inl List.mem_cons_self
          · rcases ih xs (y :: ys) (by simp; omega) z hz with h1 | h1
            · exact .inl (List.mem_cons_of_mem _ h1)
            · exact .inr h1

/-- Sorted by halves. -/
def srt (lt : α → α → Bool) : Nat → List α → List α
  | 0, l => l
  | n + 1, l => if l.length < 2 then l else mrg lt (srt lt n (l.take (l.length / 2))) (srt lt n (l.drop (l.length / 2)))

theorem srt_len (lt : α → α → Bool) : ∀ (n : Nat) (l : List α), (srt lt n l).length = l.length := by
  intro n
  induction n with
  | zero => intro l; rfl
  | succ n ih =>
    intro l
    unfold srt
    split
    · rfl
    · rw [mrg_len lt _ _ _ (Nat.le_refl _), ih, ih]
      simp
      omega

theorem srt_mem (lt : α → α → Bool) : ∀ (n : Nat) (l : List α) (z : α), z ∈ srt lt n l → z ∈ l := by
  intro n
  induction n with
  | zero => intro l z h; exact h
  | succ n ih =>
    intro l z h
    unfold srt at h
    split at h
    · exact h
    · rcases mrg_mem lt _ _ _ (Nat.le_refl _) z h with h1 | h1
      · exact List.mem_of_mem_take (ih _ z h1)
      · exact List.mem_of_mem_drop (ih _ z h1)

end Go.Proofs.YtlmnkjnplaebgaaGreat
