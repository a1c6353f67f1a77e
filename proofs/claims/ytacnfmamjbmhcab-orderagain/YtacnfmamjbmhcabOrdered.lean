/-
  Sorting by merging keeps what is there, and its answer goes up: plain mathematics.
-/
import Derived.Test.YtacnfmamjbmhcabMerge
namespace Go.Proofs.Ytacnfmamjbmhcab

variable {α : Type}

theorem mrg_perm (lt : α → α → Bool) : ∀ (n : Nat) (xs ys : List α), xs.length + ys.length ≤ n → (mrg lt xs ys).Perm (xs ++ ys) := by
  intro n
  induction n with
  | zero =>
    intro xs ys h
    have : xs = [] := List.eq_nil_of_length_eq_zero (by omega)
    subst this
    rw [mrg_left]; exact List.Perm.refl _
  | succ n ih =>
    intro xs ys h
    cases xs with
    | nil => rw [mrg_left]; exact List.Perm.refl _
    | cons x xs =>
      cases ys with
      | nil => rw [mrg_right, List.append_nil]
      | cons y ys =>
        simp only [List.length_cons] at h
        rw [mrg_step]
        split
        · exact ((ih (x :: xs) ys (by simp; omega)).cons y).trans (List.perm_middle.symm)
        · exact (ih xs (y :: ys) (by simp; omega)).cons x

theorem srt_perm (lt : α → α → Bool) : ∀ (n : Nat) (l : List α), (srt lt n l).Perm l := by
  intro n
  induction n with
  | zero => intro l; exact List.Perm.refl _
  | succ n ih =>
    intro l
    unfold srt
    split
    · exact List.Perm.refl _
    · refine (mrg_perm lt _ _ _ (Nat.le_refl _)).trans ?_
      refine ((ih _).append (ih _)).trans ?_
      rw [List.take_append_drop]

/-- It goes up: none is before one that stands ahead of it. -/
def Up (lt : α → α → Bool) (l : List α) : Prop := l.Pairwise fun a b => lt b a = false

theorem mrg_up (lt : α → α → Bool) (has : ∀ a b, lt a b = true → lt b a = false) (htr : ∀ a b c, lt b a = false → lt c b = false → lt c a = false) :
    ∀ (n : Nat) (xs ys : List α), xs.length + ys.length ≤ n → Up lt xs → Up lt ys → Up lt (mrg lt xs ys) := by
  intro n
  induction n with
  | zero =>
    intro xs ys h hx hy
    have : xs = [] := List.eq_nil_of_length_eq_zero (by omega)
    subst this
    rw [mrg_left]; exact hy
  | succ n ih =>
    intro xs ys h hx hy
    cases xs with
    | nil => rw [mrg_left]; exact hy
    | cons x xs =>
      cases ys with
      | nil => rw [mrg_right]; exact hx
      | cons y ys =>
        simp only [List.length_cons] at h
        obtain ⟨hx1, hx2⟩ := List.pairwise_cons.1 hx
        obtain ⟨hy1, hy2⟩ := List.pairwise_cons.1 hy
        rw [mrg_step]
        split
        · rename_i hlt
          refine List.pairwise_cons.2 ⟨fun z hz => ?_, ih (x :: xs) ys (by simp; omega) hx hy2⟩
          rcases mrg_mem lt _ _ _ (Nat.le_refl _) z hz with h1 | h1
          · rcases List.mem_cons.1 h1 with rfl | h1
            · exact has _ _ hlt
            · exact htr _ _ _ (has _ _ hlt) (hx1 z h1)
          · exact hy1 z h1
        · rename_i hlt
          have hlt : lt y x = false := by simpa using hlt
          refine List.pairwise_cons.2 ⟨fun z hz => ?_, ih xs (y :: ys) (by simp; omega) hx2 hy⟩
          rcases mrg_mem lt _ _ _ (Nat.le_refl _) z hz with h1 | h1
          · exact hx1 z h1
          · rcases List.mem_cons.1 h1 with rfl | h1
            · exact hlt
            · exact htr _ _ _ hlt (hy1 z h1)

theorem srt_up (lt : α → α → Bool) (has : ∀ a b, lt a b = true → lt b a = false) (htr : ∀ a b c, lt b a = false → lt c b = false → lt c a = false) :
    ∀ (n : Nat) (l : List α), l.length ≤ n → Up lt (srt lt n l) := by
  intro n
  induction n with
  | zero =>
    intro l h
    have : l = [] := List.eq_nil_of_length_eq_zero (by omega)
    subst this
    exact List.Pairwise.nil
  | succ n ih =>
    intro l h
    unfold srt
    split
    · rename_i h2
      match l, h2 with
      | [], _ => exact List.Pairwise.nil
      | [x], _ => exact List.pairwise_cons.2 ⟨fun z hz => (List.not_mem_nil hz).elim, List.Pairwise.nil⟩
      | _ :: _ :: _, h2 => simp at h2; omega
    · rename_i h2
      exact mrg_up lt has htr _ _ _ (Nat.le_refl _) (ih _ (by simp; omega)) (ih _ (by simp; omega))


end Go.Proofs.Ytacnfmamjbmhcab

