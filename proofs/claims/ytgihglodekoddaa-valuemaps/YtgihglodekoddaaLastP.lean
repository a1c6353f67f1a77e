/-
  Of those that are the same the last one: by sorting and going along, and by halves put together: plain mathematics.
-/
import Derived.Test.YtgihglodekoddaaSymC
namespace Go.Proofs.Ytgihglodekoddaa

variable {α : Type}

/-- A comparison that is one line. -/
structure Cmp3 (cf : α → α → Int) : Prop where
  turn : ∀ x y, cf y x = - cf x y
  lt_le : ∀ a b c, cf a b < 0 → cf b c ≤ 0 → cf a c < 0
  le_lt : ∀ a b c, cf a b ≤ 0 → cf b c < 0 → cf a c < 0
  le_le : ∀ a b c, cf a b ≤ 0 → cf b c ≤ 0 → cf a c ≤ 0

/-- Which stands ahead. -/
def ltI (cf : α → α → Int) (x y : α) : Bool := decide (cf x y < 0)

theorem Cmp3.self {cf : α → α → Int} (h : Cmp3 cf) (x : α) : cf x x = 0 := by have := h.turn x x; omega

theorem Cmp3.weak {cf : α → α → Int} (h : Cmp3 cf) : Weak (ltI cf) := by
  refine ⟨fun a b h1 => ?_, fun a b c h1 h2 => ?_⟩
  · have h1 : cf a b < 0 := of_decide_eq_true h1
    have := h.turn a b
    exact decide_eq_false (by omega)
  · have h1 : ¬ cf b a < 0 := of_decide_eq_false h1
    have h2 : ¬ cf c b < 0 := of_decide_eq_false h2
    have t1 := h.turn a b
    have t2 := h.turn b c
    have t3 := h.turn a c
    have := h.le_le a b c (by omega) (by omega)
    exact decide_eq_false (by omega)

theorem Cmp3.sim {cf : α → α → Int} (h : Cmp3 cf) (x y : α) : sim (ltI cf) x y = true ↔ cf x y = 0 := by
  have t := h.turn x y
  rw [sim_iff]
  unfold ltI
  rw [decide_eq_false_iff_not, decide_eq_false_iff_not]
  omega

/-- Each stands ahead of all behind it. -/
def RisesK (cf : α → α → Int) (l : List α) : Prop := l.Pairwise fun a b => cf a b < 0

theorem RisesK.up {cf : α → α → Int} (h : Cmp3 cf) {l : List α} (hl : RisesK cf l) : Up (ltI cf) l :=
  List.Pairwise.imp (fun {a b} (k : cf a b < 0) => by have := h.turn a b; exact decide_eq_false (by omega)) hl

/-- The last one, if there is one. -/
def lst (l : List α) : List α := l.getLast?.toList

theorem lst_app (a b : List α) : lst (a ++ b) = if b = [] then lst a else lst b := by
  unfold lst
  by_cases hb : b = []
  · rw [if_pos hb, hb, List.append_nil]
  · rw [if_neg hb, List.getLast?_append]
    cases h : b.getLast? with
    | none => rw [List.getLast?_eq_none_iff] at h; exact absurd h hb
    | some x => rfl

theorem lst_eq_nil (a : List α) : lst a = [] ↔ a = [] := by
  unfold lst
  cases h : a.getLast? with
  | none => rw [List.getLast?_eq_none_iff] at h; simp [h]
  | some x =>
    have : a ≠ [] := fun e => by rw [e] at h; cases h
    simp [this]

/-- What stands ahead of one of a kind is none of it. -/
theorem fil_nil {cf : α → α → Int} (h : Cmp3 cf) (v x : α) (l : List α) (hv : sim (ltI cf) v x = true) (hl : ∀ y ∈ l, cf x y < 0) : l.filter (sim (ltI cf) v) = [] := by
  rw [List.filter_eq_nil_iff]
  intro y hy hs
  have h1 := (h.sim v x).1 hv
  have h2 := (h.sim v y).1 hs
  have h3 := hl y hy
  have := h.le_lt v x y (by omega) h3
  omega

/-- Rising: at most one of each kind. -/
theorem RisesK.one {cf : α → α → Int} (h : Cmp3 cf) : ∀ {l : List α}, RisesK cf l → ∀ v, lst (l.filter (sim (ltI cf) v)) = l.filter (sim (ltI cf) v) := by
  intro l
  induction l with
  | nil => intro _ v; rfl
  | cons x l ih =>
    intro hl v
    obtain ⟨h1, h2⟩ := List.pairwise_cons.1 hl
    by_cases hs : sim (ltI cf) v x = true
    · rw [List.filter_cons_of_pos hs, fil_nil h v x l hs h1]; rfl
    · rw [List.filter_cons_of_neg hs]; exact ih h2 v

/-- Of neighbours that are the same the last one. -/
def lastE (cf : α → α → Int) : List α → List α
  | [] => []
  | [x] => [x]
  | x :: y :: l => if cf x y = 0 then lastE cf (y :: l) else x :: lastE cf (y :: l)

theorem lastE_mem (cf : α → α → Int) : ∀ (l : List α) (z : α), z ∈ lastE cf l → z ∈ l := by
  intro l
  induction l with
  | nil => intro z hz; exact hz
  | cons x l ih =>
    intro z hz
    cases l with
    | nil => exact hz
    | cons y l =>
      unfold lastE at hz
      split at hz
      · exact List.mem_cons_of_mem _ (ih z hz)
      · rcases List.mem_cons.1 hz with rfl | hz
        · exact List.mem_cons_self
        · exact List.mem_cons_of_mem _ (ih z hz)

theorem lastE_len (cf : α → α → Int) : ∀ (l : List α), (lastE cf l).length ≤ l.length := by
  intro l
  induction l with
  | nil => exact Nat.le_refl _
  | cons x l ih =>
    cases l with
    | nil => exact Nat.le_refl _
    | cons y l =>
      unfold lastE
      split
      · simp at ih ⊢; omega
      · simp at ih ⊢; omega

theorem lastE_spec {cf : α → α → Int} (h : Cmp3 cf) : ∀ (l : List α), Up (ltI cf) l → RisesK cf (lastE cf l) ∧ ∀ v, (lastE cf l).filter (sim (ltI cf) v) = lst (l.filter (sim (ltI cf) v)) := by
  intro l
  induction l with
  | nil => intro _; exact ⟨List.Pairwise.nil, fun v => rfl⟩
  | cons x l ih =>
    intro hl
    cases l with
    | nil =>
      refine ⟨List.pairwise_singleton _ _, fun v => ?_⟩
      show [x].filter _ = lst ([x].filter _)
      by_cases hs : sim (ltI cf) v x = true
      · rw [List.filter_cons_of_pos hs]; rfl
      · rw [List.filter_cons_of_neg hs]; rfl
    | cons y l =>
      obtain ⟨h1, h2⟩ := List.pairwise_cons.1 hl
      obtain ⟨i1, i2⟩ := ih h2
      obtain ⟨h3, _⟩ := List.pairwise_cons.1 h2
      have hxy : ∀ z ∈ y :: l, cf x z ≤ 0 := fun z hz => by
        have k := of_decide_eq_false (h1 z hz)
        have := h.turn x z
        omega
      have hyz : ∀ z ∈ y :: l, cf y z ≤ 0 := fun z hz => by
        rcases List.mem_cons.1 hz with rfl | hz
        · rw [h.self]; exact Int.le_refl _
        · have k := of_decide_eq_false (h3 z hz)
          have := h.turn y z
          omega
      by_cases e : cf x y = 0
      · have e1 : lastE cf (x :: y :: l) = lastE cf (y :: l) := by show (if cf x y = 0 then _ else _) = _; rw [if_pos e]
        rw [e1]
        refine ⟨i1, fun v => ?_⟩
        rw [i2 v]
        by_cases hs : sim (ltI cf) v x = true
        · have k1 := (h.sim v x).1 hs
          have hy : sim (ltI cf) v y = true := (h.sim v y).2 (by
            have a1 := h.le_le v x y (by omega) (by omega)
            have t1 := h.turn x y
            have t2 := h.turn v x
            have t3 := h.turn v y
            have a2 := h.le_le y x v (by omega) (by omega)
            omega)
          rw [List.filter_cons_of_pos hs, show x :: List.filter (sim (ltI cf) v) (y :: l) = [x] ++ List.filter (sim (ltI cf) v) (y :: l) from rfl, lst_app, if_neg (by rw [List.filter_cons_of_pos hy]; exact fun q => by cases q)]
        · rw [List.filter_cons_of_neg hs]
      · have hlt : cf x y < 0 := by have := hxy y List.mem_cons_self; omega
        have e1 : lastE cf (x :: y :: l) = x :: lastE cf (y :: l) := by show (if cf x y = 0 then _ else _) = _; rw [if_neg e]
        have hall : ∀ z ∈ y :: l, cf x z < 0 := fun z hz => h.lt_le x y z hlt (hyz z hz)
        rw [e1]
        refine ⟨List.pairwise_cons.2 ⟨fun z hz => hall z (lastE_mem cf _ z hz), i1⟩, fun v => ?_⟩
        by_cases hs : sim (ltI cf) v x = true
        · have k := fil_nil h v x _ hs hall
          have k2 := i2 v
          rw [k] at k2
          rw [List.filter_cons_of_pos hs, List.filter_cons_of_pos hs, k, k2]; rfl
        · rw [List.filter_cons_of_neg hs, List.filter_cons_of_neg hs, i2 v]

def mrgKF (cf : α → α → Int) : Nat → List α → List α → List α
  | n + 1, x :: xs, y :: ys => if cf x y < 0 then x :: mrgKF cf n xs (y :: ys) else if cf x y = 0 then y :: mrgKF cf n xs ys else y :: mrgKF cf n (x :: xs) ys
  | _, xs, ys => xs ++ ys

/-- Two lists put together: of the same ones the second list's. -/
def mrgK (cf : α → α → Int) (xs ys : List α) : List α := mrgKF cf (xs.length + ys.length) xs ys

theorem mrgKF_more (cf : α → α → Int) : ∀ (n m : Nat) (xs ys : List α), xs.length + ys.length ≤ n → xs.length + ys.length ≤ m → mrgKF cf n xs ys = mrgKF cf m xs ys := by
  intro n
  induction n with
  | zero =>
    intro m xs ys h1 _
    have e1 : xs = [] := List.eq_nil_of_length_eq_zero (by omega)
    have e2 : ys = [] := List.eq_nil_of_length_eq_zero (by omega)
    subst e1 e2
    cases m <;> rfl
  | succ n ih =>
    intro m xs ys h1 h2
    cases xs with
    | nil => cases m <;> rfl
    | cons x xs =>
      cases ys with
      | nil => cases m <;> rfl
      | cons y ys =>
        simp only [List.length_cons] at h1 h2
        cases m with
        | zero => omega
        | succ m =>
          show (if _ then _ else _) = (if _ then _ else _)
          rw [ih m xs (y :: ys) (by simp; omega) (by simp; omega), ih m xs ys (by omega) (by omega), ih m (x :: xs) ys (by simp; omega) (by simp; omega)]

theorem mrgK_left (cf : α → α → Int) (ys : List α) : mrgK cf [] ys = ys := by
  unfold mrgK
  cases h : ([] : List α).length + ys.length <;> rfl

theorem mrgK_right (cf : α → α → Int) (xs : List α) : mrgK cf xs [] = xs := by
  unfold mrgK
  cases xs with
  | nil => cases h : ([] : List α).length + ([] : List α).length <;> rfl
  | cons x xs =>
    cases h : (x :: xs).length + ([] : List α).length with
    | zero => show (x :: xs) ++ [] = _; simp
    | succ n => show (x :: xs) ++ [] = _; simp

theorem mrgK_step (cf : α → α → Int) (x y : α) (xs ys : List α) : mrgK cf (x :: xs) (y :: ys) = if cf x y < 0 then x :: mrgK cf xs (y :: ys) else if cf x y = 0 then y :: mrgK cf xs ys else y :: mrgK cf (x :: xs) ys := by
  unfold mrgK
  have e : (x :: xs).length + (y :: ys).length = (xs.length + 1 + ys.length) + 1 := by simp; omega
  rw [e]
  show (if _ then _ else _) = _
  rw [mrgKF_more cf (xs.length + 1 + ys.length) (xs.length + (y :: ys).length) xs (y :: ys) (by simp; omega) (Nat.le_refl _),
    mrgKF_more cf (xs.length + 1 + ys.length) (xs.length + ys.length) xs ys (by omega) (Nat.le_refl _),
    mrgKF_more cf (xs.length + 1 + ys.length) ((x :: xs).length + ys.length) (x :: xs) ys (by simp) (Nat.le_refl _)]

theorem mrgK_len (cf : α → α → Int) : ∀ (n : Nat) (xs ys : List α), xs.length + ys.length ≤ n → (mrgK cf xs ys).length ≤ xs.length + ys.length := by
  intro n
  induction n with
  | zero =>
    intro xs ys h
    have : xs = [] := List.eq_nil_of_length_eq_zero (by omega)
    subst this
    rw [mrgK_left]; simp
  | succ n ih =>
    intro xs ys h
    cases xs with
    | nil => rw [mrgK_left]; simp
    | cons x xs =>
      cases ys with
      | nil => rw [mrgK_right]; simp
      | cons y ys =>
        simp only [List.length_cons] at h
        rw [mrgK_step]
        split
        · have := ih xs (y :: ys) (by simp; omega); simp at this ⊢; omega
        · split
          · have := ih xs ys (by omega); simp at this ⊢; omega
          · have := ih (x :: xs) ys (by simp; omega); simp at this ⊢; omega

theorem mrgK_mem (cf : α → α → Int) : ∀ (n : Nat) (xs ys : List α), xs.length + ys.length ≤ n → ∀ z, z ∈ mrgK cf xs ys → z ∈ xs ∨ z ∈ ys := by
  intro n
  induction n with
  | zero =>
    intro xs ys h z hz
    have : xs = [] := List.eq_nil_of_length_eq_zero (by omega)
    subst this
    rw [mrgK_left] at hz; exact .inr hz
  | succ n ih =>
    intro xs ys h z hz
    cases xs with
    | nil => rw [mrgK_left] at hz; exact .inr hz
    | cons x xs =>
      cases ys with
      | nil => rw [mrgK_right] at hz; exact .inl hz
      | cons y ys =>
        simp only [List.length_cons] at h
        rw [mrgK_step] at hz
        split at hz
        · rcases List.mem_cons.1 hz with rfl | hz
          · exact .inl List.mem_cons_self
          · exact (ih xs (y :: ys) (by simp; omega) z hz).imp (List.mem_cons_of_mem _) id
        · split at hz
          · rcases List.mem_cons.1 hz with rfl | hz
            · exact .inr List.mem_cons_self
            · exact (ih xs ys (by omega) z hz).imp (List.mem_cons_of_mem _) (List.mem_cons_of_mem _)
          · rcases List.mem_cons.1 hz with rfl | hz
            · exact .inr List.mem_cons_self
            · exact (ih (x :: xs) ys (by simp; omega) z hz).imp id (List.mem_cons_of_mem _)

theorem mrgK_spec {cf : α → α → Int} (h : Cmp3 cf) : ∀ (n : Nat) (xs ys : List α), xs.length + ys.length ≤ n → RisesK cf xs → RisesK cf ys →
    RisesK cf (mrgK cf xs ys) ∧ ∀ v, (mrgK cf xs ys).filter (sim (ltI cf) v) = if ys.filter (sim (ltI cf) v) = [] then xs.filter (sim (ltI cf) v) else ys.filter (sim (ltI cf) v) := by
  intro n
  induction n with
  | zero =>
    intro xs ys hn hx hy
    have e1 : xs = [] := List.eq_nil_of_length_eq_zero (by omega)
    subst e1
    rw [mrgK_left]
    refine ⟨hy, fun v => ?_⟩
    split
    · assumption
    · rfl
  | succ n ih =>
    intro xs ys hn hx hy
    cases xs with
    | nil =>
      rw [mrgK_left]
      refine ⟨hy, fun v => ?_⟩
      split
      · assumption
      · rfl
    | cons x xs =>
      cases ys with
      | nil => rw [mrgK_right]; exact ⟨hx, fun v => by rw [List.filter_nil, if_pos rfl]⟩
      | cons y ys =>
        simp only [List.length_cons] at hn
        obtain ⟨hx1, hx2⟩ := List.pairwise_cons.1 hx
        obtain ⟨hy1, hy2⟩ := List.pairwise_cons.1 hy
        have tt := h.turn x y
        rw [mrgK_step]
        by_cases c1 : cf x y < 0
        · rw [if_pos c1]
          obtain ⟨i1, i2⟩ := ih xs (y :: ys) (by simp; omega) hx2 hy
          have hall : ∀ z ∈ y :: ys, cf x z < 0 := fun z hz => by
            rcases List.mem_cons.1 hz with rfl | hz
            · exact c1
            · exact h.lt_le x y z c1 (by have := hy1 z hz; omega)
          refine ⟨List.pairwise_cons.2 ⟨fun z hz => ?_, i1⟩, fun v => ?_⟩
          · rcases mrgK_mem cf _ _ _ (Nat.le_refl _) z hz with hz | hz
            · exact hx1 z hz
            · exact hall z hz
          · by_cases hs : sim (ltI cf) v x = true
            · have k := fil_nil h v x _ hs hall
              rw [List.filter_cons_of_pos hs, i2 v, k, if_pos rfl, if_pos rfl, List.filter_cons_of_pos hs]
            · rw [List.filter_cons_of_neg hs, i2 v, List.filter_cons_of_neg hs]
        · rw [if_neg c1]
          by_cases c2 : cf x y = 0
          · rw [if_pos c2]
            obtain ⟨i1, i2⟩ := ih xs ys (by omega) hx2 hy2
            have hall : ∀ z ∈ xs, cf y z < 0 := fun z hz => h.le_lt y x z (by omega) (hx1 z hz)
            refine ⟨List.pairwise_cons.2 ⟨fun z hz => ?_, i1⟩, fun v => ?_⟩
            · rcases mrgK_mem cf _ _ _ (Nat.le_refl _) z hz with hz | hz
              · exact hall z hz
              · exact hy1 z hz
            · by_cases hs : sim (ltI cf) v y = true
              · have k1 := fil_nil h v y _ hs hall
                have k2 := fil_nil h v y _ hs hy1
                rw [List.filter_cons_of_pos hs, i2 v, k2, if_pos rfl, k1, List.filter_cons_of_pos hs, k2, if_neg (fun q => by cases q)]
              · have hs' : ¬ sim (ltI cf) v x = true := fun q => hs ((h.sim v y).2 (by
                  have k1 := (h.sim v x).1 q
                  have a1 := h.le_le v x y (by omega) (by omega)
                  have t2 := h.turn v x
                  have t3 := h.turn v y
                  have a2 := h.le_le y x v (by omega) (by omega)
                  omega))
                rw [List.filter_cons_of_neg hs, i2 v, List.filter_cons_of_neg hs, List.filter_cons_of_neg hs']
          · rw [if_neg c2]
            obtain ⟨i1, i2⟩ := ih (x :: xs) ys (by simp; omega) hx hy2
            have hall : ∀ z ∈ x :: xs, cf y z < 0 := fun z hz => by
              rcases List.mem_cons.1 hz with rfl | hz
              · omega
              · exact h.lt_le y x z (by omega) (by have := hx1 z hz; omega)
            refine ⟨List.pairwise_cons.2 ⟨fun z hz => ?_, i1⟩, fun v => ?_⟩
            · rcases mrgK_mem cf _ _ _ (Nat.le_refl _) z hz with hz | hz
              · exact hall z hz
              · exact hy1 z hz
            · by_cases hs : sim (ltI cf) v y = true
              · have k1 := fil_nil h v y _ hs hall
                have k2 := fil_nil h v y _ hs hy1
                rw [List.filter_cons_of_pos hs, i2 v, k2, if_pos rfl, k1, List.filter_cons_of_pos hs, k2, if_neg (fun q => by cases q)]
              · rw [List.filter_cons_of_neg hs, i2 v, List.filter_cons_of_neg hs]

/-- The last of each, by halves. -/
def kyd (cf : α → α → Int) : Nat → List α → List α
  | 0, l => l
  | n + 1, l => if l.length < 2 then l else mrgK cf (kyd cf n (l.take (l.length / 2))) (kyd cf n (l.drop (l.length / 2)))

theorem kyd_step (cf : α → α → Int) (n : Nat) (l : List α) (h : ¬ l.length < 2) : kyd cf (n + 1) l = mrgK cf (kyd cf n (l.take (l.length / 2))) (kyd cf n (l.drop (l.length / 2))) := by
  show (if _ then _ else _) = _
  rw [if_neg h]

theorem kyd_len (cf : α → α → Int) : ∀ (n : Nat) (l : List α), (kyd cf n l).length ≤ l.length := by
  intro n
  induction n with
  | zero => intro l; exact Nat.le_refl _
  | succ n ih =>
    intro l
    by_cases h2 : l.length < 2
    · show (if _ then _ else _ : List α).length ≤ _
      rw [if_pos h2]; exact Nat.le_refl _
    · rw [kyd_step cf n l h2]
      have h1 := mrgK_len cf _ (kyd cf n (l.take (l.length / 2))) (kyd cf n (l.drop (l.length / 2))) (Nat.le_refl _)
      have h3 := ih (l.take (l.length / 2))
      have h4 := ih (l.drop (l.length / 2))
      rw [List.length_take] at h3
      rw [List.length_drop] at h4
      omega

theorem kyd_mem (cf : α → α → Int) : ∀ (n : Nat) (l : List α) (z : α), z ∈ kyd cf n l → z ∈ l := by
  intro n
  induction n with
  | zero => intro l z hz; exact hz
  | succ n ih =>
    intro l z hz
    by_cases h2 : l.length < 2
    · have e : kyd cf (n + 1) l = l := by show (if _ then _ else _) = _; rw [if_pos h2]
      rw [e] at hz; exact hz
    · rw [kyd_step cf n l h2] at hz
      rcases mrgK_mem cf _ _ _ (Nat.le_refl _) z hz with hz | hz
      · exact List.mem_of_mem_take (ih _ z hz)
      · exact List.mem_of_mem_drop (ih _ z hz)

theorem short_rises (cf : α → α → Int) (l : List α) (h : l.length < 2) : RisesK cf l := by
  match l, h with
  | [], _ => exact List.Pairwise.nil
  | [x], _ => exact List.pairwise_singleton _ _
  | _ :: _ :: _, h => simp at h; omega

theorem kyd_spec {cf : α → α → Int} (h : Cmp3 cf) : ∀ (n : Nat) (l : List α), l.length ≤ n → RisesK cf (kyd cf n l) ∧ ∀ v, (kyd cf n l).filter (sim (ltI cf) v) = lst (l.filter (sim (ltI cf) v)) := by
  intro n
  induction n with
  | zero =>
    intro l hl
    have : l = [] := List.eq_nil_of_length_eq_zero (by omega)
    subst this
    exact ⟨List.Pairwise.nil, fun v => rfl⟩
  | succ n ih =>
    intro l hl
    by_cases h2 : l.length < 2
    · have e : kyd cf (n + 1) l = l := by show (if _ then _ else _) = _; rw [if_pos h2]
      have hr := short_rises cf l h2
      rw [e]
      exact ⟨hr, fun v => (hr.one h v).symm⟩
    · rw [kyd_step cf n l h2]
      have e1 : (l.take (l.length / 2)).length ≤ n := by rw [List.length_take]; omega
      have e2 : (l.drop (l.length / 2)).length ≤ n := by rw [List.length_drop]; omega
      obtain ⟨a1, a2⟩ := ih _ e1
      obtain ⟨b1, b2⟩ := ih _ e2
      obtain ⟨c1, c2⟩ := mrgK_spec h _ _ _ (Nat.le_refl _) a1 b1
      refine ⟨c1, fun v => ?_⟩
      have e3 : l.filter (sim (ltI cf) v) = (l.take (l.length / 2)).filter (sim (ltI cf) v) ++ (l.drop (l.length / 2)).filter (sim (ltI cf) v) := by
        rw [← List.filter_append, List.take_append_drop]
      rw [c2 v, a2 v, b2 v, e3, lst_app]
      by_cases hb : (l.drop (l.length / 2)).filter (sim (ltI cf) v) = []
      · rw [if_pos hb, if_pos ((lst_eq_nil _).2 hb)]
      · rw [if_neg hb, if_neg (fun q => hb ((lst_eq_nil _).1 q))]

/-- Both ways are one. -/
theorem kyd_last {cf : α → α → Int} (h : Cmp3 cf) (n : Nat) (l m : List α) (hn : l.length ≤ n) (hu : Up (ltI cf) m) (hal : Alike (ltI cf) m l) : kyd cf n l = lastE cf m := by
  obtain ⟨a1, a2⟩ := kyd_spec h n l hn
  obtain ⟨b1, b2⟩ := lastE_spec h m hu
  refine alike_one h.weak _ _ (a1.up h) (b1.up h) (fun v => ?_)
  rw [a2 v, b2 v, hal v]

/-- What rises stays. -/
theorem kyd_rises {cf : α → α → Int} (h : Cmp3 cf) (n : Nat) (l : List α) (hn : l.length ≤ n) (hl : RisesK cf l) : kyd cf n l = l := by
  obtain ⟨a1, a2⟩ := kyd_spec h n l hn
  exact alike_one h.weak _ _ (a1.up h) (hl.up h) (fun v => by rw [a2 v, hl.one h v])

end Go.Proofs.Ytgihglodekoddaa

