/-
  A sorted list sorted is itself, and two sorted lists put together are both together sorted: plain mathematics. And append of whatever row.
-/
import Derived.Test.YtlmnkjnplaebgaaGreatMerge6
import Derived.Test.YtlmnkjnplaebgaaGreatOrdered
import Derived.Test.YtlmnkjnplaebgaaGreatOwnRow
import Derived.Test.YtlmnkjnplaebgaaGreatUniq
import Derived.Lib.AppendZeros
namespace Go.Proofs.YtlmnkjnplaebgaaGreat
open Go.RowKit Go.Shelf

theorem ltO_as (q : Nat) (a b : VT) (h : ltO q a b = true) : ltO q b a = false := by
  unfold ltO at h ⊢
  have h1 := of_decide_eq_true h
  have h2 := ordV_turn q a b
  exact decide_eq_false (by omega)

theorem ltO_tr (q : Nat) (a b c : VT) (h1 : ltO q b a = false) (h2 : ltO q c b = false) : ltO q c a = false := by
  unfold ltO at h1 h2 ⊢
  have k1 := of_decide_eq_false h1
  have k2 := of_decide_eq_false h2
  have t1 := ordV_turn q a b
  have t2 := ordV_turn q b c
  have t3 := ordV_turn q a c
  have := (ordV_goes q a b c (by omega) (by omega)).1
  exact decide_eq_false (by omega)

theorem srtV_up (q : Nat) (l : List VT) : Up (ltO q) (srtV q l) := srt_up (ltO q) (ltO_as q) (ltO_tr q) _ l (by omega)

theorem up_upB {q : Nat} {l : List VT} (h : Up (ltO q) l) : upB (ordV q) l = true := by
  have hall : ∀ n, n < l.length → dnB (ordV q) l n = true := by
    intro n
    induction n with
    | zero => intro _; rfl
    | succ n ih =>
      intro hn
      rw [dnB_step _ _ _ hn]
      have hp := List.pairwise_iff_getElem.1 h n (n + 1) (by omega) hn (by omega)
      have := of_decide_eq_false (show decide (ordV q l[n + 1] (l[n]'(by omega)) < 0) = false from hp)
      rw [if_neg this]
      exact ih (by omega)
  unfold upB
  by_cases h0 : l.length = 0
  · rw [h0]; rfl
  · exact hall _ (by omega)

theorem up_one (q : Nat) : ∀ (l m : List VT), l.Perm m → (∀ x ∈ l, Good 16 x) → Up (ltO q) l → Up (ltO q) m → l = m := by
  intro l
  induction l with
  | nil => intro m hp _ _ _; exact hp.nil_eq
  | cons x l ih =>
    intro m hp hg hl hm
    cases m with
    | nil => exact absurd hp.length_eq (by simp)
    | cons y m =>
      obtain ⟨hl1, hl2⟩ := List.pairwise_cons.1 hl
      obtain ⟨hm1, hm2⟩ := List.pairwise_cons.1 hm
      have hx : x ∈ y :: m := hp.subset List.mem_cons_self
      have hy : y ∈ x :: l := hp.symm.subset List.mem_cons_self
      have hself : ∀ a, ltO q a a = false := fun a => decide_eq_false (by have := ordV_self q a; omega)
      have h1 : ltO q x y = false := by
        rcases List.mem_cons.1 hx with rfl | h
        · exact hself _
        · exact hm1 x h
      have h2 : ltO q y x = false := by
        rcases List.mem_cons.1 hy with rfl | h
        · exact hself _
        · exact hl1 y h
      have k1 := of_decide_eq_false (show decide (ordV q x y < 0) = false from h1)
      have k2 := of_decide_eq_false (show decide (ordV q y x < 0) = false from h2)
      have k3 := ordV_turn q x y
      have e : x = y := ordV_eq q (hg x List.mem_cons_self) (hg y hy) (by omega)
      subst e
      rw [ih m (List.Perm.cons_inv hp) (fun z hz => hg z (List.mem_cons_of_mem _ hz)) hl2 hm2]

theorem srtV_mem {q : Nat} {l : List VT} {x : VT} (h : x ∈ srtV q l) : x ∈ l := srt_mem _ _ _ _ h

theorem srtV_again (q : Nat) (l : List VT) (hg : ∀ x ∈ l, Good 16 x) : srtV q (srtV q l) = srtV q l :=
  up_one q _ _ (srt_perm _ _ _) (fun x hx => hg x (srtV_mem (srtV_mem hx))) (srtV_up q _) (srtV_up q l)

theorem mrg_srt (q : Nat) (l m : List VT) (h1 : ∀ x ∈ l, Good 16 x) (h2 : ∀ x ∈ m, Good 16 x) : mrg (ltO q) (srtV q l) (srtV q m) = srtV q (l ++ m) := by
  refine up_one q _ _ ?_ (fun x hx => ?_) (mrg_up (ltO q) (ltO_as q) (ltO_tr q) _ _ _ (Nat.le_refl _) (srtV_up q l) (srtV_up q m)) (srtV_up q _)
  · exact (mrg_perm _ _ _ _ (Nat.le_refl _)).trans (((srt_perm _ _ _).append (srt_perm _ _ _)).trans (srt_perm _ _ _).symm)
  · rcases mrg_mem _ _ _ _ (Nat.le_refl _) x hx with h | h
    · exact h1 x (srtV_mem h)
    · exact h2 x (srtV_mem h)

theorem srtV_len (q : Nat) (l : List VT) : (srtV q l).length = l.length := srt_len _ _ _

theorem listErr_right {l : List VT} (h1 : l.length ≤ 65536) (h2 : ∀ x ∈ l, Good 16 x) : listErr 16 l = 0 := by
  unfold listErr
  rw [if_neg (by omega), if_pos (List.all_eq_true.2 fun x hx => (h2 x hx).1)]

theorem good_of {d : Nat} {w : World} {l : List VT} {u : Value} (hu : Lies (d + 1) w l u) (h : listErr d l = 0) : ∀ x ∈ l, Good 16 x := by
  intro x hx
  obtain ⟨_, h2⟩ := listErr_zero h
  obtain ⟨a, c, rfl, _, ps, hps, hsd, _⟩ := Lies.row hu
  rw [← hps] at hx
  obtain ⟨p, hp, rfl⟩ := List.mem_map.1 hx
  have hr := h2 p.1 (by rw [← hps]; exact List.mem_map.2 ⟨p, hp, rfl⟩)
  have hc := canon (hsd p hp).1 hr
  exact ⟨hc.2, Dp.of_lies 16 w p.1 _ hc.1⟩

/-- Behind a row of one's own whatever row, be it nil. -/
theorem wpList_append_row {w : World} {ops : Array Oper} {rest : List Oper} {o : Oper} {a : Act} {Q : Exit → Act → World → Prop} (hgd : o.guard = none) (s x : Operand)
    (ho : o.op = .call { callee := .builtin .append, args := #[s, x], argTypes := #[22, 22] })
    (base : Nat) (i : TypeInfo) (hi : Tryz.prog.info? 24 = some i) (hz : i.zero = some (.agg #[.int .i64 0, .int .i64 0, .string ⟨#[]⟩, .slice none 0 0])) (hsize : i.size = 4) (hby : i.bytes = 56)
    (v : Value) (n : Nat) (xs : List Value) (hs : a.eval s = v) (hown : w.ownsRow base 24 4 v n xs)
    (aa : Option Addr) (m c : Nat) (news : List Value) (hx : a.eval x = .slice aa m c) (hnone : aa = none → m = 0) (hl : news.length = m * 4) (hnews : ∀ ad, aa = some ad → ∀ j u, news[j]? = some u → w.cell? (ad.add j) = some u) (h1 : ∀ u ∈ news, u.oneCell' = true)
    (h63 : n + m ≤ maxLen) (hbytes : (n + m) * 56 ≤ 140737488355328) (hbase : base ≤ w.heap.size)
    (h : ∀ v' w', w'.ownsRow base 24 4 v' (n + m) (xs ++ news) → w.grownBy w' v.ownBlock → wpList Tryz.prog ops Q rest (a.put o.dst v') w') : wpList Tryz.prog ops Q (o :: rest) a w := by
  cases aa with
  | none =>
    have hm := hnone rfl
    subst hm
    have hn : news = [] := List.eq_nil_of_length_eq_zero (by omega)
    subst hn
    have hr : ∀ ty, (Builtin.append_ #[22, 22] ty #[v, .slice none 0 c]).run Tryz.prog w = .ok v w := fun ty => by
      rcases hown.2 with ⟨rfl, rfl⟩ | ⟨g, cap, cur, rfl, _, _, hnc, _⟩
      · simp [Builtin.append_, run_underlying Tryz.underlying22, sizeOf, typeInfo, hi, Builtin.lenOf, Builtin.firstCells]
      · simp [Builtin.append_, run_underlying Tryz.underlying22, sizeOf, typeInfo, hi, Builtin.lenOf, Builtin.firstCells, hnc, storeCells]
    refine Lib.wpList_append_run w hgd s x 22 22 ho v (.slice none 0 c) hs hx v w (hr _) (h v w (by simpa using hown) ⟨rfl, rfl, rfl, Nat.le_refl _, fun _ _ _ => rfl⟩)
  | some ad =>
    exact wpList_append_own w hgd s x 22 ho base 24 i _ 4 56 Tryz.underlying22 hi hz hsize hby rfl (by decide) v n xs hs hown ad m c news hx hl (hnews ad rfl) h1 h63 hbytes hbase (fun v' w' k1 k2 _ => h v' w' k1 k2)

theorem own_lies {w : World} {base d : Nat} {v : Value} {n : Nat} {ps : List (VT × Value)} (hn : n = ps.length) (h : w.ownsRow base 24 4 v n (ps.flatMap encP)) (hs : ∀ p ∈ ps, Sound d w p) (hl : ps.length ≤ 9223372036854775807) : Lies (d + 1) w (ps.map (·.1)) v := by
  subst hn
  by_cases hne : ps = []
  · subst hne
    rcases h.2 with ⟨rfl, _⟩ | ⟨g, cap, cur, rfl, _⟩
    · exact ⟨none, 0, rfl, by simp, fun h => absurd rfl h⟩
    · exact ⟨_, cap, rfl, by simp, fun h => absurd rfl h⟩
  · obtain ⟨g, cap, rfl, _, hcap, _, hrow, _⟩ := own_row h hne
    exact lies_of_row hrow hs hl hcap

end Go.Proofs.YtlmnkjnplaebgaaGreat
