/-
  A vector's nodes in memory: what they hold, how high they are, and that none but those at the right edge is short.
-/
import Derived.Test.YtekoaiehhjgfiaaGreatUniq
import Derived.Lib.AppendZeros
namespace Go.Proofs.YtekoaiehhjgfiaaGreat
open Go.RowKit

theorem add_addr5 (b o j : Nat) : (⟨b, o, none⟩ : Addr).add j = ⟨b, o + j, none⟩ := by
  unfold Addr.add
  by_cases hk : j = 0
  · subst hk; rfl
  · rw [if_neg hk]

theorem own_growM {w wr w2 : World} {M : Nat} {ty sz : Nat} {v : Value} {n : Nat} {xs : List Value} (hb : Below M w wr) (hM : M ≤ wr.heap.size) (hown : wr.ownsRow M ty sz v n xs) (hgrow : wr.grownBy w2 v.ownBlock) : Below M w w2 :=
  hb.grown hgrow hM (by
    intro k hk
    rcases hown.2 with ⟨hv, _⟩ | ⟨g, cap', cur, hv, hbs, _⟩
    · rw [hv] at hk; cases hk
    · rw [hv] at hk
      simp only [Value.ownBlock, Option.some.injEq] at hk
      omega)

/-- Behind a row of one's own whatever row, be it nil. -/
theorem wpList_append_row {w : World} {ops : Array Oper} {rest : List Oper} {o : Oper} {a : Act} {Q : Exit → Act → World → Prop} (hgd : o.guard = none) (s x : Operand)
    (ho : o.op = .call { callee := .builtin .append, args := #[s, x], argTypes := #[22, 22] })
    (base : Nat) (i : TypeInfo) (hi : Tryz.prog.info? 34 = some i) (hz : i.zero = some (.agg #[.int .i64 0, .int .i64 0, .string ⟨#[]⟩, .slice none 0 0])) (hsize : i.size = 4) (hby : i.bytes = 56)
    (v : Value) (n : Nat) (xs : List Value) (hs : a.eval s = v) (hown : w.ownsRow base 34 4 v n xs)
    (aa : Option Addr) (m c : Nat) (news : List Value) (hx : a.eval x = .slice aa m c) (hnone : aa = none → m = 0) (hl : news.length = m * 4) (hnews : ∀ ad, aa = some ad → ∀ j u, news[j]? = some u → w.cell? (ad.add j) = some u) (h1 : ∀ u ∈ news, u.oneCell' = true)
    (h63 : n + m ≤ maxLen) (hbytes : (n + m) * 56 ≤ 140737488355328) (hbase : base ≤ w.heap.size)
    (h : ∀ v' w', w'.ownsRow base 34 4 v' (n + m) (xs ++ news) → w.grownBy w' v.ownBlock → wpList Tryz.prog ops Q rest (a.put o.dst v') w') : wpList Tryz.prog ops Q (o :: rest) a w := by
  cases aa with
  | none =>
    have hm := hnone rfl
    subst hm
    have hn : news = [] := List.eq_nil_of_length_eq_zero (by omega)
    subst hn
    have hr : ∀ ty, (Builtin.append_ #[22, 22] ty #[v, .slice none 0 c]).run Tryz.prog w = .ok v w := fun ty => by
      rcases hown.2 with ⟨rfl, rfl⟩ | ⟨g, cap, cur, rfl, _, _, hnc, _⟩
      · simp [Builtin.append_, run_underlying Tryz.underlying22, sizeOf, typeInfo, hi, Builtin.lenOf, Builtin.firstCells]
      · simp [Builtin.append_, run_underlying Tryz.underlying22, sizeOf, typeInfo, hi, Builtin.lenOf, Builtin.firstCells, hnc, storeCells]
    refine Lib.wpList_append_run w hgd s x 22 22 ho v (.slice none 0 c) hs hx v w (hr _) (h v w (by simpa using hown) ⟨rfl, rfl, rfl, Nat.le_refl _, fun _ _ _ => rfl⟩)
  | some ad =>
    exact wpList_append_own w hgd s x 22 ho base 34 i _ 4 56 Tryz.underlying22 hi hz hsize hby rfl (by decide) v n xs hs hown ad m c news hx hl (hnews ad rfl) h1 h63 hbytes hbase (fun v' w' k1 k2 _ => h v' w' k1 k2)

theorem own_lies {w : World} {base d : Nat} {v : Value} {n : Nat} {ps : List (VT × Value)} (hn : n = ps.length) (h : w.ownsRow base 34 4 v n (ps.flatMap encP)) (hs : ∀ p ∈ ps, Sound d w p) (hl : ps.length ≤ 9223372036854775807) : Lies (d + 1) w (ps.map (·.1)) v := by
  subst hn
  by_cases hne : ps = []
  · subst hne
    rcases h.2 with ⟨rfl, _⟩ | ⟨g, cap, cur, rfl, _⟩
    · exact ⟨none, 0, rfl, by simp, fun h => absurd rfl h⟩
    · exact ⟨_, cap, rfl, by simp, fun h => absurd rfl h⟩
  · obtain ⟨g, cap, rfl, _, hcap, _, hrow, _⟩ := own_row h hne
    exact lies_of_row hrow hs hl hcap

theorem Lies.taken {d : Nat} {w : World} {l : List VT} {b o c : Nat} (h : Lies (d + 1) w l (.slice (some ⟨b, o, none⟩) l.length c)) (m : Nat) (hm : m ≤ l.length) : Lies (d + 1) w (l.take m) (.slice (some ⟨b, o, none⟩) m c) := by
  obtain ⟨a', c', hv, hb, hr⟩ := h
  injection hv with h1 _ h3
  subst h1 h3
  have e : (l.take m).length = m := by rw [List.length_take, Nat.min_eq_left hm]
  refine ⟨_, c, by rw [e], by rw [e]; omega, fun hne => ?_⟩
  obtain ⟨b', o', ha, hall⟩ := hr (fun e0 => hne (by rw [e0]; simp))
  refine ⟨b', o', ha, fun i hi => ?_⟩
  have := hall i (by omega)
  simpa [List.getElem_take] using this

theorem Lies.dropped {d : Nat} {w : World} {l : List VT} {b o c : Nat} (h : Lies (d + 1) w l (.slice (some ⟨b, o, none⟩) l.length c)) (m : Nat) : Lies (d + 1) w (l.drop m) (.slice (some ⟨b, o + m * 4, none⟩) (l.length - m) (c - m)) := by
  obtain ⟨a', c', hv, hb, hr⟩ := h
  injection hv with h1 _ h3
  subst h1 h3
  refine ⟨_, c - m, by rw [List.length_drop], by rw [List.length_drop]; omega, fun hne => ?_⟩
  obtain ⟨b', o', ha, hall⟩ := hr (fun e0 => hne (by rw [e0]; simp))
  injection ha with ha
  injection ha with hb1 ho1
  subst hb1 ho1
  refine ⟨b, o + m * 4, rfl, fun i hi => ?_⟩
  have := hall (m + i) (by simp at hi; omega)
  simp only [List.getElem_drop]
  rw [show o + m * 4 + i * 4 = o + (m + i) * 4 by omega]
  exact this

/-- The rest of a row (its head: RowAt.take, in Uniq). -/
theorem RowAt.drop {w : World} {b o : Nat} {ps : List (VT × Value)} (h : RowAt w b o ps) (m : Nat) : RowAt w b (o + m * 4) (ps.drop m) := by
  intro i hi
  have h1 : m + i < ps.length := by simp at hi; omega
  have := h (m + i) h1
  simp only [List.getElem_drop]
  rw [show o + m * 4 + i * 4 = o + (m + i) * 4 by omega]
  exact this

/-- The slice v holds the values ps, in a block from base on. -/
def SlP (base d : Nat) (w : World) (ps : List (VT × Value)) (v : Value) : Prop :=
  ∃ a c, v = .slice a ps.length c ∧ ps.length ≤ c ∧ ps.length ≤ 9223372036854775807 ∧ (ps ≠ [] → ∃ b o, a = some ⟨b, o, none⟩ ∧ base ≤ b ∧ RowAt w b o ps) ∧ ∀ p ∈ ps, Sound d w p

theorem SlP.keeps {base d : Nat} {w w' : World} {ps : List (VT × Value)} {v : Value} (h : SlP base d w ps v) (hb : Below w.heap.size w w') : SlP base d w' ps v := by
  obtain ⟨a, c, hv, h1, h2, h3, h4⟩ := h
  refine ⟨a, c, hv, h1, h2, fun hne => ?_, fun p hp => (h4 p hp).keeps hb⟩
  obtain ⟨b, o, ha, hbb, hr⟩ := h3 hne
  exact ⟨b, o, ha, hbb, hr.keeps hb⟩

theorem SlP.mono {base base' d : Nat} {w : World} {ps : List (VT × Value)} {v : Value} (h : SlP base d w ps v) (hb : base' ≤ base) : SlP base' d w ps v := by
  obtain ⟨a, c, hv, h1, h2, h3, h4⟩ := h
  refine ⟨a, c, hv, h1, h2, fun hne => ?_, h4⟩
  obtain ⟨b, o, ha, hbb, hr⟩ := h3 hne
  exact ⟨b, o, ha, by omega, hr⟩

theorem SlP.of_lies {d : Nat} {w : World} {l : List VT} {v : Value} (h : Lies (d + 1) w l v) : ∃ ps, ps.map (·.1) = l ∧ ps.length = l.length ∧ SlP 0 d w ps v := by
  obtain ⟨a0, c0, e0, hc0, _⟩ := id h
  obtain ⟨a, c, e, _, ps, hps, hsd, hrow⟩ := Lies.row h
  have hlen : ps.length = l.length := by rw [← hps]; simp
  have hcc : c0 = c := by rw [e] at e0; injection e0 with _ _ e3; exact e3.symm
  refine ⟨ps, hps, hlen, a, c, by rw [e, hlen], by rw [hlen, ← hcc]; exact hc0.1, by rw [hlen]; exact hc0.2, fun hne => ?_, hsd⟩
  obtain ⟨b, o, ha, hr⟩ := hrow (fun e => hne (List.eq_nil_of_length_eq_zero (by rw [hlen, e]; rfl)))
  exact ⟨b, o, ha, Nat.zero_le _, hr⟩

theorem SlP.lies {base d : Nat} {w : World} {ps : List (VT × Value)} {v : Value} (h : SlP base d w ps v) : Lies (d + 1) w (ps.map (·.1)) v := by
  obtain ⟨a, c, rfl, h1, h2, h3, h4⟩ := h
  by_cases hne : ps = []
  · subst hne
    exact ⟨a, c, rfl, by simp, fun h => absurd rfl h⟩
  · obtain ⟨b, o, rfl, _, hr⟩ := h3 hne
    exact lies_of_row hr h4 h2 h1

theorem SlP.of_own {w : World} {base d : Nat} {v : Value} {n : Nat} {ps : List (VT × Value)} (hn : n = ps.length) (h : w.ownsRow base 34 4 v n (ps.flatMap encP)) (hs : ∀ p ∈ ps, Sound d w p) (hl : ps.length ≤ 9223372036854775807) : SlP base d w ps v := by
  subst hn
  by_cases hne : ps = []
  · subst hne
    rcases h.2 with ⟨rfl, _⟩ | ⟨g, cap, cur, rfl, _⟩
    · exact ⟨none, 0, rfl, by simp, by simp, (fun h => absurd rfl h), hs⟩
    · exact ⟨_, cap, rfl, by simp, by simp, (fun h => absurd rfl h), hs⟩
  · obtain ⟨g, cap, rfl, hb, hcap, _, hrow, _⟩ := own_row h hne
    exact ⟨_, cap, rfl, hcap, hl, (fun _ => ⟨g, 0, rfl, hb, hrow⟩), hs⟩

theorem SlP.taken {base d : Nat} {w : World} {ps : List (VT × Value)} {b o c : Nat} (h : SlP base d w ps (.slice (some ⟨b, o, none⟩) ps.length c)) (m : Nat) (hm : m ≤ ps.length) : SlP base d w (ps.take m) (.slice (some ⟨b, o, none⟩) m c) := by
  obtain ⟨a, c', hv, h1, h2, h3, h4⟩ := h
  injection hv with q1 _ q3
  subst q1 q3
  have e : (ps.take m).length = m := by rw [List.length_take, Nat.min_eq_left hm]
  refine ⟨_, c, by rw [e], by rw [e]; omega, by rw [e]; omega, fun hne => ?_, fun p hp => h4 p (List.mem_of_mem_take hp)⟩
  obtain ⟨b', o', ha, hbb, hr⟩ := h3 (fun e0 => hne (by rw [e0]; simp))
  exact ⟨b', o', ha, hbb, RowAt.take hr m⟩

theorem SlP.dropped {base d : Nat} {w : World} {ps : List (VT × Value)} {b o c : Nat} (h : SlP base d w ps (.slice (some ⟨b, o, none⟩) ps.length c)) (m : Nat) : SlP base d w (ps.drop m) (.slice (some ⟨b, o + m * 4, none⟩) (ps.length - m) (c - m)) := by
  obtain ⟨a, c', hv, h1, h2, h3, h4⟩ := h
  injection hv with q1 _ q3
  subst q1 q3
  have e : (ps.drop m).length = ps.length - m := List.length_drop
  refine ⟨_, c - m, by rw [e], by rw [e]; omega, by rw [e]; omega, fun hne => ?_, fun p hp => h4 p (List.mem_of_mem_drop hp)⟩
  obtain ⟨b', o', ha, hbb, hr⟩ := h3 (fun e0 => hne (by rw [e0]; simp))
  injection ha with ha
  injection ha with hb1 ho1
  subst hb1 ho1
  exact ⟨b, o + m * 4, rfl, hbb, hr.drop m⟩

theorem SlP.slice {base d : Nat} {w : World} {ps : List (VT × Value)} {v : Value} (h : SlP base d w ps v) : ∃ a c, v = .slice a ps.length c ∧ ps.length ≤ c := by
  obtain ⟨a, c, hv, h1, _⟩ := h
  exact ⟨a, c, hv, h1⟩

/-- At a list that is not empty. -/
theorem SlP.some {base d : Nat} {w : World} {ps : List (VT × Value)} {v : Value} (h : SlP base d w ps v) (hne : ps ≠ []) : ∃ b o c, v = .slice (some ⟨b, o, none⟩) ps.length c ∧ ps.length ≤ c ∧ RowAt w b o ps ∧ ∀ p ∈ ps, Sound d w p := by
  obtain ⟨a, c, hv, h1, _, h3, h4⟩ := h
  obtain ⟨b, o, ha, _, hr⟩ := h3 hne
  exact ⟨b, o, c, by rw [hv, ha], h1, hr, h4⟩

end Go.Proofs.YtekoaiehhjgfiaaGreat

namespace Go.Proofs.YtekoaiehhjgfiaaGreat
open Go.RowKit

/-- A slice of elements of one cell each. -/
def SlV (w : World) (vs : List Value) (v : Value) : Prop :=
  ∃ a c, v = .slice a vs.length c ∧ vs.length ≤ c ∧ (vs ≠ [] → ∃ b o, a = some ⟨b, o, none⟩ ∧ ∀ (i : Nat) (h : i < vs.length), w.cell? ⟨b, o + i, none⟩ = some (vs[i]'h))

theorem SlV.keeps {w w' : World} {vs : List Value} {v : Value} (h : SlV w vs v) (hb : Below w.heap.size w w') : SlV w' vs v := by
  obtain ⟨a, c, hv, hc, hr⟩ := h
  refine ⟨a, c, hv, hc, fun hne => ?_⟩
  obtain ⟨b, o, ha, hcs⟩ := hr hne
  exact ⟨b, o, ha, fun i hi => cell_keeps hb (hcs i hi)⟩

theorem SlV.slice {w : World} {vs : List Value} {v : Value} (h : SlV w vs v) : ∃ a c, v = .slice a vs.length c ∧ vs.length ≤ c := by
  obtain ⟨a, c, hv, hc, _⟩ := h
  exact ⟨a, c, hv, hc⟩

theorem SlV.full {w : World} {vs : List Value} {v : Value} (h : SlV w vs v) (hne : vs ≠ []) : ∃ b o c, v = .slice (some ⟨b, o, none⟩) vs.length c ∧ vs.length ≤ c ∧ ∀ (i : Nat) (h : i < vs.length), w.cell? ⟨b, o + i, none⟩ = some (vs[i]'h) := by
  obtain ⟨a, c, hv, hc, hr⟩ := h
  obtain ⟨b, o, ha, hcs⟩ := hr hne
  exact ⟨b, o, c, by rw [hv, ha], hc, hcs⟩

theorem SlV.taken {w : World} {vs : List Value} {b o c : Nat} (h : SlV w vs (.slice (some ⟨b, o, none⟩) vs.length c)) (m c2 : Nat) (hm : m ≤ vs.length) (hc2 : m ≤ c2) : SlV w (vs.take m) (.slice (some ⟨b, o, none⟩) m c2) := by
  obtain ⟨a, c', hv, hc, hr⟩ := h
  injection hv with q1 _ q3
  subst q1 q3
  have e : (vs.take m).length = m := by rw [List.length_take, Nat.min_eq_left hm]
  refine ⟨_, c2, by rw [e], by rw [e]; exact hc2, fun hne => ?_⟩
  obtain ⟨b', o', ha, hcs⟩ := hr (fun e0 => hne (by rw [e0]; simp))
  refine ⟨b', o', ha, fun i hi => ?_⟩
  rw [List.getElem_take]
  exact hcs i (by rw [e] at hi; omega)

theorem SlV.dropped {w : World} {vs : List Value} {b o c : Nat} (h : SlV w vs (.slice (some ⟨b, o, none⟩) vs.length c)) (m c2 : Nat) (hc2 : vs.length - m ≤ c2) : SlV w (vs.drop m) (.slice (some ⟨b, o + m, none⟩) (vs.length - m) c2) := by
  obtain ⟨a, c', hv, hc, hr⟩ := h
  injection hv with q1 _ q3
  subst q1 q3
  have e : (vs.drop m).length = vs.length - m := List.length_drop
  refine ⟨_, c2, by rw [e], by rw [e]; exact hc2, fun hne => ?_⟩
  obtain ⟨b', o', ha, hcs⟩ := hr (fun e0 => hne (by rw [e0]; simp))
  injection ha with ha
  injection ha with hb1 ho1
  subst hb1 ho1
  refine ⟨b, o + m, rfl, fun i hi => ?_⟩
  rw [List.getElem_drop, Nat.add_assoc]
  exact hcs (m + i) (by rw [e] at hi; omega)

/-- The sums of lengths, from a number on. -/
def endsN : Nat → List Nat → List Nat
  | _, [] => []
  | s, n :: ns => (s + n) :: endsN (s + n) ns

theorem endsN_len : ∀ (ns : List Nat) (s : Nat), (endsN s ns).length = ns.length := by
  intro ns
  induction ns with
  | nil => intro s; rfl
  | cons n ns ih => intro s; show (endsN (s + n) ns).length + 1 = _; rw [ih]; rfl

theorem endsN_get : ∀ (ns : List Nat) (s i : Nat) (h : i < (endsN s ns).length), (endsN s ns)[i] = s + (ns.take (i + 1)).sum := by
  intro ns
  induction ns with
  | nil => intro s i h; cases h
  | cons n ns ih =>
    intro s i h
    cases i with
    | zero => show s + n = _; simp
    | succ i =>
      have h' : i < (endsN (s + n) ns).length := by
        have : (endsN s (n :: ns)).length = (endsN (s + n) ns).length + 1 := rfl
        omega
      show (endsN (s + n) ns)[i] = _
      rw [ih (s + n) i h']
      simp [List.take_succ_cons]
      omega

/-- A part: what a node holds, and the node. -/
abbrev Part : Type := List VT × Value

def ends (ps : List Part) : List Value := (endsN 0 (ps.map fun p => p.1.length)).map fun n : Nat => Value.int .i64 (n : Int)

theorem ends_len (ps : List Part) : (ends ps).length = ps.length := by unfold ends; rw [List.length_map, endsN_len, List.length_map]

theorem ends_get (ps : List Part) (i : Nat) (h : i < (ends ps).length) : (ends ps)[i] = .int .i64 (((ps.map fun p => p.1.length).take (i + 1)).sum : Nat) := by
  have h' : i < (endsN 0 (ps.map fun p => p.1.length)).length := by rw [ends_len] at h; rw [endsN_len, List.length_map]; exact h
  have e : (ends ps)[i] = .int .i64 ((endsN 0 (ps.map fun p => p.1.length))[i]'h' : Nat) := List.getElem_map ..
  rw [e, endsN_get, Nat.zero_add]

theorem flat_sum (ps : List Part) : (ps.flatMap (·.1)).length = (ps.map fun p => p.1.length).sum := by
  induction ps with
  | nil => rfl
  | cons p ps ih => rw [List.flatMap_cons, List.length_append, ih]; simp

/-- A node of height h + 1 that holds the items l; k: none of its nodes is short; else those at the right edge may be. -/
def ND (d : Nat) : Nat → Bool → World → List VT → Value → Prop
  | 0, k, w, l, v => ∃ b a c, v = .iface 152 (.pointer (some ⟨b, 0, none⟩)) ∧ w.cell? ⟨b, 0, none⟩ = some (.slice a l.length c) ∧ Lies (d + 1) w l (.slice a l.length c) ∧ 1 ≤ l.length ∧ l.length ≤ 32 ∧ (k = true → 16 ≤ l.length)
  | h + 1, k, w, l, v => ∃ b sl el, ∃ ps : List Part, v = .iface 158 (.pointer (some ⟨b, 0, none⟩)) ∧ w.cell? ⟨b, 0, none⟩ = some sl ∧ w.cell? ⟨b, 1, none⟩ = some el ∧ SlV w (ps.map (·.2)) sl ∧ SlV w (ends ps) el ∧ 1 ≤ ps.length ∧ ps.length ≤ 32 ∧ (k = true → 16 ≤ ps.length) ∧ l = ps.flatMap (·.1) ∧
      ∀ (i : Nat) (hi : i < ps.length), ND d h (k || decide (i + 1 < ps.length)) w (ps[i]'hi).1 (ps[i]'hi).2

theorem ND.keeps {d : Nat} {w w' : World} (hb : Below w.heap.size w w') : ∀ (h : Nat) (k : Bool) (l : List VT) (v : Value), ND d h k w l v → ND d h k w' l v := by
  intro h
  induction h with
  | zero =>
    intro k l v hn
    obtain ⟨b, a, c, hv, hc, hl, h1, h2, h3⟩ := hn
    exact ⟨b, a, c, hv, cell_keeps hb hc, Lies.keeps hb _ _ _ hl, h1, h2, h3⟩
  | succ h ih =>
    intro k l v hn
    obtain ⟨b, sl, el, ps, hv, hc0, hc1, hs, he, h1, h2, h3, hl, hp⟩ := hn
    exact ⟨b, sl, el, ps, hv, cell_keeps hb hc0, cell_keeps hb hc1, hs.keeps hb, he.keeps hb, h1, h2, h3, hl, fun i hi => ih _ _ _ (hp i hi)⟩

/-- Not short is more. -/
theorem ND.edge {d : Nat} {w : World} : ∀ (h : Nat) (k : Bool) (l : List VT) (v : Value), ND d h true w l v → ND d h k w l v := by
  intro h
  induction h with
  | zero =>
    intro k l v hn
    obtain ⟨b, a, c, hv, hc, hl, h1, h2, h3⟩ := hn
    exact ⟨b, a, c, hv, hc, hl, h1, h2, fun _ => h3 rfl⟩
  | succ h ih =>
    intro k l v hn
    obtain ⟨b, sl, el, ps, hv, hc0, hc1, hs, he, h1, h2, h3, hl, hp⟩ := hn
    exact ⟨b, sl, el, ps, hv, hc0, hc1, hs, he, h1, h2, fun _ => h3 rfl, hl, fun i hi => ih _ _ _ (by simpa using hp i hi)⟩

theorem sum_mem_le (ns : List Nat) (n : Nat) (h : n ∈ ns) : n ≤ ns.sum := by
  induction ns with
  | nil => cases h
  | cons m ns ih =>
    rcases List.mem_cons.1 h with rfl | h
    · simp
    · have := ih h; simp; omega

/-- How many there are at least: 16 to the power of its height, if none is short. -/
theorem ND.least {d : Nat} {w : World} : ∀ (h : Nat) (l : List VT) (v : Value), ND d h true w l v → 16 ^ (h + 1) ≤ l.length := by
  intro h
  induction h with
  | zero =>
    intro l v hn
    obtain ⟨b, a, c, hv, hc, hl, h1, h2, h3⟩ := hn
    simpa using h3 rfl
  | succ h ih =>
    intro l v hn
    obtain ⟨b, sl, el, ps, hv, hc0, hc1, hs, he, h1, h2, h3, hl, hp⟩ := hn
    have hall : ∀ p ∈ ps, 16 ^ (h + 1) ≤ p.1.length := fun p hpm => by
      obtain ⟨i, hi, rfl⟩ := List.getElem_of_mem hpm
      exact ih _ _ (by simpa using hp i hi)
    have hsum : ∀ qs : List Part, (∀ p ∈ qs, 16 ^ (h + 1) ≤ p.1.length) → qs.length * 16 ^ (h + 1) ≤ (qs.map fun p => p.1.length).sum := by
      intro qs
      induction qs with
      | nil => intro _; simp
      | cons q qs ihq =>
        intro hq
        have k1 := ihq (fun p hp' => hq p (List.mem_cons_of_mem _ hp'))
        have k2 := hq q List.mem_cons_self
        simp only [List.length_cons, List.map_cons, List.sum_cons, Nat.succ_mul]
        omega
    have := hsum ps hall
    rw [hl, flat_sum]
    have h16 : 16 * 16 ^ (h + 1) ≤ ps.length * 16 ^ (h + 1) := Nat.mul_le_mul_right _ (h3 rfl)
    calc 16 ^ (h + 1 + 1) = 16 * 16 ^ (h + 1) := by rw [Nat.pow_succ, Nat.mul_comm]
      _ ≤ _ := Nat.le_trans h16 this

theorem ND.pos {d : Nat} {w : World} : ∀ (h : Nat) (k : Bool) (l : List VT) (v : Value), ND d h k w l v → 1 ≤ l.length := by
  intro h
  induction h with
  | zero =>
    intro k l v hn
    obtain ⟨b, a, c, hv, hc, hl, h1, h2, h3⟩ := hn
    exact h1
  | succ h ih =>
    intro k l v hn
    obtain ⟨b, sl, el, ps, hv, hc0, hc1, hs, he, h1, h2, h3, hl, hp⟩ := hn
    have := ih _ _ _ (hp 0 (by omega))
    rw [hl, flat_sum]
    have := sum_mem_le (ps.map fun p => p.1.length) ps[0].1.length (List.mem_map.2 ⟨ps[0], List.getElem_mem _, rfl⟩)
    omega

end Go.Proofs.YtekoaiehhjgfiaaGreat

