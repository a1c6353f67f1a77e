/-
  The contract of above, with the blocks in which its answer lies.
-/
import Derived.Test.YtekoaiehhjgfiaaWith2
import Derived.Test.YtekoaiehhjgfiaaLiesX
namespace Go.Proofs.Ytekoaiehhjgfiaa
open Go.RowKit

/-- A slice of one-cell elements, in a block that X holds of. -/
def SlVX (X : Nat → Prop) (w : World) (vs : List Value) (v : Value) : Prop :=
  ∃ a c, v = .slice a vs.length c ∧ vs.length ≤ c ∧ (vs ≠ [] → ∃ b o, a = some ⟨b, o, none⟩ ∧ X b ∧ ∀ (i : Nat) (h : i < vs.length), w.cell? ⟨b, o + i, none⟩ = some (vs[i]'h))

theorem SlVX.slv {X : Nat → Prop} {w : World} {vs : List Value} {v : Value} (h : SlVX X w vs v) : SlV w vs v := by
  obtain ⟨a, c, hv, hc, hr⟩ := h
  refine ⟨a, c, hv, hc, fun hne => ?_⟩
  obtain ⟨b, o, ha, _, hcs⟩ := hr hne
  exact ⟨b, o, ha, hcs⟩

theorem SlV.toX {w : World} {vs : List Value} {v : Value} (h : SlV w vs v) : SlVX (fun b => b < w.heap.size) w vs v := by
  obtain ⟨a, c, hv, hc, hr⟩ := h
  refine ⟨a, c, hv, hc, fun hne => ?_⟩
  obtain ⟨b, o, ha, hcs⟩ := hr hne
  have h0 : 0 < vs.length := List.length_pos_iff.2 hne
  exact ⟨b, o, ha, cell_lt (hcs 0 h0), hcs⟩

theorem SlVX.stays {X Y : Nat → Prop} {w w' : World} (hY : ∀ b, X b → Y b) (hk : ∀ a v, X a.block → w.cell? a = some v → w'.cell? a = some v) {vs : List Value} {v : Value} (h : SlVX X w vs v) : SlVX Y w' vs v := by
  obtain ⟨a, c, hv, hc, hr⟩ := h
  refine ⟨a, c, hv, hc, fun hne => ?_⟩
  obtain ⟨b, o, ha, hx, hcs⟩ := hr hne
  exact ⟨b, o, ha, hY b hx, fun i hi => hk _ _ hx (hcs i hi)⟩

/-- As ND, in blocks that X holds of. -/
def NDX (X : Nat → Prop) (d : Nat) : Nat → Bool → World → List VT → Value → Prop
  | 0, k, w, l, v => ∃ b a c, v = .iface 78 (.pointer (some ⟨b, 0, none⟩)) ∧ X b ∧ w.cell? ⟨b, 0, none⟩ = some (.slice a l.length c) ∧ LiesX X (d + 1) w l (.slice a l.length c) ∧ 1 ≤ l.length ∧ l.length ≤ 32 ∧ (k = true → 16 ≤ l.length)
  | h + 1, k, w, l, v => ∃ b sl el, ∃ ps : List Part, v = .iface 84 (.pointer (some ⟨b, 0, none⟩)) ∧ X b ∧ w.cell? ⟨b, 0, none⟩ = some sl ∧ w.cell? ⟨b, 1, none⟩ = some el ∧ SlVX X w (ps.map (·.2)) sl ∧ SlVX X w (ends ps) el ∧ 1 ≤ ps.length ∧ ps.length ≤ 32 ∧ (k = true → 16 ≤ ps.length) ∧ l = ps.flatMap (·.1) ∧
      ∀ (i : Nat) (hi : i < ps.length), NDX X d h (k || decide (i + 1 < ps.length)) w (ps[i]'hi).1 (ps[i]'hi).2

theorem NDX.nd {X : Nat → Prop} {d : Nat} {w : World} : ∀ (h : Nat) (k : Bool) (l : List VT) (v : Value), NDX X d h k w l v → ND d h k w l v := by
  intro h
  induction h with
  | zero =>
    intro k l v hn
    obtain ⟨b, a, c, hv, _, hc, hl, h1, h2, h3⟩ := hn
    exact ⟨b, a, c, hv, hc, hl.lies, h1, h2, h3⟩
  | succ h ih =>
    intro k l v hn
    obtain ⟨b, sl, el, ps, hv, _, hc0, hc1, hs, he, h1, h2, h3, hl, hp⟩ := hn
    exact ⟨b, sl, el, ps, hv, hc0, hc1, hs.slv, he.slv, h1, h2, h3, hl, fun i hi => ih _ _ _ (hp i hi)⟩

theorem ND.toX {d : Nat} {w : World} : ∀ (h : Nat) (k : Bool) (l : List VT) (v : Value), ND d h k w l v → NDX (fun b => b < w.heap.size) d h k w l v := by
  intro h
  induction h with
  | zero =>
    intro k l v hn
    obtain ⟨b, a, c, hv, hc, hl, h1, h2, h3⟩ := hn
    exact ⟨b, a, c, hv, cell_lt hc, hc, LiesX.of_lies hl, h1, h2, h3⟩
  | succ h ih =>
    intro k l v hn
    obtain ⟨b, sl, el, ps, hv, hc0, hc1, hs, he, h1, h2, h3, hl, hp⟩ := hn
    exact ⟨b, sl, el, ps, hv, cell_lt hc0, hc0, hc1, hs.toX, he.toX, h1, h2, h3, hl, fun i hi => ih _ _ _ (hp i hi)⟩

theorem NDX.stays {X Y : Nat → Prop} {d : Nat} {w w' : World} (hY : ∀ b, X b → Y b) (hk : ∀ a v, X a.block → w.cell? a = some v → w'.cell? a = some v) : ∀ (h : Nat) (k : Bool) (l : List VT) (v : Value), NDX X d h k w l v → NDX Y d h k w' l v := by
  intro h
  induction h with
  | zero =>
    intro k l v hn
    obtain ⟨b, a, c, hv, hx, hc, hl, h1, h2, h3⟩ := hn
    exact ⟨b, a, c, hv, hY b hx, hk _ _ hx hc, LiesX.stays hY hk hl, h1, h2, h3⟩
  | succ h ih =>
    intro k l v hn
    obtain ⟨b, sl, el, ps, hv, hx, hc0, hc1, hs, he, h1, h2, h3, hl, hp⟩ := hn
    exact ⟨b, sl, el, ps, hv, hY b hx, hk _ _ hx hc0, hk _ _ hx hc1, hs.stays hY hk, he.stays hY hk, h1, h2, h3, hl, fun i hi => ih _ _ _ (hp i hi)⟩

theorem NDX.keeps {X : Nat → Prop} {d : Nat} {w w' : World} (hb : Below w.heap.size w w') (h : Nat) (k : Bool) (l : List VT) (v : Value) (hn : NDX X d h k w l v) : NDX X d h k w' l v :=
  hn.stays (fun _ h => h) (fun _ _ _ hv => cell_keeps hb hv) _ _ _ _

theorem NDX.mono {X Y : Nat → Prop} (hY : ∀ b, X b → Y b) {d : Nat} {w : World} (h : Nat) (k : Bool) (l : List VT) (v : Value) (hn : NDX X d h k w l v) : NDX Y d h k w l v :=
  hn.stays hY (fun _ _ _ hv => hv) _ _ _ _

/-- Nodes of one height in a row: none is short but perhaps the last one's right edge. -/
def Row (d h : Nat) (k : Bool) (w : World) (ps : List Part) : Prop := ∀ (i : Nat) (hi : i < ps.length), ND d h (k || decide (i + 1 < ps.length)) w (ps[i]'hi).1 (ps[i]'hi).2

theorem Row.keeps {d h : Nat} {k : Bool} {w w' : World} {ps : List Part} (hr : Row d h k w ps) (hb : Below w.heap.size w w') : Row d h k w' ps := fun i hi => (hr i hi).keeps hb _ _ _ _

end Go.Proofs.Ytekoaiehhjgfiaa

namespace Go.Proofs.Ytekoaiehhjgfiaa
open Go.RowKit

set_option maxRecDepth 100000 in
set_option maxHeartbeats 8000000 in
theorem above_x (X : Nat → Prop) (d h : Nat) (k : Bool) (ps : List Part) (u : Value) (w : World) (hu : SlVX X w (ps.map (·.2)) u) (h1 : 1 ≤ ps.length) (h2 : ps.length ≤ 32) (h3 : k = true → 16 ≤ ps.length) (hp : ∀ (i : Nat) (hi : i < ps.length), NDX X d h (k || decide (i + 1 < ps.length)) w (ps[i]'hi).1 (ps[i]'hi).2) (hsum : (ps.flatMap (·.1)).length ≤ 1099511627776) :
    Calls Try.prog 38 #[u] w fun e w' => ∃ b, e = .returned (.pointer (some ⟨b, 0, none⟩)) ∧ NDX (fun b => X b ∨ w.heap.size ≤ b) d (h + 1) k w' (ps.flatMap (·.1)) (.iface 84 (.pointer (some ⟨b, 0, none⟩))) ∧ Below w.heap.size w w' := by
  have Hu : Hid (SlVX X w (ps.map (·.2)) u) := hu
  have Hp : Hid (∀ (i : Nat) (hi : i < ps.length), NDX X d h (k || decide (i + 1 < ps.length)) w (ps[i]'hi).1 (ps[i]'hi).2) := hp
  have H3 : Hid (k = true → 16 ≤ ps.length) := h3
  obtain ⟨b0, o0, c0, hv, hc0, hcs⟩ := hu.slv.full (fun e => by have := congrArg List.length e; rw [List.length_map, List.length_nil] at this; omega)
  rw [List.length_map] at hv hc0
  subst hv
  have Hcs : Hid (∀ (i : Nat) (hi : i < ps.length), w.cell? ⟨b0, o0 + i, none⟩ = some (ps[i]'hi).2) := fun i hi => by
    have := hcs i (by rw [List.length_map]; exact hi)
    rwa [List.getElem_map] at this
  have Hsz : Hid (∀ j, ((ps.map fun p => p.1.length).take j).sum ≤ 1099511627776) := fun j => by
    have e : (ps.map fun p => p.1.length).sum = ((ps.map fun p => p.1.length).take j).sum + ((ps.map fun p => p.1.length).drop j).sum := by rw [← List.sum_append, List.take_append_drop]
    rw [flat_sum] at hsum
    omega
  obtain ⟨i0, hi, hz0, hz1, hz2⟩ := infoI
  obtain ⟨L, hL⟩ : ∃ L, L = ps.length := ⟨_, rfl⟩
  rw [← hL] at h1 h2 hc0 hu
  obtain ⟨M, hM⟩ : ∃ M, M = madeCells (Value.int .i64 0).cells (((L : Nat) : Int).toNat * i0.size) := ⟨_, rfl⟩
  have hMs : M.size = L := by rw [hM, size_madeCells, hz1]; simp
  have hmk : ∀ W : World, (Instr.makeSlice 101 (.int .i64 (L : Int)) (.int .i64 (L : Int))).run Try.prog W = .ok (.slice (some ⟨W.heap.size, 0, none⟩) L L) (W.alloc (.cells M 3)) := fun W => by
    have h := run_make (P := Try.prog) W 101 3 i0 _ Try.underlying101 hi hz0 .i64 .i64 (L : Int) (L : Int) (by omega) (by omega) (by rw [hz2]; omega) (by omega)
    rw [← hM] at h
    simpa using h
  have HMs : Hid (M.size = L) := hMs
  have HL : Hid (L = ps.length) := hL
  have HF0 : Hid (FillV w.heap.size L (w.alloc (.cells M 3)) []) := by
    refine ⟨(fun i hi => by cases hi), fun k hk => ?_, by simp⟩
    have hk' : k < M.size := by rw [hMs]; exact hk
    simp [hk']
  have hln : 0 < L := by omega
  rw [← hL]
  clear hu hp h3 hsum hcs hM hi hz0 hz1 hz2 hMs hL
  go_enter Try.func38, Try.ntmps38
  go_wp2_with fail
  go_loopg [12, 4] L (fun z vi ve wr => ∃ (j E : Nat), vi = .int .i64 (j : Int) ∧ ve = .int .i64 (E : Int) ∧ j ≤ L ∧ z = L - j ∧ E ≤ 1099511627776 ∧ Hid (E = ((ps.map fun p => p.1.length).take j).sum) ∧ Hid (FillV w.heap.size L wr ((ends ps).take j)) ∧ Below w.heap.size w wr)
  case atStart => exact ⟨0, 0, rfl, rfl, by omega, by omega, by omega, rfl, HF0, (Below.refl _ _).alloc (Nat.le_refl _) _⟩
  case round =>
    obtain ⟨j, E, rfl, rfl, hj, hk, hE, HE, HF, hbw⟩ := hrel
    have Hk : Hid _ := hk
    clear hk hmk HF0
    have hG := HF.out.lt
    by_cases hlt : j < L
    · have hji : (j : Int) < (L : Nat) := by omega
      have hjp : j < ps.length := by have := HL.out; omega
      have pj := cell_keeps hbw (Hcs.out j hjp)
      have hbl : b0 < wr.heap.size := cell_lt pj
      have hsz := nd_size ((Hp.out j hjp).nd _ _ _ _)
      obtain ⟨E2, hE2⟩ : ∃ E2, E2 = E + ps[j].1.length := ⟨_, rfl⟩
      have HE2 : Hid (E2 = ((ps.map fun p => p.1.length).take (j + 1)).sum) := by
        show _ = _
        rw [hE2, HE.out, List.take_succ_eq_append_getElem (by rw [List.length_map]; exact hjp), List.sum_append, List.getElem_map]
        simp
      have hE2b : E2 ≤ 1099511627776 := by rw [HE2.out]; exact Hsz.out _
      have hwE : IntKind.i64.wrap ((E : Int) + ((ps[j].1.length : Nat) : Int)) = (E2 : Int) := by rw [IntKind.wrap_i64]; omega
      have Htk : Hid ((ends ps).take (j + 1) = (ends ps).take j ++ [.int .i64 (E2 : Int)]) := by show _ = _; rw [ends_take ps j hjp, ← HE2.out]
      have Hel : Hid (((ends ps).take j).length = j) := by show _ = _; rw [List.length_take, ends_len]; omega
      generalize ps[j].1.length = n at *
      generalize ps[j].2 = vj at *
      have HFp : Hid (∀ W, FillV w.heap.size L W ((ends ps).take j) → FillV w.heap.size L (W.setCell ⟨w.heap.size, j, none⟩ (.int .i64 (E2 : Int))) ((ends ps).take (j + 1))) := fun W hW => by
        have := hW.put (.int .i64 (E2 : Int)) (by rw [Hel.out]; exact hlt)
        rw [Hel.out] at this
        rw [Htk.out]; exact this
      clear hE2
      rcases hsz with ⟨bj, hvj, hcall⟩ | ⟨bj, hvj, hcall⟩
      · subst hvj
        have HCl : Hid _ := hcall wr hbw
        clear hcall
        go_wp2_with fail
        refine Calls.mono HCl.out ?_
        rintro e w1 ⟨rfl, hg⟩
        have hbw1 : Below w.heap.size w w1 := hbw.trans (hg.mono hbw.size)
        have HF1 : Hid (FillV w.heap.size L w1 ((ends ps).take j)) := HF.out.keeps hg
        obtain ⟨v0, s0⟩ := Option.isSome_iff_exists.1 (HF1.out.there j hlt).1
        have z0 := (HF1.out.there j hlt).2
        have HN : Hid _ := HFp.out w1 HF1.out
        have Hbl2 : Hid (Below w.heap.size w (w1.setCell ⟨w.heap.size, j, none⟩ (.int .i64 (E2 : Int)))) := hbw1.setCell (p := ⟨w.heap.size, j, none⟩) (Nat.le_refl _) _
        clear HCl hg
        go_wp2_with fail
        go_roundg (L - (j + 1))
        case measure => have := Hk.out; omega
        case rel => exact ⟨j + 1, E2, by go_num, rfl, by omega, rfl, hE2b, HE2, HN, Hbl2.out⟩
      · subst hvj
        have HCl : Hid _ := hcall wr hbw
        clear hcall
        go_wp2_with fail
        refine Calls.mono HCl.out ?_
        rintro e w1 ⟨rfl, hg⟩
        have hbw1 : Below w.heap.size w w1 := hbw.trans (hg.mono hbw.size)
        have HF1 : Hid (FillV w.heap.size L w1 ((ends ps).take j)) := HF.out.keeps hg
        obtain ⟨v0, s0⟩ := Option.isSome_iff_exists.1 (HF1.out.there j hlt).1
        have z0 := (HF1.out.there j hlt).2
        have HN : Hid _ := HFp.out w1 HF1.out
        have Hbl2 : Hid (Below w.heap.size w (w1.setCell ⟨w.heap.size, j, none⟩ (.int .i64 (E2 : Int)))) := hbw1.setCell (p := ⟨w.heap.size, j, none⟩) (Nat.le_refl _) _
        clear HCl hg
        go_wp2_with fail
        go_roundg (L - (j + 1))
        case measure => have := Hk.out; omega
        case rel => exact ⟨j + 1, E2, by go_num, rfl, by omega, rfl, hE2b, HE2, HN, Hbl2.out⟩
    · have hji : ¬ (j : Int) < (L : Nat) := by omega
      have hjL : j = L := by omega
      have hFe : FillV w.heap.size L wr (ends ps) := by
        have := HF.out
        rwa [List.take_of_length_le (by rw [ends_len]; have := HL.out; omega)] at this
      have hw1 : w.heap.size ≤ wr.heap.size := hbw.size
      have HE9 : Hid (NDX (fun b => X b ∨ w.heap.size ≤ b) d (h + 1) k (wr.alloc (.cells #[.slice (some ⟨b0, o0, none⟩) L c0, .slice (some ⟨w.heap.size, 0, none⟩) L L] 103)) (ps.flatMap (·.1)) (.iface 84 (.pointer (some ⟨wr.heap.size, 0, none⟩)))) := by
        have hba : Below wr.heap.size wr (wr.alloc (.cells #[.slice (some ⟨b0, o0, none⟩) L c0, .slice (some ⟨w.heap.size, 0, none⟩) L L] 103)) := ((Grew.refl wr).alloc _).below
        have hbb := hbw.trans (hba.mono hw1)
        have hl := HL.out
        refine ⟨wr.heap.size, .slice (some ⟨b0, o0, none⟩) L c0, .slice (some ⟨w.heap.size, 0, none⟩) L L, ps, rfl, .inr hw1, by simp, by simp, ?_, ?_, by omega, by omega, H3.out, rfl, fun i hi => ((Hp.out i hi).keeps hbb _ _ _ _).mono (fun _ h => .inl h) _ _ _ _⟩
        · have := Hu.out.stays (Y := fun b => X b ∨ w.heap.size ≤ b) (fun _ h => .inl h) (fun _ _ _ hv => cell_keeps hbb hv); rwa [← hl] at this
        · have h0 := hFe.keeps hba
          have : SlVX (fun b => X b ∨ w.heap.size ≤ b) (wr.alloc (.cells #[.slice (some ⟨b0, o0, none⟩) L c0, .slice (some ⟨w.heap.size, 0, none⟩) L L] 103)) (ends ps) (.slice (some ⟨w.heap.size, 0, none⟩) (ends ps).length L) := ⟨_, L, rfl, by rw [ends_len]; omega, fun _ => ⟨w.heap.size, 0, rfl, .inr (Nat.le_refl _), fun i hi => by rw [Nat.zero_add]; exact h0.row i hi⟩⟩
          rwa [ends_len, ← hl] at this
      have Hbl : Hid (Below w.heap.size w (wr.alloc (.cells #[.slice (some ⟨b0, o0, none⟩) L c0, .slice (some ⟨w.heap.size, 0, none⟩) L L] 103))) := hbw.alloc hw1 _
      clear HF
      go_wp2_with fail
      go_ret
      exact ⟨_, rfl, HE9.out, Hbl.out⟩

end Go.Proofs.Ytekoaiehhjgfiaa

