/-
  The contract of with.
-/
import Derived.Test.YtekoaiehhjgfiaaNode
import Derived.Deep.RegionHeld3
import Derived.BigQuiet
import Derived.Shelf.SlSortCmp.QuietGrown
import Derived.Test.YtekoaiehhjgfiaaUniq
import Derived.Shelf.RegionOpenPlain
namespace Go.Proofs.Ytekoaiehhjgfiaa
open Go.RowKit

set_option maxRecDepth 100000 in
theorem leafSize_any (b : Nat) (a : Option Addr) (n c : Nat) (w : World) (hc : w.cell? ⟨b, 0, none⟩ = some (.slice a n c)) :
    Calls Try.prog 109 #[.pointer (some ⟨b, 0, none⟩)] w fun e w' => e = .returned (.int .i64 n) ∧ w' = w := by
  go_enter Try.func109, Try.ntmps109
  go_wp2_with fail
  go_ret
  exact ⟨rfl, rfl⟩

set_option maxRecDepth 100000 in
theorem branchSize_any (b g o n c : Nat) (s : Int) (w : World) (hc : w.cell? ⟨b, 1, none⟩ = some (.slice (some ⟨g, o, none⟩) (n + 1) c)) (hg : w.cell? ⟨g, o + n, none⟩ = some (.int .i64 s)) (hn : n ≤ 32) :
    Calls Try.prog 110 #[.pointer (some ⟨b, 0, none⟩)] w fun e w' => e = .returned (.int .i64 s) ∧ Below w.heap.size w w' := by
  obtain ⟨N, hN⟩ : ∃ N, N = n + 1 := ⟨_, rfl⟩
  rw [← hN] at hc
  have hwn : IntKind.i64.wrap ((N : Int) - 1) = (n : Int) := by rw [IntKind.wrap_i64]; omega
  have hni : (n : Int) < (N : Nat) := by omega
  have hnn : n < N := by omega
  clear hN
  go_enter Try.func110, Try.ntmps110
  go_wp2_with fail
  go_region_held3 (fun w' => w'.cell? ⟨b, 1, none⟩ = some (.slice (some ⟨g, o, none⟩) N c) ∧ w'.cell? ⟨g, o + n, none⟩ = some (.int .i64 s)) (go_keep) (fail)
  go_wp2_with fail
  go_ret
  exact ⟨rfl, (Below.refl _ _).drew⟩

end Go.Proofs.Ytekoaiehhjgfiaa

namespace Go.Proofs.Ytekoaiehhjgfiaa
open Go.RowKit

/-- A row of one's own that is being filled: the elements so far, the rest of it there to be written. -/
structure FillV (G n : Nat) (wr : World) (vs : List Value) : Prop where
  row : ∀ (i : Nat) (h : i < vs.length), wr.cell? ⟨G, i, none⟩ = some (vs[i]'h)
  there : ∀ k, k < n → (wr.cell? ⟨G, k, none⟩).isSome = true ∧ wr.frozen? ⟨G, k, none⟩ = false
  lt : G < wr.heap.size

theorem FillV.keeps {G n : Nat} {w w' : World} {vs : List Value} (h : FillV G n w vs) (hb : Below w.heap.size w w') : FillV G n w' vs := by
  refine ⟨fun i hi => cell_keeps hb (h.row i hi), fun k hk => ?_, Nat.lt_of_lt_of_le h.lt hb.size⟩
  obtain ⟨h1, h2⟩ := h.there k hk
  rw [hb.cell (p := ⟨G, k, none⟩) h.lt, hb.frozen (p := ⟨G, k, none⟩) h.lt]
  exact ⟨h1, h2⟩

theorem FillV.put {G n : Nat} {w : World} {vs : List Value} (h : FillV G n w vs) (v : Value) (hn : vs.length < n) : FillV G n (w.setCell ⟨G, vs.length, none⟩ v) (vs ++ [v]) := by
  have hin : (w.setCell ⟨G, vs.length, none⟩ v).cell? ⟨G, vs.length, none⟩ = some v := by
    have := World.cell?_setCells_in G [v] vs.length w (fun j hj => by
      have : j = 0 := by simp at hj; omega
      subst this
      exact (h.there vs.length hn).1) 0 (by simp)
    simpa [World.setCells] using this
  have hout : ∀ k, k ≠ vs.length → (w.setCell ⟨G, vs.length, none⟩ v).cell? ⟨G, k, none⟩ = w.cell? ⟨G, k, none⟩ := fun k hk =>
    World.cell?_setCells_out G [v] vs.length w ⟨G, k, none⟩ (fun _ _ => by simp; omega)
  refine ⟨fun i hi => ?_, fun k hk => ?_, by simpa [World.setCell] using h.lt⟩
  · by_cases hl : i < vs.length
    · rw [List.getElem_append_left hl, hout i (by omega)]; exact h.row i hl
    · have hie : i = vs.length := by simp at hi; omega
      subst hie
      rw [List.getElem_append_right (Nat.le_refl _), hin]; simp
  · obtain ⟨h1, h2⟩ := h.there k hk
    refine ⟨?_, by simpa using h2⟩
    by_cases e : k = vs.length
    · subst e; rw [hin]; rfl
    · rw [hout k e]; exact h1

theorem FillV.slv {G n : Nat} {w : World} {vs : List Value} (h : FillV G n w vs) (c : Nat) (hc : vs.length ≤ c) : SlV w vs (.slice (some ⟨G, 0, none⟩) vs.length c) :=
  ⟨_, c, rfl, hc, fun _ => ⟨G, 0, rfl, fun i hi => by rw [Nat.zero_add]; exact h.row i hi⟩⟩

/-- What a node's size method answers. -/
theorem nd_size {d h : Nat} {k : Bool} {w : World} {l : List VT} {v : Value} (hn : ND d h k w l v) :
    (∃ b, v = .iface 78 (.pointer (some ⟨b, 0, none⟩)) ∧ ∀ W, Below w.heap.size w W → Calls Try.prog 109 #[.pointer (some ⟨b, 0, none⟩)] W fun e w' => e = .returned (.int .i64 l.length) ∧ Below W.heap.size W w') ∨
    (∃ b, v = .iface 84 (.pointer (some ⟨b, 0, none⟩)) ∧ ∀ W, Below w.heap.size w W → Calls Try.prog 110 #[.pointer (some ⟨b, 0, none⟩)] W fun e w' => e = .returned (.int .i64 l.length) ∧ Below W.heap.size W w') := by
  cases h with
  | zero =>
    obtain ⟨b, a, c, hv, hc, hl, h1, h2, h3⟩ := hn
    exact .inl ⟨b, hv, fun W hW => (leafSize_any b a l.length c W (cell_keeps hW hc)).mono fun _ _ ⟨h1, h2⟩ => ⟨h1, by rw [h2]; exact Below.refl _ _⟩⟩
  | succ h =>
    obtain ⟨b, sl, el, ps, hv, hc0, hc1, hs, he, h1, h2, h3, hl, hp⟩ := hn
    refine .inr ⟨b, hv, fun W hW => ?_⟩
    have hel : (ends ps).length = ps.length := ends_len ps
    obtain ⟨g, o, c, he1, hcap, hcs⟩ := he.full (fun e => by rw [e] at hel; simp at hel; omega)
    subst he1
    have hlast := hcs (ps.length - 1) (by omega)
    rw [ends_get] at hlast
    have hsum : ((ps.map fun p => p.1.length).take (ps.length - 1 + 1)).sum = l.length := by
      rw [hl, flat_sum, List.take_of_length_le (by rw [List.length_map]; omega)]
    rw [hsum] at hlast
    have hc1' : w.cell? ⟨b, 1, none⟩ = some (.slice (some ⟨g, o, none⟩) (ps.length - 1 + 1) c) := by rw [hc1, hel, show ps.length - 1 + 1 = ps.length by omega]
    exact branchSize_any b g o (ps.length - 1) c l.length W (cell_keeps hW hc1') (cell_keeps hW hlast) (by omega)

set_option maxRecDepth 100000 in
theorem infoI : ∃ i0, Try.prog.info? 3 = some i0 ∧ i0.zero = some (.int .i64 0) ∧ i0.size = 1 ∧ i0.bytes = 8 := by
  refine ⟨_, rfl, ?_, ?_, ?_⟩
  all_goals kernel_rfl

theorem ends_take (ps : List Part) (j : Nat) (hj : j < ps.length) : (ends ps).take (j + 1) = (ends ps).take j ++ [.int .i64 (((ps.map fun p => p.1.length).take (j + 1)).sum : Nat)] := by
  have h : j < (ends ps).length := by rw [ends_len]; exact hj
  rw [List.take_succ_eq_append_getElem h, ends_get]

set_option maxRecDepth 100000 in
set_option maxHeartbeats 8000000 in
theorem above_any (d h : Nat) (k : Bool) (ps : List Part) (u : Value) (w : World) (hu : SlV w (ps.map (·.2)) u) (h1 : 1 ≤ ps.length) (h2 : ps.length ≤ 32) (h3 : k = true → 16 ≤ ps.length) (hp : ∀ (i : Nat) (hi : i < ps.length), ND d h (k || decide (i + 1 < ps.length)) w (ps[i]'hi).1 (ps[i]'hi).2) (hsum : (ps.flatMap (·.1)).length ≤ 1099511627776) :
    Calls Try.prog 38 #[u] w fun e w' => ∃ b, e = .returned (.pointer (some ⟨b, 0, none⟩)) ∧ ND d (h + 1) k w' (ps.flatMap (·.1)) (.iface 84 (.pointer (some ⟨b, 0, none⟩))) ∧ Below w.heap.size w w' := by
  have Hu : Hid (SlV w (ps.map (·.2)) u) := hu
  have Hp : Hid (∀ (i : Nat) (hi : i < ps.length), ND d h (k || decide (i + 1 < ps.length)) w (ps[i]'hi).1 (ps[i]'hi).2) := hp
  have H3 : Hid (k = true → 16 ≤ ps.length) := h3
  obtain ⟨b0, o0, c0, hv, hc0, hcs⟩ := hu.full (fun e => by have := congrArg List.length e; rw [List.length_map, List.length_nil] at this; omega)
  rw [List.length_map] at hv hc0
  subst hv
  have Hcs : Hid (∀ (i : Nat) (hi : i < ps.length), w.cell? ⟨b0, o0 + i, none⟩ = some (ps[i]'hi).2) := fun i hi => by
    have := hcs i (by rw [List.length_map]; exact hi)
    rwa [List.getElem_map] at this
  have Hsz : Hid (∀ j, ((ps.map fun p => p.1.length).take j).sum ≤ 1099511627776) := fun j => by
    have e : (ps.map fun p => p.1.length).sum = ((ps.map fun p => p.1.length).take j).sum + ((ps.map fun p => p.1.length).drop j).sum := by rw [← List.sum_append, List.take_append_drop]
    rw [flat_sum] at hsum
    omega
  obtain ⟨i0, hi, hz0, hz1, hz2⟩ := infoI
  obtain ⟨L, hL⟩ : ∃ L, L = ps.length := ⟨_, rfl⟩
  rw [← hL] at h1 h2 hc0 hu
  obtain ⟨M, hM⟩ : ∃ M, M = madeCells (Value.int .i64 0).cells (((L : Nat) : Int).toNat * i0.size) := ⟨_, rfl⟩
  have hMs : M.size = L := by rw [hM, size_madeCells, hz1]; simp
  have hmk : ∀ W : World, (Instr.makeSlice 101 (.int .i64 (L : Int)) (.int .i64 (L : Int))).run Try.prog W = .ok (.slice (some ⟨W.heap.size, 0, none⟩) L L) (W.alloc (.cells M 3)) := fun W => by
    have h := run_make (P := Try.prog) W 101 3 i0 _ Try.underlying101 hi hz0 .i64 .i64 (L : Int) (L : Int) (by omega) (by omega) (by rw [hz2]; omega) (by omega)
    rw [← hM] at h
    simpa using h
  have HMs : Hid (M.size = L) := hMs
  have HL : Hid (L = ps.length) := hL
  have HF0 : Hid (FillV w.heap.size L (w.alloc (.cells M 3)) []) := by
    refine ⟨(fun i hi => by cases hi), fun k hk => ?_, by simp⟩
    have hk' : k < M.size := by rw [hMs]; exact hk
    simp [hk']
  have hln : 0 < L := by omega
  rw [← hL]
  clear hu hp h3 hsum hcs hM hi hz0 hz1 hz2 hMs hL
  go_enter Try.func38, Try.ntmps38
  go_wp2_with fail
  go_loopg [12, 4] L (fun z vi ve wr => ∃ (j E : Nat), vi = .int .i64 (j : Int) ∧ ve = .int .i64 (E : Int) ∧ j ≤ L ∧ z = L - j ∧ E ≤ 1099511627776 ∧ Hid (E = ((ps.map fun p => p.1.length).take j).sum) ∧ Hid (FillV w.heap.size L wr ((ends ps).take j)) ∧ Below w.heap.size w wr)
  case atStart => exact ⟨0, 0, rfl, rfl, by omega, by omega, by omega, rfl, HF0, (Below.refl _ _).alloc (Nat.le_refl _) _⟩
  case round =>
    obtain ⟨j, E, rfl, rfl, hj, hk, hE, HE, HF, hbw⟩ := hrel
    have Hk : Hid _ := hk
    clear hk hmk HF0
    have hG := HF.out.lt
    by_cases hlt : j < L
    · have hji : (j : Int) < (L : Nat) := by omega
      have hjp : j < ps.length := by have := HL.out; omega
      have pj := cell_keeps hbw (Hcs.out j hjp)
      have hbl : b0 < wr.heap.size := cell_lt pj
      have hsz := nd_size (Hp.out j hjp)
      obtain ⟨E2, hE2⟩ : ∃ E2, E2 = E + ps[j].1.length := ⟨_, rfl⟩
      have HE2 : Hid (E2 = ((ps.map fun p => p.1.length).take (j + 1)).sum) := by
        show _ = _
        rw [hE2, HE.out, List.take_succ_eq_append_getElem (by rw [List.length_map]; exact hjp), List.sum_append, List.getElem_map]
        simp
      have hE2b : E2 ≤ 1099511627776 := by rw [HE2.out]; exact Hsz.out _
      have hwE : IntKind.i64.wrap ((E : Int) + ((ps[j].1.length : Nat) : Int)) = (E2 : Int) := by rw [IntKind.wrap_i64]; omega
      have Htk : Hid ((ends ps).take (j + 1) = (ends ps).take j ++ [.int .i64 (E2 : Int)]) := by show _ = _; rw [ends_take ps j hjp, ← HE2.out]
      have Hel : Hid (((ends ps).take j).length = j) := by show _ = _; rw [List.length_take, ends_len]; omega
      generalize ps[j].1.length = n at *
      generalize ps[j].2 = vj at *
      have HFp : Hid (∀ W, FillV w.heap.size L W ((ends ps).take j) → FillV w.heap.size L (W.setCell ⟨w.heap.size, j, none⟩ (.int .i64 (E2 : Int))) ((ends ps).take (j + 1))) := fun W hW => by
        have := hW.put (.int .i64 (E2 : Int)) (by rw [Hel.out]; exact hlt)
        rw [Hel.out] at this
        rw [Htk.out]; exact this
      clear hE2
      rcases hsz with ⟨bj, hvj, hcall⟩ | ⟨bj, hvj, hcall⟩
      · subst hvj
        have HCl : Hid _ := hcall wr hbw
        clear hcall
        go_wp2_with fail
        refine Calls.mono HCl.out ?_
        rintro e w1 ⟨rfl, hg⟩
        have hbw1 : Below w.heap.size w w1 := hbw.trans (hg.mono hbw.size)
        have HF1 : Hid (FillV w.heap.size L w1 ((ends ps).take j)) := HF.out.keeps hg
        obtain ⟨v0, s0⟩ := Option.isSome_iff_exists.1 (HF1.out.there j hlt).1
        have z0 := (HF1.out.there j hlt).2
        have HN : Hid _ := HFp.out w1 HF1.out
        have Hbl2 : Hid (Below w.heap.size w (w1.setCell ⟨w.heap.size, j, none⟩ (.int .i64 (E2 : Int)))) := hbw1.setCell (p := ⟨w.heap.size, j, none⟩) (Nat.le_refl _) _
        clear HCl hg
        go_wp2_with fail
        go_roundg (L - (j + 1))
        case measure => have := Hk.out; omega
        case rel => exact ⟨j + 1, E2, by go_num, rfl, by omega, rfl, hE2b, HE2, HN, Hbl2.out⟩
      · subst hvj
        have HCl : Hid _ := hcall wr hbw
        clear hcall
        go_wp2_with fail
        refine Calls.mono HCl.out ?_
        rintro e w1 ⟨rfl, hg⟩
        have hbw1 : Below w.heap.size w w1 := hbw.trans (hg.mono hbw.size)
        have HF1 : Hid (FillV w.heap.size L w1 ((ends ps).take j)) := HF.out.keeps hg
        obtain ⟨v0, s0⟩ := Option.isSome_iff_exists.1 (HF1.out.there j hlt).1
        have z0 := (HF1.out.there j hlt).2
        have HN : Hid _ := HFp.out w1 HF1.out
        have Hbl2 : Hid (Below w.heap.size w (w1.setCell ⟨w.heap.size, j, none⟩ (.int .i64 (E2 : Int)))) := hbw1.setCell (p := ⟨w.heap.size, j, none⟩) (Nat.le_refl _) _
        clear HCl hg
        go_wp2_with fail
        go_roundg (L - (j + 1))
        case measure => have := Hk.out; omega
        case rel => exact ⟨j + 1, E2, by go_num, rfl, by omega, rfl, hE2b, HE2, HN, Hbl2.out⟩
    · have hji : ¬ (j : Int) < (L : Nat) := by omega
      have hjL : j = L := by omega
      have hFe : FillV w.heap.size L wr (ends ps) := by
        have := HF.out
        rwa [List.take_of_length_le (by rw [ends_len]; have := HL.out; omega)] at this
      have hw1 : w.heap.size ≤ wr.heap.size := hbw.size
      have HE9 : Hid (ND d (h + 1) k (wr.alloc (.cells #[.slice (some ⟨b0, o0, none⟩) L c0, .slice (some ⟨w.heap.size, 0, none⟩) L L] 103)) (ps.flatMap (·.1)) (.iface 84 (.pointer (some ⟨wr.heap.size, 0, none⟩)))) := by
        have hba : Below wr.heap.size wr (wr.alloc (.cells #[.slice (some ⟨b0, o0, none⟩) L c0, .slice (some ⟨w.heap.size, 0, none⟩) L L] 103)) := ((Grew.refl wr).alloc _).below
        have hbb := hbw.trans (hba.mono hw1)
        have hl := HL.out
        refine ⟨wr.heap.size, .slice (some ⟨b0, o0, none⟩) L c0, .slice (some ⟨w.heap.size, 0, none⟩) L L, ps, rfl, by simp, by simp, ?_, ?_, by omega, by omega, H3.out, rfl, fun i hi => (Hp.out i hi).keeps hbb _ _ _ _⟩
        · have := Hu.out.keeps hbb; rwa [← hl] at this
        · have := (hFe.keeps hba).slv L (by rw [ends_len]; omega)
          rwa [ends_len, ← hl] at this
      have Hbl : Hid (Below w.heap.size w (wr.alloc (.cells #[.slice (some ⟨b0, o0, none⟩) L c0, .slice (some ⟨w.heap.size, 0, none⟩) L L] 103))) := hbw.alloc hw1 _
      clear HF
      go_wp2_with fail
      go_ret
      exact ⟨_, rfl, HE9.out, Hbl.out⟩

end Go.Proofs.Ytekoaiehhjgfiaa

namespace Go.Proofs.Ytekoaiehhjgfiaa
open Go.RowKit

set_option maxRecDepth 100000 in
theorem less_any (x y : Int) (w : World) : Calls Try.prog 79 #[.int .i64 x, .int .i64 y] w fun e w' => e = .returned (.bool (decide (x < y))) ∧ w' = w := by
  have hs : ∀ (z : Int) (W : World), Calls Try.prog 88 #[.int .i64 z] W fun e w' => e = .returned (.bool false) ∧ w' = W := fun z W => by
    go_enter Try.func88, Try.ntmps88
    go_wp2_with fail
    go_ret
    exact ⟨by simp, rfl⟩
  have Hs : Hid _ := hs
  clear hs
  go_enter Try.func79, Try.ntmps79
  go_wp2_with fail
  refine (Hs.out x _).mono ?_
  rintro e w1 ⟨rfl, rfl⟩
  go_wp2_with fail
  go_ret
  exact ⟨by simp, rfl⟩

/-- Where a number is put into numbers that rise. -/
structure Srch (ns : List Nat) (t i j : Nat) : Prop where
  le : i ≤ j
  lej : j ≤ ns.length
  lo : ∀ (k : Nat) (h : k < ns.length), k < i → ns[k] < t
  hi : ∀ (k : Nat) (h : k < ns.length), j ≤ k → t ≤ ns[k]

/-- What a search tells. -/
def SrchPost (ns : List Nat) (t : Nat) (w : World) (e : Ending) (w' : World) : Prop := ∃ (i : Nat) (f : Bool), e = .returned (.tuple #[.int .i64 (i : Int), .bool f]) ∧ Srch ns t i i ∧ w' = w

set_option maxRecDepth 100000 in
set_option maxHeartbeats 4000000 in
theorem search_any (ns : List Nat) (t : Nat) (g o c : Nat) (w : World) (hrow : ∀ (i : Nat) (h : i < ns.length), w.cell? ⟨g, o + i, none⟩ = some (.int .i64 (ns[i] : Nat))) (hup : ∀ (i j : Nat) (hi : i < ns.length) (hj : j < ns.length), i ≤ j → ns[i] ≤ ns[j]) (hlen : ns.length ≤ 65536) :
    Calls Try.prog 69 #[.slice (some ⟨g, o, none⟩) ns.length c, .int .i64 (t : Int)] w (SrchPost ns t w) := by
  have Hr : Hid _ := hrow
  have Hu : Hid _ := hup
  have HS0 : Hid (Srch ns t 0 ns.length) := ⟨Nat.zero_le _, Nat.le_refl _, (fun k h hk => by omega), (fun k h hk => by omega)⟩
  obtain ⟨L, hL⟩ : ∃ L, L = ns.length := ⟨_, rfl⟩
  have HL : Hid (L = ns.length) := hL
  rw [← hL] at hlen HS0 ⊢
  clear hrow hup hL
  go_enter Try.func69, Try.ntmps69
  go_wp2_with fail
  go_loopg [7, 8] L (fun z vi vj wr => ∃ (i j : Nat), vi = .int .i64 (i : Int) ∧ vj = .int .i64 (j : Int) ∧ z = j - i ∧ Hid (Srch ns t i j) ∧ wr = w)
  case atStart => exact ⟨0, L, rfl, rfl, rfl, HS0, rfl⟩
  case round =>
    obtain ⟨i, j, rfl, rfl, hk, HS, rfl⟩ := hrel
    have Hk : Hid _ := hk
    clear hk HS0
    have h1 := HS.out.le
    have h2 := HS.out.lej
    have hl := HL.out
    by_cases hij : i < j
    · have hiji : (i : Int) < (j : Nat) := by omega
      obtain ⟨h, hh⟩ : ∃ h, h = (i + j) / 2 := ⟨_, rfl⟩
      have hd : ((i : Int) + (j : Int)) / 2 = (h : Int) := by omega
      have hhL : h < L := by omega
      have hhi : (h : Int) < (L : Nat) := by omega
      have pj := Hr.out h (by omega)
      have hjL : j ≤ L := by omega
      by_cases hlt : ns[h]'(by omega) < t
      · have HS2 : Hid (Srch ns t (h + 1) j) := ⟨by omega, h2, fun k hk1 hk2 => by
          have := Hu.out k h hk1 (by omega) (by omega)
          omega, HS.out.hi⟩
        have hlt' : ((ns[h]'(by omega) : Nat) : Int) < (t : Int) := by omega
        have Hh : Hid (h = (i + j) / 2) := hh
        generalize ns[h]'(by omega) = x at *
        clear hl h2 hh
        go_wp2_with fail
        refine (less_any _ _ _).mono ?_
        rintro e w1 ⟨rfl, rfl⟩
        rw [show decide ((x : Int) < (t : Int)) = true from decide_eq_true (by omega)]
        go_wp2_with fail
        go_roundg (j - (h + 1))
        case measure => have := Hk.out; have := Hh.out; omega
        case rel => exact ⟨h + 1, j, by go_num, rfl, rfl, HS2, rfl⟩
      · have HS2 : Hid (Srch ns t i h) := ⟨by omega, by omega, HS.out.lo, fun k hk1 hk2 => by
          have := Hu.out h k (by omega) hk1 hk2
          omega⟩
        have hlt' : ¬ ((ns[h]'(by omega) : Nat) : Int) < (t : Int) := by omega
        have Hh : Hid (h = (i + j) / 2) := hh
        generalize ns[h]'(by omega) = x at *
        clear hl h2 hh
        go_wp2_with fail
        refine (less_any _ _ _).mono ?_
        rintro e w1 ⟨rfl, rfl⟩
        rw [show decide ((x : Int) < (t : Int)) = false from decide_eq_false (by omega)]
        go_wp2_with fail
        go_roundg (h - i)
        case measure => have := Hk.out; have := Hh.out; omega
        case rel => exact ⟨i, h, rfl, rfl, rfl, HS2, rfl⟩
    · have hiji : ¬ (i : Int) < (j : Nat) := by omega
      obtain rfl : i = j := by omega
      by_cases hiL : i < L
      · have hiLi : (i : Int) < (L : Nat) := by omega
        have pi := Hr.out i (by omega)
        generalize ns[i]'(by omega) = x at *
        clear hl h2
        have hnan : ∀ (z : Int) (W : World), Calls Try.prog 80 #[.int .i64 z] W fun e w' => e = .returned (.bool false) ∧ w' = W := fun z W => by
          go_enter Try.func80, Try.ntmps80
          go_wp2_with fail
          go_ret
          exact ⟨by simp, rfl⟩
        have Hn : Hid _ := hnan
        clear hnan
        by_cases hx : (x : Int) = (t : Int)
        · have hx' : ((x : Int) == (t : Int)) = true := by simpa using hx
          go_wp2_with fail
          refine bodyPost_ret (v := .tuple #[.int .i64 (i : Int), .bool true]) (by simp [results, Try.results69, go_sem]) rfl ⟨i, true, rfl, HS.out, rfl⟩
        · have hx' : ((x : Int) == (t : Int)) = false := by simpa using hx
          go_wp2_with fail
          refine (Hn.out _ _).mono ?_
          rintro e w1 ⟨rfl, rfl⟩
          go_wp2_with fail
          refine bodyPost_ret (v := .tuple #[.int .i64 (i : Int), .bool false]) (by simp [results, Try.results69, go_sem]) rfl ⟨i, false, rfl, HS.out, rfl⟩
      · have hiLi : ¬ (i : Int) < (L : Nat) := by omega
        go_wp2_with fail
        refine bodyPost_ret (v := .tuple #[.int .i64 (i : Int), .bool false]) (by simp [results, Try.results69, go_sem]) rfl ⟨i, false, rfl, HS.out, rfl⟩

/-- The lengths of the parts. -/
def lensP (ps : List Part) : List Nat := ps.map fun p => p.1.length

/-- In which part an item lies, and where in it. -/
structure InPart (ps : List Part) (i k q : Nat) : Prop where
  lt : k < ps.length
  eq : i = ((lensP ps).take k).sum + q
  inn : q < (ps[k]'lt).1.length

theorem sum_take_mono (ns : List Nat) (i j : Nat) (h : i ≤ j) : (ns.take i).sum ≤ (ns.take j).sum := by
  have e : ns.take j = ns.take i ++ (ns.take j).drop i := by
    have h1 := (List.take_append_drop i (ns.take j)).symm
    rwa [List.take_take, Nat.min_eq_left h] at h1
  rw [e, List.sum_append]
  omega

theorem endsN_zero_get (ns : List Nat) (i : Nat) (h : i < (endsN 0 ns).length) : (endsN 0 ns)[i] = (ns.take (i + 1)).sum := by rw [endsN_get, Nat.zero_add]

theorem inPart_of {ps : List Part} {i k : Nat} (hi : i < (ps.flatMap (·.1)).length) (h : Srch (endsN 0 (lensP ps)) (i + 1) k k) : InPart ps i k (i - ((lensP ps).take k).sum) ∧ ((lensP ps).take k).sum ≤ i := by
  have hl : (endsN 0 (lensP ps)).length = ps.length := by rw [endsN_len]; exact List.length_map ..
  have hl2 : (lensP ps).length = ps.length := List.length_map ..
  rw [flat_sum] at hi
  have hi' : i < (lensP ps).sum := hi
  have h1 : ((lensP ps).take k).sum ≤ i := by
    cases k with
    | zero => simp
    | succ k =>
      have := h.lo k (by have := h.lej; omega) (by omega)
      rw [endsN_zero_get] at this
      omega
  have h2 : k < ps.length := by
    by_cases e : k < ps.length
    · exact e
    · have : ((lensP ps).take k).sum = (lensP ps).sum := by rw [List.take_of_length_le (by omega)]
      omega
  have h3 : i < ((lensP ps).take (k + 1)).sum := by
    have := h.hi k (by omega) (Nat.le_refl _)
    rw [endsN_zero_get] at this
    omega
  have h4 : ((lensP ps).take (k + 1)).sum = ((lensP ps).take k).sum + (ps[k]'h2).1.length := by
    rw [List.take_succ_eq_append_getElem (by omega), List.sum_append]
    simp [lensP]
  exact ⟨⟨h2, by omega, by omega⟩, h1⟩

/-- What find tells. -/
def FindPost (ps : List Part) (i : Nat) (w : World) (e : Ending) (w' : World) : Prop := ∃ k q : Nat, e = .returned (.tuple #[.int .i64 (k : Int), .int .i64 (q : Int)]) ∧ InPart ps i k q ∧ Below w.heap.size w w'

set_option maxRecDepth 100000 in
set_option maxHeartbeats 4000000 in
theorem find_any (ps : List Part) (b : Nat) (el : Value) (i : Nat) (w : World) (hc1 : w.cell? ⟨b, 1, none⟩ = some el) (he : SlV w (ends ps) el) (hi : i < (ps.flatMap (·.1)).length) (hlen : ps.length ≤ 32) (hbig : (ps.flatMap (·.1)).length ≤ 1099511627776) :
    Calls Try.prog 58 #[.pointer (some ⟨b, 0, none⟩), .int .i64 (i : Int)] w (FindPost ps i w) := by
  have hne : ps ≠ [] := fun e => by rw [e] at hi; simp at hi
  have hel := ends_len ps
  obtain ⟨g, o, c, he1, _, hcs⟩ := he.full (fun e => by rw [e] at hel; exact hne (List.eq_nil_of_length_eq_zero (by simpa using hel.symm)))
  subst he1
  rw [hel] at hc1
  have hl : (endsN 0 (lensP ps)).length = ps.length := by rw [endsN_len]; exact List.length_map ..
  have Hrow : Hid (∀ (j : Nat) (h : j < (endsN 0 (lensP ps)).length), w.cell? ⟨g, o + j, none⟩ = some (.int .i64 ((endsN 0 (lensP ps))[j] : Nat))) := fun j h => by
    have := hcs j (by omega)
    rw [ends_get] at this
    rw [this, endsN_zero_get]; rfl
  have HSr : Hid _ := search_any (endsN 0 (lensP ps)) (i + 1) g o c w Hrow.out (fun a e ha hb hab => by rw [endsN_zero_get, endsN_zero_get]; exact sum_take_mono _ _ _ (by omega)) (by omega)
  have Hin : Hid (∀ k, Srch (endsN 0 (lensP ps)) (i + 1) k k → InPart ps i k (i - ((lensP ps).take k).sum) ∧ ((lensP ps).take k).sum ≤ i) := fun k h => inPart_of hi h
  have Hl : Hid ((endsN 0 (lensP ps)).length = ps.length) := hl
  have hib : i < 1099511627776 := by omega
  obtain ⟨I, hI⟩ : ∃ I, I = i + 1 := ⟨_, rfl⟩
  have hwI : IntKind.i64.wrap ((i : Int) + 1) = (I : Int) := by rw [IntKind.wrap_i64]; omega
  rw [hl, ← hI] at HSr
  rw [← hI] at Hin
  clear hI hcs hl hel he hi hne
  go_enter Try.func58, Try.ntmps58
  go_wp2_with fail
  refine Calls.mono HSr.out ?_
  rintro e w1 ⟨k, f, rfl, hS, rfl⟩
  obtain ⟨hP, hle⟩ := Hin.out k hS
  have HP : Hid _ := hP
  have hkl : k < ps.length := hP.lt
  by_cases hk0 : k = 0
  · subst hk0
    have HP0 : Hid (InPart ps i 0 i) := by
      show InPart ps i 0 i
      have := HP.out
      simpa using this
    clear hP hS HSr HP
    go_wp2_with fail
    refine bodyPost_ret (v := .tuple #[.int .i64 0, .int .i64 (i : Int)]) (by simp [results, Try.results58, go_sem]) rfl ⟨0, i, rfl, HP0.out, Below.refl _ _⟩
  · have hk0' : ((k : Int) == 0) = false := by rw [beq_eq_false_iff_ne]; omega
    obtain ⟨K, hK⟩ : ∃ K, K = k - 1 := ⟨_, rfl⟩
    have hwK : IntKind.i64.wrap ((k : Int) - 1) = (K : Int) := by rw [IntKind.wrap_i64]; omega
    have hKl : K < ps.length := by omega
    have hKi : (K : Int) < (ps.length : Nat) := by omega
    have pK := Hrow.out K (by have := Hl.out; omega)
    rw [endsN_zero_get, show K + 1 = k by omega] at pK
    obtain ⟨q, hq⟩ : ∃ q, q = i - ((lensP ps).take k).sum := ⟨_, rfl⟩
    have hwq : IntKind.i64.wrap ((i : Int) - (((lensP ps).take k).sum : Nat)) = (q : Int) := by rw [IntKind.wrap_i64]; omega
    rw [← hq] at HP
    generalize ((lensP ps).take k).sum = S at *
    clear hP hS HSr hK hq
    go_wp2_with fail
    go_region_held3 (fun w' => w'.cell? ⟨b, 1, none⟩ = some (.slice (some ⟨g, o, none⟩) ps.length c) ∧ w'.cell? ⟨g, o + K, none⟩ = some (.int .i64 (S : Int))) (go_keep) (fail)
    go_wp2_with fail
    refine bodyPost_ret (v := .tuple #[.int .i64 (k : Int), .int .i64 (q : Int)]) (by simp [results, Try.results58, go_sem]) rfl ⟨k, q, rfl, HP.out, (Below.refl _ _).drew⟩

end Go.Proofs.Ytekoaiehhjgfiaa

namespace Go.Proofs.Ytekoaiehhjgfiaa
open Go.RowKit

theorem as_LL (v : Value) (W : World) : (Instr.typeAssert (.iface 78 v) 49 78 true).run Try.prog W = .ok (.tuple #[v, .bool true]) W := by kernel_rfl
theorem as_LB (v : Value) (W : World) : (Instr.typeAssert (.iface 78 v) 49 84 true).run Try.prog W = .ok (.tuple #[.pointer none, .bool false]) W := by kernel_rfl
theorem as_BL (v : Value) (W : World) : (Instr.typeAssert (.iface 84 v) 49 78 true).run Try.prog W = .ok (.tuple #[.pointer none, .bool false]) W := by kernel_rfl
theorem as_BB (v : Value) (W : World) : (Instr.typeAssert (.iface 84 v) 49 84 true).run Try.prog W = .ok (.tuple #[v, .bool true]) W := by kernel_rfl
theorem as_L (v : Value) (W : World) : (Instr.typeAssert (.iface 78 v) 49 78 false).run Try.prog W = .ok v W := by kernel_rfl
theorem as_B (v : Value) (W : World) : (Instr.typeAssert (.iface 84 v) 49 84 false).run Try.prog W = .ok v W := by kernel_rfl

set_option maxRecDepth 100000 in
set_option maxHeartbeats 4000000 in
theorem height_any (d : Nat) : ∀ (h : Nat) (k : Bool) (l : List VT) (v : Value) (w : World), ND d h k w l v → h ≤ 1000 → Calls Try.prog 68 #[v] w fun e w' => e = .returned (.int .i64 ((h + 1 : Nat) : Int)) ∧ w' = w := by
  intro h
  induction h with
  | zero =>
    intro k l v w hn _
    obtain ⟨b, a, c, rfl, hc, _⟩ := hn
    have ta := as_LB
    go_enter Try.func68, Try.ntmps68
    go_wp2_with fail
    go_ret
    exact ⟨rfl, rfl⟩
  | succ h ih =>
    intro k l v w hn hle
    obtain ⟨b, sl, el, ps, rfl, hc0, hc1, hs, he, h1, h2, h3, hl, hp⟩ := hn
    obtain ⟨g, o, c, hsl, hcap, hcs⟩ := hs.full (fun e => by have := congrArg List.length e; rw [List.length_map, List.length_nil] at this; omega)
    subst hsl
    have p0 := hcs 0 (by rw [List.length_map]; omega)
    rw [List.getElem_map, Nat.add_zero] at p0
    have HC : Hid _ := ih _ _ _ w (hp 0 (by omega)) (by omega)
    rw [List.length_map] at hc0
    obtain ⟨v0, hv0⟩ : ∃ v0, v0 = (ps[0]'(by omega)).2 := ⟨_, rfl⟩
    rw [← hv0] at p0 HC
    clear ih hp hcs hs he hc1 hv0 hcap
    obtain ⟨L, hL⟩ : ∃ L, L = ps.length := ⟨_, rfl⟩
    rw [← hL] at hc0 h1
    obtain ⟨H, hH⟩ : ∃ H, H = h + 1 := ⟨_, rfl⟩
    rw [← hH] at HC ⊢
    have hH2 : H ≤ 1000 := by omega
    have ta := as_BB
    have hL0 : 0 < L := by omega
    clear hH hle hL h2 h3 hl
    go_enter Try.func68, Try.ntmps68
    go_wp2_with fail
    refine Calls.mono HC.out ?_
    rintro e w1 ⟨rfl, rfl⟩
    go_wp2_with fail
    go_ret
    exact ⟨by go_num, rfl⟩

end Go.Proofs.Ytekoaiehhjgfiaa

namespace Go.Proofs.Ytekoaiehhjgfiaa
open Go.RowKit

set_option maxRecDepth 100000 in
theorem infoN : ∃ i0, Try.prog.info? 49 = some i0 ∧ i0.zero = some .nilIface ∧ i0.size = 1 ∧ i0.bytes = 16 := by
  refine ⟨_, rfl, ?_, ?_, ?_⟩
  all_goals kernel_rfl

/-- Elements of one cell. -/
def OneC (vs : List Value) : Prop := ∀ u ∈ vs, u.oneCell' = true

theorem nd_one {d h : Nat} {k : Bool} {w : World} {l : List VT} {v : Value} (hn : ND d h k w l v) : v.oneCell' = true := by
  cases h with
  | zero => obtain ⟨b, a, c, rfl, _⟩ := hn; rfl
  | succ h => obtain ⟨b, sl, el, ps, rfl, _⟩ := hn; rfl

/-- A row of one-cell elements that is owned. -/
theorem own_rowV {w : World} {base e : Nat} {v : Value} {vs : List Value} {n : Nat} (hn : n = vs.length) (h : w.ownsRow base e 1 v n vs) (hne : vs ≠ []) :
    ∃ g cap, v = .slice (some ⟨g, 0, none⟩) vs.length cap ∧ base ≤ g ∧ vs.length ≤ cap ∧ g < w.heap.size ∧ (∀ (i : Nat) (hi : i < vs.length), w.cell? ⟨g, i, none⟩ = some (vs[i]'hi)) ∧ ∀ k, w.frozen? ⟨g, k, none⟩ = false := by
  subst hn
  rcases h.2 with ⟨_, h0⟩ | ⟨g, cap, cur, hv, hbs, hg, hcap, _, hsz, htk⟩
  · exact absurd (List.eq_nil_of_length_eq_zero h0) hne
  · have hlt : g < w.heap.size := by
      by_cases hl : g < w.heap.size
      · exact hl
      · rw [Array.getElem?_eq_none (by omega)] at hg; cases hg
    refine ⟨g, cap, hv, hbs, hcap, hlt, fun i hi => ?_, fun k => ?_⟩
    · obtain ⟨u, hu⟩ : ∃ u, u = vs[i] := ⟨_, rfl⟩
      have hj : vs[i]? = some u := by rw [hu]; exact List.getElem?_eq_getElem hi
      rw [← hu]
      rw [← htk] at hj
      unfold World.cell?
      rw [hg]
      rw [List.getElem?_take] at hj
      split at hj
      · simpa using hj
      · cases hj
    · unfold World.frozen?
      rw [hg]
      simp

theorem SlV.of_own {w : World} {base e : Nat} {v : Value} {vs : List Value} {n : Nat} (hn : n = vs.length) (h : w.ownsRow base e 1 v n vs) : SlV w vs v := by
  by_cases hne : vs = []
  · subst hne
    subst hn
    rcases h.2 with ⟨rfl, _⟩ | ⟨g, cap, cur, rfl, _⟩
    · exact ⟨none, 0, rfl, by simp, fun h => absurd rfl h⟩
    · exact ⟨_, cap, rfl, by simp, fun h => absurd rfl h⟩
  · obtain ⟨g, cap, rfl, _, hcap, _, hrow, _⟩ := own_rowV hn h hne
    exact ⟨_, cap, rfl, hcap, fun _ => ⟨g, 0, rfl, fun i hi => by rw [Nat.zero_add]; exact hrow i hi⟩⟩

set_option maxRecDepth 100000 in
set_option maxHeartbeats 2000000 in
theorem cloneN_some (b o c : Nat) (vs : List Value) (w : World) (hrow : ∀ (i : Nat) (hi : i < vs.length), w.cell? ⟨b, o + i, none⟩ = some (vs[i]'hi)) (h1 : OneC vs) (hlen : vs.length ≤ 65536) :
    Calls Try.prog 71 #[.slice (some ⟨b, o, none⟩) vs.length c] w fun e w' => ∃ v, e = .returned v ∧ w'.ownsRow w.heap.size 49 1 v vs.length vs ∧ Below w.heap.size w w' := by
  obtain ⟨i0, hi, hz0, hz1, hz2⟩ := infoN
  have Hi : Hid _ := hi; have Hz0 : Hid _ := hz0; have Hz1 : Hid _ := hz1; have Hz2 : Hid _ := hz2
  clear hi hz0 hz1 hz2
  have HR : Hid _ := hrow
  have HO : Hid (OneC vs) := h1
  clear hrow h1
  have q22 : ∀ (w : World) (a : Option Addr) (n c n' c' : Nat), (binOp .eql 74 (.slice a n c) (.slice none n' c')).run Try.prog w = .ok (.bool a.isNone) w := fun w a n c n' c' => Lib.run_eql_slice_nil w _ _ a n c n' c' Try.underlying74
  go_enter Try.func71, Try.ntmps71
  go_wp2_with (first
        | (at_builtin; refine wpList_append_own _ rfl _ _ 74 rfl w.heap.size 49 i0 .nilIface 1 16 Try.underlying74 Hi.out Hz0.out Hz1.out Hz2.out rfl (by decide) _ 0 [] rfl ?c0 ⟨b, o, none⟩ vs.length c vs rfl (by omega) ?c1 ?c2 ?c3 ?c4 ?c5 ?_))
  case c0 => exact World.ownsRow_lit w #[] 0 (Nat.le_refl _) (by unfold maxLen; omega) rfl
  case c1 =>
    intro j u hj
    rw [add_addr5]
    obtain ⟨hj1, rfl⟩ := List.getElem?_eq_some_iff.1 hj
    exact cell_keeps ((Below.refl _ _).alloc (Nat.le_refl _) _) (HR.out j hj1)
  case c2 => exact HO.out
  case c3 => unfold maxLen; omega
  case c4 => omega
  case c5 => simp
  intro v' w2 hown' hgrow _
  have hb2 : Below w.heap.size w w2 := (((Below.refl _ _).alloc (Nat.le_refl _) _)).grown hgrow (by simp) (by
    intro k hk
    simp [Value.ownBlock] at hk; omega)
  clear hgrow
  have Hown : Hid (w2.ownsRow w.heap.size 49 1 v' vs.length vs) := by
    show World.ownsRow _ _ _ _ _ _ _
    simpa using hown'
  clear hown'
  go_wp2_with fail
  go_ret
  exact ⟨_, rfl, Hown.out, hb2⟩

set_option maxRecDepth 100000 in
set_option maxHeartbeats 2000000 in
theorem putN_any (vs : List Value) (u : Value) (i : Nat) (x : Value) (T : Nat) (p : Value) (hx : x = .iface T p) (w : World) (hu : SlV w vs u) (h1 : OneC vs) (hi : i < vs.length) (hlen : vs.length ≤ 65536) :
    Calls Try.prog 62 #[u, .int .i64 (i : Int), x] w fun e w' => ∃ v, e = .returned v ∧ SlV w' (vs.set i x) v ∧ Below w.heap.size w w' := by
  obtain ⟨b, o, c, rfl, _, hcs⟩ := hu.full (fun e => by rw [e] at hi; cases hi)
  have HC : Hid _ := cloneN_some b o c vs w hcs h1 hlen
  have hii : (i : Int) < (vs.length : Nat) := by omega
  subst hx
  clear hu h1 hcs
  obtain ⟨L, hL⟩ : ∃ L, L = vs.length := ⟨_, rfl⟩
  have HL : Hid (L = vs.length) := hL
  rw [← hL] at hi hii HC ⊢
  clear hL
  go_enter Try.func62, Try.ntmps62
  go_wp2_with fail
  refine Calls.mono HC.out ?_
  rintro e w1 ⟨v, rfl, hown, hb1⟩
  have hl := HL.out
  obtain ⟨g, cap, rfl, hbg, hcap, hlt, hrow, hfz⟩ := own_rowV hl hown (fun e => by rw [e] at hl; simp at hl; omega)
  rw [← hl] at hcap ⊢
  have hpi := hrow i (by omega)
  have zi := hfz i
  have HN : Hid (SlV (w1.setCell ⟨g, i, none⟩ (.iface T p)) (vs.set i (.iface T p)) (.slice (some ⟨g, 0, none⟩) L cap)) := by
    refine ⟨_, cap, by rw [List.length_set, hl], by rw [List.length_set]; omega, fun _ => ⟨g, 0, rfl, fun j hj => ?_⟩⟩
    rw [List.length_set] at hj
    rw [Nat.zero_add]
    by_cases e : j = i
    · subst e
      have := World.cell?_setCells_in g [Value.iface T p] j w1 (fun q hq => by
        have : q = 0 := by simp at hq; omega
        subst this
        show (w1.cell? ⟨g, j + 0, none⟩).isSome = true
        rw [Nat.add_zero, hpi]; rfl) 0 (by simp)
      simpa [World.setCells] using this
    · have := World.cell?_setCells_out g [Value.iface T p] i w1 ⟨g, j, none⟩ (fun _ _ => by simp; omega)
      simp only [World.setCells] at this
      rw [this, hrow j (by omega), List.getElem_set_ne (Ne.symm e)]
  have Hbl : Hid (Below w.heap.size w (w1.setCell ⟨g, i, none⟩ (.iface T p))) := hb1.setCell (p := ⟨g, i, none⟩) hbg _
  obtain ⟨vi, pi⟩ : ∃ vi, w1.cell? ⟨g, i, none⟩ = some vi := ⟨_, hpi⟩
  clear hpi hrow hfz hown HC
  clear hl
  go_wp2_with fail
  go_ret
  exact ⟨_, rfl, HN.out, Hbl.out⟩

end Go.Proofs.Ytekoaiehhjgfiaa

namespace Go.Proofs.Ytekoaiehhjgfiaa
open Go.RowKit

theorem RowAt.putAt {w : World} {g : Nat} {ps : List (VT × Value)} (h : RowAt w g 0 ps) (k : Nat) (hk : k < ps.length) (p : VT × Value) : RowAt (w.setCells g (k * 4) (encP p)) g 0 (ps.set k p) := by
  have hin := World.cell?_setCells_in g (encP p) (k * 4) w (fun q hq => by
    obtain ⟨k0, k1, k2, k3⟩ := h k hk
    simp only [Nat.zero_add] at k0 k1 k2 k3
    match q, hq with
    | 0, _ => rw [Nat.add_zero, k0]; rfl
    | 1, _ => rw [k1]; rfl
    | 2, _ => rw [k2]; rfl
    | 3, _ => rw [k3]; rfl)
  have hout : ∀ j, j < k * 4 ∨ k * 4 + 4 ≤ j → (w.setCells g (k * 4) (encP p)).cell? ⟨g, j, none⟩ = w.cell? ⟨g, j, none⟩ := fun j hj => World.cell?_setCells_out g (encP p) (k * 4) w ⟨g, j, none⟩ (fun _ _ => by simp [encP]; omega)
  intro i hi
  rw [List.length_set] at hi
  by_cases e : i = k
  · subst e
    simp only [List.getElem_set_self, Nat.zero_add]
    exact ⟨hin 0 (by simp [encP]), hin 1 (by simp [encP]), hin 2 (by simp [encP]), hin 3 (by simp [encP])⟩
  · rw [List.getElem_set_ne (Ne.symm e)]
    obtain ⟨k0, k1, k2, k3⟩ := h i hi
    simp only [Nat.zero_add] at k0 k1 k2 k3 ⊢
    exact ⟨(hout _ (by omega)).trans k0, (hout _ (by omega)).trans k1, (hout _ (by omega)).trans k2, (hout _ (by omega)).trans k3⟩

set_option maxRecDepth 100000 in
set_option maxHeartbeats 4000000 in
theorem putV_any (d : Nat) (l : List VT) (sl : Value) (i : Nat) (x : VT) (ax : Option Addr) (cx : Nat) (w : World) (hl : Lies (d + 1) w l sl) (hi : i < l.length) (hlen : l.length ≤ 65536) (hx : Lies d w x.items (.slice ax x.items.length cx)) (hts : x.text.size ≤ 9223372036854775807) :
    Calls Try.prog 61 #[sl, .int .i64 (i : Int), .agg #[.int .i64 x.kind, .int .i64 x.num, .string x.text, .slice ax x.items.length cx]] w fun e w' => ∃ v, e = .returned v ∧ Lies (d + 1) w' (l.set i x) v ∧ Below w.heap.size w w' := by
  obtain ⟨ps, hps, hpl, hsl⟩ := SlP.of_lies hl
  obtain ⟨b, o, c, rfl, _, hrow, hsd⟩ := hsl.some (fun e => by rw [e] at hpl; simp at hpl; omega)
  have hb0 : Below w.heap.size w (w.alloc (.cells #[.int .i64 x.kind, .int .i64 x.num, .string x.text, .slice ax x.items.length cx] 33)) := ((Grew.refl w).alloc _).below
  have HC : Hid _ := clone_some b o c ps d (w.alloc (.cells #[.int .i64 x.kind, .int .i64 x.num, .string x.text, .slice ax x.items.length cx] 33)) (hrow.keeps hb0) (fun p hp => (hsd p hp).keeps hb0) (by omega)
  have HSd : Hid (∀ p ∈ ps, Sound d w p) := hsd
  have HX : Hid (Sound d w (x, .slice ax x.items.length cx)) := ⟨hx, hts⟩
  have Hps : Hid (ps.map (·.1) = l) := hps
  have hii : (i : Int) < (ps.length : Nat) := by omega
  have hin : i < ps.length := by omega
  have HBx : Hid (Bx (w.alloc (.cells #[.int .i64 x.kind, .int .i64 x.num, .string x.text, .slice ax x.items.length cx] 33)) w.heap.size x (.slice ax x.items.length cx)) := bx_alloc w x _
  clear hl hsl hrow hsd hx hts hps
  obtain ⟨L, hL⟩ : ∃ L, L = ps.length := ⟨_, rfl⟩
  have HL : Hid (L = ps.length) := hL
  have hLb : L ≤ 65536 := by omega
  rw [← hL] at hii HC ⊢
  clear hL hpl hlen hi
  go_enter Try.func61, Try.ntmps61
  go_wp2_with fail
  refine Calls.mono HC.out ?_
  rintro e w1 ⟨v, rfl, hown, hg1⟩
  have hl := HL.out
  rw [hl] at hown
  obtain ⟨g, cap, rfl, hbg, hcap, hlt, hrow, hfz⟩ := own_row hown (fun e => by rw [e] at hin; cases hin)
  rw [World.size_alloc] at hbg
  have hb1 : Below w.heap.size w w1 := hb0.trans (hg1.mono hb0.size)
  obtain ⟨x0, x1, x2, x3, _, _, _, _⟩ := HBx.out.keeps hg1
  have HRw : Hid (RowAt (w1.setCells g (i * 4) (encP (x, .slice ax x.items.length cx))) g 0 (ps.set i (x, .slice ax x.items.length cx))) := hrow.putAt i hin _
  obtain ⟨p0, p1, p2, p3⟩ := hrow i hin
  simp only [Nat.zero_add] at p0 p1 p2 p3
  have z0 := hfz (i * 4)
  have z1 := hfz (i * 4 + 1)
  have z2 := hfz (i * 4 + 2)
  have z3 := hfz (i * 4 + 3)
  have Hbl : Hid (Below w.heap.size w (w1.setCells g (i * 4) (encP (x, .slice ax x.items.length cx)))) := below_setCellsB g w.heap.size (by omega) _ _ _ _ hb1
  have HN : Hid (Lies (d + 1) (w1.setCells g (i * 4) (encP (x, .slice ax x.items.length cx))) (l.set i x) (.slice (some ⟨g, 0, none⟩) L cap)) := by
    have h1 := lies_of_row (d := d) (c := cap) HRw.out (fun p hp => ?_) (by rw [List.length_set]; omega) (by rw [List.length_set]; exact hcap)
    · rw [List.length_set, ← hl, List.map_set, Hps.out] at h1
      exact h1
    · rcases List.mem_or_eq_of_mem_set hp with hp | rfl
      · exact (HSd.out p hp).keeps Hbl.out
      · exact HX.out.keeps Hbl.out
  have hng : ¬ (w.heap.size = g) := by omega
  clear hrow hfz hown HC hg1
  rw [← hl] at hcap ⊢
  have hin2 : i < L := by omega
  clear hl
  generalize (ps[i]'hin).1.kind = k0 at *
  generalize (ps[i]'hin).1.num = k1 at *
  generalize (ps[i]'hin).1.text = k2 at *
  generalize (ps[i]'hin).2 = k3 at *
  go_wp2_with fail
  go_ret
  exact ⟨_, rfl, HN.out, Hbl.out⟩

end Go.Proofs.Ytekoaiehhjgfiaa

namespace Go.Proofs.Ytekoaiehhjgfiaa
open Go.RowKit

theorem flat_set (ps : List Part) (k q : Nat) (x : VT) (v : Value) (hk : k < ps.length) (hq : q < (ps[k]'hk).1.length) : (ps.set k ((ps[k]'hk).1.set q x, v)).flatMap (·.1) = (ps.flatMap (·.1)).set (((lensP ps).take k).sum + q) x := by
  induction ps generalizing k with
  | nil => cases hk
  | cons p ps ih =>
    cases k with
    | zero =>
      simp only [List.getElem_cons_zero] at hq
      simp only [List.set_cons_zero, List.flatMap_cons, List.getElem_cons_zero, List.take_zero, List.sum_nil, Nat.zero_add]
      rw [List.set_append_left _ _ hq]
    | succ k =>
      have hk' : k < ps.length := by simpa using hk
      have := ih k hk' (by simpa using hq)
      have e : ((lensP (p :: ps)).take (k + 1)).sum = p.1.length + ((lensP ps).take k).sum := by simp [lensP]
      simp only [List.set_cons_succ, List.flatMap_cons, List.getElem_cons_succ] at this ⊢
      rw [this, e, List.set_append_right _ _ (by omega), show p.1.length + ((lensP ps).take k).sum + q - p.1.length = ((lensP ps).take k).sum + q by omega]

theorem ends_set (ps : List Part) (k : Nat) (p : Part) (hk : k < ps.length) (hl : p.1.length = (ps[k]'hk).1.length) : ends (ps.set k p) = ends ps := by
  unfold ends
  have : (ps.set k p).map (fun p => p.1.length) = ps.map (fun p => p.1.length) := by
    rw [List.map_set]
    refine List.ext_getElem (by simp) (fun i h1 h2 => ?_)
    rw [List.getElem_set]
    split
    · rename_i e; subst e; simp [hl]
    · rfl
  rw [this]

/-- A node is told. -/
def NodePost (d h : Nat) (k : Bool) (l : List VT) (W : World) (e : Ending) (w' : World) : Prop := ∃ T p, e = .returned (.iface T p) ∧ ND d h k w' l (.iface T p) ∧ Below W.heap.size W w'

set_option maxRecDepth 100000 in
set_option maxHeartbeats 16000000 in
theorem with_any (d : Nat) : ∀ (h : Nat) (k : Bool) (l : List VT) (v : Value) (i : Nat) (x : VT) (ax : Option Addr) (cx : Nat) (W : World), ND d h k W l v → i < l.length → l.length ≤ 1099511627776 → Lies d W x.items (.slice ax x.items.length cx) → x.text.size ≤ 9223372036854775807 →
    Calls Try.prog 47 #[v, .int .i64 (i : Int), .agg #[.int .i64 x.kind, .int .i64 x.num, .string x.text, .slice ax x.items.length cx]] W (NodePost d h k (l.set i x) W) := by
  intro h
  induction h with
  | zero =>
    intro k l v i x ax cx W hn hil _ hx hts
    obtain ⟨b, a, c, rfl, hc, hl, h1, h2, h3⟩ := hn
    have hb0 : Below W.heap.size W (W.alloc (.cells #[.int .i64 x.kind, .int .i64 x.num, .string x.text, .slice ax x.items.length cx] 33)) := ((Grew.refl W).alloc _).below
    have HP : Hid (∀ V, Below W.heap.size W V → Calls Try.prog 61 #[.slice a l.length c, .int .i64 (i : Int), .agg #[.int .i64 x.kind, .int .i64 x.num, .string x.text, .slice ax x.items.length cx]] V fun e w' => ∃ v, e = .returned v ∧ Lies (d + 1) w' (l.set i x) v ∧ Below V.heap.size V w') := fun V hV => putV_any d l _ i x ax cx V (Lies.keeps hV _ _ _ hl) hil (by omega) (Lies.keeps hV _ _ _ hx) hts
    have H3 : Hid (1 ≤ l.length ∧ l.length ≤ 32 ∧ (k = true → 16 ≤ l.length)) := ⟨h1, h2, h3⟩
    obtain ⟨x0, x1, x2, x3, _, _, _, _⟩ := bx_alloc W x (.slice ax x.items.length cx)
    have hcW := cell_keeps hb0 hc
    have hbl : b < W.heap.size := cell_lt hc
    have hnb : ¬ (b = W.heap.size) := by omega
    have ta := as_LL
    have Hlen : Hid ((l.set i x).length = l.length) := List.length_set ..
    have Hb0 : Hid (Below W.heap.size W (W.alloc (.cells #[.int .i64 x.kind, .int .i64 x.num, .string x.text, .slice ax x.items.length cx] 33))) := hb0
    clear hl hx hts h1 h2 h3 hil hb0
    generalize l.set i x = m at *
    generalize hL : l.length = L at *
    clear hL
    go_enter Try.func47, Try.ntmps47
    go_wp2_with fail
    go_region_held3 (fun w' => (w'.cell? ⟨b, 0, none⟩ = some (.slice a L c)) ∧ (w'.cell? ⟨W.heap.size, 0, none⟩ = some (.int .i64 x.kind) ∧ w'.cell? ⟨W.heap.size, 1, none⟩ = some (.int .i64 x.num) ∧ w'.cell? ⟨W.heap.size, 2, none⟩ = some (.string x.text) ∧ w'.cell? ⟨W.heap.size, 3, none⟩ = some (.slice ax x.items.length cx))) (go_keep)
      (first | (go_at_call 61; refine (HP.out _ Hb0.out.drew).mono ?_; rintro e w1 ⟨v1, rfl, hL1, hg1⟩; have hbA : Below (W.alloc (.cells #[.int .i64 x.kind, .int .i64 x.num, .string x.text, .slice ax x.items.length cx] 33)).heap.size (W.alloc (.cells #[.int .i64 x.kind, .int .i64 x.num, .string x.text, .slice ax x.items.length cx] 33)) w1 := (Below.refl _ _).drew.trans hg1; clear hg1; have HL1 : Hid (Lies (d + 1) w1 m v1) := hL1; clear hL1; obtain ⟨a1, c1, rfl, _⟩ := Lies.slice HL1.out; have hcW := cell_keeps hbA hcW; have x0 := cell_keeps hbA x0; have x1 := cell_keeps hbA x1; have x2 := cell_keeps hbA x2; have x3 := cell_keeps hbA x3))
    have hb1 : Below W.heap.size W w1 := Hb0.out.trans (hbA.mono Hb0.out.size)
    have HE : Hid (NodePost d 0 k m W (.returned (.iface 78 (.pointer (some ⟨w1.heap.size, 0, none⟩)))) (w1.alloc (.cells #[.slice a1 m.length c1] 80))) := by
      have hba : Below w1.heap.size w1 (w1.alloc (.cells #[.slice a1 m.length c1] 80)) := ((Grew.refl w1).alloc _).below
      have hl := Hlen.out
      have h3 := H3.out
      exact ⟨_, _, rfl, ⟨w1.heap.size, a1, c1, rfl, by simp, Lies.keeps hba _ _ _ HL1.out, by omega, by omega, fun hk => by have := h3.2.2 hk; omega⟩, hb1.trans (hba.mono hb1.size)⟩
    clear x0 x1 x2 x3 hcW HP
    go_wp2_with fail
    go_ret
    exact HE.out
  | succ h ih =>
    intro k l v i x ax cx W hn hil hbig hx hts
    obtain ⟨b, sl, el, ps, rfl, hc0, hc1, hs, he, h1, h2, h3, hl, hp⟩ := hn
    subst hl
    obtain ⟨g, o, c, hsl, hcap, hcs⟩ := hs.full (fun e => by have := congrArg List.length e; rw [List.length_map, List.length_nil] at this; omega)
    subst hsl
    rw [List.length_map] at hc0 hcap
    have hel := he.slice
    obtain ⟨ae, ce, hev, _⟩ := hel
    have hb0 : Below W.heap.size W (W.alloc (.cells #[.int .i64 x.kind, .int .i64 x.num, .string x.text, .slice ax x.items.length cx] 33)) := ((Grew.refl W).alloc _).below
    have HFi : Hid (∀ V, Below W.heap.size W V → Calls Try.prog 58 #[.pointer (some ⟨b, 0, none⟩), .int .i64 (i : Int)] V (FindPost ps i V)) := fun V hV => find_any ps b el i V (cell_keeps hV hc1) (he.keeps hV) hil h2 hbig
    have HIt : Hid (∀ (kk q : Nat), InPart ps i kk q → ∃ vk m, W.cell? ⟨g, o + kk, none⟩ = some vk ∧ (∀ V, Below W.heap.size W V → Calls Try.prog 47 #[vk, .int .i64 (q : Int), .agg #[.int .i64 x.kind, .int .i64 x.num, .string x.text, .slice ax x.items.length cx]] V (NodePost d h (k || decide (kk + 1 < ps.length)) m V)) ∧
        (∀ T p V, Below W.heap.size W V → ∃ m2, m2 = (ps.map (·.2)).set kk (.iface T p) ∧ Calls Try.prog 62 #[.slice (some ⟨g, o, none⟩) ps.length c, .int .i64 (kk : Int), .iface T p] V fun e w' => ∃ v, e = .returned v ∧ SlV w' m2 v ∧ Below V.heap.size V w') ∧
        (∀ T p V bb sv, Below W.heap.size W V → ND d h (k || decide (kk + 1 < ps.length)) V m (.iface T p) → V.cell? ⟨bb, 0, none⟩ = some sv → V.cell? ⟨bb, 1, none⟩ = some el → SlV V ((ps.map (·.2)).set kk (.iface T p)) sv → ND d (h + 1) k V ((ps.flatMap (·.1)).set i x) (.iface 84 (.pointer (some ⟨bb, 0, none⟩))))) := fun kk q hin => by
      have hlt := hin.lt
      have hinn := hin.inn
      refine ⟨(ps[kk]'hlt).2, (ps[kk]'hlt).1.set q x, ?_, fun V hV => ih _ _ _ q x ax cx V ((hp kk hlt).keeps hV _ _ _ _) hinn ?_ (Lies.keeps hV _ _ _ hx) hts, fun T p V hV => ⟨_, rfl, ?_⟩, fun T p V bb sv hV hnd hcc0 hcc1 hsv => ?_⟩
      · have := hcs kk (by rw [List.length_map]; exact hlt)
        rwa [List.getElem_map] at this
      · have := sum_mem_le (lensP ps) (ps[kk]'hlt).1.length (List.mem_map.2 ⟨_, List.getElem_mem _, rfl⟩)
        rw [flat_sum] at hbig
        have h9 : (lensP ps).sum = (ps.map fun p => p.1.length).sum := rfl
        omega
      · have h8 := putN_any (ps.map (·.2)) (.slice (some ⟨g, o, none⟩) ps.length c) kk (.iface T p) T p rfl V (by have := hs.keeps hV; rwa [List.length_map] at this) (fun u hu => by
          obtain ⟨r, hr, rfl⟩ := List.mem_map.1 hu
          obtain ⟨j, hj, rfl⟩ := List.getElem_of_mem hr
          exact nd_one (hp j hj)) (by rw [List.length_map]; exact hlt) (by rw [List.length_map]; omega)
        exact h8
      · have e1 : (ps.flatMap (·.1)).set i x = (ps.set kk ((ps[kk]'hlt).1.set q x, .iface T p)).flatMap (·.1) := by rw [flat_set ps kk q x _ hlt hinn, ← hin.eq]
        have e2 : (ps.set kk ((ps[kk]'hlt).1.set q x, .iface T p)).map (·.2) = (ps.map (·.2)).set kk (.iface T p) := by rw [List.map_set]
        have e3 := ends_set ps kk ((ps[kk]'hlt).1.set q x, .iface T p) hlt (by simp)
        rw [e1]
        refine ⟨bb, sv, el, ps.set kk ((ps[kk]'hlt).1.set q x, .iface T p), rfl, hcc0, hcc1, by rw [e2]; exact hsv, by rw [e3]; exact he.keeps hV, by rw [List.length_set]; exact h1, by rw [List.length_set]; exact h2, by rw [List.length_set]; exact h3, rfl, fun j hj => ?_⟩
        rw [List.length_set] at hj
        rw [List.length_set]
        by_cases e : j = kk
        · subst e
          rw [List.getElem_set_self]
          exact hnd
        · rw [List.getElem_set_ne (Ne.symm e)]
          exact (hp j hj).keeps hV _ _ _ _
    obtain ⟨x0, x1, x2, x3, _, _, _, _⟩ := bx_alloc W x (.slice ax x.items.length cx)
    have hbl : b < W.heap.size := cell_lt hc0
    have hnb : ¬ (b = W.heap.size) := by omega
    have Hc0 : Hid (W.cell? ⟨b, 0, none⟩ = some (.slice (some ⟨g, o, none⟩) ps.length c)) := hc0
    have Hc1 : Hid (W.cell? ⟨b, 1, none⟩ = some el) := hc1
    have ta := as_BL
    have tb := as_B
    have Hb0 : Hid (Below W.heap.size W (W.alloc (.cells #[.int .i64 x.kind, .int .i64 x.num, .string x.text, .slice ax x.items.length cx] 33))) := hb0
    have HXb : Hid (((W.alloc (.cells #[.int .i64 x.kind, .int .i64 x.num, .string x.text, .slice ax x.items.length cx] 33)).cell? ⟨W.heap.size, 0, none⟩ = some (.int .i64 x.kind)) ∧ ((W.alloc (.cells #[.int .i64 x.kind, .int .i64 x.num, .string x.text, .slice ax x.items.length cx] 33)).cell? ⟨W.heap.size, 1, none⟩ = some (.int .i64 x.num)) ∧ ((W.alloc (.cells #[.int .i64 x.kind, .int .i64 x.num, .string x.text, .slice ax x.items.length cx] 33)).cell? ⟨W.heap.size, 2, none⟩ = some (.string x.text)) ∧ ((W.alloc (.cells #[.int .i64 x.kind, .int .i64 x.num, .string x.text, .slice ax x.items.length cx] 33)).cell? ⟨W.heap.size, 3, none⟩ = some (.slice ax x.items.length cx))) := ⟨x0, x1, x2, x3⟩
    clear ih hp hcs hs he hc1 hc0 hx hil hbig hcap hts hb0 x0 x1 x2 x3
    generalize (ps.flatMap (·.1)).set i x = R at *
    go_enter Try.func47, Try.ntmps47
    go_wp2_with fail
    refine (HFi.out _ Hb0.out).mono ?_
    rintro e w1 ⟨kk, q, rfl, hin, hg1⟩
    have hb1 : Below W.heap.size W w1 := Hb0.out.trans (hg1.mono Hb0.out.size)
    obtain ⟨x0, x1, x2, x3⟩ := HXb.out
    have x0 := cell_keeps hg1 x0
    have x1 := cell_keeps hg1 x1
    have x2 := cell_keeps hg1 x2
    have x3 := cell_keeps hg1 x3
    obtain ⟨vk, m, hck, hw, hpu, hfin⟩ := HIt.out kk q hin
    have pk := cell_keeps hb1 hck
    have p0 := cell_keeps hb1 Hc0.out
    have p1 := cell_keeps hb1 Hc1.out
    have hkl : kk < ps.length := hin.lt
    have hki : (kk : Int) < (ps.length : Nat) := by omega
    have Hw : Hid _ := hw
    have Hpu : Hid _ := hpu
    have Hfin : Hid _ := hfin
    clear hg1 HFi HIt hw hpu hfin hck Hc0 Hc1 HXb
    clear hin
    generalize hLg : ps.length = L at *
    clear hLg h1 h2 h3
    subst hev
    generalize (ends ps).length = Le at *
    go_wp2_with fail
    go_region_held3 (fun w' => (w'.cell? ⟨b, 0, none⟩ = some (.slice (some ⟨g, o, none⟩) L c)) ∧ (w'.cell? ⟨b, 1, none⟩ = some (.slice ae Le ce)) ∧ (w'.cell? ⟨g, o + kk, none⟩ = some vk) ∧ (w'.cell? ⟨W.heap.size, 0, none⟩ = some (.int .i64 x.kind) ∧ w'.cell? ⟨W.heap.size, 1, none⟩ = some (.int .i64 x.num) ∧ w'.cell? ⟨W.heap.size, 2, none⟩ = some (.string x.text) ∧ w'.cell? ⟨W.heap.size, 3, none⟩ = some (.slice ax x.items.length cx))) (go_keep)
      (first
        | (go_at_call 47; refine (Hw.out _ hb1.drew).mono ?_; rintro e w2 ⟨T, p, rfl, hnd, hg2⟩; have hbA : Below w1.heap.size w1 w2 := (Below.refl _ _).drew.trans hg2; clear hg2; have HNd : Hid (ND d h (k || decide (kk + 1 < L)) w2 m (.iface T p)) := hnd; clear hnd; have hb2 : Below W.heap.size W w2 := hb1.trans (hbA.mono hb1.size); obtain ⟨m2, hm2, hpc⟩ := Hpu.out T p w2 hb2; have Hpc : Hid _ := hpc; have Hm2 : Hid _ := hm2; clear hpc hm2; have p0 := cell_keeps hbA p0; have p1 := cell_keeps hbA p1; have pk := cell_keeps hbA pk; have x0 := cell_keeps hbA x0; have x1 := cell_keeps hbA x1; have x2 := cell_keeps hbA x2; have x3 := cell_keeps hbA x3)
        | (go_at_call 62; refine Calls.mono Hpc.out ?_; rintro e w3 ⟨sv, rfl, hsv, hbB⟩; have HSv : Hid (SlV w3 m2 sv) := hsv; clear hsv; obtain ⟨a3, c3, rfl, _⟩ := SlV.slice HSv.out; have p0 := cell_keeps hbB p0; have p1 := cell_keeps hbB p1; have pk := cell_keeps hbB pk; have x0 := cell_keeps hbB x0; have x1 := cell_keeps hbB x1; have x2 := cell_keeps hbB x2; have x3 := cell_keeps hbB x3))
    have hb3 : Below W.heap.size W w3 := hb2.trans (hbB.mono hb2.size)
    have HE : Hid (NodePost d (h + 1) k R W (.returned (.iface 84 (.pointer (some ⟨w3.heap.size, 0, none⟩)))) (w3.alloc (.cells #[.slice a3 m2.length c3, .slice ae Le ce] 103))) := by
      have hba : Below w3.heap.size w3 (w3.alloc (.cells #[.slice a3 m2.length c3, .slice ae Le ce] 103)) := ((Grew.refl w3).alloc _).below
      have hb4 := hb3.trans (hba.mono hb3.size)
      refine ⟨_, _, rfl, Hfin.out T p _ w3.heap.size (.slice a3 m2.length c3) hb4 ((HNd.out.keeps hbB _ _ _ _).keeps hba _ _ _ _) (by simp) (by simp) ?_, hb4⟩
      have := HSv.out.keeps hba
      rwa [Hm2.out] at this ⊢
    clear x0 x1 x2 x3 p0 p1 pk Hw Hpu Hfin Hpc
    go_wp2_with fail
    go_ret
    exact HE.out

end Go.Proofs.Ytekoaiehhjgfiaa

