import Derived.Test.YtlnecfjnffdciaaGreatRBuildA14
import Derived.Test.YtlnecfjnffdciaaGreatEqualM
import Derived.Test.YtlnecfjnffdciaaGreatManyLaw
import Derived.Test.YtlnecfjnffdciaaGreatUnionM
namespace Go.Proofs.YtlnecfjnffdciaaGreat
open Go.RowKit Go.Shelf

theorem lst_mem {α : Type} {l : List α} {z : α} (h : z ∈ lst l) : z ∈ l := by
 unfold lst at h
 cases hl : l.getLast? with
 | none => rw [hl] at h; cases h
 | some x =>
  rw [hl] at h
  obtain rfl : z = x := List.mem_singleton.1 h
  exact List.mem_of_getLast? hl

theorem kyd_mem_iff {α : Type} {cf : α → α → Int} (h : Cmp3 cf) (n : Nat) (l : List α) (hn : l.length ≤ n) (z : α) : z ∈ kyd cf n l ↔ z ∈ lst (l.filter (sim (ltI cf) z)) := by
 have h1 := (kyd_spec h n l hn).2 z
 constructor
 ·intro hz
  rw [← h1]
  exact List.mem_filter.2 ⟨hz, sim_self h.weak z⟩
 ·intro hz
  rw [← h1] at hz
  exact (List.mem_filter.1 hz).1

theorem sim_zero {α : Type} {cf : α → α → Int} (h : Cmp3 cf) (a b : α) : sim (ltI cf) a b = decide (cf a b = 0) := by
 have ht := h.turn a b
 rw [Bool.eq_iff_iff, sim_iff, decide_eq_true_eq]
 constructor
 ·rintro ⟨h1, h2⟩
  have a1 : ¬ cf a b < 0 := of_decide_eq_false h1
  have a2 : ¬ cf b a < 0 := of_decide_eq_false h2
  omega
 ·intro h0
  exact ⟨decide_eq_false (by omega), decide_eq_false (by omega)⟩

theorem kyd_same {α : Type} {cf cg : α → α → Int} (h : Cmp3 cf) (g : Cmp3 cg) (n m : Nat) (l : List α) (hn : l.length ≤ n) (hm : l.length ≤ m) (he : ∀ a ∈ l, ∀ b ∈ l, cf a b = 0 ↔ cg a b = 0) (z : α) : z ∈ kyd cf n l ↔ z ∈ kyd cg m l := by
 rw [kyd_mem_iff h n l hn, kyd_mem_iff g m l hm]
 by_cases hz : z ∈ l
 ·have e : l.filter (sim (ltI cf) z) = l.filter (sim (ltI cg) z) := by
   apply List.filter_congr
   intro x hx
   rw [sim_zero h, sim_zero g]
   exact decide_eq_decide.2 (he z hz x hx)
  rw [e]
 ·exact ⟨fun k => absurd (List.mem_filter.1 (lst_mem k)).1 hz, fun k => absurd (List.mem_filter.1 (lst_mem k)).1 hz⟩

theorem kydO_mem {q : Nat} {qs : List PP} (hg : ∀ p ∈ qs, Good 16 p.1.1) (n m : Nat) (hn : qs.length ≤ n) (hm : qs.length ≤ m) (z : PP) : z ∈ kyd (cmpO q) n qs ↔ z ∈ kyd (cmpQ 16) m qs :=
 kyd_same (cmpO_3 q) (cmp3Q 16) n m qs hn hm (fun a ha b hb => ordV_zero q (hg a ha) (hg b hb)) z

theorem kydO_rises {q : Nat} {qs : List PP} (n : Nat) (hn : qs.length ≤ n) : RT.Rises (byK q) ((kyd (cmpO q) n qs).map trT) := by
 have h : (kyd (cmpO q) n qs).Pairwise (fun a b => cmpO q a b < 0) := (kyd_spec (cmpO_3 q) n qs hn).1
 show ((kyd (cmpO q) n qs).map trT).Pairwise (fun a b => byK q a b < 0)
 rw [List.pairwise_map]
 exact h

theorem kydO_eq {q : Nat} {qs : List PP} (hg : ∀ p ∈ qs, Good 16 p.1.1) (n m : Nat) (hn : qs.length ≤ n) (hm : qs.length ≤ m) {l : List PT} (hl : RT.Rises (byK q) l) (h : ∀ y, y ∈ l ↔ y ∈ (kyd (cmpQ 16) m qs).map trT) : l = (kyd (cmpO q) n qs).map trT := by
 refine RT.rises_eq (byK_cmp q) _ _ hl (kydO_rises n hn) fun y => ?_
 rw [h y, List.mem_map, List.mem_map]
 constructor
 ·rintro ⟨p, hp, rfl⟩
  exact ⟨p, (kydO_mem hg n m hn hm p).2 hp, rfl⟩
 ·rintro ⟨p, hp, rfl⟩
  exact ⟨p, (kydO_mem hg n m hn hm p).1 hp, rfl⟩

theorem BdP.dm {q : Nat} (hq : q < 6) {n : Nat} {qs : List PP} (hn : qs.length ≤ n) {w w' : World} {e : Ending} (h : BdP q (kyd (cmpO q) n qs) w e w') (hg : ∀ p ∈ qs, Good 16 p.1.1 ∧ Good 16 p.2.1) (hl : (kyd (cmpO q) n qs).length ≤ 65536) : Below w.heap.size w w' ∧ ∃ b, e = .returned (.pointer (some ⟨b, 0, none⟩)) ∧ DM w' q ((kyd (cmpO q) n qs).map trT) b := by
 obtain ⟨hb, b, v, rfl, h0, h1, hs⟩ := h
 refine ⟨hb, b, rfl, ⟨h0, ⟨_, v, h1, rfl, hs⟩, hq, ?_, kydO_rises n hn, by rw [List.length_map]; exact hl⟩⟩
 intro x hx
 obtain ⟨p, hp, rfl⟩ := List.mem_map.1 hx
 exact hg p (kyd_mem _ _ _ p hp)

end Go.Proofs.YtlnecfjnffdciaaGreat

namespace Go.Proofs.YtlnecfjnffdciaaGreat
open Go.RowKit Go.Shelf

theorem SlQ.pair_at {w : World} {qs : List PP} {a : Option Addr} {n c : Nat} (h : SlQ 0 16 w qs (.slice a n c)) (hne : qs ≠ []) : n = qs.length ∧ n ≤ c ∧ ∃ b o, a = some ⟨b, o, none⟩ ∧ ∀ j, j < qs.length → ∃ (k : VT) (ak : Option Addr) (ck : Nat) (v : VT) (av : Option Addr) (cv : Nat), qs[j]? = some ((k, .slice ak k.items.length ck), (v, .slice av v.items.length cv)) ∧ GoodQ 16 w ((k, .slice ak k.items.length ck), (v, .slice av v.items.length cv)) ∧
 w.cell? ⟨b, o + j * 8, none⟩ = some (.int .i64 k.kind) ∧ w.cell? ⟨b, o + j * 8 + 1, none⟩ = some (.int .i64 k.num) ∧ w.cell? ⟨b, o + j * 8 + 2, none⟩ = some (.string k.text) ∧ w.cell? ⟨b, o + j * 8 + 3, none⟩ = some (.slice ak k.items.length ck) ∧
 w.cell? ⟨b, o + j * 8 + 4, none⟩ = some (.int .i64 v.kind) ∧ w.cell? ⟨b, o + j * 8 + 5, none⟩ = some (.int .i64 v.num) ∧ w.cell? ⟨b, o + j * 8 + 6, none⟩ = some (.string v.text) ∧ w.cell? ⟨b, o + j * 8 + 7, none⟩ = some (.slice av v.items.length cv) := by
 obtain ⟨a2, c2, he, h1, _, h3, hg⟩ := h
 simp only [Value.slice.injEq] at he
 obtain ⟨rfl, rfl, rfl⟩ := he
 obtain ⟨b, o, e, _, hq⟩ := h3 hne
 refine ⟨rfl, h1, b, o, e, fun j hj => ?_⟩
 have hgx := hg qs[j] (List.getElem_mem hj)
 obtain ⟨u0, u1, u2, u3, u4, u5, u6, u7⟩ := hq.at j hj
 have hget : qs[j]? = some qs[j] := List.getElem?_eq_getElem hj
 obtain ⟨⟨⟨k, ku⟩, ⟨v, vu⟩⟩, hx⟩ : ∃ s, s = qs[j] := ⟨_, rfl⟩
 rw [← hx] at hgx u0 u1 u2 u3 u4 u5 u6 u7 hget
 obtain ⟨ak, ck, hk, _⟩ := Lies.slice hgx.1.1
 obtain ⟨av, cv, hv, _⟩ := Lies.slice hgx.2.1
 simp only at hk hv
 subst hk hv
 exact ⟨k, ak, ck, v, av, cv, hget, hgx, u0, u1, u2, u3, u4, u5, u6, u7⟩

end Go.Proofs.YtlnecfjnffdciaaGreat

