/-
  gone: the items that a vector hands out from a place on, in a list.
-/
import Derived.Test.YtpnfmcmhcjekfaaGoneP
namespace Go.Proofs.Ytpnfmcmhcjekfaa
open Go.RowKit Go.Shelf

attribute [local go_sem] Oper.semAt_some

set_option maxRecDepth 100000 in
set_option maxHeartbeats 32000000 in
theorem gone_neg (l : List VT) (p : Option Addr) (i : Int) (P0 M : Nat) (hm1 : max i 0 = (P0 : Int)) (hM : M = l.length + 1) (hneg : i < 0) (w : World) (h : VV w l (.pointer p)) : Calls Try.prog 16 #[.pointer p, .int .i64 i, .int .i64 (M : Int)] w fun e w' => Below w.heap.size w w' ∧ ∃ a n c, e = .returned (.tuple #[.slice a n c, .bool true]) ∧ n = (fromL l (P0 : Int)).length ∧ Lies 17 w' (fromL l (P0 : Int)) (.slice a n c) := by
  have hlen := h.len
  refine (callsIn_wide (n := 8)).1 ?_
  refine callsIn_of_wp_marks Try.func16 rfl trivial ?_ rfl
  simp only [Try.ntmps16, List.size_toArray, List.length_cons, List.length_nil, Nat.reduceAdd, Nat.reduceSub, Array.replicate_succ, Array.replicate_zero, List.push_toArray, List.append_toArray, List.nil_append, List.cons_append]
  have hM1 : ¬ ((M : Nat) : Int) < 1 := by omega
  have HM : Hid (M = l.length + 1) := hM
  clear hM
  have tf := eql_nilF
  gi_wp2
  refine ⟨trivial, ?_⟩
  refine (callsIn_wide.2 (vFrom_any _ _ _)).mono ?_
  rintro e w1 ⟨rfl, rfl⟩
  simp only [World.size_alloc]
  gi_wp2
  obtain ⟨Wi, hWi⟩ : ∃ Wi, Wi = (((((((w.alloc (.cells #[.int .i64 0] 3)).alloc (.cells #[.int .i64 (M : Int)] 3)).alloc (.cells #[.slice none 0 0] 22)).alloc (.cells #[.bool false] 4)).alloc (.cells #[.slice none 0 0] 22)).alloc (.cells #[.pointer p] 23)).alloc (.cells #[.int .i64 i] 3)) := ⟨_, rfl⟩
  rw [← hWi]
  have hB0 : Below w.heap.size w Wi := by rw [hWi]; exact (((((((Grew.refl w).alloc _).alloc _).alloc _).alloc _).alloc _).alloc _).alloc _ |>.below
  have hsz : Wi.heap.size = w.heap.size + 7 := by rw [hWi]; simp
  have cI : Wi.cell? ⟨w.heap.size + 1 + 1 + 1 + 1 + 1 + 1, 0, none⟩ = some (.int .i64 i) := by
    rw [hWi]
    have h9 := (Go.Boxed.new ((((((w.alloc (.cells #[.int .i64 0] 3)).alloc (.cells #[.int .i64 (M : Int)] 3)).alloc (.cells #[.slice none 0 0] 22)).alloc (.cells #[.bool false] 4)).alloc (.cells #[.slice none 0 0] 22)).alloc (.cells #[.pointer p] 23)) 3 (.int .i64 i)).cell
    simpa only [World.size_alloc] using h9
  have cV : Wi.cell? ⟨w.heap.size + 1 + 1 + 1 + 1 + 1, 0, none⟩ = some (.pointer p) := by
    rw [hWi]
    have h9 := ((Go.Boxed.new (((((w.alloc (.cells #[.int .i64 0] 3)).alloc (.cells #[.int .i64 (M : Int)] 3)).alloc (.cells #[.slice none 0 0] 22)).alloc (.cells #[.bool false] 4)).alloc (.cells #[.slice none 0 0] 22)) 23 (.pointer p)).alloc (.cells #[.int .i64 i] 3)).cell
    simpa only [World.size_alloc] using h9
  have hG0 : GoneI w P0 M [] Wi := by
    have hxB : (.int .i64 0 : Value) = .int .i64 (P0 : Int) := by congr 1; omega
    rw [hxB] at hWi
    refine ⟨⟨.slice none 0 0, ?_, World.ownsRow_nil _ _ _ _, fun x hx => by cases hx⟩, ?_, ?_, ?_, ?_, hB0⟩
    · rw [hWi]
      have h9 := ((Go.Boxed.new ((((w.alloc (.cells #[.int .i64 (P0 : Int)] 3)).alloc (.cells #[.int .i64 (M : Int)] 3)).alloc (.cells #[.slice none 0 0] 22)).alloc (.cells #[.bool false] 4)) 22 (.slice none 0 0)).alloc (.cells #[.pointer p] 23)).alloc (.cells #[.int .i64 i] 3)
      simpa only [World.size_alloc] using h9
    · rw [hWi]
      exact ((((((Go.Boxed.new w 3 (.int .i64 (P0 : Int))).alloc _).alloc _).alloc _).alloc _).alloc _).alloc _
    · rw [hWi]
      have h9 := (((((Go.Boxed.new (w.alloc (.cells #[.int .i64 (P0 : Int)] 3)) 3 (.int .i64 (M : Int))).alloc (.cells #[.slice none 0 0] 22)).alloc (.cells #[.bool false] 4)).alloc (.cells #[.slice none 0 0] 22)).alloc (.cells #[.pointer p] 23)).alloc (.cells #[.int .i64 i] 3)
      simpa only [World.size_alloc] using h9
    · rw [hWi]
      have h9 := ((((Go.Boxed.new ((w.alloc (.cells #[.int .i64 (P0 : Int)] 3)).alloc (.cells #[.int .i64 (M : Int)] 3)) 22 (.slice none 0 0)).alloc (.cells #[.bool false] 4)).alloc (.cells #[.slice none 0 0] 22)).alloc (.cells #[.pointer p] 23)).alloc (.cells #[.int .i64 i] 3)
      simpa only [World.size_alloc] using h9
    · rw [hWi]
      have h9 := (((Go.Boxed.new (((w.alloc (.cells #[.int .i64 (P0 : Int)] 3)).alloc (.cells #[.int .i64 (M : Int)] 3)).alloc (.cells #[.slice none 0 0] 22)) 4 (.bool false)).alloc (.cells #[.slice none 0 0] 22)).alloc (.cells #[.pointer p] 23)).alloc (.cells #[.int .i64 i] 3)
      simpa only [World.size_alloc] using h9
  have hqP : ∀ k, k < (fromL l (P0 : Int)).length → P0 + k < l.length := fun k hk => by
    unfold fromL at hk
    split at hk
    · rw [List.length_drop, Int.toNat_natCast] at hk; omega
    · rw [List.length_nil] at hk; omega
  have habx := GoneI.abx w P0 M Wi.heap.size (by omega)
  have HV : Hid (VV w l (.pointer p)) := h
  have Hm1 : Hid (max i 0 = (P0 : Int)) := hm1
  clear hWi hm1 h tf
  refine rangeP (α := CP) rfl (by omega) (gf := 74) (lb := #[.pointer (some ⟨w.heap.size + 1 + 1 + 1 + 1 + 1 + 1, 0, none⟩), .pointer (some ⟨w.heap.size + 1 + 1 + 1 + 1 + 1, 0, none⟩)]) rfl trivial (enters_of Try.func74 (by kernel_rfl) rfl)
    (from1_seq w l p i P0 Hm1.out HV.out 7 _ _ (by omega) Wi hB0 cI cV) kpX_t (fun W o o' hl ho => kpX_b (by omega) (by omega) W o o' hl ho) (Below.refl _ _) (fun _ => rfl)
    (GoneI w P0 M) habx hG0
    (GoneA w.heap.size P0 (fun x Bx => { tmps := #[.pointer p, .int .i64 i, .int .i64 (M : Int), undef, .pointer (some ⟨w.heap.size, 0, none⟩), .pointer (some ⟨w.heap.size + 1, 0, none⟩), .pointer (some ⟨w.heap.size + 1 + 1, 0, none⟩), .pointer (some ⟨w.heap.size + 1 + 1 + 1, 0, none⟩), .pointer (some ⟨w.heap.size + 1 + 1 + 1 + 1, 0, none⟩), .func (.func 74) #[] #[.pointer (some ⟨w.heap.size + 1 + 1 + 1 + 1 + 1 + 1, 0, none⟩), .pointer (some ⟨w.heap.size + 1 + 1 + 1 + 1 + 1, 0, none⟩)], .int .i64 x.i, .pointer (some ⟨Bx, 0, none⟩), .pointer p, .int .i64 i, .func (.func 74) #[] #[.pointer (some ⟨w.heap.size + 1 + 1 + 1 + 1 + 1 + 1, 0, none⟩), .pointer (some ⟨w.heap.size + 1 + 1 + 1 + 1 + 1, 0, none⟩)], .func (.func 74) #[] #[.pointer (some ⟨w.heap.size + 1 + 1 + 1 + 1 + 1 + 1, 0, none⟩), .pointer (some ⟨w.heap.size + 1 + 1 + 1 + 1 + 1, 0, none⟩)], .bool false, .bool false, .int .i64 (M : Int), .bool (decide ((M : Int) < 1)), .bool (decide ((M : Int) < 1)), .int .i64 i, .bool true, .func (.func 74) #[] #[.pointer (some ⟨w.heap.size + 1 + 1 + 1 + 1 + 1 + 1, 0, none⟩), .pointer (some ⟨w.heap.size + 1 + 1 + 1 + 1 + 1, 0, none⟩)], .int .i64 x.i, .agg #[.int .i64 x.t.kind, .int .i64 x.t.num, .string x.t.text, .slice x.a x.t.items.length x.c], undef, undef, undef, undef, undef, undef, undef, undef, undef, undef, undef, undef, undef, undef, undef, undef, undef], defers := [] })) (fun pre x a' => GoneA.own _ _ _ (by omega) _ _ _ _) ?assign ?body ?done
  case assign =>
    rintro lp pre x V W K hI hbVW ⟨hxi, hLB, hts⟩ hK
    have hba : Below W.heap.size W (W.alloc (.cells #[.int .i64 x.t.kind, .int .i64 x.t.num, .string x.t.text, .slice x.a x.t.items.length x.c] 31)) := ((Grew.refl W).alloc _).below
    have hbVa := hbVW.trans (hba.mono hbVW.size)
    have hIa := habx pre V _ none hI (grown_of_below hbVa) (fun r e => by cases e)
    obtain ⟨⟨v, bx, hrow, _⟩, _, _, _, _, hB⟩ := hI
    have hvo : ∀ g, v.ownBlock = some g → g < V.heap.size := fun g hg => (hrow.lt g hg).2
    have hb8 : w.heap.size + 1 + 1 + 1 + 1 < V.heap.size := bx.lt
    have hs1 := hbVW.size
    have HK : Hid (K _ _) := hK _ _ ((KeepsOthers.alloc W (.cells #[.int .i64 x.t.kind, .int .i64 x.t.num, .string x.t.text, .slice x.a x.t.items.length x.c] 31)).from _) ⟨hba.mono (by omega), KBx.below hba, keepsBelowV hba⟩ hIa ⟨W.heap.size, v, World.alloc_heap_new W _, by omega, (hbVa.block _ bx.lt).trans bx, (fun e => by have := hvo _ e; omega), (LiesX.of_b hLB).both.stays (fun k hk => ⟨by omega, (fun e => by have := hvo _ e; omega), by have := hk.2; rw [World.size_alloc]; omega⟩) (fun a u _ hu => cell_keeps hba hu), hts, hxi, rfl⟩
    clear hK hxi
    unfold encCP
    gi_wp2
    exact HK.out
  case body =>
    rintro lp pre ⟨xi, t, xa, xc⟩ a' W hlp ⟨⟨v, bx, hrow, hl⟩, b1, b2, b3, b4', hB⟩ ⟨Bx, v', b4, hBx, bx', hne, hLx, hts, hxi, rfl⟩ hlt
    simp only at b4 hLx hts hxi
    subst hxi
    have hvv : v' = v := by
      have h1 : W.heap[w.heap.size + 1 + 1 + 1 + 1]? = some (.cells #[v'] 22 (0, 0)) := bx'
      have h2 : W.heap[w.heap.size + 1 + 1 + 1 + 1]? = some (.cells #[v] 22 (0, 0)) := bx
      rw [h1] at h2
      injection h2 with h2
      injection h2 with h2
      simpa using h2
    subst hvv
    obtain ⟨av, cv, hv⟩ : ∃ a c, v' = .slice a pre.length c := by
      rcases hrow.2 with ⟨rfl, e⟩ | ⟨g, cap, _, rfl, _⟩
      · exact ⟨none, 0, by rw [e]⟩
      · exact ⟨_, _, rfl⟩
    subst hv
    have hPk := hqP pre.length hlt
    obtain ⟨k, hk⟩ : ∃ k, k = pre.length := ⟨_, rfl⟩
    rw [← hk] at bx hrow hne hlt hLx hl hPk ⊢
    have hkq : k ≤ 65536 := by omega
    obtain ⟨y0, y1, y2, y3⟩ := b4.cells
    have hc := bx.cell
    have hBl := bx.lt
    have hBxl := b4.lt
    have c4 := b1.cell
    have c5 := b2.cell
    have hcD : W.drew.cell? ⟨w.heap.size + 1 + 1 + 1 + 1, 0, none⟩ = some (.slice av k cv) := hc
    have d0 : W.drew.cell? ⟨Bx, 0, none⟩ = some (.int .i64 t.kind) := y0
    have d1 : W.drew.cell? ⟨Bx, 1, none⟩ = some (.int .i64 t.num) := y1
    have d2 : W.drew.cell? ⟨Bx, 2, none⟩ = some (.string t.text) := y2
    have d3 : W.drew.cell? ⟨Bx, 3, none⟩ = some (.slice xa t.items.length xc) := y3
    have hn1 : ¬ (Bx = W.heap.size) := by omega
    have hn2 : ¬ (w.heap.size + 1 + 1 + 1 + 1 = W.heap.size) := by omega
    have hwP : IntKind.i64.wrap ((P0 : Int) + (k : Int)) = (P0 : Int) + (k : Int) := by rw [IntKind.wrap_i64]; omega
    have hge : ¬ ((M : Nat) : Int) ≤ (k : Int) + 1 := by have := HM.out; omega
    have hge2 : ¬ M ≤ k + 1 := by have := HM.out; omega
    have HRow : Hid ((W.alloc (.cells #[.int .i64 0, .int .i64 0, .string ⟨#[]⟩, .slice none 0 0] 31)).drew.ownsRow w.heap.size 31 4 (.slice av k cv) k (pre.flatMap encQ1)) := (hrow.alloc _).drew
    have Hbs : Hid (w.heap.size ≤ (W.alloc (.cells #[.int .i64 0, .int .i64 0, .string ⟨#[]⟩, .slice none 0 0] 31)).drew.heap.size) := by
      have := hB.size
      show _ ≤ _
      simp
      omega
    have Hxl : Hid ((pre.flatMap encQ1).length = k * 4) := hrow.1
    have HStep : Hid (∀ (g cap : Nat) (w3 : World), w3.ownsRow w.heap.size 31 4 (.slice (some ⟨g, 0, none⟩) (k + 1) cap) (k + 1) ((pre.flatMap encQ1) ++ [.int .i64 0, .int .i64 0, .string ⟨#[]⟩, .slice none 0 0]) → (W.alloc (.cells #[.int .i64 0, .int .i64 0, .string ⟨#[]⟩, .slice none 0 0] 31)).drew.grownBy w3 (Value.slice av k cv).ownBlock → ((Value.slice av k cv).ownBlock = some g ∨ g = (W.alloc (.cells #[.int .i64 0, .int .i64 0, .string ⟨#[]⟩, .slice none 0 0] 31)).drew.heap.size) →
        Go.Boxed w3 (w.heap.size + 1 + 1 + 1 + 1) 22 (.slice av k cv) ∧ g ≠ w.heap.size + 1 + 1 + 1 + 1 ∧ w3.cell? ⟨w.heap.size + 1, 0, none⟩ = some (.int .i64 (M : Int)) ∧ g ≠ w.heap.size + 1 ∧ ∀ Z : World, (Z = (w3.setCells g (k * 4) (encP (t, .slice xa t.items.length xc))).setCell ⟨w.heap.size + 1 + 1 + 1 + 1, 0, none⟩ (.slice (some ⟨g, 0, none⟩) (k + 1) cap) ∨ Z = (w3.setCell ⟨w.heap.size + 1 + 1 + 1 + 1, 0, none⟩ (.slice (some ⟨g, 0, none⟩) (k + 1) cap)).setCells g (k * 4) (encP (t, .slice xa t.items.length xc))) →
          KeepsOthers W Z ∧ KpX w.heap.size (Wi.heap.size + 2) W Z ∧ GoneI w P0 M (pre ++ [⟨((P0 + k : Nat) : Int), t, xa, xc⟩]) Z) := fun g cap w3 hown hgrow hg => by
      have hvo : ∀ j, (Value.slice av k cv).ownBlock = some j → w.heap.size ≤ j ∧ j < W.heap.size := fun j hj => hrow.lt j hj
      have hbox : ∀ (B T : Nat) (u : Value), Go.Boxed W B T u → some B ≠ (Value.slice av k cv).ownBlock := fun B T u hbu e => by
        have hbu' : W.heap[B]? = some (.cells #[u] T (0, 0)) := hbu
        rcases hrow.2 with ⟨e1, _⟩ | ⟨g9, cap9, cur, e1, _, e2, _, _, e4, _⟩
        · rw [e1] at e; cases e
        · rw [e1] at e
          have hgB : B = g9 := by simpa [Value.ownBlock] using e
          subst hgB
          rw [e2] at hbu'
          injection hbu' with hbu'
          injection hbu' with hcu _
          rw [hcu] at e4
          simp at e4
          omega
      have hnb : ∀ (B T : Nat) (u : Value), Go.Boxed W B T u → g ≠ B := fun B T u hbu => by
        rcases hg with hg | hg
        · exact fun e => hbox B T u hbu (by rw [hg, e])
        · have := hbu.lt; simp at hg; omega
      have hk3B : ∀ (B T : Nat) (u : Value), Go.Boxed W B T u → Go.Boxed w3 B T u := fun B T u hbu => (show Go.Boxed (W.alloc (.cells #[.int .i64 0, .int .i64 0, .string ⟨#[]⟩, .slice none 0 0] 31)).drew B T u from hbu.alloc _).kept hgrow (hbox B T u hbu)
      have hw3 : Below w.heap.size W w3 := by
        have h1 : Below w.heap.size W (W.alloc (.cells #[.int .i64 0, .int .i64 0, .string ⟨#[]⟩, .slice none 0 0] 31)).drew := ((Below.refl _ W).alloc (by have := hB.size; omega) _).drew
        exact h1.grown hgrow Hbs.out (fun j e => (hvo j e).1)
      have hk3 : KeepsOthers W w3 := by
        refine ((KeepsOthers.alloc W _).trans (KeepsOthers.drew _)).trans (KeepsOthers.of_grownBy hgrow (fun j o e ho => ?_))
        rcases HRow.out.2 with ⟨e1, _⟩ | ⟨g9, cap9, cur, e1, _, e2, _⟩
        · rw [e1] at e; cases e
        · rw [e1] at e
          have : g9 = j := by simpa [Value.ownBlock] using e
          subst this
          rw [e2] at ho
          cases ho
          rfl
      have hcw3 : ∀ (a : Addr) (u : Value), (Value.slice av k cv).ownBlock ≠ some a.block → W.cell? a = some u → w3.cell? a = some u := fun a u hn hu => by
        have h1 : (W.alloc (.cells #[.int .i64 0, .int .i64 0, .string ⟨#[]⟩, .slice none 0 0] 31)).drew.cell? a = some u := cell_keeps (show Below W.heap.size W (W.alloc (.cells #[.int .i64 0, .int .i64 0, .string ⟨#[]⟩, .slice none 0 0] 31)).drew from (((Grew.refl W).alloc _).below).drew) hu
        exact (World.cell?_of_block (hgrow.block a.block (cell_lt h1) (fun e => hn e.symm))).trans h1
      refine ⟨hk3B _ _ _ bx, hnb _ _ _ bx, (hk3B _ _ _ b2).cell, hnb _ _ _ b2, fun Z hZ => ?_⟩
      have hgn0 : w.heap.size ≤ g := (hown.lt g rfl).1
      obtain ⟨z1, z2, z3, z4⟩ := seq_one (by omega) hgn0 (hnb _ _ _ bx) (hk3B _ _ _ bx) hown Hxl.out hZ
      have hbox3 : ∀ (B T : Nat) (u : Value), B ≠ w.heap.size + 1 + 1 + 1 + 1 → Go.Boxed W B T u → Go.Boxed Z B T u := fun B T u hB8 hbu => by
        have h3 := hk3B B T u hbu
        rcases hZ with rfl | rfl
        · exact (boxed_put h3 (hnb B T u hbu) t _).kept (grownBy_setCell' _ _ _) (by simp; omega)
        · exact boxed_put (h3.kept (grownBy_setCell' _ _ _) (by simp; omega)) (hnb B T u hbu) t _
      have hcZ : ∀ (a : Addr) (u : Value), a.block ≠ g → a.block ≠ w.heap.size + 1 + 1 + 1 + 1 → w3.cell? a = some u → Z.cell? a = some u := fun a u h1 h2 hu => by
        rcases hZ with rfl | rfl
        · refine (grownBy_setCell' _ _ _).cell ?_ (fun e => h2 (by injection e))
          rw [World.cell?_setCells_out g _ _ w3 a (fun e _ => absurd e h1)]
          exact hu
        · rw [World.cell?_setCells_out g _ _ _ a (fun e _ => absurd e h1)]
          exact (grownBy_setCell' _ _ _).cell hu (fun e => h2 (by injection e))
      have hZs : W.heap.size ≤ Z.heap.size := (hk3.trans z3).size
      have hkx : ∀ k2, k2 ≠ w.heap.size + 1 + 1 + 1 + 1 ∧ (Value.slice av k cv).ownBlock ≠ some k2 ∧ k2 < W.heap.size → k2 ≠ g := fun k2 hk2 e => by
        rcases hg with hg | hg
        · exact hk2.2.1 (by rw [hg, e])
        · simp at hg; have := hk2.2.2; omega
      have hst9 : ∀ (y : CP), LiesX (fun k2 => k2 ≠ w.heap.size + 1 + 1 + 1 + 1 ∧ (Value.slice av k cv).ownBlock ≠ some k2 ∧ k2 < W.heap.size) 16 W y.t.items (.slice y.a y.t.items.length y.c) → LiesX (fun k2 => k2 ≠ w.heap.size + 1 + 1 + 1 + 1 ∧ (Value.slice (some ⟨g, 0, none⟩) (k + 1) cap).ownBlock ≠ some k2 ∧ k2 < Z.heap.size) 16 Z y.t.items (.slice y.a y.t.items.length y.c) := fun y hy =>
        hy.stays (fun k2 hk2 => ⟨hk2.1, (fun e => hkx k2 hk2 (by simpa [Value.ownBlock] using e.symm)), Nat.lt_of_lt_of_le hk2.2.2 hZs⟩) (fun a u hX hu => hcZ a u (hkx _ hX) hX.1 (hcw3 a u hX.2.1 hu))
      refine ⟨hk3.trans z3, ⟨hw3.trans z4, fun B T u hT hbu => hbox3 B T u (fun e => ?_) hbu, (hk3.trans z3).from _⟩, ⟨_, z1, ?_, fun y hy => ?_⟩, hbox3 _ _ _ (by omega) b1, hbox3 _ _ _ (by omega) b2, hbox3 _ _ _ (by omega) b3, hbox3 _ _ _ (by omega) b4', hB.trans (hw3.trans z4)⟩
      · subst e
        have h1 : W.heap[w.heap.size + 1 + 1 + 1 + 1]? = some (.cells #[u] T (0, 0)) := hbu
        have h2 : W.heap[w.heap.size + 1 + 1 + 1 + 1]? = some (.cells #[.slice av k cv] 22 (0, 0)) := bx
        rw [h1] at h2
        injection h2 with h2
        injection h2 with _ h2
        exact hT h2
      · rw [List.length_append, List.flatMap_append, ← hk]
        simpa [encQ1] using z2
      · rcases List.mem_append.1 hy with hy | hy
        · exact ⟨hst9 y (hl y hy).1, (hl y hy).2⟩
        · rw [List.mem_singleton.1 hy]
          exact ⟨hst9 ⟨((P0 + k : Nat) : Int), t, xa, xc⟩ hLx, hts⟩
    have hmx : Try.prog.follows .mixedOrders = true := by kernel_rfl
    have hkk : ((k : Nat) : Int) < (k : Nat) + 1 := by omega
    clear hrow bx bx' b4 hB hlp hne hlt hk hl hLx b1 b2 b3 b4' hPk
    gi_wp2
    refine wpIn_region_any hmx ?_
    change wpAnyIn _ _ _ _ _ _ _ _ _ (World.drew _)
    refine wpAnyIn_ready (rs := [0, 1, 3]) (by kernel_rfl) (by simp) ?_
    refine AllReadyIn.cons rfl (fun K hK => ?_) ?_
    · go_simp
      refine hK _ _ ?_
      clear hK K
      refine wpAnyIn_ready (rs := [1, 2, 3]) (by kernel_rfl) (by simp) ?_
      refine AllReadyIn.cons rfl (fun K hK => ?_) ?_
      · go_simp
        refine hK _ _ ?_
        clear hK K
        refine wpAnyIn_ready (rs := [2, 3]) (by kernel_rfl) (by simp) ?_
        refine AllReadyIn.cons rfl (fun K hK => ?_) ?_
        · go_simp
          refine hK _ _ ?_
          clear hK K
          refine wpAnyIn_ready (rs := [3]) (by kernel_rfl) (by simp) ?_
          refine AllReadyIn.cons rfl (fun K hK => ?_) ?_
          · go_simp
            refine hK _ _ ?_
            clear hK K
            refine wpAnyIn_ready (rs := [4]) (by kernel_rfl) (by simp) ?_
            refine AllReadyIn.cons rfl (fun K hK => ?_) ?_
            · refine appZ_step rfl _ _ rfl w.heap.size (.slice av k cv) k (pre.flatMap encQ1) rfl HRow.out _ rfl (by simp) (by simp) (by simp) (by simp) hkq Hbs.out ?_
              intro g3 cap3 w3 hown3 hgrow3 hg3 hgl3
              obtain ⟨hbx3, hgB, hm3, hgn, hstep⟩ := HStep.out g3 cap3 w3 hown3 hgrow3 hg3
              have hc3 := hbx3.cell
              have hf3 := hbx3.frozen
              have hgB2 : ¬ (w.heap.size + 1 + 1 + 1 + 1 = g3) := fun e => hgB e.symm
              have hgn2 : ¬ (w.heap.size + 1 = g3) := fun e => hgn e.symm
              have q0 := hown3.cellAt (k * 4) (by omega)
              have q1 := hown3.cellAt (k * 4 + 1) (by omega)
              have q2 := hown3.cellAt (k * 4 + 2) (by omega)
              have q3 := hown3.cellAt (k * 4 + 3) (by omega)
              rw [List.getElem?_append_right (by rw [Hxl.out]; omega), Hxl.out] at q0 q1 q2 q3
              simp only [Nat.sub_self, Nat.add_sub_cancel_left, List.getElem?_cons_zero, List.getElem?_cons_succ] at q0 q1 q2 q3
              have z0 := hown3.frozenAt (k * 4)
              have z1 := hown3.frozenAt (k * 4 + 1)
              have z2 := hown3.frozenAt (k * 4 + 2)
              have z3 := hown3.frozenAt (k * 4 + 3)
              have Hst : Hid _ := hstep
              clear hown3 hgrow3 hg3 hstep
              refine hK _ _ ?_
              clear hK K
              refine wpAnyIn_ready (rs := [5, 7]) (by kernel_rfl) (by simp) ?_
              refine AllReadyIn.cons rfl (fun K hK => ?_) ?_
              · go_simp
                refine hK _ _ ?_
                clear hK K
                refine wpAnyIn_ready (rs := [6, 7]) (by kernel_rfl) (by simp) ?_
                refine AllReadyIn.cons rfl (fun K hK => ?_) ?_
                · go_simp
                  refine hK _ _ ?_
                  clear hK K
                  refine wpAnyIn_ready (rs := [7]) (by kernel_rfl) (by simp) ?_
                  refine AllReadyIn.cons rfl (fun K hK => ?_) ?_
                  · go_simp
                    refine hK _ _ ?_
                    clear hK K
                    refine wpAnyIn_done (by kernel_rfl) ?_ _
                    gi_wp2
                    obtain ⟨k1, k2, k3⟩ := Hst.out _ (.inl rfl)
                    exact ⟨k1.from _, k2, k3⟩
                  exact AllReadyIn.nil
                refine AllReadyIn.cons rfl (fun K hK => ?_) ?_
                · go_simp
                  refine hK _ _ ?_
                  clear hK K
                  refine wpAnyIn_ready (rs := [6]) (by kernel_rfl) (by simp) ?_
                  refine AllReadyIn.cons rfl (fun K hK => ?_) ?_
                  · go_simp
                    refine hK _ _ ?_
                    clear hK K
                    refine wpAnyIn_done (by kernel_rfl) ?_ _
                    gi_wp2
                    obtain ⟨k1, k2, k3⟩ := Hst.out _ (.inr rfl)
                    exact ⟨k1.from _, k2, k3⟩
                  exact AllReadyIn.nil
                exact AllReadyIn.nil
              refine AllReadyIn.cons rfl (fun K hK => ?_) ?_
              · go_simp
                refine hK _ _ ?_
                clear hK K
                refine wpAnyIn_ready (rs := [5]) (by kernel_rfl) (by simp) ?_
                refine AllReadyIn.cons rfl (fun K hK => ?_) ?_
                · go_simp
                  refine hK _ _ ?_
                  clear hK K
                  refine wpAnyIn_ready (rs := [6]) (by kernel_rfl) (by simp) ?_
                  refine AllReadyIn.cons rfl (fun K hK => ?_) ?_
                  · go_simp
                    refine hK _ _ ?_
                    clear hK K
                    refine wpAnyIn_done (by kernel_rfl) ?_ _
                    gi_wp2
                    obtain ⟨k1, k2, k3⟩ := Hst.out _ (.inr rfl)
                    exact ⟨k1.from _, k2, k3⟩
                  exact AllReadyIn.nil
                exact AllReadyIn.nil
              exact AllReadyIn.nil
            exact AllReadyIn.nil
          exact AllReadyIn.nil
        refine AllReadyIn.cons rfl (fun K hK => ?_) ?_
        · go_simp
          refine hK _ _ ?_
          clear hK K
          refine wpAnyIn_ready (rs := [2]) (by kernel_rfl) (by simp) ?_
          refine AllReadyIn.cons rfl (fun K hK => ?_) ?_
          · go_simp
            refine hK _ _ ?_
            clear hK K
            refine wpAnyIn_ready (rs := [4]) (by kernel_rfl) (by simp) ?_
            refine AllReadyIn.cons rfl (fun K hK => ?_) ?_
            · refine appZ_step rfl _ _ rfl w.heap.size (.slice av k cv) k (pre.flatMap encQ1) rfl HRow.out _ rfl (by simp) (by simp) (by simp) (by simp) hkq Hbs.out ?_
              intro g3 cap3 w3 hown3 hgrow3 hg3 hgl3
              obtain ⟨hbx3, hgB, hm3, hgn, hstep⟩ := HStep.out g3 cap3 w3 hown3 hgrow3 hg3
              have hc3 := hbx3.cell
              have hf3 := hbx3.frozen
              have hgB2 : ¬ (w.heap.size + 1 + 1 + 1 + 1 = g3) := fun e => hgB e.symm
              have hgn2 : ¬ (w.heap.size + 1 = g3) := fun e => hgn e.symm
              have q0 := hown3.cellAt (k * 4) (by omega)
              have q1 := hown3.cellAt (k * 4 + 1) (by omega)
              have q2 := hown3.cellAt (k * 4 + 2) (by omega)
              have q3 := hown3.cellAt (k * 4 + 3) (by omega)
              rw [List.getElem?_append_right (by rw [Hxl.out]; omega), Hxl.out] at q0 q1 q2 q3
              simp only [Nat.sub_self, Nat.add_sub_cancel_left, List.getElem?_cons_zero, List.getElem?_cons_succ] at q0 q1 q2 q3
              have z0 := hown3.frozenAt (k * 4)
              have z1 := hown3.frozenAt (k * 4 + 1)
              have z2 := hown3.frozenAt (k * 4 + 2)
              have z3 := hown3.frozenAt (k * 4 + 3)
              have Hst : Hid _ := hstep
              clear hown3 hgrow3 hg3 hstep
              refine hK _ _ ?_
              clear hK K
              refine wpAnyIn_ready (rs := [5, 7]) (by kernel_rfl) (by simp) ?_
              refine AllReadyIn.cons rfl (fun K hK => ?_) ?_
              · go_simp
                refine hK _ _ ?_
                clear hK K
                refine wpAnyIn_ready (rs := [6, 7]) (by kernel_rfl) (by simp) ?_
                refine AllReadyIn.cons rfl (fun K hK => ?_) ?_
                · go_simp
                  refine hK _ _ ?_
                  clear hK K
                  refine wpAnyIn_ready (rs := [7]) (by kernel_rfl) (by simp) ?_
                  refine AllReadyIn.cons rfl (fun K hK => ?_) ?_
                  · go_simp
                    refine hK _ _ ?_
                    clear hK K
                    refine wpAnyIn_done (by kernel_rfl) ?_ _
                    gi_wp2
                    obtain ⟨k1, k2, k3⟩ := Hst.out _ (.inl rfl)
                    exact ⟨k1.from _, k2, k3⟩
                  exact AllReadyIn.nil
                refine AllReadyIn.cons rfl (fun K hK => ?_) ?_
                · go_simp
                  refine hK _ _ ?_
                  clear hK K
                  refine wpAnyIn_ready (rs := [6]) (by kernel_rfl) (by simp) ?_
                  refine AllReadyIn.cons rfl (fun K hK => ?_) ?_
                  · go_simp
                    refine hK _ _ ?_
                    clear hK K
                    refine wpAnyIn_done (by kernel_rfl) ?_ _
                    gi_wp2
                    obtain ⟨k1, k2, k3⟩ := Hst.out _ (.inr rfl)
                    exact ⟨k1.from _, k2, k3⟩
                  exact AllReadyIn.nil
                exact AllReadyIn.nil
              refine AllReadyIn.cons rfl (fun K hK => ?_) ?_
              · go_simp
                refine hK _ _ ?_
                clear hK K
                refine wpAnyIn_ready (rs := [5]) (by kernel_rfl) (by simp) ?_
                refine AllReadyIn.cons rfl (fun K hK => ?_) ?_
                · go_simp
                  refine hK _ _ ?_
                  clear hK K
                  refine wpAnyIn_ready (rs := [6]) (by kernel_rfl) (by simp) ?_
                  refine AllReadyIn.cons rfl (fun K hK => ?_) ?_
                  · go_simp
                    refine hK _ _ ?_
                    clear hK K
                    refine wpAnyIn_done (by kernel_rfl) ?_ _
                    gi_wp2
                    obtain ⟨k1, k2, k3⟩ := Hst.out _ (.inr rfl)
                    exact ⟨k1.from _, k2, k3⟩
                  exact AllReadyIn.nil
                exact AllReadyIn.nil
              exact AllReadyIn.nil
            exact AllReadyIn.nil
          exact AllReadyIn.nil
        exact AllReadyIn.nil
      refine AllReadyIn.cons rfl (fun K hK => ?_) ?_
      · go_simp
        refine hK _ _ ?_
        clear hK K
        refine wpAnyIn_ready (rs := [1, 3]) (by kernel_rfl) (by simp) ?_
        refine AllReadyIn.cons rfl (fun K hK => ?_) ?_
        · go_simp
          refine hK _ _ ?_
          clear hK K
          refine wpAnyIn_ready (rs := [3]) (by kernel_rfl) (by simp) ?_
          refine AllReadyIn.cons rfl (fun K hK => ?_) ?_
          · go_simp
            refine hK _ _ ?_
            clear hK K
            refine wpAnyIn_ready (rs := [4]) (by kernel_rfl) (by simp) ?_
            refine AllReadyIn.cons rfl (fun K hK => ?_) ?_
            · refine appZ_step rfl _ _ rfl w.heap.size (.slice av k cv) k (pre.flatMap encQ1) rfl HRow.out _ rfl (by simp) (by simp) (by simp) (by simp) hkq Hbs.out ?_
              intro g3 cap3 w3 hown3 hgrow3 hg3 hgl3
              obtain ⟨hbx3, hgB, hm3, hgn, hstep⟩ := HStep.out g3 cap3 w3 hown3 hgrow3 hg3
              have hc3 := hbx3.cell
              have hf3 := hbx3.frozen
              have hgB2 : ¬ (w.heap.size + 1 + 1 + 1 + 1 = g3) := fun e => hgB e.symm
              have hgn2 : ¬ (w.heap.size + 1 = g3) := fun e => hgn e.symm
              have q0 := hown3.cellAt (k * 4) (by omega)
              have q1 := hown3.cellAt (k * 4 + 1) (by omega)
              have q2 := hown3.cellAt (k * 4 + 2) (by omega)
              have q3 := hown3.cellAt (k * 4 + 3) (by omega)
              rw [List.getElem?_append_right (by rw [Hxl.out]; omega), Hxl.out] at q0 q1 q2 q3
              simp only [Nat.sub_self, Nat.add_sub_cancel_left, List.getElem?_cons_zero, List.getElem?_cons_succ] at q0 q1 q2 q3
              have z0 := hown3.frozenAt (k * 4)
              have z1 := hown3.frozenAt (k * 4 + 1)
              have z2 := hown3.frozenAt (k * 4 + 2)
              have z3 := hown3.frozenAt (k * 4 + 3)
              have Hst : Hid _ := hstep
              clear hown3 hgrow3 hg3 hstep
              refine hK _ _ ?_
              clear hK K
              refine wpAnyIn_ready (rs := [5, 7]) (by kernel_rfl) (by simp) ?_
              refine AllReadyIn.cons rfl (fun K hK => ?_) ?_
              · go_simp
                refine hK _ _ ?_
                clear hK K
                refine wpAnyIn_ready (rs := [6, 7]) (by kernel_rfl) (by simp) ?_
                refine AllReadyIn.cons rfl (fun K hK => ?_) ?_
                · go_simp
                  refine hK _ _ ?_
                  clear hK K
                  refine wpAnyIn_ready (rs := [7]) (by kernel_rfl) (by simp) ?_
                  refine AllReadyIn.cons rfl (fun K hK => ?_) ?_
                  · go_simp
                    refine hK _ _ ?_
                    clear hK K
                    refine wpAnyIn_done (by kernel_rfl) ?_ _
                    gi_wp2
                    obtain ⟨k1, k2, k3⟩ := Hst.out _ (.inl rfl)
                    exact ⟨k1.from _, k2, k3⟩
                  exact AllReadyIn.nil
                refine AllReadyIn.cons rfl (fun K hK => ?_) ?_
                · go_simp
                  refine hK _ _ ?_
                  clear hK K
                  refine wpAnyIn_ready (rs := [6]) (by kernel_rfl) (by simp) ?_
                  refine AllReadyIn.cons rfl (fun K hK => ?_) ?_
                  · go_simp
                    refine hK _ _ ?_
                    clear hK K
                    refine wpAnyIn_done (by kernel_rfl) ?_ _
                    gi_wp2
                    obtain ⟨k1, k2, k3⟩ := Hst.out _ (.inr rfl)
                    exact ⟨k1.from _, k2, k3⟩
                  exact AllReadyIn.nil
                exact AllReadyIn.nil
              refine AllReadyIn.cons rfl (fun K hK => ?_) ?_
              · go_simp
                refine hK _ _ ?_
                clear hK K
                refine wpAnyIn_ready (rs := [5]) (by kernel_rfl) (by simp) ?_
                refine AllReadyIn.cons rfl (fun K hK => ?_) ?_
                · go_simp
                  refine hK _ _ ?_
                  clear hK K
                  refine wpAnyIn_ready (rs := [6]) (by kernel_rfl) (by simp) ?_
                  refine AllReadyIn.cons rfl (fun K hK => ?_) ?_
                  · go_simp
                    refine hK _ _ ?_
                    clear hK K
                    refine wpAnyIn_done (by kernel_rfl) ?_ _
                    gi_wp2
                    obtain ⟨k1, k2, k3⟩ := Hst.out _ (.inr rfl)
                    exact ⟨k1.from _, k2, k3⟩
                  exact AllReadyIn.nil
                exact AllReadyIn.nil
              exact AllReadyIn.nil
            exact AllReadyIn.nil
          exact AllReadyIn.nil
        refine AllReadyIn.cons rfl (fun K hK => ?_) ?_
        · go_simp
          refine hK _ _ ?_
          clear hK K
          refine wpAnyIn_ready (rs := [1]) (by kernel_rfl) (by simp) ?_
          refine AllReadyIn.cons rfl (fun K hK => ?_) ?_
          · go_simp
            refine hK _ _ ?_
            clear hK K
            refine wpAnyIn_ready (rs := [4]) (by kernel_rfl) (by simp) ?_
            refine AllReadyIn.cons rfl (fun K hK => ?_) ?_
            · refine appZ_step rfl _ _ rfl w.heap.size (.slice av k cv) k (pre.flatMap encQ1) rfl HRow.out _ rfl (by simp) (by simp) (by simp) (by simp) hkq Hbs.out ?_
              intro g3 cap3 w3 hown3 hgrow3 hg3 hgl3
              obtain ⟨hbx3, hgB, hm3, hgn, hstep⟩ := HStep.out g3 cap3 w3 hown3 hgrow3 hg3
              have hc3 := hbx3.cell
              have hf3 := hbx3.frozen
              have hgB2 : ¬ (w.heap.size + 1 + 1 + 1 + 1 = g3) := fun e => hgB e.symm
              have hgn2 : ¬ (w.heap.size + 1 = g3) := fun e => hgn e.symm
              have q0 := hown3.cellAt (k * 4) (by omega)
              have q1 := hown3.cellAt (k * 4 + 1) (by omega)
              have q2 := hown3.cellAt (k * 4 + 2) (by omega)
              have q3 := hown3.cellAt (k * 4 + 3) (by omega)
              rw [List.getElem?_append_right (by rw [Hxl.out]; omega), Hxl.out] at q0 q1 q2 q3
              simp only [Nat.sub_self, Nat.add_sub_cancel_left, List.getElem?_cons_zero, List.getElem?_cons_succ] at q0 q1 q2 q3
              have z0 := hown3.frozenAt (k * 4)
              have z1 := hown3.frozenAt (k * 4 + 1)
              have z2 := hown3.frozenAt (k * 4 + 2)
              have z3 := hown3.frozenAt (k * 4 + 3)
              have Hst : Hid _ := hstep
              clear hown3 hgrow3 hg3 hstep
              refine hK _ _ ?_
              clear hK K
              refine wpAnyIn_ready (rs := [5, 7]) (by kernel_rfl) (by simp) ?_
              refine AllReadyIn.cons rfl (fun K hK => ?_) ?_
              · go_simp
                refine hK _ _ ?_
                clear hK K
                refine wpAnyIn_ready (rs := [6, 7]) (by kernel_rfl) (by simp) ?_
                refine AllReadyIn.cons rfl (fun K hK => ?_) ?_
                · go_simp
                  refine hK _ _ ?_
                  clear hK K
                  refine wpAnyIn_ready (rs := [7]) (by kernel_rfl) (by simp) ?_
                  refine AllReadyIn.cons rfl (fun K hK => ?_) ?_
                  · go_simp
                    refine hK _ _ ?_
                    clear hK K
                    refine wpAnyIn_done (by kernel_rfl) ?_ _
                    gi_wp2
                    obtain ⟨k1, k2, k3⟩ := Hst.out _ (.inl rfl)
                    exact ⟨k1.from _, k2, k3⟩
                  exact AllReadyIn.nil
                refine AllReadyIn.cons rfl (fun K hK => ?_) ?_
                · go_simp
                  refine hK _ _ ?_
                  clear hK K
                  refine wpAnyIn_ready (rs := [6]) (by kernel_rfl) (by simp) ?_
                  refine AllReadyIn.cons rfl (fun K hK => ?_) ?_
                  · go_simp
                    refine hK _ _ ?_
                    clear hK K
                    refine wpAnyIn_done (by kernel_rfl) ?_ _
                    gi_wp2
                    obtain ⟨k1, k2, k3⟩ := Hst.out _ (.inr rfl)
                    exact ⟨k1.from _, k2, k3⟩
                  exact AllReadyIn.nil
                exact AllReadyIn.nil
              refine AllReadyIn.cons rfl (fun K hK => ?_) ?_
              · go_simp
                refine hK _ _ ?_
                clear hK K
                refine wpAnyIn_ready (rs := [5]) (by kernel_rfl) (by simp) ?_
                refine AllReadyIn.cons rfl (fun K hK => ?_) ?_
                · go_simp
                  refine hK _ _ ?_
                  clear hK K
                  refine wpAnyIn_ready (rs := [6]) (by kernel_rfl) (by simp) ?_
                  refine AllReadyIn.cons rfl (fun K hK => ?_) ?_
                  · go_simp
                    refine hK _ _ ?_
                    clear hK K
                    refine wpAnyIn_done (by kernel_rfl) ?_ _
                    gi_wp2
                    obtain ⟨k1, k2, k3⟩ := Hst.out _ (.inr rfl)
                    exact ⟨k1.from _, k2, k3⟩
                  exact AllReadyIn.nil
                exact AllReadyIn.nil
              exact AllReadyIn.nil
            exact AllReadyIn.nil
          exact AllReadyIn.nil
        exact AllReadyIn.nil
      refine AllReadyIn.cons rfl (fun K hK => ?_) ?_
      · go_simp
        refine hK _ _ ?_
        clear hK K
        refine wpAnyIn_ready (rs := [1, 2]) (by kernel_rfl) (by simp) ?_
        refine AllReadyIn.cons rfl (fun K hK => ?_) ?_
        · go_simp
          refine hK _ _ ?_
          clear hK K
          refine wpAnyIn_ready (rs := [2]) (by kernel_rfl) (by simp) ?_
          refine AllReadyIn.cons rfl (fun K hK => ?_) ?_
          · go_simp
            refine hK _ _ ?_
            clear hK K
            refine wpAnyIn_ready (rs := [4]) (by kernel_rfl) (by simp) ?_
            refine AllReadyIn.cons rfl (fun K hK => ?_) ?_
            · refine appZ_step rfl _ _ rfl w.heap.size (.slice av k cv) k (pre.flatMap encQ1) rfl HRow.out _ rfl (by simp) (by simp) (by simp) (by simp) hkq Hbs.out ?_
              intro g3 cap3 w3 hown3 hgrow3 hg3 hgl3
              obtain ⟨hbx3, hgB, hm3, hgn, hstep⟩ := HStep.out g3 cap3 w3 hown3 hgrow3 hg3
              have hc3 := hbx3.cell
              have hf3 := hbx3.frozen
              have hgB2 : ¬ (w.heap.size + 1 + 1 + 1 + 1 = g3) := fun e => hgB e.symm
              have hgn2 : ¬ (w.heap.size + 1 = g3) := fun e => hgn e.symm
              have q0 := hown3.cellAt (k * 4) (by omega)
              have q1 := hown3.cellAt (k * 4 + 1) (by omega)
              have q2 := hown3.cellAt (k * 4 + 2) (by omega)
              have q3 := hown3.cellAt (k * 4 + 3) (by omega)
              rw [List.getElem?_append_right (by rw [Hxl.out]; omega), Hxl.out] at q0 q1 q2 q3
              simp only [Nat.sub_self, Nat.add_sub_cancel_left, List.getElem?_cons_zero, List.getElem?_cons_succ] at q0 q1 q2 q3
              have z0 := hown3.frozenAt (k * 4)
              have z1 := hown3.frozenAt (k * 4 + 1)
              have z2 := hown3.frozenAt (k * 4 + 2)
              have z3 := hown3.frozenAt (k * 4 + 3)
              have Hst : Hid _ := hstep
              clear hown3 hgrow3 hg3 hstep
              refine hK _ _ ?_
              clear hK K
              refine wpAnyIn_ready (rs := [5, 7]) (by kernel_rfl) (by simp) ?_
              refine AllReadyIn.cons rfl (fun K hK => ?_) ?_
              · go_simp
                refine hK _ _ ?_
                clear hK K
                refine wpAnyIn_ready (rs := [6, 7]) (by kernel_rfl) (by simp) ?_
                refine AllReadyIn.cons rfl (fun K hK => ?_) ?_
                · go_simp
                  refine hK _ _ ?_
                  clear hK K
                  refine wpAnyIn_ready (rs := [7]) (by kernel_rfl) (by simp) ?_
                  refine AllReadyIn.cons rfl (fun K hK => ?_) ?_
                  · go_simp
                    refine hK _ _ ?_
                    clear hK K
                    refine wpAnyIn_done (by kernel_rfl) ?_ _
                    gi_wp2
                    obtain ⟨k1, k2, k3⟩ := Hst.out _ (.inl rfl)
                    exact ⟨k1.from _, k2, k3⟩
                  exact AllReadyIn.nil
                refine AllReadyIn.cons rfl (fun K hK => ?_) ?_
                · go_simp
                  refine hK _ _ ?_
                  clear hK K
                  refine wpAnyIn_ready (rs := [6]) (by kernel_rfl) (by simp) ?_
                  refine AllReadyIn.cons rfl (fun K hK => ?_) ?_
                  · go_simp
                    refine hK _ _ ?_
                    clear hK K
                    refine wpAnyIn_done (by kernel_rfl) ?_ _
                    gi_wp2
                    obtain ⟨k1, k2, k3⟩ := Hst.out _ (.inr rfl)
                    exact ⟨k1.from _, k2, k3⟩
                  exact AllReadyIn.nil
                exact AllReadyIn.nil
              refine AllReadyIn.cons rfl (fun K hK => ?_) ?_
              · go_simp
                refine hK _ _ ?_
                clear hK K
                refine wpAnyIn_ready (rs := [5]) (by kernel_rfl) (by simp) ?_
                refine AllReadyIn.cons rfl (fun K hK => ?_) ?_
                · go_simp
                  refine hK _ _ ?_
                  clear hK K
                  refine wpAnyIn_ready (rs := [6]) (by kernel_rfl) (by simp) ?_
                  refine AllReadyIn.cons rfl (fun K hK => ?_) ?_
                  · go_simp
                    refine hK _ _ ?_
                    clear hK K
                    refine wpAnyIn_done (by kernel_rfl) ?_ _
                    gi_wp2
                    obtain ⟨k1, k2, k3⟩ := Hst.out _ (.inr rfl)
                    exact ⟨k1.from _, k2, k3⟩
                  exact AllReadyIn.nil
                exact AllReadyIn.nil
              exact AllReadyIn.nil
            exact AllReadyIn.nil
          exact AllReadyIn.nil
        refine AllReadyIn.cons rfl (fun K hK => ?_) ?_
        · go_simp
          refine hK _ _ ?_
          clear hK K
          refine wpAnyIn_ready (rs := [1]) (by kernel_rfl) (by simp) ?_
          refine AllReadyIn.cons rfl (fun K hK => ?_) ?_
          · go_simp
            refine hK _ _ ?_
            clear hK K
            refine wpAnyIn_ready (rs := [4]) (by kernel_rfl) (by simp) ?_
            refine AllReadyIn.cons rfl (fun K hK => ?_) ?_
            · refine appZ_step rfl _ _ rfl w.heap.size (.slice av k cv) k (pre.flatMap encQ1) rfl HRow.out _ rfl (by simp) (by simp) (by simp) (by simp) hkq Hbs.out ?_
              intro g3 cap3 w3 hown3 hgrow3 hg3 hgl3
              obtain ⟨hbx3, hgB, hm3, hgn, hstep⟩ := HStep.out g3 cap3 w3 hown3 hgrow3 hg3
              have hc3 := hbx3.cell
              have hf3 := hbx3.frozen
              have hgB2 : ¬ (w.heap.size + 1 + 1 + 1 + 1 = g3) := fun e => hgB e.symm
              have hgn2 : ¬ (w.heap.size + 1 = g3) := fun e => hgn e.symm
              have q0 := hown3.cellAt (k * 4) (by omega)
              have q1 := hown3.cellAt (k * 4 + 1) (by omega)
              have q2 := hown3.cellAt (k * 4 + 2) (by omega)
              have q3 := hown3.cellAt (k * 4 + 3) (by omega)
              rw [List.getElem?_append_right (by rw [Hxl.out]; omega), Hxl.out] at q0 q1 q2 q3
              simp only [Nat.sub_self, Nat.add_sub_cancel_left, List.getElem?_cons_zero, List.getElem?_cons_succ] at q0 q1 q2 q3
              have z0 := hown3.frozenAt (k * 4)
              have z1 := hown3.frozenAt (k * 4 + 1)
              have z2 := hown3.frozenAt (k * 4 + 2)
              have z3 := hown3.frozenAt (k * 4 + 3)
              have Hst : Hid _ := hstep
              clear hown3 hgrow3 hg3 hstep
              refine hK _ _ ?_
              clear hK K
              refine wpAnyIn_ready (rs := [5, 7]) (by kernel_rfl) (by simp) ?_
              refine AllReadyIn.cons rfl (fun K hK => ?_) ?_
              · go_simp
                refine hK _ _ ?_
                clear hK K
                refine wpAnyIn_ready (rs := [6, 7]) (by kernel_rfl) (by simp) ?_
                refine AllReadyIn.cons rfl (fun K hK => ?_) ?_
                · go_simp
                  refine hK _ _ ?_
                  clear hK K
                  refine wpAnyIn_ready (rs := [7]) (by kernel_rfl) (by simp) ?_
                  refine AllReadyIn.cons rfl (fun K hK => ?_) ?_
                  · go_simp
                    refine hK _ _ ?_
                    clear hK K
                    refine wpAnyIn_done (by kernel_rfl) ?_ _
                    gi_wp2
                    obtain ⟨k1, k2, k3⟩ := Hst.out _ (.inl rfl)
                    exact ⟨k1.from _, k2, k3⟩
                  exact AllReadyIn.nil
                refine AllReadyIn.cons rfl (fun K hK => ?_) ?_
                · go_simp
                  refine hK _ _ ?_
                  clear hK K
                  refine wpAnyIn_ready (rs := [6]) (by kernel_rfl) (by simp) ?_
                  refine AllReadyIn.cons rfl (fun K hK => ?_) ?_
                  · go_simp
                    refine hK _ _ ?_
                    clear hK K
                    refine wpAnyIn_done (by kernel_rfl) ?_ _
                    gi_wp2
                    obtain ⟨k1, k2, k3⟩ := Hst.out _ (.inr rfl)
                    exact ⟨k1.from _, k2, k3⟩
                  exact AllReadyIn.nil
                exact AllReadyIn.nil
              refine AllReadyIn.cons rfl (fun K hK => ?_) ?_
              · go_simp
                refine hK _ _ ?_
                clear hK K
                refine wpAnyIn_ready (rs := [5]) (by kernel_rfl) (by simp) ?_
                refine AllReadyIn.cons rfl (fun K hK => ?_) ?_
                · go_simp
                  refine hK _ _ ?_
                  clear hK K
                  refine wpAnyIn_ready (rs := [6]) (by kernel_rfl) (by simp) ?_
                  refine AllReadyIn.cons rfl (fun K hK => ?_) ?_
                  · go_simp
                    refine hK _ _ ?_
                    clear hK K
                    refine wpAnyIn_done (by kernel_rfl) ?_ _
                    gi_wp2
                    obtain ⟨k1, k2, k3⟩ := Hst.out _ (.inr rfl)
                    exact ⟨k1.from _, k2, k3⟩
                  exact AllReadyIn.nil
                exact AllReadyIn.nil
              exact AllReadyIn.nil
            exact AllReadyIn.nil
          exact AllReadyIn.nil
        exact AllReadyIn.nil
      exact AllReadyIn.nil
    refine AllReadyIn.cons rfl (fun K hK => ?_) ?_
    · go_simp
      refine hK _ _ ?_
      clear hK K
      refine wpAnyIn_ready (rs := [0, 3]) (by kernel_rfl) (by simp) ?_
      refine AllReadyIn.cons rfl (fun K hK => ?_) ?_
      · go_simp
        refine hK _ _ ?_
        clear hK K
        refine wpAnyIn_ready (rs := [2, 3]) (by kernel_rfl) (by simp) ?_
        refine AllReadyIn.cons rfl (fun K hK => ?_) ?_
        · go_simp
          refine hK _ _ ?_
          clear hK K
          refine wpAnyIn_ready (rs := [3]) (by kernel_rfl) (by simp) ?_
          refine AllReadyIn.cons rfl (fun K hK => ?_) ?_
          · go_simp
            refine hK _ _ ?_
            clear hK K
            refine wpAnyIn_ready (rs := [4]) (by kernel_rfl) (by simp) ?_
            refine AllReadyIn.cons rfl (fun K hK => ?_) ?_
            · refine appZ_step rfl _ _ rfl w.heap.size (.slice av k cv) k (pre.flatMap encQ1) rfl HRow.out _ rfl (by simp) (by simp) (by simp) (by simp) hkq Hbs.out ?_
              intro g3 cap3 w3 hown3 hgrow3 hg3 hgl3
              obtain ⟨hbx3, hgB, hm3, hgn, hstep⟩ := HStep.out g3 cap3 w3 hown3 hgrow3 hg3
              have hc3 := hbx3.cell
              have hf3 := hbx3.frozen
              have hgB2 : ¬ (w.heap.size + 1 + 1 + 1 + 1 = g3) := fun e => hgB e.symm
              have hgn2 : ¬ (w.heap.size + 1 = g3) := fun e => hgn e.symm
              have q0 := hown3.cellAt (k * 4) (by omega)
              have q1 := hown3.cellAt (k * 4 + 1) (by omega)
              have q2 := hown3.cellAt (k * 4 + 2) (by omega)
              have q3 := hown3.cellAt (k * 4 + 3) (by omega)
              rw [List.getElem?_append_right (by rw [Hxl.out]; omega), Hxl.out] at q0 q1 q2 q3
              simp only [Nat.sub_self, Nat.add_sub_cancel_left, List.getElem?_cons_zero, List.getElem?_cons_succ] at q0 q1 q2 q3
              have z0 := hown3.frozenAt (k * 4)
              have z1 := hown3.frozenAt (k * 4 + 1)
              have z2 := hown3.frozenAt (k * 4 + 2)
              have z3 := hown3.frozenAt (k * 4 + 3)
              have Hst : Hid _ := hstep
              clear hown3 hgrow3 hg3 hstep
              refine hK _ _ ?_
              clear hK K
              refine wpAnyIn_ready (rs := [5, 7]) (by kernel_rfl) (by simp) ?_
              refine AllReadyIn.cons rfl (fun K hK => ?_) ?_
              · go_simp
                refine hK _ _ ?_
                clear hK K
                refine wpAnyIn_ready (rs := [6, 7]) (by kernel_rfl) (by simp) ?_
                refine AllReadyIn.cons rfl (fun K hK => ?_) ?_
                · go_simp
                  refine hK _ _ ?_
                  clear hK K
                  refine wpAnyIn_ready (rs := [7]) (by kernel_rfl) (by simp) ?_
                  refine AllReadyIn.cons rfl (fun K hK => ?_) ?_
                  · go_simp
                    refine hK _ _ ?_
                    clear hK K
                    refine wpAnyIn_done (by kernel_rfl) ?_ _
                    gi_wp2
                    obtain ⟨k1, k2, k3⟩ := Hst.out _ (.inl rfl)
                    exact ⟨k1.from _, k2, k3⟩
                  exact AllReadyIn.nil
                refine AllReadyIn.cons rfl (fun K hK => ?_) ?_
                · go_simp
                  refine hK _ _ ?_
                  clear hK K
                  refine wpAnyIn_ready (rs := [6]) (by kernel_rfl) (by simp) ?_
                  refine AllReadyIn.cons rfl (fun K hK => ?_) ?_
                  · go_simp
                    refine hK _ _ ?_
                    clear hK K
                    refine wpAnyIn_done (by kernel_rfl) ?_ _
                    gi_wp2
                    obtain ⟨k1, k2, k3⟩ := Hst.out _ (.inr rfl)
                    exact ⟨k1.from _, k2, k3⟩
                  exact AllReadyIn.nil
                exact AllReadyIn.nil
              refine AllReadyIn.cons rfl (fun K hK => ?_) ?_
              · go_simp
                refine hK _ _ ?_
                clear hK K
                refine wpAnyIn_ready (rs := [5]) (by kernel_rfl) (by simp) ?_
                refine AllReadyIn.cons rfl (fun K hK => ?_) ?_
                · go_simp
                  refine hK _ _ ?_
                  clear hK K
                  refine wpAnyIn_ready (rs := [6]) (by kernel_rfl) (by simp) ?_
                  refine AllReadyIn.cons rfl (fun K hK => ?_) ?_
                  · go_simp
                    refine hK _ _ ?_
                    clear hK K
                    refine wpAnyIn_done (by kernel_rfl) ?_ _
                    gi_wp2
                    obtain ⟨k1, k2, k3⟩ := Hst.out _ (.inr rfl)
                    exact ⟨k1.from _, k2, k3⟩
                  exact AllReadyIn.nil
                exact AllReadyIn.nil
              exact AllReadyIn.nil
            exact AllReadyIn.nil
          exact AllReadyIn.nil
        refine AllReadyIn.cons rfl (fun K hK => ?_) ?_
        · go_simp
          refine hK _ _ ?_
          clear hK K
          refine wpAnyIn_ready (rs := [2]) (by kernel_rfl) (by simp) ?_
          refine AllReadyIn.cons rfl (fun K hK => ?_) ?_
          · go_simp
            refine hK _ _ ?_
            clear hK K
            refine wpAnyIn_ready (rs := [4]) (by kernel_rfl) (by simp) ?_
            refine AllReadyIn.cons rfl (fun K hK => ?_) ?_
            · refine appZ_step rfl _ _ rfl w.heap.size (.slice av k cv) k (pre.flatMap encQ1) rfl HRow.out _ rfl (by simp) (by simp) (by simp) (by simp) hkq Hbs.out ?_
              intro g3 cap3 w3 hown3 hgrow3 hg3 hgl3
              obtain ⟨hbx3, hgB, hm3, hgn, hstep⟩ := HStep.out g3 cap3 w3 hown3 hgrow3 hg3
              have hc3 := hbx3.cell
              have hf3 := hbx3.frozen
              have hgB2 : ¬ (w.heap.size + 1 + 1 + 1 + 1 = g3) := fun e => hgB e.symm
              have hgn2 : ¬ (w.heap.size + 1 = g3) := fun e => hgn e.symm
              have q0 := hown3.cellAt (k * 4) (by omega)
              have q1 := hown3.cellAt (k * 4 + 1) (by omega)
              have q2 := hown3.cellAt (k * 4 + 2) (by omega)
              have q3 := hown3.cellAt (k * 4 + 3) (by omega)
              rw [List.getElem?_append_right (by rw [Hxl.out]; omega), Hxl.out] at q0 q1 q2 q3
              simp only [Nat.sub_self, Nat.add_sub_cancel_left, List.getElem?_cons_zero, List.getElem?_cons_succ] at q0 q1 q2 q3
              have z0 := hown3.frozenAt (k * 4)
              have z1 := hown3.frozenAt (k * 4 + 1)
              have z2 := hown3.frozenAt (k * 4 + 2)
              have z3 := hown3.frozenAt (k * 4 + 3)
              have Hst : Hid _ := hstep
              clear hown3 hgrow3 hg3 hstep
              refine hK _ _ ?_
              clear hK K
              refine wpAnyIn_ready (rs := [5, 7]) (by kernel_rfl) (by simp) ?_
              refine AllReadyIn.cons rfl (fun K hK => ?_) ?_
              · go_simp
                refine hK _ _ ?_
                clear hK K
                refine wpAnyIn_ready (rs := [6, 7]) (by kernel_rfl) (by simp) ?_
                refine AllReadyIn.cons rfl (fun K hK => ?_) ?_
                · go_simp
                  refine hK _ _ ?_
                  clear hK K
                  refine wpAnyIn_ready (rs := [7]) (by kernel_rfl) (by simp) ?_
                  refine AllReadyIn.cons rfl (fun K hK => ?_) ?_
                  · go_simp
                    refine hK _ _ ?_
                    clear hK K
                    refine wpAnyIn_done (by kernel_rfl) ?_ _
                    gi_wp2
                    obtain ⟨k1, k2, k3⟩ := Hst.out _ (.inl rfl)
                    exact ⟨k1.from _, k2, k3⟩
                  exact AllReadyIn.nil
                refine AllReadyIn.cons rfl (fun K hK => ?_) ?_
                · go_simp
                  refine hK _ _ ?_
                  clear hK K
                  refine wpAnyIn_ready (rs := [6]) (by kernel_rfl) (by simp) ?_
                  refine AllReadyIn.cons rfl (fun K hK => ?_) ?_
                  · go_simp
                    refine hK _ _ ?_
                    clear hK K
                    refine wpAnyIn_done (by kernel_rfl) ?_ _
                    gi_wp2
                    obtain ⟨k1, k2, k3⟩ := Hst.out _ (.inr rfl)
                    exact ⟨k1.from _, k2, k3⟩
                  exact AllReadyIn.nil
                exact AllReadyIn.nil
              refine AllReadyIn.cons rfl (fun K hK => ?_) ?_
              · go_simp
                refine hK _ _ ?_
                clear hK K
                refine wpAnyIn_ready (rs := [5]) (by kernel_rfl) (by simp) ?_
                refine AllReadyIn.cons rfl (fun K hK => ?_) ?_
                · go_simp
                  refine hK _ _ ?_
                  clear hK K
                  refine wpAnyIn_ready (rs := [6]) (by kernel_rfl) (by simp) ?_
                  refine AllReadyIn.cons rfl (fun K hK => ?_) ?_
                  · go_simp
                    refine hK _ _ ?_
                    clear hK K
                    refine wpAnyIn_done (by kernel_rfl) ?_ _
                    gi_wp2
                    obtain ⟨k1, k2, k3⟩ := Hst.out _ (.inr rfl)
                    exact ⟨k1.from _, k2, k3⟩
                  exact AllReadyIn.nil
                exact AllReadyIn.nil
              exact AllReadyIn.nil
            exact AllReadyIn.nil
          exact AllReadyIn.nil
        exact AllReadyIn.nil
      refine AllReadyIn.cons rfl (fun K hK => ?_) ?_
      · go_simp
        refine hK _ _ ?_
        clear hK K
        refine wpAnyIn_ready (rs := [0]) (by kernel_rfl) (by simp) ?_
        refine AllReadyIn.cons rfl (fun K hK => ?_) ?_
        · go_simp
          refine hK _ _ ?_
          clear hK K
          refine wpAnyIn_ready (rs := [2]) (by kernel_rfl) (by simp) ?_
          refine AllReadyIn.cons rfl (fun K hK => ?_) ?_
          · go_simp
            refine hK _ _ ?_
            clear hK K
            refine wpAnyIn_ready (rs := [4]) (by kernel_rfl) (by simp) ?_
            refine AllReadyIn.cons rfl (fun K hK => ?_) ?_
            · refine appZ_step rfl _ _ rfl w.heap.size (.slice av k cv) k (pre.flatMap encQ1) rfl HRow.out _ rfl (by simp) (by simp) (by simp) (by simp) hkq Hbs.out ?_
              intro g3 cap3 w3 hown3 hgrow3 hg3 hgl3
              obtain ⟨hbx3, hgB, hm3, hgn, hstep⟩ := HStep.out g3 cap3 w3 hown3 hgrow3 hg3
              have hc3 := hbx3.cell
              have hf3 := hbx3.frozen
              have hgB2 : ¬ (w.heap.size + 1 + 1 + 1 + 1 = g3) := fun e => hgB e.symm
              have hgn2 : ¬ (w.heap.size + 1 = g3) := fun e => hgn e.symm
              have q0 := hown3.cellAt (k * 4) (by omega)
              have q1 := hown3.cellAt (k * 4 + 1) (by omega)
              have q2 := hown3.cellAt (k * 4 + 2) (by omega)
              have q3 := hown3.cellAt (k * 4 + 3) (by omega)
              rw [List.getElem?_append_right (by rw [Hxl.out]; omega), Hxl.out] at q0 q1 q2 q3
              simp only [Nat.sub_self, Nat.add_sub_cancel_left, List.getElem?_cons_zero, List.getElem?_cons_succ] at q0 q1 q2 q3
              have z0 := hown3.frozenAt (k * 4)
              have z1 := hown3.frozenAt (k * 4 + 1)
              have z2 := hown3.frozenAt (k * 4 + 2)
              have z3 := hown3.frozenAt (k * 4 + 3)
              have Hst : Hid _ := hstep
              clear hown3 hgrow3 hg3 hstep
              refine hK _ _ ?_
              clear hK K
              refine wpAnyIn_ready (rs := [5, 7]) (by kernel_rfl) (by simp) ?_
              refine AllReadyIn.cons rfl (fun K hK => ?_) ?_
              · go_simp
                refine hK _ _ ?_
                clear hK K
                refine wpAnyIn_ready (rs := [6, 7]) (by kernel_rfl) (by simp) ?_
                refine AllReadyIn.cons rfl (fun K hK => ?_) ?_
                · go_simp
                  refine hK _ _ ?_
                  clear hK K
                  refine wpAnyIn_ready (rs := [7]) (by kernel_rfl) (by simp) ?_
                  refine AllReadyIn.cons rfl (fun K hK => ?_) ?_
                  · go_simp
                    refine hK _ _ ?_
                    clear hK K
                    refine wpAnyIn_done (by kernel_rfl) ?_ _
                    gi_wp2
                    obtain ⟨k1, k2, k3⟩ := Hst.out _ (.inl rfl)
                    exact ⟨k1.from _, k2, k3⟩
                  exact AllReadyIn.nil
                refine AllReadyIn.cons rfl (fun K hK => ?_) ?_
                · go_simp
                  refine hK _ _ ?_
                  clear hK K
                  refine wpAnyIn_ready (rs := [6]) (by kernel_rfl) (by simp) ?_
                  refine AllReadyIn.cons rfl (fun K hK => ?_) ?_
                  · go_simp
                    refine hK _ _ ?_
                    clear hK K
                    refine wpAnyIn_done (by kernel_rfl) ?_ _
                    gi_wp2
                    obtain ⟨k1, k2, k3⟩ := Hst.out _ (.inr rfl)
                    exact ⟨k1.from _, k2, k3⟩
                  exact AllReadyIn.nil
                exact AllReadyIn.nil
              refine AllReadyIn.cons rfl (fun K hK => ?_) ?_
              · go_simp
                refine hK _ _ ?_
                clear hK K
                refine wpAnyIn_ready (rs := [5]) (by kernel_rfl) (by simp) ?_
                refine AllReadyIn.cons rfl (fun K hK => ?_) ?_
                · go_simp
                  refine hK _ _ ?_
                  clear hK K
                  refine wpAnyIn_ready (rs := [6]) (by kernel_rfl) (by simp) ?_
                  refine AllReadyIn.cons rfl (fun K hK => ?_) ?_
                  · go_simp
                    refine hK _ _ ?_
                    clear hK K
                    refine wpAnyIn_done (by kernel_rfl) ?_ _
                    gi_wp2
                    obtain ⟨k1, k2, k3⟩ := Hst.out _ (.inr rfl)
                    exact ⟨k1.from _, k2, k3⟩
                  exact AllReadyIn.nil
                exact AllReadyIn.nil
              exact AllReadyIn.nil
            exact AllReadyIn.nil
          exact AllReadyIn.nil
        exact AllReadyIn.nil
      exact AllReadyIn.nil
    refine AllReadyIn.cons rfl (fun K hK => ?_) ?_
    · go_simp
      refine hK _ _ ?_
      clear hK K
      refine wpAnyIn_ready (rs := [0, 1]) (by kernel_rfl) (by simp) ?_
      refine AllReadyIn.cons rfl (fun K hK => ?_) ?_
      · go_simp
        refine hK _ _ ?_
        clear hK K
        refine wpAnyIn_ready (rs := [1, 2]) (by kernel_rfl) (by simp) ?_
        refine AllReadyIn.cons rfl (fun K hK => ?_) ?_
        · go_simp
          refine hK _ _ ?_
          clear hK K
          refine wpAnyIn_ready (rs := [2]) (by kernel_rfl) (by simp) ?_
          refine AllReadyIn.cons rfl (fun K hK => ?_) ?_
          · go_simp
            refine hK _ _ ?_
            clear hK K
            refine wpAnyIn_ready (rs := [4]) (by kernel_rfl) (by simp) ?_
            refine AllReadyIn.cons rfl (fun K hK => ?_) ?_
            · refine appZ_step rfl _ _ rfl w.heap.size (.slice av k cv) k (pre.flatMap encQ1) rfl HRow.out _ rfl (by simp) (by simp) (by simp) (by simp) hkq Hbs.out ?_
              intro g3 cap3 w3 hown3 hgrow3 hg3 hgl3
              obtain ⟨hbx3, hgB, hm3, hgn, hstep⟩ := HStep.out g3 cap3 w3 hown3 hgrow3 hg3
              have hc3 := hbx3.cell
              have hf3 := hbx3.frozen
              have hgB2 : ¬ (w.heap.size + 1 + 1 + 1 + 1 = g3) := fun e => hgB e.symm
              have hgn2 : ¬ (w.heap.size + 1 = g3) := fun e => hgn e.symm
              have q0 := hown3.cellAt (k * 4) (by omega)
              have q1 := hown3.cellAt (k * 4 + 1) (by omega)
              have q2 := hown3.cellAt (k * 4 + 2) (by omega)
              have q3 := hown3.cellAt (k * 4 + 3) (by omega)
              rw [List.getElem?_append_right (by rw [Hxl.out]; omega), Hxl.out] at q0 q1 q2 q3
              simp only [Nat.sub_self, Nat.add_sub_cancel_left, List.getElem?_cons_zero, List.getElem?_cons_succ] at q0 q1 q2 q3
              have z0 := hown3.frozenAt (k * 4)
              have z1 := hown3.frozenAt (k * 4 + 1)
              have z2 := hown3.frozenAt (k * 4 + 2)
              have z3 := hown3.frozenAt (k * 4 + 3)
              have Hst : Hid _ := hstep
              clear hown3 hgrow3 hg3 hstep
              refine hK _ _ ?_
              clear hK K
              refine wpAnyIn_ready (rs := [5, 7]) (by kernel_rfl) (by simp) ?_
              refine AllReadyIn.cons rfl (fun K hK => ?_) ?_
              · go_simp
                refine hK _ _ ?_
                clear hK K
                refine wpAnyIn_ready (rs := [6, 7]) (by kernel_rfl) (by simp) ?_
                refine AllReadyIn.cons rfl (fun K hK => ?_) ?_
                · go_simp
                  refine hK _ _ ?_
                  clear hK K
                  refine wpAnyIn_ready (rs := [7]) (by kernel_rfl) (by simp) ?_
                  refine AllReadyIn.cons rfl (fun K hK => ?_) ?_
                  · go_simp
                    refine hK _ _ ?_
                    clear hK K
                    refine wpAnyIn_done (by kernel_rfl) ?_ _
                    gi_wp2
                    obtain ⟨k1, k2, k3⟩ := Hst.out _ (.inl rfl)
                    exact ⟨k1.from _, k2, k3⟩
                  exact AllReadyIn.nil
                refine AllReadyIn.cons rfl (fun K hK => ?_) ?_
                · go_simp
                  refine hK _ _ ?_
                  clear hK K
                  refine wpAnyIn_ready (rs := [6]) (by kernel_rfl) (by simp) ?_
                  refine AllReadyIn.cons rfl (fun K hK => ?_) ?_
                  · go_simp
                    refine hK _ _ ?_
                    clear hK K
                    refine wpAnyIn_done (by kernel_rfl) ?_ _
                    gi_wp2
                    obtain ⟨k1, k2, k3⟩ := Hst.out _ (.inr rfl)
                    exact ⟨k1.from _, k2, k3⟩
                  exact AllReadyIn.nil
                exact AllReadyIn.nil
              refine AllReadyIn.cons rfl (fun K hK => ?_) ?_
              · go_simp
                refine hK _ _ ?_
                clear hK K
                refine wpAnyIn_ready (rs := [5]) (by kernel_rfl) (by simp) ?_
                refine AllReadyIn.cons rfl (fun K hK => ?_) ?_
                · go_simp
                  refine hK _ _ ?_
                  clear hK K
                  refine wpAnyIn_ready (rs := [6]) (by kernel_rfl) (by simp) ?_
                  refine AllReadyIn.cons rfl (fun K hK => ?_) ?_
                  · go_simp
                    refine hK _ _ ?_
                    clear hK K
                    refine wpAnyIn_done (by kernel_rfl) ?_ _
                    gi_wp2
                    obtain ⟨k1, k2, k3⟩ := Hst.out _ (.inr rfl)
                    exact ⟨k1.from _, k2, k3⟩
                  exact AllReadyIn.nil
                exact AllReadyIn.nil
              exact AllReadyIn.nil
            exact AllReadyIn.nil
          exact AllReadyIn.nil
        refine AllReadyIn.cons rfl (fun K hK => ?_) ?_
        · go_simp
          refine hK _ _ ?_
          clear hK K
          refine wpAnyIn_ready (rs := [1]) (by kernel_rfl) (by simp) ?_
          refine AllReadyIn.cons rfl (fun K hK => ?_) ?_
          · go_simp
            refine hK _ _ ?_
            clear hK K
            refine wpAnyIn_ready (rs := [4]) (by kernel_rfl) (by simp) ?_
            refine AllReadyIn.cons rfl (fun K hK => ?_) ?_
            · refine appZ_step rfl _ _ rfl w.heap.size (.slice av k cv) k (pre.flatMap encQ1) rfl HRow.out _ rfl (by simp) (by simp) (by simp) (by simp) hkq Hbs.out ?_
              intro g3 cap3 w3 hown3 hgrow3 hg3 hgl3
              obtain ⟨hbx3, hgB, hm3, hgn, hstep⟩ := HStep.out g3 cap3 w3 hown3 hgrow3 hg3
              have hc3 := hbx3.cell
              have hf3 := hbx3.frozen
              have hgB2 : ¬ (w.heap.size + 1 + 1 + 1 + 1 = g3) := fun e => hgB e.symm
              have hgn2 : ¬ (w.heap.size + 1 = g3) := fun e => hgn e.symm
              have q0 := hown3.cellAt (k * 4) (by omega)
              have q1 := hown3.cellAt (k * 4 + 1) (by omega)
              have q2 := hown3.cellAt (k * 4 + 2) (by omega)
              have q3 := hown3.cellAt (k * 4 + 3) (by omega)
              rw [List.getElem?_append_right (by rw [Hxl.out]; omega), Hxl.out] at q0 q1 q2 q3
              simp only [Nat.sub_self, Nat.add_sub_cancel_left, List.getElem?_cons_zero, List.getElem?_cons_succ] at q0 q1 q2 q3
              have z0 := hown3.frozenAt (k * 4)
              have z1 := hown3.frozenAt (k * 4 + 1)
              have z2 := hown3.frozenAt (k * 4 + 2)
              have z3 := hown3.frozenAt (k * 4 + 3)
              have Hst : Hid _ := hstep
              clear hown3 hgrow3 hg3 hstep
              refine hK _ _ ?_
              clear hK K
              refine wpAnyIn_ready (rs := [5, 7]) (by kernel_rfl) (by simp) ?_
              refine AllReadyIn.cons rfl (fun K hK => ?_) ?_
              · go_simp
                refine hK _ _ ?_
                clear hK K
                refine wpAnyIn_ready (rs := [6, 7]) (by kernel_rfl) (by simp) ?_
                refine AllReadyIn.cons rfl (fun K hK => ?_) ?_
                · go_simp
                  refine hK _ _ ?_
                  clear hK K
                  refine wpAnyIn_ready (rs := [7]) (by kernel_rfl) (by simp) ?_
                  refine AllReadyIn.cons rfl (fun K hK => ?_) ?_
                  · go_simp
                    refine hK _ _ ?_
                    clear hK K
                    refine wpAnyIn_done (by kernel_rfl) ?_ _
                    gi_wp2
                    obtain ⟨k1, k2, k3⟩ := Hst.out _ (.inl rfl)
                    exact ⟨k1.from _, k2, k3⟩
                  exact AllReadyIn.nil
                refine AllReadyIn.cons rfl (fun K hK => ?_) ?_
                · go_simp
                  refine hK _ _ ?_
                  clear hK K
                  refine wpAnyIn_ready (rs := [6]) (by kernel_rfl) (by simp) ?_
                  refine AllReadyIn.cons rfl (fun K hK => ?_) ?_
                  · go_simp
                    refine hK _ _ ?_
                    clear hK K
                    refine wpAnyIn_done (by kernel_rfl) ?_ _
                    gi_wp2
                    obtain ⟨k1, k2, k3⟩ := Hst.out _ (.inr rfl)
                    exact ⟨k1.from _, k2, k3⟩
                  exact AllReadyIn.nil
                exact AllReadyIn.nil
              refine AllReadyIn.cons rfl (fun K hK => ?_) ?_
              · go_simp
                refine hK _ _ ?_
                clear hK K
                refine wpAnyIn_ready (rs := [5]) (by kernel_rfl) (by simp) ?_
                refine AllReadyIn.cons rfl (fun K hK => ?_) ?_
                · go_simp
                  refine hK _ _ ?_
                  clear hK K
                  refine wpAnyIn_ready (rs := [6]) (by kernel_rfl) (by simp) ?_
                  refine AllReadyIn.cons rfl (fun K hK => ?_) ?_
                  · go_simp
                    refine hK _ _ ?_
                    clear hK K
                    refine wpAnyIn_done (by kernel_rfl) ?_ _
                    gi_wp2
                    obtain ⟨k1, k2, k3⟩ := Hst.out _ (.inr rfl)
                    exact ⟨k1.from _, k2, k3⟩
                  exact AllReadyIn.nil
                exact AllReadyIn.nil
              exact AllReadyIn.nil
            exact AllReadyIn.nil
          exact AllReadyIn.nil
        exact AllReadyIn.nil
      refine AllReadyIn.cons rfl (fun K hK => ?_) ?_
      · go_simp
        refine hK _ _ ?_
        clear hK K
        refine wpAnyIn_ready (rs := [0]) (by kernel_rfl) (by simp) ?_
        refine AllReadyIn.cons rfl (fun K hK => ?_) ?_
        · go_simp
          refine hK _ _ ?_
          clear hK K
          refine wpAnyIn_ready (rs := [2]) (by kernel_rfl) (by simp) ?_
          refine AllReadyIn.cons rfl (fun K hK => ?_) ?_
          · go_simp
            refine hK _ _ ?_
            clear hK K
            refine wpAnyIn_ready (rs := [4]) (by kernel_rfl) (by simp) ?_
            refine AllReadyIn.cons rfl (fun K hK => ?_) ?_
            · refine appZ_step rfl _ _ rfl w.heap.size (.slice av k cv) k (pre.flatMap encQ1) rfl HRow.out _ rfl (by simp) (by simp) (by simp) (by simp) hkq Hbs.out ?_
              intro g3 cap3 w3 hown3 hgrow3 hg3 hgl3
              obtain ⟨hbx3, hgB, hm3, hgn, hstep⟩ := HStep.out g3 cap3 w3 hown3 hgrow3 hg3
              have hc3 := hbx3.cell
              have hf3 := hbx3.frozen
              have hgB2 : ¬ (w.heap.size + 1 + 1 + 1 + 1 = g3) := fun e => hgB e.symm
              have hgn2 : ¬ (w.heap.size + 1 = g3) := fun e => hgn e.symm
              have q0 := hown3.cellAt (k * 4) (by omega)
              have q1 := hown3.cellAt (k * 4 + 1) (by omega)
              have q2 := hown3.cellAt (k * 4 + 2) (by omega)
              have q3 := hown3.cellAt (k * 4 + 3) (by omega)
              rw [List.getElem?_append_right (by rw [Hxl.out]; omega), Hxl.out] at q0 q1 q2 q3
              simp only [Nat.sub_self, Nat.add_sub_cancel_left, List.getElem?_cons_zero, List.getElem?_cons_succ] at q0 q1 q2 q3
              have z0 := hown3.frozenAt (k * 4)
              have z1 := hown3.frozenAt (k * 4 + 1)
              have z2 := hown3.frozenAt (k * 4 + 2)
              have z3 := hown3.frozenAt (k * 4 + 3)
              have Hst : Hid _ := hstep
              clear hown3 hgrow3 hg3 hstep
              refine hK _ _ ?_
              clear hK K
              refine wpAnyIn_ready (rs := [5, 7]) (by kernel_rfl) (by simp) ?_
              refine AllReadyIn.cons rfl (fun K hK => ?_) ?_
              · go_simp
                refine hK _ _ ?_
                clear hK K
                refine wpAnyIn_ready (rs := [6, 7]) (by kernel_rfl) (by simp) ?_
                refine AllReadyIn.cons rfl (fun K hK => ?_) ?_
                · go_simp
                  refine hK _ _ ?_
                  clear hK K
                  refine wpAnyIn_ready (rs := [7]) (by kernel_rfl) (by simp) ?_
                  refine AllReadyIn.cons rfl (fun K hK => ?_) ?_
                  · go_simp
                    refine hK _ _ ?_
                    clear hK K
                    refine wpAnyIn_done (by kernel_rfl) ?_ _
                    gi_wp2
                    obtain ⟨k1, k2, k3⟩ := Hst.out _ (.inl rfl)
                    exact ⟨k1.from _, k2, k3⟩
                  exact AllReadyIn.nil
                refine AllReadyIn.cons rfl (fun K hK => ?_) ?_
                · go_simp
                  refine hK _ _ ?_
                  clear hK K
                  refine wpAnyIn_ready (rs := [6]) (by kernel_rfl) (by simp) ?_
                  refine AllReadyIn.cons rfl (fun K hK => ?_) ?_
                  · go_simp
                    refine hK _ _ ?_
                    clear hK K
                    refine wpAnyIn_done (by kernel_rfl) ?_ _
                    gi_wp2
                    obtain ⟨k1, k2, k3⟩ := Hst.out _ (.inr rfl)
                    exact ⟨k1.from _, k2, k3⟩
                  exact AllReadyIn.nil
                exact AllReadyIn.nil
              refine AllReadyIn.cons rfl (fun K hK => ?_) ?_
              · go_simp
                refine hK _ _ ?_
                clear hK K
                refine wpAnyIn_ready (rs := [5]) (by kernel_rfl) (by simp) ?_
                refine AllReadyIn.cons rfl (fun K hK => ?_) ?_
                · go_simp
                  refine hK _ _ ?_
                  clear hK K
                  refine wpAnyIn_ready (rs := [6]) (by kernel_rfl) (by simp) ?_
                  refine AllReadyIn.cons rfl (fun K hK => ?_) ?_
                  · go_simp
                    refine hK _ _ ?_
                    clear hK K
                    refine wpAnyIn_done (by kernel_rfl) ?_ _
                    gi_wp2
                    obtain ⟨k1, k2, k3⟩ := Hst.out _ (.inr rfl)
                    exact ⟨k1.from _, k2, k3⟩
                  exact AllReadyIn.nil
                exact AllReadyIn.nil
              exact AllReadyIn.nil
            exact AllReadyIn.nil
          exact AllReadyIn.nil
        exact AllReadyIn.nil
      exact AllReadyIn.nil
    exact AllReadyIn.nil
  case done =>
    rintro D xs W hD hxs ⟨⟨v, bx, hrow, hl⟩, b1, b2, b3, b4', hB⟩ hK
    have hxl : xs.length = (fromL l (P0 : Int)).length := by rw [← hxs, List.length_map]
    have hL17 : Lies 17 W (fromL l (P0 : Int)) v := by
      have h9 := own_lies (d := 16) (w := W) (base := w.heap.size) (v := v) (n := xs.length) (ps := xs.map (fun x => (x.t, Value.slice x.a x.t.items.length x.c))) (by rw [List.length_map]) (by rw [List.flatMap_map]; exact hrow) (fun q hq => by
        obtain ⟨x, hx, rfl⟩ := List.mem_map.1 hq
        exact ⟨(hl x hx).1.lies, (hl x hx).2⟩) (by rw [List.length_map, hxl]; unfold fromL; split <;> simp <;> omega)
      rw [List.map_map] at h9
      have e9 : xs.map ((fun q : VT × Value => q.1) ∘ fun x => (x.t, Value.slice x.a x.t.items.length x.c)) = fromL l (P0 : Int) := hxs
      rw [e9] at h9
      exact h9
    obtain ⟨av, cv, rfl, _⟩ := Lies.slice hL17
    obtain ⟨NL, hNL⟩ : ∃ NL, NL = (fromL l (P0 : Int)).length := ⟨_, rfl⟩
    rw [← hNL] at hL17 bx
    have b3' := b3.set (.slice av NL cv)
    have b4x := (b4'.kept (grownBy_setCell' W (w.heap.size + 1 + 1) (.slice av NL cv)) (by simp))
    have HT : Hid ((((W.setCell ⟨w.heap.size + 1 + 1, 0, none⟩ (.slice av NL cv)).setCell ⟨w.heap.size + 1 + 1 + 1, 0, none⟩ (.bool true)).cell? ⟨w.heap.size + 1 + 1, 0, none⟩ = some (.slice av NL cv)) ∧ (((W.setCell ⟨w.heap.size + 1 + 1, 0, none⟩ (.slice av NL cv)).setCell ⟨w.heap.size + 1 + 1 + 1, 0, none⟩ (.bool true)).cell? ⟨w.heap.size + 1 + 1 + 1, 0, none⟩ = some (.bool true)) ∧ Lies 17 ((W.setCell ⟨w.heap.size + 1 + 1, 0, none⟩ (.slice av NL cv)).setCell ⟨w.heap.size + 1 + 1 + 1, 0, none⟩ (.bool true)) (fromL l (P0 : Int)) (.slice av NL cv) ∧ Below w.heap.size w ((W.setCell ⟨w.heap.size + 1 + 1, 0, none⟩ (.slice av NL cv)).setCell ⟨w.heap.size + 1 + 1 + 1, 0, none⟩ (.bool true))) := by
      refine ⟨(b3'.kept (grownBy_setCell' _ (w.heap.size + 1 + 1 + 1) _) (by simp)).cell, (b4x.set _).cell, lies_setBox (lies_setBox hL17 b3 _) b4x _, ?_⟩
      exact (hB.setCell (p := ⟨w.heap.size + 1 + 1, 0, none⟩) (by show w.heap.size ≤ w.heap.size + 1 + 1; omega) _).setCell (p := ⟨w.heap.size + 1 + 1 + 1, 0, none⟩) (by show w.heap.size ≤ w.heap.size + 1 + 1 + 1; omega) _
    have HMk : Hid (Marks w.heap.size ((W.setCell ⟨w.heap.size + 1 + 1, 0, none⟩ (.slice av NL cv)).setCell ⟨w.heap.size + 1 + 1 + 1, 0, none⟩ (.bool true)) [D]) := (Marks.nil _ _).cons (by omega) (((KeepsOthers.setCell _ _ _).trans (KeepsOthers.setCell _ _ _)).same D _ hK rfl) (by simp)
    have c8 := bx.cell
    have c6 := b3.cell
    have c7 := b4'.cell
    have f6 := b3.frozen
    have f7 := b4'.frozen
    have HNL : Hid (NL = (fromL l (P0 : Int)).length) := hNL
    clear hrow hl b1 b2 b3 b4' b3' b4x hB hK hL17 hxs hxl bx hNL
    gi_wp2
    refine leaves_marks w.heap.size (fun V => V.cell? ⟨w.heap.size + 1 + 1, 0, none⟩ = some (.slice av NL cv) ∧ V.cell? ⟨w.heap.size + 1 + 1 + 1, 0, none⟩ = some (.bool true) ∧ Lies 17 V (fromL l (P0 : Int)) (.slice av NL cv) ∧ Below w.heap.size w V) (fun V D hD hK hT => ⟨cell_turns hK rfl _ _ _ hT.1, cell_turns hK rfl _ _ _ hT.2.1, ((LiesX.of_lies hT.2.2.1).stays (Y := fun _ => True) (fun _ _ => trivial) (fun a u _ hu => cell_turns hK rfl _ a u hu)).lies, hT.2.2.2.trans (belowK_b (w := w) (Nat.le_refl _) V D _ _ hD hK rfl rfl)⟩) (fun V hT => ⟨.tuple #[.slice av NL cv, .bool true], by simp [results, Try.results16, go_sem, hT.1, hT.2.1], hT.2.2.2, av, NL, cv, rfl, HNL.out, hT.2.2.1⟩) [D] _ HMk.out HT.out

end Go.Proofs.Ytpnfmcmhcjekfaa

