/-
  ConcatTurns.
-/
import Derived.Test.YtpnfmcmhcjekfabTurnsP
namespace Go.Proofs.Ytpnfmcmhcjekfab
open Go.RowKit

theorem catTake_le (xs : List (List VT × Value)) (j : Nat) : ((xs.take j).flatMap (·.1)).length ≤ (xs.flatMap (·.1)).length := by
  have h : xs.flatMap (·.1) = (xs.take j).flatMap (·.1) ++ (xs.drop j).flatMap (·.1) := by rw [← List.flatMap_append, List.take_append_drop]
  rw [h, List.length_append]
  omega

theorem catTake_succ (xs : List (List VT × Value)) (j : Nat) (hj : j < xs.length) : (xs.take (j + 1)).flatMap (·.1) = (xs.take j).flatMap (·.1) ++ xs[j].1 := by
  rw [List.take_succ_eq_append_getElem hj, List.flatMap_append]
  simp

set_option maxRecDepth 100000 in
set_option maxHeartbeats 8000000 in
theorem rall_core (xs : List (List VT × Value)) (B : Nat) (w : World) (hc : ∀ (i : Nat) (hi : i < xs.length), w.cell? ⟨B, i, none⟩ = some (xs[i]'hi).2) (hn : xs.length ≤ 65536) (hx : ∀ p ∈ xs, Lies 17 w p.1 p.2 ∧ p.1.length ≤ 65536) :
    Calls Try.prog 24 #[.slice (some ⟨B, 0, none⟩) xs.length xs.length] w (LstPost (joinR xs) w) := by
  obtain ⟨R, hR⟩ : ∃ R, R = joinR xs := ⟨_, rfl⟩
  obtain ⟨N, hN⟩ : ∃ N, N = xs.length := ⟨_, rfl⟩
  rw [← hR]
  unfold joinR at hR
  have HX : Hid (∀ j (hj : j < xs.length), ∃ a L c, ∃ qs : List (VT × Value), (∀ W, Below w.heap.size w W → W.cell? ⟨B, j, none⟩ = some (.slice a L c)) ∧ L ≤ 65536 ∧ Src w a L 4 (qs.flatMap encP) ∧ qs.length = L ∧ qs.map (·.1) = xs[j].1 ∧ ∀ p ∈ qs, Sound 16 w p) := fun j hj => by
    obtain ⟨h1, h2⟩ := hx xs[j] (List.getElem_mem hj)
    obtain ⟨a, c, e, _⟩ := Lies.slice h1
    rw [e] at h1
    obtain ⟨ps, p1, p2, p3, p4⟩ := src_of h1
    refine ⟨a, _, c, ps, fun W hW => cell_keeps hW ((hc j hj).trans (by rw [e])), h2, p3, p2, p1, p4⟩
  have HF : Hid (∀ (W : World) (av : Option Addr) (M cv : Nat) (ps : List (VT × Value)), Rw w W (.slice av M cv) M (ps.flatMap encP) → ps.map (·.1) = (xs.take N).flatMap (·.1) → ps.length = M → (∀ p ∈ ps, Sound 16 w p) → M ≤ 65536 → LstPost R w (.returned (.tuple #[.slice av M cv, .int .i64 0])) W) := fun W av M cv ps h1 h2 h3 h4 h5 => by
    have e : (xs.take N).flatMap (·.1) = xs.flatMap (·.1) := by rw [hN, List.take_length]
    rw [e] at h2
    have h9 := h1.lies h3.symm h4 (by omega)
    rw [h2] at h9
    have hl : (xs.flatMap (·.1)).length = M := by rw [← h2, List.length_map, h3]
    rw [hR, if_pos (by rw [hl]; exact h5)]
    refine ⟨h1.below, av, cv, by rw [hl], ?_⟩
    rw [hl]
    exact h9
  have HG : Hid (∀ (W : World) (j M L : Nat) (hj : j < xs.length) (ps : List (VT × Value)), Below w.heap.size w W → ps.map (·.1) = (xs.take j).flatMap (·.1) → ps.length = M → xs[j].1.length = L → 65536 < M + L → LstPost R w (.returned (.tuple #[.slice none 0 0, .int .i64 2])) W) := fun W j M L hj ps h1 h2 h3 h4 h5 => by
    have h6 := catTake_le xs (j + 1)
    rw [catTake_succ xs j hj, List.length_append, ← h2, List.length_map, h3, h4] at h6
    rw [hR, if_neg (by omega)]
    exact ⟨h1, rfl⟩
  have HN : Hid (N = xs.length) := hN
  rw [← hN] at hn ⊢
  clear hc hx hR hN
  go_enter Try.func24, Try.ntmps24
  go_wp2_with fail
  go_loopg [5, 4] (N + 1) (fun z vi vo wr => ∃ (j : Nat) (av : Option Addr) (M cv : Nat) (ps : List (VT × Value)), vi = .int .i64 (j : Int) ∧ j ≤ N ∧ z = N + 1 - j ∧ vo = .slice av M cv ∧ M ≤ 65536 ∧ Hid (Rw w wr (.slice av M cv) M (ps.flatMap encP)) ∧ Hid (ps.map (·.1) = (xs.take j).flatMap (·.1) ∧ ps.length = M ∧ ∀ p ∈ ps, Sound 16 w p))
  case atStart => exact ⟨0, none, 0, 0, [], rfl, by omega, by omega, rfl, by omega, Rw.nil w, rfl, rfl, fun p hp => by cases hp⟩
  case round =>
    obtain ⟨j, av, M, cv, ps, rfl, hj, hz, rfl, hM, HR, HP⟩ := hrel
    have Hz : Hid _ := hz
    clear hz
    have hwM : IntKind.i64.wrap (65536 - (M : Int)) = ((65536 - M : Nat) : Int) := by rw [IntKind.wrap_i64]; omega
    by_cases hlt : j < N
    · have hji : (j : Int) < (N : Nat) := by omega
      have hjx : j < xs.length := by rw [← HN.out]; exact hlt
      obtain ⟨a, L, c, qs, hcell, hL, hsrc, hq1, hq2, hq3⟩ := HX.out j hjx
      have hcj := hcell wr HR.out.below
      have hcl : xs[j].1.length = L := by rw [← hq2, List.length_map, hq1]
      by_cases hfit : M + L ≤ 65536
      · have hfi : ¬ ((65536 - M : Nat) : Int) < (L : Nat) := by omega
        have HS : Hid (Src w a L 4 (qs.flatMap encP)) := hsrc
        have HP' : Hid ((ps ++ qs).map (·.1) = (xs.take (j + 1)).flatMap (·.1) ∧ (ps ++ qs).length = M + L ∧ ∀ p ∈ ps ++ qs, Sound 16 w p) := ⟨by rw [List.map_append, HP.out.1, hq2]; exact (catTake_succ xs j hjx).symm, by rw [List.length_append, HP.out.2.1, hq1], fun p hp => by
          rcases List.mem_append.1 hp with hp | hp
          · exact HP.out.2.2 p hp
          · exact hq3 p hp⟩
        have HC := HR.out
        clear HR HP hcell hsrc hq1 hq2 hq3 hcl
        go_wp2_with
          (at_builtin; refine Rw.append rfl _ _ rfl HC rfl rfl HS.out (M + L) rfl (by omega) ?_; clear HC hcj; intro ax cx W HC)
        have HNw : Hid (Rw w W (.slice ax (M + L) cx) (M + L) ((ps ++ qs).flatMap encP)) := by
          show Rw _ _ _ _ _
          rw [List.flatMap_append]
          exact HC
        clear HC
        go_wp2_with fail
        go_roundg (N + 1 - (j + 1))
        case measure => have := Hz.out; omega
        case rel => exact ⟨j + 1, ax, M + L, cx, ps ++ qs, by go_num, by omega, by omega, rfl, by omega, HNw, HP'⟩
      · have hfi : ((65536 - M : Nat) : Int) < (L : Nat) := by omega
        have HE : Hid _ := HG.out wr j M L hjx ps HR.out.below HP.out.1 HP.out.2.1 hcl (by omega)
        clear HR HP hcell hsrc hq1 hq2 hq3 hcl HG HF HX
        go_wp2_with fail
        go_ret2
        exact HE.out
    · obtain rfl : j = N := by omega
      have hself : ¬ ((j : Nat) : Int) < (j : Nat) := by omega
      have HE : Hid _ := HF.out wr av M cv ps HR.out HP.out.1 HP.out.2.1 HP.out.2.2 hM
      clear HR HP HG HF HX
      go_wp2_with fail
      go_ret2
      exact HE.out

theorem rall4_any (l m : List VT) (al am : Option Addr) (cl cm : Nat) (w : World) (hl : Lies 17 w l (.slice al l.length cl)) (hll : l.length ≤ 65536) (hm : Lies 17 w m (.slice am m.length cm)) (hml : m.length ≤ 65536) :
    Calls Try.prog 24 #[.slice (some ⟨w.heap.size, 0, none⟩) 4 4] (w.alloc (.cells #[.slice al l.length cl, .slice none 0 0, .slice am m.length cm, .slice al l.length cl] 22)) (LstPost (catR4 l m) w) := by
  have hba : Below w.heap.size w (w.alloc (.cells #[.slice al l.length cl, .slice none 0 0, .slice am m.length cm, .slice al l.length cl] 22)) := ((Grew.refl w).alloc _).below
  have h9 := rall_core [(l, .slice al l.length cl), ([], .slice none 0 0), (m, .slice am m.length cm), (l, .slice al l.length cl)] w.heap.size (w.alloc (.cells #[.slice al l.length cl, .slice none 0 0, .slice am m.length cm, .slice al l.length cl] 22)) (fun i hi => by
    match i, hi with
    | 0, _ => simp
    | 1, _ => simp
    | 2, _ => simp
    | 3, _ => simp) (by simp) (fun p hp => by
      simp only [List.mem_cons, List.not_mem_nil, or_false] at hp
      rcases hp with rfl | rfl | rfl | rfl
      · exact ⟨Lies.keeps hba _ _ _ hl, hll⟩
      · exact ⟨⟨none, 0, rfl, by simp, fun h => absurd rfl h⟩, by simp⟩
      · exact ⟨Lies.keeps hba _ _ _ hm, hml⟩
      · exact ⟨Lies.keeps hba _ _ _ hl, hll⟩)
  have e : joinR [(l, .slice al l.length cl), ([], .slice none 0 0), (m, .slice am m.length cm), (l, .slice al l.length cl)] = catR4 l m := by
    unfold joinR catR4
    simp only [List.flatMap_cons, List.flatMap_nil, List.append_nil, List.nil_append]
  rw [e] at h9
  exact Calls.mono h9 (fun e w' hp => ⟨hba.trans (hp.1.mono hba.size), hp.2⟩)

theorem Rw.alloc {w W : World} {v : Value} {n : Nat} {xs : List Value} (h : Rw w W v n xs) (o : Obj) : Rw w (W.alloc o) v n xs := ⟨h.below.trans (((Grew.refl W).alloc o).below.mono h.below.size), World.ownsRow.alloc h.own o⟩

theorem Rw.append_here {w W : World} {ops : Array Oper} {rest : List Oper} {o : Oper} {act : Act} {Q : Exit → Act → World → Prop} (hgd : o.guard = none) (s x : Operand)
    (ho : o.op = .call { callee := .builtin .append, args := #[s, x], argTypes := #[22, 22] })
    {v : Value} {n : Nat} {xs : List Value} (hr : Rw w W v n xs) (hs : act.eval s = v) {aa : Option Addr} {m c : Nat} (hx : act.eval x = .slice aa m c) {news : List Value} (hsrc : Src W aa m 4 news) (k : Nat) (hk : n + m = k) (hm : k ≤ 200000)
    (h : ∀ a' c' W', Rw w W' (.slice a' k c') k (xs ++ news) → wpList Try.prog ops Q rest (act.put o.dst (.slice a' k c')) W') : wpList Try.prog ops Q (o :: rest) act W := by
  subst hk
  obtain ⟨i0, hi, hz0, hz1, hz2⟩ := info24
  refine wpList_append_row hgd s x ho w.heap.size i0 hi hz0 hz1 hz2 v n xs hs hr.own aa m c news hx hsrc.none hsrc.len (hsrc.cell (Below.refl _ _)) hsrc.one (by unfold maxLen; omega) (by omega) hr.below.size (fun v' w' h1 h2 => ?_)
  have hb : Below w.heap.size w w' := own_growM hr.below hr.below.size hr.own h2
  have hv : ∃ a' c', v' = .slice a' (n + m) c' := by
    rcases h1.2 with ⟨e1, e2⟩ | ⟨g, cap, _, e1, _⟩
    · exact ⟨none, 0, by rw [e1, e2]⟩
    · exact ⟨_, cap, e1⟩
  obtain ⟨a', c', rfl⟩ := hv
  exact h a' c' w' ⟨hb, h1⟩

/-- One value, laid as a list of its own. -/
theorem src_one (W : World) (x : VT) (a : Option Addr) (n c : Nat) : Src (W.alloc (.cells #[.int .i64 x.kind, .int .i64 x.num, .string x.text, .slice a n c] 38)) (some ⟨W.heap.size, 0, none⟩) 1 4 (encP (x, .slice a n c)) := by
  refine ⟨fun e => (nomatch e), rfl, fun ad e j u hu => ?_, by intro u hu; simp [encP] at hu; rcases hu with rfl | rfl | rfl | rfl <;> rfl⟩
  injection e with e
  subst e
  match j, hu with
  | 0, hu => simp [encP] at hu; subst hu; simp [Addr.add]
  | 1, hu => simp [encP] at hu; subst hu; simp [Addr.add]
  | 2, hu => simp [encP] at hu; subst hu; simp [Addr.add]
  | 3, hu => simp [encP] at hu; subst hu; simp [Addr.add]

set_option maxRecDepth 100000 in
set_option maxHeartbeats 8000000 in
theorem rreverse_any (l : List VT) (a : Option Addr) (c : Nat) (w : World) (hl : Lies 17 w l (.slice a l.length c)) (hlen : l.length ≤ 65536) : Calls Try.prog 26 #[.slice a l.length c] w fun e w' => Below w.heap.size w w' ∧ ∃ a9 c9, e = .returned (.slice a9 l.length c9) ∧ Lies 17 w' l.reverse (.slice a9 l.length c9) := by
  obtain ⟨L, hL⟩ : ∃ L, L = l.length := ⟨_, rfl⟩
  obtain ⟨ps, hp1, hp2, hsA, hsd⟩ := src_of hl
  have hpL : ps.length = L := by rw [hp2, hL]
  have HX : Hid (∀ s (hs : s < ps.length), ∃ g o, a = some ⟨g, o, none⟩ ∧ ∀ W, Below w.heap.size w W → W.cell? ⟨g, o + s * 4, none⟩ = some (.int .i64 ps[s].1.kind) ∧ W.cell? ⟨g, o + s * 4 + 1, none⟩ = some (.int .i64 ps[s].1.num) ∧ W.cell? ⟨g, o + s * 4 + 2, none⟩ = some (.string ps[s].1.text) ∧ W.cell? ⟨g, o + s * 4 + 3, none⟩ = some ps[s].2) := fun s hs => by
    obtain ⟨g, o, rfl, _⟩ := Lies.some_at hl (by omega)
    refine ⟨g, o, rfl, fun W hW => ?_⟩
    have hrow : RowAt w g o ps := RowAt.of_flat (fun j u hj => by
      have h9 := hsA.at_ _ rfl j u hj
      unfold Addr.add at h9
      by_cases hj0 : j = 0
      · subst hj0; simpa using h9
      · simpa [hj0] using h9)
    obtain ⟨k0, k1, k2, k3⟩ := hrow s hs
    exact ⟨cell_keeps hW k0, cell_keeps hW k1, cell_keeps hW k2, cell_keeps hW k3⟩
  have HSl : Hid (∀ p ∈ ps, ∃ a n c, p.2 = .slice a n c) := fun p hp => by obtain ⟨a, c, e, _⟩ := Lies.slice (hsd p hp).1; exact ⟨_, _, _, e⟩
  have HF : Hid (∀ W av cv, Rw w W (.slice av L cv) L ((ps.drop 0).reverse.flatMap encP) → Below w.heap.size w W ∧ ∃ a9 c9, Ending.returned (.slice av L cv) = .returned (.slice a9 L c9) ∧ Lies 17 W l.reverse (.slice a9 L c9)) := fun W av cv h => by
    rw [List.drop_zero] at h
    have h9 := h.lies (by rw [List.length_reverse, hpL]) (fun p hp => hsd p (List.mem_reverse.1 hp)) (by omega)
    rw [List.map_reverse, hp1] at h9
    exact ⟨h.below, av, cv, rfl, h9⟩
  have hw0 : 1 ≤ L → IntKind.i64.wrap ((L : Int) - 1) = ((L - 1 : Nat) : Int) := fun h => by rw [IntKind.wrap_i64]; omega
  have HpL : Hid (ps.length = L) := hpL
  rw [← hL] at hlen ⊢
  have Hw0 : Hid (1 ≤ L → IntKind.i64.wrap ((L : Int) - 1) = ((L - 1 : Nat) : Int)) := hw0
  clear hl hsA hp1 hp2 hsd hL hpL hw0
  obtain ⟨q0, hq0⟩ : ∃ q0 : Int, q0 = (L : Int) - 1 := ⟨_, rfl⟩
  have hwq : IntKind.i64.wrap ((L : Int) - 1) = q0 := by rw [IntKind.wrap_i64]; omega
  have Hq0 : Hid (q0 = (L : Int) - 1) := hq0
  clear hq0
  go_enter Try.func26, Try.ntmps26
  go_wp2_with fail
  go_loopg [4, 3] (L + 1) (fun z vi vo wr => ∃ (r M : Nat) (q : Int) (av : Option Addr) (cv : Nat), vi = .int .i64 q ∧ Hid (q = (r : Int) - 1) ∧ M + r = L ∧ z = r + 1 ∧ vo = .slice av M cv ∧ Hid (Rw w wr (.slice av M cv) M ((ps.drop r).reverse.flatMap encP)))
  case atStart =>
    refine ⟨L, 0, q0, none, 0, rfl, Hq0, by omega, by omega, rfl, ?_⟩
    show Rw _ _ _ _ _
    rw [List.drop_eq_nil_of_le (by rw [HpL.out]; omega)]
    exact Rw.nil w
  case round =>
    obtain ⟨r, M, q, av, cv, rfl, Hq, hMr, hz, rfl, HR⟩ := hrel
    have Hz : Hid _ := hz
    clear hz hwq
    cases r with
    | zero =>
      have hneg : ¬ (0 : Int) ≤ q := by have := Hq.out; omega
      obtain rfl : M = L := by omega
      have HE : Hid _ := HF.out wr av cv HR.out
      clear HF HR HX HSl Hq
      go_wp2_with fail
      go_ret
      exact HE.out
    | succ s =>
      obtain rfl : q = (s : Int) := by have := Hq.out; omega
      have hsL : s < ps.length := by rw [HpL.out]; omega
      obtain ⟨g, o, ha, hcells⟩ := HX.out s hsL
      obtain ⟨k0, k1, k2, k3⟩ := hcells wr HR.out.below
      obtain ⟨sa, sn, sc, e3⟩ := HSl.out _ (List.getElem_mem hsL)
      rw [e3] at k3
      have HC := HR.out
      have HD : Hid (∀ W av' cv', Rw w W (.slice av' (M + 1) cv') (M + 1) ((ps.drop (s + 1)).reverse.flatMap encP ++ encP (ps[s].1, .slice sa sn sc)) → Rw w W (.slice av' (M + 1) cv') (M + 1) ((ps.drop s).reverse.flatMap encP)) := fun W av' cv' h => by
        rw [List.drop_eq_getElem_cons hsL, List.reverse_cons, List.flatMap_append]
        have e9 : ([ps[s]] : List (VT × Value)).flatMap encP = encP (ps[s].1, .slice sa sn sc) := by rw [← e3]; simp
        rw [e9]
        exact h
      have hsi : (s : Int) < (L : Nat) := by omega
      have hs0 : (0 : Int) ≤ (s : Int) := by omega
      obtain ⟨q', hq'⟩ : ∃ q' : Int, q' = (s : Int) - 1 := ⟨_, rfl⟩
      have hwq : IntKind.i64.wrap ((s : Int) - 1) = q' := by rw [IntKind.wrap_i64]; omega
      have Hq' : Hid (q' = (s : Int) - 1) := hq'
      subst ha
      generalize hxx : ps[s].1 = x at *
      clear hxx e3 hcells hq' HR hsL Hq
      go_wp2_with
        (at_builtin; refine Rw.append_here rfl _ _ rfl (HC.alloc _) rfl rfl (src_one _ x sa sn sc) (M + 1) rfl (by omega) ?_; clear HC k0 k1 k2 k3; intro ax cx W HC)
      have HNw : Hid _ := HD.out W ax cx HC
      clear HC HD
      go_wp2_with fail
      go_roundg (s + 1)
      case measure => have := Hz.out; omega
      case rel => exact ⟨s, M + 1, q', ax, cx, rfl, Hq', by omega, rfl, rfl, HNw⟩

end Go.Proofs.Ytpnfmcmhcjekfab

namespace Go.Proofs.Ytpnfmcmhcjekfab
open Go.RowKit

theorem int_top {k : Int} (h : (Lit.int .i64 k).wf = true) : k ≤ 9223372036854775807 := by
  simp only [Lit.wf, Bool.and_eq_true, decide_eq_true_eq] at h
  exact h.2

set_option maxRecDepth 100000 in
set_option maxHeartbeats 32000000 in
theorem turns_walk (n : Nat) (l m : List VT) (ul um : Value) (k : Int) (w : World) (hl : Lies (n + 1) w l ul) (hm : Lies (n + 1) w m um) (hk63 : k ≤ 9223372036854775807) : Calls Try.prog 5 #[.agg #[ul, um], .int .i64 k] w fun e w' => e = .returned (.bool true) ∧ Below w.heap.size w w' := by
  obtain ⟨al, cl, rfl, _⟩ := Lies.slice hl
  obtain ⟨am, cm, rfl, _⟩ := Lies.slice hm
  obtain ⟨wA, hwA⟩ : ∃ wA, wA = w.alloc (.cells #[.slice al l.length cl, .slice am m.length cm] 48) := ⟨_, rfl⟩
  have hbA : Below w.heap.size w wA := by rw [hwA]; exact ((Grew.refl w).alloc _).below
  have hc0 : wA.cell? ⟨w.heap.size, 0, none⟩ = some (.slice al l.length cl) := by rw [hwA]; simp
  have hc1 : wA.cell? ⟨w.heap.size, 1, none⟩ = some (.slice am m.length cm) := by rw [hwA]; simp
  have HMa : Hid _ := made2_any n l m al am cl cm wA (Lies.keeps hbA _ _ _ hl) (Lies.keeps hbA _ _ _ hm)
  have HSp : Hid (∀ V, Calls Try.prog 9 #[] V fun e w' => e = .returned (.bool true) ∧ Below V.heap.size V w') := speaks12_any
  have HIs : Hid (∀ (p : Value) (k : Nat) (u : Value) (W : World), Pair12 W p k u → Calls Try.prog 14 #[p, .int .i64 (k : Int), u, .int .i64 (k : Int)] W fun e w' => e = .returned (.bool true) ∧ Below W.heap.size W w') := is_pair
  have HwA : Hid (wA = w.alloc (.cells #[.slice al l.length cl, .slice am m.length cm] 48)) := hwA
  rw [hwA] at HMa
  clear hl hm hwA
  go_enter Try.func5, Try.ntmps5
  go_wp2_with fail
  refine Calls.mono HMa.out ?_
  rintro e w1 ⟨hg1, hp1⟩
  rw [← HwA.out] at hg1
  have hb1 : Below w.heap.size w w1 := hbA.trans (hg1.mono hbA.size)
  have Hd0 : Hid (w1.cell? ⟨w.heap.size, 0, none⟩ = some (.slice al l.length cl)) := cell_keeps hg1 hc0
  have Hd1 : Hid (w1.cell? ⟨w.heap.size, 1, none⟩ = some (.slice am m.length cm)) := cell_keeps hg1 hc1
  clear HMa HwA hc0 hc1 hg1 hbA
  rcases hp1 with ⟨b1, b2, rfl, hv1, hv2, hl17, hm17⟩ | ⟨p, q, rfl⟩
  · have hll := hv1.len
    have hml := hv2.len
    have HCa : Hid _ := pair_any (crepeat_any l _ k w1 hv1 hk63) (fun W hW => rrepeat_any l al cl k W (Lies.keeps hW _ _ _ hl17) hll hk63) (repR_err l k)
    have HAl : Hid (∀ W, Below w1.heap.size w1 W → Calls Try.prog 23 #[.slice (some ⟨W.heap.size, 0, none⟩) 4 4] (W.alloc (.cells #[.pointer (some ⟨b1, 0, none⟩), .pointer none, .pointer (some ⟨b2, 0, none⟩), .pointer (some ⟨b1, 0, none⟩)] 23)) fun e w2 => Below W.heap.size W w2 ∧ ∃ (k : Nat) (p1 : Value), e = .returned (.tuple #[p1, .int .i64 (k : Int)]) ∧
      ∀ V, Below w2.heap.size w2 V → Calls Try.prog 24 #[.slice (some ⟨V.heap.size, 0, none⟩) 4 4] (V.alloc (.cells #[.slice al l.length cl, .slice none 0 0, .slice am m.length cm, .slice al l.length cl] 22)) fun e w3 => Below V.heap.size V w3 ∧ ∃ (a1 : Option Addr) (n1 c1 : Nat), e = .returned (.tuple #[.slice a1 n1 c1, .int .i64 (k : Int)]) ∧ Pair12 w3 p1 k (.slice a1 n1 c1)) := fun W hW => by
      have h9 := all4_any l m _ _ W (hv1.keeps hW) (hv2.keeps hW)
      refine Calls.mono h9 ?_
      rintro e w2 ⟨hb2, hp⟩
      refine ⟨hb2, ?_⟩
      have hr : ∀ V (hV : Below w2.heap.size w2 V), _ := fun V hV => rall4_any l m al am cl cm V (Lies.keeps (hW.trans ((hb2.trans (hV.mono hb2.size)).mono hW.size)) _ _ _ hl17) hll (Lies.keeps (hW.trans ((hb2.trans (hV.mono hb2.size)).mono hW.size)) _ _ _ hm17) hml
      have h0 := catR4_err l m
      generalize catR4 l m = R at hp hr h0
      cases R with
      | inl m9 =>
        obtain ⟨b, rfl, v1⟩ := hp
        refine ⟨0, _, rfl, fun V hV => Calls.mono (hr V hV) ?_⟩
        rintro e w3 ⟨hb3, a1, c1, rfl, l1⟩
        exact ⟨hb3, a1, _, c1, rfl, .inl ⟨rfl, _, b, a1, c1, rfl, rfl, (v1.keeps hV).keeps hb3, l1⟩⟩
      | inr k =>
        have hk := h0 k rfl
        have hp' : e = _ := hp
        subst hp'
        refine ⟨k, _, rfl, fun V hV => Calls.mono (hr V hV) ?_⟩
        rintro e w3 ⟨hb3, hq⟩
        have hq' : e = _ := hq
        subst hq'
        exact ⟨hb3, none, 0, 0, rfl, .inr ⟨hk, rfl, rfl⟩⟩
    have HRv : Hid (∀ W, Below w1.heap.size w1 W → Calls Try.prog 25 #[.pointer (some ⟨b1, 0, none⟩)] W fun e w' => Below W.heap.size W w' ∧ ∃ b, e = .returned (.pointer (some ⟨b, 0, none⟩)) ∧ VV w' l.reverse (.pointer (some ⟨b, 0, none⟩))) := fun W hW => creverse_any l _ W (hv1.keeps hW)
    have HRr : Hid (∀ W, Below w1.heap.size w1 W → Calls Try.prog 26 #[.slice al l.length cl] W fun e w' => Below W.heap.size W w' ∧ ∃ a9 c9, e = .returned (.slice a9 l.reverse.length c9) ∧ Lies 17 w' l.reverse (.slice a9 l.reverse.length c9)) := fun W hW => by rw [List.length_reverse]; exact rreverse_any l al cl W (Lies.keeps hW _ _ _ hl17) hll
    clear hv1 hv2 hl17 hm17
    generalize l.reverse = lr at *
    go_wp2_with fail
    refine Calls.mono HCa.out ?_
    rintro e w2 ⟨hb2, k1, p1, rfl, hrc⟩
    have HRc : Hid _ := hrc w2 (Below.refl _ _)
    have d0 := cell_keeps hb2 Hd0.out
    have d1 := cell_keeps hb2 Hd1.out
    clear HCa hrc
    go_wp2_with fail
    refine Calls.mono HRc.out ?_
    rintro e w3 ⟨hb3, a1, n1, c1, rfl, hq1⟩
    have HQ1 : Hid (Pair12 w3 p1 k1 (.slice a1 n1 c1)) := hq1
    have hb13 : Below w1.heap.size w1 w3 := hb2.trans (hb3.mono hb2.size)
    have HS3 : Hid _ := HAl.out w3 hb13
    clear HRc hq1 d0 d1 HAl hb2 hb3
    go_wp2_with fail
    refine Calls.mono HS3.out ?_
    rintro e w4 ⟨hb4, k2, p2, rfl, hrs⟩
    have HRs : Hid _ := hrs w4 (Below.refl _ _)
    have hb14 : Below w1.heap.size w1 w4 := hb13.trans (hb4.mono hb13.size)
    have HQ1 : Hid (Pair12 w4 p1 k1 (.slice a1 n1 c1)) := HQ1.out.keeps hb4
    have d0 := cell_keeps hb14 Hd0.out
    have d1 := cell_keeps hb14 Hd1.out
    clear HS3 hrs hb13 hb4
    go_wp2_with fail
    refine Calls.mono HRs.out ?_
    rintro e w5 ⟨hb5, a2, n2, c2, rfl, hq2⟩
    have hb15 : Below w1.heap.size w1 w5 := hb14.trans (hb5.mono hb14.size)
    have HQ1 : Hid (Pair12 w5 p1 k1 (.slice a1 n1 c1)) := HQ1.out.keeps hb5
    have HQ2 : Hid (Pair12 w5 p2 k2 (.slice a2 n2 c2)) := hq2
    have D0 : Hid (w5.cell? ⟨w.heap.size, 0, none⟩ = some (.slice al l.length cl)) := cell_keeps hb15 Hd0.out
    have x0 := D0.out
    have HB5 : Hid (Below w.heap.size w w5) := hb1.trans (hb15.mono hb1.size)
    have HB15 : Hid (Below w1.heap.size w1 w5) := hb15
    have hbc : Below w5.heap.size w5 w5.drew := (Below.refl _ _).drew
    clear HRs hq2 d0 d1 hb14 hb5 hb15 hb1 Hd0 Hd1 hll hml
    go_wp2_with fail
    go_region_held3 (fun w' => w'.cell? ⟨w.heap.size, 0, none⟩ = some (.slice al l.length cl)) (go_keep)
        (first
          | (go_at_call 9; refine Calls.mono (HSp.out _) ?_; rintro e W ⟨rfl, hbn⟩; replace hbc := hbc.trans (hbn.mono hbc.size); clear hbn; have x0 := cell_keeps hbc D0.out)
          | (go_at_call 25; refine Calls.mono (HRv.out _ (HB15.out.trans (hbc.mono HB15.out.size))) ?_; rintro e W ⟨hbn, bR, rfl, hvR⟩; replace hbc := hbc.trans (hbn.mono hbc.size); clear hbn; have HVR : Hid _ := hvR; clear hvR; have x0 := cell_keeps hbc D0.out)
          | (go_at_call 26; refine Calls.mono (HRr.out _ (HB15.out.trans (hbc.mono HB15.out.size))) ?_; rintro e W ⟨hbn, a9, c9, rfl, hlR⟩; replace hbc := hbc.trans (hbn.mono hbc.size); have HPR : Hid (Pair12 W (.pointer (some ⟨bR, 0, none⟩)) 0 (.slice a9 lr.length c9)) := .inl ⟨rfl, lr, bR, a9, c9, rfl, rfl, HVR.out.keeps hbn, hlR⟩; clear hbn hlR HVR; have x0 := cell_keeps hbc D0.out)
          | (go_at_call 14; refine Calls.mono (HIs.out _ _ _ _ (HQ1.out.keeps hbc)) ?_; rintro e W ⟨rfl, hbn⟩; replace hbc := hbc.trans (hbn.mono hbc.size); clear hbn; have x0 := cell_keeps hbc D0.out)
          | (go_at_call 14; refine Calls.mono (HIs.out _ _ _ _ (HQ2.out.keeps hbc)) ?_; rintro e W ⟨rfl, hbn⟩; replace hbc := hbc.trans (hbn.mono hbc.size); clear hbn; have x0 := cell_keeps hbc D0.out)
          | (go_at_call 14; refine Calls.mono (HIs.out _ 0 _ _ HPR.out) ?_; rintro e W ⟨rfl, hbn⟩; replace hbc := hbc.trans (hbn.mono hbc.size); clear hbn; have x0 := cell_keeps hbc D0.out))
    all_goals
      have HBz : Hid (Below w.heap.size w _) := HB5.out.trans (hbc.mono HB5.out.size)
      clear hbc x0
      go_wp2_with fail
      go_ret
      exact ⟨rfl, HBz.out⟩
  · go_wp2_with fail
    refine Calls.mono (HSp.out _) ?_
    rintro e wz ⟨rfl, hbz⟩
    have HBz : Hid (Below w.heap.size w wz) := hb1.trans (hbz.mono hb1.size)
    clear hbz hb1
    go_wp2_with fail
    go_ret
    exact ⟨rfl, HBz.out⟩

end Go.Proofs.Ytpnfmcmhcjekfab

