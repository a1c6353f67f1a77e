/-
  The contracts of fit, at values and at nodes.
-/
import Derived.Test.YtekoaiehhjgfiaaGreatWith2
import Derived.Maps.AppendAt
import Derived.Lib.AppendZerosOnto
import Derived.Laws.AppendOwnNone
import Derived.Deep.LoopGhost
import Derived.BigRegion
namespace Go.Proofs.YtekoaiehhjgfiaaGreat
open Go.RowKit

/-- What append asks of a list that is put behind. -/
structure Src (w : World) (a : Option Addr) (n size : Nat) (cs : List Value) : Prop where
  none : a = Option.none → n = 0
  len : cs.length = n * size
  at_ : ∀ ad, a = some ad → ∀ j u, cs[j]? = some u → w.cell? (ad.add j) = some u
  one : ∀ u ∈ cs, u.oneCell' = true

theorem Src.cell {w W : World} {a : Option Addr} {n size : Nat} {cs : List Value} (h : Src w a n size cs) (hb : Below w.heap.size w W) : ∀ ad, a = some ad → ∀ j u, cs[j]? = some u → W.cell? (ad.add j) = some u := fun ad e j u hj => cell_keeps hb (h.at_ ad e j u hj)

theorem SlV.src {w : World} {vs : List Value} {a : Option Addr} {n c : Nat} (h : SlV w vs (.slice a n c)) (h1 : OneC vs) : Src w a n 1 vs := by
  obtain ⟨a', c', hv, hc, hr⟩ := h
  injection hv with q1 q2 q3
  subst q1 q2 q3
  refine ⟨fun e => ?_, by omega, fun ad e j u hj => ?_, h1⟩
  · by_cases hne : vs = []
    · rw [hne]; rfl
    · obtain ⟨b, o, ha, _⟩ := hr hne
      rw [ha] at e; cases e
  · obtain ⟨hj1, rfl⟩ := List.getElem?_eq_some_iff.1 hj
    obtain ⟨b, o, ha, hcs⟩ := hr (fun e0 => by rw [e0] at hj1; cases hj1)
    rw [ha] at e
    injection e with e
    subst e
    rw [add_addr5]
    exact hcs j hj1

theorem SlP.src {base d : Nat} {w : World} {ps : List (VT × Value)} {a : Option Addr} {n c : Nat} (h : SlP base d w ps (.slice a n c)) : Src w a n 4 (ps.flatMap encP) := by
  obtain ⟨a', c', hv, h1, h2, h3, h4⟩ := h
  injection hv with q1 q2 q3
  subst q1 q2 q3
  refine ⟨fun e => ?_, flat_len ps, fun ad e j u hj => ?_, fun u hu => ?_⟩
  · by_cases hne : ps = []
    · rw [hne]; rfl
    · obtain ⟨b, o, ha, _⟩ := h3 hne
      rw [ha] at e; cases e
  · by_cases hne : ps = []
    · rw [hne] at hj; simp at hj
    · obtain ⟨b, o, ha, _, hr⟩ := h3 hne
      rw [ha] at e
      injection e with e
      subst e
      rw [add_addr5]
      exact hr.flat j u hj
  · obtain ⟨p, hp, hu⟩ := List.mem_flatMap.1 hu
    exact encP_one (h4 p hp) u hu

/-- Behind a row of one's own whatever row of nodes, be it nil. -/
theorem wpList_append_rowN {w : World} {ops : Array Oper} {rest : List Oper} {o : Oper} {a : Act} {Q : Exit → Act → World → Prop} (hgd : o.guard = none) (s x : Operand)
    (ho : o.op = .call { callee := .builtin .append, args := #[s, x], argTypes := #[148, 148] })
    (base : Nat) (i : TypeInfo) (hi : Tryz.prog.info? 76 = some i) (hz : i.zero = some .nilIface) (hsize : i.size = 1) (hby : i.bytes = 16)
    (v : Value) (n : Nat) (xs : List Value) (hs : a.eval s = v) (hown : w.ownsRow base 76 1 v n xs)
    (aa : Option Addr) (m c : Nat) (news : List Value) (hx : a.eval x = .slice aa m c) (hnone : aa = none → m = 0) (hl : news.length = m * 1) (hnews : ∀ ad, aa = some ad → ∀ j u, news[j]? = some u → w.cell? (ad.add j) = some u) (h1 : ∀ u ∈ news, u.oneCell' = true)
    (h63 : n + m ≤ maxLen) (hbytes : (n + m) * 16 ≤ 140737488355328) (hbase : base ≤ w.heap.size)
    (h : ∀ v' w', w'.ownsRow base 76 1 v' (n + m) (xs ++ news) → w.grownBy w' v.ownBlock → wpList Tryz.prog ops Q rest (a.put o.dst v') w') : wpList Tryz.prog ops Q (o :: rest) a w := by
  cases aa with
  | none =>
    have hm := hnone rfl
    subst hm
    have hn : news = [] := List.eq_nil_of_length_eq_zero (by omega)
    subst hn
    have hr : ∀ ty, (Builtin.append_ #[148, 148] ty #[v, .slice none 0 c]).run Tryz.prog w = .ok v w := fun ty => by
      rcases hown.2 with ⟨rfl, rfl⟩ | ⟨g, cap, cur, rfl, _, _, hnc, _⟩
      · simp [Builtin.append_, run_underlying Tryz.underlying148, sizeOf, typeInfo, hi, Builtin.lenOf, Builtin.firstCells]
      · simp [Builtin.append_, run_underlying Tryz.underlying148, sizeOf, typeInfo, hi, Builtin.lenOf, Builtin.firstCells, hnc, storeCells]
    refine Lib.wpList_append_run w hgd s x 148 148 ho v (.slice none 0 c) hs hx v w (hr _) (h v w (by simpa using hown) ⟨rfl, rfl, rfl, Nat.le_refl _, fun _ _ _ => rfl⟩)
  | some ad =>
    exact wpList_append_own w hgd s x 148 ho base 76 i _ 1 16 Tryz.underlying148 hi hz hsize hby rfl (by decide) v n xs hs hown ad m c news hx hl (hnews ad rfl) h1 h63 hbytes hbase (fun v' w' k1 k2 _ => h v' w' k1 k2)

set_option maxHeartbeats 2000000 in
set_option maxRecDepth 100000 in
theorem growN_nil (n : Nat) (h2 : n ≤ 131072) (w : World) : Calls Tryz.prog 244 #[.slice none 0 0, .int .i64 n] w fun e w' => ∃ v, e = .returned v ∧ w'.ownsRow w.heap.size 76 1 v 0 [] ∧ Below w.heap.size w w' := by
  by_cases h1 : n = 0
  · subst h1
    go_enter Tryz.func244, Tryz.ntmps244
    go_wp2_with fail
    go_ret
    exact ⟨_, rfl, World.ownsRow_nil _ _ _ _, Below.refl _ _⟩
  obtain ⟨i0, hi, hz0, hz1, hz2⟩ := infoN
  have hge := grownCap_ge w (0 + n) 0 76
  have hle := grownCap_le_maxLen w (0 + n) 0 76 (by unfold maxLen; omega)
  obtain ⟨K, cs, hK, hK3, hcs, hrz⟩ : ∃ (K : Nat) (cs : Array Value), n ≤ K ∧ K ≤ maxLen ∧ cs.size = K * 1 ∧ ∀ ty, (Builtin.append_ #[148, 3] ty #[.slice none 0 0, .int .i64 n]).run Tryz.prog w = .ok (.slice (some ⟨w.heap.size, 0, none⟩) n K) (w.drew.alloc (.cells cs 76)) := by
    have hrz := fun ty => Lib.run_append_grow_zeros (P := Tryz.prog) w 148 3 ty 76 i0 .nilIface .i64 .i64 Tryz.underlying148 Tryz.underlying3 hi hz0 none 0 0 [] (run_firstCells_none w.drew i0.size 0 0 0) n (by omega) (by omega) (by omega) (by omega) (by rw [hz2]; omega) (growslice_fits (by omega) (by rw [hz2]; omega))
    simp only [Nat.zero_add] at hrz hge hle
    refine ⟨_, _, hge, hle, ?_, hrz⟩
    have hzc : ∀ m, (Builtin.zeroCells (.nilIface : Value).cells m).size = m * 1 := fun m => by
      rw [size_zeroCells]; rfl
    simp only [Array.size_append, hzc]
    simp
    omega
  clear hge hle hi hz0 hz1 hz2
  have hx : ¬ ((n : Int) < 0) := by omega
  have hx2 : (0 : Int) < (n : Int) := by omega
  have hK2 : K ≤ 9223372036854775807 := by unfold maxLen at hK3; omega
  have Hown : Hid ((w.drew.alloc (.cells cs 76)).ownsRow w.heap.size 76 1 (.slice (some ⟨w.heap.size, 0, none⟩) 0 K) 0 []) :=
    ⟨rfl, .inr ⟨w.heap.size, K, cs, rfl, Nat.le_refl _, heap_alloc_new w.drew _, Nat.zero_le _, hK3, hcs, rfl⟩⟩
  have Hb : Hid (Below w.heap.size w (w.drew.alloc (.cells cs 76))) := (Below.refl _ _).drew.alloc (by simp) _
  go_enter Tryz.func244, Tryz.ntmps244
  go_wp2_with (at_builtin; refine Lib.wpList_append_run _ rfl _ _ _ _ rfl _ _ rfl rfl _ _ (hrz _) ?_)
  go_ret
  exact ⟨_, rfl, Hown.out, Hb.out⟩

set_option maxHeartbeats 8000000 in
set_option maxRecDepth 100000 in
theorem concat2N_any (n1 n2 : Nat) (cs1 cs2 : List Value) (a1 a2 : Option Addr) (c1 c2 B : Nat) (w : World) (hA : w.cell? ⟨B, 0, none⟩ = some (.slice a1 n1 c1)) (hB : w.cell? ⟨B, 1, none⟩ = some (.slice a2 n2 c2)) (h1 : Src w a1 n1 1 cs1) (h2 : Src w a2 n2 1 cs2) (hb1 : n1 ≤ 65536) (hb2 : n2 ≤ 65536) :
    Calls Tryz.prog 235 #[.slice (some ⟨B, 0, none⟩) 2 2] w fun e w' => ∃ v, e = .returned v ∧ w'.ownsRow w.heap.size 76 1 v (n1 + n2) (cs1 ++ cs2) ∧ Below w.heap.size w w' := by
  obtain ⟨i0, hi, hz0, hz1, hz2⟩ := infoN
  have Hi : Hid _ := hi; have Hz0 : Hid _ := hz0; have Hz1 : Hid _ := hz1; have Hz2 : Hid _ := hz2
  clear hi hz0 hz1 hz2
  have HA : Hid (w.cell? ⟨B, 0, none⟩ = some (.slice a1 n1 c1)) := hA
  have HB : Hid (w.cell? ⟨B, 1, none⟩ = some (.slice a2 n2 c2)) := hB
  have H1 : Hid (Src w a1 n1 1 cs1) := h1
  have H2 : Hid (Src w a2 n2 1 cs2) := h2
  have hBl : B < w.heap.size := cell_lt hA
  obtain ⟨N, hN⟩ : ∃ N, N = n1 + n2 := ⟨_, rfl⟩
  have HN : Hid (N = n1 + n2) := hN
  have hwN : IntKind.i64.wrap ((n1 : Int) + (n2 : Int)) = (N : Int) := by rw [IntKind.wrap_i64]; omega
  have hNb : N ≤ 131072 := by omega
  have hx1 : ¬ ((n1 : Int) < 0) := by omega
  have hx2 : ¬ ((N : Int) < 0) := by omega
  rw [← hN]
  clear h1 h2 hN
  go_enter Tryz.func235, Tryz.ntmps235
  go_wp2_with fail
  go_loopg [3, 11] 2 (fun g s i wr => ((i = .int .i64 0 ∧ s = .int .i64 0 ∧ g = 2) ∨ (i = .int .i64 1 ∧ s = .int .i64 n1 ∧ g = 1) ∨ (i = .int .i64 2 ∧ s = .int .i64 N ∧ g = 0)) ∧ w = wr)
  case atStart => exact ⟨.inl ⟨rfl, rfl, rfl⟩, rfl⟩
  case round =>
    obtain ⟨hrel, rfl⟩ := hrel
    rcases hrel with ⟨rfl, rfl, hk⟩ | ⟨rfl, rfl, hk⟩ | ⟨rfl, rfl, hk⟩
    · have Hk : Hid _ := hk
      clear hk
      go_wp2_with fail
      go_roundg 1
      case measure => have := Hk.out; omega
      case rel => exact ⟨.inr (.inl ⟨rfl, rfl, rfl⟩), rfl⟩
    · have Hk : Hid _ := hk
      clear hk
      go_wp2_with fail
      go_roundg 0
      case measure => have := Hk.out; omega
      case rel => exact ⟨.inr (.inr ⟨rfl, rfl, rfl⟩), rfl⟩
    · clear hk hA hB hwN
      go_wp2_with fail
      refine (growN_nil N hNb _).mono ?_
      rintro e w1 ⟨v, rfl, hown, hb1'⟩
      have Hown : Hid (w1.ownsRow w.heap.size 76 1 v 0 []) := hown
      clear hown
      go_wp2_with fail
      go_loopg [6, 27] 2 (fun g v i wq => ((i = .int .i64 0 ∧ g = 2 ∧ Hid (wq.ownsRow w.heap.size 76 1 v 0 [])) ∨ (i = .int .i64 1 ∧ g = 1 ∧ Hid (wq.ownsRow w.heap.size 76 1 v n1 cs1)) ∨ (i = .int .i64 2 ∧ g = 0 ∧ Hid (wq.ownsRow w.heap.size 76 1 v N (cs1 ++ cs2)))) ∧ Below w.heap.size w wq)
      case atStart => exact ⟨.inl ⟨rfl, rfl, Hown⟩, hb1'⟩
      case round =>
        obtain ⟨hrel, hbq⟩ := hrel
        clear Hown hb1'
        have hA := cell_keeps hbq HA.out
        have hB := cell_keeps hbq HB.out
        have hszq : w.heap.size ≤ wr.heap.size := hbq.size
        rcases hrel with ⟨rfl, hk, Hown⟩ | ⟨rfl, hk, Hown⟩ | ⟨rfl, hk, Hown⟩
        · have Hk : Hid _ := hk
          clear hk hB
          go_wp2_with (at_builtin; refine wpList_append_rowN rfl _ _ rfl w.heap.size i0 Hi.out Hz0.out Hz1.out Hz2.out _ _ _ rfl Hown.out a1 n1 c1 cs1 rfl H1.out.none H1.out.len (H1.out.cell hbq) H1.out.one (by unfold maxLen; omega) (by omega) hszq ?_; intro v5 w5 hown5 hgrow5)
          have hb5 : Below w.heap.size w w5 := own_growM hbq hszq Hown.out hgrow5
          have Hown5 : Hid (w5.ownsRow w.heap.size 76 1 v5 n1 cs1) := by
            show World.ownsRow _ _ _ _ _ _ _
            simpa using hown5
          clear hown5 hgrow5 Hown hA
          go_wp2_with fail
          go_roundg 1
          case measure => have := Hk.out; omega
          case rel => exact ⟨.inr (.inl ⟨rfl, rfl, Hown5⟩), hb5⟩
        · have Hk : Hid _ := hk
          clear hk hA
          go_wp2_with (at_builtin; refine wpList_append_rowN rfl _ _ rfl w.heap.size i0 Hi.out Hz0.out Hz1.out Hz2.out _ _ _ rfl Hown.out a2 n2 c2 cs2 rfl H2.out.none H2.out.len (H2.out.cell hbq) H2.out.one (by unfold maxLen; omega) (by omega) hszq ?_; intro v5 w5 hown5 hgrow5)
          have hb5 : Below w.heap.size w w5 := own_growM hbq hszq Hown.out hgrow5
          have Hown5 : Hid (w5.ownsRow w.heap.size 76 1 v5 N (cs1 ++ cs2)) := by
            show World.ownsRow _ _ _ _ _ _ _
            rw [HN.out]; exact hown5
          clear hown5 hgrow5 Hown hB
          go_wp2_with fail
          go_roundg 0
          case measure => have := Hk.out; omega
          case rel => exact ⟨.inr (.inr ⟨rfl, rfl, Hown5⟩), hb5⟩
        · clear hA hB hk
          obtain ⟨av, nv, cv, hvs⟩ : ∃ av nv cv, u6 = .slice av nv cv := by
            rcases Hown.out.2 with ⟨e, e2⟩ | ⟨g, cap, cur, e, _⟩
            · exact ⟨_, _, _, e⟩
            · exact ⟨_, _, cap, e⟩
          subst hvs
          go_wp2_with fail
          go_ret
          exact ⟨_, rfl, Hown.out, hbq⟩

set_option maxHeartbeats 2000000 in
set_option maxRecDepth 100000 in
theorem growV_nil (n : Nat) (h2 : n ≤ 131072) (w : World) : Calls Tryz.prog 255 #[.slice none 0 0, .int .i64 n] w fun e w' => ∃ v, e = .returned v ∧ w'.ownsRow w.heap.size 34 4 v 0 [] ∧ Below w.heap.size w w' := by
  by_cases h1 : n = 0
  · subst h1
    go_enter Tryz.func255, Tryz.ntmps255
    go_wp2_with fail
    go_ret
    exact ⟨_, rfl, World.ownsRow_nil _ _ _ _, Below.refl _ _⟩
  obtain ⟨i0, hi, hz0, hz1, hz2⟩ := info24
  have hge := grownCap_ge w (0 + n) 0 34
  have hle := grownCap_le_maxLen w (0 + n) 0 34 (by unfold maxLen; omega)
  obtain ⟨K, cs, hK, hK3, hcs, hrz⟩ : ∃ (K : Nat) (cs : Array Value), n ≤ K ∧ K ≤ maxLen ∧ cs.size = K * 4 ∧ ∀ ty, (Builtin.append_ #[22, 3] ty #[.slice none 0 0, .int .i64 n]).run Tryz.prog w = .ok (.slice (some ⟨w.heap.size, 0, none⟩) n K) (w.drew.alloc (.cells cs 34)) := by
    have hrz := fun ty => Lib.run_append_grow_zeros (P := Tryz.prog) w 22 3 ty 34 i0 (.agg #[.int .i64 0, .int .i64 0, .string ⟨#[]⟩, .slice none 0 0]) .i64 .i64 Tryz.underlying22 Tryz.underlying3 hi hz0 none 0 0 [] (run_firstCells_none w.drew i0.size 0 0 0) n (by omega) (by omega) (by omega) (by omega) (by rw [hz2]; omega) (growslice_fits (by omega) (by rw [hz2]; omega))
    simp only [Nat.zero_add] at hrz hge hle
    refine ⟨_, _, hge, hle, ?_, hrz⟩
    have hzc : ∀ m, (Builtin.zeroCells ((.agg #[.int .i64 0, .int .i64 0, .string ⟨#[]⟩, .slice none 0 0]) : Value).cells m).size = m * 4 := fun m => by
      rw [size_zeroCells]; rfl
    simp only [Array.size_append, hzc]
    simp
    omega
  clear hge hle hi hz0 hz1 hz2
  have hx : ¬ ((n : Int) < 0) := by omega
  have hx2 : (0 : Int) < (n : Int) := by omega
  have hK2 : K ≤ 9223372036854775807 := by unfold maxLen at hK3; omega
  have Hown : Hid ((w.drew.alloc (.cells cs 34)).ownsRow w.heap.size 34 4 (.slice (some ⟨w.heap.size, 0, none⟩) 0 K) 0 []) :=
    ⟨rfl, .inr ⟨w.heap.size, K, cs, rfl, Nat.le_refl _, heap_alloc_new w.drew _, Nat.zero_le _, hK3, hcs, rfl⟩⟩
  have Hb : Hid (Below w.heap.size w (w.drew.alloc (.cells cs 34))) := (Below.refl _ _).drew.alloc (by simp) _
  go_enter Tryz.func255, Tryz.ntmps255
  go_wp2_with (at_builtin; refine Lib.wpList_append_run _ rfl _ _ _ _ rfl _ _ rfl rfl _ _ (hrz _) ?_)
  go_ret
  exact ⟨_, rfl, Hown.out, Hb.out⟩

set_option maxHeartbeats 8000000 in
set_option maxRecDepth 100000 in
theorem concat2V_any (n1 n2 : Nat) (cs1 cs2 : List Value) (a1 a2 : Option Addr) (c1 c2 B : Nat) (w : World) (hA : w.cell? ⟨B, 0, none⟩ = some (.slice a1 n1 c1)) (hB : w.cell? ⟨B, 1, none⟩ = some (.slice a2 n2 c2)) (h1 : Src w a1 n1 4 cs1) (h2 : Src w a2 n2 4 cs2) (hb1 : n1 ≤ 65536) (hb2 : n2 ≤ 65536) :
    Calls Tryz.prog 243 #[.slice (some ⟨B, 0, none⟩) 2 2] w fun e w' => ∃ v, e = .returned v ∧ w'.ownsRow w.heap.size 34 4 v (n1 + n2) (cs1 ++ cs2) ∧ Below w.heap.size w w' := by
  obtain ⟨i0, hi, hz0, hz1, hz2⟩ := info24
  have Hi : Hid _ := hi; have Hz0 : Hid _ := hz0; have Hz1 : Hid _ := hz1; have Hz2 : Hid _ := hz2
  clear hi hz0 hz1 hz2
  have HA : Hid (w.cell? ⟨B, 0, none⟩ = some (.slice a1 n1 c1)) := hA
  have HB : Hid (w.cell? ⟨B, 1, none⟩ = some (.slice a2 n2 c2)) := hB
  have H1 : Hid (Src w a1 n1 4 cs1) := h1
  have H2 : Hid (Src w a2 n2 4 cs2) := h2
  have hBl : B < w.heap.size := cell_lt hA
  obtain ⟨N, hN⟩ : ∃ N, N = n1 + n2 := ⟨_, rfl⟩
  have HN : Hid (N = n1 + n2) := hN
  have hwN : IntKind.i64.wrap ((n1 : Int) + (n2 : Int)) = (N : Int) := by rw [IntKind.wrap_i64]; omega
  have hNb : N ≤ 131072 := by omega
  have hx1 : ¬ ((n1 : Int) < 0) := by omega
  have hx2 : ¬ ((N : Int) < 0) := by omega
  rw [← hN]
  clear h1 h2 hN
  go_enter Tryz.func243, Tryz.ntmps243
  go_wp2_with fail
  go_loopg [3, 11] 2 (fun g s i wr => ((i = .int .i64 0 ∧ s = .int .i64 0 ∧ g = 2) ∨ (i = .int .i64 1 ∧ s = .int .i64 n1 ∧ g = 1) ∨ (i = .int .i64 2 ∧ s = .int .i64 N ∧ g = 0)) ∧ w = wr)
  case atStart => exact ⟨.inl ⟨rfl, rfl, rfl⟩, rfl⟩
  case round =>
    obtain ⟨hrel, rfl⟩ := hrel
    rcases hrel with ⟨rfl, rfl, hk⟩ | ⟨rfl, rfl, hk⟩ | ⟨rfl, rfl, hk⟩
    · have Hk : Hid _ := hk
      clear hk
      go_wp2_with fail
      go_roundg 1
      case measure => have := Hk.out; omega
      case rel => exact ⟨.inr (.inl ⟨rfl, rfl, rfl⟩), rfl⟩
    · have Hk : Hid _ := hk
      clear hk
      go_wp2_with fail
      go_roundg 0
      case measure => have := Hk.out; omega
      case rel => exact ⟨.inr (.inr ⟨rfl, rfl, rfl⟩), rfl⟩
    · clear hk hA hB hwN
      go_wp2_with fail
      refine (growV_nil N hNb _).mono ?_
      rintro e w1 ⟨v, rfl, hown, hb1'⟩
      have Hown : Hid (w1.ownsRow w.heap.size 34 4 v 0 []) := hown
      clear hown
      go_wp2_with fail
      go_loopg [6, 27] 2 (fun g v i wq => ((i = .int .i64 0 ∧ g = 2 ∧ Hid (wq.ownsRow w.heap.size 34 4 v 0 [])) ∨ (i = .int .i64 1 ∧ g = 1 ∧ Hid (wq.ownsRow w.heap.size 34 4 v n1 cs1)) ∨ (i = .int .i64 2 ∧ g = 0 ∧ Hid (wq.ownsRow w.heap.size 34 4 v N (cs1 ++ cs2)))) ∧ Below w.heap.size w wq)
      case atStart => exact ⟨.inl ⟨rfl, rfl, Hown⟩, hb1'⟩
      case round =>
        obtain ⟨hrel, hbq⟩ := hrel
        clear Hown hb1'
        have hA := cell_keeps hbq HA.out
        have hB := cell_keeps hbq HB.out
        have hszq : w.heap.size ≤ wr.heap.size := hbq.size
        rcases hrel with ⟨rfl, hk, Hown⟩ | ⟨rfl, hk, Hown⟩ | ⟨rfl, hk, Hown⟩
        · have Hk : Hid _ := hk
          clear hk hB
          go_wp2_with (at_builtin; refine wpList_append_row rfl _ _ rfl w.heap.size i0 Hi.out Hz0.out Hz1.out Hz2.out _ _ _ rfl Hown.out a1 n1 c1 cs1 rfl H1.out.none H1.out.len (H1.out.cell hbq) H1.out.one (by unfold maxLen; omega) (by omega) hszq ?_; intro v5 w5 hown5 hgrow5)
          have hb5 : Below w.heap.size w w5 := own_growM hbq hszq Hown.out hgrow5
          have Hown5 : Hid (w5.ownsRow w.heap.size 34 4 v5 n1 cs1) := by
            show World.ownsRow _ _ _ _ _ _ _
            simpa using hown5
          clear hown5 hgrow5 Hown hA
          go_wp2_with fail
          go_roundg 1
          case measure => have := Hk.out; omega
          case rel => exact ⟨.inr (.inl ⟨rfl, rfl, Hown5⟩), hb5⟩
        · have Hk : Hid _ := hk
          clear hk hA
          go_wp2_with (at_builtin; refine wpList_append_row rfl _ _ rfl w.heap.size i0 Hi.out Hz0.out Hz1.out Hz2.out _ _ _ rfl Hown.out a2 n2 c2 cs2 rfl H2.out.none H2.out.len (H2.out.cell hbq) H2.out.one (by unfold maxLen; omega) (by omega) hszq ?_; intro v5 w5 hown5 hgrow5)
          have hb5 : Below w.heap.size w w5 := own_growM hbq hszq Hown.out hgrow5
          have Hown5 : Hid (w5.ownsRow w.heap.size 34 4 v5 N (cs1 ++ cs2)) := by
            show World.ownsRow _ _ _ _ _ _ _
            rw [HN.out]; exact hown5
          clear hown5 hgrow5 Hown hB
          go_wp2_with fail
          go_roundg 0
          case measure => have := Hk.out; omega
          case rel => exact ⟨.inr (.inr ⟨rfl, rfl, Hown5⟩), hb5⟩
        · clear hA hB hk
          obtain ⟨av, nv, cv, hvs⟩ : ∃ av nv cv, u6 = .slice av nv cv := by
            rcases Hown.out.2 with ⟨e, e2⟩ | ⟨g, cap, cur, e, _⟩
            · exact ⟨_, _, _, e⟩
            · exact ⟨_, _, cap, e⟩
          subst hvs
          go_wp2_with fail
          go_ret
          exact ⟨_, rfl, Hown.out, hbq⟩

end Go.Proofs.YtekoaiehhjgfiaaGreat

namespace Go.Proofs.YtekoaiehhjgfiaaGreat
open Go.RowKit

/-- The entries of two lists as those of one node or of two. -/
def fitL {α : Type} (a b : List α) : List (List α) :=
  if a.length + b.length ≤ 32 then [a ++ b] else if 16 ≤ a.length then [a, b] else [(a ++ b).take ((a.length + b.length) / 2), (a ++ b).drop ((a.length + b.length) / 2)]

/-- A slice of nodes. -/
def NdS (w : World) (vs : List Value) (v : Value) : Prop := SlV w vs v ∧ OneC vs

theorem NdS.keeps {w w' : World} {vs : List Value} {v : Value} (h : NdS w vs v) (hb : Below w.heap.size w w') : NdS w' vs v := ⟨h.1.keeps hb, h.2⟩

/-- Other room. -/
theorem Lies.recap {d : Nat} {w : World} {l : List VT} {a : Option Addr} {n c : Nat} (h : Lies (d + 1) w l (.slice a n c)) (c2 : Nat) (hc : l.length ≤ c2) : Lies (d + 1) w l (.slice a n c2) := by
  obtain ⟨a', c', hv, hb, hr⟩ := h
  injection hv with q1 q2 q3
  subst q1 q2 q3
  exact ⟨a, c2, rfl, ⟨hc, hb.2⟩, hr⟩

/-- What fit tells. -/
def FitV (d : Nat) (l1 l2 : List VT) (w : World) (e : Ending) (w' : World) : Prop :=
  ∃ v, ∃ fs : List (List VT × Value), e = .returned v ∧ SlV w' (fs.map (·.2)) v ∧ (∀ p ∈ fs, Lies (d + 1) w' p.1 p.2) ∧ fs.map (·.1) = fitL l1 l2 ∧ Below w.heap.size w w'

set_option maxRecDepth 100000 in
set_option maxHeartbeats 8000000 in
theorem fitV_any (d : Nat) (l1 l2 : List VT) (u1 u2 : Value) (w : World) (h1 : Lies (d + 1) w l1 u1) (h2 : Lies (d + 1) w l2 u2) (hb1 : l1.length ≤ 32) (hb2 : l2.length ≤ 32) :
    Calls Tryz.prog 232 #[u1, u2] w (FitV d l1 l2 w) := by
  obtain ⟨ps1, hps1, hpl1, hsl1⟩ := SlP.of_lies h1
  obtain ⟨ps2, hps2, hpl2, hsl2⟩ := SlP.of_lies h2
  obtain ⟨a1, c1, rfl, _⟩ := Lies.slice h1
  obtain ⟨a2, c2, rfl, _⟩ := Lies.slice h2
  have HCo : Hid (∀ (B : Nat) (V : World), Below w.heap.size w V → V.cell? ⟨B, 0, none⟩ = some (.slice a1 l1.length c1) → V.cell? ⟨B, 1, none⟩ = some (.slice a2 l2.length c2) → Calls Tryz.prog 243 #[.slice (some ⟨B, 0, none⟩) 2 2] V fun e w' => ∃ v, e = .returned v ∧ Lies (d + 1) w' (l1 ++ l2) v ∧ Below V.heap.size V w') := fun B V hV k1 k2 => by
    refine (concat2V_any l1.length l2.length (ps1.flatMap encP) (ps2.flatMap encP) a1 a2 c1 c2 B V k1 k2 (hsl1.keeps hV).src (hsl2.keeps hV).src (by omega) (by omega)).mono ?_
    rintro e w' ⟨v, rfl, hown, hb⟩
    refine ⟨v, rfl, ?_, hb⟩
    have hb' := hV.trans (hb.mono hV.size)
    rw [← List.flatMap_append] at hown
    have := own_lies (d := d) (ps := ps1 ++ ps2) (by simp; omega) hown (fun p hp => by
      rcases List.mem_append.1 hp with hp | hp
      · obtain ⟨_, _, _, _, _, _, h4⟩ := hsl1
        exact (h4 p hp).keeps hb'
      · obtain ⟨_, _, _, _, _, _, h4⟩ := hsl2
        exact (h4 p hp).keeps hb') (by simp; omega)
    rwa [List.map_append, hps1, hps2] at this
  have H1 : Hid (Lies (d + 1) w l1 (.slice a1 l1.length c1)) := h1
  have H2 : Hid (Lies (d + 1) w l2 (.slice a2 l2.length c2)) := h2
  clear h1 h2
  obtain ⟨N, hN⟩ : ∃ N, N = l1.length + l2.length := ⟨_, rfl⟩
  have HN : Hid (N = l1.length + l2.length) := hN
  have HN2 : Hid ((l1 ++ l2).length = N) := by show _ = _; rw [List.length_append, hN]
  have hwN : IntKind.i64.wrap ((l1.length : Int) + (l2.length : Int)) = (N : Int) := by rw [IntKind.wrap_i64]; omega
  have hB2 : Below w.heap.size w (w.alloc (.cells #[.slice a1 l1.length c1, .slice a2 l2.length c2] 22)) := ((Grew.refl w).alloc _).below
  have HB2 : Hid (Below w.heap.size w (w.alloc (.cells #[.slice a1 l1.length c1, .slice a2 l2.length c2] 22))) := hB2
  by_cases hs : N ≤ 32
  · have hsi : (N : Int) ≤ 32 := by omega
    have HF : Hid (fitL l1 l2 = [l1 ++ l2]) := by show _ = _; unfold fitL; rw [if_pos (by omega)]
    clear hN hB2
    go_enter Tryz.func232, Tryz.ntmps232
    go_wp2_with fail
    refine (HCo.out _ _ HB2.out (by simp) (by simp)).mono ?_
    rintro e w1 ⟨v, rfl, hL3, hg⟩
    have HL3 : Hid (Lies (d + 1) w1 (l1 ++ l2) v) := hL3
    clear hL3
    obtain ⟨a3, c3, rfl, _⟩ := Lies.slice HL3.out
    have hb1 : Below w.heap.size w w1 := HB2.out.trans (hg.mono HB2.out.size)
    rw [HN2.out] at HL3 ⊢
    have HE : Hid (FitV d l1 l2 w (.returned (.slice (some ⟨w1.heap.size, 0, none⟩) 1 1)) (w1.alloc (.cells #[.slice a3 N c3] 22))) := by
      have hba : Below w1.heap.size w1 (w1.alloc (.cells #[.slice a3 N c3] 22)) := ((Grew.refl w1).alloc _).below
      refine ⟨_, [(l1 ++ l2, .slice a3 N c3)], rfl, ⟨_, 1, rfl, by simp, fun _ => ⟨w1.heap.size, 0, rfl, fun i hi => ?_⟩⟩, fun p hp => ?_, by rw [HF.out]; rfl, hb1.trans (hba.mono hb1.size)⟩
      · have : i = 0 := by simp at hi; omega
        subst this
        simp
      · rw [List.mem_singleton.1 hp]
        exact Lies.keeps hba _ _ _ HL3.out
    clear hg HCo
    go_wp2_with fail
    go_ret
    exact HE.out
  · have hsi : ¬ (N : Int) ≤ 32 := by omega
    by_cases h16 : 16 ≤ l1.length
    · have h16i : (16 : Int) ≤ (l1.length : Nat) := by omega
      have HF : Hid (fitL l1 l2 = [l1, l2]) := by show _ = _; unfold fitL; rw [if_neg (by omega), if_pos h16]
      have HE : Hid (FitV d l1 l2 w (.returned (.slice (some ⟨w.heap.size, 0, none⟩) 2 2)) (w.alloc (.cells #[.slice a1 l1.length c1, .slice a2 l2.length c2] 22))) := by
        refine ⟨_, [(l1, .slice a1 l1.length c1), (l2, .slice a2 l2.length c2)], rfl, ⟨_, 2, rfl, by simp, fun _ => ⟨w.heap.size, 0, rfl, fun i hi => ?_⟩⟩, fun p hp => ?_, by rw [HF.out]; rfl, hB2⟩
        · match i, hi with
          | 0, _ => simp
          | 1, _ => simp
        · rcases List.mem_cons.1 hp with rfl | hp
          · exact Lies.keeps hB2 _ _ _ H1.out
          · rw [List.mem_singleton.1 hp]
            exact Lies.keeps hB2 _ _ _ H2.out
      clear hN hB2 HCo
      go_enter Tryz.func232, Tryz.ntmps232
      go_wp2_with fail
      go_ret
      exact HE.out
    · have h16i : ¬ (16 : Int) ≤ (l1.length : Nat) := by omega
      obtain ⟨h, hh⟩ : ∃ h, h = N / 2 := ⟨_, rfl⟩
      have Hh : Hid (h = N / 2) := hh
      have hd : (N : Int) / 2 = (h : Int) := by omega
      have HF : Hid (fitL l1 l2 = [(l1 ++ l2).take h, (l1 ++ l2).drop h]) := by show _ = _; unfold fitL; rw [if_neg (by omega), if_neg h16, hh, hN]
      have hNb : N ≤ 64 := by omega
      have hhN : h ≤ N := by omega
      have hhNi : (h : Int) ≤ (N : Nat) := by omega
      have hh0 : 0 < h := by omega
      have hhlt : h < N := by omega
      clear hN hB2 hh
      go_enter Tryz.func232, Tryz.ntmps232
      go_wp2_with fail
      refine (HCo.out _ _ HB2.out (by simp) (by simp)).mono ?_
      rintro e w1 ⟨v, rfl, hL3, hg⟩
      have HL3 : Hid (Lies (d + 1) w1 (l1 ++ l2) v) := hL3
      have hb1 : Below w.heap.size w w1 := HB2.out.trans (hg.mono HB2.out.size)
      obtain ⟨g, o, c3, hv3, hcap3⟩ : ∃ g o c3, v = .slice (some ⟨g, o, none⟩) (l1 ++ l2).length c3 ∧ (l1 ++ l2).length ≤ c3 := by
        obtain ⟨a3, c3, hv, _⟩ := Lies.slice hL3
        have hL4 := hL3
        obtain ⟨a4, c4, hv4, hc4, hr4⟩ := hL3
        rw [hv] at hv4
        injection hv4 with q1 q2 q3
        subst q1 q3
        obtain ⟨g, o, ha, _⟩ := hr4 (fun e => by have := congrArg List.length e; rw [HN2.out, List.length_nil] at this; omega)
        exact ⟨g, o, c3, by rw [hv, ha], hc4.1⟩
      subst hv3
      clear hL3 hg HCo
      have HE : Hid (FitV d l1 l2 w (.returned (.slice (some ⟨w1.heap.size, 0, none⟩) 2 2)) (w1.alloc (.cells #[.slice (some ⟨g, o, none⟩) h h, .slice (some ⟨g, o + h * 4, none⟩) (N - h) (N - h)] 22)).drew) := by
        have hbb : Below w1.heap.size w1 (w1.alloc (.cells #[.slice (some ⟨g, o, none⟩) h h, .slice (some ⟨g, o + h * 4, none⟩) (N - h) (N - h)] 22)).drew := ((Grew.refl w1).alloc _).drew.below
        refine ⟨_, [((l1 ++ l2).take h, .slice (some ⟨g, o, none⟩) h h), ((l1 ++ l2).drop h, .slice (some ⟨g, o + h * 4, none⟩) (N - h) (N - h))], rfl, ⟨_, 2, rfl, by simp, fun _ => ⟨w1.heap.size, 0, rfl, fun i hi => ?_⟩⟩, fun p hp => ?_, by rw [HF.out]; rfl, hb1.trans (hbb.mono hb1.size)⟩
        · match i, hi with
          | 0, _ => simp
          | 1, _ => simp
        · rcases List.mem_cons.1 hp with rfl | hp
          · have q : Lies (d + 1) w1 ((l1 ++ l2).take h) (.slice (some ⟨g, o, none⟩) h h) := Lies.recap (Lies.taken HL3.out h (by have := HN2.out; omega)) h (by rw [List.length_take]; omega)
            exact Lies.keeps hbb _ _ _ q
          · rw [List.mem_singleton.1 hp]
            have q : Lies (d + 1) w1 ((l1 ++ l2).drop h) (.slice (some ⟨g, o + h * 4, none⟩) (N - h) (N - h)) := by have := Lies.recap (Lies.dropped HL3.out h) (N - h) (by rw [List.length_drop]; have := HN2.out; omega); have e := HN2.out; rw [e] at this; exact this
            exact Lies.keeps hbb _ _ _ q
      rw [HN2.out] at hcap3 ⊢
      have hc3N : (N : Int) ≤ (c3 : Nat) := by omega
      have hc3hn : h ≤ c3 := by omega
      have hc3h : (h : Int) ≤ (c3 : Nat) := by omega
      have hnN : ¬ ((N : Int) = (h : Nat)) := by omega
      have hnN2 : ¬ (N = h) := by omega
      have hnh0 : ¬ ((h : Int) = 0) := by omega
      have hnh02 : ¬ (h = 0) := by omega
      clear HL3 H1 H2
      go_wp2_with fail
      go_region
      go_wp2_with fail
      go_ret
      exact HE.out

/-- What fit tells. -/
def FitN (l1 l2 : List Value) (w : World) (e : Ending) (w' : World) : Prop :=
  ∃ v, ∃ fs : List (List Value × Value), e = .returned v ∧ SlV w' (fs.map (·.2)) v ∧ (∀ p ∈ fs, NdS w' p.1 p.2) ∧ fs.map (·.1) = fitL l1 l2 ∧ Below w.heap.size w w'

set_option maxRecDepth 100000 in
set_option maxHeartbeats 8000000 in
theorem fitN_any (l1 l2 : List Value) (u1 u2 : Value) (w : World) (h1 : NdS w l1 u1) (h2 : NdS w l2 u2) (hb1 : l1.length ≤ 32) (hb2 : l2.length ≤ 32) :
    Calls Tryz.prog 234 #[u1, u2] w (FitN l1 l2 w) := by
  obtain ⟨a1, c1, rfl, _⟩ := SlV.slice h1.1
  obtain ⟨a2, c2, rfl, _⟩ := SlV.slice h2.1
  have HCo : Hid (∀ (B : Nat) (V : World), Below w.heap.size w V → V.cell? ⟨B, 0, none⟩ = some (.slice a1 l1.length c1) → V.cell? ⟨B, 1, none⟩ = some (.slice a2 l2.length c2) → Calls Tryz.prog 235 #[.slice (some ⟨B, 0, none⟩) 2 2] V fun e w' => ∃ v, e = .returned v ∧ NdS w' (l1 ++ l2) v ∧ Below V.heap.size V w') := fun B V hV k1 k2 => by
    refine (concat2N_any l1.length l2.length l1 l2 a1 a2 c1 c2 B V k1 k2 ((h1.1.keeps hV).src h1.2) ((h2.1.keeps hV).src h2.2) (by omega) (by omega)).mono ?_
    rintro e w' ⟨v, rfl, hown, hb⟩
    exact ⟨v, rfl, ⟨SlV.of_own (by simp) hown, fun u hu => (List.mem_append.1 hu).elim (h1.2 u) (h2.2 u)⟩, hb⟩
  have H1 : Hid (NdS w l1 (.slice a1 l1.length c1)) := h1
  have H2 : Hid (NdS w l2 (.slice a2 l2.length c2)) := h2
  clear h1 h2
  obtain ⟨N, hN⟩ : ∃ N, N = l1.length + l2.length := ⟨_, rfl⟩
  have HN : Hid (N = l1.length + l2.length) := hN
  have HN2 : Hid ((l1 ++ l2).length = N) := by show _ = _; rw [List.length_append, hN]
  have hwN : IntKind.i64.wrap ((l1.length : Int) + (l2.length : Int)) = (N : Int) := by rw [IntKind.wrap_i64]; omega
  have hB2 : Below w.heap.size w (w.alloc (.cells #[.slice a1 l1.length c1, .slice a2 l2.length c2] 148)) := ((Grew.refl w).alloc _).below
  have HB2 : Hid (Below w.heap.size w (w.alloc (.cells #[.slice a1 l1.length c1, .slice a2 l2.length c2] 148))) := hB2
  by_cases hs : N ≤ 32
  · have hsi : (N : Int) ≤ 32 := by omega
    have HF : Hid (fitL l1 l2 = [l1 ++ l2]) := by show _ = _; unfold fitL; rw [if_pos (by omega)]
    clear hN hB2
    go_enter Tryz.func234, Tryz.ntmps234
    go_wp2_with fail
    refine (HCo.out _ _ HB2.out (by simp) (by simp)).mono ?_
    rintro e w1 ⟨v, rfl, hL3, hg⟩
    have HL3 : Hid (NdS w1 (l1 ++ l2) v) := hL3
    clear hL3
    obtain ⟨a3, c3, rfl, _⟩ := SlV.slice HL3.out.1
    have hb1 : Below w.heap.size w w1 := HB2.out.trans (hg.mono HB2.out.size)
    rw [HN2.out] at HL3 ⊢
    have HE : Hid (FitN l1 l2 w (.returned (.slice (some ⟨w1.heap.size, 0, none⟩) 1 1)) (w1.alloc (.cells #[.slice a3 N c3] 148))) := by
      have hba : Below w1.heap.size w1 (w1.alloc (.cells #[.slice a3 N c3] 148)) := ((Grew.refl w1).alloc _).below
      refine ⟨_, [(l1 ++ l2, .slice a3 N c3)], rfl, ⟨_, 1, rfl, by simp, fun _ => ⟨w1.heap.size, 0, rfl, fun i hi => ?_⟩⟩, fun p hp => ?_, by rw [HF.out]; rfl, hb1.trans (hba.mono hb1.size)⟩
      · have : i = 0 := by simp at hi; omega
        subst this
        simp
      · rw [List.mem_singleton.1 hp]
        exact HL3.out.keeps hba
    clear hg HCo
    go_wp2_with fail
    go_ret
    exact HE.out
  · have hsi : ¬ (N : Int) ≤ 32 := by omega
    by_cases h16 : 16 ≤ l1.length
    · have h16i : (16 : Int) ≤ (l1.length : Nat) := by omega
      have HF : Hid (fitL l1 l2 = [l1, l2]) := by show _ = _; unfold fitL; rw [if_neg (by omega), if_pos h16]
      have HE : Hid (FitN l1 l2 w (.returned (.slice (some ⟨w.heap.size, 0, none⟩) 2 2)) (w.alloc (.cells #[.slice a1 l1.length c1, .slice a2 l2.length c2] 148))) := by
        refine ⟨_, [(l1, .slice a1 l1.length c1), (l2, .slice a2 l2.length c2)], rfl, ⟨_, 2, rfl, by simp, fun _ => ⟨w.heap.size, 0, rfl, fun i hi => ?_⟩⟩, fun p hp => ?_, by rw [HF.out]; rfl, hB2⟩
        · match i, hi with
          | 0, _ => simp
          | 1, _ => simp
        · rcases List.mem_cons.1 hp with rfl | hp
          · exact H1.out.keeps hB2
          · rw [List.mem_singleton.1 hp]
            exact H2.out.keeps hB2
      clear hN hB2 HCo
      go_enter Tryz.func234, Tryz.ntmps234
      go_wp2_with fail
      go_ret
      exact HE.out
    · have h16i : ¬ (16 : Int) ≤ (l1.length : Nat) := by omega
      obtain ⟨h, hh⟩ : ∃ h, h = N / 2 := ⟨_, rfl⟩
      have Hh : Hid (h = N / 2) := hh
      have hd : (N : Int) / 2 = (h : Int) := by omega
      have HF : Hid (fitL l1 l2 = [(l1 ++ l2).take h, (l1 ++ l2).drop h]) := by show _ = _; unfold fitL; rw [if_neg (by omega), if_neg h16, hh, hN]
      have hNb : N ≤ 64 := by omega
      have hhN : h ≤ N := by omega
      have hhNi : (h : Int) ≤ (N : Nat) := by omega
      have hh0 : 0 < h := by omega
      have hhlt : h < N := by omega
      clear hN hB2 hh
      go_enter Tryz.func234, Tryz.ntmps234
      go_wp2_with fail
      refine (HCo.out _ _ HB2.out (by simp) (by simp)).mono ?_
      rintro e w1 ⟨v, rfl, hL3, hg⟩
      have HL3 : Hid (NdS w1 (l1 ++ l2) v) := hL3
      have hb1 : Below w.heap.size w w1 := HB2.out.trans (hg.mono HB2.out.size)
      obtain ⟨g, o, c3, hv3, hcap3⟩ : ∃ g o c3, v = .slice (some ⟨g, o, none⟩) (l1 ++ l2).length c3 ∧ (l1 ++ l2).length ≤ c3 := by
        obtain ⟨g, o, c3, hv, hc, _⟩ := hL3.1.full (fun e => by have := congrArg List.length e; rw [HN2.out, List.length_nil] at this; omega)
        exact ⟨g, o, c3, hv, hc⟩
      subst hv3
      clear hL3 hg HCo
      have HE : Hid (FitN l1 l2 w (.returned (.slice (some ⟨w1.heap.size, 0, none⟩) 2 2)) (w1.alloc (.cells #[.slice (some ⟨g, o, none⟩) h h, .slice (some ⟨g, o + h, none⟩) (N - h) (N - h)] 148)).drew) := by
        have hbb : Below w1.heap.size w1 (w1.alloc (.cells #[.slice (some ⟨g, o, none⟩) h h, .slice (some ⟨g, o + h, none⟩) (N - h) (N - h)] 148)).drew := ((Grew.refl w1).alloc _).drew.below
        refine ⟨_, [((l1 ++ l2).take h, .slice (some ⟨g, o, none⟩) h h), ((l1 ++ l2).drop h, .slice (some ⟨g, o + h, none⟩) (N - h) (N - h))], rfl, ⟨_, 2, rfl, by simp, fun _ => ⟨w1.heap.size, 0, rfl, fun i hi => ?_⟩⟩, fun p hp => ?_, by rw [HF.out]; rfl, hb1.trans (hbb.mono hb1.size)⟩
        · match i, hi with
          | 0, _ => simp
          | 1, _ => simp
        · rcases List.mem_cons.1 hp with rfl | hp
          · have q : NdS w1 ((l1 ++ l2).take h) (.slice (some ⟨g, o, none⟩) h h) := ⟨HL3.out.1.taken h h (by have := HN2.out; omega) (Nat.le_refl _), fun u hu => HL3.out.2 u (List.mem_of_mem_take hu)⟩
            exact q.keeps hbb
          · rw [List.mem_singleton.1 hp]
            have q : NdS w1 ((l1 ++ l2).drop h) (.slice (some ⟨g, o + h, none⟩) (N - h) (N - h)) := ⟨by have := HL3.out.1.dropped h (N - h) (by have := HN2.out; omega); have e := HN2.out; rw [e] at this; exact this, fun u hu => HL3.out.2 u (List.mem_of_mem_drop hu)⟩
            exact q.keeps hbb
      rw [HN2.out] at hcap3 ⊢
      have hc3N : (N : Int) ≤ (c3 : Nat) := by omega
      have hc3hn : h ≤ c3 := by omega
      have hc3h : (h : Int) ≤ (c3 : Nat) := by omega
      have hnN : ¬ ((N : Int) = (h : Nat)) := by omega
      have hnN2 : ¬ (N = h) := by omega
      have hnh0 : ¬ ((h : Int) = 0) := by omega
      have hnh02 : ¬ (h = 0) := by omega
      clear HL3 H1 H2
      go_wp2_with fail
      go_region
      go_wp2_with fail
      go_ret
      exact HE.out

end Go.Proofs.YtekoaiehhjgfiaaGreat

