/-
  slices.Concat of two lists of values.
-/
import Derived.Test.YtofceccicmlmoaaAppRow
import Derived.Test.YtofceccicmlmoaaAppB
import Derived.Test.YtofceccicmlmoaaRowX
import Derived.Test.YtofceccicmlmoaaUtf
import Derived.Maps.AppendAt
import Derived.Lib.AppendZerosOnto
import Derived.Laws.AppendOwnNone
import Derived.Deep.LoopGhost
namespace Go.Proofs.Ytofceccicmlmoaa
open Go.RowKit

/-- What append asks of a list that is put behind. -/
structure SrcC (w : World) (a : Option Addr) (n size : Nat) (cs : List Value) : Prop where
  none : a = Option.none → n = 0
  len : cs.length = n * size
  at_ : ∀ ad, a = some ad → ∀ j u, cs[j]? = some u → w.cell? (ad.add j) = some u
  one : ∀ u ∈ cs, u.oneCell' = true

theorem SrcC.cell {w W : World} {a : Option Addr} {n size : Nat} {cs : List Value} (h : SrcC w a n size cs) (hb : Below w.heap.size w W) : ∀ ad, a = some ad → ∀ j u, cs[j]? = some u → W.cell? (ad.add j) = some u := fun ad e j u hj => cell_keeps hb (h.at_ ad e j u hj)

theorem SrcC.keeps {w W : World} {a : Option Addr} {n size : Nat} {cs : List Value} (h : SrcC w a n size cs) (hb : Below w.heap.size w W) : SrcC W a n size cs := ⟨h.none, h.len, h.cell hb, h.one⟩

set_option maxHeartbeats 2000000 in
set_option maxRecDepth 100000 in
theorem growC_nil (n : Nat) (h2 : n ≤ 131072) (w : World) : Calls Try.prog 82 #[.slice none 0 0, .int .i64 n] w fun e w' => ∃ v, e = .returned v ∧ w'.ownsRow w.heap.size 24 4 v 0 [] ∧ Below w.heap.size w w' := by
  by_cases h1 : n = 0
  · subst h1
    go_enter Try.func82, Try.ntmps82
    go_wp2_with fail
    go_ret
    exact ⟨_, rfl, World.ownsRow_nil _ _ _ _, Below.refl _ _⟩
  obtain ⟨i0, hi, hz0, hz1, hz2⟩ := info24
  have hge := grownCap_ge w (0 + n) 0 24
  have hle := grownCap_le_maxLen w (0 + n) 0 24 (by unfold maxLen; omega)
  obtain ⟨K, cs, hK, hK3, hcs, hrz⟩ : ∃ (K : Nat) (cs : Array Value), n ≤ K ∧ K ≤ maxLen ∧ cs.size = K * 4 ∧ ∀ ty, (Builtin.append_ #[22, 3] ty #[.slice none 0 0, .int .i64 n]).run Try.prog w = .ok (.slice (some ⟨w.heap.size, 0, none⟩) n K) (w.drew.alloc (.cells cs 24)) := by
    have hrz := fun ty => Lib.run_append_grow_zeros (P := Try.prog) w 22 3 ty 24 i0 (.agg #[.int .i64 0, .int .i64 0, .string ⟨#[]⟩, .slice none 0 0]) .i64 .i64 Try.underlying22 Try.underlying3 hi hz0 none 0 0 [] (run_firstCells_none w.drew i0.size 0 0 0) n (by omega) (by omega) (by omega) (by omega) (by rw [hz2]; omega) (growslice_fits (by omega) (by rw [hz2]; omega))
    simp only [Nat.zero_add] at hrz hge hle
    refine ⟨_, _, hge, hle, ?_, hrz⟩
    have hzc : ∀ m, (Builtin.zeroCells ((.agg #[.int .i64 0, .int .i64 0, .string ⟨#[]⟩, .slice none 0 0]) : Value).cells m).size = m * 4 := fun m => by
      rw [size_zeroCells]; rfl
    simp only [Array.size_append, hzc]
    simp
    omega
  clear hge hle hi hz0 hz1 hz2
  have hx : ¬ ((n : Int) < 0) := by omega
  have hx2 : (0 : Int) < (n : Int) := by omega
  have hK2 : K ≤ 9223372036854775807 := by unfold maxLen at hK3; omega
  have Hown : Hid ((w.drew.alloc (.cells cs 24)).ownsRow w.heap.size 24 4 (.slice (some ⟨w.heap.size, 0, none⟩) 0 K) 0 []) :=
    ⟨rfl, .inr ⟨w.heap.size, K, cs, rfl, Nat.le_refl _, heap_alloc_new w.drew _, Nat.zero_le _, hK3, hcs, rfl⟩⟩
  have Hb : Hid (Below w.heap.size w (w.drew.alloc (.cells cs 24))) := (Below.refl _ _).drew.alloc (by simp) _
  go_enter Try.func82, Try.ntmps82
  go_wp2_with (at_builtin; refine Lib.wpList_append_run _ rfl _ _ _ _ rfl _ _ rfl rfl _ _ (hrz _) ?_)
  go_ret
  exact ⟨_, rfl, Hown.out, Hb.out⟩

set_option maxHeartbeats 8000000 in
set_option maxRecDepth 100000 in
theorem catC_any (n1 n2 : Nat) (cs1 cs2 : List Value) (a1 a2 : Option Addr) (c1 c2 B : Nat) (w : World) (hA : w.cell? ⟨B, 0, none⟩ = some (.slice a1 n1 c1)) (hB : w.cell? ⟨B, 1, none⟩ = some (.slice a2 n2 c2)) (h1 : SrcC w a1 n1 4 cs1) (h2 : SrcC w a2 n2 4 cs2) (hb1 : n1 ≤ 65536) (hb2 : n2 ≤ 65536) :
    Calls Try.prog 66 #[.slice (some ⟨B, 0, none⟩) 2 2] w fun e w' => ∃ v, e = .returned v ∧ w'.ownsRow w.heap.size 24 4 v (n1 + n2) (cs1 ++ cs2) ∧ Below w.heap.size w w' := by
  obtain ⟨i0, hi, hz0, hz1, hz2⟩ := info24
  have Hi : Hid _ := hi; have Hz0 : Hid _ := hz0; have Hz1 : Hid _ := hz1; have Hz2 : Hid _ := hz2
  clear hi hz0 hz1 hz2
  have HA : Hid (w.cell? ⟨B, 0, none⟩ = some (.slice a1 n1 c1)) := hA
  have HB : Hid (w.cell? ⟨B, 1, none⟩ = some (.slice a2 n2 c2)) := hB
  have H1 : Hid (SrcC w a1 n1 4 cs1) := h1
  have H2 : Hid (SrcC w a2 n2 4 cs2) := h2
  have hBl : B < w.heap.size := cell_lt hA
  obtain ⟨N, hN⟩ : ∃ N, N = n1 + n2 := ⟨_, rfl⟩
  have HN : Hid (N = n1 + n2) := hN
  have hwN : IntKind.i64.wrap ((n1 : Int) + (n2 : Int)) = (N : Int) := by rw [IntKind.wrap_i64]; omega
  have hNb : N ≤ 131072 := by omega
  have hx1 : ¬ ((n1 : Int) < 0) := by omega
  have hx2 : ¬ ((N : Int) < 0) := by omega
  rw [← hN]
  clear h1 h2 hN
  go_enter Try.func66, Try.ntmps66
  go_wp2_with fail
  go_loopg [3, 11] 2 (fun g s i wr => ((i = .int .i64 0 ∧ s = .int .i64 0 ∧ g = 2) ∨ (i = .int .i64 1 ∧ s = .int .i64 n1 ∧ g = 1) ∨ (i = .int .i64 2 ∧ s = .int .i64 N ∧ g = 0)) ∧ w = wr)
  case atStart => exact ⟨.inl ⟨rfl, rfl, rfl⟩, rfl⟩
  case round =>
    obtain ⟨hrel, rfl⟩ := hrel
    rcases hrel with ⟨rfl, rfl, hk⟩ | ⟨rfl, rfl, hk⟩ | ⟨rfl, rfl, hk⟩
    · have Hk : Hid _ := hk
      clear hk
      go_wp2_with fail
      go_roundg 1
      case measure => have := Hk.out; omega
      case rel => exact ⟨.inr (.inl ⟨rfl, rfl, rfl⟩), rfl⟩
    · have Hk : Hid _ := hk
      clear hk
      go_wp2_with fail
      go_roundg 0
      case measure => have := Hk.out; omega
      case rel => exact ⟨.inr (.inr ⟨rfl, rfl, rfl⟩), rfl⟩
    · clear hk hA hB hwN
      go_wp2_with fail
      refine (growC_nil N hNb _).mono ?_
      rintro e w1 ⟨v, rfl, hown, hb1'⟩
      have Hown : Hid (w1.ownsRow w.heap.size 24 4 v 0 []) := hown
      clear hown
      go_wp2_with fail
      go_loopg [6, 27] 2 (fun g v i wq => ((i = .int .i64 0 ∧ g = 2 ∧ Hid (wq.ownsRow w.heap.size 24 4 v 0 [])) ∨ (i = .int .i64 1 ∧ g = 1 ∧ Hid (wq.ownsRow w.heap.size 24 4 v n1 cs1)) ∨ (i = .int .i64 2 ∧ g = 0 ∧ Hid (wq.ownsRow w.heap.size 24 4 v N (cs1 ++ cs2)))) ∧ Below w.heap.size w wq)
      case atStart => exact ⟨.inl ⟨rfl, rfl, Hown⟩, hb1'⟩
      case round =>
        obtain ⟨hrel, hbq⟩ := hrel
        clear Hown hb1'
        have hA := cell_keeps hbq HA.out
        have hB := cell_keeps hbq HB.out
        have hszq : w.heap.size ≤ wr.heap.size := hbq.size
        rcases hrel with ⟨rfl, hk, Hown⟩ | ⟨rfl, hk, Hown⟩ | ⟨rfl, hk, Hown⟩
        · have Hk : Hid _ := hk
          clear hk hB
          go_wp2_with (at_builtin; refine wpList_append_row rfl _ _ rfl w.heap.size i0 Hi.out Hz0.out Hz1.out Hz2.out _ _ _ rfl Hown.out a1 n1 c1 cs1 rfl H1.out.none H1.out.len (H1.out.cell hbq) H1.out.one (by unfold maxLen; omega) (by omega) hszq ?_; intro v5 w5 hown5 hgrow5)
          have hb5 : Below w.heap.size w w5 := own_growM hbq hszq Hown.out hgrow5
          have Hown5 : Hid (w5.ownsRow w.heap.size 24 4 v5 n1 cs1) := by
            show World.ownsRow _ _ _ _ _ _ _
            simpa using hown5
          clear hown5 hgrow5 Hown hA
          go_wp2_with fail
          go_roundg 1
          case measure => have := Hk.out; omega
          case rel => exact ⟨.inr (.inl ⟨rfl, rfl, Hown5⟩), hb5⟩
        · have Hk : Hid _ := hk
          clear hk hA
          go_wp2_with (at_builtin; refine wpList_append_row rfl _ _ rfl w.heap.size i0 Hi.out Hz0.out Hz1.out Hz2.out _ _ _ rfl Hown.out a2 n2 c2 cs2 rfl H2.out.none H2.out.len (H2.out.cell hbq) H2.out.one (by unfold maxLen; omega) (by omega) hszq ?_; intro v5 w5 hown5 hgrow5)
          have hb5 : Below w.heap.size w w5 := own_growM hbq hszq Hown.out hgrow5
          have Hown5 : Hid (w5.ownsRow w.heap.size 24 4 v5 N (cs1 ++ cs2)) := by
            show World.ownsRow _ _ _ _ _ _ _
            rw [HN.out]; exact hown5
          clear hown5 hgrow5 Hown hB
          go_wp2_with fail
          go_roundg 0
          case measure => have := Hk.out; omega
          case rel => exact ⟨.inr (.inr ⟨rfl, rfl, Hown5⟩), hb5⟩
        · clear hA hB hk
          obtain ⟨av, nv, cv, hvs⟩ : ∃ av nv cv, u6 = .slice av nv cv := by
            rcases Hown.out.2 with ⟨e, e2⟩ | ⟨g, cap, cur, e, _⟩
            · exact ⟨_, _, _, e⟩
            · exact ⟨_, _, cap, e⟩
          subst hvs
          go_wp2_with fail
          go_ret
          exact ⟨_, rfl, Hown.out, hbq⟩

theorem srcC_row {w : World} {b o d n : Nat} {ps : List (VT × Value)} (h : RowAt w b o ps) (hs : ∀ p ∈ ps, Sound d w p) (hn : n = ps.length) : SrcC w (some ⟨b, o, none⟩) n 4 (ps.flatMap encP) := by
  subst hn
  refine ⟨fun e => (by cases e), flat_len ps, fun ad e j u hj => ?_, fun u hu => ?_⟩
  · injection e with e
    subst e
    rw [add_addr5]
    exact h.flat j u hj
  · obtain ⟨p, hp, hu⟩ := List.mem_flatMap.1 hu
    exact encP_one (hs p hp) u hu

theorem srcC_nil {w : World} (a : Option Addr) : SrcC w a 0 4 [] := ⟨fun _ => rfl, rfl, fun ad e j u hj => (by simp at hj), fun u hu => (by cases hu)⟩

/-- A list without what stands between two places. -/
theorem cat_cut (X : Nat → Prop) (l : List VT) (b o c F m M o' c1 c2 B : Nat) (w V : World) (h : LiesX X 16 w l (.slice (some ⟨b, o, none⟩) l.length c)) (hl : l.length ≤ 65536) (hF : F ≤ l.length) (hm : m ≤ l.length) (hV : Below w.heap.size w V) (hM : M ≤ V.heap.size) (ho : m < l.length → o' = o + m * 4)
    (hA : V.cell? ⟨B, 0, none⟩ = some (.slice (some ⟨b, o, none⟩) F c1)) (hB : V.cell? ⟨B, 1, none⟩ = some (.slice (some ⟨b, o', none⟩) (l.length - m) c2)) :
    Calls Try.prog 66 #[.slice (some ⟨B, 0, none⟩) 2 2] V fun e w' => ∃ a' c', e = .returned (.slice a' (l.take F ++ l.drop m).length c') ∧ LiesX (fun n => X n ∨ M ≤ n) 16 w' (l.take F ++ l.drop m) (.slice a' (l.take F ++ l.drop m).length c') ∧ Below V.heap.size V w' := by
  have hrowx := LiesX.row (d := 15) (h.keeps hV)
  obtain ⟨a0, c0, hv, ps, hps, hlie, hrow⟩ := hrowx
  injection hv with e1 _ e3
  subst e1
  have hpl : ps.length = l.length := by rw [← hps, List.length_map]
  have hsd : ∀ p ∈ ps, Sound 15 V p := fun p hp => ⟨(hlie p hp).1.lies, (hlie p hp).2⟩
  have S1 : SrcC V (some ⟨b, o, none⟩) F 4 ((ps.take F).flatMap encP) := by
    by_cases hne : l = []
    · have hF0 : F = 0 := by rw [hne] at hF; simpa using hF
      subst hF0
      exact srcC_nil _
    · obtain ⟨b2, o2, ha, _, hr⟩ := hrow hne
      injection ha with ha
      injection ha with e4 e5
      subst e4
      subst e5
      exact srcC_row (hr.take F) (fun p hp => hsd p (List.mem_of_mem_take hp)) (by rw [List.length_take]; omega)
  have S2 : SrcC V (some ⟨b, o', none⟩) (l.length - m) 4 ((ps.drop m).flatMap encP) := by
    by_cases hml : m < l.length
    · obtain ⟨b2, o2, ha, _, hr⟩ := hrow (fun e => by rw [e] at hml; simp at hml)
      injection ha with ha
      injection ha with e4 e5
      subst e4
      subst e5
      rw [ho hml]
      exact srcC_row (hr.drop m) (fun p hp => hsd p (List.mem_of_mem_drop hp)) (by rw [List.length_drop]; omega)
    · have e1 : ps.drop m = [] := List.drop_eq_nil_of_le (by omega)
      rw [e1, show l.length - m = 0 by omega]
      exact srcC_nil _
  refine (catC_any F (l.length - m) _ _ _ _ c1 c2 B V hA hB S1 S2 (by omega) (by omega)).mono ?_
  rintro e w' ⟨v, rfl, hown, hb⟩
  rw [← List.flatMap_append] at hown
  have hlen : F + (l.length - m) = (ps.take F ++ ps.drop m).length := by rw [List.length_append, List.length_take, List.length_drop]; omega
  have hmap : (ps.take F ++ ps.drop m).map (·.1) = l.take F ++ l.drop m := by rw [List.map_append, List.map_take, List.map_drop, hps]
  have hfin := own_liesX (X := fun n => X n ∨ M ≤ n) (d := 15) hown hlen (fun g hg => by
    rcases hown.2 with ⟨e, _⟩ | ⟨g2, cap, cur, e, hge, _⟩
    · rw [e] at hg; cases hg
    · rw [e] at hg; simp only [Value.ownBlock, Option.some.injEq] at hg; right; omega) (fun p hp => by
    have hp' : p ∈ ps := by
      rcases List.mem_append.1 hp with hp | hp
      · exact List.mem_of_mem_take hp
      · exact List.mem_of_mem_drop hp
    exact ⟨((hlie p hp').1.keeps hb).mono (fun _ h => .inl h), (hlie p hp').2⟩) (by rw [← hlen]; omega)
  rw [hmap] at hfin
  obtain ⟨a', c', rfl, _⟩ := LiesX.slice hfin
  exact ⟨a', c', rfl, hfin, hb⟩

end Go.Proofs.Ytofceccicmlmoaa

