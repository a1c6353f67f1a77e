/-
  The walk of the document's Whole at a map.
-/
import Derived.Test.YtlmnkjnplaebgaaGreatRUnits2
import Derived.Test.YtlmnkjnplaebgaaGreatWhole
import Derived.Deep.AppendLies
namespace Go.Proofs.YtlmnkjnplaebgaaGreat
open Go.RowKit

theorem own_below {w w' : World} {base : Nat} {e : TypeId} {size : Nat} {v : Value} {n : Nat} {xs : List Value} (h : w.ownsRow base e size v n xs) (hb : Below w.heap.size w w') : w'.ownsRow base e size v n xs := by
  refine ⟨h.1, ?_⟩
  rcases h.2 with hn | ⟨g, cap, cur, hv, hbs, hg, rest⟩
  · exact .inl hn
  · refine .inr ⟨g, cap, cur, hv, hbs, ?_, rest⟩
    have hlt : g < w.heap.size := by
      by_cases hl : g < w.heap.size
      · exact hl
      · rw [Array.getElem?_eq_none (by omega)] at hg; cases hg
    rw [hb.block g hlt]; exact hg

set_option maxHeartbeats 2000000 in
theorem each_core (d : Nat) (f : VT → Int) (l : List VT) (u : Value) (w : World) (hu : Lies (d + 1) w l u) (hlen : l.length ≤ 1024)
    (hf : Hid (∀ (x : VT) (v : Value) (W : World), x ∈ l → Lies d W x.items v →
      Calls Tryz.prog 73 #[.agg #[.int .i64 x.kind, .int .i64 x.num, .string x.text, v]] W fun e W' => e = .returned (.int .u32 (f x)) ∧ Below W.heap.size W W')) :
    Calls Tryz.prog 94 #[u] w fun e w' => ∃ v, e = .returned v ∧ IntsAt .u32 w' (l.map f) v ∧ Below w.heap.size w w' := by
  obtain ⟨i0, hi0, hz0, hz1, hz2⟩ := infoU
  have Hi : Hid _ := hi0; have Hz0 : Hid _ := hz0; have Hz1 : Hid _ := hz1; have Hz2 : Hid _ := hz2
  clear hi0 hz0 hz1 hz2
  obtain ⟨a, c, rfl, hb1, hr1⟩ := hu
  have Hr : Hid _ := hr1
  clear hr1
  go_enter Tryz.func94, Tryz.ntmps94
  go_wp2_with fail
  go_loopg [3, 4] l.length (fun q v i wr => ∃ (j : Nat), i = .int .i64 (j : Int) ∧ j ≤ l.length ∧ q = l.length - j ∧ Hid (wr.ownsRow w.heap.size 96 1 v ((l.take j).map f).length (((l.take j).map f).map (Value.int .u32))) ∧ Below w.heap.size w wr)
  case atStart => exact ⟨0, rfl, by omega, by omega, World.ownsRow_nil _ _ _ _, Below.refl _ _⟩
  case round =>
    obtain ⟨j, rfl, hj, hk, Hown, hbw⟩ := hrel
    have Hk : Hid _ := hk
    clear hk
    by_cases hlt : j < l.length
    · obtain ⟨b1, o1, rfl, hall⟩ := Hr.out (by intro e; simp [e] at hlt)
      obtain ⟨x, p0, p1, p2, p3, p4, p5⟩ := hall j hlt
      obtain ⟨ax, cx, rfl, _⟩ := Lies.slice p4
      have p0 := cell_keeps hbw p0; have p1 := cell_keeps hbw p1; have p2 := cell_keeps hbw p2; have p3 := cell_keeps hbw p3
      have p4 : Hid (Lies d w l[j].items (.slice ax l[j].items.length cx)) := p4
      have hlj : ((l.take j).map f).length = j := by simp; omega
      have Hst : Hid ((l.take (j + 1)).map f = (l.take j).map f ++ [f l[j]]) := by
        show _ = _
        rw [List.take_succ_eq_append_getElem hlt, List.map_append]; rfl
      clear hall
      generalize hys : (l.take j).map f = ys at *
      clear hys
      go_wp2_with fail
      have hfc := hf.out l[j] (.slice ax l[j].items.length cx)
      refine (hfc _ (List.getElem_mem hlt) (Lies.keeps hbw _ _ _ p4.out)).mono ?_
      rintro e w1 ⟨rfl, hg⟩
      have hb2 : Below w.heap.size w w1 := hbw.trans (hg.mono hbw.size)
      have Hown1 : Hid (w1.ownsRow w.heap.size 96 1 u3 ys.length (ys.map (Value.int .u32))) := own_below Hown.out hg
      clear hg hfc p0 p1 p2 p3 p4 hf Hown hbw
      generalize f l[j] = z at *
      go_wp2_with (first
          | (at_builtin; refine wpList_append_own _ rfl _ _ 122 rfl w.heap.size 96 i0 (.int .u32 0) 1 4 Tryz.underlying122 Hi.out Hz0.out Hz1.out Hz2.out rfl (by decide) _ _ _ rfl (Hown1.out.alloc _) ⟨w1.heap.size, 0, none⟩ 1 1 [.int .u32 z] rfl rfl ?c1 ?c2 ?c3 ?c4 ?c5 ?_))
      case c1 =>
        intro q u hq
        match q, hq with
        | 0, hq => simp at hq; subst hq; simp [Addr.add]
        | q + 1, hq => simp at hq
      case c2 => first | (intro u hu; simp at hu; subst hu; rfl) | rfl
      case c3 => unfold maxLen; omega
      case c4 => omega
      case c5 => have := hb2.size; simp; omega
      intro v2 w2 hown hgrow _
      have hown2 : w2.ownsRow w.heap.size 96 1 v2 (ys ++ [z]).length ((ys ++ [z]).map (Value.int .u32)) := by simpa [hlj] using hown
      have hob : ∀ k, (u3).ownBlock = some k → w.heap.size ≤ k := fun k hk => (Hown1.out.lt k hk).1
      have hb3 : Below w.heap.size w w2 := (hb2.alloc hb2.size _).grown hgrow (by have := hb2.size; simp; omega) hob
      have Hown2 : Hid (w2.ownsRow w.heap.size 96 1 v2 (ys ++ [z]).length ((ys ++ [z]).map (Value.int .u32))) := hown2
      clear hown hown2 hgrow Hown1 hob hb2
      go_wp2_with fail
      go_roundg (l.length - (j + 1))
      case measure => have := Hk.out; omega
      case rel =>
        refine ⟨j + 1, by go_num, by omega, rfl, ?_, hb3⟩
        rw [Hst.out]
        exact Hown2
    · have hfin : Hid ((l.take j).map f = l.map f) := by
        show _ = _
        rw [List.take_of_length_le (by omega)]
      clear hf
      go_wp2_with fail
      go_ret
      refine ⟨_, rfl, ?_, hbw⟩
      rw [← hfin.out]
      exact own_ints Hown.out

end Go.Proofs.YtlmnkjnplaebgaaGreat

namespace Go.Proofs.YtlmnkjnplaebgaaGreat
open Go.RowKit

theorem ents_step (l : List Int) (j : Nat) (h : 2 * j + 1 < l.length) : entL (l.take (2 * (j + 1))) = entL (l.take (2 * j)) ++ [ordZ [l[2 * j], l[2 * j + 1]]] := by
  have h1 : l.take (2 * (j + 1)) = l.take (2 * j) ++ [l[2 * j], l[2 * j + 1]] := by
    rw [show 2 * (j + 1) = 2 * j + 1 + 1 by omega, List.take_succ_eq_append_getElem h, List.take_succ_eq_append_getElem (by omega : 2 * j < l.length), List.append_assoc]
    rfl
  rw [h1]
  exact entL_snoc j _ _ _ (by simp; omega)

theorem entL_bound : ∀ (l : List Int), (entL l).length ≤ l.length := by
  intro l
  match l with
  | [] => exact Nat.le_refl _
  | [a] => simp [entL]
  | a :: b :: l =>
    have := entL_bound l
    simp only [entL, List.length_cons]
    omega

set_option maxHeartbeats 4000000 in
set_option maxRecDepth 100000 in
theorem whole_map (d : Nat) (f : VT → Int) (t : VT) (u : Value) (w : World) (hu : Lies (d + 1) w t.items u) (hlen : t.items.length ≤ 1024) (hk : t.kind = 6)
    (hf : Hid (∀ (x : VT) (v : Value) (W : World), x ∈ t.items → Lies d W x.items v →
      Calls Tryz.prog 73 #[.agg #[.int .i64 x.kind, .int .i64 x.num, .string x.text, v]] W fun e W' => e = .returned (.int .u32 (f x)) ∧ Below W.heap.size W W')) :
    Calls Tryz.prog 73 #[.agg #[.int .i64 t.kind, .int .i64 t.num, .string t.text, u]] w fun e w' => e = .returned (.int .u32 (unoZ (entL (t.items.map f)))) ∧ Below w.heap.size w w' := by
  obtain ⟨i0, hi0, hz0, hz1, hz2⟩ := infoU
  have Hi : Hid _ := hi0; have Hz0 : Hid _ := hz0; have Hz1 : Hid _ := hz1; have Hz2 : Hid _ := hz2
  clear hi0 hz0 hz1 hz2
  obtain ⟨a, c, rfl, _⟩ := Lies.slice hu
  have HL : Hid (∀ o, Lies (d + 1) (w.alloc o) t.items (.slice a t.items.length c)) := fun o => Lies.keeps ((Grew.refl w).alloc o).below _ _ _ hu
  clear hu
  have Hal : Hid (∀ o, Below w.heap.size w (w.alloc o)) := fun o => (Below.refl _ _).alloc (Nat.le_refl _) o
  rw [hk]
  go_enter Tryz.func73, Tryz.ntmps73
  go_wp2_with fail
  refine (each_core d f t.items _ _ (HL.out _) hlen hf).mono ?_
  rintro e w1 ⟨v, rfl, hi, hb⟩
  have hb1 : Below w.heap.size w w1 := (Hal.out _).trans (hb.mono (Hal.out _).size)
  have hll : (t.items.map f).length ≤ 1024 := by simpa using hlen
  clear hb hf HL
  obtain ⟨l, hl⟩ : ∃ l, l = t.items.map f := ⟨_, rfl⟩
  rw [← hl] at hi hll
  have Hl : Hid (l = t.items.map f) := hl
  clear hl
  obtain ⟨ae, ce, rfl, _, _, hr⟩ := hi
  have Hr : Hid _ := hr
  clear hr
  go_wp2_with fail
  go_loopg [4, 5] l.length (fun g v i wr => ∃ (j J : Nat), i = .int .i64 (J : Int) ∧ Hid (J = 2 * j) ∧ J ≤ l.length + 1 ∧ g = l.length - J ∧ Hid (wr.ownsRow w1.heap.size 96 1 v (entL (l.take J)).length ((entL (l.take J)).map (Value.int .u32))) ∧ (entL (l.take J)).length ≤ 1024 ∧ Below w1.heap.size w1 wr)
  case atStart => exact ⟨0, 0, rfl, rfl, by omega, by omega, World.ownsRow_nil _ _ _ _, by simp [entL], Below.refl _ _⟩
  case round =>
    obtain ⟨j, J, rfl, HJ, hJ, hk, Hown, hel, hbw⟩ := hrel
    have Hk : Hid _ := hk
    clear hk
    by_cases hlt : J + 1 < l.length
    · obtain ⟨be, oe, rfl, hcs⟩ := Hr.out (fun e => by subst e; cases hlt)
      have p0 := hcs J (by omega)
      have p1 := hcs (J + 1) hlt
      have hbe : be < w1.heap.size := cell_lt p0
      have Hst : Hid (entL (l.take (J + 2)) = entL (l.take J) ++ [ordZ [l[J], l[J + 1]]]) := by
        have hj := HJ.out
        subst hj
        exact ents_step l j hlt
      have q0 := cell_keeps hbw p0; have q1 := cell_keeps hbw p1
      clear p0 p1 hcs
      generalize l[J] = X at *
      generalize l[J + 1] = Y at *
      generalize hys : entL (l.take J) = ys at *
      clear hys
      have ht : (J : Int) + 1 < (l.length : Nat) := by omega
      have hJl : J < l.length := by omega
      obtain ⟨Q, hQ⟩ : ∃ Q : Nat, Q = J + 1 := ⟨_, rfl⟩
      have hQl : Q < l.length := by omega
      have hw3 : IntKind.i64.wrap ((J : Int) + 1) = (Q : Int) := by rw [IntKind.wrap_i64]; omega
      rw [← hQ] at q1
      have HQ : Hid (Q = J + 1) := hQ
      have hsz0 : w1.heap.size ≤ wr.heap.size := hbw.size
      have hne : ¬ (be = wr.heap.size) := by omega
      clear hQ hlt
      have HB : Hid (Below w1.heap.size w1 wr) := hbw
      have Hw3 : Hid (IntKind.i64.wrap ((J : Int) + 1) = (Q : Int)) := hw3
      clear hw3
      go_wp2_with fail
      have hw3 := Hw3.out
      clear ht
      go_region_held3 (fun w' => w'.cell? ⟨be, oe + J, none⟩ = some (.int .u32 X) ∧ w'.cell? ⟨be, oe + Q, none⟩ = some (.int .u32 Y)) (go_keep)
        (first | (go_at_call 96; refine Calls.mono (rentry_any _ _ _) ?_; rintro e w2 ⟨rfl, hg⟩; have hb2 : Below wr.heap.size wr w2 := (Below.refl _ _).drew.trans hg.below; clear hg; have r0 := cell_keeps hb2 q0; have r1 := cell_keeps hb2 q1; have Hown2 : Hid (w2.ownsRow w1.heap.size 96 1 u4 ys.length (ys.map (Value.int .u32))) := own_below Hown.out hb2; clear q0 q1; have hsz2 : w1.heap.size ≤ w2.heap.size := Nat.le_trans hsz0 hb2.size; have hne2 : ¬ (be = w2.heap.size) := by omega)
               | (refine step_append_lies _ rfl _ _ 122 rfl w1.heap.size 96 i0 (.int .u32 0) 1 4 Tryz.underlying122 Hi.out Hz0.out Hz1.out Hz2.out rfl (by decide) _ _ _ rfl (Hown2.out.alloc _) ⟨w2.heap.size, 0, none⟩ 1 1 [.int .u32 (ordZ [X, Y])] rfl rfl (fun q u hq => by match q, hq with | 0, hq => (simp at hq; subst hq; simp [Addr.add]) | q + 1, hq => simp at hq) (fun u hu => by simp at hu; subst hu; rfl) (by decide) (by unfold maxLen; omega) (by omega) (by simp; omega) _ rfl ?_; intro g cap w3 hown hgrow hat hlt3; have hob : ∀ k, (u4).ownBlock = some k → w1.heap.size ≤ k := fun k hk => (Hown2.out.lt k hk).1; have k0 : w3.cell? ⟨be, oe + J, none⟩ = some (.int .u32 X) := (World.cell?_of_block (hgrow.block be (by simp; omega) (fun e => by have := hob _ e.symm; omega))).trans (cell_keeps ((Below.refl _ _).alloc (Nat.le_refl _) _) r0); have k1 : w3.cell? ⟨be, oe + Q, none⟩ = some (.int .u32 Y) := (World.cell?_of_block (hgrow.block be (by simp; omega) (fun e => by have := hob _ e.symm; omega))).trans (cell_keeps ((Below.refl _ _).alloc (Nat.le_refl _) _) r1)))
      have hb3 : Below w1.heap.size w1 w3 := (((HB.out.trans (hb2.mono HB.out.size)).alloc hsz2 _).grown hgrow (by simp; omega) hob)
      have hown2 : w3.ownsRow w1.heap.size 96 1 (.slice (some ⟨g, 0, none⟩) (ys.length + 1) cap) (ys ++ [ordZ [X, Y]]).length ((ys ++ [ordZ [X, Y]]).map (Value.int .u32)) := by simpa using hown
      have Hown3 : Hid (w3.ownsRow w1.heap.size 96 1 (.slice (some ⟨g, 0, none⟩) (ys.length + 1) cap) (ys ++ [ordZ [X, Y]]).length ((ys ++ [ordZ [X, Y]]).map (Value.int .u32))) := hown2
      clear hown hown2 hgrow hat hlt3 hob k0 k1 r0 r1 Hown2 Hown hb2 HB hw3 Hw3 hne hne2
      have hQ2 := HQ.out
      go_wp2_with fail
      go_roundg (l.length - (J + 2))
      case measure => have := Hk.out; omega
      case rel =>
        refine ⟨j + 1, J + 2, by go_num, by show _ = _; have := HJ.out; omega, by omega, rfl, ?_, ?_, hb3⟩
        · rw [Hst.out]; exact Hown3
        · rw [Hst.out]
          have := entL_bound (l.take (J + 2))
          rw [Hst.out] at this
          have h2 : (l.take (J + 2)).length ≤ 1024 := by rw [List.length_take]; omega
          omega
    · have hnt : ¬ ((J : Int) + 1 < (l.length : Nat)) := by omega
      have hfin : Hid (entL (l.take J) = entL l) := by
        have hj := HJ.out
        subst hj
        by_cases e : l.length ≤ 2 * j
        · show _ = _
          rw [List.take_of_length_le e]
        · exact entL_half j l (by omega)
      have Hi2 : Hid (IntsAt .u32 wr (entL l) u4) := by
        show IntsAt _ _ _ _
        rw [← hfin.out]
        exact own_ints Hown.out
      clear Hown
      go_wp2_with fail
      refine (runordered_any _ _ _ Hi2.out).mono ?_
      rintro e w2 ⟨rfl, hdr⟩
      have hb2 : Below w.heap.size w w2 := (hb1.trans (hbw.mono hb1.size)).trans (hdr.grew.below.mono (Nat.le_trans hb1.size hbw.size))
      go_wp2_with fail
      go_ret
      refine ⟨?_, hb2⟩
      rw [← Hl.out]
      rfl

end Go.Proofs.YtlmnkjnplaebgaaGreat

