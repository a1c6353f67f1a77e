/-
  grown.
-/
import Derived.Test.YtekoaiehhjgfiaaGreatGrownP
import Derived.Sort.LoopGhostIn
namespace Go.Proofs.YtekoaiehhjgfiaaGreat
open Go.RowKit Go.Shelf

attribute [local go_sem] Oper.semAt_some
theorem eql_nilN (a : Addr) (n c : Nat) (W : World) : Sem.run Tryz.prog (binOp BinOp.eql 148 (.slice (some a) n c) (.slice none 0 0)) W = .ok (.bool false) W := by
  first | kernel_rfl | rfl

theorem LevO.short {d h B0 : Nat} {l : List VT} {W : World} {v : Value} {ps : List Part} (lo : LevO d l B0 W v ps h) : ps.length ≤ l.length := by
  have key : ∀ qs : List Part, (∀ q ∈ qs, 1 ≤ q.1.length) → qs.length ≤ (qs.flatMap (·.1)).length := by
    intro qs
    induction qs with
    | nil => intro _; simp
    | cons q qs ih =>
      intro hq
      have h1 := ih (fun p hp => hq p (List.mem_cons_of_mem _ hp))
      have h2 := hq q List.mem_cons_self
      rw [List.flatMap_cons, List.length_append, List.length_cons]
      omega
  have := key ps (fun q hq => by
    obtain ⟨i, hi, rfl⟩ := List.getElem_of_mem hq
    exact ((lo.nd i hi).nd _ _ _ _).pos)
  rwa [lo.flat] at this

theorem LevO.higher {d h B0 : Nat} {l : List VT} {W : World} {v : Value} {ps : List Part} (lo : LevO d l B0 W v ps h) (h1 : 1 < ps.length) : 16 ^ (h + 1) ≤ l.length := by
  have h0 := (lo.nd 0 (by omega)).nd _ _ _ _
  rw [decide_eq_true (by omega)] at h0
  have h2 := h0.least
  have h3 := sum_mem_le (ps.map fun p => p.1.length) ps[0].1.length (List.mem_map.2 ⟨ps[0], List.getElem_mem _, rfl⟩)
  rw [← flat_sum, lo.flat] at h3
  omega

theorem flat_two {α β γ : Type} (L : List α) (f : α → List β) (g : β → List γ) : (L.map (fun x => (f x).flatMap g)).flatten = ((L.map f).flatten).flatMap g := by
  induction L with
  | nil => rfl
  | cons x L ih => simp only [List.map_cons, List.flatten_cons, List.flatMap_append, ih]

/-- The next level: what the second loop's round leaves. -/
theorem LevO.next {d h B0 n1 : Nat} {l : List VT} {V W3 : World} {v v3 : Value} {ps : List Part} {qs : List (Part × Bool)} (lo : LevO d l B0 V v ps h) (hN : 1 < ps.length) (hb : Below V.heap.size V W3) {B1 : Nat} (lv : Lv d (h + 1) B1 B0 n1 W3 v3 qs) (hq : qs.map (fun q => (q.1.1, q.2)) = (cks ps.length lo.pos ((ps.length + 31) / 32)).map (fun x => ((ckOf ps x).flatMap (·.1), decide (x.1.2 < ps.length)))) :
    LevO d l B0 (W3.setCell ⟨B0, 0, none⟩ v3) v3 (qs.map (·.1)) (h + 1) ∧ (qs.map (·.1)).length < ps.length ∧ Go.Boxed W3 B0 148 v := by
  obtain ⟨hrow, hnd⟩ := lv.keep
  have hbx : Go.Boxed W3 B0 148 v := (hb.block B0 lo.box.lt).trans lo.box
  have hset : ∀ (a : Addr) (u : Value), a.block ≠ B0 → W3.cell? a = some u → (W3.setCell ⟨B0, 0, none⟩ v3).cell? a = some u := fun a u ha hu =>
    (grownBy_setCell' W3 B0 v3).cell hu (fun e => ha (by injection e))
  have hF : ((cks ps.length lo.pos ((ps.length + 31) / 32)).map (fun x => (ckOf ps x).flatMap (·.1))).flatten = l := by
    rw [flat_two, cks_flat, lo.flat]
  obtain ⟨h1, h2⟩ := levO_of (W := W3.setCell ⟨B0, 0, none⟩ v3) lo.pos (fun x => (ckOf ps x).flatMap (·.1)) hq hF (hbx.set v3) (hrow.stays (fun b h => h.2.1) (fun a u hX hu => hset a u hX.2.1 hu)) (fun i hi => (hnd i hi).stays (fun b h => h.2.1) (fun a u hX hu => hset a u hX.2.1 hu) _ _ _ _) (.inr (lo.higher hN))
  exact ⟨h1, by omega, hbx⟩

/-- What stands ahead of a round of the second loop. -/
def OI (d : Nat) (l : List VT) (w : World) (s0 s7 s8 s18 s19 : Value) (n : Nat) (a : Act) (W : World) : Prop :=
  ∃ (u5 u20 u21 u22 u23 u24 u32 : Value) (ds : List Nat) (v : Value) (ps : List Part) (h : Nat), a = { tmps := #[s0, undef, .nilIface, .pointer (some ⟨w.heap.size, 0, none⟩), undef, u5, undef, s7, s8, undef, undef, undef, undef, undef, undef, undef, undef, undef, s18, s19, u20, u21, u22, u23, u24, undef, undef, undef, undef, undef, undef, undef, u32, undef, undef, undef], defers := ds.map markD } ∧
    Marks w.heap.size W ds ∧ LevO d l w.heap.size W v ps h ∧ n = ps.length ∧ Below w.heap.size w W

/-- The level's row lies as it lay. -/
theorem Lv.row2 {d h B C n0 : Nat} {W w1 : World} {v : Value} {qs : List (Part × Bool)} (lv : Lv d h B C n0 W v qs) (hb : Below W.heap.size W w1) : w1.ownsRow n0 76 1 v qs.length (qs.map (·.1.2)) :=
  lv.2.2.2.1.kept (row := none) ⟨hb.os, hb.tape, hb.output, hb.size, fun k hk _ => hb.block k hk⟩ (by
    cases hv : v.ownBlock with
    | none => exact .inl rfl
    | some b => exact .inr (by simp))

set_option maxRecDepth 100000 in
set_option maxHeartbeats 8000000 in
theorem grown_pos (d : Nat) (l : List VT) (b o cap len : Nat) (w : World) (hlen : len = l.length) (hpos : 0 < len) (hcap : len ≤ cap) (hbig : len ≤ 65536) (hl : Lies (d + 1) w l (.slice (some ⟨b, o, none⟩) len cap)) :
    Calls Tryz.prog 36 #[.slice (some ⟨b, o, none⟩) len cap] w (JoinPost d l w) := by
  refine (callsIn_wide (n := 6)).1 ?_
  refine callsIn_of_wp_marks Tryz.func36 rfl trivial ?_ rfl
  simp only [Tryz.ntmps36, List.size_toArray, List.length_cons, List.length_nil, Nat.reduceAdd, Nat.reduceSub, Array.replicate_succ, Array.replicate_zero, List.push_toArray, List.append_toArray, List.nil_append, List.cons_append]
  have HL : Hid (Lies (d + 1) w l (.slice (some ⟨b, o, none⟩) len cap)) := hl
  have Hlen : Hid (len = l.length) := hlen
  clear hl hlen
  gi_wp2
  refine ⟨trivial, ?_⟩
  refine (chunkV_in _ _ _ _ _).mono ?_
  rintro e w' ⟨rfl, rfl⟩
  gi_wp2
  have bO := Go.Boxed.new w 148 (.slice none 0 0)
  have bS := Go.Boxed.new (w.alloc (.cells #[.slice none 0 0] 148)) 22 (.slice (some ⟨b, o, none⟩) len cap)
  have bN := Go.Boxed.new ((w.alloc (.cells #[.slice none 0 0] 148)).alloc (.cells #[.slice (some ⟨b, o, none⟩) len cap] 22)) 3 (.int .i64 32)
  have hB0 : Below w.heap.size w (((w.alloc (.cells #[.slice none 0 0] 148)).alloc (.cells #[.slice (some ⟨b, o, none⟩) len cap] 22)).alloc (.cells #[.int .i64 32] 3)) := ((((Grew.refl w).alloc _).alloc _).alloc _).below
  rw [World.size_alloc] at bS bN
  rw [World.size_alloc] at bN
  refine wpIn_rangeFunc_ownG rfl (by omega) (gf := 137) (lb := #[.pointer (some ⟨w.heap.size + 1, 0, none⟩), .pointer (some ⟨w.heap.size + 1 + 1, 0, none⟩)]) rfl trivial (enters_of Tryz.func137 (by kernel_rfl) rfl)
    (chunkV_stops 5 (by omega) w.heap.size (w.heap.size + 1) (w.heap.size + 1 + 1) b o len cap hpos hcap hbig _ (by simp) (by simp) (bS.alloc _).cell bN.cell) KpC.t (KpC.b (by simp; omega) (by simp) (by simp)) (Below.refl _ _) (fun _ => rfl)
    (GI d 0 (fun x => (ckOf l x, decide (x.1.2 < len))) w.heap.size w.heap.size (w.heap.size + 3) w) (fun _ _ _ => False)
    ?hI (fun _ _ _ _ _ hs _ _ => hs) ?h0
    (fun x => { tmps := #[.slice (some ⟨b, o, none⟩) len cap, undef, .nilIface, .pointer (some ⟨w.heap.size, 0, none⟩), .slice (some ⟨b, o + x.1.1 * 4, none⟩) (x.1.2 - x.1.1) (x.1.2 - x.1.1), undef, undef, .slice (some ⟨b, o, none⟩) len cap, .func (.func 137) #[] #[.pointer (some ⟨w.heap.size + 1, 0, none⟩), .pointer (some ⟨w.heap.size + 1 + 1, 0, none⟩)], .slice (some ⟨b, o + x.1.1 * 4, none⟩) (x.1.2 - x.1.1) (x.1.2 - x.1.1), undef, undef, undef, undef, undef, undef, undef, undef, undef, undef, undef, undef, undef, undef, undef, undef, undef, undef, undef, undef, undef, undef, undef, undef, undef, undef], defers := [] }) ?assign ?body ?done ?stop
  case hI => exact GI.own _ _ _ _ _ _ _ _ (by simp; omega) (by simp; omega)
  case h0 => exact ⟨⟨_, [], (bO.alloc _).alloc _, Lv.nil _ _ _ _ _ _ (by omega) (by omega) (by simp), rfl⟩, hB0⟩
  case assign =>
    intro l x W K hK
    gi_wp2
    exact hK
  case body =>
    rintro lp pre x W ⟨⟨v, qs, bx, lv, hq⟩, hB⟩ hlt
    have hc := bx.cell
    have hx1 := x.2.1
    have hx2 := x.2.2.1
    have hlc : 1 ≤ (ckOf l x).length ∧ (ckOf l x).length ≤ 32 ∧ (ckOf l x).length = x.1.2 - x.1.1 ∧ ((x.1.2 < len) → 16 ≤ (ckOf l x).length) := by
      have := Hlen.out
      unfold ckOf
      rw [List.length_take, List.length_drop]
      omega
    have hql : qs.length ≤ 65536 := by
      have := congrArg List.length hq
      rw [List.length_map, List.length_map] at this
      omega
    have hck : LiesX (fun b => (b < w.heap.size + 3 ∧ b ≠ w.heap.size ∧ b ≠ w.heap.size) ∨ W.heap.size ≤ b) (d + 1) W (ckOf l x) (.slice (some ⟨b, o + x.1.1 * 4, none⟩) (ckOf l x).length (x.1.2 - x.1.1)) := by
      have hl := HL.out
      have e := Hlen.out
      rw [e] at hl
      have h1 := Lies.dropped hl x.1.1
      have h2 := Lies.recap (Lies.taken (by rw [List.length_drop]; exact h1) (x.1.2 - x.1.1) (by rw [List.length_drop]; omega)) (x.1.2 - x.1.1) (by rw [List.length_take]; omega)
      have h3 := LiesX.of_lies h2
      have e9 : (ckOf l x).length = x.1.2 - x.1.1 := hlc.2.2.1
      rw [e9]
      exact LiesX.stays (fun b (h : b < w.heap.size) => .inl ⟨by omega, by omega, by omega⟩) (fun _ _ _ hv => cell_keeps hB hv) h3
    have HCl : Hid (Calls Tryz.prog 92 #[.slice (some ⟨b, o + x.1.1 * 4, none⟩) (x.1.2 - x.1.1) (x.1.2 - x.1.1)] W.drew fun e w' => ∃ a5 c5, e = .returned (.slice a5 (ckOf l x).length c5) ∧ LiesX (fun b => (b < w.heap.size + 3 ∧ b ≠ w.heap.size ∧ b ≠ w.heap.size) ∨ W.heap.size ≤ b) (d + 1) w' (ckOf l x) (.slice a5 (ckOf l x).length c5) ∧ Below W.heap.size W w') := by
      have hV : Below W.heap.size W W.drew := (Below.refl _ _).drew
      have := clone_x (fun b => (b < w.heap.size + 3 ∧ b ≠ w.heap.size ∧ b ≠ w.heap.size) ∨ W.heap.size ≤ b) d (ckOf l x) b (o + x.1.1 * 4) (x.1.2 - x.1.1) W.drew (fun b h => .inr (Nat.le_trans hV.size h)) (hck.keeps hV) hlc.1 (by omega)
      rw [hlc.2.2.1] at this
      refine Calls.mono this ?_
      rintro e w' ⟨v5, rfl, h5, hb5⟩
      obtain ⟨a5, c5, rfl, _⟩ := h5.lies.slice
      exact ⟨a5, c5, rfl, h5, hV.trans (hb5.mono hV.size)⟩
    have HStep : Hid (∀ (w1 : World) (a5 : Option Addr) (c5 : Nat), LiesX (fun b => (b < w.heap.size + 3 ∧ b ≠ w.heap.size ∧ b ≠ w.heap.size) ∨ W.heap.size ≤ b) (d + 1) w1 (ckOf l x) (.slice a5 (ckOf l x).length c5) → Below W.heap.size W w1 → ∀ (g cap : Nat) (w3 : World),
      w3.ownsRow (w.heap.size + 3) 76 1 (.slice (some ⟨g, 0, none⟩) (qs.length + 1) cap) (qs.length + 1) (qs.map (·.1.2) ++ [.iface 152 (.pointer (some ⟨w1.heap.size, 0, none⟩))]) → ((w1.alloc (.cells #[.slice a5 (ckOf l x).length c5] 154)).alloc (.cells #[.iface 152 (.pointer (some ⟨w1.heap.size, 0, none⟩))] 76)).grownBy w3 v.ownBlock → (v.ownBlock = some g ∨ g = ((w1.alloc (.cells #[.slice a5 (ckOf l x).length c5] 154)).alloc (.cells #[.iface 152 (.pointer (some ⟨w1.heap.size, 0, none⟩))] 76)).heap.size) → g < w3.heap.size →
      Go.Boxed w3 w.heap.size 148 v ∧ KeepsOthers W (w3.setCell ⟨w.heap.size, 0, none⟩ (.slice (some ⟨g, 0, none⟩) (qs.length + 1) cap)) ∧ KpC w.heap.size (w.heap.size + 1) (w.heap.size + 1 + 1) W (w3.setCell ⟨w.heap.size, 0, none⟩ (.slice (some ⟨g, 0, none⟩) (qs.length + 1) cap)) ∧ GI d 0 (fun x => (ckOf l x, decide (x.1.2 < len))) w.heap.size w.heap.size (w.heap.size + 3) w (pre ++ [x]) (w3.setCell ⟨w.heap.size, 0, none⟩ (.slice (some ⟨g, 0, none⟩) (qs.length + 1) cap))) :=
      fun w1 a5 c5 h5 hb5 g cap w3 hown hgrow hg hgl => by
        have h9 : Below w1.heap.size w1 ((w1.alloc (.cells #[.slice a5 (ckOf l x).length c5] 154)).alloc (.cells #[.iface 152 (.pointer (some ⟨w1.heap.size, 0, none⟩))] 76)) := (((Grew.refl w1).alloc _).alloc _).below
        have hnd : NDX (fun b => (b < w.heap.size + 3 ∧ b ≠ w.heap.size ∧ b ≠ w.heap.size) ∨ W.heap.size ≤ b) d 0 (decide (x.1.2 < len)) ((w1.alloc (.cells #[.slice a5 (ckOf l x).length c5] 154)).alloc (.cells #[.iface 152 (.pointer (some ⟨w1.heap.size, 0, none⟩))] 76)) (ckOf l x) (.iface 152 (.pointer (some ⟨w1.heap.size, 0, none⟩))) :=
          ⟨w1.heap.size, a5, c5, rfl, .inr hb5.size, by simp, LiesX.stays (fun b h => h) (fun _ _ _ hc => cell_keeps h9 hc) h5, hlc.1, hlc.2.1, fun h => hlc.2.2.2 (by simpa using h)⟩
        exact GI.step bx lv hq hB (Nat.le_refl _) (by omega) (by omega) (by omega) (by omega) (hb5.trans (h9.mono hb5.size)) hnd hown hgrow hg hgl
    have HRow : Hid (∀ (w1 : World) (o1 o2 : Obj), Below W.heap.size W w1 → ((w1.alloc o1).alloc o2).ownsRow (w.heap.size + 3) 76 1 v qs.length (qs.map (·.1.2)) ∧ w.heap.size + 3 ≤ ((w1.alloc o1).alloc o2).heap.size) := fun w1 o1 o2 hb => by
      have h9 := (((Grew.refl w1).alloc o1).alloc o2).below
      exact ⟨lv.row2 (hb.trans (h9.mono hb.size)), by have := lv.2.2.1; have := hb.size; have := h9.size; omega⟩
    have hmx : Tryz.prog.follows .mixedOrders = true := by kernel_rfl
    have hcD : W.drew.cell? ⟨w.heap.size, 0, none⟩ = some v := hc
    have HcA : Hid (∀ (w1 : World), Below W.heap.size W w1 → w1.cell? ⟨w.heap.size, 0, none⟩ = some v) := fun w1 hb => cell_keeps hb hc
    have HcB : Hid (∀ (w1 : World) (o1 : Obj), Below W.heap.size W w1 → (w1.alloc o1).cell? ⟨w.heap.size, 0, none⟩ = some v) := fun w1 o1 hb => cell_keeps ((Grew.refl w1).alloc o1).below (cell_keeps hb hc)
    have HcC : Hid (∀ (w1 : World) (o1 o2 : Obj), Below W.heap.size W w1 → ((w1.alloc o1).alloc o2).cell? ⟨w.heap.size, 0, none⟩ = some v) := fun w1 o1 o2 hb => cell_keeps (((Grew.refl w1).alloc o1).alloc o2).below (cell_keeps hb hc)
    have Hql : Hid (qs.length ≤ 65536) := hql
    clear hck hlc hq hx1 hx2 hql lv
    gi_wp2
    refine wpIn_region_any hmx ?_
    change wpAnyIn _ _ _ _ _ _ _ _ _ (World.drew _)
    refine wpAnyIn_ready (rs := [0, 1]) (by kernel_rfl) (by simp) ?_
    refine AllReadyIn.cons rfl (fun K hK => ?_) ?_
    · go_simp
      refine hK _ _ ?_
      clear hK K
      refine wpAnyIn_ready (rs := [1]) (by kernel_rfl) (by simp) ?_
      refine AllReadyIn.cons rfl (fun K hK => ?_) ?_
      · go_simp
        refine hK _ _ ?_
        clear hK K
        refine wpAnyIn_ready (rs := [2]) (by kernel_rfl) (by simp) ?_
        refine AllReadyIn.cons rfl (fun K hK => ?_) ?_
        · go_simp
          refine ⟨trivial, ?_⟩
          refine (CallsIn.inRound lp (callsIn_wide.2 HCl.out)).mono ?_
          rintro e w1 ⟨a5, c5, rfl, h5, hb5⟩
          have hc1 := HcA.out w1 hb5
          have hl1 := cell_lt hc1
          refine hK _ _ ?_
          clear hK K
          refine wpAnyIn_ready (rs := [3]) (by kernel_rfl) (by simp) ?_
          refine AllReadyIn.cons rfl (fun K hK => ?_) ?_
          · go_simp
            refine hK _ _ ?_
            clear hK K
            refine wpAnyIn_ready (rs := [4]) (by kernel_rfl) (by simp) ?_
            refine AllReadyIn.cons rfl (fun K hK => ?_) ?_
            · go_simp
              refine hK _ _ ?_
              clear hK K
              refine wpAnyIn_ready (rs := [5]) (by kernel_rfl) (by simp) ?_
              refine AllReadyIn.cons rfl (fun K hK => ?_) ?_
              · go_simp
                refine hK _ _ ?_
                clear hK K
                refine wpAnyIn_ready (rs := [6]) (by kernel_rfl) (by simp) ?_
                refine AllReadyIn.cons rfl (fun K hK => ?_) ?_
                · go_simp
                  refine hK _ _ ?_
                  clear hK K
                  refine wpAnyIn_ready (rs := [7]) (by kernel_rfl) (by simp) ?_
                  refine AllReadyIn.cons rfl (fun K hK => ?_) ?_
                  · refine appIn_step rfl _ _ rfl (w.heap.size + 3) v qs.length (qs.map (·.1.2)) rfl (HRow.out w1 _ _ hb5).1 _ (.iface 152 (.pointer (some ⟨w1.heap.size, 0, none⟩))) rfl (by simp) rfl Hql.out (HRow.out w1 _ _ hb5).2 ?_
                    intro g3 cap3 w3 hown3 hgrow3 hg3 hgl3
                    obtain ⟨hbx3, hko3, hkp3, hgi3⟩ := HStep.out w1 a5 c5 h5 hb5 g3 cap3 w3 hown3 hgrow3 hg3 hgl3
                    have hc3 := hbx3.cell
                    have hf3 := hbx3.frozen
                    refine hK _ _ ?_
                    clear hK K
                    refine wpAnyIn_ready (rs := [8]) (by kernel_rfl) (by simp) ?_
                    refine AllReadyIn.cons rfl (fun K hK => ?_) ?_
                    · go_simp
                      refine hK _ _ ?_
                      clear hK K
                      refine wpAnyIn_done (by kernel_rfl) ?_ _
                      exact ⟨hko3.from _, hkp3, hgi3⟩
                    exact AllReadyIn.nil
                  exact AllReadyIn.nil
                exact AllReadyIn.nil
              exact AllReadyIn.nil
            exact AllReadyIn.nil
          exact AllReadyIn.nil
        exact AllReadyIn.nil
      exact AllReadyIn.nil
    refine AllReadyIn.cons rfl (fun K hK => ?_) ?_
    · go_simp
      refine hK _ _ ?_
      clear hK K
      refine wpAnyIn_ready (rs := [0, 2]) (by kernel_rfl) (by simp) ?_
      refine AllReadyIn.cons rfl (fun K hK => ?_) ?_
      · go_simp
        refine hK _ _ ?_
        clear hK K
        refine wpAnyIn_ready (rs := [2]) (by kernel_rfl) (by simp) ?_
        refine AllReadyIn.cons rfl (fun K hK => ?_) ?_
        · go_simp
          refine ⟨trivial, ?_⟩
          refine (CallsIn.inRound lp (callsIn_wide.2 HCl.out)).mono ?_
          rintro e w1 ⟨a5, c5, rfl, h5, hb5⟩
          have hc1 := HcA.out w1 hb5
          have hl1 := cell_lt hc1
          refine hK _ _ ?_
          clear hK K
          refine wpAnyIn_ready (rs := [3]) (by kernel_rfl) (by simp) ?_
          refine AllReadyIn.cons rfl (fun K hK => ?_) ?_
          · go_simp
            refine hK _ _ ?_
            clear hK K
            refine wpAnyIn_ready (rs := [4]) (by kernel_rfl) (by simp) ?_
            refine AllReadyIn.cons rfl (fun K hK => ?_) ?_
            · go_simp
              refine hK _ _ ?_
              clear hK K
              refine wpAnyIn_ready (rs := [5]) (by kernel_rfl) (by simp) ?_
              refine AllReadyIn.cons rfl (fun K hK => ?_) ?_
              · go_simp
                refine hK _ _ ?_
                clear hK K
                refine wpAnyIn_ready (rs := [6]) (by kernel_rfl) (by simp) ?_
                refine AllReadyIn.cons rfl (fun K hK => ?_) ?_
                · go_simp
                  refine hK _ _ ?_
                  clear hK K
                  refine wpAnyIn_ready (rs := [7]) (by kernel_rfl) (by simp) ?_
                  refine AllReadyIn.cons rfl (fun K hK => ?_) ?_
                  · refine appIn_step rfl _ _ rfl (w.heap.size + 3) v qs.length (qs.map (·.1.2)) rfl (HRow.out w1 _ _ hb5).1 _ (.iface 152 (.pointer (some ⟨w1.heap.size, 0, none⟩))) rfl (by simp) rfl Hql.out (HRow.out w1 _ _ hb5).2 ?_
                    intro g3 cap3 w3 hown3 hgrow3 hg3 hgl3
                    obtain ⟨hbx3, hko3, hkp3, hgi3⟩ := HStep.out w1 a5 c5 h5 hb5 g3 cap3 w3 hown3 hgrow3 hg3 hgl3
                    have hc3 := hbx3.cell
                    have hf3 := hbx3.frozen
                    refine hK _ _ ?_
                    clear hK K
                    refine wpAnyIn_ready (rs := [8]) (by kernel_rfl) (by simp) ?_
                    refine AllReadyIn.cons rfl (fun K hK => ?_) ?_
                    · go_simp
                      refine hK _ _ ?_
                      clear hK K
                      refine wpAnyIn_done (by kernel_rfl) ?_ _
                      exact ⟨hko3.from _, hkp3, hgi3⟩
                    exact AllReadyIn.nil
                  exact AllReadyIn.nil
                exact AllReadyIn.nil
              exact AllReadyIn.nil
            exact AllReadyIn.nil
          exact AllReadyIn.nil
        exact AllReadyIn.nil
      refine AllReadyIn.cons rfl (fun K hK => ?_) ?_
      · go_simp
        refine ⟨trivial, ?_⟩
        refine (CallsIn.inRound lp (callsIn_wide.2 HCl.out)).mono ?_
        rintro e w1 ⟨a5, c5, rfl, h5, hb5⟩
        have hc1 := HcA.out w1 hb5
        have hl1 := cell_lt hc1
        refine hK _ _ ?_
        clear hK K
        refine wpAnyIn_ready (rs := [0, 3]) (by kernel_rfl) (by simp) ?_
        refine AllReadyIn.cons rfl (fun K hK => ?_) ?_
        · go_simp
          refine hK _ _ ?_
          clear hK K
          refine wpAnyIn_ready (rs := [3]) (by kernel_rfl) (by simp) ?_
          refine AllReadyIn.cons rfl (fun K hK => ?_) ?_
          · go_simp
            refine hK _ _ ?_
            clear hK K
            refine wpAnyIn_ready (rs := [4]) (by kernel_rfl) (by simp) ?_
            refine AllReadyIn.cons rfl (fun K hK => ?_) ?_
            · go_simp
              refine hK _ _ ?_
              clear hK K
              refine wpAnyIn_ready (rs := [5]) (by kernel_rfl) (by simp) ?_
              refine AllReadyIn.cons rfl (fun K hK => ?_) ?_
              · go_simp
                refine hK _ _ ?_
                clear hK K
                refine wpAnyIn_ready (rs := [6]) (by kernel_rfl) (by simp) ?_
                refine AllReadyIn.cons rfl (fun K hK => ?_) ?_
                · go_simp
                  refine hK _ _ ?_
                  clear hK K
                  refine wpAnyIn_ready (rs := [7]) (by kernel_rfl) (by simp) ?_
                  refine AllReadyIn.cons rfl (fun K hK => ?_) ?_
                  · refine appIn_step rfl _ _ rfl (w.heap.size + 3) v qs.length (qs.map (·.1.2)) rfl (HRow.out w1 _ _ hb5).1 _ (.iface 152 (.pointer (some ⟨w1.heap.size, 0, none⟩))) rfl (by simp) rfl Hql.out (HRow.out w1 _ _ hb5).2 ?_
                    intro g3 cap3 w3 hown3 hgrow3 hg3 hgl3
                    obtain ⟨hbx3, hko3, hkp3, hgi3⟩ := HStep.out w1 a5 c5 h5 hb5 g3 cap3 w3 hown3 hgrow3 hg3 hgl3
                    have hc3 := hbx3.cell
                    have hf3 := hbx3.frozen
                    refine hK _ _ ?_
                    clear hK K
                    refine wpAnyIn_ready (rs := [8]) (by kernel_rfl) (by simp) ?_
                    refine AllReadyIn.cons rfl (fun K hK => ?_) ?_
                    · go_simp
                      refine hK _ _ ?_
                      clear hK K
                      refine wpAnyIn_done (by kernel_rfl) ?_ _
                      exact ⟨hko3.from _, hkp3, hgi3⟩
                    exact AllReadyIn.nil
                  exact AllReadyIn.nil
                exact AllReadyIn.nil
              exact AllReadyIn.nil
            exact AllReadyIn.nil
          exact AllReadyIn.nil
        refine AllReadyIn.cons rfl (fun K hK => ?_) ?_
        · go_simp
          refine hK _ _ ?_
          clear hK K
          refine wpAnyIn_ready (rs := [0, 4]) (by kernel_rfl) (by simp) ?_
          refine AllReadyIn.cons rfl (fun K hK => ?_) ?_
          · go_simp
            refine hK _ _ ?_
            clear hK K
            refine wpAnyIn_ready (rs := [4]) (by kernel_rfl) (by simp) ?_
            refine AllReadyIn.cons rfl (fun K hK => ?_) ?_
            · go_simp
              refine hK _ _ ?_
              clear hK K
              refine wpAnyIn_ready (rs := [5]) (by kernel_rfl) (by simp) ?_
              refine AllReadyIn.cons rfl (fun K hK => ?_) ?_
              · go_simp
                refine hK _ _ ?_
                clear hK K
                refine wpAnyIn_ready (rs := [6]) (by kernel_rfl) (by simp) ?_
                refine AllReadyIn.cons rfl (fun K hK => ?_) ?_
                · go_simp
                  refine hK _ _ ?_
                  clear hK K
                  refine wpAnyIn_ready (rs := [7]) (by kernel_rfl) (by simp) ?_
                  refine AllReadyIn.cons rfl (fun K hK => ?_) ?_
                  · refine appIn_step rfl _ _ rfl (w.heap.size + 3) v qs.length (qs.map (·.1.2)) rfl (HRow.out w1 _ _ hb5).1 _ (.iface 152 (.pointer (some ⟨w1.heap.size, 0, none⟩))) rfl (by simp) rfl Hql.out (HRow.out w1 _ _ hb5).2 ?_
                    intro g3 cap3 w3 hown3 hgrow3 hg3 hgl3
                    obtain ⟨hbx3, hko3, hkp3, hgi3⟩ := HStep.out w1 a5 c5 h5 hb5 g3 cap3 w3 hown3 hgrow3 hg3 hgl3
                    have hc3 := hbx3.cell
                    have hf3 := hbx3.frozen
                    refine hK _ _ ?_
                    clear hK K
                    refine wpAnyIn_ready (rs := [8]) (by kernel_rfl) (by simp) ?_
                    refine AllReadyIn.cons rfl (fun K hK => ?_) ?_
                    · go_simp
                      refine hK _ _ ?_
                      clear hK K
                      refine wpAnyIn_done (by kernel_rfl) ?_ _
                      exact ⟨hko3.from _, hkp3, hgi3⟩
                    exact AllReadyIn.nil
                  exact AllReadyIn.nil
                exact AllReadyIn.nil
              exact AllReadyIn.nil
            exact AllReadyIn.nil
          refine AllReadyIn.cons rfl (fun K hK => ?_) ?_
          · go_simp
            refine hK _ _ ?_
            clear hK K
            refine wpAnyIn_ready (rs := [0, 5]) (by kernel_rfl) (by simp) ?_
            refine AllReadyIn.cons rfl (fun K hK => ?_) ?_
            · go_simp
              refine hK _ _ ?_
              clear hK K
              refine wpAnyIn_ready (rs := [5]) (by kernel_rfl) (by simp) ?_
              refine AllReadyIn.cons rfl (fun K hK => ?_) ?_
              · go_simp
                refine hK _ _ ?_
                clear hK K
                refine wpAnyIn_ready (rs := [6]) (by kernel_rfl) (by simp) ?_
                refine AllReadyIn.cons rfl (fun K hK => ?_) ?_
                · go_simp
                  refine hK _ _ ?_
                  clear hK K
                  refine wpAnyIn_ready (rs := [7]) (by kernel_rfl) (by simp) ?_
                  refine AllReadyIn.cons rfl (fun K hK => ?_) ?_
                  · refine appIn_step rfl _ _ rfl (w.heap.size + 3) v qs.length (qs.map (·.1.2)) rfl (HRow.out w1 _ _ hb5).1 _ (.iface 152 (.pointer (some ⟨w1.heap.size, 0, none⟩))) rfl (by simp) rfl Hql.out (HRow.out w1 _ _ hb5).2 ?_
                    intro g3 cap3 w3 hown3 hgrow3 hg3 hgl3
                    obtain ⟨hbx3, hko3, hkp3, hgi3⟩ := HStep.out w1 a5 c5 h5 hb5 g3 cap3 w3 hown3 hgrow3 hg3 hgl3
                    have hc3 := hbx3.cell
                    have hf3 := hbx3.frozen
                    refine hK _ _ ?_
                    clear hK K
                    refine wpAnyIn_ready (rs := [8]) (by kernel_rfl) (by simp) ?_
                    refine AllReadyIn.cons rfl (fun K hK => ?_) ?_
                    · go_simp
                      refine hK _ _ ?_
                      clear hK K
                      refine wpAnyIn_done (by kernel_rfl) ?_ _
                      exact ⟨hko3.from _, hkp3, hgi3⟩
                    exact AllReadyIn.nil
                  exact AllReadyIn.nil
                exact AllReadyIn.nil
              exact AllReadyIn.nil
            refine AllReadyIn.cons rfl (fun K hK => ?_) ?_
            · go_simp
              refine hK _ _ ?_
              clear hK K
              refine wpAnyIn_ready (rs := [0, 6]) (by kernel_rfl) (by simp) ?_
              refine AllReadyIn.cons rfl (fun K hK => ?_) ?_
              · go_simp
                refine hK _ _ ?_
                clear hK K
                refine wpAnyIn_ready (rs := [6]) (by kernel_rfl) (by simp) ?_
                refine AllReadyIn.cons rfl (fun K hK => ?_) ?_
                · go_simp
                  refine hK _ _ ?_
                  clear hK K
                  refine wpAnyIn_ready (rs := [7]) (by kernel_rfl) (by simp) ?_
                  refine AllReadyIn.cons rfl (fun K hK => ?_) ?_
                  · refine appIn_step rfl _ _ rfl (w.heap.size + 3) v qs.length (qs.map (·.1.2)) rfl (HRow.out w1 _ _ hb5).1 _ (.iface 152 (.pointer (some ⟨w1.heap.size, 0, none⟩))) rfl (by simp) rfl Hql.out (HRow.out w1 _ _ hb5).2 ?_
                    intro g3 cap3 w3 hown3 hgrow3 hg3 hgl3
                    obtain ⟨hbx3, hko3, hkp3, hgi3⟩ := HStep.out w1 a5 c5 h5 hb5 g3 cap3 w3 hown3 hgrow3 hg3 hgl3
                    have hc3 := hbx3.cell
                    have hf3 := hbx3.frozen
                    refine hK _ _ ?_
                    clear hK K
                    refine wpAnyIn_ready (rs := [8]) (by kernel_rfl) (by simp) ?_
                    refine AllReadyIn.cons rfl (fun K hK => ?_) ?_
                    · go_simp
                      refine hK _ _ ?_
                      clear hK K
                      refine wpAnyIn_done (by kernel_rfl) ?_ _
                      exact ⟨hko3.from _, hkp3, hgi3⟩
                    exact AllReadyIn.nil
                  exact AllReadyIn.nil
                exact AllReadyIn.nil
              refine AllReadyIn.cons rfl (fun K hK => ?_) ?_
              · go_simp
                refine hK _ _ ?_
                clear hK K
                refine wpAnyIn_ready (rs := [0]) (by kernel_rfl) (by simp) ?_
                refine AllReadyIn.cons rfl (fun K hK => ?_) ?_
                · go_simp
                  refine hK _ _ ?_
                  clear hK K
                  refine wpAnyIn_ready (rs := [7]) (by kernel_rfl) (by simp) ?_
                  refine AllReadyIn.cons rfl (fun K hK => ?_) ?_
                  · refine appIn_step rfl _ _ rfl (w.heap.size + 3) v qs.length (qs.map (·.1.2)) rfl (HRow.out w1 _ _ hb5).1 _ (.iface 152 (.pointer (some ⟨w1.heap.size, 0, none⟩))) rfl (by simp) rfl Hql.out (HRow.out w1 _ _ hb5).2 ?_
                    intro g3 cap3 w3 hown3 hgrow3 hg3 hgl3
                    obtain ⟨hbx3, hko3, hkp3, hgi3⟩ := HStep.out w1 a5 c5 h5 hb5 g3 cap3 w3 hown3 hgrow3 hg3 hgl3
                    have hc3 := hbx3.cell
                    have hf3 := hbx3.frozen
                    refine hK _ _ ?_
                    clear hK K
                    refine wpAnyIn_ready (rs := [8]) (by kernel_rfl) (by simp) ?_
                    refine AllReadyIn.cons rfl (fun K hK => ?_) ?_
                    · go_simp
                      refine hK _ _ ?_
                      clear hK K
                      refine wpAnyIn_done (by kernel_rfl) ?_ _
                      exact ⟨hko3.from _, hkp3, hgi3⟩
                    exact AllReadyIn.nil
                  exact AllReadyIn.nil
                exact AllReadyIn.nil
              exact AllReadyIn.nil
            exact AllReadyIn.nil
          exact AllReadyIn.nil
        exact AllReadyIn.nil
      exact AllReadyIn.nil
    exact AllReadyIn.nil
  case done =>
    rintro D ys W hD rfl ⟨⟨v, qs, bx, lv, hq⟩, hB⟩ hK
    obtain ⟨hrow0, hnd0⟩ := lv.keep
    have hF : ((cks len hpos ((len + 31) / 32)).map (ckOf l)).flatten = l := by
      have e := Hlen.out
      subst e
      exact cks_flat l hpos
    obtain ⟨lo, hpl⟩ := levO_of hpos (ckOf l) hq hF bx (hrow0.stays (fun b h => h.1) (fun _ _ _ h => h)) (fun i hi => (hnd0 i hi).mono (fun b h => h.1)) (.inl rfl)
    obtain ⟨ps, hps⟩ : ∃ ps, ps = qs.map (·.1) := ⟨_, rfl⟩
    rw [← hps] at lo hpl
    have hM : Marks w.heap.size W [D] := (Marks.nil _ _).cons (by simp at hD; omega) hK (by simp)
    obtain ⟨g, og, c, hv, hgc, hgs⟩ := lo.row.slv.full (fun e => by have h9 := congrArg List.length e; have := lo.pos; rw [List.length_map, List.length_nil] at h9; omega)
    rw [List.length_map] at hv
    have hc := bx.cell
    rw [hv] at hc
    have Hlo : Hid (LevO d l w.heap.size W v ps 0) := lo
    have Hpl : Hid (ps.length = (len + 31) / 32) := hpl
    clear hpl lo hps hq lv bx hrow0 hnd0 hgs
    obtain ⟨N, hN⟩ : ∃ N, N = ps.length := ⟨_, rfl⟩
    rw [← hN] at hc hv
    have HN : Hid (N = ps.length) := hN
    clear hN
    have heq := eql_nilN ⟨g, og, none⟩ N c W
    gi_wp2
    refine wpIn_loop_ghost (OI d l w _ _ _ _ _) N ⟨_, _, _, _, _, _, _, [D], v, ps, 0, rfl, hM, Hlo.out, HN.out, hB⟩ ?_
    clear hc heq hK hM Hlo HN Hpl hF hD hgc hB hv bO bS bN hB0 hpos hcap HL
    have Hbig : Hid (l.length ≤ 65536) := by
      have := Hlen.out
      show _ ≤ _
      omega
    clear Hlen hbig
    rintro n a V ⟨u5, u20, u21, u22, u23, u24, u32, ds, v1, ps1, h, rfl, hM1, lo1, hn1, hB1⟩
    obtain ⟨g1, o1, c1, hv1, hgc1, hgs1⟩ := lo1.row.slv.full (fun e => by have h9 := congrArg List.length e; have := lo1.pos; rw [List.length_map, List.length_nil] at h9; omega)
    rw [List.length_map] at hv1 hgc1
    have hc1 := lo1.box.cell
    have hl1 := lo1.box.lt
    rw [hv1] at hc1
    by_cases hN1 : 1 < ps1.length
    · have hNi : (1 : Int) < (ps1.length : Nat) := by omega
      have Hlo1 : Hid (LevO d l w.heap.size V v1 ps1 h) := lo1
      have Hn1 : Hid (n = ps1.length) := hn1
      have HM1 : Hid (Marks w.heap.size V ds) := hM1
      have Hgs1 : Hid _ := hgs1
      have hps : ps1.length ≤ 65536 := Nat.le_trans lo1.short Hbig.out
      have hp0 : 0 < ps1.length := lo1.pos
      clear lo1 hn1 hM1 hgs1
      gi_wp2
      refine ⟨trivial, ?_⟩
      refine (chunkN_in _ _ _ _ _).mono ?_
      rintro e w' ⟨rfl, rfl⟩
      gi_wp2
      have bO := Go.Boxed.new V 148 (.slice none 0 0)
      have bS := Go.Boxed.new (V.alloc (.cells #[.slice none 0 0] 148)) 148 (.slice (some ⟨g1, o1, none⟩) ps1.length c1)
      have bN := Go.Boxed.new ((V.alloc (.cells #[.slice none 0 0] 148)).alloc (.cells #[.slice (some ⟨g1, o1, none⟩) ps1.length c1] 148)) 3 (.int .i64 32)
      have hB0 : Below V.heap.size V (((V.alloc (.cells #[.slice none 0 0] 148)).alloc (.cells #[.slice (some ⟨g1, o1, none⟩) ps1.length c1] 148)).alloc (.cells #[.int .i64 32] 3)) := ((((Grew.refl V).alloc _).alloc _).alloc _).below
      rw [World.size_alloc] at bS bN
      rw [World.size_alloc] at bN
      refine wpIn_rangeFunc_ownG rfl (by omega) (gf := 138) (lb := #[.pointer (some ⟨V.heap.size + 1, 0, none⟩), .pointer (some ⟨V.heap.size + 1 + 1, 0, none⟩)]) rfl trivial (enters_of Tryz.func138 (by kernel_rfl) rfl)
        (chunkN_stops 5 (by omega) V.heap.size (V.heap.size + 1) (V.heap.size + 1 + 1) g1 o1 ps1.length c1 hp0 hgc1 hps _ (by simp) (by simp) (bS.alloc _).cell bN.cell) KpC.t (KpC.b (by simp; omega) (by simp) (by simp)) (Below.refl _ _) (fun _ => rfl)
        (GI d (h + 1) (fun x : Ck ps1.length => ((ckOf ps1 x).flatMap (·.1), decide (x.1.2 < ps1.length))) V.heap.size w.heap.size (V.heap.size + 3) V) (fun _ _ _ => False)
        ?hI2 (fun _ _ _ _ _ hs _ _ => hs) ?h02
        (fun x => { tmps := #[.slice (some ⟨b, o, none⟩) len cap, undef, .nilIface, .pointer (some ⟨w.heap.size, 0, none⟩), undef, .pointer (some ⟨V.heap.size, 0, none⟩), .slice (some ⟨g1, o1 + x.1.1, none⟩) (x.1.2 - x.1.1) (x.1.2 - x.1.1), .slice (some ⟨b, o, none⟩) len cap, .func (.func 137) #[] #[.pointer (some ⟨w.heap.size + 1, 0, none⟩), .pointer (some ⟨w.heap.size + 1 + 1, 0, none⟩)], undef, undef, undef, undef, undef, undef, undef, undef, undef, .slice (some ⟨g, og, none⟩) N c, .bool false, .slice (some ⟨g1, o1, none⟩) ps1.length c1, .int .i64 (ps1.length : Int), .bool true, .slice (some ⟨g1, o1, none⟩) ps1.length c1, .func (.func 138) #[] #[.pointer (some ⟨V.heap.size + 1, 0, none⟩), .pointer (some ⟨V.heap.size + 1 + 1, 0, none⟩)], .slice (some ⟨g1, o1 + x.1.1, none⟩) (x.1.2 - x.1.1) (x.1.2 - x.1.1), undef, undef, undef, undef, undef, undef, u32, undef, undef, undef], defers := [] }) ?assign2 ?body2 ?done2 ?stop2
      case hI2 => exact GI.own _ _ _ _ _ _ _ _ (by simp; omega) (by simp; omega)
      case h02 => exact ⟨⟨_, [], (bO.alloc _).alloc _, Lv.nil _ _ _ _ _ _ (by omega) (by omega) (by simp), rfl⟩, hB0⟩
      case assign2 =>
        intro l x W K hK
        gi_wp2
        exact hK
      case body2 =>
        rintro lp pre x W ⟨⟨v, qs, bx, lv, hq⟩, hB⟩ hlt
        have hc := bx.cell
        have hql : qs.length ≤ 65536 := by
          have := congrArg List.length hq
          rw [List.length_map, List.length_map] at this
          omega
        have HCl : Hid (Calls Tryz.prog 94 #[.slice (some ⟨g1, o1 + x.1.1, none⟩) (x.1.2 - x.1.1) (x.1.2 - x.1.1)] W.drew fun e w' => ∃ b5, e = .returned (.pointer (some ⟨b5, 0, none⟩)) ∧ NDX (fun b => (b < V.heap.size + 3 ∧ b ≠ V.heap.size ∧ b ≠ w.heap.size) ∨ W.heap.size ≤ b) d (h + 1) (decide (x.1.2 < ps1.length)) w' ((ckOf ps1 x).flatMap (·.1)) (.iface 158 (.pointer (some ⟨b5, 0, none⟩))) ∧ Below W.heap.size W w') := by
          have hV : Below W.heap.size W W.drew := (Below.refl _ _).drew
          have := LevO.chunk hv1 Hlo1.out Hbig.out x (X := fun b => b < V.heap.size + 3 ∧ b ≠ V.heap.size ∧ b ≠ w.heap.size) (W' := W.drew) (fun b h1 h2 => ⟨by omega, by omega, h1⟩) (hB.trans (hV.mono hB.size))
          refine Calls.mono this ?_
          rintro e w' ⟨b5, rfl, h5, hb5⟩
          exact ⟨b5, rfl, h5, hV.trans (hb5.mono hV.size)⟩
        have HStep : Hid (∀ (w1 : World) (b5 : Nat), NDX (fun b => (b < V.heap.size + 3 ∧ b ≠ V.heap.size ∧ b ≠ w.heap.size) ∨ W.heap.size ≤ b) d (h + 1) (decide (x.1.2 < ps1.length)) w1 ((ckOf ps1 x).flatMap (·.1)) (.iface 158 (.pointer (some ⟨b5, 0, none⟩))) → Below W.heap.size W w1 → ∀ (g cap : Nat) (w3 : World),
          w3.ownsRow (V.heap.size + 3) 76 1 (.slice (some ⟨g, 0, none⟩) (qs.length + 1) cap) (qs.length + 1) (qs.map (·.1.2) ++ [.iface 158 (.pointer (some ⟨b5, 0, none⟩))]) → (w1.alloc (.cells #[.iface 158 (.pointer (some ⟨b5, 0, none⟩))] 76)).grownBy w3 v.ownBlock → (v.ownBlock = some g ∨ g = (w1.alloc (.cells #[.iface 158 (.pointer (some ⟨b5, 0, none⟩))] 76)).heap.size) → g < w3.heap.size →
          Go.Boxed w3 V.heap.size 148 v ∧ KeepsOthers W (w3.setCell ⟨V.heap.size, 0, none⟩ (.slice (some ⟨g, 0, none⟩) (qs.length + 1) cap)) ∧ KpC V.heap.size (V.heap.size + 1) (V.heap.size + 1 + 1) W (w3.setCell ⟨V.heap.size, 0, none⟩ (.slice (some ⟨g, 0, none⟩) (qs.length + 1) cap)) ∧ GI d (h + 1) (fun x : Ck ps1.length => ((ckOf ps1 x).flatMap (·.1), decide (x.1.2 < ps1.length))) V.heap.size w.heap.size (V.heap.size + 3) V (pre ++ [x]) (w3.setCell ⟨V.heap.size, 0, none⟩ (.slice (some ⟨g, 0, none⟩) (qs.length + 1) cap))) :=
          fun w1 b5 h5 hb5 g cap w3 hown hgrow hg hgl => by
            have h9 : Below w1.heap.size w1 (w1.alloc (.cells #[.iface 158 (.pointer (some ⟨b5, 0, none⟩))] 76)) := ((Grew.refl w1).alloc _).below
            exact GI.step bx lv hq hB (Nat.le_refl _) (by omega) (by omega) (by omega) (by omega) (hb5.trans (h9.mono hb5.size)) (h5.keeps h9) hown hgrow hg hgl
        have HRow : Hid (∀ (w1 : World) (o1 : Obj), Below W.heap.size W w1 → (w1.alloc o1).ownsRow (V.heap.size + 3) 76 1 v qs.length (qs.map (·.1.2)) ∧ V.heap.size + 3 ≤ (w1.alloc o1).heap.size) := fun w1 o1 hb => by
          have h9 := ((Grew.refl w1).alloc o1).below
          exact ⟨lv.row2 (hb.trans (h9.mono hb.size)), by have := lv.2.2.1; have := hb.size; have := h9.size; omega⟩
        have hmx : Tryz.prog.follows .mixedOrders = true := by kernel_rfl
        have hcD : W.drew.cell? ⟨V.heap.size, 0, none⟩ = some v := hc
        have HcA : Hid (∀ (w1 : World), Below W.heap.size W w1 → w1.cell? ⟨V.heap.size, 0, none⟩ = some v) := fun w1 hb => cell_keeps hb hc
        have Hql : Hid (qs.length ≤ 65536) := hql
        clear hq hql lv
        gi_wp2
        refine wpIn_region_any hmx ?_
        change wpAnyIn _ _ _ _ _ _ _ _ _ (World.drew _)
        refine wpAnyIn_ready (rs := [0, 1]) (by kernel_rfl) (by simp) ?_
        refine AllReadyIn.cons rfl (fun K hK => ?_) ?_
        · go_simp
          refine hK _ _ ?_
          clear hK K
          refine wpAnyIn_ready (rs := [1]) (by kernel_rfl) (by simp) ?_
          refine AllReadyIn.cons rfl (fun K hK => ?_) ?_
          · go_simp
            refine hK _ _ ?_
            clear hK K
            refine wpAnyIn_ready (rs := [2]) (by kernel_rfl) (by simp) ?_
            refine AllReadyIn.cons rfl (fun K hK => ?_) ?_
            · go_simp
              refine ⟨trivial, ?_⟩
              refine (CallsIn.inRound lp (callsIn_wide.2 HCl.out)).mono ?_
              rintro e w1 ⟨b5, rfl, h5, hb5⟩
              have hc1 := HcA.out w1 hb5
              have hl1 := cell_lt hc1
              refine hK _ _ ?_
              clear hK K
              refine wpAnyIn_ready (rs := [3]) (by kernel_rfl) (by simp) ?_
              refine AllReadyIn.cons rfl (fun K hK => ?_) ?_
              · go_simp
                refine hK _ _ ?_
                clear hK K
                refine wpAnyIn_ready (rs := [4]) (by kernel_rfl) (by simp) ?_
                refine AllReadyIn.cons rfl (fun K hK => ?_) ?_
                · go_simp
                  refine hK _ _ ?_
                  clear hK K
                  refine wpAnyIn_ready (rs := [5]) (by kernel_rfl) (by simp) ?_
                  refine AllReadyIn.cons rfl (fun K hK => ?_) ?_
                  · refine appIn_step rfl _ _ rfl (V.heap.size + 3) v qs.length (qs.map (·.1.2)) rfl (HRow.out w1 _ hb5).1 _ (.iface 158 (.pointer (some ⟨b5, 0, none⟩))) rfl (by simp) rfl Hql.out (HRow.out w1 _ hb5).2 ?_
                    intro g3 cap3 w3 hown3 hgrow3 hg3 hgl3
                    obtain ⟨hbx3, hko3, hkp3, hgi3⟩ := HStep.out w1 b5 h5 hb5 g3 cap3 w3 hown3 hgrow3 hg3 hgl3
                    have hc3 := hbx3.cell
                    have hf3 := hbx3.frozen
                    refine hK _ _ ?_
                    clear hK K
                    refine wpAnyIn_ready (rs := [6]) (by kernel_rfl) (by simp) ?_
                    refine AllReadyIn.cons rfl (fun K hK => ?_) ?_
                    · go_simp
                      refine hK _ _ ?_
                      clear hK K
                      refine wpAnyIn_done (by kernel_rfl) ?_ _
                      exact ⟨hko3.from _, hkp3, hgi3⟩
                    exact AllReadyIn.nil
                  exact AllReadyIn.nil
                exact AllReadyIn.nil
              exact AllReadyIn.nil
            exact AllReadyIn.nil
          exact AllReadyIn.nil
        refine AllReadyIn.cons rfl (fun K hK => ?_) ?_
        · go_simp
          refine hK _ _ ?_
          clear hK K
          refine wpAnyIn_ready (rs := [0, 2]) (by kernel_rfl) (by simp) ?_
          refine AllReadyIn.cons rfl (fun K hK => ?_) ?_
          · go_simp
            refine hK _ _ ?_
            clear hK K
            refine wpAnyIn_ready (rs := [2]) (by kernel_rfl) (by simp) ?_
            refine AllReadyIn.cons rfl (fun K hK => ?_) ?_
            · go_simp
              refine ⟨trivial, ?_⟩
              refine (CallsIn.inRound lp (callsIn_wide.2 HCl.out)).mono ?_
              rintro e w1 ⟨b5, rfl, h5, hb5⟩
              have hc1 := HcA.out w1 hb5
              have hl1 := cell_lt hc1
              refine hK _ _ ?_
              clear hK K
              refine wpAnyIn_ready (rs := [3]) (by kernel_rfl) (by simp) ?_
              refine AllReadyIn.cons rfl (fun K hK => ?_) ?_
              · go_simp
                refine hK _ _ ?_
                clear hK K
                refine wpAnyIn_ready (rs := [4]) (by kernel_rfl) (by simp) ?_
                refine AllReadyIn.cons rfl (fun K hK => ?_) ?_
                · go_simp
                  refine hK _ _ ?_
                  clear hK K
                  refine wpAnyIn_ready (rs := [5]) (by kernel_rfl) (by simp) ?_
                  refine AllReadyIn.cons rfl (fun K hK => ?_) ?_
                  · refine appIn_step rfl _ _ rfl (V.heap.size + 3) v qs.length (qs.map (·.1.2)) rfl (HRow.out w1 _ hb5).1 _ (.iface 158 (.pointer (some ⟨b5, 0, none⟩))) rfl (by simp) rfl Hql.out (HRow.out w1 _ hb5).2 ?_
                    intro g3 cap3 w3 hown3 hgrow3 hg3 hgl3
                    obtain ⟨hbx3, hko3, hkp3, hgi3⟩ := HStep.out w1 b5 h5 hb5 g3 cap3 w3 hown3 hgrow3 hg3 hgl3
                    have hc3 := hbx3.cell
                    have hf3 := hbx3.frozen
                    refine hK _ _ ?_
                    clear hK K
                    refine wpAnyIn_ready (rs := [6]) (by kernel_rfl) (by simp) ?_
                    refine AllReadyIn.cons rfl (fun K hK => ?_) ?_
                    · go_simp
                      refine hK _ _ ?_
                      clear hK K
                      refine wpAnyIn_done (by kernel_rfl) ?_ _
                      exact ⟨hko3.from _, hkp3, hgi3⟩
                    exact AllReadyIn.nil
                  exact AllReadyIn.nil
                exact AllReadyIn.nil
              exact AllReadyIn.nil
            exact AllReadyIn.nil
          refine AllReadyIn.cons rfl (fun K hK => ?_) ?_
          · go_simp
            refine ⟨trivial, ?_⟩
            refine (CallsIn.inRound lp (callsIn_wide.2 HCl.out)).mono ?_
            rintro e w1 ⟨b5, rfl, h5, hb5⟩
            have hc1 := HcA.out w1 hb5
            have hl1 := cell_lt hc1
            refine hK _ _ ?_
            clear hK K
            refine wpAnyIn_ready (rs := [0, 3]) (by kernel_rfl) (by simp) ?_
            refine AllReadyIn.cons rfl (fun K hK => ?_) ?_
            · go_simp
              refine hK _ _ ?_
              clear hK K
              refine wpAnyIn_ready (rs := [3]) (by kernel_rfl) (by simp) ?_
              refine AllReadyIn.cons rfl (fun K hK => ?_) ?_
              · go_simp
                refine hK _ _ ?_
                clear hK K
                refine wpAnyIn_ready (rs := [4]) (by kernel_rfl) (by simp) ?_
                refine AllReadyIn.cons rfl (fun K hK => ?_) ?_
                · go_simp
                  refine hK _ _ ?_
                  clear hK K
                  refine wpAnyIn_ready (rs := [5]) (by kernel_rfl) (by simp) ?_
                  refine AllReadyIn.cons rfl (fun K hK => ?_) ?_
                  · refine appIn_step rfl _ _ rfl (V.heap.size + 3) v qs.length (qs.map (·.1.2)) rfl (HRow.out w1 _ hb5).1 _ (.iface 158 (.pointer (some ⟨b5, 0, none⟩))) rfl (by simp) rfl Hql.out (HRow.out w1 _ hb5).2 ?_
                    intro g3 cap3 w3 hown3 hgrow3 hg3 hgl3
                    obtain ⟨hbx3, hko3, hkp3, hgi3⟩ := HStep.out w1 b5 h5 hb5 g3 cap3 w3 hown3 hgrow3 hg3 hgl3
                    have hc3 := hbx3.cell
                    have hf3 := hbx3.frozen
                    refine hK _ _ ?_
                    clear hK K
                    refine wpAnyIn_ready (rs := [6]) (by kernel_rfl) (by simp) ?_
                    refine AllReadyIn.cons rfl (fun K hK => ?_) ?_
                    · go_simp
                      refine hK _ _ ?_
                      clear hK K
                      refine wpAnyIn_done (by kernel_rfl) ?_ _
                      exact ⟨hko3.from _, hkp3, hgi3⟩
                    exact AllReadyIn.nil
                  exact AllReadyIn.nil
                exact AllReadyIn.nil
              exact AllReadyIn.nil
            refine AllReadyIn.cons rfl (fun K hK => ?_) ?_
            · go_simp
              refine hK _ _ ?_
              clear hK K
              refine wpAnyIn_ready (rs := [0, 4]) (by kernel_rfl) (by simp) ?_
              refine AllReadyIn.cons rfl (fun K hK => ?_) ?_
              · go_simp
                refine hK _ _ ?_
                clear hK K
                refine wpAnyIn_ready (rs := [4]) (by kernel_rfl) (by simp) ?_
                refine AllReadyIn.cons rfl (fun K hK => ?_) ?_
                · go_simp
                  refine hK _ _ ?_
                  clear hK K
                  refine wpAnyIn_ready (rs := [5]) (by kernel_rfl) (by simp) ?_
                  refine AllReadyIn.cons rfl (fun K hK => ?_) ?_
                  · refine appIn_step rfl _ _ rfl (V.heap.size + 3) v qs.length (qs.map (·.1.2)) rfl (HRow.out w1 _ hb5).1 _ (.iface 158 (.pointer (some ⟨b5, 0, none⟩))) rfl (by simp) rfl Hql.out (HRow.out w1 _ hb5).2 ?_
                    intro g3 cap3 w3 hown3 hgrow3 hg3 hgl3
                    obtain ⟨hbx3, hko3, hkp3, hgi3⟩ := HStep.out w1 b5 h5 hb5 g3 cap3 w3 hown3 hgrow3 hg3 hgl3
                    have hc3 := hbx3.cell
                    have hf3 := hbx3.frozen
                    refine hK _ _ ?_
                    clear hK K
                    refine wpAnyIn_ready (rs := [6]) (by kernel_rfl) (by simp) ?_
                    refine AllReadyIn.cons rfl (fun K hK => ?_) ?_
                    · go_simp
                      refine hK _ _ ?_
                      clear hK K
                      refine wpAnyIn_done (by kernel_rfl) ?_ _
                      exact ⟨hko3.from _, hkp3, hgi3⟩
                    exact AllReadyIn.nil
                  exact AllReadyIn.nil
                exact AllReadyIn.nil
              refine AllReadyIn.cons rfl (fun K hK => ?_) ?_
              · go_simp
                refine hK _ _ ?_
                clear hK K
                refine wpAnyIn_ready (rs := [0]) (by kernel_rfl) (by simp) ?_
                refine AllReadyIn.cons rfl (fun K hK => ?_) ?_
                · go_simp
                  refine hK _ _ ?_
                  clear hK K
                  refine wpAnyIn_ready (rs := [5]) (by kernel_rfl) (by simp) ?_
                  refine AllReadyIn.cons rfl (fun K hK => ?_) ?_
                  · refine appIn_step rfl _ _ rfl (V.heap.size + 3) v qs.length (qs.map (·.1.2)) rfl (HRow.out w1 _ hb5).1 _ (.iface 158 (.pointer (some ⟨b5, 0, none⟩))) rfl (by simp) rfl Hql.out (HRow.out w1 _ hb5).2 ?_
                    intro g3 cap3 w3 hown3 hgrow3 hg3 hgl3
                    obtain ⟨hbx3, hko3, hkp3, hgi3⟩ := HStep.out w1 b5 h5 hb5 g3 cap3 w3 hown3 hgrow3 hg3 hgl3
                    have hc3 := hbx3.cell
                    have hf3 := hbx3.frozen
                    refine hK _ _ ?_
                    clear hK K
                    refine wpAnyIn_ready (rs := [6]) (by kernel_rfl) (by simp) ?_
                    refine AllReadyIn.cons rfl (fun K hK => ?_) ?_
                    · go_simp
                      refine hK _ _ ?_
                      clear hK K
                      refine wpAnyIn_done (by kernel_rfl) ?_ _
                      exact ⟨hko3.from _, hkp3, hgi3⟩
                    exact AllReadyIn.nil
                  exact AllReadyIn.nil
                exact AllReadyIn.nil
              exact AllReadyIn.nil
            exact AllReadyIn.nil
          exact AllReadyIn.nil
        exact AllReadyIn.nil
      case done2 =>
        rintro D ys W hD rfl ⟨⟨v, qs, bx, lv, hq⟩, hB⟩ hK
        obtain ⟨lo2, hlt2, hbx2⟩ := LevO.next Hlo1.out hN1 hB lv hq
        obtain ⟨a3, c3, hv3, _, _⟩ := lv.keep.1
        rw [List.length_map] at hv3
        have hc := bx.cell
        rw [hv3] at hc lo2
        have hc0 := hbx2.cell
        have hf0 := hbx2.frozen
        have hmk : Marks w.heap.size W (D :: ds) := (HM1.out.keeps hB).cons (by have := hB1.size; simp at hD; omega) hK (fun hm => by have := HM1.out.lt D hm; simp at hD; omega)
        have Hlo2 : Hid (LevO d l w.heap.size (W.setCell ⟨w.heap.size, 0, none⟩ (.slice a3 qs.length c3)) (.slice a3 qs.length c3) (qs.map (·.1)) (h + 1)) := lo2
        have Hlt2 : Hid ((qs.map (·.1)).length < ps1.length) := hlt2
        clear lo2 hlt2 hq lv bx hbx2 hv3 hK hD bO bS bN hB0
        gi_wp2
        refine ⟨(qs.map (·.1)).length, by rw [Hn1.out]; exact Hlt2.out, _, _, _, _, _, _, _, D :: ds, _, _, h + 1, rfl, hmk.others (KeepsOthers.setCell _ _ _), Hlo2.out, rfl, ?_⟩
        exact (hB1.trans (hB.mono hB1.size)).trans ((Below.refl _ _).setCell (p := ⟨w.heap.size, 0, none⟩) (Nat.le_refl _) _)
      case stop2 =>
        rintro D c pre W _ _ h _
        exact h.elim
    · have hNi : ¬ (1 : Int) < (ps1.length : Nat) := by omega
      have hp1 : ps1.length = 1 := by have := lo1.pos; omega
      have hy := hgs1 0 (by rw [List.length_map]; omega)
      rw [List.getElem_map] at hy
      obtain ⟨y, hy1⟩ : ∃ y, y = (ps1[0]'(by omega)).2 := ⟨_, rfl⟩
      rw [← hy1] at hy
      have ht : TN d V l y := by
        refine ⟨h, ?_, lo1.high⟩
        have h1 := (lo1.nd 0 (by omega)).nd _ _ _ _
        rw [← hy1, decide_eq_false (by omega)] at h1
        have e : l = (ps1[0]'(by omega)).1 := by
          rw [← lo1.flat]
          match ps1, hp1 with
          | [p], _ => simp
        rw [e]
        exact h1
      rw [Nat.add_zero] at hy
      rw [hp1] at hc1
      have HT : Hid (TN d V l y ∧ Below w.heap.size w V) := ⟨ht, hB1⟩
      have HM1 : Hid (Marks w.heap.size V ds) := hM1
      clear hy1 ht lo1 hM1 hgs1 hv1 hNi hN1 hp1 hgc1 hB1
      gi_wp2
      refine leaves_marks w.heap.size (fun W => TN d W l y ∧ Below w.heap.size w W) (fun W D hD hK hT => ⟨?_, hT.2.trans (belowK_b (w := w) (Nat.le_refl _) W D _ _ hD hK rfl rfl)⟩) (fun W hT => ⟨_, results_tmp rfl _ _ _, ⟨_, rfl, .inr hT.1, hT.2⟩⟩) ds V HM1.out HT.out
      obtain ⟨h9, hn9, hh9⟩ := hT.1
      exact ⟨h9, ((hn9.toX _ _ _ _).stays (fun b h => h) (fun a u _ hu => cell_turns hK rfl _ a u hu) _ _ _ _).nd _ _ _ _, hh9⟩
  case stop =>
    rintro D c pre W _ _ h _
    exact h.elim

end Go.Proofs.YtekoaiehhjgfiaaGreat

