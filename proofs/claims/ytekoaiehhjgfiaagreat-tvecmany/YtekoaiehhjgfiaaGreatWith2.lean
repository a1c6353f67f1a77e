/-
  The contract of with.
-/
import Derived.Test.YtekoaiehhjgfiaaGreatWith
namespace Go.Proofs.YtekoaiehhjgfiaaGreat
open Go.RowKit

theorem flat_set (ps : List Part) (k q : Nat) (x : VT) (v : Value) (hk : k < ps.length) (hq : q < (ps[k]'hk).1.length) : (ps.set k ((ps[k]'hk).1.set q x, v)).flatMap (·.1) = (ps.flatMap (·.1)).set (((lensP ps).take k).sum + q) x := by
  induction ps generalizing k with
  | nil => cases hk
  | cons p ps ih =>
    cases k with
    | zero =>
      simp only [List.getElem_cons_zero] at hq
      simp only [List.set_cons_zero, List.flatMap_cons, List.getElem_cons_zero, List.take_zero, List.sum_nil, Nat.zero_add]
      rw [List.set_append_left _ _ hq]
    | succ k =>
      have hk' : k < ps.length := by simpa using hk
      have := ih k hk' (by simpa using hq)
      have e : ((lensP (p :: ps)).take (k + 1)).sum = p.1.length + ((lensP ps).take k).sum := by simp [lensP]
      simp only [List.set_cons_succ, List.flatMap_cons, List.getElem_cons_succ] at this ⊢
      rw [this, e, List.set_append_right _ _ (by omega), show p.1.length + ((lensP ps).take k).sum + q - p.1.length = ((lensP ps).take k).sum + q by omega]

theorem ends_set (ps : List Part) (k : Nat) (p : Part) (hk : k < ps.length) (hl : p.1.length = (ps[k]'hk).1.length) : ends (ps.set k p) = ends ps := by
  unfold ends
  have : (ps.set k p).map (fun p => p.1.length) = ps.map (fun p => p.1.length) := by
    rw [List.map_set]
    refine List.ext_getElem (by simp) (fun i h1 h2 => ?_)
    rw [List.getElem_set]
    split
    · rename_i e; subst e; simp [hl]
    · rfl
  rw [this]

/-- A node is told. -/
def NodePost (d h : Nat) (k : Bool) (l : List VT) (W : World) (e : Ending) (w' : World) : Prop := ∃ T p, e = .returned (.iface T p) ∧ ND d h k w' l (.iface T p) ∧ Below W.heap.size W w'

set_option maxRecDepth 100000 in
set_option maxHeartbeats 16000000 in
theorem with_any (d : Nat) : ∀ (h : Nat) (k : Bool) (l : List VT) (v : Value) (i : Nat) (x : VT) (ax : Option Addr) (cx : Nat) (W : World), ND d h k W l v → i < l.length → l.length ≤ 1099511627776 → Lies d W x.items (.slice ax x.items.length cx) → x.text.size ≤ 9223372036854775807 →
    Calls Tryz.prog 141 #[v, .int .i64 (i : Int), .agg #[.int .i64 x.kind, .int .i64 x.num, .string x.text, .slice ax x.items.length cx]] W (NodePost d h k (l.set i x) W) := by
  intro h
  induction h with
  | zero =>
    intro k l v i x ax cx W hn hil _ hx hts
    obtain ⟨b, a, c, rfl, hc, hl, h1, h2, h3⟩ := hn
    have hb0 : Below W.heap.size W (W.alloc (.cells #[.int .i64 x.kind, .int .i64 x.num, .string x.text, .slice ax x.items.length cx] 34)) := ((Grew.refl W).alloc _).below
    have HP : Hid (∀ V, Below W.heap.size W V → Calls Tryz.prog 183 #[.slice a l.length c, .int .i64 (i : Int), .agg #[.int .i64 x.kind, .int .i64 x.num, .string x.text, .slice ax x.items.length cx]] V fun e w' => ∃ v, e = .returned v ∧ Lies (d + 1) w' (l.set i x) v ∧ Below V.heap.size V w') := fun V hV => putV_any d l _ i x ax cx V (Lies.keeps hV _ _ _ hl) hil (by omega) (Lies.keeps hV _ _ _ hx) hts
    have H3 : Hid (1 ≤ l.length ∧ l.length ≤ 32 ∧ (k = true → 16 ≤ l.length)) := ⟨h1, h2, h3⟩
    obtain ⟨x0, x1, x2, x3, _, _, _, _⟩ := bx_alloc W x (.slice ax x.items.length cx)
    have hcW := cell_keeps hb0 hc
    have hbl : b < W.heap.size := cell_lt hc
    have hnb : ¬ (b = W.heap.size) := by omega
    have ta := as_LL
    have Hlen : Hid ((l.set i x).length = l.length) := List.length_set ..
    have Hb0 : Hid (Below W.heap.size W (W.alloc (.cells #[.int .i64 x.kind, .int .i64 x.num, .string x.text, .slice ax x.items.length cx] 34))) := hb0
    clear hl hx hts h1 h2 h3 hil hb0
    generalize l.set i x = m at *
    generalize hL : l.length = L at *
    clear hL
    go_enter Tryz.func141, Tryz.ntmps141
    go_wp2_with fail
    go_region_held3 (fun w' => (w'.cell? ⟨b, 0, none⟩ = some (.slice a L c)) ∧ (w'.cell? ⟨W.heap.size, 0, none⟩ = some (.int .i64 x.kind) ∧ w'.cell? ⟨W.heap.size, 1, none⟩ = some (.int .i64 x.num) ∧ w'.cell? ⟨W.heap.size, 2, none⟩ = some (.string x.text) ∧ w'.cell? ⟨W.heap.size, 3, none⟩ = some (.slice ax x.items.length cx))) (go_keep)
      (first | (go_at_call 183; refine (HP.out _ Hb0.out.drew).mono ?_; rintro e w1 ⟨v1, rfl, hL1, hg1⟩; have hbA : Below (W.alloc (.cells #[.int .i64 x.kind, .int .i64 x.num, .string x.text, .slice ax x.items.length cx] 34)).heap.size (W.alloc (.cells #[.int .i64 x.kind, .int .i64 x.num, .string x.text, .slice ax x.items.length cx] 34)) w1 := (Below.refl _ _).drew.trans hg1; clear hg1; have HL1 : Hid (Lies (d + 1) w1 m v1) := hL1; clear hL1; obtain ⟨a1, c1, rfl, _⟩ := Lies.slice HL1.out; have hcW := cell_keeps hbA hcW; have x0 := cell_keeps hbA x0; have x1 := cell_keeps hbA x1; have x2 := cell_keeps hbA x2; have x3 := cell_keeps hbA x3))
    have hb1 : Below W.heap.size W w1 := Hb0.out.trans (hbA.mono Hb0.out.size)
    have HE : Hid (NodePost d 0 k m W (.returned (.iface 152 (.pointer (some ⟨w1.heap.size, 0, none⟩)))) (w1.alloc (.cells #[.slice a1 m.length c1] 154))) := by
      have hba : Below w1.heap.size w1 (w1.alloc (.cells #[.slice a1 m.length c1] 154)) := ((Grew.refl w1).alloc _).below
      have hl := Hlen.out
      have h3 := H3.out
      exact ⟨_, _, rfl, ⟨w1.heap.size, a1, c1, rfl, by simp, Lies.keeps hba _ _ _ HL1.out, by omega, by omega, fun hk => by have := h3.2.2 hk; omega⟩, hb1.trans (hba.mono hb1.size)⟩
    clear x0 x1 x2 x3 hcW HP
    go_wp2_with fail
    go_ret
    exact HE.out
  | succ h ih =>
    intro k l v i x ax cx W hn hil hbig hx hts
    obtain ⟨b, sl, el, ps, rfl, hc0, hc1, hs, he, h1, h2, h3, hl, hp⟩ := hn
    subst hl
    obtain ⟨g, o, c, hsl, hcap, hcs⟩ := hs.full (fun e => by have := congrArg List.length e; rw [List.length_map, List.length_nil] at this; omega)
    subst hsl
    rw [List.length_map] at hc0 hcap
    have hel := he.slice
    obtain ⟨ae, ce, hev, _⟩ := hel
    have hb0 : Below W.heap.size W (W.alloc (.cells #[.int .i64 x.kind, .int .i64 x.num, .string x.text, .slice ax x.items.length cx] 34)) := ((Grew.refl W).alloc _).below
    have HFi : Hid (∀ V, Below W.heap.size W V → Calls Tryz.prog 184 #[.pointer (some ⟨b, 0, none⟩), .int .i64 (i : Int)] V (FindPost ps i V)) := fun V hV => find_any ps b el i V (cell_keeps hV hc1) (he.keeps hV) hil h2 hbig
    have HIt : Hid (∀ (kk q : Nat), InPart ps i kk q → ∃ vk m, W.cell? ⟨g, o + kk, none⟩ = some vk ∧ (∀ V, Below W.heap.size W V → Calls Tryz.prog 141 #[vk, .int .i64 (q : Int), .agg #[.int .i64 x.kind, .int .i64 x.num, .string x.text, .slice ax x.items.length cx]] V (NodePost d h (k || decide (kk + 1 < ps.length)) m V)) ∧
        (∀ T p V, Below W.heap.size W V → ∃ m2, m2 = (ps.map (·.2)).set kk (.iface T p) ∧ Calls Tryz.prog 185 #[.slice (some ⟨g, o, none⟩) ps.length c, .int .i64 (kk : Int), .iface T p] V fun e w' => ∃ v, e = .returned v ∧ SlV w' m2 v ∧ Below V.heap.size V w') ∧
        (∀ T p V bb sv, Below W.heap.size W V → ND d h (k || decide (kk + 1 < ps.length)) V m (.iface T p) → V.cell? ⟨bb, 0, none⟩ = some sv → V.cell? ⟨bb, 1, none⟩ = some el → SlV V ((ps.map (·.2)).set kk (.iface T p)) sv → ND d (h + 1) k V ((ps.flatMap (·.1)).set i x) (.iface 158 (.pointer (some ⟨bb, 0, none⟩))))) := fun kk q hin => by
      have hlt := hin.lt
      have hinn := hin.inn
      refine ⟨(ps[kk]'hlt).2, (ps[kk]'hlt).1.set q x, ?_, fun V hV => ih _ _ _ q x ax cx V ((hp kk hlt).keeps hV _ _ _ _) hinn ?_ (Lies.keeps hV _ _ _ hx) hts, fun T p V hV => ⟨_, rfl, ?_⟩, fun T p V bb sv hV hnd hcc0 hcc1 hsv => ?_⟩
      · have := hcs kk (by rw [List.length_map]; exact hlt)
        rwa [List.getElem_map] at this
      · have := sum_mem_le (lensP ps) (ps[kk]'hlt).1.length (List.mem_map.2 ⟨_, List.getElem_mem _, rfl⟩)
        rw [flat_sum] at hbig
        have h9 : (lensP ps).sum = (ps.map fun p => p.1.length).sum := rfl
        omega
      · have h8 := putN_any (ps.map (·.2)) (.slice (some ⟨g, o, none⟩) ps.length c) kk (.iface T p) T p rfl V (by have := hs.keeps hV; rwa [List.length_map] at this) (fun u hu => by
          obtain ⟨r, hr, rfl⟩ := List.mem_map.1 hu
          obtain ⟨j, hj, rfl⟩ := List.getElem_of_mem hr
          exact nd_one (hp j hj)) (by rw [List.length_map]; exact hlt) (by rw [List.length_map]; omega)
        exact h8
      · have e1 : (ps.flatMap (·.1)).set i x = (ps.set kk ((ps[kk]'hlt).1.set q x, .iface T p)).flatMap (·.1) := by rw [flat_set ps kk q x _ hlt hinn, ← hin.eq]
        have e2 : (ps.set kk ((ps[kk]'hlt).1.set q x, .iface T p)).map (·.2) = (ps.map (·.2)).set kk (.iface T p) := by rw [List.map_set]
        have e3 := ends_set ps kk ((ps[kk]'hlt).1.set q x, .iface T p) hlt (by simp)
        rw [e1]
        refine ⟨bb, sv, el, ps.set kk ((ps[kk]'hlt).1.set q x, .iface T p), rfl, hcc0, hcc1, by rw [e2]; exact hsv, by rw [e3]; exact he.keeps hV, by rw [List.length_set]; exact h1, by rw [List.length_set]; exact h2, by rw [List.length_set]; exact h3, rfl, fun j hj => ?_⟩
        rw [List.length_set] at hj
        rw [List.length_set]
        by_cases e : j = kk
        · subst e
          rw [List.getElem_set_self]
          exact hnd
        · rw [List.getElem_set_ne (Ne.symm e)]
          exact (hp j hj).keeps hV _ _ _ _
    obtain ⟨x0, x1, x2, x3, _, _, _, _⟩ := bx_alloc W x (.slice ax x.items.length cx)
    have hbl : b < W.heap.size := cell_lt hc0
    have hnb : ¬ (b = W.heap.size) := by omega
    have Hc0 : Hid (W.cell? ⟨b, 0, none⟩ = some (.slice (some ⟨g, o, none⟩) ps.length c)) := hc0
    have Hc1 : Hid (W.cell? ⟨b, 1, none⟩ = some el) := hc1
    have ta := as_BL
    have tb := as_B
    have Hb0 : Hid (Below W.heap.size W (W.alloc (.cells #[.int .i64 x.kind, .int .i64 x.num, .string x.text, .slice ax x.items.length cx] 34))) := hb0
    have HXb : Hid (((W.alloc (.cells #[.int .i64 x.kind, .int .i64 x.num, .string x.text, .slice ax x.items.length cx] 34)).cell? ⟨W.heap.size, 0, none⟩ = some (.int .i64 x.kind)) ∧ ((W.alloc (.cells #[.int .i64 x.kind, .int .i64 x.num, .string x.text, .slice ax x.items.length cx] 34)).cell? ⟨W.heap.size, 1, none⟩ = some (.int .i64 x.num)) ∧ ((W.alloc (.cells #[.int .i64 x.kind, .int .i64 x.num, .string x.text, .slice ax x.items.length cx] 34)).cell? ⟨W.heap.size, 2, none⟩ = some (.string x.text)) ∧ ((W.alloc (.cells #[.int .i64 x.kind, .int .i64 x.num, .string x.text, .slice ax x.items.length cx] 34)).cell? ⟨W.heap.size, 3, none⟩ = some (.slice ax x.items.length cx))) := ⟨x0, x1, x2, x3⟩
    clear ih hp hcs hs he hc1 hc0 hx hil hbig hcap hts hb0 x0 x1 x2 x3
    generalize (ps.flatMap (·.1)).set i x = R at *
    go_enter Tryz.func141, Tryz.ntmps141
    go_wp2_with fail
    refine (HFi.out _ Hb0.out).mono ?_
    rintro e w1 ⟨kk, q, rfl, hin, hg1⟩
    have hb1 : Below W.heap.size W w1 := Hb0.out.trans (hg1.mono Hb0.out.size)
    obtain ⟨x0, x1, x2, x3⟩ := HXb.out
    have x0 := cell_keeps hg1 x0
    have x1 := cell_keeps hg1 x1
    have x2 := cell_keeps hg1 x2
    have x3 := cell_keeps hg1 x3
    obtain ⟨vk, m, hck, hw, hpu, hfin⟩ := HIt.out kk q hin
    have pk := cell_keeps hb1 hck
    have p0 := cell_keeps hb1 Hc0.out
    have p1 := cell_keeps hb1 Hc1.out
    have hkl : kk < ps.length := hin.lt
    have hki : (kk : Int) < (ps.length : Nat) := by omega
    have Hw : Hid _ := hw
    have Hpu : Hid _ := hpu
    have Hfin : Hid _ := hfin
    clear hg1 HFi HIt hw hpu hfin hck Hc0 Hc1 HXb
    clear hin
    generalize hLg : ps.length = L at *
    clear hLg h1 h2 h3
    subst hev
    generalize (ends ps).length = Le at *
    go_wp2_with fail
    go_region_held3 (fun w' => (w'.cell? ⟨b, 0, none⟩ = some (.slice (some ⟨g, o, none⟩) L c)) ∧ (w'.cell? ⟨b, 1, none⟩ = some (.slice ae Le ce)) ∧ (w'.cell? ⟨g, o + kk, none⟩ = some vk) ∧ (w'.cell? ⟨W.heap.size, 0, none⟩ = some (.int .i64 x.kind) ∧ w'.cell? ⟨W.heap.size, 1, none⟩ = some (.int .i64 x.num) ∧ w'.cell? ⟨W.heap.size, 2, none⟩ = some (.string x.text) ∧ w'.cell? ⟨W.heap.size, 3, none⟩ = some (.slice ax x.items.length cx))) (go_keep)
      (first
        | (go_at_call 141; refine (Hw.out _ hb1.drew).mono ?_; rintro e w2 ⟨T, p, rfl, hnd, hg2⟩; have hbA : Below w1.heap.size w1 w2 := (Below.refl _ _).drew.trans hg2; clear hg2; have HNd : Hid (ND d h (k || decide (kk + 1 < L)) w2 m (.iface T p)) := hnd; clear hnd; have hb2 : Below W.heap.size W w2 := hb1.trans (hbA.mono hb1.size); obtain ⟨m2, hm2, hpc⟩ := Hpu.out T p w2 hb2; have Hpc : Hid _ := hpc; have Hm2 : Hid _ := hm2; clear hpc hm2; have p0 := cell_keeps hbA p0; have p1 := cell_keeps hbA p1; have pk := cell_keeps hbA pk; have x0 := cell_keeps hbA x0; have x1 := cell_keeps hbA x1; have x2 := cell_keeps hbA x2; have x3 := cell_keeps hbA x3)
        | (go_at_call 185; refine Calls.mono Hpc.out ?_; rintro e w3 ⟨sv, rfl, hsv, hbB⟩; have HSv : Hid (SlV w3 m2 sv) := hsv; clear hsv; obtain ⟨a3, c3, rfl, _⟩ := SlV.slice HSv.out; have p0 := cell_keeps hbB p0; have p1 := cell_keeps hbB p1; have pk := cell_keeps hbB pk; have x0 := cell_keeps hbB x0; have x1 := cell_keeps hbB x1; have x2 := cell_keeps hbB x2; have x3 := cell_keeps hbB x3))
    have hb3 : Below W.heap.size W w3 := hb2.trans (hbB.mono hb2.size)
    have HE : Hid (NodePost d (h + 1) k R W (.returned (.iface 158 (.pointer (some ⟨w3.heap.size, 0, none⟩)))) (w3.alloc (.cells #[.slice a3 m2.length c3, .slice ae Le ce] 205))) := by
      have hba : Below w3.heap.size w3 (w3.alloc (.cells #[.slice a3 m2.length c3, .slice ae Le ce] 205)) := ((Grew.refl w3).alloc _).below
      have hb4 := hb3.trans (hba.mono hb3.size)
      refine ⟨_, _, rfl, Hfin.out T p _ w3.heap.size (.slice a3 m2.length c3) hb4 ((HNd.out.keeps hbB _ _ _ _).keeps hba _ _ _ _) (by simp) (by simp) ?_, hb4⟩
      have := HSv.out.keeps hba
      rwa [Hm2.out] at this ⊢
    clear x0 x1 x2 x3 p0 p1 pk Hw Hpu Hfin Hpc
    go_wp2_with fail
    go_ret
    exact HE.out

end Go.Proofs.YtekoaiehhjgfiaaGreat

