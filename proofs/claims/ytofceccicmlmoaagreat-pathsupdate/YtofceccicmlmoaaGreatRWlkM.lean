/-
  walked: a value with what a function makes of each leaf, of the document.
-/
import Derived.Test.YtofceccicmlmoaaGreatRWlkP
import Derived.Test.YtofceccicmlmoaaGreatRTimes
import Derived.Test.YtofceccicmlmoaaGreatRPutM
import Derived.Deep.RegionHeld3
import Derived.Deep.LoopGhost
namespace Go.Proofs.YtofceccicmlmoaaGreat
open Go.RowKit Go.Shelf

def RWkC (q d : Nat) : Prop := ∀ (X : Nat → Prop) (t : VT) (a : Option Addr) (c : Nat) (w : World), (∀ b, X b → b < w.heap.size) → LiesX X 16 w t.items (.slice a t.items.length c) → rightV 16 t = true → Dp d t → Calls Tryz.prog 24 #[.agg #[.int .i64 t.kind, .int .i64 t.num, .string t.text, .slice a t.items.length c], .int .i64 (q : Int)] w (NewW X (16 + d) (walkT (doneT q) d t) w)

theorem lit_src (W : World) (z : VT) (u : Value) : ∀ j v, (encP (z, u))[j]? = some v → (W.alloc (.cells #[.int .i64 z.kind, .int .i64 z.num, .string z.text, u] 24)).cell? ((⟨W.heap.size, 0, none⟩ : Addr).add j) = some v := by
  intro j v hj
  match j, hj with
  | 0, hj => simp [encP] at hj; subst hj; simp [Addr.add]
  | 1, hj => simp [encP] at hj; subst hj; simp [Addr.add]
  | 2, hj => simp [encP] at hj; subst hj; simp [Addr.add]
  | 3, hj => simp [encP] at hj; subst hj; simp [Addr.add]
  | j + 4, hj => simp [encP] at hj

theorem lit_one (z : VT) (a : Option Addr) (l c : Nat) : ∀ u ∈ encP (z, Value.slice a l c), u.oneCell' = true := by
  intro u hu
  simp only [encP, List.mem_cons, List.not_mem_nil, or_false] at hu
  rcases hu with rfl | rfl | rfl | rfl <;> rfl

/-- What lay there before the loop lies there behind an append. -/
theorem RkI.cell7 {X : Nat → Prop} {V : World} {n3 D : Nat} {f : VT → VT} {t : VT} {ps : List PR} {v : Value} {j : Nat} {wr W6 w7 : World} (h : RkI X V n3 D f t ps v j wr) (hb : Below wr.heap.size wr W6) (hgr : W6.grownBy w7 v.ownBlock) {ad : Addr} {u : Value} (hl : ad.block < V.heap.size) (hu : wr.cell? ad = some u) : w7.cell? ad = some u := by
  have h1 : W6.cell? ad = some u := cell_keeps hb hu
  exact grown_cell26 hgr h1 (fun e => by
    obtain ⟨_, _, _, _, k9⟩ := own_slice26 h.own
    have := (k9 _ e.symm).1
    omega)

theorem RkI.box7 {X : Nat → Prop} {V : World} {n3 D : Nat} {f : VT → VT} {t : VT} {ps : List PR} {v : Value} {j : Nat} {wr W6 w7 : World} (h : RkI X V n3 D f t ps v j wr) (hn : n3 < V.heap.size) (hb : Below wr.heap.size wr W6) (hgr : W6.grownBy w7 v.ownBlock) : Bx w7 n3 ⟨t.kind, 0, ⟨#[]⟩, []⟩ v :=
  grown_bx26 hgr (fun e => by
    obtain ⟨_, _, _, _, k9⟩ := own_slice26 h.own
    have := (k9 _ e.symm).1
    omega) (h.box.keeps hb)

set_option maxRecDepth 100000 in
set_option maxHeartbeats 8000000 in
theorem rwalk_leaf (q : Nat) (hq : q < 8) (D : Nat) (hD : 16 ≤ D) (X : Nat → Prop) (t : VT) (a : Option Addr) (c : Nat) (w : World) (hX : ∀ b, X b → b < w.heap.size) (h : LiesX X 16 w t.items (.slice a t.items.length c)) (hr : rightV 16 t = true) (hlf : leafT t = true) :
    Calls Tryz.prog 24 #[.agg #[.int .i64 t.kind, .int .i64 t.num, .string t.text, .slice a t.items.length c], .int .i64 (q : Int)] w (NewW X D (doneT q t) w) := by
  have HT : Hid (Bx (at2 w t (.slice a t.items.length c)) w.heap.size t (.slice a t.items.length c)) := at2_fst _ _ _
  have HR : Hid (Bx (at2 w t (.slice a t.items.length c)) (w.heap.size + 1) zeroT (.slice none 0 0)) := at2_snd _ _ _
  have hb0 := at2_below w t (.slice a t.items.length c)
  obtain ⟨W0, hW0⟩ : ∃ W0, W0 = at2 w t (.slice a t.items.length c) := ⟨_, rfl⟩
  have HW0 : Hid (W0 = at2 w t (.slice a t.items.length c)) := hW0
  have hs0 : W0.heap.size = w.heap.size + 2 := by rw [hW0]; unfold at2; simp
  rw [← hW0] at HT HR hb0
  clear hW0
  unfold at2 at HW0
  have HDn : Hid (Calls Tryz.prog 21 #[.int .i64 (q : Int), .agg #[.int .i64 t.kind, .int .i64 t.num, .string t.text, .slice a t.items.length c]] W0 (FnPost X (doneT q t) W0)) := rdone_any X q hq t _ W0 (h.keeps hb0) hr
  generalize doneT q t = z at *
  have HE : Hid (∀ W a' c', Below W0.heap.size W0 W → LiesX (fun b => X b ∨ W0.heap.size ≤ b) 16 W z.items (.slice a' z.items.length c') → NewW X D z w (.returned (.agg #[.int .i64 z.kind, .int .i64 z.num, .string z.text, .slice a' z.items.length c'])) (W.setCells (w.heap.size + 1) 0 (encP (z, .slice a' z.items.length c')))) := fun W a' c' h1 h2 =>
    ⟨a', c', rfl, (LiesX.mono (fun b hb => hb.imp id (fun hb => by omega)) (LiesX.set (g := w.heap.size + 1) (fun hb => by
      rcases hb with hb | hb
      · have := hX _ hb; omega
      · omega) h2)).atLeast D hD, below_put (hb0.trans (h1.mono hb0.size)) (by omega) _⟩
  generalize NewW X D z w = PP at *
  have hlb : ((t.kind != 4) && (t.kind != 6) || ((t.items.length : Int) == 0)) = true := by
    have e0 : t.items.isEmpty = ((t.items.length : Int) == 0) := by cases t.items with
      | nil => rfl
      | cons x l => simp; omega
    rw [← e0]
    unfold leafT at hlf
    cases h6 : (t.kind == 6) <;> cases h4 : (t.kind == 4) <;> rw [h6, h4] at hlf <;> simp_all [bne]
  clear h hr hlf hD hX hs0
  generalize t.items.length = lt at *
  obtain ⟨t0, t1, t2, t3, _, _, _, _⟩ := HT.out
  cases hb4 : (t.kind != 4) <;> cases hb6 : (t.kind != 6) <;> cases hbz : ((lt : Int) == 0)
  all_goals first
    | (exfalso; rw [hb4, hb6, hbz] at hlb; cases hlb; done)
    | (clear hlb
       go_enter Tryz.func24, Tryz.ntmps24
       go_upto_region 1 with fail
       rw [← HW0.out]
       clear HW0
       go_wp2_with fail
       refine Calls.mono HDn.out ?_
       rintro e w1 ⟨u1, rfl, hl1, hb1⟩
       obtain ⟨a1, c1, rfl, _⟩ := LiesX.slice hl1
       have HE1 : Hid (PP (.returned (.agg #[.int .i64 z.kind, .int .i64 z.num, .string z.text, .slice a1 z.items.length c1])) (w1.setCells (w.heap.size + 1) 0 (encP (z, .slice a1 z.items.length c1)))) := HE.out w1 a1 c1 hb1 hl1
       have HR1 : Hid (Bx w1 (w.heap.size + 1) zeroT (.slice none 0 0)) := HR.out.keeps hb1
       have Hq : Hid (Bx (w1.setCells (w.heap.size + 1) 0 (encP (z, .slice a1 z.items.length c1))) (w.heap.size + 1) z (.slice a1 z.items.length c1)) := HR1.out.put (z, .slice a1 z.items.length c1)
       obtain ⟨z0, z1, z2, z3, g0, g1, g2, g3⟩ := HR1.out
       clear hl1 hb1 HE HDn HT HR HR1 hb0 t0 t1 t2 t3 hb4 hb6 hbz
       generalize z.items.length = lz at *
       go_wp2_with fail
       refine bodyPost_ret (v := .agg #[.int .i64 z.kind, .int .i64 z.num, .string z.text, .slice a1 lz c1]) ?_ rfl HE1.out
       obtain ⟨q0, q1, q2, q3, _, _, _, _⟩ := Hq.out
       simp only [World.setCells, encP, Nat.zero_add, Nat.reduceAdd] at q0 q1 q2 q3
       simp [results, Tryz.results24, go_sem, q0, q1, q2, q3])

/-- The loads of the result's list in the two regions that also store it, by names of their own. -/
def ldOutA : Oper := { dst := some 43, op := Go.Op.load 22 (Go.Operand.tmp 42), type := 22, pos := "ref.go:289", after := #[{ on := 0, ground := Go.Ground.data }], guard := none }
def ldOutB : Oper := { dst := some 53, op := Go.Op.load 22 (Go.Operand.tmp 52), type := 22, pos := "ref.go:291", after := #[{ on := 0, ground := Go.Ground.data }], guard := none }
attribute [local go_sem] ldOutA
attribute [local go_sem] ldOutB
theorem ldOutA_eq : ldOutA = { dst := some 43, op := Go.Op.load 22 (Go.Operand.tmp 42), type := 22, pos := "ref.go:289", after := #[{ on := 0, ground := Go.Ground.data }], guard := none } := rfl
theorem ldOutB_eq : ldOutB = { dst := some 53, op := Go.Op.load 22 (Go.Operand.tmp 52), type := 22, pos := "ref.go:291", after := #[{ on := 0, ground := Go.Ground.data }], guard := none } := rfl

set_option maxRecDepth 100000 in
set_option maxHeartbeats 8000000 in
theorem rwalk_4 (q d : Nat) (hd16 : d + 1 ≤ 16) (ih : Hid (RWkC q d)) (X : Nat → Prop) (t : VT) (a : Option Addr) (c : Nat) (w : World) (hX : ∀ b, X b → b < w.heap.size) (h : LiesX X 16 w t.items (.slice a t.items.length c)) (hr : rightV 16 t = true) (hd : Dp (d + 1) t) (hne : t.items ≠ []) (hk : t.kind = 4) :
    Calls Tryz.prog 24 #[.agg #[.int .i64 t.kind, .int .i64 t.num, .string t.text, .slice a t.items.length c], .int .i64 (q : Int)] w (NewW X (16 + (d + 1)) ⟨t.kind, t.num, t.text, wlkG (walkT (doneT q) d) t.kind t.items (cntN t)⟩ w) := by
  have hdt : Dp 16 t := hd.mono hd16
  have hlen := right_len hr
  have hpos : 0 < t.items.length := List.length_pos_iff.2 hne
  obtain ⟨hnum, htxt⟩ := bare_right hr (by omega)
  have hidx := wlkG_idx (walkT (doneT q) d) (t := t) (by omega) (fun h6 => right_even t hdt hr (.inr h6))
  have hpost : NewW X (16 + (d + 1)) ⟨t.kind, t.num, t.text, wlkG (walkT (doneT q) d) t.kind t.items (cntN t)⟩ w = NewW X (16 + (d + 1)) ⟨t.kind, 0, ⟨#[]⟩, t.items.mapIdx (wlkI (walkT (doneT q) d) t.kind)⟩ w := by rw [hidx, hnum, htxt]
  rw [hpost]
  clear hpost
  have hL0 : LiesX X 16 w t.items (.slice a t.items.length c) := h
  obtain ⟨a', c', hv, hcl, hrow⟩ := hL0
  injection hv with e1 _ e3
  subst e1
  subst e3
  obtain ⟨b, o, rfl, hXb, hall⟩ := hrow hne
  have HAll : Hid (∀ (i : Nat) (h : i < t.items.length), ∃ u, w.cell? ⟨b, o + i * 4, none⟩ = some (.int .i64 (t.items[i]'h).kind) ∧ w.cell? ⟨b, o + i * 4 + 1, none⟩ = some (.int .i64 (t.items[i]'h).num) ∧ w.cell? ⟨b, o + i * 4 + 2, none⟩ = some (.string (t.items[i]'h).text) ∧ w.cell? ⟨b, o + i * 4 + 3, none⟩ = some u ∧ LiesX X 15 w (t.items[i]'h).items u ∧ (t.items[i]'h).text.size ≤ 9223372036854775807) := hall
  have HT : Hid (Bx (at2 w t (.slice (some ⟨b, o, none⟩) t.items.length c)) w.heap.size t (.slice (some ⟨b, o, none⟩) t.items.length c)) := at2_fst _ _ _
  have HR : Hid (Bx (at2 w t (.slice (some ⟨b, o, none⟩) t.items.length c)) (w.heap.size + 1) zeroT (.slice none 0 0)) := at2_snd _ _ _
  have hb0 := at2_below w t (.slice (some ⟨b, o, none⟩) t.items.length c)
  obtain ⟨W0, hW0⟩ : ∃ W0, W0 = at2 w t (.slice (some ⟨b, o, none⟩) t.items.length c) := ⟨_, rfl⟩
  have HW0 : Hid (W0 = at2 w t (.slice (some ⟨b, o, none⟩) t.items.length c)) := hW0
  have hs0 : W0.heap.size = w.heap.size + 2 := by rw [hW0]; unfold at2; simp
  rw [← hW0] at HT HR hb0
  clear hW0
  unfold at2 at HW0
  obtain ⟨V, hV⟩ : ∃ V, V = W0.alloc (.cells #[.int .i64 t.kind, .int .i64 0, .string ⟨#[]⟩, .slice none 0 0] 24) := ⟨_, rfl⟩
  have HV : Hid (W0.alloc (.cells #[.int .i64 4, .int .i64 0, .string ⟨#[]⟩, .slice none 0 0] 24) = V) := by rw [← hk]; exact hV.symm
  have hal : Below W0.heap.size W0 V := by rw [hV]; exact ((Grew.refl _).alloc _).below
  have hbV : Below w.heap.size w V := hb0.trans (hal.mono hb0.size)
  have TV : Hid (Bx V w.heap.size t (.slice (some ⟨b, o, none⟩) t.items.length c)) := HT.out.keeps hal
  have RV : Hid (Bx V (w.heap.size + 1) zeroT (.slice none 0 0)) := HR.out.keeps hal
  have hsV : V.heap.size = w.heap.size + 3 := by rw [hV, World.size_alloc, hs0]
  have OV : Bx V (w.heap.size + 2) ⟨t.kind, 0, ⟨#[]⟩, []⟩ (.slice none 0 0) := by
    rw [hV, ← hs0]
    exact bx_alloc W0 ⟨t.kind, 0, ⟨#[]⟩, []⟩ _
  obtain ⟨f, hf⟩ : ∃ f, f = walkT (doneT q) d := ⟨_, rfl⟩
  have Hf : Hid (f = walkT (doneT q) d) := hf
  rw [← hf]
  have H0 : Hid (RkI X V (w.heap.size + 2) (16 + d) f t [] (.slice none 0 0) 0 V) := ⟨rfl, World.ownsRow_nil _ _ _ _, fun p hp => (by cases hp), KC.refl _ _, OV⟩
  obtain ⟨PP, hPP⟩ : ∃ PP, NewW X (16 + (d + 1)) ⟨t.kind, 0, ⟨#[]⟩, t.items.mapIdx (wlkI f t.kind)⟩ w = PP := ⟨_, rfl⟩
  rw [hPP]
  have HPP : Hid (NewW X (16 + (d + 1)) ⟨t.kind, 0, ⟨#[]⟩, t.items.mapIdx (wlkI f t.kind)⟩ w = PP) := hPP
  obtain ⟨L, hL⟩ : ∃ L, L = t.items.length := ⟨_, rfl⟩
  have HL : Hid (L = t.items.length) := hL
  have HIt : Hid (∀ y ∈ t.items, rightV 16 y = true ∧ Dp d y) := fun y hy => ⟨(item_right hr hdt hy).1, hd y hy⟩
  have HXX : Hid (∀ b, X b → b < w.heap.size) := hX
  have HbV : Hid (Below w.heap.size w V) := hbV
  have HsV : Hid (V.heap.size = w.heap.size + 3) := hsV
  have hbl : b < w.heap.size := hX _ hXb
  have HXb : Hid (X b) := hXb
  have HK : Hid (t.kind = 4) := hk
  rw [← hL] at HT TV HW0 ⊢
  have hLb : L ≤ 1024 := by omega
  have hLp : 0 < L := by omega
  obtain ⟨t0, t1, t2, t3, _, _, _, _⟩ := HT.out
  have Hs0 : Hid (W0.heap.size = w.heap.size + 2) := hs0
  rw [hk] at HW0 t0 ⊢
  have hlz : ((L : Int) == 0) = false := by simp; omega
  clear hall hrow hcl hPP hf h hr hd hdt hne hpos hX hL hlen hidx hnum htxt hV hal hs0 hXb HR OV hsV hbV hk
  go_enter Tryz.func24, Tryz.ntmps24
  go_upto_region 1 with fail
  rw [← HW0.out]
  clear HW0
  go_upto_region 4 with fail
  rw [HV.out, Hs0.out]
  clear HV Hs0 t0 t1 t2 t3 HT
  obtain ⟨t0, t1, t2, t3, _, _, _, _⟩ := TV.out
  rw [HK.out] at t0
  go_wp2_with fail
  go_loopg [6] L (fun gk i wr => ∃ (j : Nat) (ps : List PR) (v : Value), i = .int .i64 (j : Int) ∧ j ≤ L ∧ gk = L - j ∧ Hid (RkI X V (w.heap.size + 2) (16 + d) f t ps v j wr))
  case atStart => exact ⟨0, [], _, rfl, by omega, by omega, H0⟩
  case round =>
    obtain ⟨j, ps, v, rfl, hj, hgk, HI⟩ := hrel
    have Hgk : Hid _ := hgk
    clear hgk H0 t0 t1 t2 t3
    have hkc : KC (fun b => b = w.heap.size + 2) V wr := HI.out.kc
    have Tr : Hid (Bx wr w.heap.size t (.slice (some ⟨b, o, none⟩) L c)) := hkc.bx (by omega) TV.out
    have Rr : Hid (Bx wr (w.heap.size + 1) zeroT (.slice none 0 0)) := hkc.bx (by omega) RV.out
    obtain ⟨av, cv, rfl, _, _⟩ := own_slice26 HI.out.own
    obtain ⟨t0, t1, t2, t3, _, _, _, _⟩ := Tr.out
    rw [HK.out] at t0
    by_cases hjn : j < L
    · have hji : (j : Int) < (L : Int) := by omega
      have hjt : j < t.items.length := by have := HL.out; omega
      obtain ⟨u, p0, p1, p2, p3, p4, p5⟩ := HAll.out j hjt
      obtain ⟨ay, cy, rfl, hayl⟩ := LiesX.slice p4
      clear hayl
      have hnb3 : b ≠ w.heap.size + 2 := by omega
      have hn03 : w.heap.size ≠ w.heap.size + 2 := by omega
      replace p0 := hkc.cell (a := ⟨b, o + j * 4, none⟩) hnb3 (cell_keeps HbV.out p0); replace p1 := hkc.cell (a := ⟨b, o + j * 4 + 1, none⟩) hnb3 (cell_keeps HbV.out p1); replace p2 := hkc.cell (a := ⟨b, o + j * 4 + 2, none⟩) hnb3 (cell_keeps HbV.out p2); replace p3 := hkc.cell (a := ⟨b, o + j * 4 + 3, none⟩) hnb3 (cell_keeps HbV.out p3)
      obtain ⟨hyr, hyd⟩ := HIt.out _ (List.getElem_mem hjt)
      obtain ⟨y, hy⟩ : ∃ y, y = t.items[j] := ⟨_, rfl⟩
      rw [← hy] at p0 p1 p2 p3 p4 p5 hyr hyd
      have hyX : LiesX X 16 wr y.items (.slice ay y.items.length cy) := hkc.liesX (fun n hn e => by have := HXX.out _ hn; omega) ((LiesX.deeper p4).keeps HbV.out)
      have hl0 : w.heap.size < V.heap.size := by have := HsV.out; omega
      have hlb : b < V.heap.size := by omega
      have hn3 : w.heap.size + 2 < V.heap.size := by have := HsV.out; omega
      have hXV : ∀ n, X n → n < V.heap.size ∧ n ≠ w.heap.size + 2 := fun n hn => ⟨by have := HXX.out _ hn; omega, by have := HXX.out _ hn; omega⟩
      have hVw : V.heap.size ≤ wr.heap.size := hkc.size
      -- what the append's arm asks, of whatever value
      have HSt : Hid (∀ (W6 : World) (z : VT) (az : Option Addr) (cz : Nat), Below wr.heap.size wr W6 → z = wlkI f t.kind j t.items[j] → LiesX (fun b => X b ∨ wr.heap.size ≤ b) (16 + d) W6 z.items (.slice az z.items.length cz) → z.text.size ≤ 9223372036854775807 → ∀ g7 cap7 w7, w7.ownsRow V.heap.size 24 4 (.slice (some ⟨g7, 0, none⟩) (j + 1) cap7) (j + 1) (ps.flatMap encP ++ encP (z, .slice az z.items.length cz)) → W6.grownBy w7 (Value.slice av j cv).ownBlock → ((Value.slice av j cv).ownBlock = some g7 ∨ g7 = W6.heap.size) → Hid (RkI X V (w.heap.size + 2) (16 + d) f t (ps ++ [(z, .slice az z.items.length cz)]) (.slice (some ⟨g7, 0, none⟩) (j + 1) cap7) (j + 1) (w7.setCell ⟨w.heap.size + 2, 3, none⟩ (.slice (some ⟨g7, 0, none⟩) (j + 1) cap7))) ∧ Hid (Bx w7 (w.heap.size + 2) ⟨t.kind, 0, ⟨#[]⟩, []⟩ (.slice av j cv)) ∧ Hid (∀ (ad : Addr) (u : Value), ad.block < V.heap.size → wr.cell? ad = some u → w7.cell? ad = some u)) := fun W6 z az cz h1 h2 h3 h4 g7 cap7 w7 h5 h6 h7 =>
        ⟨HI.out.step hXV hn3 h1 hjt z _ h2 h3 h4 h5 h6 h7, HI.out.box7 hn3 h1 h6, fun ad u h8 h9 => HI.out.cell7 h1 h6 h8 h9⟩
      have HOw : Hid (∀ W6, Below wr.heap.size wr W6 → W6.ownsRow V.heap.size 24 4 (.slice av j cv) j (ps.flatMap encP)) := fun W6 h1 => own_keeps HI.out.own h1
      have t3w : Hid (wr.cell? ⟨w.heap.size, 3, none⟩ = some (.slice (some ⟨b, o, none⟩) L c)) := t3
      have p0w : Hid _ := p0; have p1w : Hid _ := p1; have p2w : Hid _ := p2; have p3w : Hid _ := p3
      obtain ⟨x0, x1, x2, x3, f0, f1, f2, f3⟩ := HI.out.box
      have hwrl : w.heap.size + 2 < wr.heap.size := by omega
      have Hjn : Hid (j + 1 ≤ L) := hjn
      have Hyd : Hid (y = t.items[j]) := hy
      obtain ⟨z, hz⟩ : ∃ z, z = f y := ⟨_, rfl⟩
      have hzx : z = wlkI f t.kind j t.items[j] := by rw [hz, hy]; unfold wlkI; rw [if_neg (by have := HK.out; omega)]
      have hzs : z.text.size ≤ 9223372036854775807 := by rw [hz, Hf.out]; exact walk_text q d (by omega) y hyr hyd
      have HCall : Hid (∀ W, Below wr.heap.size wr W → Calls Tryz.prog 24 #[.agg #[.int .i64 y.kind, .int .i64 y.num, .string y.text, .slice ay y.items.length cy], .int .i64 (q : Int)] W fun e w' => ∃ a5 c5, e = .returned (.agg #[.int .i64 z.kind, .int .i64 z.num, .string z.text, .slice a5 z.items.length c5]) ∧ Hid (LiesX (fun b => X b ∨ wr.heap.size ≤ b) (16 + d) w' z.items (.slice a5 z.items.length c5)) ∧ Below wr.heap.size wr w') := fun W hW => by
        refine (ih.out X y ay cy W (fun b hb => by have := HXX.out _ hb; have := hW.size; omega) (hyX.keeps hW) hyr hyd).mono ?_
        rintro e w' ⟨a5, c5, rfl, h1, h2⟩
        rw [← Hf.out, ← hz] at h1 ⊢
        exact ⟨a5, c5, rfl, h1.mono (fun b hb => hb.imp id (fun hb => Nat.le_trans hW.size hb)), hW.trans (h2.mono hW.size)⟩
      have HSz : Hid (∀ (W6 : World) (az : Option Addr) (cz : Nat), Below wr.heap.size wr W6 → LiesX (fun b => X b ∨ wr.heap.size ≤ b) (16 + d) W6 z.items (.slice az z.items.length cz) → ∀ g7 cap7 w7, w7.ownsRow V.heap.size 24 4 (.slice (some ⟨g7, 0, none⟩) (j + 1) cap7) (j + 1) (ps.flatMap encP ++ encP (z, .slice az z.items.length cz)) → W6.grownBy w7 (Value.slice av j cv).ownBlock → ((Value.slice av j cv).ownBlock = some g7 ∨ g7 = W6.heap.size) → Hid (RkI X V (w.heap.size + 2) (16 + d) f t (ps ++ [(z, .slice az z.items.length cz)]) (.slice (some ⟨g7, 0, none⟩) (j + 1) cap7) (j + 1) (w7.setCell ⟨w.heap.size + 2, 3, none⟩ (.slice (some ⟨g7, 0, none⟩) (j + 1) cap7))) ∧ Hid (Bx w7 (w.heap.size + 2) ⟨t.kind, 0, ⟨#[]⟩, []⟩ (.slice av j cv)) ∧ Hid (∀ (ad : Addr) (u : Value), ad.block < V.heap.size → wr.cell? ad = some u → w7.cell? ad = some u)) := fun W6 az cz h1 h2 => HSt.out W6 z az cz h1 hzx h2 hzs
      clear HSt hzx hzs hz p4 p5 hyr hyd hy hyX hjt hXV Hyd HAll HIt HI hkc Tr Rr HL HPP
      generalize y.items.length = ly at *
      go_upto_region 9 with fail
      rw [← ldOutB_eq]
      go_region_held3 (fun w' => w'.cell? ⟨w.heap.size, 3, none⟩ = some (.slice (some ⟨b, o, none⟩) L c) ∧ w'.cell? ⟨b, o + j * 4, none⟩ = some (.int .i64 y.kind) ∧ w'.cell? ⟨b, o + j * 4 + 1, none⟩ = some (.int .i64 y.num) ∧ w'.cell? ⟨b, o + j * 4 + 2, none⟩ = some (.string y.text) ∧ w'.cell? ⟨b, o + j * 4 + 3, none⟩ = some (.slice ay ly cy)) (first | (go_keep; done) | (with_reducible exact ⟨cell_other1 hn03 t3, cell_other1 hnb3 p0, cell_other1 hnb3 p1, cell_other1 hnb3 p2, cell_other1 hnb3 p3⟩))
        (first
          | (go_at_call 24; (with_reducible refine Calls.mono (HCall.out _ ?_) ?_); (first | exact Below.refl _ _ | exact (Below.refl _ _).drew); rintro e w5 ⟨a5, c5, rfl, HL5, hb5⟩; have t3 := cell_keeps hb5 t3w.out; have p0 := cell_keeps hb5 p0w.out; have p1 := cell_keeps hb5 p1w.out; have p2 := cell_keeps hb5 p2w.out; have p3 := cell_keeps hb5 p3w.out; have x3 := cell_keeps hb5 x3; have hw5l : w.heap.size + 2 < w5.heap.size := Nat.lt_of_lt_of_le hwrl hb5.size; have hb6 : Below wr.heap.size wr (w5.alloc (.cells #[.int .i64 z.kind, .int .i64 z.num, .string z.text, .slice a5 z.items.length c5] 24)) := hb5.alloc hb5.size _; have HO6 := HOw.out _ hb6; have HS6 := HSz.out _ a5 c5 hb6 (HL5.out.keeps ((Grew.refl w5).alloc _).below))
          | (refine stepC_one rfl (.tmp 53) (.tmp 61) rfl (base := V.heap.size) (n := j) (xs := ps.flatMap encP) rfl HO6 rfl (encP (z, .slice a5 z.items.length c5)) rfl (lit_src w5 z _) (lit_one z a5 _ c5) (by omega) (Nat.le_trans hVw hb6.size) ?_; intro g7 cap7 w7 hown7 hgr7 hg7 hlt7; obtain ⟨HI7, HB7, hcell7⟩ := HS6 g7 cap7 w7 hown7 hgr7 hg7; have t3 := hcell7.out _ _ hl0 t3w.out; have p0 := hcell7.out _ _ hlb p0w.out; have p1 := hcell7.out _ _ hlb p1w.out; have p2 := hcell7.out _ _ hlb p2w.out; have p3 := hcell7.out _ _ hlb p3w.out; obtain ⟨x0, x1, x2, x3, f0, f1, f2, f3⟩ := HB7.out; clear hown7 hgr7 hg7 hlt7))
      all_goals clear t3 p0 p1 p2 p3 x0 x1 x2 x3 f0 f1 f2 f3
      all_goals go_wp2_with fail
      all_goals go_roundg (L - (j + 1))
      all_goals first | (have := Hgk.out; have := Hjn.out; omega) | exact ⟨j + 1, _, _, by go_num, Hjn.out, rfl, HI7⟩
    · have hjz : j = L := by omega
      have hji : ¬ (j : Int) < (L : Int) := by omega
      have hbw : Below w.heap.size w wr := HbV.out.trans (hkc.below (N0 := w.heap.size) (fun i hi e => by omega) (by have := HsV.out; omega))
      have HE1 : Hid (PP (.returned (.agg #[.int .i64 4, .int .i64 0, .string ⟨#[]⟩, .slice av j cv])) (wr.setCells (w.heap.size + 1) 0 (encP ((⟨4, 0, ⟨#[]⟩, []⟩ : VT), .slice av j cv)))) := by
        show PP _ _
        rw [← HPP.out]
        have hml : (t.items.mapIdx (wlkI f t.kind)).length = j := by rw [List.length_mapIdx]; have := HL.out; omega
        have heq := HI.out.eq
        rw [List.take_of_length_le (by omega)] at heq
        have hpl : ps.length = j := by have := congrArg List.length heq; rw [List.length_map, hml] at this; exact this
        have h1 := own_liesX (X := fun b => (X b ∨ V.heap.size ≤ b)) (d := 16 + d) HI.out.own hpl.symm (fun g hg => .inr (by
          obtain ⟨_, _, _, _, k9⟩ := own_slice26 HI.out.own
          exact (k9 _ hg).1)) (fun p hp => ⟨(HI.out.lie p hp).1.mono (fun _ h => h.1), (HI.out.lie p hp).2⟩) (by omega)
        rw [heq] at h1
        refine ⟨av, cv, by rw [hml, HK.out], ?_, below_put hbw (by omega) _⟩
        rw [hml]
        refine LiesX.mono (fun b hb => hb.imp id (fun hb => by have := HsV.out; omega)) (LiesX.set (g := w.heap.size + 1) (fun hb => ?_) h1)
        rcases hb with hb | hb
        · have := HXX.out _ hb; omega
        · have := HsV.out; omega
      have Hq : Hid (Bx (wr.setCells (w.heap.size + 1) 0 (encP ((⟨4, 0, ⟨#[]⟩, []⟩ : VT), .slice av j cv))) (w.heap.size + 1) (⟨4, 0, ⟨#[]⟩, []⟩ : VT) (.slice av j cv)) := Rr.out.put ((⟨4, 0, ⟨#[]⟩, []⟩ : VT), .slice av j cv)
      obtain ⟨x0, x1, x2, x3, _, _, _, _⟩ := HI.out.box
      simp only at x0 x1 x2
      rw [HK.out] at x0
      obtain ⟨z0, z1, z2, z3, y0, y1, y2, y3⟩ := Rr.out
      have Hjz : Hid (j = L) := hjz
      clear hjz hkc HI hbw Tr Rr
      go_wp2_with fail
      refine bodyPost_ret (v := .agg #[.int .i64 4, .int .i64 0, .string ⟨#[]⟩, .slice av j cv]) ?_ rfl HE1.out
      obtain ⟨q0, q1, q2, q3, _, _, _, _⟩ := Hq.out
      simp only [World.setCells, encP, Nat.zero_add, Nat.reduceAdd] at q0 q1 q2 q3
      simp [results, Tryz.results24, go_sem, q0, q1, q2, q3]

set_option maxRecDepth 100000 in
set_option maxHeartbeats 8000000 in
theorem rwalk_6 (q d : Nat) (hd16 : d + 1 ≤ 16) (ih : Hid (RWkC q d)) (X : Nat → Prop) (t : VT) (a : Option Addr) (c : Nat) (w : World) (hX : ∀ b, X b → b < w.heap.size) (h : LiesX X 16 w t.items (.slice a t.items.length c)) (hr : rightV 16 t = true) (hd : Dp (d + 1) t) (hne : t.items ≠ []) (hk : t.kind = 6) :
    Calls Tryz.prog 24 #[.agg #[.int .i64 t.kind, .int .i64 t.num, .string t.text, .slice a t.items.length c], .int .i64 (q : Int)] w (NewW X (16 + (d + 1)) ⟨t.kind, t.num, t.text, wlkG (walkT (doneT q) d) t.kind t.items (cntN t)⟩ w) := by
  have hdt : Dp 16 t := hd.mono hd16
  have hlen := right_len hr
  have hpos : 0 < t.items.length := List.length_pos_iff.2 hne
  obtain ⟨hnum, htxt⟩ := bare_right hr (by omega)
  have hidx := wlkG_idx (walkT (doneT q) d) (t := t) (by omega) (fun h6 => right_even t hdt hr (.inr h6))
  have hpost : NewW X (16 + (d + 1)) ⟨t.kind, t.num, t.text, wlkG (walkT (doneT q) d) t.kind t.items (cntN t)⟩ w = NewW X (16 + (d + 1)) ⟨t.kind, 0, ⟨#[]⟩, t.items.mapIdx (wlkI (walkT (doneT q) d) t.kind)⟩ w := by rw [hidx, hnum, htxt]
  rw [hpost]
  clear hpost
  have hL0 : LiesX X 16 w t.items (.slice a t.items.length c) := h
  obtain ⟨a', c', hv, hcl, hrow⟩ := hL0
  injection hv with e1 _ e3
  subst e1
  subst e3
  obtain ⟨b, o, rfl, hXb, hall⟩ := hrow hne
  have HAll : Hid (∀ (i : Nat) (h : i < t.items.length), ∃ u, w.cell? ⟨b, o + i * 4, none⟩ = some (.int .i64 (t.items[i]'h).kind) ∧ w.cell? ⟨b, o + i * 4 + 1, none⟩ = some (.int .i64 (t.items[i]'h).num) ∧ w.cell? ⟨b, o + i * 4 + 2, none⟩ = some (.string (t.items[i]'h).text) ∧ w.cell? ⟨b, o + i * 4 + 3, none⟩ = some u ∧ LiesX X 15 w (t.items[i]'h).items u ∧ (t.items[i]'h).text.size ≤ 9223372036854775807) := hall
  have HT : Hid (Bx (at2 w t (.slice (some ⟨b, o, none⟩) t.items.length c)) w.heap.size t (.slice (some ⟨b, o, none⟩) t.items.length c)) := at2_fst _ _ _
  have HR : Hid (Bx (at2 w t (.slice (some ⟨b, o, none⟩) t.items.length c)) (w.heap.size + 1) zeroT (.slice none 0 0)) := at2_snd _ _ _
  have hb0 := at2_below w t (.slice (some ⟨b, o, none⟩) t.items.length c)
  obtain ⟨W0, hW0⟩ : ∃ W0, W0 = at2 w t (.slice (some ⟨b, o, none⟩) t.items.length c) := ⟨_, rfl⟩
  have HW0 : Hid (W0 = at2 w t (.slice (some ⟨b, o, none⟩) t.items.length c)) := hW0
  have hs0 : W0.heap.size = w.heap.size + 2 := by rw [hW0]; unfold at2; simp
  rw [← hW0] at HT HR hb0
  clear hW0
  unfold at2 at HW0
  obtain ⟨V, hV⟩ : ∃ V, V = W0.alloc (.cells #[.int .i64 t.kind, .int .i64 0, .string ⟨#[]⟩, .slice none 0 0] 24) := ⟨_, rfl⟩
  have HV : Hid (W0.alloc (.cells #[.int .i64 6, .int .i64 0, .string ⟨#[]⟩, .slice none 0 0] 24) = V) := by rw [← hk]; exact hV.symm
  have hal : Below W0.heap.size W0 V := by rw [hV]; exact ((Grew.refl _).alloc _).below
  have hbV : Below w.heap.size w V := hb0.trans (hal.mono hb0.size)
  have TV : Hid (Bx V w.heap.size t (.slice (some ⟨b, o, none⟩) t.items.length c)) := HT.out.keeps hal
  have RV : Hid (Bx V (w.heap.size + 1) zeroT (.slice none 0 0)) := HR.out.keeps hal
  have hsV : V.heap.size = w.heap.size + 3 := by rw [hV, World.size_alloc, hs0]
  have OV : Bx V (w.heap.size + 2) ⟨t.kind, 0, ⟨#[]⟩, []⟩ (.slice none 0 0) := by
    rw [hV, ← hs0]
    exact bx_alloc W0 ⟨t.kind, 0, ⟨#[]⟩, []⟩ _
  obtain ⟨f, hf⟩ : ∃ f, f = walkT (doneT q) d := ⟨_, rfl⟩
  have Hf : Hid (f = walkT (doneT q) d) := hf
  rw [← hf]
  have H0 : Hid (RkI X V (w.heap.size + 2) (16 + d) f t [] (.slice none 0 0) 0 V) := ⟨rfl, World.ownsRow_nil _ _ _ _, fun p hp => (by cases hp), KC.refl _ _, OV⟩
  obtain ⟨PP, hPP⟩ : ∃ PP, NewW X (16 + (d + 1)) ⟨t.kind, 0, ⟨#[]⟩, t.items.mapIdx (wlkI f t.kind)⟩ w = PP := ⟨_, rfl⟩
  rw [hPP]
  have HPP : Hid (NewW X (16 + (d + 1)) ⟨t.kind, 0, ⟨#[]⟩, t.items.mapIdx (wlkI f t.kind)⟩ w = PP) := hPP
  obtain ⟨L, hL⟩ : ∃ L, L = t.items.length := ⟨_, rfl⟩
  have HL : Hid (L = t.items.length) := hL
  have HIt : Hid (∀ y ∈ t.items, rightV 16 y = true ∧ Dp d y) := fun y hy => ⟨(item_right hr hdt hy).1, hd y hy⟩
  have HXX : Hid (∀ b, X b → b < w.heap.size) := hX
  have HbV : Hid (Below w.heap.size w V) := hbV
  have HsV : Hid (V.heap.size = w.heap.size + 3) := hsV
  have hbl : b < w.heap.size := hX _ hXb
  have HXb : Hid (X b) := hXb
  have HK : Hid (t.kind = 6) := hk
  rw [← hL] at HT TV HW0 ⊢
  have hLb : L ≤ 1024 := by omega
  have hLp : 0 < L := by omega
  obtain ⟨t0, t1, t2, t3, _, _, _, _⟩ := HT.out
  have Hs0 : Hid (W0.heap.size = w.heap.size + 2) := hs0
  rw [hk] at HW0 t0 ⊢
  have hlz : ((L : Int) == 0) = false := by simp; omega
  clear hall hrow hcl hPP hf h hr hd hdt hne hpos hX hL hlen hidx hnum htxt hV hal hs0 hXb HR OV hsV hbV hk
  go_enter Tryz.func24, Tryz.ntmps24
  go_upto_region 1 with fail
  rw [← HW0.out]
  clear HW0
  go_upto_region 4 with fail
  rw [HV.out, Hs0.out]
  clear HV Hs0 t0 t1 t2 t3 HT
  obtain ⟨t0, t1, t2, t3, _, _, _, _⟩ := TV.out
  rw [HK.out] at t0
  go_wp2_with fail
  go_loopg [6] L (fun gk i wr => ∃ (j : Nat) (ps : List PR) (v : Value), i = .int .i64 (j : Int) ∧ j ≤ L ∧ gk = L - j ∧ Hid (RkI X V (w.heap.size + 2) (16 + d) f t ps v j wr))
  case atStart => exact ⟨0, [], _, rfl, by omega, by omega, H0⟩
  case round =>
    obtain ⟨j, ps, v, rfl, hj, hgk, HI⟩ := hrel
    have Hgk : Hid _ := hgk
    clear hgk H0 t0 t1 t2 t3
    have hkc : KC (fun b => b = w.heap.size + 2) V wr := HI.out.kc
    have Tr : Hid (Bx wr w.heap.size t (.slice (some ⟨b, o, none⟩) L c)) := hkc.bx (by omega) TV.out
    have Rr : Hid (Bx wr (w.heap.size + 1) zeroT (.slice none 0 0)) := hkc.bx (by omega) RV.out
    obtain ⟨av, cv, rfl, _, _⟩ := own_slice26 HI.out.own
    obtain ⟨t0, t1, t2, t3, _, _, _, _⟩ := Tr.out
    rw [HK.out] at t0
    by_cases hjn : j < L
    · have hji : (j : Int) < (L : Int) := by omega
      have hjt : j < t.items.length := by have := HL.out; omega
      obtain ⟨u, p0, p1, p2, p3, p4, p5⟩ := HAll.out j hjt
      obtain ⟨ay, cy, rfl, hayl⟩ := LiesX.slice p4
      clear hayl
      have hnb3 : b ≠ w.heap.size + 2 := by omega
      have hn03 : w.heap.size ≠ w.heap.size + 2 := by omega
      replace p0 := hkc.cell (a := ⟨b, o + j * 4, none⟩) hnb3 (cell_keeps HbV.out p0); replace p1 := hkc.cell (a := ⟨b, o + j * 4 + 1, none⟩) hnb3 (cell_keeps HbV.out p1); replace p2 := hkc.cell (a := ⟨b, o + j * 4 + 2, none⟩) hnb3 (cell_keeps HbV.out p2); replace p3 := hkc.cell (a := ⟨b, o + j * 4 + 3, none⟩) hnb3 (cell_keeps HbV.out p3)
      obtain ⟨hyr, hyd⟩ := HIt.out _ (List.getElem_mem hjt)
      obtain ⟨y, hy⟩ : ∃ y, y = t.items[j] := ⟨_, rfl⟩
      rw [← hy] at p0 p1 p2 p3 p4 p5 hyr hyd
      have hyX : LiesX X 16 wr y.items (.slice ay y.items.length cy) := hkc.liesX (fun n hn e => by have := HXX.out _ hn; omega) ((LiesX.deeper p4).keeps HbV.out)
      have hl0 : w.heap.size < V.heap.size := by have := HsV.out; omega
      have hlb : b < V.heap.size := by omega
      have hn3 : w.heap.size + 2 < V.heap.size := by have := HsV.out; omega
      have hXV : ∀ n, X n → n < V.heap.size ∧ n ≠ w.heap.size + 2 := fun n hn => ⟨by have := HXX.out _ hn; omega, by have := HXX.out _ hn; omega⟩
      have hVw : V.heap.size ≤ wr.heap.size := hkc.size
      -- what the append's arm asks, of whatever value
      have HSt : Hid (∀ (W6 : World) (z : VT) (az : Option Addr) (cz : Nat), Below wr.heap.size wr W6 → z = wlkI f t.kind j t.items[j] → LiesX (fun b => X b ∨ wr.heap.size ≤ b) (16 + d) W6 z.items (.slice az z.items.length cz) → z.text.size ≤ 9223372036854775807 → ∀ g7 cap7 w7, w7.ownsRow V.heap.size 24 4 (.slice (some ⟨g7, 0, none⟩) (j + 1) cap7) (j + 1) (ps.flatMap encP ++ encP (z, .slice az z.items.length cz)) → W6.grownBy w7 (Value.slice av j cv).ownBlock → ((Value.slice av j cv).ownBlock = some g7 ∨ g7 = W6.heap.size) → Hid (RkI X V (w.heap.size + 2) (16 + d) f t (ps ++ [(z, .slice az z.items.length cz)]) (.slice (some ⟨g7, 0, none⟩) (j + 1) cap7) (j + 1) (w7.setCell ⟨w.heap.size + 2, 3, none⟩ (.slice (some ⟨g7, 0, none⟩) (j + 1) cap7))) ∧ Hid (Bx w7 (w.heap.size + 2) ⟨t.kind, 0, ⟨#[]⟩, []⟩ (.slice av j cv)) ∧ Hid (∀ (ad : Addr) (u : Value), ad.block < V.heap.size → wr.cell? ad = some u → w7.cell? ad = some u)) := fun W6 z az cz h1 h2 h3 h4 g7 cap7 w7 h5 h6 h7 =>
        ⟨HI.out.step hXV hn3 h1 hjt z _ h2 h3 h4 h5 h6 h7, HI.out.box7 hn3 h1 h6, fun ad u h8 h9 => HI.out.cell7 h1 h6 h8 h9⟩
      have HOw : Hid (∀ W6, Below wr.heap.size wr W6 → W6.ownsRow V.heap.size 24 4 (.slice av j cv) j (ps.flatMap encP)) := fun W6 h1 => own_keeps HI.out.own h1
      have t3w : Hid (wr.cell? ⟨w.heap.size, 3, none⟩ = some (.slice (some ⟨b, o, none⟩) L c)) := t3
      have p0w : Hid _ := p0; have p1w : Hid _ := p1; have p2w : Hid _ := p2; have p3w : Hid _ := p3
      obtain ⟨x0, x1, x2, x3, f0, f1, f2, f3⟩ := HI.out.box
      have hwrl : w.heap.size + 2 < wr.heap.size := by omega
      have Hjn : Hid (j + 1 ≤ L) := hjn
      have Hyd : Hid (y = t.items[j]) := hy
      by_cases hp : j % 2 = 0
      · have hrm : (j : Int) % 2 = 0 := by omega
        have hzx : y = wlkI f t.kind j t.items[j] := by unfold wlkI; rw [if_pos ⟨HK.out, hp⟩]; exact hy
        have hyL : LiesX (fun b => X b ∨ wr.heap.size ≤ b) (16 + d) wr y.items (.slice ay y.items.length cy) := (hyX.mono (fun _ h => .inl h)).atLeast _ (by omega)
        have hb6 : Below wr.heap.size wr (wr.drew.alloc (.cells #[.int .i64 y.kind, .int .i64 y.num, .string y.text, .slice ay y.items.length cy] 24)) := (Below.refl _ _).drew.alloc (Nat.le_refl _) _
        have HO6 := HOw.out _ hb6
        have HO6 : Hid _ := HO6
        have HS6 := HSt.out _ y ay cy hb6 hzx (hyL.keeps hb6) p5
        have HS6 : Hid _ := HS6
        clear HSt hzx p4 p5 hyr hyd hy hyX hjt hXV Hyd HAll HIt HI hkc Tr Rr HL HPP hyL
        have Hb6 : Hid (V.heap.size ≤ (wr.drew.alloc (.cells #[.int .i64 y.kind, .int .i64 y.num, .string y.text, .slice ay y.items.length cy] 24)).heap.size) := Nat.le_trans hVw hb6.size
        obtain ⟨ly, hly⟩ : ∃ ly, ly = y.items.length := ⟨_, rfl⟩
        rw [← hly] at p3 p3w HO6 HS6 Hb6
        clear hly hb6
        go_upto_region 8 with fail
        rw [← ldOutA_eq]
        go_region_held3 (fun w' => w'.cell? ⟨w.heap.size, 3, none⟩ = some (.slice (some ⟨b, o, none⟩) L c) ∧ w'.cell? ⟨b, o + j * 4, none⟩ = some (.int .i64 y.kind) ∧ w'.cell? ⟨b, o + j * 4 + 1, none⟩ = some (.int .i64 y.num) ∧ w'.cell? ⟨b, o + j * 4 + 2, none⟩ = some (.string y.text) ∧ w'.cell? ⟨b, o + j * 4 + 3, none⟩ = some (.slice ay ly cy)) (first | (go_keep; done) | (with_reducible exact ⟨cell_other1 hn03 t3, cell_other1 hnb3 p0, cell_other1 hnb3 p1, cell_other1 hnb3 p2, cell_other1 hnb3 p3⟩))
          (first
            | (refine stepC_one rfl (.tmp 43) (.tmp 49) rfl (base := V.heap.size) (n := j) (xs := ps.flatMap encP) rfl HO6.out rfl (encP (y, .slice ay ly cy)) rfl (lit_src wr.drew y _) (lit_one y ay _ cy) (by omega) Hb6.out ?_; intro g7 cap7 w7 hown7 hgr7 hg7 hlt7; obtain ⟨HI7, HB7, hcell7⟩ := HS6.out g7 cap7 w7 hown7 hgr7 hg7; have t3 := hcell7.out _ _ hl0 t3w.out; have p0 := hcell7.out _ _ hlb p0w.out; have p1 := hcell7.out _ _ hlb p1w.out; have p2 := hcell7.out _ _ hlb p2w.out; have p3 := hcell7.out _ _ hlb p3w.out; obtain ⟨x0, x1, x2, x3, f0, f1, f2, f3⟩ := HB7.out; clear hown7 hgr7 hg7 hlt7))
        all_goals clear t3 p0 p1 p2 p3 x0 x1 x2 x3 f0 f1 f2 f3
        all_goals go_wp2_with fail
        all_goals go_roundg (L - (j + 1))
        all_goals first | (have := Hgk.out; have := Hjn.out; omega) | exact ⟨j + 1, _, _, by go_num, Hjn.out, rfl, HI7⟩
      · have hrm : (j : Int) % 2 = 1 := by omega
        obtain ⟨z, hz⟩ : ∃ z, z = f y := ⟨_, rfl⟩
        have hzx : z = wlkI f t.kind j t.items[j] := by rw [hz, hy]; unfold wlkI; rw [if_neg (fun h => hp h.2)]
        have hzs : z.text.size ≤ 9223372036854775807 := by rw [hz, Hf.out]; exact walk_text q d (by omega) y hyr hyd
        have HCall : Hid (∀ W, Below wr.heap.size wr W → Calls Tryz.prog 24 #[.agg #[.int .i64 y.kind, .int .i64 y.num, .string y.text, .slice ay y.items.length cy], .int .i64 (q : Int)] W fun e w' => ∃ a5 c5, e = .returned (.agg #[.int .i64 z.kind, .int .i64 z.num, .string z.text, .slice a5 z.items.length c5]) ∧ Hid (LiesX (fun b => X b ∨ wr.heap.size ≤ b) (16 + d) w' z.items (.slice a5 z.items.length c5)) ∧ Below wr.heap.size wr w') := fun W hW => by
          refine (ih.out X y ay cy W (fun b hb => by have := HXX.out _ hb; have := hW.size; omega) (hyX.keeps hW) hyr hyd).mono ?_
          rintro e w' ⟨a5, c5, rfl, h1, h2⟩
          rw [← Hf.out, ← hz] at h1 ⊢
          exact ⟨a5, c5, rfl, h1.mono (fun b hb => hb.imp id (fun hb => Nat.le_trans hW.size hb)), hW.trans (h2.mono hW.size)⟩
        have HSz : Hid (∀ (W6 : World) (az : Option Addr) (cz : Nat), Below wr.heap.size wr W6 → LiesX (fun b => X b ∨ wr.heap.size ≤ b) (16 + d) W6 z.items (.slice az z.items.length cz) → ∀ g7 cap7 w7, w7.ownsRow V.heap.size 24 4 (.slice (some ⟨g7, 0, none⟩) (j + 1) cap7) (j + 1) (ps.flatMap encP ++ encP (z, .slice az z.items.length cz)) → W6.grownBy w7 (Value.slice av j cv).ownBlock → ((Value.slice av j cv).ownBlock = some g7 ∨ g7 = W6.heap.size) → Hid (RkI X V (w.heap.size + 2) (16 + d) f t (ps ++ [(z, .slice az z.items.length cz)]) (.slice (some ⟨g7, 0, none⟩) (j + 1) cap7) (j + 1) (w7.setCell ⟨w.heap.size + 2, 3, none⟩ (.slice (some ⟨g7, 0, none⟩) (j + 1) cap7))) ∧ Hid (Bx w7 (w.heap.size + 2) ⟨t.kind, 0, ⟨#[]⟩, []⟩ (.slice av j cv)) ∧ Hid (∀ (ad : Addr) (u : Value), ad.block < V.heap.size → wr.cell? ad = some u → w7.cell? ad = some u)) := fun W6 az cz h1 h2 => HSt.out W6 z az cz h1 hzx h2 hzs
        clear HSt hzx hzs hz p4 p5 hyr hyd hy hyX hjt hXV Hyd HAll HIt HI hkc Tr Rr HL HPP
        generalize y.items.length = ly at *
        go_upto_region 9 with fail
        rw [← ldOutB_eq]
        go_region_held3 (fun w' => w'.cell? ⟨w.heap.size, 3, none⟩ = some (.slice (some ⟨b, o, none⟩) L c) ∧ w'.cell? ⟨b, o + j * 4, none⟩ = some (.int .i64 y.kind) ∧ w'.cell? ⟨b, o + j * 4 + 1, none⟩ = some (.int .i64 y.num) ∧ w'.cell? ⟨b, o + j * 4 + 2, none⟩ = some (.string y.text) ∧ w'.cell? ⟨b, o + j * 4 + 3, none⟩ = some (.slice ay ly cy)) (first | (go_keep; done) | (with_reducible exact ⟨cell_other1 hn03 t3, cell_other1 hnb3 p0, cell_other1 hnb3 p1, cell_other1 hnb3 p2, cell_other1 hnb3 p3⟩))
          (first
            | (go_at_call 24; (with_reducible refine Calls.mono (HCall.out _ ?_) ?_); (first | exact Below.refl _ _ | exact (Below.refl _ _).drew); rintro e w5 ⟨a5, c5, rfl, HL5, hb5⟩; have t3 := cell_keeps hb5 t3w.out; have p0 := cell_keeps hb5 p0w.out; have p1 := cell_keeps hb5 p1w.out; have p2 := cell_keeps hb5 p2w.out; have p3 := cell_keeps hb5 p3w.out; have x3 := cell_keeps hb5 x3; have hw5l : w.heap.size + 2 < w5.heap.size := Nat.lt_of_lt_of_le hwrl hb5.size; have hb6 : Below wr.heap.size wr (w5.alloc (.cells #[.int .i64 z.kind, .int .i64 z.num, .string z.text, .slice a5 z.items.length c5] 24)) := hb5.alloc hb5.size _; have HO6 := HOw.out _ hb6; have HS6 := HSz.out _ a5 c5 hb6 (HL5.out.keeps ((Grew.refl w5).alloc _).below))
            | (refine stepC_one rfl (.tmp 53) (.tmp 61) rfl (base := V.heap.size) (n := j) (xs := ps.flatMap encP) rfl HO6 rfl (encP (z, .slice a5 z.items.length c5)) rfl (lit_src w5 z _) (lit_one z a5 _ c5) (by omega) (Nat.le_trans hVw hb6.size) ?_; intro g7 cap7 w7 hown7 hgr7 hg7 hlt7; obtain ⟨HI7, HB7, hcell7⟩ := HS6 g7 cap7 w7 hown7 hgr7 hg7; have t3 := hcell7.out _ _ hl0 t3w.out; have p0 := hcell7.out _ _ hlb p0w.out; have p1 := hcell7.out _ _ hlb p1w.out; have p2 := hcell7.out _ _ hlb p2w.out; have p3 := hcell7.out _ _ hlb p3w.out; obtain ⟨x0, x1, x2, x3, f0, f1, f2, f3⟩ := HB7.out; clear hown7 hgr7 hg7 hlt7))
        all_goals clear t3 p0 p1 p2 p3 x0 x1 x2 x3 f0 f1 f2 f3
        all_goals go_wp2_with fail
        all_goals go_roundg (L - (j + 1))
        all_goals first | (have := Hgk.out; have := Hjn.out; omega) | exact ⟨j + 1, _, _, by go_num, Hjn.out, rfl, HI7⟩
    · have hjz : j = L := by omega
      have hji : ¬ (j : Int) < (L : Int) := by omega
      have hbw : Below w.heap.size w wr := HbV.out.trans (hkc.below (N0 := w.heap.size) (fun i hi e => by omega) (by have := HsV.out; omega))
      have HE1 : Hid (PP (.returned (.agg #[.int .i64 6, .int .i64 0, .string ⟨#[]⟩, .slice av j cv])) (wr.setCells (w.heap.size + 1) 0 (encP ((⟨6, 0, ⟨#[]⟩, []⟩ : VT), .slice av j cv)))) := by
        show PP _ _
        rw [← HPP.out]
        have hml : (t.items.mapIdx (wlkI f t.kind)).length = j := by rw [List.length_mapIdx]; have := HL.out; omega
        have heq := HI.out.eq
        rw [List.take_of_length_le (by omega)] at heq
        have hpl : ps.length = j := by have := congrArg List.length heq; rw [List.length_map, hml] at this; exact this
        have h1 := own_liesX (X := fun b => (X b ∨ V.heap.size ≤ b)) (d := 16 + d) HI.out.own hpl.symm (fun g hg => .inr (by
          obtain ⟨_, _, _, _, k9⟩ := own_slice26 HI.out.own
          exact (k9 _ hg).1)) (fun p hp => ⟨(HI.out.lie p hp).1.mono (fun _ h => h.1), (HI.out.lie p hp).2⟩) (by omega)
        rw [heq] at h1
        refine ⟨av, cv, by rw [hml, HK.out], ?_, below_put hbw (by omega) _⟩
        rw [hml]
        refine LiesX.mono (fun b hb => hb.imp id (fun hb => by have := HsV.out; omega)) (LiesX.set (g := w.heap.size + 1) (fun hb => ?_) h1)
        rcases hb with hb | hb
        · have := HXX.out _ hb; omega
        · have := HsV.out; omega
      have Hq : Hid (Bx (wr.setCells (w.heap.size + 1) 0 (encP ((⟨6, 0, ⟨#[]⟩, []⟩ : VT), .slice av j cv))) (w.heap.size + 1) (⟨6, 0, ⟨#[]⟩, []⟩ : VT) (.slice av j cv)) := Rr.out.put ((⟨6, 0, ⟨#[]⟩, []⟩ : VT), .slice av j cv)
      obtain ⟨x0, x1, x2, x3, _, _, _, _⟩ := HI.out.box
      simp only at x0 x1 x2
      rw [HK.out] at x0
      obtain ⟨z0, z1, z2, z3, y0, y1, y2, y3⟩ := Rr.out
      have Hjz : Hid (j = L) := hjz
      clear hjz hkc HI hbw Tr Rr
      go_wp2_with fail
      refine bodyPost_ret (v := .agg #[.int .i64 6, .int .i64 0, .string ⟨#[]⟩, .slice av j cv]) ?_ rfl HE1.out
      obtain ⟨q0, q1, q2, q3, _, _, _, _⟩ := Hq.out
      simp only [World.setCells, encP, Nat.zero_add, Nat.reduceAdd] at q0 q1 q2 q3
      simp [results, Tryz.results24, go_sem, q0, q1, q2, q3]

/-- walked, whatever the value. -/
theorem rwalk_any (q : Nat) (hq : q < 8) : ∀ d, d ≤ 16 → RWkC q d := by
  intro d
  induction d with
  | zero =>
    intro _ X t a c w hX h hr hd
    exact rwalk_leaf q hq _ (by omega) X t a c w hX h hr (by
      have h0 : t.items = [] := hd
      unfold leafT; rw [h0]; simp)
  | succ d ih =>
    intro hd16 X t a c w hX h hr hd
    unfold walkT
    by_cases hl : leafT t = true
    · rw [if_pos hl]; exact rwalk_leaf q hq _ (by omega) X t a c w hX h hr hl
    · rw [if_neg hl]
      obtain ⟨hk, hne⟩ := leaf_or (by simpa using hl)
      rcases hk with h4 | h6
      · exact rwalk_4 q d hd16 (ih (by omega)) X t a c w hX h hr hd hne h4
      · exact rwalk_6 q d hd16 (ih (by omega)) X t a c w hX h hr hd hne h6

end Go.Proofs.YtofceccicmlmoaaGreat

