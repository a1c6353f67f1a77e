import Derived.Test.YtlnecfjnffdciaaGreatInPlR
import Derived.Test.YtlnecfjnffdciaaGreatRangeT
import Derived.Sort.LoopGhostIn
import Derived.Sort.CutIn
import Derived.Shelf.RegionOpen
import Derived.Test.YtlnecfjnffdciaaGreatCutM
namespace Go.Proofs.YtlnecfjnffdciaaGreat
open Go.RowKit Go.Shelf

attribute [local go_sem] Oper.semAt_some

def encPt (q : Nat) {w0 : World} (s : NdS w0) : Array Value := #[.agg #[.int .i64 (q : Int), .pointer (some ⟨s.b, 0, none⟩)]]

def PrePt {w0 : World} (t : RT PT) (pre : List (NdS w0)) (s : NdS w0) (_ _ : World) : Prop := (pre.map NdS.x ++ [s.x]) <+: t.items.reverse

abbrev TyPt : Nat → Prop := fun T => T = 166

theorem own_typed {w : World} {base e size n : Nat} {v : Value} {xs : List Value} (h : w.ownsRow base e size v n xs) : ∀ r, v.ownBlock = some r → base ≤ r ∧ ∃ cur, w.heap[r]? = some (.cells cur e (0, 0)) := fun r hr => by
 rcases h.2 with ⟨rfl, _⟩ | ⟨g, cap, cur, rfl, h1, h2, _⟩
 ·cases hr
 ·have hg : g = r := by simpa [Value.ownBlock] using hr
  subst hg
  exact ⟨h1, cur, h2⟩

theorem own_stays {w w' : World} {base e size n : Nat} {v : Value} {xs : List Value} (h : w.ownsRow base e size v n xs) (hk : ∀ r cur, v.ownBlock = some r → w.heap[r]? = some (.cells cur e (0, 0)) → w'.heap[r]? = some (.cells cur e (0, 0))) : w'.ownsRow base e size v n xs := by
 refine ⟨h.1, ?_⟩
 rcases h.2 with h2 | ⟨g, cap, cur, rfl, h1, h2, h3⟩
 ·exact .inl h2
 ·exact .inr ⟨g, cap, cur, rfl, h1, hk g cur rfl h2, h3⟩

theorem own_form {w : World} {base e size n : Nat} {v : Value} {xs : List Value} (h : w.ownsRow base e size v n xs) (hn : 0 < n) : ∃ g cap, v = .slice (some ⟨g, 0, none⟩) n cap := by
 rcases h.2 with ⟨_, e⟩ | ⟨g, cap, _, e, _⟩
 ·omega
 ·exact ⟨g, cap, e⟩

theorem own_prefix {w : World} {base e size g n m cap : Nat} {xs : List Value} (h : w.ownsRow base e size (.slice (some ⟨g, 0, none⟩) n cap) n xs) (hm : m ≤ n) : w.ownsRow base e size (.slice (some ⟨g, 0, none⟩) m cap) m (xs.take (m * size)) := by
 have hms : m * size ≤ n * size := Nat.mul_le_mul_right _ hm
 refine ⟨by rw [List.length_take, h.1]; omega, ?_⟩
 rcases h.2 with ⟨e1, _⟩ | ⟨g2, cap2, cur, e1, h1, h2, h3, h4, h5, h6⟩
 ·cases e1
 ·simp only [Value.slice.injEq, Option.some.injEq, Addr.mk.injEq, and_true, true_and] at e1
  obtain ⟨rfl, rfl⟩ := e1
  refine .inr ⟨g, cap, cur, rfl, h1, h2, by omega, h4, h5, ?_⟩
  rw [← h6, List.take_take]
  congr 1
  omega

set_option maxRecDepth 100000 in
set_option maxHeartbeats 16000000 in
theorem backw1_15 {w0 : World} (q : Nat) (t : RT PT) (p : Option Addr) (hnm : NM TT 16 w0 t p) (hgood : ∀ x ∈ t.items, RightP x) (hsz : t.size ≤ 65536) (n Bp : Nat) (hn : 1 ≤ n) (w : World) (hw0 : Below w0.heap.size w0 w) (hB : Bx2 w Bp (.int .i64 (q : Int)) (.pointer p)) :
 SeqT TyPt Fence.wide n Tryz.prog 170 #[.pointer (some ⟨Bp, 0, none⟩)] (encPt q) (KpT TyPt w0.heap.size) (PrePt t) (fun xs : List (NdS w0) => xs.map NdS.x = t.items.reverse) (fun _ => True) t.items.length w := by
 intro lo J Jx W hW hJ hJx hY h0
 have hWw : Below w0.heap.size w0 W := hw0.trans (hW.mono hw0.size)
 obtain ⟨x0, x1, _, _⟩ := hB.keeps hW
 have HPl0 : Hid (Calls Tryz.prog 171 #[.slice none 0 0, .agg #[.int .i64 (q : Int), .pointer p]] W (PilePost q w0 W.heap.size [] t (.slice none 0 0) W)) := piled_15 q w0 W.heap.size hWw.size [] _ t p W hWw (Nat.le_refl _) (World.ownsRow_nil _ _ _ _) hnm hgood (by simpa using hsz)
 have HPl : Hid (∀ (L : List (NdS w0)) (v : Value) (l : RT PT) (pl : Option Addr) (V : World), Below w0.heap.size w0 V → W.heap.size ≤ V.heap.size → V.ownsRow W.heap.size 166 2 v L.length (L.flatMap (encS q)) → NM TT 16 w0 l pl → (∀ x ∈ l.items, RightP x) → L.length + l.size ≤ 65536 → Calls Tryz.prog 171 #[v, .agg #[.int .i64 (q : Int), .pointer pl]] V (PilePost q w0 W.heap.size L l v V)) := fun L v l pl V h1 h2 h3 h4 h5 h6 => piled_15 q w0 W.heap.size hWw.size L v l pl V h1 h2 h3 h4 h5 h6
 have HY : Hid _ := hY
 have HJ : Hid (OwnT TyPt W.heap.size J) := hJ
 have H0 : Hid (J [] W) := h0
 have HWw : Hid (Below w0.heap.size w0 W) := hWw
 have hlen : t.items.length ≤ 65536 := by rw [← RT.size_items]; exact hsz
 have HLe : Hid (t.items.length ≤ 65536) := hlen
 have HJk : Hid (∀ pre A V (v : Value) (xs : List Value) (k : Nat), J pre A → A.ownsRow W.heap.size 166 2 v k xs → A.grownBy V v.ownBlock → J pre V) := fun pre A V v xs k h1 h2 h3 => hJ pre A V _ h1 h3 (fun r hr => by
  obtain ⟨h4, cur, h5⟩ := own_typed h2 r hr
  exact ⟨h4, _, h5, .inr ⟨cur, _, _, rfl, rfl⟩⟩)
 clear hY hJ hJx h0 hnm hgood hsz hB hW hw0 hWw hlen
 refine callsIn_of_wp Tryz.func170 rfl trivial ?_ rfl
 simp only [Tryz.ntmps170, List.size_toArray, List.length_cons, List.length_nil, Nat.reduceAdd, Nat.reduceSub, Array.replicate_succ, Array.replicate_zero, List.push_toArray, List.append_toArray, List.nil_append, List.cons_append]
 gi_wp2
 refine ⟨trivial, ?_⟩
 refine (callsIn_wide.2 HPl0.out).mono ?_
 rintro e w1 ⟨v1, Ld1, rfl, hrow1, hto1, hgr1, _⟩
 rw [List.nil_append] at hrow1
 have HR1 : Hid (w1.ownsRow W.heap.size 166 2 v1 Ld1.length (Ld1.flatMap (encS q))) := hrow1
 have HJ1 : Hid (J [] w1) := HJk.out [] W w1 (.slice none 0 0) [] 0 H0.out (World.ownsRow_nil _ _ _ _) hgr1
 have HB1 : Hid (Below w0.heap.size w0 w1 ∧ W.heap.size ≤ w1.heap.size) := ⟨HWw.out.grown hgr1 HWw.out.size (fun k hk => by cases hk), hgr1.size⟩
 have HT1 : Hid (toC Ld1 = t.items.reverse) := hto1
 clear hrow1 hto1 hgr1 HPl0 x0 x1
 gi_wp2
 gi_loopg [3, 4, 5] t.items.length (fun z st _ _ wr => ∃ (pre L : List (NdS w0)), z = (toC L).length ∧ Hid (J pre wr) ∧ Hid (wr.ownsRow W.heap.size 166 2 st L.length (L.flatMap (encS q))) ∧ Hid (Below w0.heap.size w0 wr ∧ W.heap.size ≤ wr.heap.size) ∧ Hid (pre.map NdS.x ++ toC L = t.items.reverse))
 case atStart => exact ⟨[], Ld1, by rw [HT1.out, List.length_reverse], HJ1, HR1, HB1, by rw [HT1.out]; rfl⟩
 case round =>
  obtain ⟨pre, L, hz, HJp, HRw, HBw, HTo⟩ := hrel
  have Hz : Hid _ := hz
  clear hz HJ1 HR1 HB1 HT1
  rcases List.eq_nil_or_concat L with rfl | ⟨L', s, hLs⟩
  ·obtain ⟨av, cv, rfl⟩ : ∃ a c, u3 = .slice a 0 c := by
    rcases HRw.out.2 with ⟨e, e2⟩ | ⟨g, cap, _, e, _⟩
    ·exact ⟨none, 0, e⟩
    ·exact ⟨_, _, e⟩
   have HE : Hid (∃ xs : List (NdS w0), xs.map NdS.x = t.items.reverse ∧ J xs wr) := ⟨pre, by have := HTo.out; simpa [toC] using this, HJp.out⟩
   clear HJp HRw HBw HTo
   gi_wp2
   go_end0
   exact ⟨⟨_, rfl⟩, .inl HE.out⟩
  ·have hLs2 : L = L' ++ [s] := by simpa using hLs
   subst hLs2
   obtain ⟨k, hk⟩ : ∃ k, k = L'.length := ⟨_, rfl⟩
   obtain ⟨j, hj⟩ : ∃ j, j = (L' ++ [s]).length := ⟨_, rfl⟩
   have hjk : j = k + 1 := by rw [hj, hk, List.length_append]; rfl
   have Hjk : Hid (j = k + 1 ∧ k = L'.length) := ⟨hjk, hk⟩
   rw [← hj] at HRw
   obtain ⟨g, cap, rfl⟩ := own_form HRw.out (by omega)
   have hcap : j ≤ cap := by
    rcases HRw.out.2 with ⟨e1, _⟩ | ⟨g2, cap2, cur, e1, h1, h2, h3, _⟩
    ·cases e1
    ·simp only [Value.slice.injEq, true_and] at e1
     omega
   have hgl : g < wr.heap.size := (HRw.out.lt g rfl).2
   have hfl : (L' ++ [s]).flatMap (encS q) = L'.flatMap (encS q) ++ [.int .i64 (q : Int), .pointer (some ⟨s.b, 0, none⟩)] := by rw [List.flatMap_append]; simp [encS]
   have hl2 : (L'.flatMap (encS q)).length = k * 2 := by rw [flat_encS, hk]
   have c0 : wr.cell? ⟨g, k * 2, none⟩ = some (.int .i64 (q : Int)) := by
    rw [HRw.out.cellAt (k * 2) (by omega), hfl, List.getElem?_append_right (by omega), hl2, Nat.sub_self]; rfl
   have c1 : wr.cell? ⟨g, k * 2 + 1, none⟩ = some (.pointer (some ⟨s.b, 0, none⟩)) := by
    rw [HRw.out.cellAt (k * 2 + 1) (by omega), hfl, List.getElem?_append_right (by omega), hl2, show k * 2 + 1 - k * 2 = 1 by omega]; rfl
   have HRp : Hid (wr.ownsRow W.heap.size 166 2 (.slice (some ⟨g, 0, none⟩) k cap) L'.length (L'.flatMap (encS q))) := by
    have h9 := own_prefix HRw.out (m := k) (by omega)
    rw [hfl, List.take_left' (by rw [hl2])] at h9
    rw [← hk]
    exact h9
   have hpl : L'.length + s.l.size ≤ 65536 := by
    have h1 := congrArg List.length HTo.out
    rw [toC_snoc] at h1
    have h2 := toC_len L'
    have h3 := HLe.out
    simp only [List.length_append, List.length_cons, List.length_reverse, List.length_map] at h1
    rw [RT.size_items]
    omega
   have hpre : (pre.map NdS.x ++ [s.x]) <+: t.items.reverse := by
    rw [← HTo.out, toC_snoc]
    exact ⟨s.l.items.reverse ++ toC L', by simp⟩
   have hplt : pre.length < t.items.length := by
    have := hpre.length_le
    simp at this
    omega
   have hnext : (pre ++ [s]).map NdS.x ++ (s.l.items.reverse ++ toC L') = t.items.reverse := by
    rw [← HTo.out, toC_snoc]; simp
   have hzz : (toC (L' ++ [s])).length = (s.l.items.reverse ++ toC L').length + 1 := by rw [toC_snoc]; rfl
   obtain ⟨b', pl, pr, ku, vu, hbe, hnc, _, _, hnl, _⟩ := s.nm
   have hbe2 : s.b = b' := by simpa using hbe
   subst hbe2
   have HAh : Hid (∀ V, Below wr.heap.size wr V → Calls Tryz.prog 125 #[.agg #[.int .i64 (q : Int), .pointer (some ⟨s.b, 0, none⟩)]] V (PartPost q pl V)) := fun V hV => pahead_15 q s.b pl pr s.x ku vu s.c _ _ _ V (hnc.keeps (HBw.out.1.trans (hV.mono HBw.out.1.size)))
   have HP2 : Hid (∀ V, Below wr.heap.size wr V → Calls Tryz.prog 171 #[.slice (some ⟨g, 0, none⟩) k cap, .agg #[.int .i64 (q : Int), .pointer pl]] V (PilePost q w0 W.heap.size L' s.l (.slice (some ⟨g, 0, none⟩) k cap) V)) := fun V hV => HPl.out L' _ s.l pl V (HBw.out.1.trans (hV.mono HBw.out.1.size)) (Nat.le_trans HBw.out.2 hV.size) (own_keeps HRp.out hV) hnl (fun x hx => s.good x (by simp [RT.items, hx])) hpl
   have HJ2 : Hid (∀ V V2, Below wr.heap.size wr V → V.grownBy V2 (Value.slice (some ⟨g, 0, none⟩) k cap).ownBlock → J pre V2) := fun V V2 h1 h2 => HJk.out pre V V2 _ _ _ (HJ.out pre wr V none HJp.out (grown_of_belowY h1) (fun r e => by cases e)) (own_keeps HRp.out h1) h2
   have HB2 : Hid (∀ V V2, Below wr.heap.size wr V → V.grownBy V2 (Value.slice (some ⟨g, 0, none⟩) k cap).ownBlock → Below w0.heap.size w0 V2 ∧ W.heap.size ≤ V2.heap.size) := fun V V2 h1 h2 => by
    have h3 := HBw.out.1.trans (h1.mono HBw.out.1.size)
    refine ⟨h3.grown h2 h3.size (fun r hr => ?_), Nat.le_trans HBw.out.2 (Nat.le_trans h1.size h2.size)⟩
    have h4 := (HRp.out.lt r hr).1
    have h5 := HWw.out.size
    omega
   have HYs : Hid (∀ V, J pre V → YieldAt Fence.wide (n - 1) Tryz.prog lo #[.agg #[.int .i64 (q : Int), .pointer (some ⟨s.b, 0, none⟩)]] V fun e W' => (e = .returned (.bool true) ∧ J (pre ++ [s]) W' ∧ KpT TyPt w0.heap.size W.heap.size V W') ∨ (e = .returned (.bool false) ∧ Jx (pre ++ [s]) W' ∧ KpT TyPt w0.heap.size W.heap.size V W')) := fun V hV => HY.out pre s V V hV (Below.refl _ _) hpre hplt
   have HNx : Hid ((pre ++ [s]).map NdS.x ++ (s.l.items.reverse ++ toC L') = t.items.reverse ∧ (toC (L' ++ [s])).length = (s.l.items.reverse ++ toC L').length + 1) := ⟨hnext, hzz⟩
   have e1 : IntKind.i64.wrap ((j : Int) - 1) = (k : Int) := by
    have h1 := HLe.out
    have h2 := toC_len L'
    rw [IntKind.wrap_i64]; omega
   have hpos : (0 : Int) < (j : Int) := by omega
   have hk0 : (0 : Int) ≤ (k : Int) := by omega
   have hkj : (k : Int) < (j : Int) := by omega
   have hkc : (k : Int) ≤ (cap : Int) := by omega
   have hkn : k ≤ cap := by omega
   have HRwx : Hid (∀ V V2, Below wr.heap.size wr V → V.grownBy V2 (Value.slice (some ⟨g, 0, none⟩) k cap).ownBlock → ∀ o, o < V.heap.size → o ≠ g → V2.heap[o]? = V.heap[o]?) := fun V V2 _ h2 o ho hne => h2.block o ho (fun e => hne (by injection e))
   clear hjk hk hj hfl hl2 hpl hpre hplt hnext hzz hbe hnc hnl HRw HRp HTo HJp HBw hcap hLs
   obtain ⟨sb, hsb⟩ : ∃ sb, sb = s.b := ⟨_, rfl⟩
   rw [← hsb] at c1 HAh HYs
   clear hsb
   gi_upto_region 4 with fail
   obtain ⟨WA, hWA⟩ : ∃ WA, WA = wr.alloc (.cells #[.int .i64 (q : Int), .pointer (some ⟨sb, 0, none⟩)] 166) := ⟨_, rfl⟩
   rw [← hWA]
   have hA : Below wr.heap.size wr WA := by rw [hWA]; exact ((Grew.refl wr).alloc _).below
   have hAs : wr.heap.size < WA.heap.size := by rw [hWA]; simp
   have y0 : WA.cell? ⟨wr.heap.size, 0, none⟩ = some (.int .i64 (q : Int)) := by rw [hWA]; simp
   have y1 : WA.cell? ⟨wr.heap.size, 1, none⟩ = some (.pointer (some ⟨sb, 0, none⟩)) := by rw [hWA]; simp
   clear hWA c0 c1
   have hgw : wr.heap.size ≠ g := by omega
   have hmx : Tryz.prog.follows .mixedOrders = true := by kernel_rfl
   gi_region_with_o (first
    | (refine ⟨trivial, ?_⟩; refine (callsIn_wide.2 (HAh.out _ hA.drew)).mono ?_; rintro e w2 ⟨rfl, hg2⟩; have hb2 : Below wr.heap.size wr w2 := hA.drew.trans (hg2.mono hA.drew.size); have y0 := cell_keeps hg2 (show WA.drew.cell? _ = _ from y0); have y1 := cell_keeps hg2 (show WA.drew.cell? _ = _ from y1); have hs2 : wr.heap.size < w2.heap.size := Nat.lt_of_lt_of_le hAs hg2.size; clear hg2)
    | (refine ⟨trivial, ?_⟩; refine (callsIn_wide.2 (HP2.out _ hb2)).mono ?_; rintro e w4 ⟨v4, Ld, rfl, hrow4, hto4, hgr4, hown4⟩; have hblk := HRwx.out _ _ hb2 hgr4 _ hs2 hgw; have y0 := (World.cell?_of_block (a := ⟨wr.heap.size, 0, none⟩) hblk).trans y0; have y1 := (World.cell?_of_block (a := ⟨wr.heap.size, 1, none⟩) hblk).trans y1; have hj4 : J pre w4 := HJ2.out _ _ hb2 hgr4; have hB4 := HB2.out _ _ hb2 hgr4; have hyy := HYs.out w4 hj4; clear hblk))
   have HN4 : Hid (v4 = v4 ∧ toC (L' ++ Ld) = s.l.items.reverse ++ toC L') := ⟨rfl, by rw [toC_app, hto4]⟩
   have HR4 : Hid (w4.ownsRow W.heap.size 166 2 v4 (L' ++ Ld).length ((L' ++ Ld).flatMap (encS q))) := hrow4
   have HB4 : Hid (Below w0.heap.size w0 w4 ∧ W.heap.size ≤ w4.heap.size) := hB4
   obtain ⟨fn, tm, asg, bod, hy, hR⟩ := hyy
   clear hrow4 hto4 hgr4 hown4 hj4 hB4 hb2 hs2 HAh HP2 HJ2 HB2 HYs HRwx hA hAs e1 hpos hk0 hkj hkc hkn hgl hgw
   gi_wp2
   refine hR.mono ?_
   rintro e W3 (⟨rfl, hJ3, hk3⟩ | ⟨rfl, hJx3, _⟩)
   ·have HR3 : Hid (W3.ownsRow W.heap.size 166 2 v4 (L' ++ Ld).length ((L' ++ Ld).flatMap (encS q))) := own_stays HR4.out (fun r cur _ h => hk3.2.1 r cur _ _ rfl h)
    have HB3 : Hid (Below w0.heap.size w0 W3 ∧ W.heap.size ≤ W3.heap.size) := ⟨HB4.out.1.trans hk3.1, Nat.le_trans HB4.out.2 hk3.1.size⟩
    have HT3 : Hid ((pre ++ [s]).map NdS.x ++ toC (L' ++ Ld) = t.items.reverse) := by rw [HN4.out.2]; exact HNx.out.1
    have HZ3 : Hid ((toC (L' ++ Ld)).length < gk) := by rw [Hz.out, HNx.out.2, HN4.out.2]; exact Nat.lt_succ_self _
    have HJ3 : Hid (J (pre ++ [s]) W3) := hJ3
    clear hJ3 hk3 hy hR HR4 HB4 HN4 HNx
    gi_wp2
    gi_roundg ((toC (L' ++ Ld)).length)
    case measure => exact HZ3.out
    case rel => exact ⟨pre ++ [s], L' ++ Ld, rfl, HJ3, HR3, HB3, HT3⟩
   ·gi_wp2
    refine bodyPost_ret (results_none rfl _ _ _) rfl ?_
    exact ⟨⟨_, rfl⟩, .inr ⟨_, trivial, hJx3⟩⟩

end Go.Proofs.YtlnecfjnffdciaaGreat

namespace Go.Proofs.YtlnecfjnffdciaaGreat
open Go.RowKit Go.Shelf

attribute [local go_sem] Oper.semAt_some

set_option maxRecDepth 100000 in
theorem backwards_15 (q : Nat) (p : Option Addr) (w : World) : Calls Tryz.prog 129 #[.agg #[.int .i64 (q : Int), .pointer p]] w fun e w' => e = .returned (.func (.func 170) #[] #[.pointer (some ⟨w.heap.size, 0, none⟩)]) ∧ w' = w.alloc (.cells #[.int .i64 (q : Int), .pointer p] 166) := by
 go_enter Tryz.func129, Tryz.ntmps129
 go_wp2_with fail
 go_ret
 exact ⟨rfl, rfl⟩

def BkI {w0 : World} (J : List CQ → World → Prop) (lo By : Nat) (pre : List (NdS w0)) (W : World) : Prop :=
 ∃ ys : List CQ, ys.map CQ.t = pre.map NdS.x ∧ J ys W ∧ Go.Boxed W By 39 (.func (.yield lo) #[] #[]) ∧ Below w0.heap.size w0 W

def BkX {w0 : World} (Jx : List CQ → World → Prop) (c : Code) (_ : List (NdS w0)) (W : World) : Prop := c = .ret ∧ ∃ ys, Jx ys W

theorem BkI.own {w0 : World} (J : List CQ → World → Prop) (lo By B M : Nat) (hJ : OwnT TyPt B J) (hB : B ≤ M) (h1 : By < M) (h3 : w0.heap.size ≤ M) : OwnT TyPt M (BkI (w0 := w0) J lo By) := by
 intro s A V row hs hg hr
 obtain ⟨ys, hy, hj, b1, hb⟩ := hs
 refine ⟨ys, hy, hJ ys A V row hj hg (fun r e => ⟨by have := (hr r e).1; omega, (hr r e).2⟩), b1.kept hg (fun e => ?_), hb.grown hg hb.size (fun k e => ?_)⟩
 ·have := (hr _ e.symm).1; omega
 ·have := (hr _ e).1; omega

theorem BkX.own {w0 : World} (Jx : List CQ → World → Prop) (c : Code) (B M : Nat) (hJ : OwnT TyPt B Jx) (hB : B ≤ M) : OwnT TyPt M (BkX (w0 := w0) Jx c) := by
 intro s A V row hs hg hr
 obtain ⟨hc, ys, hj⟩ := hs
 exact ⟨hc, ys, hJ ys A V row hj hg (fun r e => ⟨by have := (hr r e).1; omega, (hr r e).2⟩)⟩

def BkA {w0 : World} (q : Nat) (t : RT PT) (f : NdS w0 → Nat → Act) (pre : List (NdS w0)) (x : NdS w0) (a : Act) (W : World) : Prop := (∃ Bx, W.heap[Bx]? = some (.cells #[.int .i64 (q : Int), .pointer (some ⟨x.b, 0, none⟩)] 166 (0, 0)) ∧ a = f x Bx) ∧ (pre.map NdS.x ++ [x.x]) <+: t.items.reverse

theorem BkA.own {w0 : World} (q : Nat) (t : RT PT) (M : Nat) (f : NdS w0 → Nat → Act) (pre : List (NdS w0)) (x : NdS w0) (a : Act) : OwnFrom M (fun (_ : Unit) W => BkA q t f pre x a W) := by
 intro s A V row hs hg hr
 obtain ⟨⟨Bx, b8, rfl⟩, hpx⟩ := hs
 refine ⟨⟨Bx, (hg.block _ (Array.getElem?_eq_some_iff.1 b8).1 (fun e => ?_)).trans b8, rfl⟩, hpx⟩
 obtain ⟨_, o, ho, hoc⟩ := hr _ e.symm
 rw [b8] at ho
 cases ho
 simp [Obj.isCells] at hoc

abbrev TyBk : Nat → Prop := fun T => T = 166 ∨ T = 39

set_option maxRecDepth 100000 in
set_option maxHeartbeats 16000000 in
theorem mback1_15 {w0 : World} {q : Nat} {t : RT PT} {b : Nat} (h : MC w0 q t b) (n Bm : Nat) (hn : 3 ≤ n) (w : World) (hw0 : Below w0.heap.size w0 w) (hm : w.cell? ⟨Bm, 0, none⟩ = some (.pointer (some ⟨b, 0, none⟩))) :
 SeqT TyPt Fence.wide n Tryz.prog 128 #[.pointer (some ⟨Bm, 0, none⟩)] encCQ (KpT TyBk w0.heap.size) (PreCQ t.items.reverse) (fun xs => xs.map CQ.t = t.items.reverse) (fun _ => True) t.items.length w := by
 intro lo J Jx W hW hJ hJx hY h0
 have hm1 := cell_keeps hW hm
 have hlm := cell_lt hm1
 have hWw : Below w0.heap.size w0 W := hw0.trans (hW.mono hw0.size)
 obtain ⟨p, hp, hnm⟩ := h.top
 have HWh : Hid (∀ V, Below w0.heap.size w0 V → Calls Tryz.prog 122 #[.pointer (some ⟨b, 0, none⟩)] V (PartPost q p V)) := fun V hV => whole_15 b q p V (cell_keeps hV h.ord) (cell_keeps hV hp)
 have HSt : Hid (∀ (n Bp : Nat) (V : World), 1 ≤ n → Below w0.heap.size w0 V → Bx2 V Bp (.int .i64 (q : Int)) (.pointer p) → SeqT TyPt Fence.wide n Tryz.prog 170 #[.pointer (some ⟨Bp, 0, none⟩)] (encPt (w0 := w0) q) (KpT TyPt w0.heap.size) (PrePt t) (fun xs : List (NdS w0) => xs.map NdS.x = t.items.reverse) (fun _ => True) t.items.length V) := fun n Bp V h1 h2 h3 => backw1_15 q t p hnm (fun x hx => ⟨(h.right x hx).1.1, (h.right x hx).2.1⟩) h.size n Bp h1 V h2 h3
 have HY : Hid _ := hY
 have HJ : Hid (OwnT TyPt W.heap.size J) := hJ
 have HJx : Hid (OwnT TyPt W.heap.size Jx) := hJx
 have H0 : Hid (J [] W) := h0
 simp only at hlm
 clear hY hJ hJx h0 hnm hp h
 refine callsIn_of_wp_marks Tryz.func128 rfl trivial ?_ rfl
 simp only [Tryz.ntmps128, List.size_toArray, List.length_cons, List.length_nil, Nat.reduceAdd, Nat.reduceSub, Array.replicate_succ, Array.replicate_zero, List.push_toArray, List.append_toArray, List.nil_append, List.cons_append]
 gi_wp2
 first | refine ⟨trivial, (fun h => by cases h), ?_⟩ | refine ⟨trivial, ?_⟩
 refine (callsIn_wide.2 (HWh.out _ (hWw.trans (((Grew.refl W).alloc _).below.mono hWw.size)))).mono ?_
 rintro e w1 ⟨rfl, hg1⟩
 gi_wp2
 first | refine ⟨trivial, (fun h => by cases h), ?_⟩ | refine ⟨trivial, ?_⟩
 refine (callsIn_wide.2 (backwards_15 _ _ _)).mono ?_
 rintro e w2 ⟨rfl, hw2⟩
 gi_wp2
 obtain ⟨Wi, hWi⟩ : ∃ Wi, Wi = w1.alloc (.cells #[.int .i64 (q : Int), .pointer p] 166) := ⟨_, rfl⟩
 rw [← hWi]
 have hsz : Wi.heap.size = w1.heap.size + 1 := by rw [hWi]; simp
 have hyb := ((Grew.refl W).alloc (.cells #[.func (.yield lo) #[] #[]] 39)).below
 have hw1l : W.heap.size < w1.heap.size := by have := hg1.size; rw [World.size_alloc] at this; omega
 have hbw1 : Below W.heap.size W w1 := hyb.trans (hg1.mono hyb.size)
 have hbi : Below W.heap.size W Wi := by rw [hWi]; exact hbw1.trans ((((Grew.refl w1).alloc _).below).mono hbw1.size)
 have hw0i : Below w0.heap.size w0 Wi := hWw.trans (hbi.mono hWw.size)
 have hws : w0.heap.size ≤ W.heap.size := hWw.size
 have bY : Go.Boxed Wi W.heap.size 39 (.func (.yield lo) #[] #[]) := by
  rw [hWi]
  have h9 := Go.Boxed.new W 39 (.func (.yield lo) #[] #[])
  exact Go.Boxed.alloc (show Go.Boxed w1 W.heap.size _ _ from (hg1.block _ h9.lt).trans h9) _
 have cP : Bx2 Wi w1.heap.size (.int .i64 (q : Int)) (.pointer p) := by rw [hWi]; exact bx2_alloc _ _ _ _
 have hJi : J [] Wi := HJ.out [] W Wi none H0.out (grown_of_belowY hbi) (fun r e => by cases e)
 clear hm1 hm hg1 hWi hw2 hyb hbw1 HWh
 refine rangeT (α := NdS w0) (Ty := TyPt) rfl (by omega) (gf := 170) (lb := #[.pointer (some ⟨w1.heap.size, 0, none⟩)]) rfl trivial (enters_of Tryz.func170 (by kernel_rfl) rfl)
  (HSt.out _ _ Wi (by omega) hw0i cP) kpT_t (fun W o o' hl ho => kpT_b (by omega) (by omega) W o o' hl ho) (Below.refl _ _) (fun _ => rfl)
  (BkI J lo W.heap.size) (BkX Jx) (BkI.own J lo _ W.heap.size _ HJ.out (by omega) (by omega) (by omega)) (fun c => BkX.own Jx c W.heap.size _ HJx.out (by omega)) ?h0
  (BkA q t (fun x Bx => { tmps := #[.func (.yield lo) #[] #[], .pointer (some ⟨Bm, 0, none⟩), .pointer (some ⟨W.heap.size, 0, none⟩), .pointer (some ⟨Bx, 0, none⟩), undef, .pointer (some ⟨b, 0, none⟩), .agg #[.int .i64 (q : Int), .pointer p], .func (.func 170) #[] #[.pointer (some ⟨w1.heap.size, 0, none⟩)], .agg #[.int .i64 (q : Int), .pointer (some ⟨x.b, 0, none⟩)], undef, undef, undef, undef, undef, undef, undef, undef, undef], defers := [] })) (fun pre x a' => BkA.own _ _ _ _ _ _ _) ?assign ?body ?done ?stop
 case h0 => exact ⟨[], rfl, hJi, bY, hw0i⟩
 case assign =>
  rintro lp pre x V0 V K hI hVV hpx hK
  have hI2 : BkI J lo W.heap.size pre V := BkI.own J lo W.heap.size W.heap.size Wi.heap.size HJ.out (by omega) (by omega) (by omega) pre V0 V none hI (grown_of_belowY hVV) (fun r e => by cases e)
  obtain ⟨ys, hys, hj, b1, hB⟩ := hI2
  have hba : Below V.heap.size V (V.alloc (.cells #[.int .i64 (q : Int), .pointer (some ⟨x.b, 0, none⟩)] 166)) := ((Grew.refl V).alloc _).below
  have HK : Hid (K _ _) := hK _ _ ((KeepsOthers.alloc V (.cells #[.int .i64 (q : Int), .pointer (some ⟨x.b, 0, none⟩)] 166)).from _) ⟨hba.mono hB.size, KTy.below hba, keepsBelowY hba⟩ ⟨ys, hys, HJ.out ys V _ none hj (grown_of_belowY hba) (fun r e => by cases e), b1.alloc _, hB.trans (hba.mono hB.size)⟩ ⟨⟨V.heap.size, World.alloc_heap_new V _, rfl⟩, hpx⟩
  obtain ⟨sb, hsb⟩ : ∃ sb, sb = x.b := ⟨_, rfl⟩
  unfold encPt
  dsimp only at HK ⊢
  rw [← hsb] at HK ⊢
  clear hK hsb
  gi_wp2
  exact HK.out
 case body =>
  rintro lp pre x a' V hlp ⟨ys, hys, hj, b1, hB⟩ ⟨⟨Bx, b8, rfl⟩, hpx⟩ hlt
  have hyl : ys.length = pre.length := by have := congrArg List.length hys; rwa [List.length_map, List.length_map] at this
  obtain ⟨b', pl, pr, ku, vu, hbe, hnc, hku, hvu, _, _⟩ := x.nm
  have hbe2 : x.b = b' := by simpa using hbe
  subst hbe2
  have hgx := x.good x.x (by simp [RT.items])
  have hVd : Below V.heap.size V V.drew := (Below.refl _ _).drew
  have HCp : Hid (∀ V', Below V.heap.size V V' → Calls Tryz.prog 130 #[.agg #[.int .i64 (q : Int), .pointer (some ⟨x.b, 0, none⟩)]] V' (CopiedPost x.x V')) := fun V' hV' => ppair_15 q x.b pl pr x.x ku vu x.c _ _ _ V' (hnc.keeps (hB.trans (hV'.mono hB.size))) (Lies.keeps (hB.trans (hV'.mono hB.size)) _ _ _ hku.1.lies) (Lies.keeps (hB.trans (hV'.mono hB.size)) _ _ _ hvu.1.lies) hgx
  have hTx : x.x.1.text.size ≤ 9223372036854775807 ∧ x.x.2.text.size ≤ 9223372036854775807 := ⟨hku.2, hvu.2⟩
  have y0 : V.cell? ⟨Bx, 0, none⟩ = some (.int .i64 (q : Int)) := by unfold World.cell?; simp [b8]
  have y1 : V.cell? ⟨Bx, 1, none⟩ = some (.pointer (some ⟨x.b, 0, none⟩)) := by unfold World.cell?; simp [b8]
  have hlx : Bx < V.heap.size := (Array.getElem?_eq_some_iff.1 b8).1
  have HSb : Hid ((pre ++ [x]).map NdS.x = pre.map NdS.x ++ [x.x]) := by show _ = _; rw [List.map_append]; rfl
  have HPx : Hid (pre ++ [x] = pre ++ [x]) := rfl
  obtain ⟨z, hz⟩ : ∃ z, z = x.x := ⟨_, rfl⟩
  rw [← hz] at HCp hTx hpx HSb
  obtain ⟨sb, hsb⟩ : ∃ sb, sb = x.b := ⟨_, rfl⟩
  dsimp only
  rw [← hsb] at HCp y1 ⊢
  obtain ⟨k, v⟩ := z
  have HY8 : Hid _ := HY.out
  clear HSt b8 hnc hku hvu hgx hz hsb hbe
  gi_wp2
  first | refine ⟨trivial, (fun h => by cases h), ?_⟩ | refine ⟨trivial, ?_⟩
  refine (CallsIn.inRound lp (callsIn_wide.2 (HCp.out V (Below.refl _ _)))).mono ?_
  rintro e w2 ⟨u1, u2, rfl, hL1, hL2, hg1⟩
  obtain ⟨a1, c1, rfl, _⟩ := LiesB.slice hL1
  obtain ⟨a2, c2, rfl, _⟩ := LiesB.slice hL2
  simp only at hL1 hL2
  have d1 : Go.Boxed w2 W.heap.size 39 (.func (.yield lo) #[] #[]) := (hg1.block _ b1.lt).trans b1
  have hbn : Below V.heap.size V (w2.alloc (.cells #[.int .i64 k.kind, .int .i64 k.num, .string k.text, .slice a1 k.items.length c1, .int .i64 v.kind, .int .i64 v.num, .string v.text, .slice a2 v.items.length c2] 69)) := hg1.alloc hg1.size _
  have hN1 : NewC V.heap.size (w2.alloc (.cells #[.int .i64 k.kind, .int .i64 k.num, .string k.text, .slice a1 k.items.length c1, .int .i64 v.kind, .int .i64 v.num, .string v.text, .slice a2 v.items.length c2] 69)) ⟨k, v, a1, c1, a2, c2⟩ := ⟨⟨LiesB.keepsB ((Below.refl _ _).alloc (Nat.le_refl _) _) hL1, hTx.1⟩, ⟨LiesB.keepsB ((Below.refl _ _).alloc (Nat.le_refl _) _) hL2, hTx.2⟩⟩
  have hpx2 : (ys.map CQ.t ++ [(CQ.mk k v a1 c1 a2 c2).t]) <+: t.items.reverse := by
   rw [hys]
   exact hpx
  have hyy := HY.out ys ⟨k, v, a1, c1, a2, c2⟩ V _ hj hbn ⟨hN1, hpx2⟩ (by rw [hyl]; exact hlt)
  obtain ⟨fn, tm, asg, bod, hy, hR⟩ := hyy
  simp only [encCQ] at hy
  have d2 := d1.cell
  have d3 := d1.lt
  clear HCp hpx hpx2 y0 y1
  gi_wp2
  first | refine ⟨(fun h => by cases h), ?_⟩ | skip
  refine (roundIn_inX hR lp _).mono ?_
  have Hfin : Hid (∀ w3, J (ys ++ [⟨k, v, a1, c1, a2, c2⟩]) w3 → KpT TyBk w0.heap.size W.heap.size (w2.alloc (.cells #[.int .i64 k.kind, .int .i64 k.num, .string k.text, .slice a1 k.items.length c1, .int .i64 v.kind, .int .i64 v.num, .string v.text, .slice a2 v.items.length c2] 69)) w3 → KeepsFrom Wi.heap.size V w3 ∧ KpT TyPt w0.heap.size (Wi.heap.size + 2) V w3 ∧ BkI J lo W.heap.size (pre ++ [x]) w3) := fun w3 h1 hk => ⟨(keepsBelowY hbn).trans (keepsLaterY hk.2.2 (by omega)), ⟨(hbn.mono hB.size).trans hk.1, (KTy.below hbn).trans (hk.2.1.sub (fun T h => .inl h)), (keepsBelowY hbn).trans (keepsLaterY hk.2.2 (by omega))⟩, _, by rw [List.map_append, hys, HSb.out]; rfl, h1, hk.2.1 _ _ _ _ (.inr rfl) (d1.alloc _), hB.trans ((hbn.mono hB.size).trans hk.1)⟩
  have Hstp : Hid (∀ w3, Jx (ys ++ [⟨k, v, a1, c1, a2, c2⟩]) w3 → KpT TyBk w0.heap.size W.heap.size (w2.alloc (.cells #[.int .i64 k.kind, .int .i64 k.num, .string k.text, .slice a1 k.items.length c1, .int .i64 v.kind, .int .i64 v.num, .string v.text, .slice a2 v.items.length c2] 69)) w3 → KeepsFrom Wi.heap.size V w3 ∧ KpT TyPt w0.heap.size (Wi.heap.size + 2) V w3 ∧ BkX Jx .ret (pre ++ [x]) w3) := fun w3 h1 hk => ⟨(keepsBelowY hbn).trans (keepsLaterY hk.2.2 (by omega)), ⟨(hbn.mono hB.size).trans hk.1, (KTy.below hbn).trans (hk.2.1.sub (fun T h => .inl h)), (keepsBelowY hbn).trans (keepsLaterY hk.2.2 (by omega))⟩, rfl, _, h1⟩
  rintro e w3 (⟨rfl, hj2, hk2⟩ | ⟨rfl, hj2, hk2⟩)
  ·have HE : Hid _ := Hfin.out w3 hj2 hk2
   clear hj2 hk2 Hfin Hstp hy hR d1 d2 d3 hN1 hbn hL1 hL2 hg1
   gi_wp2
   exact HE.out
  ·have HE : Hid _ := Hstp.out w3 hj2 hk2
   clear hj2 hk2 Hfin Hstp hy hR d1 d2 d3 hN1 hbn hL1 hL2 hg1
   gi_wp2
   exact HE.out
 case done =>
  rintro D xs V hD hxs ⟨ys, hys, hj, b1, hB⟩ hK
  have HM : Hid (MarksX W.heap.size V [D]) := MarksX.one (by omega) hK
  have HT : Hid (J ys V) := hj
  have HS : Hid (ys.map CQ.t = t.items.reverse) := hys.trans hxs
  clear hj b1 hB hK hys hxs
  gi_wp2
  refine leavesX W.heap.size (fun V => J ys V) (fun V D hD hK hT => OwnFrom.putObj (show OwnFrom W.heap.size J from HJ.out.own) _ hT hD hK rfl) (fun V hT => ⟨.tuple #[], by simp [results, Tryz.results128, go_sem], ⟨_, rfl⟩, .inl ⟨ys, HS.out, hT⟩⟩) [D] V HM.out HT.out
 case stop =>
  rintro D c pre V hD _ ⟨rfl, ys, hj⟩ hK
  have HM : Hid (MarksX W.heap.size V [D]) := MarksX.one (by omega) hK
  have HT : Hid (Jx ys V) := hj
  clear hj hK
  gi_wp2
  refine leavesX W.heap.size (fun V => Jx ys V) (fun V D hD hK hT => OwnFrom.putObj (show OwnFrom W.heap.size Jx from HJx.out.own) _ hT hD hK rfl) (fun V hT => ⟨.tuple #[], by simp [results, Tryz.results128, go_sem], ⟨_, rfl⟩, .inr ⟨ys, trivial, hT⟩⟩) [D] V HM.out HT.out

end Go.Proofs.YtlnecfjnffdciaaGreat

