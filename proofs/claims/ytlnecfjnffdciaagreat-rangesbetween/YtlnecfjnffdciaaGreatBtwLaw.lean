import Derived.Test.YtlnecfjnffdciaaGreatBackS
import Derived.Test.YtlnecfjnffdciaaGreatGnP
import Derived.Test.YtlnecfjnffdciaaGreatHeldIn
import Derived.Test.YtlnecfjnffdciaaGreatSpeaks15
import Derived.Test.YtlnecfjnffdciaaGreatRBtw15
import Derived.Test.YtlnecfjnffdciaaGreatPairsS
namespace Go.Proofs.YtlnecfjnffdciaaGreat
open Go.RowKit Go.Shelf

attribute [local go_sem] Oper.semAt_some

theorem eql_nilF15 (f : Fn) (lb : Array Value) (W : World) : Sem.run Tryz.prog (binOp BinOp.eql 137 (.func f #[] lb) .nilFunc) W = .ok (.bool false) W := by
 first | kernel_rfl | rfl

set_option maxRecDepth 100000 in
theorem mback_15 (p : Option Addr) (w : World) : Calls Tryz.prog 87 #[.pointer p] w fun e w' => e = .returned (.func (.func 128) #[] #[.pointer (some ⟨w.heap.size, 0, none⟩)]) ∧ w' = w.alloc (.cells #[.pointer p] 23) := by
 go_enter Tryz.func87, Tryz.ntmps87
 go_wp2_with fail
 go_ret
 exact ⟨rfl, rfl⟩

def BaA (l : List (VT × VT)) (f : CQ → Nat → Nat → Act) (pre : List CQ) (x : CQ) (a : Act) (W : World) : Prop :=
 ∃ Bk Bv, BoxV W Bk x.k (.slice x.a1 x.k.items.length x.c1) ∧ BoxV W Bv x.v (.slice x.a2 x.v.items.length x.c2) ∧ LiesX TT 16 W x.k.items (.slice x.a1 x.k.items.length x.c1) ∧ LiesX TT 16 W x.v.items (.slice x.a2 x.v.items.length x.c2) ∧ (pre.map CQ.t ++ [x.t]) <+: l ∧ a = f x Bk Bv

theorem BaA.own (l : List (VT × VT)) (M : Nat) (f : CQ → Nat → Nat → Act) (pre : List CQ) (x : CQ) (a : Act) : OwnFrom M (fun (_ : Unit) W => BaA l f pre x a W) := by
 intro s A V row hs hg hr
 obtain ⟨Bk, Bv, bk, bv, hL, hL2, hp, rfl⟩ := hs
 have hr2 : ∀ r, row = some r → ∃ o : Obj, A.heap[r]? = some o ∧ o.isCells = false := fun r e => (hr r e).2
 exact ⟨Bk, Bv, boxV_grownY hg hr2 bk, boxV_grownY hg hr2 bv, hL.stays (fun _ h => h) (fun _ _ _ hu => cell_grownY hg hr2 hu), hL2.stays (fun _ h => h) (fun _ _ _ hu => cell_grownY hg hr2 hu), hp, rfl⟩

theorem KTy.set {Ty : Nat → Prop} {W : World} {B : Nat} {x u : Value} {T : Nat} (h : Go.Boxed W B T x) (hT : ¬ Ty T) : KTy Ty W (W.setCell ⟨B, 0, none⟩ u) := fun k cur T2 fz h2 hk => by
 have hne : k ≠ B := fun e => by
  subst e
  have h' : W.heap[k]? = some (.cells #[x] T (0, 0)) := h
  rw [h'] at hk
  injection hk with hk
  injection hk with _ hk _
  exact hT (hk ▸ h2)
 rw [Below.heap_setCell _ _ _ _ hne]
 exact hk

def AaI (w : World) (v : Value) (N : Nat) (l : List (VT × VT)) (pre : List CQ) (W : World) : Prop :=
 Go.Boxed W w.heap.size 22 v ∧ Go.Boxed W (w.heap.size + 1) 4 (.bool false) ∧ Go.Boxed W (w.heap.size + 1 + 1 + 1) 3 (.int .i64 ((N : Int) - (pre.length : Int))) ∧ Below w.heap.size w W ∧ pre.map CQ.t <+: l

theorem keepsFrom_set {W : World} {B n : Nat} {u : Value} (hB : B < n) : KeepsFrom n W (W.setCell ⟨B, 0, none⟩ u) :=
 ⟨by simp, fun k o hk ho _ => (Below.heap_setCell _ _ _ _ (by simp; omega)).trans ho⟩

theorem AaI.own (w : World) (v : Value) (N : Nat) (l : List (VT × VT)) (M : Nat) (hM : w.heap.size + 1 + 1 + 1 < M) : OwnT TyPt M (AaI w v N l) := by
 intro s A V row hs hg hr
 obtain ⟨b1, b2, b3, hb, hp⟩ := hs
 refine ⟨b1.kept hg (fun e => by have := (hr _ e.symm).1; omega), b2.kept hg (fun e => by have := (hr _ e.symm).1; omega), b3.kept hg (fun e => by have := (hr _ e.symm).1; omega), hb.grown hg hb.size (fun k e => by have := (hr _ e).1; omega), hp⟩

def BackC (l : List (VT × VT)) (p : Option Addr) (w : World) : Prop := ∀ (n Bm : Nat) (W : World), 3 ≤ n → Below w.heap.size w W → W.cell? ⟨Bm, 0, none⟩ = some (.pointer p) → SeqT TyPt Fence.wide n Tryz.prog 128 #[.pointer (some ⟨Bm, 0, none⟩)] encCQ (KpT TyBk w.heap.size) (PreCQ l.reverse) (fun xs => xs.map CQ.t = l.reverse) (fun _ => True) l.length W

set_option maxRecDepth 100000 in
set_option maxHeartbeats 32000000 in
theorem all15 (qs : List PP) (v : Value) (p : Option Addr) (w : World) (hv : SlQ 0 16 w qs v) (hlen : qs.length ≤ 65536)
 (hseq : BackC (qs.map trT) p w) : Calls Tryz.prog 88 #[.pointer p, v] w fun e w' => e = .returned (.bool true) ∧ Below w.heap.size w w' := by
 refine (callsIn_wide (n := 8)).1 ?_
 refine callsIn_of_wp_marks Tryz.func88 rfl trivial ?_ rfl
 simp only [Tryz.ntmps88, List.size_toArray, List.length_cons, List.length_nil, Nat.reduceAdd, Nat.reduceSub, Array.replicate_succ, Array.replicate_zero, List.push_toArray, List.append_toArray, List.nil_append, List.cons_append]
 have tf := eql_nilF15
 have HSq : Hid _ := hseq
 have HL : Hid (qs.length ≤ 65536) := hlen
 have HV : Hid (SlQ 0 16 w qs v) := hv
 obtain ⟨a, c, rfl⟩ : ∃ a c, v = .slice a qs.length c := by obtain ⟨a, c, h, _⟩ := hv; exact ⟨a, c, h⟩
 obtain ⟨N, hN⟩ : ∃ N, N = qs.length := ⟨_, rfl⟩
 have HN : Hid (N = qs.length) := hN
 rw [← hN] at HV ⊢
 clear hseq hlen hv hN
 gi_wp2
 first | refine ⟨trivial, (fun h => by cases h), ?_⟩ | refine ⟨trivial, ?_⟩
 refine (callsIn_wide.2 (mback_15 _ _)).mono ?_
 rintro e w1 ⟨rfl, rfl⟩
 simp only [World.size_alloc]
 gi_wp2
 obtain ⟨Wi, hWi⟩ : ∃ Wi, Wi = ((((w.alloc (.cells #[.slice a N c] 22)).alloc (.cells #[.bool false] 4)).alloc (.cells #[.pointer p] 23)).alloc (.cells #[.int .i64 (N : Int)] 3)) := ⟨_, rfl⟩
 rw [← hWi]
 have hB0 : Below w.heap.size w Wi := by rw [hWi]; exact ((((Grew.refl w).alloc _).alloc _).alloc _).alloc _ |>.below
 have hsz : Wi.heap.size = w.heap.size + 4 := by rw [hWi]; simp
 have cM : Wi.cell? ⟨w.heap.size + 1 + 1, 0, none⟩ = some (.pointer p) := by
  rw [hWi]
  have h9 := ((Go.Boxed.new ((w.alloc (.cells #[.slice a N c] 22)).alloc (.cells #[.bool false] 4)) 23 (.pointer p)).alloc (.cells #[.int .i64 (N : Int)] 3)).cell
  simpa only [World.size_alloc] using h9
 have hG0 : AaI w (.slice a N c) N (qs.map trT).reverse [] Wi := by
  refine ⟨?_, ?_, ?_, hB0, by simp⟩
  ·rw [hWi]
   exact (((Go.Boxed.new w 22 (.slice a N c)).alloc _).alloc _).alloc _
  ·rw [hWi]
   have h9 := ((Go.Boxed.new (w.alloc (.cells #[.slice a N c] 22)) 4 (.bool false)).alloc (.cells #[.pointer p] 23)).alloc (.cells #[.int .i64 (N : Int)] 3)
   simpa only [World.size_alloc] using h9
  ·rw [hWi]
   have h9 := Go.Boxed.new (((w.alloc (.cells #[.slice a N c] 22)).alloc (.cells #[.bool false] 4)).alloc (.cells #[.pointer p] 23)) 3 (.int .i64 (N : Int))
   simpa only [World.size_alloc, List.length_nil, Int.natCast_zero, Int.sub_zero] using h9
 have HVn : Hid (SlQ 0 16 w qs (.slice a qs.length c)) := by show SlQ 0 16 w qs _; rw [← HN.out]; exact HV.out
 clear hWi tf HV
 refine rangeT (α := CQ) (Ty := TyPt) rfl (by omega) (gf := 128) (lb := #[.pointer (some ⟨w.heap.size + 1 + 1, 0, none⟩)]) rfl trivial (enters_of Tryz.func128 (by kernel_rfl) rfl)
  (HSq.out _ _ Wi (by omega) hB0 cM) kpT_t (fun W o o' hl ho => kpT_b (by omega) (by omega) W o o' hl ho) (Below.refl _ _) (fun _ => rfl)
  (AaI w (.slice a N c) N (qs.map trT).reverse) (fun _ _ _ => False) (AaI.own w _ N _ _ (by omega)) (fun c s A V row hs _ _ => hs.elim) hG0
  (BaA (qs.map trT).reverse (fun x Bk Bv => { tmps := #[.pointer p, .slice a N c, undef, .pointer (some ⟨w.heap.size, 0, none⟩), .pointer (some ⟨w.heap.size + 1, 0, none⟩), .func (.func 128) #[] #[.pointer (some ⟨w.heap.size + 1 + 1, 0, none⟩)], .pointer (some ⟨w.heap.size + 1 + 1 + 1, 0, none⟩), .pointer (some ⟨Bk, 0, none⟩), .pointer (some ⟨Bv, 0, none⟩), .pointer p, .func (.func 128) #[] #[.pointer (some ⟨w.heap.size + 1 + 1, 0, none⟩)], .func (.func 128) #[] #[.pointer (some ⟨w.heap.size + 1 + 1, 0, none⟩)], .bool false, .slice a N c, .int .i64 (N : Int), .func (.func 128) #[] #[.pointer (some ⟨w.heap.size + 1 + 1, 0, none⟩)], .agg #[.int .i64 x.k.kind, .int .i64 x.k.num, .string x.k.text, .slice x.a1 x.k.items.length x.c1], .agg #[.int .i64 x.v.kind, .int .i64 x.v.num, .string x.v.text, .slice x.a2 x.v.items.length x.c2], undef, undef, undef, undef, undef, undef, undef, undef, undef, undef, undef, undef, undef, undef, undef, undef, undef], defers := [] })) (fun pre x a' => BaA.own _ _ _ _ _ _) ?assign ?body ?done ?stop
 case assign =>
  rintro lp pre x V W K hI hbVW ⟨hN, hpx⟩ hK
  have hba : Below W.heap.size W ((W.alloc (.cells #[.int .i64 x.k.kind, .int .i64 x.k.num, .string x.k.text, .slice x.a1 x.k.items.length x.c1] 34)).alloc (.cells #[.int .i64 x.v.kind, .int .i64 x.v.num, .string x.v.text, .slice x.a2 x.v.items.length x.c2] 34)) := (((Grew.refl W).alloc _).alloc _).below
  have hbVa := hbVW.trans (hba.mono hbVW.size)
  have hIa := AaI.own w (.slice a N c) N (qs.map trT).reverse Wi.heap.size (by omega) pre V _ none hI (grown_of_belowY hbVa) (fun r e => by cases e)
  have hBw : Below w.heap.size w W := hI.2.2.2.1.trans (hbVW.mono hI.2.2.2.1.size)
  have b41 : BoxV ((W.alloc (.cells #[.int .i64 x.k.kind, .int .i64 x.k.num, .string x.k.text, .slice x.a1 x.k.items.length x.c1] 34)).alloc (.cells #[.int .i64 x.v.kind, .int .i64 x.v.num, .string x.v.text, .slice x.a2 x.v.items.length x.c2] 34)) W.heap.size x.k (.slice x.a1 x.k.items.length x.c1) := (((Below.refl _ (W.alloc (.cells #[.int .i64 x.k.kind, .int .i64 x.k.num, .string x.k.text, .slice x.a1 x.k.items.length x.c1] 34))).alloc (Nat.le_refl _) _).block _ (by simp)).trans (World.alloc_heap_new W _)
  have b42 : BoxV ((W.alloc (.cells #[.int .i64 x.k.kind, .int .i64 x.k.num, .string x.k.text, .slice x.a1 x.k.items.length x.c1] 34)).alloc (.cells #[.int .i64 x.v.kind, .int .i64 x.v.num, .string x.v.text, .slice x.a2 x.v.items.length x.c2] 34)) (W.heap.size + 1) x.v (.slice x.a2 x.v.items.length x.c2) := by
   have h9 := World.alloc_heap_new (W.alloc (.cells #[.int .i64 x.k.kind, .int .i64 x.k.num, .string x.k.text, .slice x.a1 x.k.items.length x.c1] 34)) (.cells #[.int .i64 x.v.kind, .int .i64 x.v.num, .string x.v.text, .slice x.a2 x.v.items.length x.c2] 34)
   rwa [World.size_alloc] at h9
  have HK : Hid (K _ _) := hK _ _ (((KeepsOthers.alloc W (.cells #[.int .i64 x.k.kind, .int .i64 x.k.num, .string x.k.text, .slice x.a1 x.k.items.length x.c1] 34)).trans (KeepsOthers.alloc _ (.cells #[.int .i64 x.v.kind, .int .i64 x.v.num, .string x.v.text, .slice x.a2 x.v.items.length x.c2] 34))).from _) ⟨hba.mono hBw.size, KTy.below hba, keepsBelowY hba⟩ hIa ⟨W.heap.size, W.heap.size + 1, b41, b42,
   ((LiesX.of_b hN.1.1).both.stays (fun _ _ => trivial) (fun a u _ hu => cell_keeps hba hu)), ((LiesX.of_b hN.2.1).both.stays (fun _ _ => trivial) (fun a u _ hu => cell_keeps hba hu)), hpx, rfl⟩
  clear hK
  unfold encCQ
  gi_wp2
  exact HK.out
 case body =>
  rintro lp pre x a' W hlp ⟨b1, b2, b3, hB, hpl⟩ ⟨Bk, Bv, bk, bv, hLk, hLv, hpx, rfl⟩ hlt
  obtain ⟨xk, xv, a1, c1, a2, c2⟩ := x
  dsimp only at bk bv hLk hLv hpx ⊢
  have hNq := HN.out
  obtain ⟨k, hk⟩ : ∃ k, k = pre.length := ⟨_, rfl⟩
  have hkN : k < N := by rw [List.length_map] at hlt; omega
  obtain ⟨j, hj⟩ : ∃ j, j = N - 1 - k := ⟨_, rfl⟩
  have hjq : j < qs.length := by omega
  have hx : (qs.map trT)[j]? = some (xk, xv) := by
   obtain ⟨s, hs⟩ := hpx
   have h1 : (qs.map trT).reverse[k]? = some (xk, xv) := by
    rw [← hs, List.append_assoc, List.getElem?_append_right (by rw [List.length_map]; omega), List.length_map, ← hk, Nat.sub_self]
    rfl
   rw [List.getElem?_reverse (by rw [List.length_map]; omega), List.length_map, ← hNq, ← hj] at h1
   exact h1
  obtain ⟨z, za1, zc1, za2, zc2, b, o, hz, rfl, hzl, p0, p1, p2, p3, p4, p5, p6, p7⟩ := row_pair HVn.out hjq
  have hzx : z = (xk, xv) := by rw [hx] at hz; injection hz with hz; exact hz.symm
  subst hzx
  dsimp only at p0 p1 p2 p3 p4 p5 p6 p7 hzl
  obtain ⟨m, hm⟩ : ∃ m : Int, m = (N : Int) - (pre.length : Int) := ⟨_, rfl⟩
  rw [← hm] at b3
  have hq6 := HL.out
  have e1 : IntKind.i64.wrap (m - 1) = (j : Int) := by rw [IntKind.wrap_i64]; omega
  have hjN : j < N := by omega
  have Hjm : Hid ((N : Int) - ((pre.length + 1 : Nat) : Int) = (j : Int)) := by show _ = _; omega
  have HPx : Hid ((pre ++ [(⟨xk, xv, a1, c1, a2, c2⟩ : CQ)]).map CQ.t <+: (qs.map trT).reverse) := by show _ <+: _; rw [List.map_append]; exact hpx
  obtain ⟨W2, hW2⟩ : ∃ W2, W2 = W.setCell ⟨w.heap.size + 1 + 1 + 1, 0, none⟩ (.int .i64 (j : Int)) := ⟨_, rfl⟩
  have HW2 : Hid (W2 = W.setCell ⟨w.heap.size + 1 + 1 + 1, 0, none⟩ (.int .i64 (j : Int))) := hW2
  have B1 : Go.Boxed W2 w.heap.size 22 (.slice (some ⟨b, o, none⟩) N c) := by rw [hW2]; exact b1.other (by omega) _
  have B2 : Go.Boxed W2 (w.heap.size + 1) 4 (.bool false) := by rw [hW2]; exact b2.other (by omega) _
  have B3 : Go.Boxed W2 (w.heap.size + 1 + 1 + 1) 3 (.int .i64 (j : Int)) := by rw [hW2]; exact b3.set _
  have hB2 : Below w.heap.size w W2 := by rw [hW2]; exact hB.setCell (by simp; omega) _
  have hb3h : W.heap[w.heap.size + 1 + 1 + 1]? = some (.cells #[.int .i64 m] 3 (0, 0)) := b3
  have hbk : W.heap[Bk]? = some (.cells #[.int .i64 xk.kind, .int .i64 xk.num, .string xk.text, .slice a1 xk.items.length c1] 34 (0, 0)) := bk
  have hbv : W.heap[Bv]? = some (.cells #[.int .i64 xv.kind, .int .i64 xv.num, .string xv.text, .slice a2 xv.items.length c2] 34 (0, 0)) := bv
  have BK : BoxV W2 Bk xk (.slice a1 xk.items.length c1) := by
   rw [hW2]
   exact (Below.heap_setCell _ _ _ _ (fun e => by simp only at e; rw [e] at hbk; rw [hb3h] at hbk; cases hbk)).trans bk
  have BV : BoxV W2 Bv xv (.slice a2 xv.items.length c2) := by
   rw [hW2]
   exact (Below.heap_setCell _ _ _ _ (fun e => by simp only at e; rw [e] at hbv; rw [hb3h] at hbv; cases hbv)).trans bv
  have hcs : ∀ (ad : Addr) (u : Value), ad.block ≠ w.heap.size + 1 + 1 + 1 → W.cell? ad = some u → W2.cell? ad = some u := fun ad u hne hu => by
   rw [hW2]
   exact (World.cell?_of_block (Below.heap_setCell _ _ _ _ hne)).trans hu
  have HLk2 : Hid (LiesX TT 16 W2 xk.items (.slice a1 xk.items.length c1)) := (LiesX.notBoxY hLk).stays (fun _ _ => trivial) (fun ad u hX hu => hcs ad u (fun e => hX.2 _ _ (by rw [e]; exact hb3h)) hu)
  have HLv2 : Hid (LiesX TT 16 W2 xv.items (.slice a2 xv.items.length c2)) := (LiesX.notBoxY hLv).stays (fun _ _ => trivial) (fun ad u hX hu => hcs ad u (fun e => hX.2 _ _ (by rw [e]; exact hb3h)) hu)
  have HPr : Hid (∀ V, Below W2.heap.size W2 V → Calls Tryz.prog 82 #[.agg #[.int .i64 xk.kind, .int .i64 xk.num, .string xk.text, .slice a1 xk.items.length c1, .int .i64 xv.kind, .int .i64 xv.num, .string xv.text, .slice a2 xv.items.length c2], .agg #[.int .i64 xk.kind, .int .i64 xk.num, .string xk.text, .slice za1 xk.items.length zc1, .int .i64 xv.kind, .int .i64 xv.num, .string xv.text, .slice za2 xv.items.length zc2]] V fun e w' => e = .returned (.bool true) ∧ Below V.heap.size V w') := fun V hV => pair15_same (xk, xv) _ _ _ _ V ⟨(LiesX.keeps hV HLk2.out).lies, (LiesX.keeps hV HLv2.out).lies⟩ (hzl.keeps (hB2.trans (hV.mono hB2.size)))
  have Hend : Hid (∀ V, Below W2.heap.size W2 V → KeepsFrom Wi.heap.size W V ∧ KpT TyBk w.heap.size (Wi.heap.size + 2) W V ∧ AaI w (.slice (some ⟨b, o, none⟩) N c) N (qs.map trT).reverse (pre ++ [(⟨xk, xv, a1, c1, a2, c2⟩ : CQ)]) V) := fun V hV => by
   have hT : ¬ TyBk 3 := by
    rintro (h | h) <;> exact absurd h (by decide)
   have h1 : ∀ n, w.heap.size + 1 + 1 + 1 < n → KeepsFrom n W V := fun n hn => KeepsFrom.trans (by rw [hW2]; exact keepsFrom_set hn) (keepsBelowY hV)
   refine ⟨h1 _ (by omega), ⟨?_, ?_, h1 _ (by omega)⟩, (hV.block _ B1.lt).trans B1, (hV.block _ B2.lt).trans B2, ?_, hB2.trans (hV.mono hB2.size), HPx.out⟩
   ·have h2 : Below w.heap.size W W2 := by rw [hW2]; exact (Below.refl _ W).setCell (by simp; omega) _
    exact h2.trans (hV.mono hB2.size)
   ·refine KTy.trans ?_ (KTy.below hV)
    rw [hW2]
    exact KTy.set b3 hT
   ·rw [List.length_append, List.length_singleton, Hjm.out]
    exact (hV.block _ B3.lt).trans B3
  have c3 := b3.cell
  have f3 := b3.frozen
  have p0 := cell_keeps hB2 p0; have p1 := cell_keeps hB2 p1; have p2 := cell_keeps hB2 p2; have p3 := cell_keeps hB2 p3; have p4 := cell_keeps hB2 p4; have p5 := cell_keeps hB2 p5; have p6 := cell_keeps hB2 p6; have p7 := cell_keeps hB2 p7
  have C1 := B1.cell; have C3 := B3.cell
  obtain ⟨k0, k1, k2, k3⟩ := BK.cells
  obtain ⟨v0, v1, v2, v3⟩ := BV.cells
  clear b1 b2 b3 B1 B2 B3 BK BV hb3h hbk hbv bk bv hLk hLv hcs HLk2 HLv2 hW2 hzl hz hx hpx hlt hpl hB hm hk hNq hq6 hjq hj hB0 hsz hG0
  gi_upto_region 9 with fail
  rw [← HW2.out]
  have hj0 : ¬ (j : Int) < 0 := by omega
  have hj00 : (0 : Int) ≤ (j : Int) := by omega
  have hjN2 : (j : Int) < (N : Int) := by omega
  have hmx : Tryz.prog.follows .mixedOrders = true := by kernel_rfl
  clear HW2 c3 f3
  have hS0 : Below W2.heap.size W2 W2.drew := (Below.refl _ _).drew
  refine wpIn_region_R (fun w' => Below W2.heap.size W2 w') hmx ?_
  change wpAnyR _ _ _ _ _ _ _ _ _ _ W2.drew
  refine wpAnyR_take (i := 0) (.int .i64 (j : Int)) rfl (by kernel_rfl) (by kernel_rfl) (by kernel_rfl) (by kernel_rfl) (fun _ _ _ h => h) (.inl ⟨by kernel_rfl, fun w' hS => ?_⟩) hS0 ?_
  ·have C3 := cell_keeps hS C3; (try clear hS); simp [go_sem, C3]
  refine wpAnyR_take (i := 1) (.bool false) rfl (by kernel_rfl) (by kernel_rfl) (by kernel_rfl) (by kernel_rfl) (fun _ _ _ h => h) (.inl ⟨by kernel_rfl, fun w' hS => ?_⟩) hS0 ?_
  ·(try clear hS); simp [go_sem, hj0]
  refine wpAnyR_take (i := 2) (.bool false) rfl (by kernel_rfl) (by kernel_rfl) (by kernel_rfl) (by kernel_rfl) (fun _ _ _ h => h) (.inl ⟨by kernel_rfl, fun w' hS => ?_⟩) hS0 ?_
  ·(try clear hS); simp [go_sem]
  refine wpAnyR_take (i := 3) (.agg #[.int .i64 xk.kind, .int .i64 xk.num, .string xk.text, .slice a1 xk.items.length c1]) rfl (by kernel_rfl) (by kernel_rfl) (by kernel_rfl) (by kernel_rfl) (fun _ _ _ h => h) (.inl ⟨by kernel_rfl, fun w' hS => ?_⟩) hS0 ?_
  ·have k0 := cell_keeps hS k0; have k1 := cell_keeps hS k1; have k2 := cell_keeps hS k2; have k3 := cell_keeps hS k3; (try clear hS); simp [go_sem, k0, k1, k2, k3]
  refine wpAnyR_take (i := 4) (.agg #[.int .i64 xv.kind, .int .i64 xv.num, .string xv.text, .slice a2 xv.items.length c2]) rfl (by kernel_rfl) (by kernel_rfl) (by kernel_rfl) (by kernel_rfl) (fun _ _ _ h => h) (.inl ⟨by kernel_rfl, fun w' hS => ?_⟩) hS0 ?_
  ·have v0 := cell_keeps hS v0; have v1 := cell_keeps hS v1; have v2 := cell_keeps hS v2; have v3 := cell_keeps hS v3; (try clear hS); simp [go_sem, v0, v1, v2, v3]
  refine wpAnyR_take (i := 5) (.agg #[.int .i64 xk.kind, .int .i64 xk.num, .string xk.text, .slice a1 xk.items.length c1, .int .i64 xv.kind, .int .i64 xv.num, .string xv.text, .slice a2 xv.items.length c2]) rfl (by kernel_rfl) (by kernel_rfl) (by kernel_rfl) (by kernel_rfl) (fun _ _ _ h => h) (.inl ⟨by kernel_rfl, fun w' hS => ?_⟩) hS0 ?_
  ·(try clear hS); simp [go_sem]
  refine wpAnyR_take (i := 6) (.slice (some ⟨b, o, none⟩) N c) rfl (by kernel_rfl) (by kernel_rfl) (by kernel_rfl) (by kernel_rfl) (fun _ _ _ h => h) (.inl ⟨by kernel_rfl, fun w' hS => ?_⟩) hS0 ?_
  ·have C1 := cell_keeps hS C1; (try clear hS); simp [go_sem, C1]
  refine wpAnyR_take (i := 7) (.int .i64 (j : Int)) rfl (by kernel_rfl) (by kernel_rfl) (by kernel_rfl) (by kernel_rfl) (fun _ _ _ h => h) (.inl ⟨by kernel_rfl, fun w' hS => ?_⟩) hS0 ?_
  ·have C3 := cell_keeps hS C3; (try clear hS); simp [go_sem, C3]
  refine wpAnyR_take (i := 8) (.pointer (some ⟨b, o + j * 8, none⟩)) rfl (by kernel_rfl) (by kernel_rfl) (by kernel_rfl) (by kernel_rfl) (fun _ _ _ h => h) (.inl ⟨by kernel_rfl, fun w' hS => ?_⟩) hS0 ?_
  ·(try clear hS); simp [go_sem, hj00, hjN2]
  refine wpAnyR_take (i := 9) (.agg #[.int .i64 xk.kind, .int .i64 xk.num, .string xk.text, .slice za1 xk.items.length zc1, .int .i64 xv.kind, .int .i64 xv.num, .string xv.text, .slice za2 xv.items.length zc2]) rfl (by kernel_rfl) (by kernel_rfl) (by kernel_rfl) (by kernel_rfl) (fun _ _ _ h => h) (.inl ⟨by kernel_rfl, fun w' hS => ?_⟩) hS0 ?_
  ·have p0 := cell_keeps hS p0; have p1 := cell_keeps hS p1; have p2 := cell_keeps hS p2; have p3 := cell_keeps hS p3; have p4 := cell_keeps hS p4; have p5 := cell_keeps hS p5; have p6 := cell_keeps hS p6; have p7 := cell_keeps hS p7; (try clear hS); simp [go_sem, p0, p1, p2, p3, p4, p5, p6, p7]
  refine wpAnyR_one (i := 10) rfl (by kernel_rfl) (fun K hK => ?_)
  go_simp
  refine ⟨trivial, ?_⟩
  refine (CallsIn.inRound lp (callsIn_wide.2 (HPr.out _ hS0))).mono ?_
  rintro e w3 ⟨rfl, hg3⟩
  have hS3 : Below W2.heap.size W2 w3 := hS0.trans hg3
  refine hK _ _ ⟨hS3, ?_⟩
  have HE : Hid _ := Hend.out w3 hS3
  clear hK K hg3 Hend HPr HPx Hjm C1 C3 k0 k1 k2 k3 v0 v1 v2 v3 p0 p1 p2 p3 p4 p5 p6 p7 hB2
  refine wpAnyR_take (i := 11) (.bool false) rfl (by kernel_rfl) (by kernel_rfl) (by kernel_rfl) (by kernel_rfl) (fun _ _ _ h => h) (.inl ⟨by kernel_rfl, fun w' hS => ?_⟩) hS3 ?_
  ·clear hS; simp [go_sem]
  refine wpAnyR_take (i := 12) (.bool false) rfl (by kernel_rfl) (by kernel_rfl) (by kernel_rfl) (by kernel_rfl) (fun _ _ _ h => h) (.inl ⟨by kernel_rfl, fun w' hS => ?_⟩) hS3 ?_
  ·clear hS; simp [go_sem]
  refine wpAnyR_done (by kernel_rfl) ?_ _
  gi_wp2
  exact HE.out
 case done =>
  rintro D pre V hD hxs ⟨b1, b2, b3, hB, hpl⟩ hK
  have hpl2 : pre.length = N := by
   have h9 := congrArg List.length hxs
   rw [List.length_map, List.length_reverse, List.length_map] at h9
   rw [h9]; exact HN.out.symm
  rw [hpl2, Int.sub_self] at b3
  have c3 := b3.cell
  have c2 := b2.cell
  have f2 := b2.frozen
  have B2 : Go.Boxed (V.setCell ⟨w.heap.size + 1, 0, none⟩ (.bool true)) (w.heap.size + 1) 4 (.bool true) := b2.set _
  have hD2 : D ≠ w.heap.size + 1 := by omega
  have hBs : Below w.heap.size w (V.setCell ⟨w.heap.size + 1, 0, none⟩ (.bool true)) := hB.setCell (by simp) _
  have HM : Hid (MarksX w.heap.size (V.setCell ⟨w.heap.size + 1, 0, none⟩ (.bool true)) [D]) := MarksX.one (by omega) ((Below.heap_setCell _ _ _ _ hD2).trans hK)
  have HT : Hid ((V.setCell ⟨w.heap.size + 1, 0, none⟩ (.bool true)).cell? ⟨w.heap.size + 1, 0, none⟩ = some (.bool true) ∧ Below w.heap.size w (V.setCell ⟨w.heap.size + 1, 0, none⟩ (.bool true))) := ⟨B2.cell, hBs⟩
  clear b1 b2 b3 B2 hB hBs hK hxs hpl hpl2 hD2 hB0 hsz hG0 cM
  gi_wp2
  refine leavesX w.heap.size (fun V => V.cell? ⟨w.heap.size + 1, 0, none⟩ = some (.bool true) ∧ Below w.heap.size w V) (fun V D hD hK hT => ⟨cell_turnsX hK rfl _ _ _ hT.1, hT.2.trans (below_putX hD)⟩) (fun V hT => ⟨.bool true, by simp [results, Tryz.results88, go_sem, hT.1], rfl, hT.2⟩) [D] _ HM.out HT.out
 case stop =>
  rintro D c pre W hD _ h _
  exact h.elim

end Go.Proofs.YtlnecfjnffdciaaGreat

namespace Go.Proofs.YtlnecfjnffdciaaGreat
open Go.RowKit Go.Shelf

attribute [local go_sem] Oper.semAt_some

def AbJ (w : World) (v : Value) (W : World) : Prop := Go.Boxed W w.heap.size 22 v ∧ Go.Boxed W (w.heap.size + 1) 4 (.bool false) ∧ Below w.heap.size w W

theorem AbJ.own {σ : Type} (w : World) (v : Value) (p : σ → Prop) (M : Nat) (hM : w.heap.size + 1 < M) : OwnT TyPt M (fun s W => AbJ w v W ∧ p s) := by
 intro s A V row hs hg hr
 obtain ⟨⟨b1, b2, hb⟩, hp⟩ := hs
 refine ⟨⟨b1.kept hg (fun e => by have := (hr _ e.symm).1; omega), b2.kept hg (fun e => by have := (hr _ e.symm).1; omega), hb.grown hg hb.size (fun k e => by have := (hr _ e).1; omega)⟩, hp⟩

set_option maxRecDepth 100000 in
set_option maxHeartbeats 32000000 in
theorem back15 (qs : List PP) (v : Value) (p : Option Addr) (w : World) (hv : SlQ 0 16 w qs v) (hlen : qs.length ≤ 65536)
 (hseq : ∀ V, Below w.heap.size w V → BackC (qs.map trT) p V) : Calls Tryz.prog 44 #[.pointer p, v] w fun e w' => e = .returned (.bool true) ∧ Below w.heap.size w w' := by
 refine (callsIn_wide (n := 8)).1 ?_
 refine callsIn_of_wp_marks Tryz.func44 rfl trivial ?_ rfl
 simp only [Tryz.ntmps44, List.size_toArray, List.length_cons, List.length_nil, Nat.reduceAdd, Nat.reduceSub, Array.replicate_succ, Array.replicate_zero, List.push_toArray, List.append_toArray, List.nil_append, List.cons_append]
 have tf := eql_nilF15
 have HSq : Hid _ := hseq w (Below.refl _ _)
 have HAl : Hid (∀ V, Below w.heap.size w V → Calls Tryz.prog 88 #[.pointer p, v] V fun e w' => e = .returned (.bool true) ∧ Below V.heap.size V w') := fun V hV => all15 qs v p V (hv.keeps hV) hlen (hseq V hV)
 have HL : Hid (qs.length ≤ 65536) := hlen
 have HV : Hid (SlQ 0 16 w qs v) := hv
 obtain ⟨a, c, rfl⟩ : ∃ a c, v = .slice a qs.length c := by obtain ⟨a, c, h, _⟩ := hv; exact ⟨a, c, h⟩
 obtain ⟨N, hN⟩ : ∃ N, N = qs.length := ⟨_, rfl⟩
 have HN : Hid (N = qs.length) := hN
 rw [← hN] at HV HAl ⊢
 clear hseq hlen hv hN
 gi_wp2
 first | refine ⟨trivial, (fun h => by cases h), ?_⟩ | refine ⟨trivial, ?_⟩
 refine (callsIn_wide.2 (mback_15 _ _)).mono ?_
 rintro e w1 ⟨rfl, rfl⟩
 simp only [World.size_alloc]
 have hLeave : ∀ (ds : List Nat) (V : World), MarksX w.heap.size V ds → (V.cell? ⟨w.heap.size + 1, 0, none⟩ = some (.bool true) ∧ Below w.heap.size w V) → True := fun _ _ _ _ => trivial
 by_cases hN0 : N = 0
 ·have hNi : ¬ (0 : Int) < (N : Int) := by omega
  obtain ⟨Wi, hWi⟩ : ∃ Wi, Wi = (((w.alloc (.cells #[.slice a N c] 22)).alloc (.cells #[.bool false] 4)).alloc (.cells #[.pointer p] 23)) := ⟨_, rfl⟩
  have hB0 : Below w.heap.size w Wi := by rw [hWi]; exact ((((Grew.refl w).alloc _).alloc _).alloc _).below
  have B1 : Go.Boxed Wi w.heap.size 22 (.slice a N c) := by rw [hWi]; exact ((Go.Boxed.new w 22 (.slice a N c)).alloc _).alloc _
  have B2 : Go.Boxed Wi (w.heap.size + 1) 4 (.bool false) := by
   rw [hWi]
   have h9 := (Go.Boxed.new (w.alloc (.cells #[.slice a N c] 22)) 4 (.bool false)).alloc (.cells #[.pointer p] 23)
   simpa only [World.size_alloc] using h9
  have HWi : Hid (Wi = (((w.alloc (.cells #[.slice a N c] 22)).alloc (.cells #[.bool false] 4)).alloc (.cells #[.pointer p] 23))) := hWi
  have HAz : Hid _ := HAl.out Wi hB0
  clear hWi HSq HV HAl hLeave hN0
  gi_upto_region 2 with fail
  rw [← HWi.out]
  clear HWi
  have c1 := B1.cell
  gi_wp2
  first | refine ⟨trivial, (fun h => by cases h), ?_⟩ | refine ⟨trivial, ?_⟩
  refine (callsIn_wide.2 HAz.out).mono ?_
  rintro e w3 ⟨rfl, hg3⟩
  have B2w : Go.Boxed w3 (w.heap.size + 1) 4 (.bool false) := (hg3.block _ B2.lt).trans B2
  have c2 := B2w.cell
  have f2 := B2w.frozen
  have B2s : Go.Boxed (w3.setCell ⟨w.heap.size + 1, 0, none⟩ (.bool true)) (w.heap.size + 1) 4 (.bool true) := B2w.set _
  have hBs : Below w.heap.size w (w3.setCell ⟨w.heap.size + 1, 0, none⟩ (.bool true)) := (hB0.trans (hg3.mono hB0.size)).setCell (by simp) _
  have HT : Hid ((w3.setCell ⟨w.heap.size + 1, 0, none⟩ (.bool true)).cell? ⟨w.heap.size + 1, 0, none⟩ = some (.bool true) ∧ Below w.heap.size w (w3.setCell ⟨w.heap.size + 1, 0, none⟩ (.bool true))) := ⟨B2s.cell, hBs⟩
  clear B1 B2 B2w B2s hBs hB0 hg3 HAz c1
  gi_wp2
  refine leavesX w.heap.size (fun V => V.cell? ⟨w.heap.size + 1, 0, none⟩ = some (.bool true) ∧ Below w.heap.size w V) (fun V D hD hK hT => ⟨cell_turnsX hK rfl _ _ _ hT.1, hT.2.trans (below_putX hD)⟩) (fun V hT => ⟨.bool true, by simp [results, Tryz.results44, go_sem, hT.1], rfl, hT.2⟩) [] _ (MarksX.nil _ _) HT.out
 ·have hNi : (0 : Int) < (N : Int) := by omega
  gi_wp2
  obtain ⟨Wi, hWi⟩ : ∃ Wi, Wi = (((w.alloc (.cells #[.slice a N c] 22)).alloc (.cells #[.bool false] 4)).alloc (.cells #[.pointer p] 23)) := ⟨_, rfl⟩
  rw [← hWi]
  obtain ⟨bb, hbb⟩ : ∃ bb : Bool, bb = decide (0 < N) := ⟨_, rfl⟩
  rw [← hbb]
  clear hbb
  have hB0 : Below w.heap.size w Wi := by rw [hWi]; exact ((((Grew.refl w).alloc _).alloc _).alloc _).below
  have hsz : Wi.heap.size = w.heap.size + 3 := by rw [hWi]; simp
  have cM : Wi.cell? ⟨w.heap.size + 1 + 1, 0, none⟩ = some (.pointer p) := by
   rw [hWi]
   have h9 := (Go.Boxed.new ((w.alloc (.cells #[.slice a N c] 22)).alloc (.cells #[.bool false] 4)) 23 (.pointer p)).cell
   simpa only [World.size_alloc] using h9
  have hG0 : AbJ w (.slice a N c) Wi := by
   refine ⟨?_, ?_, hB0⟩
   ·rw [hWi]
    exact ((Go.Boxed.new w 22 (.slice a N c)).alloc _).alloc _
   ·rw [hWi]
    have h9 := (Go.Boxed.new (w.alloc (.cells #[.slice a N c] 22)) 4 (.bool false)).alloc (.cells #[.pointer p] 23)
    simpa only [World.size_alloc] using h9
  have HVn : Hid (SlQ 0 16 w qs (.slice a qs.length c)) := by show SlQ 0 16 w qs _; rw [← HN.out]; exact HV.out
  have HN0 : Hid (¬ N = 0) := hN0
  clear hWi tf HV hLeave
  refine rangeT (α := CQ) (Ty := TyPt) rfl (by omega) (gf := 128) (lb := #[.pointer (some ⟨w.heap.size + 1 + 1, 0, none⟩)]) rfl trivial (enters_of Tryz.func128 (by kernel_rfl) rfl)
   (HSq.out _ _ Wi (by omega) hB0 cM) kpT_t (fun W o o' hl ho => kpT_b (by omega) (by omega) W o o' hl ho) (Below.refl _ _) (fun _ => rfl)
   (fun (pre : List CQ) W => AbJ w (.slice a N c) W ∧ pre = []) (fun k _ W => k = .exit 0 ∧ AbJ w (.slice a N c) W) (AbJ.own w _ _ _ (by omega)) (fun k s A V row hs hg hr => ⟨hs.1, (AbJ.own w (.slice a N c) (fun _ : Unit => True) Wi.heap.size (by omega) () A V row ⟨hs.2, trivial⟩ hg hr).1⟩) ⟨hG0, rfl⟩
   (BaA (qs.map trT).reverse (fun x Bk Bv => { tmps := #[.pointer p, .slice a N c, undef, .pointer (some ⟨w.heap.size, 0, none⟩), .pointer (some ⟨w.heap.size + 1, 0, none⟩), .func (.func 128) #[] #[.pointer (some ⟨w.heap.size + 1 + 1, 0, none⟩)], .pointer (some ⟨Bk, 0, none⟩), .pointer (some ⟨Bv, 0, none⟩), .pointer p, .func (.func 128) #[] #[.pointer (some ⟨w.heap.size + 1 + 1, 0, none⟩)], .func (.func 128) #[] #[.pointer (some ⟨w.heap.size + 1 + 1, 0, none⟩)], .bool false, .slice a N c, .int .i64 (N : Int), .bool bb, .func (.func 128) #[] #[.pointer (some ⟨w.heap.size + 1 + 1, 0, none⟩)], .agg #[.int .i64 x.k.kind, .int .i64 x.k.num, .string x.k.text, .slice x.a1 x.k.items.length x.c1], .agg #[.int .i64 x.v.kind, .int .i64 x.v.num, .string x.v.text, .slice x.a2 x.v.items.length x.c2], undef, undef, undef, undef, undef, undef, undef, undef, undef, undef, undef, undef, undef, undef], defers := [] })) (fun pre x a' => BaA.own _ _ _ _ _ _) ?assign ?body ?done ?stop
  case assign =>
   rintro lp pre x V W K hI hbVW ⟨hN, hpx⟩ hK
   have hba : Below W.heap.size W ((W.alloc (.cells #[.int .i64 x.k.kind, .int .i64 x.k.num, .string x.k.text, .slice x.a1 x.k.items.length x.c1] 34)).alloc (.cells #[.int .i64 x.v.kind, .int .i64 x.v.num, .string x.v.text, .slice x.a2 x.v.items.length x.c2] 34)) := (((Grew.refl W).alloc _).alloc _).below
   have hbVa := hbVW.trans (hba.mono hbVW.size)
   have hIa := AbJ.own w (.slice a N c) (fun pre : List CQ => pre = []) Wi.heap.size (by omega) pre V _ none hI (grown_of_belowY hbVa) (fun r e => by cases e)
   have hBw : Below w.heap.size w W := hI.1.2.2.trans (hbVW.mono hI.1.2.2.size)
   have b41 : BoxV ((W.alloc (.cells #[.int .i64 x.k.kind, .int .i64 x.k.num, .string x.k.text, .slice x.a1 x.k.items.length x.c1] 34)).alloc (.cells #[.int .i64 x.v.kind, .int .i64 x.v.num, .string x.v.text, .slice x.a2 x.v.items.length x.c2] 34)) W.heap.size x.k (.slice x.a1 x.k.items.length x.c1) := (((Below.refl _ (W.alloc (.cells #[.int .i64 x.k.kind, .int .i64 x.k.num, .string x.k.text, .slice x.a1 x.k.items.length x.c1] 34))).alloc (Nat.le_refl _) _).block _ (by simp)).trans (World.alloc_heap_new W _)
   have b42 : BoxV ((W.alloc (.cells #[.int .i64 x.k.kind, .int .i64 x.k.num, .string x.k.text, .slice x.a1 x.k.items.length x.c1] 34)).alloc (.cells #[.int .i64 x.v.kind, .int .i64 x.v.num, .string x.v.text, .slice x.a2 x.v.items.length x.c2] 34)) (W.heap.size + 1) x.v (.slice x.a2 x.v.items.length x.c2) := by
    have h9 := World.alloc_heap_new (W.alloc (.cells #[.int .i64 x.k.kind, .int .i64 x.k.num, .string x.k.text, .slice x.a1 x.k.items.length x.c1] 34)) (.cells #[.int .i64 x.v.kind, .int .i64 x.v.num, .string x.v.text, .slice x.a2 x.v.items.length x.c2] 34)
    rwa [World.size_alloc] at h9
   have HK : Hid (K _ _) := hK _ _ (((KeepsOthers.alloc W (.cells #[.int .i64 x.k.kind, .int .i64 x.k.num, .string x.k.text, .slice x.a1 x.k.items.length x.c1] 34)).trans (KeepsOthers.alloc _ (.cells #[.int .i64 x.v.kind, .int .i64 x.v.num, .string x.v.text, .slice x.a2 x.v.items.length x.c2] 34))).from _) ⟨hba.mono hBw.size, KTy.below hba, keepsBelowY hba⟩ hIa ⟨W.heap.size, W.heap.size + 1, b41, b42,
    ((LiesX.of_b hN.1.1).both.stays (fun _ _ => trivial) (fun a u _ hu => cell_keeps hba hu)), ((LiesX.of_b hN.2.1).both.stays (fun _ _ => trivial) (fun a u _ hu => cell_keeps hba hu)), hpx, rfl⟩
   clear hK
   unfold encCQ
   gi_wp2
   exact HK.out
  case body =>
   rintro lp pre x a' W hlp ⟨⟨b1, b2, hB⟩, hpre⟩ ⟨Bk, Bv, bk, bv, hLk, hLv, hpx, rfl⟩ hlt
   subst hpre
   obtain ⟨xk, xv, a1, c1, a2, c2⟩ := x
   dsimp only at bk bv hLk hLv hpx ⊢
   have hNq := HN.out
   have hjq : N - 1 < qs.length := by omega
   have hx : (qs.map trT)[N - 1]? = some (xk, xv) := by
    obtain ⟨s, hs⟩ := hpx
    have h1 : (qs.map trT).reverse[0]? = some (xk, xv) := by
     rw [← hs]
     rfl
    rw [List.getElem?_reverse (by rw [List.length_map]; omega), List.length_map, ← hNq] at h1
    exact h1
   obtain ⟨z, za1, zc1, za2, zc2, b, o, hz, rfl, hzl, p0, p1, p2, p3, p4, p5, p6, p7⟩ := row_pair HVn.out hjq
   have hzx : z = (xk, xv) := by rw [hx] at hz; injection hz with hz; exact hz.symm
   subst hzx
   dsimp only at p0 p1 p2 p3 p4 p5 p6 p7 hzl
   obtain ⟨j, hj⟩ : ∃ j, j = N - 1 := ⟨_, rfl⟩
   rw [← hj] at p0 p1 p2 p3 p4 p5 p6 p7
   have hq6 := HL.out
   have e1 : IntKind.i64.wrap ((N : Int) - 1) = (j : Int) := by rw [IntKind.wrap_i64]; omega
   have HPr : Hid (∀ V, Below W.heap.size W V → Calls Tryz.prog 82 #[.agg #[.int .i64 xk.kind, .int .i64 xk.num, .string xk.text, .slice a1 xk.items.length c1, .int .i64 xv.kind, .int .i64 xv.num, .string xv.text, .slice a2 xv.items.length c2], .agg #[.int .i64 xk.kind, .int .i64 xk.num, .string xk.text, .slice za1 xk.items.length zc1, .int .i64 xv.kind, .int .i64 xv.num, .string xv.text, .slice za2 xv.items.length zc2]] V fun e w' => e = .returned (.bool true) ∧ Below V.heap.size V w') := fun V hV => pair15_same (xk, xv) _ _ _ _ V ⟨(LiesX.keeps hV hLk).lies, (LiesX.keeps hV hLv).lies⟩ (hzl.keeps (hB.trans (hV.mono hB.size)))
   have Hend : Hid (∀ V, Below W.heap.size W V → KeepsFrom Wi.heap.size W V ∧ KpT TyBk w.heap.size (Wi.heap.size + 2) W V ∧ (Code.exit 0 = .exit 0 ∧ AbJ w (.slice (some ⟨b, o, none⟩) N c) V)) := fun V hV => ⟨keepsBelowY hV, ⟨hV.mono hB.size, KTy.below hV, keepsBelowY hV⟩, rfl, (hV.block _ b1.lt).trans b1, (hV.block _ b2.lt).trans b2, hB.trans (hV.mono hB.size)⟩
   have p0 := cell_keeps hB p0; have p1 := cell_keeps hB p1; have p2 := cell_keeps hB p2; have p3 := cell_keeps hB p3; have p4 := cell_keeps hB p4; have p5 := cell_keeps hB p5; have p6 := cell_keeps hB p6; have p7 := cell_keeps hB p7
   have C1 := b1.cell
   obtain ⟨k0, k1, k2, k3⟩ := bk.cells
   obtain ⟨v0, v1, v2, v3⟩ := bv.cells
   have hj00 : (0 : Int) ≤ (j : Int) := by omega
   have hjN2 : (j : Int) < (N : Int) := by omega
   have hmx : Tryz.prog.follows .mixedOrders = true := by kernel_rfl
   clear b1 b2 bk bv hLk hLv hzl hz hx hpx hlt hB hNq hq6 hjq hj hB0 hsz hG0
   gi_upto_region 8 with fail
   have hS0 : Below W.heap.size W W.drew := (Below.refl _ _).drew
   refine wpIn_region_R (fun w' => Below W.heap.size W w') hmx ?_
   change wpAnyR _ _ _ _ _ _ _ _ _ _ W.drew
   refine wpAnyR_take (i := 0) (.agg #[.int .i64 xk.kind, .int .i64 xk.num, .string xk.text, .slice a1 xk.items.length c1]) rfl (by kernel_rfl) (by kernel_rfl) (by kernel_rfl) (by kernel_rfl) (fun _ _ _ h => h) (.inl ⟨by kernel_rfl, fun w' hS => ?_⟩) hS0 ?_
   ·have k0 := cell_keeps hS k0; have k1 := cell_keeps hS k1; have k2 := cell_keeps hS k2; have k3 := cell_keeps hS k3; clear hS; simp [go_sem, k0, k1, k2, k3]
   refine wpAnyR_take (i := 1) (.agg #[.int .i64 xv.kind, .int .i64 xv.num, .string xv.text, .slice a2 xv.items.length c2]) rfl (by kernel_rfl) (by kernel_rfl) (by kernel_rfl) (by kernel_rfl) (fun _ _ _ h => h) (.inl ⟨by kernel_rfl, fun w' hS => ?_⟩) hS0 ?_
   ·have v0 := cell_keeps hS v0; have v1 := cell_keeps hS v1; have v2 := cell_keeps hS v2; have v3 := cell_keeps hS v3; clear hS; simp [go_sem, v0, v1, v2, v3]
   refine wpAnyR_take (i := 2) (.agg #[.int .i64 xk.kind, .int .i64 xk.num, .string xk.text, .slice a1 xk.items.length c1, .int .i64 xv.kind, .int .i64 xv.num, .string xv.text, .slice a2 xv.items.length c2]) rfl (by kernel_rfl) (by kernel_rfl) (by kernel_rfl) (by kernel_rfl) (fun _ _ _ h => h) (.inl ⟨by kernel_rfl, fun w' hS => ?_⟩) hS0 ?_
   ·clear hS; simp [go_sem]
   refine wpAnyR_take (i := 3) (.slice (some ⟨b, o, none⟩) N c) rfl (by kernel_rfl) (by kernel_rfl) (by kernel_rfl) (by kernel_rfl) (fun _ _ _ h => h) (.inl ⟨by kernel_rfl, fun w' hS => ?_⟩) hS0 ?_
   ·have C1 := cell_keeps hS C1; clear hS; simp [go_sem, C1]
   refine wpAnyR_take (i := 4) (.slice (some ⟨b, o, none⟩) N c) rfl (by kernel_rfl) (by kernel_rfl) (by kernel_rfl) (by kernel_rfl) (fun _ _ _ h => h) (.inl ⟨by kernel_rfl, fun w' hS => ?_⟩) hS0 ?_
   ·have C1 := cell_keeps hS C1; clear hS; simp [go_sem, C1]
   refine wpAnyR_take (i := 5) (.int .i64 (N : Int)) rfl (by kernel_rfl) (by kernel_rfl) (by kernel_rfl) (by kernel_rfl) (fun _ _ _ h => h) (.inl ⟨by kernel_rfl, fun w' hS => ?_⟩) hS0 ?_
   ·clear hS; simp [go_sem]
   refine wpAnyR_take (i := 6) (.int .i64 (j : Int)) rfl (by kernel_rfl) (by kernel_rfl) (by kernel_rfl) (by kernel_rfl) (fun _ _ _ h => h) (.inl ⟨by kernel_rfl, fun w' hS => ?_⟩) hS0 ?_
   ·clear hS; simp [go_sem, e1]
   refine wpAnyR_take (i := 7) (.pointer (some ⟨b, o + j * 8, none⟩)) rfl (by kernel_rfl) (by kernel_rfl) (by kernel_rfl) (by kernel_rfl) (fun _ _ _ h => h) (.inl ⟨by kernel_rfl, fun w' hS => ?_⟩) hS0 ?_
   ·clear hS; simp [go_sem, hj00, hjN2]
   refine wpAnyR_take (i := 8) (.agg #[.int .i64 xk.kind, .int .i64 xk.num, .string xk.text, .slice za1 xk.items.length zc1, .int .i64 xv.kind, .int .i64 xv.num, .string xv.text, .slice za2 xv.items.length zc2]) rfl (by kernel_rfl) (by kernel_rfl) (by kernel_rfl) (by kernel_rfl) (fun _ _ _ h => h) (.inl ⟨by kernel_rfl, fun w' hS => ?_⟩) hS0 ?_
   ·have p0 := cell_keeps hS p0; have p1 := cell_keeps hS p1; have p2 := cell_keeps hS p2; have p3 := cell_keeps hS p3; have p4 := cell_keeps hS p4; have p5 := cell_keeps hS p5; have p6 := cell_keeps hS p6; have p7 := cell_keeps hS p7; clear hS; simp [go_sem, p0, p1, p2, p3, p4, p5, p6, p7]
   refine wpAnyR_one (i := 9) rfl (by kernel_rfl) (fun K hK => ?_)
   go_simp
   refine ⟨trivial, ?_⟩
   refine (CallsIn.inRound lp (callsIn_wide.2 (HPr.out _ hS0))).mono ?_
   rintro e w3 ⟨rfl, hg3⟩
   have hS3 : Below W.heap.size W w3 := hS0.trans hg3
   refine hK _ _ ⟨hS3, ?_⟩
   have HE : Hid _ := Hend.out w3 hS3
   clear hK K hg3 Hend HPr C1 k0 k1 k2 k3 v0 v1 v2 v3 p0 p1 p2 p3 p4 p5 p6 p7 e1 hj00 hjN2
   refine wpAnyR_take (i := 10) (.bool false) rfl (by kernel_rfl) (by kernel_rfl) (by kernel_rfl) (by kernel_rfl) (fun _ _ _ h => h) (.inl ⟨by kernel_rfl, fun w' hS => ?_⟩) hS3 ?_
   ·clear hS; simp [go_sem]
   refine wpAnyR_done (by kernel_rfl) ?_ _
   gi_wp2
   exact ⟨HE.out.1, HE.out.2.1, rfl, HE.out.2.2.2⟩
  case done =>
   rintro D pre V hD hxs ⟨_, hpre⟩ _
   exfalso
   subst hpre
   have h9 := congrArg List.length hxs
   rw [List.length_map, List.length_reverse, List.length_map] at h9
   exact HN0.out (by rw [HN.out, ← h9]; rfl)
  case stop =>
   rintro D k pre V hD _ ⟨rfl, b1, b2, hB⟩ hK
   have HAz : Hid _ := HAl.out V hB
   have c1 := b1.cell
   clear HSq HVn HAl hG0
   gi_wp2
   first | refine ⟨trivial, (fun h => by cases h), ?_⟩ | refine ⟨trivial, ?_⟩
   refine (callsIn_wide.2 HAz.out).mono ?_
   rintro e w3 ⟨rfl, hg3⟩
   have B2w : Go.Boxed w3 (w.heap.size + 1) 4 (.bool false) := (hg3.block _ b2.lt).trans b2
   have c2 := B2w.cell
   have f2 := B2w.frozen
   have B2s : Go.Boxed (w3.setCell ⟨w.heap.size + 1, 0, none⟩ (.bool true)) (w.heap.size + 1) 4 (.bool true) := B2w.set _
   have hBs : Below w.heap.size w (w3.setCell ⟨w.heap.size + 1, 0, none⟩ (.bool true)) := (hB.trans (hg3.mono hB.size)).setCell (by simp) _
   have hD2 : D ≠ w.heap.size + 1 := by omega
   have hK3 : w3.heap[D]? = some (.deferred (some [])) := (hg3.block _ (Array.getElem?_eq_some_iff.1 hK).1).trans hK
   have HM : Hid (MarksX w.heap.size (w3.setCell ⟨w.heap.size + 1, 0, none⟩ (.bool true)) [D]) := MarksX.one (by omega) ((Below.heap_setCell _ _ _ _ hD2).trans hK3)
   have HT : Hid ((w3.setCell ⟨w.heap.size + 1, 0, none⟩ (.bool true)).cell? ⟨w.heap.size + 1, 0, none⟩ = some (.bool true) ∧ Below w.heap.size w (w3.setCell ⟨w.heap.size + 1, 0, none⟩ (.bool true))) := ⟨B2s.cell, hBs⟩
   clear b1 b2 B2w B2s hB hBs hK hK3 hg3 hD2 hB0 hsz cM HAz c1
   gi_wp2
   refine leavesX w.heap.size (fun V => V.cell? ⟨w.heap.size + 1, 0, none⟩ = some (.bool true) ∧ Below w.heap.size w V) (fun V D hD hK hT => ⟨cell_turnsX hK rfl _ _ _ hT.1, hT.2.trans (below_putX hD)⟩) (fun V hT => ⟨.bool true, by simp [results, Tryz.results44, go_sem, hT.1], rfl, hT.2⟩) [D] _ HM.out HT.out

end Go.Proofs.YtlnecfjnffdciaaGreat

namespace Go.Proofs.YtlnecfjnffdciaaGreat
open Go.RowKit Go.Shelf

theorem backC_of {w : World} {q : Nat} {t : RT PT} {b : Nat} (h : MC w q t b) : BackC t.items (some ⟨b, 0, none⟩) w := fun n Bm W hn hW hm => mback1_15 h n Bm hn W hW hm

theorem slq_none15 (w : World) : SlQ 0 16 w [] (.slice none 0 0) := ⟨none, 0, rfl, by simp, by simp, fun h => absurd rfl h, fun p hp => by cases hp⟩

set_option maxRecDepth 100000 in
set_option maxHeartbeats 16000000 in
theorem betweens_walk (o : Int) (d : Nat) (qs : List PP) (u : Value) (d1 d2 : Nat) (y z : VT) (yu zu : Value) (wf wt : Bool) (w : World) (hu : SlQ 0 d w qs u) (hy : Lies d1 w y.items yu) (hyt : y.text.size ≤ 9223372036854775807) (hz : Lies d2 w z.items zu) (hzt : z.text.size ≤ 9223372036854775807) :
 Calls Tryz.prog 8 #[.int .i64 o, u, .agg #[.int .i64 y.kind, .int .i64 y.num, .string y.text, yu, .int .i64 z.kind, .int .i64 z.num, .string z.text, zu, .bool wf, .bool wt]] w fun e w' => e = .returned (.bool true) ∧ Below w.heap.size w w' := by
 have HSp : Hid (∀ V, Calls Tryz.prog 39 #[] V fun e w' => e = .returned (.bool true) ∧ Below V.heap.size V w') := speaks15_any
 obtain ⟨au, cu, rfl, _⟩ := hu.slice
 obtain ⟨ay, cy, rfl, _⟩ := Lies.slice hy
 obtain ⟨az, cz, rfl, _⟩ := Lies.slice hz
 have HO : Hid (∀ V, Below w.heap.size w V → Calls Tryz.prog 9 #[.int .i64 o, .slice au qs.length cu] V (OfPost14 d o qs V)) := fun V hV => mof_14 d o qs _ V (hu.keeps hV)
 have HY : Hid (∀ V, Below w.heap.size w V → Lies d1 V y.items (.slice ay y.items.length cy)) := fun V hV => Lies.keeps hV _ _ _ hy
 have HZ : Hid (∀ V, Below w.heap.size w V → Lies d2 V z.items (.slice az z.items.length cz)) := fun V hV => Lies.keeps hV _ _ _ hz
 have HTt : Hid (y.text.size ≤ 9223372036854775807 ∧ z.text.size ≤ 9223372036854775807) := ⟨hyt, hzt⟩
 obtain ⟨W0, hW0⟩ : ∃ W0, W0 = w.alloc (.cells #[.int .i64 y.kind, .int .i64 y.num, .string y.text, .slice ay y.items.length cy, .int .i64 z.kind, .int .i64 z.num, .string z.text, .slice az z.items.length cz, .bool wf, .bool wt] 75) := ⟨_, rfl⟩
 have HW0 : Hid (W0 = w.alloc (.cells #[.int .i64 y.kind, .int .i64 y.num, .string y.text, .slice ay y.items.length cy, .int .i64 z.kind, .int .i64 z.num, .string z.text, .slice az z.items.length cz, .bool wf, .bool wt] 75)) := hW0
 have hb0 : Below w.heap.size w W0 := by rw [hW0]; exact ((Grew.refl w).alloc _).below
 have b0 : W0.cell? ⟨w.heap.size, 0, none⟩ = some (.int .i64 y.kind) := by rw [hW0]; simp
 have b1 : W0.cell? ⟨w.heap.size, 1, none⟩ = some (.int .i64 y.num) := by rw [hW0]; simp
 have b2 : W0.cell? ⟨w.heap.size, 2, none⟩ = some (.string y.text) := by rw [hW0]; simp
 have b3 : W0.cell? ⟨w.heap.size, 3, none⟩ = some (.slice ay y.items.length cy) := by rw [hW0]; simp
 have b4 : W0.cell? ⟨w.heap.size, 4, none⟩ = some (.int .i64 z.kind) := by rw [hW0]; simp
 have b5 : W0.cell? ⟨w.heap.size, 5, none⟩ = some (.int .i64 z.num) := by rw [hW0]; simp
 have b6 : W0.cell? ⟨w.heap.size, 6, none⟩ = some (.string z.text) := by rw [hW0]; simp
 have b7 : W0.cell? ⟨w.heap.size, 7, none⟩ = some (.slice az z.items.length cz) := by rw [hW0]; simp
 have b8 : W0.cell? ⟨w.heap.size, 8, none⟩ = some (.bool wf) := by rw [hW0]; simp
 have b9 : W0.cell? ⟨w.heap.size, 9, none⟩ = some (.bool wt) := by rw [hW0]; simp
 clear hW0 hu hy hz hyt hzt
 go_enter Tryz.func8, Tryz.ntmps8
 go_upto_region 1 with fail
 rw [← HW0.out]
 clear HW0
 go_wp2_with fail
 refine Calls.mono (HO.out _ hb0) ?_
 rintro e w1 ⟨hg1, hcase⟩
 have b0 := cell_keeps hg1 b0; have b1 := cell_keeps hg1 b1; have b2 := cell_keeps hg1 b2; have b3 := cell_keeps hg1 b3; have b4 := cell_keeps hg1 b4; have b5 := cell_keeps hg1 b5; have b6 := cell_keeps hg1 b6; have b7 := cell_keeps hg1 b7; have b8 := cell_keeps hg1 b8; have b9 := cell_keeps hg1 b9
 have hb1 : Below w.heap.size w w1 := hb0.trans (hg1.mono hb0.size)
 clear hg1 hb0 HO
 rcases hcase with ⟨hne, rfl⟩ | ⟨he0, t, b, rfl, hm, _⟩
 ·generalize ofErr d o (qs.map trT) = E at hne ⊢
  clear b0 b1 b2 b3 b4 b5 b6 b7 b8 b9
  generalize qs.length = L at *
  go_wp2_with fail
  refine Calls.mono (HSp.out _) ?_
  rintro e w2 ⟨rfl, hg2⟩
  have hb2 : Below w.heap.size w w2 := hb1.trans (hg2.mono hb1.size)
  clear hg2
  go_wp2_with fail
  go_ret
  exact ⟨rfl, hb2⟩
 ·obtain ⟨q, hq⟩ : ∃ q, q = o.toNat := ⟨_, rfl⟩
  rw [← hq] at hm
  have hoq : o = (q : Int) := by
   have h9 : ordErr o = 0 := by
    unfold ofErr at he0
    by_cases h8 : ordErr o = 0
    ·exact h8
    ·rw [if_pos h8] at he0; exact he0
   have h8 : 0 ≤ o := by
    unfold ordErr at h9
    by_cases h7 : 0 ≤ o
    ·exact h7
    ·rw [if_pos (by omega)] at h9; exact absurd h9 (by decide)
   omega
  subst hoq
  clear he0 hq
  have HM : Hid (MC w1 q t b) := hm
  have HPs : Hid _ := mpairs_14 hm
  clear hm
  generalize qs.length = L at *
  go_wp2_with fail
  refine Calls.mono HPs.out ?_
  rintro e w2 ⟨v9, ps, rfl, hps, hs9, _, hg2⟩
  have hb2 : Below w.heap.size w w2 := hb1.trans (hg2.mono hb1.size)
  have b0 := cell_keeps hg2 b0; have b1 := cell_keeps hg2 b1; have b2 := cell_keeps hg2 b2; have b3 := cell_keeps hg2 b3; have b4 := cell_keeps hg2 b4; have b5 := cell_keeps hg2 b5; have b6 := cell_keeps hg2 b6; have b7 := cell_keeps hg2 b7; have b8 := cell_keeps hg2 b8; have b9 := cell_keeps hg2 b9
  have HM2 : Hid (MC w2 q t b) := HM.out.keeps hg2
  have HS9 : Hid (SlQ 0 16 w2 ps v9) := hs9.mono (Nat.zero_le _)
  have hpl : ps.length ≤ 65536 := by
   have h8 := congrArg List.length hps
   rw [List.length_map, ← RT.size_items] at h8
   have := HM.out.size
   omega
  have HPl : Hid (ps.length ≤ 65536 ∧ ps.map trT = t.items) := ⟨hpl, hps⟩
  have HBk : Hid (∀ V, Below w2.heap.size w2 V → Calls Tryz.prog 44 #[.pointer (some ⟨b, 0, none⟩), v9] V fun e w' => e = .returned (.bool true) ∧ Below V.heap.size V w') := fun V hV => back15 ps v9 _ V (HS9.out.keeps hV) hpl (fun V2 hV2 => by rw [hps]; exact backC_of ((HM2.out.keeps hV).keeps hV2))
  have HPm : Hid (∀ V, Below w2.heap.size w2 V → Calls Tryz.prog 34 #[.pointer (some ⟨b, 0, none⟩)] V fun e w' => Below V.heap.size V w' ∧ ∃ v, e = .returned v ∧ ∀ V2, Below w'.heap.size w' V2 → Calls Tryz.prog 37 #[v, v9] V2 fun e w' => e = .returned (.bool true) ∧ Below V2.heap.size V2 w') := fun V hV => by
   refine Calls.mono (mpairs_14 (HM2.out.keeps hV)) ?_
   rintro e w' ⟨v, rs, rfl, hrs, hr9, _, hb⟩
   refine ⟨hb, v, rfl, fun V2 hV2 => ?_⟩
   exact pairs_same 16 rs ps (by rw [hrs, hps]) v v9 V2 ((hr9.mono (Nat.zero_le _)).keeps hV2) (HS9.out.keeps ((hV.trans (hb.mono hV.size)).trans (hV2.mono (hV.trans (hb.mono hV.size)).size))) (by
    have h8 := congrArg List.length hrs
    rw [List.length_map, ← RT.size_items] at h8
    have := HM2.out.size
    omega)
  have HBw : Hid _ := mbetween_15 d1 d2 b q t y z _ _ wf wt w2 HM2.out (HY.out _ hb2) HTt.out.1 (HZ.out _ hb2) HTt.out.2
  have HCt : Hid (∀ V, Below w2.heap.size w2 V → Calls Tryz.prog 42 #[.pointer (some ⟨b, 0, none⟩), .agg #[.int .i64 y.kind, .int .i64 y.num, .string y.text, .slice ay y.items.length cy], .agg #[.int .i64 z.kind, .int .i64 z.num, .string z.text, .slice az z.items.length cz], .bool wf, .bool wt] V (OrPost q (btwL q y z wf wt t) (btwE d1 d2 y z) V)) := fun V hV => mcut_15 d1 d2 b q t y z _ _ wf wt V (HM2.out.keeps hV) (HY.out _ (hb2.trans (hV.mono hb2.size))) HTt.out.1 (HZ.out _ (hb2.trans (hV.mono hb2.size))) HTt.out.2
  obtain ⟨a9, c9, hv9, _⟩ := HS9.out
  subst hv9
  clear hps hs9 hg2 hpl HPs HM
  by_cases hrr : rightV d1 y = true ∧ rightV d2 z = true
  ·have hE : btwE d1 d2 y z = 0 := by unfold btwE; rw [if_pos hrr]
   rw [hE] at HBw HCt
   have hLi : btwL q y z wf wt t = t.items.filter (isBtw q y z wf wt) := btwL_is HM2.out y z wf wt
   have HRb : Hid (∀ V, Below w2.heap.size w2 V → Calls Tryz.prog 41 #[.int .i64 (q : Int), .slice a9 ps.length c9, .agg #[.int .i64 y.kind, .int .i64 y.num, .string y.text, .slice ay y.items.length cy, .int .i64 z.kind, .int .i64 z.num, .string z.text, .slice az z.items.length cz, .bool wf, .bool wt]] V (BtD (btwL q y z wf wt t) V)) := fun V hV => by
    obtain ⟨h16, r16⟩ := canon (HY.out _ (hb2.trans (hV.mono hb2.size))) hrr.1
    obtain ⟨k16, s16⟩ := canon (HZ.out _ (hb2.trans (hV.mono hb2.size))) hrr.2
    have h9 := rbtw15_right q HM2.out.q6 ps _ y z ay az cy cz wf wt V (HS9.out.keeps hV) HPl.out.1 (fun p hp => (HM2.out.right (trT p) (by rw [← HPl.out.2]; exact List.mem_map.2 ⟨p, hp, rfl⟩)).1.1) h16 k16 r16 s16
    rw [HPl.out.2, ← hLi] at h9
    exact h9
   have hLl : (btwL q y z wf wt t).length ≤ 65536 := by
    rw [hLi]
    have h1 := List.length_filter_le (isBtw q y z wf wt) t.items
    have h2 := HM2.out.size
    rw [RT.size_items] at h2
    omega
   have HLl : Hid ((btwL q y z wf wt t).length ≤ 65536) := hLl
   clear hE hLi hLl hrr HY HZ HTt
   generalize btwL q y z wf wt t = BL at *
   obtain ⟨NP, hNP⟩ : ∃ NP, NP = ps.length := ⟨_, rfl⟩
   rw [← hNP] at HBk HPm HRb ⊢
   clear hNP HS9 HPl
   go_wp2_with fail
   refine Calls.mono HBw.out ?_
   rintro e w3 ⟨hg3, ⟨hne, _⟩ | ⟨_, va, rfl, hca⟩⟩
   ·exact absurd rfl hne
   ·obtain ⟨va', ra, hva, hra, hsa, _, _⟩ := hca
    have hvv : va = va' := by injection hva
    subst hvv
    have HA : Hid (SlQ 0 16 w3 ra va ∧ ra.map trT = BL) := ⟨hsa.mono (Nat.zero_le _), hra⟩
    obtain ⟨aa, ca, hva2, _⟩ := HA.out.1
    subst hva2
    have b0 := cell_keeps hg3 b0; have b1 := cell_keeps hg3 b1; have b2 := cell_keeps hg3 b2; have b3 := cell_keeps hg3 b3; have b4 := cell_keeps hg3 b4; have b5 := cell_keeps hg3 b5; have b6 := cell_keeps hg3 b6; have b7 := cell_keeps hg3 b7; have b8 := cell_keeps hg3 b8; have b9 := cell_keeps hg3 b9
    have hb3 : Below w.heap.size w w3 := hb2.trans (hg3.mono hb2.size)
    have HG3 : Hid (Below w2.heap.size w2 w3) := hg3
    clear hg3 hva hra hsa HBw
    obtain ⟨NA, hNA⟩ : ∃ NA, NA = ra.length := ⟨_, rfl⟩
    have HNA : Hid (NA = ra.length) := hNA
    rw [← hNA] at HA ⊢
    clear hNA
    go_wp2_with fail
    refine Calls.mono (HRb.out _ HG3.out) ?_
    rintro e w4 ⟨hg4, rb, vb, rfl, hrb, hsb⟩
    have HG4 : Hid (Below w2.heap.size w2 w4) := HG3.out.trans (hg4.mono HG3.out.size)
    have b0 := cell_keeps hg4 b0; have b1 := cell_keeps hg4 b1; have b2 := cell_keeps hg4 b2; have b3 := cell_keeps hg4 b3; have b4 := cell_keeps hg4 b4; have b5 := cell_keeps hg4 b5; have b6 := cell_keeps hg4 b6; have b7 := cell_keeps hg4 b7; have b8 := cell_keeps hg4 b8; have b9 := cell_keeps hg4 b9
    have hpb : ra.map trT = rb.map trT := by rw [HA.out.2, hrb]
    have hlb : rb.length ≤ 65536 := by
     have h8 := congrArg List.length hrb
     rw [List.length_map] at h8
     have := HLl.out
     omega
    have hla : ra.length ≤ 65536 := by
     have h8 := congrArg List.length HA.out.2
     rw [List.length_map] at h8
     have := HLl.out
     omega
    have HPab : Hid (Calls Tryz.prog 37 #[.slice aa NA ca, vb] w4 fun e w' => e = .returned (.bool true) ∧ Below w4.heap.size w4 w') := pairs_same 16 ra rb hpb _ vb w4 (HA.out.1.keeps hg4) hsb hla
    have HPcb : Hid (∀ (t2 : RT PT) (b2 : Nat) V, MC V q t2 b2 → t2.items = BL → Below w4.heap.size w4 V → Calls Tryz.prog 34 #[.pointer (some ⟨b2, 0, none⟩)] V fun e w' => Below V.heap.size V w' ∧ ∃ v, e = .returned v ∧ ∀ V2, Below w'.heap.size w' V2 → Calls Tryz.prog 37 #[v, vb] V2 fun e w' => e = .returned (.bool true) ∧ Below V2.heap.size V2 w') := fun t2 b2 V hM hi hV => by
     refine Calls.mono (mpairs_14 hM) ?_
     rintro e w' ⟨v, rs, rfl, hrs, hr9, _, hb⟩
     refine ⟨hb, v, rfl, fun V2 hV2 => ?_⟩
     exact pairs_same 16 rs rb (by rw [hrs, hi, hrb]) v vb V2 ((hr9.mono (Nat.zero_le _)).keeps hV2) (hsb.keeps ((hV.trans (hb.mono hV.size)).trans (hV2.mono (hV.trans (hb.mono hV.size)).size))) (by
      have h8 := congrArg List.length hrs
      rw [List.length_map, hi] at h8
      have := HLl.out
      omega)
    have HLb : Hid (rb.length = BL.length) := by rw [← hrb, List.length_map]; rfl
    obtain ⟨ab, cb, hvb, _⟩ := hsb
    subst hvb
    obtain ⟨NB, hNB⟩ : ∃ NB, NB = rb.length := ⟨_, rfl⟩
    rw [← hNB] at HPab HPcb HLb ⊢
    clear hNB hrb hpb hlb hla hg4 HRb HA HNA
    go_wp2_with fail
    refine Calls.mono HPab.out ?_
    rintro e w5 ⟨rfl, hg5⟩
    have HG45 : Hid (Below w4.heap.size w4 w5) := hg5
    have HG5 : Hid (Below w2.heap.size w2 w5) := HG4.out.trans (hg5.mono HG4.out.size)
    have b0 := cell_keeps hg5 b0; have b1 := cell_keeps hg5 b1; have b2 := cell_keeps hg5 b2; have b3 := cell_keeps hg5 b3; have b4 := cell_keeps hg5 b4; have b5 := cell_keeps hg5 b5; have b6 := cell_keeps hg5 b6; have b7 := cell_keeps hg5 b7; have b8 := cell_keeps hg5 b8; have b9 := cell_keeps hg5 b9
    clear hg5 HPab
    go_wp2_with fail
    refine Calls.mono (HCt.out _ HG5.out) ?_
    rintro e w6 ⟨hg6, ⟨hne, _⟩ | ⟨_, t2, b2', rfl, hm6, hi6⟩⟩
    ·exact absurd rfl hne
    ·have HG6 : Hid (Below w2.heap.size w2 w6) := HG5.out.trans (hg6.mono HG5.out.size)
     have HG46 : Hid (Below w4.heap.size w4 w6) := HG45.out.trans (hg6.mono HG45.out.size)
     have HOr : Hid (∀ V, Below w6.heap.size w6 V → Calls Tryz.prog 43 #[.pointer (some ⟨b2', 0, none⟩)] V fun e w' => e = .returned (.int .i64 (q : Int)) ∧ w' = V) := fun V hV => morder_14 (hm6.keeps hV)
     have HOm : Hid (∀ V, Below w2.heap.size w2 V → Calls Tryz.prog 43 #[.pointer (some ⟨b, 0, none⟩)] V fun e w' => e = .returned (.int .i64 (q : Int)) ∧ w' = V) := fun V hV => morder_14 (HM2.out.keeps hV)
     have HPc : Hid _ := HPcb.out t2 b2' w6 hm6 hi6 HG46.out
     have HLc : Hid (∀ V, Below w6.heap.size w6 V → Calls Tryz.prog 26 #[.pointer (some ⟨b2', 0, none⟩)] V fun e w' => e = .returned (.int .i64 (NB : Nat)) ∧ Below V.heap.size V w') := fun V hV => by
      have h9 := mlen_14 (hm6.keeps hV)
      rw [RT.size_items, hi6, ← HLb.out] at h9
      exact h9
     clear hm6 hi6 hg6 HPcb HLb b0 b1 b2 b3 b4 b5 b6 b7 b8 b9 HCt HM2 HLl
     go_wp2_with fail
     refine Calls.mono (HOr.out _ (Below.refl _ _)) ?_
     rintro e wx ⟨rfl, hwx⟩
     subst hwx
     go_wp2_with fail
     refine Calls.mono (HOm.out _ HG6.out) ?_
     rintro e wx ⟨rfl, hwx⟩
     subst hwx
     go_wp2_with fail
     refine Calls.mono HPc.out ?_
     rintro e w7 ⟨hg7, vc, rfl, hpc⟩
     have HPd : Hid _ := hpc
     have hb67 : Below wx.heap.size wx w7 := hg7
     clear hpc hg7 HPc
     go_wp2_with fail
     refine Calls.mono (HPd.out _ (Below.refl _ _)) ?_
     rintro e w8 ⟨rfl, hg8⟩
     have hb68 : Below wx.heap.size wx w8 := hb67.trans (hg8.mono hb67.size)
     clear hg8 HPd hb67
     go_wp2_with fail
     refine Calls.mono (HLc.out _ hb68) ?_
     rintro e w9 ⟨rfl, hg9⟩
     have hb69 : Below wx.heap.size wx w9 := hb68.trans (hg9.mono hb68.size)
     have hbz : Below w2.heap.size w2 w9 := HG6.out.trans (hb69.mono HG6.out.size)
     clear hg9 hb68 hb69 HLc HOr HOm
     go_wp2_with fail
     refine Calls.mono (HBk.out _ hbz) ?_
     rintro e wk1 ⟨rfl, hk1⟩
     have hbk1 : Below w2.heap.size w2 wk1 := (hbz).trans (hk1.mono (hbz).size)
     clear hk1 HBk
     go_wp2_with fail
     refine Calls.mono (HPm.out _ hbk1) ?_
     rintro e wk2 ⟨hk2, vk, rfl, hkc⟩
     have HKc : Hid _ := hkc
     have hbk2 : Below w2.heap.size w2 wk2 := hbk1.trans (hk2.mono hbk1.size)
     clear hk2 hkc HPm
     go_wp2_with fail
     refine Calls.mono (HKc.out _ (Below.refl _ _)) ?_
     rintro e wk3 ⟨rfl, hk3⟩
     have hbk3 : Below w2.heap.size w2 wk3 := hbk2.trans (hk3.mono hbk2.size)
     clear hk3 HKc
     go_wp2_with fail
     refine Calls.mono (HSp.out _) ?_
     rintro e wk4 ⟨rfl, hk4⟩
     have hbk4 : Below w.heap.size w wk4 := hb2.trans ((hbk3.trans (hk4.mono hbk3.size)).mono hb2.size)
     clear hk4
     go_wp2_with fail
     go_ret
     exact ⟨rfl, hbk4⟩
  ·have hE : btwE d1 d2 y z = 3 := by unfold btwE; rw [if_neg hrr]
   rw [hE] at HBw HCt
   have HRb : Hid (∀ V, Below w2.heap.size w2 V → Calls Tryz.prog 41 #[.int .i64 (q : Int), .slice a9 ps.length c9, .agg #[.int .i64 y.kind, .int .i64 y.num, .string y.text, .slice ay y.items.length cy, .int .i64 z.kind, .int .i64 z.num, .string z.text, .slice az z.items.length cz, .bool wf, .bool wt]] V fun e w' => e = .returned (.tuple #[.slice none 0 0, .int .i64 3]) ∧ Below V.heap.size V w') := fun V hV => rbtw15_wrong d1 d2 q y z ay az a9 cy cz ps.length c9 wf wt V (HY.out _ (hb2.trans (hV.mono hb2.size))) (HZ.out _ (hb2.trans (hV.mono hb2.size))) hrr
   have HP0 : Hid (∀ V, Calls Tryz.prog 37 #[.slice none 0 0, .slice none 0 0] V fun e w' => e = .returned (.bool true) ∧ Below V.heap.size V w') := fun V => pairs_same 16 [] [] rfl _ _ V (slq_none15 V) (slq_none15 V) (by simp)
   clear hE hrr HY HZ HTt
   generalize btwL q y z wf wt t = BL at *
   obtain ⟨NP, hNP⟩ : ∃ NP, NP = ps.length := ⟨_, rfl⟩
   rw [← hNP] at HBk HPm HRb ⊢
   clear hNP HS9 HPl HM2
   go_wp2_with fail
   refine Calls.mono HBw.out ?_
   rintro e w3 ⟨hg3, ⟨_, rfl⟩ | ⟨hE0, _⟩⟩
   ·have b0 := cell_keeps hg3 b0; have b1 := cell_keeps hg3 b1; have b2 := cell_keeps hg3 b2; have b3 := cell_keeps hg3 b3; have b4 := cell_keeps hg3 b4; have b5 := cell_keeps hg3 b5; have b6 := cell_keeps hg3 b6; have b7 := cell_keeps hg3 b7; have b8 := cell_keeps hg3 b8; have b9 := cell_keeps hg3 b9
    have HG3 : Hid (Below w2.heap.size w2 w3) := hg3
    clear hg3 HBw
    go_wp2_with fail
    refine Calls.mono (HRb.out _ HG3.out) ?_
    rintro e w4 ⟨rfl, hg4⟩
    have HG4 : Hid (Below w2.heap.size w2 w4) := HG3.out.trans (hg4.mono HG3.out.size)
    have b0 := cell_keeps hg4 b0; have b1 := cell_keeps hg4 b1; have b2 := cell_keeps hg4 b2; have b3 := cell_keeps hg4 b3; have b4 := cell_keeps hg4 b4; have b5 := cell_keeps hg4 b5; have b6 := cell_keeps hg4 b6; have b7 := cell_keeps hg4 b7; have b8 := cell_keeps hg4 b8; have b9 := cell_keeps hg4 b9
    clear hg4 HRb
    go_wp2_with fail
    refine Calls.mono (HP0.out _) ?_
    rintro e w5 ⟨rfl, hg5⟩
    have HG5 : Hid (Below w2.heap.size w2 w5) := HG4.out.trans (hg5.mono HG4.out.size)
    have b0 := cell_keeps hg5 b0; have b1 := cell_keeps hg5 b1; have b2 := cell_keeps hg5 b2; have b3 := cell_keeps hg5 b3; have b4 := cell_keeps hg5 b4; have b5 := cell_keeps hg5 b5; have b6 := cell_keeps hg5 b6; have b7 := cell_keeps hg5 b7; have b8 := cell_keeps hg5 b8; have b9 := cell_keeps hg5 b9
    clear hg5 HP0
    go_wp2_with fail
    refine Calls.mono (HCt.out _ HG5.out) ?_
    rintro e w6 ⟨hg6, ⟨_, rfl⟩ | ⟨hE0, _⟩⟩
    ·have hbz : Below w2.heap.size w2 w6 := HG5.out.trans (hg6.mono HG5.out.size)
     clear hg6 HCt b0 b1 b2 b3 b4 b5 b6 b7 b8 b9
     go_wp2_with fail
     refine Calls.mono (HBk.out _ hbz) ?_
     rintro e wk1 ⟨rfl, hk1⟩
     have hbk1 : Below w2.heap.size w2 wk1 := (hbz).trans (hk1.mono (hbz).size)
     clear hk1 HBk
     go_wp2_with fail
     refine Calls.mono (HPm.out _ hbk1) ?_
     rintro e wk2 ⟨hk2, vk, rfl, hkc⟩
     have HKc : Hid _ := hkc
     have hbk2 : Below w2.heap.size w2 wk2 := hbk1.trans (hk2.mono hbk1.size)
     clear hk2 hkc HPm
     go_wp2_with fail
     refine Calls.mono (HKc.out _ (Below.refl _ _)) ?_
     rintro e wk3 ⟨rfl, hk3⟩
     have hbk3 : Below w2.heap.size w2 wk3 := hbk2.trans (hk3.mono hbk2.size)
     clear hk3 HKc
     go_wp2_with fail
     refine Calls.mono (HSp.out _) ?_
     rintro e wk4 ⟨rfl, hk4⟩
     have hbk4 : Below w.heap.size w wk4 := hb2.trans ((hbk3.trans (hk4.mono hbk3.size)).mono hb2.size)
     clear hk4
     go_wp2_with fail
     go_ret
     exact ⟨rfl, hbk4⟩
    ·exact absurd hE0 (by decide)
   ·exact absurd hE0 (by decide)

end Go.Proofs.YtlnecfjnffdciaaGreat

