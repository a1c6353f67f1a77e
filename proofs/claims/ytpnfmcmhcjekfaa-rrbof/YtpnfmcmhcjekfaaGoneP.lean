/-
  gone: the items that a vector hands out from a place on, in a list.
-/
import Derived.Test.YtpnfmcmhcjekfaaAppSeqP
import Derived.Test.YtpnfmcmhcjekfaaNumsR
import Derived.Test.YtpnfmcmhcjekfaaLiesX
namespace Go.Proofs.Ytpnfmcmhcjekfaa
open Go.RowKit Go.Shelf

/-- What is said abides the turn of a block from B on that is no cells, or a box of one cell that holds no list of values. -/
def AbX {β : Type} (B : Nat) (I : β → World → Prop) : Prop :=
  ∀ s W W' row, I s W → W.grownBy W' row → (∀ r, row = some r → B ≤ r ∧ ∃ o : Obj, W.heap[r]? = some o ∧ (o.isCells = false ∨ ∃ T u, T ≠ 22 ∧ o = .cells #[u] T (0, 0))) → I s W'

theorem AbX.from {β : Type} {B : Nat} {I : β → World → Prop} (h : AbX B I) : OwnFrom B I := fun s W W' row hs hg hr => h s W W' row hs hg (fun r e => ⟨(hr r e).1, by obtain ⟨_, o, ho, hc⟩ := hr r e; exact ⟨o, ho, .inl hc⟩⟩)

/-- What an iterator does whose rounds all go on: Pre holds of what it hands out, of the world behind the last round and the one in which it hands it out. -/
def SeqP {α : Type} (F : Fence) (n : Nat) (P : Program) (g : Nat) (lb : Array Value) (encs : α → Array Value) (Kp : Nat → World → World → Prop) (Pre : List α → α → World → World → Prop) (S : List α → Prop) (N : Nat) (w : World) : Prop :=
  ∀ (l : Nat) (J : List α → World → Prop) (W : World), Below w.heap.size w W → AbX W.heap.size J →
    (∀ pre x V W1, J pre V → Below V.heap.size V W1 → Pre pre x V W1 → pre.length < N → YieldAt F (n - 1) P l (encs x) W1 fun e W' => e = .returned (.bool true) ∧ J (pre ++ [x]) W' ∧ Kp W.heap.size W1 W') →
    J [] W → CallsIn F n P g (#[.func (.yield l) #[] #[]] ++ lb) W fun e W' => (∃ v, e = .returned v) ∧ ∃ xs, S xs ∧ J xs W'

/-- A record of a loop. -/
def recP (fn : FuncId) (tmps : Array Value) (ps : Array Tmp) (assign body : Code) (D : Nat) (st : LoopState) (pe : Option Code) : Loop := { state := st, pending := pe, fn := fn, tmps := tmps, params := ps, assign := assign, body := body, defers := D }

/-- The two blocks that a loop keeps its books in. -/
def BooksP (D : Nat) (r : Loop) (W : World) : Prop := W.heap[D + 1]? = some (.loop r) ∧ W.heap[D]? = some (.deferred (some []))

theorem BooksP.others {D B : Nat} {r : Loop} {W W' : World} (h : BooksP D r W) (hk : KeepsFrom B W W') (hB : B ≤ D) : BooksP D r W' := ⟨hk.same _ _ (by omega) h.1 rfl, hk.same _ _ hB h.2 rfl⟩

theorem BooksP.put {D : Nat} {r r' : Loop} {W : World} (h : BooksP D r W) : BooksP D r' (W.putObj (D + 1) (.loop r')) :=
  ⟨World.putObj_heap_same (Array.getElem?_eq_some_iff.1 h.1).1, (World.putObj_heap_other (by omega)).trans h.2⟩

theorem rangeP {α : Type} {F : Fence} {n : Nat} {P : Program} {g : Operand} {ps : Array Tmp} {assign body : Code} {Q : Exit → Act → World → Prop} {a : Act} {w : World}
    (hro : F.round = none) (h1 : 1 ≤ n) {gf : Nat} {lb : Array Value} (hg : a.eval g = .func (.func gf) #[] lb) (hFg : F.fn gf) (eg : ∀ args w, (callFunc gf args).run P w = .ok (.enter gf args) w)
    {encs : α → Array Value} {Kp : Nat → World → World → Prop} {Pre : List α → α → World → World → Prop} {S : List α → Prop} {N : Nat} {w0 : World} (hseq : SeqP F (n - 1) P gf lb encs Kp Pre S N w0)
    (hKt : ∀ {A B C : World}, Kp (w.heap.size + 2) A B → Kp (w.heap.size + 2) B C → Kp (w.heap.size + 2) A C) (hKb : ∀ (W : World) (o o' : Obj), W.heap[w.heap.size + 1]? = some o → o.isCells = false → Kp (w.heap.size + 2) W (W.putObj (w.heap.size + 1) o')) (hb0 : Below w0.heap.size w0 w) (hps : ∀ x, (encs x).size = ps.size)
    (I : List α → World → Prop) (hIx : AbX w.heap.size I) (h0 : I [] w) (Ax : List α → α → Act → World → Prop) (hAx : ∀ pre x a', OwnFrom w.heap.size (fun (_ : Unit) W => Ax pre x a' W))
    (hassign : ∀ (l : Nat) (pre : List α) (x : α) (V W : World) (K : Act → World → Prop), I pre V → Below V.heap.size V W → Pre pre x V W → (∀ a' W', KeepsFrom w.heap.size W W' → Kp (w.heap.size + 2) W W' → I pre W' → Ax pre x a' W' → K a' W') →
      assign.wpIn (F.inRound l) (n - 1 - 1) P (Exit.then K (fun _ _ _ => False)) { tmps := (ps.zip (encs x)).foldl (fun t (p, v) => t.setIfInBounds p v) a.tmps, defers := [] } W)
    (hbody : ∀ (l : Nat) (pre : List α) (x : α) (a' : Act) (W : World), w.heap.size ≤ l → I pre W → Ax pre x a' W → pre.length < N → body.wpIn (F.inRound l) (n - 1 - 1) P (ownPostG w.heap.size (Kp (w.heap.size + 2)) I (fun _ _ _ => False) (pre ++ [x]) W) a' W)
    (hdone : ∀ (D : Nat) (xs : List α) (W : World), w.heap.size ≤ D → S xs → I xs W → W.heap[D]? = some (.deferred (some [])) → Q .normal { a with defers := { target := .collected D, args := #[] } :: a.defers } W) :
    (Code.rangeFunc g ps assign body).wpIn F n P Q a w := by
  have hI : OwnFrom w.heap.size I := hIx.from
  refine wpIn_rangeFunc fun fn hfn => ?_
  rw [hro]
  obtain ⟨rec, hrec⟩ : ∃ rec, rec = recP fn a.tmps ps assign body w.heap.size := ⟨_, rfl⟩
  obtain ⟨V, hV⟩ : ∃ V, V = (w.alloc (.deferred (some []))).alloc (.loop (rec .ready none)) := ⟨_, rfl⟩
  have hVs : V.heap.size = w.heap.size + 2 := by rw [hV]; simp
  have hbk : BooksP w.heap.size (rec .ready none) V := by
    rw [hV]
    refine ⟨?_, (Below.heap_alloc _ _ _ (by simp)).trans (World.alloc_heap_new w _)⟩
    have h9 := World.alloc_heap_new (w.alloc (.deferred (some []))) (.loop (rec .ready none))
    rwa [World.size_alloc] at h9
  have hIV : I [] V := by rw [hV]; exact hI.alloc _ (hI.alloc _ h0)
  have hbV : Below w0.heap.size w0 V := by
    rw [hV]
    exact hb0.trans ((((Below.refl _ w).alloc (Nat.le_refl _) _).alloc (by simp) _).mono hb0.size)
  refine ⟨w.heap.size + 1, [{ target := .collected w.heap.size, args := #[] }], V, { target := .fn (.func gf) lb, args := #[.func (.yield (w.heap.size + 1)) #[] #[]] }, V, gf, #[.func (.yield (w.heap.size + 1)) #[] #[]] ++ lb, V, ?_, ?_, ?_, ?_, fun _ => h1, ?_⟩
  · rw [hV, hrec]; exact run_enterLoop_outer _ _ _ _ _
  · simp only [resolve, hg]
    simp [go_sem]
  · intro f' hf'
    simp [Target.leads] at hf'
    subst hf'
    exact hFg
  · simp [invoke, go_sem, eg]
  · refine (hseq (w.heap.size + 1) (fun pre W => I pre W ∧ BooksP w.heap.size (rec .ready none) W) V hbV ?_ ?_ ⟨hIV, hbk⟩).mono ?_
    · rintro s A B row ⟨hi, hk⟩ hgr hr
      refine ⟨hIx s A B row hi hgr (fun r e => ⟨by have := (hr r e).1; omega, (hr r e).2⟩), ?_⟩
      have hsm : ∀ k o, k < w.heap.size + 2 → A.heap[k]? = some o → B.heap[k]? = some o := fun k o hk2 ho => (hgr.block k (Array.getElem?_eq_some_iff.1 ho).1 (fun e => by have := (hr k e.symm).1; omega)).trans ho
      exact ⟨hsm _ _ (by omega) hk.1, hsm _ _ (by omega) hk.2⟩
    · rintro pre x V0 W ⟨hi, hk0⟩ hb0W hpre hlen
      have hk : BooksP w.heap.size (rec .ready none) W := ⟨(hb0W.block _ (Array.getElem?_eq_some_iff.1 hk0.1).1).trans hk0.1, (hb0W.block _ (Array.getElem?_eq_some_iff.1 hk0.2).1).trans hk0.2⟩
      have hy := run_yield (P := P) (args := encs x) hk.1 (by rw [hrec]; exact hps x)
      rw [hrec] at hy
      refine ⟨fn, _, assign, body, hy, roundIn_of_wpIn hfn (hassign _ pre x V0 W _ hi hb0W hpre ?_)⟩
      intro a' Wa hkf hkp hia hax
      have hka := hk.others hkf (Nat.le_refl _)
      refine ⟨_, run_beginRound hka.1 (by rw [hrec]; rfl), ?_⟩
      have hk2 : BooksP w.heap.size { rec .ready none with state := .busy } (Wa.putObj (w.heap.size + 1) (.loop { rec .ready none with state := .busy })) := hka.put
      have hkp2 : Kp (w.heap.size + 2) Wa (Wa.putObj (w.heap.size + 1) (.loop { rec .ready none with state := .busy })) := hKb _ _ _ hka.1 rfl
      refine wpIn_mono (hbody _ pre x a' _ (by omega) (hI.putObj _ hia (by omega) hka.1 rfl) ((hAx pre x a').putObj (s := ()) _ hax (by omega) hka.1 rfl) hlen) ?_
      rintro e a3 W3 hp
      cases e with
      | normal =>
        obtain ⟨hk3, hkp3, hi3⟩ := hp
        have hb3 := hk2.others hk3 (Nat.le_refl _)
        have hrun := run_endRound (P := P) none hb3.1
        refine ⟨_, _, hrun, rfl, ⟨hI.putObj _ hi3 (by omega) hb3.1 rfl, ?_⟩, by rw [hVs]; exact hKt hkp (hKt (hKt hkp2 hkp3) (hKb _ _ _ hb3.1 rfl))⟩
        have h9 := hb3.put (r' := rec .ready none)
        rw [hrec] at h9 ⊢
        exact h9
      | ret => exact hp.2.elim
      | exit id => exact hp.2.elim
      | goto t => exact hp.2.elim
      | panic ch => exact hp.elim
      | outgrown => exact hp.elim
    · rintro e W2 ⟨⟨v, rfl⟩, xs, hS, hi, hk⟩
      have hrun := run_endLoop (P := P) hk.1 (by rw [hrec]; simp [recP])
      refine ⟨none, _, by rw [hrun, hrec]; rfl, hdone _ xs _ (Nat.le_refl _) hS (hI.putObj _ hi (by omega) hk.1 rfl) ((World.putObj_heap_other (by omega)).trans hk.2)⟩

end Go.Proofs.Ytpnfmcmhcjekfaa

namespace Go.Proofs.Ytpnfmcmhcjekfaa
open Go.RowKit Go.Shelf

attribute [local go_sem] Oper.semAt_some

/-- What From hands out: a place and a copy. -/
structure CP where
  i : Int
  t : VT
  a : Option Addr
  c : Nat

def encCP (x : CP) : Array Value := #[.int .i64 x.i, .agg #[.int .i64 x.t.kind, .int .i64 x.t.num, .string x.t.text, .slice x.a x.t.items.length x.c]]

def PreCP (p0 : Nat) (pre : List CP) (x : CP) (V W : World) : Prop := x.i = ((p0 + pre.length : Nat) : Int) ∧ LiesB V.heap.size 16 W x.t.items (.slice x.a x.t.items.length x.c) ∧ x.t.text.size ≤ 9223372036854775807

/-- Boxes of one cell, but those of lists, stay as they are. -/
def KBx (A B : World) : Prop := ∀ b T u, T ≠ 22 → Go.Boxed A b T u → Go.Boxed B b T u

/-- What a round keeps. -/
def KpX (n0 n1 : Nat) (A B : World) : Prop := Below n0 A B ∧ KBx A B ∧ KeepsFrom n1 A B

theorem KBx.below {A B : World} (h : Below A.heap.size A B) : KBx A B := fun b _ _ _ hb => (h.block b hb.lt).trans hb
theorem KBx.trans {A B C : World} (h : KBx A B) (k : KBx B C) : KBx A C := fun b T u hT hb => k b T u hT (h b T u hT hb)
theorem KBx.put {W : World} {l : Nat} {o o' : Obj} (hl : W.heap[l]? = some o) (ho : o.isCells = false) : KBx W (W.putObj l o') := fun b T u _ hb => by
  by_cases e : b = l
  · subst e
    have hb' : W.heap[b]? = some (.cells #[u] T (0, 0)) := hb
    rw [hl] at hb'
    injection hb' with hb'
    subst hb'
    simp [Obj.isCells] at ho
  · exact (World.putObj_heap_other e).trans hb

theorem kpX_t {n0 n1 : Nat} {A B C : World} (h : KpX n0 n1 A B) (k : KpX n0 n1 B C) : KpX n0 n1 A C := ⟨h.1.trans k.1, h.2.1.trans k.2.1, h.2.2.trans k.2.2⟩
theorem kpX_b {n0 n1 l : Nat} (hn : n0 ≤ l) (h1 : l < n1) (W : World) (o o' : Obj) (h : W.heap[l]? = some o) (hc : o.isCells = false) : KpX n0 n1 W (W.putObj l o') :=
  ⟨⟨rfl, rfl, rfl, by simp [World.putObj], fun k hk => World.putObj_heap_other (by omega)⟩, KBx.put h hc, by simp [World.putObj], fun k o2 hk ho _ => (World.putObj_heap_other (by omega)).trans ho⟩

theorem keepsBelowV {B : Nat} {A C : World} (h : Below A.heap.size A C) : KeepsFrom B A C := ⟨h.size, fun k _ _ hk _ => (h.block k (Array.getElem?_eq_some_iff.1 hk).1).trans hk⟩
theorem keepsLater {B B' : Nat} {A C : World} (h : KeepsFrom B A C) (hB : B ≤ B') : KeepsFrom B' A C := ⟨h.size, fun k o hk ho hc => h.same k o (by omega) ho hc⟩
theorem grown_of_below {A C : World} (h : Below A.heap.size A C) : A.grownBy C none := ⟨h.os, h.tape, h.output, h.size, fun k hk _ => h.block k hk⟩

theorem RoundIn.inR {m : Nat} {P : Program} {l : Nat} {f : FuncId} {tmps : Array Value} {assign body : Code} {w : World} {R : Ending → World → Prop} (h : RoundIn Fence.wide m P l f tmps assign body w R) (lp m' : Nat) : RoundIn (Fence.wide.inRound lp) m' P l f tmps assign body w R := ⟨h.1, fun c cs _ => h.2 c cs (room_wide _)⟩

/-- What stands between two rounds. -/
def FI {w0 : World} {R : VT → Prop} (J : List CP → World → Prop) (lo By Bp P0 : Nat) (pre : List (PG 16 w0 R)) (W : World) : Prop :=
  ∃ ys : List CP, ys.map (·.t) = pre.map (·.1.1) ∧ J ys W ∧ Go.Boxed W By 122 (.func (.yield lo) #[] #[]) ∧ Go.Boxed W Bp 3 (.int .i64 ((P0 + pre.length : Nat) : Int)) ∧ Below w0.heap.size w0 W

theorem FI.own {w0 : World} {R : VT → Prop} (J : List CP → World → Prop) (lo By Bp P0 B M : Nat) (hJ : OwnFrom B J) (hB : B ≤ M) (h1 : By < M) (h2 : Bp < M) (h3 : w0.heap.size ≤ M) : OwnFrom M (FI (w0 := w0) (R := R) J lo By Bp P0) := by
  intro s A V row hs hg hr
  obtain ⟨ys, hy, hj, b1, b2, hb⟩ := hs
  refine ⟨ys, hy, hJ ys A V row hj hg (fun r e => ⟨by have := (hr r e).1; omega, (hr r e).2⟩), b1.kept hg (fun e => ?_), b2.kept hg (fun e => ?_), hb.grown hg hb.size (fun k e => ?_)⟩
  · have := (hr _ e.symm).1; omega
  · have := (hr _ e.symm).1; omega
  · have := (hr _ e).1; omega

/-- The value that a round is at, in a block of its own. -/
def FA {w0 : World} {R : VT → Prop} (f : Nat → Act) (x : PG 16 w0 R) (a : Act) (W : World) : Prop := ∃ Bx, Box4 W Bx x.1.1 x.1.2 ∧ a = f Bx

theorem FA.own {w0 : World} {R : VT → Prop} (M : Nat) (f : Nat → Act) (x : PG 16 w0 R) (a : Act) : OwnFrom M (fun (_ : Unit) W => FA f x a W) := by
  intro s A V row hs hg hr
  obtain ⟨Bx, b4, rfl⟩ := hs
  have hb4 : A.heap[Bx]? = some (.cells #[.int .i64 x.1.1.kind, .int .i64 x.1.1.num, .string x.1.1.text, x.1.2] 31 (0, 0)) := b4
  refine ⟨Bx, b4.kept hg (fun e => ?_), rfl⟩
  obtain ⟨_, o, ho, hoc⟩ := hr _ e.symm
  rw [hb4] at ho
  cases ho
  simp [Obj.isCells] at hoc

set_option maxRecDepth 100000 in
set_option maxHeartbeats 16000000 in
theorem from1_seq (w0 : World) (l : List VT) (p : Option Addr) (i : Int) (P0 : Nat) (hm1 : max i 0 = (P0 : Int)) (h : VV w0 l (.pointer p)) (n Bi Bv : Nat) (hn : 3 ≤ n) (w : World) (hw0 : Below w0.heap.size w0 w) (hi : w.cell? ⟨Bi, 0, none⟩ = some (.int .i64 i)) (hv : w.cell? ⟨Bv, 0, none⟩ = some (.pointer p)) :
    SeqP Fence.wide n Try.prog 74 #[.pointer (some ⟨Bi, 0, none⟩), .pointer (some ⟨Bv, 0, none⟩)] encCP (KpX w0.heap.size) (PreCP P0) (fun xs => xs.map (·.t) = fromL l (P0 : Int)) (fromL l (P0 : Int)).length w := by
  intro lo J W hW hJ hY h0
  have hi1 := cell_keeps hW hi
  have hv1 := cell_keeps hW hv
  have hli := cell_lt hi1
  have hlv := cell_lt hv1
  have hWw : Below w0.heap.size w0 W := hw0.trans (hW.mono hw0.size)
  obtain ⟨qs, hq1, hst⟩ := from_stops 16 w0 (fun t => rightV 16 t = true) l (.pointer p) (P0 : Int) h.vc (fun x hx => List.all_eq_true.1 h.right x hx) (by have := h.len; omega)
  have hql : qs.length ≤ l.length := by
    have := congrArg List.length hq1
    rw [List.length_map] at this
    rw [this]
    unfold fromL
    split
    · rw [List.length_drop]; omega
    · simp
  have hqP : ∀ k, k < qs.length → P0 + k < l.length := fun k hk => by
    have h9 := congrArg List.length hq1
    rw [List.length_map] at h9
    unfold fromL at h9
    split at h9
    · rw [List.length_drop, Int.toNat_natCast] at h9; omega
    · rw [List.length_nil] at h9; omega
  have hqn : qs.length = (fromL l (P0 : Int)).length := by rw [← hq1, List.length_map]
  have HSt : Hid _ := hst
  have HY : Hid _ := hY
  have HJ : Hid _ := hJ
  have H0 : Hid (J [] W) := h0
  clear hst hY hJ h0
  refine callsIn_of_wp_marks Try.func74 rfl trivial ?_ rfl
  simp only [Try.ntmps74, List.size_toArray, List.length_cons, List.length_nil, Nat.reduceAdd, Nat.reduceSub, Array.replicate_succ, Array.replicate_zero, List.push_toArray, List.append_toArray, List.nil_append, List.cons_append]
  have hb1 : Below W.heap.size W (((W.alloc (.cells #[.func (.yield lo) #[] #[]] 122)).alloc (.cells #[.int .i64 (P0 : Int)] 3))) := (((Grew.refl W).alloc _).alloc _).below
  gi_wp2
  refine ⟨trivial, (fun h => by cases h), ?_⟩
  refine (callsIn_wide.2 (vfrom_any _ _ _)).mono ?_
  rintro e w1 ⟨rfl, rfl⟩
  simp only [World.size_alloc]
  gi_wp2
  obtain ⟨Wi, hWi⟩ : ∃ Wi, Wi = ((((W.alloc (.cells #[.func (.yield lo) #[] #[]] 122)).alloc (.cells #[.int .i64 (P0 : Int)] 3)).alloc (.cells #[.pointer p] 23)).alloc (.cells #[.int .i64 (P0 : Int)] 3)) := ⟨_, rfl⟩
  rw [← hWi]
  have hsz : Wi.heap.size = W.heap.size + 4 := by rw [hWi]; simp
  have hbi : Below W.heap.size W Wi := by rw [hWi]; exact ((((Grew.refl W).alloc _).alloc _).alloc _).alloc _ |>.below
  have hw0i : Below w0.heap.size w0 Wi := hWw.trans (hbi.mono hWw.size)
  have hws : w0.heap.size ≤ W.heap.size := hWw.size
  have bY : Go.Boxed Wi W.heap.size 122 (.func (.yield lo) #[] #[]) := by
    rw [hWi]
    exact (((Go.Boxed.new W _ _).alloc _).alloc _).alloc _
  have bP : Go.Boxed Wi (W.heap.size + 1) 3 (.int .i64 ((P0 + 0 : Nat) : Int)) := by
    rw [hWi]
    have h9 := ((Go.Boxed.new (W.alloc (.cells #[.func (.yield lo) #[] #[]] 122)) 3 (.int .i64 (P0 : Int))).alloc (.cells #[.pointer p] 23)).alloc (.cells #[.int .i64 (P0 : Int)] 3)
    rwa [World.size_alloc] at h9
  have c2 : Wi.cell? ⟨W.heap.size + 1 + 1, 0, none⟩ = some (.pointer p) := by
    rw [hWi]
    have h9 := ((Go.Boxed.new ((W.alloc (.cells #[.func (.yield lo) #[] #[]] 122)).alloc (.cells #[.int .i64 (P0 : Int)] 3)) 23 (.pointer p)).alloc (.cells #[.int .i64 (P0 : Int)] 3)).cell
    rwa [World.size_alloc, World.size_alloc] at h9
  have c3 : Wi.cell? ⟨W.heap.size + 1 + 1 + 1, 0, none⟩ = some (.int .i64 (P0 : Int)) := by
    rw [hWi]
    have h9 := (Go.Boxed.new (((W.alloc (.cells #[.func (.yield lo) #[] #[]] 122)).alloc (.cells #[.int .i64 (P0 : Int)] 3)).alloc (.cells #[.pointer p] 23)) 3 (.int .i64 (P0 : Int))).cell
    rwa [World.size_alloc, World.size_alloc, World.size_alloc] at h9
  have hJi : J [] Wi := HJ.out [] W Wi none H0.out (grown_of_below hbi) (fun r e => by cases e)
  have Hq1 : Hid (qs.map (·.1.1) = fromL l (P0 : Int)) := hq1
  clear hi1 hv1 hi hv hb1 hq1 hWi
  refine wpIn_rangeFunc_ownH rfl (by omega) (gf := 96) (lb := #[.pointer (some ⟨W.heap.size + 1 + 1, 0, none⟩), .pointer (some ⟨W.heap.size + 1 + 1 + 1, 0, none⟩)]) rfl trivial (enters_of Try.func96 (by kernel_rfl) rfl)
    (HSt.out _ _ _ Wi hw0i (by omega) (by omega) c2 c3) belowK_t (belowK_b (by omega)) (Below.refl _ _) (fun _ => rfl)
    (FI J lo W.heap.size (W.heap.size + 1) P0) (fun _ _ _ => False)
    (FI.own J lo _ _ P0 W.heap.size _ (AbX.from HJ.out) (by omega) (by omega) (by omega) (by omega)) (fun _ _ _ _ _ hs _ _ => hs) ?h0
    (fun x => FA (fun Bx => { tmps := #[.func (.yield lo) #[] #[], .pointer (some ⟨Bi, 0, none⟩), .pointer (some ⟨Bv, 0, none⟩), .pointer (some ⟨W.heap.size, 0, none⟩), .pointer (some ⟨W.heap.size + 1, 0, none⟩), .pointer (some ⟨Bx, 0, none⟩), .int .i64 i, .int .i64 (P0 : Int), .pointer p, .int .i64 (P0 : Int), .func (.func 96) #[] #[.pointer (some ⟨W.heap.size + 1 + 1, 0, none⟩), .pointer (some ⟨W.heap.size + 1 + 1 + 1, 0, none⟩)], .agg #[.int .i64 x.1.1.kind, .int .i64 x.1.1.num, .string x.1.1.text, x.1.2], undef, undef, undef, undef, undef, undef, undef, undef], defers := [] }) x) (fun x a' => FA.own _ _ _ _) ?assign ?body ?done ?stop
  case h0 => exact ⟨[], rfl, hJi, bY, bP, hw0i⟩
  case assign =>
    rintro lp pre ⟨⟨t, u⟩, hsd, hRt⟩ V K ⟨ys, hys, hj, b1, b2, hB⟩ hK
    obtain ⟨au, cu, hu, _⟩ := Lies.slice hsd.1
    simp only at hu
    subst hu
    have hba : Below V.heap.size V (V.alloc (.cells #[.int .i64 t.kind, .int .i64 t.num, .string t.text, .slice au t.items.length cu] 31)) := ((Grew.refl V).alloc _).below
    have HK : Hid (K _ _) := hK _ _ ((KeepsOthers.alloc V (.cells #[.int .i64 t.kind, .int .i64 t.num, .string t.text, .slice au t.items.length cu] 31)).from _) (hba.mono hB.size) ⟨ys, hys, HJ.out ys V _ none hj (grown_of_below hba) (fun r e => by cases e), b1.alloc _, b2.alloc _, hB.trans (hba.mono hB.size)⟩ ⟨V.heap.size, World.alloc_heap_new V _, rfl⟩
    clear hK
    gi_wp2
    exact HK.out
  case body =>
    rintro lp pre ⟨⟨t, u⟩, hsd, hRt⟩ a' V hlp ⟨r, hr⟩ ⟨ys, hys, hj, b1, b2, hB⟩ ⟨Bx, b4, rfl⟩ hlt
    obtain ⟨au, cu, hu, _⟩ := Lies.slice hsd.1
    simp only at hu
    subst hu
    have hyl : ys.length = pre.length := by have := congrArg List.length hys; rwa [List.length_map, List.length_map] at this
    have hVd : Below V.heap.size V V.drew := (Below.refl _ _).drew
    have HCp : Hid _ := copyR t (.slice au t.items.length cu) V.drew (Lies.keeps (hB.trans (hVd.mono hB.size)) _ _ _ hsd.1) hRt
    obtain ⟨Pk, hPk⟩ : ∃ Pk : Nat, Pk = P0 + pre.length := ⟨_, rfl⟩
    have b2' : Go.Boxed V (W.heap.size + 1) 3 (.int .i64 (Pk : Int)) := by rw [hPk]; exact b2
    have HNx : Hid (∀ (w1 : World) (av : Option Addr) (cv : Nat), Below V.heap.size V w1 → LiesB V.heap.size 16 w1 t.items (.slice av t.items.length cv) → (w1.cell? ⟨W.heap.size, 0, none⟩ = some (.func (.yield lo) #[] #[]) ∧ w1.cell? ⟨W.heap.size + 1, 0, none⟩ = some (.int .i64 (Pk : Int))) ∧ YieldAt Fence.wide (n - 1) Try.prog lo #[.int .i64 (Pk : Int), .agg #[.int .i64 t.kind, .int .i64 t.num, .string t.text, .slice av t.items.length cv]] w1 fun e w2 => e = .returned (.bool true) ∧ Go.Boxed w2 (W.heap.size + 1) 3 (.int .i64 (Pk : Int)) ∧
        ownPostG Wi.heap.size (Below w0.heap.size) (FI J lo W.heap.size (W.heap.size + 1) P0) (fun _ _ _ => False) (pre ++ [⟨(t, .slice au t.items.length cu), hsd, hRt⟩]) V .normal { tmps := #[], defers := [] } (w2.setCell ⟨W.heap.size + 1, 0, none⟩ (.int .i64 ((Pk + 1 : Nat) : Int)))) := fun w1 av cv hb1 hL1 => by
      have hb1w : Below w0.heap.size w0 w1 := hB.trans (hb1.mono hB.size)
      have d1 : Go.Boxed w1 W.heap.size 122 (.func (.yield lo) #[] #[]) := (hb1.block _ b1.lt).trans b1
      have d2 : Go.Boxed w1 (W.heap.size + 1) 3 (.int .i64 (Pk : Int)) := (hb1.block _ b2'.lt).trans b2'
      refine ⟨⟨d1.cell, d2.cell⟩, YieldAt.mono (HY.out ys ⟨(Pk : Int), t, av, cv⟩ V w1 hj hb1 ⟨by simp only; rw [hPk, hyl], hL1, hsd.2⟩ (by rw [hyl]; rw [hqn] at hlt; exact hlt)) ?_⟩
      rintro e w2 ⟨rfl, hj2, hk1, hk2, hk3⟩
      have e1 := hk2 _ _ _ (by decide) d1
      have e2 := hk2 _ _ _ (by decide) d2
      refine ⟨rfl, e2, ?_⟩
      have hset : w2.grownBy (w2.setCell ⟨W.heap.size + 1, 0, none⟩ (.int .i64 ((Pk + 1 : Nat) : Int))) (some (W.heap.size + 1)) := grownBy_setCell' _ _ _
      refine ⟨((keepsBelowV hb1).trans (keepsLater hk3 (by omega))).trans ((KeepsOthers.setCell _ _ _).from _), ((hb1.mono hB.size).trans hk1).trans ((Below.refl _ _).setCell (p := ⟨W.heap.size + 1, 0, none⟩) (by show w0.heap.size ≤ W.heap.size + 1; omega) _), ys ++ [⟨(Pk : Int), t, av, cv⟩], by rw [List.map_append, List.map_append, hys]; rfl, ?_, e1.kept hset (by simp), ?_, ?_⟩
      · exact HJ.out _ w2 _ _ hj2 hset (fun r e => by
          injection e with e
          subst e
          exact ⟨by omega, _, e2, .inr ⟨3, _, by decide, rfl⟩⟩)
      · have h9 := e2.set (.int .i64 ((Pk + 1 : Nat) : Int))
        rw [List.length_append, ← Nat.add_assoc, ← hPk]
        exact h9
      · exact (hb1w.trans hk1).trans ((Below.refl _ _).setCell (p := ⟨W.heap.size + 1, 0, none⟩) (by show w0.heap.size ≤ W.heap.size + 1; omega) _)
    have hPk2 : Pk < 65536 := by have := hqP pre.length hlt; have := h.len; omega
    have hwr : IntKind.i64.wrap ((Pk : Int) + 1) = ((Pk + 1 : Nat) : Int) := by rw [IntKind.wrap_i64]; omega
    clear hPk
    have hmx : Try.prog.follows .mixedOrders = true := by kernel_rfl
    obtain ⟨y0, y1, y2, y3⟩ := b4.cells
    have z1 : V.drew.cell? ⟨W.heap.size, 0, none⟩ = some (.func (.yield lo) #[] #[]) := b1.cell
    have z2 : V.drew.cell? ⟨W.heap.size + 1, 0, none⟩ = some (.int .i64 (Pk : Int)) := b2'.cell
    have x0 : V.drew.cell? ⟨Bx, 0, none⟩ = some (.int .i64 t.kind) := y0
    have x1 : V.drew.cell? ⟨Bx, 1, none⟩ = some (.int .i64 t.num) := y1
    have x2 : V.drew.cell? ⟨Bx, 2, none⟩ = some (.string t.text) := y2
    have x3 : V.drew.cell? ⟨Bx, 3, none⟩ = some (.slice au t.items.length cu) := y3
    gi_wp2
    refine wpIn_region_any hmx ?_
    change wpAnyIn _ _ _ _ _ _ _ _ _ (World.drew _)
    refine wpAnyIn_ready (rs := [0, 1, 2]) (by kernel_rfl) (by simp) ?_
    refine AllReadyIn.cons rfl (fun K hK => ?_) ?_
    · go_simp
      refine hK _ _ ?_
      clear hK K
      refine wpAnyIn_ready (rs := [1, 2]) (by kernel_rfl) (by simp) ?_
      refine AllReadyIn.cons rfl (fun K hK => ?_) ?_
      · go_simp
        refine hK _ _ ?_
        clear hK K
        refine wpAnyIn_ready (rs := [2]) (by kernel_rfl) (by simp) ?_
        refine AllReadyIn.cons rfl (fun K hK => ?_) ?_
        · go_simp
          refine hK _ _ ?_
          clear hK K
          refine wpAnyIn_ready (rs := [3]) (by kernel_rfl) (by simp) ?_
          refine AllReadyIn.cons rfl (fun K hK => ?_) ?_
          · go_simp
            refine ⟨trivial, (fun h => by cases h), ?_⟩
            refine (CallsIn.inRound lp (callsIn_wide.2 HCp.out)).mono ?_
            rintro e w1 ⟨v1, rfl, hLB, hg1⟩
            obtain ⟨av, cv, rfl, _⟩ := LiesB.slice hLB
            obtain ⟨⟨z1, z2⟩, fn, tm, asg, bod, hy, hR⟩ := HNx.out w1 av cv (hVd.trans hg1) hLB
            refine hK _ _ ?_
            clear hK K hLB hg1
            refine wpAnyIn_ready (rs := [4]) (by kernel_rfl) (by simp) ?_
            refine AllReadyIn.cons rfl (fun K hK => ?_) ?_
            · go_simp
              refine ⟨(fun h => by cases h), ?_⟩
              refine (RoundIn.inR hR lp _).mono ?_
              rintro e w2 ⟨rfl, e2, hpost⟩
              refine hK _ _ ?_
              clear hK K hR hy
              refine wpAnyIn_ready (rs := [5]) (by kernel_rfl) (by simp) ?_
              refine AllReadyIn.cons rfl (fun K hK => ?_) ?_
              · go_simp
                refine hK _ _ ?_
                clear hK K
                refine wpAnyIn_done (by kernel_rfl) ?_ _
                have q2 := e2.cell
                have q3 := e2.frozen
                rw [hsz] at hpost
                have Hpost : Hid _ := hpost
                clear hpost e2
                gi_wp2
                exact Hpost.out
              exact AllReadyIn.nil
            exact AllReadyIn.nil
          exact AllReadyIn.nil
        exact AllReadyIn.nil
      refine AllReadyIn.cons rfl (fun K hK => ?_) ?_
      · go_simp
        refine hK _ _ ?_
        clear hK K
        refine wpAnyIn_ready (rs := [1, 3]) (by kernel_rfl) (by simp) ?_
        refine AllReadyIn.cons rfl (fun K hK => ?_) ?_
        · go_simp
          refine hK _ _ ?_
          clear hK K
          refine wpAnyIn_ready (rs := [3]) (by kernel_rfl) (by simp) ?_
          refine AllReadyIn.cons rfl (fun K hK => ?_) ?_
          · go_simp
            refine ⟨trivial, (fun h => by cases h), ?_⟩
            refine (CallsIn.inRound lp (callsIn_wide.2 HCp.out)).mono ?_
            rintro e w1 ⟨v1, rfl, hLB, hg1⟩
            obtain ⟨av, cv, rfl, _⟩ := LiesB.slice hLB
            obtain ⟨⟨z1, z2⟩, fn, tm, asg, bod, hy, hR⟩ := HNx.out w1 av cv (hVd.trans hg1) hLB
            refine hK _ _ ?_
            clear hK K hLB hg1
            refine wpAnyIn_ready (rs := [4]) (by kernel_rfl) (by simp) ?_
            refine AllReadyIn.cons rfl (fun K hK => ?_) ?_
            · go_simp
              refine ⟨(fun h => by cases h), ?_⟩
              refine (RoundIn.inR hR lp _).mono ?_
              rintro e w2 ⟨rfl, e2, hpost⟩
              refine hK _ _ ?_
              clear hK K hR hy
              refine wpAnyIn_ready (rs := [5]) (by kernel_rfl) (by simp) ?_
              refine AllReadyIn.cons rfl (fun K hK => ?_) ?_
              · go_simp
                refine hK _ _ ?_
                clear hK K
                refine wpAnyIn_done (by kernel_rfl) ?_ _
                have q2 := e2.cell
                have q3 := e2.frozen
                rw [hsz] at hpost
                have Hpost : Hid _ := hpost
                clear hpost e2
                gi_wp2
                exact Hpost.out
              exact AllReadyIn.nil
            exact AllReadyIn.nil
          exact AllReadyIn.nil
        refine AllReadyIn.cons rfl (fun K hK => ?_) ?_
        · go_simp
          refine ⟨trivial, (fun h => by cases h), ?_⟩
          refine (CallsIn.inRound lp (callsIn_wide.2 HCp.out)).mono ?_
          rintro e w1 ⟨v1, rfl, hLB, hg1⟩
          obtain ⟨av, cv, rfl, _⟩ := LiesB.slice hLB
          obtain ⟨⟨z1, z2⟩, fn, tm, asg, bod, hy, hR⟩ := HNx.out w1 av cv (hVd.trans hg1) hLB
          refine hK _ _ ?_
          clear hK K hLB hg1
          refine wpAnyIn_ready (rs := [1]) (by kernel_rfl) (by simp) ?_
          refine AllReadyIn.cons rfl (fun K hK => ?_) ?_
          · go_simp
            refine hK _ _ ?_
            clear hK K
            refine wpAnyIn_ready (rs := [4]) (by kernel_rfl) (by simp) ?_
            refine AllReadyIn.cons rfl (fun K hK => ?_) ?_
            · go_simp
              refine ⟨(fun h => by cases h), ?_⟩
              refine (RoundIn.inR hR lp _).mono ?_
              rintro e w2 ⟨rfl, e2, hpost⟩
              refine hK _ _ ?_
              clear hK K hR hy
              refine wpAnyIn_ready (rs := [5]) (by kernel_rfl) (by simp) ?_
              refine AllReadyIn.cons rfl (fun K hK => ?_) ?_
              · go_simp
                refine hK _ _ ?_
                clear hK K
                refine wpAnyIn_done (by kernel_rfl) ?_ _
                have q2 := e2.cell
                have q3 := e2.frozen
                rw [hsz] at hpost
                have Hpost : Hid _ := hpost
                clear hpost e2
                gi_wp2
                exact Hpost.out
              exact AllReadyIn.nil
            exact AllReadyIn.nil
          exact AllReadyIn.nil
        exact AllReadyIn.nil
      exact AllReadyIn.nil
    refine AllReadyIn.cons rfl (fun K hK => ?_) ?_
    · go_simp
      refine hK _ _ ?_
      clear hK K
      refine wpAnyIn_ready (rs := [0, 2]) (by kernel_rfl) (by simp) ?_
      refine AllReadyIn.cons rfl (fun K hK => ?_) ?_
      · go_simp
        refine hK _ _ ?_
        clear hK K
        refine wpAnyIn_ready (rs := [2]) (by kernel_rfl) (by simp) ?_
        refine AllReadyIn.cons rfl (fun K hK => ?_) ?_
        · go_simp
          refine hK _ _ ?_
          clear hK K
          refine wpAnyIn_ready (rs := [3]) (by kernel_rfl) (by simp) ?_
          refine AllReadyIn.cons rfl (fun K hK => ?_) ?_
          · go_simp
            refine ⟨trivial, (fun h => by cases h), ?_⟩
            refine (CallsIn.inRound lp (callsIn_wide.2 HCp.out)).mono ?_
            rintro e w1 ⟨v1, rfl, hLB, hg1⟩
            obtain ⟨av, cv, rfl, _⟩ := LiesB.slice hLB
            obtain ⟨⟨z1, z2⟩, fn, tm, asg, bod, hy, hR⟩ := HNx.out w1 av cv (hVd.trans hg1) hLB
            refine hK _ _ ?_
            clear hK K hLB hg1
            refine wpAnyIn_ready (rs := [4]) (by kernel_rfl) (by simp) ?_
            refine AllReadyIn.cons rfl (fun K hK => ?_) ?_
            · go_simp
              refine ⟨(fun h => by cases h), ?_⟩
              refine (RoundIn.inR hR lp _).mono ?_
              rintro e w2 ⟨rfl, e2, hpost⟩
              refine hK _ _ ?_
              clear hK K hR hy
              refine wpAnyIn_ready (rs := [5]) (by kernel_rfl) (by simp) ?_
              refine AllReadyIn.cons rfl (fun K hK => ?_) ?_
              · go_simp
                refine hK _ _ ?_
                clear hK K
                refine wpAnyIn_done (by kernel_rfl) ?_ _
                have q2 := e2.cell
                have q3 := e2.frozen
                rw [hsz] at hpost
                have Hpost : Hid _ := hpost
                clear hpost e2
                gi_wp2
                exact Hpost.out
              exact AllReadyIn.nil
            exact AllReadyIn.nil
          exact AllReadyIn.nil
        exact AllReadyIn.nil
      refine AllReadyIn.cons rfl (fun K hK => ?_) ?_
      · go_simp
        refine hK _ _ ?_
        clear hK K
        refine wpAnyIn_ready (rs := [0, 3]) (by kernel_rfl) (by simp) ?_
        refine AllReadyIn.cons rfl (fun K hK => ?_) ?_
        · go_simp
          refine hK _ _ ?_
          clear hK K
          refine wpAnyIn_ready (rs := [3]) (by kernel_rfl) (by simp) ?_
          refine AllReadyIn.cons rfl (fun K hK => ?_) ?_
          · go_simp
            refine ⟨trivial, (fun h => by cases h), ?_⟩
            refine (CallsIn.inRound lp (callsIn_wide.2 HCp.out)).mono ?_
            rintro e w1 ⟨v1, rfl, hLB, hg1⟩
            obtain ⟨av, cv, rfl, _⟩ := LiesB.slice hLB
            obtain ⟨⟨z1, z2⟩, fn, tm, asg, bod, hy, hR⟩ := HNx.out w1 av cv (hVd.trans hg1) hLB
            refine hK _ _ ?_
            clear hK K hLB hg1
            refine wpAnyIn_ready (rs := [4]) (by kernel_rfl) (by simp) ?_
            refine AllReadyIn.cons rfl (fun K hK => ?_) ?_
            · go_simp
              refine ⟨(fun h => by cases h), ?_⟩
              refine (RoundIn.inR hR lp _).mono ?_
              rintro e w2 ⟨rfl, e2, hpost⟩
              refine hK _ _ ?_
              clear hK K hR hy
              refine wpAnyIn_ready (rs := [5]) (by kernel_rfl) (by simp) ?_
              refine AllReadyIn.cons rfl (fun K hK => ?_) ?_
              · go_simp
                refine hK _ _ ?_
                clear hK K
                refine wpAnyIn_done (by kernel_rfl) ?_ _
                have q2 := e2.cell
                have q3 := e2.frozen
                rw [hsz] at hpost
                have Hpost : Hid _ := hpost
                clear hpost e2
                gi_wp2
                exact Hpost.out
              exact AllReadyIn.nil
            exact AllReadyIn.nil
          exact AllReadyIn.nil
        refine AllReadyIn.cons rfl (fun K hK => ?_) ?_
        · go_simp
          refine ⟨trivial, (fun h => by cases h), ?_⟩
          refine (CallsIn.inRound lp (callsIn_wide.2 HCp.out)).mono ?_
          rintro e w1 ⟨v1, rfl, hLB, hg1⟩
          obtain ⟨av, cv, rfl, _⟩ := LiesB.slice hLB
          obtain ⟨⟨z1, z2⟩, fn, tm, asg, bod, hy, hR⟩ := HNx.out w1 av cv (hVd.trans hg1) hLB
          refine hK _ _ ?_
          clear hK K hLB hg1
          refine wpAnyIn_ready (rs := [0]) (by kernel_rfl) (by simp) ?_
          refine AllReadyIn.cons rfl (fun K hK => ?_) ?_
          · go_simp
            refine hK _ _ ?_
            clear hK K
            refine wpAnyIn_ready (rs := [4]) (by kernel_rfl) (by simp) ?_
            refine AllReadyIn.cons rfl (fun K hK => ?_) ?_
            · go_simp
              refine ⟨(fun h => by cases h), ?_⟩
              refine (RoundIn.inR hR lp _).mono ?_
              rintro e w2 ⟨rfl, e2, hpost⟩
              refine hK _ _ ?_
              clear hK K hR hy
              refine wpAnyIn_ready (rs := [5]) (by kernel_rfl) (by simp) ?_
              refine AllReadyIn.cons rfl (fun K hK => ?_) ?_
              · go_simp
                refine hK _ _ ?_
                clear hK K
                refine wpAnyIn_done (by kernel_rfl) ?_ _
                have q2 := e2.cell
                have q3 := e2.frozen
                rw [hsz] at hpost
                have Hpost : Hid _ := hpost
                clear hpost e2
                gi_wp2
                exact Hpost.out
              exact AllReadyIn.nil
            exact AllReadyIn.nil
          exact AllReadyIn.nil
        exact AllReadyIn.nil
      exact AllReadyIn.nil
    refine AllReadyIn.cons rfl (fun K hK => ?_) ?_
    · go_simp
      refine hK _ _ ?_
      clear hK K
      refine wpAnyIn_ready (rs := [0, 1, 3]) (by kernel_rfl) (by simp) ?_
      refine AllReadyIn.cons rfl (fun K hK => ?_) ?_
      · go_simp
        refine hK _ _ ?_
        clear hK K
        refine wpAnyIn_ready (rs := [1, 3]) (by kernel_rfl) (by simp) ?_
        refine AllReadyIn.cons rfl (fun K hK => ?_) ?_
        · go_simp
          refine hK _ _ ?_
          clear hK K
          refine wpAnyIn_ready (rs := [3]) (by kernel_rfl) (by simp) ?_
          refine AllReadyIn.cons rfl (fun K hK => ?_) ?_
          · go_simp
            refine ⟨trivial, (fun h => by cases h), ?_⟩
            refine (CallsIn.inRound lp (callsIn_wide.2 HCp.out)).mono ?_
            rintro e w1 ⟨v1, rfl, hLB, hg1⟩
            obtain ⟨av, cv, rfl, _⟩ := LiesB.slice hLB
            obtain ⟨⟨z1, z2⟩, fn, tm, asg, bod, hy, hR⟩ := HNx.out w1 av cv (hVd.trans hg1) hLB
            refine hK _ _ ?_
            clear hK K hLB hg1
            refine wpAnyIn_ready (rs := [4]) (by kernel_rfl) (by simp) ?_
            refine AllReadyIn.cons rfl (fun K hK => ?_) ?_
            · go_simp
              refine ⟨(fun h => by cases h), ?_⟩
              refine (RoundIn.inR hR lp _).mono ?_
              rintro e w2 ⟨rfl, e2, hpost⟩
              refine hK _ _ ?_
              clear hK K hR hy
              refine wpAnyIn_ready (rs := [5]) (by kernel_rfl) (by simp) ?_
              refine AllReadyIn.cons rfl (fun K hK => ?_) ?_
              · go_simp
                refine hK _ _ ?_
                clear hK K
                refine wpAnyIn_done (by kernel_rfl) ?_ _
                have q2 := e2.cell
                have q3 := e2.frozen
                rw [hsz] at hpost
                have Hpost : Hid _ := hpost
                clear hpost e2
                gi_wp2
                exact Hpost.out
              exact AllReadyIn.nil
            exact AllReadyIn.nil
          exact AllReadyIn.nil
        refine AllReadyIn.cons rfl (fun K hK => ?_) ?_
        · go_simp
          refine ⟨trivial, (fun h => by cases h), ?_⟩
          refine (CallsIn.inRound lp (callsIn_wide.2 HCp.out)).mono ?_
          rintro e w1 ⟨v1, rfl, hLB, hg1⟩
          obtain ⟨av, cv, rfl, _⟩ := LiesB.slice hLB
          obtain ⟨⟨z1, z2⟩, fn, tm, asg, bod, hy, hR⟩ := HNx.out w1 av cv (hVd.trans hg1) hLB
          refine hK _ _ ?_
          clear hK K hLB hg1
          refine wpAnyIn_ready (rs := [1]) (by kernel_rfl) (by simp) ?_
          refine AllReadyIn.cons rfl (fun K hK => ?_) ?_
          · go_simp
            refine hK _ _ ?_
            clear hK K
            refine wpAnyIn_ready (rs := [4]) (by kernel_rfl) (by simp) ?_
            refine AllReadyIn.cons rfl (fun K hK => ?_) ?_
            · go_simp
              refine ⟨(fun h => by cases h), ?_⟩
              refine (RoundIn.inR hR lp _).mono ?_
              rintro e w2 ⟨rfl, e2, hpost⟩
              refine hK _ _ ?_
              clear hK K hR hy
              refine wpAnyIn_ready (rs := [5]) (by kernel_rfl) (by simp) ?_
              refine AllReadyIn.cons rfl (fun K hK => ?_) ?_
              · go_simp
                refine hK _ _ ?_
                clear hK K
                refine wpAnyIn_done (by kernel_rfl) ?_ _
                have q2 := e2.cell
                have q3 := e2.frozen
                rw [hsz] at hpost
                have Hpost : Hid _ := hpost
                clear hpost e2
                gi_wp2
                exact Hpost.out
              exact AllReadyIn.nil
            exact AllReadyIn.nil
          exact AllReadyIn.nil
        exact AllReadyIn.nil
      refine AllReadyIn.cons rfl (fun K hK => ?_) ?_
      · go_simp
        refine hK _ _ ?_
        clear hK K
        refine wpAnyIn_ready (rs := [0, 3]) (by kernel_rfl) (by simp) ?_
        refine AllReadyIn.cons rfl (fun K hK => ?_) ?_
        · go_simp
          refine hK _ _ ?_
          clear hK K
          refine wpAnyIn_ready (rs := [3]) (by kernel_rfl) (by simp) ?_
          refine AllReadyIn.cons rfl (fun K hK => ?_) ?_
          · go_simp
            refine ⟨trivial, (fun h => by cases h), ?_⟩
            refine (CallsIn.inRound lp (callsIn_wide.2 HCp.out)).mono ?_
            rintro e w1 ⟨v1, rfl, hLB, hg1⟩
            obtain ⟨av, cv, rfl, _⟩ := LiesB.slice hLB
            obtain ⟨⟨z1, z2⟩, fn, tm, asg, bod, hy, hR⟩ := HNx.out w1 av cv (hVd.trans hg1) hLB
            refine hK _ _ ?_
            clear hK K hLB hg1
            refine wpAnyIn_ready (rs := [4]) (by kernel_rfl) (by simp) ?_
            refine AllReadyIn.cons rfl (fun K hK => ?_) ?_
            · go_simp
              refine ⟨(fun h => by cases h), ?_⟩
              refine (RoundIn.inR hR lp _).mono ?_
              rintro e w2 ⟨rfl, e2, hpost⟩
              refine hK _ _ ?_
              clear hK K hR hy
              refine wpAnyIn_ready (rs := [5]) (by kernel_rfl) (by simp) ?_
              refine AllReadyIn.cons rfl (fun K hK => ?_) ?_
              · go_simp
                refine hK _ _ ?_
                clear hK K
                refine wpAnyIn_done (by kernel_rfl) ?_ _
                have q2 := e2.cell
                have q3 := e2.frozen
                rw [hsz] at hpost
                have Hpost : Hid _ := hpost
                clear hpost e2
                gi_wp2
                exact Hpost.out
              exact AllReadyIn.nil
            exact AllReadyIn.nil
          exact AllReadyIn.nil
        refine AllReadyIn.cons rfl (fun K hK => ?_) ?_
        · go_simp
          refine ⟨trivial, (fun h => by cases h), ?_⟩
          refine (CallsIn.inRound lp (callsIn_wide.2 HCp.out)).mono ?_
          rintro e w1 ⟨v1, rfl, hLB, hg1⟩
          obtain ⟨av, cv, rfl, _⟩ := LiesB.slice hLB
          obtain ⟨⟨z1, z2⟩, fn, tm, asg, bod, hy, hR⟩ := HNx.out w1 av cv (hVd.trans hg1) hLB
          refine hK _ _ ?_
          clear hK K hLB hg1
          refine wpAnyIn_ready (rs := [0]) (by kernel_rfl) (by simp) ?_
          refine AllReadyIn.cons rfl (fun K hK => ?_) ?_
          · go_simp
            refine hK _ _ ?_
            clear hK K
            refine wpAnyIn_ready (rs := [4]) (by kernel_rfl) (by simp) ?_
            refine AllReadyIn.cons rfl (fun K hK => ?_) ?_
            · go_simp
              refine ⟨(fun h => by cases h), ?_⟩
              refine (RoundIn.inR hR lp _).mono ?_
              rintro e w2 ⟨rfl, e2, hpost⟩
              refine hK _ _ ?_
              clear hK K hR hy
              refine wpAnyIn_ready (rs := [5]) (by kernel_rfl) (by simp) ?_
              refine AllReadyIn.cons rfl (fun K hK => ?_) ?_
              · go_simp
                refine hK _ _ ?_
                clear hK K
                refine wpAnyIn_done (by kernel_rfl) ?_ _
                have q2 := e2.cell
                have q3 := e2.frozen
                rw [hsz] at hpost
                have Hpost : Hid _ := hpost
                clear hpost e2
                gi_wp2
                exact Hpost.out
              exact AllReadyIn.nil
            exact AllReadyIn.nil
          exact AllReadyIn.nil
        exact AllReadyIn.nil
      refine AllReadyIn.cons rfl (fun K hK => ?_) ?_
      · go_simp
        refine ⟨trivial, (fun h => by cases h), ?_⟩
        refine (CallsIn.inRound lp (callsIn_wide.2 HCp.out)).mono ?_
        rintro e w1 ⟨v1, rfl, hLB, hg1⟩
        obtain ⟨av, cv, rfl, _⟩ := LiesB.slice hLB
        obtain ⟨⟨z1, z2⟩, fn, tm, asg, bod, hy, hR⟩ := HNx.out w1 av cv (hVd.trans hg1) hLB
        refine hK _ _ ?_
        clear hK K hLB hg1
        refine wpAnyIn_ready (rs := [0, 1]) (by kernel_rfl) (by simp) ?_
        refine AllReadyIn.cons rfl (fun K hK => ?_) ?_
        · go_simp
          refine hK _ _ ?_
          clear hK K
          refine wpAnyIn_ready (rs := [1]) (by kernel_rfl) (by simp) ?_
          refine AllReadyIn.cons rfl (fun K hK => ?_) ?_
          · go_simp
            refine hK _ _ ?_
            clear hK K
            refine wpAnyIn_ready (rs := [4]) (by kernel_rfl) (by simp) ?_
            refine AllReadyIn.cons rfl (fun K hK => ?_) ?_
            · go_simp
              refine ⟨(fun h => by cases h), ?_⟩
              refine (RoundIn.inR hR lp _).mono ?_
              rintro e w2 ⟨rfl, e2, hpost⟩
              refine hK _ _ ?_
              clear hK K hR hy
              refine wpAnyIn_ready (rs := [5]) (by kernel_rfl) (by simp) ?_
              refine AllReadyIn.cons rfl (fun K hK => ?_) ?_
              · go_simp
                refine hK _ _ ?_
                clear hK K
                refine wpAnyIn_done (by kernel_rfl) ?_ _
                have q2 := e2.cell
                have q3 := e2.frozen
                rw [hsz] at hpost
                have Hpost : Hid _ := hpost
                clear hpost e2
                gi_wp2
                exact Hpost.out
              exact AllReadyIn.nil
            exact AllReadyIn.nil
          exact AllReadyIn.nil
        refine AllReadyIn.cons rfl (fun K hK => ?_) ?_
        · go_simp
          refine hK _ _ ?_
          clear hK K
          refine wpAnyIn_ready (rs := [0]) (by kernel_rfl) (by simp) ?_
          refine AllReadyIn.cons rfl (fun K hK => ?_) ?_
          · go_simp
            refine hK _ _ ?_
            clear hK K
            refine wpAnyIn_ready (rs := [4]) (by kernel_rfl) (by simp) ?_
            refine AllReadyIn.cons rfl (fun K hK => ?_) ?_
            · go_simp
              refine ⟨(fun h => by cases h), ?_⟩
              refine (RoundIn.inR hR lp _).mono ?_
              rintro e w2 ⟨rfl, e2, hpost⟩
              refine hK _ _ ?_
              clear hK K hR hy
              refine wpAnyIn_ready (rs := [5]) (by kernel_rfl) (by simp) ?_
              refine AllReadyIn.cons rfl (fun K hK => ?_) ?_
              · go_simp
                refine hK _ _ ?_
                clear hK K
                refine wpAnyIn_done (by kernel_rfl) ?_ _
                have q2 := e2.cell
                have q3 := e2.frozen
                rw [hsz] at hpost
                have Hpost : Hid _ := hpost
                clear hpost e2
                gi_wp2
                exact Hpost.out
              exact AllReadyIn.nil
            exact AllReadyIn.nil
          exact AllReadyIn.nil
        exact AllReadyIn.nil
      exact AllReadyIn.nil
    exact AllReadyIn.nil
  case done =>
    rintro D xs V hD rfl ⟨ys, hys, hj, b1, b2, hB⟩ hK
    have HM : Hid (Marks W.heap.size V [D]) := (Marks.nil _ _).cons (by omega) hK (by simp)
    have HT : Hid (J ys V) := hj
    have HS : Hid (ys.map (·.t) = fromL l (P0 : Int)) := hys.trans Hq1.out
    clear hj b1 b2 hB hK hys
    gi_wp2
    refine leaves_marks W.heap.size (fun V => J ys V) (fun V D hD hK hT => (AbX.from HJ.out).putObj _ hT hD hK rfl) (fun V hT => ⟨.tuple #[], by simp [results, Try.results74, go_sem], ⟨_, rfl⟩, ys, HS.out, hT⟩) [D] V HM.out HT.out
  case stop =>
    rintro D c pre W _ _ h _
    exact h.elim

end Go.Proofs.Ytpnfmcmhcjekfaa

namespace Go.Proofs.Ytpnfmcmhcjekfaa
open Go.RowKit Go.Shelf

attribute [local go_sem] Oper.semAt_some

def encQ1 (x : CP) : List Value := encP (x.t, .slice x.a x.t.items.length x.c)

theorem eql_nilF (f : Fn) (lb : Array Value) (W : World) : Sem.run Try.prog (binOp BinOp.eql 90 (.func f #[] lb) .nilFunc) W = .ok (.bool false) W := by
  first | kernel_rfl | rfl

set_option maxRecDepth 100000 in
theorem vFrom_any (p : Option Addr) (i : Int) (w : World) : Calls Try.prog 51 #[.pointer p, .int .i64 i] w fun e w' => e = .returned (.func (.func 74) #[] #[.pointer (some ⟨w.heap.size + 1, 0, none⟩), .pointer (some ⟨w.heap.size, 0, none⟩)]) ∧ w' = (w.alloc (.cells #[.pointer p] 23)).alloc (.cells #[.int .i64 i] 3) := by
  go_enter Try.func51, Try.ntmps51
  go_wp2_with fail
  go_ret
  exact ⟨rfl, rfl⟩

theorem LiesX.notBox {X : Nat → Prop} {w : World} : ∀ {d : Nat} {l : List VT} {v : Value}, LiesX X d w l v → LiesX (fun k => X k ∧ ∀ T u, w.heap[k]? ≠ some (.cells #[u] T (0, 0))) d w l v := by
  intro d
  induction d with
  | zero => intro l v h; exact h
  | succ d ih =>
    intro l v h
    obtain ⟨a, c, hv, hb, hr⟩ := h
    refine ⟨a, c, hv, hb, fun hne => ?_⟩
    obtain ⟨b, o, ha, hx, hall⟩ := hr hne
    refine ⟨b, o, ha, ⟨hx, fun T u e => ?_⟩, fun i hi => ?_⟩
    · obtain ⟨_, _, c1, _⟩ := hall 0 (List.length_pos_iff.2 hne)
      unfold World.cell? at c1
      simp [e] at c1
    · obtain ⟨u, c0, c1, c2, c3, hL, hs⟩ := hall i hi
      exact ⟨u, c0, c1, c2, c3, ih hL, hs⟩

theorem lies_setBox {d : Nat} {w : World} {l : List VT} {v : Value} {B T : Nat} {u : Value} (h : Lies d w l v) (hb : Go.Boxed w B T u) (y : Value) : Lies d (w.setCell ⟨B, 0, none⟩ y) l v := by
  refine ((LiesX.of_lies h).notBox.stays (Y := fun _ => True) (fun _ _ => trivial) (fun a u2 hX hu => ?_)).lies
  refine (grownBy_setCell' w B y).cell hu (fun e => ?_)
  injection e with e
  exact hX.2 T u (by rw [e]; exact hb)

/-- What has come, in a list of its own, each a copy in blocks of its own. -/
def GoneR (b : Nat) (pre : List CP) (v : Value) (W : World) : Prop :=
  Go.Boxed W (b + 1 + 1 + 1 + 1) 22 v ∧ W.ownsRow b 31 4 v pre.length (pre.flatMap encQ1) ∧ ∀ x ∈ pre, LiesX (fun k => k ≠ b + 1 + 1 + 1 + 1 ∧ v.ownBlock ≠ some k ∧ k < W.heap.size) 16 W x.t.items (.slice x.a x.t.items.length x.c) ∧ x.t.text.size ≤ 9223372036854775807

def GoneB (w : World) (P0 M : Nat) (W : World) : Prop :=
  Go.Boxed W w.heap.size 3 (.int .i64 (P0 : Int)) ∧ Go.Boxed W (w.heap.size + 1) 3 (.int .i64 (M : Int)) ∧ Go.Boxed W (w.heap.size + 1 + 1) 22 (.slice none 0 0) ∧ Go.Boxed W (w.heap.size + 1 + 1 + 1) 4 (.bool false) ∧ Below w.heap.size w W

def GoneI (w : World) (P0 M : Nat) (pre : List CP) (W : World) : Prop := (∃ v, GoneR w.heap.size pre v W) ∧ GoneB w P0 M W

theorem GoneR.kept {b : Nat} {pre : List CP} {v : Value} {A V : World} {row : Option Nat} (h : GoneR b pre v A) (hg : A.grownBy V row) (hr : ∀ r, row = some r → b + 1 + 1 + 1 + 1 < r ∧ ∃ o : Obj, A.heap[r]? = some o ∧ (o.isCells = false ∨ ∃ T u, T ≠ 22 ∧ o = .cells #[u] T (0, 0))) : GoneR b pre v V := by
  obtain ⟨bx, hrow, hl⟩ := h
  refine ⟨bx.kept hg (fun e => by have := (hr _ e.symm).1; omega), hrow.kept hg ?_, fun x hx => ⟨?_, (hl x hx).2⟩⟩
  · cases hvo : v.ownBlock with
    | none => exact .inl rfl
    | some k =>
      refine .inr (fun e => ?_)
      obtain ⟨_, o, ho, hoc⟩ := hr k e.symm
      rcases hrow.2 with ⟨e1, _⟩ | ⟨g, cap, cur, e1, _, e2, _, _, e4, _⟩
      · rw [e1] at hvo; cases hvo
      · rw [e1] at hvo
        have hgk : g = k := by simpa [Value.ownBlock] using hvo
        subst hgk
        rw [e2] at ho
        cases ho
        rcases hoc with hoc | ⟨T, u, _, hoc⟩
        · simp [Obj.isCells] at hoc
        · injection hoc with hoc _
          rw [hoc] at e4
          simp at e4
          omega
  · refine (hl x hx).1.notBox.stays (fun k hk => ⟨hk.1.1, hk.1.2.1, Nat.lt_of_lt_of_le hk.1.2.2 hg.size⟩) (fun a u hX hu => ?_)
    by_cases e : row = some a.block
    · obtain ⟨_, o, ho, hoc⟩ := hr _ e
      rcases hoc with hoc | ⟨T, u2, _, hoc⟩
      · obtain ⟨o2, ho2, hc2⟩ := cells_of_cell hu
        rw [ho] at ho2
        cases ho2
        rw [hoc] at hc2
        cases hc2
      · exact absurd (by rw [ho, hoc]) (hX.2 T u2)
    · exact (World.cell?_of_block (hg.block a.block (cell_lt hu) (fun e2 => e e2.symm))).trans hu

theorem GoneI.abx (w : World) (P0 M B : Nat) (hB : w.heap.size + 1 + 1 + 1 + 1 < B) : AbX B (GoneI w P0 M) := by
  intro s A V row hs hg hr
  obtain ⟨⟨v, hR⟩, b1, b2, b3, b4, hb⟩ := hs
  refine ⟨⟨v, hR.kept hg (fun r e => ⟨by have := (hr r e).1; omega, (hr r e).2⟩)⟩, b1.kept hg (fun e => ?_), b2.kept hg (fun e => ?_), b3.kept hg (fun e => ?_), b4.kept hg (fun e => ?_), hb.grown hg hb.size (fun k e => ?_)⟩
  all_goals (first | (have := (hr _ e.symm).1; omega) | (have := (hr _ e).1; omega))

/-- The value that a round is at. -/
def GoneA (b P0 : Nat) (f : CP → Nat → Act) (pre : List CP) (x : CP) (a : Act) (W : World) : Prop :=
  ∃ Bx v, Box4 W Bx x.t (.slice x.a x.t.items.length x.c) ∧ b + 1 + 1 + 1 + 1 < Bx ∧ Go.Boxed W (b + 1 + 1 + 1 + 1) 22 v ∧ v.ownBlock ≠ some Bx ∧ LiesX (fun k => k ≠ b + 1 + 1 + 1 + 1 ∧ v.ownBlock ≠ some k ∧ k < W.heap.size) 16 W x.t.items (.slice x.a x.t.items.length x.c) ∧ x.t.text.size ≤ 9223372036854775807 ∧ x.i = ((P0 + pre.length : Nat) : Int) ∧ a = f x Bx

theorem GoneA.own (b P0 M : Nat) (hM : b + 1 + 1 + 1 + 1 < M) (f : CP → Nat → Act) (pre : List CP) (x : CP) (a : Act) : OwnFrom M (fun (_ : Unit) W => GoneA b P0 f pre x a W) := by
  intro s A V row hs hg hr
  obtain ⟨Bx, v, b4, hlt, bx, hne, hL, hts, hi, rfl⟩ := hs
  have hb4 : A.heap[Bx]? = some (.cells #[.int .i64 x.t.kind, .int .i64 x.t.num, .string x.t.text, .slice x.a x.t.items.length x.c] 31 (0, 0)) := b4
  refine ⟨Bx, v, b4.kept hg (fun e => ?_), hlt, bx.kept hg (fun e => by have := (hr _ e.symm).1; omega), hne, hL.stays (fun k hk => ⟨hk.1, hk.2.1, Nat.lt_of_lt_of_le hk.2.2 hg.size⟩) (fun a u _ hu => ?_), hts, hi, rfl⟩
  · obtain ⟨_, o, ho, hoc⟩ := hr _ e.symm
    rw [hb4] at ho
    cases ho
    simp [Obj.isCells] at hoc
  · by_cases e : row = some a.block
    · obtain ⟨_, o, ho, hoc⟩ := hr _ e
      obtain ⟨o2, ho2, hc2⟩ := cells_of_cell hu
      rw [ho] at ho2
      cases ho2
      rw [hoc] at hc2
      cases hc2
    · exact (World.cell?_of_block (hg.block a.block (cell_lt hu) (fun e2 => e e2.symm))).trans hu

end Go.Proofs.Ytpnfmcmhcjekfaa

