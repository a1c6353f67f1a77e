/-
  slices.AppendSeq of values onto a row of one's own.
-/
import Derived.Test.YtekoaiehhjgfiaaGrown1
import Derived.Test.YtekoaiehhjgfiaaOfP
import Derived.Laws.OwnMore
namespace Go.Proofs.Ytekoaiehhjgfiaa
open Go.RowKit Go.Shelf

attribute [local go_sem] Oper.semAt_some

set_option maxRecDepth 100000 in
set_option maxHeartbeats 4000000 in
theorem chunkV1_nil (n l Bs Bn : Nat) (a : Option Addr) (cap : Nat) (J Jx : List Unit → World → Prop) (W : World) (hBs : W.cell? ⟨Bs, 0, none⟩ = some (.slice a 0 cap)) (h0 : J [] W) :
    CallsIn Fence.wide n Try.prog 52 #[.func (.yield l) #[] #[], .pointer (some ⟨Bs, 0, none⟩), .pointer (some ⟨Bn, 0, none⟩)] W fun e W' => (∃ v, e = .returned v) ∧ ((∃ ys, ys = [] ∧ J ys W') ∨ (∃ pre, True ∧ Jx pre W')) := by
  refine callsIn_of_wp Try.func52 rfl trivial ?_ rfl
  simp only [Try.ntmps52, List.size_toArray, List.length_cons, List.length_nil, Nat.reduceAdd, Nat.reduceSub, Array.replicate_succ, Array.replicate_zero, List.push_toArray, List.append_toArray, List.nil_append, List.cons_append]
  gi_wp2
  refine wpIn_loop_once ?_
  gi_wp2
  go_end0
  exact ⟨⟨_, rfl⟩, .inl ⟨_, rfl, h0⟩⟩

theorem chunkV_none (n : Nat) (n0 Bs Bn : Nat) (a : Option Addr) (cap : Nat) (w : World) (hs : Bs < w.heap.size) (hBs : w.cell? ⟨Bs, 0, none⟩ = some (.slice a 0 cap)) :
    SeqStopsK Fence.wide n Try.prog 52 #[.pointer (some ⟨Bs, 0, none⟩), .pointer (some ⟨Bn, 0, none⟩)] (fun _ : Unit => #[.slice a 0 0]) (KpC n0 Bs Bn) (fun ys => ys = []) (fun _ => True) 0 w := fun l J Jx W hW _ _ _ h0 =>
  chunkV1_nil n l Bs Bn a cap J Jx W ((hW.cell (p := ⟨Bs, 0, none⟩) hs).trans hBs) h0

set_option maxRecDepth 100000 in
set_option maxHeartbeats 4000000 in
theorem grown_nil (d : Nat) (a : Option Addr) (cap : Nat) (w : World) :
    Calls Try.prog 18 #[.slice a 0 cap] w (JoinPost d [] w) := by
  refine (callsIn_wide (n := 6)).1 ?_
  refine callsIn_of_wp_marks Try.func18 rfl trivial ?_ rfl
  simp only [Try.ntmps18, List.size_toArray, List.length_cons, List.length_nil, Nat.reduceAdd, Nat.reduceSub, Array.replicate_succ, Array.replicate_zero, List.push_toArray, List.append_toArray, List.nil_append, List.cons_append]
  gi_wp2
  refine ⟨trivial, ?_⟩
  refine (chunkV_in _ _ _ _ _).mono ?_
  rintro e w' ⟨rfl, rfl⟩
  gi_wp2
  have bO := Go.Boxed.new w 74 (.slice none 0 0)
  have bS := Go.Boxed.new (w.alloc (.cells #[.slice none 0 0] 74)) 22 (.slice a 0 cap)
  have hB0 : Below w.heap.size w (((w.alloc (.cells #[.slice none 0 0] 74)).alloc (.cells #[.slice a 0 cap] 22)).alloc (.cells #[.int .i64 32] 3)) := ((((Grew.refl w).alloc _).alloc _).alloc _).below
  rw [World.size_alloc] at bS
  refine wpIn_rangeFunc_ownG rfl (by omega) (gf := 52) (lb := #[.pointer (some ⟨w.heap.size + 1, 0, none⟩), .pointer (some ⟨w.heap.size + 1 + 1, 0, none⟩)]) rfl trivial (enters_of Try.func52 (by kernel_rfl) rfl)
    (chunkV_none 5 w.heap.size (w.heap.size + 1) (w.heap.size + 1 + 1) a cap _ (by simp) (bS.alloc _).cell) KpC.t (KpC.b (by simp; omega) (by simp) (by simp)) (Below.refl _ _) (fun _ => rfl)
    (fun (_ : List Unit) W => Go.Boxed W w.heap.size 74 (.slice none 0 0) ∧ Below w.heap.size w W) (fun _ _ _ => False)
    ?hI (fun _ _ _ _ _ hs _ _ => hs) ?h0
    (fun _ => { tmps := #[.slice a 0 cap, undef, .nilIface, .pointer (some ⟨w.heap.size, 0, none⟩), .slice a 0 0, undef, undef, .slice a 0 cap, .func (.func 52) #[] #[.pointer (some ⟨w.heap.size + 1, 0, none⟩), .pointer (some ⟨w.heap.size + 1 + 1, 0, none⟩)], .slice a 0 0, undef, undef, undef, undef, undef, undef, undef, undef, undef, undef, undef, undef, undef, undef, undef, undef, undef, undef, undef, undef, undef, undef, undef, undef, undef, undef], defers := [] }) ?assign ?body ?done ?stop
  case hI =>
    intro s A V row hs hg hr
    refine ⟨hs.1.kept hg (fun e => ?_), hs.2.grown hg hs.2.size (fun k e => ?_)⟩
    · have := (hr _ e.symm).1
      simp at this
      omega
    · have := (hr _ e).1
      simp at this
      omega
  case h0 => exact ⟨(bO.alloc _).alloc _, hB0⟩
  case assign =>
    intro l x W K hK
    gi_wp2
    exact hK
  case body =>
    rintro lp pre x W _ hlt
    exact absurd hlt (Nat.not_lt_zero _)
  case done =>
    rintro D ys W hD rfl ⟨bx, hB⟩ hK
    have hc := bx.cell
    have HM : Hid (Marks w.heap.size W [D]) := (Marks.nil _ _).cons (by simp at hD; omega) hK (by simp)
    have heq : Sem.run Try.prog (binOp BinOp.eql 74 (.slice none 0 0) (.slice none 0 0)) W = .ok (.bool true) W := by
      first | kernel_rfl | rfl
    clear bO bS hB0 hD bx hK
    gi_wp2
    exact leaves_marks w.heap.size (fun W => Below w.heap.size w W) (fun W D hD hK hT => hT.trans (belowK_b (w := w) (Nat.le_refl _) W D _ _ hD hK rfl rfl)) (fun W hT => ⟨_, results_tmp rfl _ _ _, ⟨_, rfl, .inl ⟨rfl, rfl⟩, hT⟩⟩) [D] W HM.out hB
  case stop =>
    rintro D c pre W _ _ h _
    exact h.elim

theorem grown_any : GrC := fun l u w hu hbig => by
  obtain ⟨a, c, rfl, hr⟩ := Lies.slice hu
  cases l with
  | nil => exact grown_nil 16 a c w
  | cons x l =>
    obtain ⟨g, o, rfl, hc⟩ := Lies.some_at hu (by simp)
    exact grown_pos 16 (x :: l) g o c _ w rfl (by simp) hc hbig hu

theorem of_any (l : List VT) (u : Value) (w : World) (hu : Lies 17 w l u) : Calls Try.prog 5 #[u] w (VecPost 16 (ofR l) w) := of_core grown_any l u w hu

theorem push_any (l : List VT) (p : Value) (x : VT) (ax : Option Addr) (cx : Nat) (w : World) (h : VC 16 w l p) (hx : Lies 16 w x.items (.slice ax x.items.length cx)) (hts : x.text.size ≤ 9223372036854775807) (hlen : l.length ≤ 65536) :
    Calls Try.prog 27 #[p, .agg #[.int .i64 x.kind, .int .i64 x.num, .string x.text, .slice ax x.items.length cx]] w (VecPost 16 (pushR l x) w) := push_core grown_any l p x ax cx w h hx hts hlen

end Go.Proofs.Ytekoaiehhjgfiaa

namespace Go.Proofs.Ytekoaiehhjgfiaa
open Go.RowKit Go.Shelf

attribute [local go_sem] Oper.semAt_some

theorem room_wide (k : Nat) : Fence.wide.room k := fun d h => by cases h
theorem RoundIn.wideDepth {m m' : Nat} {P : Program} {l : Nat} {f : FuncId} {tmps : Array Value} {assign body : Code} {w : World} {R : Ending → World → Prop}
    (h : RoundIn Fence.wide m P l f tmps assign body w R) : RoundIn Fence.wide m' P l f tmps assign body w R := ⟨h.1, fun c cs _ => h.2 c cs (room_wide _)⟩
theorem YieldAt.wideDepth {m : Nat} (m' : Nat) {P : Program} {l : Nat} {args : Array Value} {W : World} {R : Ending → World → Prop} (h : YieldAt Fence.wide m P l args W R) : YieldAt Fence.wide m' P l args W R := by
  obtain ⟨fn, tmps, assign, body, hy, hR⟩ := h
  exact ⟨fn, tmps, assign, body, hy, RoundIn.wideDepth hR⟩

/-- A value that is sound in a world, and of which R holds. -/
abbrev PG (d : Nat) (w0 : World) (R : VT → Prop) : Type := { q : VT × Value // Sound d w0 q ∧ R q.1 }

theorem lift_list {α : Type} {P : α → Prop} (ps : List α) (h : ∀ p ∈ ps, P p) : ∃ qs : List { p // P p }, qs.map (·.1) = ps := by
  induction ps with
  | nil => exact ⟨[], rfl⟩
  | cons p ps ih =>
    obtain ⟨qs, hq⟩ := ih (fun q hq => h q (List.mem_cons_of_mem _ hq))
    exact ⟨⟨p, h p List.mem_cons_self⟩ :: qs, by rw [List.map_cons, hq]⟩

/-- All have come, or a round has said that it wants no more. -/
def EachPost {d : Nat} {w0 : World} {R : VT → Prop} (J Jx : List (PG d w0 R) → World → Prop) (ys : List (PG d w0 R)) (W : World) (e : Ending) (W' : World) : Prop :=
  (e = .returned (.bool true) ∧ J ys W' ∧ Below w0.heap.size W W') ∨ (e = .returned (.bool false) ∧ ∃ pre, Jx pre W')

/-- What each does with a tree whose items are qs. -/
def EachC {d : Nat} {w0 : World} {R : VT → Prop} (v : Value) (qs : List (PG d w0 R)) : Prop :=
  ∀ (lp N : Nat) (J Jx : List (PG d w0 R) → World → Prop), (∀ s A B, J s A → Below A.heap.size A B → J s B) →
    (∀ m pre (x : PG d w0 R) W, J pre W → pre.length < N → YieldAt Fence.wide m Try.prog lp #[.agg #[.int .i64 x.1.1.kind, .int .i64 x.1.1.num, .string x.1.1.text, x.1.2]] W fun e W' =>
      (e = .returned (.bool true) ∧ J (pre ++ [x]) W' ∧ Below w0.heap.size W W') ∨ (e = .returned (.bool false) ∧ Jx (pre ++ [x]) W')) →
    ∀ (n fr : Nat) (pre : List (PG d w0 R)) (W : World), fr < qs.length → pre.length + (qs.length - fr) ≤ N → Below w0.heap.size w0 W → J pre W →
      CallsIn Fence.wide n Try.prog 57 #[v, .int .i64 (fr : Int), .func (.yield lp) #[] #[]] W (EachPost J Jx (pre ++ qs.drop fr) W)

theorem lift_parts {α β : Type} (P : α → β → Prop) (ps : List α) (h : ∀ p ∈ ps, ∃ q, P p q) : ∃ qs : List β, qs.length = ps.length ∧ ∀ (i : Nat) (h1 : i < ps.length) (h2 : i < qs.length), P (ps[i]'h1) (qs[i]'h2) := by
  induction ps with
  | nil => exact ⟨[], rfl, fun i h1 => absurd h1 (Nat.not_lt_zero _)⟩
  | cons p ps ih =>
    obtain ⟨qs, hl, hq⟩ := ih (fun q hq => h q (List.mem_cons_of_mem _ hq))
    obtain ⟨q, hq0⟩ := h p List.mem_cons_self
    refine ⟨q :: qs, by rw [List.length_cons, List.length_cons, hl], fun i h1 h2 => ?_⟩
    cases i with
    | zero => exact hq0
    | succ i => exact hq i (by simpa using h1) (by simpa using h2)

set_option maxRecDepth 100000 in
set_option maxHeartbeats 8000000 in
theorem each_leaf (d : Nat) (w0 : World) (R : VT → Prop) (b g o c : Nat) (qs : List (PG d w0 R)) (hc : w0.cell? ⟨b, 0, none⟩ = some (.slice (some ⟨g, o, none⟩) qs.length c)) (hrow : RowAt w0 g o (qs.map (·.1))) (hcap : qs.length ≤ c) (h2 : qs.length ≤ 32) : EachC (.iface 78 (.pointer (some ⟨b, 0, none⟩))) qs := by
  intro lp N J Jx hJ hY n fr pre W hfr hN hW hpre
  obtain ⟨M, hM⟩ : ∃ M, M = qs.length - fr := ⟨_, rfl⟩
  obtain ⟨L, hL⟩ : ∃ L, L = qs.length := ⟨_, rfl⟩
  have HR : Hid (RowAt w0 g o (qs.map (·.1))) := hrow
  have HW : Hid (Below w0.heap.size w0 W) := hW
  have hc1 := cell_keeps hW hc
  have hb1 := cell_lt hc1
  have hbb := cell_lt hc
  rw [← hL] at hc1 hcap h2
  have hfL : fr < L := by omega
  have hfLi : (fr : Int) ≤ (L : Nat) := by omega
  have hfc : fr ≤ c := by omega
  have hfci : (fr : Int) ≤ (c : Nat) := by omega
  have hLc : (L : Int) ≤ (c : Nat) := by omega
  have hcf : ¬ (c = fr) := by omega
  have hcfi : ¬ ((c : Nat) : Int) = (fr : Nat) := by omega
  have HM : Hid (M = qs.length - fr ∧ L = qs.length ∧ pre.length + M ≤ N) := ⟨hM, hL, by omega⟩
  have hML : L - fr = M := by omega
  have hM32 : M ≤ 32 := by omega
  have hMLi : ((L : Nat) : Int) - (fr : Nat) = (M : Nat) := by omega
  have ta := as_LL
  have HYh : Hid _ := hY
  have HJh : Hid _ := hJ
  have Hp : Hid (J pre W) := hpre
  clear hY hJ hpre hrow hc hW hN hM hL
  refine callsIn_of_wp Try.func57 rfl trivial ?_ rfl
  simp only [Try.ntmps57, List.size_toArray, List.length_cons, List.length_nil, Nat.reduceAdd, Nat.reduceSub, Array.replicate_succ, Array.replicate_zero, List.push_toArray, List.append_toArray, List.nil_append, List.cons_append]
  gi_wp2
  gi_loopw [29] (fun i wr => ∃ k : Nat, k ≤ M ∧ i = .int .i64 (k : Int) ∧ Hid (J (pre ++ (qs.drop fr).take k) wr) ∧ Hid (Below w0.heap.size W wr)) (fun i _ => M - (intOf i).toNat)
  case atStart => exact ⟨0, Nat.zero_le _, rfl, by show J _ _; simpa using Hp.out, Below.refl _ _⟩
  case round =>
    obtain ⟨k, hk, rfl, HJk, HB⟩ := hrel
    by_cases hlt : k < M
    · have hki : (k : Int) < (M : Nat) := by omega
      have hkq : fr + k < qs.length := by have := HM.out; omega
      obtain ⟨x, hx⟩ : ∃ x, x = qs[fr + k]'hkq := ⟨_, rfl⟩
      have hr := HR.out (fr + k) (by rw [List.length_map]; exact hkq)
      simp only [List.getElem_map] at hr
      rw [← hx] at hr
      obtain ⟨⟨⟨t, u⟩, hsd, hRt⟩, hx'⟩ : ∃ x', x' = x := ⟨_, rfl⟩
      subst hx'
      obtain ⟨au, cu, hu, _⟩ := Lies.slice hsd.1
      simp only at hu hr
      subst hu
      have hBw : Below w0.heap.size w0 wr := HW.out.trans HB.out
      obtain ⟨r0, r1, r2, r3⟩ := hr
      have e4 : o + (fr + k) * 4 = o + fr * 4 + k * 4 := by omega
      rw [e4] at r0 r1 r2 r3
      have r0 := cell_keeps hBw r0; have r1 := cell_keeps hBw r1; have r2 := cell_keeps hBw r2; have r3 := cell_keeps hBw r3
      have hgl : g < wr.heap.size := cell_lt r0
      have hng : ¬ (g = wr.heap.size) := by omega
      have Hnx : Hid ((qs.drop fr).take (k + 1) = (qs.drop fr).take k ++ [⟨(t, .slice au t.items.length cu), hsd, hRt⟩]) := by
        show _ = _
        rw [List.take_succ_eq_append_getElem (by rw [List.length_drop]; have := HM.out; omega)]
        congr 2
        rw [List.getElem_drop]
        exact hx.symm
      have Hln : Hid ((pre ++ (qs.drop fr).take k).length < N) := by
        show _ < _
        rw [List.length_append, List.length_take, List.length_drop]
        have := HM.out
        omega
      have HYx : Hid (∀ V, Below wr.heap.size wr V → YieldAt Fence.wide (n - 1) Try.prog lp #[.agg #[.int .i64 t.kind, .int .i64 t.num, .string t.text, .slice au t.items.length cu]] V fun e W' =>
          (e = .returned (.bool true) ∧ J (pre ++ (qs.drop fr).take (k + 1)) W' ∧ Below w0.heap.size V W') ∨ (e = .returned (.bool false) ∧ Jx (pre ++ (qs.drop fr).take (k + 1)) W')) := fun V hV => by
        have h9 := HYh.out (n - 1) _ ⟨(t, .slice au t.items.length cu), hsd, hRt⟩ V (HJh.out _ _ _ HJk.out hV) Hln.out
        rw [List.append_assoc, ← Hnx.out] at h9
        exact h9
      clear hx hkq Hnx Hln
      have Hba : Hid (Below wr.heap.size wr (wr.alloc (.cells #[.int .i64 t.kind, .int .i64 t.num, .string t.text, .slice au t.items.length cu] 33))) := ((Grew.refl wr).alloc _).below
      obtain ⟨fn, tmps, assign, body, hy, hR⟩ := HYx.out _ Hba.out
      clear HYx
      gi_wp2
      refine ⟨(fun h => by cases h), ?_⟩
      refine hR.mono ?_
      rintro e W3 (⟨rfl, hJ3, hb3⟩ | ⟨rfl, hx3⟩)
      · gi_wp2
        go_roundw
        case rel => exact ⟨k + 1, hlt, by go_num, hJ3, (HB.out.trans (Hba.out.mono hBw.size)).trans hb3⟩
        case measure => simp [intOf]; omega
      · gi_wp2
        go_ret
        exact .inr ⟨rfl, _, hx3⟩
    · have hki : ¬ (k : Int) < (M : Nat) := by omega
      have HE : Hid (EachPost J Jx (pre ++ qs.drop fr) W (.returned (.bool true)) wr) := by
        refine .inl ⟨rfl, ?_, HB.out⟩
        have h9 := HJk.out
        rw [List.take_of_length_le (by rw [List.length_drop]; have := HM.out; omega)] at h9
        exact h9
      gi_wp2
      go_ret
      exact HE.out

/-- What is left of the parts from a place on. -/
def fromP {α : Type} (Qs : List (List α)) (kk q : Nat) : List (List α) := (Qs[kk]?.getD []).drop q :: Qs.drop (kk + 1)

theorem fromP_len {α : Type} (Qs : List (List α)) (kk q : Nat) (hk : kk < Qs.length) : (fromP Qs kk q).length = Qs.length - kk := by
  unfold fromP
  rw [List.length_cons, List.length_drop]
  omega

theorem fromP_get {α : Type} (Qs : List (List α)) (kk q j : Nat) (hj : kk + j < Qs.length) : (fromP Qs kk q)[j]? = some ((Qs[kk + j]'hj).drop (if j = 0 then q else 0)) := by
  unfold fromP
  cases j with
  | zero => simp [List.getElem?_eq_getElem (show kk < Qs.length by omega)]
  | succ j =>
    rw [List.getElem?_cons_succ, List.getElem?_drop, if_neg (by omega), List.drop_zero, show kk + 1 + j = kk + (j + 1) by omega, List.getElem?_eq_getElem hj]

theorem fromP_flat {α : Type} (Qs : List (List α)) (kk q : Nat) (hk : kk < Qs.length) (hq : q ≤ (Qs[kk]'hk).length) : (fromP Qs kk q).flatten = Qs.flatten.drop (((Qs.map (·.length)).take kk).sum + q) := by
  induction Qs generalizing kk with
  | nil => cases hk
  | cons Q Qs ih =>
    cases kk with
    | zero =>
      unfold fromP
      simp only [List.getElem?_cons_zero, Option.getD_some, List.flatten_cons, List.take_zero, List.sum_nil, Nat.zero_add, List.drop_succ_cons, List.drop_zero]
      rw [List.getElem_cons_zero] at hq
      rw [List.drop_append_of_le_length hq]
    | succ kk =>
      have h1 := ih kk (by simpa using hk) (by simpa using hq)
      unfold fromP at h1 ⊢
      simp only [List.getElem?_cons_succ, List.map_cons, List.take_succ_cons, List.sum_cons, List.flatten_cons, List.drop_succ_cons] at h1 ⊢
      rw [h1]
      generalize ((Qs.map (fun x => x.length)).take kk).sum = S
      rw [Nat.add_assoc, List.drop_append, show List.drop (Q.length + (S + q)) Q = [] from List.drop_eq_nil_of_le (by omega), List.nil_append]
      congr 1
      omega

theorem flat_take_succ {α : Type} (T : List (List α)) (j : Nat) (x : List α) (hx : T[j]? = some x) : (T.take (j + 1)).flatten = (T.take j).flatten ++ x := by
  obtain ⟨h, rfl⟩ := List.getElem?_eq_some_iff.1 hx
  rw [List.take_succ_eq_append_getElem h, List.flatten_append]
  simp

theorem flat_take_len {α : Type} (T : List (List α)) (j : Nat) (x : List α) (hx : T[j]? = some x) : (T.take j).flatten.length + x.length ≤ T.flatten.length := by
  have h1 := flat_take_succ T j x hx
  have h2 := congrArg List.length (congrArg List.flatten (List.take_append_drop (j + 1) T))
  rw [List.flatten_append, List.length_append, h1, List.length_append] at h2
  omega

set_option maxRecDepth 100000 in
set_option maxHeartbeats 8000000 in
theorem each_branch (d : Nat) (w0 : World) (R : VT → Prop) (b g o c : Nat) (el : Value) (ps : List Part) (Qs : List (List (PG d w0 R))) (hc0 : w0.cell? ⟨b, 0, none⟩ = some (.slice (some ⟨g, o, none⟩) ps.length c)) (hc1 : w0.cell? ⟨b, 1, none⟩ = some el) (he : SlV w0 (ends ps) el) (hcs : ∀ (i : Nat) (hi : i < ps.length), w0.cell? ⟨g, o + i, none⟩ = some (ps[i]'hi).2) (hcap : ps.length ≤ c) (h2 : ps.length ≤ 32) (hbig : (ps.flatMap (·.1)).length ≤ 1099511627776)
    (hQl : Qs.length = ps.length) (hQ : ∀ (i : Nat) (h1 : i < ps.length) (h2 : i < Qs.length), (Qs[i]'h2).map (·.1.1) = (ps[i]'h1).1 ∧ 1 ≤ (Qs[i]'h2).length ∧ EachC (ps[i]'h1).2 (Qs[i]'h2)) : EachC (.iface 84 (.pointer (some ⟨b, 0, none⟩))) Qs.flatten := by
  intro lp N J Jx hJ hY n fr pre W hfr hN hW hpre
  have hmapl : Qs.map (·.length) = lensP ps := by
    refine List.ext_getElem (by rw [List.length_map, hQl]; simp [lensP]) fun i h1 h2 => ?_
    have h1' : i < Qs.length := by rw [List.length_map] at h1; exact h1
    have := congrArg List.length (hQ i (by omega) h1').1
    rw [List.length_map] at this
    rw [List.getElem_map, this]
    simp [lensP]
  have hflat : Qs.flatten.map (·.1.1) = ps.flatMap (·.1) := by
    rw [List.map_flatten, List.flatMap_def]
    congr 1
    refine List.ext_getElem (by rw [List.length_map, List.length_map, hQl]) fun i h1 h2 => ?_
    rw [List.getElem_map, List.getElem_map]
    exact (hQ i _ _).1
  have hfl : fr < (ps.flatMap (·.1)).length := by rw [← hflat, List.length_map]; exact hfr
  have HFi : Hid (Calls Try.prog 58 #[.pointer (some ⟨b, 0, none⟩), .int .i64 (fr : Int)] W (FindPost ps fr W)) := find_any ps b el fr W (cell_keeps hW hc1) (SlV.keeps he hW) hfl h2 hbig
  have HW : Hid (Below w0.heap.size w0 W) := hW
  have HT : Hid (∀ kk q, InPart ps fr kk q → (fromP Qs kk q).flatten = Qs.flatten.drop fr ∧ ∀ j, kk + j < ps.length → ∃ (vj : Value) (xj : List (PG d w0 R)), w0.cell? ⟨g, o + kk + j, none⟩ = some vj ∧ (fromP Qs kk q)[j]? = some xj ∧ ∀ (m : Nat) (pre' : List (PG d w0 R)) (V : World), pre'.length + xj.length ≤ N → Below w0.heap.size w0 V → J pre' V → CallsIn Fence.wide m Try.prog 57 #[vj, .int .i64 ((if j = 0 then q else 0 : Nat) : Int), .func (.yield lp) #[] #[]] V (EachPost J Jx (pre' ++ xj) V)) := fun kk q hin => by
    have hk := hin.lt
    have hk2 : kk < Qs.length := by omega
    have hqn : q < (Qs[kk]'hk2).length := by
      have h9 := congrArg List.length (hQ kk hk hk2).1
      rw [List.length_map] at h9
      rw [h9]; exact hin.inn
    refine ⟨?_, fun j hj => ?_⟩
    · rw [fromP_flat Qs kk q hk2 (by omega), hmapl, ← hin.eq]
    · have hj2 : kk + j < Qs.length := by omega
      refine ⟨_, _, by rw [Nat.add_assoc]; exact hcs (kk + j) hj, fromP_get Qs kk q j hj2, fun m pre' V hl hV hJv => ?_⟩
      obtain ⟨_, hpos, hE⟩ := hQ (kk + j) hj hj2
      refine hE lp N J Jx hJ hY m (if j = 0 then q else 0) pre' V ?_ ?_ hV hJv
      · by_cases h0 : j = 0
        · subst h0; rw [if_pos rfl]; exact hqn
        · rw [if_neg h0]; omega
      · rw [List.length_drop] at hl
        exact hl
  have Hp : Hid (J pre W) := hpre
  have HJh : Hid (∀ s A B, J s A → Below A.heap.size A B → J s B) := hJ
  have HN : Hid (pre.length + (Qs.flatten.length - fr) ≤ N) := hN
  have Hc0 : Hid (w0.cell? ⟨b, 0, none⟩ = some (.slice (some ⟨g, o, none⟩) ps.length c)) := hc0
  have HQl : Hid (Qs.length = ps.length) := hQl
  clear hY hJ hpre hc0 hc1 he hcs hQ hQl hmapl hflat hfl hW hN hbig
  have ta := as_BL
  have tb := as_B
  refine callsIn_of_wp Try.func57 rfl trivial ?_ rfl
  simp only [Try.ntmps57, List.size_toArray, List.length_cons, List.length_nil, Nat.reduceAdd, Nat.reduceSub, Array.replicate_succ, Array.replicate_zero, List.push_toArray, List.append_toArray, List.nil_append, List.cons_append]
  gi_wp2
  refine ⟨trivial, (fun h => by cases h), ?_⟩
  refine (callsIn_wide.2 HFi.out).mono ?_
  rintro e w1 ⟨kk, q, rfl, hin, hb1⟩
  obtain ⟨hfl, hT⟩ := HT.out kk q hin
  have hkl : kk < ps.length := hin.lt
  have hW1 : Below w0.heap.size W w1 := hb1.mono HW.out.size
  have Hw1 : Hid (Below w0.heap.size W w1) := hW1
  have hc1 := cell_keeps (HW.out.trans hW1) Hc0.out
  obtain ⟨L, hL⟩ : ∃ L, L = ps.length := ⟨_, rfl⟩
  obtain ⟨M, hM⟩ : ∃ M, M = ps.length - kk := ⟨_, rfl⟩
  rw [← hL] at hc1 hcap h2 hkl
  have hkLi : (kk : Int) ≤ (L : Nat) := by omega
  have hkc : kk ≤ c := by omega
  have hkci : (kk : Int) ≤ (c : Nat) := by omega
  have hLc : (L : Int) ≤ (c : Nat) := by omega
  have hck : ¬ (c = kk) := by omega
  have hcki : ¬ ((c : Nat) : Int) = (kk : Nat) := by omega
  have hML : L - kk = M := by omega
  have hM32 : M ≤ 32 := by omega
  have HTj : Hid (∀ j, j < M → ∃ (vj : Value) (xj : List (PG d w0 R)), w0.cell? ⟨g, o + kk + j, none⟩ = some vj ∧ (fromP Qs kk q)[j]? = some xj ∧ ∀ (m : Nat) (pre' : List (PG d w0 R)) (V : World), pre'.length + xj.length ≤ N → Below w0.heap.size w0 V → J pre' V → CallsIn Fence.wide m Try.prog 57 #[vj, .int .i64 ((if j = 0 then q else 0 : Nat) : Int), .func (.yield lp) #[] #[]] V (EachPost J Jx (pre' ++ xj) V)) := fun j hj => hT j (by omega)
  have HJ1 : Hid (J pre w1) := HJh.out _ _ _ Hp.out hb1
  have HMl : Hid (M = (fromP Qs kk q).length) := by
    show _ = _
    rw [fromP_len Qs kk q (by have := HQl.out; omega), HQl.out]
    exact hM
  have Hfl : Hid ((fromP Qs kk q).flatten = Qs.flatten.drop fr) := hfl
  clear hT hin hb1 hL hM HFi HT hfl HJh
  gi_wp2
  gi_loopw [53, 13] (fun iv pv wr => ∃ j : Nat, j ≤ M ∧ iv = .int .i64 (j : Int) ∧ pv = .int .i64 ((if j = 0 then q else 0 : Nat) : Int) ∧ Hid (J (pre ++ ((fromP Qs kk q).take j).flatten) wr) ∧ Hid (Below w0.heap.size W wr)) (fun iv _ _ => M - (intOf iv).toNat)
  case atStart => exact ⟨0, Nat.zero_le _, rfl, rfl, by show J _ _; simpa using HJ1.out, Hw1⟩
  case round =>
    obtain ⟨j, hj, rfl, rfl, HJj, HB⟩ := hrel
    by_cases hlt : j < M
    · have hji : (j : Int) < (M : Nat) := by omega
      obtain ⟨vj, xj, hcj, hxj, hcall⟩ := HTj.out j hlt
      have hBw : Below w0.heap.size w0 wr := HW.out.trans HB.out
      have hcj := cell_keeps hBw hcj
      have hgl := cell_lt hcj
      have Hnx : Hid (((fromP Qs kk q).take (j + 1)).flatten = ((fromP Qs kk q).take j).flatten ++ xj) := flat_take_succ _ _ _ hxj
      have HC : Hid (CallsIn Fence.wide (n - 1) Try.prog 57 #[vj, .int .i64 ((if j = 0 then q else 0 : Nat) : Int), .func (.yield lp) #[] #[]] wr (EachPost J Jx (pre ++ ((fromP Qs kk q).take (j + 1)).flatten) wr)) := by
        have h9 := hcall (n - 1) (pre ++ ((fromP Qs kk q).take j).flatten) wr (by
          have h8 := flat_take_len _ _ _ hxj
          rw [Hfl.out, List.length_drop] at h8
          rw [List.length_append]
          have := HN.out
          omega) hBw HJj.out
        rw [List.append_assoc, ← Hnx.out] at h9
        exact h9
      obtain ⟨P, hP⟩ : ∃ P : Int, P = ((if j = 0 then q else 0 : Nat) : Int) := ⟨_, rfl⟩
      rw [← hP] at HC ⊢
      clear hP hcall hxj Hnx
      gi_wp2
      refine ⟨trivial, (fun h => by cases h), ?_⟩
      refine HC.out.mono ?_
      rintro e W3 (⟨rfl, hJ3, hb3⟩ | ⟨rfl, pre3, hx3⟩)
      · gi_wp2
        go_roundw
        case rel => exact ⟨j + 1, hlt, by go_num, by rw [if_neg (by omega)]; rfl, hJ3, HB.out.trans hb3⟩
        case measure => simp [intOf]; omega
      · gi_wp2
        go_ret
        exact .inr ⟨rfl, _, hx3⟩
    · have hji : ¬ (j : Int) < (M : Nat) := by omega
      have HE : Hid (EachPost J Jx (pre ++ Qs.flatten.drop fr) W (.returned (.bool true)) wr) := by
        refine .inl ⟨rfl, ?_, HB.out⟩
        have h9 := HJj.out
        rw [List.take_of_length_le (by have := HMl.out; omega), Hfl.out] at h9
        exact h9
      gi_wp2
      go_ret
      exact HE.out

theorem each_any (d : Nat) (w0 : World) (R : VT → Prop) : ∀ (h : Nat) (k : Bool) (l : List VT) (v : Value), ND d h k w0 l v → (∀ x ∈ l, R x) → l.length ≤ 1099511627776 → ∃ qs : List (PG d w0 R), qs.map (·.1.1) = l ∧ EachC v qs := by
  intro h
  induction h with
  | zero =>
    intro k l v hn hR _
    obtain ⟨b, a, c, rfl, hc, hl, h1, h2, _⟩ := hn
    obtain ⟨ps, hps, hpl, hsl⟩ := SlP.of_lies hl
    obtain ⟨a', c', e, hcap, _, hrow, hsd⟩ := hsl
    obtain ⟨g, o, rfl, _, hr⟩ := hrow (fun e => by rw [e] at hpl; simp at hpl; omega)
    injection e with e1 e2 e3
    subst e1 e3
    obtain ⟨qs, hqs⟩ := lift_list (P := fun q : VT × Value => Sound d w0 q ∧ R q.1) ps (fun p hp => ⟨hsd p hp, hR _ (by rw [← hps]; exact List.mem_map_of_mem hp)⟩)
    have hql : qs.length = ps.length := by rw [← hqs, List.length_map]
    refine ⟨qs, by rw [← hps, ← hqs, List.map_map]; rfl, each_leaf d w0 R b g o c qs (by rw [hql, hpl]; exact hc) (by rw [hqs]; exact hr) (by omega) (by omega)⟩
  | succ h ih =>
    intro k l v hn hR hbig
    obtain ⟨b, sl, el, ps, rfl, hc0, hc1, hs, he, h1, h2, h3, rfl, hp⟩ := hn
    obtain ⟨g, o, c, hsl, hcap, hcs⟩ := hs.full (fun e => by have := congrArg List.length e; rw [List.length_map, List.length_nil] at this; omega)
    subst hsl
    rw [List.length_map] at hc0 hcap
    have hin : ∀ p ∈ ps, p.1.length ≤ (ps.flatMap (·.1)).length := fun p hpm => by
      have := sum_mem_le (ps.map fun p => p.1.length) p.1.length (List.mem_map.2 ⟨p, hpm, rfl⟩)
      rw [flat_sum]
      exact this
    obtain ⟨Qs, hQl, hQ⟩ := lift_parts (fun (p : Part) (q : List (PG d w0 R)) => q.map (·.1.1) = p.1 ∧ 1 ≤ q.length ∧ EachC p.2 q) ps (fun p hpm => by
      obtain ⟨i, hi, rfl⟩ := List.getElem_of_mem hpm
      obtain ⟨qs, hq1, hq2⟩ := ih _ _ _ (hp i hi) (fun x hx => hR x (List.mem_flatMap.2 ⟨_, List.getElem_mem _, hx⟩)) (Nat.le_trans (hin _ (List.getElem_mem _)) hbig)
      refine ⟨qs, hq1, ?_, hq2⟩
      have h9 := congrArg List.length hq1
      rw [List.length_map] at h9
      rw [h9]
      exact (hp i hi).pos)
    refine ⟨Qs.flatten, ?_, each_branch d w0 R b g o c el ps Qs hc0 hc1 he (fun i hi => ?_) hcap h2 hbig hQl hQ⟩
    · rw [List.map_flatten, List.flatMap_def]
      congr 1
      refine List.ext_getElem (by rw [List.length_map, List.length_map, hQl]) fun i h1 h2 => ?_
      rw [List.getElem_map, List.getElem_map]
      exact (hQ i _ _).1
    · have := hcs i (by rw [List.length_map]; exact hi)
      rwa [List.getElem_map] at this

end Go.Proofs.Ytekoaiehhjgfiaa

namespace Go.Proofs.Ytekoaiehhjgfiaa
open Go.RowKit Go.Shelf

attribute [local go_sem] Oper.semAt_some

/-- What is handed out from a place on. -/
def fromL (l : List VT) (i : Int) : List VT := if 0 ≤ i ∧ i < (l.length : Int) then l.drop i.toNat else []

set_option maxRecDepth 100000 in
set_option maxHeartbeats 8000000 in
theorem from1_some (d : Nat) (w0 : World) (R : VT → Prop) (l : List VT) (b : Nat) (v : Value) (fr : Nat) (qs : List (PG d w0 R)) (hc : w0.cell? ⟨b, 0, none⟩ = some v) (ht : OT d w0 l v) (hql : qs.length = l.length) (hE : EachC v qs) (hfr : fr < l.length) (n lp Bv Bp : Nat) (J Jx : List (PG d w0 R) → World → Prop) (hJ : ∀ s A B, J s A → Below A.heap.size A B → J s B)
    (hY : ∀ m pre (x : PG d w0 R) W, J pre W → pre.length < l.length - fr → YieldAt Fence.wide m Try.prog lp #[.agg #[.int .i64 x.1.1.kind, .int .i64 x.1.1.num, .string x.1.1.text, x.1.2]] W fun e W' =>
      (e = .returned (.bool true) ∧ J (pre ++ [x]) W' ∧ Below w0.heap.size W W') ∨ (e = .returned (.bool false) ∧ Jx (pre ++ [x]) W'))
    (W : World) (hW : Below w0.heap.size w0 W) (hv : W.cell? ⟨Bv, 0, none⟩ = some (.pointer (some ⟨b, 0, none⟩))) (hp : W.cell? ⟨Bp, 0, none⟩ = some (.int .i64 (fr : Int))) (h0 : J [] W) :
    CallsIn Fence.wide n Try.prog 56 #[.func (.yield lp) #[] #[], .pointer (some ⟨Bv, 0, none⟩), .pointer (some ⟨Bp, 0, none⟩)] W fun e W' => (∃ v, e = .returned v) ∧ ((∃ ys, ys = qs.drop fr ∧ J ys W') ∨ (∃ pre, True ∧ Jx pre W')) := by
  have hvc : VC d W l (.pointer (some ⟨b, 0, none⟩)) := VC.keeps (.inr ⟨b, v, rfl, hc, ht⟩) hW
  have HH : Hid (Calls Try.prog 44 #[.pointer (some ⟨b, 0, none⟩), .int .i64 (fr : Int)] W (BoolPost true W)) := by
    have := hasPlace_any d l _ (fr : Int) W hvc
    rwa [decide_eq_true ⟨by omega, by omega⟩] at this
  have HE : Hid (∀ V, Below W.heap.size W V → CallsIn Fence.wide (n - 1) Try.prog 57 #[v, .int .i64 (fr : Int), .func (.yield lp) #[] #[]] V fun e W' => ∃ y : Bool, e = .returned (.bool y) ∧ ((∃ ys, ys = qs.drop fr ∧ J ys W') ∨ (∃ pre, True ∧ Jx pre W'))) := fun V hV => by
    refine (hE lp (l.length - fr) J Jx hJ hY (n - 1) fr [] V (by omega) (by rw [hql]; simp) (hW.trans (hV.mono hW.size)) (hJ _ _ _ h0 hV)).mono ?_
    rintro e W' (⟨rfl, hj, _⟩ | ⟨rfl, pre, hx⟩)
    · exact ⟨true, rfl, .inl ⟨_, rfl, by simpa using hj⟩⟩
    · exact ⟨false, rfl, .inr ⟨pre, trivial, hx⟩⟩
  have Hc : Hid (W.cell? ⟨b, 0, none⟩ = some v) := cell_keeps hW hc
  have Hv : Hid (W.cell? ⟨Bv, 0, none⟩ = some (.pointer (some ⟨b, 0, none⟩))) := hv
  have Hp : Hid (W.cell? ⟨Bp, 0, none⟩ = some (.int .i64 (fr : Int))) := hp
  have hmx : Try.prog.follows .mixedOrders = true := by kernel_rfl
  have hlv := cell_lt hv
  have hlp := cell_lt hp
  clear hY hJ hE h0 hc ht hvc hW
  refine callsIn_of_wp Try.func56 rfl trivial ?_ rfl
  simp only [Try.ntmps56, List.size_toArray, List.length_cons, List.length_nil, Nat.reduceAdd, Nat.reduceSub, Array.replicate_succ, Array.replicate_zero, List.push_toArray, List.append_toArray, List.nil_append, List.cons_append]
  gi_wp2
  refine ⟨trivial, (fun h => by cases h), ?_⟩
  refine (callsIn_wide.2 HH.out).mono ?_
  rintro e w1 ⟨rfl, hb1⟩
  have hv1 := cell_keeps hb1 Hv.out
  have hp1 := cell_keeps hb1 Hp.out
  have hc1 := cell_keeps hb1 Hc.out
  have HE1 : Hid _ := HE.out w1.drew (hb1.trans ((Below.refl _ w1).drew.mono hb1.size))
  have hvd : w1.drew.cell? ⟨Bv, 0, none⟩ = some (.pointer (some ⟨b, 0, none⟩)) := hv1
  have hpd : w1.drew.cell? ⟨Bp, 0, none⟩ = some (.int .i64 (fr : Int)) := hp1
  have hcd : w1.drew.cell? ⟨b, 0, none⟩ = some v := hc1
  clear hv hp
  gi_wp2
  gi_region_with_o (refine ⟨trivial, (fun h => by cases h), ?_⟩; refine CallsIn.mono HE1.out ?_; rintro e w2 ⟨y, rfl, hR⟩)
  all_goals (go_end0; exact ⟨⟨_, rfl⟩, hR⟩)

set_option maxRecDepth 100000 in
set_option maxHeartbeats 4000000 in
theorem from1_none (d : Nat) (w0 : World) (R : VT → Prop) (l : List VT) (p : Value) (i : Int) (hvc : VC d w0 l p) (hi : ¬ (0 ≤ i ∧ i < (l.length : Int))) (n lp Bv Bp : Nat) (J Jx : List (PG d w0 R) → World → Prop) (hJ : ∀ s A B, J s A → Below A.heap.size A B → J s B)
    (W : World) (hW : Below w0.heap.size w0 W) (hv : W.cell? ⟨Bv, 0, none⟩ = some p) (hp : W.cell? ⟨Bp, 0, none⟩ = some (.int .i64 i)) (h0 : J [] W) :
    CallsIn Fence.wide n Try.prog 56 #[.func (.yield lp) #[] #[], .pointer (some ⟨Bv, 0, none⟩), .pointer (some ⟨Bp, 0, none⟩)] W fun e W' => (∃ v, e = .returned v) ∧ ((∃ ys, ys = [] ∧ J ys W') ∨ (∃ pre, True ∧ Jx pre W')) := by
  have HH : Hid (Calls Try.prog 44 #[p, .int .i64 i] W (BoolPost false W)) := by
    have := hasPlace_any d l _ i W (hvc.keeps hW)
    rwa [decide_eq_false hi] at this
  have HJ : Hid (∀ V, Below W.heap.size W V → J [] V) := fun V hV => hJ _ _ _ h0 hV
  obtain ⟨po, rfl⟩ := hvc.shape
  clear hJ h0 hvc hW hi
  refine callsIn_of_wp Try.func56 rfl trivial ?_ rfl
  simp only [Try.ntmps56, List.size_toArray, List.length_cons, List.length_nil, Nat.reduceAdd, Nat.reduceSub, Array.replicate_succ, Array.replicate_zero, List.push_toArray, List.append_toArray, List.nil_append, List.cons_append]
  gi_wp2
  refine ⟨trivial, (fun h => by cases h), ?_⟩
  refine (callsIn_wide.2 HH.out).mono ?_
  rintro e w1 ⟨rfl, hb1⟩
  have HJ1 : Hid (J [] w1) := HJ.out w1 hb1
  gi_wp2
  go_end0
  exact ⟨⟨_, rfl⟩, .inl ⟨_, rfl, HJ1.out⟩⟩

/-- A vector's items from a place on. -/
theorem from_stops (d : Nat) (w0 : World) (R : VT → Prop) (l : List VT) (p : Value) (i : Int) (h : VC d w0 l p) (hR : ∀ x ∈ l, R x) (hbig : l.length ≤ 1099511627776) : ∃ qs : List (PG d w0 R), qs.map (·.1.1) = fromL l i ∧ ∀ (n Bv Bp : Nat) (w : World), Below w0.heap.size w0 w → Bv < w.heap.size → Bp < w.heap.size → w.cell? ⟨Bv, 0, none⟩ = some p → w.cell? ⟨Bp, 0, none⟩ = some (.int .i64 i) →
    SeqStopsK Fence.wide n Try.prog 56 #[.pointer (some ⟨Bv, 0, none⟩), .pointer (some ⟨Bp, 0, none⟩)] (fun x : PG d w0 R => #[.agg #[.int .i64 x.1.1.kind, .int .i64 x.1.1.num, .string x.1.1.text, x.1.2]]) (Below w0.heap.size) (fun ys => ys = qs) (fun _ => True) qs.length w := by
  by_cases hi : 0 ≤ i ∧ i < (l.length : Int)
  · obtain ⟨fr, rfl⟩ : ∃ fr : Nat, i = (fr : Int) := ⟨i.toNat, by omega⟩
    have hfr : fr < l.length := by omega
    rcases h with ⟨rfl, _⟩ | ⟨b, t, rfl, hc, ht⟩
    · cases hfr
    · obtain ⟨hh, hn, _⟩ : TN d w0 l t := by
        rcases ht with ⟨rfl, _⟩ | ht
        · cases hfr
        · exact ht
      obtain ⟨qs, hq1, hq2⟩ := each_any d w0 R hh false l t hn hR hbig
      have hql : qs.length = l.length := by rw [← hq1, List.length_map]
      refine ⟨qs.drop fr, ?_, fun n Bv Bp w hb hlv hlp hv hp lp J Jx W hW hJ _ hY h0 => ?_⟩
      · unfold fromL
        rw [if_pos hi, List.map_drop, hq1]
        rfl
      · have hJ2 : ∀ s A B, J s A → Below A.heap.size A B → J s B := fun s A B hs hb => hJ s A B none hs ⟨hb.os, hb.tape, hb.output, hb.size, fun k hk _ => hb.block k hk⟩ (fun r e => by cases e)
        refine from1_some d w0 R l b t fr qs hc ht hql hq2 hfr n lp Bv Bp J Jx hJ2 (fun m pre x W1 hj hl => YieldAt.wideDepth m (hY pre x W1 hj (by rw [List.length_drop, hql]; exact hl))) W (hb.trans (hW.mono hb.size)) ((hW.cell (p := ⟨Bv, 0, none⟩) hlv).trans hv) ((hW.cell (p := ⟨Bp, 0, none⟩) hlp).trans hp) h0
  · refine ⟨[], by unfold fromL; rw [if_neg hi]; rfl, fun n Bv Bp w hb hlv hlp hv hp lp J Jx W hW hJ _ hY h0 => ?_⟩
    have hJ2 : ∀ s A B, J s A → Below A.heap.size A B → J s B := fun s A B hs hb => hJ s A B none hs ⟨hb.os, hb.tape, hb.output, hb.size, fun k hk _ => hb.block k hk⟩ (fun r e => by cases e)
    exact from1_none d w0 R l p i h hi n lp Bv Bp J Jx hJ2 W (hb.trans (hW.mono hb.size)) ((hW.cell (p := ⟨Bv, 0, none⟩) hlv).trans hv) ((hW.cell (p := ⟨Bp, 0, none⟩) hlp).trans hp) h0

end Go.Proofs.Ytekoaiehhjgfiaa

namespace Go.Proofs.Ytekoaiehhjgfiaa
open Go.RowKit Go.Shelf

attribute [local go_sem] Oper.semAt_some

theorem infoV : ∃ i0, Try.prog.info? 33 = some i0 ∧ i0.zero = some (.agg #[.int .i64 0, .int .i64 0, .string ⟨#[]⟩, .slice none 0 0]) ∧ i0.size = 4 ∧ i0.bytes = 56 := by
  have h : (Try.prog.info? 33).map (fun i => (i.zero, i.size, i.bytes)) = some (some (.agg #[.int .i64 0, .int .i64 0, .string ⟨#[]⟩, .slice none 0 0]), 4, 56) := by kernel_rfl
  exact info_parts h

/-- append of a zero value behind a row of values, at a step of a region that draws its order. -/
theorem appZ_step {F : Fence} {n : Nat} {w : World} {ops : Array Oper} {o : Oper} {a : Act} {K : Act → World → Prop} {Q : Exit → Act → World → Prop} {E : Prop} (hgd : o.guard = none) (s x : Operand)
    (ho : o.op = .call { callee := .builtin .append, args := #[s, x], argTypes := #[22, 22] })
    (base : Nat) (v : Value) (k : Nat) (xs : List Value) (hs : a.eval s = v) (hown : w.ownsRow base 33 4 v k xs) (B : Nat) (hx : a.eval x = .slice (some ⟨B, 0, none⟩) 1 1) (c0 : w.cell? ⟨B, 0, none⟩ = some (.int .i64 0)) (c1 : w.cell? ⟨B, 1, none⟩ = some (.int .i64 0)) (c2 : w.cell? ⟨B, 2, none⟩ = some (.string ⟨#[]⟩)) (c3 : w.cell? ⟨B, 3, none⟩ = some (.slice none 0 0))
    (hk : k ≤ 65536) (hbase : base ≤ w.heap.size)
    (h : ∀ g cap w', w'.ownsRow base 33 4 (.slice (some ⟨g, 0, none⟩) (k + 1) cap) (k + 1) (xs ++ [.int .i64 0, .int .i64 0, .string ⟨#[]⟩, .slice none 0 0]) → w.grownBy w' v.ownBlock → (v.ownBlock = some g ∨ g = w.heap.size) → g < w'.heap.size → K (a.put o.dst (.slice (some ⟨g, 0, none⟩) (k + 1) cap)) w') :
    if Region.wanted o (yielded ops a.tmps) = true then Oper.wpIn F n Try.prog o a w K Q else E := by
  have hw : Region.wanted o (yielded ops a.tmps) = true := by simp [Region.wanted, hgd]
  rw [if_pos hw]
  obtain ⟨i0, hi, hz0, hz1, hz2⟩ := infoV
  obtain ⟨g, cap, w', hr, r1, r2, r3, r4⟩ := run_append_lies (P := Try.prog) w 22 o.type base 33 i0 _ 4 56 Try.underlying22 hi hz0 hz1 hz2 rfl (by decide) v k xs hown ⟨B, 0, none⟩ 1 1 [.int .i64 0, .int .i64 0, .string ⟨#[]⟩, .slice none 0 0] rfl (fun j u hj => by
    match j, hj with
    | 0, hj => simp at hj; subst hj; simpa [Addr.add] using c0
    | 1, hj => simp at hj; subst hj; simpa [Addr.add] using c1
    | 2, hj => simp at hj; subst hj; simpa [Addr.add] using c2
    | 3, hj => simp at hj; subst hj; simpa [Addr.add] using c3) (fun u hu => by
    simp at hu
    rcases hu with rfl | rfl | rfl <;> rfl) (by decide) (by unfold maxLen; omega) (by omega) hbase _ rfl
  unfold Oper.wpIn
  refine ⟨?_, ?_⟩
  · simp [Oper.about, ho, resolve, Target.leads, Sem.run_pure]
  · rw [Oper.semAt_plain F _ _ (by rw [ho]; intro c hc'; cases hc')]
    simp [execOp, ho, resolve, invoke, builtin, hs, hx, hr, Result.andThen]
    exact h g cap w' r1 r2 r3 r4

/-- The four cells of a value, in a block of their own. -/
def Box4 (W : World) (B : Nat) (t : VT) (u : Value) : Prop := W.heap[B]? = some (.cells #[.int .i64 t.kind, .int .i64 t.num, .string t.text, u] 33 (0, 0))

theorem Box4.lt {W : World} {B : Nat} {t : VT} {u : Value} (h : Box4 W B t u) : B < W.heap.size := (Array.getElem?_eq_some_iff.1 h).1
theorem Box4.cells {W : World} {B : Nat} {t : VT} {u : Value} (h : Box4 W B t u) : W.cell? ⟨B, 0, none⟩ = some (.int .i64 t.kind) ∧ W.cell? ⟨B, 1, none⟩ = some (.int .i64 t.num) ∧ W.cell? ⟨B, 2, none⟩ = some (.string t.text) ∧ W.cell? ⟨B, 3, none⟩ = some u := by
  have h' : W.heap[B]? = some (.cells #[.int .i64 t.kind, .int .i64 t.num, .string t.text, u] 33 (0, 0)) := h
  refine ⟨?_, ?_, ?_, ?_⟩ <;> simp [World.cell?, h']
theorem Box4.kept {W W' : World} {row : Option Nat} {B : Nat} {t : VT} {u : Value} (h : Box4 W B t u) (hg : W.grownBy W' row) (hne : some B ≠ row) : Box4 W' B t u := (hg.block B h.lt hne).trans h

/-- A value laid into a row of one's own, at its end. -/
theorem own_put {w : World} {base g cap k : Nat} {xs : List Value} {t : VT} {u : Value} (h : w.ownsRow base 33 4 (.slice (some ⟨g, 0, none⟩) (k + 1) cap) (k + 1) (xs ++ [.int .i64 0, .int .i64 0, .string ⟨#[]⟩, .slice none 0 0])) (hx : xs.length = k * 4) :
    (w.setCells g (k * 4) (encP (t, u))).ownsRow base 33 4 (.slice (some ⟨g, 0, none⟩) (k + 1) cap) (k + 1) (xs ++ encP (t, u)) := by
  have h1 := ((((h.stored (k * 4) (.int .i64 t.kind)).1.stored (k * 4 + 1) (.int .i64 t.num)).1.stored (k * 4 + 1 + 1) (.string t.text)).1.stored (k * 4 + 1 + 1 + 1) u).1
  have e : ((((xs ++ [Value.int .i64 0, Value.int .i64 0, Value.string ⟨#[]⟩, Value.slice none 0 0]).set (k * 4) (.int .i64 t.kind)).set (k * 4 + 1) (.int .i64 t.num)).set (k * 4 + 1 + 1) (.string t.text)).set (k * 4 + 1 + 1 + 1) u = xs ++ encP (t, u) := by
    rw [← hx, List.set_append_right _ _ (by omega), List.set_append_right _ _ (by omega), List.set_append_right _ _ (by omega), List.set_append_right _ _ (by omega)]
    simp only [Nat.sub_self, show xs.length + 1 - xs.length = 1 by omega, show xs.length + 1 + 1 - xs.length = 2 by omega, show xs.length + 1 + 1 + 1 - xs.length = 3 by omega]
    rfl
  rw [e] at h1
  exact h1

theorem keeps_put (w : World) (g j : Nat) (t : VT) (u : Value) : KeepsOthers w (w.setCells g j (encP (t, u))) :=
  (((KeepsOthers.setCell w ⟨g, j, none⟩ _).trans (KeepsOthers.setCell _ ⟨g, j + 1, none⟩ _)).trans (KeepsOthers.setCell _ ⟨g, j + 1 + 1, none⟩ _)).trans (KeepsOthers.setCell _ ⟨g, j + 1 + 1 + 1, none⟩ _)

theorem below_putAt {n0 : Nat} {w W : World} (h : Below n0 w W) {g : Nat} (hg : n0 ≤ g) (j : Nat) (t : VT) (u : Value) : Below n0 w (W.setCells g j (encP (t, u))) :=
  (((h.setCell (p := ⟨g, j, none⟩) hg _).setCell (p := ⟨g, j + 1, none⟩) hg _).setCell (p := ⟨g, j + 1 + 1, none⟩) hg _).setCell (p := ⟨g, j + 1 + 1 + 1, none⟩) hg _

theorem boxed_cell {W : World} {B : Nat} {t : Nat} {v : Value} (h : Go.Boxed W B t v) {g j : Nat} (hne : g ≠ B) (u : Value) : Go.Boxed (W.setCell ⟨g, j, none⟩ u) B t v := by
  show (W.setCell ⟨g, j, none⟩ u).heap[B]? = _
  rw [heap_setCell_other W ⟨g, j, none⟩ B u (fun e => hne e.symm)]
  exact h

theorem boxed_put {W : World} {B : Nat} {t : Nat} {v : Value} (h : Go.Boxed W B t v) {g j : Nat} (hne : g ≠ B) (x : VT) (u : Value) : Go.Boxed (W.setCells g j (encP (x, u))) B t v :=
  boxed_cell (boxed_cell (boxed_cell (boxed_cell h hne _) hne _) hne _) hne _

/-- The two orders in which the box and the row are written. -/
theorem seq_one {n0 : Nat} {w3 : World} {B g cap k : Nat} {v : Value} {xs : List Value} {t : VT} {u : Value} (hB : n0 ≤ B) (hg : n0 ≤ g) (hne : g ≠ B) (bx : Go.Boxed w3 B 22 v) (hown : w3.ownsRow n0 33 4 (.slice (some ⟨g, 0, none⟩) (k + 1) cap) (k + 1) (xs ++ [.int .i64 0, .int .i64 0, .string ⟨#[]⟩, .slice none 0 0])) (hx : xs.length = k * 4) {Z : World}
    (hZ : Z = (w3.setCells g (k * 4) (encP (t, u))).setCell ⟨B, 0, none⟩ (.slice (some ⟨g, 0, none⟩) (k + 1) cap) ∨ Z = (w3.setCell ⟨B, 0, none⟩ (.slice (some ⟨g, 0, none⟩) (k + 1) cap)).setCells g (k * 4) (encP (t, u))) :
    Go.Boxed Z B 22 (.slice (some ⟨g, 0, none⟩) (k + 1) cap) ∧ Z.ownsRow n0 33 4 (.slice (some ⟨g, 0, none⟩) (k + 1) cap) (k + 1) (xs ++ encP (t, u)) ∧ KeepsOthers w3 Z ∧ Below n0 w3 Z := by
  rcases hZ with rfl | rfl
  · exact ⟨(boxed_put bx hne t u).set _, ownsRow_setCell_other (own_put hown hx) (by simp [Value.ownBlock]; omega) _, (keeps_put _ _ _ _ _).trans (KeepsOthers.setCell _ _ _), (below_putAt (Below.refl _ _) hg _ _ _).setCell (p := ⟨B, 0, none⟩) hB _⟩
  · exact ⟨boxed_put (bx.set _) hne t u, own_put (ownsRow_setCell_other hown (by simp [Value.ownBlock]; omega) _) hx, (KeepsOthers.setCell _ _ _).trans (keeps_put _ _ _ _ _), below_putAt ((Below.refl _ _).setCell (p := ⟨B, 0, none⟩) hB _) hg _ _ _⟩

end Go.Proofs.Ytekoaiehhjgfiaa

