/-
  The contract of Place.
-/
import Derived.Test.YtacnfmamjbmhcaaGreatSorted6
import Derived.Test.YtacnfmamjbmhcaaGreatLook
import Derived.Test.YtacnfmamjbmhcaaGreatClo
namespace Go.Proofs.YtacnfmamjbmhcaaGreat
open Go.RowKit Go.Shelf

theorem right_len_all {t : VT} (hr : rightV 16 t = true) : Len 16 t := by
  have h := hr
  simp only [rightV, Bool.and_eq_true] at h
  exact sm_len 16 t (fw_small 16 t 16 1024 (by omega) (by omega) h.1)

theorem right_rp6 {t : VT} (hr : rightV 16 t = true) : rpV 16 t = true := by
  unfold rightV at hr
  rw [Bool.and_eq_true] at hr
  exact hr.2

theorem rp_txt : ∀ (d : Nat) (t : VT), rpV d t = true → Txt (fun s => s.size ≤ 281474976710656) d t := by
  intro d
  induction d with
  | zero =>
    intro t h
    have := (right_text (d := 0) (t := t) h).1
    show t.text.size ≤ 281474976710656
    omega
  | succ d ih =>
    intro t h
    unfold rpV at h
    rw [Bool.and_eq_true, List.all_eq_true] at h
    have := (right_text h.2).1
    exact ⟨by show t.text.size ≤ 281474976710656; omega, fun x hx => ih x (h.1 x hx)⟩

theorem copy_right (t : VT) (u : Value) (w : World) (hl : Lies 16 w t.items u) (hr : rightV 16 t = true) : Calls Tryz.prog 56 #[.agg #[.int .i64 t.kind, .int .i64 t.num, .string t.text, u]] w (CopyPost 16 t w) :=
  copyOf_any (fun s => s.size ≤ 281474976710656) txt_any 16 t u w hl (rp_txt 16 t (right_rp6 hr)) (right_len_all hr)

/-- make of n values. -/
theorem make_values (n : Nat) (hn : n ≤ 65536) : ∃ M : Array Value, M.size = n * 4 ∧ ∀ W : World, (Instr.makeSlice 22 (.int .i64 (n : Int)) (.int .i64 (n : Int))).run Tryz.prog W = .ok (.slice (some ⟨W.heap.size, 0, none⟩) n n) (W.alloc (.cells M 24)) := by
  obtain ⟨i0, hi, hz0, hz1, hz2⟩ := info24
  refine ⟨madeCells (Value.agg #[.int .i64 0, .int .i64 0, .string ⟨#[]⟩, .slice none 0 0]).cells (((n : Nat) : Int).toNat * i0.size), ?_, fun W => ?_⟩
  · rw [size_madeCells, hz1]; simp
  · have h := run_make (P := Tryz.prog) W 22 24 i0 _ Tryz.underlying22 hi hz0 .i64 .i64 (n : Int) (n : Int) (by omega) (by omega) (by rw [hz2]; omega) (by omega)
    simpa using h

set_option maxHeartbeats 2000000 in
theorem copies_any (ms : List MB) (v : Value) (w : World) (hv : SlM w ms v) (hlen : ms.length ≤ 65536) :
    Calls Tryz.prog 34 #[v] w fun e w' => ∃ v, e = .returned v ∧ LiesB w.heap.size 17 w' (ms.map (·.t)) v ∧ Below w.heap.size w w' := by
  obtain ⟨b1, o1, c, rfl, hc, hrow, hgd⟩ := hv
  have Hr : Hid (RowM w b1 o1 ms) := hrow
  have HG : Hid (∀ p ∈ ms, GoodM w p) := hgd
  clear hrow hgd hc
  obtain ⟨M, hMs, hmk⟩ := make_values ms.length hlen
  have HMs : Hid (M.size = ms.length * 4) := hMs
  clear hMs
  go_enter Tryz.func34, Tryz.ntmps34
  go_wp2_with fail
  go_loopg [11] ms.length (fun q i wr => ∃ (j : Nat) (ps : List (VT × Value)), i = .int .i64 (j : Int) ∧ j ≤ ms.length ∧ q = ms.length - j ∧ Hid (ps.length = j ∧ ps.map (·.1) = (ms.take j).map (·.t)) ∧ Copied w.heap.size ms.length 16 wr ps ∧ Below w.heap.size w wr)
  case atStart =>
    refine ⟨0, [], rfl, by omega, by omega, ⟨rfl, rfl⟩, ⟨(fun i hi => by cases hi), (fun p hp => by cases hp), (fun k hk => ?_), (by simp)⟩, (Below.refl _ _).alloc (Nat.le_refl _) _⟩
    have hk' : k < M.size := by rw [HMs.out]; exact hk
    simp [hk']
  case round =>
    obtain ⟨j, ps, rfl, hj, hk, Hps, hcp, hbw⟩ := hrel
    have Hk : Hid _ := hk
    have HC : Hid (Copied w.heap.size ms.length 16 wr ps) := hcp
    clear hk hcp hmk
    by_cases hlt : j < ms.length
    · obtain ⟨p0, p1, p2, p3, p4⟩ := Hr.out j hlt
      have hgd := HG.out ms[j] (List.getElem_mem hlt)
      have Htk : Hid ((ms.take (j + 1)).map (·.t) = (ms.take j).map (·.t) ++ [ms[j].t]) := by
        show _ = _
        rw [List.take_succ_eq_append_getElem hlt, List.map_append]; rfl
      generalize ms[j] = x at *
      obtain ⟨t, u, m⟩ := x
      obtain ⟨ax, cx, hu, _⟩ := Lies.slice hgd.lies
      simp only at hu p0 p1 p2 p3 p4
      subst hu
      have HGd : Hid (GoodM w ⟨t, .slice ax t.items.length cx, m⟩) := hgd
      clear hgd
      have p0 := cell_keeps hbw p0; have p1 := cell_keeps hbw p1; have p2 := cell_keeps hbw p2; have p3 := cell_keeps hbw p3; have p4 := cell_keeps hbw p4
      have hl1 : b1 < wr.heap.size := cell_lt p0
      have hws2 : w.heap.size ≤ wr.heap.size := hbw.size
      have hG := HC.out.lt
      go_wp2_with fail
      refine (copy_right t _ _ (Lies.keeps (hbw.alloc hws2 _) _ _ _ HGd.out.lies) HGd.out.right).mono ?_
      rintro e w1 ⟨v, rfl, hLB, hg⟩
      have hb2 : Below w.heap.size w w1 := (hbw.alloc hws2 _).trans (hg.mono (by simp; omega))
      have HC1 : Hid (Copied w.heap.size ms.length 16 w1 ps) := (HC.out.keeps ((Below.refl _ _).alloc (Nat.le_refl _) _)).keeps hg
      obtain ⟨av, cv, rfl, _⟩ := LiesB.slice hLB
      have HLB : Hid (LiesB (w.heap.size + 1) 16 w1 t.items (.slice av t.items.length cv)) := LiesB.lower (by simp; omega) _ _ _ hLB
      clear hg p0 p1 p2 p3 p4 hLB HC
      have hpl := Hps.out.1
      obtain ⟨v0, s0⟩ := Option.isSome_iff_exists.1 (HC1.out.there (j * 4) (by omega)).1
      obtain ⟨v1, s1⟩ := Option.isSome_iff_exists.1 (HC1.out.there (j * 4 + 1) (by omega)).1
      obtain ⟨v2, s2⟩ := Option.isSome_iff_exists.1 (HC1.out.there (j * 4 + 2) (by omega)).1
      obtain ⟨v3, s3⟩ := Option.isSome_iff_exists.1 (HC1.out.there (j * 4 + 3) (by omega)).1
      have z0 := (HC1.out.there (j * 4) (by omega)).2
      have z1 := (HC1.out.there (j * 4 + 1) (by omega)).2
      have z2 := (HC1.out.there (j * 4 + 2) (by omega)).2
      have z3 := (HC1.out.there (j * 4 + 3) (by omega)).2
      have hput := HC1.out.put (t, .slice av t.items.length cv) ⟨HLB.out, by have := right_short HGd.out.right; simp only at this ⊢; omega⟩ (by omega)
      rw [hpl] at hput
      have Hput : Hid _ := hput
      clear hput hpl
      go_wp2_with fail
      go_roundg (ms.length - (j + 1))
      case measure => have := Hk.out; omega
      case rel =>
        refine ⟨j + 1, ps ++ [(t, Value.slice av t.items.length cv)], by go_num, by omega, rfl, ?_, Hput.out, ?_⟩
        · refine ⟨by simp [Hps.out.1], ?_⟩
          rw [List.map_append, Hps.out.2, Htk.out]; rfl
        · exact (((hb2.setCell (p := ⟨w.heap.size, j * 4, none⟩) (Nat.le_refl _) _).setCell (p := ⟨w.heap.size, j * 4 + 1, none⟩) (Nat.le_refl _) _).setCell (p := ⟨w.heap.size, j * 4 + 2, none⟩) (Nat.le_refl _) _).setCell (p := ⟨w.heap.size, j * 4 + 3, none⟩) (Nat.le_refl _) _
    · have hjl : j = ms.length := by omega
      have hd := HC.out.done (by have := Hps.out.1; omega) ms.length (by have := Hps.out.1; omega) (by have := Hps.out.1; omega)
      rw [Hps.out.2, Hps.out.1, hjl, List.take_length] at hd
      have Hd : Hid (LiesB w.heap.size 17 wr (ms.map (·.t)) (.slice (some ⟨w.heap.size, 0, none⟩) ms.length ms.length)) := hd
      clear hd hjl HC Hr HG
      go_wp2_with fail
      go_ret
      exact ⟨_, rfl, Hd.out, hbw⟩

/-- Which of two members stands ahead by order q. -/
abbrev cmpMB (q : Nat) (p r : MB) : Int := ordM q p.t r.t p.m r.m

theorem cmpMB_any (q : Nat) (hq : q < 6) : Hid (∀ (p r : MB) (W : World), GoodM W p → GoodM W r → Calls Tryz.prog (cF q) #[.agg #[.int .i64 p.t.kind, .int .i64 p.t.num, .string p.t.text, p.u, .int .u64 p.m], .agg #[.int .i64 r.t.kind, .int .i64 r.t.num, .string r.t.text, r.u, .int .u64 r.m]] W fun e W' => e = .returned (.int .i64 (cmpMB q p r)) ∧ Grew W W') :=
  fun p r W h1 h2 => cmpO_any q hq p.t r.t p.u r.u p.m r.m W h1.lies h2.lies

/-- Values sorted by halves. -/
def ltO (q : Nat) (y x : VT) : Bool := decide (ordV q y x < 0)

/-- A list as Sort tells it. -/
def srtV (q : Nat) (l : List VT) : List VT := srt (ltO q) (l.length + 1) l

theorem srtM_map (q n : Nat) (ms : List MB) (h : ∀ p ∈ ms, p.m = msr q p.t) : (srt (ltG (cmpMB q)) n ms).map (·.t) = srt (ltO q) n (ms.map (·.t)) :=
  srt_map (·.t) _ _ (fun p => p.m = msr q p.t) (fun x y hx hy => by unfold ltG ltO cmpMB ordV; rw [hx, hy]) n ms h

/-- What Sort tells. -/
def SortPost (d : Nat) (o : Int) (l : List VT) (w : World) (e : Ending) (w' : World) : Prop :=
  (lookE d o l ≠ 0 ∧ e = .returned (.tuple #[.slice none 0 0, .int .i64 (lookE d o l)]) ∧ Below w.heap.size w w') ∨
  (lookE d o l = 0 ∧ ∃ v, e = .returned (.tuple #[v, .int .i64 0]) ∧ LiesB w.heap.size 17 w' (srtV o.toNat l) v ∧ Below w.heap.size w w')

theorem look_any (d : Nat) (o : Int) (l : List VT) (u : Value) (w : World) (hu : Lies (d + 1) w l u) :
    Calls Tryz.prog 33 #[.int .i64 o, u] w fun e w' => (lookE d o l ≠ 0 ∧ NonePost (lookE d o l) w e w') ∨ (lookE d o l = 0 ∧ ∃ q : Nat, o = q ∧ q < 6 ∧ l.length ≤ 65536 ∧ (∀ x ∈ l, rightV d x = true) ∧ ∃ v ms, e = .returned (.tuple #[.agg #[fv (mF q), fv (cF q)], v, .int .i64 0]) ∧ SlM w' ms v ∧ ms.map (·.t) = l ∧ (∀ p ∈ ms, p.m = msr q p.t) ∧ Below w.heap.size w w') := by
  by_cases ho : o < 0 ∨ 6 ≤ o
  · have hE : lookE d o l = 4 := by unfold lookE; rw [if_pos ho]
    rw [hE]
    obtain ⟨a, c, rfl, _⟩ := Lies.slice hu
    exact (look_kind o a _ c w ho).mono fun e w' h => .inl ⟨by omega, h⟩
  · obtain ⟨q, rfl⟩ : ∃ q : Nat, o = q := ⟨o.toNat, by omega⟩
    have hE : lookE d q l = listErr d l := by unfold lookE; rw [if_neg ho]
    rw [hE]
    refine (look_some d q (by omega) l u w hu).mono fun e w' h => ?_
    rcases h with h | ⟨h0, v, ms, h⟩
    · exact .inl h
    · exact .inr ⟨h0, q, rfl, by omega, (listErr_zero6 h0).1, (listErr_zero6 h0).2, v, ms, h⟩

set_option maxHeartbeats 2000000 in
theorem sort6_any (d : Nat) (o : Int) (l : List VT) (u : Value) (w : World) (hu : Lies (d + 1) w l u) : Calls Tryz.prog 14 #[.int .i64 o, u] w (SortPost d o l w) := by
  obtain ⟨a, c, rfl, _⟩ := Lies.slice hu
  have HU : Hid (Lies (d + 1) w l (.slice a l.length c)) := hu
  clear hu
  have Hsrt : Hid (∀ (q k : Nat), q < 6 → ∀ (ms : List MB) (v : Value) (W : World), SlM W ms v → ms.length ≤ 65536 → ms.length ≤ k + 1 → Calls Tryz.prog 35 #[v, fv (cF q)] W fun e w' => ∃ v, e = .returned v ∧ SlM w' (srt (ltG (cmpMB q)) (k + 1) ms) v ∧ Below W.heap.size W w') := fun q k hq => sorted6_any (cF q) (cF_enters q hq) (cmpMB q) (cmpMB_any q hq) k
  unfold SortPost
  go_enter Tryz.func14, Tryz.ntmps14
  go_wp2_with fail
  refine (look_any d o l _ _ HU.out).mono ?_
  rintro e w1 (⟨h0, rfl, hb1⟩ | ⟨h0, q, rfl, hq, hll, hrt, v, ms, rfl, hsl, hmt, hmm, hb1⟩)
  · have h0' : (lookE d o l == 0) = false := by simpa using h0
    have H0 : Hid (lookE d o l ≠ 0) := h0
    clear h0
    generalize hE : lookE d o l = E at *
    have HE : Hid (lookE d o l = E) := hE
    clear hE
    have hb2 : Below w.heap.size w (w1.alloc (.cells #[.nilFunc, .nilFunc] 35)) := hb1.alloc hb1.size _
    go_wp2_with fail
    go_ret2
    exact .inl ⟨by rw [HE.out]; exact H0.out, by rw [HE.out]; rfl, hb2⟩
  · have H0 : Hid (lookE d q l = 0) := h0
    clear h0 hrt
    have hb2 : Below w.heap.size w (w1.alloc (.cells #[fv (mF q), fv (cF q)] 35)) := hb1.alloc hb1.size _
    have HS : Hid (SlM (w1.alloc (.cells #[fv (mF q), fv (cF q)] 35)) ms v) := hsl.keeps ((Grew.refl _).alloc _).below
    have Hl : Hid (ms.length = l.length) := by show _ = _; rw [← hmt]; simp
    have Hfin : Hid ((srt (ltG (cmpMB q)) (l.length + 1) ms).map (·.t) = srtV (q : Int).toNat l) := by
      show _ = _
      rw [srtM_map q _ ms hmm, hmt]; rfl
    have Hs : Hid _ := Hsrt.out q l.length hq ms v
    clear Hsrt hsl hmt hmm hb1 HU
    obtain ⟨b, o, c', rfl, _⟩ := HS.out
    generalize mF q = f0 at *
    generalize cF q = f1 at *
    go_wp2_with fail
    refine (Hs.out _ HS.out (by rw [Hl.out]; exact hll) (by rw [Hl.out]; omega)).mono ?_
    rintro e w2 ⟨v2, rfl, hs2, hg2⟩
    have hb3 : Below w.heap.size w w2 := hb2.trans (hg2.mono hb2.size)
    have HS2 : Hid _ := hs2
    clear hs2 hg2 Hs HS hb2
    go_wp2_with fail
    refine (copies_any _ _ _ HS2.out (by rw [srt_len, Hl.out]; exact hll)).mono ?_
    rintro e w3 ⟨v3, rfl, hL3, hg3⟩
    rw [Hfin.out] at hL3
    have hL4 : LiesB w.heap.size 17 w3 (srtV (q : Int).toNat l) v3 := LiesB.lower hb3.size _ _ _ hL3
    have hb4 : Below w.heap.size w w3 := hb3.trans (hg3.mono hb3.size)
    have HL : Hid (LiesB w.heap.size 17 w3 (srtV (q : Int).toNat l) v3) := hL4
    clear hL3 hL4 hg3 HS2 hb3
    go_wp2_with fail
    go_ret2
    exact .inr ⟨H0.out, _, rfl, HL.out, hb4⟩

end Go.Proofs.YtacnfmamjbmhcaaGreat

namespace Go.Proofs.YtacnfmamjbmhcaaGreat
open Go.RowKit Go.Shelf

/-- From index i down no member stands ahead of the one before it. -/
def dnB {α : Type} (g : α → α → Int) (l : List α) : Nat → Bool
  | 0 => true
  | i + 1 => match l[i + 1]?, l[i]? with
    | some y, some x => if g y x < 0 then false else dnB g l i
    | _, _ => true

/-- Is a list sorted? -/
def upB {α : Type} (g : α → α → Int) (l : List α) : Bool := dnB g l (l.length - 1)

theorem dnB_step {α : Type} (g : α → α → Int) (l : List α) (j : Nat) (h : j + 1 < l.length) : dnB g l (j + 1) = if g l[j + 1] (l[j]'(by omega)) < 0 then false else dnB g l j := by
  show (match l[j + 1]?, l[j]? with
    | some y, some x => if g y x < 0 then false else dnB g l j
    | _, _ => true) = _
  rw [List.getElem?_eq_getElem h, List.getElem?_eq_getElem (show j < l.length by omega)]

theorem dnB_map {α β : Type} (f : α → β) (g : α → α → Int) (g' : β → β → Int) (l : List α) (h : ∀ x ∈ l, ∀ y ∈ l, g x y = g' (f x) (f y)) : ∀ i, dnB g l i = dnB g' (l.map f) i := by
  intro i
  induction i with
  | zero => rfl
  | succ i ih =>
    by_cases hi : i + 1 < l.length
    · rw [dnB_step g l i hi, dnB_step g' (l.map f) i (by simpa using hi), List.getElem_map, List.getElem_map, h _ (List.getElem_mem _) _ (List.getElem_mem _), ih]
    · have e1 : l[i + 1]? = none := List.getElem?_eq_none (by omega)
      have e2 : (l.map f)[i + 1]? = none := List.getElem?_eq_none (by simp; omega)
      show (match l[i + 1]?, l[i]? with
        | some y, some x => if g y x < 0 then false else dnB g l i
        | _, _ => true) = (match (l.map f)[i + 1]?, (l.map f)[i]? with
        | some y, some x => if g' y x < 0 then false else dnB g' (l.map f) i
        | _, _ => true)
      rw [e1, e2]

theorem upB_map {α β : Type} (f : α → β) (g : α → α → Int) (g' : β → β → Int) (l : List α) (h : ∀ x ∈ l, ∀ y ∈ l, g x y = g' (f x) (f y)) : upB g l = upB g' (l.map f) := by
  unfold upB
  rw [dnB_map f g g' l h, List.length_map]

set_option maxRecDepth 100000 in
set_option maxHeartbeats 4000000 in
theorem isUp_core (f : Nat) (eg : ∀ args w, (callFunc f args).run Tryz.prog w = .ok (.enter f args) w) (g : MB → MB → Int) (ms : List MB) (v : Value) (w : World) (hv : SlM w ms v) (hlen : ms.length ≤ 65536)
    (hc : Hid (∀ (p r : MB) (W : World), GoodM W p → GoodM W r → Calls Tryz.prog f #[.agg #[.int .i64 p.t.kind, .int .i64 p.t.num, .string p.t.text, p.u, .int .u64 p.m], .agg #[.int .i64 r.t.kind, .int .i64 r.t.num, .string r.t.text, r.u, .int .u64 r.m]] W fun e W' => e = .returned (.int .i64 (g p r)) ∧ Grew W W')) :
    Calls Tryz.prog 36 #[v, fv f] w fun e w' => e = .returned (.bool (upB g ms)) ∧ Below w.heap.size w w' := by
  obtain ⟨b, o, c, rfl, _, hrow, hgd⟩ := hv
  have Hr : Hid (RowM w b o ms) := hrow
  have HG : Hid (∀ p ∈ ms, GoodM w p) := hgd
  clear hrow hgd
  by_cases h0 : ms.length = 0
  · have hU : Hid (upB g ms = true) := by show _ = _; unfold upB; rw [h0]; rfl
    rw [h0]
    clear h0 Hr HG hc
    generalize upB g ms = U at *
    go_enter Tryz.func36, Tryz.ntmps36
    go_wp2_with fail
    go_loopg [5] 1 (fun _ i wr => i = .int .i64 (-1) ∧ wr = w)
    case atStart => exact ⟨rfl, rfl⟩
    case round =>
      obtain ⟨rfl, hwr⟩ := hrel
      rw [hwr]
      clear hwr
      go_wp2_with fail
      go_ret
      exact ⟨by rw [hU.out]; rfl, Below.refl _ _⟩
  · obtain ⟨N, hN⟩ : ∃ N, ms.length = N + 1 := ⟨ms.length - 1, by omega⟩
    have HN : Hid (ms.length = N + 1) := hN
    have HU : Hid (upB g ms = dnB g ms N) := by show _ = _; unfold upB; rw [hN]; rfl
    have hNb : N ≤ 65535 := by omega
    rw [hN]
    generalize upB g ms = U at *
    clear h0 hN
    go_enter Tryz.func36, Tryz.ntmps36
    go_wp2_with fail
    go_loopg [5] N (fun q i wr => ∃ k : Nat, i = .int .i64 (k : Int) ∧ q = k ∧ k ≤ N ∧ Hid (U = dnB g ms k) ∧ Below w.heap.size w wr)
    case atStart => exact ⟨N, by go_num, rfl, Nat.le_refl _, HU, Below.refl _ _⟩
    case round =>
      obtain ⟨k, rfl, hk, hkN, HD, hbw⟩ := hrel
      have Hk : Hid _ := hk
      clear hk HU
      by_cases hpos : 0 < k
      · obtain ⟨j, hkj⟩ : ∃ j, k = j + 1 := ⟨k - 1, by omega⟩
        have Hkj : Hid (k = j + 1) := hkj
        have hl1 : k < ms.length := by have := HN.out; omega
        have hl0 : j < ms.length := by have := HN.out; omega
        obtain ⟨p0, p1, p2, p3, p4⟩ := Hr.out k hl1
        obtain ⟨r0, r1, r2, r3, r4⟩ := Hr.out j hl0
        have gp := HG.out ms[k] (List.getElem_mem hl1)
        have gr := HG.out ms[j] (List.getElem_mem hl0)
        have Hst : Hid (dnB g ms k = if g ms[k] ms[j] < 0 then false else dnB g ms j) := by
          show _ = _
          have := dnB_step g ms j (by omega)
          subst hkj
          exact this
        have hjk : j < k := by omega
        have hwr : IntKind.i64.wrap ((k : Int) - 1) = (j : Int) := by rw [IntKind.wrap_i64]; omega
        have hkN1 : (k : Int) < (N : Int) + 1 := by omega
        have hjN1 : (j : Int) < (N : Int) + 1 := by omega
        have hkN2 : k < N + 1 := by omega
        have hjN2 : j < N + 1 := by omega
        generalize ms[k] = x at *
        generalize ms[j] = y at *
        clear hkj
        obtain ⟨t, u, m⟩ := x
        obtain ⟨s, u2, n⟩ := y
        obtain ⟨ax, lx, cx, hu⟩ := gp.slice
        obtain ⟨ay, ly, cy, hu2⟩ := gr.slice
        simp only at hu hu2 p0 p1 p2 p3 p4 r0 r1 r2 r3 r4
        subst hu hu2
        have HX : Hid (GoodM w ⟨t, .slice ax lx cx, m⟩) := gp
        have HY : Hid (GoodM w ⟨s, .slice ay ly cy, n⟩) := gr
        clear gp gr
        have p0 := cell_keeps hbw p0; have p1 := cell_keeps hbw p1; have p2 := cell_keeps hbw p2; have p3 := cell_keeps hbw p3; have p4 := cell_keeps hbw p4
        have r0 := cell_keeps hbw r0; have r1 := cell_keeps hbw r1; have r2 := cell_keeps hbw r2; have r3 := cell_keeps hbw r3; have r4 := cell_keeps hbw r4
        have hwl := hbw.size
        have hposi : (0 : Int) < (k : Nat) := by omega
        go_wp2_with fail
        go_region_held3 (fun w' => (w'.cell? ⟨b, o + k * 5, none⟩ = some (.int .i64 t.kind) ∧ w'.cell? ⟨b, o + k * 5 + 1, none⟩ = some (.int .i64 t.num) ∧ w'.cell? ⟨b, o + k * 5 + 2, none⟩ = some (.string t.text) ∧ w'.cell? ⟨b, o + k * 5 + 3, none⟩ = some (.slice ax lx cx) ∧ w'.cell? ⟨b, o + k * 5 + 4, none⟩ = some (.int .u64 m)) ∧ (w'.cell? ⟨b, o + j * 5, none⟩ = some (.int .i64 s.kind) ∧ w'.cell? ⟨b, o + j * 5 + 1, none⟩ = some (.int .i64 s.num) ∧ w'.cell? ⟨b, o + j * 5 + 2, none⟩ = some (.string s.text) ∧ w'.cell? ⟨b, o + j * 5 + 3, none⟩ = some (.slice ay ly cy) ∧ w'.cell? ⟨b, o + j * 5 + 4, none⟩ = some (.int .u64 n))) (go_keep)
          (first | (go_at_fn f; refine (hc.out ⟨t, .slice ax lx cx, m⟩ ⟨s, .slice ay ly cy, n⟩ _ (HX.out.keeps hbw.drew) (HY.out.keeps hbw.drew)).mono ?_; rintro e w1 ⟨rfl, hg1⟩; have hb1' : Below wr.heap.size wr w1 := (Below.refl _ _).drew.trans hg1.below; have hb1 : Below w.heap.size w w1 := hbw.trans (hb1'.mono hwl); clear hg1; have p0 := cell_keeps hb1' p0; have p1 := cell_keeps hb1' p1; have p2 := cell_keeps hb1' p2; have p3 := cell_keeps hb1' p3; have p4 := cell_keeps hb1' p4; have r0 := cell_keeps hb1' r0; have r1 := cell_keeps hb1' r1; have r2 := cell_keeps hb1' r2; have r3 := cell_keeps hb1' r3; have r4 := cell_keeps hb1' r4))
        clear p0 p1 p2 p3 p4 r0 r1 r2 r3 r4 hb1'
        generalize g ⟨t, .slice ax lx cx, m⟩ ⟨s, .slice ay ly cy, n⟩ = Z at *
        by_cases hz : Z < 0
        · have hfin : Hid (U = false) := by show _ = _; rw [HD.out, Hst.out, if_pos hz]
          clear Hst HD
          go_wp2_with fail
          go_ret
          exact ⟨by rw [hfin.out]; rfl, hb1⟩
        · have hfin : Hid (U = dnB g ms j) := by show _ = _; rw [HD.out, Hst.out, if_neg hz]
          clear Hst HD
          go_wp2_with fail
          go_roundg j
          case measure => have := Hk.out; omega
          case rel => exact ⟨j, by go_num, rfl, by omega, hfin, hb1⟩
      · have hk0 : k = 0 := by omega
        have hfin : Hid (U = true) := by show _ = _; rw [HD.out, hk0]; rfl
        subst hk0
        clear HD
        go_wp2_with fail
        go_ret
        exact ⟨by rw [hfin.out]; rfl, hbw⟩

end Go.Proofs.YtacnfmamjbmhcaaGreat

namespace Go.Proofs.YtacnfmamjbmhcaaGreat
open Go.RowKit Go.Shelf

/-- The target's box. -/
structure BoxM (W : World) (n : Nat) (t : VT) (u : Value) (m : Int) : Prop where
  c0 : W.cell? ⟨n, 0, none⟩ = some (.int .i64 t.kind)
  c1 : W.cell? ⟨n, 1, none⟩ = some (.int .i64 t.num)
  c2 : W.cell? ⟨n, 2, none⟩ = some (.string t.text)
  c3 : W.cell? ⟨n, 3, none⟩ = some u
  c4 : W.cell? ⟨n, 4, none⟩ = some (.int .u64 m)

theorem BoxM.keeps {W W' : World} {n : Nat} {t : VT} {u : Value} {m : Int} (h : BoxM W n t u m) (hb : Below W.heap.size W W') : BoxM W' n t u m :=
  ⟨cell_keeps hb h.c0, cell_keeps hb h.c1, cell_keeps hb h.c2, cell_keeps hb h.c3, cell_keeps hb h.c4⟩

theorem boxM_alloc (w : World) (t : VT) (u : Value) (m : Int) (ty : Nat) : BoxM (w.alloc (.cells #[.int .i64 t.kind, .int .i64 t.num, .string t.text, u, .int .u64 m] ty)) w.heap.size t u m :=
  ⟨by simp, by simp, by simp, by simp, by simp⟩

set_option maxRecDepth 100000 in
set_option maxHeartbeats 4000000 in
theorem search_core (f : Nat) (eg : ∀ args w, (callFunc f args).run Tryz.prog w = .ok (.enter f args) w) (g : MB → MB → Int) (ms : List MB) (v : Value) (T : MB) (w : World) (hv : SlM w ms v) (hT : GoodM w T) (hlen : ms.length ≤ 65536)
    (K : Nat) (hK : K ≤ ms.length) (hlo : Hid (∀ t (h : t < ms.length), t < K → g ms[t] T < 0)) (hhi : Hid (∀ t (h : t < ms.length), K ≤ t → ¬ g ms[t] T < 0)) (F : Bool) (hF : Hid (F = match ms[K]? with | some x => (g x T == 0) | none => false))
    (hc : Hid (∀ (p r : MB) (W : World), GoodM W p → GoodM W r → Calls Tryz.prog f #[.agg #[.int .i64 p.t.kind, .int .i64 p.t.num, .string p.t.text, p.u, .int .u64 p.m], .agg #[.int .i64 r.t.kind, .int .i64 r.t.num, .string r.t.text, r.u, .int .u64 r.m]] W fun e W' => e = .returned (.int .i64 (g p r)) ∧ Grew W W')) :
    Calls Tryz.prog 37 #[v, .agg #[.int .i64 T.t.kind, .int .i64 T.t.num, .string T.t.text, T.u, .int .u64 T.m], fv f] w fun e w' => e = .returned (.tuple #[.int .i64 K, .bool F]) ∧ Below w.heap.size w w' := by
  obtain ⟨b, o, c, rfl, _, hrow, hgd⟩ := hv
  have Hr : Hid (RowM w b o ms) := hrow
  have HG : Hid (∀ p ∈ ms, GoodM w p) := hgd
  clear hrow hgd
  obtain ⟨s, u2, n⟩ := T
  obtain ⟨ay, ly, cy, hu2⟩ := hT.slice
  simp only at hu2
  subst hu2
  have HT : Hid (GoodM w ⟨s, .slice ay ly cy, n⟩) := hT
  clear hT
  simp only
  have HB0 : Hid (BoxM (w.alloc (.cells #[.int .i64 s.kind, .int .i64 s.num, .string s.text, .slice ay ly cy, .int .u64 n] 43)) w.heap.size s (.slice ay ly cy) n) := boxM_alloc w s _ n _
  go_enter Tryz.func37, Tryz.ntmps37
  go_wp2_with fail
  go_loopg [9, 10] ms.length (fun q i j wr => ∃ a e : Nat, i = .int .i64 (a : Int) ∧ j = .int .i64 (e : Int) ∧ q = e - a ∧ a ≤ K ∧ K ≤ e ∧ e ≤ ms.length ∧ Hid (BoxM wr w.heap.size s (.slice ay ly cy) n) ∧ Below w.heap.size w wr)
  case atStart => exact ⟨0, ms.length, rfl, rfl, by omega, by omega, hK, Nat.le_refl _, HB0, ((Grew.refl _).alloc _).below⟩
  case round =>
    obtain ⟨a, e, rfl, rfl, hq, haK, hKe, hen, HB, hbw⟩ := hrel
    have Hq : Hid _ := hq
    clear hq HB0
    by_cases hlt : a < e
    · obtain ⟨h, hh⟩ : ∃ h, h = (a + e) / 2 := ⟨_, rfl⟩
      have Hh : Hid (h = (a + e) / 2) := hh
      have hl1 : h < ms.length := by omega
      have hlti : (a : Int) < (e : Int) := by omega
      have hd : ((a : Int) + (e : Int)) / 2 = (h : Int) := by omega
      have hhi1 : (h : Int) < (ms.length : Nat) := by omega
      clear hh
      obtain ⟨p0, p1, p2, p3, p4⟩ := Hr.out h hl1
      have gp := HG.out ms[h] (List.getElem_mem hl1)
      have Hlo : Hid (h < K → g ms[h] ⟨s, .slice ay ly cy, n⟩ < 0) := fun hk => hlo.out h hl1 hk
      have Hhi : Hid (K ≤ h → ¬ g ms[h] ⟨s, .slice ay ly cy, n⟩ < 0) := fun hk => by have := hhi.out h hl1 hk; omega
      generalize ms[h] = x at *
      obtain ⟨t, u, m⟩ := x
      obtain ⟨ax, lx, cx, hu⟩ := gp.slice
      simp only at hu p0 p1 p2 p3 p4
      subst hu
      have HX : Hid (GoodM w ⟨t, .slice ax lx cx, m⟩) := gp
      clear gp
      have p0 := cell_keeps hbw p0; have p1 := cell_keeps hbw p1; have p2 := cell_keeps hbw p2; have p3 := cell_keeps hbw p3; have p4 := cell_keeps hbw p4
      obtain ⟨r0, r1, r2, r3, r4⟩ := HB.out
      have hwl := hbw.size
      go_wp2_with fail
      go_region_held3 (fun w' => (w'.cell? ⟨b, o + h * 5, none⟩ = some (.int .i64 t.kind) ∧ w'.cell? ⟨b, o + h * 5 + 1, none⟩ = some (.int .i64 t.num) ∧ w'.cell? ⟨b, o + h * 5 + 2, none⟩ = some (.string t.text) ∧ w'.cell? ⟨b, o + h * 5 + 3, none⟩ = some (.slice ax lx cx) ∧ w'.cell? ⟨b, o + h * 5 + 4, none⟩ = some (.int .u64 m)) ∧ (w'.cell? ⟨w.heap.size, 0, none⟩ = some (.int .i64 s.kind) ∧ w'.cell? ⟨w.heap.size, 1, none⟩ = some (.int .i64 s.num) ∧ w'.cell? ⟨w.heap.size, 2, none⟩ = some (.string s.text) ∧ w'.cell? ⟨w.heap.size, 3, none⟩ = some (.slice ay ly cy) ∧ w'.cell? ⟨w.heap.size, 4, none⟩ = some (.int .u64 n))) (go_keep)
        (first | (go_at_fn f; refine (hc.out ⟨t, .slice ax lx cx, m⟩ ⟨s, .slice ay ly cy, n⟩ _ (HX.out.keeps hbw.drew) (HT.out.keeps hbw.drew)).mono ?_; rintro ee w1 ⟨rfl, hg1⟩; have hb1' : Below wr.heap.size wr w1 := (Below.refl _ _).drew.trans hg1.below; have hb1 : Below w.heap.size w w1 := hbw.trans (hb1'.mono hwl); have HB1 : Hid (BoxM w1 w.heap.size s (.slice ay ly cy) n) := HB.out.keeps hb1'; clear hg1; have p0 := cell_keeps hb1' p0; have p1 := cell_keeps hb1' p1; have p2 := cell_keeps hb1' p2; have p3 := cell_keeps hb1' p3; have p4 := cell_keeps hb1' p4; have r0 := cell_keeps hb1' r0; have r1 := cell_keeps hb1' r1; have r2 := cell_keeps hb1' r2; have r3 := cell_keeps hb1' r3; have r4 := cell_keeps hb1' r4))
      clear p0 p1 p2 p3 p4 r0 r1 r2 r3 r4 hb1' HB
      generalize g ⟨t, .slice ax lx cx, m⟩ ⟨s, .slice ay ly cy, n⟩ = Z at *
      by_cases hz : Z < 0
      · have hhK : h < K := by
          by_cases hk : h < K
          · exact hk
          · have := Hhi.out (by omega); omega
        go_wp2_with fail
        go_roundg (e - (h + 1))
        case measure => have := Hq.out; have := Hh.out; omega
        case rel => exact ⟨h + 1, e, by go_num, rfl, rfl, by omega, hKe, hen, HB1, hb1⟩
      · have hhK : K ≤ h := by
          by_cases hk : h < K
          · exact absurd (Hlo.out hk) hz
          · omega
        go_wp2_with fail
        go_roundg (h - a)
        case measure => have := Hq.out; have := Hh.out; omega
        case rel => exact ⟨a, h, rfl, by go_num, rfl, haK, hhK, by have := Hh.out; omega, HB1, hb1⟩
    · have haK2 : a = K := by omega
      have hnlt : ¬ (a : Int) < (e : Int) := by omega
      subst haK2
      by_cases hend : a < ms.length
      · have hl1 := hend
        have hendi : (a : Int) < (ms.length : Nat) := by omega
        obtain ⟨p0, p1, p2, p3, p4⟩ := Hr.out a hl1
        have gp := HG.out ms[a] (List.getElem_mem hl1)
        have HFx : Hid (F = (g ms[a] ⟨s, .slice ay ly cy, n⟩ == 0)) := by
          show _ = _
          rw [hF.out, List.getElem?_eq_getElem hl1]
        generalize ms[a] = x at *
        obtain ⟨t, u, m⟩ := x
        obtain ⟨ax, lx, cx, hu⟩ := gp.slice
        simp only at hu p0 p1 p2 p3 p4
        subst hu
        have HX : Hid (GoodM w ⟨t, .slice ax lx cx, m⟩) := gp
        clear gp
        have p0 := cell_keeps hbw p0; have p1 := cell_keeps hbw p1; have p2 := cell_keeps hbw p2; have p3 := cell_keeps hbw p3; have p4 := cell_keeps hbw p4
        obtain ⟨r0, r1, r2, r3, r4⟩ := HB.out
        have hwl := hbw.size
        clear hlo hhi hF
        go_wp2_with fail
        go_region_held3 (fun w' => (w'.cell? ⟨b, o + a * 5, none⟩ = some (.int .i64 t.kind) ∧ w'.cell? ⟨b, o + a * 5 + 1, none⟩ = some (.int .i64 t.num) ∧ w'.cell? ⟨b, o + a * 5 + 2, none⟩ = some (.string t.text) ∧ w'.cell? ⟨b, o + a * 5 + 3, none⟩ = some (.slice ax lx cx) ∧ w'.cell? ⟨b, o + a * 5 + 4, none⟩ = some (.int .u64 m)) ∧ (w'.cell? ⟨w.heap.size, 0, none⟩ = some (.int .i64 s.kind) ∧ w'.cell? ⟨w.heap.size, 1, none⟩ = some (.int .i64 s.num) ∧ w'.cell? ⟨w.heap.size, 2, none⟩ = some (.string s.text) ∧ w'.cell? ⟨w.heap.size, 3, none⟩ = some (.slice ay ly cy) ∧ w'.cell? ⟨w.heap.size, 4, none⟩ = some (.int .u64 n))) (go_keep)
          (first | (go_at_fn f; refine (hc.out ⟨t, .slice ax lx cx, m⟩ ⟨s, .slice ay ly cy, n⟩ _ (HX.out.keeps hbw.drew) (HT.out.keeps hbw.drew)).mono ?_; rintro ee w1 ⟨rfl, hg1⟩; have hb1' : Below wr.heap.size wr w1 := (Below.refl _ _).drew.trans hg1.below; have hb1 : Below w.heap.size w w1 := hbw.trans (hb1'.mono hwl); have HB1 : Hid (BoxM w1 w.heap.size s (.slice ay ly cy) n) := HB.out.keeps hb1'; clear hg1; have p0 := cell_keeps hb1' p0; have p1 := cell_keeps hb1' p1; have p2 := cell_keeps hb1' p2; have p3 := cell_keeps hb1' p3; have p4 := cell_keeps hb1' p4; have r0 := cell_keeps hb1' r0; have r1 := cell_keeps hb1' r1; have r2 := cell_keeps hb1' r2; have r3 := cell_keeps hb1' r3; have r4 := cell_keeps hb1' r4))
        clear p0 p1 p2 p3 p4 r0 r1 r2 r3 r4 hb1' HB
        generalize g ⟨t, .slice ax lx cx, m⟩ ⟨s, .slice ay ly cy, n⟩ = Z at *
        go_wp2_with fail
        go_ret2
        exact ⟨by rw [HFx.out]; rfl, hb1⟩
      · have hendi : ¬ (a : Int) < (ms.length : Nat) := by omega
        have HFx : Hid (F = false) := by
          show _ = _
          rw [hF.out, List.getElem?_eq_none (by omega)]
        clear hlo hhi hF hc
        go_wp2_with fail
        go_region
        go_wp2_with fail
        go_ret2
        exact ⟨by rw [HFx.out]; rfl, hbw.drew⟩

end Go.Proofs.YtacnfmamjbmhcaaGreat

namespace Go.Proofs.YtacnfmamjbmhcaaGreat
open Go.RowKit Go.Shelf

/-- How many of the first members stand ahead of a value. -/
def aheadN (q : Nat) (l : List VT) (t : VT) : Nat := (l.takeWhile fun x => decide (ordV q x t < 0)).length

/-- Does the value stand there? -/
def foundB (q : Nat) (l : List VT) (t : VT) : Bool := match l[aheadN q l t]? with | some x => (ordV q x t == 0) | none => false

theorem aheadN_le (q : Nat) (l : List VT) (t : VT) : aheadN q l t ≤ l.length := by
  unfold aheadN
  induction l with
  | nil => exact Nat.le_refl _
  | cons x l ih =>
    rw [List.takeWhile_cons]
    split
    · simpa using ih
    · simp

theorem take_lt {α : Type} (p : α → Bool) : ∀ (l : List α) (i : Nat) (h : i < l.length), i < (l.takeWhile p).length → p l[i] = true := by
  intro l
  induction l with
  | nil => intro i h; cases h
  | cons x l ih =>
    intro i h hi
    cases hx : p x with
    | false => rw [List.takeWhile_cons, hx] at hi; simp at hi
    | true =>
      rw [List.takeWhile_cons, hx] at hi
      cases i with
      | zero => exact hx
      | succ i => exact ih i (by simpa using h) (by simpa using hi)

theorem take_ge {α : Type} (p : α → Bool) : ∀ (l : List α) (h : (l.takeWhile p).length < l.length), p l[(l.takeWhile p).length] = false := by
  intro l
  induction l with
  | nil => intro h; cases h
  | cons x l ih =>
    intro h
    cases hx : p x with
    | false =>
      have e : (x :: l).takeWhile p = [] := by rw [List.takeWhile_cons, hx]; rfl
      simp only [e, List.length_nil, List.getElem_cons_zero]; exact hx
    | true =>
      have e : (x :: l).takeWhile p = x :: l.takeWhile p := by rw [List.takeWhile_cons, hx]; rfl
      simp only [e, List.length_cons, List.getElem_cons_succ]
      exact ih (by rw [e] at h; simpa using h)

theorem ahead_lt (q : Nat) (l : List VT) (t : VT) (i : Nat) (h : i < l.length) (hi : i < aheadN q l t) : ordV q l[i] t < 0 := by
  have := take_lt (fun x => decide (ordV q x t < 0)) l i h hi
  simpa using this

theorem dnB_true {α : Type} {g : α → α → Int} {l : List α} : ∀ {n : Nat}, n < l.length → dnB g l n = true → ∀ i (_ : i + 1 ≤ n) (h2 : i + 1 < l.length), ¬ g l[i + 1] (l[i]'(by omega)) < 0 := by
  intro n
  induction n with
  | zero => intro _ _ i h1; omega
  | succ n ih =>
    intro hn h i h1 h2
    rw [dnB_step g l n hn] at h
    by_cases hz : g l[n + 1] (l[n]'(by omega)) < 0
    · rw [if_pos hz] at h; cases h
    · rw [if_neg hz] at h
      by_cases e : i = n
      · subst e; exact hz
      · exact ih (by omega) h i (by omega) h2

/-- In a sorted list the later stands behind the earlier. -/
theorem up_le {q : Nat} {l : List VT} (hu : upB (ordV q) l = true) : ∀ (k i : Nat) (h : i + k < l.length), ordV q (l[i]'(by omega)) l[i + k] ≤ 0 := by
  intro k
  induction k with
  | zero => intro i h; have := ordV_self q (l[i]'(by omega)); simp only [Nat.add_zero]; omega
  | succ k ih =>
    intro i h
    have h1 := ih i (by omega)
    have h2 := dnB_true (by omega) hu (i + k) (by omega) (by omega)
    have h3 := ordV_turn q (l[i + k]'(by omega)) (l[i + k + 1]'(by omega))
    have := (ordV_goes q _ _ _ h1 (show ordV q (l[i + k]'(by omega)) (l[i + k + 1]'(by omega)) ≤ 0 by omega)).1
    exact this

theorem ahead_ge {q : Nat} {l : List VT} (hu : upB (ordV q) l = true) (t : VT) (i : Nat) (h : i < l.length) (hi : aheadN q l t ≤ i) : ¬ ordV q l[i] t < 0 := by
  have hK : aheadN q l t < l.length := by omega
  have h1 := take_ge (fun x => decide (ordV q x t < 0)) l hK
  have h1' : ¬ ordV q (l[aheadN q l t]'hK) t < 0 := of_decide_eq_false h1
  have h2 := up_le hu (i - aheadN q l t) (aheadN q l t) (by omega)
  have e : aheadN q l t + (i - aheadN q l t) = i := by omega
  simp only [e] at h2
  have h3 := ordV_turn q (l[aheadN q l t]'hK) t
  have h4 := (ordV_goes q t _ _ (show ordV q t (l[aheadN q l t]'hK) ≤ 0 by omega) h2).1
  have h5 := ordV_turn q t l[i]
  omega

/-- The error of Place. -/
def placeE (d : Nat) (o : Int) (l : List VT) (t : VT) : Int := if lookE d o l ≠ 0 then lookE d o l else if rightV d t = true then (if upB (ordV o.toNat) l = true then 0 else 1) else 3
def placeK (d : Nat) (o : Int) (l : List VT) (t : VT) : Int := if placeE d o l t = 0 then aheadN o.toNat l t else 0
def placeF (d : Nat) (o : Int) (l : List VT) (t : VT) : Bool := if placeE d o l t = 0 then foundB o.toNat l t else false

theorem ms_get {ms : List MB} {l : List VT} (h : ms.map (·.t) = l) (i : Nat) (hi : i < ms.length) : ms[i].t = l[i]'(by rw [← h]; simpa using hi) := by
  subst h; simp

set_option maxHeartbeats 4000000 in
theorem place_core (d : Nat) (o : Int) (l : List VT) (u : Value) (t : VT) (x : Value) (w : World) (hu : Lies (d + 1) w l u) (hx : Lies d w t.items x) (ht : t.text.size ≤ 9223372036854775807)
    (E Kz : Int) (F : Bool) (h1 : Hid (lookE d o l ≠ 0 → E = lookE d o l ∧ Kz = 0 ∧ F = false)) (h2 : Hid (lookE d o l = 0 → rightV d t = false → E = 3 ∧ Kz = 0 ∧ F = false)) (h3 : Hid (lookE d o l = 0 → rightV d t = true → upB (ordV o.toNat) l = false → E = 1 ∧ Kz = 0 ∧ F = false))
    (h4 : Hid (lookE d o l = 0 → rightV d t = true → upB (ordV o.toNat) l = true → E = 0 ∧ Kz = aheadN o.toNat l t ∧ F = foundB o.toNat l t)) :
    Calls Tryz.prog 16 #[.int .i64 o, u, .agg #[.int .i64 t.kind, .int .i64 t.num, .string t.text, x]] w fun e w' => e = .returned (.tuple #[.int .i64 Kz, .bool F, .int .i64 E]) ∧ Below w.heap.size w w' := by
  obtain ⟨a, c, rfl, _⟩ := Lies.slice hu
  obtain ⟨ax, cx, rfl, _⟩ := Lies.slice hx
  have HU : Hid (Lies (d + 1) w l (.slice a l.length c)) := hu
  have HX : Hid (Lies d w t.items (.slice ax t.items.length cx)) := hx
  clear hu hx
  have hb0 : Below w.heap.size w (w.alloc (.cells #[.int .i64 t.kind, .int .i64 t.num, .string t.text, .slice ax t.items.length cx] 24)) := ((Grew.refl w).alloc _).below
  have HBx : Hid (Boxed (w.alloc (.cells #[.int .i64 t.kind, .int .i64 t.num, .string t.text, .slice ax t.items.length cx] 24)) w.heap.size t.kind t.num t.text (.slice ax t.items.length cx)) := boxed_alloc w _ _ _ _ _
  go_enter Tryz.func16, Tryz.ntmps16
  go_wp2_with fail
  refine (look_any d o l _ _ (Lies.keeps hb0 _ _ _ HU.out)).mono ?_
  rintro e w1 (⟨h0, rfl, hb1⟩ | ⟨h0, q, rfl, hq, hll, hrt, v, ms, rfl, hsl, hmt, hmm, hb1⟩)
  · obtain ⟨hE, hK, hF⟩ := h1.out h0
    have h0' : (E == 0) = false := by rw [hE]; simpa using h0
    have hb2 : Below w.heap.size w w1 := hb0.trans (hb1.mono hb0.size)
    rw [← hE]
    clear h1 h2 h3 h4 h0 hE HU HX HBx hb0 hb1
    subst hK hF
    go_wp2_with fail
    exact bodyPost_ret (v := .tuple #[.int .i64 0, .bool false, .int .i64 E]) (by simp [results, Tryz.results16, go_sem]) rfl ⟨rfl, hb2.alloc hb2.size _⟩
  · have hb2 : Below w.heap.size w w1 := hb0.trans (hb1.mono hb0.size)
    have HBx1 : Hid (Boxed w1 w.heap.size t.kind t.num t.text (.slice ax t.items.length cx)) := HBx.out.keeps hb1
    clear hb0 hb1 HBx h1
    have H0 : Hid (lookE d q l = 0) := h0
    clear h0
    have Hm : Hid (∀ (W : World), Lies 16 W t.items (.slice ax t.items.length cx) → rightV 16 t = true → Calls Tryz.prog 10 #[.agg #[fv (mF q), fv (cF q)], .agg #[.int .i64 t.kind, .int .i64 t.num, .string t.text, .slice ax t.items.length cx]] W fun e w' => e = .returned (.agg #[.int .i64 t.kind, .int .i64 t.num, .string t.text, .slice ax t.items.length cx, .int .u64 (msr q t)]) ∧ Below W.heap.size W w') := fun W k1 k2 => measured_any q hq t _ W k1 k2
    have Hup : Hid (∀ (W : World), SlM W ms v → Calls Tryz.prog 36 #[v, fv (cF q)] W fun e w' => e = .returned (.bool (upB (ordV q) l)) ∧ Below W.heap.size W w') := fun W k1 => by
      have := isUp_core (cF q) (cF_enters q hq) (cmpMB q) ms v W k1 (by rw [← hmt] at hll; simpa using hll) (cmpMB_any q hq)
      rwa [upB_map (·.t) (cmpMB q) (ordV q) ms (fun p hp r hr => by unfold cmpMB ordV; rw [hmm p hp, hmm r hr]), hmt] at this
    have Hse : Hid (upB (ordV q) l = true → ∀ (W : World), SlM W ms v → GoodM W ⟨t, .slice ax t.items.length cx, msr q t⟩ → Calls Tryz.prog 37 #[v, .agg #[.int .i64 t.kind, .int .i64 t.num, .string t.text, .slice ax t.items.length cx, .int .u64 (msr q t)], fv (cF q)] W fun e w' => e = .returned (.tuple #[.int .i64 (aheadN q l t), .bool (foundB q l t)]) ∧ Below W.heap.size W w') := fun hup W k1 k2 => by
      have hlen2 : ms.length = l.length := by rw [← hmt]; simp
      have hg : ∀ i (hi : i < ms.length), cmpMB q ms[i] ⟨t, .slice ax t.items.length cx, msr q t⟩ = ordV q (l[i]'(by omega)) t := fun i hi => by
        unfold cmpMB ordV
        rw [hmm _ (List.getElem_mem hi), ms_get hmt i hi]
      refine search_core (cF q) (cF_enters q hq) (cmpMB q) ms v ⟨t, .slice ax t.items.length cx, msr q t⟩ W k1 k2 (by omega) (aheadN q l t) (by rw [hlen2]; exact aheadN_le q l t) (fun i hi hik => ?_) (fun i hi hik => ?_) (foundB q l t) ?_ (cmpMB_any q hq)
      · rw [hg i hi]; exact ahead_lt q l t i (by omega) hik
      · rw [hg i hi]; exact ahead_ge hup t i (by omega) hik
      · show _ = _
        unfold foundB
        by_cases hi : aheadN q l t < ms.length
        · rw [List.getElem?_eq_getElem hi, List.getElem?_eq_getElem (by omega)]
          simp only
          rw [hg _ hi]
        · rw [List.getElem?_eq_none (by omega), List.getElem?_eq_none (by omega)]
    have HS : Hid (SlM (w1.alloc (.cells #[fv (mF q), fv (cF q)] 35)) ms v) := hsl.keeps ((Grew.refl _).alloc _).below
    have hb3 : Below w.heap.size w (w1.alloc (.cells #[fv (mF q), fv (cF q)] 35)) := hb2.alloc hb2.size _
    have HR : Hid ((w1.alloc (.cells #[fv (mF q), fv (cF q)] 35)).cell? ⟨w1.heap.size, 0, none⟩ = some (fv (mF q)) ∧ (w1.alloc (.cells #[fv (mF q), fv (cF q)] 35)).cell? ⟨w1.heap.size, 1, none⟩ = some (fv (cF q))) := ⟨by simp, by simp⟩
    have HBx2 : Hid (Boxed (w1.alloc (.cells #[fv (mF q), fv (cF q)] 35)) w.heap.size t.kind t.num t.text (.slice ax t.items.length cx)) := HBx1.out.keeps ((Grew.refl _).alloc _).below
    obtain ⟨x0, x1, x2, x3⟩ := HBx2.out
    have Hq1 : Hid ((q : Int).toNat = q) := by show _ = _; simp
    clear hmm hmt hsl hrt hb2 HBx1
    obtain ⟨bs, os, cs, rfl, _⟩ := HS.out
    have hcm : cF q = cF q := rfl
    clear hcm
    generalize mF q = f0 at *
    generalize cF q = f1 at *
    go_wp2_with fail
    refine (check_any d t _ _ (Lies.keeps hb3 _ _ _ HX.out) ht).mono ?_
    rintro e w2 ⟨rfl, hb⟩
    have hb4 : Below w.heap.size w w2 := hb3.trans (hb.mono hb3.size)
    have HS2 : Hid (SlM w2 ms (.slice (some ⟨bs, os, none⟩) ms.length cs)) := HS.out.keeps hb
    have HR2 : Hid (w2.cell? ⟨w1.heap.size, 0, none⟩ = some (fv f0) ∧ w2.cell? ⟨w1.heap.size, 1, none⟩ = some (fv f1)) := ⟨cell_keeps hb HR.out.1, cell_keeps hb HR.out.2⟩
    have HBx3 : Hid (Boxed w2 w.heap.size t.kind t.num t.text (.slice ax t.items.length cx)) := HBx2.out.keeps hb
    clear hb hb3 HS HR HBx2 x0 x1 x2 x3 HU
    generalize w1.heap.size = B at *
    cases hr : rightV d t
    · obtain ⟨hE, hK, hF⟩ := h2.out H0.out hr
      have he : errOf false = 3 := rfl
      rw [he]
      subst hE hK hF
      clear h2 h3 h4 he hr HX
      go_wp2_with fail
      exact bodyPost_ret (v := .tuple #[.int .i64 0, .bool false, .int .i64 3]) (by simp [results, Tryz.results16, go_sem]) rfl ⟨rfl, hb4⟩
    · have he : errOf true = 0 := rfl
      rw [he]
      have hcn := canon HX.out hr
      have HC : Hid (Lies 16 w t.items (.slice ax t.items.length cx) ∧ rightV 16 t = true) := hcn
      have H3 : Hid (upB (ordV q) l = false → E = 1 ∧ Kz = 0 ∧ F = false) := fun k => h3.out H0.out hr (by rw [Hq1.out]; exact k)
      have H4 : Hid (upB (ordV q) l = true → E = 0 ∧ Kz = aheadN q l t ∧ F = foundB q l t) := fun k => by
        have := h4.out H0.out hr (by rw [Hq1.out]; exact k)
        rwa [Hq1.out] at this
      clear he hr hcn HX h2 h3 h4 H0 Hq1
      obtain ⟨g0, g1⟩ := HR2.out
      go_wp2_with fail
      refine (Hup.out _ HS2.out).mono ?_
      rintro e w3 ⟨rfl, hb⟩
      have hb5' : Below w.heap.size w w3 := hb4.trans (hb.mono hb4.size)
      have hb5 : Below w.heap.size w w3.drew := hb5'.drew
      have HS3 : Hid (SlM w3.drew ms (.slice (some ⟨bs, os, none⟩) ms.length cs)) := (HS2.out.keeps hb).keeps (Grew.refl _).drew.below
      have HR3 : Hid (w3.drew.cell? ⟨B, 0, none⟩ = some (fv f0) ∧ w3.drew.cell? ⟨B, 1, none⟩ = some (fv f1)) := ⟨cell_keeps (Grew.refl _).drew.below (cell_keeps hb g0), cell_keeps (Grew.refl _).drew.below (cell_keeps hb g1)⟩
      have HBx4 : Hid (Boxed w3.drew w.heap.size t.kind t.num t.text (.slice ax t.items.length cx)) := (HBx3.out.keeps hb).keeps (Grew.refl _).drew.below
      clear hb hb4 HS2 HR2 HBx3 g0 g1 Hup
      cases hup : upB (ordV q) l
      · obtain ⟨hE, hK, hF⟩ := H3.out hup
        subst hE hK hF
        clear H3 H4 hup Hse HC
        go_wp2_with fail
        exact bodyPost_ret (v := .tuple #[.int .i64 0, .bool false, .int .i64 1]) (by simp [results, Tryz.results16, go_sem]) rfl ⟨rfl, hb5'⟩
      · obtain ⟨hE, hK, hF⟩ := H4.out hup
        have Hs : Hid _ := Hse.out hup
        generalize aheadN q l t = A at *
        generalize foundB q l t = Fd at *
        generalize msr q t = mz at *
        subst hE hK hF
        clear H3 H4 hup Hse hb5'
        obtain ⟨g0, g1⟩ := HR3.out
        obtain ⟨x0, x1, x2, x3⟩ := HBx4.out
        go_wp2_with fail
        go_region_held3 (fun w' => w'.cell? ⟨B, 0, none⟩ = some (fv f0) ∧ w'.cell? ⟨B, 1, none⟩ = some (fv f1) ∧ w'.cell? ⟨w.heap.size, 0, none⟩ = some (.int .i64 t.kind) ∧ w'.cell? ⟨w.heap.size, 1, none⟩ = some (.int .i64 t.num) ∧ w'.cell? ⟨w.heap.size, 2, none⟩ = some (.string t.text) ∧ w'.cell? ⟨w.heap.size, 3, none⟩ = some (.slice ax t.items.length cx)) (go_keep)
          (first
            | (go_at_call 37; refine (Hs.out _ HS5.out ⟨Lies.keeps hb6 _ _ _ HC.out.1, HC.out.2⟩).mono ?_; rintro e w5 ⟨rfl, hg5⟩; have hb7 : Below w.heap.size w w5 := hb6.trans (hg5.mono hb6.size); have g0 := cell_keeps hg5 g0; have g1 := cell_keeps hg5 g1; have x0 := cell_keeps hg5 x0; have x1 := cell_keeps hg5 x1; have x2 := cell_keeps hg5 x2; have x3 := cell_keeps hg5 x3; clear hg5)
            | (go_at_call 10; refine (Hm.out _ (Lies.keeps hb5 _ _ _ HC.out.1) HC.out.2).mono ?_; rintro e w4 ⟨rfl, hg4⟩; have hb6 : Below w.heap.size w w4 := hb5.trans (hg4.mono hb5.size); have HS5 : Hid (SlM w4 ms (.slice (some ⟨bs, os, none⟩) ms.length cs)) := HS3.out.keeps hg4; have g0 := cell_keeps hg4 g0; have g1 := cell_keeps hg4 g1; have x0 := cell_keeps hg4 x0; have x1 := cell_keeps hg4 x1; have x2 := cell_keeps hg4 x2; have x3 := cell_keeps hg4 x3; clear hg4))
        go_wp2_with fail
        exact bodyPost_ret (v := .tuple #[.int .i64 A, .bool F, .int .i64 0]) (by simp [results, Tryz.results16, go_sem]) rfl ⟨rfl, hb7⟩

theorem place_any (d : Nat) (o : Int) (l : List VT) (u : Value) (t : VT) (x : Value) (w : World) (hu : Lies (d + 1) w l u) (hx : Lies d w t.items x) (ht : t.text.size ≤ 9223372036854775807) :
    Calls Tryz.prog 16 #[.int .i64 o, u, .agg #[.int .i64 t.kind, .int .i64 t.num, .string t.text, x]] w fun e w' => e = .returned (.tuple #[.int .i64 (placeK d o l t), .bool (placeF d o l t), .int .i64 (placeE d o l t)]) ∧ Below w.heap.size w w' := by
  refine place_core d o l u t x w hu hx ht _ _ _ (fun h => ?_) (fun h hr => ?_) (fun h hr hup => ?_) (fun h hr hup => ?_)
  · have e : placeE d o l t = lookE d o l := by unfold placeE; rw [if_pos h]
    exact ⟨e, by unfold placeK; rw [if_neg (by rw [e]; exact h)], by unfold placeF; rw [if_neg (by rw [e]; exact h)]⟩
  · have e : placeE d o l t = 3 := by unfold placeE; rw [if_neg (fun k => k h), hr]; rfl
    exact ⟨e, by unfold placeK; rw [if_neg (by omega)], by unfold placeF; rw [if_neg (by omega)]⟩
  · have e : placeE d o l t = 1 := by unfold placeE; rw [if_neg (fun k => k h), if_pos hr, hup]; rfl
    exact ⟨e, by unfold placeK; rw [if_neg (by omega)], by unfold placeF; rw [if_neg (by omega)]⟩
  · have e : placeE d o l t = 0 := by unfold placeE; rw [if_neg (fun k => k h), if_pos hr, if_pos hup]
    exact ⟨e, by unfold placeK; rw [if_pos e], by unfold placeF; rw [if_pos e]⟩

end Go.Proofs.YtacnfmamjbmhcaaGreat

