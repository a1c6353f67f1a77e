/-
  The contracts of the document's sum and conj.
-/
import Derived.Test.YtacnfmamjbmhcaaRDone
import Derived.Test.YtacnfmamjbmhcaaTwo3
namespace Go.Proofs.Ytacnfmamjbmhcaa
open Go.RowKit

set_option maxHeartbeats 1000000 in
theorem rsum_any (X : Nat → Prop) (t s : VT) (a a2 : Option Addr) (l c l2 c2 : Nat) (w : World) (h : LiesX X 16 w t.items (.slice a l c)) : Calls Try.prog 65 #[.agg #[.int .i64 t.kind, .int .i64 t.num, .string t.text, .slice a l c], .agg #[.int .i64 s.kind, .int .i64 s.num, .string s.text, .slice a2 l2 c2]] w (FnPost X (addT t s) w) := by
  have HL : Hid (LiesX X 16 w t.items (.slice a l c)) := h
  clear h
  cases hk : (t.kind == 2)
  · have e : addT t s = t := by unfold addT; rw [if_neg (fun h => by simp [h.1] at hk)]
    rw [e]
    clear e
    go_enter Try.func65, Try.ntmps65
    go_wp2_with (go_at_call 36; refine (r5int_any _ _).mono ?_; rintro e w' ⟨rfl, rfl⟩)
    exact bodyPost_ret (v := .agg #[.int .i64 t.kind, .int .i64 t.num, .string t.text, .slice a l c]) (by simp [results, Try.results65, go_sem]) rfl (fnPost_same HL.out (grew3 _ _ _ _))
  · cases hk2 : (s.kind == 2)
    · have e : addT t s = t := by unfold addT; rw [if_neg (fun h => by simp [h.2] at hk2)]
      rw [e]
      clear e
      go_enter Try.func65, Try.ntmps65
      go_wp2_with (go_at_call 36; refine (r5int_any _ _).mono ?_; rintro e w' ⟨rfl, rfl⟩)
      exact bodyPost_ret (v := .agg #[.int .i64 t.kind, .int .i64 t.num, .string t.text, .slice a l c]) (by simp [results, Try.results65, go_sem]) rfl (fnPost_same HL.out (grew3 _ _ _ _))
    · have e : addT t s = intT (addI t.num s.num) := by unfold addT; rw [if_pos ⟨by simpa using hk, by simpa using hk2⟩]
      rw [e]
      clear e
      go_enter Try.func65, Try.ntmps65
      go_wp2_with (go_at_call 36; refine (r5int_any _ _).mono ?_; rintro e w' ⟨rfl, rfl⟩)
      exact bodyPost_ret (v := .agg #[.int .i64 2, .int .i64 (addI t.num s.num), .string ⟨#[]⟩, .slice none 0 0]) (by simp [results, Try.results65, go_sem, addI]) rfl (fnPost_int (grew4 _ _ _ _ _))

def conj4 (w : World) (t s : VT) (u v : Value) : World := (two3 w t s u v).alloc (.cells #[.int .i64 4, .int .i64 0, .string ⟨#[]⟩, .slice none 0 0] 24)

theorem conj4_size (w : World) (t s : VT) (u v : Value) : (conj4 w t s u v).heap.size = w.heap.size + 4 := by unfold conj4; rw [World.size_alloc, two3_size]
theorem conj4_var (w : World) (t s : VT) (u v : Value) : Bx (conj4 w t s u v) (w.heap.size + 3) ⟨4, 0, ⟨#[]⟩, []⟩ (.slice none 0 0) := by
  have := bx_alloc (two3 w t s u v) ⟨4, 0, ⟨#[]⟩, []⟩ (.slice none 0 0)
  rwa [two3_size] at this

/-- What stands while the document's list is made: the boxes, the result, the variable as it was, the row so far. -/
structure Making (w W : World) (t s : VT) (u v xo x : Value) (n : Nat) (xs : List Value) : Prop where
  one : Bx W w.heap.size t u
  two : Bx W (w.heap.size + 1) s v
  res : Bx W (w.heap.size + 2) zeroT (.slice none 0 0)
  var : Bx W (w.heap.size + 3) ⟨4, 0, ⟨#[]⟩, []⟩ xo
  own : W.ownsRow (w.heap.size + 4) 24 4 x n xs
  below : Below w.heap.size w W

theorem Bx.keepB {M : Nat} {W W' : World} {n : Nat} {t : VT} {u : Value} (h : Bx W n t u) (hb : Below M W W') (hn : n < M) : Bx W' n t u :=
  ⟨(hb.cell (p := ⟨n, 0, none⟩) hn).trans h.c0, (hb.cell (p := ⟨n, 1, none⟩) hn).trans h.c1, (hb.cell (p := ⟨n, 2, none⟩) hn).trans h.c2, (hb.cell (p := ⟨n, 3, none⟩) hn).trans h.c3, (hb.frozen (p := ⟨n, 0, none⟩) hn).trans h.f0, (hb.frozen (p := ⟨n, 1, none⟩) hn).trans h.f1, (hb.frozen (p := ⟨n, 2, none⟩) hn).trans h.f2, (hb.frozen (p := ⟨n, 3, none⟩) hn).trans h.f3⟩

theorem one_cell (W : World) (g o : Nat) (v : Value) : W.setCell ⟨g, o, none⟩ v = W.setCells g o [v] := rfl

theorem Bx.set3 {W : World} {n : Nat} {t : VT} {u : Value} (h : Bx W n t u) (v : Value) : Bx (W.setCell ⟨n, 3, none⟩ v) n t v := by
  rw [one_cell]
  have hin := World.cell?_setCells_in n [v] 3 W (fun j hj => by
    have : j = 0 := by simp at hj; omega
    subst this
    rw [h.c3]; rfl) 0 (by simp)
  refine ⟨?_, ?_, ?_, by simpa using hin, by rw [World.frozen?_setCells]; exact h.f0, by rw [World.frozen?_setCells]; exact h.f1, by rw [World.frozen?_setCells]; exact h.f2, by rw [World.frozen?_setCells]; exact h.f3⟩
  · rw [World.cell?_setCells_out n [v] 3 W ⟨n, 0, none⟩ (fun _ _ => .inl (by simp))]; exact h.c0
  · rw [World.cell?_setCells_out n [v] 3 W ⟨n, 1, none⟩ (fun _ _ => .inl (by simp))]; exact h.c1
  · rw [World.cell?_setCells_out n [v] 3 W ⟨n, 2, none⟩ (fun _ _ => .inl (by simp))]; exact h.c2

theorem Bx.other3 {W : World} {n g : Nat} {t : VT} {u : Value} (h : Bx W n t u) (hg : n ≠ g) (v : Value) : Bx (W.setCell ⟨g, 3, none⟩ v) n t u := by
  rw [one_cell]
  exact ⟨cell_other hg h.c0, cell_other hg h.c1, cell_other hg h.c2, cell_other hg h.c3, by rw [World.frozen?_setCells]; exact h.f0, by rw [World.frozen?_setCells]; exact h.f1, by rw [World.frozen?_setCells]; exact h.f2, by rw [World.frozen?_setCells]; exact h.f3⟩

theorem LiesX.set3 {X : Nat → Prop} {w : World} {g : Nat} {v' : Value} (hX : ¬ X g) {d : Nat} {l : List VT} {v : Value} (h : LiesX X d w l v) : LiesX X d (w.setCell ⟨g, 3, none⟩ v') l v := by
  rw [one_cell]; exact h.set hX

theorem liesX_of_row {X : Nat → Prop} {d : Nat} {w : World} {b o c : Nat} {ps : List (VT × Value)} (h : RowAt w b o ps) (hX : X b) (hs : ∀ p ∈ ps, LiesX X d w p.1.items p.2 ∧ p.1.text.size ≤ 9223372036854775807) (hl : ps.length ≤ 9223372036854775807) (hc : ps.length ≤ c) :
    LiesX X (d + 1) w (ps.map (·.1)) (.slice (some ⟨b, o, none⟩) ps.length c) := by
  refine ⟨some ⟨b, o, none⟩, c, by simp, by simp; omega, fun _ => ⟨b, o, rfl, hX, fun i hi => ?_⟩⟩
  have hi' : i < ps.length := by simpa using hi
  obtain ⟨k0, k1, k2, k3⟩ := h i hi'
  have hsd := hs ps[i] (List.getElem_mem hi')
  simp only [List.getElem_map]
  exact ⟨_, k0, k1, k2, k3, hsd.1, hsd.2⟩

/-- A list's row: each element in blocks of X. -/
theorem LiesX.rowX {X : Nat → Prop} {d : Nat} {w : World} {l : List VT} {v : Value} (h : LiesX X (d + 1) w l v) {b o : Nat} {ps : List (VT × Value)} (hps : ps.map (·.1) = l) (hrow : RowAt w b o ps) (hv : ∃ n c, v = .slice (some ⟨b, o, none⟩) n c) : ∀ p ∈ ps, LiesX X d w p.1.items p.2 := by
  intro p hp
  obtain ⟨i, hi, rfl⟩ := List.getElem_of_mem hp
  obtain ⟨a, c, hv', _, hr⟩ := h
  have hll : ps.length = l.length := by rw [← hps, List.length_map]
  have hli : i < l.length := by omega
  obtain ⟨b', o', ha, _, hall⟩ := hr (by intro e; rw [e] at hli; cases hli)
  obtain ⟨n, c', hv⟩ := hv
  rw [hv] at hv'
  injection hv' with h1
  rw [ha] at h1
  injection h1 with h1
  injection h1 with hb ho
  subst hb ho
  obtain ⟨u, _, _, _, h3, h4, _⟩ := hall i hli
  have k3 := (hrow i hi).2.2.2
  rw [k3] at h3
  injection h3 with h3
  have e : l[i] = ps[i].1 := by
    subst hps
    simp
  rw [e] at h4
  rw [h3]; exact h4

theorem own_blk {W : World} {M : Nat} {x : Value} {n : Nat} {xs : List Value} (h : W.ownsRow M 24 4 x n xs) : ∀ k, x.ownBlock = some k → M ≤ k := by
  intro k hk
  rcases h.2 with ⟨hv, _⟩ | ⟨g, cap', cur, hv, hbs, _⟩
  · rw [hv] at hk; cases hk
  · rw [hv] at hk
    simp only [Value.ownBlock, Option.some.injEq] at hk
    omega

theorem row_one {W : World} {b : Nat} {s : VT} {v : Value} (h : Bx W b s v) : RowAt W b 0 [(s, v)] := by
  intro i hi
  have : i = 0 := by simp at hi; omega
  subst this
  exact ⟨h.c0, h.c1, h.c2, h.c3⟩

theorem own_set3 {W : World} {M g : Nat} {x v : Value} {n : Nat} {xs : List Value} (h : W.ownsRow M 24 4 x n xs) (hg : g < M) : (W.setCell ⟨g, 3, none⟩ v).ownsRow M 24 4 x n xs := by
  refine ⟨h.1, ?_⟩
  rcases h.2 with hn | ⟨k, cap, cur, hv, hbs, hk, rest⟩
  · exact .inl hn
  · refine .inr ⟨k, cap, cur, hv, hbs, ?_, rest⟩
    unfold World.setCell
    simp only [Array.getElem?_modify]
    rw [if_neg (by show ¬ g = k; omega)]
    exact hk

set_option maxHeartbeats 8000000 in
set_option maxRecDepth 100000 in
theorem rconj_any (X : Nat → Prop) (t s : VT) (a a2 : Option Addr) (l c l2 c2 : Nat) (w : World) (h : LiesX X 16 w t.items (.slice a l c)) (h2 : LiesX X 16 w s.items (.slice a2 l2 c2)) (hr : rightV 16 t = true) (hr2 : rightV 16 s = true) : Calls Try.prog 67 #[.agg #[.int .i64 t.kind, .int .i64 t.num, .string t.text, .slice a l c], .agg #[.int .i64 s.kind, .int .i64 s.num, .string s.text, .slice a2 l2 c2]] w (FnPost X (conjT t s) w) := by
  obtain ⟨i0, hi, hz0, hz1, hz2⟩ := info24
  have Hi : Hid _ := hi; have Hz0 : Hid _ := hz0; have Hz1 : Hid _ := hz1; have Hz2 : Hid _ := hz2
  clear hi hz0 hz1 hz2
  have hd := Dp.of_lies 16 w t _ h.lies
  have hd2 := Dp.of_lies 16 w s _ h2.lies
  have hsz := right_size hr2
  have hle := right_len hr
  have HDp : Hid (∀ x ∈ conjL t s, Dp 16 x) := fun x hx => (conjL_right hr hd hr2 hd2 x hx).2
  have HW : Hid (rightV 17 (listT (conjL t s)) = (fw 17 (listT (conjL t s)) 16 1024).1) := list_right (conjL t s) (fun x hx => (conjL_right hr hd hr2 hd2 x hx).1)
  have HLt : Hid (LiesX X 16 w t.items (.slice a l c)) := h
  have HSs : Hid (LiesX (fun b => X b ∧ b < w.heap.size) 16 w s.items (.slice a2 l2 c2) ∧ s.text.size ≤ 9223372036854775807) := ⟨h2.both, by omega⟩
  have HSo2 : Hid (Sound 16 w (s, Value.slice a2 l2 c2)) := ⟨h2.lies, by show s.text.size ≤ _; omega⟩
  cases hk : (t.kind == 4)
  · have k4 : ¬ t.kind = 4 := by simpa using hk
    obtain ⟨ps, hps⟩ : ∃ ps : List (VT × Value), ps = [] := ⟨[], rfl⟩
    have hlen : ps.length ≤ 1024 := by rw [hps]; simp
    have HSx : Hid (∀ q ∈ ps, LiesX (fun b => X b ∧ b < w.heap.size) 16 w q.1.items q.2 ∧ q.1.text.size ≤ 9223372036854775807) := fun q hq => by rw [hps] at hq; cases hq
    have HCL : Hid ((ps ++ [(s, Value.slice a2 l2 c2)]).map (·.1) = conjL t s) := by show _ = _; unfold conjL; rw [hps, if_neg k4]; rfl
    have HFl : Hid ((ps ++ [(s, Value.slice a2 l2 c2)]).flatMap encP = ps.flatMap encP ++ encP (s, Value.slice a2 l2 c2)) := by show _ = _; rw [List.flatMap_append]; simp
    have HLl : Hid ((ps ++ [(s, Value.slice a2 l2 c2)]).length = ps.length + 1) := by show _ = _; simp
    have HMk : Hid (Making w ((conj4 w t s (.slice a l c) (.slice a2 l2 c2)).alloc (.cells #[.int .i64 s.kind, .int .i64 s.num, .string s.text, .slice a2 l2 c2] 24)) t s (.slice a l c) (.slice a2 l2 c2) (.slice none 0 0) (.slice none 0 0) 0 []) :=
      ⟨((two3_first _ _ _ _ _).keeps (Grew.two _ _ _).below), ((two3_second _ _ _ _ _).keeps (Grew.two _ _ _).below), ((two3_res _ _ _ _ _).keeps (Grew.two _ _ _).below), (conj4_var _ _ _ _ _).keeps ((Grew.refl _).alloc _).below, World.ownsRow_nil _ _ _ _, grew5 _ _ _ _ _ _⟩
    have HOw : Hid (((conj4 w t s (.slice a l c) (.slice a2 l2 c2)).alloc (.cells #[.int .i64 s.kind, .int .i64 s.num, .string s.text, .slice a2 l2 c2] 24)).ownsRow (w.heap.size + 4) 24 4 (.slice none 0 0) ps.length (ps.flatMap encP)) := by rw [hps]; exact World.ownsRow_nil _ _ _ _
    have Hsz : Hid (w.heap.size + 4 ≤ ((conj4 w t s (.slice a l c) (.slice a2 l2 c2)).alloc (.cells #[.int .i64 s.kind, .int .i64 s.num, .string s.text, .slice a2 l2 c2] 24)).heap.size) := by show _ ≤ _; rw [World.size_alloc, conj4_size]; omega
    have HRow : Hid (RowAt ((conj4 w t s (.slice a l c) (.slice a2 l2 c2)).alloc (.cells #[.int .i64 s.kind, .int .i64 s.num, .string s.text, .slice a2 l2 c2] 24)) (w.heap.size + 1 + 1 + 1 + 1) 0 [(s, Value.slice a2 l2 c2)]) := by
      have hh := bx_alloc (conj4 w t s (.slice a l c) (.slice a2 l2 c2)) s (.slice a2 l2 c2)
      rw [conj4_size] at hh
      exact row_one hh
    clear h h2 hr hr2 hd hd2 hsz hle k4 hps
    go_enter Try.func67, Try.ntmps67
    go_wp2_with (first
      | (at_builtin; refine wpList_append_own _ rfl _ _ 22 rfl (w.heap.size + 4) 24 i0 (.agg #[.int .i64 0, .int .i64 0, .string ⟨#[]⟩, .slice none 0 0]) 4 56 Try.underlying22 Hi.out Hz0.out Hz1.out Hz2.out rfl (by decide) _ _ _ rfl HOw.out ⟨w.heap.size + 1 + 1 + 1 + 1, 0, none⟩ 1 1 (encP (s, Value.slice a2 l2 c2)) rfl rfl ?c1 ?c2 ?c3 ?c4 ?c5 ?_))
    case c1 =>
      intro j u hj
      rw [addr_add]
      exact RowAt.flat HRow.out j u (by simpa using hj)
    case c2 => exact encP_one HSo2.out
    case c3 => unfold maxLen; omega
    case c4 => omega
    case c5 => exact Hsz.out
    intro v' w2 hown' hgrow _
    have hbig : Below (w.heap.size + 4) ((conj4 w t s (.slice a l c) (.slice a2 l2 c2)).alloc (.cells #[.int .i64 s.kind, .int .i64 s.num, .string s.text, .slice a2 l2 c2] 24)) w2 := (Below.refl _ _).grown hgrow Hsz.out (own_blk HOw.out)
    have HT : Hid (Making w w2 t s (.slice a l c) (.slice a2 l2 c2) (.slice none 0 0) v' (ps ++ [(s, Value.slice a2 l2 c2)]).length ((ps ++ [(s, Value.slice a2 l2 c2)]).flatMap encP)) :=
      ⟨HMk.out.one.keepB hbig (by omega), HMk.out.two.keepB hbig (by omega), HMk.out.res.keepB hbig (by omega), HMk.out.var.keepB hbig (by omega), by rw [HFl.out, HLl.out]; exact hown', HMk.out.below.trans (hbig.mono (by omega))⟩
    clear hgrow hown' hbig HMk HOw HRow Hsz
    obtain ⟨g, cap, rfl, hgb, hcap, hlt, hrw, _⟩ := own_row HT.out.own (by simp)
    have HLX : Hid (LiesX (fun b => (X b ∧ b < w.heap.size) ∨ w.heap.size + 4 ≤ b) 17 w2 (conjL t s) (.slice (some ⟨g, 0, none⟩) (ps ++ [(s, Value.slice a2 l2 c2)]).length cap)) := by
      have h := liesX_of_row (X := fun b => (X b ∧ b < w.heap.size) ∨ w.heap.size + 4 ≤ b) (d := 16) (c := cap) hrw (.inr hgb) (fun q hq => by
        rcases List.mem_append.1 hq with hq | hq
        · exact ⟨((HSx.out q hq).1.keeps HT.out.below).mono (fun b hb => .inl hb), (HSx.out q hq).2⟩
        · have : q = (s, Value.slice a2 l2 c2) := by simpa using hq
          subst this
          exact ⟨(HSs.out.1.keeps HT.out.below).mono (fun b hb => .inl hb), HSs.out.2⟩) (by have := hlen; simp; omega) hcap
      have e : (ps ++ [(s, Value.slice a2 l2 c2)]).map (·.1) = conjL t s := HCL.out
      rwa [e] at h
    generalize (ps ++ [(s, Value.slice a2 l2 c2)]).length = LN at *
    have HV3 : Hid (Bx (w2.setCell ⟨w.heap.size + 3, 3, none⟩ (.slice (some ⟨g, 0, none⟩) LN cap)) (w.heap.size + 3) ⟨4, 0, ⟨#[]⟩, []⟩ (.slice (some ⟨g, 0, none⟩) LN cap)) := HT.out.var.set3 _
    have HX3 : Hid (Bx (w2.setCell ⟨w.heap.size + 3, 3, none⟩ (.slice (some ⟨g, 0, none⟩) LN cap)) w.heap.size t (.slice a l c)) := HT.out.one.other3 (by omega) _
    have HR3 : Hid (Bx (w2.setCell ⟨w.heap.size + 3, 3, none⟩ (.slice (some ⟨g, 0, none⟩) LN cap)) (w.heap.size + 2) zeroT (.slice none 0 0)) := HT.out.res.other3 (by omega) _
    have HL3 : Hid (LiesX (fun b => (X b ∧ b < w.heap.size) ∨ w.heap.size + 4 ≤ b) 17 (w2.setCell ⟨w.heap.size + 3, 3, none⟩ (.slice (some ⟨g, 0, none⟩) LN cap)) (conjL t s) (.slice (some ⟨g, 0, none⟩) LN cap)) := HLX.out.set3 (by omega)
    have hb3 : Below w.heap.size w (w2.setCell ⟨w.heap.size + 3, 3, none⟩ (.slice (some ⟨g, 0, none⟩) LN cap)) := HT.out.below.setCell (by simp) _
    obtain ⟨v0, v1, v2, v3, _, _, _, vf⟩ := HT.out.var
    clear hrw hcap hlt HLX HT
    go_wp2_with fail
    refine (right_any 17 (listT (conjL t s)) (.slice (some ⟨g, 0, none⟩) LN cap) _ HL3.out.lies).mono ?_
    rintro e w4 ⟨rfl, hb⟩
    have hb4 : Below w.heap.size w w4 := hb3.trans (hb.mono hb3.size)
    rw [HW.out]
    have HR4 : Hid (Bx w4 (w.heap.size + 2) zeroT (.slice none 0 0)) := HR3.out.keeps hb
    obtain ⟨x0, x1, x2, x3, _, _, _, _⟩ := HX3.out.keeps hb
    obtain ⟨m0, m1, m2, m3, _, _, _, _⟩ := HV3.out.keeps hb
    obtain ⟨y0, y1, y2, y3, z0, z1, z2, z3⟩ := HR4.out
    have HL4 : Hid (LiesX (fun b => (X b ∧ b < w.heap.size) ∨ w.heap.size + 4 ≤ b) 17 w4 (conjL t s) (.slice (some ⟨g, 0, none⟩) LN cap)) := HL3.out.keeps hb
    clear hb hb3 HX3 HV3 HR3 HL3 v0 v1 v2 v3 vf
    cases hf : (fw 17 (listT (conjL t s)) 16 1024).1
    · have He : Hid (conjT t s = t) := by show _ = _; unfold conjT; rw [hf]; rfl
      have Hbx : Hid (Bx (w4.setCells (w.heap.size + 2) 0 (encP (t, .slice a l c))) (w.heap.size + 2) t (.slice a l c)) := HR4.out.put (t, .slice a l c)
      have Hbl : Hid (Below w.heap.size w (w4.setCells (w.heap.size + 2) 0 (encP (t, .slice a l c)))) := below_put hb4 (by omega) (t, .slice a l c)
      have Hfin : Hid (LiesX (fun b => X b ∨ w.heap.size ≤ b) 16 (w4.setCells (w.heap.size + 2) 0 (encP (t, .slice a l c))) t.items (.slice a l c)) := ((HLt.out.both.keeps hb4).set (g := w.heap.size + 2) (by omega)).mono (fun b hb => .inl hb.1)
      clear hf
      go_wp2_with fail
      refine bodyPost_ret (v := .agg #[.int .i64 t.kind, .int .i64 t.num, .string t.text, .slice a l c]) ?_ rfl (by rw [He.out]; exact ⟨_, rfl, Hfin.out, Hbl.out⟩)
      obtain ⟨q0, q1, q2, q3, _, _, _, _⟩ := Hbx.out
      simp only [encP, World.setCells, Nat.zero_add, Nat.reduceAdd] at q0 q1 q2 q3
      simp [results, Try.results67, go_sem, q0, q1, q2, q3]
    · have He : Hid (conjT t s = listT (conjL t s)) := by show _ = _; unfold conjT; rw [hf]; rfl
      have hd : Dp 16 (listT (conjL t s)) := dp_list hf HDp.out
      have Hbx : Hid (Bx (w4.setCells (w.heap.size + 2) 0 (encP (listT (conjL t s), .slice (some ⟨g, 0, none⟩) LN cap))) (w.heap.size + 2) (listT (conjL t s)) (.slice (some ⟨g, 0, none⟩) LN cap)) := HR4.out.put (listT (conjL t s), .slice (some ⟨g, 0, none⟩) LN cap)
      have Hbl : Hid (Below w.heap.size w (w4.setCells (w.heap.size + 2) 0 (encP (listT (conjL t s), .slice (some ⟨g, 0, none⟩) LN cap)))) := below_put hb4 (by omega) (listT (conjL t s), .slice (some ⟨g, 0, none⟩) LN cap)
      have Hfin : Hid (LiesX (fun b => X b ∨ w.heap.size ≤ b) 16 (w4.setCells (w.heap.size + 2) 0 (encP (listT (conjL t s), .slice (some ⟨g, 0, none⟩) LN cap))) (conjL t s) (.slice (some ⟨g, 0, none⟩) LN cap)) := by
        have h2 := HL4.out.set (g := w.heap.size + 2) (o := 0) (vs := encP (listT (conjL t s), .slice (some ⟨g, 0, none⟩) LN cap)) (by omega)
        exact (LiesX.to (t := listT (conjL t s)) h2 hd).mono (fun b hb => by
          rcases hb with hb | hb
          · exact .inl hb.1
          · exact .inr (by omega))
      clear hf
      go_wp2_with fail
      refine bodyPost_ret (v := .agg #[.int .i64 4, .int .i64 0, .string ⟨#[]⟩, .slice (some ⟨g, 0, none⟩) LN cap]) ?_ rfl (by rw [He.out]; exact ⟨_, rfl, Hfin.out, Hbl.out⟩)
      obtain ⟨q0, q1, q2, q3, _, _, _, _⟩ := Hbx.out
      simp only [encP, listT, World.setCells, Nat.zero_add, Nat.reduceAdd] at q0 q1 q2 q3
      simp [results, Try.results67, go_sem, q0, q1, q2, q3]
  · have k4 : t.kind = 4 := by simpa using hk
    cases a with
    | none =>
      have hnil : t.items = [] := by
        by_cases hne : t.items = []
        · exact hne
        · obtain ⟨_, _, hv, _, hr'⟩ := h
          obtain ⟨_, _, ha, _⟩ := hr' hne
          injection hv with hv1
          rw [ha] at hv1; cases hv1
      have hl0 : l = 0 := by
        obtain ⟨_, _, hv, _⟩ := LiesX.slice h
        injection hv with _ hv2
        rw [hnil] at hv2; exact hv2
      obtain ⟨ps, hps⟩ : ∃ ps : List (VT × Value), ps = [] := ⟨[], rfl⟩
      have hlen : ps.length ≤ 1024 := by rw [hps]; simp
      have HSx : Hid (∀ q ∈ ps, LiesX (fun b => X b ∧ b < w.heap.size) 16 w q.1.items q.2 ∧ q.1.text.size ≤ 9223372036854775807) := fun q hq => by rw [hps] at hq; cases hq
      have HCL : Hid ((ps ++ [(s, Value.slice a2 l2 c2)]).map (·.1) = conjL t s) := by show _ = _; unfold conjL; rw [hps, if_pos k4, hnil]; rfl
      clear hnil
      subst hl0
      have HFl : Hid ((ps ++ [(s, Value.slice a2 l2 c2)]).flatMap encP = ps.flatMap encP ++ encP (s, Value.slice a2 l2 c2)) := by show _ = _; rw [List.flatMap_append]; simp
      have HLl : Hid ((ps ++ [(s, Value.slice a2 l2 c2)]).length = ps.length + 1) := by show _ = _; simp
      have HMk : Hid (Making w ((conj4 w t s (.slice none 0 c) (.slice a2 l2 c2)).alloc (.cells #[.int .i64 s.kind, .int .i64 s.num, .string s.text, .slice a2 l2 c2] 24)) t s (.slice none 0 c) (.slice a2 l2 c2) (.slice none 0 0) (.slice none 0 0) 0 []) :=
        ⟨((two3_first _ _ _ _ _).keeps (Grew.two _ _ _).below), ((two3_second _ _ _ _ _).keeps (Grew.two _ _ _).below), ((two3_res _ _ _ _ _).keeps (Grew.two _ _ _).below), (conj4_var _ _ _ _ _).keeps ((Grew.refl _).alloc _).below, World.ownsRow_nil _ _ _ _, grew5 _ _ _ _ _ _⟩
      have HOw : Hid (((conj4 w t s (.slice none 0 c) (.slice a2 l2 c2)).alloc (.cells #[.int .i64 s.kind, .int .i64 s.num, .string s.text, .slice a2 l2 c2] 24)).ownsRow (w.heap.size + 4) 24 4 (.slice none 0 0) ps.length (ps.flatMap encP)) := by rw [hps]; exact World.ownsRow_nil _ _ _ _
      have Hsz : Hid (w.heap.size + 4 ≤ ((conj4 w t s (.slice none 0 c) (.slice a2 l2 c2)).alloc (.cells #[.int .i64 s.kind, .int .i64 s.num, .string s.text, .slice a2 l2 c2] 24)).heap.size) := by show _ ≤ _; rw [World.size_alloc, conj4_size]; omega
      have HRow : Hid (RowAt ((conj4 w t s (.slice none 0 c) (.slice a2 l2 c2)).alloc (.cells #[.int .i64 s.kind, .int .i64 s.num, .string s.text, .slice a2 l2 c2] 24)) (w.heap.size + 1 + 1 + 1 + 1) 0 [(s, Value.slice a2 l2 c2)]) := by
        have hh := bx_alloc (conj4 w t s (.slice none 0 c) (.slice a2 l2 c2)) s (.slice a2 l2 c2)
        rw [conj4_size] at hh
        exact row_one hh
      clear h h2 hr hr2 hd hd2 hsz hle k4 hps
      go_enter Try.func67, Try.ntmps67
      go_wp2_with (first
        | (at_builtin; refine wpList_append_own _ rfl _ _ 22 rfl (w.heap.size + 4) 24 i0 (.agg #[.int .i64 0, .int .i64 0, .string ⟨#[]⟩, .slice none 0 0]) 4 56 Try.underlying22 Hi.out Hz0.out Hz1.out Hz2.out rfl (by decide) _ _ _ rfl HOw.out ⟨w.heap.size + 1 + 1 + 1 + 1, 0, none⟩ 1 1 (encP (s, Value.slice a2 l2 c2)) rfl rfl ?c1 ?c2 ?c3 ?c4 ?c5 ?_)
        | (at_builtin; refine Lib.wpList_append_run _ rfl _ _ _ _ rfl _ _ rfl rfl _ _ (append_none_any (w.heap.size + 4) 22 _ 24 i0 4 Try.underlying22 Hi.out (.slice none 0 0) 0 [] (World.ownsRow_nil _ _ _ _) c) ?_))
      case c1 =>
        intro j u hj
        rw [addr_add]
        exact RowAt.flat HRow.out j u (by simpa using hj)
      case c2 => exact encP_one HSo2.out
      case c3 => unfold maxLen; omega
      case c4 => omega
      case c5 => exact Hsz.out
      intro v' w2 hown' hgrow _
      have hbig : Below (w.heap.size + 4) ((conj4 w t s (.slice none 0 c) (.slice a2 l2 c2)).alloc (.cells #[.int .i64 s.kind, .int .i64 s.num, .string s.text, .slice a2 l2 c2] 24)) w2 := (Below.refl _ _).grown hgrow Hsz.out (own_blk HOw.out)
      have HT : Hid (Making w w2 t s (.slice none 0 c) (.slice a2 l2 c2) (.slice none 0 0) v' (ps ++ [(s, Value.slice a2 l2 c2)]).length ((ps ++ [(s, Value.slice a2 l2 c2)]).flatMap encP)) :=
        ⟨HMk.out.one.keepB hbig (by omega), HMk.out.two.keepB hbig (by omega), HMk.out.res.keepB hbig (by omega), HMk.out.var.keepB hbig (by omega), by rw [HFl.out, HLl.out]; exact hown', HMk.out.below.trans (hbig.mono (by omega))⟩
      clear hgrow hown' hbig HMk HOw HRow Hsz
      obtain ⟨g, cap, rfl, hgb, hcap, hlt, hrw, _⟩ := own_row HT.out.own (by simp)
      have HLX : Hid (LiesX (fun b => (X b ∧ b < w.heap.size) ∨ w.heap.size + 4 ≤ b) 17 w2 (conjL t s) (.slice (some ⟨g, 0, none⟩) (ps ++ [(s, Value.slice a2 l2 c2)]).length cap)) := by
        have h := liesX_of_row (X := fun b => (X b ∧ b < w.heap.size) ∨ w.heap.size + 4 ≤ b) (d := 16) (c := cap) hrw (.inr hgb) (fun q hq => by
          rcases List.mem_append.1 hq with hq | hq
          · exact ⟨((HSx.out q hq).1.keeps HT.out.below).mono (fun b hb => .inl hb), (HSx.out q hq).2⟩
          · have : q = (s, Value.slice a2 l2 c2) := by simpa using hq
            subst this
            exact ⟨(HSs.out.1.keeps HT.out.below).mono (fun b hb => .inl hb), HSs.out.2⟩) (by have := hlen; simp; omega) hcap
        have e : (ps ++ [(s, Value.slice a2 l2 c2)]).map (·.1) = conjL t s := HCL.out
        rwa [e] at h
      generalize (ps ++ [(s, Value.slice a2 l2 c2)]).length = LN at *
      have HV3 : Hid (Bx (w2.setCell ⟨w.heap.size + 3, 3, none⟩ (.slice (some ⟨g, 0, none⟩) LN cap)) (w.heap.size + 3) ⟨4, 0, ⟨#[]⟩, []⟩ (.slice (some ⟨g, 0, none⟩) LN cap)) := HT.out.var.set3 _
      have HX3 : Hid (Bx (w2.setCell ⟨w.heap.size + 3, 3, none⟩ (.slice (some ⟨g, 0, none⟩) LN cap)) w.heap.size t (.slice none 0 c)) := HT.out.one.other3 (by omega) _
      have HR3 : Hid (Bx (w2.setCell ⟨w.heap.size + 3, 3, none⟩ (.slice (some ⟨g, 0, none⟩) LN cap)) (w.heap.size + 2) zeroT (.slice none 0 0)) := HT.out.res.other3 (by omega) _
      have HL3 : Hid (LiesX (fun b => (X b ∧ b < w.heap.size) ∨ w.heap.size + 4 ≤ b) 17 (w2.setCell ⟨w.heap.size + 3, 3, none⟩ (.slice (some ⟨g, 0, none⟩) LN cap)) (conjL t s) (.slice (some ⟨g, 0, none⟩) LN cap)) := HLX.out.set3 (by omega)
      have hb3 : Below w.heap.size w (w2.setCell ⟨w.heap.size + 3, 3, none⟩ (.slice (some ⟨g, 0, none⟩) LN cap)) := HT.out.below.setCell (by simp) _
      obtain ⟨v0, v1, v2, v3, _, _, _, vf⟩ := HT.out.var
      clear hrw hcap hlt HLX HT
      go_wp2_with fail
      refine (right_any 17 (listT (conjL t s)) (.slice (some ⟨g, 0, none⟩) LN cap) _ HL3.out.lies).mono ?_
      rintro e w4 ⟨rfl, hb⟩
      have hb4 : Below w.heap.size w w4 := hb3.trans (hb.mono hb3.size)
      rw [HW.out]
      have HR4 : Hid (Bx w4 (w.heap.size + 2) zeroT (.slice none 0 0)) := HR3.out.keeps hb
      obtain ⟨x0, x1, x2, x3, _, _, _, _⟩ := HX3.out.keeps hb
      obtain ⟨m0, m1, m2, m3, _, _, _, _⟩ := HV3.out.keeps hb
      obtain ⟨y0, y1, y2, y3, z0, z1, z2, z3⟩ := HR4.out
      have HL4 : Hid (LiesX (fun b => (X b ∧ b < w.heap.size) ∨ w.heap.size + 4 ≤ b) 17 w4 (conjL t s) (.slice (some ⟨g, 0, none⟩) LN cap)) := HL3.out.keeps hb
      clear hb hb3 HX3 HV3 HR3 HL3 v0 v1 v2 v3 vf
      cases hf : (fw 17 (listT (conjL t s)) 16 1024).1
      · have He : Hid (conjT t s = t) := by show _ = _; unfold conjT; rw [hf]; rfl
        have Hbx : Hid (Bx (w4.setCells (w.heap.size + 2) 0 (encP (t, .slice none 0 c))) (w.heap.size + 2) t (.slice none 0 c)) := HR4.out.put (t, .slice none 0 c)
        have Hbl : Hid (Below w.heap.size w (w4.setCells (w.heap.size + 2) 0 (encP (t, .slice none 0 c)))) := below_put hb4 (by omega) (t, .slice none 0 c)
        have Hfin : Hid (LiesX (fun b => X b ∨ w.heap.size ≤ b) 16 (w4.setCells (w.heap.size + 2) 0 (encP (t, .slice none 0 c))) t.items (.slice none 0 c)) := ((HLt.out.both.keeps hb4).set (g := w.heap.size + 2) (by omega)).mono (fun b hb => .inl hb.1)
        clear hf
        go_wp2_with fail
        refine bodyPost_ret (v := .agg #[.int .i64 t.kind, .int .i64 t.num, .string t.text, .slice none 0 c]) ?_ rfl (by rw [He.out]; exact ⟨_, rfl, Hfin.out, Hbl.out⟩)
        obtain ⟨q0, q1, q2, q3, _, _, _, _⟩ := Hbx.out
        simp only [encP, World.setCells, Nat.zero_add, Nat.reduceAdd] at q0 q1 q2 q3
        simp [results, Try.results67, go_sem, q0, q1, q2, q3]
      · have He : Hid (conjT t s = listT (conjL t s)) := by show _ = _; unfold conjT; rw [hf]; rfl
        have hd : Dp 16 (listT (conjL t s)) := dp_list hf HDp.out
        have Hbx : Hid (Bx (w4.setCells (w.heap.size + 2) 0 (encP (listT (conjL t s), .slice (some ⟨g, 0, none⟩) LN cap))) (w.heap.size + 2) (listT (conjL t s)) (.slice (some ⟨g, 0, none⟩) LN cap)) := HR4.out.put (listT (conjL t s), .slice (some ⟨g, 0, none⟩) LN cap)
        have Hbl : Hid (Below w.heap.size w (w4.setCells (w.heap.size + 2) 0 (encP (listT (conjL t s), .slice (some ⟨g, 0, none⟩) LN cap)))) := below_put hb4 (by omega) (listT (conjL t s), .slice (some ⟨g, 0, none⟩) LN cap)
        have Hfin : Hid (LiesX (fun b => X b ∨ w.heap.size ≤ b) 16 (w4.setCells (w.heap.size + 2) 0 (encP (listT (conjL t s), .slice (some ⟨g, 0, none⟩) LN cap))) (conjL t s) (.slice (some ⟨g, 0, none⟩) LN cap)) := by
          have h2 := HL4.out.set (g := w.heap.size + 2) (o := 0) (vs := encP (listT (conjL t s), .slice (some ⟨g, 0, none⟩) LN cap)) (by omega)
          exact (LiesX.to (t := listT (conjL t s)) h2 hd).mono (fun b hb => by
            rcases hb with hb | hb
            · exact .inl hb.1
            · exact .inr (by omega))
        clear hf
        go_wp2_with fail
        refine bodyPost_ret (v := .agg #[.int .i64 4, .int .i64 0, .string ⟨#[]⟩, .slice (some ⟨g, 0, none⟩) LN cap]) ?_ rfl (by rw [He.out]; exact ⟨_, rfl, Hfin.out, Hbl.out⟩)
        obtain ⟨q0, q1, q2, q3, _, _, _, _⟩ := Hbx.out
        simp only [encP, listT, World.setCells, Nat.zero_add, Nat.reduceAdd] at q0 q1 q2 q3
        simp [results, Try.results67, go_sem, q0, q1, q2, q3]
    | some ad =>
      obtain ⟨A0, C0, hv, _, ps, hps, hsd, hrow⟩ := Lies.row (d := 15) h.lies
      injection hv with hv1 hv2 hv3
      have hpl : ps.length = t.items.length := by rw [← hps, List.length_map]
      have hlen : ps.length ≤ 1024 := by omega
      have hll : l = ps.length := by omega
      subst hll
      have HRo : Hid (ps ≠ [] → ∃ b o, ad = ⟨b, o, none⟩ ∧ RowAt w b o ps) := fun hne => by
        obtain ⟨b, o, ha, hr'⟩ := hrow (fun e => hne (by rw [e] at hps; simpa using hps))
        rw [ha] at hv1
        injection hv1 with hv1
        exact ⟨b, o, hv1, hr'⟩
      have HSx : Hid (∀ q ∈ ps, LiesX (fun b => X b ∧ b < w.heap.size) 16 w q.1.items q.2 ∧ q.1.text.size ≤ 9223372036854775807) := fun q hq => by
        obtain ⟨b, o, ha, hr'⟩ := HRo.out (fun e => by rw [e] at hq; cases hq)
        exact ⟨(LiesX.rowX (d := 15) h.both hps hr' ⟨_, _, by rw [ha]⟩ q hq).atLeast 16 (by omega), (hsd q hq).2⟩
      have HOne : Hid (∀ u ∈ ps.flatMap encP, u.oneCell' = true) := fun u hu => by
        obtain ⟨q, hq, hup⟩ := List.mem_flatMap.1 hu
        exact encP_one (hsd q hq) u hup
      have HCL : Hid ((ps ++ [(s, Value.slice a2 l2 c2)]).map (·.1) = conjL t s) := by show _ = _; unfold conjL; rw [if_pos k4, ← hps]; simp
      have HFl : Hid ((ps ++ [(s, Value.slice a2 l2 c2)]).flatMap encP = ps.flatMap encP ++ encP (s, Value.slice a2 l2 c2)) := by show _ = _; rw [List.flatMap_append]; simp
      have HLl : Hid ((ps ++ [(s, Value.slice a2 l2 c2)]).length = ps.length + 1) := by show _ = _; simp
      have HM0 : Hid (Making w (conj4 w t s (.slice (some ad) ps.length c) (.slice a2 l2 c2)) t s (.slice (some ad) ps.length c) (.slice a2 l2 c2) (.slice none 0 0) (.slice none 0 0) 0 []) :=
        ⟨((two3_first _ _ _ _ _).keeps ((Grew.refl _).alloc _).below), ((two3_second _ _ _ _ _).keeps ((Grew.refl _).alloc _).below), ((two3_res _ _ _ _ _).keeps ((Grew.refl _).alloc _).below), conj4_var _ _ _ _ _, World.ownsRow_nil _ _ _ _, grew4 _ _ _ _ _⟩
      have Hsz0 : Hid (w.heap.size + 4 ≤ (conj4 w t s (.slice (some ad) ps.length c) (.slice a2 l2 c2)).heap.size) := by show _ ≤ _; rw [conj4_size]; omega
      clear h h2 hr hr2 hd hd2 hsz hle k4 hps hpl hsd hrow hv1 hv2 hv3
      go_enter Try.func67, Try.ntmps67
      go_wp2_with (first
        | (at_builtin; refine wpList_append_own _ rfl _ _ 22 rfl (w.heap.size + 4) 24 i0 (.agg #[.int .i64 0, .int .i64 0, .string ⟨#[]⟩, .slice none 0 0]) 4 56 Try.underlying22 Hi.out Hz0.out Hz1.out Hz2.out rfl (by decide) _ _ _ rfl HM0.out.own ad ps.length c (ps.flatMap encP) rfl (flat_len ps) ?e1 ?e2 ?e3 ?e4 ?e5 ?_))
      case e1 =>
        intro j u hj
        have hne : ps ≠ [] := by
          intro e
          rw [e] at hj
          cases hj
        obtain ⟨b, o, ha, hr'⟩ := HRo.out hne
        have hadd : ad.add j = ⟨b, o + j, none⟩ := by rw [ha, addr_add]
        rw [hadd]
        exact cell_keeps HM0.out.below (RowAt.flat hr' j u hj)
      case e2 => exact HOne.out
      case e3 => unfold maxLen; omega
      case e4 => omega
      case e5 => exact Hsz0.out
      intro v1 wA hown' hgrow _
      have hbig : Below (w.heap.size + 4) (conj4 w t s (.slice (some ad) ps.length c) (.slice a2 l2 c2)) wA := (Below.refl _ _).grown hgrow Hsz0.out (own_blk HM0.out.own)
      have hownA : wA.ownsRow (w.heap.size + 4) 24 4 v1 ps.length (ps.flatMap encP) := hown'
      have HMA : Hid (Making w wA t s (.slice (some ad) ps.length c) (.slice a2 l2 c2) (.slice none 0 0) v1 ps.length (ps.flatMap encP)) :=
        ⟨HM0.out.one.keepB hbig (by omega), HM0.out.two.keepB hbig (by omega), HM0.out.res.keepB hbig (by omega), HM0.out.var.keepB hbig (by omega), hownA, HM0.out.below.trans (hbig.mono (by omega))⟩
      have hszA : w.heap.size + 4 ≤ wA.heap.size := by have := hbig.size; have := Hsz0.out; omega
      clear hgrow hown' hbig hownA HM0 Hsz0 HRo HOne
      have hv1s : ∃ x n y, v1 = .slice x n y := by
        rcases HMA.out.own.2 with ⟨e, _⟩ | ⟨g, cap, _, e, _⟩
        · exact ⟨_, _, _, e⟩
        · exact ⟨_, _, _, e⟩
      obtain ⟨X1, N1, C1, rfl⟩ := hv1s
      have hMB : Making w (wA.setCell ⟨w.heap.size + 3, 3, none⟩ (.slice X1 N1 C1)) t s (.slice (some ad) ps.length c) (.slice a2 l2 c2) (.slice X1 N1 C1) (.slice X1 N1 C1) ps.length (ps.flatMap encP) :=
        ⟨HMA.out.one.other3 (by omega) _, HMA.out.two.other3 (by omega) _, HMA.out.res.other3 (by omega) _, HMA.out.var.set3 _, own_set3 HMA.out.own (by omega), HMA.out.below.setCell (by simp) _⟩
      have HMk : Hid (Making w ((wA.setCell ⟨w.heap.size + 3, 3, none⟩ (.slice X1 N1 C1)).alloc (.cells #[.int .i64 s.kind, .int .i64 s.num, .string s.text, .slice a2 l2 c2] 24)) t s (.slice (some ad) ps.length c) (.slice a2 l2 c2) (.slice X1 N1 C1) (.slice X1 N1 C1) ps.length (ps.flatMap encP)) :=
        ⟨hMB.one.keeps ((Grew.refl _).alloc _).below, hMB.two.keeps ((Grew.refl _).alloc _).below, hMB.res.keeps ((Grew.refl _).alloc _).below, hMB.var.keeps ((Grew.refl _).alloc _).below, own_keeps hMB.own ((Grew.refl _).alloc _).below, hMB.below.alloc hMB.below.size _⟩
      have HOw : Hid (((wA.setCell ⟨w.heap.size + 3, 3, none⟩ (.slice X1 N1 C1)).alloc (.cells #[.int .i64 s.kind, .int .i64 s.num, .string s.text, .slice a2 l2 c2] 24)).ownsRow (w.heap.size + 4) 24 4 (.slice X1 N1 C1) ps.length (ps.flatMap encP)) := HMk.out.own
      have hszB : (wA.setCell ⟨w.heap.size + 3, 3, none⟩ (.slice X1 N1 C1)).heap.size = wA.heap.size := by simp [World.setCell]
      have Hsz : Hid (w.heap.size + 4 ≤ ((wA.setCell ⟨w.heap.size + 3, 3, none⟩ (.slice X1 N1 C1)).alloc (.cells #[.int .i64 s.kind, .int .i64 s.num, .string s.text, .slice a2 l2 c2] 24)).heap.size) := by show _ ≤ _; rw [World.size_alloc, hszB]; omega
      have HRow : Hid (RowAt ((wA.setCell ⟨w.heap.size + 3, 3, none⟩ (.slice X1 N1 C1)).alloc (.cells #[.int .i64 s.kind, .int .i64 s.num, .string s.text, .slice a2 l2 c2] 24)) wA.heap.size 0 [(s, Value.slice a2 l2 c2)]) := by
        have hh := bx_alloc (wA.setCell ⟨w.heap.size + 3, 3, none⟩ (.slice X1 N1 C1)) s (.slice a2 l2 c2)
        rw [hszB] at hh
        exact row_one hh
      obtain ⟨v0, v1, v2, v3, _, _, _, vf⟩ := HMA.out.var
      obtain ⟨u0, u1, u2, u3, _, _, _, _⟩ := HMA.out.two
      clear hMB hszB HMA
      go_wp2_with (first
        | (at_builtin; refine wpList_append_own _ rfl _ _ 22 rfl (w.heap.size + 4) 24 i0 (.agg #[.int .i64 0, .int .i64 0, .string ⟨#[]⟩, .slice none 0 0]) 4 56 Try.underlying22 Hi.out Hz0.out Hz1.out Hz2.out rfl (by decide) _ _ _ rfl HOw.out ⟨wA.heap.size, 0, none⟩ 1 1 (encP (s, Value.slice a2 l2 c2)) rfl rfl ?c1 ?c2 ?c3 ?c4 ?c5 ?_))
      case c1 =>
        intro j u hj
        first
          | exact hj
          | (rw [addr_add]; exact RowAt.flat HRow.out j u (by simpa using hj))
      case c2 => exact encP_one HSo2.out
      case c3 => unfold maxLen; omega
      case c4 => omega
      case c5 => omega
      intro v' w2 hown' hgrow _
      have hbig : Below (w.heap.size + 4) ((wA.setCell ⟨w.heap.size + 3, 3, none⟩ (.slice X1 N1 C1)).alloc (.cells #[.int .i64 s.kind, .int .i64 s.num, .string s.text, .slice a2 l2 c2] 24)) w2 := (Below.refl _ _).grown hgrow Hsz.out (own_blk HOw.out)
      have HT : Hid (Making w w2 t s (.slice (some ad) ps.length c) (.slice a2 l2 c2) (.slice X1 N1 C1) v' (ps ++ [(s, Value.slice a2 l2 c2)]).length ((ps ++ [(s, Value.slice a2 l2 c2)]).flatMap encP)) :=
        ⟨HMk.out.one.keepB hbig (by omega), HMk.out.two.keepB hbig (by omega), HMk.out.res.keepB hbig (by omega), HMk.out.var.keepB hbig (by omega), by rw [HFl.out, HLl.out]; exact hown', HMk.out.below.trans (hbig.mono (by omega))⟩
      clear hgrow hown' hbig HMk HOw HRow Hsz v0 v1 v2 v3 vf u0 u1 u2 u3
      obtain ⟨g, cap, rfl, hgb, hcap, hlt, hrw, _⟩ := own_row HT.out.own (by simp)
      have HLX : Hid (LiesX (fun b => (X b ∧ b < w.heap.size) ∨ w.heap.size + 4 ≤ b) 17 w2 (conjL t s) (.slice (some ⟨g, 0, none⟩) (ps ++ [(s, Value.slice a2 l2 c2)]).length cap)) := by
        have h := liesX_of_row (X := fun b => (X b ∧ b < w.heap.size) ∨ w.heap.size + 4 ≤ b) (d := 16) (c := cap) hrw (.inr hgb) (fun q hq => by
          rcases List.mem_append.1 hq with hq | hq
          · exact ⟨((HSx.out q hq).1.keeps HT.out.below).mono (fun b hb => .inl hb), (HSx.out q hq).2⟩
          · have : q = (s, Value.slice a2 l2 c2) := by simpa using hq
            subst this
            exact ⟨(HSs.out.1.keeps HT.out.below).mono (fun b hb => .inl hb), HSs.out.2⟩) (by have := hlen; simp; omega) hcap
        have e : (ps ++ [(s, Value.slice a2 l2 c2)]).map (·.1) = conjL t s := HCL.out
        rwa [e] at h
      generalize (ps ++ [(s, Value.slice a2 l2 c2)]).length = LN at *
      have HV3 : Hid (Bx (w2.setCell ⟨w.heap.size + 3, 3, none⟩ (.slice (some ⟨g, 0, none⟩) LN cap)) (w.heap.size + 3) ⟨4, 0, ⟨#[]⟩, []⟩ (.slice (some ⟨g, 0, none⟩) LN cap)) := HT.out.var.set3 _
      have HX3 : Hid (Bx (w2.setCell ⟨w.heap.size + 3, 3, none⟩ (.slice (some ⟨g, 0, none⟩) LN cap)) w.heap.size t (.slice (some ad) ps.length c)) := HT.out.one.other3 (by omega) _
      have HR3 : Hid (Bx (w2.setCell ⟨w.heap.size + 3, 3, none⟩ (.slice (some ⟨g, 0, none⟩) LN cap)) (w.heap.size + 2) zeroT (.slice none 0 0)) := HT.out.res.other3 (by omega) _
      have HL3 : Hid (LiesX (fun b => (X b ∧ b < w.heap.size) ∨ w.heap.size + 4 ≤ b) 17 (w2.setCell ⟨w.heap.size + 3, 3, none⟩ (.slice (some ⟨g, 0, none⟩) LN cap)) (conjL t s) (.slice (some ⟨g, 0, none⟩) LN cap)) := HLX.out.set3 (by omega)
      have hb3 : Below w.heap.size w (w2.setCell ⟨w.heap.size + 3, 3, none⟩ (.slice (some ⟨g, 0, none⟩) LN cap)) := HT.out.below.setCell (by simp) _
      obtain ⟨v0, v1, v2, v3, _, _, _, vf⟩ := HT.out.var
      clear hrw hcap hlt HLX HT
      go_wp2_with fail
      refine (right_any 17 (listT (conjL t s)) (.slice (some ⟨g, 0, none⟩) LN cap) _ HL3.out.lies).mono ?_
      rintro e w4 ⟨rfl, hb⟩
      have hb4 : Below w.heap.size w w4 := hb3.trans (hb.mono hb3.size)
      rw [HW.out]
      have HR4 : Hid (Bx w4 (w.heap.size + 2) zeroT (.slice none 0 0)) := HR3.out.keeps hb
      obtain ⟨x0, x1, x2, x3, _, _, _, _⟩ := HX3.out.keeps hb
      obtain ⟨m0, m1, m2, m3, _, _, _, _⟩ := HV3.out.keeps hb
      obtain ⟨y0, y1, y2, y3, z0, z1, z2, z3⟩ := HR4.out
      have HL4 : Hid (LiesX (fun b => (X b ∧ b < w.heap.size) ∨ w.heap.size + 4 ≤ b) 17 w4 (conjL t s) (.slice (some ⟨g, 0, none⟩) LN cap)) := HL3.out.keeps hb
      clear hb hb3 HX3 HV3 HR3 HL3 v0 v1 v2 v3 vf
      cases hf : (fw 17 (listT (conjL t s)) 16 1024).1
      · have He : Hid (conjT t s = t) := by show _ = _; unfold conjT; rw [hf]; rfl
        have Hbx : Hid (Bx (w4.setCells (w.heap.size + 2) 0 (encP (t, .slice (some ad) ps.length c))) (w.heap.size + 2) t (.slice (some ad) ps.length c)) := HR4.out.put (t, .slice (some ad) ps.length c)
        have Hbl : Hid (Below w.heap.size w (w4.setCells (w.heap.size + 2) 0 (encP (t, .slice (some ad) ps.length c)))) := below_put hb4 (by omega) (t, .slice (some ad) ps.length c)
        have Hfin : Hid (LiesX (fun b => X b ∨ w.heap.size ≤ b) 16 (w4.setCells (w.heap.size + 2) 0 (encP (t, .slice (some ad) ps.length c))) t.items (.slice (some ad) ps.length c)) := ((HLt.out.both.keeps hb4).set (g := w.heap.size + 2) (by omega)).mono (fun b hb => .inl hb.1)
        clear hf
        go_wp2_with fail
        refine bodyPost_ret (v := .agg #[.int .i64 t.kind, .int .i64 t.num, .string t.text, .slice (some ad) ps.length c]) ?_ rfl (by rw [He.out]; exact ⟨_, rfl, Hfin.out, Hbl.out⟩)
        obtain ⟨q0, q1, q2, q3, _, _, _, _⟩ := Hbx.out
        simp only [encP, World.setCells, Nat.zero_add, Nat.reduceAdd] at q0 q1 q2 q3
        simp [results, Try.results67, go_sem, q0, q1, q2, q3]
      · have He : Hid (conjT t s = listT (conjL t s)) := by show _ = _; unfold conjT; rw [hf]; rfl
        have hd : Dp 16 (listT (conjL t s)) := dp_list hf HDp.out
        have Hbx : Hid (Bx (w4.setCells (w.heap.size + 2) 0 (encP (listT (conjL t s), .slice (some ⟨g, 0, none⟩) LN cap))) (w.heap.size + 2) (listT (conjL t s)) (.slice (some ⟨g, 0, none⟩) LN cap)) := HR4.out.put (listT (conjL t s), .slice (some ⟨g, 0, none⟩) LN cap)
        have Hbl : Hid (Below w.heap.size w (w4.setCells (w.heap.size + 2) 0 (encP (listT (conjL t s), .slice (some ⟨g, 0, none⟩) LN cap)))) := below_put hb4 (by omega) (listT (conjL t s), .slice (some ⟨g, 0, none⟩) LN cap)
        have Hfin : Hid (LiesX (fun b => X b ∨ w.heap.size ≤ b) 16 (w4.setCells (w.heap.size + 2) 0 (encP (listT (conjL t s), .slice (some ⟨g, 0, none⟩) LN cap))) (conjL t s) (.slice (some ⟨g, 0, none⟩) LN cap)) := by
          have h2 := HL4.out.set (g := w.heap.size + 2) (o := 0) (vs := encP (listT (conjL t s), .slice (some ⟨g, 0, none⟩) LN cap)) (by omega)
          exact (LiesX.to (t := listT (conjL t s)) h2 hd).mono (fun b hb => by
            rcases hb with hb | hb
            · exact .inl hb.1
            · exact .inr (by omega))
        clear hf
        go_wp2_with fail
        refine bodyPost_ret (v := .agg #[.int .i64 4, .int .i64 0, .string ⟨#[]⟩, .slice (some ⟨g, 0, none⟩) LN cap]) ?_ rfl (by rw [He.out]; exact ⟨_, rfl, Hfin.out, Hbl.out⟩)
        obtain ⟨q0, q1, q2, q3, _, _, _, _⟩ := Hbx.out
        simp only [encP, listT, World.setCells, Nat.zero_add, Nat.reduceAdd] at q0 q1 q2 q3
        simp [results, Try.results67, go_sem, q0, q1, q2, q3]

end Go.Proofs.Ytacnfmamjbmhcaa

