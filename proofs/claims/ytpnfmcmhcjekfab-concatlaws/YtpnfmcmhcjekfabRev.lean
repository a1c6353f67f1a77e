/-
  Values the other way round: slices.Reverse.
-/
import Derived.Test.YtpnfmcmhcjekfabVals2
import Derived.Test.YtpnfmcmhcjekfabEq
import Derived.Test.YtpnfmcmhcjekfabCutS
import Derived.Test.YtpnfmcmhcjekfabVals
import Derived.Test.YtpnfmcmhcjekfabVList
import Derived.Test.YtpnfmcmhcjekfabLiesX
import Derived.Test.YtpnfmcmhcjekfabUniq
import Derived.Deep.RegionHeld3
import Derived.BigRegion
namespace Go.Proofs.Ytpnfmcmhcjekfab
open Go.RowKit

set_option maxRecDepth 100000 in
set_option maxHeartbeats 4000000 in
theorem eqf_any (d : Nat) (l m : List VT) (u v : Value) (w : World) (hu : Lies (d + 1) w l u) (hv : Lies (d + 1) w m v) (hlen : l.length ≤ 65536) :
    Calls Try.prog 70 #[u, v, .func (.func 71) #[] #[]] w fun e w' => e = .returned (.bool (eqL (fun x y => cmpV d x y == 0) l m)) ∧ Below w.heap.size w w' := by
  obtain ⟨a1, c1, rfl, _, hr1⟩ := hu
  obtain ⟨a2, c2, rfl, _, hr2⟩ := hv
  obtain ⟨R, hR⟩ : ∃ R, R = eqL (fun x y => cmpV d x y == 0) l m := ⟨_, rfl⟩
  rw [← hR]
  by_cases hlm : l.length = m.length
  · have HT : Hid ((∀ (j : Nat) (h1 : j < l.length) (h2 : j < m.length), (cmpV d l[j] m[j] == 0) = true) → R = true) := fun h => by
      rw [hR]
      unfold eqL
      rw [decide_eq_true hlm, all2_of l m h]
      rfl
    have HF : Hid (∀ (j : Nat) (h1 : j < l.length) (h2 : j < m.length), (cmpV d l[j] m[j] == 0) = false → R = false) := fun j h1 h2 h => by
      rw [hR]
      unfold eqL
      cases e : all2 (fun x y => cmpV d x y == 0) l m with
      | false => simp
      | true => have h9 : (cmpV d l[j] m[j] == 0) = true := all2_get l m e j h1 h2; rw [h9] at h; cases h
    have Hr1 : Hid _ := hr1; have Hr2 : Hid _ := hr2
    clear hr1 hr2 hR
    have hne : ((l.length : Int) != (l.length : Int)) = false := by simp
    have Hlm : Hid (l.length = m.length) := hlm
    rw [← hlm]
    clear hlm
    go_enter Try.func70, Try.ntmps70
    go_wp2_with fail
    go_loopg [17] l.length (fun g i wr => ∃ j : Nat, i = .int .i64 (j : Int) ∧ j ≤ l.length ∧ g = l.length - j ∧ Below w.heap.size w wr ∧ Hid (∀ (i : Nat) (h1 : i < l.length) (h2 : i < m.length), i < j → (cmpV d l[i] m[i] == 0) = true))
    case atStart => exact ⟨0, rfl, by omega, by omega, Below.refl _ _, fun i _ _ h => absurd h (by omega)⟩
    case round =>
      obtain ⟨j, rfl, hj, hk, hbw, HI⟩ := hrel
      have Hk : Hid _ := hk
      clear hk hne
      by_cases hlt : j < l.length
      · have hlt2 : j < m.length := by have := Hlm.out; omega
        obtain ⟨b1, o1, rfl, hall1⟩ := Hr1.out (by intro e; simp [e] at hlt)
        obtain ⟨b2, o2, rfl, hall2⟩ := Hr2.out (by intro e; simp [e] at hlt2)
        obtain ⟨x, p0, p1, p2, p3, p4, _⟩ := hall1 j hlt
        obtain ⟨y, q0, q1, q2, q3, q4, _⟩ := hall2 j hlt2
        clear hall1 hall2
        obtain ⟨ax, cx, rfl, _⟩ := Lies.slice p4
        obtain ⟨ay, cy, rfl, _⟩ := Lies.slice q4
        have p0 := cell_keeps hbw p0; have p1 := cell_keeps hbw p1; have p2 := cell_keeps hbw p2; have p3 := cell_keeps hbw p3
        have q0 := cell_keeps hbw q0; have q1 := cell_keeps hbw q1; have q2 := cell_keeps hbw q2; have q3 := cell_keeps hbw q3
        have p4 : Hid (Lies d w l[j].items (.slice ax l[j].items.length cx)) := p4
        have q4 : Hid (Lies d w m[j].items (.slice ay m[j].items.length cy)) := q4
        have HIn : Hid ((cmpV d l[j] m[j] == 0) = true → ∀ (i : Nat) (h1 : i < l.length) (h2 : i < m.length), i < j + 1 → (cmpV d l[i] m[i] == 0) = true) := fun hs i h1 h2 hi => by
          by_cases e : i = j
          · subst e; exact hs
          · exact HI.out i h1 h2 (by omega)
        have HFj : Hid ((cmpV d l[j] m[j] == 0) = false → R = false) := HF.out j hlt hlt2
        clear HI
        generalize l[j] = X at *
        generalize m[j] = Y at *
        have hltm : (j : Int) < (l.length : Nat) := by omega
        obtain ⟨A1, hA1⟩ : ∃ A1, A1 = wr.alloc (.cells #[.int .i64 X.kind, .int .i64 X.num, .string X.text, .slice ax X.items.length cx] 38) := ⟨_, rfl⟩
        obtain ⟨A2, hA2⟩ : ∃ A2, A2 = A1.alloc (.cells #[.int .i64 Y.kind, .int .i64 Y.num, .string Y.text, .slice ay Y.items.length cy] 38) := ⟨_, rfl⟩
        have hg1 : Below wr.heap.size wr A1 := by rw [hA1]; exact ((Grew.refl wr).alloc _).below
        have hg2 : Below A1.heap.size A1 A2 := by rw [hA2]; exact ((Grew.refl A1).alloc _).below
        have hsz : A1.heap.size = wr.heap.size + 1 := by rw [hA1]; simp
        have hg12 : Below wr.heap.size wr A2 := hg1.trans (hg2.mono hg1.size)
        have hb2 : Below w.heap.size w A2 := hbw.trans (hg12.mono hbw.size)
        have BX : Hid (Bx A2 wr.heap.size X (.slice ax X.items.length cx)) := by
          have h9 : Bx A1 wr.heap.size X (.slice ax X.items.length cx) := by rw [hA1]; exact bx_alloc wr X _
          exact h9.keeps hg2
        have BY : Hid (Bx A2 (wr.heap.size + 1) Y (.slice ay Y.items.length cy)) := by
          rw [← hsz, hA2]
          exact bx_alloc A1 Y _
        have k0 := cell_keeps hg1 q0; have k1 := cell_keeps hg1 q1; have k2 := cell_keeps hg1 q2; have k3 := cell_keeps hg1 q3
        obtain ⟨x0, x1, x2, x3, _, _, _, _⟩ := BX.out
        obtain ⟨y0, y1, y2, y3, _, _, _, _⟩ := BY.out
        have HEq : Hid (Calls Try.prog 71 #[.agg #[.int .i64 X.kind, .int .i64 X.num, .string X.text, .slice ax X.items.length cx], .agg #[.int .i64 Y.kind, .int .i64 Y.num, .string Y.text, .slice ay Y.items.length cy]] A2 fun e W' => e = .returned (.bool (cmpV d X Y == 0)) ∧ Below w.heap.size w W') := (equal_any d X Y _ _ A2 (Lies.keeps hb2 _ _ _ p4.out) (Lies.keeps hb2 _ _ _ q4.out)).mono fun e W' h => ⟨h.1, hb2.trans (h.2.below.mono hb2.size)⟩
        rw [hA2, hA1] at HEq x0 x1 x2 x3 y0 y1 y2 y3
        rw [hA1] at k0 k1 k2 k3
        clear BX BY hA1 hA2 hg1 hg2 hg12 hsz hb2 p4 q4 q0 q1 q2 q3
        cases hs : (cmpV d X Y == 0) with
        | true =>
          rw [hs] at HEq
          go_wp2_with fail
          refine Calls.mono HEq.out ?_
          rintro e w1 ⟨rfl, hb3⟩
          clear p0 p1 p2 p3 k0 k1 k2 k3 x0 x1 x2 x3 y0 y1 y2 y3 HEq
          go_wp2_with fail
          go_roundg (l.length - (j + 1))
          case measure => have := Hk.out; omega
          case rel => exact ⟨j + 1, by go_num, by omega, rfl, hb3, HIn.out hs⟩
        | false =>
          rw [hs] at HEq
          go_wp2_with fail
          refine Calls.mono HEq.out ?_
          rintro e w1 ⟨rfl, hb3⟩
          clear p0 p1 p2 p3 k0 k1 k2 k3 x0 x1 x2 x3 y0 y1 y2 y3 HEq
          go_wp2_with fail
          go_ret
          exact ⟨by rw [HFj.out hs]; rfl, hb3⟩
      · have HRt : Hid (R = true) := HT.out fun i h1 h2 => HI.out i h1 h2 (by omega)
        clear HT HF HI
        go_wp2_with fail
        go_ret
        exact ⟨by rw [HRt.out]; rfl, hbw⟩
  · have hne : ((l.length : Int) != (m.length : Int)) = true := by simp; omega
    have HRf : Hid (R = false) := by
      show R = false
      rw [hR]
      unfold eqL
      rw [decide_eq_false hlm]
      rfl
    clear hr1 hr2 hR
    go_enter Try.func70, Try.ntmps70
    go_wp2_with fail
    go_ret
    exact ⟨by rw [HRf.out]; rfl, Below.refl _ _⟩

theorem all2_cong2 {f g : VT → VT → Bool} : ∀ (l m : List VT), (∀ x ∈ l, ∀ y ∈ m, f x y = g x y) → all2 f l m = all2 g l m
  | [], _, _ => by simp [all2]
  | _ :: _, [], _ => by simp [all2]
  | x :: xs, y :: ys, h => by
    simp only [all2]
    rw [h x (by simp) y (by simp), all2_cong2 xs ys fun a ha b hb => h a (by simp [ha]) b (by simp [hb])]

set_option maxRecDepth 100000 in
set_option maxHeartbeats 4000000 in
theorem rsame_any (l m : List VT) (p q : Value) (w : World) (h1 : VV w l p) (h2 : VV w m q) : Calls Try.prog 49 #[p, q] w fun e w' => e = .returned (.bool (eqL (sameV 16) l m)) ∧ Below w.heap.size w w' := by
  obtain ⟨po, rfl⟩ := h1.vc.shape
  obtain ⟨qo, rfl⟩ := h2.vc.shape
  have HK1 : Hid _ := kept_any 16 l _ w h1.vc h1.len
  have HV2 : Hid (VV w m (.pointer qo)) := h2
  have hlen := h1.len
  obtain ⟨R, hR⟩ : ∃ R, R = eqL (sameV 16) l m := ⟨_, rfl⟩
  rw [← hR]
  have HR : Hid (eqL (fun x y => cmpV 16 x y == 0) l m = R) := by
    show _ = _
    rw [hR]
    unfold eqL
    rw [all2_cong2 l m fun x hx y hy => right_same 16 x y (List.all_eq_true.1 h1.right x hx) (List.all_eq_true.1 h2.right y hy)]
  clear h1 h2 hR
  go_enter Try.func49, Try.ntmps49
  go_wp2_with fail
  refine Calls.mono HK1.out ?_
  rintro e w1 ⟨u1, rfl, ⟨ps, hps, hown, hsd⟩, hg1⟩
  have HL1 : Hid (Lies 17 w1 l u1) := by
    have h9 := own_lies (d := 16) rfl hown (fun p hp => (hsd p hp).keeps hg1) (by have := congrArg List.length hps; rw [List.length_map] at this; omega)
    rw [hps] at h9
    exact h9
  have HK2 : Hid _ := kept_any 16 m _ w1 (HV2.out.keeps hg1).vc HV2.out.len
  obtain ⟨a1, c1, rfl, _⟩ := Lies.slice HL1.out
  clear HK1 hown hsd hps
  go_wp2_with fail
  refine Calls.mono HK2.out ?_
  rintro e w2 ⟨u2, rfl, ⟨pm, hpm, hown, hsd⟩, hg2⟩
  have hm2 := HV2.out.len
  have HL2 : Hid (Lies 17 w2 m u2) := by
    have h9 := own_lies (d := 16) rfl hown (fun p hp => (hsd p hp).keeps hg2) (by have := congrArg List.length hpm; rw [List.length_map] at this; omega)
    rw [hpm] at h9
    exact h9
  have HEq : Hid _ := eqf_any 16 l m _ u2 w2 (Lies.keeps hg2 _ _ _ HL1.out) HL2.out hlen
  have hb2 : Below w.heap.size w w2 := hg1.trans (hg2.mono hg1.size)
  obtain ⟨a2, c2, rfl, _⟩ := Lies.slice HL2.out
  rw [HR.out] at HEq
  clear HK2 hown hsd hpm HL1 HL2 HR
  go_wp2_with fail
  refine Calls.mono HEq.out ?_
  rintro e w3 ⟨rfl, hg3⟩
  have hb3 : Below w.heap.size w w3 := hb2.trans (hg3.mono hb2.size)
  clear HEq
  go_wp2_with fail
  go_ret
  exact ⟨rfl, hb3⟩

end Go.Proofs.Ytpnfmcmhcjekfab

namespace Go.Proofs.Ytpnfmcmhcjekfab
open Go.RowKit

/-- A step: its kind, its place, its value. -/
abbrev StepP : Type := Int × Int × (VT × Value)

/-- The six cells of a step. -/
def SixAt (w : World) (b o : Nat) (s : StepP) : Prop :=
  w.cell? ⟨b, o, none⟩ = some (.int .i64 s.1) ∧ w.cell? ⟨b, o + 1, none⟩ = some (.int .i64 s.2.1) ∧ w.cell? ⟨b, o + 2, none⟩ = some (.int .i64 s.2.2.1.kind) ∧ w.cell? ⟨b, o + 3, none⟩ = some (.int .i64 s.2.2.1.num) ∧ w.cell? ⟨b, o + 4, none⟩ = some (.string s.2.2.1.text) ∧ w.cell? ⟨b, o + 5, none⟩ = some s.2.2.2

/-- A slice of steps. -/
def SlS (n : Nat) (w : World) (ss : List StepP) (v : Value) : Prop :=
  ∃ a c, v = .slice a ss.length c ∧ ss.length ≤ c ∧ ss.length ≤ 9223372036854775807 ∧ (ss ≠ [] → ∃ b o, a = some ⟨b, o, none⟩ ∧ ∀ (i : Nat) (h : i < ss.length), SixAt w b (o + i * 6) (ss[i]'h)) ∧ ∀ s ∈ ss, Sound n w s.2.2

/-- What a step holds, wherever it is looked at. -/
theorem SlS.at {n : Nat} {w : World} {ss : List StepP} {v : Value} (h : SlS n w ss v) : ∃ a c, v = .slice a ss.length c ∧ ss.length ≤ c ∧ ss.length ≤ 9223372036854775807 ∧ ∀ (j : Nat), j < ss.length → ∃ (b o : Nat) (k t : Int) (x : VT) (ax : Option Addr) (cx : Nat), a = some ⟨b, o, none⟩ ∧ ss[j]? = some (k, t, (x, .slice ax x.items.length cx)) ∧ Lies n w x.items (.slice ax x.items.length cx) ∧ x.text.size ≤ 9223372036854775807 ∧ ∀ W, Below w.heap.size w W → SixAt W b (o + j * 6) (k, t, (x, .slice ax x.items.length cx)) ∧ b < W.heap.size := by
  obtain ⟨a, c, hv, h1, h2, hr, hs⟩ := h
  refine ⟨a, c, hv, h1, h2, fun j hj => ?_⟩
  obtain ⟨b, o, ha, hcs⟩ := hr (fun e => by rw [e] at hj; cases hj)
  obtain ⟨⟨k, t, x, u⟩, hx⟩ : ∃ x, x = ss[j] := ⟨_, rfl⟩
  have hc := hcs j hj
  have hsd := hs _ (List.getElem_mem hj)
  rw [← hx] at hc hsd
  obtain ⟨ax, cx, hu, _⟩ := Lies.slice hsd.1
  simp only at hu
  subst hu
  refine ⟨b, o, k, t, x, ax, cx, ha, by rw [List.getElem?_eq_getElem hj, hx], hsd.1, hsd.2, fun W hW => ?_⟩
  obtain ⟨c0, c1, c2, c3, c4, c5⟩ := hc
  exact ⟨⟨cell_keeps hW c0, cell_keeps hW c1, cell_keeps hW c2, cell_keeps hW c3, cell_keeps hW c4, cell_keeps hW c5⟩, cell_lt (cell_keeps hW c0)⟩

end Go.Proofs.Ytpnfmcmhcjekfab

namespace Go.Proofs.Ytpnfmcmhcjekfab
open Go.RowKit

/-- An empty vector, nil or not. -/
theorem vv_nil (w : World) : VV w [] (.pointer none) := ⟨.inl ⟨rfl, rfl⟩, by simp, rfl⟩

set_option maxRecDepth 100000 in
theorem new_any (w : World) : Calls Try.prog 63 #[] w fun e w' => ∃ b, e = .returned (.pointer (some ⟨b, 0, none⟩)) ∧ VV w' [] (.pointer (some ⟨b, 0, none⟩)) ∧ Below w.heap.size w w' := by
  have HE : Hid (VV (w.alloc (.cells #[.nilIface] 72)) [] (.pointer (some ⟨w.heap.size, 0, none⟩)) ∧ Below w.heap.size w (w.alloc (.cells #[.nilIface] 72))) := ⟨⟨VC.made (.inl ⟨rfl, rfl⟩) _, by simp, rfl⟩, ((Grew.refl w).alloc _).below⟩
  go_enter Try.func63, Try.ntmps63
  go_wp2_with fail
  go_ret
  exact ⟨_, rfl, HE.out.1, HE.out.2⟩

end Go.Proofs.Ytpnfmcmhcjekfab

namespace Go.Proofs.Ytpnfmcmhcjekfab
open Go.RowKit

/-- Block g holds the values ps, to be written; what w0 had is as it was. -/
structure RowV (w0 : World) (g : Nat) (ps : List PR) (w : World) : Prop where
  row : RowAt w g 0 ps
  soft : Soft w g ps.length
  lt : g < w.heap.size
  below : Below w0.heap.size w0 w

theorem size_setCellsV (b : Nat) : ∀ (vs : List Value) (o : Nat) (w : World), (w.setCells b o vs).heap.size = w.heap.size := by
  intro vs
  induction vs with
  | nil => intro o w; rfl
  | cons v vs ih => intro o w; rw [World.setCells, ih]; simp [World.setCell]

theorem RowV.keeps {w0 w w' : World} {g : Nat} {ps : List PR} (h : RowV w0 g ps w) (hb : Below w.heap.size w w') : RowV w0 g ps w' :=
  ⟨h.row.keeps hb, h.soft.keeps h.lt hb, Nat.lt_of_lt_of_le h.lt hb.size, h.below.trans (hb.mono h.below.size)⟩

theorem RowV.at {w0 w : World} {g : Nat} {ps : List PR} (h : RowV w0 g ps w) (i : Nat) (hi : i < ps.length) :
    w.cell? ⟨g, i * 4, none⟩ = some (.int .i64 ps[i].1.kind) ∧ w.cell? ⟨g, i * 4 + 1, none⟩ = some (.int .i64 ps[i].1.num) ∧ w.cell? ⟨g, i * 4 + 2, none⟩ = some (.string ps[i].1.text) ∧ w.cell? ⟨g, i * 4 + 3, none⟩ = some ps[i].2 := by
  have := h.row i hi
  simpa only [Nat.zero_add] using this

theorem RowV.fzs {w0 w : World} {g : Nat} {ps : List PR} (h : RowV w0 g ps w) (i : Nat) (hi : i < ps.length) :
    w.frozen? ⟨g, i * 4, none⟩ = false ∧ w.frozen? ⟨g, i * 4 + 1, none⟩ = false ∧ w.frozen? ⟨g, i * 4 + 2, none⟩ = false ∧ w.frozen? ⟨g, i * 4 + 3, none⟩ = false :=
  ⟨h.soft _ (by omega), h.soft _ (by omega), h.soft _ (by omega), h.soft _ (by omega)⟩

theorem RowV.put {w0 w : World} {g : Nat} {ps : List PR} (h : RowV w0 g ps w) (hg : w0.heap.size ≤ g) (k : Nat) (hk : k < ps.length) (p : PR) : RowV w0 g (ps.set k p) (w.setCells g (k * 4) (encP p)) :=
  ⟨h.row.put k hk p, by rw [List.length_set]; exact h.soft.put _ _, by rw [size_setCellsV]; exact h.lt, below_setCellsB g w0.heap.size hg _ _ _ _ h.below⟩

theorem RowV.swap {w0 w : World} {g : Nat} {ps : List PR} (h : RowV w0 g ps w) (hg : w0.heap.size ≤ g) (i j : Nat) (hi : i < ps.length) (hj : j < ps.length) :
    RowV w0 g ((ps.set i ps[j]).set j ps[i]) ((w.setCells g (i * 4) (encP ps[j])).setCells g (j * 4) (encP ps[i])) :=
  (h.put hg i hi ps[j]).put hg j (by rw [List.length_set]; exact hj) ps[i]

/-- The first k and the last k are turned about. -/
def TurnK (ps qs : List PR) (k : Nat) : Prop := qs.length = ps.length ∧ ∀ x, x < ps.length → qs[x]? = if x < k ∨ ps.length - k ≤ x then ps[ps.length - 1 - x]? else ps[x]?

theorem TurnK.zero (ps : List PR) : TurnK ps ps 0 := ⟨rfl, fun x hx => by rw [if_neg (by omega)]⟩

theorem TurnK.step {ps qs : List PR} {k y : Nat} (h : TurnK ps qs k) (hy : y = ps.length - 1 - k) (hk : k < y) (h1 : k < qs.length) (h2 : y < qs.length) : TurnK ps ((qs.set k qs[y]).set y qs[k]) (k + 1) := by
  have hl := h.1
  refine ⟨by simp [hl], fun x hx => ?_⟩
  by_cases e1 : x = y
  · subst e1
    rw [List.getElem?_set_self (by simp; omega), if_pos (by omega), ← List.getElem?_eq_getElem h1, h.2 k (by omega), if_neg (by omega)]
    congr 1
    omega
  · rw [List.getElem?_set_ne (Ne.symm e1)]
    by_cases e2 : x = k
    · subst e2
      rw [List.getElem?_set_self (by omega), if_pos (by omega), ← List.getElem?_eq_getElem h2, h.2 y (by omega), if_neg (by omega), hy]
    · rw [List.getElem?_set_ne (Ne.symm e2), h.2 x hx]
      by_cases e3 : x < k ∨ ps.length - k ≤ x
      · rw [if_pos e3, if_pos (by omega)]
      · rw [if_neg e3, if_neg (by omega)]

theorem TurnK.done {ps qs : List PR} {k : Nat} (h : TurnK ps qs k) (hk : ps.length ≤ 2 * k + 1) : qs = ps.reverse := by
  apply List.ext_getElem?
  intro x
  by_cases hx : x < ps.length
  · rw [List.getElem?_reverse hx, h.2 x hx]
    by_cases e : x < k ∨ ps.length - k ≤ x
    · rw [if_pos e]
    · rw [if_neg e]
      congr 1
      omega
  · rw [List.getElem?_eq_none (by rw [h.1]; omega), List.getElem?_eq_none (by simp; omega)]

theorem TurnK.mem {ps qs : List PR} {k : Nat} (h : TurnK ps qs k) : ∀ q ∈ qs, q ∈ ps := fun q hq => by
  obtain ⟨x, hx, rfl⟩ := List.mem_iff_getElem.1 hq
  have h9 := h.2 x (by rw [← h.1]; exact hx)
  rw [List.getElem?_eq_getElem hx] at h9
  by_cases e : x < k ∨ ps.length - k ≤ x
  · rw [if_pos e] at h9
    exact List.mem_of_getElem? h9.symm
  · rw [if_neg e] at h9
    exact List.mem_of_getElem? h9.symm

set_option maxRecDepth 100000 in
set_option maxHeartbeats 16000000 in
theorem reverse_row (w0 : World) (g cap : Nat) (ps : List PR) (w : World) (hg : w0.heap.size ≤ g) (hR : RowV w0 g ps w) (hS : ∀ p ∈ ps, ∃ a n c, p.2 = .slice a n c) (hlen : ps.length ≤ 65536) (hne : ps ≠ []) :
    Calls Try.prog 69 #[.slice (some ⟨g, 0, none⟩) ps.length cap] w fun e w' => e = .returned (.tuple #[]) ∧ RowV w0 g ps.reverse w' := by
  have HR0 : Hid (RowV w0 g ps w) := hR
  have HS : Hid (∀ p ∈ ps, ∃ a n c, p.2 = .slice a n c) := hS
  have hL1 : 1 ≤ ps.length := by cases ps with
    | nil => exact absurd rfl hne
    | cons => simp
  obtain ⟨L, hL⟩ : ∃ L, L = ps.length := ⟨_, rfl⟩
  have HL : Hid (L = ps.length) := hL
  have HT0 : Hid (TurnK ps ps 0) := TurnK.zero ps
  rw [← hL] at hlen hL1 ⊢
  have hw0 : IntKind.i64.wrap ((L : Int) - 1) = ((L - 1 : Nat) : Int) := by rw [IntKind.wrap_i64]; omega
  clear hR hS hL hne
  go_enter Try.func69, Try.ntmps69
  go_wp2_with fail
  go_loopg [2, 3] L (fun z vi vj wr => ∃ (k y : Nat) (qs : List PR), vi = .int .i64 (k : Int) ∧ vj = .int .i64 (y : Int) ∧ k + y + 1 = L ∧ z = L - k ∧ Hid (TurnK ps qs k) ∧ Hid (RowV w0 g qs wr))
  case atStart => exact ⟨0, L - 1, ps, rfl, rfl, by omega, by omega, HT0, HR0⟩
  case round =>
    obtain ⟨x, y, qs, rfl, rfl, hxy, hk, HT, HM⟩ := hrel
    have Hk : Hid _ := hk
    clear hk HR0 HT0
    by_cases hlt : x < y
    · have hxl : x < qs.length := by rw [HT.out.1, ← HL.out]; omega
      have hyl : y < qs.length := by rw [HT.out.1, ← HL.out]; omega
      have HN : Hid (RowV w0 g ((qs.set x qs[y]).set y qs[x]) ((wr.setCells g (x * 4) (encP qs[y])).setCells g (y * 4) (encP qs[x])).drew) := (HM.out.swap hg x y hxl hyl).keeps (Grew.refl _).drew.below
      have HTn : Hid (TurnK ps ((qs.set x qs[y]).set y qs[x]) (x + 1)) := HT.out.step (by rw [← HL.out]; omega) hlt hxl hyl
      obtain ⟨p0, p1, p2, p3⟩ := HM.out.at x hxl
      obtain ⟨r0, r1, r2, r3⟩ := HM.out.at y hyl
      obtain ⟨f0, f1, f2, f3⟩ := HM.out.fzs x hxl
      obtain ⟨z0, z1, z2, z3⟩ := HM.out.fzs y hyl
      obtain ⟨pa, pn, pc, e1⟩ := HS.out _ (HT.out.mem _ (List.getElem_mem hxl))
      obtain ⟨ra, rn, rc, e3⟩ := HS.out _ (HT.out.mem _ (List.getElem_mem hyl))
      rw [e1] at p3; rw [e3] at r3
      simp only [encP, e1, e3] at HN
      generalize ((qs.set x qs[y]).set y qs[x]) = qn at *
      generalize qs[x] = p at *
      generalize qs[y] = r at *
      clear e1 e3 HT HM
      have hxi : (x : Int) < (L : Nat) := by omega
      have hyi : (y : Int) < (L : Nat) := by omega
      have hlti : (x : Int) < (y : Nat) := by omega
      have hwy : IntKind.i64.wrap ((y : Int) - 1) = ((y - 1 : Nat) : Int) := by rw [IntKind.wrap_i64]; omega
      have n00 : ¬ (y * 4 = x * 4) := by omega
      have n01 : ¬ (y * 4 = x * 4 + 1) := by omega
      have n02 : ¬ (y * 4 = x * 4 + 2) := by omega
      have n03 : ¬ (y * 4 = x * 4 + 3) := by omega
      have n10 : ¬ (y * 4 + 1 = x * 4) := by omega
      have n11 : ¬ (y * 4 + 1 = x * 4 + 1) := by omega
      have n12 : ¬ (y * 4 + 1 = x * 4 + 2) := by omega
      have n13 : ¬ (y * 4 + 1 = x * 4 + 3) := by omega
      have n20 : ¬ (y * 4 + 2 = x * 4) := by omega
      have n21 : ¬ (y * 4 + 2 = x * 4 + 1) := by omega
      have n22 : ¬ (y * 4 + 2 = x * 4 + 2) := by omega
      have n23 : ¬ (y * 4 + 2 = x * 4 + 3) := by omega
      have n30 : ¬ (y * 4 + 3 = x * 4) := by omega
      have n31 : ¬ (y * 4 + 3 = x * 4 + 1) := by omega
      have n32 : ¬ (y * 4 + 3 = x * 4 + 2) := by omega
      have n33 : ¬ (y * 4 + 3 = x * 4 + 3) := by omega
      clear hxl hyl
      go_wp2_with fail
      go_region
      clear p0 p1 p2 p3 r0 r1 r2 r3 f0 f1 f2 f3 z0 z1 z2 z3 n00 n01 n02 n03 n10 n11 n12 n13 n20 n21 n22 n23 n30 n31 n32 n33
      simp only [World.setCells] at HN
      go_wp2_with fail
      go_roundg (L - (x + 1))
      case measure => have := Hk.out; omega
      case rel => exact ⟨x + 1, y - 1, qn, by go_num, rfl, by omega, rfl, HTn, HN⟩
    · have hlti : ¬ (x : Int) < (y : Nat) := by omega
      have HE : Hid (RowV w0 g ps.reverse wr) := by
        rw [← HT.out.done (by rw [← HL.out]; omega)]
        exact HM.out
      clear HT HM
      go_wp2_with fail
      exact bodyPost_end (v := .tuple #[]) (by simp [results, Try.results69, go_sem]) rfl ⟨rfl, HE.out⟩

set_option maxRecDepth 100000 in
theorem reverse_none (a : Option Addr) (cap : Nat) (w : World) : Calls Try.prog 69 #[.slice a 0 cap] w fun e w' => e = .returned (.tuple #[]) ∧ w' = w := by
  go_enter Try.func69, Try.ntmps69
  go_wp2_with fail
  go_loopg [2, 3] 1 (fun z vi vj wr => vi = .int .i64 0 ∧ vj = .int .i64 (-1) ∧ z = 1 ∧ wr = w)
  case atStart => exact ⟨rfl, rfl, rfl, rfl⟩
  case round =>
    obtain ⟨rfl, rfl, hk, rfl⟩ := hrel
    clear hk
    go_wp2_with fail
    exact bodyPost_end (v := .tuple #[]) (by simp [results, Try.results69, go_sem]) rfl ⟨rfl, rfl⟩

/-- slices.Reverse of a list of one's own. -/
theorem reverse_any (d : Nat) (w0 : World) (ps : List PR) (v : Value) (w : World) (ho : w.ownsRow w0.heap.size 38 4 v ps.length (ps.flatMap encP)) (hs : ∀ p ∈ ps, Sound d w0 p) (hb : Below w0.heap.size w0 w) (hlen : ps.length ≤ 65536) :
    Calls Try.prog 69 #[v] w fun e w' => e = .returned (.tuple #[]) ∧ Below w0.heap.size w0 w' ∧ Lies (d + 1) w' (ps.reverse.map (·.1)) v := by
  by_cases hne : ps = []
  · subst hne
    have hv : ∃ a c, v = .slice a 0 c := by
      rcases ho.2 with ⟨rfl, _⟩ | ⟨g, cap, cur, rfl, _⟩
      · exact ⟨_, _, rfl⟩
      · exact ⟨_, _, rfl⟩
    obtain ⟨a, c, rfl⟩ := hv
    refine Calls.mono (reverse_none a c w) ?_
    rintro e w' ⟨rfl, rfl⟩
    exact ⟨rfl, hb, a, c, rfl, by simp, fun h => absurd rfl h⟩
  · obtain ⟨g, cap, rfl, hg, hcap, hlt, hrow, hfz⟩ := own_row ho hne
    refine Calls.mono (reverse_row w0 g cap ps w hg ⟨hrow, fun k _ => hfz k, hlt, hb⟩ (fun p hp => by obtain ⟨a, c, e, _⟩ := Lies.slice (hs p hp).1; exact ⟨_, _, _, e⟩) hlen hne) ?_
    rintro e w' ⟨rfl, hR⟩
    refine ⟨rfl, hR.below, ?_⟩
    have h9 := lies_of_row (d := d) (c := cap) hR.row (fun p hp => (hs p (List.mem_reverse.1 hp)).keeps hR.below) (by simp; omega) (by simpa using hcap)
    rw [List.length_reverse] at h9
    exact h9

set_option maxRecDepth 100000 in
set_option maxHeartbeats 4000000 in
theorem turned_any (l : List VT) (p : Value) (w : World) (h : VV w l p) : Calls Try.prog 48 #[p] w fun e w' => Below w.heap.size w w' ∧ ∃ b, e = .returned (.pointer (some ⟨b, 0, none⟩)) ∧ VV w' l.reverse (.pointer (some ⟨b, 0, none⟩)) := by
  obtain ⟨po, rfl⟩ := h.vc.shape
  have HK : Hid _ := kept_any 16 l _ w h.vc h.len
  have hlen := h.len
  have HRt : Hid (l.reverse.length ≤ 65536 ∧ l.reverse.all (rightV 16) = true) := ⟨by rw [List.length_reverse]; exact hlen, by rw [List.all_reverse]; exact h.right⟩
  clear h
  go_enter Try.func48, Try.ntmps48
  go_wp2_with fail
  refine Calls.mono HK.out ?_
  rintro e w1 ⟨v, rfl, ⟨ps, hps, ho, hsd⟩, hb1⟩
  have hpl : ps.length ≤ 65536 := by rw [← hps, List.length_map] at hlen; exact hlen
  have HV : Hid _ := reverse_any 16 w ps v w1 ho hsd hb1 hpl
  have HM : Hid (ps.reverse.map (·.1) = l.reverse) := by
    show _ = _
    rw [List.map_reverse, hps]
  have hvs : ∃ a n c, v = .slice a n c := by
    rcases ho.2 with ⟨e, _⟩ | ⟨g, cap, cur, e, _⟩
    · exact ⟨_, _, _, e⟩
    · exact ⟨_, _, _, e⟩
  obtain ⟨a, n, c, rfl⟩ := hvs
  clear HK ho hsd hps hpl hlen hb1
  go_wp2_with fail
  refine Calls.mono HV.out ?_
  rintro e w2 ⟨rfl, hb2, hl2⟩
  rw [HM.out] at hl2
  have HG : Hid _ := grown_any l.reverse _ w2 hl2 HRt.out.1
  clear HV hl2
  go_wp2_with fail
  refine Calls.mono HG.out ?_
  rintro e w3 ⟨t, rfl, ht, hg3⟩
  have hb3 : Below w.heap.size w w3 := hb2.trans (hg3.mono hb2.size)
  have HE : Hid (Below w.heap.size w (w3.alloc (.cells #[t] 72)) ∧ VV (w3.alloc (.cells #[t] 72)) l.reverse (.pointer (some ⟨w3.heap.size, 0, none⟩))) := ⟨hb3.trans (((Grew.refl w3).alloc _).below.mono hb3.size), VC.made ht _, HRt.out.1, HRt.out.2⟩
  rcases ht.shape with hz | ⟨T, q, hz⟩
  · subst hz
    clear HG hg3 hb2 ht
    go_wp2_with fail
    go_ret
    exact ⟨HE.out.1, _, rfl, HE.out.2⟩
  · subst hz
    clear HG hg3 hb2 ht
    go_wp2_with fail
    go_ret
    exact ⟨HE.out.1, _, rfl, HE.out.2⟩

set_option maxRecDepth 100000 in
theorem creverse_any (l : List VT) (p : Value) (w : World) (h : VV w l p) : Calls Try.prog 25 #[p] w fun e w' => Below w.heap.size w w' ∧ ∃ b, e = .returned (.pointer (some ⟨b, 0, none⟩)) ∧ VV w' l.reverse (.pointer (some ⟨b, 0, none⟩)) := by
  obtain ⟨po, rfl⟩ := h.vc.shape
  have HT : Hid _ := turned_any l _ w h
  clear h
  go_enter Try.func25, Try.ntmps25
  go_wp2_with fail
  refine Calls.mono HT.out ?_
  rintro e w1 ⟨hb, b, rfl, hv⟩
  have HE : Hid (VV w1 l.reverse (.pointer (some ⟨b, 0, none⟩))) := hv
  clear HT hv
  go_wp2_with fail
  go_ret
  exact ⟨hb, b, rfl, HE.out⟩

end Go.Proofs.Ytpnfmcmhcjekfab

