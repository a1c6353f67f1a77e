/-
  The document's Cut.
-/
import Derived.Test.YtplahohaahfjmabVals2
import Derived.Test.YtplahohaahfjmabRis
import Derived.Test.YtplahohaahfjmabSpeaks11
import Derived.Deep.AppendLies
import Derived.Deep.RegionLaw
namespace Go.Proofs.Ytplahohaahfjmab
open Go.RowKit

set_option maxRecDepth 100000 in
set_option maxHeartbeats 4000000 in
theorem eqf_any (d : Nat) (l m : List VT) (u v : Value) (w : World) (hu : Lies (d + 1) w l u) (hv : Lies (d + 1) w m v) (hlen : l.length ≤ 65536) :
    Calls Try.prog 70 #[u, v, .func (.func 71) #[] #[]] w fun e w' => e = .returned (.bool (eqL (fun x y => cmpV d x y == 0) l m)) ∧ Below w.heap.size w w' := by
  obtain ⟨a1, c1, rfl, _, hr1⟩ := hu
  obtain ⟨a2, c2, rfl, _, hr2⟩ := hv
  obtain ⟨R, hR⟩ : ∃ R, R = eqL (fun x y => cmpV d x y == 0) l m := ⟨_, rfl⟩
  rw [← hR]
  by_cases hlm : l.length = m.length
  · have HT : Hid ((∀ (j : Nat) (h1 : j < l.length) (h2 : j < m.length), (cmpV d l[j] m[j] == 0) = true) → R = true) := fun h => by
      rw [hR]
      unfold eqL
      rw [decide_eq_true hlm, all2_of l m h]
      rfl
    have HF : Hid (∀ (j : Nat) (h1 : j < l.length) (h2 : j < m.length), (cmpV d l[j] m[j] == 0) = false → R = false) := fun j h1 h2 h => by
      rw [hR]
      unfold eqL
      cases e : all2 (fun x y => cmpV d x y == 0) l m with
      | false => simp
      | true => have h9 : (cmpV d l[j] m[j] == 0) = true := all2_get l m e j h1 h2; rw [h9] at h; cases h
    have Hr1 : Hid _ := hr1; have Hr2 : Hid _ := hr2
    clear hr1 hr2 hR
    have hne : ((l.length : Int) != (l.length : Int)) = false := by simp
    have Hlm : Hid (l.length = m.length) := hlm
    rw [← hlm]
    clear hlm
    go_enter Try.func70, Try.ntmps70
    go_wp2_with fail
    go_loopg [17] l.length (fun g i wr => ∃ j : Nat, i = .int .i64 (j : Int) ∧ j ≤ l.length ∧ g = l.length - j ∧ Below w.heap.size w wr ∧ Hid (∀ (i : Nat) (h1 : i < l.length) (h2 : i < m.length), i < j → (cmpV d l[i] m[i] == 0) = true))
    case atStart => exact ⟨0, rfl, by omega, by omega, Below.refl _ _, fun i _ _ h => absurd h (by omega)⟩
    case round =>
      obtain ⟨j, rfl, hj, hk, hbw, HI⟩ := hrel
      have Hk : Hid _ := hk
      clear hk hne
      by_cases hlt : j < l.length
      · have hlt2 : j < m.length := by have := Hlm.out; omega
        obtain ⟨b1, o1, rfl, hall1⟩ := Hr1.out (by intro e; simp [e] at hlt)
        obtain ⟨b2, o2, rfl, hall2⟩ := Hr2.out (by intro e; simp [e] at hlt2)
        obtain ⟨x, p0, p1, p2, p3, p4, _⟩ := hall1 j hlt
        obtain ⟨y, q0, q1, q2, q3, q4, _⟩ := hall2 j hlt2
        clear hall1 hall2
        obtain ⟨ax, cx, rfl, _⟩ := Lies.slice p4
        obtain ⟨ay, cy, rfl, _⟩ := Lies.slice q4
        have p0 := cell_keeps hbw p0; have p1 := cell_keeps hbw p1; have p2 := cell_keeps hbw p2; have p3 := cell_keeps hbw p3
        have q0 := cell_keeps hbw q0; have q1 := cell_keeps hbw q1; have q2 := cell_keeps hbw q2; have q3 := cell_keeps hbw q3
        have p4 : Hid (Lies d w l[j].items (.slice ax l[j].items.length cx)) := p4
        have q4 : Hid (Lies d w m[j].items (.slice ay m[j].items.length cy)) := q4
        have HIn : Hid ((cmpV d l[j] m[j] == 0) = true → ∀ (i : Nat) (h1 : i < l.length) (h2 : i < m.length), i < j + 1 → (cmpV d l[i] m[i] == 0) = true) := fun hs i h1 h2 hi => by
          by_cases e : i = j
          · subst e; exact hs
          · exact HI.out i h1 h2 (by omega)
        have HFj : Hid ((cmpV d l[j] m[j] == 0) = false → R = false) := HF.out j hlt hlt2
        clear HI
        generalize l[j] = X at *
        generalize m[j] = Y at *
        have hltm : (j : Int) < (l.length : Nat) := by omega
        obtain ⟨A1, hA1⟩ : ∃ A1, A1 = wr.alloc (.cells #[.int .i64 X.kind, .int .i64 X.num, .string X.text, .slice ax X.items.length cx] 38) := ⟨_, rfl⟩
        obtain ⟨A2, hA2⟩ : ∃ A2, A2 = A1.alloc (.cells #[.int .i64 Y.kind, .int .i64 Y.num, .string Y.text, .slice ay Y.items.length cy] 38) := ⟨_, rfl⟩
        have hg1 : Below wr.heap.size wr A1 := by rw [hA1]; exact ((Grew.refl wr).alloc _).below
        have hg2 : Below A1.heap.size A1 A2 := by rw [hA2]; exact ((Grew.refl A1).alloc _).below
        have hsz : A1.heap.size = wr.heap.size + 1 := by rw [hA1]; simp
        have hg12 : Below wr.heap.size wr A2 := hg1.trans (hg2.mono hg1.size)
        have hb2 : Below w.heap.size w A2 := hbw.trans (hg12.mono hbw.size)
        have BX : Hid (Bx A2 wr.heap.size X (.slice ax X.items.length cx)) := by
          have h9 : Bx A1 wr.heap.size X (.slice ax X.items.length cx) := by rw [hA1]; exact bx_alloc wr X _
          exact h9.keeps hg2
        have BY : Hid (Bx A2 (wr.heap.size + 1) Y (.slice ay Y.items.length cy)) := by
          rw [← hsz, hA2]
          exact bx_alloc A1 Y _
        have k0 := cell_keeps hg1 q0; have k1 := cell_keeps hg1 q1; have k2 := cell_keeps hg1 q2; have k3 := cell_keeps hg1 q3
        obtain ⟨x0, x1, x2, x3, _, _, _, _⟩ := BX.out
        obtain ⟨y0, y1, y2, y3, _, _, _, _⟩ := BY.out
        have HEq : Hid (Calls Try.prog 71 #[.agg #[.int .i64 X.kind, .int .i64 X.num, .string X.text, .slice ax X.items.length cx], .agg #[.int .i64 Y.kind, .int .i64 Y.num, .string Y.text, .slice ay Y.items.length cy]] A2 fun e W' => e = .returned (.bool (cmpV d X Y == 0)) ∧ Below w.heap.size w W') := (equal_any d X Y _ _ A2 (Lies.keeps hb2 _ _ _ p4.out) (Lies.keeps hb2 _ _ _ q4.out)).mono fun e W' h => ⟨h.1, hb2.trans (h.2.below.mono hb2.size)⟩
        rw [hA2, hA1] at HEq x0 x1 x2 x3 y0 y1 y2 y3
        rw [hA1] at k0 k1 k2 k3
        clear BX BY hA1 hA2 hg1 hg2 hg12 hsz hb2 p4 q4 q0 q1 q2 q3
        cases hs : (cmpV d X Y == 0) with
        | true =>
          rw [hs] at HEq
          go_wp2_with fail
          refine Calls.mono HEq.out ?_
          rintro e w1 ⟨rfl, hb3⟩
          clear p0 p1 p2 p3 k0 k1 k2 k3 x0 x1 x2 x3 y0 y1 y2 y3 HEq
          go_wp2_with fail
          go_roundg (l.length - (j + 1))
          case measure => have := Hk.out; omega
          case rel => exact ⟨j + 1, by go_num, by omega, rfl, hb3, HIn.out hs⟩
        | false =>
          rw [hs] at HEq
          go_wp2_with fail
          refine Calls.mono HEq.out ?_
          rintro e w1 ⟨rfl, hb3⟩
          clear p0 p1 p2 p3 k0 k1 k2 k3 x0 x1 x2 x3 y0 y1 y2 y3 HEq
          go_wp2_with fail
          go_ret
          exact ⟨by rw [HFj.out hs]; rfl, hb3⟩
      · have HRt : Hid (R = true) := HT.out fun i h1 h2 => HI.out i h1 h2 (by omega)
        clear HT HF HI
        go_wp2_with fail
        go_ret
        exact ⟨by rw [HRt.out]; rfl, hbw⟩
  · have hne : ((l.length : Int) != (m.length : Int)) = true := by simp; omega
    have HRf : Hid (R = false) := by
      show R = false
      rw [hR]
      unfold eqL
      rw [decide_eq_false hlm]
      rfl
    clear hr1 hr2 hR
    go_enter Try.func70, Try.ntmps70
    go_wp2_with fail
    go_ret
    exact ⟨by rw [HRf.out]; rfl, Below.refl _ _⟩

theorem all2_cong2 {f g : VT → VT → Bool} : ∀ (l m : List VT), (∀ x ∈ l, ∀ y ∈ m, f x y = g x y) → all2 f l m = all2 g l m
  | [], _, _ => by simp [all2]
  | _ :: _, [], _ => by simp [all2]
  | x :: xs, y :: ys, h => by
    simp only [all2]
    rw [h x (by simp) y (by simp), all2_cong2 xs ys fun a ha b hb => h a (by simp [ha]) b (by simp [hb])]

set_option maxRecDepth 100000 in
set_option maxHeartbeats 4000000 in
theorem rsame_any (l m : List VT) (p q : Value) (w : World) (h1 : VV w l p) (h2 : VV w m q) : Calls Try.prog 49 #[p, q] w fun e w' => e = .returned (.bool (eqL (sameV 16) l m)) ∧ Below w.heap.size w w' := by
  obtain ⟨po, rfl⟩ := h1.vc.shape
  obtain ⟨qo, rfl⟩ := h2.vc.shape
  have HK1 : Hid _ := kept_any 16 l _ w h1.vc h1.len
  have HV2 : Hid (VV w m (.pointer qo)) := h2
  have hlen := h1.len
  obtain ⟨R, hR⟩ : ∃ R, R = eqL (sameV 16) l m := ⟨_, rfl⟩
  rw [← hR]
  have HR : Hid (eqL (fun x y => cmpV 16 x y == 0) l m = R) := by
    show _ = _
    rw [hR]
    unfold eqL
    rw [all2_cong2 l m fun x hx y hy => right_same 16 x y (List.all_eq_true.1 h1.right x hx) (List.all_eq_true.1 h2.right y hy)]
  clear h1 h2 hR
  go_enter Try.func49, Try.ntmps49
  go_wp2_with fail
  refine Calls.mono HK1.out ?_
  rintro e w1 ⟨u1, rfl, ⟨ps, hps, hown, hsd⟩, hg1⟩
  have HL1 : Hid (Lies 17 w1 l u1) := by
    have h9 := own_lies (d := 16) rfl hown (fun p hp => (hsd p hp).keeps hg1) (by have := congrArg List.length hps; rw [List.length_map] at this; omega)
    rw [hps] at h9
    exact h9
  have HK2 : Hid _ := kept_any 16 m _ w1 (HV2.out.keeps hg1).vc HV2.out.len
  obtain ⟨a1, c1, rfl, _⟩ := Lies.slice HL1.out
  clear HK1 hown hsd hps
  go_wp2_with fail
  refine Calls.mono HK2.out ?_
  rintro e w2 ⟨u2, rfl, ⟨pm, hpm, hown, hsd⟩, hg2⟩
  have hm2 := HV2.out.len
  have HL2 : Hid (Lies 17 w2 m u2) := by
    have h9 := own_lies (d := 16) rfl hown (fun p hp => (hsd p hp).keeps hg2) (by have := congrArg List.length hpm; rw [List.length_map] at this; omega)
    rw [hpm] at h9
    exact h9
  have HEq : Hid _ := eqf_any 16 l m _ u2 w2 (Lies.keeps hg2 _ _ _ HL1.out) HL2.out hlen
  have hb2 : Below w.heap.size w w2 := hg1.trans (hg2.mono hg1.size)
  obtain ⟨a2, c2, rfl, _⟩ := Lies.slice HL2.out
  rw [HR.out] at HEq
  clear HK2 hown hsd hpm HL1 HL2 HR
  go_wp2_with fail
  refine Calls.mono HEq.out ?_
  rintro e w3 ⟨rfl, hg3⟩
  have hb3 : Below w.heap.size w w3 := hb2.trans (hg3.mono hb2.size)
  clear HEq
  go_wp2_with fail
  go_ret
  exact ⟨rfl, hb3⟩

end Go.Proofs.Ytplahohaahfjmab

namespace Go.Proofs.Ytplahohaahfjmab
open Go.RowKit

set_option maxRecDepth 100000 in
theorem rend_any (l : List VT) (a : Option Addr) (c : Nat) (i : Int) (w : World) : Calls Try.prog 41 #[.slice a l.length c, .int .i64 i] w fun e w' => e = .returned (.bool (decide (endB l i))) ∧ w' = w := by
  by_cases h0 : 0 ≤ i
  · by_cases h1 : i ≤ (l.length : Int)
    · rw [decide_eq_true (show endB l i from ⟨h0, h1⟩)]
      go_enter Try.func41, Try.ntmps41
      go_wp2_with fail
      go_ret
      exact ⟨rfl, rfl⟩
    · rw [decide_eq_false (fun h : endB l i => h1 h.2)]
      go_enter Try.func41, Try.ntmps41
      go_wp2_with fail
      go_ret
      exact ⟨rfl, rfl⟩
  · rw [decide_eq_false (fun h : endB l i => h0 h.1)]
    go_enter Try.func41, Try.ntmps41
    go_wp2_with fail
    go_ret
    exact ⟨rfl, rfl⟩

/-- Where a part of a list lies. -/
theorem src_part {w : World} {l : List VT} {g o c : Nat} (h : Lies 17 w l (.slice (some ⟨g, o, none⟩) l.length c)) (i j : Nat) (hj : j ≤ l.length) : ∃ ps : List (VT × Value), ps.map (·.1) = (l.take j).drop i ∧ ps.length = j - i ∧ Src w (some ⟨g, o + i * 4, none⟩) (j - i) 4 (ps.flatMap encP) ∧ ∀ p ∈ ps, Sound 16 w p := by
  have h1 := Lies.taken h j hj
  have e1 : (l.take j).length = j := by rw [List.length_take, Nat.min_eq_left hj]
  have h2 := Lies.dropped (l := l.take j) (by rw [e1]; exact h1) i
  have e2 : ((l.take j).drop i).length = j - i := by rw [List.length_drop, e1]
  rw [e1] at h2
  rw [← e2] at h2
  obtain ⟨ps, p1, p2, p3, p4⟩ := src_of h2
  rw [e2] at p3 p2
  exact ⟨ps, p1, p2, p3, p4⟩

/-- An empty list of one's own. -/
theorem own_empty (w : World) (base : Nat) (hb : base ≤ w.heap.size) : (w.alloc (.cells #[] 38)).ownsRow base 38 4 (.slice (some ⟨w.heap.size, 0, none⟩) 0 0) 0 [] := World.ownsRow_made w #[] 0 hb (by unfold maxLen; omega) rfl

set_option maxRecDepth 100000 in
set_option maxHeartbeats 8000000 in
theorem rslice_any (l : List VT) (a : Option Addr) (c : Nat) (i j : Int) (w : World) (hl : Lies 17 w l (.slice a l.length c)) (hlen : l.length ≤ 65536) : Calls Try.prog 13 #[.slice a l.length c, .int .i64 i, .int .i64 j] w (LstPost (sliceR l i j) w) := by
  obtain ⟨i0, hi0, hz0, hz1, hz2⟩ := info24
  have Hi : Hid _ := hi0; have Hz0 : Hid _ := hz0; have Hz1 : Hid _ := hz1; have Hz2 : Hid _ := hz2
  clear hi0 hz0 hz1 hz2
  have HE1 : Hid _ := rend_any l a c i w
  have HE2 : Hid _ := rend_any l a c j w
  obtain ⟨R, hR⟩ : ∃ R, R = sliceR l i j := ⟨_, rfl⟩
  rw [← hR]
  unfold sliceR at hR
  by_cases h1 : endB l i
  · rw [decide_eq_true h1] at HE1
    by_cases h2 : endB l j
    · rw [decide_eq_true h2] at HE2
      by_cases h3 : i ≤ j
      · rw [if_pos ⟨h1, h2, h3⟩] at hR
        obtain ⟨ni, rfl⟩ := Int.eq_ofNat_of_zero_le h1.1
        obtain ⟨nj, rfl⟩ := Int.eq_ofNat_of_zero_le h2.1
        rw [Int.toNat_natCast, Int.toNat_natCast] at hR
        have hjl : nj ≤ l.length := by have := h2.2; omega
        have hij : ni ≤ nj := by omega
        have hgt : ¬ ((nj : Nat) : Int) < (ni : Nat) := by omega
        have hba : Below w.heap.size w (w.alloc (.cells #[] 38)) := ((Grew.refl w).alloc _).below
        have Hown : Hid ((w.alloc (.cells #[] 38)).ownsRow w.heap.size 38 4 (.slice (some ⟨w.heap.size, 0, none⟩) 0 0) 0 []) := own_empty w _ (Nat.le_refl _)
        have HR : Hid (R = .inl ((l.take nj).drop ni)) := hR
        have hgr : ∀ (v5 : Value) (w5 : World) (ps : List (VT × Value)), ps.map (·.1) = (l.take nj).drop ni → (∀ p ∈ ps, Sound 16 w p) → w5.ownsRow w.heap.size 38 4 v5 ps.length (ps.flatMap encP) → (w.alloc (.cells #[] 38)).grownBy w5 (some w.heap.size) → ∃ a9 c9, v5 = .slice a9 ((l.take nj).drop ni).length c9 ∧ LstPost R w (.returned (.tuple #[v5, .int .i64 0])) w5 := fun v5 w5 ps h4 h5 h6 h7 => by
          have hb5 : Below w.heap.size w w5 := hba.grown h7 hba.size (fun k e => by injection e with e; omega)
          have h9 := own_lies (d := 16) rfl h6 (fun p hp => (h5 p hp).keeps hb5) (by have := congrArg List.length h4; rw [List.length_map, List.length_drop, List.length_take] at this; omega)
          rw [h4] at h9
          obtain ⟨a9, c9, rfl, _⟩ := Lies.slice h9
          refine ⟨a9, c9, rfl, ?_⟩
          rw [HR.out]
          exact ⟨hb5, a9, c9, rfl, h9⟩
        by_cases hne : ni = nj
        · subst hne
          have HF : Hid (∀ (v5 : Value) (w5 : World), w5.ownsRow w.heap.size 38 4 v5 0 [] → (w.alloc (.cells #[] 38)).grownBy w5 (some w.heap.size) → ∃ a9 c9, v5 = .slice a9 ((l.take ni).drop ni).length c9 ∧ LstPost R w (.returned (.tuple #[v5, .int .i64 0])) w5) := fun v5 w5 h6 h7 => hgr v5 w5 [] (by rw [List.drop_eq_nil_of_le (by rw [List.length_take]; omega)]; rfl) (fun p hp => by cases hp) h6 h7
          have hnc : ni ≤ c := by obtain ⟨_, _, e, h, _⟩ := hl; injection e with _ _ e; omega
          have hnci : (ni : Int) ≤ (c : Nat) := by omega
          have hself : ¬ ((ni : Nat) : Int) < (ni : Nat) := by omega
          clear hgr hl hR
          by_cases hcn : c = ni
          · subst hcn
            cases a with
            | none =>
              go_enter Try.func13, Try.ntmps13
              go_wp2_with fail
              refine Calls.mono HE1.out ?_
              rintro e w1 ⟨rfl, hw1⟩
              obtain rfl : w = w1 := hw1.symm
              go_wp2_with fail
              refine Calls.mono HE2.out ?_
              rintro e w1 ⟨rfl, hw1⟩
              obtain rfl : w = w1 := hw1.symm
              clear HE1 HE2
              go_wp2_with (at_builtin; refine wpList_append_row rfl _ _ rfl w.heap.size i0 Hi.out Hz0.out Hz1.out Hz2.out (.slice (some ⟨w.heap.size, 0, none⟩) 0 0) 0 [] rfl Hown.out _ _ _ [] rfl (fun _ => rfl) rfl (fun _ _ _ _ hu => by simp at hu) (fun u hu => by cases hu) (by unfold maxLen; omega) (by omega) hba.size ?_; intro v5 w5 hown5 hgrow5)
              obtain ⟨a9, c9, rfl, hfin⟩ := HF.out v5 w5 (by simpa using hown5) hgrow5
              have HE : Hid _ := hfin
              clear hown5 hgrow5 hfin
              go_wp2_with fail
              go_ret2
              exact HE.out

            | some ad =>
              go_enter Try.func13, Try.ntmps13
              go_wp2_with fail
              refine Calls.mono HE1.out ?_
              rintro e w1 ⟨rfl, hw1⟩
              obtain rfl : w = w1 := hw1.symm
              go_wp2_with fail
              refine Calls.mono HE2.out ?_
              rintro e w1 ⟨rfl, hw1⟩
              obtain rfl : w = w1 := hw1.symm
              clear HE1 HE2
              go_wp2_with (at_builtin; refine wpList_append_row rfl _ _ rfl w.heap.size i0 Hi.out Hz0.out Hz1.out Hz2.out (.slice (some ⟨w.heap.size, 0, none⟩) 0 0) 0 [] rfl Hown.out _ _ _ [] rfl (fun _ => rfl) rfl (fun _ _ _ _ hu => by simp at hu) (fun u hu => by cases hu) (by unfold maxLen; omega) (by omega) hba.size ?_; intro v5 w5 hown5 hgrow5)
              obtain ⟨a9, c9, rfl, hfin⟩ := HF.out v5 w5 (by simpa using hown5) hgrow5
              have HE : Hid _ := hfin
              clear hown5 hgrow5 hfin
              go_wp2_with fail
              go_ret2
              exact HE.out

          · have hcni : ¬ ((c : Nat) : Int) = (ni : Nat) := by omega
            cases a with
            | none =>
              go_enter Try.func13, Try.ntmps13
              go_wp2_with fail
              refine Calls.mono HE1.out ?_
              rintro e w1 ⟨rfl, hw1⟩
              obtain rfl : w = w1 := hw1.symm
              go_wp2_with fail
              refine Calls.mono HE2.out ?_
              rintro e w1 ⟨rfl, hw1⟩
              obtain rfl : w = w1 := hw1.symm
              clear HE1 HE2
              go_wp2_with (at_builtin; refine wpList_append_row rfl _ _ rfl w.heap.size i0 Hi.out Hz0.out Hz1.out Hz2.out (.slice (some ⟨w.heap.size, 0, none⟩) 0 0) 0 [] rfl Hown.out _ _ _ [] rfl (fun _ => rfl) rfl (fun _ _ _ _ hu => by simp at hu) (fun u hu => by cases hu) (by unfold maxLen; omega) (by omega) hba.size ?_; intro v5 w5 hown5 hgrow5)
              obtain ⟨a9, c9, rfl, hfin⟩ := HF.out v5 w5 (by simpa using hown5) hgrow5
              have HE : Hid _ := hfin
              clear hown5 hgrow5 hfin
              go_wp2_with fail
              go_ret2
              exact HE.out

            | some ad =>
              go_enter Try.func13, Try.ntmps13
              go_wp2_with fail
              refine Calls.mono HE1.out ?_
              rintro e w1 ⟨rfl, hw1⟩
              obtain rfl : w = w1 := hw1.symm
              go_wp2_with fail
              refine Calls.mono HE2.out ?_
              rintro e w1 ⟨rfl, hw1⟩
              obtain rfl : w = w1 := hw1.symm
              clear HE1 HE2
              go_wp2_with (at_builtin; refine wpList_append_row rfl _ _ rfl w.heap.size i0 Hi.out Hz0.out Hz1.out Hz2.out (.slice (some ⟨w.heap.size, 0, none⟩) 0 0) 0 [] rfl Hown.out _ _ _ [] rfl (fun _ => rfl) rfl (fun _ _ _ _ hu => by simp at hu) (fun u hu => by cases hu) (by unfold maxLen; omega) (by omega) hba.size ?_; intro v5 w5 hown5 hgrow5)
              obtain ⟨a9, c9, rfl, hfin⟩ := HF.out v5 w5 (by simpa using hown5) hgrow5
              have HE : Hid _ := hfin
              clear hown5 hgrow5 hfin
              go_wp2_with fail
              go_ret2
              exact HE.out

        · have hlt : ni < nj := by omega
          obtain ⟨g, o, rfl, hcl⟩ := Lies.some_at hl (by omega)
          obtain ⟨ps, hp1, hp2, hsrc, hsd⟩ := src_part hl ni nj hjl
          have HS : Hid (Src w (some ⟨g, o + ni * 4, none⟩) (nj - ni) 4 (ps.flatMap encP)) := hsrc
          have HF : Hid (∀ (v5 : Value) (w5 : World), w5.ownsRow w.heap.size 38 4 v5 (nj - ni) (ps.flatMap encP) → (w.alloc (.cells #[] 38)).grownBy w5 (some w.heap.size) → ∃ a9 c9, v5 = .slice a9 ((l.take nj).drop ni).length c9 ∧ LstPost R w (.returned (.tuple #[v5, .int .i64 0])) w5) := fun v5 w5 h6 h7 => hgr v5 w5 ps hp1 hsd (by rw [hp2]; exact h6) h7
          have hnc : nj ≤ c := by omega
          have hnci : (nj : Int) ≤ (c : Nat) := by omega
          have hcn : ¬ (c = ni) := by omega
          have hcni : ¬ ((c : Nat) : Int) = (ni : Nat) := by omega
          have hiji : (ni : Int) ≤ (nj : Nat) := by omega
          clear hgr hl hR hp1 hsd hsrc
          go_enter Try.func13, Try.ntmps13
          go_wp2_with fail
          refine Calls.mono HE1.out ?_
          rintro e w1 ⟨rfl, hw1⟩
          obtain rfl : w = w1 := hw1.symm
          go_wp2_with fail
          refine Calls.mono HE2.out ?_
          rintro e w1 ⟨rfl, hw1⟩
          obtain rfl : w = w1 := hw1.symm
          clear HE1 HE2
          go_wp2_with (at_builtin; refine wpList_append_row rfl _ _ rfl w.heap.size i0 Hi.out Hz0.out Hz1.out Hz2.out (.slice (some ⟨w.heap.size, 0, none⟩) 0 0) 0 [] rfl Hown.out _ _ _ (ps.flatMap encP) rfl HS.out.none HS.out.len (HS.out.cell hba) HS.out.one (by unfold maxLen; omega) (by omega) hba.size ?_; intro v5 w5 hown5 hgrow5)
          obtain ⟨a9, c9, rfl, hfin⟩ := HF.out v5 w5 (by simpa using hown5) hgrow5
          have HE : Hid _ := hfin
          clear hown5 hgrow5 hfin
          go_wp2_with fail
          go_ret2
          exact HE.out
      · rw [if_neg (fun h => h3 h.2.2)] at hR
        have hgt : ((j : Int) < i) := by omega
        have HR : Hid (R = .inr 5) := hR
        clear hl hlen hR
        go_enter Try.func13, Try.ntmps13
        go_wp2_with fail
        refine Calls.mono HE1.out ?_
        rintro e w1 ⟨rfl, hw1⟩
        obtain rfl : w = w1 := hw1.symm
        go_wp2_with fail
        refine Calls.mono HE2.out ?_
        rintro e w1 ⟨rfl, hw1⟩
        obtain rfl : w = w1 := hw1.symm
        have HE : Hid (LstPost R w (.returned (.tuple #[.slice none 0 0, .int .i64 5])) w) := by
          show LstPost _ _ _ _
          rw [HR.out]
          exact ⟨Below.refl _ _, rfl⟩
        clear HE1 HE2
        go_wp2_with fail
        go_ret2
        exact HE.out
    · rw [decide_eq_false h2] at HE2
      rw [if_neg (fun h => h2 h.2.1)] at hR
      have HR : Hid (R = .inr 5) := hR
      clear hl hlen hR
      go_enter Try.func13, Try.ntmps13
      go_wp2_with fail
      refine Calls.mono HE1.out ?_
      rintro e w1 ⟨rfl, hw1⟩
      obtain rfl : w = w1 := hw1.symm
      go_wp2_with fail
      refine Calls.mono HE2.out ?_
      rintro e w1 ⟨rfl, hw1⟩
      obtain rfl : w = w1 := hw1.symm
      have HE : Hid (LstPost R w (.returned (.tuple #[.slice none 0 0, .int .i64 5])) w) := by
        show LstPost _ _ _ _
        rw [HR.out]
        exact ⟨Below.refl _ _, rfl⟩
      clear HE1 HE2
      go_wp2_with fail
      go_ret2
      exact HE.out
  · rw [decide_eq_false h1] at HE1
    rw [if_neg (fun h => h1 h.1)] at hR
    have HR : Hid (R = .inr 5) := hR
    clear hl hlen hR
    go_enter Try.func13, Try.ntmps13
    go_wp2_with fail
    refine Calls.mono HE1.out ?_
    rintro e w1 ⟨rfl, hw1⟩
    obtain rfl : w = w1 := hw1.symm
    have HE : Hid (LstPost R w (.returned (.tuple #[.slice none 0 0, .int .i64 5])) w) := by
      show LstPost _ _ _ _
      rw [HR.out]
      exact ⟨Below.refl _ _, rfl⟩
    clear HE1 HE2
    go_wp2_with fail
    go_ret2
    exact HE.out

end Go.Proofs.Ytplahohaahfjmab

namespace Go.Proofs.Ytplahohaahfjmab
open Go.RowKit

/-- Two rows of one's own, apart. -/
structure Cs (w W : World) (vA : Value) (nA : Nat) (xA : List Value) (vB : Value) (nB : Nat) (xB : List Value) : Prop where
  below : Below w.heap.size w W
  a : W.ownsRow w.heap.size 38 4 vA nA xA
  b : W.ownsRow w.heap.size 38 4 vB nB xB
  ne : vA.ownBlock = none ∨ vA.ownBlock ≠ vB.ownBlock

theorem Cs.symm {w W : World} {vA : Value} {nA : Nat} {xA : List Value} {vB : Value} {nB : Nat} {xB : List Value} (h : Cs w W vA nA xA vB nB xB) : Cs w W vB nB xB vA nA xA :=
  ⟨h.below, h.b, h.a, by
    cases e : vB.ownBlock with
    | none => exact .inl rfl
    | some k =>
      refine .inr (fun e2 => ?_)
      rcases h.ne with e3 | e3
      · rw [e3] at e2; cases e2
      · exact e3 (by rw [e, ← e2])⟩

theorem Cs.drew {w W : World} {vA : Value} {nA : Nat} {xA : List Value} {vB : Value} {nB : Nat} {xB : List Value} (h : Cs w W vA nA xA vB nB xB) : Cs w W.drew vA nA xA vB nB xB := ⟨h.below.drew, h.a.drew, h.b.drew, h.ne⟩

theorem Cs.start (w : World) : Cs w w (.slice none 0 0) 0 [] (.slice none 0 0) 0 [] := ⟨Below.refl _ _, World.ownsRow_nil _ _ _ _, World.ownsRow_nil _ _ _ _, .inl rfl⟩

theorem Cs.made {w W : World} {vB : Value} {nB : Nat} {xB : List Value} (h : Cs w W (.slice none 0 0) 0 [] vB nB xB) : Cs w (W.alloc (.cells #[] 38)) (.slice (some ⟨W.heap.size, 0, none⟩) 0 0) 0 [] vB nB xB :=
  ⟨h.below.alloc h.below.size _, own_empty W _ h.below.size, h.b.alloc _, .inr (fun e => by
    have : W.heap.size < W.heap.size := (h.b.lt _ e.symm).2
    omega)⟩

theorem Cs.made2 {w W : World} {vA : Value} {nA : Nat} {xA : List Value} (h : Cs w W vA nA xA (.slice none 0 0) 0 []) : Cs w (W.alloc (.cells #[] 38)) vA nA xA (.slice (some ⟨W.heap.size, 0, none⟩) 0 0) 0 [] := h.symm.made.symm

theorem Cs.madeG {w W : World} {vB : Value} {nB : Nat} {xB : List Value} {g : Nat} (h : Cs w W (.slice none 0 0) 0 [] vB nB xB) (hg : W.heap.size = g) : Cs w (W.alloc (.cells #[] 38)) (.slice (some ⟨g, 0, none⟩) 0 0) 0 [] vB nB xB := hg ▸ h.made

theorem Cs.made2G {w W : World} {vA : Value} {nA : Nat} {xA : List Value} {g : Nat} (h : Cs w W vA nA xA (.slice none 0 0) 0 []) (hg : W.heap.size = g) : Cs w (W.alloc (.cells #[] 38)) vA nA xA (.slice (some ⟨g, 0, none⟩) 0 0) 0 [] := hg ▸ h.made2

theorem Src.nil (w : World) (a : Option Addr) : Src w a 0 4 [] := ⟨fun _ => rfl, rfl, fun _ _ _ _ h => by simp at h, fun u h => by cases h⟩

/-- A source appended to the first one, while it is empty. -/
theorem Cs.step {w W : World} {ops : Array Oper} {o : Oper} {act : Act} {K : Act → World → Prop} {Q : Exit → Act → World → Prop} {E : Prop} (hgd : o.guard = none) (s x : Operand)
    (ho : o.op = .call { callee := .builtin .append, args := #[s, x], argTypes := #[22, 22] })
    {g : Nat} {vB : Value} {nB : Nat} {xB : List Value} (hs : act.eval s = .slice (some ⟨g, 0, none⟩) 0 0) {aa : Option Addr} {m c : Nat} (hx : act.eval x = .slice aa m c) (hc : Cs w W (.slice (some ⟨g, 0, none⟩) 0 0) 0 [] vB nB xB)
    {news : List Value} (hsrc : Src w aa m 4 news) (hm : m ≤ 65536)
    (h : ∀ a' c' W', Cs w W' (.slice a' m c') m news vB nB xB → K (act.put o.dst (.slice a' m c')) W') :
    if Region.wanted o (yielded ops act.tmps) = true then Oper.wp Try.prog o act W K Q else E := by
  have hw : Region.wanted o (yielded ops act.tmps) = true := by simp [Region.wanted, hgd]
  rw [if_pos hw]
  obtain ⟨i0, hi, hz0, hz1, hz2⟩ := info24
  by_cases h0 : m = 0
  · subst h0
    have hn : news = [] := List.eq_nil_of_length_eq_zero (by have := hsrc.len; omega)
    subst hn
    have hr : ∀ ty, (Builtin.append_ #[22, 22] ty #[.slice (some ⟨g, 0, none⟩) 0 0, .slice aa 0 c]).run Try.prog W = .ok (.slice (some ⟨g, 0, none⟩) 0 0) W := fun ty => by
      cases aa <;> simp [Builtin.append_, run_underlying Try.underlying22, sizeOf, typeInfo, hi, Builtin.lenOf, Builtin.firstCells, loadCells, loadCellsFrom, storeCells]
    unfold Oper.wp execOp
    simp only [ho, resolve, invoke, builtin, Sem.run_bind, Sem.run_pure, Result.andThen_ok, List.map_toArray, List.map_cons, List.map_nil, hs, hx, hr]
    exact h _ _ _ hc
  · obtain ⟨ad, rfl⟩ : ∃ ad, aa = some ad := by
      cases e : aa with
      | none => exact absurd (hsrc.none e) h0
      | some ad => exact ⟨ad, rfl⟩
    obtain ⟨g', cap, w', hr, r1, r2, r3, r4⟩ := run_append_lies (P := Try.prog) W 22 o.type w.heap.size 38 i0 _ 4 56 Try.underlying22 hi hz0 hz1 hz2 rfl (by decide) _ 0 [] hc.a ad m c news hsrc.len (hsrc.cell hc.below ad rfl) hsrc.one (by omega) (by unfold maxLen; omega) (by omega) hc.below.size _ rfl
    rw [Nat.zero_add, List.nil_append] at r1
    unfold Oper.wp execOp
    simp only [ho, resolve, invoke, builtin, Sem.run_bind, Sem.run_pure, Result.andThen_ok, List.map_toArray, List.map_cons, List.map_nil, hs, hx, hr, Nat.zero_add]
    refine h _ _ _ ⟨hc.below.grown r2 hc.below.size (fun k e => (hc.a.lt k e).1), r1, hc.b.kept r2 hc.symm.ne, .inr (fun e => ?_)⟩
    have e1 : vB.ownBlock = some g' := e.symm
    rcases r3 with r3 | r3
    · rcases hc.ne with e3 | e3
      · rw [e3] at r3; cases r3
      · exact e3 (r3.trans e1.symm)
    · have := (hc.b.lt _ e1).2
      omega

/-- A list cut is told, or an error. -/
def CutL (l : List VT) (i : Int) (w : World) (e : Ending) (w' : World) : Prop :=
  Below w.heap.size w w' ∧ if endB l i then ∃ a1 c1 a2 c2, e = .returned (.tuple #[.slice a1 (l.take i.toNat).length c1, .slice a2 (l.drop i.toNat).length c2, .int .i64 0]) ∧ Lies 17 w' (l.take i.toNat) (.slice a1 (l.take i.toNat).length c1) ∧ Lies 17 w' (l.drop i.toNat) (.slice a2 (l.drop i.toNat).length c2)
    else e = .returned (.tuple #[.slice none 0 0, .slice none 0 0, .int .i64 5])

end Go.Proofs.Ytplahohaahfjmab

namespace Go.Proofs.Ytplahohaahfjmab
open Go.RowKit

set_option maxRecDepth 100000 in
set_option maxHeartbeats 8000000 in
theorem rcut_any (l : List VT) (a : Option Addr) (c : Nat) (i : Int) (w : World) (hl : Lies 17 w l (.slice a l.length c)) (hlen : l.length ≤ 65536) : Calls Try.prog 11 #[.slice a l.length c, .int .i64 i] w (CutL l i w) := by
  have HE1 : Hid _ := rend_any l a c i w
  by_cases h1 : endB l i
  · rw [decide_eq_true h1] at HE1
    obtain ⟨n, rfl⟩ := Int.eq_ofNat_of_zero_le h1.1
    have hnl : n ≤ l.length := by have := h1.2; omega
    have hlc : l.length ≤ c := by obtain ⟨_, _, e, h, _⟩ := hl; injection e with _ _ e; omega
    have e1 : (l.take n).length = n := by rw [List.length_take, Nat.min_eq_left hnl]
    have e2 : (l.drop n).length = l.length - n := List.length_drop
    obtain ⟨ps, hp1, hp2, hsA, hsd⟩ : ∃ ps : List (VT × Value), ps.map (·.1) = l.take n ∧ ps.length = n ∧ Src w a n 4 (ps.flatMap encP) ∧ ∀ p ∈ ps, Sound 16 w p := by
      by_cases hn0 : n = 0
      · subst hn0
        exact ⟨[], rfl, rfl, Src.nil w a, fun p hp => by cases hp⟩
      · obtain ⟨g, o, rfl, _⟩ := Lies.some_at hl (by omega)
        have h2 := Lies.taken hl n hnl
        rw [← e1] at h2
        obtain ⟨ps, p1, p2, p3, p4⟩ := src_of (l := l.take n) (by rw [e1] at h2 ⊢; exact h2)
        rw [e1] at p2 p3
        exact ⟨ps, p1, p2, p3, p4⟩
    have HSA : Hid (Src w a n 4 (ps.flatMap encP)) := hsA
    have hfin : ∀ (qs : List (VT × Value)) (W : World) (a1 c1 a2 c2), qs.map (·.1) = l.drop n → (∀ p ∈ qs, Sound 16 w p) → Cs w W (.slice a1 n c1) n (ps.flatMap encP) (.slice a2 (l.length - n) c2) (l.length - n) (qs.flatMap encP) → CutL l (n : Int) w (.returned (.tuple #[.slice a1 n c1, .slice a2 (l.length - n) c2, .int .i64 0])) W := fun qs W a1 c1 a2 c2 q1 q2 h => by
      have hq : qs.length = l.length - n := by have := congrArg List.length q1; rw [List.length_map, e2] at this; exact this
      have l1 := own_lies (d := 16) hp2.symm h.a (fun p hp => (hsd p hp).keeps h.below) (by omega)
      have l2 := own_lies (d := 16) hq.symm h.b (fun p hp => (q2 p hp).keeps h.below) (by omega)
      rw [hp1] at l1
      rw [q1] at l2
      refine ⟨h.below, ?_⟩
      rw [if_pos h1, Int.toNat_natCast, e1, e2]
      exact ⟨a1, c1, a2, c2, rfl, l1, l2⟩
    by_cases hne : n = l.length
    · have hd : l.drop n = [] := List.drop_eq_nil_of_le (by omega)
      have HF : Hid (∀ (W : World) (a1 c1 a2 c2), Cs w W (.slice a1 n c1) n (ps.flatMap encP) (.slice a2 0 c2) 0 [] → CutL l (n : Int) w (.returned (.tuple #[.slice a1 n c1, .slice a2 0 c2, .int .i64 0])) W) := fun W a1 c1 a2 c2 h => by
        have h3 := hfin [] W a1 c1 a2 c2 (by rw [hd]; rfl) (fun p hp => by cases hp)
        rw [show l.length - n = 0 by omega] at h3
        exact h3 h
      obtain ⟨L, hL⟩ : ∃ L, L = l.length := ⟨_, rfl⟩
      rw [← hL] at hne hnl hlc hlen HE1 ⊢
      subst hne
      have hnci : (n : Int) ≤ (c : Nat) := by omega
      have hself : ¬ ((n : Nat) : Int) < (n : Nat) := by omega
      clear hfin hl hsA hp1 hsd e1 e2 hd hL h1
      by_cases hcn : c = n
      · subst hcn
        cases a with
        | none =>
          go_enter Try.func11, Try.ntmps11
          go_wp2_with fail
          refine Calls.mono HE1.out ?_
          rintro e w1 ⟨rfl, hw1⟩
          obtain rfl : w = w1 := hw1.symm
          clear HE1
          go_wp2_with fail
          have HC := Cs.start w
          go_region_law
            (first
              | (refine Cs.step rfl _ _ rfl rfl rfl (HC) HSA.out (by omega) ?_; clear HC; intro ax cx W HC)
              | (refine Cs.step rfl _ _ rfl rfl rfl (HC.made) HSA.out (by omega) ?_; clear HC; intro ax cx W HC)
              | (refine Cs.step rfl _ _ rfl rfl rfl (HC.made.drew) HSA.out (by omega) ?_; clear HC; intro ax cx W HC)
              | (refine Cs.step rfl _ _ rfl rfl rfl ((HC.made.made2G (g := w.heap.size + 1) (by simp)).drew) HSA.out (by omega) ?_; clear HC; intro ax cx W HC)
              | (refine Cs.step rfl _ _ rfl rfl rfl ((HC.made2.madeG (by simp)).drew) HSA.out (by omega) ?_; clear HC; intro ax cx W HC)
              | (refine Cs.step rfl _ _ rfl rfl rfl (HC.symm) (Src.nil w _) (by omega) ?_; clear HC; intro ax cx W HC; replace HC := HC.symm)
              | (refine Cs.step rfl _ _ rfl rfl rfl (HC.made2.symm) (Src.nil w _) (by omega) ?_; clear HC; intro ax cx W HC; replace HC := HC.symm)
              | (refine Cs.step rfl _ _ rfl rfl rfl (HC.made2.drew.symm) (Src.nil w _) (by omega) ?_; clear HC; intro ax cx W HC; replace HC := HC.symm)
              | (refine Cs.step rfl _ _ rfl rfl rfl ((HC.made.made2G (by simp)).drew.symm) (Src.nil w _) (by omega) ?_; clear HC; intro ax cx W HC; replace HC := HC.symm)
              | (refine Cs.step rfl _ _ rfl rfl rfl ((HC.made2.madeG (g := w.heap.size + 1) (by simp)).drew.symm) (Src.nil w _) (by omega) ?_; clear HC; intro ax cx W HC; replace HC := HC.symm))
          all_goals
            have HG : Hid _ := HF.out _ _ _ _ _ HC
            clear HC HF
            go_wp2_with fail
            go_ret3
            exact HG.out
        | some ad =>
          go_enter Try.func11, Try.ntmps11
          go_wp2_with fail
          refine Calls.mono HE1.out ?_
          rintro e w1 ⟨rfl, hw1⟩
          obtain rfl : w = w1 := hw1.symm
          clear HE1
          go_wp2_with fail
          have HC := Cs.start w
          go_region_law
            (first
              | (refine Cs.step rfl _ _ rfl rfl rfl (HC) HSA.out (by omega) ?_; clear HC; intro ax cx W HC)
              | (refine Cs.step rfl _ _ rfl rfl rfl (HC.made) HSA.out (by omega) ?_; clear HC; intro ax cx W HC)
              | (refine Cs.step rfl _ _ rfl rfl rfl (HC.made.drew) HSA.out (by omega) ?_; clear HC; intro ax cx W HC)
              | (refine Cs.step rfl _ _ rfl rfl rfl ((HC.made.made2G (g := w.heap.size + 1) (by simp)).drew) HSA.out (by omega) ?_; clear HC; intro ax cx W HC)
              | (refine Cs.step rfl _ _ rfl rfl rfl ((HC.made2.madeG (by simp)).drew) HSA.out (by omega) ?_; clear HC; intro ax cx W HC)
              | (refine Cs.step rfl _ _ rfl rfl rfl (HC.symm) (Src.nil w _) (by omega) ?_; clear HC; intro ax cx W HC; replace HC := HC.symm)
              | (refine Cs.step rfl _ _ rfl rfl rfl (HC.made2.symm) (Src.nil w _) (by omega) ?_; clear HC; intro ax cx W HC; replace HC := HC.symm)
              | (refine Cs.step rfl _ _ rfl rfl rfl (HC.made2.drew.symm) (Src.nil w _) (by omega) ?_; clear HC; intro ax cx W HC; replace HC := HC.symm)
              | (refine Cs.step rfl _ _ rfl rfl rfl ((HC.made.made2G (by simp)).drew.symm) (Src.nil w _) (by omega) ?_; clear HC; intro ax cx W HC; replace HC := HC.symm)
              | (refine Cs.step rfl _ _ rfl rfl rfl ((HC.made2.madeG (g := w.heap.size + 1) (by simp)).drew.symm) (Src.nil w _) (by omega) ?_; clear HC; intro ax cx W HC; replace HC := HC.symm))
          all_goals
            have HG : Hid _ := HF.out _ _ _ _ _ HC
            clear HC HF
            go_wp2_with fail
            go_ret3
            exact HG.out
      · have hcni : ¬ ((c : Nat) : Int) = (n : Nat) := by omega
        cases a with
        | none =>
          go_enter Try.func11, Try.ntmps11
          go_wp2_with fail
          refine Calls.mono HE1.out ?_
          rintro e w1 ⟨rfl, hw1⟩
          obtain rfl : w = w1 := hw1.symm
          clear HE1
          go_wp2_with fail
          have HC := Cs.start w
          go_region_law
            (first
              | (refine Cs.step rfl _ _ rfl rfl rfl (HC) HSA.out (by omega) ?_; clear HC; intro ax cx W HC)
              | (refine Cs.step rfl _ _ rfl rfl rfl (HC.made) HSA.out (by omega) ?_; clear HC; intro ax cx W HC)
              | (refine Cs.step rfl _ _ rfl rfl rfl (HC.made.drew) HSA.out (by omega) ?_; clear HC; intro ax cx W HC)
              | (refine Cs.step rfl _ _ rfl rfl rfl ((HC.made.made2G (g := w.heap.size + 1) (by simp)).drew) HSA.out (by omega) ?_; clear HC; intro ax cx W HC)
              | (refine Cs.step rfl _ _ rfl rfl rfl ((HC.made2.madeG (by simp)).drew) HSA.out (by omega) ?_; clear HC; intro ax cx W HC)
              | (refine Cs.step rfl _ _ rfl rfl rfl (HC.symm) (Src.nil w _) (by omega) ?_; clear HC; intro ax cx W HC; replace HC := HC.symm)
              | (refine Cs.step rfl _ _ rfl rfl rfl (HC.made2.symm) (Src.nil w _) (by omega) ?_; clear HC; intro ax cx W HC; replace HC := HC.symm)
              | (refine Cs.step rfl _ _ rfl rfl rfl (HC.made2.drew.symm) (Src.nil w _) (by omega) ?_; clear HC; intro ax cx W HC; replace HC := HC.symm)
              | (refine Cs.step rfl _ _ rfl rfl rfl ((HC.made.made2G (by simp)).drew.symm) (Src.nil w _) (by omega) ?_; clear HC; intro ax cx W HC; replace HC := HC.symm)
              | (refine Cs.step rfl _ _ rfl rfl rfl ((HC.made2.madeG (g := w.heap.size + 1) (by simp)).drew.symm) (Src.nil w _) (by omega) ?_; clear HC; intro ax cx W HC; replace HC := HC.symm))
          all_goals
            have HG : Hid _ := HF.out _ _ _ _ _ HC
            clear HC HF
            go_wp2_with fail
            go_ret3
            exact HG.out
        | some ad =>
          go_enter Try.func11, Try.ntmps11
          go_wp2_with fail
          refine Calls.mono HE1.out ?_
          rintro e w1 ⟨rfl, hw1⟩
          obtain rfl : w = w1 := hw1.symm
          clear HE1
          go_wp2_with fail
          have HC := Cs.start w
          go_region_law
            (first
              | (refine Cs.step rfl _ _ rfl rfl rfl (HC) HSA.out (by omega) ?_; clear HC; intro ax cx W HC)
              | (refine Cs.step rfl _ _ rfl rfl rfl (HC.made) HSA.out (by omega) ?_; clear HC; intro ax cx W HC)
              | (refine Cs.step rfl _ _ rfl rfl rfl (HC.made.drew) HSA.out (by omega) ?_; clear HC; intro ax cx W HC)
              | (refine Cs.step rfl _ _ rfl rfl rfl ((HC.made.made2G (g := w.heap.size + 1) (by simp)).drew) HSA.out (by omega) ?_; clear HC; intro ax cx W HC)
              | (refine Cs.step rfl _ _ rfl rfl rfl ((HC.made2.madeG (by simp)).drew) HSA.out (by omega) ?_; clear HC; intro ax cx W HC)
              | (refine Cs.step rfl _ _ rfl rfl rfl (HC.symm) (Src.nil w _) (by omega) ?_; clear HC; intro ax cx W HC; replace HC := HC.symm)
              | (refine Cs.step rfl _ _ rfl rfl rfl (HC.made2.symm) (Src.nil w _) (by omega) ?_; clear HC; intro ax cx W HC; replace HC := HC.symm)
              | (refine Cs.step rfl _ _ rfl rfl rfl (HC.made2.drew.symm) (Src.nil w _) (by omega) ?_; clear HC; intro ax cx W HC; replace HC := HC.symm)
              | (refine Cs.step rfl _ _ rfl rfl rfl ((HC.made.made2G (by simp)).drew.symm) (Src.nil w _) (by omega) ?_; clear HC; intro ax cx W HC; replace HC := HC.symm)
              | (refine Cs.step rfl _ _ rfl rfl rfl ((HC.made2.madeG (g := w.heap.size + 1) (by simp)).drew.symm) (Src.nil w _) (by omega) ?_; clear HC; intro ax cx W HC; replace HC := HC.symm))
          all_goals
            have HG : Hid _ := HF.out _ _ _ _ _ HC
            clear HC HF
            go_wp2_with fail
            go_ret3
            exact HG.out
    · have hlt : n < l.length := by omega
      obtain ⟨g, o, rfl, hcl⟩ := Lies.some_at hl (by omega)
      obtain ⟨qs, q1, q2, hsB, hsq⟩ := src_part hl n l.length (Nat.le_refl _)
      rw [List.take_length] at q1
      have HSB : Hid (Src w (some ⟨g, o + n * 4, none⟩) (l.length - n) 4 (qs.flatMap encP)) := hsB
      have HF : Hid (∀ (W : World) (a1 c1 a2 c2), Cs w W (.slice a1 n c1) n (ps.flatMap encP) (.slice a2 (l.length - n) c2) (l.length - n) (qs.flatMap encP) → CutL l (n : Int) w (.returned (.tuple #[.slice a1 n c1, .slice a2 (l.length - n) c2, .int .i64 0])) W) := fun W a1 c1 a2 c2 h => hfin qs W a1 c1 a2 c2 q1 hsq h
      obtain ⟨L, hL⟩ : ∃ L, L = l.length := ⟨_, rfl⟩
      rw [← hL] at hlt hnl hlc hlen HE1 HSB HF ⊢
      have hnci : (n : Int) ≤ (c : Nat) := by omega
      have hnLi : (n : Int) ≤ (L : Nat) := by omega
      have hLci : (L : Int) ≤ (c : Nat) := by omega
      have hcn : ¬ (c = n) := by omega
      have hcni : ¬ ((c : Nat) : Int) = (n : Nat) := by omega
      clear hfin hl hsA hsB hp1 hsd hsq q1 q2 e1 e2 hL h1 hne hcl
      go_enter Try.func11, Try.ntmps11
      go_wp2_with fail
      refine Calls.mono HE1.out ?_
      rintro e w1 ⟨rfl, hw1⟩
      obtain rfl : w = w1 := hw1.symm
      clear HE1
      go_wp2_with fail
      have HC := Cs.start w
      go_region_law
        (first
          | (refine Cs.step rfl _ _ rfl rfl rfl (HC) HSA.out (by omega) ?_; clear HC; intro ax cx W HC)
          | (refine Cs.step rfl _ _ rfl rfl rfl (HC.made) HSA.out (by omega) ?_; clear HC; intro ax cx W HC)
          | (refine Cs.step rfl _ _ rfl rfl rfl (HC.made.drew) HSA.out (by omega) ?_; clear HC; intro ax cx W HC)
          | (refine Cs.step rfl _ _ rfl rfl rfl ((HC.made.made2G (g := w.heap.size + 1) (by simp)).drew) HSA.out (by omega) ?_; clear HC; intro ax cx W HC)
          | (refine Cs.step rfl _ _ rfl rfl rfl ((HC.made2.madeG (by simp)).drew) HSA.out (by omega) ?_; clear HC; intro ax cx W HC)
          | (refine Cs.step rfl _ _ rfl rfl rfl (HC.symm) HSB.out (by omega) ?_; clear HC; intro ax cx W HC; replace HC := HC.symm)
          | (refine Cs.step rfl _ _ rfl rfl rfl (HC.made2.symm) HSB.out (by omega) ?_; clear HC; intro ax cx W HC; replace HC := HC.symm)
          | (refine Cs.step rfl _ _ rfl rfl rfl (HC.made2.drew.symm) HSB.out (by omega) ?_; clear HC; intro ax cx W HC; replace HC := HC.symm)
          | (refine Cs.step rfl _ _ rfl rfl rfl ((HC.made.made2G (by simp)).drew.symm) HSB.out (by omega) ?_; clear HC; intro ax cx W HC; replace HC := HC.symm)
          | (refine Cs.step rfl _ _ rfl rfl rfl ((HC.made2.madeG (g := w.heap.size + 1) (by simp)).drew.symm) HSB.out (by omega) ?_; clear HC; intro ax cx W HC; replace HC := HC.symm))
      all_goals
        have HG : Hid _ := HF.out _ _ _ _ _ HC
        clear HC HF
        go_wp2_with fail
        go_ret3
        exact HG.out
  · rw [decide_eq_false h1] at HE1
    have HF : Hid (CutL l i w (.returned (.tuple #[.slice none 0 0, .slice none 0 0, .int .i64 5])) w) := by
      refine ⟨Below.refl _ _, ?_⟩
      rw [if_neg h1]
    clear hl hlen h1
    go_enter Try.func11, Try.ntmps11
    go_wp2_with fail
    refine Calls.mono HE1.out ?_
    rintro e w1 ⟨rfl, hw1⟩
    obtain rfl : w = w1 := hw1.symm
    clear HE1
    go_wp2_with fail
    go_ret3
    exact HF.out

end Go.Proofs.Ytplahohaahfjmab

