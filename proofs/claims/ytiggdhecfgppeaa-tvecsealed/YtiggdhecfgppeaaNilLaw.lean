/-
  TvecNil.
-/
import Derived.Test.YtiggdhecfgppeaaTvecQ
import Derived.Test.YtiggdhecfgppeaaVals
namespace Go.Proofs.Ytiggdhecfgppeaa
open Go.RowKit

set_option maxRecDepth 100000 in
set_option maxHeartbeats 8000000 in
theorem tset_any (n : Nat) (l : List VT) (b h v : Nat) (i : Int) (x : VT) (ax : Option Addr) (cx : Nat) (N0 : Nat) (w : World) (t : TV w l b h v) (hN : N0 ≤ h) (hN2 : N0 ≤ w.heap.size) (hx : Lies n w x.items (.slice ax x.items.length cx)) (hts : x.text.size ≤ 9223372036854775807) :
    Calls Try.prog 14 #[.pointer (some ⟨b, 0, none⟩), .int .i64 i, .agg #[.int .i64 x.kind, .int .i64 x.num, .string x.text, .slice ax x.items.length cx]] w (MvPost N0 l (l.set i.toNat x) (rightV n x = true ∧ (0 ≤ i ∧ i < (l.length : Int))) b h v w) := by
  obtain ⟨wA, hwA⟩ : ∃ wA, wA = w.alloc (.cells #[.int .i64 x.kind, .int .i64 x.num, .string x.text, .slice ax x.items.length cx] 33) := ⟨_, rfl⟩
  have hbz : Below w.heap.size w wA := by rw [hwA]; exact ((Grew.refl w).alloc _).below
  have tA := t.keeps hbz
  have HO : Hid _ := open_any l b h v wA tA
  have HBx : Hid (Bx wA w.heap.size x (.slice ax x.items.length cx)) := by rw [hwA]; exact bx_alloc w x _
  have HP : Hid (Calls Try.prog 31 #[.pointer (some ⟨v, 0, none⟩), .int .i64 i, .agg #[.int .i64 x.kind, .int .i64 x.num, .string x.text, .slice ax x.items.length cx]] wA.drew fun e w1 => ∃ (o : Option Addr) (k : Nat), e = .returned (.tuple #[.pointer o, .int .i64 (k : Int)]) ∧ Calls Try.prog 26 #[.pointer (some ⟨h, 0, none⟩), .pointer o, .int .i64 (k : Int)] w1 (MvPost N0 l (l.set i.toNat x) (rightV n x = true ∧ (0 ≤ i ∧ i < (l.length : Int))) b h v w)) := by
    have hd : Below w.heap.size w wA.drew := hbz.drew
    have tD := t.keeps hd
    refine Calls.mono (vset_n n l _ i x ax cx wA.drew tD.vv.vc (Lies.keeps hd _ _ _ hx) hts (by have := t.vv.len; omega)) ?_
    rintro e w1 ⟨hg1, hp1⟩
    have hb1 : Below w.heap.size w w1 := hd.trans (hg1.mono hd.size)
    by_cases hr : rightV n x = true
    · by_cases hs : 0 ≤ i ∧ i < (l.length : Int)
      · have e9 : setN n l i x = .inl (l.set i.toNat x) := by unfold setN; rw [if_pos hr, if_pos hs]
        rw [e9] at hp1
        obtain ⟨v2, rfl, hv2⟩ := hp1
        have hvv : VV w1 (l.set i.toNat x) (.pointer (some ⟨v2, 0, none⟩)) := ⟨hv2, by rw [List.length_set]; exact t.vv.len, List.all_eq_true.2 fun y hy => (List.mem_or_eq_of_mem_set hy).elim (fun h => List.all_eq_true.1 t.vv.right y h) (fun h => by rw [h]; exact (canon hx hr).2)⟩
        obtain ⟨k1, k2, k3⟩ := t.moved hN hN2 hb1 hvv
        refine ⟨_, 0, rfl, Calls.mono (become_ok h _ _ w1 (t.keeps hb1).bx) ?_⟩
        rintro e w2 ⟨rfl, rfl⟩
        exact ⟨0, rfl, k1, k2, .inl ⟨rfl, ⟨hr, hs⟩, v2, k3⟩⟩
      · have e9 : setN n l i x = .inr 5 := by unfold setN; rw [if_pos hr, if_neg hs]
        rw [e9] at hp1
        subst hp1
        refine ⟨_, 5, rfl, Calls.mono (become_not h _ 5 (by omega) w1) ?_⟩
        rintro e w2 ⟨rfl, rfl⟩
        exact ⟨5, rfl, hb1.mono hN2, KeepsNP.below hb1, .inr ⟨by omega, fun h => hs h.2, t.keeps hb1⟩⟩
    · have e9 : setN n l i x = .inr 3 := by unfold setN; rw [if_neg hr]
      rw [e9] at hp1
      subst hp1
      refine ⟨_, 3, rfl, Calls.mono (become_not h _ 3 (by omega) w1) ?_⟩
      rintro e w2 ⟨rfl, rfl⟩
      exact ⟨3, rfl, hb1.mono hN2, KeepsNP.below hb1, .inr ⟨by omega, fun h => hr h.1, t.keeps hb1⟩⟩
  obtain ⟨x0, x1, x2, x3, _, _, _, _⟩ := HBx.out
  have h1 := tA.bx.cell
  obtain ⟨Q, hQ⟩ : ∃ Q, Q = MvPost N0 l (l.set i.toNat x) (rightV n x = true ∧ (0 ≤ i ∧ i < (l.length : Int))) b h v w := ⟨_, rfl⟩
  have HQ : Hid (∀ e w', Q e w' → ∃ k : Nat, e = .returned (.int .i64 (k : Int))) := fun e w' hq => by
    rw [hQ] at hq
    obtain ⟨k, he, _⟩ := hq
    exact ⟨k, he⟩
  rw [← hQ] at HP ⊢
  subst hwA
  clear t hN hN2 hx hts tA hQ HBx
  go_enter Try.func14, Try.ntmps14
  go_wp2_with fail
  refine Calls.mono HO.out ?_
  rintro e w1 ⟨rfl, rfl⟩
  clear HO
  go_wp2_with fail
  go_region_with (first
      | (go_at_call 26; refine Calls.mono HB9.out ?_; intro e w3 hq3; obtain ⟨k3, hk3⟩ := HQ.out e w3 hq3; subst hk3; have HE : Hid _ := hq3; clear hq3)
      | (go_at_call 31; refine Calls.mono HP.out ?_; rintro e w2 ⟨o2, k2, rfl, hbec⟩; have HB9 : Hid _ := hbec; clear hbec))
  all_goals (first | (go_ret; exact HE.out) | (go_wp2_with fail; go_ret; exact HE.out))

set_option maxRecDepth 100000 in
set_option maxHeartbeats 4000000 in
theorem tseal_any (l : List VT) (b h v : Nat) (N0 : Nat) (w : World) (t : TV w l b h v) (hN : N0 ≤ h) : Calls Try.prog 9 #[.pointer (some ⟨b, 0, none⟩)] w fun e w' => e = .returned (.tuple #[.pointer (some ⟨v, 0, none⟩), .int .i64 0]) ∧ Below N0 w w' ∧ KeepsNP w w' ∧ VV w' l (.pointer (some ⟨v, 0, none⟩)) ∧ TS w' b h := by
  have HO : Hid _ := open_any l b h v w t
  have hk := KeepsNP.set (y := .pointer none) t.bx
  have HE : Hid (Below N0 w (w.setCell ⟨h, 0, none⟩ (.pointer none)) ∧ KeepsNP w (w.setCell ⟨h, 0, none⟩ (.pointer none)) ∧ VV (w.setCell ⟨h, 0, none⟩ (.pointer none)) l (.pointer (some ⟨v, 0, none⟩)) ∧ TS (w.setCell ⟨h, 0, none⟩ (.pointer none)) b h) := ⟨(Below.refl _ _).setCell (p := ⟨h, 0, none⟩) hN _, hk, t.vv.np hk, ⟨(grownBy_setCell' w h _).cell t.c0 (fun e => t.ne (by injection e)), t.bx.set _⟩⟩
  have h1 := t.bx.cell
  have h2 := t.bx.frozen
  clear t hk hN
  go_enter Try.func9, Try.ntmps9
  go_wp2_with fail
  refine Calls.mono HO.out ?_
  rintro e w1 ⟨rfl, rfl⟩
  clear HO
  go_wp2_with fail
  go_ret2
  exact ⟨rfl, HE.out⟩

set_option maxRecDepth 100000 in
set_option maxHeartbeats 4000000 in
theorem tlen_any (l : List VT) (b h v : Nat) (w : World) (t : TV w l b h v) : Calls Try.prog 13 #[.pointer (some ⟨b, 0, none⟩)] w fun e w' => e = .returned (.tuple #[.int .i64 (l.length : Int), .int .i64 0]) ∧ Below w.heap.size w w' := by
  have HO : Hid _ := open_any l b h v w t
  have HL : Hid _ := vlen_any 16 l _ w t.vv.vc
  have h1 := t.bx.cell
  clear t
  go_enter Try.func13, Try.ntmps13
  go_wp2_with fail
  refine Calls.mono HO.out ?_
  rintro e w1 ⟨rfl, rfl⟩
  clear HO
  go_wp2_with fail
  refine Calls.mono HL.out ?_
  rintro e w2 ⟨rfl, hb2⟩
  clear HL
  go_wp2_with fail
  go_ret2
  exact ⟨rfl, hb2⟩

set_option maxRecDepth 100000 in
theorem newT_any (w : World) : Calls Try.prog 24 #[] w fun e w' => e = .returned (.pointer (some ⟨w.heap.size, 0, none⟩)) ∧ VV w' [] (.pointer (some ⟨w.heap.size, 0, none⟩)) ∧ Below w.heap.size w w' := by
  have HE : Hid (VV (w.alloc (.cells #[.nilIface] 53)) [] (.pointer (some ⟨w.heap.size, 0, none⟩)) ∧ Below w.heap.size w (w.alloc (.cells #[.nilIface] 53))) := ⟨⟨VC.made (.inl ⟨rfl, rfl⟩) _, by simp, rfl⟩, ((Grew.refl w).alloc _).below⟩
  go_enter Try.func24, Try.ntmps24
  go_wp2_with fail
  go_ret
  exact ⟨rfl, HE.out.1, HE.out.2⟩

set_option maxRecDepth 100000 in
set_option maxHeartbeats 4000000 in
theorem or_first (B : Nat) (p : Addr) (q : Option Addr) (w : World) (h0 : w.cell? ⟨B, 0, none⟩ = some (.pointer (some p))) (h1 : w.cell? ⟨B, 1, none⟩ = some (.pointer q)) : Calls Try.prog 23 #[.slice (some ⟨B, 0, none⟩) 2 2] w fun e w' => e = .returned (.pointer (some p)) ∧ w' = w := by
  go_enter Try.func23, Try.ntmps23
  go_wp2_with fail
  go_loopg [8] 2 (fun g i wr => i = .int .i64 0 ∧ g = 2 ∧ wr = w)
  case atStart => exact ⟨rfl, rfl, rfl⟩
  case round =>
    obtain ⟨rfl, hg, rfl⟩ := hrel
    go_wp2_with fail
    go_ret
    exact ⟨rfl, rfl⟩

set_option maxRecDepth 100000 in
set_option maxHeartbeats 4000000 in
theorem or_second (B : Nat) (q : Addr) (w : World) (h0 : w.cell? ⟨B, 0, none⟩ = some (.pointer none)) (h1 : w.cell? ⟨B, 1, none⟩ = some (.pointer (some q))) : Calls Try.prog 23 #[.slice (some ⟨B, 0, none⟩) 2 2] w fun e w' => e = .returned (.pointer (some q)) ∧ w' = w := by
  go_enter Try.func23, Try.ntmps23
  go_wp2_with fail
  go_loopg [8] 2 (fun g i wr => ((i = .int .i64 0 ∧ g = 2) ∨ (i = .int .i64 1 ∧ g = 1)) ∧ wr = w)
  case atStart => exact ⟨.inl ⟨rfl, rfl⟩, rfl⟩
  case round =>
    obtain ⟨hrel, rfl⟩ := hrel
    rcases hrel with ⟨rfl, hg⟩ | ⟨rfl, hg⟩
    · have Hg : Hid _ := hg
      clear hg
      go_wp2_with fail
      go_roundg 1
      case measure => have := Hg.out; omega
      case rel => exact ⟨.inr ⟨rfl, rfl⟩, rfl⟩
    · clear hg
      go_wp2_with fail
      go_ret
      exact ⟨rfl, rfl⟩

/-- What Begin tells. -/
def BegPost (l : List VT) (w : World) (e : Ending) (w' : World) : Prop := ∃ b h v, e = .returned (.pointer (some ⟨b, 0, none⟩)) ∧ TV w' l b h v ∧ Below w.heap.size w w' ∧ w.heap.size ≤ h ∧ w.heap.size ≤ b

set_option maxRecDepth 100000 in
set_option maxHeartbeats 4000000 in
theorem begin_any (l : List VT) (p : Value) (w : World) (hv : VV w l p) : Calls Try.prog 7 #[p] w (BegPost l w) := by
  have HFin : Hid (∀ (V : World) (v : Nat), Below w.heap.size w V → VV V l (.pointer (some ⟨v, 0, none⟩)) → BegPost l w (.returned (.pointer (some ⟨V.heap.size + 1, 0, none⟩))) ((V.alloc (.cells #[.pointer (some ⟨v, 0, none⟩)] 62)).alloc (.cells #[.pointer (some ⟨V.heap.size, 0, none⟩)] 64))) := fun V v hV hv => by
    have hb : Below V.heap.size V ((V.alloc (.cells #[.pointer (some ⟨v, 0, none⟩)] 62)).alloc (.cells #[.pointer (some ⟨V.heap.size, 0, none⟩)] 64)) := (((Grew.refl V).alloc _).alloc _).below
    refine ⟨V.heap.size + 1, V.heap.size, v, rfl, ⟨?_, (Go.Boxed.new V 62 _).alloc _, hv.keeps hb, by omega⟩, hV.trans (hb.mono hV.size), hV.size, by have := hV.size; omega⟩
    have h1 := (Go.Boxed.new (V.alloc (.cells #[.pointer (some ⟨v, 0, none⟩)] 62)) 64 (.pointer (some ⟨V.heap.size, 0, none⟩))).cell
    rwa [World.size_alloc] at h1
  have HNw : Hid _ := newT_any w
  obtain ⟨po, rfl⟩ := hv.vc.shape
  cases po with
  | none =>
    have hl0 : l = [] := by
      rcases hv.vc with ⟨h, _⟩ | ⟨_, _, h, _⟩
      · exact h
      · cases h
    subst hl0
    clear hv
    go_enter Try.func7, Try.ntmps7
    go_wp2_with fail
    refine Calls.mono HNw.out ?_
    rintro e w1 ⟨rfl, hv1, hb1⟩
    obtain ⟨W1, hW1⟩ : ∃ W1, W1 = w1.alloc (.cells #[.pointer none, .pointer (some ⟨w.heap.size, 0, none⟩)] 24) := ⟨_, rfl⟩
    have hbx : Below w1.heap.size w1 W1 := by rw [hW1]; exact ((Grew.refl w1).alloc _).below
    have HOr : Hid (Calls Try.prog 23 #[.slice (some ⟨w1.heap.size, 0, none⟩) 2 2] W1 fun e w' => e = .returned (.pointer (some ⟨w.heap.size, 0, none⟩)) ∧ w' = W1) := or_second w1.heap.size _ W1 (by rw [hW1]; simp) (by rw [hW1]; simp)
    have HE : Hid _ := HFin.out W1 _ (hb1.trans (hbx.mono hb1.size)) (hv1.keeps hbx)
    have HW1 : Hid (W1 = w1.alloc (.cells #[.pointer none, .pointer (some ⟨w.heap.size, 0, none⟩)] 24)) := hW1
    rw [hW1] at HOr
    clear HNw hv1 hbx hW1 HFin
    go_wp2_with fail
    refine Calls.mono HOr.out ?_
    rintro e w2 ⟨rfl, hw2⟩
    rw [← HW1.out] at hw2
    subst hw2
    clear HOr
    go_wp2_with fail
    go_ret
    exact HE.out
  | some pa =>
    obtain ⟨v, hpa⟩ : ∃ v, pa = ⟨v, 0, none⟩ := by
      rcases hv.vc with ⟨_, h⟩ | ⟨v, _, h, _⟩
      · cases h
      · injection h with h; injection h with h; exact ⟨v, h⟩
    subst hpa
    have HV : Hid (VV w l (.pointer (some ⟨v, 0, none⟩))) := hv
    clear hv
    go_enter Try.func7, Try.ntmps7
    go_wp2_with fail
    refine Calls.mono HNw.out ?_
    rintro e w1 ⟨rfl, _, hb1⟩
    obtain ⟨W1, hW1⟩ : ∃ W1, W1 = w1.alloc (.cells #[.pointer (some ⟨v, 0, none⟩), .pointer (some ⟨w.heap.size, 0, none⟩)] 24) := ⟨_, rfl⟩
    have hbx : Below w1.heap.size w1 W1 := by rw [hW1]; exact ((Grew.refl w1).alloc _).below
    have HOr : Hid (Calls Try.prog 23 #[.slice (some ⟨w1.heap.size, 0, none⟩) 2 2] W1 fun e w' => e = .returned (.pointer (some ⟨v, 0, none⟩)) ∧ w' = W1) := or_first w1.heap.size _ (some ⟨w.heap.size, 0, none⟩) W1 (by rw [hW1]; simp) (by rw [hW1]; simp)
    have HE : Hid _ := HFin.out W1 v (hb1.trans (hbx.mono hb1.size)) ((HV.out.keeps hb1).keeps hbx)
    have HW1 : Hid (W1 = w1.alloc (.cells #[.pointer (some ⟨v, 0, none⟩), .pointer (some ⟨w.heap.size, 0, none⟩)] 24)) := hW1
    rw [hW1] at HOr
    clear HNw hbx hW1 HFin HV
    go_wp2_with fail
    refine Calls.mono HOr.out ?_
    rintro e w2 ⟨rfl, hw2⟩
    rw [← HW1.out] at hw2
    subst hw2
    clear HOr
    go_wp2_with fail
    go_ret
    exact HE.out

end Go.Proofs.Ytiggdhecfgppeaa

namespace Go.Proofs.Ytiggdhecfgppeaa
open Go.RowKit

set_option maxRecDepth 100000 in
set_option maxHeartbeats 8000000 in
theorem speaks13_any (w : World) : Calls Try.prog 6 #[] w fun e w' => e = .returned (.bool true) ∧ Below w.heap.size w w' := by
  have HI1 : Hid (Calls Try.prog 20 #[.slice (some ⟨w.heap.size, 0, none⟩) 2 2] (w.alloc (.cells #[.int .i64 1, .int .i64 2] 2)) fun e w' => ∃ g c, e = .returned (.slice (some ⟨g, 0, none⟩) 2 c) ∧ Lies 17 w' ([1, 2].map numT) (.slice (some ⟨g, 0, none⟩) 2 c) ∧ Below w.heap.size w w') := by
    have hbA : Below w.heap.size w (w.alloc (.cells #[.int .i64 1, .int .i64 2] 2)) := ((Grew.refl w).alloc _).below
    refine Calls.mono (nums_any [1, 2] w.heap.size 2 _ (by simp) (by simp) (fun i hi => by
      match i, hi with
      | 0, _ => simp
      | 1, _ => simp)) ?_
    rintro e w1 ⟨g, c, rfl, hl, hb⟩
    exact ⟨g, c, rfl, hl, hbA.trans (hb.mono hbA.size)⟩
  have HO : Hid (∀ V v, Lies 17 V ([1, 2].map numT) v → Calls Try.prog 5 #[v] V fun e w' => ∃ b, e = .returned (.tuple #[.pointer (some ⟨b, 0, none⟩), .int .i64 0]) ∧ VV w' ([1, 2].map numT) (.pointer (some ⟨b, 0, none⟩)) ∧ Below V.heap.size V w') := fun V v hv => by
    have h9 := of_any _ v V hv
    rw [nums_of [1, 2] (by simp)] at h9
    refine Calls.mono h9 ?_
    rintro e w1 ⟨hb, b, rfl, hvc⟩
    exact ⟨b, rfl, ⟨hvc, by simp, nums_right _⟩, hb⟩
  have HI3 : Hid (∀ V : World, Calls Try.prog 20 #[.slice (some ⟨V.heap.size, 0, none⟩) 3 3] (V.alloc (.cells #[.int .i64 9, .int .i64 2, .int .i64 3] 2)) fun e w' => ∃ g c, e = .returned (.slice (some ⟨g, 0, none⟩) 3 c) ∧ Lies 17 w' ([9, 2, 3].map numT) (.slice (some ⟨g, 0, none⟩) 3 c) ∧ Below V.heap.size V w') := fun V => by
    have hbA : Below V.heap.size V (V.alloc (.cells #[.int .i64 9, .int .i64 2, .int .i64 3] 2)) := ((Grew.refl V).alloc _).below
    refine Calls.mono (nums_any [9, 2, 3] V.heap.size 3 _ (by simp) (by simp) (fun i hi => by
      match i, hi with
      | 0, _ => simp
      | 1, _ => simp
      | 2, _ => simp)) ?_
    rintro e w1 ⟨g, c, rfl, hl, hb⟩
    exact ⟨g, c, rfl, hl, hbA.trans (hb.mono hbA.size)⟩
  go_enter Try.func6, Try.ntmps6
  go_wp2_with fail
  refine Calls.mono HI1.out ?_
  rintro e w1 ⟨g1, c1, rfl, hl1, hb1⟩
  have HO1 : Hid _ := HO.out w1 _ hl1
  clear HI1 hl1 HO
  go_wp2_with fail
  refine Calls.mono HO1.out ?_
  rintro e w2 ⟨b2, rfl, hv2, hg2⟩
  have hb2 : Below w.heap.size w w2 := hb1.trans (hg2.mono hb1.size)
  have HV2 : Hid (VV w2 ([1, 2].map numT) (.pointer (some ⟨b2, 0, none⟩))) := hv2
  have HBg : Hid _ := begin_any _ _ w2 hv2
  clear HO1 hv2 hg2
  go_wp2_with fail
  refine Calls.mono HBg.out ?_
  rintro e w3 ⟨b, h, v, rfl, t3, hg3, hh3, _⟩
  have hb3 : Below w.heap.size w w3 := hb2.trans (hg3.mono hb2.size)
  have hNh : w.heap.size ≤ h := Nat.le_trans hb2.size hh3
  have T3 : Hid (TV w3 ([1, 2].map numT) b h v) := t3
  have HV3 : Hid (VV w3 ([1, 2].map numT) (.pointer (some ⟨b2, 0, none⟩))) := HV2.out.keeps hg3
  clear HBg t3 hg3 HV2
  go_wp2_with fail
  refine (int_any 3 _).mono ?_
  rintro e w4 ⟨rfl, hg4⟩
  have hb4 : Below w.heap.size w w4 := hb3.trans (hg4.below.mono hb3.size)
  have T4 : Hid (TV w4 ([1, 2].map numT) b h v) := T3.out.keeps hg4.below
  have HV4 : Hid (VV w4 ([1, 2].map numT) (.pointer (some ⟨b2, 0, none⟩))) := HV3.out.keeps hg4.below
  have HP4 : Hid (Calls Try.prog 8 #[.pointer (some ⟨b, 0, none⟩), .agg #[.int .i64 2, .int .i64 3, .string ⟨#[]⟩, .slice none 0 0]] w4 fun e w' => e = .returned (.int .i64 0) ∧ Below w.heap.size w4 w' ∧ KeepsNP w4 w' ∧ ∃ v2, TV w' ([1, 2, 3].map numT) b h v2) := by
    refine Calls.mono (tpush_any 16 _ b h v (numT 3) none 0 w.heap.size w4 T4.out hNh hb4.size (lies_nilD _ _) (by show 0 ≤ 9223372036854775807; omega)) ?_
    rintro e w' ⟨k, rfl, h1, h2, ⟨rfl, _, v2, h3⟩ | ⟨_, hno, _⟩⟩
    · exact ⟨rfl, h1, h2, v2, h3⟩
    · exact absurd ⟨right_num 3, by simp⟩ hno
  clear T3 HV3 hg4
  go_wp2_with fail
  refine Calls.mono HP4.out ?_
  rintro e w5 ⟨rfl, hg5, hn5, v5, t5⟩
  have hb5 : Below w.heap.size w w5 := hb4.trans hg5
  have T5 : Hid (TV w5 ([1, 2, 3].map numT) b h v5) := t5
  have HV5 : Hid (VV w5 ([1, 2].map numT) (.pointer (some ⟨b2, 0, none⟩))) := HV4.out.np hn5
  clear HP4 T4 HV4 hg5 hn5 t5
  go_wp2_with fail
  refine (int_any 9 _).mono ?_
  rintro e w6 ⟨rfl, hg6⟩
  have hb6 : Below w.heap.size w w6 := hb5.trans (hg6.below.mono hb5.size)
  have T6 : Hid (TV w6 ([1, 2, 3].map numT) b h v5) := T5.out.keeps hg6.below
  have HV6 : Hid (VV w6 ([1, 2].map numT) (.pointer (some ⟨b2, 0, none⟩))) := HV5.out.keeps hg6.below
  have HS6 : Hid (Calls Try.prog 14 #[.pointer (some ⟨b, 0, none⟩), .int .i64 0, .agg #[.int .i64 2, .int .i64 9, .string ⟨#[]⟩, .slice none 0 0]] w6 fun e w' => e = .returned (.int .i64 0) ∧ Below w.heap.size w6 w' ∧ KeepsNP w6 w' ∧ ∃ v2, TV w' ([9, 2, 3].map numT) b h v2) := by
    refine Calls.mono (tset_any 16 _ b h v5 0 (numT 9) none 0 w.heap.size w6 T6.out hNh hb6.size (lies_nilD _ _) (by show 0 ≤ 9223372036854775807; omega)) ?_
    rintro e w' ⟨k, rfl, h1, h2, ⟨rfl, _, v2, h3⟩ | ⟨_, hno, _⟩⟩
    · exact ⟨rfl, h1, h2, v2, h3⟩
    · exact absurd ⟨right_num 9, by simp⟩ hno
  clear T5 HV5 hg6
  go_wp2_with fail
  refine Calls.mono HS6.out ?_
  rintro e w7 ⟨rfl, hg7, hn7, v7, t7⟩
  have hb7 : Below w.heap.size w w7 := hb6.trans hg7
  have HV7 : Hid (VV w7 ([1, 2].map numT) (.pointer (some ⟨b2, 0, none⟩))) := HV6.out.np hn7
  have HSl : Hid _ := tseal_any _ b h v7 w.heap.size w7 t7 hNh
  clear HS6 T6 HV6 hg7 hn7 t7
  go_wp2_with fail
  refine Calls.mono HSl.out ?_
  rintro e w8 ⟨rfl, hg8, hn8, hv8, ts8⟩
  have hb8 : Below w.heap.size w w8 := hb7.trans hg8
  have HV8 : Hid (VV w8 ([1, 2].map numT) (.pointer (some ⟨b2, 0, none⟩))) := HV7.out.np hn8
  have HIt : Hid _ := items_any _ _ w8 hv8.vc hv8.len hv8.right
  have TS8 : Hid (Shut13 w8 (.pointer (some ⟨b, 0, none⟩))) := ts8.shut
  clear HSl HV7 hg8 hn8 hv8 ts8
  go_wp2_with fail
  refine Calls.mono HIt.out ?_
  rintro e w9 ⟨v9, rfl, hv9, hg9⟩
  have hb9 : Below w.heap.size w w9 := hb8.trans (hg9.mono hb8.size)
  have HL9 : Hid (Lies 17 w9 ([9, 2, 3].map numT) v9) := LiesB.lies _ _ _ hv9
  have HV9 : Hid (VV w9 ([1, 2].map numT) (.pointer (some ⟨b2, 0, none⟩))) := HV8.out.keeps hg9
  have TS9 : Hid (Shut13 w9 (.pointer (some ⟨b, 0, none⟩))) := TS8.out.keeps hg9
  obtain ⟨a9, c9, rfl, _⟩ := Lies.slice HL9.out
  have HI9 : Hid _ := HI3.out w9
  clear HIt hv9 hg9 HV8 TS8 HI3
  go_wp2_with fail
  refine Calls.mono HI9.out ?_
  rintro e wa ⟨ga, ca, rfl, hla, hga⟩
  have hba : Below w.heap.size w wa := hb9.trans (hga.mono hb9.size)
  have HVs : Hid _ := values_one 16 ([9, 2, 3].map numT) _ _ wa (Lies.keeps hga _ _ _ HL9.out) hla (by simp)
  have HVa : Hid (VV wa ([1, 2].map numT) (.pointer (some ⟨b2, 0, none⟩))) := HV9.out.keeps hga
  have TSa : Hid (Shut13 wa (.pointer (some ⟨b, 0, none⟩))) := TS9.out.keeps hga
  clear HI9 hla hga HV9 TS9 HL9
  go_wp2_with fail
  refine Calls.mono HVs.out ?_
  rintro e wb ⟨rfl, hgb⟩
  have hbb : Below w.heap.size w wb := hba.trans (hgb.mono hba.size)
  have HVb : Hid (VV wb ([1, 2].map numT) (.pointer (some ⟨b2, 0, none⟩))) := HVa.out.keeps hgb
  have TSb : Hid (Shut13 wb (.pointer (some ⟨b, 0, none⟩))) := TSa.out.keeps hgb
  clear HVs hgb HVa TSa
  go_wp2_with fail
  refine (int_any 4 _).mono ?_
  rintro e wc ⟨rfl, hgc⟩
  have hbc : Below w.heap.size w wc := hbb.trans (hgc.below.mono hbb.size)
  have HVc : Hid (VV wc ([1, 2].map numT) (.pointer (some ⟨b2, 0, none⟩))) := HVb.out.keeps hgc.below
  have HPc : Hid (Calls Try.prog 8 #[.pointer (some ⟨b, 0, none⟩), .agg #[.int .i64 2, .int .i64 4, .string ⟨#[]⟩, .slice none 0 0]] wc fun e w' => e = .returned (.int .i64 7) ∧ Below wc.heap.size wc w') := shut_push _ (numT 4) none 0 wc (TSb.out.keeps hgc.below)
  clear HVb TSb hgc
  go_wp2_with fail
  refine Calls.mono HPc.out ?_
  rintro e wd ⟨rfl, hgd⟩
  have hbd : Below w.heap.size w wd := hbc.trans (hgd.mono hbc.size)
  have HLd : Hid (Calls Try.prog 22 #[.pointer (some ⟨b2, 0, none⟩)] wd (NumPost 2 wd)) := vlen_any 16 _ _ wd (HVc.out.keeps hgd).vc
  clear HPc hgd HVc
  go_wp2_with fail
  refine Calls.mono HLd.out ?_
  rintro e we ⟨rfl, hge⟩
  go_wp2_with fail
  go_ret
  exact ⟨rfl, hbd.trans (hge.mono hbd.size)⟩

end Go.Proofs.Ytiggdhecfgppeaa

namespace Go.Proofs.Ytiggdhecfgppeaa
open Go.RowKit

/-- The six cells of a step, in a block of their own. -/
structure Bx6 (W : World) (n : Nat) (k t : Int) (x : VT) (u : Value) : Prop where
  c0 : W.cell? ⟨n, 0, none⟩ = some (.int .i64 k)
  c1 : W.cell? ⟨n, 1, none⟩ = some (.int .i64 t)
  c2 : W.cell? ⟨n, 2, none⟩ = some (.int .i64 x.kind)
  c3 : W.cell? ⟨n, 3, none⟩ = some (.int .i64 x.num)
  c4 : W.cell? ⟨n, 4, none⟩ = some (.string x.text)
  c5 : W.cell? ⟨n, 5, none⟩ = some u

theorem Bx6.keeps {W W' : World} {n : Nat} {k t : Int} {x : VT} {u : Value} (h : Bx6 W n k t x u) (hb : Below W.heap.size W W') : Bx6 W' n k t x u :=
  ⟨cell_keeps hb h.c0, cell_keeps hb h.c1, cell_keeps hb h.c2, cell_keeps hb h.c3, cell_keeps hb h.c4, cell_keeps hb h.c5⟩

theorem bx6_alloc (w : World) (k t : Int) (x : VT) (u : Value) (T : Nat) : Bx6 (w.alloc (.cells #[.int .i64 k, .int .i64 t, .int .i64 x.kind, .int .i64 x.num, .string x.text, u] T)) w.heap.size k t x u := by
  refine ⟨?_, ?_, ?_, ?_, ?_, ?_⟩ <;> simp

theorem below_box4 (w : World) : Below w.heap.size w (w.alloc (.cells #[.int .i64 0, .int .i64 0, .string ⟨#[]⟩, .slice none 0 0] 33)) := ((Grew.refl w).alloc _).below

set_option maxRecDepth 100000 in
set_option maxHeartbeats 16000000 in
theorem nil_walk (k t : Int) (x : VT) (ax : Option Addr) (cx : Nat) (w : World) : Calls Try.prog 4 #[.agg #[.int .i64 k, .int .i64 t, .int .i64 x.kind, .int .i64 x.num, .string x.text, .slice ax x.items.length cx]] w fun e w' => e = .returned (.bool true) ∧ Below w.heap.size w w' := by
  obtain ⟨W0, hW0⟩ : ∃ W0, W0 = w.alloc (.cells #[.int .i64 k, .int .i64 t, .int .i64 x.kind, .int .i64 x.num, .string x.text, .slice ax x.items.length cx] 35) := ⟨_, rfl⟩
  have hb0 : Below w.heap.size w W0 := by rw [hW0]; exact ((Grew.refl w).alloc _).below
  have B0 : Hid (Bx6 W0 w.heap.size k t x (.slice ax x.items.length cx)) := by rw [hW0]; exact bx6_alloc _ _ _ _ _ _
  have HNt : Hid _ := shut_nth _ t W0 (shut_nil W0)
  have HW0 : Hid (W0 = w.alloc (.cells #[.int .i64 k, .int .i64 t, .int .i64 x.kind, .int .i64 x.num, .string x.text, .slice ax x.items.length cx] 35)) := hW0
  rw [hW0] at HNt
  clear hW0
  go_enter Try.func4, Try.ntmps4
  go_wp2_with fail
  refine Calls.mono HNt.out ?_
  rintro e w1 ⟨rfl, hg1⟩
  rw [← HW0.out] at hg1
  obtain ⟨W1, hW1⟩ : ∃ W1, W1 = w1.alloc (.cells #[.int .i64 0, .int .i64 0, .string ⟨#[]⟩, .slice none 0 0] 33) := ⟨_, rfl⟩
  have hx1 : Below w1.heap.size w1 W1 := by rw [hW1]; exact below_box4 w1
  have hg1' : Below W0.heap.size W0 W1 := hg1.trans (hx1.mono hg1.size)
  have hb1 : Below w.heap.size w W1 := hb0.trans (hg1'.mono hb0.size)
  have B1 : Hid (Bx6 W1 w.heap.size k t x (.slice ax x.items.length cx)) := B0.out.keeps hg1'
  have HPo : Hid _ := shut_pop _ W1 (shut_nil W1)
  have HW1 : Hid (W1 = w1.alloc (.cells #[.int .i64 0, .int .i64 0, .string ⟨#[]⟩, .slice none 0 0] 33)) := hW1
  rw [hW1] at HPo
  clear HNt hg1 hx1 hg1' B0 hW1
  go_wp2_with fail
  refine Calls.mono HPo.out ?_
  rintro e w2 ⟨rfl, hg2⟩
  rw [← HW1.out] at hg2
  obtain ⟨W2, hW2⟩ : ∃ W2, W2 = w2.alloc (.cells #[.int .i64 0, .int .i64 0, .string ⟨#[]⟩, .slice none 0 0] 33) := ⟨_, rfl⟩
  have hx2 : Below w2.heap.size w2 W2 := by rw [hW2]; exact below_box4 w2
  have hg2' : Below W1.heap.size W1 W2 := hg2.trans (hx2.mono hg2.size)
  have hb2 : Below w.heap.size w W2 := hb1.trans (hg2'.mono hb1.size)
  have B2 : Hid (Bx6 W2 w.heap.size k t x (.slice ax x.items.length cx)) := B1.out.keeps hg2'
  have HLn : Hid _ := shut_len _ W2 (shut_nil W2)
  have HW2 : Hid (W2 = w2.alloc (.cells #[.int .i64 0, .int .i64 0, .string ⟨#[]⟩, .slice none 0 0] 33)) := hW2
  rw [hW2] at HLn
  clear HPo hg2 hx2 hg2' B1 hW2
  go_wp2_with fail
  refine Calls.mono HLn.out ?_
  rintro e w3 ⟨rfl, hg3⟩
  rw [← HW2.out] at hg3
  have hb3 : Below w.heap.size w w3 := hb2.trans (hg3.mono hb2.size)
  have B3 : Hid (Bx6 w3 w.heap.size k t x (.slice ax x.items.length cx)) := B2.out.keeps hg3
  have HSl : Hid _ := shut_seal _ w3 (shut_nil w3)
  clear HLn hg3 B2
  go_wp2_with fail
  refine Calls.mono HSl.out ?_
  rintro e w4 ⟨rfl, hg4⟩
  have hb4 : Below w.heap.size w w4 := hb3.trans (hg4.mono hb3.size)
  have B4 : Hid (Bx6 w4 w.heap.size k t x (.slice ax x.items.length cx)) := B3.out.keeps hg4
  have HBg : Hid _ := begin_any [] (.pointer none) w4 ⟨.inl ⟨rfl, rfl⟩, by simp, rfl⟩
  clear HSl hg4 B3
  go_wp2_with fail
  refine Calls.mono HBg.out ?_
  rintro e w5 ⟨b, h, v, rfl, t5, hg5, _, _⟩
  have hb5 : Below w.heap.size w w5 := hb4.trans (hg5.mono hb4.size)
  have B5 : Hid (Bx6 w5 w.heap.size k t x (.slice ax x.items.length cx)) := B4.out.keeps hg5
  have HL5 : Hid _ := tlen_any [] b h v w5 t5
  clear HBg hg5 B4 t5
  go_wp2_with fail
  refine Calls.mono HL5.out ?_
  rintro e w6 ⟨rfl, hg6⟩
  have hb6 : Below w.heap.size w w6 := hb5.trans (hg6.mono hb5.size)
  obtain ⟨x0, x1, x2, x3, x4, x5⟩ := B5.out.keeps hg6
  have B6 : Hid (Bx6 w6 w.heap.size k t x (.slice ax x.items.length cx)) := B5.out.keeps hg6
  have HS6 : Hid _ := shut_set (.pointer none) t x ax cx w6 (shut_nil w6)
  clear HL5 hg6 B5
  go_wp2_with fail
  refine Calls.mono HS6.out ?_
  rintro e w7 ⟨rfl, hg7⟩
  have hb7 : Below w.heap.size w w7 := hb6.trans (hg7.mono hb6.size)
  obtain ⟨y0, y1, y2, y3, y4, y5⟩ := B6.out.keeps hg7
  have HP7 : Hid _ := shut_push (.pointer none) x ax cx w7 (shut_nil w7)
  clear HS6 hg7 B6 x0 x1 x2 x3 x4 x5
  go_wp2_with fail
  refine Calls.mono HP7.out ?_
  rintro e w8 ⟨rfl, hg8⟩
  have hb8 : Below w.heap.size w w8 := hb7.trans (hg8.mono hb7.size)
  have HEnd : Hid (Calls Try.prog 6 #[] w8 fun e w' => e = .returned (.bool true) ∧ Below w.heap.size w w') := Calls.mono (speaks13_any w8) (fun e w' h => ⟨h.1, hb8.trans (h.2.mono hb8.size)⟩)
  clear HP7 hg8 y0 y1 y2 y3 y4 y5
  go_wp2_with fail
  refine Calls.mono HEnd.out ?_
  rintro e wd ⟨rfl, hgd⟩
  go_wp2_with fail
  go_ret
  exact ⟨rfl, hgd⟩

end Go.Proofs.Ytiggdhecfgppeaa

