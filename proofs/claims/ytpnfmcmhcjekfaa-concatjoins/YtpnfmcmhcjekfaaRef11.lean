/-
  Chapter 11's lists, as the document says them.
-/
import Derived.Test.YtpnfmcmhcjekfaaNumsR
import Derived.Test.YtpnfmcmhcjekfaaVals
import Derived.Test.YtpnfmcmhcjekfaaLevel
namespace Go.Proofs.Ytpnfmcmhcjekfaa
open Go.RowKit

/-- A vector whose items are right, or an error. -/
def VvPost (r : List VT ⊕ Nat) (w : World) (e : Ending) (w' : World) : Prop :=
  Below w.heap.size w w' ∧ match r with
  | .inl l => ∃ b, e = .returned (.tuple #[.pointer (some ⟨b, 0, none⟩), .int .i64 0]) ∧ VV w' l (.pointer (some ⟨b, 0, none⟩))
  | .inr n => e = .returned (.tuple #[.pointer none, .int .i64 (n : Int)])

theorem VecPost.vv {r : List VT ⊕ Nat} {w : World} {e : Ending} {w' : World} (h : VecPost 16 r w e w') (hr : ∀ l, r = .inl l → l.length ≤ 65536 ∧ l.all (rightV 16) = true) : VvPost r w e w' := by
  obtain ⟨hb, hp⟩ := h
  refine ⟨hb, ?_⟩
  cases r with
  | inl l =>
    obtain ⟨b, rfl, hv⟩ := hp
    exact ⟨b, rfl, hv, (hr l rfl).1, (hr l rfl).2⟩
  | inr n => exact hp

theorem all_take {l : List VT} (h : l.all (rightV 16) = true) (n : Nat) : (l.take n).all (rightV 16) = true := List.all_eq_true.2 fun x hx => List.all_eq_true.1 h x (List.mem_of_mem_take hx)
theorem all_drop {l : List VT} (h : l.all (rightV 16) = true) (n : Nat) : (l.drop n).all (rightV 16) = true := List.all_eq_true.2 fun x hx => List.all_eq_true.1 h x (List.mem_of_mem_drop hx)

/-- Is a number an end of a list? -/
abbrev endB (l : List VT) (i : Int) : Prop := 0 ≤ i ∧ i ≤ (l.length : Int)

def firstR (l : List VT) (i : Int) : List VT ⊕ Nat := if endB l i then .inl (l.take i.toNat) else .inr 5
def restR (l : List VT) (i : Int) : List VT ⊕ Nat := if endB l i then .inl (l.drop i.toNat) else .inr 5

theorem vfirst_vv (l : List VT) (p : Value) (i : Int) (w : World) (h : VV w l p) : Calls Try.prog 54 #[p, .int .i64 i] w (VvPost (firstR l i) w) := by
  refine Calls.mono (vfirst_any 16 l p i w h.vc (by have := h.len; omega)) ?_
  intro e w' hp
  refine VecPost.vv hp (fun m hm => ?_)
  unfold firstR at hm
  by_cases hi : endB l i
  · rw [if_pos hi] at hm
    injection hm with hm
    subst hm
    exact ⟨by rw [List.length_take]; have := h.len; omega, all_take h.right _⟩
  · rw [if_neg hi] at hm; cases hm

theorem vrest_vv (l : List VT) (p : Value) (i : Int) (w : World) (h : VV w l p) : Calls Try.prog 84 #[p, .int .i64 i] w (VvPost (restR l i) w) := by
  refine Calls.mono (vrest_any 16 l p i w h.vc (by have := h.len; omega)) ?_
  intro e w' hp
  refine VecPost.vv hp (fun m hm => ?_)
  unfold restR at hm
  by_cases hi : endB l i
  · rw [if_pos hi] at hm
    injection hm with hm
    subst hm
    exact ⟨by rw [List.length_drop]; have := h.len; omega, all_drop h.right _⟩
  · rw [if_neg hi] at hm; cases hm

/-- What Cut tells. -/
def CutPost (l : List VT) (i : Int) (w : World) (e : Ending) (w' : World) : Prop :=
  Below w.heap.size w w' ∧ ((endB l i ∧ ∃ b1 b2, e = .returned (.tuple #[.pointer (some ⟨b1, 0, none⟩), .pointer (some ⟨b2, 0, none⟩), .int .i64 0]) ∧ VV w' (l.take i.toNat) (.pointer (some ⟨b1, 0, none⟩)) ∧ VV w' (l.drop i.toNat) (.pointer (some ⟨b2, 0, none⟩))) ∨ (¬ endB l i ∧ e = .returned (.tuple #[.pointer none, .pointer none, .int .i64 5])))

set_option maxRecDepth 100000 in
set_option maxHeartbeats 4000000 in
theorem cut_any (l : List VT) (p : Value) (i : Int) (w : World) (h : VV w l p) : Calls Try.prog 62 #[p, .int .i64 i] w (CutPost l i w) := by
  obtain ⟨po, rfl⟩ := h.vc.shape
  have HF : Hid _ := vfirst_vv l _ i w h
  have HRs : Hid (∀ V, Below w.heap.size w V → Calls Try.prog 84 #[.pointer po, .int .i64 i] V (VvPost (restR l i) V)) := fun V hV => vrest_vv l _ i V (h.keeps hV)
  clear h
  by_cases hi : endB l i
  · have Hi : Hid (endB l i) := hi
    unfold firstR at HF
    unfold restR at HRs
    rw [if_pos hi] at HF HRs
    clear hi
    go_enter Try.func62, Try.ntmps62
    go_wp2_with fail
    refine Calls.mono HF.out ?_
    rintro e w1 ⟨hb1, b1, rfl, hv1⟩
    have HV1 : Hid (VV w1 (l.take i.toNat) (.pointer (some ⟨b1, 0, none⟩))) := hv1
    have HR1 : Hid _ := HRs.out w1 hb1
    clear HF hv1 HRs
    go_wp2_with fail
    refine Calls.mono HR1.out ?_
    rintro e w2 ⟨hb2, b2, rfl, hv2⟩
    have HE : Hid (CutPost l i w (.returned (.tuple #[.pointer (some ⟨b1, 0, none⟩), .pointer (some ⟨b2, 0, none⟩), .int .i64 0])) w2) := ⟨hb1.trans (hb2.mono hb1.size), .inl ⟨Hi.out, b1, b2, rfl, HV1.out.keeps hb2, hv2⟩⟩
    clear HR1 hv2
    go_wp2_with fail
    go_ret3
    exact HE.out
  · have Hi : Hid (¬ endB l i) := hi
    unfold firstR at HF
    rw [if_neg hi] at HF
    clear hi HRs
    go_enter Try.func62, Try.ntmps62
    go_wp2_with fail
    refine Calls.mono HF.out ?_
    rintro e w1 ⟨hb1, rfl⟩
    have HE : Hid (CutPost l i w (.returned (.tuple #[.pointer none, .pointer none, .int .i64 5])) w1) := ⟨hb1, .inr ⟨Hi.out, rfl⟩⟩
    clear HF
    go_wp2_with fail
    go_ret3
    exact HE.out

set_option maxRecDepth 100000 in
set_option maxHeartbeats 4000000 in
/-- A vector is just these items, and flat. -/
theorem is_some (l : List VT) (b : Nat) (u : Value) (w : World) (h : VV w l (.pointer (some ⟨b, 0, none⟩))) (hu : Lies 17 w l u) : Calls Try.prog 39 #[.pointer (some ⟨b, 0, none⟩), .int .i64 0, u, .int .i64 0] w fun e w' => e = .returned (.bool true) ∧ Below w.heap.size w w' := by
  obtain ⟨a, c, rfl, _⟩ := Lies.slice hu
  have HU : Hid (Lies 17 w l (.slice a l.length c)) := hu
  have HV : Hid (VV w l (.pointer (some ⟨b, 0, none⟩))) := h
  have hlen := h.len
  obtain ⟨L, hL⟩ : ∃ L, L = l.length := ⟨_, rfl⟩
  have HLn : Hid (Calls Try.prog 24 #[.pointer (some ⟨b, 0, none⟩)] w (NumPost L w)) := by rw [hL]; exact vlen_any 16 l _ w h.vc
  have HIt : Hid (∀ V, Below w.heap.size w V → Calls Try.prog 29 #[.pointer (some ⟨b, 0, none⟩)] V (ItemsPost l V)) := fun V hV => items_any l _ V (h.vc.keeps hV) h.len h.right
  have HVs : Hid (∀ V v, Below w.heap.size w V → Lies 17 V l v → Calls Try.prog 17 #[v, .slice a L c] V fun e w' => e = .returned (.bool true) ∧ Below V.heap.size V w') := fun V v hV hv => by
    rw [hL]; exact values_one 16 l v _ V hv (Lies.keeps hV _ _ _ HU.out) hlen
  have HHt : Hid (∀ V, Below w.heap.size w V → Calls Try.prog 25 #[.pointer (some ⟨b, 0, none⟩)] V (HeightPost l V)) := fun V hV => vheight_any 16 l _ V (h.vc.keeps hV) (by omega)
  have HHi : Hid (∀ V (n : Nat), HeightPost l w (.returned (.int .i64 (n : Int))) w → Calls Try.prog 26 #[.int .i64 (L : Int)] V fun e w' => ∃ g : Nat, e = .returned (.int .i64 (g : Int)) ∧ n ≤ g ∧ w' = V) := fun V n hn => by
    obtain ⟨n', e', hh, _⟩ := hn
    injection e' with e'
    injection e' with _ e'
    obtain rfl : n = n' := by omega
    rw [hL]
    cases l with
    | nil =>
      refine Calls.mono (high_zero V) ?_
      rintro e w' ⟨rfl, rfl⟩
      refine ⟨0, rfl, ?_, rfl⟩
      rcases hh with ⟨_, rfl⟩ | ⟨h, _⟩
      · exact Nat.le_refl _
      · exact absurd rfl h
    | cons x l =>
      refine Calls.mono (high_any (x :: l).length V (by simp) hlen) ?_
      rintro e w' ⟨⟨j, rfl, _, hj⟩, rfl⟩
      refine ⟨j / 4 + 3, rfl, ?_, rfl⟩
      rcases hh with ⟨h, _⟩ | ⟨_, h, rfl, hh⟩
      · cases h
      · exact height_low _ h j hh hj
  have heq : ((L : Nat) : Int) = (l.length : Nat) := by omega
  rw [← hL]
  clear hu h hlen hL heq
  go_enter Try.func39, Try.ntmps39
  go_wp2_with fail
  refine Calls.mono HLn.out ?_
  rintro e w1 ⟨rfl, hb1⟩
  have HI1 : Hid _ := HIt.out w1 hb1
  clear HLn HIt
  go_wp2_with fail
  refine Calls.mono HI1.out ?_
  rintro e w2 ⟨v2, rfl, hv2, hg2⟩
  have hb2 : Below w.heap.size w w2 := hb1.trans (hg2.mono hb1.size)
  have HV2 : Hid _ := HVs.out w2 v2 hb2 (LiesB.lies _ _ _ hv2)
  obtain ⟨a2, c2, rfl, _⟩ := Lies.slice (LiesB.lies _ _ _ hv2)
  clear HI1 hv2 hg2 HVs
  go_wp2_with fail
  refine Calls.mono HV2.out ?_
  rintro e w3 ⟨rfl, hg3⟩
  have hb3 : Below w.heap.size w w3 := hb2.trans (hg3.mono hb2.size)
  have HH3 : Hid _ := HHt.out w3 hb3
  clear HV2 hg3 HHt
  go_wp2_with fail
  refine Calls.mono HH3.out ?_
  rintro e w4 ⟨hN, rfl, hok, hg4⟩
  have hb4 : Below w.heap.size w w4 := hb3.trans (hg4.mono hb3.size)
  have HH4 : Hid (Calls Try.prog 26 #[.int .i64 (L : Int)] w4 fun e w' => ∃ g : Nat, e = .returned (.int .i64 (g : Int)) ∧ hN ≤ g ∧ w' = w4) := HHi.out w4 hN ⟨hN, rfl, hok, Below.refl _ _⟩
  clear HH3 hok hg4 HHi
  go_wp2_with fail
  refine Calls.mono HH4.out ?_
  rintro e w5 ⟨g, rfl, hle, rfl⟩
  have hlei : ((hN : Nat) : Int) ≤ (g : Nat) := by omega
  clear HH4
  go_wp2_with fail
  go_ret
  exact ⟨rfl, hb4⟩

set_option maxRecDepth 100000 in
theorem is_none (k : Nat) (hk : k ≠ 0) (a : Option Addr) (n c : Nat) (w : World) : Calls Try.prog 39 #[.pointer none, .int .i64 (k : Int), .slice a n c, .int .i64 (k : Int)] w fun e w' => e = .returned (.bool true) ∧ Below w.heap.size w w' := by
  have hk0 : ¬ ((k : Nat) : Int) = 0 := by omega
  have hne : (((k : Nat) : Int) != ((k : Nat) : Int)) = false := by simp
  go_enter Try.func39, Try.ntmps39
  go_wp2_with fail
  go_ret
  exact ⟨rfl, Below.refl _ _⟩

end Go.Proofs.Ytpnfmcmhcjekfaa

namespace Go.Proofs.Ytpnfmcmhcjekfaa
open Go.RowKit

/-- A list is told, or an error. -/
def LstPost (r : List VT ⊕ Nat) (w : World) (e : Ending) (w' : World) : Prop :=
  Below w.heap.size w w' ∧ match r with
  | .inl m => ∃ a c, e = .returned (.tuple #[.slice a m.length c, .int .i64 0]) ∧ Lies 17 w' m (.slice a m.length c)
  | .inr k => e = .returned (.tuple #[.slice none 0 0, .int .i64 (k : Int)])

theorem src_of {w : World} {l : List VT} {a : Option Addr} {c : Nat} (h : Lies 17 w l (.slice a l.length c)) : ∃ ps : List (VT × Value), ps.map (·.1) = l ∧ ps.length = l.length ∧ Src w a l.length 4 (ps.flatMap encP) ∧ ∀ p ∈ ps, Sound 16 w p := by
  obtain ⟨ps, h1, h2, h3⟩ := SlP.of_lies h
  obtain ⟨_, _, e, _, _, _, h4⟩ := id h3
  exact ⟨ps, h1, h2, SlP.src h3, h4⟩

set_option maxRecDepth 100000 in
set_option maxHeartbeats 8000000 in
theorem rpush_any (n : Nat) (l : List VT) (a : Option Addr) (c : Nat) (x : VT) (ax : Option Addr) (cx : Nat) (w : World) (hl : Lies 17 w l (.slice a l.length c)) (hlen : l.length ≤ 65536) (hx : Lies n w x.items (.slice ax x.items.length cx)) (hts : x.text.size ≤ 9223372036854775807) :
    Calls Try.prog 21 #[.slice a l.length c, .agg #[.int .i64 x.kind, .int .i64 x.num, .string x.text, .slice ax x.items.length cx]] w (LstPost (pushN n l x) w) := by
  obtain ⟨i0, hi, hz0, hz1, hz2⟩ := info24
  have Hi : Hid _ := hi; have Hz0 : Hid _ := hz0; have Hz1 : Hid _ := hz1; have Hz2 : Hid _ := hz2
  obtain ⟨wA, hwA⟩ : ∃ wA, wA = w.alloc (.cells #[.int .i64 x.kind, .int .i64 x.num, .string x.text, .slice ax x.items.length cx] 31) := ⟨_, rfl⟩
  have hbA : Below w.heap.size w wA := by rw [hwA]; exact ((Grew.refl w).alloc _).below
  have HRt : Hid _ := right_any n x (.slice ax x.items.length cx) wA (Lies.keeps hbA _ _ _ hx)
  have HBx : Hid (Bx wA w.heap.size x (.slice ax x.items.length cx)) := by rw [hwA]; exact bx_alloc w x _
  obtain ⟨x0, x1, x2, x3, _, _, _, _⟩ := HBx.out
  have HwA : Hid (wA = w.alloc (.cells #[.int .i64 x.kind, .int .i64 x.num, .string x.text, .slice ax x.items.length cx] 31)) := hwA
  obtain ⟨R, hR⟩ : ∃ R, R = pushN n l x := ⟨_, rfl⟩
  rw [← hR]
  unfold pushN at hR
  clear hi hz0 hz1 hz2
  rw [hwA] at HRt x0 x1 x2 x3
  by_cases hr : rightV n x = true
  · rw [if_pos hr] at hR
    rw [hr] at HRt
    by_cases hs : l.length + 1 ≤ 65536
    · rw [if_pos hs] at hR
      have HR : Hid (R = .inl (l ++ [x])) := hR
      obtain ⟨ps, hp1, hp2, hsrc, hsd⟩ := src_of hl
      have HS : Hid (Src w a l.length 4 (ps.flatMap encP)) := hsrc
      have Hx16 : Hid (Lies 16 w x.items (.slice ax x.items.length cx)) := (canon hx hr).1
      obtain ⟨L, hL⟩ : ∃ L, L = l.length := ⟨_, rfl⟩
      rw [← hL] at hs HS ⊢
      have hLi : ¬ ((L : Nat) : Int) = 65536 := by omega
      have HF : Hid (∀ (v : Value) (w' : World), w'.ownsRow w.heap.size 31 4 v (L + 1) (ps.flatMap encP ++ encP (x, .slice ax x.items.length cx)) → Below w.heap.size w w' → ∃ a c, v = .slice a (l ++ [x]).length c ∧ LstPost R w (.returned (.tuple #[v, .int .i64 0])) w') := fun v w' ho hb => by
        have hl9 := own_lies (ps := ps ++ [(x, .slice ax x.items.length cx)]) (d := 16) (n := L + 1) (by rw [List.length_append, hp2, hL]; rfl) (by rw [List.flatMap_append]; simpa using ho) (fun p hp => by
          rcases List.mem_append.1 hp with hp | hp
          · exact (hsd p hp).keeps hb
          · rw [List.mem_singleton.1 hp]
            exact ⟨Lies.keeps hb _ _ _ Hx16.out, hts⟩) (by rw [List.length_append, hp2]; simp; omega)
        have e9 : (ps ++ [(x, Value.slice ax x.items.length cx)]).map (·.1) = l ++ [x] := by rw [List.map_append, hp1]; rfl
        rw [e9] at hl9
        obtain ⟨a9, c9, rfl, _⟩ := Lies.slice hl9
        refine ⟨a9, c9, rfl, ?_⟩
        rw [HR.out]
        exact ⟨hb, a9, c9, rfl, hl9⟩
      clear hl hlen hx hr hR hp1 hsd hsrc hL hwA hts
      go_enter Try.func21, Try.ntmps21
      go_wp2_with fail
      refine Calls.mono HRt.out ?_
      rintro e w1 ⟨rfl, hg1⟩
      rw [← HwA.out] at hg1
      have hb1 : Below w.heap.size w w1 := hbA.trans (hg1.mono hbA.size)
      have HB1 : Hid (Bx w1 w.heap.size x (.slice ax x.items.length cx)) := HBx.out.keeps hg1
      have hs1 : w.heap.size ≤ w1.heap.size := hb1.size
      clear HRt x0 x1 x2 x3 HBx HwA hg1 hbA
      have Hnil : Hid (w1.ownsRow w.heap.size 31 4 (.slice none 0 0) 0 []) := World.ownsRow_nil _ _ _ _
      have HFa : Hid (∀ v2 w2, w2.ownsRow w.heap.size 31 4 v2 (0 + L) ([] ++ ps.flatMap encP) → w1.grownBy w2 (Value.slice none 0 0).ownBlock → Bx w2 w.heap.size x (.slice ax x.items.length cx) ∧ Below w.heap.size w (w2.alloc (.cells #[.int .i64 x.kind, .int .i64 x.num, .string x.text, .slice ax x.items.length cx] 31)) ∧ (w2.alloc (.cells #[.int .i64 x.kind, .int .i64 x.num, .string x.text, .slice ax x.items.length cx] 31)).ownsRow w.heap.size 31 4 v2 L (ps.flatMap encP) ∧ (∀ ad, some (⟨w2.heap.size, 0, none⟩ : Addr) = some ad → ∀ j u, (encP (x, .slice ax x.items.length cx))[j]? = some u → (w2.alloc (.cells #[.int .i64 x.kind, .int .i64 x.num, .string x.text, .slice ax x.items.length cx] 31)).cell? (ad.add j) = some u)) := fun v2 w2 hown2 hgrow2 => by
        have hb2 : Below w.heap.size w w2 := own_growM hb1 hs1 Hnil.out hgrow2
        have hbx : Below w2.heap.size w2 (w2.alloc (.cells #[.int .i64 x.kind, .int .i64 x.num, .string x.text, .slice ax x.items.length cx] 31)) := ((Grew.refl w2).alloc _).below
        refine ⟨HB1.out.keeps ⟨hgrow2.os, hgrow2.tape, hgrow2.output, hgrow2.size, fun k hk => hgrow2.block k hk (by simp [Value.ownBlock])⟩, hb2.trans (hbx.mono hb2.size), World.ownsRow.alloc (by simpa using hown2) _, fun ad e j u hu => ?_⟩
        injection e with e
        subst e
        match j, hu with
        | 0, hu => simp [encP] at hu; subst hu; simp [Addr.add]
        | 1, hu => simp [encP] at hu; subst hu; simp [Addr.add]
        | 2, hu => simp [encP] at hu; subst hu; simp [Addr.add]
        | 3, hu => simp [encP] at hu; subst hu; simp [Addr.add]
      go_wp2_with (first
        | (at_builtin; refine wpList_append_row rfl _ _ rfl w.heap.size i0 Hi.out Hz0.out Hz1.out Hz2.out v2 L (ps.flatMap encP) rfl Hown3.out (some ⟨w2.heap.size, 0, none⟩) 1 1 (encP (x, .slice ax x.items.length cx)) rfl (fun e => nomatch e) rfl Hnews.out (by intro u hu; simp [encP] at hu; rcases hu with rfl | rfl | rfl | rfl <;> rfl) (by unfold maxLen; omega) (by omega) Hb3.out.size ?_; intro v4 w4 hown4 hgrow4)
        | (at_builtin; refine wpList_append_row rfl _ _ rfl w.heap.size i0 Hi.out Hz0.out Hz1.out Hz2.out (.slice none 0 0) 0 [] rfl Hnil.out a L c (ps.flatMap encP) rfl HS.out.none HS.out.len (HS.out.cell hb1) HS.out.one (by unfold maxLen; omega) (by omega) hs1 ?_; intro v2 w2 hown2 hgrow2; obtain ⟨hBx2, hb3, hown3, hnews⟩ := HFa.out v2 w2 hown2 hgrow2; obtain ⟨x0, x1, x2, x3, _, _, _, _⟩ := hBx2; have Hb3 : Hid _ := hb3; have Hown3 : Hid _ := hown3; have Hnews : Hid _ := hnews; clear hown2 hgrow2 hb3 hown3 hnews HFa))
      have hb4 : Below w.heap.size w w4 := own_growM Hb3.out Hb3.out.size Hown3.out hgrow4
      obtain ⟨a4, c4, rfl, hfin⟩ := HF.out v4 w4 hown4 hb4
      have HE : Hid _ := hfin
      clear hown4 hgrow4 hfin
      go_wp2_with fail
      go_ret2
      exact HE.out
    · rw [if_neg hs] at hR
      have HR : Hid (R = .inr 2) := hR
      have hL : l.length = 65536 := by omega
      clear hl hx hr hR hwA hts hs hlen
      rw [hL]
      go_enter Try.func21, Try.ntmps21
      go_wp2_with fail
      refine Calls.mono HRt.out ?_
      rintro e w1 ⟨rfl, hg1⟩
      rw [← HwA.out] at hg1
      have HE : Hid (LstPost R w (.returned (.tuple #[.slice none 0 0, .int .i64 2])) w1) := by
        show LstPost _ _ _ _
        rw [HR.out]
        exact ⟨hbA.trans (hg1.mono hbA.size), rfl⟩
      clear HRt x0 x1 x2 x3 HBx HwA hg1 hbA
      go_wp2_with fail
      go_ret2
      exact HE.out
  · rw [if_neg hr] at hR
    have hr' : rightV n x = false := by simpa using hr
    rw [hr'] at HRt
    have HR : Hid (R = .inr 3) := hR
    clear hl hx hr hr' hR hwA hts hlen
    go_enter Try.func21, Try.ntmps21
    go_wp2_with fail
    refine Calls.mono HRt.out ?_
    rintro e w1 ⟨rfl, hg1⟩
    rw [← HwA.out] at hg1
    have HE : Hid (LstPost R w (.returned (.tuple #[.slice none 0 0, .int .i64 3])) w1) := by
      show LstPost _ _ _ _
      rw [HR.out]
      exact ⟨hbA.trans (hg1.mono hbA.size), rfl⟩
    clear HRt x0 x1 x2 x3 HBx HwA hg1 hbA
    go_wp2_with fail
    go_ret2
    exact HE.out

end Go.Proofs.Ytpnfmcmhcjekfaa

