/-
  A list of steps in memory; the height and its bound.
-/
import Derived.Test.YtplahohaahfjmaaRangeP
import Derived.Test.YtplahohaahfjmaaVals
namespace Go.Proofs.Ytplahohaahfjmaa
open Go.RowKit

/-- A list is told, or an error. -/
def LstPost (r : List VT ⊕ Nat) (w : World) (e : Ending) (w' : World) : Prop :=
  Below w.heap.size w w' ∧ match r with
  | .inl m => ∃ a c, e = .returned (.tuple #[.slice a m.length c, .int .i64 0]) ∧ Lies 17 w' m (.slice a m.length c)
  | .inr k => e = .returned (.tuple #[.slice none 0 0, .int .i64 (k : Int)])

theorem src_of {w : World} {l : List VT} {a : Option Addr} {c : Nat} (h : Lies 17 w l (.slice a l.length c)) : ∃ ps : List (VT × Value), ps.map (·.1) = l ∧ ps.length = l.length ∧ Src w a l.length 4 (ps.flatMap encP) ∧ ∀ p ∈ ps, Sound 16 w p := by
  obtain ⟨ps, h1, h2, h3⟩ := SlP.of_lies h
  obtain ⟨_, _, e, _, _, _, h4⟩ := id h3
  exact ⟨ps, h1, h2, SlP.src h3, h4⟩

set_option maxRecDepth 100000 in
set_option maxHeartbeats 8000000 in
theorem rpush_any (n : Nat) (l : List VT) (a : Option Addr) (c : Nat) (x : VT) (ax : Option Addr) (cx : Nat) (w : World) (hl : Lies 17 w l (.slice a l.length c)) (hlen : l.length ≤ 65536) (hx : Lies n w x.items (.slice ax x.items.length cx)) (hts : x.text.size ≤ 9223372036854775807) :
    Calls Try.prog 21 #[.slice a l.length c, .agg #[.int .i64 x.kind, .int .i64 x.num, .string x.text, .slice ax x.items.length cx]] w (LstPost (pushN n l x) w) := by
  obtain ⟨i0, hi, hz0, hz1, hz2⟩ := info24
  have Hi : Hid _ := hi; have Hz0 : Hid _ := hz0; have Hz1 : Hid _ := hz1; have Hz2 : Hid _ := hz2
  obtain ⟨wA, hwA⟩ : ∃ wA, wA = w.alloc (.cells #[.int .i64 x.kind, .int .i64 x.num, .string x.text, .slice ax x.items.length cx] 31) := ⟨_, rfl⟩
  have hbA : Below w.heap.size w wA := by rw [hwA]; exact ((Grew.refl w).alloc _).below
  have HRt : Hid _ := right_any n x (.slice ax x.items.length cx) wA (Lies.keeps hbA _ _ _ hx)
  have HBx : Hid (Bx wA w.heap.size x (.slice ax x.items.length cx)) := by rw [hwA]; exact bx_alloc w x _
  obtain ⟨x0, x1, x2, x3, _, _, _, _⟩ := HBx.out
  have HwA : Hid (wA = w.alloc (.cells #[.int .i64 x.kind, .int .i64 x.num, .string x.text, .slice ax x.items.length cx] 31)) := hwA
  obtain ⟨R, hR⟩ : ∃ R, R = pushN n l x := ⟨_, rfl⟩
  rw [← hR]
  unfold pushN at hR
  clear hi hz0 hz1 hz2
  rw [hwA] at HRt x0 x1 x2 x3
  by_cases hr : rightV n x = true
  · rw [if_pos hr] at hR
    rw [hr] at HRt
    by_cases hs : l.length + 1 ≤ 65536
    · rw [if_pos hs] at hR
      have HR : Hid (R = .inl (l ++ [x])) := hR
      obtain ⟨ps, hp1, hp2, hsrc, hsd⟩ := src_of hl
      have HS : Hid (Src w a l.length 4 (ps.flatMap encP)) := hsrc
      have Hx16 : Hid (Lies 16 w x.items (.slice ax x.items.length cx)) := (canon hx hr).1
      obtain ⟨L, hL⟩ : ∃ L, L = l.length := ⟨_, rfl⟩
      rw [← hL] at hs HS ⊢
      have hLi : ¬ ((L : Nat) : Int) = 65536 := by omega
      have HF : Hid (∀ (v : Value) (w' : World), w'.ownsRow w.heap.size 31 4 v (L + 1) (ps.flatMap encP ++ encP (x, .slice ax x.items.length cx)) → Below w.heap.size w w' → ∃ a c, v = .slice a (l ++ [x]).length c ∧ LstPost R w (.returned (.tuple #[v, .int .i64 0])) w') := fun v w' ho hb => by
        have hl9 := own_lies (ps := ps ++ [(x, .slice ax x.items.length cx)]) (d := 16) (n := L + 1) (by rw [List.length_append, hp2, hL]; rfl) (by rw [List.flatMap_append]; simpa using ho) (fun p hp => by
          rcases List.mem_append.1 hp with hp | hp
          · exact (hsd p hp).keeps hb
          · rw [List.mem_singleton.1 hp]
            exact ⟨Lies.keeps hb _ _ _ Hx16.out, hts⟩) (by rw [List.length_append, hp2]; simp; omega)
        have e9 : (ps ++ [(x, Value.slice ax x.items.length cx)]).map (·.1) = l ++ [x] := by rw [List.map_append, hp1]; rfl
        rw [e9] at hl9
        obtain ⟨a9, c9, rfl, _⟩ := Lies.slice hl9
        refine ⟨a9, c9, rfl, ?_⟩
        rw [HR.out]
        exact ⟨hb, a9, c9, rfl, hl9⟩
      clear hl hlen hx hr hR hp1 hsd hsrc hL hwA hts
      go_enter Try.func21, Try.ntmps21
      go_wp2_with fail
      refine Calls.mono HRt.out ?_
      rintro e w1 ⟨rfl, hg1⟩
      rw [← HwA.out] at hg1
      have hb1 : Below w.heap.size w w1 := hbA.trans (hg1.mono hbA.size)
      have HB1 : Hid (Bx w1 w.heap.size x (.slice ax x.items.length cx)) := HBx.out.keeps hg1
      have hs1 : w.heap.size ≤ w1.heap.size := hb1.size
      clear HRt x0 x1 x2 x3 HBx HwA hg1 hbA
      have Hnil : Hid (w1.ownsRow w.heap.size 31 4 (.slice none 0 0) 0 []) := World.ownsRow_nil _ _ _ _
      have HFa : Hid (∀ v2 w2, w2.ownsRow w.heap.size 31 4 v2 (0 + L) ([] ++ ps.flatMap encP) → w1.grownBy w2 (Value.slice none 0 0).ownBlock → Bx w2 w.heap.size x (.slice ax x.items.length cx) ∧ Below w.heap.size w (w2.alloc (.cells #[.int .i64 x.kind, .int .i64 x.num, .string x.text, .slice ax x.items.length cx] 31)) ∧ (w2.alloc (.cells #[.int .i64 x.kind, .int .i64 x.num, .string x.text, .slice ax x.items.length cx] 31)).ownsRow w.heap.size 31 4 v2 L (ps.flatMap encP) ∧ (∀ ad, some (⟨w2.heap.size, 0, none⟩ : Addr) = some ad → ∀ j u, (encP (x, .slice ax x.items.length cx))[j]? = some u → (w2.alloc (.cells #[.int .i64 x.kind, .int .i64 x.num, .string x.text, .slice ax x.items.length cx] 31)).cell? (ad.add j) = some u)) := fun v2 w2 hown2 hgrow2 => by
        have hb2 : Below w.heap.size w w2 := own_growM hb1 hs1 Hnil.out hgrow2
        have hbx : Below w2.heap.size w2 (w2.alloc (.cells #[.int .i64 x.kind, .int .i64 x.num, .string x.text, .slice ax x.items.length cx] 31)) := ((Grew.refl w2).alloc _).below
        refine ⟨HB1.out.keeps ⟨hgrow2.os, hgrow2.tape, hgrow2.output, hgrow2.size, fun k hk => hgrow2.block k hk (by simp [Value.ownBlock])⟩, hb2.trans (hbx.mono hb2.size), World.ownsRow.alloc (by simpa using hown2) _, fun ad e j u hu => ?_⟩
        injection e with e
        subst e
        match j, hu with
        | 0, hu => simp [encP] at hu; subst hu; simp [Addr.add]
        | 1, hu => simp [encP] at hu; subst hu; simp [Addr.add]
        | 2, hu => simp [encP] at hu; subst hu; simp [Addr.add]
        | 3, hu => simp [encP] at hu; subst hu; simp [Addr.add]
      go_wp2_with (first
        | (at_builtin; refine wpList_append_row rfl _ _ rfl w.heap.size i0 Hi.out Hz0.out Hz1.out Hz2.out v2 L (ps.flatMap encP) rfl Hown3.out (some ⟨w2.heap.size, 0, none⟩) 1 1 (encP (x, .slice ax x.items.length cx)) rfl (fun e => nomatch e) rfl Hnews.out (by intro u hu; simp [encP] at hu; rcases hu with rfl | rfl | rfl | rfl <;> rfl) (by unfold maxLen; omega) (by omega) Hb3.out.size ?_; intro v4 w4 hown4 hgrow4)
        | (at_builtin; refine wpList_append_row rfl _ _ rfl w.heap.size i0 Hi.out Hz0.out Hz1.out Hz2.out (.slice none 0 0) 0 [] rfl Hnil.out a L c (ps.flatMap encP) rfl HS.out.none HS.out.len (HS.out.cell hb1) HS.out.one (by unfold maxLen; omega) (by omega) hs1 ?_; intro v2 w2 hown2 hgrow2; obtain ⟨hBx2, hb3, hown3, hnews⟩ := HFa.out v2 w2 hown2 hgrow2; obtain ⟨x0, x1, x2, x3, _, _, _, _⟩ := hBx2; have Hb3 : Hid _ := hb3; have Hown3 : Hid _ := hown3; have Hnews : Hid _ := hnews; clear hown2 hgrow2 hb3 hown3 hnews HFa))
      have hb4 : Below w.heap.size w w4 := own_growM Hb3.out Hb3.out.size Hown3.out hgrow4
      obtain ⟨a4, c4, rfl, hfin⟩ := HF.out v4 w4 hown4 hb4
      have HE : Hid _ := hfin
      clear hown4 hgrow4 hfin
      go_wp2_with fail
      go_ret2
      exact HE.out
    · rw [if_neg hs] at hR
      have HR : Hid (R = .inr 2) := hR
      have hL : l.length = 65536 := by omega
      clear hl hx hr hR hwA hts hs hlen
      rw [hL]
      go_enter Try.func21, Try.ntmps21
      go_wp2_with fail
      refine Calls.mono HRt.out ?_
      rintro e w1 ⟨rfl, hg1⟩
      rw [← HwA.out] at hg1
      have HE : Hid (LstPost R w (.returned (.tuple #[.slice none 0 0, .int .i64 2])) w1) := by
        show LstPost _ _ _ _
        rw [HR.out]
        exact ⟨hbA.trans (hg1.mono hbA.size), rfl⟩
      clear HRt x0 x1 x2 x3 HBx HwA hg1 hbA
      go_wp2_with fail
      go_ret2
      exact HE.out
  · rw [if_neg hr] at hR
    have hr' : rightV n x = false := by simpa using hr
    rw [hr'] at HRt
    have HR : Hid (R = .inr 3) := hR
    clear hl hx hr hr' hR hwA hts hlen
    go_enter Try.func21, Try.ntmps21
    go_wp2_with fail
    refine Calls.mono HRt.out ?_
    rintro e w1 ⟨rfl, hg1⟩
    rw [← HwA.out] at hg1
    have HE : Hid (LstPost R w (.returned (.tuple #[.slice none 0 0, .int .i64 3])) w1) := by
      show LstPost _ _ _ _
      rw [HR.out]
      exact ⟨hbA.trans (hg1.mono hbA.size), rfl⟩
    clear HRt x0 x1 x2 x3 HBx HwA hg1 hbA
    go_wp2_with fail
    go_ret2
    exact HE.out

end Go.Proofs.Ytplahohaahfjmaa

namespace Go.Proofs.Ytplahohaahfjmaa
open Go.RowKit

set_option maxRecDepth 100000 in
set_option maxHeartbeats 8000000 in
theorem speaks11_any (w : World) : Calls Try.prog 11 #[] w fun e w' => e = .returned (.bool true) ∧ Below w.heap.size w w' := by
  have hbA : Below w.heap.size w (w.alloc (.cells #[.int .i64 1, .int .i64 2, .int .i64 3] 2)) := ((Grew.refl w).alloc _).below
  have HI : Hid (Calls Try.prog 46 #[.slice (some ⟨w.heap.size, 0, none⟩) 3 3] (w.alloc (.cells #[.int .i64 1, .int .i64 2, .int .i64 3] 2)) fun e w' => ∃ g c, e = .returned (.slice (some ⟨g, 0, none⟩) 3 c) ∧ Lies 17 w' ([1, 2, 3].map numT) (.slice (some ⟨g, 0, none⟩) 3 c) ∧ Below w.heap.size w w') := by
    refine Calls.mono (nums_any [1, 2, 3] w.heap.size 3 _ (by simp) (by simp) (fun i hi => by
      match i, hi with
      | 0, _ => simp
      | 1, _ => simp
      | 2, _ => simp)) ?_
    rintro e w1 ⟨g, c, rfl, hl, hb⟩
    exact ⟨g, c, rfl, hl, hbA.trans (hb.mono hbA.size)⟩
  have HO : Hid (∀ V v, Lies 17 V ([1, 2, 3].map numT) v → Calls Try.prog 9 #[v] V fun e w' => ∃ b, e = .returned (.tuple #[.pointer (some ⟨b, 0, none⟩), .int .i64 0]) ∧ VC 16 w' ([1, 2, 3].map numT) (.pointer (some ⟨b, 0, none⟩)) ∧ Below V.heap.size V w') := fun V v hv => by
    have h9 := of_any _ v V hv
    rw [nums_of [1, 2, 3] (by simp)] at h9
    refine Calls.mono h9 ?_
    rintro e w1 ⟨hb, b, rfl, hvc⟩
    exact ⟨b, rfl, hvc, hb⟩
  have HS : Hid (∀ V b, VC 16 V ([1, 2, 3].map numT) (.pointer (some ⟨b, 0, none⟩)) → Calls Try.prog 18 #[.pointer (some ⟨b, 0, none⟩), .int .i64 1, .agg #[.int .i64 2, .int .i64 9, .string ⟨#[]⟩, .slice none 0 0]] V fun e w' => ∃ b', e = .returned (.tuple #[.pointer (some ⟨b', 0, none⟩), .int .i64 0]) ∧ VC 16 w' ([1, 9, 3].map numT) (.pointer (some ⟨b', 0, none⟩)) ∧ Below V.heap.size V w') := fun V b hv => by
    have h9 := vset_any ([1, 2, 3].map numT) _ 1 (numT 9) none 0 V hv (lies_nilD _ _) (by show 0 ≤ 9223372036854775807; omega) (by simp)
    have e : setR ([1, 2, 3].map numT) 1 (numT 9) = .inl ([1, 9, 3].map numT) := by
      unfold setR
      rw [if_pos (right_num 9), if_pos (by simp)]
      rfl
    rw [e] at h9
    refine Calls.mono h9 ?_
    rintro e w1 ⟨hb, b, rfl, hvc⟩
    exact ⟨b, rfl, hvc, hb⟩
  have HN : Hid (∀ V b (a c n : Int), VC 16 V ([a, n, c].map numT) (.pointer (some ⟨b, 0, none⟩)) → Calls Try.prog 13 #[.pointer (some ⟨b, 0, none⟩), .int .i64 1] V fun e w' => ∃ a5 c5, e = .returned (.tuple #[.agg #[.int .i64 2, .int .i64 n, .string ⟨#[]⟩, .slice a5 0 c5], .int .i64 0]) ∧ Below V.heap.size V w') := fun V b a c n hv => by
    refine Calls.mono (vnth_some _ _ 1 (numT n) V hv rfl (right_num n) (by simp)) ?_
    rintro e w1 ⟨hb, v, rfl, hL⟩
    obtain ⟨a2, c2, rfl, _⟩ := Lies.slice (LiesB.lies _ _ _ hL)
    exact ⟨a2, c2, rfl, hb⟩
  have HN3 : Hid (∀ V b, VC 16 V ([1, 2, 3].map numT) (.pointer (some ⟨b, 0, none⟩)) → Calls Try.prog 13 #[.pointer (some ⟨b, 0, none⟩), .int .i64 3] V fun e w' => e = .returned (.tuple #[.agg #[.int .i64 0, .int .i64 0, .string ⟨#[]⟩, .slice none 0 0], .int .i64 5]) ∧ Below V.heap.size V w') := fun V b hv => by
    refine Calls.mono (vnth_none _ _ 3 V hv (by simp)) ?_
    rintro e w1 ⟨hb, rfl⟩
    exact ⟨rfl, hb⟩
  have HL : Hid (∀ V b, VC 16 V ([1, 9, 3].map numT) (.pointer (some ⟨b, 0, none⟩)) → Calls Try.prog 24 #[.pointer (some ⟨b, 0, none⟩)] V (NumPost 3 V)) := fun V b hv => vlen_any 16 _ _ V hv
  clear hbA
  go_enter Try.func11, Try.ntmps11
  go_wp2_with fail
  refine Calls.mono HI.out ?_
  rintro e w1 ⟨g, c, rfl, hl1, hb1⟩
  have HO1 : Hid _ := HO.out w1 _ hl1
  clear HI HO hl1
  go_wp2_with fail
  refine Calls.mono HO1.out ?_
  rintro e w2 ⟨b, rfl, hv2, hg2⟩
  have hb2 : Below w.heap.size w w2 := hb1.trans (hg2.mono hb1.size)
  have HV2 : Hid (VC 16 w2 ([1, 2, 3].map numT) (.pointer (some ⟨b, 0, none⟩))) := hv2
  clear HO1 hv2 hg2
  go_wp2_with fail
  refine (int_any 9 _).mono ?_
  rintro e w3 ⟨rfl, hg3⟩
  have hb3 : Below w.heap.size w w3 := hb2.trans (hg3.below.mono hb2.size)
  have HV3 : Hid (VC 16 w3 ([1, 2, 3].map numT) (.pointer (some ⟨b, 0, none⟩))) := HV2.out.keeps hg3.below
  have HS3 : Hid _ := HS.out w3 b HV3.out
  clear HV2 hg3 HS
  go_wp2_with fail
  refine Calls.mono HS3.out ?_
  rintro e w4 ⟨b', rfl, hv4, hg4⟩
  have hb4 : Below w.heap.size w w4 := hb3.trans (hg4.mono hb3.size)
  have HV4 : Hid (VC 16 w4 ([1, 2, 3].map numT) (.pointer (some ⟨b, 0, none⟩))) := HV3.out.keeps hg4
  have HW4 : Hid (VC 16 w4 ([1, 9, 3].map numT) (.pointer (some ⟨b', 0, none⟩))) := hv4
  have HN4 : Hid _ := HN.out w4 b' 1 3 9 hv4
  clear HS3 hv4 hg4 HV3
  go_wp2_with fail
  refine Calls.mono HN4.out ?_
  rintro e w5 ⟨a5, c5, rfl, hg5⟩
  obtain ⟨V5, hV5⟩ : ∃ V5, V5 = w5.alloc (.cells #[.int .i64 2, .int .i64 9, .string ⟨#[]⟩, .slice a5 0 c5] 31) := ⟨_, rfl⟩
  have hbx : Below w5.heap.size w5 V5 := by rw [hV5]; exact ((Grew.refl w5).alloc _).below
  have hg5' : Below w4.heap.size w4 V5 := hg5.trans (hbx.mono hg5.size)
  have hb5 : Below w.heap.size w V5 := hb4.trans (hg5'.mono hb4.size)
  have HV5 : Hid (VC 16 V5 ([1, 2, 3].map numT) (.pointer (some ⟨b, 0, none⟩))) := HV4.out.keeps hg5'
  have HW5 : Hid (VC 16 V5 ([1, 9, 3].map numT) (.pointer (some ⟨b', 0, none⟩))) := HW4.out.keeps hg5'
  have HN5 : Hid (Calls Try.prog 13 #[.pointer (some ⟨b, 0, none⟩), .int .i64 1] V5 fun e w' => ∃ a6 c6, e = .returned (.tuple #[.agg #[.int .i64 2, .int .i64 2, .string ⟨#[]⟩, .slice a6 0 c6], .int .i64 0]) ∧ Below V5.heap.size V5 w') := HN.out _ b 1 3 2 HV5.out
  have k5 : V5.cell? ⟨w5.heap.size, 1, none⟩ = some (.int .i64 9) := by rw [hV5]; simp
  have HVe : Hid (V5 = w5.alloc (.cells #[.int .i64 2, .int .i64 9, .string ⟨#[]⟩, .slice a5 0 c5] 31)) := hV5
  rw [hV5] at HN5
  clear HN4 hg5 hbx hg5' HV4 HW4 HN hV5
  go_wp2_with fail
  refine Calls.mono HN5.out ?_
  rintro e w6 ⟨a6, c6, rfl, hg6⟩
  rw [← HVe.out] at hg6
  obtain ⟨V6, hV6⟩ : ∃ V6, V6 = w6.alloc (.cells #[.int .i64 2, .int .i64 2, .string ⟨#[]⟩, .slice a6 0 c6] 31) := ⟨_, rfl⟩
  have hbx : Below w6.heap.size w6 V6 := by rw [hV6]; exact ((Grew.refl w6).alloc _).below
  have hg6' : Below V5.heap.size V5 V6 := hg6.trans (hbx.mono hg6.size)
  have hb6 : Below w.heap.size w V6 := hb5.trans (hg6'.mono hb5.size)
  have HV6 : Hid (VC 16 V6 ([1, 2, 3].map numT) (.pointer (some ⟨b, 0, none⟩))) := HV5.out.keeps hg6'
  have HW6 : Hid (VC 16 V6 ([1, 9, 3].map numT) (.pointer (some ⟨b', 0, none⟩))) := HW5.out.keeps hg6'
  have HN6 : Hid (Calls Try.prog 13 #[.pointer (some ⟨b, 0, none⟩), .int .i64 3] V6 fun e w' => e = .returned (.tuple #[.agg #[.int .i64 0, .int .i64 0, .string ⟨#[]⟩, .slice none 0 0], .int .i64 5]) ∧ Below V6.heap.size V6 w') := HN3.out _ b HV6.out
  have k6 : V6.cell? ⟨w6.heap.size, 1, none⟩ = some (.int .i64 2) := by rw [hV6]; simp
  have k5 := cell_keeps hg6' k5
  have HVe6 : Hid (V6 = w6.alloc (.cells #[.int .i64 2, .int .i64 2, .string ⟨#[]⟩, .slice a6 0 c6] 31)) := hV6
  rw [hV6] at HN6
  clear HN5 hg6 hbx hg6' HV5 HW5 HN3 hV6
  go_wp2_with fail
  refine Calls.mono HN6.out ?_
  rintro e w7 ⟨rfl, hg7⟩
  rw [← HVe6.out] at hg7
  obtain ⟨V7, hV7⟩ : ∃ V7, V7 = w7.alloc (.cells #[.int .i64 0, .int .i64 0, .string ⟨#[]⟩, .slice none 0 0] 31) := ⟨_, rfl⟩
  have hbx : Below w7.heap.size w7 V7 := by rw [hV7]; exact ((Grew.refl w7).alloc _).below
  have hg7' : Below V6.heap.size V6 V7 := hg7.trans (hbx.mono hg7.size)
  have hb7 : Below w.heap.size w V7 := hb6.trans (hg7'.mono hb6.size)
  have HL7 : Hid (Calls Try.prog 24 #[.pointer (some ⟨b', 0, none⟩)] V7 (NumPost 3 V7)) := HL.out _ b' (HW6.out.keeps hg7')
  have k5 := cell_keeps hg7' k5
  have k6 := cell_keeps hg7' k6
  have HVe7 : Hid (V7 = w7.alloc (.cells #[.int .i64 0, .int .i64 0, .string ⟨#[]⟩, .slice none 0 0] 31)) := hV7
  rw [hV7] at HL7 k5 k6
  clear HN6 hg7 hbx hg7' HV6 HW6 HL hV7
  go_wp2_with fail
  refine Calls.mono HL7.out ?_
  rintro e w8 ⟨rfl, hg8⟩
  rw [← HVe7.out] at hg8
  have hb8 : Below w.heap.size w w8 := hb7.trans (hg8.mono hb7.size)
  go_wp2_with fail
  go_ret
  exact ⟨rfl, hb8⟩

end Go.Proofs.Ytplahohaahfjmaa

namespace Go.Proofs.Ytplahohaahfjmaa
open Go.RowKit

/-- A step: its kind, its place, its value. -/
abbrev StepP : Type := Int × Int × (VT × Value)

/-- The six cells of a step. -/
def SixAt (w : World) (b o : Nat) (s : StepP) : Prop :=
  w.cell? ⟨b, o, none⟩ = some (.int .i64 s.1) ∧ w.cell? ⟨b, o + 1, none⟩ = some (.int .i64 s.2.1) ∧ w.cell? ⟨b, o + 2, none⟩ = some (.int .i64 s.2.2.1.kind) ∧ w.cell? ⟨b, o + 3, none⟩ = some (.int .i64 s.2.2.1.num) ∧ w.cell? ⟨b, o + 4, none⟩ = some (.string s.2.2.1.text) ∧ w.cell? ⟨b, o + 5, none⟩ = some s.2.2.2

/-- A slice of steps. -/
def SlS (n : Nat) (w : World) (ss : List StepP) (v : Value) : Prop :=
  ∃ a c, v = .slice a ss.length c ∧ ss.length ≤ c ∧ ss.length ≤ 9223372036854775807 ∧ (ss ≠ [] → ∃ b o, a = some ⟨b, o, none⟩ ∧ ∀ (i : Nat) (h : i < ss.length), SixAt w b (o + i * 6) (ss[i]'h)) ∧ ∀ s ∈ ss, Sound n w s.2.2

/-- What a step holds, wherever it is looked at. -/
theorem SlS.at {n : Nat} {w : World} {ss : List StepP} {v : Value} (h : SlS n w ss v) : ∃ a c, v = .slice a ss.length c ∧ ss.length ≤ c ∧ ss.length ≤ 9223372036854775807 ∧ ∀ (j : Nat), j < ss.length → ∃ (b o : Nat) (k t : Int) (x : VT) (ax : Option Addr) (cx : Nat), a = some ⟨b, o, none⟩ ∧ ss[j]? = some (k, t, (x, .slice ax x.items.length cx)) ∧ Lies n w x.items (.slice ax x.items.length cx) ∧ x.text.size ≤ 9223372036854775807 ∧ ∀ W, Below w.heap.size w W → SixAt W b (o + j * 6) (k, t, (x, .slice ax x.items.length cx)) ∧ b < W.heap.size := by
  obtain ⟨a, c, hv, h1, h2, hr, hs⟩ := h
  refine ⟨a, c, hv, h1, h2, fun j hj => ?_⟩
  obtain ⟨b, o, ha, hcs⟩ := hr (fun e => by rw [e] at hj; cases hj)
  obtain ⟨⟨k, t, x, u⟩, hx⟩ : ∃ x, x = ss[j] := ⟨_, rfl⟩
  have hc := hcs j hj
  have hsd := hs _ (List.getElem_mem hj)
  rw [← hx] at hc hsd
  obtain ⟨ax, cx, hu, _⟩ := Lies.slice hsd.1
  simp only at hu
  subst hu
  refine ⟨b, o, k, t, x, ax, cx, ha, by rw [List.getElem?_eq_getElem hj, hx], hsd.1, hsd.2, fun W hW => ?_⟩
  obtain ⟨c0, c1, c2, c3, c4, c5⟩ := hc
  exact ⟨⟨cell_keeps hW c0, cell_keeps hW c1, cell_keeps hW c2, cell_keeps hW c3, cell_keeps hW c4, cell_keeps hW c5⟩, cell_lt (cell_keeps hW c0)⟩

/-- As high as it may be. -/
def HtOK (l : List VT) (n : Nat) : Prop := (l = [] ∧ n = 0) ∨ (l ≠ [] ∧ ∃ h, n = h + 1 ∧ (h = 0 ∨ 16 ^ h ≤ l.length))

theorem high_for (l : List VT) (w : World) (hl : l.length ≤ 65536) : Calls Try.prog 26 #[.int .i64 (l.length : Int)] w fun e w' => ∃ g : Nat, e = .returned (.int .i64 (g : Int)) ∧ (∀ n, HtOK l n → n ≤ g) ∧ w' = w := by
  cases l with
  | nil =>
    refine Calls.mono (high_zero w) ?_
    rintro e w' ⟨rfl, rfl⟩
    refine ⟨0, rfl, fun n hn => ?_, rfl⟩
    rcases hn with ⟨_, rfl⟩ | ⟨h, _⟩
    · exact Nat.le_refl _
    · exact absurd rfl h
  | cons x l =>
    refine Calls.mono (high_any (x :: l).length w (by simp) hl) ?_
    rintro e w' ⟨⟨j, rfl, _, hj⟩, rfl⟩
    refine ⟨j / 4 + 3, rfl, fun n hn => ?_, rfl⟩
    rcases hn with ⟨h, _⟩ | ⟨_, h, rfl, hh⟩
    · cases h
    · exact height_low _ h j hh hj

theorem height_for (l : List VT) (p : Value) (w : World) (h : VV w l p) : Calls Try.prog 25 #[p] w fun e w' => ∃ n : Nat, e = .returned (.int .i64 (n : Int)) ∧ HtOK l n ∧ Below w.heap.size w w' :=
  vheight_any 16 l p w h.vc (by have := h.len; omega)

end Go.Proofs.Ytplahohaahfjmaa

