/-
  RrbHeight.
-/
import Derived.Test.YtpnfmcmhcjekfaaNumsR
namespace Go.Proofs.Ytpnfmcmhcjekfaa
open Go.RowKit

set_option maxRecDepth 100000 in
set_option maxHeartbeats 8000000 in
theorem speaks11_any (w : World) : Calls Try.prog 11 #[] w fun e w' => e = .returned (.bool true) ∧ Below w.heap.size w w' := by
  have hbA : Below w.heap.size w (w.alloc (.cells #[.int .i64 1, .int .i64 2, .int .i64 3] 2)) := ((Grew.refl w).alloc _).below
  have HI : Hid (Calls Try.prog 46 #[.slice (some ⟨w.heap.size, 0, none⟩) 3 3] (w.alloc (.cells #[.int .i64 1, .int .i64 2, .int .i64 3] 2)) fun e w' => ∃ g c, e = .returned (.slice (some ⟨g, 0, none⟩) 3 c) ∧ Lies 17 w' ([1, 2, 3].map numT) (.slice (some ⟨g, 0, none⟩) 3 c) ∧ Below w.heap.size w w') := by
    refine Calls.mono (nums_any [1, 2, 3] w.heap.size 3 _ (by simp) (by simp) (fun i hi => by
      match i, hi with
      | 0, _ => simp
      | 1, _ => simp
      | 2, _ => simp)) ?_
    rintro e w1 ⟨g, c, rfl, hl, hb⟩
    exact ⟨g, c, rfl, hl, hbA.trans (hb.mono hbA.size)⟩
  have HO : Hid (∀ V v, Lies 17 V ([1, 2, 3].map numT) v → Calls Try.prog 9 #[v] V fun e w' => ∃ b, e = .returned (.tuple #[.pointer (some ⟨b, 0, none⟩), .int .i64 0]) ∧ VC 16 w' ([1, 2, 3].map numT) (.pointer (some ⟨b, 0, none⟩)) ∧ Below V.heap.size V w') := fun V v hv => by
    have h9 := of_any _ v V hv
    rw [nums_of [1, 2, 3] (by simp)] at h9
    refine Calls.mono h9 ?_
    rintro e w1 ⟨hb, b, rfl, hvc⟩
    exact ⟨b, rfl, hvc, hb⟩
  have HS : Hid (∀ V b, VC 16 V ([1, 2, 3].map numT) (.pointer (some ⟨b, 0, none⟩)) → Calls Try.prog 18 #[.pointer (some ⟨b, 0, none⟩), .int .i64 1, .agg #[.int .i64 2, .int .i64 9, .string ⟨#[]⟩, .slice none 0 0]] V fun e w' => ∃ b', e = .returned (.tuple #[.pointer (some ⟨b', 0, none⟩), .int .i64 0]) ∧ VC 16 w' ([1, 9, 3].map numT) (.pointer (some ⟨b', 0, none⟩)) ∧ Below V.heap.size V w') := fun V b hv => by
    have h9 := vset_any ([1, 2, 3].map numT) _ 1 (numT 9) none 0 V hv (lies_nilD _ _) (by show 0 ≤ 9223372036854775807; omega) (by simp)
    have e : setR ([1, 2, 3].map numT) 1 (numT 9) = .inl ([1, 9, 3].map numT) := by
      unfold setR
      rw [if_pos (right_num 9), if_pos (by simp)]
      rfl
    rw [e] at h9
    refine Calls.mono h9 ?_
    rintro e w1 ⟨hb, b, rfl, hvc⟩
    exact ⟨b, rfl, hvc, hb⟩
  have HN : Hid (∀ V b (a c n : Int), VC 16 V ([a, n, c].map numT) (.pointer (some ⟨b, 0, none⟩)) → Calls Try.prog 13 #[.pointer (some ⟨b, 0, none⟩), .int .i64 1] V fun e w' => ∃ a5 c5, e = .returned (.tuple #[.agg #[.int .i64 2, .int .i64 n, .string ⟨#[]⟩, .slice a5 0 c5], .int .i64 0]) ∧ Below V.heap.size V w') := fun V b a c n hv => by
    refine Calls.mono (vnth_some _ _ 1 (numT n) V hv rfl (right_num n) (by simp)) ?_
    rintro e w1 ⟨hb, v, rfl, hL⟩
    obtain ⟨a2, c2, rfl, _⟩ := Lies.slice (LiesB.lies _ _ _ hL)
    exact ⟨a2, c2, rfl, hb⟩
  have HN3 : Hid (∀ V b, VC 16 V ([1, 2, 3].map numT) (.pointer (some ⟨b, 0, none⟩)) → Calls Try.prog 13 #[.pointer (some ⟨b, 0, none⟩), .int .i64 3] V fun e w' => e = .returned (.tuple #[.agg #[.int .i64 0, .int .i64 0, .string ⟨#[]⟩, .slice none 0 0], .int .i64 5]) ∧ Below V.heap.size V w') := fun V b hv => by
    refine Calls.mono (vnth_none _ _ 3 V hv (by simp)) ?_
    rintro e w1 ⟨hb, rfl⟩
    exact ⟨rfl, hb⟩
  have HL : Hid (∀ V b, VC 16 V ([1, 9, 3].map numT) (.pointer (some ⟨b, 0, none⟩)) → Calls Try.prog 24 #[.pointer (some ⟨b, 0, none⟩)] V (NumPost 3 V)) := fun V b hv => vlen_any 16 _ _ V hv
  clear hbA
  go_enter Try.func11, Try.ntmps11
  go_wp2_with fail
  refine Calls.mono HI.out ?_
  rintro e w1 ⟨g, c, rfl, hl1, hb1⟩
  have HO1 : Hid _ := HO.out w1 _ hl1
  clear HI HO hl1
  go_wp2_with fail
  refine Calls.mono HO1.out ?_
  rintro e w2 ⟨b, rfl, hv2, hg2⟩
  have hb2 : Below w.heap.size w w2 := hb1.trans (hg2.mono hb1.size)
  have HV2 : Hid (VC 16 w2 ([1, 2, 3].map numT) (.pointer (some ⟨b, 0, none⟩))) := hv2
  clear HO1 hv2 hg2
  go_wp2_with fail
  refine (int_any 9 _).mono ?_
  rintro e w3 ⟨rfl, hg3⟩
  have hb3 : Below w.heap.size w w3 := hb2.trans (hg3.below.mono hb2.size)
  have HV3 : Hid (VC 16 w3 ([1, 2, 3].map numT) (.pointer (some ⟨b, 0, none⟩))) := HV2.out.keeps hg3.below
  have HS3 : Hid _ := HS.out w3 b HV3.out
  clear HV2 hg3 HS
  go_wp2_with fail
  refine Calls.mono HS3.out ?_
  rintro e w4 ⟨b', rfl, hv4, hg4⟩
  have hb4 : Below w.heap.size w w4 := hb3.trans (hg4.mono hb3.size)
  have HV4 : Hid (VC 16 w4 ([1, 2, 3].map numT) (.pointer (some ⟨b, 0, none⟩))) := HV3.out.keeps hg4
  have HW4 : Hid (VC 16 w4 ([1, 9, 3].map numT) (.pointer (some ⟨b', 0, none⟩))) := hv4
  have HN4 : Hid _ := HN.out w4 b' 1 3 9 hv4
  clear HS3 hv4 hg4 HV3
  go_wp2_with fail
  refine Calls.mono HN4.out ?_
  rintro e w5 ⟨a5, c5, rfl, hg5⟩
  obtain ⟨V5, hV5⟩ : ∃ V5, V5 = w5.alloc (.cells #[.int .i64 2, .int .i64 9, .string ⟨#[]⟩, .slice a5 0 c5] 31) := ⟨_, rfl⟩
  have hbx : Below w5.heap.size w5 V5 := by rw [hV5]; exact ((Grew.refl w5).alloc _).below
  have hg5' : Below w4.heap.size w4 V5 := hg5.trans (hbx.mono hg5.size)
  have hb5 : Below w.heap.size w V5 := hb4.trans (hg5'.mono hb4.size)
  have HV5 : Hid (VC 16 V5 ([1, 2, 3].map numT) (.pointer (some ⟨b, 0, none⟩))) := HV4.out.keeps hg5'
  have HW5 : Hid (VC 16 V5 ([1, 9, 3].map numT) (.pointer (some ⟨b', 0, none⟩))) := HW4.out.keeps hg5'
  have HN5 : Hid (Calls Try.prog 13 #[.pointer (some ⟨b, 0, none⟩), .int .i64 1] V5 fun e w' => ∃ a6 c6, e = .returned (.tuple #[.agg #[.int .i64 2, .int .i64 2, .string ⟨#[]⟩, .slice a6 0 c6], .int .i64 0]) ∧ Below V5.heap.size V5 w') := HN.out _ b 1 3 2 HV5.out
  have k5 : V5.cell? ⟨w5.heap.size, 1, none⟩ = some (.int .i64 9) := by rw [hV5]; simp
  have HVe : Hid (V5 = w5.alloc (.cells #[.int .i64 2, .int .i64 9, .string ⟨#[]⟩, .slice a5 0 c5] 31)) := hV5
  rw [hV5] at HN5
  clear HN4 hg5 hbx hg5' HV4 HW4 HN hV5
  go_wp2_with fail
  refine Calls.mono HN5.out ?_
  rintro e w6 ⟨a6, c6, rfl, hg6⟩
  rw [← HVe.out] at hg6
  obtain ⟨V6, hV6⟩ : ∃ V6, V6 = w6.alloc (.cells #[.int .i64 2, .int .i64 2, .string ⟨#[]⟩, .slice a6 0 c6] 31) := ⟨_, rfl⟩
  have hbx : Below w6.heap.size w6 V6 := by rw [hV6]; exact ((Grew.refl w6).alloc _).below
  have hg6' : Below V5.heap.size V5 V6 := hg6.trans (hbx.mono hg6.size)
  have hb6 : Below w.heap.size w V6 := hb5.trans (hg6'.mono hb5.size)
  have HV6 : Hid (VC 16 V6 ([1, 2, 3].map numT) (.pointer (some ⟨b, 0, none⟩))) := HV5.out.keeps hg6'
  have HW6 : Hid (VC 16 V6 ([1, 9, 3].map numT) (.pointer (some ⟨b', 0, none⟩))) := HW5.out.keeps hg6'
  have HN6 : Hid (Calls Try.prog 13 #[.pointer (some ⟨b, 0, none⟩), .int .i64 3] V6 fun e w' => e = .returned (.tuple #[.agg #[.int .i64 0, .int .i64 0, .string ⟨#[]⟩, .slice none 0 0], .int .i64 5]) ∧ Below V6.heap.size V6 w') := HN3.out _ b HV6.out
  have k6 : V6.cell? ⟨w6.heap.size, 1, none⟩ = some (.int .i64 2) := by rw [hV6]; simp
  have k5 := cell_keeps hg6' k5
  have HVe6 : Hid (V6 = w6.alloc (.cells #[.int .i64 2, .int .i64 2, .string ⟨#[]⟩, .slice a6 0 c6] 31)) := hV6
  rw [hV6] at HN6
  clear HN5 hg6 hbx hg6' HV5 HW5 HN3 hV6
  go_wp2_with fail
  refine Calls.mono HN6.out ?_
  rintro e w7 ⟨rfl, hg7⟩
  rw [← HVe6.out] at hg7
  obtain ⟨V7, hV7⟩ : ∃ V7, V7 = w7.alloc (.cells #[.int .i64 0, .int .i64 0, .string ⟨#[]⟩, .slice none 0 0] 31) := ⟨_, rfl⟩
  have hbx : Below w7.heap.size w7 V7 := by rw [hV7]; exact ((Grew.refl w7).alloc _).below
  have hg7' : Below V6.heap.size V6 V7 := hg7.trans (hbx.mono hg7.size)
  have hb7 : Below w.heap.size w V7 := hb6.trans (hg7'.mono hb6.size)
  have HL7 : Hid (Calls Try.prog 24 #[.pointer (some ⟨b', 0, none⟩)] V7 (NumPost 3 V7)) := HL.out _ b' (HW6.out.keeps hg7')
  have k5 := cell_keeps hg7' k5
  have k6 := cell_keeps hg7' k6
  have HVe7 : Hid (V7 = w7.alloc (.cells #[.int .i64 0, .int .i64 0, .string ⟨#[]⟩, .slice none 0 0] 31)) := hV7
  rw [hV7] at HL7 k5 k6
  clear HN6 hg7 hbx hg7' HV6 HW6 HL hV7
  go_wp2_with fail
  refine Calls.mono HL7.out ?_
  rintro e w8 ⟨rfl, hg8⟩
  rw [← HVe7.out] at hg8
  have hb8 : Below w.heap.size w w8 := hb7.trans (hg8.mono hb7.size)
  go_wp2_with fail
  go_ret
  exact ⟨rfl, hb8⟩

end Go.Proofs.Ytpnfmcmhcjekfaa

namespace Go.Proofs.Ytpnfmcmhcjekfaa
open Go.RowKit

/-- A step: its kind, its place, its value. -/
abbrev StepP : Type := Int × Int × (VT × Value)

/-- The six cells of a step. -/
def SixAt (w : World) (b o : Nat) (s : StepP) : Prop :=
  w.cell? ⟨b, o, none⟩ = some (.int .i64 s.1) ∧ w.cell? ⟨b, o + 1, none⟩ = some (.int .i64 s.2.1) ∧ w.cell? ⟨b, o + 2, none⟩ = some (.int .i64 s.2.2.1.kind) ∧ w.cell? ⟨b, o + 3, none⟩ = some (.int .i64 s.2.2.1.num) ∧ w.cell? ⟨b, o + 4, none⟩ = some (.string s.2.2.1.text) ∧ w.cell? ⟨b, o + 5, none⟩ = some s.2.2.2

/-- A slice of steps. -/
def SlS (n : Nat) (w : World) (ss : List StepP) (v : Value) : Prop :=
  ∃ a c, v = .slice a ss.length c ∧ ss.length ≤ c ∧ ss.length ≤ 9223372036854775807 ∧ (ss ≠ [] → ∃ b o, a = some ⟨b, o, none⟩ ∧ ∀ (i : Nat) (h : i < ss.length), SixAt w b (o + i * 6) (ss[i]'h)) ∧ ∀ s ∈ ss, Sound n w s.2.2

/-- What a step holds, wherever it is looked at. -/
theorem SlS.at {n : Nat} {w : World} {ss : List StepP} {v : Value} (h : SlS n w ss v) : ∃ a c, v = .slice a ss.length c ∧ ss.length ≤ c ∧ ss.length ≤ 9223372036854775807 ∧ ∀ (j : Nat), j < ss.length → ∃ (b o : Nat) (k t : Int) (x : VT) (ax : Option Addr) (cx : Nat), a = some ⟨b, o, none⟩ ∧ ss[j]? = some (k, t, (x, .slice ax x.items.length cx)) ∧ Lies n w x.items (.slice ax x.items.length cx) ∧ x.text.size ≤ 9223372036854775807 ∧ ∀ W, Below w.heap.size w W → SixAt W b (o + j * 6) (k, t, (x, .slice ax x.items.length cx)) ∧ b < W.heap.size := by
  obtain ⟨a, c, hv, h1, h2, hr, hs⟩ := h
  refine ⟨a, c, hv, h1, h2, fun j hj => ?_⟩
  obtain ⟨b, o, ha, hcs⟩ := hr (fun e => by rw [e] at hj; cases hj)
  obtain ⟨⟨k, t, x, u⟩, hx⟩ : ∃ x, x = ss[j] := ⟨_, rfl⟩
  have hc := hcs j hj
  have hsd := hs _ (List.getElem_mem hj)
  rw [← hx] at hc hsd
  obtain ⟨ax, cx, hu, _⟩ := Lies.slice hsd.1
  simp only at hu
  subst hu
  refine ⟨b, o, k, t, x, ax, cx, ha, by rw [List.getElem?_eq_getElem hj, hx], hsd.1, hsd.2, fun W hW => ?_⟩
  obtain ⟨c0, c1, c2, c3, c4, c5⟩ := hc
  exact ⟨⟨cell_keeps hW c0, cell_keeps hW c1, cell_keeps hW c2, cell_keeps hW c3, cell_keeps hW c4, cell_keeps hW c5⟩, cell_lt (cell_keeps hW c0)⟩

/-- As high as it may be. -/
def HtOK (l : List VT) (n : Nat) : Prop := (l = [] ∧ n = 0) ∨ (l ≠ [] ∧ ∃ h, n = h + 1 ∧ (h = 0 ∨ 16 ^ h ≤ l.length))

theorem high_for (l : List VT) (w : World) (hl : l.length ≤ 65536) : Calls Try.prog 26 #[.int .i64 (l.length : Int)] w fun e w' => ∃ g : Nat, e = .returned (.int .i64 (g : Int)) ∧ (∀ n, HtOK l n → n ≤ g) ∧ w' = w := by
  cases l with
  | nil =>
    refine Calls.mono (high_zero w) ?_
    rintro e w' ⟨rfl, rfl⟩
    refine ⟨0, rfl, fun n hn => ?_, rfl⟩
    rcases hn with ⟨_, rfl⟩ | ⟨h, _⟩
    · exact Nat.le_refl _
    · exact absurd rfl h
  | cons x l =>
    refine Calls.mono (high_any (x :: l).length w (by simp) hl) ?_
    rintro e w' ⟨⟨j, rfl, _, hj⟩, rfl⟩
    refine ⟨j / 4 + 3, rfl, fun n hn => ?_, rfl⟩
    rcases hn with ⟨h, _⟩ | ⟨_, h, rfl, hh⟩
    · cases h
    · exact height_low _ h j hh hj

theorem height_for (l : List VT) (p : Value) (w : World) (h : VV w l p) : Calls Try.prog 25 #[p] w fun e w' => ∃ n : Nat, e = .returned (.int .i64 (n : Int)) ∧ HtOK l n ∧ Below w.heap.size w w' :=
  vheight_any 16 l p w h.vc (by have := h.len; omega)

end Go.Proofs.Ytpnfmcmhcjekfaa

namespace Go.Proofs.Ytpnfmcmhcjekfaa
open Go.RowKit

theorem push_right {n : Nat} {l m : List VT} {x : VT} {w : World} {u : Value} (hx : Lies n w x.items u) (hr : l.all (rightV 16) = true) (h : pushN n l x = .inl m) : m.length ≤ 65536 ∧ m.all (rightV 16) = true := by
  unfold pushN at h
  by_cases h1 : rightV n x = true
  · rw [if_pos h1] at h
    by_cases h2 : l.length + 1 ≤ 65536
    · rw [if_pos h2] at h
      injection h with h
      subst h
      refine ⟨by rw [List.length_append]; exact h2, ?_⟩
      rw [List.all_append, hr]
      simpa using (canon hx h1).2
    · rw [if_neg h2] at h; cases h
  · rw [if_neg h1] at h; cases h

/-- What Push tells of a vector whose items are right. -/
theorem push_vv (n : Nat) (l : List VT) (p : Value) (x : VT) (ax : Option Addr) (cx : Nat) (w : World) (h : VV w l p) (hx : Lies n w x.items (.slice ax x.items.length cx)) (hts : x.text.size ≤ 9223372036854775807) :
    Calls Try.prog 20 #[p, .agg #[.int .i64 x.kind, .int .i64 x.num, .string x.text, .slice ax x.items.length cx]] w fun e w' => Below w.heap.size w w' ∧ ((∃ b, e = .returned (.tuple #[.pointer (some ⟨b, 0, none⟩), .int .i64 0]) ∧ VV w' (l ++ [x]) (.pointer (some ⟨b, 0, none⟩)) ∧ rightV n x = true ∧ l.length + 1 ≤ 65536) ∨ (∃ k : Nat, e = .returned (.tuple #[.pointer none, .int .i64 (k : Int)]) ∧ ((k = 3 ∧ rightV n x = false) ∨ (k = 2 ∧ rightV n x = true ∧ l.length = 65536)))) := by
  refine Calls.mono (push_n n l p x ax cx w h.vc hx hts h.len) ?_
  rintro e w' ⟨hb, hp⟩
  refine ⟨hb, ?_⟩
  by_cases h1 : rightV n x = true
  · by_cases h2 : l.length + 1 ≤ 65536
    · have e9 : pushN n l x = .inl (l ++ [x]) := by unfold pushN; rw [if_pos h1, if_pos h2]
      have h9 := push_right hx h.right e9
      rw [e9] at hp
      obtain ⟨b, rfl, hv⟩ := hp
      exact .inl ⟨b, rfl, ⟨hv, h9.1, h9.2⟩, h1, h2⟩
    · have e9 : pushN n l x = .inr 2 := by unfold pushN; rw [if_pos h1, if_neg h2]
      rw [e9] at hp
      exact .inr ⟨2, hp, .inr ⟨rfl, h1, by have := h.len; omega⟩⟩
  · have e9 : pushN n l x = .inr 3 := by unfold pushN; rw [if_neg h1]
    rw [e9] at hp
    exact .inr ⟨3, hp, .inl ⟨rfl, by simpa using h1⟩⟩

/-- What Pop tells of a vector whose items are right. -/
theorem pop_vv (l : List VT) (p : Value) (w : World) (h : VV w l p) : Calls Try.prog 22 #[p] w fun e w' => Below w.heap.size w w' ∧ ((l = [] ∧ e = .returned (.tuple #[.pointer none, .agg #[.int .i64 0, .int .i64 0, .string ⟨#[]⟩, .slice none 0 0], .int .i64 6])) ∨
    ∃ m x b a c, l = m ++ [x] ∧ e = .returned (.tuple #[.pointer (some ⟨b, 0, none⟩), .agg #[.int .i64 x.kind, .int .i64 x.num, .string x.text, .slice a x.items.length c], .int .i64 0]) ∧ VV w' m (.pointer (some ⟨b, 0, none⟩)) ∧ LiesB w.heap.size 16 w' x.items (.slice a x.items.length c)) := by
  refine Calls.mono (vpop_any l p w h) ?_
  rintro e w' ⟨hb, hp⟩
  refine ⟨hb, ?_⟩
  rcases hp with ⟨hl, he⟩ | ⟨m, x, b, v, hl, he, hv, hL⟩
  · exact .inl ⟨hl, he⟩
  · obtain ⟨a, c, rfl, _⟩ := Lies.slice (LiesB.lies _ _ _ hL)
    refine .inr ⟨m, x, b, a, c, hl, he, ⟨hv, ?_, ?_⟩, hL⟩
    · have := h.len
      rw [hl, List.length_append] at this
      omega
    · have := h.right
      rw [hl, List.all_append, Bool.and_eq_true] at this
      exact this.1

set_option maxRecDepth 100000 in
set_option maxHeartbeats 16000000 in
theorem height_walk (n : Nat) (l : List VT) (ul : Value) (m : Nat) (ss : List StepP) (us : Value) (w : World) (hl : Lies (n + 1) w l ul) (hs : SlS m w ss us) : Calls Try.prog 5 #[ul, us] w fun e w' => e = .returned (.bool true) ∧ Below w.heap.size w w' := by
  obtain ⟨al, cl, rfl, hlb⟩ := Lies.slice hl
  obtain ⟨aS, cS, rfl, hcs, hs63, hat⟩ := hs.at
  obtain ⟨S, hS⟩ : ∃ S, S = ss.length := ⟨_, rfl⟩
  rw [← hS] at hat hs63 ⊢
  have HO : Hid (Calls Try.prog 9 #[.slice al l.length cl] w fun e w' => Below w.heap.size w w' ∧ ((∃ b, e = .returned (.tuple #[.pointer (some ⟨b, 0, none⟩), .int .i64 0]) ∧ VV w' l (.pointer (some ⟨b, 0, none⟩))) ∨ (∃ k : Nat, e = .returned (.tuple #[.pointer none, .int .i64 (k : Int)]) ∧ (k = 2 ∨ k = 3)))) := by
    refine Calls.mono (of_n n l _ w hl) ?_
    rintro e w' ⟨hb, hp⟩
    refine ⟨hb, ?_⟩
    unfold ofN at hp
    by_cases h1 : 65536 < l.length
    · rw [if_pos h1] at hp
      exact .inr ⟨2, hp, .inl rfl⟩
    · rw [if_neg h1] at hp
      by_cases h2 : l.all (rightV n) = true
      · rw [if_pos h2] at hp
        obtain ⟨b, rfl, hv⟩ := hp
        exact .inl ⟨b, rfl, hv, by omega, (canonL hl h2).2⟩
      · rw [if_neg h2] at hp
        exact .inr ⟨3, hp, .inr rfl⟩
  have HSp : Hid (∀ V, Calls Try.prog 11 #[] V fun e w' => e = .returned (.bool true) ∧ Below V.heap.size V w') := speaks11_any
  have Hat : Hid _ := hat
  clear hl hs hat hcs hS
  go_enter Try.func5, Try.ntmps5
  go_wp2_with fail
  refine Calls.mono HO.out ?_
  rintro e w1 ⟨hb1, hp1⟩
  rcases hp1 with ⟨b, rfl, hv⟩ | ⟨k, rfl, hk⟩
  · have HV : Hid (VV w1 l (.pointer (some ⟨b, 0, none⟩))) := hv
    clear HO hv
    go_wp2_with fail
    go_loopg [7, 5] 201 (fun z vi vp wr => ∃ (j : Nat) (M : List VT) (po : Option Addr), vi = .int .i64 (j : Int) ∧ j ≤ 200 ∧ z = 201 - j ∧ vp = .pointer po ∧ Hid (VV wr M (.pointer po)) ∧ Hid (Below w.heap.size w wr))
    case atStart => exact ⟨0, l, _, rfl, by omega, rfl, rfl, HV, hb1⟩
    case round =>
      obtain ⟨j, M, po, rfl, hj, hz, rfl, HM, HB⟩ := hrel
      have Hz : Hid _ := hz
      clear hz
      by_cases hlt : j < S ∧ j < 200
      · have hji : (j : Int) < (S : Nat) := by omega
        have hj2 : (j : Int) < 200 := by omega
        obtain ⟨sb, so, k, t, x, ax, cx, hsa, hsj, hxl, hxt, hcell⟩ := Hat.out j hlt.1
        subst hsa
        obtain ⟨⟨c0, c1, c2, c3, c4, c5⟩, hbl⟩ := hcell wr HB.out
        have HCell : Hid _ := hcell
        have HXl : Hid (Lies m w x.items (.slice ax x.items.length cx)) := hxl
        simp only at c0 c1 c2 c3 c4 c5
        clear hcell hxl hsj
        by_cases hk1 : k = 1
        · subst hk1
          have HP : Hid _ := push_vv m M _ x ax cx wr HM.out (Lies.keeps HB.out _ _ _ HXl.out) hxt
          go_wp2_with fail
          refine Calls.mono HP.out ?_
          rintro e w2 ⟨hg2, hp2⟩
          have HB2 : Hid (Below w.heap.size w w2) := HB.out.trans (hg2.mono HB.out.size)
          rcases hp2 with ⟨b2, rfl, hv2, _, _⟩ | ⟨kk, rfl, hkk⟩
          · have HV2 : Hid (VV w2 (M ++ [x]) (.pointer (some ⟨b2, 0, none⟩))) := hv2
            clear HP hg2 hv2 HM HB c0 c1 c2 c3 c4 c5
            have HHt : Hid _ := height_for (M ++ [x]) _ w2 HV2.out
            go_wp2_with fail
            refine Calls.mono HHt.out ?_
            rintro e wa ⟨hN, rfl, hok, hga⟩
            have HVa : Hid (VV wa (M ++ [x]) (.pointer (some ⟨b2, 0, none⟩))) := HV2.out.keeps hga
            have HBa : Hid (Below w.heap.size w wa) := HB2.out.trans (hga.mono HB2.out.size)
            have Hok : Hid (HtOK (M ++ [x]) hN) := hok
            obtain ⟨L, hL⟩ : ∃ L, L = ((M ++ [x])).length := ⟨_, rfl⟩
            have HLa : Hid (Calls Try.prog 24 #[.pointer (some ⟨b2, 0, none⟩)] wa (NumPost L wa)) := by rw [hL]; exact vlen_any 16 (M ++ [x]) _ wa HVa.out.vc
            have HL : Hid (L = ((M ++ [x])).length) := hL
            clear HHt hok hga hL
            go_wp2_with fail
            refine Calls.mono HLa.out ?_
            rintro e wb ⟨rfl, hgb⟩
            have HVb : Hid (VV wb (M ++ [x]) (.pointer (some ⟨b2, 0, none⟩))) := HVa.out.keeps hgb
            have HBb : Hid (Below w.heap.size w wb) := HBa.out.trans (hgb.mono HBa.out.size)
            have HHi : Hid (Calls Try.prog 26 #[.int .i64 (L : Int)] wb fun e w' => ∃ g : Nat, e = .returned (.int .i64 (g : Int)) ∧ (∀ n, HtOK (M ++ [x]) n → n ≤ g) ∧ w' = wb) := by rw [HL.out]; exact high_for (M ++ [x]) wb HVb.out.len
            have HLb : Hid (Calls Try.prog 24 #[.pointer (some ⟨b2, 0, none⟩)] wb (NumPost L wb)) := by rw [HL.out]; exact vlen_any 16 (M ++ [x]) _ wb HVb.out.vc
            clear HLa hgb HVa HBa
            go_wp2_with fail
            refine Calls.mono HHi.out ?_
            rintro e wc ⟨gN, rfl, hle, rfl⟩
            have hle1 := hle hN Hok.out
            have hle2 : ¬ ((gN : Nat) : Int) < (hN : Nat) := by omega
            have hle3 : ((hN : Nat) : Int) ≤ (gN : Nat) := by omega
            have hz2 : hN = 0 ↔ L = 0 := by
              have h8 := HL.out
              rcases Hok.out with ⟨h9, h10⟩ | ⟨h9, h, h10, _⟩
              · rw [h9] at h8; simp at h8; omega
              · have : ((M ++ [x])).length ≠ 0 := fun h7 => h9 (List.eq_nil_of_length_eq_zero h7)
                omega
            clear HHi hle Hok
            have HEnd : Hid (∀ wd, Below wc.heap.size wc wd → VV wd (M ++ [x]) (.pointer (some ⟨b2, 0, none⟩)) ∧ Below w.heap.size w wd) := fun wd hd => ⟨HVb.out.keeps hd, HBb.out.trans (hd.mono HBb.out.size)⟩
            by_cases hN0 : hN = 0
            · have hL0 : L = 0 := hz2.1 hN0
              subst hN0 hL0
              clear hz2 hle1 hle2 hle3 HL
              go_wp2_with fail
              refine Calls.mono HLb.out ?_
              rintro e wd ⟨rfl, hgd⟩
              have HEd : Hid _ := HEnd.out wd hgd
              clear HLb
              go_wp2_with fail
              go_roundg (201 - (j + 1))
              case measure => have := Hz.out; omega
              case rel => exact ⟨j + 1, _, _, by go_num, by omega, rfl, rfl, HEd.out.1, HEd.out.2⟩
            · have hL0 : ¬ L = 0 := fun h => hN0 (hz2.2 h)
              have hN0i : ¬ ((hN : Nat) : Int) = 0 := by omega
              have hL0i : ¬ ((L : Nat) : Int) = 0 := by omega
              clear hz2
              go_wp2_with fail
              refine Calls.mono HLb.out ?_
              rintro e wd ⟨rfl, hgd⟩
              have HEd : Hid _ := HEnd.out wd hgd
              clear HLb
              go_wp2_with fail
              · rename_i hbad
                exfalso
                rcases hbad with (hbad | hbad) | hbad
                · omega
                · omega
                · rw [beq_eq_false_iff_ne.2 hN0i, beq_eq_false_iff_ne.2 hL0i] at hbad
                  simp at hbad
              · go_roundg (201 - (j + 1))
                case measure => have := Hz.out; omega
                case rel => exact ⟨j + 1, _, _, by go_num, by omega, rfl, rfl, HEd.out.1, HEd.out.2⟩
          · have HV2 : Hid (VV w2 M (.pointer po)) := HM.out.keeps hg2
            have hk0 : ¬ ((kk : Nat) : Int) = 0 := by omega
            clear HP hg2 HM HB c0 c1 c2 c3 c4 c5
            have HHt : Hid _ := height_for M _ w2 HV2.out
            go_wp2_with fail
            refine Calls.mono HHt.out ?_
            rintro e wa ⟨hN, rfl, hok, hga⟩
            have HVa : Hid (VV wa M (.pointer po)) := HV2.out.keeps hga
            have HBa : Hid (Below w.heap.size w wa) := HB2.out.trans (hga.mono HB2.out.size)
            have Hok : Hid (HtOK M hN) := hok
            obtain ⟨L, hL⟩ : ∃ L, L = (M).length := ⟨_, rfl⟩
            have HLa : Hid (Calls Try.prog 24 #[.pointer po] wa (NumPost L wa)) := by rw [hL]; exact vlen_any 16 M _ wa HVa.out.vc
            have HL : Hid (L = (M).length) := hL
            clear HHt hok hga hL
            go_wp2_with fail
            refine Calls.mono HLa.out ?_
            rintro e wb ⟨rfl, hgb⟩
            have HVb : Hid (VV wb M (.pointer po)) := HVa.out.keeps hgb
            have HBb : Hid (Below w.heap.size w wb) := HBa.out.trans (hgb.mono HBa.out.size)
            have HHi : Hid (Calls Try.prog 26 #[.int .i64 (L : Int)] wb fun e w' => ∃ g : Nat, e = .returned (.int .i64 (g : Int)) ∧ (∀ n, HtOK M n → n ≤ g) ∧ w' = wb) := by rw [HL.out]; exact high_for M wb HVb.out.len
            have HLb : Hid (Calls Try.prog 24 #[.pointer po] wb (NumPost L wb)) := by rw [HL.out]; exact vlen_any 16 M _ wb HVb.out.vc
            clear HLa hgb HVa HBa
            go_wp2_with fail
            refine Calls.mono HHi.out ?_
            rintro e wc ⟨gN, rfl, hle, rfl⟩
            have hle1 := hle hN Hok.out
            have hle2 : ¬ ((gN : Nat) : Int) < (hN : Nat) := by omega
            have hle3 : ((hN : Nat) : Int) ≤ (gN : Nat) := by omega
            have hz2 : hN = 0 ↔ L = 0 := by
              have h8 := HL.out
              rcases Hok.out with ⟨h9, h10⟩ | ⟨h9, h, h10, _⟩
              · rw [h9] at h8; simp at h8; omega
              · have : (M).length ≠ 0 := fun h7 => h9 (List.eq_nil_of_length_eq_zero h7)
                omega
            clear HHi hle Hok
            have HEnd : Hid (∀ wd, Below wc.heap.size wc wd → VV wd M (.pointer po) ∧ Below w.heap.size w wd) := fun wd hd => ⟨HVb.out.keeps hd, HBb.out.trans (hd.mono HBb.out.size)⟩
            by_cases hN0 : hN = 0
            · have hL0 : L = 0 := hz2.1 hN0
              subst hN0 hL0
              clear hz2 hle1 hle2 hle3 HL
              go_wp2_with fail
              refine Calls.mono HLb.out ?_
              rintro e wd ⟨rfl, hgd⟩
              have HEd : Hid _ := HEnd.out wd hgd
              clear HLb
              go_wp2_with fail
              go_roundg (201 - (j + 1))
              case measure => have := Hz.out; omega
              case rel => exact ⟨j + 1, _, _, by go_num, by omega, rfl, rfl, HEd.out.1, HEd.out.2⟩
            · have hL0 : ¬ L = 0 := fun h => hN0 (hz2.2 h)
              have hN0i : ¬ ((hN : Nat) : Int) = 0 := by omega
              have hL0i : ¬ ((L : Nat) : Int) = 0 := by omega
              clear hz2
              go_wp2_with fail
              refine Calls.mono HLb.out ?_
              rintro e wd ⟨rfl, hgd⟩
              have HEd : Hid _ := HEnd.out wd hgd
              clear HLb
              go_wp2_with fail
              · rename_i hbad
                exfalso
                rcases hbad with (hbad | hbad) | hbad
                · omega
                · omega
                · rw [beq_eq_false_iff_ne.2 hN0i, beq_eq_false_iff_ne.2 hL0i] at hbad
                  simp at hbad
              · go_roundg (201 - (j + 1))
                case measure => have := Hz.out; omega
                case rel => exact ⟨j + 1, _, _, by go_num, by omega, rfl, rfl, HEd.out.1, HEd.out.2⟩
        · by_cases hk2 : k = 2
          · subst hk2
            have HP : Hid _ := pop_vv M _ wr HM.out
            go_wp2_with fail
            refine Calls.mono HP.out ?_
            rintro e w2 ⟨hg2, hp2⟩
            have HB2 : Hid (Below w.heap.size w w2) := HB.out.trans (hg2.mono HB.out.size)
            rcases hp2 with ⟨hM0, rfl⟩ | ⟨M2, x2, b2, a2, c2', hM2, rfl, hv2, _⟩
            · have HV2 : Hid (VV w2 M (.pointer po)) := HM.out.keeps hg2
              clear HP hg2 HM HB c0 c1 c2 c3 c4 c5 hM0
              have HHt : Hid _ := height_for M _ w2 HV2.out
              go_wp2_with fail
              refine Calls.mono HHt.out ?_
              rintro e wa ⟨hN, rfl, hok, hga⟩
              have HVa : Hid (VV wa M (.pointer po)) := HV2.out.keeps hga
              have HBa : Hid (Below w.heap.size w wa) := HB2.out.trans (hga.mono HB2.out.size)
              have Hok : Hid (HtOK M hN) := hok
              obtain ⟨L, hL⟩ : ∃ L, L = (M).length := ⟨_, rfl⟩
              have HLa : Hid (Calls Try.prog 24 #[.pointer po] wa (NumPost L wa)) := by rw [hL]; exact vlen_any 16 M _ wa HVa.out.vc
              have HL : Hid (L = (M).length) := hL
              clear HHt hok hga hL
              go_wp2_with fail
              refine Calls.mono HLa.out ?_
              rintro e wb ⟨rfl, hgb⟩
              have HVb : Hid (VV wb M (.pointer po)) := HVa.out.keeps hgb
              have HBb : Hid (Below w.heap.size w wb) := HBa.out.trans (hgb.mono HBa.out.size)
              have HHi : Hid (Calls Try.prog 26 #[.int .i64 (L : Int)] wb fun e w' => ∃ g : Nat, e = .returned (.int .i64 (g : Int)) ∧ (∀ n, HtOK M n → n ≤ g) ∧ w' = wb) := by rw [HL.out]; exact high_for M wb HVb.out.len
              have HLb : Hid (Calls Try.prog 24 #[.pointer po] wb (NumPost L wb)) := by rw [HL.out]; exact vlen_any 16 M _ wb HVb.out.vc
              clear HLa hgb HVa HBa
              go_wp2_with fail
              refine Calls.mono HHi.out ?_
              rintro e wc ⟨gN, rfl, hle, rfl⟩
              have hle1 := hle hN Hok.out
              have hle2 : ¬ ((gN : Nat) : Int) < (hN : Nat) := by omega
              have hle3 : ((hN : Nat) : Int) ≤ (gN : Nat) := by omega
              have hz2 : hN = 0 ↔ L = 0 := by
                have h8 := HL.out
                rcases Hok.out with ⟨h9, h10⟩ | ⟨h9, h, h10, _⟩
                · rw [h9] at h8; simp at h8; omega
                · have : (M).length ≠ 0 := fun h7 => h9 (List.eq_nil_of_length_eq_zero h7)
                  omega
              clear HHi hle Hok
              have HEnd : Hid (∀ wd, Below wc.heap.size wc wd → VV wd M (.pointer po) ∧ Below w.heap.size w wd) := fun wd hd => ⟨HVb.out.keeps hd, HBb.out.trans (hd.mono HBb.out.size)⟩
              by_cases hN0 : hN = 0
              · have hL0 : L = 0 := hz2.1 hN0
                subst hN0 hL0
                clear hz2 hle1 hle2 hle3 HL
                go_wp2_with fail
                refine Calls.mono HLb.out ?_
                rintro e wd ⟨rfl, hgd⟩
                have HEd : Hid _ := HEnd.out wd hgd
                clear HLb
                go_wp2_with fail
                go_roundg (201 - (j + 1))
                case measure => have := Hz.out; omega
                case rel => exact ⟨j + 1, _, _, by go_num, by omega, rfl, rfl, HEd.out.1, HEd.out.2⟩
              · have hL0 : ¬ L = 0 := fun h => hN0 (hz2.2 h)
                have hN0i : ¬ ((hN : Nat) : Int) = 0 := by omega
                have hL0i : ¬ ((L : Nat) : Int) = 0 := by omega
                clear hz2
                go_wp2_with fail
                refine Calls.mono HLb.out ?_
                rintro e wd ⟨rfl, hgd⟩
                have HEd : Hid _ := HEnd.out wd hgd
                clear HLb
                go_wp2_with fail
                · rename_i hbad
                  exfalso
                  rcases hbad with (hbad | hbad) | hbad
                  · omega
                  · omega
                  · rw [beq_eq_false_iff_ne.2 hN0i, beq_eq_false_iff_ne.2 hL0i] at hbad
                    simp at hbad
                · go_roundg (201 - (j + 1))
                  case measure => have := Hz.out; omega
                  case rel => exact ⟨j + 1, _, _, by go_num, by omega, rfl, rfl, HEd.out.1, HEd.out.2⟩
            · have HV2 : Hid (VV w2 M2 (.pointer (some ⟨b2, 0, none⟩))) := hv2
              clear HP hg2 HM HB c0 c1 c2 c3 c4 c5 hM2 hv2
              have HHt : Hid _ := height_for M2 _ w2 HV2.out
              go_wp2_with fail
              refine Calls.mono HHt.out ?_
              rintro e wa ⟨hN, rfl, hok, hga⟩
              have HVa : Hid (VV wa M2 (.pointer (some ⟨b2, 0, none⟩))) := HV2.out.keeps hga
              have HBa : Hid (Below w.heap.size w wa) := HB2.out.trans (hga.mono HB2.out.size)
              have Hok : Hid (HtOK M2 hN) := hok
              obtain ⟨L, hL⟩ : ∃ L, L = (M2).length := ⟨_, rfl⟩
              have HLa : Hid (Calls Try.prog 24 #[.pointer (some ⟨b2, 0, none⟩)] wa (NumPost L wa)) := by rw [hL]; exact vlen_any 16 M2 _ wa HVa.out.vc
              have HL : Hid (L = (M2).length) := hL
              clear HHt hok hga hL
              go_wp2_with fail
              refine Calls.mono HLa.out ?_
              rintro e wb ⟨rfl, hgb⟩
              have HVb : Hid (VV wb M2 (.pointer (some ⟨b2, 0, none⟩))) := HVa.out.keeps hgb
              have HBb : Hid (Below w.heap.size w wb) := HBa.out.trans (hgb.mono HBa.out.size)
              have HHi : Hid (Calls Try.prog 26 #[.int .i64 (L : Int)] wb fun e w' => ∃ g : Nat, e = .returned (.int .i64 (g : Int)) ∧ (∀ n, HtOK M2 n → n ≤ g) ∧ w' = wb) := by rw [HL.out]; exact high_for M2 wb HVb.out.len
              have HLb : Hid (Calls Try.prog 24 #[.pointer (some ⟨b2, 0, none⟩)] wb (NumPost L wb)) := by rw [HL.out]; exact vlen_any 16 M2 _ wb HVb.out.vc
              clear HLa hgb HVa HBa
              go_wp2_with fail
              refine Calls.mono HHi.out ?_
              rintro e wc ⟨gN, rfl, hle, rfl⟩
              have hle1 := hle hN Hok.out
              have hle2 : ¬ ((gN : Nat) : Int) < (hN : Nat) := by omega
              have hle3 : ((hN : Nat) : Int) ≤ (gN : Nat) := by omega
              have hz2 : hN = 0 ↔ L = 0 := by
                have h8 := HL.out
                rcases Hok.out with ⟨h9, h10⟩ | ⟨h9, h, h10, _⟩
                · rw [h9] at h8; simp at h8; omega
                · have : (M2).length ≠ 0 := fun h7 => h9 (List.eq_nil_of_length_eq_zero h7)
                  omega
              clear HHi hle Hok
              have HEnd : Hid (∀ wd, Below wc.heap.size wc wd → VV wd M2 (.pointer (some ⟨b2, 0, none⟩)) ∧ Below w.heap.size w wd) := fun wd hd => ⟨HVb.out.keeps hd, HBb.out.trans (hd.mono HBb.out.size)⟩
              by_cases hN0 : hN = 0
              · have hL0 : L = 0 := hz2.1 hN0
                subst hN0 hL0
                clear hz2 hle1 hle2 hle3 HL
                go_wp2_with fail
                refine Calls.mono HLb.out ?_
                rintro e wd ⟨rfl, hgd⟩
                have HEd : Hid _ := HEnd.out wd hgd
                clear HLb
                go_wp2_with fail
                go_roundg (201 - (j + 1))
                case measure => have := Hz.out; omega
                case rel => exact ⟨j + 1, _, _, by go_num, by omega, rfl, rfl, HEd.out.1, HEd.out.2⟩
              · have hL0 : ¬ L = 0 := fun h => hN0 (hz2.2 h)
                have hN0i : ¬ ((hN : Nat) : Int) = 0 := by omega
                have hL0i : ¬ ((L : Nat) : Int) = 0 := by omega
                clear hz2
                go_wp2_with fail
                refine Calls.mono HLb.out ?_
                rintro e wd ⟨rfl, hgd⟩
                have HEd : Hid _ := HEnd.out wd hgd
                clear HLb
                go_wp2_with fail
                · rename_i hbad
                  exfalso
                  rcases hbad with (hbad | hbad) | hbad
                  · omega
                  · omega
                  · rw [beq_eq_false_iff_ne.2 hN0i, beq_eq_false_iff_ne.2 hL0i] at hbad
                    simp at hbad
                · go_roundg (201 - (j + 1))
                  case measure => have := Hz.out; omega
                  case rel => exact ⟨j + 1, _, _, by go_num, by omega, rfl, rfl, HEd.out.1, HEd.out.2⟩
          · have HV2 : Hid (VV wr M (.pointer po)) := HM.out
            clear HM
            have HHt : Hid _ := height_for M _ wr HV2.out
            go_wp2_with fail
            refine Calls.mono HHt.out ?_
            rintro e wa ⟨hN, rfl, hok, hga⟩
            have HVa : Hid (VV wa M (.pointer po)) := HV2.out.keeps hga
            have HBa : Hid (Below w.heap.size w wa) := HB.out.trans (hga.mono HB.out.size)
            have Hok : Hid (HtOK M hN) := hok
            obtain ⟨L, hL⟩ : ∃ L, L = (M).length := ⟨_, rfl⟩
            have HLa : Hid (Calls Try.prog 24 #[.pointer po] wa (NumPost L wa)) := by rw [hL]; exact vlen_any 16 M _ wa HVa.out.vc
            have HL : Hid (L = (M).length) := hL
            clear HHt hok hga hL
            go_wp2_with fail
            refine Calls.mono HLa.out ?_
            rintro e wb ⟨rfl, hgb⟩
            have HVb : Hid (VV wb M (.pointer po)) := HVa.out.keeps hgb
            have HBb : Hid (Below w.heap.size w wb) := HBa.out.trans (hgb.mono HBa.out.size)
            have HHi : Hid (Calls Try.prog 26 #[.int .i64 (L : Int)] wb fun e w' => ∃ g : Nat, e = .returned (.int .i64 (g : Int)) ∧ (∀ n, HtOK M n → n ≤ g) ∧ w' = wb) := by rw [HL.out]; exact high_for M wb HVb.out.len
            have HLb : Hid (Calls Try.prog 24 #[.pointer po] wb (NumPost L wb)) := by rw [HL.out]; exact vlen_any 16 M _ wb HVb.out.vc
            clear HLa hgb HVa HBa
            go_wp2_with fail
            refine Calls.mono HHi.out ?_
            rintro e wc ⟨gN, rfl, hle, rfl⟩
            have hle1 := hle hN Hok.out
            have hle2 : ¬ ((gN : Nat) : Int) < (hN : Nat) := by omega
            have hle3 : ((hN : Nat) : Int) ≤ (gN : Nat) := by omega
            have hz2 : hN = 0 ↔ L = 0 := by
              have h8 := HL.out
              rcases Hok.out with ⟨h9, h10⟩ | ⟨h9, h, h10, _⟩
              · rw [h9] at h8; simp at h8; omega
              · have : (M).length ≠ 0 := fun h7 => h9 (List.eq_nil_of_length_eq_zero h7)
                omega
            clear HHi hle Hok
            have HEnd : Hid (∀ wd, Below wc.heap.size wc wd → VV wd M (.pointer po) ∧ Below w.heap.size w wd) := fun wd hd => ⟨HVb.out.keeps hd, HBb.out.trans (hd.mono HBb.out.size)⟩
            by_cases hN0 : hN = 0
            · have hL0 : L = 0 := hz2.1 hN0
              subst hN0 hL0
              clear hz2 hle1 hle2 hle3 HL
              go_wp2_with fail
              refine Calls.mono HLb.out ?_
              rintro e wd ⟨rfl, hgd⟩
              have HEd : Hid _ := HEnd.out wd hgd
              clear HLb
              go_wp2_with fail
              go_roundg (201 - (j + 1))
              case measure => have := Hz.out; omega
              case rel => exact ⟨j + 1, _, _, by go_num, by omega, rfl, rfl, HEd.out.1, HEd.out.2⟩
            · have hL0 : ¬ L = 0 := fun h => hN0 (hz2.2 h)
              have hN0i : ¬ ((hN : Nat) : Int) = 0 := by omega
              have hL0i : ¬ ((L : Nat) : Int) = 0 := by omega
              clear hz2
              go_wp2_with fail
              refine Calls.mono HLb.out ?_
              rintro e wd ⟨rfl, hgd⟩
              have HEd : Hid _ := HEnd.out wd hgd
              clear HLb
              go_wp2_with fail
              · rename_i hbad
                exfalso
                rcases hbad with (hbad | hbad) | hbad
                · omega
                · omega
                · rw [beq_eq_false_iff_ne.2 hN0i, beq_eq_false_iff_ne.2 hL0i] at hbad
                  simp at hbad
              · go_roundg (201 - (j + 1))
                case measure => have := Hz.out; omega
                case rel => exact ⟨j + 1, _, _, by go_num, by omega, rfl, rfl, HEd.out.1, HEd.out.2⟩
      · have hend : ¬ ((j : Int) < (S : Nat)) ∨ ¬ ((j : Int) < 200) := by omega
        have HEx : Hid (∀ (hend : True), True) := fun _ => trivial
        by_cases hjS : j < S
        · have hji : (j : Int) < (S : Nat) := by omega
          have hj2 : ¬ (j : Int) < 200 := by omega
          clear hend
          have HHt : Hid _ := height_for M _ wr HM.out
          go_wp2_with fail
          refine Calls.mono HHt.out ?_
          rintro e wa ⟨hN, rfl, hok, hga⟩
          have HVa : Hid (VV wa M (.pointer po)) := HM.out.keeps hga
          have HBa : Hid (Below w.heap.size w wa) := HB.out.trans (hga.mono HB.out.size)
          have Hok : Hid (HtOK M hN) := hok
          obtain ⟨L, hL⟩ : ∃ L, L = (M).length := ⟨_, rfl⟩
          have HLa : Hid (Calls Try.prog 24 #[.pointer po] wa (NumPost L wa)) := by rw [hL]; exact vlen_any 16 M _ wa HVa.out.vc
          have HL : Hid (L = (M).length) := hL
          clear HHt hok hga hL
          go_wp2_with fail
          refine Calls.mono HLa.out ?_
          rintro e wb ⟨rfl, hgb⟩
          have HVb : Hid (VV wb M (.pointer po)) := HVa.out.keeps hgb
          have HBb : Hid (Below w.heap.size w wb) := HBa.out.trans (hgb.mono HBa.out.size)
          have HHi : Hid (Calls Try.prog 26 #[.int .i64 (L : Int)] wb fun e w' => ∃ g : Nat, e = .returned (.int .i64 (g : Int)) ∧ (∀ n, HtOK M n → n ≤ g) ∧ w' = wb) := by rw [HL.out]; exact high_for M wb HVb.out.len
          have HLb : Hid (Calls Try.prog 24 #[.pointer po] wb (NumPost L wb)) := by rw [HL.out]; exact vlen_any 16 M _ wb HVb.out.vc
          clear HLa hgb HVa HBa
          go_wp2_with fail
          refine Calls.mono HHi.out ?_
          rintro e wc ⟨gN, rfl, hle, rfl⟩
          have hle1 := hle hN Hok.out
          have hle2 : ¬ ((gN : Nat) : Int) < (hN : Nat) := by omega
          have hle3 : ((hN : Nat) : Int) ≤ (gN : Nat) := by omega
          have hz2 : hN = 0 ↔ L = 0 := by
            have h8 := HL.out
            rcases Hok.out with ⟨h9, h10⟩ | ⟨h9, h, h10, _⟩
            · rw [h9] at h8; simp at h8; omega
            · have : (M).length ≠ 0 := fun h7 => h9 (List.eq_nil_of_length_eq_zero h7)
              omega
          clear HHi hle Hok
          have HEnd : Hid (Calls Try.prog 11 #[] wc fun e w' => e = .returned (.bool true) ∧ Below w.heap.size w w') := Calls.mono (HSp.out wc) (fun e w' h => ⟨h.1, HBb.out.trans (h.2.mono HBb.out.size)⟩)
          clear hz2 HL
          go_wp2_with fail
          refine Calls.mono HEnd.out ?_
          rintro e wd ⟨rfl, hgd⟩
          go_wp2_with fail
          go_ret
          exact ⟨rfl, hgd⟩
        · have hji : ¬ (j : Int) < (S : Nat) := by omega
          clear hend
          have HHt : Hid _ := height_for M _ wr HM.out
          go_wp2_with fail
          refine Calls.mono HHt.out ?_
          rintro e wa ⟨hN, rfl, hok, hga⟩
          have HVa : Hid (VV wa M (.pointer po)) := HM.out.keeps hga
          have HBa : Hid (Below w.heap.size w wa) := HB.out.trans (hga.mono HB.out.size)
          have Hok : Hid (HtOK M hN) := hok
          obtain ⟨L, hL⟩ : ∃ L, L = (M).length := ⟨_, rfl⟩
          have HLa : Hid (Calls Try.prog 24 #[.pointer po] wa (NumPost L wa)) := by rw [hL]; exact vlen_any 16 M _ wa HVa.out.vc
          have HL : Hid (L = (M).length) := hL
          clear HHt hok hga hL
          go_wp2_with fail
          refine Calls.mono HLa.out ?_
          rintro e wb ⟨rfl, hgb⟩
          have HVb : Hid (VV wb M (.pointer po)) := HVa.out.keeps hgb
          have HBb : Hid (Below w.heap.size w wb) := HBa.out.trans (hgb.mono HBa.out.size)
          have HHi : Hid (Calls Try.prog 26 #[.int .i64 (L : Int)] wb fun e w' => ∃ g : Nat, e = .returned (.int .i64 (g : Int)) ∧ (∀ n, HtOK M n → n ≤ g) ∧ w' = wb) := by rw [HL.out]; exact high_for M wb HVb.out.len
          have HLb : Hid (Calls Try.prog 24 #[.pointer po] wb (NumPost L wb)) := by rw [HL.out]; exact vlen_any 16 M _ wb HVb.out.vc
          clear HLa hgb HVa HBa
          go_wp2_with fail
          refine Calls.mono HHi.out ?_
          rintro e wc ⟨gN, rfl, hle, rfl⟩
          have hle1 := hle hN Hok.out
          have hle2 : ¬ ((gN : Nat) : Int) < (hN : Nat) := by omega
          have hle3 : ((hN : Nat) : Int) ≤ (gN : Nat) := by omega
          have hz2 : hN = 0 ↔ L = 0 := by
            have h8 := HL.out
            rcases Hok.out with ⟨h9, h10⟩ | ⟨h9, h, h10, _⟩
            · rw [h9] at h8; simp at h8; omega
            · have : (M).length ≠ 0 := fun h7 => h9 (List.eq_nil_of_length_eq_zero h7)
              omega
          clear HHi hle Hok
          have HEnd : Hid (Calls Try.prog 11 #[] wc fun e w' => e = .returned (.bool true) ∧ Below w.heap.size w w') := Calls.mono (HSp.out wc) (fun e w' h => ⟨h.1, HBb.out.trans (h.2.mono HBb.out.size)⟩)
          clear hz2 HL
          go_wp2_with fail
          refine Calls.mono HEnd.out ?_
          rintro e wd ⟨rfl, hgd⟩
          go_wp2_with fail
          go_ret
          exact ⟨rfl, hgd⟩
  · have hk0 : ¬ ((k : Nat) : Int) = 0 := by omega
    have HEnd : Hid (Calls Try.prog 11 #[] w1 fun e w' => e = .returned (.bool true) ∧ Below w.heap.size w w') := Calls.mono (HSp.out w1) (fun e w' h => ⟨h.1, hb1.trans (h.2.mono hb1.size)⟩)
    clear HO hk
    go_wp2_with fail
    refine Calls.mono HEnd.out ?_
    rintro e wd ⟨rfl, hgd⟩
    go_wp2_with fail
    go_ret
    exact ⟨rfl, hgd⟩

end Go.Proofs.Ytpnfmcmhcjekfaa

