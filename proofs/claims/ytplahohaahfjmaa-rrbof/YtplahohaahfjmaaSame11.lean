/-
  Whether a vector has just these items; a vector as a value; an empty vector.
-/
import Derived.Test.YtplahohaahfjmaaStepsR
import Derived.Test.YtplahohaahfjmaaVals
import Derived.Test.YtplahohaahfjmaaRList
namespace Go.Proofs.Ytplahohaahfjmaa
open Go.RowKit

/-- The vector's pointer as the walk writes it. -/
theorem VV.ptr {w : World} {l : List VT} {p : Value} (h : VV w l p) : ∃ o, p = .pointer o := h.vc.shape

theorem push_right {n : Nat} {l m : List VT} {x : VT} {w : World} {u : Value} (hx : Lies n w x.items u) (hr : l.all (rightV 16) = true) (h : pushN n l x = .inl m) : m.length ≤ 65536 ∧ m.all (rightV 16) = true := by
  unfold pushN at h
  by_cases h1 : rightV n x = true
  · rw [if_pos h1] at h
    by_cases h2 : l.length + 1 ≤ 65536
    · rw [if_pos h2] at h
      injection h with h
      subst h
      refine ⟨by rw [List.length_append]; exact h2, ?_⟩
      rw [List.all_append, hr]
      simpa using (canon hx h1).2
    · rw [if_neg h2] at h; cases h
  · rw [if_neg h1] at h; cases h

/-- What Push tells of a vector whose items are right. -/
theorem push_vv (n : Nat) (l : List VT) (p : Value) (x : VT) (ax : Option Addr) (cx : Nat) (w : World) (h : VV w l p) (hx : Lies n w x.items (.slice ax x.items.length cx)) (hts : x.text.size ≤ 9223372036854775807) :
    Calls Try.prog 20 #[p, .agg #[.int .i64 x.kind, .int .i64 x.num, .string x.text, .slice ax x.items.length cx]] w fun e w' => Below w.heap.size w w' ∧ ((∃ b, e = .returned (.tuple #[.pointer (some ⟨b, 0, none⟩), .int .i64 0]) ∧ VV w' (l ++ [x]) (.pointer (some ⟨b, 0, none⟩)) ∧ rightV n x = true ∧ l.length + 1 ≤ 65536) ∨ (∃ k : Nat, e = .returned (.tuple #[.pointer none, .int .i64 (k : Int)]) ∧ ((k = 3 ∧ rightV n x = false) ∨ (k = 2 ∧ rightV n x = true ∧ l.length = 65536)))) := by
  refine Calls.mono (push_n n l p x ax cx w h.vc hx hts h.len) ?_
  rintro e w' ⟨hb, hp⟩
  refine ⟨hb, ?_⟩
  by_cases h1 : rightV n x = true
  · by_cases h2 : l.length + 1 ≤ 65536
    · have e9 : pushN n l x = .inl (l ++ [x]) := by unfold pushN; rw [if_pos h1, if_pos h2]
      have h9 := push_right hx h.right e9
      rw [e9] at hp
      obtain ⟨b, rfl, hv⟩ := hp
      exact .inl ⟨b, rfl, ⟨hv, h9.1, h9.2⟩, h1, h2⟩
    · have e9 : pushN n l x = .inr 2 := by unfold pushN; rw [if_pos h1, if_neg h2]
      rw [e9] at hp
      exact .inr ⟨2, hp, .inr ⟨rfl, h1, by have := h.len; omega⟩⟩
  · have e9 : pushN n l x = .inr 3 := by unfold pushN; rw [if_neg h1]
    rw [e9] at hp
    exact .inr ⟨3, hp, .inl ⟨rfl, by simpa using h1⟩⟩

/-- What Pop tells of a vector whose items are right. -/
theorem pop_vv (l : List VT) (p : Value) (w : World) (h : VV w l p) : Calls Try.prog 22 #[p] w fun e w' => Below w.heap.size w w' ∧ ((l = [] ∧ e = .returned (.tuple #[.pointer none, .agg #[.int .i64 0, .int .i64 0, .string ⟨#[]⟩, .slice none 0 0], .int .i64 6])) ∨
    ∃ m x b a c, l = m ++ [x] ∧ e = .returned (.tuple #[.pointer (some ⟨b, 0, none⟩), .agg #[.int .i64 x.kind, .int .i64 x.num, .string x.text, .slice a x.items.length c], .int .i64 0]) ∧ VV w' m (.pointer (some ⟨b, 0, none⟩)) ∧ LiesB w.heap.size 16 w' x.items (.slice a x.items.length c)) := by
  refine Calls.mono (vpop_any l p w h) ?_
  rintro e w' ⟨hb, hp⟩
  refine ⟨hb, ?_⟩
  rcases hp with ⟨hl, he⟩ | ⟨m, x, b, v, hl, he, hv, hL⟩
  · exact .inl ⟨hl, he⟩
  · obtain ⟨a, c, rfl, _⟩ := Lies.slice (LiesB.lies _ _ _ hL)
    refine .inr ⟨m, x, b, a, c, hl, he, ⟨hv, ?_, ?_⟩, hL⟩
    · have := h.len
      rw [hl, List.length_append] at this
      omega
    · have := h.right
      rw [hl, List.all_append, Bool.and_eq_true] at this
      exact this.1

set_option maxRecDepth 100000 in
set_option maxHeartbeats 16000000 in
theorem height_walk (n : Nat) (l : List VT) (ul : Value) (m : Nat) (ss : List StepP) (us : Value) (w : World) (hl : Lies (n + 1) w l ul) (hs : SlS m w ss us) : Calls Try.prog 5 #[ul, us] w fun e w' => e = .returned (.bool true) ∧ Below w.heap.size w w' := by
  obtain ⟨al, cl, rfl, hlb⟩ := Lies.slice hl
  obtain ⟨aS, cS, rfl, hcs, hs63, hat⟩ := hs.at
  obtain ⟨S, hS⟩ : ∃ S, S = ss.length := ⟨_, rfl⟩
  rw [← hS] at hat hs63 ⊢
  have HO : Hid (Calls Try.prog 9 #[.slice al l.length cl] w fun e w' => Below w.heap.size w w' ∧ ((∃ b, e = .returned (.tuple #[.pointer (some ⟨b, 0, none⟩), .int .i64 0]) ∧ VV w' l (.pointer (some ⟨b, 0, none⟩))) ∨ (∃ k : Nat, e = .returned (.tuple #[.pointer none, .int .i64 (k : Int)]) ∧ (k = 2 ∨ k = 3)))) := by
    refine Calls.mono (of_n n l _ w hl) ?_
    rintro e w' ⟨hb, hp⟩
    refine ⟨hb, ?_⟩
    unfold ofN at hp
    by_cases h1 : 65536 < l.length
    · rw [if_pos h1] at hp
      exact .inr ⟨2, hp, .inl rfl⟩
    · rw [if_neg h1] at hp
      by_cases h2 : l.all (rightV n) = true
      · rw [if_pos h2] at hp
        obtain ⟨b, rfl, hv⟩ := hp
        exact .inl ⟨b, rfl, hv, by omega, (canonL hl h2).2⟩
      · rw [if_neg h2] at hp
        exact .inr ⟨3, hp, .inr rfl⟩
  have HSp : Hid (∀ V, Calls Try.prog 11 #[] V fun e w' => e = .returned (.bool true) ∧ Below V.heap.size V w') := speaks11_any
  have Hat : Hid _ := hat
  clear hl hs hat hcs hS
  go_enter Try.func5, Try.ntmps5
  go_wp2_with fail
  refine Calls.mono HO.out ?_
  rintro e w1 ⟨hb1, hp1⟩
  rcases hp1 with ⟨b, rfl, hv⟩ | ⟨k, rfl, hk⟩
  · have HV : Hid (VV w1 l (.pointer (some ⟨b, 0, none⟩))) := hv
    clear HO hv
    go_wp2_with fail
    go_loopg [7, 5] 201 (fun z vi vp wr => ∃ (j : Nat) (M : List VT) (po : Option Addr), vi = .int .i64 (j : Int) ∧ j ≤ 200 ∧ z = 201 - j ∧ vp = .pointer po ∧ Hid (VV wr M (.pointer po)) ∧ Hid (Below w.heap.size w wr))
    case atStart => exact ⟨0, l, _, rfl, by omega, rfl, rfl, HV, hb1⟩
    case round =>
      obtain ⟨j, M, po, rfl, hj, hz, rfl, HM, HB⟩ := hrel
      have Hz : Hid _ := hz
      clear hz
      by_cases hlt : j < S ∧ j < 200
      · have hji : (j : Int) < (S : Nat) := by omega
        have hj2 : (j : Int) < 200 := by omega
        obtain ⟨sb, so, k, t, x, ax, cx, hsa, hsj, hxl, hxt, hcell⟩ := Hat.out j hlt.1
        subst hsa
        obtain ⟨⟨c0, c1, c2, c3, c4, c5⟩, hbl⟩ := hcell wr HB.out
        have HCell : Hid _ := hcell
        have HXl : Hid (Lies m w x.items (.slice ax x.items.length cx)) := hxl
        simp only at c0 c1 c2 c3 c4 c5
        clear hcell hxl hsj
        by_cases hk1 : k = 1
        · subst hk1
          have HP : Hid _ := push_vv m M _ x ax cx wr HM.out (Lies.keeps HB.out _ _ _ HXl.out) hxt
          go_wp2_with fail
          refine Calls.mono HP.out ?_
          rintro e w2 ⟨hg2, hp2⟩
          have HB2 : Hid (Below w.heap.size w w2) := HB.out.trans (hg2.mono HB.out.size)
          rcases hp2 with ⟨b2, rfl, hv2, _, _⟩ | ⟨kk, rfl, hkk⟩
          · have HV2 : Hid (VV w2 (M ++ [x]) (.pointer (some ⟨b2, 0, none⟩))) := hv2
            clear HP hg2 hv2 HM HB c0 c1 c2 c3 c4 c5
            have HHt : Hid _ := height_for (M ++ [x]) _ w2 HV2.out
            go_wp2_with fail
            refine Calls.mono HHt.out ?_
            rintro e wa ⟨hN, rfl, hok, hga⟩
            have HVa : Hid (VV wa (M ++ [x]) (.pointer (some ⟨b2, 0, none⟩))) := HV2.out.keeps hga
            have HBa : Hid (Below w.heap.size w wa) := HB2.out.trans (hga.mono HB2.out.size)
            have Hok : Hid (HtOK (M ++ [x]) hN) := hok
            obtain ⟨L, hL⟩ : ∃ L, L = ((M ++ [x])).length := ⟨_, rfl⟩
            have HLa : Hid (Calls Try.prog 24 #[.pointer (some ⟨b2, 0, none⟩)] wa (NumPost L wa)) := by rw [hL]; exact vlen_any 16 (M ++ [x]) _ wa HVa.out.vc
            have HL : Hid (L = ((M ++ [x])).length) := hL
            clear HHt hok hga hL
            go_wp2_with fail
            refine Calls.mono HLa.out ?_
            rintro e wb ⟨rfl, hgb⟩
            have HVb : Hid (VV wb (M ++ [x]) (.pointer (some ⟨b2, 0, none⟩))) := HVa.out.keeps hgb
            have HBb : Hid (Below w.heap.size w wb) := HBa.out.trans (hgb.mono HBa.out.size)
            have HHi : Hid (Calls Try.prog 26 #[.int .i64 (L : Int)] wb fun e w' => ∃ g : Nat, e = .returned (.int .i64 (g : Int)) ∧ (∀ n, HtOK (M ++ [x]) n → n ≤ g) ∧ w' = wb) := by rw [HL.out]; exact high_for (M ++ [x]) wb HVb.out.len
            have HLb : Hid (Calls Try.prog 24 #[.pointer (some ⟨b2, 0, none⟩)] wb (NumPost L wb)) := by rw [HL.out]; exact vlen_any 16 (M ++ [x]) _ wb HVb.out.vc
            clear HLa hgb HVa HBa
            go_wp2_with fail
            refine Calls.mono HHi.out ?_
            rintro e wc ⟨gN, rfl, hle, rfl⟩
            have hle1 := hle hN Hok.out
            have hle2 : ¬ ((gN : Nat) : Int) < (hN : Nat) := by omega
            have hle3 : ((hN : Nat) : Int) ≤ (gN : Nat) := by omega
            have hz2 : hN = 0 ↔ L = 0 := by
              have h8 := HL.out
              rcases Hok.out with ⟨h9, h10⟩ | ⟨h9, h, h10, _⟩
              · rw [h9] at h8; simp at h8; omega
              · have : ((M ++ [x])).length ≠ 0 := fun h7 => h9 (List.eq_nil_of_length_eq_zero h7)
                omega
            clear HHi hle Hok
            have HEnd : Hid (∀ wd, Below wc.heap.size wc wd → VV wd (M ++ [x]) (.pointer (some ⟨b2, 0, none⟩)) ∧ Below w.heap.size w wd) := fun wd hd => ⟨HVb.out.keeps hd, HBb.out.trans (hd.mono HBb.out.size)⟩
            by_cases hN0 : hN = 0
            · have hL0 : L = 0 := hz2.1 hN0
              subst hN0 hL0
              clear hz2 hle1 hle2 hle3 HL
              go_wp2_with fail
              refine Calls.mono HLb.out ?_
              rintro e wd ⟨rfl, hgd⟩
              have HEd : Hid _ := HEnd.out wd hgd
              clear HLb
              go_wp2_with fail
              go_roundg (201 - (j + 1))
              case measure => have := Hz.out; omega
              case rel => exact ⟨j + 1, _, _, by go_num, by omega, rfl, rfl, HEd.out.1, HEd.out.2⟩
            · have hL0 : ¬ L = 0 := fun h => hN0 (hz2.2 h)
              have hN0i : ¬ ((hN : Nat) : Int) = 0 := by omega
              have hL0i : ¬ ((L : Nat) : Int) = 0 := by omega
              clear hz2
              go_wp2_with fail
              refine Calls.mono HLb.out ?_
              rintro e wd ⟨rfl, hgd⟩
              have HEd : Hid _ := HEnd.out wd hgd
              clear HLb
              go_wp2_with fail
              · rename_i hbad
                exfalso
                rcases hbad with (hbad | hbad) | hbad
                · omega
                · omega
                · rw [beq_eq_false_iff_ne.2 hN0i, beq_eq_false_iff_ne.2 hL0i] at hbad
                  simp at hbad
              · go_roundg (201 - (j + 1))
                case measure => have := Hz.out; omega
                case rel => exact ⟨j + 1, _, _, by go_num, by omega, rfl, rfl, HEd.out.1, HEd.out.2⟩
          · have HV2 : Hid (VV w2 M (.pointer po)) := HM.out.keeps hg2
            have hk0 : ¬ ((kk : Nat) : Int) = 0 := by omega
            clear HP hg2 HM HB c0 c1 c2 c3 c4 c5
            have HHt : Hid _ := height_for M _ w2 HV2.out
            go_wp2_with fail
            refine Calls.mono HHt.out ?_
            rintro e wa ⟨hN, rfl, hok, hga⟩
            have HVa : Hid (VV wa M (.pointer po)) := HV2.out.keeps hga
            have HBa : Hid (Below w.heap.size w wa) := HB2.out.trans (hga.mono HB2.out.size)
            have Hok : Hid (HtOK M hN) := hok
            obtain ⟨L, hL⟩ : ∃ L, L = (M).length := ⟨_, rfl⟩
            have HLa : Hid (Calls Try.prog 24 #[.pointer po] wa (NumPost L wa)) := by rw [hL]; exact vlen_any 16 M _ wa HVa.out.vc
            have HL : Hid (L = (M).length) := hL
            clear HHt hok hga hL
            go_wp2_with fail
            refine Calls.mono HLa.out ?_
            rintro e wb ⟨rfl, hgb⟩
            have HVb : Hid (VV wb M (.pointer po)) := HVa.out.keeps hgb
            have HBb : Hid (Below w.heap.size w wb) := HBa.out.trans (hgb.mono HBa.out.size)
            have HHi : Hid (Calls Try.prog 26 #[.int .i64 (L : Int)] wb fun e w' => ∃ g : Nat, e = .returned (.int .i64 (g : Int)) ∧ (∀ n, HtOK M n → n ≤ g) ∧ w' = wb) := by rw [HL.out]; exact high_for M wb HVb.out.len
            have HLb : Hid (Calls Try.prog 24 #[.pointer po] wb (NumPost L wb)) := by rw [HL.out]; exact vlen_any 16 M _ wb HVb.out.vc
            clear HLa hgb HVa HBa
            go_wp2_with fail
            refine Calls.mono HHi.out ?_
            rintro e wc ⟨gN, rfl, hle, rfl⟩
            have hle1 := hle hN Hok.out
            have hle2 : ¬ ((gN : Nat) : Int) < (hN : Nat) := by omega
            have hle3 : ((hN : Nat) : Int) ≤ (gN : Nat) := by omega
            have hz2 : hN = 0 ↔ L = 0 := by
              have h8 := HL.out
              rcases Hok.out with ⟨h9, h10⟩ | ⟨h9, h, h10, _⟩
              · rw [h9] at h8; simp at h8; omega
              · have : (M).length ≠ 0 := fun h7 => h9 (List.eq_nil_of_length_eq_zero h7)
                omega
            clear HHi hle Hok
            have HEnd : Hid (∀ wd, Below wc.heap.size wc wd → VV wd M (.pointer po) ∧ Below w.heap.size w wd) := fun wd hd => ⟨HVb.out.keeps hd, HBb.out.trans (hd.mono HBb.out.size)⟩
            by_cases hN0 : hN = 0
            · have hL0 : L = 0 := hz2.1 hN0
              subst hN0 hL0
              clear hz2 hle1 hle2 hle3 HL
              go_wp2_with fail
              refine Calls.mono HLb.out ?_
              rintro e wd ⟨rfl, hgd⟩
              have HEd : Hid _ := HEnd.out wd hgd
              clear HLb
              go_wp2_with fail
              go_roundg (201 - (j + 1))
              case measure => have := Hz.out; omega
              case rel => exact ⟨j + 1, _, _, by go_num, by omega, rfl, rfl, HEd.out.1, HEd.out.2⟩
            · have hL0 : ¬ L = 0 := fun h => hN0 (hz2.2 h)
              have hN0i : ¬ ((hN : Nat) : Int) = 0 := by omega
              have hL0i : ¬ ((L : Nat) : Int) = 0 := by omega
              clear hz2
              go_wp2_with fail
              refine Calls.mono HLb.out ?_
              rintro e wd ⟨rfl, hgd⟩
              have HEd : Hid _ := HEnd.out wd hgd
              clear HLb
              go_wp2_with fail
              · rename_i hbad
                exfalso
                rcases hbad with (hbad | hbad) | hbad
                · omega
                · omega
                · rw [beq_eq_false_iff_ne.2 hN0i, beq_eq_false_iff_ne.2 hL0i] at hbad
                  simp at hbad
              · go_roundg (201 - (j + 1))
                case measure => have := Hz.out; omega
                case rel => exact ⟨j + 1, _, _, by go_num, by omega, rfl, rfl, HEd.out.1, HEd.out.2⟩
        · by_cases hk2 : k = 2
          · subst hk2
            have HP : Hid _ := pop_vv M _ wr HM.out
            go_wp2_with fail
            refine Calls.mono HP.out ?_
            rintro e w2 ⟨hg2, hp2⟩
            have HB2 : Hid (Below w.heap.size w w2) := HB.out.trans (hg2.mono HB.out.size)
            rcases hp2 with ⟨hM0, rfl⟩ | ⟨M2, x2, b2, a2, c2', hM2, rfl, hv2, _⟩
            · have HV2 : Hid (VV w2 M (.pointer po)) := HM.out.keeps hg2
              clear HP hg2 HM HB c0 c1 c2 c3 c4 c5 hM0
              have HHt : Hid _ := height_for M _ w2 HV2.out
              go_wp2_with fail
              refine Calls.mono HHt.out ?_
              rintro e wa ⟨hN, rfl, hok, hga⟩
              have HVa : Hid (VV wa M (.pointer po)) := HV2.out.keeps hga
              have HBa : Hid (Below w.heap.size w wa) := HB2.out.trans (hga.mono HB2.out.size)
              have Hok : Hid (HtOK M hN) := hok
              obtain ⟨L, hL⟩ : ∃ L, L = (M).length := ⟨_, rfl⟩
              have HLa : Hid (Calls Try.prog 24 #[.pointer po] wa (NumPost L wa)) := by rw [hL]; exact vlen_any 16 M _ wa HVa.out.vc
              have HL : Hid (L = (M).length) := hL
              clear HHt hok hga hL
              go_wp2_with fail
              refine Calls.mono HLa.out ?_
              rintro e wb ⟨rfl, hgb⟩
              have HVb : Hid (VV wb M (.pointer po)) := HVa.out.keeps hgb
              have HBb : Hid (Below w.heap.size w wb) := HBa.out.trans (hgb.mono HBa.out.size)
              have HHi : Hid (Calls Try.prog 26 #[.int .i64 (L : Int)] wb fun e w' => ∃ g : Nat, e = .returned (.int .i64 (g : Int)) ∧ (∀ n, HtOK M n → n ≤ g) ∧ w' = wb) := by rw [HL.out]; exact high_for M wb HVb.out.len
              have HLb : Hid (Calls Try.prog 24 #[.pointer po] wb (NumPost L wb)) := by rw [HL.out]; exact vlen_any 16 M _ wb HVb.out.vc
              clear HLa hgb HVa HBa
              go_wp2_with fail
              refine Calls.mono HHi.out ?_
              rintro e wc ⟨gN, rfl, hle, rfl⟩
              have hle1 := hle hN Hok.out
              have hle2 : ¬ ((gN : Nat) : Int) < (hN : Nat) := by omega
              have hle3 : ((hN : Nat) : Int) ≤ (gN : Nat) := by omega
              have hz2 : hN = 0 ↔ L = 0 := by
                have h8 := HL.out
                rcases Hok.out with ⟨h9, h10⟩ | ⟨h9, h, h10, _⟩
                · rw [h9] at h8; simp at h8; omega
                · have : (M).length ≠ 0 := fun h7 => h9 (List.eq_nil_of_length_eq_zero h7)
                  omega
              clear HHi hle Hok
              have HEnd : Hid (∀ wd, Below wc.heap.size wc wd → VV wd M (.pointer po) ∧ Below w.heap.size w wd) := fun wd hd => ⟨HVb.out.keeps hd, HBb.out.trans (hd.mono HBb.out.size)⟩
              by_cases hN0 : hN = 0
              · have hL0 : L = 0 := hz2.1 hN0
                subst hN0 hL0
                clear hz2 hle1 hle2 hle3 HL
                go_wp2_with fail
                refine Calls.mono HLb.out ?_
                rintro e wd ⟨rfl, hgd⟩
                have HEd : Hid _ := HEnd.out wd hgd
                clear HLb
                go_wp2_with fail
                go_roundg (201 - (j + 1))
                case measure => have := Hz.out; omega
                case rel => exact ⟨j + 1, _, _, by go_num, by omega, rfl, rfl, HEd.out.1, HEd.out.2⟩
              · have hL0 : ¬ L = 0 := fun h => hN0 (hz2.2 h)
                have hN0i : ¬ ((hN : Nat) : Int) = 0 := by omega
                have hL0i : ¬ ((L : Nat) : Int) = 0 := by omega
                clear hz2
                go_wp2_with fail
                refine Calls.mono HLb.out ?_
                rintro e wd ⟨rfl, hgd⟩
                have HEd : Hid _ := HEnd.out wd hgd
                clear HLb
                go_wp2_with fail
                · rename_i hbad
                  exfalso
                  rcases hbad with (hbad | hbad) | hbad
                  · omega
                  · omega
                  · rw [beq_eq_false_iff_ne.2 hN0i, beq_eq_false_iff_ne.2 hL0i] at hbad
                    simp at hbad
                · go_roundg (201 - (j + 1))
                  case measure => have := Hz.out; omega
                  case rel => exact ⟨j + 1, _, _, by go_num, by omega, rfl, rfl, HEd.out.1, HEd.out.2⟩
            · have HV2 : Hid (VV w2 M2 (.pointer (some ⟨b2, 0, none⟩))) := hv2
              clear HP hg2 HM HB c0 c1 c2 c3 c4 c5 hM2 hv2
              have HHt : Hid _ := height_for M2 _ w2 HV2.out
              go_wp2_with fail
              refine Calls.mono HHt.out ?_
              rintro e wa ⟨hN, rfl, hok, hga⟩
              have HVa : Hid (VV wa M2 (.pointer (some ⟨b2, 0, none⟩))) := HV2.out.keeps hga
              have HBa : Hid (Below w.heap.size w wa) := HB2.out.trans (hga.mono HB2.out.size)
              have Hok : Hid (HtOK M2 hN) := hok
              obtain ⟨L, hL⟩ : ∃ L, L = (M2).length := ⟨_, rfl⟩
              have HLa : Hid (Calls Try.prog 24 #[.pointer (some ⟨b2, 0, none⟩)] wa (NumPost L wa)) := by rw [hL]; exact vlen_any 16 M2 _ wa HVa.out.vc
              have HL : Hid (L = (M2).length) := hL
              clear HHt hok hga hL
              go_wp2_with fail
              refine Calls.mono HLa.out ?_
              rintro e wb ⟨rfl, hgb⟩
              have HVb : Hid (VV wb M2 (.pointer (some ⟨b2, 0, none⟩))) := HVa.out.keeps hgb
              have HBb : Hid (Below w.heap.size w wb) := HBa.out.trans (hgb.mono HBa.out.size)
              have HHi : Hid (Calls Try.prog 26 #[.int .i64 (L : Int)] wb fun e w' => ∃ g : Nat, e = .returned (.int .i64 (g : Int)) ∧ (∀ n, HtOK M2 n → n ≤ g) ∧ w' = wb) := by rw [HL.out]; exact high_for M2 wb HVb.out.len
              have HLb : Hid (Calls Try.prog 24 #[.pointer (some ⟨b2, 0, none⟩)] wb (NumPost L wb)) := by rw [HL.out]; exact vlen_any 16 M2 _ wb HVb.out.vc
              clear HLa hgb HVa HBa
              go_wp2_with fail
              refine Calls.mono HHi.out ?_
              rintro e wc ⟨gN, rfl, hle, rfl⟩
              have hle1 := hle hN Hok.out
              have hle2 : ¬ ((gN : Nat) : Int) < (hN : Nat) := by omega
              have hle3 : ((hN : Nat) : Int) ≤ (gN : Nat) := by omega
              have hz2 : hN = 0 ↔ L = 0 := by
                have h8 := HL.out
                rcases Hok.out with ⟨h9, h10⟩ | ⟨h9, h, h10, _⟩
                · rw [h9] at h8; simp at h8; omega
                · have : (M2).length ≠ 0 := fun h7 => h9 (List.eq_nil_of_length_eq_zero h7)
                  omega
              clear HHi hle Hok
              have HEnd : Hid (∀ wd, Below wc.heap.size wc wd → VV wd M2 (.pointer (some ⟨b2, 0, none⟩)) ∧ Below w.heap.size w wd) := fun wd hd => ⟨HVb.out.keeps hd, HBb.out.trans (hd.mono HBb.out.size)⟩
              by_cases hN0 : hN = 0
              · have hL0 : L = 0 := hz2.1 hN0
                subst hN0 hL0
                clear hz2 hle1 hle2 hle3 HL
                go_wp2_with fail
                refine Calls.mono HLb.out ?_
                rintro e wd ⟨rfl, hgd⟩
                have HEd : Hid _ := HEnd.out wd hgd
                clear HLb
                go_wp2_with fail
                go_roundg (201 - (j + 1))
                case measure => have := Hz.out; omega
                case rel => exact ⟨j + 1, _, _, by go_num, by omega, rfl, rfl, HEd.out.1, HEd.out.2⟩
              · have hL0 : ¬ L = 0 := fun h => hN0 (hz2.2 h)
                have hN0i : ¬ ((hN : Nat) : Int) = 0 := by omega
                have hL0i : ¬ ((L : Nat) : Int) = 0 := by omega
                clear hz2
                go_wp2_with fail
                refine Calls.mono HLb.out ?_
                rintro e wd ⟨rfl, hgd⟩
                have HEd : Hid _ := HEnd.out wd hgd
                clear HLb
                go_wp2_with fail
                · rename_i hbad
                  exfalso
                  rcases hbad with (hbad | hbad) | hbad
                  · omega
                  · omega
                  · rw [beq_eq_false_iff_ne.2 hN0i, beq_eq_false_iff_ne.2 hL0i] at hbad
                    simp at hbad
                · go_roundg (201 - (j + 1))
                  case measure => have := Hz.out; omega
                  case rel => exact ⟨j + 1, _, _, by go_num, by omega, rfl, rfl, HEd.out.1, HEd.out.2⟩
          · have HV2 : Hid (VV wr M (.pointer po)) := HM.out
            clear HM
            have HHt : Hid _ := height_for M _ wr HV2.out
            go_wp2_with fail
            refine Calls.mono HHt.out ?_
            rintro e wa ⟨hN, rfl, hok, hga⟩
            have HVa : Hid (VV wa M (.pointer po)) := HV2.out.keeps hga
            have HBa : Hid (Below w.heap.size w wa) := HB.out.trans (hga.mono HB.out.size)
            have Hok : Hid (HtOK M hN) := hok
            obtain ⟨L, hL⟩ : ∃ L, L = (M).length := ⟨_, rfl⟩
            have HLa : Hid (Calls Try.prog 24 #[.pointer po] wa (NumPost L wa)) := by rw [hL]; exact vlen_any 16 M _ wa HVa.out.vc
            have HL : Hid (L = (M).length) := hL
            clear HHt hok hga hL
            go_wp2_with fail
            refine Calls.mono HLa.out ?_
            rintro e wb ⟨rfl, hgb⟩
            have HVb : Hid (VV wb M (.pointer po)) := HVa.out.keeps hgb
            have HBb : Hid (Below w.heap.size w wb) := HBa.out.trans (hgb.mono HBa.out.size)
            have HHi : Hid (Calls Try.prog 26 #[.int .i64 (L : Int)] wb fun e w' => ∃ g : Nat, e = .returned (.int .i64 (g : Int)) ∧ (∀ n, HtOK M n → n ≤ g) ∧ w' = wb) := by rw [HL.out]; exact high_for M wb HVb.out.len
            have HLb : Hid (Calls Try.prog 24 #[.pointer po] wb (NumPost L wb)) := by rw [HL.out]; exact vlen_any 16 M _ wb HVb.out.vc
            clear HLa hgb HVa HBa
            go_wp2_with fail
            refine Calls.mono HHi.out ?_
            rintro e wc ⟨gN, rfl, hle, rfl⟩
            have hle1 := hle hN Hok.out
            have hle2 : ¬ ((gN : Nat) : Int) < (hN : Nat) := by omega
            have hle3 : ((hN : Nat) : Int) ≤ (gN : Nat) := by omega
            have hz2 : hN = 0 ↔ L = 0 := by
              have h8 := HL.out
              rcases Hok.out with ⟨h9, h10⟩ | ⟨h9, h, h10, _⟩
              · rw [h9] at h8; simp at h8; omega
              · have : (M).length ≠ 0 := fun h7 => h9 (List.eq_nil_of_length_eq_zero h7)
                omega
            clear HHi hle Hok
            have HEnd : Hid (∀ wd, Below wc.heap.size wc wd → VV wd M (.pointer po) ∧ Below w.heap.size w wd) := fun wd hd => ⟨HVb.out.keeps hd, HBb.out.trans (hd.mono HBb.out.size)⟩
            by_cases hN0 : hN = 0
            · have hL0 : L = 0 := hz2.1 hN0
              subst hN0 hL0
              clear hz2 hle1 hle2 hle3 HL
              go_wp2_with fail
              refine Calls.mono HLb.out ?_
              rintro e wd ⟨rfl, hgd⟩
              have HEd : Hid _ := HEnd.out wd hgd
              clear HLb
              go_wp2_with fail
              go_roundg (201 - (j + 1))
              case measure => have := Hz.out; omega
              case rel => exact ⟨j + 1, _, _, by go_num, by omega, rfl, rfl, HEd.out.1, HEd.out.2⟩
            · have hL0 : ¬ L = 0 := fun h => hN0 (hz2.2 h)
              have hN0i : ¬ ((hN : Nat) : Int) = 0 := by omega
              have hL0i : ¬ ((L : Nat) : Int) = 0 := by omega
              clear hz2
              go_wp2_with fail
              refine Calls.mono HLb.out ?_
              rintro e wd ⟨rfl, hgd⟩
              have HEd : Hid _ := HEnd.out wd hgd
              clear HLb
              go_wp2_with fail
              · rename_i hbad
                exfalso
                rcases hbad with (hbad | hbad) | hbad
                · omega
                · omega
                · rw [beq_eq_false_iff_ne.2 hN0i, beq_eq_false_iff_ne.2 hL0i] at hbad
                  simp at hbad
              · go_roundg (201 - (j + 1))
                case measure => have := Hz.out; omega
                case rel => exact ⟨j + 1, _, _, by go_num, by omega, rfl, rfl, HEd.out.1, HEd.out.2⟩
      · have hend : ¬ ((j : Int) < (S : Nat)) ∨ ¬ ((j : Int) < 200) := by omega
        have HEx : Hid (∀ (hend : True), True) := fun _ => trivial
        by_cases hjS : j < S
        · have hji : (j : Int) < (S : Nat) := by omega
          have hj2 : ¬ (j : Int) < 200 := by omega
          clear hend
          have HHt : Hid _ := height_for M _ wr HM.out
          go_wp2_with fail
          refine Calls.mono HHt.out ?_
          rintro e wa ⟨hN, rfl, hok, hga⟩
          have HVa : Hid (VV wa M (.pointer po)) := HM.out.keeps hga
          have HBa : Hid (Below w.heap.size w wa) := HB.out.trans (hga.mono HB.out.size)
          have Hok : Hid (HtOK M hN) := hok
          obtain ⟨L, hL⟩ : ∃ L, L = (M).length := ⟨_, rfl⟩
          have HLa : Hid (Calls Try.prog 24 #[.pointer po] wa (NumPost L wa)) := by rw [hL]; exact vlen_any 16 M _ wa HVa.out.vc
          have HL : Hid (L = (M).length) := hL
          clear HHt hok hga hL
          go_wp2_with fail
          refine Calls.mono HLa.out ?_
          rintro e wb ⟨rfl, hgb⟩
          have HVb : Hid (VV wb M (.pointer po)) := HVa.out.keeps hgb
          have HBb : Hid (Below w.heap.size w wb) := HBa.out.trans (hgb.mono HBa.out.size)
          have HHi : Hid (Calls Try.prog 26 #[.int .i64 (L : Int)] wb fun e w' => ∃ g : Nat, e = .returned (.int .i64 (g : Int)) ∧ (∀ n, HtOK M n → n ≤ g) ∧ w' = wb) := by rw [HL.out]; exact high_for M wb HVb.out.len
          have HLb : Hid (Calls Try.prog 24 #[.pointer po] wb (NumPost L wb)) := by rw [HL.out]; exact vlen_any 16 M _ wb HVb.out.vc
          clear HLa hgb HVa HBa
          go_wp2_with fail
          refine Calls.mono HHi.out ?_
          rintro e wc ⟨gN, rfl, hle, rfl⟩
          have hle1 := hle hN Hok.out
          have hle2 : ¬ ((gN : Nat) : Int) < (hN : Nat) := by omega
          have hle3 : ((hN : Nat) : Int) ≤ (gN : Nat) := by omega
          have hz2 : hN = 0 ↔ L = 0 := by
            have h8 := HL.out
            rcases Hok.out with ⟨h9, h10⟩ | ⟨h9, h, h10, _⟩
            · rw [h9] at h8; simp at h8; omega
            · have : (M).length ≠ 0 := fun h7 => h9 (List.eq_nil_of_length_eq_zero h7)
              omega
          clear HHi hle Hok
          have HEnd : Hid (Calls Try.prog 11 #[] wc fun e w' => e = .returned (.bool true) ∧ Below w.heap.size w w') := Calls.mono (HSp.out wc) (fun e w' h => ⟨h.1, HBb.out.trans (h.2.mono HBb.out.size)⟩)
          clear hz2 HL
          go_wp2_with fail
          refine Calls.mono HEnd.out ?_
          rintro e wd ⟨rfl, hgd⟩
          go_wp2_with fail
          go_ret
          exact ⟨rfl, hgd⟩
        · have hji : ¬ (j : Int) < (S : Nat) := by omega
          clear hend
          have HHt : Hid _ := height_for M _ wr HM.out
          go_wp2_with fail
          refine Calls.mono HHt.out ?_
          rintro e wa ⟨hN, rfl, hok, hga⟩
          have HVa : Hid (VV wa M (.pointer po)) := HM.out.keeps hga
          have HBa : Hid (Below w.heap.size w wa) := HB.out.trans (hga.mono HB.out.size)
          have Hok : Hid (HtOK M hN) := hok
          obtain ⟨L, hL⟩ : ∃ L, L = (M).length := ⟨_, rfl⟩
          have HLa : Hid (Calls Try.prog 24 #[.pointer po] wa (NumPost L wa)) := by rw [hL]; exact vlen_any 16 M _ wa HVa.out.vc
          have HL : Hid (L = (M).length) := hL
          clear HHt hok hga hL
          go_wp2_with fail
          refine Calls.mono HLa.out ?_
          rintro e wb ⟨rfl, hgb⟩
          have HVb : Hid (VV wb M (.pointer po)) := HVa.out.keeps hgb
          have HBb : Hid (Below w.heap.size w wb) := HBa.out.trans (hgb.mono HBa.out.size)
          have HHi : Hid (Calls Try.prog 26 #[.int .i64 (L : Int)] wb fun e w' => ∃ g : Nat, e = .returned (.int .i64 (g : Int)) ∧ (∀ n, HtOK M n → n ≤ g) ∧ w' = wb) := by rw [HL.out]; exact high_for M wb HVb.out.len
          have HLb : Hid (Calls Try.prog 24 #[.pointer po] wb (NumPost L wb)) := by rw [HL.out]; exact vlen_any 16 M _ wb HVb.out.vc
          clear HLa hgb HVa HBa
          go_wp2_with fail
          refine Calls.mono HHi.out ?_
          rintro e wc ⟨gN, rfl, hle, rfl⟩
          have hle1 := hle hN Hok.out
          have hle2 : ¬ ((gN : Nat) : Int) < (hN : Nat) := by omega
          have hle3 : ((hN : Nat) : Int) ≤ (gN : Nat) := by omega
          have hz2 : hN = 0 ↔ L = 0 := by
            have h8 := HL.out
            rcases Hok.out with ⟨h9, h10⟩ | ⟨h9, h, h10, _⟩
            · rw [h9] at h8; simp at h8; omega
            · have : (M).length ≠ 0 := fun h7 => h9 (List.eq_nil_of_length_eq_zero h7)
              omega
          clear HHi hle Hok
          have HEnd : Hid (Calls Try.prog 11 #[] wc fun e w' => e = .returned (.bool true) ∧ Below w.heap.size w w') := Calls.mono (HSp.out wc) (fun e w' h => ⟨h.1, HBb.out.trans (h.2.mono HBb.out.size)⟩)
          clear hz2 HL
          go_wp2_with fail
          refine Calls.mono HEnd.out ?_
          rintro e wd ⟨rfl, hgd⟩
          go_wp2_with fail
          go_ret
          exact ⟨rfl, hgd⟩
  · have hk0 : ¬ ((k : Nat) : Int) = 0 := by omega
    have HEnd : Hid (Calls Try.prog 11 #[] w1 fun e w' => e = .returned (.bool true) ∧ Below w.heap.size w w') := Calls.mono (HSp.out w1) (fun e w' h => ⟨h.1, hb1.trans (h.2.mono hb1.size)⟩)
    clear HO hk
    go_wp2_with fail
    refine Calls.mono HEnd.out ?_
    rintro e wd ⟨rfl, hgd⟩
    go_wp2_with fail
    go_ret
    exact ⟨rfl, hgd⟩

end Go.Proofs.Ytplahohaahfjmaa

namespace Go.Proofs.Ytplahohaahfjmaa
open Go.RowKit

set_option maxRecDepth 100000 in
set_option maxHeartbeats 4000000 in
theorem same11_any (l : List VT) (b : Nat) (u : Value) (w : World) (h : VV w l (.pointer (some ⟨b, 0, none⟩))) (hu : Lies 17 w l u) : Calls Try.prog 12 #[.pointer (some ⟨b, 0, none⟩), u] w fun e w' => e = .returned (.bool true) ∧ Below w.heap.size w w' := by
  obtain ⟨a, c, rfl, _⟩ := Lies.slice hu
  have HU : Hid (Lies 17 w l (.slice a l.length c)) := hu
  have hlen := h.len
  obtain ⟨L, hL⟩ : ∃ L, L = l.length := ⟨_, rfl⟩
  have HLn : Hid (Calls Try.prog 24 #[.pointer (some ⟨b, 0, none⟩)] w (NumPost L w)) := by rw [hL]; exact vlen_any 16 l _ w h.vc
  have HIt : Hid (∀ V, Below w.heap.size w V → Calls Try.prog 29 #[.pointer (some ⟨b, 0, none⟩)] V (ItemsPost l V)) := fun V hV => items_any l _ V (h.vc.keeps hV) h.len h.right
  have HVs : Hid (∀ V v, Below w.heap.size w V → Lies 17 V l v → Calls Try.prog 17 #[v, .slice a L c] V fun e w' => e = .returned (.bool true) ∧ Below V.heap.size V w') := fun V v hV hv => by
    rw [hL]; exact values_one 16 l v _ V hv (Lies.keeps hV _ _ _ HU.out) hlen
  rw [← hL]
  clear hu h hlen hL
  go_enter Try.func12, Try.ntmps12
  go_wp2_with fail
  refine Calls.mono HLn.out ?_
  rintro e w1 ⟨rfl, hb1⟩
  have HI1 : Hid _ := HIt.out w1 hb1
  clear HLn HIt
  go_wp2_with fail
  refine Calls.mono HI1.out ?_
  rintro e w2 ⟨v2, rfl, hv2, hg2⟩
  have hb2 : Below w.heap.size w w2 := hb1.trans (hg2.mono hb1.size)
  have HV2 : Hid _ := HVs.out w2 v2 hb2 (LiesB.lies _ _ _ hv2)
  obtain ⟨a2, c2, rfl, _⟩ := Lies.slice (LiesB.lies _ _ _ hv2)
  clear HI1 hv2 hg2 HVs
  go_wp2_with fail
  refine Calls.mono HV2.out ?_
  rintro e w3 ⟨rfl, hg3⟩
  have hb3 : Below w.heap.size w w3 := hb2.trans (hg3.mono hb2.size)
  clear HV2
  go_wp2_with fail
  go_ret
  exact ⟨rfl, hb3⟩

/-- A value and an error are told; the value lies in new blocks. -/
def TellsB (d : Nat) (a : VT × Int) (w : World) (e : Ending) (w' : World) : Prop :=
  ∃ v, e = .returned (.tuple #[.agg #[.int .i64 a.1.kind, .int .i64 a.1.num, .string a.1.text, v], .int .i64 a.2]) ∧ LiesB w.heap.size d w' a.1.items v ∧ Below w.heap.size w w'

theorem liesB_nil' (b d : Nat) (w : World) : LiesB b d w [] (.slice none 0 0) := by
  cases d with
  | zero => exact ⟨rfl, none, 0, rfl⟩
  | succ d => exact ⟨none, 0, rfl, by simp, fun h => absurd rfl h⟩

theorem vlist_tellsB (d : Nat) (l : List VT) (u : Value) (w : World) (hu : Lies (d + 1) w l u) : Calls Try.prog 60 #[u] w (TellsB (d + 1) (listA d l) w) := by
  refine Calls.mono (vlist_any d l u w hu) ?_
  rintro e w' ⟨hb, hp⟩
  unfold listA
  rcases hp with ⟨he, rfl⟩ | ⟨he, ⟨hf, rfl⟩ | ⟨hf, v, rfl, hL⟩⟩
  · rw [if_pos he]
    exact ⟨_, rfl, liesB_nil' _ _ _, hb⟩
  · rw [if_neg (fun h => h he), if_neg (by rw [hf]; simp)]
    exact ⟨_, rfl, liesB_nil' _ _ _, hb⟩
  · rw [if_neg (fun h => h he), if_pos hf]
    exact ⟨v, rfl, hL, hb⟩

set_option maxRecDepth 100000 in
set_option maxHeartbeats 4000000 in
theorem vvalue_any (l : List VT) (p : Value) (w : World) (h : VV w l p) : Calls Try.prog 30 #[p] w (Tells 17 (listA 16 l) w) := by
  obtain ⟨po, rfl⟩ := h.vc.shape
  have hbz : Below w.heap.size w (w.alloc (.cells #[.int .i64 0, .int .i64 0, .string ⟨#[]⟩, .slice none 0 0] 31)) := ((Grew.refl w).alloc _).below
  have HK0 : Hid (Bx (w.alloc (.cells #[.int .i64 0, .int .i64 0, .string ⟨#[]⟩, .slice none 0 0] 31)) w.heap.size zeroT (.slice none 0 0)) := bx_alloc w zeroT _
  have HK : Hid (Calls Try.prog 59 #[.pointer po] (w.alloc (.cells #[.int .i64 0, .int .i64 0, .string ⟨#[]⟩, .slice none 0 0] 31)) fun e w' => ∃ v, e = .returned v ∧ Lies 17 w' l v ∧ Below (w.heap.size + 1) (w.alloc (.cells #[.int .i64 0, .int .i64 0, .string ⟨#[]⟩, .slice none 0 0] 31)) w') := Calls.mono (kept_any 16 l _ _ (h.vc.keeps hbz) h.len) (fun e w' hp => by
    obtain ⟨v, he, hl, hb⟩ := hp.lies h.len
    refine ⟨v, he, hl, ?_⟩
    rw [World.size_alloc] at hb
    exact hb)
  have HVl : Hid (∀ V v, Lies 17 V l v → Calls Try.prog 60 #[v] V (TellsB 17 (listA 16 l) V)) := fun V v hv => vlist_tellsB 16 l v V hv
  obtain ⟨A, hA⟩ : ∃ A, A = listA 16 l := ⟨_, rfl⟩
  rw [← hA] at HVl ⊢
  clear h hA
  go_enter Try.func30, Try.ntmps30
  go_wp2_with fail
  refine Calls.mono HK.out ?_
  rintro e w1 ⟨v1, rfl, hv1, hg1⟩
  have HB1 : Hid (Bx w1 w.heap.size zeroT (.slice none 0 0)) := HK0.out.keeps (by rw [World.size_alloc]; exact hg1)
  have hs1 : w.heap.size + 1 ≤ w1.heap.size := by have := hg1.size; rw [World.size_alloc] at this; exact this
  have hb1 : Below w.heap.size w w1 := hbz.trans (hg1.mono (by omega))
  have HV1 : Hid _ := HVl.out w1 v1 hv1
  obtain ⟨a1, c1, rfl, _⟩ := Lies.slice hv1
  clear HK hv1 hg1 HVl HK0 hbz
  go_wp2_with fail
  refine Calls.mono HV1.out ?_
  rintro e w2 ⟨v2, rfl, hL2, hg2⟩
  obtain ⟨a2, c2, rfl, _⟩ := LiesB.slice hL2
  have HB2 : Hid (Bx w2 w.heap.size zeroT (.slice none 0 0)) := HB1.out.keeps hg2
  have hb2 : Below w.heap.size w w2 := hb1.trans (hg2.mono hb1.size)
  obtain ⟨y0, y1, y2, y3, z0, z1, z2, z3⟩ := HB2.out
  have Hbx : Hid (Bx (w2.setCells w.heap.size 0 (encP (A.1, .slice a2 A.1.items.length c2))) w.heap.size A.1 (.slice a2 A.1.items.length c2)) := HB2.out.put (A.1, .slice a2 A.1.items.length c2)
  have Hbl : Hid (Below w.heap.size w (w2.setCells w.heap.size 0 (encP (A.1, .slice a2 A.1.items.length c2)))) := below_put hb2 (Nat.le_refl _) (A.1, .slice a2 A.1.items.length c2)
  have Hfin : Hid (Lies 17 (w2.setCells w.heap.size 0 (encP (A.1, .slice a2 A.1.items.length c2))) A.1.items (.slice a2 A.1.items.length c2)) :=
    LiesB.lies _ _ _ (LiesB.stays (base := w1.heap.size) (fun x v hx hv => ⟨by rw [World.cell?_setCells_out w.heap.size _ 0 w2 x (fun e _ => by omega)]; exact hv, World.frozen?_setCells ..⟩) _ _ _ hL2)
  clear hL2 hg2 HB1 HV1
  go_wp2_with fail
  refine bodyPost_ret (v := .tuple #[.agg #[.int .i64 A.1.kind, .int .i64 A.1.num, .string A.1.text, .slice a2 A.1.items.length c2], .int .i64 A.2]) ?_ rfl ⟨_, rfl, Hfin.out, Hbl.out⟩
  obtain ⟨q0, q1, q2, q3, _, _, _, _⟩ := Hbx.out
  simp only [encP, World.setCells, Nat.zero_add, Nat.reduceAdd] at q0 q1 q2 q3
  simp [results, Try.results30, go_sem, q0, q1, q2, q3]

/-- An empty vector, nil or not. -/
theorem vv_nil (w : World) : VV w [] (.pointer none) := ⟨.inl ⟨rfl, rfl⟩, by simp, rfl⟩

set_option maxRecDepth 100000 in
theorem new_any (w : World) : Calls Try.prog 32 #[] w fun e w' => ∃ b, e = .returned (.pointer (some ⟨b, 0, none⟩)) ∧ VV w' [] (.pointer (some ⟨b, 0, none⟩)) ∧ Below w.heap.size w w' := by
  have HE : Hid (VV (w.alloc (.cells #[.nilIface] 81)) [] (.pointer (some ⟨w.heap.size, 0, none⟩)) ∧ Below w.heap.size w (w.alloc (.cells #[.nilIface] 81))) := ⟨⟨VC.made (.inl ⟨rfl, rfl⟩) _, by simp, rfl⟩, ((Grew.refl w).alloc _).below⟩
  go_enter Try.func32, Try.ntmps32
  go_wp2_with fail
  go_ret
  exact ⟨_, rfl, HE.out.1, HE.out.2⟩

end Go.Proofs.Ytplahohaahfjmaa

