/-
  RrbValue.
-/
import Derived.Test.YtpnfmcmhcjekfaaSame11
namespace Go.Proofs.Ytpnfmcmhcjekfaa
open Go.RowKit

/-- What Of tells, right or not. -/
theorem of_vv (n : Nat) (l : List VT) (u : Value) (w : World) (hl : Lies (n + 1) w l u) : Calls Try.prog 9 #[u] w fun e w' => Below w.heap.size w w' ∧ ((∃ b, e = .returned (.tuple #[.pointer (some ⟨b, 0, none⟩), .int .i64 0]) ∧ VV w' l (.pointer (some ⟨b, 0, none⟩)) ∧ Lies 17 w' l u ∧ listErr n l = 0) ∨ (∃ k : Nat, e = .returned (.tuple #[.pointer none, .int .i64 (k : Int)]) ∧ (k = 2 ∨ k = 3) ∧ listErr n l = (k : Int))) := by
  refine Calls.mono (of_n n l _ w hl) ?_
  rintro e w' ⟨hb, hp⟩
  refine ⟨hb, ?_⟩
  unfold ofN at hp
  unfold listErr
  by_cases h1 : 65536 < l.length
  · rw [if_pos h1] at hp
    exact .inr ⟨2, hp, .inl rfl, by rw [if_pos h1]; rfl⟩
  · rw [if_neg h1] at hp
    by_cases h2 : l.all (rightV n) = true
    · rw [if_pos h2] at hp
      obtain ⟨b, rfl, hv⟩ := hp
      exact .inl ⟨b, rfl, ⟨hv, by omega, (canonL hl h2).2⟩, Lies.keeps hb _ _ _ (canonL hl h2).1, by rw [if_neg h1, if_pos h2]⟩
    · rw [if_neg h2] at hp
      exact .inr ⟨3, hp, .inr rfl, by rw [if_neg h1, if_neg h2]; rfl⟩

/-- What Push onto an empty vector tells. -/
theorem push_nil (n : Nat) (p : Value) (x : VT) (ax : Option Addr) (cx : Nat) (w : World) (h : VV w [] p) (hx : Lies n w x.items (.slice ax x.items.length cx)) (hts : x.text.size ≤ 9223372036854775807) :
    Calls Try.prog 20 #[p, .agg #[.int .i64 x.kind, .int .i64 x.num, .string x.text, .slice ax x.items.length cx]] w fun e w' => Below w.heap.size w w' ∧ ((rightV n x = true ∧ ∃ b, e = .returned (.tuple #[.pointer (some ⟨b, 0, none⟩), .int .i64 0]) ∧ VV w' [x] (.pointer (some ⟨b, 0, none⟩))) ∨ (rightV n x = false ∧ e = .returned (.tuple #[.pointer none, .int .i64 3]))) := by
  refine Calls.mono (push_vv n [] p x ax cx w h hx hts) ?_
  rintro e w' ⟨hb, hp⟩
  refine ⟨hb, ?_⟩
  rcases hp with ⟨b, rfl, hv, hr, _⟩ | ⟨k, rfl, ⟨rfl, hr⟩ | ⟨rfl, hr, h0⟩⟩
  · exact .inl ⟨hr, b, rfl, hv⟩
  · exact .inr ⟨hr, rfl⟩
  · simp at h0

set_option maxRecDepth 100000 in
set_option maxHeartbeats 16000000 in
theorem value_walk (n : Nat) (l : List VT) (ul : Value) (m : Nat) (x : VT) (ux : Value) (w : World) (hl : Lies (n + 1) w l ul) (hx : Lies m w x.items ux) (hts : x.text.size ≤ 9223372036854775807) : Calls Try.prog 7 #[ul, .agg #[.int .i64 x.kind, .int .i64 x.num, .string x.text, ux]] w fun e w' => e = .returned (.bool true) ∧ Below w.heap.size w w' := by
  obtain ⟨al, cl, rfl, hlb⟩ := Lies.slice hl
  obtain ⟨ax, cx, rfl, _⟩ := Lies.slice hx
  obtain ⟨wA, hwA⟩ : ∃ wA, wA = w.alloc (.cells #[.int .i64 x.kind, .int .i64 x.num, .string x.text, .slice ax x.items.length cx] 31) := ⟨_, rfl⟩
  have hbA : Below w.heap.size w wA := by rw [hwA]; exact ((Grew.refl w).alloc _).below
  have HBx : Hid (Bx wA w.heap.size x (.slice ax x.items.length cx)) := by rw [hwA]; exact bx_alloc w x _
  have HO : Hid _ := of_vv n l _ wA (Lies.keeps hbA _ _ _ hl)
  have HX : Hid (Lies m wA x.items (.slice ax x.items.length cx)) := Lies.keeps hbA _ _ _ hx
  have HSp : Hid (∀ V, Calls Try.prog 11 #[] V fun e w' => e = .returned (.bool true) ∧ Below V.heap.size V w') := speaks11_any
  have HwA : Hid (wA = w.alloc (.cells #[.int .i64 x.kind, .int .i64 x.num, .string x.text, .slice ax x.items.length cx] 31)) := hwA
  rw [hwA] at HO
  clear hl hx hwA
  go_enter Try.func7, Try.ntmps7
  go_wp2_with fail
  refine Calls.mono HO.out ?_
  rintro e w1 ⟨hg1, hp1⟩
  rw [← HwA.out] at hg1
  have hb1 : Below w.heap.size w w1 := hbA.trans (hg1.mono hbA.size)
  rcases hp1 with ⟨b, rfl, hv, hl17, _⟩ | ⟨k, rfl, hk, _⟩
  · have HV : Hid (VV w1 l (.pointer (some ⟨b, 0, none⟩))) := hv
    have HL : Hid (Lies 17 w1 l (.slice al l.length cl)) := hl17
    have HVa : Hid _ := vvalue_any l _ w1 hv
    obtain ⟨A, hA⟩ : ∃ A, A = listA 16 l := ⟨_, rfl⟩
    rw [← hA] at HVa
    have HRl : Hid (∀ V, Below w1.heap.size w1 V → Calls Try.prog 31 #[.slice al l.length cl] V (Tells 17 A V)) := fun V hV => by
      rw [hA]; exact rlist_tells 16 l _ V (Lies.keeps hV _ _ _ HL.out)
    have HB1 : Hid (Bx w1 w.heap.size x (.slice ax x.items.length cx)) := HBx.out.keeps hg1
    have HX1 : Hid (Lies m w1 x.items (.slice ax x.items.length cx)) := Lies.keeps hg1 _ _ _ HX.out
    clear HO hv hl17 hA HX HBx hg1 HV HL HwA
    go_wp2_with fail
    refine Calls.mono HVa.out ?_
    rintro e w2 ⟨v2, rfl, hL2, hg2⟩
    obtain ⟨a2, c2, rfl, _⟩ := Lies.slice hL2
    obtain ⟨V2, hV2⟩ : ∃ V2, V2 = w2.alloc (.cells #[.int .i64 A.1.kind, .int .i64 A.1.num, .string A.1.text, .slice a2 A.1.items.length c2] 31) := ⟨_, rfl⟩
    have hx2 : Below w2.heap.size w2 V2 := by rw [hV2]; exact ((Grew.refl w2).alloc _).below
    have hg2' : Below w1.heap.size w1 V2 := hg2.trans (hx2.mono hg2.size)
    have HBa : Hid (Bx V2 w2.heap.size A.1 (.slice a2 A.1.items.length c2)) := by rw [hV2]; exact bx_alloc w2 A.1 _
    have HLa : Hid (Lies 17 V2 A.1.items (.slice a2 A.1.items.length c2)) := Lies.keeps hx2 _ _ _ hL2
    have HB2 : Hid (Bx V2 w.heap.size x (.slice ax x.items.length cx)) := HB1.out.keeps hg2'
    have HX2 : Hid (Lies m V2 x.items (.slice ax x.items.length cx)) := Lies.keeps hg2' _ _ _ HX1.out
    have hb2 : Below w.heap.size w V2 := hb1.trans (hg2'.mono hb1.size)
    have HR2 : Hid _ := HRl.out V2 hg2'
    have HV2e : Hid (V2 = w2.alloc (.cells #[.int .i64 A.1.kind, .int .i64 A.1.num, .string A.1.text, .slice a2 A.1.items.length c2] 31)) := hV2
    rw [hV2] at HR2
    clear HVa hL2 hg2 hx2 hg2' HB1 HX1 HRl hV2
    go_wp2_with fail
    refine Calls.mono HR2.out ?_
    rintro e w3 ⟨v3, rfl, hL3, hg3⟩
    rw [← HV2e.out] at hg3
    obtain ⟨a3, c3, rfl, _⟩ := Lies.slice hL3
    obtain ⟨V3, hV3⟩ : ∃ V3, V3 = w3.alloc (.cells #[.int .i64 A.1.kind, .int .i64 A.1.num, .string A.1.text, .slice a3 A.1.items.length c3] 31) := ⟨_, rfl⟩
    have hx3 : Below w3.heap.size w3 V3 := by rw [hV3]; exact ((Grew.refl w3).alloc _).below
    have hg3' : Below V2.heap.size V2 V3 := hg3.trans (hx3.mono hg3.size)
    have HBb : Hid (Bx V3 w3.heap.size A.1 (.slice a3 A.1.items.length c3)) := by rw [hV3]; exact bx_alloc w3 A.1 _
    have HLb : Hid (Lies 17 V3 A.1.items (.slice a3 A.1.items.length c3)) := Lies.keeps hx3 _ _ _ hL3
    have HBa3 : Hid (Bx V3 w2.heap.size A.1 (.slice a2 A.1.items.length c2)) := HBa.out.keeps hg3'
    have HLa3 : Hid (Lies 17 V3 A.1.items (.slice a2 A.1.items.length c2)) := Lies.keeps hg3' _ _ _ HLa.out
    have HB3 : Hid (Bx V3 w.heap.size x (.slice ax x.items.length cx)) := HB2.out.keeps hg3'
    have HX3 : Hid (Lies m V3 x.items (.slice ax x.items.length cx)) := Lies.keeps hg3' _ _ _ HX2.out
    have hb3 : Below w.heap.size w V3 := hb2.trans (hg3'.mono hb2.size)
    have HP3 : Hid _ := push_nil m (.pointer none) x ax cx V3 (vv_nil V3) HX3.out hts
    have HV3e : Hid (V3 = w3.alloc (.cells #[.int .i64 A.1.kind, .int .i64 A.1.num, .string A.1.text, .slice a3 A.1.items.length c3] 31)) := hV3
    obtain ⟨x0, x1, x2, x3, _, _, _, _⟩ := HB3.out
    rw [hV3] at HP3 x0 x1 x2 x3
    clear HR2 hL3 hg3 hx3 hg3' HB2 HX2 HBa HLa hV3
    go_wp2_with fail
    refine Calls.mono HP3.out ?_
    rintro e w4 ⟨hg4, hp4⟩
    rw [← HV3e.out] at hg4
    have hb4 : Below w.heap.size w w4 := hb3.trans (hg4.mono hb3.size)
    have HBb4 : Hid (Bx w4 w3.heap.size A.1 (.slice a3 A.1.items.length c3)) := HBb.out.keeps hg4
    have HLb4 : Hid (Lies 17 w4 A.1.items (.slice a3 A.1.items.length c3)) := Lies.keeps hg4 _ _ _ HLb.out
    have HBa4 : Hid (Bx w4 w2.heap.size A.1 (.slice a2 A.1.items.length c2)) := HBa3.out.keeps hg4
    have HLa4 : Hid (Lies 17 w4 A.1.items (.slice a2 A.1.items.length c2)) := Lies.keeps hg4 _ _ _ HLa3.out
    have HB4 : Hid (Bx w4 w.heap.size x (.slice ax x.items.length cx)) := HB3.out.keeps hg4
    have HX4 : Hid (Lies m w4 x.items (.slice ax x.items.length cx)) := Lies.keeps hg4 _ _ _ HX3.out
    have HPu : Hid (∀ V b, Below w4.heap.size w4 V → VV V [] (.pointer (some ⟨b, 0, none⟩)) → Calls Try.prog 20 #[.pointer (some ⟨b, 0, none⟩), .agg #[.int .i64 x.kind, .int .i64 x.num, .string x.text, .slice ax x.items.length cx]] V fun e w' => Below V.heap.size V w' ∧ ((rightV m x = true ∧ ∃ b, e = .returned (.tuple #[.pointer (some ⟨b, 0, none⟩), .int .i64 0])) ∨ (rightV m x = false ∧ e = .returned (.tuple #[.pointer none, .int .i64 3])))) := fun V b hV hv => Calls.mono (push_nil m _ x ax cx V hv (Lies.keeps hV _ _ _ HX4.out) hts) (fun e w' h => ⟨h.1, h.2.imp (fun ⟨h1, b, h2, _⟩ => ⟨h1, b, h2⟩) id⟩)
    obtain ⟨x0, x1, x2, x3, _, _, _, _⟩ := HB4.out
    clear HP3 HB3 HX3 HBa3 HLa3 HBb HLb
    rcases hp4 with ⟨hr, b4, rfl, hv4⟩ | ⟨hr, rfl⟩
    · have HV4 : Hid (VV w4 [x] (.pointer (some ⟨b4, 0, none⟩))) := hv4
      clear hv4
      go_wp2_with fail
      go_region_held3 (fun w' => w'.cell? ⟨w.heap.size, 0, none⟩ = some (.int .i64 x.kind) ∧ w'.cell? ⟨w.heap.size, 1, none⟩ = some (.int .i64 x.num) ∧ w'.cell? ⟨w.heap.size, 2, none⟩ = some (.string x.text) ∧ w'.cell? ⟨w.heap.size, 3, none⟩ = some (.slice ax x.items.length cx)) (go_keep)
        (first
          | (go_at_call 20; refine (HPu.out _ b5 hb5 HV5.out).mono ?_; rintro e w6 ⟨hg6, hp6⟩; have hb6 : Below w4.heap.size w4 w6 := hb5.trans (hg6.mono hb5.size); have HP6 : Hid _ := hp6; clear hp6; have hres := (HP6.out.elim (fun h => h.2) (fun h => absurd h.1 (by rw [hr]; simp))); obtain ⟨b6, rfl⟩ := hres; have x0 := cell_keeps hg6 x0; have x1 := cell_keeps hg6 x1; have x2 := cell_keeps hg6 x2; have x3 := cell_keeps hg6 x3)
          | (go_at_call 32; refine (new_any _).mono ?_; rintro e w5 ⟨b5, rfl, hv5, hg5⟩; have hb5 : Below w4.heap.size w4 w5 := (Below.refl _ _).drew.trans hg5; have HV5 : Hid (VV w5 [] (.pointer (some ⟨b5, 0, none⟩))) := hv5; clear hv5; have x0 := cell_keeps hb5 x0; have x1 := cell_keeps hb5 x1; have x2 := cell_keeps hb5 x2; have x3 := cell_keeps hb5 x3))
      have hb6w : Below w.heap.size w w6 := hb4.trans (hb6.mono hb4.size)
      obtain ⟨p0, p1, p2, p3, _, _, _, _⟩ := HBa4.out.keeps hb6
      obtain ⟨q0, q1, q2, q3, _, _, _, _⟩ := HBb4.out.keeps hb6
      have HSm : Hid (Calls Try.prog 15 #[.agg #[.int .i64 A.1.kind, .int .i64 A.1.num, .string A.1.text, .slice a2 A.1.items.length c2], .agg #[.int .i64 A.1.kind, .int .i64 A.1.num, .string A.1.text, .slice a3 A.1.items.length c3]] w6 fun e W' => e = .returned (.bool true) ∧ Below w6.heap.size w6 W') := (same_any 17 A.1 A.1 _ _ w6 (Lies.keeps hb6 _ _ _ HLa4.out) (Lies.keeps hb6 _ _ _ HLb4.out)).mono fun e W' h => ⟨by rw [h.1, sameV_self], h.2.below⟩
      have HB6 : Hid (Bx w6 w.heap.size x (.slice ax x.items.length cx)) := HB4.out.keeps hb6
      have HX6 : Hid (Lies m w6 x.items (.slice ax x.items.length cx)) := Lies.keeps hb6 _ _ _ HX4.out
      have hA2 : (A.2 != A.2) = false := by simp
      have HV6 : Hid (VV w6 [x] (.pointer (some ⟨b4, 0, none⟩))) := HV4.out.keeps hb6
      clear HPu HV5 HBa4 HBb4 HLa4 HLb4 HB4 HX4 x0 x1 x2 x3 hb5 hg5
      go_wp2_with fail
      refine Calls.mono HSm.out ?_
      rintro e w7 ⟨rfl, hg7⟩
      have hb7 : Below w.heap.size w w7 := hb6w.trans (hg7.mono hb6w.size)
      have HPo : Hid _ := pop_vv [] (.pointer none) w7 (vv_nil w7)
      clear HSm p0 p1 p2 p3 q0 q1 q2 q3
      go_wp2_with fail
      refine Calls.mono HPo.out ?_
      rintro e w8 ⟨hg8, hp8⟩
      have he8 : e = .returned (.tuple #[.pointer none, .agg #[.int .i64 0, .int .i64 0, .string ⟨#[]⟩, .slice none 0 0], .int .i64 6]) := by
        rcases hp8 with ⟨_, he⟩ | ⟨M2, x2, _, _, _, hM, _⟩
        · exact he
        · exact absurd (congrArg List.length hM) (by simp)
      subst he8
      obtain ⟨V8, hV8⟩ : ∃ V8, V8 = w8.alloc (.cells #[.int .i64 0, .int .i64 0, .string ⟨#[]⟩, .slice none 0 0] 31) := ⟨_, rfl⟩
      have hx8 : Below w8.heap.size w8 V8 := by rw [hV8]; exact ((Grew.refl w8).alloc _).below
      have hb8 : Below w.heap.size w V8 := (hb7.trans (hg8.mono hb7.size)).trans (hx8.mono (Nat.le_trans hb7.size hg8.size))
      have h68 : Below w6.heap.size w6 V8 := (hg7.trans (hg8.mono hg7.size)).trans (hx8.mono (Nat.le_trans hg7.size hg8.size))
      have HLn : Hid _ := vlen_any 16 [] (.pointer none) V8 (vv_nil V8).vc
      have HV8e : Hid (V8 = w8.alloc (.cells #[.int .i64 0, .int .i64 0, .string ⟨#[]⟩, .slice none 0 0] 31)) := hV8
      rw [hV8] at HLn
      clear HPo hp8 hx8 hg8 hg7 hV8
      go_wp2_with fail
      refine Calls.mono HLn.out ?_
      rintro e w9 ⟨rfl, hg9⟩
      rw [← HV8e.out] at hg9
      have hb9 : Below w.heap.size w w9 := hb8.trans (hg9.mono hb8.size)
      have h69 : Below w6.heap.size w6 w9 := h68.trans (hg9.mono h68.size)
      have HHt : Hid _ := height_for [] (.pointer none) w9 (vv_nil w9)
      clear HLn hg9 h68
      go_wp2_with fail
      refine Calls.mono HHt.out ?_
      rintro e wa ⟨hN, rfl, hok, hga⟩
      have hN0 : hN = 0 := by
        rcases hok with ⟨_, h⟩ | ⟨h, _⟩
        · exact h
        · exact absurd rfl h
      subst hN0
      have hba : Below w.heap.size w wa := hb9.trans (hga.mono hb9.size)
      have h6a : Below w6.heap.size w6 wa := h69.trans (hga.mono h69.size)
      have HIt : Hid _ := items_any [] (.pointer none) wa (vv_nil wa).vc (by simp) rfl
      clear HHt hok hga h69
      go_wp2_with fail
      refine Calls.mono HIt.out ?_
      rintro e wb ⟨vb, rfl, hvb, hgb⟩
      obtain ⟨ab, cb, rfl, _⟩ := LiesB.slice hvb
      have hbb : Below w.heap.size w wb := hba.trans (hgb.mono hba.size)
      have h6b : Below w6.heap.size w6 wb := h6a.trans (hgb.mono h6a.size)
      clear HIt hvb hgb h6a

      obtain ⟨x0, x1, x2, x3, _, _, _, _⟩ := HB6.out.keeps h6b
      obtain ⟨Vb, hVb⟩ : ∃ Vb, Vb = wb.alloc (.cells #[.int .i64 x.kind, .int .i64 x.num, .string x.text, .slice ax x.items.length cx] 31) := ⟨_, rfl⟩
      have hxb : Below wb.heap.size wb Vb := by rw [hVb]; exact ((Grew.refl wb).alloc _).below
      have HSa : Hid (Calls Try.prog 12 #[.pointer (some ⟨b4, 0, none⟩), .slice (some ⟨wb.heap.size, 0, none⟩) 1 1] Vb fun e w' => e = .returned (.bool true) ∧ Below wb.heap.size wb w') := by
        obtain ⟨y0, y1, y2, y3, _, _, _, _⟩ := bx_alloc wb x (.slice ax x.items.length cx)
        rw [← hVb] at y0 y1 y2 y3
        refine Calls.mono (same11_any [x] b4 _ Vb ((HV6.out.keeps h6b).keeps hxb) (lies_oneN y0 y1 y2 y3 (Lies.keeps hxb _ _ _ (Lies.keeps h6b _ _ _ (canon HX6.out hr).1)) hts)) (fun e w' h => ⟨h.1, hxb.trans (h.2.mono hxb.size)⟩)
      rw [hVb] at HSa
      clear hVb
      go_wp2_with fail
      refine Calls.mono HSa.out ?_
      rintro e wc ⟨rfl, hgc⟩
      have hbc : Below w.heap.size w wc := hbb.trans (hgc.mono hbb.size)
      have HEnd : Hid (Calls Try.prog 11 #[] wc fun e w' => e = .returned (.bool true) ∧ Below w.heap.size w w') := Calls.mono (HSp.out wc) (fun e w' h => ⟨h.1, hbc.trans (h.2.mono hbc.size)⟩)
      clear HSa hxb hgc x0 x1 x2 x3
      go_wp2_with fail
      refine Calls.mono HEnd.out ?_
      rintro e wd ⟨rfl, hgd⟩
      go_wp2_with fail
      go_ret
      exact ⟨rfl, hgd⟩
    · skip
      go_wp2_with fail
      go_region_held3 (fun w' => w'.cell? ⟨w.heap.size, 0, none⟩ = some (.int .i64 x.kind) ∧ w'.cell? ⟨w.heap.size, 1, none⟩ = some (.int .i64 x.num) ∧ w'.cell? ⟨w.heap.size, 2, none⟩ = some (.string x.text) ∧ w'.cell? ⟨w.heap.size, 3, none⟩ = some (.slice ax x.items.length cx)) (go_keep)
        (first
          | (go_at_call 20; refine (HPu.out _ b5 hb5 HV5.out).mono ?_; rintro e w6 ⟨hg6, hp6⟩; have hb6 : Below w4.heap.size w4 w6 := hb5.trans (hg6.mono hb5.size); have HP6 : Hid _ := hp6; clear hp6; have hres := (HP6.out.elim (fun h => absurd h.1 (by rw [hr]; simp)) (fun h => h.2)); subst hres; have x0 := cell_keeps hg6 x0; have x1 := cell_keeps hg6 x1; have x2 := cell_keeps hg6 x2; have x3 := cell_keeps hg6 x3)
          | (go_at_call 32; refine (new_any _).mono ?_; rintro e w5 ⟨b5, rfl, hv5, hg5⟩; have hb5 : Below w4.heap.size w4 w5 := (Below.refl _ _).drew.trans hg5; have HV5 : Hid (VV w5 [] (.pointer (some ⟨b5, 0, none⟩))) := hv5; clear hv5; have x0 := cell_keeps hb5 x0; have x1 := cell_keeps hb5 x1; have x2 := cell_keeps hb5 x2; have x3 := cell_keeps hb5 x3))
      have hb6w : Below w.heap.size w w6 := hb4.trans (hb6.mono hb4.size)
      obtain ⟨p0, p1, p2, p3, _, _, _, _⟩ := HBa4.out.keeps hb6
      obtain ⟨q0, q1, q2, q3, _, _, _, _⟩ := HBb4.out.keeps hb6
      have HSm : Hid (Calls Try.prog 15 #[.agg #[.int .i64 A.1.kind, .int .i64 A.1.num, .string A.1.text, .slice a2 A.1.items.length c2], .agg #[.int .i64 A.1.kind, .int .i64 A.1.num, .string A.1.text, .slice a3 A.1.items.length c3]] w6 fun e W' => e = .returned (.bool true) ∧ Below w6.heap.size w6 W') := (same_any 17 A.1 A.1 _ _ w6 (Lies.keeps hb6 _ _ _ HLa4.out) (Lies.keeps hb6 _ _ _ HLb4.out)).mono fun e W' h => ⟨by rw [h.1, sameV_self], h.2.below⟩
      have HB6 : Hid (Bx w6 w.heap.size x (.slice ax x.items.length cx)) := HB4.out.keeps hb6
      have HX6 : Hid (Lies m w6 x.items (.slice ax x.items.length cx)) := Lies.keeps hb6 _ _ _ HX4.out
      have hA2 : (A.2 != A.2) = false := by simp
      skip
      clear HPu HV5 HBa4 HBb4 HLa4 HLb4 HB4 HX4 x0 x1 x2 x3 hb5 hg5
      go_wp2_with fail
      refine Calls.mono HSm.out ?_
      rintro e w7 ⟨rfl, hg7⟩
      have hb7 : Below w.heap.size w w7 := hb6w.trans (hg7.mono hb6w.size)
      have HPo : Hid _ := pop_vv [] (.pointer none) w7 (vv_nil w7)
      clear HSm p0 p1 p2 p3 q0 q1 q2 q3
      go_wp2_with fail
      refine Calls.mono HPo.out ?_
      rintro e w8 ⟨hg8, hp8⟩
      have he8 : e = .returned (.tuple #[.pointer none, .agg #[.int .i64 0, .int .i64 0, .string ⟨#[]⟩, .slice none 0 0], .int .i64 6]) := by
        rcases hp8 with ⟨_, he⟩ | ⟨M2, x2, _, _, _, hM, _⟩
        · exact he
        · exact absurd (congrArg List.length hM) (by simp)
      subst he8
      obtain ⟨V8, hV8⟩ : ∃ V8, V8 = w8.alloc (.cells #[.int .i64 0, .int .i64 0, .string ⟨#[]⟩, .slice none 0 0] 31) := ⟨_, rfl⟩
      have hx8 : Below w8.heap.size w8 V8 := by rw [hV8]; exact ((Grew.refl w8).alloc _).below
      have hb8 : Below w.heap.size w V8 := (hb7.trans (hg8.mono hb7.size)).trans (hx8.mono (Nat.le_trans hb7.size hg8.size))
      have h68 : Below w6.heap.size w6 V8 := (hg7.trans (hg8.mono hg7.size)).trans (hx8.mono (Nat.le_trans hg7.size hg8.size))
      have HLn : Hid _ := vlen_any 16 [] (.pointer none) V8 (vv_nil V8).vc
      have HV8e : Hid (V8 = w8.alloc (.cells #[.int .i64 0, .int .i64 0, .string ⟨#[]⟩, .slice none 0 0] 31)) := hV8
      rw [hV8] at HLn
      clear HPo hp8 hx8 hg8 hg7 hV8
      go_wp2_with fail
      refine Calls.mono HLn.out ?_
      rintro e w9 ⟨rfl, hg9⟩
      rw [← HV8e.out] at hg9
      have hb9 : Below w.heap.size w w9 := hb8.trans (hg9.mono hb8.size)
      have h69 : Below w6.heap.size w6 w9 := h68.trans (hg9.mono h68.size)
      have HHt : Hid _ := height_for [] (.pointer none) w9 (vv_nil w9)
      clear HLn hg9 h68
      go_wp2_with fail
      refine Calls.mono HHt.out ?_
      rintro e wa ⟨hN, rfl, hok, hga⟩
      have hN0 : hN = 0 := by
        rcases hok with ⟨_, h⟩ | ⟨h, _⟩
        · exact h
        · exact absurd rfl h
      subst hN0
      have hba : Below w.heap.size w wa := hb9.trans (hga.mono hb9.size)
      have h6a : Below w6.heap.size w6 wa := h69.trans (hga.mono h69.size)
      have HIt : Hid _ := items_any [] (.pointer none) wa (vv_nil wa).vc (by simp) rfl
      clear HHt hok hga h69
      go_wp2_with fail
      refine Calls.mono HIt.out ?_
      rintro e wb ⟨vb, rfl, hvb, hgb⟩
      obtain ⟨ab, cb, rfl, _⟩ := LiesB.slice hvb
      have hbb : Below w.heap.size w wb := hba.trans (hgb.mono hba.size)
      have h6b : Below w6.heap.size w6 wb := h6a.trans (hgb.mono h6a.size)
      clear HIt hvb hgb h6a

      have HEnd : Hid (Calls Try.prog 11 #[] wb fun e w' => e = .returned (.bool true) ∧ Below w.heap.size w w') := Calls.mono (HSp.out wb) (fun e w' h => ⟨h.1, hbb.trans (h.2.mono hbb.size)⟩)
      clear h6b
      go_wp2_with fail
      refine Calls.mono HEnd.out ?_
      rintro e wd ⟨rfl, hgd⟩
      go_wp2_with fail
      go_ret
      exact ⟨rfl, hgd⟩
  · have hk0 : ¬ ((k : Nat) : Int) = 0 := by omega
    have HEnd : Hid (Calls Try.prog 11 #[] w1 fun e w' => e = .returned (.bool true) ∧ Below w.heap.size w w') := Calls.mono (HSp.out w1) (fun e w' h => ⟨h.1, hb1.trans (h.2.mono hb1.size)⟩)
    clear HO hk
    go_wp2_with fail
    refine Calls.mono HEnd.out ?_
    rintro e wd ⟨rfl, hgd⟩
    go_wp2_with fail
    go_ret
    exact ⟨rfl, hgd⟩

end Go.Proofs.Ytpnfmcmhcjekfaa

