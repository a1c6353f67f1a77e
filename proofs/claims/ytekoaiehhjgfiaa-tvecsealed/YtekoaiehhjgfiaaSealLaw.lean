/-
  TvecSealed.
-/
import Derived.Test.YtekoaiehhjgfiaaTvecR
import Derived.Test.YtekoaiehhjgfiaaNilLaw
namespace Go.Proofs.Ytekoaiehhjgfiaa
open Go.RowKit

/-- A step: its kind, its place, its value. -/
abbrev StepP : Type := Int × Int × (VT × Value)

/-- The six cells of a step. -/
def SixAt (w : World) (b o : Nat) (s : StepP) : Prop :=
  w.cell? ⟨b, o, none⟩ = some (.int .i64 s.1) ∧ w.cell? ⟨b, o + 1, none⟩ = some (.int .i64 s.2.1) ∧ w.cell? ⟨b, o + 2, none⟩ = some (.int .i64 s.2.2.1.kind) ∧ w.cell? ⟨b, o + 3, none⟩ = some (.int .i64 s.2.2.1.num) ∧ w.cell? ⟨b, o + 4, none⟩ = some (.string s.2.2.1.text) ∧ w.cell? ⟨b, o + 5, none⟩ = some s.2.2.2

/-- A slice of steps. -/
def SlS (n : Nat) (w : World) (ss : List StepP) (v : Value) : Prop :=
  ∃ a c, v = .slice a ss.length c ∧ ss.length ≤ c ∧ ss.length ≤ 9223372036854775807 ∧ (ss ≠ [] → ∃ b o, a = some ⟨b, o, none⟩ ∧ ∀ (i : Nat) (h : i < ss.length), SixAt w b (o + i * 6) (ss[i]'h)) ∧ ∀ s ∈ ss, Sound n w s.2.2

/-- What a step holds, wherever it is looked at. -/
theorem SlS.at {n : Nat} {w : World} {ss : List StepP} {v : Value} (h : SlS n w ss v) : ∃ a c, v = .slice a ss.length c ∧ ss.length ≤ c ∧ ss.length ≤ 9223372036854775807 ∧ ∀ (j : Nat), j < ss.length → ∃ (b o : Nat) (k t : Int) (x : VT) (ax : Option Addr) (cx : Nat), a = some ⟨b, o, none⟩ ∧ ss[j]? = some (k, t, (x, .slice ax x.items.length cx)) ∧ Lies n w x.items (.slice ax x.items.length cx) ∧ x.text.size ≤ 9223372036854775807 ∧ ∀ W, Below w.heap.size w W → SixAt W b (o + j * 6) (k, t, (x, .slice ax x.items.length cx)) ∧ b < W.heap.size := by
  obtain ⟨a, c, hv, h1, h2, hr, hs⟩ := h
  refine ⟨a, c, hv, h1, h2, fun j hj => ?_⟩
  obtain ⟨b, o, ha, hcs⟩ := hr (fun e => by rw [e] at hj; cases hj)
  obtain ⟨⟨k, t, x, u⟩, hx⟩ : ∃ x, x = ss[j] := ⟨_, rfl⟩
  have hc := hcs j hj
  have hsd := hs _ (List.getElem_mem hj)
  rw [← hx] at hc hsd
  obtain ⟨ax, cx, hu, _⟩ := Lies.slice hsd.1
  simp only at hu
  subst hu
  refine ⟨b, o, k, t, x, ax, cx, ha, by rw [List.getElem?_eq_getElem hj, hx], hsd.1, hsd.2, fun W hW => ?_⟩
  obtain ⟨c0, c1, c2, c3, c4, c5⟩ := hc
  exact ⟨⟨cell_keeps hW c0, cell_keeps hW c1, cell_keeps hW c2, cell_keeps hW c3, cell_keeps hW c4, cell_keeps hW c5⟩, cell_lt (cell_keeps hW c0)⟩

end Go.Proofs.Ytekoaiehhjgfiaa

namespace Go.Proofs.Ytekoaiehhjgfiaa
open Go.RowKit

/-- What Of tells, right or not. -/
theorem of_vv (n : Nat) (l : List VT) (u : Value) (w : World) (hl : Lies (n + 1) w l u) : Calls Try.prog 5 #[u] w fun e w' => Below w.heap.size w w' ∧ ((∃ b, e = .returned (.tuple #[.pointer (some ⟨b, 0, none⟩), .int .i64 0]) ∧ VV w' l (.pointer (some ⟨b, 0, none⟩)) ∧ Lies 17 w l u) ∨ (∃ k : Nat, e = .returned (.tuple #[.pointer none, .int .i64 (k : Int)]) ∧ (k = 2 ∨ k = 3))) := by
  refine Calls.mono (of_n n l _ w hl) ?_
  rintro e w' ⟨hb, hp⟩
  refine ⟨hb, ?_⟩
  unfold ofN at hp
  by_cases h1 : 65536 < l.length
  · rw [if_pos h1] at hp
    exact .inr ⟨2, hp, .inl rfl⟩
  · rw [if_neg h1] at hp
    by_cases h2 : l.all (rightV n) = true
    · rw [if_pos h2] at hp
      obtain ⟨b, rfl, hv⟩ := hp
      exact .inl ⟨b, rfl, ⟨hv, by omega, (canonL hl h2).2⟩, (canonL hl h2).1⟩
    · rw [if_neg h2] at hp
      exact .inr ⟨3, hp, .inr rfl⟩

set_option maxRecDepth 100000 in
set_option maxHeartbeats 16000000 in
theorem seal_walk (n : Nat) (l : List VT) (ul : Value) (m : Nat) (ss : List StepP) (us : Value) (w : World) (hl : Lies (n + 1) w l ul) (hs : SlS m w ss us) : Calls Try.prog 3 #[ul, us] w fun e w' => e = .returned (.bool true) ∧ Below w.heap.size w w' := by
  obtain ⟨al, cl, rfl, hlb⟩ := Lies.slice hl
  obtain ⟨aS, cS, rfl, hcs, hs63, hat⟩ := hs.at
  obtain ⟨S, hS⟩ : ∃ S, S = ss.length := ⟨_, rfl⟩
  rw [← hS] at hat hs63 ⊢
  have HO : Hid _ := of_vv n l _ w hl
  have HSp : Hid (∀ V, Calls Try.prog 6 #[] V fun e w' => e = .returned (.bool true) ∧ Below V.heap.size V w') := speaks13_any
  have Hat : Hid _ := hat
  clear hl hs hat hcs hS
  go_enter Try.func3, Try.ntmps3
  go_wp2_with fail
  refine Calls.mono HO.out ?_
  rintro e w1 ⟨hb1, hp1⟩
  rcases hp1 with ⟨v0, rfl, hv, hl17⟩ | ⟨k, rfl, hk⟩
  · have HL : Hid (Lies 17 w l (.slice al l.length cl)) := hl17
    have HBg : Hid _ := begin_any l _ w1 hv
    have HV1 : Hid (VV w1 l (.pointer (some ⟨v0, 0, none⟩))) := hv
    clear HO hv hl17
    go_wp2_with fail
    refine Calls.mono HBg.out ?_
    rintro e w2 ⟨b, h, v, rfl, t2, hg2, hh2, _⟩
    have hb2 : Below w.heap.size w w2 := hb1.trans (hg2.mono hb1.size)
    have hNh : w.heap.size ≤ h := Nat.le_trans hb1.size hh2
    have T2 : Hid (TV w2 l b h v) := t2
    have HV2 : Hid (VV w2 l (.pointer (some ⟨v0, 0, none⟩))) := HV1.out.keeps hg2
    clear HBg t2 hg2 HV1
    go_wp2_with fail
    go_loopg [8] 101 (fun z vi wr => ∃ (j v : Nat) (M : List VT), vi = .int .i64 (j : Int) ∧ j ≤ 100 ∧ z = 101 - j ∧ Hid (TV wr M b h v) ∧ Hid (VV wr l (.pointer (some ⟨v0, 0, none⟩))) ∧ Hid (Below w.heap.size w wr))
    case atStart => exact ⟨0, v, l, rfl, by omega, rfl, T2, HV2, hb2⟩
    case round =>
      obtain ⟨j, v', M, rfl, hj, hz, T, HV, HB⟩ := hrel
      have Hz : Hid _ := hz
      clear hz T2 HV2
      by_cases hlt : j < S / 2 ∧ j < 100
      · have hji : (j : Int) < (S : Nat) / 2 := by omega
        have hj2 : (j : Int) < 100 := by omega
        have hjS : j < S := by omega
        have hjSi : (j : Int) < (S : Nat) := by omega
        obtain ⟨sb, so, kk, t, x, ax, cx, hsa, _, hxl, hxt, hcell⟩ := Hat.out j hjS
        subst hsa
        obtain ⟨⟨c0, c1, c2, c3, c4, c5⟩, hbl⟩ := hcell wr HB.out
        simp only at c0 c1 c2 c3 c4 c5
        have HP : Hid _ := tpush_any m M b h v' x ax cx w.heap.size wr T.out hNh HB.out.size (Lies.keeps HB.out _ _ _ hxl) hxt
        clear hcell hxl
        go_wp2_with fail
        refine Calls.mono HP.out ?_
        rintro e w3 ⟨k3, rfl, hg3, hn3, hp3⟩
        have HV3 : Hid (VV w3 l (.pointer (some ⟨v0, 0, none⟩))) := HV.out.np hn3
        have HB3 : Hid (Below w.heap.size w w3) := HB.out.trans hg3
        have HT3 : Hid (∃ v M, TV w3 M b h v) := by
          rcases hp3 with ⟨_, _, v3, t3⟩ | ⟨_, _, t3⟩
          · exact ⟨v3, _, t3⟩
          · exact ⟨_, _, t3⟩
        clear HP hp3 hg3 hn3 T HV HB c0 c1 c2 c3 c4 c5
        go_wp2_with fail
        go_roundg (101 - (j + 1))
        case measure => have := Hz.out; omega
        case rel =>
          obtain ⟨v3, M3, t3⟩ := HT3.out
          exact ⟨j + 1, v3, M3, by go_num, by omega, rfl, t3, HV3, HB3⟩
      · have HSl : Hid _ := tseal_any M b h v' w.heap.size wr T.out hNh
        have hex : ((j : Int) < (S : Nat) / 2 ∧ ¬ (j : Int) < 100) ∨ ¬ (j : Int) < (S : Nat) / 2 := by omega
        clear hlt
        rcases hex with ⟨hji, hj2⟩ | hji
        · go_wp2_with fail
          refine Calls.mono HSl.out ?_
          rintro e w4 ⟨rfl, hg4, hn4, hv4, ts4⟩
          have HB4 : Hid (Below w.heap.size w w4) := HB.out.trans hg4
          have HV4 : Hid (VV w4 l (.pointer (some ⟨v0, 0, none⟩))) := HV.out.np hn4
          have HM4 : Hid (VV w4 M (.pointer (some ⟨v', 0, none⟩))) := hv4
          have TS4 : Hid (Shut13 w4 (.pointer (some ⟨b, 0, none⟩))) := ts4.shut
          have HIt : Hid _ := items_any _ _ w4 hv4.vc hv4.len hv4.right
          clear HSl hg4 hn4 hv4 ts4 T HV HB
          go_wp2_with fail
          refine Calls.mono HIt.out ?_
          rintro e w5 ⟨u5, rfl, hu5, hg5⟩
          have HB5 : Hid (Below w.heap.size w w5) := HB4.out.trans (hg5.mono HB4.out.size)
          have HV5 : Hid (VV w5 l (.pointer (some ⟨v0, 0, none⟩))) := HV4.out.keeps hg5
          have HM5 : Hid (VV w5 M (.pointer (some ⟨v', 0, none⟩))) := HM4.out.keeps hg5
          have TS5 : Hid (Shut13 w5 (.pointer (some ⟨b, 0, none⟩))) := TS4.out.keeps hg5
          have HU5 : Hid (Lies 17 w5 M u5) := LiesB.lies _ _ _ hu5
          obtain ⟨a5, c5, rfl, _⟩ := Lies.slice HU5.out
          clear HIt hg5 hu5 HB4 HV4 HM4 TS4
          go_wp2_with fail
          go_loopg [12] 101 (fun z vi wr => ∃ (j : Nat), vi = .int .i64 (j : Int) ∧ j ≤ 100 ∧ z = 101 - j ∧ Hid (Below w5.heap.size w5 wr))
          case atStart => exact ⟨0, rfl, by omega, rfl, Below.refl _ _⟩
          case round =>
            obtain ⟨j2, rfl, hj2', hz2, HR⟩ := hrel
            have Hz2 : Hid _ := hz2
            clear hz2
            have HBr : Hid (Below w.heap.size w wr) := HB5.out.trans (HR.out.mono HB5.out.size)
            by_cases hlt2 : j2 < S ∧ j2 < 100
            · have hq1 : (j2 : Int) < (S : Nat) := by omega
              have hq3 : (j2 : Int) < 100 := by omega
              obtain ⟨sb, so, kk, t, x, ax, cx, hsa, _, _, _, hcell⟩ := Hat.out j2 hlt2.1
              subst hsa
              obtain ⟨⟨d0, d1, d2, d3, d4, d5⟩, hbl⟩ := hcell wr HBr.out
              simp only at d0 d1 d2 d3 d4 d5
              obtain ⟨W0, hW0⟩ : ∃ W0, W0 = wr.alloc (.cells #[.int .i64 kk, .int .i64 t, .int .i64 x.kind, .int .i64 x.num, .string x.text, .slice ax x.items.length cx] 35) := ⟨_, rfl⟩
              have hr0 : Below wr.heap.size wr W0 := by rw [hW0]; exact ((Grew.refl wr).alloc _).below
              have h50 : Below w5.heap.size w5 W0 := HR.out.trans (hr0.mono HR.out.size)
              have B0 : Hid (Bx6 W0 wr.heap.size kk t x (.slice ax x.items.length cx)) := by rw [hW0]; exact bx6_alloc _ _ _ _ _ _
              have HNt : Hid _ := shut_nth _ t W0 (TS5.out.keeps h50)
              have HW0 : Hid (W0 = wr.alloc (.cells #[.int .i64 kk, .int .i64 t, .int .i64 x.kind, .int .i64 x.num, .string x.text, .slice ax x.items.length cx] 35)) := hW0
              rw [hW0] at HNt
              clear hW0 hr0 hcell HBr
              go_wp2_with fail
              refine Calls.mono HNt.out ?_
              rintro e wa ⟨rfl, hga⟩
              rw [← HW0.out] at hga
              obtain ⟨Wa, hWa⟩ : ∃ Wa, Wa = wa.alloc (.cells #[.int .i64 0, .int .i64 0, .string ⟨#[]⟩, .slice none 0 0] 33) := ⟨_, rfl⟩
              have hxa : Below wa.heap.size wa Wa := by rw [hWa]; exact below_box4 wa
              have hga' : Below W0.heap.size W0 Wa := hga.trans (hxa.mono hga.size)
              have h5a : Below w5.heap.size w5 Wa := h50.trans (hga'.mono h50.size)
              have Ba : Hid (Bx6 Wa wr.heap.size kk t x (.slice ax x.items.length cx)) := B0.out.keeps hga'
              have HPo : Hid _ := shut_pop _ Wa (TS5.out.keeps h5a)
              have HWa : Hid (Wa = wa.alloc (.cells #[.int .i64 0, .int .i64 0, .string ⟨#[]⟩, .slice none 0 0] 33)) := hWa
              rw [hWa] at HPo
              clear HNt hga hxa hga' B0 hWa h50 d0 d1 d2 d3 d4 d5
              go_wp2_with fail
              refine Calls.mono HPo.out ?_
              rintro e wb ⟨rfl, hgb⟩
              rw [← HWa.out] at hgb
              obtain ⟨Wb, hWb⟩ : ∃ Wb, Wb = wb.alloc (.cells #[.int .i64 0, .int .i64 0, .string ⟨#[]⟩, .slice none 0 0] 33) := ⟨_, rfl⟩
              have hxb : Below wb.heap.size wb Wb := by rw [hWb]; exact below_box4 wb
              have hgb' : Below Wa.heap.size Wa Wb := hgb.trans (hxb.mono hgb.size)
              have h5b : Below w5.heap.size w5 Wb := h5a.trans (hgb'.mono h5a.size)
              have Bb : Hid (Bx6 Wb wr.heap.size kk t x (.slice ax x.items.length cx)) := Ba.out.keeps hgb'
              have HLn : Hid _ := shut_len _ Wb (TS5.out.keeps h5b)
              have HWb : Hid (Wb = wb.alloc (.cells #[.int .i64 0, .int .i64 0, .string ⟨#[]⟩, .slice none 0 0] 33)) := hWb
              rw [hWb] at HLn
              clear HPo hgb hxb hgb' Ba hWb h5a
              go_wp2_with fail
              refine Calls.mono HLn.out ?_
              rintro e wc ⟨rfl, hgc⟩
              rw [← HWb.out] at hgc
              have h5c : Below w5.heap.size w5 wc := h5b.trans (hgc.mono h5b.size)
              have Bc : Hid (Bx6 wc wr.heap.size kk t x (.slice ax x.items.length cx)) := Bb.out.keeps hgc
              have HSe : Hid _ := shut_seal _ wc (TS5.out.keeps h5c)
              clear HLn hgc Bb h5b
              go_wp2_with fail
              refine Calls.mono HSe.out ?_
              rintro e wd ⟨rfl, hgd⟩
              have h5d : Below w5.heap.size w5 wd := h5c.trans (hgd.mono h5c.size)
              obtain ⟨x0, x1, x2, x3, x4, x5⟩ := Bc.out.keeps hgd
              have Bd : Hid (Bx6 wd wr.heap.size kk t x (.slice ax x.items.length cx)) := Bc.out.keeps hgd
              have HSt : Hid _ := shut_set _ t x ax cx wd (TS5.out.keeps h5d)
              clear HSe hgd Bc h5c
              go_wp2_with fail
              refine Calls.mono HSt.out ?_
              rintro e we ⟨rfl, hge⟩
              have h5e : Below w5.heap.size w5 we := h5d.trans (hge.mono h5d.size)
              obtain ⟨y0, y1, y2, y3, y4, y5⟩ := Bd.out.keeps hge
              have HPu : Hid _ := shut_push _ x ax cx we (TS5.out.keeps h5e)
              clear HSt hge Bd x0 x1 x2 x3 x4 x5 h5d
              go_wp2_with fail
              refine Calls.mono HPu.out ?_
              rintro e wf ⟨rfl, hgf⟩
              have H5f : Hid (Below w5.heap.size w5 wf) := h5e.trans (hgf.mono h5e.size)
              clear HPu hgf y0 y1 y2 y3 y4 y5 h5e
              go_wp2_with fail
              go_roundg (101 - (j2 + 1))
              case measure => have := Hz2.out; omega
              case rel => exact ⟨j2 + 1, by go_num, by omega, rfl, H5f⟩
            · have HIt : Hid _ := items_any _ _ wr (HM5.out.keeps HR.out).vc HM5.out.len HM5.out.right
              have hex2 : ((j2 : Int) < (S : Nat) ∧ ¬ (j2 : Int) < 100) ∨ ¬ (j2 : Int) < (S : Nat) := by omega
              have HVs : Hid (∀ V u, Below wr.heap.size wr V → Lies 17 V M u → Calls Try.prog 15 #[u, .slice a5 M.length c5] V fun e w' => e = .returned (.bool true) ∧ Below V.heap.size V w') := fun V u hV hu => values_one 16 M u _ V hu (Lies.keeps hV _ _ _ (Lies.keeps HR.out _ _ _ HU5.out)) HM5.out.len
              have HIl : Hid (∀ V, Below wr.heap.size wr V → Calls Try.prog 10 #[.pointer (some ⟨v0, 0, none⟩)] V (ItemsPost l V)) := fun V hV => items_any l _ V ((HV5.out.keeps HR.out).keeps hV).vc HV5.out.len HV5.out.right
              have HVl : Hid (∀ V u, Below wr.heap.size wr V → Lies 17 V l u → Calls Try.prog 15 #[u, .slice al l.length cl] V fun e w' => e = .returned (.bool true) ∧ Below V.heap.size V w') := fun V u hV hu => values_one 16 l u _ V hu (Lies.keeps (HBr.out.trans (hV.mono HBr.out.size)) _ _ _ HL.out) HV5.out.len
              clear hlt2
              rcases hex2 with ⟨hq1, hq3⟩ | hq1
              · go_wp2_with fail
                refine Calls.mono HIt.out ?_
                rintro e wa ⟨ua, rfl, hua, hga⟩
                have HVa : Hid _ := HVs.out wa ua hga (LiesB.lies _ _ _ hua)
                obtain ⟨aa, ca, rfl, _⟩ := LiesB.slice hua
                clear HIt hua HVs
                go_wp2_with fail
                refine Calls.mono HVa.out ?_
                rintro e wb ⟨rfl, hgb⟩
                have hrb : Below wr.heap.size wr wb := hga.trans (hgb.mono hga.size)
                have HIb : Hid _ := HIl.out wb hrb
                clear HVa hga hgb HIl
                go_wp2_with fail
                refine Calls.mono HIb.out ?_
                rintro e wc ⟨uc, rfl, huc, hgc⟩
                have hrc : Below wr.heap.size wr wc := hrb.trans (hgc.mono hrb.size)
                have HVc : Hid _ := HVl.out wc uc hrc (LiesB.lies _ _ _ huc)
                obtain ⟨ac, cc, rfl, _⟩ := LiesB.slice huc
                clear HIb huc hgc hrb HVl
                go_wp2_with fail
                refine Calls.mono HVc.out ?_
                rintro e wd ⟨rfl, hgd⟩
                have hrd : Below wr.heap.size wr wd := hrc.trans (hgd.mono hrc.size)
                have HEnd : Hid (Calls Try.prog 6 #[] wd fun e w' => e = .returned (.bool true) ∧ Below w.heap.size w w') := Calls.mono (HSp.out wd) (fun e w' h => ⟨h.1, (HBr.out.trans (hrd.mono HBr.out.size)).trans (h.2.mono (HBr.out.trans (hrd.mono HBr.out.size)).size)⟩)
                clear HVc hgd hrc hrd
                go_wp2_with fail
                refine Calls.mono HEnd.out ?_
                rintro e we ⟨rfl, hge⟩
                go_wp2_with fail
                go_ret
                exact ⟨rfl, hge⟩
              · go_wp2_with fail
                refine Calls.mono HIt.out ?_
                rintro e wa ⟨ua, rfl, hua, hga⟩
                have HVa : Hid _ := HVs.out wa ua hga (LiesB.lies _ _ _ hua)
                obtain ⟨aa, ca, rfl, _⟩ := LiesB.slice hua
                clear HIt hua HVs
                go_wp2_with fail
                refine Calls.mono HVa.out ?_
                rintro e wb ⟨rfl, hgb⟩
                have hrb : Below wr.heap.size wr wb := hga.trans (hgb.mono hga.size)
                have HIb : Hid _ := HIl.out wb hrb
                clear HVa hga hgb HIl
                go_wp2_with fail
                refine Calls.mono HIb.out ?_
                rintro e wc ⟨uc, rfl, huc, hgc⟩
                have hrc : Below wr.heap.size wr wc := hrb.trans (hgc.mono hrb.size)
                have HVc : Hid _ := HVl.out wc uc hrc (LiesB.lies _ _ _ huc)
                obtain ⟨ac, cc, rfl, _⟩ := LiesB.slice huc
                clear HIb huc hgc hrb HVl
                go_wp2_with fail
                refine Calls.mono HVc.out ?_
                rintro e wd ⟨rfl, hgd⟩
                have hrd : Below wr.heap.size wr wd := hrc.trans (hgd.mono hrc.size)
                have HEnd : Hid (Calls Try.prog 6 #[] wd fun e w' => e = .returned (.bool true) ∧ Below w.heap.size w w') := Calls.mono (HSp.out wd) (fun e w' h => ⟨h.1, (HBr.out.trans (hrd.mono HBr.out.size)).trans (h.2.mono (HBr.out.trans (hrd.mono HBr.out.size)).size)⟩)
                clear HVc hgd hrc hrd
                go_wp2_with fail
                refine Calls.mono HEnd.out ?_
                rintro e we ⟨rfl, hge⟩
                go_wp2_with fail
                go_ret
                exact ⟨rfl, hge⟩
        · go_wp2_with fail
          refine Calls.mono HSl.out ?_
          rintro e w4 ⟨rfl, hg4, hn4, hv4, ts4⟩
          have HB4 : Hid (Below w.heap.size w w4) := HB.out.trans hg4
          have HV4 : Hid (VV w4 l (.pointer (some ⟨v0, 0, none⟩))) := HV.out.np hn4
          have HM4 : Hid (VV w4 M (.pointer (some ⟨v', 0, none⟩))) := hv4
          have TS4 : Hid (Shut13 w4 (.pointer (some ⟨b, 0, none⟩))) := ts4.shut
          have HIt : Hid _ := items_any _ _ w4 hv4.vc hv4.len hv4.right
          clear HSl hg4 hn4 hv4 ts4 T HV HB
          go_wp2_with fail
          refine Calls.mono HIt.out ?_
          rintro e w5 ⟨u5, rfl, hu5, hg5⟩
          have HB5 : Hid (Below w.heap.size w w5) := HB4.out.trans (hg5.mono HB4.out.size)
          have HV5 : Hid (VV w5 l (.pointer (some ⟨v0, 0, none⟩))) := HV4.out.keeps hg5
          have HM5 : Hid (VV w5 M (.pointer (some ⟨v', 0, none⟩))) := HM4.out.keeps hg5
          have TS5 : Hid (Shut13 w5 (.pointer (some ⟨b, 0, none⟩))) := TS4.out.keeps hg5
          have HU5 : Hid (Lies 17 w5 M u5) := LiesB.lies _ _ _ hu5
          obtain ⟨a5, c5, rfl, _⟩ := Lies.slice HU5.out
          clear HIt hg5 hu5 HB4 HV4 HM4 TS4
          go_wp2_with fail
          go_loopg [12] 101 (fun z vi wr => ∃ (j : Nat), vi = .int .i64 (j : Int) ∧ j ≤ 100 ∧ z = 101 - j ∧ Hid (Below w5.heap.size w5 wr))
          case atStart => exact ⟨0, rfl, by omega, rfl, Below.refl _ _⟩
          case round =>
            obtain ⟨j2, rfl, hj2', hz2, HR⟩ := hrel
            have Hz2 : Hid _ := hz2
            clear hz2
            have HBr : Hid (Below w.heap.size w wr) := HB5.out.trans (HR.out.mono HB5.out.size)
            by_cases hlt2 : j2 < S ∧ j2 < 100
            · have hq1 : (j2 : Int) < (S : Nat) := by omega
              have hq3 : (j2 : Int) < 100 := by omega
              obtain ⟨sb, so, kk, t, x, ax, cx, hsa, _, _, _, hcell⟩ := Hat.out j2 hlt2.1
              subst hsa
              obtain ⟨⟨d0, d1, d2, d3, d4, d5⟩, hbl⟩ := hcell wr HBr.out
              simp only at d0 d1 d2 d3 d4 d5
              obtain ⟨W0, hW0⟩ : ∃ W0, W0 = wr.alloc (.cells #[.int .i64 kk, .int .i64 t, .int .i64 x.kind, .int .i64 x.num, .string x.text, .slice ax x.items.length cx] 35) := ⟨_, rfl⟩
              have hr0 : Below wr.heap.size wr W0 := by rw [hW0]; exact ((Grew.refl wr).alloc _).below
              have h50 : Below w5.heap.size w5 W0 := HR.out.trans (hr0.mono HR.out.size)
              have B0 : Hid (Bx6 W0 wr.heap.size kk t x (.slice ax x.items.length cx)) := by rw [hW0]; exact bx6_alloc _ _ _ _ _ _
              have HNt : Hid _ := shut_nth _ t W0 (TS5.out.keeps h50)
              have HW0 : Hid (W0 = wr.alloc (.cells #[.int .i64 kk, .int .i64 t, .int .i64 x.kind, .int .i64 x.num, .string x.text, .slice ax x.items.length cx] 35)) := hW0
              rw [hW0] at HNt
              clear hW0 hr0 hcell HBr
              go_wp2_with fail
              refine Calls.mono HNt.out ?_
              rintro e wa ⟨rfl, hga⟩
              rw [← HW0.out] at hga
              obtain ⟨Wa, hWa⟩ : ∃ Wa, Wa = wa.alloc (.cells #[.int .i64 0, .int .i64 0, .string ⟨#[]⟩, .slice none 0 0] 33) := ⟨_, rfl⟩
              have hxa : Below wa.heap.size wa Wa := by rw [hWa]; exact below_box4 wa
              have hga' : Below W0.heap.size W0 Wa := hga.trans (hxa.mono hga.size)
              have h5a : Below w5.heap.size w5 Wa := h50.trans (hga'.mono h50.size)
              have Ba : Hid (Bx6 Wa wr.heap.size kk t x (.slice ax x.items.length cx)) := B0.out.keeps hga'
              have HPo : Hid _ := shut_pop _ Wa (TS5.out.keeps h5a)
              have HWa : Hid (Wa = wa.alloc (.cells #[.int .i64 0, .int .i64 0, .string ⟨#[]⟩, .slice none 0 0] 33)) := hWa
              rw [hWa] at HPo
              clear HNt hga hxa hga' B0 hWa h50 d0 d1 d2 d3 d4 d5
              go_wp2_with fail
              refine Calls.mono HPo.out ?_
              rintro e wb ⟨rfl, hgb⟩
              rw [← HWa.out] at hgb
              obtain ⟨Wb, hWb⟩ : ∃ Wb, Wb = wb.alloc (.cells #[.int .i64 0, .int .i64 0, .string ⟨#[]⟩, .slice none 0 0] 33) := ⟨_, rfl⟩
              have hxb : Below wb.heap.size wb Wb := by rw [hWb]; exact below_box4 wb
              have hgb' : Below Wa.heap.size Wa Wb := hgb.trans (hxb.mono hgb.size)
              have h5b : Below w5.heap.size w5 Wb := h5a.trans (hgb'.mono h5a.size)
              have Bb : Hid (Bx6 Wb wr.heap.size kk t x (.slice ax x.items.length cx)) := Ba.out.keeps hgb'
              have HLn : Hid _ := shut_len _ Wb (TS5.out.keeps h5b)
              have HWb : Hid (Wb = wb.alloc (.cells #[.int .i64 0, .int .i64 0, .string ⟨#[]⟩, .slice none 0 0] 33)) := hWb
              rw [hWb] at HLn
              clear HPo hgb hxb hgb' Ba hWb h5a
              go_wp2_with fail
              refine Calls.mono HLn.out ?_
              rintro e wc ⟨rfl, hgc⟩
              rw [← HWb.out] at hgc
              have h5c : Below w5.heap.size w5 wc := h5b.trans (hgc.mono h5b.size)
              have Bc : Hid (Bx6 wc wr.heap.size kk t x (.slice ax x.items.length cx)) := Bb.out.keeps hgc
              have HSe : Hid _ := shut_seal _ wc (TS5.out.keeps h5c)
              clear HLn hgc Bb h5b
              go_wp2_with fail
              refine Calls.mono HSe.out ?_
              rintro e wd ⟨rfl, hgd⟩
              have h5d : Below w5.heap.size w5 wd := h5c.trans (hgd.mono h5c.size)
              obtain ⟨x0, x1, x2, x3, x4, x5⟩ := Bc.out.keeps hgd
              have Bd : Hid (Bx6 wd wr.heap.size kk t x (.slice ax x.items.length cx)) := Bc.out.keeps hgd
              have HSt : Hid _ := shut_set _ t x ax cx wd (TS5.out.keeps h5d)
              clear HSe hgd Bc h5c
              go_wp2_with fail
              refine Calls.mono HSt.out ?_
              rintro e we ⟨rfl, hge⟩
              have h5e : Below w5.heap.size w5 we := h5d.trans (hge.mono h5d.size)
              obtain ⟨y0, y1, y2, y3, y4, y5⟩ := Bd.out.keeps hge
              have HPu : Hid _ := shut_push _ x ax cx we (TS5.out.keeps h5e)
              clear HSt hge Bd x0 x1 x2 x3 x4 x5 h5d
              go_wp2_with fail
              refine Calls.mono HPu.out ?_
              rintro e wf ⟨rfl, hgf⟩
              have H5f : Hid (Below w5.heap.size w5 wf) := h5e.trans (hgf.mono h5e.size)
              clear HPu hgf y0 y1 y2 y3 y4 y5 h5e
              go_wp2_with fail
              go_roundg (101 - (j2 + 1))
              case measure => have := Hz2.out; omega
              case rel => exact ⟨j2 + 1, by go_num, by omega, rfl, H5f⟩
            · have HIt : Hid _ := items_any _ _ wr (HM5.out.keeps HR.out).vc HM5.out.len HM5.out.right
              have hex2 : ((j2 : Int) < (S : Nat) ∧ ¬ (j2 : Int) < 100) ∨ ¬ (j2 : Int) < (S : Nat) := by omega
              have HVs : Hid (∀ V u, Below wr.heap.size wr V → Lies 17 V M u → Calls Try.prog 15 #[u, .slice a5 M.length c5] V fun e w' => e = .returned (.bool true) ∧ Below V.heap.size V w') := fun V u hV hu => values_one 16 M u _ V hu (Lies.keeps hV _ _ _ (Lies.keeps HR.out _ _ _ HU5.out)) HM5.out.len
              have HIl : Hid (∀ V, Below wr.heap.size wr V → Calls Try.prog 10 #[.pointer (some ⟨v0, 0, none⟩)] V (ItemsPost l V)) := fun V hV => items_any l _ V ((HV5.out.keeps HR.out).keeps hV).vc HV5.out.len HV5.out.right
              have HVl : Hid (∀ V u, Below wr.heap.size wr V → Lies 17 V l u → Calls Try.prog 15 #[u, .slice al l.length cl] V fun e w' => e = .returned (.bool true) ∧ Below V.heap.size V w') := fun V u hV hu => values_one 16 l u _ V hu (Lies.keeps (HBr.out.trans (hV.mono HBr.out.size)) _ _ _ HL.out) HV5.out.len
              clear hlt2
              rcases hex2 with ⟨hq1, hq3⟩ | hq1
              · go_wp2_with fail
                refine Calls.mono HIt.out ?_
                rintro e wa ⟨ua, rfl, hua, hga⟩
                have HVa : Hid _ := HVs.out wa ua hga (LiesB.lies _ _ _ hua)
                obtain ⟨aa, ca, rfl, _⟩ := LiesB.slice hua
                clear HIt hua HVs
                go_wp2_with fail
                refine Calls.mono HVa.out ?_
                rintro e wb ⟨rfl, hgb⟩
                have hrb : Below wr.heap.size wr wb := hga.trans (hgb.mono hga.size)
                have HIb : Hid _ := HIl.out wb hrb
                clear HVa hga hgb HIl
                go_wp2_with fail
                refine Calls.mono HIb.out ?_
                rintro e wc ⟨uc, rfl, huc, hgc⟩
                have hrc : Below wr.heap.size wr wc := hrb.trans (hgc.mono hrb.size)
                have HVc : Hid _ := HVl.out wc uc hrc (LiesB.lies _ _ _ huc)
                obtain ⟨ac, cc, rfl, _⟩ := LiesB.slice huc
                clear HIb huc hgc hrb HVl
                go_wp2_with fail
                refine Calls.mono HVc.out ?_
                rintro e wd ⟨rfl, hgd⟩
                have hrd : Below wr.heap.size wr wd := hrc.trans (hgd.mono hrc.size)
                have HEnd : Hid (Calls Try.prog 6 #[] wd fun e w' => e = .returned (.bool true) ∧ Below w.heap.size w w') := Calls.mono (HSp.out wd) (fun e w' h => ⟨h.1, (HBr.out.trans (hrd.mono HBr.out.size)).trans (h.2.mono (HBr.out.trans (hrd.mono HBr.out.size)).size)⟩)
                clear HVc hgd hrc hrd
                go_wp2_with fail
                refine Calls.mono HEnd.out ?_
                rintro e we ⟨rfl, hge⟩
                go_wp2_with fail
                go_ret
                exact ⟨rfl, hge⟩
              · go_wp2_with fail
                refine Calls.mono HIt.out ?_
                rintro e wa ⟨ua, rfl, hua, hga⟩
                have HVa : Hid _ := HVs.out wa ua hga (LiesB.lies _ _ _ hua)
                obtain ⟨aa, ca, rfl, _⟩ := LiesB.slice hua
                clear HIt hua HVs
                go_wp2_with fail
                refine Calls.mono HVa.out ?_
                rintro e wb ⟨rfl, hgb⟩
                have hrb : Below wr.heap.size wr wb := hga.trans (hgb.mono hga.size)
                have HIb : Hid _ := HIl.out wb hrb
                clear HVa hga hgb HIl
                go_wp2_with fail
                refine Calls.mono HIb.out ?_
                rintro e wc ⟨uc, rfl, huc, hgc⟩
                have hrc : Below wr.heap.size wr wc := hrb.trans (hgc.mono hrb.size)
                have HVc : Hid _ := HVl.out wc uc hrc (LiesB.lies _ _ _ huc)
                obtain ⟨ac, cc, rfl, _⟩ := LiesB.slice huc
                clear HIb huc hgc hrb HVl
                go_wp2_with fail
                refine Calls.mono HVc.out ?_
                rintro e wd ⟨rfl, hgd⟩
                have hrd : Below wr.heap.size wr wd := hrc.trans (hgd.mono hrc.size)
                have HEnd : Hid (Calls Try.prog 6 #[] wd fun e w' => e = .returned (.bool true) ∧ Below w.heap.size w w') := Calls.mono (HSp.out wd) (fun e w' h => ⟨h.1, (HBr.out.trans (hrd.mono HBr.out.size)).trans (h.2.mono (HBr.out.trans (hrd.mono HBr.out.size)).size)⟩)
                clear HVc hgd hrc hrd
                go_wp2_with fail
                refine Calls.mono HEnd.out ?_
                rintro e we ⟨rfl, hge⟩
                go_wp2_with fail
                go_ret
                exact ⟨rfl, hge⟩
  · have hk0 : ¬ ((k : Nat) : Int) = 0 := by omega
    have HEnd : Hid (Calls Try.prog 6 #[] w1 fun e w' => e = .returned (.bool true) ∧ Below w.heap.size w w') := Calls.mono (HSp.out w1) (fun e w' h => ⟨h.1, hb1.trans (h.2.mono hb1.size)⟩)
    clear HO hk
    go_wp2_with fail
    refine Calls.mono HEnd.out ?_
    rintro e wd ⟨rfl, hgd⟩
    go_wp2_with fail
    go_ret
    exact ⟨rfl, hgd⟩

end Go.Proofs.Ytekoaiehhjgfiaa

