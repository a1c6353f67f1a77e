/-
  The walk of OrderPlaces.
-/
import Derived.Test.YtacnfmamjbmhcabGreatRIn
import Derived.Test.YtacnfmamjbmhcabGreatAgainQ
namespace Go.Proofs.YtacnfmamjbmhcabGreat
open Go.RowKit Go.Shelf

set_option maxRecDepth 100000 in
set_option maxHeartbeats 8000000 in
theorem rplace_core (d : Nat) (o : Int) (l : List VT) (u : Value) (t : VT) (v : Value) (w : World) (hu : Lies (d + 1) w l u) (hx : Lies d w t.items v)
    (E Kz : Int) (F : Bool) (h1 : Hid (lookE d o l ≠ 0 → E = lookE d o l ∧ Kz = 0 ∧ F = false)) (h2 : Hid (lookE d o l = 0 → rightV d t = false → E = 3 ∧ Kz = 0 ∧ F = false)) (h3 : Hid (lookE d o l = 0 → rightV d t = true → upB (ordV o.toNat) l = false → E = 1 ∧ Kz = 0 ∧ F = false))
    (h4 : Hid (lookE d o l = 0 → rightV d t = true → upB (ordV o.toNat) l = true → E = 0 ∧ Kz = aheadN o.toNat l t ∧ F = foundB o.toNat l t)) :
    Calls Tryz.prog 16 #[.int .i64 o, u, .agg #[.int .i64 t.kind, .int .i64 t.num, .string t.text, v]] w fun e w' => e = .returned (.tuple #[.int .i64 Kz, .bool F, .int .i64 E]) ∧ Below w.heap.size w w' := by
  have Hgood : Hid (lookE d o l = 0 → (0 ≤ o ∧ o < 6) ∧ l.length ≤ 65536 ∧ Lies 17 w l u ∧ ∀ x ∈ l, Good 16 x) := fun h => by
    have h0 := (lookE_pos h).2
    have g := good_of hu h0
    exact ⟨(lookE_pos h).1, (listErr_zero6 h0).1, Lies.lower 17 (d + 1) l u hu (fun e => by cases e) (fun x hx => (g x hx).2), g⟩
  obtain ⟨aa, ca, rfl, _⟩ := Lies.slice hu
  obtain ⟨ay, cy, rfl, _⟩ := Lies.slice hx
  have HU : Hid (Lies (d + 1) w l (.slice aa l.length ca)) := hu
  have HX0 : Hid (Lies d w t.items (.slice ay t.items.length cy)) := hx
  clear hu hx
  have hb0 : Below w.heap.size w (w.alloc (.cells #[.int .i64 t.kind, .int .i64 t.num, .string t.text, .slice ay t.items.length cy] 33)) := ((Grew.refl w).alloc _).below
  have HB0 : Hid (Boxed (w.alloc (.cells #[.int .i64 t.kind, .int .i64 t.num, .string t.text, .slice ay t.items.length cy] 33)) w.heap.size t.kind t.num t.text (.slice ay t.items.length cy)) := boxed_alloc w _ _ _ _ _
  go_enter Tryz.func16, Tryz.ntmps16
  go_wp2_with fail
  refine (rfit_any d o l _ _ (Lies.keeps hb0 _ _ _ HU.out)).mono ?_
  rintro e w1 ⟨rfl, hb⟩
  have hb1 : Below w.heap.size w w1 := hb0.trans (hb.mono hb0.size)
  have HB1 : Hid (Boxed w1 w.heap.size t.kind t.num t.text (.slice ay t.items.length cy)) := HB0.out.keeps hb
  clear hb hb0 HB0
  by_cases h0 : lookE d o l = 0
  · obtain ⟨ho, hlen, hL17, hgd⟩ := Hgood.out h0
    have HL : Hid (Lies 17 w l (.slice aa l.length ca)) := hL17
    have HG : Hid (∀ x ∈ l, rightV 16 x = true) := fun x hx => (hgd x hx).1
    have HGG : Hid (∀ x ∈ l, Good 16 x) := hgd
    obtain ⟨q, rfl⟩ : ∃ q : Nat, o = q := ⟨o.toNat, by omega⟩
    have hq : q < 6 := by omega
    have Hq1 : Hid ((q : Int).toNat = q) := by show _ = _; simp
    have H2 : Hid (rightV d t = false → E = 3 ∧ Kz = 0 ∧ F = false) := h2.out h0
    have H3 : Hid (rightV d t = true → upB (ordV q) l = false → E = 1 ∧ Kz = 0 ∧ F = false) := fun k1 k2 => h3.out h0 k1 (by rw [Hq1.out]; exact k2)
    have H4 : Hid (rightV d t = true → upB (ordV q) l = true → E = 0 ∧ Kz = aheadN q l t ∧ F = foundB q l t) := fun k1 k2 => by
      have := h4.out h0 k1 (by rw [Hq1.out]; exact k2)
      rwa [Hq1.out] at this
    rw [h0]
    clear h0 h1 h2 h3 h4 Hgood hL17 hgd ho HU Hq1
    obtain ⟨x0, x1, x2, x3⟩ := HB1.out
    go_wp2_with fail
    refine (right_any d t _ _ (Lies.keeps hb1 _ _ _ HX0.out)).mono ?_
    rintro e w2 ⟨rfl, hb⟩
    have hb2 : Below w.heap.size w w2 := hb1.trans (hb.mono hb1.size)
    have HB2 : Hid (Boxed w2 w.heap.size t.kind t.num t.text (.slice ay t.items.length cy)) := HB1.out.keeps hb
    clear hb hb1 HB1 x0 x1 x2 x3
    cases hr : rightV d t
    · obtain ⟨hE, hK, hF⟩ := H2.out hr
      subst hE hK hF
      clear H2 H3 H4
      go_wp2_with fail
      exact bodyPost_ret (v := .tuple #[.int .i64 0, .bool false, .int .i64 3]) (by simp [results, Tryz.results16, go_sem]) rfl ⟨rfl, hb2⟩
    · have hcn := canon HX0.out hr
      have hdp := Dp.of_lies 16 w t _ hcn.1
      have HT : Hid (Lies 16 w t.items (.slice ay t.items.length cy) ∧ rightV 16 t = true) := hcn
      have HTG : Hid (Good 16 t) := ⟨hcn.2, hdp⟩
      have H3' : Hid (upB (ordV q) l = false → E = 1 ∧ Kz = 0 ∧ F = false) := H3.out hr
      have H4' : Hid (upB (ordV q) l = true → E = 0 ∧ Kz = aheadN q l t ∧ F = foundB q l t) := H4.out hr
      clear hcn hdp H2 H3 H4 hr HX0
      go_wp2_with fail
      refine (rin_any q hq l _ _ (Lies.keeps hb2 _ _ _ HL.out) HG.out hlen).mono ?_
      rintro e w3 ⟨rfl, hb⟩
      have hb3 : Below w.heap.size w w3 := hb2.trans (hb.mono hb2.size)
      have HB3 : Hid (Boxed w3 w.heap.size t.kind t.num t.text (.slice ay t.items.length cy)) := HB2.out.keeps hb
      clear hb hb2 HB2
      cases hup : upB (ordV q) l
      · obtain ⟨hE, hK, hF⟩ := H3'.out hup
        subst hE hK hF
        clear H3' H4'
        go_wp2_with fail
        exact bodyPost_ret (v := .tuple #[.int .i64 0, .bool false, .int .i64 1]) (by simp [results, Tryz.results16, go_sem]) rfl ⟨rfl, hb3⟩
      · obtain ⟨hE, hK, hF⟩ := H4'.out hup
        have HK : Hid (∀ k, k ≤ l.length → (∀ j (hj : j < l.length), j < k → ordV q l[j] t < 0) → (∀ (hj : k < l.length), ¬ ordV q l[k] t < 0) → aheadN q l t = k ∧ foundB q l t = match l[k]? with | some x => (cmpV 16 x t == 0) | none => false) := fun k hk k1 k2 => by
          have e := ahead_eq hk k1 k2
          refine ⟨e, ?_⟩
          unfold foundB
          rw [e]
          by_cases hkl : k < l.length
          · rw [List.getElem?_eq_getElem hkl]
            simp only
            have hz := ordV_zero q (HGG.out _ (List.getElem_mem hkl)) HTG.out
            cases hd : (ordV q l[k] t == 0)
            · have : ¬ ordV q l[k] t = 0 := by simpa using hd
              symm; simpa using fun h => this (hz.2 h)
            · have : ordV q l[k] t = 0 := by simpa using hd
              symm; simpa using hz.1 this
          · rw [List.getElem?_eq_none (by omega)]
        have Ho : Hid (∀ (x : VT) (xv tv : Value) (W : World), Lies 16 W x.items xv → Lies 16 W t.items tv → rightV 16 x = true → rightV 16 t = true → Calls Tryz.prog 28 #[.int .i64 q, .agg #[.int .i64 x.kind, .int .i64 x.num, .string x.text, xv], .agg #[.int .i64 t.kind, .int .i64 t.num, .string t.text, tv]] W fun e w' => e = .returned (.int .i64 (ordV q x t)) ∧ Below W.heap.size W w') := fun x xv tv W k1 k2 k3 k4 => rordV_any q hq x t xv tv W k1 k2 k3 k4
        have Hs : Hid (∀ (x : VT) (xv tv : Value) (W : World), Lies 16 W x.items xv → Lies 16 W t.items tv → rightV 16 x = true → rightV 16 t = true → Calls Tryz.prog 35 #[.agg #[.int .i64 x.kind, .int .i64 x.num, .string x.text, xv], .agg #[.int .i64 t.kind, .int .i64 t.num, .string t.text, tv]] W fun e w' => e = .returned (.bool (cmpV 16 x t == 0)) ∧ Below W.heap.size W w') := fun x xv tv W k1 k2 _ _ => rsame_any x t xv tv W k1 k2
        subst hE
        have HKz : Hid (Kz = aheadN q l t) := hK
        have HFz : Hid (F = foundB q l t) := hF
        clear hK hF H3' H4' hup HGG HTG
        generalize ordV q = g at *
        have hr17 := HL.out
        obtain ⟨a', c', hv', _, hr⟩ := hr17
        injection hv' with hv1 _ _
        subst hv1
        have Hr : Hid _ := hr
        clear hr
        go_wp2_with fail
        go_loopg [10] l.length (fun z i wr => ∃ k : Nat, i = .int .i64 (k : Int) ∧ z = l.length - k ∧ k ≤ l.length ∧ Hid (∀ j (hj : j < l.length), j < k → g l[j] t < 0) ∧ Hid (Boxed wr w.heap.size t.kind t.num t.text (.slice ay t.items.length cy)) ∧ Below w.heap.size w wr)
        case atStart => exact ⟨0, rfl, by omega, by omega, fun j hj h => by omega, HB3, hb3⟩
        case round =>
          obtain ⟨k, rfl, hk, hk2, HD, HB, hbw⟩ := hrel
          have Hk : Hid _ := hk
          clear hk hb3 HB3
          by_cases hlt : k < l.length
          · have hki : (k : Int) < (l.length : Nat) := by omega
            obtain ⟨b, o, rfl, hall⟩ := Hr.out (by intro e; simp [e] at hlt)
            have gp := HG.out l[k] (List.getElem_mem hlt)
            have Hyes : Hid (g l[k] t < 0 → ∀ j (hj : j < l.length), j < k + 1 → g l[j] t < 0) := fun h j hj h2 => by
              by_cases e : j < k
              · exact HD.out j hj e
              · have : j = k := by omega
                subst this; exact h
            have Hno : Hid (¬ g l[k] t < 0 → Kz = k ∧ F = (cmpV 16 l[k] t == 0)) := fun h => by
              obtain ⟨e1, e2⟩ := HK.out k hk2 HD.out (fun _ => by omega)
              rw [List.getElem?_eq_getElem hlt] at e2
              exact ⟨by rw [HKz.out, e1], by rw [HFz.out, e2]⟩
            clear HD
            obtain ⟨xv, p0, p1, p2, p3, p4, _⟩ := hall k hlt
            obtain ⟨ax, cx, rfl, _⟩ := Lies.slice p4
            clear hall
            generalize l[k] = x at *
            have HX : Hid (Lies 16 w x.items (.slice ax x.items.length cx) ∧ rightV 16 x = true) := ⟨p4, gp⟩
            clear p4 gp
            have p0 := cell_keeps hbw p0; have p1 := cell_keeps hbw p1; have p2 := cell_keeps hbw p2; have p3 := cell_keeps hbw p3
            obtain ⟨r0, r1, r2, r3⟩ := HB.out
            have hwl := hbw.size
            go_wp2_with fail
            go_region_held3 (fun w' => w'.cell? ⟨b, o + k * 4, none⟩ = some (.int .i64 x.kind) ∧ w'.cell? ⟨b, o + k * 4 + 1, none⟩ = some (.int .i64 x.num) ∧ w'.cell? ⟨b, o + k * 4 + 2, none⟩ = some (.string x.text) ∧ w'.cell? ⟨b, o + k * 4 + 3, none⟩ = some (.slice ax x.items.length cx) ∧ w'.cell? ⟨w.heap.size, 0, none⟩ = some (.int .i64 t.kind) ∧ w'.cell? ⟨w.heap.size, 1, none⟩ = some (.int .i64 t.num) ∧ w'.cell? ⟨w.heap.size, 2, none⟩ = some (.string t.text) ∧ w'.cell? ⟨w.heap.size, 3, none⟩ = some (.slice ay t.items.length cy)) (go_keep)
              (first | (go_at_call 28; refine (Ho.out x _ _ _ (Lies.keeps hbw.drew _ _ _ HX.out.1) (Lies.keeps hbw.drew _ _ _ HT.out.1) HX.out.2 HT.out.2).mono ?_; rintro e w1 ⟨rfl, hg1⟩; have hb1' : Below wr.heap.size wr w1 := (Below.refl _ _).drew.trans hg1; have hb1 : Below w.heap.size w w1 := hbw.trans (hb1'.mono hwl); have HB1 : Hid (Boxed w1 w.heap.size t.kind t.num t.text (.slice ay t.items.length cy)) := HB.out.keeps hb1'; clear hg1; have p0 := cell_keeps hb1' p0; have p1 := cell_keeps hb1' p1; have p2 := cell_keeps hb1' p2; have p3 := cell_keeps hb1' p3; have r0 := cell_keeps hb1' r0; have r1 := cell_keeps hb1' r1; have r2 := cell_keeps hb1' r2; have r3 := cell_keeps hb1' r3; have HP1 : Hid (w1.cell? ⟨b, o + k * 4, none⟩ = some (.int .i64 x.kind) ∧ w1.cell? ⟨b, o + k * 4 + 1, none⟩ = some (.int .i64 x.num) ∧ w1.cell? ⟨b, o + k * 4 + 2, none⟩ = some (.string x.text) ∧ w1.cell? ⟨b, o + k * 4 + 3, none⟩ = some (.slice ax x.items.length cx)) := ⟨p0, p1, p2, p3⟩))
            clear p0 p1 p2 p3 r0 r1 r2 r3 hb1' HB
            by_cases hz : g x t < 0
            · have HD2 : Hid _ := Hyes.out hz
              clear Hyes Hno
              generalize g x t = Z at *
              go_wp2_with fail
              go_roundg (l.length - (k + 1))
              case measure => have := Hk.out; omega
              case rel => exact ⟨k + 1, by go_num, rfl, by omega, HD2, HB1, hb1⟩
            · obtain ⟨hKk, hFk⟩ := Hno.out (by omega)
              have HFk : Hid (F = (cmpV 16 x t == 0)) := hFk
              clear Hyes Hno hFk
              subst hKk
              have HK2 : Hid True := trivial
              generalize g x t = Z at *
              obtain ⟨xv2, p0, p1, p2, p3⟩ : ∃ z : Unit, w1.cell? ⟨b, o + k * 4, none⟩ = some (.int .i64 x.kind) ∧ w1.cell? ⟨b, o + k * 4 + 1, none⟩ = some (.int .i64 x.num) ∧ w1.cell? ⟨b, o + k * 4 + 2, none⟩ = some (.string x.text) ∧ w1.cell? ⟨b, o + k * 4 + 3, none⟩ = some (.slice ax x.items.length cx) := ⟨(), HP1.out⟩
              go_wp2_with fail
              obtain ⟨r0, r1, r2, r3⟩ := HB1.out
              have hwl1 := hb1.size
              go_region_held3 (fun w' => w'.cell? ⟨b, o + k * 4, none⟩ = some (.int .i64 x.kind) ∧ w'.cell? ⟨b, o + k * 4 + 1, none⟩ = some (.int .i64 x.num) ∧ w'.cell? ⟨b, o + k * 4 + 2, none⟩ = some (.string x.text) ∧ w'.cell? ⟨b, o + k * 4 + 3, none⟩ = some (.slice ax x.items.length cx) ∧ w'.cell? ⟨w.heap.size, 0, none⟩ = some (.int .i64 t.kind) ∧ w'.cell? ⟨w.heap.size, 1, none⟩ = some (.int .i64 t.num) ∧ w'.cell? ⟨w.heap.size, 2, none⟩ = some (.string t.text) ∧ w'.cell? ⟨w.heap.size, 3, none⟩ = some (.slice ay t.items.length cy)) (go_keep)
                (first | (go_at_call 35; refine (Hs.out x _ _ _ (Lies.keeps hb1.drew _ _ _ HX.out.1) (Lies.keeps hb1.drew _ _ _ HT.out.1) HX.out.2 HT.out.2).mono ?_; rintro e w4 ⟨rfl, hg1⟩; have hb4' : Below w1.heap.size w1 w4 := (Below.refl _ _).drew.trans hg1; have hb4 : Below w.heap.size w w4 := hb1.trans (hb4'.mono hwl1); clear hg1; have p0 := cell_keeps hb4' p0; have p1 := cell_keeps hb4' p1; have p2 := cell_keeps hb4' p2; have p3 := cell_keeps hb4' p3; have r0 := cell_keeps hb4' r0; have r1 := cell_keeps hb4' r1; have r2 := cell_keeps hb4' r2; have r3 := cell_keeps hb4' r3))
              clear p0 p1 p2 p3 r0 r1 r2 r3 hb4'
              rw [← HFk.out]
              go_wp2_with fail
              exact bodyPost_ret (v := .tuple #[.int .i64 k, .bool F, .int .i64 0]) (by simp [results, Tryz.results16, go_sem]) rfl ⟨rfl, hb4⟩
          · have hki : ¬ (k : Int) < (l.length : Nat) := by omega
            have hkl : k = l.length := by omega
            obtain ⟨e1, e2⟩ := HK.out k hk2 HD.out (fun h => absurd h hlt)
            rw [List.getElem?_eq_none (by omega)] at e2
            have hKk : Kz = k := by rw [HKz.out, e1]
            have hFk : F = false := by rw [HFz.out, e2]
            clear HD HK HKz HFz hkl e1 e2
            subst hKk hFk
            go_wp2_with fail
            go_region
            go_wp2_with fail
            go_region
            go_wp2_with fail
            exact bodyPost_ret (v := .tuple #[.int .i64 k, .bool false, .int .i64 0]) (by simp [results, Tryz.results16, go_sem]) rfl ⟨rfl, hbw.drew.drew⟩
  · obtain ⟨hE, hK, hF⟩ := h1.out h0
    have h0' : ¬ E = 0 := by rw [hE]; exact h0
    rw [← hE]
    clear h0 hE h1 h2 h3 h4 Hgood
    subst hK hF
    go_wp2_with fail
    exact bodyPost_ret (v := .tuple #[.int .i64 0, .bool false, .int .i64 E]) (by simp [results, Tryz.results16, go_sem]) rfl ⟨rfl, hb1⟩

end Go.Proofs.YtacnfmamjbmhcabGreat

namespace Go.Proofs.YtacnfmamjbmhcabGreat
open Go.RowKit Go.Shelf

theorem rplace_any (d : Nat) (o : Int) (l : List VT) (u : Value) (t : VT) (x : Value) (w : World) (hu : Lies (d + 1) w l u) (hx : Lies d w t.items x) :
    Calls Tryz.prog 16 #[.int .i64 o, u, .agg #[.int .i64 t.kind, .int .i64 t.num, .string t.text, x]] w fun e w' => e = .returned (.tuple #[.int .i64 (placeK d o l t), .bool (placeF d o l t), .int .i64 (placeE d o l t)]) ∧ Below w.heap.size w w' := by
  refine rplace_core d o l u t x w hu hx _ _ _ (fun h => ?_) (fun h hr => ?_) (fun h hr hup => ?_) (fun h hr hup => ?_)
  · have e : placeE d o l t = lookE d o l := by unfold placeE; rw [if_pos h]
    exact ⟨e, by unfold placeK; rw [if_neg (by rw [e]; exact h)], by unfold placeF; rw [if_neg (by rw [e]; exact h)]⟩
  · have e : placeE d o l t = 3 := by unfold placeE; rw [if_neg (fun k => k h), hr]; rfl
    exact ⟨e, by unfold placeK; rw [if_neg (by omega)], by unfold placeF; rw [if_neg (by omega)]⟩
  · have e : placeE d o l t = 1 := by unfold placeE; rw [if_neg (fun k => k h), if_pos hr, hup]; rfl
    exact ⟨e, by unfold placeK; rw [if_neg (by omega)], by unfold placeF; rw [if_neg (by omega)]⟩
  · have e : placeE d o l t = 0 := by unfold placeE; rw [if_neg (fun k => k h), if_pos hr, if_pos hup]
    exact ⟨e, by unfold placeK; rw [if_pos e], by unfold placeF; rw [if_pos e]⟩

set_option maxHeartbeats 2000000 in
theorem placeLaw_core (o : Int) (a : Option Addr) (n c : Nat) (t : VT) (ax : Option Addr) (lx cx : Nat) (w : World) (K E : Int) (F : Bool)
    (H1 : Hid (∀ W, Below w.heap.size w W → Calls Tryz.prog 15 #[.int .i64 o, .slice a n c, .agg #[.int .i64 t.kind, .int .i64 t.num, .string t.text, .slice ax lx cx]] W fun e W' => e = .returned (.tuple #[.int .i64 K, .bool F, .int .i64 E]) ∧ Below W.heap.size W W'))
    (H2 : Hid (∀ W, Below w.heap.size w W → Calls Tryz.prog 16 #[.int .i64 o, .slice a n c, .agg #[.int .i64 t.kind, .int .i64 t.num, .string t.text, .slice ax lx cx]] W fun e W' => e = .returned (.tuple #[.int .i64 K, .bool F, .int .i64 E]) ∧ Below W.heap.size W W')) :
    Calls Tryz.prog 4 #[.int .i64 o, .slice a n c, .agg #[.int .i64 t.kind, .int .i64 t.num, .string t.text, .slice ax lx cx]] w fun e w' => e = .returned (.bool true) ∧ Below w.heap.size w w' := by
  have hsp : Hid (∀ w, Calls Tryz.prog 14 #[] w fun e w' => e = .returned (.bool true) ∧ Below w.heap.size w w') := speaks_any
  have HBx : Hid (Boxed (w.alloc (.cells #[.int .i64 t.kind, .int .i64 t.num, .string t.text, .slice ax lx cx] 33)) w.heap.size t.kind t.num t.text (.slice ax lx cx)) := boxed_alloc w _ _ _ _ _
  have hb0 : Below w.heap.size w (w.alloc (.cells #[.int .i64 t.kind, .int .i64 t.num, .string t.text, .slice ax lx cx] 33)) := ((Grew.refl w).alloc _).below
  go_enter Tryz.func4, Tryz.ntmps4
  go_wp2_with fail
  refine (H1.out _ hb0).mono ?_
  rintro e w1 ⟨rfl, hb⟩
  have hb1 : Below w.heap.size w w1 := hb0.trans (hb.mono hb0.size)
  obtain ⟨x0, x1, x2, x3⟩ := HBx.out.keeps hb
  clear hb HBx hb0
  go_wp2_with fail
  refine (H2.out _ hb1).mono ?_
  rintro e w2 ⟨rfl, hb⟩
  have hb2 : Below w.heap.size w w2 := hb1.trans (hb.mono hb1.size)
  clear hb x0 x1 x2 x3
  have hF : (F == F) = true := by simp
  go_wp2_with fail
  refine (hsp.out _).mono ?_
  rintro e w3 ⟨rfl, hb⟩
  have hb3 : Below w.heap.size w w3 := hb2.trans (hb.mono hb2.size)
  clear hb
  go_wp2_with fail
  go_ret
  exact ⟨rfl, hb3⟩

theorem placeLaw_walk (o : Int) (n k : Nat) (l : List VT) (t : VT) (u x : Value) (w : World) (hu : Lies (n + 1) w l u) (hx : Lies k w t.items x) (ht : t.text.size ≤ 9223372036854775807) :
    Calls Tryz.prog 4 #[.int .i64 o, u, .agg #[.int .i64 t.kind, .int .i64 t.num, .string t.text, x]] w fun e w' => e = .returned (.bool true) ∧ Below w.heap.size w w' := by
  have hu2 := hu.atLeast (max n k + 1) (by omega)
  have hx2 := hx.atLeast (max n k) (by omega)
  obtain ⟨a, c, rfl, _⟩ := Lies.slice hu
  obtain ⟨ax, cx, rfl, _⟩ := Lies.slice hx
  exact placeLaw_core o a _ c t ax _ cx w _ _ _ (fun W hW => place_any (max n k) o l _ t _ W (Lies.keeps hW _ _ _ hu2) (Lies.keeps hW _ _ _ hx2) ht) (fun W hW => rplace_any (max n k) o l _ t _ W (Lies.keeps hW _ _ _ hu2) (Lies.keeps hW _ _ _ hx2))

end Go.Proofs.YtacnfmamjbmhcabGreat

