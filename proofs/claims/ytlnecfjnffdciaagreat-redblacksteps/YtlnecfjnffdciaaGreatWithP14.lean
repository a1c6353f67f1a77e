import Derived.Test.YtlnecfjnffdciaaGreatMapO
namespace Go.Proofs.YtlnecfjnffdciaaGreat
open Go.RowKit Go.Shelf

def assocE (d q : Nat) (k v : VT) (t : RT PT) : Int := if rightV d k = false then 3 else if rightV d v = false then 3 else if RT.find (atK q k) t = none ∧ t.size = 65536 then 2 else 0

theorem with_len (g : PT → Int) (x : PT) (t : RT PT) (h : RT.Falls g t.items) : (RT.with_ g x t).size ≤ t.size + 1 ∧ ((∃ y ∈ t.items, g y = 0) → (RT.with_ g x t).size ≤ t.size) := by
 have e := RT.with_items g x t h
 have f := RT.falls_parts g t.items h
 have l1 := congrArg List.length e
 have l2 := congrArg List.length f
 rw [RT.size_items, RT.size_items]
 simp only [List.length_append, List.length_cons] at l1 l2
 refine ⟨by omega, fun ⟨y, hy, hg⟩ => ?_⟩
 have : 0 < (t.items.filter (fun a => decide (g a = 0))).length := List.length_pos_of_mem (List.mem_filter.2 ⟨hy, decide_eq_true hg⟩)
 omega

theorem with_same {q : Nat} {t : RT PT} (hs : RT.Rises (byK q) t.items) {x : PT} (hx : x ∈ t.items) : (RT.with_ (byK q x) x t).items = t.items := by
 refine RT.rises_eq (byK_cmp q) _ _ (RT.with_rises (byK_cmp q) hs x) hs fun y => ?_
 rw [RT.mem_with (byK_cmp q) hs x y]
 refine ⟨fun h => ?_, fun h => ?_⟩
 ·rcases h with rfl | h
  ·exact hx
  ·exact h.1
 ·by_cases h0 : byK q x y = 0
  ·refine .inl ?_
   obtain ⟨i, hi, rfl⟩ := List.getElem_of_mem hx
   obtain ⟨j, hj, rfl⟩ := List.getElem_of_mem h
   have hpw := List.pairwise_iff_getElem.1 hs
   rcases Nat.lt_trichotomy i j with hlt | heq | hgt
   ·have := hpw i j hi hj hlt; omega
   ·subst heq; rfl
   ·have h9 := hpw j i hj hi hgt
    have h8 : ordV q (t.items[j]).1 (t.items[i]).1 < 0 := h9
    have h7 : ordV q (t.items[i]).1 (t.items[j]).1 = 0 := h0
    have := ordV_turn q (t.items[j]).1 (t.items[i]).1
    omega
  ·exact .inr ⟨h, h0⟩

set_option maxRecDepth 100000 in
set_option maxHeartbeats 16000000 in
theorem assoc_14 (d b q : Nat) (t : RT PT) (k v : VT) (ku vu : Value) (w : World) (hm : MC w q t b) (hk : Lies d w k.items ku) (ht : k.text.size ≤ 9223372036854775807) (hv : Lies d w v.items vu) (htv : v.text.size ≤ 9223372036854775807) :
 Calls Tryz.prog 24 #[.pointer (some ⟨b, 0, none⟩), .agg #[.int .i64 k.kind, .int .i64 k.num, .string k.text, ku], .agg #[.int .i64 v.kind, .int .i64 v.num, .string v.text, vu]] w (OrPost q (RT.with_ (atK q k) (k, v) t).items (assocE d q k v t) w) := by
 obtain ⟨ak, ck, rfl, _⟩ := Lies.slice hk
 obtain ⟨av, cv, rfl, _⟩ := Lies.slice hv
 have hb0 : ∀ A B, Below w.heap.size w ((w.alloc A).alloc B) := fun A B => (((Grew.refl w).alloc A).alloc B).below
 cases hr : rightV d k with
 | false =>
  have HF : Hid (∀ A B, Calls Tryz.prog 61 #[.pointer (some ⟨b, 0, none⟩), .agg #[.int .i64 k.kind, .int .i64 k.num, .string k.text, .slice ak k.items.length ck]] ((w.alloc A).alloc B) fun e w' => e = .returned (.tuple #[.pointer none, .int .i64 3]) ∧ Below ((w.alloc A).alloc B).heap.size ((w.alloc A).alloc B) w') := fun A B => mfind_wrong d b k _ _ (Lies.keeps (hb0 A B) _ _ _ hk) ht hr
  have he : assocE d q k v t = 3 := by unfold assocE; rw [if_pos hr]
  rw [he]
  have HP : Hid (∀ w', Below w.heap.size w w' → OrPost q (RT.with_ (atK q k) (k, v) t).items 3 w (.returned (.tuple #[.pointer none, .int .i64 3])) w') := fun w' h => ⟨h, .inl ⟨by decide, rfl⟩⟩
  have HB : Hid _ := hb0
  clear hk ht hm hb0 hv htv he
  go_enter Tryz.func24, Tryz.ntmps24
  go_wp2_with fail
  refine (own_14 _ _).mono ?_
  rintro e w1 ⟨rfl, rfl⟩
  go_wp2_with fail
  refine (HF.out _ _).mono ?_
  rintro e w2 ⟨rfl, hg⟩
  have HE : Hid (OrPost q (RT.with_ (atK q k) (k, v) t).items 3 w (.returned (.tuple #[.pointer none, .int .i64 3])) w2) := HP.out w2 ((HB.out _ _).trans (hg.mono (HB.out _ _).size))
  clear hg
  go_wp2_with fail
  go_ret2
  exact HE.out
 | true =>
  obtain ⟨h16, hr16⟩ := canon hk hr
  have HF : Hid (∀ A B, Calls Tryz.prog 61 #[.pointer (some ⟨b, 0, none⟩), .agg #[.int .i64 k.kind, .int .i64 k.num, .string k.text, .slice ak k.items.length ck]] ((w.alloc A).alloc B) (MFindPost q t k ((w.alloc A).alloc B))) := fun A B => mfind_right d b q t k _ _ (hm.keeps (hb0 A B)) (Lies.keeps (hb0 A B) _ _ _ hk) ht hr
  have HC : Hid (∀ V, Below w.heap.size w V → Calls Tryz.prog 69 #[.agg #[.int .i64 v.kind, .int .i64 v.num, .string v.text, .slice av v.items.length cv]] V fun e w' => e = .returned (.int .i64 (errOf (rightV d v))) ∧ Below V.heap.size V w') := fun V hV => check_any d v _ V (Lies.keeps hV _ _ _ hv) htv
  have HM : Hid (MC w q t b) := hm
  have HL : Hid (∀ V, Below w.heap.size w V → Calls Tryz.prog 26 #[.pointer (some ⟨b, 0, none⟩)] V fun e w' => e = .returned (.int .i64 (t.size : Nat)) ∧ Below V.heap.size V w') := fun V hV => mlen_14 (hm.keeps hV)
  obtain ⟨po, hpo, hn⟩ := hm.top
  have Hpo : Hid (w.cell? ⟨b, 1, none⟩ = some (.pointer po)) := hpo
  have HA : Hid (∀ V, Below w.heap.size w V → Calls Tryz.prog 67 #[.pointer (some ⟨b, 0, none⟩), .agg #[.int .i64 k.kind, .int .i64 k.num, .string k.text, .slice ak k.items.length ck]] V (AtPost q k V)) := fun V hV => at_14 q b hm.q6 k _ V (cell_keeps hV hm.ord) (Lies.keeps hV _ _ _ h16) ht hr16
  have HW : Hid (∀ V q1 q2 k9 v9, Below w.heap.size w V → AtC TT 16 115 q1 q2 (atK q k) (fun x => rightV 16 x.1 = true) V → LiesX TT 16 V k.items k9 → LiesX TT 16 V v.items v9 → Calls Tryz.prog 72 #[.pointer po, .agg #[.int .i64 k.kind, .int .i64 k.num, .string k.text, k9, .int .i64 v.kind, .int .i64 v.num, .string v.text, v9], .func (.func 115) #[] #[.pointer q1, .pointer q2]] V (TreePost TT 16 (RT.with_ (atK q k) (k, v) t) V)) := fun V q1 q2 k9 v9 hV ha h1 h2 => with_14 TT 16 115 q1 q2 po (atK q k) _ eg_at1 t (k, v) k9 v9 V ha (hn.keeps hV) hm.well (fun x hx => (hm.right x hx).1.1) (by have := hm.size; omega) ⟨h1, ht⟩ ⟨h2, htv⟩
  have hk16 : Good 16 k := ⟨hr16, Dp.of_lies 16 w k _ h16⟩
  have HO : Hid (rightV d v = true → (RT.with_ (atK q k) (k, v) t).size ≤ 65536 → ∀ V p, Below w.heap.size w V → NM TT 16 V (RT.with_ (atK q k) (k, v) t) p → Calls Tryz.prog 65 #[.pointer (some ⟨b, 0, none⟩), .pointer p] V (MapPost14 q (RT.with_ (atK q k) (k, v) t).items V)) := fun hrv hsz V p hV hp => by
   obtain ⟨hv16, hrv16⟩ := canon hv hrv
   exact of_14 b q _ p V (cell_keeps hV hm.ord) hp (RT.with_well _ _ hm.well) hm.q6 (fun x hx => by
    rcases (RT.mem_with (byK_cmp q) hm.rises (k, v) x).1 hx with rfl | ⟨hx, _⟩
    ·exact ⟨hk16, ⟨hrv16, Dp.of_lies 16 w v _ hv16⟩⟩
    ·exact hm.right x hx) (RT.with_rises (byK_cmp q) hm.rises (k, v)) hsz
  have HCp : Hid (rightV d v = true → ∀ V, Below w.heap.size w V → Calls Tryz.prog 71 #[.agg #[.int .i64 k.kind, .int .i64 k.num, .string k.text, .slice ak k.items.length ck, .int .i64 v.kind, .int .i64 v.num, .string v.text, .slice av v.items.length cv]] V (CopiedPost (k, v) V)) := fun hrv V hV => by
   obtain ⟨hv16, hrv16⟩ := canon hv hrv
   exact copied_14 (k, v) _ _ V (Lies.keeps hV _ _ _ h16) (Lies.keeps hV _ _ _ hv16) ⟨hr16, hrv16⟩
  have hwl := with_len (atK q k) (k, v) t (RT.Rises.falls (byK_cmp q) hm.rises (k, v))
  have HS1 : Hid (t.size < 65536 → (RT.with_ (atK q k) (k, v) t).size ≤ 65536) := fun h => by have := hwl.1; omega
  have HS2 : Hid (∀ x, RT.find (atK q k) t = some x → (RT.with_ (atK q k) (k, v) t).size ≤ 65536) := fun x h => by
   have h9 := find_some (v := v) hm.rises h
   have h8 := hwl.2 ⟨x, h9.1, h9.2⟩
   have := hm.size
   omega
  have HQ : Hid (∀ x xv V, Below w.heap.size w V → RT.find (atK q k) t = some x → rightV d v = true → LiesX TT 16 V x.2.items xv → Calls Tryz.prog 70 #[.agg #[.int .i64 x.2.kind, .int .i64 x.2.num, .string x.2.text, xv], .agg #[.int .i64 v.kind, .int .i64 v.num, .string v.text, .slice av v.items.length cv]] V fun e w' => e = .returned (.bool (cmpV 16 x.2 v == 0)) ∧ Grew V w') := fun x xv V hV hx hrv hl => by
   obtain ⟨hv16, hrv16⟩ := canon hv hrv
   exact equal_any 16 x.2 v xv _ V hl.lies (Lies.keeps hV _ _ _ hv16)
  have HEq : Hid (∀ x, RT.find (atK q k) t = some x → rightV d v = true → (cmpV 16 x.2 v == 0) = true → (RT.with_ (atK q k) (k, v) t).items = t.items) := fun x hx hrv hc => by
   obtain ⟨hv16, hrv16⟩ := canon hv hrv
   obtain ⟨h1, h2⟩ := find_some (v := v) hm.rises hx
   have e1 : k = x.1 := ordV_eq q hk16 (hm.right x h1).1 h2
   have e2 : x.2 = v := good_eq (hm.right x h1).2 ⟨hrv16, Dp.of_lies 16 w v _ hv16⟩ (by simpa using hc)
   have e3 : (k, v) = x := by rw [e1, ← e2]
   have h9 := with_same hm.rises h1
   rw [← e3] at h9
   exact h9
  have hszb := hm.size
  have HE0 : Hid (assocE d q k v t = if rightV d v = false then 3 else if RT.find (atK q k) t = none ∧ t.size = 65536 then 2 else 0) := by show _ = _; unfold assocE; rw [if_neg (by rw [hr]; simp)]
  have HB : Hid _ := hb0
  clear hk ht hr hb0 hn h16 hr16 hm hv htv hk16 hwl
  generalize assocE d q k v t = EE at *
  go_enter Tryz.func24, Tryz.ntmps24
  go_wp2_with fail
  obtain ⟨W0, hW0⟩ : ∃ W0, W0 = (w.alloc (.cells #[.int .i64 k.kind, .int .i64 k.num, .string k.text, .slice ak k.items.length ck] 34)).alloc (.cells #[.int .i64 v.kind, .int .i64 v.num, .string v.text, .slice av v.items.length cv] 34) := ⟨_, rfl⟩
  have HCk : Hid _ := HF.out (.cells #[.int .i64 k.kind, .int .i64 k.num, .string k.text, .slice ak k.items.length ck] 34) (.cells #[.int .i64 v.kind, .int .i64 v.num, .string v.text, .slice av v.items.length cv] 34)
  rw [← hW0] at HCk ⊢
  have hb0 : Below w.heap.size w W0 := by rw [hW0]; exact HB.out _ _
  have HK0 : Hid (Bx W0 w.heap.size k (.slice ak k.items.length ck)) := by rw [hW0]; exact (bx_alloc w k _).keeps ((Grew.refl _).alloc _).below
  have HV0 : Hid (Bx W0 (w.heap.size + 1) v (.slice av v.items.length cv)) := by
   rw [hW0]
   have h9 := bx_alloc (w.alloc (.cells #[.int .i64 k.kind, .int .i64 k.num, .string k.text, .slice ak k.items.length ck] 34)) v (.slice av v.items.length cv)
   rwa [World.size_alloc] at h9
  obtain ⟨k0, k1, k2, k3, _⟩ := HK0.out
  obtain ⟨v0, v1, v2, v3, _⟩ := HV0.out
  clear hW0 HF HK0 HV0
  refine (own_14 _ _).mono ?_
  rintro e w1 ⟨rfl, hw⟩
  obtain rfl : W0 = w1 := hw.symm
  go_wp2_with fail
  refine Calls.mono HCk.out ?_
  rintro e w1 ⟨p1, rfl, hf⟩
  have HFp : Hid _ := hf.2
  have hg := hf.1
  have hb1 : Below w.heap.size w w1 := hb0.trans (hg.mono hb0.size)
  have k0 := cell_keeps hg k0; have k1 := cell_keeps hg k1; have k2 := cell_keeps hg k2; have k3 := cell_keeps hg k3; have v0 := cell_keeps hg v0; have v1 := cell_keeps hg v1; have v2 := cell_keeps hg v2; have v3 := cell_keeps hg v3
  clear hf hg HCk hb0
  go_wp2_with fail
  refine Calls.mono (HC.out _ hb1) ?_
  rintro e w2 ⟨rfl, hg⟩
  have hb2 : Below w.heap.size w w2 := hb1.trans (hg.mono hb1.size)
  have k0 := cell_keeps hg k0; have k1 := cell_keeps hg k1; have k2 := cell_keeps hg k2; have k3 := cell_keeps hg k3; have v0 := cell_keeps hg v0; have v1 := cell_keeps hg v1; have v2 := cell_keeps hg v2; have v3 := cell_keeps hg v3
  have Hg2 : Hid (Below w1.heap.size w1 w2) := hg
  clear hg hb1 HC
  cases hrv : rightV d v with
  | false =>
   have he : errOf false = 3 := rfl
   rw [he]
   have HE : Hid (OrPost q (RT.with_ (atK q k) (k, v) t).items EE w (.returned (.tuple #[.pointer none, .int .i64 3])) w2) := by
    have e9 : EE = 3 := by rw [HE0.out, if_pos hrv]
    rw [e9]
    exact ⟨hb2, .inl ⟨by decide, rfl⟩⟩
   clear he HE0
   go_wp2_with fail
   go_ret2
   exact HE.out
  | true =>
   have he : errOf true = 0 := rfl
   rw [he]
   have HCp : Hid _ := HCp.out hrv
   have HO : Hid _ := HO.out hrv
   have HEE : Hid (EE = if RT.find (atK q k) t = none ∧ t.size = 65536 then 2 else 0) := by show _ = _; rw [HE0.out, if_neg (by rw [hrv]; simp)]
   clear he HE0
   rcases HFp.out with ⟨hnone, he⟩ | ⟨x, xb, xl, xr, xk, xv, xc, xs, xh, xn, hsome, he, hcl, hlx⟩
   ·obtain rfl : p1 = none := by injection he with he; injection he
    have Hnone : Hid (RT.find (atK q k) t = none) := hnone
    clear HFp he hnone HQ HEq HS2
    have HL2 : Hid _ := HL.out _ hb2
    obtain ⟨SZ, hSZ⟩ : ∃ SZ, SZ = t.size := ⟨_, rfl⟩
    have HSZ : Hid (SZ = t.size) := hSZ
    rw [← hSZ] at HL2 hszb
    clear hSZ
    go_wp2_with fail
    refine Calls.mono HL2.out ?_
    rintro e w4 ⟨rfl, hg⟩
    have hb4 : Below w.heap.size w w4 := hb2.trans (hg.mono hb2.size)
    have k0 := cell_keeps hg k0; have k1 := cell_keeps hg k1; have k2 := cell_keeps hg k2; have k3 := cell_keeps hg k3; have v0 := cell_keeps hg v0; have v1 := cell_keeps hg v1; have v2 := cell_keeps hg v2; have v3 := cell_keeps hg v3
    clear hg HL HL2
    by_cases hfull : SZ = 65536
    ·have HE : Hid (OrPost q (RT.with_ (atK q k) (k, v) t).items EE w (.returned (.tuple #[.pointer none, .int .i64 2])) w4) := by
      have e9 : EE = 2 := by rw [HEE.out, if_pos ⟨Hnone.out, by rw [← HSZ.out]; exact hfull⟩]
      rw [e9]
      exact ⟨hb4, .inl ⟨by decide, rfl⟩⟩
     have hf1 : (SZ : Int) = 65536 := by omega
     clear hfull
     go_wp2_with fail
     go_ret2
     exact HE.out
    ·have e9 : EE = 0 := by rw [HEE.out, if_neg (fun h => hfull (by rw [HSZ.out]; exact h.2))]
     subst e9
     have hsz : (RT.with_ (atK q k) (k, v) t).size ≤ 65536 := HS1.out (by have := HSZ.out; omega)
     have hf1 : ¬ (SZ : Int) = 65536 := by omega
     have Hsz : Hid (SZ ≠ 65536) := hfull
     clear HEE hfull
     go_wp2_with fail
     go_quiet (fail)
     obtain ⟨w6, hw6⟩ : ∃ w6, w6 = w4.drewN nq := ⟨_, rfl⟩
     have hb4 : Below w.heap.size w w6 := by rw [hw6]; exact hb4.trans ((below_drewN _ _).mono hb4.size)
     have k0 : w6.cell? ⟨w.heap.size, 0, none⟩ = some (.int .i64 k.kind) := by rw [hw6]; exact k0
     have k1 : w6.cell? ⟨w.heap.size, 1, none⟩ = some (.int .i64 k.num) := by rw [hw6]; exact k1
     have k2 : w6.cell? ⟨w.heap.size, 2, none⟩ = some (.string k.text) := by rw [hw6]; exact k2
     have k3 : w6.cell? ⟨w.heap.size, 3, none⟩ = some (.slice ak k.items.length ck) := by rw [hw6]; exact k3
     have v0 : w6.cell? ⟨w.heap.size + 1, 0, none⟩ = some (.int .i64 v.kind) := by rw [hw6]; exact v0
     have v1 : w6.cell? ⟨w.heap.size + 1, 1, none⟩ = some (.int .i64 v.num) := by rw [hw6]; exact v1
     have v2 : w6.cell? ⟨w.heap.size + 1, 2, none⟩ = some (.string v.text) := by rw [hw6]; exact v2
     have v3 : w6.cell? ⟨w.heap.size + 1, 3, none⟩ = some (.slice av v.items.length cv) := by rw [hw6]; exact v3
     rw [← hw6]
     clear hw6
     go_wp2_with fail
     refine Calls.mono (HCp.out _ hb4) ?_
     rintro e w5 ⟨k5, v5, rfl, hl5, hl6, hg5⟩
     obtain ⟨a5, c5, rfl, _⟩ := LiesB.slice hl5
     obtain ⟨a6, c6, rfl, _⟩ := LiesB.slice hl6
     have hb5 : Below w.heap.size w w5 := hb4.trans (hg5.mono hb4.size)
     have k0 := cell_keeps hg5 k0; have k1 := cell_keeps hg5 k1; have k2 := cell_keeps hg5 k2; have k3 := cell_keeps hg5 k3
     obtain ⟨W5, hW5⟩ : ∃ W5, W5 = w5.alloc (.cells #[.int .i64 k.kind, .int .i64 k.num, .string k.text, .slice a5 k.items.length c5, .int .i64 v.kind, .int .i64 v.num, .string v.text, .slice a6 v.items.length c6] 69) := ⟨_, rfl⟩
     have hbA : Below w5.heap.size w5 W5 := by rw [hW5]; exact ((Grew.refl w5).alloc _).below
     have hb6 : Below w.heap.size w W5 := hb5.trans (hbA.mono hb5.size)
     have HK5 : Hid (LiesX TT 16 W5 k.items (.slice a5 k.items.length c5)) := (LiesX.of_b (LiesB.keepsB hbA hl5)).mono (fun _ _ => trivial)
     have HV5 : Hid (LiesX TT 16 W5 v.items (.slice a6 v.items.length c6)) := (LiesX.of_b (LiesB.keepsB hbA hl6)).mono (fun _ _ => trivial)
     have k0 := cell_keeps hbA k0; have k1 := cell_keeps hbA k1; have k2 := cell_keeps hbA k2; have k3 := cell_keeps hbA k3
     have hpo := cell_keeps hb6 Hpo.out
     clear hl5 hl6 hg5 v0 v1 v2 v3
     go_wp2_with fail
     rw [← hW5]
     have z0 : W5.cell? ⟨w5.heap.size, 0, none⟩ = some (.int .i64 k.kind) := by rw [hW5]; simp
     have z1 : W5.cell? ⟨w5.heap.size, 1, none⟩ = some (.int .i64 k.num) := by rw [hW5]; simp
     have z2 : W5.cell? ⟨w5.heap.size, 2, none⟩ = some (.string k.text) := by rw [hW5]; simp
     have z3 : W5.cell? ⟨w5.heap.size, 3, none⟩ = some (.slice a5 k.items.length c5) := by rw [hW5]; simp
     have z4 : W5.cell? ⟨w5.heap.size, 4, none⟩ = some (.int .i64 v.kind) := by rw [hW5]; simp
     have z5 : W5.cell? ⟨w5.heap.size, 5, none⟩ = some (.int .i64 v.num) := by rw [hW5]; simp
     have z6 : W5.cell? ⟨w5.heap.size, 6, none⟩ = some (.string v.text) := by rw [hW5]; simp
     have z7 : W5.cell? ⟨w5.heap.size, 7, none⟩ = some (.slice a6 v.items.length c6) := by rw [hW5]; simp
     clear hW5 hbA hb5
     generalize w5.heap.size = P at *
     go_region_held3 (fun w' => w'.cell? ⟨b, 1, none⟩ = some (.pointer po) ∧ w'.cell? ⟨w.heap.size, 0, none⟩ = some (.int .i64 k.kind) ∧ w'.cell? ⟨w.heap.size, 1, none⟩ = some (.int .i64 k.num) ∧ w'.cell? ⟨w.heap.size, 2, none⟩ = some (.string k.text) ∧ w'.cell? ⟨w.heap.size, 3, none⟩ = some (.slice ak k.items.length ck) ∧ w'.cell? ⟨P, 0, none⟩ = some (.int .i64 k.kind) ∧ w'.cell? ⟨P, 1, none⟩ = some (.int .i64 k.num) ∧ w'.cell? ⟨P, 2, none⟩ = some (.string k.text) ∧ w'.cell? ⟨P, 3, none⟩ = some (.slice a5 k.items.length c5) ∧ w'.cell? ⟨P, 4, none⟩ = some (.int .i64 v.kind) ∧ w'.cell? ⟨P, 5, none⟩ = some (.int .i64 v.num) ∧ w'.cell? ⟨P, 6, none⟩ = some (.string v.text) ∧ w'.cell? ⟨P, 7, none⟩ = some (.slice a6 v.items.length c6)) (go_keep)
      (first
       | (go_at_call 67; (with_reducible refine Calls.mono (HA.out _ hb6.drew) ?_); rintro e w7 ⟨hg, q1, q2, rfl, ha⟩; have HAC : Hid (AtC TT 16 115 q1 q2 (atK q k) (fun x => rightV 16 x.1 = true) w7) := ha TT; have hb7 : Below w.heap.size w w7 := hb6.drew.trans (hg.mono hb6.drew.size); have hg7 : Below W5.heap.size W5 w7 := (Below.refl _ _).drew.trans hg; have k0 := cell_keeps hg7 k0; have k1 := cell_keeps hg7 k1; have k2 := cell_keeps hg7 k2; have k3 := cell_keeps hg7 k3; have z0 := cell_keeps hg7 z0; have z1 := cell_keeps hg7 z1; have z2 := cell_keeps hg7 z2; have z3 := cell_keeps hg7 z3; have z4 := cell_keeps hg7 z4; have z5 := cell_keeps hg7 z5; have z6 := cell_keeps hg7 z6; have z7 := cell_keeps hg7 z7; have hpo := cell_keeps hg7 hpo; clear hg ha)
       | (go_at_call 72; (with_reducible refine Calls.mono (HW.out _ _ _ _ _ hb7 HAC.out (HK5.out.keeps hg7) (HV5.out.keeps hg7)) ?_); rintro e w8 ⟨hg8, p8, rfl, ht8⟩; have hb8 : Below w.heap.size w w8 := hb7.trans (hg8.mono hb7.size); have HT8 : Hid (NM TT 16 w8 (RT.with_ (atK q k) (k, v) t) p8) := ht8; have k0 := cell_keeps hg8 k0; have k1 := cell_keeps hg8 k1; have k2 := cell_keeps hg8 k2; have k3 := cell_keeps hg8 k3; have z0 := cell_keeps hg8 z0; have z1 := cell_keeps hg8 z1; have z2 := cell_keeps hg8 z2; have z3 := cell_keeps hg8 z3; have z4 := cell_keeps hg8 z4; have z5 := cell_keeps hg8 z5; have z6 := cell_keeps hg8 z6; have z7 := cell_keeps hg8 z7; have hpo := cell_keeps hg8 hpo; clear ht8)
       | (go_at_call 65; (with_reducible refine Calls.mono (HO.out hsz _ _ hb8 HT8.out) ?_); rintro e w9 ⟨hg9, t9, b9, rfl, hm9, hi9⟩; have HE : Hid (OrPost q (RT.with_ (atK q k) (k, v) t).items 0 w (.returned (.tuple #[.pointer (some ⟨b9, 0, none⟩), .int .i64 0])) w9) := ⟨hb8.trans (hg9.mono hb8.size), .inr ⟨rfl, t9, b9, rfl, hm9, hi9⟩⟩; have k0 := cell_keeps hg9 k0; have k1 := cell_keeps hg9 k1; have k2 := cell_keeps hg9 k2; have k3 := cell_keeps hg9 k3; have z0 := cell_keeps hg9 z0; have z1 := cell_keeps hg9 z1; have z2 := cell_keeps hg9 z2; have z3 := cell_keeps hg9 z3; have z4 := cell_keeps hg9 z4; have z5 := cell_keeps hg9 z5; have z6 := cell_keeps hg9 z6; have z7 := cell_keeps hg9 z7; have hpo := cell_keeps hg9 hpo; clear hm9 hi9))
     all_goals (first | (go_ret2; exact HE.out) | (go_wp2_with fail; go_ret2; exact HE.out))
   ·obtain rfl : p1 = some ⟨xb, 0, none⟩ := by injection he with he; injection he
    have e9 : EE = 0 := by rw [HEE.out, if_neg (fun h => by rw [hsome] at h; cases h.1)]
    subst e9
    have hsz : (RT.with_ (atK q k) (k, v) t).size ≤ 65536 := HS2.out x hsome
    obtain ⟨ax, cx, rfl, _⟩ := hlx.2.1.slice
    have HQ2 : Hid (∀ V, Below w2.heap.size w2 V → Calls Tryz.prog 70 #[.agg #[.int .i64 x.2.kind, .int .i64 x.2.num, .string x.2.text, .slice ax x.2.items.length cx], .agg #[.int .i64 v.kind, .int .i64 v.num, .string v.text, .slice av v.items.length cv]] V fun e w' => e = .returned (.bool (cmpV 16 x.2 v == 0)) ∧ Grew V w') := fun V hV => HQ.out x _ V (hb2.trans (hV.mono hb2.size)) hsome hrv (LiesX.keeps (Hg2.out.trans (hV.mono Hg2.out.size)) hlx.2.1)
    have HEq2 : Hid ((cmpV 16 x.2 v == 0) = true → (RT.with_ (atK q k) (k, v) t).items = t.items) := fun h => HEq.out x hsome hrv h
    have hcl2 := hcl.keeps Hg2.out
    obtain ⟨_, _, _, _, _, _, x6, x7, x8, x9, _, _, _, _⟩ := hcl2
    obtain ⟨BQ, hBQ⟩ : ∃ BQ, BQ = (cmpV 16 x.2 v == 0) := ⟨_, rfl⟩
    rw [← hBQ] at HQ2 HEq2
    clear HFp he hsome hcl hlx HQ HEq HEE HS1 HS2 HL hBQ
    go_wp2_with fail
    go_region_held3 (fun w' => w'.cell? ⟨xb, 6, none⟩ = some (.int .i64 x.2.kind) ∧ w'.cell? ⟨xb, 7, none⟩ = some (.int .i64 x.2.num) ∧ w'.cell? ⟨xb, 8, none⟩ = some (.string x.2.text) ∧ w'.cell? ⟨xb, 9, none⟩ = some (.slice ax x.2.items.length cx) ∧ w'.cell? ⟨w.heap.size, 0, none⟩ = some (.int .i64 k.kind) ∧ w'.cell? ⟨w.heap.size, 1, none⟩ = some (.int .i64 k.num) ∧ w'.cell? ⟨w.heap.size, 2, none⟩ = some (.string k.text) ∧ w'.cell? ⟨w.heap.size, 3, none⟩ = some (.slice ak k.items.length ck) ∧ w'.cell? ⟨w.heap.size + 1, 0, none⟩ = some (.int .i64 v.kind) ∧ w'.cell? ⟨w.heap.size + 1, 1, none⟩ = some (.int .i64 v.num) ∧ w'.cell? ⟨w.heap.size + 1, 2, none⟩ = some (.string v.text) ∧ w'.cell? ⟨w.heap.size + 1, 3, none⟩ = some (.slice av v.items.length cv)) (go_keep)
     (first | (go_at_call 70; (with_reducible refine Calls.mono (HQ2.out _ (Below.refl _ _).drew) ?_); rintro e w6 ⟨rfl, hgq⟩; have hg6 : Below w2.heap.size w2 w6 := (Below.refl _ _).drew.trans hgq.below; have hb4 : Below w.heap.size w w6 := hb2.trans (hg6.mono hb2.size); have x6 := cell_keeps hg6 x6; have x7 := cell_keeps hg6 x7; have x8 := cell_keeps hg6 x8; have x9 := cell_keeps hg6 x9; have k0 := cell_keeps hg6 k0; have k1 := cell_keeps hg6 k1; have k2 := cell_keeps hg6 k2; have k3 := cell_keeps hg6 k3; have v0 := cell_keeps hg6 v0; have v1 := cell_keeps hg6 v1; have v2 := cell_keeps hg6 v2; have v3 := cell_keeps hg6 v3; clear hgq hg6))
    clear x6 x7 x8 x9 HQ2
    cases BQ with
    | true =>
     have HE : Hid (OrPost q (RT.with_ (atK q k) (k, v) t).items 0 w (.returned (.tuple #[.pointer (some ⟨b, 0, none⟩), .int .i64 0])) w6) := ⟨hb4, .inr ⟨rfl, t, b, rfl, HM.out.keeps hb4, (HEq2.out rfl).symm⟩⟩
     go_wp2_with fail
     go_ret2
     exact HE.out
    | false =>
     go_wp2_with fail
     refine Calls.mono (HCp.out _ hb4) ?_
     rintro e w5 ⟨k5, v5, rfl, hl5, hl6, hg5⟩
     obtain ⟨a5, c5, rfl, _⟩ := LiesB.slice hl5
     obtain ⟨a6, c6, rfl, _⟩ := LiesB.slice hl6
     have hb5 : Below w.heap.size w w5 := hb4.trans (hg5.mono hb4.size)
     have k0 := cell_keeps hg5 k0; have k1 := cell_keeps hg5 k1; have k2 := cell_keeps hg5 k2; have k3 := cell_keeps hg5 k3
     obtain ⟨W5, hW5⟩ : ∃ W5, W5 = w5.alloc (.cells #[.int .i64 k.kind, .int .i64 k.num, .string k.text, .slice a5 k.items.length c5, .int .i64 v.kind, .int .i64 v.num, .string v.text, .slice a6 v.items.length c6] 69) := ⟨_, rfl⟩
     have hbA : Below w5.heap.size w5 W5 := by rw [hW5]; exact ((Grew.refl w5).alloc _).below
     have hb6 : Below w.heap.size w W5 := hb5.trans (hbA.mono hb5.size)
     have HK5 : Hid (LiesX TT 16 W5 k.items (.slice a5 k.items.length c5)) := (LiesX.of_b (LiesB.keepsB hbA hl5)).mono (fun _ _ => trivial)
     have HV5 : Hid (LiesX TT 16 W5 v.items (.slice a6 v.items.length c6)) := (LiesX.of_b (LiesB.keepsB hbA hl6)).mono (fun _ _ => trivial)
     have k0 := cell_keeps hbA k0; have k1 := cell_keeps hbA k1; have k2 := cell_keeps hbA k2; have k3 := cell_keeps hbA k3
     have hpo := cell_keeps hb6 Hpo.out
     clear hl5 hl6 hg5 v0 v1 v2 v3
     go_wp2_with fail
     rw [← hW5]
     have z0 : W5.cell? ⟨w5.heap.size, 0, none⟩ = some (.int .i64 k.kind) := by rw [hW5]; simp
     have z1 : W5.cell? ⟨w5.heap.size, 1, none⟩ = some (.int .i64 k.num) := by rw [hW5]; simp
     have z2 : W5.cell? ⟨w5.heap.size, 2, none⟩ = some (.string k.text) := by rw [hW5]; simp
     have z3 : W5.cell? ⟨w5.heap.size, 3, none⟩ = some (.slice a5 k.items.length c5) := by rw [hW5]; simp
     have z4 : W5.cell? ⟨w5.heap.size, 4, none⟩ = some (.int .i64 v.kind) := by rw [hW5]; simp
     have z5 : W5.cell? ⟨w5.heap.size, 5, none⟩ = some (.int .i64 v.num) := by rw [hW5]; simp
     have z6 : W5.cell? ⟨w5.heap.size, 6, none⟩ = some (.string v.text) := by rw [hW5]; simp
     have z7 : W5.cell? ⟨w5.heap.size, 7, none⟩ = some (.slice a6 v.items.length c6) := by rw [hW5]; simp
     clear hW5 hbA hb5
     generalize w5.heap.size = P at *
     go_region_held3 (fun w' => w'.cell? ⟨b, 1, none⟩ = some (.pointer po) ∧ w'.cell? ⟨w.heap.size, 0, none⟩ = some (.int .i64 k.kind) ∧ w'.cell? ⟨w.heap.size, 1, none⟩ = some (.int .i64 k.num) ∧ w'.cell? ⟨w.heap.size, 2, none⟩ = some (.string k.text) ∧ w'.cell? ⟨w.heap.size, 3, none⟩ = some (.slice ak k.items.length ck) ∧ w'.cell? ⟨P, 0, none⟩ = some (.int .i64 k.kind) ∧ w'.cell? ⟨P, 1, none⟩ = some (.int .i64 k.num) ∧ w'.cell? ⟨P, 2, none⟩ = some (.string k.text) ∧ w'.cell? ⟨P, 3, none⟩ = some (.slice a5 k.items.length c5) ∧ w'.cell? ⟨P, 4, none⟩ = some (.int .i64 v.kind) ∧ w'.cell? ⟨P, 5, none⟩ = some (.int .i64 v.num) ∧ w'.cell? ⟨P, 6, none⟩ = some (.string v.text) ∧ w'.cell? ⟨P, 7, none⟩ = some (.slice a6 v.items.length c6)) (go_keep)
      (first
       | (go_at_call 67; (with_reducible refine Calls.mono (HA.out _ hb6.drew) ?_); rintro e w7 ⟨hg, q1, q2, rfl, ha⟩; have HAC : Hid (AtC TT 16 115 q1 q2 (atK q k) (fun x => rightV 16 x.1 = true) w7) := ha TT; have hb7 : Below w.heap.size w w7 := hb6.drew.trans (hg.mono hb6.drew.size); have hg7 : Below W5.heap.size W5 w7 := (Below.refl _ _).drew.trans hg; have k0 := cell_keeps hg7 k0; have k1 := cell_keeps hg7 k1; have k2 := cell_keeps hg7 k2; have k3 := cell_keeps hg7 k3; have z0 := cell_keeps hg7 z0; have z1 := cell_keeps hg7 z1; have z2 := cell_keeps hg7 z2; have z3 := cell_keeps hg7 z3; have z4 := cell_keeps hg7 z4; have z5 := cell_keeps hg7 z5; have z6 := cell_keeps hg7 z6; have z7 := cell_keeps hg7 z7; have hpo := cell_keeps hg7 hpo; clear hg ha)
       | (go_at_call 72; (with_reducible refine Calls.mono (HW.out _ _ _ _ _ hb7 HAC.out (HK5.out.keeps hg7) (HV5.out.keeps hg7)) ?_); rintro e w8 ⟨hg8, p8, rfl, ht8⟩; have hb8 : Below w.heap.size w w8 := hb7.trans (hg8.mono hb7.size); have HT8 : Hid (NM TT 16 w8 (RT.with_ (atK q k) (k, v) t) p8) := ht8; have k0 := cell_keeps hg8 k0; have k1 := cell_keeps hg8 k1; have k2 := cell_keeps hg8 k2; have k3 := cell_keeps hg8 k3; have z0 := cell_keeps hg8 z0; have z1 := cell_keeps hg8 z1; have z2 := cell_keeps hg8 z2; have z3 := cell_keeps hg8 z3; have z4 := cell_keeps hg8 z4; have z5 := cell_keeps hg8 z5; have z6 := cell_keeps hg8 z6; have z7 := cell_keeps hg8 z7; have hpo := cell_keeps hg8 hpo; clear ht8)
       | (go_at_call 65; (with_reducible refine Calls.mono (HO.out hsz _ _ hb8 HT8.out) ?_); rintro e w9 ⟨hg9, t9, b9, rfl, hm9, hi9⟩; have HE : Hid (OrPost q (RT.with_ (atK q k) (k, v) t).items 0 w (.returned (.tuple #[.pointer (some ⟨b9, 0, none⟩), .int .i64 0])) w9) := ⟨hb8.trans (hg9.mono hb8.size), .inr ⟨rfl, t9, b9, rfl, hm9, hi9⟩⟩; have k0 := cell_keeps hg9 k0; have k1 := cell_keeps hg9 k1; have k2 := cell_keeps hg9 k2; have k3 := cell_keeps hg9 k3; have z0 := cell_keeps hg9 z0; have z1 := cell_keeps hg9 z1; have z2 := cell_keeps hg9 z2; have z3 := cell_keeps hg9 z3; have z4 := cell_keeps hg9 z4; have z5 := cell_keeps hg9 z5; have z6 := cell_keeps hg9 z6; have z7 := cell_keeps hg9 z7; have hpo := cell_keeps hg9 hpo; clear hm9 hi9))
     all_goals (first | (go_ret2; exact HE.out) | (go_wp2_with fail; go_ret2; exact HE.out))

end Go.Proofs.YtlnecfjnffdciaaGreat

namespace Go.Proofs.YtlnecfjnffdciaaGreat
open Go.RowKit Go.Shelf

def GetPost14 (o : Option PT) (E : Int) (w : World) (e : Ending) (w' : World) : Prop := Below w.heap.size w w' ∧ ((o = none ∧ e = .returned (.tuple #[.agg #[.int .i64 0, .int .i64 0, .string ⟨#[]⟩, .slice none 0 0], .bool false, .int .i64 E])) ∨ ∃ x u, o = some x ∧ e = .returned (.tuple #[.agg #[.int .i64 x.2.kind, .int .i64 x.2.num, .string x.2.text, u], .bool true, .int .i64 0]) ∧ LiesB w.heap.size 16 w' x.2.items u)

set_option maxRecDepth 100000 in
set_option maxHeartbeats 8000000 in
theorem get_wrong (d b : Nat) (k : VT) (ku : Value) (w : World) (hk : Lies d w k.items ku) (ht : k.text.size ≤ 9223372036854775807) (hr : rightV d k = false) : Calls Tryz.prog 20 #[.pointer (some ⟨b, 0, none⟩), .agg #[.int .i64 k.kind, .int .i64 k.num, .string k.text, ku]] w (GetPost14 none 3 w) := by
 obtain ⟨ak, ck, rfl, _⟩ := Lies.slice hk
 have HB : Hid (∀ A B, Below w.heap.size w ((w.alloc A).alloc B)) := fun A B => (((Grew.refl w).alloc A).alloc B).below
 have HF : Hid (∀ V, Below w.heap.size w V → Calls Tryz.prog 61 #[.pointer (some ⟨b, 0, none⟩), .agg #[.int .i64 k.kind, .int .i64 k.num, .string k.text, .slice ak k.items.length ck]] V fun e w' => e = .returned (.tuple #[.pointer none, .int .i64 3]) ∧ Below V.heap.size V w') := fun V hV => mfind_wrong d b k _ V (Lies.keeps hV _ _ _ hk) ht hr
 clear hk ht hr
 go_enter Tryz.func20, Tryz.ntmps20
 go_wp2_with fail
 obtain ⟨W0, hW0⟩ : ∃ W0, W0 = (w.alloc (.cells #[.int .i64 k.kind, .int .i64 k.num, .string k.text, .slice ak k.items.length ck] 34)).alloc (.cells #[.int .i64 0, .int .i64 0, .string ⟨#[]⟩, .slice none 0 0] 34) := ⟨_, rfl⟩
 rw [← hW0]
 have hb0 : Below w.heap.size w W0 := by rw [hW0]; exact HB.out _ _
 have HK0 : Hid (Bx W0 w.heap.size k (.slice ak k.items.length ck)) := by rw [hW0]; exact (bx_alloc w k _).keeps ((Grew.refl _).alloc _).below
 have HV0 : Hid (Bx W0 (w.heap.size + 1) zeroT (.slice none 0 0)) := by
  rw [hW0]
  have h9 := bx_alloc (w.alloc (.cells #[.int .i64 k.kind, .int .i64 k.num, .string k.text, .slice ak k.items.length ck] 34)) zeroT (.slice none 0 0)
  rwa [World.size_alloc] at h9
 have hs0 : w.heap.size + 1 < W0.heap.size := by rw [hW0]; simp
 have Hs0 : Hid (w.heap.size + 1 < W0.heap.size) := hs0
 obtain ⟨k0, k1, k2, k3, _⟩ := HK0.out
 clear hW0 HK0 hs0
 go_region_held3 (fun w' => w'.cell? ⟨w.heap.size, 0, none⟩ = some (.int .i64 k.kind) ∧ w'.cell? ⟨w.heap.size, 1, none⟩ = some (.int .i64 k.num) ∧ w'.cell? ⟨w.heap.size, 2, none⟩ = some (.string k.text) ∧ w'.cell? ⟨w.heap.size, 3, none⟩ = some (.slice ak k.items.length ck)) (go_keep)
  (first
   | (go_at_call 60; refine (own_14 _ _).mono ?_; rintro e w3 ⟨rfl, hw⟩; subst hw)
   | (go_at_call 61; (with_reducible refine Calls.mono (HF.out _ hb0.drew) ?_); rintro e w1 ⟨rfl, hg'⟩; have hg : Below W0.heap.size W0 w1 := (Below.refl _ _).drew.trans hg'; have k0 := cell_keeps hg k0; have k1 := cell_keeps hg k1; have k2 := cell_keeps hg k2; have k3 := cell_keeps hg k3; clear hg'))
 have HV1 : Hid (Bx w1 (w.heap.size + 1) zeroT (.slice none 0 0)) := HV0.out.keeps hg
 obtain ⟨y0, y1, y2, y3, f0, f1, f2, f3⟩ := HV1.out
 have hb1 : Below w.heap.size w w1 := hb0.trans (hg.mono hb0.size)
 have HE : Hid (GetPost14 none 3 w (.returned (.tuple #[.agg #[.int .i64 0, .int .i64 0, .string ⟨#[]⟩, .slice none 0 0], .bool false, .int .i64 3])) (w1.setCells (w.heap.size + 1) 0 (encP (zeroT, .slice none 0 0)))) := ⟨below_put hb1 (by omega) _, .inl ⟨rfl, rfl⟩⟩
 have Hbx : Hid _ := HV1.out.put (zeroT, .slice none 0 0)
 clear hg k0 k1 k2 k3
 go_wp2_with fail
 refine bodyPost_ret (v := .tuple #[.agg #[.int .i64 0, .int .i64 0, .string ⟨#[]⟩, .slice none 0 0], .bool false, .int .i64 3]) ?_ rfl HE.out
 obtain ⟨q0, q1, q2, q3, _, _, _, _⟩ := Hbx.out
 simp only [encP, World.setCells, Nat.zero_add, Nat.reduceAdd] at q0 q1 q2 q3
 simp [results, Tryz.results20, go_sem, q0, q1, q2, q3]

set_option maxRecDepth 100000 in
set_option maxHeartbeats 8000000 in
theorem get_right (d b q : Nat) (t : RT PT) (k : VT) (ku : Value) (w : World) (hm : MC w q t b) (hk : Lies d w k.items ku) (ht : k.text.size ≤ 9223372036854775807) (hr : rightV d k = true) : Calls Tryz.prog 20 #[.pointer (some ⟨b, 0, none⟩), .agg #[.int .i64 k.kind, .int .i64 k.num, .string k.text, ku]] w (GetPost14 (RT.find (atK q k) t) 0 w) := by
 obtain ⟨ak, ck, rfl, _⟩ := Lies.slice hk
 have HB : Hid (∀ A B, Below w.heap.size w ((w.alloc A).alloc B)) := fun A B => (((Grew.refl w).alloc A).alloc B).below
 have HF : Hid (∀ V, Below w.heap.size w V → Calls Tryz.prog 61 #[.pointer (some ⟨b, 0, none⟩), .agg #[.int .i64 k.kind, .int .i64 k.num, .string k.text, .slice ak k.items.length ck]] V (MFindPost q t k V)) := fun V hV => mfind_right d b q t k _ V (hm.keeps hV) (Lies.keeps hV _ _ _ hk) ht hr
 have HR : Hid (∀ x, RT.find (atK q k) t = some x → rightV 16 x.2 = true) := fun x hx => (hm.right x (find_some (v := k) hm.rises hx).1).2.1
 clear hk ht hr hm
 go_enter Tryz.func20, Tryz.ntmps20
 go_wp2_with fail
 obtain ⟨W0, hW0⟩ : ∃ W0, W0 = (w.alloc (.cells #[.int .i64 k.kind, .int .i64 k.num, .string k.text, .slice ak k.items.length ck] 34)).alloc (.cells #[.int .i64 0, .int .i64 0, .string ⟨#[]⟩, .slice none 0 0] 34) := ⟨_, rfl⟩
 rw [← hW0]
 have hb0 : Below w.heap.size w W0 := by rw [hW0]; exact HB.out _ _
 have HK0 : Hid (Bx W0 w.heap.size k (.slice ak k.items.length ck)) := by rw [hW0]; exact (bx_alloc w k _).keeps ((Grew.refl _).alloc _).below
 have HV0 : Hid (Bx W0 (w.heap.size + 1) zeroT (.slice none 0 0)) := by
  rw [hW0]
  have h9 := bx_alloc (w.alloc (.cells #[.int .i64 k.kind, .int .i64 k.num, .string k.text, .slice ak k.items.length ck] 34)) zeroT (.slice none 0 0)
  rwa [World.size_alloc] at h9
 have hs0 : w.heap.size + 1 < W0.heap.size := by rw [hW0]; simp
 have Hs0 : Hid (w.heap.size + 1 < W0.heap.size) := hs0
 obtain ⟨k0, k1, k2, k3, _⟩ := HK0.out
 clear hW0 HK0 hs0
 go_region_held3 (fun w' => w'.cell? ⟨w.heap.size, 0, none⟩ = some (.int .i64 k.kind) ∧ w'.cell? ⟨w.heap.size, 1, none⟩ = some (.int .i64 k.num) ∧ w'.cell? ⟨w.heap.size, 2, none⟩ = some (.string k.text) ∧ w'.cell? ⟨w.heap.size, 3, none⟩ = some (.slice ak k.items.length ck)) (go_keep)
  (first
   | (go_at_call 60; refine (own_14 _ _).mono ?_; rintro e w3 ⟨rfl, hw⟩; subst hw)
   | (go_at_call 61; (with_reducible refine Calls.mono (HF.out _ hb0.drew) ?_); rintro e w1 ⟨p1, rfl, hf⟩; have hg : Below W0.heap.size W0 w1 := (Below.refl _ _).drew.trans hf.1; have HFp : Hid _ := hf.2; have k0 := cell_keeps hg k0; have k1 := cell_keeps hg k1; have k2 := cell_keeps hg k2; have k3 := cell_keeps hg k3; clear hf))
 have HV1 : Hid (Bx w1 (w.heap.size + 1) zeroT (.slice none 0 0)) := HV0.out.keeps hg
 have hb1 : Below w.heap.size w w1 := hb0.trans (hg.mono hb0.size)
 clear hg k0 k1 k2 k3 HF HV0 hb0
 rcases HFp.out with ⟨hnone, he⟩ | ⟨x, xb, xl, xr, xk, xv, xc, xs, xh, xn, hsome, he, hcl, hlx⟩
 ·obtain rfl : p1 = none := by injection he with he; injection he
  obtain ⟨y0, y1, y2, y3, f0, f1, f2, f3⟩ := HV1.out
  have HE : Hid (GetPost14 (RT.find (atK q k) t) 0 w (.returned (.tuple #[.agg #[.int .i64 0, .int .i64 0, .string ⟨#[]⟩, .slice none 0 0], .bool false, .int .i64 0])) (w1.setCells (w.heap.size + 1) 0 (encP (zeroT, .slice none 0 0)))) := ⟨below_put hb1 (by omega) _, .inl ⟨hnone, rfl⟩⟩
  have Hbx : Hid _ := HV1.out.put (zeroT, .slice none 0 0)
  clear HFp he hnone HR
  go_wp2_with fail
  refine bodyPost_ret (v := .tuple #[.agg #[.int .i64 0, .int .i64 0, .string ⟨#[]⟩, .slice none 0 0], .bool false, .int .i64 0]) ?_ rfl HE.out
  obtain ⟨q0, q1, q2, q3, _, _, _, _⟩ := Hbx.out
  simp only [encP, World.setCells, Nat.zero_add, Nat.reduceAdd] at q0 q1 q2 q3
  simp [results, Tryz.results20, go_sem, q0, q1, q2, q3]
 ·obtain rfl : p1 = some ⟨xb, 0, none⟩ := by injection he with he; injection he
  obtain ⟨ax, cx, rfl, _⟩ := hlx.2.1.slice
  obtain ⟨_, _, _, _, _, _, x6, x7, x8, x9, _, _, _, _⟩ := hcl
  have HCp : Hid _ := copy_right x.2 _ w1 hlx.2.1.lies (HR.out x hsome)
  have Hsome : Hid (RT.find (atK q k) t = some x) := hsome
  have hlt1 : w.heap.size + 1 < w1.heap.size := by have := cell_lt HV1.out.c0; simpa using this
  clear HFp he hsome HR hlx
  go_wp2_with fail
  refine Calls.mono HCp.out ?_
  rintro e w2 ⟨v2, rfl, hl2, hg2⟩
  obtain ⟨a2, c2, rfl, _⟩ := LiesB.slice hl2
  have HV2 : Hid (Bx w2 (w.heap.size + 1) zeroT (.slice none 0 0)) := HV1.out.keeps hg2
  have hb2 : Below w.heap.size w w2 := hb1.trans (hg2.mono hb1.size)
  have hL2 : LiesB w1.heap.size 16 (w2.setCells (w.heap.size + 1) 0 (encP (x.2, .slice a2 x.2.items.length c2))) x.2.items (.slice a2 x.2.items.length c2) := LiesB.put8 hlt1 _ hl2
  have HE : Hid (GetPost14 (RT.find (atK q k) t) 0 w (.returned (.tuple #[.agg #[.int .i64 x.2.kind, .int .i64 x.2.num, .string x.2.text, .slice a2 x.2.items.length c2], .bool true, .int .i64 0])) (w2.setCells (w.heap.size + 1) 0 (encP (x.2, .slice a2 x.2.items.length c2)))) := ⟨below_put hb2 (by omega) _, .inr ⟨x, _, Hsome.out, rfl, LiesB.lower14 hb1.size _ _ _ hL2⟩⟩
  have Hbx : Hid _ := HV2.out.put (x.2, .slice a2 x.2.items.length c2)
  obtain ⟨y0, y1, y2, y3, f0, f1, f2, f3⟩ := HV2.out
  clear hl2 hL2 hg2 x6 x7 x8 x9 HCp HV1
  go_wp2_with fail
  refine bodyPost_ret (v := .tuple #[.agg #[.int .i64 x.2.kind, .int .i64 x.2.num, .string x.2.text, .slice a2 x.2.items.length c2], .bool true, .int .i64 0]) ?_ rfl HE.out
  obtain ⟨q0, q1, q2, q3, _, _, _, _⟩ := Hbx.out
  simp only [encP, World.setCells, Nat.zero_add, Nat.reduceAdd] at q0 q1 q2 q3
  simp [results, Tryz.results20, go_sem, q0, q1, q2, q3]

end Go.Proofs.YtlnecfjnffdciaaGreat

namespace Go.Proofs.YtlnecfjnffdciaaGreat
open Go.RowKit Go.Shelf

def withK (q : Nat) (k v : VT) (l : List PT) : List PT := l.filter (fun a => decide (0 < atK q k a)) ++ (k, v) :: l.filter (fun a => decide (atK q k a < 0))

theorem with_is {q : Nat} {k v : VT} {t : RT PT} (h : RT.Rises (byK q) t.items) : (RT.with_ (atK q k) (k, v) t).items = withK q k v t.items :=
 RT.with_items (atK q k) (k, v) t (RT.Rises.falls (byK_cmp q) h (k, v))

def findK (q : Nat) (k : VT) (l : List PT) : Option PT := l.find? (fun a => decide (atK q k a = 0))

theorem find_is {q : Nat} {k : VT} {t : RT PT} (h : RT.Rises (byK q) t.items) : RT.find (atK q k) t = findK q k t.items :=
 RT.find_eq (atK q k) t (RT.Rises.falls (byK_cmp q) h (k, k))

structure PlK (q : Nat) (k : VT) (l : List PT) (r : Nat) : Prop where
 le : r ≤ l.length
 lo : ∀ (j : Nat) (hj : j < l.length), j < r → ordV q l[j].1 k < 0
 hi : ∀ (j : Nat) (hj : j < l.length), r ≤ j → ¬ ordV q l[j].1 k < 0

theorem PlK.take {q : Nat} {k : VT} {l : List PT} {r : Nat} (h : PlK q k l r) : l.take r = l.filter (fun a => decide (0 < atK q k a)) := by
 conv => rhs; rw [← List.take_append_drop r l]
 rw [List.filter_append, List.filter_eq_self.2, List.filter_eq_nil_iff.2, List.append_nil]
 ·intro x hx
  obtain ⟨j, hj, rfl⟩ := List.getElem_of_mem hx
  rw [List.length_drop] at hj
  rw [List.getElem_drop]
  have h1 := h.hi (r + j) (by omega) (by omega)
  have h2 := ordV_turn q k l[r + j].1
  simp [atK]
  omega
 ·intro x hx
  obtain ⟨j, hj, rfl⟩ := List.getElem_of_mem hx
  rw [List.length_take] at hj
  rw [List.getElem_take]
  have h1 := h.lo j (by omega) (by omega)
  have h2 := ordV_turn q k l[j].1
  simp [atK]
  omega

theorem PlK.none_at {q : Nat} {k : VT} {l : List PT} {r : Nat} (h : PlK q k l r) (hs : RT.Rises (byK q) l) (hn : ∀ hr : r < l.length, ordV q l[r].1 k ≠ 0) : l.drop r = l.filter (fun a => decide (atK q k a < 0)) ∧ findK q k l = none := by
 have h0 : ∀ j (hj : j < l.length), r ≤ j → atK q k l[j] < 0 := by
  intro j hj hrj
  have hr : r < l.length := by omega
  have h1 := h.hi r hr (Nat.le_refl _)
  have h2 := hn hr
  have h3 := ordV_turn q l[r].1 k
  show ordV q k l[j].1 < 0
  by_cases e : r = j
  ·subst e
   omega
  ·have h4 := List.pairwise_iff_getElem.1 hs r j hr hj (by omega)
   exact (byK_cmp q).trans (k, k) l[r] l[j] (by show ordV q k l[r].1 ≤ 0; omega) h4
 constructor
 ·conv => rhs; rw [← List.take_append_drop r l]
  rw [List.filter_append, List.filter_eq_nil_iff.2, List.filter_eq_self.2, List.nil_append]
  ·intro x hx
   obtain ⟨j, hj, rfl⟩ := List.getElem_of_mem hx
   rw [List.length_drop] at hj
   rw [List.getElem_drop]
   have := h0 (r + j) (by omega) (by omega)
   simpa using this
  ·intro x hx
   obtain ⟨j, hj, rfl⟩ := List.getElem_of_mem hx
   rw [List.length_take] at hj
   rw [List.getElem_take]
   have h1 := h.lo j (by omega) (by omega)
   have h2 := ordV_turn q k l[j].1
   simp [atK]
   omega
 ·refine List.find?_eq_none.2 (fun x hx => ?_)
  obtain ⟨j, hj, rfl⟩ := List.getElem_of_mem hx
  by_cases e : r ≤ j
  ·have : ordV q k l[j].1 < 0 := h0 j hj e
   simp [atK]
   omega
  ·have h1 := h.lo j hj (by omega)
   have h2 := ordV_turn q k l[j].1
   simp [atK]
   omega

theorem PlK.some_at {q : Nat} {k : VT} {l : List PT} {r : Nat} (h : PlK q k l r) (hs : RT.Rises (byK q) l) (hr : r < l.length) (hz : ordV q l[r].1 k = 0) : l.drop (r + 1) = l.filter (fun a => decide (atK q k a < 0)) ∧ findK q k l = some l[r] ∧ l.take r ++ l.drop (r + 1) = lessK q k l := by
 have hz' : ordV q k l[r].1 = 0 := by have := ordV_turn q l[r].1 k; omega
 have h0 : ∀ j (hj : j < l.length), r < j → atK q k l[j] < 0 := by
  intro j hj hrj
  have h4 := List.pairwise_iff_getElem.1 hs r j hr hj hrj
  exact (byK_cmp q).trans (k, k) l[r] l[j] (by show ordV q k l[r].1 ≤ 0; omega) h4
 have hlo : ∀ j (hj : j < l.length), j < r → 0 < atK q k l[j] := by
  intro j hj hjr
  have h1 := h.lo j hj hjr
  have h2 := ordV_turn q k l[j].1
  show 0 < ordV q k l[j].1
  omega
 have ed : l.drop r = l[r] :: l.drop (r + 1) := List.drop_eq_getElem_cons hr
 have e1 : ∀ (p : PT → Bool), l.filter p = (l.take r).filter p ++ ((if p l[r] then [l[r]] else []) ++ (l.drop (r + 1)).filter p) := by
  intro p
  conv => lhs; rw [← List.take_append_drop r l, ed]
  rw [List.filter_append, List.filter_cons]
  split <;> simp
 refine ⟨?_, ?_, ?_⟩
 ·rw [e1, List.filter_eq_nil_iff.2, List.filter_eq_self.2]
  ·have : ¬ atK q k l[r] < 0 := by show ¬ ordV q k l[r].1 < 0; omega
   simp [this]
  ·intro x hx
   obtain ⟨j, hj, rfl⟩ := List.getElem_of_mem hx
   rw [List.length_drop] at hj
   rw [List.getElem_drop]
   have := h0 (r + 1 + j) (by omega) (by omega)
   simpa using this
  ·intro x hx
   obtain ⟨j, hj, rfl⟩ := List.getElem_of_mem hx
   rw [List.length_take] at hj
   rw [List.getElem_take]
   have : 0 < ordV q k l[j].1 := hlo j (by omega) (by omega)
   simp [atK]
   omega
 ·unfold findK
  conv => lhs; rw [← List.take_append_drop r l, ed]
  rw [List.find?_append, List.find?_eq_none.2, List.find?_cons_of_pos]
  ·rfl
  ·show decide (ordV q k l[r].1 = 0) = true
   simpa using hz'
  ·intro x hx
   obtain ⟨j, hj, rfl⟩ := List.getElem_of_mem hx
   rw [List.length_take] at hj
   rw [List.getElem_take]
   have : 0 < ordV q k l[j].1 := hlo j (by omega) (by omega)
   simp [atK]
   omega
 ·unfold lessK
  rw [e1, List.filter_eq_self.2, List.filter_eq_self.2]
  ·have : ¬ ordV q k l[r].1 ≠ 0 := by omega
   simp [this]
  ·intro x hx
   obtain ⟨j, hj, rfl⟩ := List.getElem_of_mem hx
   rw [List.length_drop] at hj
   rw [List.getElem_drop]
   have : ordV q k l[r + 1 + j].1 < 0 := h0 (r + 1 + j) (by omega) (by omega)
   simp
   omega
  ·intro x hx
   obtain ⟨j, hj, rfl⟩ := List.getElem_of_mem hx
   rw [List.length_take] at hj
   rw [List.getElem_take]
   have : 0 < ordV q k l[j].1 := hlo j (by omega) (by omega)
   simp
   omega

end Go.Proofs.YtlnecfjnffdciaaGreat

namespace Go.Proofs.YtlnecfjnffdciaaGreat
open Go.RowKit Go.Shelf

set_option maxRecDepth 100000 in
set_option maxHeartbeats 4000000 in
theorem natural_14 (d : Nat) (x : PT) (k : VT) (ku vu uk : Value) (w : World) (hx : Lies d w x.1.items ku) (hk : Lies d w k.items uk) : Calls Tryz.prog 94 #[.agg #[.int .i64 x.1.kind, .int .i64 x.1.num, .string x.1.text, ku, .int .i64 x.2.kind, .int .i64 x.2.num, .string x.2.text, vu], .agg #[.int .i64 k.kind, .int .i64 k.num, .string k.text, uk]] w fun e w' => e = .returned (.int .i64 (cmpV d x.1 k)) ∧ Below w.heap.size w w' := by
 have HC : Hid (∀ V, Below w.heap.size w V → Calls Tryz.prog 118 #[.agg #[.int .i64 x.1.kind, .int .i64 x.1.num, .string x.1.text, ku], .agg #[.int .i64 k.kind, .int .i64 k.num, .string k.text, uk]] V fun e w' => e = .returned (.int .i64 (cmpV d x.1 k)) ∧ Grew V w') := fun V hV => compare_any d x.1 k ku uk V (Lies.keeps hV _ _ _ hx) (Lies.keeps hV _ _ _ hk)
 have HB : Hid (∀ A B, Below w.heap.size w ((w.alloc A).alloc B)) := fun A B => (((Grew.refl w).alloc A).alloc B).below
 clear hx hk
 go_enter Tryz.func94, Tryz.ntmps94
 go_wp2_with fail
 refine (HC.out _ (HB.out _ _)).mono ?_
 rintro e w1 ⟨rfl, hg⟩
 have hb1 : Below w.heap.size w w1 := (HB.out _ _).trans (hg.below.mono (HB.out _ _).size)
 clear hg
 go_wp2_with fail
 go_ret
 exact ⟨rfl, hb1⟩

set_option maxRecDepth 100000 in
set_option maxHeartbeats 4000000 in
theorem sorted1_14 (d : Nat) : CmpQ 93 (GoodQ d) (cmpQ d) := by
 intro p r W hp hr
 obtain ⟨⟨t, u⟩, ⟨t2, u2⟩⟩ := p
 obtain ⟨⟨s, v⟩, ⟨s2, v2⟩⟩ := r
 have HC : Hid (∀ V, Below W.heap.size W V → Calls Tryz.prog 94 #[.agg #[.int .i64 t.kind, .int .i64 t.num, .string t.text, u, .int .i64 t2.kind, .int .i64 t2.num, .string t2.text, u2], .agg #[.int .i64 s.kind, .int .i64 s.num, .string s.text, v]] V fun e w' => e = .returned (.int .i64 (cmpV d t s)) ∧ Below V.heap.size V w') := fun V hV => natural_14 d (t, t2) s u u2 v V (Lies.keeps hV _ _ _ hp.1.1) (Lies.keeps hV _ _ _ hr.1.1)
 show Calls Tryz.prog 93 #[.agg #[.int .i64 t.kind, .int .i64 t.num, .string t.text, u, .int .i64 t2.kind, .int .i64 t2.num, .string t2.text, u2], .agg #[.int .i64 s.kind, .int .i64 s.num, .string s.text, v, .int .i64 s2.kind, .int .i64 s2.num, .string s2.text, v2]] W fun e W' => e = .returned (.int .i64 (cmpV d t s)) ∧ Below W.heap.size W W'
 have HB : Hid (∀ A B, Below W.heap.size W ((W.alloc A).alloc B)) := fun A B => (((Grew.refl W).alloc A).alloc B).below
 clear hp hr
 go_enter Tryz.func93, Tryz.ntmps93
 go_wp2_with fail
 refine (HC.out _ (HB.out _ _)).mono ?_
 rintro e w1 ⟨rfl, hg⟩
 have hb1 : Below W.heap.size W w1 := (HB.out _ _).trans (hg.mono (HB.out _ _).size)
 clear hg
 go_wp2_with fail
 go_ret
 exact ⟨rfl, hb1⟩

set_option maxRecDepth 100000 in
set_option maxHeartbeats 8000000 in
theorem search_14 (d : Nat) (qs : List PP) (v : Value) (k : VT) (uk : Value) (w : World) (hv : SlQ 0 d w qs v) (hk : Lies d w k.items uk) (hlen : qs.length ≤ 65536)
 (K : Nat) (hK : K < qs.length) (hlo : ∀ t (h : t < qs.length), t < K → cmpV d qs[t].1.1 k < 0) (hhi : ∀ t (h : t < qs.length), K ≤ t → ¬ cmpV d qs[t].1.1 k < 0) (hF : cmpV d qs[K].1.1 k = 0) :
 Calls Tryz.prog 96 #[v, .agg #[.int .i64 k.kind, .int .i64 k.num, .string k.text, uk], .func (.func 94) #[] #[]] w fun e w' => e = .returned (.tuple #[.int .i64 (K : Int), .bool true]) ∧ Below w.heap.size w w' := by
 obtain ⟨ak, ck, rfl, _⟩ := Lies.slice hk
 obtain ⟨b, o, c, rfl, _, hrow, hgd⟩ := hv.full (fun e => by rw [e] at hK; cases hK)
 have Hr : Hid (QAt w b o qs) := hrow
 have HG : Hid (∀ p ∈ qs, GoodQ d w p) := hgd
 have HT : Hid (Lies d w k.items (.slice ak k.items.length ck)) := hk
 have Hlo : Hid _ := hlo
 have Hhi : Hid _ := hhi
 have HF : Hid (∀ (h : K < qs.length), cmpV d qs[K].1.1 k = 0) := fun _ => hF
 have eg : ∀ args w, (callFunc 94 args).run Tryz.prog w = .ok (.enter 94 args) w := enters_of Tryz.func94 (by kernel_rfl) rfl
 obtain ⟨n, hn⟩ : ∃ n, n = qs.length := ⟨_, rfl⟩
 have HNn : Hid (n = qs.length) := hn
 rw [← hn] at hlen ⊢
 have HKn : Hid (K < qs.length) := hK
 have hKn : K < n := by omega
 have HB0 : Hid (Bx (w.alloc (.cells #[.int .i64 k.kind, .int .i64 k.num, .string k.text, .slice ak k.items.length ck] 34)) w.heap.size k (.slice ak k.items.length ck)) := bx_alloc w k _
 clear hrow hgd hk hlo hhi hF hv hn hK
 go_enter Tryz.func96, Tryz.ntmps96
 go_wp2_with fail
 go_loopg [9, 10] n (fun q i j wr => ∃ a e : Nat, i = .int .i64 (a : Int) ∧ j = .int .i64 (e : Int) ∧ q = e - a ∧ a ≤ K ∧ K ≤ e ∧ e ≤ n ∧ Hid (Bx wr w.heap.size k (.slice ak k.items.length ck)) ∧ Hid (Below w.heap.size w wr))
 case atStart => exact ⟨0, n, rfl, rfl, by omega, by omega, by omega, Nat.le_refl _, HB0, ((Grew.refl _).alloc _).below⟩
 case round =>
  obtain ⟨a, e, rfl, rfl, hq, haK, hKe, hen, HBx, HB⟩ := hrel
  have Hq : Hid _ := hq
  have hbw := HB.out
  clear hq HB0
  by_cases hlt : a < e
  ·obtain ⟨h, hh⟩ : ∃ h, h = (a + e) / 2 := ⟨_, rfl⟩
   have Hh : Hid (h = (a + e) / 2) := hh
   have hl1 : h < qs.length := by have := HNn.out; omega
   have hlti : (a : Int) < (e : Int) := by omega
   have hd : ((a : Int) + (e : Int)) / 2 = (h : Int) := by omega
   have hhn : h < n := by omega
   have hhi1 : (h : Int) < (n : Nat) := by omega
   clear hh
   have h8 := Hr.out.at h hl1
   have gp := HG.out qs[h] (List.getElem_mem hl1)
   have HLo : Hid (h < K → cmpV d qs[h].1.1 k < 0) := fun hk => Hlo.out h hl1 hk
   have HHi : Hid (K ≤ h → ¬ cmpV d qs[h].1.1 k < 0) := fun hk => by have := Hhi.out h hl1 hk; omega
   generalize qs[h] = x at *
   obtain ⟨⟨t1, u1⟩, ⟨t2, u2⟩⟩ := x
   obtain ⟨a1, c1, hu1, _⟩ := Lies.slice gp.1.1
   obtain ⟨a2, c2, hu2, _⟩ := Lies.slice gp.2.1
   simp only at hu1 hu2
   subst hu1 hu2
   obtain ⟨p0, p1, p2, p3, p4, p5, p6, p7⟩ := h8.keeps hbw
   simp only at p0 p1 p2 p3 p4 p5 p6 p7
   obtain ⟨r0, r1, r2, r3, _⟩ := HBx.out
   have HN : Hid (∀ V, Below wr.heap.size wr V → Calls Tryz.prog 94 #[.agg #[.int .i64 t1.kind, .int .i64 t1.num, .string t1.text, (.slice a1 t1.items.length c1), .int .i64 t2.kind, .int .i64 t2.num, .string t2.text, (.slice a2 t2.items.length c2)], .agg #[.int .i64 k.kind, .int .i64 k.num, .string k.text, .slice ak k.items.length ck]] V fun e w' => e = .returned (.int .i64 (cmpV d t1 k)) ∧ Below V.heap.size V w') := fun V hV => natural_14 d (t1, t2) k _ _ _ V (Lies.keeps (hbw.trans (hV.mono hbw.size)) _ _ _ gp.1.1) (Lies.keeps (hbw.trans (hV.mono hbw.size)) _ _ _ HT.out)
   have HZl : Hid (h < K → cmpV d t1 k < 0) := HLo
   have HZh : Hid (K ≤ h → ¬ cmpV d t1 k < 0) := HHi
   obtain ⟨Z, hZ⟩ : ∃ Z, Z = cmpV d t1 k := ⟨_, rfl⟩
   rw [← hZ] at HN HZl HZh
   clear gp h8 HLo HHi hZ
   go_wp2_with fail
   go_region_held3 (fun w' => w'.cell? ⟨b, o + h * 8, none⟩ = some (.int .i64 t1.kind) ∧ w'.cell? ⟨b, o + h * 8 + 1, none⟩ = some (.int .i64 t1.num) ∧ w'.cell? ⟨b, o + h * 8 + 2, none⟩ = some (.string t1.text) ∧ w'.cell? ⟨b, o + h * 8 + 3, none⟩ = some (.slice a1 t1.items.length c1) ∧ w'.cell? ⟨b, o + h * 8 + 4, none⟩ = some (.int .i64 t2.kind) ∧ w'.cell? ⟨b, o + h * 8 + 5, none⟩ = some (.int .i64 t2.num) ∧ w'.cell? ⟨b, o + h * 8 + 6, none⟩ = some (.string t2.text) ∧ w'.cell? ⟨b, o + h * 8 + 7, none⟩ = some (.slice a2 t2.items.length c2) ∧ w'.cell? ⟨w.heap.size, 0, none⟩ = some (.int .i64 k.kind) ∧ w'.cell? ⟨w.heap.size, 1, none⟩ = some (.int .i64 k.num) ∧ w'.cell? ⟨w.heap.size, 2, none⟩ = some (.string k.text) ∧ w'.cell? ⟨w.heap.size, 3, none⟩ = some (.slice ak k.items.length ck)) (go_keep)
    (first | (go_at_fn 94; (with_reducible refine Calls.mono (HN.out _ ((Below.refl _ _).drew)) ?_); rintro ee w1 ⟨rfl, hg1⟩; have hb1' : Below wr.heap.size wr w1 := (Below.refl _ _).drew.trans hg1; have hb1 : Below w.heap.size w w1 := hbw.trans (hb1'.mono hbw.size); have p0 := cell_keeps hb1' p0; have p1 := cell_keeps hb1' p1; have p2 := cell_keeps hb1' p2; have p3 := cell_keeps hb1' p3; have p4 := cell_keeps hb1' p4; have p5 := cell_keeps hb1' p5; have p6 := cell_keeps hb1' p6; have p7 := cell_keeps hb1' p7; have r0 := cell_keeps hb1' r0; have r1 := cell_keeps hb1' r1; have r2 := cell_keeps hb1' r2; have r3 := cell_keeps hb1' r3; clear hg1))
   have HBx1 : Hid (Bx w1 w.heap.size k (.slice ak k.items.length ck)) := HBx.out.keeps hb1'
   clear p0 p1 p2 p3 p4 p5 p6 p7 r0 r1 r2 r3 hb1' HBx HN
   by_cases hz : Z < 0
   ·have hhK : h < K := by
     by_cases hk : h < K
     ·exact hk
     ·have := HZh.out (by omega); omega
    go_wp2_with fail
    go_roundg (e - (h + 1))
    case measure => have := Hq.out; have := Hh.out; omega
    case rel => exact ⟨h + 1, e, by go_num, rfl, rfl, by omega, hKe, hen, HBx1, hb1⟩
   ·have hhK : K ≤ h := by
     by_cases hk : h < K
     ·exact absurd (HZl.out hk) hz
     ·omega
    go_wp2_with fail
    go_roundg (h - a)
    case measure => have := Hq.out; have := Hh.out; omega
    case rel => exact ⟨a, h, rfl, by go_num, rfl, haK, hhK, by have := Hh.out; omega, HBx1, hb1⟩
  ·have haK2 : a = K := by omega
   have hnlt : ¬ (a : Int) < (e : Int) := by omega
   have hendi : (a : Int) < (n : Nat) := by omega
   have hl1 : K < qs.length := HKn.out
   have h8 := Hr.out.at K hl1
   have gp := HG.out qs[K] (List.getElem_mem hl1)
   have HZ : Hid (cmpV d qs[K].1.1 k = 0) := HF.out hl1
   clear HF Hlo Hhi
   generalize qs[K] = x at *
   obtain ⟨⟨t1, u1⟩, ⟨t2, u2⟩⟩ := x
   obtain ⟨a1, c1, hu1, _⟩ := Lies.slice gp.1.1
   obtain ⟨a2, c2, hu2, _⟩ := Lies.slice gp.2.1
   simp only at hu1 hu2
   subst hu1 hu2
   subst haK2
   obtain ⟨p0, p1, p2, p3, p4, p5, p6, p7⟩ := h8.keeps hbw
   simp only at p0 p1 p2 p3 p4 p5 p6 p7
   obtain ⟨r0, r1, r2, r3, _⟩ := HBx.out
   have HN : Hid (∀ V, Below wr.heap.size wr V → Calls Tryz.prog 94 #[.agg #[.int .i64 t1.kind, .int .i64 t1.num, .string t1.text, (.slice a1 t1.items.length c1), .int .i64 t2.kind, .int .i64 t2.num, .string t2.text, (.slice a2 t2.items.length c2)], .agg #[.int .i64 k.kind, .int .i64 k.num, .string k.text, .slice ak k.items.length ck]] V fun e w' => e = .returned (.int .i64 0) ∧ Below V.heap.size V w') := fun V hV => by
    have h9 := natural_14 d (t1, t2) k (.slice a1 t1.items.length c1) (.slice a2 t2.items.length c2) (.slice ak k.items.length ck) V (Lies.keeps (hbw.trans (hV.mono hbw.size)) _ _ _ gp.1.1) (Lies.keeps (hbw.trans (hV.mono hbw.size)) _ _ _ HT.out)
    have e0 : cmpV d t1 k = 0 := HZ.out
    rwa [e0] at h9
   clear gp h8 HZ
   go_wp2_with fail
   go_region_held3 (fun w' => w'.cell? ⟨b, o + a * 8, none⟩ = some (.int .i64 t1.kind) ∧ w'.cell? ⟨b, o + a * 8 + 1, none⟩ = some (.int .i64 t1.num) ∧ w'.cell? ⟨b, o + a * 8 + 2, none⟩ = some (.string t1.text) ∧ w'.cell? ⟨b, o + a * 8 + 3, none⟩ = some (.slice a1 t1.items.length c1) ∧ w'.cell? ⟨b, o + a * 8 + 4, none⟩ = some (.int .i64 t2.kind) ∧ w'.cell? ⟨b, o + a * 8 + 5, none⟩ = some (.int .i64 t2.num) ∧ w'.cell? ⟨b, o + a * 8 + 6, none⟩ = some (.string t2.text) ∧ w'.cell? ⟨b, o + a * 8 + 7, none⟩ = some (.slice a2 t2.items.length c2) ∧ w'.cell? ⟨w.heap.size, 0, none⟩ = some (.int .i64 k.kind) ∧ w'.cell? ⟨w.heap.size, 1, none⟩ = some (.int .i64 k.num) ∧ w'.cell? ⟨w.heap.size, 2, none⟩ = some (.string k.text) ∧ w'.cell? ⟨w.heap.size, 3, none⟩ = some (.slice ak k.items.length ck)) (go_keep)
    (first | (go_at_fn 94; (with_reducible refine Calls.mono (HN.out _ ((Below.refl _ _).drew)) ?_); rintro ee w1 ⟨rfl, hg1⟩; have hb1' : Below wr.heap.size wr w1 := (Below.refl _ _).drew.trans hg1; have hb1 : Below w.heap.size w w1 := hbw.trans (hb1'.mono hbw.size); have p0 := cell_keeps hb1' p0; have p1 := cell_keeps hb1' p1; have p2 := cell_keeps hb1' p2; have p3 := cell_keeps hb1' p3; have p4 := cell_keeps hb1' p4; have p5 := cell_keeps hb1' p5; have p6 := cell_keeps hb1' p6; have p7 := cell_keeps hb1' p7; have r0 := cell_keeps hb1' r0; have r1 := cell_keeps hb1' r1; have r2 := cell_keeps hb1' r2; have r3 := cell_keeps hb1' r3; clear hg1))
   all_goals (first | (go_ret2; exact ⟨rfl, hb1⟩) | (go_wp2_with fail; go_ret2; exact ⟨rfl, hb1⟩))

end Go.Proofs.YtlnecfjnffdciaaGreat

namespace Go.Proofs.YtlnecfjnffdciaaGreat
open Go.RowKit Go.Shelf

theorem withK_mem {q : Nat} {k v : VT} {l : List PT} {x : PT} (h : x ∈ withK q k v l) : x = (k, v) ∨ x ∈ l := by
 unfold withK at h
 rcases List.mem_append.1 h with h | h
 ·exact .inr (List.mem_filter.1 h).1
 ·rcases List.mem_cons.1 h with h | h
  ·exact .inl h
  ·exact .inr (List.mem_filter.1 h).1

theorem withK_rises {q : Nat} {k v : VT} {l : List PT} (h : RT.Rises (byK q) l) : RT.Rises (byK q) (withK q k v l) := by
 unfold withK RT.Rises
 have e1 : ∀ x ∈ l.filter (fun a => decide (0 < atK q k a)), byK q x (k, v) < 0 := fun x hx => by
  have h1 : 0 < ordV q k x.1 := by simpa using (List.mem_filter.1 hx).2
  have h2 := ordV_turn q k x.1
  show ordV q x.1 k < 0
  omega
 have e2 : ∀ x ∈ l.filter (fun a => decide (atK q k a < 0)), byK q (k, v) x < 0 := fun x hx => by
  have h1 : ordV q k x.1 < 0 := by simpa using (List.mem_filter.1 hx).2
  exact h1
 rw [List.pairwise_append, List.pairwise_cons]
 refine ⟨h.filter _, ⟨e2, h.filter _⟩, fun a ha b hb => ?_⟩
 rcases List.mem_cons.1 hb with rfl | hb
 ·exact e1 a ha
 ·exact (byK_cmp q).trans a (k, v) b (Int.le_of_lt (e1 a ha)) (e2 b hb)

theorem lessK_rises {q : Nat} {k : VT} {l : List PT} (h : RT.Rises (byK q) l) : RT.Rises (byK q) (lessK q k l) := h.filter _

end Go.Proofs.YtlnecfjnffdciaaGreat

