/-
  Sorted maps: Assoc.
-/
import Derived.Test.YtekoaiehhjgfiabGreatMapN
namespace Go.Proofs.YtekoaiehhjgfiabGreat
open Go.RowKit Go.Shelf

/-- What find says of a tree that rises. -/
theorem find_some {q : Nat} {t : RT PT} (hs : RT.Rises (byK q) t.items) {k v : VT} {x : PT} (h : RT.find (atK q k) t = some x) : x ∈ t.items ∧ ordV q k x.1 = 0 := by
  have e := RT.find_eq (atK q k) t (RT.Rises.falls (byK_cmp q) hs (k, v))
  rw [e] at h
  exact ⟨List.mem_of_find?_eq_some h, by simpa using List.find?_some h⟩

theorem find_none {q : Nat} {t : RT PT} (hs : RT.Rises (byK q) t.items) {k v : VT} (h : RT.find (atK q k) t = none) : ∀ x ∈ t.items, ordV q k x.1 ≠ 0 := by
  have e := RT.find_eq (atK q k) t (RT.Rises.falls (byK_cmp q) hs (k, v))
  rw [e] at h
  intro x hx
  have := List.find?_eq_none.1 h x hx
  simpa using this

/-- What Dissoc leaves. -/
def lessK (q : Nat) (k : VT) (l : List PT) : List PT := l.filter (fun y => decide (ordV q k y.1 ≠ 0))

theorem less_none {q : Nat} {k : VT} {l : List PT} (h : ∀ x ∈ l, ordV q k x.1 ≠ 0) : lessK q k l = l := by
  unfold lessK
  rw [List.filter_eq_self]
  intro a ha
  exact decide_eq_true (h a ha)

/-- A map's call that tells a map or an error. -/
def OrPost (q : Nat) (l : List PT) (E : Int) (w : World) (e : Ending) (w' : World) : Prop := Below w.heap.size w w' ∧ ((E ≠ 0 ∧ e = .returned (.tuple #[.pointer none, .int .i64 E])) ∨ (E = 0 ∧ ∃ t b, e = .returned (.tuple #[.pointer (some ⟨b, 0, none⟩), .int .i64 0]) ∧ MC w' q t b ∧ t.items = l))

set_option maxRecDepth 100000 in
set_option maxHeartbeats 8000000 in
theorem dissoc_14 (d b q : Nat) (t : RT PT) (k : VT) (ku : Value) (w : World) (hm : MC w q t b) (hk : Lies d w k.items ku) (ht : k.text.size ≤ 9223372036854775807) : Calls Tryz.prog 20 #[.pointer (some ⟨b, 0, none⟩), .agg #[.int .i64 k.kind, .int .i64 k.num, .string k.text, ku]] w (OrPost q (lessK q k t.items) (errOf (rightV d k)) w) := by
  obtain ⟨ak, ck, rfl, _⟩ := Lies.slice hk
  have hb0 : ∀ o, Below w.heap.size w (w.alloc o) := fun o => ((Grew.refl w).alloc o).below
  cases hr : rightV d k with
  | false =>
    have HF : Hid (∀ o, Calls Tryz.prog 57 #[.pointer (some ⟨b, 0, none⟩), .agg #[.int .i64 k.kind, .int .i64 k.num, .string k.text, .slice ak k.items.length ck]] (w.alloc o) fun e w' => e = .returned (.tuple #[.pointer none, .int .i64 3]) ∧ Below (w.alloc o).heap.size (w.alloc o) w') := fun o => mfind_wrong d b k _ (w.alloc o) (Lies.keeps (hb0 o) _ _ _ hk) ht hr
    have HP : Hid (∀ w', Below w.heap.size w w' → OrPost q (lessK q k t.items) (errOf false) w (.returned (.tuple #[.pointer none, .int .i64 3])) w') := fun w' h => ⟨h, .inl ⟨by decide, rfl⟩⟩
    have HB : Hid _ := hb0
    clear hk ht hm hb0
    go_enter Tryz.func20, Tryz.ntmps20
    go_wp2_with fail
    refine (own_14 _ _).mono ?_
    rintro e w1 ⟨rfl, rfl⟩
    go_wp2_with fail
    refine (HF.out _).mono ?_
    rintro e w2 ⟨rfl, hg⟩
    have HE : Hid _ := HP.out w2 ((HB.out _).trans (hg.mono (HB.out _).size))
    clear hg
    go_wp2_with fail
    go_ret2
    exact HE.out
  | true =>
    obtain ⟨h16, hr16⟩ := canon hk hr
    have HF : Hid (∀ o, Calls Tryz.prog 57 #[.pointer (some ⟨b, 0, none⟩), .agg #[.int .i64 k.kind, .int .i64 k.num, .string k.text, .slice ak k.items.length ck]] (w.alloc o) (MFindPost q t k (w.alloc o))) := fun o => mfind_right d b q t k _ (w.alloc o) (hm.keeps (hb0 o)) (Lies.keeps (hb0 o) _ _ _ hk) ht hr
    have he : errOf true = 0 := rfl
    rw [he]
    have HM : Hid (MC w q t b) := hm
    obtain ⟨po, hpo, hn⟩ := hm.top
    have HA : Hid (∀ V, Below w.heap.size w V → Calls Tryz.prog 62 #[.pointer (some ⟨b, 0, none⟩), .agg #[.int .i64 k.kind, .int .i64 k.num, .string k.text, .slice ak k.items.length ck]] V (AtPost q k V)) := fun V hV => at_14 q b hm.q6 k _ V (cell_keeps hV hm.ord) (Lies.keeps hV _ _ _ h16) ht hr16
    have HW : Hid (∀ V q1 q2, Below w.heap.size w V → AtC TT 16 100 q1 q2 (atK q k) (fun x => rightV 16 x.1 = true) V → Calls Tryz.prog 63 #[.pointer po, .func (.func 100) #[] #[.pointer q1, .pointer q2]] V (TreePost TT 16 (RT.without (atK q k) t) V)) := fun V q1 q2 hV ha => without_14 TT 16 100 q1 q2 po (atK q k) _ eg_at1 t V ha (hn.keeps hV) hm.well (fun x hx => (hm.right x hx).1.1) (by have := hm.size; omega)
    have hitems : (RT.without (atK q k) t).items = lessK q k t.items := RT.without_eq (byK_cmp q) hm.rises (k, k)
    have HO : Hid (∀ V p, Below w.heap.size w V → NM TT 16 V (RT.without (atK q k) t) p → Calls Tryz.prog 45 #[.pointer (some ⟨b, 0, none⟩), .pointer p] V (MapPost14 q (lessK q k t.items) V)) := fun V p hV hp => by
      have h9 := of_14 b q (RT.without (atK q k) t) p V (cell_keeps hV hm.ord) hp (RT.without_well _ hm.well) hm.q6 (fun x hx => hm.right x (by rw [hitems] at hx; exact (List.mem_filter.1 hx).1)) (by rw [hitems]; exact List.Pairwise.filter _ hm.rises) (by
        rw [RT.size_items, hitems]
        have h1 := List.length_filter_le (fun y : PT => decide (ordV q k y.1 ≠ 0)) t.items
        have h2 := hm.size
        rw [RT.size_items] at h2
        exact Nat.le_trans h1 h2)
      rwa [hitems] at h9
    have HN : Hid (RT.find (atK q k) t = none → lessK q k t.items = t.items) := fun h => less_none (find_none (v := k) hm.rises h)
    have HB : Hid _ := hb0
    clear hk ht hr hb0 hn h16 hr16 he hitems hm
    go_enter Tryz.func20, Tryz.ntmps20
    go_wp2_with fail
    obtain ⟨W0, hW0⟩ : ∃ W0, W0 = w.alloc (.cells #[.int .i64 k.kind, .int .i64 k.num, .string k.text, .slice ak k.items.length ck] 43) := ⟨_, rfl⟩
    have HCk : Hid _ := HF.out (.cells #[.int .i64 k.kind, .int .i64 k.num, .string k.text, .slice ak k.items.length ck] 43)
    rw [← hW0] at HCk ⊢
    have hb0 : Below w.heap.size w W0 := by rw [hW0]; exact HB.out _
    have k0 : W0.cell? ⟨w.heap.size, 0, none⟩ = some (.int .i64 k.kind) := by rw [hW0]; simp
    have k1 : W0.cell? ⟨w.heap.size, 1, none⟩ = some (.int .i64 k.num) := by rw [hW0]; simp
    have k2 : W0.cell? ⟨w.heap.size, 2, none⟩ = some (.string k.text) := by rw [hW0]; simp
    have k3 : W0.cell? ⟨w.heap.size, 3, none⟩ = some (.slice ak k.items.length ck) := by rw [hW0]; simp
    clear hW0 HF
    refine (own_14 _ _).mono ?_
    rintro e w1 ⟨rfl, hw⟩
    obtain rfl : W0 = w1 := hw.symm
    go_wp2_with fail
    refine Calls.mono HCk.out ?_
    rintro e w1 ⟨p1, rfl, hf⟩
    have hg := hf.1
    have hb1 : Below w.heap.size w w1 := hb0.trans (hg.mono hb0.size)
    have k0 := cell_keeps hg k0; have k1 := cell_keeps hg k1; have k2 := cell_keeps hg k2; have k3 := cell_keeps hg k3
    have hpo := cell_keeps hb1 hpo
    rcases hf.2 with ⟨hnone, he⟩ | ⟨x, xb, xl, xr, xk, xv, xc, xs, xh, xn, hsome, he, hcl, hlx⟩
    · obtain rfl : p1 = none := by injection he with he; injection he
      have HE : Hid (OrPost q (lessK q k t.items) 0 w (.returned (.tuple #[.pointer (some ⟨b, 0, none⟩), .int .i64 0])) w1) := ⟨hb1, .inr ⟨rfl, t, b, rfl, HM.out.keeps hb1, (HN.out hnone).symm⟩⟩
      clear hf hg he hnone
      go_wp2_with fail
      go_ret2
      exact HE.out
    · obtain rfl : p1 = some ⟨xb, 0, none⟩ := by injection he with he; injection he
      clear hf hg he hsome hcl hlx HN HCk
      go_wp2_with fail
      go_region_held3 (fun w' => w'.cell? ⟨b, 1, none⟩ = some (.pointer po) ∧ w'.cell? ⟨w.heap.size, 0, none⟩ = some (.int .i64 k.kind) ∧ w'.cell? ⟨w.heap.size, 1, none⟩ = some (.int .i64 k.num) ∧ w'.cell? ⟨w.heap.size, 2, none⟩ = some (.string k.text) ∧ w'.cell? ⟨w.heap.size, 3, none⟩ = some (.slice ak k.items.length ck)) (go_keep)
        (first
          | (go_at_call 62; (with_reducible refine Calls.mono (HA.out _ hb1.drew) ?_); rintro e w2 ⟨hg, q1, q2, rfl, ha⟩; have HAC : Hid (AtC TT 16 100 q1 q2 (atK q k) (fun x => rightV 16 x.1 = true) w2) := ha TT; have hb2 : Below w.heap.size w w2 := hb1.drew.trans (hg.mono hb1.drew.size); have hg2 : Below w1.heap.size w1 w2 := (Below.refl _ _).drew.trans hg; have k0 := cell_keeps hg2 k0; have k1 := cell_keeps hg2 k1; have k2 := cell_keeps hg2 k2; have k3 := cell_keeps hg2 k3; have hpo := cell_keeps hg2 hpo; clear hg ha)
          | (go_at_call 63; (with_reducible refine Calls.mono (HW.out _ _ _ hb2 HAC.out) ?_); rintro e w3 ⟨hg3, p3, rfl, ht3⟩; have hb3 : Below w.heap.size w w3 := hb2.trans (hg3.mono hb2.size); have HT3 : Hid (NM TT 16 w3 (RT.without (atK q k) t) p3) := ht3; have k0 := cell_keeps hg3 k0; have k1 := cell_keeps hg3 k1; have k2 := cell_keeps hg3 k2; have k3 := cell_keeps hg3 k3; have hpo := cell_keeps hg3 hpo; clear ht3)
          | (go_at_call 45; (with_reducible refine Calls.mono (HO.out _ _ hb3 HT3.out) ?_); rintro e w4 ⟨hg4, t4, b4, rfl, hm4, hi4⟩; have HE : Hid (OrPost q (lessK q k t.items) 0 w (.returned (.tuple #[.pointer (some ⟨b4, 0, none⟩), .int .i64 0])) w4) := ⟨hb3.trans (hg4.mono hb3.size), .inr ⟨rfl, t4, b4, rfl, hm4, hi4⟩⟩; have k0 := cell_keeps hg4 k0; have k1 := cell_keeps hg4 k1; have k2 := cell_keeps hg4 k2; have k3 := cell_keeps hg4 k3; have hpo := cell_keeps hg4 hpo; clear hm4 hi4))
      all_goals (first | (go_ret2; exact HE.out) | (go_wp2_with fail; go_ret2; exact HE.out))

end Go.Proofs.YtekoaiehhjgfiabGreat

namespace Go.Proofs.YtekoaiehhjgfiabGreat
open Go.RowKit Go.Shelf

/-- What is wrong with a pair to be put in. -/
def assocE (d q : Nat) (k v : VT) (t : RT PT) : Int := if rightV d k = false then 3 else if rightV d v = false then 3 else if RT.find (atK q k) t = none ∧ t.size = 65536 then 2 else 0

theorem with_len (g : PT → Int) (x : PT) (t : RT PT) (h : RT.Falls g t.items) : (RT.with_ g x t).size ≤ t.size + 1 ∧ ((∃ y ∈ t.items, g y = 0) → (RT.with_ g x t).size ≤ t.size) := by
  have e := RT.with_items g x t h
  have f := RT.falls_parts g t.items h
  have l1 := congrArg List.length e
  have l2 := congrArg List.length f
  rw [RT.size_items, RT.size_items]
  simp only [List.length_append, List.length_cons] at l1 l2
  refine ⟨by omega, fun ⟨y, hy, hg⟩ => ?_⟩
  have : 0 < (t.items.filter (fun a => decide (g a = 0))).length := List.length_pos_of_mem (List.mem_filter.2 ⟨hy, decide_eq_true hg⟩)
  omega

theorem with_same {q : Nat} {t : RT PT} (hs : RT.Rises (byK q) t.items) {x : PT} (hx : x ∈ t.items) : (RT.with_ (byK q x) x t).items = t.items := by
  refine RT.rises_eq (byK_cmp q) _ _ (RT.with_rises (byK_cmp q) hs x) hs fun y => ?_
  rw [RT.mem_with (byK_cmp q) hs x y]
  refine ⟨fun h => ?_, fun h => ?_⟩
  · rcases h with rfl | h
    · exact hx
    · exact h.1
  · by_cases h0 : byK q x y = 0
    · refine .inl ?_
      obtain ⟨i, hi, rfl⟩ := List.getElem_of_mem hx
      obtain ⟨j, hj, rfl⟩ := List.getElem_of_mem h
      have hpw := List.pairwise_iff_getElem.1 hs
      rcases Nat.lt_trichotomy i j with hlt | heq | hgt
      · have := hpw i j hi hj hlt; omega
      · subst heq; rfl
      · have h9 := hpw j i hj hi hgt
        have h8 : ordV q (t.items[j]).1 (t.items[i]).1 < 0 := h9
        have h7 : ordV q (t.items[i]).1 (t.items[j]).1 = 0 := h0
        have := ordV_turn q (t.items[j]).1 (t.items[i]).1
        omega
    · exact .inr ⟨h, h0⟩

set_option maxRecDepth 100000 in
set_option maxHeartbeats 16000000 in
theorem assoc_14 (d b q : Nat) (t : RT PT) (k v : VT) (ku vu : Value) (w : World) (hm : MC w q t b) (hk : Lies d w k.items ku) (ht : k.text.size ≤ 9223372036854775807) (hv : Lies d w v.items vu) (htv : v.text.size ≤ 9223372036854775807) :
    Calls Tryz.prog 19 #[.pointer (some ⟨b, 0, none⟩), .agg #[.int .i64 k.kind, .int .i64 k.num, .string k.text, ku], .agg #[.int .i64 v.kind, .int .i64 v.num, .string v.text, vu]] w (OrPost q (RT.with_ (atK q k) (k, v) t).items (assocE d q k v t) w) := by
  obtain ⟨ak, ck, rfl, _⟩ := Lies.slice hk
  obtain ⟨av, cv, rfl, _⟩ := Lies.slice hv
  have hb0 : ∀ A B, Below w.heap.size w ((w.alloc A).alloc B) := fun A B => (((Grew.refl w).alloc A).alloc B).below
  cases hr : rightV d k with
  | false =>
    have HF : Hid (∀ A B, Calls Tryz.prog 57 #[.pointer (some ⟨b, 0, none⟩), .agg #[.int .i64 k.kind, .int .i64 k.num, .string k.text, .slice ak k.items.length ck]] ((w.alloc A).alloc B) fun e w' => e = .returned (.tuple #[.pointer none, .int .i64 3]) ∧ Below ((w.alloc A).alloc B).heap.size ((w.alloc A).alloc B) w') := fun A B => mfind_wrong d b k _ _ (Lies.keeps (hb0 A B) _ _ _ hk) ht hr
    have he : assocE d q k v t = 3 := by unfold assocE; rw [if_pos hr]
    rw [he]
    have HP : Hid (∀ w', Below w.heap.size w w' → OrPost q (RT.with_ (atK q k) (k, v) t).items 3 w (.returned (.tuple #[.pointer none, .int .i64 3])) w') := fun w' h => ⟨h, .inl ⟨by decide, rfl⟩⟩
    have HB : Hid _ := hb0
    clear hk ht hm hb0 hv htv he
    go_enter Tryz.func19, Tryz.ntmps19
    go_wp2_with fail
    refine (own_14 _ _).mono ?_
    rintro e w1 ⟨rfl, rfl⟩
    go_wp2_with fail
    refine (HF.out _ _).mono ?_
    rintro e w2 ⟨rfl, hg⟩
    have HE : Hid (OrPost q (RT.with_ (atK q k) (k, v) t).items 3 w (.returned (.tuple #[.pointer none, .int .i64 3])) w2) := HP.out w2 ((HB.out _ _).trans (hg.mono (HB.out _ _).size))
    clear hg
    go_wp2_with fail
    go_ret2
    exact HE.out
  | true =>
    obtain ⟨h16, hr16⟩ := canon hk hr
    have HF : Hid (∀ A B, Calls Tryz.prog 57 #[.pointer (some ⟨b, 0, none⟩), .agg #[.int .i64 k.kind, .int .i64 k.num, .string k.text, .slice ak k.items.length ck]] ((w.alloc A).alloc B) (MFindPost q t k ((w.alloc A).alloc B))) := fun A B => mfind_right d b q t k _ _ (hm.keeps (hb0 A B)) (Lies.keeps (hb0 A B) _ _ _ hk) ht hr
    have HC : Hid (∀ V, Below w.heap.size w V → Calls Tryz.prog 58 #[.agg #[.int .i64 v.kind, .int .i64 v.num, .string v.text, .slice av v.items.length cv]] V fun e w' => e = .returned (.int .i64 (errOf (rightV d v))) ∧ Below V.heap.size V w') := fun V hV => check_any d v _ V (Lies.keeps hV _ _ _ hv) htv
    have HM : Hid (MC w q t b) := hm
    have HL : Hid (∀ V, Below w.heap.size w V → Calls Tryz.prog 30 #[.pointer (some ⟨b, 0, none⟩)] V fun e w' => e = .returned (.int .i64 (t.size : Nat)) ∧ Below V.heap.size V w') := fun V hV => mlen_14 (hm.keeps hV)
    obtain ⟨po, hpo, hn⟩ := hm.top
    have Hpo : Hid (w.cell? ⟨b, 1, none⟩ = some (.pointer po)) := hpo
    have HA : Hid (∀ V, Below w.heap.size w V → Calls Tryz.prog 62 #[.pointer (some ⟨b, 0, none⟩), .agg #[.int .i64 k.kind, .int .i64 k.num, .string k.text, .slice ak k.items.length ck]] V (AtPost q k V)) := fun V hV => at_14 q b hm.q6 k _ V (cell_keeps hV hm.ord) (Lies.keeps hV _ _ _ h16) ht hr16
    have HW : Hid (∀ V q1 q2 k9 v9, Below w.heap.size w V → AtC TT 16 100 q1 q2 (atK q k) (fun x => rightV 16 x.1 = true) V → LiesX TT 16 V k.items k9 → LiesX TT 16 V v.items v9 → Calls Tryz.prog 61 #[.pointer po, .agg #[.int .i64 k.kind, .int .i64 k.num, .string k.text, k9, .int .i64 v.kind, .int .i64 v.num, .string v.text, v9], .func (.func 100) #[] #[.pointer q1, .pointer q2]] V (TreePost TT 16 (RT.with_ (atK q k) (k, v) t) V)) := fun V q1 q2 k9 v9 hV ha h1 h2 => with_14 TT 16 100 q1 q2 po (atK q k) _ eg_at1 t (k, v) k9 v9 V ha (hn.keeps hV) hm.well (fun x hx => (hm.right x hx).1.1) (by have := hm.size; omega) ⟨h1, ht⟩ ⟨h2, htv⟩
    have hk16 : Good 16 k := ⟨hr16, Dp.of_lies 16 w k _ h16⟩
    have HO : Hid (rightV d v = true → (RT.with_ (atK q k) (k, v) t).size ≤ 65536 → ∀ V p, Below w.heap.size w V → NM TT 16 V (RT.with_ (atK q k) (k, v) t) p → Calls Tryz.prog 45 #[.pointer (some ⟨b, 0, none⟩), .pointer p] V (MapPost14 q (RT.with_ (atK q k) (k, v) t).items V)) := fun hrv hsz V p hV hp => by
      obtain ⟨hv16, hrv16⟩ := canon hv hrv
      exact of_14 b q _ p V (cell_keeps hV hm.ord) hp (RT.with_well _ _ hm.well) hm.q6 (fun x hx => by
        rcases (RT.mem_with (byK_cmp q) hm.rises (k, v) x).1 hx with rfl | ⟨hx, _⟩
        · exact ⟨hk16, ⟨hrv16, Dp.of_lies 16 w v _ hv16⟩⟩
        · exact hm.right x hx) (RT.with_rises (byK_cmp q) hm.rises (k, v)) hsz
    have HCp : Hid (rightV d v = true → ∀ V, Below w.heap.size w V → Calls Tryz.prog 60 #[.agg #[.int .i64 k.kind, .int .i64 k.num, .string k.text, .slice ak k.items.length ck, .int .i64 v.kind, .int .i64 v.num, .string v.text, .slice av v.items.length cv]] V (CopiedPost (k, v) V)) := fun hrv V hV => by
      obtain ⟨hv16, hrv16⟩ := canon hv hrv
      exact copied_14 (k, v) _ _ V (Lies.keeps hV _ _ _ h16) (Lies.keeps hV _ _ _ hv16) ⟨hr16, hrv16⟩
    have hwl := with_len (atK q k) (k, v) t (RT.Rises.falls (byK_cmp q) hm.rises (k, v))
    have HS1 : Hid (t.size < 65536 → (RT.with_ (atK q k) (k, v) t).size ≤ 65536) := fun h => by have := hwl.1; omega
    have HS2 : Hid (∀ x, RT.find (atK q k) t = some x → (RT.with_ (atK q k) (k, v) t).size ≤ 65536) := fun x h => by
      have h9 := find_some (v := v) hm.rises h
      have h8 := hwl.2 ⟨x, h9.1, h9.2⟩
      have := hm.size
      omega
    have HQ : Hid (∀ x xv V, Below w.heap.size w V → RT.find (atK q k) t = some x → rightV d v = true → LiesX TT 16 V x.2.items xv → Calls Tryz.prog 59 #[.agg #[.int .i64 x.2.kind, .int .i64 x.2.num, .string x.2.text, xv], .agg #[.int .i64 v.kind, .int .i64 v.num, .string v.text, .slice av v.items.length cv]] V fun e w' => e = .returned (.bool (cmpV 16 x.2 v == 0)) ∧ Grew V w') := fun x xv V hV hx hrv hl => by
      obtain ⟨hv16, hrv16⟩ := canon hv hrv
      exact equal_any 16 x.2 v xv _ V hl.lies (Lies.keeps hV _ _ _ hv16)
    have HEq : Hid (∀ x, RT.find (atK q k) t = some x → rightV d v = true → (cmpV 16 x.2 v == 0) = true → (RT.with_ (atK q k) (k, v) t).items = t.items) := fun x hx hrv hc => by
      obtain ⟨hv16, hrv16⟩ := canon hv hrv
      obtain ⟨h1, h2⟩ := find_some (v := v) hm.rises hx
      have e1 : k = x.1 := ordV_eq q hk16 (hm.right x h1).1 h2
      have e2 : x.2 = v := good_eq (hm.right x h1).2 ⟨hrv16, Dp.of_lies 16 w v _ hv16⟩ (by simpa using hc)
      have e3 : (k, v) = x := by rw [e1, ← e2]
      have h9 := with_same hm.rises h1
      rw [← e3] at h9
      exact h9
    have hszb := hm.size
    have HE0 : Hid (assocE d q k v t = if rightV d v = false then 3 else if RT.find (atK q k) t = none ∧ t.size = 65536 then 2 else 0) := by show _ = _; unfold assocE; rw [if_neg (by rw [hr]; simp)]
    have HB : Hid _ := hb0
    clear hk ht hr hb0 hn h16 hr16 hm hv htv hk16 hwl
    generalize assocE d q k v t = EE at *
    go_enter Tryz.func19, Tryz.ntmps19
    go_wp2_with fail
    obtain ⟨W0, hW0⟩ : ∃ W0, W0 = (w.alloc (.cells #[.int .i64 k.kind, .int .i64 k.num, .string k.text, .slice ak k.items.length ck] 43)).alloc (.cells #[.int .i64 v.kind, .int .i64 v.num, .string v.text, .slice av v.items.length cv] 43) := ⟨_, rfl⟩
    have HCk : Hid _ := HF.out (.cells #[.int .i64 k.kind, .int .i64 k.num, .string k.text, .slice ak k.items.length ck] 43) (.cells #[.int .i64 v.kind, .int .i64 v.num, .string v.text, .slice av v.items.length cv] 43)
    rw [← hW0] at HCk ⊢
    have hb0 : Below w.heap.size w W0 := by rw [hW0]; exact HB.out _ _
    have HK0 : Hid (Bx W0 w.heap.size k (.slice ak k.items.length ck)) := by rw [hW0]; exact (bx_alloc w k _).keeps ((Grew.refl _).alloc _).below
    have HV0 : Hid (Bx W0 (w.heap.size + 1) v (.slice av v.items.length cv)) := by
      rw [hW0]
      have h9 := bx_alloc (w.alloc (.cells #[.int .i64 k.kind, .int .i64 k.num, .string k.text, .slice ak k.items.length ck] 43)) v (.slice av v.items.length cv)
      rwa [World.size_alloc] at h9
    obtain ⟨k0, k1, k2, k3, _⟩ := HK0.out
    obtain ⟨v0, v1, v2, v3, _⟩ := HV0.out
    clear hW0 HF HK0 HV0
    refine (own_14 _ _).mono ?_
    rintro e w1 ⟨rfl, hw⟩
    obtain rfl : W0 = w1 := hw.symm
    go_wp2_with fail
    refine Calls.mono HCk.out ?_
    rintro e w1 ⟨p1, rfl, hf⟩
    have HFp : Hid _ := hf.2
    have hg := hf.1
    have hb1 : Below w.heap.size w w1 := hb0.trans (hg.mono hb0.size)
    have k0 := cell_keeps hg k0; have k1 := cell_keeps hg k1; have k2 := cell_keeps hg k2; have k3 := cell_keeps hg k3; have v0 := cell_keeps hg v0; have v1 := cell_keeps hg v1; have v2 := cell_keeps hg v2; have v3 := cell_keeps hg v3
    clear hf hg HCk hb0
    go_wp2_with fail
    refine Calls.mono (HC.out _ hb1) ?_
    rintro e w2 ⟨rfl, hg⟩
    have hb2 : Below w.heap.size w w2 := hb1.trans (hg.mono hb1.size)
    have k0 := cell_keeps hg k0; have k1 := cell_keeps hg k1; have k2 := cell_keeps hg k2; have k3 := cell_keeps hg k3; have v0 := cell_keeps hg v0; have v1 := cell_keeps hg v1; have v2 := cell_keeps hg v2; have v3 := cell_keeps hg v3
    have Hg2 : Hid (Below w1.heap.size w1 w2) := hg
    clear hg hb1 HC
    cases hrv : rightV d v with
    | false =>
      have he : errOf false = 3 := rfl
      rw [he]
      have HE : Hid (OrPost q (RT.with_ (atK q k) (k, v) t).items EE w (.returned (.tuple #[.pointer none, .int .i64 3])) w2) := by
        have e9 : EE = 3 := by rw [HE0.out, if_pos hrv]
        rw [e9]
        exact ⟨hb2, .inl ⟨by decide, rfl⟩⟩
      clear he HE0
      go_wp2_with fail
      go_ret2
      exact HE.out
    | true =>
      have he : errOf true = 0 := rfl
      rw [he]
      have HCp : Hid _ := HCp.out hrv
      have HO : Hid _ := HO.out hrv
      have HEE : Hid (EE = if RT.find (atK q k) t = none ∧ t.size = 65536 then 2 else 0) := by show _ = _; rw [HE0.out, if_neg (by rw [hrv]; simp)]
      clear he HE0
      rcases HFp.out with ⟨hnone, he⟩ | ⟨x, xb, xl, xr, xk, xv, xc, xs, xh, xn, hsome, he, hcl, hlx⟩
      · obtain rfl : p1 = none := by injection he with he; injection he
        have Hnone : Hid (RT.find (atK q k) t = none) := hnone
        clear HFp he hnone HQ HEq HS2
        have HL2 : Hid _ := HL.out _ hb2
        obtain ⟨SZ, hSZ⟩ : ∃ SZ, SZ = t.size := ⟨_, rfl⟩
        have HSZ : Hid (SZ = t.size) := hSZ
        rw [← hSZ] at HL2 hszb
        clear hSZ
        go_wp2_with fail
        refine Calls.mono HL2.out ?_
        rintro e w4 ⟨rfl, hg⟩
        have hb4 : Below w.heap.size w w4 := hb2.trans (hg.mono hb2.size)
        have k0 := cell_keeps hg k0; have k1 := cell_keeps hg k1; have k2 := cell_keeps hg k2; have k3 := cell_keeps hg k3; have v0 := cell_keeps hg v0; have v1 := cell_keeps hg v1; have v2 := cell_keeps hg v2; have v3 := cell_keeps hg v3
        clear hg HL HL2
        by_cases hfull : SZ = 65536
        · have HE : Hid (OrPost q (RT.with_ (atK q k) (k, v) t).items EE w (.returned (.tuple #[.pointer none, .int .i64 2])) w4) := by
            have e9 : EE = 2 := by rw [HEE.out, if_pos ⟨Hnone.out, by rw [← HSZ.out]; exact hfull⟩]
            rw [e9]
            exact ⟨hb4, .inl ⟨by decide, rfl⟩⟩
          have hf1 : (SZ : Int) = 65536 := by omega
          clear hfull
          go_wp2_with fail
          go_ret2
          exact HE.out
        · have e9 : EE = 0 := by rw [HEE.out, if_neg (fun h => hfull (by rw [HSZ.out]; exact h.2))]
          subst e9
          have hsz : (RT.with_ (atK q k) (k, v) t).size ≤ 65536 := HS1.out (by have := HSZ.out; omega)
          have hf1 : ¬ (SZ : Int) = 65536 := by omega
          have Hsz : Hid (SZ ≠ 65536) := hfull
          clear HEE hfull
          go_wp2_with fail
          go_quiet (fail)
          obtain ⟨w6, hw6⟩ : ∃ w6, w6 = w4.drewN nq := ⟨_, rfl⟩
          have hb4 : Below w.heap.size w w6 := by rw [hw6]; exact hb4.trans ((below_drewN _ _).mono hb4.size)
          have k0 : w6.cell? ⟨w.heap.size, 0, none⟩ = some (.int .i64 k.kind) := by rw [hw6]; exact k0
          have k1 : w6.cell? ⟨w.heap.size, 1, none⟩ = some (.int .i64 k.num) := by rw [hw6]; exact k1
          have k2 : w6.cell? ⟨w.heap.size, 2, none⟩ = some (.string k.text) := by rw [hw6]; exact k2
          have k3 : w6.cell? ⟨w.heap.size, 3, none⟩ = some (.slice ak k.items.length ck) := by rw [hw6]; exact k3
          have v0 : w6.cell? ⟨w.heap.size + 1, 0, none⟩ = some (.int .i64 v.kind) := by rw [hw6]; exact v0
          have v1 : w6.cell? ⟨w.heap.size + 1, 1, none⟩ = some (.int .i64 v.num) := by rw [hw6]; exact v1
          have v2 : w6.cell? ⟨w.heap.size + 1, 2, none⟩ = some (.string v.text) := by rw [hw6]; exact v2
          have v3 : w6.cell? ⟨w.heap.size + 1, 3, none⟩ = some (.slice av v.items.length cv) := by rw [hw6]; exact v3
          rw [← hw6]
          clear hw6
          go_wp2_with fail
          refine Calls.mono (HCp.out _ hb4) ?_
          rintro e w5 ⟨k5, v5, rfl, hl5, hl6, hg5⟩
          obtain ⟨a5, c5, rfl, _⟩ := LiesB.slice hl5
          obtain ⟨a6, c6, rfl, _⟩ := LiesB.slice hl6
          have hb5 : Below w.heap.size w w5 := hb4.trans (hg5.mono hb4.size)
          have k0 := cell_keeps hg5 k0; have k1 := cell_keeps hg5 k1; have k2 := cell_keeps hg5 k2; have k3 := cell_keeps hg5 k3
          obtain ⟨W5, hW5⟩ : ∃ W5, W5 = w5.alloc (.cells #[.int .i64 k.kind, .int .i64 k.num, .string k.text, .slice a5 k.items.length c5, .int .i64 v.kind, .int .i64 v.num, .string v.text, .slice a6 v.items.length c6] 52) := ⟨_, rfl⟩
          have hbA : Below w5.heap.size w5 W5 := by rw [hW5]; exact ((Grew.refl w5).alloc _).below
          have hb6 : Below w.heap.size w W5 := hb5.trans (hbA.mono hb5.size)
          have HK5 : Hid (LiesX TT 16 W5 k.items (.slice a5 k.items.length c5)) := (LiesX.of_b (LiesB.keepsB hbA hl5)).mono (fun _ _ => trivial)
          have HV5 : Hid (LiesX TT 16 W5 v.items (.slice a6 v.items.length c6)) := (LiesX.of_b (LiesB.keepsB hbA hl6)).mono (fun _ _ => trivial)
          have k0 := cell_keeps hbA k0; have k1 := cell_keeps hbA k1; have k2 := cell_keeps hbA k2; have k3 := cell_keeps hbA k3
          have hpo := cell_keeps hb6 Hpo.out
          clear hl5 hl6 hg5 v0 v1 v2 v3
          go_wp2_with fail
          rw [← hW5]
          have z0 : W5.cell? ⟨w5.heap.size, 0, none⟩ = some (.int .i64 k.kind) := by rw [hW5]; simp
          have z1 : W5.cell? ⟨w5.heap.size, 1, none⟩ = some (.int .i64 k.num) := by rw [hW5]; simp
          have z2 : W5.cell? ⟨w5.heap.size, 2, none⟩ = some (.string k.text) := by rw [hW5]; simp
          have z3 : W5.cell? ⟨w5.heap.size, 3, none⟩ = some (.slice a5 k.items.length c5) := by rw [hW5]; simp
          have z4 : W5.cell? ⟨w5.heap.size, 4, none⟩ = some (.int .i64 v.kind) := by rw [hW5]; simp
          have z5 : W5.cell? ⟨w5.heap.size, 5, none⟩ = some (.int .i64 v.num) := by rw [hW5]; simp
          have z6 : W5.cell? ⟨w5.heap.size, 6, none⟩ = some (.string v.text) := by rw [hW5]; simp
          have z7 : W5.cell? ⟨w5.heap.size, 7, none⟩ = some (.slice a6 v.items.length c6) := by rw [hW5]; simp
          clear hW5 hbA hb5
          generalize w5.heap.size = P at *
          go_region_held3 (fun w' => w'.cell? ⟨b, 1, none⟩ = some (.pointer po) ∧ w'.cell? ⟨w.heap.size, 0, none⟩ = some (.int .i64 k.kind) ∧ w'.cell? ⟨w.heap.size, 1, none⟩ = some (.int .i64 k.num) ∧ w'.cell? ⟨w.heap.size, 2, none⟩ = some (.string k.text) ∧ w'.cell? ⟨w.heap.size, 3, none⟩ = some (.slice ak k.items.length ck) ∧ w'.cell? ⟨P, 0, none⟩ = some (.int .i64 k.kind) ∧ w'.cell? ⟨P, 1, none⟩ = some (.int .i64 k.num) ∧ w'.cell? ⟨P, 2, none⟩ = some (.string k.text) ∧ w'.cell? ⟨P, 3, none⟩ = some (.slice a5 k.items.length c5) ∧ w'.cell? ⟨P, 4, none⟩ = some (.int .i64 v.kind) ∧ w'.cell? ⟨P, 5, none⟩ = some (.int .i64 v.num) ∧ w'.cell? ⟨P, 6, none⟩ = some (.string v.text) ∧ w'.cell? ⟨P, 7, none⟩ = some (.slice a6 v.items.length c6)) (go_keep)
            (first
              | (go_at_call 62; (with_reducible refine Calls.mono (HA.out _ hb6.drew) ?_); rintro e w7 ⟨hg, q1, q2, rfl, ha⟩; have HAC : Hid (AtC TT 16 100 q1 q2 (atK q k) (fun x => rightV 16 x.1 = true) w7) := ha TT; have hb7 : Below w.heap.size w w7 := hb6.drew.trans (hg.mono hb6.drew.size); have hg7 : Below W5.heap.size W5 w7 := (Below.refl _ _).drew.trans hg; have k0 := cell_keeps hg7 k0; have k1 := cell_keeps hg7 k1; have k2 := cell_keeps hg7 k2; have k3 := cell_keeps hg7 k3; have z0 := cell_keeps hg7 z0; have z1 := cell_keeps hg7 z1; have z2 := cell_keeps hg7 z2; have z3 := cell_keeps hg7 z3; have z4 := cell_keeps hg7 z4; have z5 := cell_keeps hg7 z5; have z6 := cell_keeps hg7 z6; have z7 := cell_keeps hg7 z7; have hpo := cell_keeps hg7 hpo; clear hg ha)
              | (go_at_call 61; (with_reducible refine Calls.mono (HW.out _ _ _ _ _ hb7 HAC.out (HK5.out.keeps hg7) (HV5.out.keeps hg7)) ?_); rintro e w8 ⟨hg8, p8, rfl, ht8⟩; have hb8 : Below w.heap.size w w8 := hb7.trans (hg8.mono hb7.size); have HT8 : Hid (NM TT 16 w8 (RT.with_ (atK q k) (k, v) t) p8) := ht8; have k0 := cell_keeps hg8 k0; have k1 := cell_keeps hg8 k1; have k2 := cell_keeps hg8 k2; have k3 := cell_keeps hg8 k3; have z0 := cell_keeps hg8 z0; have z1 := cell_keeps hg8 z1; have z2 := cell_keeps hg8 z2; have z3 := cell_keeps hg8 z3; have z4 := cell_keeps hg8 z4; have z5 := cell_keeps hg8 z5; have z6 := cell_keeps hg8 z6; have z7 := cell_keeps hg8 z7; have hpo := cell_keeps hg8 hpo; clear ht8)
              | (go_at_call 45; (with_reducible refine Calls.mono (HO.out hsz _ _ hb8 HT8.out) ?_); rintro e w9 ⟨hg9, t9, b9, rfl, hm9, hi9⟩; have HE : Hid (OrPost q (RT.with_ (atK q k) (k, v) t).items 0 w (.returned (.tuple #[.pointer (some ⟨b9, 0, none⟩), .int .i64 0])) w9) := ⟨hb8.trans (hg9.mono hb8.size), .inr ⟨rfl, t9, b9, rfl, hm9, hi9⟩⟩; have k0 := cell_keeps hg9 k0; have k1 := cell_keeps hg9 k1; have k2 := cell_keeps hg9 k2; have k3 := cell_keeps hg9 k3; have z0 := cell_keeps hg9 z0; have z1 := cell_keeps hg9 z1; have z2 := cell_keeps hg9 z2; have z3 := cell_keeps hg9 z3; have z4 := cell_keeps hg9 z4; have z5 := cell_keeps hg9 z5; have z6 := cell_keeps hg9 z6; have z7 := cell_keeps hg9 z7; have hpo := cell_keeps hg9 hpo; clear hm9 hi9))
          all_goals (first | (go_ret2; exact HE.out) | (go_wp2_with fail; go_ret2; exact HE.out))
      · obtain rfl : p1 = some ⟨xb, 0, none⟩ := by injection he with he; injection he
        have e9 : EE = 0 := by rw [HEE.out, if_neg (fun h => by rw [hsome] at h; cases h.1)]
        subst e9
        have hsz : (RT.with_ (atK q k) (k, v) t).size ≤ 65536 := HS2.out x hsome
        obtain ⟨ax, cx, rfl, _⟩ := hlx.2.1.slice
        have HQ2 : Hid (∀ V, Below w2.heap.size w2 V → Calls Tryz.prog 59 #[.agg #[.int .i64 x.2.kind, .int .i64 x.2.num, .string x.2.text, .slice ax x.2.items.length cx], .agg #[.int .i64 v.kind, .int .i64 v.num, .string v.text, .slice av v.items.length cv]] V fun e w' => e = .returned (.bool (cmpV 16 x.2 v == 0)) ∧ Grew V w') := fun V hV => HQ.out x _ V (hb2.trans (hV.mono hb2.size)) hsome hrv (LiesX.keeps (Hg2.out.trans (hV.mono Hg2.out.size)) hlx.2.1)
        have HEq2 : Hid ((cmpV 16 x.2 v == 0) = true → (RT.with_ (atK q k) (k, v) t).items = t.items) := fun h => HEq.out x hsome hrv h
        have hcl2 := hcl.keeps Hg2.out
        obtain ⟨_, _, _, _, _, _, x6, x7, x8, x9, _, _, _, _⟩ := hcl2
        obtain ⟨BQ, hBQ⟩ : ∃ BQ, BQ = (cmpV 16 x.2 v == 0) := ⟨_, rfl⟩
        rw [← hBQ] at HQ2 HEq2
        clear HFp he hsome hcl hlx HQ HEq HEE HS1 HS2 HL hBQ
        go_wp2_with fail
        go_region_held3 (fun w' => w'.cell? ⟨xb, 6, none⟩ = some (.int .i64 x.2.kind) ∧ w'.cell? ⟨xb, 7, none⟩ = some (.int .i64 x.2.num) ∧ w'.cell? ⟨xb, 8, none⟩ = some (.string x.2.text) ∧ w'.cell? ⟨xb, 9, none⟩ = some (.slice ax x.2.items.length cx) ∧ w'.cell? ⟨w.heap.size, 0, none⟩ = some (.int .i64 k.kind) ∧ w'.cell? ⟨w.heap.size, 1, none⟩ = some (.int .i64 k.num) ∧ w'.cell? ⟨w.heap.size, 2, none⟩ = some (.string k.text) ∧ w'.cell? ⟨w.heap.size, 3, none⟩ = some (.slice ak k.items.length ck) ∧ w'.cell? ⟨w.heap.size + 1, 0, none⟩ = some (.int .i64 v.kind) ∧ w'.cell? ⟨w.heap.size + 1, 1, none⟩ = some (.int .i64 v.num) ∧ w'.cell? ⟨w.heap.size + 1, 2, none⟩ = some (.string v.text) ∧ w'.cell? ⟨w.heap.size + 1, 3, none⟩ = some (.slice av v.items.length cv)) (go_keep)
          (first | (go_at_call 59; (with_reducible refine Calls.mono (HQ2.out _ (Below.refl _ _).drew) ?_); rintro e w6 ⟨rfl, hgq⟩; have hg6 : Below w2.heap.size w2 w6 := (Below.refl _ _).drew.trans hgq.below; have hb4 : Below w.heap.size w w6 := hb2.trans (hg6.mono hb2.size); have x6 := cell_keeps hg6 x6; have x7 := cell_keeps hg6 x7; have x8 := cell_keeps hg6 x8; have x9 := cell_keeps hg6 x9; have k0 := cell_keeps hg6 k0; have k1 := cell_keeps hg6 k1; have k2 := cell_keeps hg6 k2; have k3 := cell_keeps hg6 k3; have v0 := cell_keeps hg6 v0; have v1 := cell_keeps hg6 v1; have v2 := cell_keeps hg6 v2; have v3 := cell_keeps hg6 v3; clear hgq hg6))
        clear x6 x7 x8 x9 HQ2
        cases BQ with
        | true =>
          have HE : Hid (OrPost q (RT.with_ (atK q k) (k, v) t).items 0 w (.returned (.tuple #[.pointer (some ⟨b, 0, none⟩), .int .i64 0])) w6) := ⟨hb4, .inr ⟨rfl, t, b, rfl, HM.out.keeps hb4, (HEq2.out rfl).symm⟩⟩
          go_wp2_with fail
          go_ret2
          exact HE.out
        | false =>
          go_wp2_with fail
          refine Calls.mono (HCp.out _ hb4) ?_
          rintro e w5 ⟨k5, v5, rfl, hl5, hl6, hg5⟩
          obtain ⟨a5, c5, rfl, _⟩ := LiesB.slice hl5
          obtain ⟨a6, c6, rfl, _⟩ := LiesB.slice hl6
          have hb5 : Below w.heap.size w w5 := hb4.trans (hg5.mono hb4.size)
          have k0 := cell_keeps hg5 k0; have k1 := cell_keeps hg5 k1; have k2 := cell_keeps hg5 k2; have k3 := cell_keeps hg5 k3
          obtain ⟨W5, hW5⟩ : ∃ W5, W5 = w5.alloc (.cells #[.int .i64 k.kind, .int .i64 k.num, .string k.text, .slice a5 k.items.length c5, .int .i64 v.kind, .int .i64 v.num, .string v.text, .slice a6 v.items.length c6] 52) := ⟨_, rfl⟩
          have hbA : Below w5.heap.size w5 W5 := by rw [hW5]; exact ((Grew.refl w5).alloc _).below
          have hb6 : Below w.heap.size w W5 := hb5.trans (hbA.mono hb5.size)
          have HK5 : Hid (LiesX TT 16 W5 k.items (.slice a5 k.items.length c5)) := (LiesX.of_b (LiesB.keepsB hbA hl5)).mono (fun _ _ => trivial)
          have HV5 : Hid (LiesX TT 16 W5 v.items (.slice a6 v.items.length c6)) := (LiesX.of_b (LiesB.keepsB hbA hl6)).mono (fun _ _ => trivial)
          have k0 := cell_keeps hbA k0; have k1 := cell_keeps hbA k1; have k2 := cell_keeps hbA k2; have k3 := cell_keeps hbA k3
          have hpo := cell_keeps hb6 Hpo.out
          clear hl5 hl6 hg5 v0 v1 v2 v3
          go_wp2_with fail
          rw [← hW5]
          have z0 : W5.cell? ⟨w5.heap.size, 0, none⟩ = some (.int .i64 k.kind) := by rw [hW5]; simp
          have z1 : W5.cell? ⟨w5.heap.size, 1, none⟩ = some (.int .i64 k.num) := by rw [hW5]; simp
          have z2 : W5.cell? ⟨w5.heap.size, 2, none⟩ = some (.string k.text) := by rw [hW5]; simp
          have z3 : W5.cell? ⟨w5.heap.size, 3, none⟩ = some (.slice a5 k.items.length c5) := by rw [hW5]; simp
          have z4 : W5.cell? ⟨w5.heap.size, 4, none⟩ = some (.int .i64 v.kind) := by rw [hW5]; simp
          have z5 : W5.cell? ⟨w5.heap.size, 5, none⟩ = some (.int .i64 v.num) := by rw [hW5]; simp
          have z6 : W5.cell? ⟨w5.heap.size, 6, none⟩ = some (.string v.text) := by rw [hW5]; simp
          have z7 : W5.cell? ⟨w5.heap.size, 7, none⟩ = some (.slice a6 v.items.length c6) := by rw [hW5]; simp
          clear hW5 hbA hb5
          generalize w5.heap.size = P at *
          go_region_held3 (fun w' => w'.cell? ⟨b, 1, none⟩ = some (.pointer po) ∧ w'.cell? ⟨w.heap.size, 0, none⟩ = some (.int .i64 k.kind) ∧ w'.cell? ⟨w.heap.size, 1, none⟩ = some (.int .i64 k.num) ∧ w'.cell? ⟨w.heap.size, 2, none⟩ = some (.string k.text) ∧ w'.cell? ⟨w.heap.size, 3, none⟩ = some (.slice ak k.items.length ck) ∧ w'.cell? ⟨P, 0, none⟩ = some (.int .i64 k.kind) ∧ w'.cell? ⟨P, 1, none⟩ = some (.int .i64 k.num) ∧ w'.cell? ⟨P, 2, none⟩ = some (.string k.text) ∧ w'.cell? ⟨P, 3, none⟩ = some (.slice a5 k.items.length c5) ∧ w'.cell? ⟨P, 4, none⟩ = some (.int .i64 v.kind) ∧ w'.cell? ⟨P, 5, none⟩ = some (.int .i64 v.num) ∧ w'.cell? ⟨P, 6, none⟩ = some (.string v.text) ∧ w'.cell? ⟨P, 7, none⟩ = some (.slice a6 v.items.length c6)) (go_keep)
            (first
              | (go_at_call 62; (with_reducible refine Calls.mono (HA.out _ hb6.drew) ?_); rintro e w7 ⟨hg, q1, q2, rfl, ha⟩; have HAC : Hid (AtC TT 16 100 q1 q2 (atK q k) (fun x => rightV 16 x.1 = true) w7) := ha TT; have hb7 : Below w.heap.size w w7 := hb6.drew.trans (hg.mono hb6.drew.size); have hg7 : Below W5.heap.size W5 w7 := (Below.refl _ _).drew.trans hg; have k0 := cell_keeps hg7 k0; have k1 := cell_keeps hg7 k1; have k2 := cell_keeps hg7 k2; have k3 := cell_keeps hg7 k3; have z0 := cell_keeps hg7 z0; have z1 := cell_keeps hg7 z1; have z2 := cell_keeps hg7 z2; have z3 := cell_keeps hg7 z3; have z4 := cell_keeps hg7 z4; have z5 := cell_keeps hg7 z5; have z6 := cell_keeps hg7 z6; have z7 := cell_keeps hg7 z7; have hpo := cell_keeps hg7 hpo; clear hg ha)
              | (go_at_call 61; (with_reducible refine Calls.mono (HW.out _ _ _ _ _ hb7 HAC.out (HK5.out.keeps hg7) (HV5.out.keeps hg7)) ?_); rintro e w8 ⟨hg8, p8, rfl, ht8⟩; have hb8 : Below w.heap.size w w8 := hb7.trans (hg8.mono hb7.size); have HT8 : Hid (NM TT 16 w8 (RT.with_ (atK q k) (k, v) t) p8) := ht8; have k0 := cell_keeps hg8 k0; have k1 := cell_keeps hg8 k1; have k2 := cell_keeps hg8 k2; have k3 := cell_keeps hg8 k3; have z0 := cell_keeps hg8 z0; have z1 := cell_keeps hg8 z1; have z2 := cell_keeps hg8 z2; have z3 := cell_keeps hg8 z3; have z4 := cell_keeps hg8 z4; have z5 := cell_keeps hg8 z5; have z6 := cell_keeps hg8 z6; have z7 := cell_keeps hg8 z7; have hpo := cell_keeps hg8 hpo; clear ht8)
              | (go_at_call 45; (with_reducible refine Calls.mono (HO.out hsz _ _ hb8 HT8.out) ?_); rintro e w9 ⟨hg9, t9, b9, rfl, hm9, hi9⟩; have HE : Hid (OrPost q (RT.with_ (atK q k) (k, v) t).items 0 w (.returned (.tuple #[.pointer (some ⟨b9, 0, none⟩), .int .i64 0])) w9) := ⟨hb8.trans (hg9.mono hb8.size), .inr ⟨rfl, t9, b9, rfl, hm9, hi9⟩⟩; have k0 := cell_keeps hg9 k0; have k1 := cell_keeps hg9 k1; have k2 := cell_keeps hg9 k2; have k3 := cell_keeps hg9 k3; have z0 := cell_keeps hg9 z0; have z1 := cell_keeps hg9 z1; have z2 := cell_keeps hg9 z2; have z3 := cell_keeps hg9 z3; have z4 := cell_keeps hg9 z4; have z5 := cell_keeps hg9 z5; have z6 := cell_keeps hg9 z6; have z7 := cell_keeps hg9 z7; have hpo := cell_keeps hg9 hpo; clear hm9 hi9))
          all_goals (first | (go_ret2; exact HE.out) | (go_wp2_with fail; go_ret2; exact HE.out))

end Go.Proofs.YtekoaiehhjgfiabGreat

