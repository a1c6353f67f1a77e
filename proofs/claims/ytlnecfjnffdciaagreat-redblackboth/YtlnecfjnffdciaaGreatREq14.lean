import Derived.Test.YtlnecfjnffdciaaGreatRisP
import Derived.Test.YtlnecfjnffdciaaGreatRMapD
import Derived.Test.YtlnecfjnffdciaaGreatManyLaw
import Derived.Test.YtlnecfjnffdciaaGreatEqualM
import Derived.Test.YtlnecfjnffdciaaGreatRHave14
import Derived.Deep.RegionHeld3
namespace Go.Proofs.YtlnecfjnffdciaaGreat
open Go.RowKit Go.Shelf

def ofK (q : Nat) (qs : List PP) : List PT := (kyd (cmpO q) (qs.length + 1) qs).map trT

theorem ofErr_zero {d : Nat} {o : Int} {l : List PT} (h : ofErr d o l = 0) : (0 ≤ o ∧ o < 6) ∧ pErr d l = 0 := by
 unfold ofErr ordErr at h
 by_cases ho : o < 0 ∨ 6 ≤ o
 ·rw [if_pos ho, if_pos (by decide)] at h; cases h
 ·rw [if_neg ho, if_neg (by decide)] at h; exact ⟨by omega, h⟩

set_option maxRecDepth 100000 in
set_option maxHeartbeats 8000000 in
theorem rof_14 (d : Nat) (o : Int) (qs : List PP) (u : Value) (w : World) (hu : SlQ 0 d w qs u) : Calls Tryz.prog 10 #[.int .i64 o, u] w (DoPost o.toNat (ofK o.toNat qs) (ofErr d o (qs.map trT)) w) := by
 have HK : Hid (∀ V, Calls Tryz.prog 49 #[.int .i64 o] V fun e w' => e = .returned (.bool (kindO o)) ∧ w' = V) := fun V => rkind6_any o V
 have HP : Hid (Calls Tryz.prog 50 #[u] w fun e w' => e = .returned (.int .i64 (pErr d (qs.map trT))) ∧ Below w.heap.size w w') := paired_any d qs u w hu
 by_cases ho : 0 ≤ o ∧ o ≤ 5
 ·have hk : kindO o = true := by unfold kindO; simpa using ho
  have he : ordErr o = 0 := by unfold ordErr; rw [if_neg (by omega)]
  have hoe : ofErr d o (qs.map trT) = pErr d (qs.map trT) := by unfold ofErr; rw [he, if_neg (by decide)]
  rw [hk] at HK
  rw [hoe]
  obtain ⟨q, rfl⟩ : ∃ q : Nat, o = (q : Int) := ⟨o.toNat, by omega⟩
  rw [show ((q : Int)).toNat = q by omega]
  by_cases hp : pErr d (qs.map trT) = 0
  ·obtain ⟨hl, hr⟩ := pErr_zero hp
   rw [List.length_map] at hl
   have hr' : ∀ p ∈ qs, rightV d p.1.1 = true ∧ rightV d p.2.1 = true := fun p hpq => hr (trT p) (List.mem_map_of_mem hpq)
   obtain ⟨h16, hr16⟩ := slq_canon hu hr'
   have hg16 : ∀ p ∈ qs, Good 16 p.1.1 ∧ Good 16 p.2.1 := fun p hpq => ⟨⟨(hr16 p hpq).1, Dp.of_lies 16 w p.1.1 p.1.2 (h16.good p hpq).1.1⟩, ⟨(hr16 p hpq).2, Dp.of_lies 16 w p.2.1 p.2.2 (h16.good p hpq).2.1⟩⟩
   have HB : Hid (∀ V, Below w.heap.size w V → Calls Tryz.prog 51 #[.int .i64 (q : Int), u] V fun e w' => Below V.heap.size V w' ∧ ∃ b, e = .returned (.pointer (some ⟨b, 0, none⟩)) ∧ DM w' q (ofK q qs) b) := fun V hV => (rbuild_any q (by omega) qs.length qs u V (h16.keeps hV) (fun p hpq => (hr16 p hpq).1) (by omega) (by omega)).mono fun e w' h => h.dm (by omega) (by omega) hg16 (by have := kyd_len (cmpO q) (qs.length + 1) qs; omega)
   rw [hp] at HP ⊢
   clear hu hr hr' h16 hr16 hg16 hoe he hk ho hp
   generalize ofK q qs = L at *
   go_enter Tryz.func10, Tryz.ntmps10
   go_wp2_with (go_at_call 49; refine Calls.mono (HK.out _) ?_; rintro e w1 ⟨rfl, hw⟩; subst w1)
   refine Calls.mono HP.out ?_
   rintro e w1 ⟨rfl, hb⟩
   have HB1 := show Hid _ from HB.out w1 hb
   clear HB HP HK
   go_wp2_with fail
   refine Calls.mono HB1.out ?_
   rintro e w2 ⟨hb2, b, rfl, hd⟩
   have HE : Hid (DoPost q L 0 w (.returned (.tuple #[.pointer (some ⟨b, 0, none⟩), .int .i64 0])) w2) := ⟨hb.trans (hb2.mono hb.size), .inr ⟨rfl, b, rfl, hd⟩⟩
   clear hd hb hb2 HB1
   go_wp2_with fail
   refine bodyPost_ret (v := .tuple #[.pointer (some ⟨b, 0, none⟩), .int .i64 0]) (by simp [results, Tryz.results10, go_sem]) rfl HE.out
  ·have HE : Hid (∀ V, Below w.heap.size w V → DoPost q (ofK q qs) (pErr d (qs.map trT)) w (.returned (.tuple #[.pointer none, .int .i64 (pErr d (qs.map trT))])) V) := fun V hV => ⟨hV, .inl ⟨hp, rfl⟩⟩
   have Hp : Hid (pErr d (qs.map trT) ≠ 0) := hp
   clear hu hoe he hk ho
   generalize pErr d (qs.map trT) = E at *
   generalize ofK q qs = L at *
   go_enter Tryz.func10, Tryz.ntmps10
   go_wp2_with (go_at_call 49; refine Calls.mono (HK.out _) ?_; rintro e w1 ⟨rfl, hw⟩; subst w1)
   refine Calls.mono HP.out ?_
   rintro e w1 ⟨rfl, hb⟩
   have HE1 : Hid (DoPost q L E w (.returned (.tuple #[.pointer none, .int .i64 E])) w1) := HE.out w1 hb
   clear HE HP HK
   go_wp2_with fail
   refine bodyPost_ret (v := .tuple #[.pointer none, .int .i64 E]) (by simp [results, Tryz.results10, go_sem]) rfl HE1.out
 ·have hk : kindO o = false := by unfold kindO; simp; omega
  have he : ordErr o = 4 := by unfold ordErr; rw [if_pos (by omega)]
  have hoe : ofErr d o (qs.map trT) = 4 := by unfold ofErr; rw [he, if_pos (by decide)]
  rw [hk] at HK
  rw [hoe]
  have HE : Hid (DoPost o.toNat (ofK o.toNat qs) 4 w (.returned (.tuple #[.pointer none, .int .i64 4])) w) := ⟨Below.refl _ _, .inl ⟨by decide, rfl⟩⟩
  clear ho hk he hoe hu HP
  go_enter Tryz.func10, Tryz.ntmps10
  go_wp2_with (go_at_call 49; refine Calls.mono (HK.out _) ?_; rintro e w1 ⟨rfl, hw⟩; subst w1)
  refine bodyPost_ret (v := .tuple #[.pointer none, .int .i64 4]) (by simp [results, Tryz.results10, go_sem]) rfl HE.out

end Go.Proofs.YtlnecfjnffdciaaGreat

namespace Go.Proofs.YtlnecfjnffdciaaGreat
open Go.RowKit Go.Shelf

def ofL (q : Nat) (l : List PT) : List PT := kyd (byK q) (l.length + 1) l

theorem ofK_is (q : Nat) (qs : List PP) : ofK q qs = ofL q (qs.map trT) := by
 unfold ofK ofL
 rw [List.length_map, kyd_map trT (cmpO q) (byK q) (fun _ _ => rfl)]

set_option maxRecDepth 100000 in
set_option maxHeartbeats 8000000 in
theorem rturn_14 (o : Int) {w0 w : World} {q : Nat} {l : List PT} {c : Nat} (h : DM w0 q l c) (hw0 : Below w0.heap.size w0 w) : Calls Tryz.prog 31 #[.pointer (some ⟨c, 0, none⟩), .int .i64 o] w (DoPost o.toNat (ofL o.toNat l) (ordErr o) w) := by
 have HK : Hid (∀ V, Calls Tryz.prog 49 #[.int .i64 o] V fun e w' => e = .returned (.bool (kindO o)) ∧ w' = V) := fun V => rkind6_any o V
 by_cases ho : 0 ≤ o ∧ o ≤ 5
 ·have hk : kindO o = true := by unfold kindO; simpa using ho
  have he : ordErr o = 0 := by unfold ordErr; rw [if_neg (by omega)]
  rw [hk] at HK
  rw [he]
  obtain ⟨p, rfl⟩ : ∃ p : Nat, o = (p : Int) := ⟨o.toNat, by omega⟩
  rw [show ((p : Int)).toNat = p by omega]
  obtain ⟨qs, v, hrow, hqt, hsl⟩ := (h.keeps hw0).row
  have hg16 : ∀ r ∈ qs, Good 16 r.1.1 ∧ Good 16 r.2.1 := fun r hr => h.right (trT r) (by rw [← hqt]; exact List.mem_map_of_mem hr)
  have hzl : qs.length = l.length := by rw [← hqt, List.length_map]
  have hl := h.size
  have HB : Hid (Calls Tryz.prog 51 #[.int .i64 (p : Int), v] w fun e w' => Below w.heap.size w w' ∧ ∃ b, e = .returned (.pointer (some ⟨b, 0, none⟩)) ∧ DM w' p (ofL p l) b) := by
   rw [← hqt, ← ofK_is]
   exact (rbuild_any p (by omega) qs.length qs v w hsl (fun r hr => (hg16 r hr).1.1) (by omega) (by omega)).mono fun e w' h => h.dm (by omega) (by omega) hg16 (by have := kyd_len (cmpO p) (qs.length + 1) qs; omega)
  clear hsl hg16 hzl hl hqt he hk ho h
  generalize ofL p l = L at *
  go_enter Tryz.func31, Tryz.ntmps31
  go_wp2_with (go_at_call 49; refine Calls.mono (HK.out _) ?_; rintro e w1 ⟨rfl, hw⟩; subst w1)
  refine Calls.mono HB.out ?_
  rintro e w2 ⟨hb2, b, rfl, hd⟩
  have HE : Hid (DoPost p L 0 w (.returned (.tuple #[.pointer (some ⟨b, 0, none⟩), .int .i64 0])) w2) := ⟨hb2, .inr ⟨rfl, b, rfl, hd⟩⟩
  clear hd hb2 HB HK
  go_wp2_with fail
  refine bodyPost_ret (v := .tuple #[.pointer (some ⟨b, 0, none⟩), .int .i64 0]) (by simp [results, Tryz.results31, go_sem]) rfl HE.out
 ·have hk : kindO o = false := by unfold kindO; simp; omega
  have he : ordErr o = 4 := by unfold ordErr; rw [if_pos (by omega)]
  rw [hk] at HK
  rw [he]
  have HE : Hid (DoPost o.toNat (ofL o.toNat l) 4 w (.returned (.tuple #[.pointer none, .int .i64 4])) w) := ⟨Below.refl _ _, .inl ⟨by decide, rfl⟩⟩
  clear ho hk he h hw0
  go_enter Tryz.func31, Tryz.ntmps31
  go_wp2_with (go_at_call 49; refine Calls.mono (HK.out _) ?_; rintro e w1 ⟨rfl, hw⟩; subst w1)
  refine bodyPost_ret (v := .tuple #[.pointer none, .int .i64 4]) (by simp [results, Tryz.results31, go_sem]) rfl HE.out

end Go.Proofs.YtlnecfjnffdciaaGreat

namespace Go.Proofs.YtlnecfjnffdciaaGreat
open Go.RowKit Go.Shelf

theorem byK_3 (q : Nat) : Cmp3 (byK q) := by
 have h := byK_cmp q
 refine ⟨fun x y => ordV_turn q x.1 y.1, fun a b c h1 h2 => ?_, fun a b c h1 h2 => ?_, fun a b c h1 h2 => ?_⟩
 ·exact RT.Cmp.trans' h h1 h2
 ·exact h.trans a b c h1 h2
 ·by_cases hn : byK q a c ≤ 0
  ·exact hn
  ·exfalso
   have e1 : byK q c a < 0 := (h.flip _ _).2 (by omega)
   have e2 : byK q c b < 0 := RT.Cmp.trans' h e1 h1
   have e3 : 0 < byK q b c := (h.flip _ _).1 e2
   omega

theorem ofL_rises (q : Nat) (l : List PT) : RT.Rises (byK q) (ofL q l) := (kyd_spec (byK_3 q) (l.length + 1) l (by omega)).1

def uniL (q : Nat) (la lb : List PT) : List PT := ofL q (la ++ lb)

def uniE (l : List PT) : Int := if 65536 < l.length then 2 else 0

theorem lst_append {α : Type} (a b : List α) : lst (a ++ b) = if b = [] then lst a else lst b := by
 by_cases hb : b = []
 ·rw [if_pos hb, hb, List.append_nil]
 ·rw [if_neg hb]
  unfold lst
  rw [List.getLast?_append]
  cases h : b.getLast? with
  | none => exact absurd (List.getLast?_eq_none_iff.1 h) hb
  | some x => rfl

theorem apart_sim {q : Nat} {l : List PT} (h : l.Pairwise (fun a b => byK q a b ≠ 0)) : l.Pairwise (fun a b => sim (ltI (byK q)) a b = false) :=
 h.imp fun {a b} h9 => by rw [sim_zero (byK_3 q)]; exact decide_eq_false h9

theorem uniL_mem {q : Nat} {la lb : List PT} (ha : la.Pairwise (fun a b => byK q a b ≠ 0)) (hb : lb.Pairwise (fun a b => byK q a b ≠ 0)) (y : PT) : y ∈ uniL q la lb ↔ y ∈ lb ∨ (y ∈ la ∧ ∀ x ∈ lb, byK q x y ≠ 0) := by
 have hw := (byK_3 q).weak
 have hsym : ∀ a b, sim (ltI (byK q)) a b = sim (ltI (byK q)) b a := fun a b => by unfold sim; rw [Bool.and_comm]
 have hz := sim_zero (byK_3 q)
 have ht := (byK_3 q).turn
 show y ∈ kyd (byK q) ((la ++ lb).length + 1) (la ++ lb) ↔ _
 rw [kyd_mem_iff (byK_3 q) _ _ (by omega), List.filter_append, lst_append]
 by_cases hlb : lb.filter (sim (ltI (byK q)) y) = []
 ·rw [if_pos hlb]
  have hno : ∀ x ∈ lb, byK q x y ≠ 0 := fun x hx h0 => by
   have h9 := List.filter_eq_nil_iff.1 hlb x hx
   rw [hz] at h9
   exact h9 (decide_eq_true (by have := ht x y; omega))
  have hyb : y ∉ lb := fun hy => hno y hy (by have := ht y y; omega)
  constructor
  ·intro h
   exact .inr ⟨(List.mem_filter.1 (lst_mem h)).1, hno⟩
  ·rintro (h | ⟨h, _⟩)
   ·exact absurd h hyb
   ·rw [filter_one (f := sim (ltI (byK q))) (fun a => sim_self hw a) hsym la (apart_sim ha) y h]
    exact List.mem_singleton.2 rfl
 ·rw [if_neg hlb]
  constructor
  ·intro h
   exact .inl (List.mem_filter.1 (lst_mem h)).1
  ·rintro (h | ⟨_, h⟩)
   ·rw [filter_one (f := sim (ltI (byK q))) (fun a => sim_self hw a) hsym lb (apart_sim hb) y h]
    exact List.mem_singleton.2 rfl
   ·exfalso
    apply hlb
    rw [List.filter_eq_nil_iff]
    intro x hx h9
    rw [hz] at h9
    have := of_decide_eq_true h9
    exact h x hx (by have := ht x y; omega)

theorem rises_apartT {q r : Nat} {l : List PT} (hg : ∀ x ∈ l, Good 16 x.1) (h : RT.Rises (byK r) l) : l.Pairwise (fun a b => byK q a b ≠ 0) := by
 have h1 : l.Pairwise (fun a b => byK r a b < 0) := h
 refine h1.imp_of_mem fun {a b} ha hb hab h9 => ?_
 have h8 : ordV r a.1 b.1 = 0 := (ordV_zero r (hg a ha) (hg b hb)).2 ((ordV_zero q (hg a ha) (hg b hb)).1 h9)
 have h7 : ordV r a.1 b.1 < 0 := hab
 omega

theorem union_uniL {q r : Nat} {s ta : RT PT} {lb : List PT} (hs : RT.Rises (byK q) s.items) (ha : RT.Rises (byK q) ta.items) (hm : ∀ y, y ∈ s.items ↔ y ∈ lb) (hb : RT.Rises (byK r) lb) (hga : ∀ x ∈ ta.items, Good 16 x.1) (hgb : ∀ x ∈ lb, Good 16 x.1) : (RT.union (byK q) s ta).items = uniL q ta.items lb := by
 refine RT.rises_eq (byK_cmp q) _ _ (RT.union_rises (byK_cmp q) s ta hs ha) (ofL_rises q _) fun y => ?_
 rw [RT.mem_union (byK_cmp q) s ta hs ha, uniL_mem (rises_apartT hga ha) (rises_apartT hgb hb), hm y]
 simp only [hm]

theorem turn_ofL {q r : Nat} {l m : List PT} (hl : RT.Rises (byK q) l) (hm : ∀ y, y ∈ l ↔ y ∈ m) (hr : RT.Rises (byK r) m) (hg : ∀ x ∈ m, Good 16 x.1) : l = ofL q m := by
 refine RT.rises_eq (byK_cmp q) _ _ hl (ofL_rises q _) fun y => ?_
 rw [hm y]
 exact (kyd_all (byK_3 q) (m.length + 1) m (by omega) (rises_apartT hg hr) y).symm

end Go.Proofs.YtlnecfjnffdciaaGreat

namespace Go.Proofs.YtlnecfjnffdciaaGreat
open Go.RowKit Go.Shelf

theorem sub_len {α : Type} : ∀ (l m : List α), l.Nodup → (∀ x ∈ l, x ∈ m) → l.length ≤ m.length ∧ (m.length ≤ l.length → ∀ x ∈ m, x ∈ l)
 | [], m, _, _ => ⟨Nat.zero_le _, fun h x hx => by rw [List.eq_nil_of_length_eq_zero (Nat.le_zero.1 h)] at hx; cases hx⟩
 | a :: l, m, hd, hs => by
  classical
  have hd' := List.nodup_cons.1 hd
  have ha : a ∈ m := hs a List.mem_cons_self
  have hlen := List.length_erase_of_mem ha
  have hpos : 0 < m.length := List.length_pos_of_mem ha
  obtain ⟨h1, h2⟩ := sub_len l (m.erase a) hd'.2 (fun x hx => by
   have hne : x ≠ a := fun e => hd'.1 (e ▸ hx)
   exact (List.mem_erase_of_ne hne).2 (hs x (List.mem_cons_of_mem _ hx)))
  refine ⟨by rw [List.length_cons]; omega, fun hle x hx => ?_⟩
  by_cases hxa : x = a
  ·rw [hxa]; exact List.mem_cons_self
  ·exact List.mem_cons_of_mem _ (h2 (by rw [List.length_cons] at hle; omega) x ((List.mem_erase_of_ne hxa).2 hx))

def hasP (r : Nat) (lb : List PT) (x : PT) : Bool := match findK r x.1 lb with | some z => cmpV 16 z.2 x.2 == 0 | none => false

def eqS (r : Nat) (la lb : List PT) : Bool := decide (la.length = lb.length) && la.all (hasP r lb)

theorem hasP_iff {r : Nat} {lb : List PT} (hr : RT.Rises (byK r) lb) (hg : ∀ x ∈ lb, Good 16 x.1 ∧ Good 16 x.2) (x : PT) (hx : Good 16 x.1 ∧ Good 16 x.2) : hasP r lb x = true ↔ x ∈ lb := by
 have hw := (byK_3 r).weak
 have hsym : ∀ a b, sim (ltI (byK r)) a b = sim (ltI (byK r)) b a := fun a b => by unfold sim; rw [Bool.and_comm]
 unfold hasP
 constructor
 ·intro h
  cases hf : findK r x.1 lb with
  | none => rw [hf] at h; cases h
  | some z =>
   rw [hf] at h
   have hz : z ∈ lb := List.mem_of_find?_eq_some hf
   have h9 := List.find?_some (p := fun a => decide (atK r x.1 a = 0)) hf
   have h0 : ordV r x.1 z.1 = 0 := of_decide_eq_true h9
   have e1 : x.1 = z.1 := good_eq hx.1 (hg z hz).1 ((ordV_zero r hx.1 (hg z hz).1).1 h0)
   have e2 : z.2 = x.2 := good_eq (hg z hz).2 hx.2 (by simpa using h)
   have : x = z := Prod.ext e1 e2.symm
   rw [this]; exact hz
 ·intro h
  cases hf : findK r x.1 lb with
  | none =>
   have h9 := List.find?_eq_none.1 hf x h
   exact absurd (decide_eq_true (show atK r x.1 x = 0 from (byK_3 r).self x)) h9
  | some z =>
   have hz : z ∈ lb := List.mem_of_find?_eq_some hf
   have h9 := List.find?_some (p := fun a => decide (atK r x.1 a = 0)) hf
   have h0 : byK r x z = 0 := of_decide_eq_true h9
   have h1 := filter_one (f := sim (ltI (byK r))) (fun a => sim_self hw a) hsym lb (apart_sim (rises_apartT (fun y hy => (hg y hy).1) hr)) x h
   have h2 : z ∈ lb.filter (sim (ltI (byK r)) x) := List.mem_filter.2 ⟨hz, by rw [sim_zero (byK_3 r)]; exact decide_eq_true h0⟩
   rw [h1] at h2
   obtain rfl := List.mem_singleton.1 h2
   show (cmpV 16 z.2 z.2 == 0) = true
   rw [cmpV_self]; rfl

theorem nodup_apart {q : Nat} {l : List PT} (h : l.Pairwise (fun a b => byK q a b ≠ 0)) : l.Nodup :=
 h.imp fun {a b} h9 e => h9 (by rw [e]; exact (byK_3 q).self b)

theorem eqS_iff {q r : Nat} {la lb : List PT} (ha : RT.Rises (byK q) la) (hb : RT.Rises (byK r) lb) (hga : ∀ x ∈ la, Good 16 x.1 ∧ Good 16 x.2) (hgb : ∀ x ∈ lb, Good 16 x.1 ∧ Good 16 x.2) : eqS r la lb = true ↔ ∀ y, y ∈ la ↔ y ∈ lb := by
 have na := nodup_apart (rises_apartT (q := q) (fun y hy => (hga y hy).1) ha)
 have nb := nodup_apart (rises_apartT (q := q) (fun y hy => (hgb y hy).1) hb)
 unfold eqS
 rw [Bool.and_eq_true, decide_eq_true_eq, List.all_eq_true]
 constructor
 ·rintro ⟨hl, h⟩ y
  have hs : ∀ x ∈ la, x ∈ lb := fun x hx => (hasP_iff hb hgb x (hga x hx)).1 (h x hx)
  exact ⟨hs y, (sub_len la lb na hs).2 (by omega) y⟩
 ·intro h
  have h1 := (sub_len la lb na (fun x hx => (h x).1 hx)).1
  have h2 := (sub_len lb la nb (fun x hx => (h x).2 hx)).1
  exact ⟨by omega, fun x hx => (hasP_iff hb hgb x (hga x hx)).2 ((h x).1 hx)⟩

end Go.Proofs.YtlnecfjnffdciaaGreat

namespace Go.Proofs.YtlnecfjnffdciaaGreat
open Go.RowKit Go.Shelf

theorem all_dropT {α : Type} (p : α → Bool) (l : List α) (j : Nat) (x : α) (hx : l[j]? = some x) : (l.drop j).all p = (p x && (l.drop (j + 1)).all p) := by
 obtain ⟨h1, e1⟩ := List.getElem?_eq_some_iff.1 hx
 rw [List.drop_eq_getElem_cons h1, e1, List.all_cons]

set_option maxRecDepth 100000 in
set_option maxHeartbeats 16000000 in
theorem requal_14 {w : World} {q r : Nat} {la lb : List PT} {c d : Nat} (hc : DM w q la c) (hd : DM w r lb d) : Calls Tryz.prog 33 #[.pointer (some ⟨c, 0, none⟩), .pointer (some ⟨d, 0, none⟩)] w fun e w' => e = .returned (.bool (eqS r la lb)) ∧ Below w.heap.size w w' := by
 obtain ⟨qa, va, ha1, hqa, hsa⟩ := hc.row
 obtain ⟨qb, vb, hb1, hqb, hsb⟩ := hd.row
 have hla : qa.length = la.length := by rw [← hqa, List.length_map]
 have hlb : qb.length = lb.length := by rw [← hqb, List.length_map]
 obtain ⟨aa, ca, rfl, _⟩ := hsa.slice
 obtain ⟨ab, cb, rfl, _⟩ := hsb.slice
 have HS : Hid (SlQ 0 16 w qa (.slice aa qa.length ca)) := hsa
 have Hqa : Hid (qa.map trT = la) := hqa
 have hna : qa.length ≤ 65536 := by have := hc.size; omega
 have HR : Hid (∀ p ∈ qa, rightV 16 p.1.1 = true) := fun p hp => (hc.right (trT p) (by rw [← hqa]; exact List.mem_map_of_mem hp)).1.1
 have HD : Hid (DM w r lb d) := hd
 have Hv : Hid (∀ V (y : VT) (yu : Value), Below w.heap.size w V → Lies 16 V y.items yu → rightV 16 y = true → Calls Tryz.prog 64 #[.pointer (some ⟨d, 0, none⟩), .agg #[.int .i64 y.kind, .int .i64 y.num, .string y.text, yu]] V (HvPost w.heap.size (findK r y lb) V)) := fun V y yu hV h1 h2 => rhave_14 HD.out hV y yu h1 h2
 have HEq : Hid (eqS r la lb = (decide (qa.length = qb.length) && la.all (hasP r lb))) := by show _ = _; rw [hla, hlb]; rfl
 generalize eqS r la lb = R at *
 obtain ⟨NA, hNA⟩ : ∃ NA, NA = qa.length := ⟨_, rfl⟩
 obtain ⟨NB, hNB⟩ : ∃ NB, NB = qb.length := ⟨_, rfl⟩
 have HNA : Hid (NA = qa.length) := hNA
 rw [← hNA] at ha1 hna HS HEq
 rw [← hNB] at hb1 HEq
 have Hha1 : Hid (w.cell? ⟨c, 1, none⟩ = some (.slice aa NA ca)) := ha1
 clear hc hd hsa hsb hqa hqb hla hlb hNA hNB
 by_cases hne : NA = NB
 ·subst hne
  have HEq2 : Hid (R = la.all (hasP r lb)) := by show _ = _; rw [HEq.out, decide_eq_true rfl, Bool.true_and]
  clear HEq
  go_enter Tryz.func33, Tryz.ntmps33
  go_wp2_with fail
  go_quiet (fail)
  go_wp2_with fail
  go_loopg [5] NA (fun z vi wr => ∃ j : Nat, vi = .int .i64 (j : Int) ∧ j ≤ NA ∧ z = NA - j ∧ Hid (R = (la.drop j).all (hasP r lb)) ∧ Below w.heap.size w wr)
  case atStart => exact ⟨0, rfl, by omega, by omega, HEq2.out, below_drewN _ _⟩
  case round =>
   obtain ⟨j, rfl, hj, hk, HRj, hbw⟩ := hrel
   have Hk : Hid _ := hk
   have Hbw : Hid (Below w.heap.size w wr) := hbw
   clear hk ha1 hb1
   have ha1 := cell_keeps hbw Hha1.out
   by_cases hjl : j < NA
   ·have hji : (j : Int) < (NA : Nat) := by omega
    have hnn : qa ≠ [] := by intro e; have := HNA.out; rw [e] at this; simp at this; omega
    obtain ⟨hLq, hLc, b, o, rfl, hat⟩ := HS.out.pair_at hnn
    obtain ⟨kx, akx, ckx, vx, avx, cvx, hx, Gx, u0, u1, u2, u3, u4, u5, u6, u7⟩ := hat j (by have := HNA.out; omega)
    have hjc : j < ca := by omega
    have Rx := HR.out _ (List.mem_of_getElem? hx)
    have Gw := Gx.keeps hbw
    have HAl : Hid (R = (hasP r lb (kx, vx) && (la.drop (j + 1)).all (hasP r lb))) := by
     show _ = _
     rw [HRj.out, all_dropT (hasP r lb) la j (kx, vx) (by rw [← Hqa.out, List.getElem?_map, hx]; rfl)]
    have Hv1 : Hid (Calls Tryz.prog 64 #[.pointer (some ⟨d, 0, none⟩), .agg #[.int .i64 kx.kind, .int .i64 kx.num, .string kx.text, .slice akx kx.items.length ckx]] wr (HvPost w.heap.size (findK r kx lb) wr)) := Hv.out wr kx _ hbw Gw.1.1 Rx
    have HVx : Hid (Lies 16 w vx.items (.slice avx vx.items.length cvx)) := Gx.2.1
    have x0 := cell_keeps hbw u0; have x1 := cell_keeps hbw u1; have x2 := cell_keeps hbw u2; have x3 := cell_keeps hbw u3
    have H4 : Hid (w.cell? ⟨b, o + j * 8 + 4, none⟩ = some (.int .i64 vx.kind) ∧ w.cell? ⟨b, o + j * 8 + 5, none⟩ = some (.int .i64 vx.num) ∧ w.cell? ⟨b, o + j * 8 + 6, none⟩ = some (.string vx.text) ∧ w.cell? ⟨b, o + j * 8 + 7, none⟩ = some (.slice avx vx.items.length cvx)) := ⟨u4, u5, u6, u7⟩
    have Hh : Hid (hasP r lb (kx, vx) = (match findK r kx lb with | some z => cmpV 16 z.2 vx == 0 | none => false)) := rfl
    generalize hasP r lb (kx, vx) = HP at *
    generalize findK r kx lb = O at *
    clear u0 u1 u2 u3 u4 u5 u6 u7 hLq hat hx Gx Gw Rx hnn HRj hbw
    go_wp2_with fail
    refine Calls.mono Hv1.out ?_
    rintro e w5 ⟨hg5, a5, c5, rfl, hl5⟩
    obtain ⟨TV, hTV⟩ : ∃ TV, TV = valO O := ⟨_, rfl⟩
    rw [← hTV] at hl5 ⊢
    have HTV : Hid (TV = valO O) := hTV
    obtain ⟨W5, hW5⟩ : ∃ W5, W5 = w5.alloc (.cells #[.int .i64 TV.kind, .int .i64 TV.num, .string TV.text, .slice a5 TV.items.length c5] 34) := ⟨_, rfl⟩
    have hb5 : Below w5.heap.size w5 W5 := by rw [hW5]; exact ((Grew.refl w5).alloc _).below
    have HX5 : Hid (Bx W5 w5.heap.size TV (.slice a5 TV.items.length c5)) := by rw [hW5]; exact bx_alloc _ _ _
    have HB5 : Hid (Below w.heap.size w W5) := Hbw.out.trans ((hg5.trans (hb5.mono hg5.size)).mono Hbw.out.size)
    have HL5 : Hid (Lies 16 W5 TV.items (.slice a5 TV.items.length c5)) := (LiesX.keeps hb5 hl5).lies
    clear hg5 hb5 hl5 Hv1 x0 x1 x2 x3 hTV ha1
    go_wp2_with fail
    rw [← hW5]
    clear hW5
    obtain ⟨x0, x1, x2, x3, _, _, _, _⟩ := HX5.out
    try simp only [encP] at x0 x1 x2 x3
    have ha1 := cell_keeps HB5.out Hha1.out
    have y0 := cell_keeps HB5.out H4.out.1
    have y1 := cell_keeps HB5.out H4.out.2.1
    have y2 := cell_keeps HB5.out H4.out.2.2.1
    have y3 := cell_keeps HB5.out H4.out.2.2.2
    have HSm : Hid (∀ V, Below W5.heap.size W5 V → Calls Tryz.prog 81 #[.agg #[.int .i64 TV.kind, .int .i64 TV.num, .string TV.text, .slice a5 TV.items.length c5], .agg #[.int .i64 vx.kind, .int .i64 vx.num, .string vx.text, .slice avx vx.items.length cvx]] V fun e w' => e = .returned (.bool (cmpV 16 TV vx == 0)) ∧ Below V.heap.size V w') := fun V hV => rsame_any TV vx _ _ V (Lies.keeps hV _ _ _ HL5.out) (Lies.keeps (HB5.out.trans (hV.mono HB5.out.size)) _ _ _ HVx.out)
    cases hO : O with
    | none =>
     have eR : R = false := by rw [HAl.out, Hh.out, hO]; rfl
     subst eR
     clear HSm HTV Hh HAl
     go_wp2_with fail
     go_quiet (fail)
     go_wp2_with fail
     go_ret
     exact ⟨rfl, HB5.out.trans ((below_drewN _ _).mono HB5.out.size)⟩
    | some z =>
     have eT : Hid (cmpV 16 TV vx == 0) = Hid (HP = true) := by
      show ((cmpV 16 TV vx == 0) = true) = (HP = true)
      rw [Hh.out, hO, HTV.out, hO]; rfl
     have eT2 : (cmpV 16 TV vx == 0) = HP := by rw [Hh.out, hO, HTV.out, hO]; rfl
     rw [eT2] at HSm
     clear HTV Hh eT eT2
     go_wp2_with fail
     go_region_held3 (fun w' => w'.cell? ⟨c, 1, none⟩ = some (.slice (some ⟨b, o, none⟩) NA ca) ∧ w'.cell? ⟨w5.heap.size, 0, none⟩ = some (.int .i64 TV.kind) ∧ w'.cell? ⟨w5.heap.size, 1, none⟩ = some (.int .i64 TV.num) ∧ w'.cell? ⟨w5.heap.size, 2, none⟩ = some (.string TV.text) ∧ w'.cell? ⟨w5.heap.size, 3, none⟩ = some (.slice a5 TV.items.length c5) ∧ w'.cell? ⟨b, o + j * 8 + 4, none⟩ = some (.int .i64 vx.kind) ∧ w'.cell? ⟨b, o + j * 8 + 5, none⟩ = some (.int .i64 vx.num) ∧ w'.cell? ⟨b, o + j * 8 + 6, none⟩ = some (.string vx.text) ∧ w'.cell? ⟨b, o + j * 8 + 7, none⟩ = some (.slice avx vx.items.length cvx)) (go_keep)
      (first | (go_at_call 81; (with_reducible refine Calls.mono (HSm.out _ (Below.refl _ _).drew) ?_); rintro e w6 ⟨rfl, hg'⟩; have hg : Below W5.heap.size W5 w6 := (Below.drew (Below.refl _ _)).trans hg'; have HB6 : Hid (Below w.heap.size w w6) := HB5.out.trans (hg.mono HB5.out.size); have x0 := cell_keeps hg x0; have x1 := cell_keeps hg x1; have x2 := cell_keeps hg x2; have x3 := cell_keeps hg x3; have y0 := cell_keeps hg y0; have y1 := cell_keeps hg y1; have y2 := cell_keeps hg y2; have y3 := cell_keeps hg y3; have ha1 := cell_keeps hg ha1; clear hg hg'))
     clear x0 x1 x2 x3 y0 y1 y2 y3 HSm HX5 HL5
     cases HP with
     | false =>
      have eR : R = false := by rw [HAl.out]; rfl
      subst eR
      clear HAl
      go_wp2_with fail
      go_ret
      exact ⟨rfl, HB6.out⟩
     | true =>
      go_wp2_with fail
      go_roundg (NA - (j + 1))
      case measure => have := Hk.out; omega
      case rel =>
       refine ⟨j + 1, by go_num, by omega, rfl, ?_, HB6.out⟩
       show _ = _
       rw [HAl.out]; rfl
   ·have hji : ¬ (j : Int) < (NA : Nat) := by omega
    have eR : R = true := by
     rw [HRj.out, List.drop_eq_nil_of_le (by rw [← Hqa.out, List.length_map, ← HNA.out]; omega)]; rfl
    subst eR
    clear HRj
    go_wp2_with fail
    go_ret
    exact ⟨rfl, Hbw.out⟩
 ·have eR : R = false := by rw [HEq.out, decide_eq_false hne]; rfl
  subst eR
  have hne2 : ((NA : Nat) : Int) ≠ (NB : Nat) := by omega
  clear HEq
  go_enter Tryz.func33, Tryz.ntmps33
  go_wp2_with fail
  go_quiet (fail)
  go_wp2_with fail
  go_ret
  exact ⟨rfl, below_drewN _ _⟩

end Go.Proofs.YtlnecfjnffdciaaGreat

