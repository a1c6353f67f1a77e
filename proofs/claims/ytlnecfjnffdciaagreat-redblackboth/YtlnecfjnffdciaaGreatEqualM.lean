import Derived.Test.YtlnecfjnffdciaaGreatManyLaw
import Derived.Test.YtlnecfjnffdciaaGreatSortedQ
import Derived.Test.YtlnecfjnffdciaaGreatUnionM
namespace Go.Proofs.YtlnecfjnffdciaaGreat
open Go.RowKit Go.Shelf

set_option maxRecDepth 100000 in
set_option maxHeartbeats 4000000 in
theorem turn_same {w : World} {q : Nat} {t : RT PT} {b : Nat} (h : MC w q t b) : Calls Tryz.prog 30 #[.pointer (some ⟨b, 0, none⟩), .int .i64 (q : Int)] w fun e w' => e = .returned (.tuple #[.pointer (some ⟨b, 0, none⟩), .int .i64 0]) ∧ Below w.heap.size w w' := by
 have HC : Hid (Calls Tryz.prog 78 #[.int .i64 (q : Int)] w fun e w' => e = .returned (.int .i64 0) ∧ Below w.heap.size w w') := by
  have h9 := checkOrder_14 (q : Int) w
  have e9 : ordErr (q : Int) = 0 := by unfold ordErr; rw [if_neg (by have := h.q6; omega)]
  rwa [e9] at h9
 have ho := h.ord
 clear h
 go_enter Tryz.func30, Tryz.ntmps30
 go_wp2_with fail
 refine Calls.mono HC.out ?_
 rintro e w1 ⟨rfl, hb⟩
 have ho := cell_keeps hb ho
 go_wp2_with fail
 refine (own_14 _ _).mono ?_
 rintro e w2 ⟨rfl, hw⟩
 obtain rfl : w1 = w2 := hw.symm
 go_wp2_with fail
 go_ret2
 exact ⟨rfl, hb⟩

def RawM (w : World) (q : Nat) (t : RT PT) (b : Nat) : Prop := w.cell? ⟨b, 0, none⟩ = some (.int .i64 (q : Int)) ∧ ∃ p, w.cell? ⟨b, 1, none⟩ = some (.pointer p) ∧ NM TT 16 w t p

set_option maxRecDepth 100000 in
set_option maxHeartbeats 4000000 in
theorem len_raw {w : World} {q : Nat} {t : RT PT} {b : Nat} (h : RawM w q t b) : Calls Tryz.prog 26 #[.pointer (some ⟨b, 0, none⟩)] w fun e w' => e = .returned (.int .i64 (t.size : Nat)) ∧ Below w.heap.size w w' := by
 obtain ⟨_, p, hp, hn⟩ := h
 have HM : Hid _ := measured_14 hn
 have hf1 : ∀ W : World, (Instr.field 106 (.agg #[.int .i64 t.size, .int .i64 t.high, .int .i64 t.blacks]) 0).run Tryz.prog W = .ok (.int .i64 (t.size : Nat)) W := fun W => field_size14 _ _ _ W
 clear hn
 go_enter Tryz.func26, Tryz.ntmps26
 go_wp2_with fail
 refine (own_14 _ _).mono ?_
 rintro e w1 ⟨rfl, rfl⟩
 go_wp2_with fail
 refine Calls.mono HM.out ?_
 rintro e w2 ⟨hb, rfl⟩
 go_wp2_with fail
 go_ret
 exact ⟨rfl, hb⟩

def RawPost (q : Nat) (t : RT PT) (w : World) (e : Ending) (w' : World) : Prop := Below w.heap.size w w' ∧ ∃ b, e = .returned (.pointer (some ⟨b, 0, none⟩)) ∧ RawM w' q t b

set_option maxRecDepth 100000 in
set_option maxHeartbeats 8000000 in
theorem of_raw (b q : Nat) (t : RT PT) (p : Option Addr) (w : World) (ho : w.cell? ⟨b, 0, none⟩ = some (.int .i64 (q : Int))) (hn : NM TT 16 w t p) (hz : t.size < 4611686018427387904) :
 Calls Tryz.prog 65 #[.pointer (some ⟨b, 0, none⟩), .pointer p] w (RawPost q t.black w) := by
 have HB : Hid (∀ V, Below w.heap.size w V → Calls Tryz.prog 112 #[.pointer p] V (TreePost TT 16 t.black V)) := fun V hV => black_14 (hn.keeps hV) hz
 have HP : Hid (∀ (V : World) (p : Option Addr), Below w.heap.size w V → NM TT 16 V t.black p → RawPost q t.black w (.returned (.pointer (some ⟨V.heap.size, 0, none⟩))) (V.alloc (.cells #[.int .i64 (q : Int), .pointer p] 89))) := fun V p hV ht => by
  have hb9 : Below V.heap.size V (V.alloc (.cells #[.int .i64 (q : Int), .pointer p] 89)) := ((Grew.refl V).alloc _).below
  exact ⟨hV.trans (hb9.mono hV.size), V.heap.size, rfl, by simp, p, by simp, ht.keeps hb9⟩
 clear hn hz
 go_enter Tryz.func65, Tryz.ntmps65
 go_wp2_with fail
 go_region_held3 (fun w' => w'.cell? ⟨b, 0, none⟩ = some (.int .i64 (q : Int))) (go_keep)
  (first | (go_at_call 112; (with_reducible refine Calls.mono (HB.out _ (Below.refl _ _).drew) ?_); rintro e w2 ⟨hg, p2, rfl, ht⟩; have hg2 : Below w.heap.size w w2 := (Below.refl _ _).drew.trans hg; have ho := cell_keeps hg2 ho; have HE : Hid (RawPost q t.black w (.returned (.pointer (some ⟨w2.heap.size, 0, none⟩))) (w2.alloc (.cells #[.int .i64 (q : Int), .pointer p2] 89))) := HP.out w2 p2 hg2 ht; clear hg ht))
 all_goals (first | (go_ret; exact HE.out) | (go_wp2_with fail; go_ret; exact HE.out))

theorem eg_byK1 : ∀ args w, (callFunc 97 args).run Tryz.prog w = .ok (.enter 97 args) w := enters_of Tryz.func97 (by kernel_rfl) rfl

theorem byK_cmpC (q bb : Nat) (hq : q < 6) (w : World) (hb : w.cell? ⟨bb, 0, none⟩ = some (.int .i64 (q : Int))) : CmpC TT 16 97 (some ⟨bb, 0, none⟩) (byK q) (fun x => rightV 16 x.1 = true) w := by
 intro V hV x y ku vu ky vy hx hy h1 h2 h3 h4
 refine byKeys1_14 q bb x y ku vu ky vy V (cell_keeps hV hb) _ fun V3 hV3 => ?_
 have h9 := compareO_any 16 (q : Int) x.1 y.1 ku ky V3 (LiesX.keeps hV3 h1.1).lies (LiesX.keeps hV3 h3.1).lies h1.2 h3.2
 rw [(ordR_right q hq x.1 y.1 hx hy).1, (ordR_right q hq x.1 y.1 hx hy).2] at h9
 exact h9

end Go.Proofs.YtlnecfjnffdciaaGreat

namespace Go.Proofs.YtlnecfjnffdciaaGreat
open Go.RowKit Go.Shelf

theorem filter_one {α : Type} {f : α → α → Bool} (hs : ∀ a, f a a = true) (ht : ∀ a b, f a b = f b a) : ∀ (l : List α), l.Pairwise (fun a b => f a b = false) → ∀ z ∈ l, l.filter (f z) = [z] := by
 intro l
 induction l with
 | nil => intro _ z hz; cases hz
 | cons x l ih =>
  intro hp z hz
  rw [List.pairwise_cons] at hp
  rcases List.mem_cons.1 hz with rfl | hz
  ·rw [List.filter_cons_of_pos (hs z)]
   congr 1
   rw [List.filter_eq_nil_iff]
   intro y hy h9
   rw [hp.1 y hy] at h9
   cases h9
  ·rw [List.filter_cons_of_neg (by rw [ht, hp.1 z hz]; exact Bool.false_ne_true)]
   exact ih hp.2 z hz

theorem kyd_all {α : Type} {cf : α → α → Int} (h : Cmp3 cf) (n : Nat) (l : List α) (hn : l.length ≤ n) (hd : l.Pairwise (fun a b => cf a b ≠ 0)) (z : α) : z ∈ kyd cf n l ↔ z ∈ l := by
 refine ⟨kyd_mem cf n l z, fun hz => ?_⟩
 have h1 := (kyd_spec h n l hn).2 z
 have hw := h.weak
 rw [filter_one (f := sim (ltI cf)) (fun a => sim_self hw a) (fun a b => by unfold sim; rw [Bool.and_comm]) l (hd.imp fun {a b} h9 => by
  rw [Bool.eq_false_iff]
  intro h8
  have h7 := sim_iff.1 h8
  have a1 : ¬ cf a b < 0 := of_decide_eq_false h7.1
  have a2 : ¬ cf b a < 0 := of_decide_eq_false h7.2
  have := h.turn a b
  omega) z hz] at h1
 have h2 : z ∈ (kyd cf n l).filter (sim (ltI cf) z) := by rw [h1]; exact List.mem_singleton.2 rfl
 exact (List.mem_filter.1 h2).1

theorem rises_apart {q : Nat} {qs : List PP} (hg : ∀ p ∈ qs, Good 16 p.1.1) (h : RT.Rises (byK q) (qs.map trT)) : qs.Pairwise (fun a b => cmpQ 16 a b ≠ 0) := by
 have h1 : (qs.map trT).Pairwise (fun a b => byK q a b < 0) := h
 rw [List.pairwise_map] at h1
 refine h1.imp_of_mem fun {a b} ha hb hab h9 => ?_
 have h8 : ordV q a.1.1 b.1.1 = 0 := (ordV_zero q (hg a ha) (hg b hb)).2 h9
 have h7 : ordV q a.1.1 b.1.1 < 0 := hab
 omega

def TurnPost (o : Int) (t : RT PT) (w : World) (e : Ending) (w' : World) : Prop :=
 Below w.heap.size w w' ∧ ((ordErr o ≠ 0 ∧ e = .returned (.tuple #[.pointer none, .int .i64 (ordErr o)])) ∨
  (ordErr o = 0 ∧ ∃ s b, e = .returned (.tuple #[.pointer (some ⟨b, 0, none⟩), .int .i64 0]) ∧ MC w' o.toNat s b ∧ ∀ y, y ∈ s.items ↔ y ∈ t.items))

set_option maxRecDepth 100000 in
set_option maxHeartbeats 8000000 in
theorem turn_14 (o : Int) {w : World} {q : Nat} {t : RT PT} {b : Nat} (h : MC w q t b) : Calls Tryz.prog 30 #[.pointer (some ⟨b, 0, none⟩), .int .i64 o] w (TurnPost o t w) := by
 by_cases hs : o = (q : Int)
 ·subst hs
  refine Calls.mono (turn_same h) fun e w' ⟨he, hb⟩ => ⟨hb, .inr ⟨by unfold ordErr; rw [if_neg (by have := h.q6; omega)], t, b, he, by simpa using h.keeps hb, fun _ => Iff.rfl⟩⟩
 have HC : Hid _ := checkOrder_14 o w
 have HM : Hid (∀ V, Below w.heap.size w V → MC V q t b) := fun V hV => h.keeps hV
 have HZ : Hid (t.items.length ≤ 65536) := by show _ ≤ _; rw [← RT.size_items]; exact h.size
 have HR : Hid (∀ x ∈ t.items, Good 16 x.1 ∧ Good 16 x.2) := h.right
 have HRi : Hid (RT.Rises (byK q) t.items) := h.rises
 have HPe : Hid (ordErr o ≠ 0 → ∀ w', Below w.heap.size w w' → TurnPost o t w (.returned (.tuple #[.pointer none, .int .i64 (ordErr o)])) w') := fun h w' hb => ⟨hb, .inl ⟨h, rfl⟩⟩
 have HPk : Hid (ordErr o = 0 → ∀ s b w', Below w.heap.size w w' → MC w' o.toNat s b → (∀ y, y ∈ s.items ↔ y ∈ t.items) → TurnPost o t w (.returned (.tuple #[.pointer (some ⟨b, 0, none⟩), .int .i64 0])) w') := fun h s b w' hb h1 h2 => ⟨hb, .inr ⟨h, s, b, rfl, h1, h2⟩⟩
 have H0 : Hid (ordErr o = 0 → 0 ≤ o ∧ o < 6) := fun h => by
  unfold ordErr at h
  split at h
  ·cases h
  ·omega
 have ho := h.ord
 have Hs : Hid (o ≠ (q : Int)) := hs
 generalize TurnPost o t w = PO at *
 generalize ordErr o = E at *
 clear h hs
 go_enter Tryz.func30, Tryz.ntmps30
 go_wp2_with fail
 refine Calls.mono HC.out ?_
 rintro e w1 ⟨rfl, hb1⟩
 have ho := cell_keeps hb1 ho
 by_cases hE : E = 0
 ·have HPk2 : Hid _ := HPk.out hE
  obtain ⟨hlo, hhi⟩ := H0.out hE
  subst hE
  clear HPk HPe
  obtain ⟨r, rfl⟩ : ∃ r : Nat, o = r := ⟨o.toNat, by omega⟩
  have hr6 : r < 6 := by omega
  clear hlo hhi H0
  have hne := Hs.out
  go_wp2_with fail
  refine (own_14 _ _).mono ?_
  rintro e w2 ⟨rfl, hw⟩
  obtain rfl : w1 = w2 := hw.symm
  have HK : Hid _ := kept_14 (HM.out w1 hb1)
  go_wp2_with fail
  refine Calls.mono HK.out ?_
  rintro e w3 ⟨v, rfl, ⟨qs, hq, how, hg⟩, hb3⟩
  have hbb3 : Below w.heap.size w w3 := hb1.trans (hb3.mono hb1.size)
  have hl : qs.length = t.items.length := by rw [← hq, List.length_map]
  have hs3 : SlQ w1.heap.size 16 w3 qs v := SlQ.of_own rfl how (fun p hp => (hg p hp).keeps hb3) (by have := HZ.out; omega)
  obtain ⟨a3, c3, rfl, _⟩ := hs3.slice
  have hgood : ∀ p ∈ qs, Good 16 p.1.1 ∧ Good 16 p.2.1 := fun p hp => HR.out (trT p) (by rw [← hq]; exact List.mem_map.2 ⟨p, hp, rfl⟩)
  have HS : Hid _ := sorted_14 r hr6 qs _ w3 (hs3.mono (Nat.zero_le _)) (by have := HZ.out; omega) (fun p hp => (hgood p hp).1.1)
  have HG3 : Hid (∀ p ∈ qs, Good 16 p.1.1 ∧ Good 16 p.2.1) := hgood
  have HMe : Hid (∀ y, y ∈ (kyd (cmpQ 16) (qs.length + 1) qs).map trT ↔ y ∈ t.items) := fun y => by
   rw [← hq]
   have h9 := fun z => kyd_all (cmp3Q 16) (qs.length + 1) qs (by omega) (rises_apart (q := q) (fun p hp => (hgood p hp).1) (by rw [hq]; exact HRi.out)) z
   simp only [List.mem_map, h9]
  have hs0 := HS.out
  have HS : Hid (Calls Tryz.prog 48 #[.int .i64 (r : Int), .slice a3 qs.length c3] w3 fun e w' => ∃ v rs, e = .returned v ∧ SlQ w3.heap.size 16 w' rs v ∧ rs.length ≤ 65536 ∧ (∀ p ∈ rs, p ∈ qs) ∧ RT.Rises (byK r) (rs.map trT) ∧ (∀ y, y ∈ rs.map trT ↔ y ∈ t.items) ∧ Below w3.heap.size w3 w') := Calls.mono hs0 fun e w' ⟨v, rs, h1, h2, h3, h4, h5, h6, h7⟩ => ⟨v, rs, h1, h2, h3, h4, h5, fun y => (h6 y).trans (HMe.out y), h7⟩
  clear HMe hs0
  clear HK hs3 how hg hb3 hgood hl hq HZ HR HRi HM hne Hs
  generalize qs.length = n3 at *
  go_wp2_with fail
  refine Calls.mono HS.out ?_
  rintro e w4 ⟨v4, rs, rfl, hs4, hl4, hm4, hri4, hme4, hg4⟩
  have hb4 : Below w.heap.size w w4 := hbb3.trans (hg4.mono hbb3.size)
  obtain ⟨a4, c4, rfl, _⟩ := hs4.slice
  have HG : Hid _ := grown_14 TT 16 rs _ w4 (hs4.mono (Nat.zero_le _)) (fun p hp => ⟨⟨(LiesX.of_lies (hs4.good p hp).1.1).mono (fun _ _ => trivial), (hs4.good p hp).1.2⟩, ⟨(LiesX.of_lies (hs4.good p hp).2.1).mono (fun _ _ => trivial), (hs4.good p hp).2.2⟩⟩) (by omega)
  have HQ : Hid (RT.Rises (byK r) (rs.map trT) ∧ (∀ y, y ∈ rs.map trT ↔ y ∈ t.items) ∧ (rs.map trT).length ≤ 65536 ∧ ∀ y ∈ rs.map trT, Good 16 y.1 ∧ Good 16 y.2) := ⟨hri4, hme4, by rw [List.length_map]; exact hl4, fun y hy => by
   obtain ⟨p, hp, rfl⟩ := List.mem_map.1 hy
   exact HG3.out p (hm4 p hp)⟩
  generalize rs.map trT = RL at *
  clear hs4 hm4 hri4 hme4 hg4 HS HG3 hl4
  generalize rs.length = n4 at *
  go_wp2_with fail
  refine Calls.mono HG.out ?_
  rintro e w5 ⟨hg5, s, p5, rfl, hn5, hi5, hw5, hbl5⟩
  have hb5 : Below w.heap.size w w5 := hb4.trans (hg5.mono hb4.size)
  have hbA : Below w5.heap.size w5 (w5.alloc (.cells #[.int .i64 (r : Int), .pointer p5] 89)) := ((Grew.refl w5).alloc _).below
  have HE : Hid (PO (.returned (.tuple #[.pointer (some ⟨w5.heap.size, 0, none⟩), .int .i64 0])) (w5.alloc (.cells #[.int .i64 (r : Int), .pointer p5] 89))) := by
   refine HPk2.out s w5.heap.size _ (hb5.trans (hbA.mono hb5.size)) ⟨by simp, ⟨p5, by simp, hn5.keeps hbA⟩, hw5, hbl5, hr6, ?_, ?_, ?_⟩ ?_
   ·rw [hi5]; exact HQ.out.2.2.2
   ·rw [hi5]; exact HQ.out.1
   ·rw [RT.size_items, hi5]; exact HQ.out.2.2.1
   ·rw [hi5]; exact HQ.out.2.1
  clear hn5 hi5 hw5 hbl5 hg5 HG
  go_wp2_with fail
  first | exact HE.out | (go_ret2; exact HE.out)
 ·have HE : Hid (PO (.returned (.tuple #[.pointer none, .int .i64 E])) w1) := HPe.out hE w1 hb1
  clear HC H0 HPe HPk
  go_wp2_with fail
  first | exact HE.out | (go_ret2; exact HE.out)

end Go.Proofs.YtlnecfjnffdciaaGreat

namespace Go.Proofs.YtlnecfjnffdciaaGreat
open Go.RowKit Go.Shelf

theorem sameQ_eq {p r : PP} (h1 : Good 16 p.1.1 ∧ Good 16 p.2.1) (h2 : Good 16 r.1.1 ∧ Good 16 r.2.1) (h : sameQ 16 p r = true) : trT p = trT r := by
 unfold sameQ at h
 rw [Bool.and_eq_true, beq_iff_eq, beq_iff_eq] at h
 show (p.1.1, p.2.1) = (r.1.1, r.2.1)
 rw [good_eq h1.1 h2.1 h.1, good_eq h1.2 h2.2 h.2]

theorem sameQ_of {p r : PP} (h : trT p = trT r) : sameQ 16 p r = true := by
 have h9 : (p.1.1, p.2.1) = (r.1.1, r.2.1) := h
 injection h9 with e1 e2
 unfold sameQ
 rw [e1, e2, cmpV_self, cmpV_self]
 rfl

theorem same_rows {q : Nat} {t s u : List PT} {qs rs : List PP} (hq : qs.map trT = t) (hr : rs.map trT = u) (ht : RT.Rises (byK q) t) (hu : RT.Rises (byK q) u) (hgt : ∀ y ∈ t, Good 16 y.1 ∧ Good 16 y.2) (hgu : ∀ y ∈ u, Good 16 y.1 ∧ Good 16 y.2) (hm : ∀ y, y ∈ u ↔ y ∈ s) (R : Bool) (hR : R = true ↔ ∀ y, y ∈ t ↔ y ∈ s) :
 (qs.length = rs.length → (∀ (j : Nat) (h1 : j < qs.length) (h2 : j < rs.length), sameQ 16 qs[j] rs[j] = true) → R = true) ∧ (qs.length ≠ rs.length → R = false) ∧ (∀ (j : Nat) (h1 : j < qs.length) (h2 : j < rs.length), sameQ 16 qs[j] rs[j] = false → R = false) := by
 have hlt : qs.length = t.length := by rw [← hq, List.length_map]
 have hlu : rs.length = u.length := by rw [← hr, List.length_map]
 have hall : R = true → t = u := fun h => RT.rises_eq (byK_cmp q) t u ht hu fun y => (hR.1 h y).trans (hm y).symm
 refine ⟨fun hl h => hR.2 fun y => ?_, fun hl => ?_, fun j h1 h2 h => ?_⟩
 ·have e : t = u := by
   refine List.ext_getElem (by omega) fun j h1 h2 => ?_
   have k1 : t[j] = trT (qs[j]'(by omega)) := by simp [← hq]
   have k2 : u[j] = trT (rs[j]'(by omega)) := by simp [← hr]
   rw [k1, k2]
   exact sameQ_eq (hgt (trT (qs[j]'(by omega))) (by rw [← k1]; exact List.getElem_mem h1)) (hgu (trT (rs[j]'(by omega))) (by rw [← k2]; exact List.getElem_mem h2)) (h j (by omega) (by omega))
  rw [e]; exact hm y
 ·rw [Bool.eq_false_iff]
  intro h
  have := hall h
  rw [this] at hlt
  omega
 ·rw [Bool.eq_false_iff]
  intro h9
  have e := hall h9
  have k1 : trT qs[j] = trT rs[j] := by
   have a1 : (qs.map trT)[j]? = (rs.map trT)[j]? := by rw [hq, hr, e]
   simpa [List.getElem?_eq_getElem h1, List.getElem?_eq_getElem h2] using a1
  rw [sameQ_of k1] at h
  cases h

set_option maxRecDepth 100000 in
set_option maxHeartbeats 8000000 in
theorem equal_14 {w : World} {q r : Nat} {t s : RT PT} {b c : Nat} (h1 : MC w q t b) (h2 : MC w r s c) (R : Bool) (hR : R = true ↔ ∀ y, y ∈ t.items ↔ y ∈ s.items) : Calls Tryz.prog 32 #[.pointer (some ⟨b, 0, none⟩), .pointer (some ⟨c, 0, none⟩)] w fun e w' => e = .returned (.bool R) ∧ Below w.heap.size w w' := by
 have HA : Hid (∀ V, Below w.heap.size w V → MC V q t b) := fun V hV => h1.keeps hV
 have HB : Hid (∀ V, Below w.heap.size w V → MC V r s c) := fun V hV => h2.keeps hV
 have HR : Hid (R = true ↔ ∀ y, y ∈ t.items ↔ y ∈ s.items) := hR
 have HL1 : Hid _ := mlen_14 h1
 have HO : Hid (ordErr (q : Int) = 0) := by show _ = _; unfold ordErr; rw [if_neg (by have := h1.q6; omega)]
 have HNe : Hid (t.size ≠ s.size → R = false) := fun hn => by
  rw [Bool.eq_false_iff]
  intro h
  have hy := hR.1 h
  have n1 : t.items.Nodup := h1.rises.imp fun {x y} hxy e => by
   subst e
   have : byK q x x = 0 := ordV_self q x.1
   omega
  have n2 : s.items.Nodup := h2.rises.imp fun {x y} hxy e => by
   subst e
   have : byK r x x = 0 := ordV_self r x.1
   omega
  have := ((List.perm_ext_iff_of_nodup n1 n2).2 hy).length_eq
  rw [← RT.size_items, ← RT.size_items] at this
  exact hn this
 clear h1 h2 hR
 go_enter Tryz.func32, Tryz.ntmps32
 go_wp2_with fail
 refine Calls.mono HL1.out ?_
 rintro e w1 ⟨rfl, hb1⟩
 have HL2 : Hid _ := mlen_14 (HB.out w1 hb1)
 go_wp2_with fail
 refine Calls.mono HL2.out ?_
 rintro e w2 ⟨rfl, hb2⟩
 have hbb2 : Below w.heap.size w w2 := hb1.trans (hb2.mono hb1.size)
 clear HL1 HL2 hb1 hb2
 by_cases hz : t.size = s.size
 ·clear HNe
  have Hz : Hid (t.size = s.size) := hz
  have hne : ((t.size : Int) != (s.size : Int)) = false := by rw [hz]; simp
  clear hz
  generalize t.size = z1 at *
  generalize s.size = z2 at *
  have HOr : Hid _ := morder_14 (HA.out w2 hbb2)
  have HTu : Hid _ := turn_14 (q : Int) (HB.out w2 hbb2)
  go_wp2_with fail
  refine Calls.mono HOr.out ?_
  rintro e w3 ⟨rfl, hw3⟩
  subst hw3
  clear HOr
  go_wp2_with fail
  refine Calls.mono HTu.out ?_
  rintro e w4 ⟨hb4, hx⟩
  obtain ⟨u, f, rfl, hm4, hme4⟩ : ∃ u f, e = .returned (.tuple #[.pointer (some ⟨f, 0, none⟩), .int .i64 0]) ∧ MC w4 q u f ∧ ∀ y, y ∈ u.items ↔ y ∈ s.items := by
   rcases hx with ⟨h, _⟩ | ⟨_, u, f, h1, h2, h3⟩
   ·exact absurd HO.out h
   ·exact ⟨u, f, h1, by simpa using h2, h3⟩
  clear hx
  have hbb4 : Below w.heap.size w w4 := hbb2.trans (hb4.mono hbb2.size)
  have HM4 : Hid (MC w4 q u f) := hm4
  have HMe : Hid (∀ y, y ∈ u.items ↔ y ∈ s.items) := hme4
  have HK1 : Hid _ := kept_14 (HA.out w4 hbb4)
  clear hb4 hm4 hme4 HTu
  go_wp2_with fail
  refine Calls.mono HK1.out ?_
  rintro e w5 ⟨v5, rfl, ⟨qs, hq5, ho5, hg5⟩, hb5⟩
  have hbb5 : Below w.heap.size w w5 := hbb4.trans (hb5.mono hbb4.size)
  have HK2 : Hid _ := kept_14 (HM4.out.keeps hb5)
  have HS5 : Hid (SlQ 0 16 w5 qs v5) := (SlQ.of_own rfl ho5 (fun p hp => (hg5 p hp).keeps hb5) (by have := (HA.out w (Below.refl _ _)).size; rw [RT.size_items, ← hq5, List.length_map] at this; omega)).mono (Nat.zero_le _)
  obtain ⟨a5, c5, rfl, _⟩ := SlQ.slice (show SlQ 0 16 w5 qs v5 from HS5.out)
  have Hq5 : Hid (qs.map trT = t.items) := hq5
  clear hq5 ho5 hg5 HK1
  generalize hn5 : qs.length = n5 at *
  have Hn5 : Hid (qs.length = n5) := hn5
  clear hn5
  go_wp2_with fail
  refine Calls.mono HK2.out ?_
  rintro e w6 ⟨v6, rfl, ⟨rs, hq6, ho6, hg6⟩, hb6⟩
  have hbb6 : Below w.heap.size w w6 := hbb5.trans (hb6.mono hbb5.size)
  have hs6 : SlQ 0 16 w6 rs v6 := (SlQ.of_own rfl ho6 (fun p hp => (hg6 p hp).keeps hb6) (by have := HM4.out.size; rw [RT.size_items, ← hq6, List.length_map] at this; omega)).mono (Nat.zero_le _)
  obtain ⟨a6, c6, rfl, _⟩ := hs6.slice
  have hsr := same_rows Hq5.out hq6 (HA.out w (Below.refl _ _)).rises HM4.out.rises (HA.out w (Below.refl _ _)).right HM4.out.right HMe.out R HR.out
  have HE : Hid (Calls Tryz.prog 79 #[.slice a5 n5 c5, .slice a6 rs.length c6, .func (.func 80) #[] #[]] w6 fun e w' => e = .returned (.bool R) ∧ Below w6.heap.size w6 w') := eqf_14 16 qs rs _ _ w6 (SlQ.keeps (show SlQ 0 16 w5 qs _ from HS5.out) hb6) hs6 (by have := (HA.out w (Below.refl _ _)).size; rw [RT.size_items, ← Hq5.out, List.length_map] at this; omega) R hsr.1 hsr.2.1 hsr.2.2
  clear hs6 hsr hq6 ho6 hg6 HK2 HS5 Hq5 Hn5 HM4 HMe
  generalize rs.length = n6 at *
  go_wp2_with fail
  refine Calls.mono HE.out ?_
  rintro e w7 ⟨rfl, hb7⟩
  have hbb7 : Below w.heap.size w w7 := hbb6.trans (hb7.mono hbb6.size)
  clear HE hb7 hb6 hb5
  go_wp2_with fail
  first | (go_ret; exact ⟨rfl, hbb7⟩) | exact ⟨rfl, hbb7⟩
 ·have HE : Hid (R = false) := HNe.out hz
  have hne : ((t.size : Int) != (s.size : Int)) = true := by simp; omega
  clear HNe hz
  generalize t.size = z1 at *
  generalize s.size = z2 at *
  go_wp2_with fail
  go_ret
  exact ⟨by rw [HE.out]; rfl, hbb2⟩

end Go.Proofs.YtlnecfjnffdciaaGreat

