import Derived.Test.YtlnecfjnffdciaaGreatRWot14
import Derived.Test.YtlnecfjnffdciaaGreatRIn
import Derived.Test.YtlnecfjnffdciaaGreatManyLaw
namespace Go.Proofs.YtlnecfjnffdciaaGreat
open Go.RowKit Go.Shelf

def DoPost (q : Nat) (l : List PT) (E : Int) (w : World) (e : Ending) (w' : World) : Prop := Below w.heap.size w w' ∧ ((E ≠ 0 ∧ e = .returned (.tuple #[.pointer none, .int .i64 E])) ∨ (E = 0 ∧ ∃ b, e = .returned (.tuple #[.pointer (some ⟨b, 0, none⟩), .int .i64 0]) ∧ DM w' q l b))

set_option maxRecDepth 100000 in
set_option maxHeartbeats 8000000 in
theorem rdis_14 {w0 w : World} {q : Nat} {l : List PT} {c : Nat} (h : DM w0 q l c) (hw0 : Below w0.heap.size w0 w) (d : Nat) (y : VT) (yu : Value) (hy : Lies d w y.items yu) :
 Calls Tryz.prog 23 #[.pointer (some ⟨c, 0, none⟩), .agg #[.int .i64 y.kind, .int .i64 y.num, .string y.text, yu]] w (DoPost q (lessK q y l) (errOf (rightV d y)) w) := by
 obtain ⟨ay, cy, rfl, _⟩ := Lies.slice hy
 obtain ⟨W0, hW0⟩ : ∃ W0, W0 = (w.alloc (.cells #[.int .i64 y.kind, .int .i64 y.num, .string y.text, .slice ay y.items.length cy] 34)) := ⟨_, rfl⟩
 have hb0 : Below w.heap.size w W0 := by rw [hW0]; exact ((Grew.refl w).alloc _).below
 have HY0 : Hid (Bx W0 w.heap.size y (.slice ay y.items.length cy)) := by rw [hW0]; exact bx_alloc _ _ _
 have HR : Hid (Calls Tryz.prog 63 #[.agg #[.int .i64 y.kind, .int .i64 y.num, .string y.text, .slice ay y.items.length cy]] W0 fun e w' => e = .returned (.bool (rightV d y)) ∧ Below W0.heap.size W0 w') := right_any d y _ W0 (Lies.keeps hb0 _ _ _ hy)
 have HW : Hid (rightV d y = true → ∀ V, Below w.heap.size w V → Calls Tryz.prog 68 #[.pointer (some ⟨c, 0, none⟩), .agg #[.int .i64 y.kind, .int .i64 y.num, .string y.text, .slice ay y.items.length cy]] V (DmPost q (lessK q y l) V)) := fun hr V hV => by
  obtain ⟨h1, h2⟩ := canon hy hr
  exact rwot_14 h (hw0.trans (hV.mono hw0.size)) y _ (Lies.keeps hV _ _ _ h1) h2
 clear hy h
 cases hr : rightV d y with
 | false =>
  rw [hr] at HR
  clear HW
  go_enter Tryz.func23, Tryz.ntmps23
  obtain ⟨r0, r1, r2, r3, _, _, _, _⟩ := HY0.out
  go_wp2_with fail
  rw [← hW0]
  clear hW0
  go_wp2_with fail
  refine Calls.mono HR.out ?_
  rintro e w1 ⟨rfl, hg1⟩
  have HE : Hid (DoPost q (lessK q y l) (errOf false) w (.returned (.tuple #[.pointer none, .int .i64 3])) w1) := ⟨hb0.trans (hg1.mono hb0.size), .inl ⟨by decide, rfl⟩⟩
  clear r0 r1 r2 r3 HR HY0 hg1 hb0
  go_wp2_with fail
  refine bodyPost_ret (v := .tuple #[.pointer none, .int .i64 3]) (by simp [results, Tryz.results23, go_sem]) rfl HE.out
 | true =>
  rw [hr] at HR
  have HWt : Hid (∀ V, Below w.heap.size w V → Calls Tryz.prog 68 #[.pointer (some ⟨c, 0, none⟩), .agg #[.int .i64 y.kind, .int .i64 y.num, .string y.text, .slice ay y.items.length cy]] V (DmPost q (lessK q y l) V)) := HW.out hr
  clear HW
  go_enter Tryz.func23, Tryz.ntmps23
  obtain ⟨r0, r1, r2, r3, _, _, _, _⟩ := HY0.out
  go_wp2_with fail
  rw [← hW0]
  clear hW0
  go_wp2_with fail
  refine Calls.mono HR.out ?_
  rintro e w1 ⟨rfl, hg1⟩
  have hb1 : Below w.heap.size w w1 := hb0.trans (hg1.mono hb0.size)
  clear r0 r1 r2 r3
  obtain ⟨r0, r1, r2, r3, _, _, _, _⟩ := HY0.out.keeps hg1
  have HWc := show Hid _ from HWt.out w1 hb1
  clear HR HWt HY0 hg1 hb0
  go_wp2_with fail
  refine Calls.mono HWc.out ?_
  rintro e w2 ⟨hg2, b, rfl, hd⟩
  have HE : Hid (DoPost q (lessK q y l) (errOf true) w (.returned (.tuple #[.pointer (some ⟨b, 0, none⟩), .int .i64 0])) w2) := ⟨hb1.trans (hg2.mono hb1.size), .inr ⟨rfl, b, rfl, hd⟩⟩
  clear r0 r1 r2 r3 HWc hg2 hd hb1
  go_wp2_with fail
  refine bodyPost_ret (v := .tuple #[.pointer (some ⟨b, 0, none⟩), .int .i64 0]) (by simp [results, Tryz.results23, go_sem]) rfl HE.out

def assocL (d q : Nat) (k v : VT) (l : List PT) : Int := if rightV d k = false then 3 else if rightV d v = false then 3 else if findK q k l = none ∧ l.length = 65536 then 2 else 0

theorem assocL_is {d q : Nat} {k v : VT} {t : RT PT} (h : RT.Rises (byK q) t.items) : assocE d q k v t = assocL d q k v t.items := by
 unfold assocE assocL
 rw [find_is h, RT.size_items]

set_option maxRecDepth 100000 in
set_option maxHeartbeats 16000000 in
theorem rass_14 {w0 w : World} {q : Nat} {l : List PT} {c : Nat} (h : DM w0 q l c) (hw0 : Below w0.heap.size w0 w) (d : Nat) (y z : VT) (yu zu : Value) (hy : Lies d w y.items yu) (hyt : y.text.size ≤ 9223372036854775807) (hz : Lies d w z.items zu) (hzt : z.text.size ≤ 9223372036854775807) :
 Calls Tryz.prog 25 #[.pointer (some ⟨c, 0, none⟩), .agg #[.int .i64 y.kind, .int .i64 y.num, .string y.text, yu], .agg #[.int .i64 z.kind, .int .i64 z.num, .string z.text, zu]] w (DoPost q (withK q y z l) (assocL d q y z l) w) := by
 obtain ⟨ay, cy, rfl, _⟩ := Lies.slice hy
 obtain ⟨az, cz, rfl, _⟩ := Lies.slice hz
 obtain ⟨W0, hW0⟩ : ∃ W0, W0 = ((w.alloc (.cells #[.int .i64 y.kind, .int .i64 y.num, .string y.text, .slice ay y.items.length cy] 34)).alloc (.cells #[.int .i64 z.kind, .int .i64 z.num, .string z.text, .slice az z.items.length cz] 34)) := ⟨_, rfl⟩
 have hb0 : Below w.heap.size w W0 := by rw [hW0]; exact (((Grew.refl w).alloc _).alloc _).below
 have HY0 : Hid (Bx W0 w.heap.size y (.slice ay y.items.length cy)) := by rw [hW0]; exact (bx_alloc _ _ _).keeps ((Grew.refl _).alloc _).below
 have HZ0 : Hid (Bx W0 (w.heap.size + 1) z (.slice az z.items.length cz)) := by
  rw [hW0]
  have h9 := bx_alloc (w.alloc (.cells #[.int .i64 y.kind, .int .i64 y.num, .string y.text, .slice ay y.items.length cy] 34)) z (.slice az z.items.length cz)
  rwa [World.size_alloc] at h9
 have HRy : Hid (Calls Tryz.prog 63 #[.agg #[.int .i64 y.kind, .int .i64 y.num, .string y.text, .slice ay y.items.length cy]] W0 fun e w' => e = .returned (.bool (rightV d y)) ∧ Below W0.heap.size W0 w') := right_any d y _ W0 (Lies.keeps hb0 _ _ _ hy)
 have HRz : Hid (∀ V, Below w.heap.size w V → Calls Tryz.prog 63 #[.agg #[.int .i64 z.kind, .int .i64 z.num, .string z.text, .slice az z.items.length cz]] V fun e w' => e = .returned (.bool (rightV d z)) ∧ Below V.heap.size V w') := fun V hV => right_any d z _ V (Lies.keeps hV _ _ _ hz)
 cases hr : rightV d y with
 | false =>
  have he : assocL d q y z l = 3 := by unfold assocL; rw [if_pos hr]
  have HEE : Hid (assocL d q y z l = 3) := he
  rw [hr] at HRy
  clear HRz h hy hz he
  go_enter Tryz.func25, Tryz.ntmps25
  obtain ⟨r0, r1, r2, r3, _, _, _, _⟩ := HY0.out
  obtain ⟨s0, s1, s2, s3, _, _, _, _⟩ := HZ0.out
  go_wp2_with fail
  rw [← hW0]
  clear hW0
  go_wp2_with fail
  refine Calls.mono HRy.out ?_
  rintro e w1 ⟨rfl, hg1⟩
  have hb1 : Below w.heap.size w w1 := hb0.trans (hg1.mono hb0.size)
  clear r0 r1 r2 r3 s0 s1 s2 s3
  obtain ⟨r0, r1, r2, r3, _, _, _, _⟩ := HY0.out.keeps hg1
  obtain ⟨s0, s1, s2, s3, _, _, _, _⟩ := HZ0.out.keeps hg1
  have HE : Hid (DoPost q (withK q y z l) (assocL d q y z l) w (.returned (.tuple #[.pointer none, .int .i64 3])) w1) := by rw [HEE.out]; exact ⟨hb1, .inl ⟨by decide, rfl⟩⟩
  clear r0 r1 r2 r3 s0 s1 s2 s3 HRy HY0 HZ0 hg1 hb0
  go_wp2_with fail
  refine bodyPost_ret (v := .tuple #[.pointer none, .int .i64 3]) (by simp [results, Tryz.results25, go_sem]) rfl HE.out
 | true =>
  cases hrz : rightV d z with
  | false =>
   have he : assocL d q y z l = 3 := by unfold assocL; rw [if_neg (by rw [hr]; simp), if_pos hrz]
   have HEE : Hid (assocL d q y z l = 3) := he
   rw [hr] at HRy
   rw [hrz] at HRz
   clear h hy hz he
   go_enter Tryz.func25, Tryz.ntmps25
   obtain ⟨r0, r1, r2, r3, _, _, _, _⟩ := HY0.out
   obtain ⟨s0, s1, s2, s3, _, _, _, _⟩ := HZ0.out
   go_wp2_with fail
   rw [← hW0]
   clear hW0
   go_wp2_with fail
   refine Calls.mono HRy.out ?_
   rintro e w1 ⟨rfl, hg1⟩
   have hb1 : Below w.heap.size w w1 := hb0.trans (hg1.mono hb0.size)
   clear r0 r1 r2 r3 s0 s1 s2 s3
   obtain ⟨r0, r1, r2, r3, _, _, _, _⟩ := HY0.out.keeps hg1
   obtain ⟨s0, s1, s2, s3, _, _, _, _⟩ := HZ0.out.keeps hg1
   have HRz1 := show Hid _ from HRz.out w1 hb1
   clear HRy HRz
   go_wp2_with fail
   refine Calls.mono HRz1.out ?_
   rintro e w2 ⟨rfl, hg2⟩
   have hb2 : Below w.heap.size w w2 := hb1.trans (hg2.mono hb1.size)
   clear r0 r1 r2 r3 s0 s1 s2 s3
   have HY2 : Hid (Bx w2 w.heap.size y (.slice ay y.items.length cy)) := (HY0.out.keeps hg1).keeps hg2
   have HZ2 : Hid (Bx w2 (w.heap.size + 1) z (.slice az z.items.length cz)) := (HZ0.out.keeps hg1).keeps hg2
   obtain ⟨r0, r1, r2, r3, _, _, _, _⟩ := HY2.out
   obtain ⟨s0, s1, s2, s3, _, _, _, _⟩ := HZ2.out
   have HE : Hid (DoPost q (withK q y z l) (assocL d q y z l) w (.returned (.tuple #[.pointer none, .int .i64 3])) w2) := by rw [HEE.out]; exact ⟨hb2, .inl ⟨by decide, rfl⟩⟩
   clear r0 r1 r2 r3 s0 s1 s2 s3 HY0 HZ0 hg1 hb0 HY2 HZ2 hg2 HRz1
   go_wp2_with fail
   refine bodyPost_ret (v := .tuple #[.pointer none, .int .i64 3]) (by simp [results, Tryz.results25, go_sem]) rfl HE.out
  | true =>
   obtain ⟨h1, h2⟩ := canon hy hr
   obtain ⟨k1, k2⟩ := canon hz hrz
   have he : assocL d q y z l = if findK q y l = none ∧ l.length = 65536 then 2 else 0 := by unfold assocL; rw [if_neg (by rw [hr]; simp), if_neg (by rw [hrz]; simp)]
   have HEE : Hid (assocL d q y z l = if findK q y l = none ∧ l.length = 65536 then 2 else 0) := he
   have HPc : Hid (∀ V, Below w.heap.size w V → Calls Tryz.prog 73 #[.pointer (some ⟨c, 0, none⟩), .agg #[.int .i64 y.kind, .int .i64 y.num, .string y.text, .slice ay y.items.length cy]] V (PlPost q y l V)) := fun V hV => rplc_14 (h.keeps (hw0.trans (hV.mono hw0.size))) y _ (Lies.keeps hV _ _ _ h1) h2
   have HWc : Hid ((findK q y l = none → l.length < 65536) → ∀ V, Below w.heap.size w V → Calls Tryz.prog 74 #[.pointer (some ⟨c, 0, none⟩), .agg #[.int .i64 y.kind, .int .i64 y.num, .string y.text, .slice ay y.items.length cy], .agg #[.int .i64 z.kind, .int .i64 z.num, .string z.text, .slice az z.items.length cz]] V (DmPost q (withK q y z l) V)) := fun hs V hV => rwith_14 h (hw0.trans (hV.mono hw0.size)) y z _ _ (Lies.keeps hV _ _ _ h1) h2 (Lies.keeps hV _ _ _ k1) k2 hyt hzt hs
   obtain ⟨qs, v, hrow, hqt, hsl⟩ := h.row
   obtain ⟨a, cp, rfl, _⟩ := hsl.slice
   have hzl : qs.length = l.length := by rw [← hqt, List.length_map]
   rw [hzl] at hrow
   have Hc1 : Hid (w0.cell? ⟨c, 1, none⟩ = some (.slice a l.length cp)) := hrow
   have HRi : Hid (RT.Rises (byK q) l ∧ l.length ≤ 65536) := ⟨h.rises, h.size⟩
   obtain ⟨N, hN⟩ : ∃ N, N = l.length := ⟨_, rfl⟩
   have HN : Hid (N = l.length) := hN
   rw [← hN] at Hc1
   rw [hr] at HRy
   rw [hrz] at HRz
   clear h hy hz he hrow hsl hzl hqt hN h1 h2 k1 k2
   go_enter Tryz.func25, Tryz.ntmps25
   obtain ⟨r0, r1, r2, r3, _, _, _, _⟩ := HY0.out
   obtain ⟨s0, s1, s2, s3, _, _, _, _⟩ := HZ0.out
   go_wp2_with fail
   rw [← hW0]
   clear hW0
   go_wp2_with fail
   refine Calls.mono HRy.out ?_
   rintro e w1 ⟨rfl, hg1⟩
   have hb1 : Below w.heap.size w w1 := hb0.trans (hg1.mono hb0.size)
   clear r0 r1 r2 r3 s0 s1 s2 s3
   obtain ⟨r0, r1, r2, r3, _, _, _, _⟩ := HY0.out.keeps hg1
   obtain ⟨s0, s1, s2, s3, _, _, _, _⟩ := HZ0.out.keeps hg1
   have HRz1 := show Hid _ from HRz.out w1 hb1
   clear HRy HRz
   go_wp2_with fail
   refine Calls.mono HRz1.out ?_
   rintro e w2 ⟨rfl, hg2⟩
   have hb2 : Below w.heap.size w w2 := hb1.trans (hg2.mono hb1.size)
   clear r0 r1 r2 r3 s0 s1 s2 s3
   have HY2 : Hid (Bx w2 w.heap.size y (.slice ay y.items.length cy)) := (HY0.out.keeps hg1).keeps hg2
   have HZ2 : Hid (Bx w2 (w.heap.size + 1) z (.slice az z.items.length cz)) := (HZ0.out.keeps hg1).keeps hg2
   obtain ⟨r0, r1, r2, r3, _, _, _, _⟩ := HY2.out
   obtain ⟨s0, s1, s2, s3, _, _, _, _⟩ := HZ2.out
   have HPp := show Hid _ from HPc.out w2 hb2
   clear HPc HRz1
   go_wp2_with fail
   refine Calls.mono HPp.out ?_
   rintro e w3 ⟨hg3, r, F, rfl, hpl, hF1, hF2⟩
   have hb3 : Below w.heap.size w w3 := hb2.trans (hg3.mono hb2.size)
   clear r0 r1 r2 r3 s0 s1 s2 s3
   obtain ⟨r0, r1, r2, r3, _, _, _, _⟩ := HY2.out.keeps hg3
   obtain ⟨s0, s1, s2, s3, _, _, _, _⟩ := HZ2.out.keeps hg3
   have c1 := cell_keeps (hw0.trans (hb3.mono hw0.size)) Hc1.out
   clear HPp
   have HFn : Hid (F = true ↔ findK q y l ≠ none) := by
    constructor
    ·intro e
     obtain ⟨hrl, hz0⟩ := hF1 e
     rw [(hpl.some_at HRi.out.1 hrl hz0).2.1]
     simp
    ·intro e
     cases F with
     | true => rfl
     | false => exact absurd (hpl.none_at HRi.out.1 (hF2 rfl)).2 e
   clear hpl hF1 hF2
   by_cases hbad : F = false ∧ 65536 ≤ N
   ·obtain ⟨rfl, hb⟩ := hbad
    have hbI : (65536 : Int) ≤ (N : Nat) := by omega
    have HE : Hid (DoPost q (withK q y z l) (assocL d q y z l) w (.returned (.tuple #[.pointer none, .int .i64 2])) w3) := by
     rw [HEE.out, if_pos ⟨by
      have := HFn.out
      cases hf : findK q y l with
      | none => rfl
      | some x => rw [hf] at this; simp at this, by have := HRi.out.2; have := HN.out; omega⟩]
     exact ⟨hb3, .inl ⟨by decide, rfl⟩⟩
    clear HWc HEE HFn
    go_wp2_with fail
    refine bodyPost_ret (v := .tuple #[.pointer none, .int .i64 2]) (by simp [results, Tryz.results25, go_sem]) rfl HE.out
   ·have hok : findK q y l = none → l.length < 65536 := fun e => by
     have h9 := HFn.out
     rw [e] at h9
     have : F = false := by cases F with
      | false => rfl
      | true => simp at h9
     have := HN.out
     have : ¬ 65536 ≤ N := fun h => hbad ⟨by assumption, h⟩
     omega
    have he0 : assocL d q y z l = 0 := by
     rw [HEE.out, if_neg (fun h => by have := hok h.1; omega)]
    have HWp := show Hid _ from HWc.out hok w3 hb3
    have He0 : Hid (assocL d q y z l = 0) := he0
    have Hbad : Hid (F = true ∨ N < 65536) := by
     by_cases hf : F = true
     ·exact .inl hf
     ·exact .inr (by
       have hff : F = false := by cases F with
        | false => rfl
        | true => exact absurd rfl hf
       exact Nat.lt_of_not_le (fun h => hbad ⟨hff, h⟩))
    clear HWc HEE HFn he0 hok hbad
    rcases Hbad.out with rfl | hlt
    ·clear Hbad
     go_wp2_with fail
     refine Calls.mono HWp.out ?_
     rintro e w4 ⟨hg4, b, rfl, hd⟩
     have HE : Hid (DoPost q (withK q y z l) (assocL d q y z l) w (.returned (.tuple #[.pointer (some ⟨b, 0, none⟩), .int .i64 0])) w4) := by rw [He0.out]; exact ⟨hb3.trans (hg4.mono hb3.size), .inr ⟨rfl, b, rfl, hd⟩⟩
     clear r0 r1 r2 r3 s0 s1 s2 s3 HWp hg4 hd
     go_wp2_with fail
     refine bodyPost_ret (v := .tuple #[.pointer (some ⟨b, 0, none⟩), .int .i64 0]) (by simp [results, Tryz.results25, go_sem]) rfl HE.out
    ·clear Hbad
     have hltI : ¬ (65536 : Int) ≤ ((N : Nat) : Int) := by omega
     have hltD : decide ((65536 : Int) ≤ ((N : Nat) : Int)) = false := decide_eq_false hltI
     clear hlt
     cases F with
     | true =>
      go_wp2_with fail
      refine Calls.mono HWp.out ?_
      rintro e w4 ⟨hg4, b, rfl, hd⟩
      have HE : Hid (DoPost q (withK q y z l) (assocL d q y z l) w (.returned (.tuple #[.pointer (some ⟨b, 0, none⟩), .int .i64 0])) w4) := by rw [He0.out]; exact ⟨hb3.trans (hg4.mono hb3.size), .inr ⟨rfl, b, rfl, hd⟩⟩
      clear r0 r1 r2 r3 s0 s1 s2 s3 HWp hg4 hd
      go_wp2_with fail
      refine bodyPost_ret (v := .tuple #[.pointer (some ⟨b, 0, none⟩), .int .i64 0]) (by simp [results, Tryz.results25, go_sem]) rfl HE.out
     | false =>
      go_upto_region 6 with fail
      go_wp2_with fail
      refine Calls.mono HWp.out ?_
      rintro e w4 ⟨hg4, b, rfl, hd⟩
      have HE : Hid (DoPost q (withK q y z l) (assocL d q y z l) w (.returned (.tuple #[.pointer (some ⟨b, 0, none⟩), .int .i64 0])) w4) := by rw [He0.out]; exact ⟨hb3.trans (hg4.mono hb3.size), .inr ⟨rfl, b, rfl, hd⟩⟩
      clear r0 r1 r2 r3 s0 s1 s2 s3 HWp hg4 hd
      go_wp2_with fail
      refine bodyPost_ret (v := .tuple #[.pointer (some ⟨b, 0, none⟩), .int .i64 0]) (by simp [results, Tryz.results25, go_sem]) rfl HE.out

set_option maxRecDepth 100000 in
set_option maxHeartbeats 4000000 in
theorem rnew_14 (o : Int) (w : World) : Calls Tryz.prog 19 #[.int .i64 o] w (DoPost o.toNat [] (ordErr o) w) := by
 have HK : Hid (∀ V, Calls Tryz.prog 49 #[.int .i64 o] V fun e w' => e = .returned (.bool (kindO o)) ∧ w' = V) := fun V => rkind6_any o V
 by_cases ho : 0 ≤ o ∧ o ≤ 5
 ·have hk : kindO o = true := by unfold kindO; simpa using ho
  have he : ordErr o = 0 := by unfold ordErr; rw [if_neg (by omega)]
  rw [hk] at HK
  have HE : Hid (DoPost o.toNat [] (ordErr o) w (.returned (.tuple #[.pointer (some ⟨w.heap.size, 0, none⟩), .int .i64 0])) (w.alloc (.cells #[.int .i64 o, .slice none 0 0] 56))) := by
   rw [he]
   have hb := (Box2.new w 56 (.int .i64 o) (.slice none 0 0)).cells
   refine ⟨((Grew.refl w).alloc _).below, .inr ⟨rfl, _, rfl, ⟨?_, ⟨[], _, hb.2.1, rfl, nil_slq _⟩, by omega, (fun x hx => by cases hx), List.Pairwise.nil, by simp⟩⟩⟩
   rw [show ((o.toNat : Nat) : Int) = o by omega]
   exact hb.1
  clear ho hk he
  go_enter Tryz.func19, Tryz.ntmps19
  go_wp2_with (go_at_call 49; refine Calls.mono (HK.out _) ?_; rintro e w1 ⟨rfl, hw⟩; subst w1)
  refine bodyPost_ret (v := .tuple #[.pointer (some ⟨w.heap.size, 0, none⟩), .int .i64 0]) (by simp [results, Tryz.results19, go_sem]) rfl HE.out
 ·have hk : kindO o = false := by unfold kindO; simp; omega
  have he : ordErr o = 4 := by unfold ordErr; rw [if_pos (by omega)]
  rw [hk] at HK
  have HE : Hid (DoPost o.toNat [] (ordErr o) w (.returned (.tuple #[.pointer none, .int .i64 4])) w) := by
   rw [he]
   exact ⟨Below.refl _ _, .inl ⟨by decide, rfl⟩⟩
  clear ho hk he
  go_enter Tryz.func19, Tryz.ntmps19
  go_wp2_with (go_at_call 49; refine Calls.mono (HK.out _) ?_; rintro e w1 ⟨rfl, hw⟩; subst w1)
  refine bodyPost_ret (v := .tuple #[.pointer none, .int .i64 4]) (by simp [results, Tryz.results19, go_sem]) rfl HE.out

end Go.Proofs.YtlnecfjnffdciaaGreat

