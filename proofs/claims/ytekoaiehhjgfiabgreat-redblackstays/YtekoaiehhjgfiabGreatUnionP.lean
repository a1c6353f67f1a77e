/-
  Sorted maps: Turn to one's own order, Union.
-/
import Derived.Test.YtekoaiehhjgfiabGreatOfM
import Derived.Test.YtekoaiehhjgfiabGreatAssoc
import Derived.Test.YtekoaiehhjgfiabGreatUnionM
namespace Go.Proofs.YtekoaiehhjgfiabGreat
open Go.RowKit Go.Shelf

set_option maxRecDepth 100000 in
set_option maxHeartbeats 4000000 in
theorem turn_same {w : World} {q : Nat} {t : RT PT} {b : Nat} (h : MC w q t b) : Calls Tryz.prog 13 #[.pointer (some ⟨b, 0, none⟩), .int .i64 (q : Int)] w fun e w' => e = .returned (.tuple #[.pointer (some ⟨b, 0, none⟩), .int .i64 0]) ∧ Below w.heap.size w w' := by
  have HC : Hid (Calls Tryz.prog 50 #[.int .i64 (q : Int)] w fun e w' => e = .returned (.int .i64 0) ∧ Below w.heap.size w w') := by
    have h9 := checkOrder_14 (q : Int) w
    have e9 : ordErr (q : Int) = 0 := by unfold ordErr; rw [if_neg (by have := h.q6; omega)]
    rwa [e9] at h9
  have ho := h.ord
  clear h
  go_enter Tryz.func13, Tryz.ntmps13
  go_wp2_with fail
  refine Calls.mono HC.out ?_
  rintro e w1 ⟨rfl, hb⟩
  have ho := cell_keeps hb ho
  go_wp2_with fail
  refine (own_14 _ _).mono ?_
  rintro e w2 ⟨rfl, hw⟩
  obtain rfl : w1 = w2 := hw.symm
  go_wp2_with fail
  go_ret2
  exact ⟨rfl, hb⟩

/-- A map's two cells, and its tree. -/
def RawM (w : World) (q : Nat) (t : RT PT) (b : Nat) : Prop := w.cell? ⟨b, 0, none⟩ = some (.int .i64 (q : Int)) ∧ ∃ p, w.cell? ⟨b, 1, none⟩ = some (.pointer p) ∧ NM TT 16 w t p

set_option maxRecDepth 100000 in
set_option maxHeartbeats 4000000 in
theorem len_raw {w : World} {q : Nat} {t : RT PT} {b : Nat} (h : RawM w q t b) : Calls Tryz.prog 30 #[.pointer (some ⟨b, 0, none⟩)] w fun e w' => e = .returned (.int .i64 (t.size : Nat)) ∧ Below w.heap.size w w' := by
  obtain ⟨_, p, hp, hn⟩ := h
  have HM : Hid _ := measured_14 hn
  have hf1 : ∀ W : World, (Instr.field 96 (.agg #[.int .i64 t.size, .int .i64 t.high, .int .i64 t.blacks]) 0).run Tryz.prog W = .ok (.int .i64 (t.size : Nat)) W := fun W => field_size14 _ _ _ W
  clear hn
  go_enter Tryz.func30, Tryz.ntmps30
  go_wp2_with fail
  refine (own_14 _ _).mono ?_
  rintro e w1 ⟨rfl, rfl⟩
  go_wp2_with fail
  refine Calls.mono HM.out ?_
  rintro e w2 ⟨hb, rfl⟩
  go_wp2_with fail
  go_ret
  exact ⟨rfl, hb⟩

/-- What of tells, at any tree. -/
def RawPost (q : Nat) (t : RT PT) (w : World) (e : Ending) (w' : World) : Prop := Below w.heap.size w w' ∧ ∃ b, e = .returned (.pointer (some ⟨b, 0, none⟩)) ∧ RawM w' q t b

set_option maxRecDepth 100000 in
set_option maxHeartbeats 8000000 in
theorem of_raw (b q : Nat) (t : RT PT) (p : Option Addr) (w : World) (ho : w.cell? ⟨b, 0, none⟩ = some (.int .i64 (q : Int))) (hn : NM TT 16 w t p) (hz : t.size < 4611686018427387904) :
    Calls Tryz.prog 45 #[.pointer (some ⟨b, 0, none⟩), .pointer p] w (RawPost q t.black w) := by
  have HB : Hid (∀ V, Below w.heap.size w V → Calls Tryz.prog 85 #[.pointer p] V (TreePost TT 16 t.black V)) := fun V hV => black_14 (hn.keeps hV) hz
  have HP : Hid (∀ (V : World) (p : Option Addr), Below w.heap.size w V → NM TT 16 V t.black p → RawPost q t.black w (.returned (.pointer (some ⟨V.heap.size, 0, none⟩))) (V.alloc (.cells #[.int .i64 (q : Int), .pointer p] 75))) := fun V p hV ht => by
    have hb9 : Below V.heap.size V (V.alloc (.cells #[.int .i64 (q : Int), .pointer p] 75)) := ((Grew.refl V).alloc _).below
    exact ⟨hV.trans (hb9.mono hV.size), V.heap.size, rfl, by simp, p, by simp, ht.keeps hb9⟩
  clear hn hz
  go_enter Tryz.func45, Tryz.ntmps45
  go_wp2_with fail
  go_region_held3 (fun w' => w'.cell? ⟨b, 0, none⟩ = some (.int .i64 (q : Int))) (go_keep)
    (first | (go_at_call 85; (with_reducible refine Calls.mono (HB.out _ (Below.refl _ _).drew) ?_); rintro e w2 ⟨hg, p2, rfl, ht⟩; have hg2 : Below w.heap.size w w2 := (Below.refl _ _).drew.trans hg; have ho := cell_keeps hg2 ho; have HE : Hid (RawPost q t.black w (.returned (.pointer (some ⟨w2.heap.size, 0, none⟩))) (w2.alloc (.cells #[.int .i64 (q : Int), .pointer p2] 75))) := HP.out w2 p2 hg2 ht; clear hg ht))
  all_goals (first | (go_ret; exact HE.out) | (go_wp2_with fail; go_ret; exact HE.out))

theorem eg_byK1 : ∀ args w, (callFunc 89 args).run Tryz.prog w = .ok (.enter 89 args) w := enters_of Tryz.func89 (by kernel_rfl) rfl

theorem byK_cmpC (q bb : Nat) (hq : q < 6) (w : World) (hb : w.cell? ⟨bb, 0, none⟩ = some (.int .i64 (q : Int))) : CmpC TT 16 89 (some ⟨bb, 0, none⟩) (byK q) (fun x => rightV 16 x.1 = true) w := by
  intro V hV x y ku vu ky vy hx hy h1 h2 h3 h4
  refine byKeys1_14 q bb x y ku vu ky vy V (cell_keeps hV hb) _ fun V3 hV3 => ?_
  have h9 := compareO_any 16 (q : Int) x.1 y.1 ku ky V3 (LiesX.keeps hV3 h1.1).lies (LiesX.keeps hV3 h3.1).lies h1.2 h3.2
  rw [(ordR_right q hq x.1 y.1 hx hy).1, (ordR_right q hq x.1 y.1 hx hy).2] at h9
  exact h9

/-- What is wrong with two maps put together. -/
def unionE (t : RT PT) : Int := if 65536 < t.size then 2 else 0

set_option maxRecDepth 100000 in
set_option maxHeartbeats 8000000 in
theorem munion_14 {w : World} {q : Nat} {ta tb : RT PT} {a b : Nat} (ha : MC w q ta a) (hb : MC w q tb b) : Calls Tryz.prog 10 #[.pointer (some ⟨a, 0, none⟩), .pointer (some ⟨b, 0, none⟩)] w (OrPost q (RT.union (byK q) tb ta).items (unionE (RT.union (byK q) tb ta)) w) := by
  have HT : Hid _ := turn_same hb
  obtain ⟨pa, hpa, na⟩ := ha.top
  obtain ⟨pb, hpb, nb⟩ := hb.top
  have hoa := ha.ord
  have za := ha.size
  have zb := hb.size
  have hus := union_sizes (byK q) tb ta
  have HU : Hid (∀ V bb, Below w.heap.size w V → V.cell? ⟨bb, 0, none⟩ = some (.int .i64 (q : Int)) → Calls Tryz.prog 46 #[.pointer pa, .pointer pb, .func (.func 89) #[] #[.pointer (some ⟨bb, 0, none⟩)]] V (TreePost TT 16 (RT.union (byK q) tb ta) V)) := fun V bb hV hbb => union_14 TT 16 89 eg_byK1 _ (byK q) _ tb ta pb pa V (byK_cmpC q bb ha.q6 V hbb) (nb.keeps hV) (na.keeps hV) hb.well ha.well (fun x hx => (hb.right x hx).1.1) (fun x hx => (ha.right x hx).1.1) (by omega)
  have HO : Hid (∀ V p, Below w.heap.size w V → NM TT 16 V (RT.union (byK q) tb ta) p → Calls Tryz.prog 45 #[.pointer (some ⟨a, 0, none⟩), .pointer p] V (RawPost q (RT.union (byK q) tb ta).black V)) := fun V p hV hp => of_raw a q _ p V (cell_keeps hV ha.ord) hp (by omega)
  have hblk : (RT.union (byK q) tb ta).black.items = (RT.union (byK q) tb ta).items := RT.black_items _
  have hbsz : (RT.union (byK q) tb ta).black.size = (RT.union (byK q) tb ta).size := by rw [RT.size_items, hblk, ← RT.size_items]
  have hwell : RT.Well (RT.union (byK q) tb ta) := RT.union_well (byK q) tb ta hb.well ha.well
  have hwellb : RT.Well (RT.union (byK q) tb ta).black := ⟨hwell.1.black, by obtain ⟨_, n, hB⟩ := hwell; obtain ⟨m, hm⟩ := hB.black; exact ⟨m, hm⟩⟩
  have HMC : Hid (∀ V b', RawM V q (RT.union (byK q) tb ta).black b' → (RT.union (byK q) tb ta).size ≤ 65536 → MC V q (RT.union (byK q) tb ta).black b') := fun V b' h hz => by
    refine ⟨h.1, h.2, hwellb, RT.black_red14 _, ha.q6, ?_, ?_, by rw [hbsz]; exact hz⟩
    · rw [hblk]
      intro x hx
      rcases (RT.mem_union (byK_cmp q) tb ta hb.rises ha.rises x).1 hx with h1 | h1
      · exact hb.right x h1
      · exact ha.right x h1.1
    · rw [hblk]; exact RT.union_rises (byK_cmp q) tb ta hb.rises ha.rises
  have HLn : Hid (∀ V b', RawM V q (RT.union (byK q) tb ta).black b' → Calls Tryz.prog 30 #[.pointer (some ⟨b', 0, none⟩)] V fun e w' => e = .returned (.int .i64 ((RT.union (byK q) tb ta).size : Nat)) ∧ Below V.heap.size V w') := fun V b' h => by have h9 := len_raw h; rwa [hbsz] at h9
  have HBl : Hid ((RT.union (byK q) tb ta).black.items = (RT.union (byK q) tb ta).items) := hblk
  have HEe : Hid (unionE (RT.union (byK q) tb ta) = if 65536 < (RT.union (byK q) tb ta).size then 2 else 0) := rfl
  have hzz : (RT.union (byK q) tb ta).size ≤ 131072 := by omega
  generalize unionE (RT.union (byK q) tb ta) = E at *
  generalize RT.union (byK q) tb ta = T at *
  obtain ⟨Z, hZ⟩ : ∃ Z, Z = T.size := ⟨_, rfl⟩
  have HZ : Hid (Z = T.size) := hZ
  rw [← hZ] at HEe HLn HMC hzz
  clear ha hb na nb hblk hbsz hwell hwellb hus za zb hZ
  go_enter Tryz.func10, Tryz.ntmps10
  go_wp2_with fail
  refine (own_14 _ _).mono ?_
  rintro e w1 ⟨rfl, hw⟩
  obtain rfl : w = w1 := hw.symm
  go_wp2_with fail
  refine Calls.mono HT.out ?_
  rintro e w1 ⟨rfl, hb1⟩
  have hpa := cell_keeps hb1 hpa; have hpb := cell_keeps hb1 hpb; have hoa := cell_keeps hb1 hoa
  clear HT
  go_wp2_with fail
  go_region_held3 (fun w' => w'.cell? ⟨a, 0, none⟩ = some (.int .i64 (q : Int)) ∧ w'.cell? ⟨a, 1, none⟩ = some (.pointer pa) ∧ w'.cell? ⟨b, 1, none⟩ = some (.pointer pb)) (go_keep)
    (first
      | (go_at_call 47; refine (byKeys_14 _ _).mono ?_; rintro e w2 ⟨rfl, hw2⟩; have hg2 : Below w1.heap.size w1 w2 := (by rw [hw2]; exact (Below.refl w1.heap.size w1).drew.trans ((Grew.refl w1.drew).alloc _).below); have hb2 : Below w.heap.size w w2 := hb1.trans (hg2.mono hb1.size); have hbb : w2.cell? ⟨w1.heap.size, 0, none⟩ = some (.int .i64 (q : Int)) := (by rw [hw2]; exact (Go.Boxed.new w1.drew 3 (.int .i64 (q : Int))).cell); have hpa := cell_keeps hg2 hpa; have hpb := cell_keeps hg2 hpb; have hoa := cell_keeps hg2 hoa; clear hw2 hg2)
      | (go_at_call 46; (with_reducible refine Calls.mono (HU.out _ _ hb2 hbb) ?_); rintro e w3 ⟨hg3, p3, rfl, ht3⟩; have hb3 : Below w.heap.size w w3 := hb2.trans (hg3.mono hb2.size); have HT3 : Hid (NM TT 16 w3 T p3) := ht3; have hpa := cell_keeps hg3 hpa; have hpb := cell_keeps hg3 hpb; have hoa := cell_keeps hg3 hoa; clear ht3 hg3)
      | (go_at_call 45; (with_reducible refine Calls.mono (HO.out _ _ hb3 HT3.out) ?_); rintro e w4 ⟨hg4, b4, rfl, hr4⟩; have hb4 : Below w.heap.size w w4 := hb3.trans (hg4.mono hb3.size); have HR4 : Hid (RawM w4 q T.black b4) := hr4; have hpa := cell_keeps hg4 hpa; have hpb := cell_keeps hg4 hpb; have hoa := cell_keeps hg4 hoa; clear hr4 hg4))
  clear hpa hpb hoa
  go_wp2_with fail
  refine Calls.mono (HLn.out _ _ HR4.out) ?_
  rintro e w5 ⟨rfl, hg5⟩
  have hb5 : Below w.heap.size w w5 := hb4.trans (hg5.mono hb4.size)
  by_cases hbig : 65536 < Z
  · have e9 : E = 2 := by rw [HEe.out, if_pos hbig]
    subst e9
    have HE : Hid (OrPost q T.items 2 w (.returned (.tuple #[.pointer none, .int .i64 2])) w5) := ⟨hb5, .inl ⟨by decide, rfl⟩⟩
    have hbi : 65536 < (Z : Int) := by omega
    clear hbig
    go_wp2_with fail
    go_ret2
    exact HE.out
  · have e9 : E = 0 := by rw [HEe.out, if_neg hbig]
    subst e9
    have HE : Hid (OrPost q T.items 0 w (.returned (.tuple #[.pointer (some ⟨b4, 0, none⟩), .int .i64 0])) w5) := ⟨hb5, .inr ⟨rfl, T.black, b4, rfl, (HMC.out w4 b4 HR4.out (by omega)).keeps hg5, HBl.out⟩⟩
    have hbi : ¬ 65536 < (Z : Int) := by omega
    clear hbig
    go_wp2_with fail
    go_ret2
    exact HE.out

end Go.Proofs.YtekoaiehhjgfiabGreat

