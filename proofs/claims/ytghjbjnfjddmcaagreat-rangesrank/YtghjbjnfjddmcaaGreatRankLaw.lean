/-
  RangesRank.
-/
import Derived.Test.YtghjbjnfjddmcaaGreatToldM
import Derived.Test.YtghjbjnfjddmcaaGreatOfN
import Derived.Test.YtghjbjnfjddmcaaGreatRunesP
import Derived.Test.YtghjbjnfjddmcaaGreatRRank
import Derived.Test.YtghjbjnfjddmcaaGreatGetM
import Derived.Test.YtghjbjnfjddmcaaGreatPairsM
namespace Go.Proofs.YtghjbjnfjddmcaaGreat
open Go.RowKit Go.Shelf

/-- A number's value. -/
abbrev numW (n : Int) : VT := ⟨2, n, ⟨#[]⟩, []⟩

def nm15 : Nat → Int | 0 => 1 | 1 => 3 | _ => 5
def pq15 (n : Int) : PP := ((numW n, .slice none 0 0), (numW n, .slice none 0 0))
def lq15 (i : Nat) : List PP := (List.range i).map (fun j => pq15 (nm15 j))
def five15 : List PT := [(numW 1, numW 1), (numW 3, numW 3), (numW 5, numW 5)]

theorem lq15_succ (i : Nat) : lq15 (i + 1) = lq15 i ++ [pq15 (nm15 i)] := by unfold lq15; rw [List.range_succ, List.map_append]; rfl
theorem lq15_len (i : Nat) : (lq15 i).length = i := by unfold lq15; simp
theorem five_err : ofErr 16 0 ((lq15 3).map trT) = 0 := by kernel_rfl
theorem five_kyd : (kyd (cmpQ 16) ((lq15 3).length + 1) (lq15 3)).map trT = five15 := by kernel_rfl
theorem five_rises : RT.Rises (byK 0) five15 := by
  have h1 : byK 0 (numW 1, numW 1) (numW 3, numW 3) = -1 := by kernel_rfl
  have h2 : byK 0 (numW 1, numW 1) (numW 5, numW 5) = -1 := by kernel_rfl
  have h3 : byK 0 (numW 3, numW 3) (numW 5, numW 5) = -1 := by kernel_rfl
  refine List.Pairwise.cons (fun y hy => ?_) (List.Pairwise.cons (fun y hy => ?_) (List.pairwise_singleton _ _))
  · rcases List.mem_cons.1 hy with rfl | hy
    · rw [h1]; decide
    · rw [List.mem_singleton.1 hy, h2]; decide
  · rw [List.mem_singleton.1 hy, h3]; decide
theorem five_items {w : World} {t : RT PT} {b : Nat} (h : MC w 0 t b) (hm : ∀ y, y ∈ t.items ↔ y ∈ (kyd (cmpQ 16) ((lq15 3).length + 1) (lq15 3)).map trT) : t.items = five15 := by
  refine RT.rises_eq (byK_cmp 0) _ _ h.rises five_rises fun y => ?_
  rw [hm y, five_kyd]
theorem five_no : (five15.filter (RT.ahead (atK 0 (numW 4)) false)).length = 2 := by kernel_rfl
theorem five_yes : (five15.filter (RT.ahead (atK 0 (numW 4)) true)).length = 2 := by kernel_rfl
theorem five_up (c : Bool) {w : World} {t : RT PT} {b : Nat} (h : MC w 0 t b) (hi : t.items = five15) : RT.upTo (atK 0 (numW 4)) c t = 2 := by
  have h9 := RT.upTo_items (atK 0 (numW 4)) c t (RT.Rises.falls (byK_cmp 0) h.rises (numW 4, numW 4))
  rw [h9, hi]
  cases c
  · exact five_no
  · exact five_yes
theorem four_right : rightV 16 (numW 4) = true := by kernel_rfl
theorem lq15_good (W : World) (i : Nat) : ∀ p ∈ lq15 i, GoodQ 16 W p := by
  intro p hp
  obtain ⟨j, _, rfl⟩ := List.mem_map.1 hp
  exact ⟨⟨zero_lies _ _, (show (0 : Nat) ≤ 9223372036854775807 by decide)⟩, ⟨zero_lies _ _, (show (0 : Nat) ≤ 9223372036854775807 by decide)⟩⟩

set_option maxRecDepth 100000 in
set_option maxHeartbeats 8000000 in
theorem speaks15_any (w : World) : Calls Tryz.prog 9 #[] w fun e w' => e = .returned (.bool true) ∧ Below w.heap.size w w' := by
  obtain ⟨i0, hi, hz0, hz1, hz2⟩ := infoQ
  have Hi : Hid _ := hi; have Hz0 : Hid _ := hz0; have Hz1 : Hid _ := hz1; have Hz2 : Hid _ := hz2
  have HI : Hid (∀ n W, Calls Tryz.prog 36 #[.int .i64 n] W fun e w' => e = .returned (.agg #[.int .i64 2, .int .i64 n, .string ⟨#[]⟩, .slice none 0 0]) ∧ Below W.heap.size W w') := fun n W => Calls.mono (int_any n W) fun _ _ h => ⟨h.1, h.2.below⟩
  obtain ⟨W1, hW1⟩ : ∃ W1, W1 = w.alloc (.cells #[.int .i64 1, .int .i64 3, .int .i64 5] 2) := ⟨_, rfl⟩
  have HW1 : Hid (W1 = w.alloc (.cells #[.int .i64 1, .int .i64 3, .int .i64 5] 2)) := hW1
  have hs1 : W1.heap.size = w.heap.size + 1 := by rw [hW1]; simp
  have HS1 : Hid (W1.heap.size = w.heap.size + 1) := hs1
  have HB1 : Hid (Below w.heap.size w W1) := by rw [hW1]; exact ((Grew.refl w).alloc _).below
  have HC1 : Hid (∀ j, j < 3 → W1.cell? ⟨w.heap.size, j, none⟩ = some (.int .i64 (nm15 j))) := by
    intro j hj
    rw [hW1]
    match j, hj with
    | 0, _ => simp [nm15]
    | 1, _ => simp [nm15]
    | 2, _ => simp [nm15]
  have HO : Hid (∀ v W, W.ownsRow W1.heap.size 33 8 v 3 ((lq15 3).flatMap encQ) → Calls Tryz.prog 8 #[.int .i64 0, v] W fun e w' => ∃ t b, e = .returned (.tuple #[.pointer (some ⟨b, 0, none⟩), .int .i64 0]) ∧ MC w' 0 t b ∧ t.items = five15 ∧ Below W.heap.size W w') := fun v W hv => by
    refine Calls.mono (mof_14 16 0 (lq15 3) v W ((SlQ.of_own (lq15_len 3).symm hv (lq15_good W 3) (by rw [lq15_len]; decide)).mono (Nat.zero_le _))) ?_
    rintro e w' ⟨hb, ⟨hne, _⟩ | ⟨_, t, b, rfl, hm, hme⟩⟩
    · exact absurd five_err hne
    · exact ⟨t, b, rfl, hm, five_items hm hme, hb⟩
  clear hi hz0 hz1 hz2 hW1 hs1
  go_enter Tryz.func9, Tryz.ntmps9
  go_wp2_with fail
  rw [← HW1.out]
  go_loopg [13, 1, 3] 3 (fun z vi v1 _ wr => ∃ i : Nat, vi = .int .i64 (i : Int) ∧ i ≤ 3 ∧ z = 3 - i ∧ Hid (wr.ownsRow W1.heap.size 33 8 v1 i ((lq15 i).flatMap encQ)) ∧ Hid (Below W1.heap.size W1 wr))
  case atStart => exact ⟨0, rfl, by omega, rfl, World.ownsRow_nil _ _ _ _, Below.refl _ _⟩
  case round =>
    obtain ⟨i, rfl, hi3, hz, HOw, HBw⟩ := hrel
    have Hz : Hid _ := hz
    clear hz HW1
    by_cases hlt : i < 3
    · have hli : (i : Int) < 3 := by omega
      have c1 : wr.cell? ⟨w.heap.size, i, none⟩ = some (.int .i64 (nm15 i)) := cell_keeps HBw.out (HC1.out i hlt)
      have HLq : Hid ((lq15 (i + 1)).flatMap encQ = (lq15 i).flatMap encQ ++ encQ (pq15 (nm15 i))) := by show _ = _; rw [lq15_succ, List.flatMap_append]; simp
      generalize nm15 i = n at *
      go_wp2_with fail
      refine Calls.mono (HI.out _ _) ?_
      rintro e w2 ⟨rfl, hg2⟩
      go_wp2_with fail
      refine Calls.mono (HI.out _ _) ?_
      rintro e w3 ⟨rfl, hg3⟩
      have hg : Below wr.heap.size wr w3 := hg2.trans (hg3.mono hg2.size)
      have Hown : Hid (w3.ownsRow W1.heap.size 33 8 u1 i ((lq15 i).flatMap encQ)) := own_keeps HOw.out hg
      have hb3 : Below W1.heap.size W1 w3 := HBw.out.trans (hg.mono HBw.out.size)
      have hwl : W1.heap.size ≤ w3.heap.size := hb3.size
      clear hg2 hg3 hg c1
      go_wp2_with (first
        | (at_builtin; refine wpList_append_own _ rfl _ _ 22 rfl W1.heap.size 33 i0 (.agg #[.int .i64 0, .int .i64 0, .string ⟨#[]⟩, .slice none 0 0, .int .i64 0, .int .i64 0, .string ⟨#[]⟩, .slice none 0 0]) 8 112 Tryz.underlying22 Hi.out Hz0.out Hz1.out Hz2.out rfl (by decide) _ _ _ rfl (Hown.out.alloc _) ⟨w3.heap.size, 0, none⟩ 1 1 [.int .i64 2, .int .i64 n, .string ⟨#[]⟩, .slice none 0 0, .int .i64 2, .int .i64 n, .string ⟨#[]⟩, .slice none 0 0] rfl rfl (fun q u hq => by match q, hq with | 0, hq => (simp at hq; subst hq; simp [Addr.add]) | 1, hq => (simp at hq; subst hq; simp [Addr.add]) | 2, hq => (simp at hq; subst hq; simp [Addr.add]) | 3, hq => (simp at hq; subst hq; simp [Addr.add]) | 4, hq => (simp at hq; subst hq; simp [Addr.add]) | 5, hq => (simp at hq; subst hq; simp [Addr.add]) | 6, hq => (simp at hq; subst hq; simp [Addr.add]) | 7, hq => (simp at hq; subst hq; simp [Addr.add]) | q + 8, hq => simp at hq) (fun u hu => by simp only [List.mem_cons, List.not_mem_nil, or_false] at hu; rcases hu with rfl | rfl | rfl | rfl | rfl | rfl | rfl | rfl <;> rfl) (by unfold maxLen; omega) (by omega) (by simp; omega) ?_; intro v' w9 hown' hgrow _))
      have hb9 : Below W1.heap.size W1 w9 := own_growM (hb3.alloc hwl _) (by simp; omega) (Hown.out.alloc _) hgrow
      have HN3 : Hid (w9.ownsRow W1.heap.size 33 8 v' (i + 1) ((lq15 (i + 1)).flatMap encQ)) := by rw [HLq.out]; exact hown'
      clear hown' hgrow Hown hb3
      go_wp2_with fail
      go_roundg (3 - (i + 1))
      case measure => have := Hz.out; omega
      case rel => exact ⟨i + 1, by go_num, by omega, rfl, HN3, hb9⟩
    · have hli : ¬ (i : Int) < 3 := by omega
      obtain rfl : i = 3 := by omega
      have hbw : Below w.heap.size w wr := HB1.out.trans (HBw.out.mono HB1.out.size)
      have HOf : Hid _ := HO.out _ _ HOw.out
      clear HO HOw HBw HC1 hli hlt
      go_wp2_with fail
      refine Calls.mono HOf.out ?_
      rintro e w2 ⟨t, b, rfl, hm, hti, hg2⟩
      have hb2 : Below w.heap.size w w2 := hbw.trans (hg2.mono hbw.size)
      have HF : Hid (∀ V, Below w2.heap.size w2 V → Calls Tryz.prog 11 #[.pointer (some ⟨b, 0, none⟩), .agg #[.int .i64 2, .int .i64 4, .string ⟨#[]⟩, .slice none 0 0]] V fun e w' => ∃ a5 c5 a6 c6, e = .returned (.tuple #[pairV (numW 3, numW 3) (.slice a5 0 c5) (.slice a6 0 c6), .bool true, .int .i64 0]) ∧ Below V.heap.size V w') := fun V hV => by
        refine Calls.mono (floor15_right 16 b 0 t (numW 4) (.slice none 0 0) V (hm.keeps hV) (zero_lies _ _) (show (0 : Nat) ≤ 9223372036854775807 by decide) four_right) ?_
        rw [five_up true (hm.keeps hV) hti, hti]
        rintro e w' ⟨hb, ⟨ho, _⟩ | ⟨x, ku, vu, ho, _, rfl, hl5, hl6⟩⟩
        · exact absurd ho (by unfold itemAt five15; simp)
        · have hx : x = (numW 3, numW 3) := by unfold itemAt five15 at ho; simp at ho; exact ho.symm
          subst hx
          obtain ⟨a5, c5, rfl, _⟩ := LiesB.slice hl5
          obtain ⟨a6, c6, rfl, _⟩ := LiesB.slice hl6
          exact ⟨a5, c5, a6, c6, rfl, hb⟩
      have HR : Hid (∀ V, Below w2.heap.size w2 V → Calls Tryz.prog 22 #[.pointer (some ⟨b, 0, none⟩), .agg #[.int .i64 2, .int .i64 4, .string ⟨#[]⟩, .slice none 0 0]] V fun e w' => e = .returned (.tuple #[.int .i64 2, .int .i64 0]) ∧ Below V.heap.size V w') := fun V hV => by
        have h9 := rank15_right 16 b 0 t (numW 4) (.slice none 0 0) V (hm.keeps hV) (zero_lies _ _) (show (0 : Nat) ≤ 9223372036854775807 by decide) four_right
        rw [five_up false (hm.keeps hV) hti] at h9
        exact h9
      clear hm hti hg2 hbw HOf
      go_wp2_with fail
      refine Calls.mono (HI.out _ _) ?_
      rintro e w3 ⟨rfl, hg3⟩
      have hb3 : Below w.heap.size w w3 := hb2.trans (hg3.mono hb2.size)
      go_wp2_with fail
      refine Calls.mono (HF.out _ hg3) ?_
      rintro e w4 ⟨a5, c5, a6, c6, rfl, hg4⟩
      have hg4' : Below w2.heap.size w2 w4 := hg3.trans (hg4.mono hg3.size)
      have hb4 : Below w.heap.size w w4 := hb3.trans (hg4.mono hb3.size)
      obtain ⟨W5, hW5⟩ : ∃ W5, W5 = w4.alloc (.cells #[.int .i64 2, .int .i64 3, .string ⟨#[]⟩, .slice a5 0 c5, .int .i64 2, .int .i64 3, .string ⟨#[]⟩, .slice a6 0 c6] 33) := ⟨_, rfl⟩
      have HW5 : Hid (W5 = w4.alloc (.cells #[.int .i64 2, .int .i64 3, .string ⟨#[]⟩, .slice a5 0 c5, .int .i64 2, .int .i64 3, .string ⟨#[]⟩, .slice a6 0 c6] 33)) := hW5
      have hal : Below w4.heap.size w4 W5 := by rw [hW5]; exact ((Grew.refl w4).alloc _).below
      have c5' : W5.cell? ⟨w4.heap.size, 1, none⟩ = some (.int .i64 3) := by rw [hW5]; exact (bx8_alloc _ _ _ _ _ _ _ _ _ _).c1
      have hg5 : Below w2.heap.size w2 W5 := hg4'.trans (hal.mono hg4'.size)
      have hb5 : Below w.heap.size w W5 := hb4.trans (hal.mono hb4.size)
      clear hg3 hg4 hb3 HF hW5 hal hb4 hg4'
      go_upto_region 11 with fail
      rw [← HW5.out]
      clear HW5
      go_wp2_with fail
      refine Calls.mono (HI.out _ _) ?_
      rintro e w6 ⟨rfl, hg6⟩
      have c6' := cell_keeps hg6 c5'
      have hg6' : Below w2.heap.size w2 w6 := hg5.trans (hg6.mono hg5.size)
      have hb6 : Below w.heap.size w w6 := hb5.trans (hg6.mono hb5.size)
      clear hg6 hg5 hb5 c5'
      go_wp2_with fail
      refine Calls.mono (HR.out _ hg6') ?_
      rintro e w7 ⟨rfl, hg7⟩
      have c7 := cell_keeps hg7 c6'
      have hb7 : Below w.heap.size w w7 := hb6.trans (hg7.mono hb6.size)
      clear hg7 hg6' hb6 c6' HR
      go_wp2_with fail
      first | (go_ret; exact ⟨by simp, hb7⟩) | (go_ret; exact ⟨rfl, hb7⟩)

end Go.Proofs.YtghjbjnfjddmcaaGreat

namespace Go.Proofs.YtghjbjnfjddmcaaGreat
open Go.RowKit Go.Shelf

theorem rank_eq {q : Nat} {l : List PT} {y : VT} (hf : RT.Falls (atK q y) l) : rankR q l y = (l.filter (RT.ahead (atK q y) false)).length := by
  unfold rankR
  obtain ⟨_, h2⟩ := filter_ahead (atK q y) false l hf
  refine takeWhile_len _ l _ (List.length_filter_le _ _) (fun j hj hk => ?_) (fun hk => ?_)
  · have h9 := (h2 j l[j] (List.getElem?_eq_getElem hj)).2 hk
    simp only [RT.ahead, Bool.or_eq_true, Bool.and_false, Bool.false_eq_true, or_false, decide_eq_true_eq] at h9
    have h8 : 0 < ordV q y l[j].1 := h9
    have := ordV_turn q y l[j].1
    simp only [decide_eq_true_eq]
    omega
  · have h9 := mt (h2 _ _ (List.getElem?_eq_getElem hk)).1 (Nat.lt_irrefl _)
    simp only [RT.ahead, Bool.or_eq_true, Bool.and_false, Bool.false_eq_true, or_false, decide_eq_true_eq] at h9
    have h8 : ¬ 0 < ordV q y (l[(l.filter (RT.ahead (atK q y) false)).length]).1 := h9
    have := ordV_turn q y (l[(l.filter (RT.ahead (atK q y) false)).length]).1
    simp only [decide_eq_false_iff_not]
    omega

theorem rank_up {w : World} {q b : Nat} {t : RT PT} {y : VT} (h : MC w q t b) : rankR q t.items y = RT.upTo (atK q y) false t := by
  have hf := RT.Rises.falls (byK_cmp q) h.rises (y, y)
  rw [rank_eq hf]
  exact (RT.upTo_items (atK q y) false t hf).symm

set_option maxRecDepth 100000 in
set_option maxHeartbeats 8000000 in
theorem ranks_walk (o : Int) (d : Nat) (qs : List PP) (u : Value) (d2 : Nat) (y : VT) (yu : Value) (w : World) (hu : SlQ 0 d w qs u) (hy : Lies d2 w y.items yu) (ht : y.text.size ≤ 9223372036854775807) :
    Calls Tryz.prog 5 #[.int .i64 o, u, .agg #[.int .i64 y.kind, .int .i64 y.num, .string y.text, yu]] w fun e w' => e = .returned (.bool true) ∧ Below w.heap.size w w' := by
  have HSp : Hid (∀ V, Calls Tryz.prog 9 #[] V fun e w' => e = .returned (.bool true) ∧ Below V.heap.size V w') := speaks15_any
  obtain ⟨au, cu, rfl, _⟩ := hu.slice
  obtain ⟨ay, cy, rfl, _⟩ := Lies.slice hy
  have HO : Hid (∀ V, Below w.heap.size w V → Calls Tryz.prog 8 #[.int .i64 o, .slice au qs.length cu] V (OfPost14 d o qs V)) := fun V hV => mof_14 d o qs _ V (hu.keeps hV)
  have HY : Hid (Lies d2 w y.items (.slice ay y.items.length cy)) := hy
  have HYt : Hid (y.text.size ≤ 9223372036854775807) := ht
  have HK0 : Hid (Bx (w.alloc (.cells #[.int .i64 y.kind, .int .i64 y.num, .string y.text, .slice ay y.items.length cy] 25)) w.heap.size y (.slice ay y.items.length cy)) := bx_alloc _ _ _
  have hb0 : Below w.heap.size w (w.alloc (.cells #[.int .i64 y.kind, .int .i64 y.num, .string y.text, .slice ay y.items.length cy] 25)) := ((Grew.refl w).alloc _).below
  clear hu hy ht
  go_enter Tryz.func5, Tryz.ntmps5
  go_wp2_with fail
  refine Calls.mono (HO.out _ hb0) ?_
  rintro e w1 ⟨hg1, hcase⟩
  have HK1 : Hid (Bx w1 w.heap.size y (.slice ay y.items.length cy)) := HK0.out.keeps hg1
  have hb1 : Below w.heap.size w w1 := hb0.trans (hg1.mono hb0.size)
  clear hg1 hb0 HO HK0
  rcases hcase with ⟨hne, rfl⟩ | ⟨he0, t, b, rfl, hm, _⟩
  · generalize ofErr d o (qs.map trT) = E at hne ⊢
    generalize qs.length = L at *
    go_wp2_with fail
    refine Calls.mono (HSp.out _) ?_
    rintro e w2 ⟨rfl, hg2⟩
    have hb2 : Below w.heap.size w w2 := hb1.trans (hg2.mono hb1.size)
    clear hg2
    go_wp2_with fail
    go_ret
    exact ⟨rfl, hb2⟩
  · obtain ⟨q, hq⟩ : ∃ q, q = o.toNat := ⟨_, rfl⟩
    rw [← hq] at hm
    have hoq : o = (q : Int) := by
      have h9 : ordErr o = 0 := by
        unfold ofErr at he0
        by_cases h8 : ordErr o = 0
        · exact h8
        · rw [if_pos h8] at he0; exact he0
      have h8 : 0 ≤ o := by
        unfold ordErr at h9
        by_cases h7 : 0 ≤ o
        · exact h7
        · rw [if_pos (by omega)] at h9; exact absurd h9 (by decide)
      omega
    subst hoq
    clear he0 hq
    have HM : Hid (MC w1 q t b) := hm
    have HYw : Hid (∀ V, Below w1.heap.size w1 V → Lies d2 V y.items (.slice ay y.items.length cy)) := fun V hV => Lies.keeps (hb1.trans (hV.mono hb1.size)) _ _ _ HY.out
    obtain ⟨k0, k1, k2, k3, _, _, _, _⟩ := HK1.out
    generalize qs.length = L at *
    cases hr : rightV d2 y with
    | false =>
      have HR : Hid _ := rank15_wrong d2 b y _ w1 (HYw.out _ (Below.refl _ _)) HYt.out hr
      have HG : Hid (∀ V, Below w1.heap.size w1 V → Calls Tryz.prog 23 #[.pointer (some ⟨b, 0, none⟩), .agg #[.int .i64 y.kind, .int .i64 y.num, .string y.text, .slice ay y.items.length cy]] V (GetPost14 none 3 V)) := fun V hV => get_wrong d2 b y _ V (HYw.out _ hV) HYt.out hr
      clear hm hr
      go_wp2_with fail
      refine Calls.mono HR.out ?_
      rintro e w2 ⟨rfl, hg2⟩
      have k0 := cell_keeps hg2 k0; have k1 := cell_keeps hg2 k1; have k2 := cell_keeps hg2 k2; have k3 := cell_keeps hg2 k3
      have hb2 : Below w.heap.size w w2 := hb1.trans (hg2.mono hb1.size)
      go_wp2_with fail
      refine Calls.mono (HG.out _ hg2) ?_
      rintro e w3 ⟨hg3, ⟨_, rfl⟩ | ⟨x, xu, ho, _⟩⟩
      · have hb3 : Below w.heap.size w w3 := hb2.trans (hg3.mono hb2.size)
        have HB3 : Hid (∀ A, Below w.heap.size w (w3.alloc A)) := fun A => hb3.trans (((Grew.refl w3).alloc A).below.mono hb3.size)
        clear hg2 hg3 k0 k1 k2 k3
        go_wp2_with fail
        refine Calls.mono (HSp.out _) ?_
        rintro e w4 ⟨rfl, hg4⟩
        have hb4 : Below w.heap.size w w4 := (HB3.out _).trans (hg4.mono (HB3.out _).size)
        clear hg4
        go_wp2_with fail
        go_ret
        exact ⟨rfl, hb4⟩
      · cases ho
    | true =>
      obtain ⟨N, hN⟩ : ∃ N, N = RT.upTo (atK q y) false t := ⟨_, rfl⟩
      have HR : Hid (Calls Tryz.prog 22 #[.pointer (some ⟨b, 0, none⟩), .agg #[.int .i64 y.kind, .int .i64 y.num, .string y.text, .slice ay y.items.length cy]] w1 fun e w' => e = .returned (.tuple #[.int .i64 (N : Int), .int .i64 0]) ∧ Below w1.heap.size w1 w') := by rw [hN]; exact rank15_right d2 b q t y _ w1 hm (HYw.out _ (Below.refl _ _)) HYt.out hr
      have HG : Hid (∀ V, Below w1.heap.size w1 V → Calls Tryz.prog 23 #[.pointer (some ⟨b, 0, none⟩), .agg #[.int .i64 y.kind, .int .i64 y.num, .string y.text, .slice ay y.items.length cy]] V fun e w' => Below V.heap.size V w' ∧ ∃ a1 a2 a3 a4 a5 a6 a7, e = .returned (.tuple #[.agg #[.int .i64 a1, .int .i64 a2, .string a3, .slice a4 a5 a6], .bool a7, .int .i64 0])) := fun V hV => by
        refine Calls.mono (get_right d2 b q t y _ V (hm.keeps hV) (HYw.out _ hV) HYt.out hr) ?_
        rintro e w' ⟨hb, ⟨_, rfl⟩ | ⟨x, xu, _, rfl, hl⟩⟩
        · exact ⟨hb, _, _, _, _, _, _, _, rfl⟩
        · obtain ⟨a, c, rfl, _⟩ := LiesB.slice hl
          exact ⟨hb, _, _, _, _, _, _, _, rfl⟩
      have HP : Hid (∀ V, Below w1.heap.size w1 V → Calls Tryz.prog 10 #[.pointer (some ⟨b, 0, none⟩)] V fun e w' => Below V.heap.size V w' ∧ ∃ v, e = .returned v ∧ ∀ V2, Below w'.heap.size w' V2 → Calls Tryz.prog 24 #[.int .i64 (q : Int), v, .agg #[.int .i64 y.kind, .int .i64 y.num, .string y.text, .slice ay y.items.length cy]] V2 fun e w' => (∃ F, e = .returned (.tuple #[.int .i64 (N : Int), .bool F])) ∧ Below V2.heap.size V2 w') := fun V hV => by
        refine Calls.mono (mpairs_14 (hm.keeps hV)) ?_
        rintro e w' ⟨v, ps, rfl, hps, hs, _, hb⟩
        refine ⟨hb, v, rfl, fun V2 hV2 => ?_⟩
        have hbb : Below w1.heap.size w1 V2 := (hV.trans (hb.mono hV.size)).trans (hV2.mono (hV.trans (hb.mono hV.size)).size)
        have hc := canon (HYw.out _ hbb) hr
        have h9 := rrank_15 q hm.q6 ps v y _ V2 ((hs.keeps hV2).mono (Nat.zero_le _)) (fun p hp => ((hm.right (trT p) (by rw [← hps]; exact List.mem_map.2 ⟨p, hp, rfl⟩)).1.1)) (by have h8 := congrArg List.length hps; rw [List.length_map, ← RT.size_items] at h8; have := hm.size; omega) hc.1 hc.2
        rw [hps, rank_up hm, ← hN] at h9
        exact Calls.mono h9 fun e w' h => ⟨⟨_, h.1⟩, h.2⟩
      clear hm hr hN
      go_wp2_with fail
      refine Calls.mono HR.out ?_
      rintro e w2 ⟨rfl, hg2⟩
      have k0 := cell_keeps hg2 k0; have k1 := cell_keeps hg2 k1; have k2 := cell_keeps hg2 k2; have k3 := cell_keeps hg2 k3
      have hb2 : Below w.heap.size w w2 := hb1.trans (hg2.mono hb1.size)
      go_wp2_with fail
      refine Calls.mono (HG.out _ hg2) ?_
      rintro e w3 ⟨hg3, a1, a2, a3, a4, a5, a6, a7, rfl⟩
      have k0 := cell_keeps hg3 k0; have k1 := cell_keeps hg3 k1; have k2 := cell_keeps hg3 k2; have k3 := cell_keeps hg3 k3
      obtain ⟨W4, hW4⟩ : ∃ W4, W4 = w3.alloc (.cells #[.int .i64 a1, .int .i64 a2, .string a3, .slice a4 a5 a6] 25) := ⟨_, rfl⟩
      have HW4 : Hid (W4 = w3.alloc (.cells #[.int .i64 a1, .int .i64 a2, .string a3, .slice a4 a5 a6] 25)) := hW4
      have hal : Below w3.heap.size w3 W4 := by rw [hW4]; exact ((Grew.refl w3).alloc _).below
      have k0 := cell_keeps hal k0; have k1 := cell_keeps hal k1; have k2 := cell_keeps hal k2; have k3 := cell_keeps hal k3
      have hg13 : Below w1.heap.size w1 w3 := hg2.trans (hg3.mono hg2.size)
      have hg14 : Below w1.heap.size w1 W4 := hg13.trans (hal.mono hg13.size)
      clear hg2 hg3 hal hW4 hg13 hb2 HR HG
      go_upto_region 8 with fail
      rw [← HW4.out]
      clear HW4
      go_wp2_with fail
      go_region_held3 (fun w' => w'.cell? ⟨w.heap.size, 0, none⟩ = some (.int .i64 y.kind) ∧ w'.cell? ⟨w.heap.size, 1, none⟩ = some (.int .i64 y.num) ∧ w'.cell? ⟨w.heap.size, 2, none⟩ = some (.string y.text) ∧ w'.cell? ⟨w.heap.size, 3, none⟩ = some (.slice ay y.items.length cy)) (go_keep)
        (first
          | (go_at_call 24; (with_reducible refine Calls.mono (HRk.out _ ?_) ?_); (first | exact Below.refl _ _ | exact (Below.refl _ _).drew); rintro e w6 ⟨⟨F, rfl⟩, hg6⟩; have hg5 : Below W4.heap.size W4 w6 := hg5.trans (hg6.mono hg5.size); have k0 := cell_keeps hg6 k0; have k1 := cell_keeps hg6 k1; have k2 := cell_keeps hg6 k2; have k3 := cell_keeps hg6 k3; clear hg6)
          | (go_at_call 10; (with_reducible refine Calls.mono (HP.out _ (hg14.trans ((Below.refl _ _).drew.mono hg14.size))) ?_); rintro e w5 ⟨hg5', v5, rfl, hrk⟩; have hg5 : Below W4.heap.size W4 w5 := (Below.refl _ _).drew.trans hg5'; have HRk : Hid _ := hrk; have k0 := cell_keeps hg5 k0; have k1 := cell_keeps hg5 k1; have k2 := cell_keeps hg5 k2; have k3 := cell_keeps hg5 k3; clear hg5' hrk))
      have hb6 : Below w.heap.size w w6 := (hb1.trans (hg14.mono hb1.size)).trans (hg5.mono (hb1.trans (hg14.mono hb1.size)).size)
      clear hg5 hg14 k0 k1 k2 k3 HP HRk
      go_wp2_with fail
      refine Calls.mono (HSp.out _) ?_
      rintro e w7 ⟨rfl, hg7⟩
      have hb7 : Below w.heap.size w w7 := hb6.trans (hg7.mono hb6.size)
      clear hg7
      go_wp2_with fail
      go_ret
      exact ⟨rfl, hb7⟩

end Go.Proofs.YtghjbjnfjddmcaaGreat

