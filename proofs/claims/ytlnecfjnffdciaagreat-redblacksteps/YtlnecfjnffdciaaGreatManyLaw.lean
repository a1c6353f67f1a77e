import Derived.Test.YtlnecfjnffdciaaGreatRHave14
import Derived.Test.YtlnecfjnffdciaaGreatWithP14
import Derived.Test.YtlnecfjnffdciaaGreatFlatM14
import Derived.Test.YtlnecfjnffdciaaGreatRunesP
namespace Go.Proofs.YtlnecfjnffdciaaGreat
open Go.RowKit Go.Shelf

abbrev numV (n : Int) : VT := ⟨2, n, ⟨#[]⟩, []⟩
abbrev txtV (s : ByteArray) : VT := ⟨3, 0, s, []⟩

theorem text_14 (s : ByteArray) (w : World) : Calls Tryz.prog 56 #[.string s] w fun e w' => e = .returned (.agg #[.int .i64 3, .int .i64 0, .string s, .slice none 0 0]) ∧ Below w.heap.size w w' := by
 go_enter Tryz.func56, Tryz.ntmps56
 go_wp2_with fail
 exact bodyPost_ret (v := .agg #[.int .i64 3, .int .i64 0, .string s, .slice none 0 0]) (by simp [results, Tryz.results56, go_sem]) rfl ⟨rfl, ((Grew.refl _).alloc _).below⟩

def twoQ : List PP := [((numV 1, .slice none 0 0), (txtV ⟨#[97]⟩, .slice none 0 0)), ((numV 2, .slice none 0 0), (txtV ⟨#[98]⟩, .slice none 0 0))]
def twoT : List PT := [(numV 2, txtV ⟨#[98]⟩), (numV 1, txtV ⟨#[97]⟩)]

theorem two_slq (w : World) (T : Nat) : SlQ 0 16 (w.alloc (.cells #[.int .i64 2, .int .i64 1, .string ⟨#[]⟩, .slice none 0 0, .int .i64 3, .int .i64 0, .string ⟨#[97]⟩, .slice none 0 0, .int .i64 2, .int .i64 2, .string ⟨#[]⟩, .slice none 0 0, .int .i64 3, .int .i64 0, .string ⟨#[98]⟩, .slice none 0 0] T)) twoQ (.slice (some ⟨w.heap.size, 0, none⟩) 2 2) := by
 refine ⟨_, 2, rfl, by decide, by decide, fun _ => ⟨w.heap.size, 0, rfl, Nat.zero_le _, fun j u hj => ?_⟩, fun p hp => ?_⟩
 ·have e : twoQ.flatMap encQ = [.int .i64 2, .int .i64 1, .string ⟨#[]⟩, .slice none 0 0, .int .i64 3, .int .i64 0, .string ⟨#[97]⟩, .slice none 0 0, .int .i64 2, .int .i64 2, .string ⟨#[]⟩, .slice none 0 0, .int .i64 3, .int .i64 0, .string ⟨#[98]⟩, .slice none 0 0] := rfl
  rw [e] at hj
  have h9 : (w.alloc (.cells #[.int .i64 2, .int .i64 1, .string ⟨#[]⟩, .slice none 0 0, .int .i64 3, .int .i64 0, .string ⟨#[97]⟩, .slice none 0 0, .int .i64 2, .int .i64 2, .string ⟨#[]⟩, .slice none 0 0, .int .i64 3, .int .i64 0, .string ⟨#[98]⟩, .slice none 0 0] T)).cell? ⟨w.heap.size, j, none⟩ = ([.int .i64 2, .int .i64 1, .string ⟨#[]⟩, .slice none 0 0, .int .i64 3, .int .i64 0, .string ⟨#[97]⟩, .slice none 0 0, .int .i64 2, .int .i64 2, .string ⟨#[]⟩, .slice none 0 0, .int .i64 3, .int .i64 0, .string ⟨#[98]⟩, .slice none 0 0] : List Value)[j]? := by simp
  rw [Nat.zero_add, h9]
  exact hj
 ·have hz : ∀ d W, Lies d W [] (.slice none 0 0) := zero_lies
  rcases List.mem_cons.1 hp with rfl | hp
  ·exact ⟨⟨hz _ _, by decide⟩, ⟨hz _ _, by decide⟩⟩
  ·rw [List.mem_singleton.1 hp]
   exact ⟨⟨hz _ _, by decide⟩, ⟨hz _ _, by decide⟩⟩

theorem two_err : ofErr 16 1 (twoQ.map trT) = 0 := by kernel_rfl
theorem two_kyd : (kyd (cmpQ 16) (twoQ.length + 1) twoQ).map trT = [(numV 1, txtV ⟨#[97]⟩), (numV 2, txtV ⟨#[98]⟩)] := by kernel_rfl
theorem two_rises : RT.Rises (byK 1) twoT := by
 have h : byK 1 (numV 2, txtV ⟨#[98]⟩) (numV 1, txtV ⟨#[97]⟩) = -1 := by kernel_rfl
 refine List.Pairwise.cons (fun y hy => ?_) (List.pairwise_singleton _ _)
 rw [List.mem_singleton.1 hy, h]
 decide
theorem two_find : twoT.find? (fun a => decide (atK 1 (numV 1) a = 0)) = some (numV 1, txtV ⟨#[97]⟩) := by kernel_rfl
theorem one_right14 : rightV 16 (numV 1) = true := by kernel_rfl

theorem two_items {w : World} {t : RT PT} {b : Nat} (h : MC w 1 t b) (hm : ∀ y, y ∈ t.items ↔ y ∈ (kyd (cmpQ 16) (twoQ.length + 1) twoQ).map trT) : t.items = twoT := by
 refine RT.rises_eq (byK_cmp 1) _ _ h.rises two_rises fun y => ?_
 rw [hm y, two_kyd]
 unfold twoT
 simp only [List.mem_cons, List.not_mem_nil, or_false]
 exact Or.comm

set_option maxRecDepth 100000 in
set_option maxHeartbeats 8000000 in
theorem speaks14_any (w : World) : Calls Tryz.prog 14 #[] w fun e w' => e = .returned (.bool true) ∧ Below w.heap.size w w' := by
 have HI : Hid (∀ n W, Calls Tryz.prog 38 #[.int .i64 n] W fun e w' => e = .returned (.agg #[.int .i64 2, .int .i64 n, .string ⟨#[]⟩, .slice none 0 0]) ∧ Below W.heap.size W w') := fun n W => Calls.mono (int_any n W) fun _ _ h => ⟨h.1, h.2.below⟩
 have HO : Hid (∀ W T, Calls Tryz.prog 9 #[.int .i64 1, .slice (some ⟨W.heap.size, 0, none⟩) 2 2] (W.alloc (.cells #[.int .i64 2, .int .i64 1, .string ⟨#[]⟩, .slice none 0 0, .int .i64 3, .int .i64 0, .string ⟨#[97]⟩, .slice none 0 0, .int .i64 2, .int .i64 2, .string ⟨#[]⟩, .slice none 0 0, .int .i64 3, .int .i64 0, .string ⟨#[98]⟩, .slice none 0 0] T)) fun e w' => ∃ t b, e = .returned (.tuple #[.pointer (some ⟨b, 0, none⟩), .int .i64 0]) ∧ MC w' 1 t b ∧ t.items = twoT ∧ Below W.heap.size W w') := fun W T => by
  refine Calls.mono (mof_14 16 1 twoQ _ _ (two_slq W T)) ?_
  rintro e w' ⟨hb, ⟨hne, _⟩ | ⟨_, t, b, rfl, hm, hme⟩⟩
  ·exact absurd two_err hne
  ·exact ⟨t, b, rfl, hm, two_items hm hme, ((Grew.refl W).alloc _).below.trans (hb.mono (by simp))⟩
 go_enter Tryz.func14, Tryz.ntmps14
 go_wp2_with fail
 refine Calls.mono (HI.out _ _) ?_
 rintro e w1 ⟨rfl, hb1⟩
 go_wp2_with fail
 refine (text_14 _ _).mono ?_
 rintro e w2 ⟨rfl, hg2⟩
 have hb2 : Below w.heap.size w w2 := hb1.trans (hg2.mono hb1.size)
 clear hg2
 go_wp2_with fail
 refine Calls.mono (HI.out _ _) ?_
 rintro e w3 ⟨rfl, hg3⟩
 have hb3 : Below w.heap.size w w3 := hb2.trans (hg3.mono hb2.size)
 clear hg3
 go_wp2_with fail
 refine (text_14 _ _).mono ?_
 rintro e w4 ⟨rfl, hg4⟩
 have hb4 : Below w.heap.size w w4 := hb3.trans (hg4.mono hb3.size)
 clear hg4 hb1 hb2 hb3
 go_wp2_with fail
 refine Calls.mono (HO.out _ _) ?_
 rintro e w5 ⟨t, b, rfl, hm, hti, hg5⟩
 have hb5 : Below w.heap.size w w5 := hb4.trans (hg5.mono hb4.size)
 have HM : Hid (MC w5 1 t b) := hm
 have HTI : Hid (t.items = twoT) := hti
 have HP : Hid (Calls Tryz.prog 34 #[.pointer (some ⟨b, 0, none⟩)] w5 (CopiesPost twoT w5)) := by have := mpairs_14 hm; rwa [hti] at this
 clear hm hti hg5 hb4 HO
 go_wp2_with fail
 refine Calls.mono HP.out ?_
 rintro e w6 ⟨v6, ps, rfl, hps, hs6, _, hg6⟩
 have hb6 : Below w.heap.size w w6 := hb5.trans (hg6.mono hb5.size)
 have hpl : ps.length = 2 := by have := congrArg List.length hps; rw [List.length_map] at this; exact this
 obtain ⟨pb, po, pc, rfl, hpc, hq6, _⟩ := hs6.full (fun e => by rw [e] at hpl; cases hpl)
 rw [hpl] at hpc ⊢
 have c6 : w6.cell? ⟨pb, po + 1, none⟩ = some (.int .i64 2) := by
  have h9 := (hq6.at 0 (by omega)).2.1
  have e0 : trT ps[0] = (numV 2, txtV ⟨#[98]⟩) := by
   have h8 : (ps.map trT)[0]? = some (numV 2, txtV ⟨#[98]⟩) := by rw [hps]; rfl
   rw [List.getElem?_map, List.getElem?_eq_getElem (by omega)] at h8
   simpa using h8
  have e1 : ps[0].1.1 = numV 2 := congrArg Prod.fst e0
  rw [e1] at h9
  simpa using h9
 have HM6 : Hid (MC w6 1 t b) := HM.out.keeps hg6
 clear hps hs6 hg6 hpl hq6 HP HM hb5
 go_wp2_with fail
 refine Calls.mono (HI.out _ _) ?_
 rintro e w7 ⟨rfl, hg7⟩
 have hb7 : Below w.heap.size w w7 := hb6.trans (hg7.mono hb6.size)
 have c7 := cell_keeps hg7 c6
 have HM7 : Hid (MC w7 1 t b) := HM6.out.keeps hg7
 have HG : Hid (Calls Tryz.prog 20 #[.pointer (some ⟨b, 0, none⟩), .agg #[.int .i64 2, .int .i64 1, .string ⟨#[]⟩, .slice none 0 0]] w7 (GetPost14 (some (numV 1, txtV ⟨#[97]⟩)) 0 w7)) := by
  have h9 := get_right 16 b 1 t (numV 1) (.slice none 0 0) w7 HM7.out (zero_lies 16 w7) (by decide) one_right14
  have e9 : RT.find (atK 1 (numV 1)) t = some (numV 1, txtV ⟨#[97]⟩) := by
   rw [RT.find_eq (atK 1 (numV 1)) t (RT.Rises.falls (byK_cmp 1) HM7.out.rises (numV 1, numV 1)), HTI.out]
   exact two_find
  rw [e9] at h9
  exact h9
 clear hg7 c6 HM6 hb6
 go_wp2_with fail
 refine Calls.mono HG.out ?_
 rintro e w8 ⟨hg8, hx | ⟨x, u, hx, rfl, hlu⟩⟩
 ·cases hx.1
 injection hx with hx
 subst hx
 obtain ⟨au, cu, hu, _⟩ := LiesB.slice hlu
 subst hu
 clear hlu
 have hb8 : Below w.heap.size w w8 := hb7.trans (hg8.mono hb7.size)
 have c8 := cell_keeps hg8 c7
 have HM8 : Hid (MC w8 1 t b) := HM7.out.keeps hg8
 have hh1 : 1 ≤ t.high := by
  have h9 := high_zero14 t
  have h8 : t.size = 2 := by rw [RT.size_items, HTI.out]; rfl
  omega
 have Hh1 : Hid (1 ≤ t.high) := hh1
 have HHt : Hid (∀ o, Calls Tryz.prog 35 #[.pointer (some ⟨b, 0, none⟩)] (w8.alloc o) fun e w' => e = .returned (.int .i64 (t.high : Nat)) ∧ Below (w8.alloc o).heap.size (w8.alloc o) w') := fun o => mheight_14 (HM8.out.keeps ((Grew.refl w8).alloc o).below)
 have hlt8 : pb < w8.heap.size := cell_lt c8
 have hne8 : ¬ pb = w8.heap.size := by omega
 have hhi : (1 : Int) ≤ (t.high : Nat) := by omega
 generalize t.high = H at *
 clear hg8 c7 HM7 hb7 HG HTI hh1
 go_wp2_with fail
 refine Calls.mono (HHt.out _) ?_
 rintro e w9 ⟨rfl, hg9⟩
 have hb9 : Below w.heap.size w w9 := (hb8.trans (((Grew.refl w8).alloc _).below.mono hb8.size)).trans (hg9.mono (hb8.trans (((Grew.refl w8).alloc _).below.mono hb8.size)).size)
 clear hg9
 go_wp2_with fail
 go_ret
 exact ⟨rfl, hb9⟩

end Go.Proofs.YtlnecfjnffdciaaGreat

namespace Go.Proofs.YtlnecfjnffdciaaGreat
open Go.RowKit Go.Shelf

theorem nil_slq (w : World) : SlQ 0 16 w [] (.slice none 0 0) := ⟨none, 0, rfl, by simp, by simp, (fun h => absurd rfl h), (fun p hp => by cases hp)⟩

end Go.Proofs.YtlnecfjnffdciaaGreat

