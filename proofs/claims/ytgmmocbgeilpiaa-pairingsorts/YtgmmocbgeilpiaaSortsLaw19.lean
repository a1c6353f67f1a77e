/-
  PairingSorts: the statement's walk.
-/
import Derived.Test.YtgmmocbgeilpiaaSpeaks19
namespace Go.Proofs.Ytgmmocbgeilpiaa
open Go.RowKit Go.Shelf

/-- The rest of a sorted list is sorted. -/
theorem srt_drop19 (q : Nat) (l : List VT) (hg : ∀ x ∈ l, Good 16 x) (j : Nat) : srtV q ((srtV q l).drop j) = (srtV q l).drop j := by
  refine up_one q _ _ (srt_perm _ _ _) (fun x hx => hg x (srtV_mem (List.mem_of_mem_drop (srtV_mem hx)))) (srtV_up q _) ?_
  exact List.Pairwise.drop (srtV_up q l)

theorem value_self19 (x : VT) (u v : Value) (W : World) (h1 : Lies 16 W x.items u) (h2 : Lies 16 W x.items v) : Calls Try.prog 9 #[.agg #[.int .i64 x.kind, .int .i64 x.num, .string x.text, u], .agg #[.int .i64 x.kind, .int .i64 x.num, .string x.text, v]] W fun e W' => e = .returned (.bool true) ∧ Below W.heap.size W W' :=
  (same_any 16 x x _ _ W h1 h2).mono fun e W' h => ⟨by rw [h.1, sameV_self], h.2.below⟩

/-- Pop, while there are items. -/
theorem pop_next19 {q : Nat} {L : List VT} (j : Nat) (hj : j < L.length) {b : Nat} {w : World} (h : QC (fun _ => True) w q (L.drop j) b) (hs : srtV q (L.drop j) = L.drop j) : Calls Try.prog 8 #[.pointer (some ⟨b, 0, none⟩)] w fun e w' => ∃ c a n, e = .returned (.tuple #[.pointer (some ⟨c, 0, none⟩), .agg #[.int .i64 L[j].kind, .int .i64 L[j].num, .string L[j].text, .slice a L[j].items.length n], .int .i64 0]) ∧ QC (fun _ => True) w' q (L.drop (j + 1)) c ∧ Lies 16 w' L[j].items (.slice a L[j].items.length n) ∧ Below w.heap.size w w' := by
  refine Calls.mono (pop_any19 (.inr ⟨b, rfl, h⟩)) ?_
  rintro e w' ⟨hb, ⟨h0, _⟩ | ⟨x, m, u, p, h0, rfl, ⟨c, rfl, hc⟩, hL, _⟩⟩
  · have := congrArg List.length h0
    rw [List.length_drop, List.length_nil] at this
    omega
  · rw [hs, List.drop_eq_getElem_cons hj] at h0
    injection h0 with h1 h2
    subst h1 h2
    obtain ⟨a, n, rfl, _⟩ := LiesB.slice hL
    exact ⟨c, a, n, rfl, hc, LiesB.lies _ _ _ hL, hb⟩

theorem pop_end19 {q : Nat} {b : Nat} {w : World} (h : QC (fun _ => True) w q [] b) : Calls Try.prog 8 #[.pointer (some ⟨b, 0, none⟩)] w fun e w' => e = .returned (.tuple #[.pointer none, .agg #[.int .i64 0, .int .i64 0, .string ⟨#[]⟩, .slice none 0 0], .int .i64 6]) ∧ Below w.heap.size w w' := by
  refine Calls.mono (pop_any19 (.inr ⟨b, rfl, h⟩)) ?_
  rintro e w' ⟨hb, ⟨_, rfl⟩ | ⟨x, m, u, p, h0, _⟩⟩
  · exact ⟨rfl, hb⟩
  · cases h0

theorem min_end19 {q : Nat} {b : Nat} {w : World} (h : QC (fun _ => True) w q [] b) : Calls Try.prog 11 #[.pointer (some ⟨b, 0, none⟩)] w fun e w' => e = .returned (.tuple #[.agg #[.int .i64 0, .int .i64 0, .string ⟨#[]⟩, .slice none 0 0], .int .i64 6]) ∧ Below w.heap.size w w' := by
  refine Calls.mono (min_any19 (.inr ⟨b, rfl, h⟩)) ?_
  rintro e w' ⟨hb, ⟨_, rfl⟩ | ⟨x, m, _, h0, _⟩⟩
  · exact ⟨rfl, hb⟩
  · cases h0

set_option maxRecDepth 100000 in
set_option maxHeartbeats 8000000 in
theorem sorts_err19 (d : Nat) (o : Int) (l : List VT) (u : Value) (w : World) (hu : Lies (d + 1) w l u) (he : lookE d o l ≠ 0) : Calls Try.prog 3 #[.int .i64 o, u] w fun e w' => e = .returned (.bool true) ∧ Below w.heap.size w w' := by
  obtain ⟨a, c, rfl, _⟩ := Lies.slice hu
  have HO : Hid (Calls Try.prog 5 #[.int .i64 o, .slice a l.length c] w fun e w' => e = .returned (.tuple #[.pointer none, .int .i64 (lookE d o l)]) ∧ Below w.heap.size w w') := by
    refine Calls.mono (of_any19 (fun _ => True) d o l _ w hu (fun _ _ => trivial)) ?_
    rintro e w' ⟨hb, ⟨_, rfl⟩ | ⟨h0, _⟩⟩
    · exact ⟨rfl, hb⟩
    · exact absurd h0 he
  have h0' : (lookE d o l == 0) = false := by simpa using he
  have h1' : ¬ lookE d o l = 0 := he
  generalize lookE d o l = E at *
  clear hu he
  go_enter Try.func3, Try.ntmps3
  go_wp2_with fail
  refine Calls.mono HO.out ?_
  rintro e w1 ⟨rfl, hb1⟩
  clear HO
  go_wp2_with fail
  refine Calls.mono (speaks19_any w1) ?_
  rintro e w2 ⟨rfl, hg2⟩
  have hb2 : Below w.heap.size w w2 := hb1.trans (hg2.mono hb1.size)
  clear hg2 hb1
  go_wp2_with fail
  go_ret
  exact ⟨rfl, hb2⟩

set_option maxRecDepth 100000 in
set_option maxHeartbeats 8000000 in
theorem sorts_long19 (d q : Nat) (l : List VT) (u : Value) (w : World) (hu : Lies (d + 1) w l u) (he : lookE d q l = 0) (hl : 2000 < l.length) : Calls Try.prog 3 #[.int .i64 (q : Int), u] w fun e w' => e = .returned (.bool true) ∧ Below w.heap.size w w' := by
  obtain ⟨a, c, rfl, _⟩ := Lies.slice hu
  have HO : Hid (Calls Try.prog 5 #[.int .i64 (q : Int), .slice a l.length c] w fun e w' => ∃ b, e = .returned (.tuple #[.pointer (some ⟨b, 0, none⟩), .int .i64 0]) ∧ Below w.heap.size w w') := by
    refine Calls.mono (of_any19 (fun _ => True) d q l _ w hu (fun _ _ => trivial)) ?_
    rintro e w' ⟨hb, ⟨h0, _⟩ | ⟨_, p, rfl, b, rfl, hc⟩⟩
    · exact absurd he h0
    · exact ⟨b, rfl, hb⟩
  have hl' : (2000 : Int) < (l.length : Int) := by omega
  clear hu he hl
  go_enter Try.func3, Try.ntmps3
  go_wp2_with fail
  refine Calls.mono HO.out ?_
  rintro e w1 ⟨b, rfl, hb1⟩
  clear HO
  go_wp2_with fail
  refine Calls.mono (speaks19_any w1) ?_
  rintro e w2 ⟨rfl, hg2⟩
  have hb2 : Below w.heap.size w w2 := hb1.trans (hg2.mono hb1.size)
  clear hg2 hb1
  go_wp2_with fail
  go_ret
  exact ⟨rfl, hb2⟩

set_option maxRecDepth 100000 in
set_option maxHeartbeats 8000000 in
theorem sorts_ok19 (d q : Nat) (l : List VT) (u : Value) (w : World) (hu : Lies (d + 1) w l u) (he : lookE d q l = 0) (hl : l.length ≤ 2000) : Calls Try.prog 3 #[.int .i64 (q : Int), u] w fun e w' => e = .returned (.bool true) ∧ Below w.heap.size w w' := by
  obtain ⟨a, c, rfl, _⟩ := Lies.slice hu
  have HO : Hid (Calls Try.prog 5 #[.int .i64 (q : Int), .slice a l.length c] w fun e w' => ∃ b, e = .returned (.tuple #[.pointer (some ⟨b, 0, none⟩), .int .i64 0]) ∧ QC (fun _ => True) w' q l b ∧ Below w.heap.size w w') := by
    refine Calls.mono (of_any19 (fun _ => True) d q l _ w hu (fun _ _ => trivial)) ?_
    rintro e w' ⟨hb, ⟨h0, _⟩ | ⟨_, p, rfl, b, rfl, hc⟩⟩
    · exact absurd he h0
    · exact ⟨b, rfl, hc, hb⟩
  have hl' : ¬ (2000 : Int) < (l.length : Int) := by omega
  have HLl : Hid (l.length ≤ 2000) := hl
  clear hu he hl
  go_enter Try.func3, Try.ntmps3
  go_wp2_with fail
  refine Calls.mono HO.out ?_
  rintro e w1 ⟨b, rfl, hc, hb1⟩
  have HQ : Hid (QC (fun _ => True) w1 q l b) := hc
  clear HO hc
  go_wp2_with fail
  refine Calls.mono (sorted_any19 (.inr ⟨b, rfl, HQ.out⟩)) ?_
  rintro e w2 ⟨v2, rfl, hL2, hg2⟩
  have HB2 : Hid (Below w.heap.size w w2) := hb1.trans (hg2.mono hb1.size)
  have HQ2 : Hid (QC (fun _ => True) w2 q l b) := HQ.out.keeps hg2
  have Hdr : Hid (∀ j, srtV q ((srtV q l).drop j) = (srtV q l).drop j) := fun j => srt_drop19 q l HQ.out.good j
  have HLn : Hid ((srtV q l).length = l.length) := srtV_len q l
  have HQ0 : Hid (QC (fun _ => True) w2 q (srtV q l) b) := HQ2.out.perm (srt_perm _ _ _ : (srtV q l).Perm l).symm
  have HL2 : Hid (Lies 17 w2 (srtV q l) v2) := LiesB.lies _ _ _ hL2
  clear hg2 hb1 hL2 HQ
  obtain ⟨L, hL⟩ : ∃ L, L = srtV q l := ⟨_, rfl⟩
  have HSL : Hid (L = srtV q l) := hL
  rw [← hL] at Hdr HLn HQ0 HL2
  clear hL
  obtain ⟨a2, c2, rfl, _⟩ := Lies.slice HL2.out
  have hLn : L.length ≤ 2000 := by rw [HLn.out]; exact HLl.out
  go_wp2_with fail
  go_loopg [8, 47] L.length (fun z v8 i wr => ∃ (j c : Nat), v8 = .pointer (some ⟨c, 0, none⟩) ∧ i = .int .i64 (j : Int) ∧ j ≤ L.length ∧ z = L.length - j ∧ Hid (QC (fun _ => True) wr q (L.drop j) c) ∧ Hid (Below w2.heap.size w2 wr))
  case atStart => exact ⟨0, b, rfl, rfl, by omega, by omega, HQ0, Below.refl _ _⟩
  case round =>
    obtain ⟨j, cq, rfl, rfl, hj, hk, HQj, HBj⟩ := hrel
    have Hk : Hid _ := hk
    clear hk HQ0
    by_cases hlt : j < L.length
    · have HP : Hid _ := pop_next19 j hlt HQj.out (Hdr.out j)
      clear HQj
      go_wp2_with fail
      refine Calls.mono HP.out ?_
      rintro e w3 ⟨c3, a3, n3, rfl, hq3, hl3, hg3⟩
      obtain ⟨w4, hw4⟩ : ∃ w4, w4 = w3.alloc (.cells #[.int .i64 L[j].kind, .int .i64 L[j].num, .string L[j].text, .slice a3 L[j].items.length n3] 30) := ⟨_, rfl⟩
      have hg4 : Below w3.heap.size w3 w4 := by rw [hw4]; exact ((Grew.refl w3).alloc _).below
      have hwr4 : Below wr.heap.size wr w4 := hg3.trans (hg4.mono hg3.size)
      have HB4 : Hid (Below w2.heap.size w2 w4) := HBj.out.trans (hwr4.mono HBj.out.size)
      have x0 : w4.cell? ⟨w3.heap.size, 0, none⟩ = some (.int .i64 L[j].kind) := by rw [hw4]; simp
      have x1 : w4.cell? ⟨w3.heap.size, 1, none⟩ = some (.int .i64 L[j].num) := by rw [hw4]; simp
      have x2 : w4.cell? ⟨w3.heap.size, 2, none⟩ = some (.string L[j].text) := by rw [hw4]; simp
      have x3 : w4.cell? ⟨w3.heap.size, 3, none⟩ = some (.slice a3 L[j].items.length n3) := by rw [hw4]; simp
      obtain ⟨_, _, e2, _, hr2⟩ := HL2.out
      injection e2 with e2 _ e4
      subst e2 e4
      obtain ⟨b1, o1, ha2, hall2⟩ := hr2 (by intro e; simp [e] at hlt)
      obtain ⟨y, p0, p1, p2, p3, p4, _⟩ := hall2 j hlt
      subst ha2
      obtain ⟨ay, cy, rfl, _⟩ := Lies.slice p4
      have p0 := cell_keeps HB4.out p0; have p1 := cell_keeps HB4.out p1; have p2 := cell_keeps HB4.out p2; have p3 := cell_keeps HB4.out p3
      have HV : Hid (∀ V, Below w4.heap.size w4 V → Calls Try.prog 9 #[.agg #[.int .i64 L[j].kind, .int .i64 L[j].num, .string L[j].text, .slice a3 L[j].items.length n3], .agg #[.int .i64 L[j].kind, .int .i64 L[j].num, .string L[j].text, .slice ay L[j].items.length cy]] V fun e V' => e = .returned (.bool true) ∧ Below V.heap.size V V') := fun V hV => value_self19 L[j] _ _ V (Lies.keeps hV _ _ _ (Lies.keeps hg4 _ _ _ hl3)) (Lies.keeps hV _ _ _ (Lies.keeps HB4.out _ _ _ p4))
      obtain ⟨K, hK⟩ : ∃ K, K = (L.drop (j + 1)).length := ⟨_, rfl⟩
      have HLen : Hid (∀ V, Below w4.heap.size w4 V → Calls Try.prog 10 #[.pointer (some ⟨c3, 0, none⟩)] V fun e V' => e = .returned (.int .i64 (K : Int)) ∧ Below V.heap.size V V') := fun V hV => by
        rw [hK]
        exact len_any19 (.inr ⟨c3, rfl, (hq3.keeps hg4).keeps hV⟩)
      rw [List.length_drop] at hK
      have HQ4 : Hid (QC (fun _ => True) w4 q (L.drop (j + 1)) c3) := hq3.keeps hg4
      obtain ⟨M, hM⟩ : ∃ M, M = L.length - j := ⟨_, rfl⟩
      have e1 : IntKind.i64.wrap ((L.length : Int) - (j : Int)) = (M : Int) := by rw [IntKind.wrap_i64]; omega
      have e2 : IntKind.i64.wrap ((M : Int) - 1) = (K : Int) := by rw [IntKind.wrap_i64]; omega
      clear hK hM hl3 hg3 hq3 hall2 hr2 p4 hg4 hwr4 HP
      generalize L[j] = T at *
      go_wp2_with fail
      rw [← hw4]
      clear hw4
      go_region_held3 (fun w' => w'.cell? ⟨w3.heap.size, 0, none⟩ = some (.int .i64 T.kind) ∧ w'.cell? ⟨w3.heap.size, 1, none⟩ = some (.int .i64 T.num) ∧ w'.cell? ⟨w3.heap.size, 2, none⟩ = some (.string T.text) ∧ w'.cell? ⟨w3.heap.size, 3, none⟩ = some (.slice a3 T.items.length n3) ∧ w'.cell? ⟨b1, o1 + j * 4, none⟩ = some (.int .i64 T.kind) ∧ w'.cell? ⟨b1, o1 + j * 4 + 1, none⟩ = some (.int .i64 T.num) ∧ w'.cell? ⟨b1, o1 + j * 4 + 2, none⟩ = some (.string T.text) ∧ w'.cell? ⟨b1, o1 + j * 4 + 3, none⟩ = some (.slice ay T.items.length cy)) (go_keep)
        (first
          | (go_at_call 10; (with_reducible refine Calls.mono (HLen.out _ ?_) ?_); (first | exact hv5 | exact hv5.drew); rintro e w6 ⟨rfl, hg6⟩; have hz : Below w5.heap.size w5 w6 := hg6; have hv6 : Below w4.heap.size w4 w6 := hv5.trans (hz.mono hv5.size); have x0 := cell_keeps hz x0; have x1 := cell_keeps hz x1; have x2 := cell_keeps hz x2; have x3 := cell_keeps hz x3; have p0 := cell_keeps hz p0; have p1 := cell_keeps hz p1; have p2 := cell_keeps hz p2; have p3 := cell_keeps hz p3; clear hz hg6 HLen)
          | (go_at_call 9; (with_reducible refine Calls.mono (HV.out _ ?_) ?_); (first | exact Below.refl _ _ | exact (Below.refl _ _).drew); rintro e w5 ⟨rfl, hg5⟩; have hz : Below w4.heap.size w4 w5 := (Below.refl _ _).drew.trans hg5; have hv5 : Below w4.heap.size w4 w5 := hz; have x0 := cell_keeps hz x0; have x1 := cell_keeps hz x1; have x2 := cell_keeps hz x2; have x3 := cell_keeps hz x3; have p0 := cell_keeps hz p0; have p1 := cell_keeps hz p1; have p2 := cell_keeps hz p2; have p3 := cell_keeps hz p3; clear hz hg5 HV))
      have HQ6 : Hid (QC (fun _ => True) w6 q (L.drop (j + 1)) c3) := HQ4.out.keeps hv6
      have HB6 : Hid (Below w2.heap.size w2 w6) := HB4.out.trans (hv6.mono HB4.out.size)
      clear hv5 hv6 HQ4 HB4 x0 x1 x2 x3 p0 p1 p2 p3 e1 e2
      go_wp2_with fail
      go_roundg (L.length - (j + 1))
      case measure => have := Hk.out; omega
      case rel => exact ⟨j + 1, c3, rfl, by go_num, by omega, rfl, HQ6, HB6⟩
    · have hjl : j = L.length := by omega
      have HQe : Hid (QC (fun _ => True) wr q [] cq) := by
        have h := HQj.out
        rw [List.drop_eq_nil_of_le (by omega)] at h
        exact h
      have HBr : Hid (Below w.heap.size w wr) := HB2.out.trans (HBj.out.mono HB2.out.size)
      have HQr : Hid (QC (fun _ => True) wr q l b) := HQ2.out.keeps HBj.out
      have HLr : Hid (Lies 17 wr L (.slice a2 L.length c2)) := Lies.keeps HBj.out _ _ _ HL2.out
      clear HQj HBj hjl HL2 HQ2 HB2 Hdr
      go_wp2_with fail
      refine Calls.mono (pop_end19 HQe.out) ?_
      rintro e w3 ⟨rfl, hg3⟩
      obtain ⟨w4, hw4⟩ : ∃ w4, w4 = w3.alloc (.cells #[.int .i64 0, .int .i64 0, .string ⟨#[]⟩, .slice none 0 0] 30) := ⟨_, rfl⟩
      have hg4 : Below wr.heap.size wr w4 := by rw [hw4]; exact hg3.alloc hg3.size _
      have HQe : Hid (QC (fun _ => True) w4 q [] cq) := HQe.out.keeps hg4
      have HQr : Hid (QC (fun _ => True) w4 q l b) := HQr.out.keeps hg4
      have HBr : Hid (Below w.heap.size w w4) := HBr.out.trans (hg4.mono HBr.out.size)
      have HLr : Hid (Lies 17 w4 L (.slice a2 L.length c2)) := Lies.keeps hg4 _ _ _ HLr.out
      clear hg3 hg4
      go_wp2_with fail
      rw [← hw4]
      clear hw4
      refine Calls.mono (min_end19 HQe.out) ?_
      rintro e w5 ⟨rfl, hg5⟩
      obtain ⟨w6, hw6⟩ : ∃ w6, w6 = w5.alloc (.cells #[.int .i64 0, .int .i64 0, .string ⟨#[]⟩, .slice none 0 0] 30) := ⟨_, rfl⟩
      have hg6 : Below w4.heap.size w4 w6 := by rw [hw6]; exact hg5.alloc hg5.size _
      have HQr : Hid (QC (fun _ => True) w6 q l b) := HQr.out.keeps hg6
      have HBr : Hid (Below w.heap.size w w6) := HBr.out.trans (hg6.mono HBr.out.size)
      have HLr : Hid (Lies 17 w6 L (.slice a2 L.length c2)) := Lies.keeps hg6 _ _ _ HLr.out
      clear hg5 hg6 HQe
      go_wp2_with fail
      rw [← hw6]
      clear hw6
      refine Calls.mono (sorted_any19 (.inr ⟨b, rfl, HQr.out⟩)) ?_
      rintro e w7 ⟨v7, rfl, hL7, hg7⟩
      have HQr : Hid (QC (fun _ => True) w7 q l b) := HQr.out.keeps hg7
      have HBr : Hid (Below w.heap.size w w7) := HBr.out.trans (hg7.mono HBr.out.size)
      have HLr : Hid (Lies 17 w7 L (.slice a2 L.length c2)) := Lies.keeps hg7 _ _ _ HLr.out
      have hL7' := LiesB.lies _ _ _ hL7
      rw [← HSL.out] at hL7'
      have HL7 : Hid (Lies 17 w7 L v7) := hL7'
      obtain ⟨a7, c7, rfl, _⟩ := Lies.slice hL7'
      clear hg7 hL7 hL7'
      go_wp2_with fail
      refine Calls.mono (values_one 16 L _ _ w7 HL7.out HLr.out (by omega)) ?_
      rintro e w8 ⟨rfl, hg8⟩
      have HQr : Hid (QC (fun _ => True) w8 q l b) := HQr.out.keeps hg8
      have HBr : Hid (Below w.heap.size w w8) := HBr.out.trans (hg8.mono HBr.out.size)
      clear hg8 HL7 HLr
      go_wp2_with fail
      refine Calls.mono (len_any19 (.inr ⟨b, rfl, HQr.out⟩)) ?_
      rintro e w9 ⟨rfl, hg9⟩
      have HBr : Hid (Below w.heap.size w w9) := HBr.out.trans (hg9.mono HBr.out.size)
      clear hg9 HQr
      go_wp2_with fail
      refine Calls.mono (speaks19_any w9) ?_
      rintro e w10 ⟨rfl, hg10⟩
      have HBr : Hid (Below w.heap.size w w10) := HBr.out.trans (hg10.mono HBr.out.size)
      clear hg10
      go_wp2_with fail
      go_ret
      exact ⟨rfl, HBr.out⟩

theorem sorts_walk19 (o : Int) (d : Nat) (l : List VT) (u : Value) (w : World) (hu : Lies (d + 1) w l u) : Calls Try.prog 3 #[.int .i64 o, u] w fun e w' => e = .returned (.bool true) ∧ Below w.heap.size w w' := by
  by_cases he : lookE d o l = 0
  · have ho : ¬ (o < 0 ∨ 6 ≤ o) := fun h => by unfold lookE at he; rw [if_pos h] at he; cases he
    obtain ⟨q, rfl⟩ : ∃ q : Nat, o = q := ⟨o.toNat, by omega⟩
    by_cases hl : 2000 < l.length
    · exact sorts_long19 d q l u w hu he hl
    · exact sorts_ok19 d q l u w hu he (by omega)
  · exact sorts_err19 d o l u w hu he

end Go.Proofs.Ytgmmocbgeilpiaa

