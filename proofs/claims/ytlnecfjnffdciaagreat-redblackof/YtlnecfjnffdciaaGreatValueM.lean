import Derived.Test.YtlnecfjnffdciaaGreatTurnM
import Derived.Test.YtlnecfjnffdciaaGreatVMap
namespace Go.Proofs.YtlnecfjnffdciaaGreat
open Go.RowKit Go.Shelf

set_option maxRecDepth 100000 in
set_option maxHeartbeats 4000000 in
theorem mvalue_14 {w : World} {q : Nat} {t : RT PT} {b : Nat} (h : MC w q t b) : Calls Tryz.prog 15 #[.pointer (some ⟨b, 0, none⟩)] w fun e w' => ∃ v, e = .returned (.tuple #[.agg #[.int .i64 (mapA 16 t.items).1.kind, .int .i64 (mapA 16 t.items).1.num, .string (mapA 16 t.items).1.text, v], .int .i64 (mapA 16 t.items).2]) ∧ Lies 17 w' (mapA 16 t.items).1.items v ∧ Below w.heap.size w w' := by
 have hbz : Below w.heap.size w (w.alloc (.cells #[.int .i64 0, .int .i64 0, .string ⟨#[]⟩, .slice none 0 0] 34)) := ((Grew.refl w).alloc _).below
 have HK0 : Hid (Bx (w.alloc (.cells #[.int .i64 0, .int .i64 0, .string ⟨#[]⟩, .slice none 0 0] 34)) w.heap.size zeroT (.slice none 0 0)) := bx_alloc w zeroT _
 have hz := h.size
 rw [RT.size_items] at hz
 have HK : Hid (Calls Tryz.prog 58 #[.pointer (some ⟨b, 0, none⟩)] (w.alloc (.cells #[.int .i64 0, .int .i64 0, .string ⟨#[]⟩, .slice none 0 0] 34)) fun e w' => ∃ v qs, e = .returned v ∧ qs.map trT = t.items ∧ SlQ 0 16 w' qs v ∧ Below (w.heap.size + 1) (w.alloc (.cells #[.int .i64 0, .int .i64 0, .string ⟨#[]⟩, .slice none 0 0] 34)) w') := Calls.mono (kept_14 (h.keeps hbz)) (fun e w' ⟨v, he, ⟨qs, hq, ho, hg⟩, hb⟩ => by
  have hl : qs.length = t.items.length := by rw [← hq, List.length_map]
  refine ⟨v, qs, he, hq, (SlQ.of_own rfl ho (fun p hp => (hg p hp).keeps hb) (by omega)).mono (Nat.zero_le _), ?_⟩
  rw [World.size_alloc] at hb
  exact hb)
 obtain ⟨A, hA⟩ : ∃ A, A = mapA 16 t.items := ⟨_, rfl⟩
 have HVl : Hid (∀ V v (qs : List PP), qs.map trT = t.items → SlQ 0 16 V qs v → Calls Tryz.prog 57 #[v] V fun e w' => ∃ v, e = .returned (.tuple #[.agg #[.int .i64 A.1.kind, .int .i64 A.1.num, .string A.1.text, v], .int .i64 A.2]) ∧ LiesB V.heap.size 17 w' A.1.items v ∧ Below V.heap.size V w') := fun V v qs hq hv => by
  have h9 := vmap_any 16 qs v V hv
  rw [hq] at h9
  rw [hA]
  exact h9
 rw [← hA]
 clear h hA hz
 go_enter Tryz.func15, Tryz.ntmps15
 go_wp2_with fail
 refine Calls.mono HK.out ?_
 rintro e w1 ⟨v1, qs, rfl, hq1, hv1, hg1⟩
 have HB1 : Hid (Bx w1 w.heap.size zeroT (.slice none 0 0)) := HK0.out.keeps (by rw [World.size_alloc]; exact hg1)
 have hs1 : w.heap.size + 1 ≤ w1.heap.size := by have := hg1.size; rw [World.size_alloc] at this; exact this
 have hb1 : Below w.heap.size w w1 := hbz.trans (hg1.mono (by omega))
 have HV1 : Hid _ := HVl.out w1 v1 qs hq1 hv1
 obtain ⟨a1, c1, rfl, _⟩ := hv1.slice
 clear HK hv1 hg1 HVl HK0 hbz hq1
 generalize qs.length = n1 at *
 go_wp2_with fail
 refine Calls.mono HV1.out ?_
 rintro e w2 ⟨v2, rfl, hL2, hg2⟩
 obtain ⟨a2, c2, rfl, _⟩ := LiesB.slice hL2
 have HB2 : Hid (Bx w2 w.heap.size zeroT (.slice none 0 0)) := HB1.out.keeps hg2
 have hb2 : Below w.heap.size w w2 := hb1.trans (hg2.mono hb1.size)
 obtain ⟨y0, y1, y2, y3, z0, z1, z2, z3⟩ := HB2.out
 have Hbx : Hid (Bx (w2.setCells w.heap.size 0 (encP (A.1, .slice a2 A.1.items.length c2))) w.heap.size A.1 (.slice a2 A.1.items.length c2)) := HB2.out.put (A.1, .slice a2 A.1.items.length c2)
 have Hbl : Hid (Below w.heap.size w (w2.setCells w.heap.size 0 (encP (A.1, .slice a2 A.1.items.length c2)))) := below_put hb2 (Nat.le_refl _) (A.1, .slice a2 A.1.items.length c2)
 have Hfin : Hid (Lies 17 (w2.setCells w.heap.size 0 (encP (A.1, .slice a2 A.1.items.length c2))) A.1.items (.slice a2 A.1.items.length c2)) :=
  LiesB.lies _ _ _ (LiesB.stays (base := w1.heap.size) (fun x v hx hv => ⟨by rw [World.cell?_setCells_out w.heap.size _ 0 w2 x (fun e _ => by omega)]; exact hv, World.frozen?_setCells ..⟩) _ _ _ hL2)
 clear hL2 hg2 HB1 HV1
 go_wp2_with fail
 refine bodyPost_ret (v := .tuple #[.agg #[.int .i64 A.1.kind, .int .i64 A.1.num, .string A.1.text, .slice a2 A.1.items.length c2], .int .i64 A.2]) ?_ rfl ⟨_, rfl, Hfin.out, Hbl.out⟩
 obtain ⟨q0, q1, q2, q3, _, _, _, _⟩ := Hbx.out
 simp only [encP, World.setCells, Nat.zero_add, Nat.reduceAdd] at q0 q1 q2 q3
 simp [results, Tryz.results15, go_sem, q0, q1, q2, q3]

end Go.Proofs.YtlnecfjnffdciaaGreat

