/-
  Sorted maps: Pairs.
-/
import Derived.Test.YtghjbjnfjddmcaaGreatOfN
namespace Go.Proofs.YtghjbjnfjddmcaaGreat
open Go.RowKit Go.Shelf

set_option maxRecDepth 100000 in
set_option maxHeartbeats 4000000 in
theorem mpairs_14 {w : World} {q : Nat} {t : RT PT} {b : Nat} (h : MC w q t b) : Calls Tryz.prog 10 #[.pointer (some ⟨b, 0, none⟩)] w (CopiesPost t.items w) := by
  have HK : Hid _ := kept_14 h
  have HR : Hid (∀ x ∈ t.items, Good 16 x.1 ∧ Good 16 x.2) := h.right
  have HZ : Hid (t.items.length ≤ 65536) := by show _ ≤ _; rw [← RT.size_items]; exact h.size
  clear h
  go_enter Tryz.func10, Tryz.ntmps10
  go_wp2_with fail
  refine Calls.mono HK.out ?_
  rintro e w1 ⟨v, rfl, ⟨qs, hq, ho, hg⟩, hb⟩
  have hl : qs.length = t.items.length := by rw [← hq, List.length_map]
  have hs : SlQ w.heap.size 16 w1 qs v := SlQ.of_own rfl ho (fun p hp => (hg p hp).keeps hb) (by have := HZ.out; omega)
  obtain ⟨a, c, rfl, _⟩ := hs.slice
  have hc := copies_14 qs _ w1 (hs.mono (Nat.zero_le _)) (by have := HZ.out; omega) (fun p hp => by
    have h9 := HR.out (trT p) (by rw [← hq]; exact List.mem_map.2 ⟨p, hp, rfl⟩)
    exact ⟨h9.1.1, h9.2.1⟩)
  rw [hq] at hc
  have HC : Hid _ := hc
  have HP : Hid (∀ e w', CopiesPost t.items w1 e w' → CopiesPost t.items w e w') := fun e w' ⟨v, rs, h1, h2, h3, h4, h5⟩ => ⟨v, rs, h1, h2, h3.mono hb.size, fun p hp => (h4 p hp).lower hb.size, hb.trans (h5.mono hb.size)⟩
  clear hc hs ho hg HK HR hq hl
  generalize t.items = TI at *
  generalize qs.length = n at *
  go_wp2_with fail
  refine Calls.mono HC.out ?_
  rintro e w2 hx
  obtain ⟨v2, e2⟩ : ∃ v, e = .returned v := by obtain ⟨v, _, h1, _⟩ := hx; exact ⟨v, h1⟩
  subst e2
  have HE : Hid (CopiesPost TI w (.returned v2) w2) := HP.out _ _ hx
  clear hx
  go_wp2_with fail
  first | (go_ret; exact HE.out) | exact HE.out

end Go.Proofs.YtghjbjnfjddmcaaGreat

