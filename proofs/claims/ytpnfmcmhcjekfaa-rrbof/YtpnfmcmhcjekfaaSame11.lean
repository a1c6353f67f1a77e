/-
  Whether a vector has just these items; a vector as a value; an empty vector.
-/
import Derived.Test.YtpnfmcmhcjekfaaHeightLaw
import Derived.Test.YtpnfmcmhcjekfaaVals
import Derived.Test.YtpnfmcmhcjekfaaRList
namespace Go.Proofs.Ytpnfmcmhcjekfaa
open Go.RowKit

set_option maxRecDepth 100000 in
set_option maxHeartbeats 4000000 in
theorem same11_any (l : List VT) (b : Nat) (u : Value) (w : World) (h : VV w l (.pointer (some ⟨b, 0, none⟩))) (hu : Lies 17 w l u) : Calls Try.prog 12 #[.pointer (some ⟨b, 0, none⟩), u] w fun e w' => e = .returned (.bool true) ∧ Below w.heap.size w w' := by
  obtain ⟨a, c, rfl, _⟩ := Lies.slice hu
  have HU : Hid (Lies 17 w l (.slice a l.length c)) := hu
  have hlen := h.len
  obtain ⟨L, hL⟩ : ∃ L, L = l.length := ⟨_, rfl⟩
  have HLn : Hid (Calls Try.prog 24 #[.pointer (some ⟨b, 0, none⟩)] w (NumPost L w)) := by rw [hL]; exact vlen_any 16 l _ w h.vc
  have HIt : Hid (∀ V, Below w.heap.size w V → Calls Try.prog 29 #[.pointer (some ⟨b, 0, none⟩)] V (ItemsPost l V)) := fun V hV => items_any l _ V (h.vc.keeps hV) h.len h.right
  have HVs : Hid (∀ V v, Below w.heap.size w V → Lies 17 V l v → Calls Try.prog 17 #[v, .slice a L c] V fun e w' => e = .returned (.bool true) ∧ Below V.heap.size V w') := fun V v hV hv => by
    rw [hL]; exact values_one 16 l v _ V hv (Lies.keeps hV _ _ _ HU.out) hlen
  rw [← hL]
  clear hu h hlen hL
  go_enter Try.func12, Try.ntmps12
  go_wp2_with fail
  refine Calls.mono HLn.out ?_
  rintro e w1 ⟨rfl, hb1⟩
  have HI1 : Hid _ := HIt.out w1 hb1
  clear HLn HIt
  go_wp2_with fail
  refine Calls.mono HI1.out ?_
  rintro e w2 ⟨v2, rfl, hv2, hg2⟩
  have hb2 : Below w.heap.size w w2 := hb1.trans (hg2.mono hb1.size)
  have HV2 : Hid _ := HVs.out w2 v2 hb2 (LiesB.lies _ _ _ hv2)
  obtain ⟨a2, c2, rfl, _⟩ := Lies.slice (LiesB.lies _ _ _ hv2)
  clear HI1 hv2 hg2 HVs
  go_wp2_with fail
  refine Calls.mono HV2.out ?_
  rintro e w3 ⟨rfl, hg3⟩
  have hb3 : Below w.heap.size w w3 := hb2.trans (hg3.mono hb2.size)
  clear HV2
  go_wp2_with fail
  go_ret
  exact ⟨rfl, hb3⟩

/-- A value and an error are told; the value lies in new blocks. -/
def TellsB (d : Nat) (a : VT × Int) (w : World) (e : Ending) (w' : World) : Prop :=
  ∃ v, e = .returned (.tuple #[.agg #[.int .i64 a.1.kind, .int .i64 a.1.num, .string a.1.text, v], .int .i64 a.2]) ∧ LiesB w.heap.size d w' a.1.items v ∧ Below w.heap.size w w'

theorem liesB_nil' (b d : Nat) (w : World) : LiesB b d w [] (.slice none 0 0) := by
  cases d with
  | zero => exact ⟨rfl, none, 0, rfl⟩
  | succ d => exact ⟨none, 0, rfl, by simp, fun h => absurd rfl h⟩

theorem vlist_tellsB (d : Nat) (l : List VT) (u : Value) (w : World) (hu : Lies (d + 1) w l u) : Calls Try.prog 60 #[u] w (TellsB (d + 1) (listA d l) w) := by
  refine Calls.mono (vlist_any d l u w hu) ?_
  rintro e w' ⟨hb, hp⟩
  unfold listA
  rcases hp with ⟨he, rfl⟩ | ⟨he, ⟨hf, rfl⟩ | ⟨hf, v, rfl, hL⟩⟩
  · rw [if_pos he]
    exact ⟨_, rfl, liesB_nil' _ _ _, hb⟩
  · rw [if_neg (fun h => h he), if_neg (by rw [hf]; simp)]
    exact ⟨_, rfl, liesB_nil' _ _ _, hb⟩
  · rw [if_neg (fun h => h he), if_pos hf]
    exact ⟨v, rfl, hL, hb⟩

set_option maxRecDepth 100000 in
set_option maxHeartbeats 4000000 in
theorem vvalue_any (l : List VT) (p : Value) (w : World) (h : VV w l p) : Calls Try.prog 30 #[p] w (Tells 17 (listA 16 l) w) := by
  obtain ⟨po, rfl⟩ := h.vc.shape
  have hbz : Below w.heap.size w (w.alloc (.cells #[.int .i64 0, .int .i64 0, .string ⟨#[]⟩, .slice none 0 0] 31)) := ((Grew.refl w).alloc _).below
  have HK0 : Hid (Bx (w.alloc (.cells #[.int .i64 0, .int .i64 0, .string ⟨#[]⟩, .slice none 0 0] 31)) w.heap.size zeroT (.slice none 0 0)) := bx_alloc w zeroT _
  have HK : Hid (Calls Try.prog 59 #[.pointer po] (w.alloc (.cells #[.int .i64 0, .int .i64 0, .string ⟨#[]⟩, .slice none 0 0] 31)) fun e w' => ∃ v, e = .returned v ∧ Lies 17 w' l v ∧ Below (w.heap.size + 1) (w.alloc (.cells #[.int .i64 0, .int .i64 0, .string ⟨#[]⟩, .slice none 0 0] 31)) w') := Calls.mono (kept_any 16 l _ _ (h.vc.keeps hbz) h.len) (fun e w' hp => by
    obtain ⟨v, he, hl, hb⟩ := hp.lies h.len
    refine ⟨v, he, hl, ?_⟩
    rw [World.size_alloc] at hb
    exact hb)
  have HVl : Hid (∀ V v, Lies 17 V l v → Calls Try.prog 60 #[v] V (TellsB 17 (listA 16 l) V)) := fun V v hv => vlist_tellsB 16 l v V hv
  obtain ⟨A, hA⟩ : ∃ A, A = listA 16 l := ⟨_, rfl⟩
  rw [← hA] at HVl ⊢
  clear h hA
  go_enter Try.func30, Try.ntmps30
  go_wp2_with fail
  refine Calls.mono HK.out ?_
  rintro e w1 ⟨v1, rfl, hv1, hg1⟩
  have HB1 : Hid (Bx w1 w.heap.size zeroT (.slice none 0 0)) := HK0.out.keeps (by rw [World.size_alloc]; exact hg1)
  have hs1 : w.heap.size + 1 ≤ w1.heap.size := by have := hg1.size; rw [World.size_alloc] at this; exact this
  have hb1 : Below w.heap.size w w1 := hbz.trans (hg1.mono (by omega))
  have HV1 : Hid _ := HVl.out w1 v1 hv1
  obtain ⟨a1, c1, rfl, _⟩ := Lies.slice hv1
  clear HK hv1 hg1 HVl HK0 hbz
  go_wp2_with fail
  refine Calls.mono HV1.out ?_
  rintro e w2 ⟨v2, rfl, hL2, hg2⟩
  obtain ⟨a2, c2, rfl, _⟩ := LiesB.slice hL2
  have HB2 : Hid (Bx w2 w.heap.size zeroT (.slice none 0 0)) := HB1.out.keeps hg2
  have hb2 : Below w.heap.size w w2 := hb1.trans (hg2.mono hb1.size)
  obtain ⟨y0, y1, y2, y3, z0, z1, z2, z3⟩ := HB2.out
  have Hbx : Hid (Bx (w2.setCells w.heap.size 0 (encP (A.1, .slice a2 A.1.items.length c2))) w.heap.size A.1 (.slice a2 A.1.items.length c2)) := HB2.out.put (A.1, .slice a2 A.1.items.length c2)
  have Hbl : Hid (Below w.heap.size w (w2.setCells w.heap.size 0 (encP (A.1, .slice a2 A.1.items.length c2)))) := below_put hb2 (Nat.le_refl _) (A.1, .slice a2 A.1.items.length c2)
  have Hfin : Hid (Lies 17 (w2.setCells w.heap.size 0 (encP (A.1, .slice a2 A.1.items.length c2))) A.1.items (.slice a2 A.1.items.length c2)) :=
    LiesB.lies _ _ _ (LiesB.stays (base := w1.heap.size) (fun x v hx hv => ⟨by rw [World.cell?_setCells_out w.heap.size _ 0 w2 x (fun e _ => by omega)]; exact hv, World.frozen?_setCells ..⟩) _ _ _ hL2)
  clear hL2 hg2 HB1 HV1
  go_wp2_with fail
  refine bodyPost_ret (v := .tuple #[.agg #[.int .i64 A.1.kind, .int .i64 A.1.num, .string A.1.text, .slice a2 A.1.items.length c2], .int .i64 A.2]) ?_ rfl ⟨_, rfl, Hfin.out, Hbl.out⟩
  obtain ⟨q0, q1, q2, q3, _, _, _, _⟩ := Hbx.out
  simp only [encP, World.setCells, Nat.zero_add, Nat.reduceAdd] at q0 q1 q2 q3
  simp [results, Try.results30, go_sem, q0, q1, q2, q3]

/-- An empty vector, nil or not. -/
theorem vv_nil (w : World) : VV w [] (.pointer none) := ⟨.inl ⟨rfl, rfl⟩, by simp, rfl⟩

set_option maxRecDepth 100000 in
theorem new_any (w : World) : Calls Try.prog 32 #[] w fun e w' => ∃ b, e = .returned (.pointer (some ⟨b, 0, none⟩)) ∧ VV w' [] (.pointer (some ⟨b, 0, none⟩)) ∧ Below w.heap.size w w' := by
  have HE : Hid (VV (w.alloc (.cells #[.nilIface] 81)) [] (.pointer (some ⟨w.heap.size, 0, none⟩)) ∧ Below w.heap.size w (w.alloc (.cells #[.nilIface] 81))) := ⟨⟨VC.made (.inl ⟨rfl, rfl⟩) _, by simp, rfl⟩, ((Grew.refl w).alloc _).below⟩
  go_enter Try.func32, Try.ntmps32
  go_wp2_with fail
  go_ret
  exact ⟨_, rfl, HE.out.1, HE.out.2⟩

end Go.Proofs.Ytpnfmcmhcjekfaa

