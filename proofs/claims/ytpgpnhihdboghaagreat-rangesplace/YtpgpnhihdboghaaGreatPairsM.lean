/-
  Sorted maps: Pairs.
-/
import Derived.Test.YtpgpnhihdboghaaGreatOfM
namespace Go.Proofs.YtpgpnhihdboghaaGreat
open Go.RowKit Go.Shelf

/-- What Of tells. -/
def OfPost14 (d : Nat) (o : Int) (qs : List PP) (w : World) (e : Ending) (w' : World) : Prop :=
  Below w.heap.size w w' ∧ ((ofErr d o (qs.map trT) ≠ 0 ∧ e = .returned (.tuple #[.pointer none, .int .i64 (ofErr d o (qs.map trT))])) ∨
    (ofErr d o (qs.map trT) = 0 ∧ ∃ t b, e = .returned (.tuple #[.pointer (some ⟨b, 0, none⟩), .int .i64 0]) ∧ MC w' o.toNat t b ∧ ∀ y, y ∈ t.items ↔ y ∈ (kyd (cmpQ 16) (qs.length + 1) qs).map trT))

theorem slq_canon {d : Nat} {w : World} {qs : List PP} {u : Value} (hu : SlQ 0 d w qs u) (h : ∀ p ∈ qs, rightV d p.1.1 = true ∧ rightV d p.2.1 = true) : SlQ 0 16 w qs u ∧ ∀ p ∈ qs, rightV 16 p.1.1 = true ∧ rightV 16 p.2.1 = true := by
  obtain ⟨a, c, hv, h1, h2, h3, h4⟩ := hu
  refine ⟨⟨a, c, hv, h1, h2, h3, fun p hp => ?_⟩, fun p hp => ?_⟩
  · have g := h4 p hp
    exact ⟨⟨(canon g.1.1 (h p hp).1).1, g.1.2⟩, ⟨(canon g.2.1 (h p hp).2).1, g.2.2⟩⟩
  · have g := h4 p hp
    exact ⟨(canon g.1.1 (h p hp).1).2, (canon g.2.1 (h p hp).2).2⟩

set_option maxRecDepth 100000 in
set_option maxHeartbeats 8000000 in
theorem mof_14 (d : Nat) (o : Int) (qs : List PP) (u : Value) (w : World) (hu : SlQ 0 d w qs u) : Calls Tryz.prog 8 #[.int .i64 o, u] w (OfPost14 d o qs w) := by
  have HC : Hid _ := check_14 d o qs u w hu
  have HU : Hid (SlQ 0 d w qs u) := hu
  have HPe : Hid (ofErr d o (qs.map trT) ≠ 0 → ∀ w', Below w.heap.size w w' → OfPost14 d o qs w (.returned (.tuple #[.pointer none, .int .i64 (ofErr d o (qs.map trT))])) w') := fun h w' hb => ⟨hb, .inl ⟨h, rfl⟩⟩
  have HPk : Hid (ofErr d o (qs.map trT) = 0 → ∀ t b w', Below w.heap.size w w' → MC w' o.toNat t b → (∀ y, y ∈ t.items ↔ y ∈ (kyd (cmpQ 16) (qs.length + 1) qs).map trT) → OfPost14 d o qs w (.returned (.tuple #[.pointer (some ⟨b, 0, none⟩), .int .i64 0])) w') := fun h t b w' hb h1 h2 => ⟨hb, .inr ⟨h, t, b, rfl, h1, h2⟩⟩
  have H0 : Hid (ofErr d o (qs.map trT) = 0 → (0 ≤ o ∧ o < 6) ∧ qs.length ≤ 65536 ∧ ∀ p ∈ qs, rightV d p.1.1 = true ∧ rightV d p.2.1 = true) := fun h => by
    unfold ofErr ordErr at h
    by_cases ho : o < 0 ∨ 6 ≤ o
    · rw [if_pos ho, if_pos (by decide)] at h; cases h
    · rw [if_neg ho, if_neg (by simp)] at h
      unfold pErr at h
      split at h
      · cases h
      · next hl =>
        rw [List.length_map] at hl
        split at h
        · next ha =>
          refine ⟨by omega, by omega, fun p hp => ?_⟩
          have h9 := List.all_eq_true.1 ha (trT p) (List.mem_map.2 ⟨p, hp, rfl⟩)
          simpa [okP, trT, Bool.and_eq_true] using h9
        · cases h
  obtain ⟨a, c, rfl, _⟩ := hu.slice
  generalize OfPost14 d o qs w = PO at *
  generalize ofErr d o (qs.map trT) = E at *
  clear hu
  go_enter Tryz.func8, Tryz.ntmps8
  go_wp2_with fail
  refine Calls.mono HC.out ?_
  rintro e w1 ⟨rfl, hb1⟩
  by_cases hE : E = 0
  · have HPk2 : Hid _ := HPk.out hE
    obtain ⟨ho, hlen, hr⟩ := H0.out hE
    subst hE
    clear HPk HPe
    obtain ⟨q, rfl⟩ : ∃ q : Nat, o = q := ⟨o.toNat, by omega⟩
    obtain ⟨hs16, hr16⟩ := slq_canon HU.out hr
    have HS : Hid _ := sorted_14 q (by omega) qs _ w1 (hs16.keeps hb1) hlen (fun p hp => (hr16 p hp).1)
    have HR : Hid (∀ p ∈ qs, Good 16 p.1.1 ∧ Good 16 p.2.1) := fun p hp => ⟨⟨(hr16 p hp).1, Dp.of_lies 16 w p.1.1 p.1.2 (hs16.good p hp).1.1⟩, ⟨(hr16 p hp).2, Dp.of_lies 16 w p.2.1 p.2.2 (hs16.good p hp).2.1⟩⟩
    have hq6 : q < 6 := by omega
    clear HC H0 HU hr hs16 hr16
    go_wp2_with fail
    refine Calls.mono HS.out ?_
    rintro e w2 ⟨v2, rs, rfl, hs2, hl2, hm2, hri2, hme2, hg2⟩
    have hb2 : Below w.heap.size w w2 := hb1.trans (hg2.mono hb1.size)
    obtain ⟨a2, c2, rfl, _⟩ := hs2.slice
    have HCs : Hid _ := copies_14 rs _ w2 (hs2.mono (Nat.zero_le _)) hl2 (fun p hp => ⟨(HR.out p (hm2 p hp)).1.1, (HR.out p (hm2 p hp)).2.1⟩)
    have HRi : Hid (RT.Rises (byK q) (rs.map trT) ∧ (∀ y, y ∈ rs.map trT ↔ y ∈ (kyd (cmpQ 16) (qs.length + 1) qs).map trT) ∧ rs.length ≤ 65536 ∧ ∀ y ∈ rs.map trT, Good 16 y.1 ∧ Good 16 y.2) := ⟨hri2, hme2, hl2, fun y hy => by
      obtain ⟨p, hp, rfl⟩ := List.mem_map.1 hy
      exact HR.out p (hm2 p hp)⟩
    obtain ⟨RL, hRL⟩ : ∃ RL, RL = rs.map trT := ⟨_, rfl⟩
    have HRLl : Hid (RL.length = rs.length) := by show _ = _; rw [hRL, List.length_map]
    rw [← hRL] at HCs HRi
    clear hs2 hm2 hri2 hme2 hg2 HS HR hRL
    generalize rs.length = n2 at *
    go_wp2_with fail
    refine Calls.mono HCs.out ?_
    rintro e w3 ⟨v3, ps, rfl, hps, hs3, hn3, hg3⟩
    have hb3 : Below w.heap.size w w3 := hb2.trans (hg3.mono hb2.size)
    obtain ⟨a3, c3, rfl, _⟩ := hs3.slice
    have Hpl : Hid (ps.length = RL.length) := by show _ = _; rw [← hps, List.length_map]
    have HG : Hid _ := grown_14 TT 16 ps _ w3 (hs3.mono (Nat.zero_le _)) (fun p hp => ⟨⟨(LiesX.of_b (hn3 p hp).1.1).mono (fun _ _ => trivial), (hn3 p hp).1.2⟩, ⟨(LiesX.of_b (hn3 p hp).2.1).mono (fun _ _ => trivial), (hn3 p hp).2.2⟩⟩) (by have := Hpl.out; have := HRLl.out; have := HRi.out.2.2.1; omega)
    have hG2 := HG.out
    rw [hps] at hG2
    have HG : Hid (Calls Tryz.prog 33 #[.slice a3 ps.length c3] w3 (GrownPost TT 16 RL w3)) := hG2
    clear hs3 hn3 hg3 HCs hG2 hps
    generalize ps.length = n3 at *
    go_wp2_with fail
    refine Calls.mono HG.out ?_
    rintro e w4 ⟨hg4, t, p4, rfl, hn4, hi4, hw4, hbl4⟩
    have hb4 : Below w.heap.size w w4 := hb3.trans (hg4.mono hb3.size)
    have hbA : Below w4.heap.size w4 (w4.alloc (.cells #[.int .i64 (q : Int), .pointer p4] 70)) := ((Grew.refl w4).alloc _).below
    have HE : Hid (PO (.returned (.tuple #[.pointer (some ⟨w4.heap.size, 0, none⟩), .int .i64 0])) (w4.alloc (.cells #[.int .i64 (q : Int), .pointer p4] 70))) := by
      refine HPk2.out t w4.heap.size _ (hb4.trans (hbA.mono hb4.size)) ⟨by simp, ⟨p4, by simp, hn4.keeps hbA⟩, hw4, hbl4, hq6, ?_, ?_, ?_⟩ ?_
      · rw [hi4]; exact HRi.out.2.2.2
      · rw [hi4]; exact HRi.out.1
      · rw [RT.size_items, hi4, HRLl.out]; exact HRi.out.2.2.1
      · rw [hi4]; exact HRi.out.2.1
    clear hn4 hi4 hw4 hbl4 hg4 HG
    go_wp2_with fail
    first | exact HE.out | (go_ret2; exact HE.out)
  · have HE : Hid (PO (.returned (.tuple #[.pointer none, .int .i64 E])) w1) := HPe.out hE w1 hb1
    clear HC H0 HPe HPk
    go_wp2_with fail
    first | exact HE.out | (go_ret2; exact HE.out)

end Go.Proofs.YtpgpnhihdboghaaGreat

namespace Go.Proofs.YtpgpnhihdboghaaGreat
open Go.RowKit Go.Shelf

set_option maxRecDepth 100000 in
set_option maxHeartbeats 4000000 in
theorem mpairs_14 {w : World} {q : Nat} {t : RT PT} {b : Nat} (h : MC w q t b) : Calls Tryz.prog 10 #[.pointer (some ⟨b, 0, none⟩)] w (CopiesPost t.items w) := by
  have HK : Hid _ := kept_14 h
  have HR : Hid (∀ x ∈ t.items, Good 16 x.1 ∧ Good 16 x.2) := h.right
  have HZ : Hid (t.items.length ≤ 65536) := by show _ ≤ _; rw [← RT.size_items]; exact h.size
  clear h
  go_enter Tryz.func10, Tryz.ntmps10
  go_wp2_with fail
  refine Calls.mono HK.out ?_
  rintro e w1 ⟨v, rfl, ⟨qs, hq, ho, hg⟩, hb⟩
  have hl : qs.length = t.items.length := by rw [← hq, List.length_map]
  have hs : SlQ w.heap.size 16 w1 qs v := SlQ.of_own rfl ho (fun p hp => (hg p hp).keeps hb) (by have := HZ.out; omega)
  obtain ⟨a, c, rfl, _⟩ := hs.slice
  have hc := copies_14 qs _ w1 (hs.mono (Nat.zero_le _)) (by have := HZ.out; omega) (fun p hp => by
    have h9 := HR.out (trT p) (by rw [← hq]; exact List.mem_map.2 ⟨p, hp, rfl⟩)
    exact ⟨h9.1.1, h9.2.1⟩)
  rw [hq] at hc
  have HC : Hid _ := hc
  have HP : Hid (∀ e w', CopiesPost t.items w1 e w' → CopiesPost t.items w e w') := fun e w' ⟨v, rs, h1, h2, h3, h4, h5⟩ => ⟨v, rs, h1, h2, h3.mono hb.size, fun p hp => (h4 p hp).lower hb.size, hb.trans (h5.mono hb.size)⟩
  clear hc hs ho hg HK HR hq hl
  generalize t.items = TI at *
  generalize qs.length = n at *
  go_wp2_with fail
  refine Calls.mono HC.out ?_
  rintro e w2 hx
  obtain ⟨v2, e2⟩ : ∃ v, e = .returned v := by obtain ⟨v, _, h1, _⟩ := hx; exact ⟨v, h1⟩
  subst e2
  have HE : Hid (CopiesPost TI w (.returned v2) w2) := HP.out _ _ hx
  clear hx
  go_wp2_with fail
  first | (go_ret; exact HE.out) | exact HE.out

end Go.Proofs.YtpgpnhihdboghaaGreat

