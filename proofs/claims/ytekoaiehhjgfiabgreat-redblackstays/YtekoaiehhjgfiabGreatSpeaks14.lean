/-
  The little program of chapter 14's statements.
-/
import Derived.Test.YtekoaiehhjgfiabGreatOfM
import Derived.Test.YtekoaiehhjgfiabGreatMapN
import Derived.Test.YtekoaiehhjgfiabGreatRunesP
namespace Go.Proofs.YtekoaiehhjgfiabGreat
open Go.RowKit Go.Shelf

/-- What Of tells. -/
def OfPost14 (d : Nat) (o : Int) (qs : List PP) (w : World) (e : Ending) (w' : World) : Prop :=
  Below w.heap.size w w' ∧ ((ofErr d o (qs.map trT) ≠ 0 ∧ e = .returned (.tuple #[.pointer none, .int .i64 (ofErr d o (qs.map trT))])) ∨
    (ofErr d o (qs.map trT) = 0 ∧ ∃ t b, e = .returned (.tuple #[.pointer (some ⟨b, 0, none⟩), .int .i64 0]) ∧ MC w' o.toNat t b ∧ ∀ y, y ∈ t.items ↔ y ∈ (kyd (cmpQ 16) (qs.length + 1) qs).map trT))

theorem slq_canon {d : Nat} {w : World} {qs : List PP} {u : Value} (hu : SlQ 0 d w qs u) (h : ∀ p ∈ qs, rightV d p.1.1 = true ∧ rightV d p.2.1 = true) : SlQ 0 16 w qs u ∧ ∀ p ∈ qs, rightV 16 p.1.1 = true ∧ rightV 16 p.2.1 = true := by
  obtain ⟨a, c, hv, h1, h2, h3, h4⟩ := hu
  refine ⟨⟨a, c, hv, h1, h2, h3, fun p hp => ?_⟩, fun p hp => ?_⟩
  · have g := h4 p hp
    exact ⟨⟨(canon g.1.1 (h p hp).1).1, g.1.2⟩, ⟨(canon g.2.1 (h p hp).2).1, g.2.2⟩⟩
  · have g := h4 p hp
    exact ⟨(canon g.1.1 (h p hp).1).2, (canon g.2.1 (h p hp).2).2⟩

set_option maxRecDepth 100000 in
set_option maxHeartbeats 8000000 in
theorem mof_14 (d : Nat) (o : Int) (qs : List PP) (u : Value) (w : World) (hu : SlQ 0 d w qs u) : Calls Tryz.prog 7 #[.int .i64 o, u] w (OfPost14 d o qs w) := by
  have HC : Hid _ := check_14 d o qs u w hu
  have HU : Hid (SlQ 0 d w qs u) := hu
  have HPe : Hid (ofErr d o (qs.map trT) ≠ 0 → ∀ w', Below w.heap.size w w' → OfPost14 d o qs w (.returned (.tuple #[.pointer none, .int .i64 (ofErr d o (qs.map trT))])) w') := fun h w' hb => ⟨hb, .inl ⟨h, rfl⟩⟩
  have HPk : Hid (ofErr d o (qs.map trT) = 0 → ∀ t b w', Below w.heap.size w w' → MC w' o.toNat t b → (∀ y, y ∈ t.items ↔ y ∈ (kyd (cmpQ 16) (qs.length + 1) qs).map trT) → OfPost14 d o qs w (.returned (.tuple #[.pointer (some ⟨b, 0, none⟩), .int .i64 0])) w') := fun h t b w' hb h1 h2 => ⟨hb, .inr ⟨h, t, b, rfl, h1, h2⟩⟩
  have H0 : Hid (ofErr d o (qs.map trT) = 0 → (0 ≤ o ∧ o < 6) ∧ qs.length ≤ 65536 ∧ ∀ p ∈ qs, rightV d p.1.1 = true ∧ rightV d p.2.1 = true) := fun h => by
    unfold ofErr ordErr at h
    by_cases ho : o < 0 ∨ 6 ≤ o
    · rw [if_pos ho, if_pos (by decide)] at h; cases h
    · rw [if_neg ho, if_neg (by simp)] at h
      unfold pErr at h
      split at h
      · cases h
      · next hl =>
        rw [List.length_map] at hl
        split at h
        · next ha =>
          refine ⟨by omega, by omega, fun p hp => ?_⟩
          have h9 := List.all_eq_true.1 ha (trT p) (List.mem_map.2 ⟨p, hp, rfl⟩)
          simpa [okP, trT, Bool.and_eq_true] using h9
        · cases h
  obtain ⟨a, c, rfl, _⟩ := hu.slice
  generalize OfPost14 d o qs w = PO at *
  generalize ofErr d o (qs.map trT) = E at *
  clear hu
  go_enter Tryz.func7, Tryz.ntmps7
  go_wp2_with fail
  refine Calls.mono HC.out ?_
  rintro e w1 ⟨rfl, hb1⟩
  by_cases hE : E = 0
  · have HPk2 : Hid _ := HPk.out hE
    obtain ⟨ho, hlen, hr⟩ := H0.out hE
    subst hE
    clear HPk HPe
    obtain ⟨q, rfl⟩ : ∃ q : Nat, o = q := ⟨o.toNat, by omega⟩
    obtain ⟨hs16, hr16⟩ := slq_canon HU.out hr
    have HS : Hid _ := sorted_14 q (by omega) qs _ w1 (hs16.keeps hb1) hlen (fun p hp => (hr16 p hp).1)
    have HR : Hid (∀ p ∈ qs, Good 16 p.1.1 ∧ Good 16 p.2.1) := fun p hp => ⟨⟨(hr16 p hp).1, Dp.of_lies 16 w p.1.1 p.1.2 (hs16.good p hp).1.1⟩, ⟨(hr16 p hp).2, Dp.of_lies 16 w p.2.1 p.2.2 (hs16.good p hp).2.1⟩⟩
    have hq6 : q < 6 := by omega
    clear HC H0 HU hr hs16 hr16
    go_wp2_with fail
    refine Calls.mono HS.out ?_
    rintro e w2 ⟨v2, rs, rfl, hs2, hl2, hm2, hri2, hme2, hg2⟩
    have hb2 : Below w.heap.size w w2 := hb1.trans (hg2.mono hb1.size)
    obtain ⟨a2, c2, rfl, _⟩ := hs2.slice
    have HCs : Hid _ := copies_14 rs _ w2 (hs2.mono (Nat.zero_le _)) hl2 (fun p hp => ⟨(HR.out p (hm2 p hp)).1.1, (HR.out p (hm2 p hp)).2.1⟩)
    have HRi : Hid (RT.Rises (byK q) (rs.map trT) ∧ (∀ y, y ∈ rs.map trT ↔ y ∈ (kyd (cmpQ 16) (qs.length + 1) qs).map trT) ∧ rs.length ≤ 65536 ∧ ∀ y ∈ rs.map trT, Good 16 y.1 ∧ Good 16 y.2) := ⟨hri2, hme2, hl2, fun y hy => by
      obtain ⟨p, hp, rfl⟩ := List.mem_map.1 hy
      exact HR.out p (hm2 p hp)⟩
    obtain ⟨RL, hRL⟩ : ∃ RL, RL = rs.map trT := ⟨_, rfl⟩
    have HRLl : Hid (RL.length = rs.length) := by show _ = _; rw [hRL, List.length_map]
    rw [← hRL] at HCs HRi
    clear hs2 hm2 hri2 hme2 hg2 HS HR hRL
    generalize rs.length = n2 at *
    go_wp2_with fail
    refine Calls.mono HCs.out ?_
    rintro e w3 ⟨v3, ps, rfl, hps, hs3, hn3, hg3⟩
    have hb3 : Below w.heap.size w w3 := hb2.trans (hg3.mono hb2.size)
    obtain ⟨a3, c3, rfl, _⟩ := hs3.slice
    have Hpl : Hid (ps.length = RL.length) := by show _ = _; rw [← hps, List.length_map]
    have HG : Hid _ := grown_14 TT 16 ps _ w3 (hs3.mono (Nat.zero_le _)) (fun p hp => ⟨⟨(LiesX.of_b (hn3 p hp).1.1).mono (fun _ _ => trivial), (hn3 p hp).1.2⟩, ⟨(LiesX.of_b (hn3 p hp).2.1).mono (fun _ _ => trivial), (hn3 p hp).2.2⟩⟩) (by have := Hpl.out; have := HRLl.out; have := HRi.out.2.2.1; omega)
    have hG2 := HG.out
    rw [hps] at hG2
    have HG : Hid (Calls Tryz.prog 36 #[.slice a3 ps.length c3] w3 (GrownPost TT 16 RL w3)) := hG2
    clear hs3 hn3 hg3 HCs hG2 hps
    generalize ps.length = n3 at *
    go_wp2_with fail
    refine Calls.mono HG.out ?_
    rintro e w4 ⟨hg4, t, p4, rfl, hn4, hi4, hw4, hbl4⟩
    have hb4 : Below w.heap.size w w4 := hb3.trans (hg4.mono hb3.size)
    have hbA : Below w4.heap.size w4 (w4.alloc (.cells #[.int .i64 (q : Int), .pointer p4] 75)) := ((Grew.refl w4).alloc _).below
    have HE : Hid (PO (.returned (.tuple #[.pointer (some ⟨w4.heap.size, 0, none⟩), .int .i64 0])) (w4.alloc (.cells #[.int .i64 (q : Int), .pointer p4] 75))) := by
      refine HPk2.out t w4.heap.size _ (hb4.trans (hbA.mono hb4.size)) ⟨by simp, ⟨p4, by simp, hn4.keeps hbA⟩, hw4, hbl4, hq6, ?_, ?_, ?_⟩ ?_
      · rw [hi4]; exact HRi.out.2.2.2
      · rw [hi4]; exact HRi.out.1
      · rw [RT.size_items, hi4, HRLl.out]; exact HRi.out.2.2.1
      · rw [hi4]; exact HRi.out.2.1
    clear hn4 hi4 hw4 hbl4 hg4 HG
    go_wp2_with fail
    first | exact HE.out | (go_ret2; exact HE.out)
  · have HE : Hid (PO (.returned (.tuple #[.pointer none, .int .i64 E])) w1) := HPe.out hE w1 hb1
    clear HC H0 HPe HPk
    go_wp2_with fail
    first | exact HE.out | (go_ret2; exact HE.out)

end Go.Proofs.YtekoaiehhjgfiabGreat

namespace Go.Proofs.YtekoaiehhjgfiabGreat
open Go.RowKit Go.Shelf

set_option maxRecDepth 100000 in
set_option maxHeartbeats 4000000 in
theorem mpairs_14 {w : World} {q : Nat} {t : RT PT} {b : Nat} (h : MC w q t b) : Calls Tryz.prog 17 #[.pointer (some ⟨b, 0, none⟩)] w (CopiesPost t.items w) := by
  have HK : Hid _ := kept_14 h
  have HR : Hid (∀ x ∈ t.items, Good 16 x.1 ∧ Good 16 x.2) := h.right
  have HZ : Hid (t.items.length ≤ 65536) := by show _ ≤ _; rw [← RT.size_items]; exact h.size
  clear h
  go_enter Tryz.func17, Tryz.ntmps17
  go_wp2_with fail
  refine Calls.mono HK.out ?_
  rintro e w1 ⟨v, rfl, ⟨qs, hq, ho, hg⟩, hb⟩
  have hl : qs.length = t.items.length := by rw [← hq, List.length_map]
  have hs : SlQ w.heap.size 16 w1 qs v := SlQ.of_own rfl ho (fun p hp => (hg p hp).keeps hb) (by have := HZ.out; omega)
  obtain ⟨a, c, rfl, _⟩ := hs.slice
  have hc := copies_14 qs _ w1 (hs.mono (Nat.zero_le _)) (by have := HZ.out; omega) (fun p hp => by
    have h9 := HR.out (trT p) (by rw [← hq]; exact List.mem_map.2 ⟨p, hp, rfl⟩)
    exact ⟨h9.1.1, h9.2.1⟩)
  rw [hq] at hc
  have HC : Hid _ := hc
  have HP : Hid (∀ e w', CopiesPost t.items w1 e w' → CopiesPost t.items w e w') := fun e w' ⟨v, rs, h1, h2, h3, h4, h5⟩ => ⟨v, rs, h1, h2, h3.mono hb.size, fun p hp => (h4 p hp).lower hb.size, hb.trans (h5.mono hb.size)⟩
  clear hc hs ho hg HK HR hq hl
  generalize t.items = TI at *
  generalize qs.length = n at *
  go_wp2_with fail
  refine Calls.mono HC.out ?_
  rintro e w2 hx
  obtain ⟨v2, e2⟩ : ∃ v, e = .returned v := by obtain ⟨v, _, h1, _⟩ := hx; exact ⟨v, h1⟩
  subst e2
  have HE : Hid (CopiesPost TI w (.returned v2) w2) := HP.out _ _ hx
  clear hx
  go_wp2_with fail
  first | (go_ret; exact HE.out) | exact HE.out

end Go.Proofs.YtekoaiehhjgfiabGreat

namespace Go.Proofs.YtekoaiehhjgfiabGreat
open Go.RowKit Go.Shelf

/-- A number's value, a text's. -/
abbrev numV (n : Int) : VT := ⟨2, n, ⟨#[]⟩, []⟩
abbrev txtV (s : ByteArray) : VT := ⟨3, 0, s, []⟩

theorem text_14 (s : ByteArray) (w : World) : Calls Tryz.prog 42 #[.string s] w fun e w' => e = .returned (.agg #[.int .i64 3, .int .i64 0, .string s, .slice none 0 0]) ∧ Below w.heap.size w w' := by
  go_enter Tryz.func42, Tryz.ntmps42
  go_wp2_with fail
  exact bodyPost_ret (v := .agg #[.int .i64 3, .int .i64 0, .string s, .slice none 0 0]) (by simp [results, Tryz.results42, go_sem]) rfl ⟨rfl, ((Grew.refl _).alloc _).below⟩

/-- The two pairs of the little program. -/
def twoQ : List PP := [((numV 1, .slice none 0 0), (txtV ⟨#[97]⟩, .slice none 0 0)), ((numV 2, .slice none 0 0), (txtV ⟨#[98]⟩, .slice none 0 0))]
def twoT : List PT := [(numV 2, txtV ⟨#[98]⟩), (numV 1, txtV ⟨#[97]⟩)]

theorem two_slq (w : World) (T : Nat) : SlQ 0 16 (w.alloc (.cells #[.int .i64 2, .int .i64 1, .string ⟨#[]⟩, .slice none 0 0, .int .i64 3, .int .i64 0, .string ⟨#[97]⟩, .slice none 0 0, .int .i64 2, .int .i64 2, .string ⟨#[]⟩, .slice none 0 0, .int .i64 3, .int .i64 0, .string ⟨#[98]⟩, .slice none 0 0] T)) twoQ (.slice (some ⟨w.heap.size, 0, none⟩) 2 2) := by
  refine ⟨_, 2, rfl, by decide, by decide, fun _ => ⟨w.heap.size, 0, rfl, Nat.zero_le _, fun j u hj => ?_⟩, fun p hp => ?_⟩
  · have e : twoQ.flatMap encQ = [.int .i64 2, .int .i64 1, .string ⟨#[]⟩, .slice none 0 0, .int .i64 3, .int .i64 0, .string ⟨#[97]⟩, .slice none 0 0, .int .i64 2, .int .i64 2, .string ⟨#[]⟩, .slice none 0 0, .int .i64 3, .int .i64 0, .string ⟨#[98]⟩, .slice none 0 0] := rfl
    rw [e] at hj
    have h9 : (w.alloc (.cells #[.int .i64 2, .int .i64 1, .string ⟨#[]⟩, .slice none 0 0, .int .i64 3, .int .i64 0, .string ⟨#[97]⟩, .slice none 0 0, .int .i64 2, .int .i64 2, .string ⟨#[]⟩, .slice none 0 0, .int .i64 3, .int .i64 0, .string ⟨#[98]⟩, .slice none 0 0] T)).cell? ⟨w.heap.size, j, none⟩ = ([.int .i64 2, .int .i64 1, .string ⟨#[]⟩, .slice none 0 0, .int .i64 3, .int .i64 0, .string ⟨#[97]⟩, .slice none 0 0, .int .i64 2, .int .i64 2, .string ⟨#[]⟩, .slice none 0 0, .int .i64 3, .int .i64 0, .string ⟨#[98]⟩, .slice none 0 0] : List Value)[j]? := by simp
    rw [Nat.zero_add, h9]
    exact hj
  · have hz : ∀ d W, Lies d W [] (.slice none 0 0) := zero_lies
    rcases List.mem_cons.1 hp with rfl | hp
    · exact ⟨⟨hz _ _, by decide⟩, ⟨hz _ _, by decide⟩⟩
    · rw [List.mem_singleton.1 hp]
      exact ⟨⟨hz _ _, by decide⟩, ⟨hz _ _, by decide⟩⟩

theorem two_err : ofErr 16 1 (twoQ.map trT) = 0 := by kernel_rfl
theorem two_kyd : (kyd (cmpQ 16) (twoQ.length + 1) twoQ).map trT = [(numV 1, txtV ⟨#[97]⟩), (numV 2, txtV ⟨#[98]⟩)] := by kernel_rfl
theorem two_rises : RT.Rises (byK 1) twoT := by
  have h : byK 1 (numV 2, txtV ⟨#[98]⟩) (numV 1, txtV ⟨#[97]⟩) = -1 := by kernel_rfl
  refine List.Pairwise.cons (fun y hy => ?_) (List.pairwise_singleton _ _)
  rw [List.mem_singleton.1 hy, h]
  decide
theorem two_find : twoT.find? (fun a => decide (atK 1 (numV 1) a = 0)) = some (numV 1, txtV ⟨#[97]⟩) := by kernel_rfl
theorem one_right14 : rightV 16 (numV 1) = true := by kernel_rfl

theorem two_items {w : World} {t : RT PT} {b : Nat} (h : MC w 1 t b) (hm : ∀ y, y ∈ t.items ↔ y ∈ (kyd (cmpQ 16) (twoQ.length + 1) twoQ).map trT) : t.items = twoT := by
  refine RT.rises_eq (byK_cmp 1) _ _ h.rises two_rises fun y => ?_
  rw [hm y, two_kyd]
  unfold twoT
  simp only [List.mem_cons, List.not_mem_nil, or_false]
  exact Or.comm

set_option maxRecDepth 100000 in
set_option maxHeartbeats 8000000 in
theorem speaks14_any (w : World) : Calls Tryz.prog 9 #[] w fun e w' => e = .returned (.bool true) ∧ Below w.heap.size w w' := by
  have HI : Hid (∀ n W, Calls Tryz.prog 24 #[.int .i64 n] W fun e w' => e = .returned (.agg #[.int .i64 2, .int .i64 n, .string ⟨#[]⟩, .slice none 0 0]) ∧ Below W.heap.size W w') := fun n W => Calls.mono (int_any n W) fun _ _ h => ⟨h.1, h.2.below⟩
  have HO : Hid (∀ W T, Calls Tryz.prog 7 #[.int .i64 1, .slice (some ⟨W.heap.size, 0, none⟩) 2 2] (W.alloc (.cells #[.int .i64 2, .int .i64 1, .string ⟨#[]⟩, .slice none 0 0, .int .i64 3, .int .i64 0, .string ⟨#[97]⟩, .slice none 0 0, .int .i64 2, .int .i64 2, .string ⟨#[]⟩, .slice none 0 0, .int .i64 3, .int .i64 0, .string ⟨#[98]⟩, .slice none 0 0] T)) fun e w' => ∃ t b, e = .returned (.tuple #[.pointer (some ⟨b, 0, none⟩), .int .i64 0]) ∧ MC w' 1 t b ∧ t.items = twoT ∧ Below W.heap.size W w') := fun W T => by
    refine Calls.mono (mof_14 16 1 twoQ _ _ (two_slq W T)) ?_
    rintro e w' ⟨hb, ⟨hne, _⟩ | ⟨_, t, b, rfl, hm, hme⟩⟩
    · exact absurd two_err hne
    · exact ⟨t, b, rfl, hm, two_items hm hme, ((Grew.refl W).alloc _).below.trans (hb.mono (by simp))⟩
  go_enter Tryz.func9, Tryz.ntmps9
  go_wp2_with fail
  refine Calls.mono (HI.out _ _) ?_
  rintro e w1 ⟨rfl, hb1⟩
  go_wp2_with fail
  refine (text_14 _ _).mono ?_
  rintro e w2 ⟨rfl, hg2⟩
  have hb2 : Below w.heap.size w w2 := hb1.trans (hg2.mono hb1.size)
  clear hg2
  go_wp2_with fail
  refine Calls.mono (HI.out _ _) ?_
  rintro e w3 ⟨rfl, hg3⟩
  have hb3 : Below w.heap.size w w3 := hb2.trans (hg3.mono hb2.size)
  clear hg3
  go_wp2_with fail
  refine (text_14 _ _).mono ?_
  rintro e w4 ⟨rfl, hg4⟩
  have hb4 : Below w.heap.size w w4 := hb3.trans (hg4.mono hb3.size)
  clear hg4 hb1 hb2 hb3
  go_wp2_with fail
  refine Calls.mono (HO.out _ _) ?_
  rintro e w5 ⟨t, b, rfl, hm, hti, hg5⟩
  have hb5 : Below w.heap.size w w5 := hb4.trans (hg5.mono hb4.size)
  have HM : Hid (MC w5 1 t b) := hm
  have HTI : Hid (t.items = twoT) := hti
  have HP : Hid (Calls Tryz.prog 17 #[.pointer (some ⟨b, 0, none⟩)] w5 (CopiesPost twoT w5)) := by have := mpairs_14 hm; rwa [hti] at this
  clear hm hti hg5 hb4 HO
  go_wp2_with fail
  refine Calls.mono HP.out ?_
  rintro e w6 ⟨v6, ps, rfl, hps, hs6, _, hg6⟩
  have hb6 : Below w.heap.size w w6 := hb5.trans (hg6.mono hb5.size)
  have hpl : ps.length = 2 := by have := congrArg List.length hps; rw [List.length_map] at this; exact this
  obtain ⟨pb, po, pc, rfl, hpc, hq6, _⟩ := hs6.full (fun e => by rw [e] at hpl; cases hpl)
  rw [hpl] at hpc ⊢
  have c6 : w6.cell? ⟨pb, po + 1, none⟩ = some (.int .i64 2) := by
    have h9 := (hq6.at 0 (by omega)).2.1
    have e0 : trT ps[0] = (numV 2, txtV ⟨#[98]⟩) := by
      have h8 : (ps.map trT)[0]? = some (numV 2, txtV ⟨#[98]⟩) := by rw [hps]; rfl
      rw [List.getElem?_map, List.getElem?_eq_getElem (by omega)] at h8
      simpa using h8
    have e1 : ps[0].1.1 = numV 2 := congrArg Prod.fst e0
    rw [e1] at h9
    simpa using h9
  have HM6 : Hid (MC w6 1 t b) := HM.out.keeps hg6
  clear hps hs6 hg6 hpl hq6 HP HM hb5
  go_wp2_with fail
  refine Calls.mono (HI.out _ _) ?_
  rintro e w7 ⟨rfl, hg7⟩
  have hb7 : Below w.heap.size w w7 := hb6.trans (hg7.mono hb6.size)
  have c7 := cell_keeps hg7 c6
  have HM7 : Hid (MC w7 1 t b) := HM6.out.keeps hg7
  have HG : Hid (Calls Tryz.prog 43 #[.pointer (some ⟨b, 0, none⟩), .agg #[.int .i64 2, .int .i64 1, .string ⟨#[]⟩, .slice none 0 0]] w7 (GetPost14 (some (numV 1, txtV ⟨#[97]⟩)) 0 w7)) := by
    have h9 := get_right 16 b 1 t (numV 1) (.slice none 0 0) w7 HM7.out (zero_lies 16 w7) (by decide) one_right14
    have e9 : RT.find (atK 1 (numV 1)) t = some (numV 1, txtV ⟨#[97]⟩) := by
      rw [RT.find_eq (atK 1 (numV 1)) t (RT.Rises.falls (byK_cmp 1) HM7.out.rises (numV 1, numV 1)), HTI.out]
      exact two_find
    rw [e9] at h9
    exact h9
  clear hg7 c6 HM6 hb6
  go_wp2_with fail
  refine Calls.mono HG.out ?_
  rintro e w8 ⟨hg8, hx | ⟨x, u, hx, rfl, hlu⟩⟩
  · cases hx.1
  injection hx with hx
  subst hx
  obtain ⟨au, cu, hu, _⟩ := LiesB.slice hlu
  subst hu
  clear hlu
  have hb8 : Below w.heap.size w w8 := hb7.trans (hg8.mono hb7.size)
  have c8 := cell_keeps hg8 c7
  have HM8 : Hid (MC w8 1 t b) := HM7.out.keeps hg8
  have hh1 : 1 ≤ t.high := by
    have h9 := high_zero14 t
    have h8 : t.size = 2 := by rw [RT.size_items, HTI.out]; rfl
    omega
  have Hh1 : Hid (1 ≤ t.high) := hh1
  have HHt : Hid (∀ o, Calls Tryz.prog 18 #[.pointer (some ⟨b, 0, none⟩)] (w8.alloc o) fun e w' => e = .returned (.int .i64 (t.high : Nat)) ∧ Below (w8.alloc o).heap.size (w8.alloc o) w') := fun o => mheight_14 (HM8.out.keeps ((Grew.refl w8).alloc o).below)
  have hlt8 : pb < w8.heap.size := cell_lt c8
  have hne8 : ¬ pb = w8.heap.size := by omega
  have hhi : (1 : Int) ≤ (t.high : Nat) := by omega
  generalize t.high = H at *
  clear hg8 c7 HM7 hb7 HG HTI hh1
  go_wp2_with fail
  refine Calls.mono (HHt.out _) ?_
  rintro e w9 ⟨rfl, hg9⟩
  have hb9 : Below w.heap.size w w9 := (hb8.trans (((Grew.refl w8).alloc _).below.mono hb8.size)).trans (hg9.mono (hb8.trans (((Grew.refl w8).alloc _).below.mono hb8.size)).size)
  clear hg9
  go_wp2_with fail
  go_ret
  exact ⟨rfl, hb9⟩

end Go.Proofs.YtekoaiehhjgfiabGreat

