/-
  Sorted maps: Turn to one's own order, Union.
-/
import Derived.Test.YtfoaekbnpioinabGreatSortedQ
import Derived.Test.YtfoaekbnpioinabGreatMapV
import Derived.Test.YtfoaekbnpioinabGreatMapN
import Derived.Test.YtfoaekbnpioinabGreatRunesP
import Derived.Test.YtfoaekbnpioinabGreatSplitM
import Derived.Test.YtfoaekbnpioinabGreatAssoc
namespace Go.Proofs.YtfoaekbnpioinabGreat
open Go.RowKit Go.Shelf

/-- What is wrong with an order. -/
def ordErr (o : Int) : Int := if o < 0 ∨ 6 ≤ o then 4 else 0

theorem zero_right : rightV 16 ⟨0, 0, ⟨#[]⟩, []⟩ = true := by kernel_rfl

theorem zero_lies (d : Nat) (w : World) : Lies d w [] (.slice none 0 0) := (liesX_nil TT d w none 0).lies

set_option maxRecDepth 100000 in
set_option maxHeartbeats 4000000 in
theorem checkOrder_14 (o : Int) (w : World) : Calls Tryz.prog 50 #[.int .i64 o] w fun e w' => e = .returned (.int .i64 (ordErr o)) ∧ Below w.heap.size w w' := by
  have h9 := compareO_any 16 o ⟨0, 0, ⟨#[]⟩, []⟩ ⟨0, 0, ⟨#[]⟩, []⟩ (.slice none 0 0) (.slice none 0 0) w (zero_lies 16 w) (zero_lies 16 w) (by decide) (by decide)
  have e9 : ordE 16 o ⟨0, 0, ⟨#[]⟩, []⟩ ⟨0, 0, ⟨#[]⟩, []⟩ = ordErr o := by
    unfold ordE ordErr
    split
    · rfl
    · rw [if_pos ⟨zero_right, zero_right⟩]
  rw [e9] at h9
  have HC : Hid (Calls Tryz.prog 90 #[.int .i64 o, .agg #[.int .i64 0, .int .i64 0, .string ⟨#[]⟩, .slice none 0 0], .agg #[.int .i64 0, .int .i64 0, .string ⟨#[]⟩, .slice none 0 0]] w fun e w' => e = .returned (.tuple #[.int .i64 (ordR 16 o ⟨0, 0, ⟨#[]⟩, []⟩ ⟨0, 0, ⟨#[]⟩, []⟩), .int .i64 (ordErr o)]) ∧ Below w.heap.size w w') := h9
  generalize ordR 16 o ⟨0, 0, ⟨#[]⟩, []⟩ ⟨0, 0, ⟨#[]⟩, []⟩ = R at *
  generalize ordErr o = E at *
  clear h9 e9
  go_enter Tryz.func50, Tryz.ntmps50
  go_wp2_with fail
  refine Calls.mono HC.out ?_
  rintro e w1 ⟨rfl, hb⟩
  go_wp2_with fail
  go_ret
  exact ⟨rfl, hb⟩

/-- What is wrong with an order and pairs. -/
def ofErr (d : Nat) (o : Int) (l : List PT) : Int := if ordErr o ≠ 0 then ordErr o else pErr d l

set_option maxRecDepth 100000 in
set_option maxHeartbeats 4000000 in
theorem check_14 (d : Nat) (o : Int) (qs : List PP) (u : Value) (w : World) (hu : SlQ 0 d w qs u) : Calls Tryz.prog 35 #[.int .i64 o, u] w fun e w' => e = .returned (.int .i64 (ofErr d o (qs.map trT))) ∧ Below w.heap.size w w' := by
  have HO : Hid _ := checkOrder_14 o w
  have HP : Hid (∀ V, Below w.heap.size w V → Calls Tryz.prog 67 #[u, .func (.func 58) #[] #[]] V fun e w' => e = .returned (.int .i64 (pErr d (qs.map trT))) ∧ Below V.heap.size V w') := fun V hV => checkPairs_any d qs u V (hu.keeps hV)
  have HE : Hid (ofErr d o (qs.map trT) = if ordErr o ≠ 0 then ordErr o else pErr d (qs.map trT)) := rfl
  generalize ofErr d o (qs.map trT) = E at *
  generalize pErr d (qs.map trT) = Pe at *
  generalize ordErr o = Oe at *
  obtain ⟨a, c, rfl, _⟩ := hu.slice
  clear hu
  go_enter Tryz.func35, Tryz.ntmps35
  go_wp2_with fail
  refine Calls.mono HO.out ?_
  rintro e w1 ⟨rfl, hb⟩
  by_cases h0 : Oe = 0
  · have e0 : E = Pe := by rw [HE.out, if_neg (by simp [h0])]
    subst e0
    subst h0
    clear HE
    go_wp2_with fail
    refine Calls.mono (HP.out _ hb) ?_
    rintro e w2 ⟨rfl, hg⟩
    have hb2 : Below w.heap.size w w2 := hb.trans (hg.mono hb.size)
    clear hg
    go_wp2_with fail
    go_ret
    exact ⟨rfl, hb2⟩
  · have e0 : E = Oe := by rw [HE.out, if_pos h0]
    subst e0
    clear HE
    go_wp2_with fail
    go_ret
    exact ⟨rfl, hb⟩

end Go.Proofs.YtfoaekbnpioinabGreat

namespace Go.Proofs.YtfoaekbnpioinabGreat
open Go.RowKit Go.Shelf

/-- What Of tells. -/
def OfPost14 (d : Nat) (o : Int) (qs : List PP) (w : World) (e : Ending) (w' : World) : Prop :=
  Below w.heap.size w w' ∧ ((ofErr d o (qs.map trT) ≠ 0 ∧ e = .returned (.tuple #[.pointer none, .int .i64 (ofErr d o (qs.map trT))])) ∨
    (ofErr d o (qs.map trT) = 0 ∧ ∃ t b, e = .returned (.tuple #[.pointer (some ⟨b, 0, none⟩), .int .i64 0]) ∧ MC w' o.toNat t b ∧ ∀ y, y ∈ t.items ↔ y ∈ (kyd (cmpQ 16) (qs.length + 1) qs).map trT))

theorem slq_canon {d : Nat} {w : World} {qs : List PP} {u : Value} (hu : SlQ 0 d w qs u) (h : ∀ p ∈ qs, rightV d p.1.1 = true ∧ rightV d p.2.1 = true) : SlQ 0 16 w qs u ∧ ∀ p ∈ qs, rightV 16 p.1.1 = true ∧ rightV 16 p.2.1 = true := by
  obtain ⟨a, c, hv, h1, h2, h3, h4⟩ := hu
  refine ⟨⟨a, c, hv, h1, h2, h3, fun p hp => ?_⟩, fun p hp => ?_⟩
  · have g := h4 p hp
    exact ⟨⟨(canon g.1.1 (h p hp).1).1, g.1.2⟩, ⟨(canon g.2.1 (h p hp).2).1, g.2.2⟩⟩
  · have g := h4 p hp
    exact ⟨(canon g.1.1 (h p hp).1).2, (canon g.2.1 (h p hp).2).2⟩

set_option maxRecDepth 100000 in
set_option maxHeartbeats 8000000 in
theorem mof_14 (d : Nat) (o : Int) (qs : List PP) (u : Value) (w : World) (hu : SlQ 0 d w qs u) : Calls Tryz.prog 7 #[.int .i64 o, u] w (OfPost14 d o qs w) := by
  have HC : Hid _ := check_14 d o qs u w hu
  have HU : Hid (SlQ 0 d w qs u) := hu
  have HPe : Hid (ofErr d o (qs.map trT) ≠ 0 → ∀ w', Below w.heap.size w w' → OfPost14 d o qs w (.returned (.tuple #[.pointer none, .int .i64 (ofErr d o (qs.map trT))])) w') := fun h w' hb => ⟨hb, .inl ⟨h, rfl⟩⟩
  have HPk : Hid (ofErr d o (qs.map trT) = 0 → ∀ t b w', Below w.heap.size w w' → MC w' o.toNat t b → (∀ y, y ∈ t.items ↔ y ∈ (kyd (cmpQ 16) (qs.length + 1) qs).map trT) → OfPost14 d o qs w (.returned (.tuple #[.pointer (some ⟨b, 0, none⟩), .int .i64 0])) w') := fun h t b w' hb h1 h2 => ⟨hb, .inr ⟨h, t, b, rfl, h1, h2⟩⟩
  have H0 : Hid (ofErr d o (qs.map trT) = 0 → (0 ≤ o ∧ o < 6) ∧ qs.length ≤ 65536 ∧ ∀ p ∈ qs, rightV d p.1.1 = true ∧ rightV d p.2.1 = true) := fun h => by
    unfold ofErr ordErr at h
    by_cases ho : o < 0 ∨ 6 ≤ o
    · rw [if_pos ho, if_pos (by decide)] at h; cases h
    · rw [if_neg ho, if_neg (by simp)] at h
      unfold pErr at h
      split at h
      · cases h
      · next hl =>
        rw [List.length_map] at hl
        split at h
        · next ha =>
          refine ⟨by omega, by omega, fun p hp => ?_⟩
          have h9 := List.all_eq_true.1 ha (trT p) (List.mem_map.2 ⟨p, hp, rfl⟩)
          simpa [okP, trT, Bool.and_eq_true] using h9
        · cases h
  obtain ⟨a, c, rfl, _⟩ := hu.slice
  generalize OfPost14 d o qs w = PO at *
  generalize ofErr d o (qs.map trT) = E at *
  clear hu
  go_enter Tryz.func7, Tryz.ntmps7
  go_wp2_with fail
  refine Calls.mono HC.out ?_
  rintro e w1 ⟨rfl, hb1⟩
  by_cases hE : E = 0
  · have HPk2 : Hid _ := HPk.out hE
    obtain ⟨ho, hlen, hr⟩ := H0.out hE
    subst hE
    clear HPk HPe
    obtain ⟨q, rfl⟩ : ∃ q : Nat, o = q := ⟨o.toNat, by omega⟩
    obtain ⟨hs16, hr16⟩ := slq_canon HU.out hr
    have HS : Hid _ := sorted_14 q (by omega) qs _ w1 (hs16.keeps hb1) hlen (fun p hp => (hr16 p hp).1)
    have HR : Hid (∀ p ∈ qs, Good 16 p.1.1 ∧ Good 16 p.2.1) := fun p hp => ⟨⟨(hr16 p hp).1, Dp.of_lies 16 w p.1.1 p.1.2 (hs16.good p hp).1.1⟩, ⟨(hr16 p hp).2, Dp.of_lies 16 w p.2.1 p.2.2 (hs16.good p hp).2.1⟩⟩
    have hq6 : q < 6 := by omega
    clear HC H0 HU hr hs16 hr16
    go_wp2_with fail
    refine Calls.mono HS.out ?_
    rintro e w2 ⟨v2, rs, rfl, hs2, hl2, hm2, hri2, hme2, hg2⟩
    have hb2 : Below w.heap.size w w2 := hb1.trans (hg2.mono hb1.size)
    obtain ⟨a2, c2, rfl, _⟩ := hs2.slice
    have HCs : Hid _ := copies_14 rs _ w2 (hs2.mono (Nat.zero_le _)) hl2 (fun p hp => ⟨(HR.out p (hm2 p hp)).1.1, (HR.out p (hm2 p hp)).2.1⟩)
    have HRi : Hid (RT.Rises (byK q) (rs.map trT) ∧ (∀ y, y ∈ rs.map trT ↔ y ∈ (kyd (cmpQ 16) (qs.length + 1) qs).map trT) ∧ rs.length ≤ 65536 ∧ ∀ y ∈ rs.map trT, Good 16 y.1 ∧ Good 16 y.2) := ⟨hri2, hme2, hl2, fun y hy => by
      obtain ⟨p, hp, rfl⟩ := List.mem_map.1 hy
      exact HR.out p (hm2 p hp)⟩
    obtain ⟨RL, hRL⟩ : ∃ RL, RL = rs.map trT := ⟨_, rfl⟩
    have HRLl : Hid (RL.length = rs.length) := by show _ = _; rw [hRL, List.length_map]
    rw [← hRL] at HCs HRi
    clear hs2 hm2 hri2 hme2 hg2 HS HR hRL
    generalize rs.length = n2 at *
    go_wp2_with fail
    refine Calls.mono HCs.out ?_
    rintro e w3 ⟨v3, ps, rfl, hps, hs3, hn3, hg3⟩
    have hb3 : Below w.heap.size w w3 := hb2.trans (hg3.mono hb2.size)
    obtain ⟨a3, c3, rfl, _⟩ := hs3.slice
    have Hpl : Hid (ps.length = RL.length) := by show _ = _; rw [← hps, List.length_map]
    have HG : Hid _ := grown_14 TT 16 ps _ w3 (hs3.mono (Nat.zero_le _)) (fun p hp => ⟨⟨(LiesX.of_b (hn3 p hp).1.1).mono (fun _ _ => trivial), (hn3 p hp).1.2⟩, ⟨(LiesX.of_b (hn3 p hp).2.1).mono (fun _ _ => trivial), (hn3 p hp).2.2⟩⟩) (by have := Hpl.out; have := HRLl.out; have := HRi.out.2.2.1; omega)
    have hG2 := HG.out
    rw [hps] at hG2
    have HG : Hid (Calls Tryz.prog 36 #[.slice a3 ps.length c3] w3 (GrownPost TT 16 RL w3)) := hG2
    clear hs3 hn3 hg3 HCs hG2 hps
    generalize ps.length = n3 at *
    go_wp2_with fail
    refine Calls.mono HG.out ?_
    rintro e w4 ⟨hg4, t, p4, rfl, hn4, hi4, hw4, hbl4⟩
    have hb4 : Below w.heap.size w w4 := hb3.trans (hg4.mono hb3.size)
    have hbA : Below w4.heap.size w4 (w4.alloc (.cells #[.int .i64 (q : Int), .pointer p4] 75)) := ((Grew.refl w4).alloc _).below
    have HE : Hid (PO (.returned (.tuple #[.pointer (some ⟨w4.heap.size, 0, none⟩), .int .i64 0])) (w4.alloc (.cells #[.int .i64 (q : Int), .pointer p4] 75))) := by
      refine HPk2.out t w4.heap.size _ (hb4.trans (hbA.mono hb4.size)) ⟨by simp, ⟨p4, by simp, hn4.keeps hbA⟩, hw4, hbl4, hq6, ?_, ?_, ?_⟩ ?_
      · rw [hi4]; exact HRi.out.2.2.2
      · rw [hi4]; exact HRi.out.1
      · rw [RT.size_items, hi4, HRLl.out]; exact HRi.out.2.2.1
      · rw [hi4]; exact HRi.out.2.1
    clear hn4 hi4 hw4 hbl4 hg4 HG
    go_wp2_with fail
    first | exact HE.out | (go_ret2; exact HE.out)
  · have HE : Hid (PO (.returned (.tuple #[.pointer none, .int .i64 E])) w1) := HPe.out hE w1 hb1
    clear HC H0 HPe HPk
    go_wp2_with fail
    first | exact HE.out | (go_ret2; exact HE.out)

end Go.Proofs.YtfoaekbnpioinabGreat

namespace Go.Proofs.YtfoaekbnpioinabGreat
open Go.RowKit Go.Shelf

set_option maxRecDepth 100000 in
set_option maxHeartbeats 4000000 in
theorem mpairs_14 {w : World} {q : Nat} {t : RT PT} {b : Nat} (h : MC w q t b) : Calls Tryz.prog 17 #[.pointer (some ⟨b, 0, none⟩)] w (CopiesPost t.items w) := by
  have HK : Hid _ := kept_14 h
  have HR : Hid (∀ x ∈ t.items, Good 16 x.1 ∧ Good 16 x.2) := h.right
  have HZ : Hid (t.items.length ≤ 65536) := by show _ ≤ _; rw [← RT.size_items]; exact h.size
  clear h
  go_enter Tryz.func17, Tryz.ntmps17
  go_wp2_with fail
  refine Calls.mono HK.out ?_
  rintro e w1 ⟨v, rfl, ⟨qs, hq, ho, hg⟩, hb⟩
  have hl : qs.length = t.items.length := by rw [← hq, List.length_map]
  have hs : SlQ w.heap.size 16 w1 qs v := SlQ.of_own rfl ho (fun p hp => (hg p hp).keeps hb) (by have := HZ.out; omega)
  obtain ⟨a, c, rfl, _⟩ := hs.slice
  have hc := copies_14 qs _ w1 (hs.mono (Nat.zero_le _)) (by have := HZ.out; omega) (fun p hp => by
    have h9 := HR.out (trT p) (by rw [← hq]; exact List.mem_map.2 ⟨p, hp, rfl⟩)
    exact ⟨h9.1.1, h9.2.1⟩)
  rw [hq] at hc
  have HC : Hid _ := hc
  have HP : Hid (∀ e w', CopiesPost t.items w1 e w' → CopiesPost t.items w e w') := fun e w' ⟨v, rs, h1, h2, h3, h4, h5⟩ => ⟨v, rs, h1, h2, h3.mono hb.size, fun p hp => (h4 p hp).lower hb.size, hb.trans (h5.mono hb.size)⟩
  clear hc hs ho hg HK HR hq hl
  generalize t.items = TI at *
  generalize qs.length = n at *
  go_wp2_with fail
  refine Calls.mono HC.out ?_
  rintro e w2 hx
  obtain ⟨v2, e2⟩ : ∃ v, e = .returned v := by obtain ⟨v, _, h1, _⟩ := hx; exact ⟨v, h1⟩
  subst e2
  have HE : Hid (CopiesPost TI w (.returned v2) w2) := HP.out _ _ hx
  clear hx
  go_wp2_with fail
  first | (go_ret; exact HE.out) | exact HE.out

end Go.Proofs.YtfoaekbnpioinabGreat

namespace Go.Proofs.YtfoaekbnpioinabGreat
open Go.RowKit Go.Shelf

/-- What copies tells: in which block the row lies, and that the lists lie behind it. -/
def CopiesX (l : List PT) (w : World) (e : Ending) (w' : World) : Prop := ∃ g qs, e = .returned (.slice (some ⟨g, 0, none⟩) qs.length qs.length) ∧ qs.map trT = l ∧ w.heap.size ≤ g ∧ g < w'.heap.size ∧ QAt w' g 0 qs ∧ (∀ p ∈ qs, NewQ (g + 1) w' p) ∧ Below w.heap.size w w'

set_option maxRecDepth 100000 in
set_option maxHeartbeats 8000000 in
theorem copies_x (qs : List PP) (v : Value) (w : World) (hv : SlQ 0 16 w qs v) (hlen : qs.length ≤ 65536) (hr : ∀ p ∈ qs, rightV 16 p.1.1 = true ∧ rightV 16 p.2.1 = true) :
    Calls Tryz.prog 37 #[v] w (CopiesX (qs.map trT) w) := by
  have HS : Hid (SlQ 0 16 w qs v) := hv
  obtain ⟨a0, c0, rfl, _⟩ := hv.slice
  have HR : Hid _ := hr
  obtain ⟨M, hMs, hmk⟩ := make_pairs qs.length hlen
  have HMs : Hid (M.size = qs.length * 8) := hMs
  obtain ⟨n, hn⟩ : ∃ n, n = qs.length := ⟨_, rfl⟩
  have HN : Hid (n = qs.length) := hn
  rw [← hn] at hmk hlen HMs ⊢
  clear hMs hv hr hn
  go_enter Tryz.func37, Tryz.ntmps37
  go_wp2_with fail
  go_loopg [11] n (fun q i wr => ∃ (j : Nat) (ps : List PP), i = .int .i64 (j : Int) ∧ j ≤ n ∧ q = n - j ∧ Hid (ps.length = j ∧ ps.map trT = (qs.take j).map trT) ∧ Hid (CpQ w.heap.size n wr ps) ∧ Hid (Below w.heap.size w wr))
  case atStart =>
    refine ⟨0, [], rfl, by omega, by omega, ⟨rfl, rfl⟩, ⟨QAt.nil _ _ _, (fun p hp => by cases hp), (fun k hk => ?_), (by simp)⟩, (Below.refl _ _).alloc (Nat.le_refl _) _⟩
    have hk' : k < M.size := by rw [HMs.out]; exact hk
    simp [hk']
  case round =>
    obtain ⟨j, ps, rfl, hj, hk, Hps, HC, HB⟩ := hrel
    have Hk : Hid _ := hk
    clear hk hmk
    have hbw := HB.out
    by_cases hlt : j < n
    · have hlt' : j < qs.length := by have := HN.out; omega
      obtain ⟨b1, o1, c1', hv1, _, hq, hgq⟩ := HS.out.full (fun e => by rw [e] at hlt'; cases hlt')
      have ha1 : a0 = some ⟨b1, o1, none⟩ := by injection hv1
      subst ha1
      have Ex := hq.at j hlt'
      have gx := hgq qs[j] (List.getElem_mem hlt')
      have rx := HR.out qs[j] (List.getElem_mem hlt')
      have Htk : Hid ((qs.take (j + 1)).map trT = (qs.take j).map trT ++ [trT qs[j]]) := by
        show _ = _
        rw [List.take_succ_eq_append_getElem hlt', List.map_append]; rfl
      generalize qs[j] = x at *
      obtain ⟨⟨t1, u1⟩, ⟨t2, u2⟩⟩ := x
      obtain ⟨a1, c1, hu1, _⟩ := Lies.slice gx.1.1
      obtain ⟨a2, c2, hu2, _⟩ := Lies.slice gx.2.1
      simp only at hu1 hu2
      subst hu1 hu2
      obtain ⟨p0, p1, p2, p3, p4, p5, p6, p7⟩ := Ex.keeps hbw
      simp only at p0 p1 p2 p3 p4 p5 p6 p7
      have hl1 : b1 < wr.heap.size := cell_lt p0
      have hws2 : w.heap.size ≤ wr.heap.size := hbw.size
      have hG := HC.out.lt
      have hbA : ∀ o, Below w.heap.size w (wr.alloc o) := fun o => hbw.alloc hws2 o
      have HCp : Hid (∀ o, Calls Tryz.prog 60 #[.agg #[.int .i64 t1.kind, .int .i64 t1.num, .string t1.text, (.slice a1 t1.items.length c1), .int .i64 t2.kind, .int .i64 t2.num, .string t2.text, (.slice a2 t2.items.length c2)]] (wr.alloc o) (CopiedPost (t1, t2) (wr.alloc o))) := fun o => copied_14 (t1, t2) _ _ (wr.alloc o) (Lies.keeps (hbA o) _ _ _ gx.1.1) (Lies.keeps (hbA o) _ _ _ gx.2.1) rx
      have HTx : Hid (t1.text.size ≤ 9223372036854775807 ∧ t2.text.size ≤ 9223372036854775807) := ⟨gx.1.2, gx.2.2⟩
      have HBA : Hid _ := hbA
      have hji : (j : Int) < (n : Nat) := by omega
      clear gx rx Ex hq hgq hv1 hbA
      go_wp2_with fail
      refine Calls.mono (HCp.out _) ?_
      rintro e w1 ⟨k5, v5, rfl, hl1', hl2', hg⟩
      obtain ⟨b1', d1, rfl, _⟩ := LiesB.slice hl1'
      obtain ⟨b2', d2, rfl, _⟩ := LiesB.slice hl2'
      have hb2 : Below w.heap.size w w1 := (HBA.out _).trans (hg.mono (HBA.out _).size)
      have HC1 : Hid (CpQ w.heap.size n w1 ps) := (HC.out.keeps ((Below.refl _ _).alloc (Nat.le_refl _) _)).keeps hg
      have hpl := Hps.out.1
      have HNw : Hid (NewQ (w.heap.size + 1) w1 ((t1, .slice b1' t1.items.length d1), (t2, .slice b2' t2.items.length d2))) := ⟨⟨LiesB.lower14 (by simp; omega) _ _ _ hl1', HTx.out.1⟩, ⟨LiesB.lower14 (by simp; omega) _ _ _ hl2', HTx.out.2⟩⟩
      have hput := HC1.out.put _ HNw.out (by omega)
      rw [hpl] at hput
      have Hput : Hid _ := hput
      clear hg p0 p1 p2 p3 p4 p5 p6 p7 hl1' hl2' HC HCp hput
      obtain ⟨y0, s0⟩ := Option.isSome_iff_exists.1 (HC1.out.there (j * 8) (by omega)).1
      obtain ⟨y1, s1⟩ := Option.isSome_iff_exists.1 (HC1.out.there (j * 8 + 1) (by omega)).1
      obtain ⟨y2, s2⟩ := Option.isSome_iff_exists.1 (HC1.out.there (j * 8 + 2) (by omega)).1
      obtain ⟨y3, s3⟩ := Option.isSome_iff_exists.1 (HC1.out.there (j * 8 + 3) (by omega)).1
      obtain ⟨y4, s4⟩ := Option.isSome_iff_exists.1 (HC1.out.there (j * 8 + 4) (by omega)).1
      obtain ⟨y5, s5⟩ := Option.isSome_iff_exists.1 (HC1.out.there (j * 8 + 5) (by omega)).1
      obtain ⟨y6, s6⟩ := Option.isSome_iff_exists.1 (HC1.out.there (j * 8 + 6) (by omega)).1
      obtain ⟨y7, s7⟩ := Option.isSome_iff_exists.1 (HC1.out.there (j * 8 + 7) (by omega)).1
      have z0 := (HC1.out.there (j * 8) (by omega)).2
      have z1 := (HC1.out.there (j * 8 + 1) (by omega)).2
      have z2 := (HC1.out.there (j * 8 + 2) (by omega)).2
      have z3 := (HC1.out.there (j * 8 + 3) (by omega)).2
      have z4 := (HC1.out.there (j * 8 + 4) (by omega)).2
      have z5 := (HC1.out.there (j * 8 + 5) (by omega)).2
      have z6 := (HC1.out.there (j * 8 + 6) (by omega)).2
      have z7 := (HC1.out.there (j * 8 + 7) (by omega)).2
      have HB2 : Hid (Below w.heap.size w (w1.setCells w.heap.size (j * 8) (encQ ((t1, .slice b1' t1.items.length d1), (t2, .slice b2' t2.items.length d2))))) :=
        (((((((hb2.setCell (p := ⟨w.heap.size, j * 8, none⟩) (Nat.le_refl _) _).setCell (p := ⟨w.heap.size, j * 8 + 1, none⟩) (Nat.le_refl _) _).setCell (p := ⟨w.heap.size, j * 8 + 1 + 1, none⟩) (Nat.le_refl _) _).setCell (p := ⟨w.heap.size, j * 8 + 1 + 1 + 1, none⟩) (Nat.le_refl _) _).setCell (p := ⟨w.heap.size, j * 8 + 1 + 1 + 1 + 1, none⟩) (Nat.le_refl _) _).setCell (p := ⟨w.heap.size, j * 8 + 1 + 1 + 1 + 1 + 1, none⟩) (Nat.le_refl _) _).setCell (p := ⟨w.heap.size, j * 8 + 1 + 1 + 1 + 1 + 1 + 1, none⟩) (Nat.le_refl _) _).setCell (p := ⟨w.heap.size, j * 8 + 1 + 1 + 1 + 1 + 1 + 1 + 1, none⟩) (Nat.le_refl _) _
      have Hp2 : Hid ((ps ++ [((t1, Value.slice b1' t1.items.length d1), (t2, Value.slice b2' t2.items.length d2))]).length = j + 1 ∧ (ps ++ [((t1, Value.slice b1' t1.items.length d1), (t2, Value.slice b2' t2.items.length d2))]).map trT = (qs.take (j + 1)).map trT) := by
        refine ⟨by simp [hpl], ?_⟩
        rw [List.map_append, Hps.out.2, Htk.out]; rfl
      clear hpl
      go_wp2_with fail
      go_roundg (n - (j + 1))
      case measure => have := Hk.out; omega
      case rel => exact ⟨j + 1, _, by go_num, by omega, rfl, Hp2, Hput, HB2⟩
    · have hjl : j = n := by omega
      have HE : Hid (CopiesX (qs.map trT) w (.returned (.slice (some ⟨w.heap.size, 0, none⟩) n n)) wr) := by
        refine ⟨w.heap.size, ps, by rw [Hps.out.1, hjl], ?_, Nat.le_refl _, HC.out.lt, HC.out.row, HC.out.lists, hbw⟩
        rw [Hps.out.2, hjl, HN.out, List.take_length]
      have hji : ¬ (j : Int) < (n : Nat) := by omega
      go_wp2_with fail
      go_ret
      exact HE.out

set_option maxRecDepth 100000 in
set_option maxHeartbeats 4000000 in
theorem mpairs_x {w : World} {q : Nat} {t : RT PT} {b : Nat} (h : MC w q t b) : Calls Tryz.prog 17 #[.pointer (some ⟨b, 0, none⟩)] w (CopiesX t.items w) := by
  have HK : Hid _ := kept_14 h
  have HR : Hid (∀ x ∈ t.items, Good 16 x.1 ∧ Good 16 x.2) := h.right
  have HZ : Hid (t.items.length ≤ 65536) := by show _ ≤ _; rw [← RT.size_items]; exact h.size
  clear h
  go_enter Tryz.func17, Tryz.ntmps17
  go_wp2_with fail
  refine Calls.mono HK.out ?_
  rintro e w1 ⟨v, rfl, ⟨qs, hq, ho, hg⟩, hb⟩
  have hl : qs.length = t.items.length := by rw [← hq, List.length_map]
  have hs : SlQ w.heap.size 16 w1 qs v := SlQ.of_own rfl ho (fun p hp => (hg p hp).keeps hb) (by have := HZ.out; omega)
  obtain ⟨a, c, rfl, _⟩ := hs.slice
  have hc := copies_x qs _ w1 (hs.mono (Nat.zero_le _)) (by have := HZ.out; omega) (fun p hp => by
    have h9 := HR.out (trT p) (by rw [← hq]; exact List.mem_map.2 ⟨p, hp, rfl⟩)
    exact ⟨h9.1.1, h9.2.1⟩)
  rw [hq] at hc
  have HC : Hid _ := hc
  have HP : Hid (∀ e w', CopiesX t.items w1 e w' → CopiesX t.items w e w') := fun e w' ⟨g, rs, h1, h2, h3, h4, h5, h6, h7⟩ => ⟨g, rs, h1, h2, Nat.le_trans hb.size h3, h4, h5, h6, hb.trans (h7.mono hb.size)⟩
  clear hc hs ho hg HK HR hq hl
  generalize t.items = TI at *
  generalize qs.length = n at *
  go_wp2_with fail
  refine Calls.mono HC.out ?_
  rintro e w2 hx
  obtain ⟨v2, e2⟩ : ∃ v, e = .returned v := by obtain ⟨g, rs, h1, _⟩ := hx; exact ⟨_, h1⟩
  subst e2
  have HE : Hid (CopiesX TI w (.returned v2) w2) := HP.out _ _ hx
  clear hx
  go_wp2_with fail
  first | (go_ret; exact HE.out) | exact HE.out

end Go.Proofs.YtfoaekbnpioinabGreat

namespace Go.Proofs.YtfoaekbnpioinabGreat
open Go.RowKit Go.Shelf

/-- A number's value, a text's. -/
abbrev numV (n : Int) : VT := ⟨2, n, ⟨#[]⟩, []⟩
abbrev txtV (s : ByteArray) : VT := ⟨3, 0, s, []⟩

theorem text_14 (s : ByteArray) (w : World) : Calls Tryz.prog 42 #[.string s] w fun e w' => e = .returned (.agg #[.int .i64 3, .int .i64 0, .string s, .slice none 0 0]) ∧ Below w.heap.size w w' := by
  go_enter Tryz.func42, Tryz.ntmps42
  go_wp2_with fail
  exact bodyPost_ret (v := .agg #[.int .i64 3, .int .i64 0, .string s, .slice none 0 0]) (by simp [results, Tryz.results42, go_sem]) rfl ⟨rfl, ((Grew.refl _).alloc _).below⟩

/-- The two pairs of the little program. -/
def twoQ : List PP := [((numV 1, .slice none 0 0), (txtV ⟨#[97]⟩, .slice none 0 0)), ((numV 2, .slice none 0 0), (txtV ⟨#[98]⟩, .slice none 0 0))]
def twoT : List PT := [(numV 2, txtV ⟨#[98]⟩), (numV 1, txtV ⟨#[97]⟩)]

theorem two_slq (w : World) (T : Nat) : SlQ 0 16 (w.alloc (.cells #[.int .i64 2, .int .i64 1, .string ⟨#[]⟩, .slice none 0 0, .int .i64 3, .int .i64 0, .string ⟨#[97]⟩, .slice none 0 0, .int .i64 2, .int .i64 2, .string ⟨#[]⟩, .slice none 0 0, .int .i64 3, .int .i64 0, .string ⟨#[98]⟩, .slice none 0 0] T)) twoQ (.slice (some ⟨w.heap.size, 0, none⟩) 2 2) := by
  refine ⟨_, 2, rfl, by decide, by decide, fun _ => ⟨w.heap.size, 0, rfl, Nat.zero_le _, fun j u hj => ?_⟩, fun p hp => ?_⟩
  · have e : twoQ.flatMap encQ = [.int .i64 2, .int .i64 1, .string ⟨#[]⟩, .slice none 0 0, .int .i64 3, .int .i64 0, .string ⟨#[97]⟩, .slice none 0 0, .int .i64 2, .int .i64 2, .string ⟨#[]⟩, .slice none 0 0, .int .i64 3, .int .i64 0, .string ⟨#[98]⟩, .slice none 0 0] := rfl
    rw [e] at hj
    have h9 : (w.alloc (.cells #[.int .i64 2, .int .i64 1, .string ⟨#[]⟩, .slice none 0 0, .int .i64 3, .int .i64 0, .string ⟨#[97]⟩, .slice none 0 0, .int .i64 2, .int .i64 2, .string ⟨#[]⟩, .slice none 0 0, .int .i64 3, .int .i64 0, .string ⟨#[98]⟩, .slice none 0 0] T)).cell? ⟨w.heap.size, j, none⟩ = ([.int .i64 2, .int .i64 1, .string ⟨#[]⟩, .slice none 0 0, .int .i64 3, .int .i64 0, .string ⟨#[97]⟩, .slice none 0 0, .int .i64 2, .int .i64 2, .string ⟨#[]⟩, .slice none 0 0, .int .i64 3, .int .i64 0, .string ⟨#[98]⟩, .slice none 0 0] : List Value)[j]? := by simp
    rw [Nat.zero_add, h9]
    exact hj
  · have hz : ∀ d W, Lies d W [] (.slice none 0 0) := zero_lies
    rcases List.mem_cons.1 hp with rfl | hp
    · exact ⟨⟨hz _ _, by decide⟩, ⟨hz _ _, by decide⟩⟩
    · rw [List.mem_singleton.1 hp]
      exact ⟨⟨hz _ _, by decide⟩, ⟨hz _ _, by decide⟩⟩

theorem two_err : ofErr 16 1 (twoQ.map trT) = 0 := by kernel_rfl
theorem two_kyd : (kyd (cmpQ 16) (twoQ.length + 1) twoQ).map trT = [(numV 1, txtV ⟨#[97]⟩), (numV 2, txtV ⟨#[98]⟩)] := by kernel_rfl
theorem two_rises : RT.Rises (byK 1) twoT := by
  have h : byK 1 (numV 2, txtV ⟨#[98]⟩) (numV 1, txtV ⟨#[97]⟩) = -1 := by kernel_rfl
  refine List.Pairwise.cons (fun y hy => ?_) (List.pairwise_singleton _ _)
  rw [List.mem_singleton.1 hy, h]
  decide
theorem two_find : twoT.find? (fun a => decide (atK 1 (numV 1) a = 0)) = some (numV 1, txtV ⟨#[97]⟩) := by kernel_rfl
theorem one_right14 : rightV 16 (numV 1) = true := by kernel_rfl

theorem two_items {w : World} {t : RT PT} {b : Nat} (h : MC w 1 t b) (hm : ∀ y, y ∈ t.items ↔ y ∈ (kyd (cmpQ 16) (twoQ.length + 1) twoQ).map trT) : t.items = twoT := by
  refine RT.rises_eq (byK_cmp 1) _ _ h.rises two_rises fun y => ?_
  rw [hm y, two_kyd]
  unfold twoT
  simp only [List.mem_cons, List.not_mem_nil, or_false]
  exact Or.comm

set_option maxRecDepth 100000 in
set_option maxHeartbeats 8000000 in
theorem speaks14_any (w : World) : Calls Tryz.prog 9 #[] w fun e w' => e = .returned (.bool true) ∧ Below w.heap.size w w' := by
  have HI : Hid (∀ n W, Calls Tryz.prog 24 #[.int .i64 n] W fun e w' => e = .returned (.agg #[.int .i64 2, .int .i64 n, .string ⟨#[]⟩, .slice none 0 0]) ∧ Below W.heap.size W w') := fun n W => Calls.mono (int_any n W) fun _ _ h => ⟨h.1, h.2.below⟩
  have HO : Hid (∀ W T, Calls Tryz.prog 7 #[.int .i64 1, .slice (some ⟨W.heap.size, 0, none⟩) 2 2] (W.alloc (.cells #[.int .i64 2, .int .i64 1, .string ⟨#[]⟩, .slice none 0 0, .int .i64 3, .int .i64 0, .string ⟨#[97]⟩, .slice none 0 0, .int .i64 2, .int .i64 2, .string ⟨#[]⟩, .slice none 0 0, .int .i64 3, .int .i64 0, .string ⟨#[98]⟩, .slice none 0 0] T)) fun e w' => ∃ t b, e = .returned (.tuple #[.pointer (some ⟨b, 0, none⟩), .int .i64 0]) ∧ MC w' 1 t b ∧ t.items = twoT ∧ Below W.heap.size W w') := fun W T => by
    refine Calls.mono (mof_14 16 1 twoQ _ _ (two_slq W T)) ?_
    rintro e w' ⟨hb, ⟨hne, _⟩ | ⟨_, t, b, rfl, hm, hme⟩⟩
    · exact absurd two_err hne
    · exact ⟨t, b, rfl, hm, two_items hm hme, ((Grew.refl W).alloc _).below.trans (hb.mono (by simp))⟩
  go_enter Tryz.func9, Tryz.ntmps9
  go_wp2_with fail
  refine Calls.mono (HI.out _ _) ?_
  rintro e w1 ⟨rfl, hb1⟩
  go_wp2_with fail
  refine (text_14 _ _).mono ?_
  rintro e w2 ⟨rfl, hg2⟩
  have hb2 : Below w.heap.size w w2 := hb1.trans (hg2.mono hb1.size)
  clear hg2
  go_wp2_with fail
  refine Calls.mono (HI.out _ _) ?_
  rintro e w3 ⟨rfl, hg3⟩
  have hb3 : Below w.heap.size w w3 := hb2.trans (hg3.mono hb2.size)
  clear hg3
  go_wp2_with fail
  refine (text_14 _ _).mono ?_
  rintro e w4 ⟨rfl, hg4⟩
  have hb4 : Below w.heap.size w w4 := hb3.trans (hg4.mono hb3.size)
  clear hg4 hb1 hb2 hb3
  go_wp2_with fail
  refine Calls.mono (HO.out _ _) ?_
  rintro e w5 ⟨t, b, rfl, hm, hti, hg5⟩
  have hb5 : Below w.heap.size w w5 := hb4.trans (hg5.mono hb4.size)
  have HM : Hid (MC w5 1 t b) := hm
  have HTI : Hid (t.items = twoT) := hti
  have HP : Hid (Calls Tryz.prog 17 #[.pointer (some ⟨b, 0, none⟩)] w5 (CopiesPost twoT w5)) := by have := mpairs_14 hm; rwa [hti] at this
  clear hm hti hg5 hb4 HO
  go_wp2_with fail
  refine Calls.mono HP.out ?_
  rintro e w6 ⟨v6, ps, rfl, hps, hs6, _, hg6⟩
  have hb6 : Below w.heap.size w w6 := hb5.trans (hg6.mono hb5.size)
  have hpl : ps.length = 2 := by have := congrArg List.length hps; rw [List.length_map] at this; exact this
  obtain ⟨pb, po, pc, rfl, hpc, hq6, _⟩ := hs6.full (fun e => by rw [e] at hpl; cases hpl)
  rw [hpl] at hpc ⊢
  have c6 : w6.cell? ⟨pb, po + 1, none⟩ = some (.int .i64 2) := by
    have h9 := (hq6.at 0 (by omega)).2.1
    have e0 : trT ps[0] = (numV 2, txtV ⟨#[98]⟩) := by
      have h8 : (ps.map trT)[0]? = some (numV 2, txtV ⟨#[98]⟩) := by rw [hps]; rfl
      rw [List.getElem?_map, List.getElem?_eq_getElem (by omega)] at h8
      simpa using h8
    have e1 : ps[0].1.1 = numV 2 := congrArg Prod.fst e0
    rw [e1] at h9
    simpa using h9
  have HM6 : Hid (MC w6 1 t b) := HM.out.keeps hg6
  clear hps hs6 hg6 hpl hq6 HP HM hb5
  go_wp2_with fail
  refine Calls.mono (HI.out _ _) ?_
  rintro e w7 ⟨rfl, hg7⟩
  have hb7 : Below w.heap.size w w7 := hb6.trans (hg7.mono hb6.size)
  have c7 := cell_keeps hg7 c6
  have HM7 : Hid (MC w7 1 t b) := HM6.out.keeps hg7
  have HG : Hid (Calls Tryz.prog 43 #[.pointer (some ⟨b, 0, none⟩), .agg #[.int .i64 2, .int .i64 1, .string ⟨#[]⟩, .slice none 0 0]] w7 (GetPost14 (some (numV 1, txtV ⟨#[97]⟩)) 0 w7)) := by
    have h9 := get_right 16 b 1 t (numV 1) (.slice none 0 0) w7 HM7.out (zero_lies 16 w7) (by decide) one_right14
    have e9 : RT.find (atK 1 (numV 1)) t = some (numV 1, txtV ⟨#[97]⟩) := by
      rw [RT.find_eq (atK 1 (numV 1)) t (RT.Rises.falls (byK_cmp 1) HM7.out.rises (numV 1, numV 1)), HTI.out]
      exact two_find
    rw [e9] at h9
    exact h9
  clear hg7 c6 HM6 hb6
  go_wp2_with fail
  refine Calls.mono HG.out ?_
  rintro e w8 ⟨hg8, hx | ⟨x, u, hx, rfl, hlu⟩⟩
  · cases hx.1
  injection hx with hx
  subst hx
  obtain ⟨au, cu, hu, _⟩ := LiesB.slice hlu
  subst hu
  clear hlu
  have hb8 : Below w.heap.size w w8 := hb7.trans (hg8.mono hb7.size)
  have c8 := cell_keeps hg8 c7
  have HM8 : Hid (MC w8 1 t b) := HM7.out.keeps hg8
  have hh1 : 1 ≤ t.high := by
    have h9 := high_zero14 t
    have h8 : t.size = 2 := by rw [RT.size_items, HTI.out]; rfl
    omega
  have Hh1 : Hid (1 ≤ t.high) := hh1
  have HHt : Hid (∀ o, Calls Tryz.prog 18 #[.pointer (some ⟨b, 0, none⟩)] (w8.alloc o) fun e w' => e = .returned (.int .i64 (t.high : Nat)) ∧ Below (w8.alloc o).heap.size (w8.alloc o) w') := fun o => mheight_14 (HM8.out.keeps ((Grew.refl w8).alloc o).below)
  have hlt8 : pb < w8.heap.size := cell_lt c8
  have hne8 : ¬ pb = w8.heap.size := by omega
  have hhi : (1 : Int) ≤ (t.high : Nat) := by omega
  generalize t.high = H at *
  clear hg8 c7 HM7 hb7 HG HTI hh1
  go_wp2_with fail
  refine Calls.mono (HHt.out _) ?_
  rintro e w9 ⟨rfl, hg9⟩
  have hb9 : Below w.heap.size w w9 := (hb8.trans (((Grew.refl w8).alloc _).below.mono hb8.size)).trans (hg9.mono (hb8.trans (((Grew.refl w8).alloc _).below.mono hb8.size)).size)
  clear hg9
  go_wp2_with fail
  go_ret
  exact ⟨rfl, hb9⟩

end Go.Proofs.YtfoaekbnpioinabGreat

namespace Go.Proofs.YtfoaekbnpioinabGreat
open Go.RowKit

/-- What a comparison of pairs does that is handed in. -/
def CmpC (X : Nat → Prop) (d f : Nat) (by0 : Option Addr) (cmp : PT → PT → Int) (P : PT → Prop) (w : World) : Prop :=
  ∀ V, Below w.heap.size w V → ∀ (x y : PT) (ku vu ky vy : Value), P x → P y → (LiesX X d V x.1.items ku ∧ x.1.text.size ≤ 9223372036854775807) → (LiesX X d V x.2.items vu ∧ x.2.text.size ≤ 9223372036854775807) → (LiesX X d V y.1.items ky ∧ y.1.text.size ≤ 9223372036854775807) → (LiesX X d V y.2.items vy ∧ y.2.text.size ≤ 9223372036854775807) →
    Calls Tryz.prog f #[.agg #[.int .i64 x.1.kind, .int .i64 x.1.num, .string x.1.text, ku, .int .i64 x.2.kind, .int .i64 x.2.num, .string x.2.text, vu], .agg #[.int .i64 y.1.kind, .int .i64 y.1.num, .string y.1.text, ky, .int .i64 y.2.kind, .int .i64 y.2.num, .string y.2.text, vy], .pointer by0] V fun e w' => e = .returned (.int .i64 (cmp x y)) ∧ Below V.heap.size V w'

theorem CmpC.keeps {X : Nat → Prop} {d f : Nat} {by0 : Option Addr} {cmp : PT → PT → Int} {P : PT → Prop} {w w' : World} (h : CmpC X d f by0 cmp P w) (hb : Below w.heap.size w w') : CmpC X d f by0 cmp P w' := fun V hV => h V (hb.trans (hV.mono hb.size))

set_option maxRecDepth 100000 in
set_option maxHeartbeats 8000000 in
theorem union1_core (f : Nat) (eg : ∀ args w, (callFunc f args).run Tryz.prog w = .ok (.enter f args) w) (by0 : Option Addr) (b cb tb : Nat) (pl pr : Option Addr) (x y : PT) (ku vu ky vy : Value) (c : Bool) (S H K : Nat) (R : Int) (w : World) (hcb : w.cell? ⟨cb, 0, none⟩ = some (.func (.func f) #[] #[.pointer by0])) (htb : w.cell? ⟨tb, 0, none⟩ = some (.pointer (some ⟨b, 0, none⟩))) (hn : NCells w b pl pr y ky vy c S H K)
    (hc : ∀ V, Below w.heap.size w V → Calls Tryz.prog f #[.agg #[.int .i64 y.1.kind, .int .i64 y.1.num, .string y.1.text, ky, .int .i64 y.2.kind, .int .i64 y.2.num, .string y.2.text, vy], .agg #[.int .i64 x.1.kind, .int .i64 x.1.num, .string x.1.text, ku, .int .i64 x.2.kind, .int .i64 x.2.num, .string x.2.text, vu], .pointer by0] V fun e w' => e = .returned (.int .i64 R) ∧ Below V.heap.size V w') :
    Calls Tryz.prog 87 #[.agg #[.int .i64 x.1.kind, .int .i64 x.1.num, .string x.1.text, ku, .int .i64 x.2.kind, .int .i64 x.2.num, .string x.2.text, vu], .pointer (some ⟨cb, 0, none⟩), .pointer (some ⟨tb, 0, none⟩)] w fun e w' => e = .returned (.int .i64 R) ∧ Below w.heap.size w w' := by
  have HC : Hid _ := hc
  obtain ⟨c0, c1, c2, c3, c4, c5, c6, c7, c8, c9, _, _, _, _⟩ := hn
  have hb0 : ∀ o, Below w.heap.size w (w.alloc o) := fun o => ((Grew.refl w).alloc o).below
  have h1 := cell_lt hcb
  have h2 := cell_lt htb
  have h3 := cell_lt c0
  simp only at h1 h2 h3
  clear hc
  go_enter Tryz.func87, Tryz.ntmps87
  go_wp2_with fail
  obtain ⟨W0, hW0⟩ : ∃ W0, W0 = w.alloc (.cells #[.int .i64 x.1.kind, .int .i64 x.1.num, .string x.1.text, ku, .int .i64 x.2.kind, .int .i64 x.2.num, .string x.2.text, vu] 52) := ⟨_, rfl⟩
  rw [← hW0]
  have hb1 : Below w.heap.size w W0 := by rw [hW0]; exact hb0 _
  have x0 : W0.cell? ⟨w.heap.size, 0, none⟩ = some (.int .i64 x.1.kind) := by rw [hW0]; simp
  have x1 : W0.cell? ⟨w.heap.size, 1, none⟩ = some (.int .i64 x.1.num) := by rw [hW0]; simp
  have x2 : W0.cell? ⟨w.heap.size, 2, none⟩ = some (.string x.1.text) := by rw [hW0]; simp
  have x3 : W0.cell? ⟨w.heap.size, 3, none⟩ = some (ku) := by rw [hW0]; simp
  have x4 : W0.cell? ⟨w.heap.size, 4, none⟩ = some (.int .i64 x.2.kind) := by rw [hW0]; simp
  have x5 : W0.cell? ⟨w.heap.size, 5, none⟩ = some (.int .i64 x.2.num) := by rw [hW0]; simp
  have x6 : W0.cell? ⟨w.heap.size, 6, none⟩ = some (.string x.2.text) := by rw [hW0]; simp
  have x7 : W0.cell? ⟨w.heap.size, 7, none⟩ = some (vu) := by rw [hW0]; simp
  have c0 := cell_keeps hb1 c0; have c1 := cell_keeps hb1 c1; have c2 := cell_keeps hb1 c2; have c3 := cell_keeps hb1 c3; have c4 := cell_keeps hb1 c4; have c5 := cell_keeps hb1 c5; have c6 := cell_keeps hb1 c6; have c7 := cell_keeps hb1 c7; have c8 := cell_keeps hb1 c8; have c9 := cell_keeps hb1 c9; have hcb := cell_keeps hb1 hcb; have htb := cell_keeps hb1 htb
  clear hW0 hb0
  go_region_held3 (fun w' => w'.cell? ⟨b, 2, none⟩ = some (.int .i64 y.1.kind) ∧ w'.cell? ⟨b, 3, none⟩ = some (.int .i64 y.1.num) ∧ w'.cell? ⟨b, 4, none⟩ = some (.string y.1.text) ∧ w'.cell? ⟨b, 5, none⟩ = some (ky) ∧ w'.cell? ⟨b, 6, none⟩ = some (.int .i64 y.2.kind) ∧ w'.cell? ⟨b, 7, none⟩ = some (.int .i64 y.2.num) ∧ w'.cell? ⟨b, 8, none⟩ = some (.string y.2.text) ∧ w'.cell? ⟨b, 9, none⟩ = some (vy) ∧ w'.cell? ⟨cb, 0, none⟩ = some (.func (.func f) #[] #[.pointer by0]) ∧ w'.cell? ⟨tb, 0, none⟩ = some (.pointer (some ⟨b, 0, none⟩)) ∧ w'.cell? ⟨w.heap.size, 0, none⟩ = some (.int .i64 x.1.kind) ∧ w'.cell? ⟨w.heap.size, 1, none⟩ = some (.int .i64 x.1.num) ∧ w'.cell? ⟨w.heap.size, 2, none⟩ = some (.string x.1.text) ∧ w'.cell? ⟨w.heap.size, 3, none⟩ = some (ku) ∧ w'.cell? ⟨w.heap.size, 4, none⟩ = some (.int .i64 x.2.kind) ∧ w'.cell? ⟨w.heap.size, 5, none⟩ = some (.int .i64 x.2.num) ∧ w'.cell? ⟨w.heap.size, 6, none⟩ = some (.string x.2.text) ∧ w'.cell? ⟨w.heap.size, 7, none⟩ = some (vu)) (go_keep)
    (first | (go_at_fn f; (with_reducible refine Calls.mono (HC.out _ hb1.drew) ?_); rintro e w2 ⟨rfl, hg⟩; have hg2 : Below W0.heap.size W0 w2 := (Below.refl _ _).drew.trans hg; have hb2 : Below w.heap.size w w2 := hb1.trans (hg2.mono hb1.size); have c2 := cell_keeps hg2 c2; have c3 := cell_keeps hg2 c3; have c4 := cell_keeps hg2 c4; have c5 := cell_keeps hg2 c5; have c6 := cell_keeps hg2 c6; have c7 := cell_keeps hg2 c7; have c8 := cell_keeps hg2 c8; have c9 := cell_keeps hg2 c9; have hcb := cell_keeps hg2 hcb; have htb := cell_keeps hg2 htb; have x0 := cell_keeps hg2 x0; have x1 := cell_keeps hg2 x1; have x2 := cell_keeps hg2 x2; have x3 := cell_keeps hg2 x3; have x4 := cell_keeps hg2 x4; have x5 := cell_keeps hg2 x5; have x6 := cell_keeps hg2 x6; have x7 := cell_keeps hg2 x7; clear hg hg2))
  all_goals (first | (go_ret; exact ⟨rfl, hb2⟩) | (go_wp2_with fail; go_ret; exact ⟨rfl, hb2⟩))

set_option maxRecDepth 100000 in
set_option maxHeartbeats 4000000 in
theorem union_nilA (q : Option Addr) (g : Value) (hg : ∃ f l, g = .func f #[] l) (w : World) : Calls Tryz.prog 46 #[.pointer none, .pointer q, g] w fun e w' => e = .returned (.pointer q) ∧ Below w.heap.size w w' := by
  obtain ⟨f, l, rfl⟩ := hg
  have hb : ∀ A B, Below w.heap.size w ((w.alloc A).alloc B) := fun A B => (((Grew.refl w).alloc A).alloc B).below
  go_enter Tryz.func46, Tryz.ntmps46
  go_wp2_with fail
  go_ret
  exact ⟨rfl, hb _ _⟩

set_option maxRecDepth 100000 in
set_option maxHeartbeats 4000000 in
theorem union_nilB (p : Addr) (g : Value) (hg : ∃ f l, g = .func f #[] l) (w : World) : Calls Tryz.prog 46 #[.pointer (some p), .pointer none, g] w fun e w' => e = .returned (.pointer (some p)) ∧ Below w.heap.size w w' := by
  obtain ⟨f, l, rfl⟩ := hg
  have hb : ∀ A B, Below w.heap.size w ((w.alloc A).alloc B) := fun A B => (((Grew.refl w).alloc A).alloc B).below
  go_enter Tryz.func46, Tryz.ntmps46
  go_wp2_with fail
  go_ret
  exact ⟨rfl, hb _ _⟩

set_option maxRecDepth 100000 in
set_option maxHeartbeats 16000000 in
theorem union_node (X : Nat → Prop) (d f : Nat) (by0 : Option Addr) (w : World) (p : Addr) (b : Nat) (pl pr : Option Addr) (y : PT) (ky vy : Value) (c : Bool) (S H K : Nat) (hn : NCells w b pl pr y ky vy c S H K) (a0 b0 T1 T2 T : RT PT)
    (hs : ∀ V, Below w.heap.size w V → V.cell? ⟨w.heap.size + 1, 0, none⟩ = some (.func (.func f) #[] #[.pointer by0]) → V.cell? ⟨w.heap.size, 0, none⟩ = some (.pointer (some ⟨b, 0, none⟩)) → Calls Tryz.prog 86 #[.pointer (some p), .func (.func 87) #[] #[.pointer (some ⟨w.heap.size + 1, 0, none⟩), .pointer (some ⟨w.heap.size, 0, none⟩)]] V (SplitPost X d a0 b0 V))
    (hu1 : ∀ V p1, Below w.heap.size w V → NM X d V a0 p1 → Calls Tryz.prog 46 #[.pointer p1, .pointer pl, .func (.func f) #[] #[.pointer by0]] V (TreePost X d T1 V))
    (hu2 : ∀ V p2, Below w.heap.size w V → NM X d V b0 p2 → Calls Tryz.prog 46 #[.pointer p2, .pointer pr, .func (.func f) #[] #[.pointer by0]] V (TreePost X d T2 V))
    (hj : ∀ V p1 p2, Below w.heap.size w V → NM X d V T1 p1 → NM X d V T2 p2 → Calls Tryz.prog 88 #[.pointer p1, .agg #[.int .i64 y.1.kind, .int .i64 y.1.num, .string y.1.text, ky, .int .i64 y.2.kind, .int .i64 y.2.num, .string y.2.text, vy], .pointer p2] V (TreePost X d T V)) :
    Calls Tryz.prog 46 #[.pointer (some p), .pointer (some ⟨b, 0, none⟩), .func (.func f) #[] #[.pointer by0]] w (TreePost X d T w) := by
  have HS : Hid _ := hs
  have H1 : Hid _ := hu1
  have H2 : Hid _ := hu2
  have HJ : Hid _ := hj
  obtain ⟨c0, c1, c2, c3, c4, c5, c6, c7, c8, c9, _, _, _, _⟩ := hn
  have HB : Hid (∀ A B, Below w.heap.size w ((w.alloc A).alloc B)) := fun A B => (((Grew.refl w).alloc A).alloc B).below
  clear hs hu1 hu2 hj
  go_enter Tryz.func46, Tryz.ntmps46
  go_wp2_with fail
  obtain ⟨W0, hW0⟩ : ∃ W0, W0 = (w.alloc (.cells #[.pointer (some ⟨b, 0, none⟩)] 70)).alloc (.cells #[.func (.func f) #[] #[.pointer by0]] 85) := ⟨_, rfl⟩
  rw [← hW0]
  have hb0 : Below w.heap.size w W0 := by rw [hW0]; exact HB.out _ _
  have t0 : W0.cell? ⟨w.heap.size, 0, none⟩ = some (.pointer (some ⟨b, 0, none⟩)) := by rw [hW0]; exact cell_keeps ((Grew.refl _).alloc _).below (show (w.alloc (.cells #[.pointer (some ⟨b, 0, none⟩)] 70)).cell? ⟨w.heap.size, 0, none⟩ = _ by simp)
  have t1 : W0.cell? ⟨w.heap.size + 1, 0, none⟩ = some (.func (.func f) #[] #[.pointer by0]) := by
    rw [hW0]
    have h9 : ((w.alloc (.cells #[.pointer (some ⟨b, 0, none⟩)] 70)).alloc (.cells #[.func (.func f) #[] #[.pointer by0]] 85)).cell? ⟨(w.alloc (.cells #[.pointer (some ⟨b, 0, none⟩)] 70)).heap.size, 0, none⟩ = some (.func (.func f) #[] #[.pointer by0]) := by simp
    rwa [World.size_alloc] at h9
  clear hW0
  refine (HS.out _ hb0 t1 t0).mono ?_
  rintro e w1 ⟨hg1, p1, p2, rfl, ht1, ht2⟩
  have hb1 : Below w.heap.size w w1 := hb0.trans (hg1.mono hb0.size)
  have t0 := cell_keeps hg1 t0; have t1 := cell_keeps hg1 t1
  have c0 := cell_keeps hb1 c0; have c1 := cell_keeps hb1 c1; have c2 := cell_keeps hb1 c2; have c3 := cell_keeps hb1 c3; have c4 := cell_keeps hb1 c4; have c5 := cell_keeps hb1 c5; have c6 := cell_keeps hb1 c6; have c7 := cell_keeps hb1 c7; have c8 := cell_keeps hb1 c8; have c9 := cell_keeps hb1 c9
  have HT1 : Hid (NM X d w1 a0 p1) := ht1
  have HT2 : Hid (NM X d w1 b0 p2) := ht2
  clear ht1 ht2 hg1 HS hb0
  go_wp2_with fail
  have hbc : Below w1.heap.size w1 w1.drew := (Below.refl _ _).drew
  go_region_held3 (fun w' => w'.cell? ⟨b, 0, none⟩ = some (.pointer pl) ∧ w'.cell? ⟨b, 1, none⟩ = some (.pointer pr) ∧ w'.cell? ⟨b, 2, none⟩ = some (.int .i64 y.1.kind) ∧ w'.cell? ⟨b, 3, none⟩ = some (.int .i64 y.1.num) ∧ w'.cell? ⟨b, 4, none⟩ = some (.string y.1.text) ∧ w'.cell? ⟨b, 5, none⟩ = some (ky) ∧ w'.cell? ⟨b, 6, none⟩ = some (.int .i64 y.2.kind) ∧ w'.cell? ⟨b, 7, none⟩ = some (.int .i64 y.2.num) ∧ w'.cell? ⟨b, 8, none⟩ = some (.string y.2.text) ∧ w'.cell? ⟨b, 9, none⟩ = some (vy) ∧ w'.cell? ⟨w.heap.size, 0, none⟩ = some (.pointer (some ⟨b, 0, none⟩)) ∧ w'.cell? ⟨w.heap.size + 1, 0, none⟩ = some (.func (.func f) #[] #[.pointer by0])) (go_keep)
    (first
      | (go_at_call 88; (with_reducible refine Calls.mono (HJ.out _ _ _ (hb1.trans (hbc.mono hb1.size)) HP.out HQ.out) ?_); rintro e w7 ⟨hg, z7, rfl, ht⟩; have HE : Hid (TreePost X d T w (.returned (.pointer z7)) w7) := ⟨(hb1.trans (hbc.mono hb1.size)).trans (hg.mono (hb1.trans (hbc.mono hb1.size)).size), z7, rfl, ht⟩; have c0 := cell_keeps hg c0; have c1 := cell_keeps hg c1; have c2 := cell_keeps hg c2; have c3 := cell_keeps hg c3; have c4 := cell_keeps hg c4; have c5 := cell_keeps hg c5; have c6 := cell_keeps hg c6; have c7 := cell_keeps hg c7; have c8 := cell_keeps hg c8; have c9 := cell_keeps hg c9; have t0 := cell_keeps hg t0; have t1 := cell_keeps hg t1; clear hg ht)
      | (go_at_call 46; (with_reducible refine Calls.mono (H1.out _ _ (hb1.trans (hbc.mono hb1.size)) (HT1.out.keeps hbc)) ?_); rintro e w5 ⟨hg, z5, rfl, ht⟩; have HP : Hid (NM X d w5 T1 z5) := ht; (try have HQ : Hid (NM X d w5 T2 _) := HQ.out.keeps hg); replace hbc := hbc.trans (hg.mono hbc.size); have c0 := cell_keeps hg c0; have c1 := cell_keeps hg c1; have c2 := cell_keeps hg c2; have c3 := cell_keeps hg c3; have c4 := cell_keeps hg c4; have c5 := cell_keeps hg c5; have c6 := cell_keeps hg c6; have c7 := cell_keeps hg c7; have c8 := cell_keeps hg c8; have c9 := cell_keeps hg c9; have t0 := cell_keeps hg t0; have t1 := cell_keeps hg t1; clear hg ht)
      | (go_at_call 46; (with_reducible refine Calls.mono (H2.out _ _ (hb1.trans (hbc.mono hb1.size)) (HT2.out.keeps hbc)) ?_); rintro e w6 ⟨hg, z6, rfl, ht⟩; have HQ : Hid (NM X d w6 T2 z6) := ht; (try have HP : Hid (NM X d w6 T1 _) := HP.out.keeps hg); replace hbc := hbc.trans (hg.mono hbc.size); have c0 := cell_keeps hg c0; have c1 := cell_keeps hg c1; have c2 := cell_keeps hg c2; have c3 := cell_keeps hg c3; have c4 := cell_keeps hg c4; have c5 := cell_keeps hg c5; have c6 := cell_keeps hg c6; have c7 := cell_keeps hg c7; have c8 := cell_keeps hg c8; have c9 := cell_keeps hg c9; have t0 := cell_keeps hg t0; have t1 := cell_keeps hg t1; clear hg ht))
  all_goals (first | (go_ret; exact HE.out) | (go_wp2_with fail; go_ret; exact HE.out))

theorem eg_union1 : ∀ args w, (callFunc 87 args).run Tryz.prog w = .ok (.enter 87 args) w := enters_of Tryz.func87 (by kernel_rfl) rfl

theorem union_sizes {α : Type} (cmp : α → α → Int) : ∀ (b a : RT α), (RT.union cmp b a).size ≤ b.size + a.size
  | .nil, a => by show a.size ≤ _; simp [RT.size]
  | .node c l x r, .nil => by show (RT.node c l x r).size ≤ _; simp [RT.size]
  | .node c l x r, .node c2 l2 x2 r2 => by
    have h1 := union_sizes cmp l (RT.split (cmp x) (.node c2 l2 x2 r2)).1
    have h2 := union_sizes cmp r (RT.split (cmp x) (.node c2 l2 x2 r2)).2
    have h3 := split_sizes (cmp x) (.node c2 l2 x2 r2)
    show (RT.join _ x _).size ≤ (l.size + 1 + r.size) + _
    rw [join_size]
    omega

theorem split_mem {α : Type} (g : α → Int) : ∀ (t : RT α), (∀ y ∈ (RT.split g t).1.items, y ∈ t.items) ∧ (∀ y ∈ (RT.split g t).2.items, y ∈ t.items)
  | .nil => ⟨fun _ h => h, fun _ h => h⟩
  | .node c l x r => by
    obtain ⟨h1, h2⟩ := split_mem g l
    obtain ⟨h3, h4⟩ := split_mem g r
    have hi : ∀ y, y ∈ (RT.node c l x r).items ↔ y ∈ l.items ∨ y = x ∨ y ∈ r.items := fun y => by simp [RT.items]
    unfold RT.split
    split
    · refine ⟨fun y hy => (hi y).2 (.inl (h1 y hy)), fun y hy => (hi y).2 ?_⟩
      have hy' : y ∈ (RT.join (RT.split g l).2 x r).items := hy
      rw [RT.join_items] at hy'
      rcases List.mem_append.1 hy' with h | h
      · exact .inl (h2 y h)
      · rcases List.mem_cons.1 h with h | h
        · exact .inr (.inl h)
        · exact .inr (.inr h)
    · split
      · refine ⟨fun y hy => (hi y).2 ?_, fun y hy => (hi y).2 (.inr (.inr (h4 y hy)))⟩
        have hy' : y ∈ (RT.join l x (RT.split g r).1).items := hy
        rw [RT.join_items] at hy'
        rcases List.mem_append.1 hy' with h | h
        · exact .inl h
        · rcases List.mem_cons.1 h with h | h
          · exact .inr (.inl h)
          · exact .inr (.inr (h3 y h))
      · exact ⟨fun y hy => (hi y).2 (.inl hy), fun y hy => (hi y).2 (.inr (.inr hy))⟩

theorem union_14 (X : Nat → Prop) (d f : Nat) (eg : ∀ args w, (callFunc f args).run Tryz.prog w = .ok (.enter f args) w) (by0 : Option Addr) (cmp : PT → PT → Int) (P : PT → Prop) : ∀ (tb ta : RT PT) (pb pa : Option Addr) (w : World), CmpC X d f by0 cmp P w → NM X d w tb pb → NM X d w ta pa → RT.Well tb → RT.Well ta → (∀ x ∈ tb.items, P x) → (∀ x ∈ ta.items, P x) → tb.size + ta.size < 4611686018427387904 →
    Calls Tryz.prog 46 #[.pointer pa, .pointer pb, .func (.func f) #[] #[.pointer by0]] w (TreePost X d (RT.union cmp tb ta) w)
  | .nil, ta, pb, pa, w, hc, hb, ha, wb, wa, qb, qa, hz => by
    have hpb : pb = none := hb
    subst hpb
    cases pa with
    | none =>
      refine Calls.mono (union_nilA none _ ⟨_, _, rfl⟩ w) ?_
      rintro e w' ⟨rfl, hg⟩
      exact ⟨hg, none, rfl, ha.keeps hg⟩
    | some p =>
      refine Calls.mono (union_nilB p _ ⟨_, _, rfl⟩ w) ?_
      rintro e w' ⟨rfl, hg⟩
      exact ⟨hg, some p, rfl, ha.keeps hg⟩
  | .node c l y r, .nil, pb, pa, w, hc, hb, ha, wb, wa, qb, qa, hz => by
    have hpa : pa = none := ha
    subst hpa
    refine Calls.mono (union_nilA pb _ ⟨_, _, rfl⟩ w) ?_
    rintro e w' ⟨rfl, hg⟩
    exact ⟨hg, pb, rfl, hb.keeps hg⟩
  | .node c l y r, .node c2 l2 y2 r2, pb, pa, w, hc, hb, ha, wb, wa, qb, qa, hz => by
    obtain ⟨b, pl, pr, ky, vy, rfl, hn, hk, hv, hl, hr⟩ := hb
    obtain ⟨p, hp⟩ : ∃ p, pa = some p := by
      obtain ⟨b2, _, _, _, _, e, _⟩ := ha
      exact ⟨_, e⟩
    subst hp
    have hyP : P y := qb y (by simp [RT.items])
    have hsz := split_sizes (cmp y) (.node c2 l2 y2 r2)
    have hsw := RT.split_well (cmp y) _ wa
    have hsm := split_mem (cmp y) (.node c2 l2 y2 r2)
    have hzz : (RT.node c l y r).size = l.size + 1 + r.size := rfl
    have hu1 := union_sizes cmp l (RT.split (cmp y) (.node c2 l2 y2 r2)).1
    have hu2 := union_sizes cmp r (RT.split (cmp y) (.node c2 l2 y2 r2)).2
    refine union_node X d f by0 w p b pl pr y ky vy c _ _ _ hn (RT.split (cmp y) (.node c2 l2 y2 r2)).1 (RT.split (cmp y) (.node c2 l2 y2 r2)).2 (RT.union cmp l (RT.split (cmp y) (.node c2 l2 y2 r2)).1) (RT.union cmp r (RT.split (cmp y) (.node c2 l2 y2 r2)).2) _ (fun V hV h1 h0 => ?_) (fun V p1 hV h1 => ?_) (fun V p2 hV h2 => ?_) (fun V p1 p2 hV h1 h2 => ?_)
    · refine split_14 X d 87 _ _ (cmp y) P eg_union1 _ (some p) V ?_ (ha.keeps hV) wa qa (by omega)
      intro V2 hV2 x ku vu hx hkx hvx
      have hVV : Below w.heap.size w V2 := hV.trans (hV2.mono hV.size)
      refine union1_core f eg by0 b _ _ pl pr x y ku vu ky vy c _ _ _ _ V2 (cell_keeps hV2 h1) (cell_keeps hV2 h0) (hn.keeps hVV) fun V3 hV3 => ?_
      have h9 : Below w.heap.size w V3 := hVV.trans (hV3.mono hVV.size)
      exact hc V3 h9 y x ky vy ku vu hyP hx ⟨LiesX.keeps h9 hk.1, hk.2⟩ ⟨LiesX.keeps h9 hv.1, hv.2⟩ ⟨LiesX.keeps hV3 hkx.1, hkx.2⟩ ⟨LiesX.keeps hV3 hvx.1, hvx.2⟩
    · exact union_14 X d f eg by0 cmp P l _ pl p1 V (hc.keeps hV) (hl.keeps hV) h1 wb.left hsw.1 (fun x hx => qb x (by simp [RT.items, hx])) (fun x hx => qa x (hsm.1 x hx)) (by omega)
    · exact union_14 X d f eg by0 cmp P r _ pr p2 V (hc.keeps hV) (hr.keeps hV) h2 wb.right hsw.2 (fun x hx => qb x (by simp [RT.items, hx])) (fun x hx => qa x (hsm.2 x hx)) (by omega)
    · exact join_14 X d V _ _ y p1 p2 ky vy h1 h2 (RT.union_well cmp l _ wb.left hsw.1) (RT.union_well cmp r _ wb.right hsw.2) ⟨LiesX.keeps hV hk.1, hk.2⟩ ⟨LiesX.keeps hV hv.1, hv.2⟩ (by omega)

end Go.Proofs.YtfoaekbnpioinabGreat

namespace Go.Proofs.YtfoaekbnpioinabGreat
open Go.RowKit Go.Shelf

set_option maxRecDepth 100000 in
set_option maxHeartbeats 4000000 in
theorem turn_same {w : World} {q : Nat} {t : RT PT} {b : Nat} (h : MC w q t b) : Calls Tryz.prog 13 #[.pointer (some ⟨b, 0, none⟩), .int .i64 (q : Int)] w fun e w' => e = .returned (.tuple #[.pointer (some ⟨b, 0, none⟩), .int .i64 0]) ∧ Below w.heap.size w w' := by
  have HC : Hid (Calls Tryz.prog 50 #[.int .i64 (q : Int)] w fun e w' => e = .returned (.int .i64 0) ∧ Below w.heap.size w w') := by
    have h9 := checkOrder_14 (q : Int) w
    have e9 : ordErr (q : Int) = 0 := by unfold ordErr; rw [if_neg (by have := h.q6; omega)]
    rwa [e9] at h9
  have ho := h.ord
  clear h
  go_enter Tryz.func13, Tryz.ntmps13
  go_wp2_with fail
  refine Calls.mono HC.out ?_
  rintro e w1 ⟨rfl, hb⟩
  have ho := cell_keeps hb ho
  go_wp2_with fail
  refine (own_14 _ _).mono ?_
  rintro e w2 ⟨rfl, hw⟩
  obtain rfl : w1 = w2 := hw.symm
  go_wp2_with fail
  go_ret2
  exact ⟨rfl, hb⟩

/-- A map's two cells, and its tree. -/
def RawM (w : World) (q : Nat) (t : RT PT) (b : Nat) : Prop := w.cell? ⟨b, 0, none⟩ = some (.int .i64 (q : Int)) ∧ ∃ p, w.cell? ⟨b, 1, none⟩ = some (.pointer p) ∧ NM TT 16 w t p

set_option maxRecDepth 100000 in
set_option maxHeartbeats 4000000 in
theorem len_raw {w : World} {q : Nat} {t : RT PT} {b : Nat} (h : RawM w q t b) : Calls Tryz.prog 30 #[.pointer (some ⟨b, 0, none⟩)] w fun e w' => e = .returned (.int .i64 (t.size : Nat)) ∧ Below w.heap.size w w' := by
  obtain ⟨_, p, hp, hn⟩ := h
  have HM : Hid _ := measured_14 hn
  have hf1 : ∀ W : World, (Instr.field 96 (.agg #[.int .i64 t.size, .int .i64 t.high, .int .i64 t.blacks]) 0).run Tryz.prog W = .ok (.int .i64 (t.size : Nat)) W := fun W => field_size14 _ _ _ W
  clear hn
  go_enter Tryz.func30, Tryz.ntmps30
  go_wp2_with fail
  refine (own_14 _ _).mono ?_
  rintro e w1 ⟨rfl, rfl⟩
  go_wp2_with fail
  refine Calls.mono HM.out ?_
  rintro e w2 ⟨hb, rfl⟩
  go_wp2_with fail
  go_ret
  exact ⟨rfl, hb⟩

/-- What of tells, at any tree. -/
def RawPost (q : Nat) (t : RT PT) (w : World) (e : Ending) (w' : World) : Prop := Below w.heap.size w w' ∧ ∃ b, e = .returned (.pointer (some ⟨b, 0, none⟩)) ∧ RawM w' q t b

set_option maxRecDepth 100000 in
set_option maxHeartbeats 8000000 in
theorem of_raw (b q : Nat) (t : RT PT) (p : Option Addr) (w : World) (ho : w.cell? ⟨b, 0, none⟩ = some (.int .i64 (q : Int))) (hn : NM TT 16 w t p) (hz : t.size < 4611686018427387904) :
    Calls Tryz.prog 45 #[.pointer (some ⟨b, 0, none⟩), .pointer p] w (RawPost q t.black w) := by
  have HB : Hid (∀ V, Below w.heap.size w V → Calls Tryz.prog 85 #[.pointer p] V (TreePost TT 16 t.black V)) := fun V hV => black_14 (hn.keeps hV) hz
  have HP : Hid (∀ (V : World) (p : Option Addr), Below w.heap.size w V → NM TT 16 V t.black p → RawPost q t.black w (.returned (.pointer (some ⟨V.heap.size, 0, none⟩))) (V.alloc (.cells #[.int .i64 (q : Int), .pointer p] 75))) := fun V p hV ht => by
    have hb9 : Below V.heap.size V (V.alloc (.cells #[.int .i64 (q : Int), .pointer p] 75)) := ((Grew.refl V).alloc _).below
    exact ⟨hV.trans (hb9.mono hV.size), V.heap.size, rfl, by simp, p, by simp, ht.keeps hb9⟩
  clear hn hz
  go_enter Tryz.func45, Tryz.ntmps45
  go_wp2_with fail
  go_region_held3 (fun w' => w'.cell? ⟨b, 0, none⟩ = some (.int .i64 (q : Int))) (go_keep)
    (first | (go_at_call 85; (with_reducible refine Calls.mono (HB.out _ (Below.refl _ _).drew) ?_); rintro e w2 ⟨hg, p2, rfl, ht⟩; have hg2 : Below w.heap.size w w2 := (Below.refl _ _).drew.trans hg; have ho := cell_keeps hg2 ho; have HE : Hid (RawPost q t.black w (.returned (.pointer (some ⟨w2.heap.size, 0, none⟩))) (w2.alloc (.cells #[.int .i64 (q : Int), .pointer p2] 75))) := HP.out w2 p2 hg2 ht; clear hg ht))
  all_goals (first | (go_ret; exact HE.out) | (go_wp2_with fail; go_ret; exact HE.out))

theorem eg_byK1 : ∀ args w, (callFunc 89 args).run Tryz.prog w = .ok (.enter 89 args) w := enters_of Tryz.func89 (by kernel_rfl) rfl

theorem byK_cmpC (q bb : Nat) (hq : q < 6) (w : World) (hb : w.cell? ⟨bb, 0, none⟩ = some (.int .i64 (q : Int))) : CmpC TT 16 89 (some ⟨bb, 0, none⟩) (byK q) (fun x => rightV 16 x.1 = true) w := by
  intro V hV x y ku vu ky vy hx hy h1 h2 h3 h4
  refine byKeys1_14 q bb x y ku vu ky vy V (cell_keeps hV hb) _ fun V3 hV3 => ?_
  have h9 := compareO_any 16 (q : Int) x.1 y.1 ku ky V3 (LiesX.keeps hV3 h1.1).lies (LiesX.keeps hV3 h3.1).lies h1.2 h3.2
  rw [(ordR_right q hq x.1 y.1 hx hy).1, (ordR_right q hq x.1 y.1 hx hy).2] at h9
  exact h9

/-- What is wrong with two maps put together. -/
def unionE (t : RT PT) : Int := if 65536 < t.size then 2 else 0

set_option maxRecDepth 100000 in
set_option maxHeartbeats 8000000 in
theorem munion_14 {w : World} {q : Nat} {ta tb : RT PT} {a b : Nat} (ha : MC w q ta a) (hb : MC w q tb b) : Calls Tryz.prog 10 #[.pointer (some ⟨a, 0, none⟩), .pointer (some ⟨b, 0, none⟩)] w (OrPost q (RT.union (byK q) tb ta).items (unionE (RT.union (byK q) tb ta)) w) := by
  have HT : Hid _ := turn_same hb
  obtain ⟨pa, hpa, na⟩ := ha.top
  obtain ⟨pb, hpb, nb⟩ := hb.top
  have hoa := ha.ord
  have za := ha.size
  have zb := hb.size
  have hus := union_sizes (byK q) tb ta
  have HU : Hid (∀ V bb, Below w.heap.size w V → V.cell? ⟨bb, 0, none⟩ = some (.int .i64 (q : Int)) → Calls Tryz.prog 46 #[.pointer pa, .pointer pb, .func (.func 89) #[] #[.pointer (some ⟨bb, 0, none⟩)]] V (TreePost TT 16 (RT.union (byK q) tb ta) V)) := fun V bb hV hbb => union_14 TT 16 89 eg_byK1 _ (byK q) _ tb ta pb pa V (byK_cmpC q bb ha.q6 V hbb) (nb.keeps hV) (na.keeps hV) hb.well ha.well (fun x hx => (hb.right x hx).1.1) (fun x hx => (ha.right x hx).1.1) (by omega)
  have HO : Hid (∀ V p, Below w.heap.size w V → NM TT 16 V (RT.union (byK q) tb ta) p → Calls Tryz.prog 45 #[.pointer (some ⟨a, 0, none⟩), .pointer p] V (RawPost q (RT.union (byK q) tb ta).black V)) := fun V p hV hp => of_raw a q _ p V (cell_keeps hV ha.ord) hp (by omega)
  have hblk : (RT.union (byK q) tb ta).black.items = (RT.union (byK q) tb ta).items := RT.black_items _
  have hbsz : (RT.union (byK q) tb ta).black.size = (RT.union (byK q) tb ta).size := by rw [RT.size_items, hblk, ← RT.size_items]
  have hwell : RT.Well (RT.union (byK q) tb ta) := RT.union_well (byK q) tb ta hb.well ha.well
  have hwellb : RT.Well (RT.union (byK q) tb ta).black := ⟨hwell.1.black, by obtain ⟨_, n, hB⟩ := hwell; obtain ⟨m, hm⟩ := hB.black; exact ⟨m, hm⟩⟩
  have HMC : Hid (∀ V b', RawM V q (RT.union (byK q) tb ta).black b' → (RT.union (byK q) tb ta).size ≤ 65536 → MC V q (RT.union (byK q) tb ta).black b') := fun V b' h hz => by
    refine ⟨h.1, h.2, hwellb, RT.black_red14 _, ha.q6, ?_, ?_, by rw [hbsz]; exact hz⟩
    · rw [hblk]
      intro x hx
      rcases (RT.mem_union (byK_cmp q) tb ta hb.rises ha.rises x).1 hx with h1 | h1
      · exact hb.right x h1
      · exact ha.right x h1.1
    · rw [hblk]; exact RT.union_rises (byK_cmp q) tb ta hb.rises ha.rises
  have HLn : Hid (∀ V b', RawM V q (RT.union (byK q) tb ta).black b' → Calls Tryz.prog 30 #[.pointer (some ⟨b', 0, none⟩)] V fun e w' => e = .returned (.int .i64 ((RT.union (byK q) tb ta).size : Nat)) ∧ Below V.heap.size V w') := fun V b' h => by have h9 := len_raw h; rwa [hbsz] at h9
  have HBl : Hid ((RT.union (byK q) tb ta).black.items = (RT.union (byK q) tb ta).items) := hblk
  have HEe : Hid (unionE (RT.union (byK q) tb ta) = if 65536 < (RT.union (byK q) tb ta).size then 2 else 0) := rfl
  have hzz : (RT.union (byK q) tb ta).size ≤ 131072 := by omega
  generalize unionE (RT.union (byK q) tb ta) = E at *
  generalize RT.union (byK q) tb ta = T at *
  obtain ⟨Z, hZ⟩ : ∃ Z, Z = T.size := ⟨_, rfl⟩
  have HZ : Hid (Z = T.size) := hZ
  rw [← hZ] at HEe HLn HMC hzz
  clear ha hb na nb hblk hbsz hwell hwellb hus za zb hZ
  go_enter Tryz.func10, Tryz.ntmps10
  go_wp2_with fail
  refine (own_14 _ _).mono ?_
  rintro e w1 ⟨rfl, hw⟩
  obtain rfl : w = w1 := hw.symm
  go_wp2_with fail
  refine Calls.mono HT.out ?_
  rintro e w1 ⟨rfl, hb1⟩
  have hpa := cell_keeps hb1 hpa; have hpb := cell_keeps hb1 hpb; have hoa := cell_keeps hb1 hoa
  clear HT
  go_wp2_with fail
  go_region_held3 (fun w' => w'.cell? ⟨a, 0, none⟩ = some (.int .i64 (q : Int)) ∧ w'.cell? ⟨a, 1, none⟩ = some (.pointer pa) ∧ w'.cell? ⟨b, 1, none⟩ = some (.pointer pb)) (go_keep)
    (first
      | (go_at_call 47; refine (byKeys_14 _ _).mono ?_; rintro e w2 ⟨rfl, hw2⟩; have hg2 : Below w1.heap.size w1 w2 := (by rw [hw2]; exact (Below.refl w1.heap.size w1).drew.trans ((Grew.refl w1.drew).alloc _).below); have hb2 : Below w.heap.size w w2 := hb1.trans (hg2.mono hb1.size); have hbb : w2.cell? ⟨w1.heap.size, 0, none⟩ = some (.int .i64 (q : Int)) := (by rw [hw2]; exact (Go.Boxed.new w1.drew 3 (.int .i64 (q : Int))).cell); have hpa := cell_keeps hg2 hpa; have hpb := cell_keeps hg2 hpb; have hoa := cell_keeps hg2 hoa; clear hw2 hg2)
      | (go_at_call 46; (with_reducible refine Calls.mono (HU.out _ _ hb2 hbb) ?_); rintro e w3 ⟨hg3, p3, rfl, ht3⟩; have hb3 : Below w.heap.size w w3 := hb2.trans (hg3.mono hb2.size); have HT3 : Hid (NM TT 16 w3 T p3) := ht3; have hpa := cell_keeps hg3 hpa; have hpb := cell_keeps hg3 hpb; have hoa := cell_keeps hg3 hoa; clear ht3 hg3)
      | (go_at_call 45; (with_reducible refine Calls.mono (HO.out _ _ hb3 HT3.out) ?_); rintro e w4 ⟨hg4, b4, rfl, hr4⟩; have hb4 : Below w.heap.size w w4 := hb3.trans (hg4.mono hb3.size); have HR4 : Hid (RawM w4 q T.black b4) := hr4; have hpa := cell_keeps hg4 hpa; have hpb := cell_keeps hg4 hpb; have hoa := cell_keeps hg4 hoa; clear hr4 hg4))
  clear hpa hpb hoa
  go_wp2_with fail
  refine Calls.mono (HLn.out _ _ HR4.out) ?_
  rintro e w5 ⟨rfl, hg5⟩
  have hb5 : Below w.heap.size w w5 := hb4.trans (hg5.mono hb4.size)
  by_cases hbig : 65536 < Z
  · have e9 : E = 2 := by rw [HEe.out, if_pos hbig]
    subst e9
    have HE : Hid (OrPost q T.items 2 w (.returned (.tuple #[.pointer none, .int .i64 2])) w5) := ⟨hb5, .inl ⟨by decide, rfl⟩⟩
    have hbi : 65536 < (Z : Int) := by omega
    clear hbig
    go_wp2_with fail
    go_ret2
    exact HE.out
  · have e9 : E = 0 := by rw [HEe.out, if_neg hbig]
    subst e9
    have HE : Hid (OrPost q T.items 0 w (.returned (.tuple #[.pointer (some ⟨b4, 0, none⟩), .int .i64 0])) w5) := ⟨hb5, .inr ⟨rfl, T.black, b4, rfl, (HMC.out w4 b4 HR4.out (by omega)).keeps hg5, HBl.out⟩⟩
    have hbi : ¬ 65536 < (Z : Int) := by omega
    clear hbig
    go_wp2_with fail
    go_ret2
    exact HE.out

end Go.Proofs.YtfoaekbnpioinabGreat

