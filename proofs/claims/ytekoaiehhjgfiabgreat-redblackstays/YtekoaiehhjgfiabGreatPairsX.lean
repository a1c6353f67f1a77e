/-
  copies and Pairs: where the row lies.
-/
import Derived.Test.YtekoaiehhjgfiabGreatOfM
namespace Go.Proofs.YtekoaiehhjgfiabGreat
open Go.RowKit Go.Shelf

/-- What copies tells: in which block the row lies, and that the lists lie behind it. -/
def CopiesX (l : List PT) (w : World) (e : Ending) (w' : World) : Prop := ∃ g qs, e = .returned (.slice (some ⟨g, 0, none⟩) qs.length qs.length) ∧ qs.map trT = l ∧ w.heap.size ≤ g ∧ g < w'.heap.size ∧ QAt w' g 0 qs ∧ (∀ p ∈ qs, NewQ (g + 1) w' p) ∧ Below w.heap.size w w'

set_option maxRecDepth 100000 in
set_option maxHeartbeats 8000000 in
theorem copies_x (qs : List PP) (v : Value) (w : World) (hv : SlQ 0 16 w qs v) (hlen : qs.length ≤ 65536) (hr : ∀ p ∈ qs, rightV 16 p.1.1 = true ∧ rightV 16 p.2.1 = true) :
    Calls Tryz.prog 37 #[v] w (CopiesX (qs.map trT) w) := by
  have HS : Hid (SlQ 0 16 w qs v) := hv
  obtain ⟨a0, c0, rfl, _⟩ := hv.slice
  have HR : Hid _ := hr
  obtain ⟨M, hMs, hmk⟩ := make_pairs qs.length hlen
  have HMs : Hid (M.size = qs.length * 8) := hMs
  obtain ⟨n, hn⟩ : ∃ n, n = qs.length := ⟨_, rfl⟩
  have HN : Hid (n = qs.length) := hn
  rw [← hn] at hmk hlen HMs ⊢
  clear hMs hv hr hn
  go_enter Tryz.func37, Tryz.ntmps37
  go_wp2_with fail
  go_loopg [11] n (fun q i wr => ∃ (j : Nat) (ps : List PP), i = .int .i64 (j : Int) ∧ j ≤ n ∧ q = n - j ∧ Hid (ps.length = j ∧ ps.map trT = (qs.take j).map trT) ∧ Hid (CpQ w.heap.size n wr ps) ∧ Hid (Below w.heap.size w wr))
  case atStart =>
    refine ⟨0, [], rfl, by omega, by omega, ⟨rfl, rfl⟩, ⟨QAt.nil _ _ _, (fun p hp => by cases hp), (fun k hk => ?_), (by simp)⟩, (Below.refl _ _).alloc (Nat.le_refl _) _⟩
    have hk' : k < M.size := by rw [HMs.out]; exact hk
    simp [hk']
  case round =>
    obtain ⟨j, ps, rfl, hj, hk, Hps, HC, HB⟩ := hrel
    have Hk : Hid _ := hk
    clear hk hmk
    have hbw := HB.out
    by_cases hlt : j < n
    · have hlt' : j < qs.length := by have := HN.out; omega
      obtain ⟨b1, o1, c1', hv1, _, hq, hgq⟩ := HS.out.full (fun e => by rw [e] at hlt'; cases hlt')
      have ha1 : a0 = some ⟨b1, o1, none⟩ := by injection hv1
      subst ha1
      have Ex := hq.at j hlt'
      have gx := hgq qs[j] (List.getElem_mem hlt')
      have rx := HR.out qs[j] (List.getElem_mem hlt')
      have Htk : Hid ((qs.take (j + 1)).map trT = (qs.take j).map trT ++ [trT qs[j]]) := by
        show _ = _
        rw [List.take_succ_eq_append_getElem hlt', List.map_append]; rfl
      generalize qs[j] = x at *
      obtain ⟨⟨t1, u1⟩, ⟨t2, u2⟩⟩ := x
      obtain ⟨a1, c1, hu1, _⟩ := Lies.slice gx.1.1
      obtain ⟨a2, c2, hu2, _⟩ := Lies.slice gx.2.1
      simp only at hu1 hu2
      subst hu1 hu2
      obtain ⟨p0, p1, p2, p3, p4, p5, p6, p7⟩ := Ex.keeps hbw
      simp only at p0 p1 p2 p3 p4 p5 p6 p7
      have hl1 : b1 < wr.heap.size := cell_lt p0
      have hws2 : w.heap.size ≤ wr.heap.size := hbw.size
      have hG := HC.out.lt
      have hbA : ∀ o, Below w.heap.size w (wr.alloc o) := fun o => hbw.alloc hws2 o
      have HCp : Hid (∀ o, Calls Tryz.prog 60 #[.agg #[.int .i64 t1.kind, .int .i64 t1.num, .string t1.text, (.slice a1 t1.items.length c1), .int .i64 t2.kind, .int .i64 t2.num, .string t2.text, (.slice a2 t2.items.length c2)]] (wr.alloc o) (CopiedPost (t1, t2) (wr.alloc o))) := fun o => copied_14 (t1, t2) _ _ (wr.alloc o) (Lies.keeps (hbA o) _ _ _ gx.1.1) (Lies.keeps (hbA o) _ _ _ gx.2.1) rx
      have HTx : Hid (t1.text.size ≤ 9223372036854775807 ∧ t2.text.size ≤ 9223372036854775807) := ⟨gx.1.2, gx.2.2⟩
      have HBA : Hid _ := hbA
      have hji : (j : Int) < (n : Nat) := by omega
      clear gx rx Ex hq hgq hv1 hbA
      go_wp2_with fail
      refine Calls.mono (HCp.out _) ?_
      rintro e w1 ⟨k5, v5, rfl, hl1', hl2', hg⟩
      obtain ⟨b1', d1, rfl, _⟩ := LiesB.slice hl1'
      obtain ⟨b2', d2, rfl, _⟩ := LiesB.slice hl2'
      have hb2 : Below w.heap.size w w1 := (HBA.out _).trans (hg.mono (HBA.out _).size)
      have HC1 : Hid (CpQ w.heap.size n w1 ps) := (HC.out.keeps ((Below.refl _ _).alloc (Nat.le_refl _) _)).keeps hg
      have hpl := Hps.out.1
      have HNw : Hid (NewQ (w.heap.size + 1) w1 ((t1, .slice b1' t1.items.length d1), (t2, .slice b2' t2.items.length d2))) := ⟨⟨LiesB.lower14 (by simp; omega) _ _ _ hl1', HTx.out.1⟩, ⟨LiesB.lower14 (by simp; omega) _ _ _ hl2', HTx.out.2⟩⟩
      have hput := HC1.out.put _ HNw.out (by omega)
      rw [hpl] at hput
      have Hput : Hid _ := hput
      clear hg p0 p1 p2 p3 p4 p5 p6 p7 hl1' hl2' HC HCp hput
      obtain ⟨y0, s0⟩ := Option.isSome_iff_exists.1 (HC1.out.there (j * 8) (by omega)).1
      obtain ⟨y1, s1⟩ := Option.isSome_iff_exists.1 (HC1.out.there (j * 8 + 1) (by omega)).1
      obtain ⟨y2, s2⟩ := Option.isSome_iff_exists.1 (HC1.out.there (j * 8 + 2) (by omega)).1
      obtain ⟨y3, s3⟩ := Option.isSome_iff_exists.1 (HC1.out.there (j * 8 + 3) (by omega)).1
      obtain ⟨y4, s4⟩ := Option.isSome_iff_exists.1 (HC1.out.there (j * 8 + 4) (by omega)).1
      obtain ⟨y5, s5⟩ := Option.isSome_iff_exists.1 (HC1.out.there (j * 8 + 5) (by omega)).1
      obtain ⟨y6, s6⟩ := Option.isSome_iff_exists.1 (HC1.out.there (j * 8 + 6) (by omega)).1
      obtain ⟨y7, s7⟩ := Option.isSome_iff_exists.1 (HC1.out.there (j * 8 + 7) (by omega)).1
      have z0 := (HC1.out.there (j * 8) (by omega)).2
      have z1 := (HC1.out.there (j * 8 + 1) (by omega)).2
      have z2 := (HC1.out.there (j * 8 + 2) (by omega)).2
      have z3 := (HC1.out.there (j * 8 + 3) (by omega)).2
      have z4 := (HC1.out.there (j * 8 + 4) (by omega)).2
      have z5 := (HC1.out.there (j * 8 + 5) (by omega)).2
      have z6 := (HC1.out.there (j * 8 + 6) (by omega)).2
      have z7 := (HC1.out.there (j * 8 + 7) (by omega)).2
      have HB2 : Hid (Below w.heap.size w (w1.setCells w.heap.size (j * 8) (encQ ((t1, .slice b1' t1.items.length d1), (t2, .slice b2' t2.items.length d2))))) :=
        (((((((hb2.setCell (p := ⟨w.heap.size, j * 8, none⟩) (Nat.le_refl _) _).setCell (p := ⟨w.heap.size, j * 8 + 1, none⟩) (Nat.le_refl _) _).setCell (p := ⟨w.heap.size, j * 8 + 1 + 1, none⟩) (Nat.le_refl _) _).setCell (p := ⟨w.heap.size, j * 8 + 1 + 1 + 1, none⟩) (Nat.le_refl _) _).setCell (p := ⟨w.heap.size, j * 8 + 1 + 1 + 1 + 1, none⟩) (Nat.le_refl _) _).setCell (p := ⟨w.heap.size, j * 8 + 1 + 1 + 1 + 1 + 1, none⟩) (Nat.le_refl _) _).setCell (p := ⟨w.heap.size, j * 8 + 1 + 1 + 1 + 1 + 1 + 1, none⟩) (Nat.le_refl _) _).setCell (p := ⟨w.heap.size, j * 8 + 1 + 1 + 1 + 1 + 1 + 1 + 1, none⟩) (Nat.le_refl _) _
      have Hp2 : Hid ((ps ++ [((t1, Value.slice b1' t1.items.length d1), (t2, Value.slice b2' t2.items.length d2))]).length = j + 1 ∧ (ps ++ [((t1, Value.slice b1' t1.items.length d1), (t2, Value.slice b2' t2.items.length d2))]).map trT = (qs.take (j + 1)).map trT) := by
        refine ⟨by simp [hpl], ?_⟩
        rw [List.map_append, Hps.out.2, Htk.out]; rfl
      clear hpl
      go_wp2_with fail
      go_roundg (n - (j + 1))
      case measure => have := Hk.out; omega
      case rel => exact ⟨j + 1, _, by go_num, by omega, rfl, Hp2, Hput, HB2⟩
    · have hjl : j = n := by omega
      have HE : Hid (CopiesX (qs.map trT) w (.returned (.slice (some ⟨w.heap.size, 0, none⟩) n n)) wr) := by
        refine ⟨w.heap.size, ps, by rw [Hps.out.1, hjl], ?_, Nat.le_refl _, HC.out.lt, HC.out.row, HC.out.lists, hbw⟩
        rw [Hps.out.2, hjl, HN.out, List.take_length]
      have hji : ¬ (j : Int) < (n : Nat) := by omega
      go_wp2_with fail
      go_ret
      exact HE.out

set_option maxRecDepth 100000 in
set_option maxHeartbeats 4000000 in
theorem mpairs_x {w : World} {q : Nat} {t : RT PT} {b : Nat} (h : MC w q t b) : Calls Tryz.prog 17 #[.pointer (some ⟨b, 0, none⟩)] w (CopiesX t.items w) := by
  have HK : Hid _ := kept_14 h
  have HR : Hid (∀ x ∈ t.items, Good 16 x.1 ∧ Good 16 x.2) := h.right
  have HZ : Hid (t.items.length ≤ 65536) := by show _ ≤ _; rw [← RT.size_items]; exact h.size
  clear h
  go_enter Tryz.func17, Tryz.ntmps17
  go_wp2_with fail
  refine Calls.mono HK.out ?_
  rintro e w1 ⟨v, rfl, ⟨qs, hq, ho, hg⟩, hb⟩
  have hl : qs.length = t.items.length := by rw [← hq, List.length_map]
  have hs : SlQ w.heap.size 16 w1 qs v := SlQ.of_own rfl ho (fun p hp => (hg p hp).keeps hb) (by have := HZ.out; omega)
  obtain ⟨a, c, rfl, _⟩ := hs.slice
  have hc := copies_x qs _ w1 (hs.mono (Nat.zero_le _)) (by have := HZ.out; omega) (fun p hp => by
    have h9 := HR.out (trT p) (by rw [← hq]; exact List.mem_map.2 ⟨p, hp, rfl⟩)
    exact ⟨h9.1.1, h9.2.1⟩)
  rw [hq] at hc
  have HC : Hid _ := hc
  have HP : Hid (∀ e w', CopiesX t.items w1 e w' → CopiesX t.items w e w') := fun e w' ⟨g, rs, h1, h2, h3, h4, h5, h6, h7⟩ => ⟨g, rs, h1, h2, Nat.le_trans hb.size h3, h4, h5, h6, hb.trans (h7.mono hb.size)⟩
  clear hc hs ho hg HK HR hq hl
  generalize t.items = TI at *
  generalize qs.length = n at *
  go_wp2_with fail
  refine Calls.mono HC.out ?_
  rintro e w2 hx
  obtain ⟨v2, e2⟩ : ∃ v, e = .returned v := by obtain ⟨g, rs, h1, _⟩ := hx; exact ⟨_, h1⟩
  subst e2
  have HE : Hid (CopiesX TI w (.returned v2) w2) := HP.out _ _ hx
  clear hx
  go_wp2_with fail
  first | (go_ret; exact HE.out) | exact HE.out

end Go.Proofs.YtekoaiehhjgfiabGreat

