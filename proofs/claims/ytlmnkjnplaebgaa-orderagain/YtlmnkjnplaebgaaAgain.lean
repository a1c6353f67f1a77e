/-
  The walk of OrderAgain.
-/
import Derived.Test.YtlmnkjnplaebgaaAgainP
import Derived.Test.YtlmnkjnplaebgaaSpeaks6
namespace Go.Proofs.Ytlmnkjnplaebgaa
open Go.RowKit Go.Shelf

theorem lookE_pos {d : Nat} {o : Int} {l : List VT} (h : lookE d o l = 0) : (0 ≤ o ∧ o < 6) ∧ listErr d l = 0 := by
  unfold lookE at h
  by_cases ho : o < 0 ∨ 6 ≤ o
  · rw [if_pos ho] at h; cases h
  · rw [if_neg ho] at h
    exact ⟨by omega, h⟩

theorem lookE_of {d : Nat} {o : Int} {l : List VT} (ho : 0 ≤ o ∧ o < 6) (h : listErr d l = 0) : lookE d o l = 0 := by
  unfold lookE
  rw [if_neg (by omega)]
  exact h

/-- What the statement needs of two lists. -/
theorem again_facts {d : Nat} {o : Int} {l m : List VT} {w : World} {u v : Value} (hu : Lies (d + 1) w l u) (hv : Lies (d + 1) w m v) (h1 : lookE d o l = 0) (h2 : lookE d o m = 0) (hlen : l.length + m.length ≤ 65536) :
    lookE 16 o (srtV o.toNat l) = 0 ∧ mergeE 16 o (srtV o.toNat l) (srtV o.toNat m) = 0 ∧ lookE d o (l ++ m) = 0 ∧ srtV o.toNat (srtV o.toNat l) = srtV o.toNat l ∧ mrg (ltO o.toNat) (srtV o.toNat l) (srtV o.toNat m) = srtV o.toNat (l ++ m) := by
  obtain ⟨ho, e1⟩ := lookE_pos h1
  obtain ⟨_, e2⟩ := lookE_pos h2
  have g1 := good_of hu e1
  have g2 := good_of hv e2
  have g1' : ∀ x ∈ srtV o.toNat l, Good 16 x := fun x hx => g1 x (srtV_mem hx)
  have g2' : ∀ x ∈ srtV o.toNat m, Good 16 x := fun x hx => g2 x (srtV_mem hx)
  have k1 : lookE 16 o (srtV o.toNat l) = 0 := lookE_of ho (listErr_right (by rw [srtV_len]; omega) g1')
  have k2 : listErr 16 (srtV o.toNat m) = 0 := listErr_right (by rw [srtV_len]; omega) g2'
  refine ⟨k1, ?_, lookE_of ho ?_, srtV_again _ l g1, mrg_srt _ l m g1 g2⟩
  · unfold mergeE
    rw [if_neg (fun c => c k1), if_neg (fun c => c k2), if_neg (by rw [srtV_len, srtV_len]; omega), if_pos ⟨up_upB (srtV_up _ l), up_upB (srtV_up _ m)⟩]
  · obtain ⟨_, r1⟩ := listErr_zero e1
    obtain ⟨_, r2⟩ := listErr_zero e2
    unfold listErr
    rw [if_neg (by rw [List.length_append]; omega), if_pos (List.all_eq_true.2 fun x hx => by
      rcases List.mem_append.1 hx with h | h
      · exact r1 x h
      · exact r2 x h)]

set_option maxRecDepth 100000 in
set_option maxHeartbeats 8000000 in
theorem again_walk (o : Int) (d : Nat) (l m : List VT) (u v : Value) (w : World) (hu : Lies (d + 1) w l u) (hv : Lies (d + 1) w m v) : Calls Try.prog 4 #[.int .i64 o, u, v] w fun e w' => e = .returned (.bool true) ∧ Below w.heap.size w w' := by
  have hsp : Hid (∀ w, Calls Try.prog 6 #[] w fun e w' => e = .returned (.bool true) ∧ Below w.heap.size w w') := speaks_any
  have Hfacts : Hid (lookE d o l = 0 → lookE d o m = 0 → l.length + m.length ≤ 65536 → lookE 16 o (srtV o.toNat l) = 0 ∧ mergeE 16 o (srtV o.toNat l) (srtV o.toNat m) = 0 ∧ lookE d o (l ++ m) = 0 ∧ srtV o.toNat (srtV o.toNat l) = srtV o.toNat l ∧ mrg (ltO o.toNat) (srtV o.toNat l) (srtV o.toNat m) = srtV o.toNat (l ++ m)) := fun h1 h2 h3 => again_facts hu hv h1 h2 h3
  obtain ⟨i0, hi, hz0, hz1, hz2⟩ := info24
  have Hi : Hid _ := hi; have Hz0 : Hid _ := hz0; have Hz1 : Hid _ := hz1; have Hz2 : Hid _ := hz2
  clear hi hz0 hz1 hz2
  obtain ⟨aa, ca, rfl, hla, ps, hps, hsp1, hrow1⟩ := Lies.row hu
  obtain ⟨ab, cb, rfl, hlb, qs, hqs, hsp2, hrow2⟩ := Lies.row hv
  have HU : Hid (Lies (d + 1) w l (.slice aa l.length ca)) := hu
  have HV : Hid (Lies (d + 1) w m (.slice ab m.length cb)) := hv
  have HP : Hid (ps.length = l.length ∧ ps.map (·.1) = l ∧ ∀ p ∈ ps, Sound d w p) := ⟨by rw [← hps]; simp, hps, hsp1⟩
  have HQ : Hid (qs.length = m.length ∧ qs.map (·.1) = m ∧ ∀ p ∈ qs, Sound d w p) := ⟨by rw [← hqs]; simp, hqs, hsp2⟩
  have HN1 : Hid (aa = none → l.length = 0) := fun e => by
    by_cases hne : l = []
    · rw [hne]; rfl
    · obtain ⟨b, oo, ha, _⟩ := hrow1 hne
      rw [ha] at e; cases e
  have HN2 : Hid (ab = none → m.length = 0) := fun e => by
    by_cases hne : m = []
    · rw [hne]; rfl
    · obtain ⟨b, oo, ha, _⟩ := hrow2 hne
      rw [ha] at e; cases e
  have HF1 : Hid (∀ W, Below w.heap.size w W → ∀ ad, aa = some ad → ∀ j z, (ps.flatMap encP)[j]? = some z → W.cell? (ad.add j) = some z) := fun W hW ad e j z hj => by
    by_cases hne : l = []
    · have : ps = [] := List.eq_nil_of_length_eq_zero (by rw [HP.out.1, hne]; rfl)
      rw [this] at hj; simp at hj
    · obtain ⟨b, oo, ha, hr⟩ := hrow1 hne
      rw [ha] at e
      injection e with e
      subst e
      rw [add_addr5]
      exact (hr.keeps hW).flat j z hj
  have HF2 : Hid (∀ W, Below w.heap.size w W → ∀ ad, ab = some ad → ∀ j z, (qs.flatMap encP)[j]? = some z → W.cell? (ad.add j) = some z) := fun W hW ad e j z hj => by
    by_cases hne : m = []
    · have : qs = [] := List.eq_nil_of_length_eq_zero (by rw [HQ.out.1, hne]; rfl)
      rw [this] at hj; simp at hj
    · obtain ⟨b, oo, ha, hr⟩ := hrow2 hne
      rw [ha] at e
      injection e with e
      subst e
      rw [add_addr5]
      exact (hr.keeps hW).flat j z hj
  have HO1 : Hid (∀ z ∈ ps.flatMap encP, z.oneCell' = true) := fun z hz => by
    obtain ⟨p, hp, hz⟩ := List.mem_flatMap.1 hz
    exact encP_one (hsp1 p hp) z hz
  have HO2 : Hid (∀ z ∈ qs.flatMap encP, z.oneCell' = true) := fun z hz => by
    obtain ⟨p, hp, hz⟩ := List.mem_flatMap.1 hz
    exact encP_one (hsp2 p hp) z hz
  have HL1 : Hid ((ps.flatMap encP).length = l.length * 4) := by show _ = _; rw [flat_len, HP.out.1]
  have HL2 : Hid ((qs.flatMap encP).length = m.length * 4) := by show _ = _; rw [flat_len, HQ.out.1]
  clear hu hv hps hqs hsp1 hsp2 hrow1 hrow2
  go_enter Try.func4, Try.ntmps4
  go_wp2_with fail
  refine (sort6_any d o l _ _ HU.out).mono ?_
  rintro e w1 (⟨h1, rfl, hb1⟩ | ⟨h1, v1, rfl, hL1, hb1⟩)
  · have h1' : ¬ lookE d o l = 0 := h1
    clear Hfacts
    generalize lookE d o l = E1 at *
    go_wp2_with fail
    refine (sort6_any d o m _ _ (Lies.keeps hb1 _ _ _ HV.out)).mono ?_
    rintro e w2 (⟨h2, rfl, hb⟩ | ⟨h2, v2, rfl, _, hb⟩)
    · have hb2 : Below w.heap.size w w2 := hb1.trans (hb.mono hb1.size)
      clear hb h2
      generalize lookE d o m = E2 at *
      go_wp2_with fail
      refine (hsp.out _).mono ?_
      rintro e ws ⟨rfl, hb⟩
      have hbs : Below w.heap.size w ws := hb2.trans (hb.mono hb2.size)
      clear hb
      go_wp2_with fail
      go_ret
      exact ⟨rfl, hbs⟩
    · have hb2 : Below w.heap.size w w2 := hb1.trans (hb.mono hb1.size)
      clear hb h2
      go_wp2_with fail
      refine (hsp.out _).mono ?_
      rintro e ws ⟨rfl, hb⟩
      have hbs : Below w.heap.size w ws := hb2.trans (hb.mono hb2.size)
      clear hb
      go_wp2_with fail
      go_ret
      exact ⟨rfl, hbs⟩
  · go_wp2_with fail
    refine (sort6_any d o m _ _ (Lies.keeps hb1 _ _ _ HV.out)).mono ?_
    rintro e w2 (⟨h2, rfl, hb⟩ | ⟨h2, v2, rfl, hL2, hb⟩)
    · have hb2 : Below w.heap.size w w2 := hb1.trans (hb.mono hb1.size)
      have h2' : ¬ lookE d o m = 0 := h2
      clear hb h2 Hfacts hL1
      generalize lookE d o m = E2 at *
      go_wp2_with fail
      refine (hsp.out _).mono ?_
      rintro e ws ⟨rfl, hb⟩
      have hbs : Below w.heap.size w ws := hb2.trans (hb.mono hb2.size)
      clear hb
      go_wp2_with fail
      go_ret
      exact ⟨rfl, hbs⟩
    · have hb2 : Below w.heap.size w w2 := hb1.trans (hb.mono hb1.size)
      have HA2 : Hid (Lies 17 w2 (srtV o.toNat l) v1) := Lies.keeps hb _ _ _ (LiesB.lies _ _ _ hL1)
      have HB2 : Hid (Lies 17 w2 (srtV o.toNat m) v2) := LiesB.lies _ _ _ hL2
      clear hb hL1 hL2 hb1
      have hla2 : l.length ≤ 65536 := (listErr_zero (lookE_pos h1).2).1
      have hlb2 : m.length ≤ 65536 := (listErr_zero (lookE_pos h2).2).1
      by_cases hlong : 65536 < l.length + m.length
      · have hlong' : (65536 : Int) < (l.length : Int) + (m.length : Int) := by omega
        clear Hfacts
        go_wp2_with fail
        refine (hsp.out _).mono ?_
        rintro e ws ⟨rfl, hb⟩
        have hbs : Below w.heap.size w ws := hb2.trans (hb.mono hb2.size)
        clear hb
        go_wp2_with fail
        go_ret
        exact ⟨rfl, hbs⟩
      · have hlong' : ¬ (65536 : Int) < (l.length : Int) + (m.length : Int) := by omega
        have hll : l.length + m.length ≤ 65536 := by omega
        have HF : Hid _ := Hfacts.out h1 h2 hll
        clear Hfacts h1 h2 hlong
        go_wp2_with fail
        refine (sort6_any 16 o (srtV o.toNat l) _ _ HA2.out).mono ?_
        rintro e w3 (⟨h3, _⟩ | ⟨_, v3, rfl, hL3, hb⟩)
        · exact absurd HF.out.1 h3
        have hb3 : Below w.heap.size w w3 := hb2.trans (hb.mono hb2.size)
        rw [HF.out.2.2.2.1] at hL3
        have HA3 : Hid (Lies 17 w3 (srtV o.toNat l) v1) := Lies.keeps hb _ _ _ HA2.out
        have HB3 : Hid (Lies 17 w3 (srtV o.toNat m) v2) := Lies.keeps hb _ _ _ HB2.out
        have HC3 : Hid (Lies 17 w3 (srtV o.toNat l) v3) := LiesB.lies _ _ _ hL3
        clear hb hL3 hb2 HA2 HB2
        go_wp2_with fail
        refine (merge6_any 16 o (srtV o.toNat l) (srtV o.toNat m) _ _ _ HA3.out HB3.out).mono ?_
        rintro e w4 (⟨h4, _⟩ | ⟨_, v4, rfl, hL4, hb⟩)
        · exact absurd HF.out.2.1 h4
        have hb4 : Below w.heap.size w w4 := hb3.trans (hb.mono hb3.size)
        rw [HF.out.2.2.2.2] at hL4
        have HA4 : Hid (Lies 17 w4 (srtV o.toNat l) v1) := Lies.keeps hb _ _ _ HA3.out
        have HC4 : Hid (Lies 17 w4 (srtV o.toNat l) v3) := Lies.keeps hb _ _ _ HC3.out
        have HX4 : Hid (Lies 17 w4 (srtV o.toNat (l ++ m)) v4) := LiesB.lies _ _ _ hL4
        clear hb hL4 hb3 HA3 HB3 HC3
        have hsz4 := hb4.size
        have Hown0 : Hid (w4.ownsRow w4.heap.size 24 4 (.slice none 0 0) 0 []) := World.ownsRow_nil _ _ _ _
        go_wp2_with (first
          | (at_builtin; refine wpList_append_row rfl _ _ rfl w4.heap.size i0 Hi.out Hz0.out Hz1.out Hz2.out _ _ _ rfl Hown1.out ab m.length cb (qs.flatMap encP) rfl HN2.out HL2.out (HF2.out _ hb5) HO2.out (by unfold maxLen; omega) (by omega) hsz5 ?_; intro v6 w6 hown6 hgrow6)
          | (at_builtin; refine wpList_append_row rfl _ _ rfl w4.heap.size i0 Hi.out Hz0.out Hz1.out Hz2.out _ _ _ rfl Hown0.out aa l.length ca (ps.flatMap encP) rfl HN1.out HL1.out (HF1.out _ hb4) HO1.out (by unfold maxLen; omega) (by omega) (Nat.le_refl _) ?_; intro v5 w5 hown5 hgrow5; have hg5 : Below w4.heap.size w4 w5 := own_growM (Below.refl _ _) (Nat.le_refl _) Hown0.out hgrow5; have hb5 : Below w.heap.size w w5 := hb4.trans (hg5.mono hsz4); have hsz5 : w4.heap.size ≤ w5.heap.size := hg5.size; have Hown1 : Hid (w5.ownsRow w4.heap.size 24 4 v5 (0 + l.length) ([] ++ ps.flatMap encP)) := hown5; clear hown5 hgrow5))
        have hg6 : Below w4.heap.size w4 w6 := own_growM hg5 hsz5 Hown1.out hgrow6
        have hb6 : Below w.heap.size w w6 := hb4.trans (hg6.mono hsz4)
        have hboth : Lies (d + 1) w6 (l ++ m) v6 := by
          have hown7 : w6.ownsRow w4.heap.size 24 4 v6 (0 + l.length + m.length) ((ps ++ qs).flatMap encP) := by
            rw [List.flatMap_append]
            simpa using hown6
          have := own_lies (d := d) (ps := ps ++ qs) (by rw [List.length_append, HP.out.1, HQ.out.1]; omega) hown7 (fun p hp => by
            rcases List.mem_append.1 hp with h | h
            · exact (HP.out.2.2 p h).keeps hb6
            · exact (HQ.out.2.2 p h).keeps hb6) (by rw [List.length_append, HP.out.1, HQ.out.1]; omega)
          rwa [List.map_append, HP.out.2.1, HQ.out.2.1] at this
        obtain ⟨a6, c6, rfl, _⟩ := Lies.slice hboth
        have HBO : Hid (Lies (d + 1) w6 (l ++ m) (.slice a6 (l ++ m).length c6)) := hboth
        have HA6 : Hid (Lies 17 w6 (srtV o.toNat l) v1) := Lies.keeps hg6 _ _ _ HA4.out
        have HC6 : Hid (Lies 17 w6 (srtV o.toNat l) v3) := Lies.keeps hg6 _ _ _ HC4.out
        have HX6 : Hid (Lies 17 w6 (srtV o.toNat (l ++ m)) v4) := Lies.keeps hg6 _ _ _ HX4.out
        clear hboth hown6 hgrow6 hg6 hg5 hb5 hb4 Hown1 Hown0 HA4 HC4 HX4 HF1 HF2 hsz4 hsz5
        go_wp2_with fail
        refine (sort6_any d o (l ++ m) _ _ HBO.out).mono ?_
        rintro e w7 (⟨h7, _⟩ | ⟨_, v7, rfl, hL7, hb⟩)
        · exact absurd HF.out.2.2.1 h7
        have hb7 : Below w.heap.size w w7 := hb6.trans (hb.mono hb6.size)
        have HA7 : Hid (Lies 17 w7 (srtV o.toNat l) v1) := Lies.keeps hb _ _ _ HA6.out
        have HC7 : Hid (Lies 17 w7 (srtV o.toNat l) v3) := Lies.keeps hb _ _ _ HC6.out
        have HX7 : Hid (Lies 17 w7 (srtV o.toNat (l ++ m)) v4) := Lies.keeps hb _ _ _ HX6.out
        have HY7 : Hid (Lies 17 w7 (srtV o.toNat (l ++ m)) v7) := LiesB.lies _ _ _ hL7
        clear hb hL7 hb6 HBO HA6 HC6 HX6
        go_wp2_with fail
        refine (values_one 16 (srtV o.toNat l) _ _ _ HA7.out HC7.out (by rw [srtV_len]; omega)).mono ?_
        rintro e w8 ⟨rfl, hb⟩
        have hb8 : Below w.heap.size w w8 := hb7.trans (hb.mono hb7.size)
        have HX8 : Hid (Lies 17 w8 (srtV o.toNat (l ++ m)) v4) := Lies.keeps hb _ _ _ HX7.out
        have HY8 : Hid (Lies 17 w8 (srtV o.toNat (l ++ m)) v7) := Lies.keeps hb _ _ _ HY7.out
        clear hb hb7 HA7 HC7 HX7 HY7
        go_wp2_with fail
        refine (values_one 16 (srtV o.toNat (l ++ m)) _ _ _ HX8.out HY8.out (by rw [srtV_len, List.length_append]; omega)).mono ?_
        rintro e w9 ⟨rfl, hb⟩
        have hb9 : Below w.heap.size w w9 := hb8.trans (hb.mono hb8.size)
        clear hb hb8 HX8 HY8
        go_wp2_with fail
        refine (hsp.out _).mono ?_
        rintro e ws ⟨rfl, hb⟩
        have hbs : Below w.heap.size w ws := hb9.trans (hb.mono hb9.size)
        clear hb
        go_wp2_with fail
        go_ret
        exact ⟨rfl, hbs⟩

theorem again_walk2 (o : Int) (n k : Nat) (l m : List VT) (u v : Value) (w : World) (hu : Lies n w l u) (hv : Lies k w m v) : Calls Try.prog 4 #[.int .i64 o, u, v] w fun e w' => e = .returned (.bool true) ∧ Below w.heap.size w w' :=
  again_walk o (max n k) l m u v w (hu.atLeast _ (by omega)) (hv.atLeast _ (by omega))

end Go.Proofs.Ytlmnkjnplaebgaa
