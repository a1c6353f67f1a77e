/-
  The contract of the document's Least, and the walk of OrderSorts.
-/
import Derived.Test.YtacnfmamjbmhcabGreatRMerge
import Derived.Test.YtacnfmamjbmhcabGreatMinM
import Derived.Test.YtacnfmamjbmhcabGreatRIn
namespace Go.Proofs.YtacnfmamjbmhcabGreat
open Go.RowKit Go.Shelf

set_option maxRecDepth 100000 in
set_option maxHeartbeats 8000000 in
theorem rline_core (q : Nat) (hq : q < 6) (k : Nat) (l : List VT) (u : Value) (w : World) (hu : Lies 17 w l u) (hg : ∀ x ∈ l, rightV 16 x = true) (hlen : l.length ≤ 65536)
    (ih : Hid (2 ≤ l.length → ∀ (m : List VT) (v : Value) (W : World), m.length ≤ l.length - 1 → (∀ x ∈ m, rightV 16 x = true) → Lies 17 W m v → Calls Tryz.prog 23 #[.int .i64 q, v] W fun e W' => ∃ v, e = .returned v ∧ Lies 17 W' (srt (ltO q) k m) v ∧ Below W.heap.size W W')) :
    Calls Tryz.prog 23 #[.int .i64 q, u] w fun e w' => ∃ v, e = .returned v ∧ Lies 17 w' (srt (ltO q) (k + 1) l) v ∧ Below w.heap.size w w' := by
  have HG : Hid (∀ x ∈ l, rightV 16 x = true) := hg
  clear hg
  by_cases h2 : l.length < 2
  · have Hr : Hid (srt (ltO q) (k + 1) l = l) := by show _ = _; unfold srt; rw [if_pos h2]
    generalize srt (ltO q) (k + 1) l = R at *
    obtain ⟨aa, ca, rfl, _, ps, hps, hsd, hrow⟩ := Lies.row hu
    have lp : ps.length = l.length := by rw [← hps]; simp
    have HN : Hid (aa = none → l.length = 0) := fun e => by
      by_cases hne : l = []
      · rw [hne]; rfl
      · obtain ⟨b, oo, ha, _⟩ := hrow hne
        rw [ha] at e; cases e
    have HF : Hid (∀ W, Below w.heap.size w W → ∀ ad, aa = some ad → ∀ j z, (ps.flatMap encP)[j]? = some z → W.cell? (ad.add j) = some z) := fun W hW ad e j z hj => by
      by_cases hne : l = []
      · have : ps = [] := List.eq_nil_of_length_eq_zero (by rw [lp, hne]; rfl)
        rw [this] at hj; simp at hj
      · obtain ⟨b, oo, ha, hr⟩ := hrow hne
        rw [ha] at e
        injection e with e
        subst e
        rw [add_addr5]
        exact (hr.keeps hW).flat j z hj
    have HO : Hid (∀ z ∈ ps.flatMap encP, z.oneCell' = true) := fun z hz => by
      obtain ⟨p, hp, hz⟩ := List.mem_flatMap.1 hz
      exact encP_one (hsd p hp) z hz
    have HL : Hid ((ps.flatMap encP).length = l.length * 4) := by show _ = _; rw [flat_len, lp]
    have HP : Hid (ps.length = l.length ∧ ps.map (·.1) = l ∧ ∀ p ∈ ps, Sound 16 w p) := ⟨lp, hps, hsd⟩
    obtain ⟨i0, hi, hz0, hz1, hz2⟩ := info24
    have Hi : Hid _ := hi; have Hz0 : Hid _ := hz0; have Hz1 : Hid _ := hz1; have Hz2 : Hid _ := hz2
    have h2' : (l.length : Int) < 2 := by omega
    have Hown0 : Hid ((w.alloc (.cells #[] 33)).ownsRow w.heap.size 33 4 (.slice (some ⟨w.heap.size, 0, none⟩) 0 0) 0 []) := World.ownsRow_made w #[] 0 (Nat.le_refl _) (by unfold maxLen; omega) rfl
    have hb0 : Below w.heap.size w (w.alloc (.cells #[] 33)) := ((Grew.refl w).alloc _).below
    clear ih hu hps hsd hrow lp hi hz0 hz1 hz2
    go_enter Tryz.func23, Tryz.ntmps23
    go_wp2_with (at_builtin; refine wpList_append_row rfl _ _ rfl w.heap.size i0 Hi.out Hz0.out Hz1.out Hz2.out _ _ _ rfl Hown0.out aa l.length ca (ps.flatMap encP) rfl HN.out HL.out (HF.out _ hb0) HO.out (by unfold maxLen; omega) (by omega) (by simp) ?_; intro v5 w5 hown5 hgrow5)
    have hb5 : Below w.heap.size w w5 := own_growM hb0 (by simp) Hown0.out hgrow5
    have hfin : Lies 17 w5 l v5 := by
      have := own_lies (d := 16) (ps := ps) (n := 0 + l.length) (by rw [HP.out.1]; omega) (by simpa using hown5) (fun p hp => (HP.out.2.2 p hp).keeps hb5) (by rw [HP.out.1]; omega)
      rwa [HP.out.2.1] at this
    go_ret
    exact ⟨_, rfl, by rw [Hr.out]; exact hfin, hb5⟩
  · have Hr : Hid (srt (ltO q) (k + 1) l = mrg (ltO q) (srt (ltO q) k (l.take (l.length / 2))) (srt (ltO q) k (l.drop (l.length / 2)))) := srt_step _ _ _ h2
    have Ih : Hid _ := ih.out (by omega)
    obtain ⟨a, c, rfl, hb0, hr0⟩ := id hu
    obtain ⟨b, o, rfl, _⟩ := hr0 (fun e => by rw [e] at h2; simp at h2)
    obtain ⟨h, hh⟩ : ∃ h, h = l.length / 2 := ⟨_, rfl⟩
    rw [← hh] at Hr
    have hle : h ≤ l.length := by omega
    have HS1 : Hid (Lies 17 w (l.take h) (.slice (some ⟨b, o, none⟩) h c)) := Lies.taken hu h hle
    have HS2 : Hid (Lies 17 w (l.drop h) (.slice (some ⟨b, o + h * 4, none⟩) (l.length - h) (c - h))) := Lies.dropped hu h
    have Hl1 : Hid ((l.take h).length ≤ l.length - 1) := by show _ ≤ _; rw [List.length_take]; omega
    have Hl2 : Hid ((l.drop h).length ≤ l.length - 1) := by show _ ≤ _; rw [List.length_drop]; omega
    have Hl3 : Hid ((srt (ltO q) k (l.take h)).length + (srt (ltO q) k (l.drop h)).length ≤ 65536) := by show _ ≤ _; rw [srt_len, srt_len, List.length_take, List.length_drop]; omega
    have HG1 : Hid (∀ x ∈ l.take h, rightV 16 x = true) := fun x hx => HG.out x (List.mem_of_mem_take hx)
    have HG2 : Hid (∀ x ∈ l.drop h, rightV 16 x = true) := fun x hx => HG.out x (List.mem_of_mem_drop hx)
    have Hbo : Hid _ := fun (u v : Value) (W : World) h1 h2 => both17 q hq (srt (ltO q) k (l.take h)) (srt (ltO q) k (l.drop h)) u v W h1 h2 (fun x hx => HG1.out x (srt_mem _ _ _ _ hx)) (fun x hx => HG2.out x (srt_mem _ _ _ _ hx)) Hl3.out
    generalize srt (ltO q) (k + 1) l = R at *
    have h2' : ¬ (l.length : Int) < 2 := by omega
    have hq2 : ((l.length : Nat) : Int) / 2 = ((h : Nat) : Int) := by omega
    have hle' : ((h : Nat) : Int) ≤ (l.length : Nat) := by omega
    have hmc : l.length ≤ c := hb0.1
    have hcc : h ≤ c := by omega
    have hcc' : ((h : Nat) : Int) ≤ (c : Nat) := by omega
    have hcn : ¬ ((c : Nat) : Int) = (h : Nat) := by omega
    have hcn2 : ¬ c = h := by omega
    have hmc' : (l.length : Int) ≤ (c : Nat) := by omega
    clear hh ih h2 hb0 hr0 hu
    go_enter Tryz.func23, Tryz.ntmps23
    go_wp2_with fail
    go_region_held3 (fun _ => True) (first | trivial | go_keep)
      (first
        | (go_at_call 38; refine (Hbo.out _ _ _ HT1.out HT2.out).mono ?_; rintro e w3 ⟨v3, rfl, hs3, hg3⟩; have hb3 : Below w.heap.size w w3 := hb2.trans (hg3.mono hb2.size); have HT3 : Hid _ := hs3; clear hs3 hg3)
        | (go_at_call 23; refine (Ih.out (l.drop h) _ _ Hl2.out HG2.out (Lies.keeps hb1 _ _ _ HS2.out)).mono ?_; rintro e w2 ⟨v2, rfl, hs2, hg2⟩; have hb2 : Below w.heap.size w w2 := hb1.trans (hg2.mono hb1.size); have HT2 : Hid (Lies 17 w2 (srt (ltO q) k (l.drop h)) v2) := hs2; have HT1 : Hid (Lies 17 w2 (srt (ltO q) k (l.take h)) v1) := Lies.keeps hg2 _ _ _ HT0.out; clear hs2 hg2)
        | (go_at_call 23; refine (Ih.out (l.take h) _ _ Hl1.out HG1.out (Lies.keeps (Below.refl _ _).drew _ _ _ HS1.out)).mono ?_; rintro e w1 ⟨v1, rfl, hs1, hg1⟩; have hb1 : Below w.heap.size w w1 := (Below.refl _ _).drew.trans hg1; have HT0 : Hid (Lies 17 w1 (srt (ltO q) k (l.take h)) v1) := hs1; clear hs1 hg1))
    go_wp2_with fail
    go_ret
    exact ⟨_, rfl, by rw [Hr.out]; exact HT3.out, hb3⟩

theorem rline_any (q : Nat) (hq : q < 6) : ∀ (k : Nat) (l : List VT) (u : Value) (w : World), Lies 17 w l u → (∀ x ∈ l, rightV 16 x = true) → l.length ≤ 65536 → l.length ≤ k + 1 →
    Calls Tryz.prog 23 #[.int .i64 q, u] w fun e w' => ∃ v, e = .returned v ∧ Lies 17 w' (srt (ltO q) (k + 1) l) v ∧ Below w.heap.size w w' := by
  intro k
  induction k with
  | zero => intro l u w hu hg hlen hk; exact rline_core q hq 0 l u w hu hg hlen (fun h => by omega)
  | succ k ih => intro l u w hu hg hlen hk; exact rline_core q hq (k + 1) l u w hu hg hlen (fun _ m v W hm hgm hv => ih m v W hv hgm (by omega) (by omega))

end Go.Proofs.YtacnfmamjbmhcabGreat

namespace Go.Proofs.YtacnfmamjbmhcabGreat
open Go.RowKit Go.Shelf

/-- The list that Sort tells. -/
def sortL (d : Nat) (o : Int) (l : List VT) : List VT := if lookE d o l = 0 then srtV o.toNat l else []

/-- A list and a number are told. -/
def ListPost (L : List VT) (E : Int) (W : World) (e : Ending) (W' : World) : Prop := ∃ v, e = .returned (.tuple #[v, .int .i64 E]) ∧ Lies 17 W' L v ∧ Below W.heap.size W W'

theorem lies_none (w : World) : Lies 17 w [] (.slice none 0 0) := ⟨none, 0, rfl, by simp, fun h => absurd rfl h⟩

theorem sortG_any (d : Nat) (o : Int) (l : List VT) (u : Value) (w : World) (hu : Lies (d + 1) w l u) : Calls Tryz.prog 6 #[.int .i64 o, u] w (ListPost (sortL d o l) (lookE d o l) w) := by
  refine (sort6_any d o l u w hu).mono ?_
  rintro e w' (⟨h, rfl, hb⟩ | ⟨h, v, rfl, hL, hb⟩)
  · exact ⟨_, rfl, by unfold sortL; rw [if_neg h]; exact lies_none _, hb⟩
  · exact ⟨v, by rw [h], by unfold sortL; rw [if_pos h]; exact LiesB.lies _ _ _ hL, hb⟩

/-- What is known of a list that fits. -/
theorem fits_facts {d : Nat} {o : Int} {l : List VT} {w : World} {u : Value} (hu : Lies (d + 1) w l u) (h : lookE d o l = 0) : (0 ≤ o ∧ o < 6) ∧ l.length ≤ 65536 ∧ Lies 17 w l u ∧ ∀ x ∈ l, rightV 16 x = true := by
  have h0 := (lookE_pos h).2
  have g := good_of hu h0
  exact ⟨(lookE_pos h).1, (listErr_zero6 h0).1, Lies.lower 17 (d + 1) l u hu (fun e => by cases e) (fun x hx => (g x hx).2), fun x hx => (g x hx).1⟩

set_option maxHeartbeats 2000000 in
theorem rsortG_any (d : Nat) (o : Int) (l : List VT) (u : Value) (w : World) (hu : Lies (d + 1) w l u) : Calls Tryz.prog 7 #[.int .i64 o, u] w (ListPost (sortL d o l) (lookE d o l) w) := by
  have Hf : Hid (lookE d o l = 0 → (0 ≤ o ∧ o < 6) ∧ l.length ≤ 65536 ∧ Lies 17 w l u ∧ ∀ x ∈ l, rightV 16 x = true) := fits_facts hu
  have HF := fun W (hW : Below w.heap.size w W) => rfit_any d o l u W (Lies.keeps hW _ _ _ hu)
  have Hfit : Hid _ := HF
  have H1 : Hid (lookE d o l ≠ 0 → sortL d o l = []) := fun h => by unfold sortL; rw [if_neg h]
  have H2 : Hid (lookE d o l = 0 → sortL d o l = srtV o.toNat l) := fun h => by unfold sortL; rw [if_pos h]
  generalize sortL d o l = L at *
  generalize lookE d o l = E at *
  obtain ⟨a, c, rfl, _⟩ := Lies.slice hu
  clear hu HF
  go_enter Tryz.func7, Tryz.ntmps7
  go_wp2_with fail
  refine (Hfit.out _ (Below.refl _ _)).mono ?_
  rintro e w1 ⟨rfl, hb1⟩
  by_cases h0 : E = 0
  · obtain ⟨ho, hlen, hL, hg⟩ := Hf.out h0
    have hLe := H2.out h0
    obtain ⟨q, rfl⟩ : ∃ q : Nat, o = q := ⟨o.toNat, by omega⟩
    have hq : q < 6 := by omega
    have HL : Hid (L = srt (ltO q) (l.length + 1) l) := by show _ = _; rw [hLe]; simp [srtV]
    have HLL : Hid (Lies 17 w l (.slice a l.length c) ∧ ∀ x ∈ l, rightV 16 x = true) := ⟨hL, hg⟩
    subst h0
    clear H1 H2 hLe Hf Hfit hL hg ho
    go_wp2_with fail
    refine (rline_any q hq l.length l _ _ (Lies.keeps hb1 _ _ _ HLL.out.1) HLL.out.2 hlen (by omega)).mono ?_
    rintro e w2 ⟨v2, rfl, hL2, hb⟩
    have hb2 : Below w.heap.size w w2 := hb1.trans (hb.mono hb1.size)
    have HL2 : Hid (Lies 17 w2 L v2) := by show Lies _ _ _ _; rw [HL.out]; exact hL2
    clear hb hL2 hb1
    go_wp2_with fail
    go_ret2
    exact ⟨_, rfl, HL2.out, hb2⟩
  · have hLe := H1.out h0
    subst hLe
    have h0' : ¬ E = 0 := h0
    clear H1 H2 Hf Hfit h0
    go_wp2_with fail
    go_ret2
    exact ⟨_, rfl, lies_none _, hb1⟩

set_option maxHeartbeats 2000000 in
theorem rsortedP_any (d : Nat) (o : Int) (l : List VT) (u : Value) (w : World) (hu : Lies (d + 1) w l u) : Calls Tryz.prog 9 #[.int .i64 o, u] w fun e w' => e = .returned (.tuple #[.bool (sortedV d o l), .int .i64 (lookE d o l)]) ∧ Below w.heap.size w w' := by
  have Hf : Hid (lookE d o l = 0 → (0 ≤ o ∧ o < 6) ∧ l.length ≤ 65536 ∧ Lies 17 w l u ∧ ∀ x ∈ l, rightV 16 x = true) := fits_facts hu
  have HF := fun W (hW : Below w.heap.size w W) => rfit_any d o l u W (Lies.keeps hW _ _ _ hu)
  have Hfit : Hid _ := HF
  have H1 : Hid (lookE d o l ≠ 0 → sortedV d o l = false) := fun h => by unfold sortedV; rw [if_neg h]
  have H2 : Hid (lookE d o l = 0 → sortedV d o l = upB (ordV o.toNat) l) := fun h => by unfold sortedV; rw [if_pos h]
  generalize sortedV d o l = B at *
  generalize lookE d o l = E at *
  obtain ⟨a, c, rfl, _⟩ := Lies.slice hu
  clear hu HF
  go_enter Tryz.func9, Tryz.ntmps9
  go_wp2_with fail
  refine (Hfit.out _ (Below.refl _ _)).mono ?_
  rintro e w1 ⟨rfl, hb1⟩
  by_cases h0 : E = 0
  · obtain ⟨ho, hlen, hL, hg⟩ := Hf.out h0
    have hBe := H2.out h0
    obtain ⟨q, rfl⟩ : ∃ q : Nat, o = q := ⟨o.toNat, by omega⟩
    have hq : q < 6 := by omega
    have HB : Hid (B = upB (ordV q) l) := by show _ = _; rw [hBe]; simp
    have HLL : Hid (Lies 17 w l (.slice a l.length c) ∧ ∀ x ∈ l, rightV 16 x = true) := ⟨hL, hg⟩
    subst h0
    clear H1 H2 hBe Hf Hfit hL hg ho
    go_wp2_with fail
    refine (rin_any q hq l _ _ (Lies.keeps hb1 _ _ _ HLL.out.1) HLL.out.2 hlen).mono ?_
    rintro e w2 ⟨rfl, hb⟩
    have hb2 : Below w.heap.size w w2 := hb1.trans (hb.mono hb1.size)
    rw [← HB.out]
    clear hb hb1
    go_wp2_with fail
    go_ret2
    exact ⟨rfl, hb2⟩
  · have hBe := H1.out h0
    subst hBe
    have h0' : ¬ E = 0 := h0
    clear H1 H2 Hf Hfit h0
    go_wp2_with fail
    go_ret2
    exact ⟨rfl, hb1⟩

end Go.Proofs.YtacnfmamjbmhcabGreat

namespace Go.Proofs.YtacnfmamjbmhcabGreat
open Go.RowKit Go.Shelf

/-- What stands before a round of Least. -/
structure LstV (w : World) (g : VT → VT → Int) (R : VT) (l : List VT) (wr : World) (B k : Nat) (t : VT) (x : Value) : Prop where
  eq : leastF g t (l.drop k) = R
  good : Lies 16 w t.items x ∧ rightV 16 t = true
  box : Bx wr B t x
  res : Bx wr w.heap.size zeroT (.slice none 0 0)
  below : Below w.heap.size w wr
  far : w.heap.size < B

set_option maxRecDepth 100000 in
set_option maxHeartbeats 8000000 in
theorem rleast_any (d : Nat) (o : Int) (l : List VT) (u : Value) (w : World) (hu : Lies (d + 1) w l u) (R : VT) (hs : Hid (R = if leastE d o l = 0 then leastT o.toNat l else zeroT)) : Calls Tryz.prog 11 #[.int .i64 o, u] w (LeastPost R (leastE d o l) w) := by
  have Hf : Hid (lookE d o l = 0 → (0 ≤ o ∧ o < 6) ∧ l.length ≤ 65536 ∧ Lies 17 w l u ∧ ∀ x ∈ l, rightV 16 x = true) := fits_facts hu
  have HF := fun W (hW : Below w.heap.size w W) => rfit_any d o l u W (Lies.keeps hW _ _ _ hu)
  have Hfit : Hid _ := HF
  obtain ⟨a, c, rfl, _⟩ := Lies.slice hu
  clear hu HF
  have H1 : Hid (lookE d o l ≠ 0 → leastE d o l = lookE d o l) := fun h => by unfold leastE; rw [if_pos h]
  have H2 : Hid (lookE d o l = 0 → l.length = 0 → leastE d o l = 6) := fun h k => by unfold leastE; rw [if_neg (fun c => c h), if_pos k]
  have H3 : Hid (lookE d o l = 0 → ¬ l.length = 0 → leastE d o l = 0) := fun h k => by unfold leastE; rw [if_neg (fun c => c h), if_neg k]
  generalize leastE d o l = M at *
  generalize lookE d o l = E at *
  have HB0 : Hid (Bx (w.alloc (.cells #[.int .i64 0, .int .i64 0, .string ⟨#[]⟩, .slice none 0 0] 33)) w.heap.size zeroT (.slice none 0 0)) := bx_alloc w zeroT (.slice none 0 0)
  have hb0 : Below w.heap.size w (w.alloc (.cells #[.int .i64 0, .int .i64 0, .string ⟨#[]⟩, .slice none 0 0] 33)) := ((Grew.refl w).alloc _).below
  go_enter Tryz.func11, Tryz.ntmps11
  go_wp2_with fail
  refine (Hfit.out _ hb0).mono ?_
  rintro e w1 ⟨rfl, hb⟩
  have hb1 : Below w.heap.size w w1 := hb0.trans (hb.mono hb0.size)
  have HB1 : Hid (Bx w1 w.heap.size zeroT (.slice none 0 0)) := HB0.out.keeps hb
  clear hb hb0 HB0 Hfit
  by_cases h0 : E = 0
  · obtain ⟨ho, hlen, hL, hg⟩ := Hf.out h0
    by_cases hl0 : l.length = 0
    · have hM := H2.out h0 hl0
      have hse : R = zeroT := by rw [hs.out, if_neg (by omega)]
      have Hbx : Hid _ := HB1.out.put (zeroT, .slice none 0 0)
      have Hbf : Hid _ := below_put hb1 (Nat.le_refl _) (zeroT, .slice none 0 0)
      obtain ⟨y0, y1, y2, y3, z0, z1, z2, z3⟩ := HB1.out
      subst hse hM h0
      have hl0' : (l.length : Int) = 0 := by omega
      clear H1 H2 H3 Hf hs hL hg hl0
      go_wp2_with fail
      refine bodyPost_ret (v := .tuple #[.agg #[.int .i64 0, .int .i64 0, .string ⟨#[]⟩, .slice none 0 0], .int .i64 6]) ?_ rfl ⟨_, rfl, Lies.atLeast (d := 0) ⟨rfl, none, 0, rfl⟩ 16 (by omega), Hbf.out⟩
      obtain ⟨q0, q1, q2, q3, _, _, _, _⟩ := Hbx.out
      simp only [encP, World.setCells, Nat.zero_add, Nat.reduceAdd] at q0 q1 q2 q3
      simp [results, Tryz.results11, go_sem, q0, q1, q2, q3]
    · have hM := H3.out h0 hl0
      obtain ⟨q, rfl⟩ : ∃ q : Nat, o = q := ⟨o.toNat, by omega⟩
      have hq : q < 6 := by omega
      have hlp : 0 < l.length := by omega
      have HR : Hid (leastF (ordV q) l[0] (l.drop 1) = R) := by
        show _ = _
        rw [hs.out, if_pos hM]
        cases l with
        | nil => simp at hl0
        | cons x xs => simp [leastT]
      have HG : Hid (∀ x ∈ l, rightV 16 x = true) := hg
      have Hc : Hid (∀ (t s : VT) (x y : Value) (W : World), Lies 16 W t.items x → Lies 16 W s.items y → rightV 16 t = true → rightV 16 s = true → Calls Tryz.prog 28 #[.int .i64 q, .agg #[.int .i64 t.kind, .int .i64 t.num, .string t.text, x], .agg #[.int .i64 s.kind, .int .i64 s.num, .string s.text, y]] W fun e w' => e = .returned (.int .i64 (ordV q t s)) ∧ Below W.heap.size W w') := fun t s x y W h1 h2 h3 h4 => rordV_any q hq t s x y W h1 h2 h3 h4
      generalize ordV q = g at *
      obtain ⟨a', c', hv', _, hr⟩ := hL
      injection hv' with hv1 _ _
      subst hv1
      obtain ⟨b, oo, rfl, hall0⟩ := hr (fun e => by rw [e] at hlp; simp at hlp)
      have Hall : Hid _ := hall0
      obtain ⟨xv, p0, p1, p2, p3, p4, _⟩ := hall0 0 hlp
      have g0 := hg l[0] (List.getElem_mem hlp)
      obtain ⟨ax, cx, rfl, _⟩ := Lies.slice p4
      simp only [Nat.zero_mul, Nat.add_zero] at p0 p1 p2 p3
      have hlb : b < w.heap.size := cell_lt p0
      generalize l[0] = t0 at *
      have HM0 : Hid (LstV w g R l (w1.alloc (.cells #[.int .i64 t0.kind, .int .i64 t0.num, .string t0.text, .slice ax t0.items.length cx] 33)) w1.heap.size 1 t0 (.slice ax t0.items.length cx)) :=
        ⟨HR.out, ⟨p4, g0⟩, bx_alloc w1 t0 _, HB1.out.keeps ((Grew.refl _).alloc _).below, hb1.alloc hb1.size _, cell_lt HB1.out.c0⟩
      have p0 := cell_keeps hb1 p0; have p1 := cell_keeps hb1 p1; have p2 := cell_keeps hb1 p2; have p3 := cell_keeps hb1 p3
      subst hM h0
      have hl0b : ((l.length : Int) == 0) = false := by rw [beq_eq_false_iff_ne]; omega
      have hlpi : (0 : Int) < (l.length : Nat) := by omega
      clear H1 H2 H3 Hf hs hg hl0 hr hall0 p4 g0 HR HB1
      go_wp2_with fail
      go_loopg [8] l.length (fun z i wr => ∃ (k : Nat) (t : VT) (x : Value), i = .int .i64 (k : Int) ∧ z = l.length + 1 - k ∧ 1 ≤ k ∧ k ≤ l.length ∧ Hid (LstV w g R l wr w1.heap.size k t x))
      case atStart => exact ⟨1, _, _, rfl, by omega, by omega, by omega, HM0⟩
      case round =>
        clear p0 p1 p2 p3 HM0
        obtain ⟨k, t, x, rfl, hk, hk1, hk2, HM⟩ := hrel
        have Hk : Hid _ := hk
        clear hk
        have hbw := HM.out.below
        have hwl := hbw.size
        have hfar := HM.out.far
        generalize w1.heap.size = B at *
        obtain ⟨ac, cc, hxe, _⟩ := Lies.slice HM.out.good.1
        subst hxe
        by_cases hlt : k < l.length
        · have hki : (k : Int) < (l.length : Nat) := by omega
          obtain ⟨yv, p0, p1, p2, p3, p4, _⟩ := Hall.out k hlt
          have gp := HG.out l[k] (List.getElem_mem hlt)
          have HE : Hid (leastF g (if g l[k] t < 0 then l[k] else t) (l.drop (k + 1)) = R) := by
            have := HM.out.eq
            rw [List.drop_eq_getElem_cons hlt] at this
            exact this
          obtain ⟨ay, cy, rfl, _⟩ := Lies.slice p4
          generalize l[k] = s at *
          have HY : Hid (Lies 16 w s.items (.slice ay s.items.length cy) ∧ rightV 16 s = true) := ⟨p4, gp⟩
          clear p4 gp
          have p0 := cell_keeps hbw p0; have p1 := cell_keeps hbw p1; have p2 := cell_keeps hbw p2; have p3 := cell_keeps hbw p3
          obtain ⟨r0, r1, r2, r3, _, _, _, _⟩ := HM.out.box
          go_wp2_with fail
          go_region_held3 (fun w' => (w'.cell? ⟨b, oo + k * 4, none⟩ = some (.int .i64 s.kind) ∧ w'.cell? ⟨b, oo + k * 4 + 1, none⟩ = some (.int .i64 s.num) ∧ w'.cell? ⟨b, oo + k * 4 + 2, none⟩ = some (.string s.text) ∧ w'.cell? ⟨b, oo + k * 4 + 3, none⟩ = some (.slice ay s.items.length cy)) ∧ (w'.cell? ⟨B, 0, none⟩ = some (.int .i64 t.kind) ∧ w'.cell? ⟨B, 1, none⟩ = some (.int .i64 t.num) ∧ w'.cell? ⟨B, 2, none⟩ = some (.string t.text) ∧ w'.cell? ⟨B, 3, none⟩ = some (.slice ac t.items.length cc))) (go_keep)
            (first | (go_at_call 28; refine (Hc.out s t _ _ _ (Lies.keeps hbw.drew _ _ _ HY.out.1) (Lies.keeps hbw.drew _ _ _ HM.out.good.1) HY.out.2 HM.out.good.2).mono ?_; rintro e w3 ⟨rfl, hg1⟩; have hb3' : Below wr.heap.size wr w3 := (Below.refl _ _).drew.trans hg1; have hb3 : Below w.heap.size w w3 := hbw.trans (hb3'.mono hwl); clear hg1; have p0 := cell_keeps hb3' p0; have p1 := cell_keeps hb3' p1; have p2 := cell_keeps hb3' p2; have p3 := cell_keeps hb3' p3; have r0 := cell_keeps hb3' r0; have r1 := cell_keeps hb3' r1; have r2 := cell_keeps hb3' r2; have r3 := cell_keeps hb3' r3))
          have HX3 : Hid (Bx w3 B t (.slice ac t.items.length cc)) := HM.out.box.keeps hb3'
          have HR3 : Hid (Bx w3 w.heap.size zeroT (.slice none 0 0)) := HM.out.res.keeps hb3'
          have HCg : Hid (Lies 16 w t.items (.slice ac t.items.length cc) ∧ rightV 16 t = true) := HM.out.good
          clear hb3' HM hbw r0 r1 r2 r3
          generalize g s t = Z at *
          by_cases hz : Z < 0
          · have HN : Hid (LstV w g R l (w3.setCells B 0 (encP (s, .slice ay s.items.length cy))) B (k + 1) s (.slice ay s.items.length cy)) :=
              ⟨by have := HE.out; rwa [if_pos hz] at this, HY.out, HX3.out.put (s, .slice ay s.items.length cy), HR3.out.other (by omega) _, below_put hb3 (by omega) (s, .slice ay s.items.length cy), hfar⟩
            obtain ⟨y0, y1, y2, y3, z0, z1, z2, z3⟩ := HX3.out
            clear HE HX3 HR3
            go_wp2_with fail
            go_roundg (l.length + 1 - (k + 1))
            case measure => have := Hk.out; omega
            case rel => exact ⟨k + 1, _, _, by go_num, rfl, by omega, by omega, HN⟩
          · have HN : Hid (LstV w g R l w3 B (k + 1) t (.slice ac t.items.length cc)) := ⟨by have := HE.out; rwa [if_neg hz] at this, HCg.out, HX3.out, HR3.out, hb3, hfar⟩
            clear HE HX3 HR3
            go_wp2_with fail
            go_roundg (l.length + 1 - (k + 1))
            case measure => have := Hk.out; omega
            case rel => exact ⟨k + 1, _, _, by go_num, rfl, by omega, by omega, HN⟩
        · have hki : ¬ (k : Int) < (l.length : Nat) := by omega
          have hfin : t = R := by
            have := HM.out.eq
            rwa [List.drop_eq_nil_of_le (by omega)] at this
          subst hfin
          have HR3 : Hid (Bx wr w.heap.size zeroT (.slice none 0 0)) := HM.out.res
          have Hbx : Hid _ := HR3.out.put (t, .slice ac t.items.length cc)
          have hbf := below_put hbw (Nat.le_refl _) (t, .slice ac t.items.length cc)
          have Hbf : Hid (Below w.heap.size w (wr.setCells w.heap.size 0 (encP (t, .slice ac t.items.length cc)))) := hbf
          have Hfin : Hid (Lies 16 (wr.setCells w.heap.size 0 (encP (t, .slice ac t.items.length cc))) t.items (.slice ac t.items.length cc)) := Lies.keeps hbf _ _ _ HM.out.good.1
          obtain ⟨r0, r1, r2, r3, _, _, _, _⟩ := HM.out.box
          obtain ⟨y0, y1, y2, y3, z0, z1, z2, z3⟩ := HR3.out
          clear HM hbf HR3
          go_wp2_with fail
          refine bodyPost_ret (v := .tuple #[.agg #[.int .i64 t.kind, .int .i64 t.num, .string t.text, .slice ac t.items.length cc], .int .i64 0]) ?_ rfl ⟨_, rfl, Hfin.out, Hbf.out⟩
          obtain ⟨q0, q1, q2, q3, _, _, _, _⟩ := Hbx.out
          simp only [encP, World.setCells, Nat.zero_add, Nat.reduceAdd] at q0 q1 q2 q3
          simp [results, Tryz.results11, go_sem, q0, q1, q2, q3]
  · have hM := H1.out h0
    have hse : R = zeroT := by rw [hs.out, if_neg (by rw [hM]; exact h0)]
    have Hbx : Hid _ := HB1.out.put (zeroT, .slice none 0 0)
    have Hbf : Hid _ := below_put hb1 (Nat.le_refl _) (zeroT, .slice none 0 0)
    obtain ⟨y0, y1, y2, y3, z0, z1, z2, z3⟩ := HB1.out
    subst hse hM
    have h0' : ¬ M = 0 := h0
    clear H1 H2 H3 Hf hs h0
    go_wp2_with fail
    refine bodyPost_ret (v := .tuple #[.agg #[.int .i64 0, .int .i64 0, .string ⟨#[]⟩, .slice none 0 0], .int .i64 M]) ?_ rfl ⟨_, rfl, Lies.atLeast (d := 0) ⟨rfl, none, 0, rfl⟩ 16 (by omega), Hbf.out⟩
    obtain ⟨q0, q1, q2, q3, _, _, _, _⟩ := Hbx.out
    simp only [encP, World.setCells, Nat.zero_add, Nat.reduceAdd] at q0 q1 q2 q3
    simp [results, Tryz.results11, go_sem, q0, q1, q2, q3]

set_option maxRecDepth 100000 in
set_option maxHeartbeats 8000000 in
theorem sortsLaw_core (o : Int) (a : Option Addr) (n c : Nat) (w : World) (L : List VT) (E M : Int) (B : Bool) (s : VT) (hlen : L.length ≤ 65536)
    (H1 : Hid (∀ W, Below w.heap.size w W → Calls Tryz.prog 6 #[.int .i64 o, .slice a n c] W (ListPost L E W))) (H2 : Hid (∀ W, Below w.heap.size w W → Calls Tryz.prog 7 #[.int .i64 o, .slice a n c] W (ListPost L E W)))
    (H3 : Hid (∀ W, Below w.heap.size w W → Calls Tryz.prog 8 #[.int .i64 o, .slice a n c] W fun e W' => e = .returned (.tuple #[.bool B, .int .i64 E]) ∧ Below W.heap.size W W')) (H4 : Hid (∀ W, Below w.heap.size w W → Calls Tryz.prog 9 #[.int .i64 o, .slice a n c] W fun e W' => e = .returned (.tuple #[.bool B, .int .i64 E]) ∧ Below W.heap.size W W'))
    (H5 : Hid (∀ W, Below w.heap.size w W → Calls Tryz.prog 10 #[.int .i64 o, .slice a n c] W (LeastPost s M W))) (H6 : Hid (∀ W, Below w.heap.size w W → Calls Tryz.prog 11 #[.int .i64 o, .slice a n c] W (LeastPost s M W))) :
    Calls Tryz.prog 3 #[.int .i64 o, .slice a n c] w fun e w' => e = .returned (.bool true) ∧ Below w.heap.size w w' := by
  have hsp : Hid (∀ w, Calls Tryz.prog 14 #[] w fun e w' => e = .returned (.bool true) ∧ Below w.heap.size w w') := speaks_any
  go_enter Tryz.func3, Tryz.ntmps3
  go_wp2_with fail
  refine (H1.out _ (Below.refl _ _)).mono ?_
  rintro e w1 ⟨v1, rfl, hL1, hb1⟩
  have HL1 : Hid (Lies 17 w1 L v1) := hL1
  clear hL1
  go_wp2_with fail
  refine (H2.out _ hb1).mono ?_
  rintro e w2 ⟨v2, rfl, hL2, hb⟩
  have hb2 : Below w.heap.size w w2 := hb1.trans (hb.mono hb1.size)
  have HA2 : Hid (Lies 17 w2 L v1) := Lies.keeps hb _ _ _ HL1.out
  have HB2 : Hid (Lies 17 w2 L v2) := hL2
  clear hb hb1 hL2 HL1
  go_wp2_with fail
  refine (H3.out _ hb2).mono ?_
  rintro e w3 ⟨rfl, hb⟩
  have hb3 : Below w.heap.size w w3 := hb2.trans (hb.mono hb2.size)
  have HA3 : Hid (Lies 17 w3 L v1) := Lies.keeps hb _ _ _ HA2.out
  have HB3 : Hid (Lies 17 w3 L v2) := Lies.keeps hb _ _ _ HB2.out
  clear hb hb2 HA2 HB2
  go_wp2_with fail
  refine (H4.out _ hb3).mono ?_
  rintro e w4 ⟨rfl, hb⟩
  have hb4 : Below w.heap.size w w4 := hb3.trans (hb.mono hb3.size)
  have HA4 : Hid (Lies 17 w4 L v1) := Lies.keeps hb _ _ _ HA3.out
  have HB4 : Hid (Lies 17 w4 L v2) := Lies.keeps hb _ _ _ HB3.out
  clear hb hb3 HA3 HB3
  go_wp2_with fail
  refine (H5.out _ hb4).mono ?_
  rintro e w5 ⟨x5, rfl, hx5, hb⟩
  obtain ⟨a5, c5, rfl, _⟩ := Lies.slice hx5
  have hb5' : Below w.heap.size w w5 := hb4.trans (hb.mono hb4.size)
  have hb5 : Below w.heap.size w (w5.alloc (.cells #[.int .i64 s.kind, .int .i64 s.num, .string s.text, .slice a5 s.items.length c5] 33)) := hb5'.alloc hb5'.size _
  have HA5 : Hid (Lies 17 (w5.alloc (.cells #[.int .i64 s.kind, .int .i64 s.num, .string s.text, .slice a5 s.items.length c5] 33)) L v1) := Lies.keeps ((Grew.refl _).alloc _).below _ _ _ (Lies.keeps hb _ _ _ HA4.out)
  have HB5 : Hid (Lies 17 (w5.alloc (.cells #[.int .i64 s.kind, .int .i64 s.num, .string s.text, .slice a5 s.items.length c5] 33)) L v2) := Lies.keeps ((Grew.refl _).alloc _).below _ _ _ (Lies.keeps hb _ _ _ HB4.out)
  have HX5 : Hid (Lies 16 (w5.alloc (.cells #[.int .i64 s.kind, .int .i64 s.num, .string s.text, .slice a5 s.items.length c5] 33)) s.items (.slice a5 s.items.length c5)) := Lies.keeps ((Grew.refl _).alloc _).below _ _ _ hx5
  have HBx5 : Hid (Boxed (w5.alloc (.cells #[.int .i64 s.kind, .int .i64 s.num, .string s.text, .slice a5 s.items.length c5] 33)) w5.heap.size s.kind s.num s.text (.slice a5 s.items.length c5)) := boxed_alloc w5 _ _ _ _ _
  clear hb hb4 HA4 HB4 hx5 hb5'
  go_wp2_with fail
  refine (H6.out _ hb5).mono ?_
  rintro e w6 ⟨x6, rfl, hx6, hb⟩
  obtain ⟨a6, c6, rfl, _⟩ := Lies.slice hx6
  have hb6' : Below w.heap.size w w6 := hb5.trans (hb.mono hb5.size)
  have hb6 : Below w.heap.size w (w6.alloc (.cells #[.int .i64 s.kind, .int .i64 s.num, .string s.text, .slice a6 s.items.length c6] 33)) := hb6'.alloc hb6'.size _
  have HA6 : Hid (Lies 17 (w6.alloc (.cells #[.int .i64 s.kind, .int .i64 s.num, .string s.text, .slice a6 s.items.length c6] 33)) L v1) := Lies.keeps ((Grew.refl _).alloc _).below _ _ _ (Lies.keeps hb _ _ _ HA5.out)
  have HB6 : Hid (Lies 17 (w6.alloc (.cells #[.int .i64 s.kind, .int .i64 s.num, .string s.text, .slice a6 s.items.length c6] 33)) L v2) := Lies.keeps ((Grew.refl _).alloc _).below _ _ _ (Lies.keeps hb _ _ _ HB5.out)
  have HX6 : Hid (Lies 16 (w6.alloc (.cells #[.int .i64 s.kind, .int .i64 s.num, .string s.text, .slice a6 s.items.length c6] 33)) s.items (.slice a5 s.items.length c5)) := Lies.keeps ((Grew.refl _).alloc _).below _ _ _ (Lies.keeps hb _ _ _ HX5.out)
  have HY6 : Hid (Lies 16 (w6.alloc (.cells #[.int .i64 s.kind, .int .i64 s.num, .string s.text, .slice a6 s.items.length c6] 33)) s.items (.slice a6 s.items.length c6)) := Lies.keeps ((Grew.refl _).alloc _).below _ _ _ hx6
  have HBx6 : Hid (Boxed (w6.alloc (.cells #[.int .i64 s.kind, .int .i64 s.num, .string s.text, .slice a6 s.items.length c6] 33)) w5.heap.size s.kind s.num s.text (.slice a5 s.items.length c5)) := (HBx5.out.keeps hb).keeps ((Grew.refl _).alloc _).below
  have HBy6 : Hid (Boxed (w6.alloc (.cells #[.int .i64 s.kind, .int .i64 s.num, .string s.text, .slice a6 s.items.length c6] 33)) w6.heap.size s.kind s.num s.text (.slice a6 s.items.length c6)) := boxed_alloc w6 _ _ _ _ _
  clear hb hb5 HA5 HB5 HX5 HBx5 hx6 hb6'
  go_wp2_with fail
  refine (values_one 16 L _ _ _ HA6.out HB6.out hlen).mono ?_
  rintro e w7 ⟨rfl, hb⟩
  have hb7 : Below w.heap.size w w7 := hb6.trans (hb.mono hb6.size)
  have HX7 : Hid (Lies 16 w7 s.items (.slice a5 s.items.length c5)) := Lies.keeps hb _ _ _ HX6.out
  have HY7 : Hid (Lies 16 w7 s.items (.slice a6 s.items.length c6)) := Lies.keeps hb _ _ _ HY6.out
  obtain ⟨x0, x1, x2, x3⟩ := HBx6.out.keeps hb
  obtain ⟨y0, y1, y2, y3⟩ := HBy6.out.keeps hb
  clear hb hb6 HA6 HB6 HX6 HY6 HBx6 HBy6
  have hBB : (B == B) = true := by simp
  go_wp2_with fail
  refine (same_any 16 s s _ _ _ HX7.out HY7.out).mono ?_
  rw [sameV_self]
  rintro e w8 ⟨rfl, hg⟩
  have hb8 : Below w.heap.size w w8 := hb7.trans (hg.below.mono hb7.size)
  clear hg hb7 HX7 HY7 x0 x1 x2 x3 y0 y1 y2 y3
  go_wp2_with fail
  refine (hsp.out _).mono ?_
  rintro e w9 ⟨rfl, hb⟩
  have hb9 : Below w.heap.size w w9 := hb8.trans (hb.mono hb8.size)
  clear hb
  go_wp2_with fail
  go_ret
  exact ⟨rfl, hb9⟩

theorem sortsLaw_walk (o : Int) (n : Nat) (l : List VT) (u : Value) (w : World) (hu : Lies (n + 1) w l u) : Calls Tryz.prog 3 #[.int .i64 o, u] w fun e w' => e = .returned (.bool true) ∧ Below w.heap.size w w' := by
  obtain ⟨a, c, rfl, _⟩ := Lies.slice hu
  have hlen : (sortL n o l).length ≤ 65536 := by
    unfold sortL
    by_cases h : lookE n o l = 0
    · rw [if_pos h, srtV_len]; exact (listErr_zero6 (lookE_pos h).2).1
    · rw [if_neg h]; simp
  exact sortsLaw_core o a _ c w _ _ _ _ _ hlen (fun W hW => sortG_any n o l _ W (Lies.keeps hW _ _ _ hu)) (fun W hW => rsortG_any n o l _ W (Lies.keeps hW _ _ _ hu)) (fun W hW => sortedP_any n o l _ W (Lies.keeps hW _ _ _ hu)) (fun W hW => rsortedP_any n o l _ W (Lies.keeps hW _ _ _ hu))
    (fun W hW => least6_any n o l _ W (Lies.keeps hW _ _ _ hu) _ rfl) (fun W hW => rleast_any n o l _ W (Lies.keeps hW _ _ _ hu) _ rfl)

end Go.Proofs.YtacnfmamjbmhcabGreat

