/-
  The document's Rank at a list of pairs.
-/
import Derived.Test.YtghjbjnfjddmcaaGreatToldM
import Derived.Test.YtghjbjnfjddmcaaGreatRIn
namespace Go.Proofs.YtghjbjnfjddmcaaGreat
open Go.RowKit Go.Shelf

/-- How many are ahead from the first one on. -/
def rankR (q : Nat) (l : List PT) (y : VT) : Nat := (l.takeWhile (fun x => decide (ordV q x.1 y < 0))).length
/-- Is the one behind them it? -/
def thereR (q : Nat) (l : List PT) (y : VT) : Bool := match l[rankR q l y]? with | some x => cmpV 16 x.1 y == 0 | none => false

theorem takeWhile_len {α : Type} (p : α → Bool) : ∀ (l : List α) (k : Nat), k ≤ l.length → (∀ j (hj : j < l.length), j < k → p l[j] = true) → (∀ hk : k < l.length, p l[k] = false) → (l.takeWhile p).length = k
  | [], k, h, _, _ => by simp at h; simp [h]
  | a :: l, 0, _, _, h => by
    have h9 := h (by simp)
    simp only [List.getElem_cons_zero] at h9
    simp [h9]
  | a :: l, k + 1, h, h1, h2 => by
    have h9 := h1 0 (by simp) (by omega)
    simp only [List.getElem_cons_zero] at h9
    rw [List.takeWhile_cons, h9]
    simp only [if_true, List.length_cons]
    rw [takeWhile_len p l k (by simpa using h) (fun j hj hk => by have h8 := h1 (j + 1) (by simpa using hj) (by omega); simpa using h8) (fun hk => by have h8 := h2 (by simpa using hk); simpa using h8)]

set_option maxRecDepth 100000 in
set_option maxHeartbeats 8000000 in
theorem rrank_15 (q : Nat) (hq : q < 6) (qs : List PP) (v : Value) (y : VT) (yu : Value) (w : World) (hv : SlQ 0 16 w qs v) (hr : ∀ p ∈ qs, rightV 16 p.1.1 = true) (hlen : qs.length ≤ 65536) (hy : Lies 16 w y.items yu) (hyr : rightV 16 y = true) :
    Calls Tryz.prog 24 #[.int .i64 (q : Int), v, .agg #[.int .i64 y.kind, .int .i64 y.num, .string y.text, yu]] w fun e w' => e = .returned (.tuple #[.int .i64 (rankR q (qs.map trT) y : Nat), .bool (thereR q (qs.map trT) y)]) ∧ Below w.heap.size w w' := by
  obtain ⟨ay, cy, rfl, _⟩ := Lies.slice hy
  obtain ⟨K, hK⟩ : ∃ K, K = rankR q (qs.map trT) y := ⟨_, rfl⟩
  obtain ⟨F, hF⟩ : ∃ F, F = thereR q (qs.map trT) y := ⟨_, rfl⟩
  have HK : Hid (∀ k, k ≤ qs.length → (∀ j (hj : j < qs.length), j < k → ordV q qs[j].1.1 y < 0) → (∀ hk : k < qs.length, ¬ ordV q qs[k].1.1 y < 0) → K = k ∧ F = (match qs[k]? with | some p => cmpV 16 p.1.1 y == 0 | none => false)) := by
    intro k h1 h2 h3
    have e : rankR q (qs.map trT) y = k := takeWhile_len _ _ k (by simpa using h1) (fun j hj hk => by
      have h9 := h2 j (by simpa using hj) hk
      simpa [trT] using h9) (fun hk => by
      have h9 := h3 (by simpa using hk)
      simpa [trT] using h9)
    refine ⟨by rw [hK, e], ?_⟩
    rw [hF]
    unfold thereR
    rw [e, List.getElem?_map]
    cases qs[k]? <;> rfl
  rw [← hK, ← hF]
  have Ho : Hid (∀ (x : VT) (xv tv : Value) (W : World), Lies 16 W x.items xv → Lies 16 W y.items tv → rightV 16 x = true → rightV 16 y = true → Calls Tryz.prog 48 #[.int .i64 (q : Int), .agg #[.int .i64 x.kind, .int .i64 x.num, .string x.text, xv], .agg #[.int .i64 y.kind, .int .i64 y.num, .string y.text, tv]] W fun e w' => e = .returned (.int .i64 (ordV q x y)) ∧ Below W.heap.size W w') := fun x xv tv W k1 k2 k3 k4 => rordV_any q hq x y xv tv W k1 k2 k3 k4
  have Hs : Hid (∀ (x : VT) (xv tv : Value) (W : World), Lies 16 W x.items xv → Lies 16 W y.items tv → Calls Tryz.prog 49 #[.agg #[.int .i64 x.kind, .int .i64 x.num, .string x.text, xv], .agg #[.int .i64 y.kind, .int .i64 y.num, .string y.text, tv]] W fun e w' => e = .returned (.bool (cmpV 16 x y == 0)) ∧ Below W.heap.size W w') := fun x xv tv W k1 k2 => rsame_any x y xv tv W k1 k2
  have HT : Hid (Lies 16 w y.items (.slice ay y.items.length cy) ∧ rightV 16 y = true) := ⟨hy, hyr⟩
  have HG : Hid (∀ p ∈ qs, rightV 16 p.1.1 = true) := hr
  have HL : Hid (qs.length ≤ 65536) := hlen
  obtain ⟨a, c, rfl, hac, _, hrow, hgood⟩ := hv
  have Hr : Hid (qs ≠ [] → ∃ b o, a = some ⟨b, o, none⟩ ∧ 0 ≤ b ∧ QAt w b o qs) := hrow
  have HGd : Hid (∀ p ∈ qs, GoodQ 16 w p) := hgood
  have HB0 : Hid (Bx (w.alloc (.cells #[.int .i64 y.kind, .int .i64 y.num, .string y.text, .slice ay y.items.length cy] 25)) w.heap.size y (.slice ay y.items.length cy)) := bx_alloc _ _ _
  have hb0 : Below w.heap.size w (w.alloc (.cells #[.int .i64 y.kind, .int .i64 y.num, .string y.text, .slice ay y.items.length cy] 25)) := ((Grew.refl w).alloc _).below
  obtain ⟨N, hN⟩ : ∃ N, N = qs.length := ⟨_, rfl⟩
  have HN : Hid (N = qs.length) := hN
  rw [← hN]
  clear hK hF hq hr hlen hy hyr hrow hgood hac hN
  generalize ordV q = g at *
  go_enter Tryz.func24, Tryz.ntmps24
  go_wp2_with fail
  go_loopg [8] N (fun z i wr => ∃ k : Nat, i = .int .i64 (k : Int) ∧ z = N - k ∧ k ≤ N ∧ Hid (∀ j (hj : j < qs.length), j < k → g qs[j].1.1 y < 0) ∧ Hid (Bx wr w.heap.size y (.slice ay y.items.length cy)) ∧ Hid (Below w.heap.size w wr))
  case atStart => exact ⟨0, rfl, by omega, by omega, fun j hj h => by omega, HB0, hb0⟩
  case round =>
    obtain ⟨k, rfl, hk, hk2, HD, HB, HW⟩ := hrel
    have Hk : Hid _ := hk
    clear hk HB0 hb0
    have hbw := HW.out
    by_cases hlt : k < N
    · have hki : (k : Int) < (N : Nat) := by omega
      have hltq : k < qs.length := by have := HN.out; omega
      obtain ⟨b, o, rfl, _, hall⟩ := Hr.out (by intro e; simp [e] at hltq)
      have gp := HG.out qs[k] (List.getElem_mem hltq)
      have gq := (HGd.out qs[k] (List.getElem_mem hltq)).1
      have Hyes : Hid (g qs[k].1.1 y < 0 → ∀ j (hj : j < qs.length), j < k + 1 → g qs[j].1.1 y < 0) := fun h j hj h2 => by
        by_cases e : j < k
        · exact HD.out j hj e
        · have : j = k := by omega
          subst this; exact h
      have Hno : Hid (¬ g qs[k].1.1 y < 0 → K = k ∧ F = (cmpV 16 qs[k].1.1 y == 0)) := fun h => by
        obtain ⟨e1, e2⟩ := HK.out k (by have := HN.out; omega) HD.out (fun _ => by omega)
        rw [List.getElem?_eq_getElem hltq] at e2
        exact ⟨e1, e2⟩
      obtain ⟨p0, p1, p2, p3, q4, q5, q6, q7⟩ := hall.at k hltq
      clear q4 q5 q6 q7
      obtain ⟨ax, cx, hax, _⟩ := Lies.slice gq.1
      rw [hax] at p3
      have HX : Hid (Lies 16 w qs[k].1.1.items (.slice ax qs[k].1.1.items.length cx) ∧ rightV 16 qs[k].1.1 = true) := ⟨by rw [← hax]; exact gq.1, gp⟩
      clear HD hall gp gq hax
      generalize qs[k].1.1 = x at *
      have p0 := cell_keeps hbw p0; have p1 := cell_keeps hbw p1; have p2 := cell_keeps hbw p2; have p3 := cell_keeps hbw p3
      obtain ⟨r0, r1, r2, r3, _, _, _, _⟩ := HB.out
      have hwl := hbw.size
      have HP0 : Hid (w.heap.size ≤ wr.heap.size) := hwl
      clear hltq
      go_wp2_with fail
      go_region_held3 (fun w' => w'.cell? ⟨b, o + k * 8, none⟩ = some (.int .i64 x.kind) ∧ w'.cell? ⟨b, o + k * 8 + 1, none⟩ = some (.int .i64 x.num) ∧ w'.cell? ⟨b, o + k * 8 + 2, none⟩ = some (.string x.text) ∧ w'.cell? ⟨b, o + k * 8 + 3, none⟩ = some (.slice ax x.items.length cx) ∧ w'.cell? ⟨w.heap.size, 0, none⟩ = some (.int .i64 y.kind) ∧ w'.cell? ⟨w.heap.size, 1, none⟩ = some (.int .i64 y.num) ∧ w'.cell? ⟨w.heap.size, 2, none⟩ = some (.string y.text) ∧ w'.cell? ⟨w.heap.size, 3, none⟩ = some (.slice ay y.items.length cy)) (go_keep)
        (first | (go_at_call 48; (with_reducible refine (Ho.out x _ _ _ (Lies.keeps hbw.drew _ _ _ HX.out.1) (Lies.keeps hbw.drew _ _ _ HT.out.1) HX.out.2 HT.out.2).mono ?_); rintro e w1 ⟨rfl, hg1⟩; have hb1' : Below wr.heap.size wr w1 := (Below.refl _ _).drew.trans hg1; have hb1 : Below w.heap.size w w1 := hbw.trans (hb1'.mono hwl); have HB1 : Hid (Bx w1 w.heap.size y (.slice ay y.items.length cy)) := HB.out.keeps hb1'; clear hg1; have p0 := cell_keeps hb1' p0; have p1 := cell_keeps hb1' p1; have p2 := cell_keeps hb1' p2; have p3 := cell_keeps hb1' p3; have r0 := cell_keeps hb1' r0; have r1 := cell_keeps hb1' r1; have r2 := cell_keeps hb1' r2; have r3 := cell_keeps hb1' r3))
      have HP1 : Hid (w1.cell? ⟨b, o + k * 8, none⟩ = some (.int .i64 x.kind) ∧ w1.cell? ⟨b, o + k * 8 + 1, none⟩ = some (.int .i64 x.num) ∧ w1.cell? ⟨b, o + k * 8 + 2, none⟩ = some (.string x.text) ∧ w1.cell? ⟨b, o + k * 8 + 3, none⟩ = some (.slice ax x.items.length cx)) := ⟨p0, p1, p2, p3⟩
      clear p0 p1 p2 p3 r0 r1 r2 r3 hb1' HB
      have hNz := HL.out
      have hNq := HN.out
      have hkz : k < 65536 := by omega
      clear hNz hNq
      by_cases hz : g x y < 0
      · have HD2 : Hid _ := Hyes.out hz
        clear Hyes Hno
        generalize g x y = Z at *
        go_wp2_with fail
        go_roundg (N - (k + 1))
        case measure => have := Hk.out; omega
        case rel => exact ⟨k + 1, by go_num, rfl, by omega, HD2, HB1, hb1⟩
      · obtain ⟨hKk, hFk⟩ := Hno.out (by omega)
        have HFk : Hid (F = (cmpV 16 x y == 0)) := hFk
        clear Hyes Hno hFk
        subst hKk
        generalize g x y = Z at *
        obtain ⟨p0, p1, p2, p3⟩ := HP1.out
        go_wp2_with fail
        obtain ⟨r0, r1, r2, r3, _, _, _, _⟩ := HB1.out
        have hwl1 := hb1.size
        go_region_held3 (fun w' => w'.cell? ⟨b, o + K * 8, none⟩ = some (.int .i64 x.kind) ∧ w'.cell? ⟨b, o + K * 8 + 1, none⟩ = some (.int .i64 x.num) ∧ w'.cell? ⟨b, o + K * 8 + 2, none⟩ = some (.string x.text) ∧ w'.cell? ⟨b, o + K * 8 + 3, none⟩ = some (.slice ax x.items.length cx) ∧ w'.cell? ⟨w.heap.size, 0, none⟩ = some (.int .i64 y.kind) ∧ w'.cell? ⟨w.heap.size, 1, none⟩ = some (.int .i64 y.num) ∧ w'.cell? ⟨w.heap.size, 2, none⟩ = some (.string y.text) ∧ w'.cell? ⟨w.heap.size, 3, none⟩ = some (.slice ay y.items.length cy)) (go_keep)
          (first | (go_at_call 49; (with_reducible refine (Hs.out x _ _ _ (Lies.keeps hb1.drew _ _ _ HX.out.1) (Lies.keeps hb1.drew _ _ _ HT.out.1)).mono ?_); rintro e w4 ⟨rfl, hg1⟩; have hb4' : Below w1.heap.size w1 w4 := (Below.refl _ _).drew.trans hg1; have hb4 : Below w.heap.size w w4 := hb1.trans (hb4'.mono hwl1); clear hg1; have p0 := cell_keeps hb4' p0; have p1 := cell_keeps hb4' p1; have p2 := cell_keeps hb4' p2; have p3 := cell_keeps hb4' p3; have r0 := cell_keeps hb4' r0; have r1 := cell_keeps hb4' r1; have r2 := cell_keeps hb4' r2; have r3 := cell_keeps hb4' r3))
        clear p0 p1 p2 p3 r0 r1 r2 r3 hb4'
        rw [← HFk.out]
        go_wp2_with fail
        exact bodyPost_ret (v := .tuple #[.int .i64 K, .bool F]) (by simp [results, Tryz.results24, go_sem]) rfl ⟨rfl, hb4⟩
    · have hki : ¬ (k : Int) < (N : Nat) := by omega
      obtain ⟨e1, e2⟩ := HK.out k (by have := HN.out; omega) HD.out (fun h => absurd h (by have := HN.out; omega))
      rw [List.getElem?_eq_none (by have := HN.out; omega)] at e2
      have hFk : F = false := e2
      clear HD HK e2
      subst e1 hFk
      go_wp2_with fail
      go_region
      go_wp2_with fail
      go_region
      go_wp2_with fail
      exact bodyPost_ret (v := .tuple #[.int .i64 K, .bool false]) (by simp [results, Tryz.results24, go_sem]) rfl ⟨rfl, hbw.drew.drew⟩

end Go.Proofs.YtghjbjnfjddmcaaGreat

