/-
  without: a value without a part.
-/
import Derived.Test.YtofceccicmlmoaaFaceM
import Derived.Deep.CutRange
import Derived.Deep.CutBlock
import Derived.Test.YtofceccicmlmoaaCatV
import Derived.Test.YtofceccicmlmoaaTimes2
namespace Go.Proofs.Ytofceccicmlmoaa
open Go.RowKit Go.Shelf

/-- What is told of a value that is made of another one's parts. -/
def NewP (X : Nat → Prop) (D : Nat) (z : VT) (w : World) (e : Ending) (w' : World) : Prop :=
  ∃ a c, e = .returned (.agg #[.int .i64 z.kind, .int .i64 z.num, .string z.text, .slice a z.items.length c]) ∧ LiesX (fun b => X b ∨ w.heap.size ≤ b) D w' z.items (.slice a z.items.length c) ∧ Below w.heap.size w w'

set_option maxRecDepth 100000 in
set_option maxHeartbeats 8000000 in
theorem without_6 (X : Nat → Prop) (n : Int) (tx : ByteArray) (l : List VT) (b o c k F K1 : Nat) (w : World) (hX : ∀ q, X q → q < w.heap.size) (h : LiesX X 16 w l (.slice (some ⟨b, o, none⟩) l.length c)) (hkF : k = F + 1) (hK : K1 = k + 1) (hkl : k < l.length) (hll : l.length ≤ 1024) (hc : l.length ≤ c) :
    Calls Try.prog 56 #[.agg #[.int .i64 6, .int .i64 n, .string tx, .slice (some ⟨b, o, none⟩) l.length c], .int .i64 (k : Int)] w (NewP X 16 ⟨6, n, tx, l.take F ++ l.drop K1⟩ w) := by
  have HT : Hid (Bx (at2 w (⟨6, n, tx, l⟩ : VT) (.slice (some ⟨b, o, none⟩) l.length c)) w.heap.size (⟨6, n, tx, l⟩ : VT) (.slice (some ⟨b, o, none⟩) l.length c)) := at2_fst _ _ _
  have HR : Hid (Bx (at2 w (⟨6, n, tx, l⟩ : VT) (.slice (some ⟨b, o, none⟩) l.length c)) (w.heap.size + 1) zeroT (.slice none 0 0)) := at2_snd _ _ _
  have hb0 := at2_below w (⟨6, n, tx, l⟩ : VT) (.slice (some ⟨b, o, none⟩) l.length c)
  obtain ⟨W0, hW0⟩ : ∃ W0, W0 = at2 w (⟨6, n, tx, l⟩ : VT) (.slice (some ⟨b, o, none⟩) l.length c) := ⟨_, rfl⟩
  have HW0 : Hid (W0 = at2 w (⟨6, n, tx, l⟩ : VT) (.slice (some ⟨b, o, none⟩) l.length c)) := hW0
  rw [← hW0] at HT HR hb0
  clear hW0
  unfold at2 at HW0
  simp only at HW0
  have hFl : F ≤ l.length := by omega
  have hks : IntKind.i64.wrap ((k : Int) - 1) = (F : Int) := by rw [IntKind.wrap_i64]; omega
  have HCo : Hid (∀ (o' c1 c2 B : Nat) (V : World), Below W0.heap.size W0 V → (K1 < l.length → o' = o + K1 * 4) → V.cell? ⟨B, 0, none⟩ = some (.slice (some ⟨b, o, none⟩) F c1) → V.cell? ⟨B, 1, none⟩ = some (.slice (some ⟨b, o', none⟩) (l.length - K1) c2) → Calls Try.prog 66 #[.slice (some ⟨B, 0, none⟩) 2 2] V fun e w' => ∃ a' c', e = .returned (.slice a' (l.take F ++ l.drop K1).length c') ∧ Hid (LiesX (fun n => X n ∨ W0.heap.size ≤ n) 16 w' (l.take F ++ l.drop K1) (.slice a' (l.take F ++ l.drop K1).length c')) ∧ Below V.heap.size V w') := fun o' c1 c2 B V hV ho k1 k2 => cat_cut X l b o c F K1 W0.heap.size o' c1 c2 B W0 V (h.keeps hb0) (by omega) hFl (by omega) hV hV.size ho k1 k2
  have hs2 : w.heap.size + 1 < W0.heap.size := by have h9 := cell_lt HR.out.c0; simpa using h9
  generalize hm : l.take F ++ l.drop K1 = m at *
  clear hm
  have HE : Hid (∀ W a' c', Below W0.heap.size W0 W → LiesX (fun n => X n ∨ W0.heap.size ≤ n) 16 W m (.slice a' m.length c') → NewP X 16 ⟨6, n, tx, m⟩ w (.returned (.agg #[.int .i64 6, .int .i64 n, .string tx, .slice a' m.length c'])) ((W.setCell ⟨w.heap.size, 3, none⟩ (.slice a' m.length c')).setCells (w.heap.size + 1) 0 (encP ((⟨6, n, tx, l⟩ : VT), .slice a' m.length c')))) := fun W a' c' h1 h2 => by
    refine ⟨a', c', rfl, ?_, below_put (below_setM (hb0.trans (h1.mono hb0.size)) (Nat.le_refl _) _ _) (by omega) _⟩
    refine LiesX.mono (fun q hq => hq.imp id (fun h => by omega)) (LiesX.set (g := w.heap.size + 1) (fun hq => ?_) (LiesX.set (g := w.heap.size) (o := 3) (vs := [.slice a' m.length c']) (fun hq => ?_) h2))
    · rcases hq with hq | hq
      · have := hX _ hq; omega
      · omega
    · rcases hq with hq | hq
      · have := hX _ hq; omega
      · omega
  generalize NewP X 16 ⟨6, n, tx, m⟩ w = PP at *
  have hN : ∃ N, N = l.length := ⟨_, rfl⟩
  obtain ⟨N, hN⟩ := hN
  rw [← hN] at HT HCo hkl hc HW0 ⊢
  obtain ⟨L, hL⟩ : ∃ L, L = m.length := ⟨_, rfl⟩
  rw [← hL] at HCo HE
  have h1c : (K1 : Int) ≤ (c : Int) := by omega
  have h2c : (F : Int) ≤ (c : Int) := by omega
  have h3c : (K1 : Int) ≤ (N : Int) := by omega
  have h4c : (N : Int) ≤ (c : Int) := by omega
  have h6c : (F : Int) ≤ 1024 := by omega
  have h7c : (k : Int) ≤ 1024 := by omega
  have hwK : IntKind.i64.wrap ((k : Int) + 1) = (K1 : Int) := by rw [IntKind.wrap_i64]; omega
  have HK1 : Hid (K1 = k + 1 ∧ k < N) := ⟨hK, hkl⟩
  clear hX h hN hL hFl hll hK hkl hkF
  have HF0 : Hid (∀ W a' c', Below W0.heap.size W0 W → Hid (LiesX (fun n => X n ∨ W0.heap.size ≤ n) 16 W m (.slice a' L c')) → Hid (Bx (W.setCell ⟨w.heap.size, 3, none⟩ (.slice a' L c')) w.heap.size (⟨6, n, tx, l⟩ : VT) (.slice a' L c') ∧ Bx (W.setCell ⟨w.heap.size, 3, none⟩ (.slice a' L c')) (w.heap.size + 1) zeroT (.slice none 0 0) ∧ PP (.returned (.agg #[.int .i64 6, .int .i64 n, .string tx, .slice a' L c'])) ((W.setCell ⟨w.heap.size, 3, none⟩ (.slice a' L c')).setCells (w.heap.size + 1) 0 (encP ((⟨6, n, tx, l⟩ : VT), .slice a' L c'))))) := fun W a' c' h1 h2 =>
    ⟨(HT.out.keeps h1).items _, (HR.out.keeps h1).other1 (by omega) 3 _, HE.out W a' c' h1 h2.out⟩
  clear HE
  obtain ⟨t0, t1, t2, t3, f0, f1, f2, f3⟩ := HT.out
  simp only at t0 t1 t2
  go_enter Try.func56, Try.ntmps56
  go_upto_region 1 with fail
  rw [← HW0.out]
  clear HW0
  go_upto_region 7 with fail
  by_cases hck : c = K1
  · have HNK : Hid (¬ K1 < N) := by show ¬ _; omega

    subst hck
    have hz0 : N - c = 0 := by omega
    rw [hz0] at HCo
    clear hz0
    go_cut [] from 16 to 27 (fun wx => ∃ a3 c3, Hid (Bx wx w.heap.size (⟨6, n, tx, l⟩ : VT) (.slice a3 L c3) ∧ Bx wx (w.heap.size + 1) zeroT (.slice none 0 0) ∧ PP (.returned (.agg #[.int .i64 6, .int .i64 n, .string tx, .slice a3 L c3])) (wx.setCells (w.heap.size + 1) 0 (encP ((⟨6, n, tx, l⟩ : VT), .slice a3 L c3)))))
    case first =>
      go_region_with
        (first | (go_at_call 66; (with_reducible refine Calls.mono (HCo.out (o) c 0 _ _ ?_ (fun h => absurd h HNK.out) ?_ ?_) ?_); (first | exact (Below.refl _ _).drew.alloc (Nat.le_refl _) _ | exact (((Grew.refl W0).alloc _).drew).below); (first | (simp; done) | simp); (first | (simp; done) | simp); rintro e w3 ⟨a3, c3, rfl, HL3, hb3⟩; have hb4 : Below W0.heap.size W0 w3 := (by first | exact ((Below.refl _ _).drew.alloc (Nat.le_refl _) _).trans (hb3.mono ((Below.refl W0.heap.size W0).drew.alloc (Nat.le_refl _) _).size) | exact ((((Grew.refl W0).alloc _).drew).below).trans (hb3.mono ((((Grew.refl W0).alloc _).drew).below).size)); clear hb3; have HF := HF0.out w3 a3 c3 hb4 HL3; have t0 := cell_keeps hb4 t0; have t1 := cell_keeps hb4 t1; have t2 := cell_keeps hb4 t2; have t3 := cell_keeps hb4 t3; have f3 := (hb4.frozen (p := ⟨w.heap.size, 3, none⟩) (by show w.heap.size < _; omega)).trans f3))
      all_goals (go_wp2_with fail; go_meet; exact ⟨a3, c3, HF⟩)
    case rest =>
      obtain ⟨a3, c3, H4⟩ := hcut
      clear HF0 HCo t0 t1 t2 t3 f0 f1 f2 f3 HT HR
      have HE3 : Hid (PP (.returned (.agg #[.int .i64 6, .int .i64 n, .string tx, .slice a3 L c3])) (wc.setCells (w.heap.size + 1) 0 (encP ((⟨6, n, tx, l⟩ : VT), .slice a3 L c3)))) := H4.out.2.2
      have Hq : Hid (Bx (wc.setCells (w.heap.size + 1) 0 (encP ((⟨6, n, tx, l⟩ : VT), .slice a3 L c3))) (w.heap.size + 1) (⟨6, n, tx, l⟩ : VT) (.slice a3 L c3)) := H4.out.2.1.put ((⟨6, n, tx, l⟩ : VT), .slice a3 L c3)
      obtain ⟨t0, t1, t2, t3, _, _, _, _⟩ := H4.out.1
      obtain ⟨z0, z1, z2, z3, y0, y1, y2, y3⟩ := H4.out.2.1
      simp only at t0 t1 t2 z0 z1 z2
      clear H4
      go_wp2_with fail
      refine bodyPost_ret (v := .agg #[.int .i64 6, .int .i64 n, .string tx, .slice a3 L c3]) ?_ rfl HE3.out
      obtain ⟨q0, q1, q2, q3, _, _, _, _⟩ := Hq.out
      simp only [World.setCells, encP, Nat.zero_add, Nat.reduceAdd] at q0 q1 q2 q3
      simp [results, Try.results56, go_sem, q0, q1, q2, q3]
  · have h5c : ¬ ((c : Nat) : Int) = (K1 : Nat) := by omega
    go_cut [] from 16 to 27 (fun wx => ∃ a3 c3, Hid (Bx wx w.heap.size (⟨6, n, tx, l⟩ : VT) (.slice a3 L c3) ∧ Bx wx (w.heap.size + 1) zeroT (.slice none 0 0) ∧ PP (.returned (.agg #[.int .i64 6, .int .i64 n, .string tx, .slice a3 L c3])) (wx.setCells (w.heap.size + 1) 0 (encP ((⟨6, n, tx, l⟩ : VT), .slice a3 L c3)))))
    case first =>
      go_region_with
        (first | (go_at_call 66; (with_reducible refine Calls.mono (HCo.out (o + K1 * 4) c (c - K1) _ _ ?_ (fun _ => rfl) ?_ ?_) ?_); (first | exact (Below.refl _ _).drew.alloc (Nat.le_refl _) _ | exact (((Grew.refl W0).alloc _).drew).below); (first | (simp; done) | simp); (first | (simp; done) | simp); rintro e w3 ⟨a3, c3, rfl, HL3, hb3⟩; have hb4 : Below W0.heap.size W0 w3 := (by first | exact ((Below.refl _ _).drew.alloc (Nat.le_refl _) _).trans (hb3.mono ((Below.refl W0.heap.size W0).drew.alloc (Nat.le_refl _) _).size) | exact ((((Grew.refl W0).alloc _).drew).below).trans (hb3.mono ((((Grew.refl W0).alloc _).drew).below).size)); clear hb3; have HF := HF0.out w3 a3 c3 hb4 HL3; have t0 := cell_keeps hb4 t0; have t1 := cell_keeps hb4 t1; have t2 := cell_keeps hb4 t2; have t3 := cell_keeps hb4 t3; have f3 := (hb4.frozen (p := ⟨w.heap.size, 3, none⟩) (by show w.heap.size < _; omega)).trans f3))
      all_goals (go_wp2_with fail; go_meet; exact ⟨a3, c3, HF⟩)
    case rest =>
      obtain ⟨a3, c3, H4⟩ := hcut
      clear HF0 HCo t0 t1 t2 t3 f0 f1 f2 f3 HT HR
      have HE3 : Hid (PP (.returned (.agg #[.int .i64 6, .int .i64 n, .string tx, .slice a3 L c3])) (wc.setCells (w.heap.size + 1) 0 (encP ((⟨6, n, tx, l⟩ : VT), .slice a3 L c3)))) := H4.out.2.2
      have Hq : Hid (Bx (wc.setCells (w.heap.size + 1) 0 (encP ((⟨6, n, tx, l⟩ : VT), .slice a3 L c3))) (w.heap.size + 1) (⟨6, n, tx, l⟩ : VT) (.slice a3 L c3)) := H4.out.2.1.put ((⟨6, n, tx, l⟩ : VT), .slice a3 L c3)
      obtain ⟨t0, t1, t2, t3, _, _, _, _⟩ := H4.out.1
      obtain ⟨z0, z1, z2, z3, y0, y1, y2, y3⟩ := H4.out.2.1
      simp only at t0 t1 t2 z0 z1 z2
      clear H4
      go_wp2_with fail
      refine bodyPost_ret (v := .agg #[.int .i64 6, .int .i64 n, .string tx, .slice a3 L c3]) ?_ rfl HE3.out
      obtain ⟨q0, q1, q2, q3, _, _, _, _⟩ := Hq.out
      simp only [World.setCells, encP, Nat.zero_add, Nat.reduceAdd] at q0 q1 q2 q3
      simp [results, Try.results56, go_sem, q0, q1, q2, q3]


set_option maxRecDepth 100000 in
set_option maxHeartbeats 8000000 in
theorem without_4 (X : Nat → Prop) (n : Int) (tx : ByteArray) (l : List VT) (b o c k F K1 : Nat) (w : World) (hX : ∀ q, X q → q < w.heap.size) (h : LiesX X 16 w l (.slice (some ⟨b, o, none⟩) l.length c)) (hkF : k = F) (hK : K1 = k + 1) (hkl : k < l.length) (hll : l.length ≤ 1024) (hc : l.length ≤ c) :
    Calls Try.prog 56 #[.agg #[.int .i64 4, .int .i64 n, .string tx, .slice (some ⟨b, o, none⟩) l.length c], .int .i64 (k : Int)] w (NewP X 16 ⟨4, n, tx, l.take F ++ l.drop K1⟩ w) := by
  have HT : Hid (Bx (at2 w (⟨4, n, tx, l⟩ : VT) (.slice (some ⟨b, o, none⟩) l.length c)) w.heap.size (⟨4, n, tx, l⟩ : VT) (.slice (some ⟨b, o, none⟩) l.length c)) := at2_fst _ _ _
  have HR : Hid (Bx (at2 w (⟨4, n, tx, l⟩ : VT) (.slice (some ⟨b, o, none⟩) l.length c)) (w.heap.size + 1) zeroT (.slice none 0 0)) := at2_snd _ _ _
  have hb0 := at2_below w (⟨4, n, tx, l⟩ : VT) (.slice (some ⟨b, o, none⟩) l.length c)
  obtain ⟨W0, hW0⟩ : ∃ W0, W0 = at2 w (⟨4, n, tx, l⟩ : VT) (.slice (some ⟨b, o, none⟩) l.length c) := ⟨_, rfl⟩
  have HW0 : Hid (W0 = at2 w (⟨4, n, tx, l⟩ : VT) (.slice (some ⟨b, o, none⟩) l.length c)) := hW0
  rw [← hW0] at HT HR hb0
  clear hW0
  unfold at2 at HW0
  simp only at HW0
  have hFl : F ≤ l.length := by omega
  subst hkF
  have HCo : Hid (∀ (o' c1 c2 B : Nat) (V : World), Below W0.heap.size W0 V → (K1 < l.length → o' = o + K1 * 4) → V.cell? ⟨B, 0, none⟩ = some (.slice (some ⟨b, o, none⟩) k c1) → V.cell? ⟨B, 1, none⟩ = some (.slice (some ⟨b, o', none⟩) (l.length - K1) c2) → Calls Try.prog 66 #[.slice (some ⟨B, 0, none⟩) 2 2] V fun e w' => ∃ a' c', e = .returned (.slice a' (l.take k ++ l.drop K1).length c') ∧ Hid (LiesX (fun n => X n ∨ W0.heap.size ≤ n) 16 w' (l.take k ++ l.drop K1) (.slice a' (l.take k ++ l.drop K1).length c')) ∧ Below V.heap.size V w') := fun o' c1 c2 B V hV ho k1 k2 => cat_cut X l b o c k K1 W0.heap.size o' c1 c2 B W0 V (h.keeps hb0) (by omega) hFl (by omega) hV hV.size ho k1 k2
  have hs2 : w.heap.size + 1 < W0.heap.size := by have h9 := cell_lt HR.out.c0; simpa using h9
  generalize hm : l.take k ++ l.drop K1 = m at *
  clear hm
  have HE : Hid (∀ W a' c', Below W0.heap.size W0 W → LiesX (fun n => X n ∨ W0.heap.size ≤ n) 16 W m (.slice a' m.length c') → NewP X 16 ⟨4, n, tx, m⟩ w (.returned (.agg #[.int .i64 4, .int .i64 n, .string tx, .slice a' m.length c'])) ((W.setCell ⟨w.heap.size, 3, none⟩ (.slice a' m.length c')).setCells (w.heap.size + 1) 0 (encP ((⟨4, n, tx, l⟩ : VT), .slice a' m.length c')))) := fun W a' c' h1 h2 => by
    refine ⟨a', c', rfl, ?_, below_put (below_setM (hb0.trans (h1.mono hb0.size)) (Nat.le_refl _) _ _) (by omega) _⟩
    refine LiesX.mono (fun q hq => hq.imp id (fun h => by omega)) (LiesX.set (g := w.heap.size + 1) (fun hq => ?_) (LiesX.set (g := w.heap.size) (o := 3) (vs := [.slice a' m.length c']) (fun hq => ?_) h2))
    · rcases hq with hq | hq
      · have := hX _ hq; omega
      · omega
    · rcases hq with hq | hq
      · have := hX _ hq; omega
      · omega
  generalize NewP X 16 ⟨4, n, tx, m⟩ w = PP at *
  have hN : ∃ N, N = l.length := ⟨_, rfl⟩
  obtain ⟨N, hN⟩ := hN
  rw [← hN] at HT HCo hkl hc HW0 ⊢
  obtain ⟨L, hL⟩ : ∃ L, L = m.length := ⟨_, rfl⟩
  rw [← hL] at HCo HE
  have h1c : (K1 : Int) ≤ (c : Int) := by omega
  have h2c : (k : Int) ≤ (c : Int) := by omega
  have h3c : (K1 : Int) ≤ (N : Int) := by omega
  have h4c : (N : Int) ≤ (c : Int) := by omega
  have h6c : (k : Int) ≤ 1024 := by omega
  have h7c : (k : Int) ≤ 1024 := by omega
  have hwK : IntKind.i64.wrap ((k : Int) + 1) = (K1 : Int) := by rw [IntKind.wrap_i64]; omega
  have HK1 : Hid (K1 = k + 1 ∧ k < N) := ⟨hK, hkl⟩
  clear hX h hN hL hFl hll hK hkl
  have HF0 : Hid (∀ W a' c', Below W0.heap.size W0 W → Hid (LiesX (fun n => X n ∨ W0.heap.size ≤ n) 16 W m (.slice a' L c')) → Hid (Bx (W.setCell ⟨w.heap.size, 3, none⟩ (.slice a' L c')) w.heap.size (⟨4, n, tx, l⟩ : VT) (.slice a' L c') ∧ Bx (W.setCell ⟨w.heap.size, 3, none⟩ (.slice a' L c')) (w.heap.size + 1) zeroT (.slice none 0 0) ∧ PP (.returned (.agg #[.int .i64 4, .int .i64 n, .string tx, .slice a' L c'])) ((W.setCell ⟨w.heap.size, 3, none⟩ (.slice a' L c')).setCells (w.heap.size + 1) 0 (encP ((⟨4, n, tx, l⟩ : VT), .slice a' L c'))))) := fun W a' c' h1 h2 =>
    ⟨(HT.out.keeps h1).items _, (HR.out.keeps h1).other1 (by omega) 3 _, HE.out W a' c' h1 h2.out⟩
  clear HE
  obtain ⟨t0, t1, t2, t3, f0, f1, f2, f3⟩ := HT.out
  simp only at t0 t1 t2
  go_enter Try.func56, Try.ntmps56
  go_upto_region 1 with fail
  rw [← HW0.out]
  clear HW0
  go_upto_region 7 with fail
  by_cases hck : c = K1
  · have HNK : Hid (¬ K1 < N) := by show ¬ _; omega

    subst hck
    have hz0 : N - c = 0 := by omega
    rw [hz0] at HCo
    clear hz0
    go_cut [] from 16 to 27 (fun wx => ∃ a3 c3, Hid (Bx wx w.heap.size (⟨4, n, tx, l⟩ : VT) (.slice a3 L c3) ∧ Bx wx (w.heap.size + 1) zeroT (.slice none 0 0) ∧ PP (.returned (.agg #[.int .i64 4, .int .i64 n, .string tx, .slice a3 L c3])) (wx.setCells (w.heap.size + 1) 0 (encP ((⟨4, n, tx, l⟩ : VT), .slice a3 L c3)))))
    case first =>
      go_region_with
        (first | (go_at_call 66; (with_reducible refine Calls.mono (HCo.out (o) c 0 _ _ ?_ (fun h => absurd h HNK.out) ?_ ?_) ?_); (first | exact (Below.refl _ _).drew.alloc (Nat.le_refl _) _ | exact (((Grew.refl W0).alloc _).drew).below); (first | (simp; done) | simp); (first | (simp; done) | simp); rintro e w3 ⟨a3, c3, rfl, HL3, hb3⟩; have hb4 : Below W0.heap.size W0 w3 := (by first | exact ((Below.refl _ _).drew.alloc (Nat.le_refl _) _).trans (hb3.mono ((Below.refl W0.heap.size W0).drew.alloc (Nat.le_refl _) _).size) | exact ((((Grew.refl W0).alloc _).drew).below).trans (hb3.mono ((((Grew.refl W0).alloc _).drew).below).size)); clear hb3; have HF := HF0.out w3 a3 c3 hb4 HL3; have t0 := cell_keeps hb4 t0; have t1 := cell_keeps hb4 t1; have t2 := cell_keeps hb4 t2; have t3 := cell_keeps hb4 t3; have f3 := (hb4.frozen (p := ⟨w.heap.size, 3, none⟩) (by show w.heap.size < _; omega)).trans f3))
      all_goals (go_wp2_with fail; go_meet; exact ⟨a3, c3, HF⟩)
    case rest =>
      obtain ⟨a3, c3, H4⟩ := hcut
      clear HF0 HCo t0 t1 t2 t3 f0 f1 f2 f3 HT HR
      have HE3 : Hid (PP (.returned (.agg #[.int .i64 4, .int .i64 n, .string tx, .slice a3 L c3])) (wc.setCells (w.heap.size + 1) 0 (encP ((⟨4, n, tx, l⟩ : VT), .slice a3 L c3)))) := H4.out.2.2
      have Hq : Hid (Bx (wc.setCells (w.heap.size + 1) 0 (encP ((⟨4, n, tx, l⟩ : VT), .slice a3 L c3))) (w.heap.size + 1) (⟨4, n, tx, l⟩ : VT) (.slice a3 L c3)) := H4.out.2.1.put ((⟨4, n, tx, l⟩ : VT), .slice a3 L c3)
      obtain ⟨t0, t1, t2, t3, _, _, _, _⟩ := H4.out.1
      obtain ⟨z0, z1, z2, z3, y0, y1, y2, y3⟩ := H4.out.2.1
      simp only at t0 t1 t2 z0 z1 z2
      clear H4
      go_wp2_with fail
      refine bodyPost_ret (v := .agg #[.int .i64 4, .int .i64 n, .string tx, .slice a3 L c3]) ?_ rfl HE3.out
      obtain ⟨q0, q1, q2, q3, _, _, _, _⟩ := Hq.out
      simp only [World.setCells, encP, Nat.zero_add, Nat.reduceAdd] at q0 q1 q2 q3
      simp [results, Try.results56, go_sem, q0, q1, q2, q3]
  · have h5c : ¬ ((c : Nat) : Int) = (K1 : Nat) := by omega
    go_cut [] from 16 to 27 (fun wx => ∃ a3 c3, Hid (Bx wx w.heap.size (⟨4, n, tx, l⟩ : VT) (.slice a3 L c3) ∧ Bx wx (w.heap.size + 1) zeroT (.slice none 0 0) ∧ PP (.returned (.agg #[.int .i64 4, .int .i64 n, .string tx, .slice a3 L c3])) (wx.setCells (w.heap.size + 1) 0 (encP ((⟨4, n, tx, l⟩ : VT), .slice a3 L c3)))))
    case first =>
      go_region_with
        (first | (go_at_call 66; (with_reducible refine Calls.mono (HCo.out (o + K1 * 4) c (c - K1) _ _ ?_ (fun _ => rfl) ?_ ?_) ?_); (first | exact (Below.refl _ _).drew.alloc (Nat.le_refl _) _ | exact (((Grew.refl W0).alloc _).drew).below); (first | (simp; done) | simp); (first | (simp; done) | simp); rintro e w3 ⟨a3, c3, rfl, HL3, hb3⟩; have hb4 : Below W0.heap.size W0 w3 := (by first | exact ((Below.refl _ _).drew.alloc (Nat.le_refl _) _).trans (hb3.mono ((Below.refl W0.heap.size W0).drew.alloc (Nat.le_refl _) _).size) | exact ((((Grew.refl W0).alloc _).drew).below).trans (hb3.mono ((((Grew.refl W0).alloc _).drew).below).size)); clear hb3; have HF := HF0.out w3 a3 c3 hb4 HL3; have t0 := cell_keeps hb4 t0; have t1 := cell_keeps hb4 t1; have t2 := cell_keeps hb4 t2; have t3 := cell_keeps hb4 t3; have f3 := (hb4.frozen (p := ⟨w.heap.size, 3, none⟩) (by show w.heap.size < _; omega)).trans f3))
      all_goals (go_wp2_with fail; go_meet; exact ⟨a3, c3, HF⟩)
    case rest =>
      obtain ⟨a3, c3, H4⟩ := hcut
      clear HF0 HCo t0 t1 t2 t3 f0 f1 f2 f3 HT HR
      have HE3 : Hid (PP (.returned (.agg #[.int .i64 4, .int .i64 n, .string tx, .slice a3 L c3])) (wc.setCells (w.heap.size + 1) 0 (encP ((⟨4, n, tx, l⟩ : VT), .slice a3 L c3)))) := H4.out.2.2
      have Hq : Hid (Bx (wc.setCells (w.heap.size + 1) 0 (encP ((⟨4, n, tx, l⟩ : VT), .slice a3 L c3))) (w.heap.size + 1) (⟨4, n, tx, l⟩ : VT) (.slice a3 L c3)) := H4.out.2.1.put ((⟨4, n, tx, l⟩ : VT), .slice a3 L c3)
      obtain ⟨t0, t1, t2, t3, _, _, _, _⟩ := H4.out.1
      obtain ⟨z0, z1, z2, z3, y0, y1, y2, y3⟩ := H4.out.2.1
      simp only at t0 t1 t2 z0 z1 z2
      clear H4
      go_wp2_with fail
      refine bodyPost_ret (v := .agg #[.int .i64 4, .int .i64 n, .string tx, .slice a3 L c3]) ?_ rfl HE3.out
      obtain ⟨q0, q1, q2, q3, _, _, _, _⟩ := Hq.out
      simp only [World.setCells, encP, Nat.zero_add, Nat.reduceAdd] at q0 q1 q2 q3
      simp [results, Try.results56, go_sem, q0, q1, q2, q3]


set_option maxRecDepth 100000 in
set_option maxHeartbeats 8000000 in
theorem without_5 (X : Nat → Prop) (n : Int) (tx : ByteArray) (l : List VT) (b o c k F K1 : Nat) (w : World) (hX : ∀ q, X q → q < w.heap.size) (h : LiesX X 16 w l (.slice (some ⟨b, o, none⟩) l.length c)) (hkF : k = F) (hK : K1 = k + 1) (hkl : k < l.length) (hll : l.length ≤ 1024) (hc : l.length ≤ c) :
    Calls Try.prog 56 #[.agg #[.int .i64 5, .int .i64 n, .string tx, .slice (some ⟨b, o, none⟩) l.length c], .int .i64 (k : Int)] w (NewP X 16 ⟨5, n, tx, l.take F ++ l.drop K1⟩ w) := by
  have HT : Hid (Bx (at2 w (⟨5, n, tx, l⟩ : VT) (.slice (some ⟨b, o, none⟩) l.length c)) w.heap.size (⟨5, n, tx, l⟩ : VT) (.slice (some ⟨b, o, none⟩) l.length c)) := at2_fst _ _ _
  have HR : Hid (Bx (at2 w (⟨5, n, tx, l⟩ : VT) (.slice (some ⟨b, o, none⟩) l.length c)) (w.heap.size + 1) zeroT (.slice none 0 0)) := at2_snd _ _ _
  have hb0 := at2_below w (⟨5, n, tx, l⟩ : VT) (.slice (some ⟨b, o, none⟩) l.length c)
  obtain ⟨W0, hW0⟩ : ∃ W0, W0 = at2 w (⟨5, n, tx, l⟩ : VT) (.slice (some ⟨b, o, none⟩) l.length c) := ⟨_, rfl⟩
  have HW0 : Hid (W0 = at2 w (⟨5, n, tx, l⟩ : VT) (.slice (some ⟨b, o, none⟩) l.length c)) := hW0
  rw [← hW0] at HT HR hb0
  clear hW0
  unfold at2 at HW0
  simp only at HW0
  have hFl : F ≤ l.length := by omega
  subst hkF
  have HCo : Hid (∀ (o' c1 c2 B : Nat) (V : World), Below W0.heap.size W0 V → (K1 < l.length → o' = o + K1 * 4) → V.cell? ⟨B, 0, none⟩ = some (.slice (some ⟨b, o, none⟩) k c1) → V.cell? ⟨B, 1, none⟩ = some (.slice (some ⟨b, o', none⟩) (l.length - K1) c2) → Calls Try.prog 66 #[.slice (some ⟨B, 0, none⟩) 2 2] V fun e w' => ∃ a' c', e = .returned (.slice a' (l.take k ++ l.drop K1).length c') ∧ Hid (LiesX (fun n => X n ∨ W0.heap.size ≤ n) 16 w' (l.take k ++ l.drop K1) (.slice a' (l.take k ++ l.drop K1).length c')) ∧ Below V.heap.size V w') := fun o' c1 c2 B V hV ho k1 k2 => cat_cut X l b o c k K1 W0.heap.size o' c1 c2 B W0 V (h.keeps hb0) (by omega) hFl (by omega) hV hV.size ho k1 k2
  have hs2 : w.heap.size + 1 < W0.heap.size := by have h9 := cell_lt HR.out.c0; simpa using h9
  generalize hm : l.take k ++ l.drop K1 = m at *
  clear hm
  have HE : Hid (∀ W a' c', Below W0.heap.size W0 W → LiesX (fun n => X n ∨ W0.heap.size ≤ n) 16 W m (.slice a' m.length c') → NewP X 16 ⟨5, n, tx, m⟩ w (.returned (.agg #[.int .i64 5, .int .i64 n, .string tx, .slice a' m.length c'])) ((W.setCell ⟨w.heap.size, 3, none⟩ (.slice a' m.length c')).setCells (w.heap.size + 1) 0 (encP ((⟨5, n, tx, l⟩ : VT), .slice a' m.length c')))) := fun W a' c' h1 h2 => by
    refine ⟨a', c', rfl, ?_, below_put (below_setM (hb0.trans (h1.mono hb0.size)) (Nat.le_refl _) _ _) (by omega) _⟩
    refine LiesX.mono (fun q hq => hq.imp id (fun h => by omega)) (LiesX.set (g := w.heap.size + 1) (fun hq => ?_) (LiesX.set (g := w.heap.size) (o := 3) (vs := [.slice a' m.length c']) (fun hq => ?_) h2))
    · rcases hq with hq | hq
      · have := hX _ hq; omega
      · omega
    · rcases hq with hq | hq
      · have := hX _ hq; omega
      · omega
  generalize NewP X 16 ⟨5, n, tx, m⟩ w = PP at *
  have hN : ∃ N, N = l.length := ⟨_, rfl⟩
  obtain ⟨N, hN⟩ := hN
  rw [← hN] at HT HCo hkl hc HW0 ⊢
  obtain ⟨L, hL⟩ : ∃ L, L = m.length := ⟨_, rfl⟩
  rw [← hL] at HCo HE
  have h1c : (K1 : Int) ≤ (c : Int) := by omega
  have h2c : (k : Int) ≤ (c : Int) := by omega
  have h3c : (K1 : Int) ≤ (N : Int) := by omega
  have h4c : (N : Int) ≤ (c : Int) := by omega
  have h6c : (k : Int) ≤ 1024 := by omega
  have h7c : (k : Int) ≤ 1024 := by omega
  have hwK : IntKind.i64.wrap ((k : Int) + 1) = (K1 : Int) := by rw [IntKind.wrap_i64]; omega
  have HK1 : Hid (K1 = k + 1 ∧ k < N) := ⟨hK, hkl⟩
  clear hX h hN hL hFl hll hK hkl
  have HF0 : Hid (∀ W a' c', Below W0.heap.size W0 W → Hid (LiesX (fun n => X n ∨ W0.heap.size ≤ n) 16 W m (.slice a' L c')) → Hid (Bx (W.setCell ⟨w.heap.size, 3, none⟩ (.slice a' L c')) w.heap.size (⟨5, n, tx, l⟩ : VT) (.slice a' L c') ∧ Bx (W.setCell ⟨w.heap.size, 3, none⟩ (.slice a' L c')) (w.heap.size + 1) zeroT (.slice none 0 0) ∧ PP (.returned (.agg #[.int .i64 5, .int .i64 n, .string tx, .slice a' L c'])) ((W.setCell ⟨w.heap.size, 3, none⟩ (.slice a' L c')).setCells (w.heap.size + 1) 0 (encP ((⟨5, n, tx, l⟩ : VT), .slice a' L c'))))) := fun W a' c' h1 h2 =>
    ⟨(HT.out.keeps h1).items _, (HR.out.keeps h1).other1 (by omega) 3 _, HE.out W a' c' h1 h2.out⟩
  clear HE
  obtain ⟨t0, t1, t2, t3, f0, f1, f2, f3⟩ := HT.out
  simp only at t0 t1 t2
  go_enter Try.func56, Try.ntmps56
  go_upto_region 1 with fail
  rw [← HW0.out]
  clear HW0
  go_upto_region 7 with fail
  by_cases hck : c = K1
  · have HNK : Hid (¬ K1 < N) := by show ¬ _; omega

    subst hck
    have hz0 : N - c = 0 := by omega
    rw [hz0] at HCo
    clear hz0
    go_cut [] from 16 to 27 (fun wx => ∃ a3 c3, Hid (Bx wx w.heap.size (⟨5, n, tx, l⟩ : VT) (.slice a3 L c3) ∧ Bx wx (w.heap.size + 1) zeroT (.slice none 0 0) ∧ PP (.returned (.agg #[.int .i64 5, .int .i64 n, .string tx, .slice a3 L c3])) (wx.setCells (w.heap.size + 1) 0 (encP ((⟨5, n, tx, l⟩ : VT), .slice a3 L c3)))))
    case first =>
      go_region_with
        (first | (go_at_call 66; (with_reducible refine Calls.mono (HCo.out (o) c 0 _ _ ?_ (fun h => absurd h HNK.out) ?_ ?_) ?_); (first | exact (Below.refl _ _).drew.alloc (Nat.le_refl _) _ | exact (((Grew.refl W0).alloc _).drew).below); (first | (simp; done) | simp); (first | (simp; done) | simp); rintro e w3 ⟨a3, c3, rfl, HL3, hb3⟩; have hb4 : Below W0.heap.size W0 w3 := (by first | exact ((Below.refl _ _).drew.alloc (Nat.le_refl _) _).trans (hb3.mono ((Below.refl W0.heap.size W0).drew.alloc (Nat.le_refl _) _).size) | exact ((((Grew.refl W0).alloc _).drew).below).trans (hb3.mono ((((Grew.refl W0).alloc _).drew).below).size)); clear hb3; have HF := HF0.out w3 a3 c3 hb4 HL3; have t0 := cell_keeps hb4 t0; have t1 := cell_keeps hb4 t1; have t2 := cell_keeps hb4 t2; have t3 := cell_keeps hb4 t3; have f3 := (hb4.frozen (p := ⟨w.heap.size, 3, none⟩) (by show w.heap.size < _; omega)).trans f3))
      all_goals (go_wp2_with fail; go_meet; exact ⟨a3, c3, HF⟩)
    case rest =>
      obtain ⟨a3, c3, H4⟩ := hcut
      clear HF0 HCo t0 t1 t2 t3 f0 f1 f2 f3 HT HR
      have HE3 : Hid (PP (.returned (.agg #[.int .i64 5, .int .i64 n, .string tx, .slice a3 L c3])) (wc.setCells (w.heap.size + 1) 0 (encP ((⟨5, n, tx, l⟩ : VT), .slice a3 L c3)))) := H4.out.2.2
      have Hq : Hid (Bx (wc.setCells (w.heap.size + 1) 0 (encP ((⟨5, n, tx, l⟩ : VT), .slice a3 L c3))) (w.heap.size + 1) (⟨5, n, tx, l⟩ : VT) (.slice a3 L c3)) := H4.out.2.1.put ((⟨5, n, tx, l⟩ : VT), .slice a3 L c3)
      obtain ⟨t0, t1, t2, t3, _, _, _, _⟩ := H4.out.1
      obtain ⟨z0, z1, z2, z3, y0, y1, y2, y3⟩ := H4.out.2.1
      simp only at t0 t1 t2 z0 z1 z2
      clear H4
      go_wp2_with fail
      refine bodyPost_ret (v := .agg #[.int .i64 5, .int .i64 n, .string tx, .slice a3 L c3]) ?_ rfl HE3.out
      obtain ⟨q0, q1, q2, q3, _, _, _, _⟩ := Hq.out
      simp only [World.setCells, encP, Nat.zero_add, Nat.reduceAdd] at q0 q1 q2 q3
      simp [results, Try.results56, go_sem, q0, q1, q2, q3]
  · have h5c : ¬ ((c : Nat) : Int) = (K1 : Nat) := by omega
    go_cut [] from 16 to 27 (fun wx => ∃ a3 c3, Hid (Bx wx w.heap.size (⟨5, n, tx, l⟩ : VT) (.slice a3 L c3) ∧ Bx wx (w.heap.size + 1) zeroT (.slice none 0 0) ∧ PP (.returned (.agg #[.int .i64 5, .int .i64 n, .string tx, .slice a3 L c3])) (wx.setCells (w.heap.size + 1) 0 (encP ((⟨5, n, tx, l⟩ : VT), .slice a3 L c3)))))
    case first =>
      go_region_with
        (first | (go_at_call 66; (with_reducible refine Calls.mono (HCo.out (o + K1 * 4) c (c - K1) _ _ ?_ (fun _ => rfl) ?_ ?_) ?_); (first | exact (Below.refl _ _).drew.alloc (Nat.le_refl _) _ | exact (((Grew.refl W0).alloc _).drew).below); (first | (simp; done) | simp); (first | (simp; done) | simp); rintro e w3 ⟨a3, c3, rfl, HL3, hb3⟩; have hb4 : Below W0.heap.size W0 w3 := (by first | exact ((Below.refl _ _).drew.alloc (Nat.le_refl _) _).trans (hb3.mono ((Below.refl W0.heap.size W0).drew.alloc (Nat.le_refl _) _).size) | exact ((((Grew.refl W0).alloc _).drew).below).trans (hb3.mono ((((Grew.refl W0).alloc _).drew).below).size)); clear hb3; have HF := HF0.out w3 a3 c3 hb4 HL3; have t0 := cell_keeps hb4 t0; have t1 := cell_keeps hb4 t1; have t2 := cell_keeps hb4 t2; have t3 := cell_keeps hb4 t3; have f3 := (hb4.frozen (p := ⟨w.heap.size, 3, none⟩) (by show w.heap.size < _; omega)).trans f3))
      all_goals (go_wp2_with fail; go_meet; exact ⟨a3, c3, HF⟩)
    case rest =>
      obtain ⟨a3, c3, H4⟩ := hcut
      clear HF0 HCo t0 t1 t2 t3 f0 f1 f2 f3 HT HR
      have HE3 : Hid (PP (.returned (.agg #[.int .i64 5, .int .i64 n, .string tx, .slice a3 L c3])) (wc.setCells (w.heap.size + 1) 0 (encP ((⟨5, n, tx, l⟩ : VT), .slice a3 L c3)))) := H4.out.2.2
      have Hq : Hid (Bx (wc.setCells (w.heap.size + 1) 0 (encP ((⟨5, n, tx, l⟩ : VT), .slice a3 L c3))) (w.heap.size + 1) (⟨5, n, tx, l⟩ : VT) (.slice a3 L c3)) := H4.out.2.1.put ((⟨5, n, tx, l⟩ : VT), .slice a3 L c3)
      obtain ⟨t0, t1, t2, t3, _, _, _, _⟩ := H4.out.1
      obtain ⟨z0, z1, z2, z3, y0, y1, y2, y3⟩ := H4.out.2.1
      simp only at t0 t1 t2 z0 z1 z2
      clear H4
      go_wp2_with fail
      refine bodyPost_ret (v := .agg #[.int .i64 5, .int .i64 n, .string tx, .slice a3 L c3]) ?_ rfl HE3.out
      obtain ⟨q0, q1, q2, q3, _, _, _, _⟩ := Hq.out
      simp only [World.setCells, encP, Nat.zero_add, Nat.reduceAdd] at q0 q1 q2 q3
      simp [results, Try.results56, go_sem, q0, q1, q2, q3]


/-- without, of a value and a step that says a part of it. -/
theorem without_any (X : Nat → Prop) (t s : VT) (a : Option Addr) (c : Nat) (w : World) (hX : ∀ q, X q → q < w.heap.size) (h : LiesX X 16 w t.items (.slice a t.items.length c)) (hr : rightV 16 t = true) (hB : plcB t s = true) :
    Calls Try.prog 56 #[.agg #[.int .i64 t.kind, .int .i64 t.num, .string t.text, .slice a t.items.length c], .int .i64 (plcI t s)] w (NewP X 16 (wotT t (plcI t s).toNat) w) := by
  have hd := Dp.of_lies 16 w t _ h.lies
  have hll := right_len hr
  obtain ⟨h0, hlt⟩ := plcB_lt (right_even t hd hr) hB
  obtain ⟨k, hk⟩ : ∃ k : Nat, plcI t s = (k : Int) := ⟨(plcI t s).toNat, by omega⟩
  have hkt : (plcI t s).toNat = k := by omega
  rw [hkt] at hlt ⊢
  rw [hk]
  obtain ⟨b, o, rfl, hc⟩ : ∃ b o, a = some ⟨b, o, none⟩ ∧ t.items.length ≤ c := by
    obtain ⟨a', c', hv', hb, hr'⟩ := h
    injection hv' with e1 _ e3
    obtain ⟨b, o, ha, _⟩ := hr' (fun e => by rw [e] at hlt; simp at hlt)
    exact ⟨b, o, by rw [e1, ha], by rw [e3]; exact hb.1⟩
  have hpl : t.kind = 6 → 1 ≤ k := fun h6 => by
    unfold plcI at hk
    rw [if_pos (.inr h6)] at hk
    omega
  by_cases h6 : t.kind = 6
  · have h1 := hpl h6
    have e : wotT t k = ⟨t.kind, t.num, t.text, t.items.take (k - 1) ++ t.items.drop (k + 1)⟩ := by unfold wotT; rw [if_pos h6]
    rw [e, h6]
    exact without_6 X t.num t.text t.items b o c k (k - 1) (k + 1) w hX h (by omega) rfl hlt hll hc
  · by_cases h4 : t.kind = 4
    · have e : wotT t k = ⟨t.kind, t.num, t.text, t.items.take k ++ t.items.drop (k + 1)⟩ := by unfold wotT; rw [if_neg h6, if_pos (.inl h4)]
      rw [e, h4]
      exact without_4 X t.num t.text t.items b o c k k (k + 1) w hX h rfl rfl hlt hll hc
    · by_cases h5 : t.kind = 5
      · have e : wotT t k = ⟨t.kind, t.num, t.text, t.items.take k ++ t.items.drop (k + 1)⟩ := by unfold wotT; rw [if_neg h6, if_pos (.inr h5)]
        rw [e, h5]
        exact without_5 X t.num t.text t.items b o c k k (k + 1) w hX h rfl rfl hlt hll hc
      · exfalso
        have := leaf_items hr h4 h5 h6
        rw [this] at hlt
        simp at hlt

end Go.Proofs.Ytofceccicmlmoaa

