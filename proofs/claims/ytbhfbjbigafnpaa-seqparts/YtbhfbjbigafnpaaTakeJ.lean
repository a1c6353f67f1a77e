/-
  What the walks of Take, Nth, Drop and Count keep.
-/
import Derived.Test.YtbhfbjbigafnpaaRNthM
import Derived.WalkMore
namespace Go.Proofs.Ytbhfbjbigafnpaa
open Go.RowKit Go.Shelf

/-- What walk leaves. -/
def WkPost {S : Type} (JJ : (Nat → Prop) → S → Nat → List VT → Option (VT × Value) → World → Prop) (bar : Nat → Prop) (r : WS S) (w : World) (e : Ending) (w' : World) : Prop :=
  ∃ p', e = .returned (.agg #[.int .i64 (r.items.length : Int), .pointer (some ⟨p', 0, none⟩), .int .i64 (r.left : Int), .int .i64 (r.err : Int)]) ∧ KC (fun n => ¬ bar n) w w' ∧ JJ bar r.s p' r.items none w'

set_option maxRecDepth 100000 in
set_option maxHeartbeats 8000000 in
theorem walk_any {S : Type} (frc : S → Nat → FR S) (JJ : (Nat → Prop) → S → Nat → List VT → Option (VT × Value) → World → Prop) (hw : Wkr frc JJ) (g : Nat) (cap : Array Value)
    (eg : ∀ args w, (callFunc g args).run Try.prog w = .ok (.enter g args) w)
    (hf : ∀ (bar : Nat → Prop) s p l (f : Nat) w, f ≤ 1073741824 → JJ bar s p l none w → Calls Try.prog 39 #[.pointer (some ⟨p, 0, none⟩), .int .i64 (f : Int)] w (FJ JJ bar p l (frc s f) w))
    (hg : ∀ (bar : Nat → Prop) s p l x u w, l.length ≤ 65536 → JJ bar s p l (some (x, u)) w → Calls Try.prog g (#[.agg #[.int .i64 x.kind, .int .i64 x.num, .string x.text, u]] ++ cap) w fun e w' => e = .returned (.tuple #[]) ∧ KC (fun n => ¬ bar n) w w' ∧ JJ bar s p (l ++ [x]) none w')
    (bar : Nat → Prop) (s : S) (p n f : Nat) (hn : n ≤ 65537) (hf0 : f ≤ 1073741824) (w : World) (h : JJ bar s p [] none w) :
    Calls Try.prog 24 #[.pointer (some ⟨p, 0, none⟩), .int .i64 (n : Int), .int .i64 (f : Int), .func (.func g) #[] cap] w (WkPost JJ bar (wlk frc n s f) w) := by
  have HW : Hid _ := hw
  have HF : Hid _ := hf
  have HG : Hid _ := hg
  have Hn : Hid (n ≤ 65537 ∧ f ≤ 1073741824) := ⟨hn, hf0⟩
  obtain ⟨W, hW⟩ : ∃ W, W = ((w.alloc (.cells #[.int .i64 0, .pointer none, .int .i64 0, .int .i64 0] 60)).alloc (.cells #[.int .i64 0, .pointer (some ⟨p, 0, none⟩), .int .i64 (f : Int), .int .i64 0] 60)) := ⟨_, rfl⟩
  have HWe : Hid (W = ((w.alloc (.cells #[.int .i64 0, .pointer none, .int .i64 0, .int .i64 0] 60)).alloc (.cells #[.int .i64 0, .pointer (some ⟨p, 0, none⟩), .int .i64 (f : Int), .int .i64 0] 60))) := hW
  have hwb : Below w.heap.size w W := by rw [hW]; exact (((Grew.refl w).alloc _).alloc _).below
  have hws : W.heap.size = w.heap.size + 2 := by rw [hW]; simp
  have HPl : Hid (Pl W (w.heap.size + 1) 0 p f 0) := by rw [hW]; constructor <;> simp
  have HR8 : Hid (Rm4 W w.heap.size) := by rw [hW]; constructor <;> simp
  have HJ : Hid (JJ (fun m => bar m ∨ (w.heap.size ≤ m ∧ m < W.heap.size)) s p [] none W) := hw.k2 h hwb
  clear hw hf hg h hn hf0 hW
  go_enter Try.func24, Try.ntmps24
  go_wp2_with fail
  go_step3
  go_wp2_with fail
  go_step3
  go_wp2_with fail
  rw [← HWe.out]
  go_loopg [] n (fun z wr => ∃ (j p' fl : Nat) (l : List VT) (s' : S), z = n - j ∧ j ≤ n ∧ Hid (Pl wr (w.heap.size + 1) j p' fl 0 ∧ Rm4 wr w.heap.size) ∧ Hid (l.length = j ∧ fl ≤ 1073741824 ∧ wlk frc n s f = pre l (wlk frc (n - j) s' fl) ∧ KC (fun m => ¬ bar m) w wr) ∧ Hid (JJ (fun m => bar m ∨ (w.heap.size ≤ m ∧ m < W.heap.size)) s' p' l none wr))
  case atStart => exact ⟨0, p, f, [], s, by omega, by omega, ⟨HPl.out, HR8.out⟩, ⟨rfl, Hn.out.2, rfl, KC.of_below hwb⟩, HJ⟩
  case round =>
    obtain ⟨j, p', fl, l, s', hg, hj, HP, HI, HJ2⟩ := hrel
    have Hg : Hid (gk = n - j) := hg
    clear hg HPl HR8 HJ HWe
    have h8 : w.heap.size < wr.heap.size := by have := HP.out.1.lt; omega
    have h9 : w.heap.size + 1 < wr.heap.size := HP.out.1.lt
    obtain ⟨c0, c1, c2, c3, g0, g1, g2, g3⟩ := HP.out.1
    have HB8 : Hid ((fun m => bar m ∨ (w.heap.size ≤ m ∧ m < W.heap.size)) w.heap.size ∧ (fun m => bar m ∨ (w.heap.size ≤ m ∧ m < W.heap.size)) (w.heap.size + 1)) := ⟨.inr ⟨by omega, by omega⟩, .inr ⟨by omega, by omega⟩⟩
    generalize hbar : (fun m => bar m ∨ (w.heap.size ≤ m ∧ m < W.heap.size)) = bar2 at *
    have Hbar : Hid (∀ m, bar m → bar2 m) := fun m hm => by rw [← hbar]; exact .inl hm
    clear hbar
    by_cases hlt : j < n
    · have hji : (j : Int) < (n : Int) := by omega
      obtain ⟨k, hk⟩ : ∃ k, n - j = k + 1 := ⟨n - j - 1, by omega⟩
      have HFo : Hid (Calls Try.prog 39 #[.pointer (some ⟨p', 0, none⟩), .int .i64 (fl : Int)] wr (FJ JJ bar2 p' l (frc s' fl) wr)) := HF.out bar2 s' p' l fl wr HI.out.2.1 HJ2.out
      have HE : Hid (wlk frc n s f = pre l (match frc s' fl with | .err e s' => ⟨[], 0, e, s'⟩ | .emp left s' => ⟨[], left, 0, s'⟩ | .item x left s' => pre [x] (wlk frc k s' left))) := by
        have h := HI.out.2.2.1
        rw [hk] at h
        exact h
      cases hr : frc s' fl with
      | err e0 s2 =>
        rw [hr] at HFo HE
        go_wp2_with fail
        refine Calls.mono HFo.out ?_
        rintro e w3 ⟨hk3, ⟨a, c, rfl⟩, hJ3⟩
        have HP3 : Hid (Pl w3 (w.heap.size + 1) j p' fl 0) := HP.out.1.kc hk3 (fun h => h HB8.out.2)
        have HR3 : Hid (Rm4 w3 w.heap.size) := HP.out.2.kc hk3 (fun h => h HB8.out.1)
        have HZ : Hid (∀ Z, KC (fun m => m = w.heap.size ∨ m = w.heap.size + 1) w3 Z → WkPost JJ bar (wlk frc n s f) w (.returned (.agg #[.int .i64 (j : Int), .pointer (some ⟨p', 0, none⟩), .int .i64 0, .int .i64 (e0 : Int)])) Z) := fun Z hZ => by
          rw [HE.out]
          refine ⟨p', ?_, (HI.out.2.2.2.trans (hk3.mono (fun _ _ h hb => h (Hbar.out _ hb)))).trans2 hZ (fun m hm h => by omega), ?_⟩
          · rw [← HI.out.1]; simp [pre]
          · have h9 := HW.out.k3 (HW.out.k1 hJ3 (hZ.mono (fun m _ h => by rcases h with rfl | rfl; exact HB8.out.1; exact HB8.out.2))) Hbar.out
            simpa [pre] using h9
        clear hk3 hJ3 HE HI HJ2 HFo c0 c1 c2 c3 g0 g1 g2 g3 HP
        obtain ⟨c0, c1, c2, c3, g0, g1, g2, g3⟩ := HP3.out
        obtain ⟨⟨v0, d0⟩, ⟨v1, d1⟩, ⟨v2, d2⟩, ⟨v3, d3⟩, e0', e1', e2', e3'⟩ := HR3.out
        have h8 : w.heap.size < w3.heap.size := cell_lt d0
        have h9 : w.heap.size + 1 < w3.heap.size := cell_lt c0
        go_wp2_with fail
        rw [Exit.noGoto_ret]
        refine bodyPost_ret (v := .agg #[.int .i64 (j : Int), .pointer (some ⟨p', 0, none⟩), .int .i64 0, .int .i64 (e0 : Int)]) ?_ rfl (HZ.out _ (KC.alloc (KC.set (KC.set (KC.set (KC.set (KC.set (KC.set (KC.refl _ _) (.inl (.inr rfl)) _) (.inl (.inr rfl)) _) (.inl (.inl rfl)) _) (.inl (.inl rfl)) _) (.inl (.inl rfl)) _) (.inl (.inl rfl)) _) _))
        obtain ⟨q0, q1, q2, q3⟩ := rm4_alloc (V := (w3.setCell ⟨w.heap.size + 1, 2, none⟩ (.int .i64 0)).setCell ⟨w.heap.size + 1, 3, none⟩ (.int .i64 (e0 : Int))) (HR3.out.kc (B := fun m => m = w.heap.size + 1) (kc_two _ _ _ _ _ _) (by omega)) (.int .i64 (j : Int)) (.pointer (some ⟨p', 0, none⟩)) (.int .i64 0) (.int .i64 (e0 : Int)) (.cells #[.int .i64 0, .int .i64 0, .string ⟨#[]⟩, .slice a 0 c] 38)
        simp [results, Try.results24, go_sem, q0, q1, q2, q3]
      | emp left s2 =>
        rw [hr] at HFo HE
        go_wp2_with fail
        refine Calls.mono HFo.out ?_
        rintro e w3 ⟨hk3, ⟨a, c, rfl⟩, hle, hJ3⟩
        have HP3 : Hid (Pl w3 (w.heap.size + 1) j p' fl 0) := HP.out.1.kc hk3 (fun h => h HB8.out.2)
        have HR3 : Hid (Rm4 w3 w.heap.size) := HP.out.2.kc hk3 (fun h => h HB8.out.1)
        have HZ : Hid (∀ Z, KC (fun m => m = w.heap.size ∨ m = w.heap.size + 1) w3 Z → WkPost JJ bar (wlk frc n s f) w (.returned (.agg #[.int .i64 (j : Int), .pointer (some ⟨p', 0, none⟩), .int .i64 (left : Int), .int .i64 0])) Z) := fun Z hZ => by
          rw [HE.out]
          refine ⟨p', ?_, (HI.out.2.2.2.trans (hk3.mono (fun _ _ h hb => h (Hbar.out _ hb)))).trans2 hZ (fun m hm h => by omega), ?_⟩
          · rw [← HI.out.1]; simp [pre]
          · have h9 := HW.out.k3 (HW.out.k1 hJ3 (hZ.mono (fun m _ h => by rcases h with rfl | rfl; exact HB8.out.1; exact HB8.out.2))) Hbar.out
            simpa [pre] using h9
        clear hk3 hJ3 HE HI HJ2 HFo c0 c1 c2 c3 g0 g1 g2 g3 HP
        obtain ⟨c0, c1, c2, c3, g0, g1, g2, g3⟩ := HP3.out
        obtain ⟨⟨v0, d0⟩, ⟨v1, d1⟩, ⟨v2, d2⟩, ⟨v3, d3⟩, e0', e1', e2', e3'⟩ := HR3.out
        have h8 : w.heap.size < w3.heap.size := cell_lt d0
        have h9 : w.heap.size + 1 < w3.heap.size := cell_lt c0
        go_wp2_with fail
        rw [Exit.noGoto_ret]
        refine bodyPost_ret (v := .agg #[.int .i64 (j : Int), .pointer (some ⟨p', 0, none⟩), .int .i64 (left : Int), .int .i64 0]) ?_ rfl (HZ.out _ (KC.alloc (KC.set (KC.set (KC.set (KC.set (KC.set (KC.set (KC.refl _ _) (.inl (.inr rfl)) _) (.inl (.inr rfl)) _) (.inl (.inl rfl)) _) (.inl (.inl rfl)) _) (.inl (.inl rfl)) _) (.inl (.inl rfl)) _) _))
        obtain ⟨q0, q1, q2, q3⟩ := rm4_alloc (V := (w3.setCell ⟨w.heap.size + 1, 2, none⟩ (.int .i64 (left : Int))).setCell ⟨w.heap.size + 1, 3, none⟩ (.int .i64 0)) (HR3.out.kc (B := fun m => m = w.heap.size + 1) (kc_two _ _ _ _ _ _) (by omega)) (.int .i64 (j : Int)) (.pointer (some ⟨p', 0, none⟩)) (.int .i64 (left : Int)) (.int .i64 0) (.cells #[.int .i64 0, .int .i64 0, .string ⟨#[]⟩, .slice a 0 c] 38)
        simp [results, Try.results24, go_sem, q0, q1, q2, q3]
      | item x left s2 =>
        rw [hr] at HFo HE
        go_wp2_with fail
        refine Calls.mono HFo.out ?_
        rintro e w3 ⟨hk3, p2, a, c, rfl, hle, hJ3⟩
        have HP3 : Hid (Pl w3 (w.heap.size + 1) j p' fl 0) := HP.out.1.kc hk3 (fun h => h HB8.out.2)
        have HR3 : Hid (Rm4 w3 w.heap.size) := HP.out.2.kc hk3 (fun h => h HB8.out.1)
        have hkV : KC (fun m => m = w.heap.size ∨ m = w.heap.size + 1) w3 (((w3.setCell ⟨w.heap.size + 1, 2, none⟩ (.int .i64 (left : Int))).setCell ⟨w.heap.size + 1, 3, none⟩ (.int .i64 0)).alloc (.cells #[.int .i64 x.kind, .int .i64 x.num, .string x.text, .slice a x.items.length c] 38)) := KC.alloc (KC.set (KC.set (KC.refl _ _) (.inl (.inr rfl)) _) (.inl (.inr rfl)) _) _
        have HJ4 : Hid (JJ bar2 s2 p2 l (some (x, .slice a x.items.length c)) (((w3.setCell ⟨w.heap.size + 1, 2, none⟩ (.int .i64 (left : Int))).setCell ⟨w.heap.size + 1, 3, none⟩ (.int .i64 0)).alloc (.cells #[.int .i64 x.kind, .int .i64 x.num, .string x.text, .slice a x.items.length c] 38))) := HW.out.k1 hJ3 (hkV.mono (fun m _ h => by rcases h with rfl | rfl; exact HB8.out.1; exact HB8.out.2))
        have HG4 : Hid (Calls Try.prog g (#[.agg #[.int .i64 x.kind, .int .i64 x.num, .string x.text, .slice a x.items.length c]] ++ cap) (((w3.setCell ⟨w.heap.size + 1, 2, none⟩ (.int .i64 (left : Int))).setCell ⟨w.heap.size + 1, 3, none⟩ (.int .i64 0)).alloc (.cells #[.int .i64 x.kind, .int .i64 x.num, .string x.text, .slice a x.items.length c] 38)) fun e w' => e = .returned (.tuple #[]) ∧ KC (fun n => ¬ bar2 n) (((w3.setCell ⟨w.heap.size + 1, 2, none⟩ (.int .i64 (left : Int))).setCell ⟨w.heap.size + 1, 3, none⟩ (.int .i64 0)).alloc (.cells #[.int .i64 x.kind, .int .i64 x.num, .string x.text, .slice a x.items.length c] 38)) w' ∧ JJ bar2 s2 p2 (l ++ [x]) none w') := HG.out bar2 s2 p2 l x _ _ (by have := HI.out.1; have := Hn.out; omega) HJ4.out
        have HR4 : Hid (Rm4 (((w3.setCell ⟨w.heap.size + 1, 2, none⟩ (.int .i64 (left : Int))).setCell ⟨w.heap.size + 1, 3, none⟩ (.int .i64 0)).alloc (.cells #[.int .i64 x.kind, .int .i64 x.num, .string x.text, .slice a x.items.length c] 38)) w.heap.size) := HR3.out.kc (B := fun m => m = w.heap.size + 1) ((kc_two _ _ _ _ _ _).alloc _) (by omega)
        have HP4 : Hid (Pl (((w3.setCell ⟨w.heap.size + 1, 2, none⟩ (.int .i64 (left : Int))).setCell ⟨w.heap.size + 1, 3, none⟩ (.int .i64 0)).alloc (.cells #[.int .i64 x.kind, .int .i64 x.num, .string x.text, .slice a x.items.length c] 38)) (w.heap.size + 1) j p' left 0) := (HP3.out.left2 left 0).kc (B := fun _ => False) (KC.of_below ((Grew.refl _).alloc _).below) (fun h => h)
        have HK4 : Hid (KC (fun m => ¬ bar m) w (((w3.setCell ⟨w.heap.size + 1, 2, none⟩ (.int .i64 (left : Int))).setCell ⟨w.heap.size + 1, 3, none⟩ (.int .i64 0)).alloc (.cells #[.int .i64 x.kind, .int .i64 x.num, .string x.text, .slice a x.items.length c] 38))) := (HI.out.2.2.2.trans (hk3.mono (fun _ _ h hb => h (Hbar.out _ hb)))).trans2 hkV (fun m hm h => by omega)
        clear hk3 hJ3 hkV HJ4 HFo c0 c1 c2 c3 g0 g1 g2 g3 HP HJ2
        obtain ⟨c0, c1, c2, c3, g0, g1, g2, g3⟩ := HP3.out
        have h9 : w.heap.size + 1 < w3.heap.size := cell_lt c0
        have e1 : IntKind.i64.wrap ((j : Int) + 1) = ((j + 1 : Nat) : Int) := by have := Hn.out; rw [IntKind.wrap_i64]; omega
        go_wp2_with fail
        refine Calls.mono HG4.out ?_
        rintro e w5 ⟨rfl, hk5, hJ5⟩
        have HP5 : Hid (Pl w5 (w.heap.size + 1) j p' left 0) := HP4.out.kc hk5 (fun h => h HB8.out.2)
        have HR5 : Hid (Rm4 w5 w.heap.size) := HR4.out.kc hk5 (fun h => h HB8.out.1)
        have HJ5 : Hid (JJ bar2 s2 p2 (l ++ [x]) none w5) := hJ5
        have HK5 : Hid (KC (fun m => ¬ bar m) w w5) := HK4.out.trans (hk5.mono (fun _ _ h hb => h (Hbar.out _ hb)))
        clear hk5 hJ5 HP4 HR4 HG4 HK4 c0 c1 c2 c3 g0 g1 g2 g3 h9
        obtain ⟨c0, c1, c2, c3, g0, g1, g2, g3⟩ := HP5.out
        have h9 : w.heap.size + 1 < w5.heap.size := cell_lt c0
        go_wp2_with fail
        go_roundg (n - (j + 1))
        case measure => have := Hg.out; omega
        case rel =>
          refine ⟨j + 1, p2, left, l ++ [x], s2, rfl, by omega, ⟨HP5.out.next (j + 1) p2, HR5.out.kc (kc_two _ _ _ _ _ _) (by omega)⟩, ⟨by have := HI.out.1; simp; omega, hle, ?_, HK5.out.trans2 (kc_two _ _ _ _ _ _) (fun m hm h => by omega)⟩, HW.out.k1 HJ5.out ((kc_two _ _ _ _ _ _).mono (fun m _ h => by rw [h]; exact HB8.out.2))⟩
          rw [HE.out, show n - (j + 1) = k by omega]
          exact pre_pre l x _
    · have hji : ¬ (j : Int) < (n : Int) := by omega
      have HZ : Hid (∀ Z, KC (fun m => m = w.heap.size ∨ m = w.heap.size + 1) wr Z → WkPost JJ bar (wlk frc n s f) w (.returned (.agg #[.int .i64 (j : Int), .pointer (some ⟨p', 0, none⟩), .int .i64 (fl : Int), .int .i64 0])) Z) := fun Z hZ => by
        have hE := HI.out.2.2.1
        rw [show n - j = 0 by omega] at hE
        rw [hE]
        refine ⟨p', ?_, HI.out.2.2.2.trans2 hZ (fun m hm h => by omega), ?_⟩
        · rw [← HI.out.1]; simp [pre, wlk]
        · have h9 := HW.out.k3 (HW.out.k1 HJ2.out (hZ.mono (fun m _ h => by rcases h with rfl | rfl; exact HB8.out.1; exact HB8.out.2))) Hbar.out
          simpa [pre, wlk] using h9
      have HR3 : Hid (Rm4 wr w.heap.size) := HP.out.2
      clear HI HJ2 HP
      obtain ⟨⟨v0, d0⟩, ⟨v1, d1⟩, ⟨v2, d2⟩, ⟨v3, d3⟩, e0', e1', e2', e3'⟩ := HR3.out
      go_wp2_with fail
      refine bodyPost_ret (v := .agg #[.int .i64 (j : Int), .pointer (some ⟨p', 0, none⟩), .int .i64 (fl : Int), .int .i64 0]) ?_ rfl (HZ.out _ (KC.set (KC.set (KC.set (KC.set (KC.refl _ _) (.inl (.inl rfl)) _) (.inl (.inl rfl)) _) (.inl (.inl rfl)) _) (.inl (.inl rfl)) _))
      obtain ⟨q0, q1, q2, q3⟩ := rm4_put (V := wr) HR3.out (.int .i64 (j : Int)) (.pointer (some ⟨p', 0, none⟩)) (.int .i64 (fl : Int)) (.int .i64 0)
      simp [results, Try.results24, go_sem, q0, q1, q2, q3]

end Go.Proofs.Ytbhfbjbigafnpaa

namespace Go.Proofs.Ytbhfbjbigafnpaa
open Go.RowKit Go.Shelf

/-- The walk of Drop and Count. -/
def JD (Y : Nat → Prop) (w0 : World) (P0 : Nat → Nat) (k0 : Nat) (bar : Nat → Prop) (s : SS) (p : Nat) (_l : List VT) (_o : Option (VT × Value)) (w : World) : Prop := ∃ ps, Tk pCK True Y bar w0 P0 k0 s p w ps

/-- The walk of Take: the list lies in a row of its own, in the box b0. -/
def JT (b0 : Nat) (Y : Nat → Prop) (w0 : World) (P0 : Nat → Nat) (k0 : Nat) (bar : Nat → Prop) (s : SS) (p : Nat) (l : List VT) (o : Option (VT × Value)) (w : World) : Prop :=
  ∃ a c ps, ps.map (·.1) = l ∧ w.ownsRow w0.heap.size 38 4 (.slice a l.length c) l.length (ps.flatMap encP) ∧ w.cell? ⟨b0, 0, none⟩ = some (.slice a l.length c) ∧ w.frozen? ⟨b0, 0, none⟩ = false ∧ ¬ bar b0 ∧ (∀ g, (Value.slice a l.length c).ownBlock = some g → ¬ bar g ∧ g ≠ b0) ∧ Tk pCK True Y (fun n => bar n ∨ n = b0 ∨ (Value.slice a l.length c).ownBlock = some n) w0 P0 k0 s p w (ps ++ o.toList)

theorem jd_wkr (Y : Nat → Prop) (w0 : World) (P0 : Nat → Nat) (k0 : Nat) : Wkr frcC (JD Y w0 P0 k0) where
  k1 := fun ⟨ps, h⟩ k => ⟨ps, h.k1 k⟩
  k2 := fun ⟨ps, h⟩ k => ⟨ps, h.k2 k⟩
  k3 := fun ⟨ps, h⟩ k => ⟨ps, h.k3 k⟩

theorem jt_wkr (b0 : Nat) (Y : Nat → Prop) (w0 : World) (P0 : Nat → Nat) (k0 : Nat) : Wkr frcC (JT b0 Y w0 P0 k0) where
  k1 := by
    rintro bar s p l o w w' ⟨a, c, ps, h1, h2, h3, h4, h5, h6, h7⟩ k
    exact ⟨a, c, ps, h1, own_kc h2 k (fun g hg => (h6 g hg).1), k.cell h5 h3, k.frozen h5 h3 h4, h5, h6, h7.k1 (k.mono (fun _ _ h => .inl h))⟩
  k2 := by
    rintro bar s p l o w w' ⟨a, c, ps, h1, h2, h3, h4, h5, h6, h7⟩ hb
    have hbl : b0 < w.heap.size := cell_lt h3
    refine ⟨a, c, ps, h1, own_kc h2 (KC.of_below (B := fun _ => False) hb) (fun _ _ h => h), cell_keeps hb h3, (hb.frozen (p := ⟨b0, 0, none⟩) hbl).trans h4, ?_, fun g hg => ⟨?_, (h6 g hg).2⟩, (h7.k2 hb).k3 (fun n hn => ?_)⟩
    · rintro (h | h)
      · exact h5 h
      · omega
    · rintro (h | h)
      · exact (h6 g hg).1 h
      · have := (h2.lt g hg).2; omega
    · rcases hn with (h | h) | h
      · exact .inl (.inl h)
      · exact .inr h
      · exact .inl (.inr h)
  k3 := by
    rintro bar bar' s p l o w ⟨a, c, ps, h1, h2, h3, h4, h5, h6, h7⟩ hb
    exact ⟨a, c, ps, h1, h2, h3, h4, fun h => h5 (hb _ h), fun g hg => ⟨fun h => (h6 g hg).1 (hb _ h), (h6 g hg).2⟩, h7.k3 (fun n hn => hn.imp (hb n) id)⟩

theorem jd_force (Y : Nat → Prop) (w0 : World) (P0 : Nat → Nat) (k0 : Nat) (bar : Nat → Prop) (s : SS) (p : Nat) (l : List VT) (f : Nat) (w : World) (hf : f ≤ 1073741824) (h : JD Y w0 P0 k0 bar s p l none w) :
    Calls Try.prog 39 #[.pointer (some ⟨p, 0, none⟩), .int .i64 (f : Int)] w (FJ (JD Y w0 P0 k0) bar p l (frcC s f) w) := by
  obtain ⟨ps, h⟩ := h
  refine Calls.mono (h.force 39 pForce f hf) ?_
  rintro e w' ⟨hk, hp⟩
  refine ⟨hk, ?_⟩
  cases hr : frcC s f with
  | err e0 s' => rw [hr] at hp; exact ⟨hp.1, ps, hp.2⟩
  | emp left s' => rw [hr] at hp; exact ⟨hp.1, hp.2.1, ps, hp.2.2⟩
  | item x left s' => rw [hr] at hp; obtain ⟨p', a, c, h1, h2, h3⟩ := hp; exact ⟨p', a, c, h1, h2, _, h3⟩

theorem jt_force (b0 : Nat) (Y : Nat → Prop) (w0 : World) (P0 : Nat → Nat) (k0 : Nat) (bar : Nat → Prop) (s : SS) (p : Nat) (l : List VT) (f : Nat) (w : World) (hf : f ≤ 1073741824) (h : JT b0 Y w0 P0 k0 bar s p l none w) :
    Calls Try.prog 39 #[.pointer (some ⟨p, 0, none⟩), .int .i64 (f : Int)] w (FJ (JT b0 Y w0 P0 k0) bar p l (frcC s f) w) := by
  obtain ⟨a, c, ps, h1, h2, h3, h4, h5, h6, h7⟩ := h
  refine Calls.mono (h7.force 39 pForce f hf) ?_
  rintro e w' ⟨hk, hp⟩
  have g2 := own_kc h2 hk (fun g hg h => h (.inr (.inr hg)))
  have g3 := hk.cell (a := ⟨b0, 0, none⟩) (fun h => h (.inr (.inl rfl))) h3
  have g4 := hk.frozen (a := ⟨b0, 0, none⟩) (fun h => h (.inr (.inl rfl))) h3 h4
  refine ⟨hk.mono (fun _ _ h hb => h (.inl hb)), ?_⟩
  cases hr : frcC s f with
  | err e0 s' => rw [hr] at hp; exact ⟨hp.1, a, c, ps, h1, g2, g3, g4, h5, h6, by simpa using hp.2⟩
  | emp left s' => rw [hr] at hp; exact ⟨hp.1, hp.2.1, a, c, ps, h1, g2, g3, g4, h5, h6, by simpa using hp.2.2⟩
  | item x left s' => rw [hr] at hp; obtain ⟨p', a', c', k1, k2, k3⟩ := hp; exact ⟨p', a', c', k1, k2, a, c, ps, h1, g2, g3, g4, h5, h6, by simpa using k3⟩

theorem jd_found {g : Nat} (hg : ∀ (x : VT) (u : Value) (w : World), Calls Try.prog g #[.agg #[.int .i64 x.kind, .int .i64 x.num, .string x.text, u]] w fun e w' => e = .returned (.tuple #[]) ∧ Below w.heap.size w w') (Y : Nat → Prop) (w0 : World) (P0 : Nat → Nat) (k0 : Nat) (bar : Nat → Prop) (s : SS) (p : Nat) (l : List VT) (x : VT) (u : Value) (w : World) (h : JD Y w0 P0 k0 bar s p l (some (x, u)) w) :
    Calls Try.prog g (#[.agg #[.int .i64 x.kind, .int .i64 x.num, .string x.text, u]] ++ #[]) w fun e w' => e = .returned (.tuple #[]) ∧ KC (fun n => ¬ bar n) w w' ∧ JD Y w0 P0 k0 bar s p (l ++ [x]) none w' := by
  obtain ⟨ps, h⟩ := h
  refine Calls.mono (hg x u w) ?_
  rintro e w' ⟨rfl, hb⟩
  exact ⟨rfl, KC.of_below hb, ps, h.below hb⟩

theorem jt_found (b0 : Nat) (Y : Nat → Prop) (w0 : World) (P0 : Nat → Nat) (k0 : Nat) (bar : Nat → Prop) (s : SS) (p : Nat) (l : List VT) (x : VT) (u : Value) (w : World) (hl : l.length ≤ 65536) (h : JT b0 Y w0 P0 k0 bar s p l (some (x, u)) w) :
    Calls Try.prog 25 (#[.agg #[.int .i64 x.kind, .int .i64 x.num, .string x.text, u]] ++ #[.pointer (some ⟨b0, 0, none⟩)]) w fun e w' => e = .returned (.tuple #[]) ∧ KC (fun n => ¬ bar n) w w' ∧ JT b0 Y w0 P0 k0 bar s p (l ++ [x]) none w' := by
  obtain ⟨a, c, ps, h1, h2, h3, h4, h5, h6, h7⟩ := h
  obtain ⟨P, Yc, _, _, _, _, _, _, _, h8⟩ := h7.ex
  obtain ⟨_, au, cu, hu, _⟩ := h8 (x, u) (by simp)
  simp only at hu
  subst hu
  refine Calls.mono (take1_any w0.heap.size b0 l.length x au x.items.length cu a c (ps.flatMap encP) w hl h3 h4 h2 h7.kc.size (fun e => (h6 b0 e).2 rfl)) ?_
  rintro e w' ⟨rfl, g, cap, k1, k2, k3, k4, k5, k6⟩
  have hlen : (l ++ [x]).length = l.length + 1 := by simp
  have hgb : ¬ bar g := by
    rcases k5 with h | h
    · exact (h6 g h).1
    · exact fun hb => by have := (h7.barw g (.inl hb)).2; omega
  have hglt : g < w'.heap.size := (k3.lt g rfl).2
  refine ⟨rfl, k4.mono (fun j _ hj hb => ?_), some ⟨g, 0, none⟩, cap, ps ++ [(x, .slice au x.items.length cu)], by simp [h1], ?_, ?_, k2, h5, fun g' hg' => ?_, ?_⟩
  · rcases hj with rfl | hj
    · exact h5 hb
    · exact (h6 j hj).1 hb
  · rw [hlen, List.flatMap_append]; simpa using k3
  · rw [hlen]; exact k1
  · have : g = g' := by simpa [Value.ownBlock] using hg'
    subst this
    exact ⟨hgb, k6⟩
  · have h9 := h7.k1 (k4.mono (fun j _ hj => by rcases hj with h | h; exact .inr (.inl h); exact .inr (.inr h)))
    rcases k5 with hh | hh
    · refine (h9.k3 (fun n hn => ?_)).part (fun y hy => by simpa using hy)
      rcases hn with h | h | h
      · exact .inl h
      · exact .inr (.inl h)
      · have : g = n := by simpa [Value.ownBlock] using h
        subst this
        exact .inr (.inr hh)
    · refine ((h7.k4 (k4.mono (fun j _ hj => by rcases hj with h | h; exact .inr (.inl h); exact .inr (.inr h)))).k3 (fun n hn => ?_)).part (fun y hy => by simpa using hy)
      rcases hn with h | h | h
      · exact .inl (.inl h)
      · exact .inl (.inr (.inl h))
      · have : g = n := by simpa [Value.ownBlock] using h
        subst this
        exact .inr ⟨hh, hglt⟩

end Go.Proofs.Ytbhfbjbigafnpaa

