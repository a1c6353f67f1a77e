/-
  Numbers and fuel out of their bounds.
-/
import Derived.Test.YtnjgolibmllhnaaGreatTakeJ
import Derived.Test.YtnjgolibmllhnaaGreatWalkM
import Derived.BigQuiet
namespace Go.Proofs.YtnjgolibmllhnaaGreat
open Go.RowKit Go.Shelf

set_option maxRecDepth 100000 in
theorem scheck_ok (n f : Nat) (hn : n ≤ 65536) (hf : f ≤ 1073741824) (w : World) : Calls Tryz.prog 41 #[.int .i64 (n : Int), .int .i64 (f : Int)] w fun e w' => e = .returned (.int .i64 0) ∧ w' = w := by
  have h1 : ¬ (n : Int) < 0 := by omega
  have h2 : ¬ (65536 : Int) < (n : Int) := by omega
  have h3 : ¬ (f : Int) < 0 := by omega
  have h4 : ¬ (1073741824 : Int) < (f : Int) := by omega
  go_enter Tryz.func41, Tryz.ntmps41
  go_wp2_with fail
  go_ret
  exact ⟨rfl, rfl⟩

set_option maxRecDepth 100000 in
theorem scheck_bad (n f : Int) (h : (n < 0 ∨ 65536 < n) ∨ (f < 0 ∨ 1073741824 < f)) (w : World) : Calls Tryz.prog 41 #[.int .i64 n, .int .i64 f] w fun e w' => e = .returned (.int .i64 1) ∧ w' = w := by
  by_cases h1 : n < 0
  · go_enter Tryz.func41, Tryz.ntmps41
    go_wp2_with fail
    go_ret
    exact ⟨rfl, rfl⟩
  · by_cases h2 : 65536 < n
    · go_enter Tryz.func41, Tryz.ntmps41
      go_wp2_with fail
      go_ret
      exact ⟨rfl, rfl⟩
    · by_cases h3 : f < 0
      · clear h
        go_enter Tryz.func41, Tryz.ntmps41
        go_wp2_with fail
        go_ret
        exact ⟨rfl, rfl⟩
      · have h4 : 1073741824 < f := by omega
        clear h
        go_enter Tryz.func41, Tryz.ntmps41
        go_wp2_with fail
        go_ret
        exact ⟨rfl, rfl⟩

set_option maxRecDepth 100000 in
set_option maxHeartbeats 8000000 in
theorem take_any (Y : Nat → Prop) (vs : List VT) (T : Tl) (P : Nat → Nat) (n f : Nat) (hn : n ≤ 65536) (hf : f ≤ 1073741824) (w : World) (h : Chn pCK Y w vs T P) (hY : ∀ n, w.heap.size ≤ n → Y n) :
    Calls Tryz.prog 33 #[.pointer (some ⟨P 0, 0, none⟩), .int .i64 (n : Int), .int .i64 (f : Int)] w (TakePost pCK True Y w P vs.length (wlk frcC n ⟨vs, T, 0⟩ f)) := by
  have HC : Hid (∀ V, Calls Tryz.prog 41 #[.int .i64 (n : Int), .int .i64 (f : Int)] V fun e w' => e = .returned (.int .i64 0) ∧ w' = V) := fun V => scheck_ok n f hn hf V
  have eg : ∀ args w, (callFunc 71 args).run Tryz.prog w = .ok (.enter 71 args) w := enters_of Tryz.func71 (by kernel_rfl) rfl
  have hb0 : Below w.heap.size w (w.alloc (.cells #[.slice none 0 0] 22)) := ((Grew.refl w).alloc _).below
  have hT0 : Tk pCK True Y (fun n => False ∨ (w.heap.size ≤ n ∧ n < (w.alloc (.cells #[.slice none 0 0] 22)).heap.size)) w P vs.length ⟨vs, T, 0⟩ (P 0) (w.alloc (.cells #[.slice none 0 0] 22)) [] := (Tk.start h 0 (by omega)).k2 hb0
  have hJ : JT w.heap.size Y w P vs.length (fun _ => False) ⟨vs, T, 0⟩ (P 0) [] none (w.alloc (.cells #[.slice none 0 0] 22)) := by
    refine ⟨none, 0, [], rfl, World.ownsRow_nil _ _ _ _, by simp, by simp, fun h => h, fun g hg => by simp [Value.ownBlock] at hg, hT0.k3 (fun m hm => ?_)⟩
    rcases hm with h | h | h
    · exact h.elim
    · exact .inr ⟨by omega, by rw [World.size_alloc]; omega⟩
    · simp [Value.ownBlock] at h
  have HWk : Hid (Calls Tryz.prog 42 #[.pointer (some ⟨P 0, 0, none⟩), .int .i64 (n : Int), .int .i64 (f : Int), .func (.func 71) #[] #[.pointer (some ⟨w.heap.size, 0, none⟩)]] (w.alloc (.cells #[.slice none 0 0] 22)) (WkPost (JT w.heap.size Y w P vs.length) (fun _ => False) (wlk frcC n ⟨vs, T, 0⟩ f) (w.alloc (.cells #[.slice none 0 0] 22)))) :=
    walk_any frcC _ (jt_wkr w.heap.size Y w P vs.length) 71 _ eg (jt_force w.heap.size Y w P vs.length) (jt_found w.heap.size Y w P vs.length) _ _ _ n f (by omega) hf _ hJ
  have HY : Hid (∀ n, w.heap.size ≤ n → Y n) := hY
  have Hr : Hid ((wlk frcC n ⟨vs, T, 0⟩ f).items.length ≤ 65536) := Nat.le_trans (wlk_le n _ f).1 hn
  generalize wlk frcC n ⟨vs, T, 0⟩ f = r at *
  clear hJ hT0 hb0 eg h hn hf hY
  go_enter Tryz.func33, Tryz.ntmps33
  go_wp2_with fail
  refine Calls.mono (HC.out _) ?_
  rintro e w9 ⟨rfl, hw9⟩
  obtain rfl : w = w9 := hw9.symm
  clear hw9 HC
  go_wp2_with fail
  refine Calls.mono HWk.out ?_
  rintro e w2 ⟨p', rfl, hk, a, c, ps, h1, h2, h3, h4, h5, h6, h7⟩
  clear HWk
  cases Nat.eq_zero_or_pos r.err with
  | inl hE =>
    have HZ : Hid (∀ Z, Below w2.heap.size w2 Z → TakePost pCK True Y w P vs.length r (.returned (.tuple #[.slice a r.items.length c, .int .i64 (r.left : Int), .int .i64 0])) Z) := fun Z hZ => by
      obtain ⟨P', hA, _, hb, hi⟩ := h7.aft HY.out
      have hlen : r.items.length = ps.length := by rw [← h1, List.length_map]
      have hl := own_liesX (d := 16) h2 hlen (fun g hg => hb g (.inr (.inr hg))) (fun q hq => by
        obtain ⟨g1, a1, c1, g2, g3⟩ := hi q (by simpa using hq)
        exact ⟨g3, Nat.le_trans (right_size g1) (by omega)⟩) (by have := Hr.out; omega)
      rw [h1] at hl
      refine ⟨P', hA.below hZ, .inr ⟨hE, a, c, rfl, hl.keeps hZ, fun x hx => ?_⟩⟩
      rw [← h1] at hx
      obtain ⟨q, hq, rfl⟩ := List.mem_map.1 hx
      exact (hi q (by simpa using hq)).1
    have h3a : ∀ A, (w2.alloc A).cell? ⟨w.heap.size, 0, none⟩ = some (.slice a r.items.length c) := fun A => cell_keeps ((Grew.refl w2).alloc A).below h3
    rw [hE]
    clear hk h1 h2 h4 h5 h6 h7
    go_wp2_with fail
    go_region
    all_goals go_wp2_with fail
    all_goals refine bodyPost_ret (v := .tuple #[.slice a r.items.length c, .int .i64 (r.left : Int), .int .i64 0]) ?_ rfl (HZ.out _ (by first | exact ((Grew.refl _).alloc _).below | exact ((Grew.refl _).alloc _).drew.below))
    all_goals simp [results, Tryz.results33, go_sem]
  | inr hE =>
    have HZ : Hid (∀ Z, Below w2.heap.size w2 Z → TakePost pCK True Y w P vs.length r (.returned (.tuple #[.slice none 0 0, .int .i64 0, .int .i64 (r.err : Int)])) Z) := fun Z hZ => by
      obtain ⟨P', hA, _⟩ := h7.aft HY.out
      exact ⟨P', hA.below hZ, .inl ⟨by omega, rfl⟩⟩
    have hE2 : ¬ (r.err : Int) = 0 := by omega
    clear hE hk h1 h2 h4 h5 h6 h7
    go_wp2_with fail
    go_region
    all_goals go_wp2_with fail
    all_goals refine bodyPost_ret (v := .tuple #[.slice none 0 0, .int .i64 0, .int .i64 (r.err : Int)]) ?_ rfl (HZ.out _ (by first | exact ((Grew.refl _).alloc _).below | exact ((Grew.refl _).alloc _).drew.below))
    all_goals simp [results, Tryz.results33, go_sem]

set_option maxRecDepth 100000 in
set_option maxHeartbeats 8000000 in
theorem count_any (Y : Nat → Prop) (vs : List VT) (T : Tl) (P : Nat → Nat) (n f : Nat) (hn : n ≤ 65536) (hf : f ≤ 1073741824) (w : World) (h : Chn pCK Y w vs T P) (hY : ∀ n, w.heap.size ≤ n → Y n) :
    Calls Tryz.prog 39 #[.pointer (some ⟨P 0, 0, none⟩), .int .i64 (n : Int), .int .i64 (f : Int)] w (CountPost pCK Y w P vs.length (wlk frcC n ⟨vs, T, 0⟩ f)) := by
  have HC : Hid (∀ V, Calls Tryz.prog 41 #[.int .i64 (n : Int), .int .i64 (f : Int)] V fun e w' => e = .returned (.int .i64 0) ∧ w' = V) := fun V => scheck_ok n f hn hf V
  have eg : ∀ args w, (callFunc 73 args).run Tryz.prog w = .ok (.enter 73 args) w := enters_of Tryz.func73 (by kernel_rfl) rfl
  have hJ : JD Y w P vs.length (fun _ => False) ⟨vs, T, 0⟩ (P 0) [] none w := ⟨[], Tk.start h 0 (by omega)⟩
  have HWk : Hid (Calls Tryz.prog 42 #[.pointer (some ⟨P 0, 0, none⟩), .int .i64 (n : Int), .int .i64 (f : Int), .func (.func 73) #[] #[]] w (WkPost (JD Y w P vs.length) (fun _ => False) (wlk frcC n ⟨vs, T, 0⟩ f) w)) :=
    walk_any frcC _ (jd_wkr Y w P vs.length) 73 #[] eg (jd_force Y w P vs.length) (fun bar s p l x u w _ h => jd_found count1_any Y _ P vs.length bar s p l x u w h) _ _ _ n f (by omega) hf _ hJ
  have HY : Hid (∀ n, w.heap.size ≤ n → Y n) := hY
  generalize wlk frcC n ⟨vs, T, 0⟩ f = r at *
  clear hJ eg h hn hf hY
  go_enter Tryz.func39, Tryz.ntmps39
  go_wp2_with fail
  refine Calls.mono (HC.out _) ?_
  rintro e w9 ⟨rfl, hw9⟩
  obtain rfl : w = w9 := hw9.symm
  clear hw9 HC
  go_wp2_with fail
  refine Calls.mono HWk.out ?_
  rintro e w2 ⟨p', rfl, hk, ps, h7⟩
  clear HWk
  cases Nat.eq_zero_or_pos r.err with
  | inl hE =>
    have HZ : Hid (∀ Z, Below w2.heap.size w2 Z → CountPost pCK Y w P vs.length r (.returned (.tuple #[.int .i64 (r.items.length : Int), .int .i64 (r.left : Int), .int .i64 0])) Z) := fun Z hZ => by
      obtain ⟨P', hA, _⟩ := h7.aft HY.out
      exact ⟨P', hA.below hZ, .inr ⟨hE, rfl⟩⟩
    rw [hE]
    clear hk h7
    go_wp2_with fail
    go_region
    all_goals go_wp2_with fail
    all_goals refine bodyPost_ret (v := .tuple #[.int .i64 (r.items.length : Int), .int .i64 (r.left : Int), .int .i64 0]) ?_ rfl (HZ.out _ (by first | exact ((Grew.refl _).alloc _).below | exact ((Grew.refl _).alloc _).drew.below))
    all_goals simp [results, Tryz.results39, go_sem]
  | inr hE =>
    have HZ : Hid (∀ Z, Below w2.heap.size w2 Z → CountPost pCK Y w P vs.length r (.returned (.tuple #[.int .i64 0, .int .i64 0, .int .i64 (r.err : Int)])) Z) := fun Z hZ => by
      obtain ⟨P', hA, _⟩ := h7.aft HY.out
      exact ⟨P', hA.below hZ, .inl ⟨by omega, rfl⟩⟩
    have hE2 : ¬ (r.err : Int) = 0 := by omega
    clear hE hk h7
    go_wp2_with fail
    go_region
    all_goals go_wp2_with fail
    all_goals refine bodyPost_ret (v := .tuple #[.int .i64 0, .int .i64 0, .int .i64 (r.err : Int)]) ?_ rfl (HZ.out _ (by first | exact ((Grew.refl _).alloc _).below | exact ((Grew.refl _).alloc _).drew.below))
    all_goals simp [results, Tryz.results39, go_sem]

set_option maxRecDepth 100000 in
set_option maxHeartbeats 8000000 in
theorem drop_any (Y : Nat → Prop) (vs : List VT) (T : Tl) (P : Nat → Nat) (n f : Nat) (hn : n ≤ 65536) (hf : f ≤ 1073741824) (w : World) (h : Chn pCK Y w vs T P) (hY : ∀ n, w.heap.size ≤ n → Y n) :
    Calls Tryz.prog 11 #[.pointer (some ⟨P 0, 0, none⟩), .int .i64 (n : Int), .int .i64 (f : Int)] w (DropPost pCK Y w P vs.length (wlk frcC n ⟨vs, T, 0⟩ f)) := by
  have HC : Hid (∀ V, Calls Tryz.prog 41 #[.int .i64 (n : Int), .int .i64 (f : Int)] V fun e w' => e = .returned (.int .i64 0) ∧ w' = V) := fun V => scheck_ok n f hn hf V
  have eg : ∀ args w, (callFunc 43 args).run Tryz.prog w = .ok (.enter 43 args) w := enters_of Tryz.func43 (by kernel_rfl) rfl
  have hJ : JD Y w P vs.length (fun _ => False) ⟨vs, T, 0⟩ (P 0) [] none w := ⟨[], Tk.start h 0 (by omega)⟩
  have HWk : Hid (Calls Tryz.prog 42 #[.pointer (some ⟨P 0, 0, none⟩), .int .i64 (n : Int), .int .i64 (f : Int), .func (.func 43) #[] #[]] w (WkPost (JD Y w P vs.length) (fun _ => False) (wlk frcC n ⟨vs, T, 0⟩ f) w)) :=
    walk_any frcC _ (jd_wkr Y w P vs.length) 43 #[] eg (jd_force Y w P vs.length) (fun bar s p l x u w _ h => jd_found drop1_any Y _ P vs.length bar s p l x u w h) _ _ _ n f (by omega) hf _ hJ
  have HY : Hid (∀ n, w.heap.size ≤ n → Y n) := hY
  generalize wlk frcC n ⟨vs, T, 0⟩ f = r at *
  clear hJ eg h hn hf hY
  go_enter Tryz.func11, Tryz.ntmps11
  go_wp2_with fail
  refine Calls.mono (HC.out _) ?_
  rintro e w9 ⟨rfl, hw9⟩
  obtain rfl : w = w9 := hw9.symm
  clear hw9 HC
  go_wp2_with fail
  refine Calls.mono HWk.out ?_
  rintro e w2 ⟨p', rfl, hk, ps, h7⟩
  clear HWk
  cases Nat.eq_zero_or_pos r.err with
  | inl hE =>
    have HZ : Hid (∀ Z, Below w2.heap.size w2 Z → DropPost pCK Y w P vs.length r (.returned (.tuple #[.pointer (some ⟨p', 0, none⟩), .int .i64 (r.left : Int), .int .i64 0])) Z) := fun Z hZ => by
      obtain ⟨P', hA, hp, _⟩ := h7.aft HY.out
      have hA2 := hA.below hZ
      refine ⟨P', hA2, .inr ⟨hE, fun i => P' (r.s.i + i), by rw [hp]; rfl, hA2.chn.drop r.s.i hA.at_, .inl rfl, fun j hj => .inl ⟨r.s.i + j, ?_, rfl⟩⟩⟩
      have := hA.at_
      rw [List.length_drop] at hj
      omega
    rw [hE]
    clear hk h7
    go_wp2_with fail
    go_region
    all_goals go_wp2_with fail
    all_goals refine bodyPost_ret (v := .tuple #[.pointer (some ⟨p', 0, none⟩), .int .i64 (r.left : Int), .int .i64 0]) ?_ rfl (HZ.out _ (by first | exact ((Grew.refl _).alloc _).below | exact ((Grew.refl _).alloc _).drew.below))
    all_goals simp [results, Tryz.results11, go_sem]
  | inr hE =>
    have HZ : Hid (∀ Z, Below w2.heap.size w2 Z → DropPost pCK Y w P vs.length r (.returned (.tuple #[.pointer none, .int .i64 0, .int .i64 (r.err : Int)])) Z) := fun Z hZ => by
      obtain ⟨P', hA, _⟩ := h7.aft HY.out
      exact ⟨P', hA.below hZ, .inl ⟨by omega, rfl⟩⟩
    have hE2 : ¬ (r.err : Int) = 0 := by omega
    clear hE hk h7
    go_wp2_with fail
    go_region
    all_goals go_wp2_with fail
    all_goals refine bodyPost_ret (v := .tuple #[.pointer none, .int .i64 0, .int .i64 (r.err : Int)]) ?_ rfl (HZ.out _ (by first | exact ((Grew.refl _).alloc _).below | exact ((Grew.refl _).alloc _).drew.below))
    all_goals simp [results, Tryz.results11, go_sem]

end Go.Proofs.YtnjgolibmllhnaaGreat

namespace Go.Proofs.YtnjgolibmllhnaaGreat
open Go.RowKit Go.Shelf

theorem nth_kc (w : World) (b : Nat) (x : VT) (u : Value) (o : Obj) : KC (fun m => m = b) w ((((((w.setCell ⟨b, 0, none⟩ (.int .i64 x.kind)).setCell ⟨b, 1, none⟩ (.int .i64 x.num)).setCell ⟨b, 2, none⟩ (.string x.text)).setCell ⟨b, 3, none⟩ u).alloc o).drew) :=
  ((KC.put4 (B := fun m => m = b) (o := 0) (KC.refl _ w) (.inl rfl) x u).alloc o).drew

set_option maxRecDepth 100000 in
set_option maxHeartbeats 8000000 in
theorem nth_any (Y : Nat → Prop) (vs : List VT) (T : Tl) (P : Nat → Nat) (n f : Nat) (hn : n ≤ 65536) (hf : f ≤ 1073741824) (w : World) (h : Chn pCK Y w vs T P) (hY : ∀ n, w.heap.size ≤ n → Y n) :
    Calls Tryz.prog 36 #[.pointer (some ⟨P 0, 0, none⟩), .int .i64 (n : Int), .int .i64 (f : Int)] w (NthPost pCK True Y w P vs.length n (wlk frcC (n + 1) ⟨vs, T, 0⟩ f)) := by
  have HC : Hid (∀ V, Calls Tryz.prog 41 #[.int .i64 (n : Int), .int .i64 (f : Int)] V fun e w' => e = .returned (.int .i64 0) ∧ w' = V) := fun V => scheck_ok n f hn hf V
  have eg : ∀ args w, (callFunc 72 args).run Tryz.prog w = .ok (.enter 72 args) w := enters_of Tryz.func72 (by kernel_rfl) rfl
  obtain ⟨W, hW⟩ : ∃ W, W = zbox (zbox w) := ⟨_, rfl⟩
  have HW : Hid (W = (w.alloc (.cells #[.int .i64 0, .int .i64 0, .string ⟨#[]⟩, .slice none 0 0] 24)).alloc (.cells #[.int .i64 0, .int .i64 0, .string ⟨#[]⟩, .slice none 0 0] 24)) := hW
  have hb0 : Below w.heap.size w W := by rw [hW]; exact (zbox_below w).trans ((zbox_below (zbox w)).mono (by rw [zbox_size]; omega))
  have hws : W.heap.size = w.heap.size + 2 := by rw [hW, zbox_size, zbox_size]
  have HX6 : Hid (Bx W w.heap.size zeroT (.slice none 0 0)) := by rw [hW]; exact (zbox_bx w).keeps (zbox_below (zbox w))
  have hX1 : Bx W (w.heap.size + 1) zeroT (.slice none 0 0) := by rw [hW]; have h9 := zbox_bx (zbox w); rw [zbox_size] at h9; exact h9
  have hT0 := (Tk.start (Fr := True) h 0 (by omega)).k2 hb0
  have hJ : JN (w.heap.size + 1) Y w P vs.length (fun m => m = w.heap.size) ⟨vs, T, 0⟩ (P 0) [] none W :=
    ⟨zeroT, _, [], hX1, .inl rfl, by omega, hT0.k3 (fun m hm => .inr (by omega))⟩
  have HWk : Hid (Calls Tryz.prog 42 #[.pointer (some ⟨P 0, 0, none⟩), .int .i64 ((n + 1 : Nat) : Int), .int .i64 (f : Int), .func (.func 72) #[] #[.pointer (some ⟨w.heap.size + 1, 0, none⟩)]] W (WkPost (JN (w.heap.size + 1) Y w P vs.length) (fun m => m = w.heap.size) (wlk frcC (n + 1) ⟨vs, T, 0⟩ f) W)) :=
    walk_any frcC _ (jn_wkr (w.heap.size + 1) Y w P vs.length) 72 _ eg (jn_force (w.heap.size + 1) Y w P vs.length) (fun bar s p l x u w' _ h => jn_found (w.heap.size + 1) Y w P vs.length bar s p l x u w' h) _ _ _ (n + 1) f (by omega) hf _ hJ
  have HY : Hid (∀ n, w.heap.size ≤ n → Y n) := hY
  have Hr : Hid (n + 1 ≤ (wlk frcC (n + 1) ⟨vs, T, 0⟩ f).items.length → (wlk frcC (n + 1) ⟨vs, T, 0⟩ f).err = 0) := wlk_full (n + 1) _ f
  have e1 : IntKind.i64.wrap ((n : Int) + 1) = ((n + 1 : Nat) : Int) := by rw [IntKind.wrap_i64]; omega
  generalize wlk frcC (n + 1) ⟨vs, T, 0⟩ f = r at *
  clear hJ hT0 hb0 eg h hn hf hY hX1 hW
  go_enter Tryz.func36, Tryz.ntmps36
  go_wp2_with fail
  refine Calls.mono (HC.out _) ?_
  rintro e w9 ⟨rfl, hw9⟩
  subst hw9
  clear HC
  go_upto_region 5 with fail
  rw [← HW.out]
  clear HW
  go_wp2_with fail
  refine Calls.mono HWk.out ?_
  rintro e w2 ⟨p', rfl, hk, x, u, ps, h1, h2, h5, h7⟩
  clear HWk
  have hX2 : Bx w2 w.heap.size zeroT (.slice none 0 0) := hk.bx (fun h => h rfl) HX6.out
  have hlt6 : w.heap.size < w2.heap.size := cell_lt hX2.c0
  have hlt7 : w.heap.size + 1 < w2.heap.size := cell_lt h1.c0
  have HX2 : Hid (Bx w2 w.heap.size zeroT (.slice none 0 0)) := hX2
  have z0 : ∀ A, (w2.alloc A).cell? ⟨w.heap.size, 0, none⟩ = some _ := fun A => cell_keeps ((Grew.refl w2).alloc A).below hX2.c0
  have z1 : ∀ A, (w2.alloc A).cell? ⟨w.heap.size, 1, none⟩ = some _ := fun A => cell_keeps ((Grew.refl w2).alloc A).below hX2.c1
  have z2 : ∀ A, (w2.alloc A).cell? ⟨w.heap.size, 2, none⟩ = some _ := fun A => cell_keeps ((Grew.refl w2).alloc A).below hX2.c2
  have z3 : ∀ A, (w2.alloc A).cell? ⟨w.heap.size, 3, none⟩ = some _ := fun A => cell_keeps ((Grew.refl w2).alloc A).below hX2.c3
  have y0 : ∀ A, (w2.alloc A).cell? ⟨w.heap.size + 1, 0, none⟩ = some _ := fun A => cell_keeps ((Grew.refl w2).alloc A).below h1.c0
  have y1 : ∀ A, (w2.alloc A).cell? ⟨w.heap.size + 1, 1, none⟩ = some _ := fun A => cell_keeps ((Grew.refl w2).alloc A).below h1.c1
  have y2 : ∀ A, (w2.alloc A).cell? ⟨w.heap.size + 1, 2, none⟩ = some _ := fun A => cell_keeps ((Grew.refl w2).alloc A).below h1.c2
  have y3 : ∀ A, (w2.alloc A).cell? ⟨w.heap.size + 1, 3, none⟩ = some _ := fun A => cell_keeps ((Grew.refl w2).alloc A).below h1.c3
  have f0 : ∀ A, (w2.alloc A).frozen? ⟨w.heap.size, 0, none⟩ = false := fun A => (((Grew.refl w2).alloc A).below.frozen (p := ⟨w.heap.size, 0, none⟩) hlt6).trans hX2.f0
  have f1 : ∀ A, (w2.alloc A).frozen? ⟨w.heap.size, 1, none⟩ = false := fun A => (((Grew.refl w2).alloc A).below.frozen (p := ⟨w.heap.size, 1, none⟩) hlt6).trans hX2.f1
  have f2 : ∀ A, (w2.alloc A).frozen? ⟨w.heap.size, 2, none⟩ = false := fun A => (((Grew.refl w2).alloc A).below.frozen (p := ⟨w.heap.size, 2, none⟩) hlt6).trans hX2.f2
  have f3 : ∀ A, (w2.alloc A).frozen? ⟨w.heap.size, 3, none⟩ = false := fun A => (((Grew.refl w2).alloc A).below.frozen (p := ⟨w.heap.size, 3, none⟩) hlt6).trans hX2.f3
  have hT : ∀ Z, KC (fun m => m = w.heap.size) w2 Z → Tk pCK True Y (fun n => (fun m => m = w.heap.size) n ∨ n = w.heap.size + 1) w P vs.length r.s p' Z ps := fun Z hZ => by simpa using h7.k1 (hZ.mono (fun m _ h => .inl h))
  by_cases hle : r.items.length ≤ n
  · have HZ : Hid (∀ Z, KC (fun m => m = w.heap.size) w2 Z → NthPost pCK True Y w P vs.length n r (.returned (.tuple #[.agg #[.int .i64 0, .int .i64 0, .string ⟨#[]⟩, .slice none 0 0], .bool false, .int .i64 (r.left : Int), .int .i64 (r.err : Int)])) Z) := fun Z hZ => by
      obtain ⟨P', hA, _⟩ := (hT Z hZ).aft HY.out
      exact ⟨P', hA, .inl ⟨hle, none, 0, rfl⟩⟩
    have hle2 : (r.items.length : Int) ≤ (n : Int) := by omega
    obtain ⟨k0, k1, k2, k3, g0, g1, g2, g3⟩ := hX2
    clear hk h1 h2 h5 h7 hT y0 y1 y2 y3 hle HX6
    go_wp2_with fail
    go_region
    all_goals go_wp2_with fail
    refine bodyPost_ret (v := .tuple #[.agg #[.int .i64 0, .int .i64 0, .string ⟨#[]⟩, .slice none 0 0], .bool false, .int .i64 (r.left : Int), .int .i64 (r.err : Int)]) ?_ rfl (HZ.out _ (nth_kc w2 w.heap.size zeroT (.slice none 0 0) _))
    obtain ⟨q0, q1, q2, q3⟩ := rm4_alloc (V := w2) (b := w.heap.size) ⟨⟨_, k0⟩, ⟨_, k1⟩, ⟨_, k2⟩, ⟨_, k3⟩, g0, g1, g2, g3⟩ (.int .i64 0) (.int .i64 0) (.string ⟨#[]⟩) (.slice none 0 0) (.cells #[.int .i64 (r.items.length : Int), .pointer (some ⟨p', 0, none⟩), .int .i64 (r.left : Int), .int .i64 (r.err : Int)] 88)
    simp [results, Tryz.results36, go_sem, q0, q1, q2, q3]
  · have hne : r.items ≠ [] := fun e => hle (by rw [e]; simp)
    obtain ⟨hlast, hmem⟩ := h2.resolve_left hne
    obtain ⟨au, cu, hu⟩ : ∃ au cu, u = .slice au x.items.length cu := by
      obtain ⟨Px, Ycx, _, _, _, _, _, _, _, h8⟩ := h7.ex
      obtain ⟨_, au, cu, hu, _⟩ := h8 (x, u) (by simpa using hmem)
      exact ⟨au, cu, hu⟩
    subst hu
    have HZ : Hid (∀ Z, KC (fun m => m = w.heap.size) w2 Z → NthPost pCK True Y w P vs.length n r (.returned (.tuple #[.agg #[.int .i64 x.kind, .int .i64 x.num, .string x.text, .slice au x.items.length cu], .bool true, .int .i64 (r.left : Int), .int .i64 0])) Z) := fun Z hZ => by
      obtain ⟨P', hA, _, _, hi⟩ := (hT Z hZ).aft HY.out
      obtain ⟨i1, a1, c1, i2, i3⟩ := hi _ hmem
      exact ⟨P', hA, .inr ⟨by omega, Hr.out (by omega), x, au, cu, hlast, rfl, i3, i1⟩⟩
    have hle2 : ¬ (r.items.length : Int) ≤ (n : Int) := by omega
    obtain ⟨k0, k1, k2, k3, g0, g1, g2, g3⟩ := hX2
    obtain ⟨m0, m1, m2, m3, _, _, _, _⟩ := h1
    clear hk h2 h5 h7 hT hle HX6 hne hlast hmem
    go_wp2_with fail
    go_region
    all_goals go_wp2_with fail
    all_goals refine bodyPost_ret (v := .tuple #[.agg #[.int .i64 x.kind, .int .i64 x.num, .string x.text, .slice au x.items.length cu], .bool true, .int .i64 (r.left : Int), .int .i64 0]) ?_ rfl (HZ.out _ (nth_kc w2 w.heap.size x (.slice au x.items.length cu) _))
    all_goals obtain ⟨q0, q1, q2, q3⟩ := rm4_alloc (V := w2) (b := w.heap.size) ⟨⟨_, k0⟩, ⟨_, k1⟩, ⟨_, k2⟩, ⟨_, k3⟩, g0, g1, g2, g3⟩ (.int .i64 x.kind) (.int .i64 x.num) (.string x.text) (.slice au x.items.length cu) (.cells #[.int .i64 (r.items.length : Int), .pointer (some ⟨p', 0, none⟩), .int .i64 (r.left : Int), .int .i64 (r.err : Int)] 88)
    all_goals simp [results, Tryz.results36, go_sem, q0, q1, q2, q3]

end Go.Proofs.YtnjgolibmllhnaaGreat

namespace Go.Proofs.YtnjgolibmllhnaaGreat
open Go.RowKit Go.Shelf

set_option maxRecDepth 100000 in
theorem take_bad (cv : Option Addr) (n f : Int) (h : (n < 0 ∨ 65536 < n) ∨ (f < 0 ∨ 1073741824 < f)) (w : World) : Calls Tryz.prog 33 #[.pointer cv, .int .i64 n, .int .i64 f] w fun e w' => e = .returned (.tuple #[.slice none 0 0, .int .i64 0, .int .i64 1]) ∧ Below w.heap.size w w' := by
  have HC : Hid (∀ V, Calls Tryz.prog 41 #[.int .i64 n, .int .i64 f] V fun e w' => e = .returned (.int .i64 1) ∧ w' = V) := fun V => scheck_bad n f h V
  have HB : Hid (Below w.heap.size w w) := Below.refl _ _
  clear h
  go_enter Tryz.func33, Tryz.ntmps33
  go_wp2_with fail
  refine Calls.mono (HC.out _) ?_
  rintro e w9 ⟨rfl, hw9⟩
  obtain rfl : w = w9 := hw9.symm
  clear hw9 HC
  go_wp2_with fail
  refine bodyPost_ret (v := .tuple #[.slice none 0 0, .int .i64 0, .int .i64 1]) ?_ rfl ⟨rfl, HB.out⟩
  simp [results, Tryz.results33, go_sem]

set_option maxRecDepth 100000 in
theorem count_bad (cv : Option Addr) (n f : Int) (h : (n < 0 ∨ 65536 < n) ∨ (f < 0 ∨ 1073741824 < f)) (w : World) : Calls Tryz.prog 39 #[.pointer cv, .int .i64 n, .int .i64 f] w fun e w' => e = .returned (.tuple #[.int .i64 0, .int .i64 0, .int .i64 1]) ∧ Below w.heap.size w w' := by
  have HC : Hid (∀ V, Calls Tryz.prog 41 #[.int .i64 n, .int .i64 f] V fun e w' => e = .returned (.int .i64 1) ∧ w' = V) := fun V => scheck_bad n f h V
  have HB : Hid (Below w.heap.size w w) := Below.refl _ _
  clear h
  go_enter Tryz.func39, Tryz.ntmps39
  go_wp2_with fail
  refine Calls.mono (HC.out _) ?_
  rintro e w9 ⟨rfl, hw9⟩
  obtain rfl : w = w9 := hw9.symm
  clear hw9 HC
  go_wp2_with fail
  refine bodyPost_ret (v := .tuple #[.int .i64 0, .int .i64 0, .int .i64 1]) ?_ rfl ⟨rfl, HB.out⟩
  simp [results, Tryz.results39, go_sem]

set_option maxRecDepth 100000 in
theorem drop_bad (cv : Option Addr) (n f : Int) (h : (n < 0 ∨ 65536 < n) ∨ (f < 0 ∨ 1073741824 < f)) (w : World) : Calls Tryz.prog 11 #[.pointer cv, .int .i64 n, .int .i64 f] w fun e w' => e = .returned (.tuple #[.pointer none, .int .i64 0, .int .i64 1]) ∧ Below w.heap.size w w' := by
  have HC : Hid (∀ V, Calls Tryz.prog 41 #[.int .i64 n, .int .i64 f] V fun e w' => e = .returned (.int .i64 1) ∧ w' = V) := fun V => scheck_bad n f h V
  have HB : Hid (Below w.heap.size w w) := Below.refl _ _
  clear h
  go_enter Tryz.func11, Tryz.ntmps11
  go_wp2_with fail
  refine Calls.mono (HC.out _) ?_
  rintro e w9 ⟨rfl, hw9⟩
  obtain rfl : w = w9 := hw9.symm
  clear hw9 HC
  go_wp2_with fail
  refine bodyPost_ret (v := .tuple #[.pointer none, .int .i64 0, .int .i64 1]) ?_ rfl ⟨rfl, HB.out⟩
  simp [results, Tryz.results11, go_sem]

set_option maxRecDepth 100000 in
theorem rtake_bad (cv : Option Addr) (n f : Int) (h : (n < 0 ∨ 65536 < n) ∨ (f < 0 ∨ 1073741824 < f)) (w : World) : Calls Tryz.prog 35 #[.pointer cv, .int .i64 n, .int .i64 f] w fun e w' => e = .returned (.tuple #[.slice none 0 0, .int .i64 0, .int .i64 1]) ∧ Below w.heap.size w w' := by
  have HC : Hid (∀ V, Calls Tryz.prog 44 #[.int .i64 n, .int .i64 f] V fun e w' => e = .returned (.int .i64 1) ∧ w' = V) := fun V => rasked_bad n f h V
  have HB : Hid (Below w.heap.size w w) := Below.refl _ _
  clear h
  go_enter Tryz.func35, Tryz.ntmps35
  go_wp2_with fail
  refine Calls.mono (HC.out _) ?_
  rintro e w9 ⟨rfl, hw9⟩
  obtain rfl : w = w9 := hw9.symm
  clear hw9 HC
  go_wp2_with fail
  refine bodyPost_ret (v := .tuple #[.slice none 0 0, .int .i64 0, .int .i64 1]) ?_ rfl ⟨rfl, HB.out⟩
  simp [results, Tryz.results35, go_sem]

set_option maxRecDepth 100000 in
theorem rdrop_bad (cv : Option Addr) (n f : Int) (h : (n < 0 ∨ 65536 < n) ∨ (f < 0 ∨ 1073741824 < f)) (w : World) : Calls Tryz.prog 12 #[.pointer cv, .int .i64 n, .int .i64 f] w fun e w' => e = .returned (.tuple #[.pointer none, .int .i64 0, .int .i64 1]) ∧ Below w.heap.size w w' := by
  have HC : Hid (∀ V, Calls Tryz.prog 44 #[.int .i64 n, .int .i64 f] V fun e w' => e = .returned (.int .i64 1) ∧ w' = V) := fun V => rasked_bad n f h V
  have HB : Hid (Below w.heap.size w w) := Below.refl _ _
  clear h
  go_enter Tryz.func12, Tryz.ntmps12
  go_wp2_with fail
  refine Calls.mono (HC.out _) ?_
  rintro e w9 ⟨rfl, hw9⟩
  obtain rfl : w = w9 := hw9.symm
  clear hw9 HC
  go_wp2_with fail
  refine bodyPost_ret (v := .tuple #[.pointer none, .int .i64 0, .int .i64 1]) ?_ rfl ⟨rfl, HB.out⟩
  simp [results, Tryz.results12, go_sem]

set_option maxRecDepth 100000 in
theorem rcount_bad (cv : Option Addr) (n f : Int) (h : (n < 0 ∨ 65536 < n) ∨ (f < 0 ∨ 1073741824 < f)) (w : World) : Calls Tryz.prog 40 #[.pointer cv, .int .i64 n, .int .i64 f] w fun e w' => e = .returned (.tuple #[.int .i64 0, .int .i64 0, .int .i64 1]) ∧ Below w.heap.size w w' := by
  have HC : Hid _ := rtake_bad cv n f h w
  clear h
  go_enter Tryz.func40, Tryz.ntmps40
  go_wp2_with fail
  refine Calls.mono HC.out ?_
  rintro e w2 ⟨rfl, hb⟩
  have HB : Hid (Below w.heap.size w w2) := hb
  clear hb HC
  go_wp2_with fail
  refine bodyPost_ret (v := .tuple #[.int .i64 0, .int .i64 0, .int .i64 1]) ?_ rfl ⟨rfl, HB.out⟩
  simp [results, Tryz.results40, go_sem]

set_option maxRecDepth 100000 in
set_option maxHeartbeats 4000000 in
theorem rnth_bad (cv : Option Addr) (n f : Int) (h : (n < 0 ∨ 65536 < n) ∨ (f < 0 ∨ 1073741824 < f)) (w : World) : Calls Tryz.prog 37 #[.pointer cv, .int .i64 n, .int .i64 f] w fun e w' => e = .returned (.tuple #[.agg #[.int .i64 0, .int .i64 0, .string ⟨#[]⟩, .slice none 0 0], .bool false, .int .i64 0, .int .i64 1]) ∧ Below w.heap.size w w' := by
  have hzb := zbox_below w
  have hzx := zbox_bx w
  have HC : Hid (∀ V, Calls Tryz.prog 12 #[.pointer cv, .int .i64 n, .int .i64 f] V fun e w' => e = .returned (.tuple #[.pointer none, .int .i64 0, .int .i64 1]) ∧ Below V.heap.size V w') := fun V => rdrop_bad cv n f h V
  obtain ⟨W, hW⟩ : ∃ W, W = zbox w := ⟨_, rfl⟩
  have HW : Hid (W = w.alloc (.cells #[.int .i64 0, .int .i64 0, .string ⟨#[]⟩, .slice none 0 0] 24)) := hW
  rw [← hW] at hzb hzx
  clear h hW
  go_enter Tryz.func37, Tryz.ntmps37
  go_upto_region 1 with fail
  rw [← HW.out]
  clear HW
  go_wp2_with fail
  refine Calls.mono (HC.out _) ?_
  rintro e w2 ⟨rfl, hb⟩
  have hx2 := hzx.keeps hb
  have HB : Hid (∀ Z, KC (fun m => m = w.heap.size) w2 Z → Below w.heap.size w Z) := fun Z hZ => (hzb.trans (hb.mono hzb.size)).trans (hZ.below (fun j hj => by omega) (Nat.le_trans hzb.size hb.size))
  obtain ⟨k0, k1, k2, k3, g0, g1, g2, g3⟩ := hx2
  clear hzb hzx hb HC
  go_wp2_with fail
  refine bodyPost_ret (v := .tuple #[.agg #[.int .i64 0, .int .i64 0, .string ⟨#[]⟩, .slice none 0 0], .bool false, .int .i64 0, .int .i64 1]) ?_ rfl ⟨rfl, HB.out _ (KC.put4 (B := fun m => m = w.heap.size) (o := 0) (KC.refl _ w2) (.inl rfl) zeroT (.slice none 0 0))⟩
  obtain ⟨q0, q1, q2, q3⟩ := rm4_put (V := w2) (b := w.heap.size) ⟨⟨_, k0⟩, ⟨_, k1⟩, ⟨_, k2⟩, ⟨_, k3⟩, g0, g1, g2, g3⟩ (.int .i64 0) (.int .i64 0) (.string ⟨#[]⟩) (.slice none 0 0)
  simp [results, Tryz.results37, go_sem, q0, q1, q2, q3]

set_option maxRecDepth 100000 in
set_option maxHeartbeats 4000000 in
theorem nth_bad (cv : Option Addr) (n f : Int) (h : (n < 0 ∨ 65536 < n) ∨ (f < 0 ∨ 1073741824 < f)) (w : World) : Calls Tryz.prog 36 #[.pointer cv, .int .i64 n, .int .i64 f] w fun e w' => e = .returned (.tuple #[.agg #[.int .i64 0, .int .i64 0, .string ⟨#[]⟩, .slice none 0 0], .bool false, .int .i64 0, .int .i64 1]) ∧ Below w.heap.size w w' := by
  have hzb := zbox_below w
  have hzx := zbox_bx w
  have HC : Hid (∀ V, Calls Tryz.prog 41 #[.int .i64 n, .int .i64 f] V fun e w' => e = .returned (.int .i64 1) ∧ Below V.heap.size V w') := fun V => Calls.mono (scheck_bad n f h V) (fun e w' hh => ⟨hh.1, by rw [hh.2]; exact Below.refl _ _⟩)
  obtain ⟨W, hW⟩ : ∃ W, W = zbox w := ⟨_, rfl⟩
  have HW : Hid (W = w.alloc (.cells #[.int .i64 0, .int .i64 0, .string ⟨#[]⟩, .slice none 0 0] 24)) := hW
  rw [← hW] at hzb hzx
  clear h hW
  go_enter Tryz.func36, Tryz.ntmps36
  go_upto_region 1 with fail
  rw [← HW.out]
  clear HW
  go_wp2_with fail
  refine Calls.mono (HC.out _) ?_
  rintro e w2 ⟨rfl, hb⟩
  have hx2 := hzx.keeps hb
  have HB : Hid (∀ Z, KC (fun m => m = w.heap.size) w2 Z → Below w.heap.size w Z) := fun Z hZ => (hzb.trans (hb.mono hzb.size)).trans (hZ.below (fun j hj => by omega) (Nat.le_trans hzb.size hb.size))
  obtain ⟨k0, k1, k2, k3, g0, g1, g2, g3⟩ := hx2
  clear hzb hzx hb HC
  go_wp2_with fail
  refine bodyPost_ret (v := .tuple #[.agg #[.int .i64 0, .int .i64 0, .string ⟨#[]⟩, .slice none 0 0], .bool false, .int .i64 0, .int .i64 1]) ?_ rfl ⟨rfl, HB.out _ (KC.put4 (B := fun m => m = w.heap.size) (o := 0) (KC.refl _ w2) (.inl rfl) zeroT (.slice none 0 0))⟩
  obtain ⟨q0, q1, q2, q3⟩ := rm4_put (V := w2) (b := w.heap.size) ⟨⟨_, k0⟩, ⟨_, k1⟩, ⟨_, k2⟩, ⟨_, k3⟩, g0, g1, g2, g3⟩ (.int .i64 0) (.int .i64 0) (.string ⟨#[]⟩) (.slice none 0 0)
  simp [results, Tryz.results36, go_sem, q0, q1, q2, q3]

end Go.Proofs.YtnjgolibmllhnaaGreat

