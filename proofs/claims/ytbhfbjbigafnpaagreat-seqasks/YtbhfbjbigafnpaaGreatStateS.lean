/-
  The program's seq and the document's beside each other.
-/
import Derived.Test.YtbhfbjbigafnpaaGreatTakeJ
import Derived.Test.YtbhfbjbigafnpaaGreatRTakeM
import Derived.BigQuiet
import Derived.Test.YtbhfbjbigafnpaaGreatVals
import Derived.Test.YtbhfbjbigafnpaaGreatSame
namespace Go.Proofs.YtbhfbjbigafnpaaGreat
open Go.RowKit Go.Shelf

set_option maxRecDepth 100000 in
theorem scheck_ok (n f : Nat) (hn : n ≤ 65536) (hf : f ≤ 1073741824) (w : World) : Calls Tryz.prog 41 #[.int .i64 (n : Int), .int .i64 (f : Int)] w fun e w' => e = .returned (.int .i64 0) ∧ w' = w := by
  have h1 : ¬ (n : Int) < 0 := by omega
  have h2 : ¬ (65536 : Int) < (n : Int) := by omega
  have h3 : ¬ (f : Int) < 0 := by omega
  have h4 : ¬ (1073741824 : Int) < (f : Int) := by omega
  go_enter Tryz.func41, Tryz.ntmps41
  go_wp2_with fail
  go_ret
  exact ⟨rfl, rfl⟩

set_option maxRecDepth 100000 in
theorem scheck_bad (n f : Int) (h : (n < 0 ∨ 65536 < n) ∨ (f < 0 ∨ 1073741824 < f)) (w : World) : Calls Tryz.prog 41 #[.int .i64 n, .int .i64 f] w fun e w' => e = .returned (.int .i64 1) ∧ w' = w := by
  by_cases h1 : n < 0
  · go_enter Tryz.func41, Tryz.ntmps41
    go_wp2_with fail
    go_ret
    exact ⟨rfl, rfl⟩
  · by_cases h2 : 65536 < n
    · go_enter Tryz.func41, Tryz.ntmps41
      go_wp2_with fail
      go_ret
      exact ⟨rfl, rfl⟩
    · by_cases h3 : f < 0
      · clear h
        go_enter Tryz.func41, Tryz.ntmps41
        go_wp2_with fail
        go_ret
        exact ⟨rfl, rfl⟩
      · have h4 : 1073741824 < f := by omega
        clear h
        go_enter Tryz.func41, Tryz.ntmps41
        go_wp2_with fail
        go_ret
        exact ⟨rfl, rfl⟩

set_option maxRecDepth 100000 in
set_option maxHeartbeats 8000000 in
theorem take_any (Y : Nat → Prop) (vs : List VT) (T : Tl) (P : Nat → Nat) (n f : Nat) (hn : n ≤ 65536) (hf : f ≤ 1073741824) (w : World) (h : Chn pCK Y w vs T P) (hY : ∀ n, w.heap.size ≤ n → Y n) :
    Calls Tryz.prog 33 #[.pointer (some ⟨P 0, 0, none⟩), .int .i64 (n : Int), .int .i64 (f : Int)] w (TakePost pCK True Y w P vs.length (wlk frcC n ⟨vs, T, 0⟩ f)) := by
  have HC : Hid (∀ V, Calls Tryz.prog 41 #[.int .i64 (n : Int), .int .i64 (f : Int)] V fun e w' => e = .returned (.int .i64 0) ∧ w' = V) := fun V => scheck_ok n f hn hf V
  have eg : ∀ args w, (callFunc 71 args).run Tryz.prog w = .ok (.enter 71 args) w := enters_of Tryz.func71 (by kernel_rfl) rfl
  have hb0 : Below w.heap.size w (w.alloc (.cells #[.slice none 0 0] 22)) := ((Grew.refl w).alloc _).below
  have hT0 : Tk pCK True Y (fun n => False ∨ (w.heap.size ≤ n ∧ n < (w.alloc (.cells #[.slice none 0 0] 22)).heap.size)) w P vs.length ⟨vs, T, 0⟩ (P 0) (w.alloc (.cells #[.slice none 0 0] 22)) [] := (Tk.start h 0 (by omega)).k2 hb0
  have hJ : JT w.heap.size Y w P vs.length (fun _ => False) ⟨vs, T, 0⟩ (P 0) [] none (w.alloc (.cells #[.slice none 0 0] 22)) := by
    refine ⟨none, 0, [], rfl, World.ownsRow_nil _ _ _ _, by simp, by simp, fun h => h, fun g hg => by simp [Value.ownBlock] at hg, hT0.k3 (fun m hm => ?_)⟩
    rcases hm with h | h | h
    · exact h.elim
    · exact .inr ⟨by omega, by rw [World.size_alloc]; omega⟩
    · simp [Value.ownBlock] at h
  have HWk : Hid (Calls Tryz.prog 42 #[.pointer (some ⟨P 0, 0, none⟩), .int .i64 (n : Int), .int .i64 (f : Int), .func (.func 71) #[] #[.pointer (some ⟨w.heap.size, 0, none⟩)]] (w.alloc (.cells #[.slice none 0 0] 22)) (WkPost (JT w.heap.size Y w P vs.length) (fun _ => False) (wlk frcC n ⟨vs, T, 0⟩ f) (w.alloc (.cells #[.slice none 0 0] 22)))) :=
    walk_any frcC _ (jt_wkr w.heap.size Y w P vs.length) 71 _ eg (jt_force w.heap.size Y w P vs.length) (jt_found w.heap.size Y w P vs.length) _ _ _ n f (by omega) hf _ hJ
  have HY : Hid (∀ n, w.heap.size ≤ n → Y n) := hY
  have Hr : Hid ((wlk frcC n ⟨vs, T, 0⟩ f).items.length ≤ 65536) := Nat.le_trans (wlk_le n _ f).1 hn
  generalize wlk frcC n ⟨vs, T, 0⟩ f = r at *
  clear hJ hT0 hb0 eg h hn hf hY
  go_enter Tryz.func33, Tryz.ntmps33
  go_wp2_with fail
  refine Calls.mono (HC.out _) ?_
  rintro e w9 ⟨rfl, hw9⟩
  obtain rfl : w = w9 := hw9.symm
  clear hw9 HC
  go_wp2_with fail
  refine Calls.mono HWk.out ?_
  rintro e w2 ⟨p', rfl, hk, a, c, ps, h1, h2, h3, h4, h5, h6, h7⟩
  clear HWk
  cases Nat.eq_zero_or_pos r.err with
  | inl hE =>
    have HZ : Hid (∀ Z, Below w2.heap.size w2 Z → TakePost pCK True Y w P vs.length r (.returned (.tuple #[.slice a r.items.length c, .int .i64 (r.left : Int), .int .i64 0])) Z) := fun Z hZ => by
      obtain ⟨P', hA, _, hb, hi⟩ := h7.aft HY.out
      have hlen : r.items.length = ps.length := by rw [← h1, List.length_map]
      have hl := own_liesX (d := 16) h2 hlen (fun g hg => hb g (.inr (.inr hg))) (fun q hq => by
        obtain ⟨g1, a1, c1, g2, g3⟩ := hi q (by simpa using hq)
        exact ⟨g3, Nat.le_trans (right_size g1) (by omega)⟩) (by have := Hr.out; omega)
      rw [h1] at hl
      refine ⟨P', hA.below hZ, .inr ⟨hE, a, c, rfl, hl.keeps hZ, fun x hx => ?_⟩⟩
      rw [← h1] at hx
      obtain ⟨q, hq, rfl⟩ := List.mem_map.1 hx
      exact (hi q (by simpa using hq)).1
    have h3a : ∀ A, (w2.alloc A).cell? ⟨w.heap.size, 0, none⟩ = some (.slice a r.items.length c) := fun A => cell_keeps ((Grew.refl w2).alloc A).below h3
    rw [hE]
    clear hk h1 h2 h4 h5 h6 h7
    go_wp2_with fail
    go_region
    all_goals go_wp2_with fail
    all_goals refine bodyPost_ret (v := .tuple #[.slice a r.items.length c, .int .i64 (r.left : Int), .int .i64 0]) ?_ rfl (HZ.out _ (by first | exact ((Grew.refl _).alloc _).below | exact ((Grew.refl _).alloc _).drew.below))
    all_goals simp [results, Tryz.results33, go_sem]
  | inr hE =>
    have HZ : Hid (∀ Z, Below w2.heap.size w2 Z → TakePost pCK True Y w P vs.length r (.returned (.tuple #[.slice none 0 0, .int .i64 0, .int .i64 (r.err : Int)])) Z) := fun Z hZ => by
      obtain ⟨P', hA, _⟩ := h7.aft HY.out
      exact ⟨P', hA.below hZ, .inl ⟨by omega, rfl⟩⟩
    have hE2 : ¬ (r.err : Int) = 0 := by omega
    clear hE hk h1 h2 h4 h5 h6 h7
    go_wp2_with fail
    go_region
    all_goals go_wp2_with fail
    all_goals refine bodyPost_ret (v := .tuple #[.slice none 0 0, .int .i64 0, .int .i64 (r.err : Int)]) ?_ rfl (HZ.out _ (by first | exact ((Grew.refl _).alloc _).below | exact ((Grew.refl _).alloc _).drew.below))
    all_goals simp [results, Tryz.results33, go_sem]

set_option maxRecDepth 100000 in
set_option maxHeartbeats 8000000 in
theorem count_any (Y : Nat → Prop) (vs : List VT) (T : Tl) (P : Nat → Nat) (n f : Nat) (hn : n ≤ 65536) (hf : f ≤ 1073741824) (w : World) (h : Chn pCK Y w vs T P) (hY : ∀ n, w.heap.size ≤ n → Y n) :
    Calls Tryz.prog 39 #[.pointer (some ⟨P 0, 0, none⟩), .int .i64 (n : Int), .int .i64 (f : Int)] w (CountPost pCK Y w P vs.length (wlk frcC n ⟨vs, T, 0⟩ f)) := by
  have HC : Hid (∀ V, Calls Tryz.prog 41 #[.int .i64 (n : Int), .int .i64 (f : Int)] V fun e w' => e = .returned (.int .i64 0) ∧ w' = V) := fun V => scheck_ok n f hn hf V
  have eg : ∀ args w, (callFunc 73 args).run Tryz.prog w = .ok (.enter 73 args) w := enters_of Tryz.func73 (by kernel_rfl) rfl
  have hJ : JD Y w P vs.length (fun _ => False) ⟨vs, T, 0⟩ (P 0) [] none w := ⟨[], Tk.start h 0 (by omega)⟩
  have HWk : Hid (Calls Tryz.prog 42 #[.pointer (some ⟨P 0, 0, none⟩), .int .i64 (n : Int), .int .i64 (f : Int), .func (.func 73) #[] #[]] w (WkPost (JD Y w P vs.length) (fun _ => False) (wlk frcC n ⟨vs, T, 0⟩ f) w)) :=
    walk_any frcC _ (jd_wkr Y w P vs.length) 73 #[] eg (jd_force Y w P vs.length) (fun bar s p l x u w _ h => jd_found count1_any Y _ P vs.length bar s p l x u w h) _ _ _ n f (by omega) hf _ hJ
  have HY : Hid (∀ n, w.heap.size ≤ n → Y n) := hY
  generalize wlk frcC n ⟨vs, T, 0⟩ f = r at *
  clear hJ eg h hn hf hY
  go_enter Tryz.func39, Tryz.ntmps39
  go_wp2_with fail
  refine Calls.mono (HC.out _) ?_
  rintro e w9 ⟨rfl, hw9⟩
  obtain rfl : w = w9 := hw9.symm
  clear hw9 HC
  go_wp2_with fail
  refine Calls.mono HWk.out ?_
  rintro e w2 ⟨p', rfl, hk, ps, h7⟩
  clear HWk
  cases Nat.eq_zero_or_pos r.err with
  | inl hE =>
    have HZ : Hid (∀ Z, Below w2.heap.size w2 Z → CountPost pCK Y w P vs.length r (.returned (.tuple #[.int .i64 (r.items.length : Int), .int .i64 (r.left : Int), .int .i64 0])) Z) := fun Z hZ => by
      obtain ⟨P', hA, _⟩ := h7.aft HY.out
      exact ⟨P', hA.below hZ, .inr ⟨hE, rfl⟩⟩
    rw [hE]
    clear hk h7
    go_wp2_with fail
    go_region
    all_goals go_wp2_with fail
    all_goals refine bodyPost_ret (v := .tuple #[.int .i64 (r.items.length : Int), .int .i64 (r.left : Int), .int .i64 0]) ?_ rfl (HZ.out _ (by first | exact ((Grew.refl _).alloc _).below | exact ((Grew.refl _).alloc _).drew.below))
    all_goals simp [results, Tryz.results39, go_sem]
  | inr hE =>
    have HZ : Hid (∀ Z, Below w2.heap.size w2 Z → CountPost pCK Y w P vs.length r (.returned (.tuple #[.int .i64 0, .int .i64 0, .int .i64 (r.err : Int)])) Z) := fun Z hZ => by
      obtain ⟨P', hA, _⟩ := h7.aft HY.out
      exact ⟨P', hA.below hZ, .inl ⟨by omega, rfl⟩⟩
    have hE2 : ¬ (r.err : Int) = 0 := by omega
    clear hE hk h7
    go_wp2_with fail
    go_region
    all_goals go_wp2_with fail
    all_goals refine bodyPost_ret (v := .tuple #[.int .i64 0, .int .i64 0, .int .i64 (r.err : Int)]) ?_ rfl (HZ.out _ (by first | exact ((Grew.refl _).alloc _).below | exact ((Grew.refl _).alloc _).drew.below))
    all_goals simp [results, Tryz.results39, go_sem]

set_option maxRecDepth 100000 in
set_option maxHeartbeats 8000000 in
theorem drop_any (Y : Nat → Prop) (vs : List VT) (T : Tl) (P : Nat → Nat) (n f : Nat) (hn : n ≤ 65536) (hf : f ≤ 1073741824) (w : World) (h : Chn pCK Y w vs T P) (hY : ∀ n, w.heap.size ≤ n → Y n) :
    Calls Tryz.prog 11 #[.pointer (some ⟨P 0, 0, none⟩), .int .i64 (n : Int), .int .i64 (f : Int)] w (DropPost pCK Y w P vs.length (wlk frcC n ⟨vs, T, 0⟩ f)) := by
  have HC : Hid (∀ V, Calls Tryz.prog 41 #[.int .i64 (n : Int), .int .i64 (f : Int)] V fun e w' => e = .returned (.int .i64 0) ∧ w' = V) := fun V => scheck_ok n f hn hf V
  have eg : ∀ args w, (callFunc 43 args).run Tryz.prog w = .ok (.enter 43 args) w := enters_of Tryz.func43 (by kernel_rfl) rfl
  have hJ : JD Y w P vs.length (fun _ => False) ⟨vs, T, 0⟩ (P 0) [] none w := ⟨[], Tk.start h 0 (by omega)⟩
  have HWk : Hid (Calls Tryz.prog 42 #[.pointer (some ⟨P 0, 0, none⟩), .int .i64 (n : Int), .int .i64 (f : Int), .func (.func 43) #[] #[]] w (WkPost (JD Y w P vs.length) (fun _ => False) (wlk frcC n ⟨vs, T, 0⟩ f) w)) :=
    walk_any frcC _ (jd_wkr Y w P vs.length) 43 #[] eg (jd_force Y w P vs.length) (fun bar s p l x u w _ h => jd_found drop1_any Y _ P vs.length bar s p l x u w h) _ _ _ n f (by omega) hf _ hJ
  have HY : Hid (∀ n, w.heap.size ≤ n → Y n) := hY
  generalize wlk frcC n ⟨vs, T, 0⟩ f = r at *
  clear hJ eg h hn hf hY
  go_enter Tryz.func11, Tryz.ntmps11
  go_wp2_with fail
  refine Calls.mono (HC.out _) ?_
  rintro e w9 ⟨rfl, hw9⟩
  obtain rfl : w = w9 := hw9.symm
  clear hw9 HC
  go_wp2_with fail
  refine Calls.mono HWk.out ?_
  rintro e w2 ⟨p', rfl, hk, ps, h7⟩
  clear HWk
  cases Nat.eq_zero_or_pos r.err with
  | inl hE =>
    have HZ : Hid (∀ Z, Below w2.heap.size w2 Z → DropPost pCK Y w P vs.length r (.returned (.tuple #[.pointer (some ⟨p', 0, none⟩), .int .i64 (r.left : Int), .int .i64 0])) Z) := fun Z hZ => by
      obtain ⟨P', hA, hp, _⟩ := h7.aft HY.out
      have hA2 := hA.below hZ
      refine ⟨P', hA2, .inr ⟨hE, fun i => P' (r.s.i + i), by rw [hp]; rfl, hA2.chn.drop r.s.i hA.at_, .inl rfl, fun j hj => .inl ⟨r.s.i + j, ?_, rfl⟩⟩⟩
      have := hA.at_
      rw [List.length_drop] at hj
      omega
    rw [hE]
    clear hk h7
    go_wp2_with fail
    go_region
    all_goals go_wp2_with fail
    all_goals refine bodyPost_ret (v := .tuple #[.pointer (some ⟨p', 0, none⟩), .int .i64 (r.left : Int), .int .i64 0]) ?_ rfl (HZ.out _ (by first | exact ((Grew.refl _).alloc _).below | exact ((Grew.refl _).alloc _).drew.below))
    all_goals simp [results, Tryz.results11, go_sem]
  | inr hE =>
    have HZ : Hid (∀ Z, Below w2.heap.size w2 Z → DropPost pCK Y w P vs.length r (.returned (.tuple #[.pointer none, .int .i64 0, .int .i64 (r.err : Int)])) Z) := fun Z hZ => by
      obtain ⟨P', hA, _⟩ := h7.aft HY.out
      exact ⟨P', hA.below hZ, .inl ⟨by omega, rfl⟩⟩
    have hE2 : ¬ (r.err : Int) = 0 := by omega
    clear hE hk h7
    go_wp2_with fail
    go_region
    all_goals go_wp2_with fail
    all_goals refine bodyPost_ret (v := .tuple #[.pointer none, .int .i64 0, .int .i64 (r.err : Int)]) ?_ rfl (HZ.out _ (by first | exact ((Grew.refl _).alloc _).below | exact ((Grew.refl _).alloc _).drew.below))
    all_goals simp [results, Tryz.results11, go_sem]

end Go.Proofs.YtbhfbjbigafnpaaGreat

namespace Go.Proofs.YtbhfbjbigafnpaaGreat
open Go.RowKit Go.Shelf

theorem nth_kc (w : World) (b : Nat) (x : VT) (u : Value) (o : Obj) : KC (fun m => m = b) w ((((((w.setCell ⟨b, 0, none⟩ (.int .i64 x.kind)).setCell ⟨b, 1, none⟩ (.int .i64 x.num)).setCell ⟨b, 2, none⟩ (.string x.text)).setCell ⟨b, 3, none⟩ u).alloc o).drew) :=
  ((KC.put4 (B := fun m => m = b) (o := 0) (KC.refl _ w) (.inl rfl) x u).alloc o).drew

set_option maxRecDepth 100000 in
set_option maxHeartbeats 8000000 in
theorem nth_any (Y : Nat → Prop) (vs : List VT) (T : Tl) (P : Nat → Nat) (n f : Nat) (hn : n ≤ 65536) (hf : f ≤ 1073741824) (w : World) (h : Chn pCK Y w vs T P) (hY : ∀ n, w.heap.size ≤ n → Y n) :
    Calls Tryz.prog 36 #[.pointer (some ⟨P 0, 0, none⟩), .int .i64 (n : Int), .int .i64 (f : Int)] w (NthPost pCK True Y w P vs.length n (wlk frcC (n + 1) ⟨vs, T, 0⟩ f)) := by
  have HC : Hid (∀ V, Calls Tryz.prog 41 #[.int .i64 (n : Int), .int .i64 (f : Int)] V fun e w' => e = .returned (.int .i64 0) ∧ w' = V) := fun V => scheck_ok n f hn hf V
  have eg : ∀ args w, (callFunc 72 args).run Tryz.prog w = .ok (.enter 72 args) w := enters_of Tryz.func72 (by kernel_rfl) rfl
  obtain ⟨W, hW⟩ : ∃ W, W = zbox (zbox w) := ⟨_, rfl⟩
  have HW : Hid (W = (w.alloc (.cells #[.int .i64 0, .int .i64 0, .string ⟨#[]⟩, .slice none 0 0] 24)).alloc (.cells #[.int .i64 0, .int .i64 0, .string ⟨#[]⟩, .slice none 0 0] 24)) := hW
  have hb0 : Below w.heap.size w W := by rw [hW]; exact (zbox_below w).trans ((zbox_below (zbox w)).mono (by rw [zbox_size]; omega))
  have hws : W.heap.size = w.heap.size + 2 := by rw [hW, zbox_size, zbox_size]
  have HX6 : Hid (Bx W w.heap.size zeroT (.slice none 0 0)) := by rw [hW]; exact (zbox_bx w).keeps (zbox_below (zbox w))
  have hX1 : Bx W (w.heap.size + 1) zeroT (.slice none 0 0) := by rw [hW]; have h9 := zbox_bx (zbox w); rw [zbox_size] at h9; exact h9
  have hT0 := (Tk.start (Fr := True) h 0 (by omega)).k2 hb0
  have hJ : JN (w.heap.size + 1) Y w P vs.length (fun m => m = w.heap.size) ⟨vs, T, 0⟩ (P 0) [] none W :=
    ⟨zeroT, _, [], hX1, .inl rfl, by omega, hT0.k3 (fun m hm => .inr (by omega))⟩
  have HWk : Hid (Calls Tryz.prog 42 #[.pointer (some ⟨P 0, 0, none⟩), .int .i64 ((n + 1 : Nat) : Int), .int .i64 (f : Int), .func (.func 72) #[] #[.pointer (some ⟨w.heap.size + 1, 0, none⟩)]] W (WkPost (JN (w.heap.size + 1) Y w P vs.length) (fun m => m = w.heap.size) (wlk frcC (n + 1) ⟨vs, T, 0⟩ f) W)) :=
    walk_any frcC _ (jn_wkr (w.heap.size + 1) Y w P vs.length) 72 _ eg (jn_force (w.heap.size + 1) Y w P vs.length) (fun bar s p l x u w' _ h => jn_found (w.heap.size + 1) Y w P vs.length bar s p l x u w' h) _ _ _ (n + 1) f (by omega) hf _ hJ
  have HY : Hid (∀ n, w.heap.size ≤ n → Y n) := hY
  have Hr : Hid (n + 1 ≤ (wlk frcC (n + 1) ⟨vs, T, 0⟩ f).items.length → (wlk frcC (n + 1) ⟨vs, T, 0⟩ f).err = 0) := wlk_full (n + 1) _ f
  have e1 : IntKind.i64.wrap ((n : Int) + 1) = ((n + 1 : Nat) : Int) := by rw [IntKind.wrap_i64]; omega
  generalize wlk frcC (n + 1) ⟨vs, T, 0⟩ f = r at *
  clear hJ hT0 hb0 eg h hn hf hY hX1 hW
  go_enter Tryz.func36, Tryz.ntmps36
  go_wp2_with fail
  refine Calls.mono (HC.out _) ?_
  rintro e w9 ⟨rfl, hw9⟩
  subst hw9
  clear HC
  go_upto_region 5 with fail
  rw [← HW.out]
  clear HW
  go_wp2_with fail
  refine Calls.mono HWk.out ?_
  rintro e w2 ⟨p', rfl, hk, x, u, ps, h1, h2, h5, h7⟩
  clear HWk
  have hX2 : Bx w2 w.heap.size zeroT (.slice none 0 0) := hk.bx (fun h => h rfl) HX6.out
  have hlt6 : w.heap.size < w2.heap.size := cell_lt hX2.c0
  have hlt7 : w.heap.size + 1 < w2.heap.size := cell_lt h1.c0
  have HX2 : Hid (Bx w2 w.heap.size zeroT (.slice none 0 0)) := hX2
  have z0 : ∀ A, (w2.alloc A).cell? ⟨w.heap.size, 0, none⟩ = some _ := fun A => cell_keeps ((Grew.refl w2).alloc A).below hX2.c0
  have z1 : ∀ A, (w2.alloc A).cell? ⟨w.heap.size, 1, none⟩ = some _ := fun A => cell_keeps ((Grew.refl w2).alloc A).below hX2.c1
  have z2 : ∀ A, (w2.alloc A).cell? ⟨w.heap.size, 2, none⟩ = some _ := fun A => cell_keeps ((Grew.refl w2).alloc A).below hX2.c2
  have z3 : ∀ A, (w2.alloc A).cell? ⟨w.heap.size, 3, none⟩ = some _ := fun A => cell_keeps ((Grew.refl w2).alloc A).below hX2.c3
  have y0 : ∀ A, (w2.alloc A).cell? ⟨w.heap.size + 1, 0, none⟩ = some _ := fun A => cell_keeps ((Grew.refl w2).alloc A).below h1.c0
  have y1 : ∀ A, (w2.alloc A).cell? ⟨w.heap.size + 1, 1, none⟩ = some _ := fun A => cell_keeps ((Grew.refl w2).alloc A).below h1.c1
  have y2 : ∀ A, (w2.alloc A).cell? ⟨w.heap.size + 1, 2, none⟩ = some _ := fun A => cell_keeps ((Grew.refl w2).alloc A).below h1.c2
  have y3 : ∀ A, (w2.alloc A).cell? ⟨w.heap.size + 1, 3, none⟩ = some _ := fun A => cell_keeps ((Grew.refl w2).alloc A).below h1.c3
  have f0 : ∀ A, (w2.alloc A).frozen? ⟨w.heap.size, 0, none⟩ = false := fun A => (((Grew.refl w2).alloc A).below.frozen (p := ⟨w.heap.size, 0, none⟩) hlt6).trans hX2.f0
  have f1 : ∀ A, (w2.alloc A).frozen? ⟨w.heap.size, 1, none⟩ = false := fun A => (((Grew.refl w2).alloc A).below.frozen (p := ⟨w.heap.size, 1, none⟩) hlt6).trans hX2.f1
  have f2 : ∀ A, (w2.alloc A).frozen? ⟨w.heap.size, 2, none⟩ = false := fun A => (((Grew.refl w2).alloc A).below.frozen (p := ⟨w.heap.size, 2, none⟩) hlt6).trans hX2.f2
  have f3 : ∀ A, (w2.alloc A).frozen? ⟨w.heap.size, 3, none⟩ = false := fun A => (((Grew.refl w2).alloc A).below.frozen (p := ⟨w.heap.size, 3, none⟩) hlt6).trans hX2.f3
  have hT : ∀ Z, KC (fun m => m = w.heap.size) w2 Z → Tk pCK True Y (fun n => (fun m => m = w.heap.size) n ∨ n = w.heap.size + 1) w P vs.length r.s p' Z ps := fun Z hZ => by simpa using h7.k1 (hZ.mono (fun m _ h => .inl h))
  by_cases hle : r.items.length ≤ n
  · have HZ : Hid (∀ Z, KC (fun m => m = w.heap.size) w2 Z → NthPost pCK True Y w P vs.length n r (.returned (.tuple #[.agg #[.int .i64 0, .int .i64 0, .string ⟨#[]⟩, .slice none 0 0], .bool false, .int .i64 (r.left : Int), .int .i64 (r.err : Int)])) Z) := fun Z hZ => by
      obtain ⟨P', hA, _⟩ := (hT Z hZ).aft HY.out
      exact ⟨P', hA, .inl ⟨hle, none, 0, rfl⟩⟩
    have hle2 : (r.items.length : Int) ≤ (n : Int) := by omega
    obtain ⟨k0, k1, k2, k3, g0, g1, g2, g3⟩ := hX2
    clear hk h1 h2 h5 h7 hT y0 y1 y2 y3 hle HX6
    go_wp2_with fail
    go_region
    all_goals go_wp2_with fail
    refine bodyPost_ret (v := .tuple #[.agg #[.int .i64 0, .int .i64 0, .string ⟨#[]⟩, .slice none 0 0], .bool false, .int .i64 (r.left : Int), .int .i64 (r.err : Int)]) ?_ rfl (HZ.out _ (nth_kc w2 w.heap.size zeroT (.slice none 0 0) _))
    obtain ⟨q0, q1, q2, q3⟩ := rm4_alloc (V := w2) (b := w.heap.size) ⟨⟨_, k0⟩, ⟨_, k1⟩, ⟨_, k2⟩, ⟨_, k3⟩, g0, g1, g2, g3⟩ (.int .i64 0) (.int .i64 0) (.string ⟨#[]⟩) (.slice none 0 0) (.cells #[.int .i64 (r.items.length : Int), .pointer (some ⟨p', 0, none⟩), .int .i64 (r.left : Int), .int .i64 (r.err : Int)] 88)
    simp [results, Tryz.results36, go_sem, q0, q1, q2, q3]
  · have hne : r.items ≠ [] := fun e => hle (by rw [e]; simp)
    obtain ⟨hlast, hmem⟩ := h2.resolve_left hne
    obtain ⟨au, cu, hu⟩ : ∃ au cu, u = .slice au x.items.length cu := by
      obtain ⟨Px, Ycx, _, _, _, _, _, _, _, h8⟩ := h7.ex
      obtain ⟨_, au, cu, hu, _⟩ := h8 (x, u) (by simpa using hmem)
      exact ⟨au, cu, hu⟩
    subst hu
    have HZ : Hid (∀ Z, KC (fun m => m = w.heap.size) w2 Z → NthPost pCK True Y w P vs.length n r (.returned (.tuple #[.agg #[.int .i64 x.kind, .int .i64 x.num, .string x.text, .slice au x.items.length cu], .bool true, .int .i64 (r.left : Int), .int .i64 0])) Z) := fun Z hZ => by
      obtain ⟨P', hA, _, _, hi⟩ := (hT Z hZ).aft HY.out
      obtain ⟨i1, a1, c1, i2, i3⟩ := hi _ hmem
      exact ⟨P', hA, .inr ⟨by omega, Hr.out (by omega), x, au, cu, hlast, rfl, i3, i1⟩⟩
    have hle2 : ¬ (r.items.length : Int) ≤ (n : Int) := by omega
    obtain ⟨k0, k1, k2, k3, g0, g1, g2, g3⟩ := hX2
    obtain ⟨m0, m1, m2, m3, _, _, _, _⟩ := h1
    clear hk h2 h5 h7 hT hle HX6 hne hlast hmem
    go_wp2_with fail
    go_region
    all_goals go_wp2_with fail
    all_goals refine bodyPost_ret (v := .tuple #[.agg #[.int .i64 x.kind, .int .i64 x.num, .string x.text, .slice au x.items.length cu], .bool true, .int .i64 (r.left : Int), .int .i64 0]) ?_ rfl (HZ.out _ (nth_kc w2 w.heap.size x (.slice au x.items.length cu) _))
    all_goals obtain ⟨q0, q1, q2, q3⟩ := rm4_alloc (V := w2) (b := w.heap.size) ⟨⟨_, k0⟩, ⟨_, k1⟩, ⟨_, k2⟩, ⟨_, k3⟩, g0, g1, g2, g3⟩ (.int .i64 x.kind) (.int .i64 x.num) (.string x.text) (.slice au x.items.length cu) (.cells #[.int .i64 (r.items.length : Int), .pointer (some ⟨p', 0, none⟩), .int .i64 (r.left : Int), .int .i64 (r.err : Int)] 88)
    all_goals simp [results, Tryz.results36, go_sem, q0, q1, q2, q3]

end Go.Proofs.YtbhfbjbigafnpaaGreat

namespace Go.Proofs.YtbhfbjbigafnpaaGreat
open Go.RowKit Go.Shelf

set_option maxRecDepth 100000 in
theorem take_bad (cv : Option Addr) (n f : Int) (h : (n < 0 ∨ 65536 < n) ∨ (f < 0 ∨ 1073741824 < f)) (w : World) : Calls Tryz.prog 33 #[.pointer cv, .int .i64 n, .int .i64 f] w fun e w' => e = .returned (.tuple #[.slice none 0 0, .int .i64 0, .int .i64 1]) ∧ Below w.heap.size w w' := by
  have HC : Hid (∀ V, Calls Tryz.prog 41 #[.int .i64 n, .int .i64 f] V fun e w' => e = .returned (.int .i64 1) ∧ w' = V) := fun V => scheck_bad n f h V
  have HB : Hid (Below w.heap.size w w) := Below.refl _ _
  clear h
  go_enter Tryz.func33, Tryz.ntmps33
  go_wp2_with fail
  refine Calls.mono (HC.out _) ?_
  rintro e w9 ⟨rfl, hw9⟩
  obtain rfl : w = w9 := hw9.symm
  clear hw9 HC
  go_wp2_with fail
  refine bodyPost_ret (v := .tuple #[.slice none 0 0, .int .i64 0, .int .i64 1]) ?_ rfl ⟨rfl, HB.out⟩
  simp [results, Tryz.results33, go_sem]

set_option maxRecDepth 100000 in
theorem count_bad (cv : Option Addr) (n f : Int) (h : (n < 0 ∨ 65536 < n) ∨ (f < 0 ∨ 1073741824 < f)) (w : World) : Calls Tryz.prog 39 #[.pointer cv, .int .i64 n, .int .i64 f] w fun e w' => e = .returned (.tuple #[.int .i64 0, .int .i64 0, .int .i64 1]) ∧ Below w.heap.size w w' := by
  have HC : Hid (∀ V, Calls Tryz.prog 41 #[.int .i64 n, .int .i64 f] V fun e w' => e = .returned (.int .i64 1) ∧ w' = V) := fun V => scheck_bad n f h V
  have HB : Hid (Below w.heap.size w w) := Below.refl _ _
  clear h
  go_enter Tryz.func39, Tryz.ntmps39
  go_wp2_with fail
  refine Calls.mono (HC.out _) ?_
  rintro e w9 ⟨rfl, hw9⟩
  obtain rfl : w = w9 := hw9.symm
  clear hw9 HC
  go_wp2_with fail
  refine bodyPost_ret (v := .tuple #[.int .i64 0, .int .i64 0, .int .i64 1]) ?_ rfl ⟨rfl, HB.out⟩
  simp [results, Tryz.results39, go_sem]

set_option maxRecDepth 100000 in
theorem drop_bad (cv : Option Addr) (n f : Int) (h : (n < 0 ∨ 65536 < n) ∨ (f < 0 ∨ 1073741824 < f)) (w : World) : Calls Tryz.prog 11 #[.pointer cv, .int .i64 n, .int .i64 f] w fun e w' => e = .returned (.tuple #[.pointer none, .int .i64 0, .int .i64 1]) ∧ Below w.heap.size w w' := by
  have HC : Hid (∀ V, Calls Tryz.prog 41 #[.int .i64 n, .int .i64 f] V fun e w' => e = .returned (.int .i64 1) ∧ w' = V) := fun V => scheck_bad n f h V
  have HB : Hid (Below w.heap.size w w) := Below.refl _ _
  clear h
  go_enter Tryz.func11, Tryz.ntmps11
  go_wp2_with fail
  refine Calls.mono (HC.out _) ?_
  rintro e w9 ⟨rfl, hw9⟩
  obtain rfl : w = w9 := hw9.symm
  clear hw9 HC
  go_wp2_with fail
  refine bodyPost_ret (v := .tuple #[.pointer none, .int .i64 0, .int .i64 1]) ?_ rfl ⟨rfl, HB.out⟩
  simp [results, Tryz.results11, go_sem]

set_option maxRecDepth 100000 in
theorem rtake_bad (cv : Option Addr) (n f : Int) (h : (n < 0 ∨ 65536 < n) ∨ (f < 0 ∨ 1073741824 < f)) (w : World) : Calls Tryz.prog 35 #[.pointer cv, .int .i64 n, .int .i64 f] w fun e w' => e = .returned (.tuple #[.slice none 0 0, .int .i64 0, .int .i64 1]) ∧ Below w.heap.size w w' := by
  have HC : Hid (∀ V, Calls Tryz.prog 44 #[.int .i64 n, .int .i64 f] V fun e w' => e = .returned (.int .i64 1) ∧ w' = V) := fun V => rasked_bad n f h V
  have HB : Hid (Below w.heap.size w w) := Below.refl _ _
  clear h
  go_enter Tryz.func35, Tryz.ntmps35
  go_wp2_with fail
  refine Calls.mono (HC.out _) ?_
  rintro e w9 ⟨rfl, hw9⟩
  obtain rfl : w = w9 := hw9.symm
  clear hw9 HC
  go_wp2_with fail
  refine bodyPost_ret (v := .tuple #[.slice none 0 0, .int .i64 0, .int .i64 1]) ?_ rfl ⟨rfl, HB.out⟩
  simp [results, Tryz.results35, go_sem]

set_option maxRecDepth 100000 in
theorem rdrop_bad (cv : Option Addr) (n f : Int) (h : (n < 0 ∨ 65536 < n) ∨ (f < 0 ∨ 1073741824 < f)) (w : World) : Calls Tryz.prog 12 #[.pointer cv, .int .i64 n, .int .i64 f] w fun e w' => e = .returned (.tuple #[.pointer none, .int .i64 0, .int .i64 1]) ∧ Below w.heap.size w w' := by
  have HC : Hid (∀ V, Calls Tryz.prog 44 #[.int .i64 n, .int .i64 f] V fun e w' => e = .returned (.int .i64 1) ∧ w' = V) := fun V => rasked_bad n f h V
  have HB : Hid (Below w.heap.size w w) := Below.refl _ _
  clear h
  go_enter Tryz.func12, Tryz.ntmps12
  go_wp2_with fail
  refine Calls.mono (HC.out _) ?_
  rintro e w9 ⟨rfl, hw9⟩
  obtain rfl : w = w9 := hw9.symm
  clear hw9 HC
  go_wp2_with fail
  refine bodyPost_ret (v := .tuple #[.pointer none, .int .i64 0, .int .i64 1]) ?_ rfl ⟨rfl, HB.out⟩
  simp [results, Tryz.results12, go_sem]

set_option maxRecDepth 100000 in
theorem rcount_bad (cv : Option Addr) (n f : Int) (h : (n < 0 ∨ 65536 < n) ∨ (f < 0 ∨ 1073741824 < f)) (w : World) : Calls Tryz.prog 40 #[.pointer cv, .int .i64 n, .int .i64 f] w fun e w' => e = .returned (.tuple #[.int .i64 0, .int .i64 0, .int .i64 1]) ∧ Below w.heap.size w w' := by
  have HC : Hid _ := rtake_bad cv n f h w
  clear h
  go_enter Tryz.func40, Tryz.ntmps40
  go_wp2_with fail
  refine Calls.mono HC.out ?_
  rintro e w2 ⟨rfl, hb⟩
  have HB : Hid (Below w.heap.size w w2) := hb
  clear hb HC
  go_wp2_with fail
  refine bodyPost_ret (v := .tuple #[.int .i64 0, .int .i64 0, .int .i64 1]) ?_ rfl ⟨rfl, HB.out⟩
  simp [results, Tryz.results40, go_sem]

set_option maxRecDepth 100000 in
set_option maxHeartbeats 4000000 in
theorem rnth_bad (cv : Option Addr) (n f : Int) (h : (n < 0 ∨ 65536 < n) ∨ (f < 0 ∨ 1073741824 < f)) (w : World) : Calls Tryz.prog 37 #[.pointer cv, .int .i64 n, .int .i64 f] w fun e w' => e = .returned (.tuple #[.agg #[.int .i64 0, .int .i64 0, .string ⟨#[]⟩, .slice none 0 0], .bool false, .int .i64 0, .int .i64 1]) ∧ Below w.heap.size w w' := by
  have hzb := zbox_below w
  have hzx := zbox_bx w
  have HC : Hid (∀ V, Calls Tryz.prog 12 #[.pointer cv, .int .i64 n, .int .i64 f] V fun e w' => e = .returned (.tuple #[.pointer none, .int .i64 0, .int .i64 1]) ∧ Below V.heap.size V w') := fun V => rdrop_bad cv n f h V
  obtain ⟨W, hW⟩ : ∃ W, W = zbox w := ⟨_, rfl⟩
  have HW : Hid (W = w.alloc (.cells #[.int .i64 0, .int .i64 0, .string ⟨#[]⟩, .slice none 0 0] 24)) := hW
  rw [← hW] at hzb hzx
  clear h hW
  go_enter Tryz.func37, Tryz.ntmps37
  go_upto_region 1 with fail
  rw [← HW.out]
  clear HW
  go_wp2_with fail
  refine Calls.mono (HC.out _) ?_
  rintro e w2 ⟨rfl, hb⟩
  have hx2 := hzx.keeps hb
  have HB : Hid (∀ Z, KC (fun m => m = w.heap.size) w2 Z → Below w.heap.size w Z) := fun Z hZ => (hzb.trans (hb.mono hzb.size)).trans (hZ.below (fun j hj => by omega) (Nat.le_trans hzb.size hb.size))
  obtain ⟨k0, k1, k2, k3, g0, g1, g2, g3⟩ := hx2
  clear hzb hzx hb HC
  go_wp2_with fail
  refine bodyPost_ret (v := .tuple #[.agg #[.int .i64 0, .int .i64 0, .string ⟨#[]⟩, .slice none 0 0], .bool false, .int .i64 0, .int .i64 1]) ?_ rfl ⟨rfl, HB.out _ (KC.put4 (B := fun m => m = w.heap.size) (o := 0) (KC.refl _ w2) (.inl rfl) zeroT (.slice none 0 0))⟩
  obtain ⟨q0, q1, q2, q3⟩ := rm4_put (V := w2) (b := w.heap.size) ⟨⟨_, k0⟩, ⟨_, k1⟩, ⟨_, k2⟩, ⟨_, k3⟩, g0, g1, g2, g3⟩ (.int .i64 0) (.int .i64 0) (.string ⟨#[]⟩) (.slice none 0 0)
  simp [results, Tryz.results37, go_sem, q0, q1, q2, q3]

set_option maxRecDepth 100000 in
set_option maxHeartbeats 4000000 in
theorem nth_bad (cv : Option Addr) (n f : Int) (h : (n < 0 ∨ 65536 < n) ∨ (f < 0 ∨ 1073741824 < f)) (w : World) : Calls Tryz.prog 36 #[.pointer cv, .int .i64 n, .int .i64 f] w fun e w' => e = .returned (.tuple #[.agg #[.int .i64 0, .int .i64 0, .string ⟨#[]⟩, .slice none 0 0], .bool false, .int .i64 0, .int .i64 1]) ∧ Below w.heap.size w w' := by
  have hzb := zbox_below w
  have hzx := zbox_bx w
  have HC : Hid (∀ V, Calls Tryz.prog 41 #[.int .i64 n, .int .i64 f] V fun e w' => e = .returned (.int .i64 1) ∧ Below V.heap.size V w') := fun V => Calls.mono (scheck_bad n f h V) (fun e w' hh => ⟨hh.1, by rw [hh.2]; exact Below.refl _ _⟩)
  obtain ⟨W, hW⟩ : ∃ W, W = zbox w := ⟨_, rfl⟩
  have HW : Hid (W = w.alloc (.cells #[.int .i64 0, .int .i64 0, .string ⟨#[]⟩, .slice none 0 0] 24)) := hW
  rw [← hW] at hzb hzx
  clear h hW
  go_enter Tryz.func36, Tryz.ntmps36
  go_upto_region 1 with fail
  rw [← HW.out]
  clear HW
  go_wp2_with fail
  refine Calls.mono (HC.out _) ?_
  rintro e w2 ⟨rfl, hb⟩
  have hx2 := hzx.keeps hb
  have HB : Hid (∀ Z, KC (fun m => m = w.heap.size) w2 Z → Below w.heap.size w Z) := fun Z hZ => (hzb.trans (hb.mono hzb.size)).trans (hZ.below (fun j hj => by omega) (Nat.le_trans hzb.size hb.size))
  obtain ⟨k0, k1, k2, k3, g0, g1, g2, g3⟩ := hx2
  clear hzb hzx hb HC
  go_wp2_with fail
  refine bodyPost_ret (v := .tuple #[.agg #[.int .i64 0, .int .i64 0, .string ⟨#[]⟩, .slice none 0 0], .bool false, .int .i64 0, .int .i64 1]) ?_ rfl ⟨rfl, HB.out _ (KC.put4 (B := fun m => m = w.heap.size) (o := 0) (KC.refl _ w2) (.inl rfl) zeroT (.slice none 0 0))⟩
  obtain ⟨q0, q1, q2, q3⟩ := rm4_put (V := w2) (b := w.heap.size) ⟨⟨_, k0⟩, ⟨_, k1⟩, ⟨_, k2⟩, ⟨_, k3⟩, g0, g1, g2, g3⟩ (.int .i64 0) (.int .i64 0) (.string ⟨#[]⟩) (.slice none 0 0)
  simp [results, Tryz.results36, go_sem, q0, q1, q2, q3]

end Go.Proofs.YtbhfbjbigafnpaaGreat

namespace Go.Proofs.YtbhfbjbigafnpaaGreat
open Go.RowKit Go.Shelf

/-- Both seqs, of one content; their cells are newer than the world w0. -/
def St23 (w0 : World) (c d : Nat) (vs : List VT) (T : Tl) (w : World) : Prop :=
  Below w0.heap.size w0 w ∧ ∃ (YP YD : Nat → Prop) (P Q : Nat → Nat), P 0 = c ∧ Q 0 = d ∧ Chn pCK YP w vs T P ∧ Chn dCK YD w vs T Q ∧ (∀ n, YP n → YD n → False) ∧ (∀ j, j ≤ vs.length → w0.heap.size ≤ P j) ∧ (∀ j, j ≤ vs.length → w0.heap.size ≤ Q j)

theorem St23.keeps {w0 : World} {c d : Nat} {vs : List VT} {T : Tl} {w V : World} (s : St23 w0 c d vs T w) (hV : Below w.heap.size w V) : St23 w0 c d vs T V := by
  obtain ⟨hb, YP, YD, P, Q, h1, h2, h3, h4, h5, h6, h7⟩ := s
  exact ⟨hb.trans (hV.mono hb.size), YP, YD, P, Q, h1, h2, h3.keeps hV, h4.keeps hV, h5, h6, h7⟩

/-- Behind the program's call: only the document's seq is as it was. -/
structure Mid23 (w0 : World) (c d : Nat) (vs : List VT) (T : Tl) (vs' : List VT) (T' : Tl) (X : Nat → Prop) (w : World) : Prop where
  below : Below w0.heap.size w0 w
  ex : ∃ (YP YD : Nat → Prop) (P Q : Nat → Nat), P 0 = c ∧ Q 0 = d ∧ Chn pCK YP w vs' T' P ∧ Chn dCK YD w vs T Q ∧ (∀ n, YP n → YD n → False) ∧ (∀ j, j ≤ vs'.length → w0.heap.size ≤ P j) ∧ (∀ j, j ≤ vs.length → w0.heap.size ≤ Q j) ∧ (∀ n, X n → ∀ j, j ≤ vs.length → n ≠ Q j)

/-- The program's call. -/
theorem St23.prog {w0 : World} {c d : Nat} {vs : List VT} {T : Tl} {w V : World} (s : St23 w0 c d vs T w) (hV : Below w.heap.size w V) : ∃ (Y : Nat → Prop) (P : Nat → Nat), P 0 = c ∧ Chn pCK Y V vs T P ∧ (∀ n, V.heap.size ≤ n → Y n) ∧ (∀ j, j ≤ vs.length → P j < w.heap.size) ∧ ∀ (r : SS) (P' : Nat → Nat) (w' : World), Aft pCK Y V P vs.length r P' w' → Mid23 w0 c d vs T r.vs r.T (fun n => w.heap.size ≤ n) w' := by
  obtain ⟨hb0, YP, YD, P, Q, h1, h2, h30, h40, h5, h6, h7⟩ := s
  have hb := hb0.trans (hV.mono hb0.size)
  have h3 := h30.keeps hV
  have h4 := h40.keeps hV
  refine ⟨fun n => (YP n ∧ n < V.heap.size) ∨ V.heap.size ≤ n, P, h1, h3.monoY (fun n hn hy => .inl ⟨hy, hn⟩), fun n hn => .inr hn, fun j hj => h30.lt j hj, fun r P' w' hA => ⟨?_, fun n => (YP n ∧ n < V.heap.size) ∨ V.heap.size ≤ n, fun n => YD n ∧ n < V.heap.size, P', Q, ?_, h2, hA.chn, ?_, ?_, fun j hj => ?_, h7, fun n hn j hj => ?_⟩⟩
  · exact hb.trans (hA.kc.below (fun j hj hh => by obtain ⟨i, hi, rfl⟩ := hh; have := h6 i hi; omega) hb.size)
  · rw [hA.old 0 (by omega)]; exact h1
  · exact (h4.monoY (fun n hn hy => ⟨hy, hn⟩)).kc hA.kc (fun n _ hn hh => by obtain ⟨i, hi, rfl⟩ := hh; exact h5 _ (h3.inY i hi) hn.1)
  · rintro n (hn | hn) hd
    · exact h5 n hn.1 hd.1
    · have := hd.2; omega
  · by_cases hjl : j ≤ vs.length
    · rw [hA.old j hjl]; exact h6 j hjl
    · exact Nat.le_trans hb.size (hA.new j (by omega) hj)
  · have := h40.lt j hj; omega

/-- Nothing was done. -/
theorem St23.mid {w0 : World} {c d : Nat} {vs : List VT} {T : Tl} {w w' : World} (s : St23 w0 c d vs T w) (hb' : Below w.heap.size w w') : Mid23 w0 c d vs T vs T (fun n => w.heap.size ≤ n) w' := by
  obtain ⟨hb, YP, YD, P, Q, h1, h2, h3, h4, h5, h6, h7⟩ := s
  refine ⟨hb.trans (hb'.mono hb.size), YP, YD, P, Q, h1, h2, h3.keeps hb', h4.keeps hb', h5, h6, h7, fun n hn j hj => ?_⟩
  have := h4.lt j hj; omega

theorem Mid23.keeps {w0 : World} {c d : Nat} {vs : List VT} {T : Tl} {vs' : List VT} {T' : Tl} {X : Nat → Prop} {w V : World} (s : Mid23 w0 c d vs T vs' T' X w) (hV : Below w.heap.size w V) : Mid23 w0 c d vs T vs' T' X V := by
  obtain ⟨YP, YD, P, Q, h1, h2, h3, h4, h5, h6, h7, h8⟩ := s.ex
  exact ⟨s.below.trans (hV.mono s.below.size), YP, YD, P, Q, h1, h2, h3.keeps hV, h4.keeps hV, h5, h6, h7, h8⟩

/-- The document's call. -/
theorem Mid23.doc {w0 : World} {c d : Nat} {vs : List VT} {T : Tl} {vs' : List VT} {T' : Tl} {X : Nat → Prop} {w : World} (s : Mid23 w0 c d vs T vs' T' X w) : ∃ (Y : Nat → Prop) (Q : Nat → Nat), Q 0 = d ∧ Chn dCK Y w vs T Q ∧ (∀ n, w.heap.size ≤ n → Y n) ∧ (∀ n, X n → ∀ j, j ≤ vs.length → n ≠ Q j) ∧ ∀ (r : SS) (Q' : Nat → Nat) (w' : World), Aft dCK Y w Q vs.length r Q' w' → r.vs = vs' → r.T = T' → St23 w0 c d vs' T' w' := by
  obtain ⟨YP, YD, P, Q, h1, h2, h3, h4, h5, h6, h7, h8⟩ := s.ex
  refine ⟨fun n => (YD n ∧ n < w.heap.size) ∨ w.heap.size ≤ n, Q, h2, h4.monoY (fun n hn hy => .inl ⟨hy, hn⟩), fun n hn => .inr hn, h8, fun r Q' w' hA e1 e2 => ⟨?_, fun n => YP n ∧ n < w.heap.size, fun n => (YD n ∧ n < w.heap.size) ∨ w.heap.size ≤ n, P, Q', h1, ?_, ?_, ?_, ?_, h6, fun j hj => ?_⟩⟩
  · exact s.below.trans (hA.kc.below (fun j hj hh => by obtain ⟨i, hi, rfl⟩ := hh; have := h7 i hi; omega) s.below.size)
  · rw [hA.old 0 (by omega)]; exact h2
  · exact (h3.monoY (fun n hn hy => ⟨hy, hn⟩)).kc hA.kc (fun n _ hn hh => by obtain ⟨i, hi, rfl⟩ := hh; exact h5 _ hn.1 (h4.inY i hi))
  · rw [← e1, ← e2]; exact hA.chn
  · rintro n hn (hd | hd)
    · exact h5 n hn.1 hd.1
    · have := hn.2; omega
  · by_cases hjl : j ≤ vs.length
    · rw [hA.old j hjl]; exact h7 j hjl
    · exact Nat.le_trans s.below.size (hA.new j (by omega) (by rw [e1]; exact hj))

/-- The program's call that leaves another seq: what is behind. -/
theorem St23.prog2 {w0 : World} {c d : Nat} {vs : List VT} {T : Tl} {w V : World} (s : St23 w0 c d vs T w) (hV : Below w.heap.size w V) : ∃ (Y : Nat → Prop) (P : Nat → Nat), P 0 = c ∧ Chn pCK Y V vs T P ∧ (∀ n, V.heap.size ≤ n → Y n) ∧ (∀ j, j ≤ vs.length → P j < w.heap.size) ∧ ∀ (r : SS) (P' : Nat → Nat) (w' : World), Aft pCK Y V P vs.length r P' w' → (Mid23 w0 c d vs T r.vs r.T (fun n => w.heap.size ≤ n) w' ∧ ∀ (vs2 : List VT) (T2 : Tl) (P2 : Nat → Nat), Chn pCK Y w' vs2 T2 P2 → (∀ j, j ≤ vs2.length → (∃ i, i ≤ r.vs.length ∧ P2 j = P' i) ∨ V.heap.size ≤ P2 j) → Mid23 w0 (P2 0) d vs T vs2 T2 (fun n => w.heap.size ≤ n) w') := by
  obtain ⟨hb0, YP, YD, P, Q, h1, h2, h30, h40, h5, h6, h7⟩ := s
  have hb := hb0.trans (hV.mono hb0.size)
  have h3 := h30.keeps hV
  have h4 := h40.keeps hV
  have key : ∀ (r : SS) (P' : Nat → Nat) (w' : World), Aft pCK (fun n => (YP n ∧ n < V.heap.size) ∨ V.heap.size ≤ n) V P vs.length r P' w' → ∀ (vs2 : List VT) (T2 : Tl) (P2 : Nat → Nat), Chn pCK (fun n => (YP n ∧ n < V.heap.size) ∨ V.heap.size ≤ n) w' vs2 T2 P2 → (∀ j, j ≤ vs2.length → (∃ i, i ≤ r.vs.length ∧ P2 j = P' i) ∨ V.heap.size ≤ P2 j) → Mid23 w0 (P2 0) d vs T vs2 T2 (fun n => w.heap.size ≤ n) w' := fun r P' w' hA vs2 T2 P2 hC hj2 => by
    refine ⟨?_, fun n => (YP n ∧ n < V.heap.size) ∨ V.heap.size ≤ n, fun n => YD n ∧ n < V.heap.size, P2, Q, rfl, h2, hC, ?_, ?_, fun j hj => ?_, h7, fun n hn j hj => ?_⟩
    · exact hb.trans (hA.kc.below (fun j hj hh => by obtain ⟨i, hi, rfl⟩ := hh; have := h6 i hi; omega) hb.size)
    · exact (h4.monoY (fun n hn hy => ⟨hy, hn⟩)).kc hA.kc (fun n _ hn hh => by obtain ⟨i, hi, rfl⟩ := hh; exact h5 _ (h3.inY i hi) hn.1)
    · rintro n (hn | hn) hd
      · exact h5 n hn.1 hd.1
      · have := hd.2; omega
    · rcases hj2 j hj with ⟨i, hi, e⟩ | h
      · rw [e]
        by_cases hil : i ≤ vs.length
        · rw [hA.old i hil]; exact h6 i hil
        · exact Nat.le_trans hb.size (hA.new i (by omega) hi)
      · exact Nat.le_trans hb.size h
    · have := h40.lt j hj; omega
  refine ⟨fun n => (YP n ∧ n < V.heap.size) ∨ V.heap.size ≤ n, P, h1, h3.monoY (fun n hn hy => .inl ⟨hy, hn⟩), fun n hn => .inr hn, fun j hj => h30.lt j hj, fun r P' w' hA => ⟨?_, key r P' w' hA⟩⟩
  have h9 := key r P' w' hA r.vs r.T P' hA.chn (fun j hj => .inl ⟨j, hj, rfl⟩)
  rw [hA.old 0 (by omega), h1] at h9
  exact h9

/-- The document's call that leaves another seq. -/
theorem Mid23.doc2 {w0 : World} {c d : Nat} {vs : List VT} {T : Tl} {vs' : List VT} {T' : Tl} {X : Nat → Prop} {w : World} (s : Mid23 w0 c d vs T vs' T' X w) : ∃ (Y : Nat → Prop) (Q : Nat → Nat), Q 0 = d ∧ Chn dCK Y w vs T Q ∧ (∀ n, w.heap.size ≤ n → Y n) ∧ (∀ n, X n → ∀ j, j ≤ vs.length → n ≠ Q j) ∧ ∀ (r : SS) (Q' : Nat → Nat) (w' : World), Aft dCK Y w Q vs.length r Q' w' → ((r.vs = vs' → r.T = T' → St23 w0 c d vs' T' w') ∧ ∀ (Q2 : Nat → Nat), Chn dCK Y w' vs' T' Q2 → (∀ j, j ≤ vs'.length → (∃ i, i ≤ r.vs.length ∧ Q2 j = Q' i) ∨ w.heap.size ≤ Q2 j) → St23 w0 c (Q2 0) vs' T' w') := by
  obtain ⟨YP, YD, P, Q, h1, h2, h3, h4, h5, h6, h7, h8⟩ := s.ex
  have key : ∀ (r : SS) (Q' : Nat → Nat) (w' : World), Aft dCK (fun n => (YD n ∧ n < w.heap.size) ∨ w.heap.size ≤ n) w Q vs.length r Q' w' → ∀ (Q2 : Nat → Nat), Chn dCK (fun n => (YD n ∧ n < w.heap.size) ∨ w.heap.size ≤ n) w' vs' T' Q2 → (∀ j, j ≤ vs'.length → (∃ i, i ≤ r.vs.length ∧ Q2 j = Q' i) ∨ w.heap.size ≤ Q2 j) → St23 w0 c (Q2 0) vs' T' w' := fun r Q' w' hA Q2 hC hj2 => by
    refine ⟨?_, fun n => YP n ∧ n < w.heap.size, fun n => (YD n ∧ n < w.heap.size) ∨ w.heap.size ≤ n, P, Q2, h1, rfl, ?_, hC, ?_, h6, fun j hj => ?_⟩
    · exact s.below.trans (hA.kc.below (fun j hj hh => by obtain ⟨i, hi, rfl⟩ := hh; have := h7 i hi; omega) s.below.size)
    · exact (h3.monoY (fun n hn hy => ⟨hy, hn⟩)).kc hA.kc (fun n _ hn hh => by obtain ⟨i, hi, rfl⟩ := hh; exact h5 _ hn.1 (h4.inY i hi))
    · rintro n hn (hd | hd)
      · exact h5 n hn.1 hd.1
      · have := hn.2; omega
    · rcases hj2 j hj with ⟨i, hi, e⟩ | h
      · rw [e]
        by_cases hil : i ≤ vs.length
        · rw [hA.old i hil]; exact h7 i hil
        · exact Nat.le_trans s.below.size (hA.new i (by omega) hi)
      · exact Nat.le_trans s.below.size h
  refine ⟨fun n => (YD n ∧ n < w.heap.size) ∨ w.heap.size ≤ n, Q, h2, h4.monoY (fun n hn hy => .inl ⟨hy, hn⟩), fun n hn => .inr hn, h8, fun r Q' w' hA => ⟨fun e1 e2 => ?_, key r Q' w' hA⟩⟩
  have h9 := key r Q' w' hA Q' (by rw [← e1, ← e2]; exact hA.chn) (fun j hj => .inl ⟨j, by rw [e1]; exact hj, rfl⟩)
  rw [hA.old 0 (by omega), h2] at h9
  exact h9

/-- Numbers are right, or they are not. -/
theorem nums_or (n f : Int) : ((n < 0 ∨ 65536 < n) ∨ (f < 0 ∨ 1073741824 < f)) ∨ ∃ (n' f' : Nat), n = (n' : Int) ∧ f = (f' : Int) ∧ n' ≤ 65536 ∧ f' ≤ 1073741824 := by
  by_cases h : (n < 0 ∨ 65536 < n) ∨ (f < 0 ∨ 1073741824 < f)
  · exact .inl h
  · exact .inr ⟨n.toNat, f.toNat, by omega, by omega, by omega, by omega⟩

/-- What stays while the program's seq is asked: blocks that were made behind w. -/
abbrev Kp23 (w V w' : World) : Prop := KC (fun n => n < w.heap.size) V w'

theorem St23.take {w0 : World} {c d : Nat} {vs : List VT} {T : Tl} {w V : World} (s : St23 w0 c d vs T w) (hV : Below w.heap.size w V) (n f : Int) :
    Calls Tryz.prog 33 #[.pointer (some ⟨c, 0, none⟩), .int .i64 n, .int .i64 f] V fun e w' => Kp23 w V w' ∧ ∃ (a : Option Addr) (l k : Nat) (left E : Int), e = .returned (.tuple #[.slice a l k, .int .i64 left, .int .i64 E]) ∧ Calls Tryz.prog 35 #[.pointer (some ⟨d, 0, none⟩), .int .i64 n, .int .i64 f] w' fun e2 w2 => Kp23 w w' w2 ∧ ∃ (a2 : Option Addr) (l2 k2 : Nat) (vs' : List VT) (T' : Tl), e2 = .returned (.tuple #[.slice a2 l2 k2, .int .i64 left, .int .i64 E]) ∧ St23 w0 c d vs' T' w2 ∧ Calls Tryz.prog 21 #[.slice a l k, .slice a2 l2 k2] w2 fun e3 w3 => e3 = .returned (.bool true) ∧ Below w2.heap.size w2 w3 := by
  rcases nums_or n f with hbad | ⟨n', f', rfl, rfl, hn, hf⟩
  · refine Calls.mono (take_bad _ n f hbad V) ?_
    rintro e w' ⟨rfl, hb⟩
    have hm := (s.keeps hV).mid hb
    refine ⟨KC.of_below hb, none, 0, 0, 0, 1, rfl, Calls.mono (rtake_bad _ n f hbad w') ?_⟩
    rintro e2 w2 ⟨rfl, hb2⟩
    exact ⟨KC.of_below hb2, none, 0, 0, vs, T, rfl, ((s.keeps hV).keeps hb).keeps hb2, values_one 16 [] _ _ w2 ⟨none, 0, rfl, by simp, fun h => absurd rfl h⟩ ⟨none, 0, rfl, by simp, fun h => absurd rfl h⟩ (by simp)⟩
  · obtain ⟨Y, P, rfl, hC, hY, hlt0, hmid⟩ := s.prog hV
    refine Calls.mono (take_any Y vs T P n' f' hn hf V hC hY) ?_
    rintro e w' ⟨P', hA, hres⟩
    have hM := hmid _ P' w' hA
    have hkp : Kp23 w V w' := hA.kc.mono (fun j _ hh => by obtain ⟨i, hi, rfl⟩ := hh; exact hlt0 i hi)
    obtain ⟨YD, Q, rfl, hD, hYD, hXQ, hst⟩ := hM.doc
    have hkd : ∀ (a b : World), KC (fun j => ∃ i, i ≤ vs.length ∧ j = Q i) a b → Kp23 w a b := fun a b hk => hk.mono (fun j _ hh => by obtain ⟨i, hi, rfl⟩ := hh; exact Nat.lt_of_not_le (fun h => hXQ _ h i hi rfl))
    have hdoc := rtake_any YD vs T Q n' f' hn hf w' hD hYD
    generalize hr : wlk frcC n' ⟨vs, T, 0⟩ f' = r at *
    have hrl : r.items.length ≤ 65536 := by rw [← hr]; exact Nat.le_trans (wlk_le n' _ f').1 hn
    rcases hres with ⟨he, rfl⟩ | ⟨he, a, k, rfl, hl, _⟩
    · refine ⟨hkp, none, 0, 0, 0, r.err, rfl, Calls.mono hdoc ?_⟩
      rintro e2 w2 ⟨Q', hA2, ⟨_, rfl⟩ | ⟨he2, _⟩⟩
      · exact ⟨hkd _ _ hA2.kc, none, 0, 0, r.s.vs, r.s.T, rfl, hst _ Q' w2 hA2 rfl rfl, values_one 16 [] _ _ w2 ⟨none, 0, rfl, by simp, fun h => absurd rfl h⟩ ⟨none, 0, rfl, by simp, fun h => absurd rfl h⟩ (by simp)⟩
      · exact absurd he2 he
    · refine ⟨hkp, a, r.items.length, k, r.left, 0, rfl, Calls.mono hdoc ?_⟩
      rintro e2 w2 ⟨Q', hA2, ⟨he2, _⟩ | ⟨_, a2, k2, rfl, hl2, _⟩⟩
      · exact absurd he he2
      · refine ⟨hkd _ _ hA2.kc, a2, r.items.length, k2, r.s.vs, r.s.T, rfl, hst _ Q' w2 hA2 rfl rfl, values_one 16 r.items _ _ w2 (hA2.kc.liesX (fun n hn hh => ?_) hl).lies hl2.lies hrl⟩
        obtain ⟨i, hi, rfl⟩ := hh
        exact hXQ _ (Nat.le_trans hV.size (hn.1 trivial)) i hi rfl

theorem St23.count {w0 : World} {c d : Nat} {vs : List VT} {T : Tl} {w V : World} (s : St23 w0 c d vs T w) (hV : Below w.heap.size w V) (n f : Int) :
    Calls Tryz.prog 39 #[.pointer (some ⟨c, 0, none⟩), .int .i64 n, .int .i64 f] V fun e w' => Kp23 w V w' ∧ ∃ (l left E : Int), e = .returned (.tuple #[.int .i64 l, .int .i64 left, .int .i64 E]) ∧ Calls Tryz.prog 40 #[.pointer (some ⟨d, 0, none⟩), .int .i64 n, .int .i64 f] w' fun e2 w2 => Kp23 w w' w2 ∧ ∃ (vs' : List VT) (T' : Tl), e2 = .returned (.tuple #[.int .i64 l, .int .i64 left, .int .i64 E]) ∧ St23 w0 c d vs' T' w2 := by
  rcases nums_or n f with hbad | ⟨n', f', rfl, rfl, hn, hf⟩
  · refine Calls.mono (count_bad _ n f hbad V) ?_
    rintro e w' ⟨rfl, hb⟩
    refine ⟨KC.of_below hb, 0, 0, 1, rfl, Calls.mono (rcount_bad _ n f hbad w') ?_⟩
    rintro e2 w2 ⟨rfl, hb2⟩
    exact ⟨KC.of_below hb2, vs, T, rfl, ((s.keeps hV).keeps hb).keeps hb2⟩
  · obtain ⟨Y, P, rfl, hC, hY, hlt0, hmid⟩ := s.prog hV
    refine Calls.mono (count_any Y vs T P n' f' hn hf V hC hY) ?_
    rintro e w' ⟨P', hA, hres⟩
    have hM := hmid _ P' w' hA
    have hkp : Kp23 w V w' := hA.kc.mono (fun j _ hh => by obtain ⟨i, hi, rfl⟩ := hh; exact hlt0 i hi)
    obtain ⟨YD, Q, rfl, hD, hYD, hXQ, hst⟩ := hM.doc
    have hkd : ∀ (a b : World), KC (fun j => ∃ i, i ≤ vs.length ∧ j = Q i) a b → Kp23 w a b := fun a b hk => hk.mono (fun j _ hh => by obtain ⟨i, hi, rfl⟩ := hh; exact Nat.lt_of_not_le (fun h => hXQ _ h i hi rfl))
    have hdoc := rcount_any YD vs T Q n' f' hn hf w' hD hYD
    generalize wlk frcC n' ⟨vs, T, 0⟩ f' = r at *
    rcases hres with ⟨he, rfl⟩ | ⟨he, rfl⟩
    · refine ⟨hkp, 0, 0, r.err, rfl, Calls.mono hdoc ?_⟩
      rintro e2 w2 ⟨Q', hA2, ⟨_, rfl⟩ | ⟨he2, _⟩⟩
      · exact ⟨hkd _ _ hA2.kc, r.s.vs, r.s.T, rfl, hst _ Q' w2 hA2 rfl rfl⟩
      · exact absurd he2 he
    · refine ⟨hkp, r.items.length, r.left, 0, rfl, Calls.mono hdoc ?_⟩
      rintro e2 w2 ⟨Q', hA2, ⟨he2, _⟩ | ⟨_, rfl⟩⟩
      · exact absurd he he2
      · exact ⟨hkd _ _ hA2.kc, r.s.vs, r.s.T, rfl, hst _ Q' w2 hA2 rfl rfl⟩

theorem St23.nth {w0 : World} {c d : Nat} {vs : List VT} {T : Tl} {w V : World} (s : St23 w0 c d vs T w) (hV : Below w.heap.size w V) (n f : Int) :
    Calls Tryz.prog 36 #[.pointer (some ⟨c, 0, none⟩), .int .i64 n, .int .i64 f] V fun e w' => Kp23 w V w' ∧ ∃ (x : VT) (a : Option Addr) (k : Nat) (t : Bool) (left E : Int), e = .returned (.tuple #[.agg #[.int .i64 x.kind, .int .i64 x.num, .string x.text, .slice a x.items.length k], .bool t, .int .i64 left, .int .i64 E]) ∧ ∀ V', Below w'.heap.size w' V' → Calls Tryz.prog 37 #[.pointer (some ⟨d, 0, none⟩), .int .i64 n, .int .i64 f] V' fun e2 w2 => Kp23 w V' w2 ∧ ∃ (a2 : Option Addr) (k2 : Nat) (vs' : List VT) (T' : Tl), e2 = .returned (.tuple #[.agg #[.int .i64 x.kind, .int .i64 x.num, .string x.text, .slice a2 x.items.length k2], .bool t, .int .i64 left, .int .i64 E]) ∧ St23 w0 c d vs' T' w2 ∧ Lies 16 w2 x.items (.slice a x.items.length k) ∧ Lies 16 w2 x.items (.slice a2 x.items.length k2) := by
  have hz : ∀ (W : World) (a : Option Addr) (k : Nat), Lies 16 W zeroT.items (.slice a zeroT.items.length k) := fun W a k => ⟨a, k, rfl, by simp, fun h => absurd rfl h⟩
  rcases nums_or n f with hbad | ⟨n', f', rfl, rfl, hn, hf⟩
  · refine Calls.mono (nth_bad _ n f hbad V) ?_
    rintro e w' ⟨rfl, hb⟩
    refine ⟨KC.of_below hb, zeroT, none, 0, false, 0, 1, rfl, fun V' hV' => Calls.mono (rnth_bad _ n f hbad V') ?_⟩
    rintro e2 w2 ⟨rfl, hb2⟩
    exact ⟨KC.of_below hb2, none, 0, vs, T, rfl, (((s.keeps hV).keeps hb).keeps hV').keeps hb2, hz _ _ _, hz _ _ _⟩
  · obtain ⟨Y, P, rfl, hC, hY, hlt0, hmid⟩ := s.prog hV
    refine Calls.mono (nth_any Y vs T P n' f' hn hf V hC hY) ?_
    rintro e w' ⟨P', hA, hres⟩
    have hkp : Kp23 w V w' := hA.kc.mono (fun j _ hh => by obtain ⟨i, hi, rfl⟩ := hh; exact hlt0 i hi)
    have hM0 := hmid _ P' w' hA
    have hdoc : ∀ V', Below w'.heap.size w' V' → Calls Tryz.prog 37 #[.pointer (some ⟨d, 0, none⟩), .int .i64 (n' : Int), .int .i64 (f' : Int)] V' fun e2 w2 => ∃ (Y : Nat → Prop) (Q : Nat → Nat), NthPost dCK False Y V' Q vs.length n' (wlk frcC (n' + 1) ⟨vs, T, 0⟩ f') e2 w2 ∧ (∀ n, w.heap.size ≤ n → ∀ j, j ≤ vs.length → n ≠ Q j) ∧ ∀ Q', Aft dCK Y V' Q vs.length (wlk frcC (n' + 1) ⟨vs, T, 0⟩ f').s Q' w2 → St23 w0 (P 0) d (wlk frcC (n' + 1) ⟨vs, T, 0⟩ f').s.vs (wlk frcC (n' + 1) ⟨vs, T, 0⟩ f').s.T w2 := fun V' hV' => by
      obtain ⟨YD, Q, rfl, hD, hYD, hXQ, hst⟩ := (hM0.keeps hV').doc
      exact Calls.mono (rnth_any YD vs T Q n' f' hn hf V' hD hYD) fun e2 w2 hp => ⟨YD, Q, hp, hXQ, fun Q' hA2 => hst _ Q' w2 hA2 rfl rfl⟩
    generalize wlk frcC (n' + 1) ⟨vs, T, 0⟩ f' = r at *
    have hkd : ∀ (Q : Nat → Nat), (∀ n, w.heap.size ≤ n → ∀ j, j ≤ vs.length → n ≠ Q j) → ∀ (a b : World), KC (fun j => ∃ i, i ≤ vs.length ∧ j = Q i) a b → Kp23 w a b := fun Q hXQ a b hk => hk.mono (fun j _ hh => by obtain ⟨i, hi, rfl⟩ := hh; exact Nat.lt_of_not_le (fun h => hXQ _ h i hi rfl))
    rcases hres with ⟨hle, a, k, rfl⟩ | ⟨hlt, he, x, a, k, hlast, rfl, hl, _⟩
    · refine ⟨hkp, zeroT, a, k, false, r.left, r.err, rfl, fun V' hV' => Calls.mono (hdoc V' hV') ?_⟩
      rintro e2 w2 ⟨YD, Q, ⟨Q', hA2, ⟨_, a2, k2, rfl⟩ | ⟨hlt2, _⟩⟩, hXQ, hst⟩
      · exact ⟨hkd Q hXQ _ _ hA2.kc, a2, k2, r.s.vs, r.s.T, rfl, hst Q' hA2, hz _ _ _, hz _ _ _⟩
      · omega
    · refine ⟨hkp, x, a, k, true, r.left, 0, rfl, fun V' hV' => Calls.mono (hdoc V' hV') ?_⟩
      rintro e2 w2 ⟨YD, Q, ⟨Q', hA2, ⟨hle2, _⟩ | ⟨_, _, x2, a2, k2, hlast2, rfl, hl2, _⟩⟩, hXQ, hst⟩
      · omega
      · obtain rfl : x = x2 := by rw [hlast] at hlast2; injection hlast2
        refine ⟨hkd Q hXQ _ _ hA2.kc, a2, k2, r.s.vs, r.s.T, rfl, hst Q' hA2, (hA2.kc.liesX (fun n hn hh => ?_) (hl.keeps hV')).lies, hl2.lies⟩
        obtain ⟨i, hi, rfl⟩ := hh
        exact hXQ _ (Nat.le_trans hV.size (hn.1 trivial)) i hi rfl

theorem St23.drop {w0 : World} {c d : Nat} {vs : List VT} {T : Tl} {w V : World} (s : St23 w0 c d vs T w) (hV : Below w.heap.size w V) (n f : Int) :
    Calls Tryz.prog 11 #[.pointer (some ⟨c, 0, none⟩), .int .i64 n, .int .i64 f] V fun e w' => Kp23 w V w' ∧ ∃ (pd : Option Addr) (left E : Int), e = .returned (.tuple #[.pointer pd, .int .i64 left, .int .i64 E]) ∧ Calls Tryz.prog 12 #[.pointer (some ⟨d, 0, none⟩), .int .i64 n, .int .i64 f] w' fun e2 w2 => Kp23 w w' w2 ∧ ∃ (pd2 : Option Addr) (vs' : List VT) (T' : Tl), e2 = .returned (.tuple #[.pointer pd2, .int .i64 left, .int .i64 E]) ∧ ((E ≠ 0 ∧ pd = none ∧ pd2 = none ∧ St23 w0 c d vs' T' w2) ∨ (E = 0 ∧ ∃ c' d', pd = some ⟨c', 0, none⟩ ∧ pd2 = some ⟨d', 0, none⟩ ∧ St23 w0 c' d' vs' T' w2)) := by
  rcases nums_or n f with hbad | ⟨n', f', rfl, rfl, hn, hf⟩
  · refine Calls.mono (drop_bad _ n f hbad V) ?_
    rintro e w' ⟨rfl, hb⟩
    refine ⟨KC.of_below hb, none, 0, 1, rfl, Calls.mono (rdrop_bad _ n f hbad w') ?_⟩
    rintro e2 w2 ⟨rfl, hb2⟩
    exact ⟨KC.of_below hb2, none, vs, T, rfl, .inl ⟨by omega, rfl, rfl, ((s.keeps hV).keeps hb).keeps hb2⟩⟩
  · obtain ⟨Y, P, rfl, hC, hY, hlt0, hmid⟩ := s.prog2 hV
    refine Calls.mono (drop_any Y vs T P n' f' hn hf V hC hY) ?_
    rintro e w' ⟨P', hA, hres⟩
    have hkp : Kp23 w V w' := hA.kc.mono (fun j _ hh => by obtain ⟨i, hi, rfl⟩ := hh; exact hlt0 i hi)
    obtain ⟨hM, hM2⟩ := hmid _ P' w' hA
    generalize hr : wlk frcC n' ⟨vs, T, 0⟩ f' = r at *
    rcases hres with ⟨he, rfl⟩ | ⟨he, P2, rfl, hc2, _, hj2⟩
    · obtain ⟨YD, Q, rfl, hD, hYD, hXQ, hst⟩ := hM.doc2
      have hkd : ∀ (a b : World), KC (fun j => ∃ i, i ≤ vs.length ∧ j = Q i) a b → Kp23 w a b := fun a b hk => hk.mono (fun j _ hh => by obtain ⟨i, hi, rfl⟩ := hh; exact Nat.lt_of_not_le (fun h => hXQ _ h i hi rfl))
      have hdoc := rdrop_any YD vs T Q n' f' hn hf w' hD hYD
      rw [hr] at hdoc
      refine ⟨hkp, none, 0, r.err, rfl, Calls.mono hdoc ?_⟩
      rintro e2 w2 ⟨Q', hA2, ⟨_, rfl⟩ | ⟨he2, _⟩⟩
      · exact ⟨hkd _ _ hA2.kc, none, r.s.vs, r.s.T, rfl, .inl ⟨by omega, rfl, rfl, (hst _ Q' w2 hA2).1 rfl rfl⟩⟩
      · exact absurd he2 he
    · obtain ⟨YD, Q, rfl, hD, hYD, hXQ, hst⟩ := (hM2 _ _ P2 hc2 hj2).doc2
      have hkd : ∀ (a b : World), KC (fun j => ∃ i, i ≤ vs.length ∧ j = Q i) a b → Kp23 w a b := fun a b hk => hk.mono (fun j _ hh => by obtain ⟨i, hi, rfl⟩ := hh; exact Nat.lt_of_not_le (fun h => hXQ _ h i hi rfl))
      have hdoc := rdrop_any YD vs T Q n' f' hn hf w' hD hYD
      rw [hr] at hdoc
      refine ⟨hkp, _, r.left, 0, rfl, Calls.mono hdoc ?_⟩
      rintro e2 w2 ⟨Q', hA2, ⟨he2, _⟩ | ⟨_, Q2, rfl, hd2, _, hk2⟩⟩
      · exact absurd he he2
      · exact ⟨hkd _ _ hA2.kc, _, r.s.vs.drop r.s.i, r.s.T, rfl, .inr ⟨rfl, _, _, rfl, rfl, (hst _ Q' w2 hA2).2 Q2 hd2 hk2⟩⟩

end Go.Proofs.YtbhfbjbigafnpaaGreat

