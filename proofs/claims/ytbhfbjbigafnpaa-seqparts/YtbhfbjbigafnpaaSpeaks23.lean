/-
  The little program of chapter 23's statements.
-/
import Derived.Test.YtbhfbjbigafnpaaTakeJ
import Derived.Test.YtbhfbjbigafnpaaRNthM
import Derived.BigQuiet
import Derived.Test.YtbhfbjbigafnpaaVals
import Derived.Test.YtbhfbjbigafnpaaSame
import Derived.Test.YtbhfbjbigafnpaaConsM
import Derived.Test.YtbhfbjbigafnpaaUtf
namespace Go.Proofs.Ytbhfbjbigafnpaa
open Go.RowKit Go.Shelf

set_option maxRecDepth 100000 in
theorem scheck_ok (n f : Nat) (hn : n ≤ 65536) (hf : f ≤ 1073741824) (w : World) : Calls Try.prog 23 #[.int .i64 (n : Int), .int .i64 (f : Int)] w fun e w' => e = .returned (.int .i64 0) ∧ w' = w := by
  have h1 : ¬ (n : Int) < 0 := by omega
  have h2 : ¬ (65536 : Int) < (n : Int) := by omega
  have h3 : ¬ (f : Int) < 0 := by omega
  have h4 : ¬ (1073741824 : Int) < (f : Int) := by omega
  go_enter Try.func23, Try.ntmps23
  go_wp2_with fail
  go_ret
  exact ⟨rfl, rfl⟩

set_option maxRecDepth 100000 in
theorem scheck_bad (n f : Int) (h : (n < 0 ∨ 65536 < n) ∨ (f < 0 ∨ 1073741824 < f)) (w : World) : Calls Try.prog 23 #[.int .i64 n, .int .i64 f] w fun e w' => e = .returned (.int .i64 1) ∧ w' = w := by
  by_cases h1 : n < 0
  · go_enter Try.func23, Try.ntmps23
    go_wp2_with fail
    go_ret
    exact ⟨rfl, rfl⟩
  · by_cases h2 : 65536 < n
    · go_enter Try.func23, Try.ntmps23
      go_wp2_with fail
      go_ret
      exact ⟨rfl, rfl⟩
    · by_cases h3 : f < 0
      · clear h
        go_enter Try.func23, Try.ntmps23
        go_wp2_with fail
        go_ret
        exact ⟨rfl, rfl⟩
      · have h4 : 1073741824 < f := by omega
        clear h
        go_enter Try.func23, Try.ntmps23
        go_wp2_with fail
        go_ret
        exact ⟨rfl, rfl⟩

set_option maxRecDepth 100000 in
set_option maxHeartbeats 8000000 in
theorem take_any (Y : Nat → Prop) (vs : List VT) (T : Tl) (P : Nat → Nat) (n f : Nat) (hn : n ≤ 65536) (hf : f ≤ 1073741824) (w : World) (h : Chn pCK Y w vs T P) (hY : ∀ n, w.heap.size ≤ n → Y n) :
    Calls Try.prog 8 #[.pointer (some ⟨P 0, 0, none⟩), .int .i64 (n : Int), .int .i64 (f : Int)] w (TakePost pCK True Y w P vs.length (wlk frcC n ⟨vs, T, 0⟩ f)) := by
  have HC : Hid (∀ V, Calls Try.prog 23 #[.int .i64 (n : Int), .int .i64 (f : Int)] V fun e w' => e = .returned (.int .i64 0) ∧ w' = V) := fun V => scheck_ok n f hn hf V
  have eg : ∀ args w, (callFunc 25 args).run Try.prog w = .ok (.enter 25 args) w := enters_of Try.func25 (by kernel_rfl) rfl
  have hb0 : Below w.heap.size w (w.alloc (.cells #[.slice none 0 0] 22)) := ((Grew.refl w).alloc _).below
  have hT0 : Tk pCK True Y (fun n => False ∨ (w.heap.size ≤ n ∧ n < (w.alloc (.cells #[.slice none 0 0] 22)).heap.size)) w P vs.length ⟨vs, T, 0⟩ (P 0) (w.alloc (.cells #[.slice none 0 0] 22)) [] := (Tk.start h 0 (by omega)).k2 hb0
  have hJ : JT w.heap.size Y w P vs.length (fun _ => False) ⟨vs, T, 0⟩ (P 0) [] none (w.alloc (.cells #[.slice none 0 0] 22)) := by
    refine ⟨none, 0, [], rfl, World.ownsRow_nil _ _ _ _, by simp, by simp, fun h => h, fun g hg => by simp [Value.ownBlock] at hg, hT0.k3 (fun m hm => ?_)⟩
    rcases hm with h | h | h
    · exact h.elim
    · exact .inr ⟨by omega, by rw [World.size_alloc]; omega⟩
    · simp [Value.ownBlock] at h
  have HWk : Hid (Calls Try.prog 24 #[.pointer (some ⟨P 0, 0, none⟩), .int .i64 (n : Int), .int .i64 (f : Int), .func (.func 25) #[] #[.pointer (some ⟨w.heap.size, 0, none⟩)]] (w.alloc (.cells #[.slice none 0 0] 22)) (WkPost (JT w.heap.size Y w P vs.length) (fun _ => False) (wlk frcC n ⟨vs, T, 0⟩ f) (w.alloc (.cells #[.slice none 0 0] 22)))) :=
    walk_any frcC _ (jt_wkr w.heap.size Y w P vs.length) 25 _ eg (jt_force w.heap.size Y w P vs.length) (jt_found w.heap.size Y w P vs.length) _ _ _ n f (by omega) hf _ hJ
  have HY : Hid (∀ n, w.heap.size ≤ n → Y n) := hY
  have Hr : Hid ((wlk frcC n ⟨vs, T, 0⟩ f).items.length ≤ 65536) := Nat.le_trans (wlk_le n _ f).1 hn
  generalize wlk frcC n ⟨vs, T, 0⟩ f = r at *
  clear hJ hT0 hb0 eg h hn hf hY
  go_enter Try.func8, Try.ntmps8
  go_wp2_with fail
  refine Calls.mono (HC.out _) ?_
  rintro e w9 ⟨rfl, hw9⟩
  obtain rfl : w = w9 := hw9.symm
  clear hw9 HC
  go_wp2_with fail
  refine Calls.mono HWk.out ?_
  rintro e w2 ⟨p', rfl, hk, a, c, ps, h1, h2, h3, h4, h5, h6, h7⟩
  clear HWk
  cases Nat.eq_zero_or_pos r.err with
  | inl hE =>
    have HZ : Hid (∀ Z, Below w2.heap.size w2 Z → TakePost pCK True Y w P vs.length r (.returned (.tuple #[.slice a r.items.length c, .int .i64 (r.left : Int), .int .i64 0])) Z) := fun Z hZ => by
      obtain ⟨P', hA, _, hb, hi⟩ := h7.aft HY.out
      have hlen : r.items.length = ps.length := by rw [← h1, List.length_map]
      have hl := own_liesX (d := 16) h2 hlen (fun g hg => hb g (.inr (.inr hg))) (fun q hq => by
        obtain ⟨g1, a1, c1, g2, g3⟩ := hi q (by simpa using hq)
        exact ⟨g3, Nat.le_trans (right_size g1) (by omega)⟩) (by have := Hr.out; omega)
      rw [h1] at hl
      refine ⟨P', hA.below hZ, .inr ⟨hE, a, c, rfl, hl.keeps hZ, fun x hx => ?_⟩⟩
      rw [← h1] at hx
      obtain ⟨q, hq, rfl⟩ := List.mem_map.1 hx
      exact (hi q (by simpa using hq)).1
    have h3a : ∀ A, (w2.alloc A).cell? ⟨w.heap.size, 0, none⟩ = some (.slice a r.items.length c) := fun A => cell_keeps ((Grew.refl w2).alloc A).below h3
    rw [hE]
    clear hk h1 h2 h4 h5 h6 h7
    go_wp2_with fail
    go_region
    all_goals go_wp2_with fail
    all_goals refine bodyPost_ret (v := .tuple #[.slice a r.items.length c, .int .i64 (r.left : Int), .int .i64 0]) ?_ rfl (HZ.out _ (by first | exact ((Grew.refl _).alloc _).below | exact ((Grew.refl _).alloc _).drew.below))
    all_goals simp [results, Try.results8, go_sem]
  | inr hE =>
    have HZ : Hid (∀ Z, Below w2.heap.size w2 Z → TakePost pCK True Y w P vs.length r (.returned (.tuple #[.slice none 0 0, .int .i64 0, .int .i64 (r.err : Int)])) Z) := fun Z hZ => by
      obtain ⟨P', hA, _⟩ := h7.aft HY.out
      exact ⟨P', hA.below hZ, .inl ⟨by omega, rfl⟩⟩
    have hE2 : ¬ (r.err : Int) = 0 := by omega
    clear hE hk h1 h2 h4 h5 h6 h7
    go_wp2_with fail
    go_region
    all_goals go_wp2_with fail
    all_goals refine bodyPost_ret (v := .tuple #[.slice none 0 0, .int .i64 0, .int .i64 (r.err : Int)]) ?_ rfl (HZ.out _ (by first | exact ((Grew.refl _).alloc _).below | exact ((Grew.refl _).alloc _).drew.below))
    all_goals simp [results, Try.results8, go_sem]

set_option maxRecDepth 100000 in
set_option maxHeartbeats 8000000 in
theorem drop_any (Y : Nat → Prop) (vs : List VT) (T : Tl) (P : Nat → Nat) (n f : Nat) (hn : n ≤ 65536) (hf : f ≤ 1073741824) (w : World) (h : Chn pCK Y w vs T P) (hY : ∀ n, w.heap.size ≤ n → Y n) :
    Calls Try.prog 12 #[.pointer (some ⟨P 0, 0, none⟩), .int .i64 (n : Int), .int .i64 (f : Int)] w (DropPost pCK Y w P vs.length (wlk frcC n ⟨vs, T, 0⟩ f)) := by
  have HC : Hid (∀ V, Calls Try.prog 23 #[.int .i64 (n : Int), .int .i64 (f : Int)] V fun e w' => e = .returned (.int .i64 0) ∧ w' = V) := fun V => scheck_ok n f hn hf V
  have eg : ∀ args w, (callFunc 29 args).run Try.prog w = .ok (.enter 29 args) w := enters_of Try.func29 (by kernel_rfl) rfl
  have hJ : JD Y w P vs.length (fun _ => False) ⟨vs, T, 0⟩ (P 0) [] none w := ⟨[], Tk.start h 0 (by omega)⟩
  have HWk : Hid (Calls Try.prog 24 #[.pointer (some ⟨P 0, 0, none⟩), .int .i64 (n : Int), .int .i64 (f : Int), .func (.func 29) #[] #[]] w (WkPost (JD Y w P vs.length) (fun _ => False) (wlk frcC n ⟨vs, T, 0⟩ f) w)) :=
    walk_any frcC _ (jd_wkr Y w P vs.length) 29 #[] eg (jd_force Y w P vs.length) (fun bar s p l x u w _ h => jd_found drop1_any Y _ P vs.length bar s p l x u w h) _ _ _ n f (by omega) hf _ hJ
  have HY : Hid (∀ n, w.heap.size ≤ n → Y n) := hY
  generalize wlk frcC n ⟨vs, T, 0⟩ f = r at *
  clear hJ eg h hn hf hY
  go_enter Try.func12, Try.ntmps12
  go_wp2_with fail
  refine Calls.mono (HC.out _) ?_
  rintro e w9 ⟨rfl, hw9⟩
  obtain rfl : w = w9 := hw9.symm
  clear hw9 HC
  go_wp2_with fail
  refine Calls.mono HWk.out ?_
  rintro e w2 ⟨p', rfl, hk, ps, h7⟩
  clear HWk
  cases Nat.eq_zero_or_pos r.err with
  | inl hE =>
    have HZ : Hid (∀ Z, Below w2.heap.size w2 Z → DropPost pCK Y w P vs.length r (.returned (.tuple #[.pointer (some ⟨p', 0, none⟩), .int .i64 (r.left : Int), .int .i64 0])) Z) := fun Z hZ => by
      obtain ⟨P', hA, hp, _⟩ := h7.aft HY.out
      have hA2 := hA.below hZ
      refine ⟨P', hA2, .inr ⟨hE, fun i => P' (r.s.i + i), by rw [hp]; rfl, hA2.chn.drop r.s.i hA.at_, .inl rfl, fun j hj => .inl ⟨r.s.i + j, ?_, rfl⟩⟩⟩
      have := hA.at_
      rw [List.length_drop] at hj
      omega
    rw [hE]
    clear hk h7
    go_wp2_with fail
    go_region
    all_goals go_wp2_with fail
    all_goals refine bodyPost_ret (v := .tuple #[.pointer (some ⟨p', 0, none⟩), .int .i64 (r.left : Int), .int .i64 0]) ?_ rfl (HZ.out _ (by first | exact ((Grew.refl _).alloc _).below | exact ((Grew.refl _).alloc _).drew.below))
    all_goals simp [results, Try.results12, go_sem]
  | inr hE =>
    have HZ : Hid (∀ Z, Below w2.heap.size w2 Z → DropPost pCK Y w P vs.length r (.returned (.tuple #[.pointer none, .int .i64 0, .int .i64 (r.err : Int)])) Z) := fun Z hZ => by
      obtain ⟨P', hA, _⟩ := h7.aft HY.out
      exact ⟨P', hA.below hZ, .inl ⟨by omega, rfl⟩⟩
    have hE2 : ¬ (r.err : Int) = 0 := by omega
    clear hE hk h7
    go_wp2_with fail
    go_region
    all_goals go_wp2_with fail
    all_goals refine bodyPost_ret (v := .tuple #[.pointer none, .int .i64 0, .int .i64 (r.err : Int)]) ?_ rfl (HZ.out _ (by first | exact ((Grew.refl _).alloc _).below | exact ((Grew.refl _).alloc _).drew.below))
    all_goals simp [results, Try.results12, go_sem]

end Go.Proofs.Ytbhfbjbigafnpaa

namespace Go.Proofs.Ytbhfbjbigafnpaa
open Go.RowKit Go.Shelf

set_option maxRecDepth 100000 in
theorem take_bad (cv : Option Addr) (n f : Int) (h : (n < 0 ∨ 65536 < n) ∨ (f < 0 ∨ 1073741824 < f)) (w : World) : Calls Try.prog 8 #[.pointer cv, .int .i64 n, .int .i64 f] w fun e w' => e = .returned (.tuple #[.slice none 0 0, .int .i64 0, .int .i64 1]) ∧ Below w.heap.size w w' := by
  have HC : Hid (∀ V, Calls Try.prog 23 #[.int .i64 n, .int .i64 f] V fun e w' => e = .returned (.int .i64 1) ∧ w' = V) := fun V => scheck_bad n f h V
  have HB : Hid (Below w.heap.size w w) := Below.refl _ _
  clear h
  go_enter Try.func8, Try.ntmps8
  go_wp2_with fail
  refine Calls.mono (HC.out _) ?_
  rintro e w9 ⟨rfl, hw9⟩
  obtain rfl : w = w9 := hw9.symm
  clear hw9 HC
  go_wp2_with fail
  refine bodyPost_ret (v := .tuple #[.slice none 0 0, .int .i64 0, .int .i64 1]) ?_ rfl ⟨rfl, HB.out⟩
  simp [results, Try.results8, go_sem]

set_option maxRecDepth 100000 in
theorem rtake_bad (cv : Option Addr) (n f : Int) (h : (n < 0 ∨ 65536 < n) ∨ (f < 0 ∨ 1073741824 < f)) (w : World) : Calls Try.prog 9 #[.pointer cv, .int .i64 n, .int .i64 f] w fun e w' => e = .returned (.tuple #[.slice none 0 0, .int .i64 0, .int .i64 1]) ∧ Below w.heap.size w w' := by
  have HC : Hid (∀ V, Calls Try.prog 26 #[.int .i64 n, .int .i64 f] V fun e w' => e = .returned (.int .i64 1) ∧ w' = V) := fun V => rasked_bad n f h V
  have HB : Hid (Below w.heap.size w w) := Below.refl _ _
  clear h
  go_enter Try.func9, Try.ntmps9
  go_wp2_with fail
  refine Calls.mono (HC.out _) ?_
  rintro e w9 ⟨rfl, hw9⟩
  obtain rfl : w = w9 := hw9.symm
  clear hw9 HC
  go_wp2_with fail
  refine bodyPost_ret (v := .tuple #[.slice none 0 0, .int .i64 0, .int .i64 1]) ?_ rfl ⟨rfl, HB.out⟩
  simp [results, Try.results9, go_sem]

end Go.Proofs.Ytbhfbjbigafnpaa

namespace Go.Proofs.Ytbhfbjbigafnpaa
open Go.RowKit Go.Shelf

/-- Both seqs, of one content; their cells are newer than the world w0. -/
def St23 (w0 : World) (c d : Nat) (vs : List VT) (T : Tl) (w : World) : Prop :=
  Below w0.heap.size w0 w ∧ ∃ (YP YD : Nat → Prop) (P Q : Nat → Nat), P 0 = c ∧ Q 0 = d ∧ Chn pCK YP w vs T P ∧ Chn dCK YD w vs T Q ∧ (∀ n, YP n → YD n → False) ∧ (∀ j, j ≤ vs.length → w0.heap.size ≤ P j) ∧ (∀ j, j ≤ vs.length → w0.heap.size ≤ Q j)

theorem St23.keeps {w0 : World} {c d : Nat} {vs : List VT} {T : Tl} {w V : World} (s : St23 w0 c d vs T w) (hV : Below w.heap.size w V) : St23 w0 c d vs T V := by
  obtain ⟨hb, YP, YD, P, Q, h1, h2, h3, h4, h5, h6, h7⟩ := s
  exact ⟨hb.trans (hV.mono hb.size), YP, YD, P, Q, h1, h2, h3.keeps hV, h4.keeps hV, h5, h6, h7⟩

/-- Behind the program's call: only the document's seq is as it was. -/
structure Mid23 (w0 : World) (c d : Nat) (vs : List VT) (T : Tl) (vs' : List VT) (T' : Tl) (X : Nat → Prop) (w : World) : Prop where
  below : Below w0.heap.size w0 w
  ex : ∃ (YP YD : Nat → Prop) (P Q : Nat → Nat), P 0 = c ∧ Q 0 = d ∧ Chn pCK YP w vs' T' P ∧ Chn dCK YD w vs T Q ∧ (∀ n, YP n → YD n → False) ∧ (∀ j, j ≤ vs'.length → w0.heap.size ≤ P j) ∧ (∀ j, j ≤ vs.length → w0.heap.size ≤ Q j) ∧ (∀ n, X n → ∀ j, j ≤ vs.length → n ≠ Q j)

/-- The program's call. -/
theorem St23.prog {w0 : World} {c d : Nat} {vs : List VT} {T : Tl} {w V : World} (s : St23 w0 c d vs T w) (hV : Below w.heap.size w V) : ∃ (Y : Nat → Prop) (P : Nat → Nat), P 0 = c ∧ Chn pCK Y V vs T P ∧ (∀ n, V.heap.size ≤ n → Y n) ∧ (∀ j, j ≤ vs.length → P j < w.heap.size) ∧ ∀ (r : SS) (P' : Nat → Nat) (w' : World), Aft pCK Y V P vs.length r P' w' → Mid23 w0 c d vs T r.vs r.T (fun n => w.heap.size ≤ n) w' := by
  obtain ⟨hb0, YP, YD, P, Q, h1, h2, h30, h40, h5, h6, h7⟩ := s
  have hb := hb0.trans (hV.mono hb0.size)
  have h3 := h30.keeps hV
  have h4 := h40.keeps hV
  refine ⟨fun n => (YP n ∧ n < V.heap.size) ∨ V.heap.size ≤ n, P, h1, h3.monoY (fun n hn hy => .inl ⟨hy, hn⟩), fun n hn => .inr hn, fun j hj => h30.lt j hj, fun r P' w' hA => ⟨?_, fun n => (YP n ∧ n < V.heap.size) ∨ V.heap.size ≤ n, fun n => YD n ∧ n < V.heap.size, P', Q, ?_, h2, hA.chn, ?_, ?_, fun j hj => ?_, h7, fun n hn j hj => ?_⟩⟩
  · exact hb.trans (hA.kc.below (fun j hj hh => by obtain ⟨i, hi, rfl⟩ := hh; have := h6 i hi; omega) hb.size)
  · rw [hA.old 0 (by omega)]; exact h1
  · exact (h4.monoY (fun n hn hy => ⟨hy, hn⟩)).kc hA.kc (fun n _ hn hh => by obtain ⟨i, hi, rfl⟩ := hh; exact h5 _ (h3.inY i hi) hn.1)
  · rintro n (hn | hn) hd
    · exact h5 n hn.1 hd.1
    · have := hd.2; omega
  · by_cases hjl : j ≤ vs.length
    · rw [hA.old j hjl]; exact h6 j hjl
    · exact Nat.le_trans hb.size (hA.new j (by omega) hj)
  · have := h40.lt j hj; omega

/-- Nothing was done. -/
theorem St23.mid {w0 : World} {c d : Nat} {vs : List VT} {T : Tl} {w w' : World} (s : St23 w0 c d vs T w) (hb' : Below w.heap.size w w') : Mid23 w0 c d vs T vs T (fun n => w.heap.size ≤ n) w' := by
  obtain ⟨hb, YP, YD, P, Q, h1, h2, h3, h4, h5, h6, h7⟩ := s
  refine ⟨hb.trans (hb'.mono hb.size), YP, YD, P, Q, h1, h2, h3.keeps hb', h4.keeps hb', h5, h6, h7, fun n hn j hj => ?_⟩
  have := h4.lt j hj; omega

theorem Mid23.keeps {w0 : World} {c d : Nat} {vs : List VT} {T : Tl} {vs' : List VT} {T' : Tl} {X : Nat → Prop} {w V : World} (s : Mid23 w0 c d vs T vs' T' X w) (hV : Below w.heap.size w V) : Mid23 w0 c d vs T vs' T' X V := by
  obtain ⟨YP, YD, P, Q, h1, h2, h3, h4, h5, h6, h7, h8⟩ := s.ex
  exact ⟨s.below.trans (hV.mono s.below.size), YP, YD, P, Q, h1, h2, h3.keeps hV, h4.keeps hV, h5, h6, h7, h8⟩

/-- The document's call. -/
theorem Mid23.doc {w0 : World} {c d : Nat} {vs : List VT} {T : Tl} {vs' : List VT} {T' : Tl} {X : Nat → Prop} {w : World} (s : Mid23 w0 c d vs T vs' T' X w) : ∃ (Y : Nat → Prop) (Q : Nat → Nat), Q 0 = d ∧ Chn dCK Y w vs T Q ∧ (∀ n, w.heap.size ≤ n → Y n) ∧ (∀ n, X n → ∀ j, j ≤ vs.length → n ≠ Q j) ∧ ∀ (r : SS) (Q' : Nat → Nat) (w' : World), Aft dCK Y w Q vs.length r Q' w' → r.vs = vs' → r.T = T' → St23 w0 c d vs' T' w' := by
  obtain ⟨YP, YD, P, Q, h1, h2, h3, h4, h5, h6, h7, h8⟩ := s.ex
  refine ⟨fun n => (YD n ∧ n < w.heap.size) ∨ w.heap.size ≤ n, Q, h2, h4.monoY (fun n hn hy => .inl ⟨hy, hn⟩), fun n hn => .inr hn, h8, fun r Q' w' hA e1 e2 => ⟨?_, fun n => YP n ∧ n < w.heap.size, fun n => (YD n ∧ n < w.heap.size) ∨ w.heap.size ≤ n, P, Q', h1, ?_, ?_, ?_, ?_, h6, fun j hj => ?_⟩⟩
  · exact s.below.trans (hA.kc.below (fun j hj hh => by obtain ⟨i, hi, rfl⟩ := hh; have := h7 i hi; omega) s.below.size)
  · rw [hA.old 0 (by omega)]; exact h2
  · exact (h3.monoY (fun n hn hy => ⟨hy, hn⟩)).kc hA.kc (fun n _ hn hh => by obtain ⟨i, hi, rfl⟩ := hh; exact h5 _ hn.1 (h4.inY i hi))
  · rw [← e1, ← e2]; exact hA.chn
  · rintro n hn (hd | hd)
    · exact h5 n hn.1 hd.1
    · have := hn.2; omega
  · by_cases hjl : j ≤ vs.length
    · rw [hA.old j hjl]; exact h7 j hjl
    · exact Nat.le_trans s.below.size (hA.new j (by omega) (by rw [e1]; exact hj))

/-- Numbers are right, or they are not. -/
theorem nums_or (n f : Int) : ((n < 0 ∨ 65536 < n) ∨ (f < 0 ∨ 1073741824 < f)) ∨ ∃ (n' f' : Nat), n = (n' : Int) ∧ f = (f' : Int) ∧ n' ≤ 65536 ∧ f' ≤ 1073741824 := by
  by_cases h : (n < 0 ∨ 65536 < n) ∨ (f < 0 ∨ 1073741824 < f)
  · exact .inl h
  · exact .inr ⟨n.toNat, f.toNat, by omega, by omega, by omega, by omega⟩

/-- What stays while the program's seq is asked: blocks that were made behind w. -/
abbrev Kp23 (w V w' : World) : Prop := KC (fun n => n < w.heap.size) V w'

theorem St23.take {w0 : World} {c d : Nat} {vs : List VT} {T : Tl} {w V : World} (s : St23 w0 c d vs T w) (hV : Below w.heap.size w V) (n f : Int) :
    Calls Try.prog 8 #[.pointer (some ⟨c, 0, none⟩), .int .i64 n, .int .i64 f] V fun e w' => Kp23 w V w' ∧ ∃ (a : Option Addr) (l k : Nat) (left E : Int), e = .returned (.tuple #[.slice a l k, .int .i64 left, .int .i64 E]) ∧ Calls Try.prog 9 #[.pointer (some ⟨d, 0, none⟩), .int .i64 n, .int .i64 f] w' fun e2 w2 => Kp23 w w' w2 ∧ ∃ (a2 : Option Addr) (l2 k2 : Nat) (vs' : List VT) (T' : Tl), e2 = .returned (.tuple #[.slice a2 l2 k2, .int .i64 left, .int .i64 E]) ∧ St23 w0 c d vs' T' w2 ∧ Calls Try.prog 10 #[.slice a l k, .slice a2 l2 k2] w2 fun e3 w3 => e3 = .returned (.bool true) ∧ Below w2.heap.size w2 w3 := by
  rcases nums_or n f with hbad | ⟨n', f', rfl, rfl, hn, hf⟩
  · refine Calls.mono (take_bad _ n f hbad V) ?_
    rintro e w' ⟨rfl, hb⟩
    have hm := (s.keeps hV).mid hb
    refine ⟨KC.of_below hb, none, 0, 0, 0, 1, rfl, Calls.mono (rtake_bad _ n f hbad w') ?_⟩
    rintro e2 w2 ⟨rfl, hb2⟩
    exact ⟨KC.of_below hb2, none, 0, 0, vs, T, rfl, ((s.keeps hV).keeps hb).keeps hb2, values_one 16 [] _ _ w2 ⟨none, 0, rfl, by simp, fun h => absurd rfl h⟩ ⟨none, 0, rfl, by simp, fun h => absurd rfl h⟩ (by simp)⟩
  · obtain ⟨Y, P, rfl, hC, hY, hlt0, hmid⟩ := s.prog hV
    refine Calls.mono (take_any Y vs T P n' f' hn hf V hC hY) ?_
    rintro e w' ⟨P', hA, hres⟩
    have hM := hmid _ P' w' hA
    have hkp : Kp23 w V w' := hA.kc.mono (fun j _ hh => by obtain ⟨i, hi, rfl⟩ := hh; exact hlt0 i hi)
    obtain ⟨YD, Q, rfl, hD, hYD, hXQ, hst⟩ := hM.doc
    have hkd : ∀ (a b : World), KC (fun j => ∃ i, i ≤ vs.length ∧ j = Q i) a b → Kp23 w a b := fun a b hk => hk.mono (fun j _ hh => by obtain ⟨i, hi, rfl⟩ := hh; exact Nat.lt_of_not_le (fun h => hXQ _ h i hi rfl))
    have hdoc := rtake_any YD vs T Q n' f' hn hf w' hD hYD
    generalize hr : wlk frcC n' ⟨vs, T, 0⟩ f' = r at *
    have hrl : r.items.length ≤ 65536 := by rw [← hr]; exact Nat.le_trans (wlk_le n' _ f').1 hn
    rcases hres with ⟨he, rfl⟩ | ⟨he, a, k, rfl, hl, _⟩
    · refine ⟨hkp, none, 0, 0, 0, r.err, rfl, Calls.mono hdoc ?_⟩
      rintro e2 w2 ⟨Q', hA2, ⟨_, rfl⟩ | ⟨he2, _⟩⟩
      · exact ⟨hkd _ _ hA2.kc, none, 0, 0, r.s.vs, r.s.T, rfl, hst _ Q' w2 hA2 rfl rfl, values_one 16 [] _ _ w2 ⟨none, 0, rfl, by simp, fun h => absurd rfl h⟩ ⟨none, 0, rfl, by simp, fun h => absurd rfl h⟩ (by simp)⟩
      · exact absurd he2 he
    · refine ⟨hkp, a, r.items.length, k, r.left, 0, rfl, Calls.mono hdoc ?_⟩
      rintro e2 w2 ⟨Q', hA2, ⟨he2, _⟩ | ⟨_, a2, k2, rfl, hl2, _⟩⟩
      · exact absurd he he2
      · refine ⟨hkd _ _ hA2.kc, a2, r.items.length, k2, r.s.vs, r.s.T, rfl, hst _ Q' w2 hA2 rfl rfl, values_one 16 r.items _ _ w2 (hA2.kc.liesX (fun n hn hh => ?_) hl).lies hl2.lies hrl⟩
        obtain ⟨i, hi, rfl⟩ := hh
        exact hXQ _ (Nat.le_trans hV.size (hn.1 trivial)) i hi rfl

end Go.Proofs.Ytbhfbjbigafnpaa

namespace Go.Proofs.Ytbhfbjbigafnpaa
open Go.RowKit Go.Shelf

/-- What is behind the known items of a seq of the statements. -/
def fromT (E : Bool) (o : Int) (v : VT) : Tl := if E = true then some (o.toNat, v) else none

/-- Such a seq is right. -/
def FromOK (d : Nat) (L : List VT) (E : Bool) (o : Int) (v : VT) : Prop := (E = true → timesE d o 0 v = 0) ∧ ∀ x ∈ L, rightV d x = true

/-- A seq of the statements as an argument. -/
abbrev fromV (aL : Option Addr) (n cL : Nat) (o : Int) (v : VT) (u : Value) (E : Bool) : Value := .agg #[.slice aL n cL, .int .i64 o, .int .i64 v.kind, .int .i64 v.num, .string v.text, u, .bool E]

/-- What made and meant tell. -/
def SmPost (C : CK) (Y : Nat → Prop) (d : Nat) (L : List VT) (E : Bool) (o : Int) (v : VT) (w : World) (e : Ending) (w' : World) : Prop :=
  Below w.heap.size w w' ∧ ((¬ FromOK d L E o v ∧ e = .returned (.pointer none)) ∨ (FromOK d L E o v ∧ ∃ P, e = .returned (.pointer (some ⟨P 0, 0, none⟩)) ∧ Chn C Y w' L (fromT E o v) P ∧ ∀ j, j ≤ L.length → w.heap.size ≤ P j))

theorem iter_right {d : Nat} {o : Int} {v : VT} {w : World} {u : Value} (hu : Lies d w v.items u) (h : timesE d o 0 v = 0) : o.toNat < 8 ∧ rightV 16 v = true ∧ Lies 16 w v.items u := by
  unfold timesE at h
  by_cases h1 : o < 0 ∨ 8 ≤ o
  · rw [if_pos h1] at h; cases h
  · rw [if_neg h1] at h
    have h2 : ¬ ((0 : Int) < 0 ∨ (65536 : Int) < 0) := by omega
    rw [if_neg h2] at h
    cases hr : rightV d v with
    | false => rw [hr] at h; cases h
    | true =>
      have hc := canon hu hr
      exact ⟨by omega, hc.2, hc.1⟩

/-- A cell of Iter alone. -/
theorem chn_iter {C : CK} {Y : Nat → Prop} {w : World} {b q : Nat} {v : VT} {a : Option Addr} {c : Nat} (hY : Y b) (hq : q < 8) (hr : rightV 16 v = true) (hd : Dp 16 v) (h : C.lz w b q v v (.slice a v.items.length c)) (hl : LiesX (fun n => Y n ∧ n ≠ b) 16 w v.items (.slice a v.items.length c)) : Chn C Y w [] (some (q, v)) (fun _ => b) := by
  refine ⟨(fun x hx => by cases hx), (fun i j hi hj _ => by simp at hi hj; omega), (fun _ _ => hY), (fun i x hx => by simp at hx), (fun e => by cases e), (fun q' x e => ?_)⟩
  obtain ⟨rfl, rfl⟩ : q = q' ∧ v = x := by simpa using e
  exact ⟨hq, hr, hd, v, a, c, hr, h, LiesX.mono (fun n hn => ⟨hn.1, fun _ _ => hn.2⟩) hl⟩

/-- The loop under way: the last items are in the seq. -/
def MkS (C : CK) (Y : Nat → Prop) (d : Nat) (L : List VT) (T : Tl) (w : World) (k b : Nat) (wr : World) : Prop :=
  Below w.heap.size w wr ∧ (∀ x ∈ L.drop k, rightV d x = true) ∧ ∃ P, P 0 = b ∧ Chn C Y wr (L.drop k) T P ∧ ∀ j, j ≤ (L.drop k).length → w.heap.size ≤ P j

theorem MkS.step {C : CK} {Y : Nat → Prop} {d : Nat} {L : List VT} {T : Tl} {w : World} {k b : Nat} {wr w' : World} (s : MkS C Y d L T w (k + 1) b wr) (hY : ∀ n, w.heap.size ≤ n → Y n) (hk : k < L.length) (hr : rightV d L[k] = true) (hr16 : rightV 16 L[k] = true) (hb : Below wr.heap.size wr w') {e : Nat} (he : wr.heap.size ≤ e) {a : Option Addr} {c : Nat} (hc : C.kn w' e L[k] (.slice a L[k].items.length c) b) (hl : LiesX (fun n => (Y n ∧ n ≠ e) ∧ (n < w.heap.size ∨ wr.heap.size ≤ n)) 16 w' L[k].items (.slice a L[k].items.length c)) : MkS C Y d L T w k e w' := by
  obtain ⟨hbw, hrs, P, rfl, hC, hP⟩ := s
  have hs := hbw.size
  have hdrop : L.drop k = L[k] :: L.drop (k + 1) := List.drop_eq_getElem_cons hk
  refine ⟨hbw.trans (hb.mono hs), fun x hx => ?_, fun i => if i = 0 then e else P (i - 1), ?_, ?_, fun j hj => ?_⟩
  · rw [hdrop] at hx
    rcases List.mem_cons.1 hx with rfl | hx
    · exact hr
    · exact hrs x hx
  · simp
  · rw [hdrop]
    refine hC.cons (fun n hn => hY n (by omega)) hb he hr16 hc (LiesX.mono (fun n hn => ⟨hn.1, fun j hj => ?_⟩) hl)
    have h1 := hC.lt j hj
    have h2 := hP j hj
    rcases hn.2 with h | h <;> omega
  · rw [hdrop] at hj
    simp only [List.length_cons] at hj
    by_cases e1 : j = 0
    · simp only [if_pos e1]; omega
    · simp only [if_neg e1]; exact hP _ (by omega)

set_option maxRecDepth 100000 in
set_option maxHeartbeats 16000000 in
theorem smade_any (d : Nat) (L : List VT) (aL : Option Addr) (cL : Nat) (o : Int) (v : VT) (av : Option Addr) (cv : Nat) (E : Bool) (w : World) (hL : Lies (d + 1) w L (.slice aL L.length cL)) (hv : Lies d w v.items (.slice av v.items.length cv)) (hvt : v.text.size ≤ 9223372036854775807) :
    Calls Try.prog 11 #[fromV aL L.length cL o v (.slice av v.items.length cv) E] w (SmPost pCK (fun n => w.heap.size ≤ n) d L E o v w) := by
  obtain ⟨W, hW⟩ : ∃ W, W = w.alloc (.cells #[.slice aL L.length cL, .int .i64 o, .int .i64 v.kind, .int .i64 v.num, .string v.text, .slice av v.items.length cv, .bool E] 40) := ⟨_, rfl⟩
  have HW : Hid (W = w.alloc (.cells #[.slice aL L.length cL, .int .i64 o, .int .i64 v.kind, .int .i64 v.num, .string v.text, .slice av v.items.length cv, .bool E] 40)) := hW
  have hb0 : Below w.heap.size w W := by rw [hW]; exact ((Grew.refl w).alloc _).below
  have HEm : Hid (∀ V, Calls Try.prog 15 #[] V fun e w' => e = .returned (.pointer (some ⟨V.heap.size, 0, none⟩)) ∧ Below V.heap.size V w' ∧ CB w' V.heap.size .nilIface 0 zeroT (.slice none 0 0) none) := fun V => (cempty_any V).mono fun e w' h => ⟨h.1, by rw [h.2]; exact ((Grew.refl _).alloc _).below, by rw [h.2]; exact cb_alloc V 71 .nilIface 0 zeroT (.slice none 0 0) none⟩
  have HIt : Hid (∀ V, Below w.heap.size w V → Calls Try.prog 20 #[.int .i64 o, .agg #[.int .i64 v.kind, .int .i64 v.num, .string v.text, .slice av v.items.length cv]] V (IterPost (timesE d o 0 v) o.toNat v V)) := fun V hV => iter_any d o v _ V (Lies.keeps hV _ _ _ hv) hvt
  have HCo : Hid (∀ V (x : VT) (a : Option Addr) (c b : Nat), Lies d V x.items (.slice a x.items.length c) → rightV d x = true → Calls Try.prog 17 #[.agg #[.int .i64 x.kind, .int .i64 x.num, .string x.text, .slice a x.items.length c], .pointer (some ⟨b, 0, none⟩)] V (ConsPost x b V)) := fun V x a c b hl hr => cons_ok x _ b V (canon hl hr).1 (canon hl hr).2
  have HCw : Hid (∀ V (x : VT) (a : Option Addr) (c b : Nat), Lies d V x.items (.slice a x.items.length c) → x.text.size ≤ 9223372036854775807 → rightV d x = false → Calls Try.prog 17 #[.agg #[.int .i64 x.kind, .int .i64 x.num, .string x.text, .slice a x.items.length c], .pointer (some ⟨b, 0, none⟩)] V fun e w' => e = .returned (.tuple #[.pointer none, .int .i64 3]) ∧ Below V.heap.size V w') := fun V x a c b hl ht hr => cons_wrong d x _ (some ⟨b, 0, none⟩) V hl ht hr
  have HRt : Hid (timesE d o 0 v = 0 → o.toNat < 8 ∧ rightV 16 v = true ∧ Lies 16 w v.items (.slice av v.items.length cv)) := fun h => iter_right hv h
  obtain ⟨_, _, eL, hlc, hrow⟩ := hL
  obtain ⟨rfl, _, rfl⟩ : aL = _ ∧ L.length = L.length ∧ cL = _ := by simpa using eL
  have HRow : Hid _ := hrow
  have _z := True.intro
  have HY : Hid (∀ n, w.heap.size ≤ n → (fun n => w.heap.size ≤ n) n) := fun n hn => hn
  obtain ⟨LL, hLL⟩ : ∃ LL, LL = L.length := ⟨_, rfl⟩
  have HLe : Hid (LL = L.length) := hLL
  have hLz : LL ≤ 9223372036854775807 := by omega
  have e1 : IntKind.i64.wrap ((LL : Int) - 1) = (LL : Int) - 1 := by rw [IntKind.wrap_i64]; omega
  have k0 : W.cell? ⟨w.heap.size, 0, none⟩ = some (.slice aL LL cL) := by rw [hW, hLL]; simp
  have k1 : W.cell? ⟨w.heap.size, 1, none⟩ = some (.int .i64 o) := by rw [hW]; simp
  have k2 : W.cell? ⟨w.heap.size, 2, none⟩ = some (.int .i64 v.kind) := by rw [hW]; simp
  have k3 : W.cell? ⟨w.heap.size, 3, none⟩ = some (.int .i64 v.num) := by rw [hW]; simp
  have k4 : W.cell? ⟨w.heap.size, 4, none⟩ = some (.string v.text) := by rw [hW]; simp
  have k5 : W.cell? ⟨w.heap.size, 5, none⟩ = some (.slice av v.items.length cv) := by rw [hW]; simp
  have k6 : W.cell? ⟨w.heap.size, 6, none⟩ = some (.bool E) := by rw [hW]; simp
  clear hlc eL hrow hv hvt hLL hW
  go_enter Try.func11, Try.ntmps11
  go_upto_region 1 with fail
  rw [← HW.out]
  clear HW
  go_wp2_with fail
  refine Calls.mono (HEm.out _) ?_
  rintro e w1 ⟨rfl, hg1, hen⟩
  have hb1 : Below w.heap.size w w1 := hb0.trans (hg1.mono hb0.size)
  have k0 := cell_keeps hg1 k0; have k1 := cell_keeps hg1 k1; have k2 := cell_keeps hg1 k2; have k3 := cell_keeps hg1 k3; have k4 := cell_keeps hg1 k4; have k5 := cell_keeps hg1 k5; have k6 := cell_keeps hg1 k6
  have hWs := hb0.size
  have HN : Hid (MkS pCK (fun n => w.heap.size ≤ n) d L none w LL W.heap.size w1) := by
    rw [HLe.out]
    refine ⟨hb1, fun x hx => by simp at hx, fun _ => W.heap.size, rfl, ?_, fun j _ => hWs⟩
    rw [List.drop_length]
    exact chn_nil (hWs) hen
  clear hg1 hen HEm hWs
  cases hE : E with
  | true =>
    subst hE
    go_wp2_with fail
    refine Calls.mono (HIt.out _ hb1) ?_
    rintro e w2 ⟨hg2, ⟨hE0, rfl⟩ | ⟨hE0, a, c, b, rfl, hb, hcb, hlx⟩⟩
    · have hb2 : Below w.heap.size w w2 := hb1.trans (hg2.mono hb1.size)
      have HE : Hid (SmPost pCK (fun n => w.heap.size ≤ n) d L true o v w (.returned (.pointer none)) w2) := ⟨hb2, .inl ⟨fun h => hE0 (h.1 rfl), rfl⟩⟩
      clear hg2 hb2 HN HIt HCo HCw HRt
      generalize timesE d o 0 v = E0 at *
      have hE1 : ¬ E0 = 0 := hE0
      clear hE0
      go_wp2_with fail
      refine bodyPost_ret (v := .pointer none) ?_ rfl HE.out
      simp [results, Try.results11, go_sem]
    · have hb2 : Below w.heap.size w w2 := hb1.trans (hg2.mono hb1.size)
      obtain ⟨h1, h2, h4⟩ := HRt.out hE0
      have h3 : Dp 16 v := Dp.of_lies 16 w v _ h4
      have hs1 := hb1.size
      have HN2 : Hid (MkS pCK (fun n => w.heap.size ≤ n) d L (fromT true o v) w LL b w2) := by
        rw [HLe.out]
        refine ⟨hb2, fun x hx => by simp at hx, fun _ => b, rfl, ?_, fun j _ => by show w.heap.size ≤ b; omega⟩
        rw [List.drop_length]
        exact chn_iter (C := pCK) (a := a) (c := c) (show w.heap.size ≤ b by omega) h1 h2 h3 ⟨0, by omega, rfl, hcb⟩ (LiesX.mono (fun n hn => ⟨by omega, hn.2⟩) hlx)
      have HOK : Hid (timesE d o 0 v = 0) := hE0
      have k0 := cell_keeps hg2 k0
      have hb3 : w.heap.size < w2.heap.size := cell_lt k0
      clear hg2 hb2 HN HIt HRt h1 h2 h3 h4 hs1 hE0 hb hcb hlx k1 k2 k3 k4 k5 k6 hb1 hb0
      go_wp2_with fail
      go_loopg [3, 6] LL (fun g cc i wr => ∃ (j b : Nat) (z : Int), i = .int .i64 z ∧ cc = .pointer (some ⟨b, 0, none⟩) ∧ j ≤ LL ∧ g = j ∧ Hid (z = (j : Int) - 1) ∧ Hid (wr.cell? ⟨w.heap.size, 0, none⟩ = some (.slice aL LL cL)) ∧ Hid (MkS pCK (fun n => w.heap.size ≤ n) d L (fromT true o v) w j b wr))
      case atStart => exact ⟨LL, _, _, rfl, rfl, Nat.le_refl _, rfl, rfl, k0, HN2.out⟩
      case round =>
        clear HN2 e1 k0 hb3
        obtain ⟨j, b, z, rfl, rfl, hj, hg, Hz, Hk0, HI⟩ := hrel
        have Hg : Hid (gk = j) := hg
        clear hg
        have k0 := Hk0.out
        by_cases hj0 : j = 0
        · have hz0 : ¬ (0 : Int) ≤ z := by have := Hz.out; omega
          have HE : Hid (SmPost pCK (fun n => w.heap.size ≤ n) d L true o v w (.returned (.pointer (some ⟨b, 0, none⟩))) wr) := by
            obtain ⟨h1, h2, P, h3, h4, h5⟩ := HI.out
            subst hj0
            exact ⟨h1, .inr ⟨⟨fun _ => HOK.out, h2⟩, P, by rw [h3], h4, h5⟩⟩
          clear hj0 Hz Hg hj HI Hk0
          go_wp2_with fail
          refine bodyPost_ret (v := .pointer (some ⟨b, 0, none⟩)) ?_ rfl HE.out
          simp [results, Try.results11, go_sem]
        · obtain ⟨k, rfl⟩ : ∃ k, j = k + 1 := ⟨j - 1, by omega⟩
          obtain rfl : z = (k : Int) := by have := Hz.out; omega
          have hkL : k < L.length := by have := HLe.out; omega
          have hne : L ≠ [] := by intro h; rw [h] at hkL; simp at hkL
          obtain ⟨bb, oo, rfl, hall⟩ := HRow.out hne
          obtain ⟨u, r0, r1, r2, r3, hlx, htx⟩ := hall k hkL
          obtain ⟨ax, cx, rfl, _⟩ := Lies.slice hlx
          obtain ⟨x, hx⟩ : ∃ x, x = L[k] := ⟨_, rfl⟩
          have Hx : Hid (x = L[k]) := hx
          rw [← hx] at r0 r1 r2 r3 hlx htx
          have hbr := HI.out.1
          have r0 := cell_keeps hbr r0; have r1 := cell_keeps hbr r1; have r2 := cell_keeps hbr r2; have r3 := cell_keeps hbr r3
          have HX : Hid (Lies d w x.items (.slice ax x.items.length cx) ∧ Lies d wr x.items (.slice ax x.items.length cx) ∧ x.text.size ≤ 9223372036854775807) := ⟨hlx, Lies.keeps hbr _ _ _ hlx, htx⟩
          have i1 : (0 : Int) ≤ (k : Int) := by omega
          have i2 : (k : Int) < (LL : Int) := by omega
          have e2 : IntKind.i64.wrap ((k : Int) - 1) = (k : Int) - 1 := by rw [IntKind.wrap_i64]; omega
          clear hx hall hlx htx hbr hne HRow hj0 Hk0
          cases hr : rightV d x with
          | true =>
            have HC1 : Hid _ := HCo.out wr x ax cx b HX.out.2.1 hr
            clear HCo HCw
            go_wp2_with fail
            refine Calls.mono HC1.out ?_
            rintro e w3 ⟨hbc, e2, a9, c9, rfl, hde, hkn, hlc⟩
            have HI2 : Hid (MkS pCK (fun n => w.heap.size ≤ n) d L (fromT true o v) w k e2 w3) := by
              have hrx := hr
              have hr16 := (canon HX.out.1 hr).2
              have hc := (canon HX.out.1 hr).1
              have e9 := Hx.out
              subst e9
              have hs := HI.out.1.size
              have hb9 := HI.out.1.trans (hbc.mono hs)
              have _h9 := hb9
              exact HI.out.step HY.out hkL hrx hr16 hbc hde hkn (LiesX.mono (fun n hn => ⟨⟨by omega, hn.2⟩, .inr hn.1⟩) hlc)
            have k0 := cell_keeps hbc k0
            clear hbc hkn hlc HC1 HI hde r0 r1 r2 r3
            go_wp2_with fail
            go_roundg k
            case measure => have := Hg.out; omega
            case rel => exact ⟨k, e2, (k : Int) - 1, by first | rfl | (rw [e2]), rfl, by omega, rfl, rfl, k0, HI2.out⟩
          | false =>
            have HC1 : Hid _ := HCw.out wr x ax cx b HX.out.2.1 HX.out.2.2 hr
            clear HCo HCw
            go_wp2_with fail
            refine Calls.mono HC1.out ?_
            rintro e w3 ⟨rfl, hbc⟩
            have HE : Hid (SmPost pCK (fun n => w.heap.size ≤ n) d L true o v w (.returned (.pointer none)) w3) := by
              refine ⟨HI.out.1.trans (hbc.mono HI.out.1.size), .inl ⟨fun h => ?_, rfl⟩⟩
              have := h.2 x (by rw [Hx.out]; exact List.getElem_mem hkL)
              rw [hr] at this
              cases this
            clear hbc HC1 HI r0 r1 r2 r3 k0
            go_wp2_with fail
            refine bodyPost_ret (v := .pointer none) ?_ rfl HE.out
            simp [results, Try.results11, go_sem]
  | false =>
    subst hE
    have hb3 : w.heap.size < w1.heap.size := cell_lt k0
    have HN2 : Hid (MkS pCK (fun n => w.heap.size ≤ n) d L (fromT false o v) w LL W.heap.size w1) := HN.out
    have HOK : Hid (false = true → timesE d o 0 v = 0) := fun h => by cases h
    clear HN HIt HRt k1 k2 k3 k4 k5 hb1 hb0
    go_wp2_with fail
    go_loopg [3, 6] LL (fun g cc i wr => ∃ (j b : Nat) (z : Int), i = .int .i64 z ∧ cc = .pointer (some ⟨b, 0, none⟩) ∧ j ≤ LL ∧ g = j ∧ Hid (z = (j : Int) - 1) ∧ Hid (wr.cell? ⟨w.heap.size, 0, none⟩ = some (.slice aL LL cL)) ∧ Hid (MkS pCK (fun n => w.heap.size ≤ n) d L (fromT false o v) w j b wr))
    case atStart => exact ⟨LL, _, _, rfl, rfl, Nat.le_refl _, rfl, rfl, k0, HN2.out⟩
    case round =>
      clear HN2 e1 k0 hb3
      obtain ⟨j, b, z, rfl, rfl, hj, hg, Hz, Hk0, HI⟩ := hrel
      have Hg : Hid (gk = j) := hg
      clear hg
      have k0 := Hk0.out
      by_cases hj0 : j = 0
      · have hz0 : ¬ (0 : Int) ≤ z := by have := Hz.out; omega
        have HE : Hid (SmPost pCK (fun n => w.heap.size ≤ n) d L false o v w (.returned (.pointer (some ⟨b, 0, none⟩))) wr) := by
          obtain ⟨h1, h2, P, h3, h4, h5⟩ := HI.out
          subst hj0
          exact ⟨h1, .inr ⟨⟨HOK.out, h2⟩, P, by rw [h3], h4, h5⟩⟩
        clear hj0 Hz Hg hj HI Hk0
        go_wp2_with fail
        refine bodyPost_ret (v := .pointer (some ⟨b, 0, none⟩)) ?_ rfl HE.out
        simp [results, Try.results11, go_sem]
      · obtain ⟨k, rfl⟩ : ∃ k, j = k + 1 := ⟨j - 1, by omega⟩
        obtain rfl : z = (k : Int) := by have := Hz.out; omega
        have hkL : k < L.length := by have := HLe.out; omega
        have hne : L ≠ [] := by intro h; rw [h] at hkL; simp at hkL
        obtain ⟨bb, oo, rfl, hall⟩ := HRow.out hne
        obtain ⟨u, r0, r1, r2, r3, hlx, htx⟩ := hall k hkL
        obtain ⟨ax, cx, rfl, _⟩ := Lies.slice hlx
        obtain ⟨x, hx⟩ : ∃ x, x = L[k] := ⟨_, rfl⟩
        have Hx : Hid (x = L[k]) := hx
        rw [← hx] at r0 r1 r2 r3 hlx htx
        have hbr := HI.out.1
        have r0 := cell_keeps hbr r0; have r1 := cell_keeps hbr r1; have r2 := cell_keeps hbr r2; have r3 := cell_keeps hbr r3
        have HX : Hid (Lies d w x.items (.slice ax x.items.length cx) ∧ Lies d wr x.items (.slice ax x.items.length cx) ∧ x.text.size ≤ 9223372036854775807) := ⟨hlx, Lies.keeps hbr _ _ _ hlx, htx⟩
        have i1 : (0 : Int) ≤ (k : Int) := by omega
        have i2 : (k : Int) < (LL : Int) := by omega
        have e2 : IntKind.i64.wrap ((k : Int) - 1) = (k : Int) - 1 := by rw [IntKind.wrap_i64]; omega
        clear hx hall hlx htx hbr hne HRow hj0 Hk0
        cases hr : rightV d x with
        | true =>
          have HC1 : Hid _ := HCo.out wr x ax cx b HX.out.2.1 hr
          clear HCo HCw
          go_wp2_with fail
          refine Calls.mono HC1.out ?_
          rintro e w3 ⟨hbc, e2, a9, c9, rfl, hde, hkn, hlc⟩
          have HI2 : Hid (MkS pCK (fun n => w.heap.size ≤ n) d L (fromT false o v) w k e2 w3) := by
            have hrx := hr
            have hr16 := (canon HX.out.1 hr).2
            have hc := (canon HX.out.1 hr).1
            have e9 := Hx.out
            subst e9
            have hs := HI.out.1.size
            have hb9 := HI.out.1.trans (hbc.mono hs)
            have _h9 := hb9
            exact HI.out.step HY.out hkL hrx hr16 hbc hde hkn (LiesX.mono (fun n hn => ⟨⟨by omega, hn.2⟩, .inr hn.1⟩) hlc)
          have k0 := cell_keeps hbc k0
          clear hbc hkn hlc HC1 HI hde r0 r1 r2 r3
          go_wp2_with fail
          go_roundg k
          case measure => have := Hg.out; omega
          case rel => exact ⟨k, e2, (k : Int) - 1, by first | rfl | (rw [e2]), rfl, by omega, rfl, rfl, k0, HI2.out⟩
        | false =>
          have HC1 : Hid _ := HCw.out wr x ax cx b HX.out.2.1 HX.out.2.2 hr
          clear HCo HCw
          go_wp2_with fail
          refine Calls.mono HC1.out ?_
          rintro e w3 ⟨rfl, hbc⟩
          have HE : Hid (SmPost pCK (fun n => w.heap.size ≤ n) d L false o v w (.returned (.pointer none)) w3) := by
            refine ⟨HI.out.1.trans (hbc.mono HI.out.1.size), .inl ⟨fun h => ?_, rfl⟩⟩
            have := h.2 x (by rw [Hx.out]; exact List.getElem_mem hkL)
            rw [hr] at this
            cases this
          clear hbc HC1 HI r0 r1 r2 r3 k0
          go_wp2_with fail
          refine bodyPost_ret (v := .pointer none) ?_ rfl HE.out
          simp [results, Try.results11, go_sem]

end Go.Proofs.Ytbhfbjbigafnpaa

namespace Go.Proofs.Ytbhfbjbigafnpaa
open Go.RowKit Go.Shelf

abbrev iv (n : Int) : VT := ⟨2, n, ⟨#[]⟩, []⟩

theorem sp_one : wlk frcC 3 ⟨[], some (1, iv 0), 0⟩ 5 = ⟨[iv 0, iv 1, iv 2], 2, 0, ⟨[iv 0, iv 1, iv 2], some (1, iv 3), 3⟩⟩ := by kernel_rfl
theorem sp_two : wlk frcC 3 ⟨[iv 0, iv 1, iv 2], some (1, iv 3), 0⟩ 0 = ⟨[iv 0, iv 1, iv 2], 0, 0, ⟨[iv 0, iv 1, iv 2], some (1, iv 3), 3⟩⟩ := by kernel_rfl
theorem sp_three : wlk frcC 4 ⟨[iv 0, iv 1, iv 2], some (1, iv 3), 0⟩ 0 = ⟨[iv 0, iv 1, iv 2], 0, 220, ⟨[iv 0, iv 1, iv 2], some (1, iv 3), 3⟩⟩ := by kernel_rfl

theorem three_any (b cap : Nat) (w : World) (h0 : w.cell? ⟨b, 0, none⟩ = some (.int .i64 0)) (h1 : w.cell? ⟨b, 1, none⟩ = some (.int .i64 1)) (h2 : w.cell? ⟨b, 2, none⟩ = some (.int .i64 2)) :
    Calls Try.prog 22 #[.slice (some ⟨b, 0, none⟩) 3 cap] w fun e w' => ∃ a c, e = .returned (.slice a 3 c) ∧ Lies 17 w' [iv 0, iv 1, iv 2] (.slice a 3 c) ∧ Below w.heap.size w w' := by
  refine (ints_any b [0, 1, 2] cap w (by simp) (fun i hi => ?_)).mono ?_
  · match i, hi with
    | 0, _ => exact h0
    | 1, _ => exact h1
    | 2, _ => exact h2
  rintro e w' ⟨v, rfl, hown, hb⟩
  have hown2 : w'.ownsRow w.heap.size 38 4 v 3 ([(iv 0, Value.slice none 0 0), (iv 1, Value.slice none 0 0), (iv 2, Value.slice none 0 0)].flatMap encP) := hown
  have hl := own_liesX (X := fun _ => True) (d := 16) hown2 rfl (fun _ _ => trivial) (fun p hp => by
    simp only [List.mem_cons, List.not_mem_nil, or_false] at hp
    rcases hp with rfl | rfl | rfl <;> exact ⟨⟨none, 0, rfl, by simp, fun h => absurd rfl h⟩, by decide⟩) (by simp)
  obtain ⟨a, c, rfl, _⟩ := LiesX.slice hl
  exact ⟨a, c, rfl, hl.lies, hb⟩

set_option maxRecDepth 100000 in
set_option maxHeartbeats 8000000 in
theorem speaks23_any (w : World) : Calls Try.prog 7 #[] w fun e w' => e = .returned (.bool true) ∧ Below w.heap.size w w' := by
  have HI : Hid (∀ V, Calls Try.prog 21 #[.int .i64 0] V fun e w' => e = .returned (.agg #[.int .i64 2, .int .i64 0, .string ⟨#[]⟩, .slice none 0 0]) ∧ Grew V w') := fun V => int_any 0 V
  have HIt : Hid (∀ V, Calls Try.prog 20 #[.int .i64 1, .agg #[.int .i64 2, .int .i64 0, .string ⟨#[]⟩, .slice none 0 0]] V (IterPost 0 1 nil0 V)) := fun V => by
    have h9 := iter_any 16 1 nil0 (.slice none 0 0) V (lies_z22 V) (by show (0 : Nat) ≤ _; omega)
    rw [nil0_err] at h9
    exact h9
  go_enter Try.func7, Try.ntmps7
  go_wp2_with fail
  refine Calls.mono (HI.out _) ?_
  rintro e w1 ⟨rfl, hg1⟩
  have hb1 : Below w.heap.size w w1 := hg1.below
  clear hg1 HI
  go_wp2_with fail
  refine Calls.mono (HIt.out _) ?_
  rintro e w2 ⟨hg2, ⟨h0, _⟩ | ⟨_, a, c, b, rfl, hb, hcb, hlx⟩⟩
  · exact absurd rfl h0
  have hb2 : Below w.heap.size w w2 := hb1.trans (hg2.mono hb1.size)
  have hs1 := hb1.size
  have hs2 := hg2.size
  have hC2 : Chn pCK (fun n => w.heap.size ≤ n) w2 [] (some (1, iv 0)) (fun _ => b) := chn_iter (C := pCK) (a := a) (c := c) (show w.heap.size ≤ b by omega) (by omega) nil0_right (Dp.of_lies 16 w2 nil0 _ hlx.lies) ⟨0, by omega, rfl, hcb⟩ (LiesX.mono (fun n hn => ⟨by omega, hn.2⟩) hlx)
  have hbw : w.heap.size ≤ b := by omega
  have HT1 : Hid (Calls Try.prog 8 #[.pointer (some ⟨b, 0, none⟩), .int .i64 3, .int .i64 5] w2 (TakePost pCK True (fun n => w.heap.size ≤ n) w2 (fun _ => b) 0 ⟨[iv 0, iv 1, iv 2], 2, 0, ⟨[iv 0, iv 1, iv 2], some (1, iv 3), 3⟩⟩)) := by
    have h9 := take_any (fun n => w.heap.size ≤ n) [] (some (1, iv 0)) (fun _ => b) 3 5 (by omega) (by omega) w2 hC2 (fun n hn => by omega)
    rw [sp_one] at h9
    exact h9
  clear hg2 hb hcb hlx hb1 HIt hs1 hC2
  go_wp2_with fail
  refine Calls.mono HT1.out ?_
  rintro e w3 ⟨P3, hA3, ⟨h0, _⟩ | ⟨_, a3, c3, rfl, hl3, _⟩⟩
  · exact absurd rfl h0
  have hP30 : P3 0 = b := hA3.old 0 (Nat.le_refl _)
  have hP3 : ∀ j, j ≤ 3 → w.heap.size ≤ P3 j := fun j hj => by
    by_cases h : j ≤ 0
    · obtain rfl : j = 0 := by omega
      rw [hP30]; exact hbw
    · have := hA3.new j (by omega) hj; have := hb2.size; omega
  have hb3 : Below w.heap.size w w3 := hb2.trans (hA3.kc.below (fun j hj hh => by obtain ⟨i, hi, e⟩ := hh; have e : j = b := e; omega) hb2.size)
  have HT2 : Hid (Calls Try.prog 8 #[.pointer (some ⟨b, 0, none⟩), .int .i64 3, .int .i64 0] w3 (TakePost pCK True (fun n => w.heap.size ≤ n) w3 P3 3 ⟨[iv 0, iv 1, iv 2], 0, 0, ⟨[iv 0, iv 1, iv 2], some (1, iv 3), 3⟩⟩)) := by
    have h9 := take_any (fun n => w.heap.size ≤ n) [iv 0, iv 1, iv 2] (some (1, iv 3)) P3 3 0 (by omega) (by omega) w3 hA3.chn (fun n hn => by have := hb3.size; omega)
    rw [sp_two, hP30] at h9
    exact h9
  have HL3 : Hid (LiesX (fun n => w2.heap.size ≤ n ∧ ∀ j, j ≤ 3 → n ≠ P3 j) 17 w3 [iv 0, iv 1, iv 2] (.slice a3 3 c3)) := LiesX.mono (fun n hn => ⟨hn.1 trivial, hn.2.2⟩) hl3
  clear HT1 hA3 hl3 hb2 hs2 hbw
  go_wp2_with fail
  refine Calls.mono HT2.out ?_
  rintro e w4 ⟨P4, hA4, ⟨h0, _⟩ | ⟨_, a4, c4, rfl, hl4, _⟩⟩
  · exact absurd rfl h0
  have hP4 : ∀ j, j ≤ 3 → P4 j = P3 j := fun j hj => hA4.old j hj
  have hb4 : Below w.heap.size w w4 := hb3.trans (hA4.kc.below (fun j hj hh => by obtain ⟨i, hi, e⟩ := hh; have := hP3 i hi; omega) hb3.size)
  have HL4 : Hid (LiesX (fun n => w2.heap.size ≤ n ∧ ∀ j, j ≤ 3 → n ≠ P4 j) 17 w4 [iv 0, iv 1, iv 2] (.slice a3 3 c3)) := LiesX.mono (fun n hn => ⟨hn.1, fun j hj => by rw [hP4 j hj]; exact hn.2 j hj⟩) (hA4.kc.liesX (fun n hn hh => by obtain ⟨i, hi, rfl⟩ := hh; exact hn.2 i hi rfl) HL3.out)
  have HM4 : Hid (LiesX (fun n => ∀ j, j ≤ 3 → n ≠ P4 j) 17 w4 [iv 0, iv 1, iv 2] (.slice a4 3 c4)) := LiesX.mono (fun n hn => hn.2.2) hl4
  have Hq : Hid (∀ j, j ≤ 3 → w.heap.size ≤ P4 j) := fun j hj => by rw [hP4 j hj]; exact hP3 j hj
  have HT3 : Hid (Calls Try.prog 8 #[.pointer (some ⟨b, 0, none⟩), .int .i64 4, .int .i64 0] w4 (TakePost pCK True (fun n => w.heap.size ≤ n) w4 P4 3 ⟨[iv 0, iv 1, iv 2], 0, 220, ⟨[iv 0, iv 1, iv 2], some (1, iv 3), 3⟩⟩)) := by
    have h9 := take_any (fun n => w.heap.size ≤ n) [iv 0, iv 1, iv 2] (some (1, iv 3)) P4 4 0 (by omega) (by omega) w4 hA4.chn (fun n hn => by have := hb4.size; omega)
    have h8 : P4 0 = b := by rw [hP4 0 (by omega)]; exact hP30
    rw [sp_three, h8] at h9
    exact h9
  clear HT2 hA4 hl4 HL3 hP3 hb3 hP30
  go_wp2_with fail
  refine Calls.mono HT3.out ?_
  rintro e w5 ⟨P5, hA5, ⟨_, rfl⟩ | ⟨h0, _⟩⟩
  case inr => cases h0
  have hb5 : Below w.heap.size w w5 := hb4.trans (hA5.kc.below (fun j hj hh => by obtain ⟨i, hi, e⟩ := hh; have := Hq.out i hi; omega) hb4.size)
  have HL5 : Hid (LiesX (fun n => ∀ j, j ≤ 3 → n ≠ P4 j) 17 w5 [iv 0, iv 1, iv 2] (.slice a3 3 c3)) := hA5.kc.liesX (fun n hn hh => by obtain ⟨i, hi, rfl⟩ := hh; exact hn i hi rfl) (LiesX.mono (fun n hn => hn.2) HL4.out)
  have HM5 : Hid (LiesX (fun n => ∀ j, j ≤ 3 → n ≠ P4 j) 17 w5 [iv 0, iv 1, iv 2] (.slice a4 3 c4)) := hA5.kc.liesX (fun n hn hh => by obtain ⟨i, hi, rfl⟩ := hh; exact hn i hi rfl) HM4.out
  have HIn : Hid (∀ V (b cap : Nat), V.cell? ⟨b, 0, none⟩ = some (.int .i64 0) → V.cell? ⟨b, 1, none⟩ = some (.int .i64 1) → V.cell? ⟨b, 2, none⟩ = some (.int .i64 2) → Calls Try.prog 22 #[.slice (some ⟨b, 0, none⟩) 3 cap] V fun e w' => ∃ a c, e = .returned (.slice a 3 c) ∧ Lies 17 w' [iv 0, iv 1, iv 2] (.slice a 3 c) ∧ Below V.heap.size V w') := fun V b cap => three_any b cap V
  clear HT3 hA5 HL4 HM4 hb4 hP4
  go_wp2_with fail
  refine Calls.mono (HIn.out _ _ _ (by simp) (by simp) (by simp)) ?_
  rintro e w6 ⟨a6, c6, rfl, hl6, hg6⟩
  have hg65 : Below w5.heap.size w5 w6 := ((Grew.refl w5).alloc _).below.trans (hg6.mono (by simp))
  have hb6 : Below w.heap.size w w6 := hb5.trans (hg65.mono hb5.size)
  have HV1 : Hid (Calls Try.prog 10 #[.slice a3 3 c3, .slice a6 3 c6] w6 fun e w' => e = .returned (.bool true) ∧ Below w6.heap.size w6 w') := values_one 16 [iv 0, iv 1, iv 2] _ _ w6 (HL5.out.keeps hg65).lies hl6 (by simp)
  have HV2 : Hid (∀ V, Below w6.heap.size w6 V → Calls Try.prog 10 #[.slice a3 3 c3, .slice a4 3 c4] V fun e w' => e = .returned (.bool true) ∧ Below V.heap.size V w') := fun V hV => values_one 16 [iv 0, iv 1, iv 2] _ _ V ((HL5.out.keeps hg65).keeps hV).lies ((HM5.out.keeps hg65).keeps hV).lies (by simp)
  clear hg6 hg65 hl6 HIn HL5 HM5 hb5
  go_wp2_with fail
  refine Calls.mono HV1.out ?_
  rintro e w7 ⟨rfl, hg7⟩
  have hb7 : Below w.heap.size w w7 := hb6.trans (hg7.mono hb6.size)
  have HV3 : Hid _ := HV2.out _ hg7
  clear hg7 HV1 HV2 hb6
  go_wp2_with fail
  refine Calls.mono HV3.out ?_
  rintro e w8 ⟨rfl, hg8⟩
  have hb8 : Below w.heap.size w w8 := hb7.trans (hg8.mono hb7.size)
  clear hg8 HV3 hb7
  go_wp2_with fail
  go_ret
  exact ⟨rfl, hb8⟩

end Go.Proofs.Ytbhfbjbigafnpaa

