/-
  Same, the program's and the document's.
-/
import Derived.Test.YtbhfbjbigafnpaaGreatSameP
import Derived.Test.YtbhfbjbigafnpaaGreatStateS
import Derived.WalkMore
namespace Go.Proofs.YtbhfbjbigafnpaaGreat
open Go.RowKit Go.Shelf

set_option maxRecDepth 100000 in
set_option maxHeartbeats 16000000 in
theorem ssame_any (Y1 Y2 : Nat → Prop) (vs1 vs2 : List VT) (T1 T2 : Tl) (P Q : Nat → Nat) (n f : Nat) (hn : n ≤ 65536) (hf : f ≤ 1073741824) (w : World) (h1 : Chn pCK Y1 w vs1 T1 P) (h2 : Chn pCK Y2 w vs2 T2 Q) (hd : (∀ j, j ≤ vs1.length → ¬ Y2 (P j)) ∧ ∀ j, j ≤ vs2.length → ¬ Y1 (Q j)) :
    Calls Tryz.prog 15 #[.pointer (some ⟨P 0, 0, none⟩), .pointer (some ⟨Q 0, 0, none⟩), .int .i64 (n : Int), .int .i64 (f : Int)] w (SamePost pCK Y1 Y2 w P Q vs1.length vs2.length (smW n ⟨vs1, T1, 0⟩ ⟨vs2, T2, 0⟩ f)) := by
  have HC : Hid (∀ V, Calls Tryz.prog 41 #[.int .i64 (n : Int), .int .i64 (f : Int)] V fun e w' => e = .returned (.int .i64 0) ∧ w' = V) := fun V => scheck_ok n f hn hf V
  have HEq : Hid (∀ (x y : VT) (ax : Option Addr) (cx : Nat) (ay : Option Addr) (cy : Nat) V, Lies 16 V x.items (.slice ax x.items.length cx) → Lies 16 V y.items (.slice ay y.items.length cy) → Calls Tryz.prog 48 #[.agg #[.int .i64 x.kind, .int .i64 x.num, .string x.text, .slice ax x.items.length cx], .agg #[.int .i64 y.kind, .int .i64 y.num, .string y.text, .slice ay y.items.length cy]] V fun e w' => e = .returned (.bool (cmpV 16 x y == 0)) ∧ Below V.heap.size V w') := fun x y ax cx ay cy V h1 h2 => (equal23_any 16 x y _ _ V h1 h2).mono fun e w' h => ⟨h.1, h.2.below⟩
  have HS0 : Hid (Sm2 pCK Y1 Y2 w P Q vs1.length vs2.length ⟨vs1, T1, 0⟩ ⟨vs2, T2, 0⟩ (P 0) (Q 0) [] w) := ⟨⟨P, Q, Y1, Y2, (fun _ _ => rfl), (fun j a b => absurd a (by simp only at b; omega)), Nat.le_refl _, Nat.zero_le _, rfl, (fun _ _ => rfl), (fun j a b => absurd a (by simp only at b; omega)), Nat.le_refl _, Nat.zero_le _, rfl, h1, h2, hd, (fun _ _ h => h), (fun _ _ h => h), (fun x hx => by cases hx)⟩, KC.refl _ _⟩
  have Hn : Hid (n ≤ 65536 ∧ f ≤ 1073741824) := ⟨hn, hf⟩
  clear h1 h2 hd hn hf
  go_enter Tryz.func15, Tryz.ntmps15
  go_wp2_with fail
  go_step3
  go_wp2_with fail
  refine Calls.mono (HC.out _) ?_
  rintro e w9 ⟨rfl, hw9⟩
  obtain rfl : w = w9 := hw9.symm
  clear hw9 HC
  go_wp2_with fail
  go_step3
  go_wp2_with fail
  go_loopg [0, 1, 3, 12, 28] n (fun z v0 v1 v3 v12 vi wr => ∃ (j p q fl : Nat), v0 = .pointer (some ⟨p, 0, none⟩) ∧ v1 = .pointer (some ⟨q, 0, none⟩) ∧ v3 = .int .i64 (fl : Int) ∧ v12 = .bool true ∧ vi = .int .i64 (j : Int) ∧ z = n - j ∧ j ≤ n ∧ Hid (∃ (s' t' : SS), fl ≤ 1073741824 ∧ smW n ⟨vs1, T1, 0⟩ ⟨vs2, T2, 0⟩ f = smW (n - j) s' t' fl ∧ Sm2 pCK Y1 Y2 w P Q vs1.length vs2.length s' t' p q [] wr))
  case atStart => exact ⟨0, P 0, Q 0, f, rfl, rfl, rfl, rfl, rfl, by omega, by omega, _, _, Hn.out.2, rfl, HS0.out⟩
  case round =>
    obtain ⟨j, p, q, fl, rfl, rfl, rfl, rfl, rfl, hg, hj, HI⟩ := hrel
    have Hg : Hid (gk = n - j) := hg
    clear hg HS0
    by_cases hlt : j < n
    · have hji : (j : Int) < (n : Int) := by omega
      have e1 : IntKind.i64.wrap ((j : Int) + 1) = ((j + 1 : Nat) : Int) := by have := Hn.out; rw [IntKind.wrap_i64]; omega
      obtain ⟨k, hk⟩ : ∃ k, n - j = k + 1 := ⟨n - j - 1, by omega⟩
      obtain ⟨s', t', hfl, hE0, hR⟩ := HI.out
      rw [hk, smW] at hE0
      have HE : Hid _ := hE0
      have HFo : Hid _ := hR.force 47 pForce fl hfl
      clear hfl hE0 hR HI
      cases hr : frcC s' fl with
      | err e0 s2 =>
        rw [hr] at HFo HE
        go_wp2_with fail
        refine Calls.mono HFo.out ?_
        rintro e w3 ⟨hk3, ⟨ax, cx, rfl⟩, hT⟩
        have he0 : ¬ (e0 : Int) = 0 := by rw [frcC_e hr]; omega
        have HZ : Hid (∀ Z, Below w3.heap.size w3 Z → SamePost pCK Y1 Y2 w P Q vs1.length vs2.length (smW n ⟨vs1, T1, 0⟩ ⟨vs2, T2, 0⟩ f) (.returned (.tuple #[.bool false, .int .i64 0, .int .i64 (e0 : Int)])) Z) := fun Z hZ => by
          rw [HE.out]
          exact ⟨⟨_, _, hT.keeps hZ⟩, rfl⟩
        clear hk3 hT HFo HE HEq
        go_wp2_with fail
        try rw [Exit.noGoto_ret]
        refine bodyPost_ret (v := .tuple #[.bool false, .int .i64 0, .int .i64 (e0 : Int)]) ?_ rfl (HZ.out _ (((Grew.refl _).alloc _).below))
        simp [results, Tryz.results15, go_sem]
      | emp l s2 =>
        rw [hr] at HFo HE
        go_wp2_with fail
        refine Calls.mono HFo.out ?_
        rintro e w3 ⟨hk3, ⟨ax, cx, rfl⟩, hle, hT⟩
        have HFo2 : Hid _ := hT.force2 47 pForce (((Grew.refl w3).alloc (.cells #[.int .i64 0, .int .i64 0, .string ⟨#[]⟩, .slice ax 0 cx] 24)).below) l hle
        clear hk3 hT HFo
        cases hr2 : frcC t' l with
        | err e0 t2 =>
          rw [hr2] at HFo2 HE
          go_wp2_with fail
          refine Calls.mono HFo2.out ?_
          rintro e w4 ⟨hk4, ⟨ay, cy, rfl⟩, hT⟩
          have he0 : ¬ (e0 : Int) = 0 := by rw [frcC_e hr2]; omega
          have HZ : Hid (∀ Z, Below w4.heap.size w4 Z → SamePost pCK Y1 Y2 w P Q vs1.length vs2.length (smW n ⟨vs1, T1, 0⟩ ⟨vs2, T2, 0⟩ f) (.returned (.tuple #[.bool false, .int .i64 0, .int .i64 (e0 : Int)])) Z) := fun Z hZ => by
            rw [HE.out]
            exact ⟨⟨_, _, hT.keeps hZ⟩, rfl⟩
          clear hk4 hT HFo2 HE HEq
          go_wp2_with fail
          try rw [Exit.noGoto_ret]
          refine bodyPost_ret (v := .tuple #[.bool false, .int .i64 0, .int .i64 (e0 : Int)]) ?_ rfl (HZ.out _ (((Grew.refl _).alloc _).below))
          simp [results, Tryz.results15, go_sem]
        | emp l2 t2 =>
          rw [hr2] at HFo2 HE
          go_wp2_with fail
          refine Calls.mono HFo2.out ?_
          rintro e w4 ⟨hk4, ⟨ay, cy, rfl⟩, hle2, hT⟩
          have HZ : Hid (∀ Z, Below w4.heap.size w4 Z → SamePost pCK Y1 Y2 w P Q vs1.length vs2.length (smW n ⟨vs1, T1, 0⟩ ⟨vs2, T2, 0⟩ f) (.returned (.tuple #[.bool true, .int .i64 (l2 : Int), .int .i64 0])) Z) := fun Z hZ => by
            rw [HE.out]
            exact ⟨⟨_, _, hT.keeps hZ⟩, rfl⟩
          clear hk4 hT HFo2 HE HEq
          go_wp2_with fail
          try rw [Exit.noGoto_ret]
          refine bodyPost_ret (v := .tuple #[.bool true, .int .i64 (l2 : Int), .int .i64 0]) ?_ rfl (HZ.out _ (((Grew.refl _).alloc _).below))
          simp [results, Tryz.results15, go_sem]
        | item y l2 t2 =>
          rw [hr2] at HFo2 HE
          go_wp2_with fail
          refine Calls.mono HFo2.out ?_
          rintro e w4 ⟨hk4, q2, ay, cy, rfl, hle2, _, _, hT, _⟩
          have HZ : Hid (∀ Z, Below w4.heap.size w4 Z → SamePost pCK Y1 Y2 w P Q vs1.length vs2.length (smW n ⟨vs1, T1, 0⟩ ⟨vs2, T2, 0⟩ f) (.returned (.tuple #[.bool false, .int .i64 (l2 : Int), .int .i64 0])) Z) := fun Z hZ => by
            rw [HE.out]
            exact ⟨⟨_, _, hT.keeps hZ⟩, rfl⟩
          clear hk4 hT HFo2 HE HEq
          go_wp2_with fail
          try rw [Exit.noGoto_ret]
          refine bodyPost_ret (v := .tuple #[.bool false, .int .i64 (l2 : Int), .int .i64 0]) ?_ rfl (HZ.out _ (((Grew.refl _).alloc _).below))
          simp [results, Tryz.results15, go_sem]
      | item x l s2 =>
        rw [hr] at HFo HE
        go_wp2_with fail
        refine Calls.mono HFo.out ?_
        rintro e w3 ⟨hk3, p2, ax, cx, rfl, hle, _, hT⟩
        have HFo2 : Hid _ := hT.force2 47 pForce (((Grew.refl w3).alloc (.cells #[.int .i64 x.kind, .int .i64 x.num, .string x.text, .slice ax x.items.length cx] 24)).below) l hle
        have HX1 : Hid (Bx (w3.alloc (.cells #[.int .i64 x.kind, .int .i64 x.num, .string x.text, .slice ax x.items.length cx] 24)) w3.heap.size x (.slice ax x.items.length cx)) := bx_alloc w3 x _
        clear hk3 hT HFo
        cases hr2 : frcC t' l with
        | err e0 t2 =>
          rw [hr2] at HFo2 HE
          go_wp2_with fail
          refine Calls.mono HFo2.out ?_
          rintro e w4 ⟨hk4, ⟨ay, cy, rfl⟩, hT⟩
          have he0 : ¬ (e0 : Int) = 0 := by rw [frcC_e hr2]; omega
          have HZ : Hid (∀ Z, Below w4.heap.size w4 Z → SamePost pCK Y1 Y2 w P Q vs1.length vs2.length (smW n ⟨vs1, T1, 0⟩ ⟨vs2, T2, 0⟩ f) (.returned (.tuple #[.bool false, .int .i64 0, .int .i64 (e0 : Int)])) Z) := fun Z hZ => by
            rw [HE.out]
            exact ⟨⟨_, _, hT.keeps hZ⟩, rfl⟩
          clear hk4 hT HFo2 HE HEq
          go_wp2_with fail
          try rw [Exit.noGoto_ret]
          refine bodyPost_ret (v := .tuple #[.bool false, .int .i64 0, .int .i64 (e0 : Int)]) ?_ rfl (HZ.out _ (((Grew.refl _).alloc _).below))
          simp [results, Tryz.results15, go_sem]
        | emp l2 t2 =>
          rw [hr2] at HFo2 HE
          go_wp2_with fail
          refine Calls.mono HFo2.out ?_
          rintro e w4 ⟨hk4, ⟨ay, cy, rfl⟩, hle2, hT⟩
          have HZ : Hid (∀ Z, Below w4.heap.size w4 Z → SamePost pCK Y1 Y2 w P Q vs1.length vs2.length (smW n ⟨vs1, T1, 0⟩ ⟨vs2, T2, 0⟩ f) (.returned (.tuple #[.bool false, .int .i64 (l2 : Int), .int .i64 0])) Z) := fun Z hZ => by
            rw [HE.out]
            exact ⟨⟨_, _, hT.keeps hZ⟩, rfl⟩
          clear hk4 hT HFo2 HE HEq
          go_wp2_with fail
          try rw [Exit.noGoto_ret]
          refine bodyPost_ret (v := .tuple #[.bool false, .int .i64 (l2 : Int), .int .i64 0]) ?_ rfl (HZ.out _ (((Grew.refl _).alloc _).below))
          simp [results, Tryz.results15, go_sem]
        | item y l2 t2 =>
          rw [hr2] at HFo2 HE
          go_wp2_with fail
          refine Calls.mono HFo2.out ?_
          rintro e w4 ⟨hk4, q2, ay, cy, rfl, hle2, _, hly, hT, hxs⟩
          obtain ⟨y0, y1, y2, y3, _, _, _, _⟩ := hk4.bx (Nat.lt_irrefl _) HX1.out
          have hy : w3.heap.size < w4.heap.size := cell_lt y0
          have hxl : Lies 16 w4 x.items (.slice ax x.items.length cx) := hxs _ (List.mem_singleton.2 rfl)
          have hbv : Below w4.heap.size w4 (w4.alloc (.cells #[.int .i64 y.kind, .int .i64 y.num, .string y.text, .slice ay y.items.length cy] 24)) := ((Grew.refl w4).alloc _).below
          have HQ : Hid _ := HEq.out x y ax cx ay cy _ (Lies.keeps hbv _ _ _ hxl) (Lies.keeps hbv _ _ _ hly)
          have HT : Hid (∀ Z, Below w4.heap.size w4 Z → Sm2 pCK Y1 Y2 w P Q vs1.length vs2.length s2 t2 p2 q2 [] Z) := fun Z hZ => hT.keeps hZ
          have p0 : ∀ A, (w4.alloc A).cell? ⟨w3.heap.size, 0, none⟩ = some _ := fun A => cell_keeps ((Grew.refl w4).alloc A).below y0
          have p1 : ∀ A, (w4.alloc A).cell? ⟨w3.heap.size, 1, none⟩ = some _ := fun A => cell_keeps ((Grew.refl w4).alloc A).below y1
          have p2' : ∀ A, (w4.alloc A).cell? ⟨w3.heap.size, 2, none⟩ = some _ := fun A => cell_keeps ((Grew.refl w4).alloc A).below y2
          have p3 : ∀ A, (w4.alloc A).cell? ⟨w3.heap.size, 3, none⟩ = some _ := fun A => cell_keeps ((Grew.refl w4).alloc A).below y3
          clear hk4 hT HFo2 hly hxs hxl HX1 HEq hbv
          cases hc : (cmpV 16 x y == 0) with
          | true =>
            rw [hc] at HQ HE
            go_wp2_with fail
            refine Calls.mono HQ.out ?_
            rintro e w5 ⟨rfl, hg5⟩
            have hb5 : Below w4.heap.size w4 w5 := ((Grew.refl w4).alloc _).below.trans (hg5.mono (by simp))
            have HT5 : Hid _ := HT.out w5 hb5
            clear hg5 hb5 HQ HT y0 y1 y2 y3 p0 p1 p2' p3
            go_wp2_with fail
            go_roundg (n - (j + 1))
            case measure => have := Hg.out; omega
            case rel =>
              refine ⟨j + 1, p2, q2, l2, rfl, rfl, rfl, rfl, by go_num, rfl, by omega, s2, t2, hle2, ?_, HT5.out⟩
              rw [HE.out, show n - (j + 1) = k by omega]
              first | rfl | simp
          | false =>
            rw [hc] at HQ HE
            go_wp2_with fail
            refine Calls.mono HQ.out ?_
            rintro e w5 ⟨rfl, hg5⟩
            have hb5 : Below w4.heap.size w4 w5 := ((Grew.refl w4).alloc _).below.trans (hg5.mono (by simp))
            have HZ : Hid (∀ Z, Z = w5 → SamePost pCK Y1 Y2 w P Q vs1.length vs2.length (smW n ⟨vs1, T1, 0⟩ ⟨vs2, T2, 0⟩ f) (.returned (.tuple #[.bool false, .int .i64 (l2 : Int), .int .i64 0])) Z) := fun Z hZ => by
              rw [HE.out, if_neg (by simp), hZ]
              exact ⟨⟨_, _, HT.out w5 hb5⟩, rfl⟩
            clear hg5 hb5 HQ HT y0 y1 y2 y3 p0 p1 p2' p3 HE
            go_wp2_with fail
            try rw [Exit.noGoto_ret]
            refine bodyPost_ret (v := .tuple #[.bool false, .int .i64 (l2 : Int), .int .i64 0]) ?_ rfl (HZ.out _ (rfl))
            simp [results, Tryz.results15, go_sem]
    · have hji : ¬ (j : Int) < (n : Int) := by omega
      have HZ : Hid (∀ Z, Z = wr → SamePost pCK Y1 Y2 w P Q vs1.length vs2.length (smW n ⟨vs1, T1, 0⟩ ⟨vs2, T2, 0⟩ f) (.returned (.tuple #[.bool true, .int .i64 (fl : Int), .int .i64 0])) Z) := fun Z hZ => by
        obtain ⟨s', t', hfl, hE0, hR⟩ := HI.out
        rw [show n - j = 0 by omega] at hE0
        rw [hE0, hZ]
        exact ⟨⟨_, _, hR⟩, rfl⟩
      clear HI HEq
      go_wp2_with fail
      try rw [Exit.noGoto_ret]
      refine bodyPost_ret (v := .tuple #[.bool true, .int .i64 (fl : Int), .int .i64 0]) ?_ rfl (HZ.out _ (rfl))
      simp [results, Tryz.results15, go_sem]

set_option maxRecDepth 100000 in
theorem ssame_bad (c d : Option Addr) (n f : Int) (h : (n < 0 ∨ 65536 < n) ∨ (f < 0 ∨ 1073741824 < f)) (w : World) : Calls Tryz.prog 15 #[.pointer c, .pointer d, .int .i64 n, .int .i64 f] w fun e w' => e = .returned (.tuple #[.bool false, .int .i64 0, .int .i64 1]) ∧ Below w.heap.size w w' := by
  have HC : Hid (∀ V, Calls Tryz.prog 41 #[.int .i64 n, .int .i64 f] V fun e w' => e = .returned (.int .i64 1) ∧ w' = V) := fun V => scheck_bad n f h V
  have HB : Hid (Below w.heap.size w w) := Below.refl _ _
  clear h
  go_enter Tryz.func15, Tryz.ntmps15
  go_wp2_with fail
  go_step3
  go_wp2_with fail
  refine Calls.mono (HC.out _) ?_
  rintro e w9 ⟨rfl, hw9⟩
  obtain rfl : w = w9 := hw9.symm
  clear hw9 HC
  go_wp2_with fail
  try rw [Exit.noGoto_ret]
  refine bodyPost_ret (v := .tuple #[.bool false, .int .i64 0, .int .i64 1]) ?_ rfl ⟨rfl, HB.out⟩
  simp [results, Tryz.results15, go_sem]

set_option maxRecDepth 100000 in
set_option maxHeartbeats 16000000 in
theorem srsame_any (Y1 Y2 : Nat → Prop) (vs1 vs2 : List VT) (T1 T2 : Tl) (P Q : Nat → Nat) (n f : Nat) (hn : n ≤ 65536) (hf : f ≤ 1073741824) (w : World) (h1 : Chn dCK Y1 w vs1 T1 P) (h2 : Chn dCK Y2 w vs2 T2 Q) (hd : (∀ j, j ≤ vs1.length → ¬ Y2 (P j)) ∧ ∀ j, j ≤ vs2.length → ¬ Y1 (Q j)) :
    Calls Tryz.prog 16 #[.pointer (some ⟨P 0, 0, none⟩), .pointer (some ⟨Q 0, 0, none⟩), .int .i64 (n : Int), .int .i64 (f : Int)] w (SamePost dCK Y1 Y2 w P Q vs1.length vs2.length (smW n ⟨vs1, T1, 0⟩ ⟨vs2, T2, 0⟩ f)) := by
  have HC : Hid (∀ V, Calls Tryz.prog 44 #[.int .i64 (n : Int), .int .i64 (f : Int)] V fun e w' => e = .returned (.int .i64 0) ∧ w' = V) := fun V => rasked_ok n f hn hf V
  have HEq : Hid (∀ (x y : VT) (ax : Option Addr) (cx : Nat) (ay : Option Addr) (cy : Nat) V, Lies 16 V x.items (.slice ax x.items.length cx) → Lies 16 V y.items (.slice ay y.items.length cy) → Calls Tryz.prog 49 #[.agg #[.int .i64 x.kind, .int .i64 x.num, .string x.text, .slice ax x.items.length cx], .agg #[.int .i64 y.kind, .int .i64 y.num, .string y.text, .slice ay y.items.length cy]] V fun e w' => e = .returned (.bool (cmpV 16 x y == 0)) ∧ Below V.heap.size V w') := fun x y ax cx ay cy V h1 h2 => rsame23_any x y _ _ V h1 h2
  have HS0 : Hid (Sm2 dCK Y1 Y2 w P Q vs1.length vs2.length ⟨vs1, T1, 0⟩ ⟨vs2, T2, 0⟩ (P 0) (Q 0) [] w) := ⟨⟨P, Q, Y1, Y2, (fun _ _ => rfl), (fun j a b => absurd a (by simp only at b; omega)), Nat.le_refl _, Nat.zero_le _, rfl, (fun _ _ => rfl), (fun j a b => absurd a (by simp only at b; omega)), Nat.le_refl _, Nat.zero_le _, rfl, h1, h2, hd, (fun _ _ h => h), (fun _ _ h => h), (fun x hx => by cases hx)⟩, KC.refl _ _⟩
  have Hn : Hid (n ≤ 65536 ∧ f ≤ 1073741824) := ⟨hn, hf⟩
  clear h1 h2 hd hn hf
  go_enter Tryz.func16, Tryz.ntmps16
  go_wp2_with fail
  refine Calls.mono (HC.out _) ?_
  rintro e w9 ⟨rfl, hw9⟩
  obtain rfl : w = w9 := hw9.symm
  clear hw9 HC
  go_wp2_with fail
  go_loopg [0, 1, 3, 12] n (fun z v0 v1 v3 vi wr => ∃ (j p q fl : Nat), v0 = .pointer (some ⟨p, 0, none⟩) ∧ v1 = .pointer (some ⟨q, 0, none⟩) ∧ v3 = .int .i64 (fl : Int) ∧ vi = .int .i64 (j : Int) ∧ z = n - j ∧ j ≤ n ∧ Hid (∃ (s' t' : SS), fl ≤ 1073741824 ∧ smW n ⟨vs1, T1, 0⟩ ⟨vs2, T2, 0⟩ f = smW (n - j) s' t' fl ∧ Sm2 dCK Y1 Y2 w P Q vs1.length vs2.length s' t' p q [] wr))
  case atStart => exact ⟨0, P 0, Q 0, f, rfl, rfl, rfl, rfl, by omega, by omega, _, _, Hn.out.2, rfl, HS0.out⟩
  case round =>
    obtain ⟨j, p, q, fl, rfl, rfl, rfl, rfl, hg, hj, HI⟩ := hrel
    have Hg : Hid (gk = n - j) := hg
    clear hg HS0
    by_cases hlt : j < n
    · have hji : (j : Int) < (n : Int) := by omega
      have e1 : IntKind.i64.wrap ((j : Int) + 1) = ((j + 1 : Nat) : Int) := by have := Hn.out; rw [IntKind.wrap_i64]; omega
      obtain ⟨k, hk⟩ : ∃ k, n - j = k + 1 := ⟨n - j - 1, by omega⟩
      obtain ⟨s', t', hfl, hE0, hR⟩ := HI.out
      rw [hk, smW] at hE0
      have HE : Hid _ := hE0
      have HFo : Hid _ := hR.force 45 dForce fl hfl
      clear hfl hE0 hR HI
      cases hr : frcC s' fl with
      | err e0 s2 =>
        rw [hr] at HFo HE
        go_wp2_with fail
        refine Calls.mono HFo.out ?_
        rintro e w3 ⟨hk3, ⟨ax, cx, rfl⟩, hT⟩
        have he0 : ¬ (e0 : Int) = 0 := by rw [frcC_e hr]; omega
        have HZ : Hid (∀ Z, Below w3.heap.size w3 Z → SamePost dCK Y1 Y2 w P Q vs1.length vs2.length (smW n ⟨vs1, T1, 0⟩ ⟨vs2, T2, 0⟩ f) (.returned (.tuple #[.bool false, .int .i64 0, .int .i64 (e0 : Int)])) Z) := fun Z hZ => by
          rw [HE.out]
          exact ⟨⟨_, _, hT.keeps hZ⟩, rfl⟩
        clear hk3 hT HFo HE HEq
        go_wp2_with fail
        refine bodyPost_ret (v := .tuple #[.bool false, .int .i64 0, .int .i64 (e0 : Int)]) ?_ rfl (HZ.out _ (((Grew.refl _).alloc _).below))
        simp [results, Tryz.results16, go_sem]
      | emp l s2 =>
        rw [hr] at HFo HE
        go_wp2_with fail
        refine Calls.mono HFo.out ?_
        rintro e w3 ⟨hk3, ⟨ax, cx, rfl⟩, hle, hT⟩
        have HFo2 : Hid _ := hT.force2 45 dForce (((Grew.refl w3).alloc (.cells #[.int .i64 0, .int .i64 0, .string ⟨#[]⟩, .slice ax 0 cx] 24)).below) l hle
        clear hk3 hT HFo
        cases hr2 : frcC t' l with
        | err e0 t2 =>
          rw [hr2] at HFo2 HE
          go_wp2_with fail
          refine Calls.mono HFo2.out ?_
          rintro e w4 ⟨hk4, ⟨ay, cy, rfl⟩, hT⟩
          have he0 : ¬ (e0 : Int) = 0 := by rw [frcC_e hr2]; omega
          have HZ : Hid (∀ Z, Below w4.heap.size w4 Z → SamePost dCK Y1 Y2 w P Q vs1.length vs2.length (smW n ⟨vs1, T1, 0⟩ ⟨vs2, T2, 0⟩ f) (.returned (.tuple #[.bool false, .int .i64 0, .int .i64 (e0 : Int)])) Z) := fun Z hZ => by
            rw [HE.out]
            exact ⟨⟨_, _, hT.keeps hZ⟩, rfl⟩
          clear hk4 hT HFo2 HE HEq
          go_wp2_with fail
          refine bodyPost_ret (v := .tuple #[.bool false, .int .i64 0, .int .i64 (e0 : Int)]) ?_ rfl (HZ.out _ (((Grew.refl _).alloc _).below))
          simp [results, Tryz.results16, go_sem]
        | emp l2 t2 =>
          rw [hr2] at HFo2 HE
          go_wp2_with fail
          refine Calls.mono HFo2.out ?_
          rintro e w4 ⟨hk4, ⟨ay, cy, rfl⟩, hle2, hT⟩
          have HZ : Hid (∀ Z, Below w4.heap.size w4 Z → SamePost dCK Y1 Y2 w P Q vs1.length vs2.length (smW n ⟨vs1, T1, 0⟩ ⟨vs2, T2, 0⟩ f) (.returned (.tuple #[.bool true, .int .i64 (l2 : Int), .int .i64 0])) Z) := fun Z hZ => by
            rw [HE.out]
            exact ⟨⟨_, _, hT.keeps hZ⟩, rfl⟩
          clear hk4 hT HFo2 HE HEq
          go_wp2_with fail
          refine bodyPost_ret (v := .tuple #[.bool true, .int .i64 (l2 : Int), .int .i64 0]) ?_ rfl (HZ.out _ (((Grew.refl _).alloc _).below))
          simp [results, Tryz.results16, go_sem]
        | item y l2 t2 =>
          rw [hr2] at HFo2 HE
          go_wp2_with fail
          refine Calls.mono HFo2.out ?_
          rintro e w4 ⟨hk4, q2, ay, cy, rfl, hle2, _, _, hT, _⟩
          have HZ : Hid (∀ Z, Below w4.heap.size w4 Z → SamePost dCK Y1 Y2 w P Q vs1.length vs2.length (smW n ⟨vs1, T1, 0⟩ ⟨vs2, T2, 0⟩ f) (.returned (.tuple #[.bool false, .int .i64 (l2 : Int), .int .i64 0])) Z) := fun Z hZ => by
            rw [HE.out]
            exact ⟨⟨_, _, hT.keeps hZ⟩, rfl⟩
          clear hk4 hT HFo2 HE HEq
          go_wp2_with fail
          refine bodyPost_ret (v := .tuple #[.bool false, .int .i64 (l2 : Int), .int .i64 0]) ?_ rfl (HZ.out _ (((Grew.refl _).alloc _).below))
          simp [results, Tryz.results16, go_sem]
      | item x l s2 =>
        rw [hr] at HFo HE
        go_wp2_with fail
        refine Calls.mono HFo.out ?_
        rintro e w3 ⟨hk3, p2, ax, cx, rfl, hle, _, hT⟩
        have HFo2 : Hid _ := hT.force2 45 dForce (((Grew.refl w3).alloc (.cells #[.int .i64 x.kind, .int .i64 x.num, .string x.text, .slice ax x.items.length cx] 24)).below) l hle
        have HX1 : Hid (Bx (w3.alloc (.cells #[.int .i64 x.kind, .int .i64 x.num, .string x.text, .slice ax x.items.length cx] 24)) w3.heap.size x (.slice ax x.items.length cx)) := bx_alloc w3 x _
        clear hk3 hT HFo
        cases hr2 : frcC t' l with
        | err e0 t2 =>
          rw [hr2] at HFo2 HE
          go_wp2_with fail
          refine Calls.mono HFo2.out ?_
          rintro e w4 ⟨hk4, ⟨ay, cy, rfl⟩, hT⟩
          have he0 : ¬ (e0 : Int) = 0 := by rw [frcC_e hr2]; omega
          have HZ : Hid (∀ Z, Below w4.heap.size w4 Z → SamePost dCK Y1 Y2 w P Q vs1.length vs2.length (smW n ⟨vs1, T1, 0⟩ ⟨vs2, T2, 0⟩ f) (.returned (.tuple #[.bool false, .int .i64 0, .int .i64 (e0 : Int)])) Z) := fun Z hZ => by
            rw [HE.out]
            exact ⟨⟨_, _, hT.keeps hZ⟩, rfl⟩
          clear hk4 hT HFo2 HE HEq
          go_wp2_with fail
          refine bodyPost_ret (v := .tuple #[.bool false, .int .i64 0, .int .i64 (e0 : Int)]) ?_ rfl (HZ.out _ (((Grew.refl _).alloc _).below))
          simp [results, Tryz.results16, go_sem]
        | emp l2 t2 =>
          rw [hr2] at HFo2 HE
          go_wp2_with fail
          refine Calls.mono HFo2.out ?_
          rintro e w4 ⟨hk4, ⟨ay, cy, rfl⟩, hle2, hT⟩
          have HZ : Hid (∀ Z, Below w4.heap.size w4 Z → SamePost dCK Y1 Y2 w P Q vs1.length vs2.length (smW n ⟨vs1, T1, 0⟩ ⟨vs2, T2, 0⟩ f) (.returned (.tuple #[.bool false, .int .i64 (l2 : Int), .int .i64 0])) Z) := fun Z hZ => by
            rw [HE.out]
            exact ⟨⟨_, _, hT.keeps hZ⟩, rfl⟩
          clear hk4 hT HFo2 HE HEq
          go_wp2_with fail
          refine bodyPost_ret (v := .tuple #[.bool false, .int .i64 (l2 : Int), .int .i64 0]) ?_ rfl (HZ.out _ (((Grew.refl _).alloc _).below))
          simp [results, Tryz.results16, go_sem]
        | item y l2 t2 =>
          rw [hr2] at HFo2 HE
          go_wp2_with fail
          refine Calls.mono HFo2.out ?_
          rintro e w4 ⟨hk4, q2, ay, cy, rfl, hle2, _, hly, hT, hxs⟩
          obtain ⟨y0, y1, y2, y3, _, _, _, _⟩ := hk4.bx (Nat.lt_irrefl _) HX1.out
          have hy : w3.heap.size < w4.heap.size := cell_lt y0
          have hxl : Lies 16 w4 x.items (.slice ax x.items.length cx) := hxs _ (List.mem_singleton.2 rfl)
          have hbv : Below w4.heap.size w4 (w4.alloc (.cells #[.int .i64 y.kind, .int .i64 y.num, .string y.text, .slice ay y.items.length cy] 24)) := ((Grew.refl w4).alloc _).below
          have HQ : Hid _ := HEq.out x y ax cx ay cy _ (Lies.keeps hbv _ _ _ hxl) (Lies.keeps hbv _ _ _ hly)
          have HT : Hid (∀ Z, Below w4.heap.size w4 Z → Sm2 dCK Y1 Y2 w P Q vs1.length vs2.length s2 t2 p2 q2 [] Z) := fun Z hZ => hT.keeps hZ
          have p0 : ∀ A, (w4.alloc A).cell? ⟨w3.heap.size, 0, none⟩ = some _ := fun A => cell_keeps ((Grew.refl w4).alloc A).below y0
          have p1 : ∀ A, (w4.alloc A).cell? ⟨w3.heap.size, 1, none⟩ = some _ := fun A => cell_keeps ((Grew.refl w4).alloc A).below y1
          have p2' : ∀ A, (w4.alloc A).cell? ⟨w3.heap.size, 2, none⟩ = some _ := fun A => cell_keeps ((Grew.refl w4).alloc A).below y2
          have p3 : ∀ A, (w4.alloc A).cell? ⟨w3.heap.size, 3, none⟩ = some _ := fun A => cell_keeps ((Grew.refl w4).alloc A).below y3
          clear hk4 hT HFo2 hly hxs hxl HX1 HEq hbv
          cases hc : (cmpV 16 x y == 0) with
          | true =>
            rw [hc] at HQ HE
            go_wp2_with fail
            refine Calls.mono HQ.out ?_
            rintro e w5 ⟨rfl, hg5⟩
            have hb5 : Below w4.heap.size w4 w5 := ((Grew.refl w4).alloc _).below.trans (hg5.mono (by simp))
            have HT5 : Hid _ := HT.out w5 hb5
            clear hg5 hb5 HQ HT y0 y1 y2 y3 p0 p1 p2' p3
            go_wp2_with fail
            go_roundg (n - (j + 1))
            case measure => have := Hg.out; omega
            case rel =>
              refine ⟨j + 1, p2, q2, l2, rfl, rfl, rfl, by go_num, rfl, by omega, s2, t2, hle2, ?_, HT5.out⟩
              rw [HE.out, show n - (j + 1) = k by omega]
              first | rfl | simp
          | false =>
            rw [hc] at HQ HE
            go_wp2_with fail
            refine Calls.mono HQ.out ?_
            rintro e w5 ⟨rfl, hg5⟩
            have hb5 : Below w4.heap.size w4 w5 := ((Grew.refl w4).alloc _).below.trans (hg5.mono (by simp))
            have HZ : Hid (∀ Z, Z = w5 → SamePost dCK Y1 Y2 w P Q vs1.length vs2.length (smW n ⟨vs1, T1, 0⟩ ⟨vs2, T2, 0⟩ f) (.returned (.tuple #[.bool false, .int .i64 (l2 : Int), .int .i64 0])) Z) := fun Z hZ => by
              rw [HE.out, if_neg (by simp), hZ]
              exact ⟨⟨_, _, HT.out w5 hb5⟩, rfl⟩
            clear hg5 hb5 HQ HT y0 y1 y2 y3 p0 p1 p2' p3 HE
            go_wp2_with fail
            refine bodyPost_ret (v := .tuple #[.bool false, .int .i64 (l2 : Int), .int .i64 0]) ?_ rfl (HZ.out _ (rfl))
            simp [results, Tryz.results16, go_sem]
    · have hji : ¬ (j : Int) < (n : Int) := by omega
      have HZ : Hid (∀ Z, Z = wr → SamePost dCK Y1 Y2 w P Q vs1.length vs2.length (smW n ⟨vs1, T1, 0⟩ ⟨vs2, T2, 0⟩ f) (.returned (.tuple #[.bool true, .int .i64 (fl : Int), .int .i64 0])) Z) := fun Z hZ => by
        obtain ⟨s', t', hfl, hE0, hR⟩ := HI.out
        rw [show n - j = 0 by omega] at hE0
        rw [hE0, hZ]
        exact ⟨⟨_, _, hR⟩, rfl⟩
      clear HI HEq
      go_wp2_with fail
      refine bodyPost_ret (v := .tuple #[.bool true, .int .i64 (fl : Int), .int .i64 0]) ?_ rfl (HZ.out _ (rfl))
      simp [results, Tryz.results16, go_sem]

set_option maxRecDepth 100000 in
theorem srsame_bad (c d : Option Addr) (n f : Int) (h : (n < 0 ∨ 65536 < n) ∨ (f < 0 ∨ 1073741824 < f)) (w : World) : Calls Tryz.prog 16 #[.pointer c, .pointer d, .int .i64 n, .int .i64 f] w fun e w' => e = .returned (.tuple #[.bool false, .int .i64 0, .int .i64 1]) ∧ Below w.heap.size w w' := by
  have HC : Hid (∀ V, Calls Tryz.prog 44 #[.int .i64 n, .int .i64 f] V fun e w' => e = .returned (.int .i64 1) ∧ w' = V) := fun V => rasked_bad n f h V
  have HB : Hid (Below w.heap.size w w) := Below.refl _ _
  clear h
  go_enter Tryz.func16, Tryz.ntmps16
  go_wp2_with fail
  refine Calls.mono (HC.out _) ?_
  rintro e w9 ⟨rfl, hw9⟩
  obtain rfl : w = w9 := hw9.symm
  clear hw9 HC
  go_wp2_with fail
  refine bodyPost_ret (v := .tuple #[.bool false, .int .i64 0, .int .i64 1]) ?_ rfl ⟨rfl, HB.out⟩
  simp [results, Tryz.results16, go_sem]

end Go.Proofs.YtbhfbjbigafnpaaGreat

