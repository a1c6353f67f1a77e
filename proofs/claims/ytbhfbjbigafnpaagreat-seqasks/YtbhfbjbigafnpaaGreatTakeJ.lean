/-
  What the walks of Take, Nth, Drop and Count keep.
-/
import Derived.Test.YtbhfbjbigafnpaaGreatRTakeM
import Derived.WalkMore
namespace Go.Proofs.YtbhfbjbigafnpaaGreat
open Go.RowKit Go.Shelf

set_option maxRecDepth 100000 in
set_option maxHeartbeats 8000000 in
theorem rcount_any (Y : Nat → Prop) (vs : List VT) (T : Tl) (P : Nat → Nat) (n f : Nat) (hn : n ≤ 65536) (hf : f ≤ 1073741824) (w : World) (h : Chn dCK Y w vs T P) (hY : ∀ n, w.heap.size ≤ n → Y n) :
    Calls Tryz.prog 40 #[.pointer (some ⟨P 0, 0, none⟩), .int .i64 (n : Int), .int .i64 (f : Int)] w (CountPost dCK Y w P vs.length (wlk frcC n ⟨vs, T, 0⟩ f)) := by
  have HT : Hid _ := rtake_any Y vs T P n f hn hf w h hY
  generalize wlk frcC n ⟨vs, T, 0⟩ f = r at *
  clear h hn hf hY
  go_enter Tryz.func40, Tryz.ntmps40
  go_wp2_with fail
  refine Calls.mono HT.out ?_
  rintro e w2 ⟨P', hA, ⟨he, rfl⟩ | ⟨he, a, c, rfl, _, _⟩⟩
  · have HE : Hid (CountPost dCK Y w P vs.length r (.returned (.tuple #[.int .i64 0, .int .i64 0, .int .i64 (r.err : Int)])) w2) := ⟨P', hA, .inl ⟨he, rfl⟩⟩
    clear hA he HT
    go_wp2_with fail
    refine bodyPost_ret (v := .tuple #[.int .i64 0, .int .i64 0, .int .i64 (r.err : Int)]) ?_ rfl HE.out
    simp [results, Tryz.results40, go_sem]
  · have HE : Hid (CountPost dCK Y w P vs.length r (.returned (.tuple #[.int .i64 (r.items.length : Int), .int .i64 (r.left : Int), .int .i64 0])) w2) := ⟨P', hA, .inr ⟨he, rfl⟩⟩
    clear hA he HT
    go_wp2_with fail
    refine bodyPost_ret (v := .tuple #[.int .i64 (r.items.length : Int), .int .i64 (r.left : Int), .int .i64 0]) ?_ rfl HE.out
    simp [results, Tryz.results40, go_sem]

set_option maxRecDepth 100000 in
set_option maxHeartbeats 8000000 in
theorem rdrop_any (Y : Nat → Prop) (vs : List VT) (T : Tl) (P : Nat → Nat) (n f : Nat) (hn : n ≤ 65536) (hf : f ≤ 1073741824) (w : World) (h : Chn dCK Y w vs T P) (hY : ∀ n, w.heap.size ≤ n → Y n) :
    Calls Tryz.prog 12 #[.pointer (some ⟨P 0, 0, none⟩), .int .i64 (n : Int), .int .i64 (f : Int)] w (DropPost dCK Y w P vs.length (wlk frcC n ⟨vs, T, 0⟩ f)) := by
  have HC : Hid (∀ V, Calls Tryz.prog 44 #[.int .i64 (n : Int), .int .i64 (f : Int)] V fun e w' => e = .returned (.int .i64 0) ∧ w' = V) := fun V => rasked_ok n f hn hf V
  have HM : Hid (∀ V, Calls Tryz.prog 29 #[] V fun e w' => e = .returned (.pointer (some ⟨V.heap.size, 0, none⟩)) ∧ Below V.heap.size V w' ∧ DB w' V.heap.size true false zeroT (.slice none 0 0) none 0 0 zeroT (.slice none 0 0)) := rempty_any
  have HJ0 : Hid (Tk dCK False Y (fun _ => False) w P vs.length ⟨vs, T, 0⟩ (P 0) w []) := Tk.start h 0 (by omega)
  have HY : Hid (∀ n, w.heap.size ≤ n → Y n) := hY
  have Hn : Hid (n ≤ 65536 ∧ f ≤ 1073741824) := ⟨hn, hf⟩
  clear h hn hf hY
  go_enter Tryz.func12, Tryz.ntmps12
  go_wp2_with fail
  refine Calls.mono (HC.out _) ?_
  rintro e w9 ⟨rfl, hw9⟩
  obtain rfl : w = w9 := hw9.symm
  clear hw9 HC
  go_wp2_with fail
  go_loopg [0, 2, 10] n (fun z v0 v2 v10 wr => ∃ (j p fl : Nat), v0 = .pointer (some ⟨p, 0, none⟩) ∧ v2 = .int .i64 (fl : Int) ∧ v10 = .int .i64 (j : Int) ∧ z = n - j ∧ j ≤ n ∧ Hid (∃ (l : List VT) (s' : SS), fl ≤ 1073741824 ∧ wlk frcC n ⟨vs, T, 0⟩ f = pre l (wlk frcC (n - j) s' fl) ∧ Tk dCK False Y (fun _ => False) w P vs.length s' p wr []))
  case atStart => exact ⟨0, P 0, f, rfl, rfl, rfl, by omega, by omega, [], _, Hn.out.2, rfl, HJ0.out⟩
  case round =>
    obtain ⟨j, p, fl, rfl, rfl, rfl, hg, hj, HI⟩ := hrel
    have Hg : Hid (gk = n - j) := hg
    clear hg HJ0
    by_cases hlt : j < n
    · have hji : (j : Int) < (n : Int) := by omega
      obtain ⟨k, hk⟩ : ∃ k, n - j = k + 1 := ⟨n - j - 1, by omega⟩
      obtain ⟨l, s', hfl, hE0, hR⟩ := HI.out
      have HFo : Hid (Calls Tryz.prog 45 #[.pointer (some ⟨p, 0, none⟩), .int .i64 (fl : Int)] wr (TkF dCK False Y (fun _ => False) w P vs.length p [] (frcC s' fl) wr)) := hR.force 45 dForce fl hfl
      have HE : Hid (wlk frcC n ⟨vs, T, 0⟩ f = pre l (wnx frcC k (frcC s' fl))) := by
        rw [hk, wlk_succ] at hE0
        exact hE0
      clear hfl hE0 hR HI
      cases hr : frcC s' fl with
      | err e0 s2 =>
        rw [hr] at HFo HE
        go_wp2_with fail
        refine Calls.mono HFo.out ?_
        rintro e w3 ⟨hk3, ⟨ax, cx, rfl⟩, hT⟩
        have he0 : e0 ≠ 0 := by rw [frcC_e hr]; omega
        have he1 : ¬ (e0 : Int) = 0 := by omega
        have HZ : Hid (∀ Z, Below w3.heap.size w3 Z → DropPost dCK Y w P vs.length (wlk frcC n ⟨vs, T, 0⟩ f) (.returned (.tuple #[.pointer none, .int .i64 0, .int .i64 (e0 : Int)])) Z) := fun Z hZ => by
          obtain ⟨P', hA, _⟩ := hT.aft HY.out
          rw [HE.out]
          exact ⟨P', hA.below hZ, .inl ⟨he0, rfl⟩⟩
        clear hk3 hT HFo HE he0
        go_wp2_with fail
        refine bodyPost_ret (v := .tuple #[.pointer none, .int .i64 0, .int .i64 (e0 : Int)]) ?_ rfl (HZ.out _ ((Grew.refl _).alloc _).below)
        simp [results, Tryz.results12, go_sem]
      | emp left s2 =>
        rw [hr] at HFo HE
        go_wp2_with fail
        refine Calls.mono HFo.out ?_
        rintro e w3 ⟨hk3, ⟨ax, cx, rfl⟩, hle, hT⟩
        have HZ : Hid (∀ V Z, Below w3.heap.size w3 V → Below V.heap.size V Z → DB Z V.heap.size true false zeroT (.slice none 0 0) none 0 0 zeroT (.slice none 0 0) → DropPost dCK Y w P vs.length (wlk frcC n ⟨vs, T, 0⟩ f) (.returned (.tuple #[.pointer (some ⟨V.heap.size, 0, none⟩), .int .i64 (left : Int), .int .i64 0])) Z) := fun V Z hV hZ hD => by
          obtain ⟨P', hA, _⟩ := hT.aft HY.out
          obtain ⟨f1, f2⟩ := frcC_end hr
          have f3 := (frcC_emp hr).1
          have hVs := hV.size
          have hws := hT.kc.size
          have hat := hA.at_
          rw [HE.out]
          refine ⟨P', (hA.below hV).below hZ, .inr ⟨rfl, fun _ => V.heap.size, rfl, ?_, .inr ⟨?_, ?_⟩, fun j hj => .inr (by show w.heap.size ≤ V.heap.size; omega)⟩⟩
          · show Chn dCK Y Z (s2.vs.drop s2.i) s2.T _
            rw [f3, List.drop_eq_nil_of_le f1, f2]
            exact chn_nil (HY.out _ (by omega)) hD
          · show s2.T = none
            rw [f3]; exact f2
          · show s2.i = s2.vs.length
            rw [f3] at hat ⊢
            omega
        clear hk3 hT HFo HE
        go_wp2_with fail
        refine Calls.mono (HM.out _) ?_
        rintro e w5 ⟨rfl, hb5, hd5⟩
        have HE : Hid _ := HZ.out _ _ ((Grew.refl _).alloc _).below hb5 hd5
        clear HZ HM hb5 hd5
        go_wp2_with fail
        refine bodyPost_ret ?_ rfl HE.out
        simp [results, Tryz.results12, go_sem]
      | item x left s2 =>
        rw [hr] at HFo HE
        have e1 : IntKind.i64.wrap ((j : Int) + 1) = ((j + 1 : Nat) : Int) := by have := Hn.out; rw [IntKind.wrap_i64]; omega
        go_wp2_with fail
        refine Calls.mono HFo.out ?_
        rintro e w3 ⟨hk3, p2, ax, cx, rfl, hle, hT⟩
        have HT : Hid (∀ Z, Below w3.heap.size w3 Z → Tk dCK False Y (fun _ => False) w P vs.length s2 p2 Z []) := fun Z hZ => (hT.below hZ).part (fun x hx => by cases hx)
        clear hk3 hT HFo
        go_wp2_with fail
        go_roundg (n - (j + 1))
        case measure => have := Hg.out; omega
        case rel =>
          refine ⟨j + 1, p2, left, rfl, rfl, by go_num, rfl, by omega, l ++ [x], s2, hle, ?_, HT.out _ ((Grew.refl _).alloc _).below⟩
          rw [HE.out, show n - (j + 1) = k by omega]
          exact pre_pre _ x _
    · have hji : ¬ (j : Int) < (n : Int) := by omega
      have HZ : Hid (DropPost dCK Y w P vs.length (wlk frcC n ⟨vs, T, 0⟩ f) (.returned (.tuple #[.pointer (some ⟨p, 0, none⟩), .int .i64 (fl : Int), .int .i64 0])) wr) := by
        obtain ⟨l, s', hfl, hE0, hR⟩ := HI.out
        rw [show n - j = 0 by omega] at hE0
        rw [hE0]
        obtain ⟨P', hA, hp, _⟩ := hR.aft HY.out
        refine ⟨P', hA, .inr ⟨rfl, fun i => P' (s'.i + i), by rw [hp]; rfl, hA.chn.drop s'.i hA.at_, .inl rfl, fun j hj => .inl ⟨s'.i + j, ?_, rfl⟩⟩⟩
        have := hA.at_
        have h9 : (List.drop s'.i s'.vs).length = s'.vs.length - s'.i := List.length_drop ..
        show s'.i + j ≤ s'.vs.length
        have h8 : j ≤ (List.drop s'.i s'.vs).length := hj
        omega
      clear HI
      go_wp2_with fail
      refine bodyPost_ret (v := .tuple #[.pointer (some ⟨p, 0, none⟩), .int .i64 (fl : Int), .int .i64 0]) ?_ rfl HZ.out
      simp [results, Tryz.results12, go_sem]

end Go.Proofs.YtbhfbjbigafnpaaGreat

namespace Go.Proofs.YtbhfbjbigafnpaaGreat
open Go.RowKit Go.Shelf

theorem Aft.from_ {C : CK} {Y Z : Nat → Prop} {w w1 : World} {P0 : Nat → Nat} {k0 : Nat} {s : SS} {P : Nat → Nat} {w' : World} (h : Aft C Y w1 P0 k0 s P w') (hb : Below w.heap.size w w1) (hYZ : ∀ n, Y n → Z n) : Aft C Z w P0 k0 s P w' :=
  ⟨h.old, fun j h1 h2 => Nat.le_trans hb.size (h.new j h1 h2), h.more, h.at_, h.chn.monoY (fun n _ hn => hYZ n hn), (KC.of_below hb).trans2 h.kc (fun _ _ h => h)⟩

theorem Aft.put {C : CK} {Y : Nat → Prop} {w : World} {P0 : Nat → Nat} {k0 : Nat} {s : SS} {P : Nat → Nat} {V Z : World} {b : Nat} (h : Aft C Y w P0 k0 s P V) (hZ : KC (fun m => m = b) V Z) (hY : ¬ Y b) (hb : w.heap.size ≤ b) : Aft C Y w P0 k0 s P Z :=
  ⟨h.old, h.new, h.more, h.at_, h.chn.kc hZ (fun n _ hn e => hY (e ▸ hn)), h.kc.trans2 hZ (fun j hj e => by omega)⟩

/-- What Nth tells behind Drop and Force. -/
theorem rnth_end {Y : Nat → Prop} {w w1 w2 w3 : World} {P0 P : Nat → Nat} {k0 n : Nat} {s : SS} {f : Nat} {b : Nat} {u : Value} (hx : Bx w2 b zeroT u) (hb : Below w.heap.size w w1) (hA : Aft dCK (fun n => Y n ∧ n ≠ b) w1 P0 k0 (wlk frcC n s f).s P w2) (he : (wlk frcC n s f).err = 0) {e : Ending} (hF : FcP dCK False (fun n => Y n ∧ n ≠ b) (wlk frcC n s f).s P (frcC (wlk frcC n s f).s (wlk frcC n s f).left) w2 e w3) (hbw : w.heap.size ≤ b) :
    ∃ (x : VT) (a : Option Addr) (c : Nat) (p : Option Addr) (t : Bool) (l E : Nat), e = itemR x (.slice a x.items.length c) p t l E ∧ Bx w3 b zeroT u ∧ ∀ Z, KC (fun m => m = b) w3 Z → NthPost dCK False Y w P0 k0 n (wlk frcC (n + 1) s f) (.returned (.tuple #[.agg #[.int .i64 x.kind, .int .i64 x.num, .string x.text, .slice a x.items.length c], .bool t, .int .i64 (l : Int), .int .i64 (E : Int)])) Z := by
  have hle := (wlk_le n s f).1
  have hws := hb.size
  have hw2 := hA.kc.size
  rw [wlk_more n s f he]
  have hYY : ∀ n, (Y n ∧ n ≠ b) → Y n := fun n h => h.1
  have hA1 : Aft dCK (fun n => Y n ∧ n ≠ b) w P0 k0 (wlk frcC n s f).s P w2 := hA.from_ hb (fun _ h => h)
  cases hr : frcC (wlk frcC n s f).s (wlk frcC n s f).left with
  | err e0 s' =>
    rw [hr] at hF
    obtain ⟨⟨a, c, rfl⟩, hbl⟩ := hF
    refine ⟨zeroT, a, c, none, false, 0, e0, rfl, hx.keeps hbl, fun Z hZ => ⟨P, ?_, .inl ⟨by simpa [pre, wnx] using hle, a, c, rfl⟩⟩⟩
    rw [show (pre (wlk frcC n s f).items (wnx frcC 0 (FR.err e0 s'))).s = (wlk frcC n s f).s from frcC_err hr]
    exact ((hA1.below hbl).put hZ (fun h => h.2 rfl) hbw).from_ (Below.refl _ _) hYY
  | emp left s' =>
    rw [hr] at hF
    obtain ⟨⟨a, c, rfl⟩, hbl⟩ := hF
    refine ⟨zeroT, a, c, none, false, left, 0, rfl, hx.keeps hbl, fun Z hZ => ⟨P, ?_, .inl ⟨by simpa [pre, wnx] using hle, a, c, rfl⟩⟩⟩
    rw [show (pre (wlk frcC n s f).items (wnx frcC 0 (FR.emp left s'))).s = (wlk frcC n s f).s from (frcC_emp hr).1]
    exact ((hA1.below hbl).put hZ (fun h => h.2 rfl) hbw).from_ (Below.refl _ _) hYY
  | item x left s' =>
    obtain ⟨i1, i2, i3⟩ := frcC_item hA.at_ hr
    have hfull : ¬ (wlk frcC n s f).items.length < n := fun hs => by
      obtain ⟨h1, h2⟩ := wlk_short n s f he hs
      rw [frcC_at_end h1 h2] at hr
      cases hr
    rw [hr] at hF
    obtain ⟨P', a, c, g1, g2, g3, hC, hk, rfl, hrx, hl⟩ := hF
    have hA2 : Aft dCK (fun n => Y n ∧ n ≠ b) w P0 k0 s' P' w3 := hA1.trans ⟨g1, g2, g3, i3, hC, hk⟩
    refine ⟨x, a, c, _, true, left, 0, rfl, hk.bx (fun hh => by obtain ⟨j, hj, e⟩ := hh; exact (hA.chn.inY j hj).2 e.symm) hx, fun Z hZ => ⟨P', (hA2.put hZ (fun h => h.2 rfl) hbw).from_ (Below.refl _ _) hYY, .inr ⟨?_, rfl, x, a, c, ?_, rfl, ?_, hrx⟩⟩⟩
    · simp [pre, wnx, wlk]; omega
    · simp [pre, wnx, wlk]
    · exact LiesX.mono (fun m hm => ⟨False.elim, fun _ => hm.1.1, hm.2.2⟩) (hZ.liesX (fun m hm e => hm.1.2 e) hl)

set_option maxRecDepth 100000 in
set_option maxHeartbeats 8000000 in
theorem rnth_any (Y : Nat → Prop) (vs : List VT) (T : Tl) (P : Nat → Nat) (n f : Nat) (hn : n ≤ 65536) (hf : f ≤ 1073741824) (w : World) (h : Chn dCK Y w vs T P) (hY : ∀ n, w.heap.size ≤ n → Y n) :
    Calls Tryz.prog 37 #[.pointer (some ⟨P 0, 0, none⟩), .int .i64 (n : Int), .int .i64 (f : Int)] w (NthPost dCK False Y w P vs.length n (wlk frcC (n + 1) ⟨vs, T, 0⟩ f)) := by
  have hzb := zbox_below w
  have hzs := zbox_size w
  have hc1 : Chn dCK (fun n => Y n ∧ n ≠ w.heap.size) (zbox w) vs T P := (h.monoY (fun n hn hy => ⟨hy, by omega⟩)).keeps hzb
  have hY1 : ∀ n, (zbox w).heap.size ≤ n → Y n ∧ n ≠ w.heap.size := fun n hn => ⟨hY n (by omega), by omega⟩
  have HD : Hid (Calls Tryz.prog 12 #[.pointer (some ⟨P 0, 0, none⟩), .int .i64 (n : Int), .int .i64 (f : Int)] (w.alloc (.cells #[.int .i64 0, .int .i64 0, .string ⟨#[]⟩, .slice none 0 0] 24)) (DropPost dCK (fun n => Y n ∧ n ≠ w.heap.size) (zbox w) P vs.length (wlk frcC n ⟨vs, T, 0⟩ f))) := rdrop_any _ vs T P n f hn hf (zbox w) hc1 hY1
  have HX : Hid (Bx (zbox w) w.heap.size zeroT (.slice none 0 0)) := zbox_bx w
  have HY : Hid (∀ n, w.heap.size ≤ n → Y n) := hY
  have Hlt : Hid (∀ i, i ≤ vs.length → P i ≠ w.heap.size) := fun i hi e => by have := h.lt i hi; omega
  have Hle : Hid ((wlk frcC n ⟨vs, T, 0⟩ f).left ≤ 1073741824 ∧ (wlk frcC n ⟨vs, T, 0⟩ f).items.length ≤ n ∧ ((wlk frcC n ⟨vs, T, 0⟩ f).err = 0 ∨ ((wlk frcC n ⟨vs, T, 0⟩ f).err = 220 ∧ (wlk frcC n ⟨vs, T, 0⟩ f).left = 0))) := ⟨Nat.le_trans (wlk_le n _ f).2 hf, (wlk_le n _ f).1, wlk_errs n _ f⟩
  clear hc1 hY1 h hn hf hY hzb hzs
  go_enter Tryz.func37, Tryz.ntmps37
  go_wp2_with fail
  refine Calls.mono HD.out ?_
  rintro e w2 ⟨P1, hA, ⟨he, rfl⟩ | ⟨he, P2, rfl, hC2, hP2, _⟩⟩
  · have hx2 := hA.kc.bx (fun hh => by obtain ⟨i, hi, e⟩ := hh; exact Hlt.out i hi e.symm) HX.out
    have he2 := Hle.out.2.2.resolve_left he
    have HZ : Hid (∀ Z, KC (fun m => m = w.heap.size) w2 Z → NthPost dCK False Y w P vs.length n (wlk frcC (n + 1) ⟨vs, T, 0⟩ f) (.returned (.tuple #[.agg #[.int .i64 0, .int .i64 0, .string ⟨#[]⟩, .slice none 0 0], .bool false, .int .i64 0, .int .i64 220])) Z) := fun Z hZ => by
      rw [wlk_snoc, if_pos (.inl he)]
      refine ⟨P1, ((hA.from_ (zbox_below w) (fun _ h => h)).put hZ (fun h => h.2 rfl) (Nat.le_refl _)).from_ (Below.refl _ _) (fun _ h => h.1), .inl ⟨Hle.out.2.1, none, 0, ?_⟩⟩
      rw [he2.1, he2.2]
      rfl
    rw [he2.1]
    have HX2 : Hid (Bx w2 w.heap.size zeroT (.slice none 0 0)) := hx2
    obtain ⟨k0, k1, k2, k3, g0, g1, g2, g3⟩ := hx2
    clear hA he he2 Hle HD HX Hlt
    go_wp2_with fail
    refine bodyPost_ret (v := .tuple #[.agg #[.int .i64 0, .int .i64 0, .string ⟨#[]⟩, .slice none 0 0], .bool false, .int .i64 0, .int .i64 220]) ?_ rfl (HZ.out _ (KC.put4 (B := fun m => m = w.heap.size) (o := 0) (KC.refl _ w2) (.inl rfl) zeroT (.slice none 0 0)))
    obtain ⟨q0, q1, q2, q3⟩ := rm4_put (V := w2) (b := w.heap.size) ⟨⟨_, k0⟩, ⟨_, k1⟩, ⟨_, k2⟩, ⟨_, k3⟩, g0, g1, g2, g3⟩ (.int .i64 0) (.int .i64 0) (.string ⟨#[]⟩) (.slice none 0 0)
    simp [results, Tryz.results37, go_sem, q0, q1, q2, q3]
  · have hx2 := hA.kc.bx (fun hh => by obtain ⟨i, hi, e⟩ := hh; exact Hlt.out i hi e.symm) HX.out
    have hs2 := hA.kc.size
    have hzs := zbox_size w
    have HFo : Hid (Calls Tryz.prog 45 #[.pointer (some ⟨P2 0, 0, none⟩), .int .i64 ((wlk frcC n ⟨vs, T, 0⟩ f).left : Int)] w2 fun e w3 => ∃ (x : VT) (a : Option Addr) (c : Nat) (p : Option Addr) (t : Bool) (l E : Nat), e = itemR x (.slice a x.items.length c) p t l E ∧ Bx w3 w.heap.size zeroT (.slice none 0 0) ∧ ∀ Z, KC (fun m => m = w.heap.size) w3 Z → NthPost dCK False Y w P vs.length n (wlk frcC (n + 1) ⟨vs, T, 0⟩ f) (.returned (.tuple #[.agg #[.int .i64 x.kind, .int .i64 x.num, .string x.text, .slice a x.items.length c], .bool t, .int .i64 (l : Int), .int .i64 (E : Int)])) Z) := by
      have hY2 : ∀ n, w2.heap.size ≤ n → Y n ∧ n ≠ w.heap.size := fun n hn => ⟨HY.out n (by omega), by omega⟩
      rcases hP2 with hP2 | ⟨ht, hi⟩
      · rw [hP2]
        exact Calls.mono (dForce _ (wlk frcC n ⟨vs, T, 0⟩ f).s P1 _ Hle.out.1 w2 hA.chn hA.at_ hY2) fun e w3 hF => rnth_end hx2 (zbox_below w) hA he hF (Nat.le_refl _)
      · have hC3 : Chn dCK (fun n => Y n ∧ n ≠ w.heap.size) w2 [] none P2 := by
          rw [List.drop_eq_nil_of_le (by omega), ht] at hC2
          exact hC2
        refine Calls.mono (dForce _ ⟨[], none, 0⟩ P2 _ Hle.out.1 w2 hC3 (Nat.le_refl _) hY2) fun e w3 hF => rnth_end hx2 (zbox_below w) hA he ?_ (Nat.le_refl _)
        rw [frcC_at_end (by omega) ht]
        exact hF
    generalize (wlk frcC n ⟨vs, T, 0⟩ f).left = L at *
    clear hA hC2 hP2 hx2 Hle HD HX Hlt he hs2 hzs
    go_wp2_with fail
    refine Calls.mono HFo.out ?_
    rintro e w3 ⟨x, a, c, p, t, l, E, rfl, hx3, hZ3⟩
    have HZ : Hid _ := hZ3
    obtain ⟨k0, k1, k2, k3, g0, g1, g2, g3⟩ := hx3
    have h6 : w.heap.size < w3.heap.size := cell_lt k0
    clear hZ3 HFo
    go_wp2_with fail
    refine bodyPost_ret (v := .tuple #[.agg #[.int .i64 x.kind, .int .i64 x.num, .string x.text, .slice a x.items.length c], .bool t, .int .i64 (l : Int), .int .i64 (E : Int)]) ?_ rfl (HZ.out _ ((KC.put4 (B := fun m => m = w.heap.size) (o := 0) (KC.refl _ w3) (.inl rfl) x (.slice a x.items.length c)).alloc _))
    obtain ⟨q0, q1, q2, q3⟩ := rm4_alloc (V := w3) (b := w.heap.size) ⟨⟨_, k0⟩, ⟨_, k1⟩, ⟨_, k2⟩, ⟨_, k3⟩, g0, g1, g2, g3⟩ (.int .i64 x.kind) (.int .i64 x.num) (.string x.text) (.slice a x.items.length c) (.cells #[.int .i64 x.kind, .int .i64 x.num, .string x.text, .slice a x.items.length c] 24)
    simp [results, Tryz.results37, go_sem, q0, q1, q2, q3]

end Go.Proofs.YtbhfbjbigafnpaaGreat

namespace Go.Proofs.YtbhfbjbigafnpaaGreat
open Go.RowKit Go.Shelf

/-- What walk leaves. -/
def WkPost {S : Type} (JJ : (Nat → Prop) → S → Nat → List VT → Option (VT × Value) → World → Prop) (bar : Nat → Prop) (r : WS S) (w : World) (e : Ending) (w' : World) : Prop :=
  ∃ p', e = .returned (.agg #[.int .i64 (r.items.length : Int), .pointer (some ⟨p', 0, none⟩), .int .i64 (r.left : Int), .int .i64 (r.err : Int)]) ∧ KC (fun n => ¬ bar n) w w' ∧ JJ bar r.s p' r.items none w'

set_option maxRecDepth 100000 in
set_option maxHeartbeats 8000000 in
theorem walk_any {S : Type} (frc : S → Nat → FR S) (JJ : (Nat → Prop) → S → Nat → List VT → Option (VT × Value) → World → Prop) (hw : Wkr frc JJ) (g : Nat) (cap : Array Value)
    (eg : ∀ args w, (callFunc g args).run Tryz.prog w = .ok (.enter g args) w)
    (hf : ∀ (bar : Nat → Prop) s p l (f : Nat) w, f ≤ 1073741824 → JJ bar s p l none w → Calls Tryz.prog 47 #[.pointer (some ⟨p, 0, none⟩), .int .i64 (f : Int)] w (FJ JJ bar p l (frc s f) w))
    (hg : ∀ (bar : Nat → Prop) s p l x u w, l.length ≤ 65536 → JJ bar s p l (some (x, u)) w → Calls Tryz.prog g (#[.agg #[.int .i64 x.kind, .int .i64 x.num, .string x.text, u]] ++ cap) w fun e w' => e = .returned (.tuple #[]) ∧ KC (fun n => ¬ bar n) w w' ∧ JJ bar s p (l ++ [x]) none w')
    (bar : Nat → Prop) (s : S) (p n f : Nat) (hn : n ≤ 65537) (hf0 : f ≤ 1073741824) (w : World) (h : JJ bar s p [] none w) :
    Calls Tryz.prog 42 #[.pointer (some ⟨p, 0, none⟩), .int .i64 (n : Int), .int .i64 (f : Int), .func (.func g) #[] cap] w (WkPost JJ bar (wlk frc n s f) w) := by
  have HW : Hid _ := hw
  have HF : Hid _ := hf
  have HG : Hid _ := hg
  have Hn : Hid (n ≤ 65537 ∧ f ≤ 1073741824) := ⟨hn, hf0⟩
  obtain ⟨W, hW⟩ : ∃ W, W = ((w.alloc (.cells #[.int .i64 0, .pointer none, .int .i64 0, .int .i64 0] 88)).alloc (.cells #[.int .i64 0, .pointer (some ⟨p, 0, none⟩), .int .i64 (f : Int), .int .i64 0] 88)) := ⟨_, rfl⟩
  have HWe : Hid (W = ((w.alloc (.cells #[.int .i64 0, .pointer none, .int .i64 0, .int .i64 0] 88)).alloc (.cells #[.int .i64 0, .pointer (some ⟨p, 0, none⟩), .int .i64 (f : Int), .int .i64 0] 88))) := hW
  have hwb : Below w.heap.size w W := by rw [hW]; exact (((Grew.refl w).alloc _).alloc _).below
  have hws : W.heap.size = w.heap.size + 2 := by rw [hW]; simp
  have HPl : Hid (Pl W (w.heap.size + 1) 0 p f 0) := by rw [hW]; constructor <;> simp
  have HR8 : Hid (Rm4 W w.heap.size) := by rw [hW]; constructor <;> simp
  have HJ : Hid (JJ (fun m => bar m ∨ (w.heap.size ≤ m ∧ m < W.heap.size)) s p [] none W) := hw.k2 h hwb
  clear hw hf hg h hn hf0 hW
  go_enter Tryz.func42, Tryz.ntmps42
  go_wp2_with fail
  go_step3
  go_wp2_with fail
  go_step3
  go_wp2_with fail
  rw [← HWe.out]
  go_loopg [] n (fun z wr => ∃ (j p' fl : Nat) (l : List VT) (s' : S), z = n - j ∧ j ≤ n ∧ Hid (Pl wr (w.heap.size + 1) j p' fl 0 ∧ Rm4 wr w.heap.size) ∧ Hid (l.length = j ∧ fl ≤ 1073741824 ∧ wlk frc n s f = pre l (wlk frc (n - j) s' fl) ∧ KC (fun m => ¬ bar m) w wr) ∧ Hid (JJ (fun m => bar m ∨ (w.heap.size ≤ m ∧ m < W.heap.size)) s' p' l none wr))
  case atStart => exact ⟨0, p, f, [], s, by omega, by omega, ⟨HPl.out, HR8.out⟩, ⟨rfl, Hn.out.2, rfl, KC.of_below hwb⟩, HJ⟩
  case round =>
    obtain ⟨j, p', fl, l, s', hg, hj, HP, HI, HJ2⟩ := hrel
    have Hg : Hid (gk = n - j) := hg
    clear hg HPl HR8 HJ HWe
    have h8 : w.heap.size < wr.heap.size := by have := HP.out.1.lt; omega
    have h9 : w.heap.size + 1 < wr.heap.size := HP.out.1.lt
    obtain ⟨c0, c1, c2, c3, g0, g1, g2, g3⟩ := HP.out.1
    have HB8 : Hid ((fun m => bar m ∨ (w.heap.size ≤ m ∧ m < W.heap.size)) w.heap.size ∧ (fun m => bar m ∨ (w.heap.size ≤ m ∧ m < W.heap.size)) (w.heap.size + 1)) := ⟨.inr ⟨by omega, by omega⟩, .inr ⟨by omega, by omega⟩⟩
    generalize hbar : (fun m => bar m ∨ (w.heap.size ≤ m ∧ m < W.heap.size)) = bar2 at *
    have Hbar : Hid (∀ m, bar m → bar2 m) := fun m hm => by rw [← hbar]; exact .inl hm
    clear hbar
    by_cases hlt : j < n
    · have hji : (j : Int) < (n : Int) := by omega
      obtain ⟨k, hk⟩ : ∃ k, n - j = k + 1 := ⟨n - j - 1, by omega⟩
      have HFo : Hid (Calls Tryz.prog 47 #[.pointer (some ⟨p', 0, none⟩), .int .i64 (fl : Int)] wr (FJ JJ bar2 p' l (frc s' fl) wr)) := HF.out bar2 s' p' l fl wr HI.out.2.1 HJ2.out
      have HE : Hid (wlk frc n s f = pre l (match frc s' fl with | .err e s' => ⟨[], 0, e, s'⟩ | .emp left s' => ⟨[], left, 0, s'⟩ | .item x left s' => pre [x] (wlk frc k s' left))) := by
        have h := HI.out.2.2.1
        rw [hk] at h
        exact h
      cases hr : frc s' fl with
      | err e0 s2 =>
        rw [hr] at HFo HE
        go_wp2_with fail
        refine Calls.mono HFo.out ?_
        rintro e w3 ⟨hk3, ⟨a, c, rfl⟩, hJ3⟩
        have HP3 : Hid (Pl w3 (w.heap.size + 1) j p' fl 0) := HP.out.1.kc hk3 (fun h => h HB8.out.2)
        have HR3 : Hid (Rm4 w3 w.heap.size) := HP.out.2.kc hk3 (fun h => h HB8.out.1)
        have HZ : Hid (∀ Z, KC (fun m => m = w.heap.size ∨ m = w.heap.size + 1) w3 Z → WkPost JJ bar (wlk frc n s f) w (.returned (.agg #[.int .i64 (j : Int), .pointer (some ⟨p', 0, none⟩), .int .i64 0, .int .i64 (e0 : Int)])) Z) := fun Z hZ => by
          rw [HE.out]
          refine ⟨p', ?_, (HI.out.2.2.2.trans (hk3.mono (fun _ _ h hb => h (Hbar.out _ hb)))).trans2 hZ (fun m hm h => by omega), ?_⟩
          · rw [← HI.out.1]; simp [pre]
          · have h9 := HW.out.k3 (HW.out.k1 hJ3 (hZ.mono (fun m _ h => by rcases h with rfl | rfl; exact HB8.out.1; exact HB8.out.2))) Hbar.out
            simpa [pre] using h9
        clear hk3 hJ3 HE HI HJ2 HFo c0 c1 c2 c3 g0 g1 g2 g3 HP
        obtain ⟨c0, c1, c2, c3, g0, g1, g2, g3⟩ := HP3.out
        obtain ⟨⟨v0, d0⟩, ⟨v1, d1⟩, ⟨v2, d2⟩, ⟨v3, d3⟩, e0', e1', e2', e3'⟩ := HR3.out
        have h8 : w.heap.size < w3.heap.size := cell_lt d0
        have h9 : w.heap.size + 1 < w3.heap.size := cell_lt c0
        go_wp2_with fail
        rw [Exit.noGoto_ret]
        refine bodyPost_ret (v := .agg #[.int .i64 (j : Int), .pointer (some ⟨p', 0, none⟩), .int .i64 0, .int .i64 (e0 : Int)]) ?_ rfl (HZ.out _ (KC.alloc (KC.set (KC.set (KC.set (KC.set (KC.set (KC.set (KC.refl _ _) (.inl (.inr rfl)) _) (.inl (.inr rfl)) _) (.inl (.inl rfl)) _) (.inl (.inl rfl)) _) (.inl (.inl rfl)) _) (.inl (.inl rfl)) _) _))
        obtain ⟨q0, q1, q2, q3⟩ := rm4_alloc (V := (w3.setCell ⟨w.heap.size + 1, 2, none⟩ (.int .i64 0)).setCell ⟨w.heap.size + 1, 3, none⟩ (.int .i64 (e0 : Int))) (HR3.out.kc (B := fun m => m = w.heap.size + 1) (kc_two _ _ _ _ _ _) (by omega)) (.int .i64 (j : Int)) (.pointer (some ⟨p', 0, none⟩)) (.int .i64 0) (.int .i64 (e0 : Int)) (.cells #[.int .i64 0, .int .i64 0, .string ⟨#[]⟩, .slice a 0 c] 24)
        simp [results, Tryz.results42, go_sem, q0, q1, q2, q3]
      | emp left s2 =>
        rw [hr] at HFo HE
        go_wp2_with fail
        refine Calls.mono HFo.out ?_
        rintro e w3 ⟨hk3, ⟨a, c, rfl⟩, hle, hJ3⟩
        have HP3 : Hid (Pl w3 (w.heap.size + 1) j p' fl 0) := HP.out.1.kc hk3 (fun h => h HB8.out.2)
        have HR3 : Hid (Rm4 w3 w.heap.size) := HP.out.2.kc hk3 (fun h => h HB8.out.1)
        have HZ : Hid (∀ Z, KC (fun m => m = w.heap.size ∨ m = w.heap.size + 1) w3 Z → WkPost JJ bar (wlk frc n s f) w (.returned (.agg #[.int .i64 (j : Int), .pointer (some ⟨p', 0, none⟩), .int .i64 (left : Int), .int .i64 0])) Z) := fun Z hZ => by
          rw [HE.out]
          refine ⟨p', ?_, (HI.out.2.2.2.trans (hk3.mono (fun _ _ h hb => h (Hbar.out _ hb)))).trans2 hZ (fun m hm h => by omega), ?_⟩
          · rw [← HI.out.1]; simp [pre]
          · have h9 := HW.out.k3 (HW.out.k1 hJ3 (hZ.mono (fun m _ h => by rcases h with rfl | rfl; exact HB8.out.1; exact HB8.out.2))) Hbar.out
            simpa [pre] using h9
        clear hk3 hJ3 HE HI HJ2 HFo c0 c1 c2 c3 g0 g1 g2 g3 HP
        obtain ⟨c0, c1, c2, c3, g0, g1, g2, g3⟩ := HP3.out
        obtain ⟨⟨v0, d0⟩, ⟨v1, d1⟩, ⟨v2, d2⟩, ⟨v3, d3⟩, e0', e1', e2', e3'⟩ := HR3.out
        have h8 : w.heap.size < w3.heap.size := cell_lt d0
        have h9 : w.heap.size + 1 < w3.heap.size := cell_lt c0
        go_wp2_with fail
        rw [Exit.noGoto_ret]
        refine bodyPost_ret (v := .agg #[.int .i64 (j : Int), .pointer (some ⟨p', 0, none⟩), .int .i64 (left : Int), .int .i64 0]) ?_ rfl (HZ.out _ (KC.alloc (KC.set (KC.set (KC.set (KC.set (KC.set (KC.set (KC.refl _ _) (.inl (.inr rfl)) _) (.inl (.inr rfl)) _) (.inl (.inl rfl)) _) (.inl (.inl rfl)) _) (.inl (.inl rfl)) _) (.inl (.inl rfl)) _) _))
        obtain ⟨q0, q1, q2, q3⟩ := rm4_alloc (V := (w3.setCell ⟨w.heap.size + 1, 2, none⟩ (.int .i64 (left : Int))).setCell ⟨w.heap.size + 1, 3, none⟩ (.int .i64 0)) (HR3.out.kc (B := fun m => m = w.heap.size + 1) (kc_two _ _ _ _ _ _) (by omega)) (.int .i64 (j : Int)) (.pointer (some ⟨p', 0, none⟩)) (.int .i64 (left : Int)) (.int .i64 0) (.cells #[.int .i64 0, .int .i64 0, .string ⟨#[]⟩, .slice a 0 c] 24)
        simp [results, Tryz.results42, go_sem, q0, q1, q2, q3]
      | item x left s2 =>
        rw [hr] at HFo HE
        go_wp2_with fail
        refine Calls.mono HFo.out ?_
        rintro e w3 ⟨hk3, p2, a, c, rfl, hle, hJ3⟩
        have HP3 : Hid (Pl w3 (w.heap.size + 1) j p' fl 0) := HP.out.1.kc hk3 (fun h => h HB8.out.2)
        have HR3 : Hid (Rm4 w3 w.heap.size) := HP.out.2.kc hk3 (fun h => h HB8.out.1)
        have hkV : KC (fun m => m = w.heap.size ∨ m = w.heap.size + 1) w3 (((w3.setCell ⟨w.heap.size + 1, 2, none⟩ (.int .i64 (left : Int))).setCell ⟨w.heap.size + 1, 3, none⟩ (.int .i64 0)).alloc (.cells #[.int .i64 x.kind, .int .i64 x.num, .string x.text, .slice a x.items.length c] 24)) := KC.alloc (KC.set (KC.set (KC.refl _ _) (.inl (.inr rfl)) _) (.inl (.inr rfl)) _) _
        have HJ4 : Hid (JJ bar2 s2 p2 l (some (x, .slice a x.items.length c)) (((w3.setCell ⟨w.heap.size + 1, 2, none⟩ (.int .i64 (left : Int))).setCell ⟨w.heap.size + 1, 3, none⟩ (.int .i64 0)).alloc (.cells #[.int .i64 x.kind, .int .i64 x.num, .string x.text, .slice a x.items.length c] 24))) := HW.out.k1 hJ3 (hkV.mono (fun m _ h => by rcases h with rfl | rfl; exact HB8.out.1; exact HB8.out.2))
        have HG4 : Hid (Calls Tryz.prog g (#[.agg #[.int .i64 x.kind, .int .i64 x.num, .string x.text, .slice a x.items.length c]] ++ cap) (((w3.setCell ⟨w.heap.size + 1, 2, none⟩ (.int .i64 (left : Int))).setCell ⟨w.heap.size + 1, 3, none⟩ (.int .i64 0)).alloc (.cells #[.int .i64 x.kind, .int .i64 x.num, .string x.text, .slice a x.items.length c] 24)) fun e w' => e = .returned (.tuple #[]) ∧ KC (fun n => ¬ bar2 n) (((w3.setCell ⟨w.heap.size + 1, 2, none⟩ (.int .i64 (left : Int))).setCell ⟨w.heap.size + 1, 3, none⟩ (.int .i64 0)).alloc (.cells #[.int .i64 x.kind, .int .i64 x.num, .string x.text, .slice a x.items.length c] 24)) w' ∧ JJ bar2 s2 p2 (l ++ [x]) none w') := HG.out bar2 s2 p2 l x _ _ (by have := HI.out.1; have := Hn.out; omega) HJ4.out
        have HR4 : Hid (Rm4 (((w3.setCell ⟨w.heap.size + 1, 2, none⟩ (.int .i64 (left : Int))).setCell ⟨w.heap.size + 1, 3, none⟩ (.int .i64 0)).alloc (.cells #[.int .i64 x.kind, .int .i64 x.num, .string x.text, .slice a x.items.length c] 24)) w.heap.size) := HR3.out.kc (B := fun m => m = w.heap.size + 1) ((kc_two _ _ _ _ _ _).alloc _) (by omega)
        have HP4 : Hid (Pl (((w3.setCell ⟨w.heap.size + 1, 2, none⟩ (.int .i64 (left : Int))).setCell ⟨w.heap.size + 1, 3, none⟩ (.int .i64 0)).alloc (.cells #[.int .i64 x.kind, .int .i64 x.num, .string x.text, .slice a x.items.length c] 24)) (w.heap.size + 1) j p' left 0) := (HP3.out.left2 left 0).kc (B := fun _ => False) (KC.of_below ((Grew.refl _).alloc _).below) (fun h => h)
        have HK4 : Hid (KC (fun m => ¬ bar m) w (((w3.setCell ⟨w.heap.size + 1, 2, none⟩ (.int .i64 (left : Int))).setCell ⟨w.heap.size + 1, 3, none⟩ (.int .i64 0)).alloc (.cells #[.int .i64 x.kind, .int .i64 x.num, .string x.text, .slice a x.items.length c] 24))) := (HI.out.2.2.2.trans (hk3.mono (fun _ _ h hb => h (Hbar.out _ hb)))).trans2 hkV (fun m hm h => by omega)
        clear hk3 hJ3 hkV HJ4 HFo c0 c1 c2 c3 g0 g1 g2 g3 HP HJ2
        obtain ⟨c0, c1, c2, c3, g0, g1, g2, g3⟩ := HP3.out
        have h9 : w.heap.size + 1 < w3.heap.size := cell_lt c0
        have e1 : IntKind.i64.wrap ((j : Int) + 1) = ((j + 1 : Nat) : Int) := by have := Hn.out; rw [IntKind.wrap_i64]; omega
        go_wp2_with fail
        refine Calls.mono HG4.out ?_
        rintro e w5 ⟨rfl, hk5, hJ5⟩
        have HP5 : Hid (Pl w5 (w.heap.size + 1) j p' left 0) := HP4.out.kc hk5 (fun h => h HB8.out.2)
        have HR5 : Hid (Rm4 w5 w.heap.size) := HR4.out.kc hk5 (fun h => h HB8.out.1)
        have HJ5 : Hid (JJ bar2 s2 p2 (l ++ [x]) none w5) := hJ5
        have HK5 : Hid (KC (fun m => ¬ bar m) w w5) := HK4.out.trans (hk5.mono (fun _ _ h hb => h (Hbar.out _ hb)))
        clear hk5 hJ5 HP4 HR4 HG4 HK4 c0 c1 c2 c3 g0 g1 g2 g3 h9
        obtain ⟨c0, c1, c2, c3, g0, g1, g2, g3⟩ := HP5.out
        have h9 : w.heap.size + 1 < w5.heap.size := cell_lt c0
        go_wp2_with fail
        go_roundg (n - (j + 1))
        case measure => have := Hg.out; omega
        case rel =>
          refine ⟨j + 1, p2, left, l ++ [x], s2, rfl, by omega, ⟨HP5.out.next (j + 1) p2, HR5.out.kc (kc_two _ _ _ _ _ _) (by omega)⟩, ⟨by have := HI.out.1; simp; omega, hle, ?_, HK5.out.trans2 (kc_two _ _ _ _ _ _) (fun m hm h => by omega)⟩, HW.out.k1 HJ5.out ((kc_two _ _ _ _ _ _).mono (fun m _ h => by rw [h]; exact HB8.out.2))⟩
          rw [HE.out, show n - (j + 1) = k by omega]
          exact pre_pre l x _
    · have hji : ¬ (j : Int) < (n : Int) := by omega
      have HZ : Hid (∀ Z, KC (fun m => m = w.heap.size ∨ m = w.heap.size + 1) wr Z → WkPost JJ bar (wlk frc n s f) w (.returned (.agg #[.int .i64 (j : Int), .pointer (some ⟨p', 0, none⟩), .int .i64 (fl : Int), .int .i64 0])) Z) := fun Z hZ => by
        have hE := HI.out.2.2.1
        rw [show n - j = 0 by omega] at hE
        rw [hE]
        refine ⟨p', ?_, HI.out.2.2.2.trans2 hZ (fun m hm h => by omega), ?_⟩
        · rw [← HI.out.1]; simp [pre, wlk]
        · have h9 := HW.out.k3 (HW.out.k1 HJ2.out (hZ.mono (fun m _ h => by rcases h with rfl | rfl; exact HB8.out.1; exact HB8.out.2))) Hbar.out
          simpa [pre, wlk] using h9
      have HR3 : Hid (Rm4 wr w.heap.size) := HP.out.2
      clear HI HJ2 HP
      obtain ⟨⟨v0, d0⟩, ⟨v1, d1⟩, ⟨v2, d2⟩, ⟨v3, d3⟩, e0', e1', e2', e3'⟩ := HR3.out
      go_wp2_with fail
      refine bodyPost_ret (v := .agg #[.int .i64 (j : Int), .pointer (some ⟨p', 0, none⟩), .int .i64 (fl : Int), .int .i64 0]) ?_ rfl (HZ.out _ (KC.set (KC.set (KC.set (KC.set (KC.refl _ _) (.inl (.inl rfl)) _) (.inl (.inl rfl)) _) (.inl (.inl rfl)) _) (.inl (.inl rfl)) _))
      obtain ⟨q0, q1, q2, q3⟩ := rm4_put (V := wr) HR3.out (.int .i64 (j : Int)) (.pointer (some ⟨p', 0, none⟩)) (.int .i64 (fl : Int)) (.int .i64 0)
      simp [results, Tryz.results42, go_sem, q0, q1, q2, q3]

end Go.Proofs.YtbhfbjbigafnpaaGreat

namespace Go.Proofs.YtbhfbjbigafnpaaGreat
open Go.RowKit Go.Shelf

/-- The walk of Drop and Count. -/
def JD (Y : Nat → Prop) (w0 : World) (P0 : Nat → Nat) (k0 : Nat) (bar : Nat → Prop) (s : SS) (p : Nat) (_l : List VT) (_o : Option (VT × Value)) (w : World) : Prop := ∃ ps, Tk pCK True Y bar w0 P0 k0 s p w ps

/-- The walk of Take: the list lies in a row of its own, in the box b0. -/
def JT (b0 : Nat) (Y : Nat → Prop) (w0 : World) (P0 : Nat → Nat) (k0 : Nat) (bar : Nat → Prop) (s : SS) (p : Nat) (l : List VT) (o : Option (VT × Value)) (w : World) : Prop :=
  ∃ a c ps, ps.map (·.1) = l ∧ w.ownsRow w0.heap.size 24 4 (.slice a l.length c) l.length (ps.flatMap encP) ∧ w.cell? ⟨b0, 0, none⟩ = some (.slice a l.length c) ∧ w.frozen? ⟨b0, 0, none⟩ = false ∧ ¬ bar b0 ∧ (∀ g, (Value.slice a l.length c).ownBlock = some g → ¬ bar g ∧ g ≠ b0) ∧ Tk pCK True Y (fun n => bar n ∨ n = b0 ∨ (Value.slice a l.length c).ownBlock = some n) w0 P0 k0 s p w (ps ++ o.toList)

/-- The walk of Nth: the last item lies in the box b0. -/
def JN (b0 : Nat) (Y : Nat → Prop) (w0 : World) (P0 : Nat → Nat) (k0 : Nat) (bar : Nat → Prop) (s : SS) (p : Nat) (l : List VT) (o : Option (VT × Value)) (w : World) : Prop :=
  ∃ x u ps, Bx w b0 x u ∧ (l = [] ∨ (l.getLast? = some x ∧ (x, u) ∈ ps)) ∧ ¬ bar b0 ∧ Tk pCK True Y (fun n => bar n ∨ n = b0) w0 P0 k0 s p w (ps ++ o.toList)

theorem jd_wkr (Y : Nat → Prop) (w0 : World) (P0 : Nat → Nat) (k0 : Nat) : Wkr frcC (JD Y w0 P0 k0) where
  k1 := fun ⟨ps, h⟩ k => ⟨ps, h.k1 k⟩
  k2 := fun ⟨ps, h⟩ k => ⟨ps, h.k2 k⟩
  k3 := fun ⟨ps, h⟩ k => ⟨ps, h.k3 k⟩

theorem jt_wkr (b0 : Nat) (Y : Nat → Prop) (w0 : World) (P0 : Nat → Nat) (k0 : Nat) : Wkr frcC (JT b0 Y w0 P0 k0) where
  k1 := by
    rintro bar s p l o w w' ⟨a, c, ps, h1, h2, h3, h4, h5, h6, h7⟩ k
    exact ⟨a, c, ps, h1, own_kc h2 k (fun g hg => (h6 g hg).1), k.cell h5 h3, k.frozen h5 h3 h4, h5, h6, h7.k1 (k.mono (fun _ _ h => .inl h))⟩
  k2 := by
    rintro bar s p l o w w' ⟨a, c, ps, h1, h2, h3, h4, h5, h6, h7⟩ hb
    have hbl : b0 < w.heap.size := cell_lt h3
    refine ⟨a, c, ps, h1, own_kc h2 (KC.of_below (B := fun _ => False) hb) (fun _ _ h => h), cell_keeps hb h3, (hb.frozen (p := ⟨b0, 0, none⟩) hbl).trans h4, ?_, fun g hg => ⟨?_, (h6 g hg).2⟩, (h7.k2 hb).k3 (fun n hn => ?_)⟩
    · rintro (h | h)
      · exact h5 h
      · omega
    · rintro (h | h)
      · exact (h6 g hg).1 h
      · have := (h2.lt g hg).2; omega
    · rcases hn with (h | h) | h
      · exact .inl (.inl h)
      · exact .inr h
      · exact .inl (.inr h)
  k3 := by
    rintro bar bar' s p l o w ⟨a, c, ps, h1, h2, h3, h4, h5, h6, h7⟩ hb
    exact ⟨a, c, ps, h1, h2, h3, h4, fun h => h5 (hb _ h), fun g hg => ⟨fun h => (h6 g hg).1 (hb _ h), (h6 g hg).2⟩, h7.k3 (fun n hn => hn.imp (hb n) id)⟩

theorem jn_wkr (b0 : Nat) (Y : Nat → Prop) (w0 : World) (P0 : Nat → Nat) (k0 : Nat) : Wkr frcC (JN b0 Y w0 P0 k0) where
  k1 := by
    rintro bar s p l o w w' ⟨x, u, ps, h1, h2, h5, h7⟩ k
    exact ⟨x, u, ps, k.bx h5 h1, h2, h5, h7.k1 (k.mono (fun _ _ h => .inl h))⟩
  k2 := by
    rintro bar s p l o w w' ⟨x, u, ps, h1, h2, h5, h7⟩ hb
    have hbl : b0 < w.heap.size := cell_lt h1.c0
    refine ⟨x, u, ps, h1.keeps hb, h2, ?_, (h7.k2 hb).k3 (fun n hn => ?_)⟩
    · rintro (h | h)
      · exact h5 h
      · omega
    · rcases hn with (h | h) | h
      · exact .inl (.inl h)
      · exact .inr h
      · exact .inl (.inr h)
  k3 := by
    rintro bar bar' s p l o w ⟨x, u, ps, h1, h2, h5, h7⟩ hb
    exact ⟨x, u, ps, h1, h2, fun h => h5 (hb _ h), h7.k3 (fun n hn => hn.imp (hb n) id)⟩

theorem jd_force (Y : Nat → Prop) (w0 : World) (P0 : Nat → Nat) (k0 : Nat) (bar : Nat → Prop) (s : SS) (p : Nat) (l : List VT) (f : Nat) (w : World) (hf : f ≤ 1073741824) (h : JD Y w0 P0 k0 bar s p l none w) :
    Calls Tryz.prog 47 #[.pointer (some ⟨p, 0, none⟩), .int .i64 (f : Int)] w (FJ (JD Y w0 P0 k0) bar p l (frcC s f) w) := by
  obtain ⟨ps, h⟩ := h
  refine Calls.mono (h.force 47 pForce f hf) ?_
  rintro e w' ⟨hk, hp⟩
  refine ⟨hk, ?_⟩
  cases hr : frcC s f with
  | err e0 s' => rw [hr] at hp; exact ⟨hp.1, ps, hp.2⟩
  | emp left s' => rw [hr] at hp; exact ⟨hp.1, hp.2.1, ps, hp.2.2⟩
  | item x left s' => rw [hr] at hp; obtain ⟨p', a, c, h1, h2, h3⟩ := hp; exact ⟨p', a, c, h1, h2, _, h3⟩

theorem jt_force (b0 : Nat) (Y : Nat → Prop) (w0 : World) (P0 : Nat → Nat) (k0 : Nat) (bar : Nat → Prop) (s : SS) (p : Nat) (l : List VT) (f : Nat) (w : World) (hf : f ≤ 1073741824) (h : JT b0 Y w0 P0 k0 bar s p l none w) :
    Calls Tryz.prog 47 #[.pointer (some ⟨p, 0, none⟩), .int .i64 (f : Int)] w (FJ (JT b0 Y w0 P0 k0) bar p l (frcC s f) w) := by
  obtain ⟨a, c, ps, h1, h2, h3, h4, h5, h6, h7⟩ := h
  refine Calls.mono (h7.force 47 pForce f hf) ?_
  rintro e w' ⟨hk, hp⟩
  have g2 := own_kc h2 hk (fun g hg h => h (.inr (.inr hg)))
  have g3 := hk.cell (a := ⟨b0, 0, none⟩) (fun h => h (.inr (.inl rfl))) h3
  have g4 := hk.frozen (a := ⟨b0, 0, none⟩) (fun h => h (.inr (.inl rfl))) h3 h4
  refine ⟨hk.mono (fun _ _ h hb => h (.inl hb)), ?_⟩
  cases hr : frcC s f with
  | err e0 s' => rw [hr] at hp; exact ⟨hp.1, a, c, ps, h1, g2, g3, g4, h5, h6, by simpa using hp.2⟩
  | emp left s' => rw [hr] at hp; exact ⟨hp.1, hp.2.1, a, c, ps, h1, g2, g3, g4, h5, h6, by simpa using hp.2.2⟩
  | item x left s' => rw [hr] at hp; obtain ⟨p', a', c', k1, k2, k3⟩ := hp; exact ⟨p', a', c', k1, k2, a, c, ps, h1, g2, g3, g4, h5, h6, by simpa using k3⟩

theorem jn_force (b0 : Nat) (Y : Nat → Prop) (w0 : World) (P0 : Nat → Nat) (k0 : Nat) (bar : Nat → Prop) (s : SS) (p : Nat) (l : List VT) (f : Nat) (w : World) (hf : f ≤ 1073741824) (h : JN b0 Y w0 P0 k0 bar s p l none w) :
    Calls Tryz.prog 47 #[.pointer (some ⟨p, 0, none⟩), .int .i64 (f : Int)] w (FJ (JN b0 Y w0 P0 k0) bar p l (frcC s f) w) := by
  obtain ⟨x, u, ps, h1, h2, h5, h7⟩ := h
  refine Calls.mono (h7.force 47 pForce f hf) ?_
  rintro e w' ⟨hk, hp⟩
  have g1 := hk.bx (fun h => h (.inr rfl)) h1
  refine ⟨hk.mono (fun _ _ h hb => h (.inl hb)), ?_⟩
  cases hr : frcC s f with
  | err e0 s' => rw [hr] at hp; exact ⟨hp.1, x, u, ps, g1, h2, h5, by simpa using hp.2⟩
  | emp left s' => rw [hr] at hp; exact ⟨hp.1, hp.2.1, x, u, ps, g1, h2, h5, by simpa using hp.2.2⟩
  | item y left s' => rw [hr] at hp; obtain ⟨p', a', c', k1, k2, k3⟩ := hp; exact ⟨p', a', c', k1, k2, x, u, ps, g1, h2, h5, by simpa using k3⟩

theorem jd_found {g : Nat} (hg : ∀ (x : VT) (u : Value) (w : World), Calls Tryz.prog g #[.agg #[.int .i64 x.kind, .int .i64 x.num, .string x.text, u]] w fun e w' => e = .returned (.tuple #[]) ∧ Below w.heap.size w w') (Y : Nat → Prop) (w0 : World) (P0 : Nat → Nat) (k0 : Nat) (bar : Nat → Prop) (s : SS) (p : Nat) (l : List VT) (x : VT) (u : Value) (w : World) (h : JD Y w0 P0 k0 bar s p l (some (x, u)) w) :
    Calls Tryz.prog g (#[.agg #[.int .i64 x.kind, .int .i64 x.num, .string x.text, u]] ++ #[]) w fun e w' => e = .returned (.tuple #[]) ∧ KC (fun n => ¬ bar n) w w' ∧ JD Y w0 P0 k0 bar s p (l ++ [x]) none w' := by
  obtain ⟨ps, h⟩ := h
  refine Calls.mono (hg x u w) ?_
  rintro e w' ⟨rfl, hb⟩
  exact ⟨rfl, KC.of_below hb, ps, h.below hb⟩

theorem jt_found (b0 : Nat) (Y : Nat → Prop) (w0 : World) (P0 : Nat → Nat) (k0 : Nat) (bar : Nat → Prop) (s : SS) (p : Nat) (l : List VT) (x : VT) (u : Value) (w : World) (hl : l.length ≤ 65536) (h : JT b0 Y w0 P0 k0 bar s p l (some (x, u)) w) :
    Calls Tryz.prog 71 (#[.agg #[.int .i64 x.kind, .int .i64 x.num, .string x.text, u]] ++ #[.pointer (some ⟨b0, 0, none⟩)]) w fun e w' => e = .returned (.tuple #[]) ∧ KC (fun n => ¬ bar n) w w' ∧ JT b0 Y w0 P0 k0 bar s p (l ++ [x]) none w' := by
  obtain ⟨a, c, ps, h1, h2, h3, h4, h5, h6, h7⟩ := h
  obtain ⟨P, Yc, _, _, _, _, _, _, _, h8⟩ := h7.ex
  obtain ⟨_, au, cu, hu, _⟩ := h8 (x, u) (by simp)
  simp only at hu
  subst hu
  refine Calls.mono (take1_any w0.heap.size b0 l.length x au x.items.length cu a c (ps.flatMap encP) w hl h3 h4 h2 h7.kc.size (fun e => (h6 b0 e).2 rfl)) ?_
  rintro e w' ⟨rfl, g, cap, k1, k2, k3, k4, k5, k6⟩
  have hlen : (l ++ [x]).length = l.length + 1 := by simp
  have hgb : ¬ bar g := by
    rcases k5 with h | h
    · exact (h6 g h).1
    · exact fun hb => by have := (h7.barw g (.inl hb)).2; omega
  have hglt : g < w'.heap.size := (k3.lt g rfl).2
  refine ⟨rfl, k4.mono (fun j _ hj hb => ?_), some ⟨g, 0, none⟩, cap, ps ++ [(x, .slice au x.items.length cu)], by simp [h1], ?_, ?_, k2, h5, fun g' hg' => ?_, ?_⟩
  · rcases hj with rfl | hj
    · exact h5 hb
    · exact (h6 j hj).1 hb
  · rw [hlen, List.flatMap_append]; simpa using k3
  · rw [hlen]; exact k1
  · have : g = g' := by simpa [Value.ownBlock] using hg'
    subst this
    exact ⟨hgb, k6⟩
  · have h9 := h7.k1 (k4.mono (fun j _ hj => by rcases hj with h | h; exact .inr (.inl h); exact .inr (.inr h)))
    rcases k5 with hh | hh
    · refine (h9.k3 (fun n hn => ?_)).part (fun y hy => by simpa using hy)
      rcases hn with h | h | h
      · exact .inl h
      · exact .inr (.inl h)
      · have : g = n := by simpa [Value.ownBlock] using h
        subst this
        exact .inr (.inr hh)
    · refine ((h7.k4 (k4.mono (fun j _ hj => by rcases hj with h | h; exact .inr (.inl h); exact .inr (.inr h)))).k3 (fun n hn => ?_)).part (fun y hy => by simpa using hy)
      rcases hn with h | h | h
      · exact .inl (.inl h)
      · exact .inl (.inr (.inl h))
      · have : g = n := by simpa [Value.ownBlock] using h
        subst this
        exact .inr ⟨hh, hglt⟩

theorem jn_found (b0 : Nat) (Y : Nat → Prop) (w0 : World) (P0 : Nat → Nat) (k0 : Nat) (bar : Nat → Prop) (s : SS) (p : Nat) (l : List VT) (x : VT) (u : Value) (w : World) (h : JN b0 Y w0 P0 k0 bar s p l (some (x, u)) w) :
    Calls Tryz.prog 72 (#[.agg #[.int .i64 x.kind, .int .i64 x.num, .string x.text, u]] ++ #[.pointer (some ⟨b0, 0, none⟩)]) w fun e w' => e = .returned (.tuple #[]) ∧ KC (fun n => ¬ bar n) w w' ∧ JN b0 Y w0 P0 k0 bar s p (l ++ [x]) none w' := by
  obtain ⟨y, v, ps, h1, h2, h5, h7⟩ := h
  obtain ⟨P, Yc, _, _, _, _, _, _, _, h8⟩ := h7.ex
  obtain ⟨_, au, cu, hu, _⟩ := h8 (x, u) (by simp)
  simp only at hu
  subst hu
  refine Calls.mono (nth1_any b0 x y au x.items.length cu v w h1) ?_
  rintro e w' ⟨rfl, k1, k2⟩
  refine ⟨rfl, k2.mono (fun j _ (hj : j = b0) hb => h5 (by rw [← hj]; exact hb)), x, _, ps ++ [(x, .slice au x.items.length cu)], k1, .inr ⟨by simp, by simp⟩, h5, ?_⟩
  simpa using h7.k1 (k2.mono (fun j _ hj => .inr hj))

end Go.Proofs.YtbhfbjbigafnpaaGreat

