/-
  made and meant: a seq of the statements, by the program and by the document.
-/
import Derived.Test.YtnjgolibmllhnaaGreatStateS
namespace Go.Proofs.YtnjgolibmllhnaaGreat
open Go.RowKit Go.Shelf

set_option maxRecDepth 100000 in
set_option maxHeartbeats 8000000 in
theorem rcons_new (v : VT) (a : Option Addr) (c b : Nat) (w : World) (hu : Lies 16 w v.items (.slice a v.items.length c)) (hr : rightV 16 v = true) :
    Calls Tryz.prog 31 #[.agg #[.int .i64 v.kind, .int .i64 v.num, .string v.text, .slice a v.items.length c], .pointer (some ⟨b, 0, none⟩)] w fun e w' => Below w.heap.size w w' ∧ ∃ d, w.heap.size ≤ d ∧ e = .returned (.tuple #[.pointer (some ⟨d, 0, none⟩), .int .i64 0]) ∧ DB w' d true true v (.slice a v.items.length c) (some ⟨b, 0, none⟩) 0 0 zeroT (.slice none 0 0) := by
  obtain ⟨W0, hW0⟩ : ∃ W0, W0 = w.alloc (.cells #[.int .i64 v.kind, .int .i64 v.num, .string v.text, .slice a v.items.length c] 24) := ⟨_, rfl⟩
  have HW0 : Hid (W0 = w.alloc (.cells #[.int .i64 v.kind, .int .i64 v.num, .string v.text, .slice a v.items.length c] 24)) := hW0
  have hb0 : Below w.heap.size w W0 := by rw [hW0]; exact ((Grew.refl _).alloc _).below
  have HK : Hid (Bx W0 w.heap.size v (.slice a v.items.length c)) := by rw [hW0]; exact bx_alloc _ _ _
  have HRi : Hid (Calls Tryz.prog 70 #[.agg #[.int .i64 v.kind, .int .i64 v.num, .string v.text, .slice a v.items.length c]] W0 fun e w' => e = .returned (.bool true) ∧ Below W0.heap.size W0 w') := by
    have h9 := right_any 16 v _ W0 (Lies.keeps hb0 _ _ _ hu)
    rw [hr] at h9
    exact h9
  obtain ⟨k0, k1, k2, k3, _, _, _, _⟩ := HK.out
  clear hW0 hu hr HK
  go_enter Tryz.func31, Tryz.ntmps31
  go_upto_region 1 with fail
  rw [← HW0.out]
  clear HW0
  go_wp2_with fail
  refine Calls.mono HRi.out ?_
  rintro e w1 ⟨rfl, hg1⟩
  have hb1 : Below w.heap.size w w1 := hb0.trans (hg1.mono hb0.size)
  have k0 := cell_keeps hg1 k0; have k1 := cell_keeps hg1 k1; have k2 := cell_keeps hg1 k2; have k3 := cell_keeps hg1 k3
  have HE : Hid (Below w.heap.size w (w1.alloc (.cells #[.bool true, .bool true, .int .i64 v.kind, .int .i64 v.num, .string v.text, .slice a v.items.length c, .pointer (some ⟨b, 0, none⟩), .int .i64 0, .int .i64 0, .int .i64 0, .int .i64 0, .int .i64 0, .string ⟨#[]⟩, .slice none 0 0, .slice none 0 0, .slice none 0 0] 100)) ∧ DB (w1.alloc (.cells #[.bool true, .bool true, .int .i64 v.kind, .int .i64 v.num, .string v.text, .slice a v.items.length c, .pointer (some ⟨b, 0, none⟩), .int .i64 0, .int .i64 0, .int .i64 0, .int .i64 0, .int .i64 0, .string ⟨#[]⟩, .slice none 0 0, .slice none 0 0, .slice none 0 0] 100)) w1.heap.size true true v (.slice a v.items.length c) (some ⟨b, 0, none⟩) 0 0 zeroT (.slice none 0 0)) := ⟨hb1.trans (((Grew.refl w1).alloc _).below.mono hb1.size), db_alloc w1 100 true true v (.slice a v.items.length c) (some ⟨b, 0, none⟩) 0 0 zeroT (.slice none 0 0)⟩
  have Hsz : Hid (w.heap.size ≤ w1.heap.size) := hb1.size
  clear hg1 HRi hb1 hb0
  go_wp2_with fail
  refine bodyPost_ret (v := .tuple #[.pointer (some ⟨w1.heap.size, 0, none⟩), .int .i64 0]) ?_ rfl ⟨HE.out.1, _, Hsz.out, rfl, HE.out.2⟩
  simp [results, Tryz.results31, go_sem]


/-- What is behind the known items of a seq of the statements. -/
def fromT (E : Bool) (o : Int) (v : VT) : Tl := if E = true then some (o.toNat, v) else none

/-- Such a seq is right. -/
def FromOK (d : Nat) (L : List VT) (E : Bool) (o : Int) (v : VT) : Prop := (E = true → timesE d o 0 v = 0) ∧ ∀ x ∈ L, rightV d x = true

/-- A seq of the statements as an argument. -/
abbrev fromV (aL : Option Addr) (n cL : Nat) (o : Int) (v : VT) (u : Value) (E : Bool) : Value := .agg #[.slice aL n cL, .int .i64 o, .int .i64 v.kind, .int .i64 v.num, .string v.text, u, .bool E]

/-- What made and meant tell. -/
def SmPost (C : CK) (Y : Nat → Prop) (d : Nat) (L : List VT) (E : Bool) (o : Int) (v : VT) (w : World) (e : Ending) (w' : World) : Prop :=
  Below w.heap.size w w' ∧ ((¬ FromOK d L E o v ∧ e = .returned (.pointer none)) ∨ (FromOK d L E o v ∧ ∃ P, e = .returned (.pointer (some ⟨P 0, 0, none⟩)) ∧ Chn C Y w' L (fromT E o v) P ∧ ∀ j, j ≤ L.length → w.heap.size ≤ P j))

theorem iter_right {d : Nat} {o : Int} {v : VT} {w : World} {u : Value} (hu : Lies d w v.items u) (h : timesE d o 0 v = 0) : o.toNat < 8 ∧ rightV 16 v = true ∧ Lies 16 w v.items u := by
  unfold timesE at h
  by_cases h1 : o < 0 ∨ 8 ≤ o
  · rw [if_pos h1] at h; cases h
  · rw [if_neg h1] at h
    have h2 : ¬ ((0 : Int) < 0 ∨ (65536 : Int) < 0) := by omega
    rw [if_neg h2] at h
    cases hr : rightV d v with
    | false => rw [hr] at h; cases h
    | true =>
      have hc := canon hu hr
      exact ⟨by omega, hc.2, hc.1⟩

/-- A cell of Iter alone. -/
theorem chn_iter {C : CK} {Y : Nat → Prop} {w : World} {b q : Nat} {v : VT} {a : Option Addr} {c : Nat} (hY : Y b) (hq : q < 8) (hr : rightV 16 v = true) (hd : Dp 16 v) (h : C.lz w b q v v (.slice a v.items.length c)) (hl : LiesX (fun n => Y n ∧ n ≠ b) 16 w v.items (.slice a v.items.length c)) : Chn C Y w [] (some (q, v)) (fun _ => b) := by
  refine ⟨(fun x hx => by cases hx), (fun i j hi hj _ => by simp at hi hj; omega), (fun _ _ => hY), (fun i x hx => by simp at hx), (fun e => by cases e), (fun q' x e => ?_)⟩
  obtain ⟨rfl, rfl⟩ : q = q' ∧ v = x := by simpa using e
  exact ⟨hq, hr, hd, v, a, c, hr, h, LiesX.mono (fun n hn => ⟨hn.1, fun _ _ => hn.2⟩) hl⟩

/-- The loop under way: the last items are in the seq. -/
def MkS (C : CK) (Y : Nat → Prop) (d : Nat) (L : List VT) (T : Tl) (w : World) (k b : Nat) (wr : World) : Prop :=
  Below w.heap.size w wr ∧ (∀ x ∈ L.drop k, rightV d x = true) ∧ ∃ P, P 0 = b ∧ Chn C Y wr (L.drop k) T P ∧ ∀ j, j ≤ (L.drop k).length → w.heap.size ≤ P j

theorem MkS.step {C : CK} {Y : Nat → Prop} {d : Nat} {L : List VT} {T : Tl} {w : World} {k b : Nat} {wr w' : World} (s : MkS C Y d L T w (k + 1) b wr) (hY : ∀ n, w.heap.size ≤ n → Y n) (hk : k < L.length) (hr : rightV d L[k] = true) (hr16 : rightV 16 L[k] = true) (hb : Below wr.heap.size wr w') {e : Nat} (he : wr.heap.size ≤ e) {a : Option Addr} {c : Nat} (hc : C.kn w' e L[k] (.slice a L[k].items.length c) b) (hl : LiesX (fun n => (Y n ∧ n ≠ e) ∧ (n < w.heap.size ∨ wr.heap.size ≤ n)) 16 w' L[k].items (.slice a L[k].items.length c)) : MkS C Y d L T w k e w' := by
  obtain ⟨hbw, hrs, P, rfl, hC, hP⟩ := s
  have hs := hbw.size
  have hdrop : L.drop k = L[k] :: L.drop (k + 1) := List.drop_eq_getElem_cons hk
  refine ⟨hbw.trans (hb.mono hs), fun x hx => ?_, fun i => if i = 0 then e else P (i - 1), ?_, ?_, fun j hj => ?_⟩
  · rw [hdrop] at hx
    rcases List.mem_cons.1 hx with rfl | hx
    · exact hr
    · exact hrs x hx
  · simp
  · rw [hdrop]
    refine hC.cons (fun n hn => hY n (by omega)) hb he hr16 hc (LiesX.mono (fun n hn => ⟨hn.1, fun j hj => ?_⟩) hl)
    have h1 := hC.lt j hj
    have h2 := hP j hj
    rcases hn.2 with h | h <;> omega
  · rw [hdrop] at hj
    simp only [List.length_cons] at hj
    by_cases e1 : j = 0
    · simp only [if_pos e1]; omega
    · simp only [if_neg e1]; exact hP _ (by omega)

set_option maxRecDepth 100000 in
set_option maxHeartbeats 16000000 in
theorem smade_any (d : Nat) (L : List VT) (aL : Option Addr) (cL : Nat) (o : Int) (v : VT) (av : Option Addr) (cv : Nat) (E : Bool) (w : World) (hL : Lies (d + 1) w L (.slice aL L.length cL)) (hv : Lies d w v.items (.slice av v.items.length cv)) (hvt : v.text.size ≤ 9223372036854775807) :
    Calls Tryz.prog 7 #[fromV aL L.length cL o v (.slice av v.items.length cv) E] w (SmPost pCK (fun n => w.heap.size ≤ n) d L E o v w) := by
  obtain ⟨W, hW⟩ : ∃ W, W = w.alloc (.cells #[.slice aL L.length cL, .int .i64 o, .int .i64 v.kind, .int .i64 v.num, .string v.text, .slice av v.items.length cv, .bool E] 26) := ⟨_, rfl⟩
  have HW : Hid (W = w.alloc (.cells #[.slice aL L.length cL, .int .i64 o, .int .i64 v.kind, .int .i64 v.num, .string v.text, .slice av v.items.length cv, .bool E] 26)) := hW
  have hb0 : Below w.heap.size w W := by rw [hW]; exact ((Grew.refl w).alloc _).below
  have HEm : Hid (∀ V, Calls Tryz.prog 26 #[] V fun e w' => e = .returned (.pointer (some ⟨V.heap.size, 0, none⟩)) ∧ Below V.heap.size V w' ∧ CB w' V.heap.size .nilIface 0 zeroT (.slice none 0 0) none) := fun V => (cempty_any V).mono fun e w' h => ⟨h.1, by rw [h.2]; exact ((Grew.refl _).alloc _).below, by rw [h.2]; exact cb_alloc V 97 .nilIface 0 zeroT (.slice none 0 0) none⟩
  have HIt : Hid (∀ V, Below w.heap.size w V → Calls Tryz.prog 27 #[.int .i64 o, .agg #[.int .i64 v.kind, .int .i64 v.num, .string v.text, .slice av v.items.length cv]] V (IterPost (timesE d o 0 v) o.toNat v V)) := fun V hV => iter_any d o v _ V (Lies.keeps hV _ _ _ hv) hvt
  have HCo : Hid (∀ V (x : VT) (a : Option Addr) (c b : Nat), Lies d V x.items (.slice a x.items.length c) → rightV d x = true → Calls Tryz.prog 28 #[.agg #[.int .i64 x.kind, .int .i64 x.num, .string x.text, .slice a x.items.length c], .pointer (some ⟨b, 0, none⟩)] V (ConsPost x b V)) := fun V x a c b hl hr => cons_ok x _ b V (canon hl hr).1 (canon hl hr).2
  have HCw : Hid (∀ V (x : VT) (a : Option Addr) (c b : Nat), Lies d V x.items (.slice a x.items.length c) → x.text.size ≤ 9223372036854775807 → rightV d x = false → Calls Tryz.prog 28 #[.agg #[.int .i64 x.kind, .int .i64 x.num, .string x.text, .slice a x.items.length c], .pointer (some ⟨b, 0, none⟩)] V fun e w' => e = .returned (.tuple #[.pointer none, .int .i64 3]) ∧ Below V.heap.size V w') := fun V x a c b hl ht hr => cons_wrong d x _ (some ⟨b, 0, none⟩) V hl ht hr
  have HRt : Hid (timesE d o 0 v = 0 → o.toNat < 8 ∧ rightV 16 v = true ∧ Lies 16 w v.items (.slice av v.items.length cv)) := fun h => iter_right hv h
  obtain ⟨_, _, eL, hlc, hrow⟩ := hL
  obtain ⟨rfl, _, rfl⟩ : aL = _ ∧ L.length = L.length ∧ cL = _ := by simpa using eL
  have HRow : Hid _ := hrow
  have _z := True.intro
  have HY : Hid (∀ n, w.heap.size ≤ n → (fun n => w.heap.size ≤ n) n) := fun n hn => hn
  obtain ⟨LL, hLL⟩ : ∃ LL, LL = L.length := ⟨_, rfl⟩
  have HLe : Hid (LL = L.length) := hLL
  have hLz : LL ≤ 9223372036854775807 := by omega
  have e1 : IntKind.i64.wrap ((LL : Int) - 1) = (LL : Int) - 1 := by rw [IntKind.wrap_i64]; omega
  have k0 : W.cell? ⟨w.heap.size, 0, none⟩ = some (.slice aL LL cL) := by rw [hW, hLL]; simp
  have k1 : W.cell? ⟨w.heap.size, 1, none⟩ = some (.int .i64 o) := by rw [hW]; simp
  have k2 : W.cell? ⟨w.heap.size, 2, none⟩ = some (.int .i64 v.kind) := by rw [hW]; simp
  have k3 : W.cell? ⟨w.heap.size, 3, none⟩ = some (.int .i64 v.num) := by rw [hW]; simp
  have k4 : W.cell? ⟨w.heap.size, 4, none⟩ = some (.string v.text) := by rw [hW]; simp
  have k5 : W.cell? ⟨w.heap.size, 5, none⟩ = some (.slice av v.items.length cv) := by rw [hW]; simp
  have k6 : W.cell? ⟨w.heap.size, 6, none⟩ = some (.bool E) := by rw [hW]; simp
  clear hlc eL hrow hv hvt hLL hW
  go_enter Tryz.func7, Tryz.ntmps7
  go_upto_region 1 with fail
  rw [← HW.out]
  clear HW
  go_wp2_with fail
  refine Calls.mono (HEm.out _) ?_
  rintro e w1 ⟨rfl, hg1, hen⟩
  have hb1 : Below w.heap.size w w1 := hb0.trans (hg1.mono hb0.size)
  have k0 := cell_keeps hg1 k0; have k1 := cell_keeps hg1 k1; have k2 := cell_keeps hg1 k2; have k3 := cell_keeps hg1 k3; have k4 := cell_keeps hg1 k4; have k5 := cell_keeps hg1 k5; have k6 := cell_keeps hg1 k6
  have hWs := hb0.size
  have HN : Hid (MkS pCK (fun n => w.heap.size ≤ n) d L none w LL W.heap.size w1) := by
    rw [HLe.out]
    refine ⟨hb1, fun x hx => by simp at hx, fun _ => W.heap.size, rfl, ?_, fun j _ => hWs⟩
    rw [List.drop_length]
    exact chn_nil (hWs) hen
  clear hg1 hen HEm hWs
  cases hE : E with
  | true =>
    subst hE
    go_wp2_with fail
    refine Calls.mono (HIt.out _ hb1) ?_
    rintro e w2 ⟨hg2, ⟨hE0, rfl⟩ | ⟨hE0, a, c, b, rfl, hb, hcb, hlx⟩⟩
    · have hb2 : Below w.heap.size w w2 := hb1.trans (hg2.mono hb1.size)
      have HE : Hid (SmPost pCK (fun n => w.heap.size ≤ n) d L true o v w (.returned (.pointer none)) w2) := ⟨hb2, .inl ⟨fun h => hE0 (h.1 rfl), rfl⟩⟩
      clear hg2 hb2 HN HIt HCo HCw HRt
      generalize timesE d o 0 v = E0 at *
      have hE1 : ¬ E0 = 0 := hE0
      clear hE0
      go_wp2_with fail
      refine bodyPost_ret (v := .pointer none) ?_ rfl HE.out
      simp [results, Tryz.results7, go_sem]
    · have hb2 : Below w.heap.size w w2 := hb1.trans (hg2.mono hb1.size)
      obtain ⟨h1, h2, h4⟩ := HRt.out hE0
      have h3 : Dp 16 v := Dp.of_lies 16 w v _ h4
      have hs1 := hb1.size
      have HN2 : Hid (MkS pCK (fun n => w.heap.size ≤ n) d L (fromT true o v) w LL b w2) := by
        rw [HLe.out]
        refine ⟨hb2, fun x hx => by simp at hx, fun _ => b, rfl, ?_, fun j _ => by show w.heap.size ≤ b; omega⟩
        rw [List.drop_length]
        exact chn_iter (C := pCK) (a := a) (c := c) (show w.heap.size ≤ b by omega) h1 h2 h3 ⟨0, by omega, rfl, hcb⟩ (LiesX.mono (fun n hn => ⟨by omega, hn.2⟩) hlx)
      have HOK : Hid (timesE d o 0 v = 0) := hE0
      have k0 := cell_keeps hg2 k0
      have hb3 : w.heap.size < w2.heap.size := cell_lt k0
      clear hg2 hb2 HN HIt HRt h1 h2 h3 h4 hs1 hE0 hb hcb hlx k1 k2 k3 k4 k5 k6 hb1 hb0
      go_wp2_with fail
      go_loopg [3, 6] LL (fun g cc i wr => ∃ (j b : Nat) (z : Int), i = .int .i64 z ∧ cc = .pointer (some ⟨b, 0, none⟩) ∧ j ≤ LL ∧ g = j ∧ Hid (z = (j : Int) - 1) ∧ Hid (wr.cell? ⟨w.heap.size, 0, none⟩ = some (.slice aL LL cL)) ∧ Hid (MkS pCK (fun n => w.heap.size ≤ n) d L (fromT true o v) w j b wr))
      case atStart => exact ⟨LL, _, _, rfl, rfl, Nat.le_refl _, rfl, rfl, k0, HN2.out⟩
      case round =>
        clear HN2 e1 k0 hb3
        obtain ⟨j, b, z, rfl, rfl, hj, hg, Hz, Hk0, HI⟩ := hrel
        have Hg : Hid (gk = j) := hg
        clear hg
        have k0 := Hk0.out
        by_cases hj0 : j = 0
        · have hz0 : ¬ (0 : Int) ≤ z := by have := Hz.out; omega
          have HE : Hid (SmPost pCK (fun n => w.heap.size ≤ n) d L true o v w (.returned (.pointer (some ⟨b, 0, none⟩))) wr) := by
            obtain ⟨h1, h2, P, h3, h4, h5⟩ := HI.out
            subst hj0
            exact ⟨h1, .inr ⟨⟨fun _ => HOK.out, h2⟩, P, by rw [h3], h4, h5⟩⟩
          clear hj0 Hz Hg hj HI Hk0
          go_wp2_with fail
          refine bodyPost_ret (v := .pointer (some ⟨b, 0, none⟩)) ?_ rfl HE.out
          simp [results, Tryz.results7, go_sem]
        · obtain ⟨k, rfl⟩ : ∃ k, j = k + 1 := ⟨j - 1, by omega⟩
          obtain rfl : z = (k : Int) := by have := Hz.out; omega
          have hkL : k < L.length := by have := HLe.out; omega
          have hne : L ≠ [] := by intro h; rw [h] at hkL; simp at hkL
          obtain ⟨bb, oo, rfl, hall⟩ := HRow.out hne
          obtain ⟨u, r0, r1, r2, r3, hlx, htx⟩ := hall k hkL
          obtain ⟨ax, cx, rfl, _⟩ := Lies.slice hlx
          obtain ⟨x, hx⟩ : ∃ x, x = L[k] := ⟨_, rfl⟩
          have Hx : Hid (x = L[k]) := hx
          rw [← hx] at r0 r1 r2 r3 hlx htx
          have hbr := HI.out.1
          have r0 := cell_keeps hbr r0; have r1 := cell_keeps hbr r1; have r2 := cell_keeps hbr r2; have r3 := cell_keeps hbr r3
          have HX : Hid (Lies d w x.items (.slice ax x.items.length cx) ∧ Lies d wr x.items (.slice ax x.items.length cx) ∧ x.text.size ≤ 9223372036854775807) := ⟨hlx, Lies.keeps hbr _ _ _ hlx, htx⟩
          have i1 : (0 : Int) ≤ (k : Int) := by omega
          have i2 : (k : Int) < (LL : Int) := by omega
          have e2 : IntKind.i64.wrap ((k : Int) - 1) = (k : Int) - 1 := by rw [IntKind.wrap_i64]; omega
          clear hx hall hlx htx hbr hne HRow hj0 Hk0
          cases hr : rightV d x with
          | true =>
            have HC1 : Hid _ := HCo.out wr x ax cx b HX.out.2.1 hr
            clear HCo HCw
            go_wp2_with fail
            refine Calls.mono HC1.out ?_
            rintro e w3 ⟨hbc, e2, a9, c9, rfl, hde, hkn, hlc⟩
            have HI2 : Hid (MkS pCK (fun n => w.heap.size ≤ n) d L (fromT true o v) w k e2 w3) := by
              have hrx := hr
              have hr16 := (canon HX.out.1 hr).2
              have hc := (canon HX.out.1 hr).1
              have e9 := Hx.out
              subst e9
              have hs := HI.out.1.size
              have hb9 := HI.out.1.trans (hbc.mono hs)
              have _h9 := hb9
              exact HI.out.step HY.out hkL hrx hr16 hbc hde hkn (LiesX.mono (fun n hn => ⟨⟨by omega, hn.2⟩, .inr hn.1⟩) hlc)
            have k0 := cell_keeps hbc k0
            clear hbc hkn hlc HC1 HI hde r0 r1 r2 r3
            go_wp2_with fail
            go_roundg k
            case measure => have := Hg.out; omega
            case rel => exact ⟨k, e2, (k : Int) - 1, by first | rfl | (rw [e2]), rfl, by omega, rfl, rfl, k0, HI2.out⟩
          | false =>
            have HC1 : Hid _ := HCw.out wr x ax cx b HX.out.2.1 HX.out.2.2 hr
            clear HCo HCw
            go_wp2_with fail
            refine Calls.mono HC1.out ?_
            rintro e w3 ⟨rfl, hbc⟩
            have HE : Hid (SmPost pCK (fun n => w.heap.size ≤ n) d L true o v w (.returned (.pointer none)) w3) := by
              refine ⟨HI.out.1.trans (hbc.mono HI.out.1.size), .inl ⟨fun h => ?_, rfl⟩⟩
              have := h.2 x (by rw [Hx.out]; exact List.getElem_mem hkL)
              rw [hr] at this
              cases this
            clear hbc HC1 HI r0 r1 r2 r3 k0
            go_wp2_with fail
            refine bodyPost_ret (v := .pointer none) ?_ rfl HE.out
            simp [results, Tryz.results7, go_sem]
  | false =>
    subst hE
    have hb3 : w.heap.size < w1.heap.size := cell_lt k0
    have HN2 : Hid (MkS pCK (fun n => w.heap.size ≤ n) d L (fromT false o v) w LL W.heap.size w1) := HN.out
    have HOK : Hid (false = true → timesE d o 0 v = 0) := fun h => by cases h
    clear HN HIt HRt k1 k2 k3 k4 k5 hb1 hb0
    go_wp2_with fail
    go_loopg [3, 6] LL (fun g cc i wr => ∃ (j b : Nat) (z : Int), i = .int .i64 z ∧ cc = .pointer (some ⟨b, 0, none⟩) ∧ j ≤ LL ∧ g = j ∧ Hid (z = (j : Int) - 1) ∧ Hid (wr.cell? ⟨w.heap.size, 0, none⟩ = some (.slice aL LL cL)) ∧ Hid (MkS pCK (fun n => w.heap.size ≤ n) d L (fromT false o v) w j b wr))
    case atStart => exact ⟨LL, _, _, rfl, rfl, Nat.le_refl _, rfl, rfl, k0, HN2.out⟩
    case round =>
      clear HN2 e1 k0 hb3
      obtain ⟨j, b, z, rfl, rfl, hj, hg, Hz, Hk0, HI⟩ := hrel
      have Hg : Hid (gk = j) := hg
      clear hg
      have k0 := Hk0.out
      by_cases hj0 : j = 0
      · have hz0 : ¬ (0 : Int) ≤ z := by have := Hz.out; omega
        have HE : Hid (SmPost pCK (fun n => w.heap.size ≤ n) d L false o v w (.returned (.pointer (some ⟨b, 0, none⟩))) wr) := by
          obtain ⟨h1, h2, P, h3, h4, h5⟩ := HI.out
          subst hj0
          exact ⟨h1, .inr ⟨⟨HOK.out, h2⟩, P, by rw [h3], h4, h5⟩⟩
        clear hj0 Hz Hg hj HI Hk0
        go_wp2_with fail
        refine bodyPost_ret (v := .pointer (some ⟨b, 0, none⟩)) ?_ rfl HE.out
        simp [results, Tryz.results7, go_sem]
      · obtain ⟨k, rfl⟩ : ∃ k, j = k + 1 := ⟨j - 1, by omega⟩
        obtain rfl : z = (k : Int) := by have := Hz.out; omega
        have hkL : k < L.length := by have := HLe.out; omega
        have hne : L ≠ [] := by intro h; rw [h] at hkL; simp at hkL
        obtain ⟨bb, oo, rfl, hall⟩ := HRow.out hne
        obtain ⟨u, r0, r1, r2, r3, hlx, htx⟩ := hall k hkL
        obtain ⟨ax, cx, rfl, _⟩ := Lies.slice hlx
        obtain ⟨x, hx⟩ : ∃ x, x = L[k] := ⟨_, rfl⟩
        have Hx : Hid (x = L[k]) := hx
        rw [← hx] at r0 r1 r2 r3 hlx htx
        have hbr := HI.out.1
        have r0 := cell_keeps hbr r0; have r1 := cell_keeps hbr r1; have r2 := cell_keeps hbr r2; have r3 := cell_keeps hbr r3
        have HX : Hid (Lies d w x.items (.slice ax x.items.length cx) ∧ Lies d wr x.items (.slice ax x.items.length cx) ∧ x.text.size ≤ 9223372036854775807) := ⟨hlx, Lies.keeps hbr _ _ _ hlx, htx⟩
        have i1 : (0 : Int) ≤ (k : Int) := by omega
        have i2 : (k : Int) < (LL : Int) := by omega
        have e2 : IntKind.i64.wrap ((k : Int) - 1) = (k : Int) - 1 := by rw [IntKind.wrap_i64]; omega
        clear hx hall hlx htx hbr hne HRow hj0 Hk0
        cases hr : rightV d x with
        | true =>
          have HC1 : Hid _ := HCo.out wr x ax cx b HX.out.2.1 hr
          clear HCo HCw
          go_wp2_with fail
          refine Calls.mono HC1.out ?_
          rintro e w3 ⟨hbc, e2, a9, c9, rfl, hde, hkn, hlc⟩
          have HI2 : Hid (MkS pCK (fun n => w.heap.size ≤ n) d L (fromT false o v) w k e2 w3) := by
            have hrx := hr
            have hr16 := (canon HX.out.1 hr).2
            have hc := (canon HX.out.1 hr).1
            have e9 := Hx.out
            subst e9
            have hs := HI.out.1.size
            have hb9 := HI.out.1.trans (hbc.mono hs)
            have _h9 := hb9
            exact HI.out.step HY.out hkL hrx hr16 hbc hde hkn (LiesX.mono (fun n hn => ⟨⟨by omega, hn.2⟩, .inr hn.1⟩) hlc)
          have k0 := cell_keeps hbc k0
          clear hbc hkn hlc HC1 HI hde r0 r1 r2 r3
          go_wp2_with fail
          go_roundg k
          case measure => have := Hg.out; omega
          case rel => exact ⟨k, e2, (k : Int) - 1, by first | rfl | (rw [e2]), rfl, by omega, rfl, rfl, k0, HI2.out⟩
        | false =>
          have HC1 : Hid _ := HCw.out wr x ax cx b HX.out.2.1 HX.out.2.2 hr
          clear HCo HCw
          go_wp2_with fail
          refine Calls.mono HC1.out ?_
          rintro e w3 ⟨rfl, hbc⟩
          have HE : Hid (SmPost pCK (fun n => w.heap.size ≤ n) d L false o v w (.returned (.pointer none)) w3) := by
            refine ⟨HI.out.1.trans (hbc.mono HI.out.1.size), .inl ⟨fun h => ?_, rfl⟩⟩
            have := h.2 x (by rw [Hx.out]; exact List.getElem_mem hkL)
            rw [hr] at this
            cases this
          clear hbc HC1 HI r0 r1 r2 r3 k0
          go_wp2_with fail
          refine bodyPost_ret (v := .pointer none) ?_ rfl HE.out
          simp [results, Tryz.results7, go_sem]

set_option maxRecDepth 100000 in
set_option maxHeartbeats 16000000 in
theorem smeant_any (d : Nat) (L : List VT) (aL : Option Addr) (cL : Nat) (o : Int) (v : VT) (av : Option Addr) (cv : Nat) (E : Bool) (N : Nat) (w : World) (hN : N ≤ w.heap.size) (hL : LiesX (fun n => n < N) (d + 1) w L (.slice aL L.length cL)) (hv : LiesX (fun n => n < N) d w v.items (.slice av v.items.length cv)) (_hvt : v.text.size ≤ 9223372036854775807) :
    Calls Tryz.prog 8 #[fromV aL L.length cL o v (.slice av v.items.length cv) E] w (SmPost dCK (fun n => n < N ∨ w.heap.size ≤ n) d L E o v w) := by
  obtain ⟨W, hW⟩ : ∃ W, W = w.alloc (.cells #[.slice aL L.length cL, .int .i64 o, .int .i64 v.kind, .int .i64 v.num, .string v.text, .slice av v.items.length cv, .bool E] 26) := ⟨_, rfl⟩
  have HW : Hid (W = w.alloc (.cells #[.slice aL L.length cL, .int .i64 o, .int .i64 v.kind, .int .i64 v.num, .string v.text, .slice av v.items.length cv, .bool E] 26)) := hW
  have hb0 : Below w.heap.size w W := by rw [hW]; exact ((Grew.refl w).alloc _).below
  have HEm : Hid (∀ V, Calls Tryz.prog 29 #[] V fun e w' => e = .returned (.pointer (some ⟨V.heap.size, 0, none⟩)) ∧ Below V.heap.size V w' ∧ DB w' V.heap.size true false zeroT (.slice none 0 0) none 0 0 zeroT (.slice none 0 0)) := fun V => rempty_any V
  have HIt : Hid (∀ V, Below w.heap.size w V → Calls Tryz.prog 30 #[.int .i64 o, .agg #[.int .i64 v.kind, .int .i64 v.num, .string v.text, .slice av v.items.length cv]] V (BegPost (timesE d o 0 v) o.toNat v av cv V)) := fun V hV => begin_any d o v av cv V (Lies.keeps hV _ _ _ hv.lies)
  have HCo : Hid (∀ V (x : VT) (a : Option Addr) (c b : Nat), Lies d V x.items (.slice a x.items.length c) → rightV d x = true → Calls Tryz.prog 31 #[.agg #[.int .i64 x.kind, .int .i64 x.num, .string x.text, .slice a x.items.length c], .pointer (some ⟨b, 0, none⟩)] V ((fun e w' => Below V.heap.size V w' ∧ ∃ d, V.heap.size ≤ d ∧ e = .returned (.tuple #[.pointer (some ⟨d, 0, none⟩), .int .i64 0]) ∧ DB w' d true true x (.slice a x.items.length c) (some ⟨b, 0, none⟩) 0 0 zeroT (.slice none 0 0)))) := fun V x a c b hl hr => rcons_new x _ _ b V (canon hl hr).1 (canon hl hr).2
  have HCw : Hid (∀ V (x : VT) (a : Option Addr) (c b : Nat), Lies d V x.items (.slice a x.items.length c) → x.text.size ≤ 9223372036854775807 → rightV d x = false → Calls Tryz.prog 31 #[.agg #[.int .i64 x.kind, .int .i64 x.num, .string x.text, .slice a x.items.length c], .pointer (some ⟨b, 0, none⟩)] V fun e w' => e = .returned (.tuple #[.pointer none, .int .i64 3]) ∧ Below V.heap.size V w') := fun V x a c b hl ht hr => rcons_wrong d x _ _ (some ⟨b, 0, none⟩) V hl hr
  have HRt : Hid (timesE d o 0 v = 0 → o.toNat < 8 ∧ rightV 16 v = true ∧ LiesX (fun n => n < N) 16 w v.items (.slice av v.items.length cv)) := fun h => ⟨(iter_right hv.lies h).1, (iter_right hv.lies h).2.1, hv.to (Dp.of_lies 16 w v _ (iter_right hv.lies h).2.2)⟩
  obtain ⟨_, _, eL, hlc, hrow⟩ := hL
  obtain ⟨rfl, _, rfl⟩ : aL = _ ∧ L.length = L.length ∧ cL = _ := by simpa using eL
  have HRow : Hid _ := hrow
  have HNw : Hid (N ≤ w.heap.size) := hN
  have HY : Hid (∀ n, w.heap.size ≤ n → (fun n => n < N ∨ w.heap.size ≤ n) n) := fun n hn => .inr hn
  obtain ⟨LL, hLL⟩ : ∃ LL, LL = L.length := ⟨_, rfl⟩
  have HLe : Hid (LL = L.length) := hLL
  have hLz : LL ≤ 9223372036854775807 := by omega
  have e1 : IntKind.i64.wrap ((LL : Int) - 1) = (LL : Int) - 1 := by rw [IntKind.wrap_i64]; omega
  have k0 : W.cell? ⟨w.heap.size, 0, none⟩ = some (.slice aL LL cL) := by rw [hW, hLL]; simp
  have k1 : W.cell? ⟨w.heap.size, 1, none⟩ = some (.int .i64 o) := by rw [hW]; simp
  have k2 : W.cell? ⟨w.heap.size, 2, none⟩ = some (.int .i64 v.kind) := by rw [hW]; simp
  have k3 : W.cell? ⟨w.heap.size, 3, none⟩ = some (.int .i64 v.num) := by rw [hW]; simp
  have k4 : W.cell? ⟨w.heap.size, 4, none⟩ = some (.string v.text) := by rw [hW]; simp
  have k5 : W.cell? ⟨w.heap.size, 5, none⟩ = some (.slice av v.items.length cv) := by rw [hW]; simp
  have k6 : W.cell? ⟨w.heap.size, 6, none⟩ = some (.bool E) := by rw [hW]; simp
  clear hlc eL hrow hv  hLL hW
  go_enter Tryz.func8, Tryz.ntmps8
  go_upto_region 1 with fail
  rw [← HW.out]
  clear HW
  go_wp2_with fail
  refine Calls.mono (HEm.out _) ?_
  rintro e w1 ⟨rfl, hg1, hen⟩
  have hb1 : Below w.heap.size w w1 := hb0.trans (hg1.mono hb0.size)
  have k0 := cell_keeps hg1 k0; have k1 := cell_keeps hg1 k1; have k2 := cell_keeps hg1 k2; have k3 := cell_keeps hg1 k3; have k4 := cell_keeps hg1 k4; have k5 := cell_keeps hg1 k5; have k6 := cell_keeps hg1 k6
  have hWs := hb0.size
  have HN : Hid (MkS dCK (fun n => n < N ∨ w.heap.size ≤ n) d L none w LL W.heap.size w1) := by
    rw [HLe.out]
    refine ⟨hb1, fun x hx => by simp at hx, fun _ => W.heap.size, rfl, ?_, fun j _ => hWs⟩
    rw [List.drop_length]
    exact chn_nil (.inr hWs) hen
  clear hg1 hen HEm hWs
  cases hE : E with
  | true =>
    subst hE
    go_wp2_with fail
    refine Calls.mono (HIt.out _ hb1) ?_
    rintro e w2 ⟨hg2, ⟨hE0, rfl⟩ | ⟨hE0, b, rfl, hb, hcb⟩⟩
    · have hb2 : Below w.heap.size w w2 := hb1.trans (hg2.mono hb1.size)
      have HE : Hid (SmPost dCK (fun n => n < N ∨ w.heap.size ≤ n) d L true o v w (.returned (.pointer none)) w2) := ⟨hb2, .inl ⟨fun h => hE0 (h.1 rfl), rfl⟩⟩
      clear hg2 hb2 HN HIt HCo HCw HRt
      generalize timesE d o 0 v = E0 at *
      have hE1 : ¬ E0 = 0 := hE0
      clear hE0
      go_wp2_with fail
      refine bodyPost_ret (v := .pointer none) ?_ rfl HE.out
      simp [results, Tryz.results8, go_sem]
    · have hb2 : Below w.heap.size w w2 := hb1.trans (hg2.mono hb1.size)
      obtain ⟨h1, h2, h4⟩ := HRt.out hE0
      have h3 : Dp 16 v := Dp.of_lies 16 w v _ h4.lies
      have hs1 := hb1.size
      have HN2 : Hid (MkS dCK (fun n => n < N ∨ w.heap.size ≤ n) d L (fromT true o v) w LL b w2) := by
        rw [HLe.out]
        refine ⟨hb2, fun x hx => by simp at hx, fun _ => b, rfl, ?_, fun j _ => by show w.heap.size ≤ b; omega⟩
        rw [List.drop_length]
        exact chn_iter (C := dCK) (a := av) (c := cv) (.inr (show w.heap.size ≤ b by omega)) h1 h2 h3 ⟨1, .inl ⟨rfl, rfl⟩, hcb⟩ (LiesX.mono (fun n hn => ⟨.inl hn, by omega⟩) (h4.keeps hb2))
      have HOK : Hid (timesE d o 0 v = 0) := hE0
      have k0 := cell_keeps hg2 k0
      have hb3 : w.heap.size < w2.heap.size := cell_lt k0
      clear hg2 hb2 HN HIt HRt h1 h2 h3 h4 hs1 hE0 hb hcb  k1 k2 k3 k4 k5 k6 hb1 hb0
      go_wp2_with fail
      go_loopg [3, 6] LL (fun g cc i wr => ∃ (j b : Nat) (z : Int), i = .int .i64 z ∧ cc = .pointer (some ⟨b, 0, none⟩) ∧ j ≤ LL ∧ g = j ∧ Hid (z = (j : Int) - 1) ∧ Hid (wr.cell? ⟨w.heap.size, 0, none⟩ = some (.slice aL LL cL)) ∧ Hid (MkS dCK (fun n => n < N ∨ w.heap.size ≤ n) d L (fromT true o v) w j b wr))
      case atStart => exact ⟨LL, _, _, rfl, rfl, Nat.le_refl _, rfl, rfl, k0, HN2.out⟩
      case round =>
        clear HN2 e1 k0 hb3
        obtain ⟨j, b, z, rfl, rfl, hj, hg, Hz, Hk0, HI⟩ := hrel
        have Hg : Hid (gk = j) := hg
        clear hg
        have k0 := Hk0.out
        by_cases hj0 : j = 0
        · have hz0 : ¬ (0 : Int) ≤ z := by have := Hz.out; omega
          have HE : Hid (SmPost dCK (fun n => n < N ∨ w.heap.size ≤ n) d L true o v w (.returned (.pointer (some ⟨b, 0, none⟩))) wr) := by
            obtain ⟨h1, h2, P, h3, h4, h5⟩ := HI.out
            subst hj0
            exact ⟨h1, .inr ⟨⟨fun _ => HOK.out, h2⟩, P, by rw [h3], h4, h5⟩⟩
          clear hj0 Hz Hg hj HI Hk0
          go_wp2_with fail
          refine bodyPost_ret (v := .pointer (some ⟨b, 0, none⟩)) ?_ rfl HE.out
          simp [results, Tryz.results8, go_sem]
        · obtain ⟨k, rfl⟩ : ∃ k, j = k + 1 := ⟨j - 1, by omega⟩
          obtain rfl : z = (k : Int) := by have := Hz.out; omega
          have hkL : k < L.length := by have := HLe.out; omega
          have hne : L ≠ [] := by intro h; rw [h] at hkL; simp at hkL
          obtain ⟨bb, oo, rfl, _, hall⟩ := HRow.out hne
          obtain ⟨u, r0, r1, r2, r3, hlx, htx⟩ := hall k hkL
          obtain ⟨ax, cx, rfl, _⟩ := Lies.slice hlx.lies
          obtain ⟨x, hx⟩ : ∃ x, x = L[k] := ⟨_, rfl⟩
          have Hx : Hid (x = L[k]) := hx
          rw [← hx] at r0 r1 r2 r3 hlx htx
          have hbr := HI.out.1
          have r0 := cell_keeps hbr r0; have r1 := cell_keeps hbr r1; have r2 := cell_keeps hbr r2; have r3 := cell_keeps hbr r3
          have HX : Hid (LiesX (fun n => n < N) d w x.items (.slice ax x.items.length cx) ∧ Lies d wr x.items (.slice ax x.items.length cx) ∧ x.text.size ≤ 9223372036854775807) := ⟨hlx, Lies.keeps hbr _ _ _ hlx.lies, htx⟩
          have i1 : (0 : Int) ≤ (k : Int) := by omega
          have i2 : (k : Int) < (LL : Int) := by omega
          have e2 : IntKind.i64.wrap ((k : Int) - 1) = (k : Int) - 1 := by rw [IntKind.wrap_i64]; omega
          clear hx hall hlx htx hbr hne HRow hj0 Hk0
          cases hr : rightV d x with
          | true =>
            have HC1 : Hid _ := HCo.out wr x ax cx b HX.out.2.1 hr
            clear HCo HCw
            go_wp2_with fail
            refine Calls.mono HC1.out ?_
            rintro e w3 ⟨hbc, e2, hde, rfl, hkn⟩
            have HI2 : Hid (MkS dCK (fun n => n < N ∨ w.heap.size ≤ n) d L (fromT true o v) w k e2 w3) := by
              have hrx := hr
              have hr16 := (canon HX.out.1.lies hr).2
              have hc := (canon HX.out.1.lies hr).1
              have e9 := Hx.out
              subst e9
              have hs := HI.out.1.size
              have hb9 := HI.out.1.trans (hbc.mono hs)
              have HX : Hid (LiesX (fun n => n < N) 16 w3 L[k].items (.slice ax L[k].items.length cx)) := (HX.out.1.to (Dp.of_lies 16 w _ _ hc)).keeps hb9
              exact HI.out.step HY.out hkL hrx hr16 hbc hde ⟨0, 0, zeroT, _, hkn⟩ (LiesX.mono (fun n hn => ⟨⟨.inl hn, by have := HNw.out; omega⟩, .inl (by have := HNw.out; omega)⟩) HX.out)
            have k0 := cell_keeps hbc k0
            clear hbc hkn  HC1 HI hde r0 r1 r2 r3
            go_wp2_with fail
            go_roundg k
            case measure => have := Hg.out; omega
            case rel => exact ⟨k, e2, (k : Int) - 1, by first | rfl | (rw [e2]), rfl, by omega, rfl, rfl, k0, HI2.out⟩
          | false =>
            have HC1 : Hid _ := HCw.out wr x ax cx b HX.out.2.1 HX.out.2.2 hr
            clear HCo HCw
            go_wp2_with fail
            refine Calls.mono HC1.out ?_
            rintro e w3 ⟨rfl, hbc⟩
            have HE : Hid (SmPost dCK (fun n => n < N ∨ w.heap.size ≤ n) d L true o v w (.returned (.pointer none)) w3) := by
              refine ⟨HI.out.1.trans (hbc.mono HI.out.1.size), .inl ⟨fun h => ?_, rfl⟩⟩
              have := h.2 x (by rw [Hx.out]; exact List.getElem_mem hkL)
              rw [hr] at this
              cases this
            clear hbc HC1 HI r0 r1 r2 r3 k0
            go_wp2_with fail
            refine bodyPost_ret (v := .pointer none) ?_ rfl HE.out
            simp [results, Tryz.results8, go_sem]
  | false =>
    subst hE
    have hb3 : w.heap.size < w1.heap.size := cell_lt k0
    have HN2 : Hid (MkS dCK (fun n => n < N ∨ w.heap.size ≤ n) d L (fromT false o v) w LL W.heap.size w1) := HN.out
    have HOK : Hid (false = true → timesE d o 0 v = 0) := fun h => by cases h
    clear HN HIt HRt k1 k2 k3 k4 k5 hb1 hb0
    go_wp2_with fail
    go_loopg [3, 6] LL (fun g cc i wr => ∃ (j b : Nat) (z : Int), i = .int .i64 z ∧ cc = .pointer (some ⟨b, 0, none⟩) ∧ j ≤ LL ∧ g = j ∧ Hid (z = (j : Int) - 1) ∧ Hid (wr.cell? ⟨w.heap.size, 0, none⟩ = some (.slice aL LL cL)) ∧ Hid (MkS dCK (fun n => n < N ∨ w.heap.size ≤ n) d L (fromT false o v) w j b wr))
    case atStart => exact ⟨LL, _, _, rfl, rfl, Nat.le_refl _, rfl, rfl, k0, HN2.out⟩
    case round =>
      clear HN2 e1 k0 hb3
      obtain ⟨j, b, z, rfl, rfl, hj, hg, Hz, Hk0, HI⟩ := hrel
      have Hg : Hid (gk = j) := hg
      clear hg
      have k0 := Hk0.out
      by_cases hj0 : j = 0
      · have hz0 : ¬ (0 : Int) ≤ z := by have := Hz.out; omega
        have HE : Hid (SmPost dCK (fun n => n < N ∨ w.heap.size ≤ n) d L false o v w (.returned (.pointer (some ⟨b, 0, none⟩))) wr) := by
          obtain ⟨h1, h2, P, h3, h4, h5⟩ := HI.out
          subst hj0
          exact ⟨h1, .inr ⟨⟨HOK.out, h2⟩, P, by rw [h3], h4, h5⟩⟩
        clear hj0 Hz Hg hj HI Hk0
        go_wp2_with fail
        refine bodyPost_ret (v := .pointer (some ⟨b, 0, none⟩)) ?_ rfl HE.out
        simp [results, Tryz.results8, go_sem]
      · obtain ⟨k, rfl⟩ : ∃ k, j = k + 1 := ⟨j - 1, by omega⟩
        obtain rfl : z = (k : Int) := by have := Hz.out; omega
        have hkL : k < L.length := by have := HLe.out; omega
        have hne : L ≠ [] := by intro h; rw [h] at hkL; simp at hkL
        obtain ⟨bb, oo, rfl, _, hall⟩ := HRow.out hne
        obtain ⟨u, r0, r1, r2, r3, hlx, htx⟩ := hall k hkL
        obtain ⟨ax, cx, rfl, _⟩ := Lies.slice hlx.lies
        obtain ⟨x, hx⟩ : ∃ x, x = L[k] := ⟨_, rfl⟩
        have Hx : Hid (x = L[k]) := hx
        rw [← hx] at r0 r1 r2 r3 hlx htx
        have hbr := HI.out.1
        have r0 := cell_keeps hbr r0; have r1 := cell_keeps hbr r1; have r2 := cell_keeps hbr r2; have r3 := cell_keeps hbr r3
        have HX : Hid (LiesX (fun n => n < N) d w x.items (.slice ax x.items.length cx) ∧ Lies d wr x.items (.slice ax x.items.length cx) ∧ x.text.size ≤ 9223372036854775807) := ⟨hlx, Lies.keeps hbr _ _ _ hlx.lies, htx⟩
        have i1 : (0 : Int) ≤ (k : Int) := by omega
        have i2 : (k : Int) < (LL : Int) := by omega
        have e2 : IntKind.i64.wrap ((k : Int) - 1) = (k : Int) - 1 := by rw [IntKind.wrap_i64]; omega
        clear hx hall hlx htx hbr hne HRow hj0 Hk0
        cases hr : rightV d x with
        | true =>
          have HC1 : Hid _ := HCo.out wr x ax cx b HX.out.2.1 hr
          clear HCo HCw
          go_wp2_with fail
          refine Calls.mono HC1.out ?_
          rintro e w3 ⟨hbc, e2, hde, rfl, hkn⟩
          have HI2 : Hid (MkS dCK (fun n => n < N ∨ w.heap.size ≤ n) d L (fromT false o v) w k e2 w3) := by
            have hrx := hr
            have hr16 := (canon HX.out.1.lies hr).2
            have hc := (canon HX.out.1.lies hr).1
            have e9 := Hx.out
            subst e9
            have hs := HI.out.1.size
            have hb9 := HI.out.1.trans (hbc.mono hs)
            have HX : Hid (LiesX (fun n => n < N) 16 w3 L[k].items (.slice ax L[k].items.length cx)) := (HX.out.1.to (Dp.of_lies 16 w _ _ hc)).keeps hb9
            exact HI.out.step HY.out hkL hrx hr16 hbc hde ⟨0, 0, zeroT, _, hkn⟩ (LiesX.mono (fun n hn => ⟨⟨.inl hn, by have := HNw.out; omega⟩, .inl (by have := HNw.out; omega)⟩) HX.out)
          have k0 := cell_keeps hbc k0
          clear hbc hkn  HC1 HI hde r0 r1 r2 r3
          go_wp2_with fail
          go_roundg k
          case measure => have := Hg.out; omega
          case rel => exact ⟨k, e2, (k : Int) - 1, by first | rfl | (rw [e2]), rfl, by omega, rfl, rfl, k0, HI2.out⟩
        | false =>
          have HC1 : Hid _ := HCw.out wr x ax cx b HX.out.2.1 HX.out.2.2 hr
          clear HCo HCw
          go_wp2_with fail
          refine Calls.mono HC1.out ?_
          rintro e w3 ⟨rfl, hbc⟩
          have HE : Hid (SmPost dCK (fun n => n < N ∨ w.heap.size ≤ n) d L false o v w (.returned (.pointer none)) w3) := by
            refine ⟨HI.out.1.trans (hbc.mono HI.out.1.size), .inl ⟨fun h => ?_, rfl⟩⟩
            have := h.2 x (by rw [Hx.out]; exact List.getElem_mem hkL)
            rw [hr] at this
            cases this
          clear hbc HC1 HI r0 r1 r2 r3 k0
          go_wp2_with fail
          refine bodyPost_ret (v := .pointer none) ?_ rfl HE.out
          simp [results, Tryz.results8, go_sem]

end Go.Proofs.YtnjgolibmllhnaaGreat

