/-
  asked: a question to both seqs.
-/
import Derived.Test.YtbhfbjbigafnpaaGreatStateS
import Derived.Test.YtbhfbjbigafnpaaGreatConsM
import Derived.Test.YtbhfbjbigafnpaaGreatUtf
namespace Go.Proofs.YtbhfbjbigafnpaaGreat
open Go.RowKit Go.Shelf

set_option maxRecDepth 100000 in
set_option maxHeartbeats 8000000 in
theorem rcons_new (v : VT) (a : Option Addr) (c b : Nat) (w : World) (hu : Lies 16 w v.items (.slice a v.items.length c)) (hr : rightV 16 v = true) :
    Calls Tryz.prog 31 #[.agg #[.int .i64 v.kind, .int .i64 v.num, .string v.text, .slice a v.items.length c], .pointer (some ⟨b, 0, none⟩)] w fun e w' => Below w.heap.size w w' ∧ ∃ d, w.heap.size ≤ d ∧ e = .returned (.tuple #[.pointer (some ⟨d, 0, none⟩), .int .i64 0]) ∧ DB w' d true true v (.slice a v.items.length c) (some ⟨b, 0, none⟩) 0 0 zeroT (.slice none 0 0) := by
  obtain ⟨W0, hW0⟩ : ∃ W0, W0 = w.alloc (.cells #[.int .i64 v.kind, .int .i64 v.num, .string v.text, .slice a v.items.length c] 24) := ⟨_, rfl⟩
  have HW0 : Hid (W0 = w.alloc (.cells #[.int .i64 v.kind, .int .i64 v.num, .string v.text, .slice a v.items.length c] 24)) := hW0
  have hb0 : Below w.heap.size w W0 := by rw [hW0]; exact ((Grew.refl _).alloc _).below
  have HK : Hid (Bx W0 w.heap.size v (.slice a v.items.length c)) := by rw [hW0]; exact bx_alloc _ _ _
  have HRi : Hid (Calls Tryz.prog 70 #[.agg #[.int .i64 v.kind, .int .i64 v.num, .string v.text, .slice a v.items.length c]] W0 fun e w' => e = .returned (.bool true) ∧ Below W0.heap.size W0 w') := by
    have h9 := right_any 16 v _ W0 (Lies.keeps hb0 _ _ _ hu)
    rw [hr] at h9
    exact h9
  obtain ⟨k0, k1, k2, k3, _, _, _, _⟩ := HK.out
  clear hW0 hu hr HK
  go_enter Tryz.func31, Tryz.ntmps31
  go_upto_region 1 with fail
  rw [← HW0.out]
  clear HW0
  go_wp2_with fail
  refine Calls.mono HRi.out ?_
  rintro e w1 ⟨rfl, hg1⟩
  have hb1 : Below w.heap.size w w1 := hb0.trans (hg1.mono hb0.size)
  have k0 := cell_keeps hg1 k0; have k1 := cell_keeps hg1 k1; have k2 := cell_keeps hg1 k2; have k3 := cell_keeps hg1 k3
  have HE : Hid (Below w.heap.size w (w1.alloc (.cells #[.bool true, .bool true, .int .i64 v.kind, .int .i64 v.num, .string v.text, .slice a v.items.length c, .pointer (some ⟨b, 0, none⟩), .int .i64 0, .int .i64 0, .int .i64 0, .int .i64 0, .int .i64 0, .string ⟨#[]⟩, .slice none 0 0, .slice none 0 0, .slice none 0 0] 100)) ∧ DB (w1.alloc (.cells #[.bool true, .bool true, .int .i64 v.kind, .int .i64 v.num, .string v.text, .slice a v.items.length c, .pointer (some ⟨b, 0, none⟩), .int .i64 0, .int .i64 0, .int .i64 0, .int .i64 0, .int .i64 0, .string ⟨#[]⟩, .slice none 0 0, .slice none 0 0, .slice none 0 0] 100)) w1.heap.size true true v (.slice a v.items.length c) (some ⟨b, 0, none⟩) 0 0 zeroT (.slice none 0 0)) := ⟨hb1.trans (((Grew.refl w1).alloc _).below.mono hb1.size), db_alloc w1 100 true true v (.slice a v.items.length c) (some ⟨b, 0, none⟩) 0 0 zeroT (.slice none 0 0)⟩
  have Hsz : Hid (w.heap.size ≤ w1.heap.size) := hb1.size
  clear hg1 HRi hb1 hb0
  go_wp2_with fail
  refine bodyPost_ret (v := .tuple #[.pointer (some ⟨w1.heap.size, 0, none⟩), .int .i64 0]) ?_ rfl ⟨HE.out.1, _, Hsz.out, rfl, HE.out.2⟩
  simp [results, Tryz.results31, go_sem]


/-- What is behind the known items of a seq of the statements. -/
def fromT (E : Bool) (o : Int) (v : VT) : Tl := if E = true then some (o.toNat, v) else none

/-- Such a seq is right. -/
def FromOK (d : Nat) (L : List VT) (E : Bool) (o : Int) (v : VT) : Prop := (E = true → timesE d o 0 v = 0) ∧ ∀ x ∈ L, rightV d x = true

/-- A seq of the statements as an argument. -/
abbrev fromV (aL : Option Addr) (n cL : Nat) (o : Int) (v : VT) (u : Value) (E : Bool) : Value := .agg #[.slice aL n cL, .int .i64 o, .int .i64 v.kind, .int .i64 v.num, .string v.text, u, .bool E]

/-- What made and meant tell. -/
def SmPost (C : CK) (Y : Nat → Prop) (d : Nat) (L : List VT) (E : Bool) (o : Int) (v : VT) (w : World) (e : Ending) (w' : World) : Prop :=
  Below w.heap.size w w' ∧ ((¬ FromOK d L E o v ∧ e = .returned (.pointer none)) ∨ (FromOK d L E o v ∧ ∃ P, e = .returned (.pointer (some ⟨P 0, 0, none⟩)) ∧ Chn C Y w' L (fromT E o v) P ∧ ∀ j, j ≤ L.length → w.heap.size ≤ P j))

theorem iter_right {d : Nat} {o : Int} {v : VT} {w : World} {u : Value} (hu : Lies d w v.items u) (h : timesE d o 0 v = 0) : o.toNat < 8 ∧ rightV 16 v = true ∧ Lies 16 w v.items u := by
  unfold timesE at h
  by_cases h1 : o < 0 ∨ 8 ≤ o
  · rw [if_pos h1] at h; cases h
  · rw [if_neg h1] at h
    have h2 : ¬ ((0 : Int) < 0 ∨ (65536 : Int) < 0) := by omega
    rw [if_neg h2] at h
    cases hr : rightV d v with
    | false => rw [hr] at h; cases h
    | true =>
      have hc := canon hu hr
      exact ⟨by omega, hc.2, hc.1⟩

/-- A cell of Iter alone. -/
theorem chn_iter {C : CK} {Y : Nat → Prop} {w : World} {b q : Nat} {v : VT} {a : Option Addr} {c : Nat} (hY : Y b) (hq : q < 8) (hr : rightV 16 v = true) (hd : Dp 16 v) (h : C.lz w b q v v (.slice a v.items.length c)) (hl : LiesX (fun n => Y n ∧ n ≠ b) 16 w v.items (.slice a v.items.length c)) : Chn C Y w [] (some (q, v)) (fun _ => b) := by
  refine ⟨(fun x hx => by cases hx), (fun i j hi hj _ => by simp at hi hj; omega), (fun _ _ => hY), (fun i x hx => by simp at hx), (fun e => by cases e), (fun q' x e => ?_)⟩
  obtain ⟨rfl, rfl⟩ : q = q' ∧ v = x := by simpa using e
  exact ⟨hq, hr, hd, v, a, c, hr, h, LiesX.mono (fun n hn => ⟨hn.1, fun _ _ => hn.2⟩) hl⟩

/-- The loop under way: the last items are in the seq. -/
def MkS (C : CK) (Y : Nat → Prop) (d : Nat) (L : List VT) (T : Tl) (w : World) (k b : Nat) (wr : World) : Prop :=
  Below w.heap.size w wr ∧ (∀ x ∈ L.drop k, rightV d x = true) ∧ ∃ P, P 0 = b ∧ Chn C Y wr (L.drop k) T P ∧ ∀ j, j ≤ (L.drop k).length → w.heap.size ≤ P j

theorem MkS.step {C : CK} {Y : Nat → Prop} {d : Nat} {L : List VT} {T : Tl} {w : World} {k b : Nat} {wr w' : World} (s : MkS C Y d L T w (k + 1) b wr) (hY : ∀ n, w.heap.size ≤ n → Y n) (hk : k < L.length) (hr : rightV d L[k] = true) (hr16 : rightV 16 L[k] = true) (hb : Below wr.heap.size wr w') {e : Nat} (he : wr.heap.size ≤ e) {a : Option Addr} {c : Nat} (hc : C.kn w' e L[k] (.slice a L[k].items.length c) b) (hl : LiesX (fun n => (Y n ∧ n ≠ e) ∧ (n < w.heap.size ∨ wr.heap.size ≤ n)) 16 w' L[k].items (.slice a L[k].items.length c)) : MkS C Y d L T w k e w' := by
  obtain ⟨hbw, hrs, P, rfl, hC, hP⟩ := s
  have hs := hbw.size
  have hdrop : L.drop k = L[k] :: L.drop (k + 1) := List.drop_eq_getElem_cons hk
  refine ⟨hbw.trans (hb.mono hs), fun x hx => ?_, fun i => if i = 0 then e else P (i - 1), ?_, ?_, fun j hj => ?_⟩
  · rw [hdrop] at hx
    rcases List.mem_cons.1 hx with rfl | hx
    · exact hr
    · exact hrs x hx
  · simp
  · rw [hdrop]
    refine hC.cons (fun n hn => hY n (by omega)) hb he hr16 hc (LiesX.mono (fun n hn => ⟨hn.1, fun j hj => ?_⟩) hl)
    have h1 := hC.lt j hj
    have h2 := hP j hj
    rcases hn.2 with h | h <;> omega
  · rw [hdrop] at hj
    simp only [List.length_cons] at hj
    by_cases e1 : j = 0
    · simp only [if_pos e1]; omega
    · simp only [if_neg e1]; exact hP _ (by omega)

set_option maxRecDepth 100000 in
set_option maxHeartbeats 16000000 in
theorem smade_any (d : Nat) (L : List VT) (aL : Option Addr) (cL : Nat) (o : Int) (v : VT) (av : Option Addr) (cv : Nat) (E : Bool) (w : World) (hL : Lies (d + 1) w L (.slice aL L.length cL)) (hv : Lies d w v.items (.slice av v.items.length cv)) (hvt : v.text.size ≤ 9223372036854775807) :
    Calls Tryz.prog 7 #[fromV aL L.length cL o v (.slice av v.items.length cv) E] w (SmPost pCK (fun n => w.heap.size ≤ n) d L E o v w) := by
  obtain ⟨W, hW⟩ : ∃ W, W = w.alloc (.cells #[.slice aL L.length cL, .int .i64 o, .int .i64 v.kind, .int .i64 v.num, .string v.text, .slice av v.items.length cv, .bool E] 26) := ⟨_, rfl⟩
  have HW : Hid (W = w.alloc (.cells #[.slice aL L.length cL, .int .i64 o, .int .i64 v.kind, .int .i64 v.num, .string v.text, .slice av v.items.length cv, .bool E] 26)) := hW
  have hb0 : Below w.heap.size w W := by rw [hW]; exact ((Grew.refl w).alloc _).below
  have HEm : Hid (∀ V, Calls Tryz.prog 26 #[] V fun e w' => e = .returned (.pointer (some ⟨V.heap.size, 0, none⟩)) ∧ Below V.heap.size V w' ∧ CB w' V.heap.size .nilIface 0 zeroT (.slice none 0 0) none) := fun V => (cempty_any V).mono fun e w' h => ⟨h.1, by rw [h.2]; exact ((Grew.refl _).alloc _).below, by rw [h.2]; exact cb_alloc V 97 .nilIface 0 zeroT (.slice none 0 0) none⟩
  have HIt : Hid (∀ V, Below w.heap.size w V → Calls Tryz.prog 27 #[.int .i64 o, .agg #[.int .i64 v.kind, .int .i64 v.num, .string v.text, .slice av v.items.length cv]] V (IterPost (timesE d o 0 v) o.toNat v V)) := fun V hV => iter_any d o v _ V (Lies.keeps hV _ _ _ hv) hvt
  have HCo : Hid (∀ V (x : VT) (a : Option Addr) (c b : Nat), Lies d V x.items (.slice a x.items.length c) → rightV d x = true → Calls Tryz.prog 28 #[.agg #[.int .i64 x.kind, .int .i64 x.num, .string x.text, .slice a x.items.length c], .pointer (some ⟨b, 0, none⟩)] V (ConsPost x b V)) := fun V x a c b hl hr => cons_ok x _ b V (canon hl hr).1 (canon hl hr).2
  have HCw : Hid (∀ V (x : VT) (a : Option Addr) (c b : Nat), Lies d V x.items (.slice a x.items.length c) → x.text.size ≤ 9223372036854775807 → rightV d x = false → Calls Tryz.prog 28 #[.agg #[.int .i64 x.kind, .int .i64 x.num, .string x.text, .slice a x.items.length c], .pointer (some ⟨b, 0, none⟩)] V fun e w' => e = .returned (.tuple #[.pointer none, .int .i64 3]) ∧ Below V.heap.size V w') := fun V x a c b hl ht hr => cons_wrong d x _ (some ⟨b, 0, none⟩) V hl ht hr
  have HRt : Hid (timesE d o 0 v = 0 → o.toNat < 8 ∧ rightV 16 v = true ∧ Lies 16 w v.items (.slice av v.items.length cv)) := fun h => iter_right hv h
  obtain ⟨_, _, eL, hlc, hrow⟩ := hL
  obtain ⟨rfl, _, rfl⟩ : aL = _ ∧ L.length = L.length ∧ cL = _ := by simpa using eL
  have HRow : Hid _ := hrow
  have _z := True.intro
  have HY : Hid (∀ n, w.heap.size ≤ n → (fun n => w.heap.size ≤ n) n) := fun n hn => hn
  obtain ⟨LL, hLL⟩ : ∃ LL, LL = L.length := ⟨_, rfl⟩
  have HLe : Hid (LL = L.length) := hLL
  have hLz : LL ≤ 9223372036854775807 := by omega
  have e1 : IntKind.i64.wrap ((LL : Int) - 1) = (LL : Int) - 1 := by rw [IntKind.wrap_i64]; omega
  have k0 : W.cell? ⟨w.heap.size, 0, none⟩ = some (.slice aL LL cL) := by rw [hW, hLL]; simp
  have k1 : W.cell? ⟨w.heap.size, 1, none⟩ = some (.int .i64 o) := by rw [hW]; simp
  have k2 : W.cell? ⟨w.heap.size, 2, none⟩ = some (.int .i64 v.kind) := by rw [hW]; simp
  have k3 : W.cell? ⟨w.heap.size, 3, none⟩ = some (.int .i64 v.num) := by rw [hW]; simp
  have k4 : W.cell? ⟨w.heap.size, 4, none⟩ = some (.string v.text) := by rw [hW]; simp
  have k5 : W.cell? ⟨w.heap.size, 5, none⟩ = some (.slice av v.items.length cv) := by rw [hW]; simp
  have k6 : W.cell? ⟨w.heap.size, 6, none⟩ = some (.bool E) := by rw [hW]; simp
  clear hlc eL hrow hv hvt hLL hW
  go_enter Tryz.func7, Tryz.ntmps7
  go_upto_region 1 with fail
  rw [← HW.out]
  clear HW
  go_wp2_with fail
  refine Calls.mono (HEm.out _) ?_
  rintro e w1 ⟨rfl, hg1, hen⟩
  have hb1 : Below w.heap.size w w1 := hb0.trans (hg1.mono hb0.size)
  have k0 := cell_keeps hg1 k0; have k1 := cell_keeps hg1 k1; have k2 := cell_keeps hg1 k2; have k3 := cell_keeps hg1 k3; have k4 := cell_keeps hg1 k4; have k5 := cell_keeps hg1 k5; have k6 := cell_keeps hg1 k6
  have hWs := hb0.size
  have HN : Hid (MkS pCK (fun n => w.heap.size ≤ n) d L none w LL W.heap.size w1) := by
    rw [HLe.out]
    refine ⟨hb1, fun x hx => by simp at hx, fun _ => W.heap.size, rfl, ?_, fun j _ => hWs⟩
    rw [List.drop_length]
    exact chn_nil (hWs) hen
  clear hg1 hen HEm hWs
  cases hE : E with
  | true =>
    subst hE
    go_wp2_with fail
    refine Calls.mono (HIt.out _ hb1) ?_
    rintro e w2 ⟨hg2, ⟨hE0, rfl⟩ | ⟨hE0, a, c, b, rfl, hb, hcb, hlx⟩⟩
    · have hb2 : Below w.heap.size w w2 := hb1.trans (hg2.mono hb1.size)
      have HE : Hid (SmPost pCK (fun n => w.heap.size ≤ n) d L true o v w (.returned (.pointer none)) w2) := ⟨hb2, .inl ⟨fun h => hE0 (h.1 rfl), rfl⟩⟩
      clear hg2 hb2 HN HIt HCo HCw HRt
      generalize timesE d o 0 v = E0 at *
      have hE1 : ¬ E0 = 0 := hE0
      clear hE0
      go_wp2_with fail
      refine bodyPost_ret (v := .pointer none) ?_ rfl HE.out
      simp [results, Tryz.results7, go_sem]
    · have hb2 : Below w.heap.size w w2 := hb1.trans (hg2.mono hb1.size)
      obtain ⟨h1, h2, h4⟩ := HRt.out hE0
      have h3 : Dp 16 v := Dp.of_lies 16 w v _ h4
      have hs1 := hb1.size
      have HN2 : Hid (MkS pCK (fun n => w.heap.size ≤ n) d L (fromT true o v) w LL b w2) := by
        rw [HLe.out]
        refine ⟨hb2, fun x hx => by simp at hx, fun _ => b, rfl, ?_, fun j _ => by show w.heap.size ≤ b; omega⟩
        rw [List.drop_length]
        exact chn_iter (C := pCK) (a := a) (c := c) (show w.heap.size ≤ b by omega) h1 h2 h3 ⟨0, by omega, rfl, hcb⟩ (LiesX.mono (fun n hn => ⟨by omega, hn.2⟩) hlx)
      have HOK : Hid (timesE d o 0 v = 0) := hE0
      have k0 := cell_keeps hg2 k0
      have hb3 : w.heap.size < w2.heap.size := cell_lt k0
      clear hg2 hb2 HN HIt HRt h1 h2 h3 h4 hs1 hE0 hb hcb hlx k1 k2 k3 k4 k5 k6 hb1 hb0
      go_wp2_with fail
      go_loopg [3, 6] LL (fun g cc i wr => ∃ (j b : Nat) (z : Int), i = .int .i64 z ∧ cc = .pointer (some ⟨b, 0, none⟩) ∧ j ≤ LL ∧ g = j ∧ Hid (z = (j : Int) - 1) ∧ Hid (wr.cell? ⟨w.heap.size, 0, none⟩ = some (.slice aL LL cL)) ∧ Hid (MkS pCK (fun n => w.heap.size ≤ n) d L (fromT true o v) w j b wr))
      case atStart => exact ⟨LL, _, _, rfl, rfl, Nat.le_refl _, rfl, rfl, k0, HN2.out⟩
      case round =>
        clear HN2 e1 k0 hb3
        obtain ⟨j, b, z, rfl, rfl, hj, hg, Hz, Hk0, HI⟩ := hrel
        have Hg : Hid (gk = j) := hg
        clear hg
        have k0 := Hk0.out
        by_cases hj0 : j = 0
        · have hz0 : ¬ (0 : Int) ≤ z := by have := Hz.out; omega
          have HE : Hid (SmPost pCK (fun n => w.heap.size ≤ n) d L true o v w (.returned (.pointer (some ⟨b, 0, none⟩))) wr) := by
            obtain ⟨h1, h2, P, h3, h4, h5⟩ := HI.out
            subst hj0
            exact ⟨h1, .inr ⟨⟨fun _ => HOK.out, h2⟩, P, by rw [h3], h4, h5⟩⟩
          clear hj0 Hz Hg hj HI Hk0
          go_wp2_with fail
          refine bodyPost_ret (v := .pointer (some ⟨b, 0, none⟩)) ?_ rfl HE.out
          simp [results, Tryz.results7, go_sem]
        · obtain ⟨k, rfl⟩ : ∃ k, j = k + 1 := ⟨j - 1, by omega⟩
          obtain rfl : z = (k : Int) := by have := Hz.out; omega
          have hkL : k < L.length := by have := HLe.out; omega
          have hne : L ≠ [] := by intro h; rw [h] at hkL; simp at hkL
          obtain ⟨bb, oo, rfl, hall⟩ := HRow.out hne
          obtain ⟨u, r0, r1, r2, r3, hlx, htx⟩ := hall k hkL
          obtain ⟨ax, cx, rfl, _⟩ := Lies.slice hlx
          obtain ⟨x, hx⟩ : ∃ x, x = L[k] := ⟨_, rfl⟩
          have Hx : Hid (x = L[k]) := hx
          rw [← hx] at r0 r1 r2 r3 hlx htx
          have hbr := HI.out.1
          have r0 := cell_keeps hbr r0; have r1 := cell_keeps hbr r1; have r2 := cell_keeps hbr r2; have r3 := cell_keeps hbr r3
          have HX : Hid (Lies d w x.items (.slice ax x.items.length cx) ∧ Lies d wr x.items (.slice ax x.items.length cx) ∧ x.text.size ≤ 9223372036854775807) := ⟨hlx, Lies.keeps hbr _ _ _ hlx, htx⟩
          have i1 : (0 : Int) ≤ (k : Int) := by omega
          have i2 : (k : Int) < (LL : Int) := by omega
          have e2 : IntKind.i64.wrap ((k : Int) - 1) = (k : Int) - 1 := by rw [IntKind.wrap_i64]; omega
          clear hx hall hlx htx hbr hne HRow hj0 Hk0
          cases hr : rightV d x with
          | true =>
            have HC1 : Hid _ := HCo.out wr x ax cx b HX.out.2.1 hr
            clear HCo HCw
            go_wp2_with fail
            refine Calls.mono HC1.out ?_
            rintro e w3 ⟨hbc, e2, a9, c9, rfl, hde, hkn, hlc⟩
            have HI2 : Hid (MkS pCK (fun n => w.heap.size ≤ n) d L (fromT true o v) w k e2 w3) := by
              have hrx := hr
              have hr16 := (canon HX.out.1 hr).2
              have hc := (canon HX.out.1 hr).1
              have e9 := Hx.out
              subst e9
              have hs := HI.out.1.size
              have hb9 := HI.out.1.trans (hbc.mono hs)
              have _h9 := hb9
              exact HI.out.step HY.out hkL hrx hr16 hbc hde hkn (LiesX.mono (fun n hn => ⟨⟨by omega, hn.2⟩, .inr hn.1⟩) hlc)
            have k0 := cell_keeps hbc k0
            clear hbc hkn hlc HC1 HI hde r0 r1 r2 r3
            go_wp2_with fail
            go_roundg k
            case measure => have := Hg.out; omega
            case rel => exact ⟨k, e2, (k : Int) - 1, by first | rfl | (rw [e2]), rfl, by omega, rfl, rfl, k0, HI2.out⟩
          | false =>
            have HC1 : Hid _ := HCw.out wr x ax cx b HX.out.2.1 HX.out.2.2 hr
            clear HCo HCw
            go_wp2_with fail
            refine Calls.mono HC1.out ?_
            rintro e w3 ⟨rfl, hbc⟩
            have HE : Hid (SmPost pCK (fun n => w.heap.size ≤ n) d L true o v w (.returned (.pointer none)) w3) := by
              refine ⟨HI.out.1.trans (hbc.mono HI.out.1.size), .inl ⟨fun h => ?_, rfl⟩⟩
              have := h.2 x (by rw [Hx.out]; exact List.getElem_mem hkL)
              rw [hr] at this
              cases this
            clear hbc HC1 HI r0 r1 r2 r3 k0
            go_wp2_with fail
            refine bodyPost_ret (v := .pointer none) ?_ rfl HE.out
            simp [results, Tryz.results7, go_sem]
  | false =>
    subst hE
    have hb3 : w.heap.size < w1.heap.size := cell_lt k0
    have HN2 : Hid (MkS pCK (fun n => w.heap.size ≤ n) d L (fromT false o v) w LL W.heap.size w1) := HN.out
    have HOK : Hid (false = true → timesE d o 0 v = 0) := fun h => by cases h
    clear HN HIt HRt k1 k2 k3 k4 k5 hb1 hb0
    go_wp2_with fail
    go_loopg [3, 6] LL (fun g cc i wr => ∃ (j b : Nat) (z : Int), i = .int .i64 z ∧ cc = .pointer (some ⟨b, 0, none⟩) ∧ j ≤ LL ∧ g = j ∧ Hid (z = (j : Int) - 1) ∧ Hid (wr.cell? ⟨w.heap.size, 0, none⟩ = some (.slice aL LL cL)) ∧ Hid (MkS pCK (fun n => w.heap.size ≤ n) d L (fromT false o v) w j b wr))
    case atStart => exact ⟨LL, _, _, rfl, rfl, Nat.le_refl _, rfl, rfl, k0, HN2.out⟩
    case round =>
      clear HN2 e1 k0 hb3
      obtain ⟨j, b, z, rfl, rfl, hj, hg, Hz, Hk0, HI⟩ := hrel
      have Hg : Hid (gk = j) := hg
      clear hg
      have k0 := Hk0.out
      by_cases hj0 : j = 0
      · have hz0 : ¬ (0 : Int) ≤ z := by have := Hz.out; omega
        have HE : Hid (SmPost pCK (fun n => w.heap.size ≤ n) d L false o v w (.returned (.pointer (some ⟨b, 0, none⟩))) wr) := by
          obtain ⟨h1, h2, P, h3, h4, h5⟩ := HI.out
          subst hj0
          exact ⟨h1, .inr ⟨⟨HOK.out, h2⟩, P, by rw [h3], h4, h5⟩⟩
        clear hj0 Hz Hg hj HI Hk0
        go_wp2_with fail
        refine bodyPost_ret (v := .pointer (some ⟨b, 0, none⟩)) ?_ rfl HE.out
        simp [results, Tryz.results7, go_sem]
      · obtain ⟨k, rfl⟩ : ∃ k, j = k + 1 := ⟨j - 1, by omega⟩
        obtain rfl : z = (k : Int) := by have := Hz.out; omega
        have hkL : k < L.length := by have := HLe.out; omega
        have hne : L ≠ [] := by intro h; rw [h] at hkL; simp at hkL
        obtain ⟨bb, oo, rfl, hall⟩ := HRow.out hne
        obtain ⟨u, r0, r1, r2, r3, hlx, htx⟩ := hall k hkL
        obtain ⟨ax, cx, rfl, _⟩ := Lies.slice hlx
        obtain ⟨x, hx⟩ : ∃ x, x = L[k] := ⟨_, rfl⟩
        have Hx : Hid (x = L[k]) := hx
        rw [← hx] at r0 r1 r2 r3 hlx htx
        have hbr := HI.out.1
        have r0 := cell_keeps hbr r0; have r1 := cell_keeps hbr r1; have r2 := cell_keeps hbr r2; have r3 := cell_keeps hbr r3
        have HX : Hid (Lies d w x.items (.slice ax x.items.length cx) ∧ Lies d wr x.items (.slice ax x.items.length cx) ∧ x.text.size ≤ 9223372036854775807) := ⟨hlx, Lies.keeps hbr _ _ _ hlx, htx⟩
        have i1 : (0 : Int) ≤ (k : Int) := by omega
        have i2 : (k : Int) < (LL : Int) := by omega
        have e2 : IntKind.i64.wrap ((k : Int) - 1) = (k : Int) - 1 := by rw [IntKind.wrap_i64]; omega
        clear hx hall hlx htx hbr hne HRow hj0 Hk0
        cases hr : rightV d x with
        | true =>
          have HC1 : Hid _ := HCo.out wr x ax cx b HX.out.2.1 hr
          clear HCo HCw
          go_wp2_with fail
          refine Calls.mono HC1.out ?_
          rintro e w3 ⟨hbc, e2, a9, c9, rfl, hde, hkn, hlc⟩
          have HI2 : Hid (MkS pCK (fun n => w.heap.size ≤ n) d L (fromT false o v) w k e2 w3) := by
            have hrx := hr
            have hr16 := (canon HX.out.1 hr).2
            have hc := (canon HX.out.1 hr).1
            have e9 := Hx.out
            subst e9
            have hs := HI.out.1.size
            have hb9 := HI.out.1.trans (hbc.mono hs)
            have _h9 := hb9
            exact HI.out.step HY.out hkL hrx hr16 hbc hde hkn (LiesX.mono (fun n hn => ⟨⟨by omega, hn.2⟩, .inr hn.1⟩) hlc)
          have k0 := cell_keeps hbc k0
          clear hbc hkn hlc HC1 HI hde r0 r1 r2 r3
          go_wp2_with fail
          go_roundg k
          case measure => have := Hg.out; omega
          case rel => exact ⟨k, e2, (k : Int) - 1, by first | rfl | (rw [e2]), rfl, by omega, rfl, rfl, k0, HI2.out⟩
        | false =>
          have HC1 : Hid _ := HCw.out wr x ax cx b HX.out.2.1 HX.out.2.2 hr
          clear HCo HCw
          go_wp2_with fail
          refine Calls.mono HC1.out ?_
          rintro e w3 ⟨rfl, hbc⟩
          have HE : Hid (SmPost pCK (fun n => w.heap.size ≤ n) d L false o v w (.returned (.pointer none)) w3) := by
            refine ⟨HI.out.1.trans (hbc.mono HI.out.1.size), .inl ⟨fun h => ?_, rfl⟩⟩
            have := h.2 x (by rw [Hx.out]; exact List.getElem_mem hkL)
            rw [hr] at this
            cases this
          clear hbc HC1 HI r0 r1 r2 r3 k0
          go_wp2_with fail
          refine bodyPost_ret (v := .pointer none) ?_ rfl HE.out
          simp [results, Tryz.results7, go_sem]

set_option maxRecDepth 100000 in
set_option maxHeartbeats 16000000 in
theorem smeant_any (d : Nat) (L : List VT) (aL : Option Addr) (cL : Nat) (o : Int) (v : VT) (av : Option Addr) (cv : Nat) (E : Bool) (N : Nat) (w : World) (hN : N ≤ w.heap.size) (hL : LiesX (fun n => n < N) (d + 1) w L (.slice aL L.length cL)) (hv : LiesX (fun n => n < N) d w v.items (.slice av v.items.length cv)) (_hvt : v.text.size ≤ 9223372036854775807) :
    Calls Tryz.prog 8 #[fromV aL L.length cL o v (.slice av v.items.length cv) E] w (SmPost dCK (fun n => n < N ∨ w.heap.size ≤ n) d L E o v w) := by
  obtain ⟨W, hW⟩ : ∃ W, W = w.alloc (.cells #[.slice aL L.length cL, .int .i64 o, .int .i64 v.kind, .int .i64 v.num, .string v.text, .slice av v.items.length cv, .bool E] 26) := ⟨_, rfl⟩
  have HW : Hid (W = w.alloc (.cells #[.slice aL L.length cL, .int .i64 o, .int .i64 v.kind, .int .i64 v.num, .string v.text, .slice av v.items.length cv, .bool E] 26)) := hW
  have hb0 : Below w.heap.size w W := by rw [hW]; exact ((Grew.refl w).alloc _).below
  have HEm : Hid (∀ V, Calls Tryz.prog 29 #[] V fun e w' => e = .returned (.pointer (some ⟨V.heap.size, 0, none⟩)) ∧ Below V.heap.size V w' ∧ DB w' V.heap.size true false zeroT (.slice none 0 0) none 0 0 zeroT (.slice none 0 0)) := fun V => rempty_any V
  have HIt : Hid (∀ V, Below w.heap.size w V → Calls Tryz.prog 30 #[.int .i64 o, .agg #[.int .i64 v.kind, .int .i64 v.num, .string v.text, .slice av v.items.length cv]] V (BegPost (timesE d o 0 v) o.toNat v av cv V)) := fun V hV => begin_any d o v av cv V (Lies.keeps hV _ _ _ hv.lies)
  have HCo : Hid (∀ V (x : VT) (a : Option Addr) (c b : Nat), Lies d V x.items (.slice a x.items.length c) → rightV d x = true → Calls Tryz.prog 31 #[.agg #[.int .i64 x.kind, .int .i64 x.num, .string x.text, .slice a x.items.length c], .pointer (some ⟨b, 0, none⟩)] V ((fun e w' => Below V.heap.size V w' ∧ ∃ d, V.heap.size ≤ d ∧ e = .returned (.tuple #[.pointer (some ⟨d, 0, none⟩), .int .i64 0]) ∧ DB w' d true true x (.slice a x.items.length c) (some ⟨b, 0, none⟩) 0 0 zeroT (.slice none 0 0)))) := fun V x a c b hl hr => rcons_new x _ _ b V (canon hl hr).1 (canon hl hr).2
  have HCw : Hid (∀ V (x : VT) (a : Option Addr) (c b : Nat), Lies d V x.items (.slice a x.items.length c) → x.text.size ≤ 9223372036854775807 → rightV d x = false → Calls Tryz.prog 31 #[.agg #[.int .i64 x.kind, .int .i64 x.num, .string x.text, .slice a x.items.length c], .pointer (some ⟨b, 0, none⟩)] V fun e w' => e = .returned (.tuple #[.pointer none, .int .i64 3]) ∧ Below V.heap.size V w') := fun V x a c b hl ht hr => rcons_wrong d x _ _ (some ⟨b, 0, none⟩) V hl hr
  have HRt : Hid (timesE d o 0 v = 0 → o.toNat < 8 ∧ rightV 16 v = true ∧ LiesX (fun n => n < N) 16 w v.items (.slice av v.items.length cv)) := fun h => ⟨(iter_right hv.lies h).1, (iter_right hv.lies h).2.1, hv.to (Dp.of_lies 16 w v _ (iter_right hv.lies h).2.2)⟩
  obtain ⟨_, _, eL, hlc, hrow⟩ := hL
  obtain ⟨rfl, _, rfl⟩ : aL = _ ∧ L.length = L.length ∧ cL = _ := by simpa using eL
  have HRow : Hid _ := hrow
  have HNw : Hid (N ≤ w.heap.size) := hN
  have HY : Hid (∀ n, w.heap.size ≤ n → (fun n => n < N ∨ w.heap.size ≤ n) n) := fun n hn => .inr hn
  obtain ⟨LL, hLL⟩ : ∃ LL, LL = L.length := ⟨_, rfl⟩
  have HLe : Hid (LL = L.length) := hLL
  have hLz : LL ≤ 9223372036854775807 := by omega
  have e1 : IntKind.i64.wrap ((LL : Int) - 1) = (LL : Int) - 1 := by rw [IntKind.wrap_i64]; omega
  have k0 : W.cell? ⟨w.heap.size, 0, none⟩ = some (.slice aL LL cL) := by rw [hW, hLL]; simp
  have k1 : W.cell? ⟨w.heap.size, 1, none⟩ = some (.int .i64 o) := by rw [hW]; simp
  have k2 : W.cell? ⟨w.heap.size, 2, none⟩ = some (.int .i64 v.kind) := by rw [hW]; simp
  have k3 : W.cell? ⟨w.heap.size, 3, none⟩ = some (.int .i64 v.num) := by rw [hW]; simp
  have k4 : W.cell? ⟨w.heap.size, 4, none⟩ = some (.string v.text) := by rw [hW]; simp
  have k5 : W.cell? ⟨w.heap.size, 5, none⟩ = some (.slice av v.items.length cv) := by rw [hW]; simp
  have k6 : W.cell? ⟨w.heap.size, 6, none⟩ = some (.bool E) := by rw [hW]; simp
  clear hlc eL hrow hv  hLL hW
  go_enter Tryz.func8, Tryz.ntmps8
  go_upto_region 1 with fail
  rw [← HW.out]
  clear HW
  go_wp2_with fail
  refine Calls.mono (HEm.out _) ?_
  rintro e w1 ⟨rfl, hg1, hen⟩
  have hb1 : Below w.heap.size w w1 := hb0.trans (hg1.mono hb0.size)
  have k0 := cell_keeps hg1 k0; have k1 := cell_keeps hg1 k1; have k2 := cell_keeps hg1 k2; have k3 := cell_keeps hg1 k3; have k4 := cell_keeps hg1 k4; have k5 := cell_keeps hg1 k5; have k6 := cell_keeps hg1 k6
  have hWs := hb0.size
  have HN : Hid (MkS dCK (fun n => n < N ∨ w.heap.size ≤ n) d L none w LL W.heap.size w1) := by
    rw [HLe.out]
    refine ⟨hb1, fun x hx => by simp at hx, fun _ => W.heap.size, rfl, ?_, fun j _ => hWs⟩
    rw [List.drop_length]
    exact chn_nil (.inr hWs) hen
  clear hg1 hen HEm hWs
  cases hE : E with
  | true =>
    subst hE
    go_wp2_with fail
    refine Calls.mono (HIt.out _ hb1) ?_
    rintro e w2 ⟨hg2, ⟨hE0, rfl⟩ | ⟨hE0, b, rfl, hb, hcb⟩⟩
    · have hb2 : Below w.heap.size w w2 := hb1.trans (hg2.mono hb1.size)
      have HE : Hid (SmPost dCK (fun n => n < N ∨ w.heap.size ≤ n) d L true o v w (.returned (.pointer none)) w2) := ⟨hb2, .inl ⟨fun h => hE0 (h.1 rfl), rfl⟩⟩
      clear hg2 hb2 HN HIt HCo HCw HRt
      generalize timesE d o 0 v = E0 at *
      have hE1 : ¬ E0 = 0 := hE0
      clear hE0
      go_wp2_with fail
      refine bodyPost_ret (v := .pointer none) ?_ rfl HE.out
      simp [results, Tryz.results8, go_sem]
    · have hb2 : Below w.heap.size w w2 := hb1.trans (hg2.mono hb1.size)
      obtain ⟨h1, h2, h4⟩ := HRt.out hE0
      have h3 : Dp 16 v := Dp.of_lies 16 w v _ h4.lies
      have hs1 := hb1.size
      have HN2 : Hid (MkS dCK (fun n => n < N ∨ w.heap.size ≤ n) d L (fromT true o v) w LL b w2) := by
        rw [HLe.out]
        refine ⟨hb2, fun x hx => by simp at hx, fun _ => b, rfl, ?_, fun j _ => by show w.heap.size ≤ b; omega⟩
        rw [List.drop_length]
        exact chn_iter (C := dCK) (a := av) (c := cv) (.inr (show w.heap.size ≤ b by omega)) h1 h2 h3 ⟨1, .inl ⟨rfl, rfl⟩, hcb⟩ (LiesX.mono (fun n hn => ⟨.inl hn, by omega⟩) (h4.keeps hb2))
      have HOK : Hid (timesE d o 0 v = 0) := hE0
      have k0 := cell_keeps hg2 k0
      have hb3 : w.heap.size < w2.heap.size := cell_lt k0
      clear hg2 hb2 HN HIt HRt h1 h2 h3 h4 hs1 hE0 hb hcb  k1 k2 k3 k4 k5 k6 hb1 hb0
      go_wp2_with fail
      go_loopg [3, 6] LL (fun g cc i wr => ∃ (j b : Nat) (z : Int), i = .int .i64 z ∧ cc = .pointer (some ⟨b, 0, none⟩) ∧ j ≤ LL ∧ g = j ∧ Hid (z = (j : Int) - 1) ∧ Hid (wr.cell? ⟨w.heap.size, 0, none⟩ = some (.slice aL LL cL)) ∧ Hid (MkS dCK (fun n => n < N ∨ w.heap.size ≤ n) d L (fromT true o v) w j b wr))
      case atStart => exact ⟨LL, _, _, rfl, rfl, Nat.le_refl _, rfl, rfl, k0, HN2.out⟩
      case round =>
        clear HN2 e1 k0 hb3
        obtain ⟨j, b, z, rfl, rfl, hj, hg, Hz, Hk0, HI⟩ := hrel
        have Hg : Hid (gk = j) := hg
        clear hg
        have k0 := Hk0.out
        by_cases hj0 : j = 0
        · have hz0 : ¬ (0 : Int) ≤ z := by have := Hz.out; omega
          have HE : Hid (SmPost dCK (fun n => n < N ∨ w.heap.size ≤ n) d L true o v w (.returned (.pointer (some ⟨b, 0, none⟩))) wr) := by
            obtain ⟨h1, h2, P, h3, h4, h5⟩ := HI.out
            subst hj0
            exact ⟨h1, .inr ⟨⟨fun _ => HOK.out, h2⟩, P, by rw [h3], h4, h5⟩⟩
          clear hj0 Hz Hg hj HI Hk0
          go_wp2_with fail
          refine bodyPost_ret (v := .pointer (some ⟨b, 0, none⟩)) ?_ rfl HE.out
          simp [results, Tryz.results8, go_sem]
        · obtain ⟨k, rfl⟩ : ∃ k, j = k + 1 := ⟨j - 1, by omega⟩
          obtain rfl : z = (k : Int) := by have := Hz.out; omega
          have hkL : k < L.length := by have := HLe.out; omega
          have hne : L ≠ [] := by intro h; rw [h] at hkL; simp at hkL
          obtain ⟨bb, oo, rfl, _, hall⟩ := HRow.out hne
          obtain ⟨u, r0, r1, r2, r3, hlx, htx⟩ := hall k hkL
          obtain ⟨ax, cx, rfl, _⟩ := Lies.slice hlx.lies
          obtain ⟨x, hx⟩ : ∃ x, x = L[k] := ⟨_, rfl⟩
          have Hx : Hid (x = L[k]) := hx
          rw [← hx] at r0 r1 r2 r3 hlx htx
          have hbr := HI.out.1
          have r0 := cell_keeps hbr r0; have r1 := cell_keeps hbr r1; have r2 := cell_keeps hbr r2; have r3 := cell_keeps hbr r3
          have HX : Hid (LiesX (fun n => n < N) d w x.items (.slice ax x.items.length cx) ∧ Lies d wr x.items (.slice ax x.items.length cx) ∧ x.text.size ≤ 9223372036854775807) := ⟨hlx, Lies.keeps hbr _ _ _ hlx.lies, htx⟩
          have i1 : (0 : Int) ≤ (k : Int) := by omega
          have i2 : (k : Int) < (LL : Int) := by omega
          have e2 : IntKind.i64.wrap ((k : Int) - 1) = (k : Int) - 1 := by rw [IntKind.wrap_i64]; omega
          clear hx hall hlx htx hbr hne HRow hj0 Hk0
          cases hr : rightV d x with
          | true =>
            have HC1 : Hid _ := HCo.out wr x ax cx b HX.out.2.1 hr
            clear HCo HCw
            go_wp2_with fail
            refine Calls.mono HC1.out ?_
            rintro e w3 ⟨hbc, e2, hde, rfl, hkn⟩
            have HI2 : Hid (MkS dCK (fun n => n < N ∨ w.heap.size ≤ n) d L (fromT true o v) w k e2 w3) := by
              have hrx := hr
              have hr16 := (canon HX.out.1.lies hr).2
              have hc := (canon HX.out.1.lies hr).1
              have e9 := Hx.out
              subst e9
              have hs := HI.out.1.size
              have hb9 := HI.out.1.trans (hbc.mono hs)
              have HX : Hid (LiesX (fun n => n < N) 16 w3 L[k].items (.slice ax L[k].items.length cx)) := (HX.out.1.to (Dp.of_lies 16 w _ _ hc)).keeps hb9
              exact HI.out.step HY.out hkL hrx hr16 hbc hde ⟨0, 0, zeroT, _, hkn⟩ (LiesX.mono (fun n hn => ⟨⟨.inl hn, by have := HNw.out; omega⟩, .inl (by have := HNw.out; omega)⟩) HX.out)
            have k0 := cell_keeps hbc k0
            clear hbc hkn  HC1 HI hde r0 r1 r2 r3
            go_wp2_with fail
            go_roundg k
            case measure => have := Hg.out; omega
            case rel => exact ⟨k, e2, (k : Int) - 1, by first | rfl | (rw [e2]), rfl, by omega, rfl, rfl, k0, HI2.out⟩
          | false =>
            have HC1 : Hid _ := HCw.out wr x ax cx b HX.out.2.1 HX.out.2.2 hr
            clear HCo HCw
            go_wp2_with fail
            refine Calls.mono HC1.out ?_
            rintro e w3 ⟨rfl, hbc⟩
            have HE : Hid (SmPost dCK (fun n => n < N ∨ w.heap.size ≤ n) d L true o v w (.returned (.pointer none)) w3) := by
              refine ⟨HI.out.1.trans (hbc.mono HI.out.1.size), .inl ⟨fun h => ?_, rfl⟩⟩
              have := h.2 x (by rw [Hx.out]; exact List.getElem_mem hkL)
              rw [hr] at this
              cases this
            clear hbc HC1 HI r0 r1 r2 r3 k0
            go_wp2_with fail
            refine bodyPost_ret (v := .pointer none) ?_ rfl HE.out
            simp [results, Tryz.results8, go_sem]
  | false =>
    subst hE
    have hb3 : w.heap.size < w1.heap.size := cell_lt k0
    have HN2 : Hid (MkS dCK (fun n => n < N ∨ w.heap.size ≤ n) d L (fromT false o v) w LL W.heap.size w1) := HN.out
    have HOK : Hid (false = true → timesE d o 0 v = 0) := fun h => by cases h
    clear HN HIt HRt k1 k2 k3 k4 k5 hb1 hb0
    go_wp2_with fail
    go_loopg [3, 6] LL (fun g cc i wr => ∃ (j b : Nat) (z : Int), i = .int .i64 z ∧ cc = .pointer (some ⟨b, 0, none⟩) ∧ j ≤ LL ∧ g = j ∧ Hid (z = (j : Int) - 1) ∧ Hid (wr.cell? ⟨w.heap.size, 0, none⟩ = some (.slice aL LL cL)) ∧ Hid (MkS dCK (fun n => n < N ∨ w.heap.size ≤ n) d L (fromT false o v) w j b wr))
    case atStart => exact ⟨LL, _, _, rfl, rfl, Nat.le_refl _, rfl, rfl, k0, HN2.out⟩
    case round =>
      clear HN2 e1 k0 hb3
      obtain ⟨j, b, z, rfl, rfl, hj, hg, Hz, Hk0, HI⟩ := hrel
      have Hg : Hid (gk = j) := hg
      clear hg
      have k0 := Hk0.out
      by_cases hj0 : j = 0
      · have hz0 : ¬ (0 : Int) ≤ z := by have := Hz.out; omega
        have HE : Hid (SmPost dCK (fun n => n < N ∨ w.heap.size ≤ n) d L false o v w (.returned (.pointer (some ⟨b, 0, none⟩))) wr) := by
          obtain ⟨h1, h2, P, h3, h4, h5⟩ := HI.out
          subst hj0
          exact ⟨h1, .inr ⟨⟨HOK.out, h2⟩, P, by rw [h3], h4, h5⟩⟩
        clear hj0 Hz Hg hj HI Hk0
        go_wp2_with fail
        refine bodyPost_ret (v := .pointer (some ⟨b, 0, none⟩)) ?_ rfl HE.out
        simp [results, Tryz.results8, go_sem]
      · obtain ⟨k, rfl⟩ : ∃ k, j = k + 1 := ⟨j - 1, by omega⟩
        obtain rfl : z = (k : Int) := by have := Hz.out; omega
        have hkL : k < L.length := by have := HLe.out; omega
        have hne : L ≠ [] := by intro h; rw [h] at hkL; simp at hkL
        obtain ⟨bb, oo, rfl, _, hall⟩ := HRow.out hne
        obtain ⟨u, r0, r1, r2, r3, hlx, htx⟩ := hall k hkL
        obtain ⟨ax, cx, rfl, _⟩ := Lies.slice hlx.lies
        obtain ⟨x, hx⟩ : ∃ x, x = L[k] := ⟨_, rfl⟩
        have Hx : Hid (x = L[k]) := hx
        rw [← hx] at r0 r1 r2 r3 hlx htx
        have hbr := HI.out.1
        have r0 := cell_keeps hbr r0; have r1 := cell_keeps hbr r1; have r2 := cell_keeps hbr r2; have r3 := cell_keeps hbr r3
        have HX : Hid (LiesX (fun n => n < N) d w x.items (.slice ax x.items.length cx) ∧ Lies d wr x.items (.slice ax x.items.length cx) ∧ x.text.size ≤ 9223372036854775807) := ⟨hlx, Lies.keeps hbr _ _ _ hlx.lies, htx⟩
        have i1 : (0 : Int) ≤ (k : Int) := by omega
        have i2 : (k : Int) < (LL : Int) := by omega
        have e2 : IntKind.i64.wrap ((k : Int) - 1) = (k : Int) - 1 := by rw [IntKind.wrap_i64]; omega
        clear hx hall hlx htx hbr hne HRow hj0 Hk0
        cases hr : rightV d x with
        | true =>
          have HC1 : Hid _ := HCo.out wr x ax cx b HX.out.2.1 hr
          clear HCo HCw
          go_wp2_with fail
          refine Calls.mono HC1.out ?_
          rintro e w3 ⟨hbc, e2, hde, rfl, hkn⟩
          have HI2 : Hid (MkS dCK (fun n => n < N ∨ w.heap.size ≤ n) d L (fromT false o v) w k e2 w3) := by
            have hrx := hr
            have hr16 := (canon HX.out.1.lies hr).2
            have hc := (canon HX.out.1.lies hr).1
            have e9 := Hx.out
            subst e9
            have hs := HI.out.1.size
            have hb9 := HI.out.1.trans (hbc.mono hs)
            have HX : Hid (LiesX (fun n => n < N) 16 w3 L[k].items (.slice ax L[k].items.length cx)) := (HX.out.1.to (Dp.of_lies 16 w _ _ hc)).keeps hb9
            exact HI.out.step HY.out hkL hrx hr16 hbc hde ⟨0, 0, zeroT, _, hkn⟩ (LiesX.mono (fun n hn => ⟨⟨.inl hn, by have := HNw.out; omega⟩, .inl (by have := HNw.out; omega)⟩) HX.out)
          have k0 := cell_keeps hbc k0
          clear hbc hkn  HC1 HI hde r0 r1 r2 r3
          go_wp2_with fail
          go_roundg k
          case measure => have := Hg.out; omega
          case rel => exact ⟨k, e2, (k : Int) - 1, by first | rfl | (rw [e2]), rfl, by omega, rfl, rfl, k0, HI2.out⟩
        | false =>
          have HC1 : Hid _ := HCw.out wr x ax cx b HX.out.2.1 HX.out.2.2 hr
          clear HCo HCw
          go_wp2_with fail
          refine Calls.mono HC1.out ?_
          rintro e w3 ⟨rfl, hbc⟩
          have HE : Hid (SmPost dCK (fun n => n < N ∨ w.heap.size ≤ n) d L false o v w (.returned (.pointer none)) w3) := by
            refine ⟨HI.out.1.trans (hbc.mono HI.out.1.size), .inl ⟨fun h => ?_, rfl⟩⟩
            have := h.2 x (by rw [Hx.out]; exact List.getElem_mem hkL)
            rw [hr] at this
            cases this
          clear hbc HC1 HI r0 r1 r2 r3 k0
          go_wp2_with fail
          refine bodyPost_ret (v := .pointer none) ?_ rfl HE.out
          simp [results, Tryz.results8, go_sem]

end Go.Proofs.YtbhfbjbigafnpaaGreat

namespace Go.Proofs.YtbhfbjbigafnpaaGreat
open Go.RowKit Go.Shelf

abbrev iv (n : Int) : VT := ⟨2, n, ⟨#[]⟩, []⟩

theorem sp_one : wlk frcC 3 ⟨[], some (1, iv 0), 0⟩ 5 = ⟨[iv 0, iv 1, iv 2], 2, 0, ⟨[iv 0, iv 1, iv 2], some (1, iv 3), 3⟩⟩ := by kernel_rfl
theorem sp_two : wlk frcC 3 ⟨[iv 0, iv 1, iv 2], some (1, iv 3), 0⟩ 0 = ⟨[iv 0, iv 1, iv 2], 0, 0, ⟨[iv 0, iv 1, iv 2], some (1, iv 3), 3⟩⟩ := by kernel_rfl
theorem sp_three : wlk frcC 4 ⟨[iv 0, iv 1, iv 2], some (1, iv 3), 0⟩ 0 = ⟨[iv 0, iv 1, iv 2], 0, 220, ⟨[iv 0, iv 1, iv 2], some (1, iv 3), 3⟩⟩ := by kernel_rfl

theorem three_any (b cap : Nat) (w : World) (h0 : w.cell? ⟨b, 0, none⟩ = some (.int .i64 0)) (h1 : w.cell? ⟨b, 1, none⟩ = some (.int .i64 1)) (h2 : w.cell? ⟨b, 2, none⟩ = some (.int .i64 2)) :
    Calls Tryz.prog 34 #[.slice (some ⟨b, 0, none⟩) 3 cap] w fun e w' => ∃ a c, e = .returned (.slice a 3 c) ∧ Lies 17 w' [iv 0, iv 1, iv 2] (.slice a 3 c) ∧ Below w.heap.size w w' := by
  refine (ints_any b [0, 1, 2] cap w (by simp) (fun i hi => ?_)).mono ?_
  · match i, hi with
    | 0, _ => exact h0
    | 1, _ => exact h1
    | 2, _ => exact h2
  rintro e w' ⟨v, rfl, hown, hb⟩
  have hown2 : w'.ownsRow w.heap.size 24 4 v 3 ([(iv 0, Value.slice none 0 0), (iv 1, Value.slice none 0 0), (iv 2, Value.slice none 0 0)].flatMap encP) := hown
  have hl := own_liesX (X := fun _ => True) (d := 16) hown2 rfl (fun _ _ => trivial) (fun p hp => by
    simp only [List.mem_cons, List.not_mem_nil, or_false] at hp
    rcases hp with rfl | rfl | rfl <;> exact ⟨⟨none, 0, rfl, by simp, fun h => absurd rfl h⟩, by decide⟩) (by simp)
  obtain ⟨a, c, rfl, _⟩ := LiesX.slice hl
  exact ⟨a, c, rfl, hl.lies, hb⟩

set_option maxRecDepth 100000 in
set_option maxHeartbeats 8000000 in
theorem speaks23_any (w : World) : Calls Tryz.prog 9 #[] w fun e w' => e = .returned (.bool true) ∧ Below w.heap.size w w' := by
  have HI : Hid (∀ V, Calls Tryz.prog 32 #[.int .i64 0] V fun e w' => e = .returned (.agg #[.int .i64 2, .int .i64 0, .string ⟨#[]⟩, .slice none 0 0]) ∧ Grew V w') := fun V => int_any 0 V
  have HIt : Hid (∀ V, Calls Tryz.prog 27 #[.int .i64 1, .agg #[.int .i64 2, .int .i64 0, .string ⟨#[]⟩, .slice none 0 0]] V (IterPost 0 1 nil0 V)) := fun V => by
    have h9 := iter_any 16 1 nil0 (.slice none 0 0) V (lies_z22 V) (by show (0 : Nat) ≤ _; omega)
    rw [nil0_err] at h9
    exact h9
  go_enter Tryz.func9, Tryz.ntmps9
  go_wp2_with fail
  refine Calls.mono (HI.out _) ?_
  rintro e w1 ⟨rfl, hg1⟩
  have hb1 : Below w.heap.size w w1 := hg1.below
  clear hg1 HI
  go_wp2_with fail
  refine Calls.mono (HIt.out _) ?_
  rintro e w2 ⟨hg2, ⟨h0, _⟩ | ⟨_, a, c, b, rfl, hb, hcb, hlx⟩⟩
  · exact absurd rfl h0
  have hb2 : Below w.heap.size w w2 := hb1.trans (hg2.mono hb1.size)
  have hs1 := hb1.size
  have hs2 := hg2.size
  have hC2 : Chn pCK (fun n => w.heap.size ≤ n) w2 [] (some (1, iv 0)) (fun _ => b) := chn_iter (C := pCK) (a := a) (c := c) (show w.heap.size ≤ b by omega) (by omega) nil0_right (Dp.of_lies 16 w2 nil0 _ hlx.lies) ⟨0, by omega, rfl, hcb⟩ (LiesX.mono (fun n hn => ⟨by omega, hn.2⟩) hlx)
  have hbw : w.heap.size ≤ b := by omega
  have HT1 : Hid (Calls Tryz.prog 33 #[.pointer (some ⟨b, 0, none⟩), .int .i64 3, .int .i64 5] w2 (TakePost pCK True (fun n => w.heap.size ≤ n) w2 (fun _ => b) 0 ⟨[iv 0, iv 1, iv 2], 2, 0, ⟨[iv 0, iv 1, iv 2], some (1, iv 3), 3⟩⟩)) := by
    have h9 := take_any (fun n => w.heap.size ≤ n) [] (some (1, iv 0)) (fun _ => b) 3 5 (by omega) (by omega) w2 hC2 (fun n hn => by omega)
    rw [sp_one] at h9
    exact h9
  clear hg2 hb hcb hlx hb1 HIt hs1 hC2
  go_wp2_with fail
  refine Calls.mono HT1.out ?_
  rintro e w3 ⟨P3, hA3, ⟨h0, _⟩ | ⟨_, a3, c3, rfl, hl3, _⟩⟩
  · exact absurd rfl h0
  have hP30 : P3 0 = b := hA3.old 0 (Nat.le_refl _)
  have hP3 : ∀ j, j ≤ 3 → w.heap.size ≤ P3 j := fun j hj => by
    by_cases h : j ≤ 0
    · obtain rfl : j = 0 := by omega
      rw [hP30]; exact hbw
    · have := hA3.new j (by omega) hj; have := hb2.size; omega
  have hb3 : Below w.heap.size w w3 := hb2.trans (hA3.kc.below (fun j hj hh => by obtain ⟨i, hi, e⟩ := hh; have e : j = b := e; omega) hb2.size)
  have HT2 : Hid (Calls Tryz.prog 33 #[.pointer (some ⟨b, 0, none⟩), .int .i64 3, .int .i64 0] w3 (TakePost pCK True (fun n => w.heap.size ≤ n) w3 P3 3 ⟨[iv 0, iv 1, iv 2], 0, 0, ⟨[iv 0, iv 1, iv 2], some (1, iv 3), 3⟩⟩)) := by
    have h9 := take_any (fun n => w.heap.size ≤ n) [iv 0, iv 1, iv 2] (some (1, iv 3)) P3 3 0 (by omega) (by omega) w3 hA3.chn (fun n hn => by have := hb3.size; omega)
    rw [sp_two, hP30] at h9
    exact h9
  have HL3 : Hid (LiesX (fun n => w2.heap.size ≤ n ∧ ∀ j, j ≤ 3 → n ≠ P3 j) 17 w3 [iv 0, iv 1, iv 2] (.slice a3 3 c3)) := LiesX.mono (fun n hn => ⟨hn.1 trivial, hn.2.2⟩) hl3
  clear HT1 hA3 hl3 hb2 hs2 hbw
  go_wp2_with fail
  refine Calls.mono HT2.out ?_
  rintro e w4 ⟨P4, hA4, ⟨h0, _⟩ | ⟨_, a4, c4, rfl, hl4, _⟩⟩
  · exact absurd rfl h0
  have hP4 : ∀ j, j ≤ 3 → P4 j = P3 j := fun j hj => hA4.old j hj
  have hb4 : Below w.heap.size w w4 := hb3.trans (hA4.kc.below (fun j hj hh => by obtain ⟨i, hi, e⟩ := hh; have := hP3 i hi; omega) hb3.size)
  have HL4 : Hid (LiesX (fun n => w2.heap.size ≤ n ∧ ∀ j, j ≤ 3 → n ≠ P4 j) 17 w4 [iv 0, iv 1, iv 2] (.slice a3 3 c3)) := LiesX.mono (fun n hn => ⟨hn.1, fun j hj => by rw [hP4 j hj]; exact hn.2 j hj⟩) (hA4.kc.liesX (fun n hn hh => by obtain ⟨i, hi, rfl⟩ := hh; exact hn.2 i hi rfl) HL3.out)
  have HM4 : Hid (LiesX (fun n => ∀ j, j ≤ 3 → n ≠ P4 j) 17 w4 [iv 0, iv 1, iv 2] (.slice a4 3 c4)) := LiesX.mono (fun n hn => hn.2.2) hl4
  have Hq : Hid (∀ j, j ≤ 3 → w.heap.size ≤ P4 j) := fun j hj => by rw [hP4 j hj]; exact hP3 j hj
  have HT3 : Hid (Calls Tryz.prog 33 #[.pointer (some ⟨b, 0, none⟩), .int .i64 4, .int .i64 0] w4 (TakePost pCK True (fun n => w.heap.size ≤ n) w4 P4 3 ⟨[iv 0, iv 1, iv 2], 0, 220, ⟨[iv 0, iv 1, iv 2], some (1, iv 3), 3⟩⟩)) := by
    have h9 := take_any (fun n => w.heap.size ≤ n) [iv 0, iv 1, iv 2] (some (1, iv 3)) P4 4 0 (by omega) (by omega) w4 hA4.chn (fun n hn => by have := hb4.size; omega)
    have h8 : P4 0 = b := by rw [hP4 0 (by omega)]; exact hP30
    rw [sp_three, h8] at h9
    exact h9
  clear HT2 hA4 hl4 HL3 hP3 hb3 hP30
  go_wp2_with fail
  refine Calls.mono HT3.out ?_
  rintro e w5 ⟨P5, hA5, ⟨_, rfl⟩ | ⟨h0, _⟩⟩
  case inr => cases h0
  have hb5 : Below w.heap.size w w5 := hb4.trans (hA5.kc.below (fun j hj hh => by obtain ⟨i, hi, e⟩ := hh; have := Hq.out i hi; omega) hb4.size)
  have HL5 : Hid (LiesX (fun n => ∀ j, j ≤ 3 → n ≠ P4 j) 17 w5 [iv 0, iv 1, iv 2] (.slice a3 3 c3)) := hA5.kc.liesX (fun n hn hh => by obtain ⟨i, hi, rfl⟩ := hh; exact hn i hi rfl) (LiesX.mono (fun n hn => hn.2) HL4.out)
  have HM5 : Hid (LiesX (fun n => ∀ j, j ≤ 3 → n ≠ P4 j) 17 w5 [iv 0, iv 1, iv 2] (.slice a4 3 c4)) := hA5.kc.liesX (fun n hn hh => by obtain ⟨i, hi, rfl⟩ := hh; exact hn i hi rfl) HM4.out
  have HIn : Hid (∀ V (b cap : Nat), V.cell? ⟨b, 0, none⟩ = some (.int .i64 0) → V.cell? ⟨b, 1, none⟩ = some (.int .i64 1) → V.cell? ⟨b, 2, none⟩ = some (.int .i64 2) → Calls Tryz.prog 34 #[.slice (some ⟨b, 0, none⟩) 3 cap] V fun e w' => ∃ a c, e = .returned (.slice a 3 c) ∧ Lies 17 w' [iv 0, iv 1, iv 2] (.slice a 3 c) ∧ Below V.heap.size V w') := fun V b cap => three_any b cap V
  clear HT3 hA5 HL4 HM4 hb4 hP4
  go_wp2_with fail
  refine Calls.mono (HIn.out _ _ _ (by simp) (by simp) (by simp)) ?_
  rintro e w6 ⟨a6, c6, rfl, hl6, hg6⟩
  have hg65 : Below w5.heap.size w5 w6 := ((Grew.refl w5).alloc _).below.trans (hg6.mono (by simp))
  have hb6 : Below w.heap.size w w6 := hb5.trans (hg65.mono hb5.size)
  have HV1 : Hid (Calls Tryz.prog 21 #[.slice a3 3 c3, .slice a6 3 c6] w6 fun e w' => e = .returned (.bool true) ∧ Below w6.heap.size w6 w') := values_one 16 [iv 0, iv 1, iv 2] _ _ w6 (HL5.out.keeps hg65).lies hl6 (by simp)
  have HV2 : Hid (∀ V, Below w6.heap.size w6 V → Calls Tryz.prog 21 #[.slice a3 3 c3, .slice a4 3 c4] V fun e w' => e = .returned (.bool true) ∧ Below V.heap.size V w') := fun V hV => values_one 16 [iv 0, iv 1, iv 2] _ _ V ((HL5.out.keeps hg65).keeps hV).lies ((HM5.out.keeps hg65).keeps hV).lies (by simp)
  clear hg6 hg65 hl6 HIn HL5 HM5 hb5
  go_wp2_with fail
  refine Calls.mono HV1.out ?_
  rintro e w7 ⟨rfl, hg7⟩
  have hb7 : Below w.heap.size w w7 := hb6.trans (hg7.mono hb6.size)
  have HV3 : Hid _ := HV2.out _ hg7
  clear hg7 HV1 HV2 hb6
  go_wp2_with fail
  refine Calls.mono HV3.out ?_
  rintro e w8 ⟨rfl, hg8⟩
  have hb8 : Below w.heap.size w w8 := hb7.trans (hg8.mono hb7.size)
  clear hg8 HV3 hb7
  go_wp2_with fail
  go_ret
  exact ⟨rfl, hb8⟩

end Go.Proofs.YtbhfbjbigafnpaaGreat

namespace Go.Proofs.YtbhfbjbigafnpaaGreat
open Go.RowKit Go.Shelf

/-- A question as an argument. -/
abbrev askV (k n f : Int) : Value := .agg #[.int .i64 k, .int .i64 n, .int .i64 f]

/-- Behind a question: both tell the same. -/
def AskPost (w0 : World) (c d : Nat) (w V : World) (e : Ending) (w' : World) : Prop :=
  e = .returned (.bool true) ∧ Kp23 w V w' ∧ ∃ vs' T', St23 w0 c d vs' T' w'

set_option maxRecDepth 100000 in
set_option maxHeartbeats 16000000 in
theorem sasked_any {w0 : World} {c d : Nat} {vs : List VT} {T : Tl} {w V : World} (s : St23 w0 c d vs T w) (hV : Below w.heap.size w V) (k n f : Int) :
    Calls Tryz.prog 10 #[.pointer (some ⟨c, 0, none⟩), .pointer (some ⟨d, 0, none⟩), askV k n f] V (AskPost w0 c d w V) := by
  obtain ⟨W, hW⟩ : ∃ W, W = V.alloc (.cells #[.int .i64 k, .int .i64 n, .int .i64 f] 34) := ⟨_, rfl⟩
  have HW : Hid (W = V.alloc (.cells #[.int .i64 k, .int .i64 n, .int .i64 f] 34)) := hW
  have hbV : Below V.heap.size V W := by rw [hW]; exact ((Grew.refl V).alloc _).below
  have hbW : Below w.heap.size w W := hV.trans (hbV.mono hV.size)
  have hVs := hV.size
  have k0 : W.cell? ⟨V.heap.size, 0, none⟩ = some (.int .i64 k) := by rw [hW]; simp
  have k1 : W.cell? ⟨V.heap.size, 1, none⟩ = some (.int .i64 n) := by rw [hW]; simp
  have k2 : W.cell? ⟨V.heap.size, 2, none⟩ = some (.int .i64 f) := by rw [hW]; simp
  have HS : Hid (St23 w0 c d vs T w) := s
  have HbW : Hid (Below w.heap.size w W) := hbW
  have HK0 : Hid (Kp23 w V W) := KC.of_below hbV
  have HVs : Hid (w.heap.size ≤ V.heap.size) := hVs
  clear hW s hbW hbV hVs hV
  by_cases e0 : k = 0
  · subst e0
    have HT : Hid _ := HS.out.take HbW.out n f
    go_enter Tryz.func10, Tryz.ntmps10
    go_upto_region 1 with fail
    rw [← HW.out]
    clear HW
    go_wp2_with fail
    refine Calls.mono HT.out ?_
    rintro e w1 ⟨hk1, a, l, kk, left, E, rfl, hdoc⟩
    have HD : Hid _ := hdoc
    have HK1 : Hid (Kp23 w V w1) := HK0.out.trans hk1
    have hnB : ¬ V.heap.size < w.heap.size := by have := HVs.out; omega
    have k1 := hk1.cell (a := ⟨V.heap.size, 1, none⟩) hnB k1
    have k2 := hk1.cell (a := ⟨V.heap.size, 2, none⟩) hnB k2
    clear hk1 hdoc HT k0 HK0
    go_wp2_with fail
    refine Calls.mono HD.out ?_
    rintro e w2 ⟨hk2, a2, l2, kk2, vs', T', rfl, hst, hvals⟩
    have HVal : Hid _ := hvals
    have HS2 : Hid (St23 w0 c d vs' T' w2) := hst
    have HK2 : Hid (Kp23 w V w2) := HK1.out.trans hk2
    clear hk2 hst hvals HD HK1 k1 k2
    go_wp2_with fail
    refine Calls.mono HVal.out ?_
    rintro e w3 ⟨rfl, hg3⟩
    have HE : Hid (AskPost w0 c d w V (.returned (.bool true)) w3) := ⟨rfl, HK2.out.trans (KC.of_below hg3), vs', T', HS2.out.keeps hg3⟩
    have e7 : (left == left) = true := by simp
    have e8 : (E == E) = true := by simp
    clear hg3 HVal HS2 HK2 HS HbW HVs
    go_wp2_with fail
    refine bodyPost_ret (v := .bool true) ?_ rfl HE.out
    simp [results, Tryz.results10, go_sem]
  · by_cases e1 : k = 1
    · subst e1
      have HT : Hid _ := HS.out.nth HbW.out n f
      go_enter Tryz.func10, Tryz.ntmps10
      go_upto_region 1 with fail
      rw [← HW.out]
      clear HW
      go_wp2_with fail
      refine Calls.mono HT.out ?_
      rintro e w1 ⟨hk1, x, a, kk, t, left, E, rfl, hdoc⟩
      have HD : Hid _ := hdoc (w1.alloc (.cells #[.int .i64 x.kind, .int .i64 x.num, .string x.text, .slice a x.items.length kk] 24)) ((Grew.refl w1).alloc _).below
      have hs1 := hk1.size
      have HK1 : Hid (Kp23 w V (w1.alloc (.cells #[.int .i64 x.kind, .int .i64 x.num, .string x.text, .slice a x.items.length kk] 24))) := (HK0.out.trans hk1).alloc _
      have hnB : ¬ V.heap.size < w.heap.size := by have := HVs.out; omega
      have k1 := hk1.cell (a := ⟨V.heap.size, 1, none⟩) hnB k1
      have k2 := hk1.cell (a := ⟨V.heap.size, 2, none⟩) hnB k2
      have HX1 : Hid (Bx (w1.alloc (.cells #[.int .i64 x.kind, .int .i64 x.num, .string x.text, .slice a x.items.length kk] 24)) w1.heap.size x (.slice a x.items.length kk)) := bx_alloc w1 x _
      have Hn1 : Hid (¬ w1.heap.size < w.heap.size) := by have := HVs.out; have h9 := HbW.out.size; show ¬ _; omega
      have z1 : ∀ A, (w1.alloc A).cell? ⟨V.heap.size, 1, none⟩ = some (.int .i64 n) := fun A => cell_keeps ((Grew.refl w1).alloc A).below k1
      have z2 : ∀ A, (w1.alloc A).cell? ⟨V.heap.size, 2, none⟩ = some (.int .i64 f) := fun A => cell_keeps ((Grew.refl w1).alloc A).below k2
      clear hk1 hdoc HT k0 HK0 hs1
      go_wp2_with fail
      refine Calls.mono HD.out ?_
      rintro e w2 ⟨hk2, a2, kk2, vs', T', rfl, hst, hl1, hl2⟩
      obtain ⟨y0, y1, y2, y3, _, _, _, _⟩ := hk2.bx Hn1.out HX1.out
      have hy : w1.heap.size < w2.heap.size := cell_lt y0
      have HK2 : Hid (Kp23 w V w2) := HK1.out.trans hk2
      have HS2 : Hid (St23 w0 c d vs' T' w2) := hst
      have HVa : Hid (Calls Tryz.prog 38 #[.agg #[.int .i64 x.kind, .int .i64 x.num, .string x.text, .slice a x.items.length kk], .agg #[.int .i64 x.kind, .int .i64 x.num, .string x.text, .slice a2 x.items.length kk2]] (w2.alloc (.cells #[.int .i64 x.kind, .int .i64 x.num, .string x.text, .slice a2 x.items.length kk2] 24)) fun e w' => e = .returned (.bool true) ∧ Below (w2.alloc (.cells #[.int .i64 x.kind, .int .i64 x.num, .string x.text, .slice a2 x.items.length kk2] 24)).heap.size (w2.alloc (.cells #[.int .i64 x.kind, .int .i64 x.num, .string x.text, .slice a2 x.items.length kk2] 24)) w') := (same_any 16 x x _ _ _ (Lies.keeps ((Grew.refl w2).alloc _).below _ _ _ hl1) (Lies.keeps ((Grew.refl w2).alloc _).below _ _ _ hl2)).mono fun e w' h => ⟨by rw [h.1, sameV_self], h.2.below⟩
      have p0 : ∀ A, (w2.alloc A).cell? ⟨w1.heap.size, 0, none⟩ = some _ := fun A => cell_keeps ((Grew.refl w2).alloc A).below y0
      have p1 : ∀ A, (w2.alloc A).cell? ⟨w1.heap.size, 1, none⟩ = some _ := fun A => cell_keeps ((Grew.refl w2).alloc A).below y1
      have p2 : ∀ A, (w2.alloc A).cell? ⟨w1.heap.size, 2, none⟩ = some _ := fun A => cell_keeps ((Grew.refl w2).alloc A).below y2
      have p3 : ∀ A, (w2.alloc A).cell? ⟨w1.heap.size, 3, none⟩ = some _ := fun A => cell_keeps ((Grew.refl w2).alloc A).below y3
      clear hk2 hst hl1 hl2 HD HK1 k1 k2 z1 z2 HX1 Hn1
      go_wp2_with fail
      refine Calls.mono HVa.out ?_
      rintro e w3 ⟨rfl, hg3⟩
      have hg4 : Below w2.heap.size w2 w3 := ((Grew.refl w2).alloc _).below.trans (hg3.mono (by simp))
      have HE : Hid (AskPost w0 c d w V (.returned (.bool true)) w3) := ⟨rfl, HK2.out.trans (KC.of_below hg4), vs', T', HS2.out.keeps hg4⟩
      have e6 : (t == t) = true := by simp
      have e7 : (left == left) = true := by simp
      have e8 : (E == E) = true := by simp
      clear hg3 hg4 HVa HS2 HK2 HS HbW HVs y0 y1 y2 y3 p0 p1 p2 p3
      go_wp2_with fail
      refine bodyPost_ret (v := .bool true) ?_ rfl HE.out
      simp [results, Tryz.results10, go_sem]
    · by_cases e3 : k = 3
      · subst e3
        have HT : Hid _ := HS.out.count HbW.out n f
        go_enter Tryz.func10, Tryz.ntmps10
        go_upto_region 1 with fail
        rw [← HW.out]
        clear HW
        go_wp2_with fail
        refine Calls.mono HT.out ?_
        rintro e w1 ⟨hk1, l, left, E, rfl, hdoc⟩
        have HD : Hid _ := hdoc
        have HK1 : Hid (Kp23 w V w1) := HK0.out.trans hk1
        have hnB : ¬ V.heap.size < w.heap.size := by have := HVs.out; omega
        have k1 := hk1.cell (a := ⟨V.heap.size, 1, none⟩) hnB k1
        have k2 := hk1.cell (a := ⟨V.heap.size, 2, none⟩) hnB k2
        clear hk1 hdoc HT k0 HK0
        go_wp2_with fail
        refine Calls.mono HD.out ?_
        rintro e w2 ⟨hk2, vs', T', rfl, hst⟩
        have HE : Hid (AskPost w0 c d w V (.returned (.bool true)) w2) := ⟨rfl, HK1.out.trans hk2, vs', T', hst⟩
        have e6 : (l == l) = true := by simp
        have e7 : (left == left) = true := by simp
        have e8 : (E == E) = true := by simp
        clear hk2 hst HD HK1 k1 k2 HS HbW HVs
        go_wp2_with fail
        refine bodyPost_ret (v := .bool true) ?_ rfl HE.out
        simp [results, Tryz.results10, go_sem]
      · have HE : Hid (AskPost w0 c d w V (.returned (.bool true)) W) := ⟨rfl, HK0.out, vs, T, HS.out.keeps HbW.out⟩
        clear HS HbW HK0 HVs k1 k2
        go_enter Tryz.func10, Tryz.ntmps10
        go_upto_region 1 with fail
        rw [← HW.out]
        clear HW
        go_wp2_with fail
        refine bodyPost_ret (v := .bool true) ?_ rfl HE.out
        simp [results, Tryz.results10, go_sem]

set_option maxRecDepth 100000 in
theorem sasked_other (c d : Option Addr) (k n f : Int) (e0 : ¬ k = 0) (e1 : ¬ k = 1) (e3 : ¬ k = 3) (V : World) : Calls Tryz.prog 10 #[.pointer c, .pointer d, askV k n f] V fun e w' => e = .returned (.bool true) ∧ Below V.heap.size V w' := by
  have HB : Hid (Below V.heap.size V (V.alloc (.cells #[.int .i64 k, .int .i64 n, .int .i64 f] 34))) := ((Grew.refl V).alloc _).below
  go_enter Tryz.func10, Tryz.ntmps10
  go_wp2_with fail
  refine bodyPost_ret (v := .bool true) ?_ rfl ⟨rfl, HB.out⟩
  simp [results, Tryz.results10, go_sem]

end Go.Proofs.YtbhfbjbigafnpaaGreat

