/-
  The document's New, Of, Push.
-/
import Derived.Test.YtgmmocbgeilpiaaGreatPutS
import Derived.Test.YtgmmocbgeilpiaaGreatGrownH
import Derived.Test.YtgmmocbgeilpiaaGreatROrd
import Derived.Deep.RegionHeld3
import Derived.Deep.CutRange
import Derived.Deep.CutBlock
import Derived.BigQuiet
import Derived.Test.YtgmmocbgeilpiaaGreatMinQ
import Derived.Test.YtgmmocbgeilpiaaGreatVals
namespace Go.Proofs.YtgmmocbgeilpiaaGreat
open Go.RowKit

abbrev All : Nat → Prop := fun _ => True

/-- The document's queue of order q with the items L lies in block b. -/
structure RQ (w : World) (q : Nat) (L : List VT) (b : Nat) : Prop where
  order : w.cell? ⟨b, 0, none⟩ = some (.int .i64 (q : Int))
  ex : ∃ v, w.cell? ⟨b, 1, none⟩ = some v ∧ SlI All w L v
  lt : q < 6
  le : L.length ≤ 65536
  up : srtV q L = L

theorem RQ.keeps {w w' : World} (hb : Below w.heap.size w w') {q : Nat} {L : List VT} {b : Nat} (h : RQ w q L b) : RQ w' q L b := by
  obtain ⟨v, h1, h2⟩ := h.ex
  exact ⟨cell_keeps hb h.order, ⟨v, cell_keeps hb h1, h2.keeps hb⟩, h.lt, h.le, h.up⟩

theorem SlI.good {X : Nat → Prop} {w : World} {l : List VT} {v : Value} (h : SlI X w l v) : ∀ x ∈ l, Good 16 x := by
  obtain ⟨ps, rfl, _, hi⟩ := h
  intro x hx
  obtain ⟨p, hp, rfl⟩ := List.mem_map.1 hx
  exact (hi p hp).good

theorem below_drew19 (w : World) (n : Nat) : Below w.heap.size w (w.drewN n) := ⟨rfl, rfl, rfl, Nat.le_refl _, fun _ _ => rfl⟩

theorem src_none19 (w : World) (a : Option Addr) : Src19 w a 0 [] := ⟨fun _ => rfl, rfl, fun _ _ _ _ h => by simp at h, fun u h => by cases h⟩

/-- What put tells. -/
def PutPost (q : Nat) (L : List VT) (w : World) (e : Ending) (w' : World) : Prop := ∃ B, e = .returned (.pointer (some ⟨B, 0, none⟩)) ∧ RQ w' q L B ∧ Below w.heap.size w w'

theorem put_fin {q B k n : Nat} {L R : List VT} {x : VT} {u v : Value} {w w0 W : World} {ps : List (VT × Value)} (hB : Below w.heap.size w w0) (hX : ItM All w0 x u) (hIt : ∀ p ∈ ps, ItM All w0 p.1 p.2) (hP : ps.map (·.1) = L ∧ ps.length = L.length) (hU : srtV q L = L ∧ q < 6 ∧ L.length < 65536) (hK : k ≤ L.length ∧ L.take k ++ ([x] ++ L.drop k) = R) (hUp : srtV q R = R)
    (h : PS w0 W q B v n ((ps.take k ++ [(x, u)]) ++ ps.drop k)) : PutPost q R w (.returned (.pointer (some ⟨B, 0, none⟩))) W := by
  have hmap : ((ps.take k ++ [(x, u)]) ++ ps.drop k).map (·.1) = R := by
    rw [List.map_append, List.map_append, List.map_take, List.map_drop, hP.1, ← hK.2, List.append_assoc]; rfl
  have hlen : R.length = L.length + 1 := by
    rw [← hK.2]
    simp only [List.length_append, List.length_take, List.length_drop, List.length_cons, List.length_nil]
    have := hK.1
    omega
  have hits : ∀ p ∈ (ps.take k ++ [(x, u)]) ++ ps.drop k, ItM All W p.1 p.2 := fun p hp => by
    rcases List.mem_append.1 hp with hp | hp
    · rcases List.mem_append.1 hp with hp | hp
      · exact (hIt p (List.mem_of_mem_take hp)).keeps h.below
      · rw [List.mem_singleton.1 hp]; exact hX.keeps h.below
    · exact (hIt p (List.mem_of_mem_drop hp)).keeps h.below
  refine ⟨B, rfl, ⟨h.ord, ⟨v, h.lst, _, hmap, (SlP.of_own h.hn h.own (fun p hp => ⟨(hits p hp).lies.lies, (hits p hp).size⟩) ?_).mono (Nat.zero_le _), hits⟩, hU.2.1, by rw [hlen]; have := hU.2.2; omega, hUp⟩, hB.trans (h.below.mono hB.size)⟩
  have e := congrArg List.length hmap
  rw [List.length_map, hlen] at e
  rw [e]
  have := hU.2.2
  omega

set_option maxRecDepth 100000 in
set_option maxHeartbeats 8000000 in
theorem put_any {q b : Nat} {L : List VT} {x : VT} {u : Value} {w : World} (h : RQ w q L b) (hx : ItM All w x u) (hlt : L.length < 65536) :
    Calls Tryz.prog 27 #[.pointer (some ⟨b, 0, none⟩), .agg #[.int .i64 x.kind, .int .i64 x.num, .string x.text, u]] w (PutPost q (srtV q (L ++ [x])) w) := by
  obtain ⟨ax, cx, rfl, _⟩ := LiesX.slice hx.lies
  obtain ⟨i0, hi, hz0, hz1, hz2⟩ := info24
  have Hi : Hid _ := hi; have Hz0 : Hid _ := hz0; have Hz1 : Hid _ := hz1; have Hz2 : Hid _ := hz2
  clear hi hz0 hz1 hz2
  obtain ⟨w0, hw0⟩ : ∃ w0, w0 = w.alloc (.cells #[.int .i64 x.kind, .int .i64 x.num, .string x.text, .slice ax x.items.length cx] 37) := ⟨_, rfl⟩
  have hb0 : Below w.heap.size w w0 := by rw [hw0]; exact ((Grew.refl w).alloc _).below
  have HBx : Hid (Boxed w0 w.heap.size x.kind x.num x.text (.slice ax x.items.length cx)) := by rw [hw0]; exact boxed_alloc w _ _ _ _ _
  have HB0 : Hid (Below w.heap.size w w0) := hb0
  have hR := h.keeps hb0
  have hI := hx.keeps hb0
  obtain ⟨v, c1, hs⟩ := hR.ex
  have HGd : Hid (∀ y ∈ L, Good 16 y) := hs.good
  have HXg : Hid (Good 16 x) := hI.good
  obtain ⟨ps, hpl, hsp, hit⟩ := hs
  have hpn : ps.length = L.length := by rw [← hpl, List.length_map]
  obtain ⟨aL, cL, rfl, hcL⟩ := hsp.slice
  have HS : Hid (SlP 0 16 w0 ps (.slice aL ps.length cL)) := hsp
  have HIt : Hid (∀ p ∈ ps, ItM All w0 p.1 p.2) := hit
  have HX : Hid (ItM All w0 x (.slice ax x.items.length cx)) := hI
  have HP : Hid (ps.map (·.1) = L ∧ ps.length = L.length) := ⟨hpl, hpn⟩
  have c0 := hR.order
  have HC : Hid (w0.cell? ⟨b, 0, none⟩ = some (.int .i64 (q : Int)) ∧ w0.cell? ⟨b, 1, none⟩ = some (.slice aL L.length cL)) := ⟨c0, by rw [← hpn]; exact c1⟩
  have HU : Hid (srtV q L = L ∧ q < 6 ∧ L.length < 65536) := ⟨h.up, h.lt, hlt⟩
  have HF : Hid (∀ k, (∀ j (hj : j < L.length), j < k → ordV q L[j] x ≤ 0) → (∀ (hj : k < L.length), 0 < ordV q L[k] x) → L.take k ++ ([x] ++ L.drop k) = srtV q (L ++ [x])) := fun k k1 k2 => put_sorted q HGd.out HXg.out h.up k1 k2
  have Ho : Hid (∀ (y : VT) (yv : Value) (W : World), Below w0.heap.size w0 W → ItM All w0 y yv → Calls Tryz.prog 45 #[.int .i64 (q : Int), .agg #[.int .i64 y.kind, .int .i64 y.num, .string y.text, yv], .agg #[.int .i64 x.kind, .int .i64 x.num, .string x.text, .slice ax x.items.length cx]] W fun e w' => e = .returned (.int .i64 (ordV q y x)) ∧ Below W.heap.size W w') := fun y yv W hW hy => rordV_any q HU.out.2.1 y x yv _ W (hy.keeps hW).lies.lies (HX.out.keeps hW).lies.lies hy.right HX.out.right
  rw [hpn] at hcL
  have HUp : Hid (srtV q (srtV q (L ++ [x])) = srtV q (L ++ [x])) := srtV_again q _ (fun y hy => by
    rcases List.mem_append.1 hy with hy | hy
    · exact HGd.out y hy
    · rw [List.mem_singleton.1 hy]; exact HXg.out)
  clear h hx hR hI c0 c1 hpl hit hsp hb0 HGd HXg hpn
  generalize srtV q (L ++ [x]) = R at *
  go_enter Tryz.func27, Tryz.ntmps27
  go_upto_block 0 with fail
  rw [← hw0]
  clear hw0
  go_cut [5] from 7 to 31 (fun s5 wx => ∃ k : Nat, s5 = .int .i64 (k : Int) ∧ Hid (k ≤ L.length ∧ L.take k ++ ([x] ++ L.drop k) = R) ∧ Hid (Below w0.heap.size w0 wx))
  case first =>
    go_wp2_with fail
    go_loopg [5] L.length (fun z i wr => ∃ k : Nat, i = .int .i64 (k : Int) ∧ z = L.length - k ∧ k ≤ L.length ∧ Hid (∀ j (hj : j < L.length), j < k → ordV q L[j] x ≤ 0) ∧ Below w0.heap.size w0 wr)
    case atStart => exact ⟨0, rfl, by omega, by omega, fun j hj h => by omega, Below.refl _ _⟩
    case round =>
      obtain ⟨k, rfl, hk, hk2, HD, hbw⟩ := hrel
      have Hk : Hid _ := hk
      clear hk
      have c0 := cell_keeps hbw HC.out.1
      have c1 := cell_keeps hbw HC.out.2
      obtain ⟨y0, y1, y2, y3⟩ := HBx.out.keeps hbw
      by_cases hkl : k < L.length
      · have hki : (k : Int) < (L.length : Nat) := by omega
        have hkp : k < ps.length := by rw [HP.out.2]; exact hkl
        obtain ⟨b1, o1, c1', e1, _, hrow, _⟩ := HS.out.some (by intro e; rw [e] at hkp; simp at hkp)
        injection e1 with e1 _ e3
        subst e1 e3
        obtain ⟨p0, p1, p2, p3⟩ := hrow k hkp
        have hit := HIt.out ps[k] (List.getElem_mem hkp)
        have hxe : ps[k].1 = L[k] := by
          have : (ps.map (·.1))[k]'(by rw [List.length_map]; exact hkp) = ps[k].1 := List.getElem_map ..
          rw [← this]
          congr 1
          exact HP.out.1
        rw [hxe] at p0 p1 p2 hit
        generalize ps[k].2 = yv at *
        obtain ⟨ay, cy, rfl, _⟩ := LiesX.slice hit.lies
        have p0 := cell_keeps hbw p0; have p1 := cell_keeps hbw p1; have p2 := cell_keeps hbw p2; have p3 := cell_keeps hbw p3
        have Hcall : Hid (∀ W, Below w0.heap.size w0 W → Calls Tryz.prog 45 #[.int .i64 (q : Int), .agg #[.int .i64 L[k].kind, .int .i64 L[k].num, .string L[k].text, .slice ay L[k].items.length cy], .agg #[.int .i64 x.kind, .int .i64 x.num, .string x.text, .slice ax x.items.length cx]] W fun e w' => e = .returned (.int .i64 (ordV q L[k] x)) ∧ Below W.heap.size W w') := fun W hW => Ho.out L[k] _ W hW hit
        have Hyes : Hid (ordV q L[k] x ≤ 0 → ∀ j (hj : j < L.length), j < k + 1 → ordV q L[j] x ≤ 0) := fun h j hj h2 => by
          by_cases e : j < k
          · exact HD.out j hj e
          · have : j = k := by omega
            subst this; exact h
        have Hno : Hid (¬ ordV q L[k] x ≤ 0 → L.take k ++ ([x] ++ L.drop k) = R) := fun h => HF.out k HD.out (fun _ => by omega)
        clear hrow hit hxe HD
        generalize ordV q L[k] x = Z at *
        generalize L[k] = y at *
        by_cases hZ : Z ≤ 0
        · have Hy : Hid _ := Hyes.out hZ
          clear Hyes Hno
          go_wp2_with fail
          go_region_held3 (fun w' => w'.cell? ⟨b, 0, none⟩ = some (.int .i64 (q : Int)) ∧ w'.cell? ⟨b, 1, none⟩ = some (.slice (some ⟨b1, o1, none⟩) L.length cL) ∧ w'.cell? ⟨w.heap.size, 0, none⟩ = some (.int .i64 x.kind) ∧ w'.cell? ⟨w.heap.size, 1, none⟩ = some (.int .i64 x.num) ∧ w'.cell? ⟨w.heap.size, 2, none⟩ = some (.string x.text) ∧ w'.cell? ⟨w.heap.size, 3, none⟩ = some (.slice ax x.items.length cx) ∧ w'.cell? ⟨b1, o1 + k * 4, none⟩ = some (.int .i64 y.kind) ∧ w'.cell? ⟨b1, o1 + k * 4 + 1, none⟩ = some (.int .i64 y.num) ∧ w'.cell? ⟨b1, o1 + k * 4 + 2, none⟩ = some (.string y.text) ∧ w'.cell? ⟨b1, o1 + k * 4 + 3, none⟩ = some (.slice ay y.items.length cy)) (go_keep)
            (first | (go_at_call 45; (with_reducible refine Calls.mono (Hcall.out _ ?_) ?_); (first | exact hbw | exact hbw.drew); rintro e w1 ⟨rfl, hg1⟩; have hz : Below wr.heap.size wr w1 := (Below.refl _ _).drew.trans hg1; have hbw1 : Below w0.heap.size w0 w1 := hbw.trans (hz.mono hbw.size); have c0 := cell_keeps hz c0; have c1 := cell_keeps hz c1; have y0 := cell_keeps hz y0; have y1 := cell_keeps hz y1; have y2 := cell_keeps hz y2; have y3 := cell_keeps hz y3; have p0 := cell_keeps hz p0; have p1 := cell_keeps hz p1; have p2 := cell_keeps hz p2; have p3 := cell_keeps hz p3; clear hz hg1 Hcall))
          clear hbw c0 c1 y0 y1 y2 y3 p0 p1 p2 p3
          go_wp2_with fail
          go_roundg (L.length - (k + 1))
          case measure => have := Hk.out; omega
          case rel => exact ⟨k + 1, by go_num, by omega, by omega, Hy, hbw1⟩
        · have Hn : Hid _ := Hno.out hZ
          clear Hyes Hno
          go_wp2_with fail
          go_region_held3 (fun w' => w'.cell? ⟨b, 0, none⟩ = some (.int .i64 (q : Int)) ∧ w'.cell? ⟨b, 1, none⟩ = some (.slice (some ⟨b1, o1, none⟩) L.length cL) ∧ w'.cell? ⟨w.heap.size, 0, none⟩ = some (.int .i64 x.kind) ∧ w'.cell? ⟨w.heap.size, 1, none⟩ = some (.int .i64 x.num) ∧ w'.cell? ⟨w.heap.size, 2, none⟩ = some (.string x.text) ∧ w'.cell? ⟨w.heap.size, 3, none⟩ = some (.slice ax x.items.length cx) ∧ w'.cell? ⟨b1, o1 + k * 4, none⟩ = some (.int .i64 y.kind) ∧ w'.cell? ⟨b1, o1 + k * 4 + 1, none⟩ = some (.int .i64 y.num) ∧ w'.cell? ⟨b1, o1 + k * 4 + 2, none⟩ = some (.string y.text) ∧ w'.cell? ⟨b1, o1 + k * 4 + 3, none⟩ = some (.slice ay y.items.length cy)) (go_keep)
            (first | (go_at_call 45; (with_reducible refine Calls.mono (Hcall.out _ ?_) ?_); (first | exact hbw | exact hbw.drew); rintro e w1 ⟨rfl, hg1⟩; have hz : Below wr.heap.size wr w1 := (Below.refl _ _).drew.trans hg1; have hbw1 : Below w0.heap.size w0 w1 := hbw.trans (hz.mono hbw.size); have c0 := cell_keeps hz c0; have c1 := cell_keeps hz c1; have y0 := cell_keeps hz y0; have y1 := cell_keeps hz y1; have y2 := cell_keeps hz y2; have y3 := cell_keeps hz y3; have p0 := cell_keeps hz p0; have p1 := cell_keeps hz p1; have p2 := cell_keeps hz p2; have p3 := cell_keeps hz p3; clear hz hg1 Hcall))
          clear c0 c1 y0 y1 y2 y3 p0 p1 p2 p3
          go_wp2_with fail
          go_meet
          case rel => exact ⟨k, rfl, ⟨by omega, Hn.out⟩, hbw1⟩
      · have hki : ¬ (k : Int) < (L.length : Nat) := by omega
        have HE : Hid (L.take k ++ ([x] ++ L.drop k) = R) := HF.out k HD.out (fun h => by omega)
        go_wp2_with fail
        go_quiet (fail)
        go_wp2_with fail
        go_meet
        case rel => exact ⟨k, rfl, ⟨hk2, HE.out⟩, hbw.trans ((below_drew19 wr nq).mono hbw.size)⟩
  case rest =>
    obtain ⟨k, rfl, HK, HBk⟩ := hcut
    have hk2 := HK.out.1
    have hcf : (L.length = 0 ∧ aL = none) ∨ (L.length = 0 ∧ ∃ ad, aL = some ad) ∨ (0 < L.length ∧ ∃ b1 o1, aL = some ⟨b1, o1, none⟩) := by
      by_cases hL : L.length = 0
      · cases aL with
        | none => exact .inl ⟨hL, rfl⟩
        | some ad => exact .inr (.inl ⟨hL, ad, rfl⟩)
      · obtain ⟨b1, o1, c1', e1, _⟩ := HS.out.some (by intro e; have := HP.out.2; rw [e] at this; simp at this; omega)
        injection e1 with e1
        exact .inr (.inr ⟨by omega, b1, o1, e1⟩)
    have HCf : Hid _ := hcf
    clear hcf
    have c0 := cell_keeps HBk.out HC.out.1
    obtain ⟨W1, hW1⟩ : ∃ W1, W1 = wc.alloc (.cells #[.int .i64 (q : Int), .slice none 0 0] 47) := ⟨_, rfl⟩
    obtain ⟨B, hBe⟩ : ∃ B, B = wc.heap.size := ⟨_, rfl⟩
    have HP1 : Hid (PS w0 W1 q B (.slice none 0 0) 0 []) := by rw [hW1, hBe]; exact PS.start HBk.out q _
    have HW1 : Hid (W1 = _ ∧ B = _) := ⟨hW1, hBe⟩
    clear hW1 hBe
    go_upto_region 5 with fail
    rw [← HW1.out.1, ← HW1.out.2]
    clear HW1 c0
    go_cut [] from 38 to 51 (fun wx => ∃ a5 c5, Hid (PS w0 wx q B (.slice a5 k c5) k (ps.take k)))
    case first =>
      have hb1 := HP1.out.below; have o0 := HP1.out.ord; have o1' := HP1.out.lst; have f1 := HP1.out.fr
      have c1 := cell_keeps hb1 HC.out.2
      have hBW : B < W1.heap.size := cell_lt o1'
      have hpl : ps.length = L.length := HP.out.2
      have Hpl : Hid (ps.length = L.length) := hpl
      clear hpl
      rcases HCf.out with ⟨hL0, rfl⟩ | ⟨hL0, ad, rfl⟩ | ⟨hL0, b1, o1, rfl⟩
      · obtain rfl : k = 0 := by omega
        have HS1 : Hid (∀ V, Below w0.heap.size w0 V → Src19 V none 0 []) := fun V _ => src_none19 V none
        rw [hL0] at c1
        clear hL0
        go_region_law (first | (refine step_append19 rfl _ _ rfl (base := B + 1) (n := 0) (v := .slice none 0 0) (xs := []) rfl (World.ownsRow_nil _ _ _ _) rfl (HS1.out _ (by first | exact hb1 | exact hb1.drew)) (by omega) (by first | exact hBW | exact Nat.succ_le_of_lt hBW) ?_; intro a5 c5 w5 hown5 hg5; have hfar : Below w0.heap.size w0 w5 ∧ w5.cell? ⟨B, 0, none⟩ = some (.int .i64 (q : Int)) ∧ w5.cell? ⟨B, 1, none⟩ = some (.slice none 0 0) ∧ w5.frozen? ⟨B, 1, none⟩ = false := (by first | exact HP1.out.far hg5 | exact HP1.out.drew.far hg5); obtain ⟨hb5, e0, e1, e2⟩ := hfar))
        all_goals have HP5 : Hid (PS w0 (w5.setCell ⟨B, 1, none⟩ (.slice a5 0 c5)) q B (.slice a5 0 c5) 0 (ps.take 0)) := (by have h9 := HP1.out.drew.step (m := 0) (qs := ps.take 0) hg5 (by simpa using hown5) (by rw [List.length_take]; omega); rwa [Nat.zero_add] at h9)
        all_goals clear hown5 hg5 hb5 e0 e1 e2
        all_goals go_wp2_with fail
        all_goals go_meet
        all_goals exact ⟨a5, c5, HP5⟩
      · obtain rfl : k = 0 := by omega
        have HS1 : Hid (∀ V, Below w0.heap.size w0 V → Src19 V (some ad) 0 []) := fun V _ => src_none19 V (some ad)
        rw [hL0] at c1
        clear hL0
        go_region_law (first | (refine step_append19 rfl _ _ rfl (base := B + 1) (n := 0) (v := .slice none 0 0) (xs := []) rfl (World.ownsRow_nil _ _ _ _) rfl (HS1.out _ (by first | exact hb1 | exact hb1.drew)) (by omega) (by first | exact hBW | exact Nat.succ_le_of_lt hBW) ?_; intro a5 c5 w5 hown5 hg5; have hfar : Below w0.heap.size w0 w5 ∧ w5.cell? ⟨B, 0, none⟩ = some (.int .i64 (q : Int)) ∧ w5.cell? ⟨B, 1, none⟩ = some (.slice none 0 0) ∧ w5.frozen? ⟨B, 1, none⟩ = false := (by first | exact HP1.out.far hg5 | exact HP1.out.drew.far hg5); obtain ⟨hb5, e0, e1, e2⟩ := hfar))
        all_goals have HP5 : Hid (PS w0 (w5.setCell ⟨B, 1, none⟩ (.slice a5 0 c5)) q B (.slice a5 0 c5) 0 (ps.take 0)) := (by have h9 := HP1.out.drew.step (m := 0) (qs := ps.take 0) hg5 (by simpa using hown5) (by rw [List.length_take]; omega); rwa [Nat.zero_add] at h9)
        all_goals clear hown5 hg5 hb5 e0 e1 e2
        all_goals go_wp2_with fail
        all_goals go_meet
        all_goals exact ⟨a5, c5, HP5⟩
      · have HS1 : Hid (∀ V, Below w0.heap.size w0 V → Src19 V (some ⟨b1, o1, none⟩) k ((ps.take k).flatMap encP)) := fun V hV => (SlP.src19 (HS.out.taken k (by rw [HP.out.2]; omega))).keeps hV
        have hkc : k ≤ cL := by omega
        have hpk : k ≤ ps.length := by rw [HP.out.2]; omega
        go_region_law (first | (refine step_append19 rfl _ _ rfl (base := B + 1) (n := 0) (v := .slice none 0 0) (xs := []) rfl (World.ownsRow_nil _ _ _ _) rfl (HS1.out _ (by first | exact hb1 | exact hb1.drew)) (by omega) (by first | exact hBW | exact Nat.succ_le_of_lt hBW) ?_; intro a5 c5 w5 hown5 hg5; have hfar : Below w0.heap.size w0 w5 ∧ w5.cell? ⟨B, 0, none⟩ = some (.int .i64 (q : Int)) ∧ w5.cell? ⟨B, 1, none⟩ = some (.slice none 0 0) ∧ w5.frozen? ⟨B, 1, none⟩ = false := (by first | exact HP1.out.far hg5 | exact HP1.out.drew.far hg5); obtain ⟨hb5, e0, e1, e2⟩ := hfar))
        all_goals have HP5 : Hid (PS w0 (w5.setCell ⟨B, 1, none⟩ (.slice a5 k c5)) q B (.slice a5 k c5) k (ps.take k)) := (by have h9 := HP1.out.drew.step (m := k) (qs := ps.take k) hg5 hown5 (by rw [List.length_take]; omega); rwa [Nat.zero_add] at h9)
        all_goals clear hown5 hg5 hb5 e0 e1 e2
        all_goals go_wp2_with fail
        all_goals go_meet
        all_goals exact ⟨a5, c5, HP5⟩
    case rest =>
      obtain ⟨a5, c5, HP5⟩ := hcut
      clear HP1
      go_upto_region 6 with fail
      go_cut [] from 52 to 62 (fun wx => ∃ g cap, Hid (PS w0 wx q B (.slice (some ⟨g, 0, none⟩) (k + 1) cap) (k + 1) (ps.take k ++ [(x, Value.slice ax x.items.length cx)])))
      case first =>
        generalize wc = W6 at *
        have hb6 := HP5.out.below; have o0 := HP5.out.ord; have o1' := HP5.out.lst; have f1 := HP5.out.fr
        have hBW : B < W6.heap.size := cell_lt o1'
        have hB0 := HP5.out.hB
        have hX0 : w.heap.size < w0.heap.size := cell_lt HBx.out.c0
        obtain ⟨y0, y1, y2, y3⟩ := HBx.out.keeps hb6
        have z0 : ∀ A, (W6.alloc A).cell? ⟨w.heap.size, 0, none⟩ = some (.int .i64 x.kind) := fun A => cell_keeps ((Grew.refl W6).alloc A).below y0
        have z1 : ∀ A, (W6.alloc A).cell? ⟨w.heap.size, 1, none⟩ = some (.int .i64 x.num) := fun A => cell_keeps ((Grew.refl W6).alloc A).below y1
        have z2 : ∀ A, (W6.alloc A).cell? ⟨w.heap.size, 2, none⟩ = some (.string x.text) := fun A => cell_keeps ((Grew.refl W6).alloc A).below y2
        have z3 : ∀ A, (W6.alloc A).cell? ⟨w.heap.size, 3, none⟩ = some (.slice ax x.items.length cx) := fun A => cell_keeps ((Grew.refl W6).alloc A).below y3
        have hlen5 : Hid (((ps.take k).flatMap encP).length = k * 4) := (by show _ = _; rw [flat_len, List.length_take, HP.out.2]; omega)
        have hkk : (k : Int) < (k : Int) + 1 := (by omega)
        go_wp2_with fail
        go_region_law (first | (refine step_append_lies _ rfl _ _ 22 rfl (B + 1) 37 i0 (.agg #[.int .i64 0, .int .i64 0, .string ⟨#[]⟩, .slice none 0 0]) 4 56 Tryz.underlying22 Hi.out Hz0.out Hz1.out Hz2.out rfl (by decide) (.slice a5 k c5) k ((ps.take k).flatMap encP) rfl (by first | exact HP5.out.own.alloc _ | exact (HP5.out.own.alloc _).drew | exact HP5.out.own.drew.alloc _) ⟨W6.heap.size, 0, none⟩ 1 1 [.int .i64 0, .int .i64 0, .string ⟨#[]⟩, .slice none 0 0] rfl rfl (fun q u hq => by match q, hq with | 0, hq => (simp at hq; subst hq; simp [Addr.add]) | 1, hq => (simp at hq; subst hq; simp [Addr.add]) | 2, hq => (simp at hq; subst hq; simp [Addr.add]) | 3, hq => (simp at hq; subst hq; simp [Addr.add]) | q + 4, hq => simp at hq) (fun u hu => by simp at hu; rcases hu with rfl | rfl | rfl | rfl <;> rfl) (by decide) (by unfold maxLen; omega) (by omega) (by simp; omega) _ rfl ?_; intro g cap w7 hown7 hg7 hat7 hlt7; have hfar : Below w0.heap.size w0 w7 ∧ w7.cell? ⟨B, 0, none⟩ = some (.int .i64 (q : Int)) ∧ w7.cell? ⟨B, 1, none⟩ = some (.slice a5 k c5) ∧ w7.frozen? ⟨B, 1, none⟩ = false := (by first | exact (HP5.out.alloc _).far hg7 | exact (HP5.out.alloc _).drew.far hg7 | exact (HP5.out.drew.alloc _).far hg7); obtain ⟨hb7, _, e1, e2⟩ := hfar; obtain ⟨y0, y1, y2, y3⟩ := HBx.out.keeps hb7; have hgB : B + 1 ≤ g := (hown7.lt g rfl).1; have n1 : ¬ g = B := (by omega); have n2 : ¬ B = g := (by omega); have n3 : ¬ g = w.heap.size := (by omega); have n4 : ¬ w.heap.size = g := (by omega); have n5 : ¬ B = w.heap.size := (by omega); have n6 : ¬ w.heap.size = B := (by omega); have r0 : w7.cell? ⟨g, k * 4, none⟩ = some (.int .i64 0) := (by rw [hown7.cellAt _ (by omega), List.getElem?_append_right (by rw [hlen5.out]; omega), hlen5.out]; first | rfl | simp); have q0 : w7.frozen? ⟨g, k * 4, none⟩ = false := hown7.frozenAt _; have r1 : w7.cell? ⟨g, k * 4 + 1, none⟩ = some (.int .i64 0) := (by rw [hown7.cellAt _ (by omega), List.getElem?_append_right (by rw [hlen5.out]; omega), hlen5.out]; first | rfl | simp); have q1 : w7.frozen? ⟨g, k * 4 + 1, none⟩ = false := hown7.frozenAt _; have r2 : w7.cell? ⟨g, k * 4 + 2, none⟩ = some (.string ⟨#[]⟩) := (by rw [hown7.cellAt _ (by omega), List.getElem?_append_right (by rw [hlen5.out]; omega), hlen5.out]; first | rfl | simp); have q2 : w7.frozen? ⟨g, k * 4 + 2, none⟩ = false := hown7.frozenAt _; have r3 : w7.cell? ⟨g, k * 4 + 3, none⟩ = some (.slice none 0 0) := (by rw [hown7.cellAt _ (by omega), List.getElem?_append_right (by rw [hlen5.out]; omega), hlen5.out]; first | rfl | simp); have q3 : w7.frozen? ⟨g, k * 4 + 3, none⟩ = false := hown7.frozenAt _; clear z0 z1 z2 z3))
        all_goals have HPa : Hid _ := (by first | exact (HP5.out.alloc _).put (p := (x, Value.slice ax x.items.length cx)) hg7 hown7 | exact (HP5.out.alloc _).drew.put (p := (x, Value.slice ax x.items.length cx)) hg7 hown7)
        all_goals have HPb : Hid _ := (by first | exact (HP5.out.alloc _).put2 (p := (x, Value.slice ax x.items.length cx)) hg7 hown7 | exact (HP5.out.alloc _).drew.put2 (p := (x, Value.slice ax x.items.length cx)) hg7 hown7)
        all_goals clear hown7 hg7 hat7 hlt7 hb7 e1 e2 y0 y1 y2 y3
        all_goals go_wp2_with fail
        all_goals go_meet
        all_goals first | exact ⟨g, cap, HPa.out⟩ | exact ⟨g, cap, HPb.out⟩
      case rest =>
        obtain ⟨g, cap, HP7⟩ := hcut
        clear HP5
        have hb7 := HP7.out.below; have o0 := HP7.out.ord; have o1' := HP7.out.lst; have f1 := HP7.out.fr
        have c1 := cell_keeps hb7 HC.out.2
        have hBW : B < wc.heap.size := cell_lt o1'
        rcases HCf.out with ⟨hL0, rfl⟩ | ⟨hL0, ad, rfl⟩ | ⟨hL0, b1, o1, rfl⟩
        · obtain rfl : k = 0 := by omega
          have hps : ps = [] := List.eq_nil_of_length_eq_zero (by rw [HP.out.2]; exact hL0)
          have HS2 : Hid (∀ V, Below w0.heap.size w0 V → Src19 V none 0 ((ps.drop 0).flatMap encP)) := fun V _ => by rw [hps]; exact src_none19 V none
          rw [hL0] at c1
          have HL0 : Hid (L.length = 0) := hL0
          clear hL0 hps
          go_wp2_with fail
          go_region_law (first | (refine step_append19 rfl _ _ rfl (base := B + 1) (n := 0 + 1) (v := .slice (some ⟨g, 0, none⟩) (0 + 1) cap) (xs := (ps.take 0 ++ [(x, Value.slice ax x.items.length cx)]).flatMap encP) rfl (by first | exact HP7.out.own | exact HP7.out.own.drew) rfl (HS2.out _ (by first | exact hb7 | exact hb7.drew)) (by omega) (by first | exact hBW | exact Nat.succ_le_of_lt hBW) ?_; intro a8 c8 w8 hown8 hg8; have hfar : Below w0.heap.size w0 w8 ∧ w8.cell? ⟨B, 0, none⟩ = some (.int .i64 (q : Int)) ∧ w8.cell? ⟨B, 1, none⟩ = some (.slice (some ⟨g, 0, none⟩) (0 + 1) cap) ∧ w8.frozen? ⟨B, 1, none⟩ = false := (by first | exact HP7.out.far hg8 | exact HP7.out.drew.far hg8); obtain ⟨hb8, e0, e1, e2⟩ := hfar))
          all_goals have HE : Hid _ := put_fin HB0.out HX.out HIt.out HP.out HU.out HK.out HUp.out (HP7.out.drew.step (m := 0) (qs := ps.drop 0) hg8 hown8 (by rw [List.length_drop, HP.out.2, HL0.out]))
          all_goals clear hown8 hg8 hb8 e0 e1 e2
          all_goals go_wp2_with fail
          all_goals go_ret
          all_goals exact HE.out
        · obtain rfl : k = 0 := by omega
          have hps : ps = [] := List.eq_nil_of_length_eq_zero (by rw [HP.out.2]; exact hL0)
          rw [hL0] at c1
          have HL0 : Hid (L.length = 0) := hL0
          by_cases hc0 : cL = 0
          · subst hc0
            have HS2 : Hid (∀ V, Below w0.heap.size w0 V → Src19 V (some ad) 0 ((ps.drop 0).flatMap encP)) := fun V _ => by rw [hps]; exact src_none19 V (some ad)
            clear hL0 hps
            go_wp2_with fail
            go_region_law (first | (refine step_append19 rfl _ _ rfl (base := B + 1) (n := 0 + 1) (v := .slice (some ⟨g, 0, none⟩) (0 + 1) cap) (xs := (ps.take 0 ++ [(x, Value.slice ax x.items.length cx)]).flatMap encP) rfl (by first | exact HP7.out.own | exact HP7.out.own.drew) rfl (HS2.out _ (by first | exact hb7 | exact hb7.drew)) (by omega) (by first | exact hBW | exact Nat.succ_le_of_lt hBW) ?_; intro a8 c8 w8 hown8 hg8; have hfar : Below w0.heap.size w0 w8 ∧ w8.cell? ⟨B, 0, none⟩ = some (.int .i64 (q : Int)) ∧ w8.cell? ⟨B, 1, none⟩ = some (.slice (some ⟨g, 0, none⟩) (0 + 1) cap) ∧ w8.frozen? ⟨B, 1, none⟩ = false := (by first | exact HP7.out.far hg8 | exact HP7.out.drew.far hg8); obtain ⟨hb8, e0, e1, e2⟩ := hfar))
            all_goals have HE : Hid _ := put_fin HB0.out HX.out HIt.out HP.out HU.out HK.out HUp.out (HP7.out.drew.step (m := 0) (qs := ps.drop 0) hg8 hown8 (by rw [List.length_drop, HP.out.2, HL0.out]))
            all_goals clear hown8 hg8 hb8 e0 e1 e2
            all_goals go_wp2_with fail
            all_goals go_ret
            all_goals exact HE.out
          · have HS2 : Hid (∀ V, Below w0.heap.size w0 V → Src19 V (some (ad.add 0)) 0 ((ps.drop 0).flatMap encP)) := fun V _ => by rw [hps]; exact src_none19 V (some (ad.add 0))
            have hc0' : ¬ (cL : Int) = 0 := by omega
            clear hL0 hps
            go_wp2_with fail
            go_region_law (first | (refine step_append19 rfl _ _ rfl (base := B + 1) (n := 0 + 1) (v := .slice (some ⟨g, 0, none⟩) (0 + 1) cap) (xs := (ps.take 0 ++ [(x, Value.slice ax x.items.length cx)]).flatMap encP) rfl (by first | exact HP7.out.own | exact HP7.out.own.drew) rfl (HS2.out _ (by first | exact hb7 | exact hb7.drew)) (by omega) (by first | exact hBW | exact Nat.succ_le_of_lt hBW) ?_; intro a8 c8 w8 hown8 hg8; have hfar : Below w0.heap.size w0 w8 ∧ w8.cell? ⟨B, 0, none⟩ = some (.int .i64 (q : Int)) ∧ w8.cell? ⟨B, 1, none⟩ = some (.slice (some ⟨g, 0, none⟩) (0 + 1) cap) ∧ w8.frozen? ⟨B, 1, none⟩ = false := (by first | exact HP7.out.far hg8 | exact HP7.out.drew.far hg8); obtain ⟨hb8, e0, e1, e2⟩ := hfar))
            all_goals have HE : Hid _ := put_fin HB0.out HX.out HIt.out HP.out HU.out HK.out HUp.out (HP7.out.drew.step (m := 0) (qs := ps.drop 0) hg8 hown8 (by rw [List.length_drop, HP.out.2, HL0.out]))
            all_goals clear hown8 hg8 hb8 e0 e1 e2
            all_goals go_wp2_with fail
            all_goals go_ret
            all_goals exact HE.out
        · have hkc : k ≤ cL := by omega
          by_cases hck : cL = k
          · have hkL : k = L.length := by omega
            have HS2 : Hid (∀ V, Below w0.heap.size w0 V → Src19 V (some ⟨b1, o1, none⟩) 0 ((ps.drop k).flatMap encP)) := fun V _ => by rw [List.drop_eq_nil_of_le (by rw [HP.out.2]; omega)]; exact src_none19 V _
            subst hck
            have HkL : Hid (cL = L.length) := hkL
            rw [← hkL] at c1
            clear hkL
            go_wp2_with fail
            go_region_law (first | (refine step_append19 rfl _ _ rfl (base := B + 1) (n := cL + 1) (v := .slice (some ⟨g, 0, none⟩) (cL + 1) cap) (xs := (ps.take cL ++ [(x, Value.slice ax x.items.length cx)]).flatMap encP) rfl (by first | exact HP7.out.own | exact HP7.out.own.drew) rfl (HS2.out _ (by first | exact hb7 | exact hb7.drew)) (by omega) (by first | exact hBW | exact Nat.succ_le_of_lt hBW) ?_; intro a8 c8 w8 hown8 hg8; have hfar : Below w0.heap.size w0 w8 ∧ w8.cell? ⟨B, 0, none⟩ = some (.int .i64 (q : Int)) ∧ w8.cell? ⟨B, 1, none⟩ = some (.slice (some ⟨g, 0, none⟩) (cL + 1) cap) ∧ w8.frozen? ⟨B, 1, none⟩ = false := (by first | exact HP7.out.far hg8 | exact HP7.out.drew.far hg8); obtain ⟨hb8, e0, e1, e2⟩ := hfar))
            all_goals have HE : Hid _ := put_fin HB0.out HX.out HIt.out HP.out HU.out HK.out HUp.out (HP7.out.drew.step (m := 0) (qs := ps.drop cL) hg8 hown8 (by rw [List.length_drop, HP.out.2, ← HkL.out, Nat.sub_self]))
            all_goals clear hown8 hg8 hb8 e0 e1 e2
            all_goals go_wp2_with fail
            all_goals go_ret
            all_goals exact HE.out
          · have hcn : ¬ ((cL : Nat) : Int) = (k : Nat) := by omega
            have HS2 : Hid (∀ V, Below w0.heap.size w0 V → Src19 V (some ⟨b1, o1 + k * 4, none⟩) (L.length - k) ((ps.drop k).flatMap encP)) := fun V hV => by have := (SlP.src19 (HS.out.dropped k)).keeps hV; rwa [HP.out.2] at this
            go_wp2_with fail
            go_region_law (first | (refine step_append19 rfl _ _ rfl (base := B + 1) (n := k + 1) (v := .slice (some ⟨g, 0, none⟩) (k + 1) cap) (xs := (ps.take k ++ [(x, Value.slice ax x.items.length cx)]).flatMap encP) rfl (by first | exact HP7.out.own | exact HP7.out.own.drew) rfl (HS2.out _ (by first | exact hb7 | exact hb7.drew)) (by omega) (by first | exact hBW | exact Nat.succ_le_of_lt hBW) ?_; intro a8 c8 w8 hown8 hg8; have hfar : Below w0.heap.size w0 w8 ∧ w8.cell? ⟨B, 0, none⟩ = some (.int .i64 (q : Int)) ∧ w8.cell? ⟨B, 1, none⟩ = some (.slice (some ⟨g, 0, none⟩) (k + 1) cap) ∧ w8.frozen? ⟨B, 1, none⟩ = false := (by first | exact HP7.out.far hg8 | exact HP7.out.drew.far hg8); obtain ⟨hb8, e0, e1, e2⟩ := hfar))
            all_goals have HE : Hid _ := put_fin HB0.out HX.out HIt.out HP.out HU.out HK.out HUp.out (HP7.out.drew.step (m := L.length - k) (qs := ps.drop k) hg8 hown8 (by rw [List.length_drop, HP.out.2]))
            all_goals clear hown8 hg8 hb8 e0 e1 e2
            all_goals go_wp2_with fail
            all_goals go_ret
            all_goals exact HE.out

end Go.Proofs.YtgmmocbgeilpiaaGreat

namespace Go.Proofs.YtgmmocbgeilpiaaGreat
open Go.RowKit

theorem rq_nil (w : World) (q T : Nat) (hq : q < 6) : RQ (w.alloc (.cells #[.int .i64 (q : Int), .slice none 0 0] T)) q [] w.heap.size :=
  ⟨by simp, ⟨.slice none 0 0, by simp, [], rfl, ⟨none, 0, rfl, by simp, by simp, fun h => absurd rfl h, fun p hp => by cases hp⟩, fun p hp => by cases hp⟩, hq, by simp, rfl⟩

/-- What the document's New and Of tell. -/
def ROfPost (d : Nat) (o : Int) (l : List VT) (w : World) (e : Ending) (w' : World) : Prop :=
  Below w.heap.size w w' ∧ ((lookE d o l ≠ 0 ∧ e = .returned (.tuple #[.pointer none, .int .i64 (lookE d o l)])) ∨ (lookE d o l = 0 ∧ ∃ b, e = .returned (.tuple #[.pointer (some ⟨b, 0, none⟩), .int .i64 0]) ∧ RQ w' o.toNat (srtV o.toNat l) b))

set_option maxRecDepth 100000 in
set_option maxHeartbeats 4000000 in
theorem rnew_no (o : Int) (w : World) (ho : o < 0 ∨ 6 ≤ o) : Calls Tryz.prog 11 #[.int .i64 o] w fun e w' => e = .returned (.tuple #[.pointer none, .int .i64 4]) ∧ Below w.heap.size w w' := by
  by_cases h1 : o < 0
  · go_enter Tryz.func11, Tryz.ntmps11
    go_wp2_with fail
    go_ret2
    exact ⟨rfl, Below.refl _ _⟩
  · have h2 : 5 < o := by omega
    go_enter Tryz.func11, Tryz.ntmps11
    go_wp2_with fail
    go_ret2
    exact ⟨rfl, Below.refl _ _⟩

set_option maxRecDepth 100000 in
set_option maxHeartbeats 4000000 in
theorem rnew_yes (q : Nat) (w : World) (hq : q < 6) : Calls Tryz.prog 11 #[.int .i64 (q : Int)] w fun e w' => ∃ b, e = .returned (.tuple #[.pointer (some ⟨b, 0, none⟩), .int .i64 0]) ∧ RQ w' q [] b ∧ Below w.heap.size w w' := by
  have HE : Hid (RQ (w.alloc (.cells #[.int .i64 (q : Int), .slice none 0 0] 47)) q [] w.heap.size) := rq_nil w q _ hq
  have h1 : ¬ (q : Int) < 0 := by omega
  have h2 : ¬ 5 < (q : Int) := by omega
  clear hq
  go_enter Tryz.func11, Tryz.ntmps11
  go_wp2_with fail
  go_ret2
  exact ⟨_, rfl, HE.out, ((Grew.refl w).alloc _).below⟩

theorem srt_step19 (q : Nat) {l : List VT} (hg : ∀ x ∈ l, Good 16 x) (j : Nat) (hj : j < l.length) : srtV q (srtV q (l.take j) ++ [l[j]]) = srtV q (l.take (j + 1)) := by
  rw [List.take_succ_eq_append_getElem hj]
  have h1 : (srtV q (l.take j) ++ [l[j]]).Perm (l.take j ++ [l[j]]) := (srt_perm _ _ _ : (srtV q (l.take j)).Perm (l.take j)).append_right _
  exact srtV_perm q h1 (fun x hx => hg x (by
    have := h1.mem_iff.1 hx
    rcases List.mem_append.1 this with h | h
    · exact List.mem_of_mem_take h
    · rw [List.mem_singleton.1 h]; exact List.getElem_mem hj))

set_option maxRecDepth 100000 in
set_option maxHeartbeats 8000000 in
theorem rof_any (d : Nat) (o : Int) (l : List VT) (u : Value) (w : World) (hu : Lies (d + 1) w l u) : Calls Tryz.prog 7 #[.int .i64 o, u] w (ROfPost d o l w) := by
  obtain ⟨a, c, rfl, _⟩ := Lies.slice hu
  have HU : Hid (Lies (d + 1) w l (.slice a l.length c)) := hu
  by_cases ho : o < 0 ∨ 6 ≤ o
  · have HE : Hid (∀ V, Below w.heap.size w V → ROfPost d o l w (.returned (.tuple #[.pointer none, .int .i64 4])) V) := fun V hV => by
      have e : lookE d o l = 4 := by unfold lookE; rw [if_pos ho]
      exact ⟨hV, .inl ⟨by rw [e]; decide, by rw [e]⟩⟩
    have HK : Hid _ := rnew_no o w ho
    clear hu HU ho
    go_enter Tryz.func7, Tryz.ntmps7
    go_wp2_with fail
    refine Calls.mono HK.out ?_
    rintro e w1 ⟨rfl, hb⟩
    have HF : Hid _ := HE.out w1 hb
    clear HK HE
    go_wp2_with fail
    go_ret2
    exact HF.out
  · obtain ⟨q, rfl⟩ : ∃ q : Nat, o = q := ⟨o.toNat, by omega⟩
    have hq : q < 6 := by omega
    have he : lookE d q l = listErr d l := by unfold lookE; rw [if_neg ho]
    have HN : Hid _ := rnew_yes q w hq
    have HQ : Hid (q < 6) := hq
    have HLs : Hid (∀ V, Below w.heap.size w V → Calls Tryz.prog 26 #[.slice a l.length c] V fun e w' => e = .returned (.int .i64 (listErr d l)) ∧ Below V.heap.size V w') := fun V hV => listed_any d l _ V (Lies.keeps hV _ _ _ HU.out)
    clear ho hq
    by_cases hr : listErr d l = 0
    · have hr1 : l.length ≤ 65536 ∧ l.all (rightV d) = true := by
        unfold listErr at hr
        split at hr
        · cases hr
        · split at hr
          · rename_i h1 h2; exact ⟨by omega, h2⟩
          · cases hr
      obtain ⟨hl17, hall⟩ := canonL19 hu hr1.2
      have hsl : SlI All w l (.slice a l.length c) := SlI.of_liesX (LiesX.mono (fun _ _ => trivial) (LiesX.of_lies hl17)) (fun x hx => List.all_eq_true.1 hall x hx)
      have HG : Hid (∀ x ∈ l, Good 16 x) := hsl.good
      obtain ⟨ps, hpl, hsp, hit⟩ := hsl
      have HP : Hid (ps.map (·.1) = l ∧ ps.length = l.length) := ⟨hpl, by rw [← hpl, List.length_map]⟩
      have HS : Hid (SlP 0 16 w ps (.slice a l.length c)) := hsp
      have HIt : Hid (∀ p ∈ ps, ItM All w p.1 p.2) := hit
      have HE : Hid (lookE d q l = 0) := by show _ = _; rw [he]; exact hr
      have hl6 := hr1.1
      rw [hr] at HLs
      clear hu HU he hr hr1 hl17 hall hpl hsp hit
      go_enter Tryz.func7, Tryz.ntmps7
      go_wp2_with fail
      refine Calls.mono HN.out ?_
      rintro e w1 ⟨b, rfl, hq0, hb1⟩
      have HQ0 : Hid (RQ w1 q [] b) := hq0
      clear HN hq0
      go_wp2_with fail
      refine Calls.mono (HLs.out _ hb1) ?_
      rintro e w2 ⟨rfl, hg2⟩
      have hb2 : Below w.heap.size w w2 := hb1.trans (hg2.mono hb1.size)
      have HQ2 : Hid (RQ w2 q (srtV q (l.take 0)) b) := HQ0.out.keeps hg2
      clear HLs hg2 hb1 HQ0
      go_wp2_with fail
      go_loopg [6, 0x18] l.length (fun z v6 i wr => ∃ (j B : Nat), v6 = .pointer (some ⟨B, 0, none⟩) ∧ i = .int .i64 (j : Int) ∧ j ≤ l.length ∧ z = l.length - j ∧ Hid (RQ wr q (srtV q (l.take j)) B) ∧ Below w.heap.size w wr)
      case atStart => exact ⟨0, b, rfl, rfl, by omega, by omega, HQ2, hb2⟩
      case round =>
        obtain ⟨j, B, rfl, rfl, hj, hk, HRq, hbw⟩ := hrel
        have Hk : Hid _ := hk
        clear hk HQ2 hb2
        by_cases hlt : j < l.length
        · have hjp : j < ps.length := by rw [HP.out.2]; exact hlt
          obtain ⟨b1, o1, c1, e1, _, hrow, _⟩ := HS.out.some (by intro e; rw [e] at hjp; simp at hjp)
          injection e1 with e1 e2 e3
          clear e2
          subst e1 e3
          obtain ⟨p0, p1, p2, p3⟩ := hrow j hjp
          have hit := HIt.out ps[j] (List.getElem_mem hjp)
          have hx : ps[j].1 = l[j] := by
            have : (ps.map (·.1))[j]'(by rw [List.length_map]; exact hjp) = ps[j].1 := List.getElem_map ..
            rw [← this]
            congr 1
            exact HP.out.1
          rw [hx] at p0 p1 p2 hit
          generalize ps[j].2 = xu at *
          have p0 := cell_keeps hbw p0; have p1 := cell_keeps hbw p1; have p2 := cell_keeps hbw p2; have p3 := cell_keeps hbw p3
          have hl1 : b1 < wr.heap.size := cell_lt p0
          obtain ⟨ax, cx, rfl, _⟩ := LiesX.slice hit.lies
          have hbA : Below wr.heap.size wr (wr.alloc (.cells #[.int .i64 l[j].kind, .int .i64 l[j].num, .string l[j].text, .slice ax l[j].items.length cx] 37)) := ((Grew.refl wr).alloc _).below
          have hlen : (srtV q (l.take j)).length < 65536 := by rw [srtV_len, List.length_take]; omega
          have hC := put_any (HRq.out.keeps hbA) ((hit.keeps hbw).keeps hbA) hlen
          rw [srt_step19 q HG.out j hlt] at hC
          have HC : Hid _ := hC
          have hbA' : Below w.heap.size w (wr.alloc (.cells #[.int .i64 l[j].kind, .int .i64 l[j].num, .string l[j].text, .slice ax l[j].items.length cx] 37)) := hbw.trans (hbA.mono hbw.size)
          have HBA : Hid _ := hbA'
          clear hrow hit hx hC hbA hbA' hlen HRq
          generalize l[j] = y at *
          go_wp2_with fail
          refine Calls.mono HC.out ?_
          rintro e w4 ⟨B4, rfl, hq4, hb4⟩
          have hb5 : Below w.heap.size w w4 := HBA.out.trans (hb4.mono HBA.out.size)
          have HQ4 : Hid (RQ w4 q (srtV q (l.take (j + 1))) B4) := hq4
          clear HC HBA hq4 hb4 p0 p1 p2 p3 hbw
          go_wp2_with fail
          go_roundg (l.length - (j + 1))
          case measure => have := Hk.out; omega
          case rel => exact ⟨j + 1, B4, rfl, by go_num, by omega, rfl, HQ4, hb5⟩
        · have hjl : j = l.length := by omega
          have HF : Hid (ROfPost d q l w (.returned (.tuple #[.pointer (some ⟨B, 0, none⟩), .int .i64 0])) wr) := by
            have h := HRq.out
            rw [hjl, List.take_length] at h
            exact ⟨hbw, .inr ⟨HE.out, B, rfl, h⟩⟩
          clear hjl HRq HS HIt
          go_wp2_with fail
          go_ret2
          exact HF.out
    · have HE : Hid (∀ V, Below w.heap.size w V → ROfPost d q l w (.returned (.tuple #[.pointer none, .int .i64 (listErr d l)])) V) := fun V hV => ⟨hV, .inl ⟨by rw [he]; exact hr, by rw [he]⟩⟩
      have h0' : (listErr d l == 0) = false := by simpa using hr
      have h1' : ¬ listErr d l = 0 := hr
      generalize listErr d l = E at *
      clear hu HU he hr
      go_enter Tryz.func7, Tryz.ntmps7
      go_wp2_with fail
      refine Calls.mono HN.out ?_
      rintro e w1 ⟨b, rfl, _, hb1⟩
      clear HN
      go_wp2_with fail
      refine Calls.mono (HLs.out _ hb1) ?_
      rintro e w2 ⟨rfl, hg2⟩
      have hb2 : Below w.heap.size w w2 := hb1.trans (hg2.mono hb1.size)
      have HF : Hid _ := HE.out w2 hb2
      clear HLs hg2 hb1 HE hb2
      go_wp2_with fail
      go_ret2
      exact HF.out

/-- What the document's Push tells. -/
def RPushPost (d q : Nat) (L : List VT) (x : VT) (w : World) (e : Ending) (w' : World) : Prop :=
  Below w.heap.size w w' ∧ ((rightV d x = false ∧ e = .returned (.tuple #[.pointer none, .int .i64 3])) ∨ (rightV d x = true ∧ 65536 ≤ L.length ∧ e = .returned (.tuple #[.pointer none, .int .i64 2])) ∨
    (rightV d x = true ∧ L.length < 65536 ∧ ∃ b, e = .returned (.tuple #[.pointer (some ⟨b, 0, none⟩), .int .i64 0]) ∧ RQ w' q (srtV q (L ++ [x])) b))

set_option maxRecDepth 100000 in
set_option maxHeartbeats 8000000 in
theorem rpush19_any (d : Nat) {q b : Nat} {L : List VT} (x : VT) (u : Value) {w : World} (h : RQ w q L b) (hu : Lies d w x.items u) :
    Calls Tryz.prog 15 #[.pointer (some ⟨b, 0, none⟩), .agg #[.int .i64 x.kind, .int .i64 x.num, .string x.text, u]] w (RPushPost d q L x w) := by
  obtain ⟨a, c, rfl, _⟩ := Lies.slice hu
  obtain ⟨w0, hw0⟩ : ∃ w0, w0 = w.alloc (.cells #[.int .i64 x.kind, .int .i64 x.num, .string x.text, .slice a x.items.length c] 37) := ⟨_, rfl⟩
  have hb0 : Below w.heap.size w w0 := by rw [hw0]; exact ((Grew.refl w).alloc _).below
  have HBx : Hid (Boxed w0 w.heap.size x.kind x.num x.text (.slice a x.items.length c)) := by rw [hw0]; exact boxed_alloc w _ _ _ _ _
  have HR : Hid (RQ w0 q L b) := h.keeps hb0
  have HU : Hid (Lies d w0 x.items (.slice a x.items.length c)) := Lies.keeps hb0 _ _ _ hu
  have HB0 : Hid (Below w.heap.size w w0) := hb0
  have Hrt : Hid _ := right_any d x _ w0 HU.out
  clear h hu hb0
  cases hr : rightV d x
  · rw [hr] at Hrt
    go_enter Tryz.func15, Tryz.ntmps15
    go_wp2_with fail
    rw [← hw0]
    clear hw0
    refine Calls.mono Hrt.out ?_
    rintro e w1 ⟨rfl, hb1⟩
    have HE : Hid (RPushPost d q L x w (.returned (.tuple #[.pointer none, .int .i64 3])) w1) := ⟨HB0.out.trans (hb1.mono HB0.out.size), .inl ⟨hr, rfl⟩⟩
    clear Hrt hb1
    go_wp2_with fail
    go_ret2
    exact HE.out
  · rw [hr] at Hrt
    obtain ⟨hl16, hr16⟩ := canon HU.out hr
    have HI : Hid (ItM All w0 x (.slice a x.items.length c)) := ⟨LiesX.mono (fun _ _ => trivial) (LiesX.of_lies hl16), hr16⟩
    have HRr : Hid (rightV d x = true) := hr
    clear hl16 hr16 hr
    go_enter Tryz.func15, Tryz.ntmps15
    go_wp2_with fail
    rw [← hw0]
    clear hw0
    refine Calls.mono Hrt.out ?_
    rintro e w1 ⟨rfl, hb1⟩
    have HR1 : Hid (RQ w1 q L b) := HR.out.keeps hb1
    have HI1 : Hid (ItM All w1 x (.slice a x.items.length c)) := HI.out.keeps hb1
    have HB1 : Hid (Below w.heap.size w w1) := HB0.out.trans (hb1.mono HB0.out.size)
    obtain ⟨y0, y1, y2, y3⟩ := HBx.out.keeps hb1
    obtain ⟨v, c1, hs⟩ := HR1.out.ex
    have hle := HR1.out.le
    obtain ⟨aL, cL, rfl, _⟩ := Lies.slice hs.lies
    clear Hrt hb1 HR HI HB0 hs
    by_cases hbig : L.length = 65536
    · have HE : Hid (RPushPost d q L x w (.returned (.tuple #[.pointer none, .int .i64 2])) w1) := ⟨HB1.out, .inr (.inl ⟨HRr.out, by omega, rfl⟩)⟩
      rw [hbig] at c1
      clear hbig hle
      go_wp2_with fail
      go_ret2
      exact HE.out
    · have hb2 : ¬ (L.length : Int) = 65536 := by omega
      have hlt : L.length < 65536 := by omega
      have HC : Hid _ := put_any HR1.out HI1.out hlt
      clear hbig
      go_wp2_with fail
      refine Calls.mono HC.out ?_
      rintro e w2 ⟨B, rfl, hq2, hg2⟩
      have HE : Hid (RPushPost d q L x w (.returned (.tuple #[.pointer (some ⟨B, 0, none⟩), .int .i64 0])) w2) := ⟨HB1.out.trans (hg2.mono HB1.out.size), .inr (.inr ⟨HRr.out, hlt, B, rfl, hq2⟩)⟩
      clear HC hq2 hg2
      go_wp2_with fail
      go_ret2
      exact HE.out

end Go.Proofs.YtgmmocbgeilpiaaGreat

