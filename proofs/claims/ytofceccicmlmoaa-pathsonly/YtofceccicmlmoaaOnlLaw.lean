/-
  PathsOnly: what stands at some paths alone.
-/
import Derived.Test.YtofceccicmlmoaaRAtM
import Derived.Test.YtofceccicmlmoaaRFaceN
import Derived.Test.YtofceccicmlmoaaOnlN
import Derived.Deep.RegionHeld3
import Derived.Deep.CutRange
import Derived.Test.YtofceccicmlmoaaBackLaw
import Derived.Test.YtofceccicmlmoaaLevel
namespace Go.Proofs.Ytofceccicmlmoaa
open Go.RowKit Go.Shelf

abbrev Sa26 (n1 b o : Nat) (y : VT) (yv pv : Value) (V W : World) : Prop := ((W.cell? ⟨n1, 0, none⟩ = some (.int .i64 y.kind) ∧ W.cell? ⟨n1, 1, none⟩ = some (.int .i64 y.num) ∧ W.cell? ⟨n1, 2, none⟩ = some (.string y.text) ∧ W.cell? ⟨n1, 3, none⟩ = some yv) ∧ W.cell? ⟨b, o, none⟩ = some pv) ∧ Below V.heap.size V W
abbrev Sb26 (n1 n2 b o : Nat) (y x : VT) (yv xv pv : Value) (V W : World) : Prop := ((W.cell? ⟨n1, 0, none⟩ = some (.int .i64 y.kind) ∧ W.cell? ⟨n1, 1, none⟩ = some (.int .i64 y.num) ∧ W.cell? ⟨n1, 2, none⟩ = some (.string y.text) ∧ W.cell? ⟨n1, 3, none⟩ = some yv) ∧ (W.cell? ⟨n2, 0, none⟩ = some (.int .i64 x.kind) ∧ W.cell? ⟨n2, 1, none⟩ = some (.int .i64 x.num) ∧ W.cell? ⟨n2, 2, none⟩ = some (.string x.text) ∧ W.cell? ⟨n2, 3, none⟩ = some xv) ∧ W.cell? ⟨b, o, none⟩ = some pv) ∧ Below V.heap.size V W

section
variable {n1 n2 b o : Nat} {y x : VT} {yv xv pv : Value} {V W : World}
theorem sa_below (h : Sa26 n1 b o y yv pv V W) : Below V.heap.size V W := h.2
theorem sa_keeps {W' : World} (h : Sa26 n1 b o y yv pv V W) (hb : Below W.heap.size W W') : Sa26 n1 b o y yv pv V W' := by
  obtain ⟨⟨⟨a0, a1, a2, a3⟩, b0⟩, hV⟩ := h
  exact ⟨⟨⟨cell_keeps hb a0, cell_keeps hb a1, cell_keeps hb a2, cell_keeps hb a3⟩, cell_keeps hb b0⟩, hV.trans (hb.mono hV.size)⟩
theorem sa_drew (h : Sa26 n1 b o y yv pv V W) : Sa26 n1 b o y yv pv V W.drew := sa_keeps h (Below.refl _ _).drew
theorem sa_alloc (ob : Obj) (h : Sa26 n1 b o y yv pv V W) : Sa26 n1 b o y yv pv V (W.alloc ob) := sa_keeps h ((Grew.refl _).alloc ob).below
theorem sa_allocD (ob : Obj) (h : Sa26 n1 b o y yv pv V W.drew) : Sa26 n1 b o y yv pv V (W.alloc ob).drew := sa_alloc ob h
theorem sa_set {zb : Nat} {v0 v1 v2 v3 : Value} (h1 : n1 < V.heap.size) (h2 : b < V.heap.size) (hz : V.heap.size ≤ zb) (h : Sa26 n1 b o y yv pv V W) : Sa26 n1 b o y yv pv V ((((W.setCell ⟨zb, 0, none⟩ v0).setCell ⟨zb, 1, none⟩ v1).setCell ⟨zb, 2, none⟩ v2).setCell ⟨zb, 3, none⟩ v3) := by
  obtain ⟨⟨⟨a0, a1, a2, a3⟩, b0⟩, hV⟩ := h
  have k1 : n1 ≠ zb := by omega
  have k2 : b ≠ zb := by omega
  exact ⟨⟨⟨set4_k26 k1 a0, set4_k26 k1 a1, set4_k26 k1 a2, set4_k26 k1 a3⟩, set4_k26 k2 b0⟩, (((hV.setCell (p := ⟨zb, 0, none⟩) hz _).setCell (p := ⟨zb, 1, none⟩) hz _).setCell (p := ⟨zb, 2, none⟩) hz _).setCell (p := ⟨zb, 3, none⟩) hz _⟩
theorem sb_below (h : Sb26 n1 n2 b o y x yv xv pv V W) : Below V.heap.size V W := h.2
theorem sb_keeps {W' : World} (h : Sb26 n1 n2 b o y x yv xv pv V W) (hb : Below W.heap.size W W') : Sb26 n1 n2 b o y x yv xv pv V W' := by
  obtain ⟨⟨⟨a0, a1, a2, a3⟩, ⟨c0, c1, c2, c3⟩, b0⟩, hV⟩ := h
  exact ⟨⟨⟨cell_keeps hb a0, cell_keeps hb a1, cell_keeps hb a2, cell_keeps hb a3⟩, ⟨cell_keeps hb c0, cell_keeps hb c1, cell_keeps hb c2, cell_keeps hb c3⟩, cell_keeps hb b0⟩, hV.trans (hb.mono hV.size)⟩
theorem sb_drew (h : Sb26 n1 n2 b o y x yv xv pv V W) : Sb26 n1 n2 b o y x yv xv pv V W.drew := sb_keeps h (Below.refl _ _).drew
theorem sb_alloc (ob : Obj) (h : Sb26 n1 n2 b o y x yv xv pv V W) : Sb26 n1 n2 b o y x yv xv pv V (W.alloc ob) := sb_keeps h ((Grew.refl _).alloc ob).below
theorem sb_allocD (ob : Obj) (h : Sb26 n1 n2 b o y x yv xv pv V W.drew) : Sb26 n1 n2 b o y x yv xv pv V (W.alloc ob).drew := sb_alloc ob h
theorem sb_set {zb : Nat} {v0 v1 v2 v3 : Value} (h1 : n1 < V.heap.size) (h3 : n2 < V.heap.size) (h2 : b < V.heap.size) (hz : V.heap.size ≤ zb) (h : Sb26 n1 n2 b o y x yv xv pv V W) : Sb26 n1 n2 b o y x yv xv pv V ((((W.setCell ⟨zb, 0, none⟩ v0).setCell ⟨zb, 1, none⟩ v1).setCell ⟨zb, 2, none⟩ v2).setCell ⟨zb, 3, none⟩ v3) := by
  obtain ⟨⟨⟨a0, a1, a2, a3⟩, ⟨c0, c1, c2, c3⟩, b0⟩, hV⟩ := h
  have k1 : n1 ≠ zb := by omega
  have k2 : b ≠ zb := by omega
  have k3 : n2 ≠ zb := by omega
  exact ⟨⟨⟨set4_k26 k1 a0, set4_k26 k1 a1, set4_k26 k1 a2, set4_k26 k1 a3⟩, ⟨set4_k26 k3 c0, set4_k26 k3 c1, set4_k26 k3 c2, set4_k26 k3 c3⟩, set4_k26 k2 b0⟩, (((hV.setCell (p := ⟨zb, 0, none⟩) hz _).setCell (p := ⟨zb, 1, none⟩) hz _).setCell (p := ⟨zb, 2, none⟩) hz _).setCell (p := ⟨zb, 3, none⟩) hz _⟩
end

/-- Behind At. -/
structure Rx26 (X : Nat → Prop) (V : World) (t : VT) (p : List VT) (wx : World) (n : Nat) (x : VT) (xa : Option Addr) (xc : Nat) (b : Bool) : Prop where
  box : Bx wx n x (.slice xa x.items.length xc)
  lies : LiesX X 16 wx x.items (.slice xa x.items.length xc)
  size : x.text.size ≤ 9223372036854775807
  tell : (b = true ∧ atT t p = some x) ∨ (b = false ∧ atT t p = none ∧ x = zeroT)
  below : Below V.heap.size V wx
  new : V.heap.size ≤ n

/-- Behind done. -/
structure Rw26 (Y : Nat → Prop) (V : World) (r : VT) (wx : World) (n : Nat) (ra : Option Addr) (rc : Nat) : Prop where
  box : Bx wx n r (.slice ra r.items.length rc)
  lies : LiesX Y 16 wx r.items (.slice ra r.items.length rc)
  below : Below V.heap.size V wx
  new : V.heap.size ≤ n

/-- put, and done behind it. -/
theorem rput_done (Y : Nat → Prop) (out x : VT) (p : List VT) (oa xa : Option Addr) (oc xc : Nat) (pv : Value) (W : World) (hY : ∀ b, Y b → b < W.heap.size) (ho : LiesX Y 16 W out.items (.slice oa out.items.length oc)) (hr : rightV 16 out = true ∧ Dp 16 out) (hpl : LiesX Y 17 W p pv) (hp : ∀ s ∈ p, rightV 16 s = true ∧ Dp 16 s) (hl : p.length ≤ 16) (hx : LiesX Y 16 W x.items (.slice xa x.items.length xc)) (hxr : rightV 16 x = true ∧ Dp 16 x) (hxt : x.text.size ≤ 9223372036854775807) :
    Calls Try.prog 37 #[.agg #[.int .i64 out.kind, .int .i64 out.num, .string out.text, .slice oa out.items.length oc], pv, .agg #[.int .i64 x.kind, .int .i64 x.num, .string x.text, .slice xa x.items.length xc]] W fun e w' => ∃ (z : VT) (za : Option Addr) (zc : Nat) (b : Bool), e = .returned (.tuple #[.agg #[.int .i64 z.kind, .int .i64 z.num, .string z.text, .slice za z.items.length zc], .bool b]) ∧ Hid (∀ W2, Below w'.heap.size w' W2 → Calls Try.prog 32 #[.agg #[.int .i64 z.kind, .int .i64 z.num, .string z.text, .slice za z.items.length zc], .bool b] W2 (RVX (fun q => (Y q ∨ W.heap.size ≤ q) ∧ q < w'.heap.size) (stR out p x) (stE out p x) W2)) ∧ Below W.heap.size W w' := by
  refine Calls.mono (rput_all x hxt p (fun s hs => (hp s hs).1) hl Y out oa xa oc xc pv W hY ho hr.1 hpl hx) ?_
  rintro e w' ⟨z, za, zc, b, rfl, h1, h2, h3, h4⟩
  refine ⟨z, za, zc, b, rfl, fun W2 hW2 => ?_, h4⟩
  have hdn := rdone_any _ (16 + p.length) z b za zc W2 (fun q hq => by have := hq.2; have := hW2.size; omega) (h1.both.keeps hW2)
  rcases h3 with ⟨rfl, hz⟩ | ⟨rfl, hz, rfl⟩
  · have hdz : Dp (16 + p.length) z := Dp.of_lies _ w' z _ h1.lies
    have hck : chkE 16 out p = 0 := by
      unfold chkE pthE listErr
      rw [if_pos hr.1, if_neg (by omega), if_neg (by omega), if_pos (List.all_eq_true.2 (fun s hs => (hp s hs).1))]
    obtain ⟨k1, k2⟩ := put_same (d := 16) (D := 16 + p.length) (by omega) hck hxr.1 hr.1 hr.2 (fun s hs => (hp s hs).1) hxr.1 hxr.2 hz hdz (by omega)
    have e1 : putE 16 out p x = stE out p x := by unfold putE stE; rw [if_pos hck, if_pos hxr.1]; cases putT out p x <;> rfl
    have e2 : putR 16 out p x = stR out p x := by unfold putR stR; rw [e1]
    rw [k1, k2, e1, e2] at hdn
    exact hdn
  · have k1 : stE out p x = 260 := by unfold stE; rw [hz]
    have k2 : stR out p x = nilT := by unfold stR; rw [k1]; rfl
    have k4 : dneR (16 + p.length) zeroT false = zeroT := by unfold dneR; rw [if_neg (by simp)]
    rw [k4] at hdn
    rw [k1, k2]
    exact hdn

end Go.Proofs.Ytofceccicmlmoaa

namespace Go.Proofs.Ytofceccicmlmoaa
open Go.RowKit Go.Shelf

set_option maxRecDepth 100000 in
set_option maxHeartbeats 16000000 in
theorem rOnly_any (d : Nat) (t : VT) (ls : List (List VT)) (v lv : Value) (w : World) (hv : Lies d w t.items v) (hl : LL d w ls lv) :
    Calls Try.prog 22 #[.agg #[.int .i64 t.kind, .int .i64 t.num, .string t.text, v], lv] w (RVX (fun _ => True) (onlR d t ls) (onlE d t ls) w) := by
  obtain ⟨a, c, rfl, _⟩ := Lies.slice hv
  obtain ⟨la, lc, rfl, hlc⟩ := LL.slice hl
  have HT : Hid (Bx (op2 w t (.slice a t.items.length c)) w.heap.size t (.slice a t.items.length c)) := op2_fst _ _ _
  have HR : Hid (Bx (op2 w t (.slice a t.items.length c)) (w.heap.size + 1) zeroT (.slice none 0 0)) := op2_snd _ _ _
  have hb0 := op2_below w t (.slice a t.items.length c)
  obtain ⟨W0, hW0⟩ : ∃ W0, W0 = op2 w t (.slice a t.items.length c) := ⟨_, rfl⟩
  have HW0 : Hid (W0 = op2 w t (.slice a t.items.length c)) := hW0
  rw [← hW0] at HT HR hb0
  clear hW0
  unfold op2 at HW0
  have HRt : Hid (Calls Try.prog 27 #[.agg #[.int .i64 t.kind, .int .i64 t.num, .string t.text, .slice a t.items.length c]] W0 fun e w' => e = .returned (.bool (rightV d t)) ∧ Below W0.heap.size W0 w') := right_any d t _ W0 (Lies.keeps hb0 _ _ _ hv)
  have HL : Hid (LL d w ls (.slice la ls.length lc)) := hl
  obtain ⟨t0, t1, t2, t3, _, _, _, _⟩ := HT.out
  by_cases hrt : rightV d t = true
  · rw [hrt] at HRt
    by_cases hlong : 65536 < ls.length
    · have hli : (65536 : Int) < (ls.length : Int) := by omega
      have e0 : lstsE d ls = 2 := by unfold lstsE; rw [if_pos hlong]
      have e1 : onlE d t ls = 2 := by unfold onlE; rw [if_pos hrt, e0]; rfl
      have e2 : onlR d t ls = zeroT := by unfold onlR; rw [e1]; rfl
      rw [e1, e2]
      have HE : Hid (∀ W, Below w.heap.size w W → RVX (fun _ => True) zeroT 2 w (.returned (.tuple #[.agg #[.int .i64 0, .int .i64 0, .string ⟨#[]⟩, .slice none 0 0], .int .i64 2])) W) := fun W hW => rvPost_zero hW
      generalize RVX (fun _ => True) zeroT 2 w = PP at *
      clear e0 e1 e2 hrt hlong hv hl HL
      generalize ls.length = L at *
      go_enter Try.func22, Try.ntmps22
      go_upto_region 1 with fail
      rw [← HW0.out]
      clear HW0
      go_wp2_with fail
      refine Calls.mono HRt.out ?_
      rintro e w1 ⟨rfl, hg1⟩
      have hb2 : Below w.heap.size w w1 := hb0.trans (hg1.mono hb0.size)
      have HR1 : Hid (Bx w1 (w.heap.size + 1) zeroT (.slice none 0 0)) := HR.out.keeps hg1
      have HT1 : Hid (Bx w1 w.heap.size t (.slice a t.items.length c)) := HT.out.keeps hg1
      clear hg1 hb0 HR HT HRt t0 t1 t2 t3
      have HE1 : Hid (PP (.returned (.tuple #[.agg #[.int .i64 0, .int .i64 0, .string ⟨#[]⟩, .slice none 0 0], .int .i64 2])) (w1.setCells (w.heap.size + 1) 0 (encP (zeroT, .slice none 0 0)))) := HE.out _ (below_put hb2 (by omega) _)
      have Hq : Hid (Bx (w1.setCells (w.heap.size + 1) 0 (encP (zeroT, .slice none 0 0))) (w.heap.size + 1) zeroT (.slice none 0 0)) := HR1.out.put (zeroT, .slice none 0 0)
      obtain ⟨z0, z1, z2, z3, g0, g1, g2, g3⟩ := HR1.out
      go_wp2_with fail
      refine bodyPost_ret (v := .tuple #[.agg #[.int .i64 0, .int .i64 0, .string ⟨#[]⟩, .slice none 0 0], .int .i64 2]) ?_ rfl HE1.out
      obtain ⟨q0, q1, q2, q3, _, _, _, _⟩ := Hq.out
      simp only [World.setCells, encP, Nat.zero_add, Nat.reduceAdd] at q0 q1 q2 q3
      simp [results, Try.results22, go_sem, q0, q1, q2, q3]
    · have hli : ¬ (65536 : Int) < (ls.length : Int) := by omega
      have hc := canon hv hrt
      have hd := Dp.of_lies 16 w t _ hc.1
      have e0 : lstsE d ls = fstE d ls := by unfold lstsE; rw [if_neg hlong]
      have HErr : Hid (¬ fstE d ls = 0 → onlE d t ls = fstE d ls ∧ onlR d t ls = zeroT) := fun h => by
        have k1 : onlE d t ls = fstE d ls := by unfold onlE; rw [if_pos hrt, e0, if_neg h]
        exact ⟨k1, by unfold onlR; rw [k1, if_neg h]; rfl⟩
      have HF : Hid (fstE d ls = 0 → ∀ out E, onlS t six26 ls = (out, E) → onlE d t ls = E ∧ onlR d t ls = if E = 0 then out else zeroT) := fun hf out E h => by
        have k1 : onlE d t ls = E := by unfold onlE; rw [if_pos hrt, e0, if_pos hf, h]
        refine ⟨k1, ?_⟩
        unfold onlR
        rw [k1, h]
        rfl
      have HTx : Hid (LiesX (fun b => b < w.heap.size) 16 w t.items (.slice a t.items.length c) ∧ rightV 16 t = true ∧ Dp 16 t) := ⟨LiesX.of_lies hc.1, hc.2, hd⟩
      have Hts : Hid (t.text.size ≤ 9223372036854775807) := by have := right_size hc.2; show _ ≤ _; omega
      have HPth : Hid (fstE d ls = 0 → ∀ i (h : i < ls.length) (u : Value), Lies (d + 1) w ls[i] u → Lies 17 w ls[i] u ∧ (∀ x ∈ ls[i], rightV 16 x = true ∧ Dp 16 x) ∧ ls[i].length ≤ 16) := fun hfe i h u hu => by
        have hp := fstE_zero hfe ls[i] (List.getElem_mem h)
        have hck : chkE d t ls[i] = 0 := by unfold chkE; rw [if_pos hrt]; exact hp
        obtain ⟨_, k2, k3⟩ := chk_zero hck
        obtain ⟨k4, k5⟩ := canonL26 hu k3
        exact ⟨k4, k5, k2⟩
      obtain ⟨la', lc', hlv, _, hrow⟩ := hl
      injection hlv with e1 e2 e3
      clear e2
      subst e1
      subst e3
      have Hrow : Hid _ := hrow
      clear hv hrow hc hd hrt e0 hlong
      generalize onlR d t ls = RR at *
      generalize onlE d t ls = EE at *
      obtain ⟨PP, hPP⟩ : ∃ PP, RVX (fun _ => True) RR EE w = PP := ⟨_, rfl⟩
      rw [hPP]
      have HPP : Hid (RVX (fun _ => True) RR EE w = PP) := hPP
      clear hPP
      go_enter Try.func22, Try.ntmps22
      go_upto_region 1 with fail
      rw [← HW0.out]
      clear HW0
      go_wp2_with fail
      refine Calls.mono HRt.out ?_
      rintro e w1 ⟨rfl, hg1⟩
      have hb2 : Below w.heap.size w w1 := hb0.trans (hg1.mono hb0.size)
      have HR1 : Hid (Bx w1 (w.heap.size + 1) zeroT (.slice none 0 0)) := HR.out.keeps hg1
      have HT1 : Hid (Bx w1 w.heap.size t (.slice a t.items.length c)) := HT.out.keeps hg1
      clear hg1 hb0 HR HT HRt t0 t1 t2 t3
      go_wp2_with fail
      go_loopg [6] ls.length (fun g i wr => ∃ j : Nat, i = .int .i64 (j : Int) ∧ j ≤ ls.length ∧ g = ls.length - j ∧ Hid (fstE d ls = fstE d (ls.drop j)) ∧ Hid (Bx wr (w.heap.size + 1) zeroT (.slice none 0 0)) ∧ Hid (Bx wr w.heap.size t (.slice a t.items.length c)) ∧ Below w.heap.size w wr)
      case atStart => exact ⟨0, rfl, by omega, by omega, rfl, HR1, HT1, hb2⟩
      case round =>
        obtain ⟨j, rfl, hj, hk, Hc, HRr, HTr, hbw⟩ := hrel
        have Hk : Hid _ := hk
        clear hk HR1 HT1 hb2
        by_cases hlt : j < ls.length
        · obtain ⟨b1, o1, rfl, hall1⟩ := Hrow.out (by intro e; simp [e] at hlt)
          obtain ⟨x, p0, p1⟩ := hall1 j hlt
          clear hall1
          obtain ⟨ax, cx, rfl, _⟩ := Lies.slice p1
          have p0 := cell_keeps hbw p0
          have HP : Hid (Lies (d + 1) w ls[j] (.slice ax ls[j].length cx)) := p1
          have Hd : Hid (ls.drop j = ls[j] :: ls.drop (j + 1)) := List.drop_eq_getElem_cons hlt
          have hji : (j : Int) < (ls.length : Nat) := by omega
          clear p1
          go_wp2_with fail
          refine (rfit_any d ls[j] _ _ (Lies.keeps hbw _ _ _ HP.out)).mono ?_
          rintro e w3 ⟨rfl, hg⟩
          have hb2 : Below w.heap.size w w3 := hbw.trans (hg.mono hbw.size)
          have HR3 : Hid (Bx w3 (w.heap.size + 1) zeroT (.slice none 0 0)) := HRr.out.keeps hg
          have HT3 : Hid (Bx w3 w.heap.size t (.slice a t.items.length c)) := HTr.out.keeps hg
          clear hg p0 HP HRr HTr hbw
          by_cases hx : pthE d ls[j] = 0
          · have Hn : Hid (fstE d ls = fstE d (ls.drop (j + 1))) := by
              show _ = _
              rw [Hc.out, Hd.out]
              conv => lhs; unfold fstE
              rw [if_pos hx]
            rw [hx]
            clear hx
            go_wp2_with fail
            go_roundg (ls.length - (j + 1))
            case measure => have := Hk.out; omega
            case rel => exact ⟨j + 1, by go_num, by omega, rfl, Hn, HR3, HT3, hb2⟩
          · have Hn : fstE d ls = pthE d ls[j] := by
              rw [Hc.out, Hd.out]
              conv => lhs; unfold fstE
              rw [if_neg hx]
            have hx' : (pthE d ls[j] != 0) = true := by simpa using hx
            have HE : Hid (∀ W, Below w.heap.size w W → PP (.returned (.tuple #[.agg #[.int .i64 0, .int .i64 0, .string ⟨#[]⟩, .slice none 0 0], .int .i64 (pthE d ls[j])])) W) := fun W hW => by
              obtain ⟨k1, k2⟩ := HErr.out (by rw [Hn]; exact hx)
              rw [← HPP.out, k1, k2, Hn]
              exact rvPost_zero hW
            clear Hn hx Hd Hc HF HErr HPth
            generalize pthE d ls[j] = E at *
            have HE1 : Hid (PP (.returned (.tuple #[.agg #[.int .i64 0, .int .i64 0, .string ⟨#[]⟩, .slice none 0 0], .int .i64 E])) (w3.setCells (w.heap.size + 1) 0 (encP (zeroT, .slice none 0 0)))) := HE.out _ (below_put hb2 (by omega) _)
            have Hq : Hid (Bx (w3.setCells (w.heap.size + 1) 0 (encP (zeroT, .slice none 0 0))) (w.heap.size + 1) zeroT (.slice none 0 0)) := HR3.out.put (zeroT, .slice none 0 0)
            obtain ⟨z0, z1, z2, z3, g0, g1, g2, g3⟩ := HR3.out
            go_wp2_with fail
            refine bodyPost_ret (v := .tuple #[.agg #[.int .i64 0, .int .i64 0, .string ⟨#[]⟩, .slice none 0 0], .int .i64 E]) ?_ rfl HE1.out
            obtain ⟨q0, q1, q2, q3, _, _, _, _⟩ := Hq.out
            simp only [World.setCells, encP, Nat.zero_add, Nat.reduceAdd] at q0 q1 q2 q3
            simp [results, Try.results22, go_sem, q0, q1, q2, q3]
        · have hji : ¬ (j : Int) < (ls.length : Nat) := by omega
          have hfe : fstE d ls = 0 := by rw [Hc.out, List.drop_eq_nil_of_le (by omega)]; rfl
          have HF2 := HF.out hfe
          have HF2 : Hid (∀ out E, onlS t six26 ls = (out, E) → EE = E ∧ RR = if E = 0 then out else zeroT) := HF2
          have HP2 : Hid (∀ i (h : i < ls.length) (u : Value), Lies (d + 1) w ls[i] u → Lies 17 w ls[i] u ∧ (∀ x ∈ ls[i], rightV 16 x = true ∧ Dp 16 x) ∧ ls[i].length ≤ 16) := HPth.out hfe
          have hN8 : w.heap.size + 1 < wr.heap.size := by have := cell_lt HRr.out.c0; simpa using this
          have HI0 : Hid (OnI w wr.heap.size t (.slice a t.items.length c) ls (wr.alloc (.cells #[.int .i64 6, .int .i64 0, .string ⟨#[]⟩, .slice none 0 0] 24)) 0 six26 none 0) := ⟨bx_alloc wr six26 _, HTr.out.keeps ((Grew.refl _).alloc _).below, HRr.out.keeps ((Grew.refl _).alloc _).below, liesX_nil _ _ _ _ _, ⟨six_right, six_dp⟩, rfl, hbw.alloc hbw.size _⟩
          clear Hc HErr HF HPth HRr HTr hbw hfe Hk
          go_wp2_with fail
          generalize wr.heap.size = N8 at *
          go_loopg [9] ls.length (fun g i wr => ∃ (j : Nat) (out : VT) (oa : Option Addr) (oc : Nat), i = .int .i64 (j : Int) ∧ j ≤ ls.length ∧ g = ls.length - j ∧ Hid (OnI w N8 t (.slice a t.items.length c) ls wr j out oa oc))
          case atStart => exact ⟨0, six26, none, 0, rfl, Nat.zero_le _, rfl, HI0⟩
          case round =>
            obtain ⟨j, out, oa, oc, rfl, hj, hk, HI⟩ := hrel
            have Hk : Hid _ := hk
            clear hk HI0
            by_cases hlt : j < ls.length
            · have hji : (j : Int) < (ls.length : Nat) := by omega
              obtain ⟨b1, o1, rfl, hall1⟩ := Hrow.out (by intro e; simp [e] at hlt)
              obtain ⟨pv, p0, p1⟩ := hall1 j hlt
              clear hall1
              obtain ⟨ax, cx, rfl, _⟩ := Lies.slice p1
              have p0 := cell_keeps HI.out.below p0
              obtain ⟨k1, k2, k3⟩ := HP2.out j hlt _ p1
              have HPj : Hid (LiesX (fun b => b < w.heap.size) 17 w ls[j] (.slice ax ls[j].length cx) ∧ (∀ x ∈ ls[j], rightV 16 x = true ∧ Dp 16 x) ∧ ls[j].length ≤ 16) := ⟨LiesX.of_lies k1, k2, k3⟩
              have Hd : Hid (ls.drop j = ls[j] :: ls.drop (j + 1)) := List.drop_eq_getElem_cons hlt
              clear p1 k1 k2 k3
              generalize ls[j] = p at *
              generalize hwr : wr = U at *
              clear hwr
              have hU8 : N8 < U.heap.size := by have := cell_lt HI.out.box.c0; simpa using this
              have hbU : Below w.heap.size w U := HI.out.below
              have HAt : Hid (∀ W, Below U.heap.size U W → Calls Try.prog 29 #[.agg #[.int .i64 t.kind, .int .i64 t.num, .string t.text, .slice a t.items.length c], .slice ax p.length cx] W (AtP (fun b => b < w.heap.size) t p W)) := fun W hW => by
                have hbW := hbU.trans (hW.mono hbU.size)
                exact rat_any (fun b => b < w.heap.size) t p a c _ W (fun b hb => by have := hbW.size; omega) (HTx.out.1.keeps hbW) HTx.out.2.1 Hts.out ((HPj.out.1.keeps hbW).lies) (fun s hs => (HPj.out.2.1 s hs).1) HPj.out.2.2
              have HF0 : Hid (∀ (W : World) (x : VT) (xa : Option Addr) (xc : Nat) (b : Bool), Below U.heap.size U W → LiesX (fun q => q < w.heap.size) 16 W x.items (.slice xa x.items.length xc) → x.text.size ≤ 9223372036854775807 → ((b = true ∧ atT t p = some x) ∨ (b = false ∧ atT t p = none ∧ x = zeroT)) → Hid (Rx26 (fun q => q < w.heap.size) U t p (W.alloc (.cells #[.int .i64 x.kind, .int .i64 x.num, .string x.text, .slice xa x.items.length xc] 24)) W.heap.size x xa xc b)) := fun W x xa xc b h1 h2 h3 h4 => ⟨bx_alloc W x _, h2.keeps ((Grew.refl W).alloc _).below, h3, h4, h1.alloc h1.size _, h1.size⟩
              have HFz : Hid (∀ (W : World) (x : VT) (xa : Option Addr) (xc : Nat) (b : Bool), Below U.heap.size U W → Bx W U.heap.size zeroT (.slice none 0 0) → LiesX (fun q => q < w.heap.size) 16 W x.items (.slice xa x.items.length xc) → x.text.size ≤ 9223372036854775807 → ((b = true ∧ atT t p = some x) ∨ (b = false ∧ atT t p = none ∧ x = zeroT)) → Hid (Rx26 (fun q => q < w.heap.size) U t p (W.setCells U.heap.size 0 (encP (x, .slice xa x.items.length xc))) U.heap.size x xa xc b)) := fun W x xa xc b h1 hb h2 h3 h4 => ⟨hb.put _, LiesX.set (g := U.heap.size) (by have := hbU.size; omega) h2, h3, h4, below_put h1 (Nat.le_refl _) _, Nat.le_refl _⟩
              obtain ⟨c0, c1, c2, c3, _, _, _, _⟩ := HI.out.tbox
              have hl1 : w.heap.size < U.heap.size := by omega
              have hl2 : b1 < U.heap.size := cell_lt p0
              have HS0 : Hid (Sa26 w.heap.size b1 (o1 + j) t (.slice a t.items.length c) (.slice ax p.length cx) U U) := ⟨⟨⟨c0, c1, c2, c3⟩, p0⟩, Below.refl _ _⟩
              have HSs : Hid (∀ (zb : Nat) (W : World) (v0 v1 v2 v3 : Value), U.heap.size ≤ zb → Sa26 w.heap.size b1 (o1 + j) t (.slice a t.items.length c) (.slice ax p.length cx) U W → Sa26 w.heap.size b1 (o1 + j) t (.slice a t.items.length c) (.slice ax p.length cx) U ((((W.setCell ⟨zb, 0, none⟩ v0).setCell ⟨zb, 1, none⟩ v1).setCell ⟨zb, 2, none⟩ v2).setCell ⟨zb, 3, none⟩ v3)) := fun zb W v0 v1 v2 v3 h1 h2 => sa_set hl1 hl2 h1 h2
              go_wp2_with fail
              go_cut [10, 11] from 44 to 52 (fun s10 s11 wx => ∃ n10 x xa xc b, s10 = .pointer (some ⟨n10, 0, none⟩) ∧ s11 = .bool b ∧ Hid (Rx26 (fun q => q < w.heap.size) U t p wx n10 x xa xc b))
              case first =>
                clear HI HPP HF2 HP2 Hd HPj Hk hl1 hl2 HTx hbU
                go_region_held3 (fun w' => ((w'.cell? ⟨w.heap.size, 0, none⟩ = some (.int .i64 t.kind) ∧ w'.cell? ⟨w.heap.size, 1, none⟩ = some (.int .i64 t.num) ∧ w'.cell? ⟨w.heap.size, 2, none⟩ = some (.string t.text) ∧ w'.cell? ⟨w.heap.size, 3, none⟩ = some (.slice a t.items.length c)) ∧ w'.cell? ⟨b1, o1 + j, none⟩ = some (.slice ax p.length cx)) ∧ Below U.heap.size U w') (first | (with_reducible exact sa_drew HS0.out) | (with_reducible exact sa_allocD _ (by assumption)) | (with_reducible exact sa_alloc _ (by assumption)) | (with_reducible exact HS4.out) | (with_reducible exact sa_alloc _ HS4.out) | (with_reducible exact HSs.out _ _ _ _ _ _ (by omega) (by assumption)) | (with_reducible assumption))
                  (first | (go_at_call 29; (with_reducible refine Calls.mono (HAt.out _ (sa_below (by assumption))) ?_); rintro e w4 ⟨x, xa, xc, b, rfl, hz1, hz2, hz3, hz4⟩; have hS4 := sa_keeps (n1 := w.heap.size) (b := b1) (o := o1 + j) (y := t) (V := U) (by assumption) hz4; have HS4 : Hid (Sa26 w.heap.size b1 (o1 + j) t (.slice a t.items.length c) (.slice ax p.length cx) U w4) := hS4; have hbV4 : Below U.heap.size U w4 := hS4.2; clear hS4; (first | (have HZ : Bx w4 U.heap.size zeroT (.slice none 0 0) := (by first | (with_reducible exact Bx.keeps (bx_allocZ U) hz4) | (with_reducible exact Bx.keeps (bx_allocZd U) hz4)); have HF := HFz.out w4 x xa xc b hbV4 HZ hz1 hz2 hz3; obtain ⟨z0, z1, z2, z3, y0, y1, y2, y3⟩ := HZ) | (have HF := HF0.out w4 x xa xc b hbV4 hz1 hz2 hz3)); clear hz1 hz2 hz3 hz4 hbV4))
                all_goals (go_wp2_with fail; go_meet; exact ⟨_, x, xa, xc, b, rfl, rfl, HF⟩)
              case rest =>
                obtain ⟨n10, x, xa, xc, b, rfl, rfl, H10⟩ := hcut
                generalize hVx : wc = V at *
                clear hVx
                have hbUV : Below U.heap.size U V := H10.out.below
                have hbV : Below w.heap.size w V := hbU.trans (hbUV.mono hbU.size)
                have HIV : Hid (OnI w N8 t (.slice a t.items.length c) ls V j out oa oc) := HI.out.keeps hbUV HI.out.eq
                have hpV := cell_keeps hbUV p0
                clear HF0 HFz HS0 HSs HAt c0 c1 c2 c3 p0 hl1 hl2
                cases b
                · have hno : atT t p = none := by
                    rcases H10.out.tell with ⟨h1, _⟩ | ⟨_, h1, _⟩
                    · cases h1
                    · exact h1
                  have HI2 : Hid (OnI w N8 t (.slice a t.items.length c) ls V (j + 1) out oa oc) := HI.out.keeps hbUV (by rw [HI.out.eq, Hd.out, onl_none hno])
                  clear hno H10 HIV hbUV hbV HI Hd HPj hbU hpV
                  go_wp2_with fail
                  go_roundg (ls.length - (j + 1))
                  case measure => have := Hk.out; omega
                  case rel => exact ⟨j + 1, out, oa, oc, by go_num, by omega, rfl, HI2⟩
                · have hat : atT t p = some x := by
                    rcases H10.out.tell with ⟨_, h1⟩ | ⟨h1, _⟩
                    · exact h1
                    · cases h1
                  have Hxr : Hid (rightV 16 x = true ∧ Dp 16 x) := at_right p t x HTx.out.2.1 HTx.out.2.2 hat
                  obtain ⟨Y, hY⟩ : ∃ Y : Nat → Prop, Y = fun q => (q < w.heap.size ∨ N8 < q) ∧ q < V.heap.size := ⟨_, rfl⟩
                  have HYd : Hid (∀ q, Y q ↔ (q < w.heap.size ∨ N8 < q) ∧ q < V.heap.size) := fun q => by rw [hY]
                  clear hY
                  have HYl : Hid (∀ q, Y q → q < V.heap.size) := fun q h => ((HYd.out q).1 h).2
                  have hV8 : N8 < V.heap.size := by have := hbUV.size; omega
                  have HPd : Hid (∀ W, Below V.heap.size V W → Calls Try.prog 37 #[.agg #[.int .i64 out.kind, .int .i64 out.num, .string out.text, .slice oa out.items.length oc], .slice ax p.length cx, .agg #[.int .i64 x.kind, .int .i64 x.num, .string x.text, .slice xa x.items.length xc]] W fun e w' => ∃ (z : VT) (za : Option Addr) (zc : Nat) (b : Bool), e = .returned (.tuple #[.agg #[.int .i64 z.kind, .int .i64 z.num, .string z.text, .slice za z.items.length zc], .bool b]) ∧ Hid (∀ W2, Below w'.heap.size w' W2 → Calls Try.prog 32 #[.agg #[.int .i64 z.kind, .int .i64 z.num, .string z.text, .slice za z.items.length zc], .bool b] W2 (RVX (fun q => (Y q ∨ W.heap.size ≤ q) ∧ q < w'.heap.size) (stR out p x) (stE out p x) W2)) ∧ Below W.heap.size W w') := fun W hW => by
                    have hbW := hbV.trans (hW.mono hbV.size)
                    exact rput_done Y out x p oa xa oc xc _ W (fun b hb => by have := HYl.out b hb; have := hW.size; omega) ((HIV.out.lies.both.mono (fun q hq => (HYd.out q).2 hq)).keeps hW) HI.out.right ((((HPj.out.1.keeps hbV).both).mono (fun q hq => (HYd.out q).2 ⟨.inl hq.1, hq.2⟩)).keeps hW) HPj.out.2.1 HPj.out.2.2 ((H10.out.lies.both.mono (fun q hq => (HYd.out q).2 ⟨.inl hq.1, hq.2⟩)).keeps hW) Hxr.out H10.out.size
                  have HSt : Hid (stE out p x = 0 → rightV 16 (stR out p x) = true ∧ Dp 16 (stR out p x)) := fun h => st_right HI.out.right Hxr.out HPj.out.2.1 HPj.out.2.2 h
                  have HOk : Hid (stE out p x = 0 → onlS t six26 ls = onlS t (stR out p x) (ls.drop (j + 1))) := fun h => by rw [HI.out.eq, Hd.out, onl_ok hat h]
                  have HEr : Hid (¬ stE out p x = 0 → onlS t six26 ls = (nilT, stE out p x)) := fun h => by rw [HI.out.eq, Hd.out, onl_err hat h]
                  have HXb : Hid (Bx V n10 x (.slice xa x.items.length xc)) := H10.out.box
                  clear H10 HI Hd HPj Hxr hat hbUV hbU hU8
                  generalize stE out p x = E at *
                  generalize stR out p x = rr at *
                  have HF0 : Hid (∀ (W : World) (ra : Option Addr) (rc : Nat), Below V.heap.size V W → LiesX (fun q => Y q ∨ V.heap.size ≤ q) 16 W rr.items (.slice ra rr.items.length rc) → Hid (Rw26 (fun q => Y q ∨ V.heap.size ≤ q) V rr (W.alloc (.cells #[.int .i64 rr.kind, .int .i64 rr.num, .string rr.text, .slice ra rr.items.length rc] 24)) W.heap.size ra rc)) := fun W ra rc h1 h2 => ⟨bx_alloc W rr _, h2.keeps ((Grew.refl W).alloc _).below, h1.alloc h1.size _, h1.size⟩
                  have HFz : Hid (∀ (W : World) (zb : Nat) (ra : Option Addr) (rc : Nat), Below V.heap.size V W → V.heap.size ≤ zb → Bx W zb zeroT (.slice none 0 0) → LiesX (fun q => (Y q ∨ V.heap.size ≤ q) ∧ q ≠ zb) 16 W rr.items (.slice ra rr.items.length rc) → Hid (Rw26 (fun q => Y q ∨ V.heap.size ≤ q) V rr (W.setCells zb 0 (encP (rr, .slice ra rr.items.length rc))) zb ra rc)) := fun W zb ra rc h1 hz hb h2 => ⟨hb.put _, (LiesX.set (g := zb) (fun hq => hq.2 rfl) h2).mono (fun q hq => hq.1), below_put h1 hz _, hz⟩
                  obtain ⟨c0, c1, c2, c3, _, _, _, _⟩ := HIV.out.box
                  obtain ⟨d0, d1, d2, d3, _, _, _, _⟩ := HXb.out
                  have hl1 : n10 < V.heap.size := cell_lt d0
                  have hl2 : b1 < V.heap.size := cell_lt hpV
                  have HS0 : Hid (Sb26 N8 n10 b1 (o1 + j) out x (.slice oa out.items.length oc) (.slice xa x.items.length xc) (.slice ax p.length cx) V V) := ⟨⟨⟨c0, c1, c2, c3⟩, ⟨d0, d1, d2, d3⟩, hpV⟩, Below.refl _ _⟩
                  have HSs : Hid (∀ (zb : Nat) (W : World) (v0 v1 v2 v3 : Value), V.heap.size ≤ zb → Sb26 N8 n10 b1 (o1 + j) out x (.slice oa out.items.length oc) (.slice xa x.items.length xc) (.slice ax p.length cx) V W → Sb26 N8 n10 b1 (o1 + j) out x (.slice oa out.items.length oc) (.slice xa x.items.length xc) (.slice ax p.length cx) V ((((W.setCell ⟨zb, 0, none⟩ v0).setCell ⟨zb, 1, none⟩ v1).setCell ⟨zb, 2, none⟩ v2).setCell ⟨zb, 3, none⟩ v3)) := fun zb W v0 v1 v2 v3 h1 h2 => sb_set hV8 hl1 hl2 h1 h2
                  go_upto_region 17 with fail
                  go_cut [12, 13] from 55 to 67 (fun s12 s13 wx => ∃ n12 ra rc, s12 = .pointer (some ⟨n12, 0, none⟩) ∧ s13 = .int .i64 E ∧ Hid (Rw26 (fun q => Y q ∨ V.heap.size ≤ q) V rr wx n12 ra rc))
                  case first =>
                    clear HIV HXb HSt HOk HEr HPP HF2 HP2 Hk hl1 hl2 HTx hbV HYd
                    go_region_held3 (fun w' => ((w'.cell? ⟨N8, 0, none⟩ = some (.int .i64 out.kind) ∧ w'.cell? ⟨N8, 1, none⟩ = some (.int .i64 out.num) ∧ w'.cell? ⟨N8, 2, none⟩ = some (.string out.text) ∧ w'.cell? ⟨N8, 3, none⟩ = some (.slice oa out.items.length oc)) ∧ (w'.cell? ⟨n10, 0, none⟩ = some (.int .i64 x.kind) ∧ w'.cell? ⟨n10, 1, none⟩ = some (.int .i64 x.num) ∧ w'.cell? ⟨n10, 2, none⟩ = some (.string x.text) ∧ w'.cell? ⟨n10, 3, none⟩ = some (.slice xa x.items.length xc)) ∧ w'.cell? ⟨b1, o1 + j, none⟩ = some (.slice ax p.length cx)) ∧ Below V.heap.size V w') (first | (with_reducible exact sb_drew HS0.out) | (with_reducible exact sb_allocD _ (by assumption)) | (with_reducible exact sb_alloc _ (by assumption)) | (with_reducible exact HS4.out) | (with_reducible exact sb_alloc _ HS4.out) | (with_reducible exact HS6.out) | (with_reducible exact sb_alloc _ HS6.out) | (with_reducible exact HSs.out _ _ _ _ _ _ (by omega) (by assumption)) | (with_reducible assumption))
                      (first | (go_at_call 37; (with_reducible refine Calls.mono (HPd.out _ (sb_below (by assumption))) ?_); rintro e w4 ⟨z, za, zc, b, rfl, HD, hz4⟩; have hS4 := sb_keeps (n1 := N8) (n2 := n10) (b := b1) (o := o1 + j) (y := out) (x := x) (V := V) (by assumption) hz4; have HS4 : Hid (Sb26 N8 n10 b1 (o1 + j) out x (.slice oa out.items.length oc) (.slice xa x.items.length xc) (.slice ax p.length cx) V w4) := hS4; have hw4s : V.heap.size ≤ w4.heap.size := hS4.2.size; clear hS4; (first | (have hZ4 : Bx w4 V.heap.size zeroT (.slice none 0 0) := (by first | (with_reducible exact Bx.keeps (bx_allocZ V) hz4) | (with_reducible exact Bx.keeps (bx_allocZd V) hz4)); have HZ4 : Hid (Bx w4 V.heap.size zeroT (.slice none 0 0)) := hZ4; clear hZ4) | skip); clear hz4) | (go_at_call 32; (with_reducible refine Calls.mono (HD.out _ ?_) ?_); (first | exact Below.refl _ _ | exact (Below.refl _ _).drew | exact ((Grew.refl _).alloc _).below | exact (((Grew.refl _).alloc _).below).drew); rintro e w6 ⟨u6, rfl, hl6, hb6⟩; obtain ⟨ra, rc, rfl, _⟩ := LiesX.slice hl6; have hS6 := sb_keeps (n1 := N8) (n2 := n10) (b := b1) (o := o1 + j) (y := out) (x := x) (V := V) (by assumption) hb6; have HS6 : Hid (Sb26 N8 n10 b1 (o1 + j) out x (.slice oa out.items.length oc) (.slice xa x.items.length xc) (.slice ax p.length cx) V w6) := hS6; have hbV6 : Below V.heap.size V w6 := hS6.2; clear hS6; (first | (have HZ : Bx w6 V.heap.size zeroT (.slice none 0 0) := (by first | (with_reducible exact Bx.keeps HZ4.out hb6) | (with_reducible exact Bx.keeps (HZ4.out.keeps (Below.refl _ _).drew) hb6) | fail "HZ");  have HF := HFz.out w6 V.heap.size ra rc hbV6 (Nat.le_refl _) HZ (hl6.mono (fun q hq => by simp at hq; exact ⟨by rcases hq.1 with h | h; (exact .inl h); (exact .inr (by omega)), by rcases hq.1 with h | h; (have := HYl.out q h; omega); omega⟩)); obtain ⟨z0, z1, z2, z3, y0, y1, y2, y3⟩ := HZ) | ((fail_if_success (have hh := HZ4)); have HZ : Bx w6 w4.heap.size zeroT (.slice none 0 0) := (by first | (with_reducible exact Bx.keeps (bx_allocZ w4) hb6) | (with_reducible exact Bx.keeps (bx_allocZd w4) hb6)); have HF := HFz.out w6 w4.heap.size ra rc hbV6 (HS4.out.2.size) HZ (hl6.mono (fun q hq => by simp at hq; exact ⟨by rcases hq.1 with h | h; (exact .inl h); (exact .inr (by omega)), by omega⟩)); obtain ⟨z0, z1, z2, z3, y0, y1, y2, y3⟩ := HZ) | ((fail_if_success (have hh := HZ4)); have HF := HF0.out w6 ra rc hbV6 (hl6.mono (fun q hq => by simp at hq; rcases hq.1 with h | h; (exact .inl h); (exact .inr (by omega)))))); clear hl6 hb6 hbV6))
                    all_goals (go_wp2_with fail; go_meet; exact ⟨_, ra, rc, rfl, rfl, HF⟩)
                  case rest =>
                    obtain ⟨n12, ra, rc, rfl, rfl, H12⟩ := hcut
                    generalize hVx : wc = Vx at *
                    clear hVx
                    have hbx : Below V.heap.size V Vx := H12.out.below
                    have hbwx : Below w.heap.size w Vx := hbV.trans (hbx.mono hbV.size)
                    have HOx : Hid (Bx Vx N8 out (.slice oa out.items.length oc)) := HIV.out.box.keeps hbx
                    have HTx2 : Hid (Bx Vx w.heap.size t (.slice a t.items.length c)) := HIV.out.tbox.keeps hbx
                    have HRx2 : Hid (Bx Vx (w.heap.size + 1) zeroT (.slice none 0 0)) := HIV.out.res.keeps hbx
                    clear HF0 HFz HS0 HSs HPd c0 c1 c2 c3 d0 d1 d2 d3 hpV hl1 hl2
                    by_cases hE : E = 0
                    · have HL2 : Hid (LiesX (fun b => b < w.heap.size ∨ N8 < b) 16 (Vx.setCells N8 0 (encP (rr, .slice ra rr.items.length rc))) rr.items (.slice ra rr.items.length rc)) := by
                        refine (LiesX.set (g := N8) (fun h => ?_) H12.out.lies).mono (fun q h => ?_)
                        · rcases h with h | h
                          · have := (HYd.out _).1 h; omega
                          · omega
                        · rcases h with h | h
                          · exact ((HYd.out _).1 h).1
                          · exact .inr (by omega)
                      have HI2 : Hid (OnI w N8 t (.slice a t.items.length c) ls (Vx.setCells N8 0 (encP (rr, .slice ra rr.items.length rc))) (j + 1) rr ra rc) := ⟨HOx.out.put _, HTx2.out.other (by omega) _, HRx2.out.other (by omega) _, HL2.out, HSt.out hE, HOk.out hE, below_put hbwx (by omega) _⟩
                      obtain ⟨y0, y1, y2, y3, f0, f1, f2, f3⟩ := HOx.out
                      obtain ⟨d0, d1, d2, d3, _, _, _, _⟩ := H12.out.box
                      simp only [World.setCells, encP, Nat.zero_add, Nat.reduceAdd] at HI2
                      subst hE
                      clear HL2 HOx HTx2 HRx2 H12 hbx hbwx HSt HOk HEr HIV HXb HYd HYl hbV
                      go_wp2_with fail
                      go_roundg (ls.length - (j + 1))
                      case measure => have := Hk.out; omega
                      case rel => exact ⟨j + 1, rr, ra, rc, by go_num, by omega, rfl, HI2⟩
                    · have hfin := HF2.out _ _ (HEr.out hE)
                      have hE' : (E != 0) = true := by simpa using hE
                      have HE : Hid (∀ W, Below w.heap.size w W → PP (.returned (.tuple #[.agg #[.int .i64 0, .int .i64 0, .string ⟨#[]⟩, .slice none 0 0], .int .i64 E])) W) := fun W hW => by
                        rw [← HPP.out, hfin.1, hfin.2, if_neg hE]
                        exact rvPost_zero hW
                      clear hfin hE HOx HTx2 H12 hbx HSt HOk HEr HIV HXb HYd HYl hbV HF2
                      have HE1 : Hid (PP (.returned (.tuple #[.agg #[.int .i64 0, .int .i64 0, .string ⟨#[]⟩, .slice none 0 0], .int .i64 E])) (Vx.setCells (w.heap.size + 1) 0 (encP (zeroT, .slice none 0 0)))) := HE.out _ (below_put hbwx (by omega) _)
                      have Hq : Hid (Bx (Vx.setCells (w.heap.size + 1) 0 (encP (zeroT, .slice none 0 0))) (w.heap.size + 1) zeroT (.slice none 0 0)) := HRx2.out.put (zeroT, .slice none 0 0)
                      obtain ⟨z0, z1, z2, z3, g0, g1, g2, g3⟩ := HRx2.out
                      go_wp2_with fail
                      refine bodyPost_ret (v := .tuple #[.agg #[.int .i64 0, .int .i64 0, .string ⟨#[]⟩, .slice none 0 0], .int .i64 E]) ?_ rfl HE1.out
                      obtain ⟨q0, q1, q2, q3, _, _, _, _⟩ := Hq.out
                      simp only [World.setCells, encP, Nat.zero_add, Nat.reduceAdd] at q0 q1 q2 q3
                      simp [results, Try.results22, go_sem, q0, q1, q2, q3]
            · obtain rfl : j = ls.length := by omega
              have hji : ¬ (ls.length : Int) < (ls.length : Nat) := by omega
              have hfin := HF2.out out 0 (by rw [HI.out.eq, List.drop_length]; rfl)
              rw [if_pos rfl] at hfin
              have hN9 : N8 < wr.heap.size := by have := cell_lt HI.out.box.c0; simpa using this
              have HE1 : Hid (PP (.returned (.tuple #[.agg #[.int .i64 out.kind, .int .i64 out.num, .string out.text, .slice oa out.items.length oc], .int .i64 0])) (wr.setCells (w.heap.size + 1) 0 (encP (out, .slice oa out.items.length oc)))) := by
                show PP _ _
                rw [← HPP.out, hfin.1, hfin.2]
                exact ⟨_, rfl, (LiesX.set (g := w.heap.size + 1) (by omega) HI.out.lies).mono (fun _ _ => trivial), below_put HI.out.below (by omega) _⟩
              have Hq : Hid (Bx (wr.setCells (w.heap.size + 1) 0 (encP (out, .slice oa out.items.length oc))) (w.heap.size + 1) out (.slice oa out.items.length oc)) := HI.out.res.put (out, .slice oa out.items.length oc)
              obtain ⟨o0, o1, o2, o3, _, _, _, _⟩ := HI.out.box
              obtain ⟨z0, z1, z2, z3, g0, g1, g2, g3⟩ := HI.out.res
              clear HI hfin HF2 HPP HP2
              generalize out.items.length = lo at *
              go_wp2_with fail
              refine bodyPost_ret (v := .tuple #[.agg #[.int .i64 out.kind, .int .i64 out.num, .string out.text, .slice oa lo oc], .int .i64 0]) ?_ rfl HE1.out
              obtain ⟨q0, q1, q2, q3, _, _, _, _⟩ := Hq.out
              simp only [World.setCells, encP, Nat.zero_add, Nat.reduceAdd] at q0 q1 q2 q3
              simp [results, Try.results22, go_sem, q0, q1, q2, q3]
  · have hrf : rightV d t = false := by simpa using hrt
    rw [hrf] at HRt
    have e1 : onlE d t ls = 3 := by unfold onlE; rw [if_neg hrt]
    have e2 : onlR d t ls = zeroT := by unfold onlR; rw [e1]; rfl
    rw [e1, e2]
    have HE : Hid (∀ W, Below w.heap.size w W → RVX (fun _ => True) zeroT 3 w (.returned (.tuple #[.agg #[.int .i64 0, .int .i64 0, .string ⟨#[]⟩, .slice none 0 0], .int .i64 3])) W) := fun W hW => rvPost_zero hW
    generalize RVX (fun _ => True) zeroT 3 w = PP at *
    clear e1 e2 hrt hrf hv hl HL
    go_enter Try.func22, Try.ntmps22
    go_upto_region 1 with fail
    rw [← HW0.out]
    clear HW0
    go_wp2_with fail
    refine Calls.mono HRt.out ?_
    rintro e w1 ⟨rfl, hg1⟩
    have hb2 : Below w.heap.size w w1 := hb0.trans (hg1.mono hb0.size)
    have HR1 : Hid (Bx w1 (w.heap.size + 1) zeroT (.slice none 0 0)) := HR.out.keeps hg1
    have HT1 : Hid (Bx w1 w.heap.size t (.slice a t.items.length c)) := HT.out.keeps hg1
    clear hg1 hb0 HR HT HRt t0 t1 t2 t3
    have HE1 : Hid (PP (.returned (.tuple #[.agg #[.int .i64 0, .int .i64 0, .string ⟨#[]⟩, .slice none 0 0], .int .i64 3])) (w1.setCells (w.heap.size + 1) 0 (encP (zeroT, .slice none 0 0)))) := HE.out _ (below_put hb2 (by omega) _)
    have Hq : Hid (Bx (w1.setCells (w.heap.size + 1) 0 (encP (zeroT, .slice none 0 0))) (w.heap.size + 1) zeroT (.slice none 0 0)) := HR1.out.put (zeroT, .slice none 0 0)
    obtain ⟨z0, z1, z2, z3, g0, g1, g2, g3⟩ := HR1.out
    go_wp2_with fail
    refine bodyPost_ret (v := .tuple #[.agg #[.int .i64 0, .int .i64 0, .string ⟨#[]⟩, .slice none 0 0], .int .i64 3]) ?_ rfl HE1.out
    obtain ⟨q0, q1, q2, q3, _, _, _, _⟩ := Hq.out
    simp only [World.setCells, encP, Nat.zero_add, Nat.reduceAdd] at q0 q1 q2 q3
    simp [results, Try.results22, go_sem, q0, q1, q2, q3]

end Go.Proofs.Ytofceccicmlmoaa

namespace Go.Proofs.Ytofceccicmlmoaa
open Go.RowKit Go.Shelf

set_option maxRecDepth 100000 in
set_option maxHeartbeats 8000000 in
theorem onll_core (t y : VT) (E : Int) (a ap : Option Addr) (l c lp cp : Nat) (w : World)
    (H1 : Hid (∀ W, Below w.heap.size w W → Calls Try.prog 21 #[.agg #[.int .i64 t.kind, .int .i64 t.num, .string t.text, .slice a l c], .slice ap lp cp] W (VPost y E W)))
    (H2 : Hid (∀ W, Below w.heap.size w W → Calls Try.prog 22 #[.agg #[.int .i64 t.kind, .int .i64 t.num, .string t.text, .slice a l c], .slice ap lp cp] W (RVX (fun _ => True) y E W)))
    (HV : Hid (∀ (s : VT) (u v : Value) (W : World), Lies 16 W s.items u → Lies 16 W s.items v → Calls Try.prog 12 #[.agg #[.int .i64 s.kind, .int .i64 s.num, .string s.text, u], .agg #[.int .i64 s.kind, .int .i64 s.num, .string s.text, v]] W fun e W' => e = .returned (.bool true) ∧ Below W.heap.size W W')) :
    Calls Try.prog 6 #[.agg #[.int .i64 t.kind, .int .i64 t.num, .string t.text, .slice a l c], .slice ap lp cp] w fun e w' => e = .returned (.bool true) ∧ Below w.heap.size w w' := by
  have hal : Below w.heap.size w (w.alloc (.cells #[.int .i64 t.kind, .int .i64 t.num, .string t.text, .slice a l c] 24)) := ((Grew.refl w).alloc _).below
  have HX : Hid (Bx (w.alloc (.cells #[.int .i64 t.kind, .int .i64 t.num, .string t.text, .slice a l c] 24)) w.heap.size t (.slice a l c)) := bx_alloc w t _
  have HSp : Hid (∀ W, Calls Try.prog 13 #[] W fun e w' => e = .returned (.bool true) ∧ Below W.heap.size W w') := fun W => speaks26 put_all W
  go_enter Try.func6, Try.ntmps6
  go_wp2_with fail
  refine Calls.mono (H1.out _ hal) ?_
  rintro e w1 ⟨v1, rfl, hl1, hb⟩
  obtain ⟨a1, c1, rfl, _⟩ := LiesX.slice hl1
  obtain ⟨hb1, hg⟩ := belowB_new hal hb (.cells #[.int .i64 y.kind, .int .i64 y.num, .string y.text, .slice a1 y.items.length c1] 24)
  have HX1 : Hid (Bx (w1.alloc (.cells #[.int .i64 y.kind, .int .i64 y.num, .string y.text, .slice a1 y.items.length c1] 24)) w.heap.size t (.slice a l c)) := HX.out.keeps hg
  have HA1 : Hid (KeptB (w1.alloc (.cells #[.int .i64 y.kind, .int .i64 y.num, .string y.text, .slice a1 y.items.length c1] 24)) w1.heap.size y (.slice a1 y.items.length c1)) := keptB_new hl1.lies
  clear hal hb hg HX hl1 H1
  obtain ⟨x0, x1, x2, x3, _, _, _, _⟩ := HX1.out
  go_wp2_with fail
  refine Calls.mono (H2.out _ hb1) ?_
  rintro e w2 ⟨v2, rfl, hl2, hb⟩
  obtain ⟨a2, c2, rfl, _⟩ := LiesX.slice hl2
  obtain ⟨hb2, hg⟩ := belowB_new hb1 hb (.cells #[.int .i64 y.kind, .int .i64 y.num, .string y.text, .slice a2 y.items.length c2] 24)
  have HA2 : Hid (KeptB (w2.alloc (.cells #[.int .i64 y.kind, .int .i64 y.num, .string y.text, .slice a2 y.items.length c2] 24)) w1.heap.size y (.slice a1 y.items.length c1)) := HA1.out.keeps hg
  have HB2 : Hid (KeptB (w2.alloc (.cells #[.int .i64 y.kind, .int .i64 y.num, .string y.text, .slice a2 y.items.length c2] 24)) w2.heap.size y (.slice a2 y.items.length c2)) := keptB_new hl2.lies
  clear hb hg hl2 HX1 HA1 x0 x1 x2 x3 hb1 H2
  generalize w1.heap.size = B1 at *
  obtain ⟨⟨p0, p1, p2, p3, _, _, _, _⟩, _⟩ := HA2.out
  go_wp2_with fail
  refine Calls.mono (HV.out y _ _ _ HA2.out.lies HB2.out.lies) ?_
  rintro e w3 ⟨rfl, hb⟩
  have hb3 : Below w.heap.size w w3 := hb2.trans (hb.mono hb2.size)
  clear hb HA2 HB2 p0 p1 p2 p3 hb2
  go_wp2_with fail
  refine (HSp.out _).mono ?_
  rintro e w4 ⟨rfl, hb⟩
  have hb4 : Below w.heap.size w w4 := hb3.trans (hb.mono hb3.size)
  clear hb
  go_wp2_with fail
  go_ret
  exact ⟨rfl, hb4⟩

theorem onll_walk (n0 n1 : Nat) (t : VT) (ls : List (List VT)) (u lv : Value) (w : World) (L0 : Lies n0 w t.items u) (L1 : LL n1 w ls lv) (b0 : t.text.size ≤ 9223372036854775807) :
    Calls Try.prog 6 #[.agg #[.int .i64 t.kind, .int .i64 t.num, .string t.text, u], lv] w fun e w' => e = .returned (.bool true) ∧ Below w.heap.size w w' := by
  obtain ⟨d, h16, hn0, hn1⟩ : ∃ d, 16 ≤ d ∧ n0 ≤ d ∧ n1 ≤ d := ⟨16 + n0 + n1, by omega, by omega, by omega⟩
  replace L0 := L0.atLeast d hn0
  replace L1 := L1.atLeast hn1
  obtain ⟨a, c, rfl, _⟩ := Lies.slice L0
  obtain ⟨ap, cp, rfl, _⟩ := LL.slice L1
  refine onll_core t (onlR d t ls) (onlE d t ls) a ap _ c _ cp w ?_ ?_ ?_
  · exact fun W hW => only_face d t ls _ _ W (Lies.keeps hW _ _ _ L0) b0 (L1.keeps hW)
  · exact fun W hW => rOnly_any d t ls _ _ W (Lies.keeps hW _ _ _ L0) (L1.keeps hW)
  · exact fun s u v W h1 h2 => (same_any 16 s s u v W h1 h2).mono fun e W' h => ⟨by rw [h.1, sameV_self], h.2.below⟩

end Go.Proofs.Ytofceccicmlmoaa

