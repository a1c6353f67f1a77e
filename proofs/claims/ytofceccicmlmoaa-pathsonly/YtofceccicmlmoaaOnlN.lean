/-
  Only.
-/
import Derived.Test.YtofceccicmlmoaaOnlM
import Derived.Test.YtofceccicmlmoaaPutA
import Derived.Test.YtofceccicmlmoaaBackLaw
namespace Go.Proofs.Ytofceccicmlmoaa
open Go.RowKit Go.Shelf

def stE (out : VT) (p : List VT) (x : VT) : Int := match putT out p x with | none => 260 | some z => fitE 32 z
def stR (out : VT) (p : List VT) (x : VT) : VT := if stE out p x = 0 then (putT out p x).getD nilT else nilT

theorem onl_ok {t out x : VT} {p : List VT} {ps : List (List VT)} (ha : atT t p = some x) (he : stE out p x = 0) : onlS t out (p :: ps) = onlS t (stR out p x) ps := by
  have h0 := he
  unfold stR
  rw [if_pos he]
  conv => lhs; unfold onlS
  rw [ha]
  simp only
  unfold stE at he
  cases hz : putT out p x with
  | none => rw [hz] at he; cases he
  | some z =>
    rw [hz] at he
    simp only at he ⊢
    rw [if_pos he]
    rfl

theorem onl_err {t out x : VT} {p : List VT} {ps : List (List VT)} (ha : atT t p = some x) (he : ¬ stE out p x = 0) : onlS t out (p :: ps) = (nilT, stE out p x) := by
  conv => lhs; unfold onlS
  rw [ha]
  simp only
  unfold stE at he ⊢
  cases hz : putT out p x with
  | none => rfl
  | some z =>
    rw [hz] at he
    simp only at he ⊢
    rw [if_neg he]
    rcases fitE_two 32 z with h | h
    · exact absurd h he
    · rw [h]

theorem onl_none {t out : VT} {p : List VT} {ps : List (List VT)} (ha : atT t p = none) : onlS t out (p :: ps) = onlS t out ps := by
  conv => lhs; unfold onlS
  rw [ha]

/-- What a step makes is right. -/
theorem st_right {out x : VT} {p : List VT} (hr : rightV 16 out = true ∧ Dp 16 out) (hx : rightV 16 x = true ∧ Dp 16 x) (hp : ∀ s ∈ p, rightV 16 s = true ∧ Dp 16 s) (hl : p.length ≤ 16) (he : stE out p x = 0) : rightV 16 (stR out p x) = true ∧ Dp 16 (stR out p x) := by
  unfold stR
  rw [if_pos he]
  unfold stE at he
  cases hz : putT out p x with
  | none => rw [hz] at he; cases he
  | some z =>
    rw [hz] at he
    obtain ⟨h1, h2, _⟩ := put_ok (d := 16) (Nat.le_refl _) hr hx hp hl hz he
    exact ⟨h1, h2⟩

theorem put_fit (Y : Nat → Prop) (out x : VT) (p : List VT) (oa xa : Option Addr) (oc xc : Nat) (pv : Value) (W : World) (hY : ∀ b, Y b → b < W.heap.size) (ho : LiesX Y 16 W out.items (.slice oa out.items.length oc)) (hr : rightV 16 out = true ∧ Dp 16 out) (hpl : LiesX Y 17 W p pv) (hp : ∀ s ∈ p, rightV 16 s = true ∧ Dp 16 s) (hl : p.length ≤ 16) (hx : LiesX Y 16 W x.items (.slice xa x.items.length xc)) (hxr : rightV 16 x = true ∧ Dp 16 x) (hxt : x.text.size ≤ 9223372036854775807) :
    Calls Try.prog 36 #[.agg #[.int .i64 out.kind, .int .i64 out.num, .string out.text, .slice oa out.items.length oc], pv, .agg #[.int .i64 x.kind, .int .i64 x.num, .string x.text, .slice xa x.items.length xc]] W fun e w' => ∃ k n tx a l c E0, e = .returned (.tuple #[.agg #[.int .i64 k, .int .i64 n, .string tx, .slice a l c], .int .i64 E0]) ∧ Hid (Calls Try.prog 47 #[.agg #[.int .i64 k, .int .i64 n, .string tx, .slice a l c], .int .i64 E0] w' (FtPost (fun b => Y b ∨ W.heap.size ≤ b) 16 (stR out p x) (stE out p x) w')) ∧ Below W.heap.size W w' := by
  refine Calls.mono (put_all p x (fun s hs => (hp s hs).1) hl hxt Y out oa xa oc xc pv W hY ho hr.1 hpl hx) ?_
  intro e w' hq
  unfold PutQ at hq
  cases hz : putT out p x with
  | none =>
    rw [hz] at hq
    obtain ⟨k, n, tx, a, l, c, rfl, hb⟩ := hq
    have e1 : stE out p x = 260 := by unfold stE; rw [hz]
    have e2 : stR out p x = nilT := by unfold stR; rw [e1]; rfl
    rw [e1, e2]
    exact ⟨k, n, tx, a, l, c, 260, rfl, fitting_err _ 16 k n tx a l c 260 (by omega) w', hb⟩
  | some z =>
    rw [hz] at hq
    obtain ⟨a, c, rfl, h1, h2, hb⟩ := hq
    refine ⟨z.kind, z.num, z.text, a, z.items.length, c, 0, rfl, ?_, hb⟩
    have hdz : Dp (16 + p.length) z := Dp.of_lies _ w' z _ h1.lies
    have hfe : fw 32 z 16 1024 = fw (16 + p.length) z 16 1024 := fw_any z hdz (by omega) 16 1024
    have e1 : stE out p x = fitE (16 + p.length) z := by unfold stE fitE; rw [hz]; simp only; rw [hfe]
    have e2 : stR out p x = fitR (16 + p.length) z := by
      unfold stR fitR
      rw [e1]
      unfold fitE
      by_cases hf : (fw (16 + p.length) z 16 1024).1 = true
      · rw [if_pos hf, if_pos rfl, if_pos hf, hz]; rfl
      · rw [if_neg hf, if_neg (by omega), if_neg hf]
    have hd16 : Dp 16 (fitR (16 + p.length) z) := by
      unfold fitR
      by_cases hf : (fw (16 + p.length) z 16 1024).1 = true
      · rw [if_pos hf]; exact (put_fits (fun s hs => (hp s hs).1) hr.1 hr.2 hxr.1 hxr.2 hz (by omega) hdz hf).2
      · rw [if_neg hf]; exact nil_dp
    rw [e1, e2]
    refine Calls.mono (fitting_any (fun b => (Y b ∨ W.heap.size ≤ b) ∧ b < w'.heap.size) (16 + p.length) z a c w' h1.both (fun b hb => hb.2)) ?_
    rintro e w2 ⟨a2, c2, rfl, h3, h4⟩
    exact ⟨a2, c2, rfl, (LiesX.to h3 hd16).mono (fun b hb => hb.1), h4⟩

end Go.Proofs.Ytofceccicmlmoaa

namespace Go.Proofs.Ytofceccicmlmoaa
open Go.RowKit Go.Shelf

/-- What stands before a round of Only: N is the first box, N8 the box of what is made. -/
structure OnI (w : World) (N8 : Nat) (t : VT) (tv : Value) (ls : List (List VT)) (wr : World) (j : Nat) (out : VT) (oa : Option Addr) (oc : Nat) : Prop where
  box : Bx wr N8 out (.slice oa out.items.length oc)
  tbox : Bx wr w.heap.size t tv
  res : Bx wr (w.heap.size + 1) zeroT (.slice none 0 0)
  lies : LiesX (fun b => b < w.heap.size ∨ N8 < b) 16 wr out.items (.slice oa out.items.length oc)
  right : rightV 16 out = true ∧ Dp 16 out
  eq : onlS t six26 ls = onlS t out (ls.drop j)
  below : Below w.heap.size w wr

theorem OnI.keeps {w : World} {N8 : Nat} {t : VT} {tv : Value} {ls : List (List VT)} {wr W : World} {j : Nat} {out : VT} {oa : Option Addr} {oc : Nat} (h : OnI w N8 t tv ls wr j out oa oc) (hb : Below wr.heap.size wr W) {k : Nat} (he : onlS t six26 ls = onlS t out (ls.drop k)) : OnI w N8 t tv ls W k out oa oc :=
  ⟨h.box.keeps hb, h.tbox.keeps hb, h.res.keeps hb, h.lies.keeps hb, h.right, he, h.below.trans (hb.mono h.below.size)⟩

set_option maxRecDepth 100000 in
set_option maxHeartbeats 16000000 in
theorem only_face (d : Nat) (t : VT) (ls : List (List VT)) (v lv : Value) (w : World) (hv : Lies d w t.items v) (hs : t.text.size ≤ 9223372036854775807) (hl : LL d w ls lv) :
    Calls Try.prog 21 #[.agg #[.int .i64 t.kind, .int .i64 t.num, .string t.text, v], lv] w (VPost (onlR d t ls) (onlE d t ls) w) := by
  obtain ⟨a, c, rfl, _⟩ := Lies.slice hv
  obtain ⟨la, lc, rfl, hlc⟩ := LL.slice hl
  have HT : Hid (Bx (at2 w t (.slice a t.items.length c)) w.heap.size t (.slice a t.items.length c)) := at2_fst _ _ _
  have HR : Hid (Bx (at2 w t (.slice a t.items.length c)) (w.heap.size + 1) zeroT (.slice none 0 0)) := at2_snd _ _ _
  have hb0 := at2_below w t (.slice a t.items.length c)
  obtain ⟨W0, hW0⟩ : ∃ W0, W0 = at2 w t (.slice a t.items.length c) := ⟨_, rfl⟩
  have HW0 : Hid (W0 = at2 w t (.slice a t.items.length c)) := hW0
  rw [← hW0] at HT HR hb0
  clear hW0
  unfold at2 at HW0
  have HCk : Hid (Calls Try.prog 23 #[.agg #[.int .i64 t.kind, .int .i64 t.num, .string t.text, .slice a t.items.length c]] W0 fun e w' => e = .returned (.int .i64 (errOf (rightV d t))) ∧ Below W0.heap.size W0 w') := check_any d t _ W0 (Lies.keeps hb0 _ _ _ hv) hs
  have HCl : Hid (∀ W, Below w.heap.size w W → Calls Try.prog 45 #[.slice la ls.length lc, .func (.func 46) #[] #[]] W fun e w' => e = .returned (.int .i64 (lstsE d ls)) ∧ Below W.heap.size W w') := fun W hW => checkLists_any d ls _ W (hl.keeps hW)
  obtain ⟨t0, t1, t2, t3, _, _, _, _⟩ := HT.out
  by_cases hrt : rightV d t = true
  · have e3 : errOf (rightV d t) = 0 := by rw [hrt]; rfl
    rw [e3] at HCk
    by_cases hle : lstsE d ls = 0
    · rw [hle] at HCl
      have hc := canon hv hrt
      have hd := Dp.of_lies 16 w t _ hc.1
      have hl6 : ls.length ≤ 65536 := by
        unfold lstsE at hle
        by_cases h : 65536 < ls.length
        · rw [if_pos h] at hle; cases hle
        · omega
      have hfe : fstE d ls = 0 := by unfold lstsE at hle; rwa [if_neg (by omega)] at hle
      have HTx : Hid (LiesX (fun b => b < w.heap.size) 16 w t.items (.slice a t.items.length c) ∧ rightV 16 t = true ∧ Dp 16 t) := ⟨LiesX.of_lies hc.1, hc.2, hd⟩
      obtain ⟨la', lc', hlv, _, hrow⟩ := hl
      injection hlv with e1 e2 e3
      clear e2
      subst e1
      subst e3
      have Hrow : Hid _ := hrow
      have HPth : Hid (∀ i (h : i < ls.length) (u : Value), Lies (d + 1) w ls[i] u → Lies 17 w ls[i] u ∧ (∀ x ∈ ls[i], rightV 16 x = true ∧ Dp 16 x) ∧ ls[i].length ≤ 16) := fun i h u hu => by
        have hp := fstE_zero hfe ls[i] (List.getElem_mem h)
        have hck : chkE d t ls[i] = 0 := by unfold chkE; rw [if_pos hrt]; exact hp
        obtain ⟨_, k2, k3⟩ := chk_zero hck
        obtain ⟨k4, k5⟩ := canonL26 hu k3
        exact ⟨k4, k5, k2⟩
      have HF : Hid (∀ out E, onlS t six26 ls = (out, E) → onlE d t ls = E ∧ onlR d t ls = if E = 0 then out else nilT) := fun out E h => by
        have k1 : onlE d t ls = E := by unfold onlE; rw [if_pos hrt, if_pos hle, h]
        refine ⟨k1, ?_⟩
        unfold onlR
        rw [k1, h]
      clear hv hs hrow hfe hc hd hrt hle e3
      generalize onlR d t ls = RR at *
      generalize onlE d t ls = EE at *
      obtain ⟨PP, hPP⟩ : ∃ PP, VPost RR EE w = PP := ⟨_, rfl⟩
      rw [hPP]
      have HPP : Hid (VPost RR EE w = PP) := hPP
      clear hPP
      go_enter Try.func21, Try.ntmps21
      go_upto_region 1 with fail
      rw [← HW0.out]
      clear HW0
      go_wp2_with fail
      refine Calls.mono HCk.out ?_
      rintro e w1 ⟨rfl, hg1⟩
      have hb2 : Below w.heap.size w w1 := hb0.trans (hg1.mono hb0.size)
      have HR1 : Hid (Bx w1 (w.heap.size + 1) zeroT (.slice none 0 0)) := HR.out.keeps hg1
      have HT1 : Hid (Bx w1 w.heap.size t (.slice a t.items.length c)) := HT.out.keeps hg1
      clear hg1 hb0 HR HT HCk t0 t1 t2 t3
      go_wp2_with fail
      refine Calls.mono (HCl.out _ hb2) ?_
      rintro e w3 ⟨rfl, hg3⟩
      have hb4 : Below w.heap.size w w3 := hb2.trans (hg3.mono hb2.size)
      have HR3 : Hid (Bx w3 (w.heap.size + 1) zeroT (.slice none 0 0)) := HR1.out.keeps hg3
      have HT3 : Hid (Bx w3 w.heap.size t (.slice a t.items.length c)) := HT1.out.keeps hg3
      clear hg3 hb2 HR1 HT1 HCl
      have hN8 : w.heap.size + 1 < w3.heap.size := by have := cell_lt HR3.out.c0; simpa using this
      have HI0 : Hid (OnI w w3.heap.size t (.slice a t.items.length c) ls (w3.alloc (.cells #[.int .i64 6, .int .i64 0, .string ⟨#[]⟩, .slice none 0 0] 24)) 0 six26 none 0) := ⟨bx_alloc w3 six26 _, HT3.out.keeps ((Grew.refl _).alloc _).below, HR3.out.keeps ((Grew.refl _).alloc _).below, liesX_nil _ _ _ _ _, ⟨six_right, six_dp⟩, rfl, hb4.alloc hb4.size _⟩
      clear hb4 HR3 HT3
      go_wp2_with fail
      generalize w3.heap.size = N8 at *
      go_loopg [29] ls.length (fun g i wr => ∃ (j : Nat) (out : VT) (oa : Option Addr) (oc : Nat), i = .int .i64 (j : Int) ∧ j ≤ ls.length ∧ g = ls.length - j ∧ Hid (OnI w N8 t (.slice a t.items.length c) ls wr j out oa oc))
      case atStart => exact ⟨0, six26, none, 0, rfl, Nat.zero_le _, rfl, HI0⟩
      case round =>
        obtain ⟨j, out, oa, oc, rfl, hj, hk, HI⟩ := hrel
        have Hk : Hid _ := hk
        clear hk HI0
        by_cases hlt : j < ls.length
        · have hji : (j : Int) < (ls.length : Nat) := by omega
          obtain ⟨b1, o1, rfl, hall1⟩ := Hrow.out (by intro e; simp [e] at hlt)
          obtain ⟨pv, p0, p1⟩ := hall1 j hlt
          clear hall1
          obtain ⟨ax, cx, rfl, _⟩ := Lies.slice p1
          have p0 := cell_keeps HI.out.below p0
          obtain ⟨k1, k2, k3⟩ := HPth.out j hlt _ p1
          have HPj : Hid (LiesX (fun b => b < w.heap.size) 17 w ls[j] (.slice ax ls[j].length cx) ∧ (∀ x ∈ ls[j], rightV 16 x = true ∧ Dp 16 x) ∧ ls[j].length ≤ 16) := ⟨LiesX.of_lies k1, k2, k3⟩
          have Hd : Hid (ls.drop j = ls[j] :: ls.drop (j + 1)) := List.drop_eq_getElem_cons hlt
          clear p1 k1 k2 k3
          generalize ls[j] = p at *
          have HAt : Hid (Calls Try.prog 25 #[.agg #[.int .i64 t.kind, .int .i64 t.num, .string t.text, .slice a t.items.length c], .slice ax p.length cx] wr (AtPost (fun b => b < w.heap.size) t p wr)) := at_any p (fun b => b < w.heap.size) t a c _ wr (HTx.out.1.keeps HI.out.below) HTx.out.2.1 (HPj.out.1.keeps HI.out.below) HPj.out.2.2
          obtain ⟨t0, t1, t2, t3, _, _, _, _⟩ := HI.out.tbox
          go_wp2_with fail
          refine Calls.mono HAt.out ?_
          rintro e w5 ⟨xa, xc, rfl, hx5, hb5⟩
          obtain ⟨V, hV⟩ : ∃ V, V = w5.alloc (.cells #[.int .i64 (atR t p).kind, .int .i64 (atR t p).num, .string (atR t p).text, .slice xa (atR t p).items.length xc] 24) := ⟨_, rfl⟩
          have hbV : Below wr.heap.size wr V := by rw [hV]; exact hb5.alloc hb5.size _
          have HV : Hid (w5.alloc (.cells #[.int .i64 (atR t p).kind, .int .i64 (atR t p).num, .string (atR t p).text, .slice xa (atR t p).items.length xc] 24) = V) := hV.symm
          have HXb : Hid (Bx V w5.heap.size (atR t p) (.slice xa (atR t p).items.length xc)) := by rw [hV]; exact bx_alloc w5 _ _
          have HXl : Hid (LiesX (fun b => b < w.heap.size) 16 V (atR t p).items (.slice xa (atR t p).items.length xc)) := by rw [hV]; exact hx5.keeps ((Grew.refl w5).alloc _).below
          clear hx5 hV HAt p0 t0 t1 t2 t3
          go_upto_region 12 with fail
          rw [HV.out]
          clear HV
          cases hat : atT t p with
          | none =>
            have hB : atB t p = false := by unfold atB; rw [hat]; rfl
            have HI2 : Hid (OnI w N8 t (.slice a t.items.length c) ls V (j + 1) out oa oc) := HI.out.keeps hbV (by rw [HI.out.eq, Hd.out, onl_none hat])
            rw [hB]
            clear hB hat HXb HXl hbV hb5 Hd HPj HI
            go_wp2_with fail
            go_roundg (ls.length - (j + 1))
            case measure => have := Hk.out; omega
            case rel => exact ⟨j + 1, out, oa, oc, by go_num, by omega, rfl, HI2⟩
          | some x =>
            have hB : atB t p = true := by unfold atB; rw [hat]; rfl
            have hR : atR t p = x := by unfold atR; rw [hat]; rfl
            rw [hB]
            rw [hR] at HXb HXl ⊢
            have Hxr : Hid (rightV 16 x = true ∧ Dp 16 x) := at_right p t x HTx.out.2.1 HTx.out.2.2 hat
            have Hat : Hid (atT t p = some x) := hat
            clear hB hR hat
            have hNV : N8 < V.heap.size := by have := cell_lt HI.out.box.c0; have := hbV.size; simp at *; omega
            have hwV : Below w.heap.size w V := HI.out.below.trans (hbV.mono HI.out.below.size)
            have Hxt : Hid (x.text.size ≤ 9223372036854775807) := by have := right_size Hxr.out.1; show _ ≤ _; omega
            have HPf : Hid _ := put_fit (fun b => (b < w.heap.size ∨ N8 < b) ∧ b < V.heap.size) out x p oa xa oc xc (.slice ax p.length cx) V (fun b hb => hb.2) ((HI.out.lies.keeps hbV).both) HI.out.right ((HPj.out.1.keeps hwV).both.mono (fun b hb => ⟨.inl hb.1, hb.2⟩)) HPj.out.2.1 HPj.out.2.2 (HXl.out.both.mono (fun b hb => ⟨.inl hb.1, hb.2⟩)) Hxr.out Hxt.out
            have HOV : Hid (Bx V N8 out (.slice oa out.items.length oc)) := HI.out.box.keeps hbV
            have HTV : Hid (Bx V w.heap.size t (.slice a t.items.length c)) := HI.out.tbox.keeps hbV
            have HRV : Hid (Bx V (w.heap.size + 1) zeroT (.slice none 0 0)) := HI.out.res.keeps hbV
            have HSt : Hid (stE out p x = 0 → rightV 16 (stR out p x) = true ∧ Dp 16 (stR out p x)) := fun h => st_right HI.out.right Hxr.out HPj.out.2.1 HPj.out.2.2 h
            have HOk : Hid (stE out p x = 0 → onlS t six26 ls = onlS t (stR out p x) (ls.drop (j + 1))) := fun h => by rw [HI.out.eq, Hd.out, onl_ok Hat.out h]
            have HEr : Hid (¬ stE out p x = 0 → onlS t six26 ls = (nilT, stE out p x)) := fun h => by rw [HI.out.eq, Hd.out, onl_err Hat.out h]
            obtain ⟨n11, hn11⟩ : ∃ n, n = w5.heap.size := ⟨_, rfl⟩
            rw [← hn11] at HXb ⊢
            clear hn11
            obtain ⟨o0, o1, o2, o3, _, _, _, _⟩ := HOV.out
            obtain ⟨x0, x1, x2, x3, _, _, _, _⟩ := HXb.out
            clear HI HXb HXl Hd HPj Hxr Hxt Hat hb5 hbV
            generalize stE out p x = E at *
            generalize stR out p x = r at *
            go_wp2_with fail
            refine Calls.mono HPf.out ?_
            rintro e w7 ⟨k7, n7, tx7, a7, l7, c7, E7, rfl, HFt, hb7⟩
            have HO7 : Hid (Bx w7 N8 out (.slice oa out.items.length oc)) := HOV.out.keeps hb7
            have HT7 : Hid (Bx w7 w.heap.size t (.slice a t.items.length c)) := HTV.out.keeps hb7
            have HR7 : Hid (Bx w7 (w.heap.size + 1) zeroT (.slice none 0 0)) := HRV.out.keeps hb7
            have hw7 : Below w.heap.size w w7 := hwV.trans (hb7.mono hwV.size)
            clear hb7 HPf HOV HTV HRV o0 o1 o2 o3 x0 x1 x2 x3 hwV
            go_wp2_with fail
            refine Calls.mono HFt.out ?_
            rintro e w8 ⟨a8, c8, rfl, hl8, hb8⟩
            have HO8 : Hid (Bx w8 N8 out (.slice oa out.items.length oc)) := HO7.out.keeps hb8
            have HT8 : Hid (Bx w8 w.heap.size t (.slice a t.items.length c)) := HT7.out.keeps hb8
            have HR8 : Hid (Bx w8 (w.heap.size + 1) zeroT (.slice none 0 0)) := HR7.out.keeps hb8
            have hw8 : Below w.heap.size w w8 := hw7.trans (hb8.mono hw7.size)
            obtain ⟨w9, hw9⟩ : ∃ w9, w9 = w8.setCells N8 0 (encP (r, .slice a8 r.items.length c8)) := ⟨_, rfl⟩
            have HO9 : Hid (Bx w9 N8 r (.slice a8 r.items.length c8)) := by rw [hw9]; exact HO8.out.put _
            have HT9 : Hid (Bx w9 w.heap.size t (.slice a t.items.length c)) := by rw [hw9]; exact HT8.out.other (by omega) _
            have HR9 : Hid (Bx w9 (w.heap.size + 1) zeroT (.slice none 0 0)) := by rw [hw9]; exact HR8.out.other (by omega) _
            have hb9 : Below w.heap.size w w9 := by rw [hw9]; exact below_put hw8 (by omega) _
            have HL9 : Hid (LiesX (fun b => b < w.heap.size ∨ N8 < b) 16 w9 r.items (.slice a8 r.items.length c8)) := by
              rw [hw9]
              refine (LiesX.set (g := N8) (fun h => ?_) hl8).mono (fun b h => ?_)
              · rcases h with ⟨h | h, _⟩ | h
                · omega
                · omega
                · omega
              · rcases h with ⟨h, _⟩ | h
                · exact h
                · exact .inr (by omega)
            have Hw9 : Hid (w9 = w8.setCells N8 0 (encP (r, .slice a8 r.items.length c8))) := hw9
            obtain ⟨o0, o1, o2, o3, f0, f1, f2, f3⟩ := HO8.out
            clear hw9 hl8 hb8 HFt HO7 HT7 HR7 HO8 HT8 HR8 hw7 hw8
            go_upto_region 15 with fail
            simp only [World.setCells, encP, Nat.zero_add, Nat.reduceAdd] at Hw9
            rw [← Hw9.out]
            clear Hw9 o0 o1 o2 o3 f0 f1 f2 f3
            by_cases hE : E = 0
            · have HI2 : Hid (OnI w N8 t (.slice a t.items.length c) ls w9 (j + 1) r a8 c8) := ⟨HO9.out, HT9.out, HR9.out, HL9.out, HSt.out hE, HOk.out hE, hb9⟩
              subst hE
              clear HO9 HT9 HR9 HL9 hb9 HSt HOk HEr
              go_wp2_with fail
              go_roundg (ls.length - (j + 1))
              case measure => have := Hk.out; omega
              case rel => exact ⟨j + 1, r, a8, c8, by go_num, by omega, rfl, HI2⟩
            · have hfin := HF.out _ _ (HEr.out hE)
              have hE' : (E != 0) = true := by simpa using hE
              have HE : Hid (∀ W, Below w.heap.size w W → PP (.returned (.tuple #[.agg #[.int .i64 0, .int .i64 0, .string ⟨#[]⟩, .slice none 0 0], .int .i64 E])) W) := fun W hW => by
                rw [← HPP.out, hfin.1, hfin.2, if_neg hE]
                exact vPost_nil hW
              clear hfin hE HO9 HT9 HL9 HSt HOk HEr HF
              have HE1 : Hid (PP (.returned (.tuple #[.agg #[.int .i64 0, .int .i64 0, .string ⟨#[]⟩, .slice none 0 0], .int .i64 E])) (w9.setCells (w.heap.size + 1) 0 (encP (zeroT, .slice none 0 0)))) := HE.out _ (below_put hb9 (by omega) _)
              have Hq : Hid (Bx (w9.setCells (w.heap.size + 1) 0 (encP (zeroT, .slice none 0 0))) (w.heap.size + 1) zeroT (.slice none 0 0)) := HR9.out.put (zeroT, .slice none 0 0)
              obtain ⟨z0, z1, z2, z3, g0, g1, g2, g3⟩ := HR9.out
              go_wp2_with fail
              refine bodyPost_ret (v := .tuple #[.agg #[.int .i64 0, .int .i64 0, .string ⟨#[]⟩, .slice none 0 0], .int .i64 E]) ?_ rfl HE1.out
              obtain ⟨q0, q1, q2, q3, _, _, _, _⟩ := Hq.out
              simp only [World.setCells, encP, Nat.zero_add, Nat.reduceAdd] at q0 q1 q2 q3
              simp [results, Try.results21, go_sem, q0, q1, q2, q3]
        · obtain rfl : j = ls.length := by omega
          have hji : ¬ (ls.length : Int) < (ls.length : Nat) := by omega
          have hfin := HF.out out 0 (by rw [HI.out.eq, List.drop_length]; rfl)
          rw [if_pos rfl] at hfin
          have HC : Hid (Calls Try.prog 26 #[.agg #[.int .i64 out.kind, .int .i64 out.num, .string out.text, .slice oa out.items.length oc]] wr (CopyPost 16 out wr)) := copy_right out _ wr HI.out.lies.lies HI.out.right.1
          have HRe : Hid (Bx wr (w.heap.size + 1) zeroT (.slice none 0 0)) := HI.out.res
          have hbw : Below w.heap.size w wr := HI.out.below
          have HPP2 : Hid (VPost out 0 w = PP) := by show _ = _; rw [← HPP.out, hfin.1, hfin.2]
          obtain ⟨o0, o1, o2, o3, _, _, _, _⟩ := HI.out.box
          clear HI hfin HF HPP
          go_wp2_with fail
          refine Calls.mono HC.out ?_
          rintro e w4 ⟨v4, rfl, hl4, hb4⟩
          have hb5 : Below w.heap.size w w4 := hbw.trans (hb4.mono hbw.size)
          obtain ⟨a4, c4, rfl, _⟩ := LiesB.slice hl4
          have HR4 : Hid (Bx w4 (w.heap.size + 1) zeroT (.slice none 0 0)) := HRe.out.keeps hb4
          have hsz : w.heap.size + 1 < wr.heap.size := by have := cell_lt HRe.out.c0; simpa using this
          have HE1 : Hid (PP (.returned (.tuple #[.agg #[.int .i64 out.kind, .int .i64 out.num, .string out.text, .slice a4 out.items.length c4], .int .i64 0])) (w4.setCells (w.heap.size + 1) 0 (encP (out, .slice a4 out.items.length c4)))) := by
            show PP _ _
            rw [← HPP2.out]
            exact ⟨_, rfl, LiesX.mono (fun b hb => by omega) (LiesX.set (g := w.heap.size + 1) (by omega) (LiesX.of_b hl4)), below_put hb5 (by omega) _⟩
          have Hq : Hid (Bx (w4.setCells (w.heap.size + 1) 0 (encP (out, .slice a4 out.items.length c4))) (w.heap.size + 1) out (.slice a4 out.items.length c4)) := HR4.out.put (out, .slice a4 out.items.length c4)
          obtain ⟨z0, z1, z2, z3, g0, g1, g2, g3⟩ := HR4.out
          clear hl4 hb4 hb5 HR4 HRe HC HPP2 o0 o1 o2 o3 hsz hbw
          generalize out.items.length = lo at *
          go_wp2_with fail
          refine bodyPost_ret (v := .tuple #[.agg #[.int .i64 out.kind, .int .i64 out.num, .string out.text, .slice a4 lo c4], .int .i64 0]) ?_ rfl HE1.out
          obtain ⟨q0, q1, q2, q3, _, _, _, _⟩ := Hq.out
          simp only [World.setCells, encP, Nat.zero_add, Nat.reduceAdd] at q0 q1 q2 q3
          simp [results, Try.results21, go_sem, q0, q1, q2, q3]
    · have e1 : onlE d t ls = lstsE d ls := by unfold onlE; rw [if_pos hrt, if_neg hle]
      have e2 : onlR d t ls = nilT := by unfold onlR; rw [e1, if_neg hle]
      rw [e1, e2]
      have HE : Hid (∀ W, Below w.heap.size w W → VPost nilT (lstsE d ls) w (.returned (.tuple #[.agg #[.int .i64 0, .int .i64 0, .string ⟨#[]⟩, .slice none 0 0], .int .i64 (lstsE d ls)])) W) := fun W hW => vPost_nil hW
      generalize VPost nilT (lstsE d ls) w = PP at *
      clear e1 e2 hrt hv hs hl e3
      generalize lstsE d ls = E at *
      have hle' : (E != 0) = true := by simpa using hle
      go_enter Try.func21, Try.ntmps21
      go_upto_region 1 with fail
      rw [← HW0.out]
      clear HW0
      go_wp2_with fail
      refine Calls.mono HCk.out ?_
      rintro e w1 ⟨rfl, hg1⟩
      have hb2 : Below w.heap.size w w1 := hb0.trans (hg1.mono hb0.size)
      have HR1 : Hid (Bx w1 (w.heap.size + 1) zeroT (.slice none 0 0)) := HR.out.keeps hg1
      have HT1 : Hid (Bx w1 w.heap.size t (.slice a t.items.length c)) := HT.out.keeps hg1
      clear hg1 hb0 HR HT HCk t0 t1 t2 t3
      go_wp2_with fail
      refine Calls.mono (HCl.out _ hb2) ?_
      rintro e w3 ⟨rfl, hg3⟩
      have hb4 : Below w.heap.size w w3 := hb2.trans (hg3.mono hb2.size)
      have HR3 : Hid (Bx w3 (w.heap.size + 1) zeroT (.slice none 0 0)) := HR1.out.keeps hg3
      have HT3 : Hid (Bx w3 w.heap.size t (.slice a t.items.length c)) := HT1.out.keeps hg3
      clear hg3 hb2 HR1 HT1 HCl
      have HE1 : Hid (PP (.returned (.tuple #[.agg #[.int .i64 0, .int .i64 0, .string ⟨#[]⟩, .slice none 0 0], .int .i64 E])) (w3.setCells (w.heap.size + 1) 0 (encP (zeroT, .slice none 0 0)))) := HE.out _ (below_put hb4 (by omega) _)
      have Hq : Hid (Bx (w3.setCells (w.heap.size + 1) 0 (encP (zeroT, .slice none 0 0))) (w.heap.size + 1) zeroT (.slice none 0 0)) := HR3.out.put (zeroT, .slice none 0 0)
      obtain ⟨z0, z1, z2, z3, g0, g1, g2, g3⟩ := HR3.out
      go_wp2_with fail
      refine bodyPost_ret (v := .tuple #[.agg #[.int .i64 0, .int .i64 0, .string ⟨#[]⟩, .slice none 0 0], .int .i64 E]) ?_ rfl HE1.out
      obtain ⟨q0, q1, q2, q3, _, _, _, _⟩ := Hq.out
      simp only [World.setCells, encP, Nat.zero_add, Nat.reduceAdd] at q0 q1 q2 q3
      simp [results, Try.results21, go_sem, q0, q1, q2, q3]
  · have hrf : rightV d t = false := by simpa using hrt
    have e3 : errOf (rightV d t) = 3 := by rw [hrf]; rfl
    rw [e3] at HCk
    have e1 : onlE d t ls = 3 := by unfold onlE; rw [if_neg hrt]
    have e2 : onlR d t ls = nilT := by unfold onlR; rw [e1]; rfl
    rw [e1, e2]
    have HE : Hid (∀ W, Below w.heap.size w W → VPost nilT 3 w (.returned (.tuple #[.agg #[.int .i64 0, .int .i64 0, .string ⟨#[]⟩, .slice none 0 0], .int .i64 3])) W) := fun W hW => vPost_nil hW
    generalize VPost nilT 3 w = PP at *
    clear e1 e2 e3 hrt hrf hv hs hl HCl
    go_enter Try.func21, Try.ntmps21
    go_upto_region 1 with fail
    rw [← HW0.out]
    clear HW0
    go_wp2_with fail
    refine Calls.mono HCk.out ?_
    rintro e w1 ⟨rfl, hg1⟩
    have hb2 : Below w.heap.size w w1 := hb0.trans (hg1.mono hb0.size)
    have HR1 : Hid (Bx w1 (w.heap.size + 1) zeroT (.slice none 0 0)) := HR.out.keeps hg1
    have HT1 : Hid (Bx w1 w.heap.size t (.slice a t.items.length c)) := HT.out.keeps hg1
    clear hg1 hb0 HR HT HCk t0 t1 t2 t3
    have HE1 : Hid (PP (.returned (.tuple #[.agg #[.int .i64 0, .int .i64 0, .string ⟨#[]⟩, .slice none 0 0], .int .i64 3])) (w1.setCells (w.heap.size + 1) 0 (encP (zeroT, .slice none 0 0)))) := HE.out _ (below_put hb2 (by omega) _)
    have Hq : Hid (Bx (w1.setCells (w.heap.size + 1) 0 (encP (zeroT, .slice none 0 0))) (w.heap.size + 1) zeroT (.slice none 0 0)) := HR1.out.put (zeroT, .slice none 0 0)
    obtain ⟨z0, z1, z2, z3, g0, g1, g2, g3⟩ := HR1.out
    go_wp2_with fail
    refine bodyPost_ret (v := .tuple #[.agg #[.int .i64 0, .int .i64 0, .string ⟨#[]⟩, .slice none 0 0], .int .i64 3]) ?_ rfl HE1.out
    obtain ⟨q0, q1, q2, q3, _, _, _, _⟩ := Hq.out
    simp only [World.setCells, encP, Nat.zero_add, Nat.reduceAdd] at q0 q1 q2 q3
    simp [results, Try.results21, go_sem, q0, q1, q2, q3]

end Go.Proofs.Ytofceccicmlmoaa

