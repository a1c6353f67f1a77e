/-
  TvecNil.
-/
import Derived.Test.YtegknglhfpgpoaaGreatHeightLaw
import Derived.Test.YtegknglhfpgpoaaGreatVals
import Derived.Test.YtegknglhfpgpoaaGreatRList
import Derived.Deep.RegionHeld3
namespace Go.Proofs.YtegknglhfpgpoaaGreat
open Go.RowKit

/-- A list is told, or an error. -/
def LstPost (r : List VT ⊕ Nat) (w : World) (e : Ending) (w' : World) : Prop :=
  Below w.heap.size w w' ∧ match r with
  | .inl m => ∃ a c, e = .returned (.tuple #[.slice a m.length c, .int .i64 0]) ∧ Lies 17 w' m (.slice a m.length c)
  | .inr k => e = .returned (.tuple #[.slice none 0 0, .int .i64 (k : Int)])

theorem src_of {w : World} {l : List VT} {a : Option Addr} {c : Nat} (h : Lies 17 w l (.slice a l.length c)) : ∃ ps : List (VT × Value), ps.map (·.1) = l ∧ ps.length = l.length ∧ Src w a l.length 4 (ps.flatMap encP) ∧ ∀ p ∈ ps, Sound 16 w p := by
  obtain ⟨ps, h1, h2, h3⟩ := SlP.of_lies h
  obtain ⟨_, _, e, _, _, _, h4⟩ := id h3
  exact ⟨ps, h1, h2, SlP.src h3, h4⟩

set_option maxRecDepth 100000 in
set_option maxHeartbeats 8000000 in
theorem rpush_any (n : Nat) (l : List VT) (a : Option Addr) (c : Nat) (x : VT) (ax : Option Addr) (cx : Nat) (w : World) (hl : Lies 17 w l (.slice a l.length c)) (hlen : l.length ≤ 65536) (hx : Lies n w x.items (.slice ax x.items.length cx)) (hts : x.text.size ≤ 9223372036854775807) :
    Calls Tryz.prog 45 #[.slice a l.length c, .agg #[.int .i64 x.kind, .int .i64 x.num, .string x.text, .slice ax x.items.length cx]] w (LstPost (pushN n l x) w) := by
  obtain ⟨i0, hi, hz0, hz1, hz2⟩ := info24
  have Hi : Hid _ := hi; have Hz0 : Hid _ := hz0; have Hz1 : Hid _ := hz1; have Hz2 : Hid _ := hz2
  obtain ⟨wA, hwA⟩ : ∃ wA, wA = w.alloc (.cells #[.int .i64 x.kind, .int .i64 x.num, .string x.text, .slice ax x.items.length cx] 34) := ⟨_, rfl⟩
  have hbA : Below w.heap.size w wA := by rw [hwA]; exact ((Grew.refl w).alloc _).below
  have HRt : Hid _ := right_any n x (.slice ax x.items.length cx) wA (Lies.keeps hbA _ _ _ hx)
  have HBx : Hid (Bx wA w.heap.size x (.slice ax x.items.length cx)) := by rw [hwA]; exact bx_alloc w x _
  obtain ⟨x0, x1, x2, x3, _, _, _, _⟩ := HBx.out
  have HwA : Hid (wA = w.alloc (.cells #[.int .i64 x.kind, .int .i64 x.num, .string x.text, .slice ax x.items.length cx] 34)) := hwA
  obtain ⟨R, hR⟩ : ∃ R, R = pushN n l x := ⟨_, rfl⟩
  rw [← hR]
  unfold pushN at hR
  clear hi hz0 hz1 hz2
  rw [hwA] at HRt x0 x1 x2 x3
  by_cases hr : rightV n x = true
  · rw [if_pos hr] at hR
    rw [hr] at HRt
    by_cases hs : l.length + 1 ≤ 65536
    · rw [if_pos hs] at hR
      have HR : Hid (R = .inl (l ++ [x])) := hR
      obtain ⟨ps, hp1, hp2, hsrc, hsd⟩ := src_of hl
      have HS : Hid (Src w a l.length 4 (ps.flatMap encP)) := hsrc
      have Hx16 : Hid (Lies 16 w x.items (.slice ax x.items.length cx)) := (canon hx hr).1
      obtain ⟨L, hL⟩ : ∃ L, L = l.length := ⟨_, rfl⟩
      rw [← hL] at hs HS ⊢
      have hLi : ¬ ((L : Nat) : Int) = 65536 := by omega
      have HF : Hid (∀ (v : Value) (w' : World), w'.ownsRow w.heap.size 34 4 v (L + 1) (ps.flatMap encP ++ encP (x, .slice ax x.items.length cx)) → Below w.heap.size w w' → ∃ a c, v = .slice a (l ++ [x]).length c ∧ LstPost R w (.returned (.tuple #[v, .int .i64 0])) w') := fun v w' ho hb => by
        have hl9 := own_lies (ps := ps ++ [(x, .slice ax x.items.length cx)]) (d := 16) (n := L + 1) (by rw [List.length_append, hp2, hL]; rfl) (by rw [List.flatMap_append]; simpa using ho) (fun p hp => by
          rcases List.mem_append.1 hp with hp | hp
          · exact (hsd p hp).keeps hb
          · rw [List.mem_singleton.1 hp]
            exact ⟨Lies.keeps hb _ _ _ Hx16.out, hts⟩) (by rw [List.length_append, hp2]; simp; omega)
        have e9 : (ps ++ [(x, Value.slice ax x.items.length cx)]).map (·.1) = l ++ [x] := by rw [List.map_append, hp1]; rfl
        rw [e9] at hl9
        obtain ⟨a9, c9, rfl, _⟩ := Lies.slice hl9
        refine ⟨a9, c9, rfl, ?_⟩
        rw [HR.out]
        exact ⟨hb, a9, c9, rfl, hl9⟩
      clear hl hlen hx hr hR hp1 hsd hsrc hL hwA hts
      go_enter Tryz.func45, Tryz.ntmps45
      go_wp2_with fail
      refine Calls.mono HRt.out ?_
      rintro e w1 ⟨rfl, hg1⟩
      rw [← HwA.out] at hg1
      have hb1 : Below w.heap.size w w1 := hbA.trans (hg1.mono hbA.size)
      have HB1 : Hid (Bx w1 w.heap.size x (.slice ax x.items.length cx)) := HBx.out.keeps hg1
      have hs1 : w.heap.size ≤ w1.heap.size := hb1.size
      clear HRt x0 x1 x2 x3 HBx HwA hg1 hbA
      have Hnil : Hid (w1.ownsRow w.heap.size 34 4 (.slice none 0 0) 0 []) := World.ownsRow_nil _ _ _ _
      have HFa : Hid (∀ v2 w2, w2.ownsRow w.heap.size 34 4 v2 (0 + L) ([] ++ ps.flatMap encP) → w1.grownBy w2 (Value.slice none 0 0).ownBlock → Bx w2 w.heap.size x (.slice ax x.items.length cx) ∧ Below w.heap.size w (w2.alloc (.cells #[.int .i64 x.kind, .int .i64 x.num, .string x.text, .slice ax x.items.length cx] 34)) ∧ (w2.alloc (.cells #[.int .i64 x.kind, .int .i64 x.num, .string x.text, .slice ax x.items.length cx] 34)).ownsRow w.heap.size 34 4 v2 L (ps.flatMap encP) ∧ (∀ ad, some (⟨w2.heap.size, 0, none⟩ : Addr) = some ad → ∀ j u, (encP (x, .slice ax x.items.length cx))[j]? = some u → (w2.alloc (.cells #[.int .i64 x.kind, .int .i64 x.num, .string x.text, .slice ax x.items.length cx] 34)).cell? (ad.add j) = some u)) := fun v2 w2 hown2 hgrow2 => by
        have hb2 : Below w.heap.size w w2 := own_growM hb1 hs1 Hnil.out hgrow2
        have hbx : Below w2.heap.size w2 (w2.alloc (.cells #[.int .i64 x.kind, .int .i64 x.num, .string x.text, .slice ax x.items.length cx] 34)) := ((Grew.refl w2).alloc _).below
        refine ⟨HB1.out.keeps ⟨hgrow2.os, hgrow2.tape, hgrow2.output, hgrow2.size, fun k hk => hgrow2.block k hk (by simp [Value.ownBlock])⟩, hb2.trans (hbx.mono hb2.size), World.ownsRow.alloc (by simpa using hown2) _, fun ad e j u hu => ?_⟩
        injection e with e
        subst e
        match j, hu with
        | 0, hu => simp [encP] at hu; subst hu; simp [Addr.add]
        | 1, hu => simp [encP] at hu; subst hu; simp [Addr.add]
        | 2, hu => simp [encP] at hu; subst hu; simp [Addr.add]
        | 3, hu => simp [encP] at hu; subst hu; simp [Addr.add]
      go_wp2_with (first
        | (at_builtin; refine wpList_append_row rfl _ _ rfl w.heap.size i0 Hi.out Hz0.out Hz1.out Hz2.out v2 L (ps.flatMap encP) rfl Hown3.out (some ⟨w2.heap.size, 0, none⟩) 1 1 (encP (x, .slice ax x.items.length cx)) rfl (fun e => nomatch e) rfl Hnews.out (by intro u hu; simp [encP] at hu; rcases hu with rfl | rfl | rfl | rfl <;> rfl) (by unfold maxLen; omega) (by omega) Hb3.out.size ?_; intro v4 w4 hown4 hgrow4)
        | (at_builtin; refine wpList_append_row rfl _ _ rfl w.heap.size i0 Hi.out Hz0.out Hz1.out Hz2.out (.slice none 0 0) 0 [] rfl Hnil.out a L c (ps.flatMap encP) rfl HS.out.none HS.out.len (HS.out.cell hb1) HS.out.one (by unfold maxLen; omega) (by omega) hs1 ?_; intro v2 w2 hown2 hgrow2; obtain ⟨hBx2, hb3, hown3, hnews⟩ := HFa.out v2 w2 hown2 hgrow2; obtain ⟨x0, x1, x2, x3, _, _, _, _⟩ := hBx2; have Hb3 : Hid _ := hb3; have Hown3 : Hid _ := hown3; have Hnews : Hid _ := hnews; clear hown2 hgrow2 hb3 hown3 hnews HFa))
      have hb4 : Below w.heap.size w w4 := own_growM Hb3.out Hb3.out.size Hown3.out hgrow4
      obtain ⟨a4, c4, rfl, hfin⟩ := HF.out v4 w4 hown4 hb4
      have HE : Hid _ := hfin
      clear hown4 hgrow4 hfin
      go_wp2_with fail
      go_ret2
      exact HE.out
    · rw [if_neg hs] at hR
      have HR : Hid (R = .inr 2) := hR
      have hL : l.length = 65536 := by omega
      clear hl hx hr hR hwA hts hs hlen
      rw [hL]
      go_enter Tryz.func45, Tryz.ntmps45
      go_wp2_with fail
      refine Calls.mono HRt.out ?_
      rintro e w1 ⟨rfl, hg1⟩
      rw [← HwA.out] at hg1
      have HE : Hid (LstPost R w (.returned (.tuple #[.slice none 0 0, .int .i64 2])) w1) := by
        show LstPost _ _ _ _
        rw [HR.out]
        exact ⟨hbA.trans (hg1.mono hbA.size), rfl⟩
      clear HRt x0 x1 x2 x3 HBx HwA hg1 hbA
      go_wp2_with fail
      go_ret2
      exact HE.out
  · rw [if_neg hr] at hR
    have hr' : rightV n x = false := by simpa using hr
    rw [hr'] at HRt
    have HR : Hid (R = .inr 3) := hR
    clear hl hx hr hr' hR hwA hts hlen
    go_enter Tryz.func45, Tryz.ntmps45
    go_wp2_with fail
    refine Calls.mono HRt.out ?_
    rintro e w1 ⟨rfl, hg1⟩
    rw [← HwA.out] at hg1
    have HE : Hid (LstPost R w (.returned (.tuple #[.slice none 0 0, .int .i64 3])) w1) := by
      show LstPost _ _ _ _
      rw [HR.out]
      exact ⟨hbA.trans (hg1.mono hbA.size), rfl⟩
    clear HRt x0 x1 x2 x3 HBx HwA hg1 hbA
    go_wp2_with fail
    go_ret2
    exact HE.out

end Go.Proofs.YtegknglhfpgpoaaGreat

namespace Go.Proofs.YtegknglhfpgpoaaGreat
open Go.RowKit

/-- A value and an error are told; the value lies in new blocks. -/
def TellsB (d : Nat) (a : VT × Int) (w : World) (e : Ending) (w' : World) : Prop :=
  ∃ v, e = .returned (.tuple #[.agg #[.int .i64 a.1.kind, .int .i64 a.1.num, .string a.1.text, v], .int .i64 a.2]) ∧ LiesB w.heap.size d w' a.1.items v ∧ Below w.heap.size w w'

theorem liesB_nil' (b d : Nat) (w : World) : LiesB b d w [] (.slice none 0 0) := by
  cases d with
  | zero => exact ⟨rfl, none, 0, rfl⟩
  | succ d => exact ⟨none, 0, rfl, by simp, fun h => absurd rfl h⟩

/-- An empty vector, nil or not. -/
theorem vv_nil (w : World) : VV w [] (.pointer none) := ⟨.inl ⟨rfl, rfl⟩, by simp, rfl⟩

set_option maxRecDepth 100000 in
theorem new_any (w : World) : Calls Tryz.prog 43 #[] w fun e w' => ∃ b, e = .returned (.pointer (some ⟨b, 0, none⟩)) ∧ VV w' [] (.pointer (some ⟨b, 0, none⟩)) ∧ Below w.heap.size w w' := by
  have HE : Hid (VV (w.alloc (.cells #[.nilIface] 80)) [] (.pointer (some ⟨w.heap.size, 0, none⟩)) ∧ Below w.heap.size w (w.alloc (.cells #[.nilIface] 80))) := ⟨⟨VC.made (.inl ⟨rfl, rfl⟩) _, by simp, rfl⟩, ((Grew.refl w).alloc _).below⟩
  go_enter Tryz.func43, Tryz.ntmps43
  go_wp2_with fail
  go_ret
  exact ⟨_, rfl, HE.out.1, HE.out.2⟩

end Go.Proofs.YtegknglhfpgpoaaGreat

namespace Go.Proofs.YtegknglhfpgpoaaGreat
open Go.RowKit

set_option maxRecDepth 100000 in
theorem become_ok (h : Nat) (o v : Option Addr) (w : World) (hB : Go.Boxed w h 89 (.pointer o)) : Calls Tryz.prog 95 #[.pointer (some ⟨h, 0, none⟩), .pointer v, .int .i64 0] w fun e w' => e = .returned (.int .i64 0) ∧ w' = w.setCell ⟨h, 0, none⟩ (.pointer v) := by
  have h1 := hB.cell
  have h2 := hB.frozen
  clear hB
  go_enter Tryz.func95, Tryz.ntmps95
  go_wp2_with fail
  go_ret
  exact ⟨rfl, rfl⟩

set_option maxRecDepth 100000 in
theorem become_not (h : Nat) (v : Option Addr) (k : Nat) (hk : k ≠ 0) (w : World) : Calls Tryz.prog 95 #[.pointer (some ⟨h, 0, none⟩), .pointer v, .int .i64 (k : Int)] w fun e w' => e = .returned (.int .i64 (k : Int)) ∧ w' = w := by
  have hk0 : ¬ ((k : Nat) : Int) = 0 := by omega
  go_enter Tryz.func95, Tryz.ntmps95
  go_wp2_with fail
  go_ret
  exact ⟨rfl, rfl⟩

/-- What a call that may change a transient leaves. -/
def MvPost (N0 : Nat) (l m : List VT) (ok : Prop) (b h v : Nat) (w : World) (e : Ending) (w' : World) : Prop :=
  ∃ k : Nat, e = .returned (.int .i64 (k : Int)) ∧ Below N0 w w' ∧ KeepsNP w w' ∧ ((k = 0 ∧ ok ∧ ∃ v2, TV w' m b h v2) ∨ (k ≠ 0 ∧ ¬ ok ∧ TV w' l b h v))

theorem TV.moved {N0 : Nat} {l m : List VT} {b h v v2 : Nat} {w w1 : World} (t : TV w l b h v) (hN : N0 ≤ h) (hN2 : N0 ≤ w.heap.size) (hb : Below w.heap.size w w1) (hv : VV w1 m (.pointer (some ⟨v2, 0, none⟩))) : Below N0 w (w1.setCell ⟨h, 0, none⟩ (.pointer (some ⟨v2, 0, none⟩))) ∧ KeepsNP w (w1.setCell ⟨h, 0, none⟩ (.pointer (some ⟨v2, 0, none⟩))) ∧ TV (w1.setCell ⟨h, 0, none⟩ (.pointer (some ⟨v2, 0, none⟩))) m b h v2 := by
  have t1 := t.keeps hb
  have hk := KeepsNP.set (y := .pointer (some ⟨v2, 0, none⟩)) t1.bx
  refine ⟨(hb.mono hN2).setCell (p := ⟨h, 0, none⟩) hN _, (KeepsNP.below hb).trans hk, ⟨?_, t1.bx.set _, hv.np hk, t.ne⟩⟩
  exact (grownBy_setCell' w1 h _).cell t1.c0 (fun e => t.ne (by injection e))

set_option maxRecDepth 100000 in
set_option maxHeartbeats 8000000 in
theorem tpush_any (n : Nat) (l : List VT) (b h v : Nat) (x : VT) (ax : Option Addr) (cx : Nat) (N0 : Nat) (w : World) (t : TV w l b h v) (hN : N0 ≤ h) (hN2 : N0 ≤ w.heap.size) (hx : Lies n w x.items (.slice ax x.items.length cx)) (hts : x.text.size ≤ 9223372036854775807) :
    Calls Tryz.prog 39 #[.pointer (some ⟨b, 0, none⟩), .agg #[.int .i64 x.kind, .int .i64 x.num, .string x.text, .slice ax x.items.length cx]] w (MvPost N0 l (l ++ [x]) (rightV n x = true ∧ l.length + 1 ≤ 65536) b h v w) := by
  obtain ⟨wA, hwA⟩ : ∃ wA, wA = w.alloc (.cells #[.int .i64 x.kind, .int .i64 x.num, .string x.text, .slice ax x.items.length cx] 34) := ⟨_, rfl⟩
  have hbz : Below w.heap.size w wA := by rw [hwA]; exact ((Grew.refl w).alloc _).below
  have tA := t.keeps hbz
  have HO : Hid _ := open_any l b h v wA tA
  have HBx : Hid (Bx wA w.heap.size x (.slice ax x.items.length cx)) := by rw [hwA]; exact bx_alloc w x _
  have HP : Hid (Calls Tryz.prog 96 #[.pointer (some ⟨v, 0, none⟩), .agg #[.int .i64 x.kind, .int .i64 x.num, .string x.text, .slice ax x.items.length cx]] wA.drew fun e w1 => ∃ (o : Option Addr) (k : Nat), e = .returned (.tuple #[.pointer o, .int .i64 (k : Int)]) ∧ Calls Tryz.prog 95 #[.pointer (some ⟨h, 0, none⟩), .pointer o, .int .i64 (k : Int)] w1 (MvPost N0 l (l ++ [x]) (rightV n x = true ∧ l.length + 1 ≤ 65536) b h v w)) := by
    have hd : Below w.heap.size w wA.drew := hbz.drew
    have tD := t.keeps hd
    refine Calls.mono (push_n n l _ x ax cx wA.drew tD.vv.vc (Lies.keeps hd _ _ _ hx) hts t.vv.len) ?_
    rintro e w1 ⟨hg1, hp1⟩
    have hb1 : Below w.heap.size w w1 := hd.trans (hg1.mono hd.size)
    by_cases hr : rightV n x = true
    · by_cases hs : l.length + 1 ≤ 65536
      · have e9 : pushN n l x = .inl (l ++ [x]) := by unfold pushN; rw [if_pos hr, if_pos hs]
        rw [e9] at hp1
        obtain ⟨v2, rfl, hv2⟩ := hp1
        have hvv : VV w1 (l ++ [x]) (.pointer (some ⟨v2, 0, none⟩)) := ⟨hv2, by rw [List.length_append]; exact hs, by rw [List.all_append, t.vv.right]; simpa using (canon hx hr).2⟩
        obtain ⟨k1, k2, k3⟩ := t.moved hN hN2 hb1 hvv
        refine ⟨_, 0, rfl, Calls.mono (become_ok h _ _ w1 (t.keeps hb1).bx) ?_⟩
        rintro e w2 ⟨rfl, rfl⟩
        exact ⟨0, rfl, k1, k2, .inl ⟨rfl, ⟨hr, hs⟩, v2, k3⟩⟩
      · have e9 : pushN n l x = .inr 2 := by unfold pushN; rw [if_pos hr, if_neg hs]
        rw [e9] at hp1
        subst hp1
        refine ⟨_, 2, rfl, Calls.mono (become_not h _ 2 (by omega) w1) ?_⟩
        rintro e w2 ⟨rfl, rfl⟩
        exact ⟨2, rfl, hb1.mono hN2, KeepsNP.below hb1, .inr ⟨by omega, fun h => hs h.2, t.keeps hb1⟩⟩
    · have e9 : pushN n l x = .inr 3 := by unfold pushN; rw [if_neg hr]
      rw [e9] at hp1
      subst hp1
      refine ⟨_, 3, rfl, Calls.mono (become_not h _ 3 (by omega) w1) ?_⟩
      rintro e w2 ⟨rfl, rfl⟩
      exact ⟨3, rfl, hb1.mono hN2, KeepsNP.below hb1, .inr ⟨by omega, fun h => hr h.1, t.keeps hb1⟩⟩
  obtain ⟨x0, x1, x2, x3, _, _, _, _⟩ := HBx.out
  have h1 := tA.bx.cell
  obtain ⟨Q, hQ⟩ : ∃ Q, Q = MvPost N0 l (l ++ [x]) (rightV n x = true ∧ l.length + 1 ≤ 65536) b h v w := ⟨_, rfl⟩
  have HQ : Hid (∀ e w', Q e w' → ∃ k : Nat, e = .returned (.int .i64 (k : Int))) := fun e w' hq => by
    rw [hQ] at hq
    obtain ⟨k, he, _⟩ := hq
    exact ⟨k, he⟩
  rw [← hQ] at HP ⊢
  subst hwA
  clear t hN hN2 hx hts tA hQ HBx
  go_enter Tryz.func39, Tryz.ntmps39
  go_wp2_with fail
  refine Calls.mono HO.out ?_
  rintro e w1 ⟨rfl, rfl⟩
  clear HO
  go_wp2_with fail
  go_region_with (first
      | (go_at_call 95; refine Calls.mono HB9.out ?_; intro e w3 hq3; obtain ⟨k3, hk3⟩ := HQ.out e w3 hq3; subst hk3; have HE : Hid _ := hq3; clear hq3)
      | (go_at_call 96; refine Calls.mono HP.out ?_; rintro e w2 ⟨o2, k2, rfl, hbec⟩; have HB9 : Hid _ := hbec; clear hbec))
  all_goals (first | (go_ret; exact HE.out) | (go_wp2_with fail; go_ret; exact HE.out))

end Go.Proofs.YtegknglhfpgpoaaGreat

namespace Go.Proofs.YtegknglhfpgpoaaGreat
open Go.RowKit

set_option maxRecDepth 100000 in
set_option maxHeartbeats 8000000 in
theorem tset_any (n : Nat) (l : List VT) (b h v : Nat) (i : Int) (x : VT) (ax : Option Addr) (cx : Nat) (N0 : Nat) (w : World) (t : TV w l b h v) (hN : N0 ≤ h) (hN2 : N0 ≤ w.heap.size) (hx : Lies n w x.items (.slice ax x.items.length cx)) (hts : x.text.size ≤ 9223372036854775807) :
    Calls Tryz.prog 41 #[.pointer (some ⟨b, 0, none⟩), .int .i64 i, .agg #[.int .i64 x.kind, .int .i64 x.num, .string x.text, .slice ax x.items.length cx]] w (MvPost N0 l (l.set i.toNat x) (rightV n x = true ∧ (0 ≤ i ∧ i < (l.length : Int))) b h v w) := by
  obtain ⟨wA, hwA⟩ : ∃ wA, wA = w.alloc (.cells #[.int .i64 x.kind, .int .i64 x.num, .string x.text, .slice ax x.items.length cx] 34) := ⟨_, rfl⟩
  have hbz : Below w.heap.size w wA := by rw [hwA]; exact ((Grew.refl w).alloc _).below
  have tA := t.keeps hbz
  have HO : Hid _ := open_any l b h v wA tA
  have HBx : Hid (Bx wA w.heap.size x (.slice ax x.items.length cx)) := by rw [hwA]; exact bx_alloc w x _
  have HP : Hid (Calls Tryz.prog 97 #[.pointer (some ⟨v, 0, none⟩), .int .i64 i, .agg #[.int .i64 x.kind, .int .i64 x.num, .string x.text, .slice ax x.items.length cx]] wA.drew fun e w1 => ∃ (o : Option Addr) (k : Nat), e = .returned (.tuple #[.pointer o, .int .i64 (k : Int)]) ∧ Calls Tryz.prog 95 #[.pointer (some ⟨h, 0, none⟩), .pointer o, .int .i64 (k : Int)] w1 (MvPost N0 l (l.set i.toNat x) (rightV n x = true ∧ (0 ≤ i ∧ i < (l.length : Int))) b h v w)) := by
    have hd : Below w.heap.size w wA.drew := hbz.drew
    have tD := t.keeps hd
    refine Calls.mono (vset_n n l _ i x ax cx wA.drew tD.vv.vc (Lies.keeps hd _ _ _ hx) hts (by have := t.vv.len; omega)) ?_
    rintro e w1 ⟨hg1, hp1⟩
    have hb1 : Below w.heap.size w w1 := hd.trans (hg1.mono hd.size)
    by_cases hr : rightV n x = true
    · by_cases hs : 0 ≤ i ∧ i < (l.length : Int)
      · have e9 : setN n l i x = .inl (l.set i.toNat x) := by unfold setN; rw [if_pos hr, if_pos hs]
        rw [e9] at hp1
        obtain ⟨v2, rfl, hv2⟩ := hp1
        have hvv : VV w1 (l.set i.toNat x) (.pointer (some ⟨v2, 0, none⟩)) := ⟨hv2, by rw [List.length_set]; exact t.vv.len, List.all_eq_true.2 fun y hy => (List.mem_or_eq_of_mem_set hy).elim (fun h => List.all_eq_true.1 t.vv.right y h) (fun h => by rw [h]; exact (canon hx hr).2)⟩
        obtain ⟨k1, k2, k3⟩ := t.moved hN hN2 hb1 hvv
        refine ⟨_, 0, rfl, Calls.mono (become_ok h _ _ w1 (t.keeps hb1).bx) ?_⟩
        rintro e w2 ⟨rfl, rfl⟩
        exact ⟨0, rfl, k1, k2, .inl ⟨rfl, ⟨hr, hs⟩, v2, k3⟩⟩
      · have e9 : setN n l i x = .inr 5 := by unfold setN; rw [if_pos hr, if_neg hs]
        rw [e9] at hp1
        subst hp1
        refine ⟨_, 5, rfl, Calls.mono (become_not h _ 5 (by omega) w1) ?_⟩
        rintro e w2 ⟨rfl, rfl⟩
        exact ⟨5, rfl, hb1.mono hN2, KeepsNP.below hb1, .inr ⟨by omega, fun h => hs h.2, t.keeps hb1⟩⟩
    · have e9 : setN n l i x = .inr 3 := by unfold setN; rw [if_neg hr]
      rw [e9] at hp1
      subst hp1
      refine ⟨_, 3, rfl, Calls.mono (become_not h _ 3 (by omega) w1) ?_⟩
      rintro e w2 ⟨rfl, rfl⟩
      exact ⟨3, rfl, hb1.mono hN2, KeepsNP.below hb1, .inr ⟨by omega, fun h => hr h.1, t.keeps hb1⟩⟩
  obtain ⟨x0, x1, x2, x3, _, _, _, _⟩ := HBx.out
  have h1 := tA.bx.cell
  obtain ⟨Q, hQ⟩ : ∃ Q, Q = MvPost N0 l (l.set i.toNat x) (rightV n x = true ∧ (0 ≤ i ∧ i < (l.length : Int))) b h v w := ⟨_, rfl⟩
  have HQ : Hid (∀ e w', Q e w' → ∃ k : Nat, e = .returned (.int .i64 (k : Int))) := fun e w' hq => by
    rw [hQ] at hq
    obtain ⟨k, he, _⟩ := hq
    exact ⟨k, he⟩
  rw [← hQ] at HP ⊢
  subst hwA
  clear t hN hN2 hx hts tA hQ HBx
  go_enter Tryz.func41, Tryz.ntmps41
  go_wp2_with fail
  refine Calls.mono HO.out ?_
  rintro e w1 ⟨rfl, rfl⟩
  clear HO
  go_wp2_with fail
  go_region_with (first
      | (go_at_call 95; refine Calls.mono HB9.out ?_; intro e w3 hq3; obtain ⟨k3, hk3⟩ := HQ.out e w3 hq3; subst hk3; have HE : Hid _ := hq3; clear hq3)
      | (go_at_call 97; refine Calls.mono HP.out ?_; rintro e w2 ⟨o2, k2, rfl, hbec⟩; have HB9 : Hid _ := hbec; clear hbec))
  all_goals (first | (go_ret; exact HE.out) | (go_wp2_with fail; go_ret; exact HE.out))

set_option maxRecDepth 100000 in
set_option maxHeartbeats 4000000 in
theorem tseal_any (l : List VT) (b h v : Nat) (N0 : Nat) (w : World) (t : TV w l b h v) (hN : N0 ≤ h) : Calls Tryz.prog 11 #[.pointer (some ⟨b, 0, none⟩)] w fun e w' => e = .returned (.tuple #[.pointer (some ⟨v, 0, none⟩), .int .i64 0]) ∧ Below N0 w w' ∧ KeepsNP w w' ∧ VV w' l (.pointer (some ⟨v, 0, none⟩)) ∧ TS w' b h := by
  have HO : Hid _ := open_any l b h v w t
  have hk := KeepsNP.set (y := .pointer none) t.bx
  have HE : Hid (Below N0 w (w.setCell ⟨h, 0, none⟩ (.pointer none)) ∧ KeepsNP w (w.setCell ⟨h, 0, none⟩ (.pointer none)) ∧ VV (w.setCell ⟨h, 0, none⟩ (.pointer none)) l (.pointer (some ⟨v, 0, none⟩)) ∧ TS (w.setCell ⟨h, 0, none⟩ (.pointer none)) b h) := ⟨(Below.refl _ _).setCell (p := ⟨h, 0, none⟩) hN _, hk, t.vv.np hk, ⟨(grownBy_setCell' w h _).cell t.c0 (fun e => t.ne (by injection e)), t.bx.set _⟩⟩
  have h1 := t.bx.cell
  have h2 := t.bx.frozen
  clear t hk hN
  go_enter Tryz.func11, Tryz.ntmps11
  go_wp2_with fail
  refine Calls.mono HO.out ?_
  rintro e w1 ⟨rfl, rfl⟩
  clear HO
  go_wp2_with fail
  go_ret2
  exact ⟨rfl, HE.out⟩

set_option maxRecDepth 100000 in
set_option maxHeartbeats 4000000 in
theorem tlen_any (l : List VT) (b h v : Nat) (w : World) (t : TV w l b h v) : Calls Tryz.prog 50 #[.pointer (some ⟨b, 0, none⟩)] w fun e w' => e = .returned (.tuple #[.int .i64 (l.length : Int), .int .i64 0]) ∧ Below w.heap.size w w' := by
  have HO : Hid _ := open_any l b h v w t
  have HL : Hid _ := vlen_any 16 l _ w t.vv.vc
  have h1 := t.bx.cell
  clear t
  go_enter Tryz.func50, Tryz.ntmps50
  go_wp2_with fail
  refine Calls.mono HO.out ?_
  rintro e w1 ⟨rfl, rfl⟩
  clear HO
  go_wp2_with fail
  refine Calls.mono HL.out ?_
  rintro e w2 ⟨rfl, hb2⟩
  clear HL
  go_wp2_with fail
  go_ret2
  exact ⟨rfl, hb2⟩

set_option maxRecDepth 100000 in
theorem newT_any (w : World) : Calls Tryz.prog 43 #[] w fun e w' => e = .returned (.pointer (some ⟨w.heap.size, 0, none⟩)) ∧ VV w' [] (.pointer (some ⟨w.heap.size, 0, none⟩)) ∧ Below w.heap.size w w' := by
  have HE : Hid (VV (w.alloc (.cells #[.nilIface] 80)) [] (.pointer (some ⟨w.heap.size, 0, none⟩)) ∧ Below w.heap.size w (w.alloc (.cells #[.nilIface] 80))) := ⟨⟨VC.made (.inl ⟨rfl, rfl⟩) _, by simp, rfl⟩, ((Grew.refl w).alloc _).below⟩
  go_enter Tryz.func43, Tryz.ntmps43
  go_wp2_with fail
  go_ret
  exact ⟨rfl, HE.out.1, HE.out.2⟩

set_option maxRecDepth 100000 in
set_option maxHeartbeats 4000000 in
theorem or_first (B : Nat) (p : Addr) (q : Option Addr) (w : World) (h0 : w.cell? ⟨B, 0, none⟩ = some (.pointer (some p))) (h1 : w.cell? ⟨B, 1, none⟩ = some (.pointer q)) : Calls Tryz.prog 42 #[.slice (some ⟨B, 0, none⟩) 2 2] w fun e w' => e = .returned (.pointer (some p)) ∧ w' = w := by
  go_enter Tryz.func42, Tryz.ntmps42
  go_wp2_with fail
  go_loopg [8] 2 (fun g i wr => i = .int .i64 0 ∧ g = 2 ∧ wr = w)
  case atStart => exact ⟨rfl, rfl, rfl⟩
  case round =>
    obtain ⟨rfl, hg, rfl⟩ := hrel
    go_wp2_with fail
    go_ret
    exact ⟨rfl, rfl⟩

set_option maxRecDepth 100000 in
set_option maxHeartbeats 4000000 in
theorem or_second (B : Nat) (q : Addr) (w : World) (h0 : w.cell? ⟨B, 0, none⟩ = some (.pointer none)) (h1 : w.cell? ⟨B, 1, none⟩ = some (.pointer (some q))) : Calls Tryz.prog 42 #[.slice (some ⟨B, 0, none⟩) 2 2] w fun e w' => e = .returned (.pointer (some q)) ∧ w' = w := by
  go_enter Tryz.func42, Tryz.ntmps42
  go_wp2_with fail
  go_loopg [8] 2 (fun g i wr => ((i = .int .i64 0 ∧ g = 2) ∨ (i = .int .i64 1 ∧ g = 1)) ∧ wr = w)
  case atStart => exact ⟨.inl ⟨rfl, rfl⟩, rfl⟩
  case round =>
    obtain ⟨hrel, rfl⟩ := hrel
    rcases hrel with ⟨rfl, hg⟩ | ⟨rfl, hg⟩
    · have Hg : Hid _ := hg
      clear hg
      go_wp2_with fail
      go_roundg 1
      case measure => have := Hg.out; omega
      case rel => exact ⟨.inr ⟨rfl, rfl⟩, rfl⟩
    · clear hg
      go_wp2_with fail
      go_ret
      exact ⟨rfl, rfl⟩

/-- What Begin tells. -/
def BegPost (l : List VT) (w : World) (e : Ending) (w' : World) : Prop := ∃ b h v, e = .returned (.pointer (some ⟨b, 0, none⟩)) ∧ TV w' l b h v ∧ Below w.heap.size w w' ∧ w.heap.size ≤ h ∧ w.heap.size ≤ b

set_option maxRecDepth 100000 in
set_option maxHeartbeats 4000000 in
theorem begin_any (l : List VT) (p : Value) (w : World) (hv : VV w l p) : Calls Tryz.prog 9 #[p] w (BegPost l w) := by
  have HFin : Hid (∀ (V : World) (v : Nat), Below w.heap.size w V → VV V l (.pointer (some ⟨v, 0, none⟩)) → BegPost l w (.returned (.pointer (some ⟨V.heap.size + 1, 0, none⟩))) ((V.alloc (.cells #[.pointer (some ⟨v, 0, none⟩)] 89)).alloc (.cells #[.pointer (some ⟨V.heap.size, 0, none⟩)] 91))) := fun V v hV hv => by
    have hb : Below V.heap.size V ((V.alloc (.cells #[.pointer (some ⟨v, 0, none⟩)] 89)).alloc (.cells #[.pointer (some ⟨V.heap.size, 0, none⟩)] 91)) := (((Grew.refl V).alloc _).alloc _).below
    refine ⟨V.heap.size + 1, V.heap.size, v, rfl, ⟨?_, (Go.Boxed.new V 89 _).alloc _, hv.keeps hb, by omega⟩, hV.trans (hb.mono hV.size), hV.size, by have := hV.size; omega⟩
    have h1 := (Go.Boxed.new (V.alloc (.cells #[.pointer (some ⟨v, 0, none⟩)] 89)) 91 (.pointer (some ⟨V.heap.size, 0, none⟩))).cell
    rwa [World.size_alloc] at h1
  have HNw : Hid _ := newT_any w
  obtain ⟨po, rfl⟩ := hv.vc.shape
  cases po with
  | none =>
    have hl0 : l = [] := by
      rcases hv.vc with ⟨h, _⟩ | ⟨_, _, h, _⟩
      · exact h
      · cases h
    subst hl0
    clear hv
    go_enter Tryz.func9, Tryz.ntmps9
    go_wp2_with fail
    refine Calls.mono HNw.out ?_
    rintro e w1 ⟨rfl, hv1, hb1⟩
    obtain ⟨W1, hW1⟩ : ∃ W1, W1 = w1.alloc (.cells #[.pointer none, .pointer (some ⟨w.heap.size, 0, none⟩)] 24) := ⟨_, rfl⟩
    have hbx : Below w1.heap.size w1 W1 := by rw [hW1]; exact ((Grew.refl w1).alloc _).below
    have HOr : Hid (Calls Tryz.prog 42 #[.slice (some ⟨w1.heap.size, 0, none⟩) 2 2] W1 fun e w' => e = .returned (.pointer (some ⟨w.heap.size, 0, none⟩)) ∧ w' = W1) := or_second w1.heap.size _ W1 (by rw [hW1]; simp) (by rw [hW1]; simp)
    have HE : Hid _ := HFin.out W1 _ (hb1.trans (hbx.mono hb1.size)) (hv1.keeps hbx)
    have HW1 : Hid (W1 = w1.alloc (.cells #[.pointer none, .pointer (some ⟨w.heap.size, 0, none⟩)] 24)) := hW1
    rw [hW1] at HOr
    clear HNw hv1 hbx hW1 HFin
    go_wp2_with fail
    refine Calls.mono HOr.out ?_
    rintro e w2 ⟨rfl, hw2⟩
    rw [← HW1.out] at hw2
    subst hw2
    clear HOr
    go_wp2_with fail
    go_ret
    exact HE.out
  | some pa =>
    obtain ⟨v, hpa⟩ : ∃ v, pa = ⟨v, 0, none⟩ := by
      rcases hv.vc with ⟨_, h⟩ | ⟨v, _, h, _⟩
      · cases h
      · injection h with h; injection h with h; exact ⟨v, h⟩
    subst hpa
    have HV : Hid (VV w l (.pointer (some ⟨v, 0, none⟩))) := hv
    clear hv
    go_enter Tryz.func9, Tryz.ntmps9
    go_wp2_with fail
    refine Calls.mono HNw.out ?_
    rintro e w1 ⟨rfl, _, hb1⟩
    obtain ⟨W1, hW1⟩ : ∃ W1, W1 = w1.alloc (.cells #[.pointer (some ⟨v, 0, none⟩), .pointer (some ⟨w.heap.size, 0, none⟩)] 24) := ⟨_, rfl⟩
    have hbx : Below w1.heap.size w1 W1 := by rw [hW1]; exact ((Grew.refl w1).alloc _).below
    have HOr : Hid (Calls Tryz.prog 42 #[.slice (some ⟨w1.heap.size, 0, none⟩) 2 2] W1 fun e w' => e = .returned (.pointer (some ⟨v, 0, none⟩)) ∧ w' = W1) := or_first w1.heap.size _ (some ⟨w.heap.size, 0, none⟩) W1 (by rw [hW1]; simp) (by rw [hW1]; simp)
    have HE : Hid _ := HFin.out W1 v (hb1.trans (hbx.mono hb1.size)) ((HV.out.keeps hb1).keeps hbx)
    have HW1 : Hid (W1 = w1.alloc (.cells #[.pointer (some ⟨v, 0, none⟩), .pointer (some ⟨w.heap.size, 0, none⟩)] 24)) := hW1
    rw [hW1] at HOr
    clear HNw hbx hW1 HFin HV
    go_wp2_with fail
    refine Calls.mono HOr.out ?_
    rintro e w2 ⟨rfl, hw2⟩
    rw [← HW1.out] at hw2
    subst hw2
    clear HOr
    go_wp2_with fail
    go_ret
    exact HE.out

end Go.Proofs.YtegknglhfpgpoaaGreat

namespace Go.Proofs.YtegknglhfpgpoaaGreat
open Go.RowKit

set_option maxRecDepth 100000 in
set_option maxHeartbeats 8000000 in
theorem speaks13_any (w : World) : Calls Tryz.prog 8 #[] w fun e w' => e = .returned (.bool true) ∧ Below w.heap.size w w' := by
  have HI1 : Hid (Calls Tryz.prog 38 #[.slice (some ⟨w.heap.size, 0, none⟩) 2 2] (w.alloc (.cells #[.int .i64 1, .int .i64 2] 2)) fun e w' => ∃ g c, e = .returned (.slice (some ⟨g, 0, none⟩) 2 c) ∧ Lies 17 w' ([1, 2].map numT) (.slice (some ⟨g, 0, none⟩) 2 c) ∧ Below w.heap.size w w') := by
    have hbA : Below w.heap.size w (w.alloc (.cells #[.int .i64 1, .int .i64 2] 2)) := ((Grew.refl w).alloc _).below
    refine Calls.mono (nums_any [1, 2] w.heap.size 2 _ (by simp) (by simp) (fun i hi => by
      match i, hi with
      | 0, _ => simp
      | 1, _ => simp)) ?_
    rintro e w1 ⟨g, c, rfl, hl, hb⟩
    exact ⟨g, c, rfl, hl, hbA.trans (hb.mono hbA.size)⟩
  have HO : Hid (∀ V v, Lies 17 V ([1, 2].map numT) v → Calls Tryz.prog 7 #[v] V fun e w' => ∃ b, e = .returned (.tuple #[.pointer (some ⟨b, 0, none⟩), .int .i64 0]) ∧ VV w' ([1, 2].map numT) (.pointer (some ⟨b, 0, none⟩)) ∧ Below V.heap.size V w') := fun V v hv => by
    have h9 := of_any _ v V hv
    rw [nums_of [1, 2] (by simp)] at h9
    refine Calls.mono h9 ?_
    rintro e w1 ⟨hb, b, rfl, hvc⟩
    exact ⟨b, rfl, ⟨hvc, by simp, nums_right _⟩, hb⟩
  have HI3 : Hid (∀ V : World, Calls Tryz.prog 38 #[.slice (some ⟨V.heap.size, 0, none⟩) 3 3] (V.alloc (.cells #[.int .i64 9, .int .i64 2, .int .i64 3] 2)) fun e w' => ∃ g c, e = .returned (.slice (some ⟨g, 0, none⟩) 3 c) ∧ Lies 17 w' ([9, 2, 3].map numT) (.slice (some ⟨g, 0, none⟩) 3 c) ∧ Below V.heap.size V w') := fun V => by
    have hbA : Below V.heap.size V (V.alloc (.cells #[.int .i64 9, .int .i64 2, .int .i64 3] 2)) := ((Grew.refl V).alloc _).below
    refine Calls.mono (nums_any [9, 2, 3] V.heap.size 3 _ (by simp) (by simp) (fun i hi => by
      match i, hi with
      | 0, _ => simp
      | 1, _ => simp
      | 2, _ => simp)) ?_
    rintro e w1 ⟨g, c, rfl, hl, hb⟩
    exact ⟨g, c, rfl, hl, hbA.trans (hb.mono hbA.size)⟩
  go_enter Tryz.func8, Tryz.ntmps8
  go_wp2_with fail
  refine Calls.mono HI1.out ?_
  rintro e w1 ⟨g1, c1, rfl, hl1, hb1⟩
  have HO1 : Hid _ := HO.out w1 _ hl1
  clear HI1 hl1 HO
  go_wp2_with fail
  refine Calls.mono HO1.out ?_
  rintro e w2 ⟨b2, rfl, hv2, hg2⟩
  have hb2 : Below w.heap.size w w2 := hb1.trans (hg2.mono hb1.size)
  have HV2 : Hid (VV w2 ([1, 2].map numT) (.pointer (some ⟨b2, 0, none⟩))) := hv2
  have HBg : Hid _ := begin_any _ _ w2 hv2
  clear HO1 hv2 hg2
  go_wp2_with fail
  refine Calls.mono HBg.out ?_
  rintro e w3 ⟨b, h, v, rfl, t3, hg3, hh3, _⟩
  have hb3 : Below w.heap.size w w3 := hb2.trans (hg3.mono hb2.size)
  have hNh : w.heap.size ≤ h := Nat.le_trans hb2.size hh3
  have T3 : Hid (TV w3 ([1, 2].map numT) b h v) := t3
  have HV3 : Hid (VV w3 ([1, 2].map numT) (.pointer (some ⟨b2, 0, none⟩))) := HV2.out.keeps hg3
  clear HBg t3 hg3 HV2
  go_wp2_with fail
  refine (int_any 3 _).mono ?_
  rintro e w4 ⟨rfl, hg4⟩
  have hb4 : Below w.heap.size w w4 := hb3.trans (hg4.below.mono hb3.size)
  have T4 : Hid (TV w4 ([1, 2].map numT) b h v) := T3.out.keeps hg4.below
  have HV4 : Hid (VV w4 ([1, 2].map numT) (.pointer (some ⟨b2, 0, none⟩))) := HV3.out.keeps hg4.below
  have HP4 : Hid (Calls Tryz.prog 39 #[.pointer (some ⟨b, 0, none⟩), .agg #[.int .i64 2, .int .i64 3, .string ⟨#[]⟩, .slice none 0 0]] w4 fun e w' => e = .returned (.int .i64 0) ∧ Below w.heap.size w4 w' ∧ KeepsNP w4 w' ∧ ∃ v2, TV w' ([1, 2, 3].map numT) b h v2) := by
    refine Calls.mono (tpush_any 16 _ b h v (numT 3) none 0 w.heap.size w4 T4.out hNh hb4.size (lies_nilD _ _) (by show 0 ≤ 9223372036854775807; omega)) ?_
    rintro e w' ⟨k, rfl, h1, h2, ⟨rfl, _, v2, h3⟩ | ⟨_, hno, _⟩⟩
    · exact ⟨rfl, h1, h2, v2, h3⟩
    · exact absurd ⟨right_num 3, by simp⟩ hno
  clear T3 HV3 hg4
  go_wp2_with fail
  refine Calls.mono HP4.out ?_
  rintro e w5 ⟨rfl, hg5, hn5, v5, t5⟩
  have hb5 : Below w.heap.size w w5 := hb4.trans hg5
  have T5 : Hid (TV w5 ([1, 2, 3].map numT) b h v5) := t5
  have HV5 : Hid (VV w5 ([1, 2].map numT) (.pointer (some ⟨b2, 0, none⟩))) := HV4.out.np hn5
  clear HP4 T4 HV4 hg5 hn5 t5
  go_wp2_with fail
  refine (int_any 9 _).mono ?_
  rintro e w6 ⟨rfl, hg6⟩
  have hb6 : Below w.heap.size w w6 := hb5.trans (hg6.below.mono hb5.size)
  have T6 : Hid (TV w6 ([1, 2, 3].map numT) b h v5) := T5.out.keeps hg6.below
  have HV6 : Hid (VV w6 ([1, 2].map numT) (.pointer (some ⟨b2, 0, none⟩))) := HV5.out.keeps hg6.below
  have HS6 : Hid (Calls Tryz.prog 41 #[.pointer (some ⟨b, 0, none⟩), .int .i64 0, .agg #[.int .i64 2, .int .i64 9, .string ⟨#[]⟩, .slice none 0 0]] w6 fun e w' => e = .returned (.int .i64 0) ∧ Below w.heap.size w6 w' ∧ KeepsNP w6 w' ∧ ∃ v2, TV w' ([9, 2, 3].map numT) b h v2) := by
    refine Calls.mono (tset_any 16 _ b h v5 0 (numT 9) none 0 w.heap.size w6 T6.out hNh hb6.size (lies_nilD _ _) (by show 0 ≤ 9223372036854775807; omega)) ?_
    rintro e w' ⟨k, rfl, h1, h2, ⟨rfl, _, v2, h3⟩ | ⟨_, hno, _⟩⟩
    · exact ⟨rfl, h1, h2, v2, h3⟩
    · exact absurd ⟨right_num 9, by simp⟩ hno
  clear T5 HV5 hg6
  go_wp2_with fail
  refine Calls.mono HS6.out ?_
  rintro e w7 ⟨rfl, hg7, hn7, v7, t7⟩
  have hb7 : Below w.heap.size w w7 := hb6.trans hg7
  have HV7 : Hid (VV w7 ([1, 2].map numT) (.pointer (some ⟨b2, 0, none⟩))) := HV6.out.np hn7
  have HSl : Hid _ := tseal_any _ b h v7 w.heap.size w7 t7 hNh
  clear HS6 T6 HV6 hg7 hn7 t7
  go_wp2_with fail
  refine Calls.mono HSl.out ?_
  rintro e w8 ⟨rfl, hg8, hn8, hv8, ts8⟩
  have hb8 : Below w.heap.size w w8 := hb7.trans hg8
  have HV8 : Hid (VV w8 ([1, 2].map numT) (.pointer (some ⟨b2, 0, none⟩))) := HV7.out.np hn8
  have HIt : Hid _ := items_any _ _ w8 hv8.vc hv8.len hv8.right
  have TS8 : Hid (Shut13 w8 (.pointer (some ⟨b, 0, none⟩))) := ts8.shut
  clear HSl HV7 hg8 hn8 hv8 ts8
  go_wp2_with fail
  refine Calls.mono HIt.out ?_
  rintro e w9 ⟨v9, rfl, hv9, hg9⟩
  have hb9 : Below w.heap.size w w9 := hb8.trans (hg9.mono hb8.size)
  have HL9 : Hid (Lies 17 w9 ([9, 2, 3].map numT) v9) := LiesB.lies _ _ _ hv9
  have HV9 : Hid (VV w9 ([1, 2].map numT) (.pointer (some ⟨b2, 0, none⟩))) := HV8.out.keeps hg9
  have TS9 : Hid (Shut13 w9 (.pointer (some ⟨b, 0, none⟩))) := TS8.out.keeps hg9
  obtain ⟨a9, c9, rfl, _⟩ := Lies.slice HL9.out
  have HI9 : Hid _ := HI3.out w9
  clear HIt hv9 hg9 HV8 TS8 HI3
  go_wp2_with fail
  refine Calls.mono HI9.out ?_
  rintro e wa ⟨ga, ca, rfl, hla, hga⟩
  have hba : Below w.heap.size w wa := hb9.trans (hga.mono hb9.size)
  have HVs : Hid _ := values_one 16 ([9, 2, 3].map numT) _ _ wa (Lies.keeps hga _ _ _ HL9.out) hla (by simp)
  have HVa : Hid (VV wa ([1, 2].map numT) (.pointer (some ⟨b2, 0, none⟩))) := HV9.out.keeps hga
  have TSa : Hid (Shut13 wa (.pointer (some ⟨b, 0, none⟩))) := TS9.out.keeps hga
  clear HI9 hla hga HV9 TS9 HL9
  go_wp2_with fail
  refine Calls.mono HVs.out ?_
  rintro e wb ⟨rfl, hgb⟩
  have hbb : Below w.heap.size w wb := hba.trans (hgb.mono hba.size)
  have HVb : Hid (VV wb ([1, 2].map numT) (.pointer (some ⟨b2, 0, none⟩))) := HVa.out.keeps hgb
  have TSb : Hid (Shut13 wb (.pointer (some ⟨b, 0, none⟩))) := TSa.out.keeps hgb
  clear HVs hgb HVa TSa
  go_wp2_with fail
  refine (int_any 4 _).mono ?_
  rintro e wc ⟨rfl, hgc⟩
  have hbc : Below w.heap.size w wc := hbb.trans (hgc.below.mono hbb.size)
  have HVc : Hid (VV wc ([1, 2].map numT) (.pointer (some ⟨b2, 0, none⟩))) := HVb.out.keeps hgc.below
  have HPc : Hid (Calls Tryz.prog 39 #[.pointer (some ⟨b, 0, none⟩), .agg #[.int .i64 2, .int .i64 4, .string ⟨#[]⟩, .slice none 0 0]] wc fun e w' => e = .returned (.int .i64 7) ∧ Below wc.heap.size wc w') := shut_push _ (numT 4) none 0 wc (TSb.out.keeps hgc.below)
  clear HVb TSb hgc
  go_wp2_with fail
  refine Calls.mono HPc.out ?_
  rintro e wd ⟨rfl, hgd⟩
  have hbd : Below w.heap.size w wd := hbc.trans (hgd.mono hbc.size)
  have HLd : Hid (Calls Tryz.prog 14 #[.pointer (some ⟨b2, 0, none⟩)] wd (NumPost 2 wd)) := vlen_any 16 _ _ wd (HVc.out.keeps hgd).vc
  clear HPc hgd HVc
  go_wp2_with fail
  refine Calls.mono HLd.out ?_
  rintro e we ⟨rfl, hge⟩
  go_wp2_with fail
  go_ret
  exact ⟨rfl, hbd.trans (hge.mono hbd.size)⟩

end Go.Proofs.YtegknglhfpgpoaaGreat

namespace Go.Proofs.YtegknglhfpgpoaaGreat
open Go.RowKit

/-- The six cells of a step, in a block of their own. -/
structure Bx6 (W : World) (n : Nat) (k t : Int) (x : VT) (u : Value) : Prop where
  c0 : W.cell? ⟨n, 0, none⟩ = some (.int .i64 k)
  c1 : W.cell? ⟨n, 1, none⟩ = some (.int .i64 t)
  c2 : W.cell? ⟨n, 2, none⟩ = some (.int .i64 x.kind)
  c3 : W.cell? ⟨n, 3, none⟩ = some (.int .i64 x.num)
  c4 : W.cell? ⟨n, 4, none⟩ = some (.string x.text)
  c5 : W.cell? ⟨n, 5, none⟩ = some u

theorem Bx6.keeps {W W' : World} {n : Nat} {k t : Int} {x : VT} {u : Value} (h : Bx6 W n k t x u) (hb : Below W.heap.size W W') : Bx6 W' n k t x u :=
  ⟨cell_keeps hb h.c0, cell_keeps hb h.c1, cell_keeps hb h.c2, cell_keeps hb h.c3, cell_keeps hb h.c4, cell_keeps hb h.c5⟩

theorem bx6_alloc (w : World) (k t : Int) (x : VT) (u : Value) (T : Nat) : Bx6 (w.alloc (.cells #[.int .i64 k, .int .i64 t, .int .i64 x.kind, .int .i64 x.num, .string x.text, u] T)) w.heap.size k t x u := by
  refine ⟨?_, ?_, ?_, ?_, ?_, ?_⟩ <;> simp

theorem below_box4 (w : World) : Below w.heap.size w (w.alloc (.cells #[.int .i64 0, .int .i64 0, .string ⟨#[]⟩, .slice none 0 0] 34)) := ((Grew.refl w).alloc _).below

end Go.Proofs.YtegknglhfpgpoaaGreat

