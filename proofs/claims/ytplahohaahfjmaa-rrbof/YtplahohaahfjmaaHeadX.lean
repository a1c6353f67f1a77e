/-
  head, lowered and first, with the blocks in which their answers lie.
-/
import Derived.Test.YtplahohaahfjmaaJoined
import Derived.Test.YtplahohaahfjmaaWith2
import Derived.Deep.RegionHeld3
import Derived.BigRegion
namespace Go.Proofs.Ytplahohaahfjmaa
open Go.RowKit

theorem part_split (ps : List Part) (kk : Nat) (hk : kk < ps.length) : ps.flatMap (·.1) = (ps.take kk).flatMap (·.1) ++ ((ps[kk]'hk).1 ++ (ps.drop (kk + 1)).flatMap (·.1)) := by
  have e : ps.flatMap (·.1) = (ps.take kk).flatMap (·.1) ++ (ps.drop kk).flatMap (·.1) := by rw [← List.flatMap_append, List.take_append_drop]
  rw [e, List.drop_eq_getElem_cons hk, List.flatMap_cons]

theorem part_ahead (ps : List Part) (kk : Nat) : ((ps.take kk).flatMap (·.1)).length = ((lensP ps).take kk).sum := by
  rw [flat_sum, List.map_take]; rfl

theorem in_take' (ps : List Part) (i kk q : Nat) (hk : kk < ps.length) (he : i = ((lensP ps).take kk).sum + q) (hq : q < (ps[kk]'hk).1.length) : (ps.flatMap (·.1)).take (i + 1) = (ps.take kk).flatMap (·.1) ++ (ps[kk]'hk).1.take (q + 1) := by
  subst he
  rw [part_split ps kk hk, ← part_ahead, Nat.add_assoc, List.take_length_add_append, List.take_append_of_le_length (by omega)]

theorem in_take {ps : List Part} {i kk q : Nat} (h : InPart ps i kk q) : (ps.flatMap (·.1)).take (i + 1) = (ps.take kk).flatMap (·.1) ++ (ps[kk]'h.lt).1.take (q + 1) := in_take' ps i kk q h.lt h.eq h.inn

theorem in_drop' (ps : List Part) (i kk q : Nat) (hk : kk < ps.length) (he : i = ((lensP ps).take kk).sum + q) (hq : q < (ps[kk]'hk).1.length) : (ps.flatMap (·.1)).drop i = (ps[kk]'hk).1.drop q ++ (ps.drop (kk + 1)).flatMap (·.1) := by
  subst he
  rw [part_split ps kk hk, ← part_ahead, List.drop_length_add_append, List.drop_append_of_le_length (by omega)]

theorem in_drop {ps : List Part} {i kk q : Nat} (h : InPart ps i kk q) : (ps.flatMap (·.1)).drop i = (ps[kk]'h.lt).1.drop q ++ (ps.drop (kk + 1)).flatMap (·.1) := in_drop' ps i kk q h.lt h.eq h.inn

theorem Lies.some_at {d : Nat} {w : World} {l : List VT} {a : Option Addr} {n c : Nat} (h : Lies (d + 1) w l (.slice a n c)) (hne : 1 ≤ l.length) : ∃ g o, a = some ⟨g, o, none⟩ ∧ l.length ≤ c := by
  obtain ⟨a', c', hv, hb, hr⟩ := h
  injection hv with q1 q2 q3
  subst q1 q2 q3
  obtain ⟨g, o, ha, _⟩ := hr (fun e => by rw [e] at hne; simp at hne)
  exact ⟨g, o, ha, hb.1⟩

theorem Row.loose {d h : Nat} {k : Bool} {w : World} {ps : List Part} (hr : Row d h k w ps) : Row d h false w ps := fun i hi => by
  have h1 := hr i hi
  rw [Bool.false_or]
  by_cases c : i + 1 < ps.length
  · have e : (k || decide (i + 1 < ps.length)) = true := by simp [c]
    rw [e] at h1
    exact h1.edge _ _ _ _
  · have e : decide (i + 1 < ps.length) = false := by simp; omega
    rw [e]
    exact h1.loose

/-- The last two calls of head. -/
theorem head_tail {d h : Nat} {k : Bool} {ps : List Part} {kk g o c : Nat} {w w3 : World} {T : Nat} {p : Value} {m : List VT} (hr : Row d h k w ps) (hs : SlV w (ps.map (·.2)) (.slice (some ⟨g, o, none⟩) ps.length c)) (hk : kk < ps.length) (h32 : ps.length ≤ 32) (hcap : ps.length ≤ c) (hb : Below w.heap.size w w3) (hnd : ND d h false w3 m (.iface T p)) (hsum : ((ps.take kk).flatMap (·.1) ++ m).length ≤ 1099511627776) :
    Calls Try.prog 115 #[.slice (some ⟨w3.heap.size + 1, 0, none⟩) 2 2] ((w3.alloc (.cells #[.iface T p] 78)).alloc (.cells #[.slice (some ⟨g, o, none⟩) kk c, .slice (some ⟨w3.heap.size, 0, none⟩) 1 1] 102)) fun e w' => ∃ v, e = .returned v ∧ Below w.heap.size w w' ∧ Calls Try.prog 70 #[v] w' fun e w'' => ∃ b, e = .returned (.pointer (some ⟨b, 0, none⟩)) ∧ NodePost d (h + 1) false ((ps.take kk).flatMap (·.1) ++ m) w (.returned (.iface 112 (.pointer (some ⟨b, 0, none⟩)))) w'' := by
  have hA : Row d h true w (ps.take kk) := hr.cut kk hk
  have sA : SlV w ((ps.take kk).map (·.2)) (.slice (some ⟨g, o, none⟩) kk c) := by
    have := hs
    rw [← List.length_map (f := fun x : Part => x.2)] at this
    have := this.taken kk c (by rw [List.length_map]; omega) (by omega)
    rwa [← List.map_take] at this
  have hb4 : Below w3.heap.size w3 (w3.alloc (.cells #[.iface T p] 78)) := ((Grew.refl w3).alloc _).below
  have hb5 : Below w.heap.size w (w3.alloc (.cells #[.iface T p] 78)) := hb.trans (hb4.mono hb.size)
  have n1 : NdS (w3.alloc (.cells #[.iface T p] 78)) ((ps.take kk).map (·.2)) (.slice (some ⟨g, o, none⟩) kk c) := ⟨sA.keeps hb5, hA.one⟩
  have n2 : NdS (w3.alloc (.cells #[.iface T p] 78)) [.iface T p] (.slice (some ⟨w3.heap.size, 0, none⟩) 1 1) := by
    refine ⟨⟨_, 1, rfl, by simp, fun _ => ⟨w3.heap.size, 0, rfl, fun i hi => ?_⟩⟩, fun u hu => by rw [List.mem_singleton.1 hu]; rfl⟩
    have : i = 0 := by simp at hi; omega
    subst this; simp
  refine (concat_nds _ _ _ _ _ _ _ ((Grew.refl _).alloc _).below n1 n2 (by rw [List.length_map, List.length_take]; omega) (by simp) (by simp) (by simp)).mono ?_
  rintro e w' ⟨v, rfl, hn, hbW, hkc⟩
  have hbw : Below w.heap.size w w' := hb5.trans (hbW.mono hb5.size)
  have hnd' : ND d h false w' m (.iface T p) := (hnd.keeps hb4 _ _ _ _).keeps hbW _ _ _ _
  refine ⟨v, rfl, hbw, ?_⟩
  have hR : Row d h false w' (ps.take kk ++ [(m, .iface T p)]) := Row.app (hA.keeps hbw) (fun i hi => by
    have : i = 0 := by simp at hi; omega
    subst this; simpa using hnd') (by simp)
  have e1 : (ps.take kk ++ [(m, Value.iface T p)]).flatMap (·.1) = (ps.take kk).flatMap (·.1) ++ m := by rw [List.flatMap_append]; simp
  have h9 := above_any d h false (ps.take kk ++ [(m, Value.iface T p)]) v w' (by rw [List.map_append]; exact hn.1) (by simp) (by simp; omega) (fun h => by cases h) hR (by rw [e1]; exact hsum)
  rw [e1] at h9
  refine h9.mono ?_
  rintro e w'' ⟨b, rfl, hx, hbx⟩
  exact ⟨b, rfl, _, _, rfl, hx, hbw.trans (hbx.mono hbw.size)⟩

end Go.Proofs.Ytplahohaahfjmaa

namespace Go.Proofs.Ytplahohaahfjmaa
open Go.RowKit

set_option maxRecDepth 100000 in
set_option maxHeartbeats 4000000 in
theorem head_whole (d h : Nat) (k : Bool) (l : List VT) (v : Value) (w : World) (hn : ND d h k w l v) : Calls Try.prog 101 #[v, .int .i64 ((l.length : Nat) : Int)] w (NodePost d h false l w) := by
  have HN : Hid (ND d h false w l v) := hn.loose
  rcases nd_size hn with ⟨b, rfl, hcall⟩ | ⟨b, rfl, hcall⟩
  · have HC : Hid _ := hcall w (Below.refl _ _)
    clear hcall hn
    generalize l.length = L at *
    go_enter Try.func101, Try.ntmps101
    go_wp2_with fail
    refine Calls.mono HC.out ?_
    rintro e w1 ⟨rfl, hg⟩
    have HE : Hid (NodePost d h false l w (.returned (.iface 106 (.pointer (some ⟨b, 0, none⟩)))) w1) := ⟨_, _, rfl, HN.out.keeps hg _ _ _ _, hg⟩
    go_wp2_with fail
    go_ret
    exact HE.out
  · have HC : Hid _ := hcall w (Below.refl _ _)
    clear hcall hn
    generalize l.length = L at *
    go_enter Try.func101, Try.ntmps101
    go_wp2_with fail
    refine Calls.mono HC.out ?_
    rintro e w1 ⟨rfl, hg⟩
    have HE : Hid (NodePost d h false l w (.returned (.iface 112 (.pointer (some ⟨b, 0, none⟩)))) w1) := ⟨_, _, rfl, HN.out.keeps hg _ _ _ _, hg⟩
    go_wp2_with fail
    go_ret
    exact HE.out

set_option maxRecDepth 100000 in
set_option maxHeartbeats 8000000 in
theorem head_any (d : Nat) : ∀ (h : Nat) (k : Bool) (l : List VT) (v : Value) (n : Nat) (w : World), ND d h k w l v → 1 ≤ n → n ≤ l.length → l.length ≤ 1099511627776 → Calls Try.prog 101 #[v, .int .i64 (n : Int)] w (NodePost d h false (l.take n) w) := by
  intro h
  induction h with
  | zero =>
    intro k l v n w hn h1 h2 hbig
    by_cases hw : n = l.length
    · subst hw
      rw [List.take_length]
      exact head_whole d 0 k l v w hn
    obtain ⟨b, a, c, rfl, hc, hl, hl1, hl2, hl3⟩ := hn
    obtain ⟨g, o, rfl, hcap⟩ := Lies.some_at hl (by omega)
    have HSz : Hid _ := leafSize_any b (some ⟨g, o, none⟩) l.length c w hc
    have HL : Hid (Lies (d + 1) w l (.slice (some ⟨g, o, none⟩) l.length c)) := hl
    have Hl : Hid (1 ≤ l.length ∧ l.length ≤ 32 ∧ n ≤ l.length) := ⟨hl1, hl2, h2⟩
    have Hc : Hid (w.cell? ⟨b, 0, none⟩ = some (.slice (some ⟨g, o, none⟩) l.length c)) := hc
    have ta := as_LL
    have hni : ¬ ((n : Nat) : Int) = (l.length : Nat) := by omega
    have hnc : n ≤ c := by omega
    have hnci : (n : Int) ≤ (c : Nat) := by omega
    have hlci : (l.length : Int) ≤ (c : Nat) := by omega
    have hnli : (n : Int) ≤ (l.length : Nat) := by omega
    have hn0 : ¬ (n = 0) := by omega
    have hn0i : ¬ ((n : Nat) : Int) = 0 := by omega
    clear hl hl3 hbig hl1 hl2 h2 hw hc
    go_enter Try.func101, Try.ntmps101
    go_wp2_with fail
    refine Calls.mono HSz.out ?_
    rintro e w1 ⟨rfl, hw⟩
    replace hw := hw.symm
    subst hw
    have hc := Hc.out
    have HE : Hid (NodePost d 0 false (l.take n) w (.returned (.iface 106 (.pointer (some ⟨w.heap.size, 0, none⟩)))) (w.alloc (.cells #[.slice (some ⟨g, o, none⟩) n n] 108))) := by
      have hbb : Below w.heap.size w (w.alloc (.cells #[.slice (some ⟨g, o, none⟩) n n] 108)) := ((Grew.refl w).alloc _).below
      have hl := Hl.out
      have e1 : (l.take n).length = n := by rw [List.length_take]; omega
      have q : Lies (d + 1) w (l.take n) (.slice (some ⟨g, o, none⟩) n n) := Lies.recap (Lies.taken HL.out n hl.2.2) n (by omega)
      refine ⟨_, _, rfl, ⟨w.heap.size, some ⟨g, o, none⟩, n, rfl, by rw [e1]; simp, by rw [e1]; exact Lies.keeps hbb _ _ _ q, by omega, by omega, fun h => by cases h⟩, hbb⟩
    go_wp2_with fail
    go_ret
    exact HE.out
  | succ h ih =>
    intro k l v n w hn h1 h2 hbig
    by_cases hw : n = l.length
    · subst hw
      rw [List.take_length]
      exact head_whole d (h + 1) k l v w hn
    have hsz := nd_size hn
    obtain ⟨b, sl, el, ps, rfl, hc0, hc1, hs, he, hl1, hl2, hl3, hl, hp⟩ := hn
    subst hl
    obtain ⟨g, o, c, hsl, hcap, hcs⟩ := hs.full (fun e => by have := congrArg List.length e; rw [List.length_map, List.length_nil] at this; omega)
    subst hsl
    rw [List.length_map] at hc0 hcap
    have hs' : SlV w (ps.map (·.2)) (.slice (some ⟨g, o, none⟩) ps.length c) := by have := hs; rwa [List.length_map] at this
    obtain ⟨i, rfl⟩ : ∃ i, n = i + 1 := ⟨n - 1, by omega⟩
    have HSz : Hid (Calls Try.prog 148 #[.pointer (some ⟨b, 0, none⟩)] w fun e w' => e = .returned (.int .i64 (ps.flatMap (·.1)).length) ∧ Below w.heap.size w w') := by
      rcases hsz with ⟨b', hv', hcall⟩ | ⟨b', hv', hcall⟩
      · injection hv' with q _
        exact absurd q (by decide)
      · have e : b' = b := by simpa using hv'.symm
        subst e
        exact hcall w (Below.refl _ _)
    have HFi : Hid (∀ V, Below w.heap.size w V → Calls Try.prog 73 #[.pointer (some ⟨b, 0, none⟩), .int .i64 (i : Int)] V (FindPost ps i V)) := fun V hV => find_any ps b el i V (cell_keeps hV hc1) (he.keeps hV) (by omega) hl2 hbig
    have HIt : Hid (∀ (kk q : Nat), InPart ps i kk q → ∃ vk m, w.cell? ⟨g, o + kk, none⟩ = some vk ∧ q + 1 ≤ 1099511627776 ∧ (∀ V, Below w.heap.size w V → Calls Try.prog 101 #[vk, .int .i64 ((q + 1 : Nat) : Int)] V (NodePost d h false m V)) ∧
        (∀ (T : Nat) (p : Value) (w3 : World), Below w.heap.size w w3 → ND d h false w3 m (.iface T p) → Calls Try.prog 115 #[.slice (some ⟨w3.heap.size + 1, 0, none⟩) 2 2] ((w3.alloc (.cells #[.iface T p] 78)).alloc (.cells #[.slice (some ⟨g, o, none⟩) kk c, .slice (some ⟨w3.heap.size, 0, none⟩) 1 1] 102)) fun e w' => ∃ v, e = .returned v ∧ Below w.heap.size w w' ∧ Calls Try.prog 70 #[v] w' fun e w'' => ∃ b, e = .returned (.pointer (some ⟨b, 0, none⟩)) ∧ NodePost d (h + 1) false ((ps.flatMap (·.1)).take (i + 1)) w (.returned (.iface 112 (.pointer (some ⟨b, 0, none⟩)))) w'')) := fun kk q hin => by
      have hlt := hin.lt
      have hinn := hin.inn
      have hle : (ps[kk]'hlt).1.length ≤ (ps.flatMap (·.1)).length := by rw [part_split ps kk hlt]; simp; omega
      refine ⟨(ps[kk]'hlt).2, (ps[kk]'hlt).1.take (q + 1), ?_, by omega, fun V hV => ih _ _ _ (q + 1) V ((hp kk hlt).keeps hV _ _ _ _) (by omega) (by omega) (by omega), fun T p w3 hb3 hnd => ?_⟩
      · have := hcs kk (by rw [List.length_map]; exact hlt)
        rwa [List.getElem_map] at this
      · have h9 := head_tail (kk := kk) (T := T) (p := p) (m := (ps[kk]'hlt).1.take (q + 1)) (k := k) hp hs' hlt hl2 hcap hb3 hnd (by rw [← in_take hin, List.length_take]; omega)
        rw [← in_take hin] at h9
        exact h9
    have Hc0 : Hid (w.cell? ⟨b, 0, none⟩ = some (.slice (some ⟨g, o, none⟩) ps.length c)) := hc0
    have ta := as_BL
    have tb := as_B
    obtain ⟨n, hn⟩ : ∃ n, n = i + 1 := ⟨_, rfl⟩
    rw [← hn] at h1 h2 hw HIt ⊢
    have hwi : IntKind.i64.wrap ((n : Nat) - 1 : Int) = (i : Int) := by rw [IntKind.wrap_i64]; omega
    have hni : ¬ ((n : Nat) : Int) = ((ps.flatMap (·.1)).length : Nat) := by omega
    generalize (ps.flatMap (·.1)).take n = R at *
    generalize (ps.flatMap (·.1)).length = F at *
    clear ih hp hcs hs hs' he hc1 hc0 hsz hbig hn h1 h2 hw
    go_enter Try.func101, Try.ntmps101
    go_wp2_with fail
    refine Calls.mono HSz.out ?_
    rintro e w1 ⟨rfl, hb1⟩
    go_wp2_with fail
    refine (HFi.out _ hb1).mono ?_
    rintro e w2 ⟨kk, q, rfl, hin, hg2⟩
    have hb2 : Below w.heap.size w w2 := hb1.trans (hg2.mono hb1.size)
    obtain ⟨vk, m, hck, hq, hw, hco⟩ := HIt.out kk q hin
    have pk := cell_keeps hb2 hck
    have p0 := cell_keeps hb2 Hc0.out
    have Pk : Hid (w.cell? ⟨g, o + kk, none⟩ = some vk) := hck
    have P0 : Hid (w.cell? ⟨b, 0, none⟩ = some (.slice (some ⟨g, o, none⟩) ps.length c)) := Hc0.out
    have hkl : kk < ps.length := hin.lt
    have hki : (kk : Int) < (ps.length : Nat) := by omega
    have hkle : (kk : Int) ≤ (ps.length : Nat) := by omega
    have hkle2 : kk ≤ ps.length := by omega
    have hkc : kk ≤ c := by omega
    have hkci : (kk : Int) ≤ (c : Nat) := by omega
    have hLci : (ps.length : Int) ≤ (c : Nat) := by omega
    have Hw : Hid _ := hw
    have Hco : Hid _ := hco
    obtain ⟨q1, hq1⟩ : ∃ q1, q1 = q + 1 := ⟨_, rfl⟩
    rw [← hq1] at Hw
    have hwq : IntKind.i64.wrap ((q : Nat) + 1 : Int) = (q1 : Int) := by rw [IntKind.wrap_i64]; omega
    clear hg2 HFi HIt hw hco hck Hc0 HSz hin hq hq1
    generalize hLg : ps.length = L at *
    clear hLg hl1 hl2 hl3
    go_wp2_with fail
    go_region_held3 (fun w' => (w'.cell? ⟨b, 0, none⟩ = some (.slice (some ⟨g, o, none⟩) L c)) ∧ (w'.cell? ⟨g, o + kk, none⟩ = some vk)) (go_keep)
      (first
        | (go_at_call 70; refine Calls.mono HAb.out ?_; rintro e w5 ⟨b5, rfl, hx⟩; have HE : Hid (NodePost d (h + 1) false R w (.returned (.iface 112 (.pointer (some ⟨b5, 0, none⟩)))) w5) := hx; clear hx; have hbZ : Below w.heap.size w w5 := (by obtain ⟨_, _, _, _, hz⟩ := HE.out; exact hz); have p0 := cell_keeps hbZ P0.out; have pk := cell_keeps hbZ Pk.out)
        | (go_at_call 115; refine Calls.mono HCo.out ?_; rintro e w4 ⟨v4, rfl, hb4, hab⟩; have HAb : Hid _ := hab; clear hab; have p0 := cell_keeps hb4 P0.out; have pk := cell_keeps hb4 Pk.out)
        | (go_at_call 101; refine (Hw.out _ hb2.drew).mono ?_; rintro e w3 ⟨T, p, rfl, hnd, hg3⟩; have hb3 : Below w.heap.size w w3 := hb2.drew.trans (hg3.mono hb2.size); have HCo : Hid _ := Hco.out T p w3 hb3 hnd; clear hnd hg3; have p0 := cell_keeps hb3 P0.out; have pk := cell_keeps hb3 Pk.out))
    all_goals (first | (go_ret; exact HE.out) | (go_wp2_with fail; go_ret; exact HE.out))

/-- What first tells. -/
theorem first_any (d : Nat) (l : List VT) (v : Value) (n : Nat) (w : World) (ht : OT d w l v) (hn : n ≤ l.length) (hbig : l.length ≤ 1099511627776) : Calls Try.prog 80 #[v, .int .i64 (n : Int)] w (JoinPost d (l.take n) w) := by
  by_cases h0 : n = 0
  · subst h0
    have HE : Hid (JoinPost d (l.take 0) w (.returned .nilIface) w) := ⟨_, rfl, .inl ⟨by simp, rfl⟩, Below.refl _ _⟩
    go_enter Try.func80, Try.ntmps80
    go_wp2_with fail
    go_ret
    exact HE.out
  · rcases ht with ⟨rfl, rfl⟩ | ht
    · simp at hn; omega
    obtain ⟨h, hh, hnd⟩ := ht.low hbig
    have HH : Hid _ := head_any d h false l v n w hnd (by omega) hn hbig
    have hni : ¬ ((n : Nat) : Int) = 0 := by omega
    clear hnd ht
    go_enter Try.func80, Try.ntmps80
    go_wp2_with fail
    refine Calls.mono HH.out ?_
    rintro e w1 ⟨T, p, rfl, hx, hb1⟩
    have HLo : Hid _ := lowered_any d h _ _ w1 hx
    clear hx HH
    go_wp2_with fail
    refine Calls.mono HLo.out ?_
    rintro e w3 ⟨v3, rfl, ht, hw⟩
    replace hw := hw.symm
    subst hw
    have HE : Hid (JoinPost d (l.take n) w (.returned v3) w1) := ⟨v3, rfl, .inr ht, hb1⟩
    clear HLo ht
    go_wp2_with fail
    go_ret
    exact HE.out

end Go.Proofs.Ytplahohaahfjmaa

namespace Go.Proofs.Ytplahohaahfjmaa
open Go.RowKit

theorem SlVX.of_own {w : World} {base e : Nat} {v : Value} {vs : List Value} {n : Nat} (hn : n = vs.length) (h : w.ownsRow base e 1 v n vs) : SlVX (fun b => base ≤ b) w vs v := by
  obtain ⟨a, c, hv, hc, hr⟩ := SlV.of_own hn h
  refine ⟨a, c, hv, hc, fun hne => ?_⟩
  obtain ⟨b, o, ha, hcs⟩ := hr hne
  refine ⟨b, o, ha, ?_, hcs⟩
  have := h.lt b (by rw [hv, ha]; rfl)
  exact this.1

theorem NDX.loose {X : Nat → Prop} {d : Nat} {w : World} : ∀ (h : Nat) (k : Bool) (l : List VT) (v : Value), NDX X d h k w l v → NDX X d h false w l v := by
  intro h
  induction h with
  | zero =>
    intro k l v hn
    obtain ⟨b, a, c, hv, hx, hc, hl, h1, h2, _⟩ := hn
    exact ⟨b, a, c, hv, hx, hc, hl, h1, h2, fun h => by cases h⟩
  | succ h ih =>
    intro k l v hn
    obtain ⟨b, sl, el, ps, hv, hx, hc0, hc1, hs, he, h1, h2, _, hl, hp⟩ := hn
    refine ⟨b, sl, el, ps, hv, hx, hc0, hc1, hs, he, h1, h2, (fun h => by cases h), hl, fun i hi => ?_⟩
    have h9 := hp i hi
    by_cases c : i + 1 < ps.length
    · have e1 : (k || decide (i + 1 < ps.length)) = true := by simp [c]
      have e2 : (false || decide (i + 1 < ps.length)) = true := by simp [c]
      rw [e1] at h9; rw [e2]; exact h9
    · have e2 : (false || decide (i + 1 < ps.length)) = false := by simp; omega
      rw [e2]; exact ih _ _ _ h9

theorem concat_x (X : Nat → Prop) (l1 l2 : List Value) (u1 u2 : Value) (w1 V : World) (B : Nat) (hX : ∀ b, V.heap.size ≤ b → X b) (hb : Below w1.heap.size w1 V) (h1 : NdS w1 l1 u1) (h2 : NdS w1 l2 u2) (hl1 : l1.length ≤ 65536) (hl2 : l2.length ≤ 65536) (c1 : V.cell? ⟨B, 0, none⟩ = some u1) (c2 : V.cell? ⟨B, 1, none⟩ = some u2) :
    Calls Try.prog 115 #[.slice (some ⟨B, 0, none⟩) 2 2] V fun e w' => ∃ v, e = .returned v ∧ SlVX X w' (l1 ++ l2) v ∧ Below w1.heap.size w1 w' := by
  have k1 := h1.keeps hb
  have k2 := h2.keeps hb
  obtain ⟨a1, cc1, rfl, _⟩ := k1.1.slice
  obtain ⟨a2, cc2, rfl, _⟩ := k2.1.slice
  refine (concat2N_any l1.length l2.length l1 l2 a1 a2 cc1 cc2 B V c1 c2 (k1.1.src k1.2) (k2.1.src k2.2) hl1 hl2).mono ?_
  rintro e w' ⟨v, rfl, hown, hb2⟩
  exact ⟨v, rfl, (SlVX.of_own (by rw [List.length_append]) hown).stays hX (fun _ _ _ h => h), hb.trans (hb2.mono hb.size)⟩

/-- A node is told, in these blocks. -/
def NodeX (X : Nat → Prop) (d h : Nat) (k : Bool) (l : List VT) (W : World) (e : Ending) (w' : World) : Prop := ∃ T p, e = .returned (.iface T p) ∧ NDX X d h k w' l (.iface T p) ∧ Below W.heap.size W w'

theorem head_tailX {X : Nat → Prop} {d h : Nat} {k : Bool} {ps : List Part} {kk g o c : Nat} {w w3 : World} {T : Nat} {p : Value} {m : List VT} (hX : ∀ b, w.heap.size ≤ b → X b) (hr : ∀ (i : Nat) (hi : i < ps.length), NDX X d h (k || decide (i + 1 < ps.length)) w (ps[i]'hi).1 (ps[i]'hi).2) (hs : SlV w (ps.map (·.2)) (.slice (some ⟨g, o, none⟩) ps.length c)) (hk : kk < ps.length) (h32 : ps.length ≤ 32) (hcap : ps.length ≤ c) (hb : Below w.heap.size w w3) (hnd : NDX X d h false w3 m (.iface T p)) (hsum : ((ps.take kk).flatMap (·.1) ++ m).length ≤ 1099511627776) :
    Calls Try.prog 115 #[.slice (some ⟨w3.heap.size + 1, 0, none⟩) 2 2] ((w3.alloc (.cells #[.iface T p] 78)).alloc (.cells #[.slice (some ⟨g, o, none⟩) kk c, .slice (some ⟨w3.heap.size, 0, none⟩) 1 1] 102)) fun e w' => ∃ v, e = .returned v ∧ Below w.heap.size w w' ∧ Calls Try.prog 70 #[v] w' fun e w'' => ∃ b, e = .returned (.pointer (some ⟨b, 0, none⟩)) ∧ NodeX X d (h + 1) false ((ps.take kk).flatMap (·.1) ++ m) w (.returned (.iface 112 (.pointer (some ⟨b, 0, none⟩)))) w'' := by
  have hrN : Row d h k w ps := fun i hi => (hr i hi).nd _ _ _ _
  have hA : Row d h true w (ps.take kk) := hrN.cut kk hk
  have sA : SlV w ((ps.take kk).map (·.2)) (.slice (some ⟨g, o, none⟩) kk c) := by
    have := hs
    rw [← List.length_map (f := fun x : Part => x.2)] at this
    have := this.taken kk c (by rw [List.length_map]; omega) (by omega)
    rwa [← List.map_take] at this
  have hb4 : Below w3.heap.size w3 (w3.alloc (.cells #[.iface T p] 78)) := ((Grew.refl w3).alloc _).below
  have hb5 : Below w.heap.size w (w3.alloc (.cells #[.iface T p] 78)) := hb.trans (hb4.mono hb.size)
  have n1 : NdS (w3.alloc (.cells #[.iface T p] 78)) ((ps.take kk).map (·.2)) (.slice (some ⟨g, o, none⟩) kk c) := ⟨sA.keeps hb5, hA.one⟩
  have n2 : NdS (w3.alloc (.cells #[.iface T p] 78)) [.iface T p] (.slice (some ⟨w3.heap.size, 0, none⟩) 1 1) := by
    refine ⟨⟨_, 1, rfl, by simp, fun _ => ⟨w3.heap.size, 0, rfl, fun i hi => ?_⟩⟩, fun u hu => by rw [List.mem_singleton.1 hu]; rfl⟩
    have : i = 0 := by simp at hi; omega
    subst this; simp
  refine (concat_x X _ _ _ _ _ _ _ (fun b h => hX b (by have := hb.size; simp at h; omega)) ((Grew.refl _).alloc _).below n1 n2 (by rw [List.length_map, List.length_take]; omega) (by simp) (by simp) (by simp)).mono ?_
  rintro e w' ⟨v, rfl, hn, hbW⟩
  have hbw : Below w.heap.size w w' := hb5.trans (hbW.mono hb5.size)
  have hnd' : NDX X d h false w' m (.iface T p) := (hnd.keeps hb4 _ _ _ _).keeps hbW _ _ _ _
  refine ⟨v, rfl, hbw, ?_⟩
  have e1 : (ps.take kk ++ [(m, Value.iface T p)]).flatMap (·.1) = (ps.take kk).flatMap (·.1) ++ m := by rw [List.flatMap_append]; simp
  have h9 := above_x X d h false (ps.take kk ++ [(m, Value.iface T p)]) v w' (by rw [List.map_append]; exact hn) (by simp) (by simp; omega) (fun h => by cases h) (fun i hi => by
    rw [List.length_append, List.length_take, Nat.min_eq_left (by omega)] at hi
    by_cases hlt : i < kk
    · have h8 := (hr i (by omega)).keeps hbw _ _ _ _
      have c1 : i + 1 < ps.length := by omega
      have c2 : i + 1 < (ps.take kk ++ [(m, Value.iface T p)]).length := by rw [List.length_append, List.length_take, Nat.min_eq_left (by omega)]; simp; omega
      have e1 : (k || decide (i + 1 < ps.length)) = true := by simp [c1]
      have e2 : (false || decide (i + 1 < (ps.take kk ++ [(m, Value.iface T p)]).length)) = true := by rw [decide_eq_true c2]; rfl
      rw [e1] at h8
      rw [e2, List.getElem_append_left (by rw [List.length_take]; omega), List.getElem_take]
      exact h8
    · have hik : i = kk := by simp at hi; omega
      subst hik
      have c2 : ¬ (i + 1 < (ps.take i ++ [(m, Value.iface T p)]).length) := by rw [List.length_append, List.length_take, Nat.min_eq_left (by omega)]; simp
      have e2 : (false || decide (i + 1 < (ps.take i ++ [(m, Value.iface T p)]).length)) = false := by rw [decide_eq_false c2]; rfl
      have e3 : (ps.take i).length = i := by rw [List.length_take]; omega
      rw [e2, List.getElem_append_right (by omega)]
      simp only [e3, Nat.sub_self, List.getElem_cons_zero]
      exact hnd') (by rw [e1]; exact hsum)
  rw [e1] at h9
  refine h9.mono ?_
  rintro e w'' ⟨b, rfl, hx, hbx⟩
  exact ⟨b, rfl, _, _, rfl, hx.mono (fun b h => h.elim id (fun h => hX b (by have := hbw.size; omega))) _ _ _ _, hbw.trans (hbx.mono hbw.size)⟩

theorem LiesX.cut {X : Nat → Prop} {d : Nat} {w : World} {l : List VT} {b o n c : Nat} (h : LiesX X (d + 1) w l (.slice (some ⟨b, o, none⟩) n c)) (m c2 : Nat) (hm : m ≤ l.length) (hc2 : m ≤ c2) : LiesX X (d + 1) w (l.take m) (.slice (some ⟨b, o, none⟩) m c2) := by
  have e : (l.take m).length = m := by rw [List.length_take]; omega
  obtain ⟨a', c', hv, hb, hr⟩ := h
  injection hv with q1 q2 q3
  subst q1 q3
  refine ⟨_, c2, by rw [e], ⟨by rw [e]; exact hc2, by rw [e]; exact Nat.le_trans hm hb.2⟩, fun hne => ?_⟩
  obtain ⟨b', o', ha, hx, hrest⟩ := hr (fun e0 => hne (by rw [e0]; simp))
  refine ⟨b', o', ha, hx, fun i hi => ?_⟩
  rw [List.getElem_take]
  exact hrest i (by rw [e] at hi; omega)

set_option maxRecDepth 100000 in
set_option maxHeartbeats 4000000 in
theorem head_wholeX (X : Nat → Prop) (d h : Nat) (k : Bool) (l : List VT) (v : Value) (w : World) (hn : NDX X d h k w l v) : Calls Try.prog 101 #[v, .int .i64 ((l.length : Nat) : Int)] w (NodeX X d h false l w) := by
  have HN : Hid (NDX X d h false w l v) := hn.loose _ _ _ _
  rcases nd_size (hn.nd _ _ _ _) with ⟨b, rfl, hcall⟩ | ⟨b, rfl, hcall⟩
  · have HC : Hid _ := hcall w (Below.refl _ _)
    clear hcall hn
    generalize l.length = L at *
    go_enter Try.func101, Try.ntmps101
    go_wp2_with fail
    refine Calls.mono HC.out ?_
    rintro e w1 ⟨rfl, hg⟩
    have HE : Hid (NodeX X d h false l w (.returned (.iface 106 (.pointer (some ⟨b, 0, none⟩)))) w1) := ⟨_, _, rfl, HN.out.keeps hg _ _ _ _, hg⟩
    go_wp2_with fail
    go_ret
    exact HE.out
  · have HC : Hid _ := hcall w (Below.refl _ _)
    clear hcall hn
    generalize l.length = L at *
    go_enter Try.func101, Try.ntmps101
    go_wp2_with fail
    refine Calls.mono HC.out ?_
    rintro e w1 ⟨rfl, hg⟩
    have HE : Hid (NodeX X d h false l w (.returned (.iface 112 (.pointer (some ⟨b, 0, none⟩)))) w1) := ⟨_, _, rfl, HN.out.keeps hg _ _ _ _, hg⟩
    go_wp2_with fail
    go_ret
    exact HE.out

set_option maxRecDepth 100000 in
set_option maxHeartbeats 8000000 in
theorem headX_any (X : Nat → Prop) (d : Nat) : ∀ (h : Nat) (k : Bool) (l : List VT) (v : Value) (n : Nat) (w : World), (∀ b, w.heap.size ≤ b → X b) → NDX X d h k w l v → 1 ≤ n → n ≤ l.length → l.length ≤ 1099511627776 → Calls Try.prog 101 #[v, .int .i64 (n : Int)] w (NodeX X d h false (l.take n) w) := by
  intro h
  induction h with
  | zero =>
    intro k l v n w hX hn h1 h2 hbig
    by_cases hw : n = l.length
    · subst hw
      rw [List.take_length]
      exact head_wholeX X d 0 k l v w hn
    obtain ⟨b, a, c, rfl, _, hc, hl, hl1, hl2, hl3⟩ := hn
    obtain ⟨g, o, rfl, hcap⟩ := Lies.some_at hl.lies (by omega)
    have HSz : Hid _ := leafSize_any b (some ⟨g, o, none⟩) l.length c w hc
    have HL : Hid (LiesX X (d + 1) w l (.slice (some ⟨g, o, none⟩) l.length c)) := hl
    have HX : Hid (∀ b, w.heap.size ≤ b → X b) := hX
    have Hl : Hid (1 ≤ l.length ∧ l.length ≤ 32 ∧ n ≤ l.length) := ⟨hl1, hl2, h2⟩
    have Hc : Hid (w.cell? ⟨b, 0, none⟩ = some (.slice (some ⟨g, o, none⟩) l.length c)) := hc
    have ta := as_LL
    have hni : ¬ ((n : Nat) : Int) = (l.length : Nat) := by omega
    have hnc : n ≤ c := by omega
    have hnci : (n : Int) ≤ (c : Nat) := by omega
    have hlci : (l.length : Int) ≤ (c : Nat) := by omega
    have hnli : (n : Int) ≤ (l.length : Nat) := by omega
    have hn0 : ¬ (n = 0) := by omega
    have hn0i : ¬ ((n : Nat) : Int) = 0 := by omega
    clear hl hl3 hbig hl1 hl2 h2 hw hc hX
    go_enter Try.func101, Try.ntmps101
    go_wp2_with fail
    refine Calls.mono HSz.out ?_
    rintro e w1 ⟨rfl, hw⟩
    replace hw := hw.symm
    subst hw
    have hc := Hc.out
    have HE : Hid (NodeX X d 0 false (l.take n) w (.returned (.iface 106 (.pointer (some ⟨w.heap.size, 0, none⟩)))) (w.alloc (.cells #[.slice (some ⟨g, o, none⟩) n n] 108))) := by
      have hbb : Below w.heap.size w (w.alloc (.cells #[.slice (some ⟨g, o, none⟩) n n] 108)) := ((Grew.refl w).alloc _).below
      have hl := Hl.out
      have e1 : (l.take n).length = n := by rw [List.length_take]; omega
      have q : LiesX X (d + 1) w (l.take n) (.slice (some ⟨g, o, none⟩) n n) := LiesX.cut HL.out n n hl.2.2 (Nat.le_refl _)
      refine ⟨_, _, rfl, ⟨w.heap.size, some ⟨g, o, none⟩, n, rfl, HX.out _ (Nat.le_refl _), by rw [e1]; simp, by rw [e1]; exact LiesX.stays (fun _ h => h) (fun _ _ _ hv => cell_keeps hbb hv) q, by omega, by omega, fun h => by cases h⟩, hbb⟩
    go_wp2_with fail
    go_ret
    exact HE.out
  | succ h ih =>
    intro k l v n w hX hn h1 h2 hbig
    by_cases hw : n = l.length
    · subst hw
      rw [List.take_length]
      exact head_wholeX X d (h + 1) k l v w hn
    have hsz := nd_size (hn.nd _ _ _ _)
    obtain ⟨b, sl, el, ps, rfl, _, hc0, hc1, hsX, heX, hl1, hl2, hl3, hl, hp⟩ := hn
    have hs := hsX.slv
    have he := heX.slv
    subst hl
    obtain ⟨g, o, c, hsl, hcap, hcs⟩ := hs.full (fun e => by have := congrArg List.length e; rw [List.length_map, List.length_nil] at this; omega)
    subst hsl
    rw [List.length_map] at hc0 hcap
    have hs' : SlV w (ps.map (·.2)) (.slice (some ⟨g, o, none⟩) ps.length c) := by have := hs; rwa [List.length_map] at this
    obtain ⟨i, rfl⟩ : ∃ i, n = i + 1 := ⟨n - 1, by omega⟩
    have HSz : Hid (Calls Try.prog 148 #[.pointer (some ⟨b, 0, none⟩)] w fun e w' => e = .returned (.int .i64 (ps.flatMap (·.1)).length) ∧ Below w.heap.size w w') := by
      rcases hsz with ⟨b', hv', hcall⟩ | ⟨b', hv', hcall⟩
      · injection hv' with q _
        exact absurd q (by decide)
      · have e : b' = b := by simpa using hv'.symm
        subst e
        exact hcall w (Below.refl _ _)
    have HFi : Hid (∀ V, Below w.heap.size w V → Calls Try.prog 73 #[.pointer (some ⟨b, 0, none⟩), .int .i64 (i : Int)] V (FindPost ps i V)) := fun V hV => find_any ps b el i V (cell_keeps hV hc1) (he.keeps hV) (by omega) hl2 hbig
    have HIt : Hid (∀ (kk q : Nat), InPart ps i kk q → ∃ vk m, w.cell? ⟨g, o + kk, none⟩ = some vk ∧ q + 1 ≤ 1099511627776 ∧ (∀ V, Below w.heap.size w V → Calls Try.prog 101 #[vk, .int .i64 ((q + 1 : Nat) : Int)] V (NodeX X d h false m V)) ∧
        (∀ (T : Nat) (p : Value) (w3 : World), Below w.heap.size w w3 → NDX X d h false w3 m (.iface T p) → Calls Try.prog 115 #[.slice (some ⟨w3.heap.size + 1, 0, none⟩) 2 2] ((w3.alloc (.cells #[.iface T p] 78)).alloc (.cells #[.slice (some ⟨g, o, none⟩) kk c, .slice (some ⟨w3.heap.size, 0, none⟩) 1 1] 102)) fun e w' => ∃ v, e = .returned v ∧ Below w.heap.size w w' ∧ Calls Try.prog 70 #[v] w' fun e w'' => ∃ b, e = .returned (.pointer (some ⟨b, 0, none⟩)) ∧ NodeX X d (h + 1) false ((ps.flatMap (·.1)).take (i + 1)) w (.returned (.iface 112 (.pointer (some ⟨b, 0, none⟩)))) w'')) := fun kk q hin => by
      have hlt := hin.lt
      have hinn := hin.inn
      have hle : (ps[kk]'hlt).1.length ≤ (ps.flatMap (·.1)).length := by rw [part_split ps kk hlt]; simp; omega
      refine ⟨(ps[kk]'hlt).2, (ps[kk]'hlt).1.take (q + 1), ?_, by omega, fun V hV => ih _ _ _ (q + 1) V (fun b h => hX b (Nat.le_trans hV.size h)) ((hp kk hlt).keeps hV _ _ _ _) (by omega) (by omega) (by omega), fun T p w3 hb3 hnd => ?_⟩
      · have := hcs kk (by rw [List.length_map]; exact hlt)
        rwa [List.getElem_map] at this
      · have h9 := head_tailX (kk := kk) (T := T) (p := p) (m := (ps[kk]'hlt).1.take (q + 1)) (k := k) hX hp hs' hlt hl2 hcap hb3 hnd (by rw [← in_take hin, List.length_take]; omega)
        rw [← in_take hin] at h9
        exact h9
    have Hc0 : Hid (w.cell? ⟨b, 0, none⟩ = some (.slice (some ⟨g, o, none⟩) ps.length c)) := hc0
    have ta := as_BL
    have tb := as_B
    obtain ⟨n, hn⟩ : ∃ n, n = i + 1 := ⟨_, rfl⟩
    rw [← hn] at h1 h2 hw HIt ⊢
    have hwi : IntKind.i64.wrap ((n : Nat) - 1 : Int) = (i : Int) := by rw [IntKind.wrap_i64]; omega
    have hni : ¬ ((n : Nat) : Int) = ((ps.flatMap (·.1)).length : Nat) := by omega
    generalize (ps.flatMap (·.1)).take n = R at *
    generalize (ps.flatMap (·.1)).length = F at *
    clear ih hp hcs hs hs' he hc1 hc0 hsz hbig hn h1 h2 hw hsX heX hX
    go_enter Try.func101, Try.ntmps101
    go_wp2_with fail
    refine Calls.mono HSz.out ?_
    rintro e w1 ⟨rfl, hb1⟩
    go_wp2_with fail
    refine (HFi.out _ hb1).mono ?_
    rintro e w2 ⟨kk, q, rfl, hin, hg2⟩
    have hb2 : Below w.heap.size w w2 := hb1.trans (hg2.mono hb1.size)
    obtain ⟨vk, m, hck, hq, hw, hco⟩ := HIt.out kk q hin
    have pk := cell_keeps hb2 hck
    have p0 := cell_keeps hb2 Hc0.out
    have Pk : Hid (w.cell? ⟨g, o + kk, none⟩ = some vk) := hck
    have P0 : Hid (w.cell? ⟨b, 0, none⟩ = some (.slice (some ⟨g, o, none⟩) ps.length c)) := Hc0.out
    have hkl : kk < ps.length := hin.lt
    have hki : (kk : Int) < (ps.length : Nat) := by omega
    have hkle : (kk : Int) ≤ (ps.length : Nat) := by omega
    have hkle2 : kk ≤ ps.length := by omega
    have hkc : kk ≤ c := by omega
    have hkci : (kk : Int) ≤ (c : Nat) := by omega
    have hLci : (ps.length : Int) ≤ (c : Nat) := by omega
    have Hw : Hid _ := hw
    have Hco : Hid _ := hco
    obtain ⟨q1, hq1⟩ : ∃ q1, q1 = q + 1 := ⟨_, rfl⟩
    rw [← hq1] at Hw
    have hwq : IntKind.i64.wrap ((q : Nat) + 1 : Int) = (q1 : Int) := by rw [IntKind.wrap_i64]; omega
    clear hg2 HFi HIt hw hco hck Hc0 HSz hin hq hq1
    generalize hLg : ps.length = L at *
    clear hLg hl1 hl2 hl3
    go_wp2_with fail
    go_region_held3 (fun w' => (w'.cell? ⟨b, 0, none⟩ = some (.slice (some ⟨g, o, none⟩) L c)) ∧ (w'.cell? ⟨g, o + kk, none⟩ = some vk)) (go_keep)
      (first
        | (go_at_call 70; refine Calls.mono HAb.out ?_; rintro e w5 ⟨b5, rfl, hx⟩; have HE : Hid (NodeX X d (h + 1) false R w (.returned (.iface 112 (.pointer (some ⟨b5, 0, none⟩)))) w5) := hx; clear hx; have hbZ : Below w.heap.size w w5 := (by obtain ⟨_, _, _, _, hz⟩ := HE.out; exact hz); have p0 := cell_keeps hbZ P0.out; have pk := cell_keeps hbZ Pk.out)
        | (go_at_call 115; refine Calls.mono HCo.out ?_; rintro e w4 ⟨v4, rfl, hb4, hab⟩; have HAb : Hid _ := hab; clear hab; have p0 := cell_keeps hb4 P0.out; have pk := cell_keeps hb4 Pk.out)
        | (go_at_call 101; refine (Hw.out _ hb2.drew).mono ?_; rintro e w3 ⟨T, p, rfl, hnd, hg3⟩; have hb3 : Below w.heap.size w w3 := hb2.drew.trans (hg3.mono hb2.size); have HCo : Hid _ := Hco.out T p w3 hb3 hnd; clear hnd hg3; have p0 := cell_keeps hb3 P0.out; have pk := cell_keeps hb3 Pk.out))
    all_goals (first | (go_ret; exact HE.out) | (go_wp2_with fail; go_ret; exact HE.out))

/-- As TN, in these blocks. -/
def TNX (X : Nat → Prop) (d : Nat) (w : World) (l : List VT) (v : Value) : Prop := ∃ h, NDX X d h false w l v ∧ (h = 0 ∨ 16 ^ h ≤ l.length)

/-- As OT, in these blocks. -/
def OTX (X : Nat → Prop) (d : Nat) (w : World) (l : List VT) (v : Value) : Prop := (l = [] ∧ v = .nilIface) ∨ TNX X d w l v

end Go.Proofs.Ytplahohaahfjmaa

