/-
  The contract of Join.
-/
import Derived.Test.YtpnfmcmhcjekfaaTail
namespace Go.Proofs.Ytpnfmcmhcjekfaa
open Go.RowKit

theorem SlVX.of_own {w : World} {base e : Nat} {v : Value} {vs : List Value} {n : Nat} (hn : n = vs.length) (h : w.ownsRow base e 1 v n vs) : SlVX (fun b => base ≤ b) w vs v := by
  obtain ⟨a, c, hv, hc, hr⟩ := SlV.of_own hn h
  refine ⟨a, c, hv, hc, fun hne => ?_⟩
  obtain ⟨b, o, ha, hcs⟩ := hr hne
  refine ⟨b, o, ha, ?_, hcs⟩
  have := h.lt b (by rw [hv, ha]; rfl)
  exact this.1

theorem NDX.loose {X : Nat → Prop} {d : Nat} {w : World} : ∀ (h : Nat) (k : Bool) (l : List VT) (v : Value), NDX X d h k w l v → NDX X d h false w l v := by
  intro h
  induction h with
  | zero =>
    intro k l v hn
    obtain ⟨b, a, c, hv, hx, hc, hl, h1, h2, _⟩ := hn
    exact ⟨b, a, c, hv, hx, hc, hl, h1, h2, fun h => by cases h⟩
  | succ h ih =>
    intro k l v hn
    obtain ⟨b, sl, el, ps, hv, hx, hc0, hc1, hs, he, h1, h2, _, hl, hp⟩ := hn
    refine ⟨b, sl, el, ps, hv, hx, hc0, hc1, hs, he, h1, h2, (fun h => by cases h), hl, fun i hi => ?_⟩
    have h9 := hp i hi
    by_cases c : i + 1 < ps.length
    · have e1 : (k || decide (i + 1 < ps.length)) = true := by simp [c]
      have e2 : (false || decide (i + 1 < ps.length)) = true := by simp [c]
      rw [e1] at h9; rw [e2]; exact h9
    · have e2 : (false || decide (i + 1 < ps.length)) = false := by simp; omega
      rw [e2]; exact ih _ _ _ h9

theorem concat_x (X : Nat → Prop) (l1 l2 : List Value) (u1 u2 : Value) (w1 V : World) (B : Nat) (hX : ∀ b, V.heap.size ≤ b → X b) (hb : Below w1.heap.size w1 V) (h1 : NdS w1 l1 u1) (h2 : NdS w1 l2 u2) (hl1 : l1.length ≤ 65536) (hl2 : l2.length ≤ 65536) (c1 : V.cell? ⟨B, 0, none⟩ = some u1) (c2 : V.cell? ⟨B, 1, none⟩ = some u2) :
    Calls Try.prog 115 #[.slice (some ⟨B, 0, none⟩) 2 2] V fun e w' => ∃ v, e = .returned v ∧ SlVX X w' (l1 ++ l2) v ∧ Below w1.heap.size w1 w' := by
  have k1 := h1.keeps hb
  have k2 := h2.keeps hb
  obtain ⟨a1, cc1, rfl, _⟩ := k1.1.slice
  obtain ⟨a2, cc2, rfl, _⟩ := k2.1.slice
  refine (concat2N_any l1.length l2.length l1 l2 a1 a2 cc1 cc2 B V c1 c2 (k1.1.src k1.2) (k2.1.src k2.2) hl1 hl2).mono ?_
  rintro e w' ⟨v, rfl, hown, hb2⟩
  exact ⟨v, rfl, (SlVX.of_own (by rw [List.length_append]) hown).stays hX (fun _ _ _ h => h), hb.trans (hb2.mono hb.size)⟩

/-- A node is told, in these blocks. -/
def NodeX (X : Nat → Prop) (d h : Nat) (k : Bool) (l : List VT) (W : World) (e : Ending) (w' : World) : Prop := ∃ T p, e = .returned (.iface T p) ∧ NDX X d h k w' l (.iface T p) ∧ Below W.heap.size W w'

theorem head_tailX {X : Nat → Prop} {d h : Nat} {k : Bool} {ps : List Part} {kk g o c : Nat} {w w3 : World} {T : Nat} {p : Value} {m : List VT} (hX : ∀ b, w.heap.size ≤ b → X b) (hr : ∀ (i : Nat) (hi : i < ps.length), NDX X d h (k || decide (i + 1 < ps.length)) w (ps[i]'hi).1 (ps[i]'hi).2) (hs : SlV w (ps.map (·.2)) (.slice (some ⟨g, o, none⟩) ps.length c)) (hk : kk < ps.length) (h32 : ps.length ≤ 32) (hcap : ps.length ≤ c) (hb : Below w.heap.size w w3) (hnd : NDX X d h false w3 m (.iface T p)) (hsum : ((ps.take kk).flatMap (·.1) ++ m).length ≤ 1099511627776) :
    Calls Try.prog 115 #[.slice (some ⟨w3.heap.size + 1, 0, none⟩) 2 2] ((w3.alloc (.cells #[.iface T p] 78)).alloc (.cells #[.slice (some ⟨g, o, none⟩) kk c, .slice (some ⟨w3.heap.size, 0, none⟩) 1 1] 102)) fun e w' => ∃ v, e = .returned v ∧ Below w.heap.size w w' ∧ Calls Try.prog 70 #[v] w' fun e w'' => ∃ b, e = .returned (.pointer (some ⟨b, 0, none⟩)) ∧ NodeX X d (h + 1) false ((ps.take kk).flatMap (·.1) ++ m) w (.returned (.iface 112 (.pointer (some ⟨b, 0, none⟩)))) w'' := by
  have hrN : Row d h k w ps := fun i hi => (hr i hi).nd _ _ _ _
  have hA : Row d h true w (ps.take kk) := hrN.cut kk hk
  have sA : SlV w ((ps.take kk).map (·.2)) (.slice (some ⟨g, o, none⟩) kk c) := by
    have := hs
    rw [← List.length_map (f := fun x : Part => x.2)] at this
    have := this.taken kk c (by rw [List.length_map]; omega) (by omega)
    rwa [← List.map_take] at this
  have hb4 : Below w3.heap.size w3 (w3.alloc (.cells #[.iface T p] 78)) := ((Grew.refl w3).alloc _).below
  have hb5 : Below w.heap.size w (w3.alloc (.cells #[.iface T p] 78)) := hb.trans (hb4.mono hb.size)
  have n1 : NdS (w3.alloc (.cells #[.iface T p] 78)) ((ps.take kk).map (·.2)) (.slice (some ⟨g, o, none⟩) kk c) := ⟨sA.keeps hb5, hA.one⟩
  have n2 : NdS (w3.alloc (.cells #[.iface T p] 78)) [.iface T p] (.slice (some ⟨w3.heap.size, 0, none⟩) 1 1) := by
    refine ⟨⟨_, 1, rfl, by simp, fun _ => ⟨w3.heap.size, 0, rfl, fun i hi => ?_⟩⟩, fun u hu => by rw [List.mem_singleton.1 hu]; rfl⟩
    have : i = 0 := by simp at hi; omega
    subst this; simp
  refine (concat_x X _ _ _ _ _ _ _ (fun b h => hX b (by have := hb.size; simp at h; omega)) ((Grew.refl _).alloc _).below n1 n2 (by rw [List.length_map, List.length_take]; omega) (by simp) (by simp) (by simp)).mono ?_
  rintro e w' ⟨v, rfl, hn, hbW⟩
  have hbw : Below w.heap.size w w' := hb5.trans (hbW.mono hb5.size)
  have hnd' : NDX X d h false w' m (.iface T p) := (hnd.keeps hb4 _ _ _ _).keeps hbW _ _ _ _
  refine ⟨v, rfl, hbw, ?_⟩
  have e1 : (ps.take kk ++ [(m, Value.iface T p)]).flatMap (·.1) = (ps.take kk).flatMap (·.1) ++ m := by rw [List.flatMap_append]; simp
  have h9 := above_x X d h false (ps.take kk ++ [(m, Value.iface T p)]) v w' (by rw [List.map_append]; exact hn) (by simp) (by simp; omega) (fun h => by cases h) (fun i hi => by
    rw [List.length_append, List.length_take, Nat.min_eq_left (by omega)] at hi
    by_cases hlt : i < kk
    · have h8 := (hr i (by omega)).keeps hbw _ _ _ _
      have c1 : i + 1 < ps.length := by omega
      have c2 : i + 1 < (ps.take kk ++ [(m, Value.iface T p)]).length := by rw [List.length_append, List.length_take, Nat.min_eq_left (by omega)]; simp; omega
      have e1 : (k || decide (i + 1 < ps.length)) = true := by simp [c1]
      have e2 : (false || decide (i + 1 < (ps.take kk ++ [(m, Value.iface T p)]).length)) = true := by rw [decide_eq_true c2]; rfl
      rw [e1] at h8
      rw [e2, List.getElem_append_left (by rw [List.length_take]; omega), List.getElem_take]
      exact h8
    · have hik : i = kk := by simp at hi; omega
      subst hik
      have c2 : ¬ (i + 1 < (ps.take i ++ [(m, Value.iface T p)]).length) := by rw [List.length_append, List.length_take, Nat.min_eq_left (by omega)]; simp
      have e2 : (false || decide (i + 1 < (ps.take i ++ [(m, Value.iface T p)]).length)) = false := by rw [decide_eq_false c2]; rfl
      have e3 : (ps.take i).length = i := by rw [List.length_take]; omega
      rw [e2, List.getElem_append_right (by omega)]
      simp only [e3, Nat.sub_self, List.getElem_cons_zero]
      exact hnd') (by rw [e1]; exact hsum)
  rw [e1] at h9
  refine h9.mono ?_
  rintro e w'' ⟨b, rfl, hx, hbx⟩
  exact ⟨b, rfl, _, _, rfl, hx.mono (fun b h => h.elim id (fun h => hX b (by have := hbw.size; omega))) _ _ _ _, hbw.trans (hbx.mono hbw.size)⟩

theorem LiesX.cut {X : Nat → Prop} {d : Nat} {w : World} {l : List VT} {b o n c : Nat} (h : LiesX X (d + 1) w l (.slice (some ⟨b, o, none⟩) n c)) (m c2 : Nat) (hm : m ≤ l.length) (hc2 : m ≤ c2) : LiesX X (d + 1) w (l.take m) (.slice (some ⟨b, o, none⟩) m c2) := by
  have e : (l.take m).length = m := by rw [List.length_take]; omega
  obtain ⟨a', c', hv, hb, hr⟩ := h
  injection hv with q1 q2 q3
  subst q1 q3
  refine ⟨_, c2, by rw [e], ⟨by rw [e]; exact hc2, by rw [e]; exact Nat.le_trans hm hb.2⟩, fun hne => ?_⟩
  obtain ⟨b', o', ha, hx, hrest⟩ := hr (fun e0 => hne (by rw [e0]; simp))
  refine ⟨b', o', ha, hx, fun i hi => ?_⟩
  rw [List.getElem_take]
  exact hrest i (by rw [e] at hi; omega)

set_option maxRecDepth 100000 in
set_option maxHeartbeats 4000000 in
theorem head_wholeX (X : Nat → Prop) (d h : Nat) (k : Bool) (l : List VT) (v : Value) (w : World) (hn : NDX X d h k w l v) : Calls Try.prog 101 #[v, .int .i64 ((l.length : Nat) : Int)] w (NodeX X d h false l w) := by
  have HN : Hid (NDX X d h false w l v) := hn.loose _ _ _ _
  rcases nd_size (hn.nd _ _ _ _) with ⟨b, rfl, hcall⟩ | ⟨b, rfl, hcall⟩
  · have HC : Hid _ := hcall w (Below.refl _ _)
    clear hcall hn
    generalize l.length = L at *
    go_enter Try.func101, Try.ntmps101
    go_wp2_with fail
    refine Calls.mono HC.out ?_
    rintro e w1 ⟨rfl, hg⟩
    have HE : Hid (NodeX X d h false l w (.returned (.iface 106 (.pointer (some ⟨b, 0, none⟩)))) w1) := ⟨_, _, rfl, HN.out.keeps hg _ _ _ _, hg⟩
    go_wp2_with fail
    go_ret
    exact HE.out
  · have HC : Hid _ := hcall w (Below.refl _ _)
    clear hcall hn
    generalize l.length = L at *
    go_enter Try.func101, Try.ntmps101
    go_wp2_with fail
    refine Calls.mono HC.out ?_
    rintro e w1 ⟨rfl, hg⟩
    have HE : Hid (NodeX X d h false l w (.returned (.iface 112 (.pointer (some ⟨b, 0, none⟩)))) w1) := ⟨_, _, rfl, HN.out.keeps hg _ _ _ _, hg⟩
    go_wp2_with fail
    go_ret
    exact HE.out

set_option maxRecDepth 100000 in
set_option maxHeartbeats 8000000 in
theorem headX_any (X : Nat → Prop) (d : Nat) : ∀ (h : Nat) (k : Bool) (l : List VT) (v : Value) (n : Nat) (w : World), (∀ b, w.heap.size ≤ b → X b) → NDX X d h k w l v → 1 ≤ n → n ≤ l.length → l.length ≤ 1099511627776 → Calls Try.prog 101 #[v, .int .i64 (n : Int)] w (NodeX X d h false (l.take n) w) := by
  intro h
  induction h with
  | zero =>
    intro k l v n w hX hn h1 h2 hbig
    by_cases hw : n = l.length
    · subst hw
      rw [List.take_length]
      exact head_wholeX X d 0 k l v w hn
    obtain ⟨b, a, c, rfl, _, hc, hl, hl1, hl2, hl3⟩ := hn
    obtain ⟨g, o, rfl, hcap⟩ := Lies.some_at hl.lies (by omega)
    have HSz : Hid _ := leafSize_any b (some ⟨g, o, none⟩) l.length c w hc
    have HL : Hid (LiesX X (d + 1) w l (.slice (some ⟨g, o, none⟩) l.length c)) := hl
    have HX : Hid (∀ b, w.heap.size ≤ b → X b) := hX
    have Hl : Hid (1 ≤ l.length ∧ l.length ≤ 32 ∧ n ≤ l.length) := ⟨hl1, hl2, h2⟩
    have Hc : Hid (w.cell? ⟨b, 0, none⟩ = some (.slice (some ⟨g, o, none⟩) l.length c)) := hc
    have ta := as_LL
    have hni : ¬ ((n : Nat) : Int) = (l.length : Nat) := by omega
    have hnc : n ≤ c := by omega
    have hnci : (n : Int) ≤ (c : Nat) := by omega
    have hlci : (l.length : Int) ≤ (c : Nat) := by omega
    have hnli : (n : Int) ≤ (l.length : Nat) := by omega
    have hn0 : ¬ (n = 0) := by omega
    have hn0i : ¬ ((n : Nat) : Int) = 0 := by omega
    clear hl hl3 hbig hl1 hl2 h2 hw hc hX
    go_enter Try.func101, Try.ntmps101
    go_wp2_with fail
    refine Calls.mono HSz.out ?_
    rintro e w1 ⟨rfl, hw⟩
    replace hw := hw.symm
    subst hw
    have hc := Hc.out
    have HE : Hid (NodeX X d 0 false (l.take n) w (.returned (.iface 106 (.pointer (some ⟨w.heap.size, 0, none⟩)))) (w.alloc (.cells #[.slice (some ⟨g, o, none⟩) n n] 108))) := by
      have hbb : Below w.heap.size w (w.alloc (.cells #[.slice (some ⟨g, o, none⟩) n n] 108)) := ((Grew.refl w).alloc _).below
      have hl := Hl.out
      have e1 : (l.take n).length = n := by rw [List.length_take]; omega
      have q : LiesX X (d + 1) w (l.take n) (.slice (some ⟨g, o, none⟩) n n) := LiesX.cut HL.out n n hl.2.2 (Nat.le_refl _)
      refine ⟨_, _, rfl, ⟨w.heap.size, some ⟨g, o, none⟩, n, rfl, HX.out _ (Nat.le_refl _), by rw [e1]; simp, by rw [e1]; exact LiesX.stays (fun _ h => h) (fun _ _ _ hv => cell_keeps hbb hv) q, by omega, by omega, fun h => by cases h⟩, hbb⟩
    go_wp2_with fail
    go_ret
    exact HE.out
  | succ h ih =>
    intro k l v n w hX hn h1 h2 hbig
    by_cases hw : n = l.length
    · subst hw
      rw [List.take_length]
      exact head_wholeX X d (h + 1) k l v w hn
    have hsz := nd_size (hn.nd _ _ _ _)
    obtain ⟨b, sl, el, ps, rfl, _, hc0, hc1, hsX, heX, hl1, hl2, hl3, hl, hp⟩ := hn
    have hs := hsX.slv
    have he := heX.slv
    subst hl
    obtain ⟨g, o, c, hsl, hcap, hcs⟩ := hs.full (fun e => by have := congrArg List.length e; rw [List.length_map, List.length_nil] at this; omega)
    subst hsl
    rw [List.length_map] at hc0 hcap
    have hs' : SlV w (ps.map (·.2)) (.slice (some ⟨g, o, none⟩) ps.length c) := by have := hs; rwa [List.length_map] at this
    obtain ⟨i, rfl⟩ : ∃ i, n = i + 1 := ⟨n - 1, by omega⟩
    have HSz : Hid (Calls Try.prog 148 #[.pointer (some ⟨b, 0, none⟩)] w fun e w' => e = .returned (.int .i64 (ps.flatMap (·.1)).length) ∧ Below w.heap.size w w') := by
      rcases hsz with ⟨b', hv', hcall⟩ | ⟨b', hv', hcall⟩
      · injection hv' with q _
        exact absurd q (by decide)
      · have e : b' = b := by simpa using hv'.symm
        subst e
        exact hcall w (Below.refl _ _)
    have HFi : Hid (∀ V, Below w.heap.size w V → Calls Try.prog 73 #[.pointer (some ⟨b, 0, none⟩), .int .i64 (i : Int)] V (FindPost ps i V)) := fun V hV => find_any ps b el i V (cell_keeps hV hc1) (he.keeps hV) (by omega) hl2 hbig
    have HIt : Hid (∀ (kk q : Nat), InPart ps i kk q → ∃ vk m, w.cell? ⟨g, o + kk, none⟩ = some vk ∧ q + 1 ≤ 1099511627776 ∧ (∀ V, Below w.heap.size w V → Calls Try.prog 101 #[vk, .int .i64 ((q + 1 : Nat) : Int)] V (NodeX X d h false m V)) ∧
        (∀ (T : Nat) (p : Value) (w3 : World), Below w.heap.size w w3 → NDX X d h false w3 m (.iface T p) → Calls Try.prog 115 #[.slice (some ⟨w3.heap.size + 1, 0, none⟩) 2 2] ((w3.alloc (.cells #[.iface T p] 78)).alloc (.cells #[.slice (some ⟨g, o, none⟩) kk c, .slice (some ⟨w3.heap.size, 0, none⟩) 1 1] 102)) fun e w' => ∃ v, e = .returned v ∧ Below w.heap.size w w' ∧ Calls Try.prog 70 #[v] w' fun e w'' => ∃ b, e = .returned (.pointer (some ⟨b, 0, none⟩)) ∧ NodeX X d (h + 1) false ((ps.flatMap (·.1)).take (i + 1)) w (.returned (.iface 112 (.pointer (some ⟨b, 0, none⟩)))) w'')) := fun kk q hin => by
      have hlt := hin.lt
      have hinn := hin.inn
      have hle : (ps[kk]'hlt).1.length ≤ (ps.flatMap (·.1)).length := by rw [part_split ps kk hlt]; simp; omega
      refine ⟨(ps[kk]'hlt).2, (ps[kk]'hlt).1.take (q + 1), ?_, by omega, fun V hV => ih _ _ _ (q + 1) V (fun b h => hX b (Nat.le_trans hV.size h)) ((hp kk hlt).keeps hV _ _ _ _) (by omega) (by omega) (by omega), fun T p w3 hb3 hnd => ?_⟩
      · have := hcs kk (by rw [List.length_map]; exact hlt)
        rwa [List.getElem_map] at this
      · have h9 := head_tailX (kk := kk) (T := T) (p := p) (m := (ps[kk]'hlt).1.take (q + 1)) (k := k) hX hp hs' hlt hl2 hcap hb3 hnd (by rw [← in_take hin, List.length_take]; omega)
        rw [← in_take hin] at h9
        exact h9
    have Hc0 : Hid (w.cell? ⟨b, 0, none⟩ = some (.slice (some ⟨g, o, none⟩) ps.length c)) := hc0
    have ta := as_BL
    have tb := as_B
    obtain ⟨n, hn⟩ : ∃ n, n = i + 1 := ⟨_, rfl⟩
    rw [← hn] at h1 h2 hw HIt ⊢
    have hwi : IntKind.i64.wrap ((n : Nat) - 1 : Int) = (i : Int) := by rw [IntKind.wrap_i64]; omega
    have hni : ¬ ((n : Nat) : Int) = ((ps.flatMap (·.1)).length : Nat) := by omega
    generalize (ps.flatMap (·.1)).take n = R at *
    generalize (ps.flatMap (·.1)).length = F at *
    clear ih hp hcs hs hs' he hc1 hc0 hsz hbig hn h1 h2 hw hsX heX hX
    go_enter Try.func101, Try.ntmps101
    go_wp2_with fail
    refine Calls.mono HSz.out ?_
    rintro e w1 ⟨rfl, hb1⟩
    go_wp2_with fail
    refine (HFi.out _ hb1).mono ?_
    rintro e w2 ⟨kk, q, rfl, hin, hg2⟩
    have hb2 : Below w.heap.size w w2 := hb1.trans (hg2.mono hb1.size)
    obtain ⟨vk, m, hck, hq, hw, hco⟩ := HIt.out kk q hin
    have pk := cell_keeps hb2 hck
    have p0 := cell_keeps hb2 Hc0.out
    have Pk : Hid (w.cell? ⟨g, o + kk, none⟩ = some vk) := hck
    have P0 : Hid (w.cell? ⟨b, 0, none⟩ = some (.slice (some ⟨g, o, none⟩) ps.length c)) := Hc0.out
    have hkl : kk < ps.length := hin.lt
    have hki : (kk : Int) < (ps.length : Nat) := by omega
    have hkle : (kk : Int) ≤ (ps.length : Nat) := by omega
    have hkle2 : kk ≤ ps.length := by omega
    have hkc : kk ≤ c := by omega
    have hkci : (kk : Int) ≤ (c : Nat) := by omega
    have hLci : (ps.length : Int) ≤ (c : Nat) := by omega
    have Hw : Hid _ := hw
    have Hco : Hid _ := hco
    obtain ⟨q1, hq1⟩ : ∃ q1, q1 = q + 1 := ⟨_, rfl⟩
    rw [← hq1] at Hw
    have hwq : IntKind.i64.wrap ((q : Nat) + 1 : Int) = (q1 : Int) := by rw [IntKind.wrap_i64]; omega
    clear hg2 HFi HIt hw hco hck Hc0 HSz hin hq hq1
    generalize hLg : ps.length = L at *
    clear hLg hl1 hl2 hl3
    go_wp2_with fail
    go_region_held3 (fun w' => (w'.cell? ⟨b, 0, none⟩ = some (.slice (some ⟨g, o, none⟩) L c)) ∧ (w'.cell? ⟨g, o + kk, none⟩ = some vk)) (go_keep)
      (first
        | (go_at_call 70; refine Calls.mono HAb.out ?_; rintro e w5 ⟨b5, rfl, hx⟩; have HE : Hid (NodeX X d (h + 1) false R w (.returned (.iface 112 (.pointer (some ⟨b5, 0, none⟩)))) w5) := hx; clear hx; have hbZ : Below w.heap.size w w5 := (by obtain ⟨_, _, _, _, hz⟩ := HE.out; exact hz); have p0 := cell_keeps hbZ P0.out; have pk := cell_keeps hbZ Pk.out)
        | (go_at_call 115; refine Calls.mono HCo.out ?_; rintro e w4 ⟨v4, rfl, hb4, hab⟩; have HAb : Hid _ := hab; clear hab; have p0 := cell_keeps hb4 P0.out; have pk := cell_keeps hb4 Pk.out)
        | (go_at_call 101; refine (Hw.out _ hb2.drew).mono ?_; rintro e w3 ⟨T, p, rfl, hnd, hg3⟩; have hb3 : Below w.heap.size w w3 := hb2.drew.trans (hg3.mono hb2.size); have HCo : Hid _ := Hco.out T p w3 hb3 hnd; clear hnd hg3; have p0 := cell_keeps hb3 P0.out; have pk := cell_keeps hb3 Pk.out))
    all_goals (first | (go_ret; exact HE.out) | (go_wp2_with fail; go_ret; exact HE.out))

/-- As TN, in these blocks. -/
def TNX (X : Nat → Prop) (d : Nat) (w : World) (l : List VT) (v : Value) : Prop := ∃ h, NDX X d h false w l v ∧ (h = 0 ∨ 16 ^ h ≤ l.length)

/-- As OT, in these blocks. -/
def OTX (X : Nat → Prop) (d : Nat) (w : World) (l : List VT) (v : Value) : Prop := (l = [] ∧ v = .nilIface) ∨ TNX X d w l v

end Go.Proofs.Ytpnfmcmhcjekfaa

namespace Go.Proofs.Ytpnfmcmhcjekfaa
open Go.RowKit

/-- A vector, nil or not, that holds these items. -/
def VC (d : Nat) (w : World) (l : List VT) (p : Value) : Prop := (l = [] ∧ p = .pointer none) ∨ ∃ b t, p = .pointer (some ⟨b, 0, none⟩) ∧ w.cell? ⟨b, 0, none⟩ = some t ∧ OT d w l t

theorem VC.keeps {d : Nat} {w w' : World} {l : List VT} {p : Value} (h : VC d w l p) (hb : Below w.heap.size w w') : VC d w' l p := by
  rcases h with h | ⟨b, t, hp, hc, ht⟩
  · exact .inl h
  · exact .inr ⟨b, t, hp, cell_keeps hb hc, ht.keeps hb⟩

theorem VC.made {d : Nat} {w : World} {l : List VT} {t : Value} (ht : OT d w l t) (T : Nat) : VC d (w.alloc (.cells #[t] T)) l (.pointer (some ⟨w.heap.size, 0, none⟩)) :=
  .inr ⟨w.heap.size, t, rfl, by simp, ht.keeps ((Grew.refl w).alloc _).below⟩

/-- What own tells. -/
def OwnPost (d : Nat) (l : List VT) (w : World) (e : Ending) (w' : World) : Prop := ∃ b t, e = .returned (.pointer (some ⟨b, 0, none⟩)) ∧ w'.cell? ⟨b, 0, none⟩ = some t ∧ OT d w' l t ∧ Below w.heap.size w w'

set_option maxRecDepth 100000 in
theorem vown_any (d : Nat) (l : List VT) (p : Value) (w : World) (h : VC d w l p) : Calls Try.prog 55 #[p] w (OwnPost d l w) := by
  rcases h with ⟨rfl, rfl⟩ | ⟨b, t, rfl, hc, ht⟩
  · have HE : Hid (OwnPost d [] w (.returned (.pointer (some ⟨w.heap.size, 0, none⟩))) (w.alloc (.cells #[.nilIface] 81))) := ⟨w.heap.size, .nilIface, rfl, by simp, .inl ⟨rfl, rfl⟩, ((Grew.refl w).alloc _).below⟩
    go_enter Try.func55, Try.ntmps55
    go_wp2_with fail
    go_ret
    exact HE.out
  · have HE : Hid (OwnPost d l w (.returned (.pointer (some ⟨b, 0, none⟩))) w) := ⟨b, t, rfl, hc, ht, Below.refl _ _⟩
    clear hc ht
    go_enter Try.func55, Try.ntmps55
    go_wp2_with fail
    go_ret
    exact HE.out

/-- A number is told. -/
def NumPost (n : Nat) (w : World) (e : Ending) (w' : World) : Prop := e = .returned (.int .i64 (n : Int)) ∧ Below w.heap.size w w'

set_option maxRecDepth 100000 in
theorem vlen_any (d : Nat) (l : List VT) (p : Value) (w : World) (h : VC d w l p) : Calls Try.prog 24 #[p] w (NumPost l.length w) := by
  have HO : Hid _ := vown_any d l p w h
  clear h
  go_enter Try.func24, Try.ntmps24
  go_wp2_with fail
  refine Calls.mono HO.out ?_
  rintro e w1 ⟨b, t, rfl, hc, ht, hb1⟩
  rcases ht with ⟨rfl, rfl⟩ | ht
  · have HE : Hid (NumPost ([] : List VT).length w (.returned (.int .i64 0)) w1) := ⟨rfl, hb1⟩
    clear HO
    go_wp2_with fail
    go_ret
    exact HE.out
  · obtain ⟨h, hn, _⟩ := ht
    rcases nd_size hn with ⟨b2, rfl, hcall⟩ | ⟨b2, rfl, hcall⟩
    · have HC : Hid _ := hcall w1 (Below.refl _ _)
      clear hcall hn HO
      go_wp2_with fail
      refine Calls.mono HC.out ?_
      rintro e w2 ⟨rfl, hb2⟩
      have HE : Hid (NumPost l.length w (.returned (.int .i64 l.length)) w2) := ⟨rfl, hb1.trans (hb2.mono hb1.size)⟩
      clear HC
      go_wp2_with fail
      go_ret
      exact HE.out
    · have HC : Hid _ := hcall w1 (Below.refl _ _)
      clear hcall hn HO
      go_wp2_with fail
      refine Calls.mono HC.out ?_
      rintro e w2 ⟨rfl, hb2⟩
      have HE : Hid (NumPost l.length w (.returned (.int .i64 l.length)) w2) := ⟨rfl, hb1.trans (hb2.mono hb1.size)⟩
      clear HC
      go_wp2_with fail
      go_ret
      exact HE.out

/-- A yes or no is told. -/
def BoolPost (y : Bool) (w : World) (e : Ending) (w' : World) : Prop := e = .returned (.bool y) ∧ Below w.heap.size w w'

set_option maxRecDepth 100000 in
theorem hasPlace_any (d : Nat) (l : List VT) (p : Value) (i : Int) (w : World) (h : VC d w l p) : Calls Try.prog 48 #[p, .int .i64 i] w (BoolPost (decide (0 ≤ i ∧ i < (l.length : Int))) w) := by
  have HO : Hid _ := vlen_any d l p w h
  clear h
  obtain ⟨D, hD⟩ : ∃ D, D = decide (0 ≤ i ∧ i < (l.length : Int)) := ⟨_, rfl⟩
  rw [← hD]
  have HDD : Hid (D = decide (0 ≤ i ∧ i < (l.length : Int))) := hD
  clear hD
  by_cases h0 : 0 ≤ i
  · have HD : Hid (decide (0 ≤ i ∧ i < (l.length : Int)) = decide (i < (l.length : Int))) := by show _ = _; simp [h0]
    go_enter Try.func48, Try.ntmps48
    go_wp2_with fail
    refine Calls.mono HO.out ?_
    rintro e w1 ⟨rfl, hb1⟩
    have HE : Hid (BoolPost D w (.returned (.bool (decide (i < (l.length : Int))))) w1) := ⟨by rw [HDD.out, HD.out], hb1⟩
    clear HO
    go_wp2_with fail
    go_ret
    exact HE.out
  · have HE : Hid (BoolPost D w (.returned (.bool false)) w) := ⟨by rw [HDD.out]; simp [h0], Below.refl _ _⟩
    have h0' : i < 0 := by omega
    clear HO
    go_enter Try.func48, Try.ntmps48
    go_wp2_with fail
    go_ret
    exact HE.out

set_option maxRecDepth 100000 in
theorem hasEnd_any (d : Nat) (l : List VT) (p : Value) (i : Int) (w : World) (h : VC d w l p) : Calls Try.prog 79 #[p, .int .i64 i] w (BoolPost (decide (0 ≤ i ∧ i ≤ (l.length : Int))) w) := by
  have HO : Hid _ := vlen_any d l p w h
  clear h
  obtain ⟨D, hD⟩ : ∃ D, D = decide (0 ≤ i ∧ i ≤ (l.length : Int)) := ⟨_, rfl⟩
  rw [← hD]
  have HDD : Hid (D = decide (0 ≤ i ∧ i ≤ (l.length : Int))) := hD
  clear hD
  by_cases h0 : 0 ≤ i
  · have HD : Hid (decide (0 ≤ i ∧ i ≤ (l.length : Int)) = decide (i ≤ (l.length : Int))) := by show _ = _; simp [h0]
    go_enter Try.func79, Try.ntmps79
    go_wp2_with fail
    refine Calls.mono HO.out ?_
    rintro e w1 ⟨rfl, hb1⟩
    have HE : Hid (BoolPost D w (.returned (.bool (decide (i ≤ (l.length : Int))))) w1) := ⟨by rw [HDD.out, HD.out], hb1⟩
    clear HO
    go_wp2_with fail
    go_ret
    exact HE.out
  · have HE : Hid (BoolPost D w (.returned (.bool false)) w) := ⟨by rw [HDD.out]; simp [h0], Below.refl _ _⟩
    have h0' : i < 0 := by omega
    clear HO
    go_enter Try.func79, Try.ntmps79
    go_wp2_with fail
    go_ret
    exact HE.out

/-- What Height tells: nothing of an empty one, else a height that the items bear out. -/
def HeightPost (l : List VT) (w : World) (e : Ending) (w' : World) : Prop := ∃ n : Nat, e = .returned (.int .i64 (n : Int)) ∧ (l = [] ∧ n = 0 ∨ l ≠ [] ∧ ∃ h, n = h + 1 ∧ (h = 0 ∨ 16 ^ h ≤ l.length)) ∧ Below w.heap.size w w'

set_option maxRecDepth 100000 in
theorem vheight_any (d : Nat) (l : List VT) (p : Value) (w : World) (h : VC d w l p) (hbig : l.length ≤ 1099511627776) : Calls Try.prog 25 #[p] w (HeightPost l w) := by
  have HO : Hid _ := vlen_any d l p w h
  by_cases hl : l = []
  · subst hl
    clear h
    go_enter Try.func25, Try.ntmps25
    go_wp2_with fail
    refine Calls.mono HO.out ?_
    rintro e w1 ⟨rfl, hb1⟩
    have HE : Hid (HeightPost [] w (.returned (.int .i64 0)) w1) := ⟨0, rfl, .inl ⟨rfl, rfl⟩, hb1⟩
    clear HO
    go_wp2_with fail
    go_ret
    exact HE.out
  · have hl0 : 0 < l.length := List.length_pos_iff.2 hl
    rcases h with ⟨h0, _⟩ | ⟨b, t, rfl, hc, ht⟩
    · exact absurd h0 hl
    rcases ht with ⟨h0, _⟩ | ht
    · exact absurd h0 hl
    have Hc : Hid (w.cell? ⟨b, 0, none⟩ = some t) := hc
    obtain ⟨h, hn, hh⟩ := ht
    have hle : h ≤ 1000 := by
      rcases hh with rfl | hh
      · omega
      · have := pow_low hh hbig; omega
    have HH : Hid (∀ V, Below w.heap.size w V → Calls Try.prog 56 #[t] V fun e w' => e = .returned (.int .i64 ((h + 1 : Nat) : Int)) ∧ w' = V) := fun V hV => height_any d h false l t V (hn.keeps hV _ _ _ _) hle
    have hli : ¬ (((l.length : Nat) : Int) = 0) := by omega
    have Hh : Hid (h = 0 ∨ 16 ^ h ≤ l.length) := hh
    have Hl : Hid (l ≠ []) := hl
    clear hn hc hh
    go_enter Try.func25, Try.ntmps25
    go_wp2_with fail
    refine Calls.mono HO.out ?_
    rintro e w1 ⟨rfl, hb1⟩
    have hc := cell_keeps hb1 Hc.out
    clear HO
    go_wp2_with fail
    refine (HH.out _ hb1).mono ?_
    rintro e w2 ⟨rfl, hw⟩
    replace hw := hw.symm
    subst hw
    have HE : Hid (HeightPost l w (.returned (.int .i64 ((h + 1 : Nat) : Int))) w1) := ⟨h + 1, rfl, .inr ⟨Hl.out, h, rfl, Hh.out⟩, hb1⟩
    clear HH
    go_wp2_with fail
    go_ret
    exact HE.out

/-- A vector is told, or an error alone. -/
def VecPost (d : Nat) (r : List VT ⊕ Nat) (w : World) (e : Ending) (w' : World) : Prop :=
  Below w.heap.size w w' ∧ match r with
  | .inl l => ∃ b, e = .returned (.tuple #[.pointer (some ⟨b, 0, none⟩), .int .i64 0]) ∧ VC d w' l (.pointer (some ⟨b, 0, none⟩))
  | .inr n => e = .returned (.tuple #[.pointer none, .int .i64 (n : Int)])

set_option maxRecDepth 100000 in
set_option maxHeartbeats 4000000 in
theorem vfirst_any (d : Nat) (l : List VT) (p : Value) (i : Int) (w : World) (h : VC d w l p) (hbig : l.length ≤ 1099511627776) : Calls Try.prog 54 #[p, .int .i64 i] w (VecPost d (if 0 ≤ i ∧ i ≤ (l.length : Int) then .inl (l.take i.toNat) else .inr 5) w) := by
  have HO : Hid _ := hasEnd_any d l p i w h
  by_cases hi : 0 ≤ i ∧ i ≤ (l.length : Int)
  · rw [if_pos hi]
    rw [decide_eq_true hi] at HO
    obtain ⟨n, rfl⟩ := Int.eq_ofNat_of_zero_le hi.1
    have hn : n ≤ l.length := by omega
    rw [Int.toNat_natCast]
    have HW : Hid (∀ V, Below w.heap.size w V → Calls Try.prog 55 #[p] V (OwnPost d l V)) := fun V hV => vown_any d l p V (h.keeps hV)
    have HF : Hid (∀ V t, OT d V l t → Calls Try.prog 80 #[t, .int .i64 (n : Int)] V (JoinPost d (l.take n) V)) := fun V t ht => first_any d l t n V ht hn hbig
    clear h hi hn hbig
    go_enter Try.func54, Try.ntmps54
    go_wp2_with fail
    refine Calls.mono HO.out ?_
    rintro e w1 ⟨rfl, hb1⟩
    clear HO
    go_wp2_with fail
    refine (HW.out _ hb1).mono ?_
    rintro e w2 ⟨b, t, rfl, hc, ht, hb2⟩
    have hbw : Below w.heap.size w w2 := hb1.trans (hb2.mono hb1.size)
    have HC : Hid _ := HF.out w2 t ht
    clear HF HW ht
    go_wp2_with fail
    refine Calls.mono HC.out ?_
    rintro e w3 ⟨v3, rfl, ht3, hb3⟩
    have hbx : Below w.heap.size w w3 := hbw.trans (hb3.mono hbw.size)
    have HE : Hid (VecPost d (.inl (l.take n)) w (.returned (.tuple #[.pointer (some ⟨w3.heap.size, 0, none⟩), .int .i64 0])) (w3.alloc (.cells #[v3] 81))) := ⟨hbx.alloc hbx.size _, w3.heap.size, rfl, VC.made ht3 _⟩
    have hone : v3.oneCell' = true := by
      rcases ht3 with ⟨_, rfl⟩ | ⟨h, hn, _⟩
      · rfl
      · exact nd_one hn
    obtain hv3 | ⟨T, q, hv3⟩ : v3 = .nilIface ∨ ∃ T q, v3 = .iface T q := by
      rcases ht3 with ⟨_, h⟩ | ⟨h, hn, _⟩
      · exact .inl h
      · exact .inr (nd_iface hn)
    · subst hv3
      clear ht3 HC
      go_wp2_with fail
      go_ret2
      exact HE.out
    · subst hv3
      clear ht3 HC
      go_wp2_with fail
      go_ret2
      exact HE.out
  · rw [if_neg hi]
    rw [decide_eq_false hi] at HO
    clear h hi hbig
    go_enter Try.func54, Try.ntmps54
    go_wp2_with fail
    refine Calls.mono HO.out ?_
    rintro e w1 ⟨rfl, hb1⟩
    have HE : Hid (VecPost d (.inr 5) w (.returned (.tuple #[.pointer none, .int .i64 5])) w1) := ⟨hb1, rfl⟩
    clear HO
    go_wp2_with fail
    go_ret2
    exact HE.out

end Go.Proofs.Ytpnfmcmhcjekfaa

namespace Go.Proofs.Ytpnfmcmhcjekfaa
open Go.RowKit

/-- What High tells. -/
def HighPost (n : Nat) (w : World) (e : Ending) (w' : World) : Prop := (∃ j : Nat, e = .returned (.int .i64 ((j / 4 + 3 : Nat) : Int)) ∧ 2 ^ j ≤ n ∧ n < 2 ^ (j + 1)) ∧ w' = w

set_option maxRecDepth 100000 in
set_option maxHeartbeats 4000000 in
theorem high_any (n : Nat) (w : World) (h1 : 0 < n) (h2 : n ≤ 65536) : Calls Try.prog 26 #[.int .i64 (n : Int)] w (HighPost n w) := by
  have hn0 : ¬ ((n : Nat) : Int) = 0 := by omega
  go_enter Try.func26, Try.ntmps26
  go_wp2_with fail
  go_loopg [3] 17 (fun z vi wr => ∃ (j : Nat), vi = .int .i64 (j : Int) ∧ j ≤ 16 ∧ z = 17 - j ∧ Hid (2 ^ j ≤ n) ∧ wr = w)
  case atStart => exact ⟨0, rfl, by omega, by omega, by show 2 ^ 0 ≤ n; omega, rfl⟩
  case round =>
    obtain ⟨j, rfl, hj, hk, HJ, rfl⟩ := hrel
    have Hk : Hid _ := hk
    clear hk
    obtain ⟨j1, hj1⟩ : ∃ j1, j1 = j + 1 := ⟨_, rfl⟩
    have Hj1 : Hid (j1 = j + 1) := hj1
    have hw1 : IntKind.i64.wrap ((j : Nat) + 1 : Int) = (j1 : Int) := by rw [IntKind.wrap_i64]; omega
    clear hj1
    have hu : IntKind.u64.wrap ((j1 : Nat) : Int) = (j1 : Int) := by rw [IntKind.wrap_u64]; have := Hj1.out; omega
    have hm : min (IntKind.u64.wrap ((j1 : Nat) : Int)).toNat 64 = j1 := by rw [hu]; have := Hj1.out; omega
    by_cases hc : n < 2 ^ j1
    · have hq : (n : Int) / 2 ^ min (IntKind.u64.wrap ((j1 : Nat) : Int)).toNat 64 = 0 := by
        rw [hm]
        have : ((2 : Int) ^ j1) = ((2 ^ j1 : Nat) : Int) := by simp
        rw [this]
        exact Int.ediv_eq_zero_of_lt (by omega) (by exact_mod_cast hc)
      have HE : Hid (HighPost n wr (.returned (.int .i64 ((j : Int) / 4 + 3))) wr) := ⟨⟨j, by simp, HJ.out, by rw [← Hj1.out]; exact hc⟩, rfl⟩
      rw [hm] at hq
      clear hm hc
      have hm2 : min j1 64 = j1 := by have := Hj1.out; omega
      go_wp2_with fail
      go_ret
      exact HE.out
    · obtain ⟨q, hq0⟩ : ∃ q, q = (n : Int) / 2 ^ j1 := ⟨_, rfl⟩
      have hq : (n : Int) / 2 ^ j1 = q := hq0.symm
      have hqp : 0 < q := by
        have e : ((2 : Int) ^ j1) = ((2 ^ j1 : Nat) : Int) := by simp
        rw [hq0, e]
        have hp : 0 < 2 ^ j1 := Nat.pos_of_ne_zero (by simp)
        have h9 : 0 < n / 2 ^ j1 := Nat.div_pos (by omega) hp
        rw [← Int.natCast_ediv]
        omega
      have hj16 : j1 ≤ 16 := by
        refine Nat.le_of_not_lt fun hlt => ?_
        have h9 : 2 ^ 17 ≤ 2 ^ j1 := Nat.pow_le_pow_right (by omega) hlt
        have e9 : (2 : Nat) ^ 17 = 131072 := by decide
        omega
      have HJ1 : Hid (2 ^ j1 ≤ n) := by show _ ≤ _; omega
      have hm2 : min j1 64 = j1 := by omega
      clear hm hc hq0 HJ
      go_wp2_with fail
      go_roundg (17 - j1)
      case measure => have := Hk.out; have := Hj1.out; omega
      case rel => exact ⟨j1, rfl, hj16, rfl, HJ1, rfl⟩

theorem high_zero (w : World) : Calls Try.prog 26 #[.int .i64 0] w fun e w' => e = .returned (.int .i64 0) ∧ w' = w := by
  go_enter Try.func26, Try.ntmps26
  go_wp2_with fail
  go_ret
  exact ⟨rfl, rfl⟩

/-- A height that the items bear out is no greater than the document allows. -/
theorem height_low (n h j : Nat) (hh : h = 0 ∨ 16 ^ h ≤ n) (hj : n < 2 ^ (j + 1)) : h + 1 ≤ j / 4 + 3 := by
  rcases hh with rfl | hh
  · omega
  · have e : (16 : Nat) ^ h = 2 ^ (4 * h) := by rw [Nat.pow_mul]
    have h1 : 2 ^ (4 * h) < 2 ^ (j + 1) := by omega
    have h2 := (Nat.pow_lt_pow_iff_right (by omega : 1 < 2)).1 h1
    omega

end Go.Proofs.Ytpnfmcmhcjekfaa

namespace Go.Proofs.Ytpnfmcmhcjekfaa
open Go.RowKit

theorem take_flat (vs : List (List VT × Value)) (j : Nat) (hj : j < vs.length) : (vs.take (j + 1)).flatMap (·.1) = (vs.take j).flatMap (·.1) ++ (vs[j]'hj).1 := by
  rw [List.take_succ_eq_append_getElem hj, List.flatMap_append]; simp

theorem OT.shape {d : Nat} {w : World} {l : List VT} {v : Value} (h : OT d w l v) : v = .nilIface ∨ ∃ T q, v = .iface T q := by
  rcases h with ⟨_, h⟩ | ⟨h, hn, _⟩
  · exact .inl h
  · exact .inr (nd_iface hn)

/-- Vectors joined. -/
def joinR (vs : List (List VT × Value)) : List VT ⊕ Nat := if (vs.flatMap (·.1)).length ≤ 65536 then .inl (vs.flatMap (·.1)) else .inr 2

theorem joinR_long (vs : List (List VT × Value)) (j : Nat) (h : 65536 < ((vs.take j).flatMap (·.1)).length) : joinR vs = .inr 2 := by
  unfold joinR
  rw [if_neg]
  have e : vs.flatMap (·.1) = (vs.take j).flatMap (·.1) ++ (vs.drop j).flatMap (·.1) := by rw [← List.flatMap_append, List.take_append_drop]
  rw [e, List.length_append]
  omega

set_option maxRecDepth 100000 in
set_option maxHeartbeats 8000000 in
theorem join_any (d : Nat) (vs : List (List VT × Value)) (u : Value) (w : World) (hu : SlV w (vs.map (·.2)) u) (h1 : 1 ≤ vs.length) (h2 : vs.length ≤ 65536) (hv : ∀ (i : Nat) (hi : i < vs.length), VC d w (vs[i]'hi).1 (vs[i]'hi).2 ∧ (vs[i]'hi).1.length ≤ 65536) :
    Calls Try.prog 53 #[u] w (VecPost d (joinR vs) w) := by
  obtain ⟨b0, o0, c0, hue, hc0, hcs⟩ := hu.full (fun e => by have := congrArg List.length e; rw [List.length_map, List.length_nil] at this; omega)
  rw [List.length_map] at hue hc0
  subst hue
  have Hcs : Hid (∀ (i : Nat) (hi : i < vs.length), w.cell? ⟨b0, o0 + i, none⟩ = some (vs[i]'hi).2) := fun i hi => by
    have := hcs i (by rw [List.length_map]; exact hi)
    rwa [List.getElem_map] at this
  have Hv : Hid (∀ (i : Nat) (hi : i < vs.length), VC d w (vs[i]'hi).1 (vs[i]'hi).2 ∧ (vs[i]'hi).1.length ≤ 65536) := hv
  obtain ⟨L, hL⟩ : ∃ L, L = vs.length := ⟨_, rfl⟩
  have HL : Hid (L = vs.length) := hL
  rw [← hL] at h1 h2 hc0 ⊢
  obtain ⟨R, hR⟩ : ∃ R, R = joinR vs := ⟨_, rfl⟩
  rw [← hR]
  have HR : Hid (R = joinR vs) := hR
  clear hu hcs hv hL hR
  go_enter Try.func53, Try.ntmps53
  go_wp2_with fail
  go_loopg [12, 4] L (fun z vi vn wr => ∃ (j S : Nat), vi = .int .i64 (j : Int) ∧ vn = .int .i64 (S : Int) ∧ j ≤ L ∧ z = L - j ∧ S ≤ 65536 ∧ Hid (S = ((vs.take j).flatMap (·.1)).length) ∧ Below w.heap.size w wr)
  case atStart => exact ⟨0, 0, rfl, rfl, by omega, by omega, by omega, by show _ = _; simp, Below.refl _ _⟩
  case round =>
    obtain ⟨j, S, rfl, rfl, hj, hk, hS, HS, hbw⟩ := hrel
    have Hk : Hid _ := hk
    clear hk
    by_cases hlt : j < L
    · have hji : (j : Int) < (L : Nat) := by omega
      have hjv : j < vs.length := by have := HL.out; omega
      have pj := cell_keeps hbw (Hcs.out j hjv)
      have hbl : b0 < wr.heap.size := cell_lt pj
      obtain ⟨q1, q2⟩ := Hv.out j hjv
      have HCl : Hid _ := vlen_any d _ _ wr (q1.keeps hbw)
      obtain ⟨S2, hS2⟩ : ∃ S2, S2 = S + (vs[j]'hjv).1.length := ⟨_, rfl⟩
      have HS2 : Hid (S2 = ((vs.take (j + 1)).flatMap (·.1)).length) := by show _ = _; rw [hS2, HS.out, take_flat vs j hjv, List.length_append]
      have hwS : IntKind.i64.wrap ((S : Int) + (((vs[j]'hjv).1.length : Nat) : Int)) = (S2 : Int) := by rw [IntKind.wrap_i64]; omega
      generalize (vs[j]'hjv).1.length = n at *
      generalize (vs[j]'hjv).2 = vj at *
      clear hS2 q1
      go_wp2_with fail
      refine Calls.mono HCl.out ?_
      rintro e w1 ⟨rfl, hg⟩
      have hbw1 : Below w.heap.size w w1 := hbw.trans (hg.mono hbw.size)
      clear HCl hg
      by_cases hbig : 65536 < S2
      · have hbi : (65536 : Int) < (S2 : Nat) := by omega
        have HE : Hid (VecPost d R w (.returned (.tuple #[.pointer none, .int .i64 2])) w1) := by
          show VecPost _ _ _ _ _
          rw [HR.out, joinR_long vs (j + 1) (by rw [← HS2.out]; exact hbig)]
          exact ⟨hbw1, rfl⟩
        go_wp2_with fail
        go_ret2
        exact HE.out
      · have hbi : ¬ (65536 : Int) < (S2 : Nat) := by omega
        go_wp2_with fail
        go_roundg (L - (j + 1))
        case measure => have := Hk.out; omega
        case rel => exact ⟨j + 1, S2, by go_num, rfl, by omega, rfl, by omega, HS2, hbw1⟩
    · have hji : ¬ (j : Int) < (L : Nat) := by omega
      have hjL : j = L := by omega
      have HAll : Hid (S = (vs.flatMap (·.1)).length) := by
        show _ = _
        rw [HS.out, List.take_of_length_le (by have := HL.out; omega)]
      clear hlt hj Hk HS hjL
      go_wp2_with fail
      go_loopg [25, 7] L (fun z vi t wq => ∃ (i : Nat), vi = .int .i64 (i : Int) ∧ i ≤ L ∧ z = L - i ∧ Hid (OT d wq ((vs.take i).flatMap (·.1)) t) ∧ Below w.heap.size w wq)
      case atStart => exact ⟨0, rfl, by omega, by omega, .inl ⟨by simp, rfl⟩, hbw⟩
      case round =>
        obtain ⟨i, rfl, hi, hk, HT, hbq⟩ := hrel
        have Hk : Hid _ := hk
        clear hk
        by_cases hlt : i < L
        · have hii : (i : Int) < (L : Nat) := by omega
          have hiv : i < vs.length := by have := HL.out; omega
          have pj := cell_keeps hbq (Hcs.out i hiv)
          have hbl : b0 < wr.heap.size := cell_lt pj
          obtain ⟨q1, q2⟩ := Hv.out i hiv
          have HCl : Hid _ := vown_any d _ _ wr (q1.keeps hbq)
          have Htf : Hid ((vs.take (i + 1)).flatMap (·.1) = (vs.take i).flatMap (·.1) ++ (vs[i]'hiv).1) := take_flat vs i hiv
          have Hsm : Hid (((vs.take i).flatMap (·.1)).length + (vs[i]'hiv).1.length ≤ 1099511627776) := by
            have e : vs.flatMap (·.1) = (vs.take (i + 1)).flatMap (·.1) ++ (vs.drop (i + 1)).flatMap (·.1) := by rw [← List.flatMap_append, List.take_append_drop]
            have h9 := HAll.out
            rw [e, List.length_append, take_flat vs i hiv, List.length_append] at h9
            show _ ≤ _
            omega
          generalize (vs[i]'hiv).1 = li at *
          generalize (vs[i]'hiv).2 = vi at *
          clear q1
          go_wp2_with fail
          refine Calls.mono HCl.out ?_
          rintro e w1 ⟨b1, t1, rfl, hc1, ht1, hg⟩
          have hbw1 : Below w.heap.size w w1 := hbq.trans (hg.mono hbq.size)
          have HJ : Hid _ := joined_any d _ _ _ t1 w1 (HT.out.keeps hg) ht1 Hsm.out
          clear HCl hg ht1
          go_wp2_with fail
          refine Calls.mono HJ.out ?_
          rintro e w2 ⟨v2, rfl, ht2, hg2⟩
          have hbw2 : Below w.heap.size w w2 := hbw1.trans (hg2.mono hbw1.size)
          have HT2 : Hid (OT d w2 ((vs.take (i + 1)).flatMap (·.1)) v2) := by show OT _ _ _ _; rw [Htf.out]; exact ht2
          clear HJ ht2 hg2 HT
          go_wp2_with fail
          go_roundg (L - (i + 1))
          case measure => have := Hk.out; omega
          case rel => exact ⟨i + 1, by go_num, by omega, rfl, HT2, hbw2⟩
        · have hii : ¬ (i : Int) < (L : Nat) := by omega
          have HE : Hid (VecPost d R w (.returned (.tuple #[.pointer (some ⟨wr.heap.size, 0, none⟩), .int .i64 0])) (wr.alloc (.cells #[u7] 81))) := by
            show VecPost _ _ _ _ _
            have h9 := HAll.out
            have e9 : R = .inl (vs.flatMap (·.1)) := by rw [HR.out]; unfold joinR; rw [if_pos (by omega)]
            rw [e9]
            have ht := HT.out
            rw [List.take_of_length_le (by have := HL.out; omega)] at ht
            exact ⟨hbq.alloc hbq.size _, wr.heap.size, rfl, VC.made ht _⟩
          rcases HT.out.shape with hz | ⟨T, q, hz⟩
          · subst hz
            clear HT
            go_wp2_with fail
            go_ret2
            exact HE.out
          · subst hz
            clear HT
            go_wp2_with fail
            go_ret2
            exact HE.out

end Go.Proofs.Ytpnfmcmhcjekfaa

