/-
  The contract of look.
-/
import Derived.Test.YtgmmocbgeilpiaaGreatJoinM
import Derived.Test.YtgmmocbgeilpiaaGreatRunesP
import Derived.Test.YtgmmocbgeilpiaaGreatUniq
import Derived.Laws.MakeOwn
import Derived.Test.YtgmmocbgeilpiaaGreatParts
namespace Go.Proofs.YtgmmocbgeilpiaaGreat
open Go.RowKit

/-- The slice holds heaps. -/
def SlH (X : Nat → Prop) (w : World) (l : List HP) (v : Value) : Prop :=
  ∃ a c, v = .slice a l.length c ∧ l.length ≤ c ∧ (l ≠ [] → ∃ b o, a = some ⟨b, o, none⟩ ∧ ∀ (i : Nat) (h : i < l.length), ∃ p, w.cell? ⟨b, o + i, none⟩ = some (.pointer p) ∧ HpM X w (l[i]'h) p)

theorem SlH.keeps {X : Nat → Prop} {w w' : World} (hb : Below w.heap.size w w') {l : List HP} {v : Value} (h : SlH X w l v) : SlH X w' l v := by
  obtain ⟨a, c, hv, hc, hr⟩ := h
  refine ⟨a, c, hv, hc, fun hne => ?_⟩
  obtain ⟨b, o, ha, hall⟩ := hr hne
  refine ⟨b, o, ha, fun i hi => ?_⟩
  obtain ⟨p, h1, h2⟩ := hall i hi
  exact ⟨p, cell_keeps hb h1, h2.keeps hb⟩

theorem SlH.take {X : Nat → Prop} {w : World} {l : List HP} {b o c : Nat} (h : SlH X w l (.slice (some ⟨b, o, none⟩) l.length c)) (m : Nat) (hm : m ≤ l.length) : SlH X w (l.take m) (.slice (some ⟨b, o, none⟩) m c) := by
  obtain ⟨a', c', hv, hc, hr⟩ := h
  injection hv with h1 h2 h3
  subst h1 h3
  have e : (l.take m).length = m := by rw [List.length_take, Nat.min_eq_left hm]
  refine ⟨_, c, by rw [e], by rw [e]; omega, fun hne => ?_⟩
  obtain ⟨b', o', ha, hall⟩ := hr (fun e0 => hne (by rw [e0]; simp))
  refine ⟨b', o', ha, fun i hi => ?_⟩
  have := hall i (by omega)
  simpa [List.getElem_take] using this

theorem SlH.drop {X : Nat → Prop} {w : World} {l : List HP} {b o c : Nat} (h : SlH X w l (.slice (some ⟨b, o, none⟩) l.length c)) (m : Nat) : SlH X w (l.drop m) (.slice (some ⟨b, o + m, none⟩) (l.length - m) (c - m)) := by
  obtain ⟨a', c', hv, hc, hr⟩ := h
  injection hv with h1 h2 h3
  subst h1 h3
  refine ⟨_, c - m, by rw [List.length_drop], by rw [List.length_drop]; omega, fun hne => ?_⟩
  obtain ⟨b', o', ha, hall⟩ := hr (fun e0 => hne (by rw [e0]; simp))
  injection ha with ha
  injection ha with hb1 ho1
  subst hb1 ho1
  refine ⟨b, o + m, rfl, fun i hi => ?_⟩
  have := hall (m + i) (by simp at hi; omega)
  simp only [List.getElem_drop]
  rw [show o + m + i = o + (m + i) by omega]
  exact this

/-- What a call tells that makes a heap of some items. -/
def PairPost (X : Nat → Prop) (q : Nat) (I : List VT) (w : World) (e : Ending) (w' : World) : Prop :=
  Below w.heap.size w w' ∧ ∃ h p, e = .returned (.pointer p) ∧ HpO X w' h p ∧ (oItems h).Perm I ∧ oOk (ordV q) h

theorem joinO_perm (f : VT → VT → Int) : ∀ (a b : Option HP), (oItems (joinO f a b)).Perm (oItems a ++ oItems b)
  | none, _ => List.Perm.refl _
  | some a, none => by show (HP.items a).Perm (HP.items a ++ []); rw [List.append_nil]
  | some a, some b => joinH_perm f a b

theorem joinO_ok (q : Nat) : ∀ {a b : Option HP}, oOk (ordV q) a → oOk (ordV q) b → oOk (ordV q) (joinO (ordV q) a b)
  | none, _, _, h => h
  | some _, none, h, _ => h
  | some _, some _, h, k => joinH_ok (ordV_goes q) (ordV_turn q) h k

/-- joined, of heaps in their order. -/
theorem joined_ok (X : Nat → Prop) (q g : Nat) (hq : q < 6) (a b : Option HP) (pa pb : Option Addr) (w : World) (I J : List VT) (hg : w.cell? ⟨g, 0, none⟩ = some (.int .i64 (q : Int))) (ha : HpO X w a pa) (hb : HpO X w b pb)
    (hoa : oOk (ordV q) a) (hob : oOk (ordV q) b) (hpa : (oItems a).Perm I) (hpb : (oItems b).Perm J) :
    Calls Tryz.prog 38 #[.pointer pa, .pointer pb, fnBy g] w (PairPost X q (I ++ J) w) := by
  refine Calls.mono (joined_any X q g hq a b pa pb w hg ha hb) ?_
  rintro e w' ⟨h1, p, rfl, h2⟩
  exact ⟨h1, _, p, rfl, h2, (joinO_perm _ a b).trans (hpa.append hpb), joinO_ok q hoa hob⟩

set_option maxRecDepth 100000 in
theorem paired_none (g c : Nat) (a : Option Addr) (w : World) : Calls Tryz.prog 34 #[.slice a 0 c, fnBy g] w fun e w' => e = .returned (.pointer none) ∧ w' = w := by
  go_enter Tryz.func34, Tryz.ntmps34
  go_wp2_with fail
  go_ret
  exact ⟨rfl, rfl⟩

set_option maxRecDepth 100000 in
theorem paired_one (g b o c : Nat) (p : Option Addr) (w : World) (h : w.cell? ⟨b, o, none⟩ = some (.pointer p)) : Calls Tryz.prog 34 #[.slice (some ⟨b, o, none⟩) 1 c, fnBy g] w fun e w' => e = .returned (.pointer p) ∧ w' = w := by
  go_enter Tryz.func34, Tryz.ntmps34
  go_wp2_with fail
  go_ret
  exact ⟨rfl, rfl⟩

set_option maxRecDepth 100000 in
set_option maxHeartbeats 8000000 in
theorem paired_more (g b o c n h : Nat) (w : World) (Q : Ending → World → Prop) (hn : 2 ≤ n) (hh : h = n / 2) (hc : n ≤ c) (hl : n ≤ 65536)
    (hC : ∀ V, Below w.heap.size w V → Calls Tryz.prog 34 #[.slice (some ⟨b, o, none⟩) h c, fnBy g] V fun e w1 => ∃ p1, e = .returned (.pointer p1) ∧
      (∀ V, Below w1.heap.size w1 V → Calls Tryz.prog 34 #[.slice (some ⟨b, o + h, none⟩) (n - h) (c - h), fnBy g] V fun e w2 => ∃ p2, e = .returned (.pointer p2) ∧
        (∀ V, Below w2.heap.size w2 V → Calls Tryz.prog 38 #[.pointer p1, .pointer p2, fnBy g] V fun e w3 => ∃ p3, e = .returned (.pointer p3) ∧ Q (.returned (.pointer p3)) w3))) :
    Calls Tryz.prog 34 #[.slice (some ⟨b, o, none⟩) n c, fnBy g] w Q := by
  have HC : Hid _ := hC
  have h2' : ¬ (n : Int) = 0 := by omega
  have h3' : ¬ (n : Int) = 1 := by omega
  have hq : ((n : Nat) : Int) / 2 = ((h : Nat) : Int) := by omega
  have hle : h ≤ n := by omega
  have hle' : ((h : Nat) : Int) ≤ (n : Nat) := by omega
  have hcc : h ≤ c := by omega
  have hcc' : ((h : Nat) : Int) ≤ (c : Nat) := by omega
  have hcn : ¬ ((c : Nat) : Int) = (h : Nat) := by omega
  have hcn2 : ¬ c = h := by omega
  have hmc' : (n : Int) ≤ (c : Nat) := by omega
  clear hC hh
  go_enter Tryz.func34, Tryz.ntmps34
  go_wp2_with fail
  go_region_held3 (fun _ => True) (first | trivial | go_keep)
    (first
      | (go_at_call 38; (with_reducible refine Calls.mono (H2.out _ ?_) ?_); (first | exact Below.refl _ _ | exact (Below.refl _ _).drew); rintro e w3 ⟨p3, rfl, hE⟩; have HE : Hid _ := hE; clear hE H2)
      | (go_at_call 34; (with_reducible refine Calls.mono (H1.out _ ?_) ?_); (first | exact Below.refl _ _ | exact (Below.refl _ _).drew); rintro e w2 ⟨p2, rfl, h2⟩; have H2 : Hid _ := h2; clear h2 H1)
      | (go_at_call 34; (with_reducible refine Calls.mono (HC.out _ ?_) ?_); (first | exact Below.refl _ _ | exact (Below.refl _ _).drew); rintro e w1 ⟨p1, rfl, h1⟩; have H1 : Hid _ := h1; clear h1 HC))
  go_wp2_with fail
  first | exact HE.out | (go_ret; exact HE.out) | (go_ret2; exact HE.out)

theorem paired_any (X : Nat → Prop) (q g : Nat) (hq : q < 6) : ∀ (k : Nat) (l : List HP) (v : Value) (w : World), l.length ≤ k → l.length ≤ 65536 → w.cell? ⟨g, 0, none⟩ = some (.int .i64 (q : Int)) → SlH X w l v → (∀ h ∈ l, HP.Ok (ordV q) h) →
    Calls Tryz.prog 34 #[v, fnBy g] w (PairPost X q (itemsH l) w) := by
  intro k
  induction k with
  | zero =>
    intro l v w hk _ _ hs _
    have hl : l = [] := List.eq_nil_of_length_eq_zero (by omega)
    subst hl
    obtain ⟨a, c, rfl, _⟩ := hs
    refine Calls.mono (paired_none g c a w) ?_
    rintro e w' ⟨rfl, rfl⟩
    exact ⟨Below.refl _ _, none, none, rfl, rfl, List.Perm.refl _, trivial⟩
  | succ k ih =>
    intro l v w hk hl hg hs hok
    by_cases h2 : 2 ≤ l.length
    · obtain ⟨a, c, rfl, hc, hr⟩ := id hs
      obtain ⟨b, o, rfl, hall⟩ := hr (fun e => by rw [e] at h2; simp at h2)
      obtain ⟨h, hh⟩ : ∃ h, h = l.length / 2 := ⟨_, rfl⟩
      have s1 := hs.take h (by omega)
      have s2 := hs.drop h
      refine paired_more g b o c l.length h w _ h2 hh hc hl fun V hV => ?_
      refine Calls.mono (ih (l.take h) _ V (by rw [List.length_take]; omega) (by rw [List.length_take]; omega) (cell_keeps hV hg) (s1.keeps hV) (fun x hx => hok x (List.mem_of_mem_take hx))) ?_
      rintro e w1 ⟨hb1, h1, p1, rfl, hm1, hp1, ho1⟩
      have hw1 : Below w.heap.size w w1 := hV.trans (hb1.mono hV.size)
      refine ⟨p1, rfl, fun V2 hV2 => ?_⟩
      have hw2 : Below w.heap.size w V2 := hw1.trans (hV2.mono hw1.size)
      refine Calls.mono (ih (l.drop h) _ V2 (by rw [List.length_drop]; omega) (by rw [List.length_drop]; omega) (cell_keeps hw2 hg) (s2.keeps hw2) (fun x hx => hok x (List.mem_of_mem_drop hx))) ?_
      rintro e w2 ⟨hb2, h2, p2, rfl, hm2, hp2, ho2⟩
      have hw3 : Below w.heap.size w w2 := hw2.trans (hb2.mono hw2.size)
      refine ⟨p2, rfl, fun V3 hV3 => ?_⟩
      have hw4 : Below w.heap.size w V3 := hw3.trans (hV3.mono hw3.size)
      refine Calls.mono (joined_ok X q g hq h1 h2 p1 p2 V3 _ _ (cell_keeps hw4 hg) (((hm1.keeps hV2).keeps hb2).keeps hV3) (hm2.keeps hV3) ho1 ho2 hp1 hp2) ?_
      rintro e w3 ⟨hb3, h3, p3, rfl, hm3, hp3, ho3⟩
      refine ⟨p3, rfl, hw4.trans (hb3.mono hw4.size), h3, p3, rfl, hm3, ?_, ho3⟩
      rw [← itemsH_app, List.take_append_drop] at hp3
      exact hp3
    · cases l with
      | nil => exact ih [] v w (Nat.zero_le _) hl hg hs hok
      | cons x l =>
        have hl0 : l = [] := List.eq_nil_of_length_eq_zero (by rw [List.length_cons] at h2; omega)
        subst hl0
        obtain ⟨a, c, rfl, hc, hr⟩ := hs
        obtain ⟨b, o, rfl, hall⟩ := hr (by simp)
        obtain ⟨p, h1, hm⟩ := hall 0 (by simp)
        refine Calls.mono (paired_one g b o c p w (by simpa using h1)) ?_
        rintro e w' ⟨rfl, rfl⟩
        refine ⟨Below.refl _ _, some x, p, rfl, hm, ?_, hok x (by simp)⟩
        show (HP.items x).Perm (HP.items x ++ [])
        rw [List.append_nil]

end Go.Proofs.YtgmmocbgeilpiaaGreat

namespace Go.Proofs.YtgmmocbgeilpiaaGreat
open Go.RowKit

/-- Heaps, pointer by pointer. -/
def Hps (X : Nat → Prop) (w : World) : List HP → List (Option Addr) → Prop
  | [], [] => True
  | h :: l, p :: ps => HpM X w h p ∧ Hps X w l ps
  | _, _ => False

theorem Hps.keeps {X : Nat → Prop} {w w' : World} (hb : Below w.heap.size w w') : ∀ {l : List HP} {ps : List (Option Addr)}, Hps X w l ps → Hps X w' l ps
  | [], [], h => h
  | _ :: _, _ :: _, h => ⟨h.1.keeps hb, Hps.keeps hb h.2⟩
  | [], _ :: _, h => h.elim
  | _ :: _, [], h => h.elim

theorem Hps.len {X : Nat → Prop} {w : World} : ∀ {l : List HP} {ps : List (Option Addr)}, Hps X w l ps → l.length = ps.length
  | [], [], _ => rfl
  | _ :: _, _ :: _, h => by rw [List.length_cons, List.length_cons, Hps.len h.2]
  | [], _ :: _, h => h.elim
  | _ :: _, [], h => h.elim

theorem Hps.app {X : Nat → Prop} {w : World} : ∀ {l m : List HP} {ps qs : List (Option Addr)}, Hps X w l ps → Hps X w m qs → Hps X w (l ++ m) (ps ++ qs)
  | [], _, [], _, _, h => h
  | _ :: _, _, _ :: _, _, h, k => ⟨h.1, Hps.app h.2 k⟩
  | [], _, _ :: _, _, h, _ => h.elim
  | _ :: _, _, [], _, h, _ => h.elim

theorem Hps.get {X : Nat → Prop} {w : World} : ∀ {l : List HP} {ps : List (Option Addr)}, Hps X w l ps → ∀ (i : Nat) (h1 : i < l.length) (h2 : i < ps.length), HpM X w (l[i]'h1) (ps[i]'h2)
  | _ :: _, _ :: _, h, 0, _, _ => h.1
  | _ :: _, _ :: _, h, i + 1, h1, h2 => Hps.get h.2 i (by simpa using h1) (by simpa using h2)
  | [], _, _, _, h1, _ => absurd h1 (by simp)
  | _ :: _, [], h, _, _, _ => h.elim

/-- A row of pointers that is owned. -/
theorem own_rowP {w : World} {base e : Nat} {v : Value} {vs : List Value} {n : Nat} (hn : n = vs.length) (h : w.ownsRow base e 1 v n vs) (hne : vs ≠ []) :
    ∃ g cap, v = .slice (some ⟨g, 0, none⟩) n cap ∧ base ≤ g ∧ n ≤ cap ∧ g < w.heap.size ∧ (∀ i (hi : i < vs.length), w.cell? ⟨g, i, none⟩ = some (vs[i]'hi)) := by
  rcases h.2 with ⟨_, h0⟩ | ⟨g, cap, cur, hv, hbs, hg, hcap, _, hsz, htk⟩
  · exact absurd (List.eq_nil_of_length_eq_zero (by omega)) hne
  · have hlt : g < w.heap.size := by
      by_cases hl : g < w.heap.size
      · exact hl
      · rw [Array.getElem?_eq_none (by omega)] at hg; cases hg
    refine ⟨g, cap, hv, hbs, hcap, hlt, fun i hi => ?_⟩
    have hj : vs[i]? = some (vs[i]'hi) := List.getElem?_eq_getElem hi
    generalize vs[i]'hi = y at hj
    rw [← htk] at hj
    unfold World.cell?
    rw [hg]
    simp only
    rw [List.getElem?_take] at hj
    split at hj
    · simpa using hj
    · cases hj

theorem SlH.of_own {X : Nat → Prop} {w : World} {base e n : Nat} {v : Value} {l : List HP} {ps : List (Option Addr)} (hn : n = ps.length) (h : w.ownsRow base e 1 v n (ps.map Value.pointer)) (hp : Hps X w l ps) : SlH X w l v := by
  have hlen := hp.len
  by_cases hne : ps = []
  · subst hne
    have hl : l = [] := List.eq_nil_of_length_eq_zero (by simpa using hlen)
    subst hl
    rcases h.2 with ⟨rfl, _⟩ | ⟨g, cap, cur, rfl, _⟩
    · exact ⟨none, 0, rfl, Nat.le_refl _, fun h => absurd rfl h⟩
    · exact ⟨_, cap, by rw [hn]; rfl, Nat.zero_le _, fun h => absurd rfl h⟩
  · obtain ⟨g, cap, rfl, _, hcap, _, hrow⟩ := own_rowP (by rw [List.length_map]; exact hn) h (by simpa using hne)
    refine ⟨_, cap, by rw [hlen, hn], by omega, fun _ => ⟨g, 0, rfl, fun i hi => ?_⟩⟩
    have hi2 : i < ps.length := by omega
    refine ⟨ps[i], ?_, hp.get i hi hi2⟩
    have := hrow i (by rw [List.length_map]; exact hi2)
    rw [Nat.zero_add, this, List.getElem_map]

set_option maxRecDepth 100000 in
theorem infoP19 : ∃ i0, Tryz.prog.info? 57 = some i0 ∧ i0.zero = some (.pointer none) ∧ i0.size = 1 ∧ i0.bytes = 8 := by
  refine ⟨_, rfl, ?_, ?_, ?_⟩
  all_goals kernel_rfl

/-- What heapsBelow tells. -/
def BelPost (X : Nat → Prop) (l : List HP) (w0 w : World) (e : Ending) (w' : World) : Prop :=
  Below w.heap.size w w' ∧ ∃ v ps, e = .returned v ∧ w'.ownsRow w.heap.size 57 1 v ps.length (ps.map Value.pointer) ∧ Hps X w0 l ps

theorem own_grow19 {w wr w2 : World} {M : Nat} {ty sz : Nat} {v : Value} {n : Nat} {xs : List Value} (hb : Below M w wr) (hM : M ≤ wr.heap.size) (hown : wr.ownsRow M ty sz v n xs) (hgrow : wr.grownBy w2 v.ownBlock) : Below M w w2 :=
  hb.grown hgrow hM (by
    intro k hk
    rcases hown.2 with ⟨hv, _⟩ | ⟨g, cap', cur, hv, hbs, _⟩
    · rw [hv] at hk; cases hk
    · rw [hv] at hk
      simp only [Value.ownBlock, Option.some.injEq] at hk
      omega)

set_option maxRecDepth 100000 in
set_option maxHeartbeats 4000000 in
theorem heapsBelow_any (X : Nat → Prop) (c : Nat) (t : BT) (pb : Option Addr) (w0 w : World) (h00 : Below w0.heap.size w0 w) (h4 : w0.cell? ⟨c, 4, none⟩ = some (.pointer pb)) (hr : RowH X w0 t pb) (hl : t.heaps.length ≤ 65536) :
    Calls Tryz.prog 35 #[.pointer (some ⟨c, 0, none⟩)] w (BelPost X t.heaps w0 w) := by
  have h4 := cell_keeps h00 h4
  have H0 : Hid (Below w0.heap.size w0 w) := h00
  clear h00
  obtain ⟨i0, hi, hz0, hz1, hz2⟩ := infoP19
  have Hi : Hid _ := hi; have Hz0 : Hid _ := hz0; have Hz1 : Hid _ := hz1; have Hz2 : Hid _ := hz2
  have HR : Hid (RowH X w0 t pb) := hr
  have HL : Hid (t.heaps.length ≤ 65536) := hl
  clear hi hz0 hz1 hz2 hr hl
  obtain ⟨Z, hZ⟩ : ∃ Z, Z = t.heaps.length := ⟨_, rfl⟩
  have HZ : Hid (Z = t.heaps.length) := hZ
  clear hZ
  go_enter Tryz.func35, Tryz.ntmps35
  go_wp2_with fail
  go_loopg [3, 4] Z (fun z v3 v4 wr => ∃ (s : BT) (pr : Option Addr) (l : List HP) (ps : List (Option Addr)), v4 = .pointer pr ∧ Hid (z = s.heaps.length) ∧ Hid (RowH X w0 s pr) ∧ Hid (wr.ownsRow w.heap.size 57 1 v3 ps.length (ps.map Value.pointer)) ∧ Hid (Hps X w0 l ps) ∧ Hid (l ++ s.heaps = t.heaps) ∧ Hid (Below w.heap.size w wr))
  case atStart => exact ⟨t, pb, [], [], rfl, HZ, HR, World.ownsRow_nil _ _ _ _, trivial, rfl, Below.refl _ _⟩
  case round =>
    obtain ⟨s, pr, l, ps, rfl, Hz, HRs, Hown, Hps1, Hl, HB⟩ := hrel
    cases s with
    | nil =>
      have hq : pr = none := HRs.out
      subst hq
      have HE : Hid (BelPost X t.heaps w0 w (.returned u3) wr) := by
        refine ⟨HB.out, u3, ps, rfl, Hown.out, ?_⟩
        have h1 : l ++ [] = t.heaps := Hl.out
        rw [List.append_nil] at h1
        rw [← h1]
        exact Hps1.out
      go_wp2_with fail
      go_ret
      exact HE.out
    | node x b r =>
      obtain ⟨bb, cc, pbl, prr, u, hp, c0, c1, hc, hi, h1, h2⟩ := HRs.out
      subst hp
      have HH : Hid (HpM X w0 (x, b) (some ⟨cc, 0, none⟩)) := ⟨cc, pbl, u, rfl, hc, hi, h1⟩
      have HN : Hid (RowH X w0 r prr) := h2
      have hlen : ps.length ≤ 65535 := by
        have e1 := HL.out
        rw [← Hl.out, List.length_append] at e1
        have e2 := Hps1.out.len
        have e3 : (BT.node x b r).heaps.length = r.heaps.length + 1 := rfl
        omega
      have c0 := cell_keeps HB.out (cell_keeps H0.out c0)
      have Hc1 : Hid (w.cell? ⟨bb, 1, none⟩ = some (.pointer prr)) := cell_keeps H0.out c1
      have HLen : Hid (ps.length ≤ 65535) := hlen
      have hws : w.heap.size ≤ wr.heap.size := HB.out.size
      clear hc hi h1 h2 hlen c1
      go_wp2_with (first
        | (at_builtin; refine wpList_append_own _ rfl _ _ 74 rfl w.heap.size 57 i0 (.pointer none) 1 8 Tryz.underlying74 Hi.out Hz0.out Hz1.out Hz2.out rfl (by decide) _ _ _ rfl (own_keeps Hown.out ((Below.refl _ _).alloc (Nat.le_refl _) _)) ⟨wr.heap.size, 0, none⟩ 1 1 [.pointer (some ⟨cc, 0, none⟩)] rfl rfl ?c1 ?c2 ?c3 ?c4 ?c5 ?_))
      case c1 =>
        intro q u hq
        match q, hq with
        | 0, hq => simp at hq; subst hq; simp [Addr.add]
      case c2 => intro u hu; simp at hu; subst hu; rfl
      case c3 => have := HLen.out; unfold maxLen; omega
      case c4 => have := HLen.out; omega
      case c5 => simp; omega
      intro v' w2 hown' hgrow _
      have hb0 : Below w.heap.size w (wr.alloc (.cells #[.pointer (some ⟨cc, 0, none⟩)] 57)) := HB.out.alloc hws _
      have hb2 : Below w.heap.size w w2 := own_grow19 hb0 hb0.size (own_keeps Hown.out ((Below.refl _ _).alloc (Nat.le_refl _) _)) hgrow
      have c1 := cell_keeps hb2 Hc1.out
      have Ho2 : Hid (w2.ownsRow w.heap.size 57 1 v' (ps ++ [some (⟨cc, 0, none⟩ : Addr)]).length ((ps ++ [some (⟨cc, 0, none⟩ : Addr)]).map Value.pointer)) := by
        show World.ownsRow _ _ _ _ _ _ _
        rw [List.length_append, List.map_append]
        exact hown'
      clear hown' hgrow Hown hb0
      go_wp2_with fail
      go_roundg (r.heaps.length)
      case measure => have e1 := Hz.out; have e3 : (BT.node x b r).heaps.length = r.heaps.length + 1 := rfl; omega
      case rel =>
        refine ⟨r, prr, l ++ [(x, b)], ps ++ [some ⟨cc, 0, none⟩], rfl, rfl, HN, Ho2, Hps1.out.app ⟨HH.out, trivial⟩, ?_, hb2⟩
        show _ = _
        rw [List.append_assoc, ← Hl.out]; rfl

end Go.Proofs.YtgmmocbgeilpiaaGreat

namespace Go.Proofs.YtgmmocbgeilpiaaGreat
open Go.RowKit Go.Shelf

/-- Members lie one behind the other from place o of block b on. -/
def RowM (w : World) (b o : Nat) (ms : List MB) : Prop := ∀ (i : Nat) (h : i < ms.length),
  w.cell? ⟨b, o + i * 5, none⟩ = some (.int .i64 (ms[i]'h).t.kind) ∧ w.cell? ⟨b, o + i * 5 + 1, none⟩ = some (.int .i64 (ms[i]'h).t.num) ∧
  w.cell? ⟨b, o + i * 5 + 2, none⟩ = some (.string (ms[i]'h).t.text) ∧ w.cell? ⟨b, o + i * 5 + 3, none⟩ = some (ms[i]'h).u ∧ w.cell? ⟨b, o + i * 5 + 4, none⟩ = some (.int .u64 (ms[i]'h).m)

theorem RowM.keeps {w w' : World} {b o : Nat} {ms : List MB} (h : RowM w b o ms) (hb : Below w.heap.size w w') : RowM w' b o ms := fun i hi =>
  ⟨cell_keeps hb (h i hi).1, cell_keeps hb (h i hi).2.1, cell_keeps hb (h i hi).2.2.1, cell_keeps hb (h i hi).2.2.2.1, cell_keeps hb (h i hi).2.2.2.2⟩

/-- A right member. -/
structure GoodM (w : World) (p : MB) : Prop where
  lies : Lies 16 w p.t.items p.u
  right : rightV 16 p.t = true

theorem GoodM.keeps {w w' : World} {p : MB} (h : GoodM w p) (hb : Below w.heap.size w w') : GoodM w' p := ⟨Lies.keeps hb _ _ _ h.lies, h.right⟩

/-- The slice v holds the members ms. -/
def SlM (w : World) (ms : List MB) (v : Value) : Prop :=
  ∃ b o c, v = .slice (some ⟨b, o, none⟩) ms.length c ∧ ms.length ≤ c ∧ RowM w b o ms ∧ ∀ p ∈ ms, GoodM w p

theorem SlM.keeps {w w' : World} {ms : List MB} {v : Value} (h : SlM w ms v) (hb : Below w.heap.size w w') : SlM w' ms v := by
  obtain ⟨b, o, c, hv, hc, hr, hg⟩ := h
  exact ⟨b, o, c, hv, hc, hr.keeps hb, fun p hp => (hg p hp).keeps hb⟩

/-- Block G has room for n members, the first of them filled with ms. -/
structure FilledM (G n : Nat) (w : World) (ms : List MB) : Prop where
  row : RowM w G 0 ms
  there : ∀ k, k < n * 5 → (w.cell? ⟨G, k, none⟩).isSome = true ∧ w.frozen? ⟨G, k, none⟩ = false
  lt : G < w.heap.size

theorem FilledM.keeps {G n : Nat} {w w' : World} {ms : List MB} (h : FilledM G n w ms) (hb : Below w.heap.size w w') : FilledM G n w' ms := by
  refine ⟨h.row.keeps hb, fun k hk => ?_, Nat.lt_of_lt_of_le h.lt hb.size⟩
  obtain ⟨h1, h2⟩ := h.there k hk
  rw [hb.cell (p := ⟨G, k, none⟩) h.lt, hb.frozen (p := ⟨G, k, none⟩) h.lt]
  exact ⟨h1, h2⟩

theorem FilledM.put {G n : Nat} {w : World} {ms : List MB} (h : FilledM G n w ms) (p : MB) (hn : ms.length < n) : FilledM G n (w.setCells G (ms.length * 5) (encM p)) (ms ++ [p]) := by
  have hin : ∀ j (hj : j < (encM p).length), (w.setCells G (ms.length * 5) (encM p)).cell? ⟨G, ms.length * 5 + j, none⟩ = some ((encM p)[j]) := World.cell?_setCells_in G (encM p) (ms.length * 5) w (fun j hj => (h.there _ (by simp [encM] at hj; omega)).1)
  have hout : ∀ k, k < ms.length * 5 → (w.setCells G (ms.length * 5) (encM p)).cell? ⟨G, k, none⟩ = w.cell? ⟨G, k, none⟩ := fun k hk => World.cell?_setCells_out G (encM p) _ w ⟨G, k, none⟩ (fun _ _ => .inl hk)
  refine ⟨?_, ?_, by rw [size_setCells]; exact h.lt⟩
  · intro i hi
    by_cases hl : i < ms.length
    · obtain ⟨k0, k1, k2, k3, k4⟩ := h.row i hl
      rw [List.getElem_append_left hl]
      simp only [Nat.zero_add] at k0 k1 k2 k3 k4 ⊢
      exact ⟨(hout _ (by omega)).trans k0, (hout _ (by omega)).trans k1, (hout _ (by omega)).trans k2, (hout _ (by omega)).trans k3, (hout _ (by omega)).trans k4⟩
    · have hie : i = ms.length := by simp at hi; omega
      subst hie
      rw [List.getElem_append_right (Nat.le_refl _)]
      simp only [Nat.zero_add, Nat.sub_self, List.getElem_cons_zero]
      exact ⟨hin 0 (by simp [encM]), hin 1 (by simp [encM]), hin 2 (by simp [encM]), hin 3 (by simp [encM]), hin 4 (by simp [encM])⟩
  · intro k hk
    obtain ⟨h1, h2⟩ := h.there k hk
    refine ⟨?_, by rw [World.frozen?_setCells]; exact h2⟩
    by_cases hl : ms.length * 5 ≤ k ∧ k < ms.length * 5 + 5
    · have := hin (k - ms.length * 5) (by simp [encM]; omega)
      rw [show ms.length * 5 + (k - ms.length * 5) = k by omega] at this
      rw [this]; rfl
    · rw [World.cell?_setCells_out G (encM p) _ w ⟨G, k, none⟩ (fun _ _ => by simp [encM]; omega)]
      exact h1

set_option maxRecDepth 100000 in
theorem infoM : ∃ i0, Tryz.prog.info? 102 = some i0 ∧ i0.zero = some (.agg #[.int .i64 0, .int .i64 0, .string ⟨#[]⟩, .slice none 0 0, .int .u64 0]) ∧ i0.size = 5 ∧ i0.bytes = 64 := by
  refine ⟨_, rfl, ?_, ?_, ?_⟩
  all_goals kernel_rfl

/-- make of n members. -/
theorem make_members (n : Nat) (hn : n ≤ 65536) : ∃ M : Array Value, M.size = n * 5 ∧ ∀ W : World, (Instr.makeSlice 120 (.int .i64 (n : Int)) (.int .i64 (n : Int))).run Tryz.prog W = .ok (.slice (some ⟨W.heap.size, 0, none⟩) n n) (W.alloc (.cells M 102)) := by
  obtain ⟨i0, hi, hz0, hz1, hz2⟩ := infoM
  refine ⟨madeCells (Value.agg #[.int .i64 0, .int .i64 0, .string ⟨#[]⟩, .slice none 0 0, .int .u64 0]).cells (((n : Nat) : Int).toNat * i0.size), ?_, fun W => ?_⟩
  · rw [size_madeCells, hz1]; simp
  · have h := run_make (P := Tryz.prog) W 120 102 i0 _ Tryz.underlying120 hi hz0 .i64 .i64 (n : Int) (n : Int) (by omega) (by omega) (by rw [hz2]; omega) (by omega)
    simpa using h

theorem filledM_start (w : World) (M : Array Value) (n : Nat) (t : Nat) (hM : M.size = n * 5) : FilledM w.heap.size n (w.alloc (.cells M t)) [] := by
  refine ⟨fun i hi => (by cases hi), fun k hk => ?_, (by simp)⟩
  have hk' : k < M.size := by omega
  simp [hk']

/-- A value with its measure. -/
abbrev mkM (g : VT → Int) (p : VT × Value) : MB := ⟨p.1, p.2, g p.1⟩

set_option maxHeartbeats 2000000 in
theorem measuredAll_core (f0 f1 : Nat) (g : VT → Int) (ps : List (VT × Value)) (a : Option Addr) (c : Nat) (w : World) (hlen : ps.length ≤ 65536) (hr : ps ≠ [] → ∃ b o, a = some ⟨b, o, none⟩ ∧ RowAt w b o ps)
    (hsl : ∀ p ∈ ps, ∃ a l c, p.2 = .slice a l c)
    (hm : Hid (∀ (p : VT × Value) (W : World), p ∈ ps → Below w.heap.size w W → Calls Tryz.prog 52 #[.agg #[fv f0, fv f1], .agg #[.int .i64 p.1.kind, .int .i64 p.1.num, .string p.1.text, p.2]] W fun e W' => e = .returned (.agg #[.int .i64 p.1.kind, .int .i64 p.1.num, .string p.1.text, p.2, .int .u64 (g p.1)]) ∧ Below W.heap.size W W')) :
    Calls Tryz.prog 98 #[.agg #[fv f0, fv f1], .slice a ps.length c] w fun e w' => e = .returned (.slice (some ⟨w.heap.size + 1, 0, none⟩) ps.length ps.length) ∧ RowM w' (w.heap.size + 1) 0 (ps.map (mkM g)) ∧ Below w.heap.size w w' := by
  have Hr : Hid _ := hr
  have Hsl : Hid _ := hsl
  clear hr hsl
  obtain ⟨M, hMs, hmk⟩ := make_members ps.length hlen
  have HF0 : Hid (FilledM (w.heap.size + 1) ps.length ((w.alloc (.cells #[fv f0, fv f1] 95)).alloc (.cells M 102)) []) := by
    have := filledM_start (w.alloc (.cells #[fv f0, fv f1] 95)) M ps.length 102 hMs
    rwa [World.size_alloc] at this
  have Hg : Hid (((w.alloc (.cells #[fv f0, fv f1] 95)).alloc (.cells M 102)).cell? ⟨w.heap.size, 0, none⟩ = some (fv f0) ∧ ((w.alloc (.cells #[fv f0, fv f1] 95)).alloc (.cells M 102)).cell? ⟨w.heap.size, 1, none⟩ = some (fv f1)) :=
    ⟨cell_keeps ((Grew.refl _).alloc _).below (by simp), cell_keeps ((Grew.refl _).alloc _).below (by simp)⟩
  clear hMs
  go_enter Tryz.func98, Tryz.ntmps98
  go_wp2_with fail
  go_loopg [13] ps.length (fun k i wr => ∃ j : Nat, i = .int .i64 (j : Int) ∧ j ≤ ps.length ∧ k = ps.length - j ∧ Hid (FilledM (w.heap.size + 1) ps.length wr ((ps.take j).map (mkM g))) ∧ Hid (wr.cell? ⟨w.heap.size, 0, none⟩ = some (fv f0) ∧ wr.cell? ⟨w.heap.size, 1, none⟩ = some (fv f1)) ∧ Below w.heap.size w wr)
  case atStart => exact ⟨0, rfl, by omega, by omega, HF0, Hg, (Grew.two _ _ _).below⟩
  case round =>
    obtain ⟨j, rfl, hj, hk, HC, HG, hbw⟩ := hrel
    have Hk : Hid _ := hk
    clear hk hmk HF0 Hg
    by_cases hlt : j < ps.length
    · obtain ⟨b1, o1, rfl, hrow⟩ := Hr.out (by intro e; simp [e] at hlt)
      obtain ⟨p0, p1, p2, p3⟩ := hrow j hlt
      clear hrow
      have Hmem : Hid (ps[j] ∈ ps) := List.getElem_mem hlt
      have Htk : Hid ((ps.take (j + 1)).map (mkM g) = (ps.take j).map (mkM g) ++ [mkM g ps[j]]) := by
        show _ = _
        rw [List.take_succ_eq_append_getElem hlt, List.map_append]; rfl
      have Hlen : Hid (((ps.take j).map (mkM g)).length = j) := by show _ = _; simp; omega
      generalize (ps.take j).map (mkM g) = ms at *
      generalize ps[j] = p at *
      obtain ⟨t, u⟩ := p
      obtain ⟨ax, lx, cx, hu⟩ := Hsl.out _ Hmem.out
      simp only at hu p0 p1 p2 p3
      subst hu
      have p0 := cell_keeps hbw p0; have p1 := cell_keeps hbw p1; have p2 := cell_keeps hbw p2; have p3 := cell_keeps hbw p3
      have hl1 : b1 < wr.heap.size := cell_lt p0
      have hws2 : w.heap.size ≤ wr.heap.size := hbw.size
      have hG := HC.out.lt
      obtain ⟨g0, g1⟩ := HG.out
      have hlt0 : w.heap.size < wr.heap.size := cell_lt g0
      go_wp2_with fail
      refine (hm.out (t, .slice ax lx cx) _ Hmem.out (hbw.alloc hws2 _)).mono ?_
      rintro e w1 ⟨rfl, hb⟩
      have hb2 : Below w.heap.size w w1 := (hbw.alloc hws2 _).trans (hb.mono (by simp; omega))
      have HC1 : Hid (FilledM (w.heap.size + 1) ps.length w1 ms) := (HC.out.keeps ((Grew.refl _).alloc _).below).keeps hb
      have HG1 : Hid (w1.cell? ⟨w.heap.size, 0, none⟩ = some (fv f0) ∧ w1.cell? ⟨w.heap.size, 1, none⟩ = some (fv f1)) := ⟨cell_keeps hb (cell_keeps ((Grew.refl _).alloc _).below g0), cell_keeps hb (cell_keeps ((Grew.refl _).alloc _).below g1)⟩
      clear hb p0 p1 p2 p3 hm HC HG g0 g1
      have hpl := Hlen.out
      obtain ⟨v0, s0⟩ := Option.isSome_iff_exists.1 (HC1.out.there (j * 5) (by omega)).1
      obtain ⟨v1, s1⟩ := Option.isSome_iff_exists.1 (HC1.out.there (j * 5 + 1) (by omega)).1
      obtain ⟨v2, s2⟩ := Option.isSome_iff_exists.1 (HC1.out.there (j * 5 + 2) (by omega)).1
      obtain ⟨v3, s3⟩ := Option.isSome_iff_exists.1 (HC1.out.there (j * 5 + 3) (by omega)).1
      obtain ⟨v4, s4⟩ := Option.isSome_iff_exists.1 (HC1.out.there (j * 5 + 4) (by omega)).1
      have z0 := (HC1.out.there (j * 5) (by omega)).2
      have z1 := (HC1.out.there (j * 5 + 1) (by omega)).2
      have z2 := (HC1.out.there (j * 5 + 2) (by omega)).2
      have z3 := (HC1.out.there (j * 5 + 3) (by omega)).2
      have z4 := (HC1.out.there (j * 5 + 4) (by omega)).2
      have hput := HC1.out.put (mkM g (t, .slice ax lx cx)) (by omega)
      rw [← Htk.out, hpl] at hput
      have Hput : Hid _ := hput
      have HG2 : Hid ((w1.setCells (w.heap.size + 1) (j * 5) (encM (mkM g (t, .slice ax lx cx)))).cell? ⟨w.heap.size, 0, none⟩ = some (fv f0) ∧ (w1.setCells (w.heap.size + 1) (j * 5) (encM (mkM g (t, .slice ax lx cx)))).cell? ⟨w.heap.size, 1, none⟩ = some (fv f1)) :=
        ⟨cell_other (show w.heap.size ≠ w.heap.size + 1 by omega) HG1.out.1, cell_other (show w.heap.size ≠ w.heap.size + 1 by omega) HG1.out.2⟩
      have Hbf : Hid (Below w.heap.size w (w1.setCells (w.heap.size + 1) (j * 5) (encM (mkM g (t, .slice ax lx cx))))) := below_putM hb2 (by omega) (j * 5) _
      clear hput hpl HG1 HC1
      go_wp2_with fail
      go_roundg (ps.length - (j + 1))
      case measure => have := Hk.out; omega
      case rel => exact ⟨j + 1, by go_num, by omega, rfl, Hput, HG2, Hbf.out⟩
    · have hjl : j = ps.length := by omega
      have hd := HC.out.row
      rw [hjl, List.take_length] at hd
      have Hd : Hid (RowM wr (w.heap.size + 1) 0 (ps.map (mkM g))) := hd
      clear hd hjl HC HG hm
      go_wp2_with fail
      go_ret
      exact ⟨rfl, Hd.out, hbw⟩

end Go.Proofs.YtgmmocbgeilpiaaGreat

namespace Go.Proofs.YtgmmocbgeilpiaaGreat
open Go.RowKit Go.Shelf

/-- Two cells of a block that may be written. -/
structure Pairly (W : World) (n : Nat) : Prop where
  there : ∀ k, k < 2 → (W.cell? ⟨n, k, none⟩).isSome = true
  soft : ∀ k, k < 2 → W.frozen? ⟨n, k, none⟩ = false

theorem Pairly.lt {W : World} {n : Nat} (h : Pairly W n) : n < W.heap.size := by
  obtain ⟨v, hv⟩ := Option.isSome_iff_exists.1 (h.there 0 (by omega))
  exact cell_lt hv

theorem Pairly.keeps {W W' : World} {n : Nat} (h : Pairly W n) (hb : Below W.heap.size W W') : Pairly W' n :=
  ⟨fun k hk => by rw [hb.cell (p := ⟨n, k, none⟩) h.lt]; exact h.there k hk, fun k hk => by rw [hb.frozen (p := ⟨n, k, none⟩) h.lt]; exact h.soft k hk⟩

theorem pairly_alloc (w : World) (a b : Value) (ty : Nat) : Pairly (w.alloc (.cells #[a, b] ty)) w.heap.size := by
  refine ⟨fun k hk => ?_, fun k hk => by simp⟩
  match k, hk with
  | 0, _ => simp
  | 1, _ => simp

theorem Pairly.put {W : World} {n : Nat} (h : Pairly W n) (a b : Value) : ∀ j (hj : j < [a, b].length), (W.setCells n 0 [a, b]).cell? ⟨n, 0 + j, none⟩ = some ([a, b][j]) :=
  World.cell?_setCells_in n _ 0 W (fun j hj => by rw [Nat.zero_add]; exact h.there j (by simpa using hj))

theorem below_put2 {w W : World} {n : Nat} (h : Below w.heap.size w W) (hn : w.heap.size ≤ n) (a b : Value) : Below w.heap.size w (W.setCells n 0 [a, b]) :=
  (h.setCell (p := ⟨n, 0, none⟩) hn _).setCell (p := ⟨n, 0 + 1, none⟩) hn _

/-- The error of look. -/
def lookE (d : Nat) (o : Int) (l : List VT) : Int := if o < 0 ∨ 6 ≤ o then 4 else listErr d l

/-- Nothing but an error is told. -/
def NonePost (E : Int) (w : World) (e : Ending) (w' : World) : Prop := e = .returned (.tuple #[.agg #[.nilFunc, .nilFunc], .slice none 0 0, .int .i64 E]) ∧ Below w.heap.size w w'

abbrev resW (w : World) : World := w.alloc (.cells #[.nilFunc, .nilFunc] 95)

set_option maxHeartbeats 2000000 in
theorem look_kind (o : Int) (a : Option Addr) (n c : Nat) (w : World) (ho : o < 0 ∨ 6 ≤ o) : Calls Tryz.prog 80 #[.int .i64 o, .slice a n c] w (NonePost 4 w) := by
  have HO : Hid (o < 0 ∨ 6 ≤ o) := ho
  clear ho
  have HB : Hid (Below w.heap.size w (tabW (resW w))) := (Grew.two w _ _).below
  have HP : Hid (Pairly (tabW (resW w)) w.heap.size) := (pairly_alloc w _ _ _).keeps ((Grew.refl _).alloc _).below
  go_enter Tryz.func80, Tryz.ntmps80
  go_wp2_with fail
  refine (rows_any _).mono ?_
  rintro e w1 ⟨rfl, rfl⟩
  go_wp2_with fail
  refine (rowO_no _ o _ HO.out).mono ?_
  rintro e w1 ⟨rfl, hb⟩
  have hb : Below (tabW (resW w)).heap.size (tabW (resW w)) w1 := hb
  have hb1 : Below w.heap.size w w1 := HB.out.trans (hb.mono HB.out.size)
  have hb2 : Below w.heap.size w (w1.alloc (.cells #[.nilFunc, .nilFunc] 95)) := hb1.alloc hb1.size _
  have HP2 : Hid (Pairly (w1.alloc (.cells #[.nilFunc, .nilFunc] 95)) w.heap.size) := (HP.out.keeps hb).keeps ((Grew.refl _).alloc _).below
  clear hb hb1 HB HP HO
  obtain ⟨v0, s0⟩ := Option.isSome_iff_exists.1 (HP2.out.there 0 (by omega))
  obtain ⟨v1, s1⟩ := Option.isSome_iff_exists.1 (HP2.out.there 1 (by omega))
  have z0 := HP2.out.soft 0 (by omega)
  have z1 := HP2.out.soft 1 (by omega)
  have Hin : Hid _ := HP2.out.put .nilFunc .nilFunc
  have Hbf : Hid _ := below_put2 hb2 (Nat.le_refl _) .nilFunc .nilFunc
  go_wp2_with fail
  refine bodyPost_ret (v := .tuple #[.agg #[.nilFunc, .nilFunc], .slice none 0 0, .int .i64 4]) ?_ rfl ⟨rfl, Hbf.out⟩
  have q0 := Hin.out 0 (by simp)
  have q1 := Hin.out 1 (by simp)
  simp only [World.setCells, Nat.zero_add, List.getElem_cons_zero, List.getElem_cons_succ] at q0 q1
  simp [results, Tryz.results80, go_sem, q0, q1]

/-- The result's cells and the row's box. -/
structure DeskL (W : World) (n B f0 f1 : Nat) : Prop where
  res : Pairly W n
  g0 : W.cell? ⟨B, 0, none⟩ = some (fv f0)
  g1 : W.cell? ⟨B, 1, none⟩ = some (fv f1)

theorem DeskL.keeps {W W' : World} {n B f0 f1 : Nat} (h : DeskL W n B f0 f1) (hb : Below W.heap.size W W') : DeskL W' n B f0 f1 :=
  ⟨h.res.keeps hb, cell_keeps hb h.g0, cell_keeps hb h.g1⟩

set_option maxHeartbeats 2000000 in
theorem look_core (d q : Nat) (hq : q < 6) (f0 f1 : Nat) (hT : Hid (∀ w : World, (tabW (resW w)).cell? ⟨w.heap.size + 1, q * 2, none⟩ = some (fv f0) ∧ (tabW (resW w)).cell? ⟨w.heap.size + 1, q * 2 + 1, none⟩ = some (fv f1))) (l : List VT) (u : Value) (w : World) (hu : Lies (d + 1) w l u) (ms : List MB)
    (hm : Hid (listErr d l = 0 → (∀ p ∈ ms, GoodM w p) ∧ ∀ W : World, Below w.heap.size w W → Calls Tryz.prog 98 #[.agg #[fv f0, fv f1], u] W fun e w' => ∃ G, e = .returned (.slice (some ⟨G, 0, none⟩) ms.length ms.length) ∧ W.heap.size ≤ G ∧ RowM w' G 0 ms ∧ Below W.heap.size W w')) :
    Calls Tryz.prog 80 #[.int .i64 q, u] w fun e w' => (listErr d l ≠ 0 ∧ NonePost (listErr d l) w e w') ∨ (listErr d l = 0 ∧ ∃ v, e = .returned (.tuple #[.agg #[fv f0, fv f1], v, .int .i64 0]) ∧ SlM w' ms v ∧ Below w.heap.size w w') := by
  obtain ⟨a, c, rfl, _⟩ := Lies.slice hu
  have HU : Hid (Lies (d + 1) w l (.slice a l.length c)) := hu
  clear hu
  have HB : Hid (Below w.heap.size w (tabW (resW w))) := (Grew.two w _ _).below
  have HP : Hid (Pairly (tabW (resW w)) w.heap.size) := (pairly_alloc w _ _ _).keeps ((Grew.refl _).alloc _).below
  go_enter Tryz.func80, Tryz.ntmps80
  go_wp2_with fail
  refine (rows_any _).mono ?_
  rintro e w1 ⟨rfl, rfl⟩
  go_wp2_with fail
  refine (rowO_yes (w.heap.size + 1) q f0 f1 _ hq (hT.out w).1 (hT.out w).2).mono ?_
  rintro e w1 ⟨rfl, hb⟩
  have hb : Below (tabW (resW w)).heap.size (tabW (resW w)) w1 := hb
  have hb1 : Below w.heap.size w w1 := HB.out.trans (hb.mono HB.out.size)
  have hb2 : Below w.heap.size w (w1.alloc (.cells #[fv f0, fv f1] 95)) := hb1.alloc hb1.size _
  have HD2 : Hid (DeskL (w1.alloc (.cells #[fv f0, fv f1] 95)) w.heap.size w1.heap.size f0 f1) := ⟨(HP.out.keeps hb).keeps ((Grew.refl _).alloc _).below, by simp, by simp⟩
  have hlow : w.heap.size < w1.heap.size := (HP.out.keeps hb).lt
  clear hb hb1 HB HP hT
  go_wp2_with fail
  refine (checkAll_any d l _ _ (Lies.keeps hb2 _ _ _ HU.out)).mono ?_
  rintro e w3 ⟨rfl, hb⟩
  have hb3 : Below w.heap.size w w3 := hb2.trans (hb.mono hb2.size)
  have HD3 : Hid (DeskL w3 w.heap.size w1.heap.size f0 f1) := HD2.out.keeps hb
  clear hb hb2 HD2 HU
  generalize hBB : w1.heap.size = B at *
  clear hBB
  generalize hLE : listErr d l = E at *
  have HLE : Hid (listErr d l = E) := hLE
  clear hLE
  by_cases hE : E = 0
  · subst hE
    have hb4 : Below w.heap.size w w3.drew := hb3.drew
    have HD4 : Hid (DeskL w3.drew w.heap.size B f0 f1) := HD3.out.keeps (Grew.refl _).drew.below
    have Hm : Hid (∀ W : World, Below w.heap.size w W → Calls Tryz.prog 98 #[.agg #[fv f0, fv f1], .slice a l.length c] W fun e w' => ∃ G, e = .returned (.slice (some ⟨G, 0, none⟩) ms.length ms.length) ∧ W.heap.size ≤ G ∧ RowM w' G 0 ms ∧ Below W.heap.size W w') := (hm.out rfl).2
    have HGd : Hid (∀ p ∈ ms, GoodM w p) := (hm.out rfl).1
    have hne1 : ¬ (w.heap.size = B) := by omega
    have hne2 : ¬ (B = w.heap.size) := by omega
    have hgt : w.heap.size < w3.heap.size := HD3.out.res.lt
    clear hm HD3 hb3
    obtain ⟨hp4, g0, g1⟩ := HD4.out
    clear hp4
    go_wp2_with fail
    go_region_held3 (fun w' => w'.cell? ⟨B, 0, none⟩ = some (fv f0) ∧ w'.cell? ⟨B, 1, none⟩ = some (fv f1)) (first | go_keep | trivial)
      (first
        | (go_at_call 98; refine (Hm.out _ hb4).mono ?_; rintro e w5 ⟨G, rfl, hG, hrow, hg5⟩; have hG2 : w3.heap.size ≤ G := hG; clear hG; have hb5 : Below w.heap.size w w5 := hb4.trans (hg5.mono hb4.size); have HD5 : Hid (DeskL w5 w.heap.size B f0 f1) := HD4.out.keeps hg5; clear hg5 hb4 HD4 g0 g1; have HR : Hid (RowM w5 G 0 ms) := hrow; clear hrow; obtain ⟨hres, g0, g1⟩ := HD5.out; obtain ⟨v0, s0⟩ := Option.isSome_iff_exists.1 (hres.there 0 (by omega)); obtain ⟨v1, s1⟩ := Option.isSome_iff_exists.1 (hres.there 1 (by omega)); have z0 := hres.soft 0 (by omega); have z1 := hres.soft 1 (by omega); clear hres))
    have Hin : Hid _ := HD5.out.res.put (fv f0) (fv f1)
    have hbf := below_put2 hb5 (Nat.le_refl _) (fv f0) (fv f1)
    have Hbf : Hid (Below w.heap.size w (w5.setCells w.heap.size 0 [fv f0, fv f1])) := hbf
    have HS : Hid (SlM (w5.setCells w.heap.size 0 [fv f0, fv f1]) ms (.slice (some ⟨G, 0, none⟩) ms.length ms.length)) := by
      refine ⟨G, 0, _, rfl, Nat.le_refl _, fun i hi => ?_, fun p hp => (HGd.out p hp).keeps hbf⟩
      obtain ⟨k0, k1, k2, k3, k4⟩ := HR.out i hi
      have hg : G ≠ w.heap.size := by omega
      exact ⟨cell_other hg k0, cell_other hg k1, cell_other hg k2, cell_other hg k3, cell_other hg k4⟩
    clear hbf HR HGd HD5
    go_wp2_with fail
    refine bodyPost_ret (v := .tuple #[.agg #[fv f0, fv f1], .slice (some ⟨G, 0, none⟩) ms.length ms.length, .int .i64 0]) ?_ rfl (.inr ⟨HLE.out, _, rfl, HS.out, Hbf.out⟩)
    have q0 := Hin.out 0 (by simp)
    have q1 := Hin.out 1 (by simp)
    simp only [World.setCells, Nat.zero_add, List.getElem_cons_zero, List.getElem_cons_succ] at q0 q1
    simp [results, Tryz.results80, go_sem, q0, q1]
  · have HP3 : Hid (Pairly w3 w.heap.size) := HD3.out.res
    clear HD3 hm
    obtain ⟨v0, s0⟩ := Option.isSome_iff_exists.1 (HP3.out.there 0 (by omega))
    obtain ⟨v1, s1⟩ := Option.isSome_iff_exists.1 (HP3.out.there 1 (by omega))
    have z0 := HP3.out.soft 0 (by omega)
    have z1 := HP3.out.soft 1 (by omega)
    have Hin : Hid _ := HP3.out.put .nilFunc .nilFunc
    have Hbf : Hid _ := below_put2 hb3 (Nat.le_refl _) .nilFunc .nilFunc
    have hE' : (E == 0) = false := by simpa using hE
    have HE : Hid (E ≠ 0) := hE
    clear hE
    go_wp2_with fail
    refine bodyPost_ret (v := .tuple #[.agg #[.nilFunc, .nilFunc], .slice none 0 0, .int .i64 E]) ?_ rfl (.inl ⟨by rw [HLE.out]; exact HE.out, by rw [HLE.out], Hbf.out⟩)
    have q0 := Hin.out 0 (by simp)
    have q1 := Hin.out 1 (by simp)
    simp only [World.setCells, Nat.zero_add, List.getElem_cons_zero, List.getElem_cons_succ] at q0 q1
    simp [results, Tryz.results80, go_sem, q0, q1]

/-- What look tells of an order and a list: their error, or the row and the members with their measures. -/
def LookPost (d q : Nat) (l : List VT) (w : World) (e : Ending) (w' : World) : Prop :=
  (listErr d l ≠ 0 ∧ NonePost (listErr d l) w e w') ∨ (listErr d l = 0 ∧ ∃ v ms, e = .returned (.tuple #[.agg #[fv (mF q), fv (cF q)], v, .int .i64 0]) ∧ SlM w' ms v ∧ ms.map (·.t) = l ∧ (∀ p ∈ ms, p.m = msr q p.t) ∧ Below w.heap.size w w')

theorem listErr_zero6 {d : Nat} {l : List VT} (h : listErr d l = 0) : l.length ≤ 65536 ∧ ∀ x ∈ l, rightV d x = true := by
  unfold listErr at h
  by_cases h1 : 65536 < l.length
  · rw [if_pos h1] at h; cases h
  · rw [if_neg h1] at h
    cases h2 : l.all (rightV d)
    · rw [h2] at h; cases h
    · exact ⟨by omega, fun x hx => List.all_eq_true.1 h2 x hx⟩

theorem look_some (d q : Nat) (hq : q < 6) (l : List VT) (u : Value) (w : World) (hu : Lies (d + 1) w l u) : Calls Tryz.prog 80 #[.int .i64 q, u] w (LookPost d q l w) := by
  obtain ⟨a, c, rfl, hlen, ps, hps, hsd, hrow⟩ := Lies.row hu
  have hpl : ps.length = l.length := by rw [← hps]; simp
  have hpne : ps ≠ [] → l ≠ [] := fun h e => h (List.eq_nil_of_length_eq_zero (by rw [hpl, e]; rfl))
  refine (look_core d q hq (mF q) (cF q) (fun W => ?_) l _ w hu (ps.map (mkM (msr q))) ?_).mono ?_
  · have := tab_cells (resW W) q hq
    rwa [World.size_alloc] at this
  · intro hE
    obtain ⟨h1, h2⟩ := listErr_zero6 hE
    have hgood : ∀ p ∈ ps, Lies 16 w p.1.items p.2 ∧ rightV 16 p.1 = true := fun p hp => canon (hsd p hp).1 (h2 p.1 (by rw [← hps]; exact List.mem_map.2 ⟨p, hp, rfl⟩))
    refine ⟨fun m hm => ?_, fun W hW => ?_⟩
    · obtain ⟨p, hp, rfl⟩ := List.mem_map.1 hm
      exact ⟨(hgood p hp).1, (hgood p hp).2⟩
    · have := measuredAll_core (mF q) (cF q) (msr q) ps a c W (by omega) (fun hne => by
          obtain ⟨b, o, ha, hr⟩ := hrow (hpne hne)
          exact ⟨b, o, ha, hr.keeps hW⟩) (fun p hp => by
          obtain ⟨a', c', e, _⟩ := Lies.slice (hsd p hp).1
          exact ⟨a', _, c', e⟩) (fun p W' hp hW' => measured_any q hq p.1 p.2 W' (Lies.keeps (hW.trans (hW'.mono hW.size)) _ _ _ (hgood p hp).1) (hgood p hp).2)
      rw [hpl] at this
      refine this.mono ?_
      rintro e w' ⟨rfl, hr, hb⟩
      exact ⟨W.heap.size + 1, by rw [List.length_map, hpl], by omega, hr, hb⟩
  · rintro e w' (h | ⟨h1, v, h2, h3, h4⟩)
    · exact .inl h
    · refine .inr ⟨h1, v, _, h2, h3, ?_, fun p hp => ?_, h4⟩
      · rw [List.map_map]; exact hps
      · obtain ⟨x, _, rfl⟩ := List.mem_map.1 hp; rfl

end Go.Proofs.YtgmmocbgeilpiaaGreat

