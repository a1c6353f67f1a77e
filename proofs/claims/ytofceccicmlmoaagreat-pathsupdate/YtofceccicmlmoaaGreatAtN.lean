/-
  at: what stands at a path.
-/
import Derived.Test.YtofceccicmlmoaaGreatPlaceC
import Derived.BigQuiet
namespace Go.Proofs.YtofceccicmlmoaaGreat
open Go.RowKit Go.Shelf

set_option maxRecDepth 100000 in
set_option maxHeartbeats 8000000 in
theorem place_list (t s : VT) (v us : Value) (w : World) (hv : Lies 16 w t.items v) (hs : Lies 16 w s.items us) (hr : rightV 16 t = true) (h0 : ¬ (t.kind = 0 ∨ t.kind = 6)) (h4 : t.kind = 4) :
    Calls Tryz.prog 30 #[.agg #[.int .i64 t.kind, .int .i64 t.num, .string t.text, v], .agg #[.int .i64 s.kind, .int .i64 s.num, .string s.text, us]] w (PlPost t s w) := by
  obtain ⟨a, c, rfl, hcl⟩ := Lies.slice hv
  obtain ⟨ay, cy, rfl, _⟩ := Lies.slice hs
  have hd := Dp.of_lies 16 w t _ hv
  have hlen := right_len hr
  obtain ⟨ll, hll⟩ : ∃ ll, ll = t.items.length := ⟨_, rfl⟩
  obtain ⟨W0, hW0⟩ : ∃ W0, W0 = (w.alloc (.cells #[.int .i64 t.kind, .int .i64 t.num, .string t.text, .slice a ll c] 24)).alloc (.cells #[.int .i64 s.kind, .int .i64 s.num, .string s.text, .slice ay s.items.length cy] 24) := ⟨_, rfl⟩
  have HW0 : Hid (W0 = (w.alloc (.cells #[.int .i64 t.kind, .int .i64 t.num, .string t.text, .slice a ll c] 24)).alloc (.cells #[.int .i64 s.kind, .int .i64 s.num, .string s.text, .slice ay s.items.length cy] 24)) := hW0
  have hb0 : Below w.heap.size w W0 := by rw [hW0]; exact (Grew.two _ _ _).below
  have HT : Hid (Bx W0 w.heap.size t (.slice a ll c)) := by rw [hW0]; exact (bx_alloc w t _).keeps ((Grew.refl _).alloc _).below
  have HS : Hid (Bx W0 (w.heap.size + 1) s (.slice ay s.items.length cy)) := by
    rw [hW0]
    have := bx_alloc (w.alloc (.cells #[.int .i64 t.kind, .int .i64 t.num, .string t.text, .slice a ll c] 24)) s (.slice ay s.items.length cy)
    rwa [World.size_alloc] at this
  rw [← hll]
  rw [← hll] at hv hlen
  have hp : PlPost t s w = fun e w' => e = .returned (.tuple #[.int .i64 (plcI t s), .bool (plcB t s)]) ∧ Below w.heap.size w w' := rfl
  obtain ⟨t0, t1, t2, t3, _, _, _, _⟩ := HT.out
  obtain ⟨s0, s1, s2, s3, _, _, _, _⟩ := HS.out
  have e1 : plcI t s = s.num := by unfold plcI; rw [if_neg h0, if_pos h4]
  have e2 : plcB t s = (s.kind == 2 && (decide (0 ≤ s.num) && decide (s.num < (ll : Int)))) := by unfold plcB; rw [if_neg h0, if_pos h4, hll]
  rw [hp, e1, e2]
  clear hW0 hv hs hr hd hlen hcl hll HT HS e1 e2 hp h0
  rw [h4] at t0 HW0 ⊢
  by_cases hk : s.kind = 2
  · rw [hk] at s0 HW0 ⊢
    by_cases hn : 0 ≤ s.num
    · have hdn : decide (0 ≤ s.num) = true := decide_eq_true hn
      go_enter Tryz.func30, Tryz.ntmps30
      go_upto_region 1 with fail
      rw [← HW0.out]
      go_wp2_with fail
      go_quiet (fail)
      go_wp2_with fail
      go_ret2
      exact ⟨by simp [hdn], hb0.trans ((below_dn26 _ _ _).mono hb0.size)⟩
    · have hdn : decide (0 ≤ s.num) = false := decide_eq_false hn
      go_enter Tryz.func30, Tryz.ntmps30
      go_upto_region 1 with fail
      rw [← HW0.out]
      go_wp2_with fail
      go_quiet (fail)
      go_wp2_with fail
      go_ret2
      exact ⟨by simp [hdn], hb0.trans ((below_dn26 _ _ _).mono hb0.size)⟩
  · go_enter Tryz.func30, Tryz.ntmps30
    go_upto_region 1 with fail
    rw [← HW0.out]
    go_wp2_with fail
    go_quiet (fail)
    go_wp2_with fail
    go_ret2
    exact ⟨by simp [hk], hb0.trans ((below_dn26 _ _ _).mono hb0.size)⟩

end Go.Proofs.YtofceccicmlmoaaGreat

namespace Go.Proofs.YtofceccicmlmoaaGreat
open Go.RowKit Go.Shelf

theorem place_any (t s : VT) (v us : Value) (w : World) (hv : Lies 16 w t.items v) (hs : Lies 16 w s.items us) (hr : rightV 16 t = true) :
    Calls Tryz.prog 30 #[.agg #[.int .i64 t.kind, .int .i64 t.num, .string t.text, v], .agg #[.int .i64 s.kind, .int .i64 s.num, .string s.text, us]] w (PlPost t s w) := by
  by_cases h0 : t.kind = 0 ∨ t.kind = 6
  · exact place_map t s v us w hv hs hr h0
  · by_cases h4 : t.kind = 4
    · exact place_list t s v us w hv hs hr h0 h4
    · by_cases h5 : t.kind = 5
      · exact place_set t s v us w hv hs hr h0 h4 h5
      · exact place_none t s v us w hv hs hr h0 h4 h5

end Go.Proofs.YtofceccicmlmoaaGreat

namespace Go.Proofs.YtofceccicmlmoaaGreat
open Go.RowKit Go.Shelf

/-- A list behind its first member, as a slice of it whose room ends with it. -/
theorem liesX_tail {X : Nat → Prop} {D : Nat} {w : World} {s : VT} {r : List VT} {b o c : Nat} (h : LiesX X (D + 1) w (s :: r) (.slice (some ⟨b, o, none⟩) (r.length + 1) c)) (o' : Nat) (ho : r ≠ [] → o' = o + 4) : LiesX X (D + 1) w r (.slice (some ⟨b, o', none⟩) r.length r.length) := by
  obtain ⟨a', c', hv, hb, hr⟩ := h
  injection hv with e1 e2 e3
  obtain ⟨b2, o2, ha, hX, hall⟩ := hr (by simp)
  rw [ha] at e1
  injection e1 with e1
  injection e1 with e4 e5
  subst e4
  subst e5
  refine ⟨_, _, rfl, ⟨Nat.le_refl _, by have := hb.2; simp at this; omega⟩, fun hne => ⟨b, o', rfl, hX, fun i hi => ?_⟩⟩
  obtain ⟨u, h0, h1, h2, h3, h4, h5⟩ := hall (i + 1) (by simp; omega)
  have ho := ho hne
  have e : o + (i + 1) * 4 = o' + i * 4 := by omega
  rw [e] at h0 h1 h2 h3
  exact ⟨u, h0, h1, h2, h3, h4, h5⟩

set_option maxHeartbeats 4000000 in
theorem rest_any (X : Nat → Prop) (D : Nat) (s : VT) (r : List VT) (v : Value) (w : World) (hv : LiesX X (D + 1) w (s :: r) v) (hn : r.length ≤ 65536) :
    Calls Tryz.prog 31 #[v] w fun e w' => ∃ u, e = .returned u ∧ w' = w ∧ LiesX X (D + 1) w r u := by
  obtain ⟨a, c, rfl, _⟩ := LiesX.slice hv
  obtain ⟨b, o, rfl, hrc⟩ : ∃ b o, a = some ⟨b, o, none⟩ ∧ r.length + 1 ≤ c := by
    obtain ⟨a', c', hv', hb, hr'⟩ := hv
    injection hv' with e1 _ e3
    obtain ⟨b, o, ha, _⟩ := hr' (by simp)
    exact ⟨b, o, by rw [e1, ha], by have := hb.1; simp at this; omega⟩
  have HV : Hid (LiesX X (D + 1) w (s :: r) (.slice (some ⟨b, o, none⟩) (r.length + 1) c)) := hv
  clear hv
  rw [show (s :: r).length = r.length + 1 from rfl]
  by_cases h0 : r.length = 0
  · have hr : r = [] := List.length_eq_zero_iff.1 h0
    subst hr
    clear h0
    have HU : Hid (LiesX X (D + 1) w [] (.slice (some ⟨b, o, none⟩) 0 0)) := liesX_nil _ _ _ _ _
    simp only [List.length_nil, Nat.zero_add] at *
    have h1c : (1 : Int) ≤ (c : Int) := by omega
    go_enter Tryz.func31, Tryz.ntmps31
    go_wp2_with fail
    go_ret
    exact ⟨_, rfl, rfl, HU.out⟩
  · have HU : Hid (LiesX X (D + 1) w r (.slice (some ⟨b, o + 4, none⟩) r.length r.length)) := liesX_tail HV.out (o + 4) (fun _ => rfl)
    generalize r.length = R at *
    have h1c : (1 : Int) ≤ (c : Int) := by omega
    have h2c : (R : Int) + 1 ≤ (c : Int) := by omega
    have h3 : ¬ (R + 1 : Nat) = 1 := by omega
    go_enter Tryz.func31, Tryz.ntmps31
    go_wp2_with fail
    go_ret
    exact ⟨_, rfl, rfl, HU.out⟩

def atR (t : VT) (p : List VT) : VT := (atT t p).getD nilT
def atB (t : VT) (p : List VT) : Bool := (atT t p).isSome

/-- What at tells. -/
def AtPost (X : Nat → Prop) (t : VT) (p : List VT) (w : World) (e : Ending) (w' : World) : Prop :=
  ∃ a c, e = .returned (.tuple #[.agg #[.int .i64 (atR t p).kind, .int .i64 (atR t p).num, .string (atR t p).text, .slice a (atR t p).items.length c], .bool (atB t p)]) ∧ LiesX X 16 w' (atR t p).items (.slice a (atR t p).items.length c) ∧ Below w.heap.size w w'

end Go.Proofs.YtofceccicmlmoaaGreat

namespace Go.Proofs.YtofceccicmlmoaaGreat
open Go.RowKit Go.Shelf

theorem liesX_head {X : Nat → Prop} {D : Nat} {w : World} {s : VT} {r : List VT} {v : Value} (h : LiesX X (D + 1) w (s :: r) v) : ∃ b o c u, v = .slice (some ⟨b, o, none⟩) (r.length + 1) c ∧ X b ∧ r.length + 1 ≤ c ∧ w.cell? ⟨b, o, none⟩ = some (.int .i64 s.kind) ∧ w.cell? ⟨b, o + 1, none⟩ = some (.int .i64 s.num) ∧ w.cell? ⟨b, o + 2, none⟩ = some (.string s.text) ∧ w.cell? ⟨b, o + 3, none⟩ = some u ∧ LiesX X D w s.items u := by
  obtain ⟨a', c', hv, hb, hr⟩ := h
  obtain ⟨b, o, ha, hX, hall⟩ := hr (by simp)
  obtain ⟨u, h0, h1, h2, h3, h4, h5⟩ := hall 0 (by simp)
  subst ha
  simp only [Nat.zero_mul, Nat.add_zero, List.getElem_cons_zero] at h0 h1 h2 h3 h4
  exact ⟨b, o, c', u, hv, hX, by have := hb.1; simp at this; omega, h0, h1, h2, h3, h4⟩

theorem liesX_at {X : Nat → Prop} {D : Nat} {w : World} {l : List VT} {a : Option Addr} {n c : Nat} (h : LiesX X (D + 1) w l (.slice a n c)) (k : Nat) (hk : k < l.length) : ∃ b o u, a = some ⟨b, o, none⟩ ∧ n = l.length ∧ X b ∧ l.length ≤ c ∧ w.cell? ⟨b, o + k * 4, none⟩ = some (.int .i64 l[k].kind) ∧ w.cell? ⟨b, o + k * 4 + 1, none⟩ = some (.int .i64 l[k].num) ∧ w.cell? ⟨b, o + k * 4 + 2, none⟩ = some (.string l[k].text) ∧ w.cell? ⟨b, o + k * 4 + 3, none⟩ = some u ∧ LiesX X D w l[k].items u := by
  obtain ⟨a', c', hv, hb, hr⟩ := h
  injection hv with e1 e2 e3
  subst e1
  subst e3
  obtain ⟨b, o, ha, hX, hall⟩ := hr (fun e => by rw [e] at hk; simp at hk)
  obtain ⟨u, h0, h1, h2, h3, h4, h5⟩ := hall k hk
  exact ⟨b, o, u, ha, e2, hX, hb.1, h0, h1, h2, h3, h4⟩

/-- The two boxes of at. -/
def at2 (w : World) (t : VT) (u : Value) : World := (w.alloc (.cells #[.int .i64 t.kind, .int .i64 t.num, .string t.text, u] 24)).alloc (.cells #[.int .i64 0, .int .i64 0, .string ⟨#[]⟩, .slice none 0 0] 24)

theorem at2_below (w : World) (t : VT) (u : Value) : Below w.heap.size w (at2 w t u) := (Grew.two _ _ _).below
theorem at2_fst (w : World) (t : VT) (u : Value) : Bx (at2 w t u) w.heap.size t u := (bx_alloc w t u).keeps ((Grew.refl _).alloc _).below
theorem at2_snd (w : World) (t : VT) (u : Value) : Bx (at2 w t u) (w.heap.size + 1) zeroT (.slice none 0 0) := by
  have := bx_alloc (w.alloc (.cells #[.int .i64 t.kind, .int .i64 t.num, .string t.text, u] 24)) zeroT (.slice none 0 0)
  rwa [World.size_alloc] at this

set_option maxRecDepth 100000 in
set_option maxHeartbeats 8000000 in
theorem at_nil (X : Nat → Prop) (t : VT) (a pa : Option Addr) (c pc : Nat) (w : World) (h : LiesX X 16 w t.items (.slice a t.items.length c)) :
    Calls Tryz.prog 11 #[.agg #[.int .i64 t.kind, .int .i64 t.num, .string t.text, .slice a t.items.length c], .slice pa 0 pc] w (AtPost X t [] w) := by
  have HT : Hid (Bx (at2 w t (.slice a t.items.length c)) w.heap.size t (.slice a t.items.length c)) := at2_fst _ _ _
  have HR : Hid (Bx (at2 w t (.slice a t.items.length c)) (w.heap.size + 1) zeroT (.slice none 0 0)) := at2_snd _ _ _
  have hb0 := at2_below w t (.slice a t.items.length c)
  obtain ⟨W0, hW0⟩ : ∃ W0, W0 = at2 w t (.slice a t.items.length c) := ⟨_, rfl⟩
  have HW0 : Hid (W0 = at2 w t (.slice a t.items.length c)) := hW0
  rw [← hW0] at HT HR hb0
  have HE : Hid (AtPost X t [] w (.returned (.tuple #[.agg #[.int .i64 t.kind, .int .i64 t.num, .string t.text, .slice a t.items.length c], .bool true])) (W0.setCells (w.heap.size + 1) 0 (encP (t, .slice a t.items.length c)))) :=
    ⟨a, c, rfl, LiesX.mono (fun _ h => h.1) (LiesX.set (g := w.heap.size + 1) (by omega) (h.both.keeps hb0)), below_put hb0 (by omega) _⟩
  have Hq : Hid (Bx (W0.setCells (w.heap.size + 1) 0 (encP (t, .slice a t.items.length c))) (w.heap.size + 1) t (.slice a t.items.length c)) := HR.out.put (t, .slice a t.items.length c)
  obtain ⟨t0, t1, t2, t3, _, _, _, _⟩ := HT.out
  obtain ⟨z0, z1, z2, z3, g0, g1, g2, g3⟩ := HR.out
  clear hW0 h hb0 HT HR
  unfold at2 at HW0
  generalize t.items.length = lt at *
  go_enter Tryz.func11, Tryz.ntmps11
  go_upto_region 1 with fail
  rw [← HW0.out]
  clear HW0
  go_wp2_with fail
  refine bodyPost_ret (v := .tuple #[.agg #[.int .i64 t.kind, .int .i64 t.num, .string t.text, .slice a lt c], .bool true]) ?_ rfl HE.out
  obtain ⟨q0, q1, q2, q3, _, _, _, _⟩ := Hq.out
  simp only [World.setCells, encP, Nat.zero_add, Nat.reduceAdd] at q0 q1 q2 q3
  simp [results, Tryz.results11, go_sem, q0, q1, q2, q3]

set_option maxRecDepth 100000 in
set_option maxHeartbeats 8000000 in
theorem at_cons (s : VT) (r : List VT) (ih : Hid (∀ (X : Nat → Prop) (t : VT) (a : Option Addr) (c : Nat) (pv : Value) (w : World), LiesX X 16 w t.items (.slice a t.items.length c) → rightV 16 t = true → LiesX X 17 w r pv → r.length ≤ 16 → Calls Tryz.prog 11 #[.agg #[.int .i64 t.kind, .int .i64 t.num, .string t.text, .slice a t.items.length c], pv] w (AtPost X t r w)))
    (X : Nat → Prop) (t : VT) (a : Option Addr) (c : Nat) (pv : Value) (w : World) (h : LiesX X 16 w t.items (.slice a t.items.length c)) (hr : rightV 16 t = true) (hp : LiesX X 17 w (s :: r) pv) (hn : r.length ≤ 16) :
    Calls Tryz.prog 11 #[.agg #[.int .i64 t.kind, .int .i64 t.num, .string t.text, .slice a t.items.length c], pv] w (AtPost X t (s :: r) w) := by
  have hd := Dp.of_lies 16 w t _ h.lies
  have HT : Hid (Bx (at2 w t (.slice a t.items.length c)) w.heap.size t (.slice a t.items.length c)) := at2_fst _ _ _
  have HR : Hid (Bx (at2 w t (.slice a t.items.length c)) (w.heap.size + 1) zeroT (.slice none 0 0)) := at2_snd _ _ _
  have hb0 := at2_below w t (.slice a t.items.length c)
  obtain ⟨W0, hW0⟩ : ∃ W0, W0 = at2 w t (.slice a t.items.length c) := ⟨_, rfl⟩
  have HW0 : Hid (W0 = at2 w t (.slice a t.items.length c)) := hW0
  rw [← hW0] at HT HR hb0
  clear hW0
  unfold at2 at HW0
  obtain ⟨b, o, pc, us, rfl, hXb, hpc, p0, p1, p2, p3, hls⟩ := liesX_head hp
  obtain ⟨ay, cy, rfl, _⟩ := LiesX.slice hls
  replace p0 := cell_keeps hb0 p0; replace p1 := cell_keeps hb0 p1; replace p2 := cell_keeps hb0 p2; replace p3 := cell_keeps hb0 p3
  have HPl : Hid (∀ W, Below W0.heap.size W0 W → Calls Tryz.prog 30 #[.agg #[.int .i64 t.kind, .int .i64 t.num, .string t.text, .slice a t.items.length c], .agg #[.int .i64 s.kind, .int .i64 s.num, .string s.text, .slice ay s.items.length cy]] W (PlPost t s W)) := fun W hW => place_any t s _ _ W (Lies.keeps hW _ _ _ (Lies.keeps hb0 _ _ _ h.lies)) (Lies.keeps hW _ _ _ (Lies.keeps hb0 _ _ _ hls.lies)) hr
  have hi0 : (0 : Int) < ((r.length + 1 : Nat) : Int) := by omega
  by_cases hB : plcB t s = true
  · obtain ⟨q1, q2⟩ := plcB_lt (right_even t hd hr) hB
    obtain ⟨k, hk⟩ : ∃ k : Nat, plcI t s = (k : Int) := ⟨(plcI t s).toNat, by omega⟩
    have hkt : (plcI t s).toNat = k := by omega
    rw [hkt] at q2
    have hat : atT t (s :: r) = atT t.items[k] r := by
      conv => lhs; unfold atT
      rw [if_pos hB, hkt, List.getElem?_eq_getElem q2]
    have hpost : AtPost X t (s :: r) w = AtPost X t.items[k] r w := by unfold AtPost atR atB; rw [hat]
    rw [hpost]
    have hr2 := item_right hr hd (List.getElem_mem q2)
    obtain ⟨b2, o2, ux, ha, _, hX2, _, x0, x1, x2, x3, hlx⟩ := liesX_at h.both k q2
    obtain ⟨ax, cx, rfl, _⟩ := LiesX.slice hlx
    subst ha
    have hb2l : b2 < w.heap.size := hX2.2
    replace x0 := cell_keeps hb0 x0; replace x1 := cell_keeps hb0 x1; replace x2 := cell_keeps hb0 x2; replace x3 := cell_keeps hb0 x3
    have HRs : Hid (∀ W, Below w.heap.size w W → Calls Tryz.prog 31 #[.slice (some ⟨b, o, none⟩) (r.length + 1) pc] W fun e w' => ∃ u, e = .returned u ∧ w' = W ∧ LiesX (fun n => X n ∧ n < w.heap.size) 17 W r u) := fun W hW => rest_any _ 16 s r _ W (hp.both.keeps hW) (by omega)
    have HA : Hid (∀ W u, Below w.heap.size w W → LiesX (fun n => X n ∧ n < w.heap.size) 17 W r u → Calls Tryz.prog 11 #[.agg #[.int .i64 t.items[k].kind, .int .i64 t.items[k].num, .string t.items[k].text, .slice ax t.items[k].items.length cx], u] W (AtPost (fun n => X n ∧ n < w.heap.size) t.items[k] r W)) := fun W u hW hu => ih.out _ _ _ _ u W ((hlx.keeps hW).atLeast 16 (by omega)) hr2.1 hu hn
    have hkl : (k : Int) < (t.items.length : Int) := by omega
    have hPP : ∀ W, PlPost t s W = fun e w' => e = .returned (.tuple #[.int .i64 (k : Int), .bool true]) ∧ Below W.heap.size W w' := fun W => by unfold PlPost; rw [hB, hk]
    simp only [hPP] at HPl
    clear hp hls hlx h hr hd ih hB q1 hk hkt hat hpost hr2 hPP hXb hX2
    generalize t.items[k] = x at *
    clear q2
    generalize hP : AtPost X x r w = PP
    have HP : Hid (AtPost X x r w = PP) := hP
    clear hP
    generalize t.items.length = lt at *
    generalize x.items.length = lx at *
    generalize s.items.length = lz at *
    generalize r.length = R at *
    obtain ⟨t0, t1, t2, t3, _, _, _, _⟩ := HT.out
    go_enter Tryz.func11, Tryz.ntmps11
    go_upto_region 1 with fail
    rw [← HW0.out]
    clear HW0
    go_wp2_with fail
    go_region_held3 (fun w' => (w'.cell? ⟨w.heap.size, 0, none⟩ = some (.int .i64 t.kind) ∧ w'.cell? ⟨w.heap.size, 1, none⟩ = some (.int .i64 t.num) ∧ w'.cell? ⟨w.heap.size, 2, none⟩ = some (.string t.text) ∧ w'.cell? ⟨w.heap.size, 3, none⟩ = some (.slice (some ⟨b2, o2, none⟩) lt c)) ∧ (w'.cell? ⟨b, o, none⟩ = some (.int .i64 s.kind) ∧ w'.cell? ⟨b, o + 1, none⟩ = some (.int .i64 s.num) ∧ w'.cell? ⟨b, o + 2, none⟩ = some (.string s.text) ∧ w'.cell? ⟨b, o + 3, none⟩ = some (.slice ay lz cy))) (go_keep)
      (first | (go_at_call 30; (with_reducible refine Calls.mono (HPl.out _ ?_) ?_); (first | exact Below.refl _ _ | exact (Below.refl _ _).drew); rintro e w1 ⟨rfl, hb1⟩; have hb1 : Below W0.heap.size W0 w1 := (by first | exact hb1 | exact (Below.refl _ _).drew.trans hb1); have p0 := cell_keeps hb1 p0; have p1 := cell_keeps hb1 p1; have p2 := cell_keeps hb1 p2; have p3 := cell_keeps hb1 p3; have t0 := cell_keeps hb1 t0; have t1 := cell_keeps hb1 t1; have t2 := cell_keeps hb1 t2; have t3 := cell_keeps hb1 t3))
    have hb2 : Below w.heap.size w w1 := hb0.trans (hb1.mono hb0.size)
    have HR1 : Hid (Bx w1 (w.heap.size + 1) zeroT (.slice none 0 0)) := HR.out.keeps hb1
    replace t3 := cell_keeps hb1 HT.out.c3
    replace x0 := cell_keeps hb1 x0; replace x1 := cell_keeps hb1 x1; replace x2 := cell_keeps hb1 x2; replace x3 := cell_keeps hb1 x3
    have n1 : w.heap.size ≠ w.heap.size + 1 := by omega
    have n2 : b2 ≠ w.heap.size + 1 := by omega
    obtain ⟨z0, z1, z2, z3, g0, g1, g2, g3⟩ := HR1.out
    have hlz : w.heap.size + 1 < w1.heap.size := by have h9 := cell_lt z0; simpa using h9
    clear hb1 hb0 HPl HT HR p0 p1 p2 p3 t0 t1 t2 HR1
    go_wp2_with fail
    go_region_held3 (fun w' => w'.cell? ⟨w.heap.size, 3, none⟩ = some (.slice (some ⟨b2, o2, none⟩) lt c) ∧ w'.cell? ⟨b2, o2 + k * 4, none⟩ = some (.int .i64 x.kind) ∧ w'.cell? ⟨b2, o2 + k * 4 + 1, none⟩ = some (.int .i64 x.num) ∧ w'.cell? ⟨b2, o2 + k * 4 + 2, none⟩ = some (.string x.text) ∧ w'.cell? ⟨b2, o2 + k * 4 + 3, none⟩ = some (.slice ax lx cx)) (first | (go_keep; done) | (with_reducible exact ⟨set4_k26 n1 t3, set4_k26 n2 x0, set4_k26 n2 x1, set4_k26 n2 x2, set4_k26 n2 x3⟩))
      (first
        | (go_at_call 31; (with_reducible refine Calls.mono (HRs.out _ ?_) ?_); (first | exact hb2 | exact hb2.drew); rintro e w2 ⟨u2, rfl, rfl, hl2⟩; obtain ⟨a2, c2, rfl, _⟩ := LiesX.slice hl2; have HL2 : Hid (LiesX (fun n => X n ∧ n < w.heap.size) 17 w1 r (.slice a2 r.length c2)) := hl2; clear hl2)
        | (go_at_call 11; (with_reducible refine Calls.mono (HA.out _ _ ?_ ?_) ?_); (first | exact hb2 | exact hb2.drew); (first | exact HL2.out | exact HL2.out.keeps (Below.refl _ _).drew); rintro e w3 ⟨a3, c3, rfl, hl3, hb3⟩; have hg3 : Below w1.heap.size w1 w3 := (by first | exact hb3 | exact (Below.refl _ _).drew.trans hb3); clear hb3; have HL3 : Hid (LiesX (fun n => X n ∧ n < w.heap.size) 16 w3 (atR x r).items (.slice a3 (atR x r).items.length c3)) := hl3; clear hl3; have t3 := cell_keeps hg3 t3; have x0 := cell_keeps hg3 x0; have x1 := cell_keeps hg3 x1; have x2 := cell_keeps hg3 x2; have x3 := cell_keeps hg3 x3; have z0 := cell_keeps hg3 z0; have z1 := cell_keeps hg3 z1; have z2 := cell_keeps hg3 z2; have z3 := cell_keeps hg3 z3; have g0 := (hg3.frozen (p := ⟨w.heap.size + 1, 0, none⟩) hlz).trans g0; have g1 := (hg3.frozen (p := ⟨w.heap.size + 1, 1, none⟩) hlz).trans g1; have g2 := (hg3.frozen (p := ⟨w.heap.size + 1, 2, none⟩) hlz).trans g2; have g3 := (hg3.frozen (p := ⟨w.heap.size + 1, 3, none⟩) hlz).trans g3))
    have hb3 : Below w.heap.size w w3 := hb2.trans (hg3.mono hb2.size)
    generalize hY : atR x r = y at *
    have hn1 : ¬ (X (w.heap.size + 1) ∧ w.heap.size + 1 < w.heap.size) := by omega
    have HE : Hid (PP (.returned (.tuple #[.agg #[.int .i64 y.kind, .int .i64 y.num, .string y.text, .slice a3 y.items.length c3], .bool (atB x r)])) (w3.setCells (w.heap.size + 1) 0 (encP (y, .slice a3 y.items.length c3)))) := by
      show PP _ _
      rw [← HP.out]
      unfold AtPost
      rw [hY]
      exact ⟨a3, c3, rfl, LiesX.mono (fun _ h => h.1) (LiesX.set (g := w.heap.size + 1) hn1 HL3.out), below_put hb3 (by omega) _⟩
    have Hq : Hid (Bx (w3.setCells (w.heap.size + 1) 0 (encP (y, .slice a3 y.items.length c3))) (w.heap.size + 1) y (.slice a3 y.items.length c3)) := Bx.put (⟨z0, z1, z2, z3, g0, g1, g2, g3⟩ : Bx w3 (w.heap.size + 1) zeroT (.slice none 0 0)) (y, .slice a3 y.items.length c3)
    clear hY hn1 HP
    clear hb2 hb3 hg3 HL3 HL2 t3 x0 x1 x2 x3 HRs HA
    generalize atB x r = B at *
    generalize y.items.length = ly at *
    go_wp2_with fail
    refine bodyPost_ret (v := .tuple #[.agg #[.int .i64 y.kind, .int .i64 y.num, .string y.text, .slice a3 ly c3], .bool B]) ?_ rfl HE.out
    obtain ⟨q0, q1, q2, q3, _, _, _, _⟩ := Hq.out
    simp only [World.setCells, encP, Nat.zero_add, Nat.reduceAdd] at q0 q1 q2 q3
    simp [results, Tryz.results11, go_sem, q0, q1, q2, q3]
  · have hBf : plcB t s = false := by simpa using hB
    have hat : atT t (s :: r) = none := by
      conv => lhs; unfold atT
      rw [if_neg hB]
    have HP : Hid (∀ W, Below w.heap.size w W → AtPost X t (s :: r) w (.returned (.tuple #[.agg #[.int .i64 0, .int .i64 0, .string ⟨#[]⟩, .slice none 0 0], .bool false])) W) := fun W hW => by
      unfold AtPost atR atB
      rw [hat]
      exact ⟨none, 0, rfl, liesX_nil _ _ _ _ _, hW⟩
    generalize AtPost X t (s :: r) w = PP at *
    obtain ⟨I, hI⟩ : ∃ I, I = plcI t s := ⟨_, rfl⟩
    have hPP : ∀ W, PlPost t s W = fun e w' => e = .returned (.tuple #[.int .i64 I, .bool false]) ∧ Below W.heap.size W w' := fun W => by unfold PlPost; rw [hBf, hI]
    simp only [hPP] at HPl
    clear hp hls h hr hd ih hB hBf hI hat hPP hXb
    generalize t.items.length = lt at *
    generalize s.items.length = lz at *
    generalize r.length = R at *
    obtain ⟨t0, t1, t2, t3, _, _, _, _⟩ := HT.out
    go_enter Tryz.func11, Tryz.ntmps11
    go_upto_region 1 with fail
    rw [← HW0.out]
    clear HW0
    go_wp2_with fail
    go_region_held3 (fun w' => (w'.cell? ⟨w.heap.size, 0, none⟩ = some (.int .i64 t.kind) ∧ w'.cell? ⟨w.heap.size, 1, none⟩ = some (.int .i64 t.num) ∧ w'.cell? ⟨w.heap.size, 2, none⟩ = some (.string t.text) ∧ w'.cell? ⟨w.heap.size, 3, none⟩ = some (.slice a lt c)) ∧ (w'.cell? ⟨b, o, none⟩ = some (.int .i64 s.kind) ∧ w'.cell? ⟨b, o + 1, none⟩ = some (.int .i64 s.num) ∧ w'.cell? ⟨b, o + 2, none⟩ = some (.string s.text) ∧ w'.cell? ⟨b, o + 3, none⟩ = some (.slice ay lz cy))) (go_keep)
      (first | (go_at_call 30; (with_reducible refine Calls.mono (HPl.out _ ?_) ?_); (first | exact Below.refl _ _ | exact (Below.refl _ _).drew); rintro e w1 ⟨rfl, hb1⟩; have hb1 : Below W0.heap.size W0 w1 := (by first | exact hb1 | exact (Below.refl _ _).drew.trans hb1); have p0 := cell_keeps hb1 p0; have p1 := cell_keeps hb1 p1; have p2 := cell_keeps hb1 p2; have p3 := cell_keeps hb1 p3; have t0 := cell_keeps hb1 t0; have t1 := cell_keeps hb1 t1; have t2 := cell_keeps hb1 t2; have t3 := cell_keeps hb1 t3))
    have hb2 : Below w.heap.size w w1 := hb0.trans (hb1.mono hb0.size)
    have HR1 : Hid (Bx w1 (w.heap.size + 1) zeroT (.slice none 0 0)) := HR.out.keeps hb1
    have HE : Hid (PP (.returned (.tuple #[.agg #[.int .i64 0, .int .i64 0, .string ⟨#[]⟩, .slice none 0 0], .bool false])) (w1.setCells (w.heap.size + 1) 0 (encP (zeroT, .slice none 0 0)))) := HP.out _ (below_put hb2 (by omega) _)
    have Hq : Hid (Bx (w1.setCells (w.heap.size + 1) 0 (encP (zeroT, .slice none 0 0))) (w.heap.size + 1) zeroT (.slice none 0 0)) := HR1.out.put (zeroT, .slice none 0 0)
    obtain ⟨z0, z1, z2, z3, g0, g1, g2, g3⟩ := HR1.out
    clear hb1 hb0 HPl HT HR p0 p1 p2 p3 t0 t1 t2 HR1 hb2 HP
    go_wp2_with fail
    refine bodyPost_ret (v := .tuple #[.agg #[.int .i64 0, .int .i64 0, .string ⟨#[]⟩, .slice none 0 0], .bool false]) ?_ rfl HE.out
    obtain ⟨q0, q1, q2, q3, _, _, _, _⟩ := Hq.out
    simp only [World.setCells, encP, Nat.zero_add, Nat.reduceAdd] at q0 q1 q2 q3
    simp [results, Tryz.results11, go_sem, q0, q1, q2, q3]

theorem at_any : ∀ (p : List VT) (X : Nat → Prop) (t : VT) (a : Option Addr) (c : Nat) (pv : Value) (w : World), LiesX X 16 w t.items (.slice a t.items.length c) → rightV 16 t = true → LiesX X 17 w p pv → p.length ≤ 16 → Calls Tryz.prog 11 #[.agg #[.int .i64 t.kind, .int .i64 t.num, .string t.text, .slice a t.items.length c], pv] w (AtPost X t p w) := by
  intro p
  induction p with
  | nil =>
    intro X t a c pv w h hr hp _
    obtain ⟨pa, pc, rfl, _⟩ := LiesX.slice hp
    exact at_nil X t a pa c pc w h
  | cons s r ih =>
    intro X t a c pv w h hr hp hn
    exact at_cons s r (fun X t a c pv w h1 h2 h3 h4 => ih X t a c pv w h1 h2 h3 h4) X t a c pv w h hr hp (by simp at hn; omega)

end Go.Proofs.YtofceccicmlmoaaGreat

