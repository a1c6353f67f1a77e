/-
  The contracts of slices.MinFunc at members, Least and Sorted.
-/
import Derived.Test.YtacnfmamjbmhcabGreatAgainP
import Derived.Test.YtacnfmamjbmhcabGreatUniq
namespace Go.Proofs.YtacnfmamjbmhcabGreat
open Go.RowKit Go.Shelf

/-- The first by a comparison. -/
def leastF {α : Type} (g : α → α → Int) : α → List α → α
  | m, [] => m
  | m, y :: ys => leastF g (if g y m < 0 then y else m) ys

theorem leastF_map {α β : Type} (f : α → β) (g : α → α → Int) (g' : β → β → Int) : ∀ (l : List α) (m : α), (∀ x ∈ m :: l, ∀ y ∈ m :: l, g x y = g' (f x) (f y)) → f (leastF g m l) = leastF g' (f m) (l.map f) := by
  intro l
  induction l with
  | nil => intro m _; rfl
  | cons y l ih =>
    intro m h
    have e := h y (by simp) m (by simp)
    have sub : ∀ a ∈ m :: l, a ∈ m :: y :: l := fun a ha => by
      rcases List.mem_cons.1 ha with k | k
      · rw [k]; exact List.mem_cons_self
      · exact List.mem_cons_of_mem _ (List.mem_cons_of_mem _ k)
    show f (leastF g (if g y m < 0 then y else m) l) = leastF g' (if g' (f y) (f m) < 0 then f y else f m) (l.map f)
    rw [← e]
    by_cases hz : g y m < 0
    · rw [if_pos hz, if_pos hz]
      exact ih y (fun a ha b hb => h a (List.mem_cons_of_mem _ ha) b (List.mem_cons_of_mem _ hb))
    · rw [if_neg hz, if_neg hz]
      exact ih m (fun a ha b hb => h a (sub a ha) b (sub b hb))

theorem leastF_mem {α : Type} (g : α → α → Int) : ∀ (l : List α) (m : α), leastF g m l ∈ m :: l := by
  intro l
  induction l with
  | nil => intro m; exact List.mem_cons_self
  | cons y l ih =>
    intro m
    have := ih (if g y m < 0 then y else m)
    show leastF g (if g y m < 0 then y else m) l ∈ m :: y :: l
    rcases List.mem_cons.1 this with h | h
    · rw [h]; split <;> simp
    · simp [h]

theorem box_put {W : World} {n : Nat} (h : Five W n) (p : MB) : BoxM (W.setCells n 0 (encM p)) n p.t p.u p.m ∧ Five (W.setCells n 0 (encM p)) n := by
  have hp := h.put p
  have q0 := hp 0 (by simp [encM]); have q1 := hp 1 (by simp [encM]); have q2 := hp 2 (by simp [encM]); have q3 := hp 3 (by simp [encM]); have q4 := hp 4 (by simp [encM])
  simp only [Nat.zero_add] at q0 q1 q2 q3 q4
  refine ⟨⟨q0, q1, q2, q3, q4⟩, fun k hk => ?_, fun k hk => by rw [World.frozen?_setCells]; exact h.soft k hk⟩
  have := hp k (by simpa [encM] using hk)
  rw [Nat.zero_add] at this
  rw [this]; rfl

theorem Five.other {W : World} {n g : Nat} (h : Five W n) (hg : n ≠ g) (vs : List Value) : Five (W.setCells g 0 vs) n :=
  ⟨fun k hk => by
    obtain ⟨v, hv⟩ := Option.isSome_iff_exists.1 (h.there k hk)
    rw [cell_other (show (⟨n, k, none⟩ : Addr).block ≠ g from hg) hv]; rfl, fun k hk => by rw [World.frozen?_setCells]; exact h.soft k hk⟩

/-- What stands before a round of MinFunc. -/
structure Lst (w : World) (g : MB → MB → Int) (R : MB) (ms : List MB) (wr : World) (k : Nat) (cur : MB) : Prop where
  eq : leastF g cur (ms.drop k) = R
  good : GoodM w cur
  box : BoxM wr (w.heap.size + 1) cur.t cur.u cur.m
  five : Five wr (w.heap.size + 1)
  res : Five wr w.heap.size
  below : Below w.heap.size w wr

set_option maxRecDepth 100000 in
set_option maxHeartbeats 8000000 in
theorem minM_core (f : Nat) (eg : ∀ args w, (callFunc f args).run Tryz.prog w = .ok (.enter f args) w) (g : MB → MB → Int) (x : MB) (xs : List MB) (v : Value) (w : World) (hv : SlM w (x :: xs) v) (hlen : (x :: xs).length ≤ 65536)
    (hc : Hid (∀ (p r : MB) (W : World), GoodM W p → GoodM W r → Calls Tryz.prog f #[.agg #[.int .i64 p.t.kind, .int .i64 p.t.num, .string p.t.text, p.u, .int .u64 p.m], .agg #[.int .i64 r.t.kind, .int .i64 r.t.num, .string r.t.text, r.u, .int .u64 r.m]] W fun e W' => e = .returned (.int .i64 (g p r)) ∧ Grew W W')) :
    Calls Tryz.prog 27 #[v, fv f] w fun e w' => ∃ R : MB, R = leastF g x xs ∧ e = .returned (.agg #[.int .i64 R.t.kind, .int .i64 R.t.num, .string R.t.text, R.u, .int .u64 R.m]) ∧ GoodM w R ∧ Below w.heap.size w w' := by
  obtain ⟨b, o, c, rfl, _, hrow, hgd⟩ := hv
  have HG : Hid (∀ p ∈ x :: xs, GoodM w p) := hgd
  have Hr : Hid (RowM w b o (x :: xs)) := hrow
  have hx := hrow 0 (by simp)
  simp only [Nat.zero_mul, Nat.add_zero, List.getElem_cons_zero] at hx
  obtain ⟨p0, p1, p2, p3, p4⟩ := hx
  have gx := hgd x List.mem_cons_self
  clear hrow hgd
  have HRg : Hid (GoodM w (leastF g x xs)) := HG.out _ (leastF_mem g xs x)
  generalize hR : leastF g x xs = R at *
  have HR0 : Hid (leastF g x ((x :: xs).drop 1) = R) := hR
  generalize hms : x :: xs = ms at *
  obtain ⟨t, u, m⟩ := x
  obtain ⟨ax, lx, cx, hu⟩ := gx.slice
  simp only at hu p0 p1 p2 p3 p4
  subst hu
  have hl0 : 0 < ms.length := by rw [← hms]; simp
  have HM0 : Hid (Lst w g R ms ((w.alloc (.cells #[.int .i64 0, .int .i64 0, .string ⟨#[]⟩, .slice none 0 0, .int .u64 0] 61)).alloc (.cells #[.int .i64 t.kind, .int .i64 t.num, .string t.text, .slice ax lx cx, .int .u64 m] 61)) 1 ⟨t, .slice ax lx cx, m⟩) := by
    refine ⟨HR0.out, gx, ?_, ?_, (five_alloc w _ _ _ _ _ _).keeps ((Grew.refl _).alloc _).below, (Grew.two w _ _).below⟩
    · have := boxM_alloc (w.alloc (.cells #[.int .i64 0, .int .i64 0, .string ⟨#[]⟩, .slice none 0 0, .int .u64 0] 61)) t (.slice ax lx cx) m 61
      rwa [World.size_alloc] at this
    · have := five_alloc (w.alloc (.cells #[.int .i64 0, .int .i64 0, .string ⟨#[]⟩, .slice none 0 0, .int .u64 0] 61)) (.int .i64 t.kind) (.int .i64 t.num) (.string t.text) (.slice ax lx cx) (.int .u64 m) 61
      rwa [World.size_alloc] at this
  have hlb : b < w.heap.size := cell_lt p0
  have h1i : ¬ (ms.length : Int) < 1 := by omega
  have h0i : (0 : Int) < (ms.length : Nat) := by omega
  have HRR : Hid (∃ R' : MB, R' = R) := ⟨R, rfl⟩
  clear hR HR0 hms gx HRR
  go_enter Tryz.func27, Tryz.ntmps27
  go_wp2_with fail
  go_loopg [6] ms.length (fun z i wr => ∃ (k : Nat) (cur : MB), i = .int .i64 (k : Int) ∧ z = ms.length + 1 - k ∧ 1 ≤ k ∧ k ≤ ms.length ∧ Hid (Lst w g R ms wr k cur))
  case atStart => exact ⟨1, _, rfl, by omega, by omega, by omega, HM0⟩
  case round =>
    clear p0 p1 p2 p3 p4 HM0
    obtain ⟨k, cur, rfl, hk, hk1, hk2, HM⟩ := hrel
    have Hk : Hid _ := hk
    clear hk
    have hbw := HM.out.below
    have hwl := hbw.size
    by_cases hlt : k < ms.length
    · have hki : (k : Int) < (ms.length : Nat) := by omega
      obtain ⟨p0, p1, p2, p3, p4⟩ := Hr.out k hlt
      have gp := HG.out ms[k] (List.getElem_mem hlt)
      have HE : Hid (leastF g (if g ms[k] cur < 0 then ms[k] else cur) (ms.drop (k + 1)) = R) := by
        have := HM.out.eq
        rw [List.drop_eq_getElem_cons hlt] at this
        exact this
      generalize ms[k] = y at *
      obtain ⟨s, u2, n⟩ := y
      obtain ⟨ay, ly, cy, hu2⟩ := gp.slice
      obtain ⟨ct, cu, cm⟩ := cur
      obtain ⟨ac, lc, cc, hcu⟩ := HM.out.good.slice
      simp only at hu2 hcu p0 p1 p2 p3 p4
      subst hu2 hcu
      have HY : Hid (GoodM w ⟨s, .slice ay ly cy, n⟩) := gp
      clear gp
      have p0 := cell_keeps hbw p0; have p1 := cell_keeps hbw p1; have p2 := cell_keeps hbw p2; have p3 := cell_keeps hbw p3; have p4 := cell_keeps hbw p4
      obtain ⟨r0, r1, r2, r3, r4⟩ := HM.out.box
      go_wp2_with fail
      go_region_held3 (fun w' => (w'.cell? ⟨b, o + k * 5, none⟩ = some (.int .i64 s.kind) ∧ w'.cell? ⟨b, o + k * 5 + 1, none⟩ = some (.int .i64 s.num) ∧ w'.cell? ⟨b, o + k * 5 + 2, none⟩ = some (.string s.text) ∧ w'.cell? ⟨b, o + k * 5 + 3, none⟩ = some (.slice ay ly cy) ∧ w'.cell? ⟨b, o + k * 5 + 4, none⟩ = some (.int .u64 n)) ∧ (w'.cell? ⟨w.heap.size + 1, 0, none⟩ = some (.int .i64 ct.kind) ∧ w'.cell? ⟨w.heap.size + 1, 1, none⟩ = some (.int .i64 ct.num) ∧ w'.cell? ⟨w.heap.size + 1, 2, none⟩ = some (.string ct.text) ∧ w'.cell? ⟨w.heap.size + 1, 3, none⟩ = some (.slice ac lc cc) ∧ w'.cell? ⟨w.heap.size + 1, 4, none⟩ = some (.int .u64 cm))) (go_keep)
        (first | (go_at_fn f; refine (hc.out ⟨s, .slice ay ly cy, n⟩ ⟨ct, .slice ac lc cc, cm⟩ _ (HY.out.keeps hbw.drew) (HM.out.good.keeps hbw.drew)).mono ?_; rintro e w1 ⟨rfl, hg1⟩; have hb1' : Below wr.heap.size wr w1 := (Below.refl _ _).drew.trans hg1.below; have hb1 : Below w.heap.size w w1 := hbw.trans (hb1'.mono hwl); clear hg1; have p0 := cell_keeps hb1' p0; have p1 := cell_keeps hb1' p1; have p2 := cell_keeps hb1' p2; have p3 := cell_keeps hb1' p3; have p4 := cell_keeps hb1' p4; have r0 := cell_keeps hb1' r0; have r1 := cell_keeps hb1' r1; have r2 := cell_keeps hb1' r2; have r3 := cell_keeps hb1' r3; have r4 := cell_keeps hb1' r4))
      have HF1 : Hid (Five w1 (w.heap.size + 1) ∧ Five w1 w.heap.size ∧ BoxM w1 (w.heap.size + 1) ct (.slice ac lc cc) cm) := ⟨HM.out.five.keeps hb1', HM.out.res.keeps hb1', HM.out.box.keeps hb1'⟩
      have HCg : Hid (GoodM w ⟨ct, .slice ac lc cc, cm⟩) := HM.out.good
      clear hb1' HM hbw r0 r1 r2 r3 r4
      generalize hZ : g ⟨s, .slice ay ly cy, n⟩ ⟨ct, .slice ac lc cc, cm⟩ = Z at *
      clear hZ
      by_cases hz : Z < 0
      · obtain ⟨v0, s0⟩ := Option.isSome_iff_exists.1 (HF1.out.1.there 0 (by omega))
        obtain ⟨v1, s1⟩ := Option.isSome_iff_exists.1 (HF1.out.1.there 1 (by omega))
        obtain ⟨v2, s2⟩ := Option.isSome_iff_exists.1 (HF1.out.1.there 2 (by omega))
        obtain ⟨v3, s3⟩ := Option.isSome_iff_exists.1 (HF1.out.1.there 3 (by omega))
        obtain ⟨v4, s4⟩ := Option.isSome_iff_exists.1 (HF1.out.1.there 4 (by omega))
        have z0 := HF1.out.1.soft 0 (by omega)
        have z1 := HF1.out.1.soft 1 (by omega)
        have z2 := HF1.out.1.soft 2 (by omega)
        have z3 := HF1.out.1.soft 3 (by omega)
        have z4 := HF1.out.1.soft 4 (by omega)
        have HN : Hid (Lst w g R ms (w1.setCells (w.heap.size + 1) 0 (encM ⟨s, .slice ay ly cy, n⟩)) (k + 1) ⟨s, .slice ay ly cy, n⟩) :=
          ⟨by have := HE.out; rwa [if_pos hz] at this, HY.out, (box_put HF1.out.1 ⟨s, .slice ay ly cy, n⟩).1, (box_put HF1.out.1 ⟨s, .slice ay ly cy, n⟩).2, HF1.out.2.1.other (by omega) _, below_putM hb1 (by omega) 0 _⟩
        clear HE HF1
        go_wp2_with fail
        go_roundg (ms.length + 1 - (k + 1))
        case measure => have := Hk.out; omega
        case rel => exact ⟨k + 1, _, by go_num, rfl, by omega, by omega, HN⟩
      · have HN : Hid (Lst w g R ms w1 (k + 1) ⟨ct, .slice ac lc cc, cm⟩) := ⟨by have := HE.out; rwa [if_neg hz] at this, HCg.out, HF1.out.2.2, HF1.out.1, HF1.out.2.1, hb1⟩
        clear HE HF1
        go_wp2_with fail
        go_roundg (ms.length + 1 - (k + 1))
        case measure => have := Hk.out; omega
        case rel => exact ⟨k + 1, _, by go_num, rfl, by omega, by omega, HN⟩
    · have hki : ¬ (k : Int) < (ms.length : Nat) := by omega
      have hfin : cur = R := by
        have := HM.out.eq
        rwa [List.drop_eq_nil_of_le (by omega)] at this
      subst hfin
      obtain ⟨ct, cu, cm⟩ := cur
      obtain ⟨ac, lc, cc, hcu⟩ := HM.out.good.slice
      simp only at hcu
      subst hcu
      obtain ⟨r0, r1, r2, r3, r4⟩ := HM.out.box
      have hres := HM.out.res
      obtain ⟨v0, s0⟩ := Option.isSome_iff_exists.1 (hres.there 0 (by omega))
      obtain ⟨v1, s1⟩ := Option.isSome_iff_exists.1 (hres.there 1 (by omega))
      obtain ⟨v2, s2⟩ := Option.isSome_iff_exists.1 (hres.there 2 (by omega))
      obtain ⟨v3, s3⟩ := Option.isSome_iff_exists.1 (hres.there 3 (by omega))
      obtain ⟨v4, s4⟩ := Option.isSome_iff_exists.1 (hres.there 4 (by omega))
      have z0 := hres.soft 0 (by omega)
      have z1 := hres.soft 1 (by omega)
      have z2 := hres.soft 2 (by omega)
      have z3 := hres.soft 3 (by omega)
      have z4 := hres.soft 4 (by omega)
      have Hin : Hid _ := hres.put ⟨ct, .slice ac lc cc, cm⟩
      have Hbf : Hid _ := below_putM hbw (Nat.le_refl _) 0 ⟨ct, .slice ac lc cc, cm⟩
      have HCg : Hid (GoodM w ⟨ct, .slice ac lc cc, cm⟩) := HM.out.good
      clear hres HM
      go_wp2_with fail
      refine bodyPost_ret (v := .agg #[.int .i64 ct.kind, .int .i64 ct.num, .string ct.text, .slice ac lc cc, .int .u64 cm]) ?_ rfl ⟨rfl, HCg.out, Hbf.out⟩
      have q0 := Hin.out 0 (by simp [encM])
      have q1 := Hin.out 1 (by simp [encM])
      have q2 := Hin.out 2 (by simp [encM])
      have q3 := Hin.out 3 (by simp [encM])
      have q4 := Hin.out 4 (by simp [encM])
      simp only [encM, World.setCells, Nat.zero_add, Nat.reduceAdd, List.getElem_cons_zero, List.getElem_cons_succ] at q0 q1 q2 q3 q4
      simp [results, Tryz.results27, go_sem, q0, q1, q2, q3, q4]

theorem field_one (t : VT) (a : Option Addr) (l c : Nat) (m : Int) (W : World) : (Instr.field 61 (.agg #[.int .i64 t.kind, .int .i64 t.num, .string t.text, .slice a l c, .int .u64 m]) 0).run Tryz.prog W = .ok (.agg #[.int .i64 t.kind, .int .i64 t.num, .string t.text, .slice a l c]) W := by
  kernel_rfl

/-- The error of Least. -/
def leastE (d : Nat) (o : Int) (l : List VT) : Int := if lookE d o l ≠ 0 then lookE d o l else if l.length = 0 then 6 else 0

/-- What Least tells. -/
def leastT (q : Nat) : List VT → VT
  | [] => zeroT
  | x :: xs => leastF (ordV q) x xs

/-- A value and a number are told. -/
def LeastPost (s : VT) (r : Int) (W : World) (e : Ending) (W' : World) : Prop :=
  ∃ u, e = .returned (.tuple #[.agg #[.int .i64 s.kind, .int .i64 s.num, .string s.text, u], .int .i64 r]) ∧ Lies 16 W' s.items u ∧ Below W.heap.size W W'

set_option maxRecDepth 100000 in
set_option maxHeartbeats 2000000 in
theorem least6_any (d : Nat) (o : Int) (l : List VT) (u : Value) (w : World) (hu : Lies (d + 1) w l u) (s : VT) (hs : Hid (s = if leastE d o l = 0 then leastT o.toNat l else zeroT)) : Calls Tryz.prog 10 #[.int .i64 o, u] w (LeastPost s (leastE d o l) w) := by
  obtain ⟨a, c, rfl, _⟩ := Lies.slice hu
  have HU : Hid (Lies (d + 1) w l (.slice a l.length c)) := hu
  clear hu
  have H1 : Hid (lookE d o l ≠ 0 → leastE d o l = lookE d o l) := fun h => by unfold leastE; rw [if_pos h]
  have H2 : Hid (lookE d o l = 0 → l.length = 0 → leastE d o l = 6) := fun h k => by unfold leastE; rw [if_neg (fun c => c h), if_pos k]
  have H3 : Hid (lookE d o l = 0 → ¬ l.length = 0 → leastE d o l = 0) := fun h k => by unfold leastE; rw [if_neg (fun c => c h), if_neg k]
  generalize hM : leastE d o l = M at *
  clear hM
  have HBl : Hid (Bx (w.alloc (.cells #[.int .i64 0, .int .i64 0, .string ⟨#[]⟩, .slice none 0 0] 33)) w.heap.size zeroT (.slice none 0 0)) := bx_alloc w zeroT (.slice none 0 0)
  have hb0 : Below w.heap.size w (w.alloc (.cells #[.int .i64 0, .int .i64 0, .string ⟨#[]⟩, .slice none 0 0] 33)) := ((Grew.refl w).alloc _).below
  go_enter Tryz.func10, Tryz.ntmps10
  go_wp2_with fail
  refine (look_any d o l _ _ (Lies.keeps hb0 _ _ _ HU.out)).mono ?_
  rintro e w1 (⟨h0, rfl, hb⟩ | ⟨h0, q, rfl, hq, hll, _, va, ms, rfl, hsl, hmt, hmm, hb⟩)
  · have hM := H1.out h0
    have h0' : ¬ M = 0 := by rw [hM]; exact h0
    rw [← hM]
    have hse : s = zeroT := by rw [hs.out, if_neg h0']
    have hb1 : Below w.heap.size w w1 := hb0.trans (hb.mono hb0.size)
    have hb2 : Below w.heap.size w (w1.alloc (.cells #[.nilFunc, .nilFunc] 53)) := hb1.alloc hb1.size _
    have HB2 : Hid (Bx (w1.alloc (.cells #[.nilFunc, .nilFunc] 53)) w.heap.size zeroT (.slice none 0 0)) := (HBl.out.keeps hb).keeps ((Grew.refl _).alloc _).below
    have Hbx : Hid _ := HB2.out.put (zeroT, .slice none 0 0)
    have Hbf : Hid _ := below_put hb2 (Nat.le_refl _) (zeroT, .slice none 0 0)
    subst hse
    obtain ⟨y0, y1, y2, y3, z0, z1, z2, z3⟩ := HB2.out
    clear hM h0 H1 H2 H3 hs hb hb1 HBl hb0
    go_wp2_with fail
    refine bodyPost_ret (v := .tuple #[.agg #[.int .i64 0, .int .i64 0, .string ⟨#[]⟩, .slice none 0 0], .int .i64 M]) ?_ rfl ⟨_, rfl, Lies.atLeast (d := 0) ⟨rfl, none, 0, rfl⟩ 16 (by omega), Hbf.out⟩
    obtain ⟨q0, q1, q2, q3, _, _, _, _⟩ := Hbx.out
    simp only [encP, World.setCells, Nat.zero_add, Nat.reduceAdd] at q0 q1 q2 q3
    simp [results, Tryz.results10, go_sem, q0, q1, q2, q3]
  · have hlm : ms.length = l.length := by rw [← hmt]; simp
    have hb1 : Below w.heap.size w w1 := hb0.trans (hb.mono hb0.size)
    have hb2 : Below w.heap.size w (w1.alloc (.cells #[fv (mF q), fv (cF q)] 53)) := hb1.alloc hb1.size _
    have HB2 : Hid (Bx (w1.alloc (.cells #[fv (mF q), fv (cF q)] 53)) w.heap.size zeroT (.slice none 0 0)) := (HBl.out.keeps hb).keeps ((Grew.refl _).alloc _).below
    have HS : Hid (SlM (w1.alloc (.cells #[fv (mF q), fv (cF q)] 53)) ms va) := hsl.keeps ((Grew.refl _).alloc _).below
    clear hb HBl hb0 hb1 HU hsl
    cases ms with
    | nil =>
      have hl0 : l.length = 0 := by rw [← hlm]; rfl
      have hM := H2.out h0 hl0
      have hse : s = zeroT := by rw [hs.out, if_neg (by omega)]
      obtain ⟨bs, os, cs, rfl, _⟩ := HS.out
      have Hbx : Hid _ := HB2.out.put (zeroT, .slice none 0 0)
      have Hbf : Hid _ := below_put hb2 (Nat.le_refl _) (zeroT, .slice none 0 0)
      subst hse hM
      obtain ⟨y0, y1, y2, y3, z0, z1, z2, z3⟩ := HB2.out
      clear H1 H2 H3 h0 hs hlm hmt hmm hl0
      go_wp2_with fail
      refine bodyPost_ret (v := .tuple #[.agg #[.int .i64 0, .int .i64 0, .string ⟨#[]⟩, .slice none 0 0], .int .i64 6]) ?_ rfl ⟨_, rfl, Lies.atLeast (d := 0) ⟨rfl, none, 0, rfl⟩ 16 (by omega), Hbf.out⟩
      obtain ⟨q0, q1, q2, q3, _, _, _, _⟩ := Hbx.out
      simp only [encP, World.setCells, Nat.zero_add, Nat.reduceAdd] at q0 q1 q2 q3
      simp [results, Tryz.results10, go_sem, q0, q1, q2, q3]
    | cons x xs =>
      have hl0 : ¬ l.length = 0 := by rw [← hlm]; simp
      have hM := H3.out h0 hl0
      have HSe : Hid ((leastF (cmpMB q) x xs).t = s) := by
        show _ = _
        rw [hs.out, if_pos hM, ← hmt, leastF_map (·.t) (cmpMB q) (ordV q) xs x (fun p hp r hr => by unfold cmpMB ordV; rw [hmm p hp, hmm r hr])]
        simp [leastT]
      have hlen2 : (x :: xs).length ≤ 65536 := by rw [hlm]; exact hll
      have Hmn : Hid _ := fun W k1 => minM_core (cF q) (cF_enters q hq) (cmpMB q) x xs va W k1 hlen2 (cmpMB_any q hq)
      obtain ⟨bs, os, cs, rfl, _⟩ := HS.out
      have hne : ¬ (((x :: xs).length : Nat) : Int) = 0 := by rw [hlm]; omega
      generalize hnn : (x :: xs).length = N at *
      have HNN : Hid ((x :: xs).length = N) := hnn
      subst hM
      clear H1 H2 H3 h0 hs hlm hmt hmm hl0 hnn
      generalize mF q = f0 at *
      generalize cF q = f1 at *
      go_wp2_with fail
      refine (Hmn.out _ HS.out).mono ?_
      rintro e w2 ⟨R, hRe, rfl, hgR, hb⟩
      have HRe : Hid (R.t = s) := by show _ = _; rw [hRe]; exact HSe.out
      have hb3 : Below w.heap.size w w2 := hb2.trans (hb.mono hb2.size)
      have HgR : Hid (GoodM w2 R) := hgR.keeps hb
      have HB3 : Hid (Bx w2 w.heap.size zeroT (.slice none 0 0)) := HB2.out.keeps hb
      clear hb hRe hgR HSe HB2 HS Hmn hb2
      obtain ⟨t, ru, rm⟩ := R
      obtain ⟨ar, cr, hru, _⟩ := Lies.slice HgR.out.lies
      simp only at hru
      subst hru
      have hfld : ∀ W : World, (Instr.field 61 (.agg #[.int .i64 t.kind, .int .i64 t.num, .string t.text, .slice ar t.items.length cr, .int .u64 rm]) 0).run Tryz.prog W = .ok (.agg #[.int .i64 t.kind, .int .i64 t.num, .string t.text, .slice ar t.items.length cr]) W := fun W => field_one t ar _ cr rm W
      go_wp2_with fail
      clear hfld
      refine (copy_right t _ _ HgR.out.lies HgR.out.right).mono ?_
      rintro e w3 ⟨v3, rfl, hL3, hb⟩
      have hb4 : Below w.heap.size w w3 := hb3.trans (hb.mono hb3.size)
      have HB4 : Hid (Bx w3 w.heap.size zeroT (.slice none 0 0)) := HB3.out.keeps hb
      have hgt : w.heap.size < w2.heap.size := cell_lt HB3.out.c0
      obtain ⟨a3, c3, rfl, _⟩ := LiesB.slice hL3
      have Hbx : Hid _ := HB4.out.put (t, .slice a3 t.items.length c3)
      have Hbf : Hid _ := below_put hb4 (Nat.le_refl _) (t, .slice a3 t.items.length c3)
      have Hfin : Hid (Lies 16 (w3.setCells w.heap.size 0 (encP (t, .slice a3 t.items.length c3))) t.items (.slice a3 t.items.length c3)) := LiesB.lies _ _ _ (LiesB.stays (fun z u hz hu => ⟨by rw [World.cell?_setCells_out w.heap.size _ 0 w3 z (fun e _ => by omega)]; exact hu, World.frozen?_setCells ..⟩) _ _ _ hL3)
      obtain ⟨y0, y1, y2, y3, z0, z1, z2, z3⟩ := HB4.out
      have HRt : Hid (t = s) := HRe.out
      clear hb hL3 HB3 HB4 hb3 HgR
      go_wp2_with fail
      refine bodyPost_ret (v := .tuple #[.agg #[.int .i64 t.kind, .int .i64 t.num, .string t.text, .slice a3 t.items.length c3], .int .i64 0]) ?_ rfl (by rw [← HRt.out]; exact ⟨_, rfl, Hfin.out, Hbf.out⟩)
      obtain ⟨q0, q1, q2, q3, _, _, _, _⟩ := Hbx.out
      simp only [encP, World.setCells, Nat.zero_add, Nat.reduceAdd] at q0 q1 q2 q3
      simp [results, Tryz.results10, go_sem, q0, q1, q2, q3]

/-- What Sorted tells. -/
def sortedV (d : Nat) (o : Int) (l : List VT) : Bool := if lookE d o l = 0 then upB (ordV o.toNat) l else false

set_option maxHeartbeats 4000000 in
theorem sortedP_any (d : Nat) (o : Int) (l : List VT) (u : Value) (w : World) (hu : Lies (d + 1) w l u) : Calls Tryz.prog 8 #[.int .i64 o, u] w fun e w' => e = .returned (.tuple #[.bool (sortedV d o l), .int .i64 (lookE d o l)]) ∧ Below w.heap.size w w' := by
  obtain ⟨a, c, rfl, _⟩ := Lies.slice hu
  have HU : Hid (Lies (d + 1) w l (.slice a l.length c)) := hu
  clear hu
  have H1 : Hid (lookE d o l ≠ 0 → sortedV d o l = false) := fun h => by unfold sortedV; rw [if_neg h]
  have H2 : Hid (lookE d o l = 0 → sortedV d o l = upB (ordV o.toNat) l) := fun h => by unfold sortedV; rw [if_pos h]
  generalize sortedV d o l = B at *
  generalize hM : lookE d o l = M at *
  have HM : Hid (lookE d o l = M) := hM
  clear hM
  go_enter Tryz.func8, Tryz.ntmps8
  go_wp2_with fail
  refine (look_any d o l _ _ HU.out).mono ?_
  rintro e w1 (⟨h0, rfl, hb1⟩ | ⟨h0, q, rfl, hq, hll, _, va, ms, rfl, hsl, hmt, hmm, hb1⟩)
  · rw [HM.out] at h0 ⊢
    have hB := H1.out h0
    have h0' : ¬ M = 0 := h0
    subst hB
    clear h0 H1 H2
    go_wp2_with fail
    go_ret2
    exact ⟨rfl, hb1.alloc hb1.size _⟩
  · rw [HM.out] at h0
    have HB : Hid (B = upB (cmpMB q) ms) := by
      show _ = _
      rw [H2.out h0, upB_map (·.t) (cmpMB q) (ordV q) ms (fun p hp r hr => by unfold cmpMB ordV; rw [hmm p hp, hmm r hr]), hmt]
      simp
    have hlm : ms.length ≤ 65536 := by rw [← hmt] at hll; simpa using hll
    subst h0
    have hb2 : Below w.heap.size w (w1.alloc (.cells #[fv (mF q), fv (cF q)] 53)) := hb1.alloc hb1.size _
    have HS : Hid (SlM (w1.alloc (.cells #[fv (mF q), fv (cF q)] 53)) ms va) := hsl.keeps ((Grew.refl _).alloc _).below
    have Hup : Hid _ := fun W k1 => isUp_core (cF q) (cF_enters q hq) (cmpMB q) ms va W k1 hlm (cmpMB_any q hq)
    obtain ⟨bs, os, cs, rfl, _⟩ := HS.out
    clear H1 H2 hsl hmt hmm hll
    generalize mF q = f0 at *
    generalize cF q = f1 at *
    go_wp2_with fail
    refine (Hup.out _ HS.out).mono ?_
    rintro e w2 ⟨rfl, hb⟩
    have hb3 : Below w.heap.size w w2 := hb2.trans (hb.mono hb2.size)
    clear hb hb2 HS Hup
    rw [← HB.out]
    go_wp2_with fail
    go_ret2
    exact ⟨rfl, hb3⟩

end Go.Proofs.YtacnfmamjbmhcabGreat

