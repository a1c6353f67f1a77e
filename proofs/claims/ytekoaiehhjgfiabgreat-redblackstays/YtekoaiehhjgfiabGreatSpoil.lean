/-
  The contract of the statements' own Spoil: it writes only where the value's own lists lie.
-/
import Derived.Test.YtekoaiehhjgfiabGreatClo
import Derived.Test.YtekoaiehhjgfiabGreatLiesX
import Derived.Test.YtekoaiehhjgfiabGreatRowQ
import Derived.Deep.RegionHeld3
import Derived.Deep.Heap
namespace Go.Proofs.YtekoaiehhjgfiabGreat
open Go.RowKit

/-- Lists of values, all in blocks that X holds of, each from its block's beginning on, none of them frozen. -/
def Sp (X : Nat → Prop) : Nat → World → Value → Prop
  | 0, _, v => ∃ a c, v = .slice a 0 c
  | d + 1, w, v => ∃ a n c, v = .slice a n c ∧ (n ≤ c ∧ n ≤ 9223372036854775807) ∧ (n ≠ 0 → ∃ b, a = some ⟨b, 0, none⟩ ∧ X b ∧ ∀ i, i < n → ∃ k m s u,
      w.cell? ⟨b, i * 4, none⟩ = some (.int .i64 k) ∧ w.cell? ⟨b, i * 4 + 1, none⟩ = some (.int .i64 m) ∧ w.cell? ⟨b, i * 4 + 2, none⟩ = some (.string s) ∧ w.cell? ⟨b, i * 4 + 3, none⟩ = some u ∧
      (∀ q, q < 4 → w.frozen? ⟨b, i * 4 + q, none⟩ = false) ∧ Sp X d w u)

theorem Sp.slice {X : Nat → Prop} {d : Nat} {w : World} {v : Value} (h : Sp X d w v) : ∃ a n c, v = .slice a n c := by
  cases d with
  | zero => obtain ⟨a, c, h⟩ := h; exact ⟨a, 0, c, h⟩
  | succ d => obtain ⟨a, n, c, h, _⟩ := h; exact ⟨a, n, c, h⟩

theorem Sp.addr {X : Nat → Prop} {d : Nat} {w : World} {a : Option Addr} {n c : Nat} (h : Sp X (d + 1) w (.slice a n c)) (hn : n ≠ 0) : ∃ b, a = some ⟨b, 0, none⟩ := by
  obtain ⟨a', n', c', he, _, hr⟩ := h
  injection he with e1 e2 e3
  subst e1 e2
  obtain ⟨b, ha, _⟩ := hr hn
  exact ⟨b, ha⟩

theorem Sp.row {X : Nat → Prop} {d : Nat} {w : World} {b n c : Nat} (h : Sp X (d + 1) w (.slice (some ⟨b, 0, none⟩) n c)) (j : Nat) (hj : j < n) : X b ∧ ∃ k m s a' n' c',
      w.cell? ⟨b, j * 4, none⟩ = some (.int .i64 k) ∧ w.cell? ⟨b, j * 4 + 1, none⟩ = some (.int .i64 m) ∧ w.cell? ⟨b, j * 4 + 2, none⟩ = some (.string s) ∧ w.cell? ⟨b, j * 4 + 3, none⟩ = some (.slice a' n' c') ∧
      (w.frozen? ⟨b, j * 4, none⟩ = false ∧ w.frozen? ⟨b, j * 4 + 1, none⟩ = false ∧ w.frozen? ⟨b, j * 4 + 2, none⟩ = false ∧ w.frozen? ⟨b, j * 4 + 3, none⟩ = false) ∧ Sp X d w (.slice a' n' c') := by
  obtain ⟨a', n', c', he, _, hr⟩ := h
  injection he with e1 e2 e3
  subst e1 e2
  obtain ⟨b', ha, h1, hall⟩ := hr (by omega)
  injection ha with ha
  injection ha with ha
  subst ha
  obtain ⟨k, m, s, u, c0, c1, c2, c3, hf, hu⟩ := hall j hj
  obtain ⟨a2, n2, c2', rfl⟩ := hu.slice
  exact ⟨h1, k, m, s, a2, n2, c2', c0, c1, c2, c3, ⟨by have := hf 0 (by omega); rwa [Nat.add_zero] at this, hf 1 (by omega), hf 2 (by omega), hf 3 (by omega)⟩, hu⟩

theorem sp_nil (X : Nat → Prop) (d : Nat) (w : World) : Sp X d w (.slice none 0 0) := by
  cases d with
  | zero => exact ⟨none, 0, rfl⟩
  | succ d => exact ⟨none, 0, 0, rfl, by simp, fun h => absurd rfl h⟩

theorem Sp.keeps {X : Nat → Prop} {w w' : World} (hb : Below w.heap.size w w') : ∀ (d : Nat) (v : Value), Sp X d w v → Sp X d w' v := by
  intro d
  induction d with
  | zero => intro v h; exact h
  | succ d ih =>
    intro v h
    obtain ⟨a, n, c, hv, hl, hr⟩ := h
    refine ⟨a, n, c, hv, hl, fun hne => ?_⟩
    obtain ⟨b, ha, h1, hall⟩ := hr hne
    refine ⟨b, ha, h1, fun i hi => ?_⟩
    obtain ⟨k, m, s, u, c0, c1, c2, c3, hf, hu⟩ := hall i hi
    exact ⟨k, m, s, u, cell_keeps hb c0, cell_keeps hb c1, cell_keeps hb c2, cell_keeps hb c3, fun q hq => (hb.frozen (p := ⟨b, i * 4 + q, none⟩) (show b < w.heap.size from cell_lt c0)).trans (hf q hq), ih u hu⟩

/-- A whole value written over another one, one with no items. -/
theorem Sp.put {X : Nat → Prop} {w : World} (g j : Nat) (x : VT) : ∀ (d : Nat) (v : Value), Sp X d w v → Sp X d (w.setCells g (j * 4) (encP (x, .slice none 0 0))) v := by
  intro d
  induction d with
  | zero => intro v h; exact h
  | succ d ih =>
    intro v h
    obtain ⟨a, n, c, hv, hl, hr⟩ := h
    refine ⟨a, n, c, hv, hl, fun hne => ?_⟩
    obtain ⟨b, ha, h1, hall⟩ := hr hne
    refine ⟨b, ha, h1, fun i hi => ?_⟩
    obtain ⟨k, m, s, u, c0, c1, c2, c3, hf, hu⟩ := hall i hi
    have hfz : ∀ q, q < 4 → (w.setCells g (j * 4) (encP (x, .slice none 0 0))).frozen? ⟨b, i * 4 + q, none⟩ = false := fun q hq => by rw [World.frozen?_setCells]; exact hf q hq
    by_cases he : b = g ∧ i = j
    · obtain ⟨rfl, rfl⟩ := he
      have hin := World.cell?_setCells_in b (encP (x, .slice none 0 0)) (i * 4) w (fun q hq => by
        match q, hq with
        | 0, _ => show (w.cell? ⟨b, i * 4, none⟩).isSome = true; rw [c0]; rfl
        | 1, _ => rw [c1]; rfl
        | 2, _ => rw [c2]; rfl
        | 3, _ => rw [c3]; rfl)
      exact ⟨x.kind, x.num, x.text, .slice none 0 0, hin 0 (by simp [encP]), hin 1 (by simp [encP]), hin 2 (by simp [encP]), hin 3 (by simp [encP]), hfz, sp_nil _ _ _⟩
    · have ho : ∀ q, q < 4 → (w.setCells g (j * 4) (encP (x, .slice none 0 0))).cell? ⟨b, i * 4 + q, none⟩ = w.cell? ⟨b, i * 4 + q, none⟩ := fun q hq => World.cell?_setCells_out g _ (j * 4) w _ (fun e _ => by
        have e : b = g := e
        have : i ≠ j := fun h => he ⟨e, h⟩
        simp only [encP, List.length_cons, List.length_nil]
        omega)
      exact ⟨k, m, s, u, (ho 0 (by omega)).trans c0, (ho 1 (by omega)).trans c1, (ho 2 (by omega)).trans c2, (ho 3 (by omega)).trans c3, hfz, ih u hu⟩

/-- What is spoilt, and what is not. -/
structure Spt (base : Nat) (X : Nat → Prop) (w w' : World) : Prop where
  below : Below base w w'
  far : ∀ k, k < w.heap.size → ¬ X k → w'.heap[k]? = w.heap[k]?
  keeps : ∀ d v, Sp X d w v → Sp X d w' v

theorem Spt.trans {base : Nat} {X : Nat → Prop} {a b c : World} (h : Spt base X a b) (k : Spt base X b c) : Spt base X a c :=
  ⟨h.below.trans k.below, fun i hi ht => (k.far i (Nat.lt_of_lt_of_le hi h.below.size) ht).trans (h.far i hi ht), fun d v hv => k.keeps d v (h.keeps d v hv)⟩

theorem Spt.of_below {base : Nat} {X : Nat → Prop} {w w' : World} (hb : Below w.heap.size w w') (h : base ≤ w.heap.size) : Spt base X w w' :=
  ⟨hb.mono h, fun k hk _ => hb.block k hk, Sp.keeps hb⟩

theorem Spt.put {base : Nat} {X : Nat → Prop} {w0 w : World} (h : Spt base X w0 w) (g j : Nat) (h1 : base ≤ g) (h2 : X g) (x : VT) : Spt base X w0 (w.setCells g (j * 4) (encP (x, .slice none 0 0))) := by
  refine ⟨below_setCellsB g base h1 _ _ _ _ h.below, fun k hk ht => ?_, fun d v hv => Sp.put g j x d v (h.keeps d v hv)⟩
  have hne : k ≠ g := fun e => ht (by rw [e]; exact h2)
  refine Eq.trans ?_ (h.far k hk ht)
  simp only [encP, World.setCells]
  rw [Go.Deep.blk_setCell_other _ _ _ _ (by simpa using hne), Go.Deep.blk_setCell_other _ _ _ _ (by simpa using hne), Go.Deep.blk_setCell_other _ _ _ _ (by simpa using hne), Go.Deep.blk_setCell_other _ _ _ _ (by simpa using hne)]

theorem Spt.cell {base : Nat} {X : Nat → Prop} {w w' : World} (h : Spt base X w w') {a : Addr} {v : Value} (ht : ¬ X a.block) (hv : w.cell? a = some v) : w'.cell? a = some v :=
  (World.cell?_of_block (h.far a.block (cell_lt hv) ht)).trans hv

/-- What lies in new memory may be spoilt. -/
theorem LiesB.sp {base : Nat} {X : Nat → Prop} {w : World} (hX : ∀ b, base ≤ b → b < w.heap.size → X b) : ∀ (d : Nat) (l : List VT) (v : Value), LiesB base d w l v → Sp X d w v := by
  intro d
  induction d with
  | zero => intro l v h; exact h.2
  | succ d ih =>
    intro l v h
    obtain ⟨a, c, hv, hl, hr⟩ := h
    refine ⟨a, l.length, c, hv, hl, fun hne => ?_⟩
    obtain ⟨b, o, ha, hb, ⟨ho, hfz⟩, hall⟩ := hr (fun e => hne (by rw [e]; rfl))
    subst ho
    have hlt : b < w.heap.size := cell_lt (hall 0 (by omega)).choose_spec.1
    refine ⟨b, ha, hX b hb hlt, fun i hi => ?_⟩
    obtain ⟨u, h0, h1, h2, h3, h4, _⟩ := hall i hi
    simp only [Nat.zero_add] at h0 h1 h2 h3
    exact ⟨_, _, _, u, h0, h1, h2, h3, fun q hq => hfz _ (by omega), ih _ u h4⟩

theorem ptext_any (s : ByteArray) (w : World) : Calls Tryz.prog 42 #[.string s] w fun e w' => e = .returned (.agg #[.int .i64 3, .int .i64 0, .string s, .slice none 0 0]) ∧ Grew w w' := by
  go_enter Tryz.func42, Tryz.ntmps42
  go_wp2_with fail
  exact bodyPost_ret (v := .agg #[.int .i64 3, .int .i64 0, .string s, .slice none 0 0]) (by simp [results, Tryz.results42, go_sem]) rfl ⟨rfl, (Grew.refl _).alloc _⟩

theorem set4_keepO {W : World} {n o : Nat} {v0 v1 v2 v3 : Value} {a : Addr} {v : Value} (hn : a.block ≠ n) (h : W.cell? a = some v) : ((((W.setCell ⟨n, o, none⟩ v0).setCell ⟨n, o + 1, none⟩ v1).setCell ⟨n, o + 2, none⟩ v2).setCell ⟨n, o + 3, none⟩ v3).cell? a = some v :=
  cell_other (g := n) (o := o) (vs := [v0, v1, v2, v3]) hn h

/-- The text that is written over. -/
def spoiltT : VT := ⟨3, 0, ⟨#[115, 112, 111, 105, 108, 116]⟩, []⟩

set_option maxRecDepth 100000 in
set_option maxHeartbeats 8000000 in
theorem spoil_core (base top : Nat) (X : Nat → Prop) (hX : ∀ b, X b → base ≤ b ∧ b < top) (d : Nat) (k m : Int) (s : ByteArray) (v : Value) (w : World) (hbase : base ≤ top) (htop : top ≤ w.heap.size) (hv : Sp X (d + 1) w v)
    (hf : Hid (∀ a n c, v = .slice a n c → n ≠ 0 → ∀ (k m : Int) (s : ByteArray) (v : Value) (W : World), top ≤ W.heap.size → Sp X d W v → Calls Tryz.prog 21 #[.agg #[.int .i64 k, .int .i64 m, .string s, v]] W fun e W' => e = .returned (.tuple #[]) ∧ Spt base X W W')) :
    Calls Tryz.prog 21 #[.agg #[.int .i64 k, .int .i64 m, .string s, v]] w fun e w' => e = .returned (.tuple #[]) ∧ Spt base X w w' := by
  obtain ⟨a, n, c, rfl, hl, hr⟩ := id hv
  have HV : Hid (Sp X (d + 1) w (.slice a n c)) := hv
  have HXX : Hid (∀ b, X b → base ≤ b ∧ b < top) := hX
  clear hv hr hX
  have HS0 : Hid (Spt base X w (w.alloc (.cells #[.int .i64 k, .int .i64 m, .string s, .slice a n c] 43))) := Spt.of_below ((Grew.refl w).alloc _).below (by omega)
  have hx0 : (w.alloc (.cells #[.int .i64 k, .int .i64 m, .string s, .slice a n c] 43)).cell? ⟨w.heap.size, 3, none⟩ = some (.slice a n c) := by simp
  have Hx0 : Hid _ := hx0
  clear hx0
  go_enter Tryz.func21, Tryz.ntmps21
  go_wp2_with fail
  go_loopg [6] n (fun z i wr => ∃ (j : Nat), i = .int .i64 (j : Int) ∧ j ≤ n ∧ z = n - j ∧ Hid (Spt base X w wr) ∧ Hid (wr.cell? ⟨w.heap.size, 3, none⟩ = some (.slice a n c)))
  case atStart => exact ⟨0, rfl, by omega, by omega, HS0, Hx0⟩
  case round =>
    obtain ⟨j, rfl, hj, hk, HM, HX⟩ := hrel
    have Hk : Hid _ := hk
    clear hk HS0 Hx0
    by_cases hlt : j < n
    · obtain ⟨b, rfl⟩ := Sp.addr HV.out (by omega)
      obtain ⟨hxb, k1, m1, s1, au, nu, cu, c0, c1, c2, c3, _, hu1⟩ := Sp.row (HM.out.keeps _ _ HV.out) j hlt
      obtain ⟨hb1, hb2⟩ := HXX.out b hxb
      have Hxb : Hid (X b) := hxb
      clear hxb
      have HU : Hid (Sp X d wr (.slice au nu cu)) := hu1
      clear hu1
      have x3 := HX.out
      have hsz : w.heap.size < wr.heap.size := cell_lt x3
      have hji : (j : Int) < (n : Nat) := by omega
      go_wp2_with fail
      refine (hf.out _ _ _ rfl (by omega) k1 m1 s1 (.slice au nu cu) _ (by omega) HU.out).mono ?_
      rintro e w1 ⟨rfl, hs1⟩
      have HS1 : Hid (Spt base X w w1) := HM.out.trans hs1
      have y3 : w1.cell? ⟨w.heap.size, 3, none⟩ = some (.slice (some ⟨b, 0, none⟩) n c) := hs1.cell (fun h => by have := HXX.out _ h; simp at this; omega) x3
      clear hs1 x3 c0 c1 c2 c3 HU HX HM
      obtain ⟨_, k2, m2, s2, a2, n2, c2', c0, c1, c2, c3, ⟨f0, f1, f2, f3⟩, _⟩ := Sp.row (HS1.out.keeps _ _ HV.out) j hlt
      have hbl : b < w1.heap.size := cell_lt c0
      have hnb : ¬ (w.heap.size = b) := by omega
      go_wp2_with fail
      go_region_held3 (fun w' => w'.cell? ⟨w.heap.size, 3, none⟩ = some (.slice (some ⟨b, 0, none⟩) n c)) (first | go_keep | exact set4_keepO (by simp; omega) y3)
        (first
          | (go_at_call 42; refine (ptext_any _ _).mono ?_; rintro e w2 ⟨rfl, hg⟩; have hb2' : Below w1.heap.size w1 w2 := (Below.refl _ _).drew.trans hg.below; clear hg; have f0 := (hb2'.frozen (p := ⟨b, j * 4, none⟩) hbl).trans f0; have f1 := (hb2'.frozen (p := ⟨b, j * 4 + 1, none⟩) hbl).trans f1; have f2 := (hb2'.frozen (p := ⟨b, j * 4 + 2, none⟩) hbl).trans f2; have f3 := (hb2'.frozen (p := ⟨b, j * 4 + 3, none⟩) hbl).trans f3; have c0 := cell_keeps hb2' c0; have c1 := cell_keeps hb2' c1; have c2 := cell_keeps hb2' c2; have c3 := cell_keeps hb2' c3; have y3 := cell_keeps hb2' y3))
      have HN : Hid (Spt base X w (w2.setCells b (j * 4) (encP (spoiltT, .slice none 0 0)))) := (HS1.out.trans (Spt.of_below hb2' (by omega))).put b j hb1 Hxb.out spoiltT
      have HY : Hid ((w2.setCells b (j * 4) (encP (spoiltT, .slice none 0 0))).cell? ⟨w.heap.size, 3, none⟩ = some (.slice (some ⟨b, 0, none⟩) n c)) := cell_other (by simpa using hnb) y3
      clear c0 c1 c2 c3 f0 f1 f2 f3 y3
      go_wp2_with fail
      go_roundg (n - (j + 1))
      case measure => have := Hk.out; omega
      case rel => exact ⟨j + 1, by go_num, by omega, rfl, HN, HY⟩
    · go_wp2_with fail
      exact bodyPost_end (v := .tuple #[]) (by simp [results, Tryz.results21, go_sem]) rfl ⟨rfl, HM.out⟩

theorem spoil_any (base top : Nat) (X : Nat → Prop) (hX : ∀ b, X b → base ≤ b ∧ b < top) (hbase : base ≤ top) : ∀ (d : Nat) (k m : Int) (s : ByteArray) (v : Value) (w : World), top ≤ w.heap.size → Sp X d w v →
    Calls Tryz.prog 21 #[.agg #[.int .i64 k, .int .i64 m, .string s, v]] w fun e w' => e = .returned (.tuple #[]) ∧ Spt base X w w' := by
  intro d
  induction d with
  | zero =>
    intro k m s v w ht hv
    obtain ⟨a, c, rfl⟩ := hv
    have h0 : Sp X (0 + 1) w (.slice a 0 c) := ⟨a, 0, c, rfl, by simp, fun h => absurd rfl h⟩
    exact spoil_core base top X hX 0 k m s _ w hbase ht h0 (fun a' n' c' he hn => by injection he with _ e2 _; exact absurd e2.symm hn)
  | succ d ih => intro k m s v w ht hv; exact spoil_core base top X hX d k m s v w hbase ht hv (fun _ _ _ _ _ k m s v W h1 h2 => ih k m s v W h1 h2)

end Go.Proofs.YtekoaiehhjgfiabGreat

