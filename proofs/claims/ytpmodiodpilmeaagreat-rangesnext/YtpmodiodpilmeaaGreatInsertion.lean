/-
  The contract of slices.insertionSortCmpFunc at pairs: what it leaves goes up, and is alike what was there.
-/
import Derived.Test.YtpmodiodpilmeaaGreatRotate
import Derived.Test.YtpmodiodpilmeaaGreatStable
import Derived.Deep.RegionHeld3
import Derived.BigQuiet
import Derived.Shelf.SlSortCmp.QuietGrown
import Derived.Shelf.RegionOpenPlain
namespace Go.Proofs.YtpmodiodpilmeaaGreat
open Go.RowKit

theorem RowQ.cells {w0 w : World} {g : Nat} {ps : List PP} (h : RowQ w0 g ps w) (i : Nat) (x : PP) (hx : ps[i]? = some x) :
    (w.cell? ⟨g, i * 8, none⟩ = some (.int .i64 x.1.1.kind) ∧ w.cell? ⟨g, i * 8 + 1, none⟩ = some (.int .i64 x.1.1.num) ∧ w.cell? ⟨g, i * 8 + 2, none⟩ = some (.string x.1.1.text) ∧ w.cell? ⟨g, i * 8 + 3, none⟩ = some x.1.2 ∧
    w.cell? ⟨g, i * 8 + 4, none⟩ = some (.int .i64 x.2.1.kind) ∧ w.cell? ⟨g, i * 8 + 5, none⟩ = some (.int .i64 x.2.1.num) ∧ w.cell? ⟨g, i * 8 + 6, none⟩ = some (.string x.2.1.text) ∧ w.cell? ⟨g, i * 8 + 7, none⟩ = some x.2.2) ∧
    (w.frozen? ⟨g, i * 8, none⟩ = false ∧ w.frozen? ⟨g, i * 8 + 1, none⟩ = false ∧ w.frozen? ⟨g, i * 8 + 2, none⟩ = false ∧ w.frozen? ⟨g, i * 8 + 3, none⟩ = false ∧
    w.frozen? ⟨g, i * 8 + 4, none⟩ = false ∧ w.frozen? ⟨g, i * 8 + 5, none⟩ = false ∧ w.frozen? ⟨g, i * 8 + 6, none⟩ = false ∧ w.frozen? ⟨g, i * 8 + 7, none⟩ = false) := by
  obtain ⟨hi, e⟩ := List.getElem?_eq_some_iff.1 hx
  have := h.at i hi
  rw [e] at this
  exact ⟨this, h.fzs i hi⟩

theorem RowQ.swp {w0 w : World} {g : Nat} {ps : List PP} (h : RowQ w0 g ps w) (hg : w0.heap.size ≤ g) (i j : Nat) (x y : PP) (hx : ps[i]? = some x) (hy : ps[j]? = some y) : RowQ w0 g (swp2 ps i j) ((w.setCells g (i * 8) (encQ y)).setCells g (j * 8) (encQ x)) := by
  obtain ⟨hi, e1⟩ := List.getElem?_eq_some_iff.1 hx
  obtain ⟨hj, e2⟩ := List.getElem?_eq_some_iff.1 hy
  have := h.swap hg i j hi hj
  rw [e1, e2] at this
  unfold swp2
  rw [dif_pos ⟨hi, hj⟩]
  exact this

theorem below_drewN (w : World) (n : Nat) : Below w.heap.size w (w.drewN n) := ⟨rfl, rfl, rfl, Nat.le_refl _, fun _ _ => rfl⟩

/-- What a comparison of pairs answers. -/
def CmpQ (f : Nat) (G : World → PP → Prop) (cf : PP → PP → Int) : Prop :=
  ∀ (p r : PP) (W : World), G W p → G W r → Calls Tryz.prog f #[.agg (encQ p).toArray, .agg (encQ r).toArray] W fun e W' => e = .returned (.int .i64 (cf p r)) ∧ Below W.heap.size W W'

/-- A pair whose lists lie in a world. -/
def GoodQ (d : Nat) (W : World) (p : PP) : Prop := Sound d W p.1 ∧ Sound d W p.2

theorem GoodQ.keeps {d : Nat} {W W' : World} {p : PP} (h : GoodQ d W p) (hb : Below W.heap.size W W') : GoodQ d W' p := ⟨h.1.keeps hb, h.2.keeps hb⟩

theorem GoodQ.slq {d : Nat} {W : World} {ps : List PP} (h : ∀ p ∈ ps, GoodQ d W p) : Slq ps := fun p hp => by
  obtain ⟨a, c, e, _⟩ := Lies.slice (h p hp).1.1
  obtain ⟨a2, c2, e2, _⟩ := Lies.slice (h p hp).2.1
  exact ⟨⟨a, _, c, e⟩, ⟨a2, _, c2, e2⟩⟩

/-- Which stands ahead. -/
def ltC (cf : PP → PP → Int) (x y : PP) : Bool := decide (cf x y < 0)

theorem swp2_turn (A B C : List PP) (x y : PP) : swp2 (A ++ (x :: (B ++ (y :: C)))) (A.length + 1 + B.length) A.length = A ++ (y :: (B ++ (x :: C))) := by
  rw [← swp2_app A B C x y]
  unfold swp2
  have h1 : A.length < (A ++ (x :: (B ++ (y :: C)))).length := by simp
  have h2 : A.length + 1 + B.length < (A ++ (x :: (B ++ (y :: C)))).length := by simp; omega
  rw [dif_pos ⟨h2, h1⟩, dif_pos ⟨h1, h2⟩]
  unfold swapL
  rw [List.set_comm _ _ (by omega)]

/-- A pair put in where it belongs. -/
theorem ins_up {lt : PP → PP → Bool} (h : Weak lt) (S1 S2 : List PP) (x : PP) (hS : Up lt (S1 ++ S2)) (h2 : ∀ s ∈ S2, lt x s = true) (h1 : ∀ y, S1.getLast? = some y → lt x y = false) : Up lt (S1 ++ (x :: S2)) := by
  obtain ⟨u1, u2, u3⟩ := List.pairwise_append.1 hS
  have hx : ∀ s ∈ S1, lt x s = false := fun s hs => by
    rcases List.eq_nil_or_concat S1 with e | ⟨l, b, e⟩
    · rw [e] at hs; cases hs
    · rw [List.concat_eq_append] at e
      subst e
      have hb := h1 b (by simp)
      rcases List.mem_append.1 hs with hs | hs
      · have := (List.pairwise_append.1 u1).2.2 s hs b (by simp)
        exact h.tr s b x this hb
      · rw [List.mem_singleton.1 hs]; exact hb
  refine List.pairwise_append.2 ⟨u1, List.pairwise_cons.2 ⟨fun s hs => h.as x s (h2 s hs), u2⟩, fun s hs y hy => ?_⟩
  rcases List.mem_cons.1 hy with rfl | hy
  · exact hx s hs
  · exact u3 s hs y hy

theorem ins_alike {lt : PP → PP → Bool} (h : Weak lt) (S1 S2 : List PP) (x : PP) (h2 : ∀ s ∈ S2, lt x s = true) : Alike lt (S1 ++ (x :: S2)) (S1 ++ S2 ++ [x]) := by
  rw [List.append_assoc]
  refine (Alike.refl lt S1).app ?_
  exact (alike_swap h S2 [x] (fun a ha b hb => by rw [List.mem_singleton.1 hb]; exact h2 a ha)).symm

/-- What stands before a round of the inner loop. -/
structure InI (lt : PP → PP → Bool) (w0 : World) (g j : Nat) (A S : List PP) (x : PP) (R : List PP) (wr : World) (S1 S2 : List PP) : Prop where
  ej : j = A.length + S1.length
  eq : S1 ++ S2 = S
  ahead : ∀ s ∈ S2, lt x s = true
  row : RowQ w0 g (A ++ (S1 ++ (x :: (S2 ++ R)))) wr

theorem InI.step {lt : PP → PP → Bool} {w0 : World} {g j : Nat} {A S : List PP} {x : PP} {R : List PP} {wr : World} {S1 S2 : List PP} {y : PP} (h : InI lt w0 g j A S x R wr (S1 ++ [y]) S2) (hlt : lt x y = true) {W : World} (hR : RowQ w0 g (swp2 (A ++ ((S1 ++ [y]) ++ (x :: (S2 ++ R)))) j (j - 1)) W) : InI lt w0 g (j - 1) A S x R W S1 (y :: S2) := by
  have hej := h.ej
  simp at hej
  refine ⟨by omega, by rw [← h.eq]; simp, fun s hs => ?_, ?_⟩
  · rcases List.mem_cons.1 hs with rfl | hs
    · exact hlt
    · exact h.ahead s hs
  · have e : A ++ ((S1 ++ [y]) ++ (x :: (S2 ++ R))) = (A ++ S1) ++ (y :: ([] ++ (x :: (S2 ++ R)))) := by simp
    have e1 : j = (A ++ S1).length + 1 + ([] : List PP).length := by simp; omega
    have e2 : j - 1 = (A ++ S1).length := by simp; omega
    rw [e, e2, e1, swp2_turn] at hR
    simpa using hR

/-- What stands before a round of the outer loop. -/
structure InO (lt : PP → PP → Bool) (w0 : World) (g i : Nat) (A M C : List PP) (wr : World) (S R : List PP) : Prop where
  ei : i = A.length + S.length
  len : (S ++ R).length = M.length
  up : Up lt S
  al : Alike lt (S ++ R) M
  row : RowQ w0 g (A ++ (S ++ (R ++ C))) wr
  mem : ∀ x ∈ S ++ R, x ∈ M

/-- A part of the row sorted: it goes up, and is alike what was there. -/
def SortedQ (lt : PP → PP → Bool) (w0 : World) (g : Nat) (A M C : List PP) (w' : World) : Prop :=
  ∃ M', M'.length = M.length ∧ (∀ x ∈ M', x ∈ M) ∧ Up lt M' ∧ Alike lt M' M ∧ RowQ w0 g (A ++ (M' ++ C)) w'

set_option maxRecDepth 100000 in
set_option maxHeartbeats 16000000 in
theorem insertion_any (f d : Nat) (eg : ∀ args w, (callFunc f args).run Tryz.prog w = .ok (.enter f args) w) (cf : PP → PP → Int) (hc : CmpQ f (GoodQ d) cf) (hwk : Weak (ltC cf)) (w0 : World) (g cap a b L : Nat) (A M C : List PP) (w : World) (hg : w0.heap.size ≤ g) (ha : a = A.length) (hb : b = A.length + M.length) (hL : L = (A ++ (M ++ C)).length) (hR : RowQ w0 g (A ++ (M ++ C)) w) (hG : ∀ p ∈ A ++ (M ++ C), GoodQ d w0 p) (hlen : L ≤ 65536) :
    Calls Tryz.prog 154 #[.slice (some ⟨g, 0, none⟩) L cap, .int .i64 a, .int .i64 b, .func (.func f) #[] #[]] w fun e w' => e = .returned (.tuple #[]) ∧ SortedQ (ltC cf) w0 g A M C w' := by
  have HC : Hid (CmpQ f (GoodQ d) cf) := hc
  have HW : Hid (Weak (ltC cf)) := hwk
  have HG : Hid (∀ p ∈ A ++ (M ++ C), GoodQ d w0 p) := hG
  have hbL : b ≤ L := by rw [hb, hL]; simp
  have hwa : IntKind.i64.wrap ((a : Int) + 1) = ((a + 1 : Nat) : Int) := by rw [IntKind.wrap_i64]; omega
  have HA : Hid (a = A.length) := ha
  have HB : Hid (b = A.length + M.length) := hb
  clear hL
  cases M with
  | nil =>
    have HR : Hid (RowQ w0 g (A ++ ([] ++ C)) w) := hR
    have hab : ¬ (((a + 1 : Nat) : Int) < (b : Nat)) := by simp at hb; omega
    clear hR hG hc hwk hb ha
    generalize a + 1 = a1 at *
    go_enter Tryz.func154, Tryz.ntmps154
    go_wp2_with fail
    go_loopg [8] 0 (fun z vi wr => vi = .int .i64 (a1 : Int) ∧ z = 0 ∧ wr = w)
    case atStart => exact ⟨rfl, rfl, rfl⟩
    case round =>
      obtain ⟨rfl, rfl, rfl⟩ := hrel
      go_wp2_with fail
      exact bodyPost_end (v := .tuple #[]) (by simp [results, Tryz.results154, go_sem]) rfl ⟨rfl, [], rfl, (fun x hx => hx), List.Pairwise.nil, Alike.refl _ _, HR.out⟩
  | cons m0 R0 =>
    have HO0 : Hid (InO (ltC cf) w0 g (a + 1) A (m0 :: R0) C w [m0] R0) := ⟨by simp [ha], by simp, List.pairwise_cons.2 ⟨(fun y hy => by cases hy), List.Pairwise.nil⟩, Alike.refl _ _, by simpa using hR, (fun x hx => hx)⟩
    generalize m0 :: R0 = M at *
    clear hR hG hc hwk ha hb
    go_enter Tryz.func154, Tryz.ntmps154
    go_wp2_with fail
    go_loopg [8] R0.length (fun z vi wr => ∃ (i : Nat) (S R : List PP), vi = .int .i64 (i : Int) ∧ z = R.length ∧ Hid (InO (ltC cf) w0 g i A M C wr S R))
    case atStart => exact ⟨a + 1, [m0], R0, by go_num, rfl, HO0⟩
    case round =>
      obtain ⟨i, S, R, rfl, hk, HM⟩ := hrel
      have Hk : Hid _ := hk
      clear hk HO0 hwa
      have ha := HA.out
      have hb := HB.out
      have hiL : i = A.length + S.length := HM.out.ei
      have hlM : S.length + R.length = M.length := by have := HM.out.len; simpa using this
      cases R with
      | nil =>
        have hib : ¬ ((i : Int) < (b : Nat)) := by simp at hlM; omega
        have HE : Hid (SortedQ (ltC cf) w0 g A M C wr) := ⟨S, by simpa using hlM, fun x hx => HM.out.mem x (by simpa using hx), HM.out.up, by have := HM.out.al; rwa [List.append_nil] at this, HM.out.row⟩
        clear HM hiL hlM ha hb
        go_wp2_with fail
        exact bodyPost_end (v := .tuple #[]) (by simp [results, Tryz.results154, go_sem]) rfl ⟨rfl, HE.out⟩
      | cons x R' =>
        have hib : (i : Int) < (b : Nat) := by simp at hlM; omega
        have HI0 : Hid (InI (ltC cf) w0 g i A S x (R' ++ C) wr S []) := ⟨hiL, by simp, (fun s hs => by cases hs), by simpa using HM.out.row⟩
        have HOut : Hid (∀ S1 S2 W, S1 ++ S2 = S → (∀ s ∈ S2, ltC cf x s = true) → (∀ y, S1.getLast? = some y → ltC cf x y = false) → RowQ w0 g (A ++ (S1 ++ (x :: (S2 ++ (R' ++ C))))) W → InO (ltC cf) w0 g (i + 1) A M C W (S1 ++ (x :: S2)) R') := fun S1 S2 W e h2 h1 hR => by
          have e' := congrArg List.length e
          simp at e'
          refine ⟨by simp; omega, by simp at hlM ⊢; omega, ins_up HW.out S1 S2 x (by rw [e]; exact HM.out.up) h2 h1, ?_, by simpa using hR, fun z hz => HM.out.mem z ?_⟩
          · have k1 : Alike (ltC cf) ((S1 ++ (x :: S2)) ++ R') ((S1 ++ S2 ++ [x]) ++ R') := (ins_alike HW.out S1 S2 x h2).app (Alike.refl _ R')
            refine k1.trans ?_
            have k2 : (S1 ++ S2 ++ [x]) ++ R' = S ++ (x :: R') := by rw [e]; simp
            rw [k2]
            exact HM.out.al
          · rw [← e]
            simp at hz ⊢
            rcases hz with hz | hz | hz | hz <;> simp [hz]
        have HGx : Hid (GoodQ d w0 x) := HG.out x (by have := HM.out.mem x (by simp); simp [this])
        have HGS : Hid (∀ s ∈ S, GoodQ d w0 s) := fun s hs => HG.out s (by have := HM.out.mem s (by simp [hs]); simp [this])
        have hiL2 : i < L := by omega
        have HiL : Hid (i = A.length + S.length) := hiL
        clear HM hiL hlM ha hb
        go_wp2_with fail
        go_loopg [9] S.length (fun z vj wr2 => ∃ (j : Nat) (S1 S2 : List PP), vj = .int .i64 (j : Int) ∧ z = S1.length ∧ Hid (InI (ltC cf) w0 g j A S x (R' ++ C) wr2 S1 S2))
        case atStart => exact ⟨i, S, [], rfl, rfl, HI0⟩
        case round =>
          obtain ⟨j, S1, S2, rfl, hk2, HM⟩ := hrel
          have Hk2 : Hid _ := hk2
          clear hk2 HI0
          have hej := HM.out.ej
          have ha := HA.out
          have hb := HB.out
          have hiL := HiL.out
          have hle : S1.length ≤ S.length := by rw [← HM.out.eq]; simp
          have hjL : j < L := by omega
          by_cases hS1 : S1 = []
          · obtain rfl : j = a := by rw [hS1] at hej; simp at hej; omega
            have HN : Hid (∀ n, InO (ltC cf) w0 g (i + 1) A M C (wr.drewN n) (S1 ++ (x :: S2)) R') := fun n => HOut.out S1 S2 _ HM.out.eq HM.out.ahead (fun y hy => by rw [hS1] at hy; cases hy) (HM.out.row.keeps (below_drewN wr n))
            have HiLt : Hid (i < L) := hiL2
            clear HM HOut hej hle hS1 hjL hiL2 hiL hb ha hbL HGx HGS HC HW HG
            go_wp2_with fail
            clear hib
            go_quiet (fail)
            have hiL2 := HiLt.out
            go_wp2_with fail
            go_roundg R'.length
            case measure => have := Hk.out; simp at this; omega
            case rel => exact ⟨i + 1, _, R', by go_num, rfl, HN.out _⟩
          · obtain ⟨S1', y, rfl⟩ : ∃ S1' y, S1 = S1' ++ [y] := by
              rcases List.eq_nil_or_concat S1 with h | ⟨l, b, h⟩
              · exact absurd h hS1
              · exact ⟨l, b, by rw [h, List.concat_eq_append]⟩
            simp only [List.length_append, List.length_singleton] at hej hle
            obtain ⟨K, hK⟩ : ∃ K, K = j - 1 := ⟨_, rfl⟩
            have hja : (a : Int) < (j : Int) := by omega
            have hwK : IntKind.i64.wrap ((j : Int) - 1) = (K : Int) := by rw [IntKind.wrap_i64]; omega
            have hKi : (K : Int) < (L : Nat) := by omega
            have hji : (j : Int) < (L : Nat) := by omega
            have hjn : K + 1 = j := by omega
            have e1 : (A ++ ((S1' ++ [y]) ++ (x :: (S2 ++ (R' ++ C)))))[j]? = some x := by
              have : A ++ ((S1' ++ [y]) ++ (x :: (S2 ++ (R' ++ C)))) = (A ++ (S1' ++ [y])) ++ (x :: (S2 ++ (R' ++ C))) := by simp
              rw [this, List.getElem?_append_right (by simp; omega)]
              simp [hej]
            have e2 : (A ++ ((S1' ++ [y]) ++ (x :: (S2 ++ (R' ++ C)))))[K]? = some y := by
              have : A ++ ((S1' ++ [y]) ++ (x :: (S2 ++ (R' ++ C)))) = (A ++ S1') ++ (y :: (x :: (S2 ++ (R' ++ C)))) := by simp
              rw [this, List.getElem?_append_right (by simp; omega)]
              have : K - (A ++ S1').length = 0 := by simp; omega
              rw [this]; rfl
            obtain ⟨⟨p0, p1, p2, p3, p4, p5, p6, p7⟩, _⟩ := HM.out.row.cells j x e1
            obtain ⟨⟨r0, r1, r2, r3, r4, r5, r6, r7⟩, _⟩ := HM.out.row.cells K y e2
            have Gx := HGx.out
            have Gy := HGS.out y (by rw [← HM.out.eq]; simp)
            have HCc : Hid (∀ W, Below w0.heap.size w0 W → Calls Tryz.prog f #[.agg (encQ x).toArray, .agg (encQ y).toArray] W fun e W' => e = .returned (.int .i64 (cf x y)) ∧ Below W.heap.size W W') := fun W h => HC.out x y W (Gx.keeps h) (Gy.keeps h)
            have HN : Hid (¬ cf x y < 0 → ∀ W, Below wr.heap.size wr W → InO (ltC cf) w0 g (i + 1) A M C W ((S1' ++ [y]) ++ (x :: S2)) R') := fun hz W hW => HOut.out _ S2 W HM.out.eq HM.out.ahead (fun y' hy => by
              have : y = y' := by simpa using hy
              rw [← this]; exact decide_eq_false hz) (HM.out.row.keeps hW)
            have HStep : Hid (cf x y < 0 → ∀ W, Below wr.heap.size wr W → InI (ltC cf) w0 g K A S x (R' ++ C) ((W.setCells g (j * 8) (encQ y)).setCells g (K * 8) (encQ x)).drew S1' (y :: S2)) := fun hz W hW => by
              have h1 := (HM.out.row.keeps hW).swp hg j K x y e1 e2
              have h2 := h1.keeps (Grew.refl _).drew.below
              rw [hK] at h2 ⊢
              exact HM.out.step (decide_eq_true hz) h2
            have Hrow : Hid (∀ W, Below wr.heap.size wr W → RowQ w0 g _ W) := fun W hW => HM.out.row.keeps hW
            have He1 : Hid _ := e1
            have He2 : Hid _ := e2
            have hb0 : Below w0.heap.size w0 wr := HM.out.row.below
            have hgl : g < wr.heap.size := HM.out.row.lt
            obtain ⟨ax, cx, ex1, _⟩ := Lies.slice Gx.1.1
            obtain ⟨bx, dx, ex2, _⟩ := Lies.slice Gx.2.1
            obtain ⟨ay, cy, ey1, _⟩ := Lies.slice Gy.1.1
            obtain ⟨by', dy, ey2, _⟩ := Lies.slice Gy.2.1
            obtain ⟨pa, pn, pc, rfl'⟩ : ∃ a n c, x.1.2 = .slice a n c := ⟨_, _, _, ex1⟩
            obtain ⟨pb, pm, pd, rfl2⟩ : ∃ a n c, x.2.2 = .slice a n c := ⟨_, _, _, ex2⟩
            obtain ⟨ra, rn, rc, rfl3⟩ : ∃ a n c, y.1.2 = .slice a n c := ⟨_, _, _, ey1⟩
            obtain ⟨rb, rm, rd, rfl4⟩ : ∃ a n c, y.2.2 = .slice a n c := ⟨_, _, _, ey2⟩
            clear HM HOut Gx Gy ex1 ex2 ey1 ey2 e1 e2 hej
            rw [rfl'] at p3; rw [rfl2] at p7; rw [rfl3] at r3; rw [rfl4] at r7
            have HCe : Hid (∀ W, Below w0.heap.size w0 W → Calls Tryz.prog f #[.agg #[.int .i64 x.1.1.kind, .int .i64 x.1.1.num, .string x.1.1.text, .slice pa pn pc, .int .i64 x.2.1.kind, .int .i64 x.2.1.num, .string x.2.1.text, .slice pb pm pd], .agg #[.int .i64 y.1.1.kind, .int .i64 y.1.1.num, .string y.1.1.text, .slice ra rn rc, .int .i64 y.2.1.kind, .int .i64 y.2.1.num, .string y.2.1.text, .slice rb rm rd]] W fun e W' => e = .returned (.int .i64 (cf x y)) ∧ Below W.heap.size W W') := fun W h => by
              have h' := HCc.out W h
              simp only [encQ, encP, rfl', rfl2, rfl3, rfl4, List.cons_append, List.nil_append] at h'
              exact h'
            have Hst : Hid (cf x y < 0 → ∀ W, Below wr.heap.size wr W → InI (ltC cf) w0 g K A S x (R' ++ C) ((W.setCells g (j * 8) [.int .i64 y.1.1.kind, .int .i64 y.1.1.num, .string y.1.1.text, .slice ra rn rc, .int .i64 y.2.1.kind, .int .i64 y.2.1.num, .string y.2.1.text, .slice rb rm rd]).setCells g (K * 8) [.int .i64 x.1.1.kind, .int .i64 x.1.1.num, .string x.1.1.text, .slice pa pn pc, .int .i64 x.2.1.kind, .int .i64 x.2.1.num, .string x.2.1.text, .slice pb pm pd]).drew S1' (y :: S2)) := fun hz W hW => by
              have h' := HStep.out hz W hW
              simp only [encQ, encP, rfl', rfl2, rfl3, rfl4, List.cons_append, List.nil_append] at h'
              exact h'
            have Hfz : Hid (∀ W, Below wr.heap.size wr W → (W.frozen? ⟨g, j * 8, none⟩ = false ∧ W.frozen? ⟨g, j * 8 + 1, none⟩ = false ∧ W.frozen? ⟨g, j * 8 + 2, none⟩ = false ∧ W.frozen? ⟨g, j * 8 + 3, none⟩ = false ∧ W.frozen? ⟨g, j * 8 + 4, none⟩ = false ∧ W.frozen? ⟨g, j * 8 + 5, none⟩ = false ∧ W.frozen? ⟨g, j * 8 + 6, none⟩ = false ∧ W.frozen? ⟨g, j * 8 + 7, none⟩ = false) ∧ (W.frozen? ⟨g, K * 8, none⟩ = false ∧ W.frozen? ⟨g, K * 8 + 1, none⟩ = false ∧ W.frozen? ⟨g, K * 8 + 2, none⟩ = false ∧ W.frozen? ⟨g, K * 8 + 3, none⟩ = false ∧ W.frozen? ⟨g, K * 8 + 4, none⟩ = false ∧ W.frozen? ⟨g, K * 8 + 5, none⟩ = false ∧ W.frozen? ⟨g, K * 8 + 6, none⟩ = false ∧ W.frozen? ⟨g, K * 8 + 7, none⟩ = false)) := fun W hW => ⟨((Hrow.out W hW).cells j x He1.out).2, ((Hrow.out W hW).cells K y He2.out).2⟩
            have HiLt : Hid (i < L) := hiL2
            have HjK : Hid (K + 1 = j) := hjn
            have hjn' : a < j := by omega
            have hKn : K < L := by omega
            clear HCc HStep Hrow He1 He2 rfl' rfl2 rfl3 rfl4 hK hle hiL2 hiL hb ha hbL HGx HGS HC HW HG hjn hS1
            generalize hZ : cf x y = Z at *
            clear hZ
            go_wp2_with fail
            go_region_held3 (fun w' => (w'.cell? ⟨g, j * 8, none⟩ = some (.int .i64 x.1.1.kind) ∧ w'.cell? ⟨g, j * 8 + 1, none⟩ = some (.int .i64 x.1.1.num) ∧ w'.cell? ⟨g, j * 8 + 2, none⟩ = some (.string x.1.1.text) ∧ w'.cell? ⟨g, j * 8 + 3, none⟩ = some (.slice pa pn pc) ∧ w'.cell? ⟨g, j * 8 + 4, none⟩ = some (.int .i64 x.2.1.kind) ∧ w'.cell? ⟨g, j * 8 + 5, none⟩ = some (.int .i64 x.2.1.num) ∧ w'.cell? ⟨g, j * 8 + 6, none⟩ = some (.string x.2.1.text) ∧ w'.cell? ⟨g, j * 8 + 7, none⟩ = some (.slice pb pm pd)) ∧ (w'.cell? ⟨g, K * 8, none⟩ = some (.int .i64 y.1.1.kind) ∧ w'.cell? ⟨g, K * 8 + 1, none⟩ = some (.int .i64 y.1.1.num) ∧ w'.cell? ⟨g, K * 8 + 2, none⟩ = some (.string y.1.1.text) ∧ w'.cell? ⟨g, K * 8 + 3, none⟩ = some (.slice ra rn rc) ∧ w'.cell? ⟨g, K * 8 + 4, none⟩ = some (.int .i64 y.2.1.kind) ∧ w'.cell? ⟨g, K * 8 + 5, none⟩ = some (.int .i64 y.2.1.num) ∧ w'.cell? ⟨g, K * 8 + 6, none⟩ = some (.string y.2.1.text) ∧ w'.cell? ⟨g, K * 8 + 7, none⟩ = some (.slice rb rm rd))) (go_keep)
              (first | (go_at_fn f; refine (HCe.out _ (hb0.trans ((Below.refl _ _).drew.mono hb0.size))).mono ?_; rintro e w1 ⟨rfl, hg1⟩; have hb1 : Below wr.heap.size wr w1 := (Below.refl _ _).drew.trans hg1; clear hg1; have p0 := cell_keeps hb1 p0; have p1 := cell_keeps hb1 p1; have p2 := cell_keeps hb1 p2; have p3 := cell_keeps hb1 p3; have p4 := cell_keeps hb1 p4; have p5 := cell_keeps hb1 p5; have p6 := cell_keeps hb1 p6; have p7 := cell_keeps hb1 p7; have r0 := cell_keeps hb1 r0; have r1 := cell_keeps hb1 r1; have r2 := cell_keeps hb1 r2; have r3 := cell_keeps hb1 r3; have r4 := cell_keeps hb1 r4; have r5 := cell_keeps hb1 r5; have r6 := cell_keeps hb1 r6; have r7 := cell_keeps hb1 r7))
            by_cases hz : Z < 0
            · have HS1 : Hid _ := Hst.out hz w1 hb1
              obtain ⟨⟨f0, f1, f2, f3, f4, f5, f6, f7⟩, ⟨z0, z1, z2, z3, z4, z5, z6, z7⟩⟩ := Hfz.out w1 hb1
              have hjK := HjK.out
              have n00 : ¬ (K * 8 = j * 8) := by omega
              have n01 : ¬ (K * 8 = j * 8 + 1) := by omega
              have n02 : ¬ (K * 8 = j * 8 + 2) := by omega
              have n03 : ¬ (K * 8 = j * 8 + 3) := by omega
              have n04 : ¬ (K * 8 = j * 8 + 4) := by omega
              have n05 : ¬ (K * 8 = j * 8 + 5) := by omega
              have n06 : ¬ (K * 8 = j * 8 + 6) := by omega
              have n07 : ¬ (K * 8 = j * 8 + 7) := by omega
              have n10 : ¬ (K * 8 + 1 = j * 8) := by omega
              have n11 : ¬ (K * 8 + 1 = j * 8 + 1) := by omega
              have n12 : ¬ (K * 8 + 1 = j * 8 + 2) := by omega
              have n13 : ¬ (K * 8 + 1 = j * 8 + 3) := by omega
              have n14 : ¬ (K * 8 + 1 = j * 8 + 4) := by omega
              have n15 : ¬ (K * 8 + 1 = j * 8 + 5) := by omega
              have n16 : ¬ (K * 8 + 1 = j * 8 + 6) := by omega
              have n17 : ¬ (K * 8 + 1 = j * 8 + 7) := by omega
              have n20 : ¬ (K * 8 + 2 = j * 8) := by omega
              have n21 : ¬ (K * 8 + 2 = j * 8 + 1) := by omega
              have n22 : ¬ (K * 8 + 2 = j * 8 + 2) := by omega
              have n23 : ¬ (K * 8 + 2 = j * 8 + 3) := by omega
              have n24 : ¬ (K * 8 + 2 = j * 8 + 4) := by omega
              have n25 : ¬ (K * 8 + 2 = j * 8 + 5) := by omega
              have n26 : ¬ (K * 8 + 2 = j * 8 + 6) := by omega
              have n27 : ¬ (K * 8 + 2 = j * 8 + 7) := by omega
              have n30 : ¬ (K * 8 + 3 = j * 8) := by omega
              have n31 : ¬ (K * 8 + 3 = j * 8 + 1) := by omega
              have n32 : ¬ (K * 8 + 3 = j * 8 + 2) := by omega
              have n33 : ¬ (K * 8 + 3 = j * 8 + 3) := by omega
              have n34 : ¬ (K * 8 + 3 = j * 8 + 4) := by omega
              have n35 : ¬ (K * 8 + 3 = j * 8 + 5) := by omega
              have n36 : ¬ (K * 8 + 3 = j * 8 + 6) := by omega
              have n37 : ¬ (K * 8 + 3 = j * 8 + 7) := by omega
              have n40 : ¬ (K * 8 + 4 = j * 8) := by omega
              have n41 : ¬ (K * 8 + 4 = j * 8 + 1) := by omega
              have n42 : ¬ (K * 8 + 4 = j * 8 + 2) := by omega
              have n43 : ¬ (K * 8 + 4 = j * 8 + 3) := by omega
              have n44 : ¬ (K * 8 + 4 = j * 8 + 4) := by omega
              have n45 : ¬ (K * 8 + 4 = j * 8 + 5) := by omega
              have n46 : ¬ (K * 8 + 4 = j * 8 + 6) := by omega
              have n47 : ¬ (K * 8 + 4 = j * 8 + 7) := by omega
              have n50 : ¬ (K * 8 + 5 = j * 8) := by omega
              have n51 : ¬ (K * 8 + 5 = j * 8 + 1) := by omega
              have n52 : ¬ (K * 8 + 5 = j * 8 + 2) := by omega
              have n53 : ¬ (K * 8 + 5 = j * 8 + 3) := by omega
              have n54 : ¬ (K * 8 + 5 = j * 8 + 4) := by omega
              have n55 : ¬ (K * 8 + 5 = j * 8 + 5) := by omega
              have n56 : ¬ (K * 8 + 5 = j * 8 + 6) := by omega
              have n57 : ¬ (K * 8 + 5 = j * 8 + 7) := by omega
              have n60 : ¬ (K * 8 + 6 = j * 8) := by omega
              have n61 : ¬ (K * 8 + 6 = j * 8 + 1) := by omega
              have n62 : ¬ (K * 8 + 6 = j * 8 + 2) := by omega
              have n63 : ¬ (K * 8 + 6 = j * 8 + 3) := by omega
              have n64 : ¬ (K * 8 + 6 = j * 8 + 4) := by omega
              have n65 : ¬ (K * 8 + 6 = j * 8 + 5) := by omega
              have n66 : ¬ (K * 8 + 6 = j * 8 + 6) := by omega
              have n67 : ¬ (K * 8 + 6 = j * 8 + 7) := by omega
              have n70 : ¬ (K * 8 + 7 = j * 8) := by omega
              have n71 : ¬ (K * 8 + 7 = j * 8 + 1) := by omega
              have n72 : ¬ (K * 8 + 7 = j * 8 + 2) := by omega
              have n73 : ¬ (K * 8 + 7 = j * 8 + 3) := by omega
              have n74 : ¬ (K * 8 + 7 = j * 8 + 4) := by omega
              have n75 : ¬ (K * 8 + 7 = j * 8 + 5) := by omega
              have n76 : ¬ (K * 8 + 7 = j * 8 + 6) := by omega
              have n77 : ¬ (K * 8 + 7 = j * 8 + 7) := by omega
              clear hjK Hst HN Hfz
              go_wp2_with fail
              go_region
              clear p0 p1 p2 p3 p4 p5 p6 p7 r0 r1 r2 r3 r4 r5 r6 r7 f0 f1 f2 f3 f4 f5 f6 f7 z0 z1 z2 z3 z4 z5 z6 z7 n00 n01 n02 n03 n04 n05 n06 n07 n10 n11 n12 n13 n14 n15 n16 n17 n20 n21 n22 n23 n24 n25 n26 n27 n30 n31 n32 n33 n34 n35 n36 n37 n40 n41 n42 n43 n44 n45 n46 n47 n50 n51 n52 n53 n54 n55 n56 n57 n60 n61 n62 n63 n64 n65 n66 n67 n70 n71 n72 n73 n74 n75 n76 n77
              simp only [World.setCells] at HS1
              go_wp2_with fail
              go_roundg S1'.length
              case measure => have := Hk2.out; simp at this; omega
              case rel => exact ⟨K, S1', y :: S2, rfl, rfl, HS1⟩
            · have HN1 : Hid _ := HN.out (by omega) w1 hb1
              clear p0 p1 p2 p3 p4 p5 p6 p7 r0 r1 r2 r3 r4 r5 r6 r7 Hst HN Hfz
              have hiL2 := HiLt.out
              go_wp2_with fail
              go_roundg R'.length
              case measure => have := Hk.out; simp at this; omega
              case rel => exact ⟨i + 1, _, R', by go_num, rfl, HN1⟩

end Go.Proofs.YtpmodiodpilmeaaGreat

