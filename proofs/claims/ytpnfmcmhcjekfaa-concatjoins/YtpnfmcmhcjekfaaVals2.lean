/-
  The statements' own Values at two lists.
-/
import Derived.Test.YtpnfmcmhcjekfaaVals
import Derived.Test.YtpnfmcmhcjekfaaSameEq
namespace Go.Proofs.Ytpnfmcmhcjekfaa
open Go.RowKit

theorem all2_get {f : VT → VT → Bool} : ∀ (l m : List VT), all2 f l m = true → ∀ (j : Nat) (h1 : j < l.length) (h2 : j < m.length), f l[j] m[j] = true
  | [], _, _, j, h1, _ => by cases h1
  | _ :: _, [], _, j, _, h2 => by cases h2
  | x :: xs, y :: ys, h, j, h1, h2 => by
    simp only [all2, Bool.and_eq_true] at h
    cases j with
    | zero => exact h.1
    | succ j => exact all2_get xs ys h.2 j (by simpa using h1) (by simpa using h2)

theorem all2_of {f : VT → VT → Bool} : ∀ (l m : List VT), (∀ (j : Nat) (h1 : j < l.length) (h2 : j < m.length), f l[j] m[j] = true) → all2 f l m = true
  | [], _, _ => by simp [all2]
  | _ :: _, [], _ => by simp [all2]
  | x :: xs, y :: ys, h => by
    simp only [all2, Bool.and_eq_true]
    exact ⟨h 0 (by simp) (by simp), all2_of xs ys fun j h1 h2 => h (j + 1) (by simpa using h1) (by simpa using h2)⟩

/-- Are two lists the same? -/
def eqL (f : VT → VT → Bool) (l m : List VT) : Bool := decide (l.length = m.length) && all2 f l m

set_option maxRecDepth 100000 in
set_option maxHeartbeats 4000000 in
theorem values_two (d : Nat) (l m : List VT) (u v : Value) (w : World) (hu : Lies (d + 1) w l u) (hv : Lies (d + 1) w m v) (hlen : l.length ≤ 65536) :
    Calls Try.prog 17 #[u, v] w fun e w' => e = .returned (.bool (eqL (sameV d) l m)) ∧ Below w.heap.size w w' := by
  obtain ⟨a1, c1, rfl, _, hr1⟩ := hu
  obtain ⟨a2, c2, rfl, _, hr2⟩ := hv
  obtain ⟨R, hR⟩ : ∃ R, R = eqL (sameV d) l m := ⟨_, rfl⟩
  rw [← hR]
  by_cases hlm : l.length = m.length
  · have HT : Hid ((∀ (j : Nat) (h1 : j < l.length) (h2 : j < m.length), sameV d l[j] m[j] = true) → R = true) := fun h => by
      rw [hR]
      unfold eqL
      rw [decide_eq_true hlm, all2_of l m h]
      rfl
    have HF : Hid (∀ (j : Nat) (h1 : j < l.length) (h2 : j < m.length), sameV d l[j] m[j] = false → R = false) := fun j h1 h2 h => by
      rw [hR]
      unfold eqL
      cases e : all2 (sameV d) l m with
      | false => simp
      | true => rw [all2_get l m e j h1 h2] at h; cases h
    have Hr1 : Hid _ := hr1; have Hr2 : Hid _ := hr2
    clear hr1 hr2 hR
    have hne : ((l.length : Int) != (l.length : Int)) = false := by simp
    have Hlm : Hid (l.length = m.length) := hlm
    rw [← hlm]
    clear hlm
    go_enter Try.func17, Try.ntmps17
    go_wp2_with fail
    go_loopg [13] l.length (fun g i wr => ∃ j : Nat, i = .int .i64 (j : Int) ∧ j ≤ l.length ∧ g = l.length - j ∧ Below w.heap.size w wr ∧ Hid (∀ (i : Nat) (h1 : i < l.length) (h2 : i < m.length), i < j → sameV d l[i] m[i] = true))
    case atStart => exact ⟨0, rfl, by omega, by omega, Below.refl _ _, fun i _ _ h => absurd h (by omega)⟩
    case round =>
      obtain ⟨j, rfl, hj, hk, hbw, HI⟩ := hrel
      have Hk : Hid _ := hk
      clear hk hne
      by_cases hlt : j < l.length
      · have hlt2 : j < m.length := by have := Hlm.out; omega
        obtain ⟨b1, o1, rfl, hall1⟩ := Hr1.out (by intro e; simp [e] at hlt)
        obtain ⟨b2, o2, rfl, hall2⟩ := Hr2.out (by intro e; simp [e] at hlt2)
        obtain ⟨x, p0, p1, p2, p3, p4, _⟩ := hall1 j hlt
        obtain ⟨y, q0, q1, q2, q3, q4, _⟩ := hall2 j hlt2
        clear hall1 hall2
        obtain ⟨ax, cx, rfl, _⟩ := Lies.slice p4
        obtain ⟨ay, cy, rfl, _⟩ := Lies.slice q4
        have p0 := cell_keeps hbw p0; have p1 := cell_keeps hbw p1; have p2 := cell_keeps hbw p2; have p3 := cell_keeps hbw p3
        have q0 := cell_keeps hbw q0; have q1 := cell_keeps hbw q1; have q2 := cell_keeps hbw q2; have q3 := cell_keeps hbw q3
        have p4 : Hid (Lies d w l[j].items (.slice ax l[j].items.length cx)) := p4
        have q4 : Hid (Lies d w m[j].items (.slice ay m[j].items.length cy)) := q4
        have hl1 : b1 < wr.heap.size := cell_lt p0
        have hl2 : b2 < wr.heap.size := cell_lt q0
        have HIn : Hid (sameV d l[j] m[j] = true → ∀ (i : Nat) (h1 : i < l.length) (h2 : i < m.length), i < j + 1 → sameV d l[i] m[i] = true) := fun hs i h1 h2 hi => by
          by_cases e : i = j
          · subst e; exact hs
          · exact HI.out i h1 h2 (by omega)
        have HFj : Hid (sameV d l[j] m[j] = false → R = false) := HF.out j hlt hlt2
        clear HI
        generalize l[j] = X at *
        generalize m[j] = Y at *
        have hltm : (j : Int) < (l.length : Nat) := by omega
        obtain ⟨L, hL⟩ : ∃ L, L = l.length := ⟨_, rfl⟩
        have HL : Hid (L = l.length) := hL
        cases hs : sameV d X Y with
        | true =>
          have HSm : Hid (∀ W, Lies d W X.items (.slice ax X.items.length cx) → Lies d W Y.items (.slice ay Y.items.length cy) → Calls Try.prog 15 #[.agg #[.int .i64 X.kind, .int .i64 X.num, .string X.text, .slice ax X.items.length cx], .agg #[.int .i64 Y.kind, .int .i64 Y.num, .string Y.text, .slice ay Y.items.length cy]] W fun e W' => e = .returned (.bool true) ∧ Below W.heap.size W W') := fun W h1 h2 => (same_any d X Y _ _ W h1 h2).mono fun e W' h => ⟨by rw [h.1, hs], h.2.below⟩
          go_wp2_with fail
          go_region_held3 (fun w' => w'.cell? ⟨b1, o1 + j * 4, none⟩ = some (.int .i64 X.kind) ∧ w'.cell? ⟨b1, o1 + j * 4 + 1, none⟩ = some (.int .i64 X.num) ∧ w'.cell? ⟨b1, o1 + j * 4 + 2, none⟩ = some (.string X.text) ∧ w'.cell? ⟨b1, o1 + j * 4 + 3, none⟩ = some (.slice ax X.items.length cx)
            ∧ w'.cell? ⟨b2, o2 + j * 4, none⟩ = some (.int .i64 Y.kind) ∧ w'.cell? ⟨b2, o2 + j * 4 + 1, none⟩ = some (.int .i64 Y.num) ∧ w'.cell? ⟨b2, o2 + j * 4 + 2, none⟩ = some (.string Y.text) ∧ w'.cell? ⟨b2, o2 + j * 4 + 3, none⟩ = some (.slice ay Y.items.length cy)) (go_keep)
            (first | (go_at_call 15; refine Calls.mono (HSm.out _ (Lies.keeps hbw.drew _ _ _ p4.out) (Lies.keeps hbw.drew _ _ _ q4.out)) ?_; rintro e w1 ⟨rfl, hb1⟩; have hb2 : Below wr.heap.size wr w1 := (Below.refl _ _).drew.trans hb1; clear hb1; have r0 := cell_keeps hb2 p0; have r1 := cell_keeps hb2 p1; have r2 := cell_keeps hb2 p2; have r3 := cell_keeps hb2 p3; have t0 := cell_keeps hb2 q0; have t1 := cell_keeps hb2 q1; have t2 := cell_keeps hb2 q2; have t3 := cell_keeps hb2 q3))
          have hb3 : Below w.heap.size w w1 := hbw.trans (hb2.mono hbw.size)
          clear p4 q4 p0 p1 p2 p3 q0 q1 q2 q3 r0 r1 r2 r3 t0 t1 t2 t3 HSm
          go_wp2_with fail
          go_roundg (l.length - (j + 1))
          case measure => have := Hk.out; omega
          case rel => exact ⟨j + 1, by go_num, by omega, rfl, hb3, HIn.out hs⟩
        | false =>
          have HSm : Hid (∀ W, Lies d W X.items (.slice ax X.items.length cx) → Lies d W Y.items (.slice ay Y.items.length cy) → Calls Try.prog 15 #[.agg #[.int .i64 X.kind, .int .i64 X.num, .string X.text, .slice ax X.items.length cx], .agg #[.int .i64 Y.kind, .int .i64 Y.num, .string Y.text, .slice ay Y.items.length cy]] W fun e W' => e = .returned (.bool false) ∧ Below W.heap.size W W') := fun W h1 h2 => (same_any d X Y _ _ W h1 h2).mono fun e W' h => ⟨by rw [h.1, hs], h.2.below⟩
          go_wp2_with fail
          go_region_held3 (fun w' => w'.cell? ⟨b1, o1 + j * 4, none⟩ = some (.int .i64 X.kind) ∧ w'.cell? ⟨b1, o1 + j * 4 + 1, none⟩ = some (.int .i64 X.num) ∧ w'.cell? ⟨b1, o1 + j * 4 + 2, none⟩ = some (.string X.text) ∧ w'.cell? ⟨b1, o1 + j * 4 + 3, none⟩ = some (.slice ax X.items.length cx)
            ∧ w'.cell? ⟨b2, o2 + j * 4, none⟩ = some (.int .i64 Y.kind) ∧ w'.cell? ⟨b2, o2 + j * 4 + 1, none⟩ = some (.int .i64 Y.num) ∧ w'.cell? ⟨b2, o2 + j * 4 + 2, none⟩ = some (.string Y.text) ∧ w'.cell? ⟨b2, o2 + j * 4 + 3, none⟩ = some (.slice ay Y.items.length cy)) (go_keep)
            (first | (go_at_call 15; refine Calls.mono (HSm.out _ (Lies.keeps hbw.drew _ _ _ p4.out) (Lies.keeps hbw.drew _ _ _ q4.out)) ?_; rintro e w1 ⟨rfl, hb1⟩; have hb2 : Below wr.heap.size wr w1 := (Below.refl _ _).drew.trans hb1; clear hb1; have r0 := cell_keeps hb2 p0; have r1 := cell_keeps hb2 p1; have r2 := cell_keeps hb2 p2; have r3 := cell_keeps hb2 p3; have t0 := cell_keeps hb2 q0; have t1 := cell_keeps hb2 q1; have t2 := cell_keeps hb2 q2; have t3 := cell_keeps hb2 q3))
          have hb3 : Below w.heap.size w w1 := hbw.trans (hb2.mono hbw.size)
          clear p4 q4 p0 p1 p2 p3 q0 q1 q2 q3 r0 r1 r2 r3 t0 t1 t2 t3 HSm
          go_wp2_with fail
          go_ret
          exact ⟨by rw [HFj.out hs]; rfl, hb3⟩
      · have HRt : Hid (R = true) := HT.out fun i h1 h2 => HI.out i h1 h2 (by omega)
        clear HT HF HI
        go_wp2_with fail
        go_ret
        exact ⟨by rw [HRt.out]; rfl, hbw⟩
  · have hne : ((l.length : Int) != (m.length : Int)) = true := by simp; omega
    have HRf : Hid (R = false) := by
      show R = false
      rw [hR]
      unfold eqL
      rw [decide_eq_false hlm]
      rfl
    clear hr1 hr2 hR
    go_enter Try.func17, Try.ntmps17
    go_wp2_with fail
    go_ret
    exact ⟨by rw [HRf.out]; rfl, Below.refl _ _⟩

end Go.Proofs.Ytpnfmcmhcjekfaa

