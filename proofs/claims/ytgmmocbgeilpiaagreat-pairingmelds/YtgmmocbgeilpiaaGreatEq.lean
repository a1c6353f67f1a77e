/-
  Right values that are equal are the same in all fields. Plain mathematics.
-/
import Derived.Test.YtgmmocbgeilpiaaGreatRunesP
import Derived.Deep.RegionHeld3
import Derived.Test.YtgmmocbgeilpiaaGreatParts
import Derived.Test.YtgmmocbgeilpiaaGreatOrdered
namespace Go.Proofs.YtgmmocbgeilpiaaGreat
open Go.RowKit

def all2 (f : VT → VT → Bool) : List VT → List VT → Bool
  | x :: xs, y :: ys => f x y && all2 f xs ys
  | _, _ => true

def headS (a b : VT) : Bool := a.kind == b.kind && (a.num == b.num && (a.text.toList == b.text.toList && a.items.length == b.items.length))

def sameV : Nat → VT → VT → Bool
  | 0, a, b => headS a b
  | d + 1, a, b => headS a b && all2 (sameV d) a.items b.items

theorem all2_step (f : VT → VT → Bool) (l m : List VT) (j : Nat) (h1 : j < l.length) (h2 : j < m.length) : all2 f (l.drop j) (m.drop j) = (f l[j] m[j] && all2 f (l.drop (j + 1)) (m.drop (j + 1))) := by
  rw [List.drop_eq_getElem_cons h1, List.drop_eq_getElem_cons h2]; rfl

theorem all2_end (f : VT → VT → Bool) (l m : List VT) (j : Nat) (h : l.length ≤ j) : all2 f (l.drop j) (m.drop j) = true := by
  rw [List.drop_eq_nil_of_le h]; rfl

set_option maxHeartbeats 2000000 in
theorem same_core (d : Nat) (f : VT → VT → Bool) (t s : VT) (u v : Value) (w : World) (hu : Lies (d + 1) w t.items u) (hv : Lies (d + 1) w s.items v)
    (hf : Hid (∀ (x y : VT) (p q : Value) (W : World), x ∈ t.items → y ∈ s.items → Lies d W x.items p → Lies d W y.items q →
      Calls Tryz.prog 16 #[.agg #[.int .i64 x.kind, .int .i64 x.num, .string x.text, p], .agg #[.int .i64 y.kind, .int .i64 y.num, .string y.text, q]] W fun e W' => e = .returned (.bool (f x y)) ∧ Grew W W')) :
    Calls Tryz.prog 16 #[.agg #[.int .i64 t.kind, .int .i64 t.num, .string t.text, u], .agg #[.int .i64 s.kind, .int .i64 s.num, .string s.text, v]] w fun e w' => e = .returned (.bool (headS t s && all2 f t.items s.items)) ∧ Grew w w' := by
  obtain ⟨a1, c1, rfl, hb1, hr1⟩ := hu
  obtain ⟨a2, c2, rfl, hb2, hr2⟩ := hv
  have Hr1 : Hid _ := hr1; have Hr2 : Hid _ := hr2
  clear hr1 hr2
  have HB2 : Hid (∀ o1 o2 : Obj, Grew w ((w.alloc o1).alloc o2)) := Grew.two w
  cases hk : (t.kind == s.kind)
  · have hk' : (t.kind != s.kind) = true := by simp [bne, hk]
    have Hfin : Hid ((headS t s && all2 f t.items s.items) = false) := by show _ = _; simp [headS, hk]
    go_enter Tryz.func16, Tryz.ntmps16
    go_wp2_with fail
    go_ret
    exact ⟨by rw [Hfin.out]; rfl, HB2.out _ _⟩
  have hk' : (t.kind != s.kind) = false := by simp [bne, hk]
  cases hn : (t.num == s.num)
  · have hn' : (t.num != s.num) = true := by simp [bne, hn]
    have Hfin : Hid ((headS t s && all2 f t.items s.items) = false) := by show _ = _; simp [headS, hn]
    go_enter Tryz.func16, Tryz.ntmps16
    go_wp2_with fail
    go_ret
    exact ⟨by rw [Hfin.out]; rfl, HB2.out _ _⟩
  have hn' : (t.num != s.num) = false := by simp [bne, hn]
  cases ht : (t.text.toList == s.text.toList)
  · have ht' : (t.text.toList != s.text.toList) = true := by simp [bne, ht]
    have Hfin : Hid ((headS t s && all2 f t.items s.items) = false) := by show _ = _; simp [headS, ht]
    go_enter Tryz.func16, Tryz.ntmps16
    go_wp2_with fail
    go_ret
    exact ⟨by rw [Hfin.out]; rfl, HB2.out _ _⟩
  have ht' : (t.text.toList != s.text.toList) = false := by simp [bne, ht]
  by_cases hl : t.items.length = s.items.length
  · have hl' : ((t.items.length : Int) != (s.items.length : Int)) = false := by rw [hl]; simp
    have Hh : Hid (headS t s = true) := by show _ = _; simp [headS, hk, hn, ht, hl]
    have Hl : Hid (t.items.length = s.items.length) := hl
    clear hl
    go_enter Tryz.func16, Tryz.ntmps16
    go_wp2_with fail
    go_loopg [37] t.items.length (fun g i wr => ∃ j : Nat, i = .int .i64 j ∧ j ≤ t.items.length ∧ g = t.items.length - j ∧ Hid (all2 f t.items s.items = all2 f (t.items.drop j) (s.items.drop j)) ∧ Grew w wr ∧ w.heap.size + 2 ≤ wr.heap.size ∧ wr.cell? ⟨w.heap.size, 3, none⟩ = some (.slice a1 t.items.length c1) ∧ wr.cell? ⟨w.heap.size + 1, 3, none⟩ = some (.slice a2 s.items.length c2))
    case atStart => exact ⟨0, rfl, by omega, by omega, rfl, HB2.out _ _, by simp, by simp, by simp⟩
    case round =>
      obtain ⟨j, rfl, hj1, hgk, Hc, hbw, hsz2, x1, x2⟩ := hrel
      have Hk : Hid _ := hgk
      clear hgk hk hk' hn hn' ht ht' hl'
      by_cases hlt : j < t.items.length
      · have hlt2 : j < s.items.length := by have := Hl.out; omega
        obtain ⟨b1, o1, rfl, hall1⟩ := Hr1.out (by intro e; simp [e] at hlt)
        obtain ⟨b2, o2, rfl, hall2⟩ := Hr2.out (by intro e; simp [e] at hlt2)
        obtain ⟨x, p0, p1, p2, p3, p4, _⟩ := hall1 j hlt
        obtain ⟨y, q0, q1, q2, q3, q4, _⟩ := hall2 j hlt2
        clear hall1 hall2
        obtain ⟨ax, cx, rfl, _⟩ := Lies.slice p4
        obtain ⟨ay, cy, rfl, _⟩ := Lies.slice q4
        have p0 := cell_keeps hbw.below p0; have p1 := cell_keeps hbw.below p1; have p2 := cell_keeps hbw.below p2; have p3 := cell_keeps hbw.below p3
        have q0 := cell_keeps hbw.below q0; have q1 := cell_keeps hbw.below q1; have q2 := cell_keeps hbw.below q2; have q3 := cell_keeps hbw.below q3
        have p4 : Hid (Lies d w t.items[j].items (.slice ax t.items[j].items.length cx)) := p4
        have q4 : Hid (Lies d w s.items[j].items (.slice ay s.items[j].items.length cy)) := q4
        have hl1 : b1 < wr.heap.size := cell_lt p0
        have hl2 : b2 < wr.heap.size := cell_lt q0
        go_wp2_with fail
        have hfc : Hid _ := (hf.out t.items[j] s.items[j] (.slice ax t.items[j].items.length cx) (.slice ay s.items[j].items.length cy))
        go_region_held3 (fun w' => w'.cell? ⟨w.heap.size, 3, none⟩ = some (.slice (some ⟨b1, o1, none⟩) t.items.length c1) ∧ w'.cell? ⟨w.heap.size + 1, 3, none⟩ = some (.slice (some ⟨b2, o2, none⟩) s.items.length c2)
          ∧ w'.cell? ⟨b1, o1 + j * 4, none⟩ = some (.int .i64 t.items[j].kind) ∧ w'.cell? ⟨b1, o1 + j * 4 + 1, none⟩ = some (.int .i64 t.items[j].num) ∧ w'.cell? ⟨b1, o1 + j * 4 + 2, none⟩ = some (.string t.items[j].text) ∧ w'.cell? ⟨b1, o1 + j * 4 + 3, none⟩ = some (.slice ax t.items[j].items.length cx)
          ∧ w'.cell? ⟨b2, o2 + j * 4, none⟩ = some (.int .i64 s.items[j].kind) ∧ w'.cell? ⟨b2, o2 + j * 4 + 1, none⟩ = some (.int .i64 s.items[j].num) ∧ w'.cell? ⟨b2, o2 + j * 4 + 2, none⟩ = some (.string s.items[j].text) ∧ w'.cell? ⟨b2, o2 + j * 4 + 3, none⟩ = some (.slice ay s.items[j].items.length cy)) (go_keep)
          (first | (go_at_call 16; refine (hfc.out _ (List.getElem_mem hlt) (List.getElem_mem hlt2) ?_ ?_).mono ?_; exact Lies.keeps hbw.drew.below _ _ _ p4.out; exact Lies.keeps hbw.drew.below _ _ _ q4.out; rintro e w1 ⟨rfl, hb1⟩; have hb2 : Grew wr w1 := ((Grew.refl wr).drew).trans hb1; clear hb1; have r0 := cell_keeps hb2.below p0; have r1 := cell_keeps hb2.below p1; have r2 := cell_keeps hb2.below p2; have r3 := cell_keeps hb2.below p3; have t0 := cell_keeps hb2.below q0; have t1 := cell_keeps hb2.below q1; have t2 := cell_keeps hb2.below q2; have t3 := cell_keeps hb2.below q3; have y1 := cell_keeps hb2.below x1; have y2 := cell_keeps hb2.below x2))
        clear hfc p4 q4 hf p0 p1 p2 p3 q0 q1 q2 q3 r0 r1 r2 r3 t0 t1 t2 t3 x1 x2
        have hb3 : Grew w w1 := hbw.trans hb2
        have hs3 : w.heap.size + 2 ≤ w1.heap.size := by have := hb2.below.size; omega
        have Hs : Hid _ := all2_step f t.items s.items j hlt hlt2
        cases hz : f t.items[j] s.items[j]
        · go_wp2_with fail
          go_ret
          exact ⟨by rw [Hh.out, Hc.out, Hs.out, hz]; rfl, hb3⟩
        · go_wp2_with fail
          go_roundg (t.items.length - (j + 1))
          case measure => have := Hk.out; omega
          case rel =>
            refine ⟨j + 1, by go_num, by omega, rfl, ?_, hb3, hs3, y1, y2⟩
            show _ = _
            rw [Hc.out, Hs.out, hz]; rfl
      · have Hs : Hid _ := all2_end f t.items s.items j (by omega)
        go_wp2_with fail
        go_ret
        exact ⟨by rw [Hh.out, Hc.out, Hs.out]; rfl, hbw⟩
  · have hl' : ((t.items.length : Int) != (s.items.length : Int)) = true := by rw [bne_iff_ne]; omega
    have Hfin : Hid ((headS t s && all2 f t.items s.items) = false) := by show _ = _; simp [headS, hl]
    clear hl
    go_enter Tryz.func16, Tryz.ntmps16
    go_wp2_with fail
    go_ret
    exact ⟨by rw [Hfin.out]; rfl, HB2.out _ _⟩

theorem same_any : ∀ (d : Nat) (t s : VT) (x y : Value) (w : World), Lies d w t.items x → Lies d w s.items y →
    Calls Tryz.prog 16 #[.agg #[.int .i64 t.kind, .int .i64 t.num, .string t.text, x], .agg #[.int .i64 s.kind, .int .i64 s.num, .string s.text, y]] w fun e w' => e = .returned (.bool (sameV d t s)) ∧ Grew w w' := by
  intro d
  induction d with
  | zero =>
    intro t s x y w hx hy
    have e1 : t.items = [] := hx.1
    have h := same_core 0 (fun _ _ => true) t s x y w (Lies.deeper _ _ _ hx) (Lies.deeper _ _ _ hy) (fun t' _ _ _ _ ht => by rw [e1] at ht; cases ht)
    have e2 : (headS t s && all2 (fun _ _ => true) t.items s.items) = sameV 0 t s := by rw [e1]; simp [all2, sameV]
    rw [e2] at h
    exact h
  | succ d ih =>
    intro t s x y w hx hy
    exact same_core d (sameV d) t s x y w hx hy (fun t' s' x' y' W' _ _ => ih t' s' x' y' W')

end Go.Proofs.YtgmmocbgeilpiaaGreat

namespace Go.Proofs.YtgmmocbgeilpiaaGreat
open Go.RowKit

theorem cmpL_zero {f : VT → VT → Int} {g : VT → VT → Bool} : ∀ (l m : List VT), (∀ x ∈ l, ∀ y ∈ m, (f x y = 0 ↔ g x y = true)) → (cmpL f l m = 0 ↔ (l.length = m.length ∧ all2 g l m = true)) := by
  intro l
  induction l with
  | nil => intro m _; cases m <;> simp [cmpL, all2]
  | cons x l ih =>
    intro m h
    cases m with
    | nil => simp [cmpL]
    | cons y m =>
      have h0 := h x (List.mem_cons_self) y (List.mem_cons_self)
      have h1 := ih m (fun a ha b hb => h a (List.mem_cons_of_mem _ ha) b (List.mem_cons_of_mem _ hb))
      simp only [cmpL, all2, List.length_cons, Bool.and_eq_true]
      by_cases e : f x y = 0
      · rw [if_pos e, h1]
        have := h0.1 e
        constructor
        · rintro ⟨a, b⟩; exact ⟨by omega, this, b⟩
        · rintro ⟨a, _, b⟩; exact ⟨by omega, b⟩
      · rw [if_neg e]
        constructor
        · intro h; exact absurd h e
        · rintro ⟨_, hh, _⟩; exact absurd (h0.2 hh) e

theorem cmpS_zero (a b : ByteArray) : cmpS a b = 0 ↔ (a.toList == b.toList) = true := by
  unfold cmpS
  cases h1 : Op.bytesLess a.toList b.toList
  · cases h2 : (a.toList == b.toList) <;> simp
  · have : (a.toList == b.toList) = false := by
      rw [beq_eq_false_iff_ne]
      intro e
      rw [e, bl_irrefl] at h1; cases h1
    simp [this]

theorem cmpI_zero_iff (a b : Int) : cmpI a b = 0 ↔ (a == b) = true := by
  constructor
  · intro h; simp [cmpI_zero a b h]
  · intro h
    have : a = b := by simpa using h
    subst this
    unfold cmpI
    simp

/-- What a right part of each kind holds. -/
theorem own_facts {d : Nat} {t : VT} (h : ownV d t = true) : 0 ≤ t.kind ∧ t.kind ≤ 6 ∧ (t.kind ≠ 1 → t.kind ≠ 2 → t.num = 0) ∧ (t.kind ≠ 3 → t.text.toList = []) ∧ (t.kind ≠ 4 → t.kind ≠ 5 → t.kind ≠ 6 → t.items.length = 0) := by
  simp only [ownV, Bool.and_eq_true, decide_eq_true_eq] at h
  obtain ⟨h0, h6, hn, ht, hi⟩ := h
  refine ⟨h0, h6, fun n1 n2 => ?_, fun n3 => ?_, fun n4 n5 n6 => ?_⟩
  · simp only [okNum] at hn
    rw [if_neg (by simpa using n2), if_neg (by simpa using n1)] at hn
    simpa using hn
  · simp only [okText] at ht
    rw [if_neg (by simpa using n3)] at ht
    simpa using ht
  · simp only [okItems] at hi
    rw [if_neg (by simpa using n4), if_neg (by simpa using n5), if_neg (by simpa using n6)] at hi
    simp only [beq_iff_eq] at hi
    omega

theorem eq_core {d : Nat} {f : VT → VT → Int} {g : VT → VT → Bool} {a b : VT} (ha : ownV d a = true) (hb : ownV d b = true) (hfg : ∀ x ∈ a.items, ∀ y ∈ b.items, (f x y = 0 ↔ g x y = true)) :
    cmpN f a b = 0 ↔ (headS a b && all2 g a.items b.items) = true := by
  obtain ⟨a0, a6, an, at', ai⟩ := own_facts ha
  obtain ⟨b0, b6, bn, bt, bi⟩ := own_facts hb
  by_cases hk : a.kind = b.kind
  · rw [cmpN_same f a b hk]
    unfold sameK
    simp only [headS, Bool.and_eq_true, beq_iff_eq]
    by_cases k1 : a.kind = 1 ∨ a.kind = 2
    · rw [if_pos k1]
      have e1 := at' (by omega)
      have e2 := bt (by omega)
      have e3 := List.eq_nil_of_length_eq_zero (ai (by omega) (by omega) (by omega))
      have e4 := List.eq_nil_of_length_eq_zero (bi (by omega) (by omega) (by omega))
      rw [cmpI_zero_iff, e1, e2, e3, e4]
      simp [hk, all2]
    · rw [if_neg k1]
      have n1 := an (by omega) (by omega)
      have n2 := bn (by omega) (by omega)
      by_cases k3 : a.kind = 3
      · rw [if_pos k3]
        have e3 := List.eq_nil_of_length_eq_zero (ai (by omega) (by omega) (by omega))
        have e4 := List.eq_nil_of_length_eq_zero (bi (by omega) (by omega) (by omega))
        rw [cmpS_zero, n1, n2, e3, e4]
        simp [hk, all2]
      · rw [if_neg k3]
        have e1 := at' k3
        have e2 := bt (by omega)
        by_cases k4 : a.kind = 4 ∨ a.kind = 5 ∨ a.kind = 6
        · rw [if_pos k4, cmpL_zero a.items b.items hfg, n1, n2, e1, e2]
          simp [hk]
        · rw [if_neg k4]
          have e3 := List.eq_nil_of_length_eq_zero (ai (by omega) (by omega) (by omega))
          have e4 := List.eq_nil_of_length_eq_zero (bi (by omega) (by omega) (by omega))
          rw [n1, n2, e1, e2, e3, e4]
          simp [hk, all2]
  · have h1 : cmpN f a b ≠ 0 := by
      unfold cmpN
      rw [if_pos hk]
      exact fun e => hk (cmpI_zero _ _ e)
    have h2 : (headS a b && all2 g a.items b.items) = false := by simp [headS, hk]
    constructor
    · intro h; exact absurd h h1
    · intro h; rw [h2] at h; cases h

theorem eq_same : ∀ (d : Nat) (a b : VT), rpV d a = true → rpV d b = true → (cmpV d a b = 0 ↔ sameV d a b = true) := by
  intro d
  induction d with
  | zero =>
    intro a b ha hb
    have h := eq_core (f := fun _ _ => 0) (g := fun _ _ => true) ha hb (fun _ _ _ _ => by simp)
    have e : ∀ l m : List VT, all2 (fun _ _ => true) l m = true := by
      intro l
      induction l with
      | nil => intro m; rfl
      | cons x l ih => intro m; cases m with
        | nil => rfl
        | cons y m => simp [all2, ih]
    rw [e, Bool.and_true] at h
    exact h
  | succ d ih =>
    intro a b ha hb
    simp only [rpV, Bool.and_eq_true, List.all_eq_true] at ha hb
    exact eq_core ha.2 hb.2 (fun x hx y hy => ih x y (ha.1 x hx) (hb.1 y hy))

theorem right_same (d : Nat) (a b : VT) (ha : rightV d a = true) (hb : rightV d b = true) : (cmpV d a b == 0) = sameV d a b := by
  simp only [rightV, Bool.and_eq_true] at ha hb
  have h := eq_same d a b ha.2 hb.2
  rw [Bool.eq_iff_iff, beq_iff_eq]
  exact h

end Go.Proofs.YtgmmocbgeilpiaaGreat

