/-
  The contract of the statements' own Value: equal in all fields.
-/
import Derived.Test.YtgihglodekoddaaUtf
import Derived.Deep.RegionHeld3
namespace Go.Proofs.Ytgihglodekoddaa
open Go.RowKit

def all2 (f : VT → VT → Bool) : List VT → List VT → Bool
  | x :: xs, y :: ys => f x y && all2 f xs ys
  | _, _ => true

def headS (a b : VT) : Bool := a.kind == b.kind && (a.num == b.num && (a.text.toList == b.text.toList && a.items.length == b.items.length))

def sameV : Nat → VT → VT → Bool
  | 0, a, b => headS a b
  | d + 1, a, b => headS a b && all2 (sameV d) a.items b.items

theorem all2_step (f : VT → VT → Bool) (l m : List VT) (j : Nat) (h1 : j < l.length) (h2 : j < m.length) : all2 f (l.drop j) (m.drop j) = (f l[j] m[j] && all2 f (l.drop (j + 1)) (m.drop (j + 1))) := by
  rw [List.drop_eq_getElem_cons h1, List.drop_eq_getElem_cons h2]; rfl

theorem all2_end (f : VT → VT → Bool) (l m : List VT) (j : Nat) (h : l.length ≤ j) : all2 f (l.drop j) (m.drop j) = true := by
  rw [List.drop_eq_nil_of_le h]; rfl

set_option maxHeartbeats 2000000 in
theorem same_core (d : Nat) (f : VT → VT → Bool) (t s : VT) (u v : Value) (w : World) (hu : Lies (d + 1) w t.items u) (hv : Lies (d + 1) w s.items v)
    (hf : Hid (∀ (x y : VT) (p q : Value) (W : World), x ∈ t.items → y ∈ s.items → Lies d W x.items p → Lies d W y.items q →
      Calls Try.prog 19 #[.agg #[.int .i64 x.kind, .int .i64 x.num, .string x.text, p], .agg #[.int .i64 y.kind, .int .i64 y.num, .string y.text, q]] W fun e W' => e = .returned (.bool (f x y)) ∧ Grew W W')) :
    Calls Try.prog 19 #[.agg #[.int .i64 t.kind, .int .i64 t.num, .string t.text, u], .agg #[.int .i64 s.kind, .int .i64 s.num, .string s.text, v]] w fun e w' => e = .returned (.bool (headS t s && all2 f t.items s.items)) ∧ Grew w w' := by
  obtain ⟨a1, c1, rfl, hb1, hr1⟩ := hu
  obtain ⟨a2, c2, rfl, hb2, hr2⟩ := hv
  have Hr1 : Hid _ := hr1; have Hr2 : Hid _ := hr2
  clear hr1 hr2
  have HB2 : Hid (∀ o1 o2 : Obj, Grew w ((w.alloc o1).alloc o2)) := Grew.two w
  cases hk : (t.kind == s.kind)
  · have hk' : (t.kind != s.kind) = true := by simp [bne, hk]
    have Hfin : Hid ((headS t s && all2 f t.items s.items) = false) := by show _ = _; simp [headS, hk]
    go_enter Try.func19, Try.ntmps19
    go_wp2_with fail
    go_ret
    exact ⟨by rw [Hfin.out]; rfl, HB2.out _ _⟩
  have hk' : (t.kind != s.kind) = false := by simp [bne, hk]
  cases hn : (t.num == s.num)
  · have hn' : (t.num != s.num) = true := by simp [bne, hn]
    have Hfin : Hid ((headS t s && all2 f t.items s.items) = false) := by show _ = _; simp [headS, hn]
    go_enter Try.func19, Try.ntmps19
    go_wp2_with fail
    go_ret
    exact ⟨by rw [Hfin.out]; rfl, HB2.out _ _⟩
  have hn' : (t.num != s.num) = false := by simp [bne, hn]
  cases ht : (t.text.toList == s.text.toList)
  · have ht' : (t.text.toList != s.text.toList) = true := by simp [bne, ht]
    have Hfin : Hid ((headS t s && all2 f t.items s.items) = false) := by show _ = _; simp [headS, ht]
    go_enter Try.func19, Try.ntmps19
    go_wp2_with fail
    go_ret
    exact ⟨by rw [Hfin.out]; rfl, HB2.out _ _⟩
  have ht' : (t.text.toList != s.text.toList) = false := by simp [bne, ht]
  by_cases hl : t.items.length = s.items.length
  · have hl' : ((t.items.length : Int) != (s.items.length : Int)) = false := by rw [hl]; simp
    have Hh : Hid (headS t s = true) := by show _ = _; simp [headS, hk, hn, ht, hl]
    have Hl : Hid (t.items.length = s.items.length) := hl
    clear hl
    go_enter Try.func19, Try.ntmps19
    go_wp2_with fail
    go_loopg [37] t.items.length (fun g i wr => ∃ j : Nat, i = .int .i64 j ∧ j ≤ t.items.length ∧ g = t.items.length - j ∧ Hid (all2 f t.items s.items = all2 f (t.items.drop j) (s.items.drop j)) ∧ Grew w wr ∧ w.heap.size + 2 ≤ wr.heap.size ∧ wr.cell? ⟨w.heap.size, 3, none⟩ = some (.slice a1 t.items.length c1) ∧ wr.cell? ⟨w.heap.size + 1, 3, none⟩ = some (.slice a2 s.items.length c2))
    case atStart => exact ⟨0, rfl, by omega, by omega, rfl, HB2.out _ _, by simp, by simp, by simp⟩
    case round =>
      obtain ⟨j, rfl, hj1, hgk, Hc, hbw, hsz2, x1, x2⟩ := hrel
      have Hk : Hid _ := hgk
      clear hgk hk hk' hn hn' ht ht' hl'
      by_cases hlt : j < t.items.length
      · have hlt2 : j < s.items.length := by have := Hl.out; omega
        obtain ⟨b1, o1, rfl, hall1⟩ := Hr1.out (by intro e; simp [e] at hlt)
        obtain ⟨b2, o2, rfl, hall2⟩ := Hr2.out (by intro e; simp [e] at hlt2)
        obtain ⟨x, p0, p1, p2, p3, p4, _⟩ := hall1 j hlt
        obtain ⟨y, q0, q1, q2, q3, q4, _⟩ := hall2 j hlt2
        clear hall1 hall2
        obtain ⟨ax, cx, rfl, _⟩ := Lies.slice p4
        obtain ⟨ay, cy, rfl, _⟩ := Lies.slice q4
        have p0 := cell_keeps hbw.below p0; have p1 := cell_keeps hbw.below p1; have p2 := cell_keeps hbw.below p2; have p3 := cell_keeps hbw.below p3
        have q0 := cell_keeps hbw.below q0; have q1 := cell_keeps hbw.below q1; have q2 := cell_keeps hbw.below q2; have q3 := cell_keeps hbw.below q3
        have p4 : Hid (Lies d w t.items[j].items (.slice ax t.items[j].items.length cx)) := p4
        have q4 : Hid (Lies d w s.items[j].items (.slice ay s.items[j].items.length cy)) := q4
        have hl1 : b1 < wr.heap.size := cell_lt p0
        have hl2 : b2 < wr.heap.size := cell_lt q0
        go_wp2_with fail
        have hfc : Hid _ := (hf.out t.items[j] s.items[j] (.slice ax t.items[j].items.length cx) (.slice ay s.items[j].items.length cy))
        go_region_held3 (fun w' => w'.cell? ⟨w.heap.size, 3, none⟩ = some (.slice (some ⟨b1, o1, none⟩) t.items.length c1) ∧ w'.cell? ⟨w.heap.size + 1, 3, none⟩ = some (.slice (some ⟨b2, o2, none⟩) s.items.length c2)
          ∧ w'.cell? ⟨b1, o1 + j * 4, none⟩ = some (.int .i64 t.items[j].kind) ∧ w'.cell? ⟨b1, o1 + j * 4 + 1, none⟩ = some (.int .i64 t.items[j].num) ∧ w'.cell? ⟨b1, o1 + j * 4 + 2, none⟩ = some (.string t.items[j].text) ∧ w'.cell? ⟨b1, o1 + j * 4 + 3, none⟩ = some (.slice ax t.items[j].items.length cx)
          ∧ w'.cell? ⟨b2, o2 + j * 4, none⟩ = some (.int .i64 s.items[j].kind) ∧ w'.cell? ⟨b2, o2 + j * 4 + 1, none⟩ = some (.int .i64 s.items[j].num) ∧ w'.cell? ⟨b2, o2 + j * 4 + 2, none⟩ = some (.string s.items[j].text) ∧ w'.cell? ⟨b2, o2 + j * 4 + 3, none⟩ = some (.slice ay s.items[j].items.length cy)) (go_keep)
          (first | (go_at_call 19; refine (hfc.out _ (List.getElem_mem hlt) (List.getElem_mem hlt2) ?_ ?_).mono ?_; exact Lies.keeps hbw.drew.below _ _ _ p4.out; exact Lies.keeps hbw.drew.below _ _ _ q4.out; rintro e w1 ⟨rfl, hb1⟩; have hb2 : Grew wr w1 := ((Grew.refl wr).drew).trans hb1; clear hb1; have r0 := cell_keeps hb2.below p0; have r1 := cell_keeps hb2.below p1; have r2 := cell_keeps hb2.below p2; have r3 := cell_keeps hb2.below p3; have t0 := cell_keeps hb2.below q0; have t1 := cell_keeps hb2.below q1; have t2 := cell_keeps hb2.below q2; have t3 := cell_keeps hb2.below q3; have y1 := cell_keeps hb2.below x1; have y2 := cell_keeps hb2.below x2))
        clear hfc p4 q4 hf p0 p1 p2 p3 q0 q1 q2 q3 r0 r1 r2 r3 t0 t1 t2 t3 x1 x2
        have hb3 : Grew w w1 := hbw.trans hb2
        have hs3 : w.heap.size + 2 ≤ w1.heap.size := by have := hb2.below.size; omega
        have Hs : Hid _ := all2_step f t.items s.items j hlt hlt2
        cases hz : f t.items[j] s.items[j]
        · go_wp2_with fail
          go_ret
          exact ⟨by rw [Hh.out, Hc.out, Hs.out, hz]; rfl, hb3⟩
        · go_wp2_with fail
          go_roundg (t.items.length - (j + 1))
          case measure => have := Hk.out; omega
          case rel =>
            refine ⟨j + 1, by go_num, by omega, rfl, ?_, hb3, hs3, y1, y2⟩
            show _ = _
            rw [Hc.out, Hs.out, hz]; rfl
      · have Hs : Hid _ := all2_end f t.items s.items j (by omega)
        go_wp2_with fail
        go_ret
        exact ⟨by rw [Hh.out, Hc.out, Hs.out]; rfl, hbw⟩
  · have hl' : ((t.items.length : Int) != (s.items.length : Int)) = true := by rw [bne_iff_ne]; omega
    have Hfin : Hid ((headS t s && all2 f t.items s.items) = false) := by show _ = _; simp [headS, hl]
    clear hl
    go_enter Try.func19, Try.ntmps19
    go_wp2_with fail
    go_ret
    exact ⟨by rw [Hfin.out]; rfl, HB2.out _ _⟩

theorem same_any : ∀ (d : Nat) (t s : VT) (x y : Value) (w : World), Lies d w t.items x → Lies d w s.items y →
    Calls Try.prog 19 #[.agg #[.int .i64 t.kind, .int .i64 t.num, .string t.text, x], .agg #[.int .i64 s.kind, .int .i64 s.num, .string s.text, y]] w fun e w' => e = .returned (.bool (sameV d t s)) ∧ Grew w w' := by
  intro d
  induction d with
  | zero =>
    intro t s x y w hx hy
    have e1 : t.items = [] := hx.1
    have h := same_core 0 (fun _ _ => true) t s x y w (Lies.deeper _ _ _ hx) (Lies.deeper _ _ _ hy) (fun t' _ _ _ _ ht => by rw [e1] at ht; cases ht)
    have e2 : (headS t s && all2 (fun _ _ => true) t.items s.items) = sameV 0 t s := by rw [e1]; simp [all2, sameV]
    rw [e2] at h
    exact h
  | succ d ih =>
    intro t s x y w hx hy
    exact same_core d (sameV d) t s x y w hx hy (fun t' s' x' y' W' _ _ => ih t' s' x' y' W')

end Go.Proofs.Ytgihglodekoddaa

