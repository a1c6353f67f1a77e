import Derived.Test.YtlnecfjnffdciaaGreatList
import Derived.Test.YtlnecfjnffdciaaGreatRunesP
import Derived.Deep.RegionHeld3
import Derived.Test.YtlnecfjnffdciaaGreatSymC
namespace Go.Proofs.YtlnecfjnffdciaaGreat
open Go.RowKit

def sumI (f : VT → Int) : List VT → Int
 | [] => 0
 | x :: xs => f x + sumI f xs

def cpV : Nat → VT → Int
 | 0, _ => 1
 | d + 1, t => 1 + sumI (cpV d) t.items

theorem sumI_nonneg {f : VT → Int} (h : ∀ x, 0 ≤ f x) : ∀ l, 0 ≤ sumI f l := by
 intro l
 induction l with
 | nil => exact Int.le_refl _
 | cons x l ih => have := h x; unfold sumI; omega

theorem cpV_pos : ∀ (d : Nat) (t : VT), 1 ≤ cpV d t := by
 intro d
 induction d with
 | zero => intro t; exact Int.le_refl _
 | succ d ih => intro t; have := sumI_nonneg (f := cpV d) (fun x => by have := ih x; omega) t.items; unfold cpV; omega

theorem sumI_step (f : VT → Int) (l : List VT) (j : Nat) (h : j < l.length) : sumI f (l.take (j + 1)) = sumI f (l.take j) + f l[j] := by
 rw [List.take_succ_eq_append_getElem h]
 generalize l[j] = x
 generalize l.take j = m
 induction m with
 | nil => simp [sumI]
 | cons y m ih => simp only [List.cons_append, sumI, ih]; omega

theorem sumI_take {f : VT → Int} (hf : ∀ x, 0 ≤ f x) (l : List VT) (j : Nat) : sumI f (l.take j) ≤ sumI f l := by
 have e : sumI f l = sumI f (l.take j) + sumI f (l.drop j) := by
  conv => lhs; rw [← List.take_append_drop j l]
  generalize l.take j = m
  induction m with
  | nil => simp [sumI]
  | cons y m ih => simp only [List.cons_append, sumI, ih]; omega
 have := sumI_nonneg hf (l.drop j)
 omega

theorem sumI_mem {f : VT → Int} (hf : ∀ x, 0 ≤ f x) : ∀ (l : List VT) (x : VT), x ∈ l → f x ≤ sumI f l := by
 intro l
 induction l with
 | nil => intro x h; cases h
 | cons y l ih =>
  intro x h
  unfold sumI
  rcases List.mem_cons.1 h with rfl | h
  ·have := sumI_nonneg hf l; omega
  ·have := ih x h; have := hf y; omega

theorem fwL_count {f : VT → Int → Bool × Int} {g : VT → Int} (hf : ∀ x m, 0 ≤ m → 0 ≤ (f x m).2) (hg : ∀ x m, 0 ≤ m → (f x m).1 = true → (f x m).2 = m - g x) : ∀ (l : List VT) (n : Int), 0 ≤ n → (fwL f l n).1 = true → (fwL f l n).2 = n - sumI g l := by
 intro l
 induction l with
 | nil => intro n h _; simp [fwL, sumI]
 | cons x l ih =>
  intro n h hh
  unfold fwL at hh ⊢
  by_cases hx : (f x n).1 = true
  ·rw [if_pos hx] at hh ⊢
   have h1 := hf x n h
   have h2 := hg x n h hx
   have h3 := ih (f x n).2 h1 hh
   unfold sumI
   omega
  ·rw [if_neg hx] at hh; cases hh

theorem fw_count : ∀ (d : Nat) (t : VT) (lv n : Int), 0 ≤ n → (fw d t lv n).1 = true → (fw d t lv n).2 = n - cpV d t := by
 intro d
 induction d with
 | zero =>
  intro t lv n h hh
  unfold fw at hh ⊢
  by_cases hx : lv < 0 ∨ n = 0
  ·rw [if_pos hx] at hh; cases hh
  ·rw [if_neg hx]; rfl
 | succ d ih =>
  intro t lv n h hh
  unfold fw at hh ⊢
  by_cases hx : lv < 0 ∨ n = 0
  ·rw [if_pos hx] at hh; cases hh
  ·rw [if_neg hx] at hh ⊢
   have := fwL_count (f := fun x m => fw d x (lv - 1) m) (g := cpV d) (fun x m hm => (fw_range d x (lv - 1) m hm).1) (fun x m hm hb => ih x (lv - 1) m hm hb) t.items (n - 1) (by omega) hh
   unfold cpV
   omega

theorem fits_parts (d : Nat) (t : VT) (h : (fw d t 16 1024).1 = true) : cpV d t ≤ 1024 := by
 have h1 := fw_count d t 16 1024 (by omega) h
 have h2 := (fw_range d t 16 1024 (by omega)).1
 omega

set_option maxHeartbeats 1000000 in
theorem countParts_core (d : Nat) (f : VT → Int) (hf0 : Hid (∀ x, 1 ≤ f x)) (t : VT) (u : Value) (w : World) (hu : Lies (d + 1) w t.items u) (hsum : sumI f t.items ≤ 1024)
 (hf : Hid (∀ (x : VT) (v : Value) (W : World), x ∈ t.items → Lies d W x.items v →
  Calls Tryz.prog 214 #[.agg #[.int .i64 x.kind, .int .i64 x.num, .string x.text, v]] W fun e W' => e = .returned (.int .i64 (f x)) ∧ Grew W W')) :
 Calls Tryz.prog 214 #[.agg #[.int .i64 t.kind, .int .i64 t.num, .string t.text, u]] w fun e w' => e = .returned (.int .i64 (1 + sumI f t.items)) ∧ Grew w w' := by
 obtain ⟨a, c, rfl, hb1, hr1⟩ := hu
 have Hr : Hid _ := hr1
 clear hr1
 go_enter Tryz.func214, Tryz.ntmps214
 go_wp2_with fail
 go_loopg [3, 9] t.items.length (fun g v i wr => ∃ j : Nat, i = .int .i64 (j : Int) ∧ j ≤ t.items.length ∧ g = t.items.length - j ∧ v = .int .i64 (1 + sumI f (t.items.take j)) ∧ Grew w wr)
 case atStart => exact ⟨0, rfl, by omega, by omega, rfl, (Grew.refl _).alloc _⟩
 case round =>
  obtain ⟨j, rfl, hj, hk, rfl, hbw⟩ := hrel
  have Hk : Hid _ := hk
  clear hk
  by_cases hlt : j < t.items.length
  ·obtain ⟨b1, o1, rfl, hall1⟩ := Hr.out (by intro e; simp [e] at hlt)
   obtain ⟨x, p0, p1, p2, p3, p4, p5⟩ := hall1 j hlt
   clear hall1
   obtain ⟨ax, cx, rfl, _⟩ := Lies.slice p4
   have p0 := cell_keeps hbw.below p0; have p1 := cell_keeps hbw.below p1; have p2 := cell_keeps hbw.below p2; have p3 := cell_keeps hbw.below p3
   have p4 : Hid (Lies d w t.items[j].items (.slice ax t.items[j].items.length cx)) := p4
   have hl1 : b1 < wr.heap.size := cell_lt p0
   have Hst : Hid _ := sumI_step f t.items j hlt
   have h1 := sumI_nonneg (f := f) (fun x => by have := hf0.out x; omega) (t.items.take j)
   have h2 := sumI_take (f := f) (fun x => by have := hf0.out x; omega) t.items (j + 1)
   rw [Hst.out] at h2
   have h3 := hf0.out t.items[j]
   go_wp2_with fail
   have hfc := hf.out t.items[j] (.slice ax t.items[j].items.length cx)
   refine (hfc _ (List.getElem_mem hlt) (Lies.keeps (hbw.alloc _).below _ _ _ p4.out)).mono ?_
   rintro e w1 ⟨rfl, hg⟩
   have hb2 : Grew w w1 := (hbw.alloc _).trans hg
   clear hg hfc p0 p1 p2 p3 p4 hf
   go_wp2_with fail
   go_roundg (t.items.length - (j + 1))
   case measure => have := Hk.out; omega
   case rel =>
    refine ⟨j + 1, by go_num, by omega, rfl, ?_, hb2⟩
    rw [Hst.out, Int.add_assoc]
  ·have hjl : j = t.items.length := by omega
   have Hj : Hid _ := hjl
   clear hjl
   go_wp2_with fail
   go_ret
   exact ⟨ret_int (by rw [Hj.out, List.take_length]), hbw⟩

theorem countParts_any : ∀ (d : Nat) (t : VT) (u : Value) (w : World), Lies d w t.items u → cpV d t ≤ 1024 →
 Calls Tryz.prog 214 #[.agg #[.int .i64 t.kind, .int .i64 t.num, .string t.text, u]] w fun e w' => e = .returned (.int .i64 (cpV d t)) ∧ Grew w w' := by
 intro d
 induction d with
 | zero =>
  intro t u w hu _
  have e1 : t.items = [] := hu.1
  have h := countParts_core 0 (fun _ => 1) (fun _ => Int.le_refl _) t u w (Lies.deeper _ _ _ hu) (by rw [e1]; simp [sumI]) (fun x _ _ hx => by rw [e1] at hx; cases hx)
  rw [e1] at h
  exact h
 | succ d ih =>
  intro t u w hu hp
  have hpos : ∀ x, 0 ≤ cpV d x := fun x => by have := cpV_pos d x; omega
  unfold cpV at hp
  exact countParts_core d (cpV d) (cpV_pos d) t u w hu (by omega) (fun x v W hx hl => ih x v W hl (by have := sumI_mem hpos t.items x hx; omega))

set_option maxHeartbeats 1000000 in
theorem parts_any (d : Nat) (t : VT) (u : Value) (w : World) (hu : Lies d w t.items u) (hs : t.text.size ≤ 9223372036854775807) :
 Calls Tryz.prog 204 #[.agg #[.int .i64 t.kind, .int .i64 t.num, .string t.text, u]] w fun e w' => e = .returned (.tuple #[.int .i64 (if rightV d t then cpV d t else 0), .int .i64 (errOf (rightV d t))]) ∧ Below w.heap.size w w' := by
 obtain ⟨a, c, rfl, _⟩ := Lies.slice hu
 have HL : Hid _ := fun (o : Obj) => Lies.keeps ((Grew.refl w).alloc o).below _ _ _ hu
 have HL0 : Hid _ := hu
 clear hu
 have Hr : Hid (rightV d t = true → cpV d t ≤ 1024) := fun h => fits_parts d t (by unfold rightV at h; simp at h; exact h.1)
 cases hr : rightV d t
 ·go_enter Tryz.func204, Tryz.ntmps204
  go_wp2_with fail
  refine (check_any d t _ _ (HL.out _) hs).mono ?_
  rintro e w1 ⟨rfl, hb⟩
  have hb1 : Below w.heap.size w w1 := ((Grew.refl w).alloc _).below.trans (hb.mono (by simp))
  clear hb
  have he : errOf (rightV d t) = 3 := by simp [errOf, hr]
  rw [he]
  clear he
  go_wp2_with fail
  go_ret2
  exact ⟨by simp [errOf], hb1⟩
 ·go_enter Tryz.func204, Tryz.ntmps204
  go_wp2_with fail
  refine (check_any d t _ _ (HL.out _) hs).mono ?_
  rintro e w1 ⟨rfl, hb⟩
  have hb1 : Below w.heap.size w w1 := ((Grew.refl w).alloc _).below.trans (hb.mono (by simp))
  obtain ⟨c0, c1, c2, c3⟩ := (boxed_alloc w t.kind t.num t.text (.slice a t.items.length c) 34).keeps hb
  clear hb
  have he : errOf (rightV d t) = 0 := by simp [errOf, hr]
  rw [he]
  clear he
  go_wp2_with fail
  refine (countParts_any d t _ _ (Lies.keeps hb1 _ _ _ HL0.out) (Hr.out hr)).mono ?_
  rintro e w2 ⟨rfl, hg⟩
  go_wp2_with fail
  go_ret2
  exact ⟨by simp [errOf], hb1.trans (hg.below.mono hb1.size)⟩

end Go.Proofs.YtlnecfjnffdciaaGreat

namespace Go.Proofs.YtlnecfjnffdciaaGreat
open Go.RowKit

def all2 (f : VT → VT → Bool) : List VT → List VT → Bool
 | x :: xs, y :: ys => f x y && all2 f xs ys
 | _, _ => true

def headS (a b : VT) : Bool := a.kind == b.kind && (a.num == b.num && (a.text.toList == b.text.toList && a.items.length == b.items.length))

def sameV : Nat → VT → VT → Bool
 | 0, a, b => headS a b
 | d + 1, a, b => headS a b && all2 (sameV d) a.items b.items

theorem all2_step (f : VT → VT → Bool) (l m : List VT) (j : Nat) (h1 : j < l.length) (h2 : j < m.length) : all2 f (l.drop j) (m.drop j) = (f l[j] m[j] && all2 f (l.drop (j + 1)) (m.drop (j + 1))) := by
 rw [List.drop_eq_getElem_cons h1, List.drop_eq_getElem_cons h2]; rfl

theorem all2_end (f : VT → VT → Bool) (l m : List VT) (j : Nat) (h : l.length ≤ j) : all2 f (l.drop j) (m.drop j) = true := by
 rw [List.drop_eq_nil_of_le h]; rfl

set_option maxHeartbeats 2000000 in
theorem same_core (d : Nat) (f : VT → VT → Bool) (t s : VT) (u v : Value) (w : World) (hu : Lies (d + 1) w t.items u) (hv : Lies (d + 1) w s.items v)
 (hf : Hid (∀ (x y : VT) (p q : Value) (W : World), x ∈ t.items → y ∈ s.items → Lies d W x.items p → Lies d W y.items q →
  Calls Tryz.prog 17 #[.agg #[.int .i64 x.kind, .int .i64 x.num, .string x.text, p], .agg #[.int .i64 y.kind, .int .i64 y.num, .string y.text, q]] W fun e W' => e = .returned (.bool (f x y)) ∧ Grew W W')) :
 Calls Tryz.prog 17 #[.agg #[.int .i64 t.kind, .int .i64 t.num, .string t.text, u], .agg #[.int .i64 s.kind, .int .i64 s.num, .string s.text, v]] w fun e w' => e = .returned (.bool (headS t s && all2 f t.items s.items)) ∧ Grew w w' := by
 obtain ⟨a1, c1, rfl, hb1, hr1⟩ := hu
 obtain ⟨a2, c2, rfl, hb2, hr2⟩ := hv
 have Hr1 : Hid _ := hr1; have Hr2 : Hid _ := hr2
 clear hr1 hr2
 have HB2 : Hid (∀ o1 o2 : Obj, Grew w ((w.alloc o1).alloc o2)) := Grew.two w
 cases hk : (t.kind == s.kind)
 ·have hk' : (t.kind != s.kind) = true := by simp [bne, hk]
  have Hfin : Hid ((headS t s && all2 f t.items s.items) = false) := by show _ = _; simp [headS, hk]
  go_enter Tryz.func17, Tryz.ntmps17
  go_wp2_with fail
  go_ret
  exact ⟨by rw [Hfin.out]; rfl, HB2.out _ _⟩
 have hk' : (t.kind != s.kind) = false := by simp [bne, hk]
 cases hn : (t.num == s.num)
 ·have hn' : (t.num != s.num) = true := by simp [bne, hn]
  have Hfin : Hid ((headS t s && all2 f t.items s.items) = false) := by show _ = _; simp [headS, hn]
  go_enter Tryz.func17, Tryz.ntmps17
  go_wp2_with fail
  go_ret
  exact ⟨by rw [Hfin.out]; rfl, HB2.out _ _⟩
 have hn' : (t.num != s.num) = false := by simp [bne, hn]
 cases ht : (t.text.toList == s.text.toList)
 ·have ht' : (t.text.toList != s.text.toList) = true := by simp [bne, ht]
  have Hfin : Hid ((headS t s && all2 f t.items s.items) = false) := by show _ = _; simp [headS, ht]
  go_enter Tryz.func17, Tryz.ntmps17
  go_wp2_with fail
  go_ret
  exact ⟨by rw [Hfin.out]; rfl, HB2.out _ _⟩
 have ht' : (t.text.toList != s.text.toList) = false := by simp [bne, ht]
 by_cases hl : t.items.length = s.items.length
 ·have hl' : ((t.items.length : Int) != (s.items.length : Int)) = false := by rw [hl]; simp
  have Hh : Hid (headS t s = true) := by show _ = _; simp [headS, hk, hn, ht, hl]
  have Hl : Hid (t.items.length = s.items.length) := hl
  clear hl
  go_enter Tryz.func17, Tryz.ntmps17
  go_wp2_with fail
  go_loopg [37] t.items.length (fun g i wr => ∃ j : Nat, i = .int .i64 j ∧ j ≤ t.items.length ∧ g = t.items.length - j ∧ Hid (all2 f t.items s.items = all2 f (t.items.drop j) (s.items.drop j)) ∧ Grew w wr ∧ w.heap.size + 2 ≤ wr.heap.size ∧ wr.cell? ⟨w.heap.size, 3, none⟩ = some (.slice a1 t.items.length c1) ∧ wr.cell? ⟨w.heap.size + 1, 3, none⟩ = some (.slice a2 s.items.length c2))
  case atStart => exact ⟨0, rfl, by omega, by omega, rfl, HB2.out _ _, by simp, by simp, by simp⟩
  case round =>
   obtain ⟨j, rfl, hj1, hgk, Hc, hbw, hsz2, x1, x2⟩ := hrel
   have Hk : Hid _ := hgk
   clear hgk hk hk' hn hn' ht ht' hl'
   by_cases hlt : j < t.items.length
   ·have hlt2 : j < s.items.length := by have := Hl.out; omega
    obtain ⟨b1, o1, rfl, hall1⟩ := Hr1.out (by intro e; simp [e] at hlt)
    obtain ⟨b2, o2, rfl, hall2⟩ := Hr2.out (by intro e; simp [e] at hlt2)
    obtain ⟨x, p0, p1, p2, p3, p4, _⟩ := hall1 j hlt
    obtain ⟨y, q0, q1, q2, q3, q4, _⟩ := hall2 j hlt2
    clear hall1 hall2
    obtain ⟨ax, cx, rfl, _⟩ := Lies.slice p4
    obtain ⟨ay, cy, rfl, _⟩ := Lies.slice q4
    have p0 := cell_keeps hbw.below p0; have p1 := cell_keeps hbw.below p1; have p2 := cell_keeps hbw.below p2; have p3 := cell_keeps hbw.below p3
    have q0 := cell_keeps hbw.below q0; have q1 := cell_keeps hbw.below q1; have q2 := cell_keeps hbw.below q2; have q3 := cell_keeps hbw.below q3
    have p4 : Hid (Lies d w t.items[j].items (.slice ax t.items[j].items.length cx)) := p4
    have q4 : Hid (Lies d w s.items[j].items (.slice ay s.items[j].items.length cy)) := q4
    have hl1 : b1 < wr.heap.size := cell_lt p0
    have hl2 : b2 < wr.heap.size := cell_lt q0
    go_wp2_with fail
    have hfc : Hid _ := (hf.out t.items[j] s.items[j] (.slice ax t.items[j].items.length cx) (.slice ay s.items[j].items.length cy))
    go_region_held3 (fun w' => w'.cell? ⟨w.heap.size, 3, none⟩ = some (.slice (some ⟨b1, o1, none⟩) t.items.length c1) ∧ w'.cell? ⟨w.heap.size + 1, 3, none⟩ = some (.slice (some ⟨b2, o2, none⟩) s.items.length c2)
     ∧ w'.cell? ⟨b1, o1 + j * 4, none⟩ = some (.int .i64 t.items[j].kind) ∧ w'.cell? ⟨b1, o1 + j * 4 + 1, none⟩ = some (.int .i64 t.items[j].num) ∧ w'.cell? ⟨b1, o1 + j * 4 + 2, none⟩ = some (.string t.items[j].text) ∧ w'.cell? ⟨b1, o1 + j * 4 + 3, none⟩ = some (.slice ax t.items[j].items.length cx)
     ∧ w'.cell? ⟨b2, o2 + j * 4, none⟩ = some (.int .i64 s.items[j].kind) ∧ w'.cell? ⟨b2, o2 + j * 4 + 1, none⟩ = some (.int .i64 s.items[j].num) ∧ w'.cell? ⟨b2, o2 + j * 4 + 2, none⟩ = some (.string s.items[j].text) ∧ w'.cell? ⟨b2, o2 + j * 4 + 3, none⟩ = some (.slice ay s.items[j].items.length cy)) (go_keep)
     (first | (go_at_call 17; refine (hfc.out _ (List.getElem_mem hlt) (List.getElem_mem hlt2) ?_ ?_).mono ?_; exact Lies.keeps hbw.drew.below _ _ _ p4.out; exact Lies.keeps hbw.drew.below _ _ _ q4.out; rintro e w1 ⟨rfl, hb1⟩; have hb2 : Grew wr w1 := ((Grew.refl wr).drew).trans hb1; clear hb1; have r0 := cell_keeps hb2.below p0; have r1 := cell_keeps hb2.below p1; have r2 := cell_keeps hb2.below p2; have r3 := cell_keeps hb2.below p3; have t0 := cell_keeps hb2.below q0; have t1 := cell_keeps hb2.below q1; have t2 := cell_keeps hb2.below q2; have t3 := cell_keeps hb2.below q3; have y1 := cell_keeps hb2.below x1; have y2 := cell_keeps hb2.below x2))
    clear hfc p4 q4 hf p0 p1 p2 p3 q0 q1 q2 q3 r0 r1 r2 r3 t0 t1 t2 t3 x1 x2
    have hb3 : Grew w w1 := hbw.trans hb2
    have hs3 : w.heap.size + 2 ≤ w1.heap.size := by have := hb2.below.size; omega
    have Hs : Hid _ := all2_step f t.items s.items j hlt hlt2
    cases hz : f t.items[j] s.items[j]
    ·go_wp2_with fail
     go_ret
     exact ⟨by rw [Hh.out, Hc.out, Hs.out, hz]; rfl, hb3⟩
    ·go_wp2_with fail
     go_roundg (t.items.length - (j + 1))
     case measure => have := Hk.out; omega
     case rel =>
      refine ⟨j + 1, by go_num, by omega, rfl, ?_, hb3, hs3, y1, y2⟩
      show _ = _
      rw [Hc.out, Hs.out, hz]; rfl
   ·have Hs : Hid _ := all2_end f t.items s.items j (by omega)
    go_wp2_with fail
    go_ret
    exact ⟨by rw [Hh.out, Hc.out, Hs.out]; rfl, hbw⟩
 ·have hl' : ((t.items.length : Int) != (s.items.length : Int)) = true := by rw [bne_iff_ne]; omega
  have Hfin : Hid ((headS t s && all2 f t.items s.items) = false) := by show _ = _; simp [headS, hl]
  clear hl
  go_enter Tryz.func17, Tryz.ntmps17
  go_wp2_with fail
  go_ret
  exact ⟨by rw [Hfin.out]; rfl, HB2.out _ _⟩

theorem same_any : ∀ (d : Nat) (t s : VT) (x y : Value) (w : World), Lies d w t.items x → Lies d w s.items y →
 Calls Tryz.prog 17 #[.agg #[.int .i64 t.kind, .int .i64 t.num, .string t.text, x], .agg #[.int .i64 s.kind, .int .i64 s.num, .string s.text, y]] w fun e w' => e = .returned (.bool (sameV d t s)) ∧ Grew w w' := by
 intro d
 induction d with
 | zero =>
  intro t s x y w hx hy
  have e1 : t.items = [] := hx.1
  have h := same_core 0 (fun _ _ => true) t s x y w (Lies.deeper _ _ _ hx) (Lies.deeper _ _ _ hy) (fun t' _ _ _ _ ht => by rw [e1] at ht; cases ht)
  have e2 : (headS t s && all2 (fun _ _ => true) t.items s.items) = sameV 0 t s := by rw [e1]; simp [all2, sameV]
  rw [e2] at h
  exact h
 | succ d ih =>
  intro t s x y w hx hy
  exact same_core d (sameV d) t s x y w hx hy (fun t' s' x' y' W' _ _ => ih t' s' x' y' W')

end Go.Proofs.YtlnecfjnffdciaaGreat

namespace Go.Proofs.YtlnecfjnffdciaaGreat
open Go.RowKit

theorem cmpL_zero {f : VT → VT → Int} {g : VT → VT → Bool} : ∀ (l m : List VT), (∀ x ∈ l, ∀ y ∈ m, (f x y = 0 ↔ g x y = true)) → (cmpL f l m = 0 ↔ (l.length = m.length ∧ all2 g l m = true)) := by
 intro l
 induction l with
 | nil => intro m _; cases m <;> simp [cmpL, all2]
 | cons x l ih =>
  intro m h
  cases m with
  | nil => simp [cmpL]
  | cons y m =>
   have h0 := h x (List.mem_cons_self) y (List.mem_cons_self)
   have h1 := ih m (fun a ha b hb => h a (List.mem_cons_of_mem _ ha) b (List.mem_cons_of_mem _ hb))
   simp only [cmpL, all2, List.length_cons, Bool.and_eq_true]
   by_cases e : f x y = 0
   ·rw [if_pos e, h1]
    have := h0.1 e
    constructor
    ·rintro ⟨a, b⟩; exact ⟨by omega, this, b⟩
    ·rintro ⟨a, _, b⟩; exact ⟨by omega, b⟩
   ·rw [if_neg e]
    constructor
    ·intro h; exact absurd h e
    ·rintro ⟨_, hh, _⟩; exact absurd (h0.2 hh) e

theorem cmpS_zero (a b : ByteArray) : cmpS a b = 0 ↔ (a.toList == b.toList) = true := by
 unfold cmpS
 cases h1 : Op.bytesLess a.toList b.toList
 ·cases h2 : (a.toList == b.toList) <;> simp
 ·have : (a.toList == b.toList) = false := by
   rw [beq_eq_false_iff_ne]
   intro e
   rw [e, bl_irrefl] at h1; cases h1
  simp [this]

theorem cmpI_zero_iff (a b : Int) : cmpI a b = 0 ↔ (a == b) = true := by
 constructor
 ·intro h; simp [cmpI_zero a b h]
 ·intro h
  have : a = b := by simpa using h
  subst this
  unfold cmpI
  simp

theorem own_facts {d : Nat} {t : VT} (h : ownV d t = true) : 0 ≤ t.kind ∧ t.kind ≤ 6 ∧ (t.kind ≠ 1 → t.kind ≠ 2 → t.num = 0) ∧ (t.kind ≠ 3 → t.text.toList = []) ∧ (t.kind ≠ 4 → t.kind ≠ 5 → t.kind ≠ 6 → t.items.length = 0) := by
 simp only [ownV, Bool.and_eq_true, decide_eq_true_eq] at h
 obtain ⟨h0, h6, hn, ht, hi⟩ := h
 refine ⟨h0, h6, fun n1 n2 => ?_, fun n3 => ?_, fun n4 n5 n6 => ?_⟩
 ·simp only [okNum] at hn
  rw [if_neg (by simpa using n2), if_neg (by simpa using n1)] at hn
  simpa using hn
 ·simp only [okText] at ht
  rw [if_neg (by simpa using n3)] at ht
  simpa using ht
 ·simp only [okItems] at hi
  rw [if_neg (by simpa using n4), if_neg (by simpa using n5), if_neg (by simpa using n6)] at hi
  simp only [beq_iff_eq] at hi
  omega

theorem eq_core {d : Nat} {f : VT → VT → Int} {g : VT → VT → Bool} {a b : VT} (ha : ownV d a = true) (hb : ownV d b = true) (hfg : ∀ x ∈ a.items, ∀ y ∈ b.items, (f x y = 0 ↔ g x y = true)) :
 cmpN f a b = 0 ↔ (headS a b && all2 g a.items b.items) = true := by
 obtain ⟨a0, a6, an, at', ai⟩ := own_facts ha
 obtain ⟨b0, b6, bn, bt, bi⟩ := own_facts hb
 by_cases hk : a.kind = b.kind
 ·rw [cmpN_same f a b hk]
  unfold sameK
  simp only [headS, Bool.and_eq_true, beq_iff_eq]
  by_cases k1 : a.kind = 1 ∨ a.kind = 2
  ·rw [if_pos k1]
   have e1 := at' (by omega)
   have e2 := bt (by omega)
   have e3 := List.eq_nil_of_length_eq_zero (ai (by omega) (by omega) (by omega))
   have e4 := List.eq_nil_of_length_eq_zero (bi (by omega) (by omega) (by omega))
   rw [cmpI_zero_iff, e1, e2, e3, e4]
   simp [hk, all2]
  ·rw [if_neg k1]
   have n1 := an (by omega) (by omega)
   have n2 := bn (by omega) (by omega)
   by_cases k3 : a.kind = 3
   ·rw [if_pos k3]
    have e3 := List.eq_nil_of_length_eq_zero (ai (by omega) (by omega) (by omega))
    have e4 := List.eq_nil_of_length_eq_zero (bi (by omega) (by omega) (by omega))
    rw [cmpS_zero, n1, n2, e3, e4]
    simp [hk, all2]
   ·rw [if_neg k3]
    have e1 := at' k3
    have e2 := bt (by omega)
    by_cases k4 : a.kind = 4 ∨ a.kind = 5 ∨ a.kind = 6
    ·rw [if_pos k4, cmpL_zero a.items b.items hfg, n1, n2, e1, e2]
     simp [hk]
    ·rw [if_neg k4]
     have e3 := List.eq_nil_of_length_eq_zero (ai (by omega) (by omega) (by omega))
     have e4 := List.eq_nil_of_length_eq_zero (bi (by omega) (by omega) (by omega))
     rw [n1, n2, e1, e2, e3, e4]
     simp [hk, all2]
 ·have h1 : cmpN f a b ≠ 0 := by
   unfold cmpN
   rw [if_pos hk]
   exact fun e => hk (cmpI_zero _ _ e)
  have h2 : (headS a b && all2 g a.items b.items) = false := by simp [headS, hk]
  constructor
  ·intro h; exact absurd h h1
  ·intro h; rw [h2] at h; cases h

theorem eq_same : ∀ (d : Nat) (a b : VT), rpV d a = true → rpV d b = true → (cmpV d a b = 0 ↔ sameV d a b = true) := by
 intro d
 induction d with
 | zero =>
  intro a b ha hb
  have h := eq_core (f := fun _ _ => 0) (g := fun _ _ => true) ha hb (fun _ _ _ _ => by simp)
  have e : ∀ l m : List VT, all2 (fun _ _ => true) l m = true := by
   intro l
   induction l with
   | nil => intro m; rfl
   | cons x l ih => intro m; cases m with
    | nil => rfl
    | cons y m => simp [all2, ih]
  rw [e, Bool.and_true] at h
  exact h
 | succ d ih =>
  intro a b ha hb
  simp only [rpV, Bool.and_eq_true, List.all_eq_true] at ha hb
  exact eq_core ha.2 hb.2 (fun x hx y hy => ih x y (ha.1 x hx) (hb.1 y hy))

theorem right_same (d : Nat) (a b : VT) (ha : rightV d a = true) (hb : rightV d b = true) : (cmpV d a b == 0) = sameV d a b := by
 simp only [rightV, Bool.and_eq_true] at ha hb
 have h := eq_same d a b ha.2 hb.2
 rw [Bool.eq_iff_iff, beq_iff_eq]
 exact h

end Go.Proofs.YtlnecfjnffdciaaGreat

