/-
  Reductions of two lists, in plain words; where a sum stops.
-/
import Derived.Test.YtdapildmegdjkaaReduceM
import Derived.Deep.AppendLies
import Derived.Deep.RegionLaw
import Derived.Deep.CutRange
import Derived.Test.YtdapildmegdjkaaTwo2
import Derived.BigRegion
import Derived.Test.YtdapildmegdjkaaAppRow
namespace Go.Proofs.Ytdapildmegdjkaa
open Go.RowKit

set_option maxRecDepth 100000 in
set_option maxHeartbeats 8000000 in
theorem red1_any (b0 b1 k : Nat) (x y : VT) (au : Option Addr) (lu cu : Nat) (v : Value) (w : World) (hk : k ≤ 65536) (hb : Bx w b0 y v) (hc : w.cell? ⟨b1, 0, none⟩ = some (.int .i64 (k : Int))) (hf : w.frozen? ⟨b1, 0, none⟩ = false) (hne : b0 ≠ b1) :
    Calls Try.prog 14 #[.agg #[.int .i64 x.kind, .int .i64 x.num, .string x.text, .slice au lu cu], .pointer (some ⟨b0, 0, none⟩), .pointer (some ⟨b1, 0, none⟩)] w fun e w' => e = .returned (.tuple #[]) ∧ Bx w' b0 x (.slice au lu cu) ∧ w'.cell? ⟨b1, 0, none⟩ = some (.int .i64 ((k + 1 : Nat) : Int)) ∧ w'.frozen? ⟨b1, 0, none⟩ = false ∧ KC (fun n => n = b0 ∨ n = b1) w w' := by
  have hbl : b0 < w.heap.size := cell_lt hb.c0
  have hbl1 : b1 < w.heap.size := cell_lt hc
  have n1 : ¬ b0 = w.heap.size := by omega
  have n2 : ¬ w.heap.size = b0 := by omega
  have n3 : ¬ b1 = w.heap.size := by omega
  have n4 : ¬ w.heap.size = b1 := by omega
  have n5 : ¬ b0 = b1 := hne
  have n6 : ¬ b1 = b0 := fun e => hne e.symm
  have e1 : IntKind.i64.wrap ((k : Int) + 1) = ((k + 1 : Nat) : Int) := by rw [IntKind.wrap_i64]; omega
  have HE : Hid (∀ Z, Z = ((w.setCells b0 0 (encP (x, .slice au lu cu))).setCell ⟨b1, 0, none⟩ (.int .i64 ((k + 1 : Nat) : Int))).alloc (.cells #[.int .i64 x.kind, .int .i64 x.num, .string x.text, .slice au lu cu] 25) → Bx Z b0 x (.slice au lu cu) ∧ Z.cell? ⟨b1, 0, none⟩ = some (.int .i64 ((k + 1 : Nat) : Int)) ∧ Z.frozen? ⟨b1, 0, none⟩ = false ∧ KC (fun n => n = b0 ∨ n = b1) w Z) := by
    intro Z hZ
    have k1 : KC (fun n => n = b1) (w.setCells b0 0 (encP (x, .slice au lu cu))) ((w.setCells b0 0 (encP (x, .slice au lu cu))).setCell ⟨b1, 0, none⟩ (.int .i64 ((k + 1 : Nat) : Int))) := KC.set (B := fun n => n = b1) (KC.refl _ _) (.inl rfl) _
    have k2 : KC (fun n => n = b0) w (w.setCells b0 0 (encP (x, .slice au lu cu))) := KC.put4 (B := fun n => n = b0) (KC.refl _ w) (.inl rfl) x _
    have ha : Below ((w.setCells b0 0 (encP (x, .slice au lu cu))).setCell ⟨b1, 0, none⟩ (.int .i64 ((k + 1 : Nat) : Int))).heap.size ((w.setCells b0 0 (encP (x, .slice au lu cu))).setCell ⟨b1, 0, none⟩ (.int .i64 ((k + 1 : Nat) : Int))) Z := by rw [hZ]; exact ((Grew.refl _).alloc _).below
    have hc2 : (w.setCells b0 0 (encP (x, .slice au lu cu))).cell? ⟨b1, 0, none⟩ = some (.int .i64 (k : Int)) := k2.cell n6 hc
    have hf2 : (w.setCells b0 0 (encP (x, .slice au lu cu))).frozen? ⟨b1, 0, none⟩ = false := k2.frozen n6 hc hf
    refine ⟨(k1.bx n5 (Bx.put hb (x, .slice au lu cu))).keeps ha, cell_keeps ha (World.cell?_setCell_same _ _ _ hc2), ?_, ?_⟩
    · rw [ha.frozen (p := ⟨b1, 0, none⟩) (cell_lt (World.cell?_setCell_same _ _ _ hc2)), World.frozen?_setCell]; exact hf2
    · exact ((k2.mono (fun _ _ h => .inl h)).trans2 k1 (fun _ _ h => .inr h)).trans2 (KC.of_below (B := fun _ => False) ha) (fun _ _ h => h.elim)
  have hal : Below w.heap.size w (w.alloc (.cells #[.int .i64 x.kind, .int .i64 x.num, .string x.text, .slice au lu cu] 25)) := ((Grew.refl w).alloc _).below
  obtain ⟨c0, c1, c2, c3, g0, g1, g2, g3⟩ := hb
  have d0 := cell_keeps hal c0; have d1 := cell_keeps hal c1; have d2 := cell_keeps hal c2; have d3 := cell_keeps hal c3
  have d4 := cell_keeps hal hc
  have e0' := (hal.frozen (p := ⟨b0, 0, none⟩) hbl).trans g0; have e1' := (hal.frozen (p := ⟨b0, 1, none⟩) hbl).trans g1; have e2' := (hal.frozen (p := ⟨b0, 2, none⟩) hbl).trans g2; have e3' := (hal.frozen (p := ⟨b0, 3, none⟩) hbl).trans g3
  have e4' := (hal.frozen (p := ⟨b1, 0, none⟩) hbl1).trans hf
  clear hal hne
  go_enter Try.func14, Try.ntmps14
  go_wp2_with fail
  refine bodyPost_end (v := .tuple #[]) ?_ rfl ⟨rfl, HE.out _ rfl⟩
  simp [results, Try.results14, go_sem]

/-- What Reduce keeps: the last value in the box b0, how many came in the box b1. -/
def JRd (b0 b1 lo : Nat) (O : Nat → Prop) (t0 : VT) (bar : Nat → Prop) (l : List VT) (w : World) : Prop :=
  ∃ a n c, Bx w b0 (lastT t0 l) (.slice a n c) ∧ w.cell? ⟨b1, 0, none⟩ = some (.int .i64 (l.length : Int)) ∧ w.frozen? ⟨b1, 0, none⟩ = false ∧ LiesX (fun m => m ≠ b0 ∧ m ≠ b1 ∧ ¬ O m ∧ lo ≤ m) 16 w (lastT t0 l).items (.slice a n c) ∧ ¬ bar b0 ∧ ¬ bar b1 ∧ ¬ O b0 ∧ ¬ O b1 ∧ b0 ≠ b1

theorem jrd_rdr (b0 b1 lo : Nat) (O : Nat → Prop) (t0 : VT) : Rdr O (JRd b0 b1 lo O t0) where
  k1 := by
    rintro bar l w w' ⟨a, n, c, h1, h2, h3, h4, h5, h6, h7, h8, h9⟩ k
    exact ⟨a, n, c, k.bx h7 h1, k.cell h8 h2, k.frozen h8 h2 h3, k.liesX (fun m hm => hm.2.2.1) h4, h5, h6, h7, h8, h9⟩
  k2 := by
    rintro bar l w w' ⟨a, n, c, h1, h2, h3, h4, h5, h6, h7, h8, h9⟩ hb
    have l0 : b0 < w.heap.size := cell_lt h1.c0
    have l1 : b1 < w.heap.size := cell_lt h2
    refine ⟨a, n, c, h1.keeps hb, cell_keeps hb h2, (hb.frozen (p := ⟨b1, 0, none⟩) l1).trans h3, h4.keeps hb, ?_, ?_, h7, h8, h9⟩
    · rintro (h | h)
      · exact h5 h
      · omega
    · rintro (h | h)
      · exact h6 h
      · omega
  k3 := by
    rintro bar bar' l w ⟨a, n, c, h1, h2, h3, h4, h5, h6, h7, h8, h9⟩ hb
    exact ⟨a, n, c, h1, h2, h3, h4, fun h => h5 (hb _ h), fun h => h6 (hb _ h), h7, h8, h9⟩

theorem jrd_found (b0 b1 lo : Nat) (N : Nat) (t0 : VT) (bar : Nat → Prop) (l : List VT) (x : VT) (u : Value) (w : World) (hl : l.length < 65536) (h : JRd b0 b1 lo (fun n => n = N) t0 bar l w) (hx : LiesX (fun n => bar n ∧ N < n) 16 w x.items u) (hlo : lo ≤ N) :
    Calls Try.prog 14 (#[.agg #[.int .i64 x.kind, .int .i64 x.num, .string x.text, u]] ++ #[.pointer (some ⟨b0, 0, none⟩), .pointer (some ⟨b1, 0, none⟩)]) w fun e w' => e = .returned (.tuple #[]) ∧ KC (fun n => ¬ bar n) w w' ∧ JRd b0 b1 lo (fun n => n = N) t0 bar (l ++ [x]) w' := by
  obtain ⟨a, n, c, h1, h2, h3, h4, h5, h6, h7, h8, h9⟩ := h
  obtain ⟨au, cu, rfl, _⟩ := LiesX.slice hx
  refine Calls.mono (red1_any b0 b1 l.length x _ au _ cu _ w (by omega) h1 h2 h3 h9) ?_
  rintro e w' ⟨rfl, g1, g2, g3, g4⟩
  refine ⟨rfl, g4.mono (fun m _ hm hb => by rcases hm with rfl | rfl; exact h5 hb; exact h6 hb), au, _, cu, by rw [lastT_snoc]; exact g1, by rw [g2]; simp, g3, ?_, h5, h6, h7, h8, h9⟩
  rw [lastT_snoc]
  exact (g4.liesX (fun m hm h => by rcases h with rfl | rfl; exact h5 hm.1; exact h6 hm.1) hx).mono (fun m hm => ⟨fun e => h5 (e ▸ hm.1), fun e => h6 (e ▸ hm.1), by have := hm.2; omega, by have := hm.2; omega⟩)

end Go.Proofs.Ytdapildmegdjkaa

namespace Go.Proofs.Ytdapildmegdjkaa
open Go.RowKit

theorem canonL25 {w : World} {n : Nat} {l : List VT} {u : Value} (h : Lies (n + 1) w l u) (hr : listErr n l = 0) : Lies 17 w l u ∧ l.length ≤ 65536 ∧ ∀ x ∈ l, rightV 16 x = true ∧ Dp 16 x := by
  have hz := listErr_zero hr
  have hall : ∀ x ∈ l, rightV 16 x = true ∧ Dp 16 x := fun x hx => by
    obtain ⟨a, c, e, _, hr1⟩ := h
    obtain ⟨i, hi, rfl⟩ := List.getElem_of_mem hx
    obtain ⟨b, o, ha, hrow⟩ := hr1 (fun e => by rw [e] at hi; cases hi)
    obtain ⟨v, _, _, _, _, hL, _⟩ := hrow i hi
    have hd := Dp.of_lies n w _ v hL
    have hrx := hz.2 _ (List.getElem_mem hi)
    exact ⟨(canon hL hrx).2, right_deep hrx hd⟩
  exact ⟨Lies.lower 17 (n + 1) l u h (by omega) (fun x hx => (hall x hx).2), hz.1, hall⟩

theorem checkList25 (d : Nat) (l : List VT) (u : Value) (w : World) (hu : Lies (d + 1) w l u) :
    Calls Try.prog 15 #[u] w fun e w' => e = .returned (.int .i64 (listErr d l)) ∧ Below w.heap.size w w' := by
  obtain ⟨a, c, rfl, _⟩ := Lies.slice hu
  have HL : Hid (Lies (d + 1) w l (.slice a l.length c)) := hu
  clear hu
  go_enter Try.func15, Try.ntmps15
  go_wp2_with fail
  refine (checkAll_any d l _ _ HL.out).mono ?_
  rintro e w1 ⟨rfl, hb⟩
  go_wp2_with fail
  go_ret
  exact ⟨rfl, hb⟩

theorem dp_nilD (d : Nat) : Dp d nilT := by
  cases d
  · exact rfl
  · intro x hx; cases hx

theorem nil_rightD (d : Nat) : rightV d nilT = true := by
  rw [rightV_any nilT (dp_nilD 16) (dp_nilD d)]
  exact nil_right

theorem twoE_nil (d : Nat) (q : Int) (t : VT) : twoE d q t nilT = if q < 0 ∨ 8 ≤ q then 4 else if rightV d t = true then 0 else 3 := by
  unfold twoE
  by_cases h1 : q < 0 ∨ 8 ≤ q
  · rw [if_pos h1, if_pos h1]
  · rw [if_neg h1, if_neg h1]
    by_cases h2 : rightV d t = true
    · rw [if_pos ⟨h2, nil_rightD d⟩, if_pos h2]
    · rw [if_neg (fun h => h2 h.1), if_neg h2]

set_option maxRecDepth 100000 in
set_option maxHeartbeats 4000000 in
theorem checkRed_any (d : Nat) (q : Int) (t : VT) (u : Value) (l : List VT) (v : Value) (w : World) (hu : Lies d w t.items u) (hs : t.text.size ≤ 9223372036854775807) (hv : Lies (d + 1) w l v) :
    Calls Try.prog 11 #[.int .i64 q, .agg #[.int .i64 t.kind, .int .i64 t.num, .string t.text, u], v] w fun e w' => e = .returned (.int .i64 (redE d q t l)) ∧ Below w.heap.size w w' := by
  obtain ⟨a, c, rfl, _⟩ := Lies.slice hu
  obtain ⟨a2, c2, rfl, _⟩ := Lies.slice hv
  have HT : Hid (∀ W, Below w.heap.size w W → Calls Try.prog 18 #[.int .i64 q, .agg #[.int .i64 t.kind, .int .i64 t.num, .string t.text, .slice a t.items.length c], .agg #[.int .i64 0, .int .i64 0, .string ⟨#[]⟩, .slice none 0 0]] W (TPost (twoT d q t nilT) (twoB d q t nilT) (twoE d q t nilT) W)) := fun W hW =>
    two_any d q t nilT (.slice a t.items.length c) (.slice none 0 0) W (Lies.keeps hW _ _ _ hu) (liesX_nil (fun _ => True) d W none 0).lies hs (by show 0 ≤ _; omega)
  have HC : Hid (∀ W, Below w.heap.size w W → Calls Try.prog 15 #[.slice a2 l.length c2] W fun e w' => e = .returned (.int .i64 (listErr d l)) ∧ Below W.heap.size W w') := fun W hW => checkList25 d l _ W (Lies.keeps hW _ _ _ hv)
  have HE : Hid (twoE d q t nilT ≠ 0 → redE d q t l = twoE d q t nilT) := fun h => by
    rw [twoE_nil] at h ⊢
    unfold redE
    by_cases h1 : q < 0 ∨ 8 ≤ q
    · rw [if_pos h1, if_pos h1]
    · rw [if_neg h1] at h ⊢
      rw [if_neg h1]
      by_cases h2 : rightV d t = true
      · rw [if_pos h2] at h; exact absurd rfl h
      · rw [if_neg h2, if_neg h2]
  have HE0 : Hid (twoE d q t nilT = 0 → redE d q t l = listErr d l) := fun h => by
    rw [twoE_nil] at h
    unfold redE
    by_cases h1 : q < 0 ∨ 8 ≤ q
    · rw [if_pos h1] at h; omega
    · rw [if_neg h1] at h
      by_cases h2 : rightV d t = true
      · rw [if_neg h1, if_pos h2]
      · rw [if_neg h2] at h; omega
  clear hu hv hs
  generalize t.items.length = lt at *
  generalize l.length = ll at *
  have hal : Below w.heap.size w (w.alloc (.cells #[.int .i64 t.kind, .int .i64 t.num, .string t.text, .slice a lt c] 25)) := ((Grew.refl w).alloc _).below
  go_enter Try.func11, Try.ntmps11
  go_wp2_with fail
  refine Calls.mono (HT.out _ hal) ?_
  rintro e w2 ⟨u2, rfl, hl2, hb2⟩
  obtain ⟨a9, c9, rfl, _⟩ := LiesX.slice hl2
  have hb3 : Below w.heap.size w w2 := hal.trans (hb2.mono (by simp))
  clear hl2
  generalize (twoT d q t nilT).items.length = n9 at *
  generalize twoE d q t nilT = E at *
  generalize twoB d q t nilT = B at *
  generalize twoT d q t nilT = R at *
  clear hal hb2 HT
  by_cases hE : E = 0
  · subst hE
    have hb4 : Below w.heap.size w (w2.alloc (.cells #[.int .i64 R.kind, .int .i64 R.num, .string R.text, .slice a9 n9 c9] 25)) := hb3.alloc hb3.size _
    have e0 := HE0.out rfl
    clear HE HE0
    go_wp2_with fail
    refine Calls.mono (HC.out _ hb4) ?_
    rintro e w5 ⟨rfl, hb5⟩
    have hb6 : Below w.heap.size w w5 := hb4.trans (hb5.mono hb4.size)
    clear hb5 hb4 hb3 HC
    go_wp2_with fail
    go_ret
    exact ⟨by rw [e0]; rfl, hb6⟩
  · have e0 := HE.out hE
    have hb4 : Below w.heap.size w (w2.alloc (.cells #[.int .i64 R.kind, .int .i64 R.num, .string R.text, .slice a9 n9 c9] 25)) := hb3.alloc hb3.size _
    clear HE HE0 HC hb3
    go_wp2_with fail
    go_ret
    exact ⟨by rw [e0]; rfl, hb4⟩

/-- A value, a number and an error are told. -/
def RedPost (r : VT) (n : Nat) (er : Int) (w : World) (e : Ending) (w' : World) : Prop :=
  ∃ u, e = .returned (.tuple #[.agg #[.int .i64 r.kind, .int .i64 r.num, .string r.text, u], .int .i64 (n : Int), .int .i64 er]) ∧ Lies 16 w' r.items u ∧ Below w.heap.size w w'

def redT (d : Nat) (q : Int) (t : VT) (l : List VT) : VT := if redE d q t l = 0 then lastT t (redS q.toNat t l) else nilT
def redN (d : Nat) (q : Int) (t : VT) (l : List VT) : Nat := if redE d q t l = 0 then (redS q.toNat t l).length else 0

theorem egR1 : ∀ args w, (callFunc 14 args).run Try.prog w = .ok (.enter 14 args) w := enters_of Try.func14 (by kernel_rfl) rfl
set_option maxRecDepth 100000 in
set_option maxHeartbeats 8000000 in
theorem reduceF_any (d : Nat) (q : Int) (t : VT) (u : Value) (l : List VT) (v : Value) (w : World) (hu : Lies d w t.items u) (hs : t.text.size ≤ 9223372036854775807) (hv : Lies (d + 1) w l v) :
    Calls Try.prog 6 #[.int .i64 q, .agg #[.int .i64 t.kind, .int .i64 t.num, .string t.text, u], v] w (RedPost (redT d q t l) (redN d q t l) (redE d q t l) w) := by
  obtain ⟨a, c, rfl, _⟩ := Lies.slice hu
  obtain ⟨a2, c2, rfl, _⟩ := Lies.slice hv
  have HC : Hid (∀ W, Below w.heap.size w W → Calls Try.prog 11 #[.int .i64 q, .agg #[.int .i64 t.kind, .int .i64 t.num, .string t.text, .slice a t.items.length c], .slice a2 l.length c2] W fun e w' => e = .returned (.int .i64 (redE d q t l)) ∧ Below W.heap.size W w') := fun W hW => checkRed_any d q t _ l _ W (Lies.keeps hW _ _ _ hu) hs (Lies.keeps hW _ _ _ hv)
  have HU : Hid (Lies d w t.items (.slice a t.items.length c)) := hu
  have HV : Hid (Lies (d + 1) w l (.slice a2 l.length c2)) := hv
  have hB0 : Below w.heap.size w ((w.alloc (.cells #[.int .i64 t.kind, .int .i64 t.num, .string t.text, .slice a t.items.length c] 25)).alloc (.cells #[.int .i64 0, .int .i64 0, .string ⟨#[]⟩, .slice none 0 0] 25)) := (((Grew.refl w).alloc _).alloc _).below
  have HX0 : Hid (Bx ((w.alloc (.cells #[.int .i64 t.kind, .int .i64 t.num, .string t.text, .slice a t.items.length c] 25)).alloc (.cells #[.int .i64 0, .int .i64 0, .string ⟨#[]⟩, .slice none 0 0] 25)) w.heap.size t (.slice a t.items.length c)) := (bx_alloc w t _).keeps ((Grew.refl _).alloc _).below
  have HR0 : Hid (Bx ((w.alloc (.cells #[.int .i64 t.kind, .int .i64 t.num, .string t.text, .slice a t.items.length c] 25)).alloc (.cells #[.int .i64 0, .int .i64 0, .string ⟨#[]⟩, .slice none 0 0] 25)) (w.heap.size + 1) zeroT (.slice none 0 0)) := by
    have := bx_alloc (w.alloc (.cells #[.int .i64 t.kind, .int .i64 t.num, .string t.text, .slice a t.items.length c] 25)) zeroT (.slice none 0 0)
    show Bx _ _ _ _
    simpa using this
  have hS0 : ((w.alloc (.cells #[.int .i64 t.kind, .int .i64 t.num, .string t.text, .slice a t.items.length c] 25)).alloc (.cells #[.int .i64 0, .int .i64 0, .string ⟨#[]⟩, .slice none 0 0] 25)).heap.size = w.heap.size + 2 := by simp
  clear hu hv hs
  generalize hlt : t.items.length = lt at *
  have Hlt : Hid (t.items.length = lt) := hlt
  generalize hll : l.length = ll at *
  have Hll : Hid (l.length = ll) := hll
  clear hlt hll
  generalize hP : RedPost (redT d q t l) (redN d q t l) (redE d q t l) w = P
  have HP : Hid (RedPost (redT d q t l) (redN d q t l) (redE d q t l) w = P) := hP
  clear hP
  go_enter Try.func6, Try.ntmps6
  go_wp2_with fail
  refine Calls.mono (HC.out _ hB0) ?_
  rintro e w2 ⟨rfl, hb2⟩
  have hb2 : Below ((w.alloc (.cells #[.int .i64 t.kind, .int .i64 t.num, .string t.text, .slice a lt c] 25)).alloc (.cells #[.int .i64 0, .int .i64 0, .string ⟨#[]⟩, .slice none 0 0] 25)).heap.size ((w.alloc (.cells #[.int .i64 t.kind, .int .i64 t.num, .string t.text, .slice a lt c] 25)).alloc (.cells #[.int .i64 0, .int .i64 0, .string ⟨#[]⟩, .slice none 0 0] 25)) w2 := hb2
  have hb3 : Below w.heap.size w w2 := hB0.trans (hb2.mono hB0.size)
  have HX2 : Hid (Bx w2 w.heap.size t (.slice a lt c)) := HX0.out.keeps hb2
  have HR2 : Hid (Bx w2 (w.heap.size + 1) zeroT (.slice none 0 0)) := HR0.out.keeps hb2
  have hs2 : w.heap.size + 2 ≤ w2.heap.size := by have := hb2.size; omega
  clear HX0 HR0 hB0 hb2 hS0 HC
  by_cases hE : redE d q t l = 0
  · have hz := redE_zero hE
    have e1 : redT d q t l = lastT t (redS q.toNat t l) := by unfold redT; rw [if_pos hE]
    have e2 : redN d q t l = (redS q.toNat t l).length := by unfold redN; rw [if_pos hE]
    rw [e1, e2, hE] at HP
    rw [hE]
    clear hE e1 e2
    obtain ⟨Q, hQ, hQ8⟩ : ∃ Q : Nat, q = Q ∧ Q < 8 := ⟨q.toNat, by omega, by omega⟩
    subst hQ
    rw [show ((Q : Int)).toNat = Q by simp] at HP
    have hct := canon HU.out hz.2.1
    have hcl := canonL25 HV.out hz.2.2
    have HCp : Hid (Calls Try.prog 12 #[.agg #[.int .i64 t.kind, .int .i64 t.num, .string t.text, .slice a lt c]] w2 (CopyPost 16 t w2)) := copy_right t _ w2 (Lies.keeps hb3 _ _ _ hct.1) hct.2
    have HT16 : Hid (LiesX (fun n => n < w.heap.size) 16 w t.items (.slice a lt c) ∧ rightV 16 t = true) := ⟨LiesX.of_lies hct.1, hct.2⟩
    have HL17 : Hid (LiesX (fun n => n < w.heap.size) 17 w l (.slice a2 ll c2) ∧ l.length ≤ 65536 ∧ ∀ x ∈ l, rightV 16 x = true) := ⟨LiesX.of_lies hcl.1, hcl.2.1, fun x hx => (hcl.2.2 x hx).1⟩
    clear hz hct hcl HU HV
    obtain ⟨x0, x1, x2, x3, _, _, _, _⟩ := HX2.out
    go_wp2_with fail
    refine Calls.mono HCp.out ?_
    rintro e w3 ⟨v3, rfl, hl3, hb4⟩
    obtain ⟨a3, c3, rfl, _⟩ := LiesB.slice hl3
    rw [Hlt.out] at hl3 ⊢
    have hb5 : Below w.heap.size w w3 := hb3.trans (hb4.mono hb3.size)
    have HX3 : Hid (Bx w3 w.heap.size t (.slice a lt c)) := HX2.out.keeps hb4
    have HR3 : Hid (Bx w3 (w.heap.size + 1) zeroT (.slice none 0 0)) := HR2.out.keeps hb4
    have hs3 : w.heap.size + 2 ≤ w3.heap.size := Nat.le_trans hs2 hb4.size
    have HL3 : Hid (LiesX (fun n => w.heap.size + 2 ≤ n ∧ n < w3.heap.size) 16 w3 t.items (.slice a3 lt c3)) := (LiesX.of_b hl3).both.mono (fun n hn => ⟨by omega, hn.2⟩)
    clear hl3 hb4 hb3 HX2 HR2 HCp x0 x1 x2 x3 hs2
    have hbA : Below w3.heap.size w3 ((w3.alloc (.cells #[.int .i64 t.kind, .int .i64 t.num, .string t.text, .slice a3 lt c3] 25)).alloc (.cells #[.int .i64 0] 3)) := (((Grew.refl w3).alloc _).alloc _).below
    have hb6 : Below w.heap.size w ((w3.alloc (.cells #[.int .i64 t.kind, .int .i64 t.num, .string t.text, .slice a3 lt c3] 25)).alloc (.cells #[.int .i64 0] 3)) := hb5.trans (hbA.mono hb5.size)
    have hsA : ((w3.alloc (.cells #[.int .i64 t.kind, .int .i64 t.num, .string t.text, .slice a3 lt c3] 25)).alloc (.cells #[.int .i64 0] 3)).heap.size = w3.heap.size + 2 := by simp
    have HXA : Hid (Bx ((w3.alloc (.cells #[.int .i64 t.kind, .int .i64 t.num, .string t.text, .slice a3 lt c3] 25)).alloc (.cells #[.int .i64 0] 3)) w.heap.size t (.slice a lt c)) := HX3.out.keeps hbA
    have HRA : Hid (Bx ((w3.alloc (.cells #[.int .i64 t.kind, .int .i64 t.num, .string t.text, .slice a3 lt c3] 25)).alloc (.cells #[.int .i64 0] 3)) (w.heap.size + 1) zeroT (.slice none 0 0)) := HR3.out.keeps hbA
    have HJ : Hid (JRd w3.heap.size (w3.heap.size + 1) (w.heap.size + 2) (fun n => n = w3.heap.size + 2) t (fun n => n < w.heap.size + 2) [] ((w3.alloc (.cells #[.int .i64 t.kind, .int .i64 t.num, .string t.text, .slice a3 lt c3] 25)).alloc (.cells #[.int .i64 0] 3))) := by
      refine ⟨a3, lt, c3, (bx_alloc w3 t _).keeps ((Grew.refl _).alloc _).below, by simp, by simp, (HL3.out.keeps hbA).mono (fun n hn => ⟨by omega, by omega, by omega, by omega⟩), by omega, by omega, by omega, by omega, by omega⟩
    have HRd : Hid (Calls Try.prog 13 #[.int .i64 (Q : Int), .agg #[.int .i64 t.kind, .int .i64 t.num, .string t.text, .slice a lt c], .slice a2 ll c2, .func (.func 14) #[] #[.pointer (some ⟨w3.heap.size, 0, none⟩), .pointer (some ⟨w3.heap.size + 1, 0, none⟩)]] ((w3.alloc (.cells #[.int .i64 t.kind, .int .i64 t.num, .string t.text, .slice a3 lt c3] 25)).alloc (.cells #[.int .i64 0] 3)) (RdPost (JRd w3.heap.size (w3.heap.size + 1) (w.heap.size + 2) (fun n => n = w3.heap.size + 2) t) (fun n => n < w.heap.size + 2) (redS Q t l) ((w3.alloc (.cells #[.int .i64 t.kind, .int .i64 t.num, .string t.text, .slice a3 lt c3] 25)).alloc (.cells #[.int .i64 0] 3)))) := by
      have h := reduce_any (JRd w3.heap.size (w3.heap.size + 1) (w.heap.size + 2) (fun n => n = w3.heap.size + 2) t) 14 #[.pointer (some ⟨w3.heap.size, 0, none⟩), .pointer (some ⟨w3.heap.size + 1, 0, none⟩)] egR1 Q hQ8 t a c l a2 c2 (fun n => n < w.heap.size + 2) ((w3.alloc (.cells #[.int .i64 t.kind, .int .i64 t.num, .string t.text, .slice a3 lt c3] 25)).alloc (.cells #[.int .i64 0] 3)) (by rw [hsA]; exact jrd_rdr _ _ _ _ _)
        (fun bar l x u w' h1 _ h3 h4 _ => jrd_found _ _ (w.heap.size + 2) (w3.heap.size + 2) t bar l x u w' h1 h3 (by rw [hsA] at h4; exact h4) (by omega)) HJ.out (by rw [Hlt.out]; exact (HT16.out.1.keeps hb6).mono (fun n hn => by omega)) HT16.out.2 (by rw [Hll.out]; exact (HL17.out.1.keeps hb6).mono (fun n hn => by omega)) HL17.out.2.2 HL17.out.2.1
      rw [Hlt.out, Hll.out] at h
      exact h
    clear HJ HX3 HR3 HL3 hbA HT16 HL17
    obtain ⟨x0, x1, x2, x3, _, _, _, _⟩ := HXA.out
    go_wp2_with fail
    refine Calls.mono HRd.out ?_
    rintro e w7 ⟨rfl, hk7, a7, n7, c7, hb7, hc7, hf7, hl7, _⟩
    have HR7 : Hid (Bx w7 (w.heap.size + 1) zeroT (.slice none 0 0)) := hk7.bx (fun h => h (by omega)) HRA.out
    have HB7 : Hid (Bx w7 w3.heap.size (lastT t (redS Q t l)) (.slice a7 n7 c7)) := hb7
    have Hbl : Hid (Below w.heap.size w (w7.setCells (w.heap.size + 1) 0 (encP (lastT t (redS Q t l), .slice a7 n7 c7)))) := below_put (hb6.trans (hk7.below (fun j hj h => h (by omega)) hb6.size)) (by omega) _
    have Hbl2 : Hid (Below w.heap.size w (w7.setCells (w.heap.size + 1) 0 (encP (lastT t (redS Q t l), .slice a7 n7 c7))).drew) := Hbl.out.drew
    have hn7 : (lastT t (redS Q t l)).items.length = n7 := by
      obtain ⟨_, _, e, _⟩ := LiesX.slice hl7
      injection e with _ e2 _
      exact e2.symm
    have HL7 : Hid (LiesX (fun m => w.heap.size + 2 ≤ m) 16 w7 (lastT t (redS Q t l)).items (.slice a7 n7 c7)) := hl7.mono (fun m hm => hm.2.2.2)
    generalize lastT t (redS Q t l) = R at *
    generalize (redS Q t l).length = RN at *
    have Hbx : Hid (Bx (w7.setCells (w.heap.size + 1) 0 (encP (R, .slice a7 n7 c7))) (w.heap.size + 1) R (.slice a7 n7 c7)) := HR7.out.put (R, .slice a7 n7 c7)
    have HZ : Hid (RedPost R RN 0 w (.returned (.tuple #[.agg #[.int .i64 R.kind, .int .i64 R.num, .string R.text, .slice a7 n7 c7], .int .i64 (RN : Int), .int .i64 0])) (w7.setCells (w.heap.size + 1) 0 (encP (R, .slice a7 n7 c7))).drew) := ⟨_, rfl, (LiesX.keeps (Below.refl _ _).drew (HL7.out.set (g := w.heap.size + 1) (by omega))).lies, Hbl2.out⟩
    clear hn7 hb7 hl7 hk7 HRd HXA HRA x0 x1 x2 x3 hb6 hsA hb5 Hbl Hbl2 HL7
    obtain ⟨y0, y1, y2, y3, g0, g1, g2, g3⟩ := HR7.out
    obtain ⟨z0, z1, z2, z3, _, _, _, _⟩ := HB7.out
    have n1 : ¬ w3.heap.size = w.heap.size + 1 := by omega
    have n2 : ¬ w.heap.size + 1 = w3.heap.size := by omega
    have n3 : ¬ w3.heap.size + 1 = w.heap.size + 1 := by omega
    have n4 : ¬ w.heap.size + 1 = w3.heap.size + 1 := by omega
    go_wp2_with fail
    go_region
    go_wp2_with fail
    refine bodyPost_ret (v := .tuple #[.agg #[.int .i64 R.kind, .int .i64 R.num, .string R.text, .slice a7 n7 c7], .int .i64 (RN : Int), .int .i64 0]) ?_ rfl (by rw [← HP.out]; exact HZ.out)
    obtain ⟨q0, q1, q2, q3, _, _, _, _⟩ := Hbx.out
    simp only [encP, World.setCells, Nat.zero_add, Nat.reduceAdd] at q0 q1 q2 q3
    simp [results, Try.results6, go_sem, q0, q1, q2, q3]
  · have e1 : redT d q t l = nilT := by unfold redT; rw [if_neg hE]
    have e2 : redN d q t l = 0 := by unfold redN; rw [if_neg hE]
    rw [e1, e2] at HP
    clear e1 e2 HU HV
    generalize redE d q t l = E at *
    have Hbx : Hid (Bx (w2.setCells (w.heap.size + 1) 0 (encP (zeroT, .slice none 0 0))) (w.heap.size + 1) zeroT (.slice none 0 0)) := HR2.out.put (zeroT, .slice none 0 0)
    have Hbl : Hid (Below w.heap.size w (w2.setCells (w.heap.size + 1) 0 (encP (zeroT, .slice none 0 0)))) := below_put hb3 (by omega) _
    obtain ⟨y0, y1, y2, y3, g0, g1, g2, g3⟩ := HR2.out
    clear hb3 HX2 HR2
    go_wp2_with fail
    refine bodyPost_ret (v := .tuple #[.agg #[.int .i64 0, .int .i64 0, .string ⟨#[]⟩, .slice none 0 0], .int .i64 0, .int .i64 E]) ?_ rfl (by rw [← HP.out]; exact ⟨_, rfl, (liesX_nil (fun _ => True) 16 _ none 0).lies, Hbl.out⟩)
    obtain ⟨q0, q1, q2, q3, _, _, _, _⟩ := Hbx.out
    simp only [encP, World.setCells, Nat.zero_add, Nat.reduceAdd] at q0 q1 q2 q3
    simp [results, Try.results6, go_sem, q0, q1, q2, q3]

end Go.Proofs.Ytdapildmegdjkaa

namespace Go.Proofs.Ytdapildmegdjkaa
open Go.RowKit

/-- Does a reduction stop within a list? -/
def stS (q : Nat) : VT → List VT → Bool
  | _, [] => false
  | t, x :: xs => stopQ q (bothT q t x) || stS q (bothT q t x) xs

theorem lastT_cons (t x : VT) (l : List VT) : lastT t (x :: l) = lastT x l := by
  unfold lastT
  rw [List.getLast?_cons]
  rfl

theorem redS_app (q : Nat) : ∀ (l m : List VT) (t : VT), redS q t (l ++ m) = if stS q t l = true then redS q t l else redS q t l ++ redS q (lastT t (redS q t l)) m := by
  intro l m
  induction l with
  | nil => intro t; rfl
  | cons x xs ih =>
    intro t
    rw [List.cons_append]
    cases hs : stopQ q (bothT q t x)
    · rw [redS_go hs, redS_go hs, ih (bothT q t x), lastT_cons]
      have : stS q t (x :: xs) = stS q (bothT q t x) xs := by
        conv => lhs; unfold stS
        rw [hs, Bool.false_or]
      rw [this]
      split
      · rfl
      · rfl
    · rw [redS_stop hs, redS_stop hs]
      have : stS q t (x :: xs) = true := by unfold stS; rw [hs, Bool.true_or]
      rw [if_pos this]

theorem stS_never {q : Nat} (hq : q ≠ 6) : ∀ (l : List VT) (t : VT), stS q t l = false := by
  intro l
  induction l with
  | nil => intro t; rfl
  | cons x xs ih =>
    intro t
    unfold stS
    rw [ih]
    unfold stopQ
    rw [if_neg hq]
    rfl

/-- The statement's own sum. -/
def stpd : Int → List VT → Bool
  | _, [] => false
  | n, x :: xs => if 100 < (if x.kind = 2 then addI n x.num else n) then true else stpd (if x.kind = 2 then addI n x.num else n) xs

theorem stpd_stS : ∀ (l : List VT) (n : Int), stS 6 (intT n) l = stpd n l := by
  intro l
  induction l with
  | nil => intro n; rfl
  | cons x xs ih =>
    intro n
    have e : bothT 6 (intT n) x = intT (if x.kind = 2 then addI n x.num else n) := by
      show addT (intT n) x = _
      unfold addT
      by_cases h : x.kind = 2
      · rw [if_pos ⟨rfl, h⟩, if_pos h]; rfl
      · rw [if_neg (fun hh => h hh.2), if_neg h]
    have e2 : ∀ z, stopQ 6 (intT z) = decide (100 < z) := fun z => by
      unfold stopQ stopB
      rw [if_pos rfl]
      rfl
    unfold stS stpd
    rw [e, e2, ih]
    by_cases h : 100 < (if x.kind = 2 then addI n x.num else n)
    · rw [if_pos h, decide_eq_true h]; rfl
    · rw [if_neg h, decide_eq_false h]; rfl

theorem listErr_all {d : Nat} {l : List VT} (h : l.length ≤ 65536) : listErr d l = 0 ↔ l.all (rightV d) = true := by
  unfold listErr
  rw [if_neg (by omega)]
  cases l.all (rightV d) <;> simp

theorem listErr_app {d : Nat} {l m : List VT} (h : l.length + m.length ≤ 65536) : listErr d (l ++ m) = 0 ↔ listErr d l = 0 ∧ listErr d m = 0 := by
  rw [listErr_all (by rw [List.length_append]; omega), listErr_all (by omega), listErr_all (by omega), List.all_append, Bool.and_eq_true]

theorem redE_iff {d : Nat} {q : Int} {t : VT} {l : List VT} (ht : rightV d t = true) : redE d q t l = 0 ↔ (0 ≤ q ∧ q < 8) ∧ listErr d l = 0 := by
  constructor
  · intro h
    have := redE_zero h
    exact ⟨this.1, this.2.2⟩
  · rintro ⟨h1, h2⟩
    unfold redE
    rw [if_neg (by omega), if_pos ht, h2]

/-- A list's rows as a source of append. -/
theorem slp_src25 {d : Nat} {w : World} {ps : List (VT × Value)} {aa : Option Addr} {n c : Nat} (h : SlP 0 d w ps (.slice aa n c)) : (aa = none → n = 0) ∧ (ps.flatMap encP).length = n * 4 ∧ (∀ ad, aa = some ad → ∀ j u, (ps.flatMap encP)[j]? = some u → w.cell? (ad.add j) = some u) ∧ (∀ u ∈ ps.flatMap encP, u.oneCell' = true) := by
  obtain ⟨a, c', hv, h1, h2, h3, h4⟩ := h
  injection hv with e1 e2 e3
  subst e1 e2
  refine ⟨fun e => ?_, flat_len ps, fun ad e j u hu => ?_, fun u hu => ?_⟩
  · by_cases hne : ps = []
    · rw [hne]; rfl
    · obtain ⟨b, o, ha, _⟩ := h3 hne
      rw [e] at ha; cases ha
  · have hne : ps ≠ [] := fun e => by rw [e] at hu; simp at hu
    obtain ⟨b, o, ha, _, hr⟩ := h3 hne
    rw [e] at ha
    injection ha with ha
    subst ha
    rw [add_addr5]
    exact hr.flat j u hu
  · obtain ⟨p, hp, hu⟩ := List.mem_flatMap.1 hu
    exact encP_one (h4 p hp) u hu

set_option maxRecDepth 100000 in
set_option maxHeartbeats 4000000 in
theorem stopped_any (d : Nat) (q : Int) (l : List VT) (v : Value) (w : World) (hv : Lies (d + 1) w l v) (hn : l.length ≤ 65536) :
    Calls Try.prog 7 #[.int .i64 q, v] w fun e w' => e = .returned (.bool (if q = 6 then stpd 0 l else false)) ∧ Below w.heap.size w w' := by
  obtain ⟨a, c, rfl, _⟩ := Lies.slice hv
  generalize hE : (if q = 6 then stpd 0 l else false) = E
  have HE : Hid ((if q = 6 then stpd 0 l else false) = E) := hE
  clear hE
  by_cases hq : q = 6
  · subst hq
    rw [if_pos rfl] at HE
    have HV : Hid (Lies (d + 1) w l (.slice a l.length c)) := hv
    obtain ⟨ll, hll⟩ : ∃ ll, ll = l.length := ⟨_, rfl⟩
    have Hll : Hid (ll = l.length) := hll
    have hn6 : ll ≤ 65536 := by omega
    rw [← hll] at HV ⊢
    clear hv hn hll
    go_enter Try.func7, Try.ntmps7
    go_wp2_with fail
    go_loopg [5, 12] ll (fun z v5 v12 wr => ∃ (j : Nat) (s : Int), v5 = .int .i64 s ∧ v12 = .int .i64 (j : Int) ∧ z = ll - j ∧ j ≤ ll ∧ Hid (stpd 0 l = stpd s (l.drop j) ∧ Below w.heap.size w wr))
    case atStart => exact ⟨0, 0, rfl, rfl, by omega, by omega, by simp, Below.refl _ _⟩
    case round =>
      obtain ⟨j, s, rfl, rfl, hgk, hj, HI⟩ := hrel
      have Hgk : Hid (gk = ll - j) := hgk
      clear hgk
      by_cases hlt : j < ll
      · have hji : (j : Int) < (ll : Int) := by omega
        have hjl : j < l.length := by have := Hll.out; omega
        obtain ⟨al', cl', he, _, hrow⟩ := HV.out
        injection he with e1 e2 e3
        subst e1 e3
        clear e2
        obtain ⟨b1, o1, rfl, hall⟩ := hrow (by intro e; rw [e] at hjl; simp at hjl)
        obtain ⟨ux, p0, p1, p2, p3, p4, _⟩ := hall j hjl
        clear hall hrow
        obtain ⟨ax, cx, rfl, _⟩ := Lies.slice p4
        have hbw := HI.out.2
        replace p0 := cell_keeps hbw p0; replace p1 := cell_keeps hbw p1; replace p2 := cell_keeps hbw p2; replace p3 := cell_keeps hbw p3
        have Hst : Hid (stpd 0 l = if 100 < (if l[j].kind = 2 then addI s l[j].num else s) then true else stpd (if l[j].kind = 2 then addI s l[j].num else s) (l.drop (j + 1))) := by
          show _ = _
          rw [HI.out.1, List.drop_eq_getElem_cons hjl]
          rfl
        clear p4
        generalize l[j] = x at *
        generalize x.items.length = xl at *
        have Hbz : Hid (∀ A, Below w.heap.size w (wr.alloc A)) := fun A => hbw.alloc hbw.size A
        clear hbw HI
        by_cases hk : x.kind = 2
        · rw [if_pos hk] at Hst
          have hk2 : (x.kind == 2) = true := by simp [hk]
          have hw64 : addI s x.num = wrap64 (s + x.num) := rfl
          rw [hw64] at Hst
          clear hw64
          by_cases hs : 100 < wrap64 (s + x.num)
          · rw [if_pos hs] at Hst
            go_wp2_with fail
            go_ret
            exact ⟨by rw [← HE.out, Hst.out]; rfl, Hbz.out _⟩
          · rw [if_neg hs] at Hst
            go_wp2_with fail
            go_roundg (ll - (j + 1))
            case measure => have := Hgk.out; omega
            case rel => exact ⟨j + 1, _, rfl, by go_num, rfl, by omega, Hst.out, Hbz.out _⟩
        · rw [if_neg hk] at Hst
          have hk2 : (x.kind == 2) = false := by simp [hk]
          by_cases hs : 100 < s
          · rw [if_pos hs] at Hst
            go_wp2_with fail
            go_ret
            exact ⟨by rw [← HE.out, Hst.out]; rfl, Hbz.out _⟩
          · rw [if_neg hs] at Hst
            go_wp2_with fail
            go_roundg (ll - (j + 1))
            case measure => have := Hgk.out; omega
            case rel => exact ⟨j + 1, _, rfl, by go_num, rfl, by omega, Hst.out, Hbz.out _⟩
      · have HZ : Hid (stpd 0 l = false) := by
          show _ = _
          rw [HI.out.1, List.drop_eq_nil_of_le (by have := Hll.out; omega)]
          rfl
        have hbw := HI.out.2
        have hji : ¬ (j : Int) < (ll : Int) := by omega
        clear HI
        go_wp2_with fail
        go_ret
        exact ⟨by rw [← HE.out, HZ.out]; rfl, hbw⟩
  · rw [if_neg hq] at HE
    clear hv hn
    generalize l.length = ll at *
    go_enter Try.func7, Try.ntmps7
    go_wp2_with fail
    go_ret
    exact ⟨by rw [← HE.out]; rfl, Below.refl _ _⟩

end Go.Proofs.Ytdapildmegdjkaa

