/-
  The document's put of a map.
-/
import Derived.Test.YtofceccicmlmoaaGreatRPutM
import Derived.Test.YtofceccicmlmoaaGreatPutA
import Derived.Deep.RegionHeld3
import Derived.Deep.CutRange
import Derived.Deep.CutBlock
namespace Go.Proofs.YtofceccicmlmoaaGreat
open Go.RowKit Go.Shelf

theorem rest_lies {X : Nat → Prop} {D : Nat} {w : World} {s : VT} {r : List VT} {b o c : Nat} (h : LiesX X (D + 1) w (s :: r) (.slice (some ⟨b, o, none⟩) (r.length + 1) c)) (a' : Option Addr) (c' : Nat) (ha : r ≠ [] → a' = some ⟨b, o + 4, none⟩) (hc : r.length ≤ c') : LiesX X (D + 1) w r (.slice a' r.length c') := by
  obtain ⟨a0, c0, hv, hl, hrow⟩ := h
  injection hv with e1 _ _
  subst e1
  refine ⟨a', c', rfl, ⟨hc, by have := hl.2; simp at this; omega⟩, fun hne => ?_⟩
  obtain ⟨b', o', e, hXb, hall⟩ := hrow (by simp)
  injection e with e
  injection e with e1 e2 _
  subst e1
  subst e2
  refine ⟨b, o + 4, ha hne, hXb, fun i hi => ?_⟩
  obtain ⟨u, k0, k1, k2, k3, k4, k5⟩ := hall (i + 1) (by simp; omega)
  simp only [List.getElem_cons_succ] at k0 k1 k2 k3 k4 k5
  rw [show o + (i + 1) * 4 = o + 4 + i * 4 by omega] at k0 k1 k2 k3
  exact ⟨u, k0, k1, k2, k3, k4, k5⟩

/-- What append asks of a list. -/
theorem src26 {X : Nat → Prop} {d : Nat} {w : World} {l : List VT} {a : Option Addr} {c : Nat} (h : LiesX X (d + 1) w l (.slice a l.length c)) :
    ∃ ps : List PR, ps.map (·.1) = l ∧ (∀ p ∈ ps, LiesX X d w p.1.items p.2 ∧ p.1.text.size ≤ 9223372036854775807) ∧ (a = none → l.length = 0) ∧ (ps.flatMap encP).length = l.length * 4 ∧ (∀ W, Below w.heap.size w W → ∀ ad, a = some ad → ∀ j u, (ps.flatMap encP)[j]? = some u → W.cell? (ad.add j) = some u) ∧ ∀ u ∈ ps.flatMap encP, u.oneCell' = true := by
  obtain ⟨a', c', hv, ps, hps, hlie, hrow⟩ := LiesX.row h
  injection hv with e1 _ e3
  subst e1
  subst e3
  have hpl : ps.length = l.length := by rw [← hps, List.length_map]
  refine ⟨ps, hps, hlie, fun e => ?_, by rw [flat_len, hpl], fun W hW ad e j u hj => ?_, fun u hu => ?_⟩
  · by_cases hne : l = []
    · rw [hne]; rfl
    · obtain ⟨b, o, ha, _⟩ := hrow hne
      rw [ha] at e; cases e
  · by_cases hne : l = []
    · have : ps = [] := List.eq_nil_of_length_eq_zero (by rw [hpl, hne]; rfl)
      rw [this] at hj; simp at hj
    · obtain ⟨b, o, ha, _, hr⟩ := hrow hne
      rw [ha] at e
      injection e with e
      subst e
      rw [add_addr5]
      exact (hr.keeps hW).flat j u hj
  · obtain ⟨p, hp, hu⟩ := List.mem_flatMap.1 hu
    exact encP_one (d := d) (w := w) ⟨(hlie p hp).1.lies, (hlie p hp).2⟩ u hu

/-- At the end: the row and what was put behind it. -/
theorem rput_lies_e {Y : Nat → Prop} {D M N2 : Nat} {W w8 : World} {ps : List PR} {z : VT} {zv v' : Value} {B n : Nat} (hY : ∀ b, Y b → b < M ∧ b ≠ N2) (hN : N2 < M) (hB : M ≤ B) (hps : ∀ p ∈ ps, LiesX Y D W p.1.items p.2 ∧ p.1.text.size ≤ 9223372036854775807) (hz : LiesX Y D W z.items zv) (hzt : z.text.size ≤ 9223372036854775807) (hb : Below M W w8) (hown : w8.ownsRow M 24 4 v' n (ps.flatMap encP ++ encP (z, zv))) (hn : n = ps.length + 1) (hvB : v'.ownBlock ≠ some B) (hl : ps.length ≤ 65536) (q : PR) (v3 : Value) :
    LiesX (fun b => Y b ∨ M ≤ b) (D + 1) ((w8.setCell ⟨B, 3, none⟩ v3).setCells N2 0 (encP q)) (ps.map (·.1) ++ [z]) v' := by
  have hk : ∀ {d : Nat} {l : List VT} {v : Value}, LiesX Y d W l v → LiesX Y d w8 l v := fun h => LiesX.stays (fun _ h => h) (fun a u ha hu => cellM26 hb (hY _ ha).1 hu) h
  have h1 : LiesX (fun b => (Y b ∨ M ≤ b) ∧ b ≠ N2 ∧ b ≠ B ) (D + 1) w8 ((ps ++ [(z, zv)]).map (·.1)) v' := by
    have hown' : w8.ownsRow M 24 4 v' n ((ps ++ [(z, zv)]).flatMap encP) := by simpa using hown
    refine own_liesX hown' (by simp [hn]) (fun g hg => ⟨.inr (hown.lt g hg).1, by have := (hown.lt g hg).1; omega, fun e => hvB (by rw [hg, e])⟩) (fun p hp => ?_) (by simp; omega)
    rcases List.mem_append.1 hp with hp | hp
    · exact ⟨(hk (hps p hp).1).mono (fun b hb => ⟨.inl hb, (hY b hb).2, by have := (hY b hb).1; omega⟩), (hps p hp).2⟩
    · rw [List.mem_singleton.1 hp]
      exact ⟨(hk hz).mono (fun b hb => ⟨.inl hb, (hY b hb).2, by have := (hY b hb).1; omega⟩), hzt⟩
  have h2 := LiesX.set (g := B) (o := 3) (vs := [v3]) (fun h => h.2.2 rfl) h1
  have h3 := LiesX.set (g := N2) (o := 0) (vs := encP q) (fun h => h.2.1 rfl) h2
  have h4 := h3.mono (Y := fun b => Y b ∨ M ≤ b) (fun b h => h.1)
  rw [List.map_append] at h4
  exact h4

/-- In its place: the row and what was put over one of its values. -/
theorem rput_lies_i {Y : Nat → Prop} {D M N2 g i c : Nat} {W w6 : World} {ps : List PR} {z : VT} {zv : Value} (hY : ∀ b, Y b → b < M ∧ b ≠ N2) (hN : N2 < M) (hps : ∀ p ∈ ps, LiesX Y D W p.1.items p.2 ∧ p.1.text.size ≤ 9223372036854775807) (hz : LiesX Y D W z.items zv) (hzt : z.text.size ≤ 9223372036854775807) (hb : Below M W w6) (hown : w6.ownsRow M 24 4 (.slice (some ⟨g, 0, none⟩) ps.length c) ps.length (ps.flatMap encP)) (hi : i < ps.length) (hl : ps.length ≤ 65536) (q : PR) :
    LiesX (fun b => Y b ∨ M ≤ b) (D + 1) ((w6.setCells g (i * 4) (encP (z, zv))).setCells N2 0 (encP q)) ((ps.map (·.1)).set i z) (.slice (some ⟨g, 0, none⟩) ps.length c) := by
  have hk : ∀ {d : Nat} {l : List VT} {v : Value}, LiesX Y d W l v → LiesX Y d w6 l v := fun h => LiesX.stays (fun _ h => h) (fun a u ha hu => cellM26 hb (hY _ ha).1 hu) h
  obtain ⟨g', cap, hv, hgb, hcap, hlt, hrw, _⟩ := own_row hown (fun e => by rw [e] at hi; simp at hi)
  injection hv with e1 _ e3
  injection e1 with e1
  injection e1 with e1
  subst e1
  subst e3
  have hrs := row_set26 hrw (i := i) hi (z, zv)
  have hst : ∀ {d : Nat} {l : List VT} {v : Value}, LiesX Y d W l v → LiesX Y d ((w6.setCells g (i * 4) (encP (z, zv))).setCells N2 0 (encP q)) l v := fun h =>
    LiesX.set (g := N2) (fun hy => (hY _ hy).2 rfl) (LiesX.set (g := g) (fun hy => by have := (hY _ hy).1; omega) (hk h))
  have hrs2 : RowAt ((w6.setCells g (i * 4) (encP (z, zv))).setCells N2 0 (encP q)) g 0 (ps.set i (z, zv)) := fun j hj => by
    obtain ⟨h0, h1, h2, h3⟩ := hrs j hj
    have hne : g ≠ N2 := by omega
    exact ⟨cell_other hne h0, cell_other hne h1, cell_other hne h2, cell_other hne h3⟩
  have hfin := liesX_row (X := fun b => Y b ∨ M ≤ b) (d := D) (c := c) hrs2 (.inr hgb) (fun p hp => by
    rcases List.mem_or_eq_of_mem_set hp with hp | hp
    · exact ⟨(hst (hps p hp).1).mono (fun b h => .inl h), (hps p hp).2⟩
    · subst hp
      exact ⟨(hst hz).mono (fun b h => .inl h), hzt⟩) (by rw [List.length_set]; omega) (by rw [List.length_set]; exact hcap)
  rw [List.map_set, List.length_set] at hfin
  exact hfin

/-- What the drawn region holds: two boxes. -/
abbrev Sr26 (n1 n2 : Nat) (y x : VT) (yv xv : Value) (V W : World) : Prop := ((W.cell? ⟨n1, 0, none⟩ = some (.int .i64 y.kind) ∧ W.cell? ⟨n1, 1, none⟩ = some (.int .i64 y.num) ∧ W.cell? ⟨n1, 2, none⟩ = some (.string y.text) ∧ W.cell? ⟨n1, 3, none⟩ = some yv) ∧ (W.cell? ⟨n2, 0, none⟩ = some (.int .i64 x.kind) ∧ W.cell? ⟨n2, 1, none⟩ = some (.int .i64 x.num) ∧ W.cell? ⟨n2, 2, none⟩ = some (.string x.text) ∧ W.cell? ⟨n2, 3, none⟩ = some xv)) ∧ Below V.heap.size V W

section
variable {n1 n2 : Nat} {y x : VT} {yv xv : Value} {V W : World}
theorem sr_keeps {W' : World} (h : Sr26 n1 n2 y x yv xv V W) (hb : Below W.heap.size W W') : Sr26 n1 n2 y x yv xv V W' := by
  obtain ⟨⟨⟨a0, a1, a2, a3⟩, b0, b1, b2, b3⟩, hV⟩ := h
  exact ⟨⟨⟨cell_keeps hb a0, cell_keeps hb a1, cell_keeps hb a2, cell_keeps hb a3⟩, cell_keeps hb b0, cell_keeps hb b1, cell_keeps hb b2, cell_keeps hb b3⟩, hV.trans (hb.mono hV.size)⟩
theorem sr_drew (h : Sr26 n1 n2 y x yv xv V W) : Sr26 n1 n2 y x yv xv V W.drew := sr_keeps h (Below.refl _ _).drew
theorem sr_alloc (o : Obj) (h : Sr26 n1 n2 y x yv xv V W) : Sr26 n1 n2 y x yv xv V (W.alloc o) := sr_keeps h ((Grew.refl _).alloc o).below
theorem sr_allocD (o : Obj) (h : Sr26 n1 n2 y x yv xv V W.drew) : Sr26 n1 n2 y x yv xv V (W.alloc o).drew := sr_alloc o h
theorem sr_set {zb : Nat} {v0 v1 v2 v3 : Value} (h1 : n1 < V.heap.size) (h2 : n2 < V.heap.size) (hz : V.heap.size ≤ zb) (h : Sr26 n1 n2 y x yv xv V W) : Sr26 n1 n2 y x yv xv V ((((W.setCell ⟨zb, 0, none⟩ v0).setCell ⟨zb, 1, none⟩ v1).setCell ⟨zb, 2, none⟩ v2).setCell ⟨zb, 3, none⟩ v3) := by
  obtain ⟨⟨⟨a0, a1, a2, a3⟩, b0, b1, b2, b3⟩, hV⟩ := h
  have k1 : n1 ≠ zb := by omega
  have k2 : n2 ≠ zb := by omega
  exact ⟨⟨⟨set4_k26 k1 a0, set4_k26 k1 a1, set4_k26 k1 a2, set4_k26 k1 a3⟩, set4_k26 k2 b0, set4_k26 k2 b1, set4_k26 k2 b2, set4_k26 k2 b3⟩, (((hV.setCell (p := ⟨zb, 0, none⟩) hz _).setCell (p := ⟨zb, 1, none⟩) hz _).setCell (p := ⟨zb, 2, none⟩) hz _).setCell (p := ⟨zb, 3, none⟩) hz _⟩
end

/-- What is known behind the recursion. -/
structure Rz26 (X : Nat → Prop) (V : World) (D : Nat) (y x : VT) (r : List VT) (wx : World) (n14 : Nat) (z : VT) (za : Option Addr) (zc : Nat) (b : Bool) : Prop where
  box : Bx wx n14 z (.slice za z.items.length zc)
  lies : LiesX (fun q => X q ∨ V.heap.size ≤ q) D wx z.items (.slice za z.items.length zc)
  size : z.text.size ≤ 9223372036854775807
  tell : (b = true ∧ putT y r x = some z) ∨ (b = false ∧ putT y r x = none ∧ z = zeroT)
  below : Below V.heap.size V wx

theorem sr_below {n1 n2 : Nat} {y x : VT} {yv xv : Value} {V W : World} (h : Sr26 n1 n2 y x yv xv V W) : Below V.heap.size V W := h.2
theorem bx_allocZ (V : World) : Bx (V.alloc (.cells #[.int .i64 0, .int .i64 0, .string ⟨#[]⟩, .slice none 0 0] 24)) V.heap.size zeroT (.slice none 0 0) := bx_alloc V zeroT _
theorem bx_allocZd (V : World) : Bx (V.alloc (.cells #[.int .i64 0, .int .i64 0, .string ⟨#[]⟩, .slice none 0 0] 24)).drew V.heap.size zeroT (.slice none 0 0) := (bx_allocZ V).keeps (Below.refl _ _).drew

end Go.Proofs.YtofceccicmlmoaaGreat

namespace Go.Proofs.YtofceccicmlmoaaGreat
open Go.RowKit Go.Shelf

set_option maxRecDepth 100000 in
set_option maxHeartbeats 16000000 in
/-- Nothing, or a map. -/
theorem rput_k0 (s x : VT) (r : List VT) (X : Nat → Prop) (t : VT) (a ax : Option Addr) (c cx : Nat) (pv : Value) (w : World) (hX : ∀ b, X b → b < w.heap.size) (h : LiesX X 16 w t.items (.slice a t.items.length c)) (hr : rightV 16 t = true) (hp : LiesX X 17 w (s :: r) pv) (hsr : rightV 16 s = true) (hn : r.length ≤ 16) (hk : t.kind = 0) (t2' : VT) (i : Nat) (ho : opnT t s = some (t2', i)) (ih : Hid (RPutC r x)) (hx : LiesX X 16 w x.items (.slice ax x.items.length cx)) :
    Calls Tryz.prog 20 #[.agg #[.int .i64 t.kind, .int .i64 t.num, .string t.text, .slice a t.items.length c], pv, .agg #[.int .i64 x.kind, .int .i64 x.num, .string x.text, .slice ax x.items.length cx]] w (RPutQ X t (s :: r) x w) := by
  have hlen : t.items.length ≤ 1024 := right_len hr
  have hd := Dp.of_lies 16 w t _ h.lies
  obtain ⟨pa, pc, rfl, _⟩ := LiesX.slice hp
  have hp2 := hp
  obtain ⟨a0, c0, hv, hpl, hrow⟩ := hp2
  injection hv with e1 e2 e3
  subst e1
  subst e3
  clear e2
  obtain ⟨pb, po, rfl, hXp, hall⟩ := hrow (by simp)
  obtain ⟨sv, p0, p1, p2, p3, p4, p5⟩ := hall 0 (by simp)
  simp only [List.getElem_cons_zero, Nat.zero_mul, Nat.add_zero] at p0 p1 p2 p3 p4 p5
  obtain ⟨sa, sc, rfl, _⟩ := LiesX.slice p4
  have hsl : LiesX X 16 w s.items (.slice sa s.items.length sc) := p4.atLeast 16 (by omega)
  have hds : Dp 16 s := Dp.of_lies 16 w s _ hsl.lies
  have HT : Hid (Bx (op3 w t x (.slice a t.items.length c) (.slice ax x.items.length cx)) w.heap.size t (.slice a t.items.length c)) := op3_fst _ _ _ _ _
  have HX : Hid (Bx (op3 w t x (.slice a t.items.length c) (.slice ax x.items.length cx)) (w.heap.size + 1) x (.slice ax x.items.length cx)) := op3_snd _ _ _ _ _
  have HR : Hid (Bx (op3 w t x (.slice a t.items.length c) (.slice ax x.items.length cx)) (w.heap.size + 2) zeroT (.slice none 0 0)) := op3_thd _ _ _ _ _
  have hb0 := op3_below w t x (.slice a t.items.length c) (.slice ax x.items.length cx)
  obtain ⟨W0, hW0⟩ : ∃ W0, W0 = op3 w t x (.slice a t.items.length c) (.slice ax x.items.length cx) := ⟨_, rfl⟩
  have HW0 : Hid (W0 = op3 w t x (.slice a t.items.length c) (.slice ax x.items.length cx)) := hW0
  have hsz : W0.heap.size = w.heap.size + 3 := by rw [hW0]; exact op3_size _ _ _ _ _
  rw [← hW0] at HT HX HR hb0
  clear hW0
  unfold op3 at HW0
  have p0 := cell_keeps hb0 p0; have p1 := cell_keeps hb0 p1; have p2 := cell_keeps hb0 p2; have p3 := cell_keeps hb0 p3
  obtain ⟨W1, hW1⟩ : ∃ W1, W1 = W0.alloc (.cells #[.int .i64 s.kind, .int .i64 s.num, .string s.text, .slice sa s.items.length sc] 24) := ⟨_, rfl⟩
  have hb01 : Below W0.heap.size W0 W1 := by rw [hW1]; exact ((Grew.refl W0).alloc _).below
  have hb1 : Below w.heap.size w W1 := hb0.trans (hb01.mono hb0.size)
  have HS1 : Hid (Bx W1 (w.heap.size + 3) s (.slice sa s.items.length sc)) := by
    rw [hW1, ← hsz]
    exact bx_alloc W0 s _
  have HT1 : Hid (Bx W1 w.heap.size t (.slice a t.items.length c)) := HT.out.keeps hb01
  have HX1 : Hid (Bx W1 (w.heap.size + 1) x (.slice ax x.items.length cx)) := HX.out.keeps hb01
  have HR1 : Hid (Bx W1 (w.heap.size + 2) zeroT (.slice none 0 0)) := HR.out.keeps hb01
  have hsz1 : W1.heap.size = w.heap.size + 4 := by rw [hW1, World.size_alloc, hsz]
  have HW1 : Hid (W0.alloc (.cells #[.int .i64 s.kind, .int .i64 s.num, .string s.text, .slice sa s.items.length sc] 24) = W1) := hW1.symm
  clear hW1 hb01 HT HX HR hall hrow p4
  have HI : Hid (∀ W, Calls Tryz.prog 40 #[.agg #[.int .i64 t.kind, .int .i64 t.num, .string t.text, .slice a t.items.length c], .agg #[.int .i64 s.kind, .int .i64 s.num, .string s.text, .slice sa s.items.length sc]] W fun e w' => e = .returned (.tuple #[.int .i64 (if idxB t s = true then s.num else 0), .bool (idxB t s)]) ∧ Below W.heap.size W w') := fun W => rindex_any t s a sa c _ sc W
  have HPt : Hid (∀ W, Below w.heap.size w W → Calls Tryz.prog 39 #[.agg #[.int .i64 t.kind, .int .i64 t.num, .string t.text, .slice a t.items.length c], .agg #[.int .i64 s.kind, .int .i64 s.num, .string s.text, .slice sa s.items.length sc]] W (PartP X t s W)) := fun W hW => rpart_any X t s a sa c sc W (h.keeps hW) ((hsl.keeps hW).lies) hr
  have hIf : idxB t s = false := by unfold idxB; rw [hk]; rfl
  rw [hIf] at HI
  have HNo : Hid (∀ (W : World) (y : VT), t2'.items[i]? = some y → putT y r x = none → Below w.heap.size w W → RPutQ X t (s :: r) x w (.returned (.tuple #[.agg #[.int .i64 0, .int .i64 0, .string ⟨#[]⟩, .slice none 0 0], .bool false])) W) := fun W y hy hz hW => rput_none (by rw [put_step ho hy, hz]) hW
  have HYr : Hid (∀ y, t2'.items[i]? = some y → rightV 16 y = true) := fun y hy => by
    obtain ⟨_, _, _, _, k5⟩ := opn_there ho (right_even t hd hr)
    rw [hy] at k5
    rcases k5 with k5 | ⟨u, hu, k5⟩
    · injection k5 with k5; rw [k5]; exact nil_right
    · injection k5 with k5; rw [k5]; exact (item_right hr hd hu).1
  have HYo : Hid (∀ y, (plcB t s = true ∧ t.items[(plcI t s).toNat]? = some y) ∨ (plcB t s = false ∧ y = zeroT) → t2'.items[i]? = some y) := fun y hy => part_open ho hy
  have HPp : Hid (LiesX X 17 w (s :: r) (.slice (some ⟨pb, po, none⟩) (r.length + 1) pc)) := hp
  have HPx : Hid (LiesX X 16 w x.items (.slice ax x.items.length cx)) := hx
  have HXl : Hid (∀ b, X b → b < w.heap.size) := hX
  have HPt' : Hid (LiesX X 16 w t.items (.slice a t.items.length c)) := h
  have HPs : Hid (LiesX X 16 w s.items (.slice sa s.items.length sc)) := hsl
  have HRt : Hid (rightV 16 t = true ∧ Dp 16 t ∧ rightV 16 s = true ∧ Dp 16 s ∧ s.text.size ≤ 9223372036854775807) := ⟨hr, hd, hsr, hds, p5⟩
  have HOn : Hid (opnT t s = some (t2', i)) := ho
  have Hk : Hid (t.kind = 0) := hk
  have hpc : r.length + 1 ≤ pc := hpl.1
  have Hr0 : Hid (pc = 1 → r = []) := fun e => List.eq_nil_of_length_eq_zero (by omega)
  have hL : (s :: r).length = r.length + 1 := rfl
  rw [hL]
  obtain ⟨PP, hPP⟩ : ∃ PP, RPutQ X t (s :: r) x w = PP := ⟨_, rfl⟩
  rw [hPP] at HNo ⊢
  have HPP : Hid (RPutQ X t (s :: r) x w = PP) := hPP
  rw [hk] at HI HPt HW0 ⊢
  clear hPP hL h hr hp hsr hsl hd hds p5 ho hx hpl hXp
  obtain ⟨t0, t1, t2, t3, _, _, _, _⟩ := HT1.out
  rw [hk] at t0
  clear hk
  obtain ⟨s0, s1, s2, s3, _, _, _, _⟩ := HS1.out
  go_enter Tryz.func20, Tryz.ntmps20
  go_upto_region 1 with fail
  rw [← HW0.out]
  clear HW0
  go_upto_region 4 with fail
  rw [HW1.out]
  clear HW1
  go_wp2_with fail
  refine Calls.mono (HI.out _) ?_
  rintro e w1 ⟨rfl, hg1⟩
  have hb2 : Below w.heap.size w w1 := hb1.trans (hg1.mono hb1.size)
  have HT2 : Hid (Bx w1 w.heap.size t (.slice a t.items.length c)) := HT1.out.keeps hg1
  have HX2 : Hid (Bx w1 (w.heap.size + 1) x (.slice ax x.items.length cx)) := HX1.out.keeps hg1
  have HR2 : Hid (Bx w1 (w.heap.size + 2) zeroT (.slice none 0 0)) := HR1.out.keeps hg1
  have HS2 : Hid (Bx w1 (w.heap.size + 3) s (.slice sa s.items.length sc)) := HS1.out.keeps hg1
  have hsz2 : w.heap.size + 4 ≤ w1.heap.size := by have := hg1.size; omega
  replace t0 := cell_keeps hg1 t0; replace t1 := cell_keeps hg1 t1; replace t2 := cell_keeps hg1 t2; replace t3 := cell_keeps hg1 t3
  replace s0 := cell_keeps hg1 s0; replace s1 := cell_keeps hg1 s1; replace s2 := cell_keeps hg1 s2; replace s3 := cell_keeps hg1 s3
  clear hg1 hb1 hb0 HR1 HX1 HT1 HS1 HI p0 p1 p2 p3 hsz hsz1
  go_wp2_with fail
  refine Calls.mono (HPt.out _ hb2) ?_
  rintro e w2 ⟨y, ya, yc, rfl, hy1, hy2, hy3, hg2⟩
  have Hyo : Hid (t2'.items[i]? = some y) := HYo.out y hy3
  have Hyr : Hid (rightV 16 y = true) := HYr.out y Hyo.out
  obtain ⟨V, hV⟩ : ∃ V, V = w2.alloc (.cells #[.int .i64 y.kind, .int .i64 y.num, .string y.text, .slice ya y.items.length yc] 24) := ⟨_, rfl⟩
  have hgV : Below w1.heap.size w1 V := by rw [hV]; exact hg2.alloc hg2.size _
  have hbV : Below w.heap.size w V := hb2.trans (hgV.mono hb2.size)
  have HyB : Hid (Bx V w2.heap.size y (.slice ya y.items.length yc)) := by rw [hV]; exact bx_alloc w2 y _
  have HTV : Hid (Bx V w.heap.size t (.slice a t.items.length c)) := HT2.out.keeps hgV
  have HXV : Hid (Bx V (w.heap.size + 1) x (.slice ax x.items.length cx)) := HX2.out.keeps hgV
  have HRV : Hid (Bx V (w.heap.size + 2) zeroT (.slice none 0 0)) := HR2.out.keeps hgV
  have HSV : Hid (Bx V (w.heap.size + 3) s (.slice sa s.items.length sc)) := HS2.out.keeps hgV
  have hszV : w.heap.size + 4 ≤ V.heap.size := by have := hgV.size; omega
  have hPu : ∀ (W : World) (a' : Option Addr) (c' : Nat), Below V.heap.size V W → (r ≠ [] → a' = some ⟨pb, po + 4, none⟩) → r.length ≤ c' → Calls Tryz.prog 20 #[.agg #[.int .i64 y.kind, .int .i64 y.num, .string y.text, .slice ya y.items.length yc], .slice a' r.length c', .agg #[.int .i64 x.kind, .int .i64 x.num, .string x.text, .slice ax x.items.length cx]] W (RPutQ X y r x W) := fun W a' c' hW h1 h2 => ih.out X y ya ax yc cx _ W (fun b hb => by have := HXl.out b hb; have := hW.size; omega) ((hy1.keeps hgV).keeps hW) Hyr.out (rest_lies (HPp.out.keeps (hbV.trans (hW.mono hbV.size))) a' c' h1 h2) (HPx.out.keeps (hbV.trans (hW.mono hbV.size)))
  have HPu : Hid (∀ (W : World) (a' : Option Addr) (c' : Nat), Below V.heap.size V W → (r ≠ [] → a' = some ⟨pb, po + 4, none⟩) → r.length ≤ c' → Calls Tryz.prog 20 #[.agg #[.int .i64 y.kind, .int .i64 y.num, .string y.text, .slice ya y.items.length yc], .slice a' r.length c', .agg #[.int .i64 x.kind, .int .i64 x.num, .string x.text, .slice ax x.items.length cx]] W (RPutQ X y r x W)) := hPu
  have HV : Hid (w2.alloc (.cells #[.int .i64 y.kind, .int .i64 y.num, .string y.text, .slice ya y.items.length yc] 24) = V) := hV.symm
  clear hPu hV hgV hg2 hy1 hy2 hy3 HT2 HX2 HR2 HS2 HPt HYo HYr hb2 t0 t1 t2 t3 s0 s1 s2 s3 hsz2
  obtain ⟨n12, hn12⟩ : ∃ n, n = w2.heap.size := ⟨_, rfl⟩
  have Hn12 : Hid (w2.heap.size = n12) := hn12.symm
  rw [← hn12] at HyB
  clear hn12
  generalize plcB t s = pB at *
  go_upto_region 9 with fail
  rw [HV.out, Hn12.out]
  clear HV Hn12
  have HF0 : Hid (∀ (W : World) (z : VT) (za : Option Addr) (zc : Nat) (b : Bool), Below V.heap.size V W → LiesX (fun q => X q ∨ V.heap.size ≤ q) (16 + r.length) W z.items (.slice za z.items.length zc) → z.text.size ≤ 9223372036854775807 → ((b = true ∧ putT y r x = some z) ∨ (b = false ∧ putT y r x = none ∧ z = zeroT)) → Hid (Rz26 X V (16 + r.length) y x r (W.alloc (.cells #[.int .i64 z.kind, .int .i64 z.num, .string z.text, .slice za z.items.length zc] 24)) W.heap.size z za zc b)) := fun W z za zc b h1 h2 h3 h4 => ⟨bx_alloc W z _, h2.keeps ((Grew.refl W).alloc _).below, h3, h4, h1.alloc h1.size _⟩
  have HFz : Hid (∀ (W : World) (z : VT) (za : Option Addr) (zc : Nat) (b : Bool), Below V.heap.size V W → Bx W V.heap.size zeroT (.slice none 0 0) → LiesX (fun q => X q ∨ V.heap.size + 1 ≤ q) (16 + r.length) W z.items (.slice za z.items.length zc) → z.text.size ≤ 9223372036854775807 → ((b = true ∧ putT y r x = some z) ∨ (b = false ∧ putT y r x = none ∧ z = zeroT)) → Hid (Rz26 X V (16 + r.length) y x r (W.setCells V.heap.size 0 (encP (z, .slice za z.items.length zc))) V.heap.size z za zc b)) := fun W z za zc b h1 hb h2 h3 h4 => ⟨hb.put _, (LiesX.set (g := V.heap.size) (fun hq => by
      rcases hq with hq | hq
      · have := HXl.out _ hq; omega
      · omega) h2).mono (fun q hq => hq.imp id (fun hq => by omega)), h3, h4, below_put h1 (Nat.le_refl _) _⟩
  go_cut [14, 15] from 69 to 76 (fun s14 s15 wx => ∃ n14 z za zc b, s14 = .pointer (some ⟨n14, 0, none⟩) ∧ s15 = .bool b ∧ Hid (Rz26 X V (16 + r.length) y x r wx n14 z za zc b))
  case first =>
    obtain ⟨a0, a1, a2, a3, _, _, _, _⟩ := HyB.out
    obtain ⟨b0, b1, b2, b3, _, _, _, _⟩ := HXV.out
    have hl1 : n12 < V.heap.size := cell_lt a0
    have hl2 : w.heap.size + 1 < V.heap.size := cell_lt b0
    have HS0 : Hid (Sr26 n12 (w.heap.size + 1) y x (.slice ya y.items.length yc) (.slice ax x.items.length cx) V V) := ⟨⟨⟨a0, a1, a2, a3⟩, b0, b1, b2, b3⟩, Below.refl _ _⟩
    have HSs : Hid (∀ (zb : Nat) (W : World) (v0 v1 v2 v3 : Value), V.heap.size ≤ zb → Sr26 n12 (w.heap.size + 1) y x (.slice ya y.items.length yc) (.slice ax x.items.length cx) V W → Sr26 n12 (w.heap.size + 1) y x (.slice ya y.items.length yc) (.slice ax x.items.length cx) V ((((W.setCell ⟨zb, 0, none⟩ v0).setCell ⟨zb, 1, none⟩ v1).setCell ⟨zb, 2, none⟩ v2).setCell ⟨zb, 3, none⟩ v3)) := fun zb W v0 v1 v2 v3 h1 h2 => sr_set hl1 hl2 h1 h2
    clear HyB HXV HTV HRV HSV hl1 hl2 HNo HPp HPx HPt' HPs HRt HOn Hyo Hyr HPP hszV hbV
    by_cases hpc1 : pc = 1
    · have hr0 := Hr0.out hpc1
      subst hpc1
      subst hr0
      have HPu0 : Hid (∀ (W : World) (a' : Option Addr) (c' : Nat), Below V.heap.size V W → Calls Tryz.prog 20 #[.agg #[.int .i64 y.kind, .int .i64 y.num, .string y.text, .slice ya y.items.length yc], .slice a' 0 c', .agg #[.int .i64 x.kind, .int .i64 x.num, .string x.text, .slice ax x.items.length cx]] W (RPutQ X y [] x W)) := fun W a' c' hW => HPu.out W a' c' hW (fun h => absurd rfl h) (Nat.zero_le _)
      clear HPu Hr0 hpc hn
      go_region_held3 (fun w' => ((w'.cell? ⟨n12, 0, none⟩ = some (.int .i64 y.kind) ∧ w'.cell? ⟨n12, 1, none⟩ = some (.int .i64 y.num) ∧ w'.cell? ⟨n12, 2, none⟩ = some (.string y.text) ∧ w'.cell? ⟨n12, 3, none⟩ = some (.slice ya y.items.length yc)) ∧ (w'.cell? ⟨w.heap.size + 1, 0, none⟩ = some (.int .i64 x.kind) ∧ w'.cell? ⟨w.heap.size + 1, 1, none⟩ = some (.int .i64 x.num) ∧ w'.cell? ⟨w.heap.size + 1, 2, none⟩ = some (.string x.text) ∧ w'.cell? ⟨w.heap.size + 1, 3, none⟩ = some (.slice ax x.items.length cx))) ∧ Below V.heap.size V w') (first | (with_reducible exact sr_drew HS0.out) | (with_reducible exact sr_allocD _ (by assumption)) | (with_reducible exact sr_alloc _ (by assumption)) | (with_reducible exact HS4.out) | (with_reducible exact sr_alloc _ HS4.out) | (with_reducible exact HSs.out _ _ _ _ _ _ (by omega) (by assumption)) | (with_reducible assumption))
        (first | (go_at_call 20; (with_reducible refine Calls.mono (HPu0.out _ _ _ (sr_below (by assumption))) ?_); rintro e w4 ⟨z, za, zc, b, rfl, hz1, hz2, hz3, hz4⟩; have hS4 := sr_keeps (n1 := n12) (n2 := w.heap.size + 1) (y := y) (x := x) (V := V) (by assumption) hz4; have HS4 : Hid (Sr26 n12 (w.heap.size + 1) y x (.slice ya y.items.length yc) (.slice ax x.items.length cx) V w4) := hS4; have hbV4 : Below V.heap.size V w4 := hS4.2; clear hS4; (first | (have HZ : Bx w4 V.heap.size zeroT (.slice none 0 0) := (by first | (with_reducible exact Bx.keeps (bx_allocZ V) hz4) | (with_reducible exact Bx.keeps (bx_allocZd V) hz4)); have HF := HFz.out w4 z za zc b hbV4 HZ (hz1.mono (fun q hq => by simp at hq; rcases hq with hq | hq; exact .inl hq; exact .inr (by omega))) hz2 hz3; obtain ⟨z0, z1, z2, z3, y0, y1, y2, y3⟩ := HZ) | (have HF := HF0.out w4 z za zc b hbV4 (hz1.mono (fun q hq => hq.imp id (fun hq => by simp at hq; omega))) hz2 hz3)); clear hz1 hz2 hz3 hz4 hbV4))
      all_goals (go_wp2_with fail; go_meet; exact ⟨_, z, za, zc, b, rfl, rfl, HF⟩)
    · have Hr0 : Hid True := trivial
      have h1c : (1 : Int) ≤ (pc : Int) := by omega
      have h2c : (r.length : Int) + 1 ≤ (pc : Int) := by omega
      have h0c : (1 : Int) ≤ (r.length : Int) + 1 := by omega
      go_region_held3 (fun w' => ((w'.cell? ⟨n12, 0, none⟩ = some (.int .i64 y.kind) ∧ w'.cell? ⟨n12, 1, none⟩ = some (.int .i64 y.num) ∧ w'.cell? ⟨n12, 2, none⟩ = some (.string y.text) ∧ w'.cell? ⟨n12, 3, none⟩ = some (.slice ya y.items.length yc)) ∧ (w'.cell? ⟨w.heap.size + 1, 0, none⟩ = some (.int .i64 x.kind) ∧ w'.cell? ⟨w.heap.size + 1, 1, none⟩ = some (.int .i64 x.num) ∧ w'.cell? ⟨w.heap.size + 1, 2, none⟩ = some (.string x.text) ∧ w'.cell? ⟨w.heap.size + 1, 3, none⟩ = some (.slice ax x.items.length cx))) ∧ Below V.heap.size V w') (first | (with_reducible exact sr_drew HS0.out) | (with_reducible exact sr_allocD _ (by assumption)) | (with_reducible exact sr_alloc _ (by assumption)) | (with_reducible exact HS4.out) | (with_reducible exact sr_alloc _ HS4.out) | (with_reducible exact HSs.out _ _ _ _ _ _ (by omega) (by assumption)) | (with_reducible assumption))
        (first | (go_at_call 20; (with_reducible refine Calls.mono (HPu.out _ _ _ (sr_below (by assumption)) ?_ ?_) ?_); (intro hne; first | rfl | exact absurd Hr0.out hne); (first | (simp; omega) | omega); rintro e w4 ⟨z, za, zc, b, rfl, hz1, hz2, hz3, hz4⟩; have hS4 := sr_keeps (n1 := n12) (n2 := w.heap.size + 1) (y := y) (x := x) (V := V) (by assumption) hz4; have HS4 : Hid (Sr26 n12 (w.heap.size + 1) y x (.slice ya y.items.length yc) (.slice ax x.items.length cx) V w4) := hS4; have hbV4 : Below V.heap.size V w4 := hS4.2; clear hS4; (first | (have HZ : Bx w4 V.heap.size zeroT (.slice none 0 0) := (by first | (with_reducible exact Bx.keeps (bx_allocZ V) hz4) | (with_reducible exact Bx.keeps (bx_allocZd V) hz4)); have HF := HFz.out w4 z za zc b hbV4 HZ (hz1.mono (fun q hq => by simp at hq; rcases hq with hq | hq; exact .inl hq; exact .inr (by omega))) hz2 hz3; obtain ⟨z0, z1, z2, z3, y0, y1, y2, y3⟩ := HZ) | (have HF := HF0.out w4 z za zc b hbV4 (hz1.mono (fun q hq => hq.imp id (fun hq => by simp at hq; omega))) hz2 hz3)); clear hz1 hz2 hz3 hz4 hbV4))
      all_goals (go_wp2_with fail; go_meet; exact ⟨_, z, za, zc, b, rfl, rfl, HF⟩)
  case rest =>
    obtain ⟨n14, z, za, zc, b, rfl, rfl, H14⟩ := hcut
    generalize hVx : wc = Vx at *
    clear hVx
    have hbx : Below V.heap.size V Vx := H14.out.below
    have hbw : Below w.heap.size w Vx := hbV.trans (hbx.mono hbV.size)
    have HTx : Hid (Bx Vx w.heap.size t (.slice a t.items.length c)) := HTV.out.keeps hbx
    have HRx : Hid (Bx Vx (w.heap.size + 2) zeroT (.slice none 0 0)) := HRV.out.keeps hbx
    have HSx : Hid (Bx Vx (w.heap.size + 3) s (.slice sa s.items.length sc)) := HSV.out.keeps hbx
    have HZx : Hid (Bx Vx n14 z (.slice za z.items.length zc)) := H14.out.box
    clear HTV HXV HRV HSV HyB HF0 HFz HPu ih Hr0 HPp HPx
    cases b
    · have hno : putT y r x = none := by
        rcases H14.out.tell with ⟨h1, _⟩ | ⟨_, h1, _⟩
        · cases h1
        · exact h1
      have HNo2 : Hid (∀ W, Below w.heap.size w W → PP (.returned (.tuple #[.agg #[.int .i64 0, .int .i64 0, .string ⟨#[]⟩, .slice none 0 0], .bool false])) W) := fun W hW => HNo.out W y Hyo.out hno hW
      clear hno HNo H14 Hyo Hyr HPP
      have HNo := HNo2
      have HE1 : Hid (PP (.returned (.tuple #[.agg #[.int .i64 0, .int .i64 0, .string ⟨#[]⟩, .slice none 0 0], .bool false])) (Vx.setCells (w.heap.size + 2) 0 (encP (zeroT, .slice none 0 0)))) := HNo.out _ (below_put hbw (by omega) _)
      have Hq : Hid (Bx (Vx.setCells (w.heap.size + 2) 0 (encP (zeroT, .slice none 0 0))) (w.heap.size + 2) zeroT (.slice none 0 0)) := HRx.out.put (zeroT, .slice none 0 0)
      obtain ⟨z0, z1, z2, z3, g0, g1, g2, g3⟩ := HRx.out
      go_wp2_with fail
      refine bodyPost_ret (v := .tuple #[.agg #[.int .i64 0, .int .i64 0, .string ⟨#[]⟩, .slice none 0 0], .bool false]) ?_ rfl HE1.out
      obtain ⟨q0, q1, q2, q3, _, _, _, _⟩ := Hq.out
      simp only [World.setCells, encP, Nat.zero_add, Nat.reduceAdd] at q0 q1 q2 q3
      simp [results, Tryz.results20, go_sem, q0, q1, q2, q3]
    · have hyes : putT y r x = some z := by
        rcases H14.out.tell with ⟨_, h1⟩ | ⟨h1, _⟩
        · exact h1
        · cases h1
      have Hzl : Hid (LiesX (fun q => X q ∨ V.heap.size ≤ q) (16 + r.length) Vx z.items (.slice za z.items.length zc)) := H14.out.lies
      have Hzt : Hid (z.text.size ≤ 9223372036854775807) := H14.out.size
      have Hzp : Hid (putT t (s :: r) x = some (t2'.putI i z)) := by show _ = _; rw [put_step HOn.out Hyo.out, hyes]
      clear hyes HNo H14 Hyo Hyr
      have HUn : Hid (Calls Tryz.prog 41 #[.agg #[.int .i64 0, .int .i64 t.num, .string t.text, .slice a t.items.length c], .agg #[.int .i64 s.kind, .int .i64 s.num, .string s.text, .slice sa s.items.length sc], .agg #[.int .i64 z.kind, .int .i64 z.num, .string z.text, .slice za z.items.length zc]] Vx fun e w' => ∃ a' c', e = .returned (.agg #[.int .i64 6, .int .i64 0, .string ⟨#[]⟩, .slice a' (mapU (16 + r.length) t s z).length c']) ∧ LiesX (fun b => ((X b ∨ V.heap.size ≤ b) ∧ b < Vx.heap.size) ∨ Vx.heap.size ≤ b) (16 + r.length + 1) w' (mapU (16 + r.length) t s z) (.slice a' (mapU (16 + r.length) t s z).length c') ∧ Below Vx.heap.size Vx w') := by
        have := runder_any (fun b => (X b ∨ V.heap.size ≤ b) ∧ b < Vx.heap.size) (16 + r.length) (by omega) t s z a sa za c sc zc Vx (fun b h => h.2) ((HPt'.out.keeps hbw).both.mono (fun b h => ⟨.inl h.1, h.2⟩)) ((HPs.out.keeps hbw).both.mono (fun b h => ⟨.inl h.1, h.2⟩)) Hzl.out.both HRt.out.1 (by have := Hk.out; omega) HRt.out.2.2.2.2 Hzt.out
        rw [Hk.out] at this
        exact this
      have HE : Hid (∀ W a' c', LiesX (fun b => ((X b ∨ V.heap.size ≤ b) ∧ b < Vx.heap.size) ∨ Vx.heap.size ≤ b) (16 + r.length + 1) W (mapU (16 + r.length) t s z) (.slice a' (mapU (16 + r.length) t s z).length c') → Below w.heap.size w W → PP (.returned (.tuple #[.agg #[.int .i64 6, .int .i64 0, .string ⟨#[]⟩, .slice a' (mapU (16 + r.length) t s z).length c'], .bool true])) (W.setCells (w.heap.size + 2) 0 (encP (⟨6, 0, ⟨#[]⟩, (mapU (16 + r.length) t s z)⟩, .slice a' (mapU (16 + r.length) t s z).length c')))) := fun W a' c' hl hW => by
        rw [← HPP.out]
        have hk := Hk.out
        obtain ⟨e1, e2⟩ := bare_right HRt.out.1 (by omega)
        have ho := HOn.out
        unfold opnT at ho
        rw [if_pos (by omega)] at ho
        injection ho with ho
        injection ho with o1 o2
        refine ⟨⟨6, 0, ⟨#[]⟩, (mapU (16 + r.length) t s z)⟩, a', c', true, rfl, ?_, by show 0 ≤ _; omega, .inl ⟨rfl, ?_⟩, below_put hW (by omega) _⟩
        · refine (LiesX.set (g := w.heap.size + 2) (fun hq => ?_) hl).mono (fun q hq => ?_)
          · have h9 := hbx.size
            rcases hq with ⟨hq | hq, _⟩ | hq
            · have := HXl.out _ hq; omega
            · omega
            · omega
          · have h9 := hbx.size
            rcases hq with ⟨hq | hq, _⟩ | hq
            · exact .inl hq
            · exact .inr (by omega)
            · exact .inr (by omega)
        · rw [Hzp.out, ← o1, ← o2, und_put (by omega) HRt.out.1 HRt.out.2.1 HRt.out.2.2.1 HRt.out.2.2.2.1 (by omega)]
          unfold VT.putI
          rw [e1, e2]
      obtain ⟨t0, t1, t2, t3, _, _, _, _⟩ := HTx.out
      rw [Hk.out] at t0
      obtain ⟨s0, s1, s2, s3, _, _, _, _⟩ := HSx.out
      obtain ⟨y0, y1, y2, y3, _, _, _, _⟩ := HZx.out
      clear HPP HOn HRt Hzp Hzl Hzt HPt' HPs Hk
      generalize mapU (16 + r.length) t s z = MM at *
      go_wp2_with fail
      refine Calls.mono HUn.out ?_
      rintro e w9 ⟨a9, c9, rfl, hl9, hb9⟩
      have hbw9 : Below w.heap.size w w9 := hbw.trans (hb9.mono hbw.size)
      have HR9 : Hid (Bx w9 (w.heap.size + 2) zeroT (.slice none 0 0)) := HRx.out.keeps hb9
      have HE1 : Hid _ := HE.out w9 a9 c9 hl9 hbw9
      have Hq : Hid (Bx (w9.setCells (w.heap.size + 2) 0 (encP (⟨6, 0, ⟨#[]⟩, MM⟩, .slice a9 MM.length c9))) (w.heap.size + 2) ⟨6, 0, ⟨#[]⟩, MM⟩ (.slice a9 MM.length c9)) := HR9.out.put (⟨6, 0, ⟨#[]⟩, MM⟩, .slice a9 MM.length c9)
      obtain ⟨z0, z1, z2, z3, g0, g1, g2, g3⟩ := HR9.out
      clear hl9 hb9 HR9 HUn HE HRx HTx HSx HZx t0 t1 t2 t3 s0 s1 s2 s3 y0 y1 y2 y3
      generalize MM.length = ml at *
      go_wp2_with fail
      refine bodyPost_ret (v := .tuple #[.agg #[.int .i64 6, .int .i64 0, .string ⟨#[]⟩, .slice a9 ml c9], .bool true]) ?_ rfl HE1.out
      obtain ⟨q0, q1, q2, q3, _, _, _, _⟩ := Hq.out
      simp only [World.setCells, encP, Nat.zero_add, Nat.reduceAdd] at q0 q1 q2 q3
      simp [results, Tryz.results20, go_sem, q0, q1, q2, q3]

end Go.Proofs.YtofceccicmlmoaaGreat

namespace Go.Proofs.YtofceccicmlmoaaGreat
open Go.RowKit Go.Shelf

set_option maxRecDepth 100000 in
set_option maxHeartbeats 16000000 in
/-- Nothing, or a map. -/
theorem rput_k6 (s x : VT) (r : List VT) (X : Nat → Prop) (t : VT) (a ax : Option Addr) (c cx : Nat) (pv : Value) (w : World) (hX : ∀ b, X b → b < w.heap.size) (h : LiesX X 16 w t.items (.slice a t.items.length c)) (hr : rightV 16 t = true) (hp : LiesX X 17 w (s :: r) pv) (hsr : rightV 16 s = true) (hn : r.length ≤ 16) (hk : t.kind = 6) (t2' : VT) (i : Nat) (ho : opnT t s = some (t2', i)) (ih : Hid (RPutC r x)) (hx : LiesX X 16 w x.items (.slice ax x.items.length cx)) :
    Calls Tryz.prog 20 #[.agg #[.int .i64 t.kind, .int .i64 t.num, .string t.text, .slice a t.items.length c], pv, .agg #[.int .i64 x.kind, .int .i64 x.num, .string x.text, .slice ax x.items.length cx]] w (RPutQ X t (s :: r) x w) := by
  have hlen : t.items.length ≤ 1024 := right_len hr
  have hd := Dp.of_lies 16 w t _ h.lies
  obtain ⟨pa, pc, rfl, _⟩ := LiesX.slice hp
  have hp2 := hp
  obtain ⟨a0, c0, hv, hpl, hrow⟩ := hp2
  injection hv with e1 e2 e3
  subst e1
  subst e3
  clear e2
  obtain ⟨pb, po, rfl, hXp, hall⟩ := hrow (by simp)
  obtain ⟨sv, p0, p1, p2, p3, p4, p5⟩ := hall 0 (by simp)
  simp only [List.getElem_cons_zero, Nat.zero_mul, Nat.add_zero] at p0 p1 p2 p3 p4 p5
  obtain ⟨sa, sc, rfl, _⟩ := LiesX.slice p4
  have hsl : LiesX X 16 w s.items (.slice sa s.items.length sc) := p4.atLeast 16 (by omega)
  have hds : Dp 16 s := Dp.of_lies 16 w s _ hsl.lies
  have HT : Hid (Bx (op3 w t x (.slice a t.items.length c) (.slice ax x.items.length cx)) w.heap.size t (.slice a t.items.length c)) := op3_fst _ _ _ _ _
  have HX : Hid (Bx (op3 w t x (.slice a t.items.length c) (.slice ax x.items.length cx)) (w.heap.size + 1) x (.slice ax x.items.length cx)) := op3_snd _ _ _ _ _
  have HR : Hid (Bx (op3 w t x (.slice a t.items.length c) (.slice ax x.items.length cx)) (w.heap.size + 2) zeroT (.slice none 0 0)) := op3_thd _ _ _ _ _
  have hb0 := op3_below w t x (.slice a t.items.length c) (.slice ax x.items.length cx)
  obtain ⟨W0, hW0⟩ : ∃ W0, W0 = op3 w t x (.slice a t.items.length c) (.slice ax x.items.length cx) := ⟨_, rfl⟩
  have HW0 : Hid (W0 = op3 w t x (.slice a t.items.length c) (.slice ax x.items.length cx)) := hW0
  have hsz : W0.heap.size = w.heap.size + 3 := by rw [hW0]; exact op3_size _ _ _ _ _
  rw [← hW0] at HT HX HR hb0
  clear hW0
  unfold op3 at HW0
  have p0 := cell_keeps hb0 p0; have p1 := cell_keeps hb0 p1; have p2 := cell_keeps hb0 p2; have p3 := cell_keeps hb0 p3
  obtain ⟨W1, hW1⟩ : ∃ W1, W1 = W0.alloc (.cells #[.int .i64 s.kind, .int .i64 s.num, .string s.text, .slice sa s.items.length sc] 24) := ⟨_, rfl⟩
  have hb01 : Below W0.heap.size W0 W1 := by rw [hW1]; exact ((Grew.refl W0).alloc _).below
  have hb1 : Below w.heap.size w W1 := hb0.trans (hb01.mono hb0.size)
  have HS1 : Hid (Bx W1 (w.heap.size + 3) s (.slice sa s.items.length sc)) := by
    rw [hW1, ← hsz]
    exact bx_alloc W0 s _
  have HT1 : Hid (Bx W1 w.heap.size t (.slice a t.items.length c)) := HT.out.keeps hb01
  have HX1 : Hid (Bx W1 (w.heap.size + 1) x (.slice ax x.items.length cx)) := HX.out.keeps hb01
  have HR1 : Hid (Bx W1 (w.heap.size + 2) zeroT (.slice none 0 0)) := HR.out.keeps hb01
  have hsz1 : W1.heap.size = w.heap.size + 4 := by rw [hW1, World.size_alloc, hsz]
  have HW1 : Hid (W0.alloc (.cells #[.int .i64 s.kind, .int .i64 s.num, .string s.text, .slice sa s.items.length sc] 24) = W1) := hW1.symm
  clear hW1 hb01 HT HX HR hall hrow p4
  have HI : Hid (∀ W, Calls Tryz.prog 40 #[.agg #[.int .i64 t.kind, .int .i64 t.num, .string t.text, .slice a t.items.length c], .agg #[.int .i64 s.kind, .int .i64 s.num, .string s.text, .slice sa s.items.length sc]] W fun e w' => e = .returned (.tuple #[.int .i64 (if idxB t s = true then s.num else 0), .bool (idxB t s)]) ∧ Below W.heap.size W w') := fun W => rindex_any t s a sa c _ sc W
  have HPt : Hid (∀ W, Below w.heap.size w W → Calls Tryz.prog 39 #[.agg #[.int .i64 t.kind, .int .i64 t.num, .string t.text, .slice a t.items.length c], .agg #[.int .i64 s.kind, .int .i64 s.num, .string s.text, .slice sa s.items.length sc]] W (PartP X t s W)) := fun W hW => rpart_any X t s a sa c sc W (h.keeps hW) ((hsl.keeps hW).lies) hr
  have hIf : idxB t s = false := by unfold idxB; rw [hk]; rfl
  rw [hIf] at HI
  have HNo : Hid (∀ (W : World) (y : VT), t2'.items[i]? = some y → putT y r x = none → Below w.heap.size w W → RPutQ X t (s :: r) x w (.returned (.tuple #[.agg #[.int .i64 0, .int .i64 0, .string ⟨#[]⟩, .slice none 0 0], .bool false])) W) := fun W y hy hz hW => rput_none (by rw [put_step ho hy, hz]) hW
  have HYr : Hid (∀ y, t2'.items[i]? = some y → rightV 16 y = true) := fun y hy => by
    obtain ⟨_, _, _, _, k5⟩ := opn_there ho (right_even t hd hr)
    rw [hy] at k5
    rcases k5 with k5 | ⟨u, hu, k5⟩
    · injection k5 with k5; rw [k5]; exact nil_right
    · injection k5 with k5; rw [k5]; exact (item_right hr hd hu).1
  have HYo : Hid (∀ y, (plcB t s = true ∧ t.items[(plcI t s).toNat]? = some y) ∨ (plcB t s = false ∧ y = zeroT) → t2'.items[i]? = some y) := fun y hy => part_open ho hy
  have HPp : Hid (LiesX X 17 w (s :: r) (.slice (some ⟨pb, po, none⟩) (r.length + 1) pc)) := hp
  have HPx : Hid (LiesX X 16 w x.items (.slice ax x.items.length cx)) := hx
  have HXl : Hid (∀ b, X b → b < w.heap.size) := hX
  have HPt' : Hid (LiesX X 16 w t.items (.slice a t.items.length c)) := h
  have HPs : Hid (LiesX X 16 w s.items (.slice sa s.items.length sc)) := hsl
  have HRt : Hid (rightV 16 t = true ∧ Dp 16 t ∧ rightV 16 s = true ∧ Dp 16 s ∧ s.text.size ≤ 9223372036854775807) := ⟨hr, hd, hsr, hds, p5⟩
  have HOn : Hid (opnT t s = some (t2', i)) := ho
  have Hk : Hid (t.kind = 6) := hk
  have hpc : r.length + 1 ≤ pc := hpl.1
  have Hr0 : Hid (pc = 1 → r = []) := fun e => List.eq_nil_of_length_eq_zero (by omega)
  have hL : (s :: r).length = r.length + 1 := rfl
  rw [hL]
  obtain ⟨PP, hPP⟩ : ∃ PP, RPutQ X t (s :: r) x w = PP := ⟨_, rfl⟩
  rw [hPP] at HNo ⊢
  have HPP : Hid (RPutQ X t (s :: r) x w = PP) := hPP
  rw [hk] at HI HPt HW0 ⊢
  clear hPP hL h hr hp hsr hsl hd hds p5 ho hx hpl hXp
  obtain ⟨t0, t1, t2, t3, _, _, _, _⟩ := HT1.out
  rw [hk] at t0
  clear hk
  obtain ⟨s0, s1, s2, s3, _, _, _, _⟩ := HS1.out
  go_enter Tryz.func20, Tryz.ntmps20
  go_upto_region 1 with fail
  rw [← HW0.out]
  clear HW0
  go_upto_region 4 with fail
  rw [HW1.out]
  clear HW1
  go_wp2_with fail
  refine Calls.mono (HI.out _) ?_
  rintro e w1 ⟨rfl, hg1⟩
  have hb2 : Below w.heap.size w w1 := hb1.trans (hg1.mono hb1.size)
  have HT2 : Hid (Bx w1 w.heap.size t (.slice a t.items.length c)) := HT1.out.keeps hg1
  have HX2 : Hid (Bx w1 (w.heap.size + 1) x (.slice ax x.items.length cx)) := HX1.out.keeps hg1
  have HR2 : Hid (Bx w1 (w.heap.size + 2) zeroT (.slice none 0 0)) := HR1.out.keeps hg1
  have HS2 : Hid (Bx w1 (w.heap.size + 3) s (.slice sa s.items.length sc)) := HS1.out.keeps hg1
  have hsz2 : w.heap.size + 4 ≤ w1.heap.size := by have := hg1.size; omega
  replace t0 := cell_keeps hg1 t0; replace t1 := cell_keeps hg1 t1; replace t2 := cell_keeps hg1 t2; replace t3 := cell_keeps hg1 t3
  replace s0 := cell_keeps hg1 s0; replace s1 := cell_keeps hg1 s1; replace s2 := cell_keeps hg1 s2; replace s3 := cell_keeps hg1 s3
  clear hg1 hb1 hb0 HR1 HX1 HT1 HS1 HI p0 p1 p2 p3 hsz hsz1
  go_wp2_with fail
  refine Calls.mono (HPt.out _ hb2) ?_
  rintro e w2 ⟨y, ya, yc, rfl, hy1, hy2, hy3, hg2⟩
  have Hyo : Hid (t2'.items[i]? = some y) := HYo.out y hy3
  have Hyr : Hid (rightV 16 y = true) := HYr.out y Hyo.out
  obtain ⟨V, hV⟩ : ∃ V, V = w2.alloc (.cells #[.int .i64 y.kind, .int .i64 y.num, .string y.text, .slice ya y.items.length yc] 24) := ⟨_, rfl⟩
  have hgV : Below w1.heap.size w1 V := by rw [hV]; exact hg2.alloc hg2.size _
  have hbV : Below w.heap.size w V := hb2.trans (hgV.mono hb2.size)
  have HyB : Hid (Bx V w2.heap.size y (.slice ya y.items.length yc)) := by rw [hV]; exact bx_alloc w2 y _
  have HTV : Hid (Bx V w.heap.size t (.slice a t.items.length c)) := HT2.out.keeps hgV
  have HXV : Hid (Bx V (w.heap.size + 1) x (.slice ax x.items.length cx)) := HX2.out.keeps hgV
  have HRV : Hid (Bx V (w.heap.size + 2) zeroT (.slice none 0 0)) := HR2.out.keeps hgV
  have HSV : Hid (Bx V (w.heap.size + 3) s (.slice sa s.items.length sc)) := HS2.out.keeps hgV
  have hszV : w.heap.size + 4 ≤ V.heap.size := by have := hgV.size; omega
  have hPu : ∀ (W : World) (a' : Option Addr) (c' : Nat), Below V.heap.size V W → (r ≠ [] → a' = some ⟨pb, po + 4, none⟩) → r.length ≤ c' → Calls Tryz.prog 20 #[.agg #[.int .i64 y.kind, .int .i64 y.num, .string y.text, .slice ya y.items.length yc], .slice a' r.length c', .agg #[.int .i64 x.kind, .int .i64 x.num, .string x.text, .slice ax x.items.length cx]] W (RPutQ X y r x W) := fun W a' c' hW h1 h2 => ih.out X y ya ax yc cx _ W (fun b hb => by have := HXl.out b hb; have := hW.size; omega) ((hy1.keeps hgV).keeps hW) Hyr.out (rest_lies (HPp.out.keeps (hbV.trans (hW.mono hbV.size))) a' c' h1 h2) (HPx.out.keeps (hbV.trans (hW.mono hbV.size)))
  have HPu : Hid (∀ (W : World) (a' : Option Addr) (c' : Nat), Below V.heap.size V W → (r ≠ [] → a' = some ⟨pb, po + 4, none⟩) → r.length ≤ c' → Calls Tryz.prog 20 #[.agg #[.int .i64 y.kind, .int .i64 y.num, .string y.text, .slice ya y.items.length yc], .slice a' r.length c', .agg #[.int .i64 x.kind, .int .i64 x.num, .string x.text, .slice ax x.items.length cx]] W (RPutQ X y r x W)) := hPu
  have HV : Hid (w2.alloc (.cells #[.int .i64 y.kind, .int .i64 y.num, .string y.text, .slice ya y.items.length yc] 24) = V) := hV.symm
  clear hPu hV hgV hg2 hy1 hy2 hy3 HT2 HX2 HR2 HS2 HPt HYo HYr hb2 t0 t1 t2 t3 s0 s1 s2 s3 hsz2
  obtain ⟨n12, hn12⟩ : ∃ n, n = w2.heap.size := ⟨_, rfl⟩
  have Hn12 : Hid (w2.heap.size = n12) := hn12.symm
  rw [← hn12] at HyB
  clear hn12
  generalize plcB t s = pB at *
  go_upto_region 9 with fail
  rw [HV.out, Hn12.out]
  clear HV Hn12
  have HF0 : Hid (∀ (W : World) (z : VT) (za : Option Addr) (zc : Nat) (b : Bool), Below V.heap.size V W → LiesX (fun q => X q ∨ V.heap.size ≤ q) (16 + r.length) W z.items (.slice za z.items.length zc) → z.text.size ≤ 9223372036854775807 → ((b = true ∧ putT y r x = some z) ∨ (b = false ∧ putT y r x = none ∧ z = zeroT)) → Hid (Rz26 X V (16 + r.length) y x r (W.alloc (.cells #[.int .i64 z.kind, .int .i64 z.num, .string z.text, .slice za z.items.length zc] 24)) W.heap.size z za zc b)) := fun W z za zc b h1 h2 h3 h4 => ⟨bx_alloc W z _, h2.keeps ((Grew.refl W).alloc _).below, h3, h4, h1.alloc h1.size _⟩
  have HFz : Hid (∀ (W : World) (z : VT) (za : Option Addr) (zc : Nat) (b : Bool), Below V.heap.size V W → Bx W V.heap.size zeroT (.slice none 0 0) → LiesX (fun q => X q ∨ V.heap.size + 1 ≤ q) (16 + r.length) W z.items (.slice za z.items.length zc) → z.text.size ≤ 9223372036854775807 → ((b = true ∧ putT y r x = some z) ∨ (b = false ∧ putT y r x = none ∧ z = zeroT)) → Hid (Rz26 X V (16 + r.length) y x r (W.setCells V.heap.size 0 (encP (z, .slice za z.items.length zc))) V.heap.size z za zc b)) := fun W z za zc b h1 hb h2 h3 h4 => ⟨hb.put _, (LiesX.set (g := V.heap.size) (fun hq => by
      rcases hq with hq | hq
      · have := HXl.out _ hq; omega
      · omega) h2).mono (fun q hq => hq.imp id (fun hq => by omega)), h3, h4, below_put h1 (Nat.le_refl _) _⟩
  go_cut [14, 15] from 69 to 76 (fun s14 s15 wx => ∃ n14 z za zc b, s14 = .pointer (some ⟨n14, 0, none⟩) ∧ s15 = .bool b ∧ Hid (Rz26 X V (16 + r.length) y x r wx n14 z za zc b))
  case first =>
    obtain ⟨a0, a1, a2, a3, _, _, _, _⟩ := HyB.out
    obtain ⟨b0, b1, b2, b3, _, _, _, _⟩ := HXV.out
    have hl1 : n12 < V.heap.size := cell_lt a0
    have hl2 : w.heap.size + 1 < V.heap.size := cell_lt b0
    have HS0 : Hid (Sr26 n12 (w.heap.size + 1) y x (.slice ya y.items.length yc) (.slice ax x.items.length cx) V V) := ⟨⟨⟨a0, a1, a2, a3⟩, b0, b1, b2, b3⟩, Below.refl _ _⟩
    have HSs : Hid (∀ (zb : Nat) (W : World) (v0 v1 v2 v3 : Value), V.heap.size ≤ zb → Sr26 n12 (w.heap.size + 1) y x (.slice ya y.items.length yc) (.slice ax x.items.length cx) V W → Sr26 n12 (w.heap.size + 1) y x (.slice ya y.items.length yc) (.slice ax x.items.length cx) V ((((W.setCell ⟨zb, 0, none⟩ v0).setCell ⟨zb, 1, none⟩ v1).setCell ⟨zb, 2, none⟩ v2).setCell ⟨zb, 3, none⟩ v3)) := fun zb W v0 v1 v2 v3 h1 h2 => sr_set hl1 hl2 h1 h2
    clear HyB HXV HTV HRV HSV hl1 hl2 HNo HPp HPx HPt' HPs HRt HOn Hyo Hyr HPP hszV hbV
    by_cases hpc1 : pc = 1
    · have hr0 := Hr0.out hpc1
      subst hpc1
      subst hr0
      have HPu0 : Hid (∀ (W : World) (a' : Option Addr) (c' : Nat), Below V.heap.size V W → Calls Tryz.prog 20 #[.agg #[.int .i64 y.kind, .int .i64 y.num, .string y.text, .slice ya y.items.length yc], .slice a' 0 c', .agg #[.int .i64 x.kind, .int .i64 x.num, .string x.text, .slice ax x.items.length cx]] W (RPutQ X y [] x W)) := fun W a' c' hW => HPu.out W a' c' hW (fun h => absurd rfl h) (Nat.zero_le _)
      clear HPu Hr0 hpc hn
      go_region_held3 (fun w' => ((w'.cell? ⟨n12, 0, none⟩ = some (.int .i64 y.kind) ∧ w'.cell? ⟨n12, 1, none⟩ = some (.int .i64 y.num) ∧ w'.cell? ⟨n12, 2, none⟩ = some (.string y.text) ∧ w'.cell? ⟨n12, 3, none⟩ = some (.slice ya y.items.length yc)) ∧ (w'.cell? ⟨w.heap.size + 1, 0, none⟩ = some (.int .i64 x.kind) ∧ w'.cell? ⟨w.heap.size + 1, 1, none⟩ = some (.int .i64 x.num) ∧ w'.cell? ⟨w.heap.size + 1, 2, none⟩ = some (.string x.text) ∧ w'.cell? ⟨w.heap.size + 1, 3, none⟩ = some (.slice ax x.items.length cx))) ∧ Below V.heap.size V w') (first | (with_reducible exact sr_drew HS0.out) | (with_reducible exact sr_allocD _ (by assumption)) | (with_reducible exact sr_alloc _ (by assumption)) | (with_reducible exact HS4.out) | (with_reducible exact sr_alloc _ HS4.out) | (with_reducible exact HSs.out _ _ _ _ _ _ (by omega) (by assumption)) | (with_reducible assumption))
        (first | (go_at_call 20; (with_reducible refine Calls.mono (HPu0.out _ _ _ (sr_below (by assumption))) ?_); rintro e w4 ⟨z, za, zc, b, rfl, hz1, hz2, hz3, hz4⟩; have hS4 := sr_keeps (n1 := n12) (n2 := w.heap.size + 1) (y := y) (x := x) (V := V) (by assumption) hz4; have HS4 : Hid (Sr26 n12 (w.heap.size + 1) y x (.slice ya y.items.length yc) (.slice ax x.items.length cx) V w4) := hS4; have hbV4 : Below V.heap.size V w4 := hS4.2; clear hS4; (first | (have HZ : Bx w4 V.heap.size zeroT (.slice none 0 0) := (by first | (with_reducible exact Bx.keeps (bx_allocZ V) hz4) | (with_reducible exact Bx.keeps (bx_allocZd V) hz4)); have HF := HFz.out w4 z za zc b hbV4 HZ (hz1.mono (fun q hq => by simp at hq; rcases hq with hq | hq; exact .inl hq; exact .inr (by omega))) hz2 hz3; obtain ⟨z0, z1, z2, z3, y0, y1, y2, y3⟩ := HZ) | (have HF := HF0.out w4 z za zc b hbV4 (hz1.mono (fun q hq => hq.imp id (fun hq => by simp at hq; omega))) hz2 hz3)); clear hz1 hz2 hz3 hz4 hbV4))
      all_goals (go_wp2_with fail; go_meet; exact ⟨_, z, za, zc, b, rfl, rfl, HF⟩)
    · have Hr0 : Hid True := trivial
      have h1c : (1 : Int) ≤ (pc : Int) := by omega
      have h2c : (r.length : Int) + 1 ≤ (pc : Int) := by omega
      have h0c : (1 : Int) ≤ (r.length : Int) + 1 := by omega
      go_region_held3 (fun w' => ((w'.cell? ⟨n12, 0, none⟩ = some (.int .i64 y.kind) ∧ w'.cell? ⟨n12, 1, none⟩ = some (.int .i64 y.num) ∧ w'.cell? ⟨n12, 2, none⟩ = some (.string y.text) ∧ w'.cell? ⟨n12, 3, none⟩ = some (.slice ya y.items.length yc)) ∧ (w'.cell? ⟨w.heap.size + 1, 0, none⟩ = some (.int .i64 x.kind) ∧ w'.cell? ⟨w.heap.size + 1, 1, none⟩ = some (.int .i64 x.num) ∧ w'.cell? ⟨w.heap.size + 1, 2, none⟩ = some (.string x.text) ∧ w'.cell? ⟨w.heap.size + 1, 3, none⟩ = some (.slice ax x.items.length cx))) ∧ Below V.heap.size V w') (first | (with_reducible exact sr_drew HS0.out) | (with_reducible exact sr_allocD _ (by assumption)) | (with_reducible exact sr_alloc _ (by assumption)) | (with_reducible exact HS4.out) | (with_reducible exact sr_alloc _ HS4.out) | (with_reducible exact HSs.out _ _ _ _ _ _ (by omega) (by assumption)) | (with_reducible assumption))
        (first | (go_at_call 20; (with_reducible refine Calls.mono (HPu.out _ _ _ (sr_below (by assumption)) ?_ ?_) ?_); (intro hne; first | rfl | exact absurd Hr0.out hne); (first | (simp; omega) | omega); rintro e w4 ⟨z, za, zc, b, rfl, hz1, hz2, hz3, hz4⟩; have hS4 := sr_keeps (n1 := n12) (n2 := w.heap.size + 1) (y := y) (x := x) (V := V) (by assumption) hz4; have HS4 : Hid (Sr26 n12 (w.heap.size + 1) y x (.slice ya y.items.length yc) (.slice ax x.items.length cx) V w4) := hS4; have hbV4 : Below V.heap.size V w4 := hS4.2; clear hS4; (first | (have HZ : Bx w4 V.heap.size zeroT (.slice none 0 0) := (by first | (with_reducible exact Bx.keeps (bx_allocZ V) hz4) | (with_reducible exact Bx.keeps (bx_allocZd V) hz4)); have HF := HFz.out w4 z za zc b hbV4 HZ (hz1.mono (fun q hq => by simp at hq; rcases hq with hq | hq; exact .inl hq; exact .inr (by omega))) hz2 hz3; obtain ⟨z0, z1, z2, z3, y0, y1, y2, y3⟩ := HZ) | (have HF := HF0.out w4 z za zc b hbV4 (hz1.mono (fun q hq => hq.imp id (fun hq => by simp at hq; omega))) hz2 hz3)); clear hz1 hz2 hz3 hz4 hbV4))
      all_goals (go_wp2_with fail; go_meet; exact ⟨_, z, za, zc, b, rfl, rfl, HF⟩)
  case rest =>
    obtain ⟨n14, z, za, zc, b, rfl, rfl, H14⟩ := hcut
    generalize hVx : wc = Vx at *
    clear hVx
    have hbx : Below V.heap.size V Vx := H14.out.below
    have hbw : Below w.heap.size w Vx := hbV.trans (hbx.mono hbV.size)
    have HTx : Hid (Bx Vx w.heap.size t (.slice a t.items.length c)) := HTV.out.keeps hbx
    have HRx : Hid (Bx Vx (w.heap.size + 2) zeroT (.slice none 0 0)) := HRV.out.keeps hbx
    have HSx : Hid (Bx Vx (w.heap.size + 3) s (.slice sa s.items.length sc)) := HSV.out.keeps hbx
    have HZx : Hid (Bx Vx n14 z (.slice za z.items.length zc)) := H14.out.box
    clear HTV HXV HRV HSV HyB HF0 HFz HPu ih Hr0 HPp HPx
    cases b
    · have hno : putT y r x = none := by
        rcases H14.out.tell with ⟨h1, _⟩ | ⟨_, h1, _⟩
        · cases h1
        · exact h1
      have HNo2 : Hid (∀ W, Below w.heap.size w W → PP (.returned (.tuple #[.agg #[.int .i64 0, .int .i64 0, .string ⟨#[]⟩, .slice none 0 0], .bool false])) W) := fun W hW => HNo.out W y Hyo.out hno hW
      clear hno HNo H14 Hyo Hyr HPP
      have HNo := HNo2
      have HE1 : Hid (PP (.returned (.tuple #[.agg #[.int .i64 0, .int .i64 0, .string ⟨#[]⟩, .slice none 0 0], .bool false])) (Vx.setCells (w.heap.size + 2) 0 (encP (zeroT, .slice none 0 0)))) := HNo.out _ (below_put hbw (by omega) _)
      have Hq : Hid (Bx (Vx.setCells (w.heap.size + 2) 0 (encP (zeroT, .slice none 0 0))) (w.heap.size + 2) zeroT (.slice none 0 0)) := HRx.out.put (zeroT, .slice none 0 0)
      obtain ⟨z0, z1, z2, z3, g0, g1, g2, g3⟩ := HRx.out
      go_wp2_with fail
      refine bodyPost_ret (v := .tuple #[.agg #[.int .i64 0, .int .i64 0, .string ⟨#[]⟩, .slice none 0 0], .bool false]) ?_ rfl HE1.out
      obtain ⟨q0, q1, q2, q3, _, _, _, _⟩ := Hq.out
      simp only [World.setCells, encP, Nat.zero_add, Nat.reduceAdd] at q0 q1 q2 q3
      simp [results, Tryz.results20, go_sem, q0, q1, q2, q3]
    · have hyes : putT y r x = some z := by
        rcases H14.out.tell with ⟨_, h1⟩ | ⟨h1, _⟩
        · exact h1
        · cases h1
      have Hzl : Hid (LiesX (fun q => X q ∨ V.heap.size ≤ q) (16 + r.length) Vx z.items (.slice za z.items.length zc)) := H14.out.lies
      have Hzt : Hid (z.text.size ≤ 9223372036854775807) := H14.out.size
      have Hzp : Hid (putT t (s :: r) x = some (t2'.putI i z)) := by show _ = _; rw [put_step HOn.out Hyo.out, hyes]
      clear hyes HNo H14 Hyo Hyr
      have HUn : Hid (Calls Tryz.prog 41 #[.agg #[.int .i64 6, .int .i64 t.num, .string t.text, .slice a t.items.length c], .agg #[.int .i64 s.kind, .int .i64 s.num, .string s.text, .slice sa s.items.length sc], .agg #[.int .i64 z.kind, .int .i64 z.num, .string z.text, .slice za z.items.length zc]] Vx fun e w' => ∃ a' c', e = .returned (.agg #[.int .i64 6, .int .i64 0, .string ⟨#[]⟩, .slice a' (mapU (16 + r.length) t s z).length c']) ∧ LiesX (fun b => ((X b ∨ V.heap.size ≤ b) ∧ b < Vx.heap.size) ∨ Vx.heap.size ≤ b) (16 + r.length + 1) w' (mapU (16 + r.length) t s z) (.slice a' (mapU (16 + r.length) t s z).length c') ∧ Below Vx.heap.size Vx w') := by
        have := runder_any (fun b => (X b ∨ V.heap.size ≤ b) ∧ b < Vx.heap.size) (16 + r.length) (by omega) t s z a sa za c sc zc Vx (fun b h => h.2) ((HPt'.out.keeps hbw).both.mono (fun b h => ⟨.inl h.1, h.2⟩)) ((HPs.out.keeps hbw).both.mono (fun b h => ⟨.inl h.1, h.2⟩)) Hzl.out.both HRt.out.1 (by have := Hk.out; omega) HRt.out.2.2.2.2 Hzt.out
        rw [Hk.out] at this
        exact this
      have HE : Hid (∀ W a' c', LiesX (fun b => ((X b ∨ V.heap.size ≤ b) ∧ b < Vx.heap.size) ∨ Vx.heap.size ≤ b) (16 + r.length + 1) W (mapU (16 + r.length) t s z) (.slice a' (mapU (16 + r.length) t s z).length c') → Below w.heap.size w W → PP (.returned (.tuple #[.agg #[.int .i64 6, .int .i64 0, .string ⟨#[]⟩, .slice a' (mapU (16 + r.length) t s z).length c'], .bool true])) (W.setCells (w.heap.size + 2) 0 (encP (⟨6, 0, ⟨#[]⟩, (mapU (16 + r.length) t s z)⟩, .slice a' (mapU (16 + r.length) t s z).length c')))) := fun W a' c' hl hW => by
        rw [← HPP.out]
        have hk := Hk.out
        obtain ⟨e1, e2⟩ := bare_right HRt.out.1 (by omega)
        have ho := HOn.out
        unfold opnT at ho
        rw [if_pos (by omega)] at ho
        injection ho with ho
        injection ho with o1 o2
        refine ⟨⟨6, 0, ⟨#[]⟩, (mapU (16 + r.length) t s z)⟩, a', c', true, rfl, ?_, by show 0 ≤ _; omega, .inl ⟨rfl, ?_⟩, below_put hW (by omega) _⟩
        · refine (LiesX.set (g := w.heap.size + 2) (fun hq => ?_) hl).mono (fun q hq => ?_)
          · have h9 := hbx.size
            rcases hq with ⟨hq | hq, _⟩ | hq
            · have := HXl.out _ hq; omega
            · omega
            · omega
          · have h9 := hbx.size
            rcases hq with ⟨hq | hq, _⟩ | hq
            · exact .inl hq
            · exact .inr (by omega)
            · exact .inr (by omega)
        · rw [Hzp.out, ← o1, ← o2, und_put (by omega) HRt.out.1 HRt.out.2.1 HRt.out.2.2.1 HRt.out.2.2.2.1 (by omega)]
          unfold VT.putI
          rw [e1, e2]
      obtain ⟨t0, t1, t2, t3, _, _, _, _⟩ := HTx.out
      rw [Hk.out] at t0
      obtain ⟨s0, s1, s2, s3, _, _, _, _⟩ := HSx.out
      obtain ⟨y0, y1, y2, y3, _, _, _, _⟩ := HZx.out
      clear HPP HOn HRt Hzp Hzl Hzt HPt' HPs Hk
      generalize mapU (16 + r.length) t s z = MM at *
      go_wp2_with fail
      refine Calls.mono HUn.out ?_
      rintro e w9 ⟨a9, c9, rfl, hl9, hb9⟩
      have hbw9 : Below w.heap.size w w9 := hbw.trans (hb9.mono hbw.size)
      have HR9 : Hid (Bx w9 (w.heap.size + 2) zeroT (.slice none 0 0)) := HRx.out.keeps hb9
      have HE1 : Hid _ := HE.out w9 a9 c9 hl9 hbw9
      have Hq : Hid (Bx (w9.setCells (w.heap.size + 2) 0 (encP (⟨6, 0, ⟨#[]⟩, MM⟩, .slice a9 MM.length c9))) (w.heap.size + 2) ⟨6, 0, ⟨#[]⟩, MM⟩ (.slice a9 MM.length c9)) := HR9.out.put (⟨6, 0, ⟨#[]⟩, MM⟩, .slice a9 MM.length c9)
      obtain ⟨z0, z1, z2, z3, g0, g1, g2, g3⟩ := HR9.out
      clear hl9 hb9 HR9 HUn HE HRx HTx HSx HZx t0 t1 t2 t3 s0 s1 s2 s3 y0 y1 y2 y3
      generalize MM.length = ml at *
      go_wp2_with fail
      refine bodyPost_ret (v := .tuple #[.agg #[.int .i64 6, .int .i64 0, .string ⟨#[]⟩, .slice a9 ml c9], .bool true]) ?_ rfl HE1.out
      obtain ⟨q0, q1, q2, q3, _, _, _, _⟩ := Hq.out
      simp only [World.setCells, encP, Nat.zero_add, Nat.reduceAdd] at q0 q1 q2 q3
      simp [results, Tryz.results20, go_sem, q0, q1, q2, q3]

end Go.Proofs.YtofceccicmlmoaaGreat

