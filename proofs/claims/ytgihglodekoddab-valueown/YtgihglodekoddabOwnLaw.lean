/-
  The walk of ValueOwn.
-/
import Derived.Test.YtgihglodekoddabLiesX
import Derived.Test.YtgihglodekoddabOwnRow
import Derived.Test.YtgihglodekoddabVSort
import Derived.Deep.AppendLies
import Derived.Deep.RegionLaw
import Derived.Deep.Heap
import Derived.Test.YtgihglodekoddabSpoil
import Derived.Test.YtgihglodekoddabTold
import Derived.Test.YtgihglodekoddabSpeaks
namespace Go.Proofs.Ytgihglodekoddab
open Go.RowKit

/-- No list within is longer than memory may hold. -/
def Room : Nat → VT → Prop
  | 0, _ => True
  | d + 1, t => t.items.length * 56 ≤ 140737488355328 ∧ ∀ x ∈ t.items, Room d x

/-- What Own leaves: the value, in blocks of its own. -/
def OwnPost (d : Nat) (t : VT) (W : World) (e : Ending) (W' : World) : Prop :=
  ∃ v, e = .returned (.agg #[.int .i64 t.kind, .int .i64 t.num, .string t.text, v]) ∧ LiesX (fun b => W.heap.size ≤ b) d W' t.items v ∧ Below W.heap.size W W'

/-- What stands before a round of Own: the boxes, and the copies that were laid out. -/
structure Owl (d M n : Nat) (w : World) (t : VT) (wr : World) (j : Nat) (vo : Value) (ps : List PR) : Prop where
  len : ps.length = j
  eq : ps.map (·.1) = t.items.take j
  box : Bx wr (n + 1 + 1) t vo
  res : Bx wr (n + 1) zeroT (.slice none 0 0)
  own : wr.ownsRow M 25 4 vo j (ps.flatMap encP)
  gd : ∀ p ∈ ps, LiesX (fun b => M ≤ b ∧ vo.ownBlock ≠ some b) d wr p.1.items p.2 ∧ p.1.text.size ≤ 9223372036854775807
  below : Below w.heap.size w wr

theorem bx_put3 {W : World} {n : Nat} {t : VT} {u v : Value} (h : Bx W n t u) : Bx (W.setCell ⟨n, 3, none⟩ v) n t v := by
  have e0 := World.cell?_setCells_in n [v] 3 W (fun j hj => by
    have : j = 0 := by simp at hj; omega
    subst this
    show (W.cell? ⟨n, 3, none⟩).isSome = true
    rw [h.c3]; rfl) 0 (by simp)
  have ho : ∀ k, k < 3 → (W.setCell ⟨n, 3, none⟩ v).cell? ⟨n, k, none⟩ = W.cell? ⟨n, k, none⟩ := fun k hk => World.cell?_setCells_out n [v] 3 W ⟨n, k, none⟩ (fun _ _ => .inl hk)
  exact ⟨(ho 0 (by omega)).trans h.c0, (ho 1 (by omega)).trans h.c1, (ho 2 (by omega)).trans h.c2, by simpa [World.setCells] using e0, by simpa using h.f0, by simpa using h.f1, by simpa using h.f2, by simpa using h.f3⟩

theorem Owl.step {d M n : Nat} {w : World} {t : VT} {wr : World} {j : Nat} {vo : Value} {ps : List PR} (h : Owl d M n w t wr j vo ps) (hM : M = n + 3) (hn : n = w.heap.size) {s : VT} {vn : Value} {B : Nat} {WW : World} (hW : Below wr.heap.size wr WW) (hlt : wr.heap.size < WW.heap.size)
    (hB : wr.heap.size ≤ B) (hL : LiesX (fun b => B ≤ b) d WW s.items vn) (hts : s.text.size ≤ 9223372036854775807) (htake : t.items.take (j + 1) = t.items.take j ++ [s]) {o : Obj} {w3 : World} {G K : Nat}
    (hown : w3.ownsRow M 25 4 (.slice (some ⟨G, 0, none⟩) (j + 1) K) (j + 1) ((ps ++ [(s, vn)]).flatMap encP)) (hgrow : (WW.alloc o).grownBy w3 vo.ownBlock) (hat : vo.ownBlock = some G ∨ G = (WW.alloc o).heap.size) :
    Owl d M n w t (w3.setCell ⟨n + 1 + 1, 3, none⟩ (.slice (some ⟨G, 0, none⟩) (j + 1) K)) (j + 1) (.slice (some ⟨G, 0, none⟩) (j + 1) K) (ps ++ [(s, vn)]) := by
  have hob := h.own.lt
  have hG : M ≤ G := (hown.lt G rfl).1
  have hbx : n + 1 + 1 < wr.heap.size := cell_lt h.box.c0
  have hsz : (WW.alloc o).heap.size = WW.heap.size + 1 := World.size_alloc _ _
  have hal : Below WW.heap.size WW (WW.alloc o) := (Below.refl _ _).alloc (Nat.le_refl _) _
  have c3 : ∀ {a : Addr} {v : Value}, some a.block ≠ vo.ownBlock → WW.cell? a = some v → w3.cell? a = some v := fun hne hv => hgrow.cell (cell_keeps hal hv) hne
  have f3 : ∀ {a : Addr}, some a.block ≠ vo.ownBlock → a.block < WW.heap.size → w3.frozen? a = WW.frozen? a := fun {a} hne hv => (hgrow.frozen_far a (by omega) hne).trans (hal.frozen hv)
  have hbe : ∀ k, k < M → some k ≠ vo.ownBlock := fun k hk e => by have := hob k e.symm; omega
  have hbox : ∀ (m : Nat) (x : VT) (u : Value), m < M → Bx wr m x u → Bx w3 m x u := fun m x u hm hx => by
    have hx := hx.keeps hW
    have hl : m < WW.heap.size := cell_lt hx.c0
    exact ⟨c3 (hbe m hm) hx.c0, c3 (hbe m hm) hx.c1, c3 (hbe m hm) hx.c2, c3 (hbe m hm) hx.c3, (f3 (hbe m hm) hl).trans hx.f0, (f3 (hbe m hm) hl).trans hx.f1, (f3 (hbe m hm) hl).trans hx.f2, (f3 (hbe m hm) hl).trans hx.f3⟩
  have hb3 : Below w.heap.size w w3 := by
    refine ((h.below.trans (hW.mono h.below.size)).alloc (by have := h.below.size; omega) o).grown hgrow (by have := h.below.size; omega) (fun k hk => ?_)
    have := hob k hk
    omega
  refine ⟨by simp [h.len], by rw [List.map_append, h.eq, htake]; rfl, bx_put3 (hbox _ _ _ (by omega) h.box), ?_, ?_, fun p hp => ?_, hb3.setCell (by simp; omega) _⟩
  · have hr := hbox _ _ _ (by omega) h.res
    have hc : ∀ {k : Nat} {v : Value}, w3.cell? ⟨n + 1, k, none⟩ = some v → (w3.setCell ⟨n + 1 + 1, 3, none⟩ (.slice (some ⟨G, 0, none⟩) (j + 1) K)).cell? ⟨n + 1, k, none⟩ = some v := fun hv => cell_other (g := n + 1 + 1) (o := 3) (vs := [_]) (by simp) hv
    exact ⟨hc hr.c0, hc hr.c1, hc hr.c2, hc hr.c3, by simpa using hr.f0, by simpa using hr.f1, by simpa using hr.f2, by simpa using hr.f3⟩
  · refine ⟨hown.1, ?_⟩
    rcases hown.2 with h0 | ⟨g, cap, cur, hv, hb, hg, rest⟩
    · exact .inl h0
    · have hgG : g = G := by injection hv with h1; injection h1 with h1; injection h1 with h1; exact h1.symm
      exact .inr ⟨g, cap, cur, hv, hb, (Go.Deep.blk_setCell_other _ _ _ _ (by simp; omega)).trans hg, rest⟩
  · have hset : ∀ {a : Addr} {v : Value}, M ≤ a.block → w3.cell? a = some v → (w3.setCell ⟨n + 1 + 1, 3, none⟩ (.slice (some ⟨G, 0, none⟩) (j + 1) K)).cell? a = some v := fun ha hv => cell_other (g := n + 1 + 1) (o := 3) (vs := [_]) (by omega) hv
    rcases List.mem_append.1 hp with hp | hp
    · obtain ⟨g1, g2⟩ := h.gd p hp
      refine ⟨?_, g2⟩
      have g3 := (g1.keeps hW).both
      refine LiesX.stays (fun b hb => ⟨hb.1.1, fun e => ?_⟩) (fun a v ha hv => hset ha.1.1 (c3 (fun e => ha.1.2 e.symm) hv)) g3
      have e : G = b := by injection e
      rcases hat with hh | hh
      · exact hb.1.2 (by rw [hh, e])
      · omega
    · rw [List.mem_singleton.1 hp]
      refine ⟨?_, hts⟩
      have g3 := hL.both
      refine LiesX.stays (fun b hb => ⟨by omega, fun e => ?_⟩) (fun a v ha hv => hset (by omega) (c3 (fun e => by have := hob _ e.symm; omega) hv)) g3
      have e : G = b := by injection e
      rcases hat with hh | hh
      · have := hob G hh; omega
      · omega

/-- What Own has laid out at its end. -/
theorem Owl.done {d M n : Nat} {w : World} {t : VT} {wr : World} {vo : Value} {ps : List PR} (h : Owl d M n w t wr t.items.length vo ps) (hl : t.items.length ≤ 9223372036854775807) : LiesX (fun b => M ≤ b) (d + 1) wr t.items vo := by
  have hp : ps.map (·.1) = t.items := by rw [h.eq, List.take_length]
  have hs : SlP M d wr ps vo := SlP.of_own h.len.symm h.own (fun p hp => ⟨(h.gd p hp).1.lies, (h.gd p hp).2⟩) (by rw [h.len]; exact hl)
  have := SlP.liesX (X := fun b => M ≤ b) hs (fun b hb _ => hb) (fun p hp => (h.gd p hp).1.mono (fun b hb => hb.1))
  rwa [hp] at this

set_option maxRecDepth 100000 in
set_option maxHeartbeats 8000000 in
theorem own_core (d : Nat) (t : VT) (u : Value) (w : World) (hu : Lies (d + 1) w t.items u) (hroom : t.items.length * 56 ≤ 140737488355328)
    (hf : Hid (∀ (x : VT) (v : Value) (W : World), x ∈ t.items → Lies d W x.items v → Calls Try.prog 11 #[.agg #[.int .i64 x.kind, .int .i64 x.num, .string x.text, v]] W (OwnPost d x W))) :
    Calls Try.prog 11 #[.agg #[.int .i64 t.kind, .int .i64 t.num, .string t.text, u]] w (OwnPost (d + 1) t w) := by
  obtain ⟨a, c, rfl, hb0, hr0⟩ := id hu
  have Hr : Hid _ := hr0
  clear hr0 hu
  obtain ⟨i0, hi, hz0, hz1, hz2⟩ := info24
  have Hi : Hid _ := hi; have Hz0 : Hid _ := hz0; have Hz1 : Hid _ := hz1; have Hz2 : Hid _ := hz2
  clear hi hz0 hz1 hz2
  have HB0 : Hid (Owl d (w.heap.size + 3) w.heap.size w t (((w.alloc (.cells #[.int .i64 t.kind, .int .i64 t.num, .string t.text, .slice a t.items.length c] 25)).alloc (.cells #[.int .i64 0, .int .i64 0, .string ⟨#[]⟩, .slice none 0 0] 25)).alloc (.cells #[.int .i64 t.kind, .int .i64 t.num, .string t.text, .slice none 0 0] 25)) 0 (.slice none 0 0) []) := by
    refine ⟨rfl, rfl, ?_, ?_, World.ownsRow_nil _ _ _ _, (fun p hp => by cases hp), (((Grew.refl w).alloc _).alloc _).alloc _ |>.below⟩
    · have := bx_alloc ((w.alloc (.cells #[.int .i64 t.kind, .int .i64 t.num, .string t.text, .slice a t.items.length c] 25)).alloc (.cells #[.int .i64 0, .int .i64 0, .string ⟨#[]⟩, .slice none 0 0] 25)) t (.slice none 0 0)
      simpa using this
    · have := (bx_alloc (w.alloc (.cells #[.int .i64 t.kind, .int .i64 t.num, .string t.text, .slice a t.items.length c] 25)) zeroT (.slice none 0 0)).keeps ((Grew.refl _).alloc (.cells #[.int .i64 t.kind, .int .i64 t.num, .string t.text, .slice none 0 0] 25)).below
      simpa [zeroT] using this
  go_enter Try.func11, Try.ntmps11
  go_wp2_with fail
  go_loopg [11] t.items.length (fun z i wr => ∃ (j : Nat) (vo : Value) (ps : List PR), i = .int .i64 (j : Int) ∧ j ≤ t.items.length ∧ z = t.items.length - j ∧ Hid (Owl d (w.heap.size + 3) w.heap.size w t wr j vo ps))
  case atStart => exact ⟨0, _, [], rfl, by omega, by omega, HB0⟩
  case round =>
    obtain ⟨j, vo, ps, rfl, hj, hk, HM⟩ := hrel
    have Hk : Hid _ := hk
    clear hk HB0
    have hbw := HM.out.below
    have hwl := hbw.size
    by_cases hlt : j < t.items.length
    · obtain ⟨b1, o1, rfl, hall1⟩ := Hr.out (by intro e; simp [e] at hlt)
      obtain ⟨x, p0, p1, p2, p3, p4, hts⟩ := hall1 j hlt
      clear hall1
      obtain ⟨ax, cx, rfl, _⟩ := Lies.slice p4
      have hmem : t.items[j] ∈ t.items := List.getElem_mem hlt
      have p0 := cell_keeps hbw p0; have p1 := cell_keeps hbw p1; have p2 := cell_keeps hbw p2; have p3 := cell_keeps hbw p3
      have HL : Hid (Lies d w t.items[j].items (.slice ax t.items[j].items.length cx)) := p4
      have HF : Hid (∀ W, Lies d W t.items[j].items (.slice ax t.items[j].items.length cx) → Calls Try.prog 11 #[.agg #[.int .i64 t.items[j].kind, .int .i64 t.items[j].num, .string t.items[j].text, .slice ax t.items[j].items.length cx]] W (OwnPost d t.items[j] W)) := fun W h => hf.out _ _ W hmem h
      clear p4 hmem
      have Hx : Hid (t.items.take (j + 1) = t.items.take j ++ [t.items[j]]) := by show _ = _; rw [List.take_succ_eq_append_getElem hlt]
      have Hts : Hid (t.items[j].text.size ≤ 9223372036854775807) := hts
      clear hts
      generalize t.items[j] = s at *
      obtain ⟨y0, y1, y2, y3, z0, z1, z2, z3⟩ := HM.out.box
      have hn3 : w.heap.size + 1 + 1 < wr.heap.size := cell_lt y0
      have hbA' : Below wr.heap.size wr (wr.alloc (.cells #[.int .i64 s.kind, .int .i64 s.num, .string s.text, .slice ax s.items.length cx] 25)) := (Below.refl wr.heap.size wr).alloc (Nat.le_refl _) _
      have hbA : Below w.heap.size w (wr.alloc (.cells #[.int .i64 s.kind, .int .i64 s.num, .string s.text, .slice ax s.items.length cx] 25)) := hbw.alloc hwl _
      have HBX : Hid (Bx (wr.alloc (.cells #[.int .i64 s.kind, .int .i64 s.num, .string s.text, .slice ax s.items.length cx] 25)) wr.heap.size s (.slice ax s.items.length cx)) := bx_alloc wr s _
      obtain ⟨x0, x1, x2, x3, _, _, _, _⟩ := HBX.out
      have y3 := cell_keeps hbA' y3
      have z3 : (wr.alloc (.cells #[.int .i64 s.kind, .int .i64 s.num, .string s.text, .slice ax s.items.length cx] 25)).frozen? ⟨w.heap.size + 1 + 1, 3, none⟩ = false := (hbA'.frozen (p := ⟨w.heap.size + 1 + 1, 3, none⟩) hn3).trans z3
      have hbytes : (j + 1) * 56 ≤ 140737488355328 := by omega
      have HownA : Hid ((wr.alloc (.cells #[.int .i64 s.kind, .int .i64 s.num, .string s.text, .slice ax s.items.length cx] 25)).ownsRow (w.heap.size + 3) 25 4 vo j (ps.flatMap encP)) := HM.out.own.alloc _
      have hvs : ∃ av cv, vo = .slice av j cv := by
        rcases HM.out.own.2 with ⟨e, e2⟩ | ⟨g, cap, cur, e, _⟩
        · exact ⟨_, _, by rw [e, e2]⟩
        · exact ⟨_, cap, e⟩
      obtain ⟨av, cv, rfl⟩ := hvs
      have Hob : Hid (∀ k, (Value.slice av j cv).ownBlock = some k → w.heap.size + 3 ≤ k ∧ k < wr.heap.size) := fun k hk => HM.out.own.lt k hk
      go_wp2_with fail
      go_region_law
        (first
          | (refine step_append_lies _ rfl _ _ 22 rfl (w.heap.size + 3) 25 i0 (.agg #[.int .i64 0, .int .i64 0, .string ⟨#[]⟩, .slice none 0 0]) 4 56 Try.underlying22 Hi.out Hz0.out Hz1.out Hz2.out rfl (by decide) _ _ _ rfl (HownW.out.alloc _) ⟨WW.heap.size, 0, none⟩ 1 1 [.int .i64 s.kind, .int .i64 s.num, .string s.text, .slice an s.items.length cn] rfl rfl (fun q u hq => by match q, hq with | 0, hq => (simp at hq; subst hq; simp [Addr.add]) | 1, hq => (simp at hq; subst hq; simp [Addr.add]) | 2, hq => (simp at hq; subst hq; simp [Addr.add]) | 3, hq => (simp at hq; subst hq; simp [Addr.add]) | q + 4, hq => simp at hq) (fun u hu => by simp at hu; rcases hu with rfl | rfl | rfl | rfl <;> rfl) (by decide) (by unfold maxLen; omega) (by omega) (by simp; omega) _ rfl ?_; intro G K w3 hown hgrow hat hlt3; have f3 : w3.frozen? ⟨w.heap.size + 1 + 1, 3, none⟩ = false := (hgrow.frozen_far ⟨w.heap.size + 1 + 1, 3, none⟩ (by simp; omega) (fun e => by have := Hob.out _ e.symm; simp at this; omega)).trans ((((Below.refl WW.heap.size WW).alloc (Nat.le_refl _) _).frozen (p := ⟨w.heap.size + 1 + 1, 3, none⟩) (by simp; omega)).trans z3); have k3 : w3.cell? ⟨w.heap.size + 1 + 1, 3, none⟩ = some (.slice av j cv) := (World.cell?_of_block (hgrow.block (w.heap.size + 1 + 1) (by simp; omega) (fun e => by have := Hob.out _ e.symm; omega))).trans (cell_keeps ((Below.refl _ _).alloc (Nat.le_refl _) _) y3); have q0 : w3.cell? ⟨wr.heap.size, 0, none⟩ = some (.int .i64 s.kind) := (World.cell?_of_block (hgrow.block (wr.heap.size) (by simp; omega) (fun e => by have := Hob.out _ e.symm; omega))).trans (cell_keeps ((Below.refl _ _).alloc (Nat.le_refl _) _) x0); have q1 : w3.cell? ⟨wr.heap.size, 1, none⟩ = some (.int .i64 s.num) := (World.cell?_of_block (hgrow.block (wr.heap.size) (by simp; omega) (fun e => by have := Hob.out _ e.symm; omega))).trans (cell_keeps ((Below.refl _ _).alloc (Nat.le_refl _) _) x1); have q2 : w3.cell? ⟨wr.heap.size, 2, none⟩ = some (.string s.text) := (World.cell?_of_block (hgrow.block (wr.heap.size) (by simp; omega) (fun e => by have := Hob.out _ e.symm; omega))).trans (cell_keeps ((Below.refl _ _).alloc (Nat.le_refl _) _) x2); have q3 : w3.cell? ⟨wr.heap.size, 3, none⟩ = some (.slice ax s.items.length cx) := (World.cell?_of_block (hgrow.block (wr.heap.size) (by simp; omega) (fun e => by have := Hob.out _ e.symm; omega))).trans (cell_keeps ((Below.refl _ _).alloc (Nat.le_refl _) _) x3))
          | (go_simp; go_at_call 11; refine (HF.out _ (Lies.keeps hbA.drew _ _ _ HL.out)).mono ?_; rintro e WW ⟨vn, rfl, hLn, hg1⟩; have hb1' : Below _ _ WW := (Below.refl _ _).drew.trans hg1; have HLn : Hid _ := hLn; clear hg1 hLn; obtain ⟨an, cn, rfl, _⟩ := LiesX.slice HLn.out; have z3 := (hb1'.frozen (p := ⟨w.heap.size + 1 + 1, 3, none⟩) (by simp; omega)).trans z3; have y3 := cell_keeps hb1' y3; have x0 := cell_keeps hb1' x0; have x1 := cell_keeps hb1' x1; have x2 := cell_keeps hb1' x2; have x3 := cell_keeps hb1' x3; have HownW : Hid (WW.ownsRow (w.heap.size + 3) 25 4 (.slice av j cv) j (ps.flatMap encP)) := own_keeps HownA.out hb1'; have hwW : wr.heap.size < WW.heap.size := cell_lt x0; have y3a : (WW.alloc (.cells #[.int .i64 s.kind, .int .i64 s.num, .string s.text, .slice an s.items.length cn] 25)).cell? ⟨w.heap.size + 1 + 1, 3, none⟩ = some (.slice av j cv) := cell_keeps ((Below.refl _ _).alloc (Nat.le_refl _) _) y3; have hn3W : ¬ (w.heap.size + 1 + 1 = WW.heap.size) := by omega))
      all_goals
        have HN : Hid _ := HM.out.step rfl rfl (hbA'.trans (hb1'.mono (by simp))) hwW (by simp) HLn.out Hts.out Hx.out (by simpa [encP, List.flatMap_append] using hown) hgrow hat
        clear hown hgrow hat HM
        go_wp2_with fail
        go_roundg (t.items.length - (j + 1))
        case measure => have := Hk.out; omega
        case rel => exact ⟨j + 1, _, _, by go_num, by omega, rfl, HN⟩
    · have hje : j = t.items.length := by omega
      subst hje
      have hvs : ∃ av cv, vo = .slice av t.items.length cv := by
        rcases HM.out.own.2 with ⟨e, e2⟩ | ⟨g, cap, cur, e, _⟩
        · exact ⟨_, _, by rw [e, e2]⟩
        · exact ⟨_, cap, e⟩
      obtain ⟨av, cv, rfl⟩ := hvs
      have HLX : Hid (LiesX (fun b => w.heap.size + 3 ≤ b) (d + 1) wr t.items (.slice av t.items.length cv)) := HM.out.done hb0.2
      have HBo : Hid (Bx wr (w.heap.size + 1 + 1) t (.slice av t.items.length cv)) := HM.out.box
      have HRe : Hid (Bx wr (w.heap.size + 1) zeroT (.slice none 0 0)) := HM.out.res
      clear HM
      obtain ⟨x0, x1, x2, x3, _, _, _, _⟩ := HBo.out
      obtain ⟨y0, y1, y2, y3, z0, z1, z2, z3⟩ := HRe.out
      have Hbx : Hid (Bx (wr.setCells (w.heap.size + 1) 0 (encP (t, .slice av t.items.length cv))) (w.heap.size + 1) t (.slice av t.items.length cv)) := HRe.out.put (t, .slice av t.items.length cv)
      have Hbl : Hid (Below w.heap.size w (wr.setCells (w.heap.size + 1) 0 (encP (t, .slice av t.items.length cv)))) := below_put hbw (by omega) (t, .slice av t.items.length cv)
      have Hfin : Hid (LiesX (fun b => w.heap.size ≤ b) (d + 1) (wr.setCells (w.heap.size + 1) 0 (encP (t, .slice av t.items.length cv))) t.items (.slice av t.items.length cv)) := (HLX.out.set (g := w.heap.size + 1) (fun h => by omega)).mono (fun b hb => by omega)
      go_wp2_with fail
      refine bodyPost_ret (v := .agg #[.int .i64 t.kind, .int .i64 t.num, .string t.text, .slice av t.items.length cv]) ?_ rfl ⟨_, rfl, Hfin.out, Hbl.out⟩
      obtain ⟨q0, q1, q2, q3, _, _, _, _⟩ := Hbx.out
      simp only [encP, World.setCells, Nat.zero_add, Nat.reduceAdd] at q0 q1 q2 q3
      simp [results, Try.results11, go_sem, q0, q1, q2, q3]

theorem ownP_any : ∀ (d : Nat) (t : VT) (u : Value) (w : World), Lies d w t.items u → Room d t → Calls Try.prog 11 #[.agg #[.int .i64 t.kind, .int .i64 t.num, .string t.text, u]] w (OwnPost d t w) := by
  intro d
  induction d with
  | zero =>
    intro t u w hu _
    have e1 : t.items = [] := hu.1
    refine (own_core 0 t u w (Lies.deeper _ _ _ hu) (by rw [e1]; simp) (fun x _ _ hx => by rw [e1] at hx; cases hx)).mono fun e W' hh => ?_
    obtain ⟨v, he, hL, hb⟩ := hh
    obtain ⟨a', c', hv, _⟩ := LiesX.slice hL
    exact ⟨v, he, ⟨e1, a', c', by rw [hv, e1]; rfl⟩, hb⟩
  | succ d ih =>
    intro t u w hu hr
    exact own_core d t u w hu hr.1 (fun x v W hx hL => ih x v W hL (hr.2 x hx))


end Go.Proofs.Ytgihglodekoddab

namespace Go.Proofs.Ytgihglodekoddab
open Go.RowKit

/-- What stands before a round of Owns. -/
structure Owm (d : Nat) (w : World) (l : List VT) (wr : World) (j : Nat) (vo : Value) (ps : List PR) : Prop where
  len : ps.length = j
  eq : ps.map (·.1) = l.take j
  own : wr.ownsRow w.heap.size 25 4 vo j (ps.flatMap encP)
  gd : ∀ p ∈ ps, LiesX (fun b => w.heap.size ≤ b ∧ vo.ownBlock ≠ some b) d wr p.1.items p.2 ∧ p.1.text.size ≤ 9223372036854775807
  below : Below w.heap.size w wr

theorem Owm.step {d : Nat} {w : World} {l : List VT} {wr : World} {j : Nat} {vo : Value} {ps : List PR} (h : Owm d w l wr j vo ps) {s : VT} {vn : Value} {B : Nat} {WW : World} (hW : Below wr.heap.size wr WW)
    (hB : wr.heap.size ≤ B) (hL : LiesX (fun b => B ≤ b) d WW s.items vn) (hts : s.text.size ≤ 9223372036854775807) (htake : l.take (j + 1) = l.take j ++ [s]) {o : Obj} {w3 : World} {G K : Nat}
    (hown : w3.ownsRow w.heap.size 25 4 (.slice (some ⟨G, 0, none⟩) (j + 1) K) (j + 1) ((ps ++ [(s, vn)]).flatMap encP)) (hgrow : (WW.alloc o).grownBy w3 vo.ownBlock) (hat : vo.ownBlock = some G ∨ G = (WW.alloc o).heap.size) :
    Owm d w l w3 (j + 1) (.slice (some ⟨G, 0, none⟩) (j + 1) K) (ps ++ [(s, vn)]) := by
  have hob := h.own.lt
  have hsz : (WW.alloc o).heap.size = WW.heap.size + 1 := World.size_alloc _ _
  have hws := hW.size
  have hal : Below WW.heap.size WW (WW.alloc o) := (Below.refl _ _).alloc (Nat.le_refl _) _
  have c3 : ∀ {a : Addr} {v : Value}, some a.block ≠ vo.ownBlock → WW.cell? a = some v → w3.cell? a = some v := fun hne hv => hgrow.cell (cell_keeps hal hv) hne
  have hb3 : Below w.heap.size w w3 := by
    refine ((h.below.trans (hW.mono h.below.size)).alloc (by have := h.below.size; omega) o).grown hgrow (by have := h.below.size; omega) (fun k hk => ?_)
    exact (hob k hk).1
  refine ⟨by simp [h.len], by rw [List.map_append, h.eq, htake]; rfl, hown, fun p hp => ?_, hb3⟩
  rcases List.mem_append.1 hp with hp | hp
  · obtain ⟨g1, g2⟩ := h.gd p hp
    refine ⟨?_, g2⟩
    have g3 := (g1.keeps hW).both
    refine LiesX.stays (fun b hb => ⟨hb.1.1, fun e => ?_⟩) (fun a v ha hv => c3 (fun e => ha.1.2 e.symm) hv) g3
    have e : G = b := by injection e
    rcases hat with hh | hh
    · exact hb.1.2 (by rw [hh, e])
    · omega
  · rw [List.mem_singleton.1 hp]
    refine ⟨?_, hts⟩
    have g3 := hL.both
    have hwl := h.below.size
    refine LiesX.stays (fun b hb => ⟨by omega, fun e => ?_⟩) (fun a v ha hv => c3 (fun e => by have := hob _ e.symm; omega) hv) g3
    have e : G = b := by injection e
    rcases hat with hh | hh
    · have := hob G hh; omega
    · omega

set_option maxRecDepth 100000 in
set_option maxHeartbeats 8000000 in
theorem owns_any (d : Nat) (l : List VT) (u : Value) (w : World) (hu : Lies (d + 1) w l u) (hroom : l.length * 56 ≤ 140737488355328) (hrooms : ∀ x ∈ l, Room d x) :
    Calls Try.prog 4 #[u] w fun e w' => ∃ v, e = .returned v ∧ Lies (d + 1) w' l v ∧ Below w.heap.size w w' := by
  obtain ⟨a, c, rfl, hb0, hr0⟩ := id hu
  have Hr : Hid _ := hr0
  have Hrooms : Hid (∀ x ∈ l, Room d x) := hrooms
  clear hr0 hu hrooms
  obtain ⟨i0, hi, hz0, hz1, hz2⟩ := info24
  have Hi : Hid _ := hi; have Hz0 : Hid _ := hz0; have Hz1 : Hid _ := hz1; have Hz2 : Hid _ := hz2
  clear hi hz0 hz1 hz2
  have HB0 : Hid (Owm d w l w 0 (.slice none 0 0) []) := ⟨rfl, rfl, World.ownsRow_nil _ _ _ _, (fun p hp => by cases hp), Below.refl _ _⟩
  go_enter Try.func4, Try.ntmps4
  go_wp2_with fail
  go_loopg [3, 8] l.length (fun z vo i wr => ∃ (j : Nat) (ps : List PR), i = .int .i64 (j : Int) ∧ j ≤ l.length ∧ z = l.length - j ∧ Hid (Owm d w l wr j vo ps))
  case atStart => exact ⟨0, [], rfl, by omega, by omega, HB0⟩
  case round =>
    obtain ⟨j, ps, rfl, hj, hk, HM⟩ := hrel
    have Hk : Hid _ := hk
    clear hk HB0
    have hbw := HM.out.below
    have hwl := hbw.size
    by_cases hlt : j < l.length
    · obtain ⟨b1, o1, rfl, hall1⟩ := Hr.out (by intro e; simp [e] at hlt)
      obtain ⟨x, p0, p1, p2, p3, p4, hts⟩ := hall1 j hlt
      clear hall1
      obtain ⟨ax, cx, rfl, _⟩ := Lies.slice p4
      have p0 := cell_keeps hbw p0; have p1 := cell_keeps hbw p1; have p2 := cell_keeps hbw p2; have p3 := cell_keeps hbw p3
      have HL : Hid (Lies d w l[j].items (.slice ax l[j].items.length cx)) := p4
      have HRj : Hid (Room d l[j]) := Hrooms.out _ (List.getElem_mem hlt)
      have Hx : Hid (l.take (j + 1) = l.take j ++ [l[j]]) := by show _ = _; rw [List.take_succ_eq_append_getElem hlt]
      have Hts : Hid (l[j].text.size ≤ 9223372036854775807) := hts
      clear hts p4
      generalize l[j] = s at *
      have hbA' : Below wr.heap.size wr (wr.alloc (.cells #[.int .i64 s.kind, .int .i64 s.num, .string s.text, .slice ax s.items.length cx] 25)) := (Below.refl wr.heap.size wr).alloc (Nat.le_refl _) _
      have hbA : Below w.heap.size w (wr.alloc (.cells #[.int .i64 s.kind, .int .i64 s.num, .string s.text, .slice ax s.items.length cx] 25)) := hbw.alloc hwl _
      have hbytes : (j + 1) * 56 ≤ 140737488355328 := by omega
      have Hown0 : Hid (wr.ownsRow w.heap.size 25 4 u3 j (ps.flatMap encP)) := HM.out.own
      go_wp2_with fail
      refine (ownP_any d s _ _ (Lies.keeps hbA _ _ _ HL.out) HRj.out).mono ?_
      rintro e WW ⟨vn, rfl, hLn, hg1⟩
      have HLn : Hid _ := hLn
      obtain ⟨an, cn, rfl, _⟩ := LiesX.slice hLn
      have hbW : Below wr.heap.size wr WW := hbA'.trans (hg1.mono (by simp))
      have hwW := hbW.size
      have HownW : Hid (WW.ownsRow w.heap.size 25 4 u3 j (ps.flatMap encP)) := own_keeps Hown0.out hbW
      clear hLn hg1
      go_wp2_with (first
        | (at_builtin; refine wpList_append_lies _ rfl _ _ 22 rfl w.heap.size 25 i0 (.agg #[.int .i64 0, .int .i64 0, .string ⟨#[]⟩, .slice none 0 0]) 4 56 Try.underlying22 Hi.out Hz0.out Hz1.out Hz2.out rfl (by decide) _ _ _ rfl (HownW.out.alloc _) ⟨WW.heap.size, 0, none⟩ 1 1 [.int .i64 s.kind, .int .i64 s.num, .string s.text, .slice an s.items.length cn] rfl rfl (fun q u hq => by match q, hq with | 0, hq => (simp at hq; subst hq; simp [Addr.add]) | 1, hq => (simp at hq; subst hq; simp [Addr.add]) | 2, hq => (simp at hq; subst hq; simp [Addr.add]) | 3, hq => (simp at hq; subst hq; simp [Addr.add]) | q + 4, hq => simp at hq) (fun u hu => by simp at hu; rcases hu with rfl | rfl | rfl | rfl <;> rfl) (by decide) (by unfold maxLen; omega) (by omega) (by simp; omega) _ rfl ?_; intro G K w3 hown hgrow hat hlt3))
      have HN : Hid _ := HM.out.step hbW (by simp) HLn.out Hts.out Hx.out (by simpa [encP, List.flatMap_append] using hown) hgrow hat
      clear hown hgrow hat HM
      go_wp2_with fail
      go_roundg (l.length - (j + 1))
      case measure => have := Hk.out; omega
      case rel => exact ⟨j + 1, _, by go_num, by omega, rfl, HN⟩
    · have hje : j = l.length := by omega
      subst hje
      have HL : Hid (Lies (d + 1) wr l u3) := by
        have hp : ps.map (·.1) = l := by rw [HM.out.eq, List.take_length]
        have := (SlP.of_own HM.out.len.symm HM.out.own (fun p hp => (⟨(HM.out.gd p hp).1.lies, (HM.out.gd p hp).2⟩ : Sound d wr p)) (by rw [HM.out.len]; exact hb0.2)).lies
        rwa [hp] at this
      clear HM
      go_wp2_with fail
      go_ret
      exact ⟨_, rfl, HL.out, hbw⟩

end Go.Proofs.Ytgihglodekoddab

namespace Go.Proofs.Ytgihglodekoddab
open Go.RowKit

/-- A value and an error are told, the value in new memory. -/
def TellsB (d : Nat) (a : VT × Int) (w : World) (e : Ending) (w' : World) : Prop :=
  ∃ v, e = .returned (.tuple #[.agg #[.int .i64 a.1.kind, .int .i64 a.1.num, .string a.1.text, v], .int .i64 a.2]) ∧ LiesB w.heap.size (d + 1) w' a.1.items v ∧ Below w.heap.size w w'

theorem tellsB_zero (d : Nat) (n : Int) {w w' : World} (h : Below w.heap.size w w') : TellsB d (zeroT, n) w (.returned (.tuple #[zeroAgg, .int .i64 n])) w' :=
  ⟨.slice none 0 0, rfl, ⟨none, 0, rfl, by simp, fun h => absurd rfl h⟩, h⟩

theorem vset_tellsB (d : Nat) (l : List VT) (a : Option Addr) (c : Nat) (w : World) (hu : Lies (d + 1) w l (.slice a l.length c)) : Calls Try.prog 6 #[.slice a l.length c] w (TellsB d (setA d l) w) := by
  refine (set_anyB d l a c w hu).mono ?_
  rintro e w' ⟨hb, ⟨h0, rfl⟩ | ⟨h0, m, hm, ⟨hf, rfl⟩ | ⟨hf, v, rfl, hL⟩⟩⟩
  · unfold setA
    rw [if_pos h0]
    exact tellsB_zero _ _ hb
  · have hme := members_one hm (setM_members d l (good_list hu (listErr_zero h0).2)) (fun x => Iff.rfl)
    unfold setA
    rw [if_neg (fun h => h h0), ← hme, if_neg (by rw [hf]; simp)]
    exact tellsB_zero _ _ hb
  · have hme := members_one hm (setM_members d l (good_list hu (listErr_zero h0).2)) (fun x => Iff.rfl)
    unfold setA
    rw [if_neg (fun h => h h0), ← hme, if_pos hf]
    exact ⟨v, rfl, hL, hb⟩

theorem vlist_tellsB (d : Nat) (l : List VT) (u : Value) (w : World) (hu : Lies (d + 1) w l u) : Calls Try.prog 5 #[u] w (TellsB d (listA d l) w) := by
  refine (vlist_any d l u w hu).mono ?_
  rintro e w' ⟨hb, ⟨h0, rfl⟩ | ⟨h0, ⟨hf, rfl⟩ | ⟨hf, v, rfl, hL⟩⟩⟩
  · unfold listA
    rw [if_pos h0]
    exact tellsB_zero _ _ hb
  · unfold listA
    rw [if_neg (fun h => h h0), if_neg (by rw [hf]; simp)]
    exact tellsB_zero _ _ hb
  · unfold listA
    rw [if_neg (fun h => h h0), if_pos hf]
    exact ⟨v, rfl, hL, hb⟩

theorem LiesB.keeps {base d : Nat} {w w' : World} {l : List VT} {v : Value} (h : LiesB base d w l v) (hb : Below w.heap.size w w') : LiesB base d w' l v :=
  LiesB.stays (fun _ _ _ hv => ⟨cell_keeps hb hv, hb.frozen (cell_lt hv)⟩) _ _ _ h

set_option maxRecDepth 100000 in
set_option maxHeartbeats 16000000 in
theorem own_walk (d : Nat) (l : List VT) (a : Option Addr) (c : Nat) (w : World) (hu : Lies (d + 1) w l (.slice a l.length c)) (hroom : l.length * 56 ≤ 140737488355328) (hrooms : ∀ x ∈ l, Room d x) :
    Calls Try.prog 3 #[.slice a l.length c] w fun e w' => e = .returned (.bool true) ∧ Below w.heap.size w w' := by
  have hsp : Hid (∀ W : World, Calls Try.prog 9 #[] W fun e W' => e = .returned (.bool true) ∧ Below W.heap.size W W') := speaks_any
  have HL : Hid (Lies (d + 1) w l (.slice a l.length c)) := hu
  have H0 : Hid _ := owns_any d l (.slice a l.length c) w hu hroom hrooms
  have H1 : Hid (∀ W, Lies (d + 1) W l (.slice a l.length c) → Calls Try.prog 5 #[.slice a l.length c] W (TellsB d (listA d l) W)) := fun W h => vlist_tellsB d l _ W h
  have H2 : Hid (∀ W, Lies (d + 1) W l (.slice a l.length c) → Calls Try.prog 6 #[.slice a l.length c] W (TellsB d (setA d l) W)) := fun W h => vset_tellsB d l a c W h
  have H3 : Hid (∀ W, Lies (d + 1) W l (.slice a l.length c) → Calls Try.prog 7 #[.slice a l.length c] W (TellsL d (sortA d l) W)) := fun W h => vsort_tells d l a c W h
  have HVs : Hid (∀ (x y : Value) (W : World), Lies (d + 1) W l x → Lies (d + 1) W l y → Calls Try.prog 8 #[x, y] W fun e W' => e = .returned (.bool true) ∧ Below W.heap.size W W') := fun x y W h1 h2 => values_all d l x y W h1 h2
  generalize listA d l = A at *
  generalize setA d l = B at *
  generalize sortA d l = S at *
  obtain ⟨t, n1⟩ := A
  obtain ⟨r, n2⟩ := B
  obtain ⟨ss, n3⟩ := S
  clear hu hroom hrooms
  go_enter Try.func3, Try.ntmps3
  go_wp2_with fail
  refine Calls.mono H0.out ?_
  rintro e w0 ⟨vk, rfl, hLk, hb0⟩
  obtain ⟨ak, ck, rfl, _⟩ := Lies.slice hLk
  have HK : Hid (Lies (d + 1) w0 l (.slice ak l.length ck)) := hLk
  clear hLk
  go_wp2_with fail
  refine (H1.out _ (Lies.keeps hb0 _ _ _ HL.out)).mono ?_
  rintro e w1 ⟨v1, rfl, hL1, hg1⟩
  obtain ⟨a1, c1, rfl, _⟩ := LiesB.slice hL1
  have hb1 : Below w.heap.size w (w1.alloc (.cells #[.int .i64 t.kind, .int .i64 t.num, .string t.text, .slice a1 t.items.length c1] 25)) := (hb0.trans (hg1.mono hb0.size)).alloc (by have := hb0.size; have := hg1.size; omega) _
  have hk1 : Below w0.heap.size w0 (w1.alloc (.cells #[.int .i64 t.kind, .int .i64 t.num, .string t.text, .slice a1 t.items.length c1] 25)) := hg1.alloc hg1.size _
  have hq1 : Below w1.heap.size w1 (w1.alloc (.cells #[.int .i64 t.kind, .int .i64 t.num, .string t.text, .slice a1 t.items.length c1] 25)) := (Below.refl _ _).alloc (Nat.le_refl _) _
  have hs1 := hg1.size
  have HS1 : Hid (LiesB w0.heap.size (d + 1) w1 t.items (.slice a1 t.items.length c1)) := hL1
  have HB1 : Hid (Bx (w1.alloc (.cells #[.int .i64 t.kind, .int .i64 t.num, .string t.text, .slice a1 t.items.length c1] 25)) w1.heap.size t (.slice a1 t.items.length c1)) := bx_alloc w1 t _
  clear hL1 hg1
  go_wp2_with fail
  refine (H2.out _ (Lies.keeps hb1 _ _ _ HL.out)).mono ?_
  rintro e w2 ⟨v2, rfl, hL2, hg2⟩
  obtain ⟨a2, c2, rfl, _⟩ := LiesB.slice hL2
  have hs2 : w1.heap.size + 1 ≤ w2.heap.size := by have := hg2.size; rwa [World.size_alloc] at this
  have hb2 : Below w.heap.size w (w2.alloc (.cells #[.int .i64 r.kind, .int .i64 r.num, .string r.text, .slice a2 r.items.length c2] 25)) := (hb1.trans (hg2.mono hb1.size)).alloc (by have := hb0.size; omega) _
  have hk2 : Below w0.heap.size w0 (w2.alloc (.cells #[.int .i64 r.kind, .int .i64 r.num, .string r.text, .slice a2 r.items.length c2] 25)) := (hk1.trans (hg2.mono hk1.size)).alloc (by omega) _
  have hq2 : Below w1.heap.size w1 (w2.alloc (.cells #[.int .i64 r.kind, .int .i64 r.num, .string r.text, .slice a2 r.items.length c2] 25)) := (hq1.trans (hg2.mono hq1.size)).alloc (by omega) _
  have hp2 : Below w2.heap.size w2 (w2.alloc (.cells #[.int .i64 r.kind, .int .i64 r.num, .string r.text, .slice a2 r.items.length c2] 25)) := (Below.refl _ _).alloc (Nat.le_refl _) _
  have HS2 : Hid (LiesB (w1.heap.size + 1) (d + 1) w2 r.items (.slice a2 r.items.length c2)) := by have := hL2; rwa [World.size_alloc] at this
  have HB2 : Hid (Bx (w2.alloc (.cells #[.int .i64 r.kind, .int .i64 r.num, .string r.text, .slice a2 r.items.length c2] 25)) w2.heap.size r (.slice a2 r.items.length c2)) := bx_alloc w2 r _
  have HB12 : Hid (Bx (w2.alloc (.cells #[.int .i64 r.kind, .int .i64 r.num, .string r.text, .slice a2 r.items.length c2] 25)) w1.heap.size t (.slice a1 t.items.length c1)) := (HB1.out.keeps hg2).keeps hp2
  clear hL2 hg2 HB1
  go_wp2_with fail
  refine (H3.out _ (Lies.keeps hb2 _ _ _ HL.out)).mono ?_
  rintro e w3 ⟨v3, rfl, hL3, hg3⟩
  obtain ⟨a3, c3, rfl, _⟩ := LiesB.slice hL3
  have hs3 : w2.heap.size + 1 ≤ w3.heap.size := by have := hg3.size; rwa [World.size_alloc] at this
  have hb3 : Below w.heap.size w w3 := hb2.trans (hg3.mono hb2.size)
  have hk3 : Below w0.heap.size w0 w3 := hk2.trans (hg3.mono hk2.size)
  have hq3 : Below w1.heap.size w1 w3 := hq2.trans (hg3.mono hq2.size)
  have hp3 : Below w2.heap.size w2 w3 := hp2.trans (hg3.mono hp2.size)
  have HS3 : Hid (LiesB (w2.heap.size + 1) (d + 1) w3 ss (.slice a3 ss.length c3)) := by have := hL3; rwa [World.size_alloc] at this
  have HB3 : Hid (Bx w3 w2.heap.size r (.slice a2 r.items.length c2)) := HB2.out.keeps hg3
  have HB13 : Hid (Bx w3 w1.heap.size t (.slice a1 t.items.length c1)) := HB12.out.keeps hg3
  have HLl : Hid (Lies (d + 1) w3 l (.slice a l.length c)) := Lies.keeps hb3 _ _ _ HL.out
  have HLk : Hid (Lies (d + 1) w3 l (.slice ak l.length ck)) := Lies.keeps hk3 _ _ _ HK.out
  have hsw := hb0.size
  clear hL3 hg3 HB2 HB12 hb1 hb2 hk1 hk2 hq1 hq2 hp2 hb0 H0 H1 H2 H3
  by_cases h1 : n1 = 0
  · by_cases h2 : n2 = 0
    · by_cases h3 : n3 = 0
      · subst h1 h2 h3
        obtain ⟨X, hX⟩ : ∃ X : Nat → Prop, X = fun b => w0.heap.size ≤ b ∧ b ≠ w1.heap.size ∧ b ≠ w2.heap.size ∧ b < w3.heap.size := ⟨_, rfl⟩
        have HX : Hid (∀ b, X b ↔ w0.heap.size ≤ b ∧ b ≠ w1.heap.size ∧ b ≠ w2.heap.size ∧ b < w3.heap.size) := fun b => by rw [hX]
        clear hX
        have HP1 : Hid (Sp X (d + 1) w3 (.slice a1 t.items.length c1)) := Sp.keeps hq3 _ _ (LiesB.sp (fun b k1 k2 => (HX.out b).2 ⟨k1, by omega, by omega, by omega⟩) _ _ _ HS1.out)
        have HP2 : Hid (Sp X (d + 1) w3 (.slice a2 r.items.length c2)) := Sp.keeps hp3 _ _ (LiesB.sp (fun b k1 k2 => (HX.out b).2 ⟨by omega, by omega, by omega, by omega⟩) _ _ _ HS2.out)
        have HP3 : Hid (Sp X (d + 1) w3 (.slice a3 ss.length c3)) := LiesB.sp (fun b k1 k2 => (HX.out b).2 ⟨by omega, by omega, by omega, by omega⟩) _ _ _ HS3.out
        have HSpo : Hid _ := spoil_any w0.heap.size w3.heap.size X (fun b h => by have := (HX.out b).1 h; omega) (by omega) (d + 1)
        have HSpd : Hid _ := spoil_any w0.heap.size w3.heap.size X (fun b h => by have := (HX.out b).1 h; omega) (by omega) d
        clear HS1 HS2 HS3
        obtain ⟨x0, x1, x2, x3, _, _, _, _⟩ := HB13.out
        go_wp2_with fail
        refine (HSpo.out t.kind t.num t.text _ _ (Nat.le_refl _) HP1.out).mono ?_
        rintro e w4 ⟨rfl, hs4⟩
        have HT4 : Hid (Spt w0.heap.size X w3 w4) := hs4
        have y0 := hs4.cell (fun h => by have := (HX.out _).1 h; simp at this) HB3.out.c0
        have y1 := hs4.cell (fun h => by have := (HX.out _).1 h; simp at this) HB3.out.c1
        have y2 := hs4.cell (fun h => by have := (HX.out _).1 h; simp at this) HB3.out.c2
        have y3 := hs4.cell (fun h => by have := (HX.out _).1 h; simp at this) HB3.out.c3
        clear hs4 x0 x1 x2 x3
        go_wp2_with fail
        refine (HSpo.out r.kind r.num r.text _ _ HT4.out.below.size (HT4.out.keeps _ _ HP2.out)).mono ?_
        rintro e w5 ⟨rfl, hs5⟩
        have HT5 : Hid (Spt w0.heap.size X w3 w5) := HT4.out.trans hs5
        clear hs5 y0 y1 y2 y3 HT4
        go_wp2_with fail
        go_loopg [50] ss.length (fun z i wr => ∃ (j : Nat), i = .int .i64 (j : Int) ∧ j ≤ ss.length ∧ z = ss.length - j ∧ Hid (Spt w0.heap.size X w3 wr))
        case atStart => exact ⟨0, rfl, by omega, by omega, HT5⟩
        case round =>
          obtain ⟨j, rfl, hj, hk, HM⟩ := hrel
          have Hk : Hid _ := hk
          clear hk HT5
          by_cases hlt : j < ss.length
          · obtain ⟨b, rfl⟩ := Sp.addr HP3.out (by omega)
            obtain ⟨hxb, k1, m1, s1, au, nu, cu, z0, z1, z2, z3, _, hu1⟩ := Sp.row (HM.out.keeps _ _ HP3.out) j hlt
            have Hxb : Hid (X b) := hxb
            have HU : Hid (Sp X d wr (.slice au nu cu)) := hu1
            have hbb : w0.heap.size ≤ b := ((HX.out b).1 hxb).1
            clear hu1 hxb
            have hji : (j : Int) < (ss.length : Nat) := by omega
            go_wp2_with fail
            refine (HSpd.out k1 m1 s1 _ _ HM.out.below.size HU.out).mono ?_
            rintro e w6 ⟨rfl, hs6⟩
            have HT6 : Hid (Spt w0.heap.size X w3 w6) := HM.out.trans hs6
            clear hs6 z0 z1 z2 z3 HU HM
            obtain ⟨_, k2, m2, s2, a4, n4, c4, z0, z1, z2, z3, ⟨f0, f1, f2, f3⟩, _⟩ := Sp.row (HT6.out.keeps _ _ HP3.out) j hlt
            have HN : Hid (Spt w0.heap.size X w3 (w6.setCells b (j * 4) (encP (zeroT, .slice none 0 0)))) := HT6.out.put b j hbb Hxb.out zeroT
            go_wp2_with fail
            go_roundg (ss.length - (j + 1))
            case measure => have := Hk.out; omega
            case rel => exact ⟨j + 1, by go_num, by omega, rfl, HN⟩
          · have hb3 : Below w.heap.size w wr := hb3.trans (HM.out.below.mono hsw)
            have HLl : Hid (Lies (d + 1) wr l (.slice a l.length c)) := Lies.keeps hb3 _ _ _ HL.out
            have HLk : Hid (Lies (d + 1) wr l (.slice ak l.length ck)) := Lies.keeps (hk3.trans HM.out.below) _ _ _ HK.out
            go_wp2_with fail
            refine (HVs.out _ _ _ HLl.out HLk.out).mono ?_
            rintro e w7 ⟨rfl, hg7⟩
            have hb7 : Below w.heap.size w w7 := hb3.trans (hg7.mono hb3.size)
            clear hg7
            go_wp2_with fail
            refine (hsp.out _).mono ?_
            rintro e w8 ⟨rfl, hg8⟩
            have hb8 : Below w.heap.size w w8 := hb7.trans (hg8.mono hb7.size)
            go_wp2_with fail
            go_ret
            exact ⟨rfl, hb8⟩
      · subst h1 h2
        have h3' : (n3 != 0) = true := by simpa using h3
        go_wp2_with fail
        refine (HVs.out _ _ _ HLl.out HLk.out).mono ?_
        rintro e w7 ⟨rfl, hg7⟩
        have hb7 : Below w.heap.size w w7 := hb3.trans (hg7.mono hb3.size)
        clear hg7
        go_wp2_with fail
        refine (hsp.out _).mono ?_
        rintro e w8 ⟨rfl, hg8⟩
        have hb8 : Below w.heap.size w w8 := hb7.trans (hg8.mono hb7.size)
        go_wp2_with fail
        go_ret
        exact ⟨rfl, hb8⟩
    · subst h1
      have h2' : (n2 != 0) = true := by simpa using h2
      go_wp2_with fail
      refine (HVs.out _ _ _ HLl.out HLk.out).mono ?_
      rintro e w7 ⟨rfl, hg7⟩
      have hb7 : Below w.heap.size w w7 := hb3.trans (hg7.mono hb3.size)
      clear hg7
      go_wp2_with fail
      refine (hsp.out _).mono ?_
      rintro e w8 ⟨rfl, hg8⟩
      have hb8 : Below w.heap.size w w8 := hb7.trans (hg8.mono hb7.size)
      go_wp2_with fail
      go_ret
      exact ⟨rfl, hb8⟩
  · have h1' : (n1 != 0) = true := by simpa using h1
    go_wp2_with fail
    refine (HVs.out _ _ _ HLl.out HLk.out).mono ?_
    rintro e w7 ⟨rfl, hg7⟩
    have hb7 : Below w.heap.size w w7 := hb3.trans (hg7.mono hb3.size)
    clear hg7
    go_wp2_with fail
    refine (hsp.out _).mono ?_
    rintro e w8 ⟨rfl, hg8⟩
    have hb8 : Below w.heap.size w w8 := hb7.trans (hg8.mono hb7.size)
    go_wp2_with fail
    go_ret
    exact ⟨rfl, hb8⟩

end Go.Proofs.Ytgihglodekoddab

