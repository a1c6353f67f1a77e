/-
  PairingSteps: the statement's walk.
-/
import Derived.Test.YtgmmocbgeilpiaaGreatStepP19
import Derived.Test.YtgmmocbgeilpiaaGreatNilLaw19
import Derived.Test.YtgmmocbgeilpiaaGreatReadB19
import Derived.Deep.CutRange
namespace Go.Proofs.YtgmmocbgeilpiaaGreat
open Go.RowKit Go.Shelf

/-- Both boxes hold equal values. -/
def BxsC (bx by' : Nat) (wx : World) : Prop :=
  ∃ k n s l a c a2 c2, Boxed wx bx k n s (.slice a l c) ∧ Boxed wx by' k n s (.slice a2 l c2) ∧ ∀ V, Below wx.heap.size wx V → Calls Tryz.prog 16 #[.agg #[.int .i64 k, .int .i64 n, .string s, .slice a l c], .agg #[.int .i64 k, .int .i64 n, .string s, .slice a2 l c2]] V fun e w3 => e = .returned (.bool true) ∧ Below V.heap.size V w3

/-- What a step leaves. -/
def StepR (q : Nat) (I : List VT) (wr : World) (bx by' : Nat) (s8 s10 s13 s14 : Value) (wx : World) : Prop :=
  Below wr.heap.size wr wx ∧ BxsC bx by' wx ∧
  ((∃ E : Int, E ≠ 0 ∧ s8 = .int .i64 E ∧ s10 = .int .i64 E ∧ s13 = .pointer none ∧ s14 = .pointer none) ∨
   (∃ J b' B', s8 = .int .i64 0 ∧ s10 = .int .i64 0 ∧ s13 = .pointer (some ⟨b', 0, none⟩) ∧ s14 = .pointer (some ⟨B', 0, none⟩) ∧ QC All wx q J b' ∧ RQ wx q (srtV q J) B' ∧ J.length ≤ I.length + 1))

/-- The step's two boxes, still zero. -/
structure Zs (wr W : World) : Prop where
  below : Below wr.heap.size wr W
  bx : Blank W wr.heap.size
  by' : Blank W (wr.heap.size + 1)
  x4 : W.cell? ⟨wr.heap.size, 4, none⟩ = none
  y4 : W.cell? ⟨wr.heap.size + 1, 4, none⟩ = none

theorem zs_alloc (wr : World) : Zs wr ((wr.alloc (.cells #[.int .i64 0, .int .i64 0, .string ⟨#[]⟩, .slice none 0 0] 37)).alloc (.cells #[.int .i64 0, .int .i64 0, .string ⟨#[]⟩, .slice none 0 0] 37)) := by
  refine ⟨(((Grew.refl wr).alloc _).alloc _).below, (blank_alloc wr).keeps ((Grew.refl _).alloc _).below, ?_, ?_, ?_⟩
  · have := blank_alloc (wr.alloc (.cells #[.int .i64 0, .int .i64 0, .string ⟨#[]⟩, .slice none 0 0] 37))
    rwa [World.size_alloc] at this
  · have h := ((Grew.refl (wr.alloc (.cells #[.int .i64 0, .int .i64 0, .string ⟨#[]⟩, .slice none 0 0] 37))).alloc (.cells #[.int .i64 0, .int .i64 0, .string ⟨#[]⟩, .slice none 0 0] 37)).below.cell (p := ⟨wr.heap.size, 4, none⟩) (by simp)
    rw [h]; simp
  · have e : (wr.alloc (.cells #[.int .i64 0, .int .i64 0, .string ⟨#[]⟩, .slice none 0 0] 37)).heap.size = wr.heap.size + 1 := World.size_alloc ..
    rw [← e]; simp


/-- The first box written. -/
theorem Zs.putx {wr W : World} (h : Zs wr W) (p : VT × Value) : Below wr.heap.size wr (W.setCells wr.heap.size 0 (encP p)) ∧ Blank (W.setCells wr.heap.size 0 (encP p)) (wr.heap.size + 1) ∧ (W.setCells wr.heap.size 0 (encP p)).cell? ⟨wr.heap.size + 1, 4, none⟩ = none ∧ Boxed (W.setCells wr.heap.size 0 (encP p)) wr.heap.size p.1.kind p.1.num p.1.text p.2 := by
  have ho : ∀ k, (W.setCells wr.heap.size 0 (encP p)).cell? ⟨wr.heap.size + 1, k, none⟩ = W.cell? ⟨wr.heap.size + 1, k, none⟩ := fun k => World.cell?_setCells_out wr.heap.size _ 0 W ⟨wr.heap.size + 1, k, none⟩ (fun e _ => by simp at e)
  refine ⟨below_put h.below (Nat.le_refl _) p, ⟨?_, ?_, ?_, ?_, ?_, ?_, ?_, ?_⟩, by rw [ho]; exact h.y4, h.bx.put p⟩
  · rw [ho]; exact h.by'.c0
  · rw [ho]; exact h.by'.c1
  · rw [ho]; exact h.by'.c2
  · rw [ho]; exact h.by'.c3
  · rw [World.frozen?_setCells]; exact h.by'.f0
  · rw [World.frozen?_setCells]; exact h.by'.f1
  · rw [World.frozen?_setCells]; exact h.by'.f2
  · rw [World.frozen?_setCells]; exact h.by'.f3

theorem Zs.keeps {wr W W' : World} (h : Zs wr W) (hb : Below W.heap.size W W') : Zs wr W' := by
  have l1 : wr.heap.size < W.heap.size := cell_lt h.bx.c0
  have l2 : wr.heap.size + 1 < W.heap.size := cell_lt h.by'.c0
  exact ⟨h.below.trans (hb.mono h.below.size), h.bx.keeps hb, h.by'.keeps hb, by rw [hb.cell (p := ⟨wr.heap.size, 4, none⟩) l1]; exact h.x4, by rw [hb.cell (p := ⟨wr.heap.size + 1, 4, none⟩) l2]; exact h.y4⟩

/-- What stands behind the first Pop and its store. -/
structure Px (wr W : World) (p : VT × Value) : Prop where
  below : Below wr.heap.size wr W
  by' : Blank W (wr.heap.size + 1)
  y4 : W.cell? ⟨wr.heap.size + 1, 4, none⟩ = none
  box : Boxed W wr.heap.size p.1.kind p.1.num p.1.text p.2

theorem Zs.px {wr W : World} (h : Zs wr W) (p : VT × Value) : Px wr (W.setCells wr.heap.size 0 (encP p)) p := by
  obtain ⟨a, b, c, d⟩ := h.putx p
  exact ⟨a, b, c, d⟩

theorem Px.keeps {wr W W' : World} {p : VT × Value} (h : Px wr W p) (hb : Below W.heap.size W W') : Px wr W' p := by
  have l2 : wr.heap.size + 1 < W.heap.size := cell_lt h.by'.c0
  exact ⟨h.below.trans (hb.mono h.below.size), h.by'.keeps hb, by rw [hb.cell (p := ⟨wr.heap.size + 1, 4, none⟩) l2]; exact h.y4, h.box.keeps hb⟩

/-- The second box written. -/
theorem Px.puty {wr W : World} {p : VT × Value} (h : Px wr W p) (r : VT × Value) : Below wr.heap.size wr (W.setCells (wr.heap.size + 1) 0 (encP r)) ∧ Boxed (W.setCells (wr.heap.size + 1) 0 (encP r)) wr.heap.size p.1.kind p.1.num p.1.text p.2 ∧ Boxed (W.setCells (wr.heap.size + 1) 0 (encP r)) (wr.heap.size + 1) r.1.kind r.1.num r.1.text r.2 := by
  have ho : ∀ k u, W.cell? ⟨wr.heap.size, k, none⟩ = some u → (W.setCells (wr.heap.size + 1) 0 (encP r)).cell? ⟨wr.heap.size, k, none⟩ = some u := fun k u hu => by
    rw [World.cell?_setCells_out (wr.heap.size + 1) _ 0 W ⟨wr.heap.size, k, none⟩ (fun e _ => by simp at e)]; exact hu
  exact ⟨below_put h.below (Nat.le_succ _) r, ⟨ho _ _ h.box.c0, ho _ _ h.box.c1, ho _ _ h.box.c2, ho _ _ h.box.c3⟩, h.by'.put r⟩

theorem zero_lies19 (W : World) : Lies 16 W (⟨0, 0, ⟨#[]⟩, []⟩ : VT).items (.slice none 0 0) := ⟨none, 0, rfl, by simp, fun h => absurd rfl h⟩

/-- Both are empty. -/
theorem step_bare {q : Nat} {I : List VT} {wr W : World} (h : Px wr W (⟨0, 0, ⟨#[]⟩, []⟩, .slice none 0 0)) : StepR q I wr wr.heap.size (wr.heap.size + 1) (.int .i64 6) (.int .i64 6) (.pointer none) (.pointer none) (W.setCells (wr.heap.size + 1) 0 (encP (⟨0, 0, ⟨#[]⟩, []⟩, .slice none 0 0))) := by
  obtain ⟨h1, h2, h3⟩ := h.puty (⟨0, 0, ⟨#[]⟩, []⟩, .slice none 0 0)
  exact ⟨h1, ⟨0, 0, ⟨#[]⟩, 0, none, 0, none, 0, h2, h3, fun V _ => value_self19 ⟨0, 0, ⟨#[]⟩, []⟩ _ _ V (zero_lies19 V) (zero_lies19 V)⟩, .inl ⟨6, by decide, rfl, rfl, rfl, rfl⟩⟩

/-- The blocks that are none of the two boxes. -/
abbrev Nb (wr : World) : Nat → Prop := fun z => z ≠ wr.heap.size ∧ z ≠ wr.heap.size + 1

/-- Both have an item. -/
theorem step_some {q : Nat} {I m : List VT} {x : VT} {a a2 : Option Addr} {c c2 b' B' : Nat} {wr W : World} (hI : srtV q I = x :: m) (h : Px wr W (x, .slice a x.items.length c)) (hq : QC (Nb wr) W q m b') (hL : LiesB (wr.heap.size + 2) 16 W x.items (.slice a x.items.length c)) (hr : RX wr W q m B') (hB : wr.heap.size + 1 < B') (hit : ItM All wr x (.slice a2 x.items.length c2)) :
    StepR q I wr wr.heap.size (wr.heap.size + 1) (.int .i64 0) (.int .i64 0) (.pointer (some ⟨b', 0, none⟩)) (.pointer (some ⟨B', 0, none⟩)) (W.setCells (wr.heap.size + 1) 0 (encP (x, .slice a2 x.items.length c2))) := by
  obtain ⟨h1, h2, h3⟩ := h.puty (x, .slice a2 x.items.length c2)
  have hq2 := (hq.put (fun h => h.2 rfl) h.by' h.y4 (x, .slice a2 x.items.length c2)).mono (Y := All) (fun _ _ => trivial)
  have hL2 : Lies 16 (W.setCells (wr.heap.size + 1) 0 (encP (x, .slice a2 x.items.length c2))) x.items (.slice a x.items.length c) := LiesB.lies _ _ _ (LiesB.stays (base := wr.heap.size + 2) (fun z u hz hu => ⟨by
      rw [World.cell?_setCells_out (wr.heap.size + 1) _ 0 W z (fun e _ => by omega)]; exact hu, World.frozen?_setCells ..⟩) _ _ _ hL)
  have hit2 := hit.keeps h1
  have hr2 : RX wr (W.setCells (wr.heap.size + 1) 0 (encP (x, .slice a2 x.items.length c2))) q m B' := by
    obtain ⟨v, k1, k2⟩ := hr.ex
    have ho : ∀ k u, W.cell? ⟨B', k, none⟩ = some u → (W.setCells (wr.heap.size + 1) 0 (encP (x, .slice a2 x.items.length c2))).cell? ⟨B', k, none⟩ = some u := fun k u hu => by
      rw [World.cell?_setCells_out (wr.heap.size + 1) _ 0 W ⟨B', k, none⟩ (fun e _ => by simp at e; omega)]; exact hu
    exact ⟨h1, ho _ _ hr.order, ⟨v, ho _ _ k1, k2⟩, hr.lt, hr.le, hr.up⟩
  refine ⟨h1, ⟨x.kind, x.num, x.text, x.items.length, a, c, a2, c2, h2, h3, fun V hV => value_self19 x _ _ V (Lies.keeps hV _ _ _ hL2) (Lies.keeps hV _ _ _ hit2.lies.lies)⟩, .inr ⟨m, b', B', rfl, rfl, rfl, rfl, hq2, by rw [hr.up]; exact hr2.rq, ?_⟩⟩
  have e := congrArg List.length hI
  rw [srtV_len, List.length_cons] at e
  omega

/-- Behind a Push: the boxes are still zero. -/
theorem step_push {q : Nat} {I : List VT} {wr W : World} {s8 s10 s13 s14 : Value} (h : Zs wr W) (ho : (∃ E : Int, E ≠ 0 ∧ s8 = .int .i64 E ∧ s10 = .int .i64 E ∧ s13 = .pointer none ∧ s14 = .pointer none) ∨
   (∃ J b' B', s8 = .int .i64 0 ∧ s10 = .int .i64 0 ∧ s13 = .pointer (some ⟨b', 0, none⟩) ∧ s14 = .pointer (some ⟨B', 0, none⟩) ∧ QC All W q J b' ∧ RQ W q (srtV q J) B' ∧ J.length ≤ I.length + 1)) : StepR q I wr wr.heap.size (wr.heap.size + 1) s8 s10 s13 s14 W :=
  ⟨h.below, ⟨0, 0, ⟨#[]⟩, 0, none, 0, none, 0, ⟨h.bx.c0, h.bx.c1, h.bx.c2, h.bx.c3⟩, ⟨h.by'.c0, h.by'.c1, h.by'.c2, h.by'.c3⟩, fun V _ => value_self19 ⟨0, 0, ⟨#[]⟩, []⟩ _ _ V (zero_lies19 V) (zero_lies19 V)⟩, ho⟩

set_option maxRecDepth 100000 in
set_option maxHeartbeats 8000000 in
theorem steps_ok19 (d q : Nat) (hq : q < 6) (l : List VT) (bs : List Bool) (u v : Value) (w : World) (hu : Lies (d + 1) w l u) (hb : BlAt w bs v) : Calls Tryz.prog 4 #[.int .i64 (q : Int), u, v] w fun e w' => e = .returned (.bool true) ∧ Below w.heap.size w w' := by
  obtain ⟨a, c, rfl, hl63⟩ := Lies.slice hu
  obtain ⟨ab, cb, rfl, hb63, hbr⟩ := hb
  have HU : Hid (Lies (d + 1) w l (.slice a l.length c)) := hu
  have HBr : Hid _ := hbr
  have HN1 : Hid _ := new_ok19 All q hq w (fun _ _ => trivial)
  have HN2 : Hid (∀ V, Calls Tryz.prog 11 #[.int .i64 (q : Int)] V fun e w' => ∃ b, e = .returned (.tuple #[.pointer (some ⟨b, 0, none⟩), .int .i64 0]) ∧ RQ w' q [] b ∧ Below V.heap.size V w') := fun V => rnew_yes q V hq
  have HQ : Hid (q < 6) := hq
  clear hu hbr hq
  go_enter Tryz.func4, Tryz.ntmps4
  go_wp2_with fail
  refine Calls.mono HN1.out ?_
  rintro e w1 ⟨b, rfl, hq1, hb1⟩
  have HQ1 : Hid (QC All w1 q [] b) := hq1
  clear HN1 hq1
  go_wp2_with fail
  refine Calls.mono (HN2.out w1) ?_
  rintro e w2 ⟨B, rfl, hr2, hg2⟩
  have hb2 : Below w.heap.size w w2 := hb1.trans (hg2.mono hb1.size)
  have HQ2 : Hid (QC All w2 q [] b) := HQ1.out.keeps hg2
  have HR2 : Hid (RQ w2 q (srtV q []) B) := hr2
  clear HN2 hr2 hg2 hb1 HQ1
  go_wp2_with fail
  go_loopg [7, 9, 11, 12] 300 (fun z v7 v9 v11 v12 wr => ∃ (i k b B : Nat) (I : List VT), v7 = .pointer (some ⟨b, 0, none⟩) ∧ v9 = .pointer (some ⟨B, 0, none⟩) ∧ v11 = .int .i64 (k : Int) ∧ v12 = .int .i64 (i : Int) ∧ i ≤ 300 ∧ k ≤ i ∧ z = 300 - i ∧ Hid (QC All wr q I b ∧ RQ wr q (srtV q I) B ∧ I.length ≤ i) ∧ Below w.heap.size w wr)
  case atStart => exact ⟨0, 0, b, B, [], rfl, rfl, rfl, rfl, by omega, by omega, by omega, ⟨HQ2.out, HR2.out, Nat.le_refl _⟩, hb2⟩
  case round =>
    obtain ⟨i, k, b, B, I, rfl, rfl, rfl, rfl, hi, hk, hz, HI, hbw⟩ := hrel
    have Hz : Hid _ := hz
    clear hz hb2 HQ2 HR2
    by_cases hgo : i < bs.length ∧ i < 300
    · have hg1 : (i : Int) < (bs.length : Int) := by omega
      have hg2 : (i : Int) < 300 := by omega
      obtain ⟨b1, o1, e1, hcells⟩ := HBr.out (by intro e; rw [e] at hgo; simp at hgo)
      subst e1
      have hcell := cell_keeps hbw (hcells i hgo.1)
      generalize bs[i]'hgo.1 = T at *
      clear hcells
      obtain ⟨W2, hW2⟩ : ∃ W2, W2 = (wr.alloc (.cells #[.int .i64 0, .int .i64 0, .string ⟨#[]⟩, .slice none 0 0] 37)).alloc (.cells #[.int .i64 0, .int .i64 0, .string ⟨#[]⟩, .slice none 0 0] 37) := ⟨_, rfl⟩
      have HZ : Hid (Zs wr W2) := by rw [hW2]; exact zs_alloc wr
      have HW2 : Hid (W2 = _) := hW2
      clear hW2
      go_upto_region 14 with fail
      rw [← HW2.out]
      clear HW2
      have hcell := cell_keeps HZ.out.below hcell
      obtain ⟨TT, hTT⟩ : ∃ TT, TT = (T || decide (l.length ≤ k)) := ⟨_, rfl⟩
      have HTT : Hid (TT = (T || decide (l.length ≤ k))) := hTT
      clear hTT
      go_cut [59] from 40 to 119 (fun s59 wx => s59 = .bool TT ∧ wx = W2)
      case first =>
        cases T
        · by_cases hlk : l.length ≤ k
          · have hTT : TT = true := by rw [HTT.out]; simp [hlk]
            subst hTT
            have hlk' : (l.length : Int) ≤ (k : Int) := by omega
            clear HTT
            go_wp2_with fail
            go_meet
            case rel => exact ⟨rfl, rfl⟩
          · have hTT : TT = false := by rw [HTT.out]; simp [hlk]
            subst hTT
            have hlk' : ¬ (l.length : Int) ≤ (k : Int) := by omega
            clear HTT
            go_wp2_with fail
            go_meet
            case rel => exact ⟨rfl, rfl⟩
        · have hTT : TT = true := by rw [HTT.out]; rfl
          subst hTT
          clear HTT
          go_wp2_with fail
          go_meet
          case rel => exact ⟨rfl, rfl⟩
      case rest =>
        obtain ⟨rfl, rfl⟩ := hcut
        clear hcell
        go_upto_if 59 with fail
        go_cut [8, 10, 11, 13, 14] from 40 to 119 (fun s8 s10 s11 s13 s14 wx => ∃ k' : Nat, s11 = .int .i64 (k' : Int) ∧ k' ≤ i + 1 ∧ Hid (StepR q I wr wr.heap.size (wr.heap.size + 1) s8 s10 s13 s14 wx))
        case first =>
          cases TT
          · have hkl : k < l.length := by
              have h := HTT.out
              cases T <;> simp at h
              omega
            have hki : (k : Int) < (l.length : Int) := by omega
            obtain ⟨_, _, ea, _, hrl⟩ := HU.out
            injection ea with ea _ ec
            subst ea ec
            obtain ⟨g1, p1, ha1, hall⟩ := hrl (by intro e; rw [e] at hkl; simp at hkl)
            subst ha1
            obtain ⟨ux, x0, x1, x2, x3, hxl, hxt⟩ := hall k hkl
            clear hall hrl
            generalize l[k]'hkl = x at *
            obtain ⟨au, cu, rfl, _⟩ := Lies.slice hxl
            have hbW : Below w.heap.size w wc := hbw.trans (HZ.out.below.mono hbw.size)
            have x0 := cell_keeps hbW x0; have x1 := cell_keeps hbW x1; have x2 := cell_keeps hbW x2; have x3 := cell_keeps hbW x3
            have HPu : Hid _ := push_any19 (X := All) d x (.slice au x.items.length cu) (.inr ⟨b, rfl, HI.out.1.keeps HZ.out.below⟩) (fun _ _ => trivial) (Lies.keeps hbW _ _ _ hxl) hxt
            have HXl : Hid (Lies d w x.items (.slice au x.items.length cu)) := hxl
            have HBW : Hid (Below w.heap.size w wc) := hbW
            have HIl : Hid (I.length ≤ 300) := by have := HI.out.2.2; show _ ≤ _; omega
            clear hxl hbW HTT
            go_wp2_with fail
            refine Calls.mono HPu.out ?_
            rintro e w3 ⟨hb3, hout3⟩
            have HZ3 : Hid (Zs wr w3) := HZ.out.keeps hb3
            have HB3 : Hid (Below w.heap.size w w3) := HBW.out.trans (hb3.mono HBW.out.size)
            have x0 := cell_keeps hb3 x0; have x1 := cell_keeps hb3 x1; have x2 := cell_keeps hb3 x2; have x3 := cell_keeps hb3 x3
            have HPr : Hid _ := rpush19_any d x (.slice au x.items.length cu) (HI.out.2.1.keeps HZ3.out.below) (Lies.keeps HB3.out _ _ _ HXl.out)
            clear HPu hb3
            rcases hout3 with ⟨hr, rfl⟩ | ⟨hr, hlong, _⟩ | ⟨hr, _, p3, rfl, b', rfl, hq3⟩
            · go_wp2_with fail
              refine Calls.mono HPr.out ?_
              rintro e w4 ⟨hb4, ⟨_, rfl⟩ | ⟨hr2, _⟩ | ⟨hr2, _⟩⟩
              · have HE : Hid (StepR q I wr wr.heap.size (wr.heap.size + 1) (.int .i64 3) (.int .i64 3) (.pointer none) (.pointer none) w4) := step_push (HZ3.out.keeps hb4) (.inl ⟨3, by decide, rfl, rfl, rfl, rfl⟩)
                clear HPr hb4 x0 x1 x2 x3
                go_wp2_with fail
                go_meet
                case rel => exact ⟨k + 1, by go_num, by omega, HE.out⟩
              · rw [hr] at hr2; cases hr2
              · rw [hr] at hr2; cases hr2
            · have := HIl.out; exfalso; omega
            · have HQ3 : Hid (QC All w3 q (I ++ [x]) b') := hq3
              clear hq3
              go_wp2_with fail
              refine Calls.mono HPr.out ?_
              rintro e w4 ⟨hb4, ⟨hr2, _⟩ | ⟨_, hlong, _⟩ | ⟨_, _, B', rfl, hrq⟩⟩
              · rw [hr] at hr2; cases hr2
              · rw [srtV_len] at hlong; have := HIl.out; exfalso; omega
              · have hsr : srtV q (srtV q I ++ [x]) = srtV q (I ++ [x]) := by
                  have hpm : (srtV q I ++ [x]).Perm (I ++ [x]) := (srt_perm _ _ _ : (srtV q I).Perm I).append_right _
                  exact srtV_perm q hpm (fun y hy => HQ3.out.good y (hpm.mem_iff.1 hy))
                rw [hsr] at hrq
                have HE : Hid (StepR q I wr wr.heap.size (wr.heap.size + 1) (.int .i64 0) (.int .i64 0) (.pointer (some ⟨b', 0, none⟩)) (.pointer (some ⟨B', 0, none⟩)) w4) := step_push (HZ3.out.keeps hb4) (.inr ⟨I ++ [x], b', B', rfl, rfl, rfl, rfl, HQ3.out.keeps hb4, hrq, by rw [List.length_append]; exact Nat.le_refl _⟩)
                clear HPr hb4 hrq hsr x0 x1 x2 x3 HQ3
                go_wp2_with fail
                go_meet
                case rel => exact ⟨k + 1, by go_num, by omega, HE.out⟩
          · have hsz2 : wr.heap.size + 2 ≤ wc.heap.size := cell_lt HZ.out.by'.c0
            have HPop : Hid _ := pop_any19 (X := Nb wr) (.inr ⟨b, rfl, (QC.mono (fun z hz => (⟨by omega, by omega⟩ : Nb wr z)) HI.out.1.both).keeps HZ.out.below⟩)
            clear HTT
            go_wp2_with fail
            refine Calls.mono HPop.out ?_
            rintro e w3 ⟨hb3, ⟨h0, rfl⟩ | ⟨x, m, ux, p, h0, rfl, ⟨b', rfl, hc'⟩, hLx, _⟩⟩
            · subst h0
              have HZ3 : Hid (Zs wr w3) := HZ.out.keeps hb3
              obtain ⟨W4, hW4⟩ : ∃ W4, W4 = ((((w3.setCell ⟨wr.heap.size, 0, none⟩ (.int .i64 0)).setCell ⟨wr.heap.size, 1, none⟩ (.int .i64 0)).setCell ⟨wr.heap.size, 2, none⟩ (.string ⟨#[]⟩)).setCell ⟨wr.heap.size, 3, none⟩ (.slice none 0 0)) := ⟨_, rfl⟩
              have HP4 : Hid (Px wr W4 (⟨0, 0, ⟨#[]⟩, []⟩, .slice none 0 0)) := by rw [hW4]; exact HZ3.out.px (⟨0, 0, ⟨#[]⟩, []⟩, .slice none 0 0)
              have HW4 : Hid (W4 = _) := hW4
              have HRp : Hid _ := rpop19_any (HI.out.2.1.rx.keeps HP4.out.below)
              obtain ⟨y0, y1, y2, y3, f0, f1, f2, f3⟩ := HZ3.out.bx
              clear hW4 hb3 HPop
              go_upto_region 16 with fail
              rw [← HW4.out]
              clear HW4 y0 y1 y2 y3 f0 f1 f2 f3
              go_wp2_with fail
              refine Calls.mono HRp.out ?_
              rintro e w5 ⟨hb5, ⟨_, rfl⟩ | ⟨_, _, _, _, h9, _⟩⟩
              · have HP5 : Hid (Px wr w5 (⟨0, 0, ⟨#[]⟩, []⟩, .slice none 0 0)) := HP4.out.keeps hb5
                have HE : Hid (StepR q [] wr wr.heap.size (wr.heap.size + 1) (.int .i64 6) (.int .i64 6) (.pointer none) (.pointer none) (w5.setCells (wr.heap.size + 1) 0 (encP (⟨0, 0, ⟨#[]⟩, []⟩, .slice none 0 0)))) := step_bare HP5.out
                obtain ⟨y0, y1, y2, y3, f0, f1, f2, f3⟩ := HP5.out.by'
                clear HRp hb5 HP4
                go_wp2_with fail
                go_meet
                case rel => exact ⟨k, rfl, by omega, HE.out⟩
              · cases h9
            · obtain ⟨au, cu, rfl, _⟩ := LiesB.slice hLx
              have HZ3 : Hid (Zs wr w3) := HZ.out.keeps hb3
              obtain ⟨W4, hW4⟩ : ∃ W4, W4 = ((((w3.setCell ⟨wr.heap.size, 0, none⟩ (.int .i64 x.kind)).setCell ⟨wr.heap.size, 1, none⟩ (.int .i64 x.num)).setCell ⟨wr.heap.size, 2, none⟩ (.string x.text)).setCell ⟨wr.heap.size, 3, none⟩ (.slice au x.items.length cu)) := ⟨_, rfl⟩
              have HP4 : Hid (Px wr W4 (x, .slice au x.items.length cu)) := by rw [hW4]; exact HZ3.out.px (x, .slice au x.items.length cu)
              have HQ4 : Hid (QC (Nb wr) W4 q m b') := by rw [hW4]; exact hc'.put (fun h => h.1 rfl) HZ3.out.bx HZ3.out.x4 (x, .slice au x.items.length cu)
              have HL4 : Hid (LiesB (wr.heap.size + 2) 16 W4 x.items (.slice au x.items.length cu)) := by
                rw [hW4]
                exact LiesB.stays (base := wr.heap.size + 2) (fun z u hz hu => ⟨by
                  show (w3.setCells wr.heap.size 0 (encP (x, .slice au x.items.length cu))).cell? z = some u
                  rw [World.cell?_setCells_out wr.heap.size _ 0 w3 z (fun e _ => by omega)]; exact hu, by
                  show (w3.setCells wr.heap.size 0 (encP (x, .slice au x.items.length cu))).frozen? z = w3.frozen? z
                  exact World.frozen?_setCells ..⟩) _ _ _ (LiesB.lower hsz2 _ _ _ hLx)
              have hsz4 : wr.heap.size + 1 < W4.heap.size := cell_lt HP4.out.by'.c0
              have HW4 : Hid (W4 = _) := hW4
              have HRp : Hid _ := rpop19_any (HI.out.2.1.rx.keeps HP4.out.below)
              have H0 : Hid (srtV q I = x :: m) := h0
              obtain ⟨y0, y1, y2, y3, f0, f1, f2, f3⟩ := HZ3.out.bx
              clear hW4 hb3 HPop hc' hLx h0
              go_upto_region 16 with fail
              rw [← HW4.out]
              clear HW4 y0 y1 y2 y3 f0 f1 f2 f3
              go_wp2_with fail
              refine Calls.mono HRp.out ?_
              rintro e w5 ⟨hb5, ⟨h9, _⟩ | ⟨x2, m2, u2, B', h9, rfl, hrx, hB', hit⟩⟩
              · rw [H0.out] at h9; cases h9
              · rw [H0.out] at h9
                injection h9 with e1 e2
                subst e1 e2
                obtain ⟨a2, c2, rfl, _⟩ := LiesX.slice hit.lies
                have HP5 : Hid (Px wr w5 (x, .slice au x.items.length cu)) := HP4.out.keeps hb5
                have HE : Hid (StepR q I wr wr.heap.size (wr.heap.size + 1) (.int .i64 0) (.int .i64 0) (.pointer (some ⟨b', 0, none⟩)) (.pointer (some ⟨B', 0, none⟩)) (w5.setCells (wr.heap.size + 1) 0 (encP (x, .slice a2 x.items.length c2)))) := step_some H0.out HP5.out (HQ4.out.keeps hb5) (LiesB.stays (fun a v _ hv => ⟨cell_keeps hb5 hv, hb5.frozen (cell_lt hv)⟩) _ _ _ HL4.out) hrx (by omega) hit
                obtain ⟨y0, y1, y2, y3, f0, f1, f2, f3⟩ := HP5.out.by'
                clear HRp hb5 HP4 hrx hit hB' HQ4 HL4
                go_wp2_with fail
                go_meet
                case rel => exact ⟨k, rfl, by omega, HE.out⟩
        case rest =>
          obtain ⟨k', rfl, hk', HS⟩ := hcut
          obtain ⟨hbc, ⟨kk, nn, ss, ll, aa, cc, a2, c2, hX, hY, hv⟩, hout⟩ := HS.out
          obtain ⟨x0, x1, x2, x3⟩ := hX
          obtain ⟨y0, y1, y2, y3⟩ := hY
          have HV : Hid _ := hv
          have HBc : Hid (Below wr.heap.size wr wc) := hbc
          clear hv HS hbc
          rcases hout with ⟨E, hE, rfl, rfl, rfl, rfl⟩ | ⟨J, b', B', rfl, rfl, rfl, rfl, hqJ, hrJ, hlJ⟩
          · have h0' : (E == 0) = false := by simpa using hE
            have h1' : ¬ E = 0 := hE
            have h2' : (E != E) = false := by simp
            have h3' : (E != 0) = true := by simpa using hE
            have h4' : (true != (E != 0)) = false := by rw [h3']; rfl
            have h5' : decide (E = 0) = false := by simpa using hE
            have HJ : Hid (QC All wc q I b ∧ RQ wc q (srtV q I) B ∧ I.length ≤ i + 1) := ⟨HI.out.1.keeps HBc.out, HI.out.2.1.keeps HBc.out, by have := HI.out.2.2; omega⟩
            have hle : I.length ≤ i + 1 := HJ.out.2.2
            have hl65 : I.length ≤ 65536 := HJ.out.1.le
            obtain ⟨vL, cL1, hsL⟩ := HJ.out.2.1.ex
            obtain ⟨aL, cL, rfl, _⟩ := Lies.slice hsL.lies
            have hlen : (srtV q I).length = I.length := srtV_len _ _
            rw [hlen] at cL1
            have HLn : Hid (∀ V, Below wc.heap.size wc V → Calls Tryz.prog 17 #[.pointer (some ⟨b, 0, none⟩)] V fun e w' => e = .returned (.int .i64 (I.length : Int)) ∧ Below V.heap.size V w') := fun V hV => len_any19 (.inr ⟨b, rfl, HJ.out.1.keeps hV⟩)
            clear hsL hlen
            go_wp2_with fail
            refine Calls.mono (HV.out wc (Below.refl _ _)) ?_
            rintro e w5 ⟨rfl, hg5⟩
            have cL1 := cell_keeps hg5 cL1
            clear HV x0 x1 x2 x3 y0 y1 y2 y3
            go_wp2_with fail
            go_region_held3 (fun w' => w'.cell? ⟨B, 1, none⟩ = some (.slice aL I.length cL)) (go_keep)
              (first | (go_at_call 17; (with_reducible refine Calls.mono (HLn.out _ ?_) ?_); (first | exact hg5 | exact hg5.drew); rintro e w6 ⟨rfl, hg6⟩; have hb6 : Below w5.heap.size w5 w6 := (Below.refl _ _).drew.trans hg6; have cL1 := cell_keeps hb6 cL1; clear HLn hg6))
            have hb7 : Below wc.heap.size wc w6 := hg5.trans (hb6.mono hg5.size)
            have HJ7 : Hid (QC All w6 q I b ∧ RQ w6 q (srtV q I) B ∧ I.length ≤ i + 1) := ⟨HJ.out.1.keeps hb7, HJ.out.2.1.keeps hb7, hle⟩
            have hbF : Below w.heap.size w w6 := hbw.trans ((HBc.out.trans (hb7.mono HBc.out.size)).mono hbw.size)
            clear hg5 hb6 hb7 cL1 HJ
            go_wp2_with fail
            go_roundg (300 - (i + 1))
            case measure => have := Hz.out; omega
            case rel => exact ⟨i + 1, k', b, B, I, rfl, rfl, rfl, by go_num, by omega, by omega, rfl, HJ7, hbF⟩
          · have HJ : Hid (QC All wc q J b' ∧ RQ wc q (srtV q J) B' ∧ J.length ≤ i + 1) := ⟨hqJ, hrJ, by have := HI.out.2.2; omega⟩
            clear hqJ hrJ hlJ
            have hle : J.length ≤ i + 1 := HJ.out.2.2
            have hl65 : J.length ≤ 65536 := HJ.out.1.le
            obtain ⟨vL, cL1, hsL⟩ := HJ.out.2.1.ex
            obtain ⟨aL, cL, rfl, _⟩ := Lies.slice hsL.lies
            have hlen : (srtV q J).length = J.length := srtV_len _ _
            rw [hlen] at cL1
            have HLn : Hid (∀ V, Below wc.heap.size wc V → Calls Tryz.prog 17 #[.pointer (some ⟨b', 0, none⟩)] V fun e w' => e = .returned (.int .i64 (J.length : Int)) ∧ Below V.heap.size V w') := fun V hV => len_any19 (.inr ⟨b', rfl, HJ.out.1.keeps hV⟩)
            clear hsL hlen
            go_wp2_with fail
            refine Calls.mono (HV.out wc (Below.refl _ _)) ?_
            rintro e w5 ⟨rfl, hg5⟩
            have cL1 := cell_keeps hg5 cL1
            clear HV x0 x1 x2 x3 y0 y1 y2 y3
            go_wp2_with fail
            go_region_held3 (fun w' => w'.cell? ⟨B', 1, none⟩ = some (.slice aL J.length cL)) (go_keep)
              (first | (go_at_call 17; (with_reducible refine Calls.mono (HLn.out _ ?_) ?_); (first | exact hg5 | exact hg5.drew); rintro e w6 ⟨rfl, hg6⟩; have hb6 : Below w5.heap.size w5 w6 := (Below.refl _ _).drew.trans hg6; have cL1 := cell_keeps hb6 cL1; clear HLn hg6))
            have hb7 : Below wc.heap.size wc w6 := hg5.trans (hb6.mono hg5.size)
            have HJ7 : Hid (QC All w6 q J b' ∧ RQ w6 q (srtV q J) B' ∧ J.length ≤ i + 1) := ⟨HJ.out.1.keeps hb7, HJ.out.2.1.keeps hb7, hle⟩
            have hbF : Below w.heap.size w w6 := hbw.trans ((HBc.out.trans (hb7.mono HBc.out.size)).mono hbw.size)
            clear hg5 hb6 hb7 cL1 HJ
            go_wp2_with fail
            go_roundg (300 - (i + 1))
            case measure => have := Hz.out; omega
            case rel => exact ⟨i + 1, k', b', B', J, rfl, rfl, rfl, by go_num, by omega, by omega, rfl, HJ7, hbF⟩
    · have HS : Hid _ := same_any19 HI.out.1 HI.out.2.1
      have hno : ¬ ((i : Int) < (bs.length : Int) ∧ (i : Int) < 300) := by omega
      by_cases h1 : i < bs.length
      · have h1' : (i : Int) < (bs.length : Int) := by omega
        have h2' : ¬ (i : Int) < 300 := by omega
        clear hno hgo
        go_wp2_with fail
        refine Calls.mono HS.out ?_
        rintro e w3 ⟨rfl, hg3⟩
        have hb3 : Below w.heap.size w w3 := hbw.trans (hg3.mono hbw.size)
        clear HS hg3 HI
        go_wp2_with fail
        refine Calls.mono (speaks19_any w3) ?_
        rintro e w4 ⟨rfl, hg4⟩
        have hb4 : Below w.heap.size w w4 := hb3.trans (hg4.mono hb3.size)
        clear hg4 hb3
        go_wp2_with fail
        go_ret
        exact ⟨rfl, hb4⟩
      · have h1' : ¬ (i : Int) < (bs.length : Int) := by omega
        clear hno hgo
        go_wp2_with fail
        refine Calls.mono HS.out ?_
        rintro e w3 ⟨rfl, hg3⟩
        have hb3 : Below w.heap.size w w3 := hbw.trans (hg3.mono hbw.size)
        clear HS hg3 HI
        go_wp2_with fail
        refine Calls.mono (speaks19_any w3) ?_
        rintro e w4 ⟨rfl, hg4⟩
        have hb4 : Below w.heap.size w w4 := hb3.trans (hg4.mono hb3.size)
        clear hg4 hb3
        go_wp2_with fail
        go_ret
        exact ⟨rfl, hb4⟩

set_option maxRecDepth 100000 in
set_option maxHeartbeats 8000000 in
theorem steps_err19 (o : Int) (ho : o < 0 ∨ 6 ≤ o) (a ab : Option Addr) (n c nb cb : Nat) (w : World) : Calls Tryz.prog 4 #[.int .i64 o, .slice a n c, .slice ab nb cb] w fun e w' => e = .returned (.bool true) ∧ Below w.heap.size w w' := by
  have HN1 : Hid (Calls Tryz.prog 10 #[.int .i64 o] w fun e w' => e = .returned (.tuple #[.pointer none, .int .i64 4]) ∧ Below w.heap.size w w') := by
    have e4 : lookE 16 o [] = 4 := by unfold lookE; rw [if_pos ho]
    refine Calls.mono (new_any19 All o w (fun _ _ => trivial)) ?_
    rintro e w' ⟨hb, ⟨_, rfl⟩ | ⟨h0, _⟩⟩
    · exact ⟨by rw [e4], hb⟩
    · rw [e4] at h0; cases h0
  have HN2 : Hid (∀ V, Calls Tryz.prog 11 #[.int .i64 o] V fun e w' => e = .returned (.tuple #[.pointer none, .int .i64 4]) ∧ Below V.heap.size V w') := fun V => rnew_no o V ho
  clear ho
  go_enter Tryz.func4, Tryz.ntmps4
  go_wp2_with fail
  refine Calls.mono HN1.out ?_
  rintro e w1 ⟨rfl, hb1⟩
  clear HN1
  go_wp2_with fail
  refine Calls.mono (HN2.out w1) ?_
  rintro e w2 ⟨rfl, hg2⟩
  have hb2 : Below w.heap.size w w2 := hb1.trans (hg2.mono hb1.size)
  clear HN2 hg2 hb1
  go_wp2_with fail
  refine Calls.mono (speaks19_any w2) ?_
  rintro e w3 ⟨rfl, hg3⟩
  have hb3 : Below w.heap.size w w3 := hb2.trans (hg3.mono hb2.size)
  clear hg3 hb2
  go_wp2_with fail
  go_ret
  exact ⟨rfl, hb3⟩

theorem steps_walk19 (o : Int) (d : Nat) (l : List VT) (bs : List Bool) (u v : Value) (w : World) (hu : Lies (d + 1) w l u) (hb : BlAt w bs v) : Calls Tryz.prog 4 #[.int .i64 o, u, v] w fun e w' => e = .returned (.bool true) ∧ Below w.heap.size w w' := by
  by_cases ho : o < 0 ∨ 6 ≤ o
  · obtain ⟨a, c, rfl, _⟩ := Lies.slice hu
    obtain ⟨ab, cb, rfl, _, _⟩ := hb
    exact steps_err19 o ho a ab _ c _ cb w
  · obtain ⟨q, rfl⟩ : ∃ q : Nat, o = q := ⟨o.toNat, by omega⟩
    exact steps_ok19 d q (by omega) l bs u v w hu hb

end Go.Proofs.YtgmmocbgeilpiaaGreat

