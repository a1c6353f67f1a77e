/-
  Rows of members as one list of cells.
-/
import Derived.Test.YtlmnkjnplaebgaaGreatComp6
import Derived.Test.YtlmnkjnplaebgaaGreatCopy3
import Derived.Laws.MakeOwn
import Derived.Laws.AppendOwn
namespace Go.Proofs.YtlmnkjnplaebgaaGreat
open Go.RowKit Go.Shelf

/-- Members lie one behind the other from place o of block b on. -/
def RowM (w : World) (b o : Nat) (ms : List MB) : Prop := ∀ (i : Nat) (h : i < ms.length),
  w.cell? ⟨b, o + i * 5, none⟩ = some (.int .i64 (ms[i]'h).t.kind) ∧ w.cell? ⟨b, o + i * 5 + 1, none⟩ = some (.int .i64 (ms[i]'h).t.num) ∧
  w.cell? ⟨b, o + i * 5 + 2, none⟩ = some (.string (ms[i]'h).t.text) ∧ w.cell? ⟨b, o + i * 5 + 3, none⟩ = some (ms[i]'h).u ∧ w.cell? ⟨b, o + i * 5 + 4, none⟩ = some (.int .u64 (ms[i]'h).m)

theorem RowM.keeps {w w' : World} {b o : Nat} {ms : List MB} (h : RowM w b o ms) (hb : Below w.heap.size w w') : RowM w' b o ms := fun i hi =>
  ⟨cell_keeps hb (h i hi).1, cell_keeps hb (h i hi).2.1, cell_keeps hb (h i hi).2.2.1, cell_keeps hb (h i hi).2.2.2.1, cell_keeps hb (h i hi).2.2.2.2⟩

/-- A right member. -/
structure GoodM (w : World) (p : MB) : Prop where
  lies : Lies 16 w p.t.items p.u
  right : rightV 16 p.t = true

theorem GoodM.keeps {w w' : World} {p : MB} (h : GoodM w p) (hb : Below w.heap.size w w') : GoodM w' p := ⟨Lies.keeps hb _ _ _ h.lies, h.right⟩

/-- The slice v holds the members ms. -/
def SlM (w : World) (ms : List MB) (v : Value) : Prop :=
  ∃ b o c, v = .slice (some ⟨b, o, none⟩) ms.length c ∧ ms.length ≤ c ∧ RowM w b o ms ∧ ∀ p ∈ ms, GoodM w p

theorem SlM.keeps {w w' : World} {ms : List MB} {v : Value} (h : SlM w ms v) (hb : Below w.heap.size w w') : SlM w' ms v := by
  obtain ⟨b, o, c, hv, hc, hr, hg⟩ := h
  exact ⟨b, o, c, hv, hc, hr.keeps hb, fun p hp => (hg p hp).keeps hb⟩

/-- Block G has room for n members, the first of them filled with ms. -/
structure FilledM (G n : Nat) (w : World) (ms : List MB) : Prop where
  row : RowM w G 0 ms
  there : ∀ k, k < n * 5 → (w.cell? ⟨G, k, none⟩).isSome = true ∧ w.frozen? ⟨G, k, none⟩ = false
  lt : G < w.heap.size

theorem FilledM.keeps {G n : Nat} {w w' : World} {ms : List MB} (h : FilledM G n w ms) (hb : Below w.heap.size w w') : FilledM G n w' ms := by
  refine ⟨h.row.keeps hb, fun k hk => ?_, Nat.lt_of_lt_of_le h.lt hb.size⟩
  obtain ⟨h1, h2⟩ := h.there k hk
  rw [hb.cell (p := ⟨G, k, none⟩) h.lt, hb.frozen (p := ⟨G, k, none⟩) h.lt]
  exact ⟨h1, h2⟩

theorem FilledM.put {G n : Nat} {w : World} {ms : List MB} (h : FilledM G n w ms) (p : MB) (hn : ms.length < n) : FilledM G n (w.setCells G (ms.length * 5) (encM p)) (ms ++ [p]) := by
  have hin : ∀ j (hj : j < (encM p).length), (w.setCells G (ms.length * 5) (encM p)).cell? ⟨G, ms.length * 5 + j, none⟩ = some ((encM p)[j]) := World.cell?_setCells_in G (encM p) (ms.length * 5) w (fun j hj => (h.there _ (by simp [encM] at hj; omega)).1)
  have hout : ∀ k, k < ms.length * 5 → (w.setCells G (ms.length * 5) (encM p)).cell? ⟨G, k, none⟩ = w.cell? ⟨G, k, none⟩ := fun k hk => World.cell?_setCells_out G (encM p) _ w ⟨G, k, none⟩ (fun _ _ => .inl hk)
  refine ⟨?_, ?_, by rw [size_setCells]; exact h.lt⟩
  · intro i hi
    by_cases hl : i < ms.length
    · obtain ⟨k0, k1, k2, k3, k4⟩ := h.row i hl
      rw [List.getElem_append_left hl]
      simp only [Nat.zero_add] at k0 k1 k2 k3 k4 ⊢
      exact ⟨(hout _ (by omega)).trans k0, (hout _ (by omega)).trans k1, (hout _ (by omega)).trans k2, (hout _ (by omega)).trans k3, (hout _ (by omega)).trans k4⟩
    · have hie : i = ms.length := by simp at hi; omega
      subst hie
      rw [List.getElem_append_right (Nat.le_refl _)]
      simp only [Nat.zero_add, Nat.sub_self, List.getElem_cons_zero]
      exact ⟨hin 0 (by simp [encM]), hin 1 (by simp [encM]), hin 2 (by simp [encM]), hin 3 (by simp [encM]), hin 4 (by simp [encM])⟩
  · intro k hk
    obtain ⟨h1, h2⟩ := h.there k hk
    refine ⟨?_, by rw [World.frozen?_setCells]; exact h2⟩
    by_cases hl : ms.length * 5 ≤ k ∧ k < ms.length * 5 + 5
    · have := hin (k - ms.length * 5) (by simp [encM]; omega)
      rw [show ms.length * 5 + (k - ms.length * 5) = k by omega] at this
      rw [this]; rfl
    · rw [World.cell?_setCells_out G (encM p) _ w ⟨G, k, none⟩ (fun _ _ => by simp [encM]; omega)]
      exact h1

set_option maxRecDepth 100000 in
theorem infoM : ∃ i0, Tryz.prog.info? 66 = some i0 ∧ i0.zero = some (.agg #[.int .i64 0, .int .i64 0, .string ⟨#[]⟩, .slice none 0 0, .int .u64 0]) ∧ i0.size = 5 ∧ i0.bytes = 64 := by
  refine ⟨_, rfl, ?_, ?_, ?_⟩
  all_goals kernel_rfl

/-- make of n members. -/
theorem make_members (n : Nat) (hn : n ≤ 65536) : ∃ M : Array Value, M.size = n * 5 ∧ ∀ W : World, (Instr.makeSlice 74 (.int .i64 (n : Int)) (.int .i64 (n : Int))).run Tryz.prog W = .ok (.slice (some ⟨W.heap.size, 0, none⟩) n n) (W.alloc (.cells M 66)) := by
  obtain ⟨i0, hi, hz0, hz1, hz2⟩ := infoM
  refine ⟨madeCells (Value.agg #[.int .i64 0, .int .i64 0, .string ⟨#[]⟩, .slice none 0 0, .int .u64 0]).cells (((n : Nat) : Int).toNat * i0.size), ?_, fun W => ?_⟩
  · rw [size_madeCells, hz1]; simp
  · have h := run_make (P := Tryz.prog) W 74 66 i0 _ Tryz.underlying74 hi hz0 .i64 .i64 (n : Int) (n : Int) (by omega) (by omega) (by rw [hz2]; omega) (by omega)
    simpa using h

theorem filledM_start (w : World) (M : Array Value) (n : Nat) (t : Nat) (hM : M.size = n * 5) : FilledM w.heap.size n (w.alloc (.cells M t)) [] := by
  refine ⟨fun i hi => (by cases hi), fun k hk => ?_, (by simp)⟩
  have hk' : k < M.size := by omega
  simp [hk']

/-- A value with its measure. -/
abbrev mkM (g : VT → Int) (p : VT × Value) : MB := ⟨p.1, p.2, g p.1⟩

theorem pair_cell {W : World} {a : Addr} {v : Value} {g o : Nat} {vs : List Value} (hg : a.block ≠ g) (h : W.cell? a = some v) : (W.setCells g o vs).cell? a = some v := cell_other hg h

set_option maxHeartbeats 2000000 in
theorem measuredAll_core (f0 f1 : Nat) (g : VT → Int) (ps : List (VT × Value)) (a : Option Addr) (c : Nat) (w : World) (hlen : ps.length ≤ 65536) (hr : ps ≠ [] → ∃ b o, a = some ⟨b, o, none⟩ ∧ RowAt w b o ps)
    (hsl : ∀ p ∈ ps, ∃ a l c, p.2 = .slice a l c)
    (hm : Hid (∀ (p : VT × Value) (W : World), p ∈ ps → Below w.heap.size w W → Calls Tryz.prog 25 #[.agg #[fv f0, fv f1], .agg #[.int .i64 p.1.kind, .int .i64 p.1.num, .string p.1.text, p.2]] W fun e W' => e = .returned (.agg #[.int .i64 p.1.kind, .int .i64 p.1.num, .string p.1.text, p.2, .int .u64 (g p.1)]) ∧ Below W.heap.size W W')) :
    Calls Tryz.prog 60 #[.agg #[fv f0, fv f1], .slice a ps.length c] w fun e w' => e = .returned (.slice (some ⟨w.heap.size + 1, 0, none⟩) ps.length ps.length) ∧ RowM w' (w.heap.size + 1) 0 (ps.map (mkM g)) ∧ Below w.heap.size w w' := by
  have Hr : Hid _ := hr
  have Hsl : Hid _ := hsl
  clear hr hsl
  obtain ⟨M, hMs, hmk⟩ := make_members ps.length hlen
  have HF0 : Hid (FilledM (w.heap.size + 1) ps.length ((w.alloc (.cells #[fv f0, fv f1] 58)).alloc (.cells M 66)) []) := by
    have := filledM_start (w.alloc (.cells #[fv f0, fv f1] 58)) M ps.length 66 hMs
    rwa [World.size_alloc] at this
  have Hg : Hid (((w.alloc (.cells #[fv f0, fv f1] 58)).alloc (.cells M 66)).cell? ⟨w.heap.size, 0, none⟩ = some (fv f0) ∧ ((w.alloc (.cells #[fv f0, fv f1] 58)).alloc (.cells M 66)).cell? ⟨w.heap.size, 1, none⟩ = some (fv f1)) :=
    ⟨cell_keeps ((Grew.refl _).alloc _).below (by simp), cell_keeps ((Grew.refl _).alloc _).below (by simp)⟩
  clear hMs
  go_enter Tryz.func60, Tryz.ntmps60
  go_wp2_with fail
  go_loopg [13] ps.length (fun k i wr => ∃ j : Nat, i = .int .i64 (j : Int) ∧ j ≤ ps.length ∧ k = ps.length - j ∧ Hid (FilledM (w.heap.size + 1) ps.length wr ((ps.take j).map (mkM g))) ∧ Hid (wr.cell? ⟨w.heap.size, 0, none⟩ = some (fv f0) ∧ wr.cell? ⟨w.heap.size, 1, none⟩ = some (fv f1)) ∧ Below w.heap.size w wr)
  case atStart => exact ⟨0, rfl, by omega, by omega, HF0, Hg, (Grew.two _ _ _).below⟩
  case round =>
    obtain ⟨j, rfl, hj, hk, HC, HG, hbw⟩ := hrel
    have Hk : Hid _ := hk
    clear hk hmk HF0 Hg
    by_cases hlt : j < ps.length
    · obtain ⟨b1, o1, rfl, hrow⟩ := Hr.out (by intro e; simp [e] at hlt)
      obtain ⟨p0, p1, p2, p3⟩ := hrow j hlt
      clear hrow
      have Hmem : Hid (ps[j] ∈ ps) := List.getElem_mem hlt
      have Htk : Hid ((ps.take (j + 1)).map (mkM g) = (ps.take j).map (mkM g) ++ [mkM g ps[j]]) := by
        show _ = _
        rw [List.take_succ_eq_append_getElem hlt, List.map_append]; rfl
      have Hlen : Hid (((ps.take j).map (mkM g)).length = j) := by show _ = _; simp; omega
      generalize (ps.take j).map (mkM g) = ms at *
      generalize ps[j] = p at *
      obtain ⟨t, u⟩ := p
      obtain ⟨ax, lx, cx, hu⟩ := Hsl.out _ Hmem.out
      simp only at hu p0 p1 p2 p3
      subst hu
      have p0 := cell_keeps hbw p0; have p1 := cell_keeps hbw p1; have p2 := cell_keeps hbw p2; have p3 := cell_keeps hbw p3
      have hl1 : b1 < wr.heap.size := cell_lt p0
      have hws2 : w.heap.size ≤ wr.heap.size := hbw.size
      have hG := HC.out.lt
      obtain ⟨g0, g1⟩ := HG.out
      have hlt0 : w.heap.size < wr.heap.size := cell_lt g0
      go_wp2_with fail
      refine (hm.out (t, .slice ax lx cx) _ Hmem.out (hbw.alloc hws2 _)).mono ?_
      rintro e w1 ⟨rfl, hb⟩
      have hb2 : Below w.heap.size w w1 := (hbw.alloc hws2 _).trans (hb.mono (by simp; omega))
      have HC1 : Hid (FilledM (w.heap.size + 1) ps.length w1 ms) := (HC.out.keeps ((Grew.refl _).alloc _).below).keeps hb
      have HG1 : Hid (w1.cell? ⟨w.heap.size, 0, none⟩ = some (fv f0) ∧ w1.cell? ⟨w.heap.size, 1, none⟩ = some (fv f1)) := ⟨cell_keeps hb (cell_keeps ((Grew.refl _).alloc _).below g0), cell_keeps hb (cell_keeps ((Grew.refl _).alloc _).below g1)⟩
      clear hb p0 p1 p2 p3 hm HC HG g0 g1
      have hpl := Hlen.out
      obtain ⟨v0, s0⟩ := Option.isSome_iff_exists.1 (HC1.out.there (j * 5) (by omega)).1
      obtain ⟨v1, s1⟩ := Option.isSome_iff_exists.1 (HC1.out.there (j * 5 + 1) (by omega)).1
      obtain ⟨v2, s2⟩ := Option.isSome_iff_exists.1 (HC1.out.there (j * 5 + 2) (by omega)).1
      obtain ⟨v3, s3⟩ := Option.isSome_iff_exists.1 (HC1.out.there (j * 5 + 3) (by omega)).1
      obtain ⟨v4, s4⟩ := Option.isSome_iff_exists.1 (HC1.out.there (j * 5 + 4) (by omega)).1
      have z0 := (HC1.out.there (j * 5) (by omega)).2
      have z1 := (HC1.out.there (j * 5 + 1) (by omega)).2
      have z2 := (HC1.out.there (j * 5 + 2) (by omega)).2
      have z3 := (HC1.out.there (j * 5 + 3) (by omega)).2
      have z4 := (HC1.out.there (j * 5 + 4) (by omega)).2
      have hput := HC1.out.put (mkM g (t, .slice ax lx cx)) (by omega)
      rw [← Htk.out, hpl] at hput
      have Hput : Hid _ := hput
      have HG2 : Hid ((w1.setCells (w.heap.size + 1) (j * 5) (encM (mkM g (t, .slice ax lx cx)))).cell? ⟨w.heap.size, 0, none⟩ = some (fv f0) ∧ (w1.setCells (w.heap.size + 1) (j * 5) (encM (mkM g (t, .slice ax lx cx)))).cell? ⟨w.heap.size, 1, none⟩ = some (fv f1)) :=
        ⟨cell_other (show w.heap.size ≠ w.heap.size + 1 by omega) HG1.out.1, cell_other (show w.heap.size ≠ w.heap.size + 1 by omega) HG1.out.2⟩
      have Hbf : Hid (Below w.heap.size w (w1.setCells (w.heap.size + 1) (j * 5) (encM (mkM g (t, .slice ax lx cx))))) := below_putM hb2 (by omega) (j * 5) _
      clear hput hpl HG1 HC1
      go_wp2_with fail
      go_roundg (ps.length - (j + 1))
      case measure => have := Hk.out; omega
      case rel => exact ⟨j + 1, by go_num, by omega, rfl, Hput, HG2, Hbf.out⟩
    · have hjl : j = ps.length := by omega
      have hd := HC.out.row
      rw [hjl, List.take_length] at hd
      have Hd : Hid (RowM wr (w.heap.size + 1) 0 (ps.map (mkM g))) := hd
      clear hd hjl HC HG hm
      go_wp2_with fail
      go_ret
      exact ⟨rfl, Hd.out, hbw⟩

end Go.Proofs.YtlmnkjnplaebgaaGreat

namespace Go.Proofs.YtlmnkjnplaebgaaGreat
open Go.RowKit Go.Shelf

theorem GoodM.slice {w : World} {p : MB} (h : GoodM w p) : ∃ a l c, p.u = .slice a l c := by
  obtain ⟨a, c, e, _⟩ := Lies.slice h.lies
  exact ⟨a, _, c, e⟩

theorem encM_one {p : MB} (h : ∃ a l c, p.u = .slice a l c) : ∀ v ∈ encM p, v.oneCell' = true := by
  obtain ⟨a, l, c, e⟩ := h
  intro v hv
  simp [encM] at hv
  rcases hv with rfl | rfl | rfl | rfl | rfl
  · rfl
  · rfl
  · rfl
  · rw [e]; rfl
  · rfl

theorem flatM_len (ps : List MB) : (ps.flatMap encM).length = ps.length * 5 := by
  induction ps with
  | nil => rfl
  | cons p ps ih => rw [List.flatMap_cons, List.length_append, ih, List.length_cons]; simp [encM]; omega

theorem flatM_at : ∀ (ps : List MB) (i r : Nat) (h : i < ps.length), r < 5 → (ps.flatMap encM)[i * 5 + r]? = (encM ps[i])[r]? := by
  intro ps
  induction ps with
  | nil => intro i r h; cases h
  | cons p ps ih =>
    intro i r h hr
    rw [List.flatMap_cons]
    cases i with
    | zero =>
      rw [List.getElem?_append_left (by simp [encM]; omega)]; simp
    | succ i =>
      rw [List.getElem?_append_right (by simp [encM]; omega)]
      have e : (i + 1) * 5 + r - (encM p).length = i * 5 + r := by simp [encM]; omega
      rw [e, ih i r (by simpa using h) hr]; rfl

theorem RowM.flat {w : World} {b o : Nat} {ps : List MB} (h : RowM w b o ps) : ∀ j u, (ps.flatMap encM)[j]? = some u → w.cell? ⟨b, o + j, none⟩ = some u := by
  intro j u hj
  have hlt : j < (ps.flatMap encM).length := by
    by_cases hl : j < (ps.flatMap encM).length
    · exact hl
    · rw [List.getElem?_eq_none (by omega)] at hj; cases hj
  rw [flatM_len] at hlt
  have hi : j / 5 < ps.length := by omega
  have hr : j % 5 < 5 := by omega
  have hjj : j = j / 5 * 5 + j % 5 := by omega
  rw [hjj, flatM_at ps (j / 5) (j % 5) hi hr] at hj
  obtain ⟨k0, k1, k2, k3, k4⟩ := h (j / 5) hi
  generalize hq : j / 5 = q at *
  generalize hm : j % 5 = m at *
  rw [hjj]
  clear hjj hlt
  match m, hr with
  | 0, _ => simp [encM] at hj; subst hj; rw [Nat.add_zero]; exact k0
  | 1, _ => simp [encM] at hj; subst hj; rw [← Nat.add_assoc]; exact k1
  | 2, _ => simp [encM] at hj; subst hj; rw [← Nat.add_assoc]; exact k2
  | 3, _ => simp [encM] at hj; subst hj; rw [← Nat.add_assoc]; exact k3
  | 4, _ => simp [encM] at hj; subst hj; rw [← Nat.add_assoc]; exact k4

theorem RowM.of_flat {w : World} {b o : Nat} {ps : List MB} (h : ∀ j u, (ps.flatMap encM)[j]? = some u → w.cell? ⟨b, o + j, none⟩ = some u) : RowM w b o ps := by
  intro i hi
  refine ⟨h (i * 5 + 0) _ ?_, h (i * 5 + 1) _ ?_, h (i * 5 + 2) _ ?_, h (i * 5 + 3) _ ?_, h (i * 5 + 4) _ ?_⟩
  all_goals (rw [flatM_at ps i _ hi (by omega)]; rfl)

/-- The rest of a row. -/
theorem RowM.drop {w : World} {b o : Nat} {ps : List MB} (h : RowM w b o ps) (m : Nat) : RowM w b (o + m * 5) (ps.drop m) := by
  intro i hi
  have h1 : m + i < ps.length := by simp at hi; omega
  have := h (m + i) h1
  simp only [List.getElem_drop]
  rw [show o + m * 5 + i * 5 = o + (m + i) * 5 by omega]
  exact this

/-- The head of a row. -/
theorem RowM.take {w : World} {b o : Nat} {ps : List MB} (h : RowM w b o ps) (m : Nat) : RowM w b o (ps.take m) := by
  intro i hi
  have h1 : i < ps.length := by simp at hi; omega
  have := h i h1
  simp only [List.getElem_take]
  exact this

theorem add_addr5 (b o j : Nat) : (⟨b, o, none⟩ : Addr).add j = ⟨b, o + j, none⟩ := by
  unfold Addr.add
  by_cases hk : j = 0
  · subst hk; rfl
  · rw [if_neg hk]

theorem own_growM {w wr w2 : World} {M : Nat} {ty sz : Nat} {v : Value} {n : Nat} {xs : List Value} (hb : Below M w wr) (hM : M ≤ wr.heap.size) (hown : wr.ownsRow M ty sz v n xs) (hgrow : wr.grownBy w2 v.ownBlock) : Below M w w2 :=
  hb.grown hgrow hM (by
    intro k hk
    rcases hown.2 with ⟨hv, _⟩ | ⟨g, cap', cur, hv, hbs, _⟩
    · rw [hv] at hk; cases hk
    · rw [hv] at hk
      simp only [Value.ownBlock, Option.some.injEq] at hk
      omega)

/-- A row that is owned, as a row of members. -/
theorem own_rowM {w : World} {base ty : Nat} {g n cap : Nat} {ps : List MB} (h : w.ownsRow base ty 5 (.slice (some ⟨g, 0, none⟩) n cap) n (ps.flatMap encM)) : RowM w g 0 ps ∧ n ≤ cap := by
  rcases h.2 with ⟨hv, _⟩ | ⟨g', cap', cur, hv, _, _, hcap, _⟩
  · cases hv
  · injection hv with h1 h2 h3
    subst h3
    refine ⟨RowM.of_flat fun j u hj => ?_, hcap⟩
    have := h.cells (g := g) rfl j u hj
    rwa [add_addr5] at this

end Go.Proofs.YtlmnkjnplaebgaaGreat

