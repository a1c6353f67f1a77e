/-
  The document's without, at one step.
-/
import Derived.Test.YtofceccicmlmoaaTimes2
import Derived.Test.YtofceccicmlmoaaCatV
import Derived.Test.YtofceccicmlmoaaRPutM
import Derived.Test.YtofceccicmlmoaaRAtM
import Derived.Deep.AppendLies
import Derived.Test.YtofceccicmlmoaaUndA
import Derived.Test.YtofceccicmlmoaaFaceM
import Derived.Deep.RegionHeld3
namespace Go.Proofs.Ytofceccicmlmoaa
open Go.RowKit Go.Shelf

theorem stepC_append {W : World} {ops : Array Oper} {o : Oper} {act : Act} {K : Act → World → Prop} {Q : Exit → Act → World → Prop} {E : Prop} (hgd : o.guard = none) (s x : Operand)
    (ho : o.op = .call { callee := .builtin .append, args := #[s, x], argTypes := #[22, 22] })
    {base n : Nat} {v : Value} {xs : List Value} (hs : act.eval s = v) (hown : W.ownsRow base 24 4 v n xs) {aa : Option Addr} {m c : Nat} (hx : act.eval x = .slice aa m c)
    {news : List Value} (hsrc : SrcC W aa m 4 news) (hm : n + m ≤ 1000000) (hbase : base ≤ W.heap.size) (k : Nat) (hk : n + m = k) (ys : List Value) (hys : xs ++ news = ys)
    (h : ∀ a' c' W', W'.ownsRow base 24 4 (.slice a' k c') k ys → W.grownBy W' v.ownBlock → K (act.put o.dst (.slice a' k c')) W') :
    if Region.wanted o (yielded ops act.tmps) = true then Oper.wp Try.prog o act W K Q else E := by
  have hw : Region.wanted o (yielded ops act.tmps) = true := by simp [Region.wanted, hgd]
  rw [if_pos hw]
  obtain ⟨i0, hi, hz0, hz1, hz2⟩ := info24
  subst hk hys
  by_cases h0 : m = 0
  · subst h0
    have hn : news = [] := List.eq_nil_of_length_eq_zero (by have := hsrc.len; omega)
    subst hn
    have hr : ∀ ty, (Builtin.append_ #[22, 22] ty #[v, .slice aa 0 c]).run Try.prog W = .ok v W := fun ty => by
      rcases hown.2 with ⟨rfl, rfl⟩ | ⟨g, cap, cur, rfl, _, _, hnc, _⟩
      · cases aa <;> simp [Builtin.append_, run_underlying Try.underlying22, sizeOf, typeInfo, hi, Builtin.lenOf, Builtin.firstCells, loadCells, loadCellsFrom]
      · cases aa <;> simp [Builtin.append_, run_underlying Try.underlying22, sizeOf, typeInfo, hi, Builtin.lenOf, Builtin.firstCells, hnc, storeCells, loadCells, loadCellsFrom]
    unfold Oper.wp execOp
    simp only [ho, resolve, invoke, builtin, Sem.run_bind, Sem.run_pure, Result.andThen_ok, List.map_toArray, List.map_cons, List.map_nil, hs, hx, hr]
    have hvf : ∃ a' c', v = .slice a' n c' := by
      rcases hown.2 with ⟨e, e2⟩ | ⟨g, cap, cur, e, _⟩
      · exact ⟨_, _, by rw [e, e2]⟩
      · exact ⟨_, cap, e⟩
    obtain ⟨a', c', rfl⟩ := hvf
    exact h a' c' W (by simpa using hown) ⟨rfl, rfl, rfl, Nat.le_refl _, fun _ _ _ => rfl⟩
  · obtain ⟨ad, rfl⟩ : ∃ ad, aa = some ad := by
      cases e : aa with
      | none => exact absurd (hsrc.none e) h0
      | some ad => exact ⟨ad, rfl⟩
    obtain ⟨g', cap, w', hr, r1, r2, r3, r4⟩ := run_append_lies (P := Try.prog) W 22 o.type base 24 i0 _ 4 56 Try.underlying22 hi hz0 hz1 hz2 rfl (by decide) _ n xs hown ad m c news hsrc.len (hsrc.at_ ad rfl) hsrc.one (by omega) (by unfold maxLen; omega) (by omega) hbase _ rfl
    unfold Oper.wp execOp
    simp only [ho, resolve, invoke, builtin, Sem.run_bind, Sem.run_pure, Result.andThen_ok, List.map_toArray, List.map_cons, List.map_nil, hs, hx, hr]
    exact h _ _ _ r1 r2

/-- A list's ends, as sources, and what is made of both. -/
theorem cut_src (X : Nat → Prop) (l : List VT) (b o c F m : Nat) (w : World) (h : LiesX X 16 w l (.slice (some ⟨b, o, none⟩) l.length c)) (hl : l.length ≤ 65536) (hF : F ≤ l.length) (hm : m ≤ l.length) :
    ∃ cs1 cs2, SrcC w (some ⟨b, o, none⟩) F 4 cs1 ∧ (∀ o', (m < l.length → o' = o + m * 4) → SrcC w (some ⟨b, o', none⟩) (l.length - m) 4 cs2) ∧
      ∀ (W : World) (M n : Nat) (v : Value), Below w.heap.size w W → n = F + (l.length - m) → W.ownsRow M 24 4 v n (cs1 ++ cs2) → LiesX (fun q => X q ∨ M ≤ q) 16 W (l.take F ++ l.drop m) v := by
  obtain ⟨a0, c0, hv, ps, hps, hlie, hrow⟩ := LiesX.row (d := 15) h
  injection hv with e1 _ e3
  subst e1
  have hpl : ps.length = l.length := by rw [← hps, List.length_map]
  have hsd : ∀ p ∈ ps, Sound 15 w p := fun p hp => ⟨(hlie p hp).1.lies, (hlie p hp).2⟩
  refine ⟨(ps.take F).flatMap encP, (ps.drop m).flatMap encP, ?_, fun o' ho => ?_, fun W M n v hb hn hown => ?_⟩
  · by_cases hne : l = []
    · have hF0 : F = 0 := by rw [hne] at hF; simpa using hF
      subst hF0
      exact srcC_nil _
    · obtain ⟨b2, o2, ha, _, hr⟩ := hrow hne
      injection ha with ha
      injection ha with e4 e5
      subst e4
      subst e5
      exact srcC_row (hr.take F) (fun p hp => hsd p (List.mem_of_mem_take hp)) (by rw [List.length_take]; omega)
  · by_cases hml : m < l.length
    · obtain ⟨b2, o2, ha, _, hr⟩ := hrow (fun e => by rw [e] at hml; simp at hml)
      injection ha with ha
      injection ha with e4 e5
      subst e4
      subst e5
      rw [ho hml]
      exact srcC_row (hr.drop m) (fun p hp => hsd p (List.mem_of_mem_drop hp)) (by rw [List.length_drop]; omega)
    · have e1 : ps.drop m = [] := List.drop_eq_nil_of_le (by omega)
      rw [e1, show l.length - m = 0 by omega]
      exact srcC_nil _
  · rw [← List.flatMap_append] at hown
    have hlen : n = (ps.take F ++ ps.drop m).length := by rw [List.length_append, List.length_take, List.length_drop]; omega
    have hmap : (ps.take F ++ ps.drop m).map (·.1) = l.take F ++ l.drop m := by rw [List.map_append, List.map_take, List.map_drop, hps]
    have hfin := own_liesX (X := fun q => X q ∨ M ≤ q) (d := 15) hown hlen (fun g hg => by
      rcases hown.2 with ⟨e, _⟩ | ⟨g2, cap, cur, e, hge, _⟩
      · rw [e] at hg; cases hg
      · rw [e] at hg; simp only [Value.ownBlock, Option.some.injEq] at hg; right; omega) (fun p hp => by
      have hp' : p ∈ ps := by
        rcases List.mem_append.1 hp with hp | hp
        · exact List.mem_of_mem_take hp
        · exact List.mem_of_mem_drop hp
      exact ⟨((hlie p hp').1.keeps hb).mono (fun _ h => .inl h), (hlie p hp').2⟩) (by rw [← hlen]; omega)
    rw [hmap] at hfin
    exact hfin

/-- What the document's without tells. -/
def RWotQ (X : Nat → Prop) (t : VT) (p : List VT) (w : World) (e : Ending) (w' : World) : Prop :=
  ∃ z a c b, e = .returned (.tuple #[.agg #[.int .i64 z.kind, .int .i64 z.num, .string z.text, .slice a z.items.length c], .bool b]) ∧ LiesX (fun q => X q ∨ w.heap.size ≤ q) 16 w' z.items (.slice a z.items.length c) ∧ z.text.size ≤ 9223372036854775807 ∧ ((b = true ∧ dropT t p = some z) ∨ (b = false ∧ dropT t p = none ∧ z = zeroT)) ∧ Below w.heap.size w w'

def RWotC (r : List VT) : Prop := ∀ (X : Nat → Prop) (t : VT) (a : Option Addr) (c : Nat) (pv : Value) (w : World), (∀ b, X b → b < w.heap.size) → LiesX X 16 w t.items (.slice a t.items.length c) → rightV 16 t = true → LiesX X 17 w r pv → (atT t r).isSome = true → Calls Try.prog 33 #[.agg #[.int .i64 t.kind, .int .i64 t.num, .string t.text, .slice a t.items.length c], pv] w (RWotQ X t r w)

theorem coll_bare {t : VT} (hr : rightV 16 t = true) (hk : t.kind = 4 ∨ t.kind = 5 ∨ t.kind = 6) : t.num = 0 ∧ t.text = ⟨#[]⟩ := by
  have ho : ownV 15 t = true := (rp_succ (d := 15) (right_rp hr)).2
  exact ⟨(own_facts ho).2.2.1 (by omega) (by omega), (right_text ho).2.2 (by omega)⟩

end Go.Proofs.Ytofceccicmlmoaa

namespace Go.Proofs.Ytofceccicmlmoaa
open Go.RowKit Go.Shelf

set_option maxRecDepth 100000 in
set_option maxHeartbeats 16000000 in
theorem rwot_4 (s : VT) (X : Nat → Prop) (t : VT) (a : Option Addr) (c : Nat) (pv : Value) (w : World) (hX : ∀ b, X b → b < w.heap.size) (h : LiesX X 16 w t.items (.slice a t.items.length c)) (hr : rightV 16 t = true) (hp : LiesX X 17 w [s] pv) (hB : plcB t s = true) (hk : t.kind = 4) :
    Calls Try.prog 33 #[.agg #[.int .i64 t.kind, .int .i64 t.num, .string t.text, .slice a t.items.length c], pv] w (RWotQ X t [s] w) := by
  have hlen : t.items.length ≤ 1024 := right_len hr
  have hd := Dp.of_lies 16 w t _ h.lies
  obtain ⟨pa, pc, rfl, _⟩ := LiesX.slice hp
  have hp2 := hp
  obtain ⟨a0, c0, hv, hpl, hrow⟩ := hp2
  injection hv with e1 e2 e3
  subst e1
  subst e3
  clear e2
  obtain ⟨pb, po, rfl, hXp, hall⟩ := hrow (by simp)
  obtain ⟨sv, p0, p1, p2, p3, p4, p5⟩ := hall 0 (by simp)
  simp only [List.getElem_cons_zero, Nat.zero_mul, Nat.add_zero] at p0 p1 p2 p3 p4 p5
  obtain ⟨sa, sc, rfl, _⟩ := LiesX.slice p4
  have hsl : LiesX X 16 w s.items (.slice sa s.items.length sc) := p4.atLeast 16 (by omega)
  have HT : Hid (Bx (op2 w t (.slice a t.items.length c)) w.heap.size t (.slice a t.items.length c)) := op2_fst _ _ _
  have HR : Hid (Bx (op2 w t (.slice a t.items.length c)) (w.heap.size + 1) zeroT (.slice none 0 0)) := op2_snd _ _ _
  have hb0 := op2_below w t (.slice a t.items.length c)
  obtain ⟨W0, hW0⟩ : ∃ W0, W0 = op2 w t (.slice a t.items.length c) := ⟨_, rfl⟩
  have HW0 : Hid (W0 = op2 w t (.slice a t.items.length c)) := hW0
  have hsz : W0.heap.size = w.heap.size + 2 := by rw [hW0]; unfold op2; simp
  rw [← hW0] at HT HR hb0
  clear hW0
  unfold op2 at HW0
  have p0 := cell_keeps hb0 p0; have p1 := cell_keeps hb0 p1; have p2 := cell_keeps hb0 p2; have p3 := cell_keeps hb0 p3
  obtain ⟨W1, hW1⟩ : ∃ W1, W1 = W0.alloc (.cells #[.int .i64 s.kind, .int .i64 s.num, .string s.text, .slice sa s.items.length sc] 24) := ⟨_, rfl⟩
  have hb01 : Below W0.heap.size W0 W1 := by rw [hW1]; exact ((Grew.refl W0).alloc _).below
  have hb1 : Below w.heap.size w W1 := hb0.trans (hb01.mono hb0.size)
  have HS1 : Hid (Bx W1 (w.heap.size + 2) s (.slice sa s.items.length sc)) := by
    rw [hW1, ← hsz]
    exact bx_alloc W0 s _
  have HT1 : Hid (Bx W1 w.heap.size t (.slice a t.items.length c)) := HT.out.keeps hb01
  have HR1 : Hid (Bx W1 (w.heap.size + 1) zeroT (.slice none 0 0)) := HR.out.keeps hb01
  have hsz1 : W1.heap.size = w.heap.size + 3 := by rw [hW1, World.size_alloc, hsz]
  have HW1 : Hid (W0.alloc (.cells #[.int .i64 s.kind, .int .i64 s.num, .string s.text, .slice sa s.items.length sc] 24) = W1) := hW1.symm
  clear hW1 hb01 HT HR hall hrow p4
  have HI : Hid (∀ W, Calls Try.prog 58 #[.agg #[.int .i64 t.kind, .int .i64 t.num, .string t.text, .slice a t.items.length c], .agg #[.int .i64 s.kind, .int .i64 s.num, .string s.text, .slice sa s.items.length sc]] W fun e w' => e = .returned (.tuple #[.int .i64 (if idxB t s = true then s.num else 0), .bool (idxB t s)]) ∧ Below W.heap.size W w') := fun W => rindex_any t s a sa c _ sc W
  have hI : idxB t s = true := by
    unfold plcB at hB
    rw [if_neg (by omega), if_pos hk] at hB
    unfold idxB
    rw [hk]
    simpa using hB
  obtain ⟨J, hJ, hJl, _, hpI⟩ := idx_fact hI
  obtain ⟨F, hF⟩ : ∃ F, F = J := ⟨_, rfl⟩
  obtain ⟨m, hm⟩ : ∃ m, m = J + 1 := ⟨_, rfl⟩
  replace HI : Hid (∀ W, Calls Try.prog 58 #[.agg #[.int .i64 t.kind, .int .i64 t.num, .string t.text, .slice a t.items.length c], .agg #[.int .i64 s.kind, .int .i64 s.num, .string s.text, .slice sa s.items.length sc]] W fun e w' => e = .returned (.tuple #[.int .i64 (F : Int), .bool true]) ∧ Below W.heap.size W w') := fun W => (HI.out W).mono fun e w' q => ⟨by rw [q.1, hI, if_pos rfl, hJ, hF], q.2⟩
  have hFl : F ≤ t.items.length := by omega
  have hml : m ≤ t.items.length := by omega
  have hwm : IntKind.i64.wrap ((F : Int) + 1) = (m : Int) := by rw [IntKind.wrap_i64]; omega
  have hz : dropT t [s] = some ⟨4, 0, ⟨#[]⟩, t.items.take F ++ t.items.drop m⟩ := by
    show some (wotT t (plcI t s).toNat) = _
    obtain ⟨e1, e2⟩ := coll_bare hr (.inl hk)
    unfold wotT
    rw [hpI, if_neg (by omega), if_pos (.inl hk), hk, e1, e2, hF, hm]
  obtain ⟨b, o, rfl, hlc⟩ : ∃ b o, a = some ⟨b, o, none⟩ ∧ t.items.length ≤ c := by
    obtain ⟨a', c', hv', hb, hr'⟩ := h
    injection hv' with e1 _ e3
    obtain ⟨b, o, ha, _⟩ := hr' (fun e => by rw [e] at hJl; simp at hJl)
    exact ⟨b, o, by rw [e1, ha], by rw [e3]; exact hb.1⟩
  obtain ⟨cs1, cs2, hs1, hs2, hfin⟩ := cut_src X t.items b o c F m w h (by omega) hFl hml
  obtain ⟨Nn, hNn⟩ : ∃ Nn, Nn = F + (t.items.length - m) := ⟨_, rfl⟩
  have hcut : (t.items.take F ++ t.items.drop m).length = Nn := by rw [List.length_append, List.length_take, List.length_drop]; omega
  have hXX : Hid (∀ b, X b → b < w.heap.size) := hX
  have HFin : Hid (∀ (V W : World) (a6 : Option Addr) (c6 : Nat), Below w.heap.size w V → w.heap.size + 2 ≤ V.heap.size → Below V.heap.size V W → Bx W (w.heap.size + 1) zeroT (.slice none 0 0) → W.ownsRow V.heap.size 24 4 (.slice a6 Nn c6) Nn (cs1 ++ cs2) → RWotQ X t [s] w (.returned (.tuple #[.agg #[.int .i64 4, .int .i64 0, .string ⟨#[]⟩, .slice a6 Nn c6], .bool true])) (W.setCells (w.heap.size + 1) 0 (encP ((⟨4, 0, ⟨#[]⟩, []⟩ : VT), .slice a6 Nn c6)))) := fun V W a6 c6 h1 h2 h3 h4 h5 => by
    have hbw := h1.trans (h3.mono h1.size)
    have h9 := hfin W V.heap.size Nn _ hbw hNn h5
    refine ⟨⟨4, 0, ⟨#[]⟩, t.items.take F ++ t.items.drop m⟩, a6, c6, true, ?_, ?_, ?_, .inl ⟨rfl, hz⟩, below_put hbw (by omega) _⟩
    · show _ = Ending.returned (.tuple #[.agg #[.int .i64 4, .int .i64 0, .string ⟨#[]⟩, .slice a6 (t.items.take F ++ t.items.drop m).length c6], .bool true])
      rw [hcut]
    · show LiesX _ 16 _ (t.items.take F ++ t.items.drop m) (.slice a6 (t.items.take F ++ t.items.drop m).length c6)
      rw [hcut]
      refine LiesX.mono (fun q hq => hq.imp id (fun hq => by have := h1.size; omega)) (LiesX.set (g := w.heap.size + 1) (fun hq => ?_) h9)
      rcases hq with hq | hq
      · have := hX _ hq; omega
      · omega
    · show 0 ≤ _; omega
  have HA1 : Hid (∀ W, Below w.heap.size w W → SrcC W (some ⟨b, o, none⟩) F 4 cs1) := fun W hW => hs1.keeps hW
  have HA2 : Hid (∀ W o', Below w.heap.size w W → (m < t.items.length → o' = o + m * 4) → SrcC W (some ⟨b, o', none⟩) (t.items.length - m) 4 cs2) := fun W o' hW ho => (hs2 o' ho).keeps hW
  generalize RWotQ X t [s] w = PP at *
  have hL : ([s] : List VT).length = 1 := rfl
  rw [hL]
  obtain ⟨L, hLn⟩ : ∃ L, L = t.items.length := ⟨_, rfl⟩
  rw [← hLn] at hFl hml hlc HA2 hNn HI HT1 HW0 hlen ⊢
  have hNs : Nn ≤ 1024 := by omega
  have hFc : (F : Int) ≤ (c : Int) := by omega
  have hmL : (m : Int) ≤ (L : Int) := by omega
  have hLc : (L : Int) ≤ (c : Int) := by omega
  have hmc : (m : Int) ≤ (c : Int) := by omega
  have hF0 : (F : Int) ≤ 1024 := by omega
  have HNn : Hid (F + (L - m) = Nn) := hNn.symm
  clear hfin hs1 hs2 hz hcut hX h hr hp hB hpI hJl hd hsl p5 hXp hpl hLn hNn hL hF hm hI hJ
  rw [hk] at HI HW0 ⊢
  obtain ⟨t0, t1, t2, t3, _, _, _, _⟩ := HT1.out
  rw [hk] at t0
  clear hk
  obtain ⟨s0, s1, s2, s3, _, _, _, _⟩ := HS1.out
  go_enter Try.func33, Try.ntmps33
  go_upto_region 1 with fail
  rw [← HW0.out]
  clear HW0
  go_upto_region 2 with fail
  rw [HW1.out]
  clear HW1 p0 p1 p2 p3
  go_wp2_with fail
  refine Calls.mono (HI.out _) ?_
  rintro e w1 ⟨rfl, hg1⟩
  have hb2 : Below w.heap.size w w1 := hb1.trans (hg1.mono hb1.size)
  have HT2 : Hid (Bx w1 w.heap.size t (.slice (some ⟨b, o, none⟩) L c)) := HT1.out.keeps hg1
  have HR2 : Hid (Bx w1 (w.heap.size + 1) zeroT (.slice none 0 0)) := HR1.out.keeps hg1
  have hsz2 : w.heap.size + 3 ≤ w1.heap.size := by have := hg1.size; omega
  replace t0 := cell_keeps hg1 t0; replace t1 := cell_keeps hg1 t1; replace t2 := cell_keeps hg1 t2; replace t3 := cell_keeps hg1 t3
  replace s0 := cell_keeps hg1 s0; replace s1 := cell_keeps hg1 s1; replace s2 := cell_keeps hg1 s2; replace s3 := cell_keeps hg1 s3
  clear hg1 hb1 hb0 HR1 HT1 HS1 HI hsz hsz1
  obtain ⟨Vx, hVx⟩ : ∃ Vx, Vx = w1 := ⟨_, rfl⟩
  subst hVx
  have HbV : Hid (Below w.heap.size w Vx) := hb2
  have HsV : Hid (w.heap.size + 3 ≤ Vx.heap.size) := hsz2
  have HoA : Hid ((Vx.drew.alloc (.cells #[] 24)).ownsRow Vx.heap.size 24 4 (.slice (some ⟨Vx.heap.size, 0, none⟩) 0 0) 0 []) := World.ownsRow_lit Vx.drew #[] 0 (Nat.le_refl _) (by unfold maxLen; omega) rfl
  have HBA : Hid (Below Vx.heap.size Vx (Vx.drew.alloc (.cells #[] 24))) := ((Below.refl Vx.heap.size Vx).drew).alloc (Nat.le_refl _) _
  have HS1w : Hid (∀ W, Below Vx.heap.size Vx W → SrcC W (some ⟨b, o, none⟩) F 4 cs1) := fun W hW => HA1.out W (hb2.trans (hW.mono hb2.size))
  have HS2w : Hid (∀ W o', Below Vx.heap.size Vx W → (m < L → o' = o + m * 4) → SrcC W (some ⟨b, o', none⟩) (L - m) 4 cs2) := fun W o' hW ho => HA2.out W o' (hb2.trans (hW.mono hb2.size)) ho
  have HEnd : Hid (∀ W a6 c6, Below Vx.heap.size Vx W → W.ownsRow Vx.heap.size 24 4 (.slice a6 Nn c6) Nn (cs1 ++ cs2) → Hid (PP (.returned (.tuple #[.agg #[.int .i64 4, .int .i64 0, .string ⟨#[]⟩, .slice a6 Nn c6], .bool true])) (W.setCells (w.heap.size + 1) 0 (encP ((⟨4, 0, ⟨#[]⟩, []⟩ : VT), .slice a6 Nn c6)))) ∧ Hid (Bx W (w.heap.size + 1) zeroT (.slice none 0 0)) ∧ Hid (Bx (W.setCells (w.heap.size + 1) 0 (encP ((⟨4, 0, ⟨#[]⟩, []⟩ : VT), .slice a6 Nn c6))) (w.heap.size + 1) (⟨4, 0, ⟨#[]⟩, []⟩ : VT) (.slice a6 Nn c6))) := fun W a6 c6 h1 h2 =>
    ⟨HFin.out Vx W a6 c6 hb2 (by omega) h1 (HR2.out.keeps h1) h2, HR2.out.keeps h1, (HR2.out.keeps h1).put _⟩
  clear HFin HA1 HA2 hb2 hsz2
  go_upto_region 17 with fail
  have hnn : w.heap.size ≠ w.heap.size + 1 := by omega
  have HT0 : Hid (Vx.cell? ⟨w.heap.size, 0, none⟩ = some (.int .i64 4)) := t0
  have HT3 : Hid (Vx.cell? ⟨w.heap.size, 3, none⟩ = some (.slice (some ⟨b, o, none⟩) L c)) := t3
  by_cases hck : c = m
  · have HNK : Hid (¬ m < L) := by show ¬ _; omega
    subst hck
    have hz0 : L - c = 0 := by omega
    rw [hz0] at HS2w HNn
    clear hz0
    go_region_held3 (fun w' => w'.cell? ⟨w.heap.size, 0, none⟩ = some (.int .i64 4) ∧ w'.cell? ⟨w.heap.size, 3, none⟩ = some (.slice (some ⟨b, o, none⟩) L c)) (first | (go_keep; done) | (with_reducible exact ⟨set4_k26 hnn t0, set4_k26 hnn t3⟩))
      (first
        | (refine stepC_append rfl (.tmp 73) (.tmp 77) rfl (base := Vx.heap.size) (n := 0) (xs := []) rfl HoA.out rfl (HS1w.out _ HBA.out) (by omega) (HBA.out.size) F (Nat.zero_add _) cs1 rfl ?_; intro a5 c5 w5 hown5 hg5; have hb5 : Below Vx.heap.size Vx w5 := own_growM (M := Vx.heap.size) HBA.out HBA.out.size HoA.out hg5; have HOw : Hid (w5.ownsRow Vx.heap.size 24 4 (.slice a5 F c5) F cs1) := hown5; have t0 := cell_keeps hb5 t0; have t3 := cell_keeps hb5 t3; clear hown5 hg5)
        | ((refine stepC_append rfl (.tmp 78) (.tmp 84) rfl (base := Vx.heap.size) (n := F) (xs := cs1) rfl HOw.out rfl (HS2w.out _ o hb5 (fun h => absurd h HNK.out)) (by omega) hb5.size Nn HNn.out (cs1 ++ cs2) rfl ?_); intro a6 c6 w6 hown6 hg6; have hb6 : Below Vx.heap.size Vx w6 := own_growM (M := Vx.heap.size) hb5 hb5.size HOw.out hg6; obtain ⟨HP6, HR6, Hq⟩ := HEnd.out w6 a6 c6 hb6 hown6; obtain ⟨z0, z1, z2, z3, g0, g1, g2, g3⟩ := HR6.out; have t0 := cell_keeps hb6 HT0.out; have t3 := cell_keeps hb6 HT3.out; clear hown6 hg6))
    all_goals clear t0 t3
    all_goals go_wp2_with fail
    all_goals refine bodyPost_ret (v := .tuple #[.agg #[.int .i64 4, .int .i64 0, .string ⟨#[]⟩, .slice a6 Nn c6], .bool true]) ?_ rfl HP6.out
    all_goals obtain ⟨q0, q1, q2, q3, _, _, _, _⟩ := Hq.out
    all_goals simp only [World.setCells, encP, Nat.zero_add, Nat.reduceAdd] at q0 q1 q2 q3
    all_goals simp [results, Try.results33, go_sem, q0, q1, q2, q3]
  · have h5c : ¬ ((c : Nat) : Int) = (m : Nat) := by omega
    go_region_held3 (fun w' => w'.cell? ⟨w.heap.size, 0, none⟩ = some (.int .i64 4) ∧ w'.cell? ⟨w.heap.size, 3, none⟩ = some (.slice (some ⟨b, o, none⟩) L c)) (first | (go_keep; done) | (with_reducible exact ⟨set4_k26 hnn t0, set4_k26 hnn t3⟩))
      (first
        | (refine stepC_append rfl (.tmp 73) (.tmp 77) rfl (base := Vx.heap.size) (n := 0) (xs := []) rfl HoA.out rfl (HS1w.out _ HBA.out) (by omega) (HBA.out.size) F (Nat.zero_add _) cs1 rfl ?_; intro a5 c5 w5 hown5 hg5; have hb5 : Below Vx.heap.size Vx w5 := own_growM (M := Vx.heap.size) HBA.out HBA.out.size HoA.out hg5; have HOw : Hid (w5.ownsRow Vx.heap.size 24 4 (.slice a5 F c5) F cs1) := hown5; have t0 := cell_keeps hb5 t0; have t3 := cell_keeps hb5 t3; clear hown5 hg5)
        | ((refine stepC_append rfl (.tmp 78) (.tmp 84) rfl (base := Vx.heap.size) (n := F) (xs := cs1) rfl HOw.out rfl (HS2w.out _ (o + m * 4) hb5 (fun _ => rfl)) (by omega) hb5.size Nn HNn.out (cs1 ++ cs2) rfl ?_); intro a6 c6 w6 hown6 hg6; have hb6 : Below Vx.heap.size Vx w6 := own_growM (M := Vx.heap.size) hb5 hb5.size HOw.out hg6; obtain ⟨HP6, HR6, Hq⟩ := HEnd.out w6 a6 c6 hb6 hown6; obtain ⟨z0, z1, z2, z3, g0, g1, g2, g3⟩ := HR6.out; have t0 := cell_keeps hb6 HT0.out; have t3 := cell_keeps hb6 HT3.out; clear hown6 hg6))
    all_goals clear t0 t3
    all_goals go_wp2_with fail
    all_goals refine bodyPost_ret (v := .tuple #[.agg #[.int .i64 4, .int .i64 0, .string ⟨#[]⟩, .slice a6 Nn c6], .bool true]) ?_ rfl HP6.out
    all_goals obtain ⟨q0, q1, q2, q3, _, _, _, _⟩ := Hq.out
    all_goals simp only [World.setCells, encP, Nat.zero_add, Nat.reduceAdd] at q0 q1 q2 q3
    all_goals simp [results, Try.results33, go_sem, q0, q1, q2, q3]

set_option maxRecDepth 100000 in
set_option maxHeartbeats 16000000 in
theorem rwot_5 (s : VT) (X : Nat → Prop) (t : VT) (a : Option Addr) (c : Nat) (pv : Value) (w : World) (hX : ∀ b, X b → b < w.heap.size) (h : LiesX X 16 w t.items (.slice a t.items.length c)) (hr : rightV 16 t = true) (hp : LiesX X 17 w [s] pv) (hB : plcB t s = true) (hk : t.kind = 5) :
    Calls Try.prog 33 #[.agg #[.int .i64 t.kind, .int .i64 t.num, .string t.text, .slice a t.items.length c], pv] w (RWotQ X t [s] w) := by
  have hlen : t.items.length ≤ 1024 := right_len hr
  have hd := Dp.of_lies 16 w t _ h.lies
  obtain ⟨pa, pc, rfl, _⟩ := LiesX.slice hp
  have hp2 := hp
  obtain ⟨a0, c0, hv, hpl, hrow⟩ := hp2
  injection hv with e1 e2 e3
  subst e1
  subst e3
  clear e2
  obtain ⟨pb, po, rfl, hXp, hall⟩ := hrow (by simp)
  obtain ⟨sv, p0, p1, p2, p3, p4, p5⟩ := hall 0 (by simp)
  simp only [List.getElem_cons_zero, Nat.zero_mul, Nat.add_zero] at p0 p1 p2 p3 p4 p5
  obtain ⟨sa, sc, rfl, _⟩ := LiesX.slice p4
  have hsl : LiesX X 16 w s.items (.slice sa s.items.length sc) := p4.atLeast 16 (by omega)
  have HT : Hid (Bx (op2 w t (.slice a t.items.length c)) w.heap.size t (.slice a t.items.length c)) := op2_fst _ _ _
  have HR : Hid (Bx (op2 w t (.slice a t.items.length c)) (w.heap.size + 1) zeroT (.slice none 0 0)) := op2_snd _ _ _
  have hb0 := op2_below w t (.slice a t.items.length c)
  obtain ⟨W0, hW0⟩ : ∃ W0, W0 = op2 w t (.slice a t.items.length c) := ⟨_, rfl⟩
  have HW0 : Hid (W0 = op2 w t (.slice a t.items.length c)) := hW0
  have hsz : W0.heap.size = w.heap.size + 2 := by rw [hW0]; unfold op2; simp
  rw [← hW0] at HT HR hb0
  clear hW0
  unfold op2 at HW0
  have p0 := cell_keeps hb0 p0; have p1 := cell_keeps hb0 p1; have p2 := cell_keeps hb0 p2; have p3 := cell_keeps hb0 p3
  obtain ⟨W1, hW1⟩ : ∃ W1, W1 = W0.alloc (.cells #[.int .i64 s.kind, .int .i64 s.num, .string s.text, .slice sa s.items.length sc] 24) := ⟨_, rfl⟩
  have hb01 : Below W0.heap.size W0 W1 := by rw [hW1]; exact ((Grew.refl W0).alloc _).below
  have hb1 : Below w.heap.size w W1 := hb0.trans (hb01.mono hb0.size)
  have HS1 : Hid (Bx W1 (w.heap.size + 2) s (.slice sa s.items.length sc)) := by
    rw [hW1, ← hsz]
    exact bx_alloc W0 s _
  have HT1 : Hid (Bx W1 w.heap.size t (.slice a t.items.length c)) := HT.out.keeps hb01
  have HR1 : Hid (Bx W1 (w.heap.size + 1) zeroT (.slice none 0 0)) := HR.out.keeps hb01
  have hsz1 : W1.heap.size = w.heap.size + 3 := by rw [hW1, World.size_alloc, hsz]
  have HW1 : Hid (W0.alloc (.cells #[.int .i64 s.kind, .int .i64 s.num, .string s.text, .slice sa s.items.length sc] 24) = W1) := hW1.symm
  clear hW1 hb01 HT HR hall hrow p4
  have HI : Hid (∀ W, Calls Try.prog 58 #[.agg #[.int .i64 t.kind, .int .i64 t.num, .string t.text, .slice a t.items.length c], .agg #[.int .i64 s.kind, .int .i64 s.num, .string s.text, .slice sa s.items.length sc]] W fun e w' => e = .returned (.tuple #[.int .i64 (if idxB t s = true then s.num else 0), .bool (idxB t s)]) ∧ Below W.heap.size W w') := fun W => rindex_any t s a sa c _ sc W
  have hI : idxB t s = false := by unfold idxB; rw [hk]; rfl
  have hM : memB t s = true := by
    unfold plcB at hB
    rw [if_neg (by omega), if_neg (by omega), if_pos hk] at hB
    unfold memB
    rw [hk]
    simpa using hB
  obtain ⟨hJl, _, hpI⟩ := mem_fact hM
  have HM : Hid (∀ W, Below w.heap.size w W → Calls Try.prog 60 #[.agg #[.int .i64 t.kind, .int .i64 t.num, .string t.text, .slice a t.items.length c], .agg #[.int .i64 s.kind, .int .i64 s.num, .string s.text, .slice sa s.items.length sc]] W fun e w' => e = .returned (.tuple #[.int .i64 (memI t s : Nat), .bool (memB t s)]) ∧ Below W.heap.size W w') := fun W hW => rmember_any t s a sa c sc W (Lies.keeps hW _ _ _ h.lies) (Lies.keeps hW _ _ _ hsl.lies) hr
  obtain ⟨F, hF⟩ : ∃ F, F = memI t s := ⟨_, rfl⟩
  obtain ⟨m, hm⟩ : ∃ m, m = F + 1 := ⟨_, rfl⟩
  rw [hI] at HI
  simp only [Bool.false_eq_true, if_false] at HI
  rw [hM, ← hF] at HM
  rw [← hF] at hJl hpI
  have hFl : F ≤ t.items.length := by omega
  have hml : m ≤ t.items.length := by omega
  have hwm : IntKind.i64.wrap ((F : Int) + 1) = (m : Int) := by rw [IntKind.wrap_i64]; omega
  have hz : dropT t [s] = some ⟨5, 0, ⟨#[]⟩, t.items.take F ++ t.items.drop m⟩ := by
    show some (wotT t (plcI t s).toNat) = _
    obtain ⟨e1, e2⟩ := coll_bare hr (.inr (.inl hk))
    unfold wotT
    rw [hpI, if_neg (by omega), if_pos (.inr hk), hk, e1, e2, hm]
  obtain ⟨b, o, rfl, hlc⟩ : ∃ b o, a = some ⟨b, o, none⟩ ∧ t.items.length ≤ c := by
    obtain ⟨a', c', hv', hb, hr'⟩ := h
    injection hv' with e1 _ e3
    obtain ⟨b, o, ha, _⟩ := hr' (fun e => by rw [e] at hJl; simp at hJl)
    exact ⟨b, o, by rw [e1, ha], by rw [e3]; exact hb.1⟩
  obtain ⟨cs1, cs2, hs1, hs2, hfin⟩ := cut_src X t.items b o c F m w h (by omega) hFl hml
  obtain ⟨Nn, hNn⟩ : ∃ Nn, Nn = F + (t.items.length - m) := ⟨_, rfl⟩
  have hcut : (t.items.take F ++ t.items.drop m).length = Nn := by rw [List.length_append, List.length_take, List.length_drop]; omega
  have hXX : Hid (∀ b, X b → b < w.heap.size) := hX
  have HFin : Hid (∀ (V W : World) (a6 : Option Addr) (c6 : Nat), Below w.heap.size w V → w.heap.size + 2 ≤ V.heap.size → Below V.heap.size V W → Bx W (w.heap.size + 1) zeroT (.slice none 0 0) → W.ownsRow V.heap.size 24 4 (.slice a6 Nn c6) Nn (cs1 ++ cs2) → RWotQ X t [s] w (.returned (.tuple #[.agg #[.int .i64 5, .int .i64 0, .string ⟨#[]⟩, .slice a6 Nn c6], .bool true])) (W.setCells (w.heap.size + 1) 0 (encP ((⟨5, 0, ⟨#[]⟩, []⟩ : VT), .slice a6 Nn c6)))) := fun V W a6 c6 h1 h2 h3 h4 h5 => by
    have hbw := h1.trans (h3.mono h1.size)
    have h9 := hfin W V.heap.size Nn _ hbw hNn h5
    refine ⟨⟨5, 0, ⟨#[]⟩, t.items.take F ++ t.items.drop m⟩, a6, c6, true, ?_, ?_, ?_, .inl ⟨rfl, hz⟩, below_put hbw (by omega) _⟩
    · show _ = Ending.returned (.tuple #[.agg #[.int .i64 5, .int .i64 0, .string ⟨#[]⟩, .slice a6 (t.items.take F ++ t.items.drop m).length c6], .bool true])
      rw [hcut]
    · show LiesX _ 16 _ (t.items.take F ++ t.items.drop m) (.slice a6 (t.items.take F ++ t.items.drop m).length c6)
      rw [hcut]
      refine LiesX.mono (fun q hq => hq.imp id (fun hq => by have := h1.size; omega)) (LiesX.set (g := w.heap.size + 1) (fun hq => ?_) h9)
      rcases hq with hq | hq
      · have := hX _ hq; omega
      · omega
    · show 0 ≤ _; omega
  have HA1 : Hid (∀ W, Below w.heap.size w W → SrcC W (some ⟨b, o, none⟩) F 4 cs1) := fun W hW => hs1.keeps hW
  have HA2 : Hid (∀ W o', Below w.heap.size w W → (m < t.items.length → o' = o + m * 4) → SrcC W (some ⟨b, o', none⟩) (t.items.length - m) 4 cs2) := fun W o' hW ho => (hs2 o' ho).keeps hW
  generalize RWotQ X t [s] w = PP at *
  have hL : ([s] : List VT).length = 1 := rfl
  rw [hL]
  obtain ⟨L, hLn⟩ : ∃ L, L = t.items.length := ⟨_, rfl⟩
  rw [← hLn] at hFl hml hlc HA2 hNn HI HT1 HW0 hlen ⊢
  rw [← hLn] at HM
  have hNs : Nn ≤ 1024 := by omega
  have hFc : (F : Int) ≤ (c : Int) := by omega
  have hmL : (m : Int) ≤ (L : Int) := by omega
  have hLc : (L : Int) ≤ (c : Int) := by omega
  have hmc : (m : Int) ≤ (c : Int) := by omega
  have hF0 : (F : Int) ≤ 1024 := by omega
  have HNn : Hid (F + (L - m) = Nn) := hNn.symm
  clear hfin hs1 hs2 hz hcut hX h hr hp hB hpI hJl hd hsl p5 hXp hpl hLn hNn hL hF hm hI hM
  rw [hk] at HI HW0 ⊢
  rw [hk] at HM
  obtain ⟨t0, t1, t2, t3, _, _, _, _⟩ := HT1.out
  rw [hk] at t0
  clear hk
  obtain ⟨s0, s1, s2, s3, _, _, _, _⟩ := HS1.out
  go_enter Try.func33, Try.ntmps33
  go_upto_region 1 with fail
  rw [← HW0.out]
  clear HW0
  go_upto_region 2 with fail
  rw [HW1.out]
  clear HW1 p0 p1 p2 p3
  go_wp2_with fail
  refine Calls.mono (HI.out _) ?_
  rintro e w1 ⟨rfl, hg1⟩
  have hb2 : Below w.heap.size w w1 := hb1.trans (hg1.mono hb1.size)
  have HT2 : Hid (Bx w1 w.heap.size t (.slice (some ⟨b, o, none⟩) L c)) := HT1.out.keeps hg1
  have HR2 : Hid (Bx w1 (w.heap.size + 1) zeroT (.slice none 0 0)) := HR1.out.keeps hg1
  have hsz2 : w.heap.size + 3 ≤ w1.heap.size := by have := hg1.size; omega
  replace t0 := cell_keeps hg1 t0; replace t1 := cell_keeps hg1 t1; replace t2 := cell_keeps hg1 t2; replace t3 := cell_keeps hg1 t3
  replace s0 := cell_keeps hg1 s0; replace s1 := cell_keeps hg1 s1; replace s2 := cell_keeps hg1 s2; replace s3 := cell_keeps hg1 s3
  clear hg1 hb1 hb0 HR1 HT1 HS1 HI hsz hsz1
  go_wp2_with fail
  refine Calls.mono (HM.out _ hb2) ?_
  rintro e Vx ⟨rfl, hg1⟩
  replace hb2 : Below w.heap.size w Vx := hb2.trans (hg1.mono hb2.size)
  replace HT2 : Hid (Bx Vx w.heap.size t (.slice (some ⟨b, o, none⟩) L c)) := HT2.out.keeps hg1
  replace HR2 : Hid (Bx Vx (w.heap.size + 1) zeroT (.slice none 0 0)) := HR2.out.keeps hg1
  replace hsz2 : w.heap.size + 3 ≤ Vx.heap.size := by have := hg1.size; omega
  replace t0 := cell_keeps hg1 t0; replace t1 := cell_keeps hg1 t1; replace t2 := cell_keeps hg1 t2; replace t3 := cell_keeps hg1 t3
  clear hg1 HM s0 s1 s2 s3
  have HbV : Hid (Below w.heap.size w Vx) := hb2
  have HsV : Hid (w.heap.size + 3 ≤ Vx.heap.size) := hsz2
  have HoA : Hid ((Vx.drew.alloc (.cells #[] 24)).ownsRow Vx.heap.size 24 4 (.slice (some ⟨Vx.heap.size, 0, none⟩) 0 0) 0 []) := World.ownsRow_lit Vx.drew #[] 0 (Nat.le_refl _) (by unfold maxLen; omega) rfl
  have HBA : Hid (Below Vx.heap.size Vx (Vx.drew.alloc (.cells #[] 24))) := ((Below.refl Vx.heap.size Vx).drew).alloc (Nat.le_refl _) _
  have HS1w : Hid (∀ W, Below Vx.heap.size Vx W → SrcC W (some ⟨b, o, none⟩) F 4 cs1) := fun W hW => HA1.out W (hb2.trans (hW.mono hb2.size))
  have HS2w : Hid (∀ W o', Below Vx.heap.size Vx W → (m < L → o' = o + m * 4) → SrcC W (some ⟨b, o', none⟩) (L - m) 4 cs2) := fun W o' hW ho => HA2.out W o' (hb2.trans (hW.mono hb2.size)) ho
  have HEnd : Hid (∀ W a6 c6, Below Vx.heap.size Vx W → W.ownsRow Vx.heap.size 24 4 (.slice a6 Nn c6) Nn (cs1 ++ cs2) → Hid (PP (.returned (.tuple #[.agg #[.int .i64 5, .int .i64 0, .string ⟨#[]⟩, .slice a6 Nn c6], .bool true])) (W.setCells (w.heap.size + 1) 0 (encP ((⟨5, 0, ⟨#[]⟩, []⟩ : VT), .slice a6 Nn c6)))) ∧ Hid (Bx W (w.heap.size + 1) zeroT (.slice none 0 0)) ∧ Hid (Bx (W.setCells (w.heap.size + 1) 0 (encP ((⟨5, 0, ⟨#[]⟩, []⟩ : VT), .slice a6 Nn c6))) (w.heap.size + 1) (⟨5, 0, ⟨#[]⟩, []⟩ : VT) (.slice a6 Nn c6))) := fun W a6 c6 h1 h2 =>
    ⟨HFin.out Vx W a6 c6 hb2 (by omega) h1 (HR2.out.keeps h1) h2, HR2.out.keeps h1, (HR2.out.keeps h1).put _⟩
  clear HFin HA1 HA2 hb2 hsz2
  go_upto_region 17 with fail
  have hnn : w.heap.size ≠ w.heap.size + 1 := by omega
  have HT0 : Hid (Vx.cell? ⟨w.heap.size, 0, none⟩ = some (.int .i64 5)) := t0
  have HT3 : Hid (Vx.cell? ⟨w.heap.size, 3, none⟩ = some (.slice (some ⟨b, o, none⟩) L c)) := t3
  by_cases hck : c = m
  · have HNK : Hid (¬ m < L) := by show ¬ _; omega
    subst hck
    have hz0 : L - c = 0 := by omega
    rw [hz0] at HS2w HNn
    clear hz0
    go_region_held3 (fun w' => w'.cell? ⟨w.heap.size, 0, none⟩ = some (.int .i64 5) ∧ w'.cell? ⟨w.heap.size, 3, none⟩ = some (.slice (some ⟨b, o, none⟩) L c)) (first | (go_keep; done) | (with_reducible exact ⟨set4_k26 hnn t0, set4_k26 hnn t3⟩))
      (first
        | (refine stepC_append rfl (.tmp 73) (.tmp 77) rfl (base := Vx.heap.size) (n := 0) (xs := []) rfl HoA.out rfl (HS1w.out _ HBA.out) (by omega) (HBA.out.size) F (Nat.zero_add _) cs1 rfl ?_; intro a5 c5 w5 hown5 hg5; have hb5 : Below Vx.heap.size Vx w5 := own_growM (M := Vx.heap.size) HBA.out HBA.out.size HoA.out hg5; have HOw : Hid (w5.ownsRow Vx.heap.size 24 4 (.slice a5 F c5) F cs1) := hown5; have t0 := cell_keeps hb5 t0; have t3 := cell_keeps hb5 t3; clear hown5 hg5)
        | ((refine stepC_append rfl (.tmp 78) (.tmp 84) rfl (base := Vx.heap.size) (n := F) (xs := cs1) rfl HOw.out rfl (HS2w.out _ o hb5 (fun h => absurd h HNK.out)) (by omega) hb5.size Nn HNn.out (cs1 ++ cs2) rfl ?_); intro a6 c6 w6 hown6 hg6; have hb6 : Below Vx.heap.size Vx w6 := own_growM (M := Vx.heap.size) hb5 hb5.size HOw.out hg6; obtain ⟨HP6, HR6, Hq⟩ := HEnd.out w6 a6 c6 hb6 hown6; obtain ⟨z0, z1, z2, z3, g0, g1, g2, g3⟩ := HR6.out; have t0 := cell_keeps hb6 HT0.out; have t3 := cell_keeps hb6 HT3.out; clear hown6 hg6))
    all_goals clear t0 t3
    all_goals go_wp2_with fail
    all_goals refine bodyPost_ret (v := .tuple #[.agg #[.int .i64 5, .int .i64 0, .string ⟨#[]⟩, .slice a6 Nn c6], .bool true]) ?_ rfl HP6.out
    all_goals obtain ⟨q0, q1, q2, q3, _, _, _, _⟩ := Hq.out
    all_goals simp only [World.setCells, encP, Nat.zero_add, Nat.reduceAdd] at q0 q1 q2 q3
    all_goals simp [results, Try.results33, go_sem, q0, q1, q2, q3]
  · have h5c : ¬ ((c : Nat) : Int) = (m : Nat) := by omega
    go_region_held3 (fun w' => w'.cell? ⟨w.heap.size, 0, none⟩ = some (.int .i64 5) ∧ w'.cell? ⟨w.heap.size, 3, none⟩ = some (.slice (some ⟨b, o, none⟩) L c)) (first | (go_keep; done) | (with_reducible exact ⟨set4_k26 hnn t0, set4_k26 hnn t3⟩))
      (first
        | (refine stepC_append rfl (.tmp 73) (.tmp 77) rfl (base := Vx.heap.size) (n := 0) (xs := []) rfl HoA.out rfl (HS1w.out _ HBA.out) (by omega) (HBA.out.size) F (Nat.zero_add _) cs1 rfl ?_; intro a5 c5 w5 hown5 hg5; have hb5 : Below Vx.heap.size Vx w5 := own_growM (M := Vx.heap.size) HBA.out HBA.out.size HoA.out hg5; have HOw : Hid (w5.ownsRow Vx.heap.size 24 4 (.slice a5 F c5) F cs1) := hown5; have t0 := cell_keeps hb5 t0; have t3 := cell_keeps hb5 t3; clear hown5 hg5)
        | ((refine stepC_append rfl (.tmp 78) (.tmp 84) rfl (base := Vx.heap.size) (n := F) (xs := cs1) rfl HOw.out rfl (HS2w.out _ (o + m * 4) hb5 (fun _ => rfl)) (by omega) hb5.size Nn HNn.out (cs1 ++ cs2) rfl ?_); intro a6 c6 w6 hown6 hg6; have hb6 : Below Vx.heap.size Vx w6 := own_growM (M := Vx.heap.size) hb5 hb5.size HOw.out hg6; obtain ⟨HP6, HR6, Hq⟩ := HEnd.out w6 a6 c6 hb6 hown6; obtain ⟨z0, z1, z2, z3, g0, g1, g2, g3⟩ := HR6.out; have t0 := cell_keeps hb6 HT0.out; have t3 := cell_keeps hb6 HT3.out; clear hown6 hg6))
    all_goals clear t0 t3
    all_goals go_wp2_with fail
    all_goals refine bodyPost_ret (v := .tuple #[.agg #[.int .i64 5, .int .i64 0, .string ⟨#[]⟩, .slice a6 Nn c6], .bool true]) ?_ rfl HP6.out
    all_goals obtain ⟨q0, q1, q2, q3, _, _, _, _⟩ := Hq.out
    all_goals simp only [World.setCells, encP, Nat.zero_add, Nat.reduceAdd] at q0 q1 q2 q3
    all_goals simp [results, Try.results33, go_sem, q0, q1, q2, q3]

set_option maxRecDepth 100000 in
set_option maxHeartbeats 16000000 in
theorem rwot_6 (s : VT) (X : Nat → Prop) (t : VT) (a : Option Addr) (c : Nat) (pv : Value) (w : World) (hX : ∀ b, X b → b < w.heap.size) (h : LiesX X 16 w t.items (.slice a t.items.length c)) (hr : rightV 16 t = true) (hp : LiesX X 17 w [s] pv) (hB : plcB t s = true) (hk : t.kind = 6) :
    Calls Try.prog 33 #[.agg #[.int .i64 t.kind, .int .i64 t.num, .string t.text, .slice a t.items.length c], pv] w (RWotQ X t [s] w) := by
  have hlen : t.items.length ≤ 1024 := right_len hr
  have hd := Dp.of_lies 16 w t _ h.lies
  obtain ⟨pa, pc, rfl, _⟩ := LiesX.slice hp
  have hp2 := hp
  obtain ⟨a0, c0, hv, hpl, hrow⟩ := hp2
  injection hv with e1 e2 e3
  subst e1
  subst e3
  clear e2
  obtain ⟨pb, po, rfl, hXp, hall⟩ := hrow (by simp)
  obtain ⟨sv, p0, p1, p2, p3, p4, p5⟩ := hall 0 (by simp)
  simp only [List.getElem_cons_zero, Nat.zero_mul, Nat.add_zero] at p0 p1 p2 p3 p4 p5
  obtain ⟨sa, sc, rfl, _⟩ := LiesX.slice p4
  have hsl : LiesX X 16 w s.items (.slice sa s.items.length sc) := p4.atLeast 16 (by omega)
  have HT : Hid (Bx (op2 w t (.slice a t.items.length c)) w.heap.size t (.slice a t.items.length c)) := op2_fst _ _ _
  have HR : Hid (Bx (op2 w t (.slice a t.items.length c)) (w.heap.size + 1) zeroT (.slice none 0 0)) := op2_snd _ _ _
  have hb0 := op2_below w t (.slice a t.items.length c)
  obtain ⟨W0, hW0⟩ : ∃ W0, W0 = op2 w t (.slice a t.items.length c) := ⟨_, rfl⟩
  have HW0 : Hid (W0 = op2 w t (.slice a t.items.length c)) := hW0
  have hsz : W0.heap.size = w.heap.size + 2 := by rw [hW0]; unfold op2; simp
  rw [← hW0] at HT HR hb0
  clear hW0
  unfold op2 at HW0
  have p0 := cell_keeps hb0 p0; have p1 := cell_keeps hb0 p1; have p2 := cell_keeps hb0 p2; have p3 := cell_keeps hb0 p3
  obtain ⟨W1, hW1⟩ : ∃ W1, W1 = W0.alloc (.cells #[.int .i64 s.kind, .int .i64 s.num, .string s.text, .slice sa s.items.length sc] 24) := ⟨_, rfl⟩
  have hb01 : Below W0.heap.size W0 W1 := by rw [hW1]; exact ((Grew.refl W0).alloc _).below
  have hb1 : Below w.heap.size w W1 := hb0.trans (hb01.mono hb0.size)
  have HS1 : Hid (Bx W1 (w.heap.size + 2) s (.slice sa s.items.length sc)) := by
    rw [hW1, ← hsz]
    exact bx_alloc W0 s _
  have HT1 : Hid (Bx W1 w.heap.size t (.slice a t.items.length c)) := HT.out.keeps hb01
  have HR1 : Hid (Bx W1 (w.heap.size + 1) zeroT (.slice none 0 0)) := HR.out.keeps hb01
  have hsz1 : W1.heap.size = w.heap.size + 3 := by rw [hW1, World.size_alloc, hsz]
  have HW1 : Hid (W0.alloc (.cells #[.int .i64 s.kind, .int .i64 s.num, .string s.text, .slice sa s.items.length sc] 24) = W1) := hW1.symm
  clear hW1 hb01 HT HR hall hrow p4
  have HI : Hid (∀ W, Calls Try.prog 58 #[.agg #[.int .i64 t.kind, .int .i64 t.num, .string t.text, .slice a t.items.length c], .agg #[.int .i64 s.kind, .int .i64 s.num, .string s.text, .slice sa s.items.length sc]] W fun e w' => e = .returned (.tuple #[.int .i64 (if idxB t s = true then s.num else 0), .bool (idxB t s)]) ∧ Below W.heap.size W w') := fun W => rindex_any t s a sa c _ sc W
  have hI : idxB t s = false := by unfold idxB; rw [hk]; rfl
  have hK : keyB t s = true := by
    unfold plcB at hB
    rw [if_pos (.inr hk)] at hB
    unfold keyB
    rw [hk]
    simpa using hB
  obtain ⟨hJl, _, hpI⟩ := key_fact hK
  have HM : Hid (∀ W, Below w.heap.size w W → Calls Try.prog 59 #[.agg #[.int .i64 t.kind, .int .i64 t.num, .string t.text, .slice a t.items.length c], .agg #[.int .i64 s.kind, .int .i64 s.num, .string s.text, .slice sa s.items.length sc]] W fun e w' => e = .returned (.tuple #[.int .i64 (keyI t s : Nat), .bool (keyB t s)]) ∧ Below W.heap.size W w') := fun W hW => rkey_any t s a sa c sc W (Lies.keeps hW _ _ _ h.lies) (Lies.keeps hW _ _ _ hsl.lies) hr
  obtain ⟨F, hF⟩ : ∃ F, F = keyI t s := ⟨_, rfl⟩
  obtain ⟨m, hm⟩ : ∃ m, m = F + 2 := ⟨_, rfl⟩
  rw [hI] at HI
  simp only [Bool.false_eq_true, if_false] at HI
  rw [hK, ← hF] at HM
  rw [← hF] at hJl hpI
  have hFl : F ≤ t.items.length := by omega
  have hml : m ≤ t.items.length := by omega
  have hwm : IntKind.i64.wrap ((F : Int) + 2) = (m : Int) := by rw [IntKind.wrap_i64]; omega
  have hz : dropT t [s] = some ⟨6, 0, ⟨#[]⟩, t.items.take F ++ t.items.drop m⟩ := by
    show some (wotT t (plcI t s).toNat) = _
    obtain ⟨e1, e2⟩ := coll_bare hr (.inr (.inr hk))
    unfold wotT
    rw [hpI, if_pos hk, hk, e1, e2, hm, show F + 1 - 1 = F by omega]
  obtain ⟨b, o, rfl, hlc⟩ : ∃ b o, a = some ⟨b, o, none⟩ ∧ t.items.length ≤ c := by
    obtain ⟨a', c', hv', hb, hr'⟩ := h
    injection hv' with e1 _ e3
    obtain ⟨b, o, ha, _⟩ := hr' (fun e => by rw [e] at hJl; simp at hJl)
    exact ⟨b, o, by rw [e1, ha], by rw [e3]; exact hb.1⟩
  obtain ⟨cs1, cs2, hs1, hs2, hfin⟩ := cut_src X t.items b o c F m w h (by omega) hFl hml
  obtain ⟨Nn, hNn⟩ : ∃ Nn, Nn = F + (t.items.length - m) := ⟨_, rfl⟩
  have hcut : (t.items.take F ++ t.items.drop m).length = Nn := by rw [List.length_append, List.length_take, List.length_drop]; omega
  have hXX : Hid (∀ b, X b → b < w.heap.size) := hX
  have HFin : Hid (∀ (V W : World) (a6 : Option Addr) (c6 : Nat), Below w.heap.size w V → w.heap.size + 2 ≤ V.heap.size → Below V.heap.size V W → Bx W (w.heap.size + 1) zeroT (.slice none 0 0) → W.ownsRow V.heap.size 24 4 (.slice a6 Nn c6) Nn (cs1 ++ cs2) → RWotQ X t [s] w (.returned (.tuple #[.agg #[.int .i64 6, .int .i64 0, .string ⟨#[]⟩, .slice a6 Nn c6], .bool true])) (W.setCells (w.heap.size + 1) 0 (encP ((⟨6, 0, ⟨#[]⟩, []⟩ : VT), .slice a6 Nn c6)))) := fun V W a6 c6 h1 h2 h3 h4 h5 => by
    have hbw := h1.trans (h3.mono h1.size)
    have h9 := hfin W V.heap.size Nn _ hbw hNn h5
    refine ⟨⟨6, 0, ⟨#[]⟩, t.items.take F ++ t.items.drop m⟩, a6, c6, true, ?_, ?_, ?_, .inl ⟨rfl, hz⟩, below_put hbw (by omega) _⟩
    · show _ = Ending.returned (.tuple #[.agg #[.int .i64 6, .int .i64 0, .string ⟨#[]⟩, .slice a6 (t.items.take F ++ t.items.drop m).length c6], .bool true])
      rw [hcut]
    · show LiesX _ 16 _ (t.items.take F ++ t.items.drop m) (.slice a6 (t.items.take F ++ t.items.drop m).length c6)
      rw [hcut]
      refine LiesX.mono (fun q hq => hq.imp id (fun hq => by have := h1.size; omega)) (LiesX.set (g := w.heap.size + 1) (fun hq => ?_) h9)
      rcases hq with hq | hq
      · have := hX _ hq; omega
      · omega
    · show 0 ≤ _; omega
  have HA1 : Hid (∀ W, Below w.heap.size w W → SrcC W (some ⟨b, o, none⟩) F 4 cs1) := fun W hW => hs1.keeps hW
  have HA2 : Hid (∀ W o', Below w.heap.size w W → (m < t.items.length → o' = o + m * 4) → SrcC W (some ⟨b, o', none⟩) (t.items.length - m) 4 cs2) := fun W o' hW ho => (hs2 o' ho).keeps hW
  generalize RWotQ X t [s] w = PP at *
  have hL : ([s] : List VT).length = 1 := rfl
  rw [hL]
  obtain ⟨L, hLn⟩ : ∃ L, L = t.items.length := ⟨_, rfl⟩
  rw [← hLn] at hFl hml hlc HA2 hNn HI HT1 HW0 hlen ⊢
  rw [← hLn] at HM
  have hNs : Nn ≤ 1024 := by omega
  have hFc : (F : Int) ≤ (c : Int) := by omega
  have hmL : (m : Int) ≤ (L : Int) := by omega
  have hLc : (L : Int) ≤ (c : Int) := by omega
  have hmc : (m : Int) ≤ (c : Int) := by omega
  have hF0 : (F : Int) ≤ 1024 := by omega
  have HNn : Hid (F + (L - m) = Nn) := hNn.symm
  clear hfin hs1 hs2 hz hcut hX h hr hp hB hpI hJl hd hsl p5 hXp hpl hLn hNn hL hF hm hI hK
  rw [hk] at HI HW0 ⊢
  rw [hk] at HM
  obtain ⟨t0, t1, t2, t3, _, _, _, _⟩ := HT1.out
  rw [hk] at t0
  clear hk
  obtain ⟨s0, s1, s2, s3, _, _, _, _⟩ := HS1.out
  go_enter Try.func33, Try.ntmps33
  go_upto_region 1 with fail
  rw [← HW0.out]
  clear HW0
  go_upto_region 2 with fail
  rw [HW1.out]
  clear HW1 p0 p1 p2 p3
  go_wp2_with fail
  refine Calls.mono (HI.out _) ?_
  rintro e w1 ⟨rfl, hg1⟩
  have hb2 : Below w.heap.size w w1 := hb1.trans (hg1.mono hb1.size)
  have HT2 : Hid (Bx w1 w.heap.size t (.slice (some ⟨b, o, none⟩) L c)) := HT1.out.keeps hg1
  have HR2 : Hid (Bx w1 (w.heap.size + 1) zeroT (.slice none 0 0)) := HR1.out.keeps hg1
  have hsz2 : w.heap.size + 3 ≤ w1.heap.size := by have := hg1.size; omega
  replace t0 := cell_keeps hg1 t0; replace t1 := cell_keeps hg1 t1; replace t2 := cell_keeps hg1 t2; replace t3 := cell_keeps hg1 t3
  replace s0 := cell_keeps hg1 s0; replace s1 := cell_keeps hg1 s1; replace s2 := cell_keeps hg1 s2; replace s3 := cell_keeps hg1 s3
  clear hg1 hb1 hb0 HR1 HT1 HS1 HI hsz hsz1
  go_wp2_with fail
  refine Calls.mono (HM.out _ hb2) ?_
  rintro e Vx ⟨rfl, hg1⟩
  replace hb2 : Below w.heap.size w Vx := hb2.trans (hg1.mono hb2.size)
  replace HT2 : Hid (Bx Vx w.heap.size t (.slice (some ⟨b, o, none⟩) L c)) := HT2.out.keeps hg1
  replace HR2 : Hid (Bx Vx (w.heap.size + 1) zeroT (.slice none 0 0)) := HR2.out.keeps hg1
  replace hsz2 : w.heap.size + 3 ≤ Vx.heap.size := by have := hg1.size; omega
  replace t0 := cell_keeps hg1 t0; replace t1 := cell_keeps hg1 t1; replace t2 := cell_keeps hg1 t2; replace t3 := cell_keeps hg1 t3
  clear hg1 HM s0 s1 s2 s3
  have HbV : Hid (Below w.heap.size w Vx) := hb2
  have HsV : Hid (w.heap.size + 3 ≤ Vx.heap.size) := hsz2
  have HoA : Hid ((Vx.drew.alloc (.cells #[] 24)).ownsRow Vx.heap.size 24 4 (.slice (some ⟨Vx.heap.size, 0, none⟩) 0 0) 0 []) := World.ownsRow_lit Vx.drew #[] 0 (Nat.le_refl _) (by unfold maxLen; omega) rfl
  have HBA : Hid (Below Vx.heap.size Vx (Vx.drew.alloc (.cells #[] 24))) := ((Below.refl Vx.heap.size Vx).drew).alloc (Nat.le_refl _) _
  have HS1w : Hid (∀ W, Below Vx.heap.size Vx W → SrcC W (some ⟨b, o, none⟩) F 4 cs1) := fun W hW => HA1.out W (hb2.trans (hW.mono hb2.size))
  have HS2w : Hid (∀ W o', Below Vx.heap.size Vx W → (m < L → o' = o + m * 4) → SrcC W (some ⟨b, o', none⟩) (L - m) 4 cs2) := fun W o' hW ho => HA2.out W o' (hb2.trans (hW.mono hb2.size)) ho
  have HEnd : Hid (∀ W a6 c6, Below Vx.heap.size Vx W → W.ownsRow Vx.heap.size 24 4 (.slice a6 Nn c6) Nn (cs1 ++ cs2) → Hid (PP (.returned (.tuple #[.agg #[.int .i64 6, .int .i64 0, .string ⟨#[]⟩, .slice a6 Nn c6], .bool true])) (W.setCells (w.heap.size + 1) 0 (encP ((⟨6, 0, ⟨#[]⟩, []⟩ : VT), .slice a6 Nn c6)))) ∧ Hid (Bx W (w.heap.size + 1) zeroT (.slice none 0 0)) ∧ Hid (Bx (W.setCells (w.heap.size + 1) 0 (encP ((⟨6, 0, ⟨#[]⟩, []⟩ : VT), .slice a6 Nn c6))) (w.heap.size + 1) (⟨6, 0, ⟨#[]⟩, []⟩ : VT) (.slice a6 Nn c6))) := fun W a6 c6 h1 h2 =>
    ⟨HFin.out Vx W a6 c6 hb2 (by omega) h1 (HR2.out.keeps h1) h2, HR2.out.keeps h1, (HR2.out.keeps h1).put _⟩
  clear HFin HA1 HA2 hb2 hsz2
  go_upto_region 17 with fail
  have hnn : w.heap.size ≠ w.heap.size + 1 := by omega
  have HT0 : Hid (Vx.cell? ⟨w.heap.size, 0, none⟩ = some (.int .i64 6)) := t0
  have HT3 : Hid (Vx.cell? ⟨w.heap.size, 3, none⟩ = some (.slice (some ⟨b, o, none⟩) L c)) := t3
  by_cases hck : c = m
  · have HNK : Hid (¬ m < L) := by show ¬ _; omega
    subst hck
    have hz0 : L - c = 0 := by omega
    rw [hz0] at HS2w HNn
    clear hz0
    go_region_held3 (fun w' => w'.cell? ⟨w.heap.size, 0, none⟩ = some (.int .i64 6) ∧ w'.cell? ⟨w.heap.size, 3, none⟩ = some (.slice (some ⟨b, o, none⟩) L c)) (first | (go_keep; done) | (with_reducible exact ⟨set4_k26 hnn t0, set4_k26 hnn t3⟩))
      (first
        | (refine stepC_append rfl (.tmp 73) (.tmp 77) rfl (base := Vx.heap.size) (n := 0) (xs := []) rfl HoA.out rfl (HS1w.out _ HBA.out) (by omega) (HBA.out.size) F (Nat.zero_add _) cs1 rfl ?_; intro a5 c5 w5 hown5 hg5; have hb5 : Below Vx.heap.size Vx w5 := own_growM (M := Vx.heap.size) HBA.out HBA.out.size HoA.out hg5; have HOw : Hid (w5.ownsRow Vx.heap.size 24 4 (.slice a5 F c5) F cs1) := hown5; have t0 := cell_keeps hb5 t0; have t3 := cell_keeps hb5 t3; clear hown5 hg5)
        | ((refine stepC_append rfl (.tmp 78) (.tmp 84) rfl (base := Vx.heap.size) (n := F) (xs := cs1) rfl HOw.out rfl (HS2w.out _ o hb5 (fun h => absurd h HNK.out)) (by omega) hb5.size Nn HNn.out (cs1 ++ cs2) rfl ?_); intro a6 c6 w6 hown6 hg6; have hb6 : Below Vx.heap.size Vx w6 := own_growM (M := Vx.heap.size) hb5 hb5.size HOw.out hg6; obtain ⟨HP6, HR6, Hq⟩ := HEnd.out w6 a6 c6 hb6 hown6; obtain ⟨z0, z1, z2, z3, g0, g1, g2, g3⟩ := HR6.out; have t0 := cell_keeps hb6 HT0.out; have t3 := cell_keeps hb6 HT3.out; clear hown6 hg6))
    all_goals clear t0 t3
    all_goals go_wp2_with fail
    all_goals refine bodyPost_ret (v := .tuple #[.agg #[.int .i64 6, .int .i64 0, .string ⟨#[]⟩, .slice a6 Nn c6], .bool true]) ?_ rfl HP6.out
    all_goals obtain ⟨q0, q1, q2, q3, _, _, _, _⟩ := Hq.out
    all_goals simp only [World.setCells, encP, Nat.zero_add, Nat.reduceAdd] at q0 q1 q2 q3
    all_goals simp [results, Try.results33, go_sem, q0, q1, q2, q3]
  · have h5c : ¬ ((c : Nat) : Int) = (m : Nat) := by omega
    go_region_held3 (fun w' => w'.cell? ⟨w.heap.size, 0, none⟩ = some (.int .i64 6) ∧ w'.cell? ⟨w.heap.size, 3, none⟩ = some (.slice (some ⟨b, o, none⟩) L c)) (first | (go_keep; done) | (with_reducible exact ⟨set4_k26 hnn t0, set4_k26 hnn t3⟩))
      (first
        | (refine stepC_append rfl (.tmp 73) (.tmp 77) rfl (base := Vx.heap.size) (n := 0) (xs := []) rfl HoA.out rfl (HS1w.out _ HBA.out) (by omega) (HBA.out.size) F (Nat.zero_add _) cs1 rfl ?_; intro a5 c5 w5 hown5 hg5; have hb5 : Below Vx.heap.size Vx w5 := own_growM (M := Vx.heap.size) HBA.out HBA.out.size HoA.out hg5; have HOw : Hid (w5.ownsRow Vx.heap.size 24 4 (.slice a5 F c5) F cs1) := hown5; have t0 := cell_keeps hb5 t0; have t3 := cell_keeps hb5 t3; clear hown5 hg5)
        | ((refine stepC_append rfl (.tmp 78) (.tmp 84) rfl (base := Vx.heap.size) (n := F) (xs := cs1) rfl HOw.out rfl (HS2w.out _ (o + m * 4) hb5 (fun _ => rfl)) (by omega) hb5.size Nn HNn.out (cs1 ++ cs2) rfl ?_); intro a6 c6 w6 hown6 hg6; have hb6 : Below Vx.heap.size Vx w6 := own_growM (M := Vx.heap.size) hb5 hb5.size HOw.out hg6; obtain ⟨HP6, HR6, Hq⟩ := HEnd.out w6 a6 c6 hb6 hown6; obtain ⟨z0, z1, z2, z3, g0, g1, g2, g3⟩ := HR6.out; have t0 := cell_keeps hb6 HT0.out; have t3 := cell_keeps hb6 HT3.out; clear hown6 hg6))
    all_goals clear t0 t3
    all_goals go_wp2_with fail
    all_goals refine bodyPost_ret (v := .tuple #[.agg #[.int .i64 6, .int .i64 0, .string ⟨#[]⟩, .slice a6 Nn c6], .bool true]) ?_ rfl HP6.out
    all_goals obtain ⟨q0, q1, q2, q3, _, _, _, _⟩ := Hq.out
    all_goals simp only [World.setCells, encP, Nat.zero_add, Nat.reduceAdd] at q0 q1 q2 q3
    all_goals simp [results, Try.results33, go_sem, q0, q1, q2, q3]

end Go.Proofs.Ytofceccicmlmoaa

