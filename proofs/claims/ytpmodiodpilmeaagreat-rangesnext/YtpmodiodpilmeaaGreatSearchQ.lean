/-
  natural, and the search for a key among pairs.
-/
import Derived.Test.YtpmodiodpilmeaaGreatMapM
import Derived.Test.YtpmodiodpilmeaaGreatSrch
namespace Go.Proofs.YtpmodiodpilmeaaGreat
open Go.RowKit Go.Shelf

theorem LiesB.put8 {W : World} {base n : Nat} (hn : n < base) (vs : List Value) {d : Nat} {l : List VT} {v : Value} (h : LiesB base d W l v) : LiesB base d (W.setCells n 0 vs) l v :=
  LiesB.stays (fun _ _ ha hu => ⟨cell_other (g := n) (fun e => by omega) hu, by rw [World.frozen?_setCells]⟩) _ _ _ h

theorem LiesB.keepsB {W W' : World} {base : Nat} (hb : Below W.heap.size W W') {d : Nat} {l : List VT} {v : Value} (h : LiesB base d W l v) : LiesB base d W' l v :=
  LiesB.stays (fun _ _ _ hu => ⟨cell_keeps hb hu, hb.frozen (cell_lt hu)⟩) _ _ _ h

theorem LiesB.lower14 {W : World} {b b' : Nat} (hb : b' ≤ b) : ∀ (d : Nat) (l : List VT) (v : Value), LiesB b d W l v → LiesB b' d W l v
  | 0, _, _, h => h
  | d + 1, l, v, h => by
    obtain ⟨a, c, hv, hc, h1⟩ := h
    refine ⟨a, c, hv, hc, fun hne => ?_⟩
    obtain ⟨g, o, ha, hg, hf, h2⟩ := h1 hne
    refine ⟨g, o, ha, by omega, hf, fun i hi => ?_⟩
    obtain ⟨u, c0, c1, c2, c3, h3, h4⟩ := h2 i hi
    exact ⟨u, c0, c1, c2, c3, LiesB.lower14 hb d _ _ h3, h4⟩

/-- What copied tells. -/
def CopiedPost (x : PT) (w : World) (e : Ending) (w' : World) : Prop := ∃ ku vu, e = .returned (.agg #[.int .i64 x.1.kind, .int .i64 x.1.num, .string x.1.text, ku, .int .i64 x.2.kind, .int .i64 x.2.num, .string x.2.text, vu]) ∧ LiesB w.heap.size 16 w' x.1.items ku ∧ LiesB w.heap.size 16 w' x.2.items vu ∧ Below w.heap.size w w'

set_option maxRecDepth 100000 in
set_option maxHeartbeats 8000000 in
theorem copied_14 (x : PT) (ku vu : Value) (w : World) (hk : Lies 16 w x.1.items ku) (hv : Lies 16 w x.2.items vu) (hr : rightV 16 x.1 = true ∧ rightV 16 x.2 = true) : Calls Tryz.prog 59 #[.agg #[.int .i64 x.1.kind, .int .i64 x.1.num, .string x.1.text, ku, .int .i64 x.2.kind, .int .i64 x.2.num, .string x.2.text, vu]] w (CopiedPost x w) := by
  obtain ⟨ak, ck, rfl, _⟩ := Lies.slice hk
  obtain ⟨av, cv, rfl, _⟩ := Lies.slice hv
  have HK : Hid (∀ V, Below w.heap.size w V → Calls Tryz.prog 47 #[.agg #[.int .i64 x.1.kind, .int .i64 x.1.num, .string x.1.text, .slice ak x.1.items.length ck]] V (CopyPost 16 x.1 V)) := fun V hV => copy_right x.1 _ V (Lies.keeps hV _ _ _ hk) hr.1
  have HV : Hid (∀ V, Below w.heap.size w V → Calls Tryz.prog 47 #[.agg #[.int .i64 x.2.kind, .int .i64 x.2.num, .string x.2.text, .slice av x.2.items.length cv]] V (CopyPost 16 x.2 V)) := fun V hV => copy_right x.2 _ V (Lies.keeps hV _ _ _ hv) hr.2
  clear hk hv hr
  go_enter Tryz.func59, Tryz.ntmps59
  go_wp2_with fail
  obtain ⟨W0, hW0⟩ : ∃ W0, W0 = (w.alloc (.cells #[.int .i64 x.1.kind, .int .i64 x.1.num, .string x.1.text, .slice ak x.1.items.length ck, .int .i64 x.2.kind, .int .i64 x.2.num, .string x.2.text, .slice av x.2.items.length cv] 33)).alloc (.cells #[.int .i64 0, .int .i64 0, .string ⟨#[]⟩, .slice none 0 0, .int .i64 0, .int .i64 0, .string ⟨#[]⟩, .slice none 0 0] 33) := ⟨_, rfl⟩
  rw [← hW0]
  have hb0 : Below w.heap.size w W0 := by rw [hW0]; exact (((Grew.refl w).alloc _).alloc _).below
  have hs0 : W0.heap.size = w.heap.size + 1 + 1 := by rw [hW0]; simp
  have HX0 : Hid (Bx8 W0 w.heap.size (.int .i64 x.1.kind) (.int .i64 x.1.num) (.string x.1.text) (.slice ak x.1.items.length ck) (.int .i64 x.2.kind) (.int .i64 x.2.num) (.string x.2.text) (.slice av x.2.items.length cv)) := by
    rw [hW0]; exact (bx8_alloc w _ _ _ _ _ _ _ _ _).keeps ((Grew.refl _).alloc _).below
  have HZ0 : Hid (Bx8 W0 (w.heap.size + 1) (.int .i64 0) (.int .i64 0) (.string ⟨#[]⟩) (.slice none 0 0) (.int .i64 0) (.int .i64 0) (.string ⟨#[]⟩) (.slice none 0 0)) := by
    rw [hW0]
    have h9 := bx8_alloc (w.alloc (.cells #[.int .i64 x.1.kind, .int .i64 x.1.num, .string x.1.text, .slice ak x.1.items.length ck, .int .i64 x.2.kind, .int .i64 x.2.num, .string x.2.text, .slice av x.2.items.length cv] 33)) 33 (.int .i64 0) (.int .i64 0) (.string ⟨#[]⟩) (.slice none 0 0) (.int .i64 0) (.int .i64 0) (.string ⟨#[]⟩) (.slice none 0 0)
    rwa [World.size_alloc] at h9
  obtain ⟨x0, x1, x2, x3, x4, x5, x6, x7, _⟩ := HX0.out
  have HS0 : Hid (W0.heap.size = w.heap.size + 1 + 1) := hs0
  clear hW0 hs0
  have hbc : Below W0.heap.size W0 W0.drew := (Below.refl _ _).drew
  have hn1 : w.heap.size ≠ w.heap.size + 1 := by omega
  go_region_held3 (fun w' => w'.cell? ⟨w.heap.size, 0, none⟩ = some (.int .i64 x.1.kind) ∧ w'.cell? ⟨w.heap.size, 1, none⟩ = some (.int .i64 x.1.num) ∧ w'.cell? ⟨w.heap.size, 2, none⟩ = some (.string x.1.text) ∧ w'.cell? ⟨w.heap.size, 3, none⟩ = some ((.slice ak x.1.items.length ck)) ∧ w'.cell? ⟨w.heap.size, 4, none⟩ = some (.int .i64 x.2.kind) ∧ w'.cell? ⟨w.heap.size, 5, none⟩ = some (.int .i64 x.2.num) ∧ w'.cell? ⟨w.heap.size, 6, none⟩ = some (.string x.2.text) ∧ w'.cell? ⟨w.heap.size, 7, none⟩ = some ((.slice av x.2.items.length cv))) (first | go_keep | exact ⟨set8_keep hn1 x0, set8_keep hn1 x1, set8_keep hn1 x2, set8_keep hn1 x3, set8_keep hn1 x4, set8_keep hn1 x5, set8_keep hn1 x6, set8_keep hn1 x7⟩)
    (first
      | (go_at_call 47; (with_reducible refine Calls.mono (HK.out _ (hb0.trans (hbc.mono hb0.size))) ?_); rintro e w5 ⟨v5, rfl, hl5, hg⟩; obtain ⟨a5, c5, rfl, _⟩ := LiesB.slice hl5; have HL5 : Hid (LiesB (w.heap.size + 1 + 1) 16 w5 x.1.items (.slice a5 x.1.items.length c5)) := LiesB.lower14 (by have := hbc.size; have := HS0.out; omega) _ _ _ hl5; replace hbc := hbc.trans (hg.mono hbc.size); have x0 := cell_keeps hg x0; have x1 := cell_keeps hg x1; have x2 := cell_keeps hg x2; have x3 := cell_keeps hg x3; have x4 := cell_keeps hg x4; have x5 := cell_keeps hg x5; have x6 := cell_keeps hg x6; have x7 := cell_keeps hg x7; clear hg hl5)
      | (go_at_call 47; (with_reducible refine Calls.mono (HV.out _ (hb0.trans (hbc.mono hb0.size))) ?_); rintro e w6 ⟨v6, rfl, hl6, hg⟩; obtain ⟨a6, c6, rfl, _⟩ := LiesB.slice hl6; have HL6 : Hid (LiesB (w.heap.size + 1 + 1) 16 w6 x.2.items (.slice a6 x.2.items.length c6)) := LiesB.lower14 (by have := hbc.size; have := HS0.out; omega) _ _ _ hl6; have HL5 : Hid (LiesB (w.heap.size + 1 + 1) 16 w6 x.1.items _) := LiesB.keepsB hg HL5.out; replace hbc := hbc.trans (hg.mono hbc.size); have x0 := cell_keeps hg x0; have x1 := cell_keeps hg x1; have x2 := cell_keeps hg x2; have x3 := cell_keeps hg x3; have x4 := cell_keeps hg x4; have x5 := cell_keeps hg x5; have x6 := cell_keeps hg x6; have x7 := cell_keeps hg x7; have HZ6 : Hid (Bx8 w6 (w.heap.size + 1) (.int .i64 0) (.int .i64 0) (.string ⟨#[]⟩) (.slice none 0 0) (.int .i64 0) (.int .i64 0) (.string ⟨#[]⟩) (.slice none 0 0)) := HZ0.out.keeps hbc; obtain ⟨y0, y1, y2, y3, y4, y5, y6, y7, f0, f1, f2, f3, f4, f5, f6, f7, _⟩ := HZ6.out; clear hg hl6))
  have Hq : Hid _ := put8_in HZ6.out (.int .i64 x.1.kind) (.int .i64 x.1.num) (.string x.1.text) (.slice a5 x.1.items.length c5) (.int .i64 x.2.kind) (.int .i64 x.2.num) (.string x.2.text) (.slice a6 x.2.items.length c6)
  have hbz : Below w.heap.size w w6 := hb0.trans (hbc.mono hb0.size)
  have HE : Hid (CopiedPost x w (.returned (.agg #[.int .i64 x.1.kind, .int .i64 x.1.num, .string x.1.text, .slice a5 x.1.items.length c5, .int .i64 x.2.kind, .int .i64 x.2.num, .string x.2.text, .slice a6 x.2.items.length c6])) (w6.setCells (w.heap.size + 1) 0 [.int .i64 x.1.kind, .int .i64 x.1.num, .string x.1.text, .slice a5 x.1.items.length c5, .int .i64 x.2.kind, .int .i64 x.2.num, .string x.2.text, .slice a6 x.2.items.length c6])) := ⟨_, _, rfl, LiesB.lower14 (by omega) _ _ _ (LiesB.put8 (by omega) _ HL5.out), LiesB.lower14 (by omega) _ _ _ (LiesB.put8 (by omega) _ HL6.out), below_put8 hbz (by omega) _ _ _ _ _ _ _ _⟩
  go_wp2_with fail
  refine bodyPost_ret (v := .agg #[.int .i64 x.1.kind, .int .i64 x.1.num, .string x.1.text, .slice a5 x.1.items.length c5, .int .i64 x.2.kind, .int .i64 x.2.num, .string x.2.text, .slice a6 x.2.items.length c6]) ?_ rfl HE.out
  obtain ⟨q0, q1, q2, q3, q4, q5, q6, q7⟩ := Hq.out
  simp only [World.setCells, Nat.zero_add, Nat.reduceAdd] at q0 q1 q2 q3 q4 q5 q6 q7
  simp [results, Tryz.results59, go_sem, q0, q1, q2, q3, q4, q5, q6, q7]

end Go.Proofs.YtpmodiodpilmeaaGreat

namespace Go.Proofs.YtpmodiodpilmeaaGreat
open Go.RowKit Go.Shelf

/-- make of n pairs. -/
theorem make_pairs (n : Nat) (hn : n ≤ 65536) : ∃ M : Array Value, M.size = n * 8 ∧ ∀ W : World, (Instr.makeSlice 22 (.int .i64 (n : Int)) (.int .i64 (n : Int))).run Tryz.prog W = .ok (.slice (some ⟨W.heap.size, 0, none⟩) n n) (W.alloc (.cells M 33)) := by
  obtain ⟨i0, hi, hz0, hz1, hz2⟩ := infoQ
  refine ⟨madeCells (Value.agg #[.int .i64 0, .int .i64 0, .string ⟨#[]⟩, .slice none 0 0, .int .i64 0, .int .i64 0, .string ⟨#[]⟩, .slice none 0 0]).cells (((n : Nat) : Int).toNat * i0.size), ?_, fun W => ?_⟩
  · rw [size_madeCells, hz1]; simp
  · have h := run_make (P := Tryz.prog) W 22 33 i0 _ Tryz.underlying22 hi hz0 .i64 .i64 (n : Int) (n : Int) (by omega) (by omega) (by rw [hz2]; omega) (by omega)
    simpa using h

/-- A pair whose lists lie in new blocks. -/
def NewQ (base : Nat) (w : World) (p : PP) : Prop := (LiesB base 16 w p.1.1.items p.1.2 ∧ p.1.1.text.size ≤ 9223372036854775807) ∧ (LiesB base 16 w p.2.1.items p.2.2 ∧ p.2.1.text.size ≤ 9223372036854775807)

theorem NewQ.keeps {base : Nat} {w w' : World} {p : PP} (h : NewQ base w p) (hb : Below w.heap.size w w') : NewQ base w' p := ⟨⟨LiesB.keepsB hb h.1.1, h.1.2⟩, ⟨LiesB.keepsB hb h.2.1, h.2.2⟩⟩
theorem NewQ.good {base : Nat} {w : World} {p : PP} (h : NewQ base w p) : GoodQ 16 w p := ⟨⟨LiesB.lies _ _ _ h.1.1, h.1.2⟩, ⟨LiesB.lies _ _ _ h.2.1, h.2.2⟩⟩
theorem NewQ.lower {base b' : Nat} {w : World} {p : PP} (h : NewQ base w p) (hb : b' ≤ base) : NewQ b' w p := ⟨⟨LiesB.lower14 hb _ _ _ h.1.1, h.1.2⟩, ⟨LiesB.lower14 hb _ _ _ h.2.1, h.2.2⟩⟩

/-- The pairs so far in block G, the rest of it there to be written. -/
structure CpQ (G n : Nat) (wr : World) (ps : List PP) : Prop where
  row : QAt wr G 0 ps
  lists : ∀ p ∈ ps, NewQ (G + 1) wr p
  there : ∀ k, k < n * 8 → (wr.cell? ⟨G, k, none⟩).isSome ∧ wr.frozen? ⟨G, k, none⟩ = false
  lt : G < wr.heap.size

theorem CpQ.keeps {G n : Nat} {wr wr' : World} {ps : List PP} (h : CpQ G n wr ps) (hb : Below wr.heap.size wr wr') : CpQ G n wr' ps :=
  ⟨h.row.keeps hb, fun p hp => (h.lists p hp).keeps hb, fun k hk => by
    obtain ⟨v, hv⟩ := Option.isSome_iff_exists.1 (h.there k hk).1
    exact ⟨by rw [cell_keeps hb hv]; rfl, (hb.frozen (p := ⟨G, k, none⟩) h.lt).trans (h.there k hk).2⟩, Nat.lt_of_lt_of_le h.lt hb.size⟩

theorem CpQ.put {G n : Nat} {wr : World} {ps : List PP} (h : CpQ G n wr ps) (p : PP) (hp : NewQ (G + 1) wr p) (hl : ps.length < n) : CpQ G n (wr.setCells G (ps.length * 8) (encQ p)) (ps ++ [p]) := by
  have hlen : (encQ p).length = 8 := encQ_len p
  have hin := World.cell?_setCells_in G (encQ p) (ps.length * 8) wr (fun j hj => by
    obtain ⟨v, hv⟩ := Option.isSome_iff_exists.1 (h.there (ps.length * 8 + j) (by omega)).1
    rw [hv]; rfl)
  have hnew : ∀ q, NewQ (G + 1) wr q → NewQ (G + 1) (wr.setCells G (ps.length * 8) (encQ p)) q := fun q hq => ⟨⟨LiesB.stays (fun a u ha hu => ⟨cell_other (g := G) (fun e => by omega) hu, by rw [World.frozen?_setCells]⟩) _ _ _ hq.1.1, hq.1.2⟩, ⟨LiesB.stays (fun a u ha hu => ⟨cell_other (g := G) (fun e => by omega) hu, by rw [World.frozen?_setCells]⟩) _ _ _ hq.2.1, hq.2.2⟩⟩
  refine ⟨fun j u hj => ?_, fun q hq => ?_, fun k hk => ⟨?_, by rw [World.frozen?_setCells]; exact (h.there k hk).2⟩, by rw [size_setCells]; exact h.lt⟩
  · rw [List.flatMap_append] at hj
    by_cases hlt : j < (ps.flatMap encQ).length
    · rw [List.getElem?_append_left hlt] at hj
      rw [flat_lenQ] at hlt
      rw [World.cell?_setCells_out G (encQ p) (ps.length * 8) wr ⟨G, 0 + j, none⟩ (fun _ _ => by simp only; omega)]
      exact h.row j u hj
    · rw [List.getElem?_append_right (by omega), flat_lenQ] at hj
      rw [flat_lenQ] at hlt
      have e : [p].flatMap encQ = encQ p := by simp
      rw [e] at hj
      obtain ⟨hl2, he⟩ := List.getElem?_eq_some_iff.1 hj
      have h9 := hin (j - ps.length * 8) hl2
      have e2 : ps.length * 8 + (j - ps.length * 8) = 0 + j := by omega
      rw [e2, he] at h9
      exact h9
  · rcases List.mem_append.1 hq with hq | hq
    · exact hnew q (h.lists q hq)
    · rw [List.mem_singleton.1 hq]; exact hnew p hp
  · by_cases hr : ps.length * 8 ≤ k ∧ k < ps.length * 8 + 8
    · have h9 := hin (k - ps.length * 8) (by omega)
      have e2 : ps.length * 8 + (k - ps.length * 8) = k := by omega
      rw [e2] at h9
      rw [h9]; rfl
    · rw [World.cell?_setCells_out G (encQ p) (ps.length * 8) wr ⟨G, k, none⟩ (fun _ _ => by simp only; omega)]
      exact (h.there k hk).1

/-- What copies tells: new memory throughout. -/
def CopiesPost (l : List PT) (w : World) (e : Ending) (w' : World) : Prop := ∃ v qs, e = .returned v ∧ qs.map trT = l ∧ SlQ w.heap.size 16 w' qs v ∧ (∀ p ∈ qs, NewQ w.heap.size w' p) ∧ Below w.heap.size w w'

set_option maxRecDepth 100000 in
set_option maxHeartbeats 8000000 in
theorem copies_14 (qs : List PP) (v : Value) (w : World) (hv : SlQ 0 16 w qs v) (hlen : qs.length ≤ 65536) (hr : ∀ p ∈ qs, rightV 16 p.1.1 = true ∧ rightV 16 p.2.1 = true) :
    Calls Tryz.prog 34 #[v] w (CopiesPost (qs.map trT) w) := by
  have HS : Hid (SlQ 0 16 w qs v) := hv
  obtain ⟨a0, c0, rfl, _⟩ := hv.slice
  have HR : Hid _ := hr
  obtain ⟨M, hMs, hmk⟩ := make_pairs qs.length hlen
  have HMs : Hid (M.size = qs.length * 8) := hMs
  obtain ⟨n, hn⟩ : ∃ n, n = qs.length := ⟨_, rfl⟩
  have HN : Hid (n = qs.length) := hn
  rw [← hn] at hmk hlen HMs ⊢
  clear hMs hv hr hn
  go_enter Tryz.func34, Tryz.ntmps34
  go_wp2_with fail
  go_loopg [11] n (fun q i wr => ∃ (j : Nat) (ps : List PP), i = .int .i64 (j : Int) ∧ j ≤ n ∧ q = n - j ∧ Hid (ps.length = j ∧ ps.map trT = (qs.take j).map trT) ∧ Hid (CpQ w.heap.size n wr ps) ∧ Hid (Below w.heap.size w wr))
  case atStart =>
    refine ⟨0, [], rfl, by omega, by omega, ⟨rfl, rfl⟩, ⟨QAt.nil _ _ _, (fun p hp => by cases hp), (fun k hk => ?_), (by simp)⟩, (Below.refl _ _).alloc (Nat.le_refl _) _⟩
    have hk' : k < M.size := by rw [HMs.out]; exact hk
    simp [hk']
  case round =>
    obtain ⟨j, ps, rfl, hj, hk, Hps, HC, HB⟩ := hrel
    have Hk : Hid _ := hk
    clear hk hmk
    have hbw := HB.out
    by_cases hlt : j < n
    · have hlt' : j < qs.length := by have := HN.out; omega
      obtain ⟨b1, o1, c1', hv1, _, hq, hgq⟩ := HS.out.full (fun e => by rw [e] at hlt'; cases hlt')
      have ha1 : a0 = some ⟨b1, o1, none⟩ := by injection hv1
      subst ha1
      have Ex := hq.at j hlt'
      have gx := hgq qs[j] (List.getElem_mem hlt')
      have rx := HR.out qs[j] (List.getElem_mem hlt')
      have Htk : Hid ((qs.take (j + 1)).map trT = (qs.take j).map trT ++ [trT qs[j]]) := by
        show _ = _
        rw [List.take_succ_eq_append_getElem hlt', List.map_append]; rfl
      generalize qs[j] = x at *
      obtain ⟨⟨t1, u1⟩, ⟨t2, u2⟩⟩ := x
      obtain ⟨a1, c1, hu1, _⟩ := Lies.slice gx.1.1
      obtain ⟨a2, c2, hu2, _⟩ := Lies.slice gx.2.1
      simp only at hu1 hu2
      subst hu1 hu2
      obtain ⟨p0, p1, p2, p3, p4, p5, p6, p7⟩ := Ex.keeps hbw
      simp only at p0 p1 p2 p3 p4 p5 p6 p7
      have hl1 : b1 < wr.heap.size := cell_lt p0
      have hws2 : w.heap.size ≤ wr.heap.size := hbw.size
      have hG := HC.out.lt
      have hbA : ∀ o, Below w.heap.size w (wr.alloc o) := fun o => hbw.alloc hws2 o
      have HCp : Hid (∀ o, Calls Tryz.prog 59 #[.agg #[.int .i64 t1.kind, .int .i64 t1.num, .string t1.text, (.slice a1 t1.items.length c1), .int .i64 t2.kind, .int .i64 t2.num, .string t2.text, (.slice a2 t2.items.length c2)]] (wr.alloc o) (CopiedPost (t1, t2) (wr.alloc o))) := fun o => copied_14 (t1, t2) _ _ (wr.alloc o) (Lies.keeps (hbA o) _ _ _ gx.1.1) (Lies.keeps (hbA o) _ _ _ gx.2.1) rx
      have HTx : Hid (t1.text.size ≤ 9223372036854775807 ∧ t2.text.size ≤ 9223372036854775807) := ⟨gx.1.2, gx.2.2⟩
      have HBA : Hid _ := hbA
      have hji : (j : Int) < (n : Nat) := by omega
      clear gx rx Ex hq hgq hv1 hbA
      go_wp2_with fail
      refine Calls.mono (HCp.out _) ?_
      rintro e w1 ⟨k5, v5, rfl, hl1', hl2', hg⟩
      obtain ⟨b1', d1, rfl, _⟩ := LiesB.slice hl1'
      obtain ⟨b2', d2, rfl, _⟩ := LiesB.slice hl2'
      have hb2 : Below w.heap.size w w1 := (HBA.out _).trans (hg.mono (HBA.out _).size)
      have HC1 : Hid (CpQ w.heap.size n w1 ps) := (HC.out.keeps ((Below.refl _ _).alloc (Nat.le_refl _) _)).keeps hg
      have hpl := Hps.out.1
      have HNw : Hid (NewQ (w.heap.size + 1) w1 ((t1, .slice b1' t1.items.length d1), (t2, .slice b2' t2.items.length d2))) := ⟨⟨LiesB.lower14 (by simp; omega) _ _ _ hl1', HTx.out.1⟩, ⟨LiesB.lower14 (by simp; omega) _ _ _ hl2', HTx.out.2⟩⟩
      have hput := HC1.out.put _ HNw.out (by omega)
      rw [hpl] at hput
      have Hput : Hid _ := hput
      clear hg p0 p1 p2 p3 p4 p5 p6 p7 hl1' hl2' HC HCp hput
      obtain ⟨y0, s0⟩ := Option.isSome_iff_exists.1 (HC1.out.there (j * 8) (by omega)).1
      obtain ⟨y1, s1⟩ := Option.isSome_iff_exists.1 (HC1.out.there (j * 8 + 1) (by omega)).1
      obtain ⟨y2, s2⟩ := Option.isSome_iff_exists.1 (HC1.out.there (j * 8 + 2) (by omega)).1
      obtain ⟨y3, s3⟩ := Option.isSome_iff_exists.1 (HC1.out.there (j * 8 + 3) (by omega)).1
      obtain ⟨y4, s4⟩ := Option.isSome_iff_exists.1 (HC1.out.there (j * 8 + 4) (by omega)).1
      obtain ⟨y5, s5⟩ := Option.isSome_iff_exists.1 (HC1.out.there (j * 8 + 5) (by omega)).1
      obtain ⟨y6, s6⟩ := Option.isSome_iff_exists.1 (HC1.out.there (j * 8 + 6) (by omega)).1
      obtain ⟨y7, s7⟩ := Option.isSome_iff_exists.1 (HC1.out.there (j * 8 + 7) (by omega)).1
      have z0 := (HC1.out.there (j * 8) (by omega)).2
      have z1 := (HC1.out.there (j * 8 + 1) (by omega)).2
      have z2 := (HC1.out.there (j * 8 + 2) (by omega)).2
      have z3 := (HC1.out.there (j * 8 + 3) (by omega)).2
      have z4 := (HC1.out.there (j * 8 + 4) (by omega)).2
      have z5 := (HC1.out.there (j * 8 + 5) (by omega)).2
      have z6 := (HC1.out.there (j * 8 + 6) (by omega)).2
      have z7 := (HC1.out.there (j * 8 + 7) (by omega)).2
      have HB2 : Hid (Below w.heap.size w (w1.setCells w.heap.size (j * 8) (encQ ((t1, .slice b1' t1.items.length d1), (t2, .slice b2' t2.items.length d2))))) :=
        (((((((hb2.setCell (p := ⟨w.heap.size, j * 8, none⟩) (Nat.le_refl _) _).setCell (p := ⟨w.heap.size, j * 8 + 1, none⟩) (Nat.le_refl _) _).setCell (p := ⟨w.heap.size, j * 8 + 1 + 1, none⟩) (Nat.le_refl _) _).setCell (p := ⟨w.heap.size, j * 8 + 1 + 1 + 1, none⟩) (Nat.le_refl _) _).setCell (p := ⟨w.heap.size, j * 8 + 1 + 1 + 1 + 1, none⟩) (Nat.le_refl _) _).setCell (p := ⟨w.heap.size, j * 8 + 1 + 1 + 1 + 1 + 1, none⟩) (Nat.le_refl _) _).setCell (p := ⟨w.heap.size, j * 8 + 1 + 1 + 1 + 1 + 1 + 1, none⟩) (Nat.le_refl _) _).setCell (p := ⟨w.heap.size, j * 8 + 1 + 1 + 1 + 1 + 1 + 1 + 1, none⟩) (Nat.le_refl _) _
      have Hp2 : Hid ((ps ++ [((t1, Value.slice b1' t1.items.length d1), (t2, Value.slice b2' t2.items.length d2))]).length = j + 1 ∧ (ps ++ [((t1, Value.slice b1' t1.items.length d1), (t2, Value.slice b2' t2.items.length d2))]).map trT = (qs.take (j + 1)).map trT) := by
        refine ⟨by simp [hpl], ?_⟩
        rw [List.map_append, Hps.out.2, Htk.out]; rfl
      clear hpl
      go_wp2_with fail
      go_roundg (n - (j + 1))
      case measure => have := Hk.out; omega
      case rel => exact ⟨j + 1, _, by go_num, by omega, rfl, Hp2, Hput, HB2⟩
    · have hjl : j = n := by omega
      have HE : Hid (CopiesPost (qs.map trT) w (.returned (.slice (some ⟨w.heap.size, 0, none⟩) n n)) wr) := by
        refine ⟨_, ps, rfl, ?_, ⟨_, n, by rw [Hps.out.1, hjl], by rw [Hps.out.1, hjl]; exact Nat.le_refl _, by rw [Hps.out.1]; omega, fun _ => ⟨w.heap.size, 0, rfl, Nat.le_refl _, HC.out.row⟩, fun p hp => (HC.out.lists p hp).good⟩, fun p hp => (HC.out.lists p hp).lower (by omega), hbw⟩
        rw [Hps.out.2, hjl, HN.out, List.take_length]
      have hji : ¬ (j : Int) < (n : Nat) := by omega
      go_wp2_with fail
      go_ret
      exact HE.out

end Go.Proofs.YtpmodiodpilmeaaGreat

namespace Go.Proofs.YtpmodiodpilmeaaGreat
open Go.RowKit Go.Shelf

theorem byK_cmp (q : Nat) : RT.Cmp (byK q) := by
  refine ⟨fun a b => ?_, fun a b c h1 h2 => ?_⟩
  · have := ordV_turn q a.1 b.1
    show ordV q a.1 b.1 < 0 ↔ 0 < ordV q b.1 a.1
    omega
  · have h1' : ordV q a.1 b.1 ≤ 0 := h1
    have h2' : ordV q b.1 c.1 < 0 := h2
    obtain ⟨h3, h4⟩ := ordV_goes q a.1 b.1 c.1 h1' (by omega)
    show ordV q a.1 c.1 < 0
    by_cases h0 : ordV q a.1 c.1 = 0
    · have := (h4 h0).2
      omega
    · omega

theorem eg_at1 : ∀ args w, (callFunc 102 args).run Tryz.prog w = .ok (.enter 102 args) w := enters_of Tryz.func102 (by kernel_rfl) rfl

/-- Where a key stands to a pair. -/
abbrev atK (q : Nat) (k : VT) (x : PT) : Int := ordV q k x.1

set_option maxRecDepth 100000 in
set_option maxHeartbeats 4000000 in
theorem mfind_wrong (d b : Nat) (k : VT) (ku : Value) (w : World) (hk : Lies d w k.items ku) (ht : k.text.size ≤ 9223372036854775807) (hr : rightV d k = false) : Calls Tryz.prog 46 #[.pointer (some ⟨b, 0, none⟩), .agg #[.int .i64 k.kind, .int .i64 k.num, .string k.text, ku]] w fun e w' => e = .returned (.tuple #[.pointer none, .int .i64 3]) ∧ Below w.heap.size w w' := by
  obtain ⟨ak, ck, rfl, _⟩ := Lies.slice hk
  have hb0 : ∀ o, Below w.heap.size w (w.alloc o) := fun o => ((Grew.refl w).alloc o).below
  have HC : Hid (∀ o, Calls Tryz.prog 56 #[.agg #[.int .i64 k.kind, .int .i64 k.num, .string k.text, .slice ak k.items.length ck]] (w.alloc o) fun e w' => e = .returned (.int .i64 3) ∧ Below (w.alloc o).heap.size (w.alloc o) w') := fun o => by
    have h9 := check_any d k _ (w.alloc o) (Lies.keeps (hb0 o) _ _ _ hk) ht
    rwa [hr] at h9
  have HB : Hid _ := hb0
  clear hk ht hr hb0
  go_enter Tryz.func46, Tryz.ntmps46
  go_wp2_with fail
  refine (HC.out _).mono ?_
  rintro e w1 ⟨rfl, hg⟩
  have hb1 : Below w.heap.size w w1 := (HB.out _).trans (hg.mono (HB.out _).size)
  clear hg
  go_wp2_with fail
  go_ret2
  exact ⟨rfl, hb1⟩

/-- What a map's find tells. -/
def MFindPost (q : Nat) (t : RT PT) (k : VT) (w : World) (e : Ending) (w' : World) : Prop := ∃ p, e = .returned (.tuple #[.pointer p, .int .i64 0]) ∧ FindPost14 TT 16 (RT.find (atK q k) t) w (.returned (.pointer p)) w'

set_option maxRecDepth 100000 in
set_option maxHeartbeats 8000000 in
theorem mfind_right (d b q : Nat) (t : RT PT) (k : VT) (ku : Value) (w : World) (hm : MC w q t b) (hk : Lies d w k.items ku) (ht : k.text.size ≤ 9223372036854775807) (hr : rightV d k = true) : Calls Tryz.prog 46 #[.pointer (some ⟨b, 0, none⟩), .agg #[.int .i64 k.kind, .int .i64 k.num, .string k.text, ku]] w (MFindPost q t k w) := by
  obtain ⟨ak, ck, rfl, _⟩ := Lies.slice hk
  obtain ⟨h16, hr16⟩ := canon hk hr
  have hb0 : ∀ o, Below w.heap.size w (w.alloc o) := fun o => ((Grew.refl w).alloc o).below
  have HC : Hid (∀ o, Calls Tryz.prog 56 #[.agg #[.int .i64 k.kind, .int .i64 k.num, .string k.text, .slice ak k.items.length ck]] (w.alloc o) fun e w' => e = .returned (.int .i64 0) ∧ Below (w.alloc o).heap.size (w.alloc o) w') := fun o => by
    have h9 := check_any d k _ (w.alloc o) (Lies.keeps (hb0 o) _ _ _ hk) ht
    rwa [hr] at h9
  obtain ⟨po, hpo, hn⟩ := hm.top
  have HA : Hid (∀ V, Below w.heap.size w V → Calls Tryz.prog 75 #[.pointer (some ⟨b, 0, none⟩), .agg #[.int .i64 k.kind, .int .i64 k.num, .string k.text, .slice ak k.items.length ck]] V (AtPost q k V)) := fun V hV => at_14 q b hm.q6 k _ V (cell_keeps hV hm.ord) (Lies.keeps hV _ _ _ h16) ht hr16
  have HF : Hid (∀ V q1 q2, Below w.heap.size w V → AtC TT 16 102 q1 q2 (atK q k) (fun x => rightV 16 x.1 = true) V → Calls Tryz.prog 74 #[.pointer po, .func (.func 102) #[] #[.pointer q1, .pointer q2]] V (FindPost14 TT 16 (RT.find (atK q k) t) V)) := fun V q1 q2 hV ha => find_14 TT 16 102 q1 q2 (atK q k) _ eg_at1 t po V ha (hn.keeps hV) (fun x hx => (hm.right x hx).1.1)
  have HB : Hid _ := hb0
  have HP : Hid (∀ (p : Option Addr) (V V' : World), Below w.heap.size w V → FindPost14 TT 16 (RT.find (atK q k) t) V (.returned (.pointer p)) V' → MFindPost q t k w (.returned (.tuple #[.pointer p, .int .i64 0])) V') := fun p V V' hV h => ⟨p, rfl, hV.trans (h.1.mono hV.size), h.2⟩
  have hbl := cell_lt hpo
  simp only at hbl
  clear hk ht hr hb0 hm hn h16 hr16
  go_enter Tryz.func46, Tryz.ntmps46
  go_wp2_with fail
  obtain ⟨W0, hW0⟩ : ∃ W0, W0 = w.alloc (.cells #[.int .i64 k.kind, .int .i64 k.num, .string k.text, .slice ak k.items.length ck] 25) := ⟨_, rfl⟩
  have HCk : Hid _ := HC.out (.cells #[.int .i64 k.kind, .int .i64 k.num, .string k.text, .slice ak k.items.length ck] 25)
  rw [← hW0] at HCk ⊢
  have hb0 : Below w.heap.size w W0 := by rw [hW0]; exact HB.out _
  have k0 : W0.cell? ⟨w.heap.size, 0, none⟩ = some (.int .i64 k.kind) := by rw [hW0]; simp
  have k1 : W0.cell? ⟨w.heap.size, 1, none⟩ = some (.int .i64 k.num) := by rw [hW0]; simp
  have k2 : W0.cell? ⟨w.heap.size, 2, none⟩ = some (.string k.text) := by rw [hW0]; simp
  have k3 : W0.cell? ⟨w.heap.size, 3, none⟩ = some (.slice ak k.items.length ck) := by rw [hW0]; simp
  clear hW0 HC
  refine Calls.mono HCk.out ?_
  rintro e w1 ⟨rfl, hg⟩
  have hb1 : Below w.heap.size w w1 := hb0.trans (hg.mono hb0.size)
  have k0 := cell_keeps hg k0; have k1 := cell_keeps hg k1; have k2 := cell_keeps hg k2; have k3 := cell_keeps hg k3
  have hpo := cell_keeps hb1 hpo
  clear hg HCk hb0
  go_wp2_with fail
  go_region_held3 (fun w' => w'.cell? ⟨b, 1, none⟩ = some (.pointer po) ∧ w'.cell? ⟨w.heap.size, 0, none⟩ = some (.int .i64 k.kind) ∧ w'.cell? ⟨w.heap.size, 1, none⟩ = some (.int .i64 k.num) ∧ w'.cell? ⟨w.heap.size, 2, none⟩ = some (.string k.text) ∧ w'.cell? ⟨w.heap.size, 3, none⟩ = some (.slice ak k.items.length ck)) (go_keep)
    (first
      | (go_at_call 75; (with_reducible refine Calls.mono (HA.out _ hb1.drew) ?_); rintro e w2 ⟨hg, q1, q2, rfl, ha⟩; have HAC : Hid (AtC TT 16 102 q1 q2 (atK q k) (fun x => rightV 16 x.1 = true) w2) := ha TT; have hb2 : Below w.heap.size w w2 := hb1.drew.trans (hg.mono hb1.drew.size); have hg2 : Below w1.heap.size w1 w2 := (Below.refl _ _).drew.trans hg; have k0 := cell_keeps hg2 k0; have k1 := cell_keeps hg2 k1; have k2 := cell_keeps hg2 k2; have k3 := cell_keeps hg2 k3; have hpo := cell_keeps hg2 hpo; clear hg ha)
      | (go_at_call 74; (with_reducible refine Calls.mono (HF.out _ _ _ hb2 HAC.out) ?_); rintro e w3 hf; obtain ⟨p3, rfl⟩ : ∃ p3, e = .returned (.pointer p3) := (by rcases hf.2 with ⟨_, h9⟩ | ⟨_, _, _, _, _, _, _, _, _, _, _, h9, _⟩ <;> exact ⟨_, h9⟩); have HE : Hid _ := HP.out p3 _ _ hb2 hf; have hg3 : Below w2.heap.size w2 w3 := hf.1; have k0 := cell_keeps hg3 k0; have k1 := cell_keeps hg3 k1; have k2 := cell_keeps hg3 k2; have k3 := cell_keeps hg3 k3; have hpo := cell_keeps hg3 hpo; clear hf))
  all_goals (first | (go_ret2; exact HE.out) | (go_wp2_with fail; go_ret2; exact HE.out))

end Go.Proofs.YtpmodiodpilmeaaGreat

namespace Go.Proofs.YtpmodiodpilmeaaGreat
open Go.RowKit Go.Shelf

/-- What find says of a tree that rises. -/
theorem find_some {q : Nat} {t : RT PT} (hs : RT.Rises (byK q) t.items) {k v : VT} {x : PT} (h : RT.find (atK q k) t = some x) : x ∈ t.items ∧ ordV q k x.1 = 0 := by
  have e := RT.find_eq (atK q k) t (RT.Rises.falls (byK_cmp q) hs (k, v))
  rw [e] at h
  exact ⟨List.mem_of_find?_eq_some h, by simpa using List.find?_some h⟩

end Go.Proofs.YtpmodiodpilmeaaGreat

namespace Go.Proofs.YtpmodiodpilmeaaGreat
open Go.RowKit Go.Shelf

/-- What Get tells. -/
def GetPost14 (o : Option PT) (E : Int) (w : World) (e : Ending) (w' : World) : Prop := Below w.heap.size w w' ∧ ((o = none ∧ e = .returned (.tuple #[.agg #[.int .i64 0, .int .i64 0, .string ⟨#[]⟩, .slice none 0 0], .bool false, .int .i64 E])) ∨ ∃ x u, o = some x ∧ e = .returned (.tuple #[.agg #[.int .i64 x.2.kind, .int .i64 x.2.num, .string x.2.text, u], .bool true, .int .i64 0]) ∧ LiesB w.heap.size 16 w' x.2.items u)

set_option maxRecDepth 100000 in
set_option maxHeartbeats 8000000 in
theorem get_wrong (d b : Nat) (k : VT) (ku : Value) (w : World) (hk : Lies d w k.items ku) (ht : k.text.size ≤ 9223372036854775807) (hr : rightV d k = false) : Calls Tryz.prog 23 #[.pointer (some ⟨b, 0, none⟩), .agg #[.int .i64 k.kind, .int .i64 k.num, .string k.text, ku]] w (GetPost14 none 3 w) := by
  obtain ⟨ak, ck, rfl, _⟩ := Lies.slice hk
  have HB : Hid (∀ A B, Below w.heap.size w ((w.alloc A).alloc B)) := fun A B => (((Grew.refl w).alloc A).alloc B).below
  have HF : Hid (∀ V, Below w.heap.size w V → Calls Tryz.prog 46 #[.pointer (some ⟨b, 0, none⟩), .agg #[.int .i64 k.kind, .int .i64 k.num, .string k.text, .slice ak k.items.length ck]] V fun e w' => e = .returned (.tuple #[.pointer none, .int .i64 3]) ∧ Below V.heap.size V w') := fun V hV => mfind_wrong d b k _ V (Lies.keeps hV _ _ _ hk) ht hr
  clear hk ht hr
  go_enter Tryz.func23, Tryz.ntmps23
  go_wp2_with fail
  obtain ⟨W0, hW0⟩ : ∃ W0, W0 = (w.alloc (.cells #[.int .i64 k.kind, .int .i64 k.num, .string k.text, .slice ak k.items.length ck] 25)).alloc (.cells #[.int .i64 0, .int .i64 0, .string ⟨#[]⟩, .slice none 0 0] 25) := ⟨_, rfl⟩
  rw [← hW0]
  have hb0 : Below w.heap.size w W0 := by rw [hW0]; exact HB.out _ _
  have HK0 : Hid (Bx W0 w.heap.size k (.slice ak k.items.length ck)) := by rw [hW0]; exact (bx_alloc w k _).keeps ((Grew.refl _).alloc _).below
  have HV0 : Hid (Bx W0 (w.heap.size + 1) zeroT (.slice none 0 0)) := by
    rw [hW0]
    have h9 := bx_alloc (w.alloc (.cells #[.int .i64 k.kind, .int .i64 k.num, .string k.text, .slice ak k.items.length ck] 25)) zeroT (.slice none 0 0)
    rwa [World.size_alloc] at h9
  have hs0 : w.heap.size + 1 < W0.heap.size := by rw [hW0]; simp
  have Hs0 : Hid (w.heap.size + 1 < W0.heap.size) := hs0
  obtain ⟨k0, k1, k2, k3, _⟩ := HK0.out
  clear hW0 HK0 hs0
  go_region_held3 (fun w' => w'.cell? ⟨w.heap.size, 0, none⟩ = some (.int .i64 k.kind) ∧ w'.cell? ⟨w.heap.size, 1, none⟩ = some (.int .i64 k.num) ∧ w'.cell? ⟨w.heap.size, 2, none⟩ = some (.string k.text) ∧ w'.cell? ⟨w.heap.size, 3, none⟩ = some (.slice ak k.items.length ck)) (go_keep)
    (first
      | (go_at_call 45; refine (own_14 _ _).mono ?_; rintro e w3 ⟨rfl, hw⟩; subst hw)
      | (go_at_call 46; (with_reducible refine Calls.mono (HF.out _ hb0.drew) ?_); rintro e w1 ⟨rfl, hg'⟩; have hg : Below W0.heap.size W0 w1 := (Below.refl _ _).drew.trans hg'; have k0 := cell_keeps hg k0; have k1 := cell_keeps hg k1; have k2 := cell_keeps hg k2; have k3 := cell_keeps hg k3; clear hg'))
  have HV1 : Hid (Bx w1 (w.heap.size + 1) zeroT (.slice none 0 0)) := HV0.out.keeps hg
  obtain ⟨y0, y1, y2, y3, f0, f1, f2, f3⟩ := HV1.out
  have hb1 : Below w.heap.size w w1 := hb0.trans (hg.mono hb0.size)
  have HE : Hid (GetPost14 none 3 w (.returned (.tuple #[.agg #[.int .i64 0, .int .i64 0, .string ⟨#[]⟩, .slice none 0 0], .bool false, .int .i64 3])) (w1.setCells (w.heap.size + 1) 0 (encP (zeroT, .slice none 0 0)))) := ⟨below_put hb1 (by omega) _, .inl ⟨rfl, rfl⟩⟩
  have Hbx : Hid _ := HV1.out.put (zeroT, .slice none 0 0)
  clear hg k0 k1 k2 k3
  go_wp2_with fail
  refine bodyPost_ret (v := .tuple #[.agg #[.int .i64 0, .int .i64 0, .string ⟨#[]⟩, .slice none 0 0], .bool false, .int .i64 3]) ?_ rfl HE.out
  obtain ⟨q0, q1, q2, q3, _, _, _, _⟩ := Hbx.out
  simp only [encP, World.setCells, Nat.zero_add, Nat.reduceAdd] at q0 q1 q2 q3
  simp [results, Tryz.results23, go_sem, q0, q1, q2, q3]

set_option maxRecDepth 100000 in
set_option maxHeartbeats 8000000 in
theorem get_right (d b q : Nat) (t : RT PT) (k : VT) (ku : Value) (w : World) (hm : MC w q t b) (hk : Lies d w k.items ku) (ht : k.text.size ≤ 9223372036854775807) (hr : rightV d k = true) : Calls Tryz.prog 23 #[.pointer (some ⟨b, 0, none⟩), .agg #[.int .i64 k.kind, .int .i64 k.num, .string k.text, ku]] w (GetPost14 (RT.find (atK q k) t) 0 w) := by
  obtain ⟨ak, ck, rfl, _⟩ := Lies.slice hk
  have HB : Hid (∀ A B, Below w.heap.size w ((w.alloc A).alloc B)) := fun A B => (((Grew.refl w).alloc A).alloc B).below
  have HF : Hid (∀ V, Below w.heap.size w V → Calls Tryz.prog 46 #[.pointer (some ⟨b, 0, none⟩), .agg #[.int .i64 k.kind, .int .i64 k.num, .string k.text, .slice ak k.items.length ck]] V (MFindPost q t k V)) := fun V hV => mfind_right d b q t k _ V (hm.keeps hV) (Lies.keeps hV _ _ _ hk) ht hr
  have HR : Hid (∀ x, RT.find (atK q k) t = some x → rightV 16 x.2 = true) := fun x hx => (hm.right x (find_some (v := k) hm.rises hx).1).2.1
  clear hk ht hr hm
  go_enter Tryz.func23, Tryz.ntmps23
  go_wp2_with fail
  obtain ⟨W0, hW0⟩ : ∃ W0, W0 = (w.alloc (.cells #[.int .i64 k.kind, .int .i64 k.num, .string k.text, .slice ak k.items.length ck] 25)).alloc (.cells #[.int .i64 0, .int .i64 0, .string ⟨#[]⟩, .slice none 0 0] 25) := ⟨_, rfl⟩
  rw [← hW0]
  have hb0 : Below w.heap.size w W0 := by rw [hW0]; exact HB.out _ _
  have HK0 : Hid (Bx W0 w.heap.size k (.slice ak k.items.length ck)) := by rw [hW0]; exact (bx_alloc w k _).keeps ((Grew.refl _).alloc _).below
  have HV0 : Hid (Bx W0 (w.heap.size + 1) zeroT (.slice none 0 0)) := by
    rw [hW0]
    have h9 := bx_alloc (w.alloc (.cells #[.int .i64 k.kind, .int .i64 k.num, .string k.text, .slice ak k.items.length ck] 25)) zeroT (.slice none 0 0)
    rwa [World.size_alloc] at h9
  have hs0 : w.heap.size + 1 < W0.heap.size := by rw [hW0]; simp
  have Hs0 : Hid (w.heap.size + 1 < W0.heap.size) := hs0
  obtain ⟨k0, k1, k2, k3, _⟩ := HK0.out
  clear hW0 HK0 hs0
  go_region_held3 (fun w' => w'.cell? ⟨w.heap.size, 0, none⟩ = some (.int .i64 k.kind) ∧ w'.cell? ⟨w.heap.size, 1, none⟩ = some (.int .i64 k.num) ∧ w'.cell? ⟨w.heap.size, 2, none⟩ = some (.string k.text) ∧ w'.cell? ⟨w.heap.size, 3, none⟩ = some (.slice ak k.items.length ck)) (go_keep)
    (first
      | (go_at_call 45; refine (own_14 _ _).mono ?_; rintro e w3 ⟨rfl, hw⟩; subst hw)
      | (go_at_call 46; (with_reducible refine Calls.mono (HF.out _ hb0.drew) ?_); rintro e w1 ⟨p1, rfl, hf⟩; have hg : Below W0.heap.size W0 w1 := (Below.refl _ _).drew.trans hf.1; have HFp : Hid _ := hf.2; have k0 := cell_keeps hg k0; have k1 := cell_keeps hg k1; have k2 := cell_keeps hg k2; have k3 := cell_keeps hg k3; clear hf))
  have HV1 : Hid (Bx w1 (w.heap.size + 1) zeroT (.slice none 0 0)) := HV0.out.keeps hg
  have hb1 : Below w.heap.size w w1 := hb0.trans (hg.mono hb0.size)
  clear hg k0 k1 k2 k3 HF HV0 hb0
  rcases HFp.out with ⟨hnone, he⟩ | ⟨x, xb, xl, xr, xk, xv, xc, xs, xh, xn, hsome, he, hcl, hlx⟩
  · obtain rfl : p1 = none := by injection he with he; injection he
    obtain ⟨y0, y1, y2, y3, f0, f1, f2, f3⟩ := HV1.out
    have HE : Hid (GetPost14 (RT.find (atK q k) t) 0 w (.returned (.tuple #[.agg #[.int .i64 0, .int .i64 0, .string ⟨#[]⟩, .slice none 0 0], .bool false, .int .i64 0])) (w1.setCells (w.heap.size + 1) 0 (encP (zeroT, .slice none 0 0)))) := ⟨below_put hb1 (by omega) _, .inl ⟨hnone, rfl⟩⟩
    have Hbx : Hid _ := HV1.out.put (zeroT, .slice none 0 0)
    clear HFp he hnone HR
    go_wp2_with fail
    refine bodyPost_ret (v := .tuple #[.agg #[.int .i64 0, .int .i64 0, .string ⟨#[]⟩, .slice none 0 0], .bool false, .int .i64 0]) ?_ rfl HE.out
    obtain ⟨q0, q1, q2, q3, _, _, _, _⟩ := Hbx.out
    simp only [encP, World.setCells, Nat.zero_add, Nat.reduceAdd] at q0 q1 q2 q3
    simp [results, Tryz.results23, go_sem, q0, q1, q2, q3]
  · obtain rfl : p1 = some ⟨xb, 0, none⟩ := by injection he with he; injection he
    obtain ⟨ax, cx, rfl, _⟩ := hlx.2.1.slice
    obtain ⟨_, _, _, _, _, _, x6, x7, x8, x9, _, _, _, _⟩ := hcl
    have HCp : Hid _ := copy_right x.2 _ w1 hlx.2.1.lies (HR.out x hsome)
    have Hsome : Hid (RT.find (atK q k) t = some x) := hsome
    have hlt1 : w.heap.size + 1 < w1.heap.size := by have := cell_lt HV1.out.c0; simpa using this
    clear HFp he hsome HR hlx
    go_wp2_with fail
    refine Calls.mono HCp.out ?_
    rintro e w2 ⟨v2, rfl, hl2, hg2⟩
    obtain ⟨a2, c2, rfl, _⟩ := LiesB.slice hl2
    have HV2 : Hid (Bx w2 (w.heap.size + 1) zeroT (.slice none 0 0)) := HV1.out.keeps hg2
    have hb2 : Below w.heap.size w w2 := hb1.trans (hg2.mono hb1.size)
    have hL2 : LiesB w1.heap.size 16 (w2.setCells (w.heap.size + 1) 0 (encP (x.2, .slice a2 x.2.items.length c2))) x.2.items (.slice a2 x.2.items.length c2) := LiesB.put8 hlt1 _ hl2
    have HE : Hid (GetPost14 (RT.find (atK q k) t) 0 w (.returned (.tuple #[.agg #[.int .i64 x.2.kind, .int .i64 x.2.num, .string x.2.text, .slice a2 x.2.items.length c2], .bool true, .int .i64 0])) (w2.setCells (w.heap.size + 1) 0 (encP (x.2, .slice a2 x.2.items.length c2)))) := ⟨below_put hb2 (by omega) _, .inr ⟨x, _, Hsome.out, rfl, LiesB.lower14 hb1.size _ _ _ hL2⟩⟩
    have Hbx : Hid _ := HV2.out.put (x.2, .slice a2 x.2.items.length c2)
    obtain ⟨y0, y1, y2, y3, f0, f1, f2, f3⟩ := HV2.out
    clear hl2 hL2 hg2 x6 x7 x8 x9 HCp HV1
    go_wp2_with fail
    refine bodyPost_ret (v := .tuple #[.agg #[.int .i64 x.2.kind, .int .i64 x.2.num, .string x.2.text, .slice a2 x.2.items.length c2], .bool true, .int .i64 0]) ?_ rfl HE.out
    obtain ⟨q0, q1, q2, q3, _, _, _, _⟩ := Hbx.out
    simp only [encP, World.setCells, Nat.zero_add, Nat.reduceAdd] at q0 q1 q2 q3
    simp [results, Tryz.results23, go_sem, q0, q1, q2, q3]

end Go.Proofs.YtpmodiodpilmeaaGreat

namespace Go.Proofs.YtpmodiodpilmeaaGreat
open Go.RowKit Go.Shelf

set_option maxRecDepth 100000 in
set_option maxHeartbeats 4000000 in
theorem natural_14 (d : Nat) (x : PT) (k : VT) (ku vu uk : Value) (w : World) (hx : Lies d w x.1.items ku) (hk : Lies d w k.items uk) : Calls Tryz.prog 62 #[.agg #[.int .i64 x.1.kind, .int .i64 x.1.num, .string x.1.text, ku, .int .i64 x.2.kind, .int .i64 x.2.num, .string x.2.text, vu], .agg #[.int .i64 k.kind, .int .i64 k.num, .string k.text, uk]] w fun e w' => e = .returned (.int .i64 (cmpV d x.1 k)) ∧ Below w.heap.size w w' := by
  have HC : Hid (∀ V, Below w.heap.size w V → Calls Tryz.prog 94 #[.agg #[.int .i64 x.1.kind, .int .i64 x.1.num, .string x.1.text, ku], .agg #[.int .i64 k.kind, .int .i64 k.num, .string k.text, uk]] V fun e w' => e = .returned (.int .i64 (cmpV d x.1 k)) ∧ Grew V w') := fun V hV => compare_any d x.1 k ku uk V (Lies.keeps hV _ _ _ hx) (Lies.keeps hV _ _ _ hk)
  have HB : Hid (∀ A B, Below w.heap.size w ((w.alloc A).alloc B)) := fun A B => (((Grew.refl w).alloc A).alloc B).below
  clear hx hk
  go_enter Tryz.func62, Tryz.ntmps62
  go_wp2_with fail
  refine (HC.out _ (HB.out _ _)).mono ?_
  rintro e w1 ⟨rfl, hg⟩
  have hb1 : Below w.heap.size w w1 := (HB.out _ _).trans (hg.below.mono (HB.out _ _).size)
  clear hg
  go_wp2_with fail
  go_ret
  exact ⟨rfl, hb1⟩

set_option maxRecDepth 100000 in
set_option maxHeartbeats 4000000 in
theorem sorted1_14 (d : Nat) : CmpQ 61 (GoodQ d) (cmpQ d) := by
  intro p r W hp hr
  obtain ⟨⟨t, u⟩, ⟨t2, u2⟩⟩ := p
  obtain ⟨⟨s, v⟩, ⟨s2, v2⟩⟩ := r
  have HC : Hid (∀ V, Below W.heap.size W V → Calls Tryz.prog 62 #[.agg #[.int .i64 t.kind, .int .i64 t.num, .string t.text, u, .int .i64 t2.kind, .int .i64 t2.num, .string t2.text, u2], .agg #[.int .i64 s.kind, .int .i64 s.num, .string s.text, v]] V fun e w' => e = .returned (.int .i64 (cmpV d t s)) ∧ Below V.heap.size V w') := fun V hV => natural_14 d (t, t2) s u u2 v V (Lies.keeps hV _ _ _ hp.1.1) (Lies.keeps hV _ _ _ hr.1.1)
  show Calls Tryz.prog 61 #[.agg #[.int .i64 t.kind, .int .i64 t.num, .string t.text, u, .int .i64 t2.kind, .int .i64 t2.num, .string t2.text, u2], .agg #[.int .i64 s.kind, .int .i64 s.num, .string s.text, v, .int .i64 s2.kind, .int .i64 s2.num, .string s2.text, v2]] W fun e W' => e = .returned (.int .i64 (cmpV d t s)) ∧ Below W.heap.size W W'
  have HB : Hid (∀ A B, Below W.heap.size W ((W.alloc A).alloc B)) := fun A B => (((Grew.refl W).alloc A).alloc B).below
  clear hp hr
  go_enter Tryz.func61, Tryz.ntmps61
  go_wp2_with fail
  refine (HC.out _ (HB.out _ _)).mono ?_
  rintro e w1 ⟨rfl, hg⟩
  have hb1 : Below W.heap.size W w1 := (HB.out _ _).trans (hg.mono (HB.out _ _).size)
  clear hg
  go_wp2_with fail
  go_ret
  exact ⟨rfl, hb1⟩

set_option maxRecDepth 100000 in
set_option maxHeartbeats 8000000 in
theorem search_14 (d : Nat) (qs : List PP) (v : Value) (k : VT) (uk : Value) (w : World) (hv : SlQ 0 d w qs v) (hk : Lies d w k.items uk) (hlen : qs.length ≤ 65536)
    (K : Nat) (hK : K < qs.length) (hlo : ∀ t (h : t < qs.length), t < K → cmpV d qs[t].1.1 k < 0) (hhi : ∀ t (h : t < qs.length), K ≤ t → ¬ cmpV d qs[t].1.1 k < 0) (hF : cmpV d qs[K].1.1 k = 0) :
    Calls Tryz.prog 64 #[v, .agg #[.int .i64 k.kind, .int .i64 k.num, .string k.text, uk], .func (.func 62) #[] #[]] w fun e w' => e = .returned (.tuple #[.int .i64 (K : Int), .bool true]) ∧ Below w.heap.size w w' := by
  obtain ⟨ak, ck, rfl, _⟩ := Lies.slice hk
  obtain ⟨b, o, c, rfl, _, hrow, hgd⟩ := hv.full (fun e => by rw [e] at hK; cases hK)
  have Hr : Hid (QAt w b o qs) := hrow
  have HG : Hid (∀ p ∈ qs, GoodQ d w p) := hgd
  have HT : Hid (Lies d w k.items (.slice ak k.items.length ck)) := hk
  have Hlo : Hid _ := hlo
  have Hhi : Hid _ := hhi
  have HF : Hid (∀ (h : K < qs.length), cmpV d qs[K].1.1 k = 0) := fun _ => hF
  have eg : ∀ args w, (callFunc 62 args).run Tryz.prog w = .ok (.enter 62 args) w := enters_of Tryz.func62 (by kernel_rfl) rfl
  obtain ⟨n, hn⟩ : ∃ n, n = qs.length := ⟨_, rfl⟩
  have HNn : Hid (n = qs.length) := hn
  rw [← hn] at hlen ⊢
  have HKn : Hid (K < qs.length) := hK
  have hKn : K < n := by omega
  have HB0 : Hid (Bx (w.alloc (.cells #[.int .i64 k.kind, .int .i64 k.num, .string k.text, .slice ak k.items.length ck] 25)) w.heap.size k (.slice ak k.items.length ck)) := bx_alloc w k _
  clear hrow hgd hk hlo hhi hF hv hn hK
  go_enter Tryz.func64, Tryz.ntmps64
  go_wp2_with fail
  go_loopg [9, 10] n (fun q i j wr => ∃ a e : Nat, i = .int .i64 (a : Int) ∧ j = .int .i64 (e : Int) ∧ q = e - a ∧ a ≤ K ∧ K ≤ e ∧ e ≤ n ∧ Hid (Bx wr w.heap.size k (.slice ak k.items.length ck)) ∧ Hid (Below w.heap.size w wr))
  case atStart => exact ⟨0, n, rfl, rfl, by omega, by omega, by omega, Nat.le_refl _, HB0, ((Grew.refl _).alloc _).below⟩
  case round =>
    obtain ⟨a, e, rfl, rfl, hq, haK, hKe, hen, HBx, HB⟩ := hrel
    have Hq : Hid _ := hq
    have hbw := HB.out
    clear hq HB0
    by_cases hlt : a < e
    · obtain ⟨h, hh⟩ : ∃ h, h = (a + e) / 2 := ⟨_, rfl⟩
      have Hh : Hid (h = (a + e) / 2) := hh
      have hl1 : h < qs.length := by have := HNn.out; omega
      have hlti : (a : Int) < (e : Int) := by omega
      have hd : ((a : Int) + (e : Int)) / 2 = (h : Int) := by omega
      have hhn : h < n := by omega
      have hhi1 : (h : Int) < (n : Nat) := by omega
      clear hh
      have h8 := Hr.out.at h hl1
      have gp := HG.out qs[h] (List.getElem_mem hl1)
      have HLo : Hid (h < K → cmpV d qs[h].1.1 k < 0) := fun hk => Hlo.out h hl1 hk
      have HHi : Hid (K ≤ h → ¬ cmpV d qs[h].1.1 k < 0) := fun hk => by have := Hhi.out h hl1 hk; omega
      generalize qs[h] = x at *
      obtain ⟨⟨t1, u1⟩, ⟨t2, u2⟩⟩ := x
      obtain ⟨a1, c1, hu1, _⟩ := Lies.slice gp.1.1
      obtain ⟨a2, c2, hu2, _⟩ := Lies.slice gp.2.1
      simp only at hu1 hu2
      subst hu1 hu2
      obtain ⟨p0, p1, p2, p3, p4, p5, p6, p7⟩ := h8.keeps hbw
      simp only at p0 p1 p2 p3 p4 p5 p6 p7
      obtain ⟨r0, r1, r2, r3, _⟩ := HBx.out
      have HN : Hid (∀ V, Below wr.heap.size wr V → Calls Tryz.prog 62 #[.agg #[.int .i64 t1.kind, .int .i64 t1.num, .string t1.text, (.slice a1 t1.items.length c1), .int .i64 t2.kind, .int .i64 t2.num, .string t2.text, (.slice a2 t2.items.length c2)], .agg #[.int .i64 k.kind, .int .i64 k.num, .string k.text, .slice ak k.items.length ck]] V fun e w' => e = .returned (.int .i64 (cmpV d t1 k)) ∧ Below V.heap.size V w') := fun V hV => natural_14 d (t1, t2) k _ _ _ V (Lies.keeps (hbw.trans (hV.mono hbw.size)) _ _ _ gp.1.1) (Lies.keeps (hbw.trans (hV.mono hbw.size)) _ _ _ HT.out)
      have HZl : Hid (h < K → cmpV d t1 k < 0) := HLo
      have HZh : Hid (K ≤ h → ¬ cmpV d t1 k < 0) := HHi
      obtain ⟨Z, hZ⟩ : ∃ Z, Z = cmpV d t1 k := ⟨_, rfl⟩
      rw [← hZ] at HN HZl HZh
      clear gp h8 HLo HHi hZ
      go_wp2_with fail
      go_region_held3 (fun w' => w'.cell? ⟨b, o + h * 8, none⟩ = some (.int .i64 t1.kind) ∧ w'.cell? ⟨b, o + h * 8 + 1, none⟩ = some (.int .i64 t1.num) ∧ w'.cell? ⟨b, o + h * 8 + 2, none⟩ = some (.string t1.text) ∧ w'.cell? ⟨b, o + h * 8 + 3, none⟩ = some (.slice a1 t1.items.length c1) ∧ w'.cell? ⟨b, o + h * 8 + 4, none⟩ = some (.int .i64 t2.kind) ∧ w'.cell? ⟨b, o + h * 8 + 5, none⟩ = some (.int .i64 t2.num) ∧ w'.cell? ⟨b, o + h * 8 + 6, none⟩ = some (.string t2.text) ∧ w'.cell? ⟨b, o + h * 8 + 7, none⟩ = some (.slice a2 t2.items.length c2) ∧ w'.cell? ⟨w.heap.size, 0, none⟩ = some (.int .i64 k.kind) ∧ w'.cell? ⟨w.heap.size, 1, none⟩ = some (.int .i64 k.num) ∧ w'.cell? ⟨w.heap.size, 2, none⟩ = some (.string k.text) ∧ w'.cell? ⟨w.heap.size, 3, none⟩ = some (.slice ak k.items.length ck)) (go_keep)
        (first | (go_at_fn 62; (with_reducible refine Calls.mono (HN.out _ ((Below.refl _ _).drew)) ?_); rintro ee w1 ⟨rfl, hg1⟩; have hb1' : Below wr.heap.size wr w1 := (Below.refl _ _).drew.trans hg1; have hb1 : Below w.heap.size w w1 := hbw.trans (hb1'.mono hbw.size); have p0 := cell_keeps hb1' p0; have p1 := cell_keeps hb1' p1; have p2 := cell_keeps hb1' p2; have p3 := cell_keeps hb1' p3; have p4 := cell_keeps hb1' p4; have p5 := cell_keeps hb1' p5; have p6 := cell_keeps hb1' p6; have p7 := cell_keeps hb1' p7; have r0 := cell_keeps hb1' r0; have r1 := cell_keeps hb1' r1; have r2 := cell_keeps hb1' r2; have r3 := cell_keeps hb1' r3; clear hg1))
      have HBx1 : Hid (Bx w1 w.heap.size k (.slice ak k.items.length ck)) := HBx.out.keeps hb1'
      clear p0 p1 p2 p3 p4 p5 p6 p7 r0 r1 r2 r3 hb1' HBx HN
      by_cases hz : Z < 0
      · have hhK : h < K := by
          by_cases hk : h < K
          · exact hk
          · have := HZh.out (by omega); omega
        go_wp2_with fail
        go_roundg (e - (h + 1))
        case measure => have := Hq.out; have := Hh.out; omega
        case rel => exact ⟨h + 1, e, by go_num, rfl, rfl, by omega, hKe, hen, HBx1, hb1⟩
      · have hhK : K ≤ h := by
          by_cases hk : h < K
          · exact absurd (HZl.out hk) hz
          · omega
        go_wp2_with fail
        go_roundg (h - a)
        case measure => have := Hq.out; have := Hh.out; omega
        case rel => exact ⟨a, h, rfl, by go_num, rfl, haK, hhK, by have := Hh.out; omega, HBx1, hb1⟩
    · have haK2 : a = K := by omega
      have hnlt : ¬ (a : Int) < (e : Int) := by omega
      have hendi : (a : Int) < (n : Nat) := by omega
      have hl1 : K < qs.length := HKn.out
      have h8 := Hr.out.at K hl1
      have gp := HG.out qs[K] (List.getElem_mem hl1)
      have HZ : Hid (cmpV d qs[K].1.1 k = 0) := HF.out hl1
      clear HF Hlo Hhi
      generalize qs[K] = x at *
      obtain ⟨⟨t1, u1⟩, ⟨t2, u2⟩⟩ := x
      obtain ⟨a1, c1, hu1, _⟩ := Lies.slice gp.1.1
      obtain ⟨a2, c2, hu2, _⟩ := Lies.slice gp.2.1
      simp only at hu1 hu2
      subst hu1 hu2
      subst haK2
      obtain ⟨p0, p1, p2, p3, p4, p5, p6, p7⟩ := h8.keeps hbw
      simp only at p0 p1 p2 p3 p4 p5 p6 p7
      obtain ⟨r0, r1, r2, r3, _⟩ := HBx.out
      have HN : Hid (∀ V, Below wr.heap.size wr V → Calls Tryz.prog 62 #[.agg #[.int .i64 t1.kind, .int .i64 t1.num, .string t1.text, (.slice a1 t1.items.length c1), .int .i64 t2.kind, .int .i64 t2.num, .string t2.text, (.slice a2 t2.items.length c2)], .agg #[.int .i64 k.kind, .int .i64 k.num, .string k.text, .slice ak k.items.length ck]] V fun e w' => e = .returned (.int .i64 0) ∧ Below V.heap.size V w') := fun V hV => by
        have h9 := natural_14 d (t1, t2) k (.slice a1 t1.items.length c1) (.slice a2 t2.items.length c2) (.slice ak k.items.length ck) V (Lies.keeps (hbw.trans (hV.mono hbw.size)) _ _ _ gp.1.1) (Lies.keeps (hbw.trans (hV.mono hbw.size)) _ _ _ HT.out)
        have e0 : cmpV d t1 k = 0 := HZ.out
        rwa [e0] at h9
      clear gp h8 HZ
      go_wp2_with fail
      go_region_held3 (fun w' => w'.cell? ⟨b, o + a * 8, none⟩ = some (.int .i64 t1.kind) ∧ w'.cell? ⟨b, o + a * 8 + 1, none⟩ = some (.int .i64 t1.num) ∧ w'.cell? ⟨b, o + a * 8 + 2, none⟩ = some (.string t1.text) ∧ w'.cell? ⟨b, o + a * 8 + 3, none⟩ = some (.slice a1 t1.items.length c1) ∧ w'.cell? ⟨b, o + a * 8 + 4, none⟩ = some (.int .i64 t2.kind) ∧ w'.cell? ⟨b, o + a * 8 + 5, none⟩ = some (.int .i64 t2.num) ∧ w'.cell? ⟨b, o + a * 8 + 6, none⟩ = some (.string t2.text) ∧ w'.cell? ⟨b, o + a * 8 + 7, none⟩ = some (.slice a2 t2.items.length c2) ∧ w'.cell? ⟨w.heap.size, 0, none⟩ = some (.int .i64 k.kind) ∧ w'.cell? ⟨w.heap.size, 1, none⟩ = some (.int .i64 k.num) ∧ w'.cell? ⟨w.heap.size, 2, none⟩ = some (.string k.text) ∧ w'.cell? ⟨w.heap.size, 3, none⟩ = some (.slice ak k.items.length ck)) (go_keep)
        (first | (go_at_fn 62; (with_reducible refine Calls.mono (HN.out _ ((Below.refl _ _).drew)) ?_); rintro ee w1 ⟨rfl, hg1⟩; have hb1' : Below wr.heap.size wr w1 := (Below.refl _ _).drew.trans hg1; have hb1 : Below w.heap.size w w1 := hbw.trans (hb1'.mono hbw.size); have p0 := cell_keeps hb1' p0; have p1 := cell_keeps hb1' p1; have p2 := cell_keeps hb1' p2; have p3 := cell_keeps hb1' p3; have p4 := cell_keeps hb1' p4; have p5 := cell_keeps hb1' p5; have p6 := cell_keeps hb1' p6; have p7 := cell_keeps hb1' p7; have r0 := cell_keeps hb1' r0; have r1 := cell_keeps hb1' r1; have r2 := cell_keeps hb1' r2; have r3 := cell_keeps hb1' r3; clear hg1))
      all_goals (first | (go_ret2; exact ⟨rfl, hb1⟩) | (go_wp2_with fail; go_ret2; exact ⟨rfl, hb1⟩))

end Go.Proofs.YtpmodiodpilmeaaGreat

