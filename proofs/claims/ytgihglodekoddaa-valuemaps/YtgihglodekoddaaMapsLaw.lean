/-
  The walk of ValueMaps.
-/
import Derived.Test.YtgihglodekoddaaRPairs
import Derived.Test.YtgihglodekoddaaVMap
import Derived.Deep.Heap
import Derived.Test.YtgihglodekoddaaPairsS
import Derived.Test.YtgihglodekoddaaSpeaks
namespace Go.Proofs.Ytgihglodekoddaa
open Go.RowKit

/-- What stands before a round: the pairs that were put out lie in blocks of their own. -/
structure Pwl (d M : Nat) (w0 : World) (ts : List TP) (wr : World) (j : Nat) (vo : Value) (qs : List PP) : Prop where
  len : qs.length = j
  eq : qs.map trT = ts.take j
  own : wr.ownsRow M 77 8 vo j (qs.flatMap encQ)
  gd : ∀ p ∈ qs, (LiesX (fun b => M ≤ b ∧ vo.ownBlock ≠ some b) d wr p.1.1.items p.1.2 ∧ p.1.1.text.size ≤ 9223372036854775807) ∧ (LiesX (fun b => M ≤ b ∧ vo.ownBlock ≠ some b) d wr p.2.1.items p.2.2 ∧ p.2.1.text.size ≤ 9223372036854775807)
  below : Below M w0 wr
  room : M ≤ wr.heap.size

theorem Pwl.step {d M : Nat} {w0 : World} {ts : List TP} {wr : World} {j : Nat} {vo : Value} {qs : List PP} (h : Pwl d M w0 ts wr j vo qs) {x y : VT} {v1 v2 : Value} {WW : World} (hW : Below wr.heap.size wr WW)
    (hL1 : LiesX (fun b => wr.heap.size ≤ b) d WW x.items v1) (hL2 : LiesX (fun b => wr.heap.size ≤ b) d WW y.items v2) (hx : x.text.size ≤ 9223372036854775807) (hy : y.text.size ≤ 9223372036854775807) (htake : ts.take (j + 1) = ts.take j ++ [(x, y)]) {o : Obj} {w3 : World} {G K : Nat}
    (hown : w3.ownsRow M 77 8 (.slice (some ⟨G, 0, none⟩) (j + 1) K) (j + 1) ((qs ++ [((x, v1), (y, v2))]).flatMap encQ)) (hgrow : (WW.alloc o).grownBy w3 vo.ownBlock) (hat : vo.ownBlock = some G ∨ G = (WW.alloc o).heap.size) :
    Pwl d M w0 ts w3 (j + 1) (.slice (some ⟨G, 0, none⟩) (j + 1) K) (qs ++ [((x, v1), (y, v2))]) := by
  have hob := h.own.lt
  have hsz : (WW.alloc o).heap.size = WW.heap.size + 1 := World.size_alloc _ _
  have hal : Below WW.heap.size WW (WW.alloc o) := (Below.refl _ _).alloc (Nat.le_refl _) _
  have hrW := hW.size
  have hroom := h.room
  have c3 : ∀ {a : Addr} {v : Value}, some a.block ≠ vo.ownBlock → WW.cell? a = some v → w3.cell? a = some v := fun hne hv => hgrow.cell (cell_keeps hal hv) hne
  have hb3 : Below M w0 w3 := by
    refine ((h.below.trans (hW.mono hroom)).alloc (by omega) o).grown hgrow (by omega) (fun k hk => ?_)
    have := hob k hk
    omega
  have old : ∀ (l : List VT) (v : Value), LiesX (fun b => M ≤ b ∧ vo.ownBlock ≠ some b) d wr l v → LiesX (fun b => M ≤ b ∧ (Value.slice (some ⟨G, 0, none⟩) (j + 1) K).ownBlock ≠ some b) d w3 l v := fun l v g1 => by
    have g3 := (g1.both).keeps hW
    refine LiesX.stays (fun b hb => ⟨hb.1.1, fun e => ?_⟩) (fun a v ha hv => c3 (fun e => ha.1.2 e.symm) hv) g3
    have e : G = b := by injection e
    rcases hat with hh | hh
    · exact hb.1.2 (by rw [hh, e])
    · omega
  have new : ∀ (l : List VT) (v : Value), LiesX (fun b => wr.heap.size ≤ b) d WW l v → LiesX (fun b => M ≤ b ∧ (Value.slice (some ⟨G, 0, none⟩) (j + 1) K).ownBlock ≠ some b) d w3 l v := fun l v g1 => by
    have g3 := g1.both
    refine LiesX.stays (fun b hb => ⟨by omega, fun e => ?_⟩) (fun a v ha hv => c3 (fun e => by have := hob _ e.symm; omega) hv) g3
    have e : G = b := by injection e
    rcases hat with hh | hh
    · have := hob G hh; omega
    · omega
  refine ⟨by simp [h.len], by rw [List.map_append, h.eq, htake]; rfl, hown, fun p hp => ?_, hb3, by have := hb3; have h2 := hown.lt G rfl; omega⟩
  rcases List.mem_append.1 hp with hp | hp
  · obtain ⟨⟨g1, g2⟩, ⟨g3, g4⟩⟩ := h.gd p hp
    exact ⟨⟨old _ _ g1, g2⟩, ⟨old _ _ g3, g4⟩⟩
  · rw [List.mem_singleton.1 hp]
    exact ⟨⟨new _ _ hL1, hx⟩, ⟨new _ _ hL2, hy⟩⟩

/-- A cell that append leaves alone. -/
theorem grown_keep {W w3 : World} {o : Obj} {vo : Value} {M : Nat} (hob : ∀ k, vo.ownBlock = some k → M ≤ k) (hgrow : (W.alloc o).grownBy w3 vo.ownBlock) {a : Addr} {v : Value} (ha : a.block < M) (h : W.cell? a = some v) : w3.cell? a = some v :=
  hgrow.cell (cell_keeps ((Below.refl _ _).alloc (Nat.le_refl _) _) h) (fun e => by have := hob _ e.symm; omega)

theorem Pwl.done {d M : Nat} {w0 : World} {ts : List TP} {wr : World} {j : Nat} {vo : Value} {qs : List PP} (h : Pwl d M w0 ts wr j vo qs) (hl : j ≤ 65536) : SlQ M d wr qs vo :=
  SlQ.of_own h.len.symm h.own (fun p hp => ⟨⟨(h.gd p hp).1.1.lies, (h.gd p hp).1.2⟩, ⟨(h.gd p hp).2.1.lies, (h.gd p hp).2.2⟩⟩) (by rw [h.len]; omega)

theorem unkv_take (l : List VT) (ps : List PR) (h : ps.map (·.1) = l) (j : Nat) (hj : 2 * j + 1 < ps.length) : (unkv l).take (j + 1) = (unkv l).take j ++ [((ps[2 * j]'(by omega)).1, ps[2 * j + 1].1)] := by
  rw [← h, ← unkvQ_map, ← List.map_take, ← List.map_take, unkvQ_take ps j hj, List.map_append]; rfl

theorem right_map_even {d : Nat} {t : VT} (h : rightV (d + 1) t = true) (hk : t.kind = 6) : t.items.length % 2 = 0 := by
  have h1 := right_rp h
  have h2 : (t.items.all (rpV d) && ownV d t) = true := h1
  have h3 : okItems d t = true := by
    simp only [ownV, Bool.and_eq_true] at h2
    exact h2.2.2.2.2.2
  unfold okItems at h3
  rw [hk] at h3
  simp at h3
  omega

set_option maxRecDepth 100000 in
set_option maxHeartbeats 16000000 in
theorem vpairs_tells (d : Nat) (t : VT) (u : Value) (w : World) (hu : Lies (d + 1) w t.items u) (hs : t.text.size ≤ 9223372036854775807) :
    Calls Try.prog 29 #[.agg #[.int .i64 t.kind, .int .i64 t.num, .string t.text, u]] w (TellsP d (pairsA (d + 1) t) w) := by
  obtain ⟨i0, hi, hz0, hz1, hz2⟩ := infoQ
  have Hi : Hid _ := hi; have Hz0 : Hid _ := hz0; have Hz1 : Hid _ := hz1; have Hz2 : Hid _ := hz2
  clear hi hz0 hz1 hz2
  obtain ⟨a, c, rfl, _⟩ := Lies.slice hu
  have HL : Hid (Lies (d + 1) w t.items (.slice a t.items.length c)) := hu
  have hb0 : Below w.heap.size w (w.alloc (.cells #[.int .i64 t.kind, .int .i64 t.num, .string t.text, .slice a t.items.length c] 24)) := ((Grew.refl w).alloc _).below
  have HBx : Hid (Bx (w.alloc (.cells #[.int .i64 t.kind, .int .i64 t.num, .string t.text, .slice a t.items.length c] 24)) w.heap.size t (.slice a t.items.length c)) := bx_alloc w t _
  have Hrl : Hid (rightV (d + 1) t = true → t.items.length ≤ 1024 ∧ (t.kind = 6 → t.items.length % 2 = 0) ∧ ∀ x ∈ t.items, True ∧ Txt (fun s => s.size ≤ 281474976710656) d x ∧ Len d x) := fun h => ⟨right_len h, right_map_even h, fun x hx => by
    have hr := right_rp h
    have h2 : (t.items.all (rpV d) && ownV d t) = true := hr
    simp only [Bool.and_eq_true] at h2
    have hrx := List.all_eq_true.1 h2.1 x hx
    have hl := right_lenD h
    exact ⟨trivial, right_txt d x hrx, hl.2 x hx⟩⟩
  obtain ⟨A, hA⟩ : ∃ A, A = pairsA (d + 1) t := ⟨_, rfl⟩
  rw [← hA]
  have HA : Hid (A = pairsA (d + 1) t) := hA
  clear hA hu
  obtain ⟨x0, x1, x2, x3, _, _, _, _⟩ := HBx.out
  go_enter Try.func29, Try.ntmps29
  go_wp2_with fail
  refine (check_any (d + 1) t _ _ (Lies.keeps hb0 _ _ _ HL.out) hs).mono ?_
  rintro e w1 ⟨rfl, hg⟩
  have hb1 : Below w.heap.size w w1 := hb0.trans (hg.mono hb0.size)
  have HBx1 : Hid (Bx w1 w.heap.size t (.slice a t.items.length c)) := HBx.out.keeps hg
  obtain ⟨y0, y1, y2, y3, _, _, _, _⟩ := HBx1.out
  have hsz1 : w.heap.size < w1.heap.size := cell_lt y0
  clear hg x0 x1 x2 x3
  cases hr : rightV (d + 1) t
  · have Ha : Hid (A = ([], 3)) := by show _ = _; rw [HA.out]; unfold pairsA; rw [hr]; rfl
    have he : errOf false = 3 := rfl
    rw [he]
    clear HA he
    go_wp2_with fail
    refine bodyPost_ret (v := .tuple #[.slice none 0 0, .int .i64 3]) (by simp [results, Try.results29, go_sem]) rfl ?_
    rw [Ha.out]
    exact ⟨_, [], rfl, slq_nil _ _, rfl, hb1⟩
  · have he : errOf true = 0 := rfl
    rw [he]
    clear he
    obtain ⟨hlen, heven, hparts⟩ := Hrl.out hr
    by_cases hk6 : t.kind = 6
    · have Ha : Hid (A = (unkv t.items, 0)) := by show _ = _; rw [HA.out]; unfold pairsA; rw [hr, if_pos rfl, if_pos hk6]
      have heven := heven hk6
      rw [hk6] at y0
      obtain ⟨ps, hps, hpl, hsl⟩ := SlP.of_lies HL.out
      have HSP : Hid (SlP 0 d w ps (.slice a t.items.length c)) := hsl
      have Hps : Hid (ps.map (·.1) = t.items) := hps
      have Hpl : Hid (ps.length = t.items.length) := hpl
      have Hpt : Hid (∀ x ∈ t.items, Txt (fun s => s.size ≤ 281474976710656) d x ∧ Len d x) := fun x hx => (hparts x hx).2
      have Hev : Hid (t.items.length % 2 = 0) := heven
      clear HA hps hpl hsl hparts heven Hrl
      obtain ⟨M, hM⟩ : ∃ M, M = w1.heap.size := ⟨_, rfl⟩
      have HM : Hid (M = w1.heap.size) := hM
      have HP0 : Hid (Pwl d M w1 (unkv t.items) w1 0 (.slice none 0 0) []) := ⟨rfl, rfl, World.ownsRow_nil _ _ _ _, (fun p hp => by cases hp), Below.refl _ _, by omega⟩
      clear hM
      generalize hLg : t.items.length = L at *
      have HLL : Hid (t.items.length = L) := hLg
      clear hLg
      go_wp2_with fail
      go_loopg [6, 5] L (fun z vi vo wr => ∃ (j J : Nat) (qs : List PP), vi = .int .i64 (J : Int) ∧ Hid (J = 2 * j) ∧ z = L - J ∧ J ≤ L ∧ Hid (Pwl d M w1 (unkv t.items) wr j vo qs))
      case atStart => exact ⟨0, 0, [], rfl, rfl, rfl, Nat.zero_le _, HP0⟩
      case round =>
        obtain ⟨j, J, qs, rfl, HJ, hk, hJL, HW⟩ := hrel
        have Hk : Hid _ := hk
        clear hk HP0 y0 y1 y2 y3
        have hbwM := HW.out.below
        have hbw0 : Below w1.heap.size w1 wr := by have := HW.out.below; rwa [HM.out] at this
        have hbw1 : Below w.heap.size w wr := hb1.trans (hbw0.mono hb1.size)
        have hwl : w1.heap.size ≤ wr.heap.size := hbw0.size
        have qb := (HBx1.out.keeps hbw0).c3
        by_cases hql : J < L
        · obtain ⟨Q, hQ⟩ : ∃ Q, Q = J + 1 := ⟨_, rfl⟩
          have hwQ : IntKind.i64.wrap ((J : Int) + 1) = (Q : Int) := by rw [IntKind.wrap_i64]; omega
          have HQ : Hid (Q = J + 1) := hQ
          have hQL : Q < L := by have := HJ.out; have := Hev.out; omega
          have hqi : (Q : Int) < (L : Nat) := by omega
          have hji : (J : Int) < (L : Nat) := by omega
          have hq2 : Q < ps.length := by have := Hpl.out; omega
          have hj2 : J < ps.length := by omega
          have hs0 := HSP.out
          rw [← Hpl.out] at hs0
          obtain ⟨b, o, c', hv, _, hrow, hsd⟩ := hs0.some (fun e => by rw [e] at hj2; cases hj2)
          have ha : a = some ⟨b, o, none⟩ := by injection hv
          subst ha
          have Htk : Hid ((unkv t.items).take (j + 1) = (unkv t.items).take j ++ [(ps[J].1, ps[Q].1)]) := by
            have e1 := HJ.out
            have e2 : 2 * j + 1 < ps.length := by omega
            have := unkv_take t.items ps Hps.out j e2
            show _ = _
            rw [this]
            simp only [hQ, e1]
          have Hmx : Hid (ps[J].1 ∈ t.items) := by show _ ∈ _; rw [← Hps.out]; exact List.mem_map.2 ⟨_, List.getElem_mem hj2, rfl⟩
          have Hmy : Hid (ps[Q].1 ∈ t.items) := by show _ ∈ _; rw [← Hps.out]; exact List.mem_map.2 ⟨_, List.getElem_mem hq2, rfl⟩
          obtain ⟨p0, p1, p2, p3⟩ := hrow J hj2
          obtain ⟨r0, r1, r2, r3⟩ := hrow Q hq2
          have hsx := hsd ps[J] (List.getElem_mem hj2)
          have hsy := hsd ps[Q] (List.getElem_mem hq2)
          generalize ps[J] = xx at *
          generalize ps[Q] = yy at *
          obtain ⟨x, xv⟩ := xx
          obtain ⟨y, yv⟩ := yy
          obtain ⟨xa, xc, ex, _⟩ := Lies.slice hsx.1
          obtain ⟨ya, yc, ey, _⟩ := Lies.slice hsy.1
          simp only at ex ey
          subst ex ey
          have hbl : b < w.heap.size := cell_lt p0
          have p0 := cell_keeps hbw1 p0; have p1 := cell_keeps hbw1 p1; have p2 := cell_keeps hbw1 p2; have p3 := cell_keeps hbw1 p3
          have r0 := cell_keeps hbw1 r0; have r1 := cell_keeps hbw1 r1; have r2 := cell_keeps hbw1 r2; have r3 := cell_keeps hbw1 r3
          simp only at p0 p1 p2 p3 r0 r1 r2 r3
          have hblr : b < wr.heap.size := by omega
          have hjj : j ≤ 1024 := by have := HJ.out; omega
          have HC1 : Hid (∀ W, Below w.heap.size w W → Calls Try.prog 60 #[.agg #[.int .i64 x.kind, .int .i64 x.num, .string x.text, .slice xa x.items.length xc]] W (CopyPost d x W)) := fun W h => copyOf_any (fun s => s.size ≤ 281474976710656) txt_any d x _ W (Lies.keeps h _ _ _ hsx.1) (Hpt.out x Hmx.out).1 (Hpt.out x Hmx.out).2
          have HC2 : Hid (∀ W, Below w.heap.size w W → Calls Try.prog 60 #[.agg #[.int .i64 y.kind, .int .i64 y.num, .string y.text, .slice ya y.items.length yc]] W (CopyPost d y W)) := fun W h => copyOf_any (fun s => s.size ≤ 281474976710656) txt_any d y _ W (Lies.keeps h _ _ _ hsy.1) (Hpt.out y Hmy.out).1 (Hpt.out y Hmy.out).2
          have Htx : Hid (x.text.size ≤ 9223372036854775807 ∧ y.text.size ≤ 9223372036854775807) := ⟨hsx.2, hsy.2⟩
          have HownW : Hid (wr.ownsRow M 77 8 u5 j (qs.flatMap encQ)) := HW.out.own
          have hMw : M ≤ wr.heap.size := HW.out.room
          have hwlt : w.heap.size < wr.heap.size := by omega
          have hmx : j + 1 ≤ maxLen := by unfold maxLen; omega
          have hby : (j + 1) * 112 ≤ 140737488355328 := by omega
          have hbM : b < M := by have := HM.out; omega
          have hwM : w.heap.size < M := by have := HM.out; omega
          clear hrow hsd hsx hsy hs0 hv hq2 hj2 hQ
          go_wp2_with fail
          go_region_held3 (fun w' => (w'.cell? ⟨w.heap.size, 3, none⟩ = some (.slice (some ⟨b, o, none⟩) L c)) ∧ (w'.cell? ⟨b, o + J * 4, none⟩ = some (.int .i64 x.kind) ∧ w'.cell? ⟨b, o + J * 4 + 1, none⟩ = some (.int .i64 x.num) ∧ w'.cell? ⟨b, o + J * 4 + 2, none⟩ = some (.string x.text) ∧ w'.cell? ⟨b, o + J * 4 + 3, none⟩ = some (.slice xa x.items.length xc)) ∧ (w'.cell? ⟨b, o + Q * 4, none⟩ = some (.int .i64 y.kind) ∧ w'.cell? ⟨b, o + Q * 4 + 1, none⟩ = some (.int .i64 y.num) ∧ w'.cell? ⟨b, o + Q * 4 + 2, none⟩ = some (.string y.text) ∧ w'.cell? ⟨b, o + Q * 4 + 3, none⟩ = some (.slice ya y.items.length yc))) (go_keep)
            (first
              | (refine step_append_lies _ rfl _ _ 47 rfl M 77 i0 (.agg #[.int .i64 0, .int .i64 0, .string ⟨#[]⟩, .slice none 0 0, .int .i64 0, .int .i64 0, .string ⟨#[]⟩, .slice none 0 0]) 8 112 Try.underlying47 Hi.out Hz0.out Hz1.out Hz2.out rfl (by decide) _ _ _ rfl (Hown2.out.alloc _) ⟨W2.heap.size, 0, none⟩ 1 1 [.int .i64 x.kind, .int .i64 x.num, .string x.text, .slice va x.items.length vc, .int .i64 y.kind, .int .i64 y.num, .string y.text, .slice vb y.items.length ve] rfl rfl (fun q u hq => by match q, hq with | 0, hq => (simp at hq; subst hq; simp [Addr.add]) | 1, hq => (simp at hq; subst hq; simp [Addr.add]) | 2, hq => (simp at hq; subst hq; simp [Addr.add]) | 3, hq => (simp at hq; subst hq; simp [Addr.add]) | 4, hq => (simp at hq; subst hq; simp [Addr.add]) | 5, hq => (simp at hq; subst hq; simp [Addr.add]) | 6, hq => (simp at hq; subst hq; simp [Addr.add]) | 7, hq => (simp at hq; subst hq; simp [Addr.add]) | q + 8, hq => simp at hq) (fun u hu => by simp at hu; rcases hu with rfl | rfl | rfl | rfl | rfl | rfl | rfl | rfl <;> rfl) (by decide) hmx hby (by rw [World.size_alloc]; exact Nat.le_succ_of_le (Nat.le_trans hMw hW2)) _ rfl ?_; intro G K w3 hown hgrow hat hlt3; have hob : ∀ k, (u5).ownBlock = some k → M ≤ k := fun k hk => (Hown2.out.lt k hk).1; have kqb := grown_keep hob hgrow hwM qb; have kp0 := grown_keep hob hgrow hbM p0; have kp1 := grown_keep hob hgrow hbM p1; have kp2 := grown_keep hob hgrow hbM p2; have kp3 := grown_keep hob hgrow hbM p3; have kr0 := grown_keep hob hgrow hbM r0; have kr1 := grown_keep hob hgrow hbM r1; have kr2 := grown_keep hob hgrow hbM r2; have kr3 := grown_keep hob hgrow hbM r3)
              | (clear hmark; go_at_call 60; refine (HC2.out _ hbW1).mono ?_; rintro e W2 ⟨v2, rfl, hL2, hg2⟩; have HBB : Below W1.heap.size W1 W2 := hg2; clear hg2; have HLy : Hid (LiesX (fun b => wr.heap.size ≤ b) d W2 y.items v2) := (LiesX.of_b hL2).mono (fun b hb => Nat.le_trans hW1 hb); clear hL2; obtain ⟨vb, ve, rfl, _⟩ := LiesX.slice HLy.out; have HLx2 : Hid (LiesX (fun b => wr.heap.size ≤ b) d W2 x.items (.slice va x.items.length vc)) := HLx.out.keeps HBB; have qb := cell_keeps HBB qb; have p0 := cell_keeps HBB p0; have p1 := cell_keeps HBB p1; have p2 := cell_keeps HBB p2; have p3 := cell_keeps HBB p3; have r0 := cell_keeps HBB r0; have r1 := cell_keeps HBB r1; have r2 := cell_keeps HBB r2; have r3 := cell_keeps HBB r3; have Hown2 : Hid (W2.ownsRow M 77 8 u5 j (qs.flatMap encQ)) := own_keeps Hown1.out HBB; have hW2 : wr.heap.size ≤ W2.heap.size := Nat.le_trans hW1 HBB.size; have hbWW : Below wr.heap.size wr W2 := hbA.trans (HBB.mono hW1); have hnb : ¬ (b = W2.heap.size) := Nat.ne_of_lt (Nat.lt_of_lt_of_le hblr hW2); have hnw : ¬ (w.heap.size = W2.heap.size) := Nat.ne_of_lt (Nat.lt_of_lt_of_le hwlt hW2))
              | (go_at_call 60; refine (HC1.out _ hbw1.drew).mono ?_; rintro e W1 ⟨v1, rfl, hL1, hg1⟩; have hbA : Below wr.heap.size wr W1 := (Below.refl _ _).drew.trans hg1; clear hg1; have HLx : Hid (LiesX (fun b => wr.heap.size ≤ b) d W1 x.items v1) := LiesX.of_b hL1; clear hL1; obtain ⟨va, vc, rfl, _⟩ := LiesX.slice HLx.out; have HBB := hbA; have qb := cell_keeps HBB qb; have p0 := cell_keeps HBB p0; have p1 := cell_keeps HBB p1; have p2 := cell_keeps HBB p2; have p3 := cell_keeps HBB p3; have r0 := cell_keeps HBB r0; have r1 := cell_keeps HBB r1; have r2 := cell_keeps HBB r2; have r3 := cell_keeps HBB r3; clear HBB; have Hown1 : Hid (W1.ownsRow M 77 8 u5 j (qs.flatMap encQ)) := own_keeps HownW.out hbA; have hW1 : wr.heap.size ≤ W1.heap.size := hbA.size; have hbW1 : Below w.heap.size w W1 := hbw1.trans (hbA.mono hbw1.size); have hmark : True := trivial))
          have HN : Hid _ := HW.out.step hbWW HLx2.out HLy.out Htx.out.1 Htx.out.2 Htk.out (by simpa [encQ, encP, List.flatMap_append] using hown) hgrow hat
          clear hown hgrow hat hlt3 hob kqb kp0 kp1 kp2 kp3 kr0 kr1 kr2 kr3 qb p0 p1 p2 p3 r0 r1 r2 r3 HownW Hown1 Hown2 Htk HW HLx HLx2 HLy HC1 HC2
          have hQ2 := HQ.out
          clear HQ
          go_wp2_with fail
          go_roundg (L - (J + 2))
          case measure => have := Hk.out; omega
          case rel => exact ⟨j + 1, J + 2, _, by go_num, (by show _ = _; have := HJ.out; omega), rfl, by omega, HN⟩
        · have hqi : ¬ (J : Int) < (L : Nat) := by omega
          have HE : Hid (SlQ 0 d wr qs u5 ∧ qs.map trT = unkv t.items ∧ Below w.heap.size w wr) := by
            refine ⟨(HW.out.done (by have := HJ.out; omega)).mono (Nat.zero_le _), ?_, hbw1⟩
            rw [HW.out.eq]
            refine List.take_of_length_le ?_
            have h1 := unkvQ_len ps
            have h2 := congrArg List.length (unkvQ_map ps)
            rw [Hps.out, List.length_map] at h2
            have := Hpl.out
            have := HJ.out
            omega
          obtain ⟨a6, c6, rfl, _⟩ := SlQ.slice HE.out.1
          clear HW
          go_wp2_with fail
          refine bodyPost_ret (v := .tuple #[.slice a6 qs.length c6, .int .i64 0]) (by simp [results, Try.results29, go_sem]) rfl ?_
          rw [Ha.out]
          exact ⟨_, qs, rfl, HE.out.1, HE.out.2.1, HE.out.2.2⟩
    · have Ha : Hid (A = ([], 1)) := by show _ = _; rw [HA.out]; unfold pairsA; rw [hr, if_pos rfl, if_neg hk6]
      have hk6' : (t.kind == 6) = false := by simpa using hk6
      clear HA
      go_wp2_with fail
      refine bodyPost_ret (v := .tuple #[.slice none 0 0, .int .i64 1]) (by simp [results, Try.results29, go_sem]) rfl ?_
      rw [Ha.out]
      exact ⟨_, [], rfl, slq_nil _ _, rfl, hb1⟩

end Go.Proofs.Ytgihglodekoddaa

namespace Go.Proofs.Ytgihglodekoddaa
open Go.RowKit

/-- What stays while the statement goes on: the value, and both maps. -/
structure KP (d e : Nat) (W : World) (n0 n1 n2 : Nat) (t m : VT) (u x y : Value) : Prop where
  b0 : Bx W n0 t u
  l0 : Lies (e + 1) W t.items u
  b1 : Bx W n1 m x
  l1 : Lies (d + 1) W m.items x
  b2 : Bx W n2 m y
  l2 : Lies (d + 1) W m.items y

theorem KP.keeps {d e : Nat} {W W' : World} {n0 n1 n2 : Nat} {t m : VT} {u x y : Value} (h : KP d e W n0 n1 n2 t m u x y) (hb : Below W.heap.size W W') : KP d e W' n0 n1 n2 t m u x y :=
  ⟨h.b0.keeps hb, Lies.keeps hb _ _ _ h.l0, h.b1.keeps hb, Lies.keeps hb _ _ _ h.l1, h.b2.keeps hb, Lies.keeps hb _ _ _ h.l2⟩

theorem mapA_text (d : Nat) (ts : List TP) : (mapA d ts).1.text.size ≤ 9223372036854775807 := by
  unfold mapA
  split
  · show 0 ≤ _; omega
  · split
    · show 0 ≤ _; omega
    · show 0 ≤ _; omega

theorem pairsA_len (d : Nat) (t : VT) : (pairsA (d + 1) t).1.length ≤ 65536 := by
  unfold pairsA
  split
  · rename_i h
    split
    · have hl := right_len h
      have h1 : (unkv t.items).length ≤ t.items.length := by
        have h2 := congrArg List.length (unkvQ_map (t.items.map bare))
        rw [List.map_map] at h2
        have h3 : List.map ((fun x => x.1) ∘ bare) t.items = t.items := List.map_id _
        rw [h3, List.length_map, unkvQ_len, List.length_map] at h2
        omega
      show (unkv t.items).length ≤ _
      omega
    · exact Nat.zero_le _
  · exact Nat.zero_le _

set_option maxRecDepth 100000 in
set_option maxHeartbeats 8000000 in
theorem maps_walk (d : Nat) (qs : List PP) (u : Value) (e : Nat) (t : VT) (u2 : Value) (w : World) (hu : SlQ 0 d w qs u) (hv : Lies (e + 1) w t.items u2) (hs : t.text.size ≤ 9223372036854775807) :
    Calls Try.prog 7 #[u, .agg #[.int .i64 t.kind, .int .i64 t.num, .string t.text, u2]] w fun e w' => e = .returned (.bool true) ∧ Below w.heap.size w w' := by
  have hsp : Hid (∀ W : World, Calls Try.prog 15 #[] W fun e W' => e = .returned (.bool true) ∧ Below W.heap.size W W') := speaks_any
  obtain ⟨a2, c2, rfl, _⟩ := Lies.slice hv
  have HS : Hid (SlQ 0 d w qs u) := hu
  have H1 : Hid (∀ W, Below w.heap.size w W → Calls Try.prog 27 #[u] W (Tells (d + 1) (mapA d (qs.map trT)) W)) := fun W h => vmap_tells d qs u W (HS.out.keeps h)
  have H2 : Hid (∀ W, Below w.heap.size w W → Calls Try.prog 28 #[u] W (Tells (d + 1) (mapA d (qs.map trT)) W)) := fun W h => rmap_tells d qs u W (HS.out.keeps h)
  have H3 : Hid (∀ W, Lies (e + 1) W t.items (.slice a2 t.items.length c2) → Calls Try.prog 29 #[.agg #[.int .i64 t.kind, .int .i64 t.num, .string t.text, .slice a2 t.items.length c2]] W (TellsP e (pairsA (e + 1) t) W)) := fun W h => vpairs_tells e t _ W h hs
  have H4 : Hid (∀ W, Lies (e + 1) W t.items (.slice a2 t.items.length c2) → Calls Try.prog 30 #[.agg #[.int .i64 t.kind, .int .i64 t.num, .string t.text, .slice a2 t.items.length c2]] W (TellsP e (pairsA (e + 1) t) W)) := fun W h => rpairs_tells e t _ W h
  have HPl : Hid ((pairsA (e + 1) t).1.length ≤ 65536) := pairsA_len e t
  have HSm : Hid (∀ (t : VT) (x y : Value) (W : World), Lies (d + 1) W t.items x → Lies (d + 1) W t.items y → Calls Try.prog 19 #[.agg #[.int .i64 t.kind, .int .i64 t.num, .string t.text, x], .agg #[.int .i64 t.kind, .int .i64 t.num, .string t.text, y]] W fun e W' => e = .returned (.bool true) ∧ Below W.heap.size W W') := fun t x y W h1 h2 => (same_any (d + 1) t t x y W h1 h2).mono fun e W' h => ⟨by rw [h.1, sameV_self], h.2.below⟩
  have H5 : Hid ((mapA d (qs.map trT)).2 = 0 → ∀ (x : Value) (W : World), Lies (d + 1) W (mapA d (qs.map trT)).1.items x → Calls Try.prog 29 #[.agg #[.int .i64 (mapA d (qs.map trT)).1.kind, .int .i64 (mapA d (qs.map trT)).1.num, .string (mapA d (qs.map trT)).1.text, x]] W fun e W' => ∃ v, e = .returned (.tuple #[v, .int .i64 0]) ∧ Below W.heap.size W W' ∧ Calls Try.prog 27 #[v] W' (Tells (d + 1) (mapA d (qs.map trT)) W')) := fun h0 x W hx => by
    obtain ⟨ks, k1, k2⟩ := map_again d _ h0
    refine (vpairs_tells d _ x W hx (mapA_text _ _)).mono ?_
    rintro e W' ⟨v, qs', rfl, g1, g2, g3⟩
    rw [k1] at g2 ⊢
    refine ⟨v, rfl, g3, ?_⟩
    have := vmap_tells d qs' v W' g1
    rwa [g2, k2] at this
  obtain ⟨au, cu, rfl, _⟩ := hu.slice
  have HLv : Hid (Lies (e + 1) w t.items (.slice a2 t.items.length c2)) := hv
  have hb0 : Below w.heap.size w (w.alloc (.cells #[.int .i64 t.kind, .int .i64 t.num, .string t.text, .slice a2 t.items.length c2] 24)) := ((Grew.refl w).alloc _).below
  have HB0 : Hid (Bx (w.alloc (.cells #[.int .i64 t.kind, .int .i64 t.num, .string t.text, .slice a2 t.items.length c2] 24)) w.heap.size t (.slice a2 t.items.length c2) ∧ Lies (e + 1) (w.alloc (.cells #[.int .i64 t.kind, .int .i64 t.num, .string t.text, .slice a2 t.items.length c2] 24)) t.items (.slice a2 t.items.length c2)) := ⟨bx_alloc w t _, Lies.keeps hb0 _ _ _ hv⟩
  clear hu hv hs HS
  generalize qs.length = L at *
  generalize mapA d (qs.map trT) = A at *
  generalize pairsA (e + 1) t = P at *
  obtain ⟨m, n⟩ := A
  obtain ⟨pl, pn⟩ := P
  simp only at HPl H5
  go_enter Try.func7, Try.ntmps7
  go_wp2_with fail
  refine (H1.out _ hb0).mono ?_
  rintro e1 w1 ⟨v1, rfl, hL1, hg1⟩
  obtain ⟨a3, c3, rfl, _⟩ := Lies.slice hL1
  have hb1 : Below w.heap.size w w1 := hb0.trans (hg1.mono hb0.size)
  have hq1 : Below w1.heap.size w1 (w1.alloc (.cells #[.int .i64 m.kind, .int .i64 m.num, .string m.text, .slice a3 m.items.length c3] 24)) := (Below.refl _ _).alloc (Nat.le_refl _) _
  have hr1 : Below w.heap.size w (w1.alloc (.cells #[.int .i64 m.kind, .int .i64 m.num, .string m.text, .slice a3 m.items.length c3] 24)) := hb1.trans (hq1.mono hb1.size)
  have HB1 : Hid ((Bx (w1.alloc (.cells #[.int .i64 m.kind, .int .i64 m.num, .string m.text, .slice a3 m.items.length c3] 24)) w.heap.size t (.slice a2 t.items.length c2) ∧ Lies (e + 1) (w1.alloc (.cells #[.int .i64 m.kind, .int .i64 m.num, .string m.text, .slice a3 m.items.length c3] 24)) t.items (.slice a2 t.items.length c2)) ∧ (Bx (w1.alloc (.cells #[.int .i64 m.kind, .int .i64 m.num, .string m.text, .slice a3 m.items.length c3] 24)) w1.heap.size m (.slice a3 m.items.length c3) ∧ Lies (d + 1) (w1.alloc (.cells #[.int .i64 m.kind, .int .i64 m.num, .string m.text, .slice a3 m.items.length c3] 24)) m.items (.slice a3 m.items.length c3))) :=
    ⟨⟨(HB0.out.1.keeps hg1).keeps hq1, Lies.keeps hq1 _ _ _ (Lies.keeps hg1 _ _ _ HB0.out.2)⟩, ⟨bx_alloc w1 m _, Lies.keeps hq1 _ _ _ hL1⟩⟩
  clear hL1 hg1 HB0 hq1
  go_wp2_with fail
  refine (H2.out _ hr1).mono ?_
  rintro e2 w2 ⟨v2, rfl, hL2, hg2⟩
  obtain ⟨a4, c4, rfl, _⟩ := Lies.slice hL2
  have hb2 : Below w.heap.size w w2 := hr1.trans (hg2.mono hr1.size)
  have hq2 : Below w2.heap.size w2 (w2.alloc (.cells #[.int .i64 m.kind, .int .i64 m.num, .string m.text, .slice a4 m.items.length c4] 24)) := (Below.refl _ _).alloc (Nat.le_refl _) _
  have hr2 : Below w.heap.size w (w2.alloc (.cells #[.int .i64 m.kind, .int .i64 m.num, .string m.text, .slice a4 m.items.length c4] 24)) := hb2.trans (hq2.mono hb2.size)
  have HK2 : Hid (KP d e (w2.alloc (.cells #[.int .i64 m.kind, .int .i64 m.num, .string m.text, .slice a4 m.items.length c4] 24)) w.heap.size w1.heap.size w2.heap.size t m (.slice a2 t.items.length c2) (.slice a3 m.items.length c3) (.slice a4 m.items.length c4)) :=
    ⟨(HB1.out.1.1.keeps hg2).keeps hq2, Lies.keeps hq2 _ _ _ (Lies.keeps hg2 _ _ _ HB1.out.1.2), (HB1.out.2.1.keeps hg2).keeps hq2, Lies.keeps hq2 _ _ _ (Lies.keeps hg2 _ _ _ HB1.out.2.2), bx_alloc w2 m _, Lies.keeps hq2 _ _ _ hL2⟩
  clear hL2 hg2 HB1 hq2 hr1 hb1
  obtain ⟨x0, x1, x2, x3, _, _, _, _⟩ := HK2.out.b0
  go_wp2_with fail
  refine (H3.out _ HK2.out.l0).mono ?_
  rintro e3 w3 ⟨v3, qs3, rfl, hS3, hm3, hg3⟩
  obtain ⟨a5, c5, rfl, _⟩ := hS3.slice
  have hb3 : Below w.heap.size w w3 := hr2.trans (hg3.mono hr2.size)
  have HK3 : Hid (KP d e w3 w.heap.size w1.heap.size w2.heap.size t m (.slice a2 t.items.length c2) (.slice a3 m.items.length c3) (.slice a4 m.items.length c4)) := HK2.out.keeps hg3
  have HS3 : Hid (SlQ 0 e w3 qs3 (.slice a5 qs3.length c5)) := hS3
  have Hm3 : Hid (qs3.map trT = pl) := hm3
  clear x0 x1 x2 x3 hS3 hm3 hg3 HK2 hr2
  obtain ⟨x0, x1, x2, x3, _, _, _, _⟩ := HK3.out.b0
  go_wp2_with fail
  refine (H4.out _ HK3.out.l0).mono ?_
  rintro e4 w4 ⟨v4, qs4, rfl, hS4, hm4, hg4⟩
  obtain ⟨a6, c6, rfl, _⟩ := hS4.slice
  have hb4 : Below w.heap.size w w4 := hb3.trans (hg4.mono hb3.size)
  have HK4 : Hid (KP d e w4 w.heap.size w1.heap.size w2.heap.size t m (.slice a2 t.items.length c2) (.slice a3 m.items.length c3) (.slice a4 m.items.length c4)) := HK3.out.keeps hg4
  have HS34 : Hid (SlQ 0 e w4 qs3 (.slice a5 qs3.length c5)) := HS3.out.keeps hg4
  have HS4 : Hid (SlQ 0 e w4 qs4 (.slice a6 qs4.length c6)) := hS4
  have Hm4 : Hid (qs4.map trT = pl) := hm4
  clear x0 x1 x2 x3 hS4 hm4 hg4 HK3 HS3 hb3
  obtain ⟨x0, x1, x2, x3, _, _, _, _⟩ := HK4.out.b1
  obtain ⟨y0, y1, y2, y3, _, _, _, _⟩ := HK4.out.b2
  have HPs : Hid (∀ W, Below w4.heap.size w4 W → Calls Try.prog 31 #[.slice a5 qs3.length c5, .slice a6 qs4.length c6] W fun e w' => e = .returned (.bool true) ∧ Below W.heap.size W w') := fun W h => pairs_same e qs3 qs4 (Hm3.out.trans Hm4.out.symm) _ _ W (HS34.out.keeps h) (HS4.out.keeps h) (by have h1 := congrArg List.length Hm3.out; rw [List.length_map] at h1; rw [h1]; exact HPl.out)
  clear Hm3 Hm4 HS34 HS4 H1 H2 H3 H4
  generalize qs3.length = L3 at *
  generalize qs4.length = L4 at *
  go_wp2_with fail
  refine (HSm.out m _ _ _ HK4.out.l1 HK4.out.l2).mono ?_
  rintro e5 w5 ⟨rfl, hg5⟩
  have hb5 : Below w.heap.size w w5 := hb4.trans (hg5.mono hb4.size)
  have HK5 : Hid (KP d e w5 w.heap.size w1.heap.size w2.heap.size t m (.slice a2 t.items.length c2) (.slice a3 m.items.length c3) (.slice a4 m.items.length c4)) := HK4.out.keeps hg5
  have HPs5 : Hid _ := HPs.out w5 hg5
  clear x0 x1 x2 x3 y0 y1 y2 y3 hg5 HK4 HPs hb4
  go_wp2_with fail
  refine Calls.mono HPs5.out ?_
  rintro e6 w6 ⟨rfl, hg6⟩
  have hb6 : Below w.heap.size w w6 := hb5.trans (hg6.mono hb5.size)
  have HK6 : Hid (KP d e w6 w.heap.size w1.heap.size w2.heap.size t m (.slice a2 t.items.length c2) (.slice a3 m.items.length c3) (.slice a4 m.items.length c4)) := HK5.out.keeps hg6
  clear hg6 HK5 HPs5 hb5
  by_cases hn : n = 0
  · subst hn
    have H5' : Hid _ := H5.out rfl
    clear H5
    obtain ⟨x0, x1, x2, x3, _, _, _, _⟩ := HK6.out.b1
    go_wp2_with fail
    refine (H5'.out _ _ HK6.out.l1).mono ?_
    rintro e7 w7 ⟨v7, rfl, hg7, hc7⟩
    have hb7 : Below w.heap.size w w7 := hb6.trans (hg7.mono hb6.size)
    have HK7 : Hid (KP d e w7 w.heap.size w1.heap.size w2.heap.size t m (.slice a2 t.items.length c2) (.slice a3 m.items.length c3) (.slice a4 m.items.length c4)) := HK6.out.keeps hg7
    have HC7 : Hid (Calls Try.prog 27 #[v7] w7 (Tells (d + 1) (m, 0) w7)) := hc7
    clear x0 x1 x2 x3 hg7 hc7 HK6 hb6
    go_wp2_with fail
    refine Calls.mono HC7.out ?_
    rintro e8 w8 ⟨v8, rfl, hL8, hg8⟩
    obtain ⟨a9, c9, rfl, _⟩ := Lies.slice hL8
    have hb8 : Below w.heap.size w w8 := hb7.trans (hg8.mono hb7.size)
    have hq8 : Below w8.heap.size w8 (w8.alloc (.cells #[.int .i64 m.kind, .int .i64 m.num, .string m.text, .slice a9 m.items.length c9] 24)) := (Below.refl _ _).alloc (Nat.le_refl _) _
    have hr8 : Below w.heap.size w (w8.alloc (.cells #[.int .i64 m.kind, .int .i64 m.num, .string m.text, .slice a9 m.items.length c9] 24)) := hb8.trans (hq8.mono hb8.size)
    have HK8 : Hid (KP d e (w8.alloc (.cells #[.int .i64 m.kind, .int .i64 m.num, .string m.text, .slice a9 m.items.length c9] 24)) w.heap.size w1.heap.size w2.heap.size t m (.slice a2 t.items.length c2) (.slice a3 m.items.length c3) (.slice a4 m.items.length c4)) := (HK7.out.keeps hg8).keeps hq8
    have HB8 : Hid (Bx (w8.alloc (.cells #[.int .i64 m.kind, .int .i64 m.num, .string m.text, .slice a9 m.items.length c9] 24)) w8.heap.size m (.slice a9 m.items.length c9) ∧ Lies (d + 1) (w8.alloc (.cells #[.int .i64 m.kind, .int .i64 m.num, .string m.text, .slice a9 m.items.length c9] 24)) m.items (.slice a9 m.items.length c9)) := ⟨bx_alloc w8 m _, Lies.keeps hq8 _ _ _ hL8⟩
    clear hL8 hg8 hq8 HK7 HC7 hb8
    obtain ⟨x0, x1, x2, x3, _, _, _, _⟩ := HK8.out.b1
    obtain ⟨y0, y1, y2, y3, _, _, _, _⟩ := HB8.out.1
    go_wp2_with fail
    refine (HSm.out m _ _ _ HK8.out.l1 HB8.out.2).mono ?_
    rintro e9 w9 ⟨rfl, hg9⟩
    have hb9 : Below w.heap.size w w9 := hr8.trans (hg9.mono hr8.size)
    clear x0 x1 x2 x3 y0 y1 y2 y3 hg9 HK8 HB8
    go_wp2_with fail
    refine (hsp.out _).mono ?_
    rintro e10 w10 ⟨rfl, hg10⟩
    have hb10 : Below w.heap.size w w10 := hb9.trans (hg10.mono hb9.size)
    go_wp2_with fail
    go_ret
    exact ⟨rfl, hb10⟩
  · have hne : (n != 0) = true := by simpa using hn
    clear H5
    go_wp2_with fail
    refine (hsp.out _).mono ?_
    rintro e7 w7 ⟨rfl, hg7⟩
    have hb7 : Below w.heap.size w w7 := hb6.trans (hg7.mono hb6.size)
    go_wp2_with fail
    go_ret
    exact ⟨rfl, hb7⟩

end Go.Proofs.Ytgihglodekoddaa

