/-
  The contract of the document's PairsOf (as in maps/RPairs, upon less).
-/
import Derived.Test.YtofceccicmlmoaaGreatRKeyed
import Derived.Test.YtofceccicmlmoaaGreatRowX
import Derived.Deep.AppendLies
import Derived.Deep.RegionHeld3
namespace Go.Proofs.YtofceccicmlmoaaGreat
open Go.RowKit

/-- Pairs of a row of values. -/
def unkvQ : List PR → List PP
  | x :: y :: l => (x, y) :: unkvQ l
  | _ => []

theorem unkvQ_len : ∀ ps : List PR, (unkvQ ps).length = ps.length / 2
  | [] => rfl
  | [_] => by simp [unkvQ]
  | x :: y :: l => by
    show (unkvQ l).length + 1 = _
    rw [unkvQ_len l]; simp only [List.length_cons]; omega

theorem unkvQ_map : ∀ ps : List PR, (unkvQ ps).map trT = unkv (ps.map (·.1))
  | [] => rfl
  | [_] => rfl
  | x :: y :: l => by
    show (x.1, y.1) :: (unkvQ l).map trT = (x.1, y.1) :: unkv (l.map (·.1))
    rw [unkvQ_map l]

theorem unkvQ_mem : ∀ (ps : List PR) (p : PP), p ∈ unkvQ ps → p.1 ∈ ps ∧ p.2 ∈ ps
  | [], p, h => by cases h
  | [_], p, h => by cases h
  | x :: y :: l, p, h => by
    rcases List.mem_cons.1 h with rfl | h
    · simp
    · have := unkvQ_mem l p h
      exact ⟨List.mem_cons_of_mem _ (List.mem_cons_of_mem _ this.1), List.mem_cons_of_mem _ (List.mem_cons_of_mem _ this.2)⟩

theorem unkvQ_get : ∀ (ps : List PR) (j : Nat) (h : 2 * j + 1 < ps.length), (unkvQ ps)[j]? = some (ps[2 * j], ps[2 * j + 1])
  | [], j, h => by simp at h
  | [_], j, h => by simp at h
  | x :: y :: l, 0, h => rfl
  | x :: y :: l, j + 1, h => by
    have h2 : 2 * j + 1 < l.length := by simp at h; omega
    have := unkvQ_get l j h2
    show (unkvQ l)[j]? = _
    rw [this]
    simp only [show 2 * (j + 1) = 2 * j + 1 + 1 by omega, List.getElem_cons_succ]

theorem unkvQ_take (ps : List PR) (j : Nat) (h : 2 * j + 1 < ps.length) : (unkvQ ps).take (j + 1) = (unkvQ ps).take j ++ [(ps[2 * j], ps[2 * j + 1])] := by
  rw [List.take_add_one, unkvQ_get ps j h]; rfl

/-- A pair whose values lie in blocks of X. -/
def GX (X : Nat → Prop) (d : Nat) (w : World) (p : PP) : Prop := (LiesX X d w p.1.1.items p.1.2 ∧ p.1.1.text.size ≤ 9223372036854775807) ∧ (LiesX X d w p.2.1.items p.2.2 ∧ p.2.1.text.size ≤ 9223372036854775807)

theorem GX.good {X : Nat → Prop} {d : Nat} {w W : World} {p : PP} (h : GX X d w p) (hb : Below w.heap.size w W) : GoodQ d W p := ⟨⟨(h.1.1.keeps hb).lies, h.1.2⟩, ⟨(h.2.1.keeps hb).lies, h.2.2⟩⟩

set_option maxRecDepth 100000 in
set_option maxHeartbeats 16000000 in
theorem rpairsX (X : Nat → Prop) (d : Nat) (t : VT) (u : Value) (w0 w : World) (hu : LiesX X (d + 1) w0 t.items u) (hbw0 : Below w0.heap.size w0 w) (hlen : t.items.length ≤ 1024) :
    Calls Tryz.prog 63 #[.agg #[.int .i64 t.kind, .int .i64 t.num, .string t.text, u]] w fun e w' => ∃ v, e = .returned v ∧ ∃ qs, SlQ w.heap.size d w' qs v ∧ qs.map trT = unkv t.items ∧ (∀ p ∈ qs, GX X d w0 p) ∧ Below w.heap.size w w' := by
  obtain ⟨i0, hi, hz0, hz1, hz2⟩ := infoQ
  have Hi : Hid _ := hi; have Hz0 : Hid _ := hz0; have Hz1 : Hid _ := hz1; have Hz2 : Hid _ := hz2
  clear hi hz0 hz1 hz2
  have hu2 := hu
  obtain ⟨a, c, hv0, hc0, hxx⟩ := hu2
  clear hxx
  subst hv0
  obtain ⟨a', c', hv, ps, hps, hlie, hrw⟩ := LiesX.row hu
  injection hv with e1 e2 e3
  clear e2
  subst e1
  subst e3
  have hpl : ps.length = t.items.length := by rw [← hps, List.length_map]
  have hne : ps ≠ [] → t.items ≠ [] := fun h e => h (List.eq_nil_of_length_eq_zero (by rw [hpl, e]; rfl))
  have hsl : SlP 0 d w ps (.slice a t.items.length c) := ⟨a, c, by rw [hpl], by rw [hpl]; exact hc0.1, by rw [hpl]; omega, (fun h => by
    obtain ⟨b, o, ha, _, hr⟩ := hrw (hne h)
    exact ⟨b, o, ha, Nat.zero_le _, hr.keeps hbw0⟩), fun p hp => ⟨((hlie p hp).1.keeps hbw0).lies, (hlie p hp).2⟩⟩
  have HGX : Hid (∀ p ∈ unkvQ ps, GX X d w0 p) := fun p hp => by
    have := unkvQ_mem ps p hp
    exact ⟨hlie _ this.1, hlie _ this.2⟩

  have HSP : Hid (SlP 0 d w ps (.slice a t.items.length c)) := hsl
  have HPm : Hid ((unkvQ ps).map trT = unkv t.items) := by show _ = _; rw [unkvQ_map, hps]
  have Hpl : Hid (ps.length = t.items.length) := hpl
  have HGd : Hid (∀ p ∈ unkvQ ps, GoodQ d w p) := fun p hp => by
    obtain ⟨_, _, _, _, _, _, h4⟩ := hsl
    have := unkvQ_mem ps p hp
    exact ⟨h4 _ this.1, h4 _ this.2⟩
  have hb0 : Below w.heap.size w (w.alloc (.cells #[.int .i64 t.kind, .int .i64 t.num, .string t.text, .slice a t.items.length c] 24)) := ((Grew.refl w).alloc _).below
  have HB3 : Hid ((w.alloc (.cells #[.int .i64 t.kind, .int .i64 t.num, .string t.text, .slice a t.items.length c] 24)).cell? ⟨w.heap.size, 3, none⟩ = some (.slice a t.items.length c)) := by show _ = _; simp
  clear hu hps hpl hsl hlie hrw hne hc0
  generalize hL : t.items.length = L at *
  clear hL
  go_enter Tryz.func63, Tryz.ntmps63
  go_wp2_with fail
  go_loopg [4, 3] L (fun z vi vo wr => ∃ (j J : Nat), vi = .int .i64 (J : Int) ∧ Hid (J = 2 * j) ∧ z = L - J ∧ J ≤ L ∧ Hid (wr.ownsRow (w.heap.size + 1) 87 8 vo j (((unkvQ ps).take j).flatMap encQ)) ∧ Below (w.heap.size + 1) (w.alloc (.cells #[.int .i64 t.kind, .int .i64 t.num, .string t.text, .slice a L c] 24)) wr)
  case atStart => exact ⟨0, 0, rfl, rfl, rfl, Nat.zero_le _, by simp; exact World.ownsRow_nil _ _ _ _, Below.refl _ _⟩
  case round =>
    obtain ⟨j, J, rfl, HJ, hk, hJL, Hown, hbw⟩ := hrel
    have Hk : Hid _ := hk
    clear hk
    have hbw0 : Below (w.alloc (.cells #[.int .i64 t.kind, .int .i64 t.num, .string t.text, .slice a L c] 24)).heap.size (w.alloc (.cells #[.int .i64 t.kind, .int .i64 t.num, .string t.text, .slice a L c] 24)) wr := by rw [World.size_alloc]; exact hbw
    have hbw1 : Below w.heap.size w wr := hb0.trans (hbw0.mono hb0.size)
    have hwl : w.heap.size + 1 ≤ wr.heap.size := by have := hbw0.size; simpa using this
    have qb := cell_keeps hbw0 HB3.out
    obtain ⟨Q, hQ⟩ : ∃ Q, Q = J + 1 := ⟨_, rfl⟩
    have hwQ : IntKind.i64.wrap ((J : Int) + 1) = (Q : Int) := by rw [IntKind.wrap_i64]; omega
    have HQ : Hid (Q = J + 1) := hQ
    by_cases hql : Q < L
    · have hqi : (Q : Int) < (L : Nat) := by omega
      have hJl : J < L := by omega
      have hji : (J : Int) < (L : Nat) := by omega
      have hq2 : Q < ps.length := by have := Hpl.out; omega
      have hj2 : J < ps.length := by omega
      have hs0 := HSP.out
      rw [← Hpl.out] at hs0
      obtain ⟨b, o, c', hv, _, hrow, hsd⟩ := hs0.some (fun e => by rw [e] at hj2; cases hj2)
      have ha : a = some ⟨b, o, none⟩ := by injection hv
      subst ha
      have Htk : Hid ((unkvQ ps).take (j + 1) = (unkvQ ps).take j ++ [(ps[J], ps[Q])]) := by
        have e1 := HJ.out
        have e2 : 2 * j + 1 < ps.length := by omega
        have := unkvQ_take ps j e2
        show _ = _
        rw [this]
        simp only [hQ, e1]
      obtain ⟨p0, p1, p2, p3⟩ := hrow J hj2
      obtain ⟨r0, r1, r2, r3⟩ := hrow Q hq2
      have hsx := hsd ps[J] (List.getElem_mem hj2)
      have hsy := hsd ps[Q] (List.getElem_mem hq2)
      generalize ps[J] = xx at *
      generalize ps[Q] = yy at *
      obtain ⟨x, xv⟩ := xx
      obtain ⟨y, yv⟩ := yy
      obtain ⟨xa, xc, ex, _⟩ := Lies.slice hsx.1
      obtain ⟨ya, yc, ey, _⟩ := Lies.slice hsy.1
      simp only at ex ey
      subst ex ey
      have p0 := cell_keeps hbw1 p0; have p1 := cell_keeps hbw1 p1; have p2 := cell_keeps hbw1 p2; have p3 := cell_keeps hbw1 p3
      have r0 := cell_keeps hbw1 r0; have r1 := cell_keeps hbw1 r1; have r2 := cell_keeps hbw1 r2; have r3 := cell_keeps hbw1 r3
      simp only at p0 p1 p2 p3 r0 r1 r2 r3
      have hbl : b < w.heap.size := by have h1 := (hrow J hj2).1; exact cell_lt h1
      have hblr : b < wr.heap.size := by omega
      have hnb : ¬ (b = wr.heap.size) := by omega
      have hnw : ¬ (w.heap.size = wr.heap.size) := by omega
      have hjj : j ≤ 1024 := by have := HJ.out; omega
      clear hrow hsd hsx hsy hs0 hv hq2 hj2 hQ
      go_wp2_with fail
      go_region_held3 (fun w' => (w'.cell? ⟨w.heap.size, 3, none⟩ = some (.slice (some ⟨b, o, none⟩) L c)) ∧ (w'.cell? ⟨b, o + J * 4, none⟩ = some (.int .i64 x.kind) ∧ w'.cell? ⟨b, o + J * 4 + 1, none⟩ = some (.int .i64 x.num) ∧ w'.cell? ⟨b, o + J * 4 + 2, none⟩ = some (.string x.text) ∧ w'.cell? ⟨b, o + J * 4 + 3, none⟩ = some (.slice xa x.items.length xc)) ∧ (w'.cell? ⟨b, o + Q * 4, none⟩ = some (.int .i64 y.kind) ∧ w'.cell? ⟨b, o + Q * 4 + 1, none⟩ = some (.int .i64 y.num) ∧ w'.cell? ⟨b, o + Q * 4 + 2, none⟩ = some (.string y.text) ∧ w'.cell? ⟨b, o + Q * 4 + 3, none⟩ = some (.slice ya y.items.length yc))) (go_keep)
        (first | (refine step_append_lies _ rfl _ _ 83 rfl (w.heap.size + 1) 87 i0 (.agg #[.int .i64 0, .int .i64 0, .string ⟨#[]⟩, .slice none 0 0, .int .i64 0, .int .i64 0, .string ⟨#[]⟩, .slice none 0 0]) 8 112 Tryz.underlying83 Hi.out Hz0.out Hz1.out Hz2.out rfl (by decide) _ _ _ rfl (Hown.out.alloc _) ⟨wr.heap.size, 0, none⟩ 1 1 [.int .i64 x.kind, .int .i64 x.num, .string x.text, .slice xa x.items.length xc, .int .i64 y.kind, .int .i64 y.num, .string y.text, .slice ya y.items.length yc] rfl rfl (fun q u hq => by match q, hq with | 0, hq => (simp at hq; subst hq; simp [Addr.add]) | 1, hq => (simp at hq; subst hq; simp [Addr.add]) | 2, hq => (simp at hq; subst hq; simp [Addr.add]) | 3, hq => (simp at hq; subst hq; simp [Addr.add]) | 4, hq => (simp at hq; subst hq; simp [Addr.add]) | 5, hq => (simp at hq; subst hq; simp [Addr.add]) | 6, hq => (simp at hq; subst hq; simp [Addr.add]) | 7, hq => (simp at hq; subst hq; simp [Addr.add]) | q + 8, hq => simp at hq) (fun u hu => by simp at hu; rcases hu with rfl | rfl | rfl | rfl | rfl | rfl | rfl | rfl <;> rfl) (by decide) (by unfold maxLen; omega) (by omega) (by simp; omega) _ rfl ?_; intro G K w3 hown hgrow hat hlt3; have hob : ∀ k, (u3).ownBlock = some k → w.heap.size + 1 ≤ k := fun k hk => (Hown.out.lt k hk).1; have kqb : w3.cell? ⟨w.heap.size, 3, none⟩ = some (.slice (some ⟨b, o, none⟩) L c) := (World.cell?_of_block (hgrow.block w.heap.size (by simp; omega) (fun e => by have := hob _ e.symm; omega))).trans (cell_keeps ((Below.refl _ _).alloc (Nat.le_refl _) _) qb); have kp0 : w3.cell? ⟨b, o + J * 4, none⟩ = some (.int .i64 x.kind) := (World.cell?_of_block (hgrow.block b (by simp; omega) (fun e => by have := hob _ e.symm; omega))).trans (cell_keeps ((Below.refl _ _).alloc (Nat.le_refl _) _) p0); have kp1 : w3.cell? ⟨b, o + J * 4 + 1, none⟩ = some (.int .i64 x.num) := (World.cell?_of_block (hgrow.block b (by simp; omega) (fun e => by have := hob _ e.symm; omega))).trans (cell_keeps ((Below.refl _ _).alloc (Nat.le_refl _) _) p1); have kp2 : w3.cell? ⟨b, o + J * 4 + 2, none⟩ = some (.string x.text) := (World.cell?_of_block (hgrow.block b (by simp; omega) (fun e => by have := hob _ e.symm; omega))).trans (cell_keeps ((Below.refl _ _).alloc (Nat.le_refl _) _) p2); have kp3 : w3.cell? ⟨b, o + J * 4 + 3, none⟩ = some (.slice xa x.items.length xc) := (World.cell?_of_block (hgrow.block b (by simp; omega) (fun e => by have := hob _ e.symm; omega))).trans (cell_keeps ((Below.refl _ _).alloc (Nat.le_refl _) _) p3); have kr0 : w3.cell? ⟨b, o + Q * 4, none⟩ = some (.int .i64 y.kind) := (World.cell?_of_block (hgrow.block b (by simp; omega) (fun e => by have := hob _ e.symm; omega))).trans (cell_keeps ((Below.refl _ _).alloc (Nat.le_refl _) _) r0); have kr1 : w3.cell? ⟨b, o + Q * 4 + 1, none⟩ = some (.int .i64 y.num) := (World.cell?_of_block (hgrow.block b (by simp; omega) (fun e => by have := hob _ e.symm; omega))).trans (cell_keeps ((Below.refl _ _).alloc (Nat.le_refl _) _) r1); have kr2 : w3.cell? ⟨b, o + Q * 4 + 2, none⟩ = some (.string y.text) := (World.cell?_of_block (hgrow.block b (by simp; omega) (fun e => by have := hob _ e.symm; omega))).trans (cell_keeps ((Below.refl _ _).alloc (Nat.le_refl _) _) r2); have kr3 : w3.cell? ⟨b, o + Q * 4 + 3, none⟩ = some (.slice ya y.items.length yc) := (World.cell?_of_block (hgrow.block b (by simp; omega) (fun e => by have := hob _ e.symm; omega))).trans (cell_keeps ((Below.refl _ _).alloc (Nat.le_refl _) _) r3)))
      have hb3 : Below (w.heap.size + 1) (w.alloc (.cells #[.int .i64 t.kind, .int .i64 t.num, .string t.text, .slice (some ⟨b, o, none⟩) L c] 24)) w3 := own_growM (hbw.drew.alloc (by simpa using hwl) _) (by simp; omega) (Hown.out.alloc _) hgrow
      have Hown3 : Hid (w3.ownsRow (w.heap.size + 1) 87 8 (.slice (some ⟨G, 0, none⟩) (j + 1) K) (j + 1) (((unkvQ ps).take (j + 1)).flatMap encQ)) := by
        show World.ownsRow _ _ _ _ _ _ _
        rw [Htk.out, List.flatMap_append]
        simpa [encQ, encP] using hown
      clear hown hgrow hat hlt3 hob kqb kp0 kp1 kp2 kp3 kr0 kr1 kr2 kr3 qb p0 p1 p2 p3 r0 r1 r2 r3 Hown Htk
      have hQ2 := HQ.out
      have hJl2 : J < 1024 := by omega
      clear HQ
      go_wp2_with fail
      go_roundg (L - (J + 2))
      case measure => have := Hk.out; omega
      case rel => exact ⟨j + 1, J + 2, by go_num, (by show _ = _; have := HJ.out; omega), rfl, by omega, Hown3, hb3⟩
    · have hqi : ¬ (Q : Int) < (L : Nat) := by omega
      have HE : Hid (SlQ w.heap.size d wr (unkvQ ps) u3 ∧ Below w.heap.size w wr) := by
        refine ⟨?_, hbw1⟩
        have h1 := Hown.out
        have hl := unkvQ_len ps
        have hpl := Hpl.out
        have hj := HJ.out
        rw [List.take_of_length_le (by omega)] at h1
        exact (SlQ.of_own (d := d) (by omega) h1 (fun p hp => (HGd.out p hp).keeps hbw1) (by omega)).mono (by omega)
      obtain ⟨a6, c6, rfl, _⟩ := SlQ.slice HE.out.1
      have hqi2 : ¬ ((J : Int) + 1 < (L : Nat)) := by omega
      clear Hown hwQ
      go_wp2_with fail
      go_ret
      exact ⟨_, rfl, unkvQ ps, HE.out.1, HPm.out, (fun _ _ _ _ h => HGX.out _ h), HE.out.2⟩

end Go.Proofs.YtofceccicmlmoaaGreat

