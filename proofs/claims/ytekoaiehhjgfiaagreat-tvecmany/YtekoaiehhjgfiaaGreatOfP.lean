/-
  Of and Push, as soon as grown has its contract.
-/
import Derived.Test.YtekoaiehhjgfiaaGreatJoinV
import Derived.Test.YtekoaiehhjgfiaaGreatVList
import Derived.BigRegion
import Derived.Test.YtekoaiehhjgfiaaGreatVecM
namespace Go.Proofs.YtekoaiehhjgfiaaGreat
open Go.RowKit

theorem right_len16 {t : VT} (hr : rightV 16 t = true) : Len 16 t := by
  have h := hr
  simp only [rightV, Bool.and_eq_true] at h
  exact sm_len 16 t (fw_small 16 t 16 1024 (by omega) (by omega) h.1)

theorem copyR (t : VT) (u : Value) (w : World) (hl : Lies 16 w t.items u) (hr : rightV 16 t = true) : Calls Tryz.prog 75 #[.agg #[.int .i64 t.kind, .int .i64 t.num, .string t.text, u]] w (CopyPost 16 t w) :=
  copyOf_any (fun s => s.size ≤ 281474976710656) txt_any 16 t u w hl (right_txt 16 t (right_rp hr)) (right_len16 hr)

/-- What Nth tells. -/
def NthPost (r : VT ⊕ Nat) (w : World) (e : Ending) (w' : World) : Prop :=
  Below w.heap.size w w' ∧ match r with
  | .inl x => ∃ v, e = .returned (.tuple #[.agg #[.int .i64 x.kind, .int .i64 x.num, .string x.text, v], .int .i64 0]) ∧ LiesB w.heap.size 16 w' x.items v
  | .inr n => e = .returned (.tuple #[zeroAgg, .int .i64 (n : Int)])

set_option maxRecDepth 100000 in
set_option maxHeartbeats 4000000 in
theorem vnth_some (l : List VT) (p : Value) (n : Nat) (x : VT) (w : World) (h : VC 16 w l p) (hx : l[n]? = some x) (hr : rightV 16 x = true) (hbig : l.length ≤ 1099511627776) : Calls Tryz.prog 99 #[p, .int .i64 (n : Int)] w (NthPost (.inl x) w) := by
  have hbz : Below w.heap.size w (w.alloc (.cells #[.int .i64 0, .int .i64 0, .string ⟨#[]⟩, .slice none 0 0] 34)) := ((Grew.refl w).alloc _).below
  have HK : Hid (Blank (w.alloc (.cells #[.int .i64 0, .int .i64 0, .string ⟨#[]⟩, .slice none 0 0] 34)) w.heap.size) := blank_alloc w
  have hnl : n < l.length := (List.getElem?_eq_some_iff.1 hx).1
  have HO : Hid _ := hasPlace_any 16 l p (n : Int) _ (h.keeps hbz)
  have hd : decide ((0 : Int) ≤ (n : Int) ∧ (n : Int) < (l.length : Int)) = true := by simp; omega
  rw [hd] at HO
  have hl : l ≠ [] := fun e => by rw [e] at hnl; simp at hnl
  rcases h with ⟨h0, _⟩ | ⟨b, t, rfl, hc, ht⟩
  · exact absurd h0 hl
  rcases ht with ⟨h0, _⟩ | ⟨h, hnd, _⟩
  · exact absurd h0 hl
  have HIt : Hid (∀ V, Below w.heap.size w V → Calls Tryz.prog 143 #[t, .int .i64 (n : Int)] V (ItemPost 16 x w V)) := fun V hV => item_any 16 w h false l t n x V hnd hV hx hbig
  have HCp : Hid (∀ V u, Below w.heap.size w V → Lies 16 w x.items u → Calls Tryz.prog 75 #[.agg #[.int .i64 x.kind, .int .i64 x.num, .string x.text, u]] V (CopyPost 16 x V)) := fun V u hV hu => copyR x u V (Lies.keeps hV _ _ _ hu) hr
  have Hc : Hid (w.cell? ⟨b, 0, none⟩ = some t) := hc
  have hbl : b < w.heap.size := cell_lt hc
  have hnb : ¬ (b = w.heap.size) := by omega
  clear hx hr hnl hd hl hnd hc hbig
  go_enter Tryz.func99, Tryz.ntmps99
  go_wp2_with fail
  refine Calls.mono HO.out ?_
  rintro e w1 ⟨rfl, hg1⟩
  have hb1 : Below w.heap.size w w1 := hbz.trans (hg1.mono (by simp))
  have HK1 : Hid (Blank w1 w.heap.size) := HK.out.keeps hg1
  have hc1 := cell_keeps hb1 Hc.out
  clear HO HK
  go_wp2_with fail
  refine (HIt.out _ hb1).mono ?_
  rintro e w2 ⟨u, rfl, hu, hg2, hts⟩
  have hb2 : Below w.heap.size w w2 := hb1.trans (hg2.mono hb1.size)
  have HK2 : Hid (Blank w2 w.heap.size) := HK1.out.keeps hg2
  have HC2 : Hid _ := HCp.out w2 u hb2 hu
  clear HIt HCp hu hts HK1
  go_wp2_with fail
  refine Calls.mono HC2.out ?_
  rintro e w4 ⟨v, rfl, hLB, hg4⟩
  have hbw4 : Below w.heap.size w w4 := hb2.trans (hg4.mono hb2.size)
  have HK4 : Hid (Blank w4 w.heap.size) := HK2.out.keeps hg4
  have hs2 : w.heap.size < w2.heap.size := by
    have h9 := hg1.size
    have h8 := hg2.size
    simp at h9
    omega
  have HLB : Hid (LiesB (w.heap.size + 1) 16 w4 x.items v) := LiesB.lower (by omega) _ _ _ hLB
  clear HC2 HK2 hLB
  obtain ⟨y0, y1, y2, y3, z0, z1, z2, z3⟩ := HK4.out
  obtain ⟨av, cv, rfl, _⟩ := LiesB.slice HLB.out
  have Hbx : Hid _ := HK4.out.put (x, .slice av x.items.length cv)
  have Hbl : Hid _ := below_put hbw4 (Nat.le_refl _) (x, .slice av x.items.length cv)
  have Hfin : Hid (LiesB w.heap.size 16 (w4.setCells w.heap.size 0 (encP (x, .slice av x.items.length cv))) x.items (.slice av x.items.length cv)) :=
    LiesB.lower (by omega) _ _ _ (LiesB.stays (base := w.heap.size + 1) (fun x v hx hv => ⟨by rw [World.cell?_setCells_out w.heap.size _ 0 w4 x (fun e _ => by omega)]; exact hv, World.frozen?_setCells ..⟩) _ _ _ HLB.out)
  go_wp2_with fail
  refine bodyPost_ret (v := .tuple #[.agg #[.int .i64 x.kind, .int .i64 x.num, .string x.text, .slice av x.items.length cv], .int .i64 0]) ?_ rfl ⟨Hbl.out, _, rfl, Hfin.out⟩
  obtain ⟨q0, q1, q2, q3⟩ := Hbx.out
  simp only [encP, World.setCells, Nat.zero_add, Nat.reduceAdd] at q0 q1 q2 q3
  simp [results, Tryz.results99, go_sem, q0, q1, q2, q3]

set_option maxRecDepth 100000 in
set_option maxHeartbeats 4000000 in
theorem vnth_none (l : List VT) (p : Value) (i : Int) (w : World) (h : VC 16 w l p) (hi : ¬ (0 ≤ i ∧ i < (l.length : Int))) : Calls Tryz.prog 99 #[p, .int .i64 i] w (NthPost (.inr 5) w) := by
  have hbz : Below w.heap.size w (w.alloc (.cells #[.int .i64 0, .int .i64 0, .string ⟨#[]⟩, .slice none 0 0] 34)) := ((Grew.refl w).alloc _).below
  have HK : Hid (Blank (w.alloc (.cells #[.int .i64 0, .int .i64 0, .string ⟨#[]⟩, .slice none 0 0] 34)) w.heap.size) := blank_alloc w
  have HO : Hid _ := hasPlace_any 16 l p i _ (h.keeps hbz)
  rw [decide_eq_false hi] at HO
  clear h hi
  go_enter Tryz.func99, Tryz.ntmps99
  go_wp2_with fail
  refine Calls.mono HO.out ?_
  rintro e w1 ⟨rfl, hg1⟩
  have hb1 : Below w.heap.size w w1 := hbz.trans (hg1.mono (by simp))
  have HK1 : Hid (Blank w1 w.heap.size) := HK.out.keeps hg1
  clear HO HK
  obtain ⟨y0, y1, y2, y3, z0, z1, z2, z3⟩ := HK1.out
  have Hbx : Hid _ := HK1.out.put (⟨0, 0, ⟨#[]⟩, []⟩, .slice none 0 0)
  have Hbl : Hid _ := below_put hb1 (Nat.le_refl _) (⟨0, 0, ⟨#[]⟩, []⟩, .slice none 0 0)
  go_wp2_with fail
  refine bodyPost_ret (v := .tuple #[.agg #[.int .i64 0, .int .i64 0, .string ⟨#[]⟩, .slice none 0 0], .int .i64 5]) ?_ rfl ⟨Hbl.out, rfl⟩
  obtain ⟨q0, q1, q2, q3⟩ := Hbx.out
  simp only [encP, World.setCells, Nat.zero_add, Nat.reduceAdd] at q0 q1 q2 q3
  simp [results, Tryz.results99, go_sem, q0, q1, q2, q3]

end Go.Proofs.YtekoaiehhjgfiaaGreat

namespace Go.Proofs.YtekoaiehhjgfiaaGreat
open Go.RowKit

/-- What Pop tells. -/
def PopPost (l : List VT) (w : World) (e : Ending) (w' : World) : Prop :=
  Below w.heap.size w w' ∧ ((l = [] ∧ e = .returned (.tuple #[.pointer none, zeroAgg, .int .i64 6])) ∨
    ∃ m x b v, l = m ++ [x] ∧ e = .returned (.tuple #[.pointer (some ⟨b, 0, none⟩), .agg #[.int .i64 x.kind, .int .i64 x.num, .string x.text, v], .int .i64 0]) ∧ VC 16 w' m (.pointer (some ⟨b, 0, none⟩)) ∧ LiesB w.heap.size 16 w' x.items v)

set_option maxRecDepth 100000 in
set_option maxHeartbeats 4000000 in
theorem vpop_nil (p : Value) (w : World) (h : VC 16 w [] p) : Calls Tryz.prog 98 #[p] w (PopPost [] w) := by
  have hbz : Below w.heap.size w (w.alloc (.cells #[.int .i64 0, .int .i64 0, .string ⟨#[]⟩, .slice none 0 0] 34)) := ((Grew.refl w).alloc _).below
  have HK : Hid (Blank (w.alloc (.cells #[.int .i64 0, .int .i64 0, .string ⟨#[]⟩, .slice none 0 0] 34)) w.heap.size) := blank_alloc w
  have HLn : Hid _ := vlen_any 16 [] p _ (h.keeps hbz)
  have HNt : Hid (∀ V, Below w.heap.size w V → Calls Tryz.prog 99 #[p, .int .i64 (-1)] V (NthPost (.inr 5) V)) := fun V hV => vnth_none [] p (-1) V (h.keeps hV) (by omega)
  clear h
  simp only [List.length_nil] at HLn
  unfold NumPost at HLn
  go_enter Tryz.func98, Tryz.ntmps98
  go_wp2_with fail
  refine Calls.mono HLn.out ?_
  rintro e w1 ⟨rfl, hg1⟩
  have hb1 : Below w.heap.size w w1 := hbz.trans (hg1.mono (by simp))
  have HK1 : Hid (Blank w1 w.heap.size) := HK.out.keeps hg1
  clear HLn HK hg1
  go_wp2_with fail
  refine (HNt.out _ hb1).mono ?_
  rintro e w2 ⟨hg2, rfl⟩
  have hb2 : Below w.heap.size w w2 := hb1.trans (hg2.mono hb1.size)
  have HK2 : Hid (Blank w2 w.heap.size) := HK1.out.keeps hg2
  have hs1 : w.heap.size < w1.heap.size := cell_lt HK1.out.c0
  have hs2 : w.heap.size < w2.heap.size := Nat.lt_of_lt_of_le hs1 hg2.size
  have hn1 : ¬ (w.heap.size = w2.heap.size) := by omega
  have hn2 : ¬ (w2.heap.size = w.heap.size) := by omega
  clear HNt HK1 hg2
  unfold zeroAgg
  obtain ⟨y0, y1, y2, y3, z0, z1, z2, z3⟩ := HK2.out
  have Hbx : Hid _ := HK2.out.put (⟨0, 0, ⟨#[]⟩, []⟩, .slice none 0 0)
  have Hbl : Hid (Below w.heap.size w ((w2.setCells w.heap.size 0 (encP (⟨0, 0, ⟨#[]⟩, []⟩, .slice none 0 0))).alloc (.cells #[.int .i64 0, .int .i64 0, .string ⟨#[]⟩, .slice none 0 0] 34))) := (below_put hb2 (Nat.le_refl _) _).alloc (below_put hb2 (Nat.le_refl _) _).size _
  go_wp2_with fail
  refine bodyPost_ret (v := .tuple #[.pointer none, .agg #[.int .i64 0, .int .i64 0, .string ⟨#[]⟩, .slice none 0 0], .int .i64 6]) ?_ rfl ⟨Hbl.out, .inl ⟨rfl, rfl⟩⟩
  obtain ⟨q0, q1, q2, q3⟩ := Hbx.out
  simp only [encP, World.setCells, Nat.zero_add, Nat.reduceAdd] at q0 q1 q2 q3
  have k0 := KeepsC.alloc _ (.cells #[.int .i64 0, .int .i64 0, .string ⟨#[]⟩, .slice none 0 0] 34) _ _ q0
  have k1 := KeepsC.alloc _ (.cells #[.int .i64 0, .int .i64 0, .string ⟨#[]⟩, .slice none 0 0] 34) _ _ q1
  have k2 := KeepsC.alloc _ (.cells #[.int .i64 0, .int .i64 0, .string ⟨#[]⟩, .slice none 0 0] 34) _ _ q2
  have k3 := KeepsC.alloc _ (.cells #[.int .i64 0, .int .i64 0, .string ⟨#[]⟩, .slice none 0 0] 34) _ _ q3
  simp [results, Tryz.results98, go_sem, k0, k1, k2, k3]

end Go.Proofs.YtekoaiehhjgfiaaGreat

namespace Go.Proofs.YtekoaiehhjgfiaaGreat
open Go.RowKit

/-- What lowered tells. -/
def LowPostX (X : Nat → Prop) (d : Nat) (l : List VT) (w : World) (e : Ending) (w' : World) : Prop := ∃ v, e = .returned v ∧ TNX X d w l v ∧ w' = w

/-- What first tells. -/
def JoinX (X : Nat → Prop) (d : Nat) (l : List VT) (w : World) (e : Ending) (w' : World) : Prop := ∃ v, e = .returned v ∧ OTX X d w' l v ∧ Below w.heap.size w w'

theorem TNX.tn {X : Nat → Prop} {d : Nat} {w : World} {l : List VT} {v : Value} (h : TNX X d w l v) : TN d w l v := by
  obtain ⟨h, hn, hp⟩ := h
  exact ⟨h, hn.nd _ _ _ _, hp⟩

theorem OTX.ot {X : Nat → Prop} {d : Nat} {w : World} {l : List VT} {v : Value} (h : OTX X d w l v) : OT d w l v := h.imp id TNX.tn

theorem OTX.stays {X : Nat → Prop} {d : Nat} {w w' : World} (hk : ∀ a v, X a.block → w.cell? a = some v → w'.cell? a = some v) {l : List VT} {v : Value} (h : OTX X d w l v) : OTX X d w' l v := by
  rcases h with h | ⟨h, hn, hp⟩
  · exact .inl h
  · exact .inr ⟨h, hn.stays (fun _ h => h) hk _ _ _ _, hp⟩

/-- As VC, in these blocks. -/
def VCX (X : Nat → Prop) (d : Nat) (w : World) (l : List VT) (p : Value) : Prop := (l = [] ∧ p = .pointer none) ∨ ∃ b t, p = .pointer (some ⟨b, 0, none⟩) ∧ X b ∧ w.cell? ⟨b, 0, none⟩ = some t ∧ OTX X d w l t

theorem VCX.vc {X : Nat → Prop} {d : Nat} {w : World} {l : List VT} {p : Value} (h : VCX X d w l p) : VC d w l p := by
  rcases h with h | ⟨b, t, hp, _, hc, ht⟩
  · exact .inl h
  · exact .inr ⟨b, t, hp, hc, ht.ot⟩

theorem VCX.stays {X : Nat → Prop} {d : Nat} {w w' : World} (hk : ∀ a v, X a.block → w.cell? a = some v → w'.cell? a = some v) {l : List VT} {p : Value} (h : VCX X d w l p) : VCX X d w' l p := by
  rcases h with h | ⟨b, t, hp, hx, hc, ht⟩
  · exact .inl h
  · exact .inr ⟨b, t, hp, hx, hk _ _ hx hc, ht.stays hk⟩

theorem VCX.keeps {X : Nat → Prop} {d : Nat} {w w' : World} {l : List VT} {p : Value} (h : VCX X d w l p) (hb : Below w.heap.size w w') : VCX X d w' l p := h.stays (fun _ _ _ hv => cell_keeps hb hv)

theorem VCX.made {X : Nat → Prop} {d : Nat} {w : World} {l : List VT} {t : Value} (hx : X w.heap.size) (ht : OTX X d w l t) (T : Nat) : VCX X d (w.alloc (.cells #[t] T)) l (.pointer (some ⟨w.heap.size, 0, none⟩)) :=
  .inr ⟨w.heap.size, t, rfl, hx, by simp, ht.stays (fun _ _ _ hv => cell_keeps ((Grew.refl w).alloc _).below hv)⟩

theorem VC.toX {d : Nat} {w : World} {l : List VT} {p : Value} (h : VC d w l p) {X : Nat → Prop} (hX : ∀ b, b < w.heap.size → X b) : VCX X d w l p := by
  rcases h with h | ⟨b, t, hp, hc, ht⟩
  · exact .inl h
  · refine .inr ⟨b, t, hp, hX b (cell_lt hc), hc, ?_⟩
    rcases ht with ht | ⟨h, hn, hpw⟩
    · exact .inl ht
    · exact .inr ⟨h, (ND.toX _ _ _ _ hn).mono hX _ _ _ _, hpw⟩

/-- A vector is told, in these blocks, or an error alone. -/
def VecX (X : Nat → Prop) (d : Nat) (r : List VT ⊕ Nat) (w : World) (e : Ending) (w' : World) : Prop :=
  Below w.heap.size w w' ∧ match r with
  | .inl l => ∃ b, e = .returned (.tuple #[.pointer (some ⟨b, 0, none⟩), .int .i64 0]) ∧ VCX X d w' l (.pointer (some ⟨b, 0, none⟩))
  | .inr n => e = .returned (.tuple #[.pointer none, .int .i64 (n : Int)])

set_option maxRecDepth 100000 in
set_option maxHeartbeats 4000000 in
theorem loweredX_any (X : Nat → Prop) (d : Nat) : ∀ (h : Nat) (l : List VT) (v : Value) (w : World), NDX X d h false w l v → Calls Tryz.prog 214 #[v] w (LowPostX X d l w) := by
  intro h
  induction h with
  | zero =>
    intro l v w hn
    have HE : Hid (LowPostX X d l w (.returned v) w) := ⟨v, rfl, ⟨0, hn, .inl rfl⟩, rfl⟩
    obtain ⟨b, a, c, rfl, _, hc, _⟩ := hn
    have ta := as_LB
    go_enter Tryz.func214, Tryz.ntmps214
    go_wp2_with fail
    go_ret
    exact HE.out
  | succ h ih =>
    intro l v w hn
    have HN : Hid (NDX X d (h + 1) false w l v) := hn
    obtain ⟨b, sl, el, ps, rfl, _, hc0, hc1, hsX, he, h1, h2, h3, hl, hp⟩ := hn
    have hs := hsX.slv
    obtain ⟨g, o, c, hsl, hcap, hcs⟩ := hs.full (fun e => by have := congrArg List.length e; rw [List.length_map, List.length_nil] at this; omega)
    subst hsl
    have p0 := hcs 0 (by rw [List.length_map]; omega)
    rw [List.getElem_map, Nat.add_zero] at p0
    rw [List.length_map] at hc0
    have ta := as_BB
    by_cases hone : ps.length = 1
    · obtain ⟨q, rfl⟩ := List.length_eq_one_iff.1 hone
      have hl0 : l = q.1 := by rw [hl]; simp
      have h0 : NDX X d h false w l q.2 := by
        have := hp 0 (by simp)
        rw [hl0]; simpa using this
      have HC : Hid _ := ih _ _ w h0
      have p0' : w.cell? ⟨g, o, none⟩ = some q.2 := p0
      have hc0' : w.cell? ⟨b, 0, none⟩ = some (.slice (some ⟨g, o, none⟩) 1 c) := hc0
      generalize q.2 = v0 at HC p0'
      clear hsX ih hp hcs hs he hc1 hcap hl hl0 h0 h3 HN hone p0 hc0
      go_enter Tryz.func214, Tryz.ntmps214
      go_wp2_with fail
      refine Calls.mono HC.out ?_
      rintro e w1 ⟨v1, rfl, ht, rfl⟩
      have HE : Hid (LowPostX X d l w1 (.returned v1) w1) := ⟨v1, rfl, ht, rfl⟩
      go_wp2_with fail
      go_ret
      exact HE.out
    · obtain ⟨L, hL⟩ : ∃ L, L = ps.length := ⟨_, rfl⟩
      have HE : Hid (LowPostX X d l w (.returned (.iface 158 (.pointer (some ⟨b, 0, none⟩)))) w) := by
        refine ⟨_, rfl, ⟨h + 1, HN.out, .inr ?_⟩, rfl⟩
        have h0 := hp 0 (by omega)
        have e0 : (false || decide (0 + 1 < ps.length)) = true := by simp; omega
        rw [e0] at h0
        have h9 := (h0.nd _ _ _ _).least _ _ _
        have := sum_mem_le (ps.map fun p => p.1.length) (ps[0]'(by omega)).1.length (List.mem_map.2 ⟨_, List.getElem_mem _, rfl⟩)
        rw [hl, flat_sum]
        omega
      rw [← hL] at hc0 hone
      have hLi : ¬ ((L : Nat) : Int) = 1 := by omega
      clear hsX p0 ih hp hcs hs he hc1 hcap hl h1 h2 h3 HN hL
      go_enter Tryz.func214, Tryz.ntmps214
      go_wp2_with fail
      go_ret
      exact HE.out

/-- What first tells. -/
theorem firstX_any (X : Nat → Prop) (d : Nat) (l : List VT) (v : Value) (n : Nat) (w : World) (hX : ∀ b, w.heap.size ≤ b → X b) (ht : OTX X d w l v) (hn : n ≤ l.length) (hbig : l.length ≤ 1099511627776) : Calls Tryz.prog 187 #[v, .int .i64 (n : Int)] w (JoinX X d (l.take n) w) := by
  by_cases h0 : n = 0
  · subst h0
    have HE : Hid (JoinX X d (l.take 0) w (.returned .nilIface) w) := ⟨_, rfl, .inl ⟨by simp, rfl⟩, Below.refl _ _⟩
    go_enter Tryz.func187, Tryz.ntmps187
    go_wp2_with fail
    go_ret
    exact HE.out
  · rcases ht with ⟨rfl, rfl⟩ | ht
    · simp at hn; omega
    obtain ⟨h, hnd, hpow⟩ := ht
    have HH : Hid _ := headX_any X d h false l v n w hX hnd (by omega) hn hbig
    have hni : ¬ ((n : Nat) : Int) = 0 := by omega
    clear hnd hpow hX
    go_enter Tryz.func187, Tryz.ntmps187
    go_wp2_with fail
    refine Calls.mono HH.out ?_
    rintro e w1 ⟨T, p, rfl, hx, hb1⟩
    have HLo : Hid _ := loweredX_any X d h _ _ w1 hx
    clear hx HH
    go_wp2_with fail
    refine Calls.mono HLo.out ?_
    rintro e w3 ⟨v3, rfl, ht, hw⟩
    replace hw := hw.symm
    subst hw
    have HE : Hid (JoinX X d (l.take n) w (.returned v3) w1) := ⟨v3, rfl, .inr ht, hb1⟩
    clear HLo ht
    go_wp2_with fail
    go_ret
    exact HE.out

/-- What own tells of a vector in these blocks. -/
def OwnX (X : Nat → Prop) (d : Nat) (l : List VT) (w : World) (e : Ending) (w' : World) : Prop := ∃ b t, e = .returned (.pointer (some ⟨b, 0, none⟩)) ∧ w'.cell? ⟨b, 0, none⟩ = some t ∧ OTX X d w' l t ∧ Below w.heap.size w w'

set_option maxRecDepth 100000 in
theorem vownX_any (X : Nat → Prop) (d : Nat) (l : List VT) (p : Value) (w : World) (h : VCX X d w l p) : Calls Tryz.prog 53 #[p] w (OwnX X d l w) := by
  rcases h with ⟨rfl, rfl⟩ | ⟨b, t, rfl, _, hc, ht⟩
  · have HE : Hid (OwnX X d [] w (.returned (.pointer (some ⟨w.heap.size, 0, none⟩))) (w.alloc (.cells #[.nilIface] 80))) := ⟨w.heap.size, .nilIface, rfl, by simp, .inl ⟨rfl, rfl⟩, ((Grew.refl w).alloc _).below⟩
    go_enter Tryz.func53, Tryz.ntmps53
    go_wp2_with fail
    go_ret
    exact HE.out
  · have HE : Hid (OwnX X d l w (.returned (.pointer (some ⟨b, 0, none⟩))) w) := ⟨b, t, rfl, hc, ht, Below.refl _ _⟩
    clear hc ht
    go_enter Tryz.func53, Tryz.ntmps53
    go_wp2_with fail
    go_ret
    exact HE.out

set_option maxRecDepth 100000 in
set_option maxHeartbeats 4000000 in
theorem vfirstX_any (X : Nat → Prop) (d : Nat) (l : List VT) (p : Value) (i : Int) (w : World) (hX : ∀ b, w.heap.size ≤ b → X b) (h : VCX X d w l p) (hbig : l.length ≤ 1099511627776) : Calls Tryz.prog 142 #[p, .int .i64 i] w (VecX X d (if 0 ≤ i ∧ i ≤ (l.length : Int) then .inl (l.take i.toNat) else .inr 5) w) := by
  have HO : Hid _ := hasEnd_any d l p i w h.vc
  by_cases hi : 0 ≤ i ∧ i ≤ (l.length : Int)
  · rw [if_pos hi]
    rw [decide_eq_true hi] at HO
    obtain ⟨n, rfl⟩ := Int.eq_ofNat_of_zero_le hi.1
    have hn : n ≤ l.length := by omega
    rw [Int.toNat_natCast]
    have HW : Hid (∀ V, Below w.heap.size w V → Calls Tryz.prog 53 #[p] V (OwnX X d l V)) := fun V hV => vownX_any X d l p V (h.keeps hV)
    have HF : Hid (∀ V t, Below w.heap.size w V → OTX X d V l t → Calls Tryz.prog 187 #[t, .int .i64 (n : Int)] V (JoinX X d (l.take n) V)) := fun V t hV ht => firstX_any X d l t n V (fun b h => hX b (Nat.le_trans hV.size h)) ht hn hbig
    have HX : Hid (∀ b, w.heap.size ≤ b → X b) := hX
    clear h hi hn hbig hX
    go_enter Tryz.func142, Tryz.ntmps142
    go_wp2_with fail
    refine Calls.mono HO.out ?_
    rintro e w1 ⟨rfl, hb1⟩
    clear HO
    go_wp2_with fail
    refine (HW.out _ hb1).mono ?_
    rintro e w2 ⟨b, t, rfl, hc, ht, hb2⟩
    have hbw : Below w.heap.size w w2 := hb1.trans (hb2.mono hb1.size)
    have HC : Hid _ := HF.out w2 t hbw ht
    clear HF HW ht
    go_wp2_with fail
    refine Calls.mono HC.out ?_
    rintro e w3 ⟨v3, rfl, ht3, hb3⟩
    have hbx : Below w.heap.size w w3 := hbw.trans (hb3.mono hbw.size)
    have HE : Hid (VecX X d (.inl (l.take n)) w (.returned (.tuple #[.pointer (some ⟨w3.heap.size, 0, none⟩), .int .i64 0])) (w3.alloc (.cells #[v3] 80))) := ⟨hbx.alloc hbx.size _, w3.heap.size, rfl, VCX.made (HX.out _ hbx.size) ht3 _⟩
    obtain hv3 | ⟨T, q, hv3⟩ : v3 = .nilIface ∨ ∃ T q, v3 = .iface T q := by
      rcases ht3 with ⟨_, h⟩ | ⟨h, hn, _⟩
      · exact .inl h
      · exact .inr (nd_iface (hn.nd _ _ _ _))
    · subst hv3
      clear ht3 HC
      go_wp2_with fail
      go_ret2
      exact HE.out
    · subst hv3
      clear ht3 HC
      go_wp2_with fail
      go_ret2
      exact HE.out
  · rw [if_neg hi]
    rw [decide_eq_false hi] at HO
    clear h hi hbig hX
    go_enter Tryz.func142, Tryz.ntmps142
    go_wp2_with fail
    refine Calls.mono HO.out ?_
    rintro e w1 ⟨rfl, hb1⟩
    have HE : Hid (VecX X d (.inr 5) w (.returned (.tuple #[.pointer none, .int .i64 5])) w1) := ⟨hb1, rfl⟩
    clear HO
    go_wp2_with fail
    go_ret2
    exact HE.out

end Go.Proofs.YtekoaiehhjgfiaaGreat

namespace Go.Proofs.YtekoaiehhjgfiaaGreat
open Go.RowKit

/-- What Set tells. -/
def setR (l : List VT) (i : Int) (x : VT) : List VT ⊕ Nat := if rightV 16 x = true then (if 0 ≤ i ∧ i < (l.length : Int) then .inl (l.set i.toNat x) else .inr 5) else .inr 3

set_option maxRecDepth 100000 in
set_option maxHeartbeats 8000000 in
theorem vset_any (l : List VT) (p : Value) (i : Int) (x : VT) (ax : Option Addr) (cx : Nat) (w : World) (h : VC 16 w l p) (hx : Lies 16 w x.items (.slice ax x.items.length cx)) (hts : x.text.size ≤ 9223372036854775807) (hbig : l.length ≤ 1099511627776) :
    Calls Tryz.prog 97 #[p, .int .i64 i, .agg #[.int .i64 x.kind, .int .i64 x.num, .string x.text, .slice ax x.items.length cx]] w (VecPost 16 (setR l i x) w) := by
  have hb0 : Below w.heap.size w (w.alloc (.cells #[.int .i64 x.kind, .int .i64 x.num, .string x.text, .slice ax x.items.length cx] 34)) := ((Grew.refl w).alloc _).below
  have Hb0 : Hid (Below w.heap.size w (w.alloc (.cells #[.int .i64 x.kind, .int .i64 x.num, .string x.text, .slice ax x.items.length cx] 34))) := hb0
  have HCk : Hid _ := check_any 16 x (.slice ax x.items.length cx) _ (Lies.keeps hb0 _ _ _ hx) hts
  obtain ⟨x0, x1, x2, x3, z0, z1, z2, z3⟩ := bx_alloc w x (.slice ax x.items.length cx)
  obtain ⟨R, hR⟩ : ∃ R, R = setR l i x := ⟨_, rfl⟩
  rw [← hR]
  unfold setR at hR
  by_cases hr : rightV 16 x = true
  · rw [if_pos hr] at hR
    rw [hr] at HCk
    have HO : Hid (∀ V, Below w.heap.size w V → Calls Tryz.prog 140 #[p, .int .i64 i] V (BoolPost (decide (0 ≤ i ∧ i < (l.length : Int))) V)) := fun V hV => hasPlace_any 16 l p i V (h.keeps hV)
    by_cases hi : 0 ≤ i ∧ i < (l.length : Int)
    · rw [if_pos hi] at hR
      rw [decide_eq_true hi] at HO
      obtain ⟨n, rfl⟩ := Int.eq_ofNat_of_zero_le hi.1
      rw [Int.toNat_natCast] at hR
      have hl : l ≠ [] := fun e => by rw [e] at hi; simp at hi; omega
      rcases h with ⟨h0, _⟩ | ⟨b, t, rfl, hc, ht⟩
      · exact absurd h0 hl
      rcases ht with ⟨h0, _⟩ | ⟨hh, hnd, hpow⟩
      · exact absurd h0 hl
      have Hc : Hid (w.cell? ⟨b, 0, none⟩ = some t) := hc
      have HCp : Hid (∀ V, Below w.heap.size w V → Calls Tryz.prog 75 #[.agg #[.int .i64 x.kind, .int .i64 x.num, .string x.text, .slice ax x.items.length cx]] V (CopyPost 16 x V)) := fun V hV => copyR x _ V (Lies.keeps hV _ _ _ hx) hr
      have HW : Hid (∀ V av cv, Below w.heap.size w V → Lies 16 V x.items (.slice av x.items.length cv) → Calls Tryz.prog 141 #[t, .int .i64 (n : Int), .agg #[.int .i64 x.kind, .int .i64 x.num, .string x.text, .slice av x.items.length cv]] V (NodePost 16 hh false (l.set n x) V)) := fun V av cv hV hv => with_any 16 hh false l t n x av cv V (hnd.keeps hV _ _ _ _) (by omega) hbig hv hts
      have Hpow : Hid (hh = 0 ∨ 16 ^ hh ≤ (l.set n x).length) := by show _ ∨ _; rw [List.length_set]; exact hpow
      have HR : Hid (R = .inl (l.set n x)) := hR
      have hbl : b < w.heap.size := cell_lt hc
      have hnb : ¬ (b = w.heap.size) := by omega
      clear hx hts hbig hr hi hl hnd hpow hc hR hb0
      go_enter Tryz.func97, Tryz.ntmps97
      go_wp2_with fail
      refine Calls.mono HCk.out ?_
      rintro e w1 ⟨rfl, hg1⟩
      have hb1 : Below w.heap.size w w1 := Hb0.out.trans (hg1.mono Hb0.out.size)
      have y0 := cell_keeps hg1 x0
      have y1 := cell_keeps hg1 x1
      have y2 := cell_keeps hg1 x2
      have y3 := cell_keeps hg1 x3
      clear HCk x0 x1 x2 x3 z0 z1 z2 z3
      simp only [errOf]
      go_wp2_with fail
      refine (HO.out _ hb1).mono ?_
      rintro e w2 ⟨rfl, hg2⟩
      have hb2 : Below w.heap.size w w2 := hb1.trans (hg2.mono hb1.size)
      have x0 := cell_keeps hg2 y0
      have x1 := cell_keeps hg2 y1
      have x2 := cell_keeps hg2 y2
      have x3 := cell_keeps hg2 y3
      have hc := cell_keeps hb2 Hc.out
      clear HO y0 y1 y2 y3 hg1 hg2
      go_wp2_with fail
      go_region_held3 (fun w' => (w'.cell? ⟨b, 0, none⟩ = some t) ∧ (w'.cell? ⟨w.heap.size, 0, none⟩ = some (.int .i64 x.kind) ∧ w'.cell? ⟨w.heap.size, 1, none⟩ = some (.int .i64 x.num) ∧ w'.cell? ⟨w.heap.size, 2, none⟩ = some (.string x.text) ∧ w'.cell? ⟨w.heap.size, 3, none⟩ = some (.slice ax x.items.length cx))) (go_keep)
        (first
          | (go_at_call 141; refine Calls.mono HWc.out ?_; rintro e w4 ⟨T, q, rfl, hnd4, hg4⟩; have hb4 : Below w.heap.size w w4 := hb3.trans (hg4.mono hb3.size); have HN4 : Hid (ND 16 hh false w4 (l.set n x) (.iface T q)) := hnd4; clear hnd4; have hc := cell_keeps hg4 hc; have x0 := cell_keeps hg4 x0; have x1 := cell_keeps hg4 x1; have x2 := cell_keeps hg4 x2; have x3 := cell_keeps hg4 x3)
          | (go_at_call 75; refine (HCp.out _ hb2.drew).mono ?_; rintro e w3 ⟨v3, rfl, hLB, hg3⟩; have hbA : Below w2.heap.size w2 w3 := (Below.refl _ _).drew.trans hg3; have hb3 : Below w.heap.size w w3 := hb2.trans (hbA.mono hb2.size); have HL3 : Hid (Lies 16 w3 x.items v3) := LiesB.lies _ _ _ hLB; clear hLB hg3; obtain ⟨av, cv, rfl, _⟩ := Lies.slice HL3.out; have HWc : Hid _ := HW.out w3 av cv hb3 HL3.out; have hc := cell_keeps hbA hc; have x0 := cell_keeps hbA x0; have x1 := cell_keeps hbA x1; have x2 := cell_keeps hbA x2; have x3 := cell_keeps hbA x3))
      have HE : Hid (VecPost 16 R w (.returned (.tuple #[.pointer (some ⟨w4.heap.size, 0, none⟩), .int .i64 0])) (w4.alloc (.cells #[.iface T q] 80))) := by
        show VecPost _ _ _ _ _
        rw [HR.out]
        exact ⟨hb4.alloc hb4.size _, w4.heap.size, rfl, VC.made (.inr ⟨hh, HN4.out, Hpow.out⟩) _⟩
      clear x0 x1 x2 x3 hc HN4 HWc HW HCp
      go_wp2_with fail
      go_ret2
      exact HE.out
    · rw [if_neg hi] at hR
      rw [decide_eq_false hi] at HO
      have HR : Hid (R = .inr 5) := hR
      clear h hx hts hbig hr hi hR hb0
      go_enter Tryz.func97, Tryz.ntmps97
      go_wp2_with fail
      refine Calls.mono HCk.out ?_
      rintro e w1 ⟨rfl, hg1⟩
      have hb1 : Below w.heap.size w w1 := Hb0.out.trans (hg1.mono Hb0.out.size)
      clear HCk x0 x1 x2 x3 z0 z1 z2 z3
      simp only [errOf]
      go_wp2_with fail
      refine (HO.out _ hb1).mono ?_
      rintro e w2 ⟨rfl, hg2⟩
      have HE : Hid (VecPost 16 R w (.returned (.tuple #[.pointer none, .int .i64 5])) w2) := by
        show VecPost _ _ _ _ _
        rw [HR.out]
        exact ⟨hb1.trans (hg2.mono hb1.size), rfl⟩
      clear HO
      go_wp2_with fail
      go_ret2
      exact HE.out
  · rw [if_neg hr] at hR
    have hr' : rightV 16 x = false := by simpa using hr
    rw [hr'] at HCk
    have HR : Hid (R = .inr 3) := hR
    clear h hx hts hbig hr hr' hR hb0
    go_enter Tryz.func97, Tryz.ntmps97
    go_wp2_with fail
    refine Calls.mono HCk.out ?_
    rintro e w1 ⟨rfl, hg1⟩
    have HE : Hid (VecPost 16 R w (.returned (.tuple #[.pointer none, .int .i64 3])) w1) := by
      show VecPost _ _ _ _ _
      rw [HR.out]
      exact ⟨Hb0.out.trans (hg1.mono Hb0.out.size), rfl⟩
    clear HCk x0 x1 x2 x3 z0 z1 z2 z3
    simp only [errOf]
    go_wp2_with fail
    go_ret2
    exact HE.out

end Go.Proofs.YtekoaiehhjgfiaaGreat

namespace Go.Proofs.YtekoaiehhjgfiaaGreat
open Go.RowKit

/-- The contract of grown. -/
def GrC : Prop := ∀ (l : List VT) (u : Value) (w : World), Lies 17 w l u → l.length ≤ 65536 → Calls Tryz.prog 36 #[u] w (JoinPost 16 l w)

/-- What Of tells. -/
def ofR (l : List VT) : List VT ⊕ Nat := if 65536 < l.length then .inr 2 else if l.all (rightV 16) then .inl l else .inr 3

set_option maxRecDepth 100000 in
set_option maxHeartbeats 4000000 in
theorem of_core (hgr : GrC) (l : List VT) (u : Value) (w : World) (hu : Lies 17 w l u) : Calls Tryz.prog 7 #[u] w (VecPost 16 (ofR l) w) := by
  have HCk : Hid _ := checkAll_any 16 l u w hu
  obtain ⟨R, hR⟩ : ∃ R, R = ofR l := ⟨_, rfl⟩
  rw [← hR]
  unfold ofR at hR
  unfold listErr at HCk
  by_cases h1 : 65536 < l.length
  · rw [if_pos h1] at hR HCk
    have HR : Hid (R = .inr 2) := hR
    clear hR hu h1
    go_enter Tryz.func7, Tryz.ntmps7
    go_wp2_with fail
    refine Calls.mono HCk.out ?_
    rintro e w1 ⟨rfl, hb1⟩
    have HE : Hid (VecPost 16 R w (.returned (.tuple #[.pointer none, .int .i64 2])) w1) := by
      show VecPost _ _ _ _ _
      rw [HR.out]
      exact ⟨hb1, rfl⟩
    clear HCk
    go_wp2_with fail
    go_ret2
    exact HE.out
  · rw [if_neg h1] at hR HCk
    by_cases h2 : l.all (rightV 16) = true
    · rw [if_pos h2] at hR HCk
      have HR : Hid (R = .inl l) := hR
      have HCp : Hid (∀ V, Below w.heap.size w V → Calls Tryz.prog 37 #[u] V fun e w' => ∃ v, e = .returned v ∧ LiesB V.heap.size 17 w' l v ∧ Below V.heap.size V w') := fun V hV => copyAll_core 16 l u V (Lies.keeps hV _ _ _ hu) (by omega) (fun x v W hx hv _ => copyR x v W hv (List.all_eq_true.1 h2 x hx))
      have HGr : Hid (∀ V v, Lies 17 V l v → Calls Tryz.prog 36 #[v] V (JoinPost 16 l V)) := fun V v hv => hgr l v V hv (by omega)
      clear hR hu h1 h2
      go_enter Tryz.func7, Tryz.ntmps7
      go_wp2_with fail
      refine Calls.mono HCk.out ?_
      rintro e w1 ⟨rfl, hb1⟩
      clear HCk
      go_wp2_with fail
      refine (HCp.out _ hb1).mono ?_
      rintro e w2 ⟨v2, rfl, hLB, hb2⟩
      have hbw : Below w.heap.size w w2 := hb1.trans (hb2.mono hb1.size)
      have HG2 : Hid _ := HGr.out w2 v2 (LiesB.lies _ _ _ hLB)
      clear HCp HGr hLB
      go_wp2_with fail
      refine Calls.mono HG2.out ?_
      rintro e w3 ⟨v3, rfl, ht3, hb3⟩
      have hbx : Below w.heap.size w w3 := hbw.trans (hb3.mono hbw.size)
      have HE : Hid (VecPost 16 R w (.returned (.tuple #[.pointer (some ⟨w3.heap.size, 0, none⟩), .int .i64 0])) (w3.alloc (.cells #[v3] 80))) := by
        show VecPost _ _ _ _ _
        rw [HR.out]
        exact ⟨hbx.alloc hbx.size _, w3.heap.size, rfl, VC.made ht3 _⟩
      rcases ht3.shape with hz | ⟨T, q, hz⟩
      · subst hz
        clear ht3 HG2
        go_wp2_with fail
        go_ret2
        exact HE.out
      · subst hz
        clear ht3 HG2
        go_wp2_with fail
        go_ret2
        exact HE.out
    · rw [if_neg h2] at hR HCk
      have HR : Hid (R = .inr 3) := hR
      clear hR hu h1 h2
      go_enter Tryz.func7, Tryz.ntmps7
      go_wp2_with fail
      refine Calls.mono HCk.out ?_
      rintro e w1 ⟨rfl, hb1⟩
      have HE : Hid (VecPost 16 R w (.returned (.tuple #[.pointer none, .int .i64 3])) w1) := by
        show VecPost _ _ _ _ _
        rw [HR.out]
        exact ⟨hb1, rfl⟩
      clear HCk
      go_wp2_with fail
      go_ret2
      exact HE.out

/-- What Push tells. -/
def pushR (l : List VT) (x : VT) : List VT ⊕ Nat := if rightV 16 x = true then (if l.length + 1 ≤ 65536 then .inl (l ++ [x]) else .inr 2) else .inr 3

theorem VC.shape {d : Nat} {w : World} {l : List VT} {p : Value} (h : VC d w l p) : ∃ o, p = .pointer o := by
  rcases h with ⟨_, rfl⟩ | ⟨b, t, rfl, _⟩
  · exact ⟨_, rfl⟩
  · exact ⟨_, rfl⟩

theorem lies_one16 {w : World} {t : VT} {u : Value} {b : Nat} (c0 : w.cell? ⟨b, 0, none⟩ = some (.int .i64 t.kind)) (c1 : w.cell? ⟨b, 1, none⟩ = some (.int .i64 t.num)) (c2 : w.cell? ⟨b, 2, none⟩ = some (.string t.text)) (c3 : w.cell? ⟨b, 3, none⟩ = some u) (hl : Lies 16 w t.items u) (hs : t.text.size ≤ 9223372036854775807) : Lies 17 w [t] (.slice (some ⟨b, 0, none⟩) 1 1) := by
  refine ⟨_, 1, rfl, ⟨by simp, by simp⟩, fun _ => ⟨b, 0, rfl, fun i hi => ?_⟩⟩
  have : i = 0 := by simp at hi; omega
  subst this
  exact ⟨u, by simpa using c0, by simpa using c1, by simpa using c2, by simpa using c3, hl, hs⟩

set_option maxRecDepth 100000 in
set_option maxHeartbeats 4000000 in
theorem push_core (hgr : GrC) (l : List VT) (p : Value) (x : VT) (ax : Option Addr) (cx : Nat) (w : World) (h : VC 16 w l p) (hx : Lies 16 w x.items (.slice ax x.items.length cx)) (hts : x.text.size ≤ 9223372036854775807) (hlen : l.length ≤ 65536) :
    Calls Tryz.prog 96 #[p, .agg #[.int .i64 x.kind, .int .i64 x.num, .string x.text, .slice ax x.items.length cx]] w (VecPost 16 (pushR l x) w) := by
  obtain ⟨po, rfl⟩ := h.shape
  have hb0 : Below w.heap.size w (w.alloc (.cells #[.int .i64 x.kind, .int .i64 x.num, .string x.text, .slice ax x.items.length cx] 34)) := ((Grew.refl w).alloc _).below
  have hb1 : Below w.heap.size w ((w.alloc (.cells #[.int .i64 x.kind, .int .i64 x.num, .string x.text, .slice ax x.items.length cx] 34)).alloc (.cells #[.int .i64 x.kind, .int .i64 x.num, .string x.text, .slice ax x.items.length cx] 34)) := (((Grew.refl w).alloc _).alloc _).below
  have HOf : Hid (Calls Tryz.prog 7 #[.slice (some ⟨w.heap.size + 1, 0, none⟩) 1 1] ((w.alloc (.cells #[.int .i64 x.kind, .int .i64 x.num, .string x.text, .slice ax x.items.length cx] 34)).alloc (.cells #[.int .i64 x.kind, .int .i64 x.num, .string x.text, .slice ax x.items.length cx] 34)) (VecPost 16 (ofR [x]) ((w.alloc (.cells #[.int .i64 x.kind, .int .i64 x.num, .string x.text, .slice ax x.items.length cx] 34)).alloc (.cells #[.int .i64 x.kind, .int .i64 x.num, .string x.text, .slice ax x.items.length cx] 34)))) := by
    refine of_core hgr [x] _ _ (lies_one16 (u := .slice ax x.items.length cx) (by simp) (by simp) (by simp) (by simp) (Lies.keeps hb1 _ _ _ hx) hts)
  have Hb1 : Hid (Below w.heap.size w ((w.alloc (.cells #[.int .i64 x.kind, .int .i64 x.num, .string x.text, .slice ax x.items.length cx] 34)).alloc (.cells #[.int .i64 x.kind, .int .i64 x.num, .string x.text, .slice ax x.items.length cx] 34))) := hb1
  obtain ⟨x0, x1, x2, x3, z0, z1, z2, z3⟩ := bx_alloc w x (.slice ax x.items.length cx)
  obtain ⟨R, hR⟩ : ∃ R, R = pushR l x := ⟨_, rfl⟩
  rw [← hR]
  unfold pushR at hR
  have e1 : ofR [x] = if rightV 16 x = true then .inl [x] else .inr 3 := by
    unfold ofR; simp
  rw [e1] at HOf
  by_cases hr : rightV 16 x = true
  · rw [if_pos hr] at hR HOf
    have HJ : Hid (∀ (V : World) (b : Nat), Below w.heap.size w V → VC 16 V [x] (.pointer (some ⟨b, 0, none⟩)) → Calls Tryz.prog 139 #[.slice (some ⟨V.heap.size, 0, none⟩) 2 2] (V.alloc (.cells #[.pointer po, .pointer (some ⟨b, 0, none⟩)] 24)) (VecPost 16 R (V.alloc (.cells #[.pointer po, .pointer (some ⟨b, 0, none⟩)] 24)))) := fun V b hV hv => by
      have hba : Below V.heap.size V (V.alloc (.cells #[.pointer po, .pointer (some ⟨b, 0, none⟩)] 24)) := ((Grew.refl V).alloc _).below
      have h9 := join_any 16 [(l, .pointer po), ([x], .pointer (some ⟨b, 0, none⟩))] (.slice (some ⟨V.heap.size, 0, none⟩) 2 2) (V.alloc (.cells #[.pointer po, .pointer (some ⟨b, 0, none⟩)] 24)) ⟨_, 2, rfl, by simp, fun _ => ⟨V.heap.size, 0, rfl, fun i hi => by
        match i, hi with
        | 0, _ => simp
        | 1, _ => simp⟩⟩ (by simp) (by simp) (fun i hi => by
        match i, hi with
        | 0, _ => exact ⟨(h.keeps hV).keeps hba, hlen⟩
        | 1, _ => exact ⟨hv.keeps hba, by simp⟩)
      have e2 : joinR [(l, .pointer po), ([x], .pointer (some ⟨b, 0, none⟩))] = R := by
        rw [hR]; unfold joinR; simp
      rw [e2] at h9
      exact h9
    clear hR hx hts hr e1 h hb0 hb1 hlen
    go_enter Tryz.func96, Tryz.ntmps96
    go_wp2_with fail
    refine Calls.mono HOf.out ?_
    rintro e w1 ⟨hg1, b, rfl, hv⟩
    have hbw : Below w.heap.size w w1 := Hb1.out.trans (hg1.mono Hb1.out.size)
    have HJ1 : Hid _ := HJ.out w1 b hbw hv
    clear HOf HJ hv x0 x1 x2 x3 z0 z1 z2 z3
    go_wp2_with fail
    refine Calls.mono HJ1.out ?_
    intro e w2 hp
    have HP : Hid (VecPost 16 R w e w2) := ⟨hbw.trans (((((Grew.refl w1).alloc _).below).trans (hp.1.mono (by simp))).mono hbw.size), hp.2⟩
    obtain ⟨_, hp2⟩ := hp
    clear HJ1
    cases R with
    | inl m =>
      obtain ⟨b2, rfl, _⟩ := hp2
      go_wp2_with fail
      go_ret2
      exact HP.out
    | inr k =>
      subst hp2
      go_wp2_with fail
      go_ret2
      exact HP.out
  · rw [if_neg hr] at hR HOf
    have HR : Hid (R = .inr 3) := hR
    clear hR hx hts hr e1 h hb0 hb1 hlen
    go_enter Tryz.func96, Tryz.ntmps96
    go_wp2_with fail
    refine Calls.mono HOf.out ?_
    rintro e w1 ⟨hg1, rfl⟩
    have HE : Hid (VecPost 16 R w (.returned (.tuple #[.pointer none, .int .i64 3])) w1) := by
      show VecPost _ _ _ _ _
      rw [HR.out]
      exact ⟨Hb1.out.trans (hg1.mono Hb1.out.size), rfl⟩
    clear HOf x0 x1 x2 x3 z0 z1 z2 z3
    go_wp2_with fail
    go_ret2
    exact HE.out

end Go.Proofs.YtekoaiehhjgfiaaGreat

