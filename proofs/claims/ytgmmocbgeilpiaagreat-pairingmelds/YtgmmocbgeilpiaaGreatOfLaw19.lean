/-
  PairingOf, PairingMelds: the statements' walks.
-/
import Derived.Test.YtgmmocbgeilpiaaGreatRefQ
import Derived.Test.YtgmmocbgeilpiaaGreatUniq
import Derived.Test.YtgmmocbgeilpiaaGreatSortsLaw19
namespace Go.Proofs.YtgmmocbgeilpiaaGreat
open Go.RowKit

/-- What the document's Min tells. -/
def RMinPost (L : List VT) (w : World) (e : Ending) (w' : World) : Prop :=
  Below w.heap.size w w' ∧ ((L = [] ∧ e = .returned (.tuple #[.agg #[.int .i64 0, .int .i64 0, .string ⟨#[]⟩, .slice none 0 0], .int .i64 6])) ∨
    ∃ x m u, L = x :: m ∧ e = .returned (.tuple #[.agg #[.int .i64 x.kind, .int .i64 x.num, .string x.text, u], .int .i64 0]) ∧ Lies 16 w' x.items u)

/-- The first item of a queue that has one. -/
theorem RQ.first {w : World} {q b : Nat} {x : VT} {m : List VT} (h : RQ w q (x :: m) b) : ∃ b1 o1 c u, w.cell? ⟨b, 1, none⟩ = some (.slice (some ⟨b1, o1, none⟩) (m.length + 1) c) ∧ m.length + 1 ≤ c ∧ w.cell? ⟨b1, o1, none⟩ = some (.int .i64 x.kind) ∧ w.cell? ⟨b1, o1 + 1, none⟩ = some (.int .i64 x.num) ∧ w.cell? ⟨b1, o1 + 2, none⟩ = some (.string x.text) ∧ w.cell? ⟨b1, o1 + 3, none⟩ = some u ∧ ItM All w x u ∧ SlI All w m (.slice (some ⟨b1, o1 + 4, none⟩) m.length (c - 1)) := by
  obtain ⟨v, c1, ps, hpl, hsp, hit⟩ := h.ex
  cases ps with
  | nil => cases hpl
  | cons p ps =>
    injection hpl with h1 h2
    have hln : ps.length = m.length := by rw [← h2, List.length_map]
    obtain ⟨b1, o1, c, rfl, hc, hrow, hs⟩ := hsp.some (by simp)
    obtain ⟨k0, k1, k2, k3⟩ := hrow 0 (by simp)
    have hd := hsp.dropped 1
    simp only [List.length_cons, List.drop_succ_cons, List.drop_zero, Nat.add_sub_cancel] at hd
    refine ⟨b1, o1, c, p.2, by rw [c1, List.length_cons, hln], by rw [List.length_cons, hln] at hc; exact hc, ?_, ?_, ?_, ?_, by rw [← h1]; exact hit p (by simp), ps, h2, by rw [← hln]; exact hd, fun p' hp' => hit p' (by simp [hp'])⟩
    · rw [← h1]; simpa using k0
    · rw [← h1]; simpa using k1
    · rw [← h1]; simpa using k2
    · simpa using k3

theorem RQ.bare {w : World} {q b : Nat} (h : RQ w q [] b) : ∃ a c, w.cell? ⟨b, 1, none⟩ = some (.slice a 0 c) := by
  obtain ⟨v, c1, hs⟩ := h.ex
  obtain ⟨a, c, rfl, _⟩ := Lies.slice hs.lies
  exact ⟨a, c, c1⟩

set_option maxRecDepth 100000 in
set_option maxHeartbeats 4000000 in
theorem rmin_bare {q b : Nat} {w : World} (h : RQ w q [] b) : Calls Tryz.prog 33 #[.pointer (some ⟨b, 0, none⟩)] w (RMinPost [] w) := by
  obtain ⟨a, c, c1⟩ := h.bare
  have hbz : Below w.heap.size w (w.alloc (.cells #[.int .i64 0, .int .i64 0, .string ⟨#[]⟩, .slice none 0 0] 37)) := ((Grew.refl w).alloc _).below
  obtain ⟨w0, hw0⟩ : ∃ w0, w0 = w.alloc (.cells #[.int .i64 0, .int .i64 0, .string ⟨#[]⟩, .slice none 0 0] 37) := ⟨_, rfl⟩
  have HK : Hid (Blank w0 w.heap.size) := by rw [hw0]; exact blank_alloc w
  rw [← hw0] at hbz
  have c1 := cell_keeps hbz c1
  obtain ⟨y0, y1, y2, y3, z0, z1, z2, z3⟩ := HK.out
  have Hbx : Hid _ := HK.out.put (⟨0, 0, ⟨#[]⟩, []⟩, .slice none 0 0)
  have Hbl : Hid _ := below_put hbz (Nat.le_refl _) (⟨0, 0, ⟨#[]⟩, []⟩, .slice none 0 0)
  have Hw0 : Hid (w0 = _) := hw0
  clear h hw0 hbz
  go_enter Tryz.func33, Tryz.ntmps33
  go_upto_region 1 with fail
  rw [← Hw0.out]
  clear Hw0
  go_wp2_with fail
  refine bodyPost_ret (v := .tuple #[.agg #[.int .i64 0, .int .i64 0, .string ⟨#[]⟩, .slice none 0 0], .int .i64 6]) ?_ rfl ⟨Hbl.out, .inl ⟨rfl, rfl⟩⟩
  obtain ⟨q0, q1, q2, q3⟩ := Hbx.out
  simp only [encP, World.setCells, Nat.zero_add, Nat.reduceAdd] at q0 q1 q2 q3
  simp [results, Tryz.results33, go_sem, q0, q1, q2, q3]

set_option maxRecDepth 100000 in
set_option maxHeartbeats 4000000 in
theorem rmin_some {q b : Nat} {x : VT} {m : List VT} {w : World} (h : RQ w q (x :: m) b) : Calls Tryz.prog 33 #[.pointer (some ⟨b, 0, none⟩)] w (RMinPost (x :: m) w) := by
  obtain ⟨b1, o1, c, u, c1, hc, p0, p1, p2, p3, hit, _⟩ := h.first
  obtain ⟨av, cv, rfl, _⟩ := LiesX.slice hit.lies
  have hbz : Below w.heap.size w (w.alloc (.cells #[.int .i64 0, .int .i64 0, .string ⟨#[]⟩, .slice none 0 0] 37)) := ((Grew.refl w).alloc _).below
  obtain ⟨w0, hw0⟩ : ∃ w0, w0 = w.alloc (.cells #[.int .i64 0, .int .i64 0, .string ⟨#[]⟩, .slice none 0 0] 37) := ⟨_, rfl⟩
  have HK : Hid (Blank w0 w.heap.size) := by rw [hw0]; exact blank_alloc w
  rw [← hw0] at hbz
  have hbl1 : b1 < w.heap.size := cell_lt p0
  have c1 := cell_keeps hbz c1; have p0 := cell_keeps hbz p0; have p1 := cell_keeps hbz p1; have p2 := cell_keeps hbz p2; have p3 := cell_keeps hbz p3
  obtain ⟨y0, y1, y2, y3, z0, z1, z2, z3⟩ := HK.out
  have Hbx : Hid _ := HK.out.put (x, .slice av x.items.length cv)
  have Hbl : Hid _ := below_put hbz (Nat.le_refl _) (x, .slice av x.items.length cv)
  have Hfin : Hid (Lies 16 (w0.setCells w.heap.size 0 (encP (x, .slice av x.items.length cv))) x.items (.slice av x.items.length cv)) :=
    (LiesX.set (g := w.heap.size) (fun h => Nat.lt_irrefl _ h.2) (LiesX.keeps hbz hit.lies.both)).lies
  have Hw0 : Hid (w0 = _) := hw0
  have hm0 : ¬ ((m.length : Int) + 1 = 0) := by omega
  have hm1 : (0 : Int) < (m.length : Int) + 1 := by omega
  clear h hw0 hbz hit
  go_enter Tryz.func33, Tryz.ntmps33
  go_upto_region 1 with fail
  rw [← Hw0.out]
  clear Hw0
  go_wp2_with fail
  refine bodyPost_ret (v := .tuple #[.agg #[.int .i64 x.kind, .int .i64 x.num, .string x.text, .slice av x.items.length cv], .int .i64 0]) ?_ rfl ⟨Hbl.out, .inr ⟨x, m, _, rfl, rfl, Hfin.out⟩⟩
  obtain ⟨q0, q1, q2, q3⟩ := Hbx.out
  simp only [encP, World.setCells, Nat.zero_add, Nat.reduceAdd] at q0 q1 q2 q3
  simp [results, Tryz.results33, go_sem, q0, q1, q2, q3]

theorem rmin_any {q b : Nat} {L : List VT} {w : World} (h : RQ w q L b) : Calls Tryz.prog 33 #[.pointer (some ⟨b, 0, none⟩)] w (RMinPost L w) := by
  cases L with
  | nil => exact rmin_bare h
  | cons x m => exact rmin_some h

/-- What the document's Meld tells. -/
def RMeldPost (q : Nat) (I J : List VT) (w : World) (e : Ending) (w' : World) : Prop :=
  Below w.heap.size w w' ∧ ((65536 < I.length + J.length ∧ e = .returned (.tuple #[.pointer none, .int .i64 2])) ∨ (I.length + J.length ≤ 65536 ∧ ∃ b, e = .returned (.tuple #[.pointer (some ⟨b, 0, none⟩), .int .i64 0]) ∧ RQ w' q (srtV q (I ++ J)) b))

theorem meld_step19 (q : Nat) {I J : List VT} (hI : ∀ x ∈ I, Good 16 x) (hJ : ∀ x ∈ J, Good 16 x) (j : Nat) (hj : j < J.length) : srtV q (srtV q (I ++ J.take j) ++ [J[j]]) = srtV q (I ++ J.take (j + 1)) := by
  rw [List.take_succ_eq_append_getElem hj, ← List.append_assoc]
  have h1 : (srtV q (I ++ J.take j) ++ [J[j]]).Perm ((I ++ J.take j) ++ [J[j]]) := (srt_perm _ _ _ : (srtV q (I ++ J.take j)).Perm (I ++ J.take j)).append_right _
  refine srtV_perm q h1 (fun x hx => ?_)
  rcases List.mem_append.1 (h1.mem_iff.1 hx) with h | h
  · rcases List.mem_append.1 h with h | h
    · exact hI x h
    · exact hJ x (List.mem_of_mem_take h)
  · rw [List.mem_singleton.1 h]; exact hJ _ (List.getElem_mem hj)

set_option maxRecDepth 100000 in
set_option maxHeartbeats 8000000 in
theorem rmeld_any {q r ba bb : Nat} {I J : List VT} {w : World} (ha : RQ w q I ba) (hb : RQ w r J bb) : Calls Tryz.prog 19 #[.pointer (some ⟨ba, 0, none⟩), .pointer (some ⟨bb, 0, none⟩)] w (RMeldPost q I J w) := by
  obtain ⟨va, a1, hsa⟩ := ha.ex
  obtain ⟨vb, b1, hsb⟩ := hb.ex
  have HGa : Hid (∀ x ∈ I, Good 16 x) := hsa.good
  have HGb : Hid (∀ x ∈ J, Good 16 x) := hsb.good
  obtain ⟨aa, ca, rfl, _⟩ := Lies.slice hsa.lies
  obtain ⟨ab, cb, rfl, _⟩ := Lies.slice hsb.lies
  obtain ⟨ps, hpl, hsp, hit⟩ := hsb
  have HP : Hid (ps.map (·.1) = J ∧ ps.length = J.length) := ⟨hpl, by rw [← hpl, List.length_map]⟩
  have HS : Hid (SlP 0 16 w ps (.slice ab J.length cb)) := hsp
  have HIt : Hid (∀ p ∈ ps, ItM All w p.1 p.2) := hit
  have HA : Hid (RQ w q I ba) := ha
  have hla := ha.le
  have hlb := hb.le
  obtain ⟨S, hS⟩ : ∃ S, S = I.length + J.length := ⟨_, rfl⟩
  have eS : IntKind.i64.wrap ((I.length : Int) + (J.length : Int)) = (S : Int) := by rw [IntKind.wrap_i64]; omega
  have HSS : Hid (S = I.length + J.length) := hS
  clear hsa hpl hsp hit ha hb hS
  go_enter Tryz.func19, Tryz.ntmps19
  go_wp2_with fail
  go_quiet (fail)
  have hbq : Below w.heap.size w (w.drewN nq) := below_drew19 w nq
  generalize w.drewN nq = w1 at *
  by_cases hbig : 65536 < S
  · have hbig' : (65536 : Int) < (S : Int) := by omega
    have HE : Hid (RMeldPost q I J w (.returned (.tuple #[.pointer none, .int .i64 2])) w1) := ⟨hbq, .inl ⟨by have := HSS.out; omega, rfl⟩⟩
    clear hbig
    go_wp2_with fail
    go_ret2
    exact HE.out
  · have hbig' : ¬ (65536 : Int) < (S : Int) := by omega
    have HSm : Hid (I.length + J.length ≤ 65536) := by have := HSS.out; show _ ≤ _; omega
    have b1 := cell_keeps hbq b1
    have HQ0 : Hid (RQ w1 q (srtV q (I ++ J.take 0)) ba) := by
      show RQ _ _ _ _
      rw [List.take_zero, List.append_nil, HA.out.up]
      exact HA.out.keeps hbq
    clear hbig HSS
    go_wp2_with fail
    go_loopg [6, 27] J.length (fun z v6 i wr => ∃ (j B : Nat), v6 = .pointer (some ⟨B, 0, none⟩) ∧ i = .int .i64 (j : Int) ∧ j ≤ J.length ∧ z = J.length - j ∧ Hid (RQ wr q (srtV q (I ++ J.take j)) B) ∧ Below w.heap.size w wr)
    case atStart => exact ⟨0, ba, rfl, rfl, by omega, by omega, HQ0, hbq⟩
    case round =>
      obtain ⟨j, B, rfl, rfl, hj, hk, HRq, hbw⟩ := hrel
      have Hk : Hid _ := hk
      clear hk HQ0 hbq
      by_cases hlt : j < J.length
      · have hjp : j < ps.length := by rw [HP.out.2]; exact hlt
        obtain ⟨g1, o1, c1, e1, _, hrow, _⟩ := HS.out.some (by intro e; rw [e] at hjp; simp at hjp)
        injection e1 with e1 e2 e3
        clear e2
        subst e1 e3
        obtain ⟨p0, p1, p2, p3⟩ := hrow j hjp
        have hit := HIt.out ps[j] (List.getElem_mem hjp)
        have hx : ps[j].1 = J[j] := by
          have : (ps.map (·.1))[j]'(by rw [List.length_map]; exact hjp) = ps[j].1 := List.getElem_map ..
          rw [← this]
          congr 1
          exact HP.out.1
        rw [hx] at p0 p1 p2 hit
        generalize ps[j].2 = xu at *
        have p0 := cell_keeps hbw p0; have p1 := cell_keeps hbw p1; have p2 := cell_keeps hbw p2; have p3 := cell_keeps hbw p3
        have hl1 : g1 < wr.heap.size := cell_lt p0
        obtain ⟨ax, cx, rfl, _⟩ := LiesX.slice hit.lies
        have hbA : Below wr.heap.size wr (wr.alloc (.cells #[.int .i64 J[j].kind, .int .i64 J[j].num, .string J[j].text, .slice ax J[j].items.length cx] 37)) := ((Grew.refl wr).alloc _).below
        have hlen : (srtV q (I ++ J.take j)).length < 65536 := by rw [srtV_len, List.length_append, List.length_take]; have := HSm.out; omega
        have hC := put_any (HRq.out.keeps hbA) ((hit.keeps hbw).keeps hbA) hlen
        rw [meld_step19 q HGa.out HGb.out j hlt] at hC
        have HC : Hid _ := hC
        have hbA' : Below w.heap.size w (wr.alloc (.cells #[.int .i64 J[j].kind, .int .i64 J[j].num, .string J[j].text, .slice ax J[j].items.length cx] 37)) := hbw.trans (hbA.mono hbw.size)
        have HBA : Hid _ := hbA'
        clear hrow hit hx hC hbA hbA' hlen HRq
        generalize J[j] = y at *
        go_wp2_with fail
        refine Calls.mono HC.out ?_
        rintro e w4 ⟨B4, rfl, hq4, hb4⟩
        have hb5 : Below w.heap.size w w4 := HBA.out.trans (hb4.mono HBA.out.size)
        have HQ4 : Hid (RQ w4 q (srtV q (I ++ J.take (j + 1))) B4) := hq4
        clear HC HBA hq4 hb4 p0 p1 p2 p3 hbw
        go_wp2_with fail
        go_roundg (J.length - (j + 1))
        case measure => have := Hk.out; omega
        case rel => exact ⟨j + 1, B4, rfl, by go_num, by omega, rfl, HQ4, hb5⟩
      · have hjl : j = J.length := by omega
        have HF : Hid (RMeldPost q I J w (.returned (.tuple #[.pointer (some ⟨B, 0, none⟩), .int .i64 0])) wr) := by
          have h := HRq.out
          rw [hjl, List.take_length] at h
          exact ⟨hbw, .inr ⟨HSm.out, B, rfl, h⟩⟩
        clear hjl HRq HS HIt
        go_wp2_with fail
        go_ret2
        exact HF.out

end Go.Proofs.YtgmmocbgeilpiaaGreat

namespace Go.Proofs.YtgmmocbgeilpiaaGreat
open Go.RowKit Go.Shelf

/-- Both Mins, one behind the other. -/
def MinsC (b B : Nat) (w : World) : Prop :=
  Calls Tryz.prog 29 #[.pointer (some ⟨b, 0, none⟩)] w fun e w1 => ∃ k n s a l c E, e = .returned (.tuple #[.agg #[.int .i64 k, .int .i64 n, .string s, .slice a l c], .int .i64 E]) ∧ Below w.heap.size w w1 ∧
    ∀ V, Below w1.heap.size w1 V → Calls Tryz.prog 33 #[.pointer (some ⟨B, 0, none⟩)] V fun e w2 => ∃ a2 c2, e = .returned (.tuple #[.agg #[.int .i64 k, .int .i64 n, .string s, .slice a2 l c2], .int .i64 E]) ∧ Below V.heap.size V w2 ∧
      ∀ V2, Below w2.heap.size w2 V2 → Calls Tryz.prog 16 #[.agg #[.int .i64 k, .int .i64 n, .string s, .slice a l c], .agg #[.int .i64 k, .int .i64 n, .string s, .slice a2 l c2]] V2 fun e w3 => e = .returned (.bool true) ∧ Below V2.heap.size V2 w3

theorem mins19 {X : Nat → Prop} {q b B : Nat} {I : List VT} {w : World} (h : QC X w q I b) (r : RQ w q (srtV q I) B) : MinsC b B w := by
  refine Calls.mono (min_any19 (.inr ⟨b, rfl, h⟩)) ?_
  rintro e w1 ⟨hb1, ⟨h0, rfl⟩ | ⟨x, m, u, h0, rfl, hL, _⟩⟩
  · refine ⟨0, 0, ⟨#[]⟩, none, 0, 0, 6, rfl, hb1, fun V hV => ?_⟩
    subst h0
    refine Calls.mono (rmin_any ((r.keeps hb1).keeps hV)) ?_
    rintro e w2 ⟨hb2, ⟨_, rfl⟩ | ⟨x, m, u, h0, _⟩⟩
    · exact ⟨none, 0, rfl, hb2, fun V2 hV2 => value_self19 ⟨0, 0, ⟨#[]⟩, []⟩ _ _ V2 ⟨none, 0, rfl, by simp, fun h => absurd rfl h⟩ ⟨none, 0, rfl, by simp, fun h => absurd rfl h⟩⟩
    · cases h0
  · obtain ⟨a, c, rfl, _⟩ := LiesB.slice hL
    refine ⟨x.kind, x.num, x.text, a, x.items.length, c, 0, rfl, hb1, fun V hV => ?_⟩
    refine Calls.mono (rmin_any ((r.keeps hb1).keeps hV)) ?_
    rintro e w2 ⟨hb2, ⟨h1, _⟩ | ⟨y, m2, u2, h1, rfl, hL2⟩⟩
    · rw [h0] at h1; cases h1
    · rw [h0] at h1
      injection h1 with h1 _
      subst h1
      obtain ⟨a2, c2, rfl, _⟩ := Lies.slice hL2
      exact ⟨a2, c2, rfl, hb2, fun V2 hV2 => value_self19 x _ _ V2 (Lies.keeps hV2 _ _ _ (Lies.keeps hb2 _ _ _ (Lies.keeps hV _ _ _ (LiesB.lies _ _ _ hL)))) (Lies.keeps hV2 _ _ _ hL2)⟩

set_option maxRecDepth 100000 in
set_option maxHeartbeats 8000000 in
theorem same_any19 {X : Nat → Prop} {q b B : Nat} {I : List VT} {w : World} (h : QC X w q I b) (r : RQ w q (srtV q I) B) : Calls Tryz.prog 9 #[.pointer (some ⟨b, 0, none⟩), .pointer (some ⟨B, 0, none⟩)] w fun e w' => e = .returned (.bool true) ∧ Below w.heap.size w w' := by
  obtain ⟨v, c1, hs⟩ := r.ex
  have hsl := hs.lies
  obtain ⟨aL, cL, rfl, _⟩ := Lies.slice hsl
  have hln : (srtV q I).length = I.length := srtV_len q I
  have hle := h.le
  have HO : Hid (∀ V, Below w.heap.size w V → Calls Tryz.prog 32 #[.pointer (some ⟨b, 0, none⟩)] V fun e w' => e = .returned (.int .i64 (q : Int)) ∧ Below V.heap.size V w') := fun V hV => order_any19 (.inr ⟨b, rfl, h.keeps hV⟩)
  have HLn : Hid (∀ V, Below w.heap.size w V → Calls Tryz.prog 17 #[.pointer (some ⟨b, 0, none⟩)] V fun e w' => e = .returned (.int .i64 (I.length : Int)) ∧ Below V.heap.size V w') := fun V hV => len_any19 (.inr ⟨b, rfl, h.keeps hV⟩)
  have HSo : Hid (∀ V, Below w.heap.size w V → Calls Tryz.prog 31 #[.pointer (some ⟨b, 0, none⟩)] V fun e w' => ∃ a c, e = .returned (.slice a I.length c) ∧ Below V.heap.size V w' ∧ ∀ V2, Below w'.heap.size w' V2 → Calls Tryz.prog 30 #[.slice a I.length c, .slice aL I.length cL] V2 fun e w3 => e = .returned (.bool true) ∧ Below V2.heap.size V2 w3) := fun V hV => by
    refine Calls.mono (sorted_any19 (.inr ⟨b, rfl, h.keeps hV⟩)) ?_
    rintro e w' ⟨v2, rfl, hL, hb2⟩
    obtain ⟨a, c, rfl, _⟩ := LiesB.slice hL
    refine ⟨a, c, by rw [hln], hb2, fun V2 hV2 => ?_⟩
    rw [← hln]
    exact values_one 16 (srtV q I) _ _ V2 (Lies.keeps hV2 _ _ _ (LiesB.lies _ _ _ hL)) (Lies.keeps hV2 _ _ _ (Lies.keeps hb2 _ _ _ (Lies.keeps hV _ _ _ hsl))) (by rw [hln]; exact hle)
  have HM : Hid (∀ V, Below w.heap.size w V → MinsC b B V) := fun V hV => mins19 (h.keeps hV) (r.keeps hV)
  have c0 := r.order
  rw [hln] at c1
  have hle' : I.length ≤ 65536 := hle
  clear h r hs hsl hln hle
  generalize I.length = N at *
  go_enter Tryz.func9, Tryz.ntmps9
  go_wp2_with fail
  go_region_held3 (fun w' => w'.cell? ⟨B, 0, none⟩ = some (.int .i64 (q : Int)) ∧ w'.cell? ⟨B, 1, none⟩ = some (.slice aL N cL)) (go_keep)
    (first
      | (go_at_call 30; (with_reducible refine Calls.mono (HV.out _ ?_) ?_); (first | exact Below.refl _ _ | exact (Below.refl _ _).drew); rintro e w4 ⟨rfl, hg4⟩; have hb4 : Below w.heap.size w w4 := hb3.trans (hg4.mono hb3.size); have c0 := cell_keeps hg4 c0; have c1 := cell_keeps hg4 c1; clear HV hg4)
      | (go_at_call 31; (with_reducible refine Calls.mono (HSo.out _ ?_) ?_); (first | exact hb2 | exact hb2.drew); rintro e w3 ⟨a3, n3, rfl, hg3, hv3⟩; have hb3 : Below w.heap.size w w3 := hb2.trans (hg3.mono hb2.size); have HV : Hid _ := hv3; have c0 := cell_keeps hg3 c0; have c1 := cell_keeps hg3 c1; clear HSo hg3 hv3)
      | (go_at_call 17; (with_reducible refine Calls.mono (HLn.out _ ?_) ?_); (first | exact hb1 | exact hb1.drew); rintro e w2 ⟨rfl, hg2⟩; have hb2 : Below w.heap.size w w2 := hb1.trans (hg2.mono hb1.size); have c0 := cell_keeps hg2 c0; have c1 := cell_keeps hg2 c1; clear HLn hg2)
      | (go_at_call 32; (with_reducible refine Calls.mono (HO.out _ ?_) ?_); (first | exact Below.refl _ _ | exact (Below.refl _ _).drew); rintro e w1 ⟨rfl, hg1⟩; have hb1 : Below w.heap.size w w1 := (Below.refl _ _).drew.trans hg1; have c0 := cell_keeps hb1 c0; have c1 := cell_keeps hb1 c1; clear HO hg1))
  have HM4 : Hid (MinsC b B w4) := HM.out w4 hb4
  clear HM c0 c1 hb1 hb2 hb3
  go_wp2_with fail
  refine Calls.mono HM4.out ?_
  rintro e w5 ⟨k, n, s, a, l, c, E, rfl, hg5, hm5⟩
  obtain ⟨w6, hw6⟩ : ∃ w6, w6 = w5.alloc (.cells #[.int .i64 k, .int .i64 n, .string s, .slice a l c] 37) := ⟨_, rfl⟩
  have hg6 : Below w5.heap.size w5 w6 := by rw [hw6]; exact ((Grew.refl w5).alloc _).below
  have HX6 : Hid (Boxed w6 w5.heap.size k n s (.slice a l c)) := by rw [hw6]; exact boxed_alloc w5 _ _ _ _ _
  have hb5 : Below w.heap.size w w5 := hb4.trans (hg5.mono hb4.size)
  have HB6 : Hid (Below w.heap.size w w6) := hb5.trans (hg6.mono hb5.size)
  have HM6 : Hid _ := hm5 w6 hg6
  clear HM4 hm5 hg5 hg6 hb4 hb5
  go_wp2_with fail
  rw [← hw6]
  clear hw6
  refine Calls.mono HM6.out ?_
  rintro e w7 ⟨a2, c2, rfl, hg7, hm7⟩
  obtain ⟨w8, hw8⟩ : ∃ w8, w8 = w7.alloc (.cells #[.int .i64 k, .int .i64 n, .string s, .slice a2 l c2] 37) := ⟨_, rfl⟩
  have hg8 : Below w7.heap.size w7 w8 := by rw [hw8]; exact ((Grew.refl w7).alloc _).below
  have HX8 : Hid (Boxed w8 w7.heap.size k n s (.slice a2 l c2)) := by rw [hw8]; exact boxed_alloc w7 _ _ _ _ _
  have HX68 : Hid (Boxed w8 w5.heap.size k n s (.slice a l c)) := (HX6.out.keeps hg7).keeps hg8
  have hb7 : Below w.heap.size w w7 := HB6.out.trans (hg7.mono HB6.out.size)
  have HB8 : Hid (Below w.heap.size w w8) := hb7.trans (hg8.mono hb7.size)
  have HM8 : Hid _ := hm7 w8 hg8
  obtain ⟨x0, x1, x2, x3⟩ := HX68.out
  obtain ⟨y0, y1, y2, y3⟩ := HX8.out
  have Hw8 : Hid (w8 = _) := hw8
  clear HM6 hm7 hg7 hg8 hb7 HX6 HX8 HX68 hw8
  go_upto_region 5 with fail
  rw [← Hw8.out]
  clear Hw8
  go_wp2_with fail
  refine Calls.mono HM8.out ?_
  rintro e w9 ⟨rfl, hg9⟩
  have HB9 : Hid (Below w.heap.size w w9) := HB8.out.trans (hg9.mono HB8.out.size)
  clear HM8 hg9
  go_wp2_with fail
  go_ret
  exact ⟨rfl, HB9.out⟩

end Go.Proofs.YtgmmocbgeilpiaaGreat

namespace Go.Proofs.YtgmmocbgeilpiaaGreat
open Go.RowKit Go.Shelf

/-- Both Ofs, one behind the other: the same error, or a queue and the document's. -/
def OfsC (o : Int) (d : Nat) (l : List VT) (u : Value) (w : World) : Prop :=
  Calls Tryz.prog 6 #[.int .i64 o, u] w fun e w1 => ∃ p, e = .returned (.tuple #[.pointer p, .int .i64 (lookE d o l)]) ∧ Below w.heap.size w w1 ∧ (lookE d o l ≠ 0 → p = none) ∧ (lookE d o l = 0 → QM All w1 o.toNat l p)

theorem ofs_any (o : Int) (d : Nat) (l : List VT) (u : Value) (w : World) (hu : Lies (d + 1) w l u) : OfsC o d l u w := by
  refine Calls.mono (of_any19 All d o l u w hu (fun _ _ => trivial)) ?_
  rintro e w1 ⟨hb, ⟨h0, rfl⟩ | ⟨h0, p, rfl, hq⟩⟩
  · exact ⟨none, rfl, hb, fun _ => rfl, fun h => absurd h h0⟩
  · exact ⟨p, by rw [h0], hb, fun h => absurd h0 h, fun _ => hq⟩

theorem rofs_any (o : Int) (d : Nat) (l : List VT) (u : Value) (w : World) (hu : Lies (d + 1) w l u) : Calls Tryz.prog 7 #[.int .i64 o, u] w fun e w1 => ∃ p, e = .returned (.tuple #[.pointer p, .int .i64 (lookE d o l)]) ∧ Below w.heap.size w w1 ∧ (lookE d o l ≠ 0 → p = none) ∧ (lookE d o l = 0 → ∃ b, p = some ⟨b, 0, none⟩ ∧ RQ w1 o.toNat (srtV o.toNat l) b) := by
  refine Calls.mono (rof_any d o l u w hu) ?_
  rintro e w1 ⟨hb, ⟨h0, rfl⟩ | ⟨h0, b, rfl, hq⟩⟩
  · exact ⟨none, rfl, hb, fun _ => rfl, fun h => absurd h h0⟩
  · exact ⟨_, by rw [h0], hb, fun h => absurd h0 h, fun _ => ⟨b, rfl, hq⟩⟩

set_option maxRecDepth 100000 in
set_option maxHeartbeats 8000000 in
theorem of_walk19 (o : Int) (d : Nat) (l : List VT) (u : Value) (w : World) (hu : Lies (d + 1) w l u) : Calls Tryz.prog 3 #[.int .i64 o, u] w fun e w' => e = .returned (.bool true) ∧ Below w.heap.size w w' := by
  obtain ⟨a, c, rfl, _⟩ := Lies.slice hu
  have HC : Hid (OfsC o d l (.slice a l.length c) w) := ofs_any o d l _ w hu
  have HR : Hid (∀ V, Below w.heap.size w V → Calls Tryz.prog 7 #[.int .i64 o, .slice a l.length c] V fun e w1 => ∃ p, e = .returned (.tuple #[.pointer p, .int .i64 (lookE d o l)]) ∧ Below V.heap.size V w1 ∧ (lookE d o l ≠ 0 → p = none) ∧ (lookE d o l = 0 → ∃ b, p = some ⟨b, 0, none⟩ ∧ RQ w1 o.toNat (srtV o.toNat l) b)) := fun V hV => rofs_any o d l _ V (Lies.keeps hV _ _ _ hu)
  unfold OfsC at HC
  generalize lookE d o l = E at *
  clear hu
  by_cases hE : E = 0
  · subst hE
    go_enter Tryz.func3, Tryz.ntmps3
    go_wp2_with fail
    refine Calls.mono HC.out ?_
    rintro e w1 ⟨p, rfl, hb1, _, hq⟩
    obtain ⟨b, rfl, hqc⟩ := hq (by first | exact rfl | trivial)
    have HQ : Hid (QC All w1 o.toNat l b) := hqc
    clear HC hq hqc
    go_wp2_with fail
    refine Calls.mono (HR.out w1 hb1) ?_
    rintro e w2 ⟨p2, rfl, hb2, _, hr⟩
    obtain ⟨B, rfl, hrq⟩ := hr (by first | exact rfl | trivial)
    have HS : Hid _ := same_any19 (HQ.out.keeps hb2) hrq
    have HB2 : Hid (Below w.heap.size w w2) := hb1.trans (hb2.mono hb1.size)
    clear HR hr hrq HQ hb1 hb2
    go_wp2_with fail
    refine Calls.mono HS.out ?_
    rintro e w3 ⟨rfl, hg3⟩
    have HB3 : Hid (Below w.heap.size w w3) := HB2.out.trans (hg3.mono HB2.out.size)
    clear HS hg3 HB2
    go_wp2_with fail
    refine Calls.mono (speaks19_any w3) ?_
    rintro e w4 ⟨rfl, hg4⟩
    have HB4 : Hid (Below w.heap.size w w4) := HB3.out.trans (hg4.mono HB3.out.size)
    clear hg4 HB3
    go_wp2_with fail
    go_ret
    exact ⟨rfl, HB4.out⟩
  · have h0' : (E == 0) = false := by simpa using hE
    have h1' : ¬ E = 0 := hE
    have h2' : (E != E) = false := by simp
    go_enter Tryz.func3, Tryz.ntmps3
    go_wp2_with fail
    refine Calls.mono HC.out ?_
    rintro e w1 ⟨p, rfl, hb1, hn, _⟩
    obtain rfl := hn hE
    clear HC hn
    go_wp2_with fail
    refine Calls.mono (HR.out w1 hb1) ?_
    rintro e w2 ⟨p2, rfl, hb2, hn, _⟩
    obtain rfl := hn hE
    have HB2 : Hid (Below w.heap.size w w2) := hb1.trans (hb2.mono hb1.size)
    clear HR hn hb1 hb2
    go_wp2_with fail
    refine Calls.mono (speaks19_any w2) ?_
    rintro e w4 ⟨rfl, hg4⟩
    have HB4 : Hid (Below w.heap.size w w4) := HB2.out.trans (hg4.mono HB2.out.size)
    clear hg4 HB2
    go_wp2_with fail
    go_ret
    exact ⟨rfl, HB4.out⟩

end Go.Proofs.YtgmmocbgeilpiaaGreat

