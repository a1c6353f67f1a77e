/-
  The contract of beside.
-/
import Derived.Test.YtekoaiehhjgfiaaGreatAboveX
import Derived.Test.YtekoaiehhjgfiaaGreatFitR
import Derived.Test.YtekoaiehhjgfiaaGreatWith
import Derived.BigQuiet
import Derived.Deep.RegionHeld3
import Derived.BigRegion
namespace Go.Proofs.YtekoaiehhjgfiaaGreat
open Go.RowKit

/-- What stands behind so many lists. -/
def St (d h : Nat) (k : Bool) (w : World) (Ls : List (List VT)) (j : Nat) (v : Value) (wr : World) : Prop :=
  Below w.heap.size w wr ∧
  ((j = 0 ∧ v = .slice none 0 0) ∨
   (j = 1 ∧ ∃ M x l, w.heap.size ≤ M ∧ wr.ownsRow M 76 1 v 1 [x] ∧ Ls[0]? = some l ∧ NDX (fun b => b < M) d h (k || decide (1 < Ls.length)) wr l x) ∨
   (j = 2 ∧ ∃ x y l m, Ls = [l, m] ∧ wr.ownsRow w.heap.size 76 1 v 2 [x, y] ∧ ND d h true wr l x ∧ ND d h k wr m y))

theorem St.below {d h : Nat} {k : Bool} {w : World} {Ls : List (List VT)} {j : Nat} {v : Value} {wr : World} (hs : St d h k w Ls j v wr) : Below w.heap.size w wr := hs.1

/-- A node more. -/
theorem St.step {d h : Nat} {k : Bool} {w : World} {Ls : List (List VT)} {j : Nat} {v : Value} {wr : World} (hs : St d h k w Ls j v wr) (hj : j < Ls.length) (hN : Ls.length ≤ 2) {l : List VT} (hl : Ls[j]? = some l) {x : Value} {W2 : World} (hb : Below wr.heap.size wr W2) (hx : NDX (fun b => b < w.heap.size ∨ wr.heap.size ≤ b) d h (k || decide (j + 1 < Ls.length)) W2 l x) :
    ∃ base xs, base ≤ W2.heap.size ∧ w.heap.size ≤ base ∧ W2.ownsRow base 76 1 v j xs ∧ ∀ v' w3, w3.ownsRow base 76 1 v' (j + 1) (xs ++ [x]) → W2.grownBy w3 v.ownBlock → St d h k w Ls (j + 1) v' w3 := by
  obtain ⟨hbw, hs⟩ := hs
  have hb2 : Below w.heap.size w W2 := hbw.trans (hb.mono hbw.size)
  rcases hs with ⟨rfl, rfl⟩ | ⟨rfl, M, y, m, hM, hown, hm, hy⟩ | ⟨rfl, x', y, l', m, hLs, _⟩
  · refine ⟨W2.heap.size, [], Nat.le_refl _, hb2.size, World.ownsRow_nil _ _ _ _, fun v' w3 ho hg => ?_⟩
    have hb3 : Below w.heap.size w w3 := hb2.grown hg hb2.size (by intro k hk; cases hk)
    refine ⟨hb3, .inr (.inl ⟨rfl, W2.heap.size, x, l, hb2.size, ho, hl, ?_⟩)⟩
    have hx2 := ND.toX _ _ _ _ (hx.nd _ _ _ _)
    exact hx2.stays (fun _ h => h) (fun a u _ hc => hg.cell hc (by intro e; cases e)) _ _ _ _
  · have hlt := hown.lt
    obtain ⟨g, hg1⟩ : ∃ g, v.ownBlock = some g := by
      rcases hown.2 with ⟨_, h0⟩ | ⟨g, cap, cur, e, _⟩
      · cases h0
      · exact ⟨g, by rw [e]; rfl⟩
    obtain ⟨hg2, hg3⟩ := hlt g hg1
    have hWs : wr.heap.size ≤ W2.heap.size := hb.size
    refine ⟨M, [y], by omega, hM, ?_, fun v' w3 ho hg => ?_⟩
    · rcases hown.2 with ⟨_, h0⟩ | ⟨g', cap, cur, e, e1, e2, e3, e4, e5, e6⟩
      · cases h0
      · have hgg : g' < wr.heap.size := by
          have : g' = g := by rw [e] at hg1; simpa [Value.ownBlock] using hg1
          omega
        exact ⟨hown.1, .inr ⟨g', cap, cur, e, e1, by rw [hb.block g' hgg]; exact e2, e3, e4, e5, e6⟩⟩
    have hb3 : Below w.heap.size w w3 := hb2.grown hg hb2.size (by intro k hk; rw [hg1] at hk; injection hk with hk; omega)
    have hLs : Ls = [m, l] := by
      match Ls, hj, hN, hl, hm with
      | [a, b], _, _, hl, hm => simp at hl hm; subst hl hm; rfl
    subst hLs
    refine ⟨hb3, .inr (.inr ⟨rfl, y, x, m, l, rfl, ⟨ho.1, ?_⟩, ?_, ?_⟩)⟩
    · rcases ho.2 with ⟨_, h0⟩ | ⟨g', cap, cur, e, e1, e2⟩
      · cases h0
      · exact .inr ⟨g', cap, cur, e, Nat.le_trans hM e1, e2⟩
    · have h1 := (hy.keeps hb _ _ _ _).stays (Y := fun _ => True) (w' := w3) (fun _ _ => trivial) (fun a u ha hc => hg.cell hc (by rw [hg1]; intro e; injection e with e; omega)) _ _ _ _
      have := h1.nd _ _ _ _
      simpa using this
    · have h1 := hx.stays (Y := fun _ => True) (w' := w3) (fun _ _ => trivial) (fun a u ha hc => hg.cell hc (by rw [hg1]; intro e; injection e with e; rcases ha with ha | ha <;> omega)) _ _ _ _
      have := h1.nd _ _ _ _
      simpa using this
  · rw [hLs] at hj; simp at hj

/-- All are done. -/
theorem St.done {d h : Nat} {k : Bool} {w : World} {Ls : List (List VT)} {v : Value} {wr : World} (hs : St d h k w Ls Ls.length v wr) (h1 : 1 ≤ Ls.length) : ∃ ps : List Part, SlV wr (ps.map (·.2)) v ∧ Row d h k wr ps ∧ ps.map (·.1) = Ls := by
  obtain ⟨hbw, hs⟩ := hs
  rcases hs with ⟨h0, _⟩ | ⟨h0, M, y, m, hM, hown, hm, hy⟩ | ⟨h0, x', y, l', m, hLs, hown, hx, hy⟩
  · omega
  · have hLs : Ls = [m] := by
      match Ls, h0, hm with
      | [a], _, hm => simp at hm; rw [hm]
    subst hLs
    refine ⟨[(m, y)], SlV.of_own (by simp) hown, fun i hi => ?_, rfl⟩
    have : i = 0 := by simp at hi; omega
    subst this
    exact hy.nd _ _ _ _
  · subst hLs
    refine ⟨[(l', x'), (m, y)], SlV.of_own (by simp) hown, fun i hi => ?_, rfl⟩
    match i, hi with
    | 0, _ => simpa using hx
    | 1, _ => simpa using hy

/-- A slice of nodes over these lists. -/
def RowPost (d h : Nat) (k : Bool) (w : World) (Ls : List (List VT)) (e : Ending) (w' : World) : Prop :=
  ∃ v, ∃ ps : List Part, e = .returned v ∧ SlV w' (ps.map (·.2)) v ∧ Row d h k w' ps ∧ ps.map (·.1) = Ls ∧ Below w.heap.size w w'

theorem St.post {d h : Nat} {k : Bool} {w : World} {Ls : List (List VT)} {v : Value} {wr : World} (hs : St d h k w Ls Ls.length v wr) (h1 : 1 ≤ Ls.length) : RowPost d h k w Ls (.returned v) wr := by
  obtain ⟨ps, h1, h2, h3⟩ := hs.done h1
  exact ⟨v, ps, rfl, h1, h2, h3, hs.1⟩

theorem one_cell {W : World} {x : Value} {T : Nat} {ad : Addr} (e : some (⟨W.heap.size, 0, none⟩ : Addr) = some ad) {n : Nat} {u : Value} (hu : [x][n]? = some u) : (W.alloc (.cells #[x] T)).cell? (ad.add n) = some u := by
  injection e with e
  subst e
  match n, hu with
  | 0, hu => simp at hu; subst hu; simp [Addr.add]

set_option maxRecDepth 100000 in
set_option maxHeartbeats 8000000 in
theorem leaves_any (d : Nat) (k : Bool) (fs : List (List VT × Value)) (u : Value) (w : World) (hu : SlV w (fs.map (·.2)) u) (h1 : 1 ≤ fs.length) (h2 : fs.length ≤ 2) (hp : ∀ (i : Nat) (hi : i < fs.length), Lies (d + 1) w (fs[i]'hi).1 (fs[i]'hi).2 ∧ 1 ≤ (fs[i]'hi).1.length ∧ (fs[i]'hi).1.length ≤ 32 ∧ ((k || decide (i + 1 < fs.length)) = true → 16 ≤ (fs[i]'hi).1.length)) :
    Calls Tryz.prog 231 #[u] w (RowPost d 0 k w (fs.map (·.1))) := by
  obtain ⟨i0, hi, hz0, hz1, hz2⟩ := infoN
  have Hi : Hid _ := hi; have Hz0 : Hid _ := hz0; have Hz1 : Hid _ := hz1; have Hz2 : Hid _ := hz2
  clear hi hz0 hz1 hz2
  obtain ⟨b0, o0, c0, hv, hc0, hcs⟩ := hu.full (fun e => by have := congrArg List.length e; rw [List.length_map, List.length_nil] at this; omega)
  rw [List.length_map] at hv hc0
  subst hv
  have Hcs : Hid (∀ (i : Nat) (hi : i < fs.length), w.cell? ⟨b0, o0 + i, none⟩ = some (fs[i]'hi).2) := fun i hi => by
    have := hcs i (by rw [List.length_map]; exact hi)
    rwa [List.getElem_map] at this
  obtain ⟨L, hL⟩ : ∃ L, L = fs.length := ⟨_, rfl⟩
  have HL : Hid (L = fs.length) := hL
  have Hp : Hid (∀ (i : Nat) (hi : i < fs.length), Lies (d + 1) w (fs[i]'hi).1 (fs[i]'hi).2 ∧ 1 ≤ (fs[i]'hi).1.length ∧ (fs[i]'hi).1.length ≤ 32 ∧ ((k || decide (i + 1 < fs.length)) = true → 16 ≤ (fs[i]'hi).1.length)) := hp
  clear hp
  obtain ⟨H, hH⟩ : ∃ H, H = 0 := ⟨_, rfl⟩
  rw [← hH]
  have HH : Hid (H = 0) := hH
  clear hH
  obtain ⟨Ls, hLs⟩ : ∃ Ls, Ls = fs.map (·.1) := ⟨_, rfl⟩
  rw [← hLs]
  have HLf : Hid (Ls = fs.map (·.1)) := hLs
  have HLs : Hid (Ls.length = L) := by show _ = _; rw [hLs, List.length_map, hL]
  have HS0 : Hid (St d H k w Ls 0 (.slice none 0 0) w) := ⟨Below.refl _ _, .inl ⟨rfl, rfl⟩⟩
  rw [← hL] at h1 h2 hc0 ⊢
  clear hu hcs hLs hL
  go_enter Tryz.func231, Tryz.ntmps231
  go_wp2_with fail
  go_loopg [8, 3] L (fun z vi v wr => ∃ (j : Nat), vi = .int .i64 (j : Int) ∧ j ≤ L ∧ z = L - j ∧ Hid (St d H k w Ls j v wr))
  case atStart => exact ⟨0, rfl, by omega, by omega, HS0⟩
  case round =>
    obtain ⟨j, rfl, hj, hk, HS⟩ := hrel
    have Hk : Hid _ := hk
    clear hk HS0
    have hbw : Below w.heap.size w wr := HS.out.below
    by_cases hlt : j < L
    · have hji : (j : Int) < (L : Nat) := by omega
      have hjf : j < fs.length := by have := HL.out; omega
      have hjL : j < Ls.length := by have := HLs.out; omega
      have hN2 : Ls.length ≤ 2 := by have := HLs.out; omega
      have pj := cell_keeps hbw (Hcs.out j hjf)
      have hbl : b0 < wr.heap.size := cell_lt pj
      have hLj : Ls[j]? = some (fs[j]'hjf).1 := by rw [HLf.out, List.getElem?_map, List.getElem?_eq_getElem hjf]; rfl
      obtain ⟨q1, q2, q3, q4⟩ := Hp.out j hjf
      rw [← HL.out, ← HLs.out] at q4
      obtain ⟨a5, c5, e5, _⟩ := Lies.slice q1
      rw [e5] at pj q1
      obtain ⟨l5, hl5⟩ : ∃ l5, l5 = (fs[j]'hjf).1 := ⟨_, rfl⟩
      rw [← hl5] at q1 q2 q3 q4 pj hLj
      clear hl5 e5
      have HBW : Hid (Below wr.heap.size wr ((wr.alloc (.cells #[.slice a5 l5.length c5] 154)).alloc (.cells #[.iface 152 (.pointer (some ⟨wr.heap.size, 0, none⟩))] 76))) := (((Grew.refl wr).alloc _).alloc _).below
      have HNX : Hid (NDX (fun b => b < w.heap.size ∨ wr.heap.size ≤ b) d H (k || decide (j + 1 < Ls.length)) ((wr.alloc (.cells #[.slice a5 l5.length c5] 154)).alloc (.cells #[.iface 152 (.pointer (some ⟨wr.heap.size, 0, none⟩))] 76)) l5 (.iface 152 (.pointer (some ⟨wr.heap.size, 0, none⟩)))) := by
        show NDX _ _ _ _ _ _ _
        rw [HH.out]
        refine ⟨wr.heap.size, a5, c5, rfl, .inr (Nat.le_refl _), by simp, ?_, q2, q3, q4⟩
        exact LiesX.stays (fun b h => .inl h) (fun _ _ _ hc => cell_keeps (hbw.trans (HBW.out.mono hbw.size)) hc) (LiesX.of_lies q1)
      clear q1 q2 q3 q4

      have HS2 : Hid (∃ base xs, base ≤ ((wr.alloc (.cells #[.slice a5 l5.length c5] 154)).alloc (.cells #[.iface 152 (.pointer (some ⟨wr.heap.size, 0, none⟩))] 76)).heap.size ∧ w.heap.size ≤ base ∧ ((wr.alloc (.cells #[.slice a5 l5.length c5] 154)).alloc (.cells #[.iface 152 (.pointer (some ⟨wr.heap.size, 0, none⟩))] 76)).ownsRow base 76 1 u3 j xs ∧ ∀ v' w3, w3.ownsRow base 76 1 v' (j + 1) (xs ++ [.iface 152 (.pointer (some ⟨wr.heap.size, 0, none⟩))]) → ((wr.alloc (.cells #[.slice a5 l5.length c5] 154)).alloc (.cells #[.iface 152 (.pointer (some ⟨wr.heap.size, 0, none⟩))] 76)).grownBy w3 u3.ownBlock → St d H k w Ls (j + 1) v' w3) := HS.out.step hjL hN2 hLj HBW.out HNX.out
      obtain ⟨base, xs, hbase, _, hown, hnext⟩ := HS2.out
      have Hbase : Hid (base ≤ ((wr.alloc (.cells #[.slice a5 l5.length c5] 154)).alloc (.cells #[.iface 152 (.pointer (some ⟨wr.heap.size, 0, none⟩))] 76)).heap.size) := hbase
      have Hown : Hid (((wr.alloc (.cells #[.slice a5 l5.length c5] 154)).alloc (.cells #[.iface 152 (.pointer (some ⟨wr.heap.size, 0, none⟩))] 76)).ownsRow base 76 1 u3 j xs) := hown
      have Hnext : Hid (∀ v' w3, w3.ownsRow base 76 1 v' (j + 1) (xs ++ [.iface 152 (.pointer (some ⟨wr.heap.size, 0, none⟩))]) → ((wr.alloc (.cells #[.slice a5 l5.length c5] 154)).alloc (.cells #[.iface 152 (.pointer (some ⟨wr.heap.size, 0, none⟩))] 76)).grownBy w3 u3.ownBlock → St d H k w Ls (j + 1) v' w3) := hnext
      clear HS2 hbase hown hnext hLj HS
      have h63 : j + 1 ≤ maxLen := by unfold maxLen; omega
      have hby : (j + 1) * 16 ≤ 140737488355328 := by omega
      have Hnews : Hid (∀ ad, some (⟨wr.heap.size + 1, 0, none⟩ : Addr) = some ad → ∀ n u, [Value.iface 152 (.pointer (some ⟨wr.heap.size, 0, none⟩))][n]? = some u → ((wr.alloc (.cells #[.slice a5 l5.length c5] 154)).alloc (.cells #[.iface 152 (.pointer (some ⟨wr.heap.size, 0, none⟩))] 76)).cell? (ad.add n) = some u) := fun ad e n u hu => one_cell (by rw [← e]; simp) hu
      go_wp2_with (at_builtin; refine wpList_append_rowN rfl _ _ rfl base i0 Hi.out Hz0.out Hz1.out Hz2.out _ _ _ rfl Hown.out (some ⟨wr.heap.size + 1, 0, none⟩) 1 1 [.iface 152 (.pointer (some ⟨wr.heap.size, 0, none⟩))] rfl (fun e => nomatch e) rfl Hnews.out (fun u hu => by rw [List.mem_singleton.1 hu]; rfl) h63 hby Hbase.out ?_; intro v5 w5 hown5 hgrow5)
      have HS5 : Hid (St d H k w Ls (j + 1) v5 w5) := Hnext.out v5 w5 hown5 hgrow5
      clear hown5 hgrow5 Hown Hnext Hbase HBW HNX
      go_wp2_with fail
      go_roundg (L - (j + 1))
      case measure => have := Hk.out; omega
      case rel => exact ⟨j + 1, by go_num, by omega, rfl, HS5⟩
    · have hji : ¬ (j : Int) < (L : Nat) := by omega
      have hjL : j = L := by omega
      have HP : Hid (RowPost d H k w Ls (.returned u3) wr) := St.post (by rw [HLs.out, ← hjL]; exact HS.out) (by have := HLs.out; omega)
      clear HS
      go_wp2_with fail
      go_ret
      exact HP.out

set_option maxRecDepth 100000 in
set_option maxHeartbeats 8000000 in
theorem branches_any (d h : Nat) (k : Bool) (fs : List (List Part × Value)) (u : Value) (w : World) (hu : SlV w (fs.map (·.2)) u) (h1 : 1 ≤ fs.length) (h2 : fs.length ≤ 2) (hp : ∀ (i : Nat) (hi : i < fs.length), SlV w ((fs[i]'hi).1.map (·.2)) (fs[i]'hi).2 ∧ 1 ≤ (fs[i]'hi).1.length ∧ (fs[i]'hi).1.length ≤ 32 ∧ ((k || decide (i + 1 < fs.length)) = true → 16 ≤ (fs[i]'hi).1.length) ∧ Row d h (k || decide (i + 1 < fs.length)) w (fs[i]'hi).1 ∧ ((fs[i]'hi).1.flatMap (·.1)).length ≤ 1099511627776) :
    Calls Tryz.prog 233 #[u] w (RowPost d (h + 1) k w (fs.map fun p => p.1.flatMap (·.1))) := by
  obtain ⟨i0, hi, hz0, hz1, hz2⟩ := infoN
  have Hi : Hid _ := hi; have Hz0 : Hid _ := hz0; have Hz1 : Hid _ := hz1; have Hz2 : Hid _ := hz2
  clear hi hz0 hz1 hz2
  obtain ⟨b0, o0, c0, hv, hc0, hcs⟩ := hu.full (fun e => by have := congrArg List.length e; rw [List.length_map, List.length_nil] at this; omega)
  rw [List.length_map] at hv hc0
  subst hv
  have Hcs : Hid (∀ (i : Nat) (hi : i < fs.length), w.cell? ⟨b0, o0 + i, none⟩ = some (fs[i]'hi).2) := fun i hi => by
    have := hcs i (by rw [List.length_map]; exact hi)
    rwa [List.getElem_map] at this
  obtain ⟨L, hL⟩ : ∃ L, L = fs.length := ⟨_, rfl⟩
  have HL : Hid (L = fs.length) := hL
  have Hp : Hid (∀ (i : Nat) (hi : i < fs.length), SlV w ((fs[i]'hi).1.map (·.2)) (fs[i]'hi).2 ∧ 1 ≤ (fs[i]'hi).1.length ∧ (fs[i]'hi).1.length ≤ 32 ∧ ((k || decide (i + 1 < fs.length)) = true → 16 ≤ (fs[i]'hi).1.length) ∧ Row d h (k || decide (i + 1 < fs.length)) w (fs[i]'hi).1 ∧ ((fs[i]'hi).1.flatMap (·.1)).length ≤ 1099511627776) := hp
  clear hp
  obtain ⟨H, hH⟩ : ∃ H, H = h + 1 := ⟨_, rfl⟩
  rw [← hH]
  have HH : Hid (H = h + 1) := hH
  clear hH
  obtain ⟨Ls, hLs⟩ : ∃ Ls, Ls = fs.map fun p => p.1.flatMap (·.1) := ⟨_, rfl⟩
  rw [← hLs]
  have HLf : Hid (Ls = fs.map fun p => p.1.flatMap (·.1)) := hLs
  have HLs : Hid (Ls.length = L) := by show _ = _; rw [hLs, List.length_map, hL]
  have HS0 : Hid (St d H k w Ls 0 (.slice none 0 0) w) := ⟨Below.refl _ _, .inl ⟨rfl, rfl⟩⟩
  rw [← hL] at h1 h2 hc0 ⊢
  clear hu hcs hLs hL
  go_enter Tryz.func233, Tryz.ntmps233
  go_wp2_with fail
  go_loopg [8, 3] L (fun z vi v wr => ∃ (j : Nat), vi = .int .i64 (j : Int) ∧ j ≤ L ∧ z = L - j ∧ Hid (St d H k w Ls j v wr))
  case atStart => exact ⟨0, rfl, by omega, by omega, HS0⟩
  case round =>
    obtain ⟨j, rfl, hj, hk, HS⟩ := hrel
    have Hk : Hid _ := hk
    clear hk HS0
    have hbw : Below w.heap.size w wr := HS.out.below
    by_cases hlt : j < L
    · have hji : (j : Int) < (L : Nat) := by omega
      have hjf : j < fs.length := by have := HL.out; omega
      have hjL : j < Ls.length := by have := HLs.out; omega
      have hN2 : Ls.length ≤ 2 := by have := HLs.out; omega
      have pj := cell_keeps hbw (Hcs.out j hjf)
      have hbl : b0 < wr.heap.size := cell_lt pj
      have hLj : Ls[j]? = some ((fs[j]'hjf).1.flatMap (·.1)) := by rw [HLf.out, List.getElem?_map, List.getElem?_eq_getElem hjf]; rfl
      obtain ⟨q1, q2, q3, q4, q5, q6⟩ := Hp.out j hjf
      rw [← HL.out, ← HLs.out] at q4 q5
      have HCl : Hid _ := above_x (fun b => b < w.heap.size) d h (k || decide (j + 1 < Ls.length)) (fs[j]'hjf).1 (fs[j]'hjf).2 wr (q1.toX.stays (fun _ h => h) (fun _ _ _ hv => cell_keeps hbw hv)) q2 q3 q4 (fun t ht => (ND.toX _ _ _ _ (q5 t ht)).keeps hbw _ _ _ _) q6
      rw [← HH.out] at HCl
      obtain ⟨l5, hl5⟩ : ∃ l5, l5 = (fs[j]'hjf).1.flatMap (·.1) := ⟨_, rfl⟩
      obtain ⟨u5, hu5⟩ : ∃ u5, u5 = (fs[j]'hjf).2 := ⟨_, rfl⟩
      rw [← hl5] at HCl hLj
      rw [← hu5] at HCl pj
      clear hl5 hu5 q1 q2 q3 q4 q5 q6
      go_wp2_with fail
      refine Calls.mono HCl.out ?_
      rintro e w1 ⟨b7, rfl, hn7, hb7⟩
      have HBW : Hid (Below wr.heap.size wr (w1.alloc (.cells #[.iface 158 (.pointer (some ⟨b7, 0, none⟩))] 76))) := hb7.alloc hb7.size _
      have HNX : Hid (NDX (fun b => b < w.heap.size ∨ wr.heap.size ≤ b) d H (k || decide (j + 1 < Ls.length)) (w1.alloc (.cells #[.iface 158 (.pointer (some ⟨b7, 0, none⟩))] 76)) l5 (.iface 158 (.pointer (some ⟨b7, 0, none⟩)))) := hn7.keeps ((Grew.refl w1).alloc _).below _ _ _ _
      clear hn7 hb7 HCl pj
      have HS2 : Hid (∃ base xs, base ≤ (w1.alloc (.cells #[.iface 158 (.pointer (some ⟨b7, 0, none⟩))] 76)).heap.size ∧ w.heap.size ≤ base ∧ (w1.alloc (.cells #[.iface 158 (.pointer (some ⟨b7, 0, none⟩))] 76)).ownsRow base 76 1 u3 j xs ∧ ∀ v' w3, w3.ownsRow base 76 1 v' (j + 1) (xs ++ [.iface 158 (.pointer (some ⟨b7, 0, none⟩))]) → (w1.alloc (.cells #[.iface 158 (.pointer (some ⟨b7, 0, none⟩))] 76)).grownBy w3 u3.ownBlock → St d H k w Ls (j + 1) v' w3) := HS.out.step hjL hN2 hLj HBW.out HNX.out
      obtain ⟨base, xs, hbase, _, hown, hnext⟩ := HS2.out
      have Hbase : Hid (base ≤ (w1.alloc (.cells #[.iface 158 (.pointer (some ⟨b7, 0, none⟩))] 76)).heap.size) := hbase
      have Hown : Hid ((w1.alloc (.cells #[.iface 158 (.pointer (some ⟨b7, 0, none⟩))] 76)).ownsRow base 76 1 u3 j xs) := hown
      have Hnext : Hid (∀ v' w3, w3.ownsRow base 76 1 v' (j + 1) (xs ++ [.iface 158 (.pointer (some ⟨b7, 0, none⟩))]) → (w1.alloc (.cells #[.iface 158 (.pointer (some ⟨b7, 0, none⟩))] 76)).grownBy w3 u3.ownBlock → St d H k w Ls (j + 1) v' w3) := hnext
      clear HS2 hbase hown hnext hLj HS
      have h63 : j + 1 ≤ maxLen := by unfold maxLen; omega
      have hby : (j + 1) * 16 ≤ 140737488355328 := by omega
      go_wp2_with (at_builtin; refine wpList_append_rowN rfl _ _ rfl base i0 Hi.out Hz0.out Hz1.out Hz2.out _ _ _ rfl Hown.out (some ⟨w1.heap.size, 0, none⟩) 1 1 [.iface 158 (.pointer (some ⟨b7, 0, none⟩))] rfl (fun e => nomatch e) rfl (fun ad e n u hu => one_cell e hu) (fun u hu => by rw [List.mem_singleton.1 hu]; rfl) h63 hby Hbase.out ?_; intro v5 w5 hown5 hgrow5)
      have HS5 : Hid (St d H k w Ls (j + 1) v5 w5) := Hnext.out v5 w5 hown5 hgrow5
      clear hown5 hgrow5 Hown Hnext Hbase HBW HNX
      go_wp2_with fail
      go_roundg (L - (j + 1))
      case measure => have := Hk.out; omega
      case rel => exact ⟨j + 1, by go_num, by omega, rfl, HS5⟩
    · have hji : ¬ (j : Int) < (L : Nat) := by omega
      have hjL : j = L := by omega
      have HP : Hid (RowPost d H k w Ls (.returned u3) wr) := St.post (by rw [HLs.out, ← hjL]; exact HS.out) (by have := HLs.out; omega)
      clear HS
      go_wp2_with fail
      go_ret
      exact HP.out

end Go.Proofs.YtekoaiehhjgfiaaGreat

namespace Go.Proofs.YtekoaiehhjgfiaaGreat
open Go.RowKit

/-- A tree's top: no branch of one node. -/
def TN (d : Nat) (w : World) (l : List VT) (v : Value) : Prop := ∃ h, ND d h false w l v ∧ (h = 0 ∨ 16 ^ h ≤ l.length)

theorem TN.keeps {d : Nat} {w w' : World} {l : List VT} {v : Value} (ht : TN d w l v) (hb : Below w.heap.size w w') : TN d w' l v := by
  obtain ⟨h, hn, hh⟩ := ht
  exact ⟨h, hn.keeps hb _ _ _ _, hh⟩

/-- What lowered tells. -/
def LowPost (d : Nat) (l : List VT) (w : World) (e : Ending) (w' : World) : Prop := ∃ v, e = .returned v ∧ TN d w l v ∧ w' = w

set_option maxRecDepth 100000 in
set_option maxHeartbeats 4000000 in
theorem lowered_any (d : Nat) : ∀ (h : Nat) (l : List VT) (v : Value) (w : World), ND d h false w l v → Calls Tryz.prog 214 #[v] w (LowPost d l w) := by
  intro h
  induction h with
  | zero =>
    intro l v w hn
    have HE : Hid (LowPost d l w (.returned v) w) := ⟨v, rfl, ⟨0, hn, .inl rfl⟩, rfl⟩
    obtain ⟨b, a, c, rfl, hc, _⟩ := hn
    have ta := as_LB
    go_enter Tryz.func214, Tryz.ntmps214
    go_wp2_with fail
    go_ret
    exact HE.out
  | succ h ih =>
    intro l v w hn
    have HN : Hid (ND d (h + 1) false w l v) := hn
    obtain ⟨b, sl, el, ps, rfl, hc0, hc1, hs, he, h1, h2, h3, hl, hp⟩ := hn
    obtain ⟨g, o, c, hsl, hcap, hcs⟩ := hs.full (fun e => by have := congrArg List.length e; rw [List.length_map, List.length_nil] at this; omega)
    subst hsl
    have p0 := hcs 0 (by rw [List.length_map]; omega)
    rw [List.getElem_map, Nat.add_zero] at p0
    rw [List.length_map] at hc0
    have ta := as_BB
    by_cases hone : ps.length = 1
    · obtain ⟨q, rfl⟩ := List.length_eq_one_iff.1 hone
      have hl0 : l = q.1 := by rw [hl]; simp
      have h0 : ND d h false w l q.2 := by
        have := hp 0 (by simp)
        rw [hl0]; simpa using this
      have HC : Hid _ := ih _ _ w h0
      have p0' : w.cell? ⟨g, o, none⟩ = some q.2 := p0
      have hc0' : w.cell? ⟨b, 0, none⟩ = some (.slice (some ⟨g, o, none⟩) 1 c) := hc0
      generalize q.2 = v0 at HC p0'
      clear ih hp hcs hs he hc1 hcap hl hl0 h0 h3 HN hone p0 hc0
      go_enter Tryz.func214, Tryz.ntmps214
      go_wp2_with fail
      refine Calls.mono HC.out ?_
      rintro e w1 ⟨v1, rfl, ht, rfl⟩
      have HE : Hid (LowPost d l w1 (.returned v1) w1) := ⟨v1, rfl, ht, rfl⟩
      go_wp2_with fail
      go_ret
      exact HE.out
    · obtain ⟨L, hL⟩ : ∃ L, L = ps.length := ⟨_, rfl⟩
      have HE : Hid (LowPost d l w (.returned (.iface 158 (.pointer (some ⟨b, 0, none⟩)))) w) := by
        refine ⟨_, rfl, ⟨h + 1, HN.out, .inr ?_⟩, rfl⟩
        have h0 := hp 0 (by omega)
        have e0 : (false || decide (0 + 1 < ps.length)) = true := by simp; omega
        rw [e0] at h0
        have h9 := h0.least _ _ _
        have := sum_mem_le (ps.map fun p => p.1.length) (ps[0]'(by omega)).1.length (List.mem_map.2 ⟨_, List.getElem_mem _, rfl⟩)
        rw [hl, flat_sum]
        omega
      rw [← hL] at hc0 hone
      have hLi : ¬ ((L : Nat) : Int) = 1 := by omega
      clear p0 ih hp hcs hs he hc1 hcap hl h1 h2 h3 HN hL
      go_enter Tryz.func214, Tryz.ntmps214
      go_wp2_with fail
      go_ret
      exact HE.out

theorem Row.app {d h : Nat} {k : Bool} {w : World} {A B : List Part} (hA : Row d h true w A) (hB : Row d h k w B) (hne : 1 ≤ B.length) : Row d h k w (A ++ B) := fun i hi => by
  rw [List.length_append] at hi
  by_cases hlt : i < A.length
  · have h1 := hA i hlt
    rw [Bool.true_or] at h1
    rw [List.getElem_append_left hlt]
    exact h1.edge _ _ _ _
  · have h1 := hB (i - A.length) (by omega)
    rw [List.getElem_append_right (by omega)]
    have e : decide (i - A.length + 1 < B.length) = decide (i + 1 < (A ++ B).length) := by
      rw [List.length_append]; congr 1; apply propext; omega
    rw [← e]; exact h1

theorem Row.cut {d h : Nat} {k : Bool} {w : World} {A : List Part} (hA : Row d h k w A) (m : Nat) (hm : m < A.length) : Row d h true w (A.take m) := fun i hi => by
  rw [List.length_take] at hi
  have h1 := hA i (by omega)
  have e : (k || decide (i + 1 < A.length)) = true := by
    have : i + 1 < A.length := by omega
    simp [this]
  rw [e] at h1
  rw [Bool.true_or, List.getElem_take]
  exact h1

theorem Row.rest {d h : Nat} {k : Bool} {w : World} {A : List Part} (hA : Row d h k w A) (m : Nat) : Row d h k w (A.drop m) := fun i hi => by
  rw [List.length_drop] at hi
  have h1 := hA (m + i) (by omega)
  rw [List.getElem_drop]
  have e : decide (m + i + 1 < A.length) = decide (i + 1 < (A.drop m).length) := by
    rw [List.length_drop]; congr 1; apply propext; omega
  rw [← e]; exact h1

theorem Row.edge {d h : Nat} {k : Bool} {w : World} {A : List Part} (hA : Row d h true w A) : Row d h k w A := fun i hi => by
  have h1 := hA i hi
  rw [Bool.true_or] at h1
  exact h1.edge _ _ _ _

theorem Row.one {d h : Nat} {k : Bool} {w : World} {A : List Part} (hA : Row d h k w A) : OneC (A.map (·.2)) := fun u hu => by
  obtain ⟨r, hr, rfl⟩ := List.mem_map.1 hu
  obtain ⟨j, hj, rfl⟩ := List.getElem_of_mem hr
  exact nd_one (hA j hj)

/-- What branches asks of each of its lists. -/
def BrIn (d h : Nat) (kk : Bool) (w : World) (p : List Part × Value) : Prop :=
  SlV w (p.1.map (·.2)) p.2 ∧ 1 ≤ p.1.length ∧ p.1.length ≤ 32 ∧ (kk = true → 16 ≤ p.1.length) ∧ Row d h kk w p.1 ∧ (p.1.flatMap (·.1)).length ≤ 1099511627776

theorem branches_in (d h : Nat) (k : Bool) (fs : List (List Part × Value)) (u : Value) (w : World) (hu : SlV w (fs.map (·.2)) u) (h1 : 1 ≤ fs.length) (h2 : fs.length ≤ 2) (hp : ∀ (i : Nat) (hi : i < fs.length), BrIn d h (k || decide (i + 1 < fs.length)) w (fs[i]'hi)) :
    Calls Tryz.prog 233 #[u] w (RowPost d (h + 1) k w (fs.map fun p => p.1.flatMap (·.1))) := branches_any d h k fs u w hu h1 h2 hp

theorem map_one {α β : Type} {f : α → β} {l : List α} {x : β} (h : l.map f = [x]) : ∃ p, l = [p] ∧ f p = x := by
  match l with
  | [] => cases h
  | [p] => exact ⟨p, rfl, by simpa using h⟩
  | p :: q :: r => simp at h

theorem map_two {α β : Type} {f : α → β} {l : List α} {x y : β} (h : l.map f = [x, y]) : ∃ p q, l = [p, q] ∧ f p = x ∧ f q = y := by
  match l with
  | [] => cases h
  | [p] => simp at h
  | [p, q] => exact ⟨p, q, rfl, by simpa using h⟩
  | p :: q :: r :: t => simp at h

theorem fit_in {d h : Nat} {k : Bool} {w : World} {A B : List Part} {fs : List (List Value × Value)} (hA : Row d h true w A) (hB : Row d h k w B) (h1 : 1 ≤ B.length) (hB2 : B.length ≤ 32) (hA2 : A.length ≤ 32) (h3 : k = true → 16 ≤ B.length) (hsum : ((A ++ B).flatMap (·.1)).length ≤ 1099511627776)
    (hfs : fs.map (·.1) = fitL (A.map (·.2)) (B.map (·.2))) (hn : ∀ p ∈ fs, NdS w p.1 p.2) :
    ∃ gs : List (List Part × Value), gs.map (·.2) = fs.map (·.2) ∧ 1 ≤ gs.length ∧ gs.length ≤ 2 ∧ (∀ (i : Nat) (hi : i < gs.length), BrIn d h (k || decide (i + 1 < gs.length)) w (gs[i]'hi)) ∧ (gs.map fun p => p.1.flatMap (·.1)).flatten = (A ++ B).flatMap (·.1) := by
  have hAB := hA.app hB h1
  unfold fitL at hfs
  rw [List.length_map, List.length_map] at hfs
  by_cases c1 : A.length + B.length ≤ 32
  · rw [if_pos c1] at hfs
    obtain ⟨p, rfl, hfs1⟩ := map_one hfs
    · replace hfs := hfs1
      have hs := (hn p (by simp)).1
      rw [hfs, ← List.map_append] at hs
      refine ⟨[(A ++ B, p.2)], rfl, by simp, by simp, fun i hi => ?_, by simp⟩
      have : i = 0 := by simp at hi; omega
      subst this
      refine ⟨hs, by simp; omega, by simp; omega, fun hk => ?_, ?_, hsum⟩
      · have : k = true := by simpa using hk
        have := h3 this
        simp; omega
      · have e : (k || decide (0 + 1 < [(A ++ B, p.2)].length)) = k := by simp
        rw [e]; exact hAB
  · rw [if_neg c1] at hfs
    by_cases c2 : 16 ≤ A.length
    · rw [if_pos c2] at hfs
      obtain ⟨p, q, rfl, hfs1⟩ := map_two hfs
      · replace hfs := hfs1
        have hs := (hn p (by simp)).1
        have ht := (hn q (by simp)).1
        rw [hfs.1] at hs
        rw [hfs.2] at ht
        rw [List.flatMap_append, List.length_append] at hsum
        refine ⟨[(A, p.2), (B, q.2)], rfl, by simp, by simp, fun i hi => ?_, by simp⟩
        match i, hi with
        | 0, _ =>
          have e : (k || decide (0 + 1 < [(A, p.2), (B, q.2)].length)) = true := by simp
          rw [e]
          exact ⟨hs, by simp; omega, by simp; omega, fun _ => by simpa using c2, hA, by simp only [List.getElem_cons_zero]; omega⟩
        | 1, _ =>
          have e : (k || decide (1 + 1 < [(A, p.2), (B, q.2)].length)) = k := by simp
          rw [e]
          exact ⟨ht, by simp; omega, by simp; omega, fun hk => by simpa using h3 hk, hB, by simp only [List.getElem_cons_succ, List.getElem_cons_zero]; omega⟩
    · rw [if_neg c2] at hfs
      obtain ⟨m, hm⟩ : ∃ m, m = (A.length + B.length) / 2 := ⟨_, rfl⟩
      rw [← hm, ← List.map_append, ← List.map_take, ← List.map_drop] at hfs
      obtain ⟨p, q, rfl, hfs1⟩ := map_two hfs
      · replace hfs := hfs1
        have hs := (hn p (by simp)).1
        have ht := (hn q (by simp)).1
        rw [hfs.1] at hs
        rw [hfs.2] at ht
        have hw : ((A ++ B).take m).flatMap (·.1) ++ ((A ++ B).drop m).flatMap (·.1) = (A ++ B).flatMap (·.1) := by rw [← List.flatMap_append, List.take_append_drop]
        have hsum2 := hsum
        rw [← hw, List.length_append] at hsum2
        have hlt : ((A ++ B).take m).length = m := by rw [List.length_take, List.length_append]; omega
        have hld : ((A ++ B).drop m).length = A.length + B.length - m := by rw [List.length_drop, List.length_append]
        have r1 := hAB.cut m (by rw [List.length_append]; omega)
        have r2 := hAB.rest m
        generalize (A ++ B).take m = P at *
        generalize (A ++ B).drop m = Q at *
        refine ⟨[(P, p.2), (Q, q.2)], rfl, by simp, by simp, fun i hi => ?_, by simpa using hw⟩
        match i, hi with
        | 0, _ =>
          have e : (k || decide (0 + 1 < [(P, p.2), (Q, q.2)].length)) = true := by simp
          rw [e]
          exact ⟨hs, by simp only [List.getElem_cons_zero]; omega, by simp only [List.getElem_cons_zero]; omega, fun _ => by simp only [List.getElem_cons_zero]; omega, r1, by simp only [List.getElem_cons_zero]; omega⟩
        | 1, _ =>
          have e : (k || decide (1 + 1 < [(P, p.2), (Q, q.2)].length)) = k := by simp
          rw [e]
          exact ⟨ht, by simp only [List.getElem_cons_succ, List.getElem_cons_zero]; omega, by simp only [List.getElem_cons_succ, List.getElem_cons_zero]; omega, fun hk => by simp only [List.getElem_cons_succ, List.getElem_cons_zero]; omega, r2, by simp only [List.getElem_cons_succ, List.getElem_cons_zero]; omega⟩

/-- As fit_in, of the items of two leaves. -/
theorem fit_leaf {d : Nat} {k : Bool} {w : World} {A B : List VT} {fs : List (List VT × Value)} (hB1 : 1 ≤ B.length) (hB2 : B.length ≤ 32) (hA2 : A.length ≤ 32) (h3 : k = true → 16 ≤ B.length) (hfs : fs.map (·.1) = fitL A B) (hn : ∀ p ∈ fs, Lies (d + 1) w p.1 p.2) :
    1 ≤ fs.length ∧ fs.length ≤ 2 ∧ (∀ (i : Nat) (hi : i < fs.length), Lies (d + 1) w (fs[i]'hi).1 (fs[i]'hi).2 ∧ 1 ≤ (fs[i]'hi).1.length ∧ (fs[i]'hi).1.length ≤ 32 ∧ ((k || decide (i + 1 < fs.length)) = true → 16 ≤ (fs[i]'hi).1.length)) ∧ (fs.map (·.1)).flatten = A ++ B := by
  have hl : ∀ (i : Nat) (hi : i < fs.length), (fs[i]'hi).1 = ((fitL A B)[i]'(by rw [← hfs, List.length_map]; exact hi)) := fun i hi => by simp [← hfs]
  have hlen : fs.length = (fitL A B).length := by rw [← hfs, List.length_map]
  have hfl : (fitL A B).flatten = A ++ B ∧ 1 ≤ (fitL A B).length ∧ (fitL A B).length ≤ 2 ∧ ∀ (i : Nat) (hi : i < (fitL A B).length), 1 ≤ ((fitL A B)[i]'hi).length ∧ ((fitL A B)[i]'hi).length ≤ 32 ∧ ((k || decide (i + 1 < (fitL A B).length)) = true → 16 ≤ ((fitL A B)[i]'hi).length) := by
    unfold fitL
    by_cases c1 : A.length + B.length ≤ 32
    · rw [if_pos c1]
      refine ⟨by simp, by simp, by simp, fun i hi => ?_⟩
      have : i = 0 := by simp at hi; omega
      subst this
      refine ⟨by simp; omega, by simp; omega, fun hk => ?_⟩
      have : k = true := by simpa using hk
      have := h3 this
      simp; omega
    · rw [if_neg c1]
      by_cases c2 : 16 ≤ A.length
      · rw [if_pos c2]
        refine ⟨by simp, by simp, by simp, fun i hi => ?_⟩
        match i, hi with
        | 0, _ => exact ⟨by simp; omega, by simp; omega, fun _ => by simpa using c2⟩
        | 1, _ => exact ⟨by simp; omega, by simp; omega, fun hk => by have : k = true := by simpa using hk
                                                                      simpa using h3 this⟩
      · rw [if_neg c2]
        refine ⟨by simp, by simp, by simp, fun i hi => ?_⟩
        match i, hi with
        | 0, _ => exact ⟨by simp only [List.getElem_cons_zero, List.length_take, List.length_append]; omega, by simp only [List.getElem_cons_zero, List.length_take, List.length_append]; omega, fun _ => by simp only [List.getElem_cons_zero, List.length_take, List.length_append]; omega⟩
        | 1, _ => exact ⟨by simp only [List.getElem_cons_succ, List.getElem_cons_zero, List.length_drop, List.length_append]; omega, by simp only [List.getElem_cons_succ, List.getElem_cons_zero, List.length_drop, List.length_append]; omega, fun hk => by simp only [List.getElem_cons_succ, List.getElem_cons_zero, List.length_drop, List.length_append]; omega⟩
  obtain ⟨f1, f2, f3, f4⟩ := hfl
  refine ⟨by omega, by omega, fun i hi => ?_, by rw [hfs]; exact f1⟩
  have q := f4 i (by omega)
  have e := hl i hi
  refine ⟨hn _ (List.getElem_mem _), ?_⟩
  have e2 : decide (i + 1 < fs.length) = decide (i + 1 < (fitL A B).length) := by rw [hlen]
  rw [e, e2]
  exact q

/-- What beside tells. -/
def BesPost (d m : Nat) (k : Bool) (l : List VT) (w : World) (e : Ending) (w' : World) : Prop :=
  ∃ v, ∃ ps : List Part, e = .returned v ∧ SlV w' (ps.map (·.2)) v ∧ Row d m k w' ps ∧ ps.flatMap (·.1) = l ∧ 1 ≤ ps.length ∧ ps.length ≤ 2 ∧ Below w.heap.size w w'

theorem RowPost.bes {d m : Nat} {k : Bool} {w W : World} {Ls : List (List VT)} {e : Ending} {w' : World} (h : RowPost d m k W Ls e w') {l : List VT} (hl : Ls.flatten = l) (h1 : 1 ≤ Ls.length) (h2 : Ls.length ≤ 2) (hb : Below w.heap.size w W) : BesPost d m k l w e w' := by
  obtain ⟨v, ps, he, hs, hr, hm, hb2⟩ := h
  have hlen : ps.length = Ls.length := by rw [← hm, List.length_map]
  refine ⟨v, ps, he, hs, hr, ?_, by omega, by omega, hb.trans (hb2.mono hb.size)⟩
  rw [← hl, ← hm, List.flatMap_def]

end Go.Proofs.YtekoaiehhjgfiaaGreat

namespace Go.Proofs.YtekoaiehhjgfiaaGreat
open Go.RowKit

/-- What was there is there. -/
def KeepsC (w w' : World) : Prop := ∀ a v, w.cell? a = some v → w'.cell? a = some v

theorem KeepsC.alloc (w : World) (o : Obj) : KeepsC w (w.alloc o) := fun _ _ h => cell_keeps ((Grew.refl w).alloc o).below h

theorem SlV.keepsC {w w' : World} {vs : List Value} {v : Value} (h : SlV w vs v) (hk : KeepsC w w') : SlV w' vs v := by
  obtain ⟨a, c, hv, hc, hr⟩ := h
  refine ⟨a, c, hv, hc, fun hne => ?_⟩
  obtain ⟨b, o, ha, hcs⟩ := hr hne
  exact ⟨b, o, ha, fun i hi => hk _ _ (hcs i hi)⟩

theorem NdS.keepsC {w w' : World} {vs : List Value} {v : Value} (h : NdS w vs v) (hk : KeepsC w w') : NdS w' vs v := ⟨h.1.keepsC hk, h.2⟩

theorem NdS.keepsA {w w' : World} {o : Obj} {vs : List Value} {v : Value} (h : NdS w vs v) (hk : KeepsC (w.alloc o) w') : NdS w' vs v := ⟨(h.1.keepsC (KeepsC.alloc w o)).keepsC hk, h.2⟩

theorem below_drewM (w : World) (n : Nat) : Below w.heap.size w (w.drewN n) := ⟨rfl, rfl, rfl, Nat.le_refl _, fun _ _ => rfl⟩

/-- A slice of nodes, cut ahead of its last one. -/
theorem mid_cut {w : World} {ps : List Part} {v : Value} (h : SlV w (ps.map (·.2)) v) (h1 : 1 ≤ ps.length) : ∃ b o c L T, v = .slice (some ⟨b, o, none⟩) L c ∧ L = T + 1 ∧ L ≤ c ∧ L = ps.length ∧
    SlV w ((ps.take (ps.length - 1)).map (·.2)) (.slice (some ⟨b, o, none⟩) T c) ∧ SlV w ((ps.drop (ps.length - 1)).map (·.2)) (.slice (some ⟨b, o + T, none⟩) (L - T) (c - T)) := by
  obtain ⟨b, o, c, rfl, hc, hcs⟩ := h.full (fun e => by have := congrArg List.length e; rw [List.length_map, List.length_nil] at this; omega)
  have t1 := h.taken (ps.length - 1) c (by rw [List.length_map]; omega) (by rw [List.length_map] at hc; omega)
  have t2 := h.dropped (ps.length - 1) (c - (ps.length - 1)) (by rw [List.length_map] at hc ⊢; omega)
  rw [List.length_map] at hc t2 ⊢
  rw [← List.map_take] at t1
  rw [← List.map_drop] at t2
  exact ⟨b, o, c, ps.length, ps.length - 1, rfl, by omega, hc, rfl, t1, t2⟩

/-- The four calls of beside's last statement. -/
def TailC (w1 : World) (uA u1 u2 uB : Value) (Q : Ending → World → Prop) : Prop := ∃ (xa xb : List Value),
  (∀ V B, Below w1.heap.size w1 V → V.cell? ⟨B, 0, none⟩ = some uA → V.cell? ⟨B, 1, none⟩ = some u1 → Calls Tryz.prog 235 #[.slice (some ⟨B, 0, none⟩) 2 2] V fun e w' => ∃ v, e = .returned v ∧ NdS w' xa v ∧ Below w1.heap.size w1 w' ∧ KeepsC V w') ∧
  (∀ V B, Below w1.heap.size w1 V → V.cell? ⟨B, 0, none⟩ = some u2 → V.cell? ⟨B, 1, none⟩ = some uB → Calls Tryz.prog 235 #[.slice (some ⟨B, 0, none⟩) 2 2] V fun e w' => ∃ v, e = .returned v ∧ NdS w' xb v ∧ Below w1.heap.size w1 w' ∧ KeepsC V w') ∧
  (∀ V v1 v2, Below w1.heap.size w1 V → NdS V xa v1 → NdS V xb v2 → Calls Tryz.prog 234 #[v1, v2] V fun e w' => ∃ v, e = .returned v ∧ Calls Tryz.prog 233 #[v] w' Q)

theorem concat_nds (l1 l2 : List Value) (u1 u2 : Value) (w1 V : World) (B : Nat) (hb : Below w1.heap.size w1 V) (h1 : NdS w1 l1 u1) (h2 : NdS w1 l2 u2) (hl1 : l1.length ≤ 65536) (hl2 : l2.length ≤ 65536) (c1 : V.cell? ⟨B, 0, none⟩ = some u1) (c2 : V.cell? ⟨B, 1, none⟩ = some u2) :
    Calls Tryz.prog 235 #[.slice (some ⟨B, 0, none⟩) 2 2] V fun e w' => ∃ v, e = .returned v ∧ NdS w' (l1 ++ l2) v ∧ Below w1.heap.size w1 w' ∧ KeepsC V w' := by
  have k1 := h1.keeps hb
  have k2 := h2.keeps hb
  obtain ⟨a1, cc1, rfl, _⟩ := k1.1.slice
  obtain ⟨a2, cc2, rfl, _⟩ := k2.1.slice
  refine (concat2N_any l1.length l2.length l1 l2 a1 a2 cc1 cc2 B V c1 c2 (k1.1.src k1.2) (k2.1.src k2.2) hl1 hl2).mono ?_
  rintro e w' ⟨v, rfl, hown, hb2⟩
  refine ⟨v, rfl, ⟨SlV.of_own (by rw [List.length_append]) hown, fun u hu => ?_⟩, hb.trans (hb2.mono hb.size), fun _ _ h => cell_keeps hb2 h⟩
  rcases List.mem_append.1 hu with hu | hu
  · exact h1.2 u hu
  · exact h2.2 u hu

theorem bes_tail {d m : Nat} {k : Bool} {w w1 : World} {A0 B0 ps : List Part} {uA u1 u2 uB : Value} {l : List VT} (hb : Below w.heap.size w w1) (hA : Row d m true w A0) (hB : Row d m k w B0) (hP : Row d m (k || decide (1 ≤ B0.length)) w1 ps) (hne : 1 ≤ ps.length)
    (sA : SlV w (A0.map (·.2)) uA) (sB : SlV w (B0.map (·.2)) uB) (s1 : SlV w1 ((ps.take (ps.length - 1)).map (·.2)) u1) (s2 : SlV w1 ((ps.drop (ps.length - 1)).map (·.2)) u2) (hlA : A0.length ≤ 31) (hlB : B0.length ≤ 31) (hl2 : ps.length ≤ 2) (h3 : k = true → 15 ≤ B0.length)
    (hl : A0.flatMap (·.1) ++ (ps.flatMap (·.1) ++ B0.flatMap (·.1)) = l) (hsum : l.length ≤ 1099511627776) :
    TailC w1 uA u1 u2 uB (BesPost d (m + 1) k l w) := by
  have rA := hA.keeps hb
  have rB := hB.keeps hb
  have r1 : Row d m true w1 (ps.take (ps.length - 1)) := hP.cut _ (by omega)
  have e1 : (ps.drop (ps.length - 1)).length = 1 := by rw [List.length_drop]; omega
  have r2 : Row d m (k || decide (1 ≤ B0.length)) w1 (ps.drop (ps.length - 1)) := hP.rest _
  have rL : Row d m true w1 (A0 ++ ps.take (ps.length - 1)) := fun i hi => by
    rw [Bool.true_or]
    rw [List.length_append] at hi
    by_cases hlt : i < A0.length
    · have h9 := rA i hlt
      rw [Bool.true_or] at h9
      rw [List.getElem_append_left hlt]; exact h9
    · have h9 := r1 (i - A0.length) (by omega)
      rw [Bool.true_or] at h9
      rw [List.getElem_append_right (by omega)]; exact h9
  have rR : Row d m k w1 (ps.drop (ps.length - 1) ++ B0) := fun i hi => by
    rw [List.length_append, e1] at hi
    by_cases h0 : i = 0
    · subst h0
      have h9 := r2 0 (by omega)
      rw [List.getElem_append_left (by omega)]
      have e : ((k || decide (1 ≤ B0.length)) || decide (0 + 1 < (ps.drop (ps.length - 1)).length)) = (k || decide (0 + 1 < (ps.drop (ps.length - 1) ++ B0).length)) := by
        rw [List.length_append, e1]
        have : (0 + 1 < 1 + B0.length) ↔ 1 ≤ B0.length := by omega
        simp [this]
      rw [← e]; exact h9
    · have h9 := rB (i - 1) (by omega)
      rw [List.getElem_append_right (by omega)]
      have e : decide (i - 1 + 1 < B0.length) = decide (i + 1 < (ps.drop (ps.length - 1) ++ B0).length) := by
        rw [List.length_append, e1]; congr 1; apply propext; omega
      rw [← e]
      have e9 : i - (ps.drop (ps.length - 1)).length = i - 1 := by rw [e1]
      simp only [e9]
      exact h9
  refine ⟨(A0 ++ ps.take (ps.length - 1)).map (·.2), (ps.drop (ps.length - 1) ++ B0).map (·.2), fun V B hV k1 k2 => ?_, fun V B hV k1 k2 => ?_, fun V v1 v2 hV n1 n2 => ?_⟩
  · rw [List.map_append]
    exact concat_nds _ _ uA u1 w1 V B hV ⟨sA.keeps hb, rA.one⟩ ⟨s1, r1.one⟩ (by rw [List.length_map]; omega) (by rw [List.length_map, List.length_take]; omega) k1 k2
  · rw [List.map_append]
    exact concat_nds _ _ u2 uB w1 V B hV ⟨s2, r2.one⟩ ⟨sB.keeps hb, rB.one⟩ (by rw [List.length_map]; omega) (by rw [List.length_map]; omega) k1 k2
  · have hfl : (A0 ++ ps.take (ps.length - 1) ++ (ps.drop (ps.length - 1) ++ B0)).flatMap (·.1) = l := by
      rw [← hl]
      have e : ps.flatMap (·.1) = (ps.take (ps.length - 1)).flatMap (·.1) ++ (ps.drop (ps.length - 1)).flatMap (·.1) := by rw [← List.flatMap_append, List.take_append_drop]
      rw [e]
      simp only [List.flatMap_append, List.append_assoc]
    have lA : (A0 ++ ps.take (ps.length - 1)).length ≤ 32 := by rw [List.length_append, List.length_take]; omega
    have lB : (ps.drop (ps.length - 1) ++ B0).length = B0.length + 1 := by rw [List.length_append, e1]; omega
    generalize A0 ++ ps.take (ps.length - 1) = A at *
    generalize ps.drop (ps.length - 1) ++ B0 = B at *
    refine (fitN_any _ _ v1 v2 V n1 n2 (by rw [List.length_map]; exact lA) (by rw [List.length_map]; omega)).mono ?_
    rintro e w' ⟨v, fs, rfl, hs, hn, hf, hbV⟩
    refine ⟨v, rfl, ?_⟩
    have hb' : Below w1.heap.size w1 w' := hV.trans (hbV.mono hV.size)
    obtain ⟨gs, g1, g2, g3, g4, g5⟩ := fit_in (rL.keeps hb') (rR.keeps hb') (by omega) (by omega) lA (fun hk => by have := h3 hk; omega) (by rw [hfl]; exact hsum) hf hn
    refine (branches_in d m k gs v w' (by rw [g1]; exact hs) g2 g3 g4).mono ?_
    intro e' w'' hp
    exact hp.bes (by rw [g5, hfl]) (by rw [List.length_map]; exact g2) (by rw [List.length_map]; exact g3) (hb.trans (hb'.mono hb.size))

end Go.Proofs.YtekoaiehhjgfiaaGreat

namespace Go.Proofs.YtekoaiehhjgfiaaGreat
open Go.RowKit

theorem flat_last (ps : List Part) (n : Nat) (hn : n + 1 = ps.length) : ps.flatMap (·.1) = (ps.take n).flatMap (·.1) ++ (ps[n]'(by omega)).1 := by
  have e : ps.flatMap (·.1) = (ps.take n).flatMap (·.1) ++ (ps.drop n).flatMap (·.1) := by rw [← List.flatMap_append, List.take_append_drop]
  rw [e, List.drop_eq_getElem_cons (by omega), List.flatMap_cons, List.drop_eq_nil_of_le (by omega)]
  simp

theorem flat_head (ps : List Part) (hn : 1 ≤ ps.length) : ps.flatMap (·.1) = (ps[0]'(by omega)).1 ++ (ps.drop 1).flatMap (·.1) := by
  match ps, hn with
  | p :: r, _ => rfl

set_option maxRecDepth 100000 in
set_option maxHeartbeats 8000000 in
theorem beside_zero (d : Nat) (k : Bool) (la lb : List VT) (a b : Value) (w : World) (ha : ND d 0 false w la a) (hb : ND d 0 k w lb b) :
    Calls Tryz.prog 215 #[a, b, .int .i64 1, .int .i64 1] w (BesPost d 0 k (la ++ lb) w) := by
  obtain ⟨b1, a1, c1, rfl, hc1, hl1, h11, h12, _⟩ := ha
  obtain ⟨b2, a2, c2, rfl, hc2, hl2, h21, h22, h23⟩ := hb
  have H1 : Hid (Lies (d + 1) w la (.slice a1 la.length c1)) := hl1
  have H2 : Hid (Lies (d + 1) w lb (.slice a2 lb.length c2)) := hl2
  have H3 : Hid ((1 ≤ la.length ∧ la.length ≤ 32) ∧ (1 ≤ lb.length ∧ lb.length ≤ 32) ∧ (k = true → 16 ≤ lb.length)) := ⟨⟨h11, h12⟩, ⟨h21, h22⟩, h23⟩
  have HFit : Hid (∀ V, Below w.heap.size w V → Calls Tryz.prog 232 #[.slice a1 la.length c1, .slice a2 lb.length c2] V (FitV d la lb V)) := fun V hV => fitV_any d la lb _ _ V (Lies.keeps hV _ _ _ hl1) (Lies.keeps hV _ _ _ hl2) h12 h22
  have ta := as_L
  clear hl1 hl2 h11 h12 h21 h22 h23
  have Hc1 : Hid (w.cell? ⟨b1, 0, none⟩ = some (.slice a1 la.length c1)) := hc1
  have Hc2 : Hid (w.cell? ⟨b2, 0, none⟩ = some (.slice a2 lb.length c2)) := hc2
  go_enter Tryz.func215, Tryz.ntmps215
  go_wp2_with fail
  go_region_held3 (fun w' => w'.cell? ⟨b1, 0, none⟩ = some (.slice a1 la.length c1) ∧ w'.cell? ⟨b2, 0, none⟩ = some (.slice a2 lb.length c2)) (go_keep)
    (first
      | (go_at_call 231; refine Calls.mono HLv.out ?_; intro e w2 hp2; have HE : Hid (BesPost d 0 k (la ++ lb) w e w2) := HPo.out e w2 hp2; clear hp2; obtain ⟨v2, ps2, rfl, hx⟩ := HE.out; have hbZ := hx.2.2.2.2.2; have hc1 := cell_keeps hbZ Hc1.out; have hc2 := cell_keeps hbZ Hc2.out; clear hx)
      | (go_at_call 232; refine (HFit.out _ (Below.refl _ _).drew).mono ?_; rintro e w1 ⟨v1, fs, rfl, hs1, hn1, hf1, hb1⟩; have hbA : Below w.heap.size w w1 := (Below.refl _ _).drew.trans hb1; have hfl := fit_leaf (k := k) H3.out.2.1.1 H3.out.2.1.2 H3.out.1.2 H3.out.2.2 hf1 hn1; have HLv : Hid _ := leaves_any d k fs v1 w1 hs1 hfl.1 hfl.2.1 hfl.2.2.1; have HPo : Hid (∀ e w2, RowPost d 0 k w1 (fs.map (·.1)) e w2 → BesPost d 0 k (la ++ lb) w e w2) := (fun e w2 hp => hp.bes hfl.2.2.2 (by rw [List.length_map]; exact hfl.1) (by rw [List.length_map]; exact hfl.2.1) hbA); clear hfl hs1 hn1 hf1 hb1; have hc1 := cell_keeps hbA hc1; have hc2 := cell_keeps hbA hc2))
  all_goals (first | (go_ret; exact HE.out) | (go_wp2_with fail; go_ret; exact HE.out))

set_option maxRecDepth 100000 in
set_option maxHeartbeats 8000000 in
theorem beside_both (d m : Nat) (k : Bool) (la lb : List VT) (a b : Value) (w : World) (hm : m ≤ 1000) (hna : ND d (m + 1) false w la a) (hnb : ND d (m + 1) k w lb b) (hsum : la.length + lb.length ≤ 1099511627776)
    (ih : ∀ (k : Bool) (la lb : List VT) (a b : Value) (w : World), ND d m false w la a → ND d m k w lb b → la.length + lb.length ≤ 1099511627776 → Calls Tryz.prog 215 #[a, b, .int .i64 ((m + 1 : Nat) : Int), .int .i64 ((m + 1 : Nat) : Int)] w (BesPost d m k (la ++ lb) w)) :
    Calls Tryz.prog 215 #[a, b, .int .i64 ((m + 2 : Nat) : Int), .int .i64 ((m + 2 : Nat) : Int)] w (BesPost d (m + 1) k (la ++ lb) w) := by
  obtain ⟨ba, sla, ela, pa, rfl, hca, _, hsa, _, ha1, ha2, ha3, hla, hpa⟩ := hna
  obtain ⟨ga, oa, ca, hsla, hcapa, hcsa⟩ := hsa.full (fun e => by have := congrArg List.length e; rw [List.length_map, List.length_nil] at this; omega)
  subst hsla
  rw [List.length_map] at hca hcapa
  have pla := hcsa (pa.length - 1) (by rw [List.length_map]; omega)
  rw [List.getElem_map] at pla
  have hna1 : ND d m false w (pa[pa.length - 1]'(by omega)).1 (pa[pa.length - 1]'(by omega)).2 := by
    have := hpa (pa.length - 1) (by omega)
    have e : (false || decide (pa.length - 1 + 1 < pa.length)) = false := by simp; omega
    rw [e] at this; exact this
  have hrA : Row d m true w (pa.take (pa.length - 1)) := Row.cut (k := false) hpa _ (by omega)
  have hsA : SlV w ((pa.take (pa.length - 1)).map (·.2)) (.slice (some ⟨ga, oa, none⟩) (pa.length - 1) ca) := by
    have := hsa.taken (pa.length - 1) ca (by rw [List.length_map]; omega) (by omega)
    rwa [← List.map_take] at this
  have hfa : la = (pa.take (pa.length - 1)).flatMap (·.1) ++ (pa[pa.length - 1]'(by omega)).1 := by rw [hla]; exact flat_last pa _ (by omega)
  have hlA : (pa.take (pa.length - 1)).length ≤ 31 := by rw [List.length_take]; omega
  obtain ⟨A0, hA0⟩ : ∃ A0, A0 = pa.take (pa.length - 1) := ⟨_, rfl⟩
  obtain ⟨qa, hqa⟩ : ∃ qa, qa = pa[pa.length - 1]'(by omega) := ⟨_, rfl⟩
  rw [← hA0] at hrA hsA hfa hlA
  rw [← hqa] at pla hna1 hfa
  obtain ⟨La, hLa⟩ : ∃ La, La = pa.length := ⟨_, rfl⟩
  rw [← hLa] at hca hcapa pla hsA ha1 ha2
  obtain ⟨Ta, hTa⟩ : ∃ Ta, Ta = La - 1 := ⟨_, rfl⟩
  rw [← hTa] at pla hsA
  have hwTa : IntKind.i64.wrap ((La : Nat) - 1 : Int) = (Ta : Int) := by rw [IntKind.wrap_i64]; omega
  have hTa1 : Ta < La := by omega
  have hTa2 : (Ta : Int) < (La : Nat) := by omega
  have hTa3 : (Ta : Int) ≤ (La : Nat) := by omega
  have hTa4 : Ta ≤ ca := by omega
  have hTa5 : (Ta : Int) ≤ (ca : Nat) := by omega
  have hTaL : Ta ≤ La := by omega
  have hca5 : (La : Int) ≤ (ca : Nat) := by omega
  have HsA : Hid (SlV w (A0.map (·.2)) (.slice (some ⟨ga, oa, none⟩) Ta ca)) := hsA
  have HrA : Hid (Row d m true w A0) := hrA
  have Hfa : Hid (la = A0.flatMap (·.1) ++ qa.1) := hfa
  have HlA : Hid (A0.length ≤ 31) := hlA
  have tba := as_B
  obtain ⟨bb, slb, elb, pb, rfl, hcb, _, hsb, _, hb1, hb2, hb3, hlb, hpb⟩ := hnb
  obtain ⟨gb, ob, cb, hslb, hcapb, hcsb⟩ := hsb.full (fun e => by have := congrArg List.length e; rw [List.length_map, List.length_nil] at this; omega)
  subst hslb
  rw [List.length_map] at hcb hcapb
  have plb := hcsb 0 (by rw [List.length_map]; omega)
  rw [List.getElem_map, Nat.add_zero] at plb
  have hrB : Row d m k w (pb.drop 1) := Row.rest hpb 1
  have hnb1 : ND d m (k || decide (1 ≤ (pb.drop 1).length)) w (pb[0]'(by omega)).1 (pb[0]'(by omega)).2 := by
    have := hpb 0 (by omega)
    have e : decide (0 + 1 < pb.length) = decide (1 ≤ (pb.drop 1).length) := by rw [List.length_drop]; congr 1; apply propext; omega
    rw [e] at this; exact this
  obtain ⟨uB, huB⟩ : ∃ uB, uB = (if cb = 1 then Value.slice (some ⟨gb, ob, none⟩) (pb.length - 1) 0 else .slice (some ⟨gb, ob + 1, none⟩) (pb.length - 1) (cb - 1)) := ⟨_, rfl⟩
  have hsB : SlV w ((pb.drop 1).map (·.2)) uB := by
    by_cases hc : cb = 1
    · rw [huB, if_pos hc]
      have : pb.drop 1 = [] := List.eq_nil_of_length_eq_zero (by rw [List.length_drop]; omega)
      rw [this]
      have e0 : pb.length - 1 = 0 := by omega
      rw [e0]
      exact ⟨_, 0, rfl, by simp, fun h => absurd rfl h⟩
    · rw [huB, if_neg hc]
      have := hsb.dropped 1 (cb - 1) (by rw [List.length_map]; omega)
      rwa [← List.map_drop, List.length_map] at this
  have hfb : lb = (pb[0]'(by omega)).1 ++ (pb.drop 1).flatMap (·.1) := by rw [hlb]; exact flat_head pb (by omega)
  have hlB : (pb.drop 1).length ≤ 31 := by rw [List.length_drop]; omega
  have h15 : k = true → 15 ≤ (pb.drop 1).length := fun hk => by have := hb3 hk; rw [List.length_drop]; omega
  obtain ⟨B0, hB0⟩ : ∃ B0, B0 = pb.drop 1 := ⟨_, rfl⟩
  obtain ⟨qb, hqb⟩ : ∃ qb, qb = pb[0]'(by omega) := ⟨_, rfl⟩
  rw [← hB0] at hrB hsB hfb hlB h15 hnb1
  rw [← hqb] at plb hnb1 hfb
  obtain ⟨Lb, hLb⟩ : ∃ Lb, Lb = pb.length := ⟨_, rfl⟩
  rw [← hLb] at hcb hcapb hb1 hb2 huB
  have hLb0 : 0 < Lb := by omega
  have hLb1 : (1 : Int) ≤ (Lb : Nat) := by omega
  have hcb5 : (Lb : Int) ≤ (cb : Nat) := by omega
  have HsB : Hid (SlV w (B0.map (·.2)) uB) := hsB
  have HuB : Hid (uB = (if cb = 1 then Value.slice (some ⟨gb, ob, none⟩) (Lb - 1) 0 else .slice (some ⟨gb, ob + 1, none⟩) (Lb - 1) (cb - 1))) := huB
  have HrB : Hid (Row d m k w B0) := hrB
  have Hfb : Hid (lb = qb.1 ++ B0.flatMap (·.1)) := hfb
  have HlB : Hid (B0.length ≤ 31 ∧ (k = true → 15 ≤ B0.length)) := ⟨hlB, h15⟩
  have tbb := as_B
  have hsum1 : qa.1.length + qb.1.length ≤ 1099511627776 := by rw [hfa, hfb, List.length_append, List.length_append] at hsum; omega
  have HC : Hid (∀ V, Below w.heap.size w V → Calls Tryz.prog 215 #[qa.2, qb.2, .int .i64 ((m + 1 : Nat) : Int), .int .i64 ((m + 1 : Nat) : Int)] V (BesPost d m (k || decide (1 ≤ B0.length)) (qa.1 ++ qb.1) V)) := fun V hV => ih _ _ _ _ _ V (hna1.keeps hV _ _ _ _) (hnb1.keeps hV _ _ _ _) hsum1
  have HT : Hid (∀ (V w1 : World) (ps : List Part) (u1 u2 : Value), Below w.heap.size w V → Below V.heap.size V w1 → Row d m (k || decide (1 ≤ B0.length)) w1 ps → 1 ≤ ps.length → ps.length ≤ 2 → ps.flatMap (·.1) = qa.1 ++ qb.1 → SlV w1 ((ps.take (ps.length - 1)).map (·.2)) u1 → SlV w1 ((ps.drop (ps.length - 1)).map (·.2)) u2 → TailC w1 (.slice (some ⟨ga, oa, none⟩) Ta ca) u1 u2 uB (BesPost d (m + 1) k (la ++ lb) w)) := fun V w1 ps u1 u2 hV h1 r1 n1 n2 e1 s1 s2 => bes_tail (hV.trans (h1.mono hV.size)) HrA.out HrB.out r1 n1 HsA.out HsB.out s1 s2 HlA.out HlB.out.1 n2 HlB.out.2 (by rw [e1, Hfa.out, Hfb.out]; simp) (by rw [List.length_append]; exact hsum)
  obtain ⟨M, hM⟩ : ∃ M, M = m + 2 := ⟨_, rfl⟩
  obtain ⟨N, hN⟩ : ∃ N, N = m + 1 := ⟨_, rfl⟩
  rw [← hM]
  rw [← hN] at HC
  have HMN : Hid (M = N + 1) := by show _ = _; omega
  have hwN : IntKind.i64.wrap ((M : Nat) - 1 : Int) = (N : Int) := by rw [IntKind.wrap_i64]; omega
  have hM1 : ¬ ((M : Nat) : Int) = 1 := by omega
  have hNM : (N : Int) ≤ (M : Nat) := by omega
  have hMN2 : ¬ ((M : Nat) : Int) ≤ (N : Nat) := by omega
  have hMN3 : ¬ ((M : Nat) : Int) < (N : Nat) := by omega
  have hNM4 : (N : Int) < (M : Nat) := by omega
  generalize qa.2 = va at *
  generalize qb.2 = vb at *
  clear ih hna1 hnb1 hsum hsum1 hsA hsB hrA hrB hfa hfb hlA hlB h15 hpa hpb hcsa hcsb hsa hsb hla hlb ha3 hb3 hqa hqb hA0 hB0 hLa hLb hTa hM hN hm huB
  by_cases hc1 : cb = 1
  · skip
    rw [HuB.out, if_pos hc1] at HT
    have hx1 : IntKind.i64.wrap (0 : Int) = 0 := by rfl
    go_enter Tryz.func215, Tryz.ntmps215
    go_wp2_with fail
    go_quiet (fail)
    go_wp2_with fail
    go_quiet (fail)
    go_wp2_with fail
    refine (HC.out _ (below_drewM _ _)).mono ?_
    rintro e w1 ⟨vM, ps, rfl, hsM, hrM, hfM, hn1, hn2, hbM⟩
    obtain ⟨bM, oM, cM, L, T, rfl, hL, hcM, hLp, s1, s2⟩ := mid_cut hsM hn1
    have HTC : Hid (TailC w1 (.slice (some ⟨ga, oa, none⟩) Ta ca) (.slice (some ⟨bM, oM, none⟩) T cM) (.slice (some ⟨bM, oM + T, none⟩) (L - T) (cM - T)) (.slice (some ⟨gb, ob, none⟩) (Lb - 1) 0) (BesPost d (m + 1) k (la ++ lb) w)) := HT.out _ w1 ps _ _ (below_drewM _ _) hbM hrM hn1 hn2 hfM s1 s2
    have hLi : (L : Int) ≤ 2 := by omega
    have hwT : IntKind.i64.wrap ((L : Nat) - 1 : Int) = (T : Int) := by rw [IntKind.wrap_i64]; omega
    have hT1 : (T : Int) ≤ (L : Nat) := by omega
    have hT2 : T ≤ L := by omega
    have hT3 : (T : Int) ≤ (cM : Nat) := by omega
    have hT4 : T ≤ cM := by omega
    have hT5 : ¬ (cM = T) := by omega
    have hT6 : ¬ ((cM : Int) = (T : Nat)) := by omega
    have hcM5 : (L : Int) ≤ (cM : Nat) := by omega
    clear HC HT hsM hrM hfM hn1 hn2 hbM s1 s2 hL hLp
    obtain ⟨xa, xb, t1, t2, t3⟩ := HTC.out
    have HT1 : Hid _ := t1
    have HT2 : Hid _ := t2
    have HT3 : Hid _ := t3
    clear t1 t2 t3 HTC
    go_wp2_with fail
    go_region_held3 (fun _ => True) (first | trivial | go_keep)
      (first
        | (go_at_call 233; refine Calls.mono HBr.out ?_; intro e w5 hp5; have HE : Hid (BesPost d (m + 1) k (la ++ lb) w e w5) := hp5; clear hp5; obtain ⟨v5, ps5, rfl, hx⟩ := HE.out; clear hx)
        | (go_at_call 234; refine (HT3.out _ _ _ hb3 HN2b.out HN3.out).mono ?_; rintro e w4 ⟨v4, rfl, hbr⟩; have HBr : Hid _ := hbr; clear hbr)
        | (go_at_call 235; refine (HT2.out _ _ (by first | exact hb2 | exact hb2.alloc hb2.size _) (by first | exact HK2.out _ _ (by simp) | simp) (by first | exact HK2.out _ _ (by simp) | simp)).mono ?_; rintro e w3 ⟨v3, rfl, hn3, hb3, hk3⟩; have HN3 : Hid (NdS w3 xb v3) := hn3; have HN2b : Hid (NdS w3 xa v2) := (by first | exact HN2.out.keepsC hk3 | exact HN2.out.keepsA hk3); clear hn3 hk3)
        | (go_at_call 235; refine (HT1.out _ _ (by first | exact (Below.refl _ _).drew.alloc (Nat.le_refl _) _ | exact ((Below.refl _ _).drew.alloc (Nat.le_refl _) _).alloc (by simp) _) (by simp) (by simp)).mono ?_; rintro e w2 ⟨v2, rfl, hn2, hb2, hk2⟩; have HN2 : Hid (NdS w2 xa v2) := hn2; have HK2 : Hid (KeepsC _ w2) := hk2; clear hn2 hk2))
    all_goals (first | (go_ret; exact HE.out) | (go_wp2_with fail; go_ret; exact HE.out))
  · skip
    rw [HuB.out, if_neg hc1] at HT
    have hc1i : ¬ ((cb : Nat) : Int) = 1 := by omega
    have hx1 : IntKind.i64.wrap (0 : Int) = 0 := by rfl
    go_enter Tryz.func215, Tryz.ntmps215
    go_wp2_with fail
    go_quiet (fail)
    go_wp2_with fail
    go_quiet (fail)
    go_wp2_with fail
    refine (HC.out _ (below_drewM _ _)).mono ?_
    rintro e w1 ⟨vM, ps, rfl, hsM, hrM, hfM, hn1, hn2, hbM⟩
    obtain ⟨bM, oM, cM, L, T, rfl, hL, hcM, hLp, s1, s2⟩ := mid_cut hsM hn1
    have HTC : Hid (TailC w1 (.slice (some ⟨ga, oa, none⟩) Ta ca) (.slice (some ⟨bM, oM, none⟩) T cM) (.slice (some ⟨bM, oM + T, none⟩) (L - T) (cM - T)) (.slice (some ⟨gb, ob + 1, none⟩) (Lb - 1) (cb - 1)) (BesPost d (m + 1) k (la ++ lb) w)) := HT.out _ w1 ps _ _ (below_drewM _ _) hbM hrM hn1 hn2 hfM s1 s2
    have hLi : (L : Int) ≤ 2 := by omega
    have hwT : IntKind.i64.wrap ((L : Nat) - 1 : Int) = (T : Int) := by rw [IntKind.wrap_i64]; omega
    have hT1 : (T : Int) ≤ (L : Nat) := by omega
    have hT2 : T ≤ L := by omega
    have hT3 : (T : Int) ≤ (cM : Nat) := by omega
    have hT4 : T ≤ cM := by omega
    have hT5 : ¬ (cM = T) := by omega
    have hT6 : ¬ ((cM : Int) = (T : Nat)) := by omega
    have hcM5 : (L : Int) ≤ (cM : Nat) := by omega
    clear HC HT hsM hrM hfM hn1 hn2 hbM s1 s2 hL hLp
    obtain ⟨xa, xb, t1, t2, t3⟩ := HTC.out
    have HT1 : Hid _ := t1
    have HT2 : Hid _ := t2
    have HT3 : Hid _ := t3
    clear t1 t2 t3 HTC
    go_wp2_with fail
    go_region_held3 (fun _ => True) (first | trivial | go_keep)
      (first
        | (go_at_call 233; refine Calls.mono HBr.out ?_; intro e w5 hp5; have HE : Hid (BesPost d (m + 1) k (la ++ lb) w e w5) := hp5; clear hp5; obtain ⟨v5, ps5, rfl, hx⟩ := HE.out; clear hx)
        | (go_at_call 234; refine (HT3.out _ _ _ hb3 HN2b.out HN3.out).mono ?_; rintro e w4 ⟨v4, rfl, hbr⟩; have HBr : Hid _ := hbr; clear hbr)
        | (go_at_call 235; refine (HT2.out _ _ (by first | exact hb2 | exact hb2.alloc hb2.size _) (by first | exact HK2.out _ _ (by simp) | simp) (by first | exact HK2.out _ _ (by simp) | simp)).mono ?_; rintro e w3 ⟨v3, rfl, hn3, hb3, hk3⟩; have HN3 : Hid (NdS w3 xb v3) := hn3; have HN2b : Hid (NdS w3 xa v2) := (by first | exact HN2.out.keepsC hk3 | exact HN2.out.keepsA hk3); clear hn3 hk3)
        | (go_at_call 235; refine (HT1.out _ _ (by first | exact (Below.refl _ _).drew.alloc (Nat.le_refl _) _ | exact ((Below.refl _ _).drew.alloc (Nat.le_refl _) _).alloc (by simp) _) (by simp) (by simp)).mono ?_; rintro e w2 ⟨v2, rfl, hn2, hb2, hk2⟩; have HN2 : Hid (NdS w2 xa v2) := hn2; have HK2 : Hid (KeepsC _ w2) := hk2; clear hn2 hk2))
    all_goals (first | (go_ret; exact HE.out) | (go_wp2_with fail; go_ret; exact HE.out))
end Go.Proofs.YtekoaiehhjgfiaaGreat

