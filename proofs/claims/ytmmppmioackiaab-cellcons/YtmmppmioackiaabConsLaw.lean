/-
  CellCons.
-/
import Derived.Test.YtmmppmioackiaabRApi
import Derived.Test.YtmmppmioackiaabConsM
import Derived.Test.YtmmppmioackiaabLevel
namespace Go.Proofs.Ytmmppmioackiaab
open Go.RowKit Go.Shelf

set_option maxRecDepth 100000 in
set_option maxHeartbeats 4000000 in
theorem rempty_any (w : World) : Calls Try.prog 15 #[] w fun e w' => e = .returned (.pointer (some ⟨w.heap.size, 0, none⟩)) ∧ Below w.heap.size w w' ∧ DB w' w.heap.size true false zeroT (.slice none 0 0) none 0 0 zeroT (.slice none 0 0) := by
  have HE : Hid (Below w.heap.size w (w.alloc (.cells #[.bool true, .bool false, .int .i64 0, .int .i64 0, .string ⟨#[]⟩, .slice none 0 0, .pointer none, .int .i64 0, .int .i64 0, .int .i64 0, .int .i64 0, .int .i64 0, .string ⟨#[]⟩, .slice none 0 0, .slice none 0 0, .slice none 0 0] 66)) ∧ DB (w.alloc (.cells #[.bool true, .bool false, .int .i64 0, .int .i64 0, .string ⟨#[]⟩, .slice none 0 0, .pointer none, .int .i64 0, .int .i64 0, .int .i64 0, .int .i64 0, .int .i64 0, .string ⟨#[]⟩, .slice none 0 0, .slice none 0 0, .slice none 0 0] 66)) w.heap.size true false zeroT (.slice none 0 0) none 0 0 zeroT (.slice none 0 0)) := ⟨((Grew.refl _).alloc _).below, db_alloc w 66 true false zeroT (.slice none 0 0) none 0 0 zeroT (.slice none 0 0)⟩
  go_enter Try.func15, Try.ntmps15
  go_wp2_with fail
  go_ret
  exact ⟨rfl, HE.out⟩

set_option maxRecDepth 100000 in
set_option maxHeartbeats 8000000 in
theorem rcons_ok (v : VT) (a : Option Addr) (c b : Nat) (w : World) (hu : Lies 16 w v.items (.slice a v.items.length c)) (hr : rightV 16 v = true) :
    Calls Try.prog 17 #[.agg #[.int .i64 v.kind, .int .i64 v.num, .string v.text, .slice a v.items.length c], .pointer (some ⟨b, 0, none⟩)] w fun e w' => Below w.heap.size w w' ∧ ∃ d, e = .returned (.tuple #[.pointer (some ⟨d, 0, none⟩), .int .i64 0]) ∧ DB w' d true true v (.slice a v.items.length c) (some ⟨b, 0, none⟩) 0 0 zeroT (.slice none 0 0) := by
  obtain ⟨W0, hW0⟩ : ∃ W0, W0 = w.alloc (.cells #[.int .i64 v.kind, .int .i64 v.num, .string v.text, .slice a v.items.length c] 24) := ⟨_, rfl⟩
  have HW0 : Hid (W0 = w.alloc (.cells #[.int .i64 v.kind, .int .i64 v.num, .string v.text, .slice a v.items.length c] 24)) := hW0
  have hb0 : Below w.heap.size w W0 := by rw [hW0]; exact ((Grew.refl _).alloc _).below
  have HK : Hid (Bx W0 w.heap.size v (.slice a v.items.length c)) := by rw [hW0]; exact bx_alloc _ _ _
  have HRi : Hid (Calls Try.prog 27 #[.agg #[.int .i64 v.kind, .int .i64 v.num, .string v.text, .slice a v.items.length c]] W0 fun e w' => e = .returned (.bool true) ∧ Below W0.heap.size W0 w') := by
    have h9 := right_any 16 v _ W0 (Lies.keeps hb0 _ _ _ hu)
    rw [hr] at h9
    exact h9
  obtain ⟨k0, k1, k2, k3, _, _, _, _⟩ := HK.out
  clear hW0 hu hr HK
  go_enter Try.func17, Try.ntmps17
  go_upto_region 1 with fail
  rw [← HW0.out]
  clear HW0
  go_wp2_with fail
  refine Calls.mono HRi.out ?_
  rintro e w1 ⟨rfl, hg1⟩
  have hb1 : Below w.heap.size w w1 := hb0.trans (hg1.mono hb0.size)
  have k0 := cell_keeps hg1 k0; have k1 := cell_keeps hg1 k1; have k2 := cell_keeps hg1 k2; have k3 := cell_keeps hg1 k3
  have HE : Hid (Below w.heap.size w (w1.alloc (.cells #[.bool true, .bool true, .int .i64 v.kind, .int .i64 v.num, .string v.text, .slice a v.items.length c, .pointer (some ⟨b, 0, none⟩), .int .i64 0, .int .i64 0, .int .i64 0, .int .i64 0, .int .i64 0, .string ⟨#[]⟩, .slice none 0 0, .slice none 0 0, .slice none 0 0] 66)) ∧ DB (w1.alloc (.cells #[.bool true, .bool true, .int .i64 v.kind, .int .i64 v.num, .string v.text, .slice a v.items.length c, .pointer (some ⟨b, 0, none⟩), .int .i64 0, .int .i64 0, .int .i64 0, .int .i64 0, .int .i64 0, .string ⟨#[]⟩, .slice none 0 0, .slice none 0 0, .slice none 0 0] 66)) w1.heap.size true true v (.slice a v.items.length c) (some ⟨b, 0, none⟩) 0 0 zeroT (.slice none 0 0)) := ⟨hb1.trans (((Grew.refl w1).alloc _).below.mono hb1.size), db_alloc w1 66 true true v (.slice a v.items.length c) (some ⟨b, 0, none⟩) 0 0 zeroT (.slice none 0 0)⟩
  clear hg1 HRi hb1 hb0
  go_wp2_with fail
  refine bodyPost_ret (v := .tuple #[.pointer (some ⟨w1.heap.size, 0, none⟩), .int .i64 0]) ?_ rfl ⟨HE.out.1, _, rfl, HE.out.2⟩
  simp [results, Try.results17, go_sem]

set_option maxRecDepth 100000 in
set_option maxHeartbeats 8000000 in
theorem rcons_wrong (d : Nat) (v : VT) (a : Option Addr) (c : Nat) (p : Option Addr) (w : World) (hu : Lies d w v.items (.slice a v.items.length c)) (hr : rightV d v = false) :
    Calls Try.prog 17 #[.agg #[.int .i64 v.kind, .int .i64 v.num, .string v.text, .slice a v.items.length c], .pointer p] w fun e w' => e = .returned (.tuple #[.pointer none, .int .i64 3]) ∧ Below w.heap.size w w' := by
  obtain ⟨W0, hW0⟩ : ∃ W0, W0 = w.alloc (.cells #[.int .i64 v.kind, .int .i64 v.num, .string v.text, .slice a v.items.length c] 24) := ⟨_, rfl⟩
  have HW0 : Hid (W0 = w.alloc (.cells #[.int .i64 v.kind, .int .i64 v.num, .string v.text, .slice a v.items.length c] 24)) := hW0
  have hb0 : Below w.heap.size w W0 := by rw [hW0]; exact ((Grew.refl _).alloc _).below
  have HK : Hid (Bx W0 w.heap.size v (.slice a v.items.length c)) := by rw [hW0]; exact bx_alloc _ _ _
  have HRi : Hid (Calls Try.prog 27 #[.agg #[.int .i64 v.kind, .int .i64 v.num, .string v.text, .slice a v.items.length c]] W0 fun e w' => e = .returned (.bool false) ∧ Below W0.heap.size W0 w') := by
    have h9 := right_any d v _ W0 (Lies.keeps hb0 _ _ _ hu)
    rw [hr] at h9
    exact h9
  obtain ⟨k0, k1, k2, k3, _, _, _, _⟩ := HK.out
  clear hW0 hu hr HK
  go_enter Try.func17, Try.ntmps17
  go_upto_region 1 with fail
  rw [← HW0.out]
  clear HW0
  go_wp2_with fail
  refine Calls.mono HRi.out ?_
  rintro e w1 ⟨rfl, hg1⟩
  have hb1 : Below w.heap.size w w1 := hb0.trans (hg1.mono hb0.size)
  clear hg1 HRi hb0 k0 k1 k2 k3
  go_wp2_with fail
  refine bodyPost_ret (v := .tuple #[.pointer none, .int .i64 3]) ?_ rfl ⟨rfl, hb1⟩
  simp [results, Try.results17, go_sem]

/-- The program's chain of known cells. -/
def ChP (w : World) : List VT → Nat → Prop
  | [], b => CB w b .nilIface 0 zeroT (.slice none 0 0) none
  | x :: xs, b => ∃ a c b', CB w b .nilIface 0 x (.slice a x.items.length c) (some ⟨b', 0, none⟩) ∧ Lies 16 w x.items (.slice a x.items.length c) ∧ rightV 16 x = true ∧ ChP w xs b'

/-- The document's. -/
def ChD (w : World) : List VT → Nat → Prop
  | [], b => DB w b true false zeroT (.slice none 0 0) none 0 0 zeroT (.slice none 0 0)
  | x :: xs, b => ∃ a c b', DB w b true true x (.slice a x.items.length c) (some ⟨b', 0, none⟩) 0 0 zeroT (.slice none 0 0) ∧ Lies 16 w x.items (.slice a x.items.length c) ∧ ChD w xs b'

theorem ChP.keeps {w w' : World} (hb : Below w.heap.size w w') : ∀ (xs : List VT) (b : Nat), ChP w xs b → ChP w' xs b
  | [], _, h => CB.keeps h hb
  | _ :: xs, _, ⟨a, c, b', h1, h2, h3, h4⟩ => ⟨a, c, b', h1.keeps hb, Lies.keeps hb _ _ _ h2, h3, ChP.keeps hb xs b' h4⟩

theorem ChD.keeps {w w' : World} (hb : Below w.heap.size w w') : ∀ (xs : List VT) (b : Nat), ChD w xs b → ChD w' xs b
  | [], _, h => DB.keeps h hb
  | _ :: xs, _, ⟨a, c, b', h1, h2, h4⟩ => ⟨a, c, b', h1.keeps hb, Lies.keeps hb _ _ _ h2, ChD.keeps hb xs b' h4⟩

theorem ChP.c0 {w : World} : ∀ {xs : List VT} {b : Nat}, ChP w xs b → w.cell? ⟨b, 0, none⟩ = some .nilIface
  | [], _, h => CB.c0 h
  | _ :: _, _, ⟨_, _, _, h1, _⟩ => h1.c0

theorem ChP.way {w : World} : ∀ (xs : List VT) (b : Nat), ChP w xs b → ∃ P : Nat → Nat, P 0 = b ∧ (∀ i, i < xs.length → w.cell? ⟨P i, 6, none⟩ = some (.pointer (some ⟨P (i + 1), 0, none⟩))) ∧ w.cell? ⟨P xs.length, 6, none⟩ = some (.pointer none)
  | [], b, h => ⟨fun _ => b, rfl, fun i hi => absurd hi (by simp), CB.c6 h⟩
  | _ :: xs, b, ⟨a, c, b', h1, _, _, h4⟩ => by
    obtain ⟨P, hP, h5, h6⟩ := ChP.way xs b' h4
    refine ⟨fun i => match i with | 0 => b | i + 1 => P i, rfl, fun i hi => ?_, h6⟩
    cases i with
    | zero => simp only [hP]; exact h1.c6
    | succ i => exact h5 i (by simpa using hi)

theorem ChP.len {w : World} {xs : List VT} {b : Nat} (h : ChP w xs b) : Calls Try.prog 12 #[.pointer (some ⟨b, 0, none⟩)] w fun e w' => e = .returned (.int .i64 ((min xs.length 65536 : Nat) : Int)) ∧ w' = w := by
  obtain ⟨P, rfl, h1, h2⟩ := ChP.way xs b h
  exact known_len _ P xs.length w w (own_some22 _ w) h1 h2

theorem ChD.way {w : World} : ∀ (xs : List VT) (b : Nat), ChD w xs b → ∃ Q : Nat → Nat, Q 0 = b ∧ (∀ i, i < xs.length → w.cell? ⟨Q i, 0, none⟩ = some (.bool true) ∧ w.cell? ⟨Q i, 1, none⟩ = some (.bool true) ∧ w.cell? ⟨Q i, 6, none⟩ = some (.pointer (some ⟨Q (i + 1), 0, none⟩))) ∧ w.cell? ⟨Q xs.length, 0, none⟩ = some (.bool true) ∧ w.cell? ⟨Q xs.length, 1, none⟩ = some (.bool false)
  | [], b, h => ⟨fun _ => b, rfl, fun i hi => absurd hi (by simp), DB.c0 h, DB.c1 h⟩
  | _ :: xs, b, ⟨a, c, b', h1, _, h4⟩ => by
    obtain ⟨P, hP, h5, h6⟩ := ChD.way xs b' h4
    refine ⟨fun i => match i with | 0 => b | i + 1 => P i, rfl, fun i hi => ?_, h6⟩
    cases i with
    | zero => simp only [hP]; exact ⟨h1.c0, h1.c1, h1.c6⟩
    | succ i => exact h5 i (by simpa using hi)

set_option maxRecDepth 100000 in
set_option maxHeartbeats 4000000 in
theorem rknown_end (Q : Nat → Nat) (k : Nat) (w : World) (hk : ∀ i, i < k → w.cell? ⟨Q i, 0, none⟩ = some (.bool true) ∧ w.cell? ⟨Q i, 1, none⟩ = some (.bool true) ∧ w.cell? ⟨Q i, 6, none⟩ = some (.pointer (some ⟨Q (i + 1), 0, none⟩))) (hz : w.cell? ⟨Q k, 0, none⟩ = some (.bool true) ∧ w.cell? ⟨Q k, 1, none⟩ = some (.bool false)) :
    Calls Try.prog 13 #[.pointer (some ⟨Q 0, 0, none⟩)] w fun e w' => e = .returned (.int .i64 ((min k 65536 : Nat) : Int)) ∧ w' = w := by
  have HR : Hid (∀ i, i < k → w.cell? ⟨Q i, 0, none⟩ = some (.bool true) ∧ w.cell? ⟨Q i, 1, none⟩ = some (.bool true) ∧ w.cell? ⟨Q i, 6, none⟩ = some (.pointer (some ⟨Q (i + 1), 0, none⟩))) := hk
  have HZ : Hid (w.cell? ⟨Q k, 0, none⟩ = some (.bool true) ∧ w.cell? ⟨Q k, 1, none⟩ = some (.bool false)) := hz
  obtain ⟨M, hM⟩ : ∃ M, M = min k 65536 := ⟨_, rfl⟩
  have HM : Hid (M = min k 65536) := hM
  rw [← hM]
  clear hk hz hM
  go_enter Try.func13, Try.ntmps13
  go_wp2_with fail
  go_loopg [0, 3] k (fun g at_ n wr => ∃ j : Nat, n = .int .i64 (j : Int) ∧ at_ = .pointer (some ⟨Q j, 0, none⟩) ∧ j ≤ k ∧ j ≤ 65536 ∧ g = k - j ∧ wr = w)
  case atStart => exact ⟨0, rfl, rfl, by omega, by omega, by omega, rfl⟩
  case round =>
    obtain ⟨j, rfl, rfl, hj, hj2, hg, rfl⟩ := hrel
    have Hg : Hid _ := hg
    clear hg
    by_cases h65 : j < 65536
    · have hji : (j : Int) < 65536 := by omega
      by_cases hlt : j < k
      · obtain ⟨c0, c1, c6⟩ := HR.out j hlt
        have e1 : IntKind.i64.wrap ((j : Int) + 1) = ((j + 1 : Nat) : Int) := by rw [IntKind.wrap_i64]; omega
        go_wp2_with fail
        go_roundg (k - (j + 1))
        case measure => have := Hg.out; omega
        case rel => exact ⟨j + 1, rfl, rfl, by omega, by omega, rfl, rfl⟩
      · obtain rfl : j = k := by omega
        obtain ⟨c0, c1⟩ := HZ.out
        have hjM : M = j := by have := HM.out; omega
        subst hjM
        go_wp2_with fail
        go_ret
        exact ⟨rfl, rfl⟩
    · have hji : ¬ (j : Int) < 65536 := by omega
      have hjM : M = j := by have := HM.out; omega
      subst hjM
      go_wp2_with fail
      go_ret
      exact ⟨rfl, rfl⟩

theorem ChD.len {w : World} {xs : List VT} {b : Nat} (h : ChD w xs b) : Calls Try.prog 13 #[.pointer (some ⟨b, 0, none⟩)] w fun e w' => e = .returned (.int .i64 ((min xs.length 65536 : Nat) : Int)) ∧ w' = w := by
  obtain ⟨Q, rfl, h1, h2⟩ := ChD.way xs b h
  exact rknown_end Q xs.length w h1 h2

set_option maxRecDepth 100000 in
set_option maxHeartbeats 8000000 in
theorem rforce_empty (b : Nat) (f : Int) (w : World) (h : DB w b true false zeroT (.slice none 0 0) none 0 0 zeroT (.slice none 0 0)) :
    Calls Try.prog 31 #[.pointer (some ⟨b, 0, none⟩), .int .i64 f] w (FNil f 0 w) := by
  obtain ⟨W0, hW0⟩ : ∃ W0, W0 = zbox w := ⟨_, rfl⟩
  have HW0 : Hid (W0 = w.alloc (.cells #[.int .i64 0, .int .i64 0, .string ⟨#[]⟩, .slice none 0 0] 24)) := hW0
  have hb0 : Below w.heap.size w W0 := by rw [hW0]; exact zbox_below w
  have HZ : Hid (Bx W0 w.heap.size zeroT (.slice none 0 0)) := by rw [hW0]; exact zbox_bx w
  have k0 := (h.keeps hb0).c0
  have k1 := (h.keeps hb0).c1
  obtain ⟨z0, z1, z2, z3, g0, g1, g2, g3⟩ := HZ.out
  have HE : Hid (FNil f 0 w (.returned (.tuple #[.agg #[.int .i64 0, .int .i64 0, .string ⟨#[]⟩, .slice none 0 0], .pointer none, .bool false, .int .i64 f, .int .i64 0])) (W0.setCells w.heap.size 0 (encP (zeroT, .slice none 0 0)))) := ⟨none, 0, rfl, (((hb0.setCell (p := ⟨w.heap.size, 0, none⟩) (by simp) _).setCell (p := ⟨w.heap.size, 0 + 1, none⟩) (by simp) _).setCell (p := ⟨w.heap.size, 0 + 1 + 1, none⟩) (by simp) _).setCell (p := ⟨w.heap.size, 0 + 1 + 1 + 1, none⟩) (by simp) _⟩
  have Hq : Hid (Bx (W0.setCells w.heap.size 0 (encP (zeroT, .slice none 0 0))) w.heap.size zeroT (.slice none 0 0)) := HZ.out.put (zeroT, .slice none 0 0)
  clear hW0 h hb0
  go_enter Try.func31, Try.ntmps31
  go_upto_region 1 with fail
  rw [← HW0.out]
  clear HW0
  go_wp2_with fail
  refine bodyPost_ret (v := .tuple #[.agg #[.int .i64 0, .int .i64 0, .string ⟨#[]⟩, .slice none 0 0], .pointer none, .bool false, .int .i64 f, .int .i64 0]) ?_ rfl HE.out
  obtain ⟨q0, q1, q2, q3, _, _, _, _⟩ := Hq.out
  simp only [World.setCells, encP, Nat.zero_add, Nat.reduceAdd] at q0 q1 q2 q3
  simp [results, Try.results31, go_sem, q0, q1, q2, q3]

theorem rForce_empty (b f : Nat) (hf : f ≤ 1073741824) (w : World) (h : DB w b true false zeroT (.slice none 0 0) none 0 0 zeroT (.slice none 0 0)) :
    Calls Try.prog 20 #[.pointer (some ⟨b, 0, none⟩), .int .i64 (f : Int)] w (FNil f 0 w) := by
  have h1 := rforce_empty b f (zbox w) (h.keeps (zbox_below w))
  have h2 := rForce_of b f hf (fun x a c p t l E w2 => x = zeroT ∧ p = none ∧ t = false ∧ l = (f : Int) ∧ E = 0 ∧ Below (zbox w).heap.size (zbox w) w2) w (Calls.mono h1 fun e w2 hp => by
    obtain ⟨a, c, he, hb⟩ := hp
    exact ⟨zeroT, a, c, none, false, f, 0, he, ⟨rfl, rfl, rfl, rfl, rfl, hb⟩, (zbox_bx w).keeps hb⟩)
  refine Calls.mono h2 ?_
  rintro e w' ⟨x, a, c, p, t, l, E, rfl, w2, ⟨rfl, rfl, rfl, rfl, rfl, hb⟩, hk⟩
  have hb2 : Below w.heap.size w w2 := (zbox_below w).trans (hb.mono (zbox_below w).size)
  exact ⟨a, c, rfl, hb2.trans (hk.below (fun j hj => by omega) hb2.size)⟩

theorem rForce_known (b f q : Nat) (kd : Int) (hf : f ≤ 1073741824) (x z : VT) (uz : Value) (a : Option Addr) (c : Nat) (p : Option Addr) (w : World) (h : DB w b true true x (.slice a x.items.length c) p kd q z uz) :
    Calls Try.prog 20 #[.pointer (some ⟨b, 0, none⟩), .int .i64 (f : Int)] w (RK x a c p f w) := by
  have h1 := rforce_known b q f kd x z uz a c p (zbox w) (h.keeps (zbox_below w))
  have h2 := rForce_of b f hf (fun x' a' c' p' t l E w2 => x' = x ∧ a' = a ∧ c' = c ∧ p' = p ∧ t = true ∧ l = (f : Int) ∧ E = 0 ∧ Below (zbox w).heap.size (zbox w) w2) w (Calls.mono h1 fun e w2 hp => ⟨x, a, c, p, true, f, 0, hp.1, ⟨rfl, rfl, rfl, rfl, rfl, rfl, rfl, hp.2⟩, (zbox_bx w).keeps hp.2⟩)
  refine Calls.mono h2 ?_
  rintro e w' ⟨x', a', c', p', t, l, E, rfl, w2, ⟨rfl, rfl, rfl, rfl, rfl, rfl, rfl, hb⟩, hk⟩
  have hb2 : Below w.heap.size w w2 := (zbox_below w).trans (hb.mono (zbox_below w).size)
  exact ⟨rfl, hb2.trans (hk.below (fun j hj => by omega) hb2.size)⟩

end Go.Proofs.Ytmmppmioackiaab

namespace Go.Proofs.Ytmmppmioackiaab
open Go.RowKit Go.Shelf

set_option maxRecDepth 100000 in
set_option maxHeartbeats 16000000 in
theorem conses_walk (d : Nat) (l : List VT) (al : Option Addr) (cl : Nat) (f : Int) (w : World) (hl : Lies (d + 1) w l (.slice al l.length cl)) :
    Calls Try.prog 4 #[.slice al l.length cl, .int .i64 f] w fun e w' => e = .returned (.bool true) ∧ Below w.heap.size w w' := by
  have HSp : Hid (∀ V, Calls Try.prog 8 #[] V fun e w' => e = .returned (.bool true) ∧ Below V.heap.size V w') := speaks22_any
  have HE1 : Hid (Calls Try.prog 14 #[] w fun e w' => e = .returned (.pointer (some ⟨w.heap.size, 0, none⟩)) ∧ Below w.heap.size w w' ∧ ChP w' [] w.heap.size) := (cempty_any w).mono fun e w' h => ⟨h.1, by rw [h.2]; exact ((Grew.refl _).alloc _).below, by rw [h.2]; exact cb_alloc w 72 .nilIface 0 zeroT (.slice none 0 0) none⟩
  have HE2 : Hid (∀ V, _) := rempty_any
  obtain ⟨_, _, e, hlc, hrow⟩ := hl
  obtain ⟨rfl, _, rfl⟩ : al = _ ∧ l.length = l.length ∧ cl = _ := by simpa using e
  have HRow : Hid (l ≠ [] → ∃ b o, al = some ⟨b, o, none⟩ ∧ ∀ (i : Nat) (h : i < l.length), ∃ u, w.cell? ⟨b, o + i * 4, none⟩ = some (.int .i64 (l[i]'h).kind) ∧ w.cell? ⟨b, o + i * 4 + 1, none⟩ = some (.int .i64 (l[i]'h).num) ∧ w.cell? ⟨b, o + i * 4 + 2, none⟩ = some (.string (l[i]'h).text) ∧ w.cell? ⟨b, o + i * 4 + 3, none⟩ = some u ∧ Lies d w (l[i]'h).items u ∧ (l[i]'h).text.size ≤ 9223372036854775807) := hrow
  obtain ⟨LL, hLL⟩ : ∃ LL, LL = l.length := ⟨_, rfl⟩
  have HLL : Hid (LL = l.length) := hLL
  have hLz : LL ≤ 9223372036854775807 := by omega
  have e1 : IntKind.i64.wrap ((LL : Int) - 1) = (LL : Int) - 1 := by rw [IntKind.wrap_i64]; omega
  rw [← hLL]
  clear hrow hlc e hLL
  go_enter Try.func4, Try.ntmps4
  go_wp2_with fail
  refine Calls.mono HE1.out ?_
  rintro e w1 ⟨rfl, hb1, hP1⟩
  have HP1 : Hid (ChP w1 [] w.heap.size) := hP1
  clear HE1 hP1
  go_wp2_with fail
  refine Calls.mono (HE2.out _) ?_
  rintro e w2 ⟨rfl, hg2, hD2⟩
  have HS0 : Hid (Below w.heap.size w w2 ∧ ∃ xs, ChP w2 xs w.heap.size ∧ ChD w2 xs w1.heap.size) := ⟨hb1.trans (hg2.mono hb1.size), [], ChP.keeps hg2 _ _ HP1.out, hD2⟩
  clear hb1 hg2 hD2 HP1 HE2
  go_wp2_with fail
  go_loopg [5, 6, 7] LL (fun g cc ww i wr => ∃ (j b b2 : Nat) (z : Int), i = .int .i64 z ∧ cc = .pointer (some ⟨b, 0, none⟩) ∧ ww = .pointer (some ⟨b2, 0, none⟩) ∧ j ≤ LL ∧ g = j ∧ Hid (z = (j : Int) - 1) ∧ Hid (Below w.heap.size w wr ∧ ∃ xs, ChP wr xs b ∧ ChD wr xs b2))
  case atStart => exact ⟨LL, _, _, _, rfl, rfl, rfl, Nat.le_refl _, rfl, rfl, HS0.out⟩
  case round =>
    clear HS0 e1
    obtain ⟨j, b, b2, z, rfl, rfl, rfl, hj, hg, Hz, HI⟩ := hrel
    have Hg : Hid _ := hg
    clear hg
    obtain ⟨hbr, xs, hP, hD⟩ := HI.out
    clear HI
    by_cases hj0 : j = 0
    · have hz0 : ¬ (0 : Int) ≤ z := by have := Hz.out; omega
      clear hj0 Hz Hg hj
      have HY1 : Hid (Calls Try.prog 18 #[.pointer (some ⟨b, 0, none⟩)] wr fun e w' => e = .returned (.bool true) ∧ w' = wr) := forced_yes b wr hP.c0
      have HY3 : Hid (Calls Try.prog 12 #[.pointer (some ⟨b, 0, none⟩)] wr fun e w' => e = .returned (.int .i64 ((min xs.length 65536 : Nat) : Int)) ∧ w' = wr) := hP.len
      have HY4 : Hid (Calls Try.prog 13 #[.pointer (some ⟨b2, 0, none⟩)] wr fun e w' => e = .returned (.int .i64 ((min xs.length 65536 : Nat) : Int)) ∧ w' = wr) := hD.len
      have HS : Hid (Below w.heap.size w wr ∧ ∃ xs, ChP wr xs b ∧ ChD wr xs b2) := ⟨hbr, xs, hP, hD⟩
      clear hP hD hbr
      generalize ((min xs.length 65536 : Nat) : Int) = M at *
      have e7 : (M != M) = false := by simp
      go_wp2_with fail
      refine Calls.mono HY1.out ?_
      rintro e w9 ⟨rfl, hw9⟩
      obtain rfl : wr = w9 := hw9.symm
      clear hw9
      go_wp2_with fail
      refine Calls.mono HY3.out ?_
      rintro e w9 ⟨rfl, hw9⟩
      obtain rfl : wr = w9 := hw9.symm
      clear hw9
      go_wp2_with fail
      refine Calls.mono HY4.out ?_
      rintro e w9 ⟨rfl, hw9⟩
      obtain rfl : wr = w9 := hw9.symm
      clear hw9
      clear HY1 HY3 HY4 e7
      obtain ⟨wB, hwB⟩ : ∃ wB, wB = wr := ⟨_, rfl⟩
      rw [← hwB] at HS ⊢
      clear hwB
      go_wp2_with fail
      go_loopg [5, 6, 12] (LL + 1) (fun g cc ww i wr => ∃ (j b b2 : Nat), i = .int .i64 (j : Int) ∧ cc = .pointer (some ⟨b, 0, none⟩) ∧ ww = .pointer (some ⟨b2, 0, none⟩) ∧ j ≤ LL + 1 ∧ g = LL + 1 - j ∧ Hid (Below w.heap.size w wr ∧ ∃ xs, ChP wr xs b ∧ ChD wr xs b2))
      case atStart => exact ⟨0, b, b2, rfl, rfl, rfl, by omega, by omega, HS.out⟩
      case round =>
        clear HS
        obtain ⟨j, b, b2, rfl, rfl, rfl, hj, hg, HI⟩ := hrel
        have Hg : Hid _ := hg
        clear hg
        obtain ⟨hbr, xs, hP, hD⟩ := HI.out
        clear HI
        by_cases hlt : j ≤ LL
        · have hji : (j : Int) ≤ (LL : Int) := by omega
          by_cases h5 : j ≤ 500
          · have hj5 : (j : Int) ≤ 500 := by omega
            have e9 : IntKind.i64.wrap ((j : Int) + 1) = ((j + 1 : Nat) : Int) := by rw [IntKind.wrap_i64]; omega
            by_cases hf : f < 0 ∨ 1073741824 < f
            · have HF1 : Hid (Calls Try.prog 19 #[.pointer (some ⟨b, 0, none⟩), .int .i64 f] wr (FNil 0 1 wr)) := Force_bad _ f hf wr
              have HF2 : Hid (∀ V, Below wr.heap.size wr V → Calls Try.prog 20 #[.pointer (some ⟨b2, 0, none⟩), .int .i64 f] V (FNil 0 1 V)) := fun V _ => rForce_bad _ f hf V
              clear hP hD hf e9
              go_wp2_with fail
              refine Calls.mono HF1.out ?_
              rintro e w3 ⟨a3, c3, rfl, hg3⟩
              obtain ⟨n1, hn1⟩ : ∃ n1, n1 = w3.heap.size := ⟨_, rfl⟩
              obtain ⟨W4, hW4⟩ : ∃ W4, W4 = w3.alloc (.cells #[.int .i64 0, .int .i64 0, .string ⟨#[]⟩, .slice a3 0 c3] 24) := ⟨_, rfl⟩
              have HW4 : Hid (W4 = w3.alloc (.cells #[.int .i64 0, .int .i64 0, .string ⟨#[]⟩, .slice a3 0 c3] 24)) := hW4
              have hal : Below w3.heap.size w3 W4 := by rw [hW4]; exact ((Grew.refl _).alloc _).below
              have hg4 : Below wr.heap.size wr W4 := hg3.trans (hal.mono hg3.size)
              have HB1 : Hid (Bx W4 n1 zeroT (.slice a3 0 c3)) := by rw [hW4, hn1]; exact bx_alloc w3 zeroT (.slice a3 0 c3)
              have HF2' : Hid _ := HF2.out W4 hg4
              clear hal hg3 hW4 HF1 HF2
              go_upto_region 19 with fail
              rw [← HW4.out, ← hn1]
              clear HW4 hn1
              go_wp2_with fail
              refine Calls.mono HF2'.out ?_
              rintro e w5 ⟨a5, c5, rfl, hg5⟩
              obtain ⟨n2, hn2⟩ : ∃ n2, n2 = w5.heap.size := ⟨_, rfl⟩
              obtain ⟨W6, hW6⟩ : ∃ W6, W6 = w5.alloc (.cells #[.int .i64 0, .int .i64 0, .string ⟨#[]⟩, .slice a5 0 c5] 24) := ⟨_, rfl⟩
              have HW6 : Hid (W6 = w5.alloc (.cells #[.int .i64 0, .int .i64 0, .string ⟨#[]⟩, .slice a5 0 c5] 24)) := hW6
              have hal : Below w5.heap.size w5 W6 := by rw [hW6]; exact ((Grew.refl _).alloc _).below
              have hg6 : Below W4.heap.size W4 W6 := hg5.trans (hal.mono hg5.size)
              have HB2 : Hid (Bx W6 n2 zeroT (.slice a5 0 c5)) := by rw [hW6, hn2]; exact bx_alloc w5 zeroT (.slice a5 0 c5)
              have HB1' : Hid (Bx W6 n1 zeroT (.slice a3 0 c3)) := HB1.out.keeps hg6
              have hb6 : Below w.heap.size w W6 := hbr.trans ((hg4.trans (hg6.mono hg4.size)).mono hbr.size)
              have HSm : Hid (Calls Try.prog 21 #[.agg #[.int .i64 0, .int .i64 0, .string ⟨#[]⟩, .slice a3 0 c3], .agg #[.int .i64 0, .int .i64 0, .string ⟨#[]⟩, .slice a5 0 c5]] W6 fun e w' => e = .returned (.bool true) ∧ Below W6.heap.size W6 w') := (same_any 0 zeroT zeroT _ _ W6 ⟨rfl, a3, c3, rfl⟩ ⟨rfl, a5, c5, rfl⟩).mono fun e w' h => ⟨by rw [h.1, sameV_self], h.2.below⟩
              clear hal hg5 hg6 hW6 hg4 HF2'
              go_upto_region 20 with fail
              rw [← HW6.out, ← hn2]
              clear HW6 hn2
              obtain ⟨y0, y1, y2, y3, _, _, _, _⟩ := HB1'.out
              obtain ⟨z0, z1, z2, z3, _, _, _, _⟩ := HB2.out
              go_wp2_with fail
              refine Calls.mono HSm.out ?_
              rintro e w7 ⟨rfl, hg7⟩
              have hb7 : Below w.heap.size w w7 := hb6.trans (hg7.mono hb6.size)
              clear hg7 hb6 y0 y1 y2 y3 z0 z1 z2 z3 HSm HB1' HB1 HB2
              go_wp2_with fail
              refine Calls.mono (HSp.out _) ?_
              rintro e wz ⟨rfl, hgz⟩
              have hbz : Below w.heap.size w wz := hb7.trans (hgz.mono hb7.size)
              clear hgz
              go_wp2_with fail
              go_ret
              exact ⟨rfl, hbz⟩
            · obtain ⟨F, rfl⟩ : ∃ F : Nat, f = (F : Int) := ⟨f.toNat, by omega⟩
              have HFb : Hid (F ≤ 1073741824) := by show F ≤ 1073741824; omega
              clear hf
              cases xs with
              | nil =>
                have HF1 : Hid (Calls Try.prog 19 #[.pointer (some ⟨b, 0, none⟩), .int .i64 (F : Int)] wr (FNil F 0 wr)) := Force_empty b F HFb.out wr hP
                have HF2 : Hid (∀ V, Below wr.heap.size wr V → Calls Try.prog 20 #[.pointer (some ⟨b2, 0, none⟩), .int .i64 (F : Int)] V (FNil F 0 V)) := fun V hV => rForce_empty b2 F HFb.out V (DB.keeps hD hV)
                have e8 : ((F : Int) != (F : Int)) = false := by simp
                clear hP hD e9
                go_wp2_with fail
                refine Calls.mono HF1.out ?_
                rintro e w3 ⟨a3, c3, rfl, hg3⟩
                obtain ⟨n1, hn1⟩ : ∃ n1, n1 = w3.heap.size := ⟨_, rfl⟩
                obtain ⟨W4, hW4⟩ : ∃ W4, W4 = w3.alloc (.cells #[.int .i64 0, .int .i64 0, .string ⟨#[]⟩, .slice a3 0 c3] 24) := ⟨_, rfl⟩
                have HW4 : Hid (W4 = w3.alloc (.cells #[.int .i64 0, .int .i64 0, .string ⟨#[]⟩, .slice a3 0 c3] 24)) := hW4
                have hal : Below w3.heap.size w3 W4 := by rw [hW4]; exact ((Grew.refl _).alloc _).below
                have hg4 : Below wr.heap.size wr W4 := hg3.trans (hal.mono hg3.size)
                have HB1 : Hid (Bx W4 n1 zeroT (.slice a3 0 c3)) := by rw [hW4, hn1]; exact bx_alloc w3 zeroT (.slice a3 0 c3)
                have HF2' : Hid _ := HF2.out W4 hg4
                clear hal hg3 hW4 HF1 HF2
                go_upto_region 19 with fail
                rw [← HW4.out, ← hn1]
                clear HW4 hn1
                go_wp2_with fail
                refine Calls.mono HF2'.out ?_
                rintro e w5 ⟨a5, c5, rfl, hg5⟩
                obtain ⟨n2, hn2⟩ : ∃ n2, n2 = w5.heap.size := ⟨_, rfl⟩
                obtain ⟨W6, hW6⟩ : ∃ W6, W6 = w5.alloc (.cells #[.int .i64 0, .int .i64 0, .string ⟨#[]⟩, .slice a5 0 c5] 24) := ⟨_, rfl⟩
                have HW6 : Hid (W6 = w5.alloc (.cells #[.int .i64 0, .int .i64 0, .string ⟨#[]⟩, .slice a5 0 c5] 24)) := hW6
                have hal : Below w5.heap.size w5 W6 := by rw [hW6]; exact ((Grew.refl _).alloc _).below
                have hg6 : Below W4.heap.size W4 W6 := hg5.trans (hal.mono hg5.size)
                have HB2 : Hid (Bx W6 n2 zeroT (.slice a5 0 c5)) := by rw [hW6, hn2]; exact bx_alloc w5 zeroT (.slice a5 0 c5)
                have HB1' : Hid (Bx W6 n1 zeroT (.slice a3 0 c3)) := HB1.out.keeps hg6
                have hb6 : Below w.heap.size w W6 := hbr.trans ((hg4.trans (hg6.mono hg4.size)).mono hbr.size)
                have HSm : Hid (Calls Try.prog 21 #[.agg #[.int .i64 0, .int .i64 0, .string ⟨#[]⟩, .slice a3 0 c3], .agg #[.int .i64 0, .int .i64 0, .string ⟨#[]⟩, .slice a5 0 c5]] W6 fun e w' => e = .returned (.bool true) ∧ Below W6.heap.size W6 w') := (same_any 0 zeroT zeroT _ _ W6 ⟨rfl, a3, c3, rfl⟩ ⟨rfl, a5, c5, rfl⟩).mono fun e w' h => ⟨by rw [h.1, sameV_self], h.2.below⟩
                clear hal hg5 hg6 hW6 hg4 HF2'
                go_upto_region 20 with fail
                rw [← HW6.out, ← hn2]
                clear HW6 hn2
                obtain ⟨y0, y1, y2, y3, _, _, _, _⟩ := HB1'.out
                obtain ⟨z0, z1, z2, z3, _, _, _, _⟩ := HB2.out
                go_wp2_with fail
                refine Calls.mono HSm.out ?_
                rintro e w7 ⟨rfl, hg7⟩
                have hb7 : Below w.heap.size w w7 := hb6.trans (hg7.mono hb6.size)
                clear hg7 hb6 y0 y1 y2 y3 z0 z1 z2 z3 HSm HB1' HB1 HB2
                go_wp2_with fail
                refine Calls.mono (HSp.out _) ?_
                rintro e wz ⟨rfl, hgz⟩
                have hbz : Below w.heap.size w wz := hb7.trans (hgz.mono hb7.size)
                clear hgz
                go_wp2_with fail
                go_ret
                exact ⟨rfl, hbz⟩
              | cons x xs =>
                obtain ⟨a1, c1, p1, h1, h2, h3, h4⟩ := hP
                obtain ⟨a2, c2, p2, g1, g2, g4⟩ := hD
                have HF1 : Hid (Calls Try.prog 19 #[.pointer (some ⟨b, 0, none⟩), .int .i64 (F : Int)] wr (KPost x (some ⟨p1, 0, none⟩) F wr)) := Force_known b F HFb.out x a1 c1 _ wr h1 h2 h3
                have HF2 : Hid (∀ V, Below wr.heap.size wr V → Calls Try.prog 20 #[.pointer (some ⟨b2, 0, none⟩), .int .i64 (F : Int)] V (RK x a2 c2 (some ⟨p2, 0, none⟩) F V)) := fun V hV => rForce_known b2 F 0 0 HFb.out x zeroT _ a2 c2 _ V (g1.keeps hV)
                have HT : Hid (Lies 16 wr x.items (.slice a2 x.items.length c2) ∧ ChP wr xs p1 ∧ ChD wr xs p2) := ⟨g2, h4, g4⟩
                have Hbr : Hid (Below w.heap.size w wr) := hbr
                clear h1 h2 h3 h4 g1 g2 g4 hbr
                go_wp2_with fail
                refine Calls.mono HF1.out ?_
                rintro e w3 ⟨a3, c3, rfl, hg3, hl3⟩
                obtain ⟨n1, hn1⟩ : ∃ n1, n1 = w3.heap.size := ⟨_, rfl⟩
                obtain ⟨W4, hW4⟩ : ∃ W4, W4 = w3.alloc (.cells #[.int .i64 x.kind, .int .i64 x.num, .string x.text, .slice a3 x.items.length c3] 24) := ⟨_, rfl⟩
                have HW4 : Hid (W4 = w3.alloc (.cells #[.int .i64 x.kind, .int .i64 x.num, .string x.text, .slice a3 x.items.length c3] 24)) := hW4
                have hal : Below w3.heap.size w3 W4 := by rw [hW4]; exact ((Grew.refl _).alloc _).below
                have hg4 : Below wr.heap.size wr W4 := hg3.trans (hal.mono hg3.size)
                have HB1 : Hid (Bx W4 n1 x (.slice a3 x.items.length c3)) := by rw [hW4, hn1]; exact bx_alloc _ _ _
                have HL4 : Hid (Lies 16 W4 x.items (.slice a3 x.items.length c3)) := (hl3.keeps hal).lies
                have HF2' : Hid _ := HF2.out W4 hg4
                clear hal hg3 hl3 hW4 HF1 HF2
                go_upto_region 19 with fail
                rw [← HW4.out, ← hn1]
                clear HW4 hn1
                go_wp2_with fail
                refine Calls.mono HF2'.out ?_
                rintro e w5 ⟨rfl, hg5⟩
                obtain ⟨n2, hn2⟩ : ∃ n2, n2 = w5.heap.size := ⟨_, rfl⟩
                obtain ⟨W6, hW6⟩ : ∃ W6, W6 = w5.alloc (.cells #[.int .i64 x.kind, .int .i64 x.num, .string x.text, .slice a2 x.items.length c2] 24) := ⟨_, rfl⟩
                have HW6 : Hid (W6 = w5.alloc (.cells #[.int .i64 x.kind, .int .i64 x.num, .string x.text, .slice a2 x.items.length c2] 24)) := hW6
                have hal : Below w5.heap.size w5 W6 := by rw [hW6]; exact ((Grew.refl _).alloc _).below
                have hg6 : Below W4.heap.size W4 W6 := hg5.trans (hal.mono hg5.size)
                have hg26 : Below wr.heap.size wr W6 := hg4.trans (hg6.mono hg4.size)
                have HB2 : Hid (Bx W6 n2 x (.slice a2 x.items.length c2)) := by rw [hW6, hn2]; exact bx_alloc _ _ _
                have HB1' : Hid (Bx W6 n1 x (.slice a3 x.items.length c3)) := HB1.out.keeps hg6
                have HSm : Hid (Calls Try.prog 21 #[.agg #[.int .i64 x.kind, .int .i64 x.num, .string x.text, .slice a3 x.items.length c3], .agg #[.int .i64 x.kind, .int .i64 x.num, .string x.text, .slice a2 x.items.length c2]] W6 fun e w' => e = .returned (.bool true) ∧ Below W6.heap.size W6 w') := (same_any 16 x x _ _ W6 (Lies.keeps hg6 _ _ _ HL4.out) (Lies.keeps hg26 _ _ _ HT.out.1)).mono fun e w' h => ⟨by rw [h.1, sameV_self], h.2.below⟩
                have HI2 : Hid (∀ V, Below W6.heap.size W6 V → Below w.heap.size w V ∧ ∃ xs, ChP V xs p1 ∧ ChD V xs p2) := fun V hV => ⟨Hbr.out.trans ((hg26.trans (hV.mono hg26.size)).mono Hbr.out.size), xs, ChP.keeps (hg26.trans (hV.mono hg26.size)) _ _ HT.out.2.1, ChD.keeps (hg26.trans (hV.mono hg26.size)) _ _ HT.out.2.2⟩
                clear hal hg5 hg6 hg26 hW6 hg4 HF2' HL4 HT Hbr
                go_upto_region 20 with fail
                rw [← HW6.out, ← hn2]
                clear HW6 hn2
                obtain ⟨y0, y1, y2, y3, _, _, _, _⟩ := HB1'.out
                obtain ⟨z0, z1, z2, z3, _, _, _, _⟩ := HB2.out
                have e8 : ((F : Int) != (F : Int)) = false := by simp
                go_wp2_with fail
                refine Calls.mono HSm.out ?_
                rintro e w7 ⟨rfl, hg7⟩
                have HI3 : Hid _ := HI2.out w7 hg7
                clear hg7 y0 y1 y2 y3 z0 z1 z2 z3 HSm HB1' HB1 HB2 HI2
                go_wp2_with fail
                go_roundg (LL + 1 - (j + 1))
                case measure => have := Hg.out; omega
                case rel => exact ⟨j + 1, p1, p2, rfl, rfl, rfl, by omega, rfl, HI3.out⟩
          · have hj5 : ¬ (j : Int) ≤ 500 := by omega
            clear hP hD
            go_wp2_with fail
            refine Calls.mono (HSp.out _) ?_
            rintro e wz ⟨rfl, hgz⟩
            have hbz : Below w.heap.size w wz := hbr.trans (hgz.mono hbr.size)
            clear hgz
            go_wp2_with fail
            go_ret
            exact ⟨rfl, hbz⟩
        · have hji : ¬ (j : Int) ≤ (LL : Int) := by omega
          clear hP hD
          go_wp2_with fail
          refine Calls.mono (HSp.out _) ?_
          rintro e wz ⟨rfl, hgz⟩
          have hbz : Below w.heap.size w wz := hbr.trans (hgz.mono hbr.size)
          clear hgz
          go_wp2_with fail
          go_ret
          exact ⟨rfl, hbz⟩
    · by_cases h5 : LL ≤ 500
      · obtain ⟨j', rfl⟩ : ∃ j', j = j' + 1 := ⟨j - 1, by omega⟩
        obtain rfl : z = (j' : Int) := by have := Hz.out; omega
        have hz0 : (0 : Int) ≤ (j' : Int) := by omega
        have hl5 : (LL : Int) ≤ 500 := by omega
        have hji : (j' : Int) < (LL : Int) := by omega
        have hjl : j' < l.length := by have := HLL.out; omega
        obtain ⟨br, orr, rfl, hall⟩ := HRow.out (by intro e; simp [e] at hjl)
        obtain ⟨ux, p0, p1, p2, p3, hlx, hts⟩ := hall j' hjl
        obtain ⟨ax, cx, rfl, _⟩ := Lies.slice hlx
        have p0 := cell_keeps hbr p0; have p1 := cell_keeps hbr p1; have p2 := cell_keeps hbr p2; have p3 := cell_keeps hbr p3
        have hlx := Lies.keeps hbr _ _ _ hlx
        have e9 : IntKind.i64.wrap ((j' : Int) - 1) = (j' : Int) - 1 := by rw [IntKind.wrap_i64]; omega
        clear hall hj0
        generalize l[j'] = x at *
        have Hbr : Hid (Below w.heap.size w wr) := hbr
        have HPD : Hid (ChP wr xs b ∧ ChD wr xs b2) := ⟨hP, hD⟩
        clear hbr hP hD
        cases hr : rightV d x with
        | true =>
          have hc := canon hlx hr
          have HC1 : Hid (Calls Try.prog 16 #[.agg #[.int .i64 x.kind, .int .i64 x.num, .string x.text, .slice ax x.items.length cx], .pointer (some ⟨b, 0, none⟩)] wr (ConsPost x b wr)) := cons_ok x _ b wr hc.1 hc.2
          have HC2 : Hid (∀ V, Below wr.heap.size wr V → Calls Try.prog 17 #[.agg #[.int .i64 x.kind, .int .i64 x.num, .string x.text, .slice ax x.items.length cx], .pointer (some ⟨b2, 0, none⟩)] V fun e w' => Below V.heap.size V w' ∧ ∃ d, e = .returned (.tuple #[.pointer (some ⟨d, 0, none⟩), .int .i64 0]) ∧ DB w' d true true x (.slice ax x.items.length cx) (some ⟨b2, 0, none⟩) 0 0 zeroT (.slice none 0 0)) := fun V hV => rcons_ok x ax cx b2 V (Lies.keeps hV _ _ _ hc.1) hc.2
          have HX : Hid (Lies 16 wr x.items (.slice ax x.items.length cx) ∧ rightV 16 x = true) := hc
          clear hr hc hlx hts hjl
          go_wp2_with fail
          refine Calls.mono HC1.out ?_
          rintro e w3 ⟨hg3, d1, a3, c3, rfl, _, hcb, hl3⟩
          have HN1 : Hid (ChP w3 (x :: xs) d1) := ⟨a3, c3, b, hcb, hl3.lies, HX.out.2, ChP.keeps hg3 _ _ HPD.out.1⟩
          have p0 := cell_keeps hg3 p0; have p1 := cell_keeps hg3 p1; have p2 := cell_keeps hg3 p2; have p3 := cell_keeps hg3 p3
          have HC2' : Hid _ := HC2.out w3 hg3
          have Hg3 : Hid (Below wr.heap.size wr w3) := hg3
          clear hcb hl3 HC1 HC2 hg3
          go_wp2_with fail
          refine Calls.mono HC2'.out ?_
          rintro e w4 ⟨hg4, d2, rfl, hdb⟩
          have hg34 : Below wr.heap.size wr w4 := Hg3.out.trans (hg4.mono Hg3.out.size)
          have HI2 : Hid (Below w.heap.size w w4 ∧ ∃ xs, ChP w4 xs d1 ∧ ChD w4 xs d2) := ⟨Hbr.out.trans (hg34.mono Hbr.out.size), x :: xs, ChP.keeps hg4 _ _ HN1.out, ax, cx, b2, hdb, Lies.keeps hg34 _ _ _ HX.out.1, ChD.keeps hg34 _ _ HPD.out.2⟩
          clear hg4 hdb hg34 HN1 HC2' Hg3 Hbr HPD HX p0 p1 p2 p3
          go_wp2_with fail
          go_roundg j'
          case measure => have := Hg.out; omega
          case rel => exact ⟨j', d1, d2, _, rfl, rfl, rfl, by omega, rfl, rfl, HI2.out⟩
        | false =>
          have HC1 : Hid (Calls Try.prog 16 #[.agg #[.int .i64 x.kind, .int .i64 x.num, .string x.text, .slice ax x.items.length cx], .pointer (some ⟨b, 0, none⟩)] wr fun e w' => e = .returned (.tuple #[.pointer none, .int .i64 3]) ∧ Below wr.heap.size wr w') := cons_wrong d x _ _ wr hlx hts hr
          have HC2 : Hid (∀ V, Below wr.heap.size wr V → Calls Try.prog 17 #[.agg #[.int .i64 x.kind, .int .i64 x.num, .string x.text, .slice ax x.items.length cx], .pointer (some ⟨b2, 0, none⟩)] V fun e w' => e = .returned (.tuple #[.pointer none, .int .i64 3]) ∧ Below V.heap.size V w') := fun V hV => rcons_wrong d x ax cx _ V (Lies.keeps hV _ _ _ hlx) hr
          clear hr hlx hts hjl
          go_wp2_with fail
          refine Calls.mono HC1.out ?_
          rintro e w3 ⟨rfl, hg3⟩
          have p0 := cell_keeps hg3 p0; have p1 := cell_keeps hg3 p1; have p2 := cell_keeps hg3 p2; have p3 := cell_keeps hg3 p3
          have HC2' : Hid _ := HC2.out w3 hg3
          have Hg3 : Hid (Below wr.heap.size wr w3) := hg3
          clear HC1 HC2 hg3
          go_wp2_with fail
          refine Calls.mono HC2'.out ?_
          rintro e w4 ⟨rfl, hg4⟩
          have hg34 : Below wr.heap.size wr w4 := Hg3.out.trans (hg4.mono Hg3.out.size)
          have HI2 : Hid (Below w.heap.size w w4 ∧ ∃ xs, ChP w4 xs b ∧ ChD w4 xs b2) := ⟨Hbr.out.trans (hg34.mono Hbr.out.size), xs, ChP.keeps hg34 _ _ HPD.out.1, ChD.keeps hg34 _ _ HPD.out.2⟩
          clear hg4 hg34 HC2' Hg3 Hbr HPD p0 p1 p2 p3
          go_wp2_with fail
          go_roundg j'
          case measure => have := Hg.out; omega
          case rel => exact ⟨j', b, b2, _, rfl, rfl, rfl, by omega, rfl, rfl, HI2.out⟩
      · have hz0 : (0 : Int) ≤ z := by have := Hz.out; omega
        have hl5 : ¬ (LL : Int) ≤ 500 := by omega
        clear hj0 Hz Hg hj h5
        have HY1 : Hid (Calls Try.prog 18 #[.pointer (some ⟨b, 0, none⟩)] wr fun e w' => e = .returned (.bool true) ∧ w' = wr) := forced_yes b wr hP.c0
        have HY3 : Hid (Calls Try.prog 12 #[.pointer (some ⟨b, 0, none⟩)] wr fun e w' => e = .returned (.int .i64 ((min xs.length 65536 : Nat) : Int)) ∧ w' = wr) := hP.len
        have HY4 : Hid (Calls Try.prog 13 #[.pointer (some ⟨b2, 0, none⟩)] wr fun e w' => e = .returned (.int .i64 ((min xs.length 65536 : Nat) : Int)) ∧ w' = wr) := hD.len
        have HS : Hid (Below w.heap.size w wr ∧ ∃ xs, ChP wr xs b ∧ ChD wr xs b2) := ⟨hbr, xs, hP, hD⟩
        clear hP hD hbr
        generalize ((min xs.length 65536 : Nat) : Int) = M at *
        have e7 : (M != M) = false := by simp
        go_wp2_with fail
        refine Calls.mono HY1.out ?_
        rintro e w9 ⟨rfl, hw9⟩
        obtain rfl : wr = w9 := hw9.symm
        clear hw9
        go_wp2_with fail
        refine Calls.mono HY3.out ?_
        rintro e w9 ⟨rfl, hw9⟩
        obtain rfl : wr = w9 := hw9.symm
        clear hw9
        go_wp2_with fail
        refine Calls.mono HY4.out ?_
        rintro e w9 ⟨rfl, hw9⟩
        obtain rfl : wr = w9 := hw9.symm
        clear hw9
        clear HY1 HY3 HY4 e7
        obtain ⟨wB, hwB⟩ : ∃ wB, wB = wr := ⟨_, rfl⟩
        rw [← hwB] at HS ⊢
        clear hwB
        go_wp2_with fail
        go_loopg [5, 6, 12] (LL + 1) (fun g cc ww i wr => ∃ (j b b2 : Nat), i = .int .i64 (j : Int) ∧ cc = .pointer (some ⟨b, 0, none⟩) ∧ ww = .pointer (some ⟨b2, 0, none⟩) ∧ j ≤ LL + 1 ∧ g = LL + 1 - j ∧ Hid (Below w.heap.size w wr ∧ ∃ xs, ChP wr xs b ∧ ChD wr xs b2))
        case atStart => exact ⟨0, b, b2, rfl, rfl, rfl, by omega, by omega, HS.out⟩
        case round =>
          clear HS
          obtain ⟨j, b, b2, rfl, rfl, rfl, hj, hg, HI⟩ := hrel
          have Hg : Hid _ := hg
          clear hg
          obtain ⟨hbr, xs, hP, hD⟩ := HI.out
          clear HI
          by_cases hlt : j ≤ LL
          · have hji : (j : Int) ≤ (LL : Int) := by omega
            by_cases h5 : j ≤ 500
            · have hj5 : (j : Int) ≤ 500 := by omega
              have e9 : IntKind.i64.wrap ((j : Int) + 1) = ((j + 1 : Nat) : Int) := by rw [IntKind.wrap_i64]; omega
              by_cases hf : f < 0 ∨ 1073741824 < f
              · have HF1 : Hid (Calls Try.prog 19 #[.pointer (some ⟨b, 0, none⟩), .int .i64 f] wr (FNil 0 1 wr)) := Force_bad _ f hf wr
                have HF2 : Hid (∀ V, Below wr.heap.size wr V → Calls Try.prog 20 #[.pointer (some ⟨b2, 0, none⟩), .int .i64 f] V (FNil 0 1 V)) := fun V _ => rForce_bad _ f hf V
                clear hP hD hf e9
                go_wp2_with fail
                refine Calls.mono HF1.out ?_
                rintro e w3 ⟨a3, c3, rfl, hg3⟩
                obtain ⟨n1, hn1⟩ : ∃ n1, n1 = w3.heap.size := ⟨_, rfl⟩
                obtain ⟨W4, hW4⟩ : ∃ W4, W4 = w3.alloc (.cells #[.int .i64 0, .int .i64 0, .string ⟨#[]⟩, .slice a3 0 c3] 24) := ⟨_, rfl⟩
                have HW4 : Hid (W4 = w3.alloc (.cells #[.int .i64 0, .int .i64 0, .string ⟨#[]⟩, .slice a3 0 c3] 24)) := hW4
                have hal : Below w3.heap.size w3 W4 := by rw [hW4]; exact ((Grew.refl _).alloc _).below
                have hg4 : Below wr.heap.size wr W4 := hg3.trans (hal.mono hg3.size)
                have HB1 : Hid (Bx W4 n1 zeroT (.slice a3 0 c3)) := by rw [hW4, hn1]; exact bx_alloc w3 zeroT (.slice a3 0 c3)
                have HF2' : Hid _ := HF2.out W4 hg4
                clear hal hg3 hW4 HF1 HF2
                go_upto_region 19 with fail
                rw [← HW4.out, ← hn1]
                clear HW4 hn1
                go_wp2_with fail
                refine Calls.mono HF2'.out ?_
                rintro e w5 ⟨a5, c5, rfl, hg5⟩
                obtain ⟨n2, hn2⟩ : ∃ n2, n2 = w5.heap.size := ⟨_, rfl⟩
                obtain ⟨W6, hW6⟩ : ∃ W6, W6 = w5.alloc (.cells #[.int .i64 0, .int .i64 0, .string ⟨#[]⟩, .slice a5 0 c5] 24) := ⟨_, rfl⟩
                have HW6 : Hid (W6 = w5.alloc (.cells #[.int .i64 0, .int .i64 0, .string ⟨#[]⟩, .slice a5 0 c5] 24)) := hW6
                have hal : Below w5.heap.size w5 W6 := by rw [hW6]; exact ((Grew.refl _).alloc _).below
                have hg6 : Below W4.heap.size W4 W6 := hg5.trans (hal.mono hg5.size)
                have HB2 : Hid (Bx W6 n2 zeroT (.slice a5 0 c5)) := by rw [hW6, hn2]; exact bx_alloc w5 zeroT (.slice a5 0 c5)
                have HB1' : Hid (Bx W6 n1 zeroT (.slice a3 0 c3)) := HB1.out.keeps hg6
                have hb6 : Below w.heap.size w W6 := hbr.trans ((hg4.trans (hg6.mono hg4.size)).mono hbr.size)
                have HSm : Hid (Calls Try.prog 21 #[.agg #[.int .i64 0, .int .i64 0, .string ⟨#[]⟩, .slice a3 0 c3], .agg #[.int .i64 0, .int .i64 0, .string ⟨#[]⟩, .slice a5 0 c5]] W6 fun e w' => e = .returned (.bool true) ∧ Below W6.heap.size W6 w') := (same_any 0 zeroT zeroT _ _ W6 ⟨rfl, a3, c3, rfl⟩ ⟨rfl, a5, c5, rfl⟩).mono fun e w' h => ⟨by rw [h.1, sameV_self], h.2.below⟩
                clear hal hg5 hg6 hW6 hg4 HF2'
                go_upto_region 20 with fail
                rw [← HW6.out, ← hn2]
                clear HW6 hn2
                obtain ⟨y0, y1, y2, y3, _, _, _, _⟩ := HB1'.out
                obtain ⟨z0, z1, z2, z3, _, _, _, _⟩ := HB2.out
                go_wp2_with fail
                refine Calls.mono HSm.out ?_
                rintro e w7 ⟨rfl, hg7⟩
                have hb7 : Below w.heap.size w w7 := hb6.trans (hg7.mono hb6.size)
                clear hg7 hb6 y0 y1 y2 y3 z0 z1 z2 z3 HSm HB1' HB1 HB2
                go_wp2_with fail
                refine Calls.mono (HSp.out _) ?_
                rintro e wz ⟨rfl, hgz⟩
                have hbz : Below w.heap.size w wz := hb7.trans (hgz.mono hb7.size)
                clear hgz
                go_wp2_with fail
                go_ret
                exact ⟨rfl, hbz⟩
              · obtain ⟨F, rfl⟩ : ∃ F : Nat, f = (F : Int) := ⟨f.toNat, by omega⟩
                have HFb : Hid (F ≤ 1073741824) := by show F ≤ 1073741824; omega
                clear hf
                cases xs with
                | nil =>
                  have HF1 : Hid (Calls Try.prog 19 #[.pointer (some ⟨b, 0, none⟩), .int .i64 (F : Int)] wr (FNil F 0 wr)) := Force_empty b F HFb.out wr hP
                  have HF2 : Hid (∀ V, Below wr.heap.size wr V → Calls Try.prog 20 #[.pointer (some ⟨b2, 0, none⟩), .int .i64 (F : Int)] V (FNil F 0 V)) := fun V hV => rForce_empty b2 F HFb.out V (DB.keeps hD hV)
                  have e8 : ((F : Int) != (F : Int)) = false := by simp
                  clear hP hD e9
                  go_wp2_with fail
                  refine Calls.mono HF1.out ?_
                  rintro e w3 ⟨a3, c3, rfl, hg3⟩
                  obtain ⟨n1, hn1⟩ : ∃ n1, n1 = w3.heap.size := ⟨_, rfl⟩
                  obtain ⟨W4, hW4⟩ : ∃ W4, W4 = w3.alloc (.cells #[.int .i64 0, .int .i64 0, .string ⟨#[]⟩, .slice a3 0 c3] 24) := ⟨_, rfl⟩
                  have HW4 : Hid (W4 = w3.alloc (.cells #[.int .i64 0, .int .i64 0, .string ⟨#[]⟩, .slice a3 0 c3] 24)) := hW4
                  have hal : Below w3.heap.size w3 W4 := by rw [hW4]; exact ((Grew.refl _).alloc _).below
                  have hg4 : Below wr.heap.size wr W4 := hg3.trans (hal.mono hg3.size)
                  have HB1 : Hid (Bx W4 n1 zeroT (.slice a3 0 c3)) := by rw [hW4, hn1]; exact bx_alloc w3 zeroT (.slice a3 0 c3)
                  have HF2' : Hid _ := HF2.out W4 hg4
                  clear hal hg3 hW4 HF1 HF2
                  go_upto_region 19 with fail
                  rw [← HW4.out, ← hn1]
                  clear HW4 hn1
                  go_wp2_with fail
                  refine Calls.mono HF2'.out ?_
                  rintro e w5 ⟨a5, c5, rfl, hg5⟩
                  obtain ⟨n2, hn2⟩ : ∃ n2, n2 = w5.heap.size := ⟨_, rfl⟩
                  obtain ⟨W6, hW6⟩ : ∃ W6, W6 = w5.alloc (.cells #[.int .i64 0, .int .i64 0, .string ⟨#[]⟩, .slice a5 0 c5] 24) := ⟨_, rfl⟩
                  have HW6 : Hid (W6 = w5.alloc (.cells #[.int .i64 0, .int .i64 0, .string ⟨#[]⟩, .slice a5 0 c5] 24)) := hW6
                  have hal : Below w5.heap.size w5 W6 := by rw [hW6]; exact ((Grew.refl _).alloc _).below
                  have hg6 : Below W4.heap.size W4 W6 := hg5.trans (hal.mono hg5.size)
                  have HB2 : Hid (Bx W6 n2 zeroT (.slice a5 0 c5)) := by rw [hW6, hn2]; exact bx_alloc w5 zeroT (.slice a5 0 c5)
                  have HB1' : Hid (Bx W6 n1 zeroT (.slice a3 0 c3)) := HB1.out.keeps hg6
                  have hb6 : Below w.heap.size w W6 := hbr.trans ((hg4.trans (hg6.mono hg4.size)).mono hbr.size)
                  have HSm : Hid (Calls Try.prog 21 #[.agg #[.int .i64 0, .int .i64 0, .string ⟨#[]⟩, .slice a3 0 c3], .agg #[.int .i64 0, .int .i64 0, .string ⟨#[]⟩, .slice a5 0 c5]] W6 fun e w' => e = .returned (.bool true) ∧ Below W6.heap.size W6 w') := (same_any 0 zeroT zeroT _ _ W6 ⟨rfl, a3, c3, rfl⟩ ⟨rfl, a5, c5, rfl⟩).mono fun e w' h => ⟨by rw [h.1, sameV_self], h.2.below⟩
                  clear hal hg5 hg6 hW6 hg4 HF2'
                  go_upto_region 20 with fail
                  rw [← HW6.out, ← hn2]
                  clear HW6 hn2
                  obtain ⟨y0, y1, y2, y3, _, _, _, _⟩ := HB1'.out
                  obtain ⟨z0, z1, z2, z3, _, _, _, _⟩ := HB2.out
                  go_wp2_with fail
                  refine Calls.mono HSm.out ?_
                  rintro e w7 ⟨rfl, hg7⟩
                  have hb7 : Below w.heap.size w w7 := hb6.trans (hg7.mono hb6.size)
                  clear hg7 hb6 y0 y1 y2 y3 z0 z1 z2 z3 HSm HB1' HB1 HB2
                  go_wp2_with fail
                  refine Calls.mono (HSp.out _) ?_
                  rintro e wz ⟨rfl, hgz⟩
                  have hbz : Below w.heap.size w wz := hb7.trans (hgz.mono hb7.size)
                  clear hgz
                  go_wp2_with fail
                  go_ret
                  exact ⟨rfl, hbz⟩
                | cons x xs =>
                  obtain ⟨a1, c1, p1, h1, h2, h3, h4⟩ := hP
                  obtain ⟨a2, c2, p2, g1, g2, g4⟩ := hD
                  have HF1 : Hid (Calls Try.prog 19 #[.pointer (some ⟨b, 0, none⟩), .int .i64 (F : Int)] wr (KPost x (some ⟨p1, 0, none⟩) F wr)) := Force_known b F HFb.out x a1 c1 _ wr h1 h2 h3
                  have HF2 : Hid (∀ V, Below wr.heap.size wr V → Calls Try.prog 20 #[.pointer (some ⟨b2, 0, none⟩), .int .i64 (F : Int)] V (RK x a2 c2 (some ⟨p2, 0, none⟩) F V)) := fun V hV => rForce_known b2 F 0 0 HFb.out x zeroT _ a2 c2 _ V (g1.keeps hV)
                  have HT : Hid (Lies 16 wr x.items (.slice a2 x.items.length c2) ∧ ChP wr xs p1 ∧ ChD wr xs p2) := ⟨g2, h4, g4⟩
                  have Hbr : Hid (Below w.heap.size w wr) := hbr
                  clear h1 h2 h3 h4 g1 g2 g4 hbr
                  go_wp2_with fail
                  refine Calls.mono HF1.out ?_
                  rintro e w3 ⟨a3, c3, rfl, hg3, hl3⟩
                  obtain ⟨n1, hn1⟩ : ∃ n1, n1 = w3.heap.size := ⟨_, rfl⟩
                  obtain ⟨W4, hW4⟩ : ∃ W4, W4 = w3.alloc (.cells #[.int .i64 x.kind, .int .i64 x.num, .string x.text, .slice a3 x.items.length c3] 24) := ⟨_, rfl⟩
                  have HW4 : Hid (W4 = w3.alloc (.cells #[.int .i64 x.kind, .int .i64 x.num, .string x.text, .slice a3 x.items.length c3] 24)) := hW4
                  have hal : Below w3.heap.size w3 W4 := by rw [hW4]; exact ((Grew.refl _).alloc _).below
                  have hg4 : Below wr.heap.size wr W4 := hg3.trans (hal.mono hg3.size)
                  have HB1 : Hid (Bx W4 n1 x (.slice a3 x.items.length c3)) := by rw [hW4, hn1]; exact bx_alloc _ _ _
                  have HL4 : Hid (Lies 16 W4 x.items (.slice a3 x.items.length c3)) := (hl3.keeps hal).lies
                  have HF2' : Hid _ := HF2.out W4 hg4
                  clear hal hg3 hl3 hW4 HF1 HF2
                  go_upto_region 19 with fail
                  rw [← HW4.out, ← hn1]
                  clear HW4 hn1
                  go_wp2_with fail
                  refine Calls.mono HF2'.out ?_
                  rintro e w5 ⟨rfl, hg5⟩
                  obtain ⟨n2, hn2⟩ : ∃ n2, n2 = w5.heap.size := ⟨_, rfl⟩
                  obtain ⟨W6, hW6⟩ : ∃ W6, W6 = w5.alloc (.cells #[.int .i64 x.kind, .int .i64 x.num, .string x.text, .slice a2 x.items.length c2] 24) := ⟨_, rfl⟩
                  have HW6 : Hid (W6 = w5.alloc (.cells #[.int .i64 x.kind, .int .i64 x.num, .string x.text, .slice a2 x.items.length c2] 24)) := hW6
                  have hal : Below w5.heap.size w5 W6 := by rw [hW6]; exact ((Grew.refl _).alloc _).below
                  have hg6 : Below W4.heap.size W4 W6 := hg5.trans (hal.mono hg5.size)
                  have hg26 : Below wr.heap.size wr W6 := hg4.trans (hg6.mono hg4.size)
                  have HB2 : Hid (Bx W6 n2 x (.slice a2 x.items.length c2)) := by rw [hW6, hn2]; exact bx_alloc _ _ _
                  have HB1' : Hid (Bx W6 n1 x (.slice a3 x.items.length c3)) := HB1.out.keeps hg6
                  have HSm : Hid (Calls Try.prog 21 #[.agg #[.int .i64 x.kind, .int .i64 x.num, .string x.text, .slice a3 x.items.length c3], .agg #[.int .i64 x.kind, .int .i64 x.num, .string x.text, .slice a2 x.items.length c2]] W6 fun e w' => e = .returned (.bool true) ∧ Below W6.heap.size W6 w') := (same_any 16 x x _ _ W6 (Lies.keeps hg6 _ _ _ HL4.out) (Lies.keeps hg26 _ _ _ HT.out.1)).mono fun e w' h => ⟨by rw [h.1, sameV_self], h.2.below⟩
                  have HI2 : Hid (∀ V, Below W6.heap.size W6 V → Below w.heap.size w V ∧ ∃ xs, ChP V xs p1 ∧ ChD V xs p2) := fun V hV => ⟨Hbr.out.trans ((hg26.trans (hV.mono hg26.size)).mono Hbr.out.size), xs, ChP.keeps (hg26.trans (hV.mono hg26.size)) _ _ HT.out.2.1, ChD.keeps (hg26.trans (hV.mono hg26.size)) _ _ HT.out.2.2⟩
                  clear hal hg5 hg6 hg26 hW6 hg4 HF2' HL4 HT Hbr
                  go_upto_region 20 with fail
                  rw [← HW6.out, ← hn2]
                  clear HW6 hn2
                  obtain ⟨y0, y1, y2, y3, _, _, _, _⟩ := HB1'.out
                  obtain ⟨z0, z1, z2, z3, _, _, _, _⟩ := HB2.out
                  have e8 : ((F : Int) != (F : Int)) = false := by simp
                  go_wp2_with fail
                  refine Calls.mono HSm.out ?_
                  rintro e w7 ⟨rfl, hg7⟩
                  have HI3 : Hid _ := HI2.out w7 hg7
                  clear hg7 y0 y1 y2 y3 z0 z1 z2 z3 HSm HB1' HB1 HB2 HI2
                  go_wp2_with fail
                  go_roundg (LL + 1 - (j + 1))
                  case measure => have := Hg.out; omega
                  case rel => exact ⟨j + 1, p1, p2, rfl, rfl, rfl, by omega, rfl, HI3.out⟩
            · have hj5 : ¬ (j : Int) ≤ 500 := by omega
              clear hP hD
              go_wp2_with fail
              refine Calls.mono (HSp.out _) ?_
              rintro e wz ⟨rfl, hgz⟩
              have hbz : Below w.heap.size w wz := hbr.trans (hgz.mono hbr.size)
              clear hgz
              go_wp2_with fail
              go_ret
              exact ⟨rfl, hbz⟩
          · have hji : ¬ (j : Int) ≤ (LL : Int) := by omega
            clear hP hD
            go_wp2_with fail
            refine Calls.mono (HSp.out _) ?_
            rintro e wz ⟨rfl, hgz⟩
            have hbz : Below w.heap.size w wz := hbr.trans (hgz.mono hbr.size)
            clear hgz
            go_wp2_with fail
            go_ret
            exact ⟨rfl, hbz⟩

end Go.Proofs.Ytmmppmioackiaab

