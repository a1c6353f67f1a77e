/-
  The document's Empty and Cons; chains of known cells on both sides.
-/
import Derived.Test.YteibdkkmaalpbabRApi
namespace Go.Proofs.Yteibdkkmaalpbab
open Go.RowKit Go.Shelf

set_option maxRecDepth 100000 in
set_option maxHeartbeats 4000000 in
theorem rempty_any (w : World) : Calls Try.prog 15 #[] w fun e w' => e = .returned (.pointer (some ⟨w.heap.size, 0, none⟩)) ∧ Below w.heap.size w w' ∧ DB w' w.heap.size true false zeroT (.slice none 0 0) none 0 0 zeroT (.slice none 0 0) := by
  have HE : Hid (Below w.heap.size w (w.alloc (.cells #[.bool true, .bool false, .int .i64 0, .int .i64 0, .string ⟨#[]⟩, .slice none 0 0, .pointer none, .int .i64 0, .int .i64 0, .int .i64 0, .int .i64 0, .int .i64 0, .string ⟨#[]⟩, .slice none 0 0, .slice none 0 0, .slice none 0 0] 66)) ∧ DB (w.alloc (.cells #[.bool true, .bool false, .int .i64 0, .int .i64 0, .string ⟨#[]⟩, .slice none 0 0, .pointer none, .int .i64 0, .int .i64 0, .int .i64 0, .int .i64 0, .int .i64 0, .string ⟨#[]⟩, .slice none 0 0, .slice none 0 0, .slice none 0 0] 66)) w.heap.size true false zeroT (.slice none 0 0) none 0 0 zeroT (.slice none 0 0)) := ⟨((Grew.refl _).alloc _).below, db_alloc w 66 true false zeroT (.slice none 0 0) none 0 0 zeroT (.slice none 0 0)⟩
  go_enter Try.func15, Try.ntmps15
  go_wp2_with fail
  go_ret
  exact ⟨rfl, HE.out⟩

set_option maxRecDepth 100000 in
set_option maxHeartbeats 8000000 in
theorem rcons_ok (v : VT) (a : Option Addr) (c b : Nat) (w : World) (hu : Lies 16 w v.items (.slice a v.items.length c)) (hr : rightV 16 v = true) :
    Calls Try.prog 17 #[.agg #[.int .i64 v.kind, .int .i64 v.num, .string v.text, .slice a v.items.length c], .pointer (some ⟨b, 0, none⟩)] w fun e w' => Below w.heap.size w w' ∧ ∃ d, e = .returned (.tuple #[.pointer (some ⟨d, 0, none⟩), .int .i64 0]) ∧ DB w' d true true v (.slice a v.items.length c) (some ⟨b, 0, none⟩) 0 0 zeroT (.slice none 0 0) := by
  obtain ⟨W0, hW0⟩ : ∃ W0, W0 = w.alloc (.cells #[.int .i64 v.kind, .int .i64 v.num, .string v.text, .slice a v.items.length c] 24) := ⟨_, rfl⟩
  have HW0 : Hid (W0 = w.alloc (.cells #[.int .i64 v.kind, .int .i64 v.num, .string v.text, .slice a v.items.length c] 24)) := hW0
  have hb0 : Below w.heap.size w W0 := by rw [hW0]; exact ((Grew.refl _).alloc _).below
  have HK : Hid (Bx W0 w.heap.size v (.slice a v.items.length c)) := by rw [hW0]; exact bx_alloc _ _ _
  have HRi : Hid (Calls Try.prog 27 #[.agg #[.int .i64 v.kind, .int .i64 v.num, .string v.text, .slice a v.items.length c]] W0 fun e w' => e = .returned (.bool true) ∧ Below W0.heap.size W0 w') := by
    have h9 := right_any 16 v _ W0 (Lies.keeps hb0 _ _ _ hu)
    rw [hr] at h9
    exact h9
  obtain ⟨k0, k1, k2, k3, _, _, _, _⟩ := HK.out
  clear hW0 hu hr HK
  go_enter Try.func17, Try.ntmps17
  go_upto_region 1 with fail
  rw [← HW0.out]
  clear HW0
  go_wp2_with fail
  refine Calls.mono HRi.out ?_
  rintro e w1 ⟨rfl, hg1⟩
  have hb1 : Below w.heap.size w w1 := hb0.trans (hg1.mono hb0.size)
  have k0 := cell_keeps hg1 k0; have k1 := cell_keeps hg1 k1; have k2 := cell_keeps hg1 k2; have k3 := cell_keeps hg1 k3
  have HE : Hid (Below w.heap.size w (w1.alloc (.cells #[.bool true, .bool true, .int .i64 v.kind, .int .i64 v.num, .string v.text, .slice a v.items.length c, .pointer (some ⟨b, 0, none⟩), .int .i64 0, .int .i64 0, .int .i64 0, .int .i64 0, .int .i64 0, .string ⟨#[]⟩, .slice none 0 0, .slice none 0 0, .slice none 0 0] 66)) ∧ DB (w1.alloc (.cells #[.bool true, .bool true, .int .i64 v.kind, .int .i64 v.num, .string v.text, .slice a v.items.length c, .pointer (some ⟨b, 0, none⟩), .int .i64 0, .int .i64 0, .int .i64 0, .int .i64 0, .int .i64 0, .string ⟨#[]⟩, .slice none 0 0, .slice none 0 0, .slice none 0 0] 66)) w1.heap.size true true v (.slice a v.items.length c) (some ⟨b, 0, none⟩) 0 0 zeroT (.slice none 0 0)) := ⟨hb1.trans (((Grew.refl w1).alloc _).below.mono hb1.size), db_alloc w1 66 true true v (.slice a v.items.length c) (some ⟨b, 0, none⟩) 0 0 zeroT (.slice none 0 0)⟩
  clear hg1 HRi hb1 hb0
  go_wp2_with fail
  refine bodyPost_ret (v := .tuple #[.pointer (some ⟨w1.heap.size, 0, none⟩), .int .i64 0]) ?_ rfl ⟨HE.out.1, _, rfl, HE.out.2⟩
  simp [results, Try.results17, go_sem]

set_option maxRecDepth 100000 in
set_option maxHeartbeats 8000000 in
theorem rcons_wrong (d : Nat) (v : VT) (a : Option Addr) (c : Nat) (p : Option Addr) (w : World) (hu : Lies d w v.items (.slice a v.items.length c)) (hr : rightV d v = false) :
    Calls Try.prog 17 #[.agg #[.int .i64 v.kind, .int .i64 v.num, .string v.text, .slice a v.items.length c], .pointer p] w fun e w' => e = .returned (.tuple #[.pointer none, .int .i64 3]) ∧ Below w.heap.size w w' := by
  obtain ⟨W0, hW0⟩ : ∃ W0, W0 = w.alloc (.cells #[.int .i64 v.kind, .int .i64 v.num, .string v.text, .slice a v.items.length c] 24) := ⟨_, rfl⟩
  have HW0 : Hid (W0 = w.alloc (.cells #[.int .i64 v.kind, .int .i64 v.num, .string v.text, .slice a v.items.length c] 24)) := hW0
  have hb0 : Below w.heap.size w W0 := by rw [hW0]; exact ((Grew.refl _).alloc _).below
  have HK : Hid (Bx W0 w.heap.size v (.slice a v.items.length c)) := by rw [hW0]; exact bx_alloc _ _ _
  have HRi : Hid (Calls Try.prog 27 #[.agg #[.int .i64 v.kind, .int .i64 v.num, .string v.text, .slice a v.items.length c]] W0 fun e w' => e = .returned (.bool false) ∧ Below W0.heap.size W0 w') := by
    have h9 := right_any d v _ W0 (Lies.keeps hb0 _ _ _ hu)
    rw [hr] at h9
    exact h9
  obtain ⟨k0, k1, k2, k3, _, _, _, _⟩ := HK.out
  clear hW0 hu hr HK
  go_enter Try.func17, Try.ntmps17
  go_upto_region 1 with fail
  rw [← HW0.out]
  clear HW0
  go_wp2_with fail
  refine Calls.mono HRi.out ?_
  rintro e w1 ⟨rfl, hg1⟩
  have hb1 : Below w.heap.size w w1 := hb0.trans (hg1.mono hb0.size)
  clear hg1 HRi hb0 k0 k1 k2 k3
  go_wp2_with fail
  refine bodyPost_ret (v := .tuple #[.pointer none, .int .i64 3]) ?_ rfl ⟨rfl, hb1⟩
  simp [results, Try.results17, go_sem]

/-- The program's chain of known cells. -/
def ChP (w : World) : List VT → Nat → Prop
  | [], b => CB w b .nilIface 0 zeroT (.slice none 0 0) none
  | x :: xs, b => ∃ a c b', CB w b .nilIface 0 x (.slice a x.items.length c) (some ⟨b', 0, none⟩) ∧ Lies 16 w x.items (.slice a x.items.length c) ∧ rightV 16 x = true ∧ ChP w xs b'

/-- The document's. -/
def ChD (w : World) : List VT → Nat → Prop
  | [], b => DB w b true false zeroT (.slice none 0 0) none 0 0 zeroT (.slice none 0 0)
  | x :: xs, b => ∃ a c b', DB w b true true x (.slice a x.items.length c) (some ⟨b', 0, none⟩) 0 0 zeroT (.slice none 0 0) ∧ Lies 16 w x.items (.slice a x.items.length c) ∧ ChD w xs b'

theorem ChP.keeps {w w' : World} (hb : Below w.heap.size w w') : ∀ (xs : List VT) (b : Nat), ChP w xs b → ChP w' xs b
  | [], _, h => CB.keeps h hb
  | _ :: xs, _, ⟨a, c, b', h1, h2, h3, h4⟩ => ⟨a, c, b', h1.keeps hb, Lies.keeps hb _ _ _ h2, h3, ChP.keeps hb xs b' h4⟩

theorem ChD.keeps {w w' : World} (hb : Below w.heap.size w w') : ∀ (xs : List VT) (b : Nat), ChD w xs b → ChD w' xs b
  | [], _, h => DB.keeps h hb
  | _ :: xs, _, ⟨a, c, b', h1, h2, h4⟩ => ⟨a, c, b', h1.keeps hb, Lies.keeps hb _ _ _ h2, ChD.keeps hb xs b' h4⟩

theorem ChP.c0 {w : World} : ∀ {xs : List VT} {b : Nat}, ChP w xs b → w.cell? ⟨b, 0, none⟩ = some .nilIface
  | [], _, h => CB.c0 h
  | _ :: _, _, ⟨_, _, _, h1, _⟩ => h1.c0

theorem ChP.way {w : World} : ∀ (xs : List VT) (b : Nat), ChP w xs b → ∃ P : Nat → Nat, P 0 = b ∧ (∀ i, i < xs.length → w.cell? ⟨P i, 6, none⟩ = some (.pointer (some ⟨P (i + 1), 0, none⟩))) ∧ w.cell? ⟨P xs.length, 6, none⟩ = some (.pointer none)
  | [], b, h => ⟨fun _ => b, rfl, fun i hi => absurd hi (by simp), CB.c6 h⟩
  | _ :: xs, b, ⟨a, c, b', h1, _, _, h4⟩ => by
    obtain ⟨P, hP, h5, h6⟩ := ChP.way xs b' h4
    refine ⟨fun i => match i with | 0 => b | i + 1 => P i, rfl, fun i hi => ?_, h6⟩
    cases i with
    | zero => simp only [hP]; exact h1.c6
    | succ i => exact h5 i (by simpa using hi)

theorem ChP.len {w : World} {xs : List VT} {b : Nat} (h : ChP w xs b) : Calls Try.prog 12 #[.pointer (some ⟨b, 0, none⟩)] w fun e w' => e = .returned (.int .i64 ((min xs.length 65536 : Nat) : Int)) ∧ w' = w := by
  obtain ⟨P, rfl, h1, h2⟩ := ChP.way xs b h
  exact known_len _ P xs.length w w (own_some22 _ w) h1 h2

theorem ChD.way {w : World} : ∀ (xs : List VT) (b : Nat), ChD w xs b → ∃ Q : Nat → Nat, Q 0 = b ∧ (∀ i, i < xs.length → w.cell? ⟨Q i, 0, none⟩ = some (.bool true) ∧ w.cell? ⟨Q i, 1, none⟩ = some (.bool true) ∧ w.cell? ⟨Q i, 6, none⟩ = some (.pointer (some ⟨Q (i + 1), 0, none⟩))) ∧ w.cell? ⟨Q xs.length, 0, none⟩ = some (.bool true) ∧ w.cell? ⟨Q xs.length, 1, none⟩ = some (.bool false)
  | [], b, h => ⟨fun _ => b, rfl, fun i hi => absurd hi (by simp), DB.c0 h, DB.c1 h⟩
  | _ :: xs, b, ⟨a, c, b', h1, _, h4⟩ => by
    obtain ⟨P, hP, h5, h6⟩ := ChD.way xs b' h4
    refine ⟨fun i => match i with | 0 => b | i + 1 => P i, rfl, fun i hi => ?_, h6⟩
    cases i with
    | zero => simp only [hP]; exact ⟨h1.c0, h1.c1, h1.c6⟩
    | succ i => exact h5 i (by simpa using hi)

set_option maxRecDepth 100000 in
set_option maxHeartbeats 4000000 in
theorem rknown_end (Q : Nat → Nat) (k : Nat) (w : World) (hk : ∀ i, i < k → w.cell? ⟨Q i, 0, none⟩ = some (.bool true) ∧ w.cell? ⟨Q i, 1, none⟩ = some (.bool true) ∧ w.cell? ⟨Q i, 6, none⟩ = some (.pointer (some ⟨Q (i + 1), 0, none⟩))) (hz : w.cell? ⟨Q k, 0, none⟩ = some (.bool true) ∧ w.cell? ⟨Q k, 1, none⟩ = some (.bool false)) :
    Calls Try.prog 13 #[.pointer (some ⟨Q 0, 0, none⟩)] w fun e w' => e = .returned (.int .i64 ((min k 65536 : Nat) : Int)) ∧ w' = w := by
  have HR : Hid (∀ i, i < k → w.cell? ⟨Q i, 0, none⟩ = some (.bool true) ∧ w.cell? ⟨Q i, 1, none⟩ = some (.bool true) ∧ w.cell? ⟨Q i, 6, none⟩ = some (.pointer (some ⟨Q (i + 1), 0, none⟩))) := hk
  have HZ : Hid (w.cell? ⟨Q k, 0, none⟩ = some (.bool true) ∧ w.cell? ⟨Q k, 1, none⟩ = some (.bool false)) := hz
  obtain ⟨M, hM⟩ : ∃ M, M = min k 65536 := ⟨_, rfl⟩
  have HM : Hid (M = min k 65536) := hM
  rw [← hM]
  clear hk hz hM
  go_enter Try.func13, Try.ntmps13
  go_wp2_with fail
  go_loopg [0, 3] k (fun g at_ n wr => ∃ j : Nat, n = .int .i64 (j : Int) ∧ at_ = .pointer (some ⟨Q j, 0, none⟩) ∧ j ≤ k ∧ j ≤ 65536 ∧ g = k - j ∧ wr = w)
  case atStart => exact ⟨0, rfl, rfl, by omega, by omega, by omega, rfl⟩
  case round =>
    obtain ⟨j, rfl, rfl, hj, hj2, hg, rfl⟩ := hrel
    have Hg : Hid _ := hg
    clear hg
    by_cases h65 : j < 65536
    · have hji : (j : Int) < 65536 := by omega
      by_cases hlt : j < k
      · obtain ⟨c0, c1, c6⟩ := HR.out j hlt
        have e1 : IntKind.i64.wrap ((j : Int) + 1) = ((j + 1 : Nat) : Int) := by rw [IntKind.wrap_i64]; omega
        go_wp2_with fail
        go_roundg (k - (j + 1))
        case measure => have := Hg.out; omega
        case rel => exact ⟨j + 1, rfl, rfl, by omega, by omega, rfl, rfl⟩
      · obtain rfl : j = k := by omega
        obtain ⟨c0, c1⟩ := HZ.out
        have hjM : M = j := by have := HM.out; omega
        subst hjM
        go_wp2_with fail
        go_ret
        exact ⟨rfl, rfl⟩
    · have hji : ¬ (j : Int) < 65536 := by omega
      have hjM : M = j := by have := HM.out; omega
      subst hjM
      go_wp2_with fail
      go_ret
      exact ⟨rfl, rfl⟩

theorem ChD.len {w : World} {xs : List VT} {b : Nat} (h : ChD w xs b) : Calls Try.prog 13 #[.pointer (some ⟨b, 0, none⟩)] w fun e w' => e = .returned (.int .i64 ((min xs.length 65536 : Nat) : Int)) ∧ w' = w := by
  obtain ⟨Q, rfl, h1, h2⟩ := ChD.way xs b h
  exact rknown_end Q xs.length w h1 h2

set_option maxRecDepth 100000 in
set_option maxHeartbeats 8000000 in
theorem rforce_empty (b : Nat) (f : Int) (w : World) (h : DB w b true false zeroT (.slice none 0 0) none 0 0 zeroT (.slice none 0 0)) :
    Calls Try.prog 31 #[.pointer (some ⟨b, 0, none⟩), .int .i64 f] w (FNil f 0 w) := by
  obtain ⟨W0, hW0⟩ : ∃ W0, W0 = zbox w := ⟨_, rfl⟩
  have HW0 : Hid (W0 = w.alloc (.cells #[.int .i64 0, .int .i64 0, .string ⟨#[]⟩, .slice none 0 0] 24)) := hW0
  have hb0 : Below w.heap.size w W0 := by rw [hW0]; exact zbox_below w
  have HZ : Hid (Bx W0 w.heap.size zeroT (.slice none 0 0)) := by rw [hW0]; exact zbox_bx w
  have k0 := (h.keeps hb0).c0
  have k1 := (h.keeps hb0).c1
  obtain ⟨z0, z1, z2, z3, g0, g1, g2, g3⟩ := HZ.out
  have HE : Hid (FNil f 0 w (.returned (.tuple #[.agg #[.int .i64 0, .int .i64 0, .string ⟨#[]⟩, .slice none 0 0], .pointer none, .bool false, .int .i64 f, .int .i64 0])) (W0.setCells w.heap.size 0 (encP (zeroT, .slice none 0 0)))) := ⟨none, 0, rfl, (((hb0.setCell (p := ⟨w.heap.size, 0, none⟩) (by simp) _).setCell (p := ⟨w.heap.size, 0 + 1, none⟩) (by simp) _).setCell (p := ⟨w.heap.size, 0 + 1 + 1, none⟩) (by simp) _).setCell (p := ⟨w.heap.size, 0 + 1 + 1 + 1, none⟩) (by simp) _⟩
  have Hq : Hid (Bx (W0.setCells w.heap.size 0 (encP (zeroT, .slice none 0 0))) w.heap.size zeroT (.slice none 0 0)) := HZ.out.put (zeroT, .slice none 0 0)
  clear hW0 h hb0
  go_enter Try.func31, Try.ntmps31
  go_upto_region 1 with fail
  rw [← HW0.out]
  clear HW0
  go_wp2_with fail
  refine bodyPost_ret (v := .tuple #[.agg #[.int .i64 0, .int .i64 0, .string ⟨#[]⟩, .slice none 0 0], .pointer none, .bool false, .int .i64 f, .int .i64 0]) ?_ rfl HE.out
  obtain ⟨q0, q1, q2, q3, _, _, _, _⟩ := Hq.out
  simp only [World.setCells, encP, Nat.zero_add, Nat.reduceAdd] at q0 q1 q2 q3
  simp [results, Try.results31, go_sem, q0, q1, q2, q3]

theorem rForce_empty (b f : Nat) (hf : f ≤ 1073741824) (w : World) (h : DB w b true false zeroT (.slice none 0 0) none 0 0 zeroT (.slice none 0 0)) :
    Calls Try.prog 20 #[.pointer (some ⟨b, 0, none⟩), .int .i64 (f : Int)] w (FNil f 0 w) := by
  have h1 := rforce_empty b f (zbox w) (h.keeps (zbox_below w))
  have h2 := rForce_of b f hf (fun x a c p t l E w2 => x = zeroT ∧ p = none ∧ t = false ∧ l = (f : Int) ∧ E = 0 ∧ Below (zbox w).heap.size (zbox w) w2) w (Calls.mono h1 fun e w2 hp => by
    obtain ⟨a, c, he, hb⟩ := hp
    exact ⟨zeroT, a, c, none, false, f, 0, he, ⟨rfl, rfl, rfl, rfl, rfl, hb⟩, (zbox_bx w).keeps hb⟩)
  refine Calls.mono h2 ?_
  rintro e w' ⟨x, a, c, p, t, l, E, rfl, w2, ⟨rfl, rfl, rfl, rfl, rfl, hb⟩, hk⟩
  have hb2 : Below w.heap.size w w2 := (zbox_below w).trans (hb.mono (zbox_below w).size)
  exact ⟨a, c, rfl, hb2.trans (hk.below (fun j hj => by omega) hb2.size)⟩

theorem rForce_known (b f q : Nat) (kd : Int) (hf : f ≤ 1073741824) (x z : VT) (uz : Value) (a : Option Addr) (c : Nat) (p : Option Addr) (w : World) (h : DB w b true true x (.slice a x.items.length c) p kd q z uz) :
    Calls Try.prog 20 #[.pointer (some ⟨b, 0, none⟩), .int .i64 (f : Int)] w (RK x a c p f w) := by
  have h1 := rforce_known b q f kd x z uz a c p (zbox w) (h.keeps (zbox_below w))
  have h2 := rForce_of b f hf (fun x' a' c' p' t l E w2 => x' = x ∧ a' = a ∧ c' = c ∧ p' = p ∧ t = true ∧ l = (f : Int) ∧ E = 0 ∧ Below (zbox w).heap.size (zbox w) w2) w (Calls.mono h1 fun e w2 hp => ⟨x, a, c, p, true, f, 0, hp.1, ⟨rfl, rfl, rfl, rfl, rfl, rfl, rfl, hp.2⟩, (zbox_bx w).keeps hp.2⟩)
  refine Calls.mono h2 ?_
  rintro e w' ⟨x', a', c', p', t, l, E, rfl, w2, ⟨rfl, rfl, rfl, rfl, rfl, rfl, rfl, hb⟩, hk⟩
  have hb2 : Below w.heap.size w w2 := (zbox_below w).trans (hb.mono (zbox_below w).size)
  exact ⟨rfl, hb2.trans (hk.below (fun j hj => by omega) hb2.size)⟩

end Go.Proofs.Yteibdkkmaalpbab

