/-
  The walk of ValueOwn.
-/
import Derived.Test.YtlbeepaolacjbabOwns
import Derived.Test.YtlbeepaolacjbabSpoil
import Derived.Test.YtlbeepaolacjbabTold
import Derived.Test.YtlbeepaolacjbabSpeaks
namespace Go.Proofs.Ytlbeepaolacjbab
open Go.RowKit

/-- A value and an error are told, the value in new memory. -/
def TellsB (d : Nat) (a : VT × Int) (w : World) (e : Ending) (w' : World) : Prop :=
  ∃ v, e = .returned (.tuple #[.agg #[.int .i64 a.1.kind, .int .i64 a.1.num, .string a.1.text, v], .int .i64 a.2]) ∧ LiesB w.heap.size (d + 1) w' a.1.items v ∧ Below w.heap.size w w'

theorem tellsB_zero (d : Nat) (n : Int) {w w' : World} (h : Below w.heap.size w w') : TellsB d (zeroT, n) w (.returned (.tuple #[zeroAgg, .int .i64 n])) w' :=
  ⟨.slice none 0 0, rfl, ⟨none, 0, rfl, by simp, fun h => absurd rfl h⟩, h⟩

theorem vset_tellsB (d : Nat) (l : List VT) (a : Option Addr) (c : Nat) (w : World) (hu : Lies (d + 1) w l (.slice a l.length c)) : Calls Try.prog 6 #[.slice a l.length c] w (TellsB d (setA d l) w) := by
  refine (set_anyB d l a c w hu).mono ?_
  rintro e w' ⟨hb, ⟨h0, rfl⟩ | ⟨h0, m, hm, ⟨hf, rfl⟩ | ⟨hf, v, rfl, hL⟩⟩⟩
  · unfold setA
    rw [if_pos h0]
    exact tellsB_zero _ _ hb
  · have hme := members_one hm (setM_members d l (good_list hu (listErr_zero h0).2)) (fun x => Iff.rfl)
    unfold setA
    rw [if_neg (fun h => h h0), ← hme, if_neg (by rw [hf]; simp)]
    exact tellsB_zero _ _ hb
  · have hme := members_one hm (setM_members d l (good_list hu (listErr_zero h0).2)) (fun x => Iff.rfl)
    unfold setA
    rw [if_neg (fun h => h h0), ← hme, if_pos hf]
    exact ⟨v, rfl, hL, hb⟩

theorem vlist_tellsB (d : Nat) (l : List VT) (u : Value) (w : World) (hu : Lies (d + 1) w l u) : Calls Try.prog 5 #[u] w (TellsB d (listA d l) w) := by
  refine (vlist_any d l u w hu).mono ?_
  rintro e w' ⟨hb, ⟨h0, rfl⟩ | ⟨h0, ⟨hf, rfl⟩ | ⟨hf, v, rfl, hL⟩⟩⟩
  · unfold listA
    rw [if_pos h0]
    exact tellsB_zero _ _ hb
  · unfold listA
    rw [if_neg (fun h => h h0), if_neg (by rw [hf]; simp)]
    exact tellsB_zero _ _ hb
  · unfold listA
    rw [if_neg (fun h => h h0), if_pos hf]
    exact ⟨v, rfl, hL, hb⟩

theorem LiesB.keeps {base d : Nat} {w w' : World} {l : List VT} {v : Value} (h : LiesB base d w l v) (hb : Below w.heap.size w w') : LiesB base d w' l v :=
  LiesB.stays (fun _ _ _ hv => ⟨cell_keeps hb hv, hb.frozen (cell_lt hv)⟩) _ _ _ h

set_option maxRecDepth 100000 in
set_option maxHeartbeats 16000000 in
theorem own_walk (d : Nat) (l : List VT) (a : Option Addr) (c : Nat) (w : World) (hu : Lies (d + 1) w l (.slice a l.length c)) (hroom : l.length * 56 ≤ 140737488355328) (hrooms : ∀ x ∈ l, Room d x) :
    Calls Try.prog 3 #[.slice a l.length c] w fun e w' => e = .returned (.bool true) ∧ Below w.heap.size w w' := by
  have hsp : Hid (∀ W : World, Calls Try.prog 9 #[] W fun e W' => e = .returned (.bool true) ∧ Below W.heap.size W W') := speaks_any
  have HL : Hid (Lies (d + 1) w l (.slice a l.length c)) := hu
  have H0 : Hid _ := owns_any d l (.slice a l.length c) w hu hroom hrooms
  have H1 : Hid (∀ W, Lies (d + 1) W l (.slice a l.length c) → Calls Try.prog 5 #[.slice a l.length c] W (TellsB d (listA d l) W)) := fun W h => vlist_tellsB d l _ W h
  have H2 : Hid (∀ W, Lies (d + 1) W l (.slice a l.length c) → Calls Try.prog 6 #[.slice a l.length c] W (TellsB d (setA d l) W)) := fun W h => vset_tellsB d l a c W h
  have H3 : Hid (∀ W, Lies (d + 1) W l (.slice a l.length c) → Calls Try.prog 7 #[.slice a l.length c] W (TellsL d (sortA d l) W)) := fun W h => vsort_tells d l a c W h
  have HVs : Hid (∀ (x y : Value) (W : World), Lies (d + 1) W l x → Lies (d + 1) W l y → Calls Try.prog 8 #[x, y] W fun e W' => e = .returned (.bool true) ∧ Below W.heap.size W W') := fun x y W h1 h2 => values_all d l x y W h1 h2
  generalize listA d l = A at *
  generalize setA d l = B at *
  generalize sortA d l = S at *
  obtain ⟨t, n1⟩ := A
  obtain ⟨r, n2⟩ := B
  obtain ⟨ss, n3⟩ := S
  clear hu hroom hrooms
  go_enter Try.func3, Try.ntmps3
  go_wp2_with fail
  refine Calls.mono H0.out ?_
  rintro e w0 ⟨vk, rfl, hLk, hb0⟩
  obtain ⟨ak, ck, rfl, _⟩ := Lies.slice hLk
  have HK : Hid (Lies (d + 1) w0 l (.slice ak l.length ck)) := hLk
  clear hLk
  go_wp2_with fail
  refine (H1.out _ (Lies.keeps hb0 _ _ _ HL.out)).mono ?_
  rintro e w1 ⟨v1, rfl, hL1, hg1⟩
  obtain ⟨a1, c1, rfl, _⟩ := LiesB.slice hL1
  have hb1 : Below w.heap.size w (w1.alloc (.cells #[.int .i64 t.kind, .int .i64 t.num, .string t.text, .slice a1 t.items.length c1] 25)) := (hb0.trans (hg1.mono hb0.size)).alloc (by have := hb0.size; have := hg1.size; omega) _
  have hk1 : Below w0.heap.size w0 (w1.alloc (.cells #[.int .i64 t.kind, .int .i64 t.num, .string t.text, .slice a1 t.items.length c1] 25)) := hg1.alloc hg1.size _
  have hq1 : Below w1.heap.size w1 (w1.alloc (.cells #[.int .i64 t.kind, .int .i64 t.num, .string t.text, .slice a1 t.items.length c1] 25)) := (Below.refl _ _).alloc (Nat.le_refl _) _
  have hs1 := hg1.size
  have HS1 : Hid (LiesB w0.heap.size (d + 1) w1 t.items (.slice a1 t.items.length c1)) := hL1
  have HB1 : Hid (Bx (w1.alloc (.cells #[.int .i64 t.kind, .int .i64 t.num, .string t.text, .slice a1 t.items.length c1] 25)) w1.heap.size t (.slice a1 t.items.length c1)) := bx_alloc w1 t _
  clear hL1 hg1
  go_wp2_with fail
  refine (H2.out _ (Lies.keeps hb1 _ _ _ HL.out)).mono ?_
  rintro e w2 ⟨v2, rfl, hL2, hg2⟩
  obtain ⟨a2, c2, rfl, _⟩ := LiesB.slice hL2
  have hs2 : w1.heap.size + 1 ≤ w2.heap.size := by have := hg2.size; rwa [World.size_alloc] at this
  have hb2 : Below w.heap.size w (w2.alloc (.cells #[.int .i64 r.kind, .int .i64 r.num, .string r.text, .slice a2 r.items.length c2] 25)) := (hb1.trans (hg2.mono hb1.size)).alloc (by have := hb0.size; omega) _
  have hk2 : Below w0.heap.size w0 (w2.alloc (.cells #[.int .i64 r.kind, .int .i64 r.num, .string r.text, .slice a2 r.items.length c2] 25)) := (hk1.trans (hg2.mono hk1.size)).alloc (by omega) _
  have hq2 : Below w1.heap.size w1 (w2.alloc (.cells #[.int .i64 r.kind, .int .i64 r.num, .string r.text, .slice a2 r.items.length c2] 25)) := (hq1.trans (hg2.mono hq1.size)).alloc (by omega) _
  have hp2 : Below w2.heap.size w2 (w2.alloc (.cells #[.int .i64 r.kind, .int .i64 r.num, .string r.text, .slice a2 r.items.length c2] 25)) := (Below.refl _ _).alloc (Nat.le_refl _) _
  have HS2 : Hid (LiesB (w1.heap.size + 1) (d + 1) w2 r.items (.slice a2 r.items.length c2)) := by have := hL2; rwa [World.size_alloc] at this
  have HB2 : Hid (Bx (w2.alloc (.cells #[.int .i64 r.kind, .int .i64 r.num, .string r.text, .slice a2 r.items.length c2] 25)) w2.heap.size r (.slice a2 r.items.length c2)) := bx_alloc w2 r _
  have HB12 : Hid (Bx (w2.alloc (.cells #[.int .i64 r.kind, .int .i64 r.num, .string r.text, .slice a2 r.items.length c2] 25)) w1.heap.size t (.slice a1 t.items.length c1)) := (HB1.out.keeps hg2).keeps hp2
  clear hL2 hg2 HB1
  go_wp2_with fail
  refine (H3.out _ (Lies.keeps hb2 _ _ _ HL.out)).mono ?_
  rintro e w3 ⟨v3, rfl, hL3, hg3⟩
  obtain ⟨a3, c3, rfl, _⟩ := LiesB.slice hL3
  have hs3 : w2.heap.size + 1 ≤ w3.heap.size := by have := hg3.size; rwa [World.size_alloc] at this
  have hb3 : Below w.heap.size w w3 := hb2.trans (hg3.mono hb2.size)
  have hk3 : Below w0.heap.size w0 w3 := hk2.trans (hg3.mono hk2.size)
  have hq3 : Below w1.heap.size w1 w3 := hq2.trans (hg3.mono hq2.size)
  have hp3 : Below w2.heap.size w2 w3 := hp2.trans (hg3.mono hp2.size)
  have HS3 : Hid (LiesB (w2.heap.size + 1) (d + 1) w3 ss (.slice a3 ss.length c3)) := by have := hL3; rwa [World.size_alloc] at this
  have HB3 : Hid (Bx w3 w2.heap.size r (.slice a2 r.items.length c2)) := HB2.out.keeps hg3
  have HB13 : Hid (Bx w3 w1.heap.size t (.slice a1 t.items.length c1)) := HB12.out.keeps hg3
  have HLl : Hid (Lies (d + 1) w3 l (.slice a l.length c)) := Lies.keeps hb3 _ _ _ HL.out
  have HLk : Hid (Lies (d + 1) w3 l (.slice ak l.length ck)) := Lies.keeps hk3 _ _ _ HK.out
  have hsw := hb0.size
  clear hL3 hg3 HB2 HB12 hb1 hb2 hk1 hk2 hq1 hq2 hp2 hb0 H0 H1 H2 H3
  by_cases h1 : n1 = 0
  · by_cases h2 : n2 = 0
    · by_cases h3 : n3 = 0
      · subst h1 h2 h3
        obtain ⟨X, hX⟩ : ∃ X : Nat → Prop, X = fun b => w0.heap.size ≤ b ∧ b ≠ w1.heap.size ∧ b ≠ w2.heap.size ∧ b < w3.heap.size := ⟨_, rfl⟩
        have HX : Hid (∀ b, X b ↔ w0.heap.size ≤ b ∧ b ≠ w1.heap.size ∧ b ≠ w2.heap.size ∧ b < w3.heap.size) := fun b => by rw [hX]
        clear hX
        have HP1 : Hid (Sp X (d + 1) w3 (.slice a1 t.items.length c1)) := Sp.keeps hq3 _ _ (LiesB.sp (fun b k1 k2 => (HX.out b).2 ⟨k1, by omega, by omega, by omega⟩) _ _ _ HS1.out)
        have HP2 : Hid (Sp X (d + 1) w3 (.slice a2 r.items.length c2)) := Sp.keeps hp3 _ _ (LiesB.sp (fun b k1 k2 => (HX.out b).2 ⟨by omega, by omega, by omega, by omega⟩) _ _ _ HS2.out)
        have HP3 : Hid (Sp X (d + 1) w3 (.slice a3 ss.length c3)) := LiesB.sp (fun b k1 k2 => (HX.out b).2 ⟨by omega, by omega, by omega, by omega⟩) _ _ _ HS3.out
        have HSpo : Hid _ := spoil_any w0.heap.size w3.heap.size X (fun b h => by have := (HX.out b).1 h; omega) (by omega) (d + 1)
        have HSpd : Hid _ := spoil_any w0.heap.size w3.heap.size X (fun b h => by have := (HX.out b).1 h; omega) (by omega) d
        clear HS1 HS2 HS3
        obtain ⟨x0, x1, x2, x3, _, _, _, _⟩ := HB13.out
        go_wp2_with fail
        refine (HSpo.out t.kind t.num t.text _ _ (Nat.le_refl _) HP1.out).mono ?_
        rintro e w4 ⟨rfl, hs4⟩
        have HT4 : Hid (Spt w0.heap.size X w3 w4) := hs4
        have y0 := hs4.cell (fun h => by have := (HX.out _).1 h; simp at this) HB3.out.c0
        have y1 := hs4.cell (fun h => by have := (HX.out _).1 h; simp at this) HB3.out.c1
        have y2 := hs4.cell (fun h => by have := (HX.out _).1 h; simp at this) HB3.out.c2
        have y3 := hs4.cell (fun h => by have := (HX.out _).1 h; simp at this) HB3.out.c3
        clear hs4 x0 x1 x2 x3
        go_wp2_with fail
        refine (HSpo.out r.kind r.num r.text _ _ HT4.out.below.size (HT4.out.keeps _ _ HP2.out)).mono ?_
        rintro e w5 ⟨rfl, hs5⟩
        have HT5 : Hid (Spt w0.heap.size X w3 w5) := HT4.out.trans hs5
        clear hs5 y0 y1 y2 y3 HT4
        go_wp2_with fail
        go_loopg [50] ss.length (fun z i wr => ∃ (j : Nat), i = .int .i64 (j : Int) ∧ j ≤ ss.length ∧ z = ss.length - j ∧ Hid (Spt w0.heap.size X w3 wr))
        case atStart => exact ⟨0, rfl, by omega, by omega, HT5⟩
        case round =>
          obtain ⟨j, rfl, hj, hk, HM⟩ := hrel
          have Hk : Hid _ := hk
          clear hk HT5
          by_cases hlt : j < ss.length
          · obtain ⟨b, rfl⟩ := Sp.addr HP3.out (by omega)
            obtain ⟨hxb, k1, m1, s1, au, nu, cu, z0, z1, z2, z3, _, hu1⟩ := Sp.row (HM.out.keeps _ _ HP3.out) j hlt
            have Hxb : Hid (X b) := hxb
            have HU : Hid (Sp X d wr (.slice au nu cu)) := hu1
            have hbb : w0.heap.size ≤ b := ((HX.out b).1 hxb).1
            clear hu1 hxb
            have hji : (j : Int) < (ss.length : Nat) := by omega
            go_wp2_with fail
            refine (HSpd.out k1 m1 s1 _ _ HM.out.below.size HU.out).mono ?_
            rintro e w6 ⟨rfl, hs6⟩
            have HT6 : Hid (Spt w0.heap.size X w3 w6) := HM.out.trans hs6
            clear hs6 z0 z1 z2 z3 HU HM
            obtain ⟨_, k2, m2, s2, a4, n4, c4, z0, z1, z2, z3, ⟨f0, f1, f2, f3⟩, _⟩ := Sp.row (HT6.out.keeps _ _ HP3.out) j hlt
            have HN : Hid (Spt w0.heap.size X w3 (w6.setCells b (j * 4) (encP (zeroT, .slice none 0 0)))) := HT6.out.put b j hbb Hxb.out zeroT
            go_wp2_with fail
            go_roundg (ss.length - (j + 1))
            case measure => have := Hk.out; omega
            case rel => exact ⟨j + 1, by go_num, by omega, rfl, HN⟩
          · have hb3 : Below w.heap.size w wr := hb3.trans (HM.out.below.mono hsw)
            have HLl : Hid (Lies (d + 1) wr l (.slice a l.length c)) := Lies.keeps hb3 _ _ _ HL.out
            have HLk : Hid (Lies (d + 1) wr l (.slice ak l.length ck)) := Lies.keeps (hk3.trans HM.out.below) _ _ _ HK.out
            go_wp2_with fail
            refine (HVs.out _ _ _ HLl.out HLk.out).mono ?_
            rintro e w7 ⟨rfl, hg7⟩
            have hb7 : Below w.heap.size w w7 := hb3.trans (hg7.mono hb3.size)
            clear hg7
            go_wp2_with fail
            refine (hsp.out _).mono ?_
            rintro e w8 ⟨rfl, hg8⟩
            have hb8 : Below w.heap.size w w8 := hb7.trans (hg8.mono hb7.size)
            go_wp2_with fail
            go_ret
            exact ⟨rfl, hb8⟩
      · subst h1 h2
        have h3' : (n3 != 0) = true := by simpa using h3
        go_wp2_with fail
        refine (HVs.out _ _ _ HLl.out HLk.out).mono ?_
        rintro e w7 ⟨rfl, hg7⟩
        have hb7 : Below w.heap.size w w7 := hb3.trans (hg7.mono hb3.size)
        clear hg7
        go_wp2_with fail
        refine (hsp.out _).mono ?_
        rintro e w8 ⟨rfl, hg8⟩
        have hb8 : Below w.heap.size w w8 := hb7.trans (hg8.mono hb7.size)
        go_wp2_with fail
        go_ret
        exact ⟨rfl, hb8⟩
    · subst h1
      have h2' : (n2 != 0) = true := by simpa using h2
      go_wp2_with fail
      refine (HVs.out _ _ _ HLl.out HLk.out).mono ?_
      rintro e w7 ⟨rfl, hg7⟩
      have hb7 : Below w.heap.size w w7 := hb3.trans (hg7.mono hb3.size)
      clear hg7
      go_wp2_with fail
      refine (hsp.out _).mono ?_
      rintro e w8 ⟨rfl, hg8⟩
      have hb8 : Below w.heap.size w w8 := hb7.trans (hg8.mono hb7.size)
      go_wp2_with fail
      go_ret
      exact ⟨rfl, hb8⟩
  · have h1' : (n1 != 0) = true := by simpa using h1
    go_wp2_with fail
    refine (HVs.out _ _ _ HLl.out HLk.out).mono ?_
    rintro e w7 ⟨rfl, hg7⟩
    have hb7 : Below w.heap.size w w7 := hb3.trans (hg7.mono hb3.size)
    clear hg7
    go_wp2_with fail
    refine (hsp.out _).mono ?_
    rintro e w8 ⟨rfl, hg8⟩
    have hb8 : Below w.heap.size w w8 := hb7.trans (hg8.mono hb7.size)
    go_wp2_with fail
    go_ret
    exact ⟨rfl, hb8⟩

end Go.Proofs.Ytlbeepaolacjbab
