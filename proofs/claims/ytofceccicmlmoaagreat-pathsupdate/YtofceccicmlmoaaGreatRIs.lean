/-
  The contracts of the document's Kind, Asked and Is.
-/
import Derived.Test.YtofceccicmlmoaaGreatWalkT
import Derived.Test.YtofceccicmlmoaaGreatUtf
import Derived.Test.YtofceccicmlmoaaGreatRotate
import Derived.Deep.RegionHeld3
namespace Go.Proofs.YtofceccicmlmoaaGreat
open Go.RowKit Go.Shelf

theorem egPl1 : ∀ args w, (callFunc 51 args).run Tryz.prog w = .ok (.enter 51 args) w := enters_of Tryz.func51 (by kernel_rfl) rfl
theorem egVC : ∀ args w, (callFunc 52 args).run Tryz.prog w = .ok (.enter 52 args) w := enters_of Tryz.func52 (by kernel_rfl) rfl

set_option maxRecDepth 100000 in
set_option maxHeartbeats 4000000 in
/-- sort.Find with a closure that only looks. -/
theorem find_any (n : Nat) (hn : n ≤ 65536) (B1 B2 : Nat) (g : Nat → Int) (w : World) (K : Nat) (hK : K ≤ n) (hlo : Hid (∀ i, i < n → i < K → 0 < g i)) (hhi : Hid (∀ i, i < n → K ≤ i → g i ≤ 0)) (F : Bool) (hF : Hid (F = (decide (K < n) && (g K == 0))))
    (hc : Hid (∀ (i : Nat) (W : World), i < n → Below w.heap.size w W → Calls Tryz.prog 51 #[.int .i64 (i : Int), .pointer (some ⟨B1, 0, none⟩), .pointer (some ⟨B2, 0, none⟩)] W fun e W' => e = .returned (.int .i64 (g i)) ∧ Below W.heap.size W W')) :
    Calls Tryz.prog 50 #[.int .i64 (n : Int), .func (.func 51) #[] #[.pointer (some ⟨B1, 0, none⟩), .pointer (some ⟨B2, 0, none⟩)]] w fun e w' => e = .returned (.tuple #[.int .i64 (K : Int), .bool F]) ∧ Below w.heap.size w w' := by
  have eg := egPl1
  go_enter Tryz.func50, Tryz.ntmps50
  go_wp2_with fail
  go_loopg [4, 6] n (fun q i j wr => ∃ a e : Nat, i = .int .i64 (a : Int) ∧ j = .int .i64 (e : Int) ∧ q = e - a ∧ a ≤ K ∧ K ≤ e ∧ e ≤ n ∧ Below w.heap.size w wr)
  case atStart => exact ⟨0, n, rfl, rfl, by omega, by omega, hK, Nat.le_refl _, Below.refl _ _⟩
  case round =>
    obtain ⟨a, e, rfl, rfl, hq, haK, hKe, hen, hbw⟩ := hrel
    have Hq : Hid _ := hq
    clear hq
    by_cases hlt : a < e
    · obtain ⟨h, hh⟩ : ∃ h, h = (a + e) / 2 := ⟨_, rfl⟩
      have Hh : Hid (h = (a + e) / 2) := hh
      have hl1 : h < n := by omega
      have hlti : (a : Int) < (e : Int) := by omega
      have hd : ((a : Int) + (e : Int)) / 2 = (h : Int) := by omega
      clear hh
      have HC := hc.out h wr hl1 hbw
      have HC2 : Hid (Calls Tryz.prog 51 #[.int .i64 (h : Int), .pointer (some ⟨B1, 0, none⟩), .pointer (some ⟨B2, 0, none⟩)] wr fun e W' => e = .returned (.int .i64 (g h)) ∧ Below wr.heap.size wr W') := HC
      have Hlo : Hid (h < K → 0 < g h) := fun hk => hlo.out h hl1 hk
      have Hhi : Hid (K ≤ h → g h ≤ 0) := fun hk => hhi.out h hl1 hk
      clear HC
      generalize g h = Z at *
      go_wp2_with (go_at_fn 51; refine Calls.mono HC2.out ?_; rintro e w4 ⟨rfl, hb4⟩; fail)
      go_at_fn 51
      refine Calls.mono HC2.out ?_
      rintro ee w4 ⟨rfl, hb4⟩
      have hb5 : Below w.heap.size w w4 := hbw.trans (hb4.mono hbw.size)
      clear hb4 hbw HC2
      by_cases hz : 0 < Z
      · have hhK : h < K := by
          by_cases hk : h < K
          · exact hk
          · have := Hhi.out (by omega); omega
        go_wp2_with fail
        go_roundg (e - (h + 1))
        case measure => have := Hq.out; have := Hh.out; omega
        case rel => exact ⟨h + 1, e, by go_num, rfl, rfl, by omega, hKe, hen, hb5⟩
      · have hhK : K ≤ h := by
          by_cases hk : h < K
          · exact absurd (Hlo.out hk) hz
          · omega
        go_wp2_with fail
        go_roundg (h - a)
        case measure => have := Hq.out; have := Hh.out; omega
        case rel => exact ⟨a, h, rfl, by go_num, rfl, haK, hhK, by have := Hh.out; omega, hb5⟩
    · have haK2 : a = K := by omega
      have hnlt : ¬ (a : Int) < (e : Int) := by omega
      subst haK2
      by_cases hend : a < n
      · have hendi : (a : Int) < (n : Int) := by omega
        have HFx : Hid (F = (g a == 0)) := by
          show _ = _
          rw [hF.out, decide_eq_true hend]; rfl
        have HC2 : Hid (Calls Tryz.prog 51 #[.int .i64 (a : Int), .pointer (some ⟨B1, 0, none⟩), .pointer (some ⟨B2, 0, none⟩)] wr fun e W' => e = .returned (.int .i64 (g a)) ∧ Below wr.heap.size wr W') := hc.out a wr hend hbw
        clear hlo hhi hF hc
        generalize g a = Z at *
        go_wp2_with (go_at_fn 51; refine Calls.mono HC2.out ?_; rintro e w4 ⟨rfl, hb4⟩; fail)
        go_at_fn 51
        refine Calls.mono HC2.out ?_
        rintro ee w4 ⟨rfl, hb4⟩
        have hb5 : Below w.heap.size w w4 := hbw.trans (hb4.mono hbw.size)
        clear hb4 hbw HC2
        go_wp2_with fail
        go_ret2
        exact ⟨by rw [HFx.out]; rfl, hb5⟩
      · have hendi : ¬ (a : Int) < (n : Int) := by omega
        have HFx : Hid (F = false) := by
          show _ = _
          rw [hF.out, decide_eq_false hend]; rfl
        clear hlo hhi hF hc
        go_wp2_with fail
        go_ret2
        exact ⟨by rw [HFx.out]; rfl, hbw⟩

set_option maxRecDepth 100000 in
set_option maxHeartbeats 4000000 in
/-- The closure of place: how s stands to a key. -/
theorem place1_any (t s : VT) (l : List VT) (B1 B2 i : Nat) (ax : Option Addr) (lx cx : Nat) (u : Value) (w : World) (hs : Bx w B1 s (.slice ax lx cx)) (ht : Bx w B2 t u) (hls : Lies 16 w s.items (.slice ax lx cx)) (hlt : Lies 17 w l u) (k : Nat) (hk : k = 2 * i) (hi : k < l.length) (hn : l.length ≤ 65536) :
    Calls Tryz.prog 51 #[.int .i64 (i : Int), .pointer (some ⟨B1, 0, none⟩), .pointer (some ⟨B2, 0, none⟩)] w fun e w' => e = .returned (.int .i64 (cmpV 16 s l[k])) ∧ Below w.heap.size w w' := by
  obtain ⟨a, c, rfl, hb, hr⟩ := hlt
  obtain ⟨b, o, rfl, hall⟩ := hr (fun e => by rw [e] at hi; simp at hi)
  obtain ⟨ux, p0, p1, p2, p3, p4, _⟩ := hall k hi
  clear hall hr
  obtain ⟨ay, cy, rfl, _⟩ := Lies.slice p4
  obtain ⟨q0, q1, q2, q3, _, _, _, _⟩ := hs
  obtain ⟨_, _, _, r3, _, _, _, _⟩ := ht
  have HC : Hid (∀ W, Below w.heap.size w W → Calls Tryz.prog 52 #[.agg #[.int .i64 s.kind, .int .i64 s.num, .string s.text, .slice ax lx cx], .agg #[.int .i64 l[k].kind, .int .i64 l[k].num, .string l[k].text, .slice ay l[k].items.length cy]] W fun e w' => e = .returned (.int .i64 (cmpV 16 s l[k])) ∧ Grew W w') := fun W hW => compare_any 16 s l[k] _ _ W (Lies.keeps hW _ _ _ hls) (Lies.keeps hW _ _ _ p4)
  clear p4 hls hb
  have hm : IntKind.i64.wrap (2 * (i : Int)) = (k : Int) := by rw [IntKind.wrap_i64]; omega
  have hki : (k : Int) < (l.length : Int) := by omega
  clear hk
  generalize l[k] = x at *
  generalize x.items.length = xl at *
  generalize cmpV 16 s x = Z at *
  generalize l.length = ll at *
  go_enter Tryz.func51, Tryz.ntmps51
  go_wp2_with fail
  go_region_held3 (fun w' => (w'.cell? ⟨b, o + k * 4, none⟩ = some (.int .i64 x.kind) ∧ w'.cell? ⟨b, o + k * 4 + 1, none⟩ = some (.int .i64 x.num) ∧ w'.cell? ⟨b, o + k * 4 + 2, none⟩ = some (.string x.text) ∧ w'.cell? ⟨b, o + k * 4 + 3, none⟩ = some (.slice ay xl cy)) ∧ (w'.cell? ⟨B1, 0, none⟩ = some (.int .i64 s.kind) ∧ w'.cell? ⟨B1, 1, none⟩ = some (.int .i64 s.num) ∧ w'.cell? ⟨B1, 2, none⟩ = some (.string s.text) ∧ w'.cell? ⟨B1, 3, none⟩ = some (.slice ax lx cx)) ∧ w'.cell? ⟨B2, 3, none⟩ = some (.slice (some ⟨b, o, none⟩) ll c)) (go_keep)
    (first | (go_at_call 52; refine Calls.mono (HC.out _ (Below.refl _ _).drew) ?_; rintro ee w1 ⟨rfl, hg1⟩; have hb1 : Below w.heap.size w w1 := (Below.refl _ _).drew.trans hg1.below; clear hg1; have p0 := cell_keeps hb1 p0; have p1 := cell_keeps hb1 p1; have p2 := cell_keeps hb1 p2; have p3 := cell_keeps hb1 p3; have q0 := cell_keeps hb1 q0; have q1 := cell_keeps hb1 q1; have q2 := cell_keeps hb1 q2; have q3 := cell_keeps hb1 q3; have r3 := cell_keeps hb1 r3))
  go_wp2_with fail
  go_ret
  exact ⟨rfl, hb1⟩

set_option maxRecDepth 100000 in
set_option maxHeartbeats 4000000 in
/-- slices.BinarySearchFunc at values, with value.Compare. -/
theorem bsearch_any (l : List VT) (v : Value) (s : VT) (us : Value) (w : World) (hv : Lies 17 w l v) (hs : Lies 16 w s.items us) (hlen : l.length ≤ 65536) (hup : Up16 l) :
    Calls Tryz.prog 53 #[v, .agg #[.int .i64 s.kind, .int .i64 s.num, .string s.text, us], .func (.func 52) #[] #[]] w fun e w' => e = .returned (.tuple #[.int .i64 (upN s l : Int), .bool (hasN s l)]) ∧ Below w.heap.size w w' := by
  obtain ⟨a, c, rfl, hcl⟩ := Lies.slice hv
  obtain ⟨ay, cy, rfl, _⟩ := Lies.slice hs
  have eg := egVC
  have HV : Hid (Lies 17 w l (.slice a l.length c)) := hv
  have HS : Hid (Lies 16 w s.items (.slice ay s.items.length cy)) := hs
  obtain ⟨K, hKe⟩ : ∃ K, K = upN s l := ⟨_, rfl⟩
  obtain ⟨F, hFe⟩ : ∃ F, F = hasN s l := ⟨_, rfl⟩
  have hK : K ≤ l.length := by rw [hKe]; exact upN_le s l
  have hlo : Hid (∀ t (h : t < l.length), t < K → cmpV 16 l[t] s < 0) := fun t h hk => upN_lo s l t h (by omega)
  have hhi : Hid (∀ t (h : t < l.length), K ≤ t → 0 ≤ cmpV 16 l[t] s) := fun t h hk => by have := upN_hi s l hup t h (by omega); omega
  have hF1 : Hid (∀ h : K < l.length, F = (cmpV 16 l[K] s == 0)) := fun h => by
    subst hKe; rw [hFe]; exact hasN_of h
  have hF2 : Hid (¬ K < l.length → F = false) := fun h => by
    subst hKe; rw [hFe]; exact hasN_none h
  rw [← hKe, ← hFe]
  clear hKe hFe hv hs hup
  have HB0 : Hid (Boxed (w.alloc (.cells #[.int .i64 s.kind, .int .i64 s.num, .string s.text, .slice ay s.items.length cy] 24)) w.heap.size s.kind s.num s.text (.slice ay s.items.length cy)) := boxed_alloc w _ _ _ _ _
  obtain ⟨ll, hll⟩ : ∃ ll, ll = l.length := ⟨_, rfl⟩
  have Hll : Hid (ll = l.length) := hll
  rw [← hll] at HV hcl hK hlen ⊢
  clear hll
  generalize s.items.length = ly at *
  go_enter Tryz.func53, Tryz.ntmps53
  go_wp2_with fail
  go_loopg [9, 10] ll (fun q i j wr => ∃ a e : Nat, i = .int .i64 (a : Int) ∧ j = .int .i64 (e : Int) ∧ q = e - a ∧ a ≤ K ∧ K ≤ e ∧ e ≤ ll ∧ Hid (Boxed wr w.heap.size s.kind s.num s.text (.slice ay ly cy)) ∧ Below w.heap.size w wr)
  case atStart => exact ⟨0, ll, rfl, rfl, by omega, by omega, hK, Nat.le_refl _, HB0, ((Grew.refl _).alloc _).below⟩
  case round =>
    obtain ⟨a2, e, rfl, rfl, hq, haK, hKe, hen, HB, hbw⟩ := hrel
    have Hq : Hid _ := hq
    clear hq HB0
    by_cases hlt : a2 < e
    · obtain ⟨h, hh⟩ : ∃ h, h = (a2 + e) / 2 := ⟨_, rfl⟩
      have Hh : Hid (h = (a2 + e) / 2) := hh
      have hl1 : h < l.length := by have := Hll.out; omega
      have hlti : (a2 : Int) < (e : Int) := by omega
      have hd : ((a2 : Int) + (e : Int)) / 2 = (h : Int) := by omega
      have hhi1 : (h : Int) < (ll : Int) := by have := Hll.out; omega
      clear hh
      obtain ⟨al', cl', he, _, hrow⟩ := HV.out
      injection he with e1 e2 e3
      subst e1 e3
      clear e2
      obtain ⟨b, o, rfl, hall⟩ := hrow (by intro e; rw [e] at hl1; simp at hl1)
      obtain ⟨ux, p0, p1, p2, p3, p4, _⟩ := hall h hl1
      clear hall hrow
      obtain ⟨ax, cx, rfl, _⟩ := Lies.slice p4
      have HC : Hid (∀ W, Below w.heap.size w W → Calls Tryz.prog 52 #[.agg #[.int .i64 l[h].kind, .int .i64 l[h].num, .string l[h].text, .slice ax l[h].items.length cx], .agg #[.int .i64 s.kind, .int .i64 s.num, .string s.text, .slice ay ly cy]] W fun e w' => e = .returned (.int .i64 (cmpV 16 l[h] s)) ∧ Grew W w') := fun W hW => compare_any 16 l[h] s _ _ W (Lies.keeps hW _ _ _ p4) (Lies.keeps hW _ _ _ HS.out)
      have Hlo : Hid (h < K → cmpV 16 l[h] s < 0) := fun hk => hlo.out h hl1 hk
      have Hhi : Hid (K ≤ h → 0 ≤ cmpV 16 l[h] s) := fun hk => hhi.out h hl1 hk
      clear p4
      generalize l[h] = x at *
      generalize x.items.length = xl at *
      generalize cmpV 16 x s = Z at *
      have p0 := cell_keeps hbw p0; have p1 := cell_keeps hbw p1; have p2 := cell_keeps hbw p2; have p3 := cell_keeps hbw p3
      obtain ⟨r0, r1, r2, r3⟩ := HB.out
      have hwl := hbw.size
      go_wp2_with fail
      go_region_held3 (fun w' => (w'.cell? ⟨b, o + h * 4, none⟩ = some (.int .i64 x.kind) ∧ w'.cell? ⟨b, o + h * 4 + 1, none⟩ = some (.int .i64 x.num) ∧ w'.cell? ⟨b, o + h * 4 + 2, none⟩ = some (.string x.text) ∧ w'.cell? ⟨b, o + h * 4 + 3, none⟩ = some (.slice ax xl cx)) ∧ (w'.cell? ⟨w.heap.size, 0, none⟩ = some (.int .i64 s.kind) ∧ w'.cell? ⟨w.heap.size, 1, none⟩ = some (.int .i64 s.num) ∧ w'.cell? ⟨w.heap.size, 2, none⟩ = some (.string s.text) ∧ w'.cell? ⟨w.heap.size, 3, none⟩ = some (.slice ay ly cy))) (go_keep)
        (first | (go_at_fn 52; refine Calls.mono (HC.out _ hbw.drew) ?_; rintro ee w1 ⟨rfl, hg1⟩; have hb1' : Below wr.heap.size wr w1 := (Below.refl _ _).drew.trans hg1.below; have hb1 : Below w.heap.size w w1 := hbw.trans (hb1'.mono hwl); have HB1 : Hid (Boxed w1 w.heap.size s.kind s.num s.text (.slice ay ly cy)) := HB.out.keeps hb1'; clear hg1; have p0 := cell_keeps hb1' p0; have p1 := cell_keeps hb1' p1; have p2 := cell_keeps hb1' p2; have p3 := cell_keeps hb1' p3; have r0 := cell_keeps hb1' r0; have r1 := cell_keeps hb1' r1; have r2 := cell_keeps hb1' r2; have r3 := cell_keeps hb1' r3))
      clear p0 p1 p2 p3 r0 r1 r2 r3 hb1' HB
      by_cases hz : Z < 0
      · have hhK : h < K := by
          by_cases hk : h < K
          · exact hk
          · have := Hhi.out (by omega); omega
        go_wp2_with fail
        go_roundg (e - (h + 1))
        case measure => have := Hq.out; have := Hh.out; omega
        case rel => exact ⟨h + 1, e, by go_num, rfl, rfl, by omega, hKe, hen, HB1, hb1⟩
      · have hhK : K ≤ h := by
          by_cases hk : h < K
          · exact absurd (Hlo.out hk) hz
          · omega
        go_wp2_with fail
        go_roundg (h - a2)
        case measure => have := Hq.out; have := Hh.out; omega
        case rel => exact ⟨a2, h, rfl, by go_num, rfl, haK, hhK, by have := Hh.out; omega, HB1, hb1⟩
    · have haK2 : a2 = K := by omega
      have hnlt : ¬ (a2 : Int) < (e : Int) := by omega
      subst haK2
      by_cases hend : a2 < ll
      · have hl1 : a2 < l.length := by have := Hll.out; omega
        have hendi : (a2 : Int) < (ll : Int) := by omega
        obtain ⟨al', cl', he, _, hrow⟩ := HV.out
        injection he with e1 e2 e3
        subst e1 e3
        clear e2
        obtain ⟨b, o, rfl, hall⟩ := hrow (by intro e; rw [e] at hl1; simp at hl1)
        obtain ⟨ux, p0, p1, p2, p3, p4, _⟩ := hall a2 hl1
        clear hall hrow
        obtain ⟨ax, cx, rfl, _⟩ := Lies.slice p4
        have HFx : Hid (F = (cmpV 16 l[a2] s == 0)) := hF1.out hl1
        have HC : Hid (∀ W, Below w.heap.size w W → Calls Tryz.prog 52 #[.agg #[.int .i64 l[a2].kind, .int .i64 l[a2].num, .string l[a2].text, .slice ax l[a2].items.length cx], .agg #[.int .i64 s.kind, .int .i64 s.num, .string s.text, .slice ay ly cy]] W fun e w' => e = .returned (.int .i64 (cmpV 16 l[a2] s)) ∧ Grew W w') := fun W hW => compare_any 16 l[a2] s _ _ W (Lies.keeps hW _ _ _ p4) (Lies.keeps hW _ _ _ HS.out)
        clear p4
        generalize l[a2] = x at *
        generalize x.items.length = xl at *
        generalize cmpV 16 x s = Z at *
        have p0 := cell_keeps hbw p0; have p1 := cell_keeps hbw p1; have p2 := cell_keeps hbw p2; have p3 := cell_keeps hbw p3
        obtain ⟨r0, r1, r2, r3⟩ := HB.out
        have hwl := hbw.size
        clear hlo hhi hF1 hF2
        go_wp2_with fail
        go_region_held3 (fun w' => (w'.cell? ⟨b, o + a2 * 4, none⟩ = some (.int .i64 x.kind) ∧ w'.cell? ⟨b, o + a2 * 4 + 1, none⟩ = some (.int .i64 x.num) ∧ w'.cell? ⟨b, o + a2 * 4 + 2, none⟩ = some (.string x.text) ∧ w'.cell? ⟨b, o + a2 * 4 + 3, none⟩ = some (.slice ax xl cx)) ∧ (w'.cell? ⟨w.heap.size, 0, none⟩ = some (.int .i64 s.kind) ∧ w'.cell? ⟨w.heap.size, 1, none⟩ = some (.int .i64 s.num) ∧ w'.cell? ⟨w.heap.size, 2, none⟩ = some (.string s.text) ∧ w'.cell? ⟨w.heap.size, 3, none⟩ = some (.slice ay ly cy))) (go_keep)
          (first | (go_at_fn 52; refine Calls.mono (HC.out _ hbw.drew) ?_; rintro ee w1 ⟨rfl, hg1⟩; have hb1' : Below wr.heap.size wr w1 := (Below.refl _ _).drew.trans hg1.below; have hb1 : Below w.heap.size w w1 := hbw.trans (hb1'.mono hwl); clear hg1; have p0 := cell_keeps hb1' p0; have p1 := cell_keeps hb1' p1; have p2 := cell_keeps hb1' p2; have p3 := cell_keeps hb1' p3; have r0 := cell_keeps hb1' r0; have r1 := cell_keeps hb1' r1; have r2 := cell_keeps hb1' r2; have r3 := cell_keeps hb1' r3))
        clear p0 p1 p2 p3 r0 r1 r2 r3 hb1' HB
        go_wp2_with fail
        go_ret2
        exact ⟨by rw [HFx.out]; rfl, hb1⟩
      · have hendi : ¬ (a2 : Int) < (ll : Int) := by omega
        have HFx : Hid (F = false) := hF2.out (by have := Hll.out; omega)
        clear hlo hhi hF1 hF2
        go_wp2_with fail
        go_region
        go_wp2_with fail
        go_ret2
        exact ⟨by rw [HFx.out]; rfl, hbw.drew⟩

end Go.Proofs.YtofceccicmlmoaaGreat

namespace Go.Proofs.YtofceccicmlmoaaGreat
open Go.RowKit

theorem done_any (X : Nat → Prop) (q : Nat) (hq : q < 8) (t : VT) (u : Value) (w : World) (hl : LiesX X 16 w t.items u) (hr : rightV 16 t = true) :
    Calls Tryz.prog (oneF q) #[.agg #[.int .i64 t.kind, .int .i64 t.num, .string t.text, u]] w (FnPost X (doneT q t) w) := by
  have hs := right_size hr
  have hn := right_len hr
  obtain ⟨a, c, rfl, _⟩ := LiesX.slice hl
  match q, hq with
  | 0, _ => exact same1_any X t a _ c w hl
  | 1, _ => exact inc_any X t a _ c w hl
  | 2, _ => exact neg_any X t a _ c w hl
  | 3, _ => exact size_any X t a c w (by omega) hn
  | 4, _ =>
    by_cases k3 : t.kind = 3
    · exact first_text X t a c w k3
    · exact first_items X t _ w k3 hl (fun h1 h2 => map_two hr h1 h2)
  | 5, _ => exact wrap_any X t a _ c w hl.lies hr (by omega)
  | 6, _ => exact kind_any X t a _ c w
  | 7, _ => exact half_any X t a _ c w hl

/-- A function done so many times. -/
def itT (f : VT → VT) : Nat → VT → VT
  | 0, t => t
  | n + 1, t => f (itT f n t)

theorem it_right (q : Nat) {t : VT} (hr : rightV 16 t = true) (hd : Dp 16 t) : ∀ n, rightV 16 (itT (doneT q) n t) = true ∧ Dp 16 (itT (doneT q) n t) := by
  intro n
  induction n with
  | zero => exact ⟨hr, hd⟩
  | succ n ih => exact done_right q ih.1 ih.2

/-- The error of Times. -/
def timesE (d : Nat) (q n : Int) (t : VT) : Int :=
  if q < 0 ∨ 8 ≤ q then 4 else if n < 0 ∨ 65536 < n then 1 else if rightV d t = true then 0 else 3

/-- What Times tells. -/
def timesT (d : Nat) (q n : Int) (t : VT) : VT := if timesE d q n t = 0 then itT (doneT q.toNat) n.toNat t else nilT

/-- A value, in new memory, and a number are told. -/
def VPost (s : VT) (r : Int) (W : World) (e : Ending) (W' : World) : Prop :=
  ∃ u, e = .returned (.tuple #[.agg #[.int .i64 s.kind, .int .i64 s.num, .string s.text, u], .int .i64 r]) ∧ LiesX (fun b => W.heap.size ≤ b) 16 W' s.items u ∧ Below W.heap.size W W'

theorem vPost_nil {r : Int} {W W' : World} (h : Below W.heap.size W W') : VPost nilT r W (.returned (.tuple #[.agg #[.int .i64 0, .int .i64 0, .string ⟨#[]⟩, .slice none 0 0], .int .i64 r])) W' :=
  ⟨_, rfl, liesX_nil _ _ _ _ _, h⟩

/-- The world behind the first region: the value's box, the result's cells, the table. -/
def start3 (w : World) (t : VT) (u : Value) : World :=
  ((w.alloc (.cells #[.int .i64 t.kind, .int .i64 t.num, .string t.text, u] 24)).alloc (.cells #[.int .i64 0, .int .i64 0, .string ⟨#[]⟩, .slice none 0 0] 24)).alloc
    (.cells #[fv 75, fv 76, fv 77, fv 78, fv 79, fv 80, fv 81, fv 82] 75)

theorem start3_below (w : World) (t : VT) (u : Value) : Below w.heap.size w (start3 w t u) := grew3 _ _ _ _

theorem start3_box (w : World) (t : VT) (u : Value) : Bx (start3 w t u) w.heap.size t u := (bx_alloc w t u).keeps (Grew.two _ _ _).below

theorem start3_res (w : World) (t : VT) (u : Value) : Bx (start3 w t u) (w.heap.size + 1) zeroT (.slice none 0 0) := by
  have := (bx_alloc (w.alloc (.cells #[.int .i64 t.kind, .int .i64 t.num, .string t.text, u] 24)) zeroT (.slice none 0 0)).keeps ((Grew.refl _).alloc (.cells #[fv 75, fv 76, fv 77, fv 78, fv 79, fv 80, fv 81, fv 82] 75)).below
  rwa [World.size_alloc] at this

theorem start3_row (w : World) (t : VT) (u : Value) (q : Nat) (hq : q < 8) : (start3 w t u).cell? ⟨w.heap.size + 2, q, none⟩ = some (fv (oneF q)) := by
  have := oneF_cell ((w.alloc (.cells #[.int .i64 t.kind, .int .i64 t.num, .string t.text, u] 24)).alloc (.cells #[.int .i64 0, .int .i64 0, .string ⟨#[]⟩, .slice none 0 0] 24)) q hq
  rwa [World.size_alloc, World.size_alloc] at this

theorem start3_size (w : World) (t : VT) (u : Value) : (start3 w t u).heap.size = w.heap.size + 3 := by
  unfold start3; simp

set_option maxHeartbeats 2000000 in
theorem times_kind (d : Nat) (q n : Int) (t : VT) (u : Value) (w : World) (hu : Lies d w t.items u) (hq : q < 0 ∨ 8 ≤ q) :
    Calls Tryz.prog 32 #[.int .i64 q, .int .i64 n, .agg #[.int .i64 t.kind, .int .i64 t.num, .string t.text, u]] w (VPost nilT 4 w) := by
  obtain ⟨a, c, rfl, _⟩ := Lies.slice hu
  have HL : Hid (Lies d w t.items (.slice a t.items.length c)) := hu
  clear hu
  have HB := start3_below w t (.slice a t.items.length c)
  have HR : Hid (Bx (start3 w t (.slice a t.items.length c)) (w.heap.size + 1) zeroT (.slice none 0 0)) := start3_res w t _
  have HX : Hid (Bx (start3 w t (.slice a t.items.length c)) w.heap.size t (.slice a t.items.length c)) := start3_box w t _
  have hz := start3_size w t (.slice a t.items.length c)
  have Hz : Hid ((start3 w t (.slice a t.items.length c)).heap.size = w.heap.size + 3) := hz
  clear hz
  have HQ : Hid (q < 0 ∨ 8 ≤ q) := hq
  clear hq HL HX
  go_enter Tryz.func32, Tryz.ntmps32
  go_wp2_with fail
  refine (functions_any _).mono ?_
  rintro e w1 ⟨rfl, rfl⟩
  go_wp2_with fail
  refine (rowF_no (w.heap.size + 1 + 1) q _ HQ.out).mono ?_
  rintro e w1 ⟨rfl, hb⟩
  have hb : Below (start3 w t (.slice a t.items.length c)).heap.size (start3 w t (.slice a t.items.length c)) w1 := hb
  have hb1 : Below w.heap.size w w1 := HB.trans (hb.mono (by rw [Hz.out]; omega))
  have hb2 : Below w.heap.size w (w1.alloc (.cells #[.nilFunc] 75)) := hb1.alloc hb1.size _
  have HR2 : Hid (Bx (w1.alloc (.cells #[.nilFunc] 75)) (w.heap.size + 1) zeroT (.slice none 0 0)) := (HR.out.keeps hb).keeps ((Grew.refl _).alloc _).below
  clear hb HR HB Hz
  obtain ⟨y0, y1, y2, y3, z0, z1, z2, z3⟩ := HR2.out
  have Hbx : Hid (Bx ((w1.alloc (.cells #[.nilFunc] 75)).setCells (w.heap.size + 1) 0 (encP (zeroT, .slice none 0 0))) (w.heap.size + 1) zeroT (.slice none 0 0)) := HR2.out.put (zeroT, .slice none 0 0)
  have Hbl : Hid (Below w.heap.size w ((w1.alloc (.cells #[.nilFunc] 75)).setCells (w.heap.size + 1) 0 (encP (zeroT, .slice none 0 0)))) := below_put hb2 (Nat.le_succ _) (zeroT, .slice none 0 0)
  go_wp2_with fail
  refine bodyPost_ret (v := .tuple #[.agg #[.int .i64 0, .int .i64 0, .string ⟨#[]⟩, .slice none 0 0], .int .i64 4]) ?_ rfl (vPost_nil Hbl.out)
  obtain ⟨q0, q1, q2, q3, _, _, _, _⟩ := Hbx.out
  simp only [encP, World.setCells, Nat.zero_add, Nat.reduceAdd] at q0 q1 q2 q3
  simp [results, Tryz.results32, go_sem, q0, q1, q2, q3]

set_option maxHeartbeats 2000000 in
theorem times_num (d : Nat) (q : Nat) (n : Int) (t : VT) (u : Value) (w : World) (hu : Lies d w t.items u) (hq : q < 8) (hn : n < 0 ∨ 65536 < n) :
    Calls Tryz.prog 32 #[.int .i64 q, .int .i64 n, .agg #[.int .i64 t.kind, .int .i64 t.num, .string t.text, u]] w (VPost nilT 1 w) := by
  obtain ⟨a, c, rfl, _⟩ := Lies.slice hu
  have HL : Hid (Lies d w t.items (.slice a t.items.length c)) := hu
  clear hu
  have HB := start3_below w t (.slice a t.items.length c)
  have HR : Hid (Bx (start3 w t (.slice a t.items.length c)) (w.heap.size + 1) zeroT (.slice none 0 0)) := start3_res w t _
  have HX : Hid (Bx (start3 w t (.slice a t.items.length c)) w.heap.size t (.slice a t.items.length c)) := start3_box w t _
  have hz := start3_size w t (.slice a t.items.length c)
  have Hz : Hid ((start3 w t (.slice a t.items.length c)).heap.size = w.heap.size + 3) := hz
  clear hz
  go_enter Tryz.func32, Tryz.ntmps32
  go_wp2_with fail
  refine (functions_any _).mono ?_
  rintro e w1 ⟨rfl, rfl⟩
  go_wp2_with fail
  refine (rowF_yes (w.heap.size + 1 + 1) q (oneF q) _ hq (start3_row w t (.slice a t.items.length c) q hq)).mono ?_
  rintro e w1 ⟨rfl, hb⟩
  have hb : Below (start3 w t (.slice a t.items.length c)).heap.size (start3 w t (.slice a t.items.length c)) w1 := hb
  have hb1 : Below w.heap.size w w1 := HB.trans (hb.mono (by rw [Hz.out]; omega))
  have hsz : w.heap.size + 3 ≤ w1.heap.size := by have := hb.size; rw [Hz.out] at this; exact this
  have hb2 : Below w.heap.size w (w1.alloc (.cells #[fv (oneF q)] 75)) := hb1.alloc hb1.size _
  have HR2 : Hid (Bx (w1.alloc (.cells #[fv (oneF q)] 75)) (w.heap.size + 1) zeroT (.slice none 0 0)) := (HR.out.keeps hb).keeps ((Grew.refl _).alloc _).below
  have HX2 : Hid (Bx (w1.alloc (.cells #[fv (oneF q)] 75)) w.heap.size t (.slice a t.items.length c)) := (HX.out.keeps hb).keeps ((Grew.refl _).alloc _).below
  have HF2 : Hid ((w1.alloc (.cells #[fv (oneF q)] 75)).cell? ⟨w1.heap.size, 0, none⟩ = some (fv (oneF q))) := by show _ = _; simp
  have hs2 : (w1.alloc (.cells #[fv (oneF q)] 75)).heap.size = w1.heap.size + 1 := by simp
  have HS2 : Hid ((w1.alloc (.cells #[fv (oneF q)] 75)).heap.size = w1.heap.size + 1) := hs2
  clear hb HR HX HB Hz hs2
  clear HX2 HF2 HL HS2
  rcases hn with hn | hn
  · obtain ⟨y0, y1, y2, y3, z0, z1, z2, z3⟩ := HR2.out
    have Hbx : Hid (Bx ((w1.alloc (.cells #[fv (oneF q)] 75)).setCells (w.heap.size + 1) 0 (encP (zeroT, .slice none 0 0))) (w.heap.size + 1) zeroT (.slice none 0 0)) := HR2.out.put (zeroT, .slice none 0 0)
    have Hbl : Hid (Below w.heap.size w ((w1.alloc (.cells #[fv (oneF q)] 75)).setCells (w.heap.size + 1) 0 (encP (zeroT, .slice none 0 0)))) := below_put hb2 (Nat.le_succ _) (zeroT, .slice none 0 0)
    go_wp2_with fail
    refine bodyPost_ret (v := .tuple #[.agg #[.int .i64 0, .int .i64 0, .string ⟨#[]⟩, .slice none 0 0], .int .i64 1]) ?_ rfl (vPost_nil Hbl.out)
    obtain ⟨q0, q1, q2, q3, _, _, _, _⟩ := Hbx.out
    simp only [encP, World.setCells, Nat.zero_add, Nat.reduceAdd] at q0 q1 q2 q3
    simp [results, Tryz.results32, go_sem, q0, q1, q2, q3]
  · have hn' : ¬ n < 0 := by omega
    obtain ⟨y0, y1, y2, y3, z0, z1, z2, z3⟩ := HR2.out
    have Hbx : Hid (Bx ((w1.alloc (.cells #[fv (oneF q)] 75)).setCells (w.heap.size + 1) 0 (encP (zeroT, .slice none 0 0))) (w.heap.size + 1) zeroT (.slice none 0 0)) := HR2.out.put (zeroT, .slice none 0 0)
    have Hbl : Hid (Below w.heap.size w ((w1.alloc (.cells #[fv (oneF q)] 75)).setCells (w.heap.size + 1) 0 (encP (zeroT, .slice none 0 0)))) := below_put hb2 (Nat.le_succ _) (zeroT, .slice none 0 0)
    go_wp2_with fail
    refine bodyPost_ret (v := .tuple #[.agg #[.int .i64 0, .int .i64 0, .string ⟨#[]⟩, .slice none 0 0], .int .i64 1]) ?_ rfl (vPost_nil Hbl.out)
    obtain ⟨q0, q1, q2, q3, _, _, _, _⟩ := Hbx.out
    simp only [encP, World.setCells, Nat.zero_add, Nat.reduceAdd] at q0 q1 q2 q3
    simp [results, Tryz.results32, go_sem, q0, q1, q2, q3]

set_option maxHeartbeats 2000000 in
theorem times_val (d : Nat) (q n : Nat) (t : VT) (u : Value) (w : World) (hu : Lies d w t.items u) (hs : t.text.size ≤ 9223372036854775807) (hq : q < 8) (hn : n ≤ 65536) (hr : rightV d t = false) :
    Calls Tryz.prog 32 #[.int .i64 q, .int .i64 n, .agg #[.int .i64 t.kind, .int .i64 t.num, .string t.text, u]] w (VPost nilT 3 w) := by
  have HE : Hid (rightV d t = false) := hr
  clear hr
  obtain ⟨a, c, rfl, _⟩ := Lies.slice hu
  have HL : Hid (Lies d w t.items (.slice a t.items.length c)) := hu
  clear hu
  have HB := start3_below w t (.slice a t.items.length c)
  have HR : Hid (Bx (start3 w t (.slice a t.items.length c)) (w.heap.size + 1) zeroT (.slice none 0 0)) := start3_res w t _
  have HX : Hid (Bx (start3 w t (.slice a t.items.length c)) w.heap.size t (.slice a t.items.length c)) := start3_box w t _
  have hz := start3_size w t (.slice a t.items.length c)
  have Hz : Hid ((start3 w t (.slice a t.items.length c)).heap.size = w.heap.size + 3) := hz
  clear hz
  go_enter Tryz.func32, Tryz.ntmps32
  go_wp2_with fail
  refine (functions_any _).mono ?_
  rintro e w1 ⟨rfl, rfl⟩
  go_wp2_with fail
  refine (rowF_yes (w.heap.size + 1 + 1) q (oneF q) _ hq (start3_row w t (.slice a t.items.length c) q hq)).mono ?_
  rintro e w1 ⟨rfl, hb⟩
  have hb : Below (start3 w t (.slice a t.items.length c)).heap.size (start3 w t (.slice a t.items.length c)) w1 := hb
  have hb1 : Below w.heap.size w w1 := HB.trans (hb.mono (by rw [Hz.out]; omega))
  have hsz : w.heap.size + 3 ≤ w1.heap.size := by have := hb.size; rw [Hz.out] at this; exact this
  have hb2 : Below w.heap.size w (w1.alloc (.cells #[fv (oneF q)] 75)) := hb1.alloc hb1.size _
  have HR2 : Hid (Bx (w1.alloc (.cells #[fv (oneF q)] 75)) (w.heap.size + 1) zeroT (.slice none 0 0)) := (HR.out.keeps hb).keeps ((Grew.refl _).alloc _).below
  have HX2 : Hid (Bx (w1.alloc (.cells #[fv (oneF q)] 75)) w.heap.size t (.slice a t.items.length c)) := (HX.out.keeps hb).keeps ((Grew.refl _).alloc _).below
  have HF2 : Hid ((w1.alloc (.cells #[fv (oneF q)] 75)).cell? ⟨w1.heap.size, 0, none⟩ = some (fv (oneF q))) := by show _ = _; simp
  have hs2 : (w1.alloc (.cells #[fv (oneF q)] 75)).heap.size = w1.heap.size + 1 := by simp
  have HS2 : Hid ((w1.alloc (.cells #[fv (oneF q)] 75)).heap.size = w1.heap.size + 1) := hs2
  clear hb HR HX HB Hz hs2
  have hn1 : ¬ (n : Int) < 0 := by omega
  have hn2 : ¬ 65536 < (n : Int) := by omega
  obtain ⟨x0, x1, x2, x3, _, _, _, _⟩ := HX2.out
  go_wp2_with fail
  refine (check_any d t _ _ (Lies.keeps hb2 _ _ _ HL.out) hs).mono ?_
  rintro e w2 ⟨rfl, hb⟩
  have he : errOf (rightV d t) = 3 := by rw [HE.out]; rfl
  rw [he]
  have hb3 : Below w.heap.size w w2 := hb2.trans (hb.mono hb2.size)
  have HR3 : Hid (Bx w2 (w.heap.size + 1) zeroT (.slice none 0 0)) := HR2.out.keeps hb
  clear hb HR2 x0 x1 x2 x3 HX2 HF2 HL hb2 he HS2 hsz hb1
  obtain ⟨y0, y1, y2, y3, z0, z1, z2, z3⟩ := HR3.out
  have Hbx : Hid (Bx (w2.setCells (w.heap.size + 1) 0 (encP (zeroT, .slice none 0 0))) (w.heap.size + 1) zeroT (.slice none 0 0)) := HR3.out.put (zeroT, .slice none 0 0)
  have Hbl : Hid (Below w.heap.size w (w2.setCells (w.heap.size + 1) 0 (encP (zeroT, .slice none 0 0)))) := below_put hb3 (Nat.le_succ _) (zeroT, .slice none 0 0)
  go_wp2_with fail
  refine bodyPost_ret (v := .tuple #[.agg #[.int .i64 0, .int .i64 0, .string ⟨#[]⟩, .slice none 0 0], .int .i64 3]) ?_ rfl (vPost_nil Hbl.out)
  obtain ⟨q0, q1, q2, q3, _, _, _, _⟩ := Hbx.out
  simp only [encP, World.setCells, Nat.zero_add, Nat.reduceAdd] at q0 q1 q2 q3
  simp [results, Tryz.results32, go_sem, q0, q1, q2, q3]

end Go.Proofs.YtofceccicmlmoaaGreat

namespace Go.Proofs.YtofceccicmlmoaaGreat
open Go.RowKit

/-- What stands before a round: the value so far in its box, the result's cells, the row. -/
structure Turning (w wr : World) (N B f : Nat) (s : VT) (u : Value) : Prop where
  box : Bx wr N s u
  res : Bx wr (N + 1) zeroT (.slice none 0 0)
  row : wr.cell? ⟨B, 0, none⟩ = some (fv f)
  lies : LiesX (fun b => b ≠ N) 16 wr s.items u
  below : Below w.heap.size w wr
  size : N < wr.heap.size
  far : N + 1 < B

theorem Turning.next {w wr w1 : World} {N B f : Nat} {s s' : VT} {u u' : Value} (h : Turning w wr N B f s u) (hN : w.heap.size ≤ N) (hb : Below wr.heap.size wr w1) (hl : LiesX (fun b => b ≠ N ∨ wr.heap.size ≤ b) 16 w1 s'.items u') :
    Turning w (w1.setCells N 0 (encP (s', u'))) N B f s' u' := by
  have hsz := h.size
  have hfar := h.far
  refine ⟨(h.box.keeps hb).put (s', u'), (h.res.keeps hb).other (by omega) _, cell_other (show B ≠ N by omega) (cell_keeps hb h.row), ?_, below_put (h.below.trans (hb.mono h.below.size)) hN (s', u'), ?_, hfar⟩
  · exact (hl.mono (Y := fun b => b ≠ N) (fun b hb => by omega)).set (by simp)
  · rw [size_setCells]; have := hb.size; omega

theorem right_len_all {t : VT} (hr : rightV 16 t = true) : Len 16 t := by
  have h := hr
  simp only [rightV, Bool.and_eq_true] at h
  exact sm_len 16 t (fw_small 16 t 16 1024 (by omega) (by omega) h.1)

theorem copy_right (t : VT) (u : Value) (w : World) (hl : Lies 16 w t.items u) (hr : rightV 16 t = true) : Calls Tryz.prog 34 #[.agg #[.int .i64 t.kind, .int .i64 t.num, .string t.text, u]] w (CopyPost 16 t w) :=
  copyOf_any (fun s => s.size ≤ 281474976710656) txt_any 16 t u w hl (right_txt 16 t (right_rp hr)) (right_len_all hr)

set_option maxHeartbeats 4000000 in
theorem times_ok (q n : Nat) (t : VT) (u : Value) (w : World) (hu : Lies 16 w t.items u) (hs : t.text.size ≤ 9223372036854775807) (hq : q < 8) (hn : n ≤ 65536) (hr : rightV 16 t = true) :
    Calls Tryz.prog 32 #[.int .i64 q, .int .i64 n, .agg #[.int .i64 t.kind, .int .i64 t.num, .string t.text, u]] w (VPost (itT (doneT q) n t) 0 w) := by
  have HD : Hid (Dp 16 t) := Dp.of_lies 16 w t u hu
  have HE : Hid (rightV 16 t = true) := hr
  have HRt : Hid (∀ j, rightV 16 (itT (doneT q) j t) = true ∧ Dp 16 (itT (doneT q) j t)) := fun j => it_right q HE.out HD.out j
  have Hd : Hid (∀ (s : VT) (v : Value) (W : World), LiesX (fun b => b ≠ w.heap.size) 16 W s.items v → rightV 16 s = true → Calls Tryz.prog (oneF q) #[.agg #[.int .i64 s.kind, .int .i64 s.num, .string s.text, v]] W (FnPost (fun b => b ≠ w.heap.size) (doneT q s) W)) := fun s v W h1 h2 => done_any _ q hq s v W h1 h2
  have Hrow : Hid (∀ v, (start3 w t v).cell? ⟨w.heap.size + 2, q, none⟩ = some (fv (oneF q))) := fun v => start3_row w t v q hq
  have eg := oneF_enters q hq
  generalize oneF q = f at *
  generalize doneT q = D at *
  clear hr
  obtain ⟨a, c, rfl, _⟩ := Lies.slice hu
  have HL : Hid (Lies 16 w t.items (.slice a t.items.length c)) := hu
  clear hu
  have HB := start3_below w t (.slice a t.items.length c)
  have HR : Hid (Bx (start3 w t (.slice a t.items.length c)) (w.heap.size + 1) zeroT (.slice none 0 0)) := start3_res w t _
  have HX : Hid (Bx (start3 w t (.slice a t.items.length c)) w.heap.size t (.slice a t.items.length c)) := start3_box w t _
  have hz := start3_size w t (.slice a t.items.length c)
  have Hz : Hid ((start3 w t (.slice a t.items.length c)).heap.size = w.heap.size + 3) := hz
  clear hz
  go_enter Tryz.func32, Tryz.ntmps32
  go_wp2_with fail
  refine (functions_any _).mono ?_
  rintro e w1 ⟨rfl, rfl⟩
  go_wp2_with fail
  refine (rowF_yes (w.heap.size + 1 + 1) q f _ hq (Hrow.out _)).mono ?_
  rintro e w1 ⟨rfl, hb⟩
  have hb : Below (start3 w t (.slice a t.items.length c)).heap.size (start3 w t (.slice a t.items.length c)) w1 := hb
  have hb1 : Below w.heap.size w w1 := HB.trans (hb.mono (by rw [Hz.out]; omega))
  have hsz : w.heap.size + 3 ≤ w1.heap.size := by have := hb.size; rw [Hz.out] at this; exact this
  have hb2 : Below w.heap.size w (w1.alloc (.cells #[fv f] 75)) := hb1.alloc hb1.size _
  have HR2 : Hid (Bx (w1.alloc (.cells #[fv f] 75)) (w.heap.size + 1) zeroT (.slice none 0 0)) := (HR.out.keeps hb).keeps ((Grew.refl _).alloc _).below
  have HX2 : Hid (Bx (w1.alloc (.cells #[fv f] 75)) w.heap.size t (.slice a t.items.length c)) := (HX.out.keeps hb).keeps ((Grew.refl _).alloc _).below
  have HF2 : Hid ((w1.alloc (.cells #[fv f] 75)).cell? ⟨w1.heap.size, 0, none⟩ = some (fv f)) := by show _ = _; simp
  have hs2 : (w1.alloc (.cells #[fv f] 75)).heap.size = w1.heap.size + 1 := by simp
  have HS2 : Hid ((w1.alloc (.cells #[fv f] 75)).heap.size = w1.heap.size + 1) := hs2
  clear hb HR HX HB Hz hs2
  have hn1 : ¬ (n : Int) < 0 := by omega
  have hn2 : ¬ 65536 < (n : Int) := by omega
  have HLX : Hid (LiesX (fun b => b ≠ w.heap.size) 16 (w1.alloc (.cells #[fv f] 75)) t.items (.slice a t.items.length c)) := ((LiesX.of_lies HL.out).keeps hb2).mono (fun b hb => by omega)
  have HT0 : Hid (Turning w (w1.alloc (.cells #[fv f] 75)) w.heap.size w1.heap.size f t (.slice a t.items.length c)) := ⟨HX2.out, HR2.out, HF2.out, HLX.out, hb2, by rw [HS2.out]; omega, by omega⟩
  obtain ⟨x0, x1, x2, x3, _, _, _, _⟩ := HX2.out
  clear HR2 HX2 HF2 HLX HS2
  go_wp2_with fail
  refine (check_any 16 t _ _ (Lies.keeps hb2 _ _ _ HL.out) hs).mono ?_
  rintro e w2 ⟨rfl, hb⟩
  have he : errOf (rightV 16 t) = 0 := by rw [HE.out]; rfl
  rw [he]
  have HT1 : Hid (Turning w w2 w.heap.size w1.heap.size f t (.slice a t.items.length c)) := by
    have h := HT0.out
    exact ⟨h.box.keeps hb, h.res.keeps hb, cell_keeps hb h.row, h.lies.keeps hb, h.below.trans (hb.mono h.below.size), Nat.lt_of_lt_of_le h.size hb.size, h.far⟩
  clear hb HT0 x0 x1 x2 x3 hb2 he hb1 hsz
  generalize w1.heap.size = B at *
  go_wp2_with fail
  go_loopg [35] n (fun g i wr => ∃ (j : Nat) (s : VT) (v : Value), i = .int .i64 (j : Int) ∧ j ≤ n ∧ g = n - j ∧ Hid (s = itT D j t) ∧ Hid (Turning w wr w.heap.size B f s v))
  case atStart => exact ⟨0, t, _, rfl, by omega, by omega, rfl, HT1⟩
  case round =>
    obtain ⟨j, s, v, rfl, hj, hk, Hs, HT⟩ := hrel
    have Hk : Hid _ := hk
    clear hk HT1
    obtain ⟨av, cv, rfl, _⟩ := LiesX.slice HT.out.lies
    obtain ⟨x0, x1, x2, x3, k0, k1, k2, k3⟩ := HT.out.box
    have xr := HT.out.row
    by_cases hlt : j < n
    · go_wp2_with (go_at_fn f; refine (Hd.out s (.slice av s.items.length cv) _ HT.out.lies (by rw [Hs.out]; exact (HRt.out j).1)).mono ?_; rintro e w3 ⟨v', rfl, hl3, hb3⟩; fail)
      go_at_fn f
      refine (Hd.out s (.slice av s.items.length cv) _ HT.out.lies (by rw [Hs.out]; exact (HRt.out j).1)).mono ?_
      rintro e w3 ⟨v', rfl, hl3, hb3⟩
      have HT3 : Hid (Turning w (w3.setCells w.heap.size 0 (encP (D s, v'))) w.heap.size B f (D s) v') := HT.out.next (Nat.le_refl _) hb3 hl3
      obtain ⟨a3, c3, rfl, _⟩ := LiesX.slice hl3
      have HBx := HT.out.box.keeps hb3
      obtain ⟨x0, x1, x2, x3, k0, k1, k2, k3⟩ := HBx
      have Hs3 : Hid (D s = itT D (j + 1) t) := by show _ = _; rw [Hs.out]; rfl
      clear hl3 hb3 HT xr
      generalize D s = s' at *
      go_wp2_with fail
      go_roundg (n - (j + 1))
      case measure => have := Hk.out; omega
      case rel => exact ⟨j + 1, s', .slice a3 s'.items.length c3, by go_num, by omega, rfl, Hs3, HT3⟩
    · have hjn : j = n := by omega
      subst hjn
      go_wp2_with fail
      refine (copy_right s _ _ HT.out.lies.lies (by rw [Hs.out]; exact (HRt.out j).1)).mono ?_
      rintro e w3 ⟨v', rfl, hl3, hb3⟩
      have HR3 : Hid (Bx w3 (w.heap.size + 1) zeroT (.slice none 0 0)) := HT.out.res.keeps hb3
      have hbw : Below w.heap.size w w3 := HT.out.below.trans (hb3.mono HT.out.below.size)
      have hsz3 : w.heap.size + 1 < wr.heap.size := cell_lt HT.out.res.c0
      obtain ⟨a3, c3, rfl, _⟩ := LiesB.slice hl3
      obtain ⟨y0, y1, y2, y3, z0, z1, z2, z3⟩ := HR3.out
      have Hbx : Hid (Bx (w3.setCells (w.heap.size + 1) 0 (encP (s, .slice a3 s.items.length c3))) (w.heap.size + 1) s (.slice a3 s.items.length c3)) := HR3.out.put (s, .slice a3 s.items.length c3)
      have Hbl : Hid (Below w.heap.size w (w3.setCells (w.heap.size + 1) 0 (encP (s, .slice a3 s.items.length c3)))) := below_put hbw (Nat.le_succ _) (s, .slice a3 s.items.length c3)
      have Hfin : Hid (LiesX (fun b => w.heap.size ≤ b) 16 (w3.setCells (w.heap.size + 1) 0 (encP (s, .slice a3 s.items.length c3))) s.items (.slice a3 s.items.length c3)) := ((LiesX.of_b hl3).set (g := w.heap.size + 1) (by omega)).mono (fun b hb => by have := HT.out.size; omega)
      clear hl3 hb3 HT xr x0 x1 x2 x3 k0 k1 k2 k3
      go_wp2_with fail
      refine bodyPost_ret (v := .tuple #[.agg #[.int .i64 s.kind, .int .i64 s.num, .string s.text, .slice a3 s.items.length c3], .int .i64 0]) ?_ rfl (by rw [← Hs.out]; exact ⟨_, rfl, Hfin.out, Hbl.out⟩)
      obtain ⟨q0, q1, q2, q3, _, _, _, _⟩ := Hbx.out
      simp only [encP, World.setCells, Nat.zero_add, Nat.reduceAdd] at q0 q1 q2 q3
      simp [results, Tryz.results32, go_sem, q0, q1, q2, q3]

theorem times_any (d : Nat) (q n : Int) (t : VT) (u : Value) (w : World) (hu : Lies d w t.items u) (hs : t.text.size ≤ 9223372036854775807) :
    Calls Tryz.prog 32 #[.int .i64 q, .int .i64 n, .agg #[.int .i64 t.kind, .int .i64 t.num, .string t.text, u]] w (VPost (timesT d q n t) (timesE d q n t) w) := by
  unfold timesT
  by_cases hq : q < 0 ∨ 8 ≤ q
  · have e : timesE d q n t = 4 := by unfold timesE; rw [if_pos hq]
    rw [e]
    exact times_kind d q n t u w hu hq
  · obtain ⟨Q, hQ, hQ8⟩ : ∃ Q : Nat, q = Q ∧ Q < 8 := ⟨q.toNat, by omega, by omega⟩
    subst hQ
    by_cases hn : n < 0 ∨ 65536 < n
    · have e : timesE d Q n t = 1 := by unfold timesE; rw [if_neg hq, if_pos hn]
      rw [e]
      exact times_num d Q n t u w hu hQ8 hn
    · obtain ⟨K, hK, hK8⟩ : ∃ K : Nat, n = K ∧ K ≤ 65536 := ⟨n.toNat, by omega, by omega⟩
      subst hK
      cases hr : rightV d t
      · have e : timesE d Q K t = 3 := by unfold timesE; rw [if_neg hq, if_neg hn, hr]; rfl
        rw [e]
        exact times_val d Q K t u w hu hs hQ8 hK8 hr
      · have e : timesE d Q K t = 0 := by unfold timesE; rw [if_neg hq, if_neg hn, if_pos hr]
        rw [e]
        have hc := canon hu hr
        exact times_ok Q K t u w hc.1 hs hQ8 hK8 hc.2

theorem one_any (d : Nat) (q : Int) (t : VT) (u : Value) (w : World) (hu : Lies d w t.items u) (hs : t.text.size ≤ 9223372036854775807) :
    Calls Tryz.prog 12 #[.int .i64 q, .agg #[.int .i64 t.kind, .int .i64 t.num, .string t.text, u]] w (VPost (timesT d q 1 t) (timesE d q 1 t) w) := by
  obtain ⟨a, c, rfl, _⟩ := Lies.slice hu
  have HL : Hid (Lies d w t.items (.slice a t.items.length c)) := hu
  clear hu
  have hb2 : Below w.heap.size w ((w.alloc (.cells #[.int .i64 t.kind, .int .i64 t.num, .string t.text, .slice a t.items.length c] 24)).alloc (.cells #[.int .i64 0, .int .i64 0, .string ⟨#[]⟩, .slice none 0 0] 24)) := (Grew.two _ _ _).below
  have HR : Hid (Bx ((w.alloc (.cells #[.int .i64 t.kind, .int .i64 t.num, .string t.text, .slice a t.items.length c] 24)).alloc (.cells #[.int .i64 0, .int .i64 0, .string ⟨#[]⟩, .slice none 0 0] 24)) (w.heap.size + 1) zeroT (.slice none 0 0)) := by
    have := bx_alloc (w.alloc (.cells #[.int .i64 t.kind, .int .i64 t.num, .string t.text, .slice a t.items.length c] 24)) zeroT (.slice none 0 0)
    rwa [World.size_alloc] at this
  go_enter Tryz.func12, Tryz.ntmps12
  go_wp2_with fail
  refine (times_any d q 1 t _ _ (Lies.keeps hb2 _ _ _ HL.out) hs).mono ?_
  rintro e w3 ⟨v, rfl, hl3, hb3⟩
  have HR3 : Hid (Bx w3 (w.heap.size + 1) zeroT (.slice none 0 0)) := HR.out.keeps hb3
  have hbw : Below w.heap.size w w3 := hb2.trans (hb3.mono hb2.size)
  generalize timesT d q 1 t = s at *
  generalize timesE d q 1 t = E at *
  obtain ⟨a3, c3, rfl, _⟩ := LiesX.slice hl3
  simp only [World.size_alloc] at hl3
  obtain ⟨y0, y1, y2, y3, z0, z1, z2, z3⟩ := HR3.out
  have Hbx : Hid (Bx (w3.setCells (w.heap.size + 1) 0 (encP (s, .slice a3 s.items.length c3))) (w.heap.size + 1) s (.slice a3 s.items.length c3)) := HR3.out.put (s, .slice a3 s.items.length c3)
  have Hbl : Hid (Below w.heap.size w (w3.setCells (w.heap.size + 1) 0 (encP (s, .slice a3 s.items.length c3)))) := below_put hbw (Nat.le_succ _) (s, .slice a3 s.items.length c3)
  have Hfin : Hid (LiesX (fun b => w.heap.size ≤ b) 16 (w3.setCells (w.heap.size + 1) 0 (encP (s, .slice a3 s.items.length c3))) s.items (.slice a3 s.items.length c3)) := (hl3.set (g := w.heap.size + 1) (by omega)).mono (fun b hb => by omega)
  clear hl3 hb3 hb2 HL HR
  go_wp2_with fail
  refine bodyPost_ret (v := .tuple #[.agg #[.int .i64 s.kind, .int .i64 s.num, .string s.text, .slice a3 s.items.length c3], .int .i64 E]) ?_ rfl ⟨_, rfl, Hfin.out, Hbl.out⟩
  obtain ⟨q0, q1, q2, q3, _, _, _, _⟩ := Hbx.out
  simp only [encP, World.setCells, Nat.zero_add, Nat.reduceAdd] at q0 q1 q2 q3
  simp [results, Tryz.results12, go_sem, q0, q1, q2, q3]

end Go.Proofs.YtofceccicmlmoaaGreat

namespace Go.Proofs.YtofceccicmlmoaaGreat
open Go.RowKit

/-- Is a number one of the table's? -/
def k5B (q : Int) : Bool := decide (0 ≤ q ∧ q ≤ 7)
theorem k5B_true {q : Int} (h0 : 0 ≤ q) (h7 : q ≤ 7) : k5B q = true := decide_eq_true ⟨h0, h7⟩
theorem k5B_false {q : Int} (h : ¬ (0 ≤ q ∧ q ≤ 7)) : k5B q = false := decide_eq_false h

theorem ret_bool {a b : Bool} (h : a = b) : Ending.returned (.bool a) = .returned (.bool b) := by rw [h]

theorem rkind5_any (q : Int) (w : World) : Calls Tryz.prog 17 #[.int .i64 q] w fun e w' => e = .returned (.bool (k5B q)) ∧ w' = w := by
  by_cases h0 : 0 ≤ q
  · by_cases h7 : q ≤ 7
    · go_enter Tryz.func17, Tryz.ntmps17
      go_wp2_with fail
      go_ret
      exact ⟨ret_bool (k5B_true h0 h7).symm, rfl⟩
    · go_enter Tryz.func17, Tryz.ntmps17
      go_wp2_with fail
      go_ret
      exact ⟨ret_bool (k5B_false (by omega)).symm, rfl⟩
  · go_enter Tryz.func17, Tryz.ntmps17
    go_wp2_with fail
    go_ret
    exact ⟨ret_bool (k5B_false (by omega)).symm, rfl⟩

end Go.Proofs.YtofceccicmlmoaaGreat

