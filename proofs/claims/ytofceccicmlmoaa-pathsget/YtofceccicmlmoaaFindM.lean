/-
  sort.Find and slices.BinarySearchFunc at values.
-/
import Derived.Test.YtofceccicmlmoaaTimes2
import Derived.Test.YtofceccicmlmoaaUtf
import Derived.Test.YtofceccicmlmoaaRotate
import Derived.Deep.RegionHeld3
namespace Go.Proofs.Ytofceccicmlmoaa
open Go.RowKit Go.Shelf

theorem egPl1 : ∀ args w, (callFunc 73 args).run Try.prog w = .ok (.enter 73 args) w := enters_of Try.func73 (by kernel_rfl) rfl
theorem egVC : ∀ args w, (callFunc 74 args).run Try.prog w = .ok (.enter 74 args) w := enters_of Try.func74 (by kernel_rfl) rfl

set_option maxRecDepth 100000 in
set_option maxHeartbeats 4000000 in
/-- sort.Find with a closure that only looks. -/
theorem find_any (n : Nat) (hn : n ≤ 65536) (B1 B2 : Nat) (g : Nat → Int) (w : World) (K : Nat) (hK : K ≤ n) (hlo : Hid (∀ i, i < n → i < K → 0 < g i)) (hhi : Hid (∀ i, i < n → K ≤ i → g i ≤ 0)) (F : Bool) (hF : Hid (F = (decide (K < n) && (g K == 0))))
    (hc : Hid (∀ (i : Nat) (W : World), i < n → Below w.heap.size w W → Calls Try.prog 73 #[.int .i64 (i : Int), .pointer (some ⟨B1, 0, none⟩), .pointer (some ⟨B2, 0, none⟩)] W fun e W' => e = .returned (.int .i64 (g i)) ∧ Below W.heap.size W W')) :
    Calls Try.prog 72 #[.int .i64 (n : Int), .func (.func 73) #[] #[.pointer (some ⟨B1, 0, none⟩), .pointer (some ⟨B2, 0, none⟩)]] w fun e w' => e = .returned (.tuple #[.int .i64 (K : Int), .bool F]) ∧ Below w.heap.size w w' := by
  have eg := egPl1
  go_enter Try.func72, Try.ntmps72
  go_wp2_with fail
  go_loopg [4, 6] n (fun q i j wr => ∃ a e : Nat, i = .int .i64 (a : Int) ∧ j = .int .i64 (e : Int) ∧ q = e - a ∧ a ≤ K ∧ K ≤ e ∧ e ≤ n ∧ Below w.heap.size w wr)
  case atStart => exact ⟨0, n, rfl, rfl, by omega, by omega, hK, Nat.le_refl _, Below.refl _ _⟩
  case round =>
    obtain ⟨a, e, rfl, rfl, hq, haK, hKe, hen, hbw⟩ := hrel
    have Hq : Hid _ := hq
    clear hq
    by_cases hlt : a < e
    · obtain ⟨h, hh⟩ : ∃ h, h = (a + e) / 2 := ⟨_, rfl⟩
      have Hh : Hid (h = (a + e) / 2) := hh
      have hl1 : h < n := by omega
      have hlti : (a : Int) < (e : Int) := by omega
      have hd : ((a : Int) + (e : Int)) / 2 = (h : Int) := by omega
      clear hh
      have HC := hc.out h wr hl1 hbw
      have HC2 : Hid (Calls Try.prog 73 #[.int .i64 (h : Int), .pointer (some ⟨B1, 0, none⟩), .pointer (some ⟨B2, 0, none⟩)] wr fun e W' => e = .returned (.int .i64 (g h)) ∧ Below wr.heap.size wr W') := HC
      have Hlo : Hid (h < K → 0 < g h) := fun hk => hlo.out h hl1 hk
      have Hhi : Hid (K ≤ h → g h ≤ 0) := fun hk => hhi.out h hl1 hk
      clear HC
      generalize g h = Z at *
      go_wp2_with (go_at_fn 73; refine Calls.mono HC2.out ?_; rintro e w4 ⟨rfl, hb4⟩; fail)
      go_at_fn 73
      refine Calls.mono HC2.out ?_
      rintro ee w4 ⟨rfl, hb4⟩
      have hb5 : Below w.heap.size w w4 := hbw.trans (hb4.mono hbw.size)
      clear hb4 hbw HC2
      by_cases hz : 0 < Z
      · have hhK : h < K := by
          by_cases hk : h < K
          · exact hk
          · have := Hhi.out (by omega); omega
        go_wp2_with fail
        go_roundg (e - (h + 1))
        case measure => have := Hq.out; have := Hh.out; omega
        case rel => exact ⟨h + 1, e, by go_num, rfl, rfl, by omega, hKe, hen, hb5⟩
      · have hhK : K ≤ h := by
          by_cases hk : h < K
          · exact absurd (Hlo.out hk) hz
          · omega
        go_wp2_with fail
        go_roundg (h - a)
        case measure => have := Hq.out; have := Hh.out; omega
        case rel => exact ⟨a, h, rfl, by go_num, rfl, haK, hhK, by have := Hh.out; omega, hb5⟩
    · have haK2 : a = K := by omega
      have hnlt : ¬ (a : Int) < (e : Int) := by omega
      subst haK2
      by_cases hend : a < n
      · have hendi : (a : Int) < (n : Int) := by omega
        have HFx : Hid (F = (g a == 0)) := by
          show _ = _
          rw [hF.out, decide_eq_true hend]; rfl
        have HC2 : Hid (Calls Try.prog 73 #[.int .i64 (a : Int), .pointer (some ⟨B1, 0, none⟩), .pointer (some ⟨B2, 0, none⟩)] wr fun e W' => e = .returned (.int .i64 (g a)) ∧ Below wr.heap.size wr W') := hc.out a wr hend hbw
        clear hlo hhi hF hc
        generalize g a = Z at *
        go_wp2_with (go_at_fn 73; refine Calls.mono HC2.out ?_; rintro e w4 ⟨rfl, hb4⟩; fail)
        go_at_fn 73
        refine Calls.mono HC2.out ?_
        rintro ee w4 ⟨rfl, hb4⟩
        have hb5 : Below w.heap.size w w4 := hbw.trans (hb4.mono hbw.size)
        clear hb4 hbw HC2
        go_wp2_with fail
        go_ret2
        exact ⟨by rw [HFx.out]; rfl, hb5⟩
      · have hendi : ¬ (a : Int) < (n : Int) := by omega
        have HFx : Hid (F = false) := by
          show _ = _
          rw [hF.out, decide_eq_false hend]; rfl
        clear hlo hhi hF hc
        go_wp2_with fail
        go_ret2
        exact ⟨by rw [HFx.out]; rfl, hbw⟩

set_option maxRecDepth 100000 in
set_option maxHeartbeats 4000000 in
/-- The closure of place: how s stands to a key. -/
theorem place1_any (t s : VT) (l : List VT) (B1 B2 i : Nat) (ax : Option Addr) (lx cx : Nat) (u : Value) (w : World) (hs : Bx w B1 s (.slice ax lx cx)) (ht : Bx w B2 t u) (hls : Lies 16 w s.items (.slice ax lx cx)) (hlt : Lies 17 w l u) (k : Nat) (hk : k = 2 * i) (hi : k < l.length) (hn : l.length ≤ 65536) :
    Calls Try.prog 73 #[.int .i64 (i : Int), .pointer (some ⟨B1, 0, none⟩), .pointer (some ⟨B2, 0, none⟩)] w fun e w' => e = .returned (.int .i64 (cmpV 16 s l[k])) ∧ Below w.heap.size w w' := by
  obtain ⟨a, c, rfl, hb, hr⟩ := hlt
  obtain ⟨b, o, rfl, hall⟩ := hr (fun e => by rw [e] at hi; simp at hi)
  obtain ⟨ux, p0, p1, p2, p3, p4, _⟩ := hall k hi
  clear hall hr
  obtain ⟨ay, cy, rfl, _⟩ := Lies.slice p4
  obtain ⟨q0, q1, q2, q3, _, _, _, _⟩ := hs
  obtain ⟨_, _, _, r3, _, _, _, _⟩ := ht
  have HC : Hid (∀ W, Below w.heap.size w W → Calls Try.prog 74 #[.agg #[.int .i64 s.kind, .int .i64 s.num, .string s.text, .slice ax lx cx], .agg #[.int .i64 l[k].kind, .int .i64 l[k].num, .string l[k].text, .slice ay l[k].items.length cy]] W fun e w' => e = .returned (.int .i64 (cmpV 16 s l[k])) ∧ Grew W w') := fun W hW => compare_any 16 s l[k] _ _ W (Lies.keeps hW _ _ _ hls) (Lies.keeps hW _ _ _ p4)
  clear p4 hls hb
  have hm : IntKind.i64.wrap (2 * (i : Int)) = (k : Int) := by rw [IntKind.wrap_i64]; omega
  have hki : (k : Int) < (l.length : Int) := by omega
  clear hk
  generalize l[k] = x at *
  generalize x.items.length = xl at *
  generalize cmpV 16 s x = Z at *
  generalize l.length = ll at *
  go_enter Try.func73, Try.ntmps73
  go_wp2_with fail
  go_region_held3 (fun w' => (w'.cell? ⟨b, o + k * 4, none⟩ = some (.int .i64 x.kind) ∧ w'.cell? ⟨b, o + k * 4 + 1, none⟩ = some (.int .i64 x.num) ∧ w'.cell? ⟨b, o + k * 4 + 2, none⟩ = some (.string x.text) ∧ w'.cell? ⟨b, o + k * 4 + 3, none⟩ = some (.slice ay xl cy)) ∧ (w'.cell? ⟨B1, 0, none⟩ = some (.int .i64 s.kind) ∧ w'.cell? ⟨B1, 1, none⟩ = some (.int .i64 s.num) ∧ w'.cell? ⟨B1, 2, none⟩ = some (.string s.text) ∧ w'.cell? ⟨B1, 3, none⟩ = some (.slice ax lx cx)) ∧ w'.cell? ⟨B2, 3, none⟩ = some (.slice (some ⟨b, o, none⟩) ll c)) (go_keep)
    (first | (go_at_call 74; refine Calls.mono (HC.out _ (Below.refl _ _).drew) ?_; rintro ee w1 ⟨rfl, hg1⟩; have hb1 : Below w.heap.size w w1 := (Below.refl _ _).drew.trans hg1.below; clear hg1; have p0 := cell_keeps hb1 p0; have p1 := cell_keeps hb1 p1; have p2 := cell_keeps hb1 p2; have p3 := cell_keeps hb1 p3; have q0 := cell_keeps hb1 q0; have q1 := cell_keeps hb1 q1; have q2 := cell_keeps hb1 q2; have q3 := cell_keeps hb1 q3; have r3 := cell_keeps hb1 r3))
  go_wp2_with fail
  go_ret
  exact ⟨rfl, hb1⟩

set_option maxRecDepth 100000 in
set_option maxHeartbeats 4000000 in
/-- slices.BinarySearchFunc at values, with value.Compare. -/
theorem bsearch_any (l : List VT) (v : Value) (s : VT) (us : Value) (w : World) (hv : Lies 17 w l v) (hs : Lies 16 w s.items us) (hlen : l.length ≤ 65536) (hup : Up16 l) :
    Calls Try.prog 75 #[v, .agg #[.int .i64 s.kind, .int .i64 s.num, .string s.text, us], .func (.func 74) #[] #[]] w fun e w' => e = .returned (.tuple #[.int .i64 (upN s l : Int), .bool (hasN s l)]) ∧ Below w.heap.size w w' := by
  obtain ⟨a, c, rfl, hcl⟩ := Lies.slice hv
  obtain ⟨ay, cy, rfl, _⟩ := Lies.slice hs
  have eg := egVC
  have HV : Hid (Lies 17 w l (.slice a l.length c)) := hv
  have HS : Hid (Lies 16 w s.items (.slice ay s.items.length cy)) := hs
  obtain ⟨K, hKe⟩ : ∃ K, K = upN s l := ⟨_, rfl⟩
  obtain ⟨F, hFe⟩ : ∃ F, F = hasN s l := ⟨_, rfl⟩
  have hK : K ≤ l.length := by rw [hKe]; exact upN_le s l
  have hlo : Hid (∀ t (h : t < l.length), t < K → cmpV 16 l[t] s < 0) := fun t h hk => upN_lo s l t h (by omega)
  have hhi : Hid (∀ t (h : t < l.length), K ≤ t → 0 ≤ cmpV 16 l[t] s) := fun t h hk => by have := upN_hi s l hup t h (by omega); omega
  have hF1 : Hid (∀ h : K < l.length, F = (cmpV 16 l[K] s == 0)) := fun h => by
    subst hKe; rw [hFe]; exact hasN_of h
  have hF2 : Hid (¬ K < l.length → F = false) := fun h => by
    subst hKe; rw [hFe]; exact hasN_none h
  rw [← hKe, ← hFe]
  clear hKe hFe hv hs hup
  have HB0 : Hid (Boxed (w.alloc (.cells #[.int .i64 s.kind, .int .i64 s.num, .string s.text, .slice ay s.items.length cy] 24)) w.heap.size s.kind s.num s.text (.slice ay s.items.length cy)) := boxed_alloc w _ _ _ _ _
  obtain ⟨ll, hll⟩ : ∃ ll, ll = l.length := ⟨_, rfl⟩
  have Hll : Hid (ll = l.length) := hll
  rw [← hll] at HV hcl hK hlen ⊢
  clear hll
  generalize s.items.length = ly at *
  go_enter Try.func75, Try.ntmps75
  go_wp2_with fail
  go_loopg [9, 10] ll (fun q i j wr => ∃ a e : Nat, i = .int .i64 (a : Int) ∧ j = .int .i64 (e : Int) ∧ q = e - a ∧ a ≤ K ∧ K ≤ e ∧ e ≤ ll ∧ Hid (Boxed wr w.heap.size s.kind s.num s.text (.slice ay ly cy)) ∧ Below w.heap.size w wr)
  case atStart => exact ⟨0, ll, rfl, rfl, by omega, by omega, hK, Nat.le_refl _, HB0, ((Grew.refl _).alloc _).below⟩
  case round =>
    obtain ⟨a2, e, rfl, rfl, hq, haK, hKe, hen, HB, hbw⟩ := hrel
    have Hq : Hid _ := hq
    clear hq HB0
    by_cases hlt : a2 < e
    · obtain ⟨h, hh⟩ : ∃ h, h = (a2 + e) / 2 := ⟨_, rfl⟩
      have Hh : Hid (h = (a2 + e) / 2) := hh
      have hl1 : h < l.length := by have := Hll.out; omega
      have hlti : (a2 : Int) < (e : Int) := by omega
      have hd : ((a2 : Int) + (e : Int)) / 2 = (h : Int) := by omega
      have hhi1 : (h : Int) < (ll : Int) := by have := Hll.out; omega
      clear hh
      obtain ⟨al', cl', he, _, hrow⟩ := HV.out
      injection he with e1 e2 e3
      subst e1 e3
      clear e2
      obtain ⟨b, o, rfl, hall⟩ := hrow (by intro e; rw [e] at hl1; simp at hl1)
      obtain ⟨ux, p0, p1, p2, p3, p4, _⟩ := hall h hl1
      clear hall hrow
      obtain ⟨ax, cx, rfl, _⟩ := Lies.slice p4
      have HC : Hid (∀ W, Below w.heap.size w W → Calls Try.prog 74 #[.agg #[.int .i64 l[h].kind, .int .i64 l[h].num, .string l[h].text, .slice ax l[h].items.length cx], .agg #[.int .i64 s.kind, .int .i64 s.num, .string s.text, .slice ay ly cy]] W fun e w' => e = .returned (.int .i64 (cmpV 16 l[h] s)) ∧ Grew W w') := fun W hW => compare_any 16 l[h] s _ _ W (Lies.keeps hW _ _ _ p4) (Lies.keeps hW _ _ _ HS.out)
      have Hlo : Hid (h < K → cmpV 16 l[h] s < 0) := fun hk => hlo.out h hl1 hk
      have Hhi : Hid (K ≤ h → 0 ≤ cmpV 16 l[h] s) := fun hk => hhi.out h hl1 hk
      clear p4
      generalize l[h] = x at *
      generalize x.items.length = xl at *
      generalize cmpV 16 x s = Z at *
      have p0 := cell_keeps hbw p0; have p1 := cell_keeps hbw p1; have p2 := cell_keeps hbw p2; have p3 := cell_keeps hbw p3
      obtain ⟨r0, r1, r2, r3⟩ := HB.out
      have hwl := hbw.size
      go_wp2_with fail
      go_region_held3 (fun w' => (w'.cell? ⟨b, o + h * 4, none⟩ = some (.int .i64 x.kind) ∧ w'.cell? ⟨b, o + h * 4 + 1, none⟩ = some (.int .i64 x.num) ∧ w'.cell? ⟨b, o + h * 4 + 2, none⟩ = some (.string x.text) ∧ w'.cell? ⟨b, o + h * 4 + 3, none⟩ = some (.slice ax xl cx)) ∧ (w'.cell? ⟨w.heap.size, 0, none⟩ = some (.int .i64 s.kind) ∧ w'.cell? ⟨w.heap.size, 1, none⟩ = some (.int .i64 s.num) ∧ w'.cell? ⟨w.heap.size, 2, none⟩ = some (.string s.text) ∧ w'.cell? ⟨w.heap.size, 3, none⟩ = some (.slice ay ly cy))) (go_keep)
        (first | (go_at_fn 74; refine Calls.mono (HC.out _ hbw.drew) ?_; rintro ee w1 ⟨rfl, hg1⟩; have hb1' : Below wr.heap.size wr w1 := (Below.refl _ _).drew.trans hg1.below; have hb1 : Below w.heap.size w w1 := hbw.trans (hb1'.mono hwl); have HB1 : Hid (Boxed w1 w.heap.size s.kind s.num s.text (.slice ay ly cy)) := HB.out.keeps hb1'; clear hg1; have p0 := cell_keeps hb1' p0; have p1 := cell_keeps hb1' p1; have p2 := cell_keeps hb1' p2; have p3 := cell_keeps hb1' p3; have r0 := cell_keeps hb1' r0; have r1 := cell_keeps hb1' r1; have r2 := cell_keeps hb1' r2; have r3 := cell_keeps hb1' r3))
      clear p0 p1 p2 p3 r0 r1 r2 r3 hb1' HB
      by_cases hz : Z < 0
      · have hhK : h < K := by
          by_cases hk : h < K
          · exact hk
          · have := Hhi.out (by omega); omega
        go_wp2_with fail
        go_roundg (e - (h + 1))
        case measure => have := Hq.out; have := Hh.out; omega
        case rel => exact ⟨h + 1, e, by go_num, rfl, rfl, by omega, hKe, hen, HB1, hb1⟩
      · have hhK : K ≤ h := by
          by_cases hk : h < K
          · exact absurd (Hlo.out hk) hz
          · omega
        go_wp2_with fail
        go_roundg (h - a2)
        case measure => have := Hq.out; have := Hh.out; omega
        case rel => exact ⟨a2, h, rfl, by go_num, rfl, haK, hhK, by have := Hh.out; omega, HB1, hb1⟩
    · have haK2 : a2 = K := by omega
      have hnlt : ¬ (a2 : Int) < (e : Int) := by omega
      subst haK2
      by_cases hend : a2 < ll
      · have hl1 : a2 < l.length := by have := Hll.out; omega
        have hendi : (a2 : Int) < (ll : Int) := by omega
        obtain ⟨al', cl', he, _, hrow⟩ := HV.out
        injection he with e1 e2 e3
        subst e1 e3
        clear e2
        obtain ⟨b, o, rfl, hall⟩ := hrow (by intro e; rw [e] at hl1; simp at hl1)
        obtain ⟨ux, p0, p1, p2, p3, p4, _⟩ := hall a2 hl1
        clear hall hrow
        obtain ⟨ax, cx, rfl, _⟩ := Lies.slice p4
        have HFx : Hid (F = (cmpV 16 l[a2] s == 0)) := hF1.out hl1
        have HC : Hid (∀ W, Below w.heap.size w W → Calls Try.prog 74 #[.agg #[.int .i64 l[a2].kind, .int .i64 l[a2].num, .string l[a2].text, .slice ax l[a2].items.length cx], .agg #[.int .i64 s.kind, .int .i64 s.num, .string s.text, .slice ay ly cy]] W fun e w' => e = .returned (.int .i64 (cmpV 16 l[a2] s)) ∧ Grew W w') := fun W hW => compare_any 16 l[a2] s _ _ W (Lies.keeps hW _ _ _ p4) (Lies.keeps hW _ _ _ HS.out)
        clear p4
        generalize l[a2] = x at *
        generalize x.items.length = xl at *
        generalize cmpV 16 x s = Z at *
        have p0 := cell_keeps hbw p0; have p1 := cell_keeps hbw p1; have p2 := cell_keeps hbw p2; have p3 := cell_keeps hbw p3
        obtain ⟨r0, r1, r2, r3⟩ := HB.out
        have hwl := hbw.size
        clear hlo hhi hF1 hF2
        go_wp2_with fail
        go_region_held3 (fun w' => (w'.cell? ⟨b, o + a2 * 4, none⟩ = some (.int .i64 x.kind) ∧ w'.cell? ⟨b, o + a2 * 4 + 1, none⟩ = some (.int .i64 x.num) ∧ w'.cell? ⟨b, o + a2 * 4 + 2, none⟩ = some (.string x.text) ∧ w'.cell? ⟨b, o + a2 * 4 + 3, none⟩ = some (.slice ax xl cx)) ∧ (w'.cell? ⟨w.heap.size, 0, none⟩ = some (.int .i64 s.kind) ∧ w'.cell? ⟨w.heap.size, 1, none⟩ = some (.int .i64 s.num) ∧ w'.cell? ⟨w.heap.size, 2, none⟩ = some (.string s.text) ∧ w'.cell? ⟨w.heap.size, 3, none⟩ = some (.slice ay ly cy))) (go_keep)
          (first | (go_at_fn 74; refine Calls.mono (HC.out _ hbw.drew) ?_; rintro ee w1 ⟨rfl, hg1⟩; have hb1' : Below wr.heap.size wr w1 := (Below.refl _ _).drew.trans hg1.below; have hb1 : Below w.heap.size w w1 := hbw.trans (hb1'.mono hwl); clear hg1; have p0 := cell_keeps hb1' p0; have p1 := cell_keeps hb1' p1; have p2 := cell_keeps hb1' p2; have p3 := cell_keeps hb1' p3; have r0 := cell_keeps hb1' r0; have r1 := cell_keeps hb1' r1; have r2 := cell_keeps hb1' r2; have r3 := cell_keeps hb1' r3))
        clear p0 p1 p2 p3 r0 r1 r2 r3 hb1' HB
        go_wp2_with fail
        go_ret2
        exact ⟨by rw [HFx.out]; rfl, hb1⟩
      · have hendi : ¬ (a2 : Int) < (ll : Int) := by omega
        have HFx : Hid (F = false) := hF2.out (by have := Hll.out; omega)
        clear hlo hhi hF1 hF2
        go_wp2_with fail
        go_region
        go_wp2_with fail
        go_ret2
        exact ⟨by rw [HFx.out]; rfl, hbw.drew⟩

end Go.Proofs.Ytofceccicmlmoaa

