/-
  A map with something under a key, as the document makes it, plainly: its pairs and one more, sorted, the last of equal ones; that is what put makes of it.
-/
import Derived.Test.YtofceccicmlmoaaGreatWalkT
import Derived.Test.YtofceccicmlmoaaGreatMapP
import Derived.Deep.RegionHeld3
namespace Go.Proofs.YtofceccicmlmoaaGreat
open Go.RowKit Go.Shelf

theorem upN_at {s : VT} {ks : List VT} (h : Up16 ks) (j : Nat) (hj : j < ks.length) (hz : cmpV 16 ks[j] s = 0) : upN s ks = j ∧ hasN s ks = true := by
  have h1 : ¬ upN s ks < j := fun hl => by
    have h2 := upN_hi s ks h (upN s ks) (by omega) (Nat.le_refl _)
    have h3 := List.pairwise_iff_getElem.1 h (upN s ks) j (by omega) hj hl
    exact h2 (cmp_lt_le h3 (by omega))
  have h4 : ¬ j < upN s ks := fun hl => by
    have := upN_lo s ks j hj hl
    omega
  have h5 : upN s ks = j := by omega
  refine ⟨h5, ?_⟩
  unfold hasN
  rw [h5, List.getElem?_eq_getElem hj]
  simp [hz]

theorem hasN_no {s : VT} {ks : List VT} (h : ∀ j (hj : j < ks.length), ¬ cmpV 16 ks[j] s = 0) : hasN s ks = false := by
  by_cases hl : upN s ks < ks.length
  · rw [hasN_of hl]
    have := h _ hl
    simpa using this
  · exact hasN_none hl

def idxB (t s : VT) : Bool := t.kind == 4 && (s.kind == 2 && (decide (0 ≤ s.num) && decide (s.num < (t.items.length : Int))))
def keyB (t s : VT) : Bool := t.kind == 6 && hasN s (keysOf t.items)
def memB (t s : VT) : Bool := t.kind == 5 && hasN s t.items
def keyI (t s : VT) : Nat := if keyB t s = true then 2 * upN s (keysOf t.items) else 0
def memI (t s : VT) : Nat := if memB t s = true then upN s t.items else 0

set_option maxRecDepth 100000 in
set_option maxHeartbeats 4000000 in
theorem rindex_any (t s : VT) (a ay : Option Addr) (c ly cy : Nat) (w : World) :
    Calls Tryz.prog 40 #[.agg #[.int .i64 t.kind, .int .i64 t.num, .string t.text, .slice a t.items.length c], .agg #[.int .i64 s.kind, .int .i64 s.num, .string s.text, .slice ay ly cy]] w fun e w' => e = .returned (.tuple #[.int .i64 (if idxB t s = true then s.num else 0), .bool (idxB t s)]) ∧ Below w.heap.size w w' := by
  have hal : Below w.heap.size w ((w.alloc (.cells #[.int .i64 t.kind, .int .i64 t.num, .string t.text, .slice a t.items.length c] 24)).alloc (.cells #[.int .i64 s.kind, .int .i64 s.num, .string s.text, .slice ay ly cy] 24)) := (Grew.two _ _ _).below
  have HE : Hid (idxB t s = (t.kind == 4 && (s.kind == 2 && (decide (0 ≤ s.num) && decide (s.num < (t.items.length : Int)))))) := rfl
  generalize idxB t s = B at *
  obtain ⟨tk, tn, tx, ti⟩ := t
  obtain ⟨sk, sn, sx, si⟩ := s
  simp only at HE hal ⊢
  generalize ti.length = L at *
  by_cases h4 : tk = 4
  · subst h4
    by_cases h2 : sk = 2
    · subst h2
      by_cases h0 : sn < 0
      · have hB : B = false := by rw [HE.out]; simp; omega
        subst hB
        clear HE
        go_enter Tryz.func40, Tryz.ntmps40
        go_wp2_with fail
        exact bodyPost_ret (v := .tuple #[.int .i64 0, .bool false]) (by simp [results, Tryz.results40, go_sem]) rfl ⟨rfl, hal⟩
      · by_cases hl : sn < (L : Int)
        · have hB : B = true := by rw [HE.out]; simp; omega
          have hge : ¬ sn ≥ (L : Int) := by omega
          subst hB
          clear HE
          go_enter Tryz.func40, Tryz.ntmps40
          go_wp2_with fail
          exact bodyPost_ret (v := .tuple #[.int .i64 sn, .bool true]) (by simp [results, Tryz.results40, go_sem]) rfl ⟨rfl, hal⟩
        · have hB : B = false := by rw [HE.out]; simp; omega
          have hge : sn ≥ (L : Int) := by omega
          subst hB
          clear HE
          go_enter Tryz.func40, Tryz.ntmps40
          go_wp2_with fail
          exact bodyPost_ret (v := .tuple #[.int .i64 0, .bool false]) (by simp [results, Tryz.results40, go_sem]) rfl ⟨rfl, hal⟩
    · have hB : B = false := by rw [HE.out]; simp [h2]
      have h2' : (sk != 2) = true := by simpa using h2
      subst hB
      clear HE
      go_enter Tryz.func40, Tryz.ntmps40
      go_wp2_with fail
      exact bodyPost_ret (v := .tuple #[.int .i64 0, .bool false]) (by simp [results, Tryz.results40, go_sem]) rfl ⟨rfl, hal⟩
  · have hB : B = false := by rw [HE.out]; simp [h4]
    have h4' : (tk != 4) = true := by simpa using h4
    subst hB
    clear HE
    go_enter Tryz.func40, Tryz.ntmps40
    go_wp2_with fail
    exact bodyPost_ret (v := .tuple #[.int .i64 0, .bool false]) (by simp [results, Tryz.results40, go_sem]) rfl ⟨rfl, hal⟩

set_option maxRecDepth 100000 in
set_option maxHeartbeats 8000000 in
theorem rkey_any (t s : VT) (a ay : Option Addr) (c cy : Nat) (w : World) (ht : Lies 16 w t.items (.slice a t.items.length c)) (hs : Lies 16 w s.items (.slice ay s.items.length cy)) (hr : rightV 16 t = true) :
    Calls Tryz.prog 61 #[.agg #[.int .i64 t.kind, .int .i64 t.num, .string t.text, .slice a t.items.length c], .agg #[.int .i64 s.kind, .int .i64 s.num, .string s.text, .slice ay s.items.length cy]] w fun e w' => e = .returned (.tuple #[.int .i64 (keyI t s : Nat), .bool (keyB t s)]) ∧ Below w.heap.size w w' := by
  have hd := Dp.of_lies 16 w t _ ht
  have hlen : t.items.length ≤ 1024 := right_len hr
  have hal : Below w.heap.size w ((w.alloc (.cells #[.int .i64 t.kind, .int .i64 t.num, .string t.text, .slice a t.items.length c] 24)).alloc (.cells #[.int .i64 s.kind, .int .i64 s.num, .string s.text, .slice ay s.items.length cy] 24)) := (Grew.two _ _ _).below
  have HBt : Hid (Bx ((w.alloc (.cells #[.int .i64 t.kind, .int .i64 t.num, .string t.text, .slice a t.items.length c] 24)).alloc (.cells #[.int .i64 s.kind, .int .i64 s.num, .string s.text, .slice ay s.items.length cy] 24)) w.heap.size t (.slice a t.items.length c)) := (bx_alloc w t _).keeps ((Grew.refl _).alloc _).below
  have HBs : Hid (Bx ((w.alloc (.cells #[.int .i64 t.kind, .int .i64 t.num, .string t.text, .slice a t.items.length c] 24)).alloc (.cells #[.int .i64 s.kind, .int .i64 s.num, .string s.text, .slice ay s.items.length cy] 24)) (w.heap.size + 1) s (.slice ay s.items.length cy)) := by
    have := bx_alloc (w.alloc (.cells #[.int .i64 t.kind, .int .i64 t.num, .string t.text, .slice a t.items.length c] 24)) s (.slice ay s.items.length cy)
    rwa [World.size_alloc] at this
  have HSm : Hid (∀ (x : VT) (ax : Option Addr) (cx : Nat) (W : World), Below w.heap.size w W → Lies 16 w x.items (.slice ax x.items.length cx) → Calls Tryz.prog 88 #[.agg #[.int .i64 x.kind, .int .i64 x.num, .string x.text, .slice ax x.items.length cx], .agg #[.int .i64 s.kind, .int .i64 s.num, .string s.text, .slice ay s.items.length cy]] W fun e w' => e = .returned (.bool (cmpV 16 x s == 0)) ∧ Below W.heap.size W w') := fun x ax cx W hW hx => rsame26_any x s _ _ W (Lies.keeps hW _ _ _ hx) (Lies.keeps hW _ _ _ hs)
  have HYes : Hid (t.kind = 6 → ∀ k (h : 2 * k + 1 < t.items.length), cmpV 16 (t.items[2 * k]'(by omega)) s = 0 → keyI t s = 2 * k ∧ keyB t s = true) := fun h6 k h hz => by
    obtain ⟨he, hu⟩ := map_keys hr hd h6
    have hkl := keysOf_len t.items
    have hg := keysOf_get t.items k h
    have hk : k < (keysOf t.items).length := by omega
    rw [List.getElem?_eq_getElem hk, List.getElem?_eq_getElem (by omega)] at hg
    injection hg with hg
    obtain ⟨h1, h2⟩ := upN_at hu k hk (by rw [hg]; exact hz)
    have hb : keyB t s = true := by unfold keyB; rw [h6, h2]; rfl
    exact ⟨by unfold keyI; rw [if_pos hb, h1], hb⟩
  have HNo : Hid ((t.kind = 6 → ∀ k (h : 2 * k + 1 < t.items.length), ¬ cmpV 16 (t.items[2 * k]'(by omega)) s = 0) → keyI t s = 0 ∧ keyB t s = false) := fun hn => by
    have hb : keyB t s = false := by
      unfold keyB
      by_cases h6 : t.kind = 6
      · rw [hasN_no (fun j hj => ?_), Bool.and_false]
        have hkl := keysOf_len t.items
        have h2 : 2 * j + 1 < t.items.length := by omega
        have hg := keysOf_get t.items j h2
        rw [List.getElem?_eq_getElem hj, List.getElem?_eq_getElem (by omega)] at hg
        injection hg with hg
        rw [hg]
        exact hn h6 j h2
      · have : (t.kind == 6) = false := by simpa using h6
        rw [this, Bool.false_and]
    exact ⟨by unfold keyI; rw [hb]; rfl, hb⟩
  have Hev : Hid (t.kind = 6 → t.items.length % 2 = 0) := fun h6 => (map_keys hr hd h6).1
  obtain ⟨R, hR⟩ : ∃ R, R = keyI t s := ⟨_, rfl⟩
  obtain ⟨B, hB⟩ : ∃ B, B = keyB t s := ⟨_, rfl⟩
  rw [← hR, ← hB] at HYes HNo ⊢
  obtain ⟨a0, c0, hv, _, hrow⟩ := ht
  injection hv with e1 _ e3
  subst e1
  subst e3
  have Hr : Hid _ := hrow
  clear hrow hs hr hd hR hB
  by_cases h6 : t.kind = 6
  · have HY2 : Hid (∀ k (h : 2 * k + 1 < t.items.length), cmpV 16 (t.items[2 * k]'(by omega)) s = 0 → R = 2 * k ∧ B = true) := HYes.out h6
    have HN2 : Hid ((∀ k (h : 2 * k + 1 < t.items.length), ¬ cmpV 16 (t.items[2 * k]'(by omega)) s = 0) → R = 0 ∧ B = false) := fun h => HNo.out (fun _ => h)
    have Hev2 : Hid (t.items.length % 2 = 0) := Hev.out h6
    clear HYes HNo Hev
    rw [h6] at HBs hal ⊢
    clear HBt
    obtain ⟨tt, htt⟩ : ∃ tt : VT, tt = ⟨6, t.num, t.text, t.items⟩ := ⟨_, rfl⟩
    go_enter Tryz.func61, Tryz.ntmps61
    go_wp2_with fail
    go_loopg [6] (t.items.length + 2) (fun z i wr => ∃ k J : Nat, i = .int .i64 (J : Int) ∧ Hid (J = 2 * k) ∧ z = t.items.length + 2 - J ∧ J ≤ t.items.length ∧ Hid (∀ j (hj : 2 * j + 1 < t.items.length), j < k → ¬ cmpV 16 (t.items[2 * j]'(by omega)) s = 0) ∧ wr.cell? ⟨w.heap.size, 0, none⟩ = some (.int .i64 6) ∧ wr.cell? ⟨w.heap.size, 3, none⟩ = some (.slice a t.items.length c) ∧ Hid (Bx wr (w.heap.size + 1) s (.slice ay s.items.length cy)) ∧ Below w.heap.size w wr)
    case atStart => exact ⟨0, 0, rfl, rfl, rfl, Nat.zero_le _, fun j hj h => by omega, by simp, by simp, HBs, hal⟩
    case round =>
      obtain ⟨k, J, rfl, HJ, hk, hJL, HD, c0, c3, HB, hbw⟩ := hrel
      have Hk : Hid _ := hk
      clear hk hal HBs
      have hwl := hbw.size
      by_cases hlt : J + 1 < t.items.length
      · have hji : (J : Int) + 1 < (t.items.length : Nat) := by omega
        have hj1 : J < t.items.length := by omega
        have hj2 : (J : Int) < (t.items.length : Nat) := by omega
        have hwJ : IntKind.i64.wrap ((J : Int) + 1) = (J : Int) + 1 := by rw [IntKind.wrap_i64]; omega
        obtain ⟨b, o, rfl, hall⟩ := Hr.out (by intro e; simp [e] at hj1)
        have Hy : Hid (cmpV 16 t.items[J] s = 0 → R = J ∧ B = true) := by
          intro hz
          have hj := HJ.out
          subst hj
          exact HY2.out k (by omega) hz
        have Hn : Hid (¬ cmpV 16 t.items[J] s = 0 → ∀ j (hj : 2 * j + 1 < t.items.length), j < k + 1 → ¬ cmpV 16 (t.items[2 * j]'(by omega)) s = 0) := fun hz j hj hjk => by
          have hJ := HJ.out
          subst hJ
          by_cases e : j < k
          · exact HD.out j hj e
          · obtain rfl : j = k := by omega
            exact hz
        obtain ⟨xv, p0, p1, p2, p3, p4, _⟩ := hall J hj1
        obtain ⟨ax, cx, rfl, _⟩ := Lies.slice p4
        have HX : Hid (Lies 16 w t.items[J].items (.slice ax t.items[J].items.length cx)) := p4.atLeast 16 (by omega)
        clear hall HD p4
        generalize t.items[J] = x at *
        have p0 := cell_keeps hbw p0; have p1 := cell_keeps hbw p1; have p2 := cell_keeps hbw p2; have p3 := cell_keeps hbw p3
        obtain ⟨r0, r1, r2, r3, _, _, _, _⟩ := HB.out
        go_wp2_with fail
        go_region_held3 (fun w' => w'.cell? ⟨w.heap.size, 3, none⟩ = some (.slice (some ⟨b, o, none⟩) t.items.length c) ∧ (w'.cell? ⟨b, o + J * 4, none⟩ = some (.int .i64 x.kind) ∧ w'.cell? ⟨b, o + J * 4 + 1, none⟩ = some (.int .i64 x.num) ∧ w'.cell? ⟨b, o + J * 4 + 2, none⟩ = some (.string x.text) ∧ w'.cell? ⟨b, o + J * 4 + 3, none⟩ = some (.slice ax x.items.length cx)) ∧ (w'.cell? ⟨w.heap.size + 1, 0, none⟩ = some (.int .i64 s.kind) ∧ w'.cell? ⟨w.heap.size + 1, 1, none⟩ = some (.int .i64 s.num) ∧ w'.cell? ⟨w.heap.size + 1, 2, none⟩ = some (.string s.text) ∧ w'.cell? ⟨w.heap.size + 1, 3, none⟩ = some (.slice ay s.items.length cy))) (go_keep)
          (first | (go_at_call 88; refine (HSm.out x ax cx _ hbw.drew HX.out).mono ?_; rintro e w4 ⟨rfl, hg1⟩; have hb4' : Below wr.heap.size wr w4 := (Below.refl _ _).drew.trans hg1; have hb4 : Below w.heap.size w w4 := hbw.trans (hb4'.mono hwl); have HB4 : Hid (Bx w4 (w.heap.size + 1) s (.slice ay s.items.length cy)) := HB.out.keeps hb4'; clear hg1; have c0 := cell_keeps hb4' c0; have c3 := cell_keeps hb4' c3; have p0 := cell_keeps hb4' p0; have p1 := cell_keeps hb4' p1; have p2 := cell_keeps hb4' p2; have p3 := cell_keeps hb4' p3; have r0 := cell_keeps hb4' r0; have r1 := cell_keeps hb4' r1; have r2 := cell_keeps hb4' r2; have r3 := cell_keeps hb4' r3))
        clear p0 p1 p2 p3 r0 r1 r2 r3 hb4' HB hbw
        by_cases hz : cmpV 16 x s = 0
        · obtain ⟨e1, e2⟩ := Hy.out hz
          have hz' : (cmpV 16 x s == 0) = true := by simpa using hz
          rw [hz']
          clear Hy Hn hz hz'
          subst e2
          have HR : Hid (R = J) := e1
          clear e1
          go_wp2_with fail
          exact bodyPost_ret (v := .tuple #[.int .i64 J, .bool true]) (by simp [results, Tryz.results61, go_sem]) rfl ⟨by rw [HR.out], hb4⟩
        · have HD2 : Hid _ := Hn.out hz
          have hz' : (cmpV 16 x s == 0) = false := by simpa using hz
          rw [hz']
          clear Hy Hn hz hz'
          go_wp2_with fail
          go_roundg (t.items.length + 2 - (J + 2))
          case measure => have := Hk.out; omega
          case rel => exact ⟨k + 1, J + 2, by go_num, (by show _ = _; have := HJ.out; omega), rfl, (by have := Hev2.out; have := HJ.out; omega), HD2, c0, c3, HB4, hb4⟩
      · have hji : ¬ (J : Int) + 1 < (t.items.length : Nat) := by omega
        have hwJ : IntKind.i64.wrap ((J : Int) + 1) = (J : Int) + 1 := by rw [IntKind.wrap_i64]; omega
        obtain ⟨e1, e2⟩ := HN2.out (fun j hj => HD.out j hj (by have := HJ.out; omega))
        subst e2
        have HR : Hid (R = 0) := e1
        clear e1 HD HB
        go_wp2_with fail
        exact bodyPost_ret (v := .tuple #[.int .i64 0, .bool false]) (by simp [results, Tryz.results61, go_sem]) rfl ⟨by rw [HR.out]; rfl, hbw⟩
  · obtain ⟨e1, e2⟩ := HNo.out (fun h => absurd h h6)
    subst e2
    have HR : Hid (R = 0) := e1
    clear e1 HYes HNo Hev
    have h6' : (t.kind == 6) = false := by simpa using h6
    go_enter Tryz.func61, Tryz.ntmps61
    go_wp2_with fail
    go_loopg [6] 1 (fun z i wr => z = 1 ∧ i = .int .i64 0 ∧ wr.cell? ⟨w.heap.size, 0, none⟩ = some (.int .i64 t.kind) ∧ Below w.heap.size w wr)
    case atStart => exact ⟨rfl, rfl, by simp, hal⟩
    case round =>
      obtain ⟨_, rfl, c0, hbw⟩ := hrel
      clear hal HBt HBs
      go_wp2_with fail
      exact bodyPost_ret (v := .tuple #[.int .i64 0, .bool false]) (by simp [results, Tryz.results61, go_sem]) rfl ⟨by rw [HR.out]; rfl, hbw⟩

end Go.Proofs.YtofceccicmlmoaaGreat

namespace Go.Proofs.YtofceccicmlmoaaGreat
open Go.RowKit Go.Shelf

set_option maxRecDepth 100000 in
set_option maxHeartbeats 8000000 in
theorem rmember_any (t s : VT) (a ay : Option Addr) (c cy : Nat) (w : World) (ht : Lies 16 w t.items (.slice a t.items.length c)) (hs : Lies 16 w s.items (.slice ay s.items.length cy)) (hr : rightV 16 t = true) :
    Calls Tryz.prog 62 #[.agg #[.int .i64 t.kind, .int .i64 t.num, .string t.text, .slice a t.items.length c], .agg #[.int .i64 s.kind, .int .i64 s.num, .string s.text, .slice ay s.items.length cy]] w fun e w' => e = .returned (.tuple #[.int .i64 (memI t s : Nat), .bool (memB t s)]) ∧ Below w.heap.size w w' := by
  have hd := Dp.of_lies 16 w t _ ht
  have hlen : t.items.length ≤ 1024 := right_len hr
  have hal : Below w.heap.size w ((w.alloc (.cells #[.int .i64 t.kind, .int .i64 t.num, .string t.text, .slice a t.items.length c] 24)).alloc (.cells #[.int .i64 s.kind, .int .i64 s.num, .string s.text, .slice ay s.items.length cy] 24)) := (Grew.two _ _ _).below
  have HBt : Hid (Bx ((w.alloc (.cells #[.int .i64 t.kind, .int .i64 t.num, .string t.text, .slice a t.items.length c] 24)).alloc (.cells #[.int .i64 s.kind, .int .i64 s.num, .string s.text, .slice ay s.items.length cy] 24)) w.heap.size t (.slice a t.items.length c)) := (bx_alloc w t _).keeps ((Grew.refl _).alloc _).below
  have HBs : Hid (Bx ((w.alloc (.cells #[.int .i64 t.kind, .int .i64 t.num, .string t.text, .slice a t.items.length c] 24)).alloc (.cells #[.int .i64 s.kind, .int .i64 s.num, .string s.text, .slice ay s.items.length cy] 24)) (w.heap.size + 1) s (.slice ay s.items.length cy)) := by
    have := bx_alloc (w.alloc (.cells #[.int .i64 t.kind, .int .i64 t.num, .string t.text, .slice a t.items.length c] 24)) s (.slice ay s.items.length cy)
    rwa [World.size_alloc] at this
  have HSm : Hid (∀ (x : VT) (ax : Option Addr) (cx : Nat) (W : World), Below w.heap.size w W → Lies 16 w x.items (.slice ax x.items.length cx) → Calls Tryz.prog 88 #[.agg #[.int .i64 x.kind, .int .i64 x.num, .string x.text, .slice ax x.items.length cx], .agg #[.int .i64 s.kind, .int .i64 s.num, .string s.text, .slice ay s.items.length cy]] W fun e w' => e = .returned (.bool (cmpV 16 x s == 0)) ∧ Below W.heap.size W w') := fun x ax cx W hW hx => rsame26_any x s _ _ W (Lies.keeps hW _ _ _ hx) (Lies.keeps hW _ _ _ hs)
  have HYes : Hid (t.kind = 5 → ∀ k (h : k < t.items.length), cmpV 16 t.items[k] s = 0 → memI t s = k ∧ memB t s = true) := fun h6 k h hz => by
    have hu := set_items hr hd h6
    obtain ⟨h1, h2⟩ := upN_at hu k h hz
    have hb : memB t s = true := by unfold memB; rw [h6, h2]; rfl
    exact ⟨by unfold memI; rw [if_pos hb, h1], hb⟩
  have HNo : Hid ((t.kind = 5 → ∀ k (h : k < t.items.length), ¬ cmpV 16 t.items[k] s = 0) → memI t s = 0 ∧ memB t s = false) := fun hn => by
    have hb : memB t s = false := by
      unfold memB
      by_cases h6 : t.kind = 5
      · rw [hasN_no (fun j hj => hn h6 j hj), Bool.and_false]
      · have : (t.kind == 5) = false := by simpa using h6
        rw [this, Bool.false_and]
    exact ⟨by unfold memI; rw [hb]; rfl, hb⟩
  have Hev : Hid (t.kind = 5 → t.items.length % 1 = 0) := fun h6 => Nat.mod_one _
  obtain ⟨R, hR⟩ : ∃ R, R = memI t s := ⟨_, rfl⟩
  obtain ⟨B, hB⟩ : ∃ B, B = memB t s := ⟨_, rfl⟩
  rw [← hR, ← hB] at HYes HNo ⊢
  obtain ⟨a0, c0, hv, _, hrow⟩ := ht
  injection hv with e1 _ e3
  subst e1
  subst e3
  have Hr : Hid _ := hrow
  clear hrow hs hr hd hR hB
  by_cases h6 : t.kind = 5
  · have HY2 : Hid (∀ k (h : k < t.items.length), cmpV 16 t.items[k] s = 0 → R = k ∧ B = true) := HYes.out h6
    have HN2 : Hid ((∀ k (h : k < t.items.length), ¬ cmpV 16 t.items[k] s = 0) → R = 0 ∧ B = false) := fun h => HNo.out (fun _ => h)
    have Hev2 : Hid (t.items.length % 1 = 0) := Hev.out h6
    clear HYes HNo Hev
    rw [h6] at HBs hal ⊢
    clear HBt
    obtain ⟨tt, htt⟩ : ∃ tt : VT, tt = ⟨5, t.num, t.text, t.items⟩ := ⟨_, rfl⟩
    go_enter Tryz.func62, Tryz.ntmps62
    go_wp2_with fail
    go_loopg [6] (t.items.length + 2) (fun z i wr => ∃ k J : Nat, i = .int .i64 (J : Int) ∧ Hid (J = k) ∧ z = t.items.length + 2 - J ∧ J ≤ t.items.length ∧ Hid (∀ j (hj : j < t.items.length), j < k → ¬ cmpV 16 t.items[j] s = 0) ∧ wr.cell? ⟨w.heap.size, 0, none⟩ = some (.int .i64 5) ∧ wr.cell? ⟨w.heap.size, 3, none⟩ = some (.slice a t.items.length c) ∧ Hid (Bx wr (w.heap.size + 1) s (.slice ay s.items.length cy)) ∧ Below w.heap.size w wr)
    case atStart => exact ⟨0, 0, rfl, rfl, rfl, Nat.zero_le _, fun j hj h => by omega, by simp, by simp, HBs, hal⟩
    case round =>
      obtain ⟨k, J, rfl, HJ, hk, hJL, HD, c0, c3, HB, hbw⟩ := hrel
      have Hk : Hid _ := hk
      clear hk hal HBs
      have hwl := hbw.size
      by_cases hlt : J < t.items.length
      · have hji : (J : Int) < (t.items.length : Nat) := by omega
        have hj1 : J < t.items.length := by omega
        have hj2 : (J : Int) < (t.items.length : Nat) := by omega
        skip
        obtain ⟨b, o, rfl, hall⟩ := Hr.out (by intro e; simp [e] at hj1)
        have Hy : Hid (cmpV 16 t.items[J] s = 0 → R = J ∧ B = true) := by
          intro hz
          have hj := HJ.out
          subst hj
          exact HY2.out J (by omega) hz
        have Hn : Hid (¬ cmpV 16 t.items[J] s = 0 → ∀ j (hj : j < t.items.length), j < k + 1 → ¬ cmpV 16 t.items[j] s = 0) := fun hz j hj hjk => by
          have hJ := HJ.out
          subst hJ
          by_cases e : j < J
          · exact HD.out j hj e
          · obtain rfl : j = J := by omega
            exact hz
        obtain ⟨xv, p0, p1, p2, p3, p4, _⟩ := hall J hj1
        obtain ⟨ax, cx, rfl, _⟩ := Lies.slice p4
        have HX : Hid (Lies 16 w t.items[J].items (.slice ax t.items[J].items.length cx)) := p4.atLeast 16 (by omega)
        clear hall HD p4
        generalize t.items[J] = x at *
        have p0 := cell_keeps hbw p0; have p1 := cell_keeps hbw p1; have p2 := cell_keeps hbw p2; have p3 := cell_keeps hbw p3
        obtain ⟨r0, r1, r2, r3, _, _, _, _⟩ := HB.out
        go_wp2_with fail
        go_region_held3 (fun w' => w'.cell? ⟨w.heap.size, 3, none⟩ = some (.slice (some ⟨b, o, none⟩) t.items.length c) ∧ (w'.cell? ⟨b, o + J * 4, none⟩ = some (.int .i64 x.kind) ∧ w'.cell? ⟨b, o + J * 4 + 1, none⟩ = some (.int .i64 x.num) ∧ w'.cell? ⟨b, o + J * 4 + 2, none⟩ = some (.string x.text) ∧ w'.cell? ⟨b, o + J * 4 + 3, none⟩ = some (.slice ax x.items.length cx)) ∧ (w'.cell? ⟨w.heap.size + 1, 0, none⟩ = some (.int .i64 s.kind) ∧ w'.cell? ⟨w.heap.size + 1, 1, none⟩ = some (.int .i64 s.num) ∧ w'.cell? ⟨w.heap.size + 1, 2, none⟩ = some (.string s.text) ∧ w'.cell? ⟨w.heap.size + 1, 3, none⟩ = some (.slice ay s.items.length cy))) (go_keep)
          (first | (go_at_call 88; refine (HSm.out x ax cx _ hbw.drew HX.out).mono ?_; rintro e w4 ⟨rfl, hg1⟩; have hb4' : Below wr.heap.size wr w4 := (Below.refl _ _).drew.trans hg1; have hb4 : Below w.heap.size w w4 := hbw.trans (hb4'.mono hwl); have HB4 : Hid (Bx w4 (w.heap.size + 1) s (.slice ay s.items.length cy)) := HB.out.keeps hb4'; clear hg1; have c0 := cell_keeps hb4' c0; have c3 := cell_keeps hb4' c3; have p0 := cell_keeps hb4' p0; have p1 := cell_keeps hb4' p1; have p2 := cell_keeps hb4' p2; have p3 := cell_keeps hb4' p3; have r0 := cell_keeps hb4' r0; have r1 := cell_keeps hb4' r1; have r2 := cell_keeps hb4' r2; have r3 := cell_keeps hb4' r3))
        clear p0 p1 p2 p3 r0 r1 r2 r3 hb4' HB hbw
        by_cases hz : cmpV 16 x s = 0
        · obtain ⟨e1, e2⟩ := Hy.out hz
          have hz' : (cmpV 16 x s == 0) = true := by simpa using hz
          rw [hz']
          clear Hy Hn hz hz'
          subst e2
          have HR : Hid (R = J) := e1
          clear e1
          go_wp2_with fail
          exact bodyPost_ret (v := .tuple #[.int .i64 J, .bool true]) (by simp [results, Tryz.results62, go_sem]) rfl ⟨by rw [HR.out], hb4⟩
        · have HD2 : Hid _ := Hn.out hz
          have hz' : (cmpV 16 x s == 0) = false := by simpa using hz
          rw [hz']
          clear Hy Hn hz hz'
          go_wp2_with fail
          go_roundg (t.items.length + 2 - (J + 1))
          case measure => have := Hk.out; omega
          case rel => exact ⟨k + 1, J + 1, by go_num, (by show _ = _; have := HJ.out; omega), rfl, (by have := Hev2.out; have := HJ.out; omega), HD2, c0, c3, HB4, hb4⟩
      · have hji : ¬ (J : Int) < (t.items.length : Nat) := by omega
        skip
        obtain ⟨e1, e2⟩ := HN2.out (fun j hj => HD.out j hj (by have := HJ.out; omega))
        subst e2
        have HR : Hid (R = 0) := e1
        clear e1 HD HB
        go_wp2_with fail
        exact bodyPost_ret (v := .tuple #[.int .i64 0, .bool false]) (by simp [results, Tryz.results62, go_sem]) rfl ⟨by rw [HR.out]; rfl, hbw⟩
  · obtain ⟨e1, e2⟩ := HNo.out (fun h => absurd h h6)
    subst e2
    have HR : Hid (R = 0) := e1
    clear e1 HYes HNo Hev
    have h6' : (t.kind == 5) = false := by simpa using h6
    go_enter Tryz.func62, Tryz.ntmps62
    go_wp2_with fail
    go_loopg [6] 1 (fun z i wr => z = 1 ∧ i = .int .i64 0 ∧ wr.cell? ⟨w.heap.size, 0, none⟩ = some (.int .i64 t.kind) ∧ Below w.heap.size w wr)
    case atStart => exact ⟨rfl, rfl, by simp, hal⟩
    case round =>
      obtain ⟨_, rfl, c0, hbw⟩ := hrel
      clear hal HBt HBs
      go_wp2_with fail
      exact bodyPost_ret (v := .tuple #[.int .i64 0, .bool false]) (by simp [results, Tryz.results62, go_sem]) rfl ⟨by rw [HR.out]; rfl, hbw⟩

end Go.Proofs.YtofceccicmlmoaaGreat

namespace Go.Proofs.YtofceccicmlmoaaGreat
open Go.RowKit

variable {α : Type}

/-- One put in among those that rise: in the place of the one that is the same. -/
def insK (cf : α → α → Int) (p : α) : List α → List α
  | [] => [p]
  | q :: l => if cf q p < 0 then q :: insK cf p l else if cf q p = 0 then p :: l else p :: q :: l

theorem insK_mem (cf : α → α → Int) (p : α) : ∀ (l : List α) (z : α), z ∈ insK cf p l → z = p ∨ z ∈ l := by
  intro l
  induction l with
  | nil => intro z hz; unfold insK at hz; exact .inl (by simpa using hz)
  | cons q l ih =>
    intro z hz
    unfold insK at hz
    split at hz
    · rcases List.mem_cons.1 hz with rfl | hz
      · exact .inr List.mem_cons_self
      · exact (ih z hz).imp id (List.mem_cons_of_mem _)
    · split at hz
      · rcases List.mem_cons.1 hz with rfl | hz
        · exact .inl rfl
        · exact .inr (List.mem_cons_of_mem _ hz)
      · rcases List.mem_cons.1 hz with rfl | hz
        · exact .inl rfl
        · exact .inr hz

theorem insK_rises {cf : α → α → Int} (h : Cmp3 cf) (p : α) : ∀ (l : List α), RisesK cf l → RisesK cf (insK cf p l) := by
  intro l
  induction l with
  | nil => intro _; unfold insK; exact List.pairwise_singleton _ _
  | cons q l ih =>
    intro hl
    obtain ⟨h1, h2⟩ := List.pairwise_cons.1 hl
    unfold insK
    split
    · rename_i hq
      refine List.pairwise_cons.2 ⟨fun z hz => ?_, ih h2⟩
      rcases insK_mem cf p l z hz with rfl | hz
      · exact hq
      · exact h1 z hz
    · rename_i hq
      split
      · rename_i he
        refine List.pairwise_cons.2 ⟨fun z hz => ?_, h2⟩
        have t := h.turn q p
        exact h.le_lt p q z (by omega) (h1 z hz)
      · rename_i he
        have t := h.turn q p
        refine List.pairwise_cons.2 ⟨fun z hz => ?_, hl⟩
        rcases List.mem_cons.1 hz with rfl | hz
        · omega
        · exact h.le_lt p q z (by omega) (h1 z hz)

theorem insK_filter {cf : α → α → Int} (h : Cmp3 cf) (p v : α) : ∀ (l : List α), RisesK cf l → (insK cf p l).filter (sim (ltI cf) v) = if sim (ltI cf) v p = true then [p] else l.filter (sim (ltI cf) v) := by
  intro l
  induction l with
  | nil =>
    intro _
    unfold insK
    by_cases hs : sim (ltI cf) v p = true
    · rw [if_pos hs, List.filter_cons_of_pos hs]; rfl
    · rw [if_neg hs, List.filter_cons_of_neg hs]
  | cons q l ih =>
    intro hl
    obtain ⟨h1, h2⟩ := List.pairwise_cons.1 hl
    have ih := ih h2
    unfold insK
    split
    · rename_i hq
      by_cases hs : sim (ltI cf) v p = true
      · have hn : ¬ sim (ltI cf) v q = true := fun k => by
          have a := (h.sim v p).1 hs
          have b := (h.sim v q).1 k
          have := h.le_lt v q p (by omega) hq
          omega
        rw [List.filter_cons_of_neg hn, ih, if_pos hs, if_pos hs]
      · rw [if_neg hs] at ih ⊢
        by_cases hk : sim (ltI cf) v q = true
        · rw [List.filter_cons_of_pos hk, List.filter_cons_of_pos hk, ih]
        · rw [List.filter_cons_of_neg hk, List.filter_cons_of_neg hk, ih]
    · rename_i hq
      have t := h.turn q p
      split
      · rename_i he
        by_cases hs : sim (ltI cf) v p = true
        · rw [if_pos hs, List.filter_cons_of_pos hs, fil_nil h v p l hs (fun z hz => h.le_lt p q z (by omega) (h1 z hz))]
        · have hn : ¬ sim (ltI cf) v q = true := fun k => hs (by
            have b := (h.sim v q).1 k
            have tv := h.turn v p
            have t2 := h.turn v q
            have a1 := h.le_le v q p (by omega) (by omega)
            have a2 := h.le_le p q v (by omega) (by omega)
            exact (h.sim v p).2 (by omega))
          rw [if_neg hs, List.filter_cons_of_neg hs, List.filter_cons_of_neg hn]
      · rename_i he
        by_cases hs : sim (ltI cf) v p = true
        · rw [if_pos hs, List.filter_cons_of_pos hs, fil_nil h v p (q :: l) hs (fun z hz => by
            rcases List.mem_cons.1 hz with rfl | hz
            · omega
            · exact h.le_lt p q z (by omega) (h1 z hz))]
        · rw [if_neg hs, List.filter_cons_of_neg hs]

/-- Those that rise, and one more, sorted, the last one of those that are the same. -/
theorem kyd_ins {cf : α → α → Int} (h : Cmp3 cf) (n : Nat) (l : List α) (p : α) (hn : (l ++ [p]).length ≤ n) (hl : RisesK cf l) : kyd cf n (l ++ [p]) = insK cf p l := by
  obtain ⟨a1, a2⟩ := kyd_spec h n (l ++ [p]) hn
  refine alike_one h.weak _ _ (a1.up h) ((insK_rises h p l hl).up h) (fun v => ?_)
  rw [a2 v, insK_filter h p v l hl, List.filter_append, lst_app]
  by_cases hs : sim (ltI cf) v p = true
  · rw [List.filter_cons_of_pos hs, if_neg (by simp), if_pos hs]; rfl
  · rw [List.filter_cons_of_neg hs, List.filter_nil, if_pos rfl, if_neg hs, hl.one h v]

/-- The map's items with z under the key s. -/
theorem kvT_ins (d : Nat) (s z : VT) : ∀ (l : List VT), l.length % 2 = 0 → (∀ k ∈ keysOf l, cmpV d k s = cmpV 16 k s) → (∀ k ∈ keysOf l, cmpV 16 k s = 0 → k = s) →
    kvT (insK (cmpTP d) (s, z) (unkv l)) = (keyed s l).set (2 * upN s (keysOf l) + 1) z
  | [], _, _, _ => by
    unfold keyed
    rw [if_neg (by unfold hasN keysOf upN; simp)]
    rfl
  | [_], h, _, _ => by simp at h
  | k :: v :: r, h, hc, he => by
    have hr : r.length % 2 = 0 := by simp at h; omega
    have ih := kvT_ins d s z r hr (fun x hx => hc x (List.mem_cons_of_mem _ hx)) (fun x hx => he x (List.mem_cons_of_mem _ hx))
    have hk := hc k List.mem_cons_self
    have e0 : unkv (k :: v :: r) = (k, v) :: unkv r := rfl
    have e1 : keysOf (k :: v :: r) = k :: keysOf r := rfl
    rw [e0, e1]
    have hu := upN_cons s k (keysOf r)
    have hcd : cmpTP d (k, v) (s, z) = cmpV 16 k s := hk
    unfold insK
    rw [hcd]
    by_cases h1 : cmpV 16 k s < 0
    · rw [if_pos h1] at hu ⊢
      have hh : hasN s (k :: keysOf r) = hasN s (keysOf r) := by
        unfold hasN
        rw [hu, List.getElem?_cons_succ]
      have hkd : keyed s (k :: v :: r) = k :: v :: keyed s r := by
        unfold keyed
        rw [e1, hh, hu]
        by_cases hb : hasN s (keysOf r) = true
        · rw [if_pos hb, if_pos hb]
        · rw [if_neg hb, if_neg hb, show 2 * (upN s (keysOf r) + 1) = 2 * upN s (keysOf r) + 1 + 1 by omega]
          simp only [List.take_succ_cons, List.drop_succ_cons, List.cons_append]
      rw [hu, hkd, show 2 * (upN s (keysOf r) + 1) + 1 = (2 * upN s (keysOf r) + 1) + 1 + 1 by omega, List.set_cons_succ, List.set_cons_succ, ← ih]
      rfl
    · rw [if_neg h1] at hu ⊢
      by_cases h2 : cmpV 16 k s = 0
      · rw [if_pos h2]
        have hks := he k List.mem_cons_self h2
        have hh : hasN s (k :: keysOf r) = true := by
          unfold hasN
          rw [hu, List.getElem?_cons_zero]
          simp [h2]
        have hkd : keyed s (k :: v :: r) = k :: v :: r := by unfold keyed; rw [e1, if_pos hh]
        rw [hu, hkd]
        have hkv : kvT (unkv r) = r := by
          have : ∀ (m : List VT), m.length % 2 = 0 → kvT (unkv m) = m := by
            intro m
            induction m using unkv.induct with
            | case1 x y l ih2 => intro hm; show x :: y :: kvT (unkv l) = _; rw [ih2 (by simp at hm; omega)]
            | case2 m hm =>
              intro he
              match m, hm, he with
              | [], _, _ => rfl
              | [_], _, he => simp at he
              | x :: y :: l, hm, _ => exact absurd rfl (hm x y l)
          exact this r hr
        show s :: z :: kvT (unkv r) = _
        rw [hkv, hks]
        rfl
      · rw [if_neg h2]
        have hh : ¬ hasN s (k :: keysOf r) = true := by
          unfold hasN
          rw [hu, List.getElem?_cons_zero]
          simp [h2]
        have hkd : keyed s (k :: v :: r) = s :: nilT :: k :: v :: r := by unfold keyed; rw [e1, if_neg hh, hu]; rfl
        rw [hu, hkd]
        have hkv : kvT (unkv (k :: v :: r)) = k :: v :: r := by
          have : ∀ (m : List VT), m.length % 2 = 0 → kvT (unkv m) = m := by
            intro m
            induction m using unkv.induct with
            | case1 x y l ih2 => intro hm; show x :: y :: kvT (unkv l) = _; rw [ih2 (by simp at hm; omega)]
            | case2 m hm =>
              intro he
              match m, hm, he with
              | [], _, _ => rfl
              | [_], _, he => simp at he
              | x :: y :: l, hm, _ => exact absurd rfl (hm x y l)
          exact this (k :: v :: r) h
        show s :: z :: kvT (unkv (k :: v :: r)) = _
        rw [hkv]
        rfl

/-- Keys that rise, as pairs. -/
theorem unkv_rises (d : Nat) : ∀ (l : List VT), (∀ a ∈ keysOf l, ∀ b ∈ keysOf l, cmpV d a b = cmpV 16 a b) → Up16 (keysOf l) → RisesK (cmpTP d) (unkv l)
  | [], _, _ => List.Pairwise.nil
  | [_], _, _ => List.Pairwise.nil
  | k :: v :: r, hc, h => by
    have e1 : keysOf (k :: v :: r) = k :: keysOf r := rfl
    rw [e1] at hc h
    obtain ⟨h1, h2⟩ := List.pairwise_cons.1 h
    refine List.pairwise_cons.2 ⟨fun q hq => ?_, unkv_rises d r (fun a ha b hb => hc a (List.mem_cons_of_mem _ ha) b (List.mem_cons_of_mem _ hb)) h2⟩
    have hm : q.1 ∈ keysOf r := by
      have : ∀ (m : List VT) (q : TP), q ∈ unkv m → q.1 ∈ keysOf m := by
        intro m
        induction m using unkv.induct with
        | case1 x y l ih2 =>
          intro q hq
          rcases List.mem_cons.1 hq with rfl | hq
          · exact List.mem_cons_self
          · exact List.mem_cons_of_mem _ (ih2 q hq)
        | case2 m hm =>
          intro q hq
          match m, hm, hq with
          | [], _, hq => cases hq
          | [_], _, hq => cases hq
          | x :: y :: l, hm, _ => exact absurd rfl (hm x y l)
      exact this r q hq
    show cmpV d k q.1 < 0
    rw [hc k List.mem_cons_self q.1 (List.mem_cons_of_mem _ hm)]
    exact h1 _ hm

end Go.Proofs.YtofceccicmlmoaaGreat

