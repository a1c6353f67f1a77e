/-
  The walk of entries.
-/
import Derived.Test.YtlmnkjnplaebgaaHashes
namespace Go.Proofs.Ytlmnkjnplaebgaa
open Go.RowKit

theorem entL_snoc : ∀ (m : Nat) (l : List Int) (x y : Int), l.length = 2 * m → entL (l ++ [x, y]) = entL l ++ [ordZ [x, y]] := by
  intro m
  induction m with
  | zero => intro l x y h; obtain rfl := List.eq_nil_of_length_eq_zero (by omega : l.length = 0); rfl
  | succ m ih =>
    intro l x y h
    match l, h with
    | a :: b :: l, h =>
      have := ih l x y (by simp at h; omega)
      simp [entL, this]

theorem entL_len : ∀ (m : Nat) (l : List Int), l.length = 2 * m → (entL l).length = m := by
  intro m
  induction m with
  | zero => intro l h; obtain rfl := List.eq_nil_of_length_eq_zero (by omega : l.length = 0); rfl
  | succ m ih =>
    intro l h
    match l, h with
    | a :: b :: l, h =>
      have := ih l (by simp at h; omega)
      simp [entL, this]

theorem entL_half : ∀ (m : Nat) (l : List Int), l.length / 2 = m → entL (l.take (2 * m)) = entL l := by
  intro m
  induction m with
  | zero =>
    intro l h
    match l, h with
    | [], _ => rfl
    | [a], _ => rfl
    | a :: b :: l, h => exfalso; simp at h; omega
  | succ m ih =>
    intro l h
    match l, h with
    | [], h => simp at h
    | [a], h => simp at h
    | a :: b :: l, h =>
      have := ih l (by simp at h; omega)
      rw [show 2 * (m + 1) = 2 * m + 2 by omega]
      simp [entL, this]

theorem ent_step (f : VT → Int) (l : List VT) (j : Nat) (h : 2 * j + 1 < l.length) :
    entL ((l.take (2 * (j + 1))).map f) = entL ((l.take (2 * j)).map f) ++ [ordZ [f l[2 * j], f l[2 * j + 1]]] := by
  have h1 : l.take (2 * (j + 1)) = l.take (2 * j) ++ [l[2 * j], l[2 * j + 1]] := by
    rw [show 2 * (j + 1) = 2 * j + 1 + 1 by omega, List.take_succ_eq_append_getElem h, List.take_succ_eq_append_getElem (by omega : 2 * j < l.length), List.append_assoc]
    rfl
  rw [h1, List.map_append]
  exact entL_snoc j _ _ _ (by simp; omega)

set_option maxHeartbeats 2000000 in
theorem entries_core (d : Nat) (f : VT → Int) (l : List VT) (u : Value) (w : World) (hu : Lies (d + 1) w l u) (hlen : l.length ≤ 1024)
    (hf : Hid (∀ (x : VT) (v : Value) (W : World), x ∈ l → Lies d W x.items v →
      Calls Try.prog 56 #[.agg #[.int .i64 x.kind, .int .i64 x.num, .string x.text, v]] W fun e W' => e = .returned (.int .u32 (f x)) ∧ Below W.heap.size W W')) :
    Calls Try.prog 70 #[u] w fun e w' => ∃ v, e = .returned v ∧ IntsAt .u32 w' (entL (l.map f)) v ∧ Below w.heap.size w w' := by
  obtain ⟨a, c, rfl, hb1, hr1⟩ := hu
  have Hr : Hid _ := hr1
  clear hr1
  obtain ⟨n, hn⟩ : ∃ n, n = l.length / 2 := ⟨_, rfl⟩
  obtain ⟨M, hMs, hmk⟩ := make_words n (by omega)
  have HMs : Hid (M.size = n) := hMs
  have hq : (l.length : Int).tdiv 2 = (n : Int) := by rw [Int.tdiv_eq_ediv_of_nonneg (by omega)]; omega
  have hwn : wrap64 (n : Int) = (n : Int) := by unfold wrap64; omega
  have Hwn : Hid (wrap64 (n : Int) = (n : Int)) := hwn
  have Hn : Hid _ := hn
  clear hMs hn
  go_enter Try.func70, Try.ntmps70
  go_wp2_with fail
  simp only [hwn]
  go_loopg [11] n (fun q i wr => ∃ (j : Nat), i = .int .i64 (j : Int) ∧ j ≤ n ∧ q = n - j ∧ Filled w.heap.size n wr (entL ((l.take (2 * j)).map f)) ∧ Below w.heap.size w wr)
  case atStart => exact ⟨0, rfl, by omega, by omega, filled_start w M _ _ HMs.out, (Below.refl _ _).alloc (Nat.le_refl _) _⟩
  case round =>
    obtain ⟨j, rfl, hj, hk, hfl, hbw⟩ := hrel
    have Hk : Hid _ := hk
    have HF : Hid (Filled w.heap.size n wr (entL ((l.take (2 * j)).map f))) := hfl
    clear hk hfl hmk
    by_cases hlt : j < n
    · have hl2 : 2 * j + 1 < l.length := by have := Hn.out; omega
      have hjb : j < 1024 := by omega
      obtain ⟨b1, o1, rfl, hall⟩ := Hr.out (by intro e; simp [e] at hl2)
      obtain ⟨x, p0, p1, p2, p3, p4, p5⟩ := hall (2 * j) (by omega)
      obtain ⟨y, q0, q1, q2, q3, q4, q5⟩ := hall (2 * j + 1) hl2
      obtain ⟨ax, cx, rfl, _⟩ := Lies.slice p4
      obtain ⟨ay, cy, rfl, _⟩ := Lies.slice q4
      have hlw : b1 < w.heap.size := cell_lt p0
      have hbn : ¬ (b1 = w.heap.size) := by omega
      have hbn2 : ¬ (w.heap.size = b1) := by omega
      have p0 := cell_keeps hbw p0; have p1 := cell_keeps hbw p1; have p2 := cell_keeps hbw p2; have p3 := cell_keeps hbw p3
      have q0 := cell_keeps hbw q0; have q1 := cell_keeps hbw q1; have q2 := cell_keeps hbw q2; have q3 := cell_keeps hbw q3
      have hws2 : w.heap.size ≤ wr.heap.size := hbw.size
      have hc1 : Hid (∀ W, Below w.heap.size w W → Calls Try.prog 56 #[.agg #[.int .i64 l[2 * j].kind, .int .i64 l[2 * j].num, .string l[2 * j].text, .slice ax l[2 * j].items.length cx]] W fun e W' => e = .returned (.int .u32 (f l[2 * j])) ∧ Below W.heap.size W W') :=
        fun W hW => hf.out _ _ W (List.getElem_mem _) (Lies.keeps hW _ _ _ p4)
      have hc2 : Hid (∀ W, Below w.heap.size w W → Calls Try.prog 56 #[.agg #[.int .i64 l[2 * j + 1].kind, .int .i64 l[2 * j + 1].num, .string l[2 * j + 1].text, .slice ay l[2 * j + 1].items.length cy]] W fun e W' => e = .returned (.int .u32 (f l[2 * j + 1])) ∧ Below W.heap.size W W') :=
        fun W hW => hf.out _ _ W (List.getElem_mem _) (Lies.keeps hW _ _ _ q4)
      have Hst : Hid _ := ent_step f l j hl2
      have hel : (entL ((l.take (2 * j)).map f)).length = j := entL_len j _ (by simp; omega)
      have Hel : Hid ((entL ((l.take (2 * j)).map f)).length = j) := hel
      have hbd : Below w.heap.size w wr.drew := hbw.drew
      clear hall hf hel p4 q4 p5 q5
      generalize l[2 * j] = X at *
      generalize l[2 * j + 1] = Y at *
      have m1 : IntKind.i64.wrap (2 * (j : Int)) = ((2 * j : Nat) : Int) := by rw [IntKind.wrap_i64]; omega
      have m2 : IntKind.i64.wrap (((2 * j : Nat) : Int) + 1) = ((2 * j + 1 : Nat) : Int) := by rw [IntKind.wrap_i64]; omega
      have hl3 : 2 * j < l.length := by omega
      generalize hQ : 2 * j + 1 = Q at *
      generalize hP : 2 * j = P at *
      have HP : Hid (2 * j = P) := hP
      clear hP hQ
      have HB : Hid (Below w.heap.size w wr) := hbw
      have hu0 := HF.out.there j hlt
      clear hu0
      go_wp2_with fail
      go_region_held3 (fun w' => w'.cell? ⟨b1, o1 + P * 4, none⟩ = some (.int .i64 X.kind) ∧ w'.cell? ⟨b1, o1 + P * 4 + 1, none⟩ = some (.int .i64 X.num) ∧ w'.cell? ⟨b1, o1 + P * 4 + 2, none⟩ = some (.string X.text) ∧ w'.cell? ⟨b1, o1 + P * 4 + 3, none⟩ = some (.slice ax X.items.length cx)
          ∧ w'.cell? ⟨b1, o1 + Q * 4, none⟩ = some (.int .i64 Y.kind) ∧ w'.cell? ⟨b1, o1 + Q * 4 + 1, none⟩ = some (.int .i64 Y.num) ∧ w'.cell? ⟨b1, o1 + Q * 4 + 2, none⟩ = some (.string Y.text) ∧ w'.cell? ⟨b1, o1 + Q * 4 + 3, none⟩ = some (.slice ay Y.items.length cy)) (go_keep)
          (first | (go_at_call_of 56 X; refine Calls.mono (hc1.out _ hbd) ?_; rintro e w1 ⟨rfl, hg⟩; have hb2 : Below wr.heap.size wr w1 := (Below.refl _ _).drew.trans hg; clear hg hbd; have r0 := cell_keeps hb2 p0; have r1 := cell_keeps hb2 p1; have r2 := cell_keeps hb2 p2; have r3 := cell_keeps hb2 p3; have t0 := cell_keeps hb2 q0; have t1 := cell_keeps hb2 q1; have t2 := cell_keeps hb2 q2; have t3 := cell_keeps hb2 q3; clear p0 p1 p2 p3 q0 q1 q2 q3)
                 | (go_at_call_of 56 Y; refine Calls.mono (hc2.out _ (HB.out.trans (hb2.mono HB.out.size))) ?_; rintro e w2 ⟨rfl, hg⟩; have hb3 : Below wr.heap.size wr w2 := hb2.trans (hg.mono hb2.size); have x0 := cell_keeps hg r0; have x1 := cell_keeps hg r1; have x2 := cell_keeps hg r2; have x3 := cell_keeps hg r3; have y0 := cell_keeps hg t0; have y1 := cell_keeps hg t1; have y2 := cell_keeps hg t2; have y3 := cell_keeps hg t3; clear hg hb2 r0 r1 r2 r3 t0 t1 t2 t3)
                 | (go_at_call 76; refine Calls.mono (entry_any _ _ _) ?_; rintro e w3 ⟨rfl, hg⟩; have hb4 : Below wr.heap.size wr w3 := hb3.trans (hg.below.mono hb3.size); have k0 := cell_keeps hg.below x0; have k1 := cell_keeps hg.below x1; have k2 := cell_keeps hg.below x2; have k3 := cell_keeps hg.below x3; have n0 := cell_keeps hg.below y0; have n1 := cell_keeps hg.below y1; have n2 := cell_keeps hg.below y2; have n3 := cell_keeps hg.below y3; clear hg hb3 x0 x1 x2 x3 y0 y1 y2 y3; have hF1 : Hid (Filled w.heap.size n w3 (entL ((l.take P).map f))) := HF.out.keeps hb4; obtain ⟨v0, s0⟩ := Option.isSome_iff_exists.1 (hF1.out.there j hlt); have z0 := hF1.out.soft j hlt))
      have hput := hF1.out.put (ordZ [f X, f Y]) (by rw [Hel.out]; exact hlt)
      rw [Hel.out] at hput
      have Hput : Hid (Filled w.heap.size n (w3.setCell ⟨w.heap.size, j, none⟩ (.int .u32 (ordZ [f X, f Y]))) (entL ((l.take P).map f) ++ [ordZ [f X, f Y]])) := hput
      have hb5 : Below w.heap.size w (w3.setCell ⟨w.heap.size, j, none⟩ (.int .u32 (ordZ [f X, f Y]))) := (HB.out.trans (hb4.mono HB.out.size)).setCell (p := ⟨w.heap.size, j, none⟩) (Nat.le_refl _) _
      generalize w3.setCell ⟨w.heap.size, j, none⟩ (.int .u32 (ordZ [f X, f Y])) = w4 at *
      clear hput hF1 s0 z0 k0 k1 k2 k3 n0 n1 n2 n3 hb4
      go_wp2_with fail
      go_roundg (n - (j + 1))
      case measure => have := Hk.out; have hw := Hwn.out; omega
      case rel =>
        have hw := Hwn.out
        refine ⟨j + 1, by go_num, by omega, rfl, ?_, hb5⟩
        have h1 := Hst.out
        rw [h1]
        exact Hput.out
    · have hjl : j = n := by omega
      have hd := HF.out.done (entL_len _ _ (by have := Hn.out; simp; omega)) (by have := Hn.out; omega)
      have hh := entL_half n (l.map f) (by rw [List.length_map]; exact Hn.out.symm)
      rw [hjl, List.map_take, hh] at hd
      have Hd : Hid (IntsAt .u32 wr (entL (l.map f)) (.slice (some ⟨w.heap.size, 0, none⟩) n n)) := hd
      clear hd hh HF hf hjl
      go_wp2_with fail
      go_ret
      exact ⟨_, rfl, Hd.out, hbw⟩

end Go.Proofs.Ytlmnkjnplaebgaa
