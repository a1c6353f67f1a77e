/-
  The contract of the statements' own Value: equal in all fields.
-/
import Derived.Test.YtofceccicmlmoaaGreatUtf
import Derived.Deep.RegionWith
import Derived.Deep.RegionHeld3
namespace Go.Proofs.YtofceccicmlmoaaGreat
open Go.RowKit

set_option maxHeartbeats 1000000 in
theorem refLoop4 (d : Nat) (f : VT → VT → Int) (k n1 n2 : Int) (s1 s2 : ByteArray) (l m : List VT) (u v : Value) (w : World) (hu : Lies (d + 1) w l u) (hv : Lies (d + 1) w m v)
    (hf : Hid (∀ (t s : VT) (x y : Value) (W : World), t ∈ l → s ∈ m → Lies d W t.items x → Lies d W s.items y →
      Calls Tryz.prog 87 #[.agg #[.int .i64 t.kind, .int .i64 t.num, .string t.text, x], .agg #[.int .i64 s.kind, .int .i64 s.num, .string s.text, y]] W fun e W' => e = .returned (.int .i64 (f t s)) ∧ Below W.heap.size W W'))
    (hk : k = 4) :
    Calls Tryz.prog 87 #[.agg #[.int .i64 k, .int .i64 n1, .string s1, u], .agg #[.int .i64 k, .int .i64 n2, .string s2, v]] w fun e w' => e = .returned (.int .i64 (cmpL f l m)) ∧ Below w.heap.size w w' := by
  subst hk
  have Hu := hu; have Hv := hv
  obtain ⟨a1, c1, rfl, hb1, hr1⟩ := hu
  obtain ⟨a2, c2, rfl, hb2, hr2⟩ := hv
  have Hr1 : Hid _ := hr1; have Hr2 : Hid _ := hr2
  clear hr1 hr2 Hu Hv
  go_enter Tryz.func87, Tryz.ntmps87
  go_wp2_with fail
  go_loopg [5] l.length (fun k i wr => ∃ j : Nat, i = .int .i64 j ∧ j ≤ l.length ∧ j ≤ m.length ∧ k = l.length - j ∧ Hid (cmpL f l m = cmpL f (l.drop j) (m.drop j)) ∧ Below w.heap.size w wr ∧ w.heap.size + 2 ≤ wr.heap.size ∧ wr.cell? ⟨w.heap.size, 3, none⟩ = some (.slice a1 l.length c1) ∧ wr.cell? ⟨w.heap.size + 1, 3, none⟩ = some (.slice a2 m.length c2))
  case atStart => exact ⟨0, rfl, by omega, by omega, by omega, rfl, (((Below.refl _ _).alloc (Nat.le_refl _) _).alloc (by simp) _), by simp, by simp, by simp⟩
  case round =>
    obtain ⟨j, rfl, hj1, hj2, hk, Hc, hbw, hsz2, x1, x2⟩ := hrel
    have Hk : Hid _ := hk
    clear hk
    by_cases hlt : j < l.length
    · by_cases hlt2 : j < m.length
      · obtain ⟨b1, o1, rfl, hall1⟩ := Hr1.out (by intro e; simp [e] at hlt)
        obtain ⟨b2, o2, rfl, hall2⟩ := Hr2.out (by intro e; simp [e] at hlt2)
        obtain ⟨x, p0, p1, p2, p3, p4, _⟩ := hall1 j hlt
        obtain ⟨y, q0, q1, q2, q3, q4, _⟩ := hall2 j hlt2
        clear hall1 hall2
        obtain ⟨ax, cx, rfl, _⟩ := Lies.slice p4
        obtain ⟨ay, cy, rfl, _⟩ := Lies.slice q4
        have p0 := cell_keeps hbw p0; have p1 := cell_keeps hbw p1; have p2 := cell_keeps hbw p2; have p3 := cell_keeps hbw p3
        have q0 := cell_keeps hbw q0; have q1 := cell_keeps hbw q1; have q2 := cell_keeps hbw q2; have q3 := cell_keeps hbw q3
        have p4 : Hid (Lies d w l[j].items (.slice ax l[j].items.length cx)) := p4
        have q4 : Hid (Lies d w m[j].items (.slice ay m[j].items.length cy)) := q4
        have hl1 : b1 < wr.heap.size := cell_lt p0
        have hl2 : b2 < wr.heap.size := cell_lt q0
        go_wp2_with fail
        have hfc : Hid _ := (hf.out l[j] m[j] (.slice ax l[j].items.length cx) (.slice ay m[j].items.length cy))
        go_region_held3 (fun w' => w'.cell? ⟨w.heap.size, 3, none⟩ = some (.slice (some ⟨b1, o1, none⟩) l.length c1) ∧ w'.cell? ⟨w.heap.size + 1, 3, none⟩ = some (.slice (some ⟨b2, o2, none⟩) m.length c2)
          ∧ w'.cell? ⟨b1, o1 + j * 4, none⟩ = some (.int .i64 l[j].kind) ∧ w'.cell? ⟨b1, o1 + j * 4 + 1, none⟩ = some (.int .i64 l[j].num) ∧ w'.cell? ⟨b1, o1 + j * 4 + 2, none⟩ = some (.string l[j].text) ∧ w'.cell? ⟨b1, o1 + j * 4 + 3, none⟩ = some (.slice ax l[j].items.length cx)
          ∧ w'.cell? ⟨b2, o2 + j * 4, none⟩ = some (.int .i64 m[j].kind) ∧ w'.cell? ⟨b2, o2 + j * 4 + 1, none⟩ = some (.int .i64 m[j].num) ∧ w'.cell? ⟨b2, o2 + j * 4 + 2, none⟩ = some (.string m[j].text) ∧ w'.cell? ⟨b2, o2 + j * 4 + 3, none⟩ = some (.slice ay m[j].items.length cy)) (go_keep)
          (first | (go_at_call 87; refine (hfc.out _ (List.getElem_mem hlt) (List.getElem_mem hlt2) ?_ ?_).mono ?_; exact Lies.keeps hbw.drew _ _ _ p4.out; exact Lies.keeps hbw.drew _ _ _ q4.out; rintro e w1 ⟨rfl, hb1⟩; have hb2 : Below wr.heap.size wr w1 := ((Below.refl wr.heap.size wr).drew).trans hb1; clear hb1; have r0 := cell_keeps hb2 p0; have r1 := cell_keeps hb2 p1; have r2 := cell_keeps hb2 p2; have r3 := cell_keeps hb2 p3; have t0 := cell_keeps hb2 q0; have t1 := cell_keeps hb2 q1; have t2 := cell_keeps hb2 q2; have t3 := cell_keeps hb2 q3; have y1 := cell_keeps hb2 x1; have y2 := cell_keeps hb2 x2))
        clear hfc p4 q4 hf p0 p1 p2 p3 q0 q1 q2 q3 r0 r1 r2 r3 t0 t1 t2 t3 x1 x2
        have hb3 : Below w.heap.size w w1 := hbw.trans (hb2.mono hbw.size)
        have hs3 : w.heap.size + 2 ≤ w1.heap.size := by have := hb2.size; omega
        have Hs : Hid _ := cmpL_step f l m j hlt hlt2
        by_cases hz : f l[j] m[j] = 0
        · have hzb : (f l[j] m[j] != 0) = false := by simp [hz]
          have Hz : Hid (f l[j] m[j] = 0) := hz
          clear hz
          go_wp2_with fail
          go_roundg (l.length - (j + 1))
          case measure => have := Hk.out; omega
          case rel =>
            refine ⟨j + 1, by go_num, by omega, by omega, rfl, ?_, hb3, hs3, y1, y2⟩
            show cmpL f l m = _
            rw [Hc.out, Hs.out, if_pos Hz.out]
        · have hzb : (f l[j] m[j] != 0) = true := by simp [hz]
          have Hz : Hid (¬ f l[j] m[j] = 0) := hz
          clear hz
          go_wp2_with fail
          go_ret
          exact ⟨ret_int (by rw [Hc.out, Hs.out, if_neg Hz.out]), hb3⟩
      · have Hs : Hid _ := cmpL_end f l m j (by omega)
        have hlm : ¬ l.length < m.length := by omega
        have hml : m.length < l.length := by omega
        go_wp2_with (go_at_call 101; refine (sign_any _ _ _).mono ?_; rintro e w' ⟨rfl, rfl⟩)
        go_ret
        exact ⟨ret_int (by rw [Hc.out, Hs.out, if_pos hlt]), hbw⟩
    · have Hs : Hid _ := cmpL_end f l m j (by omega)
      by_cases hlt2 : j < m.length
      · have hlm : l.length < m.length := by omega
        go_wp2_with (go_at_call 101; refine (sign_any _ _ _).mono ?_; rintro e w' ⟨rfl, rfl⟩)
        go_ret
        exact ⟨ret_int (by rw [Hc.out, Hs.out, if_neg (by omega), if_pos (by omega)]), hbw⟩
      · have hlm : ¬ l.length < m.length := by omega
        have hml : ¬ m.length < l.length := by omega
        go_wp2_with (go_at_call 101; refine (sign_any _ _ _).mono ?_; rintro e w' ⟨rfl, rfl⟩)
        go_ret
        exact ⟨ret_int (by rw [Hc.out, Hs.out, if_neg (by omega), if_neg (by omega)]), hbw⟩

set_option maxHeartbeats 1000000 in
theorem refLoop5 (d : Nat) (f : VT → VT → Int) (k n1 n2 : Int) (s1 s2 : ByteArray) (l m : List VT) (u v : Value) (w : World) (hu : Lies (d + 1) w l u) (hv : Lies (d + 1) w m v)
    (hf : Hid (∀ (t s : VT) (x y : Value) (W : World), t ∈ l → s ∈ m → Lies d W t.items x → Lies d W s.items y →
      Calls Tryz.prog 87 #[.agg #[.int .i64 t.kind, .int .i64 t.num, .string t.text, x], .agg #[.int .i64 s.kind, .int .i64 s.num, .string s.text, y]] W fun e W' => e = .returned (.int .i64 (f t s)) ∧ Below W.heap.size W W'))
    (hk : k = 5) :
    Calls Tryz.prog 87 #[.agg #[.int .i64 k, .int .i64 n1, .string s1, u], .agg #[.int .i64 k, .int .i64 n2, .string s2, v]] w fun e w' => e = .returned (.int .i64 (cmpL f l m)) ∧ Below w.heap.size w w' := by
  subst hk
  have Hu := hu; have Hv := hv
  obtain ⟨a1, c1, rfl, hb1, hr1⟩ := hu
  obtain ⟨a2, c2, rfl, hb2, hr2⟩ := hv
  have Hr1 : Hid _ := hr1; have Hr2 : Hid _ := hr2
  clear hr1 hr2 Hu Hv
  go_enter Tryz.func87, Tryz.ntmps87
  go_wp2_with fail
  go_loopg [5] l.length (fun k i wr => ∃ j : Nat, i = .int .i64 j ∧ j ≤ l.length ∧ j ≤ m.length ∧ k = l.length - j ∧ Hid (cmpL f l m = cmpL f (l.drop j) (m.drop j)) ∧ Below w.heap.size w wr ∧ w.heap.size + 2 ≤ wr.heap.size ∧ wr.cell? ⟨w.heap.size, 3, none⟩ = some (.slice a1 l.length c1) ∧ wr.cell? ⟨w.heap.size + 1, 3, none⟩ = some (.slice a2 m.length c2))
  case atStart => exact ⟨0, rfl, by omega, by omega, by omega, rfl, (((Below.refl _ _).alloc (Nat.le_refl _) _).alloc (by simp) _), by simp, by simp, by simp⟩
  case round =>
    obtain ⟨j, rfl, hj1, hj2, hk, Hc, hbw, hsz2, x1, x2⟩ := hrel
    have Hk : Hid _ := hk
    clear hk
    by_cases hlt : j < l.length
    · by_cases hlt2 : j < m.length
      · obtain ⟨b1, o1, rfl, hall1⟩ := Hr1.out (by intro e; simp [e] at hlt)
        obtain ⟨b2, o2, rfl, hall2⟩ := Hr2.out (by intro e; simp [e] at hlt2)
        obtain ⟨x, p0, p1, p2, p3, p4, _⟩ := hall1 j hlt
        obtain ⟨y, q0, q1, q2, q3, q4, _⟩ := hall2 j hlt2
        clear hall1 hall2
        obtain ⟨ax, cx, rfl, _⟩ := Lies.slice p4
        obtain ⟨ay, cy, rfl, _⟩ := Lies.slice q4
        have p0 := cell_keeps hbw p0; have p1 := cell_keeps hbw p1; have p2 := cell_keeps hbw p2; have p3 := cell_keeps hbw p3
        have q0 := cell_keeps hbw q0; have q1 := cell_keeps hbw q1; have q2 := cell_keeps hbw q2; have q3 := cell_keeps hbw q3
        have p4 : Hid (Lies d w l[j].items (.slice ax l[j].items.length cx)) := p4
        have q4 : Hid (Lies d w m[j].items (.slice ay m[j].items.length cy)) := q4
        have hl1 : b1 < wr.heap.size := cell_lt p0
        have hl2 : b2 < wr.heap.size := cell_lt q0
        go_wp2_with fail
        have hfc : Hid _ := (hf.out l[j] m[j] (.slice ax l[j].items.length cx) (.slice ay m[j].items.length cy))
        go_region_held3 (fun w' => w'.cell? ⟨w.heap.size, 3, none⟩ = some (.slice (some ⟨b1, o1, none⟩) l.length c1) ∧ w'.cell? ⟨w.heap.size + 1, 3, none⟩ = some (.slice (some ⟨b2, o2, none⟩) m.length c2)
          ∧ w'.cell? ⟨b1, o1 + j * 4, none⟩ = some (.int .i64 l[j].kind) ∧ w'.cell? ⟨b1, o1 + j * 4 + 1, none⟩ = some (.int .i64 l[j].num) ∧ w'.cell? ⟨b1, o1 + j * 4 + 2, none⟩ = some (.string l[j].text) ∧ w'.cell? ⟨b1, o1 + j * 4 + 3, none⟩ = some (.slice ax l[j].items.length cx)
          ∧ w'.cell? ⟨b2, o2 + j * 4, none⟩ = some (.int .i64 m[j].kind) ∧ w'.cell? ⟨b2, o2 + j * 4 + 1, none⟩ = some (.int .i64 m[j].num) ∧ w'.cell? ⟨b2, o2 + j * 4 + 2, none⟩ = some (.string m[j].text) ∧ w'.cell? ⟨b2, o2 + j * 4 + 3, none⟩ = some (.slice ay m[j].items.length cy)) (go_keep)
          (first | (go_at_call 87; refine (hfc.out _ (List.getElem_mem hlt) (List.getElem_mem hlt2) ?_ ?_).mono ?_; exact Lies.keeps hbw.drew _ _ _ p4.out; exact Lies.keeps hbw.drew _ _ _ q4.out; rintro e w1 ⟨rfl, hb1⟩; have hb2 : Below wr.heap.size wr w1 := ((Below.refl wr.heap.size wr).drew).trans hb1; clear hb1; have r0 := cell_keeps hb2 p0; have r1 := cell_keeps hb2 p1; have r2 := cell_keeps hb2 p2; have r3 := cell_keeps hb2 p3; have t0 := cell_keeps hb2 q0; have t1 := cell_keeps hb2 q1; have t2 := cell_keeps hb2 q2; have t3 := cell_keeps hb2 q3; have y1 := cell_keeps hb2 x1; have y2 := cell_keeps hb2 x2))
        clear hfc p4 q4 hf p0 p1 p2 p3 q0 q1 q2 q3 r0 r1 r2 r3 t0 t1 t2 t3 x1 x2
        have hb3 : Below w.heap.size w w1 := hbw.trans (hb2.mono hbw.size)
        have hs3 : w.heap.size + 2 ≤ w1.heap.size := by have := hb2.size; omega
        have Hs : Hid _ := cmpL_step f l m j hlt hlt2
        by_cases hz : f l[j] m[j] = 0
        · have hzb : (f l[j] m[j] != 0) = false := by simp [hz]
          have Hz : Hid (f l[j] m[j] = 0) := hz
          clear hz
          go_wp2_with fail
          go_roundg (l.length - (j + 1))
          case measure => have := Hk.out; omega
          case rel =>
            refine ⟨j + 1, by go_num, by omega, by omega, rfl, ?_, hb3, hs3, y1, y2⟩
            show cmpL f l m = _
            rw [Hc.out, Hs.out, if_pos Hz.out]
        · have hzb : (f l[j] m[j] != 0) = true := by simp [hz]
          have Hz : Hid (¬ f l[j] m[j] = 0) := hz
          clear hz
          go_wp2_with fail
          go_ret
          exact ⟨ret_int (by rw [Hc.out, Hs.out, if_neg Hz.out]), hb3⟩
      · have Hs : Hid _ := cmpL_end f l m j (by omega)
        have hlm : ¬ l.length < m.length := by omega
        have hml : m.length < l.length := by omega
        go_wp2_with (go_at_call 101; refine (sign_any _ _ _).mono ?_; rintro e w' ⟨rfl, rfl⟩)
        go_ret
        exact ⟨ret_int (by rw [Hc.out, Hs.out, if_pos hlt]), hbw⟩
    · have Hs : Hid _ := cmpL_end f l m j (by omega)
      by_cases hlt2 : j < m.length
      · have hlm : l.length < m.length := by omega
        go_wp2_with (go_at_call 101; refine (sign_any _ _ _).mono ?_; rintro e w' ⟨rfl, rfl⟩)
        go_ret
        exact ⟨ret_int (by rw [Hc.out, Hs.out, if_neg (by omega), if_pos (by omega)]), hbw⟩
      · have hlm : ¬ l.length < m.length := by omega
        have hml : ¬ m.length < l.length := by omega
        go_wp2_with (go_at_call 101; refine (sign_any _ _ _).mono ?_; rintro e w' ⟨rfl, rfl⟩)
        go_ret
        exact ⟨ret_int (by rw [Hc.out, Hs.out, if_neg (by omega), if_neg (by omega)]), hbw⟩

set_option maxHeartbeats 1000000 in
theorem refLoop6 (d : Nat) (f : VT → VT → Int) (k n1 n2 : Int) (s1 s2 : ByteArray) (l m : List VT) (u v : Value) (w : World) (hu : Lies (d + 1) w l u) (hv : Lies (d + 1) w m v)
    (hf : Hid (∀ (t s : VT) (x y : Value) (W : World), t ∈ l → s ∈ m → Lies d W t.items x → Lies d W s.items y →
      Calls Tryz.prog 87 #[.agg #[.int .i64 t.kind, .int .i64 t.num, .string t.text, x], .agg #[.int .i64 s.kind, .int .i64 s.num, .string s.text, y]] W fun e W' => e = .returned (.int .i64 (f t s)) ∧ Below W.heap.size W W'))
    (hk : k = 6) :
    Calls Tryz.prog 87 #[.agg #[.int .i64 k, .int .i64 n1, .string s1, u], .agg #[.int .i64 k, .int .i64 n2, .string s2, v]] w fun e w' => e = .returned (.int .i64 (cmpL f l m)) ∧ Below w.heap.size w w' := by
  subst hk
  have Hu := hu; have Hv := hv
  obtain ⟨a1, c1, rfl, hb1, hr1⟩ := hu
  obtain ⟨a2, c2, rfl, hb2, hr2⟩ := hv
  have Hr1 : Hid _ := hr1; have Hr2 : Hid _ := hr2
  clear hr1 hr2 Hu Hv
  go_enter Tryz.func87, Tryz.ntmps87
  go_wp2_with fail
  go_loopg [5] l.length (fun k i wr => ∃ j : Nat, i = .int .i64 j ∧ j ≤ l.length ∧ j ≤ m.length ∧ k = l.length - j ∧ Hid (cmpL f l m = cmpL f (l.drop j) (m.drop j)) ∧ Below w.heap.size w wr ∧ w.heap.size + 2 ≤ wr.heap.size ∧ wr.cell? ⟨w.heap.size, 3, none⟩ = some (.slice a1 l.length c1) ∧ wr.cell? ⟨w.heap.size + 1, 3, none⟩ = some (.slice a2 m.length c2))
  case atStart => exact ⟨0, rfl, by omega, by omega, by omega, rfl, (((Below.refl _ _).alloc (Nat.le_refl _) _).alloc (by simp) _), by simp, by simp, by simp⟩
  case round =>
    obtain ⟨j, rfl, hj1, hj2, hk, Hc, hbw, hsz2, x1, x2⟩ := hrel
    have Hk : Hid _ := hk
    clear hk
    by_cases hlt : j < l.length
    · by_cases hlt2 : j < m.length
      · obtain ⟨b1, o1, rfl, hall1⟩ := Hr1.out (by intro e; simp [e] at hlt)
        obtain ⟨b2, o2, rfl, hall2⟩ := Hr2.out (by intro e; simp [e] at hlt2)
        obtain ⟨x, p0, p1, p2, p3, p4, _⟩ := hall1 j hlt
        obtain ⟨y, q0, q1, q2, q3, q4, _⟩ := hall2 j hlt2
        clear hall1 hall2
        obtain ⟨ax, cx, rfl, _⟩ := Lies.slice p4
        obtain ⟨ay, cy, rfl, _⟩ := Lies.slice q4
        have p0 := cell_keeps hbw p0; have p1 := cell_keeps hbw p1; have p2 := cell_keeps hbw p2; have p3 := cell_keeps hbw p3
        have q0 := cell_keeps hbw q0; have q1 := cell_keeps hbw q1; have q2 := cell_keeps hbw q2; have q3 := cell_keeps hbw q3
        have p4 : Hid (Lies d w l[j].items (.slice ax l[j].items.length cx)) := p4
        have q4 : Hid (Lies d w m[j].items (.slice ay m[j].items.length cy)) := q4
        have hl1 : b1 < wr.heap.size := cell_lt p0
        have hl2 : b2 < wr.heap.size := cell_lt q0
        go_wp2_with fail
        have hfc : Hid _ := (hf.out l[j] m[j] (.slice ax l[j].items.length cx) (.slice ay m[j].items.length cy))
        go_region_held3 (fun w' => w'.cell? ⟨w.heap.size, 3, none⟩ = some (.slice (some ⟨b1, o1, none⟩) l.length c1) ∧ w'.cell? ⟨w.heap.size + 1, 3, none⟩ = some (.slice (some ⟨b2, o2, none⟩) m.length c2)
          ∧ w'.cell? ⟨b1, o1 + j * 4, none⟩ = some (.int .i64 l[j].kind) ∧ w'.cell? ⟨b1, o1 + j * 4 + 1, none⟩ = some (.int .i64 l[j].num) ∧ w'.cell? ⟨b1, o1 + j * 4 + 2, none⟩ = some (.string l[j].text) ∧ w'.cell? ⟨b1, o1 + j * 4 + 3, none⟩ = some (.slice ax l[j].items.length cx)
          ∧ w'.cell? ⟨b2, o2 + j * 4, none⟩ = some (.int .i64 m[j].kind) ∧ w'.cell? ⟨b2, o2 + j * 4 + 1, none⟩ = some (.int .i64 m[j].num) ∧ w'.cell? ⟨b2, o2 + j * 4 + 2, none⟩ = some (.string m[j].text) ∧ w'.cell? ⟨b2, o2 + j * 4 + 3, none⟩ = some (.slice ay m[j].items.length cy)) (go_keep)
          (first | (go_at_call 87; refine (hfc.out _ (List.getElem_mem hlt) (List.getElem_mem hlt2) ?_ ?_).mono ?_; exact Lies.keeps hbw.drew _ _ _ p4.out; exact Lies.keeps hbw.drew _ _ _ q4.out; rintro e w1 ⟨rfl, hb1⟩; have hb2 : Below wr.heap.size wr w1 := ((Below.refl wr.heap.size wr).drew).trans hb1; clear hb1; have r0 := cell_keeps hb2 p0; have r1 := cell_keeps hb2 p1; have r2 := cell_keeps hb2 p2; have r3 := cell_keeps hb2 p3; have t0 := cell_keeps hb2 q0; have t1 := cell_keeps hb2 q1; have t2 := cell_keeps hb2 q2; have t3 := cell_keeps hb2 q3; have y1 := cell_keeps hb2 x1; have y2 := cell_keeps hb2 x2))
        clear hfc p4 q4 hf p0 p1 p2 p3 q0 q1 q2 q3 r0 r1 r2 r3 t0 t1 t2 t3 x1 x2
        have hb3 : Below w.heap.size w w1 := hbw.trans (hb2.mono hbw.size)
        have hs3 : w.heap.size + 2 ≤ w1.heap.size := by have := hb2.size; omega
        have Hs : Hid _ := cmpL_step f l m j hlt hlt2
        by_cases hz : f l[j] m[j] = 0
        · have hzb : (f l[j] m[j] != 0) = false := by simp [hz]
          have Hz : Hid (f l[j] m[j] = 0) := hz
          clear hz
          go_wp2_with fail
          go_roundg (l.length - (j + 1))
          case measure => have := Hk.out; omega
          case rel =>
            refine ⟨j + 1, by go_num, by omega, by omega, rfl, ?_, hb3, hs3, y1, y2⟩
            show cmpL f l m = _
            rw [Hc.out, Hs.out, if_pos Hz.out]
        · have hzb : (f l[j] m[j] != 0) = true := by simp [hz]
          have Hz : Hid (¬ f l[j] m[j] = 0) := hz
          clear hz
          go_wp2_with fail
          go_ret
          exact ⟨ret_int (by rw [Hc.out, Hs.out, if_neg Hz.out]), hb3⟩
      · have Hs : Hid _ := cmpL_end f l m j (by omega)
        have hlm : ¬ l.length < m.length := by omega
        have hml : m.length < l.length := by omega
        go_wp2_with (go_at_call 101; refine (sign_any _ _ _).mono ?_; rintro e w' ⟨rfl, rfl⟩)
        go_ret
        exact ⟨ret_int (by rw [Hc.out, Hs.out, if_pos hlt]), hbw⟩
    · have Hs : Hid _ := cmpL_end f l m j (by omega)
      by_cases hlt2 : j < m.length
      · have hlm : l.length < m.length := by omega
        go_wp2_with (go_at_call 101; refine (sign_any _ _ _).mono ?_; rintro e w' ⟨rfl, rfl⟩)
        go_ret
        exact ⟨ret_int (by rw [Hc.out, Hs.out, if_neg (by omega), if_pos (by omega)]), hbw⟩
      · have hlm : ¬ l.length < m.length := by omega
        have hml : ¬ m.length < l.length := by omega
        go_wp2_with (go_at_call 101; refine (sign_any _ _ _).mono ?_; rintro e w' ⟨rfl, rfl⟩)
        go_ret
        exact ⟨ret_int (by rw [Hc.out, Hs.out, if_neg (by omega), if_neg (by omega)]), hbw⟩


set_option maxHeartbeats 1000000 in
theorem ref_core (k1 n1 k2 n2 r : Int) (s1 s2 : ByteArray) (ax ay : Option Addr) (lx cx ly cy : Nat) (w : World)
    (hcf : k1 = k2 → (k1 = 4 ∨ k1 = 5 ∨ k1 = 6) → Calls Tryz.prog 87 #[.agg #[.int .i64 k1, .int .i64 n1, .string s1, .slice ax lx cx], .agg #[.int .i64 k2, .int .i64 n2, .string s2, .slice ay ly cy]] w fun e W' => e = .returned (.int .i64 r) ∧ Below w.heap.size w W') :
    Calls Tryz.prog 87 #[.agg #[.int .i64 k1, .int .i64 n1, .string s1, .slice ax lx cx], .agg #[.int .i64 k2, .int .i64 n2, .string s2, .slice ay ly cy]] w fun e w' =>
      e = .returned (.int .i64 (cmpK k1 n1 k2 n2 r s1 s2)) ∧ Below w.heap.size w w' := by
  have B2 : ∀ o1 o2 : Obj, Below w.heap.size w ((w.alloc o1).alloc o2) := fun o1 o2 => (((Below.refl _ _).alloc (Nat.le_refl _) _).alloc (by simp) _)
  have HB2 : Hid _ := B2
  clear B2
  by_cases hk : k1 = k2
  · subst hk
    by_cases h46 : k1 = 4 ∨ k1 = 5 ∨ k1 = 6
    · have e1 : cmpK k1 n1 k1 n2 r s1 s2 = r := by
        unfold cmpK
        rw [if_neg (by simp), if_neg (by omega), if_neg (by omega), if_pos h46]
      rw [e1]; exact hcf rfl h46
    clear hcf
    have hkb : (k1 != k1) = false := by simp
    by_cases h1 : k1 = 1
    · subst h1
      have e1 : Hid (cmpK 1 n1 1 n2 r s1 s2 = cmpI n1 n2) := by show _ = _; simp [cmpK]
      clear h46
      by_cases q1 : n1 < n2
      · go_enter Tryz.func87, Tryz.ntmps87
        go_wp2_with (go_at_call 101; refine (sign_any _ _ _).mono ?_; rintro e w' ⟨rfl, rfl⟩)
        go_ret
        exact ⟨ret_int (by rw [e1.out]; unfold cmpI; rw [if_pos q1]), HB2.out _ _⟩
      · by_cases q2 : n2 < n1
        · go_enter Tryz.func87, Tryz.ntmps87
          go_wp2_with (go_at_call 101; refine (sign_any _ _ _).mono ?_; rintro e w' ⟨rfl, rfl⟩)
          go_ret
          exact ⟨ret_int (by rw [e1.out]; unfold cmpI; rw [if_neg (by omega), if_pos (by omega)]), HB2.out _ _⟩
        · go_enter Tryz.func87, Tryz.ntmps87
          go_wp2_with (go_at_call 101; refine (sign_any _ _ _).mono ?_; rintro e w' ⟨rfl, rfl⟩)
          go_ret
          exact ⟨ret_int (by rw [e1.out]; unfold cmpI; rw [if_neg (by omega), if_neg (by omega)]), HB2.out _ _⟩
    by_cases h2 : k1 = 2
    · subst h2
      have e1 : Hid (cmpK 2 n1 2 n2 r s1 s2 = cmpI n1 n2) := by show _ = _; simp [cmpK]
      clear h46 h1
      by_cases q1 : n1 < n2
      · go_enter Tryz.func87, Tryz.ntmps87
        go_wp2_with (go_at_call 101; refine (sign_any _ _ _).mono ?_; rintro e w' ⟨rfl, rfl⟩)
        go_ret
        exact ⟨ret_int (by rw [e1.out]; unfold cmpI; rw [if_pos q1]), HB2.out _ _⟩
      · by_cases q2 : n2 < n1
        · go_enter Tryz.func87, Tryz.ntmps87
          go_wp2_with (go_at_call 101; refine (sign_any _ _ _).mono ?_; rintro e w' ⟨rfl, rfl⟩)
          go_ret
          exact ⟨ret_int (by rw [e1.out]; unfold cmpI; rw [if_neg (by omega), if_pos (by omega)]), HB2.out _ _⟩
        · go_enter Tryz.func87, Tryz.ntmps87
          go_wp2_with (go_at_call 101; refine (sign_any _ _ _).mono ?_; rintro e w' ⟨rfl, rfl⟩)
          go_ret
          exact ⟨ret_int (by rw [e1.out]; unfold cmpI; rw [if_neg (by omega), if_neg (by omega)]), HB2.out _ _⟩
    by_cases h3 : k1 = 3
    · subst h3
      have e1 : Hid (cmpK 3 n1 3 n2 r s1 s2 = cmpS s1 s2) := by show _ = _; simp [cmpK]
      clear h46 h1 h2
      go_enter Tryz.func87, Tryz.ntmps87
      go_wp2_with (go_at_call 101; refine (sign_any _ _ _).mono ?_; rintro e w' ⟨rfl, rfl⟩)
      all_goals
        go_ret
        exact ⟨ret_int (by rw [e1.out]; simp [cmpS, bl_irrefl, *]), HB2.out _ _⟩
    · have b1 : (k1 == 1) = false := by simp [h1]
      have b2 : (k1 == 2) = false := by simp [h2]
      have b3 : (k1 == 3) = false := by simp [h3]
      have b4 : (k1 == 4) = false := by simp; omega
      have b5 : (k1 == 5) = false := by simp; omega
      have b6 : (k1 == 6) = false := by simp; omega
      have hfin : Hid (cmpK k1 n1 k1 n2 r s1 s2 = 0) := by
        show _ = _
        unfold cmpK
        rw [if_neg (by simp), if_neg (by omega), if_neg (by omega), if_neg h46]
      clear h1 h2 h3 h46
      go_enter Tryz.func87, Tryz.ntmps87
      go_wp2_with fail
      go_ret
      exact ⟨ret_int hfin.out.symm, HB2.out _ _⟩
  · clear hcf
    have hkb : (k1 != k2) = true := by simp [hk]
    by_cases q1 : k1 < k2
    · have hfin : Hid (cmpK k1 n1 k2 n2 r s1 s2 = -1) := by
        show _ = _
        unfold cmpK cmpI
        rw [if_pos hk, if_pos q1]
      clear hk
      go_enter Tryz.func87, Tryz.ntmps87
      go_wp2_with (go_at_call 101; refine (sign_any _ _ _).mono ?_; rintro e w' ⟨rfl, rfl⟩)
      go_ret
      exact ⟨ret_int hfin.out.symm, HB2.out _ _⟩
    · have hfin : Hid (cmpK k1 n1 k2 n2 r s1 s2 = 1) := by
        show _ = _
        unfold cmpK cmpI
        rw [if_pos hk, if_neg q1, if_pos (by omega)]
      clear hk
      go_enter Tryz.func87, Tryz.ntmps87
      go_wp2_with (go_at_call 101; refine (sign_any _ _ _).mono ?_; rintro e w' ⟨rfl, rfl⟩)
      go_ret
      exact ⟨ret_int hfin.out.symm, HB2.out _ _⟩

theorem ref_any : ∀ (d : Nat) (t s : VT) (x y : Value) (w : World), Lies d w t.items x → Lies d w s.items y →
    Calls Tryz.prog 87 #[.agg #[.int .i64 t.kind, .int .i64 t.num, .string t.text, x], .agg #[.int .i64 s.kind, .int .i64 s.num, .string s.text, y]] w fun e w' => e = .returned (.int .i64 (cmpV d t s)) ∧ Below w.heap.size w w' := by
  intro d
  induction d with
  | zero =>
    intro t s x y w hx hy
    obtain ⟨ax, cx, rfl, _⟩ := Lies.slice hx
    obtain ⟨ay, cy, rfl, _⟩ := Lies.slice hy
    have e1 : t.items = [] := hx.1
    refine ref_core _ _ _ _ (cmpL (fun _ _ => 0) t.items s.items) _ _ _ _ _ _ _ _ w (fun hk h46 => ?_)
    rw [← hk]
    have hv : Hid (∀ (t' s' : VT) (x y : Value) (W : World), t' ∈ t.items → s' ∈ s.items → Lies 0 W t'.items x → Lies 0 W s'.items y →
      Calls Tryz.prog 87 #[.agg #[.int .i64 t'.kind, .int .i64 t'.num, .string t'.text, x], .agg #[.int .i64 s'.kind, .int .i64 s'.num, .string s'.text, y]] W fun e W' => e = .returned (.int .i64 0) ∧ Below W.heap.size W W') := fun t' _ _ _ _ ht => by rw [e1] at ht; cases ht
    rcases h46 with h | h | h
    · exact refLoop4 0 (fun _ _ => 0) t.kind t.num s.num t.text s.text t.items s.items _ _ w (Lies.deeper _ _ _ hx) (Lies.deeper _ _ _ hy) hv h
    · exact refLoop5 0 (fun _ _ => 0) t.kind t.num s.num t.text s.text t.items s.items _ _ w (Lies.deeper _ _ _ hx) (Lies.deeper _ _ _ hy) hv h
    · exact refLoop6 0 (fun _ _ => 0) t.kind t.num s.num t.text s.text t.items s.items _ _ w (Lies.deeper _ _ _ hx) (Lies.deeper _ _ _ hy) hv h
  | succ d ih =>
    intro t s x y w hx hy
    obtain ⟨ax, cx, rfl, _⟩ := Lies.slice hx
    obtain ⟨ay, cy, rfl, _⟩ := Lies.slice hy
    refine ref_core _ _ _ _ (cmpL (cmpV d) t.items s.items) _ _ _ _ _ _ _ _ w (fun hk h46 => ?_)
    rw [← hk]
    rcases h46 with h | h | h
    · exact refLoop4 d (cmpV d) t.kind t.num s.num t.text s.text t.items s.items _ _ w hx hy (fun t' s' x' y' W' _ _ => ih t' s' x' y' W') h
    · exact refLoop5 d (cmpV d) t.kind t.num s.num t.text s.text t.items s.items _ _ w hx hy (fun t' s' x' y' W' _ _ => ih t' s' x' y' W') h
    · exact refLoop6 d (cmpV d) t.kind t.num s.num t.text s.text t.items s.items _ _ w hx hy (fun t' s' x' y' W' _ _ => ih t' s' x' y' W') h

end Go.Proofs.YtofceccicmlmoaaGreat

namespace Go.Proofs.YtofceccicmlmoaaGreat
open Go.RowKit

/-- Of every step-th item from place j on: each below the one behind. -/
def risF (f : VT → VT → Int) (step : Nat) (l : List VT) : Nat → Nat → Bool
  | 0, _ => true
  | b + 1, j => match l[j]?, l[j + step]? with
    | some x, some y => if 0 ≤ f x y then false else risF f step l b (j + step)
    | _, _ => true

theorem risF_end (f : VT → VT → Int) (step : Nat) (l : List VT) (b j : Nat) (h : ¬ j + step < l.length) : risF f step l b j = true := by
  cases b with
  | zero => rfl
  | succ b =>
    unfold risF
    rw [List.getElem?_eq_none (l := l) (i := j + step) (by omega)]
    cases l[j]? <;> rfl

theorem risF_step (f : VT → VT → Int) (step : Nat) (l : List VT) (b j : Nat) (h0 : j < l.length) (h : j + step < l.length) : risF f step l (b + 1) j = if 0 ≤ f l[j] l[j + step] then false else risF f step l b (j + step) := by
  conv => lhs; unfold risF
  rw [List.getElem?_eq_getElem h0, List.getElem?_eq_getElem h]

set_option maxHeartbeats 1000000 in
theorem rising1 (d : Nat) (l : List VT) (u : Value) (w : World) (hu : Lies (d + 1) w l u) (hlen : l.length ≤ 1024) :
    Calls Tryz.prog 92 #[u, .int .i64 1] w fun e w' => e = .returned (.bool (risF (cmpV d) 1 l l.length 0)) ∧ Grew w w' := by
  obtain ⟨a1, c1, rfl, hb1, hr1⟩ := hu
  have Hr1 : Hid _ := hr1
  clear hr1 hb1
  go_enter Tryz.func92, Tryz.ntmps92
  go_wp2_with fail
  go_loopg [5] (l.length + 1) (fun g i wr => ∃ j k b : Nat, i = .int .i64 (k : Int) ∧ Hid (k = j + 1) ∧ j ≤ l.length + 1 ∧ l.length ≤ j + b ∧ g = l.length + 1 - j ∧ Hid (risF (cmpV d) 1 l l.length 0 = risF (cmpV d) 1 l b j) ∧ Grew w wr)
  case atStart => exact ⟨0, 1, l.length, rfl, rfl, by omega, by omega, by omega, rfl, Grew.refl _⟩
  case round =>
    obtain ⟨j, k, b, rfl, Hkj, hj, hjb, hk, Hc, hbw⟩ := hrel
    have Hk : Hid _ := hk
    clear hk
    have hkj := Hkj.out
    by_cases hlt : k < l.length
    · obtain ⟨b1, o1, rfl, hall1⟩ := Hr1.out (by intro e; simp [e] at hlt)
      have hlj : j < l.length := by omega
      have hljs : j + 1 < l.length := by omega
      obtain ⟨x, p0, p1, p2, p3, p4, _⟩ := hall1 j hlj
      obtain ⟨y, q0, q1, q2, q3, q4, _⟩ := hall1 k hlt
      clear hall1
      have hwr : IntKind.i64.wrap ((k : Int) - 1) = (j : Int) := by rw [IntKind.wrap_i64]; omega
      have Hst : Hid _ := risF_step (cmpV d) 1 l (b - 1) j hlj hljs
      have hbb : b - 1 + 1 = b := by omega
      rw [hbb] at Hst
      have hlk : l[j + 1]'hljs = l[k] := by congr 1; exact hkj.symm
      rw [hlk] at Hst
      clear hbb hlk
      obtain ⟨ax, cx, rfl, _⟩ := Lies.slice p4
      obtain ⟨ay, cy, rfl, _⟩ := Lies.slice q4
      have p0 := cell_keeps hbw.below p0; have p1 := cell_keeps hbw.below p1; have p2 := cell_keeps hbw.below p2; have p3 := cell_keeps hbw.below p3
      have q0 := cell_keeps hbw.below q0; have q1 := cell_keeps hbw.below q1; have q2 := cell_keeps hbw.below q2; have q3 := cell_keeps hbw.below q3
      have p4 := Lies.keeps hbw.drew.below _ _ _ p4
      have q4 := Lies.keeps hbw.drew.below _ _ _ q4
      have hcm : Hid _ := compare_any d l[j] l[k] _ _ wr.drew p4 q4
      clear p4 q4
      have hjk : j < k := by omega
      clear hkj
      have hcr := cmpV_range d l[j] l[k]
      have Hcr : Hid _ := hcr
      clear hcr
      go_wp2_with fail
      go_region_held3 (fun w' => w'.cell? ⟨b1, o1 + j * 4, none⟩ = some (.int .i64 l[j].kind) ∧ w'.cell? ⟨b1, o1 + j * 4 + 1, none⟩ = some (.int .i64 l[j].num) ∧ w'.cell? ⟨b1, o1 + j * 4 + 2, none⟩ = some (.string l[j].text) ∧ w'.cell? ⟨b1, o1 + j * 4 + 3, none⟩ = some (.slice ax l[j].items.length cx)
          ∧ w'.cell? ⟨b1, o1 + k * 4, none⟩ = some (.int .i64 l[k].kind) ∧ w'.cell? ⟨b1, o1 + k * 4 + 1, none⟩ = some (.int .i64 l[k].num) ∧ w'.cell? ⟨b1, o1 + k * 4 + 2, none⟩ = some (.string l[k].text) ∧ w'.cell? ⟨b1, o1 + k * 4 + 3, none⟩ = some (.slice ay l[k].items.length cy)) (go_keep)
          (first | (go_at_call 52; refine Calls.mono hcm.out ?_; rintro e w1 ⟨rfl, hb1⟩; have hb2 : Grew wr w1 := ((Grew.refl wr).drew).trans hb1; clear hb1; have r0 := cell_keeps hb2.below p0; have r1 := cell_keeps hb2.below p1; have r2 := cell_keeps hb2.below p2; have r3 := cell_keeps hb2.below p3; have t0 := cell_keeps hb2.below q0; have t1 := cell_keeps hb2.below q1; have t2 := cell_keeps hb2.below q2; have t3 := cell_keeps hb2.below q3))
      clear hcm p0 p1 p2 p3 q0 q1 q2 q3 r0 r1 r2 r3 t0 t1 t2 t3 hwr
      have hb3 : Grew w w1 := hbw.trans hb2
      by_cases hz : 0 ≤ cmpV d l[j] l[k]
      · have hfin : Hid (risF (cmpV d) 1 l l.length 0 = false) := by
          show _ = _
          rw [Hc.out, Hst.out, if_pos hz]
        clear Hst Hc
        go_wp2_with fail
        go_ret
        exact ⟨by rw [hfin.out]; rfl, hb3⟩
      · have hfin : Hid (risF (cmpV d) 1 l l.length 0 = risF (cmpV d) 1 l (b - 1) (j + 1)) := by
          show _ = _
          rw [Hc.out, Hst.out, if_neg hz]
        clear Hst Hc
        go_wp2_with fail
        go_roundg (l.length + 1 - (j + 1))
        case measure => have := Hk.out; have := Hkj.out; omega
        case rel =>
          have e1 := Hkj.out
          exact ⟨j + 1, k + 1, b - 1, by go_num, by show _ = _; omega, by omega, by omega, rfl, hfin, hb3⟩
    · have Hs : Hid _ := risF_end (cmpV d) 1 l b j (by omega)
      clear hkj
      go_wp2_with fail
      go_ret
      exact ⟨by rw [Hc.out, Hs.out]; rfl, hbw⟩

set_option maxHeartbeats 1000000 in
theorem rising2 (d : Nat) (l : List VT) (u : Value) (w : World) (hu : Lies (d + 1) w l u) (hlen : l.length ≤ 1024) :
    Calls Tryz.prog 92 #[u, .int .i64 2] w fun e w' => e = .returned (.bool (risF (cmpV d) 2 l l.length 0)) ∧ Grew w w' := by
  obtain ⟨a1, c1, rfl, hb1, hr1⟩ := hu
  have Hr1 : Hid _ := hr1
  clear hr1 hb1
  go_enter Tryz.func92, Tryz.ntmps92
  go_wp2_with fail
  go_loopg [5] (l.length + 2) (fun g i wr => ∃ j k b : Nat, i = .int .i64 (k : Int) ∧ Hid (k = j + 2) ∧ j ≤ l.length + 2 ∧ l.length ≤ j + b ∧ g = l.length + 2 - j ∧ Hid (risF (cmpV d) 2 l l.length 0 = risF (cmpV d) 2 l b j) ∧ Grew w wr)
  case atStart => exact ⟨0, 2, l.length, rfl, rfl, by omega, by omega, by omega, rfl, Grew.refl _⟩
  case round =>
    obtain ⟨j, k, b, rfl, Hkj, hj, hjb, hk, Hc, hbw⟩ := hrel
    have Hk : Hid _ := hk
    clear hk
    have hkj := Hkj.out
    by_cases hlt : k < l.length
    · obtain ⟨b1, o1, rfl, hall1⟩ := Hr1.out (by intro e; simp [e] at hlt)
      have hlj : j < l.length := by omega
      have hljs : j + 2 < l.length := by omega
      obtain ⟨x, p0, p1, p2, p3, p4, _⟩ := hall1 j hlj
      obtain ⟨y, q0, q1, q2, q3, q4, _⟩ := hall1 k hlt
      clear hall1
      have hwr : IntKind.i64.wrap ((k : Int) - 2) = (j : Int) := by rw [IntKind.wrap_i64]; omega
      have Hst : Hid _ := risF_step (cmpV d) 2 l (b - 1) j hlj hljs
      have hbb : b - 1 + 1 = b := by omega
      rw [hbb] at Hst
      have hlk : l[j + 2]'hljs = l[k] := by congr 1; exact hkj.symm
      rw [hlk] at Hst
      clear hbb hlk
      obtain ⟨ax, cx, rfl, _⟩ := Lies.slice p4
      obtain ⟨ay, cy, rfl, _⟩ := Lies.slice q4
      have p0 := cell_keeps hbw.below p0; have p1 := cell_keeps hbw.below p1; have p2 := cell_keeps hbw.below p2; have p3 := cell_keeps hbw.below p3
      have q0 := cell_keeps hbw.below q0; have q1 := cell_keeps hbw.below q1; have q2 := cell_keeps hbw.below q2; have q3 := cell_keeps hbw.below q3
      have p4 := Lies.keeps hbw.drew.below _ _ _ p4
      have q4 := Lies.keeps hbw.drew.below _ _ _ q4
      have hcm : Hid _ := compare_any d l[j] l[k] _ _ wr.drew p4 q4
      clear p4 q4
      have hjk : j < k := by omega
      clear hkj
      have hcr := cmpV_range d l[j] l[k]
      have Hcr : Hid _ := hcr
      clear hcr
      go_wp2_with fail
      go_region_held3 (fun w' => w'.cell? ⟨b1, o1 + j * 4, none⟩ = some (.int .i64 l[j].kind) ∧ w'.cell? ⟨b1, o1 + j * 4 + 1, none⟩ = some (.int .i64 l[j].num) ∧ w'.cell? ⟨b1, o1 + j * 4 + 2, none⟩ = some (.string l[j].text) ∧ w'.cell? ⟨b1, o1 + j * 4 + 3, none⟩ = some (.slice ax l[j].items.length cx)
          ∧ w'.cell? ⟨b1, o1 + k * 4, none⟩ = some (.int .i64 l[k].kind) ∧ w'.cell? ⟨b1, o1 + k * 4 + 1, none⟩ = some (.int .i64 l[k].num) ∧ w'.cell? ⟨b1, o1 + k * 4 + 2, none⟩ = some (.string l[k].text) ∧ w'.cell? ⟨b1, o1 + k * 4 + 3, none⟩ = some (.slice ay l[k].items.length cy)) (go_keep)
          (first | (go_at_call 52; refine Calls.mono hcm.out ?_; rintro e w1 ⟨rfl, hb1⟩; have hb2 : Grew wr w1 := ((Grew.refl wr).drew).trans hb1; clear hb1; have r0 := cell_keeps hb2.below p0; have r1 := cell_keeps hb2.below p1; have r2 := cell_keeps hb2.below p2; have r3 := cell_keeps hb2.below p3; have t0 := cell_keeps hb2.below q0; have t1 := cell_keeps hb2.below q1; have t2 := cell_keeps hb2.below q2; have t3 := cell_keeps hb2.below q3))
      clear hcm p0 p1 p2 p3 q0 q1 q2 q3 r0 r1 r2 r3 t0 t1 t2 t3 hwr
      have hb3 : Grew w w1 := hbw.trans hb2
      by_cases hz : 0 ≤ cmpV d l[j] l[k]
      · have hfin : Hid (risF (cmpV d) 2 l l.length 0 = false) := by
          show _ = _
          rw [Hc.out, Hst.out, if_pos hz]
        clear Hst Hc
        go_wp2_with fail
        go_ret
        exact ⟨by rw [hfin.out]; rfl, hb3⟩
      · have hfin : Hid (risF (cmpV d) 2 l l.length 0 = risF (cmpV d) 2 l (b - 1) (j + 2)) := by
          show _ = _
          rw [Hc.out, Hst.out, if_neg hz]
        clear Hst Hc
        go_wp2_with fail
        go_roundg (l.length + 2 - (j + 2))
        case measure => have := Hk.out; have := Hkj.out; omega
        case rel =>
          have e1 := Hkj.out
          exact ⟨j + 2, k + 2, b - 1, by go_num, by show _ = _; omega, by omega, by omega, rfl, hfin, hb3⟩
    · have Hs : Hid _ := risF_end (cmpV d) 2 l b j (by omega)
      clear hkj
      go_wp2_with fail
      go_ret
      exact ⟨by rw [Hc.out, Hs.out]; rfl, hbw⟩

end Go.Proofs.YtofceccicmlmoaaGreat

namespace Go.Proofs.YtofceccicmlmoaaGreat
open Go.RowKit

def okNum (t : VT) : Bool := if t.kind == 2 then true else if t.kind == 1 then (t.num == 0 || t.num == 1) else t.num == 0
def okText (t : VT) : Bool := if t.kind == 3 then (decide (t.text.size ≤ 256) && utfB t.text) else t.text.toList.isEmpty

set_option maxHeartbeats 400000 in
theorem rightNum_any (t : VT) (a : Option Addr) (l c : Nat) (w : World) : Calls Tryz.prog 68 #[.agg #[.int .i64 t.kind, .int .i64 t.num, .string t.text, .slice a l c]] w fun e w' => e = .returned (.bool (okNum t)) ∧ Grew w w' := by
  cases h2 : (t.kind == 2)
  · cases h1 : (t.kind == 1)
    · go_enter Tryz.func68, Tryz.ntmps68
      go_wp2_with fail
      go_ret
      exact ⟨by simp [okNum, h1, h2], (Grew.refl _).alloc _⟩
    · cases h0 : (t.num == 0)
      · go_enter Tryz.func68, Tryz.ntmps68
        go_wp2_with fail
        go_ret
        exact ⟨by simp [okNum, h1, h2, h0], (Grew.refl _).alloc _⟩
      · go_enter Tryz.func68, Tryz.ntmps68
        go_wp2_with fail
        go_ret
        exact ⟨by simp [okNum, h1, h2, h0], (Grew.refl _).alloc _⟩
  · go_enter Tryz.func68, Tryz.ntmps68
    go_wp2_with fail
    go_ret
    exact ⟨by simp [okNum, h2], (Grew.refl _).alloc _⟩

set_option maxHeartbeats 400000 in
theorem rightText_any (t : VT) (a : Option Addr) (l c : Nat) (w : World) (hs : t.text.size ≤ 9223372036854775807) : Calls Tryz.prog 69 #[.agg #[.int .i64 t.kind, .int .i64 t.num, .string t.text, .slice a l c]] w fun e w' => e = .returned (.bool (okText t)) ∧ Grew w w' := by
  cases h3 : (t.kind == 3)
  · have h3' : (t.kind != 3) = true := by simp [bne, h3]
    go_enter Tryz.func69, Tryz.ntmps69
    go_wp2_with fail
    go_ret
    exact ⟨by simp [okText, h3], (Grew.refl _).alloc _⟩
  · have h3' : (t.kind != 3) = false := by simp [bne, h3]
    by_cases hl : t.text.size ≤ 256
    · have hl' : (t.text.size : Int) ≤ 256 := by omega
      go_enter Tryz.func69, Tryz.ntmps69
      go_wp2_with fail
      refine (isUTF8_any _ _ hs).mono ?_
      rintro e w1 ⟨rfl, hb⟩
      go_wp2_with fail
      go_ret
      exact ⟨by simp [okText, h3, hl], ((Grew.refl _).alloc _).trans hb⟩
    · have hl' : ¬ (t.text.size : Int) ≤ 256 := by omega
      go_enter Tryz.func69, Tryz.ntmps69
      go_wp2_with fail
      go_ret
      exact ⟨by simp [okText, h3]; omega, (Grew.refl _).alloc _⟩

/-- Are a value's items as its kind asks? -/
def okItems (d : Nat) (t : VT) : Bool :=
  if t.kind == 4 then true else if t.kind == 5 then risF (cmpV d) 1 t.items t.items.length 0
  else if t.kind == 6 then ((t.items.length : Int) % 2 == 0 && risF (cmpV d) 2 t.items t.items.length 0) else (t.items.length : Int) == 0

set_option maxHeartbeats 1000000 in
theorem rightItems_any (d : Nat) (t : VT) (u : Value) (w : World) (hu : Lies (d + 1) w t.items u) (hlen : t.items.length ≤ 1024) :
    Calls Tryz.prog 70 #[.agg #[.int .i64 t.kind, .int .i64 t.num, .string t.text, u]] w fun e w' => e = .returned (.bool (okItems d t)) ∧ Grew w w' := by
  obtain ⟨a, c, rfl, _⟩ := Lies.slice hu
  have HL : Hid _ := fun o => Lies.keeps ((Grew.refl w).alloc o).below _ _ _ hu
  clear hu
  cases h4 : (t.kind == 4)
  · cases h5 : (t.kind == 5)
    · cases h6 : (t.kind == 6)
      · go_enter Tryz.func70, Tryz.ntmps70
        go_wp2_with fail
        go_ret
        exact ⟨by simp [okItems, h4, h5, h6], (Grew.refl _).alloc _⟩
      · cases hm : ((t.items.length : Int) % 2 == 0)
        · go_enter Tryz.func70, Tryz.ntmps70
          go_wp2_with fail
          go_ret
          exact ⟨by simp [okItems, h4, h5, h6, hm], (Grew.refl _).alloc _⟩
        · go_enter Tryz.func70, Tryz.ntmps70
          go_wp2_with fail
          refine (rising2 d t.items _ _ (HL.out _) hlen).mono ?_
          rintro e w1 ⟨rfl, hb⟩
          go_wp2_with fail
          go_ret
          exact ⟨by simp [okItems, h4, h5, h6, hm], ((Grew.refl _).alloc _).trans hb⟩
    · go_enter Tryz.func70, Tryz.ntmps70
      go_wp2_with fail
      refine (rising1 d t.items _ _ (HL.out _) hlen).mono ?_
      rintro e w1 ⟨rfl, hb⟩
      go_wp2_with fail
      go_ret
      exact ⟨by simp [okItems, h4, h5], ((Grew.refl _).alloc _).trans hb⟩
  · go_enter Tryz.func70, Tryz.ntmps70
    go_wp2_with fail
    go_ret
    exact ⟨by simp [okItems, h4], (Grew.refl _).alloc _⟩

def ownV (d : Nat) (t : VT) : Bool := decide (0 ≤ t.kind) && (decide (t.kind ≤ 6) && (okNum t && (okText t && okItems d t)))

def rpV : Nat → VT → Bool
  | 0, t => ownV 0 t
  | d + 1, t => t.items.all (rpV d) && ownV d t

def Sm : Nat → VT → Prop
  | 0, _ => True
  | d + 1, t => t.items.length ≤ 1024 ∧ ∀ x ∈ t.items, Sm d x

set_option maxHeartbeats 1000000 in
theorem rightParts_core (d : Nat) (f : VT → Bool) (t : VT) (u : Value) (w : World) (hu : Lies (d + 1) w t.items u) (hlen : t.items.length ≤ 1024) (hs : t.text.size ≤ 9223372036854775807)
    (hf : Hid (∀ (x : VT) (v : Value) (W : World), x ∈ t.items → Lies d W x.items v → x.text.size ≤ 9223372036854775807 →
      Calls Tryz.prog 46 #[.agg #[.int .i64 x.kind, .int .i64 x.num, .string x.text, v]] W fun e W' => e = .returned (.bool (f x)) ∧ Grew W W')) :
    Calls Tryz.prog 46 #[.agg #[.int .i64 t.kind, .int .i64 t.num, .string t.text, u]] w fun e w' => e = .returned (.bool (t.items.all f && ownV d t)) ∧ Grew w w' := by
  have HL : Hid _ := hu
  obtain ⟨a, c, rfl, hb1, hr1⟩ := hu
  have Hr : Hid _ := hr1
  clear hr1
  go_enter Tryz.func46, Tryz.ntmps46
  go_wp2_with fail
  go_loopg [8] t.items.length (fun g i wr => ∃ j : Nat, i = .int .i64 (j : Int) ∧ j ≤ t.items.length ∧ g = t.items.length - j ∧ Hid (t.items.all f = (t.items.drop j).all f) ∧ Grew w wr ∧ Boxed wr w.heap.size t.kind t.num t.text (.slice a t.items.length c))
  case atStart => exact ⟨0, rfl, by omega, by omega, rfl, (Grew.refl _).alloc _, boxed_alloc w t.kind t.num t.text _ 24⟩
  case round =>
    obtain ⟨j, rfl, hj, hk, Hc, hbw, hbx⟩ := hrel
    have Hk : Hid _ := hk
    clear hk
    by_cases hlt : j < t.items.length
    · obtain ⟨b1, o1, rfl, hall1⟩ := Hr.out (by intro e; simp [e] at hlt)
      obtain ⟨x, p0, p1, p2, p3, p4, p5⟩ := hall1 j hlt
      clear hall1
      obtain ⟨ax, cx, rfl, _⟩ := Lies.slice p4
      have p0 := cell_keeps hbw.below p0; have p1 := cell_keeps hbw.below p1; have p2 := cell_keeps hbw.below p2; have p3 := cell_keeps hbw.below p3
      have p4 : Hid (Lies d w t.items[j].items (.slice ax t.items[j].items.length cx)) := p4
      have hl1 : b1 < wr.heap.size := cell_lt p0
      have Hd : Hid (t.items.drop j = t.items[j] :: t.items.drop (j + 1)) := List.drop_eq_getElem_cons hlt
      have HB : Hid _ := hbx
      clear hbx
      go_wp2_with fail
      have hfc := hf.out t.items[j] (.slice ax t.items[j].items.length cx)
      refine (hfc _ (List.getElem_mem hlt) (Lies.keeps (hbw.alloc _).below _ _ _ p4.out) p5).mono ?_
      rintro e w1 ⟨rfl, hg⟩
      have hb2 : Grew w w1 := (hbw.alloc _).trans hg
      have HB1 : Hid _ := (HB.out.keeps ((Grew.refl _).alloc _).below).keeps hg.below
      clear hg hfc p0 p1 p2 p3 p4 HB hf
      cases hfx : f t.items[j]
      · go_wp2_with fail
        go_ret
        exact ⟨by rw [Hc.out, Hd.out, List.all_cons, hfx]; rfl, hb2⟩
      · go_wp2_with fail
        go_roundg (t.items.length - (j + 1))
        case measure => have := Hk.out; omega
        case rel =>
          refine ⟨j + 1, by go_num, by omega, rfl, ?_, hb2, HB1.out⟩
          show _ = _
          rw [Hc.out, Hd.out, List.all_cons, hfx]; rfl
    · have Hd : Hid (t.items.all f = true) := by
        show _ = _
        rw [Hc.out, List.drop_eq_nil_of_le (by omega)]; rfl
      clear Hc Hr hf
      obtain ⟨c0, c1, c2, c3⟩ := hbx
      have HB : Hid _ := Boxed.mk c0 c1 c2 c3
      by_cases k0 : 0 ≤ t.kind
      · by_cases k6 : t.kind ≤ 6
        · go_wp2_with fail
          refine (rightNum_any t _ _ _ _).mono ?_
          rintro e w1 ⟨rfl, hg⟩
          have hb2 := hbw.trans hg
          obtain ⟨c0, c1, c2, c3⟩ := HB.out.keeps hg.below
          have HB1 : Hid _ := Boxed.mk c0 c1 c2 c3
          clear HB hg
          cases hn : okNum t
          · go_wp2_with fail
            go_ret
            exact ⟨by rw [Hd.out]; simp [ownV, hn], hb2⟩
          · go_wp2_with fail
            refine (rightText_any t _ _ _ _ hs).mono ?_
            rintro e w2 ⟨rfl, hg⟩
            have hb3 := hb2.trans hg
            obtain ⟨c0, c1, c2, c3⟩ := HB1.out.keeps hg.below
            clear HB1 hg
            cases ht : okText t
            · go_wp2_with fail
              go_ret
              exact ⟨by rw [Hd.out]; simp [ownV, hn, ht], hb3⟩
            · go_wp2_with fail
              refine (rightItems_any d t _ _ (Lies.keeps hb3.below _ _ _ HL.out) hlen).mono ?_
              rintro e w3 ⟨rfl, hg⟩
              go_wp2_with fail
              go_ret
              exact ⟨by rw [Hd.out]; simp [ownV, hn, ht, k0, k6], hb3.trans hg⟩
        · go_wp2_with fail
          go_ret
          exact ⟨by rw [Hd.out]; simp [ownV]; omega, hbw⟩
      · go_wp2_with fail
        go_ret
        exact ⟨by rw [Hd.out]; simp [ownV]; omega, hbw⟩

theorem rightParts_any : ∀ (d : Nat) (t : VT) (u : Value) (w : World), Lies d w t.items u → Sm d t → t.text.size ≤ 9223372036854775807 →
    Calls Tryz.prog 46 #[.agg #[.int .i64 t.kind, .int .i64 t.num, .string t.text, u]] w fun e w' => e = .returned (.bool (rpV d t)) ∧ Grew w w' := by
  intro d
  induction d with
  | zero =>
    intro t u w hu _ hs
    have e1 : t.items = [] := hu.1
    have h := rightParts_core 0 (fun _ => true) t u w (Lies.deeper _ _ _ hu) (by rw [e1]; simp) hs (fun x _ _ hx => by rw [e1] at hx; cases hx)
    rw [e1] at h
    simpa [rpV] using h
  | succ d ih =>
    intro t u w hu hsm hs
    exact rightParts_core d (rpV d) t u w hu hsm.1 hs (fun x v W hx hl htx => ih x v W hl (hsm.2 x hx) htx)

end Go.Proofs.YtofceccicmlmoaaGreat

namespace Go.Proofs.YtofceccicmlmoaaGreat
open Go.RowKit

def all2 (f : VT → VT → Bool) : List VT → List VT → Bool
  | x :: xs, y :: ys => f x y && all2 f xs ys
  | _, _ => true

def headS (a b : VT) : Bool := a.kind == b.kind && (a.num == b.num && (a.text.toList == b.text.toList && a.items.length == b.items.length))

def sameV : Nat → VT → VT → Bool
  | 0, a, b => headS a b
  | d + 1, a, b => headS a b && all2 (sameV d) a.items b.items

theorem all2_step (f : VT → VT → Bool) (l m : List VT) (j : Nat) (h1 : j < l.length) (h2 : j < m.length) : all2 f (l.drop j) (m.drop j) = (f l[j] m[j] && all2 f (l.drop (j + 1)) (m.drop (j + 1))) := by
  rw [List.drop_eq_getElem_cons h1, List.drop_eq_getElem_cons h2]; rfl

theorem all2_end (f : VT → VT → Bool) (l m : List VT) (j : Nat) (h : l.length ≤ j) : all2 f (l.drop j) (m.drop j) = true := by
  rw [List.drop_eq_nil_of_le h]; rfl

set_option maxHeartbeats 2000000 in
theorem same_core (d : Nat) (f : VT → VT → Bool) (t s : VT) (u v : Value) (w : World) (hu : Lies (d + 1) w t.items u) (hv : Lies (d + 1) w s.items v)
    (hf : Hid (∀ (x y : VT) (p q : Value) (W : World), x ∈ t.items → y ∈ s.items → Lies d W x.items p → Lies d W y.items q →
      Calls Tryz.prog 8 #[.agg #[.int .i64 x.kind, .int .i64 x.num, .string x.text, p], .agg #[.int .i64 y.kind, .int .i64 y.num, .string y.text, q]] W fun e W' => e = .returned (.bool (f x y)) ∧ Grew W W')) :
    Calls Tryz.prog 8 #[.agg #[.int .i64 t.kind, .int .i64 t.num, .string t.text, u], .agg #[.int .i64 s.kind, .int .i64 s.num, .string s.text, v]] w fun e w' => e = .returned (.bool (headS t s && all2 f t.items s.items)) ∧ Grew w w' := by
  obtain ⟨a1, c1, rfl, hb1, hr1⟩ := hu
  obtain ⟨a2, c2, rfl, hb2, hr2⟩ := hv
  have Hr1 : Hid _ := hr1; have Hr2 : Hid _ := hr2
  clear hr1 hr2
  have HB2 : Hid (∀ o1 o2 : Obj, Grew w ((w.alloc o1).alloc o2)) := Grew.two w
  cases hk : (t.kind == s.kind)
  · have hk' : (t.kind != s.kind) = true := by simp [bne, hk]
    have Hfin : Hid ((headS t s && all2 f t.items s.items) = false) := by show _ = _; simp [headS, hk]
    go_enter Tryz.func8, Tryz.ntmps8
    go_wp2_with fail
    go_ret
    exact ⟨by rw [Hfin.out]; rfl, HB2.out _ _⟩
  have hk' : (t.kind != s.kind) = false := by simp [bne, hk]
  cases hn : (t.num == s.num)
  · have hn' : (t.num != s.num) = true := by simp [bne, hn]
    have Hfin : Hid ((headS t s && all2 f t.items s.items) = false) := by show _ = _; simp [headS, hn]
    go_enter Tryz.func8, Tryz.ntmps8
    go_wp2_with fail
    go_ret
    exact ⟨by rw [Hfin.out]; rfl, HB2.out _ _⟩
  have hn' : (t.num != s.num) = false := by simp [bne, hn]
  cases ht : (t.text.toList == s.text.toList)
  · have ht' : (t.text.toList != s.text.toList) = true := by simp [bne, ht]
    have Hfin : Hid ((headS t s && all2 f t.items s.items) = false) := by show _ = _; simp [headS, ht]
    go_enter Tryz.func8, Tryz.ntmps8
    go_wp2_with fail
    go_ret
    exact ⟨by rw [Hfin.out]; rfl, HB2.out _ _⟩
  have ht' : (t.text.toList != s.text.toList) = false := by simp [bne, ht]
  by_cases hl : t.items.length = s.items.length
  · have hl' : ((t.items.length : Int) != (s.items.length : Int)) = false := by rw [hl]; simp
    have Hh : Hid (headS t s = true) := by show _ = _; simp [headS, hk, hn, ht, hl]
    have Hl : Hid (t.items.length = s.items.length) := hl
    clear hl
    go_enter Tryz.func8, Tryz.ntmps8
    go_wp2_with fail
    go_loopg [37] t.items.length (fun g i wr => ∃ j : Nat, i = .int .i64 j ∧ j ≤ t.items.length ∧ g = t.items.length - j ∧ Hid (all2 f t.items s.items = all2 f (t.items.drop j) (s.items.drop j)) ∧ Grew w wr ∧ w.heap.size + 2 ≤ wr.heap.size ∧ wr.cell? ⟨w.heap.size, 3, none⟩ = some (.slice a1 t.items.length c1) ∧ wr.cell? ⟨w.heap.size + 1, 3, none⟩ = some (.slice a2 s.items.length c2))
    case atStart => exact ⟨0, rfl, by omega, by omega, rfl, HB2.out _ _, by simp, by simp, by simp⟩
    case round =>
      obtain ⟨j, rfl, hj1, hgk, Hc, hbw, hsz2, x1, x2⟩ := hrel
      have Hk : Hid _ := hgk
      clear hgk hk hk' hn hn' ht ht' hl'
      by_cases hlt : j < t.items.length
      · have hlt2 : j < s.items.length := by have := Hl.out; omega
        obtain ⟨b1, o1, rfl, hall1⟩ := Hr1.out (by intro e; simp [e] at hlt)
        obtain ⟨b2, o2, rfl, hall2⟩ := Hr2.out (by intro e; simp [e] at hlt2)
        obtain ⟨x, p0, p1, p2, p3, p4, _⟩ := hall1 j hlt
        obtain ⟨y, q0, q1, q2, q3, q4, _⟩ := hall2 j hlt2
        clear hall1 hall2
        obtain ⟨ax, cx, rfl, _⟩ := Lies.slice p4
        obtain ⟨ay, cy, rfl, _⟩ := Lies.slice q4
        have p0 := cell_keeps hbw.below p0; have p1 := cell_keeps hbw.below p1; have p2 := cell_keeps hbw.below p2; have p3 := cell_keeps hbw.below p3
        have q0 := cell_keeps hbw.below q0; have q1 := cell_keeps hbw.below q1; have q2 := cell_keeps hbw.below q2; have q3 := cell_keeps hbw.below q3
        have p4 : Hid (Lies d w t.items[j].items (.slice ax t.items[j].items.length cx)) := p4
        have q4 : Hid (Lies d w s.items[j].items (.slice ay s.items[j].items.length cy)) := q4
        have hl1 : b1 < wr.heap.size := cell_lt p0
        have hl2 : b2 < wr.heap.size := cell_lt q0
        go_wp2_with fail
        have hfc : Hid _ := (hf.out t.items[j] s.items[j] (.slice ax t.items[j].items.length cx) (.slice ay s.items[j].items.length cy))
        go_region_held3 (fun w' => w'.cell? ⟨w.heap.size, 3, none⟩ = some (.slice (some ⟨b1, o1, none⟩) t.items.length c1) ∧ w'.cell? ⟨w.heap.size + 1, 3, none⟩ = some (.slice (some ⟨b2, o2, none⟩) s.items.length c2)
          ∧ w'.cell? ⟨b1, o1 + j * 4, none⟩ = some (.int .i64 t.items[j].kind) ∧ w'.cell? ⟨b1, o1 + j * 4 + 1, none⟩ = some (.int .i64 t.items[j].num) ∧ w'.cell? ⟨b1, o1 + j * 4 + 2, none⟩ = some (.string t.items[j].text) ∧ w'.cell? ⟨b1, o1 + j * 4 + 3, none⟩ = some (.slice ax t.items[j].items.length cx)
          ∧ w'.cell? ⟨b2, o2 + j * 4, none⟩ = some (.int .i64 s.items[j].kind) ∧ w'.cell? ⟨b2, o2 + j * 4 + 1, none⟩ = some (.int .i64 s.items[j].num) ∧ w'.cell? ⟨b2, o2 + j * 4 + 2, none⟩ = some (.string s.items[j].text) ∧ w'.cell? ⟨b2, o2 + j * 4 + 3, none⟩ = some (.slice ay s.items[j].items.length cy)) (go_keep)
          (first | (go_at_call 8; refine (hfc.out _ (List.getElem_mem hlt) (List.getElem_mem hlt2) ?_ ?_).mono ?_; exact Lies.keeps hbw.drew.below _ _ _ p4.out; exact Lies.keeps hbw.drew.below _ _ _ q4.out; rintro e w1 ⟨rfl, hb1⟩; have hb2 : Grew wr w1 := ((Grew.refl wr).drew).trans hb1; clear hb1; have r0 := cell_keeps hb2.below p0; have r1 := cell_keeps hb2.below p1; have r2 := cell_keeps hb2.below p2; have r3 := cell_keeps hb2.below p3; have t0 := cell_keeps hb2.below q0; have t1 := cell_keeps hb2.below q1; have t2 := cell_keeps hb2.below q2; have t3 := cell_keeps hb2.below q3; have y1 := cell_keeps hb2.below x1; have y2 := cell_keeps hb2.below x2))
        clear hfc p4 q4 hf p0 p1 p2 p3 q0 q1 q2 q3 r0 r1 r2 r3 t0 t1 t2 t3 x1 x2
        have hb3 : Grew w w1 := hbw.trans hb2
        have hs3 : w.heap.size + 2 ≤ w1.heap.size := by have := hb2.below.size; omega
        have Hs : Hid _ := all2_step f t.items s.items j hlt hlt2
        cases hz : f t.items[j] s.items[j]
        · go_wp2_with fail
          go_ret
          exact ⟨by rw [Hh.out, Hc.out, Hs.out, hz]; rfl, hb3⟩
        · go_wp2_with fail
          go_roundg (t.items.length - (j + 1))
          case measure => have := Hk.out; omega
          case rel =>
            refine ⟨j + 1, by go_num, by omega, rfl, ?_, hb3, hs3, y1, y2⟩
            show _ = _
            rw [Hc.out, Hs.out, hz]; rfl
      · have Hs : Hid _ := all2_end f t.items s.items j (by omega)
        go_wp2_with fail
        go_ret
        exact ⟨by rw [Hh.out, Hc.out, Hs.out]; rfl, hbw⟩
  · have hl' : ((t.items.length : Int) != (s.items.length : Int)) = true := by rw [bne_iff_ne]; omega
    have Hfin : Hid ((headS t s && all2 f t.items s.items) = false) := by show _ = _; simp [headS, hl]
    clear hl
    go_enter Tryz.func8, Tryz.ntmps8
    go_wp2_with fail
    go_ret
    exact ⟨by rw [Hfin.out]; rfl, HB2.out _ _⟩

theorem same_any : ∀ (d : Nat) (t s : VT) (x y : Value) (w : World), Lies d w t.items x → Lies d w s.items y →
    Calls Tryz.prog 8 #[.agg #[.int .i64 t.kind, .int .i64 t.num, .string t.text, x], .agg #[.int .i64 s.kind, .int .i64 s.num, .string s.text, y]] w fun e w' => e = .returned (.bool (sameV d t s)) ∧ Grew w w' := by
  intro d
  induction d with
  | zero =>
    intro t s x y w hx hy
    have e1 : t.items = [] := hx.1
    have h := same_core 0 (fun _ _ => true) t s x y w (Lies.deeper _ _ _ hx) (Lies.deeper _ _ _ hy) (fun t' _ _ _ _ ht => by rw [e1] at ht; cases ht)
    have e2 : (headS t s && all2 (fun _ _ => true) t.items s.items) = sameV 0 t s := by rw [e1]; simp [all2, sameV]
    rw [e2] at h
    exact h
  | succ d ih =>
    intro t s x y w hx hy
    exact same_core d (sameV d) t s x y w hx hy (fun t' s' x' y' W' _ _ => ih t' s' x' y' W')

end Go.Proofs.YtofceccicmlmoaaGreat

