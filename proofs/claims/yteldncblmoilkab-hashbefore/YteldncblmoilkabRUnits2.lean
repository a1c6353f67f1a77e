/-
  The walk of the document's units: a right text's units are the program's.
-/
import Derived.Test.YteldncblmoilkabRUnits
namespace Go.Proofs.Yteldncblmoilkab
open Go.RowKit Go.PlainAid

def rHi (r : Int) : Int := 55296 + (r - 65536) / 1024
def rLo (r : Int) : Int := 56320 + (r - 65536) % 1024

theorem unR_hi (r : Nat) (h1 : 65535 < r) (h2 : r ≤ 1114111) : unR (r : Int) = [rHi r, rLo r] := by
  unfold unR
  rw [if_pos (by omega), hi_eq r (by omega) h2, lo_eq r (by omega) h2]
  rfl
theorem unR_lo (r : Nat) (h1 : ¬ 65535 < r) : unR (r : Int) = [uOne r] := by
  unfold unR
  rw [if_neg (by omega)]

theorem utf_step {s : ByteArray} {b pos : Nat} (hp : pos < s.size) (h : utfF s (b + 1) pos = true) : utfW s pos ≠ 0 ∧ utfF s b (pos + (Utf8.decode s pos).2) = true := by
  unfold utfF at h
  rw [if_pos hp] at h
  by_cases hb : (((Utf8.decode s pos).1 : Int) == 65533) = true ∧ preB (s.extract pos s.size) = false
  · rw [if_pos hb] at h; cases h
  · rw [if_neg hb] at h
    refine ⟨fun e => hb ?_, h⟩
    obtain ⟨a1, _⟩ := dec_utf s pos hp
    obtain ⟨c1, c2⟩ := a1 e
    exact ⟨by rw [c1]; rfl, c2⟩

set_option maxHeartbeats 2000000 in
set_option maxRecDepth 100000 in
theorem runits_any (s : ByteArray) (w : World) (hs : s.size ≤ 256) (hu : utfB s = true) : Calls Try.prog 55 #[.string s] w fun e w' => ∃ v, e = .returned v ∧ IntsAt .u16 w' (unL s) v ∧ Below w.heap.size w w' := by
  obtain ⟨i0, hi0, hz0, hz1, hz2⟩ := infoH
  have Hi : Hid _ := hi0; have Hz0 : Hid _ := hz0; have Hz1 : Hid _ := hz1; have Hz2 : Hid _ := hz2
  have Hu : Hid (utfB s = true) := hu
  clear hi0 hz0 hz1 hz2 hu
  have hse : s = s.extract 0 s.size := by
    apply ByteArray.ext
    rw [ByteArray.data_extract]
    exact (Array.extract_size (xs := s.data)).symm
  go_enter Try.func55, Try.ntmps55
  go_wp2_with fail
  go_loopg [0, 3] s.size (fun k x v wr => ∃ (pos b : Nat) (xs : List Int), x = .string (s.extract pos s.size) ∧ Hid (wr.ownsRow w.heap.size 86 1 v xs.length (xs.map (Value.int .u16))) ∧ pos ≤ s.size ∧ k = s.size - pos ∧ Hid (xs ++ unS s b pos = unL s) ∧ Hid (utfF s b pos = true) ∧ s.size ≤ pos + b ∧ xs.length ≤ 2 * pos ∧ Below w.heap.size w wr)
  case atStart => exact ⟨0, s.size, [], by rw [← hse], World.ownsRow_nil _ _ _ _, by omega, by omega, rfl, Hu.out, by omega, by simp, Below.refl _ _⟩
  case round =>
    obtain ⟨pos, b, xs, rfl, Hown, hps, hk, Hc, HU, hb, hx, hbw⟩ := hrel
    have Hk : Hid _ := hk
    clear hk hse
    have hsz : (s.extract pos s.size).size = s.size - pos := ext_size s pos
    by_cases hp : pos < s.size
    · obtain ⟨b, rfl⟩ : ∃ c, b = c + 1 := ⟨b - 1, by omega⟩
      obtain ⟨hne, hun⟩ := utf_step hp HU.out
      obtain ⟨d1, d2, d3⟩ := cd_eq s pos hp hne
      have hmx := dec_max s pos hp hne
      have hwd := width_pos s pos hp
      have He : Hid (unS s (b + 1) pos = unR (Utf8.decode s pos).1 ++ unS s b (pos + (Utf8.decode s pos).2)) := by
        show _ = _
        simp only [unS, hp, if_true]
      have HUN : Hid (utfF s b (pos + (Utf8.decode s pos).2) = true) := hun
      have hen : Hid (Enough (s.extract pos s.size)) := by show cdN _ ≤ _; rw [hsz]; omega
      have hcode := code_any (s.extract pos s.size)
      rw [d1, d2] at hcode
      have HCD : Hid (∀ w, Enough (s.extract pos s.size) → Calls Try.prog 77 #[.string (s.extract pos s.size)] w fun e w' => e = .returned (.tuple #[.int .i64 ((Utf8.decode s pos).1 : Nat), .int .i64 ((Utf8.decode s pos).2 : Nat)]) ∧ Drawn w w') := hcode
      have hee := ext_ext s pos (Utf8.decode s pos).2
      rw [hsz] at hee
      have hd3 : pos + (Utf8.decode s pos).2 ≤ s.size := by omega
      clear hcode hun hne d1 d2 d3 HU
      generalize (Utf8.decode s pos).1 = r at *
      generalize (Utf8.decode s pos).2 = wd at *
      generalize hxx : s.extract pos s.size = X at *
      have Hee : Hid (X.extract wd (s.size - pos) = s.extract (pos + wd) s.size) := hee
      clear hee hxx
      have hX0 : (0 : Int) < (X.size : Nat) := by omega
      have hwX : (wd : Int) ≤ (X.size : Nat) := by omega
      have hwXn : wd ≤ X.size := by omega
      go_wp2_with fail
      refine Calls.mono (HCD.out _ hen.out) ?_
      rintro e w1 ⟨rfl, hdr⟩
      have hg := hdr.grew
      have Hown1 : Hid (w1.ownsRow w.heap.size 86 1 u3 xs.length (xs.map (Value.int .u16))) := by
        obtain ⟨n, rfl⟩ := hdr
        exact Hown.out
      have hb1 : Below w.heap.size w w1 := hbw.trans (hg.below.mono hbw.size)
      clear hdr hg Hown hbw hen HCD
      by_cases hr : 65535 < r
      · have hr' : (65535 : Int) < (r : Int) := by omega
        have Hu2 : Hid (unR (r : Int) = [rHi r, rLo r]) := unR_hi r hr hmx
        go_wp2_with (first
          | (at_builtin; refine wpList_append_own _ rfl _ _ 73 rfl w.heap.size 86 i0 (.int .u16 0) 1 2 Try.underlying73 Hi.out Hz0.out Hz1.out Hz2.out rfl (by decide) _ _ _ rfl (Hown1.out.alloc _) ⟨w1.heap.size, 0, none⟩ 2 2 [.int .u16 (rHi r), .int .u16 (rLo r)] rfl rfl ?c1 ?c2 ?c3 ?c4 ?c5 ?_))
        case c1 =>
          intro q u hq
          match q, hq with
          | 0, hq => simp at hq; subst hq; simp [Addr.add, rHi]
          | 1, hq => simp at hq; subst hq; simp [Addr.add, rLo]
          | q + 2, hq => simp at hq
        case c2 => first | (intro u hu; simp at hu; rcases hu with rfl | rfl <;> rfl) | rfl
        case c3 => unfold maxLen; omega
        case c4 => omega
        case c5 => have := hb1.size; simp; omega
        intro v2 w2 hown hgrow _
        have hown2 : w2.ownsRow w.heap.size 86 1 v2 (xs ++ [rHi r, rLo r]).length ((xs ++ [rHi r, rLo r]).map (Value.int .u16)) := by simpa using hown
        have hob : ∀ k, (u3).ownBlock = some k → w.heap.size ≤ k := fun k hk => (Hown1.out.lt k hk).1
        have hb2 : Below w.heap.size w w2 := (hb1.alloc hb1.size _).grown hgrow (by have := hb1.size; simp; omega) hob
        have Hown2 : Hid (w2.ownsRow w.heap.size 86 1 v2 (xs ++ [rHi r, rLo r]).length ((xs ++ [rHi r, rLo r]).map (Value.int .u16))) := hown2
        clear hown hown2 hgrow Hown1 hob hb1
        go_wp2_with fail
        go_roundg (s.size - (pos + wd))
        case measure => have := Hk.out; omega
        case rel =>
          refine ⟨pos + wd, b, xs ++ [rHi r, rLo r], by rw [Hee.out], Hown2, by omega, rfl, ?_, HUN, by omega, by simp; omega, hb2⟩
          show _ = _
          rw [← Hc.out, He.out, Hu2.out, List.append_assoc]
      · have hr' : ¬ ((65535 : Int) < (r : Int)) := by omega
        have Hu2 : Hid (unR (r : Int) = [uOne r]) := unR_lo r hr
        go_wp2_with (first
          | (at_builtin; refine wpList_append_own _ rfl _ _ 73 rfl w.heap.size 86 i0 (.int .u16 0) 1 2 Try.underlying73 Hi.out Hz0.out Hz1.out Hz2.out rfl (by decide) _ _ _ rfl (Hown1.out.alloc _) ⟨w1.heap.size, 0, none⟩ 1 1 [.int .u16 (uOne r)] rfl rfl ?c1 ?c2 ?c3 ?c4 ?c5 ?_))
        case c1 =>
          intro q u hq
          match q, hq with
          | 0, hq => simp at hq; subst hq; simp [Addr.add, uOne]
          | q + 1, hq => simp at hq
        case c2 => first | (intro u hu; simp at hu; subst hu; rfl) | rfl
        case c3 => unfold maxLen; omega
        case c4 => omega
        case c5 => have := hb1.size; simp; omega
        intro v2 w2 hown hgrow _
        have hown2 : w2.ownsRow w.heap.size 86 1 v2 (xs ++ [uOne r]).length ((xs ++ [uOne r]).map (Value.int .u16)) := by simpa using hown
        have hob : ∀ k, (u3).ownBlock = some k → w.heap.size ≤ k := fun k hk => (Hown1.out.lt k hk).1
        have hb2 : Below w.heap.size w w2 := (hb1.alloc hb1.size _).grown hgrow (by have := hb1.size; simp; omega) hob
        have Hown2 : Hid (w2.ownsRow w.heap.size 86 1 v2 (xs ++ [uOne r]).length ((xs ++ [uOne r]).map (Value.int .u16))) := hown2
        clear hown hown2 hgrow Hown1 hob hb1
        go_wp2_with fail
        go_roundg (s.size - (pos + wd))
        case measure => have := Hk.out; omega
        case rel =>
          refine ⟨pos + wd, b, xs ++ [uOne r], by rw [Hee.out], Hown2, by omega, rfl, ?_, HUN, by omega, by simp; omega, hb2⟩
          show _ = _
          rw [← Hc.out, He.out, Hu2.out, List.append_assoc]
    · have hze : (s.extract pos s.size).size = 0 := by omega
      have h0 : ¬ ((0 : Int) < ((s.extract pos s.size).size : Nat)) := by omega
      have hfin : Hid (xs = unL s) := by
        have := Hc.out
        rw [unS_end s b pos hp, List.append_nil] at this
        exact this
      generalize s.extract pos s.size = X at *
      clear hsz hze
      go_wp2_with fail
      go_ret
      refine ⟨_, rfl, ?_, hbw⟩
      rw [← hfin.out]
      exact own_ints Hown.out

end Go.Proofs.Yteldncblmoilkab
