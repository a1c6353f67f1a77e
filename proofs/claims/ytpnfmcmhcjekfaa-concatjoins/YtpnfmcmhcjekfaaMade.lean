/-
  The contract of made.
-/
import Derived.Shelf.LaysM
import Derived.Shelf.Strconv.Clone
import Derived.Test.YtpnfmcmhcjekfaaUniq
namespace Go.Proofs
open Go.Shelf
def Try.laysM316_ren : Go.Shelf.Ren := ⟨fun | 316 => 94 | n => n, fun | 9 => 9 | 3 => 3 | 4 => 4 | 37 => 149 | 0 => 0 | 127 => 150 | 5 => 5 | n => n, fun | n => n⟩
theorem Try.laysM316 : Go.Proofs.LaysM.n316 Try.prog Try.laysM316_ren := {
  mixed := by kernel_rfl
  f316 := Try.func94.trans (congrArg some (by kernel_rfl))
  t0 := Try.underlying0
  a0 := Try.isAgg0
  z0 := Try.sizeOf0
  v0 := Try.zeroValue0
  t3 := Try.underlying3
  a3 := Try.isAgg3
  z3 := Try.sizeOf3
  v3 := Try.zeroValue3
  t4 := Try.underlying4
  a4 := Try.isAgg4
  z4 := Try.sizeOf4
  v4 := Try.zeroValue4
  t9 := Try.underlying9
  a9 := Try.isAgg9
  z9 := Try.sizeOf9
  v9 := Try.zeroValue9
  t37 := Try.underlying149
  a37 := Try.isAgg149
  z37 := Try.sizeOf149
  v37 := Try.zeroValue149
  t127 := Try.underlying150
  a127 := Try.isAgg150
  z127 := Try.sizeOf150
  v127 := Try.zeroValue150
  t5 := Try.underlying5
  a5 := Try.isAgg5
  z5 := Try.sizeOf5
  v5 := Try.zeroValue5
  i0 := by kernel_rfl
  i3 := by kernel_rfl
  i4 := by kernel_rfl
  i5 := by kernel_rfl
  i9 := by kernel_rfl
  i37 := by kernel_rfl
  i127 := by kernel_rfl }
open Go.RowKit in
theorem Try.stringslite_Clone (s : ByteArray) (w : World) (hlim : s.size ≤ 281474976710656) :
    Calls Try.prog 94 #[.string s] w fun e w' => e = .returned (.string s) ∧ Below w.heap.size w w' := Any.stringslite_Clone Try.laysM316 s w hlim
end Go.Proofs
namespace Go.Proofs.Ytpnfmcmhcjekfaa
open Go.RowKit

set_option maxHeartbeats 1000000 in
theorem strclone (s : ByteArray) (w : World) (hlim : s.size ≤ 281474976710656) : Calls Try.prog 72 #[.string s] w fun e w' => e = .returned (.string s) ∧ Below w.heap.size w w' := by
  go_enter Try.func72, Try.ntmps72
  go_wp2_with fail
  refine (Try.stringslite_Clone s _ hlim).mono ?_
  rintro e w1 ⟨rfl, hb⟩
  go_wp2_with fail
  go_ret
  exact ⟨rfl, hb⟩

/-- What is made of items: the value and OK, or the zero value and ErrLong. -/
def MadePost (d : Nat) (t : VT) (w : World) (e : Ending) (w' : World) : Prop :=
  if (fw d t 16 1024).1 = true then ∃ v, e = .returned (.tuple #[.agg #[.int .i64 t.kind, .int .i64 0, .string ⟨#[]⟩, v], .int .i64 0]) ∧ LiesB w.heap.size d w' t.items v ∧ Below w.heap.size w w'
  else e = .returned (.tuple #[.agg #[.int .i64 0, .int .i64 0, .string ⟨#[]⟩, .slice none 0 0], .int .i64 2]) ∧ Below w.heap.size w w'

theorem txt_any (s : ByteArray) (W : World) (h : s.size ≤ 281474976710656) : Calls Try.prog 72 #[.string s] W fun e W' => e = .returned (.string s) ∧ Below W.heap.size W W' := strclone s W h

theorem sm_len : ∀ (d : Nat) (t : VT), Sm d t → Len d t := by
  intro d
  induction d with
  | zero => intro t _; trivial
  | succ d ih => intro t h; exact ⟨by have := h.1; omega, fun x hx => ih x (h.2 x hx)⟩

end Go.Proofs.Ytpnfmcmhcjekfaa

namespace Go.Proofs.Ytpnfmcmhcjekfaa
open Go.RowKit

theorem made_no {d : Nat} {t : VT} {w w' : World} (hf : (fw d t 16 1024).1 = false) (hb : Below w.heap.size w w') :
    MadePost d t w (.returned (.tuple #[.agg #[.int .i64 0, .int .i64 0, .string ⟨#[]⟩, .slice none 0 0], .int .i64 2])) w' := by
  unfold MadePost
  rw [if_neg (by simp [hf])]
  exact ⟨rfl, hb⟩

theorem made_yes {d : Nat} {t : VT} {w w' : World} {v : Value} (hf : (fw d t 16 1024).1 = true) (hl : LiesB w.heap.size d w' t.items v) (hb : Below w.heap.size w w') :
    MadePost d t w (.returned (.tuple #[.agg #[.int .i64 t.kind, .int .i64 0, .string ⟨#[]⟩, v], .int .i64 0])) w' := by
  unfold MadePost
  rw [if_pos hf]
  exact ⟨v, rfl, hl, hb⟩

set_option maxHeartbeats 2000000 in
theorem made_any (d : Nat) (k : Int) (l : List VT) (u : Value) (w : World) (hu : Lies d w l u) (htx : Txt (fun s => s.size ≤ 281474976710656) d ⟨k, 0, ⟨#[]⟩, l⟩) :
    Calls Try.prog 83 #[.int .i64 k, u] w (MadePost d ⟨k, 0, ⟨#[]⟩, l⟩ w) := by
  obtain ⟨a, c, rfl, _⟩ := Lies.slice hu
  have HL : Hid (Lies d w l (.slice a l.length c)) := hu
  clear hu
  have HK1 : Hid (Blank ((w.alloc (.cells #[.int .i64 0, .int .i64 0, .string ⟨#[]⟩, .slice none 0 0] 31)).alloc (.cells #[.int .i64 k, .int .i64 0, .string ⟨#[]⟩, .slice a l.length c] 31)) w.heap.size) := (blank_alloc w).keeps ((Grew.refl _).alloc _).below
  have HK2 : Hid (Boxed ((w.alloc (.cells #[.int .i64 0, .int .i64 0, .string ⟨#[]⟩, .slice none 0 0] 31)).alloc (.cells #[.int .i64 k, .int .i64 0, .string ⟨#[]⟩, .slice a l.length c] 31)) (w.heap.size + 1) k 0 ⟨#[]⟩ (.slice a l.length c)) := by
    have := boxed_alloc (w.alloc (.cells #[.int .i64 0, .int .i64 0, .string ⟨#[]⟩, .slice none 0 0] 31)) k 0 ⟨#[]⟩ (.slice a l.length c) 31
    rw [World.size_alloc] at this
    exact this
  go_enter Try.func83, Try.ntmps83
  go_wp2_with fail
  refine (fits_any d ⟨k, 0, ⟨#[]⟩, l⟩ (.slice a l.length c) _ (Lies.keeps (Grew.two _ _ _).below _ _ _ HL.out)).mono ?_
  rintro e w1 ⟨rfl, hb⟩
  have hb1 : Below w.heap.size w w1 := (Grew.two w _ _).below.trans (hb.mono (by simp; omega))
  have HB1 : Hid (Blank w1 w.heap.size) := HK1.out.keeps hb
  obtain ⟨x0, x1, x2, x3⟩ := HK2.out.keeps hb
  clear hb HK1 HK2
  cases hf : (fw d ⟨k, 0, ⟨#[]⟩, l⟩ 16 1024).1
  · obtain ⟨y0, y1, y2, y3, z0, z1, z2, z3⟩ := HB1.out
    have Hbx : Hid _ := HB1.out.put (⟨0, 0, ⟨#[]⟩, []⟩, .slice none 0 0)
    have Hbl : Hid _ := below_put hb1 (Nat.le_refl _) (⟨0, 0, ⟨#[]⟩, []⟩, .slice none 0 0)
    go_wp2_with fail
    refine bodyPost_ret (v := .tuple #[.agg #[.int .i64 0, .int .i64 0, .string ⟨#[]⟩, .slice none 0 0], .int .i64 2]) ?_ rfl ?_
    · obtain ⟨q0, q1, q2, q3⟩ := Hbx.out
      simp only [encP, World.setCells, Nat.zero_add, Nat.reduceAdd] at q0 q1 q2 q3
      simp [results, Try.results83, go_sem, q0, q1, q2, q3]
    · exact made_no hf Hbl.out
  · have Hsm : Hid _ := sm_len d _ (fw_small d ⟨k, 0, ⟨#[]⟩, l⟩ 16 1024 (by omega) (by omega) hf)
    have htxh : Hid _ := htx
    go_wp2_with fail
    refine (copyOf_any (fun s => s.size ≤ 281474976710656) txt_any d ⟨k, 0, ⟨#[]⟩, l⟩ (.slice a l.length c) _ (Lies.keeps hb1 _ _ _ HL.out) htxh.out Hsm.out).mono ?_
    rintro e w2 ⟨v, rfl, hLB, hb2⟩
    have hbw2 : Below w.heap.size w w2 := hb1.trans (hb2.mono hb1.size)
    have HB2 : Hid (Blank w2 w.heap.size) := HB1.out.keeps hb2
    have hsz1 : w.heap.size + 1 < w1.heap.size := cell_lt x0
    have HLB : Hid (LiesB (w.heap.size + 2) d w2 l v) := LiesB.lower (by omega) _ _ _ hLB
    clear hb2 hLB x0 x1 x2 x3 HB1
    obtain ⟨av, cv, rfl, _⟩ := LiesB.slice HLB.out
    obtain ⟨y0, y1, y2, y3, z0, z1, z2, z3⟩ := HB2.out
    have Hbx : Hid _ := HB2.out.put (⟨k, 0, ⟨#[]⟩, l⟩, .slice av l.length cv)
    have Hbl : Hid _ := below_put hbw2 (Nat.le_refl _) (⟨k, 0, ⟨#[]⟩, l⟩, .slice av l.length cv)
    have Hfin : Hid (LiesB w.heap.size d (w2.setCells w.heap.size 0 (encP (⟨k, 0, ⟨#[]⟩, l⟩, .slice av l.length cv))) l (.slice av l.length cv)) :=
      LiesB.lower (by omega) _ _ _ (LiesB.stays (fun x v hx hv => ⟨by rw [World.cell?_setCells_out w.heap.size _ 0 w2 x (fun e _ => by omega)]; exact hv, World.frozen?_setCells ..⟩) _ _ _ HLB.out)
    go_wp2_with fail
    refine bodyPost_ret (v := .tuple #[.agg #[.int .i64 k, .int .i64 0, .string ⟨#[]⟩, .slice av l.length cv], .int .i64 0]) ?_ rfl ?_
    · obtain ⟨q0, q1, q2, q3⟩ := Hbx.out
      simp only [encP, World.setCells, Nat.zero_add, Nat.reduceAdd] at q0 q1 q2 q3
      simp [results, Try.results83, go_sem, q0, q1, q2, q3]
    · exact made_yes hf Hfin.out Hbl.out

end Go.Proofs.Ytpnfmcmhcjekfaa

