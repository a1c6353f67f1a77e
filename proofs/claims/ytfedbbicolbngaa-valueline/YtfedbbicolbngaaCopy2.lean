/-
  The walks of copyAll and copyOf.
-/
import Derived.Test.YtfedbbicolbngaaCopy
namespace Go.Proofs.Ytfedbbicolbngaa
open Go.RowKit

/-- What a copy of a value leaves. -/
def CopyPost (d : Nat) (t : VT) (W : World) (e : Ending) (W' : World) : Prop :=
  ∃ v, e = .returned (.agg #[.int .i64 t.kind, .int .i64 t.num, .string t.text, v]) ∧ LiesB W.heap.size d W' t.items v ∧ Below W.heap.size W W'

set_option maxHeartbeats 1000000 in
theorem copyAll_core (d : Nat) (l : List VT) (u : Value) (w : World) (hu : Lies (d + 1) w l u) (hlen : l.length ≤ 65536)
    (hf : Hid (∀ (x : VT) (v : Value) (W : World), x ∈ l → Lies d W x.items v → x.text.size ≤ 9223372036854775807 →
      Calls Try.prog 60 #[.agg #[.int .i64 x.kind, .int .i64 x.num, .string x.text, v]] W (CopyPost d x W))) :
    Calls Try.prog 54 #[u] w fun e w' => ∃ v, e = .returned v ∧ LiesB w.heap.size (d + 1) w' l v ∧ Below w.heap.size w w' := by
  obtain ⟨a, c, rfl, hb1, hr1⟩ := hu
  have Hr : Hid _ := hr1
  clear hr1
  by_cases h0 : l.length = 0
  · have hl : l = [] := List.eq_nil_of_length_eq_zero h0
    subst hl
    go_enter Try.func54, Try.ntmps54
    go_wp2_with fail
    go_ret
    exact ⟨_, rfl, ⟨none, 0, rfl, by simp, fun h => absurd rfl h⟩, Below.refl _ _⟩
  · obtain ⟨b1, o1, rfl, hall⟩ := Hr.out (by intro e; simp [e] at h0)
    have Hall : Hid _ := hall
    clear hall Hr
    have hne : ((l.length : Int) == 0) = false := by rw [beq_eq_false_iff_ne]; omega
    have hln : 0 < l.length := by omega
    clear h0
    obtain ⟨i0, hi, hz0, hz1, hz2⟩ := info24
    obtain ⟨M, hM⟩ : ∃ M, M = madeCells (Value.agg #[.int .i64 0, .int .i64 0, .string ⟨#[]⟩, .slice none 0 0]).cells (((l.length : Nat) : Int).toNat * i0.size) := ⟨_, rfl⟩
    have hMs : M.size = l.length * 4 := by rw [hM, size_madeCells, hz1]; simp
    have hmk : ∀ W : World, (Instr.makeSlice 22 (.int .i64 (l.length : Int)) (.int .i64 (l.length : Int))).run Try.prog W = .ok (.slice (some ⟨W.heap.size, 0, none⟩) l.length l.length) (W.alloc (.cells M 24)) := fun W => by
      have h := run_make (P := Try.prog) W 22 24 i0 _ Try.underlying22 hi hz0 .i64 .i64 (l.length : Int) (l.length : Int) (by omega) (by omega) (by rw [hz2]; omega) (by omega)
      rw [← hM] at h
      simpa using h
    have HMs : Hid (M.size = l.length * 4) := hMs
    clear hM hi hz0 hz1 hz2 hMs
    go_enter Try.func54, Try.ntmps54
    go_wp2_with fail
    go_loopg [14] l.length (fun q i wr => ∃ (j : Nat) (ps : List (VT × Value)), i = .int .i64 (j : Int) ∧ j ≤ l.length ∧ q = l.length - j ∧ Hid (ps.length = j ∧ ps.map (·.1) = l.take j) ∧ Copied w.heap.size l.length d wr ps ∧ Below w.heap.size w wr)
    case atStart =>
      refine ⟨0, [], rfl, by omega, by omega, ⟨rfl, rfl⟩, ⟨(fun i hi => by cases hi), (fun p hp => by cases hp), (fun k hk => ?_), (by simp)⟩, (Below.refl _ _).alloc (Nat.le_refl _) _⟩
      have hk' : k < M.size := by rw [HMs.out]; exact hk
      simp [hk']
    case round =>
      obtain ⟨j, ps, rfl, hj, hk, Hps, hcp, hbw⟩ := hrel
      have Hk : Hid _ := hk
      have HC : Hid (Copied w.heap.size l.length d wr ps) := hcp
      clear hk hcp hmk
      by_cases hlt : j < l.length
      · obtain ⟨x, p0, p1, p2, p3, p4, p5⟩ := Hall.out j hlt
        obtain ⟨ax, cx, rfl, _⟩ := Lies.slice p4
        have p0 := cell_keeps hbw p0; have p1 := cell_keeps hbw p1; have p2 := cell_keeps hbw p2; have p3 := cell_keeps hbw p3
        have p4 : Hid (Lies d w l[j].items (.slice ax l[j].items.length cx)) := p4
        have hl1 : b1 < wr.heap.size := cell_lt p0
        have hws2 : w.heap.size ≤ wr.heap.size := hbw.size
        have hG := HC.out.lt
        go_wp2_with fail
        have hfc := hf.out l[j] (.slice ax l[j].items.length cx)
        refine (hfc _ (List.getElem_mem hlt) (Lies.keeps (hbw.alloc hws2 _) _ _ _ p4.out) p5).mono ?_
        rintro e w1 ⟨v, rfl, hLB, hg⟩
        have hb2 : Below w.heap.size w w1 := (hbw.alloc hws2 _).trans (hg.mono (by simp; omega))
        have HC1 : Hid (Copied w.heap.size l.length d w1 ps) := (HC.out.keeps ((Below.refl _ _).alloc (Nat.le_refl _) _)).keeps hg
        obtain ⟨av, cv, rfl, _⟩ := LiesB.slice hLB
        have HLB : Hid (LiesB (w.heap.size + 1) d w1 l[j].items (.slice av l[j].items.length cv)) := LiesB.lower (by simp; omega) _ _ _ hLB
        clear hg hfc p0 p1 p2 p3 p4 hf hLB HC
        have hpl := Hps.out.1
        obtain ⟨v0, s0⟩ := Option.isSome_iff_exists.1 (HC1.out.there (j * 4) (by omega)).1
        obtain ⟨v1, s1⟩ := Option.isSome_iff_exists.1 (HC1.out.there (j * 4 + 1) (by omega)).1
        obtain ⟨v2, s2⟩ := Option.isSome_iff_exists.1 (HC1.out.there (j * 4 + 2) (by omega)).1
        obtain ⟨v3, s3⟩ := Option.isSome_iff_exists.1 (HC1.out.there (j * 4 + 3) (by omega)).1
        have z0 := (HC1.out.there (j * 4) (by omega)).2
        have z1 := (HC1.out.there (j * 4 + 1) (by omega)).2
        have z2 := (HC1.out.there (j * 4 + 2) (by omega)).2
        have z3 := (HC1.out.there (j * 4 + 3) (by omega)).2
        have hput := HC1.out.put (l[j], .slice av l[j].items.length cv) ⟨HLB.out, p5⟩ (by omega)
        rw [hpl] at hput
        have Hput : Hid _ := hput
        clear hput hpl
        go_wp2_with fail
        go_roundg (l.length - (j + 1))
        case measure => have := Hk.out; omega
        case rel =>
          refine ⟨j + 1, ps ++ [(l[j], Value.slice av l[j].items.length cv)], by go_num, by omega, rfl, ?_, Hput.out, ?_⟩
          · refine ⟨by simp [Hps.out.1], ?_⟩
            rw [List.map_append, Hps.out.2, List.take_succ_eq_append_getElem hlt]; rfl
          · exact (((hb2.setCell (p := ⟨w.heap.size, j * 4, none⟩) (Nat.le_refl _) _).setCell (p := ⟨w.heap.size, j * 4 + 1, none⟩) (Nat.le_refl _) _).setCell (p := ⟨w.heap.size, j * 4 + 2, none⟩) (Nat.le_refl _) _).setCell (p := ⟨w.heap.size, j * 4 + 3, none⟩) (Nat.le_refl _) _
      · have hjl : j = l.length := by omega
        have hd := HC.out.done (by have := Hps.out.1; omega) l.length (by have := Hps.out.1; omega)
        rw [Hps.out.2, Hps.out.1, hjl, List.take_length] at hd
        have Hd : Hid (LiesB w.heap.size (d + 1) wr l (.slice (some ⟨w.heap.size, 0, none⟩) l.length l.length)) := hd
        clear hd hjl HC hf Hall
        go_wp2_with fail
        go_ret
        exact ⟨_, rfl, Hd.out, hbw⟩

end Go.Proofs.Ytfedbbicolbngaa
