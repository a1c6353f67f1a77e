/-
  The walks of hashes and entries.
-/
import Derived.Test.YtlmnkjnplaebgaaFull
import Derived.Deep.RegionHeld3
import Derived.Deep.RegionWith
namespace Go.Proofs.Ytlmnkjnplaebgaa
open Go.RowKit

set_option maxHeartbeats 1000000 in
theorem hashes_core (d : Nat) (f : VT → Int) (l : List VT) (u : Value) (w : World) (hu : Lies (d + 1) w l u) (hlen : l.length ≤ 1024)
    (hf : Hid (∀ (x : VT) (v : Value) (W : World), x ∈ l → Lies d W x.items v →
      Calls Try.prog 56 #[.agg #[.int .i64 x.kind, .int .i64 x.num, .string x.text, v]] W fun e W' => e = .returned (.int .u32 (f x)) ∧ Below W.heap.size W W')) :
    Calls Try.prog 68 #[u] w fun e w' => ∃ v, e = .returned v ∧ IntsAt .u32 w' (l.map f) v ∧ Below w.heap.size w w' := by
  obtain ⟨a, c, rfl, hb1, hr1⟩ := hu
  have Hr : Hid _ := hr1
  clear hr1
  obtain ⟨M, hMs, hmk⟩ := make_words l.length (by omega)
  have HMs : Hid (M.size = l.length) := hMs
  clear hMs
  go_enter Try.func68, Try.ntmps68
  go_wp2_with fail
  go_loopg [11] l.length (fun q i wr => ∃ (j : Nat), i = .int .i64 (j : Int) ∧ j ≤ l.length ∧ q = l.length - j ∧ Filled w.heap.size l.length wr ((l.take j).map f) ∧ Below w.heap.size w wr)
  case atStart => exact ⟨0, rfl, by omega, by omega, filled_start w M _ _ HMs.out, (Below.refl _ _).alloc (Nat.le_refl _) _⟩
  case round =>
    obtain ⟨j, rfl, hj, hk, hfl, hbw⟩ := hrel
    have Hk : Hid _ := hk
    have HF : Hid (Filled w.heap.size l.length wr ((l.take j).map f)) := hfl
    clear hk hfl hmk
    by_cases hlt : j < l.length
    · obtain ⟨b1, o1, rfl, hall⟩ := Hr.out (by intro e; simp [e] at hlt)
      obtain ⟨x, p0, p1, p2, p3, p4, p5⟩ := hall j hlt
      obtain ⟨ax, cx, rfl, _⟩ := Lies.slice p4
      have p0 := cell_keeps hbw p0; have p1 := cell_keeps hbw p1; have p2 := cell_keeps hbw p2; have p3 := cell_keeps hbw p3
      have p4 : Hid (Lies d w l[j].items (.slice ax l[j].items.length cx)) := p4
      have hl1 : b1 < wr.heap.size := cell_lt p0
      have hws2 : w.heap.size ≤ wr.heap.size := hbw.size
      have hlj : ((l.take j).map f).length = j := by simp; omega
      clear hall
      go_wp2_with fail
      have hfc := hf.out l[j] (.slice ax l[j].items.length cx)
      refine (hfc _ (List.getElem_mem hlt) (Lies.keeps (hbw.alloc hws2 _) _ _ _ p4.out)).mono ?_
      rintro e w1 ⟨rfl, hg⟩
      have hb2 : Below w.heap.size w w1 := (hbw.alloc hws2 _).trans (hg.mono (by simp; omega))
      have hF1 := (HF.out.keeps ((Below.refl _ _).alloc (Nat.le_refl _) _)).keeps hg
      obtain ⟨v0, s0⟩ := Option.isSome_iff_exists.1 (hF1.there j hlt)
      have z0 := hF1.soft j hlt
      have hput := hF1.put (f l[j]) (by omega)
      rw [hlj] at hput
      have Hput : Hid _ := hput
      clear hg hfc p0 p1 p2 p3 p4 hf HF hF1 hput hlj
      go_wp2_with fail
      go_roundg (l.length - (j + 1))
      case measure => have := Hk.out; omega
      case rel =>
        refine ⟨j + 1, by go_num, by omega, rfl, ?_, hb2.setCell (p := ⟨w.heap.size, j, none⟩) (Nat.le_refl _) _⟩
        rw [List.take_succ_eq_append_getElem hlt, List.map_append]
        exact Hput.out
    · have hjl : j = l.length := by omega
      have hd := HF.out.done (by simp; omega) (by omega)
      rw [hjl, List.take_length] at hd
      have Hd : Hid (IntsAt .u32 wr (l.map f) (.slice (some ⟨w.heap.size, 0, none⟩) l.length l.length)) := hd
      clear hd hjl HF hf
      go_wp2_with fail
      go_ret
      exact ⟨_, rfl, Hd.out, hbw⟩

end Go.Proofs.Ytlmnkjnplaebgaa
