/-
  What RrbSteps wants besides.
-/
import Derived.Test.YtpnfmcmhcjekfaaPairR
import Derived.Test.YtpnfmcmhcjekfaaRSet
import Derived.Test.YtpnfmcmhcjekfaaSame11
namespace Go.Proofs.Ytpnfmcmhcjekfaa
open Go.RowKit

theorem of_vv11 (n : Nat) (l : List VT) (u : Value) (w : World) (hl : Lies (n + 1) w l u) : Calls Try.prog 9 #[u] w fun e w' => Below w.heap.size w w' ∧ ((∃ b, e = .returned (.tuple #[.pointer (some ⟨b, 0, none⟩), .int .i64 0]) ∧ VV w' l (.pointer (some ⟨b, 0, none⟩)) ∧ Lies 17 w' l u) ∨ (∃ k : Nat, e = .returned (.tuple #[.pointer none, .int .i64 (k : Int)]) ∧ (k = 2 ∨ k = 3))) := by
  refine Calls.mono (of_n n l _ w hl) ?_
  rintro e w' ⟨hb, hp⟩
  refine ⟨hb, ?_⟩
  unfold ofN at hp
  by_cases h1 : 65536 < l.length
  · rw [if_pos h1] at hp
    exact .inr ⟨2, hp, .inl rfl⟩
  · rw [if_neg h1] at hp
    by_cases h2 : l.all (rightV n) = true
    · rw [if_pos h2] at hp
      obtain ⟨b, rfl, hv⟩ := hp
      exact .inl ⟨b, rfl, ⟨hv, by omega, (canonL hl h2).2⟩, Lies.keeps hb _ _ _ (canonL hl h2).1⟩
    · rw [if_neg h2] at hp
      exact .inr ⟨3, hp, .inr rfl⟩

/-- A step in a block of its own. -/
structure Sx (W : World) (n : Nat) (k t : Int) (x : VT) (u : Value) : Prop where
  c0 : W.cell? ⟨n, 0, none⟩ = some (.int .i64 k)
  c1 : W.cell? ⟨n, 1, none⟩ = some (.int .i64 t)
  c2 : W.cell? ⟨n, 2, none⟩ = some (.int .i64 x.kind)
  c3 : W.cell? ⟨n, 3, none⟩ = some (.int .i64 x.num)
  c4 : W.cell? ⟨n, 4, none⟩ = some (.string x.text)
  c5 : W.cell? ⟨n, 5, none⟩ = some u

theorem Sx.keeps {W W' : World} {n : Nat} {k t : Int} {x : VT} {u : Value} (h : Sx W n k t x u) (hb : Below W.heap.size W W') : Sx W' n k t x u :=
  ⟨cell_keeps hb h.c0, cell_keeps hb h.c1, cell_keeps hb h.c2, cell_keeps hb h.c3, cell_keeps hb h.c4, cell_keeps hb h.c5⟩

theorem sx_alloc (W : World) (k t : Int) (x : VT) (u : Value) (T : Nat) : Sx (W.alloc (.cells #[.int .i64 k, .int .i64 t, .int .i64 x.kind, .int .i64 x.num, .string x.text, u] T)) W.heap.size k t x u := by
  refine ⟨?_, ?_, ?_, ?_, ?_, ?_⟩ <;> simp

theorem size_setCellsS (b : Nat) : ∀ (vs : List Value) (o : Nat) (w : World), (w.setCells b o vs).heap.size = w.heap.size := by
  intro vs
  induction vs with
  | nil => intro o w; rfl
  | cons v vs ih => intro o w; rw [World.setCells, ih]; simp [World.setCell]

theorem zero_liesB (B : Nat) (w : World) : LiesB B 16 w zeroT.items (.slice none 0 0) := ⟨none, 0, rfl, by simp, fun h => absurd rfl h⟩

/-- Pop on both sides, with two blocks that are written meanwhile. -/
theorem pop_pair (M : List VT) (b : Nat) (ax : Option Addr) (N cx : Nat) (wr W1 : World) (P : Nat) (hV : VV wr M (.pointer (some ⟨b, 0, none⟩))) (hL : Lies 17 wr M (.slice ax N cx)) (hN : N = M.length) (hr1 : Below wr.heap.size wr W1) (hPr : wr.heap.size ≤ P) (hs1 : W1.heap.size = P + 1 + 1) :
    Calls Try.prog 22 #[.pointer (some ⟨b, 0, none⟩)] W1 fun e w2 => Below W1.heap.size W1 w2 ∧ ∃ (y : VT) (va : Option Addr) (vc : Nat) (pp : Option Addr) (kk : Nat), e = .returned (.tuple #[.pointer pp, .agg #[.int .i64 y.kind, .int .i64 y.num, .string y.text, .slice va y.items.length vc], .int .i64 (kk : Int)]) ∧
      LiesB W1.heap.size 16 w2 y.items (.slice va y.items.length vc) ∧
      ∀ w3, Below wr.heap.size wr w3 → Calls Try.prog 23 #[.slice ax N cx] w3 fun e w4 => Below w3.heap.size w3 w4 ∧ ∃ (a1 : Option Addr) (n1 c1 : Nat) (ua : Option Addr) (uc : Nat), e = .returned (.tuple #[.slice a1 n1 c1, .agg #[.int .i64 y.kind, .int .i64 y.num, .string y.text, .slice ua y.items.length uc], .int .i64 (kk : Int)]) ∧
        Lies 16 wr y.items (.slice ua y.items.length uc) ∧
        ∀ W, (∀ a v, a.block ≠ P ∧ a.block ≠ P + 1 → w2.cell? a = some v → W.cell? a = some v) → Below wr.heap.size wr W → Pair11 W (.pointer pp) kk (.slice a1 n1 c1) := by
  subst hN
  refine Calls.mono (vpopX_any (fun q => q ≠ P ∧ q ≠ P + 1) M _ W1 (fun q hq => ⟨by omega, by omega⟩) ((VC.toX hV.vc (fun q hq => ⟨by omega, by omega⟩)).keeps hr1) hV.len hV.right) ?_
  rintro e w2 ⟨hb2, hp2⟩
  refine ⟨hb2, ?_⟩
  rcases hp2 with ⟨hM0, rfl⟩ | ⟨m', x', b5, v', hMx, rfl, hvx, hLB⟩
  · refine ⟨zeroT, none, 0, none, 6, rfl, zero_liesB _ _, fun w3 h3 => Calls.mono (rpop_any M ax cx wr w3 hL h3 hV.len) ?_⟩
    rintro e w4 ⟨hb4, hp4⟩
    refine ⟨hb4, ?_⟩
    rcases hp4 with ⟨_, rfl⟩ | ⟨m, x, _, _, _, hMx, _⟩
    · exact ⟨none, 0, 0, none, 0, rfl, LiesB.lies _ _ _ (zero_liesB 0 _), fun W _ _ => .inr ⟨by omega, rfl, rfl⟩⟩
    · rw [hM0] at hMx
      exact absurd (congrArg List.length hMx) (by simp)
  · obtain ⟨va, vc, rfl, _⟩ := LiesB.slice hLB
    refine ⟨x', va, vc, _, 0, rfl, hLB, fun w3 h3 => Calls.mono (rpop_any M ax cx wr w3 hL h3 hV.len) ?_⟩
    rintro e w4 ⟨hb4, hp4⟩
    refine ⟨hb4, ?_⟩
    rcases hp4 with ⟨hM0, _⟩ | ⟨m, x, a1, n1, u, hMx2, hn1, rfl, hlm, hlx⟩
    · rw [hM0] at hMx
      exact absurd (congrArg List.length hMx) (by simp)
    · rw [hMx] at hMx2
      obtain ⟨rfl, hxx⟩ := List.append_inj' hMx2 rfl
      injection hxx with hxx _
      subst hxx
      obtain ⟨ua, uc, rfl, _⟩ := Lies.slice hlx
      refine ⟨a1, n1, n1, ua, uc, rfl, hlx, fun W hW hbW => .inl ⟨rfl, m', b5, a1, n1, n1, hn1, rfl, rfl, ⟨(hvx.stays (fun a v hx hv => hW a v hx hv)).vc, ?_, ?_⟩, Lies.keeps hbW _ _ _ hlm⟩⟩
      · have := hV.len
        rw [hMx, List.length_append] at this
        omega
      · have := hV.right
        rw [hMx, List.all_append, Bool.and_eq_true] at this
        exact this.1

end Go.Proofs.Ytpnfmcmhcjekfaa

