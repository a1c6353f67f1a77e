/-
  Lists of numbers in memory, and the contracts of Ordered, Unordered and Java, the program's and the document's.
-/
import Derived.Test.YtlmnkjnplaebgaaGreatPlain
import Derived.WalkKit
import Derived.WalkSpells
import Derived.WalkLawsBesides
import Derived.Deep.Draws
import Derived.Test.YtlmnkjnplaebgaaGreatProg
import Derived.Deep.QuietTactic
import Derived.BigQuiet
import Derived.Laws.BitsAllLaws
import Derived.Deep.LoopGhost
namespace Go.Proofs.YtlmnkjnplaebgaaGreat
open Go.RowKit

theorem Grew.drewN {a w : World} (h : Grew a w) (n : Nat) : Grew a (w.drewN n) := ⟨⟨h.below.os, h.below.tape, h.below.output, h.below.size, h.below.block⟩, Nat.le_trans h.drawn (Nat.le_add_right _ _)⟩

/-- From w to w' only draws were made. -/
def Drawn (w w' : World) : Prop := ∃ n, w' = w.drewN n
theorem Drawn.refl (w : World) : Drawn w w := ⟨0, rfl⟩
theorem Drawn.n (w : World) (n : Nat) : Drawn w (w.drewN n) := ⟨n, rfl⟩
theorem Drawn.two (w : World) (n m : Nat) : Drawn w ((w.drewN n).drewN m) := ⟨n + m, World.drewN_drewN _ _ _⟩
theorem Drawn.trans {a b c : World} (h : Drawn a b) (k : Drawn b c) : Drawn a c := by
  obtain ⟨n, rfl⟩ := h
  obtain ⟨m, rfl⟩ := k
  exact Drawn.two a n m
theorem Drawn.grew {a b : World} (h : Drawn a b) : Grew a b := by
  obtain ⟨n, rfl⟩ := h
  exact (Grew.refl a).drewN n

end Go.Proofs.YtlmnkjnplaebgaaGreat

namespace Go.Proofs.YtlmnkjnplaebgaaGreat
open Go.RowKit

def t15 (x : Int) : Int := bits .or .u32 (x * 32768 % 4294967296) (x / 131072)
def t13 (x : Int) : Int := bits .or .u32 (x * 8192 % 4294967296) (x / 524288)
def xs16 (x : Int) : Int := bits .xor .u32 x (x / 65536)
def xs13 (x : Int) : Int := bits .xor .u32 x (x / 8192)
def mixK (k : Int) : Int := t15 (k * 3432918353 % 4294967296) * 461845907 % 4294967296
def mixH (h k : Int) : Int := (t13 (bits .xor .u32 h k) * 5 % 4294967296 + 3864292196) % 4294967296
def finZ (h n : Int) : Int := xs16 (xs13 (xs16 (bits .xor .u32 h n) * 2246822507 % 4294967296) * 3266489909 % 4294967296)
def intZ (x : Int) : Int := if x = 0 then 0 else finZ (mixH 0 (mixK (IntKind.u32.wrap x))) 4
def longZ (x : Int) : Int := if x = 0 then 0 else finZ (mixH (mixH 0 (mixK (IntKind.u32.wrap x))) (mixK (IntKind.u32.wrap (x / 4294967296)))) 8
def collZ (h n : Int) : Int := finZ (mixH 0 (mixK h)) (IntKind.u32.wrap n)

theorem turn15 (x : Int) (w : World) : Calls Tryz.prog 123 #[.int .u32 x, .int .i64 15] w fun e w' => e = .returned (.int .u32 (t15 x)) ∧ Drawn w w' := by
  go_enter Tryz.func123, Tryz.ntmps123
  go_wp2_with fail
  go_quiet (fail)
  go_wp2_with fail
  go_ret
  exact ⟨rfl, Drawn.n _ _⟩

theorem turn13 (x : Int) (w : World) : Calls Tryz.prog 123 #[.int .u32 x, .int .i64 13] w fun e w' => e = .returned (.int .u32 (t13 x)) ∧ Drawn w w' := by
  go_enter Tryz.func123, Tryz.ntmps123
  go_wp2_with fail
  go_quiet (fail)
  go_wp2_with fail
  go_ret
  exact ⟨rfl, Drawn.n _ _⟩

theorem rturn15 (x : Int) (w : World) : Calls Tryz.prog 122 #[.int .u32 x, .int .u64 15] w fun e w' => e = .returned (.int .u32 (t15 x)) ∧ Drawn w w' := by
  go_enter Tryz.func122, Tryz.ntmps122
  go_wp2_with fail
  go_ret
  exact ⟨rfl, Drawn.refl _⟩

theorem rturn13 (x : Int) (w : World) : Calls Tryz.prog 122 #[.int .u32 x, .int .u64 13] w fun e w' => e = .returned (.int .u32 (t13 x)) ∧ Drawn w w' := by
  go_enter Tryz.func122, Tryz.ntmps122
  go_wp2_with fail
  go_ret
  exact ⟨rfl, Drawn.refl _⟩

theorem fin_any (h n : Int) (w : World) : Calls Tryz.prog 116 #[.int .u32 h, .int .u32 n] w fun e w' => e = .returned (.int .u32 (finZ h n)) ∧ Drawn w w' := by
  go_enter Tryz.func116, Tryz.ntmps116
  go_wp2_with fail
  go_ret
  exact ⟨rfl, Drawn.refl _⟩

theorem rfin_any (h n : Int) (w : World) : Calls Tryz.prog 111 #[.int .u32 h, .int .u32 n] w fun e w' => e = .returned (.int .u32 (finZ h n)) ∧ Drawn w w' := by
  go_enter Tryz.func111, Tryz.ntmps111
  go_wp2_with fail
  go_ret
  exact ⟨rfl, Drawn.refl _⟩

theorem mixK_any (k : Int) (w : World) : Calls Tryz.prog 118 #[.int .u32 k] w fun e w' => e = .returned (.int .u32 (mixK k)) ∧ Drawn w w' := by
  go_enter Tryz.func118, Tryz.ntmps118
  go_wp2_with fail
  refine (turn15 _ _).mono ?_
  rintro e w1 ⟨rfl, h1⟩
  go_wp2_with fail
  go_ret
  exact ⟨rfl, h1⟩

theorem mixH_any (h k : Int) (w : World) : Calls Tryz.prog 117 #[.int .u32 h, .int .u32 k] w fun e w' => e = .returned (.int .u32 (mixH h k)) ∧ Drawn w w' := by
  go_enter Tryz.func117, Tryz.ntmps117
  go_wp2_with fail
  refine (turn13 _ _).mono ?_
  rintro e w1 ⟨rfl, h1⟩
  go_wp2_with fail
  go_ret
  exact ⟨rfl, h1⟩

theorem coll_any (h n : Int) (w : World) : Calls Tryz.prog 119 #[.int .u32 h, .int .i64 n] w fun e w' => e = .returned (.int .u32 (collZ h n)) ∧ Drawn w w' := by
  go_enter Tryz.func119, Tryz.ntmps119
  go_wp2_with fail
  refine (mixK_any _ _).mono ?_
  rintro e w1 ⟨rfl, h1⟩
  go_wp2_with fail
  refine (mixH_any _ _ _).mono ?_
  rintro e w2 ⟨rfl, h2⟩
  go_wp2_with fail
  refine (fin_any _ _ _).mono ?_
  rintro e w3 ⟨rfl, h3⟩
  go_wp2_with fail
  go_ret
  exact ⟨rfl, ((h1.trans h2).trans h3)⟩

theorem mint_any (x : Int) (w : World) : Calls Tryz.prog 103 #[.int .i32 x] w fun e w' => e = .returned (.int .u32 (intZ x)) ∧ Drawn w w' := by
  go_enter Tryz.func103, Tryz.ntmps103
  by_cases hx : x = 0
  · subst hx
    go_wp2_with fail
    go_ret
    exact ⟨rfl, Drawn.refl _⟩
  · have hi : intZ x = finZ (mixH 0 (mixK (IntKind.u32.wrap x))) 4 := if_neg hx
    have Hi : Hid (intZ x = finZ (mixH 0 (mixK (IntKind.u32.wrap x))) 4) := hi
    clear hi
    go_wp2_with fail
    refine (mixK_any _ _).mono ?_
    rintro e w1 ⟨rfl, h1⟩
    go_wp2_with fail
    refine (mixH_any _ _ _).mono ?_
    rintro e w2 ⟨rfl, h2⟩
    go_wp2_with fail
    refine (fin_any _ _ _).mono ?_
    rintro e w3 ⟨rfl, h3⟩
    go_wp2_with fail
    go_ret
    rw [Hi.out]
    exact ⟨rfl, (h1.trans h2).trans h3⟩

theorem rmixK_any (k : Int) (w : World) : Calls Tryz.prog 113 #[.int .u32 k] w fun e w' => e = .returned (.int .u32 (mixK k)) ∧ Drawn w w' := by
  go_enter Tryz.func113, Tryz.ntmps113
  go_wp2_with fail
  refine (rturn15 _ _).mono ?_
  rintro e w1 ⟨rfl, h1⟩
  go_wp2_with fail
  go_ret
  exact ⟨rfl, h1⟩

theorem rmixH_any (h k : Int) (w : World) : Calls Tryz.prog 112 #[.int .u32 h, .int .u32 k] w fun e w' => e = .returned (.int .u32 (mixH h k)) ∧ Drawn w w' := by
  go_enter Tryz.func112, Tryz.ntmps112
  go_wp2_with fail
  refine (rturn13 _ _).mono ?_
  rintro e w1 ⟨rfl, h1⟩
  go_wp2_with fail
  go_ret
  exact ⟨rfl, h1⟩

theorem rcoll_any (h n : Int) (w : World) : Calls Tryz.prog 115 #[.int .u32 h, .int .i64 n] w fun e w' => e = .returned (.int .u32 (collZ h n)) ∧ Drawn w w' := by
  go_enter Tryz.func115, Tryz.ntmps115
  go_wp2_with fail
  refine (rmixK_any _ _).mono ?_
  rintro e w1 ⟨rfl, h1⟩
  go_wp2_with fail
  refine (rmixH_any _ _ _).mono ?_
  rintro e w2 ⟨rfl, h2⟩
  go_wp2_with fail
  refine (rfin_any _ _ _).mono ?_
  rintro e w3 ⟨rfl, h3⟩
  go_wp2_with fail
  go_ret
  exact ⟨rfl, ((h1.trans h2).trans h3)⟩

theorem rint_any (x : Int) (w : World) : Calls Tryz.prog 90 #[.int .i32 x] w fun e w' => e = .returned (.int .u32 (intZ x)) ∧ Drawn w w' := by
  go_enter Tryz.func90, Tryz.ntmps90
  by_cases hx : x = 0
  · subst hx
    go_wp2_with fail
    go_ret
    exact ⟨rfl, Drawn.refl _⟩
  · have hi : intZ x = finZ (mixH 0 (mixK (IntKind.u32.wrap x))) 4 := if_neg hx
    have Hi : Hid (intZ x = finZ (mixH 0 (mixK (IntKind.u32.wrap x))) 4) := hi
    clear hi
    go_wp2_with fail
    refine (rmixK_any _ _).mono ?_
    rintro e w1 ⟨rfl, h1⟩
    go_wp2_with fail
    refine (rmixH_any _ _ _).mono ?_
    rintro e w2 ⟨rfl, h2⟩
    go_wp2_with fail
    refine (rfin_any _ _ _).mono ?_
    rintro e w3 ⟨rfl, h3⟩
    go_wp2_with fail
    go_ret
    rw [Hi.out]
    exact ⟨rfl, (h1.trans h2).trans h3⟩

end Go.Proofs.YtlmnkjnplaebgaaGreat

namespace Go.Proofs.YtlmnkjnplaebgaaGreat
open Go.RowKit

theorem upper_eq (x : Int) : (IntKind.u64.wrap x / 4294967296) % 4294967296 = x / 4294967296 % 4294967296 := by
  have h : IntKind.u64.wrap x = x % 18446744073709551616 := by simp [IntKind.wrap, IntKind.bits, IntKind.signed]
  rw [h]; omega

set_option maxHeartbeats 400000 in
theorem long_any (x : Int) (w : World) : Calls Tryz.prog 102 #[.int .i64 x] w fun e w' => e = .returned (.int .u32 (longZ x)) ∧ Drawn w w' := by
  go_enter Tryz.func102, Tryz.ntmps102
  by_cases hx : x = 0
  · subst hx
    go_wp2_with fail
    go_ret
    exact ⟨rfl, Drawn.refl _⟩
  · have hi : longZ x = finZ (mixH (mixH 0 (mixK (x % 4294967296))) (mixK (x / 4294967296 % 4294967296))) 8 := by
      unfold longZ
      rw [if_neg hx, IntKind.wrap_u32', IntKind.wrap_u32']
    have Hi : Hid (longZ x = finZ (mixH (mixH 0 (mixK (x % 4294967296))) (mixK (x / 4294967296 % 4294967296))) 8) := hi
    clear hi
    go_wp2_with fail
    refine (mixK_any _ _).mono ?_
    rintro e w1 ⟨rfl, h1⟩
    go_wp2_with fail
    refine (mixH_any _ _ _).mono ?_
    rintro e w2 ⟨rfl, h2⟩
    go_wp2_with fail
    refine (mixK_any _ _).mono ?_
    rintro e w3 ⟨rfl, h3⟩
    go_wp2_with fail
    refine (mixH_any _ _ _).mono ?_
    rintro e w4 ⟨rfl, h4⟩
    go_wp2_with fail
    refine (fin_any _ _ _).mono ?_
    rintro e w5 ⟨rfl, h5⟩
    go_wp2_with fail
    go_ret
    refine ⟨?_, ((((h1.trans h2).trans h3).trans h4).trans h5)⟩
    rw [Hi.out]
    rw [show x / 4294967296 % 4294967296 = IntKind.u64.wrap x / 4294967296 % 4294967296 from (upper_eq x).symm]
    rfl

set_option maxHeartbeats 400000 in
theorem rlong_any (x : Int) (w : World) : Calls Tryz.prog 89 #[.int .i64 x] w fun e w' => e = .returned (.int .u32 (longZ x)) ∧ Drawn w w' := by
  go_enter Tryz.func89, Tryz.ntmps89
  by_cases hx : x = 0
  · subst hx
    go_wp2_with fail
    go_ret
    exact ⟨rfl, Drawn.refl _⟩
  · have hi : longZ x = finZ (mixH (mixH 0 (mixK (x % 4294967296))) (mixK (x / 4294967296 % 4294967296))) 8 := by
      unfold longZ
      rw [if_neg hx, IntKind.wrap_u32', IntKind.wrap_u32']
    have Hi : Hid (longZ x = finZ (mixH (mixH 0 (mixK (x % 4294967296))) (mixK (x / 4294967296 % 4294967296))) 8) := hi
    clear hi
    go_wp2_with fail
    refine (rmixK_any _ _).mono ?_
    rintro e w1 ⟨rfl, h1⟩
    go_wp2_with fail
    refine (rmixH_any _ _ _).mono ?_
    rintro e w2 ⟨rfl, h2⟩
    go_wp2_with fail
    refine (rmixK_any _ _).mono ?_
    rintro e w3 ⟨rfl, h3⟩
    go_wp2_with fail
    refine (rmixH_any _ _ _).mono ?_
    rintro e w4 ⟨rfl, h4⟩
    go_wp2_with fail
    refine (rfin_any _ _ _).mono ?_
    rintro e w5 ⟨rfl, h5⟩
    go_wp2_with fail
    go_ret
    refine ⟨?_, ((((h1.trans h2).trans h3).trans h4).trans h5)⟩
    rw [Hi.out]
    rfl

end Go.Proofs.YtlmnkjnplaebgaaGreat

namespace Go.Proofs.YtlmnkjnplaebgaaGreat
open Go.RowKit

/-- The slice v holds the numbers l, of kind k. -/
def IntsAt (k : IntKind) (w : World) (l : List Int) (v : Value) : Prop :=
  ∃ a c, v = .slice a l.length c ∧ l.length ≤ 9223372036854775807 ∧ l.length ≤ c ∧ (l ≠ [] → ∃ b o, a = some ⟨b, o, none⟩ ∧ ∀ (i : Nat) (h : i < l.length), w.cell? ⟨b, o + i, none⟩ = some (.int k (l[i]'h)))

theorem IntsAt.keeps {k : IntKind} {w w' : World} {l : List Int} {v : Value} (h : IntsAt k w l v) (hb : Below w.heap.size w w') : IntsAt k w' l v := by
  obtain ⟨a, c, hv, hl, hcap, hr⟩ := h
  refine ⟨a, c, hv, hl, hcap, fun hne => ?_⟩
  obtain ⟨b, o, ha, hall⟩ := hr hne
  exact ⟨b, o, ha, fun i hi => cell_keeps hb (hall i hi)⟩

theorem IntsAt.nil (k : IntKind) (w : World) : IntsAt k w [] (.slice none 0 0) := ⟨none, 0, rfl, by simp, by simp, fun h => absurd rfl h⟩

theorem fold_step {f : Int → Int → Int} {a : Int} (l : List Int) (j : Nat) (h : j < l.length) : (l.take (j + 1)).foldl f a = f ((l.take j).foldl f a) l[j] := by
  rw [List.take_succ_eq_append_getElem h, List.foldl_append]
  rfl

def stepO (m x : Int) : Int := (31 * m % 4294967296 + x) % 4294967296
def stepU (m x : Int) : Int := (m + x) % 4294967296
def stepJ (m x : Int) : Int := wrap32 (wrap32 (31 * m) + wrap32 x)
def ordZ (l : List Int) : Int := collZ (l.foldl stepO 1) l.length
def unoZ (l : List Int) : Int := collZ (l.foldl stepU 0) l.length
def javaZ (l : List Int) : Int := l.foldl stepJ 0

set_option maxHeartbeats 1000000 in
theorem ordered_any (l : List Int) (v : Value) (w : World) (hl : IntsAt .u32 w l v) : Calls Tryz.prog 106 #[v] w fun e w' => e = .returned (.int .u32 (ordZ l)) ∧ Drawn w w' := by
  obtain ⟨a, c, rfl, hlen, _, hr⟩ := hl
  have HR : Hid (l ≠ [] → ∃ b o, a = some ⟨b, o, none⟩ ∧ ∀ (i : Nat) (h : i < l.length), w.cell? ⟨b, o + i, none⟩ = some (.int .u32 (l[i]'h))) := hr
  clear hr
  go_enter Tryz.func106, Tryz.ntmps106
  go_wp2_with fail
  go_loopg [3, 8] l.length (fun k m i wr => ∃ j : Nat, i = .int .i64 j ∧ j ≤ l.length ∧ k = l.length - j ∧ m = .int .u32 ((l.take j).foldl stepO 1) ∧ Drawn w wr)
  case atStart => exact ⟨0, rfl, by omega, by omega, rfl, Drawn.refl _⟩
  case round =>
    obtain ⟨j, rfl, hj, hk, rfl, hd⟩ := hrel
    have Hk : Hid _ := hk
    clear hk
    by_cases hlt : j < l.length
    · obtain ⟨b, o, rfl, hcs⟩ := HR.out (fun e => by subst e; cases hlt)
      have hc := hcs j hlt
      have Hs : Hid _ := fold_step (f := stepO) (a := 1) l j hlt
      generalize hm : (l.take j).foldl stepO 1 = m at Hs ⊢
      generalize hx : l[j] = x at Hs hc
      clear hcs hm hx
      obtain ⟨n, rfl⟩ := hd
      go_wp2_with fail
      go_roundg (l.length - (j + 1))
      case measure => have := Hk.out; omega
      case rel => exact ⟨j + 1, by go_num, by omega, rfl, by rw [Hs.out]; rfl, Drawn.n _ _⟩
    · have hje : j = l.length := by omega
      have Hj : Hid _ := hje
      clear hje
      have hfull : Hid ((l.take j).foldl stepO 1 = l.foldl stepO 1) := by
        show _ = _
        rw [Hj.out, List.take_length]
      go_wp2_with fail
      rw [hfull.out]
      refine (coll_any _ _ _).mono ?_
      rintro e w1 ⟨rfl, h1⟩
      go_wp2_with fail
      go_ret
      exact ⟨rfl, hd.trans h1⟩

set_option maxHeartbeats 1000000 in
theorem unordered_any (l : List Int) (v : Value) (w : World) (hl : IntsAt .u32 w l v) : Calls Tryz.prog 108 #[v] w fun e w' => e = .returned (.int .u32 (unoZ l)) ∧ Drawn w w' := by
  obtain ⟨a, c, rfl, hlen, _, hr⟩ := hl
  have HR : Hid (l ≠ [] → ∃ b o, a = some ⟨b, o, none⟩ ∧ ∀ (i : Nat) (h : i < l.length), w.cell? ⟨b, o + i, none⟩ = some (.int .u32 (l[i]'h))) := hr
  clear hr
  go_enter Tryz.func108, Tryz.ntmps108
  go_wp2_with fail
  go_loopg [3, 8] l.length (fun k m i wr => ∃ j : Nat, i = .int .i64 j ∧ j ≤ l.length ∧ k = l.length - j ∧ m = .int .u32 ((l.take j).foldl stepU 0) ∧ Drawn w wr)
  case atStart => exact ⟨0, rfl, by omega, by omega, rfl, Drawn.refl _⟩
  case round =>
    obtain ⟨j, rfl, hj, hk, rfl, hd⟩ := hrel
    have Hk : Hid _ := hk
    clear hk
    by_cases hlt : j < l.length
    · obtain ⟨b, o, rfl, hcs⟩ := HR.out (fun e => by subst e; cases hlt)
      have hc := hcs j hlt
      have Hs : Hid _ := fold_step (f := stepU) (a := 0) l j hlt
      generalize hm : (l.take j).foldl stepU 0 = m at Hs ⊢
      generalize hx : l[j] = x at Hs hc
      clear hcs hm hx
      obtain ⟨n, rfl⟩ := hd
      go_wp2_with fail
      go_roundg (l.length - (j + 1))
      case measure => have := Hk.out; omega
      case rel => exact ⟨j + 1, by go_num, by omega, rfl, by rw [Hs.out]; rfl, Drawn.n _ _⟩
    · have hje : j = l.length := by omega
      have Hj : Hid _ := hje
      clear hje
      have hfull : Hid ((l.take j).foldl stepU 0 = l.foldl stepU 0) := by
        show _ = _
        rw [Hj.out, List.take_length]
      go_wp2_with fail
      rw [hfull.out]
      refine (coll_any _ _ _).mono ?_
      rintro e w1 ⟨rfl, h1⟩
      go_wp2_with fail
      go_ret
      exact ⟨rfl, hd.trans h1⟩

set_option maxHeartbeats 1000000 in
theorem java_any (l : List Int) (v : Value) (w : World) (hl : IntsAt .u16 w l v) : Calls Tryz.prog 104 #[v] w fun e w' => e = .returned (.int .i32 (javaZ l)) ∧ Drawn w w' := by
  obtain ⟨a, c, rfl, hlen, _, hr⟩ := hl
  have HR : Hid (l ≠ [] → ∃ b o, a = some ⟨b, o, none⟩ ∧ ∀ (i : Nat) (h : i < l.length), w.cell? ⟨b, o + i, none⟩ = some (.int .u16 (l[i]'h))) := hr
  clear hr
  go_enter Tryz.func104, Tryz.ntmps104
  go_wp2_with fail
  go_loopg [3, 8] l.length (fun k m i wr => ∃ j : Nat, i = .int .i64 j ∧ j ≤ l.length ∧ k = l.length - j ∧ m = .int .i32 ((l.take j).foldl stepJ 0) ∧ Drawn w wr)
  case atStart => exact ⟨0, rfl, by omega, by omega, rfl, Drawn.refl _⟩
  case round =>
    obtain ⟨j, rfl, hj, hk, rfl, hd⟩ := hrel
    have Hk : Hid _ := hk
    clear hk
    by_cases hlt : j < l.length
    · obtain ⟨b, o, rfl, hcs⟩ := HR.out (fun e => by subst e; cases hlt)
      have hc := hcs j hlt
      have Hs : Hid _ := fold_step (f := stepJ) (a := 0) l j hlt
      generalize hm : (l.take j).foldl stepJ 0 = m at Hs ⊢
      generalize hx : l[j] = x at Hs hc
      clear hcs hm hx
      obtain ⟨n, rfl⟩ := hd
      go_wp2_with fail
      go_roundg (l.length - (j + 1))
      case measure => have := Hk.out; omega
      case rel => exact ⟨j + 1, by go_num, by omega, rfl, by rw [Hs.out]; rfl, Drawn.n _ _⟩
    · have hje : j = l.length := by omega
      have Hj : Hid _ := hje
      clear hje
      have hfull : Hid ((l.take j).foldl stepJ 0 = l.foldl stepJ 0) := by
        show _ = _
        rw [Hj.out, List.take_length]
      go_wp2_with fail
      rw [hfull.out]
      go_ret
      exact ⟨rfl, hd⟩

set_option maxHeartbeats 1000000 in
theorem rordered_any (l : List Int) (v : Value) (w : World) (hl : IntsAt .u32 w l v) : Calls Tryz.prog 93 #[v] w fun e w' => e = .returned (.int .u32 (ordZ l)) ∧ Drawn w w' := by
  obtain ⟨a, c, rfl, hlen, _, hr⟩ := hl
  have HR : Hid (l ≠ [] → ∃ b o, a = some ⟨b, o, none⟩ ∧ ∀ (i : Nat) (h : i < l.length), w.cell? ⟨b, o + i, none⟩ = some (.int .u32 (l[i]'h))) := hr
  clear hr
  go_enter Tryz.func93, Tryz.ntmps93
  go_wp2_with fail
  go_loopg [3, 8] l.length (fun k m i wr => ∃ j : Nat, i = .int .i64 j ∧ j ≤ l.length ∧ k = l.length - j ∧ m = .int .u32 ((l.take j).foldl stepO 1) ∧ Drawn w wr)
  case atStart => exact ⟨0, rfl, by omega, by omega, rfl, Drawn.refl _⟩
  case round =>
    obtain ⟨j, rfl, hj, hk, rfl, hd⟩ := hrel
    have Hk : Hid _ := hk
    clear hk
    by_cases hlt : j < l.length
    · obtain ⟨b, o, rfl, hcs⟩ := HR.out (fun e => by subst e; cases hlt)
      have hc := hcs j hlt
      have Hs : Hid _ := fold_step (f := stepO) (a := 1) l j hlt
      generalize hm : (l.take j).foldl stepO 1 = m at Hs ⊢
      generalize hx : l[j] = x at Hs hc
      clear hcs hm hx
      obtain ⟨n, rfl⟩ := hd
      go_wp2_with fail
      go_roundg (l.length - (j + 1))
      case measure => have := Hk.out; omega
      case rel => exact ⟨j + 1, by go_num, by omega, rfl, by rw [Hs.out]; rfl, Drawn.n _ _⟩
    · have hje : j = l.length := by omega
      have Hj : Hid _ := hje
      clear hje
      have hfull : Hid ((l.take j).foldl stepO 1 = l.foldl stepO 1) := by
        show _ = _
        rw [Hj.out, List.take_length]
      go_wp2_with fail
      rw [hfull.out]
      refine (rcoll_any _ _ _).mono ?_
      rintro e w1 ⟨rfl, h1⟩
      go_wp2_with fail
      go_ret
      exact ⟨rfl, hd.trans h1⟩

set_option maxHeartbeats 1000000 in
theorem runordered_any (l : List Int) (v : Value) (w : World) (hl : IntsAt .u32 w l v) : Calls Tryz.prog 95 #[v] w fun e w' => e = .returned (.int .u32 (unoZ l)) ∧ Drawn w w' := by
  obtain ⟨a, c, rfl, hlen, _, hr⟩ := hl
  have HR : Hid (l ≠ [] → ∃ b o, a = some ⟨b, o, none⟩ ∧ ∀ (i : Nat) (h : i < l.length), w.cell? ⟨b, o + i, none⟩ = some (.int .u32 (l[i]'h))) := hr
  clear hr
  go_enter Tryz.func95, Tryz.ntmps95
  go_wp2_with fail
  go_loopg [3, 8] l.length (fun k m i wr => ∃ j : Nat, i = .int .i64 j ∧ j ≤ l.length ∧ k = l.length - j ∧ m = .int .u32 ((l.take j).foldl stepU 0) ∧ Drawn w wr)
  case atStart => exact ⟨0, rfl, by omega, by omega, rfl, Drawn.refl _⟩
  case round =>
    obtain ⟨j, rfl, hj, hk, rfl, hd⟩ := hrel
    have Hk : Hid _ := hk
    clear hk
    by_cases hlt : j < l.length
    · obtain ⟨b, o, rfl, hcs⟩ := HR.out (fun e => by subst e; cases hlt)
      have hc := hcs j hlt
      have Hs : Hid _ := fold_step (f := stepU) (a := 0) l j hlt
      generalize hm : (l.take j).foldl stepU 0 = m at Hs ⊢
      generalize hx : l[j] = x at Hs hc
      clear hcs hm hx
      obtain ⟨n, rfl⟩ := hd
      go_wp2_with fail
      go_roundg (l.length - (j + 1))
      case measure => have := Hk.out; omega
      case rel => exact ⟨j + 1, by go_num, by omega, rfl, by rw [Hs.out]; rfl, Drawn.n _ _⟩
    · have hje : j = l.length := by omega
      have Hj : Hid _ := hje
      clear hje
      have hfull : Hid ((l.take j).foldl stepU 0 = l.foldl stepU 0) := by
        show _ = _
        rw [Hj.out, List.take_length]
      go_wp2_with fail
      rw [hfull.out]
      refine (rcoll_any _ _ _).mono ?_
      rintro e w1 ⟨rfl, h1⟩
      go_wp2_with fail
      go_ret
      exact ⟨rfl, hd.trans h1⟩

set_option maxHeartbeats 1000000 in
theorem rjava_any (l : List Int) (v : Value) (w : World) (hl : IntsAt .u16 w l v) : Calls Tryz.prog 91 #[v] w fun e w' => e = .returned (.int .i32 (javaZ l)) ∧ Drawn w w' := by
  obtain ⟨a, c, rfl, hlen, _, hr⟩ := hl
  have HR : Hid (l ≠ [] → ∃ b o, a = some ⟨b, o, none⟩ ∧ ∀ (i : Nat) (h : i < l.length), w.cell? ⟨b, o + i, none⟩ = some (.int .u16 (l[i]'h))) := hr
  clear hr
  go_enter Tryz.func91, Tryz.ntmps91
  go_wp2_with fail
  go_loopg [3, 8] l.length (fun k m i wr => ∃ j : Nat, i = .int .i64 j ∧ j ≤ l.length ∧ k = l.length - j ∧ m = .int .i32 ((l.take j).foldl stepJ 0) ∧ Drawn w wr)
  case atStart => exact ⟨0, rfl, by omega, by omega, rfl, Drawn.refl _⟩
  case round =>
    obtain ⟨j, rfl, hj, hk, rfl, hd⟩ := hrel
    have Hk : Hid _ := hk
    clear hk
    by_cases hlt : j < l.length
    · obtain ⟨b, o, rfl, hcs⟩ := HR.out (fun e => by subst e; cases hlt)
      have hc := hcs j hlt
      have Hs : Hid _ := fold_step (f := stepJ) (a := 0) l j hlt
      generalize hm : (l.take j).foldl stepJ 0 = m at Hs ⊢
      generalize hx : l[j] = x at Hs hc
      clear hcs hm hx
      obtain ⟨n, rfl⟩ := hd
      go_wp2_with fail
      go_roundg (l.length - (j + 1))
      case measure => have := Hk.out; omega
      case rel => exact ⟨j + 1, by go_num, by omega, rfl, by rw [Hs.out]; rfl, Drawn.n _ _⟩
    · have hje : j = l.length := by omega
      have Hj : Hid _ := hje
      clear hje
      have hfull : Hid ((l.take j).foldl stepJ 0 = l.foldl stepJ 0) := by
        show _ = _
        rw [Hj.out, List.take_length]
      go_wp2_with fail
      rw [hfull.out]
      go_ret
      exact ⟨rfl, hd⟩

end Go.Proofs.YtlmnkjnplaebgaaGreat

