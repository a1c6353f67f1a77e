/-
  Lists of numbers in memory, and the contracts of Ordered, Unordered and Java, the program's and the document's.
-/
import Derived.Test.YteldncblmoilkabLong
import Derived.Deep.LoopGhost
namespace Go.Proofs.Yteldncblmoilkab
open Go.RowKit

/-- The slice v holds the numbers l, of kind k. -/
def IntsAt (k : IntKind) (w : World) (l : List Int) (v : Value) : Prop :=
  ∃ a c, v = .slice a l.length c ∧ l.length ≤ 9223372036854775807 ∧ l.length ≤ c ∧ (l ≠ [] → ∃ b o, a = some ⟨b, o, none⟩ ∧ ∀ (i : Nat) (h : i < l.length), w.cell? ⟨b, o + i, none⟩ = some (.int k (l[i]'h)))

theorem IntsAt.keeps {k : IntKind} {w w' : World} {l : List Int} {v : Value} (h : IntsAt k w l v) (hb : Below w.heap.size w w') : IntsAt k w' l v := by
  obtain ⟨a, c, hv, hl, hcap, hr⟩ := h
  refine ⟨a, c, hv, hl, hcap, fun hne => ?_⟩
  obtain ⟨b, o, ha, hall⟩ := hr hne
  exact ⟨b, o, ha, fun i hi => cell_keeps hb (hall i hi)⟩

theorem IntsAt.nil (k : IntKind) (w : World) : IntsAt k w [] (.slice none 0 0) := ⟨none, 0, rfl, by simp, by simp, fun h => absurd rfl h⟩

theorem fold_step {f : Int → Int → Int} {a : Int} (l : List Int) (j : Nat) (h : j < l.length) : (l.take (j + 1)).foldl f a = f ((l.take j).foldl f a) l[j] := by
  rw [List.take_succ_eq_append_getElem h, List.foldl_append]
  rfl

def stepO (m x : Int) : Int := (31 * m % 4294967296 + x) % 4294967296
def stepU (m x : Int) : Int := (m + x) % 4294967296
def stepJ (m x : Int) : Int := wrap32 (wrap32 (31 * m) + wrap32 x)
def ordZ (l : List Int) : Int := collZ (l.foldl stepO 1) l.length
def unoZ (l : List Int) : Int := collZ (l.foldl stepU 0) l.length
def javaZ (l : List Int) : Int := l.foldl stepJ 0

set_option maxHeartbeats 1000000 in
theorem ordered_any (l : List Int) (v : Value) (w : World) (hl : IntsAt .u32 w l v) : Calls Try.prog 36 #[v] w fun e w' => e = .returned (.int .u32 (ordZ l)) ∧ Drawn w w' := by
  obtain ⟨a, c, rfl, hlen, _, hr⟩ := hl
  have HR : Hid (l ≠ [] → ∃ b o, a = some ⟨b, o, none⟩ ∧ ∀ (i : Nat) (h : i < l.length), w.cell? ⟨b, o + i, none⟩ = some (.int .u32 (l[i]'h))) := hr
  clear hr
  go_enter Try.func36, Try.ntmps36
  go_wp2_with fail
  go_loopg [3, 8] l.length (fun k m i wr => ∃ j : Nat, i = .int .i64 j ∧ j ≤ l.length ∧ k = l.length - j ∧ m = .int .u32 ((l.take j).foldl stepO 1) ∧ Drawn w wr)
  case atStart => exact ⟨0, rfl, by omega, by omega, rfl, Drawn.refl _⟩
  case round =>
    obtain ⟨j, rfl, hj, hk, rfl, hd⟩ := hrel
    have Hk : Hid _ := hk
    clear hk
    by_cases hlt : j < l.length
    · obtain ⟨b, o, rfl, hcs⟩ := HR.out (fun e => by subst e; cases hlt)
      have hc := hcs j hlt
      have Hs : Hid _ := fold_step (f := stepO) (a := 1) l j hlt
      generalize hm : (l.take j).foldl stepO 1 = m at Hs ⊢
      generalize hx : l[j] = x at Hs hc
      clear hcs hm hx
      obtain ⟨n, rfl⟩ := hd
      go_wp2_with fail
      go_roundg (l.length - (j + 1))
      case measure => have := Hk.out; omega
      case rel => exact ⟨j + 1, by go_num, by omega, rfl, by rw [Hs.out]; rfl, Drawn.n _ _⟩
    · have hje : j = l.length := by omega
      have Hj : Hid _ := hje
      clear hje
      have hfull : Hid ((l.take j).foldl stepO 1 = l.foldl stepO 1) := by
        show _ = _
        rw [Hj.out, List.take_length]
      go_wp2_with fail
      rw [hfull.out]
      refine (coll_any _ _ _).mono ?_
      rintro e w1 ⟨rfl, h1⟩
      go_wp2_with fail
      go_ret
      exact ⟨rfl, hd.trans h1⟩

set_option maxHeartbeats 1000000 in
theorem unordered_any (l : List Int) (v : Value) (w : World) (hl : IntsAt .u32 w l v) : Calls Try.prog 49 #[v] w fun e w' => e = .returned (.int .u32 (unoZ l)) ∧ Drawn w w' := by
  obtain ⟨a, c, rfl, hlen, _, hr⟩ := hl
  have HR : Hid (l ≠ [] → ∃ b o, a = some ⟨b, o, none⟩ ∧ ∀ (i : Nat) (h : i < l.length), w.cell? ⟨b, o + i, none⟩ = some (.int .u32 (l[i]'h))) := hr
  clear hr
  go_enter Try.func49, Try.ntmps49
  go_wp2_with fail
  go_loopg [3, 8] l.length (fun k m i wr => ∃ j : Nat, i = .int .i64 j ∧ j ≤ l.length ∧ k = l.length - j ∧ m = .int .u32 ((l.take j).foldl stepU 0) ∧ Drawn w wr)
  case atStart => exact ⟨0, rfl, by omega, by omega, rfl, Drawn.refl _⟩
  case round =>
    obtain ⟨j, rfl, hj, hk, rfl, hd⟩ := hrel
    have Hk : Hid _ := hk
    clear hk
    by_cases hlt : j < l.length
    · obtain ⟨b, o, rfl, hcs⟩ := HR.out (fun e => by subst e; cases hlt)
      have hc := hcs j hlt
      have Hs : Hid _ := fold_step (f := stepU) (a := 0) l j hlt
      generalize hm : (l.take j).foldl stepU 0 = m at Hs ⊢
      generalize hx : l[j] = x at Hs hc
      clear hcs hm hx
      obtain ⟨n, rfl⟩ := hd
      go_wp2_with fail
      go_roundg (l.length - (j + 1))
      case measure => have := Hk.out; omega
      case rel => exact ⟨j + 1, by go_num, by omega, rfl, by rw [Hs.out]; rfl, Drawn.n _ _⟩
    · have hje : j = l.length := by omega
      have Hj : Hid _ := hje
      clear hje
      have hfull : Hid ((l.take j).foldl stepU 0 = l.foldl stepU 0) := by
        show _ = _
        rw [Hj.out, List.take_length]
      go_wp2_with fail
      rw [hfull.out]
      refine (coll_any _ _ _).mono ?_
      rintro e w1 ⟨rfl, h1⟩
      go_wp2_with fail
      go_ret
      exact ⟨rfl, hd.trans h1⟩

set_option maxHeartbeats 1000000 in
theorem java_any (l : List Int) (v : Value) (w : World) (hl : IntsAt .u16 w l v) : Calls Try.prog 46 #[v] w fun e w' => e = .returned (.int .i32 (javaZ l)) ∧ Drawn w w' := by
  obtain ⟨a, c, rfl, hlen, _, hr⟩ := hl
  have HR : Hid (l ≠ [] → ∃ b o, a = some ⟨b, o, none⟩ ∧ ∀ (i : Nat) (h : i < l.length), w.cell? ⟨b, o + i, none⟩ = some (.int .u16 (l[i]'h))) := hr
  clear hr
  go_enter Try.func46, Try.ntmps46
  go_wp2_with fail
  go_loopg [3, 8] l.length (fun k m i wr => ∃ j : Nat, i = .int .i64 j ∧ j ≤ l.length ∧ k = l.length - j ∧ m = .int .i32 ((l.take j).foldl stepJ 0) ∧ Drawn w wr)
  case atStart => exact ⟨0, rfl, by omega, by omega, rfl, Drawn.refl _⟩
  case round =>
    obtain ⟨j, rfl, hj, hk, rfl, hd⟩ := hrel
    have Hk : Hid _ := hk
    clear hk
    by_cases hlt : j < l.length
    · obtain ⟨b, o, rfl, hcs⟩ := HR.out (fun e => by subst e; cases hlt)
      have hc := hcs j hlt
      have Hs : Hid _ := fold_step (f := stepJ) (a := 0) l j hlt
      generalize hm : (l.take j).foldl stepJ 0 = m at Hs ⊢
      generalize hx : l[j] = x at Hs hc
      clear hcs hm hx
      obtain ⟨n, rfl⟩ := hd
      go_wp2_with fail
      go_roundg (l.length - (j + 1))
      case measure => have := Hk.out; omega
      case rel => exact ⟨j + 1, by go_num, by omega, rfl, by rw [Hs.out]; rfl, Drawn.n _ _⟩
    · have hje : j = l.length := by omega
      have Hj : Hid _ := hje
      clear hje
      have hfull : Hid ((l.take j).foldl stepJ 0 = l.foldl stepJ 0) := by
        show _ = _
        rw [Hj.out, List.take_length]
      go_wp2_with fail
      rw [hfull.out]
      go_ret
      exact ⟨rfl, hd⟩

set_option maxHeartbeats 1000000 in
theorem rordered_any (l : List Int) (v : Value) (w : World) (hl : IntsAt .u32 w l v) : Calls Try.prog 37 #[v] w fun e w' => e = .returned (.int .u32 (ordZ l)) ∧ Drawn w w' := by
  obtain ⟨a, c, rfl, hlen, _, hr⟩ := hl
  have HR : Hid (l ≠ [] → ∃ b o, a = some ⟨b, o, none⟩ ∧ ∀ (i : Nat) (h : i < l.length), w.cell? ⟨b, o + i, none⟩ = some (.int .u32 (l[i]'h))) := hr
  clear hr
  go_enter Try.func37, Try.ntmps37
  go_wp2_with fail
  go_loopg [3, 8] l.length (fun k m i wr => ∃ j : Nat, i = .int .i64 j ∧ j ≤ l.length ∧ k = l.length - j ∧ m = .int .u32 ((l.take j).foldl stepO 1) ∧ Drawn w wr)
  case atStart => exact ⟨0, rfl, by omega, by omega, rfl, Drawn.refl _⟩
  case round =>
    obtain ⟨j, rfl, hj, hk, rfl, hd⟩ := hrel
    have Hk : Hid _ := hk
    clear hk
    by_cases hlt : j < l.length
    · obtain ⟨b, o, rfl, hcs⟩ := HR.out (fun e => by subst e; cases hlt)
      have hc := hcs j hlt
      have Hs : Hid _ := fold_step (f := stepO) (a := 1) l j hlt
      generalize hm : (l.take j).foldl stepO 1 = m at Hs ⊢
      generalize hx : l[j] = x at Hs hc
      clear hcs hm hx
      obtain ⟨n, rfl⟩ := hd
      go_wp2_with fail
      go_roundg (l.length - (j + 1))
      case measure => have := Hk.out; omega
      case rel => exact ⟨j + 1, by go_num, by omega, rfl, by rw [Hs.out]; rfl, Drawn.n _ _⟩
    · have hje : j = l.length := by omega
      have Hj : Hid _ := hje
      clear hje
      have hfull : Hid ((l.take j).foldl stepO 1 = l.foldl stepO 1) := by
        show _ = _
        rw [Hj.out, List.take_length]
      go_wp2_with fail
      rw [hfull.out]
      refine (rcoll_any _ _ _).mono ?_
      rintro e w1 ⟨rfl, h1⟩
      go_wp2_with fail
      go_ret
      exact ⟨rfl, hd.trans h1⟩

set_option maxHeartbeats 1000000 in
theorem runordered_any (l : List Int) (v : Value) (w : World) (hl : IntsAt .u32 w l v) : Calls Try.prog 57 #[v] w fun e w' => e = .returned (.int .u32 (unoZ l)) ∧ Drawn w w' := by
  obtain ⟨a, c, rfl, hlen, _, hr⟩ := hl
  have HR : Hid (l ≠ [] → ∃ b o, a = some ⟨b, o, none⟩ ∧ ∀ (i : Nat) (h : i < l.length), w.cell? ⟨b, o + i, none⟩ = some (.int .u32 (l[i]'h))) := hr
  clear hr
  go_enter Try.func57, Try.ntmps57
  go_wp2_with fail
  go_loopg [3, 8] l.length (fun k m i wr => ∃ j : Nat, i = .int .i64 j ∧ j ≤ l.length ∧ k = l.length - j ∧ m = .int .u32 ((l.take j).foldl stepU 0) ∧ Drawn w wr)
  case atStart => exact ⟨0, rfl, by omega, by omega, rfl, Drawn.refl _⟩
  case round =>
    obtain ⟨j, rfl, hj, hk, rfl, hd⟩ := hrel
    have Hk : Hid _ := hk
    clear hk
    by_cases hlt : j < l.length
    · obtain ⟨b, o, rfl, hcs⟩ := HR.out (fun e => by subst e; cases hlt)
      have hc := hcs j hlt
      have Hs : Hid _ := fold_step (f := stepU) (a := 0) l j hlt
      generalize hm : (l.take j).foldl stepU 0 = m at Hs ⊢
      generalize hx : l[j] = x at Hs hc
      clear hcs hm hx
      obtain ⟨n, rfl⟩ := hd
      go_wp2_with fail
      go_roundg (l.length - (j + 1))
      case measure => have := Hk.out; omega
      case rel => exact ⟨j + 1, by go_num, by omega, rfl, by rw [Hs.out]; rfl, Drawn.n _ _⟩
    · have hje : j = l.length := by omega
      have Hj : Hid _ := hje
      clear hje
      have hfull : Hid ((l.take j).foldl stepU 0 = l.foldl stepU 0) := by
        show _ = _
        rw [Hj.out, List.take_length]
      go_wp2_with fail
      rw [hfull.out]
      refine (rcoll_any _ _ _).mono ?_
      rintro e w1 ⟨rfl, h1⟩
      go_wp2_with fail
      go_ret
      exact ⟨rfl, hd.trans h1⟩

set_option maxHeartbeats 1000000 in
theorem rjava_any (l : List Int) (v : Value) (w : World) (hl : IntsAt .u16 w l v) : Calls Try.prog 54 #[v] w fun e w' => e = .returned (.int .i32 (javaZ l)) ∧ Drawn w w' := by
  obtain ⟨a, c, rfl, hlen, _, hr⟩ := hl
  have HR : Hid (l ≠ [] → ∃ b o, a = some ⟨b, o, none⟩ ∧ ∀ (i : Nat) (h : i < l.length), w.cell? ⟨b, o + i, none⟩ = some (.int .u16 (l[i]'h))) := hr
  clear hr
  go_enter Try.func54, Try.ntmps54
  go_wp2_with fail
  go_loopg [3, 8] l.length (fun k m i wr => ∃ j : Nat, i = .int .i64 j ∧ j ≤ l.length ∧ k = l.length - j ∧ m = .int .i32 ((l.take j).foldl stepJ 0) ∧ Drawn w wr)
  case atStart => exact ⟨0, rfl, by omega, by omega, rfl, Drawn.refl _⟩
  case round =>
    obtain ⟨j, rfl, hj, hk, rfl, hd⟩ := hrel
    have Hk : Hid _ := hk
    clear hk
    by_cases hlt : j < l.length
    · obtain ⟨b, o, rfl, hcs⟩ := HR.out (fun e => by subst e; cases hlt)
      have hc := hcs j hlt
      have Hs : Hid _ := fold_step (f := stepJ) (a := 0) l j hlt
      generalize hm : (l.take j).foldl stepJ 0 = m at Hs ⊢
      generalize hx : l[j] = x at Hs hc
      clear hcs hm hx
      obtain ⟨n, rfl⟩ := hd
      go_wp2_with fail
      go_roundg (l.length - (j + 1))
      case measure => have := Hk.out; omega
      case rel => exact ⟨j + 1, by go_num, by omega, rfl, by rw [Hs.out]; rfl, Drawn.n _ _⟩
    · have hje : j = l.length := by omega
      have Hj : Hid _ := hje
      clear hje
      have hfull : Hid ((l.take j).foldl stepJ 0 = l.foldl stepJ 0) := by
        show _ = _
        rw [Hj.out, List.take_length]
      go_wp2_with fail
      rw [hfull.out]
      go_ret
      exact ⟨rfl, hd⟩

end Go.Proofs.Yteldncblmoilkab
