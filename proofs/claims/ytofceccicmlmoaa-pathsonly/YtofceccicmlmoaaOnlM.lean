/-
  What is wrong first with some paths: CheckAll of checkPath.
-/
import Derived.Test.YtofceccicmlmoaaPutA
import Derived.Test.YtofceccicmlmoaaReadS
namespace Go.Proofs.Ytofceccicmlmoaa
open Go.ChangeShapes Go.WideShapes Go.ChangeAt Go.RowKit Go.Shelf Go.Deep Go.Joins

/-- A list of lists lies there. -/
def LL (d : Nat) (w : World) (ls : List (List VT)) (v : Value) : Prop :=
  ∃ a c, v = .slice a ls.length c ∧ (ls.length ≤ c ∧ ls.length ≤ 9223372036854775807) ∧ (ls ≠ [] → ∃ b o, a = some ⟨b, o, none⟩ ∧ ∀ i (h : i < ls.length), ∃ u, w.cell? ⟨b, o + i, none⟩ = some u ∧ Lies (d + 1) w ls[i] u)

theorem LL.keeps {d : Nat} {w w' : World} {ls : List (List VT)} {v : Value} (h : LL d w ls v) (hb : Below w.heap.size w w') : LL d w' ls v := by
  obtain ⟨a, c, hv, hc, hr⟩ := h
  refine ⟨a, c, hv, hc, fun hne => ?_⟩
  obtain ⟨b, o, ha, hall⟩ := hr hne
  refine ⟨b, o, ha, fun i hi => ?_⟩
  obtain ⟨u, h1, h2⟩ := hall i hi
  exact ⟨u, cell_keeps hb h1, Lies.keeps hb _ _ _ h2⟩

theorem LL.atLeast {d e : Nat} {w : World} {ls : List (List VT)} {v : Value} (h : LL d w ls v) (hde : d ≤ e) : LL e w ls v := by
  obtain ⟨a, c, hv, hc, hr⟩ := h
  refine ⟨a, c, hv, hc, fun hne => ?_⟩
  obtain ⟨b, o, ha, hall⟩ := hr hne
  refine ⟨b, o, ha, fun i hi => ?_⟩
  obtain ⟨u, h1, h2⟩ := hall i hi
  exact ⟨u, h1, h2.atLeast (e + 1) (by omega)⟩

theorem LL.slice {d : Nat} {w : World} {ls : List (List VT)} {v : Value} (h : LL d w ls v) : ∃ a c, v = .slice a ls.length c ∧ ls.length ≤ c ∧ ls.length ≤ 9223372036854775807 := by
  obtain ⟨a, c, hv, hc, _⟩ := h
  exact ⟨a, c, hv, hc.1, hc.2⟩

/-- What is wrong first with some paths. -/
def fstE (d : Nat) : List (List VT) → Int
  | [] => 0
  | p :: ps => if pthE d p = 0 then fstE d ps else pthE d p
def lstsE (d : Nat) (ls : List (List VT)) : Int := if 65536 < ls.length then 2 else fstE d ls

theorem fstE_zero {d : Nat} : ∀ {ls : List (List VT)}, fstE d ls = 0 → ∀ p ∈ ls, pthE d p = 0
  | [], _, p, hp => by cases hp
  | q :: ls, h, p, hp => by
    unfold fstE at h
    by_cases hq : pthE d q = 0
    · rw [if_pos hq] at h
      rcases List.mem_cons.1 hp with rfl | hp
      · exact hq
      · exact fstE_zero h p hp
    · rw [if_neg hq] at h; exact absurd h hq

/-- What is put together path by path, and the error that ends it. -/
def onlS (t : VT) : VT → List (List VT) → VT × Int
  | out, [] => (out, 0)
  | out, p :: ps => match atT t p with
    | none => onlS t out ps
    | some x => match putT out p x with
      | none => (nilT, 260)
      | some z => if fitE 32 z = 0 then onlS t z ps else (nilT, 2)

abbrev six26 : VT := ⟨6, 0, ⟨#[]⟩, []⟩

def onlE (d : Nat) (t : VT) (ls : List (List VT)) : Int := if rightV d t = true then (if lstsE d ls = 0 then (onlS t six26 ls).2 else lstsE d ls) else 3
def onlR (d : Nat) (t : VT) (ls : List (List VT)) : VT := if onlE d t ls = 0 then (onlS t six26 ls).1 else nilT

theorem six_right : rightV 16 six26 = true := by decide +kernel
theorem six_dp : Dp 16 six26 := fun x hx => by cases hx

set_option maxRecDepth 100000 in
theorem read_lists {H : Type} {enc : TypeId × Value → H} {w : World} {spare : Nat → Bool} {held : Bool} {r : Reach} {b0 : Nat} {v : Value} {d : DataW H} {p : List MemPlace}
    (hv : Value.okWide Try.prog w r b0 42 v) (h : DataW.Trod enc Try.prog w 0 spare held 42 v d p) : ∃ (n : Nat) (ls : List (List VT)), LL n w ls v := by
  obtain ⟨a0, len0, cap0, rfl⟩ := okWide_slice Try.underlying42 hv
  obtain ⟨fuel, hf⟩ := h
  rcases DataW.trod_slice Try.underlying42 hf with ⟨hc, _⟩ | ⟨a, len, cap, elems, rest, n, _, hc, _, _, hlc, hcm, hel, hall, _, _⟩
  · have e' : (Value.slice a0 len0 cap0) = .slice none 0 0 := by simpa [Value.cells] using hc
    rw [e']
    exact ⟨0, [], none, 0, rfl, by simp, fun h => absurd rfl h⟩
  · have e' : (Value.slice a0 len0 cap0) = .slice (some a) len cap := by simpa [Value.cells] using hc
    rw [e']
    have hone : ∀ i, i < len → ∃ l : List VT, ∃ u, w.cell? (a.add i) = some u ∧ Lies n w l u := by
      intro i hi
      have h1 := hall i hi
      rw [Try.cells22] at h1
      have hlt : i < elems.length := by omega
      rw [List.getElem?_eq_getElem hlt, Option.bind_eq_some_iff] at h1
      obtain ⟨cs, hcs, htr⟩ := h1
      obtain ⟨l, u, rfl, hL⟩ := read_items _ _ (Nat.le_refl _) _ _ htr
      refine ⟨l, u, ?_, hL⟩
      rw [Nat.mul_one] at hcs
      unfold World.cells? at hcs
      rw [if_pos (Nat.zero_le _)] at hcs
      simp only [List.range, List.range.loop, List.mapM_cons, List.mapM_nil] at hcs
      simp only [Option.bind_eq_bind, Option.bind_eq_some_iff, Option.pure_def, Option.some.injEq] at hcs
      obtain ⟨c0, h0, _, rfl, hcc⟩ := hcs
      have hcc : c0 = u := by simpa using hcc
      subst hcc
      simpa [Addr.add] using h0
    have hinh : Inhabited (List VT) := ⟨[]⟩
    obtain ⟨f, hf⟩ := Go.Deep.choose_lt hone
    refine ⟨n, (List.range len).map f, some a, cap, by simp, by unfold maxLen at hcm; simp; omega, fun hne => ?_⟩
    obtain ⟨b, o, sp⟩ := a
    have hl0 : 0 < len := by
      rcases Nat.eq_zero_or_pos len with h0 | h0
      · subst h0; simp at hne
      · exact h0
    obtain ⟨_, z0, _⟩ := hf 0 hl0
    have hspot : sp = none := by simpa [Addr.add] using World.cell?_spot z0
    subst hspot
    refine ⟨b, o, rfl, fun i hi => ?_⟩
    have hi' : i < len := by simpa using hi
    obtain ⟨u, q0, q1⟩ := hf i hi'
    have hadd : (⟨b, o, none⟩ : Addr).add i = ⟨b, o + i, none⟩ := by
      unfold Addr.add
      by_cases hk : i = 0
      · subst hk; rfl
      · rw [if_neg hk]
    rw [hadd] at q0
    refine ⟨u, q0, ?_⟩
    simp only [List.getElem_map, List.getElem_range]
    exact Lies.deeper _ _ _ q1

end Go.Proofs.Ytofceccicmlmoaa

namespace Go.Proofs.Ytofceccicmlmoaa
open Go.RowKit Go.Shelf

set_option maxRecDepth 100000 in
set_option maxHeartbeats 4000000 in
theorem checkLists_any (d : Nat) (ls : List (List VT)) (u : Value) (w : World) (hu : LL d w ls u) :
    Calls Try.prog 45 #[u, .func (.func 46) #[] #[]] w fun e w' => e = .returned (.int .i64 (lstsE d ls)) ∧ Below w.heap.size w w' := by
  obtain ⟨a, c, rfl, hc, hr⟩ := hu
  have Hr : Hid _ := hr
  clear hr
  by_cases hlong : 65536 < ls.length
  · have hlong' : (65536 : Int) < (ls.length : Int) := by omega
    have Hfin : Hid (lstsE d ls = 2) := if_pos hlong
    clear hlong
    go_enter Try.func45, Try.ntmps45
    go_wp2_with fail
    go_ret
    exact ⟨ret_int Hfin.out.symm, Below.refl _ _⟩
  · have hlong' : ¬ (65536 : Int) < (ls.length : Int) := by omega
    have Hfin : Hid (lstsE d ls = fstE d ls) := if_neg hlong
    go_enter Try.func45, Try.ntmps45
    go_wp2_with fail
    go_loopg [13] ls.length (fun g i wr => ∃ j : Nat, i = .int .i64 (j : Int) ∧ j ≤ ls.length ∧ g = ls.length - j ∧ Hid (fstE d ls = fstE d (ls.drop j)) ∧ Below w.heap.size w wr)
    case atStart => exact ⟨0, rfl, by omega, by omega, rfl, Below.refl _ _⟩
    case round =>
      obtain ⟨j, rfl, hj, hk, Hc, hbw⟩ := hrel
      have Hk : Hid _ := hk
      clear hk
      by_cases hlt : j < ls.length
      · obtain ⟨b1, o1, rfl, hall1⟩ := Hr.out (by intro e; simp [e] at hlt)
        obtain ⟨x, p0, p1⟩ := hall1 j hlt
        clear hall1
        obtain ⟨ax, cx, rfl, _⟩ := Lies.slice p1
        have p0 := cell_keeps hbw p0
        have HP : Hid (Lies (d + 1) w ls[j] (.slice ax ls[j].length cx)) := p1
        have Hd : Hid (ls.drop j = ls[j] :: ls.drop (j + 1)) := List.drop_eq_getElem_cons hlt
        have hji : (j : Int) < (ls.length : Nat) := by omega
        clear p1
        go_wp2_with fail
        refine (checkPath_any d ls[j] _ _ (Lies.keeps hbw _ _ _ HP.out)).mono ?_
        rintro e w1 ⟨rfl, hg⟩
        have hb2 : Below w.heap.size w w1 := hbw.trans (hg.mono hbw.size)
        clear hg p0 HP
        by_cases hx : pthE d ls[j] = 0
        · have Hn : Hid (fstE d ls = fstE d (ls.drop (j + 1))) := by
            show _ = _
            rw [Hc.out, Hd.out]
            conv => lhs; unfold fstE
            rw [if_pos hx]
          rw [hx]
          clear hx
          go_wp2_with fail
          go_roundg (ls.length - (j + 1))
          case measure => have := Hk.out; omega
          case rel => exact ⟨j + 1, by go_num, by omega, rfl, Hn, hb2⟩
        · have Hn : Hid (fstE d ls = pthE d ls[j]) := by
            show _ = _
            rw [Hc.out, Hd.out]
            conv => lhs; unfold fstE
            rw [if_neg hx]
          have hx' : (pthE d ls[j] != 0) = true := by simpa using hx
          clear hx
          generalize pthE d ls[j] = E at *
          go_wp2_with fail
          go_ret
          exact ⟨ret_int (by rw [Hfin.out, Hn.out]), hb2⟩
      · have hji : ¬ (j : Int) < (ls.length : Nat) := by omega
        have Hd : Hid (fstE d ls = 0) := by
          show _ = _
          rw [Hc.out, List.drop_eq_nil_of_le (by omega)]; rfl
        clear Hc Hr
        go_wp2_with fail
        go_ret
        exact ⟨ret_int (by rw [Hfin.out, Hd.out]), hbw⟩

end Go.Proofs.Ytofceccicmlmoaa

