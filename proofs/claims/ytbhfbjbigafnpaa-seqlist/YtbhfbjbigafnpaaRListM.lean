/-
  The document's List: the items of a list as a seq.
-/
import Derived.Test.YtbhfbjbigafnpaaSpeaks23
import Derived.Test.YtbhfbjbigafnpaaListed
namespace Go.Proofs.Ytbhfbjbigafnpaa
open Go.RowKit Go.Shelf

/-- What the document's List tells of a list of right values. -/
def RLPost (N : Nat) (L : List VT) (w w' : World) (P : Nat → Nat) : Prop :=
  Below w.heap.size w w' ∧ Chn dCK (fun n => n < N ∨ w.heap.size ≤ n) w' L none P ∧ ∀ j, j ≤ L.length → w.heap.size ≤ P j

set_option maxRecDepth 100000 in
set_option maxHeartbeats 16000000 in
theorem rlisted22_any (d : Nat) (L : List VT) (aL : Option Addr) (cL N : Nat) (w : World) (hN : N ≤ w.heap.size) (hL : LiesX (fun n => n < N) (d + 1) w L (.slice aL L.length cL)) (hrs : ∀ x ∈ L, rightV d x = true) :
    Calls Try.prog 19 #[.slice aL L.length cL] w fun e w' => ∃ P, e = .returned (.pointer (some ⟨P 0, 0, none⟩)) ∧ RLPost N L w w' P := by
  have HEm : Hid (∀ V, Calls Try.prog 36 #[] V fun e w' => e = .returned (.pointer (some ⟨V.heap.size, 0, none⟩)) ∧ Below V.heap.size V w' ∧ DB w' V.heap.size true false zeroT (.slice none 0 0) none 0 0 zeroT (.slice none 0 0)) := fun V => rempty_any V
  obtain ⟨_, _, eL, hlc, hrow⟩ := hL
  obtain ⟨rfl, _, rfl⟩ : aL = _ ∧ L.length = L.length ∧ cL = _ := by simpa using eL
  have HRow : Hid _ := hrow
  have HRs : Hid (∀ x ∈ L, rightV d x = true) := hrs
  have HNw : Hid (N ≤ w.heap.size) := hN
  have HY : Hid (∀ n, w.heap.size ≤ n → (fun n => n < N ∨ w.heap.size ≤ n) n) := fun n hn => .inr hn
  obtain ⟨LL, hLL⟩ : ∃ LL, LL = L.length := ⟨_, rfl⟩
  have HLe : Hid (LL = L.length) := hLL
  have hLz : LL ≤ 9223372036854775807 := by omega
  have e1 : IntKind.i64.wrap ((LL : Int) - 1) = (LL : Int) - 1 := by rw [IntKind.wrap_i64]; omega
  rw [← hLL]
  clear hlc eL hrow hLL hrs hN
  go_enter Try.func19, Try.ntmps19
  go_wp2_with fail
  refine Calls.mono (HEm.out _) ?_
  rintro e w1 ⟨rfl, hb1, hen⟩
  have HN2 : Hid (MkS dCK (fun n => n < N ∨ w.heap.size ≤ n) d L none w LL w.heap.size w1) := by
    rw [HLe.out]
    refine ⟨hb1, fun x hx => by simp at hx, fun _ => w.heap.size, rfl, ?_, fun j _ => Nat.le_refl _⟩
    rw [List.drop_length]
    exact chn_nil (.inr (Nat.le_refl _)) hen
  clear hb1 hen HEm
  go_wp2_with fail
  go_loopg [3, 4] LL (fun g cc i wr => ∃ (j b : Nat) (z : Int), i = .int .i64 z ∧ cc = .pointer (some ⟨b, 0, none⟩) ∧ j ≤ LL ∧ g = j ∧ Hid (z = (j : Int) - 1) ∧ Hid (MkS dCK (fun n => n < N ∨ w.heap.size ≤ n) d L none w j b wr))
  case atStart => exact ⟨LL, _, _, rfl, rfl, Nat.le_refl _, rfl, rfl, HN2.out⟩
  case round =>
    clear HN2 e1
    obtain ⟨j, b, z, rfl, rfl, hj, hg, Hz, HI⟩ := hrel
    have Hg : Hid (gk = j) := hg
    clear hg
    by_cases hj0 : j = 0
    · have hz0 : ¬ (0 : Int) ≤ z := by have := Hz.out; omega
      have HE : Hid (∃ P, (Ending.returned (.pointer (some ⟨b, 0, none⟩)) : Ending) = .returned (.pointer (some ⟨P 0, 0, none⟩)) ∧ RLPost N L w wr P) := by
        obtain ⟨h1, h2, P, h3, h4, h5⟩ := HI.out
        subst hj0
        exact ⟨P, by rw [h3], h1, h4, h5⟩
      clear hj0 Hz Hg hj HI
      go_wp2_with fail
      refine bodyPost_ret (v := .pointer (some ⟨b, 0, none⟩)) ?_ rfl HE.out
      simp [results, Try.results19, go_sem]
    · obtain ⟨k, rfl⟩ : ∃ k, j = k + 1 := ⟨j - 1, by omega⟩
      obtain rfl : z = (k : Int) := by have := Hz.out; omega
      have hkL : k < L.length := by have := HLe.out; omega
      have hne : L ≠ [] := by intro h; rw [h] at hkL; simp at hkL
      obtain ⟨bb, oo, rfl, _, hall⟩ := HRow.out hne
      obtain ⟨u, r0, r1, r2, r3, hlx, htx⟩ := hall k hkL
      obtain ⟨ax, cx, rfl, _⟩ := Lies.slice hlx.lies
      obtain ⟨x, hx⟩ : ∃ x, x = L[k] := ⟨_, rfl⟩
      have Hx : Hid (x = L[k]) := hx
      rw [← hx] at r0 r1 r2 r3 hlx htx
      have hbr := HI.out.1
      have r0 := cell_keeps hbr r0; have r1 := cell_keeps hbr r1; have r2 := cell_keeps hbr r2; have r3 := cell_keeps hbr r3
      have i1 : (0 : Int) ≤ (k : Int) := by omega
      have i2 : (k : Int) < (LL : Int) := by omega
      have e2 : IntKind.i64.wrap ((k : Int) - 1) = (k : Int) - 1 := by rw [IntKind.wrap_i64]; omega
      have HI2 : Hid (MkS dCK (fun n => n < N ∨ w.heap.size ≤ n) d L none w k wr.heap.size (wr.alloc (.cells #[.bool true, .bool true, .int .i64 x.kind, .int .i64 x.num, .string x.text, .slice ax x.items.length cx, .pointer (some ⟨b, 0, none⟩), .int .i64 0, .int .i64 0, .int .i64 0, .int .i64 0, .int .i64 0, .string ⟨#[]⟩, .slice none 0 0, .slice none 0 0, .slice none 0 0] 77))) := by
        have hr : rightV d L[k] = true := HRs.out _ (List.getElem_mem hkL)
        have e9 := Hx.out
        subst e9
        have hc := canon hlx.lies hr
        have hs := HI.out.1.size
        have hbc : Below wr.heap.size wr (wr.alloc (.cells #[.bool true, .bool true, .int .i64 L[k].kind, .int .i64 L[k].num, .string L[k].text, .slice ax L[k].items.length cx, .pointer (some ⟨b, 0, none⟩), .int .i64 0, .int .i64 0, .int .i64 0, .int .i64 0, .int .i64 0, .string ⟨#[]⟩, .slice none 0 0, .slice none 0 0, .slice none 0 0] 77)) := ((Grew.refl wr).alloc _).below
        have hb9 := HI.out.1.trans (hbc.mono hs)
        exact HI.out.step HY.out hkL hr hc.2 hbc (Nat.le_refl _) ⟨0, 0, zeroT, _, db_alloc wr 77 true true L[k] (.slice ax L[k].items.length cx) (some ⟨b, 0, none⟩) 0 0 zeroT (.slice none 0 0)⟩ (LiesX.mono (fun n hn => ⟨⟨.inl hn, by have := HNw.out; omega⟩, .inl (by have := HNw.out; omega)⟩) ((hlx.to (Dp.of_lies 16 w _ _ hc.1)).keeps hb9))
      clear hx hall hlx htx hbr hne HRow hj0 HI
      go_wp2_with fail
      go_roundg k
      case measure => have := Hg.out; omega
      case rel => exact ⟨k, wr.heap.size, (k : Int) - 1, by first | rfl | (rw [e2]), rfl, by omega, rfl, rfl, HI2.out⟩

set_option maxRecDepth 100000 in
set_option maxHeartbeats 4000000 in
theorem rlist_any (d : Nat) (L : List VT) (aL : Option Addr) (cL N : Nat) (w : World) (hN : N ≤ w.heap.size) (hL : LiesX (fun n => n < N) (d + 1) w L (.slice aL L.length cL)) :
    Calls Try.prog 6 #[.slice aL L.length cL] w fun e w' => Below w.heap.size w w' ∧ ((listErr d L ≠ 0 ∧ e = .returned (.tuple #[.pointer none, .int .i64 (listErr d L)])) ∨ (listErr d L = 0 ∧ ∃ P, e = .returned (.tuple #[.pointer (some ⟨P 0, 0, none⟩), .int .i64 0]) ∧ Chn dCK (fun n => n < N ∨ w.heap.size ≤ n) w' L none P ∧ ∀ j, j ≤ L.length → w.heap.size ≤ P j)) := by
  have HCk : Hid _ := listed_any d L _ w hL.lies
  have HLs : Hid (∀ V, listErr d L = 0 → Below w.heap.size w V → Calls Try.prog 19 #[.slice aL L.length cL] V fun e w' => ∃ P, e = .returned (.pointer (some ⟨P 0, 0, none⟩)) ∧ RLPost N L V w' P) := fun V he hV => rlisted22_any d L aL cL N V (Nat.le_trans hN hV.size) (hL.keeps hV) (by
    unfold listErr at he
    split at he
    · cases he
    · split at he
      · rename_i h
        exact List.all_eq_true.1 h
      · cases he)
  clear hL
  generalize listErr d L = E at *
  go_enter Try.func6, Try.ntmps6
  go_wp2_with fail
  refine Calls.mono HCk.out ?_
  rintro e w1 ⟨rfl, hg1⟩
  clear HCk
  by_cases he : E = 0
  · subst he
    have HL1 : Hid _ := HLs.out w1 rfl hg1
    clear HLs
    go_wp2_with fail
    refine Calls.mono HL1.out ?_
    rintro e w2 ⟨P, rfl, hb, hC, hP⟩
    have hs := hg1.size
    have HE : Hid (Below w.heap.size w w2 ∧ Chn dCK (fun n => n < N ∨ w.heap.size ≤ n) w2 L none P ∧ ∀ j, j ≤ L.length → w.heap.size ≤ P j) := ⟨hg1.trans (hb.mono hs), hC.monoY (fun n _ h => h.elim .inl (fun h => .inr (by omega))), fun j hj => by have := hP j hj; omega⟩
    clear hb hC hP HL1 hg1
    go_wp2_with fail
    refine bodyPost_ret (v := .tuple #[.pointer (some ⟨P 0, 0, none⟩), .int .i64 0]) ?_ rfl ⟨HE.out.1, by first | exact .inr ⟨rfl, P, rfl, HE.out.2⟩ | exact ⟨P, rfl, HE.out.2⟩⟩
    simp [results, Try.results6, go_sem]
  · clear HLs
    go_wp2_with fail
    refine bodyPost_ret (v := .tuple #[.pointer none, .int .i64 E]) ?_ rfl ⟨hg1, .inl ⟨he, rfl⟩⟩
    simp [results, Try.results6, go_sem]

end Go.Proofs.Ytbhfbjbigafnpaa

