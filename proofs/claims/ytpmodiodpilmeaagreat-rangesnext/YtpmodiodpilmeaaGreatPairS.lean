/-
  Two pairs that are alike, in unlike memory.
-/
import Derived.Test.YtpmodiodpilmeaaGreatSpeaks15
import Derived.Test.YtpmodiodpilmeaaGreatLevel
import Derived.Deep.RegionHeld3
namespace Go.Proofs.YtpmodiodpilmeaaGreat
open Go.RowKit Go.Shelf

/-- The pair that is none. -/
def zeroPT : PT := (⟨0, 0, ⟨#[]⟩, []⟩, ⟨0, 0, ⟨#[]⟩, []⟩)

/-- A pair and its lists, right ones, in a world. -/
structure PrL (w : World) (x : PT) (k v : Value) : Prop where
  key : Lies 16 w x.1.items k
  val : Lies 16 w x.2.items v

theorem PrL.keeps {w w' : World} {x : PT} {k v : Value} (h : PrL w x k v) (hb : Below w.heap.size w w') : PrL w' x k v := ⟨Lies.keeps hb _ _ _ h.key, Lies.keeps hb _ _ _ h.val⟩

theorem PrL.slices {w : World} {x : PT} {k v : Value} (h : PrL w x k v) : ∃ a1 c1 a2 c2, k = .slice a1 x.1.items.length c1 ∧ v = .slice a2 x.2.items.length c2 := by
  obtain ⟨a1, c1, e1, _⟩ := Lies.slice h.key
  obtain ⟨a2, c2, e2, _⟩ := Lies.slice h.val
  exact ⟨a1, c1, a2, c2, e1, e2⟩

theorem lies_z16 (w : World) : Lies 16 w [] (.slice none 0 0) := ⟨none, 0, rfl, by simp, fun h => absurd rfl h⟩
theorem liesB_z16 (base : Nat) (w : World) : LiesB base 16 w [] (.slice none 0 0) := ⟨none, 0, rfl, by simp, fun h => absurd rfl h⟩

theorem zero_pr (w : World) : PrL w zeroPT (.slice none 0 0) (.slice none 0 0) := ⟨lies_z16 w, lies_z16 w⟩

set_option maxRecDepth 100000 in
set_option maxHeartbeats 4000000 in
theorem pair_same (x : PT) (k1 v1 k2 v2 : Value) (w : World) (h1 : PrL w x k1 v1) (h2 : PrL w x k2 v2) : Calls Tryz.prog 13 #[.agg #[.int .i64 x.1.kind, .int .i64 x.1.num, .string x.1.text, k1, .int .i64 x.2.kind, .int .i64 x.2.num, .string x.2.text, v1], .agg #[.int .i64 x.1.kind, .int .i64 x.1.num, .string x.1.text, k2, .int .i64 x.2.kind, .int .i64 x.2.num, .string x.2.text, v2]] w fun e w' => e = .returned (.bool true) ∧ Below w.heap.size w w' := by
  obtain ⟨a1, c1, a2, c2, rfl, rfl⟩ := h1.slices
  obtain ⟨a3, c3, a4, c4, rfl, rfl⟩ := h2.slices
  have HK : Hid (∀ V, Below w.heap.size w V → Calls Tryz.prog 41 #[.agg #[.int .i64 x.1.kind, .int .i64 x.1.num, .string x.1.text, .slice a1 x.1.items.length c1], .agg #[.int .i64 x.1.kind, .int .i64 x.1.num, .string x.1.text, .slice a3 x.1.items.length c3]] V fun e W' => e = .returned (.bool true) ∧ Below V.heap.size V W') := fun V hV => (same_any 16 x.1 x.1 _ _ V (Lies.keeps hV _ _ _ h1.key) (Lies.keeps hV _ _ _ h2.key)).mono fun e W' h => ⟨by rw [h.1, sameV_self], h.2.below⟩
  have HV : Hid (∀ V, Below w.heap.size w V → Calls Tryz.prog 41 #[.agg #[.int .i64 x.2.kind, .int .i64 x.2.num, .string x.2.text, .slice a2 x.2.items.length c2], .agg #[.int .i64 x.2.kind, .int .i64 x.2.num, .string x.2.text, .slice a4 x.2.items.length c4]] V fun e W' => e = .returned (.bool true) ∧ Below V.heap.size V W') := fun V hV => (same_any 16 x.2 x.2 _ _ V (Lies.keeps hV _ _ _ h1.val) (Lies.keeps hV _ _ _ h2.val)).mono fun e W' h => ⟨by rw [h.1, sameV_self], h.2.below⟩
  clear h1 h2
  obtain ⟨A1, hA1⟩ : ∃ A1, A1 = w.alloc (.cells #[.int .i64 x.1.kind, .int .i64 x.1.num, .string x.1.text, .slice a1 x.1.items.length c1, .int .i64 x.2.kind, .int .i64 x.2.num, .string x.2.text, .slice a2 x.2.items.length c2] 33) := ⟨_, rfl⟩
  obtain ⟨A2, hA2⟩ : ∃ A2, A2 = A1.alloc (.cells #[.int .i64 x.1.kind, .int .i64 x.1.num, .string x.1.text, .slice a3 x.1.items.length c3, .int .i64 x.2.kind, .int .i64 x.2.num, .string x.2.text, .slice a4 x.2.items.length c4] 33) := ⟨_, rfl⟩
  have hg1 : Below w.heap.size w A1 := by rw [hA1]; exact ((Grew.refl w).alloc _).below
  have hg2 : Below A1.heap.size A1 A2 := by rw [hA2]; exact ((Grew.refl A1).alloc _).below
  have hsz : A1.heap.size = w.heap.size + 1 := by rw [hA1]; simp
  have hb2 : Below w.heap.size w A2 := hg1.trans (hg2.mono hg1.size)
  have BX : Bx8 A2 w.heap.size (.int .i64 x.1.kind) (.int .i64 x.1.num) (.string x.1.text) (.slice a1 x.1.items.length c1) (.int .i64 x.2.kind) (.int .i64 x.2.num) (.string x.2.text) (.slice a2 x.2.items.length c2) := by
    have h9 : Bx8 A1 w.heap.size (.int .i64 x.1.kind) (.int .i64 x.1.num) (.string x.1.text) (.slice a1 x.1.items.length c1) (.int .i64 x.2.kind) (.int .i64 x.2.num) (.string x.2.text) (.slice a2 x.2.items.length c2) := by rw [hA1]; exact bx8_alloc w _ _ _ _ _ _ _ _ _
    exact h9.keeps hg2
  have BY : Bx8 A2 (w.heap.size + 1) (.int .i64 x.1.kind) (.int .i64 x.1.num) (.string x.1.text) (.slice a3 x.1.items.length c3) (.int .i64 x.2.kind) (.int .i64 x.2.num) (.string x.2.text) (.slice a4 x.2.items.length c4) := by rw [← hsz, hA2]; exact bx8_alloc A1 _ _ _ _ _ _ _ _ _
  have HK2 : Hid _ := HK.out A2 hb2
  have HB : Hid (∀ V, Below A2.heap.size A2 V → Below w.heap.size w V ∧ Bx8 V w.heap.size (.int .i64 x.1.kind) (.int .i64 x.1.num) (.string x.1.text) (.slice a1 x.1.items.length c1) (.int .i64 x.2.kind) (.int .i64 x.2.num) (.string x.2.text) (.slice a2 x.2.items.length c2) ∧ Bx8 V (w.heap.size + 1) (.int .i64 x.1.kind) (.int .i64 x.1.num) (.string x.1.text) (.slice a3 x.1.items.length c3) (.int .i64 x.2.kind) (.int .i64 x.2.num) (.string x.2.text) (.slice a4 x.2.items.length c4)) := fun V hV => ⟨hb2.trans (hV.mono hb2.size), BX.keeps hV, BY.keeps hV⟩
  rw [hA2, hA1] at HK2 HB
  clear BX BY hA1 hA2 hg1 hg2 hsz hb2 HK
  go_enter Tryz.func13, Tryz.ntmps13
  go_wp2_with fail
  refine Calls.mono HK2.out ?_
  rintro e w1 ⟨rfl, hb3⟩
  obtain ⟨hb4, BX, BY⟩ := HB.out w1 hb3
  have HV2 : Hid _ := HV.out w1 hb4
  obtain ⟨_, _, _, _, x4, x5, x6, x7⟩ := BX
  obtain ⟨_, _, _, _, y4, y5, y6, y7⟩ := BY
  clear HB HK2 HV hb3
  go_wp2_with fail
  refine Calls.mono HV2.out ?_
  rintro e w2 ⟨rfl, hb5⟩
  have hb6 : Below w.heap.size w w2 := hb4.trans (hb5.mono hb4.size)
  clear x4 x5 x6 x7 y4 y5 y6 y7 HV2 hb5
  go_wp2_with fail
  go_ret
  exact ⟨rfl, hb6⟩

/-- What is told of a pair, in three: the pair (lists in new blocks), whether, what is wrong. -/
def Pr3 (x : PT) (B : Bool) (E : Int) (w : World) (e : Ending) (w' : World) : Prop := Below w.heap.size w w' ∧ ∃ a1 c1 a2 c2, e = .returned (.tuple #[.agg #[.int .i64 x.1.kind, .int .i64 x.1.num, .string x.1.text, .slice a1 x.1.items.length c1, .int .i64 x.2.kind, .int .i64 x.2.num, .string x.2.text, .slice a2 x.2.items.length c2], .bool B, .int .i64 E]) ∧ LiesB w.heap.size 16 w' x.1.items (.slice a1 x.1.items.length c1) ∧ LiesB w.heap.size 16 w' x.2.items (.slice a2 x.2.items.length c2)
/-- In two, with whether. -/
def Pr2 (x : PT) (B : Bool) (w : World) (e : Ending) (w' : World) : Prop := Below w.heap.size w w' ∧ ∃ a1 c1 a2 c2, e = .returned (.tuple #[.agg #[.int .i64 x.1.kind, .int .i64 x.1.num, .string x.1.text, .slice a1 x.1.items.length c1, .int .i64 x.2.kind, .int .i64 x.2.num, .string x.2.text, .slice a2 x.2.items.length c2], .bool B]) ∧ LiesB w.heap.size 16 w' x.1.items (.slice a1 x.1.items.length c1) ∧ LiesB w.heap.size 16 w' x.2.items (.slice a2 x.2.items.length c2)
/-- In two, with what is wrong. -/
def PrE (x : PT) (E : Int) (w : World) (e : Ending) (w' : World) : Prop := Below w.heap.size w w' ∧ ∃ a1 c1 a2 c2, e = .returned (.tuple #[.agg #[.int .i64 x.1.kind, .int .i64 x.1.num, .string x.1.text, .slice a1 x.1.items.length c1, .int .i64 x.2.kind, .int .i64 x.2.num, .string x.2.text, .slice a2 x.2.items.length c2], .int .i64 E]) ∧ LiesB w.heap.size 16 w' x.1.items (.slice a1 x.1.items.length c1) ∧ LiesB w.heap.size 16 w' x.2.items (.slice a2 x.2.items.length c2)

def orZ (o : Option PT) : PT := o.getD zeroPT
def orE (o : Option PT) : Int := if o.isSome then 0 else 5

theorem NearPost.pr {o : Option PT} {E : Int} {w : World} {e : Ending} {w' : World} (h : NearPost o E w e w') : Pr3 (orZ o) o.isSome E w e w' := by
  obtain ⟨hb, ⟨rfl, rfl⟩ | ⟨x, ku, vu, rfl, rfl, rfl, h1, h2⟩⟩ := h
  · exact ⟨hb, none, 0, none, 0, rfl, liesB_z16 _ w', liesB_z16 _ w'⟩
  · obtain ⟨a1, c1, rfl, _⟩ := LiesB.slice h1
    obtain ⟨a2, c2, rfl, _⟩ := LiesB.slice h2
    exact ⟨hb, a1, c1, a2, c2, rfl, h1, h2⟩

theorem InPost.pr {o : Option PT} {w : World} {e : Ending} {w' : World} (h : InPost o w e w') : Pr2 (orZ o) o.isSome w e w' := by
  obtain ⟨hb, ⟨rfl, rfl⟩ | ⟨x, ku, vu, rfl, rfl, h1, h2⟩⟩ := h
  · exact ⟨hb, none, 0, none, 0, rfl, liesB_z16 _ w', liesB_z16 _ w'⟩
  · obtain ⟨a1, c1, rfl, _⟩ := LiesB.slice h1
    obtain ⟨a2, c2, rfl, _⟩ := LiesB.slice h2
    exact ⟨hb, a1, c1, a2, c2, rfl, h1, h2⟩

theorem AtPost15.pr {o : Option PT} {w : World} {e : Ending} {w' : World} (h : AtPost15 o w e w') : PrE (orZ o) (orE o) w e w' := by
  obtain ⟨hb, ⟨rfl, rfl⟩ | ⟨x, ku, vu, rfl, rfl, h1, h2⟩⟩ := h
  · exact ⟨hb, none, 0, none, 0, rfl, liesB_z16 _ w', liesB_z16 _ w'⟩
  · obtain ⟨a1, c1, rfl, _⟩ := LiesB.slice h1
    obtain ⟨a2, c2, rfl, _⟩ := LiesB.slice h2
    exact ⟨hb, a1, c1, a2, c2, rfl, h1, h2⟩

end Go.Proofs.YtpmodiodpilmeaaGreat

