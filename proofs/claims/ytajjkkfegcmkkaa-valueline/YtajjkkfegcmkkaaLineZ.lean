/-
  The walk of ValueLine, all ways.
-/
import Derived.Test.YtajjkkfegcmkkaaShelf
import Derived.Test.YtajjkkfegcmkkaaSorted
import Derived.Test.YtajjkkfegcmkkaaLine
import Derived.Test.YtajjkkfegcmkkaaEq
import Derived.Test.YtajjkkfegcmkkaaList
import Derived.Shelf.SlSortCmp.QuietGrown
namespace Go.Proofs.Ytajjkkfegcmkkaa
open Go.Proofs Go.Shelf Go.Lib Go.Sort
open Go.RowKit (Below Hid Hid.out)

theorem grew_grow {w w' : World} (h : Grew w w') : ∃ q os', w' = grow (w.drewN q) os' := by
  refine ⟨w'.drawn - w.drawn, w'.heap.extract w.heap.size w'.heap.size, ?_⟩
  have hh : w'.heap = w.heap ++ w'.heap.extract w.heap.size w'.heap.size := by
    apply Array.ext_getElem?
    intro i
    rw [Array.getElem?_append]
    by_cases hi : i < w.heap.size
    · rw [if_pos hi]; exact h.below.block i hi
    · rw [if_neg hi, Array.getElem?_extract]
      have := h.below.size
      by_cases hi2 : i < w'.heap.size
      · rw [if_pos (by omega), show w.heap.size + (i - w.heap.size) = i by omega]
      · rw [if_neg (by omega), Array.getElem?_eq_none (by omega)]
  have hd := h.drawn
  have e1 : (w.drewN (w'.drawn - w.drawn)) = { w with drawn := w'.drawn } := by
    unfold World.drewN
    congr 1
    omega
  rw [e1]
  unfold grow
  obtain ⟨b1, b2, b3, _, _⟩ := h.below
  cases w'
  simp only at *
  subst b1 b2 b3
  congr 1

/-- What is sorted: a tree and its items' slice, sound in w0. -/
abbrev PV (d : Nat) (w0 : World) : Type := { p : VT × Value // Sound d w0 p }

theorem swoV (d : Nat) (w0 : World) : SWO (ltOf fun x y : PV d w0 => cmpV d x.1.1 y.1.1) where
  irrefl x := by simp [ltOf, cmpV_self]
  trans x y z h1 h2 := by
    simp only [ltOf, decide_eq_true_eq] at *
    have h := goes_V d x.1.1 y.1.1 z.1.1 (by omega) (by omega)
    have : cmpV d x.1.1 z.1.1 ≠ 0 := fun e => by have := h.2 e; omega
    omega
  ntrans x y z h1 h2 := by
    simp only [ltOf, decide_eq_false_iff_not, Int.not_lt] at *
    have t1 := cmpV_turn d x.1.1 y.1.1
    have t2 := cmpV_turn d y.1.1 z.1.1
    have t3 := cmpV_turn d x.1.1 z.1.1
    have h := goes_V d z.1.1 y.1.1 x.1.1 (by omega) (by omega)
    omega

theorem below_sortWorld {α : Type} [Inhabited α] (enc : α → List Value) (k : Nat) (w0 w : World) (g n : Nat) (dk : Array α) (os : Array Obj) (hb : Below w0.heap.size w0 w) (hg : w0.heap.size ≤ g) : Below w0.heap.size w0 (sortWorldK enc k w g 0 n dk os) := by
  refine hb.trans ⟨rfl, rfl, rfl, ?_, ?_⟩
  · unfold sortWorldK grow putRowK putRow mapBlock Sort.ahead
    simp
  · intro i hi
    have := hb.size
    unfold sortWorldK grow putRowK putRow mapBlock Sort.ahead
    simp only [Array.getElem?_append, Array.size_modify]
    rw [if_pos (by omega), Array.getElem?_modify, if_neg (by omega)]

theorem eg17 : ∀ args w, (callFunc 17 args).run Try.prog w = .ok (.enter 17 args) w := enters_of Try.func17 (by kernel_rfl) rfl

theorem isAgg24 (w : World) : (isAgg 24).run Try.prog w = .ok true w := by kernel_rfl
theorem sizeOf24 (w : World) : (Go.sizeOf 24).run Try.prog w = .ok 4 w := by kernel_rfl

theorem cmpLays {d : Nat} {w0 w : World} [Inhabited (PV d w0)] {g : Nat} (size : Nat) (hb : Below w0.heap.size w0 w) (hg : w0.heap.size ≤ g) :
    CmpLays Try.prog 17 #[] (fun x : PV d w0 => encP x.1) 4 (fun x y => cmpV d x.1.1 y.1.1) g 0 size w := by
  intro m os dk _ x y
  have hbs := below_sortWorld (fun x : PV d w0 => encP x.1) 4 w0 w g m dk os hb hg
  have h := compare_any d x.1.1 y.1.1 x.1.2 y.1.2 (sortWorldK (fun x : PV d w0 => encP x.1) 4 w g 0 m dk os) (Lies.keeps hbs _ _ _ x.2.1) (Lies.keeps hbs _ _ _ y.2.1)
  refine Calls.mono h fun e w' hh => ⟨hh.1, grew_grow hh.2⟩

/-- Rising: none ahead of one that is less. -/
def Rises (d : Nat) (qs : List (VT × Value)) : Prop := qs.Pairwise fun p q => cmpV d p.1 q.1 ≤ 0

theorem holds_of_row {d : Nat} {w0 w : World} [Inhabited (PV d w0)] {g : Nat} (xs : List (PV d w0)) (hrow : RowAt w g 0 (xs.map (·.1))) (hfz : ∀ k, k < xs.length * 4 → w.frozen? ⟨g, k, none⟩ = false) :
    HoldsK (fun x : PV d w0 => encP x.1) 4 w g 0 xs.toArray := by
  intro t ht
  have ht' : t < xs.length * 4 := by simpa using ht
  rw [get_flatK _ _ _ t (by simpa using ht')]
  refine ⟨?_, by rw [Nat.zero_add]; exact hfz t ht'⟩
  have hi : t / 4 < xs.length := by omega
  have hx : (xs.toArray)[t / 4]! = xs[t / 4] := by rw [getElem!_pos _ _ (by simpa using hi)]; simp
  rw [hx]
  have hl : t < ((xs.map (·.1)).flatMap encP).length := by rw [flat_len]; simpa using ht'
  have h := hrow.flat t _ (List.getElem?_eq_getElem hl)
  have h2 := flat_at (xs.map (·.1)) (t / 4) (t % 4) (by simpa using hi) (by omega)
  rw [show t / 4 * 4 + t % 4 = t by omega, List.getElem?_eq_getElem hl] at h2
  rw [h]
  congr 1
  simp only [List.getElem_map] at h2
  simp only [id]
  rw [getElem!_def, ← h2]

theorem row_of_holds {d : Nat} {w0 w : World} [Inhabited (PV d w0)] {g : Nat} (xs : List (PV d w0)) (h : HoldsK (fun x : PV d w0 => encP x.1) 4 w g 0 xs.toArray) :
    RowAt w g 0 (xs.map (·.1)) ∧ ∀ k, k < xs.length * 4 → w.frozen? ⟨g, k, none⟩ = false := by
  refine ⟨RowAt.of_flat fun t u hu => ?_, fun k hk => by have := (h k (by simpa using hk)).2; rwa [Nat.zero_add] at this⟩
  have hl : t < ((xs.map (·.1)).flatMap encP).length := by
    by_cases hl : t < ((xs.map (·.1)).flatMap encP).length
    · exact hl
    · rw [List.getElem?_eq_none (by omega)] at hu; cases hu
  have ht' : t < xs.length * 4 := by rw [flat_len] at hl; simpa using hl
  have hi : t / 4 < xs.length := by omega
  have h1 := (h t (by simpa using ht')).1
  rw [get_flatK _ _ _ t (by simpa using ht')] at h1
  have hx : (xs.toArray)[t / 4]! = xs[t / 4] := by rw [getElem!_pos _ _ (by simpa using hi)]; simp
  rw [hx] at h1
  rw [h1]
  have h2 := flat_at (xs.map (·.1)) (t / 4) (t % 4) (by simpa using hi) (by omega)
  rw [show t / 4 * 4 + t % 4 = t by omega, hu] at h2
  simp only [List.getElem_map] at h2
  simp only [id]
  rw [getElem!_def, ← h2]

set_option maxHeartbeats 1000000 in
theorem sort_any (d g cap : Nat) (w0 w : World) (ps : List (VT × Value)) (hs : ∀ p ∈ ps, Sound d w0 p) (hb : Below w0.heap.size w0 w) (hg : w0.heap.size ≤ g) (hlt : g < w.heap.size) (hrow : RowAt w g 0 ps)
    (hfz : ∀ k, k < ps.length * 4 → w.frozen? ⟨g, k, none⟩ = false) (hlen : ps.length ≤ 65536) :
    Calls Try.prog 73 #[.slice (some ⟨g, 0, none⟩) ps.length cap, .func (.func 17) #[] #[]] w fun e w' => e = .returned (.tuple #[]) ∧ ∃ qs, qs.Perm ps ∧ Rises d qs ∧ RowAt w' g 0 qs ∧ (∀ k, k < ps.length * 4 → w'.frozen? ⟨g, k, none⟩ = false) ∧ Below w0.heap.size w0 w' ∧ g < w'.heap.size := by
  have hinh : Inhabited (PV d w0) := ⟨⟨(⟨0, 0, ⟨#[]⟩, []⟩, .slice none 0 0), Lies.atLeast (d := 0) ⟨rfl, none, 0, rfl⟩ d (Nat.zero_le _), (by show 0 ≤ 9223372036854775807; omega)⟩⟩
  obtain ⟨xs, hxs⟩ : ∃ xs : List (PV d w0), xs.map (·.1) = ps := ⟨ps.pmap Subtype.mk hs, by rw [List.map_pmap]; simp⟩
  subst hxs
  have hln : xs.length = (xs.map (·.1)).length := by simp
  have hcon := AnyQ.slices_SortFunc Try.sortV 4 isAgg24 sizeOf24 (fun x : PV d w0 => encP x.1) (fun _ => rfl) (fun x => encP_one x.2) (fun x y => cmpV d x.1.1 y.1.1) (swoV d w0) 17 #[] g 0 cap xs.toArray w eg17 (cmpLays _ hb hg) (holds_of_row xs hrow (by simpa using hfz)) hlt (by simp at hlen ⊢; omega)
  change Calls Try.prog 73 _ _ _ at hcon
  have e1 : xs.toArray.size = (xs.map (·.1)).length := by simp
  rw [e1] at hcon
  refine Calls.mono hcon fun e w' hh => ?_
  obtain ⟨he, d', n, os, hp, hsd, rfl⟩ := hh
  refine ⟨he, d'.toList.map (·.1), ?_, ?_, ?_⟩
  · have hperm := hp.2.2
    have hsz : d'.size = xs.length := by have := hp.1; simpa using this
    rw [show (xs.map (·.1)).length = xs.length by simp] at hperm
    have a1 : (d'.extract 0 xs.length).toList = d'.toList := by rw [← hsz]; simp
    have a2 : (xs.toArray.extract 0 xs.length).toList = xs := by simp
    rw [a1, a2] at hperm
    exact hperm.map _
  · have hsz : d'.size = xs.length := by have := hp.1; simpa using this
    unfold Rises
    rw [List.pairwise_map, List.pairwise_iff_getElem]
    intro i j hi hj hij
    have h1 := hsd i j (Nat.zero_le _) hij (by simp at hj ⊢; omega)
    have gi : d'[i]! = d'.toList[i] := by rw [getElem!_pos d' i (by simpa using hi)]; simp
    have gj : d'[j]! = d'.toList[j] := by rw [getElem!_pos d' j (by simpa using hj)]; simp
    rw [gi, gj] at h1
    simp only [ltOf, decide_eq_false_iff_not, Int.not_lt] at h1
    have := cmpV_turn d d'.toList[i].1.1 d'.toList[j].1.1
    omega
  · have hsz : d'.size = xs.toArray.size := by have := hp.1; simpa using this
    have hH := holdsK_sortWorldK_c (fun x : PV d w0 => encP x.1) 4 w g 0 xs.toArray d' n os (holds_of_row xs hrow (by simpa using hfz)) hlt hsz
    have hH2 : HoldsK (fun x : PV d w0 => encP x.1) 4 (sortWorldK (fun x : PV d w0 => encP x.1) 4 w g 0 n d' os) g 0 d'.toList.toArray := by simpa using hH
    obtain ⟨r1, r2⟩ := row_of_holds d'.toList hH2
    refine ⟨r1, fun k hk => r2 k (by simp at hsz ⊢; simp at hk; omega), below_sortWorld _ _ _ _ _ _ _ _ hb hg, ?_⟩
    exact Nat.lt_of_lt_of_le hlt (size_sortWorldK_c _ _ _ _ _ _ _ _)

end Go.Proofs.Ytajjkkfegcmkkaa

namespace Go.Proofs.Ytajjkkfegcmkkaa
open Go.RowKit

theorem grew_of_grow (W : World) (n : Nat) (os : Array Obj) : Grew W (Go.Sort.grow (W.drewN n) os) := by
  refine ⟨⟨rfl, rfl, rfl, ?_, ?_⟩, ?_⟩
  · simp [Go.Sort.grow, World.drewN]
  · intro k hk
    show (W.heap ++ os)[k]? = _
    rw [Array.getElem?_append, if_pos hk]
  · show W.drawn ≤ W.drawn + n
    omega

theorem quiet_of {f : Nat} {args : Array Value} {W : World} {n : Nat} {os : Array Obj} {v : Value} (h : Calls Try.prog f args (Go.Sort.grow (W.drewN n) os) fun e w' => e = .returned v ∧ Grew (Go.Sort.grow (W.drewN n) os) w') :
    Calls Try.prog f args (Go.Sort.grow (W.drewN n) os) fun e w'' => e = .returned v ∧ ∃ p : GrownBy, w'' = Go.Sort.grow (W.drewN p.n) p.os :=
  Calls.grown_of (Calls.mono h fun _ _ hh => ⟨hh.1, grew_grow hh.2⟩)

theorem mixed_try : Try.prog.follows .mixedOrders = true := by kernel_rfl

/-- Two values in boxes of their own. -/
structure Two (W : World) (n : Nat) (t s : VT) (x y : Value) : Prop where
  a : Boxed W n t.kind t.num t.text x
  b : Boxed W (n + 1) s.kind s.num s.text y

theorem Two.keeps {W W' : World} {n : Nat} {t s : VT} {x y : Value} (h : Two W n t s x y) (hb : Below W.heap.size W W') : Two W' n t s x y := ⟨h.a.keeps hb, h.b.keeps hb⟩

set_option maxHeartbeats 2000000 in
theorem valueLine_C (hsp : Hid (∀ W : World, Calls Try.prog 15 #[] W fun e W' => e = .returned (.bool true) ∧ Below W.heap.size W W'))
    (d : Nat) (t s r : VT) (x y z : Value) (w : World) (hx : Lies d w t.items x) (hy : Lies d w s.items y) (hz : Lies d w r.items z) (hst : t.text.size ≤ 9223372036854775807) (hss : s.text.size ≤ 9223372036854775807) (h1 : ¬ cmpV d t s ≤ 0) :
    Calls Try.prog 5 #[.agg #[.int .i64 t.kind, .int .i64 t.num, .string t.text, x], .agg #[.int .i64 s.kind, .int .i64 s.num, .string s.text, y], .agg #[.int .i64 r.kind, .int .i64 r.num, .string r.text, z]] w fun e w' => e = .returned (.bool true) ∧ Below w.heap.size w w' := by
  obtain ⟨ax, cx, rfl, _⟩ := Lies.slice hx
  obtain ⟨ay, cy, rfl, _⟩ := Lies.slice hy
  obtain ⟨az, cz, rfl, _⟩ := Lies.slice hz
  have hx : Hid (Lies d w t.items (.slice ax t.items.length cx)) := hx
  have hy : Hid (Lies d w s.items (.slice ay s.items.length cy)) := hy
  have hz : Hid (Lies d w r.items (.slice az r.items.length cz)) := hz
  have Hself : Hid _ := cmpV_self d t
  have H3 : Hid (∀ o1 o2 o3 : Obj, Below w.heap.size w (((w.alloc o1).alloc o2).alloc o3)) := fun o1 o2 o3 => ((Grew.two w o1 o2).alloc o3).below
  have HT : Hid (Two (((w.alloc (.cells #[.int .i64 t.kind, .int .i64 t.num, .string t.text, .slice ax t.items.length cx] 24)).alloc (.cells #[.int .i64 s.kind, .int .i64 s.num, .string s.text, .slice ay s.items.length cy] 24)).alloc (.cells #[.int .i64 r.kind, .int .i64 r.num, .string r.text, .slice az r.items.length cz] 24)) w.heap.size t s (.slice ax t.items.length cx) (.slice ay s.items.length cy)) :=
    ⟨((boxed_alloc w _ _ _ _ 24).keeps ((Grew.refl _).alloc _).below).keeps ((Grew.refl _).alloc _).below, by
      have := (boxed_alloc (w.alloc (.cells #[.int .i64 t.kind, .int .i64 t.num, .string t.text, .slice ax t.items.length cx] 24)) s.kind s.num s.text (.slice ay s.items.length cy) 24).keeps ((Grew.refl _).alloc (.cells #[.int .i64 r.kind, .int .i64 r.num, .string r.text, .slice az r.items.length cz] 24)).below
      rw [World.size_alloc] at this
      exact this⟩
  have HC : Hid (Boxed (((w.alloc (.cells #[.int .i64 t.kind, .int .i64 t.num, .string t.text, .slice ax t.items.length cx] 24)).alloc (.cells #[.int .i64 s.kind, .int .i64 s.num, .string s.text, .slice ay s.items.length cy] 24)).alloc (.cells #[.int .i64 r.kind, .int .i64 r.num, .string r.text, .slice az r.items.length cz] 24)) (w.heap.size + 2) r.kind r.num r.text (.slice az r.items.length cz)) := by
    have := boxed_alloc ((w.alloc (.cells #[.int .i64 t.kind, .int .i64 t.num, .string t.text, .slice ax t.items.length cx] 24)).alloc (.cells #[.int .i64 s.kind, .int .i64 s.num, .string s.text, .slice ay s.items.length cy] 24)) r.kind r.num r.text (.slice az r.items.length cz) 24
    rw [World.size_alloc, World.size_alloc] at this
    exact this
  go_enter Try.func5, Try.ntmps5
  go_wp2_with fail
  refine (compare_any d t s _ _ _ (Lies.keeps (H3.out _ _ _) _ _ _ hx.out) (Lies.keeps (H3.out _ _ _) _ _ _ hy.out)).mono ?_
  rintro e W ⟨rfl, hb⟩
  have hbW : Below w.heap.size w W := (H3.out _ _ _).trans (hb.below.mono (by simp; omega))
  have HT1 : Hid (Two W w.heap.size t s (.slice ax t.items.length cx) (.slice ay s.items.length cy)) := HT.out.keeps hb.below
  have HC1 : Hid (Boxed W (w.heap.size + 2) r.kind r.num r.text (.slice az r.items.length cz)) := HC.out.keeps hb.below
  clear hb HT HC H3
  obtain ⟨⟨x0, x1, x2, x3⟩, y0, y1, y2, y3⟩ := HT1.out
  obtain ⟨z0, z1, z2, z3⟩ := HC1.out
  have mixed := mixed_try
  clear z0 z1 z2 z3
  go_wp2_with fail
  have X : Hid (∀ n os, Lies d (Go.Sort.grow (W.drewN n) os) t.items (.slice ax t.items.length cx)) := fun n os => Lies.keeps (grew_of_grow W n os).below _ _ _ (Lies.keeps hbW _ _ _ hx.out)
  have Y : Hid (∀ n os, Lies d (Go.Sort.grow (W.drewN n) os) s.items (.slice ay s.items.length cy)) := fun n os => Lies.keeps (grew_of_grow W n os).below _ _ _ (Lies.keeps hbW _ _ _ hy.out)
  have G : Hid (∀ n os, Below w.heap.size w (Go.Sort.grow (W.drewN n) os)) := fun n os => hbW.trans ((grew_of_grow W n os).below.mono hbW.size)
  have gx0 := cell_grown (cell_lt x0) x0; have gx1 := cell_grown (cell_lt x1) x1; have gx2 := cell_grown (cell_lt x2) x2; have gx3 := cell_grown (cell_lt x3) x3
  have gy0 := cell_grown (cell_lt y0) y0; have gy1 := cell_grown (cell_lt y1) y1; have gy2 := cell_grown (cell_lt y2) y2; have gy3 := cell_grown (cell_lt y3) y3
  clear x0 x1 x2 x3 y0 y1 y2 y3
  cases hra : rightV d t
  · have hck : Hid (∀ n os, Calls Try.prog 13 #[.agg #[.int .i64 t.kind, .int .i64 t.num, .string t.text, .slice ax t.items.length cx]] (Go.Sort.grow (W.drewN n) os) fun e w' => e = .returned (.int .i64 3) ∧ Grew (Go.Sort.grow (W.drewN n) os) w') := fun n os => by
      have h := check_grew d t _ (Go.Sort.grow (W.drewN n) os) (X.out n os) hst
      rw [hra] at h; exact h
    go_quiet_grown (first | (go_at_call 13; exact quiet_of (hck.out _ _)))
    go_wp2_with fail
    have hcm := compare_any d t t _ _ (Go.Sort.grow (W.drewN nq) osq) (X.out nq osq) (X.out nq osq)
    rw [Hself.out] at hcm
    refine Calls.mono hcm ?_
    rintro e wb ⟨rfl, hgb⟩
    have hbb : Below w.heap.size w wb := (G.out nq osq).trans (hgb.below.mono (G.out nq osq).size)
    clear hcm hgb gx0 gx1 gx2 gx3 gy0 gy1 gy2 gy3
    go_wp2_with fail
    refine (hsp.out _).mono ?_
    rintro e wc ⟨rfl, hbc⟩
    go_wp2_with fail
    go_ret
    exact ⟨rfl, hbb.trans (hbc.mono hbb.size)⟩
  · have hcka : Hid (∀ n os, Calls Try.prog 13 #[.agg #[.int .i64 t.kind, .int .i64 t.num, .string t.text, .slice ax t.items.length cx]] (Go.Sort.grow (W.drewN n) os) fun e w' => e = .returned (.int .i64 0) ∧ Grew (Go.Sort.grow (W.drewN n) os) w') := fun n os => by
      have h := check_grew d t _ (Go.Sort.grow (W.drewN n) os) (X.out n os) hst
      rw [hra] at h; exact h
    cases hrb : rightV d s
    · have hckb : Hid (∀ n os, Calls Try.prog 13 #[.agg #[.int .i64 s.kind, .int .i64 s.num, .string s.text, .slice ay s.items.length cy]] (Go.Sort.grow (W.drewN n) os) fun e w' => e = .returned (.int .i64 3) ∧ Grew (Go.Sort.grow (W.drewN n) os) w') := fun n os => by
        have h := check_grew d s _ (Go.Sort.grow (W.drewN n) os) (Y.out n os) hss
        rw [hrb] at h; exact h
      go_quiet_grown (first | (go_at_call_of 13 (VT.kind t); exact quiet_of (hcka.out _ _)) | (go_at_call_of 13 (VT.kind s); exact quiet_of (hckb.out _ _)))
      go_wp2_with fail
      have hcm := compare_any d t t _ _ (Go.Sort.grow (W.drewN nq) osq) (X.out nq osq) (X.out nq osq)
      rw [Hself.out] at hcm
      refine Calls.mono hcm ?_
      rintro e wb ⟨rfl, hgb⟩
      have hbb : Below w.heap.size w wb := (G.out nq osq).trans (hgb.below.mono (G.out nq osq).size)
      clear hcm hgb gx0 gx1 gx2 gx3 gy0 gy1 gy2 gy3
      go_wp2_with fail
      refine (hsp.out _).mono ?_
      rintro e wc ⟨rfl, hbc⟩
      go_wp2_with fail
      go_ret
      exact ⟨rfl, hbb.trans (hbc.mono hbb.size)⟩
    · have hckb : Hid (∀ n os, Calls Try.prog 13 #[.agg #[.int .i64 s.kind, .int .i64 s.num, .string s.text, .slice ay s.items.length cy]] (Go.Sort.grow (W.drewN n) os) fun e w' => e = .returned (.int .i64 0) ∧ Grew (Go.Sort.grow (W.drewN n) os) w') := fun n os => by
        have h := check_grew d s _ (Go.Sort.grow (W.drewN n) os) (Y.out n os) hss
        rw [hrb] at h; exact h
      have hqe : Hid (∀ n os, Calls Try.prog 18 #[.agg #[.int .i64 t.kind, .int .i64 t.num, .string t.text, .slice ax t.items.length cx], .agg #[.int .i64 s.kind, .int .i64 s.num, .string s.text, .slice ay s.items.length cy]] (Go.Sort.grow (W.drewN n) os) fun e w' => e = .returned (.bool (sameV d t s)) ∧ Grew (Go.Sort.grow (W.drewN n) os) w') := fun n os => by
        have h := equal_any d t s _ _ (Go.Sort.grow (W.drewN n) os) (X.out n os) (Y.out n os)
        rw [right_same d t s hra hrb] at h; exact h
      have hqs : Hid (∀ n os, Calls Try.prog 19 #[.agg #[.int .i64 t.kind, .int .i64 t.num, .string t.text, .slice ax t.items.length cx], .agg #[.int .i64 s.kind, .int .i64 s.num, .string s.text, .slice ay s.items.length cy]] (Go.Sort.grow (W.drewN n) os) fun e w' => e = .returned (.bool (sameV d t s)) ∧ Grew (Go.Sort.grow (W.drewN n) os) w') := fun n os => same_any d t s _ _ (Go.Sort.grow (W.drewN n) os) (X.out n os) (Y.out n os)
      go_quiet_grown (first | (go_at_call_of 13 (VT.kind t); exact quiet_of (hcka.out _ _)) | (go_at_call_of 13 (VT.kind s); exact quiet_of (hckb.out _ _)) | (go_at_call 18; exact quiet_of (hqe.out _ _)) | (go_at_call 19; exact quiet_of (hqs.out _ _)))
      have hne : (sameV d t s != sameV d t s) = false := by simp
      go_wp2_with fail
      have hcm := compare_any d t t _ _ (Go.Sort.grow (W.drewN nq) osq) (X.out nq osq) (X.out nq osq)
      rw [Hself.out] at hcm
      refine Calls.mono hcm ?_
      rintro e wb ⟨rfl, hgb⟩
      have hbb : Below w.heap.size w wb := (G.out nq osq).trans (hgb.below.mono (G.out nq osq).size)
      clear hcm hgb gx0 gx1 gx2 gx3 gy0 gy1 gy2 gy3
      go_wp2_with fail
      refine (hsp.out _).mono ?_
      rintro e wc ⟨rfl, hbc⟩
      go_wp2_with fail
      go_ret
      exact ⟨rfl, hbb.trans (hbc.mono hbb.size)⟩

end Go.Proofs.Ytajjkkfegcmkkaa

namespace Go.Proofs.Ytajjkkfegcmkkaa
open Go.RowKit

set_option maxHeartbeats 2000000 in
theorem valueLine_B (hsp : Hid (∀ W : World, Calls Try.prog 15 #[] W fun e W' => e = .returned (.bool true) ∧ Below W.heap.size W W'))
    (d : Nat) (t s r : VT) (x y z : Value) (w : World) (hx : Lies d w t.items x) (hy : Lies d w s.items y) (hz : Lies d w r.items z) (hst : t.text.size ≤ 9223372036854775807) (hss : s.text.size ≤ 9223372036854775807) (h1 : cmpV d t s ≤ 0) (h2 : ¬ cmpV d s r ≤ 0) :
    Calls Try.prog 5 #[.agg #[.int .i64 t.kind, .int .i64 t.num, .string t.text, x], .agg #[.int .i64 s.kind, .int .i64 s.num, .string s.text, y], .agg #[.int .i64 r.kind, .int .i64 r.num, .string r.text, z]] w fun e w' => e = .returned (.bool true) ∧ Below w.heap.size w w' := by
  obtain ⟨ax, cx, rfl, _⟩ := Lies.slice hx
  obtain ⟨ay, cy, rfl, _⟩ := Lies.slice hy
  obtain ⟨az, cz, rfl, _⟩ := Lies.slice hz
  have hx : Hid (Lies d w t.items (.slice ax t.items.length cx)) := hx
  have hy : Hid (Lies d w s.items (.slice ay s.items.length cy)) := hy
  have hz : Hid (Lies d w r.items (.slice az r.items.length cz)) := hz
  have Hself : Hid _ := cmpV_self d t
  have H3 : Hid (∀ o1 o2 o3 : Obj, Below w.heap.size w (((w.alloc o1).alloc o2).alloc o3)) := fun o1 o2 o3 => ((Grew.two w o1 o2).alloc o3).below
  have HT : Hid (Two (((w.alloc (.cells #[.int .i64 t.kind, .int .i64 t.num, .string t.text, .slice ax t.items.length cx] 24)).alloc (.cells #[.int .i64 s.kind, .int .i64 s.num, .string s.text, .slice ay s.items.length cy] 24)).alloc (.cells #[.int .i64 r.kind, .int .i64 r.num, .string r.text, .slice az r.items.length cz] 24)) w.heap.size t s (.slice ax t.items.length cx) (.slice ay s.items.length cy)) :=
    ⟨((boxed_alloc w _ _ _ _ 24).keeps ((Grew.refl _).alloc _).below).keeps ((Grew.refl _).alloc _).below, by
      have := (boxed_alloc (w.alloc (.cells #[.int .i64 t.kind, .int .i64 t.num, .string t.text, .slice ax t.items.length cx] 24)) s.kind s.num s.text (.slice ay s.items.length cy) 24).keeps ((Grew.refl _).alloc (.cells #[.int .i64 r.kind, .int .i64 r.num, .string r.text, .slice az r.items.length cz] 24)).below
      rw [World.size_alloc] at this
      exact this⟩
  have HC : Hid (Boxed (((w.alloc (.cells #[.int .i64 t.kind, .int .i64 t.num, .string t.text, .slice ax t.items.length cx] 24)).alloc (.cells #[.int .i64 s.kind, .int .i64 s.num, .string s.text, .slice ay s.items.length cy] 24)).alloc (.cells #[.int .i64 r.kind, .int .i64 r.num, .string r.text, .slice az r.items.length cz] 24)) (w.heap.size + 2) r.kind r.num r.text (.slice az r.items.length cz)) := by
    have := boxed_alloc ((w.alloc (.cells #[.int .i64 t.kind, .int .i64 t.num, .string t.text, .slice ax t.items.length cx] 24)).alloc (.cells #[.int .i64 s.kind, .int .i64 s.num, .string s.text, .slice ay s.items.length cy] 24)) r.kind r.num r.text (.slice az r.items.length cz) 24
    rw [World.size_alloc, World.size_alloc] at this
    exact this
  go_enter Try.func5, Try.ntmps5
  go_wp2_with fail
  refine (compare_any d t s _ _ _ (Lies.keeps (H3.out _ _ _) _ _ _ hx.out) (Lies.keeps (H3.out _ _ _) _ _ _ hy.out)).mono ?_
  rintro e W ⟨rfl, hb⟩
  have hbW : Below w.heap.size w W := (H3.out _ _ _).trans (hb.below.mono (by simp; omega))
  have HT1 : Hid (Two W w.heap.size t s (.slice ax t.items.length cx) (.slice ay s.items.length cy)) := HT.out.keeps hb.below
  have HC1 : Hid (Boxed W (w.heap.size + 2) r.kind r.num r.text (.slice az r.items.length cz)) := HC.out.keeps hb.below
  clear hb HT HC H3
  obtain ⟨⟨x0, x1, x2, x3⟩, y0, y1, y2, y3⟩ := HT1.out
  obtain ⟨z0, z1, z2, z3⟩ := HC1.out
  have mixed := mixed_try
  go_wp2_with fail
  refine (compare_any d s r _ _ _ (Lies.keeps hbW _ _ _ hy.out) (Lies.keeps hbW _ _ _ hz.out)).mono ?_
  rintro e W2 ⟨rfl, hb⟩
  have hbW2 : Below w.heap.size w W2 := hbW.trans (hb.below.mono hbW.size)
  have HT2 : Hid (Two W2 w.heap.size t s (.slice ax t.items.length cx) (.slice ay s.items.length cy)) := HT1.out.keeps hb.below
  have HC2 : Hid (Boxed W2 (w.heap.size + 2) r.kind r.num r.text (.slice az r.items.length cz)) := HC1.out.keeps hb.below
  clear hb HT1 HC1 x0 x1 x2 x3 y0 y1 y2 y3 z0 z1 z2 z3 hbW
  obtain ⟨⟨x0, x1, x2, x3⟩, y0, y1, y2, y3⟩ := HT2.out
  obtain ⟨z0, z1, z2, z3⟩ := HC2.out
  clear z0 z1 z2 z3
  go_wp2_with fail
  have X : Hid (∀ n os, Lies d (Go.Sort.grow (W2.drewN n) os) t.items (.slice ax t.items.length cx)) := fun n os => Lies.keeps (grew_of_grow W2 n os).below _ _ _ (Lies.keeps hbW2 _ _ _ hx.out)
  have Y : Hid (∀ n os, Lies d (Go.Sort.grow (W2.drewN n) os) s.items (.slice ay s.items.length cy)) := fun n os => Lies.keeps (grew_of_grow W2 n os).below _ _ _ (Lies.keeps hbW2 _ _ _ hy.out)
  have G : Hid (∀ n os, Below w.heap.size w (Go.Sort.grow (W2.drewN n) os)) := fun n os => hbW2.trans ((grew_of_grow W2 n os).below.mono hbW2.size)
  have gx0 := cell_grown (cell_lt x0) x0; have gx1 := cell_grown (cell_lt x1) x1; have gx2 := cell_grown (cell_lt x2) x2; have gx3 := cell_grown (cell_lt x3) x3
  have gy0 := cell_grown (cell_lt y0) y0; have gy1 := cell_grown (cell_lt y1) y1; have gy2 := cell_grown (cell_lt y2) y2; have gy3 := cell_grown (cell_lt y3) y3
  clear x0 x1 x2 x3 y0 y1 y2 y3
  cases hra : rightV d t
  · have hck : Hid (∀ n os, Calls Try.prog 13 #[.agg #[.int .i64 t.kind, .int .i64 t.num, .string t.text, .slice ax t.items.length cx]] (Go.Sort.grow (W2.drewN n) os) fun e w' => e = .returned (.int .i64 3) ∧ Grew (Go.Sort.grow (W2.drewN n) os) w') := fun n os => by
      have h := check_grew d t _ (Go.Sort.grow (W2.drewN n) os) (X.out n os) hst
      rw [hra] at h; exact h
    go_quiet_grown (first | (go_at_call 13; exact quiet_of (hck.out _ _)))
    go_wp2_with fail
    have hcm := compare_any d t t _ _ (Go.Sort.grow (W2.drewN nq) osq) (X.out nq osq) (X.out nq osq)
    rw [Hself.out] at hcm
    refine Calls.mono hcm ?_
    rintro e wb ⟨rfl, hgb⟩
    have hbb : Below w.heap.size w wb := (G.out nq osq).trans (hgb.below.mono (G.out nq osq).size)
    clear hcm hgb gx0 gx1 gx2 gx3 gy0 gy1 gy2 gy3
    go_wp2_with fail
    refine (hsp.out _).mono ?_
    rintro e wc ⟨rfl, hbc⟩
    go_wp2_with fail
    go_ret
    exact ⟨rfl, hbb.trans (hbc.mono hbb.size)⟩
  · have hcka : Hid (∀ n os, Calls Try.prog 13 #[.agg #[.int .i64 t.kind, .int .i64 t.num, .string t.text, .slice ax t.items.length cx]] (Go.Sort.grow (W2.drewN n) os) fun e w' => e = .returned (.int .i64 0) ∧ Grew (Go.Sort.grow (W2.drewN n) os) w') := fun n os => by
      have h := check_grew d t _ (Go.Sort.grow (W2.drewN n) os) (X.out n os) hst
      rw [hra] at h; exact h
    cases hrb : rightV d s
    · have hckb : Hid (∀ n os, Calls Try.prog 13 #[.agg #[.int .i64 s.kind, .int .i64 s.num, .string s.text, .slice ay s.items.length cy]] (Go.Sort.grow (W2.drewN n) os) fun e w' => e = .returned (.int .i64 3) ∧ Grew (Go.Sort.grow (W2.drewN n) os) w') := fun n os => by
        have h := check_grew d s _ (Go.Sort.grow (W2.drewN n) os) (Y.out n os) hss
        rw [hrb] at h; exact h
      go_quiet_grown (first | (go_at_call_of 13 (VT.kind t); exact quiet_of (hcka.out _ _)) | (go_at_call_of 13 (VT.kind s); exact quiet_of (hckb.out _ _)))
      go_wp2_with fail
      have hcm := compare_any d t t _ _ (Go.Sort.grow (W2.drewN nq) osq) (X.out nq osq) (X.out nq osq)
      rw [Hself.out] at hcm
      refine Calls.mono hcm ?_
      rintro e wb ⟨rfl, hgb⟩
      have hbb : Below w.heap.size w wb := (G.out nq osq).trans (hgb.below.mono (G.out nq osq).size)
      clear hcm hgb gx0 gx1 gx2 gx3 gy0 gy1 gy2 gy3
      go_wp2_with fail
      refine (hsp.out _).mono ?_
      rintro e wc ⟨rfl, hbc⟩
      go_wp2_with fail
      go_ret
      exact ⟨rfl, hbb.trans (hbc.mono hbb.size)⟩
    · have hckb : Hid (∀ n os, Calls Try.prog 13 #[.agg #[.int .i64 s.kind, .int .i64 s.num, .string s.text, .slice ay s.items.length cy]] (Go.Sort.grow (W2.drewN n) os) fun e w' => e = .returned (.int .i64 0) ∧ Grew (Go.Sort.grow (W2.drewN n) os) w') := fun n os => by
        have h := check_grew d s _ (Go.Sort.grow (W2.drewN n) os) (Y.out n os) hss
        rw [hrb] at h; exact h
      have hqe : Hid (∀ n os, Calls Try.prog 18 #[.agg #[.int .i64 t.kind, .int .i64 t.num, .string t.text, .slice ax t.items.length cx], .agg #[.int .i64 s.kind, .int .i64 s.num, .string s.text, .slice ay s.items.length cy]] (Go.Sort.grow (W2.drewN n) os) fun e w' => e = .returned (.bool (sameV d t s)) ∧ Grew (Go.Sort.grow (W2.drewN n) os) w') := fun n os => by
        have h := equal_any d t s _ _ (Go.Sort.grow (W2.drewN n) os) (X.out n os) (Y.out n os)
        rw [right_same d t s hra hrb] at h; exact h
      have hqs : Hid (∀ n os, Calls Try.prog 19 #[.agg #[.int .i64 t.kind, .int .i64 t.num, .string t.text, .slice ax t.items.length cx], .agg #[.int .i64 s.kind, .int .i64 s.num, .string s.text, .slice ay s.items.length cy]] (Go.Sort.grow (W2.drewN n) os) fun e w' => e = .returned (.bool (sameV d t s)) ∧ Grew (Go.Sort.grow (W2.drewN n) os) w') := fun n os => same_any d t s _ _ (Go.Sort.grow (W2.drewN n) os) (X.out n os) (Y.out n os)
      go_quiet_grown (first | (go_at_call_of 13 (VT.kind t); exact quiet_of (hcka.out _ _)) | (go_at_call_of 13 (VT.kind s); exact quiet_of (hckb.out _ _)) | (go_at_call 18; exact quiet_of (hqe.out _ _)) | (go_at_call 19; exact quiet_of (hqs.out _ _)))
      have hne : (sameV d t s != sameV d t s) = false := by simp
      go_wp2_with fail
      have hcm := compare_any d t t _ _ (Go.Sort.grow (W2.drewN nq) osq) (X.out nq osq) (X.out nq osq)
      rw [Hself.out] at hcm
      refine Calls.mono hcm ?_
      rintro e wb ⟨rfl, hgb⟩
      have hbb : Below w.heap.size w wb := (G.out nq osq).trans (hgb.below.mono (G.out nq osq).size)
      clear hcm hgb gx0 gx1 gx2 gx3 gy0 gy1 gy2 gy3
      go_wp2_with fail
      refine (hsp.out _).mono ?_
      rintro e wc ⟨rfl, hbc⟩
      go_wp2_with fail
      go_ret
      exact ⟨rfl, hbb.trans (hbc.mono hbb.size)⟩

end Go.Proofs.Ytajjkkfegcmkkaa

namespace Go.Proofs.Ytajjkkfegcmkkaa
open Go.RowKit

set_option maxHeartbeats 2000000 in
theorem valueLine_A (hsp : Hid (∀ W : World, Calls Try.prog 15 #[] W fun e W' => e = .returned (.bool true) ∧ Below W.heap.size W W'))
    (d : Nat) (t s r : VT) (x y z : Value) (w : World) (hx : Lies d w t.items x) (hy : Lies d w s.items y) (hz : Lies d w r.items z) (hst : t.text.size ≤ 9223372036854775807) (hss : s.text.size ≤ 9223372036854775807) (h1 : cmpV d t s ≤ 0) (h2 : cmpV d s r ≤ 0) :
    Calls Try.prog 5 #[.agg #[.int .i64 t.kind, .int .i64 t.num, .string t.text, x], .agg #[.int .i64 s.kind, .int .i64 s.num, .string s.text, y], .agg #[.int .i64 r.kind, .int .i64 r.num, .string r.text, z]] w fun e w' => e = .returned (.bool true) ∧ Below w.heap.size w w' := by
  obtain ⟨ax, cx, rfl, _⟩ := Lies.slice hx
  obtain ⟨ay, cy, rfl, _⟩ := Lies.slice hy
  obtain ⟨az, cz, rfl, _⟩ := Lies.slice hz
  have hx : Hid (Lies d w t.items (.slice ax t.items.length cx)) := hx
  have hy : Hid (Lies d w s.items (.slice ay s.items.length cy)) := hy
  have hz : Hid (Lies d w r.items (.slice az r.items.length cz)) := hz
  have Hg : Hid _ := goes_V d t s r
  have Hself : Hid _ := cmpV_self d t
  have H3 : Hid (∀ o1 o2 o3 : Obj, Below w.heap.size w (((w.alloc o1).alloc o2).alloc o3)) := fun o1 o2 o3 => ((Grew.two w o1 o2).alloc o3).below
  have HT : Hid (Two (((w.alloc (.cells #[.int .i64 t.kind, .int .i64 t.num, .string t.text, .slice ax t.items.length cx] 24)).alloc (.cells #[.int .i64 s.kind, .int .i64 s.num, .string s.text, .slice ay s.items.length cy] 24)).alloc (.cells #[.int .i64 r.kind, .int .i64 r.num, .string r.text, .slice az r.items.length cz] 24)) w.heap.size t s (.slice ax t.items.length cx) (.slice ay s.items.length cy)) :=
    ⟨((boxed_alloc w _ _ _ _ 24).keeps ((Grew.refl _).alloc _).below).keeps ((Grew.refl _).alloc _).below, by
      have := (boxed_alloc (w.alloc (.cells #[.int .i64 t.kind, .int .i64 t.num, .string t.text, .slice ax t.items.length cx] 24)) s.kind s.num s.text (.slice ay s.items.length cy) 24).keeps ((Grew.refl _).alloc (.cells #[.int .i64 r.kind, .int .i64 r.num, .string r.text, .slice az r.items.length cz] 24)).below
      rw [World.size_alloc] at this
      exact this⟩
  have HC : Hid (Boxed (((w.alloc (.cells #[.int .i64 t.kind, .int .i64 t.num, .string t.text, .slice ax t.items.length cx] 24)).alloc (.cells #[.int .i64 s.kind, .int .i64 s.num, .string s.text, .slice ay s.items.length cy] 24)).alloc (.cells #[.int .i64 r.kind, .int .i64 r.num, .string r.text, .slice az r.items.length cz] 24)) (w.heap.size + 2) r.kind r.num r.text (.slice az r.items.length cz)) := by
    have := boxed_alloc ((w.alloc (.cells #[.int .i64 t.kind, .int .i64 t.num, .string t.text, .slice ax t.items.length cx] 24)).alloc (.cells #[.int .i64 s.kind, .int .i64 s.num, .string s.text, .slice ay s.items.length cy] 24)) r.kind r.num r.text (.slice az r.items.length cz) 24
    rw [World.size_alloc, World.size_alloc] at this
    exact this
  go_enter Try.func5, Try.ntmps5
  go_wp2_with fail
  refine (compare_any d t s _ _ _ (Lies.keeps (H3.out _ _ _) _ _ _ hx.out) (Lies.keeps (H3.out _ _ _) _ _ _ hy.out)).mono ?_
  rintro e W ⟨rfl, hb⟩
  have hbW : Below w.heap.size w W := (H3.out _ _ _).trans (hb.below.mono (by simp; omega))
  have HT1 : Hid (Two W w.heap.size t s (.slice ax t.items.length cx) (.slice ay s.items.length cy)) := HT.out.keeps hb.below
  have HC1 : Hid (Boxed W (w.heap.size + 2) r.kind r.num r.text (.slice az r.items.length cz)) := HC.out.keeps hb.below
  clear hb HT HC H3
  obtain ⟨⟨x0, x1, x2, x3⟩, y0, y1, y2, y3⟩ := HT1.out
  obtain ⟨z0, z1, z2, z3⟩ := HC1.out
  have mixed := mixed_try
  go_wp2_with fail
  refine (compare_any d s r _ _ _ (Lies.keeps hbW _ _ _ hy.out) (Lies.keeps hbW _ _ _ hz.out)).mono ?_
  rintro e W2 ⟨rfl, hb⟩
  have hbW2 : Below w.heap.size w W2 := hbW.trans (hb.below.mono hbW.size)
  have HT2 : Hid (Two W2 w.heap.size t s (.slice ax t.items.length cx) (.slice ay s.items.length cy)) := HT1.out.keeps hb.below
  have HC2 : Hid (Boxed W2 (w.heap.size + 2) r.kind r.num r.text (.slice az r.items.length cz)) := HC1.out.keeps hb.below
  clear hb HT1 HC1 x0 x1 x2 x3 y0 y1 y2 y3 z0 z1 z2 z3 hbW
  obtain ⟨⟨x0, x1, x2, x3⟩, y0, y1, y2, y3⟩ := HT2.out
  obtain ⟨z0, z1, z2, z3⟩ := HC2.out
  have h3 : cmpV d t r ≤ 0 := (Hg.out h1 h2).1
  go_wp2_with fail
  refine (compare_any d t r _ _ _ (Lies.keeps hbW2 _ _ _ hx.out) (Lies.keeps hbW2 _ _ _ hz.out)).mono ?_
  rintro e W3 ⟨rfl, hb⟩
  have hbW3 : Below w.heap.size w W3 := hbW2.trans (hb.below.mono hbW2.size)
  have HT3 : Hid (Two W3 w.heap.size t s (.slice ax t.items.length cx) (.slice ay s.items.length cy)) := HT2.out.keeps hb.below
  clear hb HT2 HC2 x0 x1 x2 x3 y0 y1 y2 y3 z0 z1 z2 z3 hbW2
  obtain ⟨⟨x0, x1, x2, x3⟩, y0, y1, y2, y3⟩ := HT3.out
  go_wp2_with fail
  have X : Hid (∀ n os, Lies d (Go.Sort.grow (W3.drewN n) os) t.items (.slice ax t.items.length cx)) := fun n os => Lies.keeps (grew_of_grow W3 n os).below _ _ _ (Lies.keeps hbW3 _ _ _ hx.out)
  have Y : Hid (∀ n os, Lies d (Go.Sort.grow (W3.drewN n) os) s.items (.slice ay s.items.length cy)) := fun n os => Lies.keeps (grew_of_grow W3 n os).below _ _ _ (Lies.keeps hbW3 _ _ _ hy.out)
  have G : Hid (∀ n os, Below w.heap.size w (Go.Sort.grow (W3.drewN n) os)) := fun n os => hbW3.trans ((grew_of_grow W3 n os).below.mono hbW3.size)
  have gx0 := cell_grown (cell_lt x0) x0; have gx1 := cell_grown (cell_lt x1) x1; have gx2 := cell_grown (cell_lt x2) x2; have gx3 := cell_grown (cell_lt x3) x3
  have gy0 := cell_grown (cell_lt y0) y0; have gy1 := cell_grown (cell_lt y1) y1; have gy2 := cell_grown (cell_lt y2) y2; have gy3 := cell_grown (cell_lt y3) y3
  clear x0 x1 x2 x3 y0 y1 y2 y3
  cases hra : rightV d t
  · have hck : Hid (∀ n os, Calls Try.prog 13 #[.agg #[.int .i64 t.kind, .int .i64 t.num, .string t.text, .slice ax t.items.length cx]] (Go.Sort.grow (W3.drewN n) os) fun e w' => e = .returned (.int .i64 3) ∧ Grew (Go.Sort.grow (W3.drewN n) os) w') := fun n os => by
      have h := check_grew d t _ (Go.Sort.grow (W3.drewN n) os) (X.out n os) hst
      rw [hra] at h; exact h
    go_quiet_grown (first | (go_at_call 13; exact quiet_of (hck.out _ _)))
    go_wp2_with fail
    have hcm := compare_any d t t _ _ (Go.Sort.grow (W3.drewN nq) osq) (X.out nq osq) (X.out nq osq)
    rw [Hself.out] at hcm
    refine Calls.mono hcm ?_
    rintro e wb ⟨rfl, hgb⟩
    have hbb : Below w.heap.size w wb := (G.out nq osq).trans (hgb.below.mono (G.out nq osq).size)
    clear hcm hgb gx0 gx1 gx2 gx3 gy0 gy1 gy2 gy3
    go_wp2_with fail
    refine (hsp.out _).mono ?_
    rintro e wc ⟨rfl, hbc⟩
    go_wp2_with fail
    go_ret
    exact ⟨rfl, hbb.trans (hbc.mono hbb.size)⟩
  · have hcka : Hid (∀ n os, Calls Try.prog 13 #[.agg #[.int .i64 t.kind, .int .i64 t.num, .string t.text, .slice ax t.items.length cx]] (Go.Sort.grow (W3.drewN n) os) fun e w' => e = .returned (.int .i64 0) ∧ Grew (Go.Sort.grow (W3.drewN n) os) w') := fun n os => by
      have h := check_grew d t _ (Go.Sort.grow (W3.drewN n) os) (X.out n os) hst
      rw [hra] at h; exact h
    cases hrb : rightV d s
    · have hckb : Hid (∀ n os, Calls Try.prog 13 #[.agg #[.int .i64 s.kind, .int .i64 s.num, .string s.text, .slice ay s.items.length cy]] (Go.Sort.grow (W3.drewN n) os) fun e w' => e = .returned (.int .i64 3) ∧ Grew (Go.Sort.grow (W3.drewN n) os) w') := fun n os => by
        have h := check_grew d s _ (Go.Sort.grow (W3.drewN n) os) (Y.out n os) hss
        rw [hrb] at h; exact h
      go_quiet_grown (first | (go_at_call_of 13 (VT.kind t); exact quiet_of (hcka.out _ _)) | (go_at_call_of 13 (VT.kind s); exact quiet_of (hckb.out _ _)))
      go_wp2_with fail
      have hcm := compare_any d t t _ _ (Go.Sort.grow (W3.drewN nq) osq) (X.out nq osq) (X.out nq osq)
      rw [Hself.out] at hcm
      refine Calls.mono hcm ?_
      rintro e wb ⟨rfl, hgb⟩
      have hbb : Below w.heap.size w wb := (G.out nq osq).trans (hgb.below.mono (G.out nq osq).size)
      clear hcm hgb gx0 gx1 gx2 gx3 gy0 gy1 gy2 gy3
      go_wp2_with fail
      refine (hsp.out _).mono ?_
      rintro e wc ⟨rfl, hbc⟩
      go_wp2_with fail
      go_ret
      exact ⟨rfl, hbb.trans (hbc.mono hbb.size)⟩
    · have hckb : Hid (∀ n os, Calls Try.prog 13 #[.agg #[.int .i64 s.kind, .int .i64 s.num, .string s.text, .slice ay s.items.length cy]] (Go.Sort.grow (W3.drewN n) os) fun e w' => e = .returned (.int .i64 0) ∧ Grew (Go.Sort.grow (W3.drewN n) os) w') := fun n os => by
        have h := check_grew d s _ (Go.Sort.grow (W3.drewN n) os) (Y.out n os) hss
        rw [hrb] at h; exact h
      have hqe : Hid (∀ n os, Calls Try.prog 18 #[.agg #[.int .i64 t.kind, .int .i64 t.num, .string t.text, .slice ax t.items.length cx], .agg #[.int .i64 s.kind, .int .i64 s.num, .string s.text, .slice ay s.items.length cy]] (Go.Sort.grow (W3.drewN n) os) fun e w' => e = .returned (.bool (sameV d t s)) ∧ Grew (Go.Sort.grow (W3.drewN n) os) w') := fun n os => by
        have h := equal_any d t s _ _ (Go.Sort.grow (W3.drewN n) os) (X.out n os) (Y.out n os)
        rw [right_same d t s hra hrb] at h; exact h
      have hqs : Hid (∀ n os, Calls Try.prog 19 #[.agg #[.int .i64 t.kind, .int .i64 t.num, .string t.text, .slice ax t.items.length cx], .agg #[.int .i64 s.kind, .int .i64 s.num, .string s.text, .slice ay s.items.length cy]] (Go.Sort.grow (W3.drewN n) os) fun e w' => e = .returned (.bool (sameV d t s)) ∧ Grew (Go.Sort.grow (W3.drewN n) os) w') := fun n os => same_any d t s _ _ (Go.Sort.grow (W3.drewN n) os) (X.out n os) (Y.out n os)
      go_quiet_grown (first | (go_at_call_of 13 (VT.kind t); exact quiet_of (hcka.out _ _)) | (go_at_call_of 13 (VT.kind s); exact quiet_of (hckb.out _ _)) | (go_at_call 18; exact quiet_of (hqe.out _ _)) | (go_at_call 19; exact quiet_of (hqs.out _ _)))
      have hne : (sameV d t s != sameV d t s) = false := by simp
      go_wp2_with fail
      have hcm := compare_any d t t _ _ (Go.Sort.grow (W3.drewN nq) osq) (X.out nq osq) (X.out nq osq)
      rw [Hself.out] at hcm
      refine Calls.mono hcm ?_
      rintro e wb ⟨rfl, hgb⟩
      have hbb : Below w.heap.size w wb := (G.out nq osq).trans (hgb.below.mono (G.out nq osq).size)
      clear hcm hgb gx0 gx1 gx2 gx3 gy0 gy1 gy2 gy3
      go_wp2_with fail
      refine (hsp.out _).mono ?_
      rintro e wc ⟨rfl, hbc⟩
      go_wp2_with fail
      go_ret
      exact ⟨rfl, hbb.trans (hbc.mono hbb.size)⟩

end Go.Proofs.Ytajjkkfegcmkkaa

namespace Go.Proofs.Ytajjkkfegcmkkaa
open Go.RowKit

theorem valueLine_any (hsp : Hid (∀ W : World, Calls Try.prog 15 #[] W fun e W' => e = .returned (.bool true) ∧ Below W.heap.size W W'))
    (d : Nat) (t s r : VT) (x y z : Value) (w : World) (hx : Lies d w t.items x) (hy : Lies d w s.items y) (hz : Lies d w r.items z) (hst : t.text.size ≤ 9223372036854775807) (hss : s.text.size ≤ 9223372036854775807) :
    Calls Try.prog 5 #[.agg #[.int .i64 t.kind, .int .i64 t.num, .string t.text, x], .agg #[.int .i64 s.kind, .int .i64 s.num, .string s.text, y], .agg #[.int .i64 r.kind, .int .i64 r.num, .string r.text, z]] w fun e w' => e = .returned (.bool true) ∧ Below w.heap.size w w' := by
  by_cases h1 : cmpV d t s ≤ 0
  · by_cases h2 : cmpV d s r ≤ 0
    · exact valueLine_A hsp d t s r x y z w hx hy hz hst hss h1 h2
    · exact valueLine_B hsp d t s r x y z w hx hy hz hst hss h1 h2
  · exact valueLine_C hsp d t s r x y z w hx hy hz hst hss h1

end Go.Proofs.Ytajjkkfegcmkkaa

