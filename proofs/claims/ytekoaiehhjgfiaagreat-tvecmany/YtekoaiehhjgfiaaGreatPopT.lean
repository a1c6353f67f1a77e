/-
  Pop of a vector with items, and the blocks in which what is left lies.
-/
import Derived.Test.YtekoaiehhjgfiaaGreatGrownP
import Derived.Test.YtekoaiehhjgfiaaGreatOfP
import Derived.BigRegion
namespace Go.Proofs.YtekoaiehhjgfiaaGreat
open Go.RowKit

theorem VCX.both {X : Nat → Prop} {d : Nat} {w : World} {l : List VT} {p : Value} (h : VCX X d w l p) : VCX (fun b => X b ∧ b < w.heap.size) d w l p := by
  rcases h with h | ⟨b, t, hp, hx, hc, ht⟩
  · exact .inl h
  · refine .inr ⟨b, t, hp, ⟨hx, cell_lt hc⟩, hc, ?_⟩
    rcases ht with ht | ⟨hh, hn, hw⟩
    · exact .inl ht
    · exact .inr ⟨hh, hn.both _ _ _ _, hw⟩

theorem VCX.mono {X Y : Nat → Prop} (hY : ∀ b, X b → Y b) {d : Nat} {w : World} {l : List VT} {p : Value} (h : VCX X d w l p) : VCX Y d w l p := by
  rcases h with h | ⟨b, t, hp, hx, hc, ht⟩
  · exact .inl h
  · refine .inr ⟨b, t, hp, hY b hx, hc, ?_⟩
    rcases ht with ht | ⟨hh, hn, hw⟩
    · exact .inl ht
    · exact .inr ⟨hh, hn.mono hY _ _ _ _, hw⟩

/-- What Pop tells, with the blocks. -/
def PopPostX (X : Nat → Prop) (l : List VT) (w : World) (e : Ending) (w' : World) : Prop :=
  Below w.heap.size w w' ∧ ((l = [] ∧ e = .returned (.tuple #[.pointer none, zeroAgg, .int .i64 6])) ∨
    ∃ m x b v, l = m ++ [x] ∧ e = .returned (.tuple #[.pointer (some ⟨b, 0, none⟩), .agg #[.int .i64 x.kind, .int .i64 x.num, .string x.text, v], .int .i64 0]) ∧ VCX X 16 w' m (.pointer (some ⟨b, 0, none⟩)) ∧ LiesB w.heap.size 16 w' x.items v)

set_option maxRecDepth 100000 in
set_option maxHeartbeats 4000000 in
theorem vpopX_some (X : Nat → Prop) (m : List VT) (x : VT) (p : Value) (w : World) (hX : ∀ b, w.heap.size ≤ b → X b) (hxx : VCX X 16 w (m ++ [x]) p) (hr : rightV 16 x = true) (hlen : m.length + 1 ≤ 65536) : Calls Tryz.prog 98 #[p] w (PopPostX X (m ++ [x]) w) := by
  have h : VC 16 w (m ++ [x]) p := hxx.vc
  have hbz : Below w.heap.size w (w.alloc (.cells #[.int .i64 0, .int .i64 0, .string ⟨#[]⟩, .slice none 0 0] 34)) := ((Grew.refl w).alloc _).below
  have HK : Hid (Blank (w.alloc (.cells #[.int .i64 0, .int .i64 0, .string ⟨#[]⟩, .slice none 0 0] 34)) w.heap.size) := blank_alloc w
  obtain ⟨n, hn⟩ : ∃ n, n = m.length := ⟨_, rfl⟩
  obtain ⟨N, hN⟩ : ∃ N, N = n + 1 := ⟨_, rfl⟩
  have hl : (m ++ [x]).length = N := by rw [List.length_append, hN, hn]; rfl
  have HLn : Hid (∀ V, Below w.heap.size w V → Calls Tryz.prog 14 #[p] V (NumPost N V)) := fun V hV => by
    have := vlen_any 16 (m ++ [x]) p V (h.keeps hV)
    rwa [hl] at this
  have HNt : Hid (∀ V, Below w.heap.size w V → Calls Tryz.prog 99 #[p, .int .i64 (n : Int)] V (NthPost (.inl x) V)) := fun V hV => vnth_some (m ++ [x]) p n x V (h.keeps hV) (by rw [hn]; simp) hr (by omega)
  have HFi : Hid (∀ V, Below w.heap.size w V → w.heap.size < V.heap.size → Calls Tryz.prog 142 #[p, .int .i64 (n : Int)] V (VecX (fun b => b ≠ w.heap.size ∧ X b) 16 (.inl m) V)) := fun V hV hs => by
    have := vfirstX_any (fun b => b ≠ w.heap.size ∧ X b) 16 (m ++ [x]) p (n : Int) V (fun b h => ⟨by omega, hX b (by omega)⟩) ((hxx.both.mono (fun b h => ⟨by omega, h.1⟩)).keeps hV) (by omega)
    rw [if_pos (by rw [hl]; omega), Int.toNat_natCast, hn, List.take_left'  rfl, ← hn] at this
    exact this
  have hwn : IntKind.i64.wrap ((N : Nat) - 1 : Int) = (n : Int) := by rw [IntKind.wrap_i64]; omega
  clear h hr hn hN hl hlen hxx hX
  go_enter Tryz.func98, Tryz.ntmps98
  go_wp2_with fail
  refine (HLn.out _ hbz).mono ?_
  rintro e w1 ⟨rfl, hg1⟩
  have hb1 : Below w.heap.size w w1 := hbz.trans (hg1.mono (by simp))
  have HK1 : Hid (Blank w1 w.heap.size) := HK.out.keeps hg1
  clear HK hg1
  go_wp2_with fail
  refine (HNt.out _ hb1).mono ?_
  rintro e w2 ⟨hg2, v, rfl, hLB⟩
  have hb2 : Below w.heap.size w w2 := hb1.trans (hg2.mono hb1.size)
  have HK2 : Hid (Blank w2 w.heap.size) := HK1.out.keeps hg2
  have hs1 : w.heap.size < w1.heap.size := cell_lt HK1.out.c0
  have hs2 : w.heap.size < w2.heap.size := Nat.lt_of_lt_of_le hs1 hg2.size
  have HLB : Hid (LiesB (w.heap.size + 1) 16 w2 x.items v) := LiesB.lower (by omega) _ _ _ hLB
  clear HNt HK1 hg2 hLB
  obtain ⟨av, cv, rfl, _⟩ := LiesB.slice HLB.out
  have hb3 : Below w2.heap.size w2 (w2.alloc (.cells #[.int .i64 x.kind, .int .i64 x.num, .string x.text, .slice av x.items.length cv] 34)) := ((Grew.refl w2).alloc _).below
  have hbw3 : Below w.heap.size w (w2.alloc (.cells #[.int .i64 x.kind, .int .i64 x.num, .string x.text, .slice av x.items.length cv] 34)) := hb2.trans (hb3.mono hb2.size)
  have HBx : Hid (Bx (w2.alloc (.cells #[.int .i64 x.kind, .int .i64 x.num, .string x.text, .slice av x.items.length cv] 34)) w2.heap.size x (.slice av x.items.length cv)) := bx_alloc w2 x _
  go_wp2_with fail
  refine (HLn.out _ hbw3).mono ?_
  rintro e w4 ⟨rfl, hg4⟩
  have hb4 : Below w.heap.size w w4 := hbw3.trans (hg4.mono hbw3.size)
  have hs4 : w.heap.size < w4.heap.size := Nat.lt_of_lt_of_le hs2 (Nat.le_trans hb3.size hg4.size)
  clear HLn
  go_wp2_with fail
  refine (HFi.out _ hb4 hs4).mono ?_
  rintro e w5 ⟨hg5, b5, rfl, hv5⟩
  have hb5 : Below w.heap.size w w5 := hb4.trans (hg5.mono hb4.size)
  have hb25 : Below w2.heap.size w2 w5 := (hb3.trans (hg4.mono hb3.size)).trans (hg5.mono (Nat.le_trans hb3.size hg4.size))
  have HK5 : Hid (Blank w5 w.heap.size) := HK2.out.keeps hb25
  have HB5 : Hid (Bx w5 w2.heap.size x (.slice av x.items.length cv)) := (HBx.out.keeps hg4).keeps hg5
  have HV5 : Hid (VCX (fun b => b ≠ w.heap.size ∧ X b) 16 w5 m (.pointer (some ⟨b5, 0, none⟩))) := hv5
  have hn1 : ¬ (w.heap.size = w2.heap.size) := by omega
  have hn2 : ¬ (w2.heap.size = w.heap.size) := by omega
  clear HFi HK2 HBx hv5
  obtain ⟨y0, y1, y2, y3, z0, z1, z2, z3⟩ := HK5.out
  obtain ⟨x0, x1, x2, x3, _, _, _, _⟩ := HB5.out
  go_wp2_with fail
  go_region
  have Hbx : Hid _ := HK5.out.put (x, .slice av x.items.length cv)
  have hout : ∀ a v, a.block ≠ w.heap.size → w5.cell? a = some v → (w5.setCells w.heap.size 0 (encP (x, .slice av x.items.length cv))).drew.cell? a = some v := fun a v ha hv => by
    show (w5.setCells w.heap.size 0 (encP (x, .slice av x.items.length cv))).cell? a = some v
    rw [World.cell?_setCells_out w.heap.size _ 0 w5 a (fun e _ => absurd e ha)]
    exact hv
  have HP : Hid (PopPostX X (m ++ [x]) w (.returned (.tuple #[.pointer (some ⟨b5, 0, none⟩), .agg #[.int .i64 x.kind, .int .i64 x.num, .string x.text, .slice av x.items.length cv], .int .i64 0])) (w5.setCells w.heap.size 0 (encP (x, .slice av x.items.length cv))).drew) := by
    refine ⟨(below_put hb5 (Nat.le_refl _) _).drew, .inr ⟨m, x, b5, _, rfl, rfl, ((HV5.out.stays (fun a v hx hv => hout a v hx.1 hv)).mono (fun b h => h.2)), ?_⟩⟩
    have h9 := LiesB.stays (base := w.heap.size + 1) (w' := w5) (fun a v _ hv => ⟨cell_keeps hb25 hv, hb25.frozen (p := a) (cell_lt hv)⟩) _ _ _ HLB.out
    exact LiesB.lower (by omega) _ _ _ (LiesB.stays (base := w.heap.size + 1) (fun a v ha hv => ⟨hout a v (by omega) hv, World.frozen?_setCells ..⟩) _ _ _ h9)
  clear hout HV5
  go_wp2_with fail
  refine bodyPost_ret (v := .tuple #[.pointer (some ⟨b5, 0, none⟩), .agg #[.int .i64 x.kind, .int .i64 x.num, .string x.text, .slice av x.items.length cv], .int .i64 0]) ?_ rfl HP.out
  obtain ⟨q0, q1, q2, q3⟩ := Hbx.out
  simp only [encP, World.setCells, Nat.zero_add, Nat.reduceAdd] at q0 q1 q2 q3
  simp [results, Tryz.results98, go_sem, q0, q1, q2, q3]

theorem vpopX_any (X : Nat → Prop) (l : List VT) (p : Value) (w : World) (hX : ∀ b, w.heap.size ≤ b → X b) (h : VCX X 16 w l p) (hlen : l.length ≤ 65536) (hr : l.all (rightV 16) = true) : Calls Tryz.prog 98 #[p] w (PopPostX X l w) := by
  rcases List.eq_nil_or_concat l with rfl | ⟨m, x, rfl⟩
  · refine Calls.mono (vpop_nil p w h.vc) ?_
    rintro e w' ⟨hb, hp⟩
    refine ⟨hb, .inl ?_⟩
    rcases hp with hp | ⟨m, x, _, _, hm, _⟩
    · exact hp
    · exact absurd (congrArg List.length hm) (by simp)
  · rw [List.concat_eq_append] at *
    rw [List.all_append, Bool.and_eq_true] at hr
    rw [List.length_append] at hlen
    exact vpopX_some X m x p w hX h (by simpa using hr.2) hlen

end Go.Proofs.YtekoaiehhjgfiaaGreat

