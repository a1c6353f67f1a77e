/-
  The document's Reduce.
-/
import Derived.Test.YtdapildmegdjkaaGreatRStpM
namespace Go.Proofs.YtdapildmegdjkaaGreat
open Go.RowKit

theorem stpL_last {d : Nat} {q : Int} {t : VT} {l : List VT} (h : redE d q t l = 0) : (stpL d q t l).length = redN d q t l + 1 ∧ ∃ hi : redN d q t l < (stpL d q t l).length, (stpL d q t l)[redN d q t l] = redT d q t l := by
  unfold stpL redN redT
  rw [if_pos h, if_pos h, if_pos h]
  refine ⟨by simp, by simp, ?_⟩
  unfold lastT
  generalize redS q.toNat t l = m
  rw [List.getElem_cons]
  cases m with
  | nil => rfl
  | cons a b =>
    rw [dif_neg (by simp)]
    rw [List.getLast?_eq_getElem?]
    simp

set_option maxRecDepth 100000 in
set_option maxHeartbeats 8000000 in
theorem rreduce_any (d : Nat) (q : Int) (t : VT) (u : Value) (l : List VT) (v : Value) (w : World) (hu : Lies d w t.items u) (hv : Lies (d + 1) w l v) :
    Calls Tryz.prog 9 #[.int .i64 q, .agg #[.int .i64 t.kind, .int .i64 t.num, .string t.text, u], v] w (RedPost (redT d q t l) (redN d q t l) (redE d q t l) w) := by
  obtain ⟨a, c, rfl, _⟩ := Lies.slice hu
  obtain ⟨a2, c2, rfl, _⟩ := Lies.slice hv
  have HC : Hid (∀ W, Below w.heap.size w W → Calls Tryz.prog 11 #[.int .i64 q, .agg #[.int .i64 t.kind, .int .i64 t.num, .string t.text, .slice a t.items.length c], .slice a2 l.length c2] W (StPostX w (stpL d q t l) (redE d q t l) W)) := fun W hW => rsteps_any d q t _ l _ w W hW hu hv
  have hln : l.length ≤ 65536 ∨ redE d q t l ≠ 0 := by
    by_cases h : redE d q t l = 0
    · exact .inl (listErr_zero (redE_zero h).2.2).1
    · exact .inr h
  have Hln : Hid (redN d q t l ≤ 65536) := by
    show _ ≤ _
    unfold redN
    split
    · rename_i h
      exact Nat.le_trans (redS_len _ _ _) (hln.resolve_right (fun h2 => h2 h))
    · omega
  have hB0 : Below w.heap.size w ((w.alloc (.cells #[.int .i64 t.kind, .int .i64 t.num, .string t.text, .slice a t.items.length c] 24)).alloc (.cells #[.int .i64 0, .int .i64 0, .string ⟨#[]⟩, .slice none 0 0] 24)) := (((Grew.refl w).alloc _).alloc _).below
  have HR0 : Hid (Bx ((w.alloc (.cells #[.int .i64 t.kind, .int .i64 t.num, .string t.text, .slice a t.items.length c] 24)).alloc (.cells #[.int .i64 0, .int .i64 0, .string ⟨#[]⟩, .slice none 0 0] 24)) (w.heap.size + 1) zeroT (.slice none 0 0)) := by
    have := bx_alloc (w.alloc (.cells #[.int .i64 t.kind, .int .i64 t.num, .string t.text, .slice a t.items.length c] 24)) zeroT (.slice none 0 0)
    show Bx _ _ _ _
    simpa using this
  have hS0 : ((w.alloc (.cells #[.int .i64 t.kind, .int .i64 t.num, .string t.text, .slice a t.items.length c] 24)).alloc (.cells #[.int .i64 0, .int .i64 0, .string ⟨#[]⟩, .slice none 0 0] 24)).heap.size = w.heap.size + 2 := by simp
  clear hu hv hln
  generalize t.items.length = lt at *
  generalize l.length = ll at *
  generalize hP : RedPost (redT d q t l) (redN d q t l) (redE d q t l) w = P
  have HP : Hid (RedPost (redT d q t l) (redN d q t l) (redE d q t l) w = P) := hP
  have HL : Hid (redE d q t l = 0 → (stpL d q t l).length = redN d q t l + 1 ∧ ∃ hi : redN d q t l < (stpL d q t l).length, (stpL d q t l)[redN d q t l] = redT d q t l) := stpL_last
  have HN : Hid (redE d q t l ≠ 0 → redT d q t l = nilT ∧ redN d q t l = 0) := fun h => ⟨by unfold redT; rw [if_neg h], by unfold redN; rw [if_neg h]⟩
  clear hP
  generalize redE d q t l = E at *
  generalize redT d q t l = R at *
  generalize redN d q t l = RN at *
  generalize stpL d q t l = SL at *
  go_enter Tryz.func9, Tryz.ntmps9
  go_wp2_with fail
  refine Calls.mono (HC.out _ hB0) ?_
  rintro e w2 ⟨v2, rfl, hl2, hb2⟩
  have hl2 := hl2.mono (Y := fun m => m ≠ w.heap.size + 1) (fun m hm => by rw [hS0] at hm; omega)
  have hb2 : Below ((w.alloc (.cells #[.int .i64 t.kind, .int .i64 t.num, .string t.text, .slice a lt c] 24)).alloc (.cells #[.int .i64 0, .int .i64 0, .string ⟨#[]⟩, .slice none 0 0] 24)).heap.size ((w.alloc (.cells #[.int .i64 t.kind, .int .i64 t.num, .string t.text, .slice a lt c] 24)).alloc (.cells #[.int .i64 0, .int .i64 0, .string ⟨#[]⟩, .slice none 0 0] 24)) w2 := hb2
  have hb3 : Below w.heap.size w w2 := hB0.trans (hb2.mono hB0.size)
  have HR2 : Hid (Bx w2 (w.heap.size + 1) zeroT (.slice none 0 0)) := HR0.out.keeps hb2
  have hs2 : w.heap.size + 2 ≤ w2.heap.size := by have := hb2.size; omega
  clear HR0 hB0 hb2 hS0 HC
  by_cases hE : E = 0
  · subst hE
    obtain ⟨hlen, hi, hget⟩ := HL.out rfl
    obtain ⟨a9, c9, rfl, _, hrow⟩ := hl2
    obtain ⟨b1, o1, rfl, hX1, hall⟩ := hrow (fun e => by rw [e] at hlen; simp at hlen)
    obtain ⟨ux, p0, p1, p2, p3, p4, p5⟩ := hall RN hi
    clear p5
    rw [hget] at p0 p1 p2 p4
    obtain ⟨ax, cx, rfl, _⟩ := LiesX.slice p4
    clear hall hrow hget hi HL HN
    obtain ⟨n, hn⟩ : ∃ n, n = SL.length := ⟨_, rfl⟩
    rw [← hn] at hlen ⊢
    clear hn
    have hn1 : IntKind.i64.wrap ((n : Int) - 1) = (RN : Int) := by have := Hln.out; rw [IntKind.wrap_i64]; omega
    have hn2 : (RN : Int) < (n : Int) := by omega
    have hn3 : RN < n := by omega
    have hn4 : (0 : Int) ≤ (RN : Int) := by omega
    clear hlen
    have Hbx : Hid (Bx (w2.setCells (w.heap.size + 1) 0 (encP (R, .slice ax R.items.length cx))) (w.heap.size + 1) R (.slice ax R.items.length cx)) := HR2.out.put (R, .slice ax R.items.length cx)
    have HZ : Hid (RedPost R RN 0 w (.returned (.tuple #[.agg #[.int .i64 R.kind, .int .i64 R.num, .string R.text, .slice ax R.items.length cx], .int .i64 (RN : Int), .int .i64 0])) (w2.setCells (w.heap.size + 1) 0 (encP (R, .slice ax R.items.length cx)))) := ⟨_, rfl, (LiesX.set (g := w.heap.size + 1) (fun h => h rfl) p4).lies, below_put hb3 (by omega) _⟩
    have n1 : ¬ b1 = w.heap.size + 1 := hX1
    have n2 : ¬ w.heap.size + 1 = b1 := fun e => hX1 e.symm
    clear p4 hX1 hb3
    obtain ⟨y0, y1, y2, y3, g0, g1, g2, g3⟩ := HR2.out
    generalize R.items.length = rl at *
    go_wp2_with fail
    refine bodyPost_ret (v := .tuple #[.agg #[.int .i64 R.kind, .int .i64 R.num, .string R.text, .slice ax rl cx], .int .i64 (RN : Int), .int .i64 0]) ?_ rfl (by rw [← HP.out]; exact HZ.out)
    obtain ⟨q0, q1, q2, q3, _, _, _, _⟩ := Hbx.out
    simp only [encP, World.setCells, Nat.zero_add, Nat.reduceAdd] at q0 q1 q2 q3
    simp [results, Tryz.results9, go_sem, q0, q1, q2, q3]
  · obtain ⟨e1, e2⟩ := HN.out hE
    subst e1 e2
    have Hbx : Hid (Bx (w2.setCells (w.heap.size + 1) 0 (encP (zeroT, .slice none 0 0))) (w.heap.size + 1) zeroT (.slice none 0 0)) := HR2.out.put (zeroT, .slice none 0 0)
    have Hbl : Hid (Below w.heap.size w (w2.setCells (w.heap.size + 1) 0 (encP (zeroT, .slice none 0 0)))) := below_put hb3 (by omega) _
    obtain ⟨y0, y1, y2, y3, g0, g1, g2, g3⟩ := HR2.out
    obtain ⟨a9, c9, rfl, _⟩ := LiesX.slice hl2
    clear hb3 HR2 hl2 HL HN
    generalize SL.length = sl at *
    go_wp2_with fail
    refine bodyPost_ret (v := .tuple #[.agg #[.int .i64 0, .int .i64 0, .string ⟨#[]⟩, .slice none 0 0], .int .i64 0, .int .i64 E]) ?_ rfl (by rw [← HP.out]; exact ⟨_, rfl, (liesX_nil (fun _ => True) 16 _ none 0).lies, Hbl.out⟩)
    obtain ⟨q0, q1, q2, q3, _, _, _, _⟩ := Hbx.out
    simp only [encP, World.setCells, Nat.zero_add, Nat.reduceAdd] at q0 q1 q2 q3
    simp [results, Tryz.results9, go_sem, q0, q1, q2, q3]

end Go.Proofs.YtdapildmegdjkaaGreat

