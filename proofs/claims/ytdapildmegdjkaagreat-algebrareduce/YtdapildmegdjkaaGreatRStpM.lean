/-
  The document's Steps.
-/
import Derived.Test.YtdapildmegdjkaaGreatRedM
import Derived.Test.YtdapildmegdjkaaGreatRedP
import Derived.Test.YtdapildmegdjkaaGreatTwo
import Derived.Test.YtdapildmegdjkaaGreatVals
import Derived.Deep.RegionHeld3
namespace Go.Proofs.YtdapildmegdjkaaGreat
open Go.RowKit

/-- A list and an error are told. -/
def StPost (r : List VT) (er : Int) (w : World) (e : Ending) (w' : World) : Prop :=
  ∃ v, e = .returned (.tuple #[v, .int .i64 er]) ∧ Lies 17 w' r v ∧ Below w.heap.size w w'

def stpL (d : Nat) (q : Int) (t : VT) (l : List VT) : List VT := if redE d q t l = 0 then t :: redS q.toNat t l else []

set_option maxRecDepth 100000 in
set_option maxHeartbeats 8000000 in
theorem stepsF_any (d : Nat) (q : Int) (t : VT) (u : Value) (l : List VT) (v : Value) (w : World) (hu : Lies d w t.items u) (hs : t.text.size ≤ 9223372036854775807) (hv : Lies (d + 1) w l v) :
    Calls Tryz.prog 10 #[.int .i64 q, .agg #[.int .i64 t.kind, .int .i64 t.num, .string t.text, u], v] w (StPost (stpL d q t l) (redE d q t l) w) := by
  obtain ⟨a, c, rfl, _⟩ := Lies.slice hu
  obtain ⟨a2, c2, rfl, _⟩ := Lies.slice hv
  have HC : Hid (∀ W, Below w.heap.size w W → Calls Tryz.prog 28 #[.int .i64 q, .agg #[.int .i64 t.kind, .int .i64 t.num, .string t.text, .slice a t.items.length c], .slice a2 l.length c2] W fun e w' => e = .returned (.int .i64 (redE d q t l)) ∧ Below W.heap.size W w') := fun W hW => checkRed_any d q t _ l _ W (Lies.keeps hW _ _ _ hu) hs (Lies.keeps hW _ _ _ hv)
  have HU : Hid (Lies d w t.items (.slice a t.items.length c)) := hu
  have HV : Hid (Lies (d + 1) w l (.slice a2 l.length c2)) := hv
  have hB0 : Below w.heap.size w (w.alloc (.cells #[.int .i64 t.kind, .int .i64 t.num, .string t.text, .slice a t.items.length c] 24)) := ((Grew.refl w).alloc _).below
  have HX0 : Hid (Bx (w.alloc (.cells #[.int .i64 t.kind, .int .i64 t.num, .string t.text, .slice a t.items.length c] 24)) w.heap.size t (.slice a t.items.length c)) := bx_alloc w t _
  have hS0 : (w.alloc (.cells #[.int .i64 t.kind, .int .i64 t.num, .string t.text, .slice a t.items.length c] 24)).heap.size = w.heap.size + 1 := by simp
  have Hsz : Hid (t.text.size ≤ 9223372036854775807) := hs
  clear hu hv hs
  generalize hlt : t.items.length = lt at *
  have Hlt : Hid (t.items.length = lt) := hlt
  generalize hll : l.length = ll at *
  have Hll : Hid (l.length = ll) := hll
  clear hlt hll
  generalize hP : StPost (stpL d q t l) (redE d q t l) w = P
  have HP : Hid (StPost (stpL d q t l) (redE d q t l) w = P) := hP
  clear hP
  go_enter Tryz.func10, Tryz.ntmps10
  go_wp2_with fail
  refine Calls.mono (HC.out _ hB0) ?_
  rintro e w2 ⟨rfl, hb2⟩
  have hb2 : Below (w.alloc (.cells #[.int .i64 t.kind, .int .i64 t.num, .string t.text, .slice a lt c] 24)).heap.size (w.alloc (.cells #[.int .i64 t.kind, .int .i64 t.num, .string t.text, .slice a lt c] 24)) w2 := hb2
  have hb3 : Below w.heap.size w w2 := hB0.trans (hb2.mono hB0.size)
  have HX2 : Hid (Bx w2 w.heap.size t (.slice a lt c)) := HX0.out.keeps hb2
  have hs2 : w.heap.size + 1 ≤ w2.heap.size := by have := hb2.size; omega
  clear HX0 hB0 hb2 hS0 HC
  by_cases hE : redE d q t l = 0
  · have hz := redE_zero hE
    have e1 : stpL d q t l = t :: redS q.toNat t l := by unfold stpL; rw [if_pos hE]
    rw [e1, hE] at HP
    rw [hE]
    clear hE e1
    obtain ⟨Q, hQ, hQ8⟩ : ∃ Q : Nat, q = Q ∧ Q < 8 := ⟨q.toNat, by omega, by omega⟩
    subst hQ
    rw [show ((Q : Int)).toNat = Q by simp] at HP
    have hct := canon HU.out hz.2.1
    have hcl := canonL25 HV.out hz.2.2
    have HCp : Hid (Calls Tryz.prog 29 #[.agg #[.int .i64 t.kind, .int .i64 t.num, .string t.text, .slice a lt c]] w2 (CopyPost 16 t w2)) := copy_right t _ w2 (Lies.keeps hb3 _ _ _ hct.1) hct.2
    have HT16 : Hid (LiesX (fun n => n < w.heap.size) 16 w t.items (.slice a lt c) ∧ rightV 16 t = true) := ⟨LiesX.of_lies hct.1, hct.2⟩
    have HL17 : Hid (LiesX (fun n => n < w.heap.size) 17 w l (.slice a2 ll c2) ∧ l.length ≤ 65536 ∧ ∀ x ∈ l, rightV 16 x = true) := ⟨LiesX.of_lies hcl.1, hcl.2.1, fun x hx => (hcl.2.2 x hx).1⟩
    clear hz hct hcl HU HV
    obtain ⟨x0, x1, x2, x3, _, _, _, _⟩ := HX2.out
    go_wp2_with fail
    refine Calls.mono HCp.out ?_
    rintro e w3 ⟨v3, rfl, hl3, hb4⟩
    obtain ⟨a3, c3, rfl, _⟩ := LiesB.slice hl3
    rw [Hlt.out] at hl3 ⊢
    have hb5 : Below w.heap.size w w3 := hb3.trans (hb4.mono hb3.size)
    have HX3 : Hid (Bx w3 w.heap.size t (.slice a lt c)) := HX2.out.keeps hb4
    have hs3 : w.heap.size + 1 ≤ w3.heap.size := Nat.le_trans hs2 hb4.size
    have HL3 : Hid (LiesX (fun n => w.heap.size + 1 ≤ n ∧ n < w3.heap.size) 16 w3 t.items (.slice a3 lt c3)) := (LiesX.of_b hl3).both.mono (fun n hn => ⟨by omega, hn.2⟩)
    clear hl3 hb4 hb3 HX2 HCp x0 x1 x2 x3 hs2
    have hbA : Below w3.heap.size w3 ((w3.alloc (.cells #[.int .i64 t.kind, .int .i64 t.num, .string t.text, .slice a3 lt c3] 24)).alloc (.cells #[.slice (some ⟨w3.heap.size, 0, none⟩) 1 1] 22)) := (((Grew.refl w3).alloc _).alloc _).below
    have hb6 : Below w.heap.size w ((w3.alloc (.cells #[.int .i64 t.kind, .int .i64 t.num, .string t.text, .slice a3 lt c3] 24)).alloc (.cells #[.slice (some ⟨w3.heap.size, 0, none⟩) 1 1] 22)) := hb5.trans (hbA.mono hb5.size)
    have hsA : ((w3.alloc (.cells #[.int .i64 t.kind, .int .i64 t.num, .string t.text, .slice a3 lt c3] 24)).alloc (.cells #[.slice (some ⟨w3.heap.size, 0, none⟩) 1 1] 22)).heap.size = w3.heap.size + 2 := by simp
    have HXA : Hid (Bx ((w3.alloc (.cells #[.int .i64 t.kind, .int .i64 t.num, .string t.text, .slice a3 lt c3] 24)).alloc (.cells #[.slice (some ⟨w3.heap.size, 0, none⟩) 1 1] 22)) w.heap.size t (.slice a lt c)) := HX3.out.keeps hbA
    have hownA : (w3.alloc (.cells #[.int .i64 t.kind, .int .i64 t.num, .string t.text, .slice a3 lt c3] 24)).ownsRow (w.heap.size + 1) 24 4 (.slice (some ⟨w3.heap.size, 0, none⟩) 1 1) 1 [.int .i64 t.kind, .int .i64 t.num, .string t.text, .slice a3 lt c3] :=
      ⟨rfl, .inr ⟨w3.heap.size, 1, #[.int .i64 t.kind, .int .i64 t.num, .string t.text, .slice a3 lt c3], rfl, hs3, heap_alloc_new w3 _, by omega, by unfold maxLen; omega, rfl, rfl⟩⟩
    have HJ : Hid (JSt (w3.heap.size + 1) (w.heap.size + 1) (w.heap.size + 1) (fun n => n = w3.heap.size + 2) t (fun n => n < w.heap.size + 1) [] ((w3.alloc (.cells #[.int .i64 t.kind, .int .i64 t.num, .string t.text, .slice a3 lt c3] 24)).alloc (.cells #[.slice (some ⟨w3.heap.size, 0, none⟩) 1 1] 22))) := by
      refine ⟨some ⟨w3.heap.size, 0, none⟩, 1, [(t, .slice a3 lt c3)], rfl, ?_, by simp, by simp, by omega, by omega, fun g hg => ?_, fun p hp => ?_, by omega, fun n hn => by omega⟩
      · exact hownA.alloc _
      · have : w3.heap.size = g := by simpa [Value.ownBlock] using hg
        exact ⟨by omega, by omega, by omega⟩
      · have : p = (t, .slice a3 lt c3) := by simpa using hp
        subst this
        exact ⟨(HL3.out.keeps hbA).mono (fun n hn => ⟨by omega, fun e => by simp [Value.ownBlock] at e; omega, by omega, by omega⟩), Hsz.out⟩
    have HRd : Hid (Calls Tryz.prog 30 #[.int .i64 (Q : Int), .agg #[.int .i64 t.kind, .int .i64 t.num, .string t.text, .slice a lt c], .slice a2 ll c2, .func (.func 32) #[] #[.pointer (some ⟨w3.heap.size + 1, 0, none⟩)]] ((w3.alloc (.cells #[.int .i64 t.kind, .int .i64 t.num, .string t.text, .slice a3 lt c3] 24)).alloc (.cells #[.slice (some ⟨w3.heap.size, 0, none⟩) 1 1] 22)) (RdPost (JSt (w3.heap.size + 1) (w.heap.size + 1) (w.heap.size + 1) (fun n => n = w3.heap.size + 2) t) (fun n => n < w.heap.size + 1) (redS Q t l) ((w3.alloc (.cells #[.int .i64 t.kind, .int .i64 t.num, .string t.text, .slice a3 lt c3] 24)).alloc (.cells #[.slice (some ⟨w3.heap.size, 0, none⟩) 1 1] 22)))) := by
      have h := reduce_any (JSt (w3.heap.size + 1) (w.heap.size + 1) (w.heap.size + 1) (fun n => n = w3.heap.size + 2) t) 32 #[.pointer (some ⟨w3.heap.size + 1, 0, none⟩)] egS1 Q hQ8 t a c l a2 c2 (fun n => n < w.heap.size + 1) ((w3.alloc (.cells #[.int .i64 t.kind, .int .i64 t.num, .string t.text, .slice a3 lt c3] 24)).alloc (.cells #[.slice (some ⟨w3.heap.size, 0, none⟩) 1 1] 22)) (by rw [hsA]; exact jst_rdr _ _ _ _ _)
        (fun bar l x u w' h1 h2 h3 h4 h5 => jst_found _ _ (w.heap.size + 1) (w3.heap.size + 2) t bar l x u w' h1 (by rw [hsA] at h2; exact h2) h3 (by rw [hsA] at h4; exact h4) (by omega) (Nat.le_trans (right_size h5) (by omega))) HJ.out (by rw [Hlt.out]; exact (HT16.out.1.keeps hb6).mono (fun n hn => by omega)) HT16.out.2 (by rw [Hll.out]; exact (HL17.out.1.keeps hb6).mono (fun n hn => by omega)) HL17.out.2.2 HL17.out.2.1
      rw [Hlt.out, Hll.out] at h
      exact h
    have Hn : Hid ((redS Q t l).length ≤ 65536) := Nat.le_trans (redS_len Q l t) HL17.out.2.1
    clear HJ HX3 HL3 hbA HT16 HL17 hownA
    obtain ⟨x0, x1, x2, x3, _, _, _, _⟩ := HXA.out
    go_wp2_with fail
    refine Calls.mono HRd.out ?_
    rintro e w7 ⟨rfl, hk7, a7, c7, ps, hps, hown7, hc7, hf7, _, _, _, hp7, _⟩
    have HZ : Hid (StPost (t :: redS Q t l) 0 w (.returned (.tuple #[.slice a7 ((redS Q t l).length + 1) c7, .int .i64 0])) w7) := by
      refine ⟨_, rfl, ?_, hb6.trans (hk7.below (fun j hj h => h (by omega)) hb6.size)⟩
      have hlen : (redS Q t l).length + 1 = ps.length := by
        have := congrArg List.length hps
        simpa using this.symm
      have h := own_liesX (X := fun _ => True) (d := 16) hown7 hlen (fun _ _ => trivial) (fun p hp => ⟨(hp7 p hp).1.mono (fun _ _ => trivial), (hp7 p hp).2⟩) (by have := Hn.out; omega)
      rw [hps] at h
      exact h.lies
    generalize (redS Q t l).length = RN at *
    clear hps hown7 hp7 hk7 HRd HXA x0 x1 x2 x3 hb6 hsA hb5 Hn
    go_wp2_with fail
    rw [← HP.out]
    exact HZ.out
  · have e1 : stpL d q t l = [] := by unfold stpL; rw [if_neg hE]
    rw [e1] at HP
    clear e1 HU HV
    generalize redE d q t l = E at *
    go_wp2_with fail
    rw [← HP.out]
    exact ⟨_, rfl, (liesX_nil (fun _ => True) 17 _ none 0).lies, hb3⟩

end Go.Proofs.YtdapildmegdjkaaGreat

namespace Go.Proofs.YtdapildmegdjkaaGreat
open Go.RowKit

set_option maxRecDepth 100000 in
set_option maxHeartbeats 4000000 in
theorem rreduced_any (d : Nat) (q : Int) (t : VT) (u : Value) (l : List VT) (v : Value) (w : World) (hu : Lies d w t.items u) (hv : Lies (d + 1) w l v) :
    Calls Tryz.prog 33 #[.int .i64 q, .agg #[.int .i64 t.kind, .int .i64 t.num, .string t.text, u], v] w fun e w' => e = .returned (.int .i64 (redE d q t l)) ∧ Below w.heap.size w w' := by
  obtain ⟨a, c, rfl, _⟩ := Lies.slice hu
  obtain ⟨a2, c2, rfl, _⟩ := Lies.slice hv
  have HR : Hid (∀ W, Below w.heap.size w W → Calls Tryz.prog 59 #[.agg #[.int .i64 t.kind, .int .i64 t.num, .string t.text, .slice a t.items.length c]] W fun e w' => e = .returned (.bool (rightV d t)) ∧ Below W.heap.size W w') := fun W hW => right_any d t _ W (Lies.keeps hW _ _ _ hu)
  have HC : Hid (∀ W, Below w.heap.size w W → Calls Tryz.prog 49 #[.slice a2 l.length c2] W fun e w' => e = .returned (.int .i64 (listErr d l)) ∧ Below W.heap.size W w') := fun W hW => listed_any d l _ W (Lies.keeps hW _ _ _ hv)
  have hal : Below w.heap.size w (w.alloc (.cells #[.int .i64 t.kind, .int .i64 t.num, .string t.text, .slice a t.items.length c] 24)) := ((Grew.refl w).alloc _).below
  have HX0 : Hid (Bx (w.alloc (.cells #[.int .i64 t.kind, .int .i64 t.num, .string t.text, .slice a t.items.length c] 24)) w.heap.size t (.slice a t.items.length c)) := bx_alloc w t _
  clear hu hv
  generalize t.items.length = lt at *
  generalize l.length = ll at *
  have HK : Hid (∀ W, Calls Tryz.prog 74 #[.int .i64 q] W fun e w' => e = .returned (.bool (k5B q)) ∧ w' = W) := fun W => rkind5_any q W
  generalize hE : redE d q t l = E
  have HE : Hid (redE d q t l = E) := hE
  clear hE
  unfold redE at HE
  go_enter Tryz.func33, Tryz.ntmps33
  go_wp2_with fail
  refine Calls.mono (HK.out _) ?_
  rintro e w9 ⟨rfl, hw9⟩
  subst hw9
  by_cases hq : q < 0 ∨ 8 ≤ q
  · rw [k5B_false (by omega)]
    rw [if_pos hq] at HE
    clear hq HR HC HK
    go_wp2_with fail
    go_ret
    exact ⟨by rw [← HE.out]; rfl, hal⟩
  · rw [k5B_true (by omega) (by omega)]
    rw [if_neg hq] at HE
    obtain ⟨x0, x1, x2, x3, _, _, _, _⟩ := HX0.out
    clear hq HK
    go_wp2_with fail
    refine Calls.mono (HR.out _ hal) ?_
    rintro e w2 ⟨rfl, hb2⟩
    have hb3 : Below w.heap.size w w2 := hal.trans (hb2.mono (by simp))
    clear HR hb2 hal x0 x1 x2 x3 HX0
    cases hr : rightV d t
    · rw [hr] at HE
      go_wp2_with fail
      go_ret
      exact ⟨by rw [← HE.out]; rfl, hb3⟩
    · rw [hr] at HE
      go_wp2_with fail
      refine Calls.mono (HC.out _ hb3) ?_
      rintro e w5 ⟨rfl, hb5⟩
      have hb6 : Below w.heap.size w w5 := hb3.trans (hb5.mono hb3.size)
      clear hb5 hb3 HC
      go_wp2_with fail
      go_ret
      exact ⟨by rw [← HE.out]; rfl, hb6⟩

/-- A list and an error are told; the list lies in what was there in w0, or in new memory. -/
def StPostX (w0 : World) (r : List VT) (er : Int) (w : World) (e : Ending) (w' : World) : Prop :=
  ∃ v, e = .returned (.tuple #[v, .int .i64 er]) ∧ LiesX (fun m => m < w0.heap.size ∨ w.heap.size ≤ m) 17 w' r v ∧ Below w.heap.size w w'

/-- The document's Steps under way. -/
structure RS25 (N0 : Nat) (q : Nat) (t : VT) (l : List VT) (w : World) (j : Nat) (k : Nat) (g cap : Nat) (tt : VT) (u : Value) (wr : World) : Prop where
  ex : ∃ (ps : List (VT × Value)), ps.length = k ∧ wr.ownsRow w.heap.size 24 4 (.slice (some ⟨g, 0, none⟩) (k + 1) cap) (k + 1) ((ps ++ [(tt, u)]).flatMap encP) ∧ (∀ p ∈ ps ++ [(tt, u)], LiesX (fun m => m ≠ g ∧ (m < N0 ∨ w.heap.size ≤ m)) 16 wr p.1.items p.2 ∧ rightV 16 p.1 = true) ∧ ∃ cs, (ps ++ [(tt, u)]).map (·.1) = t :: cs ∧ redS q t l = cs ++ redS q tt (l.drop j)
  below : Below w.heap.size w wr
  le : k ≤ j

set_option maxRecDepth 100000 in
set_option maxHeartbeats 8000000 in
theorem rsteps_any (d : Nat) (q : Int) (t : VT) (u : Value) (l : List VT) (v : Value) (w0 w : World) (hb0 : Below w0.heap.size w0 w) (hu0 : Lies d w0 t.items u) (hv0 : Lies (d + 1) w0 l v) :
    Calls Tryz.prog 11 #[.int .i64 q, .agg #[.int .i64 t.kind, .int .i64 t.num, .string t.text, u], v] w (StPostX w0 (stpL d q t l) (redE d q t l) w) := by
  have hu := Lies.keeps hb0 _ _ _ hu0
  have hv := Lies.keeps hb0 _ _ _ hv0
  obtain ⟨a, c, rfl, _⟩ := Lies.slice hu
  obtain ⟨a2, c2, rfl, _⟩ := Lies.slice hv
  have HC : Hid (∀ W, Below w.heap.size w W → Calls Tryz.prog 33 #[.int .i64 q, .agg #[.int .i64 t.kind, .int .i64 t.num, .string t.text, .slice a t.items.length c], .slice a2 l.length c2] W fun e w' => e = .returned (.int .i64 (redE d q t l)) ∧ Below W.heap.size W w') := fun W hW => rreduced_any d q t _ l _ W (Lies.keeps hW _ _ _ hu) (Lies.keeps hW _ _ _ hv)
  have HU : Hid (Lies d w0 t.items (.slice a t.items.length c)) := hu0
  have HV : Hid (Lies (d + 1) w0 l (.slice a2 l.length c2)) := hv0
  have hN0 : w0.heap.size ≤ w.heap.size := hb0.size
  have Hb0 : Hid (Below w0.heap.size w0 w) := hb0
  have hB0 : Below w.heap.size w (w.alloc (.cells #[.int .i64 t.kind, .int .i64 t.num, .string t.text, .slice a t.items.length c] 24)) := ((Grew.refl w).alloc _).below
  have HX0 : Hid (Bx (w.alloc (.cells #[.int .i64 t.kind, .int .i64 t.num, .string t.text, .slice a t.items.length c] 24)) w.heap.size t (.slice a t.items.length c)) := bx_alloc w t _
  have hS0 : (w.alloc (.cells #[.int .i64 t.kind, .int .i64 t.num, .string t.text, .slice a t.items.length c] 24)).heap.size = w.heap.size + 1 := by simp
  obtain ⟨i0, hi, hz0, hz1, hz2⟩ := info24
  have Hi : Hid _ := hi; have Hz0 : Hid _ := hz0; have Hz1 : Hid _ := hz1; have Hz2 : Hid _ := hz2
  clear hu hv hi hz0 hz1 hz2 hu0 hv0 hb0
  generalize hlt : t.items.length = lt at *
  have Hlt : Hid (t.items.length = lt) := hlt
  generalize hll : l.length = ll at *
  have Hll : Hid (l.length = ll) := hll
  clear hlt hll
  generalize hP : StPostX w0 (stpL d q t l) (redE d q t l) w = P
  have HP : Hid (StPostX w0 (stpL d q t l) (redE d q t l) w = P) := hP
  clear hP
  go_enter Tryz.func11, Tryz.ntmps11
  go_wp2_with fail
  refine Calls.mono (HC.out _ hB0) ?_
  rintro e w2 ⟨rfl, hb2⟩
  have hb2 : Below (w.alloc (.cells #[.int .i64 t.kind, .int .i64 t.num, .string t.text, .slice a lt c] 24)).heap.size (w.alloc (.cells #[.int .i64 t.kind, .int .i64 t.num, .string t.text, .slice a lt c] 24)) w2 := hb2
  have hb3 : Below w.heap.size w w2 := hB0.trans (hb2.mono hB0.size)
  have HX2 : Hid (Bx w2 w.heap.size t (.slice a lt c)) := HX0.out.keeps hb2
  have hs2 : w.heap.size + 1 ≤ w2.heap.size := by have := hb2.size; omega
  clear HX0 hB0 hb2 hS0 HC
  by_cases hE : redE d q t l = 0
  · have hz := redE_zero hE
    have e1 : stpL d q t l = t :: redS q.toNat t l := by unfold stpL; rw [if_pos hE]
    rw [e1, hE] at HP
    rw [hE]
    clear hE e1
    obtain ⟨Q, hQ, hQ8⟩ : ∃ Q : Nat, q = Q ∧ Q < 8 := ⟨q.toNat, by omega, by omega⟩
    subst hQ
    rw [show ((Q : Int)).toNat = Q by simp] at HP
    have hct := canon HU.out hz.2.1
    have hcl := canonL25 HV.out hz.2.2
    have HL17 : Hid (LiesX (fun n => n < w0.heap.size) 17 w l (.slice a2 ll c2) ∧ l.length ≤ 65536 ∧ ∀ x ∈ l, rightV 16 x = true) := ⟨(LiesX.of_lies hcl.1).keeps Hb0.out, hcl.2.1, fun x hx => (hcl.2.2 x hx).1⟩
    have hbA : Below w2.heap.size w2 (w2.alloc (.cells #[.int .i64 t.kind, .int .i64 t.num, .string t.text, .slice a lt c] 24)) := ((Grew.refl w2).alloc _).below
    have HS : Hid (RS25 w0.heap.size Q t l w 0 0 w2.heap.size 1 t (.slice a lt c) (w2.alloc (.cells #[.int .i64 t.kind, .int .i64 t.num, .string t.text, .slice a lt c] 24))) := by
      have hb6 := hb3.trans (hbA.mono hb3.size)
      refine ⟨⟨[], rfl, ⟨rfl, .inr ⟨w2.heap.size, 1, #[.int .i64 t.kind, .int .i64 t.num, .string t.text, .slice a lt c], rfl, by omega, heap_alloc_new w2 _, by omega, by unfold maxLen; omega, rfl, rfl⟩⟩, fun p hp => ?_, [], rfl, by simp⟩, hb6, Nat.le_refl _⟩
      have : p = (t, .slice a lt c) := by simpa using hp
      subst this
      exact ⟨(((LiesX.of_lies hct.1).keeps Hb0.out).keeps hb6).mono (fun n hn => ⟨by omega, .inl hn⟩), hct.2⟩
    clear hz hct hcl HU HV hbA hb3
    obtain ⟨x0, x1, x2, x3, _, _, _, _⟩ := HX2.out
    have Hlen : Hid (ll ≤ 65536) := by have := HL17.out.2.1; rw [Hll.out] at this; exact this
    go_wp2_with fail
    go_loopg [9, 25] ll (fun z v9 v25 wr => ∃ (j k N g cap : Nat) (tt : VT) (au : Option Addr) (lu cu : Nat), v9 = .slice (some ⟨g, 0, none⟩) N cap ∧ v25 = .int .i64 (j : Int) ∧ z = ll - j ∧ j ≤ ll ∧ Hid (N = k + 1 ∧ RS25 w0.heap.size Q t l w j k g cap tt (.slice au lu cu) wr))
    case atStart => exact ⟨0, 0, 1, w2.heap.size, 1, t, a, lt, c, rfl, rfl, by omega, by omega, rfl, HS.out⟩
    case round =>
      obtain ⟨j, k, N, g, cap, tt, au, lu, cu, rfl, rfl, hgk, hj, HI⟩ := hrel
      have Hg : Hid (gk = ll - j) := hgk
      clear hgk HS x0 x1 x2 x3 HX2 hs2
      have hwr : w.heap.size ≤ wr.heap.size := HI.out.2.below.size
      by_cases hlt : j < ll
      · have hji : (j : Int) < (ll : Int) := by omega
        have hjl : j < l.length := by rw [Hll.out]; exact hlt
        have hlw := HL17.out.1.keeps HI.out.2.below
        obtain ⟨al', cl', he, _, hrow⟩ := hlw
        injection he with e1 e2 e3
        subst e1 e3
        clear e2
        obtain ⟨b1, o1, rfl, hX1, hall⟩ := hrow (by intro e; rw [e] at hjl; simp at hjl)
        obtain ⟨ux, p0, p1, p2, p3, p4, _⟩ := hall j hjl
        clear hall hrow
        obtain ⟨ax, cx, rfl, _⟩ := LiesX.slice p4
        have Hx : Hid (LiesX (fun n => n < w0.heap.size) 16 wr l[j].items (.slice ax l[j].items.length cx) ∧ rightV 16 l[j] = true ∧ l.drop j = l[j] :: l.drop (j + 1)) := ⟨p4, HL17.out.2.2 _ (List.getElem_mem hjl), List.drop_eq_getElem_cons hjl⟩
        clear p4
        generalize l[j] = x at *
        have hb1 : b1 < wr.heap.size := cell_lt p0
        obtain ⟨ps, hpl, hown, hps, cs, hcs, heq⟩ := HI.out.2.ex
        have hgl := hown.lt g rfl
        have hptt := hps (tt, Value.slice au lu cu) (by simp)
        have e9 : (ps ++ [(tt, Value.slice au lu cu)]).length = k + 1 := by simp [hpl]
        have hown9 : wr.ownsRow w.heap.size 24 4 (.slice (some ⟨g, 0, none⟩) (k + 1) cap) (ps ++ [(tt, Value.slice au lu cu)]).length ((ps ++ [(tt, Value.slice au lu cu)]).flatMap encP) := by rw [e9]; exact hown
        have hrw := own_row hown9 (by simp)
        obtain ⟨g9, cap9, he9, _, hcap, _, hrow, _⟩ := hrw
        injection he9 with e1 e2 e3
        injection e1 with e1
        injection e1 with e1 _ _
        subst e1
        clear e2 e3
        obtain ⟨r0, r1, r2, r3⟩ := hrow k (by simp [hpl])
        have hlast : (ps ++ [(tt, Value.slice au lu cu)])[k]'(by simp [hpl]) = (tt, Value.slice au lu cu) := by
          rw [List.getElem_append_right (by omega)]; simp
        rw [hlast] at r0 r1 r2 r3
        simp only [Nat.zero_add] at r0 r1 r2 r3
        have hNk : N = k + 1 := HI.out.1
        have hkj : k ≤ j := HI.out.2.le
        have hN1 : IntKind.i64.wrap ((N : Int) - 1) = (k : Int) := by have := Hlen.out; rw [IntKind.wrap_i64]; omega
        have hkN : (k : Int) < (N : Int) := by omega
        have hkN2 : k < N := by omega
        have hk0 : (0 : Int) ≤ (k : Int) := by omega
        have HBo : Hid (∀ W, Below wr.heap.size wr W → Calls Tryz.prog 34 #[.int .i64 (Q : Int), .agg #[.int .i64 tt.kind, .int .i64 tt.num, .string tt.text, .slice au lu cu], .agg #[.int .i64 x.kind, .int .i64 x.num, .string x.text, .slice ax x.items.length cx]] W (BPost (fun m => (m ≠ g ∧ (m < w0.heap.size ∨ w.heap.size ≤ m)) ∧ m < wr.heap.size) (bothT Q tt x) (stopQ Q (bothT Q tt x)) W)) := fun W hW =>
          rboth_any (fun m => (m ≠ g ∧ (m < w0.heap.size ∨ w.heap.size ≤ m)) ∧ m < wr.heap.size) Q hQ8 tt x _ _ W (hptt.1.both.keeps hW) ((Hx.out.1.keeps hW).mono (fun n hn => by have := hgl.1; exact ⟨⟨by omega, .inl hn⟩, by omega⟩)) hptt.2 Hx.out.2.1
        have hgw : g < wr.heap.size := hgl.2
        clear hown hps hcs heq hgl hcap hrow hlast hpl hNk hkj e9 hown9
        clear hptt
        obtain ⟨W1, hW1⟩ : ∃ W1, W1 = wr.alloc (.cells #[.int .i64 x.kind, .int .i64 x.num, .string x.text, .slice ax x.items.length cx] 24) := ⟨_, rfl⟩
        have HW1 : Hid (W1 = wr.alloc (.cells #[.int .i64 x.kind, .int .i64 x.num, .string x.text, .slice ax x.items.length cx] 24)) := hW1
        have hb01 : Below wr.heap.size wr W1 := by rw [hW1]; exact ((Grew.refl wr).alloc _).below
        have HBx : Hid (Bx W1 wr.heap.size x (.slice ax x.items.length cx)) := by rw [hW1]; exact bx_alloc wr x _
        have Hs1 : Hid (W1.heap.size = wr.heap.size + 1) := by show _ = _; rw [hW1]; simp
        have hlt1 : wr.heap.size < W1.heap.size := by have := Hs1.out; omega
        have hlt2 : g < W1.heap.size := by have := Hs1.out; omega
        clear hW1
        go_upto_region 8 with fail
        rw [← HW1.out]
        clear HW1 p0 p1 p2 p3
        obtain ⟨y0, y1, y2, y3, _, _, _, _⟩ := HBx.out
        have r0 := cell_keeps hb01 r0; have r1 := cell_keeps hb01 r1; have r2 := cell_keeps hb01 r2; have r3 := cell_keeps hb01 r3
        go_cut [12, 13, 25] from 25 to 46 (fun s12 s13 s25 wx => ∃ b a3 n3 c3, s12 = .pointer (some ⟨b, 0, none⟩) ∧ s13 = .bool (stopQ Q (bothT Q tt x)) ∧ s25 = .int .i64 (j : Int) ∧ Hid (Bx wx b (bothT Q tt x) (.slice a3 n3 c3) ∧ LiesX (fun m => m ≠ g ∧ (m < w0.heap.size ∨ w.heap.size ≤ m)) 16 wx (bothT Q tt x).items (.slice a3 n3 c3) ∧ Below W1.heap.size W1 wx))
        case first =>
          have hz := bx_alloc W1 zeroT (.slice none 0 0)
          have hba : Below W1.heap.size W1 (W1.alloc (.cells #[.int .i64 0, .int .i64 0, .string ⟨#[]⟩, .slice none 0 0] 24)) := ((Grew.refl W1).alloc _).below
          have HF1 : Hid (∀ (w3 : World) a3 n3 c3, LiesX (fun b => (fun m => (m ≠ g ∧ (m < w0.heap.size ∨ w.heap.size ≤ m)) ∧ m < wr.heap.size) b ∨ (W1.alloc (.cells #[.int .i64 0, .int .i64 0, .string ⟨#[]⟩, .slice none 0 0] 24)).drew.heap.size ≤ b) 16 w3 (bothT Q tt x).items (.slice a3 n3 c3) → LiesX (fun m => (m ≠ g ∧ (m < w0.heap.size ∨ w.heap.size ≤ m)) ∧ m ≠ W1.heap.size) 16 w3 (bothT Q tt x).items (.slice a3 n3 c3)) := fun w3 a3 n3 c3 h => h.mono (fun m hm => by
            rcases hm with hm | hm
            · exact ⟨hm.1, by have := Hs1.out; omega⟩
            · have hm : (W1.alloc (.cells #[.int .i64 0, .int .i64 0, .string ⟨#[]⟩, .slice none 0 0] 24)).heap.size ≤ m := hm
              simp at hm
              have := Hs1.out
              exact ⟨⟨by omega, .inr (by omega)⟩, by omega⟩)
          have HF2 : Hid (∀ (w3 : World) a3 n3 c3, LiesX (fun m => (m ≠ g ∧ (m < w0.heap.size ∨ w.heap.size ≤ m)) ∧ m ≠ W1.heap.size) 16 w3 (bothT Q tt x).items (.slice a3 n3 c3) → Bx w3 W1.heap.size zeroT (.slice none 0 0) → Below W1.heap.size W1 w3 → Hid (Bx (w3.setCells W1.heap.size 0 (encP (bothT Q tt x, .slice a3 n3 c3))) W1.heap.size (bothT Q tt x) (.slice a3 n3 c3) ∧ LiesX (fun m => m ≠ g ∧ (m < w0.heap.size ∨ w.heap.size ≤ m)) 16 (w3.setCells W1.heap.size 0 (encP (bothT Q tt x, .slice a3 n3 c3))) (bothT Q tt x).items (.slice a3 n3 c3) ∧ Below W1.heap.size W1 (w3.setCells W1.heap.size 0 (encP (bothT Q tt x, .slice a3 n3 c3))))) := fun w3 a3 n3 c3 h hx hb => ⟨hx.put (bothT Q tt x, .slice a3 n3 c3), (h.set (g := W1.heap.size) (by omega)).mono (fun m hm => hm.1), below_put hb (Nat.le_refl _) _⟩
          have HF3 : Hid (∀ (w3 : World) a3 n3 c3, LiesX (fun b => (fun m => (m ≠ g ∧ (m < w0.heap.size ∨ w.heap.size ≤ m)) ∧ m < wr.heap.size) b ∨ W1.drew.heap.size ≤ b) 16 w3 (bothT Q tt x).items (.slice a3 n3 c3) → Below W1.heap.size W1 w3 → Hid (Bx (w3.alloc (.cells #[.int .i64 (bothT Q tt x).kind, .int .i64 (bothT Q tt x).num, .string (bothT Q tt x).text, .slice a3 n3 c3] 24)) w3.heap.size (bothT Q tt x) (.slice a3 n3 c3) ∧ LiesX (fun m => m ≠ g ∧ (m < w0.heap.size ∨ w.heap.size ≤ m)) 16 (w3.alloc (.cells #[.int .i64 (bothT Q tt x).kind, .int .i64 (bothT Q tt x).num, .string (bothT Q tt x).text, .slice a3 n3 c3] 24)) (bothT Q tt x).items (.slice a3 n3 c3) ∧ Below W1.heap.size W1 (w3.alloc (.cells #[.int .i64 (bothT Q tt x).kind, .int .i64 (bothT Q tt x).num, .string (bothT Q tt x).text, .slice a3 n3 c3] 24)))) := fun w3 a3 n3 c3 h hb => ⟨bx_alloc w3 _ _, (h.mono (fun m hm => by
            rcases hm with hm | hm
            · exact hm.1
            · have hm : W1.heap.size ≤ m := hm
              have := Hs1.out
              exact ⟨by omega, .inr (by omega)⟩)).keeps ((Grew.refl w3).alloc _).below, hb.alloc hb.size _⟩
          go_region_with (first | (go_at_call 34; (with_reducible refine Calls.mono (HBo.out _ (hb01.alloc hb01.size (.cells #[.int .i64 0, .int .i64 0, .string ⟨#[]⟩, .slice none 0 0] 24)).drew) ?_); rintro e w3 ⟨u3, rfl, hl3, hb3⟩; obtain ⟨a3, c3, rfl, _⟩ := LiesX.slice hl3; have HL3 := HF1.out _ _ _ _ hl3; have hbx3 := hz.keeps ((Below.refl _ _).drew.trans hb3); have HB3 := HF2.out _ _ _ _ HL3 hbx3 (hba.drew.trans (hb3.mono hba.size)); obtain ⟨z0, z1, z2, z3, f0, f1, f2, f3⟩ := hbx3; clear hl3 hb3 HL3) | (go_at_call 34; (with_reducible refine Calls.mono (HBo.out _ hb01.drew) ?_); rintro e w3 ⟨u3, rfl, hl3, hb3⟩; obtain ⟨a3, c3, rfl, _⟩ := LiesX.slice hl3; have HB3 := HF3.out _ _ _ _ hl3 ((Below.refl _ _).drew.trans hb3); clear hl3 hb3))
          all_goals (go_wp2_with fail; go_meet; (first | (with_reducible exact ⟨W1.heap.size, a3, _, c3, rfl, rfl, rfl, HB3⟩) | (with_reducible exact ⟨w3.heap.size, a3, _, c3, rfl, rfl, rfl, HB3⟩) | exact ⟨W1.heap.size, a3, _, c3, rfl, rfl, rfl, HB3⟩ | exact ⟨w3.heap.size, a3, _, c3, rfl, rfl, rfl, HB3⟩))
        case rest =>
          obtain ⟨b3, a3, n3, c3, rfl, rfl, rfl, H3⟩ := hcut
          have hb3 : Below wr.heap.size wr wc := hb01.trans (H3.out.2.2.mono hb01.size)
          have HI2 : Hid (N = k + 1 ∧ RS25 w0.heap.size Q t l w j k g cap tt (.slice au lu cu) wr) := HI
          obtain ⟨ps, hpl, hown, hps, cs, hcs, heq⟩ := HI.out.2.ex
          have hlt3 : b3 < wc.heap.size := cell_lt H3.out.1.c0
          have Hown3 : Hid (wc.ownsRow w.heap.size 24 4 (.slice (some ⟨g, 0, none⟩) N cap) N ((ps ++ [(tt, Value.slice au lu cu)]).flatMap encP)) := by
            rw [HI.out.1]
            exact own_kc hown (KC.of_below (B := fun _ => False) hb3) (fun _ _ h => h)
          have HE : Hid (∀ (g6 cap6 : Nat) (w6 : World), w6.ownsRow w.heap.size 24 4 (.slice (some ⟨g6, 0, none⟩) (N + 1) cap6) (N + 1) ((ps ++ [(tt, Value.slice au lu cu)]).flatMap encP ++ encP (bothT Q tt x, .slice a3 n3 c3)) → KC (fun m => m = g) wc w6 → (g6 = g ∨ wc.heap.size ≤ g6) → ∃ (qs : List (VT × Value)), qs.length = N ∧ w6.ownsRow w.heap.size 24 4 (.slice (some ⟨g6, 0, none⟩) (N + 1) cap6) (N + 1) ((qs ++ [(bothT Q tt x, Value.slice a3 n3 c3)]).flatMap encP) ∧ (∀ p ∈ qs ++ [(bothT Q tt x, Value.slice a3 n3 c3)], LiesX (fun m => m ≠ g6 ∧ (m < w0.heap.size ∨ w.heap.size ≤ m)) 16 w6 p.1.items p.2 ∧ rightV 16 p.1 = true) ∧ (∃ cs, (qs ++ [(bothT Q tt x, Value.slice a3 n3 c3)]).map (·.1) = t :: (cs ++ [bothT Q tt x]) ∧ redS Q t l = cs ++ redS Q tt (x :: l.drop (j + 1))) ∧ Below w.heap.size w w6) := by
            intro g6 cap6 w6 h1 hk hg6
            have hrr : rightV 16 (bothT Q tt x) = true := (both_right Q (hps (tt, Value.slice au lu cu) (by simp)).2 (Dp.of_lies 16 _ _ _ (hps (tt, Value.slice au lu cu) (by simp)).1.lies) Hx.out.2.1 (Dp.of_lies 16 _ _ _ Hx.out.1.lies)).1
            refine ⟨ps ++ [(tt, Value.slice au lu cu)], by rw [HI.out.1]; simp [hpl], by rw [List.flatMap_append]; simpa using h1, fun p hp => ?_, ⟨cs, by rw [List.map_append, hcs]; simp, by rw [heq, ← Hx.out.2.2]⟩, ?_⟩
            · have hold : LiesX (fun m => (m ≠ g ∧ (m < w0.heap.size ∨ w.heap.size ≤ m)) ∧ m < wc.heap.size) 16 wc p.1.items p.2 ∧ rightV 16 p.1 = true := by
                rcases List.mem_append.1 hp with hp | hp
                · exact ⟨((hps p hp).1.keeps hb3).both, (hps p hp).2⟩
                · have : p = (bothT Q tt x, Value.slice a3 n3 c3) := by simpa using hp
                  subst this
                  exact ⟨H3.out.2.1.both, hrr⟩
              refine ⟨(hk.liesX (fun m hm h => hm.1.1 h) hold.1).mono (fun m hm => ⟨fun e => ?_, hm.1.2⟩), hold.2⟩
              rcases hg6 with h | h
              · exact hm.1.1 (by omega)
              · omega
            · have h9 : Below w.heap.size w wc := HI.out.2.below.trans (hb3.mono HI.out.2.below.size)
              have hgl := hown.lt g rfl
              exact h9.trans (hk.below (fun m hm h => by omega) h9.size)
          have hws : w.heap.size ≤ wc.heap.size := Nat.le_trans hwr hb3.size
          have hN9 : N ≤ 65537 := by have := HI.out.1; have := HI.out.2.le; have := Hlen.out; omega
          have Hkj : Hid (k ≤ j ∧ N = k + 1) := ⟨HI.out.2.le, HI.out.1⟩
          obtain ⟨z0, z1, z2, z3, _, _, _, _⟩ := H3.out.1
          generalize hFL : (ps ++ [(tt, Value.slice au lu cu)]).flatMap encP = FL at *
          clear hFL hown hps hcs heq hpl HI HI2 H3 hb3 hb01 HBx y0 y1 y2 y3 r0 r1 r2 r3 HBo Hx
          generalize hrd : bothT Q tt x = r at *
          have Hrd : Hid (bothT Q tt x = r) := hrd
          clear hrd
          cases hst : stopQ Q r
          · go_wp2_with (first
              | (at_builtin; refine wpList_append_lies _ rfl _ _ 22 rfl w.heap.size 24 i0 (.agg #[.int .i64 0, .int .i64 0, .string ⟨#[]⟩, .slice none 0 0]) 4 56 Tryz.underlying22 Hi.out Hz0.out Hz1.out Hz2.out rfl (by decide) (.slice (some ⟨g, 0, none⟩) N cap) N FL rfl (Hown3.out.alloc _) ⟨wc.heap.size, 0, none⟩ 1 1 [.int .i64 r.kind, .int .i64 r.num, .string r.text, .slice a3 n3 c3] rfl rfl (fun q u hq => by match q, hq with | 0, hq => (simp at hq; subst hq; simp [Addr.add]) | 1, hq => (simp at hq; subst hq; simp [Addr.add]) | 2, hq => (simp at hq; subst hq; simp [Addr.add]) | 3, hq => (simp at hq; subst hq; simp [Addr.add]) | q + 4, hq => simp at hq) (fun u hu => by simp at hu; rcases hu with rfl | rfl | rfl | rfl <;> rfl) (by decide) (by unfold maxLen; omega) (by omega) (by simp; omega) _ rfl ?_; intro g6 cap6 w6 hown6 hg6 hat6 hlt6))
            have hE6 := HE.out g6 cap6 w6 hown6 ((far23 ((Grew.refl wc).alloc _).below hg6).mono (fun m _ hm => by simpa [Value.ownBlock] using hm.symm)) (by
              rcases hat6 with h | h
              · left; simpa [Value.ownBlock] using h.symm
              · right; simp at h; omega)
            obtain ⟨qs, q1, q2, q3, ⟨cs, q4, q5⟩, q6⟩ := hE6
            have HQ : Hid (qs.length = N ∧ w6.ownsRow w.heap.size 24 4 (.slice (some ⟨g6, 0, none⟩) (N + 1) cap6) (N + 1) ((qs ++ [(r, Value.slice a3 n3 c3)]).flatMap encP) ∧ (∀ p ∈ qs ++ [(r, Value.slice a3 n3 c3)], LiesX (fun m => m ≠ g6 ∧ (m < w0.heap.size ∨ w.heap.size ≤ m)) 16 w6 p.1.items p.2 ∧ rightV 16 p.1 = true) ∧ (qs ++ [(r, Value.slice a3 n3 c3)]).map (·.1) = t :: (cs ++ [r]) ∧ redS Q t l = cs ++ redS Q tt (x :: l.drop (j + 1)) ∧ Below w.heap.size w w6) := ⟨q1, q2, q3, q4, q5, q6⟩
            clear hown6 hg6 hat6 hlt6 q1 q2 q3 q4 q5 q6 HE Hown3
            have HEq : Hid (redS Q t l = (cs ++ [r]) ++ redS Q r (l.drop (j + 1))) := by
              show _ = _
              rw [HQ.out.2.2.2.2.1, redS_go (by rw [Hrd.out]; exact hst), Hrd.out]; simp
            clear hst
            go_wp2_with fail
            go_roundg (ll - (j + 1))
            case measure => have := Hg.out; omega
            case rel => exact ⟨j + 1, N, N + 1, g6, cap6, r, a3, n3, c3, by go_num, by go_num, by omega, by omega, rfl, ⟨qs, HQ.out.1, HQ.out.2.1, HQ.out.2.2.1, cs ++ [r], HQ.out.2.2.2.1, HEq.out⟩, HQ.out.2.2.2.2.2, by have := Hkj.out; omega⟩
          · go_wp2_with (first
              | (at_builtin; refine wpList_append_lies _ rfl _ _ 22 rfl w.heap.size 24 i0 (.agg #[.int .i64 0, .int .i64 0, .string ⟨#[]⟩, .slice none 0 0]) 4 56 Tryz.underlying22 Hi.out Hz0.out Hz1.out Hz2.out rfl (by decide) (.slice (some ⟨g, 0, none⟩) N cap) N FL rfl (Hown3.out.alloc _) ⟨wc.heap.size, 0, none⟩ 1 1 [.int .i64 r.kind, .int .i64 r.num, .string r.text, .slice a3 n3 c3] rfl rfl (fun q u hq => by match q, hq with | 0, hq => (simp at hq; subst hq; simp [Addr.add]) | 1, hq => (simp at hq; subst hq; simp [Addr.add]) | 2, hq => (simp at hq; subst hq; simp [Addr.add]) | 3, hq => (simp at hq; subst hq; simp [Addr.add]) | q + 4, hq => simp at hq) (fun u hu => by simp at hu; rcases hu with rfl | rfl | rfl | rfl <;> rfl) (by decide) (by unfold maxLen; omega) (by omega) (by simp; omega) _ rfl ?_; intro g6 cap6 w6 hown6 hg6 hat6 hlt6))
            have hE6 := HE.out g6 cap6 w6 hown6 ((far23 ((Grew.refl wc).alloc _).below hg6).mono (fun m _ hm => by simpa [Value.ownBlock] using hm.symm)) (by
              rcases hat6 with h | h
              · left; simpa [Value.ownBlock] using h.symm
              · right; simp at h; omega)
            obtain ⟨qs, q1, q2, q3, ⟨cs, q4, q5⟩, q6⟩ := hE6
            have HQ : Hid (qs.length = N ∧ w6.ownsRow w.heap.size 24 4 (.slice (some ⟨g6, 0, none⟩) (N + 1) cap6) (N + 1) ((qs ++ [(r, Value.slice a3 n3 c3)]).flatMap encP) ∧ (∀ p ∈ qs ++ [(r, Value.slice a3 n3 c3)], LiesX (fun m => m ≠ g6 ∧ (m < w0.heap.size ∨ w.heap.size ≤ m)) 16 w6 p.1.items p.2 ∧ rightV 16 p.1 = true) ∧ (qs ++ [(r, Value.slice a3 n3 c3)]).map (·.1) = t :: (cs ++ [r]) ∧ redS Q t l = cs ++ redS Q tt (x :: l.drop (j + 1)) ∧ Below w.heap.size w w6) := ⟨q1, q2, q3, q4, q5, q6⟩
            clear hown6 hg6 hat6 hlt6 q1 q2 q3 q4 q5 q6 HE Hown3
            have HZ : Hid (StPostX w0 (t :: redS Q t l) 0 w (.returned (.tuple #[.slice (some ⟨g6, 0, none⟩) (N + 1) cap6, .int .i64 0])) w6) := by
              have h := own_liesX (X := fun m => m < w0.heap.size ∨ w.heap.size ≤ m) (d := 16) HQ.out.2.1 (by simp [HQ.out.1]) (fun m hm => .inr (HQ.out.2.1.lt m hm).1) (fun p hp => ⟨(HQ.out.2.2.1 p hp).1.mono (fun _ hm => hm.2), Nat.le_trans (right_size (HQ.out.2.2.1 p hp).2) (by omega)⟩) (by have := HQ.out.1; simp; omega)
              rw [HQ.out.2.2.2.1, show cs ++ [r] = redS Q t l by rw [HQ.out.2.2.2.2.1, redS_stop (by rw [Hrd.out]; exact hst), Hrd.out]] at h
              exact ⟨_, rfl, h, HQ.out.2.2.2.2.2⟩
            clear hst HQ
            go_wp2_with fail
            rw [← HP.out]
            exact HZ.out
      · have hji : ¬ (j : Int) < (ll : Int) := by omega
        obtain ⟨ps, hpl, hown, hps, cs, hcs, heq⟩ := HI.out.2.ex
        have HZ : Hid (StPostX w0 (t :: redS Q t l) 0 w (.returned (.tuple #[.slice (some ⟨g, 0, none⟩) N cap, .int .i64 0])) wr) := by
          rw [List.drop_eq_nil_of_le (by rw [Hll.out]; omega)] at heq
          simp only [redS, List.append_nil] at heq
          have h := own_liesX (X := fun m => m < w0.heap.size ∨ w.heap.size ≤ m) (d := 16) hown (by simp [hpl]) (fun m hm => .inr (hown.lt m hm).1) (fun p hp => ⟨(hps p hp).1.mono (fun _ hm => hm.2), Nat.le_trans (right_size (hps p hp).2) (by omega)⟩) (by have := HI.out.2.le; have := Hlen.out; simp [hpl]; omega)
          rw [hcs, ← heq, ← HI.out.1] at h
          exact ⟨_, rfl, h, HI.out.2.below⟩
        clear hown hps hcs heq hpl HI
        go_wp2_with fail
        rw [← HP.out]
        exact HZ.out
  · have e1 : stpL d q t l = [] := by unfold stpL; rw [if_neg hE]
    rw [e1] at HP
    clear e1 HU HV
    generalize redE d q t l = E at *
    go_wp2_with fail
    rw [← HP.out]
    exact ⟨_, rfl, liesX_nil _ 17 _ none 0, hb3⟩

end Go.Proofs.YtdapildmegdjkaaGreat

