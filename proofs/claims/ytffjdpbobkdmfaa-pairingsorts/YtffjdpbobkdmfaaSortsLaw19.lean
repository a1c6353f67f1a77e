/-
  PairingSorts: the statement's walk.
-/
import Derived.Test.YtffjdpbobkdmfaaMinQ
import Derived.Deep.RegionWith
import Derived.Test.YtffjdpbobkdmfaaVals
import Derived.Test.YtffjdpbobkdmfaaRunesP
import Derived.Test.YtffjdpbobkdmfaaUniq
namespace Go.Proofs.Ytffjdpbobkdmfaa
open Go.RowKit

theorem RowH.both {X : Nat → Prop} {w : World} : ∀ {t : BT} {p : Option Addr}, RowH X w t p → RowH (fun b => X b ∧ b < w.heap.size) w t p
  | .nil, _, h => h
  | .node x b r, p, h => by
    obtain ⟨b, c, pb, pr, u, hp, c0, c1, hc, hi, h1, h2⟩ := h
    exact ⟨b, c, pb, pr, u, hp, c0, c1, hc, ⟨hi.1.both, hi.2⟩, RowH.both h1, RowH.both h2⟩

/-- A result's box written: heaps stay. -/
theorem keepsH_put {X : Nat → Prop} {W : World} {n : Nat} (hn : ¬ X n) (hK : Blank W n) (h4 : W.cell? ⟨n, 4, none⟩ = none) (p : VT × Value) : KeepsH X W (W.setCells n 0 (encP p)) := by
  refine ⟨fun a v ha hv => ?_, fun b k u hk h5 hv => ?_, fun b k q hv => ?_⟩
  · rw [World.cell?_setCells_out n _ 0 W a (fun e _ => absurd ha (by rw [e]; exact hn))]; exact hv
  · have hne : b ≠ n := fun e => h5 (by rw [e]; exact h4)
    rw [World.cell?_setCells_out n _ 0 W ⟨b, k, none⟩ (fun e _ => absurd e hne)]; exact hv
  · by_cases hb : b = n
    · subst hb
      by_cases hk : k < 4
      · exfalso
        match k, hk, hv with
        | 0, _, hv => rw [hK.c0] at hv; cases hv
        | 1, _, hv => rw [hK.c1] at hv; cases hv
        | 2, _, hv => rw [hK.c2] at hv; cases hv
        | 3, _, hv => rw [hK.c3] at hv; cases hv
      · rw [World.cell?_setCells_out b _ 0 W ⟨b, k, none⟩ (fun _ _ => by simp [encP]; omega)]; exact hv
    · rw [World.cell?_setCells_out n _ 0 W ⟨b, k, none⟩ (fun e _ => absurd e hb)]; exact hv

/-- What Pop tells. -/
def PopPost (X : Nat → Prop) (q : Nat) (I : List VT) (w : World) (e : Ending) (w' : World) : Prop :=
  Below w.heap.size w w' ∧ ((I = [] ∧ e = .returned (.tuple #[.pointer none, .agg #[.int .i64 0, .int .i64 0, .string ⟨#[]⟩, .slice none 0 0], .int .i64 6])) ∨
    ∃ x m u p, srtV q I = x :: m ∧ e = .returned (.tuple #[.pointer p, .agg #[.int .i64 x.kind, .int .i64 x.num, .string x.text, u], .int .i64 0]) ∧ QM X w' q m p ∧ LiesB w.heap.size 16 w' x.items u ∧ rightV 16 x = true)

set_option maxRecDepth 100000 in
set_option maxHeartbeats 4000000 in
theorem pop_bare19 {X : Nat → Prop} {q : Nat} {p : Option Addr} {w : World} (h : QN X w q [] p) : Calls Try.prog 8 #[.pointer p] w (PopPost X q [] w) := by
  have hbz : Below w.heap.size w (w.alloc (.cells #[.int .i64 0, .int .i64 0, .string ⟨#[]⟩, .slice none 0 0] 30)) := ((Grew.refl w).alloc _).below
  have HK : Hid (Blank (w.alloc (.cells #[.int .i64 0, .int .i64 0, .string ⟨#[]⟩, .slice none 0 0] 30)) w.heap.size) := blank_alloc w
  have HC : Hid (Calls Try.prog 11 #[.pointer p] (w.alloc (.cells #[.int .i64 0, .int .i64 0, .string ⟨#[]⟩, .slice none 0 0] 30)) fun e w' => e = .returned (.tuple #[.agg #[.int .i64 0, .int .i64 0, .string ⟨#[]⟩, .slice none 0 0], .int .i64 6]) ∧ Below (w.heap.size + 1) (w.alloc (.cells #[.int .i64 0, .int .i64 0, .string ⟨#[]⟩, .slice none 0 0] 30)) w') := by
    refine Calls.mono (min_any19 (h.keeps hbz)) ?_
    rintro e w' ⟨hb, ⟨_, rfl⟩ | ⟨x, m, _, h0, _⟩⟩
    · exact ⟨rfl, by simpa using hb⟩
    · cases h0
  clear h
  go_enter Try.func8, Try.ntmps8
  go_wp2_with fail
  refine Calls.mono HC.out ?_
  rintro e w1 ⟨rfl, hb⟩
  have hb0 : Below w.heap.size w w1 := hbz.trans (hb.mono (by omega))
  have hbA : Below w1.heap.size w1 (w1.alloc (.cells #[.int .i64 0, .int .i64 0, .string ⟨#[]⟩, .slice none 0 0] 30)) := ((Grew.refl w1).alloc _).below
  have hb1 : Below w.heap.size w (w1.alloc (.cells #[.int .i64 0, .int .i64 0, .string ⟨#[]⟩, .slice none 0 0] 30)) := hb0.trans (hbA.mono hb0.size)
  have HK1 : Hid (Blank (w1.alloc (.cells #[.int .i64 0, .int .i64 0, .string ⟨#[]⟩, .slice none 0 0] 30)) w.heap.size) := (HK.out.keeps (by simpa using hb)).keeps hbA
  obtain ⟨y0, y1, y2, y3, z0, z1, z2, z3⟩ := HK1.out
  have Hbx : Hid _ := HK1.out.put (⟨0, 0, ⟨#[]⟩, []⟩, .slice none 0 0)
  have Hbl : Hid _ := below_put hb1 (Nat.le_refl _) (⟨0, 0, ⟨#[]⟩, []⟩, .slice none 0 0)
  have hlt : ¬ w.heap.size = w1.heap.size := by have := hb.size; simp at this; omega
  clear HC HK hb hb0 hbA
  go_wp2_with fail
  refine bodyPost_ret (v := .tuple #[.pointer none, .agg #[.int .i64 0, .int .i64 0, .string ⟨#[]⟩, .slice none 0 0], .int .i64 6]) ?_ rfl ⟨Hbl.out, .inl ⟨rfl, rfl⟩⟩
  obtain ⟨q0, q1, q2, q3⟩ := Hbx.out
  simp only [encP, World.setCells, Nat.zero_add, Nat.reduceAdd] at q0 q1 q2 q3
  simp [results, Try.results8, go_sem, q0, q1, q2, q3]

theorem at_new19 (w : World) (q : Int) : (w.alloc (.cells #[.int .i64 q] 3)).cell? ⟨w.heap.size, 0, none⟩ = some (.int .i64 q) := by simp

/-- The calls of Pop behind Min. -/
def PopC (X : Nat → Prop) (q : Nat) (I : List VT) (tp : Option Addr) (w : World) : Prop :=
  ∀ V, Below w.heap.size w V → Calls Try.prog 28 #[.pointer tp] V fun e w3 => ∃ v, e = .returned v ∧ Below V.heap.size V w3 ∧
    (∀ V2 g, Below w3.heap.size w3 V2 → V2.cell? ⟨g, 0, none⟩ = some (.int .i64 (q : Int)) → Calls Try.prog 27 #[v, fnBy g] V2 (PairPost X q I V2))

theorem popC {X : Nat → Prop} {q c : Nat} (hq : q < 6) {t : HP} {u : Value} {pb : Option Addr} {w : World} (hc : HCells w c t.1 u pb) (hr : RowH X w t.2 pb) (hok : HP.Ok (ordV q) t) (hl : t.2.items.length ≤ 65536) : PopC (fun b => X b ∧ b < w.heap.size) q t.2.items (some ⟨c, 0, none⟩) w := by
  have hhl : t.2.heaps.length ≤ 65536 := Nat.le_trans (heaps_len t.2) hl
  intro V hV
  refine Calls.mono (heapsBelow_any _ c t.2 pb w V hV hc.below hr.both hhl) ?_
  rintro e w3 ⟨hb3, v, ps, rfl, hown, hps⟩
  refine ⟨v, rfl, hb3, fun V2 g hV2 hg => ?_⟩
  have hw3 : Below w.heap.size w w3 := hV.trans (hb3.mono hV.size)
  have hs := (SlH.of_own rfl hown (hps.keeps hw3)).keeps hV2
  have := paired_any _ q g hq t.2.heaps.length t.2.heaps v V2 (Nat.le_refl _) hhl hg hs (heaps_ok _ _ hok.2)
  rwa [heaps_items] at this

theorem pop_fin {X : Nat → Prop} {q N T : Nat} {I m J : List VT} {x : VT} {v : Value} {w w5 : World} {h5 : Option HP} {p5 : Option Addr} (hE : HpO (fun b => X b ∧ b < w.heap.size) w5 h5 p5 ∧ (oItems h5).Perm J ∧ oOk (ordV q) h5) (hM : srtV q I = x :: m ∧ J.Perm m ∧ J.length + 1 = I.length ∧ rightV 16 x = true ∧ q < 6 ∧ I.length ≤ 65536)
    (hN : N = I.length) (hK : Blank w5 w.heap.size) (h4 : w5.cell? ⟨w.heap.size, 4, none⟩ = none) (hL : LiesB (w.heap.size + 1) 16 w5 x.items v) (hB : Below w.heap.size w w5) :
    PopPost X q I w (.returned (.tuple #[.pointer (some ⟨w5.heap.size, 0, none⟩), .agg #[.int .i64 x.kind, .int .i64 x.num, .string x.text, v], .int .i64 0])) ((w5.alloc (.cells #[.int .i64 (q : Int), .int .i64 ((N - 1 : Nat) : Int), .pointer p5] T)).setCells w.heap.size 0 (encP (x, v))).drew ∧
    Boxed ((w5.alloc (.cells #[.int .i64 (q : Int), .int .i64 ((N - 1 : Nat) : Int), .pointer p5] T)).setCells w.heap.size 0 (encP (x, v))).drew w.heap.size x.kind x.num x.text v := by
  have hR5 : w.heap.size < w5.heap.size := cell_lt hK.c0
  obtain ⟨V, hV⟩ : ∃ V, V = w5.alloc (.cells #[.int .i64 (q : Int), .int .i64 ((N - 1 : Nat) : Int), .pointer p5] T) := ⟨_, rfl⟩
  have d0 : V.cell? ⟨w5.heap.size, 0, none⟩ = some (.int .i64 (q : Int)) := by rw [hV]; simp
  have d1 : V.cell? ⟨w5.heap.size, 1, none⟩ = some (.int .i64 ((N - 1 : Nat) : Int)) := by rw [hV]; simp
  have d2 : V.cell? ⟨w5.heap.size, 2, none⟩ = some (.pointer p5) := by rw [hV]; simp
  have hbV : Below w5.heap.size w5 V := by rw [hV]; exact ((Grew.refl w5).alloc _).below
  rw [← hV]
  have hKV := hK.keeps hbV
  have h4V : V.cell? ⟨w.heap.size, 4, none⟩ = none := by rw [hbV.cell (p := ⟨w.heap.size, 4, none⟩) hR5]; exact h4
  have hBV : Below w.heap.size w V := hB.trans (hbV.mono hB.size)
  have hkeep := keepsH_put (X := fun b => X b ∧ b < w.heap.size) (n := w.heap.size) (fun h => Nat.lt_irrefl _ h.2) hKV h4V (x, v)
  have hout : ∀ k u, V.cell? ⟨w5.heap.size, k, none⟩ = some u → (V.setCells w.heap.size 0 (encP (x, v))).cell? ⟨w5.heap.size, k, none⟩ = some u := fun k u hu => by
    rw [World.cell?_setCells_out w.heap.size _ 0 V ⟨w5.heap.size, k, none⟩ (fun e _ => by simp at e; omega)]; exact hu
  have hdr : Below (V.setCells w.heap.size 0 (encP (x, v))).heap.size (V.setCells w.heap.size 0 (encP (x, v))) (V.setCells w.heap.size 0 (encP (x, v))).drew := (Below.refl _ _).drew
  have hJ : m.length = N - 1 := by have := hM.2.1.length_eq; have := hM.2.2.1; omega
  have hLf : LiesB w.heap.size 16 (V.setCells w.heap.size 0 (encP (x, v))) x.items v := LiesB.lower (by omega) _ _ _ (LiesB.stays (base := w.heap.size + 1) (fun a u ha hu => ⟨by
      rw [World.cell?_setCells_out w.heap.size _ 0 V a (fun e _ => by omega)]; exact cell_keeps hbV hu, by
      rw [World.frozen?_setCells]; exact hbV.frozen (cell_lt hu)⟩) _ _ _ hL)
  refine ⟨⟨(below_put hBV (Nat.le_refl _) (x, v)).drew, .inr ⟨x, m, v, _, hM.1, rfl, ⟨_, rfl, ⟨⟨h5, p5, cell_keeps hdr (hout _ _ d2), (HpO.stays (fun _ h => h.1) hkeep (hE.1.keeps hbV)).keeps hdr, hE.2.1.trans hM.2.1, hE.2.2⟩, cell_keeps hdr (hout _ _ d0), ?_, hM.2.2.2.2.1, ?_⟩⟩, LiesB.stays (fun a u _ hu => ⟨cell_keeps hdr hu, hdr.frozen (cell_lt hu)⟩) _ _ _ hLf, hM.2.2.2.1⟩⟩, ?_⟩
  · rw [hJ]; exact cell_keeps hdr (hout _ _ d1)
  · have := hM.2.2.2.2.2; omega
  · exact (hKV.put (x, v)).keeps hdr

set_option maxRecDepth 100000 in
set_option maxHeartbeats 4000000 in
theorem pop_some19 {X : Nat → Prop} {q : Nat} {I : List VT} {b : Nat} {w : World} (h : QC X w q I b) (hne : I ≠ []) : Calls Try.prog 8 #[.pointer (some ⟨b, 0, none⟩)] w (PopPost X q I w) := by
  have hbz : Below w.heap.size w (w.alloc (.cells #[.int .i64 0, .int .i64 0, .string ⟨#[]⟩, .slice none 0 0] 30)) := ((Grew.refl w).alloc _).below
  have HK : Hid (Blank (w.alloc (.cells #[.int .i64 0, .int .i64 0, .string ⟨#[]⟩, .slice none 0 0] 30)) w.heap.size) := blank_alloc w
  have H4 : Hid ((w.alloc (.cells #[.int .i64 0, .int .i64 0, .string ⟨#[]⟩, .slice none 0 0] 30)).cell? ⟨w.heap.size, 4, none⟩ = none) := by show _ = _; simp
  obtain ⟨t, c, u, pb, m, c2, hc, hit, hr, hok, hm, hpm, hpi⟩ := h.top h.good hne
  have hlen : t.2.items.length + 1 = I.length := by have := hpi.length_eq; simpa using this
  have HPC : Hid (PopC (fun b => X b ∧ b < w.heap.size) q t.2.items (some ⟨c, 0, none⟩) w) := popC h.lt hc hr hok (by have := h.le; omega)
  have HC : Hid (Calls Try.prog 11 #[.pointer (some ⟨b, 0, none⟩)] (w.alloc (.cells #[.int .i64 0, .int .i64 0, .string ⟨#[]⟩, .slice none 0 0] 30)) fun e w' => ∃ a n, e = .returned (.tuple #[.agg #[.int .i64 t.1.kind, .int .i64 t.1.num, .string t.1.text, .slice a t.1.items.length n], .int .i64 0]) ∧ LiesB (w.heap.size + 1) 16 w' t.1.items (.slice a t.1.items.length n) ∧ Below (w.alloc (.cells #[.int .i64 0, .int .i64 0, .string ⟨#[]⟩, .slice none 0 0] 30)).heap.size (w.alloc (.cells #[.int .i64 0, .int .i64 0, .string ⟨#[]⟩, .slice none 0 0] 30)) w') := by
    refine Calls.mono (min_any19 (.inr ⟨b, rfl, h.keeps hbz⟩)) ?_
    rintro e w' ⟨hb, ⟨h0, _⟩ | ⟨x, m2, v, h0, rfl, hL, _⟩⟩
    · exact absurd h0 hne
    · rw [hm] at h0
      injection h0 with h1 _
      subst h1
      obtain ⟨a, n, rfl, _⟩ := LiesB.slice hL
      exact ⟨a, n, rfl, by simpa using hL, hb⟩
  have HM : Hid (srtV q I = t.1 :: m ∧ t.2.items.Perm m ∧ t.2.items.length + 1 = I.length ∧ rightV 16 t.1 = true ∧ q < 6 ∧ I.length ≤ 65536) := ⟨hm, hpm, hlen, hit.right, h.lt, h.le⟩
  have c0 := h.order
  have c1 := h.size
  obtain ⟨N, hN⟩ : ∃ N, N = I.length := ⟨_, rfl⟩
  have HN : Hid (N = I.length) := hN
  rw [← hN] at c1
  have hN0 : 1 ≤ N := by omega
  have hN1 : N ≤ 65536 := by rw [hN]; exact h.le
  have Hc0 : Hid (w.cell? ⟨b, 0, none⟩ = some (.int .i64 (q : Int))) := c0
  have Hc1 : Hid (w.cell? ⟨b, 1, none⟩ = some (.int .i64 (N : Int))) := c1
  have Hc2 : Hid (w.cell? ⟨b, 2, none⟩ = some (.pointer (some ⟨c, 0, none⟩))) := c2
  obtain ⟨⟨k, n, s, it⟩, bt⟩ := t
  simp only at HPC HC HM
  clear hc hit hr hok hm hpm hpi hlen h hne c0 c1 c2 hN
  go_enter Try.func8, Try.ntmps8
  go_wp2_with fail
  refine Calls.mono HC.out ?_
  rintro e w1 ⟨av, cv, rfl, hL, hb⟩
  have hsz : w.heap.size < w1.heap.size := by have h9 := hb.size; simp at h9; omega
  have hb0 : Below w.heap.size w w1 := hbz.trans (hb.mono (by simp))
  obtain ⟨w2, hw2⟩ : ∃ w2, w2 = w1.alloc (.cells #[.int .i64 k, .int .i64 n, .string s, .slice av it.length cv] 30) := ⟨_, rfl⟩
  have hbA : Below w1.heap.size w1 w2 := by rw [hw2]; exact ((Grew.refl w1).alloc _).below
  have x0 : w2.cell? ⟨w1.heap.size, 0, none⟩ = some (.int .i64 k) := by rw [hw2]; simp
  have x1 : w2.cell? ⟨w1.heap.size, 1, none⟩ = some (.int .i64 n) := by rw [hw2]; simp
  have x2 : w2.cell? ⟨w1.heap.size, 2, none⟩ = some (.string s) := by rw [hw2]; simp
  have x3 : w2.cell? ⟨w1.heap.size, 3, none⟩ = some (.slice av it.length cv) := by rw [hw2]; simp
  have hb2 : Below w.heap.size w w2 := hb0.trans (hbA.mono hb0.size)
  have HK2 : Hid (Blank w2 w.heap.size) := (HK.out.keeps hb).keeps hbA
  have H42 : Hid (w2.cell? ⟨w.heap.size, 4, none⟩ = none) := by
    show _ = _
    rw [hbA.cell (p := ⟨w.heap.size, 4, none⟩) hsz, hb.cell (p := ⟨w.heap.size, 4, none⟩) (by simp)]
    exact H4.out
  have HL2 : Hid (LiesB (w.heap.size + 1) 16 w2 it (.slice av it.length cv)) := LiesB.stays (fun a v _ hv => ⟨cell_keeps hbA hv, hbA.frozen (cell_lt hv)⟩) _ _ _ hL
  have c0 := cell_keeps hb2 Hc0.out
  have c1 := cell_keeps hb2 Hc1.out
  have c2 := cell_keeps hb2 Hc2.out
  have HP2 : Hid _ := HPC.out
  clear HC HK H4 hL hb hbA hb0 HPC
  go_wp2_with fail
  rw [← hw2]
  clear hw2
  go_region_held3 (fun w' => w'.cell? ⟨b, 0, none⟩ = some (.int .i64 (q : Int)) ∧ w'.cell? ⟨b, 2, none⟩ = some (.pointer (some ⟨c, 0, none⟩))) (go_keep)
    (first
      | (go_at_call 22; (with_reducible refine Calls.mono (byOrder_any q w3) ?_); rintro e w4 ⟨rfl, rfl⟩; have c0 := cell_keeps ((Grew.refl w3).alloc (.cells #[.int .i64 (q : Int)] 3)).below c0; have c2 := cell_keeps ((Grew.refl w3).alloc (.cells #[.int .i64 (q : Int)] 3)).below c2)
      | (go_at_call 28; (with_reducible refine Calls.mono (HP2.out _ ?_) ?_); (first | exact hb2 | exact hb2.drew); rintro e w3 ⟨v3, rfl, hg3, hs3⟩; have hb3 : Below w2.heap.size w2 w3 := (Below.refl _ _).drew.trans hg3; have HG : Hid _ := hs3; have c0 := cell_keeps hb3 c0; have c2 := cell_keeps hb3 c2; clear hs3 hg3 HP2)
      | (go_at_call 27; refine Calls.mono (HG.out (w3.alloc (.cells #[.int .i64 (q : Int)] 3)) w3.heap.size ((Grew.refl w3).alloc _).below (at_new19 w3 q)) ?_; rintro e w5 ⟨hg5, h5, p5, rfl, hm5, hp5, ho5⟩; have hb5 : Below w2.heap.size w2 w5 := hb3.trans ((((Grew.refl w3).alloc _).below.trans (hg5.mono (by simp))).mono hb3.size); have HE5 : Hid (HpO (fun b => X b ∧ b < w.heap.size) w5 h5 p5 ∧ (oItems h5).Perm bt.items ∧ oOk (ordV q) h5) := ⟨hm5, hp5, ho5⟩; have c0 := cell_keeps hg5 c0; have c1 := cell_keeps hb5 c1; have c2 := cell_keeps hg5 c2; clear HG hg5 hm5 hp5 ho5))
  have x0 := cell_keeps hb5 x0; have x1 := cell_keeps hb5 x1; have x2 := cell_keeps hb5 x2; have x3 := cell_keeps hb5 x3
  have HK5 : Hid (Blank w5 w.heap.size) := HK2.out.keeps hb5
  have hw2z : w.heap.size < w2.heap.size := cell_lt HK2.out.c0
  have H45 : Hid (w5.cell? ⟨w.heap.size, 4, none⟩ = none) := by show _ = _; rw [hb5.cell (p := ⟨w.heap.size, 4, none⟩) hw2z]; exact H42.out
  have HL5 : Hid (LiesB (w.heap.size + 1) 16 w5 it (.slice av it.length cv)) := LiesB.stays (fun a v _ hv => ⟨cell_keeps hb5 hv, hb5.frozen (cell_lt hv)⟩) _ _ _ HL2.out
  have HB5 : Hid (Below w.heap.size w w5) := hb2.trans (hb5.mono hb2.size)
  obtain ⟨y0, y1, y2, y3, f0, f1, f2, f3⟩ := HK5.out
  have hR5 : w.heap.size < w5.heap.size := cell_lt y0
  have hbR : b < w.heap.size := cell_lt Hc0.out
  have hx5 : w1.heap.size < w5.heap.size := cell_lt x0
  have zc0 : ∀ A, (w5.alloc A).cell? ⟨b, 0, none⟩ = some (.int .i64 (q : Int)) := fun A => cell_keeps ((Grew.refl w5).alloc A).below c0
  have zc1 : ∀ A, (w5.alloc A).cell? ⟨b, 1, none⟩ = some (.int .i64 (N : Int)) := fun A => cell_keeps ((Grew.refl w5).alloc A).below c1
  have zx0 : ∀ A, (w5.alloc A).cell? ⟨w1.heap.size, 0, none⟩ = some (.int .i64 k) := fun A => cell_keeps ((Grew.refl w5).alloc A).below x0
  have zx1 : ∀ A, (w5.alloc A).cell? ⟨w1.heap.size, 1, none⟩ = some (.int .i64 n) := fun A => cell_keeps ((Grew.refl w5).alloc A).below x1
  have zx2 : ∀ A, (w5.alloc A).cell? ⟨w1.heap.size, 2, none⟩ = some (.string s) := fun A => cell_keeps ((Grew.refl w5).alloc A).below x2
  have zx3 : ∀ A, (w5.alloc A).cell? ⟨w1.heap.size, 3, none⟩ = some (.slice av it.length cv) := fun A => cell_keeps ((Grew.refl w5).alloc A).below x3
  have zy0 : ∀ A, (w5.alloc A).cell? ⟨w.heap.size, 0, none⟩ = some (.int .i64 0) := fun A => cell_keeps ((Grew.refl w5).alloc A).below y0
  have zf0 : ∀ A, (w5.alloc A).frozen? ⟨w.heap.size, 0, none⟩ = false := fun A => (((Grew.refl w5).alloc A).below.frozen (p := ⟨w.heap.size, 0, none⟩) hR5).trans f0
  have zy1 : ∀ A, (w5.alloc A).cell? ⟨w.heap.size, 1, none⟩ = some (.int .i64 0) := fun A => cell_keeps ((Grew.refl w5).alloc A).below y1
  have zf1 : ∀ A, (w5.alloc A).frozen? ⟨w.heap.size, 1, none⟩ = false := fun A => (((Grew.refl w5).alloc A).below.frozen (p := ⟨w.heap.size, 1, none⟩) hR5).trans f1
  have zy2 : ∀ A, (w5.alloc A).cell? ⟨w.heap.size, 2, none⟩ = some (.string ⟨#[]⟩) := fun A => cell_keeps ((Grew.refl w5).alloc A).below y2
  have zf2 : ∀ A, (w5.alloc A).frozen? ⟨w.heap.size, 2, none⟩ = false := fun A => (((Grew.refl w5).alloc A).below.frozen (p := ⟨w.heap.size, 2, none⟩) hR5).trans f2
  have zy3 : ∀ A, (w5.alloc A).cell? ⟨w.heap.size, 3, none⟩ = some (.slice none 0 0) := fun A => cell_keeps ((Grew.refl w5).alloc A).below y3
  have zf3 : ∀ A, (w5.alloc A).frozen? ⟨w.heap.size, 3, none⟩ = false := fun A => (((Grew.refl w5).alloc A).below.frozen (p := ⟨w.heap.size, 3, none⟩) hR5).trans f3
  have n1 : ¬ b = w.heap.size := by omega
  have n2 : ¬ w1.heap.size = w.heap.size := by omega
  have n3 : ¬ w.heap.size = b := by omega
  have n4 : ¬ w.heap.size = w1.heap.size := by omega
  have n5 : ¬ w.heap.size = w5.heap.size := by omega
  have n6 : ¬ w5.heap.size = w.heap.size := by omega
  have n7 : ¬ b = w5.heap.size := by omega
  have n8 : ¬ w1.heap.size = w5.heap.size := by omega
  have eN : IntKind.i64.wrap ((N : Int) - 1) = ((N - 1 : Nat) : Int) := by rw [IntKind.wrap_i64]; omega
  clear hb5 hb3 hb2 HK2 H42 HL2 hbz hsz hw2z hR5 hx5 hbR c2
  go_wp2_with fail
  go_region
  have Hfin : Hid _ := pop_fin (x := ⟨k, n, s, it⟩) (T := 51) HE5.out HM.out HN.out HK5.out H45.out HL5.out HB5.out
  go_wp2_with fail
  refine bodyPost_ret (v := .tuple #[.pointer (some ⟨w5.heap.size, 0, none⟩), .agg #[.int .i64 k, .int .i64 n, .string s, .slice av it.length cv], .int .i64 0]) ?_ rfl Hfin.out.1
  obtain ⟨q0, q1, q2, q3⟩ := Hfin.out.2
  simp only [encP, World.setCells, Nat.zero_add, Nat.reduceAdd] at q0 q1 q2 q3
  simp [results, Try.results8, go_sem, q0, q1, q2, q3]

theorem pop_any19 {X : Nat → Prop} {q : Nat} {I : List VT} {p : Option Addr} {w : World} (h : QN X w q I p) : Calls Try.prog 8 #[.pointer p] w (PopPost X q I w) := by
  by_cases hne : I = []
  · subst hne
    exact pop_bare19 h
  · rcases h with ⟨_, _, h0⟩ | ⟨b, rfl, hc⟩
    · exact absurd h0 hne
    · exact pop_some19 hc hne

end Go.Proofs.Ytffjdpbobkdmfaa

namespace Go.Proofs.Ytffjdpbobkdmfaa
open Go.RowKit Go.Shelf

/-- A number as a value's tree. -/
def num19 (n : Int) : VT := ⟨2, n, ⟨#[]⟩, []⟩
def pair19 (n : Int) : VT × Value := (num19 n, .slice none 0 0)

theorem right_num19 (n : Int) : rightV 0 (num19 n) = true := by
  simp [rightV, fw, rpV, ownV, okNum, okText, okItems, num19]

theorem nums_cells19 (zs : List Int) : zs.flatMap cellsInt = (zs.map pair19).flatMap encP := by
  induction zs with
  | nil => rfl
  | cons z zs ih => rw [List.flatMap_cons, List.map_cons, List.flatMap_cons, ih]; rfl

theorem nums_lies19 {w : World} {b c : Nat} (zs : List Int) (h : RowAt w b 0 (zs.map pair19)) (hl : zs.length ≤ 1000) (hc : zs.length ≤ c) : Lies 1 w (zs.map num19) (.slice (some ⟨b, 0, none⟩) zs.length c) := by
  have := lies_of_row (d := 0) (c := c) h (fun p hp => by
    obtain ⟨z, _, rfl⟩ := List.mem_map.1 hp
    exact ⟨⟨rfl, none, 0, rfl⟩, by show 0 ≤ 9223372036854775807; omega⟩) (by simp; omega) (by simpa using hc)
  simpa [List.map_map, Function.comp_def, pair19] using this

theorem nums_err19 (zs : List Int) (h : zs.length ≤ 1000) : listErr 0 (zs.map num19) = 0 := by
  unfold listErr
  rw [if_neg (by simp; omega), if_pos (by
    rw [List.all_eq_true]
    intro x hx
    obtain ⟨z, _, rfl⟩ := List.mem_map.1 hx
    exact right_num19 z)]

set_option maxHeartbeats 1000000 in
/-- Numbers as values. -/
theorem nums_any19 (zs : List Int) (b cap : Nat) (w : World) (h0 : zs ≠ []) (hz : zs.length ≤ 1000) (hc : ∀ (i : Nat) (h : i < zs.length), w.cell? ⟨b, 0 + i, none⟩ = some (.int .i64 (zs[i]'h))) :
    Calls Try.prog 23 #[.slice (some ⟨b, 0, none⟩) zs.length cap] w fun e w' => ∃ g c, e = .returned (.slice (some ⟨g, 0, none⟩) zs.length c) ∧ Lies 1 w' (zs.map num19) (.slice (some ⟨g, 0, none⟩) zs.length c) ∧ Below w.heap.size w w' := by
  refine (ints_any b zs cap w hz hc).mono ?_
  rintro e w1 ⟨v, rfl, hown, hb⟩
  rw [nums_cells19] at hown
  obtain ⟨g, c, rfl, _, hcp, _, hrow, _⟩ := own_row (ps := zs.map pair19) (by simpa using hown) (by simpa using h0)
  refine ⟨g, c, by simp, nums_lies19 zs hrow hz (by simpa using hcp), hb⟩

theorem srt_four19 : srtV 0 ([3, 1, 2, 1].map num19) = [1, 1, 2, 3].map num19 := by kernel_rfl

theorem look_four19 : lookE 0 0 ([3, 1, 2, 1].map num19) = 0 := by unfold lookE; rw [if_neg (by omega)]; exact nums_err19 _ (by simp)

set_option maxRecDepth 100000 in
set_option maxHeartbeats 4000000 in
theorem speaks19_any (w : World) : Calls Try.prog 6 #[] w fun e w' => e = .returned (.bool true) ∧ Below w.heap.size w w' := by
  go_enter Try.func6, Try.ntmps6
  go_wp2_with fail
  refine (nums_any19 [3, 1, 2, 1] w.heap.size 4 _ (by simp) (by simp) ?_).mono ?_
  · intro i hi
    match i, hi with
    | 0, _ => simp
    | 1, _ => simp
    | 2, _ => simp
    | 3, _ => simp
  rintro e w1 ⟨g1, c1, rfl, hL1, hb⟩
  have hb1 : Below w.heap.size w w1 := ((Grew.refl w).alloc _).below.trans (hb.mono (by simp))
  have HL1 : Hid (Lies 1 w1 ([3, 1, 2, 1].map num19) (.slice (some ⟨g1, 0, none⟩) 4 c1)) := hL1
  clear hL1 hb
  go_wp2_with fail
  refine (of_any19 (fun _ => True) 0 0 ([3, 1, 2, 1].map num19) _ _ HL1.out (fun _ _ => trivial)).mono ?_
  rintro e w2 ⟨hb, ⟨h0, _⟩ | ⟨_, p, rfl, hq⟩⟩
  · exact absurd look_four19 h0
  have hb2 : Below w.heap.size w w2 := hb1.trans (hb.mono hb1.size)
  obtain ⟨b, rfl, hc⟩ := hq
  have HQ : Hid (QC (fun _ => True) w2 0 ([3, 1, 2, 1].map num19) b) := hc
  clear hc hb HL1 hb1
  have HMin : Hid (Calls Try.prog 11 #[.pointer (some ⟨b, 0, none⟩)] w2 fun e w' => ∃ a c, e = .returned (.tuple #[.agg #[.int .i64 2, .int .i64 1, .string ⟨#[]⟩, .slice a 0 c], .int .i64 0]) ∧ Below w2.heap.size w2 w') := by
    refine Calls.mono (min_any19 (.inr ⟨b, rfl, HQ.out⟩)) ?_
    rintro e w' ⟨hb, ⟨h0, _⟩ | ⟨x, m, v, h0, rfl, hL, _⟩⟩
    · cases h0
    · rw [srt_four19] at h0
      injection h0 with h1 _
      subst h1
      obtain ⟨a, c, rfl, _⟩ := LiesB.slice hL
      exact ⟨a, c, rfl, hb⟩
  go_wp2_with fail
  refine Calls.mono HMin.out ?_
  rintro e w3 ⟨a3, c3, rfl, hb⟩
  have hg3 : Below w2.heap.size w2 (w3.alloc (.cells #[.int .i64 2, .int .i64 1, .string ⟨#[]⟩, .slice a3 0 c3] 30)) := hb.alloc hb.size _
  have hb3 : Below w.heap.size w (w3.alloc (.cells #[.int .i64 2, .int .i64 1, .string ⟨#[]⟩, .slice a3 0 c3] 30)) := hb2.trans (hg3.mono hb2.size)
  have HQ3 : Hid (QC (fun _ => True) (w3.alloc (.cells #[.int .i64 2, .int .i64 1, .string ⟨#[]⟩, .slice a3 0 c3] 30)) 0 ([3, 1, 2, 1].map num19) b) := HQ.out.keeps hg3
  clear HMin HQ hb hg3 hb2
  go_wp2_with fail
  refine Calls.mono (len_any19 (.inr ⟨b, rfl, HQ3.out⟩)) ?_
  rintro e w4 ⟨rfl, hg⟩
  have hb4 : Below w.heap.size w w4 := hb3.trans (hg.mono hb3.size)
  have HQ4 : Hid (QC (fun _ => True) w4 0 ([3, 1, 2, 1].map num19) b) := HQ3.out.keeps hg
  clear HQ3 hg hb3
  go_wp2_with fail
  refine Calls.mono (sorted_any19 (.inr ⟨b, rfl, HQ4.out⟩)) ?_
  rintro e w5 ⟨v5, rfl, hL5, hg⟩
  have hb5 : Below w.heap.size w w5 := hb4.trans (hg.mono hb4.size)
  have hL5' := LiesB.lies _ _ _ hL5
  rw [srt_four19] at hL5'
  obtain ⟨a5, c5, rfl, _⟩ := Lies.slice hL5'
  have hb5' : Below w.heap.size w (w5.alloc (.cells #[.int .i64 1, .int .i64 1, .int .i64 2, .int .i64 3] 2)) := hb5.alloc hb5.size _
  have HL5 : Hid (Lies 17 (w5.alloc (.cells #[.int .i64 1, .int .i64 1, .int .i64 2, .int .i64 3] 2)) ([1, 1, 2, 3].map num19) (.slice a5 4 c5)) := Lies.keeps ((Grew.refl _).alloc _).below _ _ _ hL5'
  clear HQ4 hg hL5 hL5' hb4 hb5
  go_wp2_with fail
  refine (nums_any19 [1, 1, 2, 3] w5.heap.size 4 _ (by simp) (by simp) ?_).mono ?_
  · intro i hi
    match i, hi with
    | 0, _ => simp
    | 1, _ => simp
    | 2, _ => simp
    | 3, _ => simp
  rintro e w6 ⟨g6, c6, rfl, hL6, hb⟩
  have hb6 : Below w.heap.size w w6 := hb5'.trans (hb.mono hb5'.size)
  have HL6 : Hid (Lies 17 w6 ([1, 1, 2, 3].map num19) (.slice (some ⟨g6, 0, none⟩) 4 c6)) := hL6.atLeast 17 (by omega)
  have HV6 : Hid (Lies 17 w6 ([1, 1, 2, 3].map num19) (.slice a5 4 c5)) := Lies.keeps hb _ _ _ HL5.out
  clear hL6 hb HL5 hb5'
  go_wp2_with fail
  refine (values_one 16 ([1, 1, 2, 3].map num19) _ _ _ HV6.out HL6.out (by simp)).mono ?_
  rintro e w7 ⟨rfl, hb⟩
  have hb7 : Below w.heap.size w w7 := hb6.trans (hb.mono hb6.size)
  clear hb HL6 HV6 hb6
  go_wp2_with fail
  go_ret
  exact ⟨rfl, hb7⟩

end Go.Proofs.Ytffjdpbobkdmfaa

namespace Go.Proofs.Ytffjdpbobkdmfaa
open Go.RowKit Go.Shelf

/-- The rest of a sorted list is sorted. -/
theorem srt_drop19 (q : Nat) (l : List VT) (hg : ∀ x ∈ l, Good 16 x) (j : Nat) : srtV q ((srtV q l).drop j) = (srtV q l).drop j := by
  refine up_one q _ _ (srt_perm _ _ _) (fun x hx => hg x (srtV_mem (List.mem_of_mem_drop (srtV_mem hx)))) (srtV_up q _) ?_
  exact List.Pairwise.drop (srtV_up q l)

theorem value_self19 (x : VT) (u v : Value) (W : World) (h1 : Lies 16 W x.items u) (h2 : Lies 16 W x.items v) : Calls Try.prog 9 #[.agg #[.int .i64 x.kind, .int .i64 x.num, .string x.text, u], .agg #[.int .i64 x.kind, .int .i64 x.num, .string x.text, v]] W fun e W' => e = .returned (.bool true) ∧ Below W.heap.size W W' :=
  (same_any 16 x x _ _ W h1 h2).mono fun e W' h => ⟨by rw [h.1, sameV_self], h.2.below⟩

/-- Pop, while there are items. -/
theorem pop_next19 {q : Nat} {L : List VT} (j : Nat) (hj : j < L.length) {b : Nat} {w : World} (h : QC (fun _ => True) w q (L.drop j) b) (hs : srtV q (L.drop j) = L.drop j) : Calls Try.prog 8 #[.pointer (some ⟨b, 0, none⟩)] w fun e w' => ∃ c a n, e = .returned (.tuple #[.pointer (some ⟨c, 0, none⟩), .agg #[.int .i64 L[j].kind, .int .i64 L[j].num, .string L[j].text, .slice a L[j].items.length n], .int .i64 0]) ∧ QC (fun _ => True) w' q (L.drop (j + 1)) c ∧ Lies 16 w' L[j].items (.slice a L[j].items.length n) ∧ Below w.heap.size w w' := by
  refine Calls.mono (pop_any19 (.inr ⟨b, rfl, h⟩)) ?_
  rintro e w' ⟨hb, ⟨h0, _⟩ | ⟨x, m, u, p, h0, rfl, ⟨c, rfl, hc⟩, hL, _⟩⟩
  · have := congrArg List.length h0
    rw [List.length_drop, List.length_nil] at this
    omega
  · rw [hs, List.drop_eq_getElem_cons hj] at h0
    injection h0 with h1 h2
    subst h1 h2
    obtain ⟨a, n, rfl, _⟩ := LiesB.slice hL
    exact ⟨c, a, n, rfl, hc, LiesB.lies _ _ _ hL, hb⟩

theorem pop_end19 {q : Nat} {b : Nat} {w : World} (h : QC (fun _ => True) w q [] b) : Calls Try.prog 8 #[.pointer (some ⟨b, 0, none⟩)] w fun e w' => e = .returned (.tuple #[.pointer none, .agg #[.int .i64 0, .int .i64 0, .string ⟨#[]⟩, .slice none 0 0], .int .i64 6]) ∧ Below w.heap.size w w' := by
  refine Calls.mono (pop_any19 (.inr ⟨b, rfl, h⟩)) ?_
  rintro e w' ⟨hb, ⟨_, rfl⟩ | ⟨x, m, u, p, h0, _⟩⟩
  · exact ⟨rfl, hb⟩
  · cases h0

theorem min_end19 {q : Nat} {b : Nat} {w : World} (h : QC (fun _ => True) w q [] b) : Calls Try.prog 11 #[.pointer (some ⟨b, 0, none⟩)] w fun e w' => e = .returned (.tuple #[.agg #[.int .i64 0, .int .i64 0, .string ⟨#[]⟩, .slice none 0 0], .int .i64 6]) ∧ Below w.heap.size w w' := by
  refine Calls.mono (min_any19 (.inr ⟨b, rfl, h⟩)) ?_
  rintro e w' ⟨hb, ⟨_, rfl⟩ | ⟨x, m, _, h0, _⟩⟩
  · exact ⟨rfl, hb⟩
  · cases h0

set_option maxRecDepth 100000 in
set_option maxHeartbeats 8000000 in
theorem sorts_err19 (d : Nat) (o : Int) (l : List VT) (u : Value) (w : World) (hu : Lies (d + 1) w l u) (he : lookE d o l ≠ 0) : Calls Try.prog 3 #[.int .i64 o, u] w fun e w' => e = .returned (.bool true) ∧ Below w.heap.size w w' := by
  obtain ⟨a, c, rfl, _⟩ := Lies.slice hu
  have HO : Hid (Calls Try.prog 5 #[.int .i64 o, .slice a l.length c] w fun e w' => e = .returned (.tuple #[.pointer none, .int .i64 (lookE d o l)]) ∧ Below w.heap.size w w') := by
    refine Calls.mono (of_any19 (fun _ => True) d o l _ w hu (fun _ _ => trivial)) ?_
    rintro e w' ⟨hb, ⟨_, rfl⟩ | ⟨h0, _⟩⟩
    · exact ⟨rfl, hb⟩
    · exact absurd h0 he
  have h0' : (lookE d o l == 0) = false := by simpa using he
  have h1' : ¬ lookE d o l = 0 := he
  generalize lookE d o l = E at *
  clear hu he
  go_enter Try.func3, Try.ntmps3
  go_wp2_with fail
  refine Calls.mono HO.out ?_
  rintro e w1 ⟨rfl, hb1⟩
  clear HO
  go_wp2_with fail
  refine Calls.mono (speaks19_any w1) ?_
  rintro e w2 ⟨rfl, hg2⟩
  have hb2 : Below w.heap.size w w2 := hb1.trans (hg2.mono hb1.size)
  clear hg2 hb1
  go_wp2_with fail
  go_ret
  exact ⟨rfl, hb2⟩

set_option maxRecDepth 100000 in
set_option maxHeartbeats 8000000 in
theorem sorts_long19 (d q : Nat) (l : List VT) (u : Value) (w : World) (hu : Lies (d + 1) w l u) (he : lookE d q l = 0) (hl : 2000 < l.length) : Calls Try.prog 3 #[.int .i64 (q : Int), u] w fun e w' => e = .returned (.bool true) ∧ Below w.heap.size w w' := by
  obtain ⟨a, c, rfl, _⟩ := Lies.slice hu
  have HO : Hid (Calls Try.prog 5 #[.int .i64 (q : Int), .slice a l.length c] w fun e w' => ∃ b, e = .returned (.tuple #[.pointer (some ⟨b, 0, none⟩), .int .i64 0]) ∧ Below w.heap.size w w') := by
    refine Calls.mono (of_any19 (fun _ => True) d q l _ w hu (fun _ _ => trivial)) ?_
    rintro e w' ⟨hb, ⟨h0, _⟩ | ⟨_, p, rfl, b, rfl, hc⟩⟩
    · exact absurd he h0
    · exact ⟨b, rfl, hb⟩
  have hl' : (2000 : Int) < (l.length : Int) := by omega
  clear hu he hl
  go_enter Try.func3, Try.ntmps3
  go_wp2_with fail
  refine Calls.mono HO.out ?_
  rintro e w1 ⟨b, rfl, hb1⟩
  clear HO
  go_wp2_with fail
  refine Calls.mono (speaks19_any w1) ?_
  rintro e w2 ⟨rfl, hg2⟩
  have hb2 : Below w.heap.size w w2 := hb1.trans (hg2.mono hb1.size)
  clear hg2 hb1
  go_wp2_with fail
  go_ret
  exact ⟨rfl, hb2⟩

set_option maxRecDepth 100000 in
set_option maxHeartbeats 8000000 in
theorem sorts_ok19 (d q : Nat) (l : List VT) (u : Value) (w : World) (hu : Lies (d + 1) w l u) (he : lookE d q l = 0) (hl : l.length ≤ 2000) : Calls Try.prog 3 #[.int .i64 (q : Int), u] w fun e w' => e = .returned (.bool true) ∧ Below w.heap.size w w' := by
  obtain ⟨a, c, rfl, _⟩ := Lies.slice hu
  have HO : Hid (Calls Try.prog 5 #[.int .i64 (q : Int), .slice a l.length c] w fun e w' => ∃ b, e = .returned (.tuple #[.pointer (some ⟨b, 0, none⟩), .int .i64 0]) ∧ QC (fun _ => True) w' q l b ∧ Below w.heap.size w w') := by
    refine Calls.mono (of_any19 (fun _ => True) d q l _ w hu (fun _ _ => trivial)) ?_
    rintro e w' ⟨hb, ⟨h0, _⟩ | ⟨_, p, rfl, b, rfl, hc⟩⟩
    · exact absurd he h0
    · exact ⟨b, rfl, hc, hb⟩
  have hl' : ¬ (2000 : Int) < (l.length : Int) := by omega
  have HLl : Hid (l.length ≤ 2000) := hl
  clear hu he hl
  go_enter Try.func3, Try.ntmps3
  go_wp2_with fail
  refine Calls.mono HO.out ?_
  rintro e w1 ⟨b, rfl, hc, hb1⟩
  have HQ : Hid (QC (fun _ => True) w1 q l b) := hc
  clear HO hc
  go_wp2_with fail
  refine Calls.mono (sorted_any19 (.inr ⟨b, rfl, HQ.out⟩)) ?_
  rintro e w2 ⟨v2, rfl, hL2, hg2⟩
  have HB2 : Hid (Below w.heap.size w w2) := hb1.trans (hg2.mono hb1.size)
  have HQ2 : Hid (QC (fun _ => True) w2 q l b) := HQ.out.keeps hg2
  have Hdr : Hid (∀ j, srtV q ((srtV q l).drop j) = (srtV q l).drop j) := fun j => srt_drop19 q l HQ.out.good j
  have HLn : Hid ((srtV q l).length = l.length) := srtV_len q l
  have HQ0 : Hid (QC (fun _ => True) w2 q (srtV q l) b) := HQ2.out.perm (srt_perm _ _ _ : (srtV q l).Perm l).symm
  have HL2 : Hid (Lies 17 w2 (srtV q l) v2) := LiesB.lies _ _ _ hL2
  clear hg2 hb1 hL2 HQ
  obtain ⟨L, hL⟩ : ∃ L, L = srtV q l := ⟨_, rfl⟩
  have HSL : Hid (L = srtV q l) := hL
  rw [← hL] at Hdr HLn HQ0 HL2
  clear hL
  obtain ⟨a2, c2, rfl, _⟩ := Lies.slice HL2.out
  have hLn : L.length ≤ 2000 := by rw [HLn.out]; exact HLl.out
  go_wp2_with fail
  go_loopg [8, 47] L.length (fun z v8 i wr => ∃ (j c : Nat), v8 = .pointer (some ⟨c, 0, none⟩) ∧ i = .int .i64 (j : Int) ∧ j ≤ L.length ∧ z = L.length - j ∧ Hid (QC (fun _ => True) wr q (L.drop j) c) ∧ Hid (Below w2.heap.size w2 wr))
  case atStart => exact ⟨0, b, rfl, rfl, by omega, by omega, HQ0, Below.refl _ _⟩
  case round =>
    obtain ⟨j, cq, rfl, rfl, hj, hk, HQj, HBj⟩ := hrel
    have Hk : Hid _ := hk
    clear hk HQ0
    by_cases hlt : j < L.length
    · have HP : Hid _ := pop_next19 j hlt HQj.out (Hdr.out j)
      clear HQj
      go_wp2_with fail
      refine Calls.mono HP.out ?_
      rintro e w3 ⟨c3, a3, n3, rfl, hq3, hl3, hg3⟩
      obtain ⟨w4, hw4⟩ : ∃ w4, w4 = w3.alloc (.cells #[.int .i64 L[j].kind, .int .i64 L[j].num, .string L[j].text, .slice a3 L[j].items.length n3] 30) := ⟨_, rfl⟩
      have hg4 : Below w3.heap.size w3 w4 := by rw [hw4]; exact ((Grew.refl w3).alloc _).below
      have hwr4 : Below wr.heap.size wr w4 := hg3.trans (hg4.mono hg3.size)
      have HB4 : Hid (Below w2.heap.size w2 w4) := HBj.out.trans (hwr4.mono HBj.out.size)
      have x0 : w4.cell? ⟨w3.heap.size, 0, none⟩ = some (.int .i64 L[j].kind) := by rw [hw4]; simp
      have x1 : w4.cell? ⟨w3.heap.size, 1, none⟩ = some (.int .i64 L[j].num) := by rw [hw4]; simp
      have x2 : w4.cell? ⟨w3.heap.size, 2, none⟩ = some (.string L[j].text) := by rw [hw4]; simp
      have x3 : w4.cell? ⟨w3.heap.size, 3, none⟩ = some (.slice a3 L[j].items.length n3) := by rw [hw4]; simp
      obtain ⟨_, _, e2, _, hr2⟩ := HL2.out
      injection e2 with e2 _ e4
      subst e2 e4
      obtain ⟨b1, o1, ha2, hall2⟩ := hr2 (by intro e; simp [e] at hlt)
      obtain ⟨y, p0, p1, p2, p3, p4, _⟩ := hall2 j hlt
      subst ha2
      obtain ⟨ay, cy, rfl, _⟩ := Lies.slice p4
      have p0 := cell_keeps HB4.out p0; have p1 := cell_keeps HB4.out p1; have p2 := cell_keeps HB4.out p2; have p3 := cell_keeps HB4.out p3
      have HV : Hid (∀ V, Below w4.heap.size w4 V → Calls Try.prog 9 #[.agg #[.int .i64 L[j].kind, .int .i64 L[j].num, .string L[j].text, .slice a3 L[j].items.length n3], .agg #[.int .i64 L[j].kind, .int .i64 L[j].num, .string L[j].text, .slice ay L[j].items.length cy]] V fun e V' => e = .returned (.bool true) ∧ Below V.heap.size V V') := fun V hV => value_self19 L[j] _ _ V (Lies.keeps hV _ _ _ (Lies.keeps hg4 _ _ _ hl3)) (Lies.keeps hV _ _ _ (Lies.keeps HB4.out _ _ _ p4))
      obtain ⟨K, hK⟩ : ∃ K, K = (L.drop (j + 1)).length := ⟨_, rfl⟩
      have HLen : Hid (∀ V, Below w4.heap.size w4 V → Calls Try.prog 10 #[.pointer (some ⟨c3, 0, none⟩)] V fun e V' => e = .returned (.int .i64 (K : Int)) ∧ Below V.heap.size V V') := fun V hV => by
        rw [hK]
        exact len_any19 (.inr ⟨c3, rfl, (hq3.keeps hg4).keeps hV⟩)
      rw [List.length_drop] at hK
      have HQ4 : Hid (QC (fun _ => True) w4 q (L.drop (j + 1)) c3) := hq3.keeps hg4
      obtain ⟨M, hM⟩ : ∃ M, M = L.length - j := ⟨_, rfl⟩
      have e1 : IntKind.i64.wrap ((L.length : Int) - (j : Int)) = (M : Int) := by rw [IntKind.wrap_i64]; omega
      have e2 : IntKind.i64.wrap ((M : Int) - 1) = (K : Int) := by rw [IntKind.wrap_i64]; omega
      clear hK hM hl3 hg3 hq3 hall2 hr2 p4 hg4 hwr4 HP
      generalize L[j] = T at *
      go_wp2_with fail
      rw [← hw4]
      clear hw4
      go_region_held3 (fun w' => w'.cell? ⟨w3.heap.size, 0, none⟩ = some (.int .i64 T.kind) ∧ w'.cell? ⟨w3.heap.size, 1, none⟩ = some (.int .i64 T.num) ∧ w'.cell? ⟨w3.heap.size, 2, none⟩ = some (.string T.text) ∧ w'.cell? ⟨w3.heap.size, 3, none⟩ = some (.slice a3 T.items.length n3) ∧ w'.cell? ⟨b1, o1 + j * 4, none⟩ = some (.int .i64 T.kind) ∧ w'.cell? ⟨b1, o1 + j * 4 + 1, none⟩ = some (.int .i64 T.num) ∧ w'.cell? ⟨b1, o1 + j * 4 + 2, none⟩ = some (.string T.text) ∧ w'.cell? ⟨b1, o1 + j * 4 + 3, none⟩ = some (.slice ay T.items.length cy)) (go_keep)
        (first
          | (go_at_call 10; (with_reducible refine Calls.mono (HLen.out _ ?_) ?_); (first | exact hv5 | exact hv5.drew); rintro e w6 ⟨rfl, hg6⟩; have hz : Below w5.heap.size w5 w6 := hg6; have hv6 : Below w4.heap.size w4 w6 := hv5.trans (hz.mono hv5.size); have x0 := cell_keeps hz x0; have x1 := cell_keeps hz x1; have x2 := cell_keeps hz x2; have x3 := cell_keeps hz x3; have p0 := cell_keeps hz p0; have p1 := cell_keeps hz p1; have p2 := cell_keeps hz p2; have p3 := cell_keeps hz p3; clear hz hg6 HLen)
          | (go_at_call 9; (with_reducible refine Calls.mono (HV.out _ ?_) ?_); (first | exact Below.refl _ _ | exact (Below.refl _ _).drew); rintro e w5 ⟨rfl, hg5⟩; have hz : Below w4.heap.size w4 w5 := (Below.refl _ _).drew.trans hg5; have hv5 : Below w4.heap.size w4 w5 := hz; have x0 := cell_keeps hz x0; have x1 := cell_keeps hz x1; have x2 := cell_keeps hz x2; have x3 := cell_keeps hz x3; have p0 := cell_keeps hz p0; have p1 := cell_keeps hz p1; have p2 := cell_keeps hz p2; have p3 := cell_keeps hz p3; clear hz hg5 HV))
      have HQ6 : Hid (QC (fun _ => True) w6 q (L.drop (j + 1)) c3) := HQ4.out.keeps hv6
      have HB6 : Hid (Below w2.heap.size w2 w6) := HB4.out.trans (hv6.mono HB4.out.size)
      clear hv5 hv6 HQ4 HB4 x0 x1 x2 x3 p0 p1 p2 p3 e1 e2
      go_wp2_with fail
      go_roundg (L.length - (j + 1))
      case measure => have := Hk.out; omega
      case rel => exact ⟨j + 1, c3, rfl, by go_num, by omega, rfl, HQ6, HB6⟩
    · have hjl : j = L.length := by omega
      have HQe : Hid (QC (fun _ => True) wr q [] cq) := by
        have h := HQj.out
        rw [List.drop_eq_nil_of_le (by omega)] at h
        exact h
      have HBr : Hid (Below w.heap.size w wr) := HB2.out.trans (HBj.out.mono HB2.out.size)
      have HQr : Hid (QC (fun _ => True) wr q l b) := HQ2.out.keeps HBj.out
      have HLr : Hid (Lies 17 wr L (.slice a2 L.length c2)) := Lies.keeps HBj.out _ _ _ HL2.out
      clear HQj HBj hjl HL2 HQ2 HB2 Hdr
      go_wp2_with fail
      refine Calls.mono (pop_end19 HQe.out) ?_
      rintro e w3 ⟨rfl, hg3⟩
      obtain ⟨w4, hw4⟩ : ∃ w4, w4 = w3.alloc (.cells #[.int .i64 0, .int .i64 0, .string ⟨#[]⟩, .slice none 0 0] 30) := ⟨_, rfl⟩
      have hg4 : Below wr.heap.size wr w4 := by rw [hw4]; exact hg3.alloc hg3.size _
      have HQe : Hid (QC (fun _ => True) w4 q [] cq) := HQe.out.keeps hg4
      have HQr : Hid (QC (fun _ => True) w4 q l b) := HQr.out.keeps hg4
      have HBr : Hid (Below w.heap.size w w4) := HBr.out.trans (hg4.mono HBr.out.size)
      have HLr : Hid (Lies 17 w4 L (.slice a2 L.length c2)) := Lies.keeps hg4 _ _ _ HLr.out
      clear hg3 hg4
      go_wp2_with fail
      rw [← hw4]
      clear hw4
      refine Calls.mono (min_end19 HQe.out) ?_
      rintro e w5 ⟨rfl, hg5⟩
      obtain ⟨w6, hw6⟩ : ∃ w6, w6 = w5.alloc (.cells #[.int .i64 0, .int .i64 0, .string ⟨#[]⟩, .slice none 0 0] 30) := ⟨_, rfl⟩
      have hg6 : Below w4.heap.size w4 w6 := by rw [hw6]; exact hg5.alloc hg5.size _
      have HQr : Hid (QC (fun _ => True) w6 q l b) := HQr.out.keeps hg6
      have HBr : Hid (Below w.heap.size w w6) := HBr.out.trans (hg6.mono HBr.out.size)
      have HLr : Hid (Lies 17 w6 L (.slice a2 L.length c2)) := Lies.keeps hg6 _ _ _ HLr.out
      clear hg5 hg6 HQe
      go_wp2_with fail
      rw [← hw6]
      clear hw6
      refine Calls.mono (sorted_any19 (.inr ⟨b, rfl, HQr.out⟩)) ?_
      rintro e w7 ⟨v7, rfl, hL7, hg7⟩
      have HQr : Hid (QC (fun _ => True) w7 q l b) := HQr.out.keeps hg7
      have HBr : Hid (Below w.heap.size w w7) := HBr.out.trans (hg7.mono HBr.out.size)
      have HLr : Hid (Lies 17 w7 L (.slice a2 L.length c2)) := Lies.keeps hg7 _ _ _ HLr.out
      have hL7' := LiesB.lies _ _ _ hL7
      rw [← HSL.out] at hL7'
      have HL7 : Hid (Lies 17 w7 L v7) := hL7'
      obtain ⟨a7, c7, rfl, _⟩ := Lies.slice hL7'
      clear hg7 hL7 hL7'
      go_wp2_with fail
      refine Calls.mono (values_one 16 L _ _ w7 HL7.out HLr.out (by omega)) ?_
      rintro e w8 ⟨rfl, hg8⟩
      have HQr : Hid (QC (fun _ => True) w8 q l b) := HQr.out.keeps hg8
      have HBr : Hid (Below w.heap.size w w8) := HBr.out.trans (hg8.mono HBr.out.size)
      clear hg8 HL7 HLr
      go_wp2_with fail
      refine Calls.mono (len_any19 (.inr ⟨b, rfl, HQr.out⟩)) ?_
      rintro e w9 ⟨rfl, hg9⟩
      have HBr : Hid (Below w.heap.size w w9) := HBr.out.trans (hg9.mono HBr.out.size)
      clear hg9 HQr
      go_wp2_with fail
      refine Calls.mono (speaks19_any w9) ?_
      rintro e w10 ⟨rfl, hg10⟩
      have HBr : Hid (Below w.heap.size w w10) := HBr.out.trans (hg10.mono HBr.out.size)
      clear hg10
      go_wp2_with fail
      go_ret
      exact ⟨rfl, HBr.out⟩

theorem sorts_walk19 (o : Int) (d : Nat) (l : List VT) (u : Value) (w : World) (hu : Lies (d + 1) w l u) : Calls Try.prog 3 #[.int .i64 o, u] w fun e w' => e = .returned (.bool true) ∧ Below w.heap.size w w' := by
  by_cases he : lookE d o l = 0
  · have ho : ¬ (o < 0 ∨ 6 ≤ o) := fun h => by unfold lookE at he; rw [if_pos h] at he; cases he
    obtain ⟨q, rfl⟩ : ∃ q : Nat, o = q := ⟨o.toNat, by omega⟩
    by_cases hl : 2000 < l.length
    · exact sorts_long19 d q l u w hu he hl
    · exact sorts_ok19 d q l u w hu he (by omega)
  · exact sorts_err19 d o l u w hu he

end Go.Proofs.Ytffjdpbobkdmfaa

