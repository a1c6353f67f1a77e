/-
  lowered, first and First with the blocks in which their answers lie; Pop.
-/
import Derived.Test.YtpnfmcmhcjekfabJoinV
import Derived.Test.YtpnfmcmhcjekfabVList
import Derived.Test.YtpnfmcmhcjekfabTail
import Derived.BigRegion
namespace Go.Proofs.Ytpnfmcmhcjekfab
open Go.RowKit

theorem right_len16 {t : VT} (hr : rightV 16 t = true) : Len 16 t := by
  have h := hr
  simp only [rightV, Bool.and_eq_true] at h
  exact sm_len 16 t (fw_small 16 t 16 1024 (by omega) (by omega) h.1)

theorem copyR (t : VT) (u : Value) (w : World) (hl : Lies 16 w t.items u) (hr : rightV 16 t = true) : Calls Try.prog 58 #[.agg #[.int .i64 t.kind, .int .i64 t.num, .string t.text, u]] w (CopyPost 16 t w) :=
  copyOf_any (fun s => s.size ≤ 281474976710656) txt_any 16 t u w hl (right_txt 16 t (right_rp hr)) (right_len16 hr)

set_option maxRecDepth 100000 in
set_option maxHeartbeats 4000000 in
theorem vrest_any (d : Nat) (l : List VT) (p : Value) (i : Int) (w : World) (h : VC d w l p) (hbig : l.length ≤ 1099511627776) : Calls Try.prog 40 #[p, .int .i64 i] w (VecPost d (if 0 ≤ i ∧ i ≤ (l.length : Int) then .inl (l.drop i.toNat) else .inr 5) w) := by
  have HO : Hid _ := hasEnd_any d l p i w h
  by_cases hi : 0 ≤ i ∧ i ≤ (l.length : Int)
  · rw [if_pos hi]
    rw [decide_eq_true hi] at HO
    obtain ⟨n, rfl⟩ := Int.eq_ofNat_of_zero_le hi.1
    have hn : n ≤ l.length := by omega
    rw [Int.toNat_natCast]
    have HLn : Hid (∀ V, Below w.heap.size w V → Calls Try.prog 31 #[p] V (NumPost l.length V)) := fun V hV => vlen_any d l p V (h.keeps hV)
    by_cases hw : n = l.length
    · subst hw
      have HNw : Hid (∀ V : World, Calls Try.prog 63 #[] V fun e w' => e = .returned (.pointer (some ⟨V.heap.size, 0, none⟩)) ∧ w' = V.alloc (.cells #[.nilIface] 72)) := fun V => by
        go_enter Try.func63, Try.ntmps63
        go_wp2_with fail
        go_ret
        exact ⟨rfl, rfl⟩
      have Hd : Hid (l.drop l.length = []) := List.drop_length
      clear h hi hn hbig
      go_enter Try.func40, Try.ntmps40
      go_wp2_with fail
      refine Calls.mono HO.out ?_
      rintro e w1 ⟨rfl, hb1⟩
      clear HO
      go_wp2_with fail
      refine (HLn.out _ hb1).mono ?_
      rintro e w2 ⟨rfl, hb2⟩
      have hbw : Below w.heap.size w w2 := hb1.trans (hb2.mono hb1.size)
      clear HLn
      go_wp2_with fail
      refine (HNw.out _).mono ?_
      rintro e w3 ⟨rfl, rfl⟩
      have HE : Hid (VecPost d (.inl (l.drop l.length)) w (.returned (.tuple #[.pointer (some ⟨w2.heap.size, 0, none⟩), .int .i64 0])) (w2.alloc (.cells #[.nilIface] 72))) := ⟨hbw.alloc hbw.size _, w2.heap.size, rfl, VC.made (.inl ⟨Hd.out, rfl⟩) _⟩
      clear HNw
      go_wp2_with fail
      go_ret2
      exact HE.out
    · have hl : l ≠ [] := fun e => by rw [e] at hn hw; simp at hn hw; omega
      rcases h with ⟨h0, _⟩ | ⟨b, t, rfl, hc, ht⟩
      · exact absurd h0 hl
      rcases ht with ⟨h0, _⟩ | ht
      · exact absurd h0 hl
      have HR : Hid (∀ V, Below w.heap.size w V → Calls Try.prog 64 #[t, .int .i64 (n : Int)] V (JoinPost d (l.drop n) V)) := fun V hV => rest_any d l t n V (ht.keeps hV) (by omega) hbig
      have Hc : Hid (w.cell? ⟨b, 0, none⟩ = some t) := hc
      have hni : ¬ ((n : Nat) : Int) = (l.length : Nat) := by omega
      clear ht hc hi hn hbig hw hl
      go_enter Try.func40, Try.ntmps40
      go_wp2_with fail
      refine Calls.mono HO.out ?_
      rintro e w1 ⟨rfl, hb1⟩
      clear HO
      go_wp2_with fail
      refine (HLn.out _ hb1).mono ?_
      rintro e w2 ⟨rfl, hb2⟩
      have hbw : Below w.heap.size w w2 := hb1.trans (hb2.mono hb1.size)
      have hc := cell_keeps hbw Hc.out
      clear HLn
      go_wp2_with fail
      refine (HR.out _ hbw).mono ?_
      rintro e w3 ⟨v3, rfl, ht3, hb3⟩
      have hbx : Below w.heap.size w w3 := hbw.trans (hb3.mono hbw.size)
      have HE : Hid (VecPost d (.inl (l.drop n)) w (.returned (.tuple #[.pointer (some ⟨w3.heap.size, 0, none⟩), .int .i64 0])) (w3.alloc (.cells #[v3] 72))) := ⟨hbx.alloc hbx.size _, w3.heap.size, rfl, VC.made ht3 _⟩
      rcases ht3.shape with hz | ⟨T, q, hz⟩
      · subst hz
        clear ht3 HR
        go_wp2_with fail
        go_ret2
        exact HE.out
      · subst hz
        clear ht3 HR
        go_wp2_with fail
        go_ret2
        exact HE.out
  · rw [if_neg hi]
    rw [decide_eq_false hi] at HO
    clear h hi hbig
    go_enter Try.func40, Try.ntmps40
    go_wp2_with fail
    refine Calls.mono HO.out ?_
    rintro e w1 ⟨rfl, hb1⟩
    have HE : Hid (VecPost d (.inr 5) w (.returned (.tuple #[.pointer none, .int .i64 5])) w1) := ⟨hb1, rfl⟩
    clear HO
    go_wp2_with fail
    go_ret2
    exact HE.out

end Go.Proofs.Ytpnfmcmhcjekfab

namespace Go.Proofs.Ytpnfmcmhcjekfab
open Go.RowKit

/-- The contract of grown. -/
def GrC : Prop := ∀ (l : List VT) (u : Value) (w : World), Lies 17 w l u → l.length ≤ 65536 → Calls Try.prog 34 #[u] w (JoinPost 16 l w)

/-- What Of tells. -/
def ofR (l : List VT) : List VT ⊕ Nat := if 65536 < l.length then .inr 2 else if l.all (rightV 16) then .inl l else .inr 3

set_option maxRecDepth 100000 in
set_option maxHeartbeats 4000000 in
theorem of_core (hgr : GrC) (l : List VT) (u : Value) (w : World) (hu : Lies 17 w l u) : Calls Try.prog 8 #[u] w (VecPost 16 (ofR l) w) := by
  have HCk : Hid _ := checkAll_any 16 l u w hu
  obtain ⟨R, hR⟩ : ∃ R, R = ofR l := ⟨_, rfl⟩
  rw [← hR]
  unfold ofR at hR
  unfold listErr at HCk
  by_cases h1 : 65536 < l.length
  · rw [if_pos h1] at hR HCk
    have HR : Hid (R = .inr 2) := hR
    clear hR hu h1
    go_enter Try.func8, Try.ntmps8
    go_wp2_with fail
    refine Calls.mono HCk.out ?_
    rintro e w1 ⟨rfl, hb1⟩
    have HE : Hid (VecPost 16 R w (.returned (.tuple #[.pointer none, .int .i64 2])) w1) := by
      show VecPost _ _ _ _ _
      rw [HR.out]
      exact ⟨hb1, rfl⟩
    clear HCk
    go_wp2_with fail
    go_ret2
    exact HE.out
  · rw [if_neg h1] at hR HCk
    by_cases h2 : l.all (rightV 16) = true
    · rw [if_pos h2] at hR HCk
      have HR : Hid (R = .inl l) := hR
      have HCp : Hid (∀ V, Below w.heap.size w V → Calls Try.prog 35 #[u] V fun e w' => ∃ v, e = .returned v ∧ LiesB V.heap.size 17 w' l v ∧ Below V.heap.size V w') := fun V hV => copyAll_core 16 l u V (Lies.keeps hV _ _ _ hu) (by omega) (fun x v W hx hv _ => copyR x v W hv (List.all_eq_true.1 h2 x hx))
      have HGr : Hid (∀ V v, Lies 17 V l v → Calls Try.prog 34 #[v] V (JoinPost 16 l V)) := fun V v hv => hgr l v V hv (by omega)
      clear hR hu h1 h2
      go_enter Try.func8, Try.ntmps8
      go_wp2_with fail
      refine Calls.mono HCk.out ?_
      rintro e w1 ⟨rfl, hb1⟩
      clear HCk
      go_wp2_with fail
      refine (HCp.out _ hb1).mono ?_
      rintro e w2 ⟨v2, rfl, hLB, hb2⟩
      have hbw : Below w.heap.size w w2 := hb1.trans (hb2.mono hb1.size)
      have HG2 : Hid _ := HGr.out w2 v2 (LiesB.lies _ _ _ hLB)
      clear HCp HGr hLB
      go_wp2_with fail
      refine Calls.mono HG2.out ?_
      rintro e w3 ⟨v3, rfl, ht3, hb3⟩
      have hbx : Below w.heap.size w w3 := hbw.trans (hb3.mono hbw.size)
      have HE : Hid (VecPost 16 R w (.returned (.tuple #[.pointer (some ⟨w3.heap.size, 0, none⟩), .int .i64 0])) (w3.alloc (.cells #[v3] 72))) := by
        show VecPost _ _ _ _ _
        rw [HR.out]
        exact ⟨hbx.alloc hbx.size _, w3.heap.size, rfl, VC.made ht3 _⟩
      rcases ht3.shape with hz | ⟨T, q, hz⟩
      · subst hz
        clear ht3 HG2
        go_wp2_with fail
        go_ret2
        exact HE.out
      · subst hz
        clear ht3 HG2
        go_wp2_with fail
        go_ret2
        exact HE.out
    · rw [if_neg h2] at hR HCk
      have HR : Hid (R = .inr 3) := hR
      clear hR hu h1 h2
      go_enter Try.func8, Try.ntmps8
      go_wp2_with fail
      refine Calls.mono HCk.out ?_
      rintro e w1 ⟨rfl, hb1⟩
      have HE : Hid (VecPost 16 R w (.returned (.tuple #[.pointer none, .int .i64 3])) w1) := by
        show VecPost _ _ _ _ _
        rw [HR.out]
        exact ⟨hb1, rfl⟩
      clear HCk
      go_wp2_with fail
      go_ret2
      exact HE.out

theorem VC.shape {d : Nat} {w : World} {l : List VT} {p : Value} (h : VC d w l p) : ∃ o, p = .pointer o := by
  rcases h with ⟨_, rfl⟩ | ⟨b, t, rfl, _⟩
  · exact ⟨_, rfl⟩
  · exact ⟨_, rfl⟩

end Go.Proofs.Ytpnfmcmhcjekfab

namespace Go.Proofs.Ytpnfmcmhcjekfab
open Go.RowKit

theorem TNX.tn {X : Nat → Prop} {d : Nat} {w : World} {l : List VT} {v : Value} (h : TNX X d w l v) : TN d w l v := by
  obtain ⟨h, hn, hp⟩ := h
  exact ⟨h, hn.nd _ _ _ _, hp⟩

theorem OTX.ot {X : Nat → Prop} {d : Nat} {w : World} {l : List VT} {v : Value} (h : OTX X d w l v) : OT d w l v := h.imp id TNX.tn

theorem OTX.stays {X : Nat → Prop} {d : Nat} {w w' : World} (hk : ∀ a v, X a.block → w.cell? a = some v → w'.cell? a = some v) {l : List VT} {v : Value} (h : OTX X d w l v) : OTX X d w' l v := by
  rcases h with h | ⟨h, hn, hp⟩
  · exact .inl h
  · exact .inr ⟨h, hn.stays (fun _ h => h) hk _ _ _ _, hp⟩

/-- As VC, in these blocks. -/
def VCX (X : Nat → Prop) (d : Nat) (w : World) (l : List VT) (p : Value) : Prop := (l = [] ∧ p = .pointer none) ∨ ∃ b t, p = .pointer (some ⟨b, 0, none⟩) ∧ X b ∧ w.cell? ⟨b, 0, none⟩ = some t ∧ OTX X d w l t

theorem VCX.vc {X : Nat → Prop} {d : Nat} {w : World} {l : List VT} {p : Value} (h : VCX X d w l p) : VC d w l p := by
  rcases h with h | ⟨b, t, hp, _, hc, ht⟩
  · exact .inl h
  · exact .inr ⟨b, t, hp, hc, ht.ot⟩

theorem VCX.stays {X : Nat → Prop} {d : Nat} {w w' : World} (hk : ∀ a v, X a.block → w.cell? a = some v → w'.cell? a = some v) {l : List VT} {p : Value} (h : VCX X d w l p) : VCX X d w' l p := by
  rcases h with h | ⟨b, t, hp, hx, hc, ht⟩
  · exact .inl h
  · exact .inr ⟨b, t, hp, hx, hk _ _ hx hc, ht.stays hk⟩

theorem VCX.keeps {X : Nat → Prop} {d : Nat} {w w' : World} {l : List VT} {p : Value} (h : VCX X d w l p) (hb : Below w.heap.size w w') : VCX X d w' l p := h.stays (fun _ _ _ hv => cell_keeps hb hv)

theorem VCX.made {X : Nat → Prop} {d : Nat} {w : World} {l : List VT} {t : Value} (hx : X w.heap.size) (ht : OTX X d w l t) (T : Nat) : VCX X d (w.alloc (.cells #[t] T)) l (.pointer (some ⟨w.heap.size, 0, none⟩)) :=
  .inr ⟨w.heap.size, t, rfl, hx, by simp, ht.stays (fun _ _ _ hv => cell_keeps ((Grew.refl w).alloc _).below hv)⟩

theorem VC.toX {d : Nat} {w : World} {l : List VT} {p : Value} (h : VC d w l p) {X : Nat → Prop} (hX : ∀ b, b < w.heap.size → X b) : VCX X d w l p := by
  rcases h with h | ⟨b, t, hp, hc, ht⟩
  · exact .inl h
  · refine .inr ⟨b, t, hp, hX b (cell_lt hc), hc, ?_⟩
    rcases ht with ht | ⟨h, hn, hpw⟩
    · exact .inl ht
    · exact .inr ⟨h, (ND.toX _ _ _ _ hn).mono hX _ _ _ _, hpw⟩

end Go.Proofs.Ytpnfmcmhcjekfab

