/-
  The document's Put.
-/
import Derived.Test.YtofceccicmlmoaaGreatRAtM
namespace Go.Proofs.YtofceccicmlmoaaGreat
open Go.RowKit Go.Shelf

/-- What was put is right, or does not fit. -/
theorem put_same {d : Nat} {t x z : VT} {p : List VT} {D : Nat} (hD : 16 ≤ D) (hc : chkE d t p = 0) (hx : rightV d x = true) (hr : rightV 16 t = true) (hd : Dp 16 t) (hp : ∀ s ∈ p, rightV 16 s = true) (hx16 : rightV 16 x = true) (hdx : Dp 16 x) (hz : putT t p x = some z) (hdz : Dp D z) (hDe : D ≤ 32) : dneE D z true = putE d t p x ∧ dneR D z true = putR d t p x := by
  have hfe : fw 32 z 16 1024 = fw D z 16 1024 := fw_any z hdz hDe 16 1024
  have e1 : putE d t p x = fitE D z := by unfold putE fitE; rw [if_pos hc, if_pos hx, hz]; simp only; rw [hfe]
  by_cases hf : (fw D z 16 1024).1 = true
  · have hrz := put_fits hp hr hd hx16 hdx hz hD hdz hf
    have hrD : rightV D z = true := by rw [rightV_eq z hrz.2 hD]; exact hrz.1
    have e2 : putE d t p x = 0 := by rw [e1]; unfold fitE; rw [if_pos hf]
    refine ⟨?_, ?_⟩
    · rw [e2]; unfold dneE; rw [if_pos rfl, if_pos hrD]
    · unfold dneR putR; rw [if_pos ⟨rfl, hrD⟩, if_pos e2, hz]; rfl
  · have hrD : ¬ rightV D z = true := fun h => hf (by
      have h9 : ((fw D z 16 1024).1 && rpV D z) = true := h
      simp only [Bool.and_eq_true] at h9
      exact h9.1)
    have e2 : putE d t p x = 2 := by rw [e1]; unfold fitE; rw [if_neg hf]
    refine ⟨?_, ?_⟩
    · rw [e2]; unfold dneE; rw [if_pos rfl, if_neg hrD]
    · unfold dneR putR; rw [if_neg (fun h => hrD h.2), e2]; rfl

end Go.Proofs.YtofceccicmlmoaaGreat

