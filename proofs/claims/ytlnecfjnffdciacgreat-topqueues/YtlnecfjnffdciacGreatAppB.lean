import Derived.Test.YtlnecfjnffdciacGreatLiesX
import Derived.Deep.AppendLies
import Derived.Deep.RegionLaw
namespace Go.Proofs.YtlnecfjnffdciacGreat
open Go.RowKit
theorem own_put23 {w:World} {base g cap k:Nat} {xs:List Value} {t:VT} {u:Value} (h:w.ownsRow base 24 4 (.slice (some ⟨g,0,none⟩) (k+1) cap) (k+1) (xs++[.int .i64 0,.int .i64 0,.string ⟨#[]⟩,.slice none 0 0])) (hx:xs.length=k*4) :
 (w.setCells g (k*4) (encP (t,u))).ownsRow base 24 4 (.slice (some ⟨g,0,none⟩) (k+1) cap) (k+1) (xs++encP (t,u)):=by
 have h1:=((((h.stored (k*4) (.int .i64 t.kind)).1.stored (k*4+1) (.int .i64 t.num)).1.stored (k*4+1+1) (.string t.text)).1.stored (k*4+1+1+1) u).1
 have e:((((xs++[Value.int .i64 0,Value.int .i64 0,Value.string ⟨#[]⟩,Value.slice none 0 0]).set (k*4) (.int .i64 t.kind)).set (k*4+1) (.int .i64 t.num)).set (k*4+1+1) (.string t.text)).set (k*4+1+1+1) u=xs++encP (t,u):=by
  rw [←hx,List.set_append_right _ _ (by omega),List.set_append_right _ _ (by omega),List.set_append_right _ _ (by omega),List.set_append_right _ _ (by omega)]
  simp only [Nat.sub_self,show xs.length+1-xs.length=1 by omega,show xs.length+1+1-xs.length=2 by omega,show xs.length+1+1+1-xs.length=3 by omega]
  rfl
 rw [e] at h1
 exact h1
theorem set4_cell {w:World} {g o:Nat} {x:VT} {u:Value} {a:Addr} {v:Value} (hne:a.block≠g) (h:w.cell? a=some v):(w.setCells g o (encP (x,u))).cell? a=some v:=by
 have hs:∀(w:World) (j:Nat) (u:Value),w.cell? a=some v→(w.setCell ⟨g,j,none⟩ u).cell? a=some v:=fun w j u h=>by
  rw [World.cell?_setCell_other _ _ _ _ (fun e=>hne (by rw [←e]))];exact h
 exact hs _ _ _ (hs _ _ _ (hs _ _ _ (hs _ _ _ h)))
end Go.Proofs.YtlnecfjnffdciacGreat
