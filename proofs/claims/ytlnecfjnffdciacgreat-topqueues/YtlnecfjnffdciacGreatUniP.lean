import Derived.Test.YtlnecfjnffdciacGreatBuildS
import Derived.Shelf.SlSortCmp.NoneTotal
import Derived.Test.YtlnecfjnffdciacGreatTold
namespace Go.Proofs.YtlnecfjnffdciacGreat
open Go.RowKit Go.Shelf
def ofK (q:Nat) (qs:List PP):List PT:=(kyd (cmpO q) (qs.length+1) qs).map trT
theorem ofErr_zero {d:Nat} {o:Int} {l:List PT} (h:ofErr d o l=0):(0≤o∧o<6)∧pErr d l=0:=by
 unfold ofErr zan at h
 by_cases ho:o<0∨6≤o
 ·rw [if_pos ho,if_pos (by decide)] at h;cases h
 ·rw [if_neg ho,if_neg (by decide)] at h;exact⟨by omega,h⟩
def ofL (q:Nat) (l:List PT):List PT:=kyd (byK q) (l.length+1) l
theorem ofK_is (q:Nat) (qs:List PP):ofK q qs=ofL q (qs.map trT):=by
 unfold ofK ofL
 rw [List.length_map,kyd_map trT (cmpO q) (byK q) (fun _ _=>rfl)]
theorem byK_3 (q:Nat):Cmp3 (byK q):=by
 have h:=byK_cmp q
 refine⟨fun x y=>zai q x.1 y.1,fun a b c h1 h2=>?_,fun a b c h1 h2=>?_,fun a b c h1 h2=>?_⟩
 ·exact RT.Cmp.trans' h h1 h2
 ·exact h.trans a b c h1 h2
 ·by_cases hn:byK q a c≤0
  ·exact hn
  ·exfalso
   have e1:byK q c a<0:=(h.flip _ _).2 (by omega)
   have e2:byK q c b<0:=RT.Cmp.trans' h e1 h1
   have e3:0<byK q b c:=(h.flip _ _).1 e2
   omega
theorem ofL_rises (q:Nat) (l:List PT):RT.Rises (byK q) (ofL q l):=(kyd_spec (byK_3 q) (l.length+1) l (by omega)).1
end Go.Proofs.YtlnecfjnffdciacGreat
