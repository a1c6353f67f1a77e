import Derived.Test.YtlnecfjnffdciabGreatSortV
import Derived.Test.YtlnecfjnffdciabGreatRotate
import Derived.Test.YtlnecfjnffdciabGreatMade
namespace Go.Proofs.YtlnecfjnffdciabGreat
open Go.RowKit
set_option maxHeartbeats 1000000 in
theorem sorted_some (d b o c:Nat) (ps:List (VT×Value)) (w:World) (hrow:RowAt w b o ps) (hs:∀p∈ps,Sound d w p) (hne:ps≠[]) (hlen:ps.length≤65536) :
 Calls Tryz.prog 123 #[.slice (some ⟨b,o,none⟩) ps.length c] w fun e w'=>∃g cap qs,e=.returned (.slice (some ⟨g,0,none⟩) ps.length cap)∧qs.Perm ps∧Rises d qs∧RowAt w' g 0 qs∧(∀k,k<ps.length*4→w'.frozen? ⟨g,k,none⟩=false)∧w.heap.size≤g∧ps.length≤cap∧g<w'.heap.size∧Below w.heap.size w w':=by
 have HR:Hid (RowAt w b o ps):=hrow
 have HS:Hid (∀p∈ps,Sound d w p):=hs
 have HN:Hid (ps≠[]):=hne
 clear hrow hs hne
 go_enter Tryz.func123,Tryz.ntmps123
 go_wp2_with fail
 refine (clone_some b o c ps d _ HR.out HS.out hlen).mono ?_
 rintro e w1 ⟨v,rfl,hown,hb1⟩
 obtain⟨g,cap,rfl,hg,hcap,hlt,hrow1,hfz1⟩:=own_row hown HN.out
 have Hrow1:Hid (RowAt w1 g 0 ps):=hrow1
 have Hfz1:Hid _:=hfz1
 clear hown hrow1 hfz1
 go_wp2_with fail
 refine (sort_any d g cap w _ ps HS.out hb1 hg hlt Hrow1.out (fun k _=>Hfz1.out k) hlen).mono ?_
 rintro e w2 ⟨rfl,qs,hp,hri,hrow2,hfz2,hb2,hlt2⟩
 have Hall:Hid (qs.Perm ps∧Rises d qs∧RowAt w2 g 0 qs∧(∀k,k<ps.length*4→w2.frozen? ⟨g,k,none⟩=false)):=⟨hp,hri,hrow2,hfz2⟩
 clear hp hri hrow2 hfz2
 go_wp2_with fail
 go_ret
 exact⟨g,cap,qs,rfl,Hall.out.1,Hall.out.2.1,Hall.out.2.2.1,Hall.out.2.2.2,hg,hcap,hlt2,hb2⟩
end Go.Proofs.YtlnecfjnffdciabGreat

