import Derived.Test.YtlnecfjnffdciacGreatQueueN
import Derived.Test.YtlnecfjnffdciacGreatTold
set_option maxHeartbeats 8000000
namespace Go.Proofs.YtlnecfjnffdciacGreat
open Go.RowKit Go.Shelf
def numQ (n:Int):VT:=⟨2,n,⟨#[]⟩,[]⟩
def pairQn (n:Int):VT×Value:=(numQ n,.slice none 0 0)
theorem right_numQ (n:Int):zab 0 (numQ n)=true:=by
 simp [zab,fw,rpV,ownV,okNum,okText,okItems,numQ]
theorem nums_cellsQ (zs:List Int):zs.flatMap cellsInt=(zs.map pairQn).flatMap encP:=by
 induction zs with
 | nil=>rfl
 | cons z zs ih=>rw [List.flatMap_cons,List.map_cons,List.flatMap_cons,ih];rfl
theorem nums_liesQ {w:World} {b c:Nat} (zs:List Int) (h:RowAt w b 0 (zs.map pairQn)) (hl:zs.length≤1000) (hc:zs.length≤c):Lies 1 w (zs.map numQ) (.slice (some ⟨b,0,none⟩) zs.length c):=by
 have:=lies_of_row (d:=0) (c:=c) h (fun p hp=>by
  obtain⟨z,_,rfl⟩:=List.mem_map.1 hp
  exact⟨⟨rfl,none,0,rfl⟩,by show 0≤9223372036854775807;omega⟩) (by simp;omega) (by simpa using hc)
 simpa [List.map_map,Function.comp_def,pairQn] using this
theorem nums_errQ (zs:List Int) (h:zs.length≤1000):zae 0 (zs.map numQ)=0:=by
 unfold zae
 rw [if_neg (by simp;omega),if_pos (by
  rw [List.all_eq_true]
  intro x hx
  obtain⟨z,_,rfl⟩:=List.mem_map.1 hx
  exact right_numQ z)]
theorem nums_anyQ (zs:List Int) (b cap:Nat) (w:World) (h0:zs≠[]) (hz:zs.length≤1000) (hc:∀(i:Nat) (h:i<zs.length),w.cell? ⟨b,0+i,none⟩=some (.int .i64 (zs[i]'h))) :
 Calls Tryz.prog 35 #[.slice (some ⟨b,0,none⟩) zs.length cap] w fun e w'=>∃g c,e=.returned (.slice (some ⟨g,0,none⟩) zs.length c)∧Lies 1 w' (zs.map numQ) (.slice (some ⟨g,0,none⟩) zs.length c)∧Below w.heap.size w w':=by
 refine (ints_any b zs cap w hz hc).mono ?_
 rintro e w1 ⟨v,rfl,hown,hb⟩
 rw [nums_cellsQ] at hown
 obtain⟨g,c,rfl,_,hcp,_,hrow,_⟩:=own_row (ps:=zs.map pairQn) (by simpa using hown) (by simpa using h0)
 refine⟨g,c,by simp,nums_liesQ zs hrow hz (by simpa using hcp),hb⟩
theorem srt_threeQ:srtV 1 ([3,1,2].map numQ)=[3,2,1].map numQ:=by kernel_rfl
theorem look_threeQ:lookE 0 1 ([3,1,2].map numQ)=0:=by unfold lookE;rw [if_neg (by omega)];exact nums_errQ _ (by simp)
set_option maxRecDepth 100000 in
theorem queued_any (w:World):Calls Tryz.prog 17 #[] w fun e w'=>e=.returned (.bool true)∧Below w.heap.size w w':=by
 go_enter Tryz.func17,Tryz.ntmps17
 go_wp2_with fail
 refine (nums_anyQ [3,1,2] w.heap.size 3 _ (by simp) (by simp) ?_).mono ?_
 ·intro i hi
  match i,hi with
  | 0,_=>simp
  | 1,_=>simp
  | 2,_=>simp
 rintro e w1 ⟨g1,c1,rfl,hL1,hb⟩
 have hb1:Below w.heap.size w w1:=((Grew.refl w).alloc _).below.trans (hb.mono (by simp))
 have HL1:Hid (Lies 1 w1 ([3,1,2].map numQ) (.slice (some ⟨g1,0,none⟩) 3 c1)):=hL1
 clear hL1 hb
 go_wp2_with fail
 refine (of_any19 (fun _=>True) 0 1 ([3,1,2].map numQ) _ _ HL1.out (fun _ _=>trivial)).mono ?_
 rintro e w2 ⟨hb,⟨h0,_⟩|⟨_,p,rfl,hq⟩⟩
 ·exact absurd look_threeQ h0
 have hb2:Below w.heap.size w w2:=hb1.trans (hb.mono hb1.size)
 obtain⟨b,rfl,hc⟩:=hq
 have HQ:Hid (QC (fun _=>True) w2 1 ([3,1,2].map numQ) b):=hc
 have HL2:Hid (Lies 1 w2 ([3,1,2].map numQ) (.slice (some ⟨g1,0,none⟩) 3 c1)):=Lies.keeps hb _ _ _ HL1.out
 clear hc hb HL1 hb1
 go_wp2_with fail
 refine (sort6_any 0 1 ([3,1,2].map numQ) _ _ HL2.out).mono ?_
 rintro e w3 (⟨h0,_⟩|⟨_,v3,rfl,hL3,hb⟩)
 ·exact absurd look_threeQ h0
 have hb3:Below w.heap.size w w3:=hb2.trans (hb.mono hb2.size)
 have hL3':=LiesB.lies _ _ _ hL3
 rw [show (1:Int).toNat=1 from rfl,srt_threeQ] at hL3'
 obtain⟨a3,c3,rfl,_⟩:=Lies.slice hL3'
 have HL3:Hid (Lies 17 w3 ([3,2,1].map numQ) (.slice a3 3 c3)):=hL3'
 have HQ3:Hid (QC (fun _=>True) w3 1 ([3,1,2].map numQ) b):=HQ.out.keeps hb
 obtain⟨a,c,e9,hlc,ps,hps,hsd,hrow⟩:=Lies.row hL3'
 have hps3:ps.length=3:=by have:=congrArg List.length hps;simpa using this
 have h30:([3,2,1].map numQ)≠[]:=by simp
 obtain⟨bb,oo,ha,hq1⟩:=hrow h30
 injection e9 with e9 _ e8
 subst e9 e8
 subst ha
 have hp0:(ps[0]'(by omega)).1=numQ 3:=by
  have h9:(ps.map (·.1))[0]? = ([3,2,1].map numQ)[0]?:=by rw [hps]
  rw [List.getElem?_map,List.getElem?_eq_getElem (show 0<ps.length by omega)] at h9
  injection h9
 obtain⟨_,p1,_,_⟩:=hq1 0 (by omega)
 rw [hp0] at p1
 have p1:w3.cell? ⟨bb,oo+1,none⟩=some (.int .i64 3):=p1
 clear hL3 hL3' hb HQ HL2 hb2 hps hsd hrow hq1 hp0 h30 hlc
 have HSr:Hid (Calls Tryz.prog 19 #[.pointer (some ⟨b,0,none⟩)] w3 (RowPost (srtV 1 ([3,1,2].map numQ)) w3)):=sorted_any19 (.inr ⟨b,rfl,HQ3.out⟩)
 go_wp2_with fail
 refine Calls.mono HSr.out ?_
 rintro e w4 ⟨v4,rfl,hL4,hg⟩
 have hb4:Below w.heap.size w w4:=hb3.trans (hg.mono hb3.size)
 have hL4':=LiesB.lies _ _ _ hL4
 rw [srt_threeQ] at hL4'
 obtain⟨a4,c4,rfl,_⟩:=Lies.slice hL4'
 have HVs:Hid _:=values_same 16 ([3,2,1].map numQ) _ _ w4 hL4' (Lies.keeps hg _ _ _ HL3.out) (by simp)
 clear HSr hL4 hL4' hg hb3 HQ3 HL3 p1
 go_wp2_with fail
 refine Calls.mono HVs.out ?_
 rintro e w5 ⟨rfl,hg⟩
 have hb5:Below w.heap.size w w5:=hb4.trans (hg.mono hb4.size)
 clear hg HVs
 go_wp2_with fail
 go_ret
 exact⟨rfl,hb5⟩
end Go.Proofs.YtlnecfjnffdciacGreat
