import Derived.Test.YtcflooaoocngdaaGreatShelfS
import Derived.Test.YtcflooaoocngdaaGreatWholeP
import Derived.Shelf.SortM.SortNone
import Derived.Sort.OwnSortedInts
namespace Go.Proofs.YtcflooaoocngdaaGreat
open Go.RowKit
theorem sortS_own (w:World) (B:Nat) (v:Value) (zs:List Int) (h:w.ownsRow B 3 1 v zs.length (zs.map (Value.int .i64))) (hn:zs.length≤65536) :
 Calls Tryz.prog 21 #[v] w fun e w'=>e=.returned (.tuple #[])∧w'.ownsRow B 3 1 v zs.length ((zs.mergeSort fun x y=>decide (x≤y)).map (Value.int .i64))∧w.grownBy w' v.ownBlock:=by
 rcases h.2 with ⟨rfl,h0⟩|⟨g,cap,cur,rfl,hb,hblk,h1,h2,h3,h4⟩
 ·have e0:zs=[]:=List.length_eq_zero_iff.1 h0
  subst e0
  refine Calls.mono (calls_of_every_depth fun D=>Go.Proofs.AnySM.slices_Sort_int_none_in Tryz.sortS D none 0 w) ?_
  rintro e w' ⟨rfl,rfl⟩
  exact⟨rfl,by simpa using h,World.grownBy.refl _ _⟩
 ·refine Calls.mono (calls_of_every_depth fun D=>Go.Proofs.AnySM.slices_Sort_int_in Tryz.sortS D g 0 cap zs w (holds_of_blockI hblk (by simpa using h4)) (Array.getElem?_eq_some_iff.1 hblk).1 (by omega)) ?_
  rintro e w' ⟨rfl,n,os,rfl⟩
  exact⟨rfl,ownsRow_sortedI (by simp) hb hblk h1 h2 h3,grownBy_sortedI _⟩
def DstPost (d:Nat) (l:List VT) (w:World) (e:Ending) (w':World):Prop:=
 (zad d l≠0∧e=.returned (.tuple #[.slice none 0 0,.int .i64 (zad d l)])∧Below w.heap.size w w')∨
  (zad d l=0∧∃gs u,Alk l gs∧e=.returned (.tuple #[u,.int .i64 0])∧LiesB w.heap.size 17 w' (dstL l gs) u∧Below w.heap.size w w')
structure DstI (gs:List (List Nat)) (W3:World) (k:Nat) (v:Value) (wr:World):Prop where
 own:wr.ownsRow W3.heap.size 3 1 v k ((gs.take k).map fun g=>Value.int .i64 ((g.headD 0:Nat):Int))
 below:Below W3.heap.size W3 wr
theorem DstI.start (gs:List (List Nat)) (W3:World):DstI gs W3 0 (.slice none 0 0) W3:=⟨World.ownsRow_nil _ _ _ _,Below.refl _ _⟩
theorem DstI.step {gs:List (List Nat)} {W3 w9:World} {k:Nat} {v9:Value} (hk:k<gs.length) (h:w9.ownsRow W3.heap.size 3 1 v9 (k+1) (((gs.take k).map fun g=>Value.int .i64 ((g.headD 0:Nat):Int))++[.int .i64 ((gs[k].headD 0:Nat):Int)])) (hb:Below W3.heap.size W3 w9):DstI gs W3 (k+1) v9 w9:=by
 refine⟨?_,hb⟩
 rw [List.take_succ_eq_append_getElem hk,List.map_append]
 exact h
theorem groups_le {xs:List (List Nat)} (hne:∀g∈xs,g≠[]):xs.length≤xs.flatten.length:=by
 induction xs with
 | nil=>simp
 | cons a b ih=>
  have:=ih (fun g hg=>hne g (List.mem_cons_of_mem _ hg))
  have:0<a.length:=List.length_pos_iff.2 (hne a (List.mem_cons_self ..))
  simp only [List.length_cons,List.flatten_cons,List.length_append]
  omega
theorem plc_own {w:World} {B:Nat} {v:Value} {zs:List Int} (h:w.ownsRow B 3 1 v zs.length (zs.map (Value.int .i64))):∃a c,v=.slice a zs.length c∧PlcAt w a zs:=by
 rcases h.2 with ⟨rfl,h0⟩|⟨g,cap,cur,rfl,_⟩
 ·have e0:zs=[]:=List.length_eq_zero_iff.1 h0
  subst e0
  exact⟨none,0,rfl,fun k hk=>by simp at hk⟩
 ·refine⟨_,cap,rfl,fun k hk=>⟨g,0,rfl,?_⟩⟩
  rw [Nat.zero_add,h.cellAt k (by omega)]
  simp [hk]
set_option maxRecDepth 100000 in
set_option maxHeartbeats 16000000 in
theorem distinct_any (d:Nat) (l:List VT) (v:Value) (w:World) (hv:Lies (d+1) w l v):Calls Tryz.prog 8 #[v] w (DstPost d l w):=by
 obtain⟨a2,c2,rfl,_⟩:=Lies.slice hv
 have HC:Hid (Calls Tryz.prog 11 #[.slice a2 l.length c2] w fun e w'=>e=.returned (.int .i64 (zad d l))∧Below w.heap.size w w'):=zap d l _ w hv
 have HV:Hid (Lies (d+1) w l (.slice a2 l.length c2)):=hv
 obtain⟨i0,hi,hz0,hz1,hz2⟩:=infoN
 have Hi:Hid _:=hi;have Hz0:Hid _:=hz0;have Hz1:Hid _:=hz1;have Hz2:Hid _:=hz2
 obtain⟨ll,hll⟩:∃ll,ll=l.length:=⟨_,rfl⟩
 have Hll:Hid (ll=l.length):=hll
 rw [←hll] at HC HV ⊢
 clear hv hll hi hz0 hz1 hz2
 generalize hP:DstPost d l w=PP
 have HP:Hid (DstPost d l w=PP):=hP
 clear hP
 go_enter Tryz.func8,Tryz.ntmps8
 go_wp2_with fail
 refine Calls.mono HC.out ?_
 rintro e w2 ⟨rfl,hb3⟩
 clear HC
 by_cases hE:zad d l=0
 ·rw [hE]
  have hcl:=canonL25 HV.out hE
  have HE:Hid (zad d l=0):=hE
  have hn:ll≤65536:=by rw [Hll.out];exact hcl.2.1
  have HA:Hid (Calls Tryz.prog 19 #[.slice a2 ll c2] w2 (AlkPost l w2)):=alike_any l _ w2 (Lies.keeps hb3 _ _ _ hcl.1) hcl.2.1
  have HL2:Hid (Lies 17 w2 l (.slice a2 ll c2)):=Lies.keeps hb3 _ _ _ hcl.1
  have HR:Hid (∀x∈l,zab 16 x=true):=fun x hx=>(hcl.2.2 x hx).1
  clear hE hcl HV
  go_wp2_with fail
  refine Calls.mono HA.out ?_
  rintro e W3 ⟨gs,v3,rfl,hA,⟨a3,c3,rfl,hg6,hrow⟩,hb4⟩
  have hb5:Below w.heap.size w W3:=hb3.trans (hb4.mono hb3.size)
  have HAk:Hid (Alk l gs):=hA
  have HG:Hid (∀(k:Nat) (hk:k<gs.length),∃b o g' o' c',a3=some ⟨b,o,none⟩∧W3.cell? ⟨b,o+k,none⟩=some (.slice (some ⟨g',o',none⟩) gs[k].length c')∧∀(m:Nat) (hm:m<gs[k].length),W3.cell? ⟨g',o'+m,none⟩=some (.int .i64 ((gs[k][m]:Nat):Int))):=hrow
  have HL3:Hid (Lies 17 W3 l (.slice a2 ll c2)):=Lies.keeps hb4 _ _ _ HL2.out
  have HGl:Hid (gs.length≤65536):=by
   have h1:=hA.perm.length_eq
   have:=groups_le hA.ne
   rw [List.length_range] at h1
   have:=Hll.out
   show _≤_
   omega
  obtain⟨G,hG⟩:∃G,G=gs.length:=⟨_,rfl⟩
  have HGe:Hid (G=gs.length):=hG
  rw [←hG] at HGl ⊢
  clear hA hrow hb4 hb3 HL2 hG hg6 HA
  go_wp2_with fail
  go_loopg [5,16] G (fun z v5 v16 wr=>∃(k:Nat) (vo:Value),vo=v5∧v16=.int .i64 (k:Int)∧z=G-k∧k≤G∧Hid (DstI gs W3 k vo wr))
  case atStart=>exact⟨0,_,rfl,rfl,by omega,by omega,DstI.start gs W3⟩
  case round=>
   obtain⟨k,vo,rfl,rfl,hgk,hk,HI⟩:=hrel
   have Hgk:Hid (gk=G-k):=hgk
   clear hgk
   have hwr:W3.heap.size≤wr.heap.size:=HI.out.below.size
   have hGn:G≤65536:=HGl.out
   by_cases hlt:k<G
   ·have hki:(k:Int)<(G:Int):=by omega
    have hkg:k<gs.length:=by have:=HGe.out;omega
    obtain⟨b,o,g',o',c',rfl,hc1,hc2⟩:=HG.out k hkg
    have hne:gs[k]≠[]:=HAk.out.ne _ (List.getElem_mem hkg)
    have hpos:0<gs[k].length:=List.length_pos_iff.2 hne
    have hc0:=hc2 0 hpos
    have hhd:gs[k].headD 0=gs[k][0]:=by
     generalize gs[k]=gg at *
     cases gg with
     | nil=>exact absurd rfl hne
     | cons p q=>rfl
    have HSt:Hid (∀v9 w9,w9.ownsRow W3.heap.size 3 1 v9 (k+1) (((gs.take k).map fun g=>Value.int .i64 ((g.headD 0:Nat):Int))++[.int .i64 ((gs[k][0]:Nat):Int)])→Below W3.heap.size W3 w9→DstI gs W3 (k+1) v9 w9):=fun v9 w9 h9 hb9=>DstI.step hkg (by rw [hhd];exact h9) hb9
    have HOw:Hid (wr.ownsRow W3.heap.size 3 1 vo k ((gs.take k).map fun g=>Value.int .i64 ((g.headD 0:Nat):Int))):=HI.out.own
    have hbw:=HI.out.below
    have HbW:Hid (Below W3.heap.size W3 wr):=hbw
    have c1:=zaa hbw hc1
    have c0:=zaa hbw hc0
    have hci:(0:Int)<((gs[k].length:Nat):Int):=by omega
    clear hc1 hc2 hc0 hhd hne HI
    generalize gs[k][0]=P at *
    generalize gs[k].length=cn at *
    generalize ((gs.take k).map fun g=>Value.int .i64 ((g.headD 0:Nat):Int))=FL at *
    simp only [Nat.add_zero] at c0
    have hl0:g'<wr.heap.size:=zae c0
    go_wp2_with (first|(at_builtin;refine wpList_append_own _ rfl _ _ 50 rfl W3.heap.size 3 i0 (.int .i64 0) 1 8 Tryz.underlying50 Hi.out Hz0.out Hz1.out Hz2.out rfl (by decide) vo k FL rfl (HOw.out.alloc _) ⟨wr.heap.size,0,none⟩ 1 1 [.int .i64 (P:Int)] rfl rfl (fun q u hq=>by match q,hq with|0,hq=>(simp at hq;subst hq;simp [Addr.add])|q+1,hq=>simp at hq) (fun u hu=>by simp at hu;subst hu;rfl) (by unfold maxLen;omega) (by omega) (by simp;omega) ?_;intro v9 w9 hown9 hg9 _;have HZ9:Hid (DstI gs W3 (k+1) v9 w9):=HSt.out _ _ hown9 (own_belowG (HbW.out.alloc HbW.out.size _) (HOw.out.alloc _) hg9);clear hown9 hg9))
    go_roundg (G-(k+1))
    case measure=>have:=Hgk.out;omega
    case rel=>exact⟨k+1,_,rfl,by go_num,rfl,by omega,HZ9⟩
   ·have ek:k=G:=by omega
    subst ek
    have hnl : ¬(k:Int)<(k:Int):=by omega
    have hbw:=HI.out.below
    have hown:=HI.out.own
    obtain⟨zs,hzs⟩:∃zs:List Int,zs=gs.map fun g=>((g.headD 0:Nat):Int):=⟨_,rfl⟩
    have hzl:zs.length=k:=by rw [hzs,List.length_map];exact HGe.out.symm
    have hown2:wr.ownsRow W3.heap.size 3 1 vo zs.length (zs.map (Value.int .i64)):=by
     rw [hzl,hzs,List.map_map]
     rw [List.take_of_length_le (by rw [←HGe.out];omega)] at hown
     exact hown
    have HS:Hid (Calls Tryz.prog 21 #[vo] wr fun e w'=>e=.returned (.tuple #[])∧w'.ownsRow W3.heap.size 3 1 vo k ((dstI gs).map (Value.int .i64))∧wr.grownBy w' vo.ownBlock):=by
     have h:=sortS_own wr W3.heap.size vo zs hown2 (by omega)
     rw [hzl] at h
     rw [hzs] at h
     exact h
    have HbW:Hid (Below w.heap.size w W3∧Below W3.heap.size W3 wr):=⟨hb5,hbw⟩
    have HO:Hid (wr.ownsRow W3.heap.size 3 1 vo zs.length (zs.map (Value.int .i64))):=hown2
    have Hkd:Hid (k=(dstI gs).length):=by show _=_;rw [dstI_len];exact HGe.out
    clear hzs hown hown2 hbw hb5 HI hlt hk Hgk hzl
    go_wp2_with fail
    refine Calls.mono HS.out ?_
    rintro e w5 ⟨rfl,hown5,hg5⟩
    have hb35:Below W3.heap.size W3 w5:=own_belowG HbW.out.2 HO.out hg5
    rw [Hkd.out] at hown5
    obtain⟨a5,c5,rfl,hpl⟩:=plc_own hown5
    have HPk:Hid (Calls Tryz.prog 22 #[.slice a2 ll c2,.slice a5 (dstI gs).length c5] w5 fun e w'=>∃u,e=.returned u∧Lies 17 w' (pkL l (dstI gs)) u∧Below w5.heap.size w5 w'):=
     picked_any l _ a5 c5 (dstI gs) w5 (Lies.keeps hb35 _ _ _ HL3.out) hpl (dstI_in HAk.out) (by have:=Hkd.out;omega) (by rw [←Hll.out];exact hn)
    have hbz:Below w.heap.size w w5:=HbW.out.1.trans (hb35.mono HbW.out.1.size)
    clear hown5 hg5 hb35 hpl HS HO HbW
    rw [←Hkd.out] at HPk ⊢
    go_wp2_with fail
    refine Calls.mono HPk.out ?_
    rintro e w6 ⟨u6,rfl,hl6,hb6⟩
    have hbz6:Below w.heap.size w w6:=hbz.trans (hb6.mono hbz.size)
    have HCp:Hid (Calls Tryz.prog 18 #[u6] w6 fun e w'=>∃v,e=.returned v∧LiesB w6.heap.size 17 w' (pkL l (dstI gs)) v∧Below w6.heap.size w6 w'):=
     copyAll_core 16 (pkL l (dstI gs)) _ w6 hl6 (by unfold pkL;rw [List.length_map];have:=Hkd.out;omega) (fun x v W' hx hv' _=>copy_right x v W' hv' (by
      obtain⟨i,hi,rfl⟩:=List.mem_map.1 hx
      have:=dstI_in HAk.out i hi
      exact HR.out _ (getD_mem (by omega))))
    clear hb6 hl6 HPk hbz
    go_wp2_with fail
    refine Calls.mono HCp.out ?_
    rintro e w7 ⟨u7,rfl,hl7,hb7⟩
    have HZ:Hid (DstPost d l w (.returned (.tuple #[u7,.int .i64 0])) w7):=.inr ⟨HE.out,gs,u7,HAk.out,rfl,LiesB.lower hbz6.size _ _ _ hl7,hbz6.trans (hb7.mono hbz6.size)⟩
    clear hl7 hb7 HCp
    go_wp2_with fail
    show PP (.returned (.tuple #[u7,.int .i64 0])) _
    rw [←HP.out];exact HZ.out
 ·have HZ:Hid (DstPost d l w (.returned (.tuple #[.slice none 0 0,.int .i64 (zad d l)])) w2):=.inl ⟨hE,rfl,hb3⟩
  clear HV
  generalize zad d l=E at *
  go_wp2_with fail
  show PP (.returned (.tuple #[.slice none 0 0,.int .i64 E])) _
  rw [←HP.out];exact HZ.out
end Go.Proofs.YtcflooaoocngdaaGreat
