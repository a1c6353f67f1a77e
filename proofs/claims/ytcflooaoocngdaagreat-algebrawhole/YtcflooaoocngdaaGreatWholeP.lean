import Derived.Test.YtcflooaoocngdaaGreatAlkW
import Derived.Test.YtcflooaoocngdaaGreatSplF
import Derived.Test.YtcflooaoocngdaaGreatVMap
set_option maxRecDepth 100000
set_option maxHeartbeats 16000000
namespace Go.Proofs.YtcflooaoocngdaaGreat
open Go.RowKit
def cntTs (rs:List (VT×Nat)):List TP:=rs.map fun p=>(p.1,intT (p.2:Int))
def CntPost (d:Nat) (l:List VT) (w:World) (e:Ending) (w':World):Prop:=
 (zad d l≠0∧Tells 17 (zeroT,zad d l) w e w')∨(zad d l=0∧∃gs,Alk l gs∧Tells 17 (mapA 16 (cntTs (zaf l gs))) w e w')
structure CntI (l:List VT) (gs:List (List Nat)) (W3:World) (k:Nat) (v:Value) (wr:World):Prop where
 ex:∃qs:List PP,qs.map trT=cntTs ((zaf l gs).take k)∧wr.ownsRow W3.heap.size 52 8 v k (qs.flatMap encQ)∧(∀p∈qs,GoodQ 16 W3 p)
 below:Below W3.heap.size W3 wr
theorem CntI.start (l:List VT) (gs:List (List Nat)) (W3:World):CntI l gs W3 0 (.slice none 0 0) W3:=⟨⟨[],rfl,World.ownsRow_nil _ _ _ _,fun p hp=>by cases hp⟩,Below.refl _ _⟩
theorem runsOf_take (l:List VT) (gs:List (List Nat)) (k:Nat) (hk:k<gs.length):(zaf l gs).take (k+1)=(zaf l gs).take k++[(l.getD (gs[k].headD 0) nilT,gs[k].length)]:=by
 have h:k<(zaf l gs).length:=by unfold zaf;simpa using hk
 rw [List.take_succ_eq_append_getElem h]
 have e:(zaf l gs)[k]=(l.getD (gs[k].headD 0) nilT,gs[k].length):=by simp [zaf]
 rw [e]
theorem CntI.step {l:List VT} {gs:List (List Nat)} {W3:World} {k:Nat} {v:Value} {w9:World} (hk:k<gs.length) (x:VT) (u:Value) (hx:x=l.getD (gs[k].headD 0) nilT) (hs:Sound 16 W3 (x,u)) (qs:List PP) (h1:qs.map trT=cntTs ((zaf l gs).take k)) (h2:w9.ownsRow W3.heap.size 52 8 v (k+1) (qs.flatMap encQ++[.int .i64 x.kind,.int .i64 x.num,.string x.text,u,.int .i64 2,.int .i64 (gs[k].length:Int),.string ⟨#[]⟩,.slice none 0 0])) (h3:∀p∈qs,GoodQ 16 W3 p) (hb:Below W3.heap.size W3 w9):CntI l gs W3 (k+1) v w9:=by
 refine⟨⟨qs++[((x,u),(intT (gs[k].length:Int),.slice none 0 0))],?_,?_,fun p hp=>?_⟩,hb⟩
 ·rw [List.map_append,h1,runsOf_take l gs k hk]
  unfold cntTs
  rw [List.map_append,hx]
  rfl
 ·rw [List.flatMap_append]
  simpa [encQ,encP,intT] using h2
 ·rcases List.mem_append.1 hp with hp|hp
  ·exact h3 p hp
  ·have:p=((x,u),(intT (gs[k].length:Int),.slice none 0 0)):=by simpa using hp
   subst this
   exact⟨hs,(zah (fun _=>True) 16 W3 none 0).lies,by show 0≤_;omega⟩
theorem counts_any (d:Nat) (l:List VT) (v:Value) (w:World) (hv:Lies (d+1) w l v):Calls Tryz.prog 7 #[v] w (CntPost d l w):=by
 obtain⟨a2,c2,rfl,_⟩:=Lies.slice hv
 have HC:Hid (∀W,Below w.heap.size w W→Calls Tryz.prog 11 #[.slice a2 l.length c2] W fun e w'=>e=.returned (.int .i64 (zad d l))∧Below W.heap.size W w'):=fun W hW=>zap d l _ W (Lies.keeps hW _ _ _ hv)
 have HV:Hid (Lies (d+1) w l (.slice a2 l.length c2)):=hv
 obtain⟨W0,hW0⟩:∃W0,W0=w.alloc (.cells #[.int .i64 0,.int .i64 0,.string ⟨#[]⟩,.slice none 0 0] 27):=⟨_,rfl⟩
 have HW0:Hid (W0=w.alloc (.cells #[.int .i64 0,.int .i64 0,.string ⟨#[]⟩,.slice none 0 0] 27)):=hW0
 have hB0:Below w.heap.size w W0:=by rw [hW0];exact ((Grew.refl w).alloc _).below
 have HR0:Hid (Bx W0 w.heap.size zeroT (.slice none 0 0)):=by rw [hW0];exact zaj w zeroT _
 have hS0:W0.heap.size=w.heap.size+1:=by rw [hW0];simp
 obtain⟨i0,hi,hz0,hz1,hz2⟩:=infoQ
 have Hi:Hid _:=hi;have Hz0:Hid _:=hz0;have Hz1:Hid _:=hz1;have Hz2:Hid _:=hz2
 obtain⟨ll,hll⟩:∃ll,ll=l.length:=⟨_,rfl⟩
 have Hll:Hid (ll=l.length):=hll
 rw [←hll] at HC HV ⊢
 clear hv hW0 hll hi hz0 hz1 hz2
 go_enter Tryz.func7,Tryz.ntmps7
 go_wp2_with fail
 rw [←HW0.out]
 refine Calls.mono (HC.out _ hB0) ?_
 rintro e w2 ⟨rfl,hb2⟩
 have hb3:Below w.heap.size w w2:=hB0.trans (hb2.mono hB0.size)
 have HR2:Hid (Bx w2 w.heap.size zeroT (.slice none 0 0)):=HR0.out.keeps hb2
 have hs2:w.heap.size+1≤w2.heap.size:=by have:=hb2.size;omega
 clear HR0 hB0 hb2 hS0 HC HW0
 by_cases hE:zad d l=0
 ·rw [hE]
  have hcl:=canonL25 HV.out hE
  have HE:Hid (zad d l=0):=hE
  have hn:ll≤65536:=by rw [Hll.out];exact hcl.2.1
  have HA:Hid (Calls Tryz.prog 19 #[.slice a2 ll c2] w2 (AlkPost l w2)):=alike_any l _ w2 (Lies.keeps hb3 _ _ _ hcl.1) hcl.2.1
  have HL2:Hid (Lies 17 w2 l (.slice a2 ll c2)):=Lies.keeps hb3 _ _ _ hcl.1
  clear hE hcl HV
  go_wp2_with fail
  refine Calls.mono HA.out ?_
  rintro e W3 ⟨gs,v3,rfl,hA,⟨a3,c3,rfl,hg6,hrow⟩,hb4⟩
  have hb5:Below w.heap.size w W3:=hb3.trans (hb4.mono hb3.size)
  have HAk:Hid (Alk l gs):=hA
  have HG:Hid (∀(k:Nat) (hk:k<gs.length),∃b o g' o' c',a3=some ⟨b,o,none⟩∧W3.cell? ⟨b,o+k,none⟩=some (.slice (some ⟨g',o',none⟩) gs[k].length c')∧∀(m:Nat) (hm:m<gs[k].length),W3.cell? ⟨g',o'+m,none⟩=some (.int .i64 ((gs[k][m]:Nat):Int))):=hrow
  have HR3:Hid (Bx W3 w.heap.size zeroT (.slice none 0 0)):=HR2.out.keeps hb4
  have HL3:Hid (Lies 17 W3 l (.slice a2 ll c2)):=Lies.keeps hb4 _ _ _ HL2.out
  have hs3:w.heap.size+1≤W3.heap.size:=Nat.le_trans hs2 hb4.size
  have HGl:Hid (gs.length≤65536):=by
   have h1:=hA.perm.length_eq
   have h2:∀(xs:List (List Nat)),(∀g∈xs,g≠[])→xs.length≤xs.flatten.length:=by
    intro xs
    induction xs with
    | nil=>intro _;simp
    | cons a b ih=>
     intro hne
     have:=ih (fun g hg=>hne g (List.mem_cons_of_mem _ hg))
     have:0<a.length:=List.length_pos_iff.2 (hne a (List.mem_cons_self ..))
     simp only [List.length_cons,List.flatten_cons,List.length_append]
     omega
   have:=h2 gs hA.ne
   rw [List.length_range] at h1
   have:=Hll.out
   show _≤_
   omega
  obtain⟨G,hG⟩:∃G,G=gs.length:=⟨_,rfl⟩
  have HGe:Hid (G=gs.length):=hG
  rw [←hG] at HGl ⊢
  clear hA hrow hb4 hb3 HR2 HL2 hs2 hG hg6 HA
  go_wp2_with fail
  go_loopg [5,18] G (fun z v5 v18 wr=>∃(k:Nat) (vo:Value),vo=v5∧v18=.int .i64 (k:Int)∧z=G-k∧k≤G∧Hid (CntI l gs W3 k vo wr))
  case atStart=>exact⟨0,_,rfl,rfl,by omega,by omega,CntI.start l gs W3⟩
  case round=>
   obtain⟨k,vo,rfl,rfl,hgk,hk,HI⟩:=hrel
   have Hgk:Hid (gk=G-k):=hgk
   clear hgk
   have hwr:W3.heap.size≤wr.heap.size:=HI.out.below.size
   have hGn:G≤65536:=HGl.out
   by_cases hlt:k<G
   ·have hki:(k:Int)<(G:Int):=by omega
    have hkg:k<gs.length:=by have:=HGe.out;omega
    obtain⟨b,o,g',o',c',rfl,hc1,hc2⟩:=HG.out k hkg
    have hne:gs[k]≠[]:=HAk.out.ne _ (List.getElem_mem hkg)
    have hpos:0<gs[k].length:=List.length_pos_iff.2 hne
    have hc0:=hc2 0 hpos
    have hP:gs[k][0]<l.length:=alk_in HAk.out (List.getElem_mem hkg) (List.getElem_mem hpos)
    have hhd:gs[k].headD 0=gs[k][0]:=by
     generalize gs[k]=gg at *
     cases gg with
     | nil=>exact absurd rfl hne
     | cons p q=>rfl
    obtain⟨al',cl',he,_,hrow⟩:=HL3.out
    injection he with e1 e2 e3
    subst e1 e3
    clear e2
    obtain⟨b1,o1,rfl,hall⟩:=hrow (by intro e;rw [e] at hP;simp at hP)
    obtain⟨ux,p0,p1,p2,p3,p4,p5⟩:=hall gs[k][0] hP
    clear hall hrow
    obtain⟨ax,cx,rfl,_⟩:=Lies.slice p4
    have hxe:l[gs[k][0]]=l.getD (gs[k].headD 0) nilT:=by rw [hhd,List.getD_eq_getElem?_getD,List.getElem?_eq_getElem hP];rfl
    obtain⟨qs,r1,r2,r3⟩:=HI.out.ex
    have HSt:Hid (∀v9 w9,w9.ownsRow W3.heap.size 52 8 v9 (k+1) (qs.flatMap encQ++[.int .i64 l[gs[k][0]].kind,.int .i64 l[gs[k][0]].num,.string l[gs[k][0]].text,.slice ax l[gs[k][0]].items.length cx,.int .i64 2,.int .i64 (gs[k].length:Int),.string ⟨#[]⟩,.slice none 0 0])→Below W3.heap.size W3 w9→CntI l gs W3 (k+1) v9 w9):=fun v9 w9 h9 hb9=>CntI.step hkg l[gs[k][0]] _ hxe ⟨p4,p5⟩ qs r1 h9 r3 hb9
    have HOw:Hid (wr.ownsRow W3.heap.size 52 8 vo k (qs.flatMap encQ)):=r2
    have hbw:=HI.out.below
    have c1:=zaa hbw hc1
    have c0:=zaa hbw hc0
    replace p0:=zaa hbw p0;replace p1:=zaa hbw p1;replace p2:=zaa hbw p2;replace p3:=zaa hbw p3
    have hPi:((gs[k][0]:Nat):Int)<(ll:Int):=by have:=Hll.out;omega
    have hPn:gs[k][0]<ll:=by have:=Hll.out;omega
    have hci:(0:Int)<((gs[k].length:Nat):Int):=by omega
    clear hc1 hc2 hc0 p4 r1 r2 r3 hxe hhd hne HI
    generalize l[gs[k][0]]=x at *
    generalize gs[k][0]=P at *
    generalize gs[k].length=cn at *
    generalize x.items.length=xl at *
    generalize qs.flatMap encQ=FL at *
    simp only [Nat.add_zero] at c0
    obtain⟨W1,hW1⟩:∃W1,W1=wr.alloc (.cells #[.int .i64 2,.int .i64 (cn:Int),.string ⟨#[]⟩,.slice none 0 0] 27):=⟨_,rfl⟩
    have HW1:Hid (W1=wr.alloc (.cells #[.int .i64 2,.int .i64 (cn:Int),.string ⟨#[]⟩,.slice none 0 0] 27)):=hW1
    have hb01:Below wr.heap.size wr W1:=by rw [hW1];exact ((Grew.refl wr).alloc _).below
    have Hs1:Hid (W1.heap.size=wr.heap.size+1):=by show _=_;rw [hW1];simp
    have y0:W1.cell? ⟨wr.heap.size,0,none⟩=some (.int .i64 2):=by rw [hW1];simp
    have y1:W1.cell? ⟨wr.heap.size,1,none⟩=some (.int .i64 (cn:Int)):=by rw [hW1];simp
    have y2:W1.cell? ⟨wr.heap.size,2,none⟩=some (.string ⟨#[]⟩):=by rw [hW1];simp
    have y3:W1.cell? ⟨wr.heap.size,3,none⟩=some (.slice none 0 0):=by rw [hW1];simp
    clear hW1
    go_upto_region 9 with fail
    rw [←HW1.out]
    clear HW1 c1
    replace c0:=zaa hb01 c0;replace p0:=zaa hb01 p0;replace p1:=zaa hb01 p1;replace p2:=zaa hb01 p2;replace p3:=zaa hb01 p3
    have HOw1:Hid (W1.ownsRow W3.heap.size 52 8 vo k FL):=own_keepsG HOw.out hb01
    have HbW1:Hid (Below W3.heap.size W3 W1):=hbw.trans (hb01.mono hbw.size)
    have hl0:g'<W1.heap.size:=zae c0
    have hl1:b1<W1.heap.size:=zae p0
    have hl2:wr.heap.size<W1.heap.size:=zae y0
    have hcap:1≤c'∨True:=.inr trivial
    have hsW:W3.heap.size≤W1.heap.size:=HbW1.out.size
    go_region_law (first|(refine step_append_lies _ rfl _ _ 47 rfl W3.heap.size 52 i0 (.agg #[.int .i64 0,.int .i64 0,.string ⟨#[]⟩,.slice none 0 0,.int .i64 0,.int .i64 0,.string ⟨#[]⟩,.slice none 0 0]) 8 112 Tryz.underlying47 Hi.out Hz0.out Hz1.out Hz2.out rfl (by decide) vo k FL rfl (by first|exact HOw1.out.alloc _|exact (HOw1.out.alloc _).drew|exact HOw1.out.drew.alloc _) ⟨W1.heap.size,0,none⟩ 1 1 [.int .i64 x.kind,.int .i64 x.num,.string x.text,.slice ax xl cx,.int .i64 2,.int .i64 (cn:Int),.string ⟨#[]⟩,.slice none 0 0] rfl rfl (fun q u hq=>by match q,hq with|0,hq=>(simp at hq;subst hq;simp [Addr.add])|1,hq=>(simp at hq;subst hq;simp [Addr.add])|2,hq=>(simp at hq;subst hq;simp [Addr.add])|3,hq=>(simp at hq;subst hq;simp [Addr.add])|4,hq=>(simp at hq;subst hq;simp [Addr.add])|5,hq=>(simp at hq;subst hq;simp [Addr.add])|6,hq=>(simp at hq;subst hq;simp [Addr.add])|7,hq=>(simp at hq;subst hq;simp [Addr.add])|q+8,hq=>simp at hq) (fun u hu=>by simp at hu;rcases hu with rfl|rfl|rfl|rfl|rfl|rfl|rfl|rfl <;> rfl) (by decide) (by unfold maxLen;omega) (by omega) (by simp;omega) _ rfl ?_;intro g9 cap9 w9 hown9 hg9 hat9 hlt9;have HZ9:Hid (CntI l gs W3 (k+1) (.slice (some ⟨g9,0,none⟩) (k+1) cap9) w9):=HSt.out _ _ hown9 (own_belowG (by first|exact HbW1.out.alloc HbW1.out.size _|exact (HbW1.out.alloc HbW1.out.size _).drew|exact HbW1.out.drew.alloc HbW1.out.size _) (by first|exact HOw1.out.alloc _|exact (HOw1.out.alloc _).drew|exact HOw1.out.drew.alloc _) hg9)))
    all_goals
     clear hown9 hg9 hat9 hlt9
     go_wp2_with fail
     go_roundg (G-(k+1))
     case measure=>have:=Hgk.out;omega
     case rel=>exact⟨k+1,_,rfl,by go_num,rfl,by omega,HZ9⟩
   ·have ek:k=G:=by omega
    subst ek
    have hnl : ¬(k:Int)<(k:Int):=by omega
    obtain⟨qs,r1,r2,r3⟩:=HI.out.ex
    have hql:qs.length=k:=by
     have h1:=congrArg List.length r1
     have h2:=HGe.out
     simp [cntTs,zaf] at h1
     omega
    have r1':qs.map trT=cntTs (zaf l gs):=by
     rw [r1,List.take_of_length_le]
     have:=HGe.out
     simp [zaf];omega
    have hbw:=HI.out.below
    have hsl:SlQ 0 16 wr qs vo:=(SlQ.of_own hql.symm r2 (fun p hp=>(r3 p hp).keeps hbw) (by omega)).mono (Nat.zero_le _)
    have HM:Hid (Calls Tryz.prog 20 #[vo] wr (MapPost 16 (cntTs (zaf l gs)) wr)):=by rw [←r1'];exact vmap_any 16 qs vo wr hsl
    have hbr:Below w.heap.size w wr:=hb5.trans (hbw.mono hb5.size)
    have HRr:Hid (Bx wr w.heap.size zeroT (.slice none 0 0)):=HR3.out.keeps hbw
    have hsr:w.heap.size+1≤wr.heap.size:=Nat.le_trans hs3 hbw.size
    clear r1 r2 r3 r1' hql hsl hbw HI
    generalize hP:CntPost d l w=PP at *
    have HP:Hid (CntPost d l w=PP):=hP
    clear hP
    go_wp2_with fail
    refine Calls.mono HM.out ?_
    rintro e w8 ⟨v8,rfl,hl8,hb8⟩
    have HR8:Hid (Bx w8 w.heap.size zeroT (.slice none 0 0)):=HRr.out.keeps hb8
    have hbz:Below w.heap.size w w8:=hbr.trans (hb8.mono hbr.size)
    have HX8:Hid (LiesX (fun n=>w.heap.size+1≤n) 17 w8 (mapA 16 (cntTs (zaf l gs))).1.items v8):=(LiesX.of_b hl8).mono (fun n hn=>by omega)
    obtain⟨a8,c8,rfl,_⟩:=LiesB.slice hl8
    have HZ:Hid (CntPost d l w (.returned (.tuple #[.agg #[.int .i64 (mapA 16 (cntTs (zaf l gs))).1.kind,.int .i64 (mapA 16 (cntTs (zaf l gs))).1.num,.string (mapA 16 (cntTs (zaf l gs))).1.text,.slice a8 (mapA 16 (cntTs (zaf l gs))).1.items.length c8],.int .i64 (mapA 16 (cntTs (zaf l gs))).2])) (w8.setCells w.heap.size 0 (encP ((mapA 16 (cntTs (zaf l gs))).1,.slice a8 (mapA 16 (cntTs (zaf l gs))).1.items.length c8)))):=.inr ⟨HE.out,gs,HAk.out,_,rfl,(HX8.out.set (g:=w.heap.size) (by omega)).lies,zag hbz (Nat.le_refl _) _⟩
    clear hl8 hb8 HRr hbz hbr HX8 HM
    generalize (mapA 16 (cntTs (zaf l gs))).1=R at *
    generalize (mapA 16 (cntTs (zaf l gs))).2=E at *
    generalize R.items.length=rl at *
    have Hbx:Hid (Bx (w8.setCells w.heap.size 0 (encP (R,.slice a8 rl c8))) w.heap.size R (.slice a8 rl c8)):=HR8.out.put (R,.slice a8 rl c8)
    obtain⟨y0,y1,y2,y3,f0,f1,f2,f3⟩:=HR8.out
    go_wp2_with fail
    refine bodyPost_ret (v:=.tuple #[.agg #[.int .i64 R.kind,.int .i64 R.num,.string R.text,.slice a8 rl c8],.int .i64 E]) ?_ rfl (by rw [←HP.out];exact HZ.out)
    obtain⟨q0,q1,q2,q3,_,_,_,_⟩:=Hbx.out
    simp only [encP,World.setCells,Nat.zero_add,Nat.reduceAdd] at q0 q1 q2 q3
    simp [results,Tryz.results7,go_sem,q0,q1,q2,q3]
 ·generalize hP:CntPost d l w=PP at *
  have HP:Hid (CntPost d l w=PP):=hP
  have HZ:Hid (∀Z,Below w.heap.size w Z→CntPost d l w (.returned (.tuple #[zeroAgg,.int .i64 (zad d l)])) Z):=fun Z hZ=>.inl ⟨hE,tells_zero 17 _ hZ⟩
  clear hP HV
  generalize zad d l=E at *
  have Hbx:Hid (Bx (w2.setCells w.heap.size 0 (encP (zeroT,.slice none 0 0))) w.heap.size zeroT (.slice none 0 0)):=HR2.out.put (zeroT,.slice none 0 0)
  have Hbl:Hid (Below w.heap.size w (w2.setCells w.heap.size 0 (encP (zeroT,.slice none 0 0)))):=zag hb3 (Nat.le_refl _) _
  obtain⟨y0,y1,y2,y3,f0,f1,f2,f3⟩:=HR2.out
  clear hb3 HR2
  go_wp2_with fail
  refine bodyPost_ret (v:=.tuple #[.agg #[.int .i64 0,.int .i64 0,.string ⟨#[]⟩,.slice none 0 0],.int .i64 E]) ?_ rfl (by rw [←HP.out];exact HZ.out _ Hbl.out)
  obtain⟨q0,q1,q2,q3,_,_,_,_⟩:=Hbx.out
  simp only [encP,World.setCells,Nat.zero_add,Nat.reduceAdd] at q0 q1 q2 q3
  simp [results,Tryz.results7,go_sem,q0,q1,q2,q3]
theorem sp25_e:redE 16 6 (intT 0) [intT 50,intT 60,intT 70]=0:=by kernel_rfl
theorem sp25_t:redT 16 6 (intT 0) [intT 50,intT 60,intT 70]=intT 110:=by kernel_rfl
theorem sp25_n:redN 16 6 (intT 0) [intT 50,intT 60,intT 70]=2:=by kernel_rfl
theorem sp25_l:zad 16 [intT 1,intT 2,intT 1]=0:=by kernel_rfl
theorem sp25_m:mapA 16 [(intT 1,intT 2),(intT 2,intT 1)]=(⟨6,0,⟨#[]⟩,[intT 1,intT 2,intT 2,intT 1]⟩,0):=by kernel_rfl
theorem int_good (n:Int):Good 16 (intT n):=⟨int_right n,dp_leaf rfl⟩
theorem sp25_runs {gs:List (List Nat)} (h:Alk [intT 1,intT 2,intT 1] gs):cntTs (zaf [intT 1,intT 2,intT 1] gs)=[(intT 1,intT 2),(intT 2,intT 1)]:=by
 have hg:∀x∈[intT 1,intT 2,intT 1],Good 16 x:=fun x hx=>by
  simp only [List.mem_cons,List.not_mem_nil,or_false] at hx
  rcases hx with rfl|rfl|rfl <;> exact int_good _
 have hc:cmpV 16 (intT 1) (intT 2) = -1:=by kernel_rfl
 have hne:intT 1≠intT 2:=fun e=>by rw [e,cmpV_self] at hc;omega
 have hr:zaf [intT 1,intT 2,intT 1] gs=[(intT 1,2),(intT 2,1)]:=by
  refine runs_one hg (alk_rl h) ⟨fun p hp=>?_,?_⟩ (alk_perm h hg) ?_ (alk_up h hg) ?_
  ·simp only [List.mem_cons,List.not_mem_nil,or_false] at hp
   rcases hp with rfl|rfl
   ·show 1≤2;omega
   ·show 1≤1;omega
  ·refine List.pairwise_cons.2 ⟨fun q hq=>?_,List.pairwise_singleton _ _⟩
   have:q=(intT 2,1):=by simpa using hq
   subst this
   exact hne
  ·show [intT 1,intT 1,intT 2].Perm [intT 1,intT 2,intT 1]
   exact List.Perm.cons _ (List.Perm.swap _ _ _)
  ·show [intT 1,intT 1,intT 2].Pairwise _
   refine List.pairwise_cons.2 ⟨fun q hq=>?_,List.pairwise_cons.2 ⟨fun q hq=>?_,List.pairwise_singleton _ _⟩⟩
   ·simp only [List.mem_cons,List.not_mem_nil,or_false] at hq
    rcases hq with rfl|rfl
    ·rw [cmpV_self];omega
    ·rw [hc];omega
   ·have:q=intT 2:=by simpa using hq
    subst this
    rw [hc];omega
 rw [hr]
 rfl
theorem three25 (b cap:Nat) (x y z:Int) (w:World) (h0:w.cell? ⟨b,0,none⟩=some (.int .i64 x)) (h1:w.cell? ⟨b,1,none⟩=some (.int .i64 y)) (h2:w.cell? ⟨b,2,none⟩=some (.int .i64 z)) :
 Calls Tryz.prog 25 #[.slice (some ⟨b,0,none⟩) 3 cap] w fun e w'=>∃a c,e=.returned (.slice a 3 c)∧Lies 17 w' [intT x,intT y,intT z] (.slice a 3 c)∧Below w.heap.size w w':=by
 refine (ints_any b [x,y,z] cap w (by simp) (fun i hi=>?_)).mono ?_
 ·match i,hi with
  | 0,_=>exact h0
  | 1,_=>exact h1
  | 2,_=>exact h2
 rintro e w' ⟨v,rfl,hown,hb⟩
 have hown2:w'.ownsRow w.heap.size 27 4 v 3 ([(intT x,Value.slice none 0 0),(intT y,Value.slice none 0 0),(intT z,Value.slice none 0 0)].flatMap encP):=hown
 have hl:=own_liesX (X:=fun _=>True) (d:=16) hown2 rfl (fun _ _=>trivial) (fun p hp=>by
  simp only [List.mem_cons,List.not_mem_nil,or_false] at hp
  rcases hp with rfl|rfl|rfl <;> exact⟨⟨none,0,rfl,by simp [intT],fun h=>absurd rfl h⟩,by show 0≤_;omega⟩) (by simp)
 obtain⟨a,c,rfl,_⟩:=LiesX.slice hl
 exact⟨a,c,rfl,hl.lies,hb⟩
theorem speaks25_any (w:World):Calls Tryz.prog 9 #[] w fun e w'=>e=.returned (.bool true)∧Below w.heap.size w w':=by
 have HI:Hid (∀V,Calls Tryz.prog 24 #[.int .i64 0] V fun e w'=>e=.returned (.agg #[.int .i64 2,.int .i64 0,.string ⟨#[]⟩,.slice none 0 0])∧Grew V w'):=fun V=>int_any 0 V
 have H3:Hid (∀V:World,Calls Tryz.prog 25 #[.slice (some ⟨V.heap.size,0,none⟩) 3 3] (V.alloc (.cells #[.int .i64 50,.int .i64 60,.int .i64 70] 2)) fun e w'=>∃a c,e=.returned (.slice a 3 c)∧Lies 17 w' [intT 50,intT 60,intT 70] (.slice a 3 c)∧Below (V.alloc (.cells #[.int .i64 50,.int .i64 60,.int .i64 70] 2)).heap.size (V.alloc (.cells #[.int .i64 50,.int .i64 60,.int .i64 70] 2)) w'):=fun V=>three25 _ _ 50 60 70 _ (by simp) (by simp) (by simp)
 have H4:Hid (∀V:World,Calls Tryz.prog 25 #[.slice (some ⟨V.heap.size,0,none⟩) 3 3] (V.alloc (.cells #[.int .i64 1,.int .i64 2,.int .i64 1] 2)) fun e w'=>∃a c,e=.returned (.slice a 3 c)∧Lies 17 w' [intT 1,intT 2,intT 1] (.slice a 3 c)∧Below (V.alloc (.cells #[.int .i64 1,.int .i64 2,.int .i64 1] 2)).heap.size (V.alloc (.cells #[.int .i64 1,.int .i64 2,.int .i64 1] 2)) w'):=fun V=>three25 _ _ 1 2 1 _ (by simp) (by simp) (by simp)
 go_enter Tryz.func9,Tryz.ntmps9
 go_wp2_with fail
 refine Calls.mono (HI.out _) ?_
 rintro e w1 ⟨rfl,hg1⟩
 have hb1:Below w.heap.size w w1:=hg1.below
 clear hg1 HI
 go_wp2_with fail
 refine Calls.mono (H3.out _) ?_
 rintro e w2 ⟨a2,c2,rfl,hl2,hb2⟩
 have hb2:Below w1.heap.size w1 w2:=((Grew.refl w1).alloc (.cells #[.int .i64 50,.int .i64 60,.int .i64 70] 2)).below.trans (hb2.mono (by simp))
 have hb3:Below w.heap.size w w2:=hb1.trans (hb2.mono hb1.size)
 have HRd:Hid (Calls Tryz.prog 23 #[.int .i64 6,.agg #[.int .i64 2,.int .i64 0,.string ⟨#[]⟩,.slice none 0 0],.slice a2 3 c2] w2 (RedPost (intT 110) 2 0 w2)):=by
  have h:=reduceF_any 16 6 (intT 0) (.slice none 0 0) [intT 50,intT 60,intT 70] (.slice a2 3 c2) w2 (zah (fun _=>True) 16 w2 none 0).lies (by show 0≤_;omega) hl2
  rw [sp25_e,sp25_t,sp25_n] at h
  exact h
 clear hb1 hb2 hl2 H3
 go_wp2_with fail
 refine Calls.mono HRd.out ?_
 rintro e w3 ⟨u3,rfl,hl3,hb4⟩
 obtain⟨a3,c3,rfl,_⟩:=Lies.slice hl3
 have hb5:Below w.heap.size w w3:=hb3.trans (hb4.mono hb3.size)
 clear hb4 hb3 hl3 HRd
 simp only [intT]
 have hal:Below w3.heap.size w3 (w3.alloc (.cells #[.int .i64 2,.int .i64 110,.string ⟨#[]⟩,.slice a3 0 c3] 27)):=((Grew.refl w3).alloc _).below
 have HB4:Hid (Bx (w3.alloc (.cells #[.int .i64 2,.int .i64 110,.string ⟨#[]⟩,.slice a3 0 c3] 27)) w3.heap.size (intT 110) (.slice a3 0 c3)):=zaj w3 (intT 110) _
 obtain⟨W4,hW4⟩:∃W4,W4=w3.alloc (.cells #[.int .i64 2,.int .i64 110,.string ⟨#[]⟩,.slice a3 0 c3] 27):=⟨_,rfl⟩
 have HW4:Hid (W4=w3.alloc (.cells #[.int .i64 2,.int .i64 110,.string ⟨#[]⟩,.slice a3 0 c3] 27)):=hW4
 rw [←hW4] at hal HB4
 have hb6:Below w.heap.size w W4:=hb5.trans (hal.mono hb5.size)
 clear hW4 hal hb5
 go_upto_region 2 with fail
 rw [←HW4.out]
 go_wp2_with fail
 refine Calls.mono (H4.out _) ?_
 rintro e w5 ⟨a5,c5,rfl,hl5,hb7⟩
 have hb7:Below W4.heap.size W4 w5:=((Grew.refl W4).alloc (.cells #[.int .i64 1,.int .i64 2,.int .i64 1] 2)).below.trans (hb7.mono (by simp))
 have hb8:Below w.heap.size w w5:=hb6.trans (hb7.mono hb6.size)
 have HB5:Hid (Bx w5 w3.heap.size (intT 110) (.slice a3 0 c3)):=HB4.out.keeps hb7
 have HCt:Hid (Calls Tryz.prog 7 #[.slice a5 3 c5] w5 (CntPost 16 [intT 1,intT 2,intT 1] w5)):=counts_any 16 [intT 1,intT 2,intT 1] (.slice a5 3 c5) w5 hl5
 clear hb6 hb7 hl5 H4 HB4 HW4
 go_wp2_with fail
 refine Calls.mono HCt.out ?_
 rintro e w6 hpost
 rcases hpost with ⟨h,_⟩|⟨_,gs,hA,v6,rfl,hl6,hb9⟩
 ·exact absurd sp25_l h
 rw [sp25_runs hA,sp25_m] at hl6 ⊢
 simp only at hl6 ⊢
 have hb10:Below w.heap.size w w6:=hb8.trans (hb9.mono hb8.size)
 have HB6:Hid (Bx w6 w3.heap.size (intT 110) (.slice a3 0 c3)):=HB5.out.keeps hb9
 obtain⟨a6,c6,rfl,_,hrow⟩:=hl6
 obtain⟨b1,o1,rfl,hall⟩:=hrow (by simp)
 obtain⟨ux,p0,p1,_,_,_,_⟩:=hall 1 (by simp)
 simp only [List.getElem_cons_succ,List.getElem_cons_zero,intT,Nat.one_mul] at p0 p1
 have z1:=HB6.out.c1
 simp only [intT] at z1
 have hlb:b1<w6.heap.size:=zae p0
 have hl3:w3.heap.size<w6.heap.size:=zae z1
 have hbz:Below w.heap.size w (w6.alloc (.cells #[.int .i64 6,.int .i64 0,.string ⟨#[]⟩,.slice (some ⟨b1,o1,none⟩) 4 c6] 27)):=hb10.alloc hb10.size _
 have HZ:Hid (Below w.heap.size w (w6.alloc (.cells #[.int .i64 6,.int .i64 0,.string ⟨#[]⟩,.slice (some ⟨b1,o1,none⟩) 4 c6] 27))):=hbz
 clear hb10 hb8 hb9 HB5 HB6 HCt hA hall hrow hbz
 simp only [List.length_cons,List.length_nil,Nat.zero_add,Nat.reduceAdd]
 go_wp2_with fail
 go_ret
 exact⟨rfl,HZ.out⟩
end Go.Proofs.YtcflooaoocngdaaGreat
namespace Go.Proofs.YtcflooaoocngdaaGreat
theorem alk_head {l:List VT} {gs:List (List Nat)} (h:Alk l gs) {g:List Nat} (hg:g∈gs):g.headD 0∈g:=by
 cases g with
 | nil=>exact absurd rfl (h.ne [] hg)
 | cons a b=>simp
theorem cnt_rises {l:List VT} {gs:List (List Nat)} (h:Alk l gs):RisesK (cmpTP 16) (cntTs (zaf l gs)):=by
 unfold RisesK cntTs zaf
 rw [List.map_map,List.pairwise_map]
 exact h.rise.imp_of_mem (fun {g g'} hg hg' hgh=>hgh _ (alk_head h hg) _ (alk_head h hg'))
theorem cnt_told {l:List VT} {gs:List (List Nat)} (h:Alk l gs) (he:(mapA 16 (cntTs (zaf l gs))).2=0) :
 (mapA 16 (cntTs (zaf l gs))).1=⟨6,0,⟨#[]⟩,kvT (cntTs (zaf l gs))⟩∧zab 17 (mapA 16 (cntTs (zaf l gs))).1=true:=by
 have hk:mapI 16 (cntTs (zaf l gs))=kvT (cntTs (zaf l gs)):=by
  unfold mapI
  rw [kyd_rises (cmp3K 16) _ _ (by omega) (cnt_rises h)]
 by_cases hp:pErr 16 (cntTs (zaf l gs))=0
 ·by_cases hf:(fw 17 ⟨6,0,⟨#[]⟩,mapI 16 (cntTs (zaf l gs))⟩ 16 1024).1=true
  ·have e:mapA 16 (cntTs (zaf l gs))=(⟨6,0,⟨#[]⟩,mapI 16 (cntTs (zaf l gs))⟩,0):=by unfold mapA;rw [if_neg (fun q=>q hp),if_pos hf]
   rw [e]
   refine⟨by rw [hk],?_⟩
   rw [mapI_right 16 _ hp]
   exact hf
  ·exfalso
   unfold mapA at he
   rw [if_neg (fun q=>q hp),if_neg hf] at he
   cases he
 ·exfalso
  unfold mapA at he
  rw [if_pos hp] at he
  exact hp he
def sumR (rs:List (VT×Nat)) (k:Nat):Nat:=((rs.take k).map (·.2)).sum
theorem sumR_succ (rs:List (VT×Nat)) (k:Nat) (hk:k<rs.length):sumR rs (k+1)=sumR rs k+rs[k].2:=by
 unfold sumR
 rw [List.take_succ_eq_append_getElem hk,List.map_append,List.sum_append]
 simp
theorem sumR_all {l:List VT} {gs:List (List Nat)} (h:Alk l gs):sumR (zaf l gs) (zaf l gs).length=l.length:=by
 unfold sumR
 rw [List.take_length]
 have h1:((zaf l gs).map (·.2)).sum=gs.flatten.length:=by
  rw [List.length_flatten]
  unfold zaf
  rw [List.map_map]
  rfl
 rw [h1,h.perm.length_eq,List.length_range]
theorem sumR_le {rs:List (VT×Nat)} (k:Nat):sumR rs k≤sumR rs rs.length:=by
 unfold sumR
 rw [List.take_length]
 conv=>rhs;rw [←List.take_append_drop k rs,List.map_append,List.sum_append]
 omega
def dstI (gs:List (List Nat)):List Int:=(gs.map fun g=>((g.headD 0:Nat):Int)).mergeSort fun x y=>decide (x≤y)
def dstL (l:List VT) (gs:List (List Nat)):List VT:=(dstI gs).map fun i=>l.getD i.toNat nilT
theorem dstI_len (gs:List (List Nat)):(dstI gs).length=gs.length:=by
 unfold dstI
 rw [List.length_mergeSort,List.length_map]
theorem dstL_len (l:List VT) (gs:List (List Nat)):(dstL l gs).length=gs.length:=by
 unfold dstL
 rw [List.length_map,dstI_len]
theorem dstI_in {l:List VT} {gs:List (List Nat)} (h:Alk l gs):∀i∈dstI gs,0≤i∧i<l.length:=by
 intro i hi
 unfold dstI at hi
 rw [List.mem_mergeSort] at hi
 obtain⟨g,hg,rfl⟩:=List.mem_map.1 hi
 have:=alk_in h hg (alk_head h hg)
 exact⟨by omega,by omega⟩
end Go.Proofs.YtcflooaoocngdaaGreat
