import Derived.Test.YtlnecfjnffdciabGreatEqualM
import Derived.Test.YtlnecfjnffdciabGreatRIn
set_option maxRecDepth 100000
set_option maxHeartbeats 16000000
namespace Go.Proofs.YtlnecfjnffdciabGreat
open Go.RowKit Go.Shelf
def FzP (q:Nat) (k:VT) (l:List PT) (r:Nat) (F:Bool):Prop:=(F=true→∃hr:r<l.length,ordV q l[r].1 k=0)∧(F=false→∀hr:r<l.length,ordV q l[r].1 k≠0)
def PlPost (q:Nat) (k:VT) (l:List PT) (w:World) (e:Ending) (w':World):Prop:=Below w.heap.size w w'∧∃(r:Nat) (F:Bool),e=.returned (.tuple #[.int .i64 (r:Int),.bool F])∧PlK q k l r∧FzP q k l r F
theorem rplc_14 {w:World} {q:Nat} {l:List PT} {c:Nat} (h:DM w q l c) (y:VT) (yu:Value) (hy:Lies 16 w y.items yu) (hyr:zac 16 y=true) :
 Calls Tryz.prog 141 #[.pointer (some ⟨c,0,none⟩),.agg #[.int .i64 y.kind,.int .i64 y.num,.string y.text,yu]] w (PlPost q y l w):=by
 obtain⟨ay,cy,rfl,_⟩:=Lies.slice hy
 obtain⟨qs,v,hrow,hqt,hsl⟩:=h.row
 have hzl:qs.length=l.length:=by rw [←hqt,List.length_map]
 have hel:∀j (hj:j<l.length),l[j].1=(qs[j]'(by omega)).1.1:=fun j hj=>by
  have e:l[j]? = (qs.map trT)[j]?:=by rw [hqt]
  rw [List.getElem?_eq_getElem hj,List.getElem?_map,List.getElem?_eq_getElem (by omega)] at e
  injection e with e
  rw [e];rfl
 have hyg:Good 16 y:=⟨hyr,Dp.of_lies 16 w y _ hy⟩
 have HLl:Hid (qs.length=l.length):=hzl
 have HK:Hid (∀r,r≤qs.length→(∀j (hj:j<qs.length),j<r→ordV q qs[j].1.1 y<0)→(∀j (hj:j<qs.length),r≤j→0≤ordV q qs[j].1.1 y)→PlK q y l r):=fun r h1 h2 h3=>⟨by omega,fun j hj hjr=>by rw [hel j hj];exact h2 j (by omega) hjr,fun j hj hjr=>by rw [hel j hj];have:=h3 j (by omega) hjr;omega⟩
 have HFz:Hid (∀r (hr:r<qs.length) (F:Bool),F=(cmpV 16 qs[r].1.1 y==0)→FzP q y l r F):=fun r hr F hF=>by
  have hrl:r<l.length:=by omega
  have hz:=zax q (h.right l[r] (List.getElem_mem hrl)).1 hyg
  rw [hel r hrl] at hz
  subst hF
  refine⟨fun e=>⟨hrl,by rw [hel r hrl];exact hz.2 (by simpa using e)⟩,fun e _=>by rw [hel r hrl];exact fun h9=>by have:=hz.1 h9;simp [this] at e⟩
 have HMon:Hid (∀i j (hj:j<qs.length) (hij:i≤j),ordV q qs[j].1.1 y<0→ordV q (qs[i]'(Nat.lt_of_le_of_lt hij hj)).1.1 y<0):=fun i j hj hij h1=>by
  by_cases e:i=j
  ·subst e;exact h1
  ·have h4:=List.pairwise_iff_getElem.1 h.rises i j (by omega) (by omega) (by omega)
   have h5:=(zbd q).trans l[i] l[j] (y,y) (by omega) (by show ordV q l[j].1 y<0;rw [hel j (by omega)];exact h1)
   have h6:ordV q l[i].1 y<0:=h5
   rwa [hel i (by omega)] at h6
 have Ho:Hid (∀(x:VT) (xv tv:Value) (W:World),Lies 16 W x.items xv→Lies 16 W y.items tv→zac 16 x=true→zac 16 y=true→Calls Tryz.prog 91 #[.int .i64 (q:Int),.agg #[.int .i64 x.kind,.int .i64 x.num,.string x.text,xv],.agg #[.int .i64 y.kind,.int .i64 y.num,.string y.text,tv]] W fun e w'=>e=.returned (.int .i64 (ordV q x y))∧Below W.heap.size W w'):=fun x xv tv W k1 k2 k3 k4=>rordV_any q h.q6 x y xv tv W k1 k2 k3 k4
 have Hs:Hid (∀(x:VT) (xv tv:Value) (W:World),Lies 16 W x.items xv→Lies 16 W y.items tv→Calls Tryz.prog 206 #[.agg #[.int .i64 x.kind,.int .i64 x.num,.string x.text,xv],.agg #[.int .i64 y.kind,.int .i64 y.num,.string y.text,tv]] W fun e w'=>e=.returned (.bool (cmpV 16 x y==0))∧Below W.heap.size W w'):=fun x xv tv W k1 k2=>rsame_any x y xv tv W k1 k2
 have HT:Hid (Lies 16 w y.items (.slice ay y.items.length cy)∧zac 16 y=true):=⟨hy,hyr⟩
 have HG:Hid (∀p∈qs,zac 16 p.1.1=true):=fun p hp=>(h.right (trT p) (by rw [←hqt];exact List.mem_map_of_mem hp)).1.1
 have HL:Hid (qs.length≤65536):=by show _≤_;have:=h.size;omega
 obtain⟨a,cp,rfl,hac,_,hr0,hgood⟩:=hsl
 have Hr:Hid (qs≠[]→∃b o,a=some ⟨b,o,none⟩∧0≤b∧QAt w b o qs):=hr0
 have HGd:Hid (∀p∈qs,GoodQ 16 w p):=hgood
 obtain⟨W0,hW0⟩:∃W0,W0=(w.alloc (.cells #[.int .i64 y.kind,.int .i64 y.num,.string y.text,.slice ay y.items.length cy] 33)):=⟨_,rfl⟩
 have hb0:Below w.heap.size w W0:=by rw [hW0];exact ((Grew.refl w).alloc _).below
 have HB0:Hid (Bx W0 w.heap.size y (.slice ay y.items.length cy)):=by rw [hW0];exact bx_alloc _ _ _
 obtain⟨N,hN⟩:∃N,N=qs.length:=⟨_,rfl⟩
 have HN:Hid (N=qs.length):=hN
 rw [←hN] at hrow
 have Hc0:Hid (w.cell? ⟨c,0,none⟩=some (.int .i64 (q:Int))):=h.ord
 have Hc1:Hid (w.cell? ⟨c,1,none⟩=some (.slice a N cp)):=hrow
 have Hcp:Hid (N≤cp):=by show _≤_;omega
 have hN5:N≤65536:=by have:=HL.out;omega
 clear hr0 hgood hac hN hrow hqt h hyg hel hzl hy hyr
 generalize ordV q=g at *
 go_enter Tryz.func141,Tryz.ntmps141
 go_wp2_with fail
 rw [←hW0]
 clear hW0
 have c0:=zaa hb0 Hc0.out
 have c1:=zaa hb0 Hc1.out
 go_region
 go_wp2_with fail
 go_loopg [6,7] N (fun z va vb wr=>∃lo hi:Nat,va=.int .i64 (lo:Int)∧vb=.int .i64 (hi:Int)∧z=hi-lo∧lo≤hi∧hi≤N∧Hid (∀j (hj:j<qs.length),j<lo→g qs[j].1.1 y<0)∧Hid (∀j (hj:j<qs.length),hi≤j→0≤g qs[j].1.1 y)∧Hid (Bx wr w.heap.size y (.slice ay y.items.length cy))∧Hid (Below w.heap.size w wr))
 case atStart=>exact⟨0,N,rfl,rfl,by omega,by omega,by omega,fun j hj h=>by omega,fun j hj h=>by have:=HN.out;omega,HB0.out.keeps ((Below.refl _ _).drew),hb0.drew⟩
 case round=>
  obtain⟨lo,hi,rfl,rfl,hz,hlh,hhN,HD,HU,HB,HW⟩:=hrel
  have Hz:Hid _:=hz
  clear hz HB0 hb0 c0 c1
  have hbw:=HW.out
  have c0:=zaa hbw Hc0.out
  have c1:=zaa hbw Hc1.out
  obtain⟨r0,r1,r2,r3,_,_,_,_⟩:=HB.out
  have hwl:=hbw.size
  by_cases hlt:lo<hi
  ·have hki:(lo:Int)<(hi:Nat):=by omega
   obtain⟨m,hm⟩:∃m,m=(lo+hi) / 2:=⟨_,rfl⟩
   have hm1:lo≤m:=by omega
   have hm2:m<hi:=by omega
   have hmN:m<N:=by omega
   have hmc:m<cp:=by have:=Hcp.out;omega
   have hq2:((lo:Int)+(hi:Int)) / 2=((m:Nat):Int):=by omega
   have Hm:Hid (m=(lo+hi) / 2):=hm
   have hltq:m<qs.length:=by have:=HN.out;omega
   obtain⟨b,o,rfl,_,hall⟩:=Hr.out (by intro e;simp [e] at hltq)
   have gp:=HG.out qs[m] (List.getElem_mem hltq)
   have gq:=(HGd.out qs[m] (List.getElem_mem hltq)).1
   have Hyes:Hid (g qs[m].1.1 y<0→∀j (hj:j<qs.length),j<m+1→g qs[j].1.1 y<0):=fun h j hj h2=>HMon.out j m hltq (by omega) h
   have Hno:Hid (0≤g qs[m].1.1 y→∀j (hj:j<qs.length),m≤j→0≤g qs[j].1.1 y):=fun h j hj h2=>by
    have h4:=HMon.out m j hj h2
    omega
   obtain⟨p0,p1,p2,p3,q4,q5,q6,q7⟩:=hall.at m hltq
   clear q4 q5 q6 q7
   obtain⟨ax,cx,hax,_⟩:=Lies.slice gq.1
   rw [hax] at p3
   have HX:Hid (Lies 16 w qs[m].1.1.items (.slice ax qs[m].1.1.items.length cx)∧zac 16 qs[m].1.1=true):=⟨by rw [←hax];exact gq.1,gp⟩
   clear hall gp gq hax hm
   generalize qs[m].1.1=x at *
   have p0:=zaa hbw p0;have p1:=zaa hbw p1;have p2:=zaa hbw p2;have p3:=zaa hbw p3
   clear hltq hlh
   go_wp2_with fail
   go_region_held3 (fun w'=>w'.cell? ⟨c,0,none⟩=some (.int .i64 (q:Int))∧w'.cell? ⟨c,1,none⟩=some (.slice (some ⟨b,o,none⟩) N cp)∧w'.cell? ⟨b,o+m*8,none⟩=some (.int .i64 x.kind)∧w'.cell? ⟨b,o+m*8+1,none⟩=some (.int .i64 x.num)∧w'.cell? ⟨b,o+m*8+2,none⟩=some (.string x.text)∧w'.cell? ⟨b,o+m*8+3,none⟩=some (.slice ax x.items.length cx)∧w'.cell? ⟨w.heap.size,0,none⟩=some (.int .i64 y.kind)∧w'.cell? ⟨w.heap.size,1,none⟩=some (.int .i64 y.num)∧w'.cell? ⟨w.heap.size,2,none⟩=some (.string y.text)∧w'.cell? ⟨w.heap.size,3,none⟩=some (.slice ay y.items.length cy)) (go_keep)
    (first|(go_at_call 91;(with_reducible refine (Ho.out x _ _ _ (Lies.keeps hbw.drew _ _ _ HX.out.1) (Lies.keeps hbw.drew _ _ _ HT.out.1) HX.out.2 HT.out.2).mono ?_);rintro e w1 ⟨rfl,hg1⟩;have hb1':Below wr.heap.size wr w1:=(Below.refl _ _).drew.trans hg1;have hb1:Below w.heap.size w w1:=hbw.trans (hb1'.mono hwl);have HB1:Hid (Bx w1 w.heap.size y (.slice ay y.items.length cy)):=HB.out.keeps hb1';clear hg1;have c0:=zaa hb1' c0;have c1:=zaa hb1' c1;have p0:=zaa hb1' p0;have p1:=zaa hb1' p1;have p2:=zaa hb1' p2;have p3:=zaa hb1' p3;have r0:=zaa hb1' r0;have r1:=zaa hb1' r1;have r2:=zaa hb1' r2;have r3:=zaa hb1' r3))
   clear p0 p1 p2 p3 r0 r1 r2 r3 hb1' HB c0 c1
   by_cases hz:g x y<0
   ·have HD2:Hid _:=Hyes.out hz
    clear Hyes Hno
    generalize g x y=Z at *
    go_wp2_with fail
    go_roundg (hi-(m+1))
    case measure=>have:=Hz.out;omega
    case rel=>exact⟨m+1,hi,by go_num,rfl,rfl,by omega,hhN,HD2,HU,HB1,hb1⟩
   ·have HU2:Hid _:=Hno.out (by omega)
    clear Hyes Hno
    generalize g x y=Z at *
    go_wp2_with fail
    go_roundg (m-lo)
    case measure=>have:=Hz.out;omega
    case rel=>exact⟨lo,m,rfl,rfl,rfl,by omega,by omega,HD,HU2,HB1,hb1⟩
  ·have hki : ¬(lo:Int)<(hi:Nat):=by omega
   obtain rfl:hi=lo:=by omega
   have HP:Hid (PlK q y l hi):=HK.out hi (by have:=HN.out;omega) HD.out HU.out
   clear HD HU HK Hz hlt hlh
   by_cases hlN:hi<N
   ·have hnI:(hi:Int)<(N:Nat):=by omega
    obtain⟨m,rfl⟩:∃m,m=hi:=⟨_,rfl⟩
    have hmc:m<cp:=by have:=Hcp.out;omega
    have hltq:m<qs.length:=by have:=HN.out;omega
    obtain⟨b,o,rfl,_,hall⟩:=Hr.out (by intro e;simp [e] at hltq)
    have gp:=HG.out qs[m] (List.getElem_mem hltq)
    have gq:=(HGd.out qs[m] (List.getElem_mem hltq)).1
    have HF:Hid _:=HFz.out m hltq _ rfl
    obtain⟨F,hF⟩:∃F,F=(cmpV 16 qs[m].1.1 y==0):=⟨_,rfl⟩
    have HFe:Hid (F=(cmpV 16 qs[m].1.1 y==0)):=hF
    rw [←hF] at HF
    obtain⟨p0,p1,p2,p3,q4,q5,q6,q7⟩:=hall.at m hltq
    clear q4 q5 q6 q7 hF
    obtain⟨ax,cx,hax,_⟩:=Lies.slice gq.1
    rw [hax] at p3
    have HX:Hid (Lies 16 w qs[m].1.1.items (.slice ax qs[m].1.1.items.length cx)):=by show Lies _ _ _ _;rw [←hax];exact gq.1
    clear hall gp gq hax
    generalize qs[m].1.1=x at *
    have p0:=zaa hbw p0;have p1:=zaa hbw p1;have p2:=zaa hbw p2;have p3:=zaa hbw p3
    clear hltq
    go_wp2_with fail
    go_region_held3 (fun w'=>w'.cell? ⟨c,0,none⟩=some (.int .i64 (q:Int))∧w'.cell? ⟨c,1,none⟩=some (.slice (some ⟨b,o,none⟩) N cp)∧w'.cell? ⟨b,o+m*8,none⟩=some (.int .i64 x.kind)∧w'.cell? ⟨b,o+m*8+1,none⟩=some (.int .i64 x.num)∧w'.cell? ⟨b,o+m*8+2,none⟩=some (.string x.text)∧w'.cell? ⟨b,o+m*8+3,none⟩=some (.slice ax x.items.length cx)∧w'.cell? ⟨w.heap.size,0,none⟩=some (.int .i64 y.kind)∧w'.cell? ⟨w.heap.size,1,none⟩=some (.int .i64 y.num)∧w'.cell? ⟨w.heap.size,2,none⟩=some (.string y.text)∧w'.cell? ⟨w.heap.size,3,none⟩=some (.slice ay y.items.length cy)) (go_keep)
     (first|(go_at_call 206;(with_reducible refine (Hs.out x _ _ _ (Lies.keeps hbw.drew _ _ _ HX.out) (Lies.keeps hbw.drew _ _ _ HT.out.1)).mono ?_);rintro e w4 ⟨rfl,hg1⟩;have hb4':Below wr.heap.size wr w4:=(Below.refl _ _).drew.trans hg1;have hb4:Below w.heap.size w w4:=hbw.trans (hb4'.mono hwl);clear hg1;have c0:=zaa hb4' c0;have c1:=zaa hb4' c1;have p0:=zaa hb4' p0;have p1:=zaa hb4' p1;have p2:=zaa hb4' p2;have p3:=zaa hb4' p3;have r0:=zaa hb4' r0;have r1:=zaa hb4' r1;have r2:=zaa hb4' r2;have r3:=zaa hb4' r3))
    clear p0 p1 p2 p3 r0 r1 r2 r3 hb4' c0 c1
    rw [←HFe.out]
    go_wp2_with fail
    exact bodyPost_ret (v:=.tuple #[.int .i64 m,.bool F]) (by simp [results,Tryz.results141,go_sem]) rfl ⟨hb4,m,F,rfl,HP.out,HF.out⟩
   ·have hnI : ¬(hi:Int)<(N:Nat):=by omega
    go_wp2_with fail
    go_region
    go_wp2_with fail
    exact bodyPost_ret (v:=.tuple #[.int .i64 hi,.bool false]) (by simp [results,Tryz.results141,go_sem]) rfl ⟨hbw.drew,hi,false,rfl,HP.out,(fun e=>by cases e),fun _ hr=>absurd hr (by have:=HLl.out;have:=HN.out;omega)⟩
theorem row_pair14 {w0:World} {qs:List PP} {a:Option Addr} {c N:Nat} (hv:SlQ 0 16 w0 qs (.slice a N c)) {j:Nat} (hj:j<qs.length):∃(a1:Option Addr) (c1:Nat) (a2:Option Addr) (c2 b o:Nat),a=some ⟨b,o,none⟩∧Lies 16 w0 (trT qs[j]).1.items (.slice a1 (trT qs[j]).1.items.length c1)∧Lies 16 w0 (trT qs[j]).2.items (.slice a2 (trT qs[j]).2.items.length c2)∧(w0.cell? ⟨b,o+j*8,none⟩=some (.int .i64 (trT qs[j]).1.kind)∧w0.cell? ⟨b,o+j*8+1,none⟩=some (.int .i64 (trT qs[j]).1.num)∧w0.cell? ⟨b,o+j*8+2,none⟩=some (.string (trT qs[j]).1.text)∧w0.cell? ⟨b,o+j*8+3,none⟩=some (.slice a1 (trT qs[j]).1.items.length c1)∧w0.cell? ⟨b,o+j*8+4,none⟩=some (.int .i64 (trT qs[j]).2.kind)∧w0.cell? ⟨b,o+j*8+5,none⟩=some (.int .i64 (trT qs[j]).2.num)∧w0.cell? ⟨b,o+j*8+6,none⟩=some (.string (trT qs[j]).2.text)∧w0.cell? ⟨b,o+j*8+7,none⟩=some (.slice a2 (trT qs[j]).2.items.length c2)):=by
 obtain⟨a',c',he,_,_,hrow,hgood⟩:=hv
 simp only [Value.slice.injEq] at he
 obtain⟨rfl,_,rfl⟩:=he
 obtain⟨b,o,rfl,_,hall⟩:=hrow (by intro e;simp [e] at hj)
 have hg:=hgood qs[j] (List.getElem_mem hj)
 obtain⟨p0,p1,p2,p3,p4,p5,p6,p7⟩:=hall.at j hj
 obtain⟨a1,c1,e1,_⟩:=Lies.slice hg.1.1
 obtain⟨a2,c2,e2,_⟩:=Lies.slice hg.2.1
 have g1:=hg.1.1
 have g2:=hg.2.1
 rw [e1] at p3 g1
 rw [e2] at p7 g2
 exact⟨a1,c1,a2,c2,b,o,rfl,g1,g2,p0,p1,p2,p3,p4,p5,p6,p7⟩
def valO (o:Option PT):VT:=match o with|some x=>x.2|none=>zeroT
def HvPost (n0:Nat) (o:Option PT) (w:World) (e:Ending) (w':World):Prop:=Below w.heap.size w w'∧∃a c,e=.returned (.tuple #[.agg #[.int .i64 (valO o).kind,.int .i64 (valO o).num,.string (valO o).text,.slice a (valO o).items.length c],.bool o.isSome])∧LiesX (fun b=>b<n0) 16 w' (valO o).items (.slice a (valO o).items.length c)
theorem rhave_14 {w0 w:World} {q:Nat} {l:List PT} {c:Nat} (h0:DM w0 q l c) (hw0:Below w0.heap.size w0 w) (y:VT) (yu:Value) (hy:Lies 16 w y.items yu) (hyr:zac 16 y=true) :
 Calls Tryz.prog 132 #[.pointer (some ⟨c,0,none⟩),.agg #[.int .i64 y.kind,.int .i64 y.num,.string y.text,yu]] w (HvPost w0.heap.size (findK q y l) w):=by
 have h:=h0.keeps hw0
 obtain⟨ay,cy,rfl,_⟩:=Lies.slice hy
 obtain⟨qs,v,hrow0,hqt,hsl⟩:=h0.row
 have hrow:=zaa hw0 hrow0
 clear hrow0 h0
 obtain⟨W0,hW0⟩:∃W0,W0=((w.alloc (.cells #[.int .i64 y.kind,.int .i64 y.num,.string y.text,.slice ay y.items.length cy] 33)).alloc (.cells #[.int .i64 0,.int .i64 0,.string ⟨#[]⟩,.slice none 0 0] 33)):=⟨_,rfl⟩
 have hb0:Below w.heap.size w W0:=by rw [hW0];exact (((Grew.refl w).alloc _).alloc _).below
 have HY0:Hid (Bx W0 w.heap.size y (.slice ay y.items.length cy)):=by rw [hW0];exact (bx_alloc _ _ _).keeps ((Grew.refl _).alloc _).below
 have HZ0:Hid (Bx W0 (w.heap.size+1) zeroT (.slice none 0 0)):=by
  rw [hW0]
  have h9:=bx_alloc (w.alloc (.cells #[.int .i64 y.kind,.int .i64 y.num,.string y.text,.slice ay y.items.length cy] 33)) zeroT (.slice none 0 0)
  rwa [World.size_alloc] at h9
 have HPc:Hid (Calls Tryz.prog 141 #[.pointer (some ⟨c,0,none⟩),.agg #[.int .i64 y.kind,.int .i64 y.num,.string y.text,.slice ay y.items.length cy]] W0 (PlPost q y l W0)):=rplc_14 (h.keeps hb0) y _ (Lies.keeps hb0 _ _ _ hy) hyr
 have hsW:W0.heap.size=w.heap.size+1+1:=by rw [hW0];simp
 have HsW:Hid (W0.heap.size=w.heap.size+1+1):=hsW
 have HD:Hid (DM w q l c):=h
 clear hsW h hy hyr
 go_enter Tryz.func132,Tryz.ntmps132
 obtain⟨r0,r1,r2,r3,_,_,_,_⟩:=HY0.out
 go_wp2_with fail
 rw [←hW0]
 clear hW0
 go_wp2_with fail
 refine Calls.mono HPc.out ?_
 rintro e w1 ⟨hg1,r,F,rfl,hpl,hF1,hF2⟩
 have hb1:Below w.heap.size w w1:=hb0.trans (hg1.mono hb0.size)
 have HZ1:Hid (Bx w1 (w.heap.size+1) zeroT (.slice none 0 0)):=HZ0.out.keeps hg1
 have hl1:w.heap.size+1<w1.heap.size:=by have:=hg1.size;have:=HsW.out;omega
 obtain⟨y0,y1,y2,y3,f0,f1,f2,f3⟩:=HZ1.out
 clear r0 r1 r2 r3 HPc HY0 HZ0 hg1 hb0
 cases F with
 | false=>
  have HE:Hid (HvPost w0.heap.size (findK q y l) w (.returned (.tuple #[.agg #[.int .i64 0,.int .i64 0,.string ⟨#[]⟩,.slice none 0 0],.bool false])) (w1.setCells (w.heap.size+1) 0 (encP (zeroT,.slice none 0 0)))):=by
   rw [(hpl.none_at HD.out.rises (hF2 rfl)).2]
   exact⟨below_put hb1 (by omega) _,none,0,rfl,liesX_nil _ _ _ _ _⟩
  have Hbx:Hid _:=HZ1.out.put (zeroT,.slice none 0 0)
  clear hF1 hF2 hpl hrow hsl HD
  go_wp2_with fail
  refine bodyPost_ret (v:=.tuple #[.agg #[.int .i64 0,.int .i64 0,.string ⟨#[]⟩,.slice none 0 0],.bool false]) ?_ rfl HE.out
  obtain⟨q0,q1,q2,q3,_,_,_,_⟩:=Hbx.out
  simp only [encP,World.setCells,Nat.zero_add,Nat.reduceAdd] at q0 q1 q2 q3
  simp [results,Tryz.results132,go_sem,q0,q1,q2,q3]
 | true=>
  obtain⟨hrl,hz⟩:=hF1 rfl
  have hfk:=(hpl.some_at HD.out.rises hrl hz).2.1
  have hrq:r<qs.length:=by rw [←hqt,List.length_map] at hrl;exact hrl
  obtain⟨a,cp,rfl,_⟩:=hsl.slice
  obtain⟨N,hN⟩:∃N,N=qs.length:=⟨_,rfl⟩
  rw [←hN] at hrow hsl
  obtain⟨a1,c1,a2,c2,b,o,rfl,g1,g2,p0,p1,p2,p3,p4,p5,p6,p7⟩:=row_pair14 hsl hrq
  have hrN:r<N:=by omega
  have hN5:N≤65536:=by rw [hN,←List.length_map (f:=trT),hqt];exact HD.out.size
  have hNc:N≤cp:=by have:=hsl;obtain⟨_,_,he,h1,_⟩:=this;simp only [Value.slice.injEq] at he;omega
  have hfk2:findK q y l=some (trT qs[r]):=by
   rw [hfk]
   subst hqt
   rw [List.getElem_map]
  have hGL:Hid (LiesX (fun b=>b<w0.heap.size) 16 w1 (trT qs[r]).2.items (.slice a2 (trT qs[r]).2.items.length c2)):=((LiesX.of_lies g2).keeps hw0).keeps hb1
  have c1':=zaa hb1 hrow
  have hb01:=hw0.trans (hb1.mono hw0.size)
  replace p4:=zaa hb01 p4;replace p5:=zaa hb01 p5;replace p6:=zaa hb01 p6;replace p7:=zaa hb01 p7
  have HFk:Hid (findK q y l=some (trT qs[r])):=hfk2
  clear g1 hfk hfk2 p0 p1 p2 p3 g2 hsl hrow hN hF1 hF2 hpl hz HD
  generalize trT qs[r]=x at *
  clear hrq hrl hqt
  have hw0s:=hw0.size
  have HL2:LiesX (fun b=>b<w0.heap.size) 16 (w1.setCells (w.heap.size+1) 0 (encP (x.2,.slice a2 x.2.items.length c2))) x.2.items (.slice a2 x.2.items.length c2):=hGL.out.set (by omega)
  have HE:Hid (HvPost w0.heap.size (findK q y l) w (.returned (.tuple #[.agg #[.int .i64 x.2.kind,.int .i64 x.2.num,.string x.2.text,.slice a2 x.2.items.length c2],.bool true])) (w1.setCells (w.heap.size+1) 0 (encP (x.2,.slice a2 x.2.items.length c2)))):=by
   rw [HFk.out]
   exact⟨below_put hb1 (by omega) _,a2,c2,rfl,HL2⟩
  have Hbx:Hid _:=HZ1.out.put (x.2,.slice a2 x.2.items.length c2)
  clear hGL HL2
  go_wp2_with fail
  refine bodyPost_ret (v:=.tuple #[.agg #[.int .i64 x.2.kind,.int .i64 x.2.num,.string x.2.text,.slice a2 x.2.items.length c2],.bool true]) ?_ rfl HE.out
  obtain⟨q0,q1,q2,q3,_,_,_,_⟩:=Hbx.out
  simp only [encP,World.setCells,Nat.zero_add,Nat.reduceAdd] at q0 q1 q2 q3
  simp [results,Tryz.results132,go_sem,q0,q1,q2,q3]
end Go.Proofs.YtlnecfjnffdciabGreat
