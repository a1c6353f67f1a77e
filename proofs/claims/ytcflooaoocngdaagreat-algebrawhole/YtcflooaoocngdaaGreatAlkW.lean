import Derived.Test.YtcflooaoocngdaaGreatAlkM
import Derived.Deep.CutBlock
set_option maxRecDepth 100000
namespace Go.Proofs.YtcflooaoocngdaaGreat
open Go.RowKit
theorem infoN:∃i0,Tryz.prog.info? 3=some i0∧i0.zero=some (.int .i64 0)∧i0.size=1∧i0.bytes=8:=by
 refine⟨_,rfl,?_,?_,?_⟩
 all_goals kernel_rfl
theorem infoG:∃i0,Tryz.prog.info? 50=some i0∧i0.zero=some (.slice none 0 0)∧i0.size=1∧i0.bytes=0x18:=by
 refine⟨_,rfl,?_,?_,?_⟩
 all_goals kernel_rfl
structure AlkI (l:List VT) (pl:List Nat) (g:Nat) (Ws:World) (m oo o:Nat) (gs:List (List Nat)) (vo:Value) (wr:World):Prop where
 len:o+m=pl.length
 at_:0<m→oo=o
 q:AlkQ l pl o gs
 own:wr.ownsRow Ws.heap.size 50 1 vo gs.length (encG g 0 gs)
 below:Below Ws.heap.size Ws wr
theorem AlkI.gl {l:List VT} {pl:List Nat} {g:Nat} {Ws:World} {m oo o:Nat} {gs:List (List Nat)} {vo:Value} {wr:World} (h:AlkI l pl g Ws m oo o gs vo wr):gs.length≤o:=by
 have hf:=congrArg List.length h.q.flat
 have h1:gs.length≤gs.flatten.length:=by
  have:∀(xs:List (List Nat)),(∀g∈xs,g≠[])→xs.length≤xs.flatten.length:=by
   intro xs
   induction xs with
   | nil=>intro _;simp
   | cons a b ih=>
    intro hne
    have:=ih (fun g hg=>hne g (List.mem_cons_of_mem _ hg))
    have ha:=hne a (List.mem_cons_self ..)
    have:0<a.length:=List.length_pos_iff.2 ha
    simp only [List.length_cons,List.flatten_cons,List.length_append]
    omega
  exact this gs h.q.ne
 rw [List.length_take] at hf
 omega
theorem AlkI.step {l:List VT} {pl:List Nat} {g:Nat} {Ws:World} {m oo o k:Nat} {gs:List (List Nat)} {vo:Value} {wr:World} (h:AlkI l pl g Ws m oo o gs vo wr) (hs:pl.Pairwise (fun i j=>cfI l i j<0)) (hk:0<k) (hkm:k≤m) (heq:∀i,i<k→∀(h1:o+i<pl.length) (h0:o<pl.length),cmpV 16 (l.getD pl[o] nilT) (l.getD pl[o+i] nilT)=0) (hend:∀(h1:o+k<pl.length) (h0:o<pl.length),cmpV 16 (l.getD pl[o] nilT) (l.getD pl[o+k] nilT)≠0)
 {v':Value} {w':World} (hown:w'.ownsRow Ws.heap.size 50 1 v' (gs.length+1) (encG g 0 gs++[.slice (some ⟨g,oo,none⟩) k k])) (hb:Below Ws.heap.size Ws w') (oo':Nat) (hoo:k<m→oo'=oo+k):AlkI l pl g Ws (m-k) oo' (o+k) (gs++[(pl.drop o).take k]) v' w':=by
 have hlen:((pl.drop o).take k).length=k:=by have:=h.len;simp;omega
 refine⟨by have:=h.len;omega,fun hm=>by rw [hoo (by omega),h.at_ (by omega)],h.q.step hs hk (by have:=h.len;omega) heq hend,?_,hb⟩
 have hfl:gs.flatten.length=o:=by
  have:=congrArg List.length h.q.flat
  rw [List.length_take] at this
  have:=h.len
  omega
 rw [encG_snoc,List.length_append,hlen,Nat.zero_add,hfl,←h.at_ (by omega)]
 exact hown
theorem AlkI.fin {l:List VT} {pl:List Nat} {g:Nat} {Ws:World} {oo o:Nat} {gs:List (List Nat)} {vo:Value} {wr w:World} (h:AlkI l pl g Ws 0 oo o gs vo wr) (hp:pl.Perm (List.range l.length)) (hs:pl.Pairwise (fun i j=>cfI l i j<0)) (hw:Below w.heap.size w Ws) (hl:pl.length≤65536) (hc:∀(k:Nat) (hk:k<pl.length),Ws.cell? ⟨g,k,none⟩=some (.int .i64 ((pl[k]:Nat):Int))) :
 AlkPost l w (.returned vo) wr:=by
 have ho:o=pl.length:=by have:=h.len;omega
 have hq:=h.q
 rw [ho] at hq
 have hgl:=h.gl
 refine⟨gs,vo,rfl,hq.done hp hs,?_,hw.trans (h.below.mono hw.size)⟩
 rcases h.own.2 with ⟨hv,hx⟩|⟨b,cap,cur,hv,hb0,hblk,hnc,hcm,hcs,hcur⟩
 ·have hg0:gs=[]:=List.length_eq_zero_iff.1 hx
  subst hg0
  exact⟨none,0,hv,by simp,fun k hk=>by simp at hk⟩
 ·refine⟨some ⟨b,0,none⟩,cap,hv,by omega,fun k hk=>?_⟩
  subst hv
  refine⟨b,0,g,(gs.take k).flatten.length,gs[k].length,rfl,?_,fun mm hm=>?_⟩
  ·have h1:=h.own.cellAt k (by omega)
   rw [encG_get g gs 0 k hk] at h1
   simpa using h1
  ·have hin:(gs.take k).flatten.length+mm<pl.length:=by
    have e1:gs.flatten=pl:=by rw [hq.flat];simp
    rw [←e1]
    have e2:gs=gs.take k++gs[k]::gs.drop (k+1):=by
     rw [←List.drop_eq_getElem_cons hk,List.take_append_drop]
    conv=>rhs;rw [e2]
    simp only [List.flatten_append,List.flatten_cons,List.length_append]
    omega
   have hval:pl[(gs.take k).flatten.length+mm]=gs[k][mm]:=by
    have e1:gs.flatten=pl:=by rw [hq.flat];simp
    have e2:gs.flatten=(gs.take k).flatten++(gs[k]++(gs.drop (k+1)).flatten):=by
     conv=>lhs;rw [←List.take_append_drop k gs,List.drop_eq_getElem_cons hk]
     simp only [List.flatten_append,List.flatten_cons]
    have e3:pl=(gs.take k).flatten++(gs[k]++(gs.drop (k+1)).flatten):=by rw [←e1];exact e2
    have h2:pl[(gs.take k).flatten.length+mm]? = some gs[k][mm]:=by
     conv=>lhs;rw [e3]
     rw [List.getElem?_append_right (by omega),Nat.add_sub_cancel_left,List.getElem?_append_left hm,List.getElem?_eq_getElem hm]
    rw [List.getElem?_eq_getElem hin] at h2
    exact Option.some.inj h2
   have h9:=zaa h.below (hc _ hin)
   rw [hval] at h9
   exact h9
theorem own_keepsG {w w':World} {base e sz:Nat} {v:Value} {n:Nat} {xs:List Value} (h:w.ownsRow base e sz v n xs) (hb:Below w.heap.size w w'):w'.ownsRow base e sz v n xs:=by
 refine⟨h.1,?_⟩
 rcases h.2 with h2|⟨g,cap,cur,rfl,h3,h4,h5⟩
 ·exact .inl h2
 ·have hlt:g<w.heap.size:=by
   rcases Nat.lt_or_ge g w.heap.size with h|h
   ·exact h
   ·rw [Array.getElem?_eq_none h] at h4;cases h4
  exact .inr ⟨g,cap,cur,rfl,h3,(hb.block g hlt).trans h4,h5⟩
theorem own_belowG {w wr w2:World} {e sz:Nat} {v:Value} {n:Nat} {xs:List Value} (hb:Below w.heap.size w wr) (hown:wr.ownsRow w.heap.size e sz v n xs) (hgrow:wr.grownBy w2 v.ownBlock):Below w.heap.size w w2:=
 hb.grown hgrow hb.size (by
  intro k hk
  rcases hown.2 with ⟨hv,_⟩|⟨g,cap',cur,hv,hbs,_⟩
  ·rw [hv] at hk;cases hk
  ·rw [hv] at hk
   have:g=k:=by simpa [Value.ownBlock] using hk
   omega)
set_option maxHeartbeats 16000000 in
theorem alike_any (l:List VT) (v:Value) (w:World) (hl:Lies 17 w l v) (hn:l.length≤65536):Calls Tryz.prog 19 #[v] w (AlkPost l w):=by
 obtain⟨al,cl,rfl,_⟩:=Lies.slice hl
 obtain⟨i0,hi,hz0,hz1,hz2⟩:=infoN
 obtain⟨i1,ji,jz0,jz1,jz2⟩:=infoG
 obtain⟨n,hnl⟩:∃n,n=l.length:=⟨_,rfl⟩
 obtain⟨M,hM⟩:∃M,M=madeCells (Value.int .i64 0).cells (((n:Nat):Int).toNat*i0.size):=⟨_,rfl⟩
 have hMs:M.size=n:=by rw [hM,size_madeCells,hz1];simp
 have hmk:∀W:World,(Instr.makeSlice 50 (.int .i64 (n:Int)) (.int .i64 (n:Int))).run Tryz.prog W=.ok (.slice (some ⟨W.heap.size,0,none⟩) n n) (W.alloc (.cells M 3)):=fun W=>by
  have h:=run_make (P:=Tryz.prog) W 50 3 i0 _ Tryz.underlying50 hi hz0 .i64 .i64 (n:Int) (n:Int) (by omega) (by omega) (by rw [hz2];omega) (by omega)
  rw [←hM] at h
  simpa using h
 obtain⟨W0,hW0⟩:∃W0,W0=w.alloc (.cells #[.slice al n cl] 22):=⟨_,rfl⟩
 have HW0:Hid (W0=w.alloc (.cells #[.slice al n cl] 22)):=hW0
 have hb0:Below w.heap.size w W0:=by rw [hW0];exact ((Grew.refl w).alloc _).below
 have hs0:W0.heap.size=w.heap.size+1:=by rw [hW0];simp
 have HB0:Hid (W0.cell? ⟨w.heap.size,0,none⟩=some (.slice al n cl)):=by show _=_;rw [hW0];simp
 have HL0:Hid (Lies 17 W0 l (.slice al n cl)):=by rw [hnl];exact Lies.keeps hb0 _ _ _ hl
 have HF0:Hid (FillI (w.heap.size+1) n 0 (W0.alloc (.cells M 3))):=by
  refine⟨fun k hk=>by omega,fun k hk=>?_,fun k hk=>?_,by rw [←hs0];simp⟩
  ·have hk':k<M.size:=by rw [hMs];exact hk
   rw [←hs0]
   exact⟨M[k],by simp [hk']⟩
  ·rw [←hs0];simp
 have HSo:Hid (∀wr,FillI (w.heap.size+1) n n wr→Below W0.heap.size W0 wr→Calls Tryz.prog 35 #[.slice (some ⟨w.heap.size+1,0,none⟩) n n,.func (.func 36) #[] #[.pointer (some ⟨w.heap.size,0,none⟩)]] wr (SrtPost l (w.heap.size+1) W0)):=fun wr hf hb=>by
  have h:=sortI_any l w.heap.size al cl (w.heap.size+1) n W0 wr hb (by omega) hf.lt (by rw [←hnl];exact HB0.out) (by rw [←hnl];exact HL0.out) hn (fun k hk=>⟨hf.done k (by omega),hf.soft k (by omega)⟩)
  rw [←hnl] at h
  exact h
 have Hn:Hid (n=l.length∧n≤65536):=⟨hnl,by omega⟩
 have Hi:Hid _:=hi;have Ji:Hid _:=ji;have Jz0:Hid _:=jz0;have Jz1:Hid _:=jz1;have Jz2:Hid _:=jz2
 have Hs0:Hid (W0.heap.size=w.heap.size+1):=hs0
 have Hb0:Hid (Below w.heap.size w W0):=hb0
 rw [←hnl]
 clear hi hz0 hz1 hz2 ji jz0 jz1 jz2 hl hn hnl hM hMs hW0 hs0 hb0
 obtain⟨g,hg⟩:∃g,g=w.heap.size+1:=⟨_,rfl⟩
 rw [←hg] at HF0 HSo
 have Hg:Hid (g=w.heap.size+1):=hg
 clear hg
 go_enter Tryz.func19,Tryz.ntmps19
 go_upto_block 0 with fail
 rw [←HW0.out,←Hg.out]
 clear HW0
 go_wp2_with fail
 go_loopg [12] n (fun z v12 wr=>∃j:Nat,v12=.int .i64 (j:Int)∧z=n-j∧j≤n∧Hid (FillI g n j wr∧Below W0.heap.size W0 wr))
 case atStart=>exact⟨0,rfl,by omega,by omega,HF0.out,(Below.refl _ _).alloc (Nat.le_refl _) _⟩
 case round=>
  obtain⟨j,rfl,hgk,hj,HI⟩:=hrel
  have Hgk:Hid (gk=n-j):=hgk
  clear hgk HF0 hmk
  have hn5:n≤65536:=Hn.out.2
  by_cases hlt:j<n
  ·have hji:(j:Int)<(n:Int):=by omega
   obtain⟨v0,hv0⟩:=HI.out.1.room j hlt
   have hf0:=HI.out.1.soft j hlt
   go_wp2_with fail
   go_roundg (n-(j+1))
   case measure=>have:=Hgk.out;omega
   case rel=>exact⟨j+1,by go_num,rfl,by omega,HI.out.1.put hlt,HI.out.2.setCell (p:=⟨g,j,none⟩) (by show _≤g;have:=Hg.out;have:=Hs0.out;omega) _⟩
  ·have ejn:j=n:=by omega
   subst ejn
   have hji : ¬(j:Int)<(j:Int):=by omega
   clear hlt hj Hgk
   go_wp2_with fail
   refine Calls.mono (HSo.out _ HI.out.1 HI.out.2) ?_
   rintro e Ws ⟨rfl,pl,hp,hs,hc,hbs,hltg⟩
   have HS:Hid (pl.Perm (List.range l.length)∧pl.Pairwise (fun i j=>cfI l i j<0)):=⟨hp,hs⟩
   have HC:Hid (∀(k:Nat) (hk:k<pl.length),Ws.cell? ⟨g,k,none⟩=some (.int .i64 ((pl[k]:Nat):Int))):=hc
   have HbW:Hid (Below W0.heap.size W0 Ws):=hbs
   have Hpl:Hid (pl.length=j):=by show _=_;rw [hp.length_eq,List.length_range,Hn.out.1]
   clear hp hs hc hbs HSo HI hji
   go_wp2_with fail
   go_loopg [3,5] j (fun z v3 v5 wr=>∃(m oo:Nat) (vo:Value),v3=.slice (some ⟨g,oo,none⟩) m m∧vo=v5∧z=m∧Hid (∃o gs,AlkI l pl g Ws m oo o gs vo wr))
   case atStart=>exact⟨j,0,_,rfl,rfl,rfl,0,[],by have:=Hpl.out;omega,fun _=>rfl,AlkQ.start l pl,World.ownsRow_nil _ _ _ _,Below.refl _ _⟩
   case round=>
    obtain⟨m,oo,vo,rfl,rfl,hgk2,HI⟩:=hrel
    have Hgk2:Hid (gk=m):=hgk2
    clear hgk2
    by_cases hm:0<m
    ·have hmi:(0:Int)<(m:Int):=by omega
     obtain⟨o,gs,hI⟩:=HI.out
     have HA:Hid (AlkI l pl g Ws m oo o gs vo wr):=hI
     have hoo:=hI.at_ hm
     subst hoo
     have hlo:oo<pl.length:=by have:=hI.len;omega
     clear hI HI
     generalize wr=WR at *
     generalize gk=GK at *
     go_wp2_with fail
     go_loopg [6] (m-1) (fun z v6 w2=>∃k:Nat,v6=.int .i64 (k:Int)∧z=m-k∧1≤k∧k≤m∧Hid ((∀i,i<k→∀(h1:oo+i<pl.length) (h0:oo<pl.length),cmpV 16 (l.getD pl[oo] nilT) (l.getD pl[oo+i] nilT)=0)∧Below WR.heap.size WR w2))
     case atStart=>exact⟨1,rfl,rfl,by omega,by omega,fun i hi h1 h0=>by
      have:i=0:=by omega
      subst this
      exact cmpV_self 16 _,Below.refl _ _⟩
     case round=>
      obtain⟨k,rfl,hgk3,hk1,hkm,HK⟩:=hrel
      have Hgk3:Hid (gk=m-k):=hgk3
      clear hgk3
      have hm6:m≤65536:=by have:=HA.out.len;have:=Hpl.out;have:=Hn.out;omega
      by_cases hlt:k<m
      ·have hki:(k:Int)<(m:Int):=by omega
       have hok:oo+k<pl.length:=by have:=HA.out.len;omega
       have hbw:Below Ws.heap.size Ws wr:=HA.out.below.trans (HK.out.2.mono HA.out.below.size)
       have hb0w:Below W0.heap.size W0 wr:=HbW.out.trans (hbw.mono HbW.out.size)
       have c0:=zaa hbw (HC.out oo hlo)
       have ck:=zaa hbw (HC.out (oo+k) hok)
       have cB:=zaa hb0w HB0.out
       have hP1:pl[oo]<l.length:=List.mem_range.1 (HS.out.1.subset (List.getElem_mem hlo))
       have hP2:pl[oo+k]<l.length:=List.mem_range.1 (HS.out.1.subset (List.getElem_mem hok))
       obtain⟨al',cl',he,_,hrow⟩:=HL0.out
       injection he with e1 e2 e3
       subst e1 e3
       clear e2
       obtain⟨b1,o1,rfl,hall⟩:=hrow (by intro e;rw [e] at hP1;simp at hP1)
       obtain⟨ux,p0,p1,p2,p3,p4,_⟩:=hall pl[oo] hP1
       obtain⟨uy,q0,q1,q2,q3,q4,_⟩:=hall pl[oo+k] hP2
       clear hall hrow
       obtain⟨ax,cx,rfl,_⟩:=Lies.slice p4
       obtain⟨ay,cy,rfl,_⟩:=Lies.slice q4
       have g1:l.getD pl[oo] nilT=l[pl[oo]]:=by rw [List.getD_eq_getElem?_getD,List.getElem?_eq_getElem hP1];rfl
       have g2:l.getD pl[oo+k] nilT=l[pl[oo+k]]:=by rw [List.getD_eq_getElem?_getD,List.getElem?_eq_getElem hP2];rfl
       have HEq:Hid (∀V,Below wr.heap.size wr V→Calls Tryz.prog 40 #[.agg #[.int .i64 l[pl[oo]].kind,.int .i64 l[pl[oo]].num,.string l[pl[oo]].text,.slice ax l[pl[oo]].items.length cx],.agg #[.int .i64 l[pl[oo+k]].kind,.int .i64 l[pl[oo+k]].num,.string l[pl[oo+k]].text,.slice ay l[pl[oo+k]].items.length cy]] V fun e w'=>e=.returned (.bool (cmpV 16 l[pl[oo]] l[pl[oo+k]]==0))∧Grew V w'):=fun V hV=>equal_any 16 _ _ _ _ V (Lies.keeps hV _ _ _ (Lies.keeps hb0w _ _ _ p4)) (Lies.keeps hV _ _ _ (Lies.keeps hb0w _ _ _ q4))
       have HB:Hid ((cmpV 16 l[pl[oo]] l[pl[oo+k]]==0)=true↔cmpV 16 (l.getD pl[oo] nilT) (l.getD pl[oo+k] nilT)=0):=by
        show _↔_
        rw [g1,g2];simp
       replace p0:=zaa hb0w p0;replace p1:=zaa hb0w p1;replace p2:=zaa hb0w p2;replace p3:=zaa hb0w p3
       replace q0:=zaa hb0w q0;replace q1:=zaa hb0w q1;replace q2:=zaa hb0w q2;replace q3:=zaa hb0w q3
       have hPi1:((pl[oo]:Nat):Int)<(j:Int):=by have:=Hn.out;omega
       have hPi2:((pl[oo+k]:Nat):Int)<(j:Int):=by have:=Hn.out;omega
       have hPn1:pl[oo]<j:=by have:=Hn.out;omega
       have hPn2:pl[oo+k]<j:=by have:=Hn.out;omega
       clear g1 g2 p4 q4
       generalize l[pl[oo]]=x at *
       generalize l[pl[oo+k]]=y at *
       clear hP1 hP2
       have HPE:Hid True:=trivial
       obtain⟨P1,hP1⟩:∃P1,P1=pl[oo]:=⟨_,rfl⟩
       obtain⟨P2,hP2⟩:∃P2,P2=pl[oo+k]:=⟨_,rfl⟩
       rw [←hP1] at c0 p0 p1 p2 p3 hPi1 hPn1
       rw [←hP2] at ck q0 q1 q2 q3 hPi2 hPn2
       clear hP1 hP2
       generalize hbq:(cmpV 16 x y==0)=bq at *
       clear hbq
       generalize x.items.length=xl at *
       generalize y.items.length=yl at *
       go_wp2_with fail
       go_region_held3 (fun w'=>w'.cell? ⟨w.heap.size,0,none⟩=some (.slice (some ⟨b1,o1,none⟩) j cl)∧w'.cell? ⟨g,oo,none⟩=some (.int .i64 (P1:Int))∧w'.cell? ⟨g,oo+k,none⟩=some (.int .i64 (P2:Int))∧w'.cell? ⟨b1,o1+P1*4,none⟩=some (.int .i64 x.kind)∧w'.cell? ⟨b1,o1+P1*4+1,none⟩=some (.int .i64 x.num)∧w'.cell? ⟨b1,o1+P1*4+2,none⟩=some (.string x.text)∧w'.cell? ⟨b1,o1+P1*4+3,none⟩=some (.slice ax xl cx)∧w'.cell? ⟨b1,o1+P2*4,none⟩=some (.int .i64 y.kind)∧w'.cell? ⟨b1,o1+P2*4+1,none⟩=some (.int .i64 y.num)∧w'.cell? ⟨b1,o1+P2*4+2,none⟩=some (.string y.text)∧w'.cell? ⟨b1,o1+P2*4+3,none⟩=some (.slice ay yl cy)) (go_keep)
        (first|(go_at_call 40;(with_reducible refine Calls.mono (HEq.out _ ?_) ?_);(first|exact Below.refl _ _|exact (Below.refl _ _).drew);rintro e w3 ⟨rfl,hg3⟩;have hg:Below wr.heap.size wr w3:=(by first|exact hg3.below|exact (Below.refl _ _).drew.trans hg3.below);have cB:=zaa hg cB;have c0:=zaa hg c0;have ck:=zaa hg ck;have p0:=zaa hg p0;have p1:=zaa hg p1;have p2:=zaa hg p2;have p3:=zaa hg p3;have q0:=zaa hg q0;have q1:=zaa hg q1;have q2:=zaa hg q2;have q3:=zaa hg q3))
       have HbX:Hid (Below WR.heap.size WR w3):=HK.out.2.trans (hg.mono HK.out.2.size)
       clear hg hg3 c0 ck cB p0 p1 p2 p3 q0 q1 q2 q3 hbw hb0w hPi1 hPi2 hPn1 hPn2
       cases bq
       ·have HE2:Hid ((∀i,i<k→∀(h1:oo+i<pl.length) (h0:oo<pl.length),cmpV 16 (l.getD pl[oo] nilT) (l.getD pl[oo+i] nilT)=0)∧(∀(h1:oo+k<pl.length) (h0:oo<pl.length),cmpV 16 (l.getD pl[oo] nilT) (l.getD pl[oo+k] nilT)≠0)):=⟨HK.out.1,fun h1 h0 h=>absurd (HB.out.2 h) (by simp)⟩
        clear HK HB HEq
        have hkk:(k:Int)≤(m:Int):=by omega
        have HbWX:Hid (Below Ws.heap.size Ws w3):=HA.out.below.trans (HbX.out.mono HA.out.below.size)
        have HOw:Hid (w3.ownsRow Ws.heap.size 50 1 vo gs.length (encG g 0 gs)):=own_keepsG HA.out.own HbX.out
        have HsX:Hid (Ws.heap.size≤w3.heap.size):=HbWX.out.size
        have HG:Hid (gs.length≤j):=by have h1:=HA.out.gl;have h2:=HA.out.len;have h3:=Hpl.out;show _≤_;omega
        go_wp2_with (first
         | (at_builtin;refine wpList_append_own _ rfl _ _ 48 rfl Ws.heap.size 50 i1 (.slice none 0 0) 1 0x18 Tryz.underlying48 Ji.out Jz0.out Jz1.out Jz2.out rfl (by decide) vo gs.length (encG g 0 gs) rfl (HOw.out.alloc _) ⟨w3.heap.size,0,none⟩ 1 1 [.slice (some ⟨g,oo,none⟩) k k] rfl rfl (fun q u hq=>by match q,hq with|0,hq=>(simp at hq;subst hq;simp [Addr.add])|q+1,hq=>simp at hq) (fun u hu=>by simp at hu;subst hu;rfl) (by have:=Hn.out;have:=HG.out;unfold maxLen;omega) (by have:=Hn.out;have:=HG.out;omega) (by have:=HsX.out;simp;omega) ?_;intro v9 w9 hown9 hg9 _))
        have HI9:Hid (∀oo',(k<m→oo'=oo+k)→AlkI l pl g Ws (m-k) oo' (oo+k) (gs++[(pl.drop oo).take k]) v9 w9):=fun oo' hoo=>HA.out.step HS.out.2 (by omega) (by omega) HE2.out.1 HE2.out.2 hown9 (own_belowG (HbWX.out.alloc HbWX.out.size _) (HOw.out.alloc _) hg9) oo' hoo
        clear hown9 hg9
        go_wp2_with fail
        go_roundg (m-k)
        case measure=>have:=Hgk2.out;omega
        case rel=>exact⟨m-k,oo+k,v9,by go_num,rfl,rfl,oo+k,_,HI9.out (oo+k) (fun _=>rfl)⟩
       ·have HK2:Hid (∀i,i<k+1→∀(h1:oo+i<pl.length) (h0:oo<pl.length),cmpV 16 (l.getD pl[oo] nilT) (l.getD pl[oo+i] nilT)=0):=fun i hi h1 h0=>by
         by_cases e:i=k
         ·subst e;exact HB.out.1 rfl
         ·exact HK.out.1 i (by omega) h1 h0
        clear HK HB HEq
        go_wp2_with fail
        go_roundg (m-(k+1))
        case measure=>have:=Hgk3.out;omega
        case rel=>exact⟨k+1,by go_num,rfl,by omega,by omega,HK2.out,HbX.out⟩
      ·have ekm:k=m:=by omega
       subst ekm
       have hd:decide ((k:Int)<(k:Int))=false:=by simp
       have HE2:Hid ((∀i,i<k→∀(h1:oo+i<pl.length) (h0:oo<pl.length),cmpV 16 (l.getD pl[oo] nilT) (l.getD pl[oo+i] nilT)=0)∧(∀(h1:oo+k<pl.length) (h0:oo<pl.length),cmpV 16 (l.getD pl[oo] nilT) (l.getD pl[oo+k] nilT)≠0)):=⟨HK.out.1,fun h1 h0=>by have:=HA.out.len;omega⟩
       have HbX:Hid (∀q,Below WR.heap.size WR (wr.drewN q)):=fun q=>⟨HK.out.2.os,HK.out.2.tape,HK.out.2.output,HK.out.2.size,HK.out.2.block⟩
       clear HK hlt
       go_wp2_with fail
       go_quiet (fail)
       have HbX:Hid (Below WR.heap.size WR (wr.drewN nq)):=HbX.out nq
       generalize wr.drewN nq=w3 at *
       have HbWX:Hid (Below Ws.heap.size Ws (w3)):=HA.out.below.trans (HbX.out.mono HA.out.below.size)
       have HOw:Hid ((w3).ownsRow Ws.heap.size 50 1 vo gs.length (encG g 0 gs)):=own_keepsG HA.out.own HbX.out
       have HsX:Hid (Ws.heap.size≤(w3).heap.size):=HbWX.out.size
       have HG:Hid (gs.length≤j):=by have h1:=HA.out.gl;have h2:=HA.out.len;have h3:=Hpl.out;show _≤_;omega
       go_wp2_with (first
        | (at_builtin;refine wpList_append_own _ rfl _ _ 48 rfl Ws.heap.size 50 i1 (.slice none 0 0) 1 0x18 Tryz.underlying48 Ji.out Jz0.out Jz1.out Jz2.out rfl (by decide) vo gs.length (encG g 0 gs) rfl (HOw.out.alloc _) ⟨(w3).heap.size,0,none⟩ 1 1 [.slice (some ⟨g,oo,none⟩) k k] rfl rfl (fun q u hq=>by match q,hq with|0,hq=>(simp at hq;subst hq;simp [Addr.add])|q+1,hq=>simp at hq) (fun u hu=>by simp at hu;subst hu;rfl) (by have:=Hn.out;have:=HG.out;unfold maxLen;omega) (by have:=Hn.out;have:=HG.out;omega) (by have:=HsX.out;simp;omega) ?_;intro v9 w9 hown9 hg9 _))
       have HI9:Hid (∀oo',(k<k→oo'=oo+k)→AlkI l pl g Ws (k-k) oo' (oo+k) (gs++[(pl.drop oo).take k]) v9 w9):=fun oo' hoo=>HA.out.step HS.out.2 (by omega) (by omega) HE2.out.1 HE2.out.2 hown9 (own_belowG (HbWX.out.alloc HbWX.out.size _) (HOw.out.alloc _) hg9) oo' hoo
       clear hown9 hg9
       go_wp2_with fail
       go_roundg 0
       case measure=>have:=Hgk2.out;omega
       case rel=>exact⟨0,oo,v9,rfl,rfl,rfl,oo+k,_,by have h:=HI9.out oo (fun h=>by omega);rwa [Nat.sub_self] at h⟩
    ·have em:m=0:=by omega
     subst em
     obtain⟨o,gs,hI⟩:=HI.out
     have HZ:Hid (AlkPost l w (.returned vo) wr):=hI.fin HS.out.1 HS.out.2 (Hb0.out.trans (HbW.out.mono Hb0.out.size)) (by have:=Hpl.out;have:=Hn.out;omega) HC.out
     clear hI HI
     go_wp2_with fail
     go_ret
     exact HZ.out
end Go.Proofs.YtcflooaoocngdaaGreat
