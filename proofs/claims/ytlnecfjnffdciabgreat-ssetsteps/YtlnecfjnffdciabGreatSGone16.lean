import Derived.Test.YtlnecfjnffdciabGreatSpeaks16
namespace Go.Proofs.YtlnecfjnffdciabGreat
open Go.RowKit Go.Shelf

attribute [local go_sem] Oper.semAt_some

theorem eql_nilF16 (f:Fn) (lb:Array Value) (W:World):Sem.run Tryz.prog (binOp BinOp.eql 137 (.func f #[] lb) .nilFunc) W=.ok (.bool false) W:=by
 first | kernel_rfl | rfl

set_option maxRecDepth 100000 in
set_option maxHeartbeats 32000000 in
theorem sgone_16 (l:List VT) (hlen:l.length≤65536) (M:Nat) (hM:1≤M) (hM2:M≤65537) (s b:Nat) (w:World) (hs:w.cell? ⟨s,0,none⟩=some (.pointer (some ⟨b,0,none⟩)))
 (hseq:∀(n Bm:Nat) (W:World),6≤n→Below w.heap.size w W→W.cell? ⟨Bm,0,none⟩=some (.pointer (some ⟨b,0,none⟩))→SeqX Fence.wide n Tryz.prog 218 #[.pointer (some ⟨Bm,0,none⟩)] encCV (KpY 22 w.heap.size) (PreCV l) (fun xs=>xs.map CV.k=l) (fun _=>True) l.length W) :
 Calls Tryz.prog 67 #[.pointer (some ⟨s,0,none⟩),.int .i64 (M:Int)] w (ItPost w.heap.size (l.take M) w):=by
 refine (callsIn_wide (n:=8)).1 ?_
 refine callsIn_of_wp_marks Tryz.func67 rfl trivial ?_ rfl
 simp only [Tryz.ntmps67,List.size_toArray,List.length_cons,List.length_nil,Nat.reduceAdd,Nat.reduceSub,Array.replicate_succ,Array.replicate_zero,List.push_toArray,List.append_toArray,List.nil_append,List.cons_append]
 have hM1 : ¬((M:Nat):Int) < 1:=by omega
 have tf:=eql_nilF16
 have HSq:Hid _:=hseq
 have HL:Hid (l.length≤65536):=hlen
 have Hs:Hid (w.cell? ⟨s,0,none⟩=some (.pointer (some ⟨b,0,none⟩))):=hs
 clear hseq hlen
 gi_wp2
 refine⟨trivial,?_⟩
 refine (callsIn_wide.2 (sall_16 s b _ (cell_keeps (((Grew.refl w).alloc _).alloc _).below Hs.out))).mono ?_
 rintro e w1 ⟨rfl,rfl⟩
 simp only [World.size_alloc]
 gi_wp2
 obtain⟨Wi,hWi⟩:∃Wi,Wi=(((w.alloc (.cells #[.int .i64 (M:Int)] 3)).alloc (.cells #[.slice none 0 0] 22)).alloc (.cells #[.pointer (some ⟨b,0,none⟩)] 112)):=⟨_,rfl⟩
 rw [←hWi]
 have hB0:Below w.heap.size w Wi:=by rw [hWi];exact (((Grew.refl w).alloc _).alloc _).alloc _ |>.below
 have hsz:Wi.heap.size=w.heap.size+3:=by rw [hWi];simp
 have cM:Wi.cell? ⟨w.heap.size+1+1,0,none⟩=some (.pointer (some ⟨b,0,none⟩)):=by
  rw [hWi]
  have h9:=(Go.Boxed.new ((w.alloc (.cells #[.int .i64 (M:Int)] 3)).alloc (.cells #[.slice none 0 0] 22)) 112 (.pointer (some ⟨b,0,none⟩))).cell
  simpa only [World.size_alloc] using h9
 have hG0:GvI w (w.heap.size+1) [] Wi:=by
  refine⟨⟨.slice none 0 0,?_,World.ownsRow_nil _ _ _ _,fun x hx=>by cases hx⟩,hB0⟩
  rw [hWi]
  have h9:=(Go.Boxed.new (w.alloc (.cells #[.int .i64 (M:Int)] 3)) 22 (.slice none 0 0)).alloc (.cells #[.pointer (some ⟨b,0,none⟩)] 112)
  simpa only [World.size_alloc] using h9
 have hM0:Go.Boxed Wi w.heap.size 3 (.int .i64 (M:Int)):=by
  rw [hWi]
  exact ((Go.Boxed.new w 3 (.int .i64 (M:Int))).alloc _).alloc _
 have HM:Hid (1≤M∧M≤65537):=⟨hM,hM2⟩
 have HSq2:Hid _:=HSq.out 7 (w.heap.size+1+1) Wi (by omega) hB0 cM
 clear hWi tf hM hM2 hs cM HSq
 refine rangeX (α:=CV) rfl (by omega) (gf:=218) (lb:=#[.pointer (some ⟨w.heap.size+1+1,0,none⟩)]) rfl trivial (enters_of Tryz.func218 (by kernel_rfl) rfl)
  HSq2.out kpY_t (fun W o o' hl ho=>kpY_b (by omega) (by omega) W o o' hl ho) (Below.refl _ _) (fun _=>rfl)
  (fun pre W=>GvI w (w.heap.size+1) pre W∧Go.Boxed W w.heap.size 3 (.int .i64 (M:Int))∧pre.length < M∧pre.map CV.k <+: l) (fun c pre W=>c=.exit 0∧GvI w (w.heap.size+1) pre W∧pre.length=M∧pre.map CV.k <+: l)
  (fun s A V row hs hg hr=>⟨GvI.own w _ _ (by omega) (by omega) s A V row hs.1 hg hr,hs.2.1.kept hg (fun e=>by have:=(hr _ e.symm).1;omega),hs.2.2⟩) (fun c s A V row hs hg hr=>⟨hs.1,GvI.own w _ _ (by omega) (by omega) s A V row hs.2.1 hg hr,hs.2.2⟩) ⟨hG0,hM0,by have:=HM.out.1;simp;omega,by simp⟩
  (GvA (w.heap.size+1) l (fun x Bk=>{ tmps:=#[.pointer (some ⟨s,0,none⟩),.int .i64 (M:Int),undef,.pointer (some ⟨w.heap.size,0,none⟩),.slice none 0 0,.pointer (some ⟨w.heap.size+1,0,none⟩),.func (.func 218) #[] #[.pointer (some ⟨w.heap.size+1+1,0,none⟩)],.pointer (some ⟨Bk,0,none⟩),.pointer (some ⟨s,0,none⟩),.func (.func 218) #[] #[.pointer (some ⟨w.heap.size+1+1,0,none⟩)],.func (.func 218) #[] #[.pointer (some ⟨w.heap.size+1+1,0,none⟩)],.bool false,.bool false,.int .i64 (M:Int),.bool (decide ((M:Int) < 1)),.bool (decide ((M:Int) < 1)),.func (.func 218) #[] #[.pointer (some ⟨w.heap.size+1+1,0,none⟩)],.agg #[.int .i64 x.k.kind,.int .i64 x.k.num,.string x.k.text,.slice x.a1 x.k.items.length x.c1],undef,undef,undef,undef,undef,undef,undef,undef,undef,undef,undef],defers:=[] })) (fun pre x a'=>GvA.own _ _ _ (by omega) _ _ _ _) ?assign ?body ?done ?stop
 case assign=>
  rintro lp pre x V W K hI hbVW ⟨hN,hpx⟩ hK
  have hba:Below W.heap.size W (W.alloc (.cells #[.int .i64 x.k.kind,.int .i64 x.k.num,.string x.k.text,.slice x.a1 x.k.items.length x.c1] 33)):=((Grew.refl W).alloc _).below
  have hws:w.heap.size≤W.heap.size:=Nat.le_trans hI.1.2.size hbVW.size
  obtain⟨hA,hI3⟩:=GvA.make (l:=l) (f:=(fun x Bk=>{ tmps:=#[.pointer (some ⟨s,0,none⟩),.int .i64 (M:Int),undef,.pointer (some ⟨w.heap.size,0,none⟩),.slice none 0 0,.pointer (some ⟨w.heap.size+1,0,none⟩),.func (.func 218) #[] #[.pointer (some ⟨w.heap.size+1+1,0,none⟩)],.pointer (some ⟨Bk,0,none⟩),.pointer (some ⟨s,0,none⟩),.func (.func 218) #[] #[.pointer (some ⟨w.heap.size+1+1,0,none⟩)],.func (.func 218) #[] #[.pointer (some ⟨w.heap.size+1+1,0,none⟩)],.bool false,.bool false,.int .i64 (M:Int),.bool (decide ((M:Int) < 1)),.bool (decide ((M:Int) < 1)),.func (.func 218) #[] #[.pointer (some ⟨w.heap.size+1+1,0,none⟩)],.agg #[.int .i64 x.k.kind,.int .i64 x.k.num,.string x.k.text,.slice x.a1 x.k.items.length x.c1],undef,undef,undef,undef,undef,undef,undef,undef,undef,undef,undef],defers:=[] })) hI.1 hbVW hN hpx
  have hm9:=(hbVW.block _ hI.2.1.lt).trans hI.2.1
  have HK:Hid (K _ _):=hK _ _ ((KeepsOthers.alloc W _).from _) ⟨hba.mono hws,KBy.below hba,keepsBelowY hba⟩ ⟨hI3,(show Go.Boxed W w.heap.size 3 (.int .i64 (M:Int)) from hm9).alloc _,hI.2.2⟩ hA
  clear hK hA
  unfold encCV
  gi_wp2
  exact HK.out
 case body=>
  rintro lp pre x a' W hlp ⟨⟨⟨v',bx0,hrow,hl⟩,hB⟩,b1,hlM,hpl⟩ ⟨Bk,v,bk,hBk,bx',hnk,hLk,hpx,rfl⟩ hlt
  have hvv:v'=v:=by
   have h1:W.heap[w.heap.size+1]? = some (.cells #[v] 22 (0,0)):=bx'
   have h2:W.heap[w.heap.size+1]? = some (.cells #[v'] 22 (0,0)):=bx0
   rw [h1] at h2
   injection h2 with h2
   injection h2 with h2
   simpa using h2.symm
  subst hvv
  obtain⟨av,cv,hv⟩:∃a c,v'=.slice a pre.length c:=by
   rcases hrow.2 with ⟨rfl,e⟩ | ⟨g,cap,_,rfl,_⟩
   ·exact⟨none,0,by rw [e]⟩
   ·exact⟨_,_,rfl⟩
  subst hv
  obtain⟨k,hk⟩:∃k,k=pre.length:=⟨_,rfl⟩
  have hpx2:(pre ++ [x]).map CV.k <+: l:=by rw [List.map_append];exact hpx
  have hkl:k+1≤l.length:=by have:=hpx2.length_le;rw [List.length_map,List.length_append,←hk] at this;exact this
  have hkq:k≤65537:=by have:=HL.out;omega
  have HStep:Hid (∀(g cap:Nat) (w3:World),w3.ownsRow w.heap.size 33 4 (.slice (some ⟨g,0,none⟩) (k+1) cap) (k+1) (pre.flatMap (fun x=>encP x.p) ++ [.int .i64 0,.int .i64 0,.string ⟨#[]⟩,.slice none 0 0])→(W.alloc Z4V).drew.grownBy w3 (Value.slice av k cv).ownBlock→((Value.slice av k cv).ownBlock=some g∨g=(W.alloc Z4V).drew.heap.size)→_):=fun g cap w3 h1 h2 h3=>gv_step (B:=w.heap.size+1) (n1:=Wi.heap.size+2) hk (by omega) (by rw [hk];exact⟨bx',hrow,hl⟩) hB (by rw [hk];exact hLk) g cap w3 h1 h2 h3
  rw [←hk] at bx' hrow hnk hlt hlM
  obtain⟨y0,y1,y2,y3⟩:=bk.cells
  have hc:=bx'.cell
  have hBl:=bx'.lt
  have hBkl:=bk.lt
  have c4:=b1.cell
  have HB1:Hid (Go.Boxed W w.heap.size 3 (.int .i64 (M:Int))):=b1
  have hcD:W.drew.cell? ⟨w.heap.size+1,0,none⟩=some (.slice av k cv):=hc
  have d0:W.drew.cell? ⟨Bk,0,none⟩=some (.int .i64 x.k.kind):=y0
  have d1:W.drew.cell? ⟨Bk,1,none⟩=some (.int .i64 x.k.num):=y1
  have d2:W.drew.cell? ⟨Bk,2,none⟩=some (.string x.k.text):=y2
  have d3:W.drew.cell? ⟨Bk,3,none⟩=some (.slice x.a1 x.k.items.length x.c1):=y3
  have hn1 : ¬(Bk=W.heap.size):=by omega
  have hn2 : ¬(w.heap.size+1=W.heap.size):=by omega
  have HRow:Hid ((W.alloc Z4V).drew.ownsRow w.heap.size 33 4 (.slice av k cv) k (pre.flatMap (fun x=>encP x.p))):=(hrow.alloc _).drew
  have Hbs:Hid (w.heap.size≤(W.alloc Z4V).drew.heap.size):=by
   have:=hB.size
   show _≤_
   simp
   omega
  have Hxl:Hid ((pre.flatMap (fun x=>encP x.p)).length=k*4):=hrow.1
  have HP:Hid ((pre ++ [x]).map CV.k <+: l):=hpx2
  have Hk:Hid (k=pre.length):=hk
  have hmx:Tryz.prog.follows .mixedOrders=true:=by kernel_rfl
  have hkk:((k:Nat):Int) < (k:Nat)+1:=by omega
  clear hrow bx' bx0 bk hB hlp hlt hk hl hLk hnk hpx hpx2 hkl b1 hpl
  by_cases hge:k+1=M
  ·have hgeI:((M:Nat):Int)≤(k:Int)+1:=by omega
   have hgeN:M≤k+1:=by omega
   have Hge:Hid (k+1=M):=hge
   clear hge hlM
   gi_wp2
   refine wpIn_region_any hmx ?_
   change wpAnyIn _ _ _ _ _ _ _ _ _ (World.drew _)
   refine wpAnyIn_ready (rs:=[0,1,3]) (by kernel_rfl) (by simp) ?_
   refine AllReadyIn.cons rfl (fun K hK=>?_) ?_
   ·go_simp
    refine hK _ _ ?_
    clear hK K
    refine wpAnyIn_ready (rs:=[1,2,3]) (by kernel_rfl) (by simp) ?_
    refine AllReadyIn.cons rfl (fun K hK=>?_) ?_
    ·go_simp
     refine hK _ _ ?_
     clear hK K
     refine wpAnyIn_ready (rs:=[2,3]) (by kernel_rfl) (by simp) ?_
     refine AllReadyIn.cons rfl (fun K hK=>?_) ?_
     ·go_simp
      refine hK _ _ ?_
      clear hK K
      refine wpAnyIn_ready (rs:=[3]) (by kernel_rfl) (by simp) ?_
      refine AllReadyIn.cons rfl (fun K hK=>?_) ?_
      ·go_simp
       refine hK _ _ ?_
       clear hK K
       refine wpAnyIn_ready (rs:=[4]) (by kernel_rfl) (by simp) ?_
       refine AllReadyIn.cons rfl (fun K hK=>?_) ?_
       ·refine appV_step rfl _ _ rfl w.heap.size (.slice av k cv) k (pre.flatMap (fun x=>encP x.p)) rfl HRow.out _ rfl (by simp) (by simp) (by simp) (by simp) hkq Hbs.out ?_
        intro g3 cap3 w3 hown3 hgrow3 hg3 hgl3
        obtain⟨hbx3,hboxes,hgB,hstep⟩:=HStep.out g3 cap3 w3 hown3 hgrow3 hg3
        have hm3:=(hboxes _ _ _ HB1.out).1.cell
        have hgn2 : ¬(w.heap.size=g3):=fun e=>(hboxes _ _ _ HB1.out).2 e.symm
        have hc3:=hbx3.cell
        have hf3:=hbx3.frozen
        have hgB2 : ¬(w.heap.size+1=g3):=fun e=>hgB e.symm
        have q0:=hown3.cellAt (k*4) (by omega)
        have q1:=hown3.cellAt (k*4+1) (by omega)
        have q2:=hown3.cellAt (k*4+2) (by omega)
        have q3:=hown3.cellAt (k*4+3) (by omega)
        rw [List.getElem?_append_right (by rw [Hxl.out];omega),Hxl.out] at q0 q1 q2 q3
        simp only [Nat.sub_self,Nat.add_sub_cancel_left,List.getElem?_cons_zero,List.getElem?_cons_succ] at q0 q1 q2 q3
        have z0:=hown3.frozenAt (k*4)
        have z1:=hown3.frozenAt (k*4+1)
        have z2:=hown3.frozenAt (k*4+2)
        have z3:=hown3.frozenAt (k*4+3)
        have Hst:Hid _:=hstep
        clear hown3 hgrow3 hg3 hstep hboxes
        refine hK _ _ ?_
        clear hK K
        refine wpAnyIn_ready (rs:=[5,7]) (by kernel_rfl) (by simp) ?_
        refine AllReadyIn.cons rfl (fun K hK=>?_) ?_
        ·go_simp
         refine hK _ _ ?_
         clear hK K
         refine wpAnyIn_ready (rs:=[6,7]) (by kernel_rfl) (by simp) ?_
         refine AllReadyIn.cons rfl (fun K hK=>?_) ?_
         ·go_simp
          refine hK _ _ ?_
          clear hK K
          refine wpAnyIn_ready (rs:=[7]) (by kernel_rfl) (by simp) ?_
          refine AllReadyIn.cons rfl (fun K hK=>?_) ?_
          ·go_simp
           refine hK _ _ ?_
           clear hK K
           refine wpAnyIn_done (by kernel_rfl) ?_ _
           gi_wp2
           obtain⟨k1,k2,k3,k4⟩:=Hst.out _ (Or.inl rfl)
           exact⟨k1.from _,k2,rfl,⟨⟨_,k3⟩,k4⟩,by rw [List.length_append,←Hk.out,←Hge.out];rfl,HP.out⟩
          exact AllReadyIn.nil
         refine AllReadyIn.cons rfl (fun K hK=>?_) ?_
         ·go_simp
          refine hK _ _ ?_
          clear hK K
          refine wpAnyIn_ready (rs:=[6]) (by kernel_rfl) (by simp) ?_
          refine AllReadyIn.cons rfl (fun K hK=>?_) ?_
          ·go_simp
           refine hK _ _ ?_
           clear hK K
           refine wpAnyIn_done (by kernel_rfl) ?_ _
           gi_wp2
           obtain⟨k1,k2,k3,k4⟩:=Hst.out _ (Or.inr rfl)
           exact⟨k1.from _,k2,rfl,⟨⟨_,k3⟩,k4⟩,by rw [List.length_append,←Hk.out,←Hge.out];rfl,HP.out⟩
          exact AllReadyIn.nil
         exact AllReadyIn.nil
        refine AllReadyIn.cons rfl (fun K hK=>?_) ?_
        ·go_simp
         refine hK _ _ ?_
         clear hK K
         refine wpAnyIn_ready (rs:=[5]) (by kernel_rfl) (by simp) ?_
         refine AllReadyIn.cons rfl (fun K hK=>?_) ?_
         ·go_simp
          refine hK _ _ ?_
          clear hK K
          refine wpAnyIn_ready (rs:=[6]) (by kernel_rfl) (by simp) ?_
          refine AllReadyIn.cons rfl (fun K hK=>?_) ?_
          ·go_simp
           refine hK _ _ ?_
           clear hK K
           refine wpAnyIn_done (by kernel_rfl) ?_ _
           gi_wp2
           obtain⟨k1,k2,k3,k4⟩:=Hst.out _ (Or.inr rfl)
           exact⟨k1.from _,k2,rfl,⟨⟨_,k3⟩,k4⟩,by rw [List.length_append,←Hk.out,←Hge.out];rfl,HP.out⟩
          exact AllReadyIn.nil
         exact AllReadyIn.nil
        exact AllReadyIn.nil
       exact AllReadyIn.nil
      exact AllReadyIn.nil
     refine AllReadyIn.cons rfl (fun K hK=>?_) ?_
     ·go_simp
      refine hK _ _ ?_
      clear hK K
      refine wpAnyIn_ready (rs:=[2]) (by kernel_rfl) (by simp) ?_
      refine AllReadyIn.cons rfl (fun K hK=>?_) ?_
      ·go_simp
       refine hK _ _ ?_
       clear hK K
       refine wpAnyIn_ready (rs:=[4]) (by kernel_rfl) (by simp) ?_
       refine AllReadyIn.cons rfl (fun K hK=>?_) ?_
       ·refine appV_step rfl _ _ rfl w.heap.size (.slice av k cv) k (pre.flatMap (fun x=>encP x.p)) rfl HRow.out _ rfl (by simp) (by simp) (by simp) (by simp) hkq Hbs.out ?_
        intro g3 cap3 w3 hown3 hgrow3 hg3 hgl3
        obtain⟨hbx3,hboxes,hgB,hstep⟩:=HStep.out g3 cap3 w3 hown3 hgrow3 hg3
        have hm3:=(hboxes _ _ _ HB1.out).1.cell
        have hgn2 : ¬(w.heap.size=g3):=fun e=>(hboxes _ _ _ HB1.out).2 e.symm
        have hc3:=hbx3.cell
        have hf3:=hbx3.frozen
        have hgB2 : ¬(w.heap.size+1=g3):=fun e=>hgB e.symm
        have q0:=hown3.cellAt (k*4) (by omega)
        have q1:=hown3.cellAt (k*4+1) (by omega)
        have q2:=hown3.cellAt (k*4+2) (by omega)
        have q3:=hown3.cellAt (k*4+3) (by omega)
        rw [List.getElem?_append_right (by rw [Hxl.out];omega),Hxl.out] at q0 q1 q2 q3
        simp only [Nat.sub_self,Nat.add_sub_cancel_left,List.getElem?_cons_zero,List.getElem?_cons_succ] at q0 q1 q2 q3
        have z0:=hown3.frozenAt (k*4)
        have z1:=hown3.frozenAt (k*4+1)
        have z2:=hown3.frozenAt (k*4+2)
        have z3:=hown3.frozenAt (k*4+3)
        have Hst:Hid _:=hstep
        clear hown3 hgrow3 hg3 hstep hboxes
        refine hK _ _ ?_
        clear hK K
        refine wpAnyIn_ready (rs:=[5,7]) (by kernel_rfl) (by simp) ?_
        refine AllReadyIn.cons rfl (fun K hK=>?_) ?_
        ·go_simp
         refine hK _ _ ?_
         clear hK K
         refine wpAnyIn_ready (rs:=[6,7]) (by kernel_rfl) (by simp) ?_
         refine AllReadyIn.cons rfl (fun K hK=>?_) ?_
         ·go_simp
          refine hK _ _ ?_
          clear hK K
          refine wpAnyIn_ready (rs:=[7]) (by kernel_rfl) (by simp) ?_
          refine AllReadyIn.cons rfl (fun K hK=>?_) ?_
          ·go_simp
           refine hK _ _ ?_
           clear hK K
           refine wpAnyIn_done (by kernel_rfl) ?_ _
           gi_wp2
           obtain⟨k1,k2,k3,k4⟩:=Hst.out _ (Or.inl rfl)
           exact⟨k1.from _,k2,rfl,⟨⟨_,k3⟩,k4⟩,by rw [List.length_append,←Hk.out,←Hge.out];rfl,HP.out⟩
          exact AllReadyIn.nil
         refine AllReadyIn.cons rfl (fun K hK=>?_) ?_
         ·go_simp
          refine hK _ _ ?_
          clear hK K
          refine wpAnyIn_ready (rs:=[6]) (by kernel_rfl) (by simp) ?_
          refine AllReadyIn.cons rfl (fun K hK=>?_) ?_
          ·go_simp
           refine hK _ _ ?_
           clear hK K
           refine wpAnyIn_done (by kernel_rfl) ?_ _
           gi_wp2
           obtain⟨k1,k2,k3,k4⟩:=Hst.out _ (Or.inr rfl)
           exact⟨k1.from _,k2,rfl,⟨⟨_,k3⟩,k4⟩,by rw [List.length_append,←Hk.out,←Hge.out];rfl,HP.out⟩
          exact AllReadyIn.nil
         exact AllReadyIn.nil
        refine AllReadyIn.cons rfl (fun K hK=>?_) ?_
        ·go_simp
         refine hK _ _ ?_
         clear hK K
         refine wpAnyIn_ready (rs:=[5]) (by kernel_rfl) (by simp) ?_
         refine AllReadyIn.cons rfl (fun K hK=>?_) ?_
         ·go_simp
          refine hK _ _ ?_
          clear hK K
          refine wpAnyIn_ready (rs:=[6]) (by kernel_rfl) (by simp) ?_
          refine AllReadyIn.cons rfl (fun K hK=>?_) ?_
          ·go_simp
           refine hK _ _ ?_
           clear hK K
           refine wpAnyIn_done (by kernel_rfl) ?_ _
           gi_wp2
           obtain⟨k1,k2,k3,k4⟩:=Hst.out _ (Or.inr rfl)
           exact⟨k1.from _,k2,rfl,⟨⟨_,k3⟩,k4⟩,by rw [List.length_append,←Hk.out,←Hge.out];rfl,HP.out⟩
          exact AllReadyIn.nil
         exact AllReadyIn.nil
        exact AllReadyIn.nil
       exact AllReadyIn.nil
      exact AllReadyIn.nil
     exact AllReadyIn.nil
    refine AllReadyIn.cons rfl (fun K hK=>?_) ?_
    ·go_simp
     refine hK _ _ ?_
     clear hK K
     refine wpAnyIn_ready (rs:=[1,3]) (by kernel_rfl) (by simp) ?_
     refine AllReadyIn.cons rfl (fun K hK=>?_) ?_
     ·go_simp
      refine hK _ _ ?_
      clear hK K
      refine wpAnyIn_ready (rs:=[3]) (by kernel_rfl) (by simp) ?_
      refine AllReadyIn.cons rfl (fun K hK=>?_) ?_
      ·go_simp
       refine hK _ _ ?_
       clear hK K
       refine wpAnyIn_ready (rs:=[4]) (by kernel_rfl) (by simp) ?_
       refine AllReadyIn.cons rfl (fun K hK=>?_) ?_
       ·refine appV_step rfl _ _ rfl w.heap.size (.slice av k cv) k (pre.flatMap (fun x=>encP x.p)) rfl HRow.out _ rfl (by simp) (by simp) (by simp) (by simp) hkq Hbs.out ?_
        intro g3 cap3 w3 hown3 hgrow3 hg3 hgl3
        obtain⟨hbx3,hboxes,hgB,hstep⟩:=HStep.out g3 cap3 w3 hown3 hgrow3 hg3
        have hm3:=(hboxes _ _ _ HB1.out).1.cell
        have hgn2 : ¬(w.heap.size=g3):=fun e=>(hboxes _ _ _ HB1.out).2 e.symm
        have hc3:=hbx3.cell
        have hf3:=hbx3.frozen
        have hgB2 : ¬(w.heap.size+1=g3):=fun e=>hgB e.symm
        have q0:=hown3.cellAt (k*4) (by omega)
        have q1:=hown3.cellAt (k*4+1) (by omega)
        have q2:=hown3.cellAt (k*4+2) (by omega)
        have q3:=hown3.cellAt (k*4+3) (by omega)
        rw [List.getElem?_append_right (by rw [Hxl.out];omega),Hxl.out] at q0 q1 q2 q3
        simp only [Nat.sub_self,Nat.add_sub_cancel_left,List.getElem?_cons_zero,List.getElem?_cons_succ] at q0 q1 q2 q3
        have z0:=hown3.frozenAt (k*4)
        have z1:=hown3.frozenAt (k*4+1)
        have z2:=hown3.frozenAt (k*4+2)
        have z3:=hown3.frozenAt (k*4+3)
        have Hst:Hid _:=hstep
        clear hown3 hgrow3 hg3 hstep hboxes
        refine hK _ _ ?_
        clear hK K
        refine wpAnyIn_ready (rs:=[5,7]) (by kernel_rfl) (by simp) ?_
        refine AllReadyIn.cons rfl (fun K hK=>?_) ?_
        ·go_simp
         refine hK _ _ ?_
         clear hK K
         refine wpAnyIn_ready (rs:=[6,7]) (by kernel_rfl) (by simp) ?_
         refine AllReadyIn.cons rfl (fun K hK=>?_) ?_
         ·go_simp
          refine hK _ _ ?_
          clear hK K
          refine wpAnyIn_ready (rs:=[7]) (by kernel_rfl) (by simp) ?_
          refine AllReadyIn.cons rfl (fun K hK=>?_) ?_
          ·go_simp
           refine hK _ _ ?_
           clear hK K
           refine wpAnyIn_done (by kernel_rfl) ?_ _
           gi_wp2
           obtain⟨k1,k2,k3,k4⟩:=Hst.out _ (Or.inl rfl)
           exact⟨k1.from _,k2,rfl,⟨⟨_,k3⟩,k4⟩,by rw [List.length_append,←Hk.out,←Hge.out];rfl,HP.out⟩
          exact AllReadyIn.nil
         refine AllReadyIn.cons rfl (fun K hK=>?_) ?_
         ·go_simp
          refine hK _ _ ?_
          clear hK K
          refine wpAnyIn_ready (rs:=[6]) (by kernel_rfl) (by simp) ?_
          refine AllReadyIn.cons rfl (fun K hK=>?_) ?_
          ·go_simp
           refine hK _ _ ?_
           clear hK K
           refine wpAnyIn_done (by kernel_rfl) ?_ _
           gi_wp2
           obtain⟨k1,k2,k3,k4⟩:=Hst.out _ (Or.inr rfl)
           exact⟨k1.from _,k2,rfl,⟨⟨_,k3⟩,k4⟩,by rw [List.length_append,←Hk.out,←Hge.out];rfl,HP.out⟩
          exact AllReadyIn.nil
         exact AllReadyIn.nil
        refine AllReadyIn.cons rfl (fun K hK=>?_) ?_
        ·go_simp
         refine hK _ _ ?_
         clear hK K
         refine wpAnyIn_ready (rs:=[5]) (by kernel_rfl) (by simp) ?_
         refine AllReadyIn.cons rfl (fun K hK=>?_) ?_
         ·go_simp
          refine hK _ _ ?_
          clear hK K
          refine wpAnyIn_ready (rs:=[6]) (by kernel_rfl) (by simp) ?_
          refine AllReadyIn.cons rfl (fun K hK=>?_) ?_
          ·go_simp
           refine hK _ _ ?_
           clear hK K
           refine wpAnyIn_done (by kernel_rfl) ?_ _
           gi_wp2
           obtain⟨k1,k2,k3,k4⟩:=Hst.out _ (Or.inr rfl)
           exact⟨k1.from _,k2,rfl,⟨⟨_,k3⟩,k4⟩,by rw [List.length_append,←Hk.out,←Hge.out];rfl,HP.out⟩
          exact AllReadyIn.nil
         exact AllReadyIn.nil
        exact AllReadyIn.nil
       exact AllReadyIn.nil
      exact AllReadyIn.nil
     refine AllReadyIn.cons rfl (fun K hK=>?_) ?_
     ·go_simp
      refine hK _ _ ?_
      clear hK K
      refine wpAnyIn_ready (rs:=[1]) (by kernel_rfl) (by simp) ?_
      refine AllReadyIn.cons rfl (fun K hK=>?_) ?_
      ·go_simp
       refine hK _ _ ?_
       clear hK K
       refine wpAnyIn_ready (rs:=[4]) (by kernel_rfl) (by simp) ?_
       refine AllReadyIn.cons rfl (fun K hK=>?_) ?_
       ·refine appV_step rfl _ _ rfl w.heap.size (.slice av k cv) k (pre.flatMap (fun x=>encP x.p)) rfl HRow.out _ rfl (by simp) (by simp) (by simp) (by simp) hkq Hbs.out ?_
        intro g3 cap3 w3 hown3 hgrow3 hg3 hgl3
        obtain⟨hbx3,hboxes,hgB,hstep⟩:=HStep.out g3 cap3 w3 hown3 hgrow3 hg3
        have hm3:=(hboxes _ _ _ HB1.out).1.cell
        have hgn2 : ¬(w.heap.size=g3):=fun e=>(hboxes _ _ _ HB1.out).2 e.symm
        have hc3:=hbx3.cell
        have hf3:=hbx3.frozen
        have hgB2 : ¬(w.heap.size+1=g3):=fun e=>hgB e.symm
        have q0:=hown3.cellAt (k*4) (by omega)
        have q1:=hown3.cellAt (k*4+1) (by omega)
        have q2:=hown3.cellAt (k*4+2) (by omega)
        have q3:=hown3.cellAt (k*4+3) (by omega)
        rw [List.getElem?_append_right (by rw [Hxl.out];omega),Hxl.out] at q0 q1 q2 q3
        simp only [Nat.sub_self,Nat.add_sub_cancel_left,List.getElem?_cons_zero,List.getElem?_cons_succ] at q0 q1 q2 q3
        have z0:=hown3.frozenAt (k*4)
        have z1:=hown3.frozenAt (k*4+1)
        have z2:=hown3.frozenAt (k*4+2)
        have z3:=hown3.frozenAt (k*4+3)
        have Hst:Hid _:=hstep
        clear hown3 hgrow3 hg3 hstep hboxes
        refine hK _ _ ?_
        clear hK K
        refine wpAnyIn_ready (rs:=[5,7]) (by kernel_rfl) (by simp) ?_
        refine AllReadyIn.cons rfl (fun K hK=>?_) ?_
        ·go_simp
         refine hK _ _ ?_
         clear hK K
         refine wpAnyIn_ready (rs:=[6,7]) (by kernel_rfl) (by simp) ?_
         refine AllReadyIn.cons rfl (fun K hK=>?_) ?_
         ·go_simp
          refine hK _ _ ?_
          clear hK K
          refine wpAnyIn_ready (rs:=[7]) (by kernel_rfl) (by simp) ?_
          refine AllReadyIn.cons rfl (fun K hK=>?_) ?_
          ·go_simp
           refine hK _ _ ?_
           clear hK K
           refine wpAnyIn_done (by kernel_rfl) ?_ _
           gi_wp2
           obtain⟨k1,k2,k3,k4⟩:=Hst.out _ (Or.inl rfl)
           exact⟨k1.from _,k2,rfl,⟨⟨_,k3⟩,k4⟩,by rw [List.length_append,←Hk.out,←Hge.out];rfl,HP.out⟩
          exact AllReadyIn.nil
         refine AllReadyIn.cons rfl (fun K hK=>?_) ?_
         ·go_simp
          refine hK _ _ ?_
          clear hK K
          refine wpAnyIn_ready (rs:=[6]) (by kernel_rfl) (by simp) ?_
          refine AllReadyIn.cons rfl (fun K hK=>?_) ?_
          ·go_simp
           refine hK _ _ ?_
           clear hK K
           refine wpAnyIn_done (by kernel_rfl) ?_ _
           gi_wp2
           obtain⟨k1,k2,k3,k4⟩:=Hst.out _ (Or.inr rfl)
           exact⟨k1.from _,k2,rfl,⟨⟨_,k3⟩,k4⟩,by rw [List.length_append,←Hk.out,←Hge.out];rfl,HP.out⟩
          exact AllReadyIn.nil
         exact AllReadyIn.nil
        refine AllReadyIn.cons rfl (fun K hK=>?_) ?_
        ·go_simp
         refine hK _ _ ?_
         clear hK K
         refine wpAnyIn_ready (rs:=[5]) (by kernel_rfl) (by simp) ?_
         refine AllReadyIn.cons rfl (fun K hK=>?_) ?_
         ·go_simp
          refine hK _ _ ?_
          clear hK K
          refine wpAnyIn_ready (rs:=[6]) (by kernel_rfl) (by simp) ?_
          refine AllReadyIn.cons rfl (fun K hK=>?_) ?_
          ·go_simp
           refine hK _ _ ?_
           clear hK K
           refine wpAnyIn_done (by kernel_rfl) ?_ _
           gi_wp2
           obtain⟨k1,k2,k3,k4⟩:=Hst.out _ (Or.inr rfl)
           exact⟨k1.from _,k2,rfl,⟨⟨_,k3⟩,k4⟩,by rw [List.length_append,←Hk.out,←Hge.out];rfl,HP.out⟩
          exact AllReadyIn.nil
         exact AllReadyIn.nil
        exact AllReadyIn.nil
       exact AllReadyIn.nil
      exact AllReadyIn.nil
     exact AllReadyIn.nil
    refine AllReadyIn.cons rfl (fun K hK=>?_) ?_
    ·go_simp
     refine hK _ _ ?_
     clear hK K
     refine wpAnyIn_ready (rs:=[1,2]) (by kernel_rfl) (by simp) ?_
     refine AllReadyIn.cons rfl (fun K hK=>?_) ?_
     ·go_simp
      refine hK _ _ ?_
      clear hK K
      refine wpAnyIn_ready (rs:=[2]) (by kernel_rfl) (by simp) ?_
      refine AllReadyIn.cons rfl (fun K hK=>?_) ?_
      ·go_simp
       refine hK _ _ ?_
       clear hK K
       refine wpAnyIn_ready (rs:=[4]) (by kernel_rfl) (by simp) ?_
       refine AllReadyIn.cons rfl (fun K hK=>?_) ?_
       ·refine appV_step rfl _ _ rfl w.heap.size (.slice av k cv) k (pre.flatMap (fun x=>encP x.p)) rfl HRow.out _ rfl (by simp) (by simp) (by simp) (by simp) hkq Hbs.out ?_
        intro g3 cap3 w3 hown3 hgrow3 hg3 hgl3
        obtain⟨hbx3,hboxes,hgB,hstep⟩:=HStep.out g3 cap3 w3 hown3 hgrow3 hg3
        have hm3:=(hboxes _ _ _ HB1.out).1.cell
        have hgn2 : ¬(w.heap.size=g3):=fun e=>(hboxes _ _ _ HB1.out).2 e.symm
        have hc3:=hbx3.cell
        have hf3:=hbx3.frozen
        have hgB2 : ¬(w.heap.size+1=g3):=fun e=>hgB e.symm
        have q0:=hown3.cellAt (k*4) (by omega)
        have q1:=hown3.cellAt (k*4+1) (by omega)
        have q2:=hown3.cellAt (k*4+2) (by omega)
        have q3:=hown3.cellAt (k*4+3) (by omega)
        rw [List.getElem?_append_right (by rw [Hxl.out];omega),Hxl.out] at q0 q1 q2 q3
        simp only [Nat.sub_self,Nat.add_sub_cancel_left,List.getElem?_cons_zero,List.getElem?_cons_succ] at q0 q1 q2 q3
        have z0:=hown3.frozenAt (k*4)
        have z1:=hown3.frozenAt (k*4+1)
        have z2:=hown3.frozenAt (k*4+2)
        have z3:=hown3.frozenAt (k*4+3)
        have Hst:Hid _:=hstep
        clear hown3 hgrow3 hg3 hstep hboxes
        refine hK _ _ ?_
        clear hK K
        refine wpAnyIn_ready (rs:=[5,7]) (by kernel_rfl) (by simp) ?_
        refine AllReadyIn.cons rfl (fun K hK=>?_) ?_
        ·go_simp
         refine hK _ _ ?_
         clear hK K
         refine wpAnyIn_ready (rs:=[6,7]) (by kernel_rfl) (by simp) ?_
         refine AllReadyIn.cons rfl (fun K hK=>?_) ?_
         ·go_simp
          refine hK _ _ ?_
          clear hK K
          refine wpAnyIn_ready (rs:=[7]) (by kernel_rfl) (by simp) ?_
          refine AllReadyIn.cons rfl (fun K hK=>?_) ?_
          ·go_simp
           refine hK _ _ ?_
           clear hK K
           refine wpAnyIn_done (by kernel_rfl) ?_ _
           gi_wp2
           obtain⟨k1,k2,k3,k4⟩:=Hst.out _ (Or.inl rfl)
           exact⟨k1.from _,k2,rfl,⟨⟨_,k3⟩,k4⟩,by rw [List.length_append,←Hk.out,←Hge.out];rfl,HP.out⟩
          exact AllReadyIn.nil
         refine AllReadyIn.cons rfl (fun K hK=>?_) ?_
         ·go_simp
          refine hK _ _ ?_
          clear hK K
          refine wpAnyIn_ready (rs:=[6]) (by kernel_rfl) (by simp) ?_
          refine AllReadyIn.cons rfl (fun K hK=>?_) ?_
          ·go_simp
           refine hK _ _ ?_
           clear hK K
           refine wpAnyIn_done (by kernel_rfl) ?_ _
           gi_wp2
           obtain⟨k1,k2,k3,k4⟩:=Hst.out _ (Or.inr rfl)
           exact⟨k1.from _,k2,rfl,⟨⟨_,k3⟩,k4⟩,by rw [List.length_append,←Hk.out,←Hge.out];rfl,HP.out⟩
          exact AllReadyIn.nil
         exact AllReadyIn.nil
        refine AllReadyIn.cons rfl (fun K hK=>?_) ?_
        ·go_simp
         refine hK _ _ ?_
         clear hK K
         refine wpAnyIn_ready (rs:=[5]) (by kernel_rfl) (by simp) ?_
         refine AllReadyIn.cons rfl (fun K hK=>?_) ?_
         ·go_simp
          refine hK _ _ ?_
          clear hK K
          refine wpAnyIn_ready (rs:=[6]) (by kernel_rfl) (by simp) ?_
          refine AllReadyIn.cons rfl (fun K hK=>?_) ?_
          ·go_simp
           refine hK _ _ ?_
           clear hK K
           refine wpAnyIn_done (by kernel_rfl) ?_ _
           gi_wp2
           obtain⟨k1,k2,k3,k4⟩:=Hst.out _ (Or.inr rfl)
           exact⟨k1.from _,k2,rfl,⟨⟨_,k3⟩,k4⟩,by rw [List.length_append,←Hk.out,←Hge.out];rfl,HP.out⟩
          exact AllReadyIn.nil
         exact AllReadyIn.nil
        exact AllReadyIn.nil
       exact AllReadyIn.nil
      exact AllReadyIn.nil
     refine AllReadyIn.cons rfl (fun K hK=>?_) ?_
     ·go_simp
      refine hK _ _ ?_
      clear hK K
      refine wpAnyIn_ready (rs:=[1]) (by kernel_rfl) (by simp) ?_
      refine AllReadyIn.cons rfl (fun K hK=>?_) ?_
      ·go_simp
       refine hK _ _ ?_
       clear hK K
       refine wpAnyIn_ready (rs:=[4]) (by kernel_rfl) (by simp) ?_
       refine AllReadyIn.cons rfl (fun K hK=>?_) ?_
       ·refine appV_step rfl _ _ rfl w.heap.size (.slice av k cv) k (pre.flatMap (fun x=>encP x.p)) rfl HRow.out _ rfl (by simp) (by simp) (by simp) (by simp) hkq Hbs.out ?_
        intro g3 cap3 w3 hown3 hgrow3 hg3 hgl3
        obtain⟨hbx3,hboxes,hgB,hstep⟩:=HStep.out g3 cap3 w3 hown3 hgrow3 hg3
        have hm3:=(hboxes _ _ _ HB1.out).1.cell
        have hgn2 : ¬(w.heap.size=g3):=fun e=>(hboxes _ _ _ HB1.out).2 e.symm
        have hc3:=hbx3.cell
        have hf3:=hbx3.frozen
        have hgB2 : ¬(w.heap.size+1=g3):=fun e=>hgB e.symm
        have q0:=hown3.cellAt (k*4) (by omega)
        have q1:=hown3.cellAt (k*4+1) (by omega)
        have q2:=hown3.cellAt (k*4+2) (by omega)
        have q3:=hown3.cellAt (k*4+3) (by omega)
        rw [List.getElem?_append_right (by rw [Hxl.out];omega),Hxl.out] at q0 q1 q2 q3
        simp only [Nat.sub_self,Nat.add_sub_cancel_left,List.getElem?_cons_zero,List.getElem?_cons_succ] at q0 q1 q2 q3
        have z0:=hown3.frozenAt (k*4)
        have z1:=hown3.frozenAt (k*4+1)
        have z2:=hown3.frozenAt (k*4+2)
        have z3:=hown3.frozenAt (k*4+3)
        have Hst:Hid _:=hstep
        clear hown3 hgrow3 hg3 hstep hboxes
        refine hK _ _ ?_
        clear hK K
        refine wpAnyIn_ready (rs:=[5,7]) (by kernel_rfl) (by simp) ?_
        refine AllReadyIn.cons rfl (fun K hK=>?_) ?_
        ·go_simp
         refine hK _ _ ?_
         clear hK K
         refine wpAnyIn_ready (rs:=[6,7]) (by kernel_rfl) (by simp) ?_
         refine AllReadyIn.cons rfl (fun K hK=>?_) ?_
         ·go_simp
          refine hK _ _ ?_
          clear hK K
          refine wpAnyIn_ready (rs:=[7]) (by kernel_rfl) (by simp) ?_
          refine AllReadyIn.cons rfl (fun K hK=>?_) ?_
          ·go_simp
           refine hK _ _ ?_
           clear hK K
           refine wpAnyIn_done (by kernel_rfl) ?_ _
           gi_wp2
           obtain⟨k1,k2,k3,k4⟩:=Hst.out _ (Or.inl rfl)
           exact⟨k1.from _,k2,rfl,⟨⟨_,k3⟩,k4⟩,by rw [List.length_append,←Hk.out,←Hge.out];rfl,HP.out⟩
          exact AllReadyIn.nil
         refine AllReadyIn.cons rfl (fun K hK=>?_) ?_
         ·go_simp
          refine hK _ _ ?_
          clear hK K
          refine wpAnyIn_ready (rs:=[6]) (by kernel_rfl) (by simp) ?_
          refine AllReadyIn.cons rfl (fun K hK=>?_) ?_
          ·go_simp
           refine hK _ _ ?_
           clear hK K
           refine wpAnyIn_done (by kernel_rfl) ?_ _
           gi_wp2
           obtain⟨k1,k2,k3,k4⟩:=Hst.out _ (Or.inr rfl)
           exact⟨k1.from _,k2,rfl,⟨⟨_,k3⟩,k4⟩,by rw [List.length_append,←Hk.out,←Hge.out];rfl,HP.out⟩
          exact AllReadyIn.nil
         exact AllReadyIn.nil
        refine AllReadyIn.cons rfl (fun K hK=>?_) ?_
        ·go_simp
         refine hK _ _ ?_
         clear hK K
         refine wpAnyIn_ready (rs:=[5]) (by kernel_rfl) (by simp) ?_
         refine AllReadyIn.cons rfl (fun K hK=>?_) ?_
         ·go_simp
          refine hK _ _ ?_
          clear hK K
          refine wpAnyIn_ready (rs:=[6]) (by kernel_rfl) (by simp) ?_
          refine AllReadyIn.cons rfl (fun K hK=>?_) ?_
          ·go_simp
           refine hK _ _ ?_
           clear hK K
           refine wpAnyIn_done (by kernel_rfl) ?_ _
           gi_wp2
           obtain⟨k1,k2,k3,k4⟩:=Hst.out _ (Or.inr rfl)
           exact⟨k1.from _,k2,rfl,⟨⟨_,k3⟩,k4⟩,by rw [List.length_append,←Hk.out,←Hge.out];rfl,HP.out⟩
          exact AllReadyIn.nil
         exact AllReadyIn.nil
        exact AllReadyIn.nil
       exact AllReadyIn.nil
      exact AllReadyIn.nil
     exact AllReadyIn.nil
    exact AllReadyIn.nil
   refine AllReadyIn.cons rfl (fun K hK=>?_) ?_
   ·go_simp
    refine hK _ _ ?_
    clear hK K
    refine wpAnyIn_ready (rs:=[0,3]) (by kernel_rfl) (by simp) ?_
    refine AllReadyIn.cons rfl (fun K hK=>?_) ?_
    ·go_simp
     refine hK _ _ ?_
     clear hK K
     refine wpAnyIn_ready (rs:=[2,3]) (by kernel_rfl) (by simp) ?_
     refine AllReadyIn.cons rfl (fun K hK=>?_) ?_
     ·go_simp
      refine hK _ _ ?_
      clear hK K
      refine wpAnyIn_ready (rs:=[3]) (by kernel_rfl) (by simp) ?_
      refine AllReadyIn.cons rfl (fun K hK=>?_) ?_
      ·go_simp
       refine hK _ _ ?_
       clear hK K
       refine wpAnyIn_ready (rs:=[4]) (by kernel_rfl) (by simp) ?_
       refine AllReadyIn.cons rfl (fun K hK=>?_) ?_
       ·refine appV_step rfl _ _ rfl w.heap.size (.slice av k cv) k (pre.flatMap (fun x=>encP x.p)) rfl HRow.out _ rfl (by simp) (by simp) (by simp) (by simp) hkq Hbs.out ?_
        intro g3 cap3 w3 hown3 hgrow3 hg3 hgl3
        obtain⟨hbx3,hboxes,hgB,hstep⟩:=HStep.out g3 cap3 w3 hown3 hgrow3 hg3
        have hm3:=(hboxes _ _ _ HB1.out).1.cell
        have hgn2 : ¬(w.heap.size=g3):=fun e=>(hboxes _ _ _ HB1.out).2 e.symm
        have hc3:=hbx3.cell
        have hf3:=hbx3.frozen
        have hgB2 : ¬(w.heap.size+1=g3):=fun e=>hgB e.symm
        have q0:=hown3.cellAt (k*4) (by omega)
        have q1:=hown3.cellAt (k*4+1) (by omega)
        have q2:=hown3.cellAt (k*4+2) (by omega)
        have q3:=hown3.cellAt (k*4+3) (by omega)
        rw [List.getElem?_append_right (by rw [Hxl.out];omega),Hxl.out] at q0 q1 q2 q3
        simp only [Nat.sub_self,Nat.add_sub_cancel_left,List.getElem?_cons_zero,List.getElem?_cons_succ] at q0 q1 q2 q3
        have z0:=hown3.frozenAt (k*4)
        have z1:=hown3.frozenAt (k*4+1)
        have z2:=hown3.frozenAt (k*4+2)
        have z3:=hown3.frozenAt (k*4+3)
        have Hst:Hid _:=hstep
        clear hown3 hgrow3 hg3 hstep hboxes
        refine hK _ _ ?_
        clear hK K
        refine wpAnyIn_ready (rs:=[5,7]) (by kernel_rfl) (by simp) ?_
        refine AllReadyIn.cons rfl (fun K hK=>?_) ?_
        ·go_simp
         refine hK _ _ ?_
         clear hK K
         refine wpAnyIn_ready (rs:=[6,7]) (by kernel_rfl) (by simp) ?_
         refine AllReadyIn.cons rfl (fun K hK=>?_) ?_
         ·go_simp
          refine hK _ _ ?_
          clear hK K
          refine wpAnyIn_ready (rs:=[7]) (by kernel_rfl) (by simp) ?_
          refine AllReadyIn.cons rfl (fun K hK=>?_) ?_
          ·go_simp
           refine hK _ _ ?_
           clear hK K
           refine wpAnyIn_done (by kernel_rfl) ?_ _
           gi_wp2
           obtain⟨k1,k2,k3,k4⟩:=Hst.out _ (Or.inl rfl)
           exact⟨k1.from _,k2,rfl,⟨⟨_,k3⟩,k4⟩,by rw [List.length_append,←Hk.out,←Hge.out];rfl,HP.out⟩
          exact AllReadyIn.nil
         refine AllReadyIn.cons rfl (fun K hK=>?_) ?_
         ·go_simp
          refine hK _ _ ?_
          clear hK K
          refine wpAnyIn_ready (rs:=[6]) (by kernel_rfl) (by simp) ?_
          refine AllReadyIn.cons rfl (fun K hK=>?_) ?_
          ·go_simp
           refine hK _ _ ?_
           clear hK K
           refine wpAnyIn_done (by kernel_rfl) ?_ _
           gi_wp2
           obtain⟨k1,k2,k3,k4⟩:=Hst.out _ (Or.inr rfl)
           exact⟨k1.from _,k2,rfl,⟨⟨_,k3⟩,k4⟩,by rw [List.length_append,←Hk.out,←Hge.out];rfl,HP.out⟩
          exact AllReadyIn.nil
         exact AllReadyIn.nil
        refine AllReadyIn.cons rfl (fun K hK=>?_) ?_
        ·go_simp
         refine hK _ _ ?_
         clear hK K
         refine wpAnyIn_ready (rs:=[5]) (by kernel_rfl) (by simp) ?_
         refine AllReadyIn.cons rfl (fun K hK=>?_) ?_
         ·go_simp
          refine hK _ _ ?_
          clear hK K
          refine wpAnyIn_ready (rs:=[6]) (by kernel_rfl) (by simp) ?_
          refine AllReadyIn.cons rfl (fun K hK=>?_) ?_
          ·go_simp
           refine hK _ _ ?_
           clear hK K
           refine wpAnyIn_done (by kernel_rfl) ?_ _
           gi_wp2
           obtain⟨k1,k2,k3,k4⟩:=Hst.out _ (Or.inr rfl)
           exact⟨k1.from _,k2,rfl,⟨⟨_,k3⟩,k4⟩,by rw [List.length_append,←Hk.out,←Hge.out];rfl,HP.out⟩
          exact AllReadyIn.nil
         exact AllReadyIn.nil
        exact AllReadyIn.nil
       exact AllReadyIn.nil
      exact AllReadyIn.nil
     refine AllReadyIn.cons rfl (fun K hK=>?_) ?_
     ·go_simp
      refine hK _ _ ?_
      clear hK K
      refine wpAnyIn_ready (rs:=[2]) (by kernel_rfl) (by simp) ?_
      refine AllReadyIn.cons rfl (fun K hK=>?_) ?_
      ·go_simp
       refine hK _ _ ?_
       clear hK K
       refine wpAnyIn_ready (rs:=[4]) (by kernel_rfl) (by simp) ?_
       refine AllReadyIn.cons rfl (fun K hK=>?_) ?_
       ·refine appV_step rfl _ _ rfl w.heap.size (.slice av k cv) k (pre.flatMap (fun x=>encP x.p)) rfl HRow.out _ rfl (by simp) (by simp) (by simp) (by simp) hkq Hbs.out ?_
        intro g3 cap3 w3 hown3 hgrow3 hg3 hgl3
        obtain⟨hbx3,hboxes,hgB,hstep⟩:=HStep.out g3 cap3 w3 hown3 hgrow3 hg3
        have hm3:=(hboxes _ _ _ HB1.out).1.cell
        have hgn2 : ¬(w.heap.size=g3):=fun e=>(hboxes _ _ _ HB1.out).2 e.symm
        have hc3:=hbx3.cell
        have hf3:=hbx3.frozen
        have hgB2 : ¬(w.heap.size+1=g3):=fun e=>hgB e.symm
        have q0:=hown3.cellAt (k*4) (by omega)
        have q1:=hown3.cellAt (k*4+1) (by omega)
        have q2:=hown3.cellAt (k*4+2) (by omega)
        have q3:=hown3.cellAt (k*4+3) (by omega)
        rw [List.getElem?_append_right (by rw [Hxl.out];omega),Hxl.out] at q0 q1 q2 q3
        simp only [Nat.sub_self,Nat.add_sub_cancel_left,List.getElem?_cons_zero,List.getElem?_cons_succ] at q0 q1 q2 q3
        have z0:=hown3.frozenAt (k*4)
        have z1:=hown3.frozenAt (k*4+1)
        have z2:=hown3.frozenAt (k*4+2)
        have z3:=hown3.frozenAt (k*4+3)
        have Hst:Hid _:=hstep
        clear hown3 hgrow3 hg3 hstep hboxes
        refine hK _ _ ?_
        clear hK K
        refine wpAnyIn_ready (rs:=[5,7]) (by kernel_rfl) (by simp) ?_
        refine AllReadyIn.cons rfl (fun K hK=>?_) ?_
        ·go_simp
         refine hK _ _ ?_
         clear hK K
         refine wpAnyIn_ready (rs:=[6,7]) (by kernel_rfl) (by simp) ?_
         refine AllReadyIn.cons rfl (fun K hK=>?_) ?_
         ·go_simp
          refine hK _ _ ?_
          clear hK K
          refine wpAnyIn_ready (rs:=[7]) (by kernel_rfl) (by simp) ?_
          refine AllReadyIn.cons rfl (fun K hK=>?_) ?_
          ·go_simp
           refine hK _ _ ?_
           clear hK K
           refine wpAnyIn_done (by kernel_rfl) ?_ _
           gi_wp2
           obtain⟨k1,k2,k3,k4⟩:=Hst.out _ (Or.inl rfl)
           exact⟨k1.from _,k2,rfl,⟨⟨_,k3⟩,k4⟩,by rw [List.length_append,←Hk.out,←Hge.out];rfl,HP.out⟩
          exact AllReadyIn.nil
         refine AllReadyIn.cons rfl (fun K hK=>?_) ?_
         ·go_simp
          refine hK _ _ ?_
          clear hK K
          refine wpAnyIn_ready (rs:=[6]) (by kernel_rfl) (by simp) ?_
          refine AllReadyIn.cons rfl (fun K hK=>?_) ?_
          ·go_simp
           refine hK _ _ ?_
           clear hK K
           refine wpAnyIn_done (by kernel_rfl) ?_ _
           gi_wp2
           obtain⟨k1,k2,k3,k4⟩:=Hst.out _ (Or.inr rfl)
           exact⟨k1.from _,k2,rfl,⟨⟨_,k3⟩,k4⟩,by rw [List.length_append,←Hk.out,←Hge.out];rfl,HP.out⟩
          exact AllReadyIn.nil
         exact AllReadyIn.nil
        refine AllReadyIn.cons rfl (fun K hK=>?_) ?_
        ·go_simp
         refine hK _ _ ?_
         clear hK K
         refine wpAnyIn_ready (rs:=[5]) (by kernel_rfl) (by simp) ?_
         refine AllReadyIn.cons rfl (fun K hK=>?_) ?_
         ·go_simp
          refine hK _ _ ?_
          clear hK K
          refine wpAnyIn_ready (rs:=[6]) (by kernel_rfl) (by simp) ?_
          refine AllReadyIn.cons rfl (fun K hK=>?_) ?_
          ·go_simp
           refine hK _ _ ?_
           clear hK K
           refine wpAnyIn_done (by kernel_rfl) ?_ _
           gi_wp2
           obtain⟨k1,k2,k3,k4⟩:=Hst.out _ (Or.inr rfl)
           exact⟨k1.from _,k2,rfl,⟨⟨_,k3⟩,k4⟩,by rw [List.length_append,←Hk.out,←Hge.out];rfl,HP.out⟩
          exact AllReadyIn.nil
         exact AllReadyIn.nil
        exact AllReadyIn.nil
       exact AllReadyIn.nil
      exact AllReadyIn.nil
     exact AllReadyIn.nil
    refine AllReadyIn.cons rfl (fun K hK=>?_) ?_
    ·go_simp
     refine hK _ _ ?_
     clear hK K
     refine wpAnyIn_ready (rs:=[0]) (by kernel_rfl) (by simp) ?_
     refine AllReadyIn.cons rfl (fun K hK=>?_) ?_
     ·go_simp
      refine hK _ _ ?_
      clear hK K
      refine wpAnyIn_ready (rs:=[2]) (by kernel_rfl) (by simp) ?_
      refine AllReadyIn.cons rfl (fun K hK=>?_) ?_
      ·go_simp
       refine hK _ _ ?_
       clear hK K
       refine wpAnyIn_ready (rs:=[4]) (by kernel_rfl) (by simp) ?_
       refine AllReadyIn.cons rfl (fun K hK=>?_) ?_
       ·refine appV_step rfl _ _ rfl w.heap.size (.slice av k cv) k (pre.flatMap (fun x=>encP x.p)) rfl HRow.out _ rfl (by simp) (by simp) (by simp) (by simp) hkq Hbs.out ?_
        intro g3 cap3 w3 hown3 hgrow3 hg3 hgl3
        obtain⟨hbx3,hboxes,hgB,hstep⟩:=HStep.out g3 cap3 w3 hown3 hgrow3 hg3
        have hm3:=(hboxes _ _ _ HB1.out).1.cell
        have hgn2 : ¬(w.heap.size=g3):=fun e=>(hboxes _ _ _ HB1.out).2 e.symm
        have hc3:=hbx3.cell
        have hf3:=hbx3.frozen
        have hgB2 : ¬(w.heap.size+1=g3):=fun e=>hgB e.symm
        have q0:=hown3.cellAt (k*4) (by omega)
        have q1:=hown3.cellAt (k*4+1) (by omega)
        have q2:=hown3.cellAt (k*4+2) (by omega)
        have q3:=hown3.cellAt (k*4+3) (by omega)
        rw [List.getElem?_append_right (by rw [Hxl.out];omega),Hxl.out] at q0 q1 q2 q3
        simp only [Nat.sub_self,Nat.add_sub_cancel_left,List.getElem?_cons_zero,List.getElem?_cons_succ] at q0 q1 q2 q3
        have z0:=hown3.frozenAt (k*4)
        have z1:=hown3.frozenAt (k*4+1)
        have z2:=hown3.frozenAt (k*4+2)
        have z3:=hown3.frozenAt (k*4+3)
        have Hst:Hid _:=hstep
        clear hown3 hgrow3 hg3 hstep hboxes
        refine hK _ _ ?_
        clear hK K
        refine wpAnyIn_ready (rs:=[5,7]) (by kernel_rfl) (by simp) ?_
        refine AllReadyIn.cons rfl (fun K hK=>?_) ?_
        ·go_simp
         refine hK _ _ ?_
         clear hK K
         refine wpAnyIn_ready (rs:=[6,7]) (by kernel_rfl) (by simp) ?_
         refine AllReadyIn.cons rfl (fun K hK=>?_) ?_
         ·go_simp
          refine hK _ _ ?_
          clear hK K
          refine wpAnyIn_ready (rs:=[7]) (by kernel_rfl) (by simp) ?_
          refine AllReadyIn.cons rfl (fun K hK=>?_) ?_
          ·go_simp
           refine hK _ _ ?_
           clear hK K
           refine wpAnyIn_done (by kernel_rfl) ?_ _
           gi_wp2
           obtain⟨k1,k2,k3,k4⟩:=Hst.out _ (Or.inl rfl)
           exact⟨k1.from _,k2,rfl,⟨⟨_,k3⟩,k4⟩,by rw [List.length_append,←Hk.out,←Hge.out];rfl,HP.out⟩
          exact AllReadyIn.nil
         refine AllReadyIn.cons rfl (fun K hK=>?_) ?_
         ·go_simp
          refine hK _ _ ?_
          clear hK K
          refine wpAnyIn_ready (rs:=[6]) (by kernel_rfl) (by simp) ?_
          refine AllReadyIn.cons rfl (fun K hK=>?_) ?_
          ·go_simp
           refine hK _ _ ?_
           clear hK K
           refine wpAnyIn_done (by kernel_rfl) ?_ _
           gi_wp2
           obtain⟨k1,k2,k3,k4⟩:=Hst.out _ (Or.inr rfl)
           exact⟨k1.from _,k2,rfl,⟨⟨_,k3⟩,k4⟩,by rw [List.length_append,←Hk.out,←Hge.out];rfl,HP.out⟩
          exact AllReadyIn.nil
         exact AllReadyIn.nil
        refine AllReadyIn.cons rfl (fun K hK=>?_) ?_
        ·go_simp
         refine hK _ _ ?_
         clear hK K
         refine wpAnyIn_ready (rs:=[5]) (by kernel_rfl) (by simp) ?_
         refine AllReadyIn.cons rfl (fun K hK=>?_) ?_
         ·go_simp
          refine hK _ _ ?_
          clear hK K
          refine wpAnyIn_ready (rs:=[6]) (by kernel_rfl) (by simp) ?_
          refine AllReadyIn.cons rfl (fun K hK=>?_) ?_
          ·go_simp
           refine hK _ _ ?_
           clear hK K
           refine wpAnyIn_done (by kernel_rfl) ?_ _
           gi_wp2
           obtain⟨k1,k2,k3,k4⟩:=Hst.out _ (Or.inr rfl)
           exact⟨k1.from _,k2,rfl,⟨⟨_,k3⟩,k4⟩,by rw [List.length_append,←Hk.out,←Hge.out];rfl,HP.out⟩
          exact AllReadyIn.nil
         exact AllReadyIn.nil
        exact AllReadyIn.nil
       exact AllReadyIn.nil
      exact AllReadyIn.nil
     exact AllReadyIn.nil
    exact AllReadyIn.nil
   refine AllReadyIn.cons rfl (fun K hK=>?_) ?_
   ·go_simp
    refine hK _ _ ?_
    clear hK K
    refine wpAnyIn_ready (rs:=[0,1]) (by kernel_rfl) (by simp) ?_
    refine AllReadyIn.cons rfl (fun K hK=>?_) ?_
    ·go_simp
     refine hK _ _ ?_
     clear hK K
     refine wpAnyIn_ready (rs:=[1,2]) (by kernel_rfl) (by simp) ?_
     refine AllReadyIn.cons rfl (fun K hK=>?_) ?_
     ·go_simp
      refine hK _ _ ?_
      clear hK K
      refine wpAnyIn_ready (rs:=[2]) (by kernel_rfl) (by simp) ?_
      refine AllReadyIn.cons rfl (fun K hK=>?_) ?_
      ·go_simp
       refine hK _ _ ?_
       clear hK K
       refine wpAnyIn_ready (rs:=[4]) (by kernel_rfl) (by simp) ?_
       refine AllReadyIn.cons rfl (fun K hK=>?_) ?_
       ·refine appV_step rfl _ _ rfl w.heap.size (.slice av k cv) k (pre.flatMap (fun x=>encP x.p)) rfl HRow.out _ rfl (by simp) (by simp) (by simp) (by simp) hkq Hbs.out ?_
        intro g3 cap3 w3 hown3 hgrow3 hg3 hgl3
        obtain⟨hbx3,hboxes,hgB,hstep⟩:=HStep.out g3 cap3 w3 hown3 hgrow3 hg3
        have hm3:=(hboxes _ _ _ HB1.out).1.cell
        have hgn2 : ¬(w.heap.size=g3):=fun e=>(hboxes _ _ _ HB1.out).2 e.symm
        have hc3:=hbx3.cell
        have hf3:=hbx3.frozen
        have hgB2 : ¬(w.heap.size+1=g3):=fun e=>hgB e.symm
        have q0:=hown3.cellAt (k*4) (by omega)
        have q1:=hown3.cellAt (k*4+1) (by omega)
        have q2:=hown3.cellAt (k*4+2) (by omega)
        have q3:=hown3.cellAt (k*4+3) (by omega)
        rw [List.getElem?_append_right (by rw [Hxl.out];omega),Hxl.out] at q0 q1 q2 q3
        simp only [Nat.sub_self,Nat.add_sub_cancel_left,List.getElem?_cons_zero,List.getElem?_cons_succ] at q0 q1 q2 q3
        have z0:=hown3.frozenAt (k*4)
        have z1:=hown3.frozenAt (k*4+1)
        have z2:=hown3.frozenAt (k*4+2)
        have z3:=hown3.frozenAt (k*4+3)
        have Hst:Hid _:=hstep
        clear hown3 hgrow3 hg3 hstep hboxes
        refine hK _ _ ?_
        clear hK K
        refine wpAnyIn_ready (rs:=[5,7]) (by kernel_rfl) (by simp) ?_
        refine AllReadyIn.cons rfl (fun K hK=>?_) ?_
        ·go_simp
         refine hK _ _ ?_
         clear hK K
         refine wpAnyIn_ready (rs:=[6,7]) (by kernel_rfl) (by simp) ?_
         refine AllReadyIn.cons rfl (fun K hK=>?_) ?_
         ·go_simp
          refine hK _ _ ?_
          clear hK K
          refine wpAnyIn_ready (rs:=[7]) (by kernel_rfl) (by simp) ?_
          refine AllReadyIn.cons rfl (fun K hK=>?_) ?_
          ·go_simp
           refine hK _ _ ?_
           clear hK K
           refine wpAnyIn_done (by kernel_rfl) ?_ _
           gi_wp2
           obtain⟨k1,k2,k3,k4⟩:=Hst.out _ (Or.inl rfl)
           exact⟨k1.from _,k2,rfl,⟨⟨_,k3⟩,k4⟩,by rw [List.length_append,←Hk.out,←Hge.out];rfl,HP.out⟩
          exact AllReadyIn.nil
         refine AllReadyIn.cons rfl (fun K hK=>?_) ?_
         ·go_simp
          refine hK _ _ ?_
          clear hK K
          refine wpAnyIn_ready (rs:=[6]) (by kernel_rfl) (by simp) ?_
          refine AllReadyIn.cons rfl (fun K hK=>?_) ?_
          ·go_simp
           refine hK _ _ ?_
           clear hK K
           refine wpAnyIn_done (by kernel_rfl) ?_ _
           gi_wp2
           obtain⟨k1,k2,k3,k4⟩:=Hst.out _ (Or.inr rfl)
           exact⟨k1.from _,k2,rfl,⟨⟨_,k3⟩,k4⟩,by rw [List.length_append,←Hk.out,←Hge.out];rfl,HP.out⟩
          exact AllReadyIn.nil
         exact AllReadyIn.nil
        refine AllReadyIn.cons rfl (fun K hK=>?_) ?_
        ·go_simp
         refine hK _ _ ?_
         clear hK K
         refine wpAnyIn_ready (rs:=[5]) (by kernel_rfl) (by simp) ?_
         refine AllReadyIn.cons rfl (fun K hK=>?_) ?_
         ·go_simp
          refine hK _ _ ?_
          clear hK K
          refine wpAnyIn_ready (rs:=[6]) (by kernel_rfl) (by simp) ?_
          refine AllReadyIn.cons rfl (fun K hK=>?_) ?_
          ·go_simp
           refine hK _ _ ?_
           clear hK K
           refine wpAnyIn_done (by kernel_rfl) ?_ _
           gi_wp2
           obtain⟨k1,k2,k3,k4⟩:=Hst.out _ (Or.inr rfl)
           exact⟨k1.from _,k2,rfl,⟨⟨_,k3⟩,k4⟩,by rw [List.length_append,←Hk.out,←Hge.out];rfl,HP.out⟩
          exact AllReadyIn.nil
         exact AllReadyIn.nil
        exact AllReadyIn.nil
       exact AllReadyIn.nil
      exact AllReadyIn.nil
     refine AllReadyIn.cons rfl (fun K hK=>?_) ?_
     ·go_simp
      refine hK _ _ ?_
      clear hK K
      refine wpAnyIn_ready (rs:=[1]) (by kernel_rfl) (by simp) ?_
      refine AllReadyIn.cons rfl (fun K hK=>?_) ?_
      ·go_simp
       refine hK _ _ ?_
       clear hK K
       refine wpAnyIn_ready (rs:=[4]) (by kernel_rfl) (by simp) ?_
       refine AllReadyIn.cons rfl (fun K hK=>?_) ?_
       ·refine appV_step rfl _ _ rfl w.heap.size (.slice av k cv) k (pre.flatMap (fun x=>encP x.p)) rfl HRow.out _ rfl (by simp) (by simp) (by simp) (by simp) hkq Hbs.out ?_
        intro g3 cap3 w3 hown3 hgrow3 hg3 hgl3
        obtain⟨hbx3,hboxes,hgB,hstep⟩:=HStep.out g3 cap3 w3 hown3 hgrow3 hg3
        have hm3:=(hboxes _ _ _ HB1.out).1.cell
        have hgn2 : ¬(w.heap.size=g3):=fun e=>(hboxes _ _ _ HB1.out).2 e.symm
        have hc3:=hbx3.cell
        have hf3:=hbx3.frozen
        have hgB2 : ¬(w.heap.size+1=g3):=fun e=>hgB e.symm
        have q0:=hown3.cellAt (k*4) (by omega)
        have q1:=hown3.cellAt (k*4+1) (by omega)
        have q2:=hown3.cellAt (k*4+2) (by omega)
        have q3:=hown3.cellAt (k*4+3) (by omega)
        rw [List.getElem?_append_right (by rw [Hxl.out];omega),Hxl.out] at q0 q1 q2 q3
        simp only [Nat.sub_self,Nat.add_sub_cancel_left,List.getElem?_cons_zero,List.getElem?_cons_succ] at q0 q1 q2 q3
        have z0:=hown3.frozenAt (k*4)
        have z1:=hown3.frozenAt (k*4+1)
        have z2:=hown3.frozenAt (k*4+2)
        have z3:=hown3.frozenAt (k*4+3)
        have Hst:Hid _:=hstep
        clear hown3 hgrow3 hg3 hstep hboxes
        refine hK _ _ ?_
        clear hK K
        refine wpAnyIn_ready (rs:=[5,7]) (by kernel_rfl) (by simp) ?_
        refine AllReadyIn.cons rfl (fun K hK=>?_) ?_
        ·go_simp
         refine hK _ _ ?_
         clear hK K
         refine wpAnyIn_ready (rs:=[6,7]) (by kernel_rfl) (by simp) ?_
         refine AllReadyIn.cons rfl (fun K hK=>?_) ?_
         ·go_simp
          refine hK _ _ ?_
          clear hK K
          refine wpAnyIn_ready (rs:=[7]) (by kernel_rfl) (by simp) ?_
          refine AllReadyIn.cons rfl (fun K hK=>?_) ?_
          ·go_simp
           refine hK _ _ ?_
           clear hK K
           refine wpAnyIn_done (by kernel_rfl) ?_ _
           gi_wp2
           obtain⟨k1,k2,k3,k4⟩:=Hst.out _ (Or.inl rfl)
           exact⟨k1.from _,k2,rfl,⟨⟨_,k3⟩,k4⟩,by rw [List.length_append,←Hk.out,←Hge.out];rfl,HP.out⟩
          exact AllReadyIn.nil
         refine AllReadyIn.cons rfl (fun K hK=>?_) ?_
         ·go_simp
          refine hK _ _ ?_
          clear hK K
          refine wpAnyIn_ready (rs:=[6]) (by kernel_rfl) (by simp) ?_
          refine AllReadyIn.cons rfl (fun K hK=>?_) ?_
          ·go_simp
           refine hK _ _ ?_
           clear hK K
           refine wpAnyIn_done (by kernel_rfl) ?_ _
           gi_wp2
           obtain⟨k1,k2,k3,k4⟩:=Hst.out _ (Or.inr rfl)
           exact⟨k1.from _,k2,rfl,⟨⟨_,k3⟩,k4⟩,by rw [List.length_append,←Hk.out,←Hge.out];rfl,HP.out⟩
          exact AllReadyIn.nil
         exact AllReadyIn.nil
        refine AllReadyIn.cons rfl (fun K hK=>?_) ?_
        ·go_simp
         refine hK _ _ ?_
         clear hK K
         refine wpAnyIn_ready (rs:=[5]) (by kernel_rfl) (by simp) ?_
         refine AllReadyIn.cons rfl (fun K hK=>?_) ?_
         ·go_simp
          refine hK _ _ ?_
          clear hK K
          refine wpAnyIn_ready (rs:=[6]) (by kernel_rfl) (by simp) ?_
          refine AllReadyIn.cons rfl (fun K hK=>?_) ?_
          ·go_simp
           refine hK _ _ ?_
           clear hK K
           refine wpAnyIn_done (by kernel_rfl) ?_ _
           gi_wp2
           obtain⟨k1,k2,k3,k4⟩:=Hst.out _ (Or.inr rfl)
           exact⟨k1.from _,k2,rfl,⟨⟨_,k3⟩,k4⟩,by rw [List.length_append,←Hk.out,←Hge.out];rfl,HP.out⟩
          exact AllReadyIn.nil
         exact AllReadyIn.nil
        exact AllReadyIn.nil
       exact AllReadyIn.nil
      exact AllReadyIn.nil
     exact AllReadyIn.nil
    refine AllReadyIn.cons rfl (fun K hK=>?_) ?_
    ·go_simp
     refine hK _ _ ?_
     clear hK K
     refine wpAnyIn_ready (rs:=[0]) (by kernel_rfl) (by simp) ?_
     refine AllReadyIn.cons rfl (fun K hK=>?_) ?_
     ·go_simp
      refine hK _ _ ?_
      clear hK K
      refine wpAnyIn_ready (rs:=[2]) (by kernel_rfl) (by simp) ?_
      refine AllReadyIn.cons rfl (fun K hK=>?_) ?_
      ·go_simp
       refine hK _ _ ?_
       clear hK K
       refine wpAnyIn_ready (rs:=[4]) (by kernel_rfl) (by simp) ?_
       refine AllReadyIn.cons rfl (fun K hK=>?_) ?_
       ·refine appV_step rfl _ _ rfl w.heap.size (.slice av k cv) k (pre.flatMap (fun x=>encP x.p)) rfl HRow.out _ rfl (by simp) (by simp) (by simp) (by simp) hkq Hbs.out ?_
        intro g3 cap3 w3 hown3 hgrow3 hg3 hgl3
        obtain⟨hbx3,hboxes,hgB,hstep⟩:=HStep.out g3 cap3 w3 hown3 hgrow3 hg3
        have hm3:=(hboxes _ _ _ HB1.out).1.cell
        have hgn2 : ¬(w.heap.size=g3):=fun e=>(hboxes _ _ _ HB1.out).2 e.symm
        have hc3:=hbx3.cell
        have hf3:=hbx3.frozen
        have hgB2 : ¬(w.heap.size+1=g3):=fun e=>hgB e.symm
        have q0:=hown3.cellAt (k*4) (by omega)
        have q1:=hown3.cellAt (k*4+1) (by omega)
        have q2:=hown3.cellAt (k*4+2) (by omega)
        have q3:=hown3.cellAt (k*4+3) (by omega)
        rw [List.getElem?_append_right (by rw [Hxl.out];omega),Hxl.out] at q0 q1 q2 q3
        simp only [Nat.sub_self,Nat.add_sub_cancel_left,List.getElem?_cons_zero,List.getElem?_cons_succ] at q0 q1 q2 q3
        have z0:=hown3.frozenAt (k*4)
        have z1:=hown3.frozenAt (k*4+1)
        have z2:=hown3.frozenAt (k*4+2)
        have z3:=hown3.frozenAt (k*4+3)
        have Hst:Hid _:=hstep
        clear hown3 hgrow3 hg3 hstep hboxes
        refine hK _ _ ?_
        clear hK K
        refine wpAnyIn_ready (rs:=[5,7]) (by kernel_rfl) (by simp) ?_
        refine AllReadyIn.cons rfl (fun K hK=>?_) ?_
        ·go_simp
         refine hK _ _ ?_
         clear hK K
         refine wpAnyIn_ready (rs:=[6,7]) (by kernel_rfl) (by simp) ?_
         refine AllReadyIn.cons rfl (fun K hK=>?_) ?_
         ·go_simp
          refine hK _ _ ?_
          clear hK K
          refine wpAnyIn_ready (rs:=[7]) (by kernel_rfl) (by simp) ?_
          refine AllReadyIn.cons rfl (fun K hK=>?_) ?_
          ·go_simp
           refine hK _ _ ?_
           clear hK K
           refine wpAnyIn_done (by kernel_rfl) ?_ _
           gi_wp2
           obtain⟨k1,k2,k3,k4⟩:=Hst.out _ (Or.inl rfl)
           exact⟨k1.from _,k2,rfl,⟨⟨_,k3⟩,k4⟩,by rw [List.length_append,←Hk.out,←Hge.out];rfl,HP.out⟩
          exact AllReadyIn.nil
         refine AllReadyIn.cons rfl (fun K hK=>?_) ?_
         ·go_simp
          refine hK _ _ ?_
          clear hK K
          refine wpAnyIn_ready (rs:=[6]) (by kernel_rfl) (by simp) ?_
          refine AllReadyIn.cons rfl (fun K hK=>?_) ?_
          ·go_simp
           refine hK _ _ ?_
           clear hK K
           refine wpAnyIn_done (by kernel_rfl) ?_ _
           gi_wp2
           obtain⟨k1,k2,k3,k4⟩:=Hst.out _ (Or.inr rfl)
           exact⟨k1.from _,k2,rfl,⟨⟨_,k3⟩,k4⟩,by rw [List.length_append,←Hk.out,←Hge.out];rfl,HP.out⟩
          exact AllReadyIn.nil
         exact AllReadyIn.nil
        refine AllReadyIn.cons rfl (fun K hK=>?_) ?_
        ·go_simp
         refine hK _ _ ?_
         clear hK K
         refine wpAnyIn_ready (rs:=[5]) (by kernel_rfl) (by simp) ?_
         refine AllReadyIn.cons rfl (fun K hK=>?_) ?_
         ·go_simp
          refine hK _ _ ?_
          clear hK K
          refine wpAnyIn_ready (rs:=[6]) (by kernel_rfl) (by simp) ?_
          refine AllReadyIn.cons rfl (fun K hK=>?_) ?_
          ·go_simp
           refine hK _ _ ?_
           clear hK K
           refine wpAnyIn_done (by kernel_rfl) ?_ _
           gi_wp2
           obtain⟨k1,k2,k3,k4⟩:=Hst.out _ (Or.inr rfl)
           exact⟨k1.from _,k2,rfl,⟨⟨_,k3⟩,k4⟩,by rw [List.length_append,←Hk.out,←Hge.out];rfl,HP.out⟩
          exact AllReadyIn.nil
         exact AllReadyIn.nil
        exact AllReadyIn.nil
       exact AllReadyIn.nil
      exact AllReadyIn.nil
     exact AllReadyIn.nil
    exact AllReadyIn.nil
   exact AllReadyIn.nil
  ·have hgeI : ¬((M:Nat):Int)≤(k:Int)+1:=by omega
   have hgeN : ¬M≤k+1:=by omega
   have HgeN:Hid (¬M≤k+1):=hgeN
   clear hge hlM
   gi_wp2
   refine wpIn_region_any hmx ?_
   change wpAnyIn _ _ _ _ _ _ _ _ _ (World.drew _)
   refine wpAnyIn_ready (rs:=[0,1,3]) (by kernel_rfl) (by simp) ?_
   refine AllReadyIn.cons rfl (fun K hK=>?_) ?_
   ·go_simp
    refine hK _ _ ?_
    clear hK K
    refine wpAnyIn_ready (rs:=[1,2,3]) (by kernel_rfl) (by simp) ?_
    refine AllReadyIn.cons rfl (fun K hK=>?_) ?_
    ·go_simp
     refine hK _ _ ?_
     clear hK K
     refine wpAnyIn_ready (rs:=[2,3]) (by kernel_rfl) (by simp) ?_
     refine AllReadyIn.cons rfl (fun K hK=>?_) ?_
     ·go_simp
      refine hK _ _ ?_
      clear hK K
      refine wpAnyIn_ready (rs:=[3]) (by kernel_rfl) (by simp) ?_
      refine AllReadyIn.cons rfl (fun K hK=>?_) ?_
      ·go_simp
       refine hK _ _ ?_
       clear hK K
       refine wpAnyIn_ready (rs:=[4]) (by kernel_rfl) (by simp) ?_
       refine AllReadyIn.cons rfl (fun K hK=>?_) ?_
       ·refine appV_step rfl _ _ rfl w.heap.size (.slice av k cv) k (pre.flatMap (fun x=>encP x.p)) rfl HRow.out _ rfl (by simp) (by simp) (by simp) (by simp) hkq Hbs.out ?_
        intro g3 cap3 w3 hown3 hgrow3 hg3 hgl3
        obtain⟨hbx3,hboxes,hgB,hstep⟩:=HStep.out g3 cap3 w3 hown3 hgrow3 hg3
        have hm3:=(hboxes _ _ _ HB1.out).1.cell
        have hgn2 : ¬(w.heap.size=g3):=fun e=>(hboxes _ _ _ HB1.out).2 e.symm
        have hc3:=hbx3.cell
        have hf3:=hbx3.frozen
        have hgB2 : ¬(w.heap.size+1=g3):=fun e=>hgB e.symm
        have q0:=hown3.cellAt (k*4) (by omega)
        have q1:=hown3.cellAt (k*4+1) (by omega)
        have q2:=hown3.cellAt (k*4+2) (by omega)
        have q3:=hown3.cellAt (k*4+3) (by omega)
        rw [List.getElem?_append_right (by rw [Hxl.out];omega),Hxl.out] at q0 q1 q2 q3
        simp only [Nat.sub_self,Nat.add_sub_cancel_left,List.getElem?_cons_zero,List.getElem?_cons_succ] at q0 q1 q2 q3
        have z0:=hown3.frozenAt (k*4)
        have z1:=hown3.frozenAt (k*4+1)
        have z2:=hown3.frozenAt (k*4+2)
        have z3:=hown3.frozenAt (k*4+3)
        have Hst:Hid _:=hstep
        clear hown3 hgrow3 hg3 hstep hboxes
        refine hK _ _ ?_
        clear hK K
        refine wpAnyIn_ready (rs:=[5,7]) (by kernel_rfl) (by simp) ?_
        refine AllReadyIn.cons rfl (fun K hK=>?_) ?_
        ·go_simp
         refine hK _ _ ?_
         clear hK K
         refine wpAnyIn_ready (rs:=[6,7]) (by kernel_rfl) (by simp) ?_
         refine AllReadyIn.cons rfl (fun K hK=>?_) ?_
         ·go_simp
          refine hK _ _ ?_
          clear hK K
          refine wpAnyIn_ready (rs:=[7]) (by kernel_rfl) (by simp) ?_
          refine AllReadyIn.cons rfl (fun K hK=>?_) ?_
          ·go_simp
           refine hK _ _ ?_
           clear hK K
           refine wpAnyIn_done (by kernel_rfl) ?_ _
           gi_wp2
           obtain⟨k1,k2,k3,k4⟩:=Hst.out _ (Or.inl rfl)
           exact⟨k1.from _,k2,⟨⟨_,k3⟩,k4⟩,k2.2.1 _ _ _ (by decide) HB1.out,by rw [List.length_append,←Hk.out];have:=HgeN.out;simp;omega,HP.out⟩
          exact AllReadyIn.nil
         refine AllReadyIn.cons rfl (fun K hK=>?_) ?_
         ·go_simp
          refine hK _ _ ?_
          clear hK K
          refine wpAnyIn_ready (rs:=[6]) (by kernel_rfl) (by simp) ?_
          refine AllReadyIn.cons rfl (fun K hK=>?_) ?_
          ·go_simp
           refine hK _ _ ?_
           clear hK K
           refine wpAnyIn_done (by kernel_rfl) ?_ _
           gi_wp2
           obtain⟨k1,k2,k3,k4⟩:=Hst.out _ (Or.inr rfl)
           exact⟨k1.from _,k2,⟨⟨_,k3⟩,k4⟩,k2.2.1 _ _ _ (by decide) HB1.out,by rw [List.length_append,←Hk.out];have:=HgeN.out;simp;omega,HP.out⟩
          exact AllReadyIn.nil
         exact AllReadyIn.nil
        refine AllReadyIn.cons rfl (fun K hK=>?_) ?_
        ·go_simp
         refine hK _ _ ?_
         clear hK K
         refine wpAnyIn_ready (rs:=[5]) (by kernel_rfl) (by simp) ?_
         refine AllReadyIn.cons rfl (fun K hK=>?_) ?_
         ·go_simp
          refine hK _ _ ?_
          clear hK K
          refine wpAnyIn_ready (rs:=[6]) (by kernel_rfl) (by simp) ?_
          refine AllReadyIn.cons rfl (fun K hK=>?_) ?_
          ·go_simp
           refine hK _ _ ?_
           clear hK K
           refine wpAnyIn_done (by kernel_rfl) ?_ _
           gi_wp2
           obtain⟨k1,k2,k3,k4⟩:=Hst.out _ (Or.inr rfl)
           exact⟨k1.from _,k2,⟨⟨_,k3⟩,k4⟩,k2.2.1 _ _ _ (by decide) HB1.out,by rw [List.length_append,←Hk.out];have:=HgeN.out;simp;omega,HP.out⟩
          exact AllReadyIn.nil
         exact AllReadyIn.nil
        exact AllReadyIn.nil
       exact AllReadyIn.nil
      exact AllReadyIn.nil
     refine AllReadyIn.cons rfl (fun K hK=>?_) ?_
     ·go_simp
      refine hK _ _ ?_
      clear hK K
      refine wpAnyIn_ready (rs:=[2]) (by kernel_rfl) (by simp) ?_
      refine AllReadyIn.cons rfl (fun K hK=>?_) ?_
      ·go_simp
       refine hK _ _ ?_
       clear hK K
       refine wpAnyIn_ready (rs:=[4]) (by kernel_rfl) (by simp) ?_
       refine AllReadyIn.cons rfl (fun K hK=>?_) ?_
       ·refine appV_step rfl _ _ rfl w.heap.size (.slice av k cv) k (pre.flatMap (fun x=>encP x.p)) rfl HRow.out _ rfl (by simp) (by simp) (by simp) (by simp) hkq Hbs.out ?_
        intro g3 cap3 w3 hown3 hgrow3 hg3 hgl3
        obtain⟨hbx3,hboxes,hgB,hstep⟩:=HStep.out g3 cap3 w3 hown3 hgrow3 hg3
        have hm3:=(hboxes _ _ _ HB1.out).1.cell
        have hgn2 : ¬(w.heap.size=g3):=fun e=>(hboxes _ _ _ HB1.out).2 e.symm
        have hc3:=hbx3.cell
        have hf3:=hbx3.frozen
        have hgB2 : ¬(w.heap.size+1=g3):=fun e=>hgB e.symm
        have q0:=hown3.cellAt (k*4) (by omega)
        have q1:=hown3.cellAt (k*4+1) (by omega)
        have q2:=hown3.cellAt (k*4+2) (by omega)
        have q3:=hown3.cellAt (k*4+3) (by omega)
        rw [List.getElem?_append_right (by rw [Hxl.out];omega),Hxl.out] at q0 q1 q2 q3
        simp only [Nat.sub_self,Nat.add_sub_cancel_left,List.getElem?_cons_zero,List.getElem?_cons_succ] at q0 q1 q2 q3
        have z0:=hown3.frozenAt (k*4)
        have z1:=hown3.frozenAt (k*4+1)
        have z2:=hown3.frozenAt (k*4+2)
        have z3:=hown3.frozenAt (k*4+3)
        have Hst:Hid _:=hstep
        clear hown3 hgrow3 hg3 hstep hboxes
        refine hK _ _ ?_
        clear hK K
        refine wpAnyIn_ready (rs:=[5,7]) (by kernel_rfl) (by simp) ?_
        refine AllReadyIn.cons rfl (fun K hK=>?_) ?_
        ·go_simp
         refine hK _ _ ?_
         clear hK K
         refine wpAnyIn_ready (rs:=[6,7]) (by kernel_rfl) (by simp) ?_
         refine AllReadyIn.cons rfl (fun K hK=>?_) ?_
         ·go_simp
          refine hK _ _ ?_
          clear hK K
          refine wpAnyIn_ready (rs:=[7]) (by kernel_rfl) (by simp) ?_
          refine AllReadyIn.cons rfl (fun K hK=>?_) ?_
          ·go_simp
           refine hK _ _ ?_
           clear hK K
           refine wpAnyIn_done (by kernel_rfl) ?_ _
           gi_wp2
           obtain⟨k1,k2,k3,k4⟩:=Hst.out _ (Or.inl rfl)
           exact⟨k1.from _,k2,⟨⟨_,k3⟩,k4⟩,k2.2.1 _ _ _ (by decide) HB1.out,by rw [List.length_append,←Hk.out];have:=HgeN.out;simp;omega,HP.out⟩
          exact AllReadyIn.nil
         refine AllReadyIn.cons rfl (fun K hK=>?_) ?_
         ·go_simp
          refine hK _ _ ?_
          clear hK K
          refine wpAnyIn_ready (rs:=[6]) (by kernel_rfl) (by simp) ?_
          refine AllReadyIn.cons rfl (fun K hK=>?_) ?_
          ·go_simp
           refine hK _ _ ?_
           clear hK K
           refine wpAnyIn_done (by kernel_rfl) ?_ _
           gi_wp2
           obtain⟨k1,k2,k3,k4⟩:=Hst.out _ (Or.inr rfl)
           exact⟨k1.from _,k2,⟨⟨_,k3⟩,k4⟩,k2.2.1 _ _ _ (by decide) HB1.out,by rw [List.length_append,←Hk.out];have:=HgeN.out;simp;omega,HP.out⟩
          exact AllReadyIn.nil
         exact AllReadyIn.nil
        refine AllReadyIn.cons rfl (fun K hK=>?_) ?_
        ·go_simp
         refine hK _ _ ?_
         clear hK K
         refine wpAnyIn_ready (rs:=[5]) (by kernel_rfl) (by simp) ?_
         refine AllReadyIn.cons rfl (fun K hK=>?_) ?_
         ·go_simp
          refine hK _ _ ?_
          clear hK K
          refine wpAnyIn_ready (rs:=[6]) (by kernel_rfl) (by simp) ?_
          refine AllReadyIn.cons rfl (fun K hK=>?_) ?_
          ·go_simp
           refine hK _ _ ?_
           clear hK K
           refine wpAnyIn_done (by kernel_rfl) ?_ _
           gi_wp2
           obtain⟨k1,k2,k3,k4⟩:=Hst.out _ (Or.inr rfl)
           exact⟨k1.from _,k2,⟨⟨_,k3⟩,k4⟩,k2.2.1 _ _ _ (by decide) HB1.out,by rw [List.length_append,←Hk.out];have:=HgeN.out;simp;omega,HP.out⟩
          exact AllReadyIn.nil
         exact AllReadyIn.nil
        exact AllReadyIn.nil
       exact AllReadyIn.nil
      exact AllReadyIn.nil
     exact AllReadyIn.nil
    refine AllReadyIn.cons rfl (fun K hK=>?_) ?_
    ·go_simp
     refine hK _ _ ?_
     clear hK K
     refine wpAnyIn_ready (rs:=[1,3]) (by kernel_rfl) (by simp) ?_
     refine AllReadyIn.cons rfl (fun K hK=>?_) ?_
     ·go_simp
      refine hK _ _ ?_
      clear hK K
      refine wpAnyIn_ready (rs:=[3]) (by kernel_rfl) (by simp) ?_
      refine AllReadyIn.cons rfl (fun K hK=>?_) ?_
      ·go_simp
       refine hK _ _ ?_
       clear hK K
       refine wpAnyIn_ready (rs:=[4]) (by kernel_rfl) (by simp) ?_
       refine AllReadyIn.cons rfl (fun K hK=>?_) ?_
       ·refine appV_step rfl _ _ rfl w.heap.size (.slice av k cv) k (pre.flatMap (fun x=>encP x.p)) rfl HRow.out _ rfl (by simp) (by simp) (by simp) (by simp) hkq Hbs.out ?_
        intro g3 cap3 w3 hown3 hgrow3 hg3 hgl3
        obtain⟨hbx3,hboxes,hgB,hstep⟩:=HStep.out g3 cap3 w3 hown3 hgrow3 hg3
        have hm3:=(hboxes _ _ _ HB1.out).1.cell
        have hgn2 : ¬(w.heap.size=g3):=fun e=>(hboxes _ _ _ HB1.out).2 e.symm
        have hc3:=hbx3.cell
        have hf3:=hbx3.frozen
        have hgB2 : ¬(w.heap.size+1=g3):=fun e=>hgB e.symm
        have q0:=hown3.cellAt (k*4) (by omega)
        have q1:=hown3.cellAt (k*4+1) (by omega)
        have q2:=hown3.cellAt (k*4+2) (by omega)
        have q3:=hown3.cellAt (k*4+3) (by omega)
        rw [List.getElem?_append_right (by rw [Hxl.out];omega),Hxl.out] at q0 q1 q2 q3
        simp only [Nat.sub_self,Nat.add_sub_cancel_left,List.getElem?_cons_zero,List.getElem?_cons_succ] at q0 q1 q2 q3
        have z0:=hown3.frozenAt (k*4)
        have z1:=hown3.frozenAt (k*4+1)
        have z2:=hown3.frozenAt (k*4+2)
        have z3:=hown3.frozenAt (k*4+3)
        have Hst:Hid _:=hstep
        clear hown3 hgrow3 hg3 hstep hboxes
        refine hK _ _ ?_
        clear hK K
        refine wpAnyIn_ready (rs:=[5,7]) (by kernel_rfl) (by simp) ?_
        refine AllReadyIn.cons rfl (fun K hK=>?_) ?_
        ·go_simp
         refine hK _ _ ?_
         clear hK K
         refine wpAnyIn_ready (rs:=[6,7]) (by kernel_rfl) (by simp) ?_
         refine AllReadyIn.cons rfl (fun K hK=>?_) ?_
         ·go_simp
          refine hK _ _ ?_
          clear hK K
          refine wpAnyIn_ready (rs:=[7]) (by kernel_rfl) (by simp) ?_
          refine AllReadyIn.cons rfl (fun K hK=>?_) ?_
          ·go_simp
           refine hK _ _ ?_
           clear hK K
           refine wpAnyIn_done (by kernel_rfl) ?_ _
           gi_wp2
           obtain⟨k1,k2,k3,k4⟩:=Hst.out _ (Or.inl rfl)
           exact⟨k1.from _,k2,⟨⟨_,k3⟩,k4⟩,k2.2.1 _ _ _ (by decide) HB1.out,by rw [List.length_append,←Hk.out];have:=HgeN.out;simp;omega,HP.out⟩
          exact AllReadyIn.nil
         refine AllReadyIn.cons rfl (fun K hK=>?_) ?_
         ·go_simp
          refine hK _ _ ?_
          clear hK K
          refine wpAnyIn_ready (rs:=[6]) (by kernel_rfl) (by simp) ?_
          refine AllReadyIn.cons rfl (fun K hK=>?_) ?_
          ·go_simp
           refine hK _ _ ?_
           clear hK K
           refine wpAnyIn_done (by kernel_rfl) ?_ _
           gi_wp2
           obtain⟨k1,k2,k3,k4⟩:=Hst.out _ (Or.inr rfl)
           exact⟨k1.from _,k2,⟨⟨_,k3⟩,k4⟩,k2.2.1 _ _ _ (by decide) HB1.out,by rw [List.length_append,←Hk.out];have:=HgeN.out;simp;omega,HP.out⟩
          exact AllReadyIn.nil
         exact AllReadyIn.nil
        refine AllReadyIn.cons rfl (fun K hK=>?_) ?_
        ·go_simp
         refine hK _ _ ?_
         clear hK K
         refine wpAnyIn_ready (rs:=[5]) (by kernel_rfl) (by simp) ?_
         refine AllReadyIn.cons rfl (fun K hK=>?_) ?_
         ·go_simp
          refine hK _ _ ?_
          clear hK K
          refine wpAnyIn_ready (rs:=[6]) (by kernel_rfl) (by simp) ?_
          refine AllReadyIn.cons rfl (fun K hK=>?_) ?_
          ·go_simp
           refine hK _ _ ?_
           clear hK K
           refine wpAnyIn_done (by kernel_rfl) ?_ _
           gi_wp2
           obtain⟨k1,k2,k3,k4⟩:=Hst.out _ (Or.inr rfl)
           exact⟨k1.from _,k2,⟨⟨_,k3⟩,k4⟩,k2.2.1 _ _ _ (by decide) HB1.out,by rw [List.length_append,←Hk.out];have:=HgeN.out;simp;omega,HP.out⟩
          exact AllReadyIn.nil
         exact AllReadyIn.nil
        exact AllReadyIn.nil
       exact AllReadyIn.nil
      exact AllReadyIn.nil
     refine AllReadyIn.cons rfl (fun K hK=>?_) ?_
     ·go_simp
      refine hK _ _ ?_
      clear hK K
      refine wpAnyIn_ready (rs:=[1]) (by kernel_rfl) (by simp) ?_
      refine AllReadyIn.cons rfl (fun K hK=>?_) ?_
      ·go_simp
       refine hK _ _ ?_
       clear hK K
       refine wpAnyIn_ready (rs:=[4]) (by kernel_rfl) (by simp) ?_
       refine AllReadyIn.cons rfl (fun K hK=>?_) ?_
       ·refine appV_step rfl _ _ rfl w.heap.size (.slice av k cv) k (pre.flatMap (fun x=>encP x.p)) rfl HRow.out _ rfl (by simp) (by simp) (by simp) (by simp) hkq Hbs.out ?_
        intro g3 cap3 w3 hown3 hgrow3 hg3 hgl3
        obtain⟨hbx3,hboxes,hgB,hstep⟩:=HStep.out g3 cap3 w3 hown3 hgrow3 hg3
        have hm3:=(hboxes _ _ _ HB1.out).1.cell
        have hgn2 : ¬(w.heap.size=g3):=fun e=>(hboxes _ _ _ HB1.out).2 e.symm
        have hc3:=hbx3.cell
        have hf3:=hbx3.frozen
        have hgB2 : ¬(w.heap.size+1=g3):=fun e=>hgB e.symm
        have q0:=hown3.cellAt (k*4) (by omega)
        have q1:=hown3.cellAt (k*4+1) (by omega)
        have q2:=hown3.cellAt (k*4+2) (by omega)
        have q3:=hown3.cellAt (k*4+3) (by omega)
        rw [List.getElem?_append_right (by rw [Hxl.out];omega),Hxl.out] at q0 q1 q2 q3
        simp only [Nat.sub_self,Nat.add_sub_cancel_left,List.getElem?_cons_zero,List.getElem?_cons_succ] at q0 q1 q2 q3
        have z0:=hown3.frozenAt (k*4)
        have z1:=hown3.frozenAt (k*4+1)
        have z2:=hown3.frozenAt (k*4+2)
        have z3:=hown3.frozenAt (k*4+3)
        have Hst:Hid _:=hstep
        clear hown3 hgrow3 hg3 hstep hboxes
        refine hK _ _ ?_
        clear hK K
        refine wpAnyIn_ready (rs:=[5,7]) (by kernel_rfl) (by simp) ?_
        refine AllReadyIn.cons rfl (fun K hK=>?_) ?_
        ·go_simp
         refine hK _ _ ?_
         clear hK K
         refine wpAnyIn_ready (rs:=[6,7]) (by kernel_rfl) (by simp) ?_
         refine AllReadyIn.cons rfl (fun K hK=>?_) ?_
         ·go_simp
          refine hK _ _ ?_
          clear hK K
          refine wpAnyIn_ready (rs:=[7]) (by kernel_rfl) (by simp) ?_
          refine AllReadyIn.cons rfl (fun K hK=>?_) ?_
          ·go_simp
           refine hK _ _ ?_
           clear hK K
           refine wpAnyIn_done (by kernel_rfl) ?_ _
           gi_wp2
           obtain⟨k1,k2,k3,k4⟩:=Hst.out _ (Or.inl rfl)
           exact⟨k1.from _,k2,⟨⟨_,k3⟩,k4⟩,k2.2.1 _ _ _ (by decide) HB1.out,by rw [List.length_append,←Hk.out];have:=HgeN.out;simp;omega,HP.out⟩
          exact AllReadyIn.nil
         refine AllReadyIn.cons rfl (fun K hK=>?_) ?_
         ·go_simp
          refine hK _ _ ?_
          clear hK K
          refine wpAnyIn_ready (rs:=[6]) (by kernel_rfl) (by simp) ?_
          refine AllReadyIn.cons rfl (fun K hK=>?_) ?_
          ·go_simp
           refine hK _ _ ?_
           clear hK K
           refine wpAnyIn_done (by kernel_rfl) ?_ _
           gi_wp2
           obtain⟨k1,k2,k3,k4⟩:=Hst.out _ (Or.inr rfl)
           exact⟨k1.from _,k2,⟨⟨_,k3⟩,k4⟩,k2.2.1 _ _ _ (by decide) HB1.out,by rw [List.length_append,←Hk.out];have:=HgeN.out;simp;omega,HP.out⟩
          exact AllReadyIn.nil
         exact AllReadyIn.nil
        refine AllReadyIn.cons rfl (fun K hK=>?_) ?_
        ·go_simp
         refine hK _ _ ?_
         clear hK K
         refine wpAnyIn_ready (rs:=[5]) (by kernel_rfl) (by simp) ?_
         refine AllReadyIn.cons rfl (fun K hK=>?_) ?_
         ·go_simp
          refine hK _ _ ?_
          clear hK K
          refine wpAnyIn_ready (rs:=[6]) (by kernel_rfl) (by simp) ?_
          refine AllReadyIn.cons rfl (fun K hK=>?_) ?_
          ·go_simp
           refine hK _ _ ?_
           clear hK K
           refine wpAnyIn_done (by kernel_rfl) ?_ _
           gi_wp2
           obtain⟨k1,k2,k3,k4⟩:=Hst.out _ (Or.inr rfl)
           exact⟨k1.from _,k2,⟨⟨_,k3⟩,k4⟩,k2.2.1 _ _ _ (by decide) HB1.out,by rw [List.length_append,←Hk.out];have:=HgeN.out;simp;omega,HP.out⟩
          exact AllReadyIn.nil
         exact AllReadyIn.nil
        exact AllReadyIn.nil
       exact AllReadyIn.nil
      exact AllReadyIn.nil
     exact AllReadyIn.nil
    refine AllReadyIn.cons rfl (fun K hK=>?_) ?_
    ·go_simp
     refine hK _ _ ?_
     clear hK K
     refine wpAnyIn_ready (rs:=[1,2]) (by kernel_rfl) (by simp) ?_
     refine AllReadyIn.cons rfl (fun K hK=>?_) ?_
     ·go_simp
      refine hK _ _ ?_
      clear hK K
      refine wpAnyIn_ready (rs:=[2]) (by kernel_rfl) (by simp) ?_
      refine AllReadyIn.cons rfl (fun K hK=>?_) ?_
      ·go_simp
       refine hK _ _ ?_
       clear hK K
       refine wpAnyIn_ready (rs:=[4]) (by kernel_rfl) (by simp) ?_
       refine AllReadyIn.cons rfl (fun K hK=>?_) ?_
       ·refine appV_step rfl _ _ rfl w.heap.size (.slice av k cv) k (pre.flatMap (fun x=>encP x.p)) rfl HRow.out _ rfl (by simp) (by simp) (by simp) (by simp) hkq Hbs.out ?_
        intro g3 cap3 w3 hown3 hgrow3 hg3 hgl3
        obtain⟨hbx3,hboxes,hgB,hstep⟩:=HStep.out g3 cap3 w3 hown3 hgrow3 hg3
        have hm3:=(hboxes _ _ _ HB1.out).1.cell
        have hgn2 : ¬(w.heap.size=g3):=fun e=>(hboxes _ _ _ HB1.out).2 e.symm
        have hc3:=hbx3.cell
        have hf3:=hbx3.frozen
        have hgB2 : ¬(w.heap.size+1=g3):=fun e=>hgB e.symm
        have q0:=hown3.cellAt (k*4) (by omega)
        have q1:=hown3.cellAt (k*4+1) (by omega)
        have q2:=hown3.cellAt (k*4+2) (by omega)
        have q3:=hown3.cellAt (k*4+3) (by omega)
        rw [List.getElem?_append_right (by rw [Hxl.out];omega),Hxl.out] at q0 q1 q2 q3
        simp only [Nat.sub_self,Nat.add_sub_cancel_left,List.getElem?_cons_zero,List.getElem?_cons_succ] at q0 q1 q2 q3
        have z0:=hown3.frozenAt (k*4)
        have z1:=hown3.frozenAt (k*4+1)
        have z2:=hown3.frozenAt (k*4+2)
        have z3:=hown3.frozenAt (k*4+3)
        have Hst:Hid _:=hstep
        clear hown3 hgrow3 hg3 hstep hboxes
        refine hK _ _ ?_
        clear hK K
        refine wpAnyIn_ready (rs:=[5,7]) (by kernel_rfl) (by simp) ?_
        refine AllReadyIn.cons rfl (fun K hK=>?_) ?_
        ·go_simp
         refine hK _ _ ?_
         clear hK K
         refine wpAnyIn_ready (rs:=[6,7]) (by kernel_rfl) (by simp) ?_
         refine AllReadyIn.cons rfl (fun K hK=>?_) ?_
         ·go_simp
          refine hK _ _ ?_
          clear hK K
          refine wpAnyIn_ready (rs:=[7]) (by kernel_rfl) (by simp) ?_
          refine AllReadyIn.cons rfl (fun K hK=>?_) ?_
          ·go_simp
           refine hK _ _ ?_
           clear hK K
           refine wpAnyIn_done (by kernel_rfl) ?_ _
           gi_wp2
           obtain⟨k1,k2,k3,k4⟩:=Hst.out _ (Or.inl rfl)
           exact⟨k1.from _,k2,⟨⟨_,k3⟩,k4⟩,k2.2.1 _ _ _ (by decide) HB1.out,by rw [List.length_append,←Hk.out];have:=HgeN.out;simp;omega,HP.out⟩
          exact AllReadyIn.nil
         refine AllReadyIn.cons rfl (fun K hK=>?_) ?_
         ·go_simp
          refine hK _ _ ?_
          clear hK K
          refine wpAnyIn_ready (rs:=[6]) (by kernel_rfl) (by simp) ?_
          refine AllReadyIn.cons rfl (fun K hK=>?_) ?_
          ·go_simp
           refine hK _ _ ?_
           clear hK K
           refine wpAnyIn_done (by kernel_rfl) ?_ _
           gi_wp2
           obtain⟨k1,k2,k3,k4⟩:=Hst.out _ (Or.inr rfl)
           exact⟨k1.from _,k2,⟨⟨_,k3⟩,k4⟩,k2.2.1 _ _ _ (by decide) HB1.out,by rw [List.length_append,←Hk.out];have:=HgeN.out;simp;omega,HP.out⟩
          exact AllReadyIn.nil
         exact AllReadyIn.nil
        refine AllReadyIn.cons rfl (fun K hK=>?_) ?_
        ·go_simp
         refine hK _ _ ?_
         clear hK K
         refine wpAnyIn_ready (rs:=[5]) (by kernel_rfl) (by simp) ?_
         refine AllReadyIn.cons rfl (fun K hK=>?_) ?_
         ·go_simp
          refine hK _ _ ?_
          clear hK K
          refine wpAnyIn_ready (rs:=[6]) (by kernel_rfl) (by simp) ?_
          refine AllReadyIn.cons rfl (fun K hK=>?_) ?_
          ·go_simp
           refine hK _ _ ?_
           clear hK K
           refine wpAnyIn_done (by kernel_rfl) ?_ _
           gi_wp2
           obtain⟨k1,k2,k3,k4⟩:=Hst.out _ (Or.inr rfl)
           exact⟨k1.from _,k2,⟨⟨_,k3⟩,k4⟩,k2.2.1 _ _ _ (by decide) HB1.out,by rw [List.length_append,←Hk.out];have:=HgeN.out;simp;omega,HP.out⟩
          exact AllReadyIn.nil
         exact AllReadyIn.nil
        exact AllReadyIn.nil
       exact AllReadyIn.nil
      exact AllReadyIn.nil
     refine AllReadyIn.cons rfl (fun K hK=>?_) ?_
     ·go_simp
      refine hK _ _ ?_
      clear hK K
      refine wpAnyIn_ready (rs:=[1]) (by kernel_rfl) (by simp) ?_
      refine AllReadyIn.cons rfl (fun K hK=>?_) ?_
      ·go_simp
       refine hK _ _ ?_
       clear hK K
       refine wpAnyIn_ready (rs:=[4]) (by kernel_rfl) (by simp) ?_
       refine AllReadyIn.cons rfl (fun K hK=>?_) ?_
       ·refine appV_step rfl _ _ rfl w.heap.size (.slice av k cv) k (pre.flatMap (fun x=>encP x.p)) rfl HRow.out _ rfl (by simp) (by simp) (by simp) (by simp) hkq Hbs.out ?_
        intro g3 cap3 w3 hown3 hgrow3 hg3 hgl3
        obtain⟨hbx3,hboxes,hgB,hstep⟩:=HStep.out g3 cap3 w3 hown3 hgrow3 hg3
        have hm3:=(hboxes _ _ _ HB1.out).1.cell
        have hgn2 : ¬(w.heap.size=g3):=fun e=>(hboxes _ _ _ HB1.out).2 e.symm
        have hc3:=hbx3.cell
        have hf3:=hbx3.frozen
        have hgB2 : ¬(w.heap.size+1=g3):=fun e=>hgB e.symm
        have q0:=hown3.cellAt (k*4) (by omega)
        have q1:=hown3.cellAt (k*4+1) (by omega)
        have q2:=hown3.cellAt (k*4+2) (by omega)
        have q3:=hown3.cellAt (k*4+3) (by omega)
        rw [List.getElem?_append_right (by rw [Hxl.out];omega),Hxl.out] at q0 q1 q2 q3
        simp only [Nat.sub_self,Nat.add_sub_cancel_left,List.getElem?_cons_zero,List.getElem?_cons_succ] at q0 q1 q2 q3
        have z0:=hown3.frozenAt (k*4)
        have z1:=hown3.frozenAt (k*4+1)
        have z2:=hown3.frozenAt (k*4+2)
        have z3:=hown3.frozenAt (k*4+3)
        have Hst:Hid _:=hstep
        clear hown3 hgrow3 hg3 hstep hboxes
        refine hK _ _ ?_
        clear hK K
        refine wpAnyIn_ready (rs:=[5,7]) (by kernel_rfl) (by simp) ?_
        refine AllReadyIn.cons rfl (fun K hK=>?_) ?_
        ·go_simp
         refine hK _ _ ?_
         clear hK K
         refine wpAnyIn_ready (rs:=[6,7]) (by kernel_rfl) (by simp) ?_
         refine AllReadyIn.cons rfl (fun K hK=>?_) ?_
         ·go_simp
          refine hK _ _ ?_
          clear hK K
          refine wpAnyIn_ready (rs:=[7]) (by kernel_rfl) (by simp) ?_
          refine AllReadyIn.cons rfl (fun K hK=>?_) ?_
          ·go_simp
           refine hK _ _ ?_
           clear hK K
           refine wpAnyIn_done (by kernel_rfl) ?_ _
           gi_wp2
           obtain⟨k1,k2,k3,k4⟩:=Hst.out _ (Or.inl rfl)
           exact⟨k1.from _,k2,⟨⟨_,k3⟩,k4⟩,k2.2.1 _ _ _ (by decide) HB1.out,by rw [List.length_append,←Hk.out];have:=HgeN.out;simp;omega,HP.out⟩
          exact AllReadyIn.nil
         refine AllReadyIn.cons rfl (fun K hK=>?_) ?_
         ·go_simp
          refine hK _ _ ?_
          clear hK K
          refine wpAnyIn_ready (rs:=[6]) (by kernel_rfl) (by simp) ?_
          refine AllReadyIn.cons rfl (fun K hK=>?_) ?_
          ·go_simp
           refine hK _ _ ?_
           clear hK K
           refine wpAnyIn_done (by kernel_rfl) ?_ _
           gi_wp2
           obtain⟨k1,k2,k3,k4⟩:=Hst.out _ (Or.inr rfl)
           exact⟨k1.from _,k2,⟨⟨_,k3⟩,k4⟩,k2.2.1 _ _ _ (by decide) HB1.out,by rw [List.length_append,←Hk.out];have:=HgeN.out;simp;omega,HP.out⟩
          exact AllReadyIn.nil
         exact AllReadyIn.nil
        refine AllReadyIn.cons rfl (fun K hK=>?_) ?_
        ·go_simp
         refine hK _ _ ?_
         clear hK K
         refine wpAnyIn_ready (rs:=[5]) (by kernel_rfl) (by simp) ?_
         refine AllReadyIn.cons rfl (fun K hK=>?_) ?_
         ·go_simp
          refine hK _ _ ?_
          clear hK K
          refine wpAnyIn_ready (rs:=[6]) (by kernel_rfl) (by simp) ?_
          refine AllReadyIn.cons rfl (fun K hK=>?_) ?_
          ·go_simp
           refine hK _ _ ?_
           clear hK K
           refine wpAnyIn_done (by kernel_rfl) ?_ _
           gi_wp2
           obtain⟨k1,k2,k3,k4⟩:=Hst.out _ (Or.inr rfl)
           exact⟨k1.from _,k2,⟨⟨_,k3⟩,k4⟩,k2.2.1 _ _ _ (by decide) HB1.out,by rw [List.length_append,←Hk.out];have:=HgeN.out;simp;omega,HP.out⟩
          exact AllReadyIn.nil
         exact AllReadyIn.nil
        exact AllReadyIn.nil
       exact AllReadyIn.nil
      exact AllReadyIn.nil
     exact AllReadyIn.nil
    exact AllReadyIn.nil
   refine AllReadyIn.cons rfl (fun K hK=>?_) ?_
   ·go_simp
    refine hK _ _ ?_
    clear hK K
    refine wpAnyIn_ready (rs:=[0,3]) (by kernel_rfl) (by simp) ?_
    refine AllReadyIn.cons rfl (fun K hK=>?_) ?_
    ·go_simp
     refine hK _ _ ?_
     clear hK K
     refine wpAnyIn_ready (rs:=[2,3]) (by kernel_rfl) (by simp) ?_
     refine AllReadyIn.cons rfl (fun K hK=>?_) ?_
     ·go_simp
      refine hK _ _ ?_
      clear hK K
      refine wpAnyIn_ready (rs:=[3]) (by kernel_rfl) (by simp) ?_
      refine AllReadyIn.cons rfl (fun K hK=>?_) ?_
      ·go_simp
       refine hK _ _ ?_
       clear hK K
       refine wpAnyIn_ready (rs:=[4]) (by kernel_rfl) (by simp) ?_
       refine AllReadyIn.cons rfl (fun K hK=>?_) ?_
       ·refine appV_step rfl _ _ rfl w.heap.size (.slice av k cv) k (pre.flatMap (fun x=>encP x.p)) rfl HRow.out _ rfl (by simp) (by simp) (by simp) (by simp) hkq Hbs.out ?_
        intro g3 cap3 w3 hown3 hgrow3 hg3 hgl3
        obtain⟨hbx3,hboxes,hgB,hstep⟩:=HStep.out g3 cap3 w3 hown3 hgrow3 hg3
        have hm3:=(hboxes _ _ _ HB1.out).1.cell
        have hgn2 : ¬(w.heap.size=g3):=fun e=>(hboxes _ _ _ HB1.out).2 e.symm
        have hc3:=hbx3.cell
        have hf3:=hbx3.frozen
        have hgB2 : ¬(w.heap.size+1=g3):=fun e=>hgB e.symm
        have q0:=hown3.cellAt (k*4) (by omega)
        have q1:=hown3.cellAt (k*4+1) (by omega)
        have q2:=hown3.cellAt (k*4+2) (by omega)
        have q3:=hown3.cellAt (k*4+3) (by omega)
        rw [List.getElem?_append_right (by rw [Hxl.out];omega),Hxl.out] at q0 q1 q2 q3
        simp only [Nat.sub_self,Nat.add_sub_cancel_left,List.getElem?_cons_zero,List.getElem?_cons_succ] at q0 q1 q2 q3
        have z0:=hown3.frozenAt (k*4)
        have z1:=hown3.frozenAt (k*4+1)
        have z2:=hown3.frozenAt (k*4+2)
        have z3:=hown3.frozenAt (k*4+3)
        have Hst:Hid _:=hstep
        clear hown3 hgrow3 hg3 hstep hboxes
        refine hK _ _ ?_
        clear hK K
        refine wpAnyIn_ready (rs:=[5,7]) (by kernel_rfl) (by simp) ?_
        refine AllReadyIn.cons rfl (fun K hK=>?_) ?_
        ·go_simp
         refine hK _ _ ?_
         clear hK K
         refine wpAnyIn_ready (rs:=[6,7]) (by kernel_rfl) (by simp) ?_
         refine AllReadyIn.cons rfl (fun K hK=>?_) ?_
         ·go_simp
          refine hK _ _ ?_
          clear hK K
          refine wpAnyIn_ready (rs:=[7]) (by kernel_rfl) (by simp) ?_
          refine AllReadyIn.cons rfl (fun K hK=>?_) ?_
          ·go_simp
           refine hK _ _ ?_
           clear hK K
           refine wpAnyIn_done (by kernel_rfl) ?_ _
           gi_wp2
           obtain⟨k1,k2,k3,k4⟩:=Hst.out _ (Or.inl rfl)
           exact⟨k1.from _,k2,⟨⟨_,k3⟩,k4⟩,k2.2.1 _ _ _ (by decide) HB1.out,by rw [List.length_append,←Hk.out];have:=HgeN.out;simp;omega,HP.out⟩
          exact AllReadyIn.nil
         refine AllReadyIn.cons rfl (fun K hK=>?_) ?_
         ·go_simp
          refine hK _ _ ?_
          clear hK K
          refine wpAnyIn_ready (rs:=[6]) (by kernel_rfl) (by simp) ?_
          refine AllReadyIn.cons rfl (fun K hK=>?_) ?_
          ·go_simp
           refine hK _ _ ?_
           clear hK K
           refine wpAnyIn_done (by kernel_rfl) ?_ _
           gi_wp2
           obtain⟨k1,k2,k3,k4⟩:=Hst.out _ (Or.inr rfl)
           exact⟨k1.from _,k2,⟨⟨_,k3⟩,k4⟩,k2.2.1 _ _ _ (by decide) HB1.out,by rw [List.length_append,←Hk.out];have:=HgeN.out;simp;omega,HP.out⟩
          exact AllReadyIn.nil
         exact AllReadyIn.nil
        refine AllReadyIn.cons rfl (fun K hK=>?_) ?_
        ·go_simp
         refine hK _ _ ?_
         clear hK K
         refine wpAnyIn_ready (rs:=[5]) (by kernel_rfl) (by simp) ?_
         refine AllReadyIn.cons rfl (fun K hK=>?_) ?_
         ·go_simp
          refine hK _ _ ?_
          clear hK K
          refine wpAnyIn_ready (rs:=[6]) (by kernel_rfl) (by simp) ?_
          refine AllReadyIn.cons rfl (fun K hK=>?_) ?_
          ·go_simp
           refine hK _ _ ?_
           clear hK K
           refine wpAnyIn_done (by kernel_rfl) ?_ _
           gi_wp2
           obtain⟨k1,k2,k3,k4⟩:=Hst.out _ (Or.inr rfl)
           exact⟨k1.from _,k2,⟨⟨_,k3⟩,k4⟩,k2.2.1 _ _ _ (by decide) HB1.out,by rw [List.length_append,←Hk.out];have:=HgeN.out;simp;omega,HP.out⟩
          exact AllReadyIn.nil
         exact AllReadyIn.nil
        exact AllReadyIn.nil
       exact AllReadyIn.nil
      exact AllReadyIn.nil
     refine AllReadyIn.cons rfl (fun K hK=>?_) ?_
     ·go_simp
      refine hK _ _ ?_
      clear hK K
      refine wpAnyIn_ready (rs:=[2]) (by kernel_rfl) (by simp) ?_
      refine AllReadyIn.cons rfl (fun K hK=>?_) ?_
      ·go_simp
       refine hK _ _ ?_
       clear hK K
       refine wpAnyIn_ready (rs:=[4]) (by kernel_rfl) (by simp) ?_
       refine AllReadyIn.cons rfl (fun K hK=>?_) ?_
       ·refine appV_step rfl _ _ rfl w.heap.size (.slice av k cv) k (pre.flatMap (fun x=>encP x.p)) rfl HRow.out _ rfl (by simp) (by simp) (by simp) (by simp) hkq Hbs.out ?_
        intro g3 cap3 w3 hown3 hgrow3 hg3 hgl3
        obtain⟨hbx3,hboxes,hgB,hstep⟩:=HStep.out g3 cap3 w3 hown3 hgrow3 hg3
        have hm3:=(hboxes _ _ _ HB1.out).1.cell
        have hgn2 : ¬(w.heap.size=g3):=fun e=>(hboxes _ _ _ HB1.out).2 e.symm
        have hc3:=hbx3.cell
        have hf3:=hbx3.frozen
        have hgB2 : ¬(w.heap.size+1=g3):=fun e=>hgB e.symm
        have q0:=hown3.cellAt (k*4) (by omega)
        have q1:=hown3.cellAt (k*4+1) (by omega)
        have q2:=hown3.cellAt (k*4+2) (by omega)
        have q3:=hown3.cellAt (k*4+3) (by omega)
        rw [List.getElem?_append_right (by rw [Hxl.out];omega),Hxl.out] at q0 q1 q2 q3
        simp only [Nat.sub_self,Nat.add_sub_cancel_left,List.getElem?_cons_zero,List.getElem?_cons_succ] at q0 q1 q2 q3
        have z0:=hown3.frozenAt (k*4)
        have z1:=hown3.frozenAt (k*4+1)
        have z2:=hown3.frozenAt (k*4+2)
        have z3:=hown3.frozenAt (k*4+3)
        have Hst:Hid _:=hstep
        clear hown3 hgrow3 hg3 hstep hboxes
        refine hK _ _ ?_
        clear hK K
        refine wpAnyIn_ready (rs:=[5,7]) (by kernel_rfl) (by simp) ?_
        refine AllReadyIn.cons rfl (fun K hK=>?_) ?_
        ·go_simp
         refine hK _ _ ?_
         clear hK K
         refine wpAnyIn_ready (rs:=[6,7]) (by kernel_rfl) (by simp) ?_
         refine AllReadyIn.cons rfl (fun K hK=>?_) ?_
         ·go_simp
          refine hK _ _ ?_
          clear hK K
          refine wpAnyIn_ready (rs:=[7]) (by kernel_rfl) (by simp) ?_
          refine AllReadyIn.cons rfl (fun K hK=>?_) ?_
          ·go_simp
           refine hK _ _ ?_
           clear hK K
           refine wpAnyIn_done (by kernel_rfl) ?_ _
           gi_wp2
           obtain⟨k1,k2,k3,k4⟩:=Hst.out _ (Or.inl rfl)
           exact⟨k1.from _,k2,⟨⟨_,k3⟩,k4⟩,k2.2.1 _ _ _ (by decide) HB1.out,by rw [List.length_append,←Hk.out];have:=HgeN.out;simp;omega,HP.out⟩
          exact AllReadyIn.nil
         refine AllReadyIn.cons rfl (fun K hK=>?_) ?_
         ·go_simp
          refine hK _ _ ?_
          clear hK K
          refine wpAnyIn_ready (rs:=[6]) (by kernel_rfl) (by simp) ?_
          refine AllReadyIn.cons rfl (fun K hK=>?_) ?_
          ·go_simp
           refine hK _ _ ?_
           clear hK K
           refine wpAnyIn_done (by kernel_rfl) ?_ _
           gi_wp2
           obtain⟨k1,k2,k3,k4⟩:=Hst.out _ (Or.inr rfl)
           exact⟨k1.from _,k2,⟨⟨_,k3⟩,k4⟩,k2.2.1 _ _ _ (by decide) HB1.out,by rw [List.length_append,←Hk.out];have:=HgeN.out;simp;omega,HP.out⟩
          exact AllReadyIn.nil
         exact AllReadyIn.nil
        refine AllReadyIn.cons rfl (fun K hK=>?_) ?_
        ·go_simp
         refine hK _ _ ?_
         clear hK K
         refine wpAnyIn_ready (rs:=[5]) (by kernel_rfl) (by simp) ?_
         refine AllReadyIn.cons rfl (fun K hK=>?_) ?_
         ·go_simp
          refine hK _ _ ?_
          clear hK K
          refine wpAnyIn_ready (rs:=[6]) (by kernel_rfl) (by simp) ?_
          refine AllReadyIn.cons rfl (fun K hK=>?_) ?_
          ·go_simp
           refine hK _ _ ?_
           clear hK K
           refine wpAnyIn_done (by kernel_rfl) ?_ _
           gi_wp2
           obtain⟨k1,k2,k3,k4⟩:=Hst.out _ (Or.inr rfl)
           exact⟨k1.from _,k2,⟨⟨_,k3⟩,k4⟩,k2.2.1 _ _ _ (by decide) HB1.out,by rw [List.length_append,←Hk.out];have:=HgeN.out;simp;omega,HP.out⟩
          exact AllReadyIn.nil
         exact AllReadyIn.nil
        exact AllReadyIn.nil
       exact AllReadyIn.nil
      exact AllReadyIn.nil
     exact AllReadyIn.nil
    refine AllReadyIn.cons rfl (fun K hK=>?_) ?_
    ·go_simp
     refine hK _ _ ?_
     clear hK K
     refine wpAnyIn_ready (rs:=[0]) (by kernel_rfl) (by simp) ?_
     refine AllReadyIn.cons rfl (fun K hK=>?_) ?_
     ·go_simp
      refine hK _ _ ?_
      clear hK K
      refine wpAnyIn_ready (rs:=[2]) (by kernel_rfl) (by simp) ?_
      refine AllReadyIn.cons rfl (fun K hK=>?_) ?_
      ·go_simp
       refine hK _ _ ?_
       clear hK K
       refine wpAnyIn_ready (rs:=[4]) (by kernel_rfl) (by simp) ?_
       refine AllReadyIn.cons rfl (fun K hK=>?_) ?_
       ·refine appV_step rfl _ _ rfl w.heap.size (.slice av k cv) k (pre.flatMap (fun x=>encP x.p)) rfl HRow.out _ rfl (by simp) (by simp) (by simp) (by simp) hkq Hbs.out ?_
        intro g3 cap3 w3 hown3 hgrow3 hg3 hgl3
        obtain⟨hbx3,hboxes,hgB,hstep⟩:=HStep.out g3 cap3 w3 hown3 hgrow3 hg3
        have hm3:=(hboxes _ _ _ HB1.out).1.cell
        have hgn2 : ¬(w.heap.size=g3):=fun e=>(hboxes _ _ _ HB1.out).2 e.symm
        have hc3:=hbx3.cell
        have hf3:=hbx3.frozen
        have hgB2 : ¬(w.heap.size+1=g3):=fun e=>hgB e.symm
        have q0:=hown3.cellAt (k*4) (by omega)
        have q1:=hown3.cellAt (k*4+1) (by omega)
        have q2:=hown3.cellAt (k*4+2) (by omega)
        have q3:=hown3.cellAt (k*4+3) (by omega)
        rw [List.getElem?_append_right (by rw [Hxl.out];omega),Hxl.out] at q0 q1 q2 q3
        simp only [Nat.sub_self,Nat.add_sub_cancel_left,List.getElem?_cons_zero,List.getElem?_cons_succ] at q0 q1 q2 q3
        have z0:=hown3.frozenAt (k*4)
        have z1:=hown3.frozenAt (k*4+1)
        have z2:=hown3.frozenAt (k*4+2)
        have z3:=hown3.frozenAt (k*4+3)
        have Hst:Hid _:=hstep
        clear hown3 hgrow3 hg3 hstep hboxes
        refine hK _ _ ?_
        clear hK K
        refine wpAnyIn_ready (rs:=[5,7]) (by kernel_rfl) (by simp) ?_
        refine AllReadyIn.cons rfl (fun K hK=>?_) ?_
        ·go_simp
         refine hK _ _ ?_
         clear hK K
         refine wpAnyIn_ready (rs:=[6,7]) (by kernel_rfl) (by simp) ?_
         refine AllReadyIn.cons rfl (fun K hK=>?_) ?_
         ·go_simp
          refine hK _ _ ?_
          clear hK K
          refine wpAnyIn_ready (rs:=[7]) (by kernel_rfl) (by simp) ?_
          refine AllReadyIn.cons rfl (fun K hK=>?_) ?_
          ·go_simp
           refine hK _ _ ?_
           clear hK K
           refine wpAnyIn_done (by kernel_rfl) ?_ _
           gi_wp2
           obtain⟨k1,k2,k3,k4⟩:=Hst.out _ (Or.inl rfl)
           exact⟨k1.from _,k2,⟨⟨_,k3⟩,k4⟩,k2.2.1 _ _ _ (by decide) HB1.out,by rw [List.length_append,←Hk.out];have:=HgeN.out;simp;omega,HP.out⟩
          exact AllReadyIn.nil
         refine AllReadyIn.cons rfl (fun K hK=>?_) ?_
         ·go_simp
          refine hK _ _ ?_
          clear hK K
          refine wpAnyIn_ready (rs:=[6]) (by kernel_rfl) (by simp) ?_
          refine AllReadyIn.cons rfl (fun K hK=>?_) ?_
          ·go_simp
           refine hK _ _ ?_
           clear hK K
           refine wpAnyIn_done (by kernel_rfl) ?_ _
           gi_wp2
           obtain⟨k1,k2,k3,k4⟩:=Hst.out _ (Or.inr rfl)
           exact⟨k1.from _,k2,⟨⟨_,k3⟩,k4⟩,k2.2.1 _ _ _ (by decide) HB1.out,by rw [List.length_append,←Hk.out];have:=HgeN.out;simp;omega,HP.out⟩
          exact AllReadyIn.nil
         exact AllReadyIn.nil
        refine AllReadyIn.cons rfl (fun K hK=>?_) ?_
        ·go_simp
         refine hK _ _ ?_
         clear hK K
         refine wpAnyIn_ready (rs:=[5]) (by kernel_rfl) (by simp) ?_
         refine AllReadyIn.cons rfl (fun K hK=>?_) ?_
         ·go_simp
          refine hK _ _ ?_
          clear hK K
          refine wpAnyIn_ready (rs:=[6]) (by kernel_rfl) (by simp) ?_
          refine AllReadyIn.cons rfl (fun K hK=>?_) ?_
          ·go_simp
           refine hK _ _ ?_
           clear hK K
           refine wpAnyIn_done (by kernel_rfl) ?_ _
           gi_wp2
           obtain⟨k1,k2,k3,k4⟩:=Hst.out _ (Or.inr rfl)
           exact⟨k1.from _,k2,⟨⟨_,k3⟩,k4⟩,k2.2.1 _ _ _ (by decide) HB1.out,by rw [List.length_append,←Hk.out];have:=HgeN.out;simp;omega,HP.out⟩
          exact AllReadyIn.nil
         exact AllReadyIn.nil
        exact AllReadyIn.nil
       exact AllReadyIn.nil
      exact AllReadyIn.nil
     exact AllReadyIn.nil
    exact AllReadyIn.nil
   refine AllReadyIn.cons rfl (fun K hK=>?_) ?_
   ·go_simp
    refine hK _ _ ?_
    clear hK K
    refine wpAnyIn_ready (rs:=[0,1]) (by kernel_rfl) (by simp) ?_
    refine AllReadyIn.cons rfl (fun K hK=>?_) ?_
    ·go_simp
     refine hK _ _ ?_
     clear hK K
     refine wpAnyIn_ready (rs:=[1,2]) (by kernel_rfl) (by simp) ?_
     refine AllReadyIn.cons rfl (fun K hK=>?_) ?_
     ·go_simp
      refine hK _ _ ?_
      clear hK K
      refine wpAnyIn_ready (rs:=[2]) (by kernel_rfl) (by simp) ?_
      refine AllReadyIn.cons rfl (fun K hK=>?_) ?_
      ·go_simp
       refine hK _ _ ?_
       clear hK K
       refine wpAnyIn_ready (rs:=[4]) (by kernel_rfl) (by simp) ?_
       refine AllReadyIn.cons rfl (fun K hK=>?_) ?_
       ·refine appV_step rfl _ _ rfl w.heap.size (.slice av k cv) k (pre.flatMap (fun x=>encP x.p)) rfl HRow.out _ rfl (by simp) (by simp) (by simp) (by simp) hkq Hbs.out ?_
        intro g3 cap3 w3 hown3 hgrow3 hg3 hgl3
        obtain⟨hbx3,hboxes,hgB,hstep⟩:=HStep.out g3 cap3 w3 hown3 hgrow3 hg3
        have hm3:=(hboxes _ _ _ HB1.out).1.cell
        have hgn2 : ¬(w.heap.size=g3):=fun e=>(hboxes _ _ _ HB1.out).2 e.symm
        have hc3:=hbx3.cell
        have hf3:=hbx3.frozen
        have hgB2 : ¬(w.heap.size+1=g3):=fun e=>hgB e.symm
        have q0:=hown3.cellAt (k*4) (by omega)
        have q1:=hown3.cellAt (k*4+1) (by omega)
        have q2:=hown3.cellAt (k*4+2) (by omega)
        have q3:=hown3.cellAt (k*4+3) (by omega)
        rw [List.getElem?_append_right (by rw [Hxl.out];omega),Hxl.out] at q0 q1 q2 q3
        simp only [Nat.sub_self,Nat.add_sub_cancel_left,List.getElem?_cons_zero,List.getElem?_cons_succ] at q0 q1 q2 q3
        have z0:=hown3.frozenAt (k*4)
        have z1:=hown3.frozenAt (k*4+1)
        have z2:=hown3.frozenAt (k*4+2)
        have z3:=hown3.frozenAt (k*4+3)
        have Hst:Hid _:=hstep
        clear hown3 hgrow3 hg3 hstep hboxes
        refine hK _ _ ?_
        clear hK K
        refine wpAnyIn_ready (rs:=[5,7]) (by kernel_rfl) (by simp) ?_
        refine AllReadyIn.cons rfl (fun K hK=>?_) ?_
        ·go_simp
         refine hK _ _ ?_
         clear hK K
         refine wpAnyIn_ready (rs:=[6,7]) (by kernel_rfl) (by simp) ?_
         refine AllReadyIn.cons rfl (fun K hK=>?_) ?_
         ·go_simp
          refine hK _ _ ?_
          clear hK K
          refine wpAnyIn_ready (rs:=[7]) (by kernel_rfl) (by simp) ?_
          refine AllReadyIn.cons rfl (fun K hK=>?_) ?_
          ·go_simp
           refine hK _ _ ?_
           clear hK K
           refine wpAnyIn_done (by kernel_rfl) ?_ _
           gi_wp2
           obtain⟨k1,k2,k3,k4⟩:=Hst.out _ (Or.inl rfl)
           exact⟨k1.from _,k2,⟨⟨_,k3⟩,k4⟩,k2.2.1 _ _ _ (by decide) HB1.out,by rw [List.length_append,←Hk.out];have:=HgeN.out;simp;omega,HP.out⟩
          exact AllReadyIn.nil
         refine AllReadyIn.cons rfl (fun K hK=>?_) ?_
         ·go_simp
          refine hK _ _ ?_
          clear hK K
          refine wpAnyIn_ready (rs:=[6]) (by kernel_rfl) (by simp) ?_
          refine AllReadyIn.cons rfl (fun K hK=>?_) ?_
          ·go_simp
           refine hK _ _ ?_
           clear hK K
           refine wpAnyIn_done (by kernel_rfl) ?_ _
           gi_wp2
           obtain⟨k1,k2,k3,k4⟩:=Hst.out _ (Or.inr rfl)
           exact⟨k1.from _,k2,⟨⟨_,k3⟩,k4⟩,k2.2.1 _ _ _ (by decide) HB1.out,by rw [List.length_append,←Hk.out];have:=HgeN.out;simp;omega,HP.out⟩
          exact AllReadyIn.nil
         exact AllReadyIn.nil
        refine AllReadyIn.cons rfl (fun K hK=>?_) ?_
        ·go_simp
         refine hK _ _ ?_
         clear hK K
         refine wpAnyIn_ready (rs:=[5]) (by kernel_rfl) (by simp) ?_
         refine AllReadyIn.cons rfl (fun K hK=>?_) ?_
         ·go_simp
          refine hK _ _ ?_
          clear hK K
          refine wpAnyIn_ready (rs:=[6]) (by kernel_rfl) (by simp) ?_
          refine AllReadyIn.cons rfl (fun K hK=>?_) ?_
          ·go_simp
           refine hK _ _ ?_
           clear hK K
           refine wpAnyIn_done (by kernel_rfl) ?_ _
           gi_wp2
           obtain⟨k1,k2,k3,k4⟩:=Hst.out _ (Or.inr rfl)
           exact⟨k1.from _,k2,⟨⟨_,k3⟩,k4⟩,k2.2.1 _ _ _ (by decide) HB1.out,by rw [List.length_append,←Hk.out];have:=HgeN.out;simp;omega,HP.out⟩
          exact AllReadyIn.nil
         exact AllReadyIn.nil
        exact AllReadyIn.nil
       exact AllReadyIn.nil
      exact AllReadyIn.nil
     refine AllReadyIn.cons rfl (fun K hK=>?_) ?_
     ·go_simp
      refine hK _ _ ?_
      clear hK K
      refine wpAnyIn_ready (rs:=[1]) (by kernel_rfl) (by simp) ?_
      refine AllReadyIn.cons rfl (fun K hK=>?_) ?_
      ·go_simp
       refine hK _ _ ?_
       clear hK K
       refine wpAnyIn_ready (rs:=[4]) (by kernel_rfl) (by simp) ?_
       refine AllReadyIn.cons rfl (fun K hK=>?_) ?_
       ·refine appV_step rfl _ _ rfl w.heap.size (.slice av k cv) k (pre.flatMap (fun x=>encP x.p)) rfl HRow.out _ rfl (by simp) (by simp) (by simp) (by simp) hkq Hbs.out ?_
        intro g3 cap3 w3 hown3 hgrow3 hg3 hgl3
        obtain⟨hbx3,hboxes,hgB,hstep⟩:=HStep.out g3 cap3 w3 hown3 hgrow3 hg3
        have hm3:=(hboxes _ _ _ HB1.out).1.cell
        have hgn2 : ¬(w.heap.size=g3):=fun e=>(hboxes _ _ _ HB1.out).2 e.symm
        have hc3:=hbx3.cell
        have hf3:=hbx3.frozen
        have hgB2 : ¬(w.heap.size+1=g3):=fun e=>hgB e.symm
        have q0:=hown3.cellAt (k*4) (by omega)
        have q1:=hown3.cellAt (k*4+1) (by omega)
        have q2:=hown3.cellAt (k*4+2) (by omega)
        have q3:=hown3.cellAt (k*4+3) (by omega)
        rw [List.getElem?_append_right (by rw [Hxl.out];omega),Hxl.out] at q0 q1 q2 q3
        simp only [Nat.sub_self,Nat.add_sub_cancel_left,List.getElem?_cons_zero,List.getElem?_cons_succ] at q0 q1 q2 q3
        have z0:=hown3.frozenAt (k*4)
        have z1:=hown3.frozenAt (k*4+1)
        have z2:=hown3.frozenAt (k*4+2)
        have z3:=hown3.frozenAt (k*4+3)
        have Hst:Hid _:=hstep
        clear hown3 hgrow3 hg3 hstep hboxes
        refine hK _ _ ?_
        clear hK K
        refine wpAnyIn_ready (rs:=[5,7]) (by kernel_rfl) (by simp) ?_
        refine AllReadyIn.cons rfl (fun K hK=>?_) ?_
        ·go_simp
         refine hK _ _ ?_
         clear hK K
         refine wpAnyIn_ready (rs:=[6,7]) (by kernel_rfl) (by simp) ?_
         refine AllReadyIn.cons rfl (fun K hK=>?_) ?_
         ·go_simp
          refine hK _ _ ?_
          clear hK K
          refine wpAnyIn_ready (rs:=[7]) (by kernel_rfl) (by simp) ?_
          refine AllReadyIn.cons rfl (fun K hK=>?_) ?_
          ·go_simp
           refine hK _ _ ?_
           clear hK K
           refine wpAnyIn_done (by kernel_rfl) ?_ _
           gi_wp2
           obtain⟨k1,k2,k3,k4⟩:=Hst.out _ (Or.inl rfl)
           exact⟨k1.from _,k2,⟨⟨_,k3⟩,k4⟩,k2.2.1 _ _ _ (by decide) HB1.out,by rw [List.length_append,←Hk.out];have:=HgeN.out;simp;omega,HP.out⟩
          exact AllReadyIn.nil
         refine AllReadyIn.cons rfl (fun K hK=>?_) ?_
         ·go_simp
          refine hK _ _ ?_
          clear hK K
          refine wpAnyIn_ready (rs:=[6]) (by kernel_rfl) (by simp) ?_
          refine AllReadyIn.cons rfl (fun K hK=>?_) ?_
          ·go_simp
           refine hK _ _ ?_
           clear hK K
           refine wpAnyIn_done (by kernel_rfl) ?_ _
           gi_wp2
           obtain⟨k1,k2,k3,k4⟩:=Hst.out _ (Or.inr rfl)
           exact⟨k1.from _,k2,⟨⟨_,k3⟩,k4⟩,k2.2.1 _ _ _ (by decide) HB1.out,by rw [List.length_append,←Hk.out];have:=HgeN.out;simp;omega,HP.out⟩
          exact AllReadyIn.nil
         exact AllReadyIn.nil
        refine AllReadyIn.cons rfl (fun K hK=>?_) ?_
        ·go_simp
         refine hK _ _ ?_
         clear hK K
         refine wpAnyIn_ready (rs:=[5]) (by kernel_rfl) (by simp) ?_
         refine AllReadyIn.cons rfl (fun K hK=>?_) ?_
         ·go_simp
          refine hK _ _ ?_
          clear hK K
          refine wpAnyIn_ready (rs:=[6]) (by kernel_rfl) (by simp) ?_
          refine AllReadyIn.cons rfl (fun K hK=>?_) ?_
          ·go_simp
           refine hK _ _ ?_
           clear hK K
           refine wpAnyIn_done (by kernel_rfl) ?_ _
           gi_wp2
           obtain⟨k1,k2,k3,k4⟩:=Hst.out _ (Or.inr rfl)
           exact⟨k1.from _,k2,⟨⟨_,k3⟩,k4⟩,k2.2.1 _ _ _ (by decide) HB1.out,by rw [List.length_append,←Hk.out];have:=HgeN.out;simp;omega,HP.out⟩
          exact AllReadyIn.nil
         exact AllReadyIn.nil
        exact AllReadyIn.nil
       exact AllReadyIn.nil
      exact AllReadyIn.nil
     exact AllReadyIn.nil
    refine AllReadyIn.cons rfl (fun K hK=>?_) ?_
    ·go_simp
     refine hK _ _ ?_
     clear hK K
     refine wpAnyIn_ready (rs:=[0]) (by kernel_rfl) (by simp) ?_
     refine AllReadyIn.cons rfl (fun K hK=>?_) ?_
     ·go_simp
      refine hK _ _ ?_
      clear hK K
      refine wpAnyIn_ready (rs:=[2]) (by kernel_rfl) (by simp) ?_
      refine AllReadyIn.cons rfl (fun K hK=>?_) ?_
      ·go_simp
       refine hK _ _ ?_
       clear hK K
       refine wpAnyIn_ready (rs:=[4]) (by kernel_rfl) (by simp) ?_
       refine AllReadyIn.cons rfl (fun K hK=>?_) ?_
       ·refine appV_step rfl _ _ rfl w.heap.size (.slice av k cv) k (pre.flatMap (fun x=>encP x.p)) rfl HRow.out _ rfl (by simp) (by simp) (by simp) (by simp) hkq Hbs.out ?_
        intro g3 cap3 w3 hown3 hgrow3 hg3 hgl3
        obtain⟨hbx3,hboxes,hgB,hstep⟩:=HStep.out g3 cap3 w3 hown3 hgrow3 hg3
        have hm3:=(hboxes _ _ _ HB1.out).1.cell
        have hgn2 : ¬(w.heap.size=g3):=fun e=>(hboxes _ _ _ HB1.out).2 e.symm
        have hc3:=hbx3.cell
        have hf3:=hbx3.frozen
        have hgB2 : ¬(w.heap.size+1=g3):=fun e=>hgB e.symm
        have q0:=hown3.cellAt (k*4) (by omega)
        have q1:=hown3.cellAt (k*4+1) (by omega)
        have q2:=hown3.cellAt (k*4+2) (by omega)
        have q3:=hown3.cellAt (k*4+3) (by omega)
        rw [List.getElem?_append_right (by rw [Hxl.out];omega),Hxl.out] at q0 q1 q2 q3
        simp only [Nat.sub_self,Nat.add_sub_cancel_left,List.getElem?_cons_zero,List.getElem?_cons_succ] at q0 q1 q2 q3
        have z0:=hown3.frozenAt (k*4)
        have z1:=hown3.frozenAt (k*4+1)
        have z2:=hown3.frozenAt (k*4+2)
        have z3:=hown3.frozenAt (k*4+3)
        have Hst:Hid _:=hstep
        clear hown3 hgrow3 hg3 hstep hboxes
        refine hK _ _ ?_
        clear hK K
        refine wpAnyIn_ready (rs:=[5,7]) (by kernel_rfl) (by simp) ?_
        refine AllReadyIn.cons rfl (fun K hK=>?_) ?_
        ·go_simp
         refine hK _ _ ?_
         clear hK K
         refine wpAnyIn_ready (rs:=[6,7]) (by kernel_rfl) (by simp) ?_
         refine AllReadyIn.cons rfl (fun K hK=>?_) ?_
         ·go_simp
          refine hK _ _ ?_
          clear hK K
          refine wpAnyIn_ready (rs:=[7]) (by kernel_rfl) (by simp) ?_
          refine AllReadyIn.cons rfl (fun K hK=>?_) ?_
          ·go_simp
           refine hK _ _ ?_
           clear hK K
           refine wpAnyIn_done (by kernel_rfl) ?_ _
           gi_wp2
           obtain⟨k1,k2,k3,k4⟩:=Hst.out _ (Or.inl rfl)
           exact⟨k1.from _,k2,⟨⟨_,k3⟩,k4⟩,k2.2.1 _ _ _ (by decide) HB1.out,by rw [List.length_append,←Hk.out];have:=HgeN.out;simp;omega,HP.out⟩
          exact AllReadyIn.nil
         refine AllReadyIn.cons rfl (fun K hK=>?_) ?_
         ·go_simp
          refine hK _ _ ?_
          clear hK K
          refine wpAnyIn_ready (rs:=[6]) (by kernel_rfl) (by simp) ?_
          refine AllReadyIn.cons rfl (fun K hK=>?_) ?_
          ·go_simp
           refine hK _ _ ?_
           clear hK K
           refine wpAnyIn_done (by kernel_rfl) ?_ _
           gi_wp2
           obtain⟨k1,k2,k3,k4⟩:=Hst.out _ (Or.inr rfl)
           exact⟨k1.from _,k2,⟨⟨_,k3⟩,k4⟩,k2.2.1 _ _ _ (by decide) HB1.out,by rw [List.length_append,←Hk.out];have:=HgeN.out;simp;omega,HP.out⟩
          exact AllReadyIn.nil
         exact AllReadyIn.nil
        refine AllReadyIn.cons rfl (fun K hK=>?_) ?_
        ·go_simp
         refine hK _ _ ?_
         clear hK K
         refine wpAnyIn_ready (rs:=[5]) (by kernel_rfl) (by simp) ?_
         refine AllReadyIn.cons rfl (fun K hK=>?_) ?_
         ·go_simp
          refine hK _ _ ?_
          clear hK K
          refine wpAnyIn_ready (rs:=[6]) (by kernel_rfl) (by simp) ?_
          refine AllReadyIn.cons rfl (fun K hK=>?_) ?_
          ·go_simp
           refine hK _ _ ?_
           clear hK K
           refine wpAnyIn_done (by kernel_rfl) ?_ _
           gi_wp2
           obtain⟨k1,k2,k3,k4⟩:=Hst.out _ (Or.inr rfl)
           exact⟨k1.from _,k2,⟨⟨_,k3⟩,k4⟩,k2.2.1 _ _ _ (by decide) HB1.out,by rw [List.length_append,←Hk.out];have:=HgeN.out;simp;omega,HP.out⟩
          exact AllReadyIn.nil
         exact AllReadyIn.nil
        exact AllReadyIn.nil
       exact AllReadyIn.nil
      exact AllReadyIn.nil
     exact AllReadyIn.nil
    exact AllReadyIn.nil
   exact AllReadyIn.nil
 case done=>
  rintro D pre W hD hxs ⟨⟨⟨v,hR⟩,hB⟩,b1,hlM,hpl⟩ hK
  have htk:pre.map CV.k=l.take M:=by rw [←hxs,List.take_of_length_le (by rw [List.length_map];omega)]
  have hpl2:pre.length≤65536:=by have:=congrArg List.length htk;rw [List.length_map] at this;rw [List.length_take] at this;have:=HL.out;omega
  have hS:SlP w.heap.size 16 W (pre.map CV.p) v:=hR.slp hpl2
  obtain⟨av,cv,rfl,_⟩:=hS.slice
  obtain⟨NL,hNL⟩:∃NL,NL=(pre.map CV.p).length:=⟨_,rfl⟩
  rw [←hNL] at hS hR
  have hc:=hR.1.cell
  have HS:Hid (SlP w.heap.size 16 W (pre.map CV.p) (.slice av NL cv)∧Below w.heap.size w W):=⟨hS,hB⟩
  have HMk:Hid (MarksX w.heap.size W [D]):=MarksX.one (by omega) hK
  have HT:Hid ((pre.map CV.p).map (·.1)=l.take M):=by rw [map_p_k];exact htk
  clear hR hS hB hK hNL htk b1
  gi_wp2
  refine leavesX w.heap.size (fun V=>SlP w.heap.size 16 V (pre.map CV.p) (.slice av NL cv)∧Below w.heap.size w V) (fun V D hD hK hT=>⟨slp_putObj hT.1 hK rfl,hT.2.trans (below_putX hD)⟩) (fun V hT=>⟨.slice av NL cv,by simp [results,Tryz.results67,go_sem],hT.2,_,_,rfl,HT.out,hT.1⟩) [D] _ HMk.out HS.out
 case stop=>
  rintro D c pre W hD _ ⟨rfl,⟨⟨v,hR⟩,hB⟩,hlM,hpl⟩ hK
  have htk:pre.map CV.k=l.take M:=by rw [List.prefix_iff_eq_take.1 hpl,List.length_map,hlM]
  have hpl2:pre.length≤65536:=by have:=congrArg List.length htk;rw [List.length_map] at this;rw [List.length_take] at this;have:=HL.out;omega
  have hS:SlP w.heap.size 16 W (pre.map CV.p) v:=hR.slp hpl2
  obtain⟨av,cv,rfl,_⟩:=hS.slice
  obtain⟨NL,hNL⟩:∃NL,NL=(pre.map CV.p).length:=⟨_,rfl⟩
  rw [←hNL] at hS hR
  have hc:=hR.1.cell
  have HS:Hid (SlP w.heap.size 16 W (pre.map CV.p) (.slice av NL cv)∧Below w.heap.size w W):=⟨hS,hB⟩
  have HMk:Hid (MarksX w.heap.size W [D]):=MarksX.one (by omega) hK
  have HT:Hid ((pre.map CV.p).map (·.1)=l.take M):=by rw [map_p_k];exact htk
  clear hR hS hB hK hNL htk 
  gi_wp2
  refine leavesX w.heap.size (fun V=>SlP w.heap.size 16 V (pre.map CV.p) (.slice av NL cv)∧Below w.heap.size w V) (fun V D hD hK hT=>⟨slp_putObj hT.1 hK rfl,hT.2.trans (below_putX hD)⟩) (fun V hT=>⟨.slice av NL cv,by simp [results,Tryz.results67,go_sem],hT.2,_,_,rfl,HT.out,hT.1⟩) [D] _ HMk.out HS.out

theorem sgoneM_16 {w:World} {q:Nat} {l:List PT} {s:Nat} (h:SC w q l s) (M:Nat) (hM:1≤M) (hM2:M≤65537):Calls Tryz.prog 67 #[.pointer (some ⟨s,0,none⟩),.int .i64 (M:Int)] w (ItPost w.heap.size ((l.map (·.1)).take M) w):=by
 obtain⟨b,hs,hl,hq⟩:=h.seq
 exact sgone_16 (l.map (·.1)) (by rw [List.length_map];exact hl) M hM hM2 s b w hs hq

end Go.Proofs.YtlnecfjnffdciabGreat

