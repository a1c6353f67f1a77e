import Derived.Test.YtlnecfjnffdciacGreatSorted6
import Derived.Test.YtlnecfjnffdciacGreatClo
set_option maxRecDepth 100000
set_option maxHeartbeats 4000000
namespace Go.Proofs.YtlnecfjnffdciacGreat
open Go.RowKit Go.Shelf
theorem right_len_all {t:VT} (hr:zab 16 t=true):Len 16 t:=by
 have h:=hr
 simp only [zab,Bool.and_eq_true] at h
 exact sm_len 16 t (fw_small 16 t 16 1024 (by omega) (by omega) h.1)
theorem right_rp6 {t:VT} (hr:zab 16 t=true):rpV 16 t=true:=by
 unfold zab at hr
 rw [Bool.and_eq_true] at hr
 exact hr.2
theorem rp_txt:∀(d:Nat) (t:VT),rpV d t=true→Txt (fun s=>s.size≤281474976710656) d t:=by
 intro d
 induction d with
 | zero=>
  intro t h
  have:=(right_text (d:=0) (t:=t) h).1
  show t.text.size≤281474976710656
  omega
 | succ d ih=>
  intro t h
  unfold rpV at h
  rw [Bool.and_eq_true,List.all_eq_true] at h
  have:=(right_text h.2).1
  exact⟨by show t.text.size≤281474976710656;omega,fun x hx=>ih x (h.1 x hx)⟩
theorem copy_right (t:VT) (u:Value) (w:World) (hl:Lies 16 w t.items u) (hr:zab 16 t=true):Calls Tryz.prog 66 #[.agg #[.int .i64 t.kind,.int .i64 t.num,.string t.text,u]] w (CopyPost 16 t w):=
 copyOf_any (fun s=>s.size≤281474976710656) txt_any 16 t u w hl (rp_txt 16 t (right_rp6 hr)) (right_len_all hr)
theorem make_values (n:Nat) (hn:n≤65536):∃M:Array Value,M.size=n*4∧∀W:World,(Instr.makeSlice 22 (.int .i64 (n:Int)) (.int .i64 (n:Int))).run Tryz.prog W=.ok (.slice (some ⟨W.heap.size,0,none⟩) n n) (W.alloc (.cells M 24)):=by
 obtain⟨i0,hi,hz0,hz1,hz2⟩:=info24
 refine⟨madeCells (Value.agg #[.int .i64 0,.int .i64 0,.string ⟨#[]⟩,.slice none 0 0]).cells (((n:Nat):Int).toNat*i0.size),?_,fun W=>?_⟩
 ·rw [size_madeCells,hz1];simp
 ·have h:=run_make (P:=Tryz.prog) W 22 24 i0 _ Tryz.underlying22 hi hz0 .i64 .i64 (n:Int) (n:Int) (by omega) (by omega) (by rw [hz2];omega) (by omega)
  simpa using h
theorem copies_any (ms:List MB) (v:Value) (w:World) (hv:SlM w ms v) (hlen:ms.length≤65536) :
 Calls Tryz.prog 49 #[v] w fun e w'=>∃v,e=.returned v∧LiesB w.heap.size 17 w' (ms.map (·.t)) v∧Below w.heap.size w w':=by
 obtain⟨b1,o1,c,rfl,hc,hrow,hgd⟩:=hv
 have Hr:Hid (RowM w b1 o1 ms):=hrow
 have HG:Hid (∀p∈ms,GoodM w p):=hgd
 clear hrow hgd hc
 obtain⟨M,hMs,hmk⟩:=make_values ms.length hlen
 have HMs:Hid (M.size=ms.length*4):=hMs
 clear hMs
 go_enter Tryz.func49,Tryz.ntmps49
 go_wp2_with fail
 go_loopg [11] ms.length (fun q i wr=>∃(j:Nat) (ps:List (VT×Value)),i=.int .i64 (j:Int)∧j≤ms.length∧q=ms.length-j∧Hid (ps.length=j∧ps.map (·.1)=(ms.take j).map (·.t))∧Copied w.heap.size ms.length 16 wr ps∧Below w.heap.size w wr)
 case atStart=>
  refine⟨0,[],rfl,by omega,by omega,⟨rfl,rfl⟩,⟨(fun i hi=>by cases hi),(fun p hp=>by cases hp),(fun k hk=>?_),(by simp)⟩,(Below.refl _ _).alloc (Nat.le_refl _) _⟩
  have hk':k<M.size:=by rw [HMs.out];exact hk
  simp [hk']
 case round=>
  obtain⟨j,ps,rfl,hj,hk,Hps,hcp,hbw⟩:=hrel
  have Hk:Hid _:=hk
  have HC:Hid (Copied w.heap.size ms.length 16 wr ps):=hcp
  clear hk hcp hmk
  by_cases hlt:j<ms.length
  ·obtain⟨p0,p1,p2,p3,p4⟩:=Hr.out j hlt
   have hgd:=HG.out ms[j] (List.getElem_mem hlt)
   have Htk:Hid ((ms.take (j+1)).map (·.t)=(ms.take j).map (·.t)++[ms[j].t]):=by
    show _=_
    rw [List.take_succ_eq_append_getElem hlt,List.map_append];rfl
   generalize ms[j]=x at *
   obtain⟨t,u,m⟩:=x
   obtain⟨ax,cx,hu,_⟩:=Lies.slice hgd.lies
   simp only at hu p0 p1 p2 p3 p4
   subst hu
   have HGd:Hid (GoodM w ⟨t,.slice ax t.items.length cx,m⟩):=hgd
   clear hgd
   have p0:=zaa hbw p0;have p1:=zaa hbw p1;have p2:=zaa hbw p2;have p3:=zaa hbw p3;have p4:=zaa hbw p4
   have hl1:b1<wr.heap.size:=zad p0
   have hws2:w.heap.size≤wr.heap.size:=hbw.size
   have hG:=HC.out.lt
   go_wp2_with fail
   refine (copy_right t _ _ (Lies.keeps (hbw.alloc hws2 _) _ _ _ HGd.out.lies) HGd.out.right).mono ?_
   rintro e w1 ⟨v,rfl,hLB,hg⟩
   have hb2:Below w.heap.size w w1:=(hbw.alloc hws2 _).trans (hg.mono (by simp;omega))
   have HC1:Hid (Copied w.heap.size ms.length 16 w1 ps):=(HC.out.keeps ((Below.refl _ _).alloc (Nat.le_refl _) _)).keeps hg
   obtain⟨av,cv,rfl,_⟩:=LiesB.slice hLB
   have HLB:Hid (LiesB (w.heap.size+1) 16 w1 t.items (.slice av t.items.length cv)):=LiesB.lower (by simp;omega) _ _ _ hLB
   clear hg p0 p1 p2 p3 p4 hLB HC
   have hpl:=Hps.out.1
   obtain⟨v0,s0⟩:=Option.isSome_iff_exists.1 (HC1.out.there (j*4) (by omega)).1
   obtain⟨v1,s1⟩:=Option.isSome_iff_exists.1 (HC1.out.there (j*4+1) (by omega)).1
   obtain⟨v2,s2⟩:=Option.isSome_iff_exists.1 (HC1.out.there (j*4+2) (by omega)).1
   obtain⟨v3,s3⟩:=Option.isSome_iff_exists.1 (HC1.out.there (j*4+3) (by omega)).1
   have z0:=(HC1.out.there (j*4) (by omega)).2
   have z1:=(HC1.out.there (j*4+1) (by omega)).2
   have z2:=(HC1.out.there (j*4+2) (by omega)).2
   have z3:=(HC1.out.there (j*4+3) (by omega)).2
   have hput:=HC1.out.put (t,.slice av t.items.length cv) ⟨HLB.out,by have:=right_short HGd.out.right;simp only at this ⊢;omega⟩ (by omega)
   rw [hpl] at hput
   have Hput:Hid _:=hput
   clear hput hpl
   go_wp2_with fail
   go_roundg (ms.length-(j+1))
   case measure=>have:=Hk.out;omega
   case rel=>
    refine⟨j+1,ps++[(t,Value.slice av t.items.length cv)],by go_num,by omega,rfl,?_,Hput.out,?_⟩
    ·refine⟨by simp [Hps.out.1],?_⟩
     rw [List.map_append,Hps.out.2,Htk.out];rfl
    ·exact (((hb2.setCell (p:=⟨w.heap.size,j*4,none⟩) (Nat.le_refl _) _).setCell (p:=⟨w.heap.size,j*4+1,none⟩) (Nat.le_refl _) _).setCell (p:=⟨w.heap.size,j*4+2,none⟩) (Nat.le_refl _) _).setCell (p:=⟨w.heap.size,j*4+3,none⟩) (Nat.le_refl _) _
  ·have hjl:j=ms.length:=by omega
   have hd:=HC.out.done (by have:=Hps.out.1;omega) ms.length (by have:=Hps.out.1;omega) (by have:=Hps.out.1;omega)
   rw [Hps.out.2,Hps.out.1,hjl,List.take_length] at hd
   have Hd:Hid (LiesB w.heap.size 17 wr (ms.map (·.t)) (.slice (some ⟨w.heap.size,0,none⟩) ms.length ms.length)):=hd
   clear hd hjl HC Hr HG
   go_wp2_with fail
   go_ret
   exact⟨_,rfl,Hd.out,hbw⟩
abbrev cmpMB (q:Nat) (p r:MB):Int:=ordM q p.t r.t p.m r.m
theorem cmpMB_any (q:Nat) (hq:q<6):Hid (∀(p r:MB) (W:World),GoodM W p→GoodM W r→Calls Tryz.prog (cF q) #[.agg #[.int .i64 p.t.kind,.int .i64 p.t.num,.string p.t.text,p.u,.int .u64 p.m],.agg #[.int .i64 r.t.kind,.int .i64 r.t.num,.string r.t.text,r.u,.int .u64 r.m]] W fun e W'=>e=.returned (.int .i64 (cmpMB q p r))∧Grew W W'):=
 fun p r W h1 h2=>cmpO_any q hq p.t r.t p.u r.u p.m r.m W h1.lies h2.lies
def ltO (q:Nat) (y x:VT):Bool:=decide (ordV q y x<0)
def srtV (q:Nat) (l:List VT):List VT:=srt (ltO q) (l.length+1) l
theorem srtM_map (q n:Nat) (ms:List MB) (h:∀p∈ms,p.m=msr q p.t):(srt (ltG (cmpMB q)) n ms).map (·.t)=srt (ltO q) n (ms.map (·.t)):=
 srt_map (·.t) _ _ (fun p=>p.m=msr q p.t) (fun x y hx hy=>by unfold ltG ltO cmpMB ordV;rw [hx,hy]) n ms h
def SortPost (d:Nat) (o:Int) (l:List VT) (w:World) (e:Ending) (w':World):Prop:=
 (lookE d o l≠0∧e=.returned (.tuple #[.slice none 0 0,.int .i64 (lookE d o l)])∧Below w.heap.size w w')∨
 (lookE d o l=0∧∃v,e=.returned (.tuple #[v,.int .i64 0])∧LiesB w.heap.size 17 w' (srtV o.toNat l) v∧Below w.heap.size w w')
theorem look_any (d:Nat) (o:Int) (l:List VT) (u:Value) (w:World) (hu:Lies (d+1) w l u) :
 Calls Tryz.prog 48 #[.int .i64 o,u] w fun e w'=>(lookE d o l≠0∧NonePost (lookE d o l) w e w')∨(lookE d o l=0∧∃q:Nat,o=q∧q<6∧l.length≤65536∧(∀x∈l,zab d x=true)∧∃v ms,e=.returned (.tuple #[.agg #[fv (mF q),fv (cF q)],v,.int .i64 0])∧SlM w' ms v∧ms.map (·.t)=l∧(∀p∈ms,p.m=msr q p.t)∧Below w.heap.size w w'):=by
 by_cases ho:o<0∨6≤o
 ·have hE:lookE d o l=4:=by unfold lookE;rw [if_pos ho]
  rw [hE]
  obtain⟨a,c,rfl,_⟩:=Lies.slice hu
  exact (look_kind o a _ c w ho).mono fun e w' h=>.inl ⟨by omega,h⟩
 ·obtain⟨q,rfl⟩:∃q:Nat,o=q:=⟨o.toNat,by omega⟩
  have hE:lookE d q l=zae d l:=by unfold lookE;rw [if_neg ho]
  rw [hE]
  refine (look_some d q (by omega) l u w hu).mono fun e w' h=>?_
  rcases h with h|⟨h0,v,ms,h⟩
  ·exact .inl h
  ·exact .inr ⟨h0,q,rfl,by omega,(listErr_zero6 h0).1,(listErr_zero6 h0).2,v,ms,h⟩
theorem sort6_any (d:Nat) (o:Int) (l:List VT) (u:Value) (w:World) (hu:Lies (d+1) w l u):Calls Tryz.prog 16 #[.int .i64 o,u] w (SortPost d o l w):=by
 obtain⟨a,c,rfl,_⟩:=Lies.slice hu
 have HU:Hid (Lies (d+1) w l (.slice a l.length c)):=hu
 clear hu
 have Hsrt:Hid (∀(q k:Nat),q<6→∀(ms:List MB) (v:Value) (W:World),SlM W ms v→ms.length≤65536→ms.length≤k+1→Calls Tryz.prog 50 #[v,fv (cF q)] W fun e w'=>∃v,e=.returned v∧SlM w' (srt (ltG (cmpMB q)) (k+1) ms) v∧Below W.heap.size W w'):=fun q k hq=>sorted6_any (cF q) (cF_enters q hq) (cmpMB q) (cmpMB_any q hq) k
 unfold SortPost
 go_enter Tryz.func16,Tryz.ntmps16
 go_wp2_with fail
 refine (look_any d o l _ _ HU.out).mono ?_
 rintro e w1 (⟨h0,rfl,hb1⟩|⟨h0,q,rfl,hq,hll,hrt,v,ms,rfl,hsl,hmt,hmm,hb1⟩)
 ·have h0':(lookE d o l==0)=false:=by simpa using h0
  have H0:Hid (lookE d o l≠0):=h0
  clear h0
  generalize hE:lookE d o l=E at *
  have HE:Hid (lookE d o l=E):=hE
  clear hE
  have hb2:Below w.heap.size w (w1.alloc (.cells #[.nilFunc,.nilFunc] 90)):=hb1.alloc hb1.size _
  go_wp2_with fail
  go_ret2
  exact .inl ⟨by rw [HE.out];exact H0.out,by rw [HE.out];rfl,hb2⟩
 ·have H0:Hid (lookE d q l=0):=h0
  clear h0 hrt
  have hb2:Below w.heap.size w (w1.alloc (.cells #[fv (mF q),fv (cF q)] 90)):=hb1.alloc hb1.size _
  have HS:Hid (SlM (w1.alloc (.cells #[fv (mF q),fv (cF q)] 90)) ms v):=hsl.keeps ((Grew.refl _).alloc _).below
  have Hl:Hid (ms.length=l.length):=by show _=_;rw [←hmt];simp
  have Hfin:Hid ((srt (ltG (cmpMB q)) (l.length+1) ms).map (·.t)=srtV (q:Int).toNat l):=by
   show _=_
   rw [srtM_map q _ ms hmm,hmt];rfl
  have Hs:Hid _:=Hsrt.out q l.length hq ms v
  clear Hsrt hsl hmt hmm hb1 HU
  obtain⟨b,o,c',rfl,_⟩:=HS.out
  generalize mF q=f0 at *
  generalize cF q=f1 at *
  go_wp2_with fail
  refine (Hs.out _ HS.out (by rw [Hl.out];exact hll) (by rw [Hl.out];omega)).mono ?_
  rintro e w2 ⟨v2,rfl,hs2,hg2⟩
  have hb3:Below w.heap.size w w2:=hb2.trans (hg2.mono hb2.size)
  have HS2:Hid _:=hs2
  clear hs2 hg2 Hs HS hb2
  go_wp2_with fail
  refine (copies_any _ _ _ HS2.out (by rw [srt_len,Hl.out];exact hll)).mono ?_
  rintro e w3 ⟨v3,rfl,hL3,hg3⟩
  rw [Hfin.out] at hL3
  have hL4:LiesB w.heap.size 17 w3 (srtV (q:Int).toNat l) v3:=LiesB.lower hb3.size _ _ _ hL3
  have hb4:Below w.heap.size w w3:=hb3.trans (hg3.mono hb3.size)
  have HL:Hid (LiesB w.heap.size 17 w3 (srtV (q:Int).toNat l) v3):=hL4
  clear hL3 hL4 hg3 HS2 hb3
  go_wp2_with fail
  go_ret2
  exact .inr ⟨H0.out,_,rfl,HL.out,hb4⟩
theorem ltO_as (q:Nat) (a b:VT) (h:ltO q a b=true):ltO q b a=false:=by
 unfold ltO at h ⊢
 have h1:=of_decide_eq_true h
 have h2:=zai q a b
 exact decide_eq_false (by omega)
theorem ltO_tr (q:Nat) (a b c:VT) (h1:ltO q b a=false) (h2:ltO q c b=false):ltO q c a=false:=by
 unfold ltO at h1 h2 ⊢
 have k1:=of_decide_eq_false h1
 have k2:=of_decide_eq_false h2
 have t1:=zai q a b
 have t2:=zai q b c
 have t3:=zai q a c
 have:=(ordV_goes q a b c (by omega) (by omega)).1
 exact decide_eq_false (by omega)
theorem srtV_up (q:Nat) (l:List VT):Up (ltO q) (srtV q l):=srt_up (ltO q) (ltO_as q) (ltO_tr q) _ l (by omega)
theorem up_one (q:Nat):∀(l m:List VT),l.Perm m→(∀x∈l,Good 16 x)→Up (ltO q) l→Up (ltO q) m→l=m:=by
 intro l
 induction l with
 | nil=>intro m hp _ _ _;exact hp.nil_eq
 | cons x l ih=>
  intro m hp hg hl hm
  cases m with
  | nil=>exact absurd hp.length_eq (by simp)
  | cons y m=>
   obtain⟨hl1,hl2⟩:=List.pairwise_cons.1 hl
   obtain⟨hm1,hm2⟩:=List.pairwise_cons.1 hm
   have hx:x∈y::m:=hp.subset List.mem_cons_self
   have hy:y∈x::l:=hp.symm.subset List.mem_cons_self
   have hself:∀a,ltO q a a=false:=fun a=>decide_eq_false (by have:=ordV_self q a;omega)
   have h1:ltO q x y=false:=by
    rcases List.mem_cons.1 hx with rfl|h
    ·exact hself _
    ·exact hm1 x h
   have h2:ltO q y x=false:=by
    rcases List.mem_cons.1 hy with rfl|h
    ·exact hself _
    ·exact hl1 y h
   have k1:=of_decide_eq_false (show decide (ordV q x y<0)=false from h1)
   have k2:=of_decide_eq_false (show decide (ordV q y x<0)=false from h2)
   have k3:=zai q x y
   have e:x=y:=ordV_eq q (hg x List.mem_cons_self) (hg y hy) (by omega)
   subst e
   rw [ih m (List.Perm.cons_inv hp) (fun z hz=>hg z (List.mem_cons_of_mem _ hz)) hl2 hm2]
theorem srtV_mem {q:Nat} {l:List VT} {x:VT} (h:x∈srtV q l):x∈l:=srt_mem _ _ _ _ h
theorem srtV_len (q:Nat) (l:List VT):(srtV q l).length=l.length:=srt_len _ _ _
theorem good_of {d:Nat} {w:World} {l:List VT} {u:Value} (hu:Lies (d+1) w l u) (h:zae d l=0):∀x∈l,Good 16 x:=by
 intro x hx
 obtain⟨_,h2⟩:=listErr_zero6 h
 obtain⟨a,c,rfl,_,ps,hps,hsd,_⟩:=Lies.row hu
 rw [←hps] at hx
 obtain⟨p,hp,rfl⟩:=List.mem_map.1 hx
 have hr:=h2 p.1 (by rw [←hps];exact List.mem_map.2 ⟨p,hp,rfl⟩)
 have hc:=canon (hsd p hp).1 hr
 exact⟨hc.2,Dp.of_lies 16 w p.1 _ hc.1⟩
end Go.Proofs.YtlnecfjnffdciacGreat
namespace Go.Proofs.YtlnecfjnffdciacGreat
open Go.RowKit
theorem srtV_perm (q:Nat) {l m:List VT} (hp:l.Perm m) (hg:∀x∈l,Good 16 x):srtV q l=srtV q m:=
 up_one q _ _ (((srt_perm _ _ _:(srtV q l).Perm l).trans hp).trans (srt_perm _ _ _:(srtV q m).Perm m).symm) (fun x hx=>hg x (srtV_mem hx)) (srtV_up q l) (srtV_up q m)
structure QC (X:Nat→Prop) (w:World) (q:Nat) (I:List VT) (b:Nat):Prop where
 ex:∃h tp,w.cell? ⟨b,2,none⟩=some (.pointer tp)∧HpO X w h tp∧(oItems h).Perm I∧oOk (ordV q) h
 order:w.cell? ⟨b,0,none⟩=some (.int .i64 (q:Int))
 size:w.cell? ⟨b,1,none⟩=some (.int .i64 (I.length:Int))
 lt:q<6
 le:I.length≤65536
def QM (X:Nat→Prop) (w:World) (q:Nat) (I:List VT) (p:Option Addr):Prop:=∃b,p=some ⟨b,0,none⟩∧QC X w q I b
def QN (X:Nat→Prop) (w:World) (q:Nat) (I:List VT) (p:Option Addr):Prop:=(p=none∧q=0∧I=[])∨QM X w q I p
theorem QC.keeps {X:Nat→Prop} {w w':World} (hb:Below w.heap.size w w') {q:Nat} {I:List VT} {b:Nat} (h:QC X w q I b):QC X w' q I b:=by
 obtain⟨t,tp,h1,h2,h3,h4⟩:=h.ex
 exact⟨⟨t,tp,zaa hb h1,h2.keeps hb,h3,h4⟩,zaa hb h.order,zaa hb h.size,h.lt,h.le⟩
theorem QM.nil (X:Nat→Prop) (w:World) (T:Nat):QC X (w.alloc (.cells #[.int .i64 0,.int .i64 0,.pointer none] T)) 0 [] w.heap.size:=
 ⟨⟨none,none,by simp,rfl,List.Perm.refl _,trivial⟩,by simp,by simp,by omega,by simp⟩
theorem own_nil19 (w:World):Calls Tryz.prog 51 #[.pointer none] w fun e w'=>e=.returned (.pointer (some ⟨w.heap.size,0,none⟩))∧w'=w.alloc (.cells #[.int .i64 0,.int .i64 0,.pointer none] 86):=by
 go_enter Tryz.func51,Tryz.ntmps51
 go_wp2_with fail
 go_ret
 exact⟨rfl,rfl⟩
theorem own_some19 (b:Nat) (w:World):Calls Tryz.prog 51 #[.pointer (some ⟨b,0,none⟩)] w fun e w'=>e=.returned (.pointer (some ⟨b,0,none⟩))∧w'=w:=by
 go_enter Tryz.func51,Tryz.ntmps51
 go_wp2_with fail
 go_ret
 exact⟨rfl,rfl⟩
def OwnPost (X:Nat→Prop) (q:Nat) (I:List VT) (w:World) (e:Ending) (w':World):Prop:=∃b,e=.returned (.pointer (some ⟨b,0,none⟩))∧QC X w' q I b∧Below w.heap.size w w'
theorem own_any19 {X:Nat→Prop} {q:Nat} {I:List VT} {p:Option Addr} {w:World} (h:QN X w q I p):Calls Tryz.prog 51 #[.pointer p] w (OwnPost X q I w):=by
 rcases h with ⟨rfl,rfl,rfl⟩|⟨b,rfl,hc⟩
 ·refine Calls.mono (own_nil19 w) ?_
  rintro e w' ⟨rfl,rfl⟩
  exact⟨_,rfl,QM.nil X w _,((Grew.refl w).alloc _).below⟩
 ·refine Calls.mono (own_some19 b w) ?_
  rintro e w' ⟨rfl,rfl⟩
  exact⟨_,rfl,hc,Below.refl _ _⟩
theorem zero_right19:zab 16 ⟨0,0,⟨#[]⟩,[]⟩=true:=by kernel_rfl
theorem checkOrder_any (o:Int) (w:World):Calls Tryz.prog 43 #[.int .i64 o] w fun e w'=>e=.returned (.int .i64 (if o<0∨6≤o then 4 else 0))∧Below w.heap.size w w':=by
 have hz:Lies 16 w (⟨0,0,⟨#[]⟩,[]⟩:VT).items (.slice none 0 0):=⟨none,0,rfl,by simp,fun h=>absurd rfl h⟩
 have hC:=compareO_any 16 o ⟨0,0,⟨#[]⟩,[]⟩ ⟨0,0,⟨#[]⟩,[]⟩ _ _ w hz hz (by decide) (by decide)
 have hE:ordE 16 o ⟨0,0,⟨#[]⟩,[]⟩ ⟨0,0,⟨#[]⟩,[]⟩=if o<0∨6≤o then 4 else 0:=by
  unfold ordE
  by_cases h:o<0∨6≤o
  ·rw [if_pos h,if_pos h]
  ·rw [if_neg h,if_neg h,if_pos ⟨zero_right19,zero_right19⟩]
 rw [hE] at hC
 generalize (if o<0∨6≤o then (4:Int) else 0)=E at *
 have HC:Hid _:=hC
 clear hz hC hE
 go_enter Tryz.func43,Tryz.ntmps43
 go_wp2_with fail
 refine Calls.mono HC.out ?_
 rintro e w1 ⟨rfl,hb⟩
 clear HC
 go_wp2_with fail
 go_ret
 exact⟨rfl,hb⟩
def OfPost (X:Nat→Prop) (d:Nat) (o:Int) (l:List VT) (w:World) (e:Ending) (w':World):Prop:=
 Below w.heap.size w w'∧((lookE d o l≠0∧e=.returned (.tuple #[.pointer none,.int .i64 (lookE d o l)]))∨(lookE d o l=0∧∃p,e=.returned (.tuple #[.pointer p,.int .i64 0])∧QM X w' o.toNat l p))
theorem canonL19 {w:World} {n:Nat} {l:List VT} {u:Value} (h:Lies (n+1) w l u) (hr:l.all (zab n)=true):Lies 17 w l u∧l.all (zab 16)=true:=by
 have hall:∀x∈l,Dp 16 x∧zab 16 x=true:=fun x hx=>by
  obtain⟨a,c,e,_,hr1⟩:=h
  obtain⟨i,hi,rfl⟩:=List.getElem_of_mem hx
  obtain⟨b,o,ha,hrow⟩:=hr1 (fun e=>by rw [e] at hi;cases hi)
  obtain⟨v,_,_,_,_,hL,_⟩:=hrow i hi
  have hd:=Dp.of_lies n w _ v hL
  have hrx:=List.all_eq_true.1 hr _ (List.getElem_mem hi)
  exact⟨right_deep hrx hd,(canon hL hrx).2⟩
 exact⟨Lies.lower 17 (n+1) l u h (by omega) (fun x hx=>(hall x hx).1),List.all_eq_true.2 fun x hx=>(hall x hx).2⟩
theorem of_any19 (X:Nat→Prop) (d:Nat) (o:Int) (l:List VT) (u:Value) (w:World) (hu:Lies (d+1) w l u) (hX:∀b,w.heap.size≤b→X b):Calls Tryz.prog 15 #[.int .i64 o,u] w (OfPost X d o l w):=by
 obtain⟨a,c,rfl,_⟩:=Lies.slice hu
 have HU:Hid (Lies (d+1) w l (.slice a l.length c)):=hu
 have HK:Hid _:=checkOrder_any o w
 by_cases ho:o<0∨6≤o
 ·have HE:Hid (∀V,Below w.heap.size w V→OfPost X d o l w (.returned (.tuple #[.pointer none,.int .i64 4])) V):=fun V hV=>by
   have e:lookE d o l=4:=by unfold lookE;rw [if_pos ho]
   exact⟨hV,.inl ⟨by rw [e];decide,by rw [e]⟩⟩
  rw [if_pos ho] at HK
  clear hu HU ho
  go_enter Tryz.func15,Tryz.ntmps15
  go_wp2_with fail
  refine Calls.mono HK.out ?_
  rintro e w1 ⟨rfl,hb⟩
  have HF:Hid _:=HE.out w1 hb
  clear HK HE
  go_wp2_with fail
  go_ret2
  exact HF.out
 ·obtain⟨q,rfl⟩:∃q:Nat,o=q:=⟨o.toNat,by omega⟩
  have hq:q<6:=by omega
  rw [if_neg ho] at HK
  have he:lookE d q l=zae d l:=by unfold lookE;rw [if_neg ho]
  have HQ:Hid (q<6):=hq
  have HX:Hid (∀b,w.heap.size≤b→X b):=hX
  clear ho hX hq
  by_cases hr:zae d l=0
  ·have hr1:l.length≤65536∧l.all (zab d)=true:=by
    unfold zae at hr
    split at hr
    ·cases hr
    ·split at hr
     ·rename_i h1 h2;exact⟨by omega,h2⟩
     ·cases hr
   obtain⟨hl17,hall⟩:=canonL19 hu hr1.2
   have HCk:Hid (∀V,Below w.heap.size w V→Calls Tryz.prog 44 #[.slice a l.length c,.func (.func 41) #[] #[]] V fun e w'=>e=.returned (.int .i64 0)∧Below V.heap.size V w'):=fun V hV=>by
    have:=checkAll_any d l _ V (Lies.keeps hV _ _ _ HU.out)
    rwa [hr] at this
   have HCp:Hid (∀V,Below w.heap.size w V→Calls Tryz.prog 46 #[.slice a l.length c] V fun e w'=>∃v,e=.returned v∧LiesB V.heap.size 17 w' l v∧Below V.heap.size V w'):=fun V hV=>copyAll_core 16 l _ V (Lies.keeps hV _ _ _ hl17) hr1.1 (fun x v W hx hv _=>copy_right x v W hv (List.all_eq_true.1 hall x hx))
   have HG:Hid (∀V g v,l.length≤65536→V.cell? ⟨g,0,none⟩=some (.int .i64 (q:Int))→SlI X V l v→Calls Tryz.prog 45 #[v,fnBy g] V (PairPost X q l V)):=fun V g v h1 h2 h3=>grown_any19 X q g HQ.out l v V h3 h1 h2
   have HE:Hid (∀V T b,Below w.heap.size w V→∀h p,b=V.heap.size→HpO X V h p→(oItems h).Perm l→oOk (ordV q) h→OfPost X d q l w (.returned (.tuple #[.pointer (some ⟨b,0,none⟩),.int .i64 0])) (V.alloc (.cells #[.int .i64 (q:Int),.int .i64 (l.length:Int),.pointer p] T))):=by
    intro V T b hV h p hbz hm hp hok
    subst hbz
    have hb':Below V.heap.size V (V.alloc (.cells #[.int .i64 (q:Int),.int .i64 (l.length:Int),.pointer p] T)):=((Grew.refl V).alloc _).below
    exact⟨hV.trans (hb'.mono hV.size),.inr ⟨by rw [he];exact hr,_,rfl,_,rfl,⟨⟨h,p,by simp,hm.keeps hb',hp,hok⟩,by simp,by simp,HQ.out,hr1.1⟩⟩⟩
   have HAll:Hid (∀x∈l,zab 16 x=true):=fun x hx=>List.all_eq_true.1 hall x hx
   have HL6:Hid (l.length≤65536):=hr1.1
   clear hu HU he hr hr1 hl17 hall
   go_enter Tryz.func15,Tryz.ntmps15
   go_wp2_with fail
   refine Calls.mono HK.out ?_
   rintro e w1 ⟨rfl,hb1⟩
   clear HK
   go_wp2_with fail
   refine Calls.mono (HCk.out _ hb1) ?_
   rintro e w2 ⟨rfl,hg2⟩
   have hb2:Below w.heap.size w w2:=hb1.trans (hg2.mono hb1.size)
   clear HCk hg2 hb1
   go_wp2_with fail
   refine Calls.mono (HCp.out _ hb2) ?_
   rintro e w3 ⟨v,rfl,hL,hg3⟩
   have hb3:Below w.heap.size w w3:=hb2.trans (hg3.mono hb2.size)
   have HSl:Hid (SlI X w3 l v):=SlI.of_liesX (LiesX.mono (fun b hb=>HX.out b (Nat.le_trans hb2.size hb)) (LiesX.of_b hL)) HAll.out
   obtain⟨av,cv,rfl,_⟩:=LiesB.slice hL
   clear HCp hg3 hb2 hL
   go_wp2_with fail
   refine Calls.mono (byOrder_any q w3) ?_
   rintro e w4 ⟨rfl,rfl⟩
   have hg4:Below w3.heap.size w3 (w3.alloc (.cells #[.int .i64 (q:Int)] 3)):=((Grew.refl w3).alloc _).below
   have hb4:Below w.heap.size w (w3.alloc (.cells #[.int .i64 (q:Int)] 3)):=hb3.trans (hg4.mono hb3.size)
   have HC4:Hid _:=HG.out (w3.alloc (.cells #[.int .i64 (q:Int)] 3)) w3.heap.size _ HL6.out (by simp) (HSl.out.keeps hg4)
   clear HG HSl hg4 hb3
   go_wp2_with fail
   refine Calls.mono HC4.out ?_
   rintro e w5 ⟨hg5,h,p,rfl,hm,hp,hok⟩
   have HF:Hid _:=HE.out w5 86 w5.heap.size (hb4.trans (hg5.mono hb4.size)) h p rfl hm hp hok
   clear HC4 HE hg5 hm hp hok hb4
   go_wp2_with fail
   go_ret2
   exact HF.out
  ·have HCk:Hid (∀V,Below w.heap.size w V→Calls Tryz.prog 44 #[.slice a l.length c,.func (.func 41) #[] #[]] V fun e w'=>e=.returned (.int .i64 (zae d l))∧Below V.heap.size V w'):=fun V hV=>checkAll_any d l _ V (Lies.keeps hV _ _ _ HU.out)
   have HE:Hid (∀V,Below w.heap.size w V→OfPost X d q l w (.returned (.tuple #[.pointer none,.int .i64 (zae d l)])) V):=fun V hV=>⟨hV,.inl ⟨by rw [he];exact hr,by rw [he]⟩⟩
   have h0':(zae d l==0)=false:=by simpa using hr
   generalize zae d l=E at *
   clear hu HU he hr
   go_enter Tryz.func15,Tryz.ntmps15
   go_wp2_with fail
   refine Calls.mono HK.out ?_
   rintro e w1 ⟨rfl,hb1⟩
   clear HK
   go_wp2_with fail
   refine Calls.mono (HCk.out _ hb1) ?_
   rintro e w2 ⟨rfl,hg2⟩
   have hb2:Below w.heap.size w w2:=hb1.trans (hg2.mono hb1.size)
   have HF:Hid _:=HE.out w2 hb2
   clear HCk hg2 hb1 HE hb2
   go_wp2_with fail
   go_ret2
   exact HF.out
theorem good19 {w:World} {l:List VT} {v:Value} (hv:Lies 17 w l v) (hl:l.length≤65536) (hr:∀x∈l,zab 16 x=true):zae 16 l=0∧∀x∈l,Good 16 x:=by
 have e:zae 16 l=0:=by
  unfold zae
  rw [if_neg (by omega),if_pos (List.all_eq_true.2 hr)]
 exact⟨e,good_of hv e⟩
def RowPost (l:List VT) (w:World) (e:Ending) (w':World):Prop:=∃v,e=.returned v∧LiesB w.heap.size 17 w' l v∧Below w.heap.size w w'
theorem sorted_19 (q:Nat) (hq:q<6) (l:List VT) (u:Value) (w:World) (hu:Lies 17 w l u) (hl:l.length≤65536) (hr:∀x∈l,zab 16 x=true):Calls Tryz.prog 52 #[.int .i64 (q:Int),u] w (RowPost (srtV q l) w):=by
 obtain⟨a,c,rfl,_⟩:=Lies.slice hu
 have hS:=sort6_any 16 (q:Int) l _ w hu
 have hE:lookE 16 (q:Int) l=0:=by
  unfold lookE
  rw [if_neg (by omega)]
  exact (good19 hu hl hr).1
 have HS:Hid (Calls Tryz.prog 16 #[.int .i64 (q:Int),.slice a l.length c] w fun e w'=>∃v,e=.returned (.tuple #[v,.int .i64 0])∧LiesB w.heap.size 17 w' (srtV q l) v∧Below w.heap.size w w'):=by
  refine Calls.mono hS ?_
  rintro e w' (⟨h0,_⟩|⟨_,v,rfl,h1,h2⟩)
  ·exact absurd hE h0
  ·exact⟨v,rfl,h1,h2⟩
 clear hS hE hu hr
 go_enter Tryz.func52,Tryz.ntmps52
 go_wp2_with fail
 refine Calls.mono HS.out ?_
 rintro e w1 ⟨v,rfl,hL,hb⟩
 have HE:Hid (RowPost (srtV q l) w (.returned v) w1):=⟨v,rfl,hL,hb⟩
 clear HS hL hb
 go_wp2_with fail
 go_ret
 exact HE.out
theorem QC.sorted {X:Nat→Prop} {w:World} {q:Nat} {I l:List VT} {b:Nat} (_:QC X w q I b) {W:World} {v:Value} (hs:SlI X W l v) (hp:l.Perm I) (hl:l.length≤65536):srtV q l=srtV q I:=
 srtV_perm q hp (good19 hs.lies hl hs.right).2
theorem sorted_any19 {X:Nat→Prop} {q:Nat} {I:List VT} {p:Option Addr} {w:World} (h:QN X w q I p):Calls Tryz.prog 19 #[.pointer p] w (RowPost (srtV q I) w):=by
 have HC:Hid _:=own_any19 h
 clear h
 go_enter Tryz.func19,Tryz.ntmps19
 go_wp2_with fail
 refine Calls.mono HC.out ?_
 rintro e w1 ⟨b,rfl,hc,hb⟩
 obtain⟨t,tp,h1,h2,h3,h4⟩:=hc.ex
 have c0:=hc.order
 have HQ:Hid (QC X w1 q I b):=hc
 have hlen:(oItems t).length≤65536:=by rw [h3.length_eq];exact hc.le
 have HI:Hid (∀V,Below w1.heap.size w1 V→Calls Tryz.prog 53 #[.pointer tp] V fun e w2=>∃v,e=.returned v∧Below V.heap.size V w2∧(∀V,Below w2.heap.size w2 V→Calls Tryz.prog 52 #[.int .i64 (q:Int),v] V (RowPost (srtV q I) V))):=by
  intro V hV
  refine Calls.mono (items19_any X t tp V (h2.keeps hV) hlen) ?_
  rintro e w2 ⟨hb2,v,l,rfl,hs,hp⟩
  have hp2:=hp.trans h3
  have hl:l.length≤65536:=by rw [hp2.length_eq];exact HQ.out.le
  refine⟨v,rfl,hb2,fun V2 hV2=>?_⟩
  rw [←HQ.out.sorted hs hp2 hl]
  exact sorted_19 q HQ.out.lt l v V2 (Lies.keeps hV2 _ _ _ hs.lies) hl hs.right
 have HB:Hid (Below w.heap.size w w1):=hb
 clear HC hc h2 h3 h4 hb hlen
 go_wp2_with fail
 go_region_held3 (fun w'=>w'.cell? ⟨b,0,none⟩=some (.int .i64 (q:Int))∧w'.cell? ⟨b,2,none⟩=some (.pointer tp)) (go_keep)
  (first
   | (go_at_call 52;(with_reducible refine Calls.mono (HS.out _ ?_) ?_);(first|exact Below.refl _ _|exact (Below.refl _ _).drew);rintro e w3 ⟨v3,rfl,hL,hg⟩;have hb3:Below w2.heap.size w2 w3:=hg;have hb4:Below w1.heap.size w1 w3:=hb2.trans (hb3.mono hb2.size);have HE:Hid (RowPost (srtV q I) w (.returned v3) w3):=⟨v3,rfl,LiesB.lower (Nat.le_trans HB.out.size hb2.size) _ _ _ hL,HB.out.trans (hb4.mono HB.out.size)⟩;have c0:=zaa hb3 c0;have h1:=zaa hb3 h1;clear hL hg HS hb3 hb4)
   | (go_at_call 53;(with_reducible refine Calls.mono (HI.out _ ?_) ?_);(first|exact Below.refl _ _|exact (Below.refl _ _).drew);rintro e w2 ⟨v2,rfl,hg2,hs2⟩;have hb2:Below w1.heap.size w1 w2:=(Below.refl _ _).drew.trans hg2;have HS:Hid _:=hs2;have c0:=zaa hb2 c0;have h1:=zaa hb2 h1;clear hs2 hg2 HI))
 go_wp2_with fail
 go_ret
 exact HE.out
end Go.Proofs.YtlnecfjnffdciacGreat
