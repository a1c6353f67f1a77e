import Derived.Test.YtlnecfjnffdciabGreatSorted6
import Derived.Test.YtlnecfjnffdciabGreatClo
set_option maxHeartbeats 2000000
namespace Go.Proofs.YtlnecfjnffdciabGreat
open Go.RowKit Go.Shelf
theorem right_len_all {t:VT} (hr:zac 16 t=true):Len 16 t:=by
 have h:=hr
 simp only [zac,Bool.and_eq_true] at h
 exact sm_len 16 t (fw_small 16 t 16 1024 (by omega) (by omega) h.1)
theorem right_rp6 {t:VT} (hr:zac 16 t=true):rpV 16 t=true:=by
 unfold zac at hr
 rw [Bool.and_eq_true] at hr
 exact hr.2
theorem rp_txt:∀(d:Nat) (t:VT),rpV d t=true→Txt (fun s=>s.size≤281474976710656) d t:=by
 intro d
 induction d with
 | zero=>
  intro t h
  have:=(right_text (d:=0) (t:=t) h).1
  show t.text.size≤281474976710656
  omega
 | succ d ih=>
  intro t h
  unfold rpV at h
  rw [Bool.and_eq_true,List.all_eq_true] at h
  have:=(right_text h.2).1
  exact⟨by show t.text.size≤281474976710656;omega,fun x hx=>ih x (h.1 x hx)⟩
theorem copy_right (t:VT) (u:Value) (w:World) (hl:Lies 16 w t.items u) (hr:zac 16 t=true):Calls Tryz.prog 130 #[.agg #[.int .i64 t.kind,.int .i64 t.num,.string t.text,u]] w (CopyPost 16 t w):=
 copyOf_any (fun s=>s.size≤281474976710656) txt_any 16 t u w hl (rp_txt 16 t (right_rp6 hr)) (right_len_all hr)
theorem make_values (n:Nat) (hn:n≤65536):∃M:Array Value,M.size=n*4∧∀W:World,(Instr.makeSlice 22 (.int .i64 (n:Int)) (.int .i64 (n:Int))).run Tryz.prog W=.ok (.slice (some ⟨W.heap.size,0,none⟩) n n) (W.alloc (.cells M 33)):=by
 obtain⟨i0,hi,hz0,hz1,hz2⟩:=info24
 refine⟨madeCells (Value.agg #[.int .i64 0,.int .i64 0,.string ⟨#[]⟩,.slice none 0 0]).cells (((n:Nat):Int).toNat*i0.size),?_,fun W=>?_⟩
 ·rw [size_madeCells,hz1];simp
 ·have h:=run_make (P:=Tryz.prog) W 22 33 i0 _ Tryz.underlying22 hi hz0 .i64 .i64 (n:Int) (n:Int) (by omega) (by omega) (by rw [hz2];omega) (by omega)
  simpa using h
theorem copies_any (ms:List MB) (v:Value) (w:World) (hv:SlM w ms v) (hlen:ms.length≤65536) :
 Calls Tryz.prog 236 #[v] w fun e w'=>∃v,e=.returned v∧LiesB w.heap.size 17 w' (ms.map (·.t)) v∧Below w.heap.size w w':=by
 obtain⟨b1,o1,c,rfl,hc,hrow,hgd⟩:=hv
 have Hr:Hid (RowM w b1 o1 ms):=hrow
 have HG:Hid (∀p∈ms,GoodM w p):=hgd
 clear hrow hgd hc
 obtain⟨M,hMs,hmk⟩:=make_values ms.length hlen
 have HMs:Hid (M.size=ms.length*4):=hMs
 clear hMs
 go_enter Tryz.func236,Tryz.ntmps236
 go_wp2_with fail
 go_loopg [11] ms.length (fun q i wr=>∃(j:Nat) (ps:List (VT×Value)),i=.int .i64 (j:Int)∧j≤ms.length∧q=ms.length-j∧Hid (ps.length=j∧ps.map (·.1)=(ms.take j).map (·.t))∧Copied w.heap.size ms.length 16 wr ps∧Below w.heap.size w wr)
 case atStart=>
  refine⟨0,[],rfl,by omega,by omega,⟨rfl,rfl⟩,⟨(fun i hi=>by cases hi),(fun p hp=>by cases hp),(fun k hk=>?_),(by simp)⟩,(Below.refl _ _).alloc (Nat.le_refl _) _⟩
  have hk':k<M.size:=by rw [HMs.out];exact hk
  simp [hk']
 case round=>
  obtain⟨j,ps,rfl,hj,hk,Hps,hcp,hbw⟩:=hrel
  have Hk:Hid _:=hk
  have HC:Hid (Copied w.heap.size ms.length 16 wr ps):=hcp
  clear hk hcp hmk
  by_cases hlt:j<ms.length
  ·obtain⟨p0,p1,p2,p3,p4⟩:=Hr.out j hlt
   have hgd:=HG.out ms[j] (List.getElem_mem hlt)
   have Htk:Hid ((ms.take (j+1)).map (·.t)=(ms.take j).map (·.t)++[ms[j].t]):=by
    show _=_
    rw [List.take_succ_eq_append_getElem hlt,List.map_append];rfl
   generalize ms[j]=x at *
   obtain⟨t,u,m⟩:=x
   obtain⟨ax,cx,hu,_⟩:=Lies.slice hgd.lies
   simp only at hu p0 p1 p2 p3 p4
   subst hu
   have HGd:Hid (GoodM w ⟨t,.slice ax t.items.length cx,m⟩):=hgd
   clear hgd
   have p0:=zaa hbw p0;have p1:=zaa hbw p1;have p2:=zaa hbw p2;have p3:=zaa hbw p3;have p4:=zaa hbw p4
   have hl1:b1<wr.heap.size:=zad p0
   have hws2:w.heap.size≤wr.heap.size:=hbw.size
   have hG:=HC.out.lt
   go_wp2_with fail
   refine (copy_right t _ _ (Lies.keeps (hbw.alloc hws2 _) _ _ _ HGd.out.lies) HGd.out.right).mono ?_
   rintro e w1 ⟨v,rfl,hLB,hg⟩
   have hb2:Below w.heap.size w w1:=(hbw.alloc hws2 _).trans (hg.mono (by simp;omega))
   have HC1:Hid (Copied w.heap.size ms.length 16 w1 ps):=(HC.out.keeps ((Below.refl _ _).alloc (Nat.le_refl _) _)).keeps hg
   obtain⟨av,cv,rfl,_⟩:=LiesB.slice hLB
   have HLB:Hid (LiesB (w.heap.size+1) 16 w1 t.items (.slice av t.items.length cv)):=LiesB.lower (by simp;omega) _ _ _ hLB
   clear hg p0 p1 p2 p3 p4 hLB HC
   have hpl:=Hps.out.1
   obtain⟨v0,s0⟩:=Option.isSome_iff_exists.1 (HC1.out.there (j*4) (by omega)).1
   obtain⟨v1,s1⟩:=Option.isSome_iff_exists.1 (HC1.out.there (j*4+1) (by omega)).1
   obtain⟨v2,s2⟩:=Option.isSome_iff_exists.1 (HC1.out.there (j*4+2) (by omega)).1
   obtain⟨v3,s3⟩:=Option.isSome_iff_exists.1 (HC1.out.there (j*4+3) (by omega)).1
   have z0:=(HC1.out.there (j*4) (by omega)).2
   have z1:=(HC1.out.there (j*4+1) (by omega)).2
   have z2:=(HC1.out.there (j*4+2) (by omega)).2
   have z3:=(HC1.out.there (j*4+3) (by omega)).2
   have hput:=HC1.out.put (t,.slice av t.items.length cv) ⟨HLB.out,by have:=right_short HGd.out.right;simp only at this ⊢;omega⟩ (by omega)
   rw [hpl] at hput
   have Hput:Hid _:=hput
   clear hput hpl
   go_wp2_with fail
   go_roundg (ms.length-(j+1))
   case measure=>have:=Hk.out;omega
   case rel=>
    refine⟨j+1,ps++[(t,Value.slice av t.items.length cv)],by go_num,by omega,rfl,?_,Hput.out,?_⟩
    ·refine⟨by simp [Hps.out.1],?_⟩
     rw [List.map_append,Hps.out.2,Htk.out];rfl
    ·exact (((hb2.setCell (p:=⟨w.heap.size,j*4,none⟩) (Nat.le_refl _) _).setCell (p:=⟨w.heap.size,j*4+1,none⟩) (Nat.le_refl _) _).setCell (p:=⟨w.heap.size,j*4+2,none⟩) (Nat.le_refl _) _).setCell (p:=⟨w.heap.size,j*4+3,none⟩) (Nat.le_refl _) _
  ·have hjl:j=ms.length:=by omega
   have hd:=HC.out.done (by have:=Hps.out.1;omega) ms.length (by have:=Hps.out.1;omega) (by have:=Hps.out.1;omega)
   rw [Hps.out.2,Hps.out.1,hjl,List.take_length] at hd
   have Hd:Hid (LiesB w.heap.size 17 wr (ms.map (·.t)) (.slice (some ⟨w.heap.size,0,none⟩) ms.length ms.length)):=hd
   clear hd hjl HC Hr HG
   go_wp2_with fail
   go_ret
   exact⟨_,rfl,Hd.out,hbw⟩
abbrev cmpMB (q:Nat) (p r:MB):Int:=ordM q p.t r.t p.m r.m
theorem cmpMB_any (q:Nat) (hq:q<6):Hid (∀(p r:MB) (W:World),GoodM W p→GoodM W r→Calls Tryz.prog (cF q) #[.agg #[.int .i64 p.t.kind,.int .i64 p.t.num,.string p.t.text,p.u,.int .u64 p.m],.agg #[.int .i64 r.t.kind,.int .i64 r.t.num,.string r.t.text,r.u,.int .u64 r.m]] W fun e W'=>e=.returned (.int .i64 (cmpMB q p r))∧Grew W W'):=
 fun p r W h1 h2=>cmpO_any q hq p.t r.t p.u r.u p.m r.m W h1.lies h2.lies
def ltO (q:Nat) (y x:VT):Bool:=decide (ordV q y x<0)
def srtV (q:Nat) (l:List VT):List VT:=srt (ltO q) (l.length+1) l
theorem srtM_map (q n:Nat) (ms:List MB) (h:∀p∈ms,p.m=msr q p.t):(srt (ltG (cmpMB q)) n ms).map (·.t)=srt (ltO q) n (ms.map (·.t)):=
 srt_map (·.t) _ _ (fun p=>p.m=msr q p.t) (fun x y hx hy=>by unfold ltG ltO cmpMB ordV;rw [hx,hy]) n ms h
def SortPost (d:Nat) (o:Int) (l:List VT) (w:World) (e:Ending) (w':World):Prop:=
 (lookE d o l≠0∧e=.returned (.tuple #[.slice none 0 0,.int .i64 (lookE d o l)])∧Below w.heap.size w w')∨
 (lookE d o l=0∧∃v,e=.returned (.tuple #[v,.int .i64 0])∧LiesB w.heap.size 17 w' (srtV o.toNat l) v∧Below w.heap.size w w')
theorem look_any (d:Nat) (o:Int) (l:List VT) (u:Value) (w:World) (hu:Lies (d+1) w l u) :
 Calls Tryz.prog 235 #[.int .i64 o,u] w fun e w'=>(lookE d o l≠0∧NonePost (lookE d o l) w e w')∨(lookE d o l=0∧∃q:Nat,o=q∧q<6∧l.length≤65536∧(∀x∈l,zac d x=true)∧∃v ms,e=.returned (.tuple #[.agg #[fv (mF q),fv (cF q)],v,.int .i64 0])∧SlM w' ms v∧ms.map (·.t)=l∧(∀p∈ms,p.m=msr q p.t)∧Below w.heap.size w w'):=by
 by_cases ho:o<0∨6≤o
 ·have hE:lookE d o l=4:=by unfold lookE;rw [if_pos ho]
  rw [hE]
  obtain⟨a,c,rfl,_⟩:=Lies.slice hu
  exact (look_kind o a _ c w ho).mono fun e w' h=>.inl ⟨by omega,h⟩
 ·obtain⟨q,rfl⟩:∃q:Nat,o=q:=⟨o.toNat,by omega⟩
  have hE:lookE d q l=zar d l:=by unfold lookE;rw [if_neg ho]
  rw [hE]
  refine (look_some d q (by omega) l u w hu).mono fun e w' h=>?_
  rcases h with h|⟨h0,v,ms,h⟩
  ·exact .inl h
  ·exact .inr ⟨h0,q,rfl,by omega,(listErr_zero6 h0).1,(listErr_zero6 h0).2,v,ms,h⟩
theorem sort6_any (d:Nat) (o:Int) (l:List VT) (u:Value) (w:World) (hu:Lies (d+1) w l u):Calls Tryz.prog 172 #[.int .i64 o,u] w (SortPost d o l w):=by
 obtain⟨a,c,rfl,_⟩:=Lies.slice hu
 have HU:Hid (Lies (d+1) w l (.slice a l.length c)):=hu
 clear hu
 have Hsrt:Hid (∀(q k:Nat),q<6→∀(ms:List MB) (v:Value) (W:World),SlM W ms v→ms.length≤65536→ms.length≤k+1→Calls Tryz.prog 237 #[v,fv (cF q)] W fun e w'=>∃v,e=.returned v∧SlM w' (srt (ltG (cmpMB q)) (k+1) ms) v∧Below W.heap.size W w'):=fun q k hq=>sorted6_any (cF q) (cF_enters q hq) (cmpMB q) (cmpMB_any q hq) k
 unfold SortPost
 go_enter Tryz.func172,Tryz.ntmps172
 go_wp2_with fail
 refine (look_any d o l _ _ HU.out).mono ?_
 rintro e w1 (⟨h0,rfl,hb1⟩|⟨h0,q,rfl,hq,hll,hrt,v,ms,rfl,hsl,hmt,hmm,hb1⟩)
 ·have h0':(lookE d o l==0)=false:=by simpa using h0
  have H0:Hid (lookE d o l≠0):=h0
  clear h0
  generalize hE:lookE d o l=E at *
  have HE:Hid (lookE d o l=E):=hE
  clear hE
  have hb2:Below w.heap.size w (w1.alloc (.cells #[.nilFunc,.nilFunc] 281)):=hb1.alloc hb1.size _
  go_wp2_with fail
  go_ret2
  exact .inl ⟨by rw [HE.out];exact H0.out,by rw [HE.out];rfl,hb2⟩
 ·have H0:Hid (lookE d q l=0):=h0
  clear h0 hrt
  have hb2:Below w.heap.size w (w1.alloc (.cells #[fv (mF q),fv (cF q)] 281)):=hb1.alloc hb1.size _
  have HS:Hid (SlM (w1.alloc (.cells #[fv (mF q),fv (cF q)] 281)) ms v):=hsl.keeps ((Grew.refl _).alloc _).below
  have Hl:Hid (ms.length=l.length):=by show _=_;rw [←hmt];simp
  have Hfin:Hid ((srt (ltG (cmpMB q)) (l.length+1) ms).map (·.t)=srtV (q:Int).toNat l):=by
   show _=_
   rw [srtM_map q _ ms hmm,hmt];rfl
  have Hs:Hid _:=Hsrt.out q l.length hq ms v
  clear Hsrt hsl hmt hmm hb1 HU
  obtain⟨b,o,c',rfl,_⟩:=HS.out
  generalize mF q=f0 at *
  generalize cF q=f1 at *
  go_wp2_with fail
  refine (Hs.out _ HS.out (by rw [Hl.out];exact hll) (by rw [Hl.out];omega)).mono ?_
  rintro e w2 ⟨v2,rfl,hs2,hg2⟩
  have hb3:Below w.heap.size w w2:=hb2.trans (hg2.mono hb2.size)
  have HS2:Hid _:=hs2
  clear hs2 hg2 Hs HS hb2
  go_wp2_with fail
  refine (copies_any _ _ _ HS2.out (by rw [srt_len,Hl.out];exact hll)).mono ?_
  rintro e w3 ⟨v3,rfl,hL3,hg3⟩
  rw [Hfin.out] at hL3
  have hL4:LiesB w.heap.size 17 w3 (srtV (q:Int).toNat l) v3:=LiesB.lower hb3.size _ _ _ hL3
  have hb4:Below w.heap.size w w3:=hb3.trans (hg3.mono hb3.size)
  have HL:Hid (LiesB w.heap.size 17 w3 (srtV (q:Int).toNat l) v3):=hL4
  clear hL3 hL4 hg3 HS2 hb3
  go_wp2_with fail
  go_ret2
  exact .inr ⟨H0.out,_,rfl,HL.out,hb4⟩
end Go.Proofs.YtlnecfjnffdciabGreat
