import Derived.Test.YtcflooaoocngdaaGreatTwo2
import Derived.Test.YtcflooaoocngdaaGreatConcat
namespace Go.Proofs.YtcflooaoocngdaaGreat
open Go.RowKit
def conjL (t s:VT):List VT:=(if t.kind=4 then t.items else [])++[s]
def conjT (t s:VT):VT:=if (fw 17 (listT (conjL t s)) 16 1024).1=true then listT (conjL t s) else t
def conj5 (w:World) (t s:VT) (u v x:Value):World:=
 ((two3 w t s u v).alloc (.cells #[.int .i64 s.kind,.int .i64 s.num,.string s.text,v] 27)).alloc (.cells #[x,.slice (some ⟨w.heap.size+1+1+1,0,none⟩) 1 1] 22)
theorem conj5_below (w:World) (t s:VT) (u v x:Value):Below w.heap.size w (conj5 w t s u v x):=grew5 _ _ _ _ _ _
theorem conj5_size (w:World) (t s:VT) (u v x:Value):(conj5 w t s u v x).heap.size=w.heap.size+5:=by unfold conj5;rw [World.size_alloc,World.size_alloc,zaq]
theorem conj5_row (w:World) (t s:VT) (u v x:Value):Bx (conj5 w t s u v x) (w.heap.size+3) s v:=by
 have:=(zaj (two3 w t s u v) s v).keeps ((Grew.refl _).alloc (.cells #[x,.slice (some ⟨w.heap.size+1+1+1,0,none⟩) 1 1] 22)).below
 rwa [zaq] at this
theorem conj5_fst (w:World) (t s:VT) (u v x:Value):(conj5 w t s u v x).cell? ⟨w.heap.size+4,0,none⟩=some x:=by
 have e:w.heap.size+4=((two3 w t s u v).alloc (.cells #[.int .i64 s.kind,.int .i64 s.num,.string s.text,v] 27)).heap.size:=by rw [World.size_alloc,zaq]
 rw [e];unfold conj5;simp
theorem conj5_snd (w:World) (t s:VT) (u v x:Value):(conj5 w t s u v x).cell? ⟨w.heap.size+4,1,none⟩=some (.slice (some ⟨w.heap.size+3,0,none⟩) 1 1):=by
 have e:w.heap.size+4=((two3 w t s u v).alloc (.cells #[.int .i64 s.kind,.int .i64 s.num,.string s.text,v] 27)).heap.size:=by rw [World.size_alloc,zaq]
 rw [e];unfold conj5;simp
theorem conjL_right {t s:VT} (hr:zab 16 t=true) (hd:Dp 16 t) (hr2:zab 16 s=true) (hd2:Dp 16 s):∀x∈conjL t s,zab 16 x=true∧Dp 16 x:=by
 intro x hx
 unfold conjL at hx
 rcases List.mem_append.1 hx with h|h
 ·by_cases hk:t.kind=4
  ·rw [if_pos hk] at h;exact item_right hr hd h
  ·rw [if_neg hk] at h;cases h
 ·have:x=s:=by simpa using h
  subst this;exact⟨hr2,hd2⟩
theorem conj_right {t s:VT} (hr:zab 16 t=true) (hd:Dp 16 t) (hr2:zab 16 s=true) (hd2:Dp 16 s):zab 16 (conjT t s)=true∧Dp 16 (conjT t s):=by
 unfold conjT
 split
 ·exact list_right16 (fun x hx=>(conjL_right hr hd hr2 hd2 x hx).1) (fun x hx=>(conjL_right hr hd hr2 hd2 x hx).2) ‹_›
 ·exact⟨hr,hd⟩
set_option maxHeartbeats 4000000 in
theorem conj_any (X:Nat→Prop) (t s:VT) (a a2:Option Addr) (l c l2 c2:Nat) (w:World) (h:LiesX X 16 w t.items (.slice a l c)) (h2:LiesX X 16 w s.items (.slice a2 l2 c2)) (hr:zab 16 t=true) (hr2:zab 16 s=true):Calls Tryz.prog 113 #[.agg #[.int .i64 t.kind,.int .i64 t.num,.string t.text,.slice a l c],.agg #[.int .i64 s.kind,.int .i64 s.num,.string s.text,.slice a2 l2 c2]] w (FnPost X (conjT t s) w):=by
 have hd:=Dp.of_lies 16 w t _ h.lies
 have hd2:=Dp.of_lies 16 w s _ h2.lies
 have hsz:=right_size hr2
 have HDp:Hid (∀x∈conjL t s,Dp 16 x):=fun x hx=>(conjL_right hr hd hr2 hd2 x hx).2
 have HLt:Hid (LiesX X 16 w t.items (.slice a l c)):=h
 have HSs:Hid (LiesX (fun b=>X b∧b<w.heap.size) 16 w s.items (.slice a2 l2 c2)∧s.text.size≤9223372036854775807):=⟨h2.both,by omega⟩
 have hle:=right_len hr
 cases hk:(t.kind==4)
 ·have k4 : ¬t.kind=4:=by simpa using hk
  obtain⟨ps,hps⟩:∃ps:List (VT×Value),ps=[]:=⟨[],rfl⟩
  obtain⟨A0,hA0⟩:∃A0:Option Addr,A0=none:=⟨none,rfl⟩
  obtain⟨C0,hC0⟩:∃C0:Nat,C0=0:=⟨0,rfl⟩
  have hpl:ps.length=0:=by rw [hps];rfl
  have HSo:Hid (∀q∈ps,LiesX (fun b=>X b∧b<w.heap.size) 16 w q.1.items q.2∧q.1.text.size≤9223372036854775807):=fun q hq=>by rw [hps] at hq;cases hq
  have HCL:Hid ((ps++[(s,Value.slice a2 l2 c2)]).map (·.1)=conjL t s):=by show _=_;unfold conjL;rw [hps,if_neg k4];rfl
  have HRo:Hid (ps≠[]→∃b o,A0=some ⟨b,o,none⟩∧RowAt w b o ps):=fun h=>absurd hps h
  have hlen:ps.length≤1024:=by omega
  have HIT:Hid (Value.slice none 0 0=.slice A0 ps.length C0):=by show _=_;rw [hA0,hC0,hpl]
  clear h h2 hr hr2 hd hd2 hsz hps hA0 hC0 k4 hle hpl
  have HB:=conj5_below w t s (.slice a l c) (.slice a2 l2 c2) (.slice none 0 0)
  have HX:Hid (Bx (conj5 w t s (.slice a l c) (.slice a2 l2 c2) (.slice none 0 0)) w.heap.size t (.slice a l c)):=(two3_first _ _ _ _ _).keeps (Grew.two _ _ _).below
  have HR:Hid (Bx (conj5 w t s (.slice a l c) (.slice a2 l2 c2) (.slice none 0 0)) (w.heap.size+2) zeroT (.slice none 0 0)):=(two3_res _ _ _ _ _).keeps (Grew.two _ _ _).below
  have Hz:Hid ((conj5 w t s (.slice a l c) (.slice a2 l2 c2) (.slice none 0 0)).heap.size=w.heap.size+5):=conj5_size _ _ _ _ _ _
  have HC:Hid (Bx (conj5 w t s (.slice a l c) (.slice a2 l2 c2) (.slice none 0 0)) (w.heap.size+3) s (.slice a2 l2 c2)):=conj5_row _ _ _ _ _ _
  have HP0:Hid ((conj5 w t s (.slice a l c) (.slice a2 l2 c2) (.slice none 0 0)).cell? ⟨w.heap.size+4,0,none⟩=some (.slice none 0 0)):=conj5_fst _ _ _ _ _ _
  have HP1:Hid ((conj5 w t s (.slice a l c) (.slice a2 l2 c2) (.slice none 0 0)).cell? ⟨w.heap.size+4,1,none⟩=some (.slice (some ⟨w.heap.size+3,0,none⟩) 1 1)):=conj5_snd _ _ _ _ _ _
  go_enter Tryz.func113,Tryz.ntmps113
  go_wp2_with fail
  refine (concat_any 16 ps (s,.slice a2 l2 c2) A0 C0 (w.heap.size+4) (w.heap.size+3) _ (HP0.out.trans (congrArg some HIT.out)) HP1.out (fun hne=>by obtain⟨b,o,ha,hrw⟩:=HRo.out hne;exact⟨b,o,ha,hrw.keeps HB⟩) (fun q hq=>⟨((HSo.out q hq).1.keeps HB).lies,(HSo.out q hq).2⟩) (fun i hi=>by
   have:i=0:=by simp at hi;omega
   subst this
   exact⟨HC.out.c0,HC.out.c1,HC.out.c2,HC.out.c3⟩) ⟨(HSs.out.1.keeps HB).lies,HSs.out.2⟩ hlen).mono ?_
  rintro e w1 ⟨v1,rfl,hown,hb⟩
  have hb:Below (conj5 w t s (.slice a l c) (.slice a2 l2 c2) (.slice none 0 0)).heap.size (conj5 w t s (.slice a l c) (.slice a2 l2 c2) (.slice none 0 0)) w1:=hb
  have hb1:Below w.heap.size w w1:=HB.trans (hb.mono HB.size)
  obtain⟨g,cap,rfl,hgb,hcap,hlt,hrw,_⟩:=own_row hown (by simp)
  have hgb:w.heap.size+5≤g:=by rw [Hz.out] at hgb;exact hgb
  have HL1:Hid (LiesX (fun b=>(X b∧b<w.heap.size)∨w.heap.size+5≤b) 17 w1 (conjL t s) (.slice (some ⟨g,0,none⟩) (ps++[(s,Value.slice a2 l2 c2)]).length cap)):=by
   have h:=liesX_row (X:=fun b=>(X b∧b<w.heap.size)∨w.heap.size+5≤b) (d:=16) (c:=cap) hrw (.inr hgb) (fun q hq=>by
    rcases List.mem_append.1 hq with hq|hq
    ·exact⟨((HSo.out q hq).1.keeps hb1).mono (fun b hb=>.inl hb),(HSo.out q hq).2⟩
    ·have:q=(s,Value.slice a2 l2 c2):=by simpa using hq
     subst this
     exact⟨(HSs.out.1.keeps hb1).mono (fun b hb=>.inl hb),HSs.out.2⟩) (by simp;omega) hcap
   have e:(ps++[(s,Value.slice a2 l2 c2)]).map (·.1)=conjL t s:=HCL.out
   rwa [e] at h
  have HX1:Hid (Bx w1 w.heap.size t (.slice a l c)):=HX.out.keeps hb
  have HR1:Hid (Bx w1 (w.heap.size+2) zeroT (.slice none 0 0)):=HR.out.keeps hb
  have hsz1:w.heap.size+5≤w1.heap.size:=by have:=hb.size;rw [Hz.out] at this;exact this
  clear hown hrw hb HB HX HR HC HP0 HP1 Hz hcap hlt hgb
  generalize (ps++[(s,Value.slice a2 l2 c2)]).length=LN at *
  have hal:Below w1.heap.size w1 (w1.alloc (.cells #[.int .i64 4,.int .i64 0,.string ⟨#[]⟩,.slice (some ⟨g,0,none⟩) LN cap] 27)):=((Grew.refl _).alloc _).below
  have HLo:Hid (Bx (w1.alloc (.cells #[.int .i64 4,.int .i64 0,.string ⟨#[]⟩,.slice (some ⟨g,0,none⟩) LN cap] 27)) w1.heap.size (listT (conjL t s)) (.slice (some ⟨g,0,none⟩) LN cap)):=zaj w1 (listT (conjL t s)) _
  go_wp2_with fail
  refine (fits_any 17 (listT (conjL t s)) (.slice (some ⟨g,0,none⟩) LN cap) _ (HL1.out.keeps hal).lies).mono ?_
  rintro e w2 ⟨rfl,hb⟩
  have hb:Below (w1.alloc (.cells #[.int .i64 4,.int .i64 0,.string ⟨#[]⟩,.slice (some ⟨g,0,none⟩) LN cap] 27)).heap.size (w1.alloc (.cells #[.int .i64 4,.int .i64 0,.string ⟨#[]⟩,.slice (some ⟨g,0,none⟩) LN cap] 27)) w2:=hb
  have hb12:Below w1.heap.size w1 w2:=hal.trans (hb.mono hal.size)
  have hb2:Below w.heap.size w w2:=hb1.trans (hb12.mono hb1.size)
  have HX2:Hid (Bx w2 w.heap.size t (.slice a l c)):=HX1.out.keeps hb12
  have HR2:Hid (Bx w2 (w.heap.size+2) zeroT (.slice none 0 0)):=HR1.out.keeps hb12
  have HLo2:Hid (Bx w2 w1.heap.size (listT (conjL t s)) (.slice (some ⟨g,0,none⟩) LN cap)):=HLo.out.keeps hb
  have HL2:Hid (LiesX (fun b=>(X b∧b<w.heap.size)∨w.heap.size+5≤b) 17 w2 (conjL t s) (.slice (some ⟨g,0,none⟩) LN cap)):=HL1.out.keeps hb12
  clear hb hb12 hal HX1 HR1 HL1 HLo
  cases hf:(fw 17 (listT (conjL t s)) 16 1024).1
  ·have He:Hid (conjT t s=t):=by show _=_;unfold conjT;rw [hf];rfl
   clear hf HLo2 HL2
   obtain⟨x0,x1,x2,x3,_,_,_,_⟩:=HX2.out
   obtain⟨y0,y1,y2,y3,z0,z1,z2,z3⟩:=HR2.out
   have Hbx:Hid (Bx (w2.setCells (w.heap.size+2) 0 (encP (t,.slice a l c))) (w.heap.size+2) t (.slice a l c)):=HR2.out.put (t,.slice a l c)
   have Hbl:Hid (Below w.heap.size w (w2.setCells (w.heap.size+2) 0 (encP (t,.slice a l c)))):=zag hb2 (by omega) (t,.slice a l c)
   have Hfin:Hid (LiesX (fun b=>X b∨w.heap.size≤b) 16 (w2.setCells (w.heap.size+2) 0 (encP (t,.slice a l c))) t.items (.slice a l c)):=((HLt.out.both.keeps hb2).set (g:=w.heap.size+2) (by omega)).mono (fun b hb=>.inl hb.1)
   go_wp2_with fail
   refine bodyPost_ret (v:=.agg #[.int .i64 t.kind,.int .i64 t.num,.string t.text,.slice a l c]) ?_ rfl (by rw [He.out];exact⟨_,rfl,Hfin.out,Hbl.out⟩)
   obtain⟨q0,q1,q2,q3,_,_,_,_⟩:=Hbx.out
   simp only [encP,World.setCells,Nat.zero_add,Nat.reduceAdd] at q0 q1 q2 q3
   simp [results,Tryz.results113,go_sem,q0,q1,q2,q3]
  ·have He:Hid (conjT t s=listT (conjL t s)):=by show _=_;unfold conjT;rw [hf];rfl
   have hd:Dp 16 (listT (conjL t s)):=dp_list hf HDp.out
   clear hf HX2
   obtain⟨x0,x1,x2,x3,_,_,_,_⟩:=HLo2.out
   simp only [listT] at x0 x1 x2
   obtain⟨y0,y1,y2,y3,z0,z1,z2,z3⟩:=HR2.out
   have Hbx:Hid (Bx (w2.setCells (w.heap.size+2) 0 (encP (listT (conjL t s),.slice (some ⟨g,0,none⟩) LN cap))) (w.heap.size+2) (listT (conjL t s)) (.slice (some ⟨g,0,none⟩) LN cap)):=HR2.out.put (listT (conjL t s),.slice (some ⟨g,0,none⟩) LN cap)
   have Hbl:Hid (Below w.heap.size w (w2.setCells (w.heap.size+2) 0 (encP (listT (conjL t s),.slice (some ⟨g,0,none⟩) LN cap)))):=zag hb2 (by omega) (listT (conjL t s),.slice (some ⟨g,0,none⟩) LN cap)
   have Hfin:Hid (LiesX (fun b=>X b∨w.heap.size≤b) 16 (w2.setCells (w.heap.size+2) 0 (encP (listT (conjL t s),.slice (some ⟨g,0,none⟩) LN cap))) (conjL t s) (.slice (some ⟨g,0,none⟩) LN cap)):=by
    have h2:=HL2.out.set (g:=w.heap.size+2) (o:=0) (vs:=encP (listT (conjL t s),.slice (some ⟨g,0,none⟩) LN cap)) (by omega)
    exact (LiesX.to (t:=listT (conjL t s)) h2 hd).mono (fun b hb=>hb.imp (fun h=>h.1) (fun h=>by omega))
   clear HL2 hd HLo2
   go_wp2_with fail
   refine bodyPost_ret (v:=.agg #[.int .i64 4,.int .i64 0,.string ⟨#[]⟩,.slice (some ⟨g,0,none⟩) LN cap]) ?_ rfl (by rw [He.out];exact⟨_,rfl,Hfin.out,Hbl.out⟩)
   obtain⟨q0,q1,q2,q3,_,_,_,_⟩:=Hbx.out
   simp only [encP,listT,World.setCells,Nat.zero_add,Nat.reduceAdd] at q0 q1 q2 q3
   simp [results,Tryz.results113,go_sem,q0,q1,q2,q3]
 ·have k4:t.kind=4:=by simpa using hk
  obtain⟨A0,C0,hv,ps,hps,hsd,hrow⟩:=LiesX.row (d:=15) h.both
  injection hv with hv1 hv2 hv3
  have hpl:ps.length=t.items.length:=by rw [←hps,List.length_map]
  have HSo:Hid (∀q∈ps,LiesX (fun b=>X b∧b<w.heap.size) 16 w q.1.items q.2∧q.1.text.size≤9223372036854775807):=fun q hq=>⟨(hsd q hq).1.atLeast 16 (by omega),(hsd q hq).2⟩
  have HCL:Hid ((ps++[(s,Value.slice a2 l2 c2)]).map (·.1)=conjL t s):=by show _=_;unfold conjL;rw [if_pos k4,←hps];simp
  have HRo:Hid (ps≠[]→∃b o,A0=some ⟨b,o,none⟩∧RowAt w b o ps):=fun hne=>by
   obtain⟨b,o,h1,_,h3⟩:=hrow (fun e=>hne (by rw [e] at hps;simpa using hps))
   exact⟨b,o,h1,h3⟩
  have hlen:ps.length≤1024:=by omega
  have HIT:Hid (Value.slice a l c=.slice A0 ps.length C0):=by show _=_;rw [hv1,hv2,hv3,hpl]
  clear h h2 hr hr2 hd hd2 hsz hps k4 hle hpl hsd hrow hv1 hv2 hv3
  have HB:=conj5_below w t s (.slice a l c) (.slice a2 l2 c2) (.slice a l c)
  have HX:Hid (Bx (conj5 w t s (.slice a l c) (.slice a2 l2 c2) (.slice a l c)) w.heap.size t (.slice a l c)):=(two3_first _ _ _ _ _).keeps (Grew.two _ _ _).below
  have HR:Hid (Bx (conj5 w t s (.slice a l c) (.slice a2 l2 c2) (.slice a l c)) (w.heap.size+2) zeroT (.slice none 0 0)):=(two3_res _ _ _ _ _).keeps (Grew.two _ _ _).below
  have Hz:Hid ((conj5 w t s (.slice a l c) (.slice a2 l2 c2) (.slice a l c)).heap.size=w.heap.size+5):=conj5_size _ _ _ _ _ _
  have HC:Hid (Bx (conj5 w t s (.slice a l c) (.slice a2 l2 c2) (.slice a l c)) (w.heap.size+3) s (.slice a2 l2 c2)):=conj5_row _ _ _ _ _ _
  have HP0:Hid ((conj5 w t s (.slice a l c) (.slice a2 l2 c2) (.slice a l c)).cell? ⟨w.heap.size+4,0,none⟩=some (.slice a l c)):=conj5_fst _ _ _ _ _ _
  have HP1:Hid ((conj5 w t s (.slice a l c) (.slice a2 l2 c2) (.slice a l c)).cell? ⟨w.heap.size+4,1,none⟩=some (.slice (some ⟨w.heap.size+3,0,none⟩) 1 1)):=conj5_snd _ _ _ _ _ _
  go_enter Tryz.func113,Tryz.ntmps113
  go_wp2_with fail
  refine (concat_any 16 ps (s,.slice a2 l2 c2) A0 C0 (w.heap.size+4) (w.heap.size+3) _ (HP0.out.trans (congrArg some HIT.out)) HP1.out (fun hne=>by obtain⟨b,o,ha,hrw⟩:=HRo.out hne;exact⟨b,o,ha,hrw.keeps HB⟩) (fun q hq=>⟨((HSo.out q hq).1.keeps HB).lies,(HSo.out q hq).2⟩) (fun i hi=>by
   have:i=0:=by simp at hi;omega
   subst this
   exact⟨HC.out.c0,HC.out.c1,HC.out.c2,HC.out.c3⟩) ⟨(HSs.out.1.keeps HB).lies,HSs.out.2⟩ hlen).mono ?_
  rintro e w1 ⟨v1,rfl,hown,hb⟩
  have hb:Below (conj5 w t s (.slice a l c) (.slice a2 l2 c2) (.slice a l c)).heap.size (conj5 w t s (.slice a l c) (.slice a2 l2 c2) (.slice a l c)) w1:=hb
  have hb1:Below w.heap.size w w1:=HB.trans (hb.mono HB.size)
  obtain⟨g,cap,rfl,hgb,hcap,hlt,hrw,_⟩:=own_row hown (by simp)
  have hgb:w.heap.size+5≤g:=by rw [Hz.out] at hgb;exact hgb
  have HL1:Hid (LiesX (fun b=>(X b∧b<w.heap.size)∨w.heap.size+5≤b) 17 w1 (conjL t s) (.slice (some ⟨g,0,none⟩) (ps++[(s,Value.slice a2 l2 c2)]).length cap)):=by
   have h:=liesX_row (X:=fun b=>(X b∧b<w.heap.size)∨w.heap.size+5≤b) (d:=16) (c:=cap) hrw (.inr hgb) (fun q hq=>by
    rcases List.mem_append.1 hq with hq|hq
    ·exact⟨((HSo.out q hq).1.keeps hb1).mono (fun b hb=>.inl hb),(HSo.out q hq).2⟩
    ·have:q=(s,Value.slice a2 l2 c2):=by simpa using hq
     subst this
     exact⟨(HSs.out.1.keeps hb1).mono (fun b hb=>.inl hb),HSs.out.2⟩) (by simp;omega) hcap
   have e:(ps++[(s,Value.slice a2 l2 c2)]).map (·.1)=conjL t s:=HCL.out
   rwa [e] at h
  have HX1:Hid (Bx w1 w.heap.size t (.slice a l c)):=HX.out.keeps hb
  have HR1:Hid (Bx w1 (w.heap.size+2) zeroT (.slice none 0 0)):=HR.out.keeps hb
  have hsz1:w.heap.size+5≤w1.heap.size:=by have:=hb.size;rw [Hz.out] at this;exact this
  clear hown hrw hb HB HX HR HC HP0 HP1 Hz hcap hlt hgb
  generalize (ps++[(s,Value.slice a2 l2 c2)]).length=LN at *
  have hal:Below w1.heap.size w1 (w1.alloc (.cells #[.int .i64 4,.int .i64 0,.string ⟨#[]⟩,.slice (some ⟨g,0,none⟩) LN cap] 27)):=((Grew.refl _).alloc _).below
  have HLo:Hid (Bx (w1.alloc (.cells #[.int .i64 4,.int .i64 0,.string ⟨#[]⟩,.slice (some ⟨g,0,none⟩) LN cap] 27)) w1.heap.size (listT (conjL t s)) (.slice (some ⟨g,0,none⟩) LN cap)):=zaj w1 (listT (conjL t s)) _
  go_wp2_with fail
  refine (fits_any 17 (listT (conjL t s)) (.slice (some ⟨g,0,none⟩) LN cap) _ (HL1.out.keeps hal).lies).mono ?_
  rintro e w2 ⟨rfl,hb⟩
  have hb:Below (w1.alloc (.cells #[.int .i64 4,.int .i64 0,.string ⟨#[]⟩,.slice (some ⟨g,0,none⟩) LN cap] 27)).heap.size (w1.alloc (.cells #[.int .i64 4,.int .i64 0,.string ⟨#[]⟩,.slice (some ⟨g,0,none⟩) LN cap] 27)) w2:=hb
  have hb12:Below w1.heap.size w1 w2:=hal.trans (hb.mono hal.size)
  have hb2:Below w.heap.size w w2:=hb1.trans (hb12.mono hb1.size)
  have HX2:Hid (Bx w2 w.heap.size t (.slice a l c)):=HX1.out.keeps hb12
  have HR2:Hid (Bx w2 (w.heap.size+2) zeroT (.slice none 0 0)):=HR1.out.keeps hb12
  have HLo2:Hid (Bx w2 w1.heap.size (listT (conjL t s)) (.slice (some ⟨g,0,none⟩) LN cap)):=HLo.out.keeps hb
  have HL2:Hid (LiesX (fun b=>(X b∧b<w.heap.size)∨w.heap.size+5≤b) 17 w2 (conjL t s) (.slice (some ⟨g,0,none⟩) LN cap)):=HL1.out.keeps hb12
  clear hb hb12 hal HX1 HR1 HL1 HLo
  cases hf:(fw 17 (listT (conjL t s)) 16 1024).1
  ·have He:Hid (conjT t s=t):=by show _=_;unfold conjT;rw [hf];rfl
   clear hf HLo2 HL2
   obtain⟨x0,x1,x2,x3,_,_,_,_⟩:=HX2.out
   obtain⟨y0,y1,y2,y3,z0,z1,z2,z3⟩:=HR2.out
   have Hbx:Hid (Bx (w2.setCells (w.heap.size+2) 0 (encP (t,.slice a l c))) (w.heap.size+2) t (.slice a l c)):=HR2.out.put (t,.slice a l c)
   have Hbl:Hid (Below w.heap.size w (w2.setCells (w.heap.size+2) 0 (encP (t,.slice a l c)))):=zag hb2 (by omega) (t,.slice a l c)
   have Hfin:Hid (LiesX (fun b=>X b∨w.heap.size≤b) 16 (w2.setCells (w.heap.size+2) 0 (encP (t,.slice a l c))) t.items (.slice a l c)):=((HLt.out.both.keeps hb2).set (g:=w.heap.size+2) (by omega)).mono (fun b hb=>.inl hb.1)
   go_wp2_with fail
   refine bodyPost_ret (v:=.agg #[.int .i64 t.kind,.int .i64 t.num,.string t.text,.slice a l c]) ?_ rfl (by rw [He.out];exact⟨_,rfl,Hfin.out,Hbl.out⟩)
   obtain⟨q0,q1,q2,q3,_,_,_,_⟩:=Hbx.out
   simp only [encP,World.setCells,Nat.zero_add,Nat.reduceAdd] at q0 q1 q2 q3
   simp [results,Tryz.results113,go_sem,q0,q1,q2,q3]
  ·have He:Hid (conjT t s=listT (conjL t s)):=by show _=_;unfold conjT;rw [hf];rfl
   have hd:Dp 16 (listT (conjL t s)):=dp_list hf HDp.out
   clear hf HX2
   obtain⟨x0,x1,x2,x3,_,_,_,_⟩:=HLo2.out
   simp only [listT] at x0 x1 x2
   obtain⟨y0,y1,y2,y3,z0,z1,z2,z3⟩:=HR2.out
   have Hbx:Hid (Bx (w2.setCells (w.heap.size+2) 0 (encP (listT (conjL t s),.slice (some ⟨g,0,none⟩) LN cap))) (w.heap.size+2) (listT (conjL t s)) (.slice (some ⟨g,0,none⟩) LN cap)):=HR2.out.put (listT (conjL t s),.slice (some ⟨g,0,none⟩) LN cap)
   have Hbl:Hid (Below w.heap.size w (w2.setCells (w.heap.size+2) 0 (encP (listT (conjL t s),.slice (some ⟨g,0,none⟩) LN cap)))):=zag hb2 (by omega) (listT (conjL t s),.slice (some ⟨g,0,none⟩) LN cap)
   have Hfin:Hid (LiesX (fun b=>X b∨w.heap.size≤b) 16 (w2.setCells (w.heap.size+2) 0 (encP (listT (conjL t s),.slice (some ⟨g,0,none⟩) LN cap))) (conjL t s) (.slice (some ⟨g,0,none⟩) LN cap)):=by
    have h2:=HL2.out.set (g:=w.heap.size+2) (o:=0) (vs:=encP (listT (conjL t s),.slice (some ⟨g,0,none⟩) LN cap)) (by omega)
    exact (LiesX.to (t:=listT (conjL t s)) h2 hd).mono (fun b hb=>hb.imp (fun h=>h.1) (fun h=>by omega))
   clear HL2 hd HLo2
   go_wp2_with fail
   refine bodyPost_ret (v:=.agg #[.int .i64 4,.int .i64 0,.string ⟨#[]⟩,.slice (some ⟨g,0,none⟩) LN cap]) ?_ rfl (by rw [He.out];exact⟨_,rfl,Hfin.out,Hbl.out⟩)
   obtain⟨q0,q1,q2,q3,_,_,_,_⟩:=Hbx.out
   simp only [encP,listT,World.setCells,Nat.zero_add,Nat.reduceAdd] at q0 q1 q2 q3
   simp [results,Tryz.results113,go_sem,q0,q1,q2,q3]
theorem one_cell (W:World) (g o:Nat) (v:Value):W.setCell ⟨g,o,none⟩ v=W.setCells g o [v]:=rfl
def bothT:Nat→VT→VT→VT
 | 0=>addT
 | 1=>maxT
 | 2=>minT
 | 3=>conjT
 | 4=>fun t _=>t
 | 5=>fun _ s=>s
 | 6=>addT
 | _=>fun t _=>countT t
def stopQ (q:Nat) (r:VT):Bool:=if q=6 then stopB r else false
theorem both_right (q:Nat) {t s:VT} (hr:zab 16 t=true) (hd:Dp 16 t) (hr2:zab 16 s=true) (hd2:Dp 16 s):zab 16 (bothT q t s)=true∧Dp 16 (bothT q t s):=by
 have hadd:zab 16 (addT t s)=true∧Dp 16 (addT t s):=by
  unfold addT
  split
  ·exact⟨int_right _,dp_leaf rfl⟩
  ·exact⟨hr,hd⟩
 unfold bothT
 split
 ·exact hadd
 ·unfold maxT;split
  ·exact⟨hr2,hd2⟩
  ·exact⟨hr,hd⟩
 ·unfold minT;split
  ·exact⟨hr2,hd2⟩
  ·exact⟨hr,hd⟩
 ·exact conj_right hr hd hr2 hd2
 ·exact⟨hr,hd⟩
 ·exact⟨hr2,hd2⟩
 ·exact hadd
 ·show zab 16 (countT t)=true∧Dp 16 (countT t)
  unfold countT
  split
  ·exact⟨int_right _,dp_leaf rfl⟩
  ·exact⟨int_right _,dp_leaf rfl⟩
theorem both_any (X:Nat→Prop) (q:Nat) (hq:q<8) (t s:VT) (u v:Value) (w:World) (hl:LiesX X 16 w t.items u) (hl2:LiesX X 16 w s.items v) (hr:zab 16 t=true) (hr2:zab 16 s=true) :
 Calls Tryz.prog (twoF q) #[.agg #[.int .i64 t.kind,.int .i64 t.num,.string t.text,u],.agg #[.int .i64 s.kind,.int .i64 s.num,.string s.text,v]] w (FnPost X (bothT q t s) w):=by
 obtain⟨a,c,rfl,_⟩:=LiesX.slice hl
 obtain⟨a2,c2,rfl,_⟩:=LiesX.slice hl2
 match q,hq with
 | 0,_=>exact add_any X t s a a2 _ c _ c2 w hl hl2
 | 1,_=>exact greater_any X t s a a2 _ c _ c2 w hl hl2
 | 2,_=>exact lesser_any X t s a a2 _ c _ c2 w hl hl2
 | 3,_=>exact conj_any X t s a a2 _ c _ c2 w hl hl2 hr hr2
 | 4,_=>exact left_any X t s a a2 _ c _ c2 w hl hl2
 | 5,_=>exact right_any2 X t s a a2 _ c _ c2 w hl hl2
 | 6,_=>exact add_any X t s a a2 _ c _ c2 w hl hl2
 | 7,_=>exact count_any X t s a a2 _ c _ c2 w hl hl2
theorem stops_any (q:Nat) (hq:q<8) (r:VT) (u:Value) (w:World) (hl:Lies 16 w r.items u):Calls Tryz.prog (stopF q) #[.agg #[.int .i64 r.kind,.int .i64 r.num,.string r.text,u]] w (QPost (stopQ q r) w):=by
 obtain⟨a,c,rfl,_⟩:=Lies.slice hl
 match q,hq with
 | 0,_=>exact never_any r a _ c w
 | 1,_=>exact never_any r a _ c w
 | 2,_=>exact never_any r a _ c w
 | 3,_=>exact never_any r a _ c w
 | 4,_=>exact never_any r a _ c w
 | 5,_=>exact never_any r a _ c w
 | 6,_=>exact isGreat_any r a _ c w
 | 7,_=>exact never_any r a _ c w
def twoE (d:Nat) (q:Int) (t s:VT):Int:=if q<0∨8≤q then 4 else if zab d t=true∧zab d s=true then 0 else 3
def twoT (d:Nat) (q:Int) (t s:VT):VT:=if twoE d q t s=0 then bothT q.toNat t s else nilT
def twoB (d:Nat) (q:Int) (t s:VT):Bool:=if twoE d q t s=0 then stopQ q.toNat (bothT q.toNat t s) else false
theorem two_any (d:Nat) (q:Int) (t s:VT) (u v:Value) (w:World) (hu:Lies d w t.items u) (hv:Lies d w s.items v) (hs:t.text.size≤9223372036854775807) (hs2:s.text.size≤9223372036854775807) :
 Calls Tryz.prog 81 #[.int .i64 q,.agg #[.int .i64 t.kind,.int .i64 t.num,.string t.text,u],.agg #[.int .i64 s.kind,.int .i64 s.num,.string s.text,v]] w (TPost (twoT d q t s) (twoB d q t s) (twoE d q t s) w):=by
 unfold twoT twoB
 by_cases hq:q<0∨8≤q
 ·have e:twoE d q t s=4:=by unfold twoE;rw [if_pos hq]
  rw [e]
  exact two_kind d q t s u v w hu hv hq
 ·obtain⟨Q,hQ,hQ8⟩:∃Q:Nat,q=Q∧Q<8:=⟨q.toNat,by omega,by omega⟩
  subst hQ
  have h:=two_core d Q (twoF Q) (stopF Q) t s (bothT Q t s) (stopQ Q (bothT Q t s)) u v w hu hv hs hs2 hQ8
   (fun x y=>start4_row w _ _ x y Q hQ8) (fun x y=>start4_row2 w _ _ x y Q hQ8) (twoF_enters Q hQ8) (stopF_enters Q hQ8)
   (fun h1 h2 W hW=>both_any (fun _=>True) Q hQ8 t s u v W (((LiesX.of_lies (canon hu h1).1).keeps hW).mono (fun _ _=>trivial)) (((LiesX.of_lies (canon hv h2).1).keeps hW).mono (fun _ _=>trivial)) (canon hu h1).2 (canon hv h2).2)
   (fun x W hl=>stops_any Q hQ8 _ x W hl)
   (fun h1 h2=>(both_right Q (canon hu h1).2 (right_deep h1 (Dp.of_lies d w t u hu)) (canon hv h2).2 (right_deep h2 (Dp.of_lies d w s v hv))).1)
  by_cases hr:zab d t=true∧zab d s=true
  ·have e:twoE d Q t s=0:=by unfold twoE;rw [if_neg hq,if_pos hr]
   rw [e]
   rw [if_pos hr] at h
   exact h
  ·have e:twoE d Q t s=3:=by unfold twoE;rw [if_neg hq,if_neg hr]
   rw [e]
   rw [if_neg hr] at h
   exact h
def redS (q:Nat):VT→List VT→List VT
 | _,[]=>[]
 | t,x::xs=>bothT q t x::(if stopQ q (bothT q t x)=true then [] else redS q (bothT q t x) xs)
def lastT (t:VT) (l:List VT):VT:=l.getLast?.getD t
theorem lastT_snoc (t x:VT) (l:List VT):lastT t (l++[x])=x:=by unfold lastT;simp
theorem redS_go {q:Nat} {t x:VT} {xs:List VT} (h:stopQ q (bothT q t x)=false):redS q t (x::xs)=bothT q t x::redS q (bothT q t x) xs:=by
 conv=>lhs;unfold redS
 rw [h];rfl
theorem redS_stop {q:Nat} {t x:VT} {xs:List VT} (h:stopQ q (bothT q t x)=true):redS q t (x::xs)=[bothT q t x]:=by
 unfold redS
 rw [if_pos h]
def redE (d:Nat) (q:Int) (t:VT) (l:List VT):Int:=if q<0∨8≤q then 4 else if zab d t=true then zad d l else 3
theorem redE_zero {d:Nat} {q:Int} {t:VT} {l:List VT} (h:redE d q t l=0):(0≤q∧q<8)∧zab d t=true∧zad d l=0:=by
 unfold redE at h
 by_cases hq:q<0∨8≤q
 ·rw [if_pos hq] at h;omega
 ·rw [if_neg hq] at h
  by_cases hr:zab d t=true
  ·rw [if_pos hr] at h;exact⟨by omega,hr,h⟩
  ·rw [if_neg hr] at h;omega
end Go.Proofs.YtcflooaoocngdaaGreat
