import Derived.Test.YtlnecfjnffdciabGreatRHave14
import Derived.Test.YtlnecfjnffdciabGreatAppR
import Derived.Deep.CutBlock
namespace Go.Proofs.YtlnecfjnffdciabGreat
open Go.RowKit Go.Shelf
def cmpO (q:Nat) (a b:PP):Int:=ordV q a.1.1 b.1.1
theorem cmpO_3 (q:Nat):Cmp3 (cmpO q):=by
 have h:=zbd q
 refine⟨fun x y=>zas q x.1.1 y.1.1,fun a b c h1 h2=>?_,fun a b c h1 h2=>?_,fun a b c h1 h2=>?_⟩
 ·exact RT.Cmp.trans' h (a:=trT a) (b:=trT b) (c:=trT c) h1 h2
 ·exact h.trans (trT a) (trT b) (trT c) h1 h2
 ·by_cases hn:cmpO q a c≤0
  ·exact hn
  ·exfalso
   have e1:byK q (trT c) (trT a)<0:=(h.flip _ _).2 (by show 0<cmpO q a c;omega)
   have e2:byK q (trT c) (trT b)<0:=RT.Cmp.trans' h e1 h1
   have e3:0<byK q (trT b) (trT c):=(h.flip _ _).1 e2
   have e4:byK q (trT b) (trT c)≤0:=h2
   omega
theorem own_sliceQ {w:World} {base e sz n:Nat} {v:Value} {xs:List Value} (h:w.ownsRow base e sz v n xs):∃a c,v=.slice a n c:=by
 rcases h.2 with ⟨rfl,e⟩|⟨g,cap,_,rfl,_⟩
 ·exact⟨none,0,by rw [e]⟩
 ·exact⟨_,_,rfl⟩
def BdP (q:Nat) (rs:List PP) (w:World) (e:Ending) (w':World):Prop:=Below w.heap.size w w'∧∃(b:Nat) (v:Value),e=.returned (.pointer (some ⟨b,0,none⟩))∧w'.cell? ⟨b,0,none⟩=some (.int .i64 (q:Int))∧w'.cell? ⟨b,1,none⟩=some v∧SlQ 0 16 w' rs v
def MgB (q:Nat) (ps rs R:List PP) (w2 wr:World) (i k no:Nat) (v:Value) (ds:List PP):Prop:=
 Box2 wr w2.heap.size 98 (.int .i64 (q:Int)) v∧wr.ownsRow w2.heap.size 108 8 v no (ds.flatMap encQ)∧no=ds.length∧ds++mrgK (cmpO q) (ps.drop i) (rs.drop k)=R∧Below w2.heap.size w2 wr∧no+(ps.length-i)+(rs.length-k)≤200000
theorem MgB.start (q:Nat) (ps rs:List PP) (w2:World) (h:ps.length+rs.length≤131072):MgB q ps rs (mrgK (cmpO q) ps rs) w2 (w2.alloc (.cells #[.int .i64 (q:Int),.slice none 0 0] 98)) 0 0 0 (.slice none 0 0) []:=
 ⟨Box2.new w2 _ _ _,World.ownsRow_nil _ _ _ _,rfl,rfl,((Grew.refl w2).alloc _).below,by omega⟩
theorem MgB.step {q:Nat} {ps rs R:List PP} {w2 wr:World} {i k no:Nat} {v:Value} {ds:List PP} (h:MgB q ps rs R w2 wr i k no v ds) {w9:World} {v9:Value} (x:PP) {i' k':Nat} (hb:Box2 w9 w2.heap.size 98 (.int .i64 (q:Int)) v9) (ho:w9.ownsRow w2.heap.size 108 8 v9 (no+1) (ds.flatMap encQ++encQ x)) (hw:Below w2.heap.size w2 w9) (he:x::mrgK (cmpO q) (ps.drop i') (rs.drop k')=mrgK (cmpO q) (ps.drop i) (rs.drop k)) (hs:(ps.length-i')+(rs.length-k')+1≤(ps.length-i)+(rs.length-k)):MgB q ps rs R w2 w9 i' k' (no+1) v9 (ds++[x]):=by
 obtain⟨_,_,h3,h4,_,h6⟩:=h
 refine⟨hb,?_,?_,?_,hw,by omega⟩
 ·rw [List.flatMap_append,show [x].flatMap encQ=encQ x by simp];exact ho
 ·rw [List.length_append,←h3];rfl
 ·rw [←h4,←he,List.append_assoc,List.singleton_append]
theorem mg_lt {q:Nat} {ps rs:List PP} {i k:Nat} (h1:i<ps.length) (h2:k<rs.length) {x z:PP} (ex:x=ps[i]) (ez:z=rs[k]) (h:ordV q x.1.1 z.1.1<0):x::mrgK (cmpO q) (ps.drop (i+1)) (rs.drop k)=mrgK (cmpO q) (ps.drop i) (rs.drop k):=by
 have h':cmpO q x z<0:=h
 rw [List.drop_eq_getElem_cons h1,List.drop_eq_getElem_cons h2,←ex,←ez,mrgK_step,if_pos h']
theorem mg_eq {q:Nat} {ps rs:List PP} {i k:Nat} (h1:i<ps.length) (h2:k<rs.length) {x z:PP} (ex:x=ps[i]) (ez:z=rs[k]) (h:ordV q x.1.1 z.1.1=0):z::mrgK (cmpO q) (ps.drop (i+1)) (rs.drop (k+1))=mrgK (cmpO q) (ps.drop i) (rs.drop k):=by
 have h':cmpO q x z=0:=h
 rw [List.drop_eq_getElem_cons h1,List.drop_eq_getElem_cons h2,←ex,←ez,mrgK_step,if_neg (by omega),if_pos h']
theorem mg_gt {q:Nat} {ps rs:List PP} {i k:Nat} (h1:i<ps.length) (h2:k<rs.length) {x z:PP} (ex:x=ps[i]) (ez:z=rs[k]) (h:0<ordV q x.1.1 z.1.1):z::mrgK (cmpO q) (ps.drop i) (rs.drop (k+1))=mrgK (cmpO q) (ps.drop i) (rs.drop k):=by
 have h':0<cmpO q x z:=h
 rw [List.drop_eq_getElem_cons h1,List.drop_eq_getElem_cons h2,←ex,←ez,mrgK_step,if_neg (by omega),if_neg (by omega)]
theorem mg_l {q:Nat} {ps rs:List PP} {i k:Nat} (h1:i<ps.length) (h2:rs.length≤k) {x:PP} (ex:x=ps[i]):x::mrgK (cmpO q) (ps.drop (i+1)) (rs.drop k)=mrgK (cmpO q) (ps.drop i) (rs.drop k):=by
 rw [List.drop_eq_getElem_cons h1,List.drop_eq_nil_of_le h2,←ex,mrgK_right,mrgK_right]
theorem mg_r {q:Nat} {ps rs:List PP} {i k:Nat} (h1:ps.length≤i) (h2:k<rs.length) {z:PP} (ez:z=rs[k]):z::mrgK (cmpO q) (ps.drop i) (rs.drop (k+1))=mrgK (cmpO q) (ps.drop i) (rs.drop k):=by
 rw [List.drop_eq_getElem_cons h2,List.drop_eq_nil_of_le h1,←ez,zav,zav]
theorem MgB.done {q:Nat} {ps rs R:List PP} {w w2 wr:World} {i k no:Nat} {av:Option Addr} {cv:Nat} {ds:List PP} (h:MgB q ps rs R w2 wr i k no (.slice av no cv) ds) (hi:ps.length≤i) (hk:rs.length≤k) (hw:Below w.heap.size w w2) (hg:∀p∈R,GoodQ 16 w2 p) (hl:R.length≤131072):BdP q R w (.returned (.pointer (some ⟨w2.heap.size,0,none⟩))) wr:=by
 obtain⟨h1,h2,h3,h4,h5,_⟩:=h
 rw [List.drop_eq_nil_of_le hi,List.drop_eq_nil_of_le hk,zav,List.append_nil] at h4
 subst h4
 obtain⟨g0,g1,_,_⟩:=h1.cells
 exact⟨hw.trans (h5.mono hw.size),_,_,rfl,g0,g1,(SlQ.of_own h3 h2 (fun p hp=>(hg p hp).keeps h5) (by omega)).mono (Nat.zero_le _)⟩
set_option maxRecDepth 100000 in
set_option maxHeartbeats 32000000 in
theorem rbuild_core (q:Nat) (hq:q<6) (kk:Nat) (qs:List PP) (u:Value) (w:World) (hu:SlQ 0 16 w qs u) (hr:∀p∈qs,zac 16 p.1.1=true) (hlen:qs.length≤131072)
 (ih:Hid (2≤qs.length→∀(m:List PP) (v:Value) (W:World),m.length≤qs.length-1→(∀p∈m,zac 16 p.1.1=true)→SlQ 0 16 W m v→Calls Tryz.prog 118 #[.int .i64 (q:Int),v] W (BdP q (kyd (cmpO q) kk m) W))) :
 Calls Tryz.prog 118 #[.int .i64 (q:Int),u] w (BdP q (kyd (cmpO q) (kk+1) qs) w):=by
 obtain⟨aa0,ca0,rfl,hcap0⟩:=hu.slice
 by_cases h0:qs.length=0
 ·have hR:kyd (cmpO q) (kk+1) qs=[]:=by
   rw [List.eq_nil_of_length_eq_zero h0];rfl
  have HE:Hid (BdP q (kyd (cmpO q) (kk+1) qs) w (.returned (.pointer (some ⟨w.heap.size,0,none⟩))) (w.alloc (.cells #[.int .i64 (q:Int),.slice none 0 0] 98))):=by
   rw [hR]
   obtain⟨g0,g1,_,_⟩:=(Box2.new w 98 (.int .i64 (q:Int)) (.slice none 0 0)).cells
   exact⟨((Grew.refl w).alloc _).below,_,_,rfl,g0,g1,nil_slq _⟩
  have h0I:(qs.length:Int)=0:=by omega
  clear ih hr hu hR
  rw [h0]
  clear h0I h0
  go_enter Tryz.func118,Tryz.ntmps118
  go_wp2_with fail
  go_ret
  exact HE.out
 ·by_cases h1:qs.length=1
  ·have Hr:Hid (kyd (cmpO q) (kk+1) qs=qs):=by show (if _ then _ else _)=_;rw [if_pos (by omega)]
   obtain⟨i0,hi,hz0,hz1,hz2⟩:=infoQ
   have Hi:Hid _:=hi;have Hz0:Hid _:=hz0;have Hz1:Hid _:=hz1;have Hz2:Hid _:=hz2
   obtain⟨s1,s2,s3⟩:=hu.src
   have HN:Hid (aa0=none→qs.length=0):=s1
   have HF:Hid (∀W,Below w.heap.size w W→∀ad,aa0=some ad→∀j z,(qs.flatMap encQ)[j]? = some z→W.cell? (ad.add j)=some z):=s2
   have HO:Hid (∀z∈qs.flatMap encQ,z.oneCell'=true):=s3
   have HL:Hid ((qs.flatMap encQ).length=qs.length*8):=by show _=_;rw [za7]
   have HP:Hid (∀p∈qs,GoodQ 16 w p):=hu.good
   have Hown0:Hid ((w.alloc (.cells #[] 108)).ownsRow w.heap.size 108 8 (.slice (some ⟨w.heap.size,0,none⟩) 0 0) 0 []):=World.ownsRow_made w #[] 0 (Nat.le_refl _) (by unfold maxLen;omega) rfl
   have hb0:Below w.heap.size w (w.alloc (.cells #[] 108)):=((Grew.refl w).alloc _).below
   obtain⟨K,hK⟩:∃K,K=qs.length:=⟨_,rfl⟩
   have HK:Hid (K=qs.length):=hK
   rw [←hK] at HN HL h0 h1 ⊢
   subst h1
   clear ih hr hu s1 s2 s3 hi hz0 hz1 hz2 hK h0 hcap0 hlen
   go_enter Tryz.func118,Tryz.ntmps118
   go_wp2_with (at_builtin;refine wpList_append_rowQ rfl _ _ rfl w.heap.size i0 Hi.out Hz0.out Hz1.out Hz2.out _ _ _ rfl Hown0.out aa0 1 ca0 (qs.flatMap encQ) rfl HN.out HL.out (HF.out _ hb0) HO.out (by unfold maxLen;omega) (by omega) (by simp) ?_;intro v5 w5 hown5 hgrow5;obtain⟨a5,c5,hv5⟩:=own_sliceQ hown5;subst hv5)
   have hb5:Below w.heap.size w w5:=zao hb0 (by simp) Hown0.out hgrow5
   have hfin:SlQ w.heap.size 16 w5 qs (.slice a5 (0+1) c5):=SlQ.of_own (n:=0+1) (by have:=HK.out;omega) (by simpa using hown5) (fun p hp=>(HP.out p hp).keeps hb5) (by have:=HK.out;omega)
   have hba:Below w5.heap.size w5 (w5.alloc (.cells #[.int .i64 (q:Int),.slice a5 (0+1) c5] 98)):=((Grew.refl w5).alloc _).below
   obtain⟨g0,g1,_,_⟩:=(Box2.new w5 98 (.int .i64 (q:Int)) (.slice a5 (0+1) c5)).cells
   have HE:Hid (BdP q (kyd (cmpO q) (kk+1) qs) w (.returned (.pointer (some ⟨w5.heap.size,0,none⟩))) (w5.alloc (.cells #[.int .i64 (q:Int),.slice a5 (0+1) c5] 98))):=by
    rw [Hr.out]
    exact⟨hb5.trans (hba.mono hb5.size),_,_,rfl,g0,g1,(hfin.mono (Nat.zero_le _)).keeps hba⟩
   clear hown5 hgrow5 hfin hba g0 g1
   go_ret
   exact HE.out
  ·have h2 : ¬qs.length<2:=by omega
   have Hr:Hid (kyd (cmpO q) (kk+1) qs=mrgK (cmpO q) (kyd (cmpO q) kk (qs.take (qs.length / 2))) (kyd (cmpO q) kk (qs.drop (qs.length / 2)))):=kyd_step _ _ _ h2
   have Ih:Hid _:=ih.out (by omega)
   obtain⟨b,o,c,he,hb0,_,_⟩:=SlQ.full hu (fun e=>by rw [e] at h2;simp at h2)
   simp only [Value.slice.injEq] at he
   obtain⟨rfl,_,rfl⟩:=he
   obtain⟨h,hh⟩:∃h,h=qs.length / 2:=⟨_,rfl⟩
   rw [←hh] at Hr
   have hle:h≤qs.length:=by omega
   have HS1:Hid (SlQ 0 16 w (qs.take h) (.slice (some ⟨b,o,none⟩) h ca0)):=SlQ.taken hu h hle
   have HS2:Hid (SlQ 0 16 w (qs.drop h) (.slice (some ⟨b,o+h*8,none⟩) (qs.length-h) (ca0-h))):=SlQ.dropped hu h
   have HT1:Hid ((qs.take h).length≤qs.length-1∧∀p∈qs.take h,zac 16 p.1.1=true):=⟨by rw [List.length_take];omega,fun p hp=>hr p (List.mem_of_mem_take hp)⟩
   have HT2:Hid ((qs.drop h).length≤qs.length-1∧∀p∈qs.drop h,zac 16 p.1.1=true):=⟨by rw [List.length_drop];omega,fun p hp=>hr p (List.mem_of_mem_drop hp)⟩
   have Hn1:Hid ((kyd (cmpO q) kk (qs.take h)).length≤h):=by show _≤_;have:=kyd_len (cmpO q) kk (qs.take h);rw [List.length_take] at this;omega
   have Hn2:Hid ((kyd (cmpO q) kk (qs.drop h)).length≤qs.length-h):=by show _≤_;have:=kyd_len (cmpO q) kk (qs.drop h);rw [List.length_drop] at this;omega
   have Hr1:Hid (∀p∈kyd (cmpO q) kk (qs.take h),zac 16 p.1.1=true):=fun p hp=>hr p (List.mem_of_mem_take (kyd_mem _ _ _ _ hp))
   have Hr2:Hid (∀p∈kyd (cmpO q) kk (qs.drop h),zac 16 p.1.1=true):=fun p hp=>hr p (List.mem_of_mem_drop (kyd_mem _ _ _ _ hp))
   have Ho:Hid (∀(x y:VT) (xv tv:Value) (W:World),Lies 16 W x.items xv→Lies 16 W y.items tv→zac 16 x=true→zac 16 y=true→Calls Tryz.prog 91 #[.int .i64 (q:Int),.agg #[.int .i64 x.kind,.int .i64 x.num,.string x.text,xv],.agg #[.int .i64 y.kind,.int .i64 y.num,.string y.text,tv]] W fun e w'=>e=.returned (.int .i64 (ordV q x y))∧Below W.heap.size W w'):=fun x y xv tv W k1 k2 k3 k4=>rordV_any q hq x y xv tv W k1 k2 k3 k4
   have h2I : ¬(qs.length:Int)=0:=by omega
   have h3I : ¬(qs.length:Int)=1:=by omega
   have hq2:((qs.length:Nat):Int) / 2=((h:Nat):Int):=by omega
   have hle':((h:Nat):Int)≤(qs.length:Nat):=by omega
   have hcc:h≤ca0:=by omega
   have hcc':((h:Nat):Int)≤(ca0:Nat):=by omega
   have hcn : ¬((ca0:Nat):Int)=(h:Nat):=by omega
   have hcn2 : ¬ca0=h:=by omega
   have hmc':(qs.length:Int)≤(ca0:Nat):=by omega
   have HLq:Hid (h≤qs.length∧qs.length≤131072):=⟨hle,hlen⟩
   generalize kyd (cmpO q) (kk+1) qs=R0 at *
   obtain⟨M,hM⟩:∃M,M=qs.length:=⟨_,rfl⟩
   rw [←hM] at Ih h2I h3I hq2 hle' hmc' HS2 HT1 HT2 Hn2 HLq h0 h1 h2 hle hb0 ⊢
   have hM5:((M:Nat):Int)≤131072:=by rw [hM];omega
   clear hh ih h2 hu hr hM hcap0 hlen hle h0 h1
   go_enter Tryz.func118,Tryz.ntmps118
   go_wp2_with fail
   have hz0I:(0:Int)≤((h:Nat):Int):=by omega
   have hb0w:Below w.heap.size w w.drew:=(Below.refl _ _).drew
   go_region_held3 (fun _=>True) (trivial)
    (first
     | (go_at_call 118;(with_reducible refine Calls.mono (Ih.out (qs.drop h) _ _ HT2.out.1 HT2.out.2 (HS2.out.keeps hbF)) ?_);rintro e w2 ⟨hg2,b2,v2,rfl,y0,y1,hs2⟩)
     | (go_at_call 118;(with_reducible refine Calls.mono (Ih.out (qs.take h) _ _ HT1.out.1 HT1.out.2 (HS1.out.keeps hb0w)) ?_);rintro e w1 ⟨hg1,b1,v1,rfl,x0,x1,hs1⟩;have hbF:Below w.heap.size w w1:=hb0w.trans hg1))
   have hb1:Below w.heap.size w w1:=hb0w.trans hg1
   have hb2:Below w.heap.size w w2:=hbF.trans (hg2.mono hbF.size)
   have Hb2:Hid (Below w.heap.size w w2):=hb2
   have hs1':SlQ 0 16 w2 (kyd (cmpO q) kk (qs.take h)) v1:=hs1.keeps hg2
   have x0:=zaa hg2 x0
   have x1:=zaa hg2 x1
   clear Ih HT1 HT2 HS1 HS2 hs1 hbF hb0w hg1 hg2 hb1 hcn hcn2 hcc hcc' hle' hq2 h2I h3I hmc' hz0I
   have Hn1':=Hn1.out
   have Hn2':=Hn2.out
   generalize kyd (cmpO q) kk (qs.take h)=ps at *
   generalize kyd (cmpO q) kk (qs.drop h)=rs at *
   obtain⟨aa,ca,rfl,_⟩:=hs1'.slice
   obtain⟨ab,cb,rfl,_⟩:=hs2.slice
   obtain⟨NA,hNA⟩:∃NA,NA=ps.length:=⟨_,rfl⟩
   obtain⟨NB,hNB⟩:∃NB,NB=rs.length:=⟨_,rfl⟩
   have hcA:ps.length≤ca:=by obtain⟨_,_,he,h1,_⟩:=hs1';simp only [Value.slice.injEq] at he;omega
   have hcB:rs.length≤cb:=by obtain⟨_,_,he,h1,_⟩:=hs2;simp only [Value.slice.injEq] at he;omega
   have HNa:Hid (NA=ps.length):=hNA
   have HNb:Hid (NB=rs.length):=hNB
   have HNac:Hid (NA≤ca):=by show _≤_;omega
   have HNbc:Hid (NB≤cb):=by show _≤_;omega
   have HNA5:Hid (NA≤131072):=by show _≤_;have:=HLq.out;omega
   have HNB5:Hid (NB≤131072):=by show _≤_;have:=HLq.out;omega
   rw [←hNA] at x1 hs1'
   rw [←hNB] at y1 hs2
   have HSa:Hid (SlQ 0 16 w2 ps (.slice aa NA ca)):=hs1'
   have HSb:Hid (SlQ 0 16 w2 rs (.slice ab NB cb)):=hs2
   have HSar:Hid (∀p∈ps,zac 16 p.1.1=true):=Hr1.out
   have HSbr:Hid (∀p∈rs,zac 16 p.1.1=true):=Hr2.out
   have Hca:Hid (w2.cell? ⟨b1,1,none⟩=some (.slice aa NA ca)):=x1
   have Hcb:Hid (w2.cell? ⟨b2,1,none⟩=some (.slice ab NB cb)):=y1
   have HGR:Hid (∀p∈mrgK (cmpO q) ps rs,GoodQ 16 w2 p):=fun p hp=>(mrgK_mem (cmpO q) _ ps rs (Nat.le_refl _) p hp).elim (hs1'.good p) (hs2.good p)
   have HRl:Hid ((mrgK (cmpO q) ps rs).length≤131072):=by show _≤_;have:=mrgK_len (cmpO q) _ ps rs (Nat.le_refl _);have:=HLq.out;omega
   have Hr':Hid (R0=mrgK (cmpO q) ps rs):=Hr.out
   have Hs12:Hid (ps.length+rs.length≤131072):=by show _≤_;have:=HLq.out;omega
   have HM0:Hid (MgB q ps rs (mrgK (cmpO q) ps rs) w2 (w2.alloc (.cells #[.int .i64 (q:Int),.slice none 0 0] 98)) 0 0 0 (.slice none 0 0) []):=MgB.start q ps rs w2 Hs12.out
   clear hs1' hs2 hNA hNB hcA hcB hb2 Hr Hn1' Hn2' Hn1 Hn2 Hr1 Hr2 x0 x1 y0 y1 HLq
   generalize mrgK (cmpO q) ps rs=R at *
   obtain rfl:R0=R:=Hr'.out
   clear Hr'
   go_wp2_with fail
   go_loopg [9,10] (ps.length+rs.length) (fun z vi vk wr=>∃(i k no:Nat) (av:Option Addr) (cv:Nat) (ds:List PP),vi=.int .i64 (i:Int)∧vk=.int .i64 (k:Int)∧z=ps.length+rs.length-(i+k)∧i≤NA∧k≤NB∧Hid (MgB q ps rs R0 w2 wr i k no (.slice av no cv) ds))
   case atStart=>exact⟨0,0,0,none,0,[],rfl,rfl,by omega,by omega,by omega,HM0⟩
   case round=>
    obtain⟨i,k,no,av,cv,ds,rfl,rfl,hz,hiA,hkB,HG⟩:=hrel
    have Hm:Hid _:=hz
    clear hz HM0
    have HW:Hid (Below w2.heap.size w2 wr):=HG.out.2.2.2.2.1
    have ca1:=zaa HW.out Hca.out
    have cb1:=zaa HW.out Hcb.out
    have hNAc:NA≤ca:=HNac.out
    have hNBc:NB≤cb:=HNbc.out
    have hNA5:NA≤131072:=by have:=HNA5.out;omega
    have hNB5:NB≤131072:=by have:=HNB5.out;omega
    by_cases hiN:i<NA
    ·have hiI:(i:Int)<(NA:Nat):=by omega
     have hica:i<ca:=by omega
     have hltx:i<ps.length:=by have:=HNa.out;omega
     obtain⟨bx,ox,ex,hrx⟩:∃b o,aa=some ⟨b,o,none⟩∧QAt w2 b o ps:=by
      obtain⟨a2,c2,he,_,_,h3,_⟩:=HSa.out
      simp only [Value.slice.injEq] at he
      obtain⟨b,o,e,_,hq⟩:=h3 (fun e=>by rw [e] at hltx;cases hltx)
      exact⟨b,o,he.1.trans e,hq⟩
     subst ex
     have hgx:=HSa.out.good ps[i] (List.getElem_mem hltx)
     have hrtx:=HSar.out ps[i] (List.getElem_mem hltx)
     obtain⟨u0,u1,u2,u3,u4,u5,u6,u7⟩:=hrx.at i hltx
     obtain⟨⟨⟨kx,kux⟩,⟨vx,vux⟩⟩,hex⟩:∃s,s=ps[i]:=⟨_,rfl⟩
     have Hex:Hid (((kx,kux),(vx,vux))=ps[i]):=hex
     rw [←hex] at hgx hrtx u0 u1 u2 u3 u4 u5 u6 u7
     obtain⟨akx,ckx,hkx,_⟩:=Lies.slice hgx.1.1
     obtain⟨avx,cvx,hvx,_⟩:=Lies.slice hgx.2.1
     simp only at hkx hvx
     subst hkx hvx
     have Hgx:Hid (GoodQ 16 w2 ((kx,.slice akx kx.items.length ckx),(vx,.slice avx vx.items.length cvx))):=hgx
     have Hrx:Hid (zac 16 kx=true):=hrtx
     have Hlx:Hid (Lies 16 w2 kx.items (.slice akx kx.items.length ckx)):=hgx.1.1
     simp only at u0 u1 u2 u3 u4 u5 u6 u7
     have x0:=zaa HW.out u0;have x1:=zaa HW.out u1;have x2:=zaa HW.out u2;have x3:=zaa HW.out u3;have x4:=zaa HW.out u4;have x5:=zaa HW.out u5;have x6:=zaa HW.out u6;have x7:=zaa HW.out u7
     clear u0 u1 u2 u3 u4 u5 u6 u7 hgx hrtx hex hrx
     by_cases hkN:k<NB
     ·have hkI:(k:Int)<(NB:Nat):=by omega
      have hkE : ¬(k:Int)=(NB:Nat):=by omega
      have hkE2 : ¬k=NB:=by omega
      have hkcb:k<cb:=by omega
      have hltz:k<rs.length:=by have:=HNb.out;omega
      obtain⟨bz,oz,ez,hrz⟩:∃b o,ab=some ⟨b,o,none⟩∧QAt w2 b o rs:=by
       obtain⟨a2,c2,he,_,_,h3,_⟩:=HSb.out
       simp only [Value.slice.injEq] at he
       obtain⟨b,o,e,_,hq⟩:=h3 (fun e=>by rw [e] at hltz;cases hltz)
       exact⟨b,o,he.1.trans e,hq⟩
      subst ez
      have hgz:=HSb.out.good rs[k] (List.getElem_mem hltz)
      have hrtz:=HSbr.out rs[k] (List.getElem_mem hltz)
      obtain⟨u0,u1,u2,u3,u4,u5,u6,u7⟩:=hrz.at k hltz
      obtain⟨⟨⟨kz,kuz⟩,⟨vz,vuz⟩⟩,hez⟩:∃s,s=rs[k]:=⟨_,rfl⟩
      have Hez:Hid (((kz,kuz),(vz,vuz))=rs[k]):=hez
      rw [←hez] at hgz hrtz u0 u1 u2 u3 u4 u5 u6 u7
      obtain⟨akz,ckz,hkz,_⟩:=Lies.slice hgz.1.1
      obtain⟨avz,cvz,hvz,_⟩:=Lies.slice hgz.2.1
      simp only at hkz hvz
      subst hkz hvz
      have Hgz:Hid (GoodQ 16 w2 ((kz,.slice akz kz.items.length ckz),(vz,.slice avz vz.items.length cvz))):=hgz
      have Hrz:Hid (zac 16 kz=true):=hrtz
      have Hlz:Hid (Lies 16 w2 kz.items (.slice akz kz.items.length ckz)):=hgz.1.1
      simp only at u0 u1 u2 u3 u4 u5 u6 u7
      have z0:=zaa HW.out u0;have z1:=zaa HW.out u1;have z2:=zaa HW.out u2;have z3:=zaa HW.out u3;have z4:=zaa HW.out u4;have z5:=zaa HW.out u5;have z6:=zaa HW.out u6;have z7:=zaa HW.out u7
      clear u0 u1 u2 u3 u4 u5 u6 u7 hgz hrtz hez hrz
      go_wp2_with fail
      go_region_held3 (fun w'=>w'.cell? ⟨b1,1,none⟩=some (.slice (some ⟨bx,ox,none⟩) NA ca)∧w'.cell? ⟨b2,1,none⟩=some (.slice (some ⟨bz,oz,none⟩) NB cb)∧w'.cell? ⟨bx,ox+i*8,none⟩=some (.int .i64 kx.kind)∧w'.cell? ⟨bx,ox+i*8+1,none⟩=some (.int .i64 kx.num)∧w'.cell? ⟨bx,ox+i*8+2,none⟩=some (.string kx.text)∧w'.cell? ⟨bx,ox+i*8+3,none⟩=some (.slice akx kx.items.length ckx)∧w'.cell? ⟨bz,oz+k*8,none⟩=some (.int .i64 kz.kind)∧w'.cell? ⟨bz,oz+k*8+1,none⟩=some (.int .i64 kz.num)∧w'.cell? ⟨bz,oz+k*8+2,none⟩=some (.string kz.text)∧w'.cell? ⟨bz,oz+k*8+3,none⟩=some (.slice akz kz.items.length ckz)) (go_keep)
       (first|(go_at_call 91;(with_reducible refine (Ho.out kx kz _ _ _ (Lies.keeps HW.out.drew _ _ _ Hlx.out) (Lies.keeps HW.out.drew _ _ _ Hlz.out) Hrx.out Hrz.out).mono ?_);rintro e w5 ⟨rfl,hg'⟩;have hg:Below wr.heap.size wr w5:=(Below.drew (Below.refl _ _)).trans hg';have HW5:Hid (Below w2.heap.size w2 w5):=HW.out.trans (hg.mono HW.out.size);have H5:Hid (MgB q ps rs R0 w2 w5 i k no (.slice av no cv) ds):=⟨HG.out.1.keeps hg,za2 HG.out.2.1 hg,HG.out.2.2.1,HG.out.2.2.2.1,HW.out.trans (hg.mono HW.out.size),HG.out.2.2.2.2.2⟩;have x0:=zaa hg x0;have x1:=zaa hg x1;have x2:=zaa hg x2;have x3:=zaa hg x3;have x4:=zaa hg x4;have x5:=zaa hg x5;have x6:=zaa hg x6;have x7:=zaa hg x7;have z0:=zaa hg z0;have z1:=zaa hg z1;have z2:=zaa hg z2;have z3:=zaa hg z3;have z4:=zaa hg z4;have z5:=zaa hg z5;have z6:=zaa hg z6;have z7:=zaa hg z7;have ca1:=zaa hg ca1;have cb1:=zaa hg cb1;clear hg hg'))
      clear ca1 cb1
      have ca1:=zaa HW5.out Hca.out
      have cb1:=zaa HW5.out Hcb.out
      obtain⟨Z,hZ⟩:∃Z,Z=ordV q kx kz:=⟨_,rfl⟩
      rw [←hZ]
      by_cases hlt:Z<0
      ·have HZ:Hid (ordV q kx kz<0):=by rw [←hZ];exact hlt
       clear hZ
       have HA:Hid (Below w5.heap.size w5 (w5.drew.alloc (.cells #[.int .i64 kx.kind,.int .i64 kx.num,.string kx.text,.slice akx kx.items.length ckx,.int .i64 vx.kind,.int .i64 vx.num,.string vx.text,.slice avx vx.items.length cvx] 108))):=((Below.refl w5.heap.size w5).drew).alloc (Nat.le_refl _) _
       have HBW:Hid (Below w2.heap.size w2 w5):=H5.out.2.2.2.2.1
       have HSr:Hid (SrcR (w5.drew.alloc (.cells #[.int .i64 kx.kind,.int .i64 kx.num,.string kx.text,.slice akx kx.items.length ckx,.int .i64 vx.kind,.int .i64 vx.num,.string vx.text,.slice avx vx.items.length cvx] 108)) (some ⟨w5.heap.size,0,none⟩) 1 (encQ ((kx,.slice akx kx.items.length ckx),(vx,.slice avx vx.items.length cvx)))):=litR w5.drew ((kx,.slice akx kx.items.length ckx),(vx,.slice avx vx.items.length cvx)) (encQ_one Hgx.out)
       have Hbs:Hid (w2.heap.size≤(w5.drew.alloc (.cells #[.int .i64 kx.kind,.int .i64 kx.num,.string kx.text,.slice akx kx.items.length ckx,.int .i64 vx.kind,.int .i64 vx.num,.string vx.text,.slice avx vx.items.length cvx] 108)).heap.size):=Nat.le_trans HBW.out.size HA.out.size
       have HOa:Hid ((w5.drew.alloc (.cells #[.int .i64 kx.kind,.int .i64 kx.num,.string kx.text,.slice akx kx.items.length ckx,.int .i64 vx.kind,.int .i64 vx.num,.string vx.text,.slice avx vx.items.length cvx] 108)).ownsRow w2.heap.size 108 8 (.slice av no cv) no (ds.flatMap encQ)):=(H5.out.2.1).drew.alloc _
       have HGa:Hid (Box2 (w5.drew.alloc (.cells #[.int .i64 kx.kind,.int .i64 kx.num,.string kx.text,.slice akx kx.items.length ckx,.int .i64 vx.kind,.int .i64 vx.num,.string vx.text,.slice avx vx.items.length cvx] 108)) w2.heap.size 98 (.int .i64 (q:Int)) (.slice av no cv)):=(show Box2 w5 w2.heap.size 98 (.int .i64 (q:Int)) (.slice av no cv) from H5.out.1).keeps HA.out
       have Heq:Hid (((kx,.slice akx kx.items.length ckx),(vx,.slice avx vx.items.length cvx))::mrgK (cmpO q) (ps.drop (i+1)) (rs.drop (k))=mrgK (cmpO q) (ps.drop i) (rs.drop k)):=mg_lt (by have:=HNa.out;omega) (by have:=HNb.out;omega) Hex.out Hez.out HZ.out
       have Hdec:Hid ((ps.length-(i+1))+(rs.length-(k))+1≤(ps.length-i)+(rs.length-k)):=(by show _≤_;have:=HNa.out;have:=HNb.out;omega)
       have Hno5:Hid (no+1≤200000):=(by show _≤_;have:=H5.out.2.2.2.2.2;have:=HNa.out;have:=HNb.out;omega)
       have Hgw:Hid (MgB q ps rs R0 w2 w5 i k no (.slice av no cv) ds):=H5.out
       obtain⟨g0,g1,g2,g3⟩:=(show Box2 w5 w2.heap.size 98 (.int .i64 (q:Int)) (.slice av no cv) from H5.out.1).cells
       have hgl:w2.heap.size<w5.heap.size:=(show Box2 w5 w2.heap.size 98 (.int .i64 (q:Int)) (.slice av no cv) from H5.out.1).lt
       go_wp2_with fail
       go_region_law (refine stepR_append rfl (.tmp 97) (.tmp 105) rfl (base:=w2.heap.size) (n:=no) (xs:=ds.flatMap encQ) rfl HOa.out rfl HSr.out (by have:=Hno5.out;omega) Hbs.out (no+1) rfl _ rfl ?_;intro a9 c9 w9 hown9 hg9;obtain⟨hb9,hst⟩:=row2_step HGa.out (Nat.le_refl _) Hbs.out HOa.out hown9 hg9;obtain⟨_,h91,_,h93⟩:=hb9.cells;have Hst:Hid _:=hst;clear hown9 hg9 hb9 hst)
       all_goals go_wp2_with fail
       all_goals go_roundg (ps.length+rs.length-((i+1)+(k)))
       all_goals first
        | (case measure=>have:=Hm.out;have:=Hdec.out;have:=HNa.out;have:=HNb.out;omega)
        | (case rel=>have h9:=MgB.step Hgw.out ((kx,.slice akx kx.items.length ckx),(vx,.slice avx vx.items.length cvx)) Hst.out.1 Hst.out.2.1 (HBW.out.trans ((HA.out.mono HBW.out.size).trans Hst.out.2.2)) Heq.out Hdec.out;have H9:Hid _:=h9;exact⟨i+1,k,no+1,a9,c9,_,by first|rfl|go_num,by first|rfl|go_num,rfl,by omega,by omega,H9⟩)
      ·by_cases hze:Z=0
       ·have HZ:Hid (ordV q kx kz=0):=by rw [←hZ];exact hze
        subst hze
        clear hZ hlt
        have HA:Hid (Below w5.heap.size w5 (w5.drew.alloc (.cells #[.int .i64 kz.kind,.int .i64 kz.num,.string kz.text,.slice akz kz.items.length ckz,.int .i64 vz.kind,.int .i64 vz.num,.string vz.text,.slice avz vz.items.length cvz] 108))):=((Below.refl w5.heap.size w5).drew).alloc (Nat.le_refl _) _
        have HBW:Hid (Below w2.heap.size w2 w5):=H5.out.2.2.2.2.1
        have HSr:Hid (SrcR (w5.drew.alloc (.cells #[.int .i64 kz.kind,.int .i64 kz.num,.string kz.text,.slice akz kz.items.length ckz,.int .i64 vz.kind,.int .i64 vz.num,.string vz.text,.slice avz vz.items.length cvz] 108)) (some ⟨w5.heap.size,0,none⟩) 1 (encQ ((kz,.slice akz kz.items.length ckz),(vz,.slice avz vz.items.length cvz)))):=litR w5.drew ((kz,.slice akz kz.items.length ckz),(vz,.slice avz vz.items.length cvz)) (encQ_one Hgz.out)
        have Hbs:Hid (w2.heap.size≤(w5.drew.alloc (.cells #[.int .i64 kz.kind,.int .i64 kz.num,.string kz.text,.slice akz kz.items.length ckz,.int .i64 vz.kind,.int .i64 vz.num,.string vz.text,.slice avz vz.items.length cvz] 108)).heap.size):=Nat.le_trans HBW.out.size HA.out.size
        have HOa:Hid ((w5.drew.alloc (.cells #[.int .i64 kz.kind,.int .i64 kz.num,.string kz.text,.slice akz kz.items.length ckz,.int .i64 vz.kind,.int .i64 vz.num,.string vz.text,.slice avz vz.items.length cvz] 108)).ownsRow w2.heap.size 108 8 (.slice av no cv) no (ds.flatMap encQ)):=(H5.out.2.1).drew.alloc _
        have HGa:Hid (Box2 (w5.drew.alloc (.cells #[.int .i64 kz.kind,.int .i64 kz.num,.string kz.text,.slice akz kz.items.length ckz,.int .i64 vz.kind,.int .i64 vz.num,.string vz.text,.slice avz vz.items.length cvz] 108)) w2.heap.size 98 (.int .i64 (q:Int)) (.slice av no cv)):=(show Box2 w5 w2.heap.size 98 (.int .i64 (q:Int)) (.slice av no cv) from H5.out.1).keeps HA.out
        have Heq:Hid (((kz,.slice akz kz.items.length ckz),(vz,.slice avz vz.items.length cvz))::mrgK (cmpO q) (ps.drop (i+1)) (rs.drop (k+1))=mrgK (cmpO q) (ps.drop i) (rs.drop k)):=mg_eq (by have:=HNa.out;omega) (by have:=HNb.out;omega) Hex.out Hez.out HZ.out
        have Hdec:Hid ((ps.length-(i+1))+(rs.length-(k+1))+1≤(ps.length-i)+(rs.length-k)):=(by show _≤_;have:=HNa.out;have:=HNb.out;omega)
        have Hno5:Hid (no+1≤200000):=(by show _≤_;have:=H5.out.2.2.2.2.2;have:=HNa.out;have:=HNb.out;omega)
        have Hgw:Hid (MgB q ps rs R0 w2 w5 i k no (.slice av no cv) ds):=H5.out
        obtain⟨g0,g1,g2,g3⟩:=(show Box2 w5 w2.heap.size 98 (.int .i64 (q:Int)) (.slice av no cv) from H5.out.1).cells
        have hgl:w2.heap.size<w5.heap.size:=(show Box2 w5 w2.heap.size 98 (.int .i64 (q:Int)) (.slice av no cv) from H5.out.1).lt
        go_wp2_with fail
        go_region_law (refine stepR_append rfl (.tmp 119) (.tmp 127) rfl (base:=w2.heap.size) (n:=no) (xs:=ds.flatMap encQ) rfl HOa.out rfl HSr.out (by have:=Hno5.out;omega) Hbs.out (no+1) rfl _ rfl ?_;intro a9 c9 w9 hown9 hg9;obtain⟨hb9,hst⟩:=row2_step HGa.out (Nat.le_refl _) Hbs.out HOa.out hown9 hg9;obtain⟨_,h91,_,h93⟩:=hb9.cells;have Hst:Hid _:=hst;clear hown9 hg9 hb9 hst)
        all_goals go_wp2_with fail
        all_goals go_roundg (ps.length+rs.length-((i+1)+(k+1)))
        all_goals first
         | (case measure=>have:=Hm.out;have:=Hdec.out;have:=HNa.out;have:=HNb.out;omega)
         | (case rel=>have h9:=MgB.step Hgw.out ((kz,.slice akz kz.items.length ckz),(vz,.slice avz vz.items.length cvz)) Hst.out.1 Hst.out.2.1 (HBW.out.trans ((HA.out.mono HBW.out.size).trans Hst.out.2.2)) Heq.out Hdec.out;have H9:Hid _:=h9;exact⟨i+1,k+1,no+1,a9,c9,_,by first|rfl|go_num,by first|rfl|go_num,rfl,by omega,by omega,H9⟩)
       ·have HZ:Hid (0<ordV q kx kz):=by show 0<_;omega
        clear hZ
        have HA:Hid (Below w5.heap.size w5 (w5.drew.alloc (.cells #[.int .i64 kz.kind,.int .i64 kz.num,.string kz.text,.slice akz kz.items.length ckz,.int .i64 vz.kind,.int .i64 vz.num,.string vz.text,.slice avz vz.items.length cvz] 108))):=((Below.refl w5.heap.size w5).drew).alloc (Nat.le_refl _) _
        have HBW:Hid (Below w2.heap.size w2 w5):=H5.out.2.2.2.2.1
        have HSr:Hid (SrcR (w5.drew.alloc (.cells #[.int .i64 kz.kind,.int .i64 kz.num,.string kz.text,.slice akz kz.items.length ckz,.int .i64 vz.kind,.int .i64 vz.num,.string vz.text,.slice avz vz.items.length cvz] 108)) (some ⟨w5.heap.size,0,none⟩) 1 (encQ ((kz,.slice akz kz.items.length ckz),(vz,.slice avz vz.items.length cvz)))):=litR w5.drew ((kz,.slice akz kz.items.length ckz),(vz,.slice avz vz.items.length cvz)) (encQ_one Hgz.out)
        have Hbs:Hid (w2.heap.size≤(w5.drew.alloc (.cells #[.int .i64 kz.kind,.int .i64 kz.num,.string kz.text,.slice akz kz.items.length ckz,.int .i64 vz.kind,.int .i64 vz.num,.string vz.text,.slice avz vz.items.length cvz] 108)).heap.size):=Nat.le_trans HBW.out.size HA.out.size
        have HOa:Hid ((w5.drew.alloc (.cells #[.int .i64 kz.kind,.int .i64 kz.num,.string kz.text,.slice akz kz.items.length ckz,.int .i64 vz.kind,.int .i64 vz.num,.string vz.text,.slice avz vz.items.length cvz] 108)).ownsRow w2.heap.size 108 8 (.slice av no cv) no (ds.flatMap encQ)):=(H5.out.2.1).drew.alloc _
        have HGa:Hid (Box2 (w5.drew.alloc (.cells #[.int .i64 kz.kind,.int .i64 kz.num,.string kz.text,.slice akz kz.items.length ckz,.int .i64 vz.kind,.int .i64 vz.num,.string vz.text,.slice avz vz.items.length cvz] 108)) w2.heap.size 98 (.int .i64 (q:Int)) (.slice av no cv)):=(show Box2 w5 w2.heap.size 98 (.int .i64 (q:Int)) (.slice av no cv) from H5.out.1).keeps HA.out
        have Heq:Hid (((kz,.slice akz kz.items.length ckz),(vz,.slice avz vz.items.length cvz))::mrgK (cmpO q) (ps.drop (i)) (rs.drop (k+1))=mrgK (cmpO q) (ps.drop i) (rs.drop k)):=mg_gt (by have:=HNa.out;omega) (by have:=HNb.out;omega) Hex.out Hez.out HZ.out
        have Hdec:Hid ((ps.length-(i))+(rs.length-(k+1))+1≤(ps.length-i)+(rs.length-k)):=(by show _≤_;have:=HNa.out;have:=HNb.out;omega)
        have Hno5:Hid (no+1≤200000):=(by show _≤_;have:=H5.out.2.2.2.2.2;have:=HNa.out;have:=HNb.out;omega)
        have Hgw:Hid (MgB q ps rs R0 w2 w5 i k no (.slice av no cv) ds):=H5.out
        obtain⟨g0,g1,g2,g3⟩:=(show Box2 w5 w2.heap.size 98 (.int .i64 (q:Int)) (.slice av no cv) from H5.out.1).cells
        have hgl:w2.heap.size<w5.heap.size:=(show Box2 w5 w2.heap.size 98 (.int .i64 (q:Int)) (.slice av no cv) from H5.out.1).lt
        go_wp2_with fail
        go_region_law (refine stepR_append rfl (.tmp 119) (.tmp 127) rfl (base:=w2.heap.size) (n:=no) (xs:=ds.flatMap encQ) rfl HOa.out rfl HSr.out (by have:=Hno5.out;omega) Hbs.out (no+1) rfl _ rfl ?_;intro a9 c9 w9 hown9 hg9;obtain⟨hb9,hst⟩:=row2_step HGa.out (Nat.le_refl _) Hbs.out HOa.out hown9 hg9;obtain⟨_,h91,_,h93⟩:=hb9.cells;have Hst:Hid _:=hst;clear hown9 hg9 hb9 hst)
        all_goals go_wp2_with fail
        all_goals go_roundg (ps.length+rs.length-((i)+(k+1)))
        all_goals first
         | (case measure=>have:=Hm.out;have:=Hdec.out;have:=HNa.out;have:=HNb.out;omega)
         | (case rel=>have h9:=MgB.step Hgw.out ((kz,.slice akz kz.items.length ckz),(vz,.slice avz vz.items.length cvz)) Hst.out.1 Hst.out.2.1 (HBW.out.trans ((HA.out.mono HBW.out.size).trans Hst.out.2.2)) Heq.out Hdec.out;have H9:Hid _:=h9;exact⟨i,k+1,no+1,a9,c9,_,by first|rfl|go_num,by first|rfl|go_num,rfl,by omega,by omega,H9⟩)
     ·have hkE:(k:Int)=(NB:Nat):=by omega
      obtain rfl:k=NB:=by omega
      have HA:Hid (Below wr.heap.size wr (wr.drew.alloc (.cells #[.int .i64 kx.kind,.int .i64 kx.num,.string kx.text,.slice akx kx.items.length ckx,.int .i64 vx.kind,.int .i64 vx.num,.string vx.text,.slice avx vx.items.length cvx] 108))):=((Below.refl wr.heap.size wr).drew).alloc (Nat.le_refl _) _
      have HBW:Hid (Below w2.heap.size w2 wr):=HG.out.2.2.2.2.1
      have HSr:Hid (SrcR (wr.drew.alloc (.cells #[.int .i64 kx.kind,.int .i64 kx.num,.string kx.text,.slice akx kx.items.length ckx,.int .i64 vx.kind,.int .i64 vx.num,.string vx.text,.slice avx vx.items.length cvx] 108)) (some ⟨wr.heap.size,0,none⟩) 1 (encQ ((kx,.slice akx kx.items.length ckx),(vx,.slice avx vx.items.length cvx)))):=litR wr.drew ((kx,.slice akx kx.items.length ckx),(vx,.slice avx vx.items.length cvx)) (encQ_one Hgx.out)
      have Hbs:Hid (w2.heap.size≤(wr.drew.alloc (.cells #[.int .i64 kx.kind,.int .i64 kx.num,.string kx.text,.slice akx kx.items.length ckx,.int .i64 vx.kind,.int .i64 vx.num,.string vx.text,.slice avx vx.items.length cvx] 108)).heap.size):=Nat.le_trans HBW.out.size HA.out.size
      have HOa:Hid ((wr.drew.alloc (.cells #[.int .i64 kx.kind,.int .i64 kx.num,.string kx.text,.slice akx kx.items.length ckx,.int .i64 vx.kind,.int .i64 vx.num,.string vx.text,.slice avx vx.items.length cvx] 108)).ownsRow w2.heap.size 108 8 (.slice av no cv) no (ds.flatMap encQ)):=(HG.out.2.1).drew.alloc _
      have HGa:Hid (Box2 (wr.drew.alloc (.cells #[.int .i64 kx.kind,.int .i64 kx.num,.string kx.text,.slice akx kx.items.length ckx,.int .i64 vx.kind,.int .i64 vx.num,.string vx.text,.slice avx vx.items.length cvx] 108)) w2.heap.size 98 (.int .i64 (q:Int)) (.slice av no cv)):=(show Box2 wr w2.heap.size 98 (.int .i64 (q:Int)) (.slice av no cv) from HG.out.1).keeps HA.out
      have Heq:Hid (((kx,.slice akx kx.items.length ckx),(vx,.slice avx vx.items.length cvx))::mrgK (cmpO q) (ps.drop (i+1)) (rs.drop (k))=mrgK (cmpO q) (ps.drop i) (rs.drop k)):=mg_l (by have:=HNa.out;omega) (by have:=HNb.out;omega) Hex.out
      have Hdec:Hid ((ps.length-(i+1))+(rs.length-(k))+1≤(ps.length-i)+(rs.length-k)):=(by show _≤_;have:=HNa.out;have:=HNb.out;omega)
      have Hno5:Hid (no+1≤200000):=(by show _≤_;have:=HG.out.2.2.2.2.2;have:=HNa.out;have:=HNb.out;omega)
      have Hgw:Hid (MgB q ps rs R0 w2 wr i k no (.slice av no cv) ds):=HG.out
      obtain⟨g0,g1,g2,g3⟩:=(show Box2 wr w2.heap.size 98 (.int .i64 (q:Int)) (.slice av no cv) from HG.out.1).cells
      have hgl:w2.heap.size<wr.heap.size:=(show Box2 wr w2.heap.size 98 (.int .i64 (q:Int)) (.slice av no cv) from HG.out.1).lt
      go_wp2_with fail
      go_region_law (refine stepR_append rfl (.tmp 97) (.tmp 105) rfl (base:=w2.heap.size) (n:=no) (xs:=ds.flatMap encQ) rfl HOa.out rfl HSr.out (by have:=Hno5.out;omega) Hbs.out (no+1) rfl _ rfl ?_;intro a9 c9 w9 hown9 hg9;obtain⟨hb9,hst⟩:=row2_step HGa.out (Nat.le_refl _) Hbs.out HOa.out hown9 hg9;obtain⟨_,h91,_,h93⟩:=hb9.cells;have Hst:Hid _:=hst;clear hown9 hg9 hb9 hst)
      all_goals go_wp2_with fail
      all_goals go_roundg (ps.length+rs.length-((i+1)+(k)))
      all_goals first
       | (case measure=>have:=Hm.out;have:=Hdec.out;have:=HNa.out;have:=HNb.out;omega)
       | (case rel=>have h9:=MgB.step Hgw.out ((kx,.slice akx kx.items.length ckx),(vx,.slice avx vx.items.length cvx)) Hst.out.1 Hst.out.2.1 (HBW.out.trans ((HA.out.mono HBW.out.size).trans Hst.out.2.2)) Heq.out Hdec.out;have H9:Hid _:=h9;exact⟨i+1,k,no+1,a9,c9,_,by first|rfl|go_num,by first|rfl|go_num,rfl,by omega,by omega,H9⟩)
    ·have hiI : ¬(i:Int)<(NA:Nat):=by omega
     by_cases hkN:k<NB
     ·have hkI:(k:Int)<(NB:Nat):=by omega
      have hkE : ¬(k:Int)=(NB:Nat):=by omega
      have hkE2 : ¬k=NB:=by omega
      have hkcb:k<cb:=by omega
      have hltz:k<rs.length:=by have:=HNb.out;omega
      obtain⟨bz,oz,ez,hrz⟩:∃b o,ab=some ⟨b,o,none⟩∧QAt w2 b o rs:=by
       obtain⟨a2,c2,he,_,_,h3,_⟩:=HSb.out
       simp only [Value.slice.injEq] at he
       obtain⟨b,o,e,_,hq⟩:=h3 (fun e=>by rw [e] at hltz;cases hltz)
       exact⟨b,o,he.1.trans e,hq⟩
      subst ez
      have hgz:=HSb.out.good rs[k] (List.getElem_mem hltz)
      have hrtz:=HSbr.out rs[k] (List.getElem_mem hltz)
      obtain⟨u0,u1,u2,u3,u4,u5,u6,u7⟩:=hrz.at k hltz
      obtain⟨⟨⟨kz,kuz⟩,⟨vz,vuz⟩⟩,hez⟩:∃s,s=rs[k]:=⟨_,rfl⟩
      have Hez:Hid (((kz,kuz),(vz,vuz))=rs[k]):=hez
      rw [←hez] at hgz hrtz u0 u1 u2 u3 u4 u5 u6 u7
      obtain⟨akz,ckz,hkz,_⟩:=Lies.slice hgz.1.1
      obtain⟨avz,cvz,hvz,_⟩:=Lies.slice hgz.2.1
      simp only at hkz hvz
      subst hkz hvz
      have Hgz:Hid (GoodQ 16 w2 ((kz,.slice akz kz.items.length ckz),(vz,.slice avz vz.items.length cvz))):=hgz
      have Hrz:Hid (zac 16 kz=true):=hrtz
      have Hlz:Hid (Lies 16 w2 kz.items (.slice akz kz.items.length ckz)):=hgz.1.1
      simp only at u0 u1 u2 u3 u4 u5 u6 u7
      have z0:=zaa HW.out u0;have z1:=zaa HW.out u1;have z2:=zaa HW.out u2;have z3:=zaa HW.out u3;have z4:=zaa HW.out u4;have z5:=zaa HW.out u5;have z6:=zaa HW.out u6;have z7:=zaa HW.out u7
      clear u0 u1 u2 u3 u4 u5 u6 u7 hgz hrtz hez hrz
      have HA:Hid (Below wr.heap.size wr (wr.drew.alloc (.cells #[.int .i64 kz.kind,.int .i64 kz.num,.string kz.text,.slice akz kz.items.length ckz,.int .i64 vz.kind,.int .i64 vz.num,.string vz.text,.slice avz vz.items.length cvz] 108))):=((Below.refl wr.heap.size wr).drew).alloc (Nat.le_refl _) _
      have HBW:Hid (Below w2.heap.size w2 wr):=HG.out.2.2.2.2.1
      have HSr:Hid (SrcR (wr.drew.alloc (.cells #[.int .i64 kz.kind,.int .i64 kz.num,.string kz.text,.slice akz kz.items.length ckz,.int .i64 vz.kind,.int .i64 vz.num,.string vz.text,.slice avz vz.items.length cvz] 108)) (some ⟨wr.heap.size,0,none⟩) 1 (encQ ((kz,.slice akz kz.items.length ckz),(vz,.slice avz vz.items.length cvz)))):=litR wr.drew ((kz,.slice akz kz.items.length ckz),(vz,.slice avz vz.items.length cvz)) (encQ_one Hgz.out)
      have Hbs:Hid (w2.heap.size≤(wr.drew.alloc (.cells #[.int .i64 kz.kind,.int .i64 kz.num,.string kz.text,.slice akz kz.items.length ckz,.int .i64 vz.kind,.int .i64 vz.num,.string vz.text,.slice avz vz.items.length cvz] 108)).heap.size):=Nat.le_trans HBW.out.size HA.out.size
      have HOa:Hid ((wr.drew.alloc (.cells #[.int .i64 kz.kind,.int .i64 kz.num,.string kz.text,.slice akz kz.items.length ckz,.int .i64 vz.kind,.int .i64 vz.num,.string vz.text,.slice avz vz.items.length cvz] 108)).ownsRow w2.heap.size 108 8 (.slice av no cv) no (ds.flatMap encQ)):=(HG.out.2.1).drew.alloc _
      have HGa:Hid (Box2 (wr.drew.alloc (.cells #[.int .i64 kz.kind,.int .i64 kz.num,.string kz.text,.slice akz kz.items.length ckz,.int .i64 vz.kind,.int .i64 vz.num,.string vz.text,.slice avz vz.items.length cvz] 108)) w2.heap.size 98 (.int .i64 (q:Int)) (.slice av no cv)):=(show Box2 wr w2.heap.size 98 (.int .i64 (q:Int)) (.slice av no cv) from HG.out.1).keeps HA.out
      have Heq:Hid (((kz,.slice akz kz.items.length ckz),(vz,.slice avz vz.items.length cvz))::mrgK (cmpO q) (ps.drop (i)) (rs.drop (k+1))=mrgK (cmpO q) (ps.drop i) (rs.drop k)):=mg_r (by have:=HNa.out;omega) (by have:=HNb.out;omega) Hez.out
      have Hdec:Hid ((ps.length-(i))+(rs.length-(k+1))+1≤(ps.length-i)+(rs.length-k)):=(by show _≤_;have:=HNa.out;have:=HNb.out;omega)
      have Hno5:Hid (no+1≤200000):=(by show _≤_;have:=HG.out.2.2.2.2.2;have:=HNa.out;have:=HNb.out;omega)
      have Hgw:Hid (MgB q ps rs R0 w2 wr i k no (.slice av no cv) ds):=HG.out
      obtain⟨g0,g1,g2,g3⟩:=(show Box2 wr w2.heap.size 98 (.int .i64 (q:Int)) (.slice av no cv) from HG.out.1).cells
      have hgl:w2.heap.size<wr.heap.size:=(show Box2 wr w2.heap.size 98 (.int .i64 (q:Int)) (.slice av no cv) from HG.out.1).lt
      go_wp2_with fail
      go_region_law (refine stepR_append rfl (.tmp 119) (.tmp 127) rfl (base:=w2.heap.size) (n:=no) (xs:=ds.flatMap encQ) rfl HOa.out rfl HSr.out (by have:=Hno5.out;omega) Hbs.out (no+1) rfl _ rfl ?_;intro a9 c9 w9 hown9 hg9;obtain⟨hb9,hst⟩:=row2_step HGa.out (Nat.le_refl _) Hbs.out HOa.out hown9 hg9;obtain⟨_,h91,_,h93⟩:=hb9.cells;have Hst:Hid _:=hst;clear hown9 hg9 hb9 hst)
      all_goals go_wp2_with fail
      all_goals go_roundg (ps.length+rs.length-((i)+(k+1)))
      all_goals first
       | (case measure=>have:=Hm.out;have:=Hdec.out;have:=HNa.out;have:=HNb.out;omega)
       | (case rel=>have h9:=MgB.step Hgw.out ((kz,.slice akz kz.items.length ckz),(vz,.slice avz vz.items.length cvz)) Hst.out.1 Hst.out.2.1 (HBW.out.trans ((HA.out.mono HBW.out.size).trans Hst.out.2.2)) Heq.out Hdec.out;have H9:Hid _:=h9;exact⟨i,k+1,no+1,a9,c9,_,by first|rfl|go_num,by first|rfl|go_num,rfl,by omega,by omega,H9⟩)
     ·have hkI : ¬(k:Int)<(NB:Nat):=by omega
      have HE:Hid (BdP q R0 w (.returned (.pointer (some ⟨w2.heap.size,0,none⟩))) wr):=MgB.done HG.out (by have:=HNa.out;omega) (by have:=HNb.out;omega) Hb2.out HGR.out HRl.out
      obtain⟨g0,g1,g2,g3⟩:=HG.out.1.cells
      go_wp2_with fail
      go_ret
      exact HE.out
theorem rbuild_any (q:Nat) (hq:q<6):∀(k:Nat) (qs:List PP) (u:Value) (w:World),SlQ 0 16 w qs u→(∀p∈qs,zac 16 p.1.1=true)→qs.length≤131072→qs.length≤k+1→
 Calls Tryz.prog 118 #[.int .i64 (q:Int),u] w (BdP q (kyd (cmpO q) (k+1) qs) w):=by
 intro k
 induction k with
 | zero=>intro qs u w hu hr hlen hk;exact rbuild_core q hq 0 qs u w hu hr hlen (fun h=>by omega)
 | succ k ih=>intro qs u w hu hr hlen hk;exact rbuild_core q hq (k+1) qs u w hu hr hlen (fun _ m v W hm hmr hv=>ih m v W hv hmr (by omega) (by omega))
theorem lst_mem {α:Type} {l:List α} {z:α} (h:z∈lst l):z∈l:=by
 unfold lst at h
 cases hl:l.getLast? with
 | none=>rw [hl] at h;cases h
 | some x=>
  rw [hl] at h
  obtain rfl:z=x:=List.mem_singleton.1 h
  exact List.mem_of_getLast? hl
theorem kyd_mem_iff {α:Type} {cf:α→α→Int} (h:Cmp3 cf) (n:Nat) (l:List α) (hn:l.length≤n) (z:α):z∈kyd cf n l↔z∈lst (l.filter (sim (ltI cf) z)):=by
 have h1:=(kyd_spec h n l hn).2 z
 constructor
 ·intro hz
  rw [←h1]
  exact List.mem_filter.2 ⟨hz,zbb h.weak z⟩
 ·intro hz
  rw [←h1] at hz
  exact (List.mem_filter.1 hz).1
theorem sim_zero {α:Type} {cf:α→α→Int} (h:Cmp3 cf) (a b:α):sim (ltI cf) a b=decide (cf a b=0):=by
 have ht:=h.turn a b
 rw [Bool.eq_iff_iff,sim_iff,decide_eq_true_eq]
 constructor
 ·rintro ⟨h1,h2⟩
  have a1 : ¬cf a b<0:=of_decide_eq_false h1
  have a2 : ¬cf b a<0:=of_decide_eq_false h2
  omega
 ·intro h0
  exact⟨decide_eq_false (by omega),decide_eq_false (by omega)⟩
theorem kyd_same {α:Type} {cf cg:α→α→Int} (h:Cmp3 cf) (g:Cmp3 cg) (n m:Nat) (l:List α) (hn:l.length≤n) (hm:l.length≤m) (he:∀a∈l,∀b∈l,cf a b=0↔cg a b=0) (z:α):z∈kyd cf n l↔z∈kyd cg m l:=by
 rw [kyd_mem_iff h n l hn,kyd_mem_iff g m l hm]
 by_cases hz:z∈l
 ·have e:l.filter (sim (ltI cf) z)=l.filter (sim (ltI cg) z):=by
   apply List.filter_congr
   intro x hx
   rw [sim_zero h,sim_zero g]
   exact decide_eq_decide.2 (he z hz x hx)
  rw [e]
 ·exact⟨fun k=>absurd (List.mem_filter.1 (lst_mem k)).1 hz,fun k=>absurd (List.mem_filter.1 (lst_mem k)).1 hz⟩
theorem kydO_mem {q:Nat} {qs:List PP} (hg:∀p∈qs,Good 16 p.1.1) (n m:Nat) (hn:qs.length≤n) (hm:qs.length≤m) (z:PP):z∈kyd (cmpO q) n qs↔z∈kyd (cmpQ 16) m qs:=
 kyd_same (cmpO_3 q) (cmp3Q 16) n m qs hn hm (fun a ha b hb=>zax q (hg a ha) (hg b hb)) z
theorem kydO_rises {q:Nat} {qs:List PP} (n:Nat) (hn:qs.length≤n):RT.Rises (byK q) ((kyd (cmpO q) n qs).map trT):=by
 have h:(kyd (cmpO q) n qs).Pairwise (fun a b=>cmpO q a b<0):=(kyd_spec (cmpO_3 q) n qs hn).1
 show ((kyd (cmpO q) n qs).map trT).Pairwise (fun a b=>byK q a b<0)
 rw [List.pairwise_map]
 exact h
theorem kydO_eq {q:Nat} {qs:List PP} (hg:∀p∈qs,Good 16 p.1.1) (n m:Nat) (hn:qs.length≤n) (hm:qs.length≤m) {l:List PT} (hl:RT.Rises (byK q) l) (h:∀y,y∈l↔y∈(kyd (cmpQ 16) m qs).map trT):l=(kyd (cmpO q) n qs).map trT:=by
 refine RT.rises_eq (zbd q) _ _ hl (kydO_rises n hn) fun y=>?_
 rw [h y,List.mem_map,List.mem_map]
 constructor
 ·rintro ⟨p,hp,rfl⟩
  exact⟨p,(kydO_mem hg n m hn hm p).2 hp,rfl⟩
 ·rintro ⟨p,hp,rfl⟩
  exact⟨p,(kydO_mem hg n m hn hm p).1 hp,rfl⟩
theorem BdP.dm {q:Nat} (hq:q<6) {n:Nat} {qs:List PP} (hn:qs.length≤n) {w w':World} {e:Ending} (h:BdP q (kyd (cmpO q) n qs) w e w') (hg:∀p∈qs,Good 16 p.1.1∧Good 16 p.2.1) (hl:(kyd (cmpO q) n qs).length≤65536):Below w.heap.size w w'∧∃b,e=.returned (.pointer (some ⟨b,0,none⟩))∧DM w' q ((kyd (cmpO q) n qs).map trT) b:=by
 obtain⟨hb,b,v,rfl,h0,h1,hs⟩:=h
 refine⟨hb,b,rfl,⟨h0,⟨_,v,h1,rfl,hs⟩,hq,?_,kydO_rises n hn,by rw [List.length_map];exact hl⟩⟩
 intro x hx
 obtain⟨p,hp,rfl⟩:=List.mem_map.1 hx
 exact hg p (kyd_mem _ _ _ p hp)
end Go.Proofs.YtlnecfjnffdciabGreat
