import Derived.Test.YtlnecfjnffdciabGreatSBoth16
import Derived.Test.YtlnecfjnffdciabGreatPutP
set_option maxRecDepth 100000
set_option maxHeartbeats 32000000
namespace Go.Proofs.YtlnecfjnffdciabGreat
open Go.RowKit Go.Shelf
theorem SlP.src16 {base d:Nat} {w:World} {ps:List (VT×Value)} {a:Option Addr} {n c:Nat} (h:SlP base d w ps (.slice a n c)):Src19 w a n (ps.flatMap encP):=by
 obtain⟨a',c',hv,hc,hl,hrow,hs⟩:=h
 injection hv with h1 h2 h3
 subst h1 h2 h3
 refine⟨fun e=>?_,flat_len ps,fun ad e j u hu=>?_,fun u hu=>?_⟩
 ·by_cases hne:ps=[]
  ·rw [hne];rfl
  ·obtain⟨b,o,ha,_⟩:=hrow hne
   rw [e] at ha;cases ha
 ·have hne:ps≠[]:=by intro e2;rw [e2] at hu;simp at hu
  obtain⟨b,o,ha,_,hr⟩:=hrow hne
  rw [e] at ha
  injection ha with ha
  subst ha
  rw [add_addr5]
  exact hr.flat j u hu
 ·obtain⟨p,hp,hu⟩:=List.mem_flatMap.1 hu
  exact encP_one (hs p hp) u hu
theorem stepV_append {W:World} {ops:Array Oper} {o:Oper} {act:Act} {K:Act→World→Prop} {Q:Exit→Act→World→Prop} {E:Prop} (hgd:o.guard=none) (s x:Operand)
 (ho:o.op=.call { callee:=.builtin .append,args:=#[s,x],argTypes:=#[22,22] })
 {base n:Nat} {v:Value} {xs:List Value} (hs:act.eval s=v) (hown:W.ownsRow base 33 4 v n xs) {aa:Option Addr} {m c:Nat} (hx:act.eval x=.slice aa m c)
 {news:List Value} (hsrc:Src19 W aa m news) (hm:n+m≤1000000) (hbase:base≤W.heap.size) (k:Nat) (hk:n+m=k) (ys:List Value) (hys:xs++news=ys)
 (h:∀a' c' W',W'.ownsRow base 33 4 (.slice a' k c') k ys→W.grownBy W' v.ownBlock→K (act.put o.dst (.slice a' k c')) W') :
 if Region.wanted o (yielded ops act.tmps)=true then Oper.wp Tryz.prog o act W K Q else E:=by
 subst hk hys
 exact step_append19 hgd s x ho hs hown hx hsrc hm hbase h
theorem runi_16 {w:World} {q r:Nat} {la lb:List PT} {c d:Nat} (h1:DS w q la c) (h2:DS w r lb d):Calls Tryz.prog 39 #[.pointer (some ⟨c,0,none⟩),.pointer (some ⟨d,0,none⟩)] w (DsPost q (uniL q la lb) (uniE (uniL q la lb)) w):=by
 have HIa:Hid (∀V,Below w.heap.size w V→Calls Tryz.prog 64 #[.pointer (some ⟨c,0,none⟩)] V (ItPostO w V.heap.size (la.map (·.1)) V)):=fun V hV=>ritemsO_16 h1 hV
 have HIb:Hid (∀V,Below w.heap.size w V→Calls Tryz.prog 64 #[.pointer (some ⟨d,0,none⟩)] V (ItPostO w V.heap.size (lb.map (·.1)) V)):=fun V hV=>ritemsO_16 h2 hV
 obtain⟨m,g0,hdm,hna⟩:=h1
 obtain⟨m2,_,hdm2,hnb⟩:=h2
 have g1:=hdm.ord
 have hq6:=hdm.q6
 have hza:=hdm.size
 have hzb:=hdm2.size
 have hga:∀k∈la.map (·.1),zac 16 k=true:=fun k hk=>by
  obtain⟨x,hx,rfl⟩:=List.mem_map.1 hk
  exact (hdm.right x hx).1.1
 have hgb:∀k∈lb.map (·.1),zac 16 k=true:=fun k hk=>by
  obtain⟨x,hx,rfl⟩:=List.mem_map.1 hk
  exact (hdm2.right x hx).1.1
 have HMk:Hid (∀(pa pb:List (VT×Value)) (u:Value) (V:World),pa.map (·.1)=la.map (·.1)→pb.map (·.1)=lb.map (·.1)→SlP 0 16 V (pa++pb) u→Calls Tryz.prog 61 #[.int .i64 (q:Int),u] V (MkPost q (uniL q la lb) V)):=fun pa pb u V ea eb hs=>by
  have hla:=congrArg List.length ea
  have hlb:=congrArg List.length eb
  rw [List.length_map,List.length_map] at hla hlb
  have h9:=rmake_16 q hq6 (pa++pb) u V hs (by rw [List.length_append];omega) (fun p hp=>by
   rcases List.mem_append.1 hp with h|h
   ·exact hga p.1 (by rw [←ea];exact List.mem_map_of_mem h)
   ·exact hgb p.1 (by rw [←eb];exact List.mem_map_of_mem h))
  rw [List.map_append,ea,eb,setL_uni hna hnb] at h9
  exact h9
 have HNl:Hid (Nils (uniL q la lb)):=nils_uni hna hnb
 have HUE:Hid (uniE (uniL q la lb)=if 65536<(uniL q la lb).length then 2 else 0):=rfl
 have HKa:Hid ((la.map (·.1)).length≤65536):=by show _≤_;rw [List.length_map];exact hza
 have HKb:Hid ((lb.map (·.1)).length≤65536):=by show _≤_;rw [List.length_map];exact hzb
 clear hdm hdm2 hna hnb hga hgb hza hzb hq6
 generalize uniE (uniL q la lb)=E at *
 generalize uniL q la lb=UL at *
 generalize la.map (·.1)=ka at *
 generalize lb.map (·.1)=kb at *
 have hcn : ¬c=w.heap.size:=by have:=zad g0;simp only at this;omega
 have hmn : ¬m=w.heap.size:=by have:=zad g1;simp only at this;omega
 have H01:Hid (w.cell? ⟨c,0,none⟩=some (.pointer (some ⟨m,0,none⟩))∧w.cell? ⟨m,0,none⟩=some (.int .i64 (q:Int))):=⟨g0,g1⟩
 go_enter Tryz.func39,Tryz.ntmps39
 go_wp2_with fail
 go_cut [6] from 7 to 25 (fun s6 wx=>∃c9 m9 a9 k9,s6=.pointer (some ⟨c9,0,none⟩)∧Hid (Below w.heap.size w wx)∧Hid (wx.cell? ⟨c9,0,none⟩=some (.pointer (some ⟨m9,0,none⟩))∧wx.cell? ⟨m9,1,none⟩=some (.slice a9 UL.length k9))∧Hid (UL.length≤65536→DS wx q UL c9))
 case first=>
  have x0:w.drew.cell? ⟨c,0,none⟩=some (.pointer (some ⟨m,0,none⟩)):=zaa (Below.refl _ _).drew g0
  have x1:w.drew.cell? ⟨m,0,none⟩=some (.int .i64 (q:Int)):=zaa (Below.refl _ _).drew g1
  have hba:Below w.heap.size w (w.alloc (.cells #[] 33)):=((Grew.refl w).alloc _).below
  have z0:(w.alloc (.cells #[] 33)).cell? ⟨c,0,none⟩=some (.pointer (some ⟨m,0,none⟩)):=zaa hba g0
  have z1:(w.alloc (.cells #[] 33)).cell? ⟨m,0,none⟩=some (.int .i64 (q:Int)):=zaa hba g1
  clear hba
  have hba9:Below w.heap.size w (w.alloc (.cells #[] 33)):=((Grew.refl w).alloc _).below
  have Hown0:Hid ((w.alloc (.cells #[] 33)).drew.ownsRow w.heap.size 33 4 (.slice (some ⟨w.heap.size,0,none⟩) 0 0) 0 []):=za2 (World.ownsRow_made w #[] 0 (Nat.le_refl _) (by unfold maxLen;omega) rfl) (Below.refl _ _).drew
  have Hb0:Hid (Below w.heap.size w (w.alloc (.cells #[] 33)).drew):=hba9.drew
  clear hba9
  have Hbd:Hid (Below w.heap.size w w.drew):=(Below.refl w.heap.size w).drew
  go_region_held3 (fun w'=>w'.cell? ⟨c,0,none⟩=some (.pointer (some ⟨m,0,none⟩))∧w'.cell? ⟨m,0,none⟩=some (.int .i64 (q:Int))) (go_keep)
   (first
    | (refine stepV_append rfl (.tmp 17) (.tmp 19) rfl (base:=w.heap.size) (n:=psa.length) (xs:=psa.flatMap encP) rfl Hown6.out rfl HSr6.out (by have:=HNA.out;have:=HNB.out;omega) Hsz6.out (psa.length+psb.length) rfl ((psa++psb).flatMap encP) (List.flatMap_append.symm) ?_;intro a7 c7 w7 hown7 hg7;have hb7:Below w.heap.size w w7:=hb6.grown hg7 Hsz6.out (fun k hk=>(Hown6.out.lt k hk).1);have x0:w7.cell? ⟨c,0,none⟩=some (.pointer (some ⟨m,0,none⟩)):=zaa hb7 H01.out.1;have x1:w7.cell? ⟨m,0,none⟩=some (.int .i64 (q:Int)):=zaa hb7 H01.out.2;have HS7:Hid (SlP 0 16 w7 (psa++psb) (.slice a7 (psa.length+psb.length) c7)):=(SlP.of_own (List.length_append.symm) hown7 (fun p hp=>((List.mem_append.1 hp).elim (HPa.out.2 p) (HPb.out.2 p)).keeps hb7) (by rw [List.length_append];have:=HNA.out;have:=HNB.out;omega)).mono (Nat.zero_le _);clear hown7 hg7)
    | (refine stepV_append rfl (.tmp 14) (.tmp 16) rfl (base:=w.heap.size) (n:=0) (xs:=[]) rfl HownA.out rfl HSrA.out (by have:=HNA.out;omega) HszA.out psa.length (Nat.zero_add _) (psa.flatMap encP) rfl ?_;intro a5 c5 w5 hown5 hg5;have hb5:Below w.heap.size w w5:=HbA.out.grown hg5 HszA.out (fun k hk=>(HownA.out.lt k hk).1);have x0:w5.cell? ⟨c,0,none⟩=some (.pointer (some ⟨m,0,none⟩)):=zaa hb5 H01.out.1;have x1:w5.cell? ⟨m,0,none⟩=some (.int .i64 (q:Int)):=zaa hb5 H01.out.2;have Hown5:Hid (w5.ownsRow w.heap.size 33 4 (.slice a5 psa.length c5) psa.length (psa.flatMap encP)):=hown5;clear hown5 hg5)
    | (refine stepV_append rfl (.tmp 14) (.tmp 16) rfl (base:=w.heap.size) (n:=0) (xs:=[]) rfl HownB.out rfl HSrB.out (by have:=HNA.out;omega) HszB.out psa.length (Nat.zero_add _) (psa.flatMap encP) rfl ?_;intro a5 c5 w5 hown5 hg5;have hb5:Below w.heap.size w w5:=HbB.out.grown hg5 HszB.out (fun k hk=>(HownB.out.lt k hk).1);have x0:w5.cell? ⟨c,0,none⟩=some (.pointer (some ⟨m,0,none⟩)):=zaa hb5 H01.out.1;have x1:w5.cell? ⟨m,0,none⟩=some (.int .i64 (q:Int)):=zaa hb5 H01.out.2;have Hown5:Hid (w5.ownsRow w.heap.size 33 4 (.slice a5 psa.length c5) psa.length (psa.flatMap encP)):=hown5;clear hown5 hg5)
    | (go_at_call 61;(with_reducible refine Calls.mono (HMk.out psa psb _ _ HPa.out.1 HPb.out.1 HS7.out) ?_);rintro e w8 ⟨hg8,c9,m9,a9,k9,rfl,hm1,hm2,hd9⟩;have Hb8:Hid (Below w.heap.size w w8):=hb7.trans (hg8.mono hb7.size);have H8:Hid (w8.cell? ⟨c9,0,none⟩=some (.pointer (some ⟨m9,0,none⟩))∧w8.cell? ⟨m9,1,none⟩=some (.slice a9 UL.length k9)):=⟨hm1,hm2⟩;have HD8:Hid (UL.length≤65536→DS w8 q UL c9):=hd9;have x0:=zaa hg8 x0;have x1:=zaa hg8 x1;clear hg8 hm1 hm2 hd9)
    | (go_at_call 64;(with_reducible refine Calls.mono (HIb.out _ hb5) ?_);rintro e w6 ⟨hg6,psb,ub,rfl,hbb,hsb,hgb⟩;obtain⟨ab,cb,rfl,_⟩:=hsb.slice;have hb6:Below w.heap.size w w6:=hb5.trans (hg6.mono hb5.size);have x0:w6.cell? ⟨c,0,none⟩=some (.pointer (some ⟨m,0,none⟩)):=zaa hb6 H01.out.1;have x1:w6.cell? ⟨m,0,none⟩=some (.int .i64 (q:Int)):=zaa hb6 H01.out.2;have HPb:Hid (psb.map (·.1)=kb∧∀p∈psb,Sound 16 w p):=⟨hbb,hgb⟩;have HNB:Hid (psb.length≤65536):=(by have e9:=congrArg List.length hbb;rw [List.length_map] at e9;have:=HKb.out;show _≤_;omega);have Hown6:Hid (w6.ownsRow w.heap.size 33 4 (.slice a5 psa.length c5) psa.length (psa.flatMap encP)):=za2 Hown5.out hg6;have HSr6:Hid (Src19 w6 ab psb.length (psb.flatMap encP)):=hsb.src16;have Hsz6:Hid (w.heap.size≤w6.heap.size):=hb6.size;clear hg6 hbb hsb hgb)
    | (go_at_call 64;(with_reducible refine Calls.mono (HIa.out _ Hb0.out) ?_);rintro e w4 ⟨hg4,psa,ua,rfl,ha,hsa,hga⟩;obtain⟨aa,ca,rfl,_⟩:=hsa.slice;have hb4:Below w.heap.size w w4:=Hb0.out.trans (hg4.mono Hb0.out.size);have x0:w4.cell? ⟨c,0,none⟩=some (.pointer (some ⟨m,0,none⟩)):=zaa hb4 H01.out.1;have x1:w4.cell? ⟨m,0,none⟩=some (.int .i64 (q:Int)):=zaa hb4 H01.out.2;have HPa:Hid (psa.map (·.1)=ka∧∀p∈psa,Sound 16 w p):=⟨ha,hga⟩;have HNA:Hid (psa.length≤65536):=(by have e9:=congrArg List.length ha;rw [List.length_map] at e9;have:=HKa.out;show _≤_;omega);have HownA:Hid (w4.ownsRow w.heap.size 33 4 (.slice (some ⟨w.heap.size,0,none⟩) 0 0) 0 []):=za2 Hown0.out hg4;have HSrA:Hid (Src19 w4 aa psa.length (psa.flatMap encP)):=hsa.src16;have HszA:Hid (w.heap.size≤w4.heap.size):=hb4.size;have HbA:Hid (Below w.heap.size w w4):=hb4;clear hg4 ha hsa hga)
    | (go_at_call 64;(with_reducible refine Calls.mono (HIa.out _ Hbd.out) ?_);rintro e w4 ⟨hg4,psa,ua,rfl,ha,hsa,hga⟩;obtain⟨aa,ca,rfl,_⟩:=hsa.slice;have hb4:Below w.heap.size w w4:=Hbd.out.trans (hg4.mono Hbd.out.size);have x0:w4.cell? ⟨c,0,none⟩=some (.pointer (some ⟨m,0,none⟩)):=zaa hb4 H01.out.1;have x1:w4.cell? ⟨m,0,none⟩=some (.int .i64 (q:Int)):=zaa hb4 H01.out.2;have HPa:Hid (psa.map (·.1)=ka∧∀p∈psa,Sound 16 w p):=⟨ha,hga⟩;have HNA:Hid (psa.length≤65536):=(by have e9:=congrArg List.length ha;rw [List.length_map] at e9;have:=HKa.out;show _≤_;omega);have hcn4 : ¬c=w4.heap.size:=(by have:=zad x0;simp only at this;omega);have hmn4 : ¬m=w4.heap.size:=(by have:=zad x1;simp only at this;omega);have hba4:Below w4.heap.size w4 (w4.alloc (.cells #[] 33)):=((Grew.refl w4).alloc _).below;have HownB:Hid ((w4.alloc (.cells #[] 33)).ownsRow w.heap.size 33 4 (.slice (some ⟨w4.heap.size,0,none⟩) 0 0) 0 []):=World.ownsRow_made w4 #[] 0 hb4.size (by unfold maxLen;omega) rfl;have HSrB:Hid (Src19 (w4.alloc (.cells #[] 33)) aa psa.length (psa.flatMap encP)):=hsa.src16.keeps hba4;have HbB:Hid (Below w.heap.size w (w4.alloc (.cells #[] 33))):=hb4.alloc hb4.size _;have HszB:Hid (w.heap.size≤(w4.alloc (.cells #[] 33)).heap.size):=HbB.out.size;have y0:(w4.alloc (.cells #[] 33)).cell? ⟨c,0,none⟩=some (.pointer (some ⟨m,0,none⟩)):=zaa HbB.out H01.out.1;have y1:(w4.alloc (.cells #[] 33)).cell? ⟨m,0,none⟩=some (.int .i64 (q:Int)):=zaa HbB.out H01.out.2;clear hba4;clear hg4 ha hsa hga))
  all_goals go_wp2_with fail
  all_goals go_meet
  all_goals exact⟨_,_,_,_,rfl,Hb8,H8,HD8⟩
 case rest=>
  obtain⟨c9,m9,a9,k9,rfl,Hb9,H9,HD9⟩:=hcut
  have HLn:Hid (Calls Tryz.prog 75 #[.pointer (some ⟨c9,0,none⟩)] wc fun e w'=>e=.returned (.int .i64 (UL.length:Nat))∧w'=wc):=rlen_16 H9.out.1 H9.out.2
  clear H9 HMk HIa HIb HKa HKb hcn hmn g0 g1 H01 HNl
  go_wp2_with fail
  refine Calls.mono HLn.out ?_
  rintro e w2 ⟨rfl,hw2⟩
  subst hw2
  by_cases hbig:65536<UL.length
  ·have e9:E=2:=by rw [HUE.out,if_pos hbig]
   subst e9
   have HE:Hid (DsPost q UL 2 w (.returned (.tuple #[.pointer none,.int .i64 2])) w2):=⟨Hb9.out,none,rfl,.inl ⟨by decide,rfl⟩⟩
   have hbi:65536<(UL.length:Int):=by omega
   clear hbig
   go_wp2_with fail
   refine bodyPost_ret (v:=.tuple #[.pointer none,.int .i64 2]) (by simp [results,Tryz.results39,go_sem]) rfl HE.out
  ·have e9:E=0:=by rw [HUE.out,if_neg hbig]
   subst e9
   have HE:Hid (DsPost q UL 0 w (.returned (.tuple #[.pointer (some ⟨c9,0,none⟩),.int .i64 0])) w2):=⟨Hb9.out,_,rfl,.inr ⟨rfl,c9,rfl,HD9.out (by omega)⟩⟩
   have hbi : ¬65536<(UL.length:Int):=by omega
   clear hbig
   go_wp2_with fail
   refine bodyPost_ret (v:=.tuple #[.pointer (some ⟨c9,0,none⟩),.int .i64 0]) (by simp [results,Tryz.results39,go_sem]) rfl HE.out
def Two4 (W:World) (b:Nat) (o p:Int) (u1 u2:Value):Prop:=W.cell? ⟨b,0,none⟩=some (.int .i64 o)∧W.cell? ⟨b,1,none⟩=some (.int .i64 p)∧W.cell? ⟨b,2,none⟩=some u1∧W.cell? ⟨b,3,none⟩=some u2
theorem Two4.keeps {W W':World} {b:Nat} {o p:Int} {u1 u2:Value} (h:Two4 W b o p u1 u2) (hb:Below W.heap.size W W'):Two4 W' b o p u1 u2:=
 ⟨zaa hb h.1,zaa hb h.2.1,zaa hb h.2.2.1,zaa hb h.2.2.2⟩
theorem sm_meet16 {q r:Nat} {la lb:List PT} {w w':World} {e:Ending} (ha:∀x∈la,Good 16 x.1) (hb:∀x∈lb,Good 16 x.1) (h:DqPost q (partL r la lb true) w e w'):DqPost q (lessL q la (lessL q la lb)) w e w':=by rw [←part_meet ha hb];exact h
theorem sm_less16 {q r:Nat} {la lb:List PT} {w w':World} {e:Ending} (ha:∀x∈la,Good 16 x.1) (hb:∀x∈lb,Good 16 x.1) (h:DqPost q (partL r la lb false) w e w'):DqPost q (lessL q la lb) w e w':=by rw [←part_less ha hb];exact h
theorem DS.facts {w:World} {q:Nat} {l:List PT} {c:Nat} (h:DS w q l c):RT.Rises (byK q) l∧(∀x∈l,Good 16 x.1∧Good 16 x.2):=by
 obtain⟨_,_,hd,_⟩:=h
 exact⟨hd.rises,hd.right⟩
theorem both16_walk (o p:Int) (n:Nat) (l m:List VT) (u1 u2:Value) (w:World) (hl:Lies (n+1) w l u1) (hm:Lies (n+1) w m u2):Calls Tryz.prog 6 #[.agg #[.int .i64 o,.int .i64 p,u1,u2]] w fun e w'=>e=.returned (.bool true)∧Below w.heap.size w w':=by
 have HSp:Hid (∀V,Calls Tryz.prog 11 #[] V fun e w'=>e=.returned (.bool true)∧Below V.heap.size V w'):=speaks16_any
 have HA:Hid (∀V,Below w.heap.size w V→Calls Tryz.prog 9 #[.int .i64 o,u1] V (SpPost o.toNat (setL o.toNat l) (lookE n o l) V)):=fun V hV=>sof_list16 n o l _ V (Lies.keeps hV _ _ _ hl)
 have HB:Hid (∀V,Below w.heap.size w V→Calls Tryz.prog 9 #[.int .i64 p,u2] V (SpPost p.toNat (setL p.toNat m) (lookE n p m) V)):=fun V hV=>sof_list16 n p m _ V (Lies.keeps hV _ _ _ hm)
 have HC:Hid (∀V,Below w.heap.size w V→Calls Tryz.prog 10 #[.int .i64 o,u1] V (DsPost o.toNat (setL o.toNat l) (lookE n o l) V)):=fun V hV=>rof_16 n o l _ V (Lies.keeps hV _ _ _ hl)
 have HD:Hid (∀V,Below w.heap.size w V→Calls Tryz.prog 10 #[.int .i64 p,u2] V (DsPost p.toNat (setL p.toNat m) (lookE n p m) V)):=fun V hV=>rof_16 n p m _ V (Lies.keeps hV _ _ _ hm)
 obtain⟨a1,c1,rfl,_⟩:=Lies.slice hl
 obtain⟨a2,c2,rfl,_⟩:=Lies.slice hm
 clear hl hm
 generalize setL o.toNat l=la at *
 generalize setL p.toNat m=lb at *
 generalize o.toNat=q at *
 generalize p.toNat=r at *
 generalize lookE n o l=E1 at *
 generalize lookE n p m=E2 at *
 generalize l.length=m1 at *
 generalize m.length=m2 at *
 obtain⟨W0,hW0⟩:∃W0,W0=w.alloc (.cells #[.int .i64 o,.int .i64 p,.slice a1 m1 c1,.slice a2 m2 c2] 66):=⟨_,rfl⟩
 have HW0:Hid (W0=w.alloc (.cells #[.int .i64 o,.int .i64 p,.slice a1 m1 c1,.slice a2 m2 c2] 66)):=hW0
 have hb0:Below w.heap.size w W0:=by rw [hW0];exact ((Grew.refl w).alloc _).below
 have HX0:Hid (Two4 W0 w.heap.size o p (.slice a1 m1 c1) (.slice a2 m2 c2)):=by rw [hW0];exact⟨by simp,by simp,by simp,by simp⟩
 have HC0:=show Hid _ from HA.out W0 hb0
 go_enter Tryz.func6,Tryz.ntmps6
 go_upto_region 1 with fail
 rw [←HW0.out]
 clear hW0 HA HW0
 obtain⟨x0,x1,x2,x3⟩:=HX0.out
 go_wp2_with fail
 refine Calls.mono HC0.out ?_
 rintro e w1 ⟨hg1,p1,rfl,hp1⟩
 have hb1:Below w.heap.size w w1:=hb0.trans (hg1.mono hb0.size)
 have Hp1:Hid ((E1≠0∧p1=none)∨(E1=0∧∃s,p1=some ⟨s,0,none⟩∧SC w1 q la s)):=hp1
 have Hg1:Hid (Below W0.heap.size W0 w1):=hg1
 have HX1:Hid (Two4 w1 w.heap.size o p (.slice a1 m1 c1) (.slice a2 m2 c2)):=Two4.keeps HX0.out hg1
 have HN1:=show Hid _ from HB.out w1 hb1
 clear x0 x1 x2 x3 hp1 hg1 hb0 HX0 HC0 HB
 obtain⟨x0,x1,x2,x3⟩:=HX1.out
 go_wp2_with fail
 refine Calls.mono HN1.out ?_
 rintro e w2 ⟨hg2,p2,rfl,hp2⟩
 have hb2:Below w.heap.size w w2:=hb1.trans (hg2.mono hb1.size)
 have Hp2:Hid ((E2≠0∧p2=none)∨(E2=0∧∃s,p2=some ⟨s,0,none⟩∧SC w2 r lb s)):=hp2
 have Hg2:Hid (Below w1.heap.size w1 w2):=hg2
 have HX2:Hid (Two4 w2 w.heap.size o p (.slice a1 m1 c1) (.slice a2 m2 c2)):=Two4.keeps HX1.out hg2
 have HN2:=show Hid _ from HC.out w2 hb2
 clear x0 x1 x2 x3 hp2 hg2 hb1 HX1 HN1 HC
 obtain⟨x0,x1,x2,x3⟩:=HX2.out
 go_wp2_with fail
 refine Calls.mono HN2.out ?_
 rintro e w3 ⟨hg3,p3,rfl,hp3⟩
 have hb3:Below w.heap.size w w3:=hb2.trans (hg3.mono hb2.size)
 have Hp3:Hid ((E1≠0∧p3=none)∨(E1=0∧∃s,p3=some ⟨s,0,none⟩∧DS w3 q la s)):=hp3
 have Hg3:Hid (Below w2.heap.size w2 w3):=hg3
 have HX3:Hid (Two4 w3 w.heap.size o p (.slice a1 m1 c1) (.slice a2 m2 c2)):=Two4.keeps HX2.out hg3
 have HN3:=show Hid _ from HD.out w3 hb3
 clear x0 x1 x2 x3 hp3 hg3 hb2 HX2 HN2 HD
 obtain⟨x0,x1,x2,x3⟩:=HX3.out
 go_wp2_with fail
 refine Calls.mono HN3.out ?_
 rintro e w4 ⟨hg4,p4,rfl,hp4⟩
 have hb4:Below w.heap.size w w4:=hb3.trans (hg4.mono hb3.size)
 have Hp4:Hid ((E2≠0∧p4=none)∨(E2=0∧∃s,p4=some ⟨s,0,none⟩∧DS w4 r lb s)):=hp4
 have Hg4:Hid (Below w3.heap.size w3 w4):=hg4
 have HX4:Hid (Two4 w4 w.heap.size o p (.slice a1 m1 c1) (.slice a2 m2 c2)):=Two4.keeps HX3.out hg4
 clear x0 x1 x2 x3 hp4 hg4 hb3 HX3 HN3
 have HSt1:Hid ((E1≠0∧p1=none∧p3=none)∨(E1=0∧∃s c,p1=some ⟨s,0,none⟩∧p3=some ⟨c,0,none⟩∧SC w4 q la s∧DS w4 q la c)):=by
  rcases Hp1.out with ⟨h0,rfl⟩|⟨h0,s,rfl,hm⟩
  ·rcases Hp3.out with ⟨_,rfl⟩|⟨h1,_⟩
   ·exact .inl ⟨h0,rfl,rfl⟩
   ·exact absurd h1 h0
  ·rcases Hp3.out with ⟨h1,_⟩|⟨_,c,rfl,hd⟩
   ·exact absurd h0 h1
   ·exact .inr ⟨h0,s,c,rfl,rfl,hm.keeps (Hg2.out.trans ((Hg3.out.trans (Hg4.out.mono Hg3.out.size)).mono Hg2.out.size)),hd.keeps Hg4.out⟩
 have HSt2:Hid ((E2≠0∧p2=none∧p4=none)∨(E2=0∧∃s c,p2=some ⟨s,0,none⟩∧p4=some ⟨c,0,none⟩∧SC w4 r lb s∧DS w4 r lb c)):=by
  rcases Hp2.out with ⟨h0,rfl⟩|⟨h0,s,rfl,hm⟩
  ·rcases Hp4.out with ⟨_,rfl⟩|⟨h1,_⟩
   ·exact .inl ⟨h0,rfl,rfl⟩
   ·exact absurd h1 h0
  ·rcases Hp4.out with ⟨h1,_⟩|⟨_,c,rfl,hd⟩
   ·exact absurd h0 h1
   ·exact .inr ⟨h0,s,c,rfl,rfl,hm.keeps (Hg3.out.trans (Hg4.out.mono Hg3.out.size)),hd⟩
 have HB4:Hid (Below w.heap.size w w4):=hb4
 clear Hp1 Hp2 Hp3 Hp4 Hg1 Hg2 Hg3 Hg4 hb4 HX4
 have HSp4:=show Hid _ from HSp.out w4
 rcases HSt1.out with ⟨h0,rfl,rfl⟩|⟨rfl,s,c,rfl,rfl,hms,hdc⟩
 ·have hne:(E1 != 0)=true:=by simpa using h0
  clear HSt1 HSt2
  go_wp2_with fail
  refine Calls.mono HSp4.out ?_
  rintro e w5 ⟨rfl,hg5⟩
  have HB5:Hid (Below w.heap.size w w5):=HB4.out.trans (hg5.mono HB4.out.size)
  clear hg5
  go_wp2_with fail
  go_ret
  exact⟨rfl,HB5.out⟩
 ·rcases HSt2.out with ⟨h0,rfl,rfl⟩|⟨rfl,t,d,rfl,rfl,hmt,hdd⟩
  ·have hne:(E2 != 0)=true:=by simpa using h0
   clear HSt1 HSt2 hms hdc
   go_wp2_with fail
   refine Calls.mono HSp4.out ?_
   rintro e w5 ⟨rfl,hg5⟩
   have HB5:Hid (Below w.heap.size w w5):=HB4.out.trans (hg5.mono HB4.out.size)
   clear hg5
   go_wp2_with fail
   go_ret
   exact⟨rfl,HB5.out⟩
  ·have hga:∀x∈la,Good 16 x.1:=fun x hx=>(hdc.facts.2 x hx).1
   have hgb:∀x∈lb,Good 16 x.1:=fun x hx=>(hdd.facts.2 x hx).1
   have HU1:Hid (Calls Tryz.prog 38 #[.pointer (some ⟨s,0,none⟩),.pointer (some ⟨t,0,none⟩)] w4 (SpPost q (uniL q la lb) (uniE (uniL q la lb)) w4)):=suni_16 hms hmt
   have HU2:Hid (∀V,Below w4.heap.size w4 V→Calls Tryz.prog 39 #[.pointer (some ⟨c,0,none⟩),.pointer (some ⟨d,0,none⟩)] V (DsPost q (uniL q la lb) (uniE (uniL q la lb)) V)):=fun V hV=>runi_16 (hdc.keeps hV) (hdd.keeps hV)
   have HM1:Hid (∀V,Below w4.heap.size w4 V→Calls Tryz.prog 40 #[.pointer (some ⟨s,0,none⟩),.pointer (some ⟨t,0,none⟩)] V (SmPost q (lessL q la (lessL q la lb)) V)):=fun V hV=>smeet_16 (hms.keeps hV) (hmt.keeps hV)
   have HM2:Hid (∀V,Below w4.heap.size w4 V→Calls Tryz.prog 41 #[.pointer (some ⟨c,0,none⟩),.pointer (some ⟨d,0,none⟩)] V (DqPost q (lessL q la (lessL q la lb)) V)):=fun V hV=>(rmeet_16 (hdc.keeps hV) (hdd.keeps hV)).mono fun _ _ h=>sm_meet16 hga hgb h
   have HL1:Hid (∀V,Below w4.heap.size w4 V→Calls Tryz.prog 42 #[.pointer (some ⟨s,0,none⟩),.pointer (some ⟨t,0,none⟩)] V (SmPost q (lessL q la lb) V)):=fun V hV=>sless_16 (hms.keeps hV) (hmt.keeps hV)
   have HL2:Hid (∀V,Below w4.heap.size w4 V→Calls Tryz.prog 43 #[.pointer (some ⟨c,0,none⟩),.pointer (some ⟨d,0,none⟩)] V (DqPost q (lessL q la lb) V)):=fun V hV=>(rless_16 (hdc.keeps hV) (hdd.keeps hV)).mono fun _ _ h=>sm_less16 hga hgb h
   have HE1:Hid (∀V,Below w4.heap.size w4 V→Calls Tryz.prog 44 #[.pointer (some ⟨s,0,none⟩),.pointer (some ⟨t,0,none⟩)] V fun e w'=>e=.returned (.bool (eqS r la lb))∧Below V.heap.size V w'):=fun V hV=>sequal_16 (hms.keeps hV) (hmt.keeps hV) _ (eqS_iff hdc.facts.1 hdd.facts.1 hdc.facts.2 hdd.facts.2)
   have HE2:Hid (∀V,Below w4.heap.size w4 V→Calls Tryz.prog 45 #[.pointer (some ⟨c,0,none⟩),.pointer (some ⟨d,0,none⟩)] V fun e w'=>e=.returned (.bool (eqS r la lb))∧Below V.heap.size V w'):=fun V hV=>requal_16 (hdc.keeps hV) (hdd.keeps hV)
   clear HSt1 HSt2 hms hdc hmt hdd hga hgb HSp4
   generalize eqS r la lb=R at *
   generalize uniE (uniL q la lb)=EU at *
   generalize uniL q la lb=UL at *
   generalize lessL q la (lessL q la lb)=ML at *
   generalize lessL q la lb=LL at *
   go_wp2_with fail
   refine Calls.mono HU1.out ?_
   rintro e w5 ⟨hg5,p5,rfl,hp5⟩
   have HU25:=show Hid _ from HU2.out w5 hg5
   have Hp5:Hid ((EU≠0∧p5=none)∨(EU=0∧∃s,p5=some ⟨s,0,none⟩∧SC w5 q UL s)):=hp5
   have HG5:Hid (Below w4.heap.size w4 w5):=hg5
   clear hp5 hg5 HU1 HU2
   go_wp2_with fail
   refine Calls.mono HU25.out ?_
   rintro e w6 ⟨hg6,p6,rfl,hp6⟩
   have HSt:Hid ((EU≠0∧p5=none∧p6=none)∨(EU=0∧∃s c,p5=some ⟨s,0,none⟩∧p6=some ⟨c,0,none⟩∧SC w6 q UL s∧DS w6 q UL c)):=by
    rcases Hp5.out with ⟨h0,rfl⟩|⟨h0,s,rfl,hm⟩
    ·rcases hp6 with ⟨_,rfl⟩|⟨h1,_⟩
     ·exact .inl ⟨h0,rfl,rfl⟩
     ·exact absurd h1 h0
    ·rcases hp6 with ⟨h1,_⟩|⟨_,c,rfl,hd⟩
     ·exact absurd h0 h1
     ·exact .inr ⟨h0,s,c,rfl,rfl,hm.keeps hg6,hd⟩
   have HG6:Hid (Below w4.heap.size w4 w6):=HG5.out.trans (hg6.mono HG5.out.size)
   clear hp6 hg6 Hp5 HG5 HU25
   rcases HSt.out with ⟨h0,rfl,rfl⟩|⟨rfl,su,cu,rfl,rfl,hmu,hdu⟩
   ·have hne:(EU==0)=false:=by simpa using h0
    clear HSt h0
    have HCc:=show Hid _ from HM1.out w6 HG6.out
    go_wp2_with fail
    refine Calls.mono HCc.out ?_
    rintro e w7 ⟨hg7,s7,rfl,hm7⟩
    have HG7:Hid (Below w4.heap.size w4 w7):=HG6.out.trans (hg7.mono HG6.out.size)
    have HK7:Hid (SC w7 q ML s7):=hm7
    clear HCc hg7 HG6 HM1 hm7
    have HCc:=show Hid _ from HM2.out w7 HG7.out
    go_wp2_with fail
    refine Calls.mono HCc.out ?_
    rintro e w8 ⟨hg8,c8,rfl,hd8⟩
    have HG8:Hid (Below w4.heap.size w4 w8):=HG7.out.trans (hg8.mono HG7.out.size)
    have HSm:Hid _:=same_16 (HK7.out.keeps hg8) hd8
    clear HCc hg8 HG7 HM2 hd8 HK7
    go_wp2_with fail
    refine Calls.mono HSm.out ?_
    rintro e w9 ⟨rfl,hg9⟩
    have HG9:Hid (Below w4.heap.size w4 w9):=HG8.out.trans (hg9.mono HG8.out.size)
    clear HSm hg9 HG8
    have HCc:=show Hid _ from HL1.out w9 HG9.out
    go_wp2_with fail
    refine Calls.mono HCc.out ?_
    rintro e w10 ⟨hg10,s10,rfl,hm10⟩
    have HG10:Hid (Below w4.heap.size w4 w10):=HG9.out.trans (hg10.mono HG9.out.size)
    have HK10:Hid (SC w10 q LL s10):=hm10
    clear HCc hg10 HG9 HL1 hm10
    have HCc:=show Hid _ from HL2.out w10 HG10.out
    go_wp2_with fail
    refine Calls.mono HCc.out ?_
    rintro e w11 ⟨hg11,c11,rfl,hd11⟩
    have HG11:Hid (Below w4.heap.size w4 w11):=HG10.out.trans (hg11.mono HG10.out.size)
    have HSm:Hid _:=same_16 (HK10.out.keeps hg11) hd11
    clear HCc hg11 HG10 HL2 hd11 HK10
    go_wp2_with fail
    refine Calls.mono HSm.out ?_
    rintro e w12 ⟨rfl,hg12⟩
    have HG12:Hid (Below w4.heap.size w4 w12):=HG11.out.trans (hg12.mono HG11.out.size)
    clear HSm hg12 HG11
    have HCc:=show Hid _ from HE1.out w12 HG12.out
    go_wp2_with fail
    refine Calls.mono HCc.out ?_
    rintro e w13 ⟨rfl,hg13⟩
    have HG13:Hid (Below w4.heap.size w4 w13):=HG12.out.trans (hg13.mono HG12.out.size)
    clear HCc hg13 HG12 HE1
    have HCc:=show Hid _ from HE2.out w13 HG13.out
    go_wp2_with fail
    refine Calls.mono HCc.out ?_
    rintro e w14 ⟨rfl,hg14⟩
    have HG14:Hid (Below w4.heap.size w4 w14):=HG13.out.trans (hg14.mono HG13.out.size)
    have hbe:(R==R)=true:=by simp
    clear HCc hg14 HG13 HE2
    have HSpc:=show Hid _ from HSp.out w14
    go_wp2_with fail
    refine Calls.mono HSpc.out ?_
    rintro e wz ⟨rfl,hgz⟩
    have HF:Hid (Below w.heap.size w wz):=HB4.out.trans ((HG14.out.trans (hgz.mono HG14.out.size)).mono HB4.out.size)
    clear hgz
    go_wp2_with fail
    go_ret
    exact⟨rfl,HF.out⟩
   ·have HSm:Hid _:=same_16 hmu hdu
    clear HSt hmu hdu
    go_wp2_with fail
    refine Calls.mono HSm.out ?_
    rintro e w7 ⟨rfl,hg7⟩
    have HG7:Hid (Below w4.heap.size w4 w7):=HG6.out.trans (hg7.mono HG6.out.size)
    clear HSm hg7 HG6
    have HCc:=show Hid _ from HM1.out w7 HG7.out
    go_wp2_with fail
    refine Calls.mono HCc.out ?_
    rintro e w8 ⟨hg8,s8,rfl,hm8⟩
    have HG8:Hid (Below w4.heap.size w4 w8):=HG7.out.trans (hg8.mono HG7.out.size)
    have HK8:Hid (SC w8 q ML s8):=hm8
    clear HCc hg8 HG7 HM1 hm8
    have HCc:=show Hid _ from HM2.out w8 HG8.out
    go_wp2_with fail
    refine Calls.mono HCc.out ?_
    rintro e w9 ⟨hg9,c9,rfl,hd9⟩
    have HG9:Hid (Below w4.heap.size w4 w9):=HG8.out.trans (hg9.mono HG8.out.size)
    have HSm:Hid _:=same_16 (HK8.out.keeps hg9) hd9
    clear HCc hg9 HG8 HM2 hd9 HK8
    go_wp2_with fail
    refine Calls.mono HSm.out ?_
    rintro e w10 ⟨rfl,hg10⟩
    have HG10:Hid (Below w4.heap.size w4 w10):=HG9.out.trans (hg10.mono HG9.out.size)
    clear HSm hg10 HG9
    have HCc:=show Hid _ from HL1.out w10 HG10.out
    go_wp2_with fail
    refine Calls.mono HCc.out ?_
    rintro e w11 ⟨hg11,s11,rfl,hm11⟩
    have HG11:Hid (Below w4.heap.size w4 w11):=HG10.out.trans (hg11.mono HG10.out.size)
    have HK11:Hid (SC w11 q LL s11):=hm11
    clear HCc hg11 HG10 HL1 hm11
    have HCc:=show Hid _ from HL2.out w11 HG11.out
    go_wp2_with fail
    refine Calls.mono HCc.out ?_
    rintro e w12 ⟨hg12,c12,rfl,hd12⟩
    have HG12:Hid (Below w4.heap.size w4 w12):=HG11.out.trans (hg12.mono HG11.out.size)
    have HSm:Hid _:=same_16 (HK11.out.keeps hg12) hd12
    clear HCc hg12 HG11 HL2 hd12 HK11
    go_wp2_with fail
    refine Calls.mono HSm.out ?_
    rintro e w13 ⟨rfl,hg13⟩
    have HG13:Hid (Below w4.heap.size w4 w13):=HG12.out.trans (hg13.mono HG12.out.size)
    clear HSm hg13 HG12
    have HCc:=show Hid _ from HE1.out w13 HG13.out
    go_wp2_with fail
    refine Calls.mono HCc.out ?_
    rintro e w14 ⟨rfl,hg14⟩
    have HG14:Hid (Below w4.heap.size w4 w14):=HG13.out.trans (hg14.mono HG13.out.size)
    clear HCc hg14 HG13 HE1
    have HCc:=show Hid _ from HE2.out w14 HG14.out
    go_wp2_with fail
    refine Calls.mono HCc.out ?_
    rintro e w15 ⟨rfl,hg15⟩
    have HG15:Hid (Below w4.heap.size w4 w15):=HG14.out.trans (hg15.mono HG14.out.size)
    have hbe:(R==R)=true:=by simp
    clear HCc hg15 HG14 HE2
    have HSpc:=show Hid _ from HSp.out w15
    go_wp2_with fail
    refine Calls.mono HSpc.out ?_
    rintro e wz ⟨rfl,hgz⟩
    have HF:Hid (Below w.heap.size w wz):=HB4.out.trans ((HG15.out.trans (hgz.mono HG15.out.size)).mono HB4.out.size)
    clear hgz
    go_wp2_with fail
    go_ret
    exact⟨rfl,HF.out⟩
end Go.Proofs.YtlnecfjnffdciabGreat
