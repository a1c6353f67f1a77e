import Derived.Test.YtlnecfjnffdciabGreatSplitM
import Derived.Test.YtlnecfjnffdciabGreatLook
namespace Go.Proofs.YtlnecfjnffdciabGreat
open Go.RowKit
def FindPost14 (X:Nat→Prop) (d:Nat) (o:Option PT) (w:World) (e:Ending) (w':World):Prop:=
 Below w.heap.size w w'∧((o=none∧e=.returned (.pointer none))∨∃x b pl pr ku vu c s h k,o=some x∧e=.returned (.pointer (some ⟨b,0,none⟩))∧NCells w' b pl pr x ku vu c s h k∧(LiesX X d w' x.1.items ku∧x.1.text.size≤9223372036854775807)∧(LiesX X d w' x.2.items vu∧x.2.text.size≤9223372036854775807))
set_option maxRecDepth 100000 in
set_option maxHeartbeats 8000000 in
theorem find_14 (X:Nat→Prop) (d f:Nat) (q1 q2:Option Addr) (g:PT→Int) (P:PT→Prop) (eg:∀args w,(callFunc f args).run Tryz.prog w=.ok (.enter f args) w) (t:RT PT) (p:Option Addr) (w:World) (ha:AtC X d f q1 q2 g P w) (hn:NM X d w t p) (hp:∀x∈t.items,P x) :
 Calls Tryz.prog 196 #[.pointer p,.func (.func f) #[] #[.pointer q1,.pointer q2]] w (FindPost14 X d (RT.find g t) w):=by
 have HA:Hid _:=ha
 have HN:Hid (NM X d w t p):=hn
 have HP:Hid (∀x∈t.items,P x):=hp
 obtain⟨O,hO⟩:∃O,O=RT.find g t:=⟨_,rfl⟩
 have HO:Hid (RT.find g t=O):=hO.symm
 rw [←hO]
 obtain⟨Z,hZ⟩:∃Z,Z=t.size:=⟨_,rfl⟩
 have HZ:Hid (Z=t.size):=hZ
 clear ha hn hp hO hZ
 go_enter Tryz.func196,Tryz.ntmps196
 go_wp2_with fail
 go_loopg [0] Z (fun z v0 wr=>∃(s:RT PT) (q:Option Addr),v0=.pointer q∧Hid (z=s.size)∧Hid (NM X d wr s q)∧Hid (RT.find g s=O)∧Hid (∀x∈s.items,P x)∧Hid (Below w.heap.size w wr))
 case atStart=>exact⟨t,p,rfl,HZ,HN,HO,HP,Below.refl _ _⟩
 case round=>
  obtain⟨s,q,rfl,Hz,HNs,HOs,HPs,HB⟩:=hrel
  clear HN HO HP HZ
  cases s with
  | nil=>
   have hq:q=none:=HNs.out
   subst hq
   have HE:Hid (FindPost14 X d O w (.returned (.pointer none)) wr):=⟨HB.out,.inl ⟨HOs.out.symm,rfl⟩⟩
   go_wp2_with fail
   go_ret
   exact HE.out
  | node c l x r=>
   obtain⟨b,pl,pr,ku,vu,hq,hc,hk,hv,hl,hr⟩:=HNs.out
   subst hq
   have HC:Hid _:=hc
   have HK:Hid (LiesX X d wr x.1.items ku∧x.1.text.size≤9223372036854775807):=hk
   have HV:Hid (LiesX X d wr x.2.items vu∧x.2.text.size≤9223372036854775807):=hv
   have HL:Hid (NM X d wr l pl):=hl
   have HR:Hid (NM X d wr r pr):=hr
   have HAx:Hid _:=HA.out wr HB.out x ku vu (HPs.out x (by simp [RT.items])) hk hv
   obtain⟨c0,c1,c2,c3,c4,c5,c6,c7,c8,c9,_,_,_,_⟩:=hc
   obtain⟨G,hG⟩:∃G,G=g x:=⟨_,rfl⟩
   rw [←hG] at HAx
   have HG:Hid (G=g x):=hG
   clear hk hv hl hr hG
   go_wp2_with (go_at_fn f;refine Calls.mono HAx.out ?_;rintro e w1 ⟨rfl,hg1⟩;fail)
   go_at_fn f
   refine Calls.mono HAx.out ?_
   rintro e w1 ⟨rfl,hg1⟩
   clear HAx
   have c0:=zaa hg1 c0;have c1:=zaa hg1 c1;have c2:=zaa hg1 c2;have c3:=zaa hg1 c3;have c4:=zaa hg1 c4;have c5:=zaa hg1 c5;have c6:=zaa hg1 c6;have c7:=zaa hg1 c7;have c8:=zaa hg1 c8;have c9:=zaa hg1 c9
   have hb1:Below w.heap.size w w1:=HB.out.trans (hg1.mono HB.out.size)
   have hzz:(RT.node c l x r).size=l.size+1+r.size:=rfl
   have HZZ:Hid ((RT.node c l x r).size=l.size+1+r.size):=hzz
   clear hzz
   by_cases h0:G=0
   ·have HE:Hid (FindPost14 X d O w (.returned (.pointer (some ⟨b,0,none⟩))) w1):=⟨hb1,.inr ⟨x,b,pl,pr,ku,vu,c,_,_,_,by
     rw [←HOs.out]
     show (if g x=0 then some x else _)=some x
     rw [if_pos (by rw [←HG.out];exact h0)],rfl,HC.out.keeps hg1,⟨LiesX.keeps hg1 HK.out.1,HK.out.2⟩,⟨LiesX.keeps hg1 HV.out.1,HV.out.2⟩⟩⟩
    subst h0
    go_wp2_with fail
    go_ret
    exact HE.out
   ·by_cases h1:G<0
    ·have HF:Hid (RT.find g l=O):=by
      show _=_
      rw [←HOs.out]
      show _=(if g x=0 then some x else if g x<0 then RT.find g l else RT.find g r)
      rw [if_neg (by rw [←HG.out];exact h0),if_pos (by rw [←HG.out];exact h1)]
     clear HOs HG
     go_wp2_with fail
     go_roundg l.size
     case measure=>have:=Hz.out;have:=HZZ.out;omega
     case rel=>exact⟨l,pl,rfl,rfl,HL.out.keeps hg1,HF,fun y hy=>HPs.out y (by simp [RT.items,hy]),hb1⟩
    ·have HF:Hid (RT.find g r=O):=by
      show _=_
      rw [←HOs.out]
      show _=(if g x=0 then some x else if g x<0 then RT.find g l else RT.find g r)
      rw [if_neg (by rw [←HG.out];exact h0),if_neg (by rw [←HG.out];exact h1)]
     clear HOs HG
     go_wp2_with fail
     go_roundg r.size
     case measure=>have:=Hz.out;have:=HZZ.out;omega
     case rel=>exact⟨r,pr,rfl,rfl,HR.out.keeps hg1,HF,fun y hy=>HPs.out y (by simp [RT.items,hy]),hb1⟩
def byK (q:Nat) (a b:PT):Int:=ordV q a.1 b.1
theorem ordR_right (q:Nat) (hq:q<6) (a b:VT) (ha:zab 16 a=true) (hb:zab 16 b=true):ordR 16 q a b=ordV q a b∧ordE 16 q a b=0:=by
 have e:ordE 16 q a b=0:=by
  unfold ordE
  rw [if_neg (by omega),if_pos ⟨ha,hb⟩]
 refine⟨?_,e⟩
 unfold ordR
 rw [if_pos e]
 rfl
set_option maxRecDepth 100000 in
set_option maxHeartbeats 8000000 in
theorem byKeys1_14 (q bx:Nat) (x y:PT) (ku vu ky vy:Value) (w:World) (hbx:w.cell? ⟨bx,0,none⟩=some (.int .i64 (q:Int))) (R:Int)
 (hc:∀V,Below w.heap.size w V→Calls Tryz.prog 216 #[.int .i64 (q:Int),.agg #[.int .i64 x.1.kind,.int .i64 x.1.num,.string x.1.text,ku],.agg #[.int .i64 y.1.kind,.int .i64 y.1.num,.string y.1.text,ky]] V fun e w'=>e=.returned (.tuple #[.int .i64 R,.int .i64 0])∧Below V.heap.size V w') :
 Calls Tryz.prog 215 #[.agg #[.int .i64 x.1.kind,.int .i64 x.1.num,.string x.1.text,ku,.int .i64 x.2.kind,.int .i64 x.2.num,.string x.2.text,vu],.agg #[.int .i64 y.1.kind,.int .i64 y.1.num,.string y.1.text,ky,.int .i64 y.2.kind,.int .i64 y.2.num,.string y.2.text,vy],.pointer (some ⟨bx,0,none⟩)] w fun e w'=>e=.returned (.int .i64 R)∧Below w.heap.size w w':=by
 have HC:Hid _:=hc
 have hbl:=zad hbx
 simp only at hbl
 have hbn : ¬bx=w.heap.size:=by omega
 have hbn2 : ¬bx=w.heap.size+1:=by omega
 have hb2:∀A B,Below w.heap.size w ((w.alloc A).alloc B):=fun A B=>(((Grew.refl w).alloc A).alloc B).below
 have z0:∀A B,((w.alloc A).alloc B).cell? ⟨bx,0,none⟩=some (.int .i64 (q:Int)):=fun A B=>zaa (hb2 A B) hbx
 have HB:Hid _:=hb2
 clear hc hb2
 go_enter Tryz.func215,Tryz.ntmps215
 go_wp2_with fail
 refine (HC.out _ (HB.out _ _)).mono ?_
 rintro e w1 ⟨rfl,hg⟩
 have hb1:Below w.heap.size w w1:=(HB.out _ _).trans (hg.mono (HB.out _ _).size)
 clear hg HC HB
 go_wp2_with fail
 go_ret
 exact⟨rfl,hb1⟩
end Go.Proofs.YtlnecfjnffdciabGreat

namespace Go.Proofs.YtlnecfjnffdciabGreat
open Go.RowKit
set_option maxRecDepth 100000 in
set_option maxHeartbeats 4000000 in
theorem byKeys_14 (q:Int) (w:World):Calls Tryz.prog 149 #[.int .i64 q] w fun e w'=>e=.returned (.func (.func 215) #[] #[.pointer (some ⟨w.heap.size,0,none⟩)])∧w'=w.alloc (.cells #[.int .i64 q] 3):=by
 go_enter Tryz.func149,Tryz.ntmps149
 go_wp2_with fail
 go_ret
 exact⟨rfl,rfl⟩
set_option maxRecDepth 100000 in
set_option maxHeartbeats 4000000 in
theorem at1_core (k:VT) (ak:Option Addr) (ck cb kb bb:Nat) (x:PT) (ku vu:Value) (R:Int) (w:World) (hcb:w.cell? ⟨cb,0,none⟩=some (.func (.func 215) #[] #[.pointer (some ⟨bb,0,none⟩)]))
 (k0:w.cell? ⟨kb,0,none⟩=some (.int .i64 k.kind)) (k1:w.cell? ⟨kb,1,none⟩=some (.int .i64 k.num)) (k2:w.cell? ⟨kb,2,none⟩=some (.string k.text)) (k3:w.cell? ⟨kb,3,none⟩=some (.slice ak k.items.length ck))
 (hc:∀V,Below w.heap.size w V→Calls Tryz.prog 215 #[.agg #[.int .i64 k.kind,.int .i64 k.num,.string k.text,.slice ak k.items.length ck,.int .i64 0,.int .i64 0,.string ⟨#[]⟩,.slice none 0 0],.agg #[.int .i64 x.1.kind,.int .i64 x.1.num,.string x.1.text,ku,.int .i64 x.2.kind,.int .i64 x.2.num,.string x.2.text,vu],.pointer (some ⟨bb,0,none⟩)] V fun e w'=>e=.returned (.int .i64 R)∧Below V.heap.size V w') :
 Calls Tryz.prog 203 #[.agg #[.int .i64 x.1.kind,.int .i64 x.1.num,.string x.1.text,ku,.int .i64 x.2.kind,.int .i64 x.2.num,.string x.2.text,vu],.pointer (some ⟨cb,0,none⟩),.pointer (some ⟨kb,0,none⟩)] w fun e w'=>e=.returned (.int .i64 R)∧Below w.heap.size w w':=by
 have HC:Hid _:=hc
 have h1:=zad hcb
 have h2:=zad k0
 simp only at h1 h2
 have n1 : ¬cb=w.heap.size:=by omega
 have n2 : ¬kb=w.heap.size:=by omega
 have HB:Hid (∀o,Below w.heap.size w (w.alloc o)):=fun o=>((Grew.refl w).alloc o).below
 have eg:∀args w,(callFunc 215 args).run Tryz.prog w=.ok (.enter 215 args) w:=enters_of Tryz.func215 (by kernel_rfl) rfl
 clear hc
 go_enter Tryz.func203,Tryz.ntmps203
 go_wp2_with fail
 refine (HC.out _ (HB.out _)).mono ?_
 rintro e w1 ⟨rfl,hg⟩
 have hb1:Below w.heap.size w w1:=(HB.out _).trans (hg.mono (HB.out _).size)
 clear hg HC HB
 go_wp2_with fail
 go_ret
 exact⟨rfl,hb1⟩
def AtPost (q:Nat) (k:VT) (w:World) (e:Ending) (w':World):Prop:=
 Below w.heap.size w w'∧∃q1 q2,e=.returned (.func (.func 203) #[] #[.pointer q1,.pointer q2])∧∀X,AtC X 16 203 q1 q2 (fun x=>ordV q k x.1) (fun x=>zab 16 x.1=true) w'
set_option maxRecDepth 100000 in
set_option maxHeartbeats 4000000 in
theorem at_14 (q b:Nat) (hq:q<6) (k:VT) (ku:Value) (w:World) (hm:w.cell? ⟨b,0,none⟩=some (.int .i64 (q:Int))) (hk:Lies 16 w k.items ku) (hkt:k.text.size≤9223372036854775807) (hr:zab 16 k=true) :
 Calls Tryz.prog 135 #[.pointer (some ⟨b,0,none⟩),.agg #[.int .i64 k.kind,.int .i64 k.num,.string k.text,ku]] w (AtPost q k w):=by
 obtain⟨ak,ck,rfl,_⟩:=Lies.slice hk
 have HK:Hid (Lies 16 w k.items (.slice ak k.items.length ck)):=hk
 have HF:Hid (∀W B N,Below w.heap.size w W→W.cell? ⟨N,0,none⟩=some (.int .i64 k.kind)→W.cell? ⟨N,1,none⟩=some (.int .i64 k.num)→W.cell? ⟨N,2,none⟩=some (.string k.text)→W.cell? ⟨N,3,none⟩=some (.slice ak k.items.length ck)→W.cell? ⟨B,0,none⟩=some (.int .i64 (q:Int))→∀C,W.cell? ⟨C,0,none⟩=some (.func (.func 215) #[] #[.pointer (some ⟨B,0,none⟩)])→∀X,AtC X 16 203 (some ⟨C,0,none⟩) (some ⟨N,0,none⟩) (fun x=>ordV q k x.1) (fun x=>zab 16 x.1=true) W):=by
  intro W B N hW k0 k1 k2 k3 hB C hC X V hV x kx vx hx hlx hlv
  refine at1_core k ak ck C N B x kx vx _ V (zaa hV hC) (zaa hV k0) (zaa hV k1) (zaa hV k2) (zaa hV k3) fun V2 hV2=>?_
  refine byKeys1_14 q B (k,⟨0,0,⟨#[]⟩,[]⟩) x (.slice ak k.items.length ck) (.slice none 0 0) kx vx V2 (zaa hV2 (zaa hV hB)) _ fun V3 hV3=>?_
  have hwV:Below w.heap.size w V3:=(hW.trans (hV.mono hW.size)).trans ((hV2.trans (hV3.mono hV2.size)).mono (hW.trans (hV.mono hW.size)).size)
  have h9:=compareO_any 16 (q:Int) k x.1 (.slice ak k.items.length ck) kx V3 (Lies.keeps hwV _ _ _ HK.out) (LiesX.keeps (hV2.trans (hV3.mono hV2.size)) hlx.1).lies hkt hlx.2
  rw [(ordR_right q hq k x.1 hr hx).1,(ordR_right q hq k x.1 hr hx).2] at h9
  exact h9
 have hbl:=zad hm
 simp only at hbl
 have n1 : ¬b=w.heap.size:=by omega
 clear hk hkt hr
 go_enter Tryz.func135,Tryz.ntmps135
 go_wp2_with fail
 refine (byKeys_14 _ _).mono ?_
 rintro e w1 ⟨rfl,rfl⟩
 go_wp2_with fail
 have HG:Hid (∀(W1 W2 W3:World),W1=w.alloc (.cells #[.int .i64 k.kind,.int .i64 k.num,.string k.text,.slice ak k.items.length ck] 33)→W2=W1.alloc (.cells #[.int .i64 (q:Int)] 3)→W3=W2.alloc (.cells #[.func (.func 215) #[] #[.pointer (some ⟨w.heap.size+1,0,none⟩)]] 204)→AtPost q k w (.returned (.func (.func 203) #[] #[.pointer (some ⟨w.heap.size+1+1,0,none⟩),.pointer (some ⟨w.heap.size,0,none⟩)])) W3):=by
  intro W1 W2 W3 h1 h2 h3
  have s1:W1.heap.size=w.heap.size+1:=by rw [h1];simp
  have s2:W2.heap.size=w.heap.size+1+1:=by rw [h2];simp [s1]
  have b1:Below w.heap.size w W1:=by rw [h1];exact ((Grew.refl w).alloc _).below
  have b2:Below W1.heap.size W1 W2:=by rw [h2];exact ((Grew.refl W1).alloc _).below
  have b3:Below W2.heap.size W2 W3:=by rw [h3];exact ((Grew.refl W2).alloc _).below
  have b13:Below W1.heap.size W1 W3:=b2.trans (b3.mono b2.size)
  have hb3:Below w.heap.size w W3:=b1.trans (b13.mono b1.size)
  have c0:W1.cell? ⟨w.heap.size,0,none⟩=some (.int .i64 k.kind):=by rw [h1];simp
  have c1:W1.cell? ⟨w.heap.size,1,none⟩=some (.int .i64 k.num):=by rw [h1];simp
  have c2:W1.cell? ⟨w.heap.size,2,none⟩=some (.string k.text):=by rw [h1];simp
  have c3:W1.cell? ⟨w.heap.size,3,none⟩=some (.slice ak k.items.length ck):=by rw [h1];simp
  have c4:W2.cell? ⟨w.heap.size+1,0,none⟩=some (.int .i64 (q:Int)):=by rw [h2,←s1];simp
  have c5:W3.cell? ⟨w.heap.size+1+1,0,none⟩=some (.func (.func 215) #[] #[.pointer (some ⟨w.heap.size+1,0,none⟩)]):=by rw [h3,←s2];simp
  exact⟨hb3,_,_,rfl,HF.out W3 (w.heap.size+1) w.heap.size hb3 (zaa b13 c0) (zaa b13 c1) (zaa b13 c2) (zaa b13 c3) (zaa b3 c4) (w.heap.size+1+1) c5⟩
 have HE:Hid _:=HG.out _ _ _ rfl rfl rfl
 first|(go_ret;exact HE.out)|(go_ret;simpa using HE.out)
end Go.Proofs.YtlnecfjnffdciabGreat

