import Derived.Test.YtlnecfjnffdciabGreatRotate
import Derived.Lib.AppendZeros
import Derived.Test.YtlnecfjnffdciabGreatPlaceP
import Derived.Test.YtlnecfjnffdciabGreatEq
import Derived.Deep.RegionHeld3
namespace Go.Proofs.YtlnecfjnffdciabGreat
open Go.RowKit
theorem zay (b o j:Nat):(⟨b,o,none⟩:Addr).add j=⟨b,o+j,none⟩:=by
 unfold Addr.add
 by_cases hk:j=0
 ·subst hk;rfl
 ·rw [if_neg hk]
theorem zah {w wr w2:World} {M:Nat} {ty sz:Nat} {v:Value} {n:Nat} {xs:List Value} (hb:Below M w wr) (hM:M≤wr.heap.size) (hown:wr.ownsRow M ty sz v n xs) (hgrow:wr.grownBy w2 v.ownBlock):Below M w w2:=
 hb.grown hgrow hM (by
  intro k hk
  rcases hown.2 with ⟨hv,_⟩|⟨g,cap',cur,hv,hbs,_⟩
  ·rw [hv] at hk;cases hk
  ·rw [hv] at hk
   simp only [Value.ownBlock,Option.some.injEq] at hk
   omega)
theorem wpList_append_row {w:World} {ops:Array Oper} {rest:List Oper} {o:Oper} {a:Act} {Q:Exit→Act→World→Prop} (hgd:o.guard=none) (s x:Operand)
 (ho:o.op=.call { callee:=.builtin .append,args:=#[s,x],argTypes:=#[22,22] })
 (base:Nat) (i:TypeInfo) (hi:Tryz.prog.info? 33=some i) (hz:i.zero=some (.agg #[.int .i64 0,.int .i64 0,.string ⟨#[]⟩,.slice none 0 0])) (hsize:i.size=4) (hby:i.bytes=56)
 (v:Value) (n:Nat) (xs:List Value) (hs:a.eval s=v) (hown:w.ownsRow base 33 4 v n xs)
 (aa:Option Addr) (m c:Nat) (news:List Value) (hx:a.eval x=.slice aa m c) (hnone:aa=none→m=0) (hl:news.length=m*4) (hnews:∀ad,aa=some ad→∀j u,news[j]? = some u→w.cell? (ad.add j)=some u) (h1:∀u∈news,u.oneCell'=true)
 (h63:n+m≤maxLen) (hbytes:(n+m)*56≤140737488355328) (hbase:base≤w.heap.size)
 (h:∀v' w',w'.ownsRow base 33 4 v' (n+m) (xs++news)→w.grownBy w' v.ownBlock→wpList Tryz.prog ops Q rest (a.put o.dst v') w'):wpList Tryz.prog ops Q (o::rest) a w:=by
 cases aa with
 | none=>
  have hm:=hnone rfl
  subst hm
  have hn:news=[]:=List.eq_nil_of_length_eq_zero (by omega)
  subst hn
  have hr:∀ty,(Builtin.append_ #[22,22] ty #[v,.slice none 0 c]).run Tryz.prog w=.ok v w:=fun ty=>by
   rcases hown.2 with ⟨rfl,rfl⟩|⟨g,cap,cur,rfl,_,_,hnc,_⟩
   ·simp [Builtin.append_,run_underlying Tryz.underlying22,sizeOf,typeInfo,hi,Builtin.lenOf,Builtin.firstCells]
   ·simp [Builtin.append_,run_underlying Tryz.underlying22,sizeOf,typeInfo,hi,Builtin.lenOf,Builtin.firstCells,hnc,storeCells]
  refine Lib.wpList_append_run w hgd s x 22 22 ho v (.slice none 0 c) hs hx v w (hr _) (h v w (by simpa using hown) ⟨rfl,rfl,rfl,Nat.le_refl _,fun _ _ _=>rfl⟩)
 | some ad=>
  exact wpList_append_own w hgd s x 22 ho base 33 i _ 4 56 Tryz.underlying22 hi hz hsize hby rfl (by decide) v n xs hs hown ad m c news hx hl (hnews ad rfl) h1 h63 hbytes hbase (fun v' w' k1 k2 _=>h v' w' k1 k2)
theorem own_lies {w:World} {base d:Nat} {v:Value} {n:Nat} {ps:List (VT×Value)} (hn:n=ps.length) (h:w.ownsRow base 33 4 v n (ps.flatMap encP)) (hs:∀p∈ps,Sound d w p) (hl:ps.length≤9223372036854775807):Lies (d+1) w (ps.map (·.1)) v:=by
 subst hn
 by_cases hne:ps=[]
 ·subst hne
  rcases h.2 with ⟨rfl,_⟩|⟨g,cap,cur,rfl,_⟩
  ·exact⟨none,0,rfl,by simp,fun h=>absurd rfl h⟩
  ·exact⟨_,cap,rfl,by simp,fun h=>absurd rfl h⟩
 ·obtain⟨g,cap,rfl,_,hcap,_,hrow,_⟩:=own_row h hne
  exact lies_of_row hrow hs hl hcap
theorem RowAt.drop {w:World} {b o:Nat} {ps:List (VT×Value)} (h:RowAt w b o ps) (m:Nat):RowAt w b (o+m*4) (ps.drop m):=by
 intro i hi
 have h1:m+i<ps.length:=by simp at hi;omega
 have:=h (m+i) h1
 simp only [List.getElem_drop]
 rw [show o+m*4+i*4=o+(m+i)*4 by omega]
 exact this
def SlP (base d:Nat) (w:World) (ps:List (VT×Value)) (v:Value):Prop:=
 ∃a c,v=.slice a ps.length c∧ps.length≤c∧ps.length≤9223372036854775807∧(ps≠[]→∃b o,a=some ⟨b,o,none⟩∧base≤b∧RowAt w b o ps)∧∀p∈ps,Sound d w p
theorem SlP.keeps {base d:Nat} {w w':World} {ps:List (VT×Value)} {v:Value} (h:SlP base d w ps v) (hb:Below w.heap.size w w'):SlP base d w' ps v:=by
 obtain⟨a,c,hv,h1,h2,h3,h4⟩:=h
 refine⟨a,c,hv,h1,h2,fun hne=>?_,fun p hp=>(h4 p hp).keeps hb⟩
 obtain⟨b,o,ha,hbb,hr⟩:=h3 hne
 exact⟨b,o,ha,hbb,hr.keeps hb⟩
theorem SlP.mono {base base' d:Nat} {w:World} {ps:List (VT×Value)} {v:Value} (h:SlP base d w ps v) (hb:base'≤base):SlP base' d w ps v:=by
 obtain⟨a,c,hv,h1,h2,h3,h4⟩:=h
 refine⟨a,c,hv,h1,h2,fun hne=>?_,h4⟩
 obtain⟨b,o,ha,hbb,hr⟩:=h3 hne
 exact⟨b,o,ha,by omega,hr⟩
theorem SlP.of_lies {d:Nat} {w:World} {l:List VT} {v:Value} (h:Lies (d+1) w l v):∃ps,ps.map (·.1)=l∧ps.length=l.length∧SlP 0 d w ps v:=by
 obtain⟨a0,c0,e0,hc0,_⟩:=id h
 obtain⟨a,c,e,_,ps,hps,hsd,hrow⟩:=Lies.row h
 have hlen:ps.length=l.length:=by rw [←hps];simp
 have hcc:c0=c:=by rw [e] at e0;injection e0 with _ _ e3;exact e3.symm
 refine⟨ps,hps,hlen,a,c,by rw [e,hlen],by rw [hlen,←hcc];exact hc0.1,by rw [hlen];exact hc0.2,fun hne=>?_,hsd⟩
 obtain⟨b,o,ha,hr⟩:=hrow (fun e=>hne (List.eq_nil_of_length_eq_zero (by rw [hlen,e];rfl)))
 exact⟨b,o,ha,Nat.zero_le _,hr⟩
theorem SlP.lies {base d:Nat} {w:World} {ps:List (VT×Value)} {v:Value} (h:SlP base d w ps v):Lies (d+1) w (ps.map (·.1)) v:=by
 obtain⟨a,c,rfl,h1,h2,h3,h4⟩:=h
 by_cases hne:ps=[]
 ·subst hne
  exact⟨a,c,rfl,by simp,fun h=>absurd rfl h⟩
 ·obtain⟨b,o,rfl,_,hr⟩:=h3 hne
  exact lies_of_row hr h4 h2 h1
theorem SlP.of_own {w:World} {base d:Nat} {v:Value} {n:Nat} {ps:List (VT×Value)} (hn:n=ps.length) (h:w.ownsRow base 33 4 v n (ps.flatMap encP)) (hs:∀p∈ps,Sound d w p) (hl:ps.length≤9223372036854775807):SlP base d w ps v:=by
 subst hn
 by_cases hne:ps=[]
 ·subst hne
  rcases h.2 with ⟨rfl,_⟩|⟨g,cap,cur,rfl,_⟩
  ·exact⟨none,0,rfl,by simp,by simp,(fun h=>absurd rfl h),hs⟩
  ·exact⟨_,cap,rfl,by simp,by simp,(fun h=>absurd rfl h),hs⟩
 ·obtain⟨g,cap,rfl,hb,hcap,_,hrow,_⟩:=own_row h hne
  exact⟨_,cap,rfl,hcap,hl,(fun _=>⟨g,0,rfl,hb,hrow⟩),hs⟩
theorem SlP.taken {base d:Nat} {w:World} {ps:List (VT×Value)} {b o c:Nat} (h:SlP base d w ps (.slice (some ⟨b,o,none⟩) ps.length c)) (m:Nat) (hm:m≤ps.length):SlP base d w (ps.take m) (.slice (some ⟨b,o,none⟩) m c):=by
 obtain⟨a,c',hv,h1,h2,h3,h4⟩:=h
 injection hv with q1 _ q3
 subst q1 q3
 have e:(ps.take m).length=m:=by rw [List.length_take,Nat.min_eq_left hm]
 refine⟨_,c,by rw [e],by rw [e];omega,by rw [e];omega,fun hne=>?_,fun p hp=>h4 p (List.mem_of_mem_take hp)⟩
 obtain⟨b',o',ha,hbb,hr⟩:=h3 (fun e0=>hne (by rw [e0];simp))
 exact⟨b',o',ha,hbb,RowAt.take hr m⟩
theorem SlP.dropped {base d:Nat} {w:World} {ps:List (VT×Value)} {b o c:Nat} (h:SlP base d w ps (.slice (some ⟨b,o,none⟩) ps.length c)) (m:Nat):SlP base d w (ps.drop m) (.slice (some ⟨b,o+m*4,none⟩) (ps.length-m) (c-m)):=by
 obtain⟨a,c',hv,h1,h2,h3,h4⟩:=h
 injection hv with q1 _ q3
 subst q1 q3
 have e:(ps.drop m).length=ps.length-m:=List.length_drop
 refine⟨_,c-m,by rw [e],by rw [e];omega,by rw [e];omega,fun hne=>?_,fun p hp=>h4 p (List.mem_of_mem_drop hp)⟩
 obtain⟨b',o',ha,hbb,hr⟩:=h3 (fun e0=>hne (by rw [e0];simp))
 injection ha with ha
 injection ha with hb1 ho1
 subst hb1 ho1
 exact⟨b,o+m*4,rfl,hbb,hr.drop m⟩
theorem SlP.slice {base d:Nat} {w:World} {ps:List (VT×Value)} {v:Value} (h:SlP base d w ps v):∃a c,v=.slice a ps.length c∧ps.length≤c:=by
 obtain⟨a,c,hv,h1,_⟩:=h
 exact⟨a,c,hv,h1⟩
theorem SlP.some {base d:Nat} {w:World} {ps:List (VT×Value)} {v:Value} (h:SlP base d w ps v) (hne:ps≠[]):∃b o c,v=.slice (some ⟨b,o,none⟩) ps.length c∧ps.length≤c∧RowAt w b o ps∧∀p∈ps,Sound d w p:=by
 obtain⟨a,c,hv,h1,_,h3,h4⟩:=h
 obtain⟨b,o,ha,_,hr⟩:=h3 hne
 exact⟨b,o,c,by rw [hv,ha],h1,hr,h4⟩
end Go.Proofs.YtlnecfjnffdciabGreat

namespace Go.Proofs.YtlnecfjnffdciabGreat
open Go.RowKit
def ltV (d:Nat) (y x:VT):Bool:=decide (cmpV d y x<0)
def ltQ (d:Nat) (y x:PR):Bool:=decide (cmpV d y.1 x.1<0)
structure Msr (DD B:Nat) (w:World) (g:PR→PR→Bool) (R:List PR) (wr:World) (nx ny no ba oa ca bb ob cb:Nat) (vo:Value) (xs ys ds:List PR):Prop where
 ex:nx=xs.length
 ey:ny=ys.length
 eo:no=ds.length
 cx:nx≤ca
 cy:ny≤cb
 rx:RowAt w ba oa xs
 ry:RowAt w bb ob ys
 gx:∀p∈xs,Sound DD w p
 gy:∀p∈ys,Sound DD w p
 eq:ds++mrg g xs ys=R
 own:wr.ownsRow B 33 4 vo no (ds.flatMap encP)
 below:Below B w wr
 sum:nx+ny+no≤65536
theorem rest_row4 {w:World} {b o o' n:Nat} {x:PR} {xs:List PR} (h:RowAt w b o (x::xs)) (e:n=(x::xs).length) (ho:n=1∨o'=o+4):RowAt w b o' xs:=by
 rcases ho with ho|ho
 ·have:xs=[]:=List.eq_nil_of_length_eq_zero (by simp at e;omega)
  subst this
  intro i hi;cases hi
 ·subst ho
  have:=h.drop 1
  simpa using this
theorem Msr.stepY {DD:Nat} {B:Nat} {w:World} {g:PR→PR→Bool} {R:List PR} {wr:World} {nx ny no ba oa ca bb ob cb:Nat} {vo:Value} {x y:PR} {xs ys ds:List PR} (h:Msr DD B w g R wr nx ny no ba oa ca bb ob cb vo (x::xs) (y::ys) ds) {Z:Int} (hZ:g y x=decide (Z<0)) (hz:Z<0)
 (o':Nat) (ho:ny=1∨o'=ob+4) {W:World} {v':Value} (hown:W.ownsRow B 33 4 v' (no+1) ((ds++[y]).flatMap encP)) (hb:Below B w W) :
 Msr DD B w g R W nx (ny-1) (no+1) ba oa ca bb o' (cb-1) v' (x::xs) ys (ds++[y]):=by
 have h1:=h.ey
 have h2:=h.sum
 have h3:=h.cy
 simp at h1
 refine⟨h.ex,by omega,by simp [h.eo],h.cx,by omega,h.rx,rest_row4 h.ry h.ey ho,h.gx,fun p hp=>h.gy p (List.mem_cons_of_mem _ hp),?_,hown,hb,by omega⟩
 have he:=h.eq
 rw [mrg_step,if_pos (by rw [hZ];exact decide_eq_true hz)] at he
 rw [←he];simp
theorem Msr.stepX {DD:Nat} {B:Nat} {w:World} {g:PR→PR→Bool} {R:List PR} {wr:World} {nx ny no ba oa ca bb ob cb:Nat} {vo:Value} {x y:PR} {xs ys ds:List PR} (h:Msr DD B w g R wr nx ny no ba oa ca bb ob cb vo (x::xs) (y::ys) ds) {Z:Int} (hZ:g y x=decide (Z<0)) (hz : ¬Z<0)
 (o':Nat) (ho:nx=1∨o'=oa+4) {W:World} {v':Value} (hown:W.ownsRow B 33 4 v' (no+1) ((ds++[x]).flatMap encP)) (hb:Below B w W) :
 Msr DD B w g R W (nx-1) ny (no+1) ba o' (ca-1) bb ob cb v' xs (y::ys) (ds++[x]):=by
 have h1:=h.ex
 have h2:=h.sum
 have h3:=h.cx
 simp at h1
 refine⟨by omega,h.ey,by simp [h.eo],by omega,h.cy,rest_row4 h.rx h.ex ho,h.ry,fun p hp=>h.gx p (List.mem_cons_of_mem _ hp),h.gy,?_,hown,hb,by omega⟩
 have he:=h.eq
 rw [mrg_step,if_neg (by rw [hZ,decide_eq_true_eq];exact hz)] at he
 rw [←he];simp
set_option maxRecDepth 100000 in
set_option maxHeartbeats 16000000 in
theorem rsorted_core (d k:Nat) (l:List PR) (u:Value) (w:World) (hu:SlP 0 d w l u) (hlen:l.length≤65536)
 (ih:Hid (2≤l.length→∀(m:List PR) (v:Value) (W:World),m.length≤l.length-1→SlP 0 d W m v→Calls Tryz.prog 127 #[v] W fun e W'=>∃v,e=.returned v∧SlP W.heap.size d W' (srt (ltQ d) k m) v∧Below W.heap.size W W')) :
 Calls Tryz.prog 127 #[u] w fun e w'=>∃v,e=.returned v∧SlP w.heap.size d w' (srt (ltQ d) (k+1) l) v∧Below w.heap.size w w':=by
 obtain⟨i0,hi,hz0,hz1,hz2⟩:=info24
 have Hi:Hid _:=hi;have Hz0:Hid _:=hz0;have Hz1:Hid _:=hz1;have Hz2:Hid _:=hz2
 clear hi hz0 hz1 hz2
 by_cases h2:l.length<2
 ·have Hr:Hid (srt (ltQ d) (k+1) l=l):=by show _=_;unfold srt;rw [if_pos h2]
  generalize srt (ltQ d) (k+1) l=R at *
  obtain⟨aa,ca,rfl,_,_,hrow,hsd⟩:=id hu
  have HN:Hid (aa=none→l.length=0):=fun e=>by
   by_cases hne:l=[]
   ·rw [hne];rfl
   ·obtain⟨b,oo,ha,_⟩:=hrow hne
    rw [ha] at e;cases e
  have HF:Hid (∀W,Below w.heap.size w W→∀ad,aa=some ad→∀j z,(l.flatMap encP)[j]? = some z→W.cell? (ad.add j)=some z):=fun W hW ad e j z hj=>by
   by_cases hne:l=[]
   ·rw [hne] at hj;simp at hj
   ·obtain⟨b,oo,ha,_,hr⟩:=hrow hne
    rw [ha] at e
    injection e with e
    subst e
    rw [zay]
    exact (hr.keeps hW).flat j z hj
  have HO:Hid (∀z∈l.flatMap encP,z.oneCell'=true):=fun z hz=>by
   obtain⟨p,hp,hz⟩:=List.mem_flatMap.1 hz
   exact encP_one (hsd p hp) z hz
  have HL:Hid ((l.flatMap encP).length=l.length*4):=by show _=_;rw [flat_len]
  have HP:Hid (∀p∈l,Sound d w p):=hsd
  have h2':(l.length:Int)<2:=by omega
  have Hown0:Hid ((w.alloc (.cells #[] 33)).ownsRow w.heap.size 33 4 (.slice (some ⟨w.heap.size,0,none⟩) 0 0) 0 []):=World.ownsRow_made w #[] 0 (Nat.le_refl _) (by unfold maxLen;omega) rfl
  have hb0:Below w.heap.size w (w.alloc (.cells #[] 33)):=((Grew.refl w).alloc _).below
  clear ih hu hsd hrow
  go_enter Tryz.func127,Tryz.ntmps127
  go_wp2_with (at_builtin;refine wpList_append_row rfl _ _ rfl w.heap.size i0 Hi.out Hz0.out Hz1.out Hz2.out _ _ _ rfl Hown0.out aa l.length ca (l.flatMap encP) rfl HN.out HL.out (HF.out _ hb0) HO.out (by unfold maxLen;omega) (by omega) (by simp) ?_;intro v5 w5 hown5 hgrow5)
  have hb5:Below w.heap.size w w5:=zah hb0 (by simp) Hown0.out hgrow5
  have hfin:SlP w.heap.size d w5 l v5:=SlP.of_own (n:=0+l.length) (by omega) (by simpa using hown5) (fun p hp=>(HP.out p hp).keeps hb5) (by omega)
  go_ret
  exact⟨_,rfl,by rw [Hr.out];exact hfin,hb5⟩
 ·have Hr:Hid (srt (ltQ d) (k+1) l=mrg (ltQ d) (srt (ltQ d) k (l.take (l.length / 2))) (srt (ltQ d) k (l.drop (l.length / 2)))):=srt_step _ _ _ h2
  have Ih:Hid _:=ih.out (by omega)
  obtain⟨b,o,c,rfl,hb0,_,_⟩:=SlP.some hu (fun e=>by rw [e] at h2;simp at h2)
  obtain⟨h,hh⟩:∃h,h=l.length / 2:=⟨_,rfl⟩
  rw [←hh] at Hr
  have hle:h≤l.length:=by omega
  have HS1:Hid (SlP 0 d w (l.take h) (.slice (some ⟨b,o,none⟩) h c)):=SlP.taken hu h hle
  have HS2:Hid (SlP 0 d w (l.drop h) (.slice (some ⟨b,o+h*4,none⟩) (l.length-h) (c-h))):=SlP.dropped hu h
  have Hl1:Hid ((l.take h).length≤l.length-1):=by show _≤_;rw [List.length_take];omega
  have Hl2:Hid ((l.drop h).length≤l.length-1):=by show _≤_;rw [List.length_drop];omega
  have Hn1:Hid ((srt (ltQ d) k (l.take h)).length=h):=by show _=_;rw [srt_len,List.length_take];omega
  have Hn2:Hid ((srt (ltQ d) k (l.drop h)).length=l.length-h):=by show _=_;rw [srt_len,List.length_drop]
  generalize srt (ltQ d) (k+1) l=R0 at *
  have h2' : ¬(l.length:Int)<2:=by omega
  have hq2:((l.length:Nat):Int) / 2=((h:Nat):Int):=by omega
  have hle':((h:Nat):Int)≤(l.length:Nat):=by omega
  have hmc:l.length≤c:=hb0
  have hcc:h≤c:=by omega
  have hcc':((h:Nat):Int)≤(c:Nat):=by omega
  have hcn : ¬((c:Nat):Int)=(h:Nat):=by omega
  have hcn2 : ¬c=h:=by omega
  have hmc':(l.length:Int)≤(c:Nat):=by omega
  have Hpos:Hid (0<h∧h<l.length):=⟨by omega,by omega⟩
  clear hh ih h2 hb0 hu
  go_enter Tryz.func127,Tryz.ntmps127
  go_wp2_with fail
  refine (Ih.out (l.take h) _ _ Hl1.out HS1.out).mono ?_
  rintro e w1 ⟨v1,rfl,hs1,hb1⟩
  have HT1:Hid (SlP w.heap.size d w1 (srt (ltQ d) k (l.take h)) v1):=hs1
  clear hs1
  go_wp2_with fail
  refine (Ih.out (l.drop h) _ _ Hl2.out (HS2.out.keeps hb1)).mono ?_
  rintro e w2 ⟨v2,rfl,hs2,hg2⟩
  have hb2:Below w.heap.size w w2:=hb1.trans (hg2.mono hb1.size)
  have HU1:Hid (SlP 0 d w2 (srt (ltQ d) k (l.take h)) v1):=(HT1.out.keeps hg2).mono (Nat.zero_le _)
  have HU2:Hid (SlP 0 d w2 (srt (ltQ d) k (l.drop h)) v2):=hs2.mono (Nat.zero_le _)
  clear hs2 hg2 HT1 HS1 HS2 Hl1 Hl2 Ih
  generalize srt (ltQ d) k (l.take h)=ps at *
  generalize srt (ltQ d) k (l.drop h)=qs at *
  obtain⟨ba,oa,ca,rfl,hcA,hra,hsa⟩:=SlP.some HU1.out (fun e=>by have:=Hn1.out;have:=Hpos.out;rw [e] at *;simp at *;omega)
  obtain⟨bb,ob,cb,rfl,hcC,hrb,hsb⟩:=SlP.some HU2.out (fun e=>by have:=Hn2.out;have:=Hpos.out;rw [e] at *;simp at *;omega)
  obtain⟨B,hB⟩:∃B,B=w2.heap.size:=⟨_,rfl⟩
  have HB:Hid (B=w2.heap.size):=hB
  have hBl:B≤w2.heap.size:=by omega
  have HM0:Hid (Msr d B w2 (ltQ d) (mrg (ltQ d) ps qs) w2 ps.length qs.length 0 ba oa ca bb ob cb (.slice none 0 0) ps qs []):=
   ⟨rfl,rfl,rfl,hcA,hcC,hra,hrb,hsa,hsb,rfl,World.ownsRow_nil _ _ _ _,Below.refl _ _,by have:=Hn1.out;have:=Hn2.out;omega⟩
  have HGR:Hid (∀p∈mrg (ltQ d) ps qs,Sound d w2 p):=fun p hp=>(mrg_mem (ltQ d) _ ps qs (Nat.le_refl _) p hp).elim (hsa p) (hsb p)
  have HRl:Hid ((mrg (ltQ d) ps qs).length≤65536):=by show _≤_;rw [mrg_len _ _ _ _ (Nat.le_refl _),Hn1.out,Hn2.out];omega
  have HZQ:Hid (∀x y:PR,ltQ d y x=decide (cmpV d y.1 x.1<0)):=fun _ _=>rfl
  have Hc:Hid _:=fun (t s:VT) (x y:Value) (W:World) h1 h2=>ref_any d t s x y W h1 h2
  clear hcA hcC hra hrb hsa hsb HU1 HU2 Hn1 Hn2 hB
  generalize mrg (ltQ d) ps qs=R at *
  generalize ltQ d=g at *
  generalize ps.length=nx0 at *
  generalize qs.length=ny0 at *
  go_wp2_with fail
  go_loopg [4,5,6] (nx0+ny0) (fun k va vb vo wr=>∃(nx ny no ba oa ca bb ob cb:Nat) (xs' ys' ds:List PR),va=.slice (some ⟨ba,oa,none⟩) nx ca∧vb=.slice (some ⟨bb,ob,none⟩) ny cb∧k=nx+ny∧Hid (Msr d B w2 g R wr nx ny no ba oa ca bb ob cb vo xs' ys' ds))
  case atStart=>exact⟨nx0,ny0,0,ba,oa,ca,bb,ob,cb,ps,qs,[],rfl,rfl,rfl,HM0⟩
  case round=>
   clear HM0
   obtain⟨nx,ny,no,ba,oa,ca,bb,ob,cb,xs',ys',ds,rfl,rfl,hk,HM⟩:=hrel
   have Hk:Hid _:=hk
   clear hk
   have hsum:=HM.out.sum
   have hbw2:Below w2.heap.size w2 wr:=by have:=HM.out.below;rwa [HB.out] at this
   have hwl2:w2.heap.size≤wr.heap.size:=hbw2.size
   by_cases hx:0<nx
   ·by_cases hy:0<ny
    ·obtain⟨x,xs'',rfl⟩:∃x l,xs'=x::l:=by
      cases xs' with
      | nil=>have:=HM.out.ex;simp at this;omega
      | cons x l=>exact⟨x,l,rfl⟩
     obtain⟨y,ys'',rfl⟩:∃x l,ys'=x::l:=by
      cases ys' with
      | nil=>have:=HM.out.ey;simp at this;omega
      | cons x l=>exact⟨x,l,rfl⟩
     obtain⟨t,xv⟩:=x
     obtain⟨s,yv⟩:=y
     obtain⟨ax,cx,hu,_⟩:=Lies.slice (HM.out.gx _ List.mem_cons_self).1
     obtain⟨ay,cy,hu2,_⟩:=Lies.slice (HM.out.gy _ List.mem_cons_self).1
     simp only at hu hu2
     subst hu hu2
     obtain⟨p0,p1,p2,p3⟩:=HM.out.rx 0 (by simp)
     obtain⟨r0,r1,r2,r3⟩:=HM.out.ry 0 (by simp)
     simp only [Nat.zero_mul,Nat.add_zero,List.getElem_cons_zero] at p0 p1 p2 p3 r0 r1 r2 r3
     have hla:ba<w2.heap.size:=zac p0
     have hlb:bb<w2.heap.size:=zac r0
     have p0:=zaa hbw2 p0;have p1:=zaa hbw2 p1;have p2:=zaa hbw2 p2;have p3:=zaa hbw2 p3
     have r0:=zaa hbw2 r0;have r1:=zaa hbw2 r1;have r2:=zaa hbw2 r2;have r3:=zaa hbw2 r3
     have hxi:(0:Int)<(nx:Nat):=by omega
     have hyi:(0:Int)<(ny:Nat):=by omega
     have HX:Hid (Lies d w2 t.items (.slice ax t.items.length cx)):=(HM.out.gx _ List.mem_cons_self).1
     have HY:Hid (Lies d w2 s.items (.slice ay s.items.length cy)):=(HM.out.gy _ List.mem_cons_self).1
     go_wp2_with fail
     go_region_held3 (fun w'=>(w'.cell? ⟨bb,ob,none⟩=some (.int .i64 s.kind)∧w'.cell? ⟨bb,ob+1,none⟩=some (.int .i64 s.num)∧w'.cell? ⟨bb,ob+2,none⟩=some (.string s.text)∧w'.cell? ⟨bb,ob+3,none⟩=some (.slice ay s.items.length cy))∧(w'.cell? ⟨ba,oa,none⟩=some (.int .i64 t.kind)∧w'.cell? ⟨ba,oa+1,none⟩=some (.int .i64 t.num)∧w'.cell? ⟨ba,oa+2,none⟩=some (.string t.text)∧w'.cell? ⟨ba,oa+3,none⟩=some (.slice ax t.items.length cx))) (go_keep)
      (first|(go_at_call 146;refine (Hc.out s t _ _ _ (Lies.keeps hbw2.drew _ _ _ HY.out) (Lies.keeps hbw2.drew _ _ _ HX.out)).mono ?_;rintro e WW ⟨rfl,hg1⟩;have hb1':Below wr.heap.size wr WW:=(Below.refl _ _).drew.trans hg1;have hbW2:Below w2.heap.size w2 WW:=hbw2.trans (hb1'.mono hwl2);clear hg1;have p0:=zaa hb1' p0;have p1:=zaa hb1' p1;have p2:=zaa hb1' p2;have p3:=zaa hb1' p3;have r0:=zaa hb1' r0;have r1:=zaa hb1' r1;have r2:=zaa hb1' r2;have r3:=zaa hb1' r3))
     have hbW:Below B w2 WW:=by rw [HB.out];exact hbW2
     have hwW:w2.heap.size≤WW.heap.size:=hbW2.size
     have hwl:B≤WW.heap.size:=by omega
     have hlaW:ba<WW.heap.size:=by omega
     have hlbW:bb<WW.heap.size:=by omega
     have Hown:Hid (WW.ownsRow B 33 4 u6 no (ds.flatMap encP)):=za4 HM.out.own hb1'
     have hZ:g ((s,.slice ay s.items.length cy):PR) ((t,.slice ax t.items.length cx):PR)=decide (cmpV d s t<0):=HZQ.out _ _
     generalize cmpV d s t=Z at *
     have HZ:Hid (g ((s,.slice ay s.items.length cy):PR) ((t,.slice ax t.items.length cx):PR)=decide (Z<0)):=hZ
     clear hZ hb1'
     by_cases hlt:Z<0
     ·have HZ1:Hid (Z<0):=hlt
      have h1i:(1:Int)≤(ny:Nat):=by omega
      have h1c:((1:Nat):Int)≤(cb:Nat):=by have:=HM.out.cy;omega
      have h1n:1≤ny:=by omega
      have hnc:ny≤cb:=HM.out.cy
      have hnci:(ny:Int)≤(cb:Nat):=by omega
      by_cases hcap:cb=1
      ·have hn1:ny=1:=by omega
       have HN:Hid (∀(v':Value) (W:World),W.ownsRow B 33 4 v' (no+1) ((ds++[((s,.slice ay s.items.length cy):PR)]).flatMap encP)→Below B w2 W→Msr d B w2 g R W nx (ny-1) (no+1) ba oa ca bb (ob) (cb-1) v' (((t,.slice ax t.items.length cx):PR)::xs'') ys'' (ds++[((s,.slice ay s.items.length cy):PR)])):=fun v' W k1 k2=>Msr.stepY HM.out HZ.out HZ1.out ob (.inl hn1) k1 k2
       subst hcap hn1
       go_wp2_with (first
        | (at_builtin;refine wpList_append_own _ rfl _ _ 22 rfl B 33 i0 (.agg #[.int .i64 0,.int .i64 0,.string ⟨#[]⟩,.slice none 0 0]) 4 56 Tryz.underlying22 Hi.out Hz0.out Hz1.out Hz2.out rfl (by decide) _ _ _ rfl (Hown.out.alloc _) ⟨WW.heap.size,0,none⟩ 1 1 [.int .i64 s.kind,.int .i64 s.num,.string s.text,.slice ay s.items.length cy] rfl rfl (fun q u hq=>by match q,hq with|0,hq=>(simp at hq;subst hq;simp [Addr.add])|1,hq=>(simp at hq;subst hq;simp [Addr.add])|2,hq=>(simp at hq;subst hq;simp [Addr.add])|3,hq=>(simp at hq;subst hq;simp [Addr.add])|q+4,hq=>simp at hq) (fun u hu=>by simp at hu;rcases hu with rfl|rfl|rfl|rfl <;> rfl) (by unfold maxLen;omega) (by omega) (by simp;omega) ?_;intro v' w9 hown' hgrow _))
       have hb9:Below B w2 w9:=zah (hbW.alloc hwl _) (by simp;omega) (Hown.out.alloc _) hgrow
       have HN3:Hid _:=HN.out v' w9 (by simpa [encP,List.flatMap_append] using hown') hb9
       clear hown' hgrow Hown HN
       go_wp2_with fail
       go_roundg (nx+1-1)
       case measure=>have:=Hk.out;omega
       case rel=>exact⟨nx,1-1,no+1,ba,oa,ca,bb,ob,1-1,_,_,_,rfl,by go_num,by omega,HN3⟩
      ·have hcap' : ¬((cb:Nat):Int)=1:=by omega
       have HN:Hid (∀(v':Value) (W:World),W.ownsRow B 33 4 v' (no+1) ((ds++[((s,.slice ay s.items.length cy):PR)]).flatMap encP)→Below B w2 W→Msr d B w2 g R W nx (ny-1) (no+1) ba oa ca bb (ob+4) (cb-1) v' (((t,.slice ax t.items.length cx):PR)::xs'') ys'' (ds++[((s,.slice ay s.items.length cy):PR)])):=fun v' W k1 k2=>Msr.stepY HM.out HZ.out HZ1.out (ob+4) (.inr rfl) k1 k2
       go_wp2_with (first
        | (at_builtin;refine wpList_append_own _ rfl _ _ 22 rfl B 33 i0 (.agg #[.int .i64 0,.int .i64 0,.string ⟨#[]⟩,.slice none 0 0]) 4 56 Tryz.underlying22 Hi.out Hz0.out Hz1.out Hz2.out rfl (by decide) _ _ _ rfl (Hown.out.alloc _) ⟨WW.heap.size,0,none⟩ 1 1 [.int .i64 s.kind,.int .i64 s.num,.string s.text,.slice ay s.items.length cy] rfl rfl (fun q u hq=>by match q,hq with|0,hq=>(simp at hq;subst hq;simp [Addr.add])|1,hq=>(simp at hq;subst hq;simp [Addr.add])|2,hq=>(simp at hq;subst hq;simp [Addr.add])|3,hq=>(simp at hq;subst hq;simp [Addr.add])|q+4,hq=>simp at hq) (fun u hu=>by simp at hu;rcases hu with rfl|rfl|rfl|rfl <;> rfl) (by unfold maxLen;omega) (by omega) (by simp;omega) ?_;intro v' w9 hown' hgrow _))
       have hb9:Below B w2 w9:=zah (hbW.alloc hwl _) (by simp;omega) (Hown.out.alloc _) hgrow
       have HN3:Hid _:=HN.out v' w9 (by simpa [encP,List.flatMap_append] using hown') hb9
       clear hown' hgrow Hown HN
       go_wp2_with fail
       go_roundg (nx+ny-1)
       case measure=>have:=Hk.out;omega
       case rel=>exact⟨nx,ny-1,no+1,ba,oa,ca,bb,ob+4,cb-1,_,_,_,rfl,by go_num,by omega,HN3⟩
     ·have HZ1:Hid (¬Z<0):=hlt
      have h1i:(1:Int)≤(nx:Nat):=by omega
      have h1c:((1:Nat):Int)≤(ca:Nat):=by have:=HM.out.cx;omega
      have h1n:1≤nx:=by omega
      have hnc:nx≤ca:=HM.out.cx
      have hnci:(nx:Int)≤(ca:Nat):=by omega
      by_cases hcap:ca=1
      ·have hn1:nx=1:=by omega
       have HN:Hid (∀(v':Value) (W:World),W.ownsRow B 33 4 v' (no+1) ((ds++[((t,.slice ax t.items.length cx):PR)]).flatMap encP)→Below B w2 W→Msr d B w2 g R W (nx-1) ny (no+1) ba (oa) (ca-1) bb ob cb v' xs'' (((s,.slice ay s.items.length cy):PR)::ys'') (ds++[((t,.slice ax t.items.length cx):PR)])):=fun v' W k1 k2=>Msr.stepX HM.out HZ.out HZ1.out oa (.inl hn1) k1 k2
       subst hcap hn1
       go_wp2_with (first
        | (at_builtin;refine wpList_append_own _ rfl _ _ 22 rfl B 33 i0 (.agg #[.int .i64 0,.int .i64 0,.string ⟨#[]⟩,.slice none 0 0]) 4 56 Tryz.underlying22 Hi.out Hz0.out Hz1.out Hz2.out rfl (by decide) _ _ _ rfl (Hown.out.alloc _) ⟨WW.heap.size,0,none⟩ 1 1 [.int .i64 t.kind,.int .i64 t.num,.string t.text,.slice ax t.items.length cx] rfl rfl (fun q u hq=>by match q,hq with|0,hq=>(simp at hq;subst hq;simp [Addr.add])|1,hq=>(simp at hq;subst hq;simp [Addr.add])|2,hq=>(simp at hq;subst hq;simp [Addr.add])|3,hq=>(simp at hq;subst hq;simp [Addr.add])|q+4,hq=>simp at hq) (fun u hu=>by simp at hu;rcases hu with rfl|rfl|rfl|rfl <;> rfl) (by unfold maxLen;omega) (by omega) (by simp;omega) ?_;intro v' w9 hown' hgrow _))
       have hb9:Below B w2 w9:=zah (hbW.alloc hwl _) (by simp;omega) (Hown.out.alloc _) hgrow
       have HN3:Hid _:=HN.out v' w9 (by simpa [encP,List.flatMap_append] using hown') hb9
       clear hown' hgrow Hown HN
       go_wp2_with fail
       go_roundg (1+ny-1)
       case measure=>have:=Hk.out;omega
       case rel=>exact⟨1-1,ny,no+1,ba,oa,1-1,bb,ob,cb,_,_,_,by go_num,rfl,by omega,HN3⟩
      ·have hcap' : ¬((ca:Nat):Int)=1:=by omega
       have HN:Hid (∀(v':Value) (W:World),W.ownsRow B 33 4 v' (no+1) ((ds++[((t,.slice ax t.items.length cx):PR)]).flatMap encP)→Below B w2 W→Msr d B w2 g R W (nx-1) ny (no+1) ba (oa+4) (ca-1) bb ob cb v' xs'' (((s,.slice ay s.items.length cy):PR)::ys'') (ds++[((t,.slice ax t.items.length cx):PR)])):=fun v' W k1 k2=>Msr.stepX HM.out HZ.out HZ1.out (oa+4) (.inr rfl) k1 k2
       go_wp2_with (first
        | (at_builtin;refine wpList_append_own _ rfl _ _ 22 rfl B 33 i0 (.agg #[.int .i64 0,.int .i64 0,.string ⟨#[]⟩,.slice none 0 0]) 4 56 Tryz.underlying22 Hi.out Hz0.out Hz1.out Hz2.out rfl (by decide) _ _ _ rfl (Hown.out.alloc _) ⟨WW.heap.size,0,none⟩ 1 1 [.int .i64 t.kind,.int .i64 t.num,.string t.text,.slice ax t.items.length cx] rfl rfl (fun q u hq=>by match q,hq with|0,hq=>(simp at hq;subst hq;simp [Addr.add])|1,hq=>(simp at hq;subst hq;simp [Addr.add])|2,hq=>(simp at hq;subst hq;simp [Addr.add])|3,hq=>(simp at hq;subst hq;simp [Addr.add])|q+4,hq=>simp at hq) (fun u hu=>by simp at hu;rcases hu with rfl|rfl|rfl|rfl <;> rfl) (by unfold maxLen;omega) (by omega) (by simp;omega) ?_;intro v' w9 hown' hgrow _))
       have hb9:Below B w2 w9:=zah (hbW.alloc hwl _) (by simp;omega) (Hown.out.alloc _) hgrow
       have HN3:Hid _:=HN.out v' w9 (by simpa [encP,List.flatMap_append] using hown') hb9
       clear hown' hgrow Hown HN
       go_wp2_with fail
       go_roundg (nx+ny-1)
       case measure=>have:=Hk.out;omega
       case rel=>exact⟨nx-1,ny,no+1,ba,oa+4,ca-1,bb,ob,cb,_,_,_,by go_num,rfl,by omega,HN3⟩
    ·have Hown0:Hid (wr.ownsRow B 33 4 u6 no (ds.flatMap encP)):=HM.out.own
     have hbw:=HM.out.below
     have HR2:Hid (R=ds++(xs'++ys')):=by
      show _=_
      have e0:ys'=[]:=List.eq_nil_of_length_eq_zero (by have:=HM.out.ey;omega)
      rw [←HM.out.eq,e0,mrg_right,List.append_nil]
     have HA:Hid (∀j u,(xs'.flatMap encP)[j]? = some u→wr.cell? ((⟨ba,oa,none⟩:Addr).add j)=some u):=fun j u hj=>by rw [zay];exact (HM.out.rx.keeps hbw2).flat j u hj
     have HA1:Hid (∀u∈xs'.flatMap encP,u.oneCell'=true):=fun u hu=>by
      obtain⟨p,hp,hu⟩:=List.mem_flatMap.1 hu
      exact encP_one (HM.out.gx p hp) u hu
     have HB1:Hid (∀u∈ys'.flatMap encP,u.oneCell'=true):=fun u hu=>by
      obtain⟨p,hp,hu⟩:=List.mem_flatMap.1 hu
      exact encP_one (HM.out.gy p hp) u hu
     have HAL:Hid ((xs'.flatMap encP).length=nx*4):=by show _=_;rw [flat_len,HM.out.ex]
     have HBL:Hid ((ys'.flatMap encP).length=ny*4):=by show _=_;rw [flat_len,HM.out.ey]
     have hwl:=hbw.size
     have hxi:(0:Int)<(nx:Nat):=by omega
     have hyi : ¬(0:Int)<(ny:Nat):=by omega
     go_wp2_with (first
      | (at_builtin;refine wpList_append_own _ rfl _ _ 22 rfl B 33 i0 (.agg #[.int .i64 0,.int .i64 0,.string ⟨#[]⟩,.slice none 0 0]) 4 56 Tryz.underlying22 Hi.out Hz0.out Hz1.out Hz2.out rfl (by decide) _ _ _ rfl Hown1.out ⟨bb,ob,none⟩ ny cb (ys'.flatMap encP) rfl HBL.out (fun j u hj=>by rw [zay];exact (HM.out.ry.keeps hb1).flat j u hj) HB1.out (by unfold maxLen;omega) (by omega) (by omega) ?_;intro v2 w5 hown2 hgrow2 hnil2)
      | (at_builtin;refine wpList_append_own _ rfl _ _ 22 rfl B 33 i0 (.agg #[.int .i64 0,.int .i64 0,.string ⟨#[]⟩,.slice none 0 0]) 4 56 Tryz.underlying22 Hi.out Hz0.out Hz1.out Hz2.out rfl (by decide) _ _ _ rfl Hown0.out ⟨ba,oa,none⟩ nx ca (xs'.flatMap encP) rfl HAL.out HA.out HA1.out (by unfold maxLen;omega) (by omega) (by omega) ?_;intro v1 w4 hown1 hgrow1 hnil1;have hb1:Below w2.heap.size w2 w4:=zah hbw2 (by omega) (HB.out ▸ Hown0.out) hgrow1;have Hown1:Hid (w4.ownsRow B 33 4 v1 (no+nx) (ds.flatMap encP++xs'.flatMap encP)):=hown1;have hwl4:w2.heap.size≤w4.heap.size:=hb1.size;clear hown1 hgrow1 hnil1))
     go_ret
     have hb2':Below w2.heap.size w2 w5:=zah hb1 (by omega) (HB.out ▸ Hown1.out) hgrow2
     have hfl:ds.flatMap encP++xs'.flatMap encP++ys'.flatMap encP=R.flatMap encP:=by rw [HR2.out,List.flatMap_append,List.flatMap_append,List.append_assoc]
     rw [hfl] at hown2
     have hRl:no+nx+ny=R.length:=by rw [HR2.out,List.length_append,List.length_append,←HM.out.ex,←HM.out.ey,←HM.out.eo,Nat.add_assoc]
     rw [hRl] at hown2
     have hlies:=SlP.of_own (d:=d) (ps:=R) rfl hown2 (fun p hp=>(HGR.out p hp).keeps hb2') (by have:=HRl.out;omega)
     exact⟨_,rfl,by rw [Hr.out];exact hlies.mono (by rw [HB.out];exact hb2.size),hb2.trans (hb2'.mono hb2.size)⟩
   ·have Hown0:Hid (wr.ownsRow B 33 4 u6 no (ds.flatMap encP)):=HM.out.own
    have hbw:=HM.out.below
    have HR2:Hid (R=ds++(xs'++ys')):=by
     show _=_
     have e0:xs'=[]:=List.eq_nil_of_length_eq_zero (by have:=HM.out.ex;omega)
     rw [←HM.out.eq,e0,zaz,List.nil_append]
    have HA:Hid (∀j u,(xs'.flatMap encP)[j]? = some u→wr.cell? ((⟨ba,oa,none⟩:Addr).add j)=some u):=fun j u hj=>by rw [zay];exact (HM.out.rx.keeps hbw2).flat j u hj
    have HA1:Hid (∀u∈xs'.flatMap encP,u.oneCell'=true):=fun u hu=>by
     obtain⟨p,hp,hu⟩:=List.mem_flatMap.1 hu
     exact encP_one (HM.out.gx p hp) u hu
    have HB1:Hid (∀u∈ys'.flatMap encP,u.oneCell'=true):=fun u hu=>by
     obtain⟨p,hp,hu⟩:=List.mem_flatMap.1 hu
     exact encP_one (HM.out.gy p hp) u hu
    have HAL:Hid ((xs'.flatMap encP).length=nx*4):=by show _=_;rw [flat_len,HM.out.ex]
    have HBL:Hid ((ys'.flatMap encP).length=ny*4):=by show _=_;rw [flat_len,HM.out.ey]
    have hwl:=hbw.size
    have hxi : ¬(0:Int)<(nx:Nat):=by omega
    go_wp2_with (first
     | (at_builtin;refine wpList_append_own _ rfl _ _ 22 rfl B 33 i0 (.agg #[.int .i64 0,.int .i64 0,.string ⟨#[]⟩,.slice none 0 0]) 4 56 Tryz.underlying22 Hi.out Hz0.out Hz1.out Hz2.out rfl (by decide) _ _ _ rfl Hown1.out ⟨bb,ob,none⟩ ny cb (ys'.flatMap encP) rfl HBL.out (fun j u hj=>by rw [zay];exact (HM.out.ry.keeps hb1).flat j u hj) HB1.out (by unfold maxLen;omega) (by omega) (by omega) ?_;intro v2 w5 hown2 hgrow2 hnil2)
     | (at_builtin;refine wpList_append_own _ rfl _ _ 22 rfl B 33 i0 (.agg #[.int .i64 0,.int .i64 0,.string ⟨#[]⟩,.slice none 0 0]) 4 56 Tryz.underlying22 Hi.out Hz0.out Hz1.out Hz2.out rfl (by decide) _ _ _ rfl Hown0.out ⟨ba,oa,none⟩ nx ca (xs'.flatMap encP) rfl HAL.out HA.out HA1.out (by unfold maxLen;omega) (by omega) (by omega) ?_;intro v1 w4 hown1 hgrow1 hnil1;have hb1:Below w2.heap.size w2 w4:=zah hbw2 (by omega) (HB.out ▸ Hown0.out) hgrow1;have Hown1:Hid (w4.ownsRow B 33 4 v1 (no+nx) (ds.flatMap encP++xs'.flatMap encP)):=hown1;have hwl4:w2.heap.size≤w4.heap.size:=hb1.size;clear hown1 hgrow1 hnil1))
    go_ret
    have hb2':Below w2.heap.size w2 w5:=zah hb1 (by omega) (HB.out ▸ Hown1.out) hgrow2
    have hfl:ds.flatMap encP++xs'.flatMap encP++ys'.flatMap encP=R.flatMap encP:=by rw [HR2.out,List.flatMap_append,List.flatMap_append,List.append_assoc]
    rw [hfl] at hown2
    have hRl:no+nx+ny=R.length:=by rw [HR2.out,List.length_append,List.length_append,←HM.out.ex,←HM.out.ey,←HM.out.eo,Nat.add_assoc]
    rw [hRl] at hown2
    have hlies:=SlP.of_own (d:=d) (ps:=R) rfl hown2 (fun p hp=>(HGR.out p hp).keeps hb2') (by have:=HRl.out;omega)
    exact⟨_,rfl,by rw [Hr.out];exact hlies.mono (by rw [HB.out];exact hb2.size),hb2.trans (hb2'.mono hb2.size)⟩
theorem rsorted_any (d:Nat):∀(k:Nat) (l:List PR) (u:Value) (w:World),SlP 0 d w l u→l.length≤65536→l.length≤k+1→
 Calls Tryz.prog 127 #[u] w fun e w'=>∃v,e=.returned v∧SlP w.heap.size d w' (srt (ltQ d) (k+1) l) v∧Below w.heap.size w w':=by
 intro k
 induction k with
 | zero=>intro l u w hu hlen hk;exact rsorted_core d 0 l u w hu hlen (fun h=>by omega)
 | succ k ih=>intro l u w hu hlen hk;exact rsorted_core d (k+1) l u w hu hlen (fun _ m v W hm hv=>ih m v W hv (by omega) (by omega))
end Go.Proofs.YtlnecfjnffdciabGreat

