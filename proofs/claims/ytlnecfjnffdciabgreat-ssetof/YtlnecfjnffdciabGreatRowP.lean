import Derived.Test.YtlnecfjnffdciabGreatSym3
import Derived.Test.YtlnecfjnffdciabGreatRSorted
namespace Go.Proofs.YtlnecfjnffdciabGreat
open Go.RowKit
set_option maxRecDepth 100000 in
theorem infoQ:∃i0,Tryz.prog.info? 108=some i0∧i0.zero=some (.agg #[.int .i64 0,.int .i64 0,.string ⟨#[]⟩,.slice none 0 0,.int .i64 0,.int .i64 0,.string ⟨#[]⟩,.slice none 0 0])∧i0.size=8∧i0.bytes=112:=by
 refine⟨_,rfl,?_,?_,?_⟩
 all_goals kernel_rfl
theorem za5 (qs:List PP):(qs.flatMap encQ).length=qs.length*8:=by
 induction qs with
 | nil=>rfl
 | cons p qs ih=>rw [List.flatMap_cons,List.length_append,ih,za2,List.length_cons];omega
theorem flat_atQ:∀(qs:List PP) (i r:Nat) (h:i<qs.length),r<8→(qs.flatMap encQ)[i*8+r]? = (encQ qs[i])[r]?:=by
 intro qs
 induction qs with
 | nil=>intro i r h;cases h
 | cons p qs ih=>
  intro i r h hr
  rw [List.flatMap_cons]
  cases i with
  | zero=>rw [List.getElem?_append_left (by rw [za2];omega)];simp
  | succ i=>
   rw [List.getElem?_append_right (by rw [za2];omega)]
   have e:(i+1)*8+r-(encQ p).length=i*8+r:=by rw [za2];omega
   rw [e,ih i r (by simpa using h) hr];rfl
def QAt (w:World) (b o:Nat) (qs:List PP):Prop:=∀j u,(qs.flatMap encQ)[j]? = some u→w.cell? ⟨b,o+j,none⟩=some u
theorem QAt.keeps {w w':World} {b o:Nat} {qs:List PP} (h:QAt w b o qs) (hb:Below w.heap.size w w'):QAt w' b o qs:=fun j u hj=>zaa hb (h j u hj)
theorem QAt.nth {w:World} {b o:Nat} {qs:List PP} (h:QAt w b o qs) (i:Nat) (hi:i<qs.length) (r:Nat) (hr:r<8):w.cell? ⟨b,o+(i*8+r),none⟩=some ((encQ qs[i])[r]'(by rw [za2];exact hr)):=by
 refine h _ _ ?_
 rw [flat_atQ qs i r hi hr,List.getElem?_eq_getElem]
def Eight (w:World) (b o:Nat) (p:PP):Prop:=
 w.cell? ⟨b,o,none⟩=some (.int .i64 p.1.1.kind)∧w.cell? ⟨b,o+1,none⟩=some (.int .i64 p.1.1.num)∧w.cell? ⟨b,o+2,none⟩=some (.string p.1.1.text)∧w.cell? ⟨b,o+3,none⟩=some p.1.2∧
 w.cell? ⟨b,o+4,none⟩=some (.int .i64 p.2.1.kind)∧w.cell? ⟨b,o+5,none⟩=some (.int .i64 p.2.1.num)∧w.cell? ⟨b,o+6,none⟩=some (.string p.2.1.text)∧w.cell? ⟨b,o+7,none⟩=some p.2.2
theorem Eight.keeps {w w':World} {b o:Nat} {p:PP} (h:Eight w b o p) (hb:Below w.heap.size w w'):Eight w' b o p:=by
 obtain⟨h0,h1,h2,h3,h4,h5,h6,h7⟩:=h
 exact⟨zaa hb h0,zaa hb h1,zaa hb h2,zaa hb h3,zaa hb h4,zaa hb h5,zaa hb h6,zaa hb h7⟩
theorem QAt.at {w:World} {b o:Nat} {qs:List PP} (h:QAt w b o qs) (i:Nat) (hi:i<qs.length):Eight w b (o+i*8) qs[i]:=by
 have e:∀r (hr:r<8),w.cell? ⟨b,o+i*8+r,none⟩=some ((encQ qs[i])[r]'(by rw [za2];exact hr)):=fun r hr=>by
  rw [Nat.add_assoc];exact h.nth i hi r hr
 exact⟨e 0 (by omega),e 1 (by omega),e 2 (by omega),e 3 (by omega),e 4 (by omega),e 5 (by omega),e 6 (by omega),e 7 (by omega)⟩
theorem QAt.drop {w:World} {b o:Nat} {qs:List PP} (h:QAt w b o qs) (m:Nat):QAt w b (o+m*8) (qs.drop m):=by
 intro j u hj
 have hlt:j<((qs.drop m).flatMap encQ).length:=by
  by_cases hl:j<((qs.drop m).flatMap encQ).length
  ·exact hl
  ·rw [List.getElem?_eq_none (by omega)] at hj;cases hj
 rw [za5,List.length_drop] at hlt
 rw [Nat.add_assoc]
 refine h (m*8+j) u ?_
 have hjj:j=j / 8*8+j % 8:=by omega
 have e1:j / 8<(qs.drop m).length:=by rw [List.length_drop];omega
 have e2:m+j / 8<qs.length:=by omega
 rw [hjj,flat_atQ _ _ _ e1 (by omega),List.getElem_drop] at hj
 have e3:m*8+j=(m+j / 8)*8+j % 8:=by omega
 rw [e3,flat_atQ qs _ _ e2 (by omega)]
 exact hj
theorem QAt.take {w:World} {b o:Nat} {qs:List PP} (h:QAt w b o qs) (m:Nat):QAt w b o (qs.take m):=by
 intro j u hj
 refine h j u ?_
 have e:qs=qs.take m++qs.drop m:=(List.take_append_drop m qs).symm
 rw [e,List.flatMap_append,List.getElem?_append_left]
 ·exact hj
 ·by_cases hl:j<((qs.take m).flatMap encQ).length
  ·exact hl
  ·rw [List.getElem?_eq_none (by omega)] at hj;cases hj
theorem QAt.nil (w:World) (b o:Nat):QAt w b o []:=fun j u hj=>by simp at hj
theorem encQ_one {d:Nat} {w:World} {p:PP} (h:GoodQ d w p):∀v∈encQ p,v.oneCell'=true:=by
 intro v hv
 rcases List.mem_append.1 hv with hv|hv
 ·exact encP_one h.1 v hv
 ·exact encP_one h.2 v hv
theorem own_rowQ {w:World} {base:Nat} {v:Value} {qs:List PP} (h:w.ownsRow base 108 8 v qs.length (qs.flatMap encQ)) (hne:qs≠[]) :
 ∃g cap,v=.slice (some ⟨g,0,none⟩) qs.length cap∧base≤g∧qs.length≤cap∧g<w.heap.size∧QAt w g 0 qs∧∀k,w.frozen? ⟨g,k,none⟩=false:=by
 rcases h.2 with ⟨_,h0⟩|⟨g,cap,cur,hv,hbs,hg,hcap,_,hsz,htk⟩
 ·exact absurd (List.eq_nil_of_length_eq_zero h0) hne
 ·have hlt:g<w.heap.size:=by
   by_cases hl:g<w.heap.size
   ·exact hl
   ·rw [Array.getElem?_eq_none (by omega)] at hg;cases hg
  refine⟨g,cap,hv,hbs,hcap,hlt,fun j u hj=>?_,fun k=>?_⟩
  ·rw [←htk] at hj
   unfold World.cell?
   rw [hg]
   simp only [Nat.zero_add]
   rw [List.getElem?_take] at hj
   split at hj
   ·simpa using hj
   ·cases hj
  ·unfold World.frozen?
   rw [hg]
   simp
def SlQ (base d:Nat) (w:World) (qs:List PP) (v:Value):Prop:=
 ∃a c,v=.slice a qs.length c∧qs.length≤c∧qs.length≤9223372036854775807∧(qs≠[]→∃b o,a=some ⟨b,o,none⟩∧base≤b∧QAt w b o qs)∧∀p∈qs,GoodQ d w p
theorem SlQ.keeps {base d:Nat} {w w':World} {qs:List PP} {v:Value} (h:SlQ base d w qs v) (hb:Below w.heap.size w w'):SlQ base d w' qs v:=by
 obtain⟨a,c,hv,h1,h2,h3,h4⟩:=h
 refine⟨a,c,hv,h1,h2,fun hne=>?_,fun p hp=>(h4 p hp).keeps hb⟩
 obtain⟨b,o,ha,hbb,hr⟩:=h3 hne
 exact⟨b,o,ha,hbb,hr.keeps hb⟩
theorem SlQ.mono {base base' d:Nat} {w:World} {qs:List PP} {v:Value} (h:SlQ base d w qs v) (hb:base'≤base):SlQ base' d w qs v:=by
 obtain⟨a,c,hv,h1,h2,h3,h4⟩:=h
 refine⟨a,c,hv,h1,h2,fun hne=>?_,h4⟩
 obtain⟨b,o,ha,hbb,hr⟩:=h3 hne
 exact⟨b,o,ha,by omega,hr⟩
theorem SlQ.slice {base d:Nat} {w:World} {qs:List PP} {v:Value} (h:SlQ base d w qs v):∃a c,v=.slice a qs.length c∧qs.length≤c:=by
 obtain⟨a,c,hv,h1,_⟩:=h
 exact⟨a,c,hv,h1⟩
theorem SlQ.good {base d:Nat} {w:World} {qs:List PP} {v:Value} (h:SlQ base d w qs v):∀p∈qs,GoodQ d w p:=by
 obtain⟨a,c,hv,h1,h2,h3,h4⟩:=h
 exact h4
theorem SlQ.full {base d:Nat} {w:World} {qs:List PP} {v:Value} (h:SlQ base d w qs v) (hne:qs≠[]):∃b o c,v=.slice (some ⟨b,o,none⟩) qs.length c∧qs.length≤c∧QAt w b o qs∧∀p∈qs,GoodQ d w p:=by
 obtain⟨a,c,hv,h1,_,h3,h4⟩:=h
 obtain⟨b,o,ha,_,hr⟩:=h3 hne
 exact⟨b,o,c,by rw [hv,ha],h1,hr,h4⟩
theorem SlQ.of_own {w:World} {base d:Nat} {v:Value} {n:Nat} {qs:List PP} (hn:n=qs.length) (h:w.ownsRow base 108 8 v n (qs.flatMap encQ)) (hs:∀p∈qs,GoodQ d w p) (hl:qs.length≤9223372036854775807):SlQ base d w qs v:=by
 subst hn
 by_cases hne:qs=[]
 ·subst hne
  rcases h.2 with ⟨rfl,_⟩|⟨g,cap,cur,rfl,_⟩
  ·exact⟨none,0,rfl,by simp,by simp,(fun h=>absurd rfl h),hs⟩
  ·exact⟨_,cap,rfl,by simp,by simp,(fun h=>absurd rfl h),hs⟩
 ·obtain⟨g,cap,rfl,hb,hcap,_,hrow,_⟩:=own_rowQ h hne
  exact⟨_,cap,rfl,hcap,hl,(fun _=>⟨g,0,rfl,hb,hrow⟩),hs⟩
theorem SlQ.taken {base d:Nat} {w:World} {qs:List PP} {b o c:Nat} (h:SlQ base d w qs (.slice (some ⟨b,o,none⟩) qs.length c)) (m:Nat) (hm:m≤qs.length):SlQ base d w (qs.take m) (.slice (some ⟨b,o,none⟩) m c):=by
 obtain⟨a,c',hv,h1,h2,h3,h4⟩:=h
 injection hv with q1 _ q3
 subst q1 q3
 have e:(qs.take m).length=m:=by rw [List.length_take,Nat.min_eq_left hm]
 refine⟨_,c,by rw [e],by rw [e];omega,by rw [e];omega,fun hne=>?_,fun p hp=>h4 p (List.mem_of_mem_take hp)⟩
 obtain⟨b',o',ha,hbb,hr⟩:=h3 (fun e0=>hne (by rw [e0];simp))
 exact⟨b',o',ha,hbb,QAt.take hr m⟩
theorem SlQ.dropped {base d:Nat} {w:World} {qs:List PP} {b o c:Nat} (h:SlQ base d w qs (.slice (some ⟨b,o,none⟩) qs.length c)) (m:Nat):SlQ base d w (qs.drop m) (.slice (some ⟨b,o+m*8,none⟩) (qs.length-m) (c-m)):=by
 obtain⟨a,c',hv,h1,h2,h3,h4⟩:=h
 injection hv with q1 _ q3
 subst q1 q3
 have e:(qs.drop m).length=qs.length-m:=List.length_drop
 refine⟨_,c-m,by rw [e],by rw [e];omega,by rw [e];omega,fun hne=>?_,fun p hp=>h4 p (List.mem_of_mem_drop hp)⟩
 obtain⟨b',o',ha,hbb,hr⟩:=h3 (fun e0=>hne (by rw [e0];simp))
 injection ha with ha
 injection ha with hb1 ho1
 subst hb1 ho1
 exact⟨b,o+m*8,rfl,hbb,hr.drop m⟩
theorem SlQ.src {base d:Nat} {w:World} {qs:List PP} {aa:Option Addr} {c:Nat} (h:SlQ base d w qs (.slice aa qs.length c)) :
 (aa=none→qs.length=0)∧(∀W,Below w.heap.size w W→∀ad,aa=some ad→∀j u,(qs.flatMap encQ)[j]? = some u→W.cell? (ad.add j)=some u)∧(∀u∈qs.flatMap encQ,u.oneCell'=true):=by
 obtain⟨a,c',hv,h1,h2,h3,h4⟩:=h
 injection hv with q1 _ q3
 subst q1 q3
 refine⟨fun e=>?_,fun W hW ad e j u hj=>?_,fun u hu=>?_⟩
 ·by_cases hne:qs=[]
  ·rw [hne];rfl
  ·obtain⟨b,o,ha,_⟩:=h3 hne
   rw [ha] at e;cases e
 ·by_cases hne:qs=[]
  ·rw [hne] at hj;simp at hj
  ·obtain⟨b,o,ha,_,hr⟩:=h3 hne
   rw [ha] at e
   injection e with e
   subst e
   rw [zay]
   exact (hr.keeps hW) j u hj
 ·obtain⟨p,hp,hu⟩:=List.mem_flatMap.1 hu
  exact encQ_one (h4 p hp) u hu
theorem wpList_append_rowQ {w:World} {ops:Array Oper} {rest:List Oper} {o:Oper} {a:Act} {Q:Exit→Act→World→Prop} (hgd:o.guard=none) (s x:Operand)
 (ho:o.op=.call { callee:=.builtin .append,args:=#[s,x],argTypes:=#[76,76] })
 (base:Nat) (i:TypeInfo) (hi:Tryz.prog.info? 108=some i) (hz:i.zero=some (.agg #[.int .i64 0,.int .i64 0,.string ⟨#[]⟩,.slice none 0 0,.int .i64 0,.int .i64 0,.string ⟨#[]⟩,.slice none 0 0])) (hsize:i.size=8) (hby:i.bytes=112)
 (v:Value) (n:Nat) (xs:List Value) (hs:a.eval s=v) (hown:w.ownsRow base 108 8 v n xs)
 (aa:Option Addr) (m c:Nat) (news:List Value) (hx:a.eval x=.slice aa m c) (hnone:aa=none→m=0) (hl:news.length=m*8) (hnews:∀ad,aa=some ad→∀j u,news[j]? = some u→w.cell? (ad.add j)=some u) (h1:∀u∈news,u.oneCell'=true)
 (h63:n+m≤maxLen) (hbytes:(n+m)*112≤140737488355328) (hbase:base≤w.heap.size)
 (h:∀v' w',w'.ownsRow base 108 8 v' (n+m) (xs++news)→w.grownBy w' v.ownBlock→wpList Tryz.prog ops Q rest (a.put o.dst v') w'):wpList Tryz.prog ops Q (o::rest) a w:=by
 cases aa with
 | none=>
  have hm:=hnone rfl
  subst hm
  have hn:news=[]:=List.eq_nil_of_length_eq_zero (by omega)
  subst hn
  have hr:∀ty,(Builtin.append_ #[76,76] ty #[v,.slice none 0 c]).run Tryz.prog w=.ok v w:=fun ty=>by
   rcases hown.2 with ⟨rfl,rfl⟩|⟨g,cap,cur,rfl,_,_,hnc,_⟩
   ·simp [Builtin.append_,run_underlying Tryz.underlying76,sizeOf,typeInfo,hi,Builtin.lenOf,Builtin.firstCells]
   ·simp [Builtin.append_,run_underlying Tryz.underlying76,sizeOf,typeInfo,hi,Builtin.lenOf,Builtin.firstCells,hnc,storeCells]
  refine Lib.wpList_append_run w hgd s x 76 76 ho v (.slice none 0 c) hs hx v w (hr _) (h v w (by simpa using hown) ⟨rfl,rfl,rfl,Nat.le_refl _,fun _ _ _=>rfl⟩)
 | some ad=>
  exact wpList_append_own w hgd s x 76 ho base 108 i _ 8 112 Tryz.underlying76 hi hz hsize hby rfl (by decide) v n xs hs hown ad m c news hx hl (hnews ad rfl) h1 h63 hbytes hbase (fun v' w' k1 k2 _=>h v' w' k1 k2)
end Go.Proofs.YtlnecfjnffdciabGreat

