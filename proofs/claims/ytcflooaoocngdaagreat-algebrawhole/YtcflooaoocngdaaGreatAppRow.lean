import Derived.Test.YtcflooaoocngdaaGreatRotate
import Derived.Lib.AppendZeros
namespace Go.Proofs.YtcflooaoocngdaaGreat
open Go.RowKit
theorem add_addr5 (b o j:Nat):(⟨b,o,none⟩:Addr).add j=⟨b,o+j,none⟩:=by
 unfold Addr.add
 by_cases hk:j=0
 ·subst hk;rfl
 ·rw [if_neg hk]
theorem own_growM {w wr w2:World} {M:Nat} {ty sz:Nat} {v:Value} {n:Nat} {xs:List Value} (hb:Below M w wr) (hM:M≤wr.heap.size) (hown:wr.ownsRow M ty sz v n xs) (hgrow:wr.grownBy w2 v.ownBlock):Below M w w2:=
 hb.grown hgrow hM (by
  intro k hk
  rcases hown.2 with ⟨hv,_⟩|⟨g,cap',cur,hv,hbs,_⟩
  ·rw [hv] at hk;cases hk
  ·rw [hv] at hk
   simp only [Value.ownBlock,Option.some.injEq] at hk
   omega)
theorem wpList_append_row {w:World} {ops:Array Oper} {rest:List Oper} {o:Oper} {a:Act} {Q:Exit→Act→World→Prop} (hgd:o.guard=none) (s x:Operand)
 (ho:o.op=.call { callee:=.builtin .append,args:=#[s,x],argTypes:=#[22,22] })
 (base:Nat) (i:TypeInfo) (hi:Tryz.prog.info? 27=some i) (hz:i.zero=some (.agg #[.int .i64 0,.int .i64 0,.string ⟨#[]⟩,.slice none 0 0])) (hsize:i.size=4) (hby:i.bytes=56)
 (v:Value) (n:Nat) (xs:List Value) (hs:a.eval s=v) (hown:w.ownsRow base 27 4 v n xs)
 (aa:Option Addr) (m c:Nat) (news:List Value) (hx:a.eval x=.slice aa m c) (hnone:aa=none→m=0) (hl:news.length=m*4) (hnews:∀ad,aa=some ad→∀j u,news[j]? = some u→w.cell? (ad.add j)=some u) (h1:∀u∈news,u.oneCell'=true)
 (h63:n+m≤maxLen) (hbytes:(n+m)*56≤140737488355328) (hbase:base≤w.heap.size)
 (h:∀v' w',w'.ownsRow base 27 4 v' (n+m) (xs++news)→w.grownBy w' v.ownBlock→wpList Tryz.prog ops Q rest (a.put o.dst v') w'):wpList Tryz.prog ops Q (o::rest) a w:=by
 cases aa with
 | none=>
  have hm:=hnone rfl
  subst hm
  have hn:news=[]:=List.eq_nil_of_length_eq_zero (by omega)
  subst hn
  have hr:∀ty,(Builtin.append_ #[22,22] ty #[v,.slice none 0 c]).run Tryz.prog w=.ok v w:=fun ty=>by
   rcases hown.2 with ⟨rfl,rfl⟩|⟨g,cap,cur,rfl,_,_,hnc,_⟩
   ·simp [Builtin.append_,run_underlying Tryz.underlying22,sizeOf,typeInfo,hi,Builtin.lenOf,Builtin.firstCells]
   ·simp [Builtin.append_,run_underlying Tryz.underlying22,sizeOf,typeInfo,hi,Builtin.lenOf,Builtin.firstCells,hnc,storeCells]
  refine Lib.wpList_append_run w hgd s x 22 22 ho v (.slice none 0 c) hs hx v w (hr _) (h v w (by simpa using hown) ⟨rfl,rfl,rfl,Nat.le_refl _,fun _ _ _=>rfl⟩)
 | some ad=>
  exact wpList_append_own w hgd s x 22 ho base 27 i _ 4 56 Tryz.underlying22 hi hz hsize hby rfl (by decide) v n xs hs hown ad m c news hx hl (hnews ad rfl) h1 h63 hbytes hbase (fun v' w' k1 k2 _=>h v' w' k1 k2)
theorem own_lies {w:World} {base d:Nat} {v:Value} {n:Nat} {ps:List (VT×Value)} (hn:n=ps.length) (h:w.ownsRow base 27 4 v n (ps.flatMap encP)) (hs:∀p∈ps,Sound d w p) (hl:ps.length≤9223372036854775807):Lies (d+1) w (ps.map (·.1)) v:=by
 subst hn
 by_cases hne:ps=[]
 ·subst hne
  rcases h.2 with ⟨rfl,_⟩|⟨g,cap,cur,rfl,_⟩
  ·exact⟨none,0,rfl,by simp,fun h=>absurd rfl h⟩
  ·exact⟨_,cap,rfl,by simp,fun h=>absurd rfl h⟩
 ·obtain⟨g,cap,rfl,_,hcap,_,hrow,_⟩:=own_row h hne
  exact lies_of_row hrow hs hl hcap
theorem Lies.taken {d:Nat} {w:World} {l:List VT} {b o c:Nat} (h:Lies (d+1) w l (.slice (some ⟨b,o,none⟩) l.length c)) (m:Nat) (hm:m≤l.length):Lies (d+1) w (l.take m) (.slice (some ⟨b,o,none⟩) m c):=by
 obtain⟨a',c',hv,hb,hr⟩:=h
 injection hv with h1 _ h3
 subst h1 h3
 have e:(l.take m).length=m:=by rw [List.length_take,Nat.min_eq_left hm]
 refine⟨_,c,by rw [e],by rw [e];omega,fun hne=>?_⟩
 obtain⟨b',o',ha,hall⟩:=hr (fun e0=>hne (by rw [e0];simp))
 refine⟨b',o',ha,fun i hi=>?_⟩
 have:=hall i (by omega)
 simpa [List.getElem_take] using this
theorem Lies.dropped {d:Nat} {w:World} {l:List VT} {b o c:Nat} (h:Lies (d+1) w l (.slice (some ⟨b,o,none⟩) l.length c)) (m:Nat):Lies (d+1) w (l.drop m) (.slice (some ⟨b,o+m*4,none⟩) (l.length-m) (c-m)):=by
 obtain⟨a',c',hv,hb,hr⟩:=h
 injection hv with h1 _ h3
 subst h1 h3
 refine⟨_,c-m,by rw [List.length_drop],by rw [List.length_drop];omega,fun hne=>?_⟩
 obtain⟨b',o',ha,hall⟩:=hr (fun e0=>hne (by rw [e0];simp))
 injection ha with ha
 injection ha with hb1 ho1
 subst hb1 ho1
 refine⟨b,o+m*4,rfl,fun i hi=>?_⟩
 have:=hall (m+i) (by simp at hi;omega)
 simp only [List.getElem_drop]
 rw [show o+m*4+i*4=o+(m+i)*4 by omega]
 exact this
def SlP (base d:Nat) (w:World) (ps:List (VT×Value)) (v:Value):Prop:=
 ∃a c,v=.slice a ps.length c∧ps.length≤c∧ps.length≤9223372036854775807∧(ps≠[]→∃b o,a=some ⟨b,o,none⟩∧base≤b∧RowAt w b o ps)∧∀p∈ps,Sound d w p
theorem SlP.mono {base base' d:Nat} {w:World} {ps:List (VT×Value)} {v:Value} (h:SlP base d w ps v) (hb:base'≤base):SlP base' d w ps v:=by
 obtain⟨a,c,hv,h1,h2,h3,h4⟩:=h
 refine⟨a,c,hv,h1,h2,fun hne=>?_,h4⟩
 obtain⟨b,o,ha,hbb,hr⟩:=h3 hne
 exact⟨b,o,ha,by omega,hr⟩
theorem SlP.of_lies {d:Nat} {w:World} {l:List VT} {v:Value} (h:Lies (d+1) w l v):∃ps,ps.map (·.1)=l∧ps.length=l.length∧SlP 0 d w ps v:=by
 obtain⟨a0,c0,e0,hc0,_⟩:=id h
 obtain⟨a,c,e,_,ps,hps,hsd,hrow⟩:=Lies.row h
 have hlen:ps.length=l.length:=by rw [←hps];simp
 have hcc:c0=c:=by rw [e] at e0;injection e0 with _ _ e3;exact e3.symm
 refine⟨ps,hps,hlen,a,c,by rw [e,hlen],by rw [hlen,←hcc];exact hc0.1,by rw [hlen];exact hc0.2,fun hne=>?_,hsd⟩
 obtain⟨b,o,ha,hr⟩:=hrow (fun e=>hne (List.eq_nil_of_length_eq_zero (by rw [hlen,e];rfl)))
 exact⟨b,o,ha,Nat.zero_le _,hr⟩
theorem SlP.lies {base d:Nat} {w:World} {ps:List (VT×Value)} {v:Value} (h:SlP base d w ps v):Lies (d+1) w (ps.map (·.1)) v:=by
 obtain⟨a,c,rfl,h1,h2,h3,h4⟩:=h
 by_cases hne:ps=[]
 ·subst hne
  exact⟨a,c,rfl,by simp,fun h=>absurd rfl h⟩
 ·obtain⟨b,o,rfl,_,hr⟩:=h3 hne
  exact lies_of_row hr h4 h2 h1
theorem SlP.of_own {w:World} {base d:Nat} {v:Value} {n:Nat} {ps:List (VT×Value)} (hn:n=ps.length) (h:w.ownsRow base 27 4 v n (ps.flatMap encP)) (hs:∀p∈ps,Sound d w p) (hl:ps.length≤9223372036854775807):SlP base d w ps v:=by
 subst hn
 by_cases hne:ps=[]
 ·subst hne
  rcases h.2 with ⟨rfl,_⟩|⟨g,cap,cur,rfl,_⟩
  ·exact⟨none,0,rfl,by simp,by simp,(fun h=>absurd rfl h),hs⟩
  ·exact⟨_,cap,rfl,by simp,by simp,(fun h=>absurd rfl h),hs⟩
 ·obtain⟨g,cap,rfl,hb,hcap,_,hrow,_⟩:=own_row h hne
  exact⟨_,cap,rfl,hcap,hl,(fun _=>⟨g,0,rfl,hb,hrow⟩),hs⟩
theorem SlP.slice {base d:Nat} {w:World} {ps:List (VT×Value)} {v:Value} (h:SlP base d w ps v):∃a c,v=.slice a ps.length c∧ps.length≤c:=by
 obtain⟨a,c,hv,h1,_⟩:=h
 exact⟨a,c,hv,h1⟩
end Go.Proofs.YtcflooaoocngdaaGreat
