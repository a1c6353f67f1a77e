import Derived.Test.YtcflooaoocngdaaGreatStabP
import Derived.Test.YtcflooaoocngdaaGreatAppRow
namespace Go.Proofs.YtcflooaoocngdaaGreat
open Go.RowKit
set_option maxRecDepth 100000 in
theorem infoQ:∃i0,Tryz.prog.info? 52=some i0∧i0.zero=some (.agg #[.int .i64 0,.int .i64 0,.string ⟨#[]⟩,.slice none 0 0,.int .i64 0,.int .i64 0,.string ⟨#[]⟩,.slice none 0 0])∧i0.size=8∧i0.bytes=112:=by
 refine⟨_,rfl,?_,?_,?_⟩
 all_goals kernel_rfl
theorem flat_lenQ (qs:List PP):(qs.flatMap encQ).length=qs.length*8:=by
 induction qs with
 | nil=>rfl
 | cons p qs ih=>rw [List.flatMap_cons,List.length_append,ih,zas,List.length_cons];omega
theorem flat_atQ:∀(qs:List PP) (i r:Nat) (h:i<qs.length),r<8→(qs.flatMap encQ)[i*8+r]? = (encQ qs[i])[r]?:=by
 intro qs
 induction qs with
 | nil=>intro i r h;cases h
 | cons p qs ih=>
  intro i r h hr
  rw [List.flatMap_cons]
  cases i with
  | zero=>rw [List.getElem?_append_left (by rw [zas];omega)];simp
  | succ i=>
   rw [List.getElem?_append_right (by rw [zas];omega)]
   have e:(i+1)*8+r-(encQ p).length=i*8+r:=by rw [zas];omega
   rw [e,ih i r (by simpa using h) hr];rfl
def QAt (w:World) (b o:Nat) (qs:List PP):Prop:=∀j u,(qs.flatMap encQ)[j]? = some u→w.cell? ⟨b,o+j,none⟩=some u
theorem QAt.keeps {w w':World} {b o:Nat} {qs:List PP} (h:QAt w b o qs) (hb:Below w.heap.size w w'):QAt w' b o qs:=fun j u hj=>zaa hb (h j u hj)
theorem QAt.nth {w:World} {b o:Nat} {qs:List PP} (h:QAt w b o qs) (i:Nat) (hi:i<qs.length) (r:Nat) (hr:r<8):w.cell? ⟨b,o+(i*8+r),none⟩=some ((encQ qs[i])[r]'(by rw [zas];exact hr)):=by
 refine h _ _ ?_
 rw [flat_atQ qs i r hi hr,List.getElem?_eq_getElem]
def Eight (w:World) (b o:Nat) (p:PP):Prop:=
 w.cell? ⟨b,o,none⟩=some (.int .i64 p.1.1.kind)∧w.cell? ⟨b,o+1,none⟩=some (.int .i64 p.1.1.num)∧w.cell? ⟨b,o+2,none⟩=some (.string p.1.1.text)∧w.cell? ⟨b,o+3,none⟩=some p.1.2∧
 w.cell? ⟨b,o+4,none⟩=some (.int .i64 p.2.1.kind)∧w.cell? ⟨b,o+5,none⟩=some (.int .i64 p.2.1.num)∧w.cell? ⟨b,o+6,none⟩=some (.string p.2.1.text)∧w.cell? ⟨b,o+7,none⟩=some p.2.2
theorem Eight.keeps {w w':World} {b o:Nat} {p:PP} (h:Eight w b o p) (hb:Below w.heap.size w w'):Eight w' b o p:=by
 obtain⟨h0,h1,h2,h3,h4,h5,h6,h7⟩:=h
 exact⟨zaa hb h0,zaa hb h1,zaa hb h2,zaa hb h3,zaa hb h4,zaa hb h5,zaa hb h6,zaa hb h7⟩
theorem QAt.at {w:World} {b o:Nat} {qs:List PP} (h:QAt w b o qs) (i:Nat) (hi:i<qs.length):Eight w b (o+i*8) qs[i]:=by
 have e:∀r (hr:r<8),w.cell? ⟨b,o+i*8+r,none⟩=some ((encQ qs[i])[r]'(by rw [zas];exact hr)):=fun r hr=>by
  rw [Nat.add_assoc];exact h.nth i hi r hr
 exact⟨e 0 (by omega),e 1 (by omega),e 2 (by omega),e 3 (by omega),e 4 (by omega),e 5 (by omega),e 6 (by omega),e 7 (by omega)⟩
theorem encQ_one {d:Nat} {w:World} {p:PP} (h:GoodQ d w p):∀v∈encQ p,v.oneCell'=true:=by
 intro v hv
 rcases List.mem_append.1 hv with hv|hv
 ·exact encP_one h.1 v hv
 ·exact encP_one h.2 v hv
theorem own_rowQ {w:World} {base:Nat} {v:Value} {qs:List PP} (h:w.ownsRow base 52 8 v qs.length (qs.flatMap encQ)) (hne:qs≠[]) :
 ∃g cap,v=.slice (some ⟨g,0,none⟩) qs.length cap∧base≤g∧qs.length≤cap∧g<w.heap.size∧QAt w g 0 qs∧∀k,w.frozen? ⟨g,k,none⟩=false:=by
 rcases h.2 with ⟨_,h0⟩|⟨g,cap,cur,hv,hbs,hg,hcap,_,hsz,htk⟩
 ·exact absurd (List.eq_nil_of_length_eq_zero h0) hne
 ·have hlt:g<w.heap.size:=by
   by_cases hl:g<w.heap.size
   ·exact hl
   ·rw [Array.getElem?_eq_none (by omega)] at hg;cases hg
  refine⟨g,cap,hv,hbs,hcap,hlt,fun j u hj=>?_,fun k=>?_⟩
  ·rw [←htk] at hj
   unfold World.cell?
   rw [hg]
   simp only [Nat.zero_add]
   rw [List.getElem?_take] at hj
   split at hj
   ·simpa using hj
   ·cases hj
  ·unfold World.frozen?
   rw [hg]
   simp
def SlQ (base d:Nat) (w:World) (qs:List PP) (v:Value):Prop:=
 ∃a c,v=.slice a qs.length c∧qs.length≤c∧qs.length≤9223372036854775807∧(qs≠[]→∃b o,a=some ⟨b,o,none⟩∧base≤b∧QAt w b o qs)∧∀p∈qs,GoodQ d w p
theorem SlQ.keeps {base d:Nat} {w w':World} {qs:List PP} {v:Value} (h:SlQ base d w qs v) (hb:Below w.heap.size w w'):SlQ base d w' qs v:=by
 obtain⟨a,c,hv,h1,h2,h3,h4⟩:=h
 refine⟨a,c,hv,h1,h2,fun hne=>?_,fun p hp=>(h4 p hp).keeps hb⟩
 obtain⟨b,o,ha,hbb,hr⟩:=h3 hne
 exact⟨b,o,ha,hbb,hr.keeps hb⟩
theorem SlQ.mono {base base' d:Nat} {w:World} {qs:List PP} {v:Value} (h:SlQ base d w qs v) (hb:base'≤base):SlQ base' d w qs v:=by
 obtain⟨a,c,hv,h1,h2,h3,h4⟩:=h
 refine⟨a,c,hv,h1,h2,fun hne=>?_,h4⟩
 obtain⟨b,o,ha,hbb,hr⟩:=h3 hne
 exact⟨b,o,ha,by omega,hr⟩
theorem SlQ.slice {base d:Nat} {w:World} {qs:List PP} {v:Value} (h:SlQ base d w qs v):∃a c,v=.slice a qs.length c∧qs.length≤c:=by
 obtain⟨a,c,hv,h1,_⟩:=h
 exact⟨a,c,hv,h1⟩
theorem SlQ.good {base d:Nat} {w:World} {qs:List PP} {v:Value} (h:SlQ base d w qs v):∀p∈qs,GoodQ d w p:=by
 obtain⟨a,c,hv,h1,h2,h3,h4⟩:=h
 exact h4
theorem SlQ.full {base d:Nat} {w:World} {qs:List PP} {v:Value} (h:SlQ base d w qs v) (hne:qs≠[]):∃b o c,v=.slice (some ⟨b,o,none⟩) qs.length c∧qs.length≤c∧QAt w b o qs∧∀p∈qs,GoodQ d w p:=by
 obtain⟨a,c,hv,h1,_,h3,h4⟩:=h
 obtain⟨b,o,ha,_,hr⟩:=h3 hne
 exact⟨b,o,c,by rw [hv,ha],h1,hr,h4⟩
theorem SlQ.of_own {w:World} {base d:Nat} {v:Value} {n:Nat} {qs:List PP} (hn:n=qs.length) (h:w.ownsRow base 52 8 v n (qs.flatMap encQ)) (hs:∀p∈qs,GoodQ d w p) (hl:qs.length≤9223372036854775807):SlQ base d w qs v:=by
 subst hn
 by_cases hne:qs=[]
 ·subst hne
  rcases h.2 with ⟨rfl,_⟩|⟨g,cap,cur,rfl,_⟩
  ·exact⟨none,0,rfl,by simp,by simp,(fun h=>absurd rfl h),hs⟩
  ·exact⟨_,cap,rfl,by simp,by simp,(fun h=>absurd rfl h),hs⟩
 ·obtain⟨g,cap,rfl,hb,hcap,_,hrow,_⟩:=own_rowQ h hne
  exact⟨_,cap,rfl,hcap,hl,(fun _=>⟨g,0,rfl,hb,hrow⟩),hs⟩
end Go.Proofs.YtcflooaoocngdaaGreat
