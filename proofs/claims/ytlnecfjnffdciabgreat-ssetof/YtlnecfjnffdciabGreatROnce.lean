import Derived.Test.YtlnecfjnffdciabGreatRSorted
import Derived.Test.YtlnecfjnffdciabGreatOnceP
import Derived.Test.YtlnecfjnffdciabGreatRotate
namespace Go.Proofs.YtlnecfjnffdciabGreat
open Go.RowKit
def eqQ (d:Nat) (x y:PR):Bool:=cmpV d x.1 y.1==0
def cont (d:Nat):Option PR→List PR→List PR
 | none,l=>once (eqQ d) l
 | some p,l=>zar (eqQ d) p l
theorem cont_keep (d:Nat) (o:Option PR) (x:PR) (l:List PR) (h:∀p,o=some p→cmpV d p.1 x.1≠0):cont d o (x::l)=x::cont d (some x) l:=by
 cases o with
 | none=>rfl
 | some p=>
  have:=h p rfl
  show zar _ p (x::l)=_
  conv=>lhs;unfold zar
  rw [if_neg (by simpa [eqQ] using this)]
  rfl
theorem cont_pass (d:Nat) (p x:PR) (l:List PR) (h:cmpV d p.1 x.1=0):cont d (some p) (x::l)=cont d (some p) l:=by
 show zar _ p (x::l)=_
 conv=>lhs;unfold zar
 rw [if_pos (by simpa [eqQ] using h)]
 rfl
theorem cont_nil (d:Nat) (o:Option PR):cont d o []=[]:=by cases o <;> rfl
theorem onceFrom_mem (g:PR→PR→Bool):∀(l:List PR) (p x:PR),x∈zar g p l→x∈l:=by
 intro l
 induction l with
 | nil=>intro p x h;cases h
 | cons y l ih=>
  intro p x h
  unfold zar at h
  split at h
  ·exact List.mem_cons_of_mem _ (ih p x h)
  ·rcases List.mem_cons.1 h with rfl|h
   ·exact List.mem_cons_self
   ·exact List.mem_cons_of_mem _ (ih y x h)
theorem once_mem (g:PR→PR→Bool) (l:List PR) (x:PR) (h:x∈once g l):x∈l:=by
 cases l with
 | nil=>cases h
 | cons y l=>
  rcases List.mem_cons.1 h with rfl|h
  ·exact List.mem_cons_self
  ·exact List.mem_cons_of_mem _ (onceFrom_mem g l y x h)
structure Onc (d:Nat) (w:World) (R l:List PR) (wr:World) (j no:Nat) (vo:Value) (ds:List PR):Prop where
 eo:no=ds.length
 le:no≤j
 eq:ds++cont d ds.getLast? (l.drop j)=R
 own:wr.ownsRow w.heap.size 33 4 vo no (ds.flatMap encP)
 gd:∀p∈ds,Sound d w p
 below:Below w.heap.size w wr
theorem Onc.keep {d:Nat} {w:World} {R l:List PR} {wr:World} {j no:Nat} {vo:Value} {ds:List PR} (h:Onc d w R l wr j no vo ds) (hj:j<l.length) (hg:Sound d w l[j]) (hc:∀p,ds.getLast? = some p→cmpV d p.1 l[j].1≠0)
 (v':Value) (W:World) (hown:W.ownsRow w.heap.size 33 4 v' (no+1) ((ds++[l[j]]).flatMap encP)) (hb:Below w.heap.size w W):Onc d w R l W (j+1) (no+1) v' (ds++[l[j]]):=by
 refine⟨by simp [h.eo],by have:=h.le;omega,?_,hown,fun p hp=>?_,hb⟩
 ·have he:=h.eq
  rw [List.drop_eq_getElem_cons hj,cont_keep d _ _ _ hc] at he
  rw [←he];simp
 ·rcases List.mem_append.1 hp with hp|hp
  ·exact h.gd p hp
  ·rw [List.mem_singleton.1 hp];exact hg
theorem Onc.pass {d:Nat} {w:World} {R l:List PR} {wr:World} {j no:Nat} {vo:Value} {ds:List PR} (h:Onc d w R l wr j no vo ds) (hj:j<l.length) (p:PR) (hp:ds.getLast? = some p) (hc:cmpV d p.1 l[j].1=0)
 (W:World) (hown:W.ownsRow w.heap.size 33 4 vo no (ds.flatMap encP)) (hb:Below w.heap.size w W):Onc d w R l W (j+1) no vo ds:=by
 refine⟨h.eo,by have:=h.le;omega,?_,hown,h.gd,hb⟩
 have he:=h.eq
 rw [List.drop_eq_getElem_cons hj,hp,cont_pass d p _ _ hc] at he
 rw [hp]
 exact he
theorem own_last {d:Nat} {w wr:World} {base no:Nat} {vo:Value} {ds:List PR} (h:wr.ownsRow base 33 4 vo no (ds.flatMap encP)) (hn:no=ds.length) (h0:no≠0) (hg:∀p∈ds,Sound d w p) :
 ∃g cap s ay cy,vo=.slice (some ⟨g,0,none⟩) no cap∧base≤g∧no≤cap∧g<wr.heap.size∧ds.getLast? = some (s,.slice ay s.items.length cy)∧Lies d w s.items (.slice ay s.items.length cy)∧
  wr.cell? ⟨g,(no-1)*4,none⟩=some (.int .i64 s.kind)∧wr.cell? ⟨g,(no-1)*4+1,none⟩=some (.int .i64 s.num)∧wr.cell? ⟨g,(no-1)*4+2,none⟩=some (.string s.text)∧wr.cell? ⟨g,(no-1)*4+3,none⟩=some (.slice ay s.items.length cy):=by
 subst hn
 have hne:ds≠[]:=fun e=>h0 (by rw [e];rfl)
 obtain⟨g,cap,hv,hg1,hg2,hg3,hrow,_⟩:=own_row h hne
 have hl:ds.length-1<ds.length:=by omega
 obtain⟨q0,q1,q2,q3⟩:=hrow (ds.length-1) hl
 have gl:=hg ds[ds.length-1] (List.getElem_mem _)
 obtain⟨ay,cy,hyv,_⟩:=Lies.slice gl.1
 simp only [Nat.zero_add] at q0 q1 q2 q3
 refine⟨g,cap,ds[ds.length-1].1,ay,cy,hv,hg1,hg2,hg3,?_,by rw [←hyv];exact gl.1,q0,q1,q2,by rw [←hyv];exact q3⟩
 rw [List.getLast?_eq_getElem?,List.getElem?_eq_getElem hl,←hyv]
set_option maxRecDepth 100000 in
set_option maxHeartbeats 8000000 in
theorem ronce_any (d:Nat) (l:List PR) (u:Value) (w:World) (hu:SlP 0 d w l u) (hlen:l.length≤65536) :
 Calls Tryz.prog 126 #[u] w fun e w'=>∃v,e=.returned v∧SlP w.heap.size d w' (once (eqQ d) l) v∧Below w.heap.size w w':=by
 obtain⟨a,c,rfl,_,_,hr0,hs0⟩:=hu
 have Hr:Hid (l≠[]→∃b o,a=some ⟨b,o,none⟩∧0≤b∧RowAt w b o l):=hr0
 have Hs:Hid (∀p∈l,Sound d w p):=hs0
 clear hr0 hs0
 obtain⟨i0,hi,hz0,hz1,hz2⟩:=info24
 have Hi:Hid _:=hi;have Hz0:Hid _:=hz0;have Hz1:Hid _:=hz1;have Hz2:Hid _:=hz2
 clear hi hz0 hz1 hz2
 have HB0:Hid (Onc d w (once (eqQ d) l) l w 0 0 (.slice none 0 0) []):=⟨rfl,Nat.le_refl _,rfl,World.ownsRow_nil _ _ _ _,(fun p hp=>by cases hp),Below.refl _ _⟩
 have Hc:Hid _:=fun (t s:VT) (x y:Value) (W:World) h1 h2=>ref_any d t s x y W h1 h2
 generalize once (eqQ d) l=R at *
 go_enter Tryz.func126,Tryz.ntmps126
 go_wp2_with fail
 go_loopg [3,9] l.length (fun z vo i wr=>∃(j no:Nat) (ds:List PR),i=.int .i64 (j:Int)∧j≤l.length∧z=l.length-j∧Hid (Onc d w R l wr j no vo ds))
 case atStart=>exact⟨0,0,[],rfl,by omega,by omega,HB0⟩
 case round=>
  obtain⟨j,no,ds,rfl,hj,hk,HM⟩:=hrel
  have Hk:Hid _:=hk
  clear hk HB0
  have hbw:=HM.out.below
  have hwl:=hbw.size
  have hno:no≤j:=HM.out.le
  by_cases hlt:j<l.length
  ·obtain⟨b1,o1,rfl,_,hall1⟩:=Hr.out (by intro e;simp [e] at hlt)
   obtain⟨p0,p1,p2,p3⟩:=hall1 j hlt
   clear hall1
   have gx:=Hs.out l[j] (List.getElem_mem hlt)
   have HN:Hid ((∀p,ds.getLast? = some p→cmpV d p.1 l[j].1≠0)→∀(v':Value) (W:World),W.ownsRow w.heap.size 33 4 v' (no+1) ((ds++[l[j]]).flatMap encP)→Below w.heap.size w W→Onc d w R l W (j+1) (no+1) v' (ds++[l[j]])):=fun hcc v' W h1 h2=>HM.out.keep hlt gx hcc v' W h1 h2
   have HP:Hid (∀p,ds.getLast? = some p→cmpV d p.1 l[j].1=0→∀W,W.ownsRow w.heap.size 33 4 u3 no (ds.flatMap encP)→Below w.heap.size w W→Onc d w R l W (j+1) no u3 ds):=fun p h1 h2 W h3 h4=>HM.out.pass hlt p h1 h2 W h3 h4
   generalize l[j]=tx at *
   obtain⟨t,xv⟩:=tx
   obtain⟨ax,cx,hxv,_⟩:=Lies.slice gx.1
   simp only at hxv p0 p1 p2 p3
   subst hxv
   have p0:=zaa hbw p0;have p1:=zaa hbw p1;have p2:=zaa hbw p2;have p3:=zaa hbw p3
   have HL:Hid (Lies d w t.items (.slice ax t.items.length cx)):=gx.1
   have hb1l:b1<wr.heap.size:=zac p0
   have Hown0:Hid (wr.ownsRow w.heap.size 33 4 u3 no (ds.flatMap encP)):=HM.out.own
   have Hds:Hid (no=ds.length∧∀p∈ds,Sound d w p):=⟨HM.out.eo,HM.out.gd⟩
   clear HM gx
   have HBX:Hid (Bx (wr.alloc (.cells #[.int .i64 t.kind,.int .i64 t.num,.string t.text,.slice ax t.items.length cx] 33)) wr.heap.size t (.slice ax t.items.length cx)):=zan wr t _
   have hbA:Below w.heap.size w (wr.alloc (.cells #[.int .i64 t.kind,.int .i64 t.num,.string t.text,.slice ax t.items.length cx] 33)):=hbw.alloc hwl _
   have HownA:Hid ((wr.alloc (.cells #[.int .i64 t.kind,.int .i64 t.num,.string t.text,.slice ax t.items.length cx] 33)).ownsRow w.heap.size 33 4 u3 no (ds.flatMap encP)):=Hown0.out.alloc _
   by_cases h0:no=0
   ·have hv3:∃a3 c3,u3=.slice a3 0 c3:=by
     rcases Hown0.out.2 with ⟨e,_⟩|⟨g,cap,cur,e,_⟩
     ·exact⟨_,_,e⟩
     ·exact⟨_,cap,by rw [e,h0]⟩
    obtain⟨a3,c3,rfl⟩:=hv3
    have HN1:Hid _:=HN.out (fun p hp=>by
     have:ds=[]:=List.eq_nil_of_length_eq_zero (by have:=Hds.out.1;omega)
     rw [this] at hp;cases hp)
    clear HN HP Hds
    subst h0
    go_wp2_with fail
    go_region
    have hbW:Below w.heap.size w (wr.alloc (.cells #[.int .i64 t.kind,.int .i64 t.num,.string t.text,.slice ax t.items.length cx] 33)).drew:=hbA.drew
    have Hown:Hid ((wr.alloc (.cells #[.int .i64 t.kind,.int .i64 t.num,.string t.text,.slice ax t.items.length cx] 33)).drew.ownsRow w.heap.size 33 4 (.slice a3 0 c3) 0 (ds.flatMap encP)):=za4 HownA.out (Grew.refl _).drew.below
    go_wp2_with (first
     | (at_builtin;refine wpList_append_own _ rfl _ _ 22 rfl w.heap.size 33 i0 (.agg #[.int .i64 0,.int .i64 0,.string ⟨#[]⟩,.slice none 0 0]) 4 56 Tryz.underlying22 Hi.out Hz0.out Hz1.out Hz2.out rfl (by decide) _ _ _ rfl (Hown.out.alloc _) ⟨wr.heap.size+1,0,none⟩ 1 1 [.int .i64 t.kind,.int .i64 t.num,.string t.text,.slice ax t.items.length cx] rfl rfl (fun q u hq=>by match q,hq with|0,hq=>(simp at hq;subst hq;simp [Addr.add])|1,hq=>(simp at hq;subst hq;simp [Addr.add])|2,hq=>(simp at hq;subst hq;simp [Addr.add])|3,hq=>(simp at hq;subst hq;simp [Addr.add])|q+4,hq=>simp at hq) (fun u hu=>by simp at hu;rcases hu with rfl|rfl|rfl|rfl <;> rfl) (by unfold maxLen;omega) (by omega) (by simp;omega) ?_;intro v' w9 hown' hgrow _))
    have hb9:Below w.heap.size w w9:=zah (hbW.alloc (by simp;omega) _) (by simp;omega) (Hown.out.alloc _) hgrow
    have HN3:Hid _:=HN1.out v' w9 (by simpa [encP,List.flatMap_append] using hown') hb9
    clear hown' hgrow Hown HN1
    go_wp2_with fail
    go_roundg (l.length-(j+1))
    case measure=>have:=Hk.out;omega
    case rel=>exact⟨j+1,0+1,_,by go_num,by omega,rfl,HN3⟩
   ·obtain⟨g,cap,s,ay,cy,rfl,hg1,hg2,hg3,hlast,hly,q0,q1,q2,q3⟩:=own_last Hown0.out Hds.out.1 h0 Hds.out.2
    have HY:Hid (Lies d w s.items (.slice ay s.items.length cy)):=hly
    have HN1:Hid (cmpV d s t≠0→_):=fun hc=>HN.out (fun p hp=>by rw [hlast] at hp;injection hp with hp;rw [←hp];exact hc)
    have HP1:Hid (cmpV d s t=0→_):=fun hc=>HP.out _ hlast hc
    clear HN HP hly hlast
    have hnz : ¬((no:Nat):Int)=0:=by omega
    have hnz':(((no:Nat):Int)==0)=false:=by simpa using hnz
    obtain⟨m,hm⟩:∃m,m=no-1:=⟨_,rfl⟩
    rw [←hm] at q0 q1 q2 q3
    have hsub:IntKind.i64.wrap ((no:Int)-1)=(m:Int):=by rw [IntKind.wrap_i64];omega
    have hm1:m<no:=by omega
    have hm1':(m:Int)<(no:Nat):=by omega
    have hm0:(0:Int)≤(m:Nat):=by omega
    clear hm
    obtain⟨x0,x1,x2,x3,_,_,_,_⟩:=HBX.out
    have hbA':Below wr.heap.size wr (wr.alloc (.cells #[.int .i64 t.kind,.int .i64 t.num,.string t.text,.slice ax t.items.length cx] 33)):=(Below.refl wr.heap.size wr).alloc (Nat.le_refl _) _
    have q0:=zaa hbA' q0;have q1:=zaa hbA' q1;have q2:=zaa hbA' q2;have q3:=zaa hbA' q3
    go_wp2_with fail
    go_region_held3 (fun w'=>(w'.cell? ⟨g,m*4,none⟩=some (.int .i64 s.kind)∧w'.cell? ⟨g,m*4+1,none⟩=some (.int .i64 s.num)∧w'.cell? ⟨g,m*4+2,none⟩=some (.string s.text)∧w'.cell? ⟨g,m*4+3,none⟩=some (.slice ay s.items.length cy))
     ∧(w'.cell? ⟨wr.heap.size,0,none⟩=some (.int .i64 t.kind)∧w'.cell? ⟨wr.heap.size,1,none⟩=some (.int .i64 t.num)∧w'.cell? ⟨wr.heap.size,2,none⟩=some (.string t.text)∧w'.cell? ⟨wr.heap.size,3,none⟩=some (.slice ax t.items.length cx))) (go_keep)
     (first|(go_at_call 146;refine (Hc.out s t _ _ _ (Lies.keeps hbA.drew _ _ _ HY.out) (Lies.keeps hbA.drew _ _ _ HL.out)).mono ?_;rintro e WW ⟨rfl,hg1'⟩;have hb1':Below _ _ WW:=(Below.refl _ _).drew.trans hg1';have hbW:Below w.heap.size w WW:=hbA.trans (hb1'.mono (by simp;omega));clear hg1';have q0:=zaa hb1' q0;have q1:=zaa hb1' q1;have q2:=zaa hb1' q2;have q3:=zaa hb1' q3;have x0:=zaa hb1' x0;have x1:=zaa hb1' x1;have x2:=zaa hb1' x2;have x3:=zaa hb1' x3))
    have Hown:Hid (WW.ownsRow w.heap.size 33 4 (.slice (some ⟨g,0,none⟩) no cap) no (ds.flatMap encP)):=za4 HownA.out hb1'
    have hwW:=hbW.size
    have hwR:wr.heap.size<WW.heap.size:=zac x0
    generalize cmpV d s t=Z at *
    clear hb1'
    by_cases hz:Z=0
    ·have HN3:Hid _:=HP1.out hz _ Hown.out hbW
     clear HP1 HN1 Hown
     go_wp2_with fail
     go_roundg (l.length-(j+1))
     case measure=>have:=Hk.out;omega
     case rel=>exact⟨j+1,no,_,by go_num,by omega,rfl,HN3⟩
    ·have HN2:Hid _:=HN1.out hz
     clear HP1 HN1
     go_wp2_with (first
      | (at_builtin;refine wpList_append_own _ rfl _ _ 22 rfl w.heap.size 33 i0 (.agg #[.int .i64 0,.int .i64 0,.string ⟨#[]⟩,.slice none 0 0]) 4 56 Tryz.underlying22 Hi.out Hz0.out Hz1.out Hz2.out rfl (by decide) _ _ _ rfl (Hown.out.alloc _) ⟨WW.heap.size,0,none⟩ 1 1 [.int .i64 t.kind,.int .i64 t.num,.string t.text,.slice ax t.items.length cx] rfl rfl (fun q u hq=>by match q,hq with|0,hq=>(simp at hq;subst hq;simp [Addr.add])|1,hq=>(simp at hq;subst hq;simp [Addr.add])|2,hq=>(simp at hq;subst hq;simp [Addr.add])|3,hq=>(simp at hq;subst hq;simp [Addr.add])|q+4,hq=>simp at hq) (fun u hu=>by simp at hu;rcases hu with rfl|rfl|rfl|rfl <;> rfl) (by unfold maxLen;omega) (by omega) (by simp;omega) ?_;intro v' w9 hown' hgrow _))
     have hb9:Below w.heap.size w w9:=zah (hbW.alloc hwW _) (by simp;omega) (Hown.out.alloc _) hgrow
     have HN3:Hid _:=HN2.out v' w9 (by simpa [encP,List.flatMap_append] using hown') hb9
     clear hown' hgrow Hown HN2
     go_wp2_with fail
     go_roundg (l.length-(j+1))
     case measure=>have:=Hk.out;omega
     case rel=>exact⟨j+1,no+1,_,by go_num,by omega,rfl,HN3⟩
  ·have hfin:R=ds:=by
    have:=HM.out.eq
    rw [List.drop_eq_nil_of_le (by omega),cont_nil,List.append_nil] at this
    exact this.symm
   have HL:Hid (SlP w.heap.size d wr R u3):=by
    rw [hfin]
    exact SlP.of_own HM.out.eo HM.out.own (fun p hp=>(HM.out.gd p hp).keeps hbw) (by have:=HM.out.eo;omega)
   clear HM hfin
   go_wp2_with fail
   go_ret
   exact⟨_,rfl,HL.out,hbw⟩
end Go.Proofs.YtlnecfjnffdciabGreat

