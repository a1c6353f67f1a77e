import Derived.Test.YtlnecfjnffdciacGreatAppRow
import Derived.Test.YtlnecfjnffdciacGreatLook
set_option maxRecDepth 100000
set_option maxHeartbeats 4000000
namespace Go.Proofs.YtlnecfjnffdciacGreat
open Go.RowKit Go.Shelf
theorem GoodM.slice {w:World} {p:MB} (h:GoodM w p):∃a l c,p.u=.slice a l c:=by
 obtain⟨a,c,e,_⟩:=Lies.slice h.lies
 exact⟨a,_,c,e⟩
theorem encM_one {p:MB} (h:∃a l c,p.u=.slice a l c):∀v∈encM p,v.oneCell'=true:=by
 obtain⟨a,l,c,e⟩:=h
 intro v hv
 simp [encM] at hv
 rcases hv with rfl|rfl|rfl|rfl|rfl
 ·rfl
 ·rfl
 ·rfl
 ·rw [e];rfl
 ·rfl
theorem flatM_len (ps:List MB):(ps.flatMap encM).length=ps.length*5:=by
 induction ps with
 | nil=>rfl
 | cons p ps ih=>rw [List.flatMap_cons,List.length_append,ih,List.length_cons];simp [encM];omega
theorem flatM_at:∀(ps:List MB) (i r:Nat) (h:i<ps.length),r<5→(ps.flatMap encM)[i*5+r]? = (encM ps[i])[r]?:=by
 intro ps
 induction ps with
 | nil=>intro i r h;cases h
 | cons p ps ih=>
  intro i r h hr
  rw [List.flatMap_cons]
  cases i with
  | zero=>
   rw [List.getElem?_append_left (by simp [encM];omega)];simp
  | succ i=>
   rw [List.getElem?_append_right (by simp [encM];omega)]
   have e:(i+1)*5+r-(encM p).length=i*5+r:=by simp [encM];omega
   rw [e,ih i r (by simpa using h) hr];rfl
theorem RowM.flat {w:World} {b o:Nat} {ps:List MB} (h:RowM w b o ps):∀j u,(ps.flatMap encM)[j]? = some u→w.cell? ⟨b,o+j,none⟩=some u:=by
 intro j u hj
 have hlt:j<(ps.flatMap encM).length:=by
  by_cases hl:j<(ps.flatMap encM).length
  ·exact hl
  ·rw [List.getElem?_eq_none (by omega)] at hj;cases hj
 rw [flatM_len] at hlt
 have hi:j / 5<ps.length:=by omega
 have hr:j % 5<5:=by omega
 have hjj:j=j / 5*5+j % 5:=by omega
 rw [hjj,flatM_at ps (j / 5) (j % 5) hi hr] at hj
 obtain⟨k0,k1,k2,k3,k4⟩:=h (j / 5) hi
 generalize hq:j / 5=q at *
 generalize hm:j % 5=m at *
 rw [hjj]
 clear hjj hlt
 match m,hr with
 | 0,_=>simp [encM] at hj;subst hj;rw [Nat.add_zero];exact k0
 | 1,_=>simp [encM] at hj;subst hj;rw [←Nat.add_assoc];exact k1
 | 2,_=>simp [encM] at hj;subst hj;rw [←Nat.add_assoc];exact k2
 | 3,_=>simp [encM] at hj;subst hj;rw [←Nat.add_assoc];exact k3
 | 4,_=>simp [encM] at hj;subst hj;rw [←Nat.add_assoc];exact k4
theorem RowM.of_flat {w:World} {b o:Nat} {ps:List MB} (h:∀j u,(ps.flatMap encM)[j]? = some u→w.cell? ⟨b,o+j,none⟩=some u):RowM w b o ps:=by
 intro i hi
 refine⟨h (i*5+0) _ ?_,h (i*5+1) _ ?_,h (i*5+2) _ ?_,h (i*5+3) _ ?_,h (i*5+4) _ ?_⟩
 all_goals (rw [flatM_at ps i _ hi (by omega)];rfl)
theorem RowM.drop {w:World} {b o:Nat} {ps:List MB} (h:RowM w b o ps) (m:Nat):RowM w b (o+m*5) (ps.drop m):=by
 intro i hi
 have h1:m+i<ps.length:=by simp at hi;omega
 have:=h (m+i) h1
 simp only [List.getElem_drop]
 rw [show o+m*5+i*5=o+(m+i)*5 by omega]
 exact this
theorem RowM.take {w:World} {b o:Nat} {ps:List MB} (h:RowM w b o ps) (m:Nat):RowM w b o (ps.take m):=by
 intro i hi
 have h1:i<ps.length:=by simp at hi;omega
 have:=h i h1
 simp only [List.getElem_take]
 exact this
theorem own_rowM {w:World} {base ty:Nat} {g n cap:Nat} {ps:List MB} (h:w.ownsRow base ty 5 (.slice (some ⟨g,0,none⟩) n cap) n (ps.flatMap encM)):RowM w g 0 ps∧n≤cap:=by
 rcases h.2 with ⟨hv,_⟩|⟨g',cap',cur,hv,_,_,hcap,_⟩
 ·cases hv
 ·injection hv with h1 h2 h3
  subst h3
  refine⟨RowM.of_flat fun j u hj=>?_,hcap⟩
  have:=h.cells (g:=g) rfl j u hj
  rwa [add_addr5] at this
end Go.Proofs.YtlnecfjnffdciacGreat
namespace Go.Proofs.YtlnecfjnffdciacGreat
open Go.RowKit
theorem apart19 {w:World} {b1 b2 e1 e2 s1 s2 n1 n2:Nat} {v1 v2:Value} {x1 x2:List Value} (h1:w.ownsRow b1 e1 s1 v1 n1 x1) (h2:w.ownsRow b2 e2 s2 v2 n2 x2) (hne:e1≠e2):v1.ownBlock=none∨v1.ownBlock≠v2.ownBlock:=by
 rcases h1.2 with ⟨hv,_⟩|⟨g,cap,cur,hv,_,hg,_⟩
 ·rw [hv];exact .inl rfl
 ·rcases h2.2 with ⟨hv2,_⟩|⟨g2,cap2,cur2,hv2,_,hg2,_⟩
  ·rw [hv,hv2];exact .inr (fun e=>by cases e)
  ·refine .inr (fun e=>?_)
   rw [hv,hv2] at e
   simp only [Value.ownBlock,Option.some.injEq] at e
   subst e
   rw [hg] at hg2
   injection hg2 with hg2
   injection hg2 with _ hg2
   exact hne hg2
theorem wpList_append_ptrs {w:World} {ops:Array Oper} {rest:List Oper} {o:Oper} {a:Act} {Q:Exit→Act→World→Prop} (hgd:o.guard=none) (s x:Operand)
 (ho:o.op=.call { callee:=.builtin .append,args:=#[s,x],argTypes:=#[153,153] })
 (base b2:Nat) (v:Value) (ps:List (Option Addr)) (hs:a.eval s=v) (hown:w.ownsRow base 82 1 v ps.length (ps.map Value.pointer))
 (y:Value) (qs:List (Option Addr)) (hx:a.eval x=y) (hq:w.ownsRow b2 82 1 y qs.length (qs.map Value.pointer))
 (h63:ps.length+qs.length≤1000000) (hbase:base≤w.heap.size)
 (h:∀v' w',w'.ownsRow base 82 1 v' (ps++qs).length ((ps++qs).map Value.pointer)→w.grownBy w' v.ownBlock→wpList Tryz.prog ops Q rest (a.put o.dst v') w'):wpList Tryz.prog ops Q (o::rest) a w:=by
 obtain⟨i,hi,hz0,hz1,hz2⟩:=infoP19
 rcases hq.2 with ⟨hy,hm⟩|⟨g,cap,cur,hy,_⟩
 ·have hqs:qs=[]:=List.eq_nil_of_length_eq_zero hm
  subst hqs
  subst hy
  have hr:∀ty,(Builtin.append_ #[153,153] ty #[v,.slice none 0 0]).run Tryz.prog w=.ok v w:=fun ty=>by
   rcases hown.2 with ⟨rfl,h0⟩|⟨g,cap,cur,rfl,_,_,hnc,_⟩
   ·simp [Builtin.append_,run_underlying Tryz.underlying153,sizeOf,typeInfo,hi,Builtin.lenOf,Builtin.firstCells]
   ·simp [Builtin.append_,run_underlying Tryz.underlying153,sizeOf,typeInfo,hi,Builtin.lenOf,Builtin.firstCells,hnc,storeCells]
  refine Lib.wpList_append_run w hgd s x 153 153 ho v (.slice none 0 0) hs hx v w (hr _) (h v w (by simpa using hown) ⟨rfl,rfl,rfl,Nat.le_refl _,fun _ _ _=>rfl⟩)
 ·refine wpList_append_own w hgd s x 153 ho base 82 i (.pointer none) 1 8 Tryz.underlying153 hi hz0 hz1 hz2 rfl (by decide) v ps.length _ hs hown ⟨g,0,none⟩ qs.length cap (qs.map Value.pointer) (by rw [hx,hy]) (by simp) ?_ ?_ (by unfold maxLen;omega) (by omega) hbase (fun v' w' k1 k2 _=>h v' w' (by rw [List.length_append,List.map_append];exact k1) k2)
  ·intro j u hj
   have hne:qs.map Value.pointer≠[]:=by intro e;rw [e] at hj;simp at hj
   obtain⟨g',cap',hv',_,_,_,hrow⟩:=own_rowP (by rw [List.length_map]) hq hne
   rw [hy] at hv'
   injection hv' with e1
   injection e1 with e1
   injection e1 with e1
   subst e1
   have hjl:j<(qs.map Value.pointer).length:=by
    by_cases hl:j<(qs.map Value.pointer).length
    ·exact hl
    ·rw [List.getElem?_eq_none (by omega)] at hj;cases hj
   rw [List.getElem?_eq_getElem hjl] at hj
   injection hj with hj
   rw [add_addr5,Nat.zero_add,hrow j hjl,hj]
  ·intro u hu
   obtain⟨p,_,rfl⟩:=List.mem_map.1 hu
   rfl
structure ItS (X:Nat→Prop) (w wr:World) (I:List VT) (v3 v4:Value) (H:List HP) (ps:List (Option Addr)) (os:List (VT×Value)) (j:Nat):Prop where
 below:Below w.heap.size w wr
 own3:wr.ownsRow w.heap.size 82 1 v3 ps.length (ps.map Value.pointer)
 own4:wr.ownsRow w.heap.size 24 4 v4 os.length (os.flatMap encP)
 hps:Hps X w H ps
 its:∀p∈os,ItM X w p.1 p.2
 le:j≤H.length
 cnt:os.length=j
 perm:(os.map (·.1)++zal (H.drop j)).Perm I
theorem ItS.len {X:Nat→Prop} {w wr:World} {I:List VT} {v3 v4:Value} {H:List HP} {ps:List (Option Addr)} {os:List (VT×Value)} {j:Nat} (h:ItS X w wr I v3 v4 H ps os j):ps.length≤I.length∧os.length≤I.length:=by
 have e:=h.perm.length_eq
 rw [List.length_append,List.length_map] at e
 have e2:=itemsH_len (H.drop j)
 rw [List.length_drop] at e2
 have e3:=h.hps.len
 have e4:=h.cnt
 have e5:=h.le
 omega
def SlI (X:Nat→Prop) (w:World) (l:List VT) (v:Value):Prop:=∃ps:List (VT×Value),ps.map (·.1)=l∧SlP 0 16 w ps v∧∀p∈ps,ItM X w p.1 p.2
theorem SlI.lies {X:Nat→Prop} {w:World} {l:List VT} {v:Value} (h:SlI X w l v):Lies 17 w l v:=by
 obtain⟨ps,rfl,hs,_⟩:=h
 exact hs.lies
theorem SlI.right {X:Nat→Prop} {w:World} {l:List VT} {v:Value} (h:SlI X w l v):∀x∈l,zab 16 x=true:=by
 obtain⟨ps,rfl,_,hi⟩:=h
 intro x hx
 obtain⟨p,hp,rfl⟩:=List.mem_map.1 hx
 exact (hi p hp).right
theorem SlI.keeps {X:Nat→Prop} {w w':World} (hb:Below w.heap.size w w') {l:List VT} {v:Value} (h:SlI X w l v):SlI X w' l v:=by
 obtain⟨ps,hl,hs,hi⟩:=h
 exact⟨ps,hl,hs.keeps hb,fun p hp=>(hi p hp).keeps hb⟩
theorem SlI.of_liesX {X:Nat→Prop} {w:World} {l:List VT} {v:Value} (h:LiesX X 17 w l v) (hr:∀x∈l,zab 16 x=true):SlI X w l v:=by
 obtain⟨ps,hps,hlen,hs⟩:=SlP.of_lies h.lies
 refine⟨ps,hps,hs,fun p hp=>?_⟩
 have hpr:zab 16 p.1=true:=hr _ (by rw [←hps];exact List.mem_map_of_mem hp)
 refine⟨?_,hpr⟩
 obtain⟨i,hi,rfl⟩:=List.mem_iff_getElem.1 hp
 obtain⟨a,c,hv,_,hrow⟩:=h
 obtain⟨a2,c2,hv2,_,_,hrow2,_⟩:=hs
 have hne:l≠[]:=by intro e;rw [e] at hlen;simp at hlen;rw [hlen] at hi;simp at hi
 obtain⟨b,o,ha,_,hall⟩:=hrow hne
 obtain⟨b2,o2,ha2,_,hr2⟩:=hrow2 (by intro e;rw [e] at hi;simp at hi)
 have haa:a=a2:=by rw [hv2] at hv;injection hv with e;exact e.symm
 rw [ha,ha2] at haa
 injection haa with haa
 injection haa with e1 e2
 subst e1 e2
 have hil:i<l.length:=by omega
 obtain⟨u,_,_,_,k3,k4,_⟩:=hall i hil
 have k5:=(hr2 i hi).2.2.2
 rw [k3] at k5
 injection k5 with k5
 have e6:l[i]=ps[i].1:=by
  have:(ps.map (·.1))[i]'(by rw [List.length_map];exact hi)=ps[i].1:=List.getElem_map ..
  rw [←this]
  congr 1
  exact hps.symm
 rw [e6,k5] at k4
 exact k4
def ItPost19 (X:Nat→Prop) (I:List VT) (w:World) (e:Ending) (w':World):Prop:=
 Below w.heap.size w w'∧∃v l,e=.returned v∧SlI X w' l v∧l.Perm I
theorem items_nil19 (w:World):Calls Tryz.prog 53 #[.pointer none] w fun e w'=>e=.returned (.slice none 0 0)∧w'=w:=by
 go_enter Tryz.func53,Tryz.ntmps53
 go_wp2_with fail
 go_ret
 exact⟨rfl,rfl⟩
theorem items_some19 (X:Nat→Prop) (h:HP) (c:Nat) (w:World) (hm:HpM X w h (some ⟨c,0,none⟩)) (hl:(HP.items h).length≤65536) :
 Calls Tryz.prog 53 #[.pointer (some ⟨c,0,none⟩)] w (ItPost19 X (HP.items h) w):=by
 obtain⟨i0,hi,hz0,hz1,hz2⟩:=info24
 have Hi:Hid _:=hi;have Hz0:Hid _:=hz0;have Hz1:Hid _:=hz1;have Hz2:Hid _:=hz2
 have HM:Hid (HpM X w h (some ⟨c,0,none⟩)):=hm
 obtain⟨I,hI⟩:∃I,I=HP.items h:=⟨_,rfl⟩
 rw [←hI] at hl ⊢
 have HI:Hid (I=HP.items h):=hI
 have HL:Hid (I.length≤65536):=hl
 obtain⟨Z,hZ⟩:∃Z,Z=(zal [h]).length:=⟨_,rfl⟩
 have HZ:Hid (Z=(zal [h]).length):=hZ
 clear hi hz0 hz1 hz2 hm hI hl hZ
 go_enter Tryz.func53,Tryz.ntmps53
 go_wp2_with fail
 go_loopg [3,4,5] Z (fun z v3 v4 v5 wr=>∃(H:List HP) (ps:List (Option Addr)) (os:List (VT×Value)) (j:Nat),v5=.int .i64 (j:Int)∧Hid (z=(zal (H.drop j)).length)∧Hid (ItS X w wr I v3 v4 H ps os j))
 case atStart=>
  refine⟨[h],[some ⟨c,0,none⟩],[],0,rfl,HZ,⟨(Below.refl _ _).alloc (Nat.le_refl _) _,?_,World.ownsRow_nil _ _ _ _,⟨HM.out,trivial⟩,(fun p hp=>by cases hp),Nat.zero_le _,rfl,?_⟩⟩
  ·exact World.ownsRow_lit w #[.pointer (some ⟨c,0,none⟩)] 1 (Nat.le_refl _) (by unfold maxLen;omega) rfl
  ·show ([]++(HP.items h++[])).Perm I
   rw [List.nil_append,List.append_nil,HI.out]
 case round=>
  obtain⟨H,ps,os,j,rfl,Hz,HS⟩:=hrel
  clear HM HI HZ
  have hlen:=HS.out.len
  have hHp:=HS.out.hps.len
  have hjj:=HS.out.le
  have hLL:=HL.out
  by_cases hlt:j<H.length
  ·have hjp:j<ps.length:=by omega
   obtain⟨g,cap,rfl,_,hcap,_,hrow⟩:=own_rowP (by rw [List.length_map]) HS.out.own3 (by intro e;have e2:=congrArg List.length e;rw [List.length_map,List.length_nil] at e2;omega)
   have hg:=hrow j (by rw [List.length_map];exact hjp)
   rw [List.getElem_map] at hg
   have hm:=HS.out.hps.get j hlt hjp
   have Hd:Hid (H.drop j=H[j]::H.drop (j+1)):=List.drop_eq_getElem_cons hlt
   obtain⟨cc,pb,u,hp,hc,hit,hrw⟩:=hm
   rw [hp] at hg
   have Hpj:Hid (ps[j]=some ⟨cc,0,none⟩):=hp
   generalize H[j]=x at *
   obtain⟨t,bt⟩:=x
   have Hbl:Hid (bt.heaps.length≤65536):=by
    have e:=HS.out.perm.length_eq
    rw [Hd.out,List.length_append] at e
    have e2:zal ((t,bt)::H.drop (j+1))=(t::bt.items)++zal (H.drop (j+1)):=rfl
    rw [e2,List.length_append,List.length_cons] at e
    have e3:=heaps_len bt
    show _≤_
    omega
   have HC:Hid (HCells w cc t u pb):=hc
   have HT:Hid (ItM X w t u):=hit
   have HR:Hid (RowH X w bt pb):=hrw
   obtain⟨x0,x1,x2,x3,_⟩:=hc.keeps HS.out.below
   have hws:=HS.out.below.size
   simp only at x0 x1 x2 x3
   have Hlens:Hid (ps.length≤65536∧os.length≤65536∧H.length=ps.length):=⟨by omega,by omega,hHp⟩
   obtain⟨au,cu,rfl,_⟩:=LiesX.slice hit.lies
   have hj6:j≤65536:=by omega
   clear hit hrw hrow hlen hHp hjj hLL hp
   go_wp2_with (first
    | (at_builtin;refine wpList_append_own _ rfl _ _ 22 rfl w.heap.size 24 i0 (.agg #[.int .i64 0,.int .i64 0,.string ⟨#[]⟩,.slice none 0 0]) 4 56 Tryz.underlying22 Hi.out Hz0.out Hz1.out Hz2.out rfl (by decide) _ _ _ rfl (zaj HS.out.own4 ((Below.refl _ _).alloc (Nat.le_refl _) _)) ⟨wr.heap.size,0,none⟩ 1 1 (encP (t,.slice au t.items.length cu)) rfl rfl ?c1 ?c2 ?c3 ?c4 ?c5 ?_))
   case c1=>
    intro q u hq
    match q,hq with
    | 0,hq=>simp [encP] at hq;subst hq;simp
    | 1,hq=>simp [encP] at hq;subst hq;simp
    | 2,hq=>simp [encP] at hq;subst hq;simp
    | 3,hq=>simp [encP] at hq;subst hq;simp
   case c2=>intro u hu;simp [encP] at hu;rcases hu with rfl|rfl|rfl|rfl <;> rfl
   case c3=>have:=Hlens.out.2.1;unfold maxLen;omega
   case c4=>have:=Hlens.out.2.1;omega
   case c5=>omega
   intro v' w2 hown' hgrow _
   have hb0:Below w.heap.size w (wr.alloc (.cells #[.int .i64 t.kind,.int .i64 t.num,.string t.text,.slice au t.items.length cu] 24)):=HS.out.below.alloc hws _
   have hb2:Below w.heap.size w w2:=own_grow19 hb0 hb0.size (zaj HS.out.own4 ((Below.refl _ _).alloc (Nat.le_refl _) _)) hgrow
   have o3:w2.ownsRow w.heap.size 82 1 (.slice (some ⟨g,0,none⟩) ps.length cap) ps.length (ps.map Value.pointer):=(zaj HS.out.own3 ((Below.refl _ _).alloc (Nat.le_refl _) _)).kept hgrow (apart19 HS.out.own3 HS.out.own4 (by decide))
   have O3:Hid _:=o3
   have O4:Hid (w2.ownsRow w.heap.size 24 4 v' (os++[(t,Value.slice au t.items.length cu)]).length ((os++[(t,Value.slice au t.items.length cu)]).flatMap encP)):=by
    show World.ownsRow _ _ _ _ _ _ _
    rw [List.length_append,List.flatMap_append]
    exact hown'
   obtain⟨g2,cap2,e2,_,_,_,hrow2⟩:=own_rowP (by rw [List.length_map]) o3 (by intro e;have e2:=congrArg List.length e;rw [List.length_map,List.length_nil] at e2;omega)
   injection e2 with e2 _ e4
   injection e2 with e2
   injection e2 with e2
   subst e2 e4
   have hg2:=hrow2 j (by rw [List.length_map];exact hjp)
   rw [List.getElem_map,Hpj.out] at hg2
   have HB2:Hid (Below w.heap.size w w2):=hb2
   have HCall:Hid _:=heapsBelow_any X cc bt pb w w2 hb2 HC.out.below HR.out Hbl.out
   clear hown' hgrow hb0 o3 hrow2 hg x0 x1 x2 x3 hc
   go_wp2_with fail
   refine Calls.mono HCall.out ?_
   rintro e w3 ⟨hb3,y,qs,rfl,hq3,hqs⟩
   have O3':Hid (w3.ownsRow w.heap.size 82 1 (.slice (some ⟨g,0,none⟩) ps.length cap) ps.length (ps.map Value.pointer)):=zaj O3.out hb3
   have O4':Hid (w3.ownsRow w.heap.size 24 4 v' (os++[(t,Value.slice au t.items.length cu)]).length ((os++[(t,Value.slice au t.items.length cu)]).flatMap encP)):=zaj O4.out hb3
   have HB3:Hid (Below w.heap.size w w3):=HB2.out.trans (hb3.mono HB2.out.size)
   have HQ3:Hid (w3.ownsRow w2.heap.size 82 1 y qs.length (qs.map Value.pointer)):=hq3
   have HQs:Hid (Hps X w bt.heaps qs):=hqs
   have Hql:Hid (ps.length+qs.length≤1000000):=by
    have e1:=hqs.len
    have e2:=Hbl.out
    have e3:=Hlens.out.1
    show _≤_
    omega
   have hyy:y=.slice none 0 0∨∃gq cq,y=.slice (some ⟨gq,0,none⟩) qs.length cq:=by
    rcases hq3.2 with ⟨e,_⟩|⟨gq,cq,cur,e,_⟩
    ·exact .inl e
    ·exact .inr ⟨gq,cq,e⟩
   clear hb3 hq3 hqs O3 O4 HB2 HCall hg2
   rcases hyy with rfl|⟨gq,cq,rfl⟩
   ·have hq0:qs=[]:=by
     rcases HQ3.out.2 with ⟨_,h0⟩|⟨_,_,_,e,_⟩
     ·exact List.eq_nil_of_length_eq_zero h0
     ·cases e
    subst hq0
    have hbt:bt.heaps=[]:=List.eq_nil_of_length_eq_zero (by rw [HQs.out.len];rfl)
    have hbi:bt.items=[]:=by rw [←heaps_items,hbt];rfl
    have Hbi:Hid (bt.items=[]):=hbi
    clear hbt hbi
    go_wp2_with fail
    go_roundg ((zal (H.drop (j+1))).length)
    case measure=>
     have e1:=Hz.out
     rw [Hd.out] at e1
     have e2:zal ((t,bt)::H.drop (j+1))=(t::bt.items)++zal (H.drop (j+1)):=rfl
     rw [e2,List.length_append,List.length_cons] at e1
     omega
    case rel=>
     refine⟨H,ps,os++[(t,Value.slice au t.items.length cu)],j+1,by go_num,rfl,⟨HB3.out,O3'.out,O4'.out,HS.out.hps,fun p hp=>?_,by omega,by rw [List.length_append,HS.out.cnt];rfl,?_⟩⟩
     ·rcases List.mem_append.1 hp with hp|hp
      ·exact HS.out.its p hp
      ·rw [List.mem_singleton.1 hp];exact HT.out
     ·have e0:=HS.out.perm
      rw [Hd.out] at e0
      refine List.Perm.trans ?_ e0
      rw [List.map_append,List.append_assoc]
      refine List.Perm.append_left _ ?_
      show (t::zal (H.drop (j+1))).Perm (t::(bt.items++zal (H.drop (j+1))))
      rw [Hbi.out,List.nil_append]
   ·go_wp2_with (first
     | (at_builtin;refine wpList_append_ptrs rfl _ _ rfl w.heap.size w2.heap.size _ ps rfl O3'.out _ qs rfl HQ3.out Hql.out HB3.out.size ?_))
    intro v3' w4 hown3 hgrow
    have HB4:Hid (Below w.heap.size w w4):=own_grow19 HB3.out HB3.out.size O3'.out hgrow
    have O4:Hid (w4.ownsRow w.heap.size 24 4 v' (os++[(t,Value.slice au t.items.length cu)]).length ((os++[(t,Value.slice au t.items.length cu)]).flatMap encP)):=O4'.out.kept hgrow (apart19 O4'.out O3'.out (by decide))
    have O3:Hid (w4.ownsRow w.heap.size 82 1 v3' (ps++qs).length ((ps++qs).map Value.pointer)):=by
     show World.ownsRow _ _ _ _ _ _ _
     rw [List.length_append,List.map_append]
     exact hown3
    clear hown3 hgrow O3' O4' HB3 HQ3
    go_wp2_with fail
    go_roundg ((zal ((H++bt.heaps).drop (j+1))).length)
    case measure=>
     have e1:=Hz.out
     rw [Hd.out] at e1
     have e2:zal ((t,bt)::H.drop (j+1))=(t::bt.items)++zal (H.drop (j+1)):=rfl
     rw [e2,List.length_append,List.length_cons] at e1
     rw [List.drop_append_of_le_length (by omega),itemsH_app,heaps_items,List.length_append]
     omega
    case rel=>
     refine⟨H++bt.heaps,ps++qs,os++[(t,Value.slice au t.items.length cu)],j+1,by go_num,rfl,⟨HB4.out,O3.out,O4.out,HS.out.hps.app HQs.out,fun p hp=>?_,by rw [List.length_append];omega,by rw [List.length_append,HS.out.cnt];rfl,?_⟩⟩
     ·rcases List.mem_append.1 hp with hp|hp
      ·exact HS.out.its p hp
      ·rw [List.mem_singleton.1 hp];exact HT.out
     ·have e0:=HS.out.perm
      rw [Hd.out] at e0
      refine List.Perm.trans ?_ e0
      rw [List.drop_append_of_le_length (by omega),itemsH_app,heaps_items,List.map_append,List.append_assoc]
      refine List.Perm.append_left _ ?_
      show (t::(zal (H.drop (j+1))++bt.items)).Perm (t::(bt.items++zal (H.drop (j+1))))
      exact List.Perm.cons _ List.perm_append_comm
  ·have HE:Hid (ItPost19 X I w (.returned u4) wr):=by
    have hd:H.drop j=[]:=List.drop_eq_nil_of_le (by omega)
    have e0:=HS.out.perm
    rw [hd] at e0
    have e1:os.map (·.1)++zal []=os.map (·.1):=List.append_nil _
    rw [e1] at e0
    refine⟨HS.out.below,u4,_,rfl,⟨os,rfl,(SlP.of_own rfl HS.out.own4 (fun p hp=>?_) (by omega)).mono (Nat.zero_le _),fun p hp=>(HS.out.its p hp).keeps HS.out.below⟩,e0⟩
    have:=(HS.out.its p hp).keeps HS.out.below
    exact⟨this.lies.lies,this.size⟩
   obtain⟨a3,c3,rfl⟩:∃a3 c3,u3=.slice a3 ps.length c3:=by
    rcases HS.out.own3.2 with ⟨e,h0⟩|⟨g,cap,cur,e,_⟩
    ·exact⟨none,0,by rw [e,h0]⟩
    ·exact⟨_,_,e⟩
   have hlt' : ¬(j:Int)<(ps.length:Int):=by omega
   clear hlt hlen hHp hjj hLL
   go_wp2_with fail
   go_ret
   exact HE.out
theorem items19_any (X:Nat→Prop) (h:Option HP) (p:Option Addr) (w:World) (hm:HpO X w h p) (hl:(oItems h).length≤65536) :
 Calls Tryz.prog 53 #[.pointer p] w (ItPost19 X (oItems h) w):=by
 cases h with
 | none=>
  have hp:p=none:=hm
  subst hp
  refine Calls.mono (items_nil19 w) ?_
  rintro e w' ⟨rfl,rfl⟩
  exact⟨Below.refl _ _,_,[],rfl,⟨[],rfl,⟨none,0,rfl,by simp,by simp,fun h=>absurd rfl h,fun p hp=>by cases hp⟩,fun p hp=>by cases hp⟩,List.Perm.refl _⟩
 | some h=>
  obtain⟨c,pb,u,rfl,hr⟩:=id hm
  exact items_some19 X h c w hm hl
theorem make_ptrs (n:Nat) (hn:n≤65536):∃M:Array Value,M.size=n∧∀W:World,(Instr.makeSlice 153 (.int .i64 (n:Int)) (.int .i64 (n:Int))).run Tryz.prog W=.ok (.slice (some ⟨W.heap.size,0,none⟩) n n) (W.alloc (.cells M 82)):=by
 obtain⟨i0,hi,hz0,hz1,hz2⟩:=infoP19
 refine⟨madeCells (Value.pointer none).cells (((n:Nat):Int).toNat*i0.size),?_,fun W=>?_⟩
 ·rw [size_madeCells,hz1];simp
 ·have h:=run_make (P:=Tryz.prog) W 153 82 i0 _ Tryz.underlying153 hi hz0 .i64 .i64 (n:Int) (n:Int) (by omega) (by omega) (by rw [hz2];omega) (by omega)
  simpa using h
def ones (l:List VT):List HP:=l.map fun x=>(x,BT.nil)
theorem ones_items:∀(l:List VT),zal (ones l)=l
 | []=>rfl
 | x::l=>by
  show [x]++zal (ones l)=_
  rw [ones_items l];rfl
theorem ones_ok (f:VT→VT→Int) (l:List VT):∀h∈ones l,HP.Ok f h:=by
 intro h hh
 obtain⟨x,_,rfl⟩:=List.mem_map.1 hh
 exact⟨fun y hy=>absurd hy List.not_mem_nil,trivial⟩
structure GrS (X:Nat→Prop) (w wr:World) (l:List VT) (j:Nat):Prop where
 below:Below w.heap.size w wr
 lt:w.heap.size<wr.heap.size
 ptrs:∀(i:Nat) (h:i<l.length),i<j→∃c u,wr.cell? ⟨w.heap.size,i,none⟩=some (.pointer (some ⟨c,0,none⟩))∧w.heap.size<c∧HCells wr c (l[i]'h) u none∧ItM X w (l[i]'h) u
 there:∀k,k<l.length→(wr.cell? ⟨w.heap.size,k,none⟩).isSome∧wr.frozen? ⟨w.heap.size,k,none⟩=false
theorem GrS.step {X:Nat→Prop} {w wr W:World} {l:List VT} {j:Nat} (h:GrS X w wr l j) (hj:j<l.length) {c:Nat} {u:Value} (hb:Below wr.heap.size (wr.setCell ⟨w.heap.size,j,none⟩ (.pointer (some ⟨c,0,none⟩))) W) (hc:wr.heap.size≤c) (hC:HCells W c l[j] u none) (hi':ItM X w l[j] u) :
 GrS X w W l (j+1):=by
 have hS:=h.lt
 have hb1:Below w.heap.size w (wr.setCell ⟨w.heap.size,j,none⟩ (.pointer (some ⟨c,0,none⟩))):=h.below.setCell (p:=⟨w.heap.size,j,none⟩) (Nat.le_refl _) _
 have hbW:Below w.heap.size w W:=hb1.trans (hb.mono (Nat.le_of_lt hS))
 have hsz:(wr.setCell ⟨w.heap.size,j,none⟩ (.pointer (some ⟨c,0,none⟩))).heap.size=wr.heap.size:=by simp [World.setCell]
 have hkeep:∀{a:Addr} {v:Value},a≠⟨w.heap.size,j,none⟩→wr.cell? a=some v→W.cell? a=some v:=fun {a v} hd hv=>by
  have hl:=zad hv
  rw [hb.cell hl,World.cell?_setCell_other _ _ _ _ (fun e=>hd e.symm)];exact hv
 have hthere:∀k,k<l.length→∃v,wr.cell? ⟨w.heap.size,k,none⟩=some v:=fun k hk=>Option.isSome_iff_exists.1 (h.there k hk).1
 have hself:W.cell? ⟨w.heap.size,j,none⟩=some (.pointer (some ⟨c,0,none⟩)):=by
  obtain⟨v,hv⟩:=hthere j hj
  rw [hb.cell (p:=⟨w.heap.size,j,none⟩) hS]
  exact World.cell?_setCell_same _ _ _ hv
 refine⟨hbW,Nat.lt_of_lt_of_le hS (by have:=hb.size;omega),fun i hi hij=>?_,fun k hk=>⟨?_,?_⟩⟩
 ·by_cases e:i=j
  ·subst e
   exact⟨c,u,hself,Nat.lt_of_lt_of_le hS hc,hC,hi'⟩
  ·obtain⟨c',u',k1,k2,k3,k4⟩:=h.ptrs i hi (by omega)
   have hn:∀k,(⟨c',k,none⟩:Addr)≠⟨w.heap.size,j,none⟩:=fun k e=>by injection e with e;omega
   exact⟨c',u',hkeep (fun e2=>by injection e2 with _ e2;exact e e2) k1,k2,⟨hkeep (hn _) k3.1,hkeep (hn _) k3.2,hkeep (hn _) k3.3,hkeep (hn _) k3.4,hkeep (hn _) k3.5⟩,k4⟩
 ·by_cases e:k=j
  ·subst e
   rw [hself];rfl
  ·obtain⟨v,hv⟩:=hthere k hk
   rw [hkeep (fun e2=>by injection e2 with _ e2;exact e e2) hv];rfl
 ·rw [hb.frozen (p:=⟨w.heap.size,k,none⟩) hS,World.frozen?_setCell]
  exact (h.there k hk).2
theorem GrS.done {X:Nat→Prop} {w wr:World} {l:List VT} (h:GrS X w wr l l.length):SlH X wr (ones l) (.slice (some ⟨w.heap.size,0,none⟩) l.length l.length):=by
 have e:(ones l).length=l.length:=List.length_map ..
 refine⟨_,_,by rw [e],by rw [e];exact Nat.le_refl _,fun _=>⟨w.heap.size,0,rfl,fun i hi=>?_⟩⟩
 have hi2:i<l.length:=by omega
 obtain⟨c,u,k1,k2,k3,k4⟩:=h.ptrs i hi2 hi2
 have e2:(ones l)[i]=(l[i],BT.nil):=List.getElem_map ..
 refine⟨_,by rw [Nat.zero_add];exact k1,?_⟩
 rw [e2]
 exact⟨c,none,u,rfl,k3,k4.keeps h.below,rfl⟩
theorem grown_any19 (X:Nat→Prop) (q g:Nat) (hq:q<6) (l:List VT) (v:Value) (w:World) (hv:SlI X w l v) (hl:l.length≤65536) (hg:w.cell? ⟨g,0,none⟩=some (.int .i64 (q:Int))) :
 Calls Tryz.prog 45 #[v,fnBy g] w (PairPost X q l w):=by
 obtain⟨ps,hpl,hs,hit⟩:=hv
 have hlen:ps.length=l.length:=by rw [←hpl,List.length_map]
 obtain⟨a,c,rfl,hc⟩:=hs.slice
 have HLn:Hid (ps.length=l.length):=hlen
 rw [hlen] at hc hs ⊢
 have HS:Hid (SlP 0 16 w ps (.slice a l.length c)):=hs
 have HI:Hid (∀p∈ps,ItM X w p.1 p.2):=hit
 have HP:Hid (ps.map (·.1)=l):=hpl
 obtain⟨M,hMs,hmk⟩:=make_ptrs l.length hl
 have HMs:Hid (M.size=l.length):=hMs
 have HG:Hid (w.cell? ⟨g,0,none⟩=some (.int .i64 (q:Int))):=hg
 have HQ:Hid (q<6):=hq
 clear hMs hs hit hpl hlen hg hq
 go_enter Tryz.func45,Tryz.ntmps45
 go_wp2_with fail
 go_loopg [13] l.length (fun z i wr=>∃(j:Nat),i=.int .i64 (j:Int)∧j≤l.length∧z=l.length-j∧Hid (GrS X w wr l j))
 case atStart=>
  refine⟨0,rfl,by omega,by omega,⟨(Below.refl _ _).alloc (Nat.le_refl _) _,by simp,fun i _ h=>absurd h (by omega),fun k hk=>?_⟩⟩
  have hk':k<M.size:=by rw [HMs.out];exact hk
  simp [hk']
 case round=>
  obtain⟨j,rfl,hj,hk,HGr⟩:=hrel
  have Hk:Hid _:=hk
  clear hk hmk
  by_cases hlt:j<l.length
  ·have hjp:j<ps.length:=by rw [HLn.out];exact hlt
   obtain⟨b1,o1,c1,e1,_,hrow,_⟩:=HS.out.some (by intro e;rw [e] at hjp;simp at hjp)
   injection e1 with e1 _ e3
   subst e1 e3
   obtain⟨p0,p1,p2,p3⟩:=hrow j hjp
   have hit:=HI.out ps[j] (List.getElem_mem hjp)
   have hx:ps[j].1=l[j]:=by
    have:(ps.map (·.1))[j]'(by rw [List.length_map];exact hjp)=ps[j].1:=List.getElem_map ..
    rw [←this]
    congr 1
   rw [hx] at p0 p1 p2 hit
   generalize ps[j].2=u at *
   clear hrow hx
   have hbw:=HGr.out.below
   have p0:=zaa hbw p0;have p1:=zaa hbw p1;have p2:=zaa hbw p2;have p3:=zaa hbw p3
   obtain⟨s0,hs0⟩:=Option.isSome_iff_exists.1 (HGr.out.there j hlt).1
   have hf0:=(HGr.out.there j hlt).2
   have hl1:b1<wr.heap.size:=zad p0
   have hl2:=HGr.out.lt
   have hn1 : ¬w.heap.size=wr.heap.size:=by omega
   have hn2 : ¬w.heap.size=wr.heap.size+1:=by omega
   have HIt:Hid (ItM X w l[j] u):=hit
   obtain⟨au,cu,rfl,_⟩:=LiesX.slice hit.lies
   clear hit
   generalize hT:l[j]=T at *
   have HT:Hid (l[j]=T):=hT
   clear hT
   have HN:Hid (GrS X w (((wr.setCell ⟨w.heap.size,j,none⟩ (.pointer (some ⟨wr.heap.size+1,0,none⟩))).alloc (.cells #[.int .i64 T.kind,.int .i64 T.num,.string T.text,.slice au T.items.length cu] 24)).alloc (.cells #[.int .i64 T.kind,.int .i64 T.num,.string T.text,.slice au T.items.length cu,.pointer none] 156)) l (j+1)):=by
    have hz:(wr.setCell ⟨w.heap.size,j,none⟩ (.pointer (some ⟨wr.heap.size+1,0,none⟩))).heap.size=wr.heap.size:=by simp [World.setCell]
    refine HGr.out.step hlt (c:=wr.heap.size+1) (u:=.slice au T.items.length cu) ?_ (by omega) ?_ (by rw [HT.out];exact HIt.out)
    ·have:=((Grew.refl (wr.setCell ⟨w.heap.size,j,none⟩ (.pointer (some ⟨wr.heap.size+1,0,none⟩)))).alloc (.cells #[.int .i64 T.kind,.int .i64 T.num,.string T.text,.slice au T.items.length cu] 24)).alloc (.cells #[.int .i64 T.kind,.int .i64 T.num,.string T.text,.slice au T.items.length cu,.pointer none] 156) |>.below
     rwa [hz] at this
    ·rw [HT.out]
     generalize wr.setCell ⟨w.heap.size,j,none⟩ (.pointer (some ⟨wr.heap.size+1,0,none⟩))=V at hz ⊢
     rw [←hz]
     constructor <;> simp
   clear HGr HS HI HP
   go_wp2_with fail
   go_roundg (l.length-(j+1))
   case measure=>have:=Hk.out;omega
   case rel=>exact⟨j+1,by go_num,by omega,rfl,HN⟩
  ·have hjl:j=l.length:=by omega
   have HSl:Hid (SlH X wr (ones l) (.slice (some ⟨w.heap.size,0,none⟩) l.length l.length)):=by
    have h:=HGr.out
    rw [hjl] at h
    exact h.done
   have HB:Hid (Below w.heap.size w wr):=HGr.out.below
   have HCall:Hid _:=paired19_any X q g HQ.out l.length (ones l) _ wr (by rw [show (ones l).length=l.length from List.length_map ..];exact Nat.le_refl _) (by rw [show (ones l).length=l.length from List.length_map ..];exact hl) (zaa HB.out HG.out) HSl.out (ones_ok _ l)
   clear hjl HGr HS HI HP HSl
   go_wp2_with fail
   refine Calls.mono HCall.out ?_
   rintro e w1 ⟨hb1,h,p,rfl,hm,hp,ho⟩
   have HE:Hid (PairPost X q l w (.returned (.pointer p)) w1):=⟨HB.out.trans (hb1.mono HB.out.size),h,p,rfl,hm,by rw [ones_items] at hp;exact hp,ho⟩
   clear hb1 hm hp ho HCall
   go_wp2_with fail
   go_ret
   exact HE.out
end Go.Proofs.YtlnecfjnffdciacGreat
