import Derived.Test.YtcflooaoocngdaaGreatSameEq
import Derived.Test.YtcflooaoocngdaaGreatFun
set_option maxRecDepth 100000
set_option maxHeartbeats 16000000
namespace Go.Proofs.YtcflooaoocngdaaGreat
def unr (rs:List (VT×Nat)):List VT:=rs.flatMap fun p=>List.replicate p.2 p.1
structure Rl (rs:List (VT×Nat)):Prop where
 pos:∀p∈rs,1≤p.2
 apart:rs.Pairwise fun p q=>p.1≠q.1
theorem mem_unr {rs:List (VT×Nat)} {x:VT} (h:x∈unr rs):∃p∈rs,p.1=x:=by
 obtain⟨p,hp,hx⟩:=List.mem_flatMap.1 h
 exact⟨p,hp,(List.eq_of_mem_replicate hx).symm⟩
theorem unr_cons (p:VT×Nat) (rs:List (VT×Nat)):unr (p::rs)=List.replicate p.2 p.1++unr rs:=rfl
theorem rl_same:∀(rs rs':List (VT×Nat)),Rl rs→Rl rs'→unr rs=unr rs'→rs=rs':=by
 intro rs
 induction rs with
 | nil=>
  intro rs' _ h2 he
  cases rs' with
  | nil=>rfl
  | cons p t=>
   have:=h2.pos p (List.mem_cons_self ..)
   have hl:=congrArg List.length he
   rw [unr_cons] at hl
   simp [unr] at hl
   omega
 | cons p t ih=>
  intro rs' h1 h2 he
  cases rs' with
  | nil=>
   have:=h1.pos p (List.mem_cons_self ..)
   have hl:=congrArg List.length he
   rw [unr_cons] at hl
   simp [unr] at hl
   omega
  | cons p' t'=>
   obtain⟨k,n⟩:=p
   obtain⟨k',n'⟩:=p'
   have hn:1≤n:=h1.pos _ (List.mem_cons_self ..)
   have hn':1≤n':=h2.pos _ (List.mem_cons_self ..)
   obtain⟨a1,a2⟩:=List.pairwise_cons.1 h1.apart
   obtain⟨b1,b2⟩:=List.pairwise_cons.1 h2.apart
   rw [unr_cons,unr_cons] at he
   simp only at he a1 b1
   obtain⟨m,rfl⟩:∃m,n=m+1:=⟨n-1,by omega⟩
   obtain⟨m',rfl⟩:∃m',n'=m'+1:=⟨n'-1,by omega⟩
   have hk:k=k':=by
    have:=congrArg List.head? he
    simpa [List.replicate_succ] using this
   subst hk
   have key:∀(x y:Nat) (u v:List (VT×Nat)),(∀q∈u,k≠q.1)→x<y→List.replicate x k++unr u=List.replicate y k++unr v→False:=by
    intro x y u v hu hxy h
    have h2:unr u=List.replicate (y-x) k++unr v:=by
     rw [show List.replicate y k=List.replicate x k++List.replicate (y-x) k by rw [List.replicate_append_replicate,show x+(y-x)=y by omega],List.append_assoc] at h
     exact List.append_cancel_left h
    have hm:k∈unr u:=by
     rw [h2]
     exact List.mem_append_left _ (List.mem_replicate.2 ⟨by omega,rfl⟩)
    obtain⟨q,hq,e⟩:=mem_unr hm
    exact hu q hq e.symm
   rcases Nat.lt_trichotomy (m+1) (m'+1) with h|h|h
   ·exact (key _ _ t t' (fun q hq=>a1 q hq) h he).elim
   ·have:m=m':=by omega
    subst this
    rw [ih t' ⟨fun q hq=>h1.pos q (List.mem_cons_of_mem _ hq),a2⟩ ⟨fun q hq=>h2.pos q (List.mem_cons_of_mem _ hq),b2⟩ (List.append_cancel_left he)]
   ·exact (key _ _ t' t (fun q hq=>b1 q hq) h he.symm).elim
theorem up_one:∀(l m:List VT),(∀x∈l,Good 16 x)→l.Perm m→(l.Pairwise fun a b=>cmpV 16 a b≤0)→(m.Pairwise fun a b=>cmpV 16 a b≤0)→l=m:=by
 intro l
 induction l with
 | nil=>intro m _ hp _ _;exact hp.nil_eq
 | cons x l ih=>
  intro m hg hp hl hm
  cases m with
  | nil=>exact absurd hp.length_eq (by simp)
  | cons y m=>
   obtain⟨hl1,hl2⟩:=List.pairwise_cons.1 hl
   obtain⟨hm1,hm2⟩:=List.pairwise_cons.1 hm
   have hx:x∈y::m:=hp.subset List.mem_cons_self
   have hy:y∈x::l:=hp.symm.subset List.mem_cons_self
   have h1:cmpV 16 y x≤0:=by
    rcases List.mem_cons.1 hx with rfl|h
    ·rw [cmpV_self];omega
    ·exact hm1 x h
   have h2:cmpV 16 x y≤0:=by
    rcases List.mem_cons.1 hy with rfl|h
    ·rw [cmpV_self];omega
    ·exact hl1 y h
   have e:x=y:=good_eq (hg x List.mem_cons_self) (hg y hy) (by have:=zat 16 x y;omega)
   subst e
   rw [ih m (fun z hz=>hg z (List.mem_cons_of_mem _ hz)) (List.Perm.cons_inv hp) hl2 hm2]
structure Alk (l:List VT) (gs:List (List Nat)):Prop where
 ne:∀g∈gs,g≠[]
 perm:gs.flatten.Perm (List.range l.length)
 same:∀g∈gs,∀i∈g,∀j∈g,cmpV 16 (l.getD i nilT) (l.getD j nilT)=0
 rise:gs.Pairwise fun g h=>∀i∈g,∀j∈h,cmpV 16 (l.getD i nilT) (l.getD j nilT)<0
 up:∀g∈gs,g.Pairwise (· < ·)
def zaf (l:List VT) (gs:List (List Nat)):List (VT×Nat):=gs.map fun g=>(l.getD (g.headD 0) nilT,g.length)
theorem range_getD (l:List VT):(List.range l.length).map (fun i=>l.getD i nilT)=l:=by
 apply List.ext_getElem
 ·simp
 ·intro i h1 h2
  simp at h1 ⊢
  rw [List.getElem?_eq_getElem h2];rfl
theorem alk_in {l:List VT} {gs:List (List Nat)} (h:Alk l gs) {g:List Nat} (hg:g∈gs) {i:Nat} (hi:i∈g):i<l.length:=by
 have:i∈gs.flatten:=List.mem_flatten.2 ⟨g,hg,hi⟩
 exact List.mem_range.1 (h.perm.subset this)
theorem getD_mem {l:List VT} {i:Nat} (h:i<l.length):l.getD i nilT∈l:=by
 rw [List.getD_eq_getElem?_getD,List.getElem?_eq_getElem h]
 exact List.getElem_mem h
theorem alk_unr {l:List VT} {gs:List (List Nat)} (h:Alk l gs) (hr:∀x∈l,Good 16 x):unr (zaf l gs)=gs.flatten.map (fun i=>l.getD i nilT):=by
 have h0:∀g∈gs,List.replicate g.length (l.getD (g.headD 0) nilT)=g.map (fun i=>l.getD i nilT):=by
  intro g hg
  symm
  apply List.eq_replicate_iff.2
  refine⟨by simp,fun y hy=>?_⟩
  obtain⟨i,hi,rfl⟩:=List.mem_map.1 hy
  have hh:g.headD 0∈g:=by
   cases g with
   | nil=>exact absurd rfl (h.ne [] hg)
   | cons a b=>simp
  exact good_eq (hr _ (getD_mem (alk_in h hg hi))) (hr _ (getD_mem (alk_in h hg hh))) (h.same g hg i hi _ hh)
 clear h
 unfold unr zaf
 induction gs with
 | nil=>rfl
 | cons g gs ih=>
  simp only [List.map_cons,List.flatMap_cons,List.flatten_cons,List.map_append]
  rw [ih (fun g' hg'=>h0 g' (List.mem_cons_of_mem _ hg')),h0 g List.mem_cons_self]
theorem alk_perm {l:List VT} {gs:List (List Nat)} (h:Alk l gs) (hr:∀x∈l,Good 16 x):(unr (zaf l gs)).Perm l:=by
 rw [alk_unr h hr]
 have:=h.perm.map (fun i=>l.getD i nilT)
 rwa [range_getD] at this
theorem alk_up {l:List VT} {gs:List (List Nat)} (h:Alk l gs) (hr:∀x∈l,Good 16 x):(unr (zaf l gs)).Pairwise fun a b=>cmpV 16 a b≤0:=by
 rw [alk_unr h hr,List.pairwise_map,List.pairwise_flatten]
 refine⟨fun g hg=>?_,h.rise.imp (fun hgh i hi j hj=>Int.le_of_lt (hgh i hi j hj))⟩
 exact (h.up g hg).imp_of_mem (fun {i j} hi hj _=>by rw [h.same g hg i hi j hj];omega)
theorem alk_rl {l:List VT} {gs:List (List Nat)} (h:Alk l gs):Rl (zaf l gs):=by
 refine⟨fun p hp=>?_,?_⟩
 ·obtain⟨g,hg,rfl⟩:=List.mem_map.1 hp
  have:=h.ne g hg
  show 1≤g.length
  cases g with
  | nil=>exact absurd rfl this
  | cons a b=>simp
 ·unfold zaf
  rw [List.pairwise_map]
  refine h.rise.imp_of_mem (fun {g g'} hg hg' hgh e=>?_)
  have h1:g.headD 0∈g:=by
   cases g with
   | nil=>exact absurd rfl (h.ne [] hg)
   | cons a b=>simp
  have h2:g'.headD 0∈g':=by
   cases g' with
   | nil=>exact absurd rfl (h.ne [] hg')
   | cons a b=>simp
  have:=hgh _ h1 _ h2
  simp only at e
  rw [e,cmpV_self] at this
  omega
theorem runs_one {l:List VT} {rs rs':List (VT×Nat)} (hr:∀x∈l,Good 16 x) (h1:Rl rs) (h2:Rl rs') (p1:(unr rs).Perm l) (p2:(unr rs').Perm l) (u1:(unr rs).Pairwise fun a b=>cmpV 16 a b≤0) (u2:(unr rs').Pairwise fun a b=>cmpV 16 a b≤0):rs=rs':=
 rl_same rs rs' h1 h2 (up_one _ _ (fun x hx=>hr x (p1.subset hx)) (p1.trans p2.symm) u1 u2)
def cfI (l:List VT) (i j:Nat):Int:=if cmpV 16 (l.getD i nilT) (l.getD j nilT)=0 then cmpI (i:Int) (j:Int) else cmpV 16 (l.getD i nilT) (l.getD j nilT)
open Go.RowKit
theorem or2_any (g:Nat) (c1 c2:Int) (w:World) (h0:w.cell? ⟨g,0,none⟩=some (.int .i64 c1)) (h1:w.cell? ⟨g,1,none⟩=some (.int .i64 c2)) :
 Calls Tryz.prog 37 #[.slice (some ⟨g,0,none⟩) 2 2] w fun e w'=>e=.returned (.int .i64 (if c1=0 then c2 else c1))∧w'=w:=by
 generalize hE:(if c1=0 then c2 else c1)=E
 have HE:Hid ((if c1=0 then c2 else c1)=E):=hE
 clear hE
 go_enter Tryz.func37,Tryz.ntmps37
 go_wp2_with fail
 go_loopg [8] 2 (fun z v8 wr=>∃k:Nat,v8=.int .i64 (k:Int)∧z=2-k∧k≤2∧wr=w∧Hid ((1≤k→c1=0)∧(2≤k→c2=0)))
 case atStart=>exact⟨0,rfl,rfl,by omega,rfl,by omega,by omega⟩
 case round=>
  obtain⟨k,rfl,hz,hk,hw,HI⟩:=hrel
  have Hz:Hid (gk=2-k):=hz
  clear hz
  subst hw
  match k,hk with
  | 0,_=>
   by_cases hc:c1=0
   ·have e0:(0:Int)<2:=by omega
    subst hc
    go_wp2_with fail
    go_roundg 1
    case measure=>have:=Hz.out;omega
    case rel=>exact⟨1,rfl,rfl,by omega,rfl,(by first|exact⟨fun _=>rfl,fun h=>by omega⟩|exact⟨fun _=>trivial,fun h=>by omega⟩)⟩
   ·rw [if_neg hc] at HE
    go_wp2_with fail
    go_ret
    exact⟨by rw [←HE.out];rfl,rfl⟩
  | 1,_=>
   have hc:c1=0:=HI.out.1 (by omega)
   rw [if_pos hc] at HE
   clear hc
   by_cases hc2:c2=0
   ·subst hc2
    go_wp2_with fail
    go_roundg 0
    case measure=>have:=Hz.out;omega
    case rel=>exact⟨2,rfl,rfl,by omega,rfl,(by first|exact⟨fun _=>HI.out.1 (by omega),fun _=>rfl⟩|exact⟨fun _=>HI.out.1 (by omega),fun _=>trivial⟩)⟩
   ·go_wp2_with fail
    go_ret
    exact⟨by rw [←HE.out];rfl,rfl⟩
  | 2,_=>
   have hc:c1=0:=HI.out.1 (by omega)
   have hc2:c2=0:=HI.out.2 (by omega)
   rw [if_pos hc,hc2] at HE
   clear hc hc2
   go_wp2_with fail
   go_ret
   exact⟨by rw [←HE.out];rfl,rfl⟩
theorem alike1_any (l:List VT) (B:Nat) (al:Option Addr) (cl:Nat) (i j:Nat) (w:World) (hi:i<l.length) (hj:j<l.length) (hB:w.cell? ⟨B,0,none⟩=some (.slice al l.length cl)) (hl:Lies 17 w l (.slice al l.length cl)) :
 Calls Tryz.prog 36 #[.int .i64 (i:Int),.int .i64 (j:Int),.pointer (some ⟨B,0,none⟩)] w fun e w'=>e=.returned (.int .i64 (cfI l i j))∧Grew w w':=by
 obtain⟨al',cl',he,hlc,hrow⟩:=hl
 injection he with e1 e2 e3
 subst e1 e3
 clear e2
 obtain⟨b1,o1,rfl,hall⟩:=hrow (by intro e;rw [e] at hi;simp at hi)
 obtain⟨ux,p0,p1,p2,p3,p4,_⟩:=hall i hi
 obtain⟨uy,q0,q1,q2,q3,q4,_⟩:=hall j hj
 clear hall hrow
 obtain⟨ax,cx,rfl,_⟩:=Lies.slice p4
 obtain⟨ay,cy,rfl,_⟩:=Lies.slice q4
 have e1:l.getD i nilT=l[i]:=by rw [List.getD_eq_getElem?_getD,List.getElem?_eq_getElem hi];rfl
 have e2:l.getD j nilT=l[j]:=by rw [List.getD_eq_getElem?_getD,List.getElem?_eq_getElem hj];rfl
 have HE:Hid (cfI l i j=if cmpV 16 l[i] l[j]=0 then cmpI (i:Int) (j:Int) else cmpV 16 l[i] l[j]):=by show _=_;unfold cfI;rw [e1,e2]
 clear e1 e2
 generalize l[i]=x at *
 generalize l[j]=y at *
 have HC:Hid (∀V,Below w.heap.size w V→Calls Tryz.prog 38 #[.agg #[.int .i64 x.kind,.int .i64 x.num,.string x.text,.slice ax x.items.length cx],.agg #[.int .i64 y.kind,.int .i64 y.num,.string y.text,.slice ay y.items.length cy]] V fun e w'=>e=.returned (.int .i64 (cmpV 16 x y))∧Grew V w'):=fun V hV=>zao 16 x y _ _ V (Lies.keeps hV _ _ _ p4) (Lies.keeps hV _ _ _ q4)
 generalize cmpV 16 x y=C at *
 generalize cfI l i j=E at *
 have HK:Hid (∀V,Calls Tryz.prog 39 #[.int .i64 (i:Int),.int .i64 (j:Int)] V fun e w'=>e=.returned (.int .i64 (cmpI (i:Int) (j:Int)))∧w'=V):=fun V=>cmp_int _ _ V
 generalize cmpI (i:Int) (j:Int)=D at *
 have HO:Hid (∀V:World,Calls Tryz.prog 37 #[.slice (some ⟨V.heap.size,0,none⟩) 2 2] (V.alloc (.cells #[.int .i64 C,.int .i64 D] 3)) fun e w'=>e=.returned (.int .i64 E)∧w'=V.alloc (.cells #[.int .i64 C,.int .i64 D] 3)):=fun V=>by
  have h:=or2_any V.heap.size C D (V.alloc (.cells #[.int .i64 C,.int .i64 D] 3)) (by simp) (by simp)
  rwa [←HE.out] at h
 generalize l.length=n at *
 have hii:(i:Int)<(n:Int):=by omega
 have hjj:(j:Int)<(n:Int):=by omega
 clear p4 q4 hlc
 generalize x.items.length=xl at *
 generalize y.items.length=yl at *
 go_enter Tryz.func36,Tryz.ntmps36
 go_wp2_with fail
 go_region_held3 (fun w'=>w'.cell? ⟨B,0,none⟩=some (.slice (some ⟨b1,o1,none⟩) n cl)∧w'.cell? ⟨b1,o1+i*4,none⟩=some (.int .i64 x.kind)∧w'.cell? ⟨b1,o1+i*4+1,none⟩=some (.int .i64 x.num)∧w'.cell? ⟨b1,o1+i*4+2,none⟩=some (.string x.text)∧w'.cell? ⟨b1,o1+i*4+3,none⟩=some (.slice ax xl cx)∧w'.cell? ⟨b1,o1+j*4,none⟩=some (.int .i64 y.kind)∧w'.cell? ⟨b1,o1+j*4+1,none⟩=some (.int .i64 y.num)∧w'.cell? ⟨b1,o1+j*4+2,none⟩=some (.string y.text)∧w'.cell? ⟨b1,o1+j*4+3,none⟩=some (.slice ay yl cy)) (go_keep)
  (first|(go_at_call 38;(with_reducible refine Calls.mono (HC.out _ ?_) ?_);(first|exact Below.refl _ _|exact (Below.refl _ _).drew);rintro e w3 ⟨rfl,hg3⟩;have hgw:Grew w w3:=(by first|exact hg3|exact (Grew.refl w).drew.trans hg3);have hg:=hgw.below;have hB:=zaa hg hB;have p0:=zaa hg p0;have p1:=zaa hg p1;have p2:=zaa hg p2;have p3:=zaa hg p3;have q0:=zaa hg q0;have q1:=zaa hg q1;have q2:=zaa hg q2;have q3:=zaa hg q3;clear hg3 hg)|(go_at_call 39;(with_reducible refine Calls.mono (HK.out _) ?_);rintro e w4 ⟨rfl,hw4⟩;subst hw4)|(go_at_call 37;(with_reducible refine Calls.mono (HO.out _) ?_);rintro e w5 ⟨rfl,hw5⟩;subst hw5))
 go_wp2_with fail
 go_ret
 exact⟨rfl,hgw.alloc _⟩
structure FilV (w:World) (g n:Nat) (ps:List PR) (W:World):Prop where
 done:RowAt W g 0 ps
 room:∀k,k<n*4→∃v,W.cell? ⟨g,k,none⟩=some v
 soft:∀k,k<n*4→W.frozen? ⟨g,k,none⟩=false
 lt:g<W.heap.size
 below:Below w.heap.size w W
theorem size_setCellsP (b:Nat):∀(vs:List Value) (o:Nat) (w:World),(w.setCells b o vs).heap.size=w.heap.size:=by
 intro vs
 induction vs with
 | nil=>intro o w;rfl
 | cons v vs ih=>intro o w;rw [World.setCells,ih];simp [World.setCell]
theorem FilV.start (w:World) (M:Array Value) (n t:Nat) (hM:M.size=n*4):FilV w w.heap.size n [] (w.alloc (.cells M t)):=by
 refine⟨fun i hi=>by simp at hi,fun k hk=>?_,fun k hk=>by simp,by simp,((Grew.refl w).alloc _).below⟩
 have hk':k<M.size:=by rw [hM];exact hk
 exact⟨M[k],by simp [hk']⟩
theorem FilV.put {w:World} {g n:Nat} {ps:List PR} {W:World} (h:FilV w g n ps W) (hg:w.heap.size≤g) (hk:ps.length<n) (p:PR):FilV w g n (ps++[p]) (W.setCells g (ps.length*4) (encP p)):=by
 have hp:(encP p).length=4:=rfl
 have hin:=World.cell?_setCells_in g (encP p) (ps.length*4) W (fun j hj=>by
  obtain⟨v,hv⟩:=h.room (ps.length*4+j) (by rw [hp] at hj;omega)
  rw [hv];rfl)
 refine⟨fun i hi=>?_,fun k hkn=>?_,fun k hkn=>by rw [World.frozen?_setCells];exact h.soft k hkn,by rw [size_setCellsP];exact h.lt,below_setCellsB g w.heap.size hg _ _ _ _ h.below⟩
 ·rcases Nat.lt_or_ge i ps.length with hl|hl
  ·obtain⟨k0,k1,k2,k3⟩:=h.done i hl
   have out:∀r,r<4→(W.setCells g (ps.length*4) (encP p)).cell? ⟨g,0+i*4+r,none⟩=W.cell? ⟨g,0+i*4+r,none⟩:=fun r hr=>World.cell?_setCells_out g (encP p) _ W _ (fun _ _=>.inl (by show 0+i*4+r<ps.length*4;omega))
   rw [List.getElem_append_left hl]
   exact⟨(out 0 (by omega)).trans k0,(out 1 (by omega)).trans k1,(out 2 (by omega)).trans k2,(out 3 (by omega)).trans k3⟩
  ·have e:i=ps.length:=by simp at hi;omega
   subst e
   rw [List.getElem_append_right (Nat.le_refl _)]
   simp only [Nat.sub_self,List.getElem_cons_zero,Nat.zero_add]
   exact⟨hin 0 (by rw [hp];omega),hin 1 (by rw [hp];omega),hin 2 (by rw [hp];omega),hin 3 (by rw [hp];omega)⟩
 ·by_cases e:ps.length*4≤k∧k<ps.length*4+4
  ·have:=hin (k-ps.length*4) (by rw [hp];omega)
   rw [show ps.length*4+(k-ps.length*4)=k by omega] at this
   exact⟨_,this⟩
  ·rw [World.cell?_setCells_out g (encP p) _ W _ (fun _ _=>by show k<ps.length*4∨ps.length*4+(encP p).length≤k;rw [hp];omega)]
   exact h.room k hkn
def pkL (l:List VT) (ps:List Int):List VT:=ps.map fun i=>l.getD i.toNat nilT
def PlcAt (w:World) (a:Option Addr) (ps:List Int):Prop:=∀(k:Nat) (hk:k<ps.length),∃b o,a=some ⟨b,o,none⟩∧w.cell? ⟨b,o+k,none⟩=some (.int .i64 ps[k])
theorem picked_any (l:List VT) (v:Value) (a:Option Addr) (c:Nat) (ps:List Int) (w:World) (hv:Lies 17 w l v) (hp:PlcAt w a ps) (hin:∀i∈ps,0≤i∧i<l.length) (hn:ps.length≤65536) (hl6:l.length≤65536) :
 Calls Tryz.prog 22 #[v,.slice a ps.length c] w fun e w'=>∃u,e=.returned u∧Lies 17 w' (pkL l ps) u∧Below w.heap.size w w':=by
 obtain⟨al,cl,rfl,_⟩:=Lies.slice hv
 obtain⟨i0,hi,hz0,hz1,hz2⟩:=info24
 obtain⟨n,hnl⟩:∃n,n=ps.length:=⟨_,rfl⟩
 obtain⟨M,hM⟩:∃M,M=madeCells (Value.agg #[.int .i64 0,.int .i64 0,.string ⟨#[]⟩,.slice none 0 0]).cells (((n:Nat):Int).toNat*i0.size):=⟨_,rfl⟩
 have hMs:M.size=n*4:=by rw [hM,size_madeCells,hz1];simp
 have hmk:∀W:World,(Instr.makeSlice 22 (.int .i64 (n:Int)) (.int .i64 (n:Int))).run Tryz.prog W=.ok (.slice (some ⟨W.heap.size,0,none⟩) n n) (W.alloc (.cells M 27)):=fun W=>by
  have h:=run_make (P:=Tryz.prog) W 22 27 i0 _ Tryz.underlying22 hi hz0 .i64 .i64 (n:Int) (n:Int) (by omega) (by omega) (by rw [hz2];omega) (by omega)
  rw [←hM] at h
  simpa using h
 have HF0:Hid (FilV w w.heap.size n [] (w.alloc (.cells M 27))):=FilV.start w M n _ hMs
 have HV:Hid (Lies 17 w l (.slice al l.length cl)):=hv
 have HP:Hid (PlcAt w a ps):=hp
 have HI:Hid (∀i∈ps,0≤i∧i<l.length):=hin
 have Hn:Hid (n=ps.length∧n≤65536):=⟨hnl,by omega⟩
 obtain⟨ll,hll⟩:∃ll,ll=l.length:=⟨_,rfl⟩
 have Hll:Hid (ll=l.length∧ll≤65536):=⟨hll,by omega⟩
 rw [←hnl,←hll]
 clear hi hz0 hz1 hz2 hv hp hin hn hnl hM hMs hll hl6
 go_enter Tryz.func22,Tryz.ntmps22
 go_wp2_with fail
 go_loopg [13] n (fun z v13 wr=>∃j:Nat,v13=.int .i64 (j:Int)∧z=n-j∧j≤n∧Hid (∃qs:List PR,qs.length=j∧(∀q∈qs,Sound 16 w q)∧qs.map (·.1)=pkL l (ps.take j)∧FilV w w.heap.size n qs wr))
 case atStart=>exact⟨0,rfl,by omega,by omega,[],rfl,(fun q hq=>by cases hq),rfl,HF0.out⟩
 case round=>
  obtain⟨j,rfl,hgk,hj,HQ⟩:=hrel
  have Hgk:Hid (gk=n-j):=hgk
  clear hgk HF0 hmk
  have hn5:n≤65536:=Hn.out.2
  have hl5:ll≤65536:=Hll.out.2
  obtain⟨qs,q1,q2,q3,q4⟩:=HQ.out
  by_cases hlt:j<n
  ·have hji:(j:Int)<(n:Int):=by omega
   have hjp:j<ps.length:=by rw [←Hn.out.1];exact hlt
   obtain⟨b,o,rfl,hc⟩:=HP.out j hjp
   obtain⟨i0,i1⟩:=HI.out _ (List.getElem_mem hjp)
   obtain⟨P,hPe⟩:∃P:Nat,ps[j]=(P:Int):=⟨ps[j].toNat,by omega⟩
   have hP:P<l.length:=by omega
   obtain⟨al',cl',he,_,hrow⟩:=HV.out
   injection he with e1 e2 e3
   subst e1 e3
   clear e2
   obtain⟨b1,o1,rfl,hall⟩:=hrow (by intro e;rw [e] at hP;simp at hP)
   obtain⟨ux,p0,p1,p2,p3,p4,p5⟩:=hall P hP
   clear hall hrow
   have hx:l[P]=l.getD ps[j].toNat nilT:=by rw [hPe,Int.toNat_natCast,List.getD_eq_getElem?_getD,List.getElem?_eq_getElem hP];rfl
   have HN:Hid (∃qs':List PR,qs'.length=j+1∧(∀q∈qs',Sound 16 w q)∧qs'.map (·.1)=pkL l (ps.take (j+1))∧FilV w w.heap.size n qs' (wr.setCells w.heap.size (j*4) (encP (l[P],ux)))):=by
    refine⟨qs++[(l[P],ux)],by simp [q1],fun q hq=>?_,?_,?_⟩
    ·rcases List.mem_append.1 hq with hq|hq
     ·exact q2 q hq
     ·have:q=(l[P],ux):=by simpa using hq
      subst this
      exact⟨p4,p5⟩
    ·rw [List.map_append,q3,List.take_succ_eq_append_getElem hjp]
     unfold pkL
     rw [List.map_append]
     simp [hx]
    ·have:=q4.put (Nat.le_refl _) (by omega) (l[P],ux)
     rwa [q1] at this
   have hc':=zaa q4.below hc
   replace p0:=zaa q4.below p0;replace p1:=zaa q4.below p1;replace p2:=zaa q4.below p2;replace p3:=zaa q4.below p3
   obtain⟨ax,cx,rfl,_⟩:=Lies.slice p4
   rw [hPe] at hc'
   have hPi:(P:Int)<(ll:Int):=by have:=Hll.out;omega
   have hPn:P<ll:=by have:=Hll.out;omega
   obtain⟨z0,r0⟩:=q4.room (j*4) (by omega)
   obtain⟨z1,r1⟩:=q4.room (j*4+1) (by omega)
   obtain⟨z2,r2⟩:=q4.room (j*4+2) (by omega)
   obtain⟨z3,r3⟩:=q4.room (j*4+3) (by omega)
   have f0:=q4.soft (j*4) (by omega)
   have f1:=q4.soft (j*4+1) (by omega)
   have f2:=q4.soft (j*4+2) (by omega)
   have f3:=q4.soft (j*4+3) (by omega)
   clear q1 q2 q3 q4 hx p4 hPe i0 i1 hc
   generalize l[P]=x at *
   generalize x.items.length=xl at *
   go_wp2_with fail
   go_roundg (n-(j+1))
   case measure=>have:=Hgk.out;omega
   case rel=>exact⟨j+1,by go_num,rfl,by omega,HN.out⟩
  ·have ejn:j=n:=by omega
   subst ejn
   have hji : ¬(j:Int)<(j:Int):=by omega
   have HZ:Hid (Lies 17 wr (pkL l ps) (.slice (some ⟨w.heap.size,0,none⟩) j j)∧Below w.heap.size w wr):=by
    refine⟨?_,q4.below⟩
    have h:=lies_of_row (d:=16) (c:=j) q4.done (fun q hq=>(q2 q hq).keeps q4.below) (by omega) (by omega)
    rw [q3,List.take_of_length_le (by rw [←Hn.out.1];omega),q1] at h
    exact h
   clear hlt hj Hgk q1 q2 q3 q4
   go_wp2_with fail
   go_ret
   exact⟨_,rfl,HZ.out⟩
end Go.Proofs.YtcflooaoocngdaaGreat
