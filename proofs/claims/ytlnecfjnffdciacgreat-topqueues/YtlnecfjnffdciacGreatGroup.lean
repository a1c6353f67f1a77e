import Derived.Test.YtlnecfjnffdciacGreatUnits2
import Derived.Test.YtlnecfjnffdciacGreatEq
set_option maxHeartbeats 2000000
namespace Go.Proofs.YtlnecfjnffdciacGreat
open Go.RowKit
def entL:List Int→List Int
 | x::y::l=>ordZ [x,y]::entL l
 | _=>[]
def fullN (f:VT→Int) (t:VT):Int:=
 if t.kind=1 then (if t.num=0 then 1237 else 1231) else if t.kind=2 then longZ t.num else if t.kind=3 then intZ (javaZ (unL t.text))
 else if t.kind=4 then ordZ (t.items.map f) else if t.kind=5 then unoZ (t.items.map f) else if t.kind=6 then unoZ (entL (t.items.map f)) else 0
def fullZ:Nat→VT→Int
 | 0,t=>fullN (fun _=>0) t
 | d+1,t=>fullN (fullZ d) t
theorem two_at (w:World) (a b:Int) (t:Nat):IntsAt .u32 (w.alloc (.cells #[.int .u32 a,.int .u32 b] t)) [a,b] (.slice (some ⟨w.heap.size,0,none⟩) 2 2):=
 ⟨_,_,rfl,by simp,by simp,fun _=>⟨_,_,rfl,fun i hi=>by
  match i,hi with
  | 0,_=>simp
  | 1,_=>simp⟩⟩
theorem entry_any (a b:Int) (w:World):Calls Tryz.prog 127 #[.int .u32 a,.int .u32 b] w fun e w'=>e=.returned (.int .u32 (ordZ [a,b]))∧Grew w w':=by
 go_enter Tryz.func127,Tryz.ntmps127
 go_wp2_with fail
 refine (ordered_any [a,b] _ _ (two_at w a b _)).mono ?_
 rintro e w1 ⟨rfl,h⟩
 go_wp2_with fail
 go_ret
 exact⟨rfl,((Grew.refl _).alloc _).trans h.grew⟩
structure Filled (g n:Nat) (w:World) (zs:List Int):Prop where
 got:∀(i:Nat) (h:i<zs.length),w.cell? ⟨g,i,none⟩=some (.int .u32 zs[i])
 there:∀i,i<n→(w.cell? ⟨g,i,none⟩).isSome=true
 soft:∀i,i<n→w.frozen? ⟨g,i,none⟩=false
 lt:g<w.heap.size
theorem Filled.keeps {g n:Nat} {w w':World} {zs:List Int} (h:Filled g n w zs) (hb:Below w.heap.size w w'):Filled g n w' zs:=
 ⟨fun i hi=>zaa hb (h.got i hi),fun i hi=>by rw [hb.cell (p:=⟨g,i,none⟩) h.lt];exact h.there i hi,fun i hi=>by rw [hb.frozen (p:=⟨g,i,none⟩) h.lt];exact h.soft i hi,Nat.lt_of_lt_of_le h.lt hb.size⟩
theorem addr_ne {g i k:Nat} (h:i≠k):(⟨g,i,none⟩:Addr)≠⟨g,k,none⟩:=fun e=>h (by injection e)
theorem Filled.put {g n:Nat} {w:World} {zs:List Int} (h:Filled g n w zs) (z:Int) (hn:zs.length<n):Filled g n (w.setCell ⟨g,zs.length,none⟩ (.int .u32 z)) (zs++[z]):=by
 refine⟨fun i hi=>?_,fun i hi=>?_,fun i hi=>?_,?_⟩
 ·by_cases e:i=zs.length
  ·subst e
   rw [World.cell?_setCell_same' w _ _ (h.there _ hn)]
   simp
  ·have hi':i<zs.length:=by simp at hi;omega
   rw [World.cell?_setCell_other _ _ _ _ (addr_ne (Ne.symm e)),h.got i hi',List.getElem_append_left hi']
 ·by_cases e:i=zs.length
  ·subst e
   rw [World.cell?_setCell_same' w _ _ (h.there _ hn)]
   rfl
  ·rw [World.cell?_setCell_other _ _ _ _ (addr_ne (Ne.symm e))]
   exact h.there i hi
 ·simp [h.soft i hi]
 ·simpa [World.setCell] using h.lt
theorem Filled.done {g n:Nat} {w:World} {zs:List Int} (h:Filled g n w zs) (hn:zs.length=n) (hb:n≤65536):IntsAt .u32 w zs (.slice (some ⟨g,0,none⟩) n n):=by
 subst hn
 exact⟨_,_,rfl,by omega,Nat.le_refl _,fun _=>⟨g,0,rfl,fun i hi=>by rw [Nat.zero_add];exact h.got i hi⟩⟩
set_option maxRecDepth 100000 in
theorem infoU:∃i0,Tryz.prog.info? 38=some i0∧i0.zero=some (.int .u32 0)∧i0.size=1∧i0.bytes=4:=by
 refine⟨_,rfl,?_,?_,?_⟩
 all_goals kernel_rfl
theorem make_words (n:Nat) (hn:n≤65536):∃M:Array Value,M.size=n∧∀W:World,(Instr.makeSlice 149 (.int .i64 (n:Int)) (.int .i64 (n:Int))).run Tryz.prog W=.ok (.slice (some ⟨W.heap.size,0,none⟩) n n) (W.alloc (.cells M 38)):=by
 obtain⟨i0,hi,hz0,hz1,hz2⟩:=infoU
 refine⟨madeCells (Value.int .u32 0).cells (((n:Nat):Int).toNat*i0.size),?_,fun W=>?_⟩
 ·rw [size_madeCells,hz1];simp
 ·have h:=run_make (P:=Tryz.prog) W 149 38 i0 _ Tryz.underlying149 hi hz0 .i64 .i64 (n:Int) (n:Int) (by omega) (by omega) (by rw [hz2];omega) (by omega)
  simpa using h
theorem filled_start (w:World) (M:Array Value) (n:Nat) (t:Nat) (hM:M.size=n):Filled w.heap.size n (w.alloc (.cells M t)) []:=by
 refine⟨fun i hi=>(by cases hi),fun i hi=>?_,fun i hi=>(by simp),(by simp)⟩
 have:i<M.size:=by omega
 simp [this]
theorem hashes_core (d:Nat) (f:VT→Int) (l:List VT) (u:Value) (w:World) (hu:Lies (d+1) w l u) (hlen:l.length≤1024)
 (hf:Hid (∀(x:VT) (v:Value) (W:World),x∈l→Lies d W x.items v→
  Calls Tryz.prog 42 #[.agg #[.int .i64 x.kind,.int .i64 x.num,.string x.text,v]] W fun e W'=>e=.returned (.int .u32 (f x))∧Below W.heap.size W W')) :
 Calls Tryz.prog 82 #[u] w fun e w'=>∃v,e=.returned v∧IntsAt .u32 w' (l.map f) v∧Below w.heap.size w w':=by
 obtain⟨a,c,rfl,hb1,hr1⟩:=hu
 have Hr:Hid _:=hr1
 clear hr1
 obtain⟨M,hMs,hmk⟩:=make_words l.length (by omega)
 have HMs:Hid (M.size=l.length):=hMs
 clear hMs
 go_enter Tryz.func82,Tryz.ntmps82
 go_wp2_with fail
 go_loopg [11] l.length (fun q i wr=>∃(j:Nat),i=.int .i64 (j:Int)∧j≤l.length∧q=l.length-j∧Filled w.heap.size l.length wr ((l.take j).map f)∧Below w.heap.size w wr)
 case atStart=>exact⟨0,rfl,by omega,by omega,filled_start w M _ _ HMs.out,(Below.refl _ _).alloc (Nat.le_refl _) _⟩
 case round=>
  obtain⟨j,rfl,hj,hk,hfl,hbw⟩:=hrel
  have Hk:Hid _:=hk
  have HF:Hid (Filled w.heap.size l.length wr ((l.take j).map f)):=hfl
  clear hk hfl hmk
  by_cases hlt:j<l.length
  ·obtain⟨b1,o1,rfl,hall⟩:=Hr.out (by intro e;simp [e] at hlt)
   obtain⟨x,p0,p1,p2,p3,p4,p5⟩:=hall j hlt
   obtain⟨ax,cx,rfl,_⟩:=Lies.slice p4
   have p0:=zaa hbw p0;have p1:=zaa hbw p1;have p2:=zaa hbw p2;have p3:=zaa hbw p3
   have p4:Hid (Lies d w l[j].items (.slice ax l[j].items.length cx)):=p4
   have hl1:b1<wr.heap.size:=zad p0
   have hws2:w.heap.size≤wr.heap.size:=hbw.size
   have hlj:((l.take j).map f).length=j:=by simp;omega
   clear hall
   go_wp2_with fail
   have hfc:=hf.out l[j] (.slice ax l[j].items.length cx)
   refine (hfc _ (List.getElem_mem hlt) (Lies.keeps (hbw.alloc hws2 _) _ _ _ p4.out)).mono ?_
   rintro e w1 ⟨rfl,hg⟩
   have hb2:Below w.heap.size w w1:=(hbw.alloc hws2 _).trans (hg.mono (by simp;omega))
   have hF1:=(HF.out.keeps ((Below.refl _ _).alloc (Nat.le_refl _) _)).keeps hg
   obtain⟨v0,s0⟩:=Option.isSome_iff_exists.1 (hF1.there j hlt)
   have z0:=hF1.soft j hlt
   have hput:=hF1.put (f l[j]) (by omega)
   rw [hlj] at hput
   have Hput:Hid _:=hput
   clear hg hfc p0 p1 p2 p3 p4 hf HF hF1 hput hlj
   go_wp2_with fail
   go_roundg (l.length-(j+1))
   case measure=>have:=Hk.out;omega
   case rel=>
    refine⟨j+1,by go_num,by omega,rfl,?_,hb2.setCell (p:=⟨w.heap.size,j,none⟩) (Nat.le_refl _) _⟩
    rw [List.take_succ_eq_append_getElem hlt,List.map_append]
    exact Hput.out
  ·have hjl:j=l.length:=by omega
   have hd:=HF.out.done (by simp;omega) (by omega)
   rw [hjl,List.take_length] at hd
   have Hd:Hid (IntsAt .u32 wr (l.map f) (.slice (some ⟨w.heap.size,0,none⟩) l.length l.length)):=hd
   clear hd hjl HF hf
   go_wp2_with fail
   go_ret
   exact⟨_,rfl,Hd.out,hbw⟩
theorem entL_snoc:∀(m:Nat) (l:List Int) (x y:Int),l.length=2*m→entL (l++[x,y])=entL l++[ordZ [x,y]]:=by
 intro m
 induction m with
 | zero=>intro l x y h;obtain rfl:=List.eq_nil_of_length_eq_zero (by omega:l.length=0);rfl
 | succ m ih=>
  intro l x y h
  match l,h with
  | a::b::l,h=>
   have:=ih l x y (by simp at h;omega)
   simp [entL,this]
theorem entL_len:∀(m:Nat) (l:List Int),l.length=2*m→(entL l).length=m:=by
 intro m
 induction m with
 | zero=>intro l h;obtain rfl:=List.eq_nil_of_length_eq_zero (by omega:l.length=0);rfl
 | succ m ih=>
  intro l h
  match l,h with
  | a::b::l,h=>
   have:=ih l (by simp at h;omega)
   simp [entL,this]
theorem entL_half:∀(m:Nat) (l:List Int),l.length / 2=m→entL (l.take (2*m))=entL l:=by
 intro m
 induction m with
 | zero=>
  intro l h
  match l,h with
  | [],_=>rfl
  | [a],_=>rfl
  | a::b::l,h=>exfalso;simp at h;omega
 | succ m ih=>
  intro l h
  match l,h with
  | [],h=>simp at h
  | [a],h=>simp at h
  | a::b::l,h=>
   have:=ih l (by simp at h;omega)
   rw [show 2*(m+1)=2*m+2 by omega]
   simp [entL,this]
theorem ent_step (f:VT→Int) (l:List VT) (j:Nat) (h:2*j+1<l.length) :
 entL ((l.take (2*(j+1))).map f)=entL ((l.take (2*j)).map f)++[ordZ [f l[2*j],f l[2*j+1]]]:=by
 have h1:l.take (2*(j+1))=l.take (2*j)++[l[2*j],l[2*j+1]]:=by
  rw [show 2*(j+1)=2*j+1+1 by omega,List.take_succ_eq_append_getElem h,List.take_succ_eq_append_getElem (by omega:2*j<l.length),List.append_assoc]
  rfl
 rw [h1,List.map_append]
 exact entL_snoc j _ _ _ (by simp;omega)
theorem entries_core (d:Nat) (f:VT→Int) (l:List VT) (u:Value) (w:World) (hu:Lies (d+1) w l u) (hlen:l.length≤1024)
 (hf:Hid (∀(x:VT) (v:Value) (W:World),x∈l→Lies d W x.items v→
  Calls Tryz.prog 42 #[.agg #[.int .i64 x.kind,.int .i64 x.num,.string x.text,v]] W fun e W'=>e=.returned (.int .u32 (f x))∧Below W.heap.size W W')) :
 Calls Tryz.prog 84 #[u] w fun e w'=>∃v,e=.returned v∧IntsAt .u32 w' (entL (l.map f)) v∧Below w.heap.size w w':=by
 obtain⟨a,c,rfl,hb1,hr1⟩:=hu
 have Hr:Hid _:=hr1
 clear hr1
 obtain⟨n,hn⟩:∃n,n=l.length / 2:=⟨_,rfl⟩
 obtain⟨M,hMs,hmk⟩:=make_words n (by omega)
 have HMs:Hid (M.size=n):=hMs
 have hq:(l.length:Int).tdiv 2=(n:Int):=by rw [Int.tdiv_eq_ediv_of_nonneg (by omega)];omega
 have hwn:wrap64 (n:Int)=(n:Int):=by unfold wrap64;omega
 have Hwn:Hid (wrap64 (n:Int)=(n:Int)):=hwn
 have Hn:Hid _:=hn
 clear hMs hn
 go_enter Tryz.func84,Tryz.ntmps84
 go_wp2_with fail
 simp only [hwn]
 go_loopg [11] n (fun q i wr=>∃(j:Nat),i=.int .i64 (j:Int)∧j≤n∧q=n-j∧Filled w.heap.size n wr (entL ((l.take (2*j)).map f))∧Below w.heap.size w wr)
 case atStart=>exact⟨0,rfl,by omega,by omega,filled_start w M _ _ HMs.out,(Below.refl _ _).alloc (Nat.le_refl _) _⟩
 case round=>
  obtain⟨j,rfl,hj,hk,hfl,hbw⟩:=hrel
  have Hk:Hid _:=hk
  have HF:Hid (Filled w.heap.size n wr (entL ((l.take (2*j)).map f))):=hfl
  clear hk hfl hmk
  by_cases hlt:j<n
  ·have hl2:2*j+1<l.length:=by have:=Hn.out;omega
   have hjb:j<1024:=by omega
   obtain⟨b1,o1,rfl,hall⟩:=Hr.out (by intro e;simp [e] at hl2)
   obtain⟨x,p0,p1,p2,p3,p4,p5⟩:=hall (2*j) (by omega)
   obtain⟨y,q0,q1,q2,q3,q4,q5⟩:=hall (2*j+1) hl2
   obtain⟨ax,cx,rfl,_⟩:=Lies.slice p4
   obtain⟨ay,cy,rfl,_⟩:=Lies.slice q4
   have hlw:b1<w.heap.size:=zad p0
   have hbn : ¬(b1=w.heap.size):=by omega
   have hbn2 : ¬(w.heap.size=b1):=by omega
   have p0:=zaa hbw p0;have p1:=zaa hbw p1;have p2:=zaa hbw p2;have p3:=zaa hbw p3
   have q0:=zaa hbw q0;have q1:=zaa hbw q1;have q2:=zaa hbw q2;have q3:=zaa hbw q3
   have hws2:w.heap.size≤wr.heap.size:=hbw.size
   have hc1:Hid (∀W,Below w.heap.size w W→Calls Tryz.prog 42 #[.agg #[.int .i64 l[2*j].kind,.int .i64 l[2*j].num,.string l[2*j].text,.slice ax l[2*j].items.length cx]] W fun e W'=>e=.returned (.int .u32 (f l[2*j]))∧Below W.heap.size W W'):=
    fun W hW=>hf.out _ _ W (List.getElem_mem _) (Lies.keeps hW _ _ _ p4)
   have hc2:Hid (∀W,Below w.heap.size w W→Calls Tryz.prog 42 #[.agg #[.int .i64 l[2*j+1].kind,.int .i64 l[2*j+1].num,.string l[2*j+1].text,.slice ay l[2*j+1].items.length cy]] W fun e W'=>e=.returned (.int .u32 (f l[2*j+1]))∧Below W.heap.size W W'):=
    fun W hW=>hf.out _ _ W (List.getElem_mem _) (Lies.keeps hW _ _ _ q4)
   have Hst:Hid _:=ent_step f l j hl2
   have hel:(entL ((l.take (2*j)).map f)).length=j:=entL_len j _ (by simp;omega)
   have Hel:Hid ((entL ((l.take (2*j)).map f)).length=j):=hel
   have hbd:Below w.heap.size w wr.drew:=hbw.drew
   clear hall hf hel p4 q4 p5 q5
   generalize l[2*j]=X at *
   generalize l[2*j+1]=Y at *
   have m1:IntKind.i64.wrap (2*(j:Int))=((2*j:Nat):Int):=by rw [IntKind.wrap_i64];omega
   have m2:IntKind.i64.wrap (((2*j:Nat):Int)+1)=((2*j+1:Nat):Int):=by rw [IntKind.wrap_i64];omega
   have hl3:2*j<l.length:=by omega
   generalize hQ:2*j+1=Q at *
   generalize hP:2*j=P at *
   have HP:Hid (2*j=P):=hP
   clear hP hQ
   have HB:Hid (Below w.heap.size w wr):=hbw
   have hu0:=HF.out.there j hlt
   clear hu0
   go_wp2_with fail
   go_region_held3 (fun w'=>w'.cell? ⟨b1,o1+P*4,none⟩=some (.int .i64 X.kind)∧w'.cell? ⟨b1,o1+P*4+1,none⟩=some (.int .i64 X.num)∧w'.cell? ⟨b1,o1+P*4+2,none⟩=some (.string X.text)∧w'.cell? ⟨b1,o1+P*4+3,none⟩=some (.slice ax X.items.length cx)
    ∧w'.cell? ⟨b1,o1+Q*4,none⟩=some (.int .i64 Y.kind)∧w'.cell? ⟨b1,o1+Q*4+1,none⟩=some (.int .i64 Y.num)∧w'.cell? ⟨b1,o1+Q*4+2,none⟩=some (.string Y.text)∧w'.cell? ⟨b1,o1+Q*4+3,none⟩=some (.slice ay Y.items.length cy)) (go_keep)
    (first|(go_at_call_of 42 X;refine Calls.mono (hc1.out _ hbd) ?_;rintro e w1 ⟨rfl,hg⟩;have hb2:Below wr.heap.size wr w1:=(Below.refl _ _).drew.trans hg;clear hg hbd;have r0:=zaa hb2 p0;have r1:=zaa hb2 p1;have r2:=zaa hb2 p2;have r3:=zaa hb2 p3;have t0:=zaa hb2 q0;have t1:=zaa hb2 q1;have t2:=zaa hb2 q2;have t3:=zaa hb2 q3;clear p0 p1 p2 p3 q0 q1 q2 q3)
          | (go_at_call_of 42 Y;refine Calls.mono (hc2.out _ (HB.out.trans (hb2.mono HB.out.size))) ?_;rintro e w2 ⟨rfl,hg⟩;have hb3:Below wr.heap.size wr w2:=hb2.trans (hg.mono hb2.size);have x0:=zaa hg r0;have x1:=zaa hg r1;have x2:=zaa hg r2;have x3:=zaa hg r3;have y0:=zaa hg t0;have y1:=zaa hg t1;have y2:=zaa hg t2;have y3:=zaa hg t3;clear hg hb2 r0 r1 r2 r3 t0 t1 t2 t3)
          | (go_at_call 127;refine Calls.mono (entry_any _ _ _) ?_;rintro e w3 ⟨rfl,hg⟩;have hb4:Below wr.heap.size wr w3:=hb3.trans (hg.below.mono hb3.size);have k0:=zaa hg.below x0;have k1:=zaa hg.below x1;have k2:=zaa hg.below x2;have k3:=zaa hg.below x3;have n0:=zaa hg.below y0;have n1:=zaa hg.below y1;have n2:=zaa hg.below y2;have n3:=zaa hg.below y3;clear hg hb3 x0 x1 x2 x3 y0 y1 y2 y3;have hF1:Hid (Filled w.heap.size n w3 (entL ((l.take P).map f))):=HF.out.keeps hb4;obtain⟨v0,s0⟩:=Option.isSome_iff_exists.1 (hF1.out.there j hlt);have z0:=hF1.out.soft j hlt))
   have hput:=hF1.out.put (ordZ [f X,f Y]) (by rw [Hel.out];exact hlt)
   rw [Hel.out] at hput
   have Hput:Hid (Filled w.heap.size n (w3.setCell ⟨w.heap.size,j,none⟩ (.int .u32 (ordZ [f X,f Y]))) (entL ((l.take P).map f)++[ordZ [f X,f Y]])):=hput
   have hb5:Below w.heap.size w (w3.setCell ⟨w.heap.size,j,none⟩ (.int .u32 (ordZ [f X,f Y]))):=(HB.out.trans (hb4.mono HB.out.size)).setCell (p:=⟨w.heap.size,j,none⟩) (Nat.le_refl _) _
   generalize w3.setCell ⟨w.heap.size,j,none⟩ (.int .u32 (ordZ [f X,f Y]))=w4 at *
   clear hput hF1 s0 z0 k0 k1 k2 k3 n0 n1 n2 n3 hb4
   go_wp2_with fail
   go_roundg (n-(j+1))
   case measure=>have:=Hk.out;have hw:=Hwn.out;omega
   case rel=>
    have hw:=Hwn.out
    refine⟨j+1,by go_num,by omega,rfl,?_,hb5⟩
    have h1:=Hst.out
    rw [h1]
    exact Hput.out
  ·have hjl:j=n:=by omega
   have hd:=HF.out.done (entL_len _ _ (by have:=Hn.out;simp;omega)) (by have:=Hn.out;omega)
   have hh:=entL_half n (l.map f) (by rw [List.length_map];exact Hn.out.symm)
   rw [hjl,List.map_take,hh] at hd
   have Hd:Hid (IntsAt .u32 wr (entL (l.map f)) (.slice (some ⟨w.heap.size,0,none⟩) n n)):=hd
   clear hd hh HF hf hjl
   go_wp2_with fail
   go_ret
   exact⟨_,rfl,Hd.out,hbw⟩
theorem truth_any (n:Int) (w:World):Calls Tryz.prog 76 #[.int .i64 n] w fun e w'=>e=.returned (.int .u32 (if n=0 then 1237 else 1231))∧w'=w:=by
 by_cases h:n=0
 ·rw [if_pos h]
  go_enter Tryz.func76,Tryz.ntmps76
  go_wp2_with fail
  go_ret
  exact⟨rfl,rfl⟩
 ·rw [if_neg h]
  go_enter Tryz.func76,Tryz.ntmps76
  go_wp2_with fail
  go_ret
  exact⟨rfl,rfl⟩
theorem full_core (d:Nat) (f:VT→Int) (t:VT) (u:Value) (w:World) (hu:Lies (d+1) w t.items u) (hlen:t.items.length≤1024) (hs:t.kind=3→t.text.size≤256)
 (hf:Hid (∀(x:VT) (v:Value) (W:World),x∈t.items→Lies d W x.items v→
  Calls Tryz.prog 42 #[.agg #[.int .i64 x.kind,.int .i64 x.num,.string x.text,v]] W fun e W'=>e=.returned (.int .u32 (f x))∧Below W.heap.size W W')) :
 Calls Tryz.prog 42 #[.agg #[.int .i64 t.kind,.int .i64 t.num,.string t.text,u]] w fun e w'=>e=.returned (.int .u32 (fullN f t))∧Below w.heap.size w w':=by
 obtain⟨a,c,rfl,_⟩:=Lies.slice hu
 have HL:Hid (∀o,Lies (d+1) (w.alloc o) t.items (.slice a t.items.length c)):=fun o=>Lies.keeps ((Grew.refl w).alloc o).below _ _ _ hu
 clear hu
 have hal:∀o,Below w.heap.size w (w.alloc o):=fun o=>(Below.refl _ _).alloc (Nat.le_refl _) o
 have Hal:Hid (∀o,Below w.heap.size w (w.alloc o)):=hal
 clear hal
 by_cases h1:t.kind=1
 ·have hz:Hid (fullN f t=if t.num=0 then 1237 else 1231):=by show _=_;unfold fullN;rw [if_pos h1]
  clear hs hf
  go_enter Tryz.func42,Tryz.ntmps42
  go_wp2_with fail
  refine (truth_any _ _).mono ?_
  rintro e w1 ⟨rfl,rfl⟩
  rw [←hz.out]
  go_wp2_with fail
  go_ret
  exact⟨rfl,Hal.out _⟩
 ·by_cases h2:t.kind=2
  ·have hz:Hid (fullN f t=longZ t.num):=by show _=_;unfold fullN;rw [if_neg h1,if_pos h2]
   clear hs hf
   go_enter Tryz.func42,Tryz.ntmps42
   go_wp2_with fail
   refine (long_any _ _).mono ?_
   rintro e w1 ⟨rfl,hd⟩
   rw [←hz.out]
   have hb:=hd.grew.below
   go_wp2_with fail
   go_ret
   exact⟨rfl,(Hal.out _).trans (hb.mono (Hal.out _).size)⟩
  ·by_cases h3:t.kind=3
   ·have hz:Hid (fullN f t=intZ (javaZ (unL t.text))):=by show _=_;unfold fullN;rw [if_neg h1,if_neg h2,if_pos h3]
    have hs3:=hs h3
    clear hs hf
    go_enter Tryz.func42,Tryz.ntmps42
    go_wp2_with fail
    refine (units_any _ _ hs3).mono ?_
    rintro e w1 ⟨v,rfl,hi,hb⟩
    have hb1:Below w.heap.size w w1:=(Hal.out _).trans (hb.mono (Hal.out _).size)
    have HI:Hid (IntsAt .u16 w1 (unL t.text) v):=hi
    clear hb hi
    go_wp2_with fail
    refine (java_any _ _ _ HI.out).mono ?_
    rintro e w2 ⟨rfl,hd⟩
    have hb2:Below w.heap.size w w2:=hb1.trans (hd.grew.below.mono hb1.size)
    clear hd HI hb1
    go_wp2_with fail
    refine (mint_any _ _).mono ?_
    rintro e w3 ⟨rfl,hd⟩
    have hb3:Below w.heap.size w w3:=hb2.trans (hd.grew.below.mono hb2.size)
    clear hd hb2
    rw [←hz.out]
    go_wp2_with fail
    go_ret
    exact⟨rfl,hb3⟩
   ·by_cases h4:t.kind=4
    ·have hz:Hid (fullN f t=ordZ (t.items.map f)):=by show _=_;unfold fullN;rw [if_neg h1,if_neg h2,if_neg h3,if_pos h4]
     clear hs
     go_enter Tryz.func42,Tryz.ntmps42
     go_wp2_with fail
     refine (hashes_core d f t.items _ _ (HL.out _) hlen hf).mono ?_
     rintro e w1 ⟨v,rfl,hi,hb⟩
     have hb1:Below w.heap.size w w1:=(Hal.out _).trans (hb.mono (Hal.out _).size)
     have HI:Hid (IntsAt .u32 w1 (t.items.map f) v):=hi
     clear hb hi hf
     go_wp2_with fail
     refine (ordered_any _ _ _ HI.out).mono ?_
     rintro e w2 ⟨rfl,hd⟩
     have hb2:Below w.heap.size w w2:=hb1.trans (hd.grew.below.mono hb1.size)
     clear hd HI hb1
     rw [←hz.out]
     go_wp2_with fail
     go_ret
     exact⟨rfl,hb2⟩
    ·by_cases h5:t.kind=5
     ·have hz:Hid (fullN f t=unoZ (t.items.map f)):=by show _=_;unfold fullN;rw [if_neg h1,if_neg h2,if_neg h3,if_neg h4,if_pos h5]
      clear hs
      go_enter Tryz.func42,Tryz.ntmps42
      go_wp2_with fail
      refine (hashes_core d f t.items _ _ (HL.out _) hlen hf).mono ?_
      rintro e w1 ⟨v,rfl,hi,hb⟩
      have hb1:Below w.heap.size w w1:=(Hal.out _).trans (hb.mono (Hal.out _).size)
      have HI:Hid (IntsAt .u32 w1 (t.items.map f) v):=hi
      clear hb hi hf
      go_wp2_with fail
      refine (unordered_any _ _ _ HI.out).mono ?_
      rintro e w2 ⟨rfl,hd⟩
      have hb2:Below w.heap.size w w2:=hb1.trans (hd.grew.below.mono hb1.size)
      clear hd HI hb1
      rw [←hz.out]
      go_wp2_with fail
      go_ret
      exact⟨rfl,hb2⟩
     ·by_cases h6:t.kind=6
      ·have hz:Hid (fullN f t=unoZ (entL (t.items.map f))):=by show _=_;unfold fullN;rw [if_neg h1,if_neg h2,if_neg h3,if_neg h4,if_neg h5,if_pos h6]
       clear hs
       go_enter Tryz.func42,Tryz.ntmps42
       go_wp2_with fail
       refine (entries_core d f t.items _ _ (HL.out _) hlen hf).mono ?_
       rintro e w1 ⟨v,rfl,hi,hb⟩
       have hb1:Below w.heap.size w w1:=(Hal.out _).trans (hb.mono (Hal.out _).size)
       have HI:Hid (IntsAt .u32 w1 (entL (t.items.map f)) v):=hi
       clear hb hi hf
       go_wp2_with fail
       refine (unordered_any _ _ _ HI.out).mono ?_
       rintro e w2 ⟨rfl,hd⟩
       have hb2:Below w.heap.size w w2:=hb1.trans (hd.grew.below.mono hb1.size)
       clear hd HI hb1
       rw [←hz.out]
       go_wp2_with fail
       go_ret
       exact⟨rfl,hb2⟩
      ·have hz:Hid (fullN f t=0):=by show _=_;unfold fullN;rw [if_neg h1,if_neg h2,if_neg h3,if_neg h4,if_neg h5,if_neg h6]
       clear hs hf
       go_enter Tryz.func42,Tryz.ntmps42
       go_wp2_with fail
       go_ret
       rw [hz.out]
       exact⟨rfl,Hal.out _⟩
def Tex:Nat→VT→Prop
 | 0,t=>t.kind=3→t.text.size≤256
 | d+1,t=>(t.kind=3→t.text.size≤256)∧t.items.length≤1024∧∀x∈t.items,Tex d x
theorem full_any:∀(d:Nat) (t:VT) (u:Value) (w:World),Lies d w t.items u→Tex d t→
 Calls Tryz.prog 42 #[.agg #[.int .i64 t.kind,.int .i64 t.num,.string t.text,u]] w fun e w'=>e=.returned (.int .u32 (fullZ d t))∧Below w.heap.size w w':=by
 intro d
 induction d with
 | zero=>
  intro t u w hu ht
  have e1:t.items=[]:=hu.1
  exact full_core 0 (fun _=>0) t u w (Lies.deeper _ _ _ hu) (by rw [e1];simp) ht (fun x _ _ hx=>by rw [e1] at hx;cases hx)
 | succ d ih=>
  intro t u w hu ht
  exact full_core d (fullZ d) t u w hu ht.2.1 ht.1 (fun x v W hx hl=>ih x v W hl (ht.2.2 x hx))
theorem own_text {d:Nat} {t:VT} (h:ownV d t=true):t.kind=3→t.text.size≤256:=by
 intro h3
 simp only [ownV,Bool.and_eq_true,decide_eq_true_eq] at h
 obtain⟨_,_,_,ht,_⟩:=h
 simp only [okText,h3] at ht
 simp at ht
 exact ht.1
theorem tex_of:∀(d:Nat) (t:VT),Sm d t→rpV d t=true→Tex d t:=by
 intro d
 induction d with
 | zero=>intro t _ hr;exact own_text hr
 | succ d ih=>
  intro t hs hr
  simp only [rpV,Bool.and_eq_true,List.all_eq_true] at hr
  exact⟨own_text hr.2,hs.1,fun x hx=>ih x (hs.2 x hx) (hr.1 x hx)⟩
theorem tex_right {d:Nat} {t:VT} (h:zab d t=true):Tex d t:=by
 unfold zab at h
 rw [Bool.and_eq_true] at h
 exact tex_of d t (fw_small d t 16 1024 (by omega) (by omega) h.1) h.2
def fullA (d:Nat) (t:VT):Int:=if zab d t then fullZ d t else 0
theorem pfull_any (d:Nat) (t:VT) (u:Value) (w:World) (hu:Lies d w t.items u) (hs:t.text.size≤9223372036854775807) :
 Calls Tryz.prog 14 #[.agg #[.int .i64 t.kind,.int .i64 t.num,.string t.text,u]] w fun e w'=>e=.returned (.tuple #[.int .u32 (fullA d t),.int .i64 (errOf (zab d t))])∧Below w.heap.size w w':=by
 obtain⟨a,c,rfl,_⟩:=Lies.slice hu
 have HL:Hid (Lies d w t.items (.slice a t.items.length c)):=hu
 clear hu
 go_enter Tryz.func14,Tryz.ntmps14
 go_wp2_with fail
 refine (check_any d t _ _ (Lies.keeps ((Grew.refl w).alloc _).below _ _ _ HL.out) hs).mono ?_
 rintro e w1 ⟨rfl,hb⟩
 have hb1:Below w.heap.size w w1:=((Grew.refl w).alloc _).below.trans (hb.mono (by simp))
 obtain⟨c0,c1,c2,c3⟩:=(zat w t.kind t.num t.text (.slice a t.items.length c) 24).keeps hb
 clear hb
 cases hr:zab d t
 ·have he:errOf false=3:=rfl
  have hz:Hid (fullA d t=0):=by show _=_;unfold fullA;rw [hr];rfl
  have hz2:Hid (errOf (zab d t)=3):=by show _=_;rw [hr];rfl
  rw [he]
  go_wp2_with fail
  go_ret2
  rw [hz.out,hz2.out]
  exact⟨rfl,hb1⟩
 ·have he:errOf true=0:=rfl
  have hz:Hid (fullA d t=fullZ d t):=by show _=_;unfold fullA;rw [hr];rfl
  have hz2:Hid (errOf (zab d t)=0):=by show _=_;rw [hr];rfl
  have ht:Hid (Tex d t):=tex_right hr
  rw [he]
  clear hr
  go_wp2_with fail
  refine (full_any d t _ _ (Lies.keeps hb1 _ _ _ HL.out) ht.out).mono ?_
  rintro e w2 ⟨rfl,hb⟩
  have hb2:Below w.heap.size w w2:=hb1.trans (hb.mono hb1.size)
  clear hb hb1 c0 c1 c2 c3
  go_wp2_with fail
  go_ret2
  rw [hz.out,hz2.out]
  exact⟨rfl,hb2⟩
end Go.Proofs.YtlnecfjnffdciacGreat
