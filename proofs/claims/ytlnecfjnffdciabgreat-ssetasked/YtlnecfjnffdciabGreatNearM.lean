import Derived.Test.YtlnecfjnffdciabGreatRHave14
import Derived.Test.YtlnecfjnffdciabGreatAppR
import Derived.Deep.CutBlock
namespace Go.Proofs.YtlnecfjnffdciabGreat
open Go.RowKit Go.Shelf
def cmpO (q:Nat) (a b:PP):Int:=ordV q a.1.1 b.1.1
theorem cmpO_3 (q:Nat):Cmp3 (cmpO q):=by
 have h:=byK_cmp q
 refine⟨fun x y=>zar q x.1.1 y.1.1,fun a b c h1 h2=>?_,fun a b c h1 h2=>?_,fun a b c h1 h2=>?_⟩
 ·exact RT.Cmp.trans' h (a:=trT a) (b:=trT b) (c:=trT c) h1 h2
 ·exact h.trans (trT a) (trT b) (trT c) h1 h2
 ·by_cases hn:cmpO q a c≤0
  ·exact hn
  ·exfalso
   have e1:byK q (trT c) (trT a)<0:=(h.flip _ _).2 (by show 0<cmpO q a c;omega)
   have e2:byK q (trT c) (trT b)<0:=RT.Cmp.trans' h e1 h1
   have e3:0<byK q (trT b) (trT c):=(h.flip _ _).1 e2
   have e4:byK q (trT b) (trT c)≤0:=h2
   omega
theorem own_sliceQ {w:World} {base e sz n:Nat} {v:Value} {xs:List Value} (h:w.ownsRow base e sz v n xs):∃a c,v=.slice a n c:=by
 rcases h.2 with ⟨rfl,e⟩|⟨g,cap,_,rfl,_⟩
 ·exact⟨none,0,by rw [e]⟩
 ·exact⟨_,_,rfl⟩
def BdP (q:Nat) (rs:List PP) (w:World) (e:Ending) (w':World):Prop:=Below w.heap.size w w'∧∃(b:Nat) (v:Value),e=.returned (.pointer (some ⟨b,0,none⟩))∧w'.cell? ⟨b,0,none⟩=some (.int .i64 (q:Int))∧w'.cell? ⟨b,1,none⟩=some v∧SlQ 0 16 w' rs v
def MgB (q:Nat) (ps rs R:List PP) (w2 wr:World) (i k no:Nat) (v:Value) (ds:List PP):Prop:=
 Box2 wr w2.heap.size 98 (.int .i64 (q:Int)) v∧wr.ownsRow w2.heap.size 108 8 v no (ds.flatMap encQ)∧no=ds.length∧ds++mrgK (cmpO q) (ps.drop i) (rs.drop k)=R∧Below w2.heap.size w2 wr∧no+(ps.length-i)+(rs.length-k)≤200000
theorem MgB.start (q:Nat) (ps rs:List PP) (w2:World) (h:ps.length+rs.length≤131072):MgB q ps rs (mrgK (cmpO q) ps rs) w2 (w2.alloc (.cells #[.int .i64 (q:Int),.slice none 0 0] 98)) 0 0 0 (.slice none 0 0) []:=
 ⟨Box2.new w2 _ _ _,World.ownsRow_nil _ _ _ _,rfl,rfl,((Grew.refl w2).alloc _).below,by omega⟩
theorem MgB.step {q:Nat} {ps rs R:List PP} {w2 wr:World} {i k no:Nat} {v:Value} {ds:List PP} (h:MgB q ps rs R w2 wr i k no v ds) {w9:World} {v9:Value} (x:PP) {i' k':Nat} (hb:Box2 w9 w2.heap.size 98 (.int .i64 (q:Int)) v9) (ho:w9.ownsRow w2.heap.size 108 8 v9 (no+1) (ds.flatMap encQ++encQ x)) (hw:Below w2.heap.size w2 w9) (he:x::mrgK (cmpO q) (ps.drop i') (rs.drop k')=mrgK (cmpO q) (ps.drop i) (rs.drop k)) (hs:(ps.length-i')+(rs.length-k')+1≤(ps.length-i)+(rs.length-k)):MgB q ps rs R w2 w9 i' k' (no+1) v9 (ds++[x]):=by
 obtain⟨_,_,h3,h4,_,h6⟩:=h
 refine⟨hb,?_,?_,?_,hw,by omega⟩
 ·rw [List.flatMap_append,show [x].flatMap encQ=encQ x by simp];exact ho
 ·rw [List.length_append,←h3];rfl
 ·rw [←h4,←he,List.append_assoc,List.singleton_append]
theorem mg_lt {q:Nat} {ps rs:List PP} {i k:Nat} (h1:i<ps.length) (h2:k<rs.length) {x z:PP} (ex:x=ps[i]) (ez:z=rs[k]) (h:ordV q x.1.1 z.1.1<0):x::mrgK (cmpO q) (ps.drop (i+1)) (rs.drop k)=mrgK (cmpO q) (ps.drop i) (rs.drop k):=by
 have h':cmpO q x z<0:=h
 rw [List.drop_eq_getElem_cons h1,List.drop_eq_getElem_cons h2,←ex,←ez,mrgK_step,if_pos h']
theorem mg_eq {q:Nat} {ps rs:List PP} {i k:Nat} (h1:i<ps.length) (h2:k<rs.length) {x z:PP} (ex:x=ps[i]) (ez:z=rs[k]) (h:ordV q x.1.1 z.1.1=0):z::mrgK (cmpO q) (ps.drop (i+1)) (rs.drop (k+1))=mrgK (cmpO q) (ps.drop i) (rs.drop k):=by
 have h':cmpO q x z=0:=h
 rw [List.drop_eq_getElem_cons h1,List.drop_eq_getElem_cons h2,←ex,←ez,mrgK_step,if_neg (by omega),if_pos h']
theorem mg_gt {q:Nat} {ps rs:List PP} {i k:Nat} (h1:i<ps.length) (h2:k<rs.length) {x z:PP} (ex:x=ps[i]) (ez:z=rs[k]) (h:0<ordV q x.1.1 z.1.1):z::mrgK (cmpO q) (ps.drop i) (rs.drop (k+1))=mrgK (cmpO q) (ps.drop i) (rs.drop k):=by
 have h':0<cmpO q x z:=h
 rw [List.drop_eq_getElem_cons h1,List.drop_eq_getElem_cons h2,←ex,←ez,mrgK_step,if_neg (by omega),if_neg (by omega)]
theorem mg_l {q:Nat} {ps rs:List PP} {i k:Nat} (h1:i<ps.length) (h2:rs.length≤k) {x:PP} (ex:x=ps[i]):x::mrgK (cmpO q) (ps.drop (i+1)) (rs.drop k)=mrgK (cmpO q) (ps.drop i) (rs.drop k):=by
 rw [List.drop_eq_getElem_cons h1,List.drop_eq_nil_of_le h2,←ex,mrgK_right,mrgK_right]
theorem mg_r {q:Nat} {ps rs:List PP} {i k:Nat} (h1:ps.length≤i) (h2:k<rs.length) {z:PP} (ez:z=rs[k]):z::mrgK (cmpO q) (ps.drop i) (rs.drop (k+1))=mrgK (cmpO q) (ps.drop i) (rs.drop k):=by
 rw [List.drop_eq_getElem_cons h2,List.drop_eq_nil_of_le h1,←ez,za1,za1]
theorem MgB.done {q:Nat} {ps rs R:List PP} {w w2 wr:World} {i k no:Nat} {av:Option Addr} {cv:Nat} {ds:List PP} (h:MgB q ps rs R w2 wr i k no (.slice av no cv) ds) (hi:ps.length≤i) (hk:rs.length≤k) (hw:Below w.heap.size w w2) (hg:∀p∈R,GoodQ 16 w2 p) (hl:R.length≤131072):BdP q R w (.returned (.pointer (some ⟨w2.heap.size,0,none⟩))) wr:=by
 obtain⟨h1,h2,h3,h4,h5,_⟩:=h
 rw [List.drop_eq_nil_of_le hi,List.drop_eq_nil_of_le hk,za1,List.append_nil] at h4
 subst h4
 obtain⟨g0,g1,_,_⟩:=h1.cells
 exact⟨hw.trans (h5.mono hw.size),_,_,rfl,g0,g1,(SlQ.of_own h3 h2 (fun p hp=>(hg p hp).keeps h5) (by omega)).mono (Nat.zero_le _)⟩
end Go.Proofs.YtlnecfjnffdciabGreat

namespace Go.Proofs.YtlnecfjnffdciabGreat
open Go.RowKit Go.Shelf
structure Bx2 (W:World) (n:Nat) (u v:Value):Prop where
 c0:W.cell? ⟨n,0,none⟩=some u
 c1:W.cell? ⟨n,1,none⟩=some v
 f0:W.frozen? ⟨n,0,none⟩=false
 f1:W.frozen? ⟨n,1,none⟩=false
theorem Bx2.keeps {W W':World} {n:Nat} {u v:Value} (h:Bx2 W n u v) (hb:Below W.heap.size W W'):Bx2 W' n u v:=by
 have hl:n<W.heap.size:=zad h.c0
 exact⟨zaa hb h.c0,zaa hb h.c1,(hb.frozen (p:=⟨n,0,none⟩) hl).trans h.f0,(hb.frozen (p:=⟨n,1,none⟩) hl).trans h.f1⟩
theorem za3 (w:World) (T:Nat) (u v:Value):Bx2 (w.alloc (.cells #[u,v] T)) w.heap.size u v:=by
 refine⟨?_,?_,?_,?_⟩ <;> simp
theorem Bx2.put {W:World} {n:Nat} {u v:Value} (h:Bx2 W n u v) (u' v':Value):Bx2 (W.setCells n 0 [u',v']) n u' v':=by
 have hin:∀j (hj:j<[u',v'].length),(W.setCells n 0 [u',v']).cell? ⟨n,0+j,none⟩=some ([u',v'][j]):=
  World.cell?_setCells_in n _ 0 W (fun j hj=>by
   match j,hj with
   | 0,_=>rw [h.c0];rfl
   | 1,_=>rw [h.c1];rfl)
 have q0:=hin 0 (by simp);have q1:=hin 1 (by simp)
 refine⟨by simpa using q0,by simpa using q1,?_,?_⟩
 ·rw [World.frozen?_setCells];exact h.f0
 ·rw [World.frozen?_setCells];exact h.f1
theorem below_pt15 {n0:Nat} {w W:World} (h:Below n0 w W) {n:Nat} (hn:n0≤n) (u v:Value):Below n0 w (W.setCells n 0 [u,v]):=
 (h.setCell (p:=⟨n,0,none⟩) hn _).setCell (p:=⟨n,0+1,none⟩) hn _
def zbh (q:Nat) (p:Option Addr) (w:World) (e:Ending) (w':World):Prop:=e=.returned (.agg #[.int .i64 (q:Int),.pointer p])∧Below w.heap.size w w'
set_option maxRecDepth 100000 in
set_option maxHeartbeats 4000000 in
theorem whole_15 (b q:Nat) (p:Option Addr) (w:World) (ho:w.cell? ⟨b,0,none⟩=some (.int .i64 (q:Int))) (hp:w.cell? ⟨b,1,none⟩=some (.pointer p)):Calls Tryz.prog 191 #[.pointer (some ⟨b,0,none⟩)] w (zbh q p w):=by
 have hlt:b<w.heap.size:=zad ho
 obtain⟨W0,hW0⟩:∃W0,W0=w.alloc (.cells #[.int .i64 0,.pointer none] 246):=⟨_,rfl⟩
 have HW:Hid (W0=w.alloc (.cells #[.int .i64 0,.pointer none] 246)):=hW0
 have hb0:Below w.heap.size w W0:=by rw [hW0];exact ((Grew.refl w).alloc _).below
 have HZ:Hid (Bx2 W0 w.heap.size (.int .i64 0) (.pointer none)):=by rw [hW0];exact za3 _ _ _ _
 obtain⟨y0,y1,f0,f1⟩:=HZ.out
 have m0:=zaa hb0 ho
 have m1:=zaa hb0 hp
 have n1 : ¬b=w.heap.size:=by omega
 have n2 : ¬w.heap.size=b:=by omega
 have HB:Hid (Below w.heap.size w W0):=hb0
 clear hW0 ho hp hlt hb0
 go_enter Tryz.func191,Tryz.ntmps191
 go_wp2_with fail
 rw [←HW.out]
 refine (own_14 _ _).mono ?_
 rintro e w1 ⟨rfl,hw1⟩
 subst hw1
 clear HW
 go_wp2_with fail
 go_region
 go_wp2_with fail
 have HQ:Hid _:=HZ.out.put (.int .i64 (q:Int)) (.pointer p)
 refine bodyPost_ret (v:=.agg #[.int .i64 (q:Int),.pointer p]) ?_ rfl ⟨rfl,(below_pt15 HB.out (Nat.le_refl _) (.int .i64 (q:Int)) (.pointer p)).drew⟩
 obtain⟨q0,q1,_,_⟩:=HQ.out
 simp only [World.setCells,Nat.zero_add] at q0 q1
 simp [results,Tryz.results191,go_sem,q0,q1]
set_option maxRecDepth 100000 in
set_option maxHeartbeats 4000000 in
theorem plen_15 {X:Nat→Prop} {d:Nat} {w:World} {t:RT PT} {p:Option Addr} (q:Nat) (hn:NM X d w t p):Calls Tryz.prog 192 #[.agg #[.int .i64 (q:Int),.pointer p]] w fun e w'=>e=.returned (.int .i64 (t.size:Nat))∧Below w.heap.size w w':=by
 have HM:Hid (∀V,Below w.heap.size w V→Calls Tryz.prog 113 #[.pointer p] V (zah (t.size:Int) (t.high:Int) (t.blacks:Int) V)):=fun V hV=>zak (hn.keeps hV)
 have HB:Hid (∀A,Below w.heap.size w (w.alloc A)):=fun A=>((Grew.refl w).alloc A).below
 have hf1:∀W:World,(Instr.field 171 (.agg #[.int .i64 t.size,.int .i64 t.high,.int .i64 t.blacks]) 0).run Tryz.prog W=.ok (.int .i64 (t.size:Nat)) W:=fun W=>za4 _ _ _ W
 clear hn
 go_enter Tryz.func192,Tryz.ntmps192
 go_wp2_with fail
 refine Calls.mono (HM.out _ (HB.out _)) ?_
 rintro e w2 ⟨hb,rfl⟩
 have hb2:Below w.heap.size w w2:=(HB.out _).trans (hb.mono (HB.out _).size)
 clear hb HB HM
 go_wp2_with fail
 go_ret
 exact⟨rfl,hb2⟩
set_option maxRecDepth 100000 in
set_option maxHeartbeats 4000000 in
theorem pahead_15 (q b:Nat) (pl pr:Option Addr) (x:PT) (ku vu:Value) (c:Bool) (s h k:Nat) (w:World) (hn:NCells w b pl pr x ku vu c s h k):Calls Tryz.prog 193 #[.agg #[.int .i64 (q:Int),.pointer (some ⟨b,0,none⟩)]] w (zbh q pl w):=by
 have hlt:b<w.heap.size:=zad hn.left
 obtain⟨W0,hW0⟩:∃W0,W0=(w.alloc (.cells #[.int .i64 (q:Int),.pointer (some ⟨b,0,none⟩)] 246)).alloc (.cells #[.int .i64 0,.pointer none] 246):=⟨_,rfl⟩
 have HW:Hid (W0=(w.alloc (.cells #[.int .i64 (q:Int),.pointer (some ⟨b,0,none⟩)] 246)).alloc (.cells #[.int .i64 0,.pointer none] 246)):=hW0
 have hb0:Below w.heap.size w W0:=by rw [hW0];exact (((Grew.refl w).alloc _).alloc _).below
 have HA:Hid (Bx2 W0 w.heap.size (.int .i64 (q:Int)) (.pointer (some ⟨b,0,none⟩))):=by rw [hW0];exact (za3 _ _ _ _).keeps ((Grew.refl _).alloc _).below
 have HZ:Hid (Bx2 W0 (w.heap.size+1) (.int .i64 0) (.pointer none)):=by
  rw [hW0]
  have h9:=za3 (w.alloc (.cells #[.int .i64 (q:Int),.pointer (some ⟨b,0,none⟩)] 246)) 246 (.int .i64 0) (.pointer none)
  rwa [World.size_alloc] at h9
 obtain⟨x0,x1,_,_⟩:=HA.out
 obtain⟨y0,y1,f0,f1⟩:=HZ.out
 have m0:=zaa hb0 hn.left
 have n1 : ¬b=w.heap.size+1:=by omega
 have n2 : ¬w.heap.size+1=b:=by omega
 have n3 : ¬w.heap.size=w.heap.size+1:=by omega
 have n4 : ¬w.heap.size+1=w.heap.size:=by omega
 have HB:Hid (Below w.heap.size w W0):=hb0
 clear hW0 hn hlt hb0
 go_enter Tryz.func193,Tryz.ntmps193
 go_upto_region 1 with fail
 rw [←HW.out]
 clear HW
 go_wp2_with fail
 go_region
 go_wp2_with fail
 have HQ:Hid _:=HZ.out.put (.int .i64 (q:Int)) (.pointer pl)
 refine bodyPost_ret (v:=.agg #[.int .i64 (q:Int),.pointer pl]) ?_ rfl ⟨rfl,(below_pt15 HB.out (Nat.le_succ _) (.int .i64 (q:Int)) (.pointer pl)).drew⟩
 obtain⟨q0,q1,_,_⟩:=HQ.out
 simp only [World.setCells,Nat.zero_add] at q0 q1
 simp [results,Tryz.results193,go_sem,q0,q1]
set_option maxRecDepth 100000 in
set_option maxHeartbeats 4000000 in
theorem pbehind_15 (q b:Nat) (pl pr:Option Addr) (x:PT) (ku vu:Value) (c:Bool) (s h k:Nat) (w:World) (hn:NCells w b pl pr x ku vu c s h k):Calls Tryz.prog 194 #[.agg #[.int .i64 (q:Int),.pointer (some ⟨b,0,none⟩)]] w (zbh q pr w):=by
 have hlt:b<w.heap.size:=zad hn.left
 obtain⟨W0,hW0⟩:∃W0,W0=(w.alloc (.cells #[.int .i64 (q:Int),.pointer (some ⟨b,0,none⟩)] 246)).alloc (.cells #[.int .i64 0,.pointer none] 246):=⟨_,rfl⟩
 have HW:Hid (W0=(w.alloc (.cells #[.int .i64 (q:Int),.pointer (some ⟨b,0,none⟩)] 246)).alloc (.cells #[.int .i64 0,.pointer none] 246)):=hW0
 have hb0:Below w.heap.size w W0:=by rw [hW0];exact (((Grew.refl w).alloc _).alloc _).below
 have HA:Hid (Bx2 W0 w.heap.size (.int .i64 (q:Int)) (.pointer (some ⟨b,0,none⟩))):=by rw [hW0];exact (za3 _ _ _ _).keeps ((Grew.refl _).alloc _).below
 have HZ:Hid (Bx2 W0 (w.heap.size+1) (.int .i64 0) (.pointer none)):=by
  rw [hW0]
  have h9:=za3 (w.alloc (.cells #[.int .i64 (q:Int),.pointer (some ⟨b,0,none⟩)] 246)) 246 (.int .i64 0) (.pointer none)
  rwa [World.size_alloc] at h9
 obtain⟨x0,x1,_,_⟩:=HA.out
 obtain⟨y0,y1,f0,f1⟩:=HZ.out
 have m0:=zaa hb0 hn.right
 have n1 : ¬b=w.heap.size+1:=by omega
 have n2 : ¬w.heap.size+1=b:=by omega
 have n3 : ¬w.heap.size=w.heap.size+1:=by omega
 have n4 : ¬w.heap.size+1=w.heap.size:=by omega
 have HB:Hid (Below w.heap.size w W0):=hb0
 clear hW0 hn hlt hb0
 go_enter Tryz.func194,Tryz.ntmps194
 go_upto_region 1 with fail
 rw [←HW.out]
 clear HW
 go_wp2_with fail
 go_region
 go_wp2_with fail
 have HQ:Hid _:=HZ.out.put (.int .i64 (q:Int)) (.pointer pr)
 refine bodyPost_ret (v:=.agg #[.int .i64 (q:Int),.pointer pr]) ?_ rfl ⟨rfl,(below_pt15 HB.out (Nat.le_succ _) (.int .i64 (q:Int)) (.pointer pr)).drew⟩
 obtain⟨q0,q1,_,_⟩:=HQ.out
 simp only [World.setCells,Nat.zero_add] at q0 q1
 simp [results,Tryz.results194,go_sem,q0,q1]
end Go.Proofs.YtlnecfjnffdciabGreat

namespace Go.Proofs.YtlnecfjnffdciabGreat
open Go.RowKit Go.Shelf
set_option maxRecDepth 100000 in
set_option maxHeartbeats 8000000 in
theorem ppair_15 (q b:Nat) (pl pr:Option Addr) (x:PT) (ku vu:Value) (c:Bool) (s h k:Nat) (w:World) (hn:NCells w b pl pr x ku vu c s h k) (hk:Lies 16 w x.1.items ku) (hv:Lies 16 w x.2.items vu) (hr:zab 16 x.1=true∧zab 16 x.2=true):Calls Tryz.prog 195 #[.agg #[.int .i64 (q:Int),.pointer (some ⟨b,0,none⟩)]] w (zbf x w):=by
 obtain⟨ak,ck,rfl,_⟩:=Lies.slice hk
 obtain⟨av,cv,rfl,_⟩:=Lies.slice hv
 have HCp:Hid (∀V,Below w.heap.size w V→Calls Tryz.prog 137 #[.agg #[.int .i64 x.1.kind,.int .i64 x.1.num,.string x.1.text,.slice ak x.1.items.length ck,.int .i64 x.2.kind,.int .i64 x.2.num,.string x.2.text,.slice av x.2.items.length cv]] V (zbf x V)):=fun V hV=>copied_14 x _ _ V (Lies.keeps hV _ _ _ hk) (Lies.keeps hV _ _ _ hv) hr
 have hlt:b<w.heap.size:=zad hn.left
 obtain⟨W0,hW0⟩:∃W0,W0=(w.alloc (.cells #[.int .i64 (q:Int),.pointer (some ⟨b,0,none⟩)] 246)).alloc (.cells #[.int .i64 0,.int .i64 0,.string ⟨#[]⟩,.slice none 0 0,.int .i64 0,.int .i64 0,.string ⟨#[]⟩,.slice none 0 0] 108):=⟨_,rfl⟩
 have HW:Hid (W0=(w.alloc (.cells #[.int .i64 (q:Int),.pointer (some ⟨b,0,none⟩)] 246)).alloc (.cells #[.int .i64 0,.int .i64 0,.string ⟨#[]⟩,.slice none 0 0,.int .i64 0,.int .i64 0,.string ⟨#[]⟩,.slice none 0 0] 108)):=hW0
 have hb0:Below w.heap.size w W0:=by rw [hW0];exact (((Grew.refl w).alloc _).alloc _).below
 have hs0:W0.heap.size=w.heap.size+1+1:=by rw [hW0];simp
 have HA:Hid (Bx2 W0 w.heap.size (.int .i64 (q:Int)) (.pointer (some ⟨b,0,none⟩))):=by rw [hW0];exact (za3 _ _ _ _).keeps ((Grew.refl _).alloc _).below
 have HZ:Hid (Bx8 W0 (w.heap.size+1) (.int .i64 0) (.int .i64 0) (.string ⟨#[]⟩) (.slice none 0 0) (.int .i64 0) (.int .i64 0) (.string ⟨#[]⟩) (.slice none 0 0)):=by
  rw [hW0]
  have h9:=zan (w.alloc (.cells #[.int .i64 (q:Int),.pointer (some ⟨b,0,none⟩)] 246)) 108 (.int .i64 0) (.int .i64 0) (.string ⟨#[]⟩) (.slice none 0 0) (.int .i64 0) (.int .i64 0) (.string ⟨#[]⟩) (.slice none 0 0)
  rwa [World.size_alloc] at h9
 obtain⟨x0,x1,_,_⟩:=HA.out
 obtain⟨_,_,m2,m3,m4,m5,m6,m7,m8,m9,_,_,_,_⟩:=hn.keeps hb0
 have HB:Hid (Below w.heap.size w W0):=hb0
 have HS:Hid (W0.heap.size=w.heap.size+1+1):=hs0
 clear hW0 hn hlt hb0 hs0 hk hv hr
 go_enter Tryz.func195,Tryz.ntmps195
 go_upto_region 1 with fail
 rw [←HW.out]
 clear HW
 go_wp2_with fail
 refine Calls.mono (HCp.out _ HB.out) ?_
 rintro e w6 ⟨ku',vu',rfl,hl5,hl6,hbc⟩
 obtain⟨a5,c5,rfl,_⟩:=LiesB.slice hl5
 obtain⟨a6,c6,rfl,_⟩:=LiesB.slice hl6
 have HZ6:Hid (Bx8 w6 (w.heap.size+1) (.int .i64 0) (.int .i64 0) (.string ⟨#[]⟩) (.slice none 0 0) (.int .i64 0) (.int .i64 0) (.string ⟨#[]⟩) (.slice none 0 0)):=HZ.out.keeps hbc
 obtain⟨y0,y1,y2,y3,y4,y5,y6,y7,f0,f1,f2,f3,f4,f5,f6,f7,_⟩:=HZ6.out
 have Hq:Hid _:=zaz HZ6.out (.int .i64 x.1.kind) (.int .i64 x.1.num) (.string x.1.text) (.slice a5 x.1.items.length c5) (.int .i64 x.2.kind) (.int .i64 x.2.num) (.string x.2.text) (.slice a6 x.2.items.length c6)
 have hbz:Below w.heap.size w w6:=HB.out.trans (hbc.mono HB.out.size)
 have HE:Hid (zbf x w (.returned (.agg #[.int .i64 x.1.kind,.int .i64 x.1.num,.string x.1.text,.slice a5 x.1.items.length c5,.int .i64 x.2.kind,.int .i64 x.2.num,.string x.2.text,.slice a6 x.2.items.length c6])) (w6.setCells (w.heap.size+1) 0 [.int .i64 x.1.kind,.int .i64 x.1.num,.string x.1.text,.slice a5 x.1.items.length c5,.int .i64 x.2.kind,.int .i64 x.2.num,.string x.2.text,.slice a6 x.2.items.length c6])):=⟨_,_,rfl,LiesB.lower14 HB.out.size _ _ _ (LiesB.put8 (by have:=HS.out;omega) _ hl5),LiesB.lower14 HB.out.size _ _ _ (LiesB.put8 (by have:=HS.out;omega) _ hl6),zam hbz (by omega) _ _ _ _ _ _ _ _⟩
 clear hl5 hl6 hbc hbz m2 m3 m4 m5 m6 m7 m8 m9 x0 x1 HCp
 go_wp2_with fail
 refine bodyPost_ret (v:=.agg #[.int .i64 x.1.kind,.int .i64 x.1.num,.string x.1.text,.slice a5 x.1.items.length c5,.int .i64 x.2.kind,.int .i64 x.2.num,.string x.2.text,.slice a6 x.2.items.length c6]) ?_ rfl HE.out
 obtain⟨q0,q1,q2,q3,q4,q5,q6,q7⟩:=Hq.out
 simp only [World.setCells,Nat.zero_add,Nat.reduceAdd] at q0 q1 q2 q3 q4 q5 q6 q7
 simp [results,Tryz.results195,go_sem,q0,q1,q2,q3,q4,q5,q6,q7]
set_option maxRecDepth 100000 in
set_option maxHeartbeats 8000000 in
theorem stand_core (q b:Nat) (y:VT) (yu:Value) (pl pr:Option Addr) (x:PT) (ku vu:Value) (c:Bool) (s h k:Nat) (R:Int) (w:World) (hn:NCells w b pl pr x ku vu c s h k)
 (hc:∀V,Below w.heap.size w V→Calls Tryz.prog 216 #[.int .i64 (q:Int),.agg #[.int .i64 y.kind,.int .i64 y.num,.string y.text,yu],.agg #[.int .i64 x.1.kind,.int .i64 x.1.num,.string x.1.text,ku]] V fun e w'=>e=.returned (.tuple #[.int .i64 R,.int .i64 0])∧Below V.heap.size V w') :
 Calls Tryz.prog 205 #[.agg #[.int .i64 (q:Int),.pointer (some ⟨b,0,none⟩)],.agg #[.int .i64 y.kind,.int .i64 y.num,.string y.text,yu]] w fun e w'=>e=.returned (.int .i64 R)∧Below w.heap.size w w':=by
 have HC:Hid _:=hc
 obtain⟨W0,hW0⟩:∃W0,W0=(w.alloc (.cells #[.int .i64 (q:Int),.pointer (some ⟨b,0,none⟩)] 246)).alloc (.cells #[.int .i64 y.kind,.int .i64 y.num,.string y.text,yu] 33):=⟨_,rfl⟩
 have HW:Hid (W0=(w.alloc (.cells #[.int .i64 (q:Int),.pointer (some ⟨b,0,none⟩)] 246)).alloc (.cells #[.int .i64 y.kind,.int .i64 y.num,.string y.text,yu] 33)):=hW0
 have hb0:Below w.heap.size w W0:=by rw [hW0];exact (((Grew.refl w).alloc _).alloc _).below
 have HA:Hid (Bx2 W0 w.heap.size (.int .i64 (q:Int)) (.pointer (some ⟨b,0,none⟩))):=by rw [hW0];exact (za3 _ _ _ _).keeps ((Grew.refl _).alloc _).below
 have HY:Hid (Bx W0 (w.heap.size+1) y yu):=by
  rw [hW0]
  have h9:=zag (w.alloc (.cells #[.int .i64 (q:Int),.pointer (some ⟨b,0,none⟩)] 246)) y yu
  rwa [World.size_alloc] at h9
 obtain⟨x0,x1,_,_⟩:=HA.out
 obtain⟨y0,y1,y2,y3,_,_,_,_⟩:=HY.out
 obtain⟨_,_,m2,m3,m4,m5,_,_,_,_,_,_,_,_⟩:=hn.keeps hb0
 have HB:Hid (Below w.heap.size w W0):=hb0
 clear hW0 hn hb0 hc
 go_enter Tryz.func205,Tryz.ntmps205
 go_upto_region 1 with fail
 rw [←HW.out]
 clear HW
 go_wp2_with fail
 go_region_held3 (fun w'=>w'.cell? ⟨w.heap.size,0,none⟩=some (.int .i64 (q:Int))∧w'.cell? ⟨w.heap.size,1,none⟩=some (.pointer (some ⟨b,0,none⟩))∧w'.cell? ⟨w.heap.size+1,0,none⟩=some (.int .i64 y.kind)∧w'.cell? ⟨w.heap.size+1,1,none⟩=some (.int .i64 y.num)∧w'.cell? ⟨w.heap.size+1,2,none⟩=some (.string y.text)∧w'.cell? ⟨w.heap.size+1,3,none⟩=some yu∧w'.cell? ⟨b,2,none⟩=some (.int .i64 x.1.kind)∧w'.cell? ⟨b,3,none⟩=some (.int .i64 x.1.num)∧w'.cell? ⟨b,4,none⟩=some (.string x.1.text)∧w'.cell? ⟨b,5,none⟩=some ku) (go_keep)
  (first|(go_at_call 216;(with_reducible refine Calls.mono (HC.out _ HB.out.drew) ?_);rintro e w1 ⟨rfl,hg'⟩;have hg:Below W0.heap.size W0 w1:=(Below.refl _ _).drew.trans hg';have x0:=zaa hg x0;have x1:=zaa hg x1;have y0:=zaa hg y0;have y1:=zaa hg y1;have y2:=zaa hg y2;have y3:=zaa hg y3;have m2:=zaa hg m2;have m3:=zaa hg m3;have m4:=zaa hg m4;have m5:=zaa hg m5;clear hg'))
 have HE:Hid (Below w.heap.size w w1):=HB.out.trans (hg.mono HB.out.size)
 clear hg x0 x1 y0 y1 y2 y3 m2 m3 m4 m5 HC
 go_wp2_with fail
 go_ret
 exact⟨rfl,HE.out⟩
theorem stand_15 (q b:Nat) (hq:q<6) (y:VT) (yu:Value) (pl pr:Option Addr) (x:PT) (ku vu:Value) (c:Bool) (s h k:Nat) (w:World) (hn:NCells w b pl pr x ku vu c s h k) (hy:Lies 16 w y.items yu) (hyt:y.text.size≤9223372036854775807) (hyr:zab 16 y=true) (hk:Lies 16 w x.1.items ku) (hkt:x.1.text.size≤9223372036854775807) (hr:zab 16 x.1=true) :
 Calls Tryz.prog 205 #[.agg #[.int .i64 (q:Int),.pointer (some ⟨b,0,none⟩)],.agg #[.int .i64 y.kind,.int .i64 y.num,.string y.text,yu]] w fun e w'=>e=.returned (.int .i64 (atK q y x))∧Below w.heap.size w w':=
 stand_core q b y yu pl pr x ku vu c s h k _ w hn fun V hV=>by
  have h9:=compareO_any 16 (q:Int) y x.1 yu ku V (Lies.keeps hV _ _ _ hy) (Lies.keeps hV _ _ _ hk) hyt hkt
  rw [(ordR_right q hq y x.1 hyr hr).1,(ordR_right q hq y x.1 hyr hr).2] at h9
  exact h9
end Go.Proofs.YtlnecfjnffdciabGreat

namespace Go.Proofs.YtlnecfjnffdciabGreat
open Go.RowKit Go.Shelf
set_option maxRecDepth 100000 in
set_option maxHeartbeats 32000000 in
theorem rbuild_core (q:Nat) (hq:q<6) (kk:Nat) (qs:List PP) (u:Value) (w:World) (hu:SlQ 0 16 w qs u) (hr:∀p∈qs,zab 16 p.1.1=true) (hlen:qs.length≤131072)
 (ih:Hid (2≤qs.length→∀(m:List PP) (v:Value) (W:World),m.length≤qs.length-1→(∀p∈m,zab 16 p.1.1=true)→SlQ 0 16 W m v→Calls Tryz.prog 118 #[.int .i64 (q:Int),v] W (BdP q (kyd (cmpO q) kk m) W))) :
 Calls Tryz.prog 118 #[.int .i64 (q:Int),u] w (BdP q (kyd (cmpO q) (kk+1) qs) w):=by
 obtain⟨aa0,ca0,rfl,hcap0⟩:=hu.slice
 by_cases h0:qs.length=0
 ·have hR:kyd (cmpO q) (kk+1) qs=[]:=by
   rw [List.eq_nil_of_length_eq_zero h0];rfl
  have HE:Hid (BdP q (kyd (cmpO q) (kk+1) qs) w (.returned (.pointer (some ⟨w.heap.size,0,none⟩))) (w.alloc (.cells #[.int .i64 (q:Int),.slice none 0 0] 98))):=by
   rw [hR]
   obtain⟨g0,g1,_,_⟩:=(Box2.new w 98 (.int .i64 (q:Int)) (.slice none 0 0)).cells
   exact⟨((Grew.refl w).alloc _).below,_,_,rfl,g0,g1,nil_slq _⟩
  have h0I:(qs.length:Int)=0:=by omega
  clear ih hr hu hR
  rw [h0]
  clear h0I h0
  go_enter Tryz.func118,Tryz.ntmps118
  go_wp2_with fail
  go_ret
  exact HE.out
 ·by_cases h1:qs.length=1
  ·have Hr:Hid (kyd (cmpO q) (kk+1) qs=qs):=by show (if _ then _ else _)=_;rw [if_pos (by omega)]
   obtain⟨i0,hi,hz0,hz1,hz2⟩:=infoQ
   have Hi:Hid _:=hi;have Hz0:Hid _:=hz0;have Hz1:Hid _:=hz1;have Hz2:Hid _:=hz2
   obtain⟨s1,s2,s3⟩:=hu.src
   have HN:Hid (aa0=none→qs.length=0):=s1
   have HF:Hid (∀W,Below w.heap.size w W→∀ad,aa0=some ad→∀j z,(qs.flatMap encQ)[j]? = some z→W.cell? (ad.add j)=some z):=s2
   have HO:Hid (∀z∈qs.flatMap encQ,z.oneCell'=true):=s3
   have HL:Hid ((qs.flatMap encQ).length=qs.length*8):=by show _=_;rw [zbc]
   have HP:Hid (∀p∈qs,GoodQ 16 w p):=hu.good
   have Hown0:Hid ((w.alloc (.cells #[] 108)).ownsRow w.heap.size 108 8 (.slice (some ⟨w.heap.size,0,none⟩) 0 0) 0 []):=World.ownsRow_made w #[] 0 (Nat.le_refl _) (by unfold maxLen;omega) rfl
   have hb0:Below w.heap.size w (w.alloc (.cells #[] 108)):=((Grew.refl w).alloc _).below
   obtain⟨K,hK⟩:∃K,K=qs.length:=⟨_,rfl⟩
   have HK:Hid (K=qs.length):=hK
   rw [←hK] at HN HL h0 h1 ⊢
   subst h1
   clear ih hr hu s1 s2 s3 hi hz0 hz1 hz2 hK h0 hcap0 hlen
   go_enter Tryz.func118,Tryz.ntmps118
   go_wp2_with (at_builtin;refine wpList_append_rowQ rfl _ _ rfl w.heap.size i0 Hi.out Hz0.out Hz1.out Hz2.out _ _ _ rfl Hown0.out aa0 1 ca0 (qs.flatMap encQ) rfl HN.out HL.out (HF.out _ hb0) HO.out (by unfold maxLen;omega) (by omega) (by simp) ?_;intro v5 w5 hown5 hgrow5;obtain⟨a5,c5,hv5⟩:=own_sliceQ hown5;subst hv5)
   have hb5:Below w.heap.size w w5:=zat hb0 (by simp) Hown0.out hgrow5
   have hfin:SlQ w.heap.size 16 w5 qs (.slice a5 (0+1) c5):=SlQ.of_own (n:=0+1) (by have:=HK.out;omega) (by simpa using hown5) (fun p hp=>(HP.out p hp).keeps hb5) (by have:=HK.out;omega)
   have hba:Below w5.heap.size w5 (w5.alloc (.cells #[.int .i64 (q:Int),.slice a5 (0+1) c5] 98)):=((Grew.refl w5).alloc _).below
   obtain⟨g0,g1,_,_⟩:=(Box2.new w5 98 (.int .i64 (q:Int)) (.slice a5 (0+1) c5)).cells
   have HE:Hid (BdP q (kyd (cmpO q) (kk+1) qs) w (.returned (.pointer (some ⟨w5.heap.size,0,none⟩))) (w5.alloc (.cells #[.int .i64 (q:Int),.slice a5 (0+1) c5] 98))):=by
    rw [Hr.out]
    exact⟨hb5.trans (hba.mono hb5.size),_,_,rfl,g0,g1,(hfin.mono (Nat.zero_le _)).keeps hba⟩
   clear hown5 hgrow5 hfin hba g0 g1
   go_ret
   exact HE.out
  ·have h2 : ¬qs.length<2:=by omega
   have Hr:Hid (kyd (cmpO q) (kk+1) qs=mrgK (cmpO q) (kyd (cmpO q) kk (qs.take (qs.length / 2))) (kyd (cmpO q) kk (qs.drop (qs.length / 2)))):=kyd_step _ _ _ h2
   have Ih:Hid _:=ih.out (by omega)
   obtain⟨b,o,c,he,hb0,_,_⟩:=SlQ.full hu (fun e=>by rw [e] at h2;simp at h2)
   simp only [Value.slice.injEq] at he
   obtain⟨rfl,_,rfl⟩:=he
   obtain⟨h,hh⟩:∃h,h=qs.length / 2:=⟨_,rfl⟩
   rw [←hh] at Hr
   have hle:h≤qs.length:=by omega
   have HS1:Hid (SlQ 0 16 w (qs.take h) (.slice (some ⟨b,o,none⟩) h ca0)):=SlQ.taken hu h hle
   have HS2:Hid (SlQ 0 16 w (qs.drop h) (.slice (some ⟨b,o+h*8,none⟩) (qs.length-h) (ca0-h))):=SlQ.dropped hu h
   have HT1:Hid ((qs.take h).length≤qs.length-1∧∀p∈qs.take h,zab 16 p.1.1=true):=⟨by rw [List.length_take];omega,fun p hp=>hr p (List.mem_of_mem_take hp)⟩
   have HT2:Hid ((qs.drop h).length≤qs.length-1∧∀p∈qs.drop h,zab 16 p.1.1=true):=⟨by rw [List.length_drop];omega,fun p hp=>hr p (List.mem_of_mem_drop hp)⟩
   have Hn1:Hid ((kyd (cmpO q) kk (qs.take h)).length≤h):=by show _≤_;have:=kyd_len (cmpO q) kk (qs.take h);rw [List.length_take] at this;omega
   have Hn2:Hid ((kyd (cmpO q) kk (qs.drop h)).length≤qs.length-h):=by show _≤_;have:=kyd_len (cmpO q) kk (qs.drop h);rw [List.length_drop] at this;omega
   have Hr1:Hid (∀p∈kyd (cmpO q) kk (qs.take h),zab 16 p.1.1=true):=fun p hp=>hr p (List.mem_of_mem_take (kyd_mem _ _ _ _ hp))
   have Hr2:Hid (∀p∈kyd (cmpO q) kk (qs.drop h),zab 16 p.1.1=true):=fun p hp=>hr p (List.mem_of_mem_drop (kyd_mem _ _ _ _ hp))
   have Ho:Hid (∀(x y:VT) (xv tv:Value) (W:World),Lies 16 W x.items xv→Lies 16 W y.items tv→zab 16 x=true→zab 16 y=true→Calls Tryz.prog 91 #[.int .i64 (q:Int),.agg #[.int .i64 x.kind,.int .i64 x.num,.string x.text,xv],.agg #[.int .i64 y.kind,.int .i64 y.num,.string y.text,tv]] W fun e w'=>e=.returned (.int .i64 (ordV q x y))∧Below W.heap.size W w'):=fun x y xv tv W k1 k2 k3 k4=>rordV_any q hq x y xv tv W k1 k2 k3 k4
   have h2I : ¬(qs.length:Int)=0:=by omega
   have h3I : ¬(qs.length:Int)=1:=by omega
   have hq2:((qs.length:Nat):Int) / 2=((h:Nat):Int):=by omega
   have hle':((h:Nat):Int)≤(qs.length:Nat):=by omega
   have hcc:h≤ca0:=by omega
   have hcc':((h:Nat):Int)≤(ca0:Nat):=by omega
   have hcn : ¬((ca0:Nat):Int)=(h:Nat):=by omega
   have hcn2 : ¬ca0=h:=by omega
   have hmc':(qs.length:Int)≤(ca0:Nat):=by omega
   have HLq:Hid (h≤qs.length∧qs.length≤131072):=⟨hle,hlen⟩
   generalize kyd (cmpO q) (kk+1) qs=R0 at *
   obtain⟨M,hM⟩:∃M,M=qs.length:=⟨_,rfl⟩
   rw [←hM] at Ih h2I h3I hq2 hle' hmc' HS2 HT1 HT2 Hn2 HLq h0 h1 h2 hle hb0 ⊢
   have hM5:((M:Nat):Int)≤131072:=by rw [hM];omega
   clear hh ih h2 hu hr hM hcap0 hlen hle h0 h1
   go_enter Tryz.func118,Tryz.ntmps118
   go_wp2_with fail
   have hz0I:(0:Int)≤((h:Nat):Int):=by omega
   have hb0w:Below w.heap.size w w.drew:=(Below.refl _ _).drew
   go_region_held3 (fun _=>True) (trivial)
    (first
     | (go_at_call 118;(with_reducible refine Calls.mono (Ih.out (qs.drop h) _ _ HT2.out.1 HT2.out.2 (HS2.out.keeps hbF)) ?_);rintro e w2 ⟨hg2,b2,v2,rfl,y0,y1,hs2⟩)
     | (go_at_call 118;(with_reducible refine Calls.mono (Ih.out (qs.take h) _ _ HT1.out.1 HT1.out.2 (HS1.out.keeps hb0w)) ?_);rintro e w1 ⟨hg1,b1,v1,rfl,x0,x1,hs1⟩;have hbF:Below w.heap.size w w1:=hb0w.trans hg1))
   have hb1:Below w.heap.size w w1:=hb0w.trans hg1
   have hb2:Below w.heap.size w w2:=hbF.trans (hg2.mono hbF.size)
   have Hb2:Hid (Below w.heap.size w w2):=hb2
   have hs1':SlQ 0 16 w2 (kyd (cmpO q) kk (qs.take h)) v1:=hs1.keeps hg2
   have x0:=zaa hg2 x0
   have x1:=zaa hg2 x1
   clear Ih HT1 HT2 HS1 HS2 hs1 hbF hb0w hg1 hg2 hb1 hcn hcn2 hcc hcc' hle' hq2 h2I h3I hmc' hz0I
   have Hn1':=Hn1.out
   have Hn2':=Hn2.out
   generalize kyd (cmpO q) kk (qs.take h)=ps at *
   generalize kyd (cmpO q) kk (qs.drop h)=rs at *
   obtain⟨aa,ca,rfl,_⟩:=hs1'.slice
   obtain⟨ab,cb,rfl,_⟩:=hs2.slice
   obtain⟨NA,hNA⟩:∃NA,NA=ps.length:=⟨_,rfl⟩
   obtain⟨NB,hNB⟩:∃NB,NB=rs.length:=⟨_,rfl⟩
   have hcA:ps.length≤ca:=by obtain⟨_,_,he,h1,_⟩:=hs1';simp only [Value.slice.injEq] at he;omega
   have hcB:rs.length≤cb:=by obtain⟨_,_,he,h1,_⟩:=hs2;simp only [Value.slice.injEq] at he;omega
   have HNa:Hid (NA=ps.length):=hNA
   have HNb:Hid (NB=rs.length):=hNB
   have HNac:Hid (NA≤ca):=by show _≤_;omega
   have HNbc:Hid (NB≤cb):=by show _≤_;omega
   have HNA5:Hid (NA≤131072):=by show _≤_;have:=HLq.out;omega
   have HNB5:Hid (NB≤131072):=by show _≤_;have:=HLq.out;omega
   rw [←hNA] at x1 hs1'
   rw [←hNB] at y1 hs2
   have HSa:Hid (SlQ 0 16 w2 ps (.slice aa NA ca)):=hs1'
   have HSb:Hid (SlQ 0 16 w2 rs (.slice ab NB cb)):=hs2
   have HSar:Hid (∀p∈ps,zab 16 p.1.1=true):=Hr1.out
   have HSbr:Hid (∀p∈rs,zab 16 p.1.1=true):=Hr2.out
   have Hca:Hid (w2.cell? ⟨b1,1,none⟩=some (.slice aa NA ca)):=x1
   have Hcb:Hid (w2.cell? ⟨b2,1,none⟩=some (.slice ab NB cb)):=y1
   have HGR:Hid (∀p∈mrgK (cmpO q) ps rs,GoodQ 16 w2 p):=fun p hp=>(mrgK_mem (cmpO q) _ ps rs (Nat.le_refl _) p hp).elim (hs1'.good p) (hs2.good p)
   have HRl:Hid ((mrgK (cmpO q) ps rs).length≤131072):=by show _≤_;have:=mrgK_len (cmpO q) _ ps rs (Nat.le_refl _);have:=HLq.out;omega
   have Hr':Hid (R0=mrgK (cmpO q) ps rs):=Hr.out
   have Hs12:Hid (ps.length+rs.length≤131072):=by show _≤_;have:=HLq.out;omega
   have HM0:Hid (MgB q ps rs (mrgK (cmpO q) ps rs) w2 (w2.alloc (.cells #[.int .i64 (q:Int),.slice none 0 0] 98)) 0 0 0 (.slice none 0 0) []):=MgB.start q ps rs w2 Hs12.out
   clear hs1' hs2 hNA hNB hcA hcB hb2 Hr Hn1' Hn2' Hn1 Hn2 Hr1 Hr2 x0 x1 y0 y1 HLq
   generalize mrgK (cmpO q) ps rs=R at *
   obtain rfl:R0=R:=Hr'.out
   clear Hr'
   go_wp2_with fail
   go_loopg [9,10] (ps.length+rs.length) (fun z vi vk wr=>∃(i k no:Nat) (av:Option Addr) (cv:Nat) (ds:List PP),vi=.int .i64 (i:Int)∧vk=.int .i64 (k:Int)∧z=ps.length+rs.length-(i+k)∧i≤NA∧k≤NB∧Hid (MgB q ps rs R0 w2 wr i k no (.slice av no cv) ds))
   case atStart=>exact⟨0,0,0,none,0,[],rfl,rfl,by omega,by omega,by omega,HM0⟩
   case round=>
    obtain⟨i,k,no,av,cv,ds,rfl,rfl,hz,hiA,hkB,HG⟩:=hrel
    have Hm:Hid _:=hz
    clear hz HM0
    have HW:Hid (Below w2.heap.size w2 wr):=HG.out.2.2.2.2.1
    have ca1:=zaa HW.out Hca.out
    have cb1:=zaa HW.out Hcb.out
    have hNAc:NA≤ca:=HNac.out
    have hNBc:NB≤cb:=HNbc.out
    have hNA5:NA≤131072:=by have:=HNA5.out;omega
    have hNB5:NB≤131072:=by have:=HNB5.out;omega
    by_cases hiN:i<NA
    ·have hiI:(i:Int)<(NA:Nat):=by omega
     have hica:i<ca:=by omega
     have hltx:i<ps.length:=by have:=HNa.out;omega
     obtain⟨bx,ox,ex,hrx⟩:∃b o,aa=some ⟨b,o,none⟩∧QAt w2 b o ps:=by
      obtain⟨a2,c2,he,_,_,h3,_⟩:=HSa.out
      simp only [Value.slice.injEq] at he
      obtain⟨b,o,e,_,hq⟩:=h3 (fun e=>by rw [e] at hltx;cases hltx)
      exact⟨b,o,he.1.trans e,hq⟩
     subst ex
     have hgx:=HSa.out.good ps[i] (List.getElem_mem hltx)
     have hrtx:=HSar.out ps[i] (List.getElem_mem hltx)
     obtain⟨u0,u1,u2,u3,u4,u5,u6,u7⟩:=hrx.at i hltx
     obtain⟨⟨⟨kx,kux⟩,⟨vx,vux⟩⟩,hex⟩:∃s,s=ps[i]:=⟨_,rfl⟩
     have Hex:Hid (((kx,kux),(vx,vux))=ps[i]):=hex
     rw [←hex] at hgx hrtx u0 u1 u2 u3 u4 u5 u6 u7
     obtain⟨akx,ckx,hkx,_⟩:=Lies.slice hgx.1.1
     obtain⟨avx,cvx,hvx,_⟩:=Lies.slice hgx.2.1
     simp only at hkx hvx
     subst hkx hvx
     have Hgx:Hid (GoodQ 16 w2 ((kx,.slice akx kx.items.length ckx),(vx,.slice avx vx.items.length cvx))):=hgx
     have Hrx:Hid (zab 16 kx=true):=hrtx
     have Hlx:Hid (Lies 16 w2 kx.items (.slice akx kx.items.length ckx)):=hgx.1.1
     simp only at u0 u1 u2 u3 u4 u5 u6 u7
     have x0:=zaa HW.out u0;have x1:=zaa HW.out u1;have x2:=zaa HW.out u2;have x3:=zaa HW.out u3;have x4:=zaa HW.out u4;have x5:=zaa HW.out u5;have x6:=zaa HW.out u6;have x7:=zaa HW.out u7
     clear u0 u1 u2 u3 u4 u5 u6 u7 hgx hrtx hex hrx
     by_cases hkN:k<NB
     ·have hkI:(k:Int)<(NB:Nat):=by omega
      have hkE : ¬(k:Int)=(NB:Nat):=by omega
      have hkE2 : ¬k=NB:=by omega
      have hkcb:k<cb:=by omega
      have hltz:k<rs.length:=by have:=HNb.out;omega
      obtain⟨bz,oz,ez,hrz⟩:∃b o,ab=some ⟨b,o,none⟩∧QAt w2 b o rs:=by
       obtain⟨a2,c2,he,_,_,h3,_⟩:=HSb.out
       simp only [Value.slice.injEq] at he
       obtain⟨b,o,e,_,hq⟩:=h3 (fun e=>by rw [e] at hltz;cases hltz)
       exact⟨b,o,he.1.trans e,hq⟩
      subst ez
      have hgz:=HSb.out.good rs[k] (List.getElem_mem hltz)
      have hrtz:=HSbr.out rs[k] (List.getElem_mem hltz)
      obtain⟨u0,u1,u2,u3,u4,u5,u6,u7⟩:=hrz.at k hltz
      obtain⟨⟨⟨kz,kuz⟩,⟨vz,vuz⟩⟩,hez⟩:∃s,s=rs[k]:=⟨_,rfl⟩
      have Hez:Hid (((kz,kuz),(vz,vuz))=rs[k]):=hez
      rw [←hez] at hgz hrtz u0 u1 u2 u3 u4 u5 u6 u7
      obtain⟨akz,ckz,hkz,_⟩:=Lies.slice hgz.1.1
      obtain⟨avz,cvz,hvz,_⟩:=Lies.slice hgz.2.1
      simp only at hkz hvz
      subst hkz hvz
      have Hgz:Hid (GoodQ 16 w2 ((kz,.slice akz kz.items.length ckz),(vz,.slice avz vz.items.length cvz))):=hgz
      have Hrz:Hid (zab 16 kz=true):=hrtz
      have Hlz:Hid (Lies 16 w2 kz.items (.slice akz kz.items.length ckz)):=hgz.1.1
      simp only at u0 u1 u2 u3 u4 u5 u6 u7
      have z0:=zaa HW.out u0;have z1:=zaa HW.out u1;have z2:=zaa HW.out u2;have z3:=zaa HW.out u3;have z4:=zaa HW.out u4;have z5:=zaa HW.out u5;have z6:=zaa HW.out u6;have z7:=zaa HW.out u7
      clear u0 u1 u2 u3 u4 u5 u6 u7 hgz hrtz hez hrz
      go_wp2_with fail
      go_region_held3 (fun w'=>w'.cell? ⟨b1,1,none⟩=some (.slice (some ⟨bx,ox,none⟩) NA ca)∧w'.cell? ⟨b2,1,none⟩=some (.slice (some ⟨bz,oz,none⟩) NB cb)∧w'.cell? ⟨bx,ox+i*8,none⟩=some (.int .i64 kx.kind)∧w'.cell? ⟨bx,ox+i*8+1,none⟩=some (.int .i64 kx.num)∧w'.cell? ⟨bx,ox+i*8+2,none⟩=some (.string kx.text)∧w'.cell? ⟨bx,ox+i*8+3,none⟩=some (.slice akx kx.items.length ckx)∧w'.cell? ⟨bz,oz+k*8,none⟩=some (.int .i64 kz.kind)∧w'.cell? ⟨bz,oz+k*8+1,none⟩=some (.int .i64 kz.num)∧w'.cell? ⟨bz,oz+k*8+2,none⟩=some (.string kz.text)∧w'.cell? ⟨bz,oz+k*8+3,none⟩=some (.slice akz kz.items.length ckz)) (go_keep)
       (first|(go_at_call 91;(with_reducible refine (Ho.out kx kz _ _ _ (Lies.keeps HW.out.drew _ _ _ Hlx.out) (Lies.keeps HW.out.drew _ _ _ Hlz.out) Hrx.out Hrz.out).mono ?_);rintro e w5 ⟨rfl,hg'⟩;have hg:Below wr.heap.size wr w5:=(Below.drew (Below.refl _ _)).trans hg';have HW5:Hid (Below w2.heap.size w2 w5):=HW.out.trans (hg.mono HW.out.size);have H5:Hid (MgB q ps rs R0 w2 w5 i k no (.slice av no cv) ds):=⟨HG.out.1.keeps hg,za0 HG.out.2.1 hg,HG.out.2.2.1,HG.out.2.2.2.1,HW.out.trans (hg.mono HW.out.size),HG.out.2.2.2.2.2⟩;have x0:=zaa hg x0;have x1:=zaa hg x1;have x2:=zaa hg x2;have x3:=zaa hg x3;have x4:=zaa hg x4;have x5:=zaa hg x5;have x6:=zaa hg x6;have x7:=zaa hg x7;have z0:=zaa hg z0;have z1:=zaa hg z1;have z2:=zaa hg z2;have z3:=zaa hg z3;have z4:=zaa hg z4;have z5:=zaa hg z5;have z6:=zaa hg z6;have z7:=zaa hg z7;have ca1:=zaa hg ca1;have cb1:=zaa hg cb1;clear hg hg'))
      clear ca1 cb1
      have ca1:=zaa HW5.out Hca.out
      have cb1:=zaa HW5.out Hcb.out
      obtain⟨Z,hZ⟩:∃Z,Z=ordV q kx kz:=⟨_,rfl⟩
      rw [←hZ]
      by_cases hlt:Z<0
      ·have HZ:Hid (ordV q kx kz<0):=by rw [←hZ];exact hlt
       clear hZ
       have HA:Hid (Below w5.heap.size w5 (w5.drew.alloc (.cells #[.int .i64 kx.kind,.int .i64 kx.num,.string kx.text,.slice akx kx.items.length ckx,.int .i64 vx.kind,.int .i64 vx.num,.string vx.text,.slice avx vx.items.length cvx] 108))):=((Below.refl w5.heap.size w5).drew).alloc (Nat.le_refl _) _
       have HBW:Hid (Below w2.heap.size w2 w5):=H5.out.2.2.2.2.1
       have HSr:Hid (SrcR (w5.drew.alloc (.cells #[.int .i64 kx.kind,.int .i64 kx.num,.string kx.text,.slice akx kx.items.length ckx,.int .i64 vx.kind,.int .i64 vx.num,.string vx.text,.slice avx vx.items.length cvx] 108)) (some ⟨w5.heap.size,0,none⟩) 1 (encQ ((kx,.slice akx kx.items.length ckx),(vx,.slice avx vx.items.length cvx)))):=litR w5.drew ((kx,.slice akx kx.items.length ckx),(vx,.slice avx vx.items.length cvx)) (encQ_one Hgx.out)
       have Hbs:Hid (w2.heap.size≤(w5.drew.alloc (.cells #[.int .i64 kx.kind,.int .i64 kx.num,.string kx.text,.slice akx kx.items.length ckx,.int .i64 vx.kind,.int .i64 vx.num,.string vx.text,.slice avx vx.items.length cvx] 108)).heap.size):=Nat.le_trans HBW.out.size HA.out.size
       have HOa:Hid ((w5.drew.alloc (.cells #[.int .i64 kx.kind,.int .i64 kx.num,.string kx.text,.slice akx kx.items.length ckx,.int .i64 vx.kind,.int .i64 vx.num,.string vx.text,.slice avx vx.items.length cvx] 108)).ownsRow w2.heap.size 108 8 (.slice av no cv) no (ds.flatMap encQ)):=(H5.out.2.1).drew.alloc _
       have HGa:Hid (Box2 (w5.drew.alloc (.cells #[.int .i64 kx.kind,.int .i64 kx.num,.string kx.text,.slice akx kx.items.length ckx,.int .i64 vx.kind,.int .i64 vx.num,.string vx.text,.slice avx vx.items.length cvx] 108)) w2.heap.size 98 (.int .i64 (q:Int)) (.slice av no cv)):=(show Box2 w5 w2.heap.size 98 (.int .i64 (q:Int)) (.slice av no cv) from H5.out.1).keeps HA.out
       have Heq:Hid (((kx,.slice akx kx.items.length ckx),(vx,.slice avx vx.items.length cvx))::mrgK (cmpO q) (ps.drop (i+1)) (rs.drop (k))=mrgK (cmpO q) (ps.drop i) (rs.drop k)):=mg_lt (by have:=HNa.out;omega) (by have:=HNb.out;omega) Hex.out Hez.out HZ.out
       have Hdec:Hid ((ps.length-(i+1))+(rs.length-(k))+1≤(ps.length-i)+(rs.length-k)):=(by show _≤_;have:=HNa.out;have:=HNb.out;omega)
       have Hno5:Hid (no+1≤200000):=(by show _≤_;have:=H5.out.2.2.2.2.2;have:=HNa.out;have:=HNb.out;omega)
       have Hgw:Hid (MgB q ps rs R0 w2 w5 i k no (.slice av no cv) ds):=H5.out
       obtain⟨g0,g1,g2,g3⟩:=(show Box2 w5 w2.heap.size 98 (.int .i64 (q:Int)) (.slice av no cv) from H5.out.1).cells
       have hgl:w2.heap.size<w5.heap.size:=(show Box2 w5 w2.heap.size 98 (.int .i64 (q:Int)) (.slice av no cv) from H5.out.1).lt
       go_wp2_with fail
       go_region_law (refine stepR_append rfl (.tmp 97) (.tmp 105) rfl (base:=w2.heap.size) (n:=no) (xs:=ds.flatMap encQ) rfl HOa.out rfl HSr.out (by have:=Hno5.out;omega) Hbs.out (no+1) rfl _ rfl ?_;intro a9 c9 w9 hown9 hg9;obtain⟨hb9,hst⟩:=row2_step HGa.out (Nat.le_refl _) Hbs.out HOa.out hown9 hg9;obtain⟨_,h91,_,h93⟩:=hb9.cells;have Hst:Hid _:=hst;clear hown9 hg9 hb9 hst)
       all_goals go_wp2_with fail
       all_goals go_roundg (ps.length+rs.length-((i+1)+(k)))
       all_goals first
        | (case measure=>have:=Hm.out;have:=Hdec.out;have:=HNa.out;have:=HNb.out;omega)
        | (case rel=>have h9:=MgB.step Hgw.out ((kx,.slice akx kx.items.length ckx),(vx,.slice avx vx.items.length cvx)) Hst.out.1 Hst.out.2.1 (HBW.out.trans ((HA.out.mono HBW.out.size).trans Hst.out.2.2)) Heq.out Hdec.out;have H9:Hid _:=h9;exact⟨i+1,k,no+1,a9,c9,_,by first|rfl|go_num,by first|rfl|go_num,rfl,by omega,by omega,H9⟩)
      ·by_cases hze:Z=0
       ·have HZ:Hid (ordV q kx kz=0):=by rw [←hZ];exact hze
        subst hze
        clear hZ hlt
        have HA:Hid (Below w5.heap.size w5 (w5.drew.alloc (.cells #[.int .i64 kz.kind,.int .i64 kz.num,.string kz.text,.slice akz kz.items.length ckz,.int .i64 vz.kind,.int .i64 vz.num,.string vz.text,.slice avz vz.items.length cvz] 108))):=((Below.refl w5.heap.size w5).drew).alloc (Nat.le_refl _) _
        have HBW:Hid (Below w2.heap.size w2 w5):=H5.out.2.2.2.2.1
        have HSr:Hid (SrcR (w5.drew.alloc (.cells #[.int .i64 kz.kind,.int .i64 kz.num,.string kz.text,.slice akz kz.items.length ckz,.int .i64 vz.kind,.int .i64 vz.num,.string vz.text,.slice avz vz.items.length cvz] 108)) (some ⟨w5.heap.size,0,none⟩) 1 (encQ ((kz,.slice akz kz.items.length ckz),(vz,.slice avz vz.items.length cvz)))):=litR w5.drew ((kz,.slice akz kz.items.length ckz),(vz,.slice avz vz.items.length cvz)) (encQ_one Hgz.out)
        have Hbs:Hid (w2.heap.size≤(w5.drew.alloc (.cells #[.int .i64 kz.kind,.int .i64 kz.num,.string kz.text,.slice akz kz.items.length ckz,.int .i64 vz.kind,.int .i64 vz.num,.string vz.text,.slice avz vz.items.length cvz] 108)).heap.size):=Nat.le_trans HBW.out.size HA.out.size
        have HOa:Hid ((w5.drew.alloc (.cells #[.int .i64 kz.kind,.int .i64 kz.num,.string kz.text,.slice akz kz.items.length ckz,.int .i64 vz.kind,.int .i64 vz.num,.string vz.text,.slice avz vz.items.length cvz] 108)).ownsRow w2.heap.size 108 8 (.slice av no cv) no (ds.flatMap encQ)):=(H5.out.2.1).drew.alloc _
        have HGa:Hid (Box2 (w5.drew.alloc (.cells #[.int .i64 kz.kind,.int .i64 kz.num,.string kz.text,.slice akz kz.items.length ckz,.int .i64 vz.kind,.int .i64 vz.num,.string vz.text,.slice avz vz.items.length cvz] 108)) w2.heap.size 98 (.int .i64 (q:Int)) (.slice av no cv)):=(show Box2 w5 w2.heap.size 98 (.int .i64 (q:Int)) (.slice av no cv) from H5.out.1).keeps HA.out
        have Heq:Hid (((kz,.slice akz kz.items.length ckz),(vz,.slice avz vz.items.length cvz))::mrgK (cmpO q) (ps.drop (i+1)) (rs.drop (k+1))=mrgK (cmpO q) (ps.drop i) (rs.drop k)):=mg_eq (by have:=HNa.out;omega) (by have:=HNb.out;omega) Hex.out Hez.out HZ.out
        have Hdec:Hid ((ps.length-(i+1))+(rs.length-(k+1))+1≤(ps.length-i)+(rs.length-k)):=(by show _≤_;have:=HNa.out;have:=HNb.out;omega)
        have Hno5:Hid (no+1≤200000):=(by show _≤_;have:=H5.out.2.2.2.2.2;have:=HNa.out;have:=HNb.out;omega)
        have Hgw:Hid (MgB q ps rs R0 w2 w5 i k no (.slice av no cv) ds):=H5.out
        obtain⟨g0,g1,g2,g3⟩:=(show Box2 w5 w2.heap.size 98 (.int .i64 (q:Int)) (.slice av no cv) from H5.out.1).cells
        have hgl:w2.heap.size<w5.heap.size:=(show Box2 w5 w2.heap.size 98 (.int .i64 (q:Int)) (.slice av no cv) from H5.out.1).lt
        go_wp2_with fail
        go_region_law (refine stepR_append rfl (.tmp 119) (.tmp 127) rfl (base:=w2.heap.size) (n:=no) (xs:=ds.flatMap encQ) rfl HOa.out rfl HSr.out (by have:=Hno5.out;omega) Hbs.out (no+1) rfl _ rfl ?_;intro a9 c9 w9 hown9 hg9;obtain⟨hb9,hst⟩:=row2_step HGa.out (Nat.le_refl _) Hbs.out HOa.out hown9 hg9;obtain⟨_,h91,_,h93⟩:=hb9.cells;have Hst:Hid _:=hst;clear hown9 hg9 hb9 hst)
        all_goals go_wp2_with fail
        all_goals go_roundg (ps.length+rs.length-((i+1)+(k+1)))
        all_goals first
         | (case measure=>have:=Hm.out;have:=Hdec.out;have:=HNa.out;have:=HNb.out;omega)
         | (case rel=>have h9:=MgB.step Hgw.out ((kz,.slice akz kz.items.length ckz),(vz,.slice avz vz.items.length cvz)) Hst.out.1 Hst.out.2.1 (HBW.out.trans ((HA.out.mono HBW.out.size).trans Hst.out.2.2)) Heq.out Hdec.out;have H9:Hid _:=h9;exact⟨i+1,k+1,no+1,a9,c9,_,by first|rfl|go_num,by first|rfl|go_num,rfl,by omega,by omega,H9⟩)
       ·have HZ:Hid (0<ordV q kx kz):=by show 0<_;omega
        clear hZ
        have HA:Hid (Below w5.heap.size w5 (w5.drew.alloc (.cells #[.int .i64 kz.kind,.int .i64 kz.num,.string kz.text,.slice akz kz.items.length ckz,.int .i64 vz.kind,.int .i64 vz.num,.string vz.text,.slice avz vz.items.length cvz] 108))):=((Below.refl w5.heap.size w5).drew).alloc (Nat.le_refl _) _
        have HBW:Hid (Below w2.heap.size w2 w5):=H5.out.2.2.2.2.1
        have HSr:Hid (SrcR (w5.drew.alloc (.cells #[.int .i64 kz.kind,.int .i64 kz.num,.string kz.text,.slice akz kz.items.length ckz,.int .i64 vz.kind,.int .i64 vz.num,.string vz.text,.slice avz vz.items.length cvz] 108)) (some ⟨w5.heap.size,0,none⟩) 1 (encQ ((kz,.slice akz kz.items.length ckz),(vz,.slice avz vz.items.length cvz)))):=litR w5.drew ((kz,.slice akz kz.items.length ckz),(vz,.slice avz vz.items.length cvz)) (encQ_one Hgz.out)
        have Hbs:Hid (w2.heap.size≤(w5.drew.alloc (.cells #[.int .i64 kz.kind,.int .i64 kz.num,.string kz.text,.slice akz kz.items.length ckz,.int .i64 vz.kind,.int .i64 vz.num,.string vz.text,.slice avz vz.items.length cvz] 108)).heap.size):=Nat.le_trans HBW.out.size HA.out.size
        have HOa:Hid ((w5.drew.alloc (.cells #[.int .i64 kz.kind,.int .i64 kz.num,.string kz.text,.slice akz kz.items.length ckz,.int .i64 vz.kind,.int .i64 vz.num,.string vz.text,.slice avz vz.items.length cvz] 108)).ownsRow w2.heap.size 108 8 (.slice av no cv) no (ds.flatMap encQ)):=(H5.out.2.1).drew.alloc _
        have HGa:Hid (Box2 (w5.drew.alloc (.cells #[.int .i64 kz.kind,.int .i64 kz.num,.string kz.text,.slice akz kz.items.length ckz,.int .i64 vz.kind,.int .i64 vz.num,.string vz.text,.slice avz vz.items.length cvz] 108)) w2.heap.size 98 (.int .i64 (q:Int)) (.slice av no cv)):=(show Box2 w5 w2.heap.size 98 (.int .i64 (q:Int)) (.slice av no cv) from H5.out.1).keeps HA.out
        have Heq:Hid (((kz,.slice akz kz.items.length ckz),(vz,.slice avz vz.items.length cvz))::mrgK (cmpO q) (ps.drop (i)) (rs.drop (k+1))=mrgK (cmpO q) (ps.drop i) (rs.drop k)):=mg_gt (by have:=HNa.out;omega) (by have:=HNb.out;omega) Hex.out Hez.out HZ.out
        have Hdec:Hid ((ps.length-(i))+(rs.length-(k+1))+1≤(ps.length-i)+(rs.length-k)):=(by show _≤_;have:=HNa.out;have:=HNb.out;omega)
        have Hno5:Hid (no+1≤200000):=(by show _≤_;have:=H5.out.2.2.2.2.2;have:=HNa.out;have:=HNb.out;omega)
        have Hgw:Hid (MgB q ps rs R0 w2 w5 i k no (.slice av no cv) ds):=H5.out
        obtain⟨g0,g1,g2,g3⟩:=(show Box2 w5 w2.heap.size 98 (.int .i64 (q:Int)) (.slice av no cv) from H5.out.1).cells
        have hgl:w2.heap.size<w5.heap.size:=(show Box2 w5 w2.heap.size 98 (.int .i64 (q:Int)) (.slice av no cv) from H5.out.1).lt
        go_wp2_with fail
        go_region_law (refine stepR_append rfl (.tmp 119) (.tmp 127) rfl (base:=w2.heap.size) (n:=no) (xs:=ds.flatMap encQ) rfl HOa.out rfl HSr.out (by have:=Hno5.out;omega) Hbs.out (no+1) rfl _ rfl ?_;intro a9 c9 w9 hown9 hg9;obtain⟨hb9,hst⟩:=row2_step HGa.out (Nat.le_refl _) Hbs.out HOa.out hown9 hg9;obtain⟨_,h91,_,h93⟩:=hb9.cells;have Hst:Hid _:=hst;clear hown9 hg9 hb9 hst)
        all_goals go_wp2_with fail
        all_goals go_roundg (ps.length+rs.length-((i)+(k+1)))
        all_goals first
         | (case measure=>have:=Hm.out;have:=Hdec.out;have:=HNa.out;have:=HNb.out;omega)
         | (case rel=>have h9:=MgB.step Hgw.out ((kz,.slice akz kz.items.length ckz),(vz,.slice avz vz.items.length cvz)) Hst.out.1 Hst.out.2.1 (HBW.out.trans ((HA.out.mono HBW.out.size).trans Hst.out.2.2)) Heq.out Hdec.out;have H9:Hid _:=h9;exact⟨i,k+1,no+1,a9,c9,_,by first|rfl|go_num,by first|rfl|go_num,rfl,by omega,by omega,H9⟩)
     ·have hkE:(k:Int)=(NB:Nat):=by omega
      obtain rfl:k=NB:=by omega
      have HA:Hid (Below wr.heap.size wr (wr.drew.alloc (.cells #[.int .i64 kx.kind,.int .i64 kx.num,.string kx.text,.slice akx kx.items.length ckx,.int .i64 vx.kind,.int .i64 vx.num,.string vx.text,.slice avx vx.items.length cvx] 108))):=((Below.refl wr.heap.size wr).drew).alloc (Nat.le_refl _) _
      have HBW:Hid (Below w2.heap.size w2 wr):=HG.out.2.2.2.2.1
      have HSr:Hid (SrcR (wr.drew.alloc (.cells #[.int .i64 kx.kind,.int .i64 kx.num,.string kx.text,.slice akx kx.items.length ckx,.int .i64 vx.kind,.int .i64 vx.num,.string vx.text,.slice avx vx.items.length cvx] 108)) (some ⟨wr.heap.size,0,none⟩) 1 (encQ ((kx,.slice akx kx.items.length ckx),(vx,.slice avx vx.items.length cvx)))):=litR wr.drew ((kx,.slice akx kx.items.length ckx),(vx,.slice avx vx.items.length cvx)) (encQ_one Hgx.out)
      have Hbs:Hid (w2.heap.size≤(wr.drew.alloc (.cells #[.int .i64 kx.kind,.int .i64 kx.num,.string kx.text,.slice akx kx.items.length ckx,.int .i64 vx.kind,.int .i64 vx.num,.string vx.text,.slice avx vx.items.length cvx] 108)).heap.size):=Nat.le_trans HBW.out.size HA.out.size
      have HOa:Hid ((wr.drew.alloc (.cells #[.int .i64 kx.kind,.int .i64 kx.num,.string kx.text,.slice akx kx.items.length ckx,.int .i64 vx.kind,.int .i64 vx.num,.string vx.text,.slice avx vx.items.length cvx] 108)).ownsRow w2.heap.size 108 8 (.slice av no cv) no (ds.flatMap encQ)):=(HG.out.2.1).drew.alloc _
      have HGa:Hid (Box2 (wr.drew.alloc (.cells #[.int .i64 kx.kind,.int .i64 kx.num,.string kx.text,.slice akx kx.items.length ckx,.int .i64 vx.kind,.int .i64 vx.num,.string vx.text,.slice avx vx.items.length cvx] 108)) w2.heap.size 98 (.int .i64 (q:Int)) (.slice av no cv)):=(show Box2 wr w2.heap.size 98 (.int .i64 (q:Int)) (.slice av no cv) from HG.out.1).keeps HA.out
      have Heq:Hid (((kx,.slice akx kx.items.length ckx),(vx,.slice avx vx.items.length cvx))::mrgK (cmpO q) (ps.drop (i+1)) (rs.drop (k))=mrgK (cmpO q) (ps.drop i) (rs.drop k)):=mg_l (by have:=HNa.out;omega) (by have:=HNb.out;omega) Hex.out
      have Hdec:Hid ((ps.length-(i+1))+(rs.length-(k))+1≤(ps.length-i)+(rs.length-k)):=(by show _≤_;have:=HNa.out;have:=HNb.out;omega)
      have Hno5:Hid (no+1≤200000):=(by show _≤_;have:=HG.out.2.2.2.2.2;have:=HNa.out;have:=HNb.out;omega)
      have Hgw:Hid (MgB q ps rs R0 w2 wr i k no (.slice av no cv) ds):=HG.out
      obtain⟨g0,g1,g2,g3⟩:=(show Box2 wr w2.heap.size 98 (.int .i64 (q:Int)) (.slice av no cv) from HG.out.1).cells
      have hgl:w2.heap.size<wr.heap.size:=(show Box2 wr w2.heap.size 98 (.int .i64 (q:Int)) (.slice av no cv) from HG.out.1).lt
      go_wp2_with fail
      go_region_law (refine stepR_append rfl (.tmp 97) (.tmp 105) rfl (base:=w2.heap.size) (n:=no) (xs:=ds.flatMap encQ) rfl HOa.out rfl HSr.out (by have:=Hno5.out;omega) Hbs.out (no+1) rfl _ rfl ?_;intro a9 c9 w9 hown9 hg9;obtain⟨hb9,hst⟩:=row2_step HGa.out (Nat.le_refl _) Hbs.out HOa.out hown9 hg9;obtain⟨_,h91,_,h93⟩:=hb9.cells;have Hst:Hid _:=hst;clear hown9 hg9 hb9 hst)
      all_goals go_wp2_with fail
      all_goals go_roundg (ps.length+rs.length-((i+1)+(k)))
      all_goals first
       | (case measure=>have:=Hm.out;have:=Hdec.out;have:=HNa.out;have:=HNb.out;omega)
       | (case rel=>have h9:=MgB.step Hgw.out ((kx,.slice akx kx.items.length ckx),(vx,.slice avx vx.items.length cvx)) Hst.out.1 Hst.out.2.1 (HBW.out.trans ((HA.out.mono HBW.out.size).trans Hst.out.2.2)) Heq.out Hdec.out;have H9:Hid _:=h9;exact⟨i+1,k,no+1,a9,c9,_,by first|rfl|go_num,by first|rfl|go_num,rfl,by omega,by omega,H9⟩)
    ·have hiI : ¬(i:Int)<(NA:Nat):=by omega
     by_cases hkN:k<NB
     ·have hkI:(k:Int)<(NB:Nat):=by omega
      have hkE : ¬(k:Int)=(NB:Nat):=by omega
      have hkE2 : ¬k=NB:=by omega
      have hkcb:k<cb:=by omega
      have hltz:k<rs.length:=by have:=HNb.out;omega
      obtain⟨bz,oz,ez,hrz⟩:∃b o,ab=some ⟨b,o,none⟩∧QAt w2 b o rs:=by
       obtain⟨a2,c2,he,_,_,h3,_⟩:=HSb.out
       simp only [Value.slice.injEq] at he
       obtain⟨b,o,e,_,hq⟩:=h3 (fun e=>by rw [e] at hltz;cases hltz)
       exact⟨b,o,he.1.trans e,hq⟩
      subst ez
      have hgz:=HSb.out.good rs[k] (List.getElem_mem hltz)
      have hrtz:=HSbr.out rs[k] (List.getElem_mem hltz)
      obtain⟨u0,u1,u2,u3,u4,u5,u6,u7⟩:=hrz.at k hltz
      obtain⟨⟨⟨kz,kuz⟩,⟨vz,vuz⟩⟩,hez⟩:∃s,s=rs[k]:=⟨_,rfl⟩
      have Hez:Hid (((kz,kuz),(vz,vuz))=rs[k]):=hez
      rw [←hez] at hgz hrtz u0 u1 u2 u3 u4 u5 u6 u7
      obtain⟨akz,ckz,hkz,_⟩:=Lies.slice hgz.1.1
      obtain⟨avz,cvz,hvz,_⟩:=Lies.slice hgz.2.1
      simp only at hkz hvz
      subst hkz hvz
      have Hgz:Hid (GoodQ 16 w2 ((kz,.slice akz kz.items.length ckz),(vz,.slice avz vz.items.length cvz))):=hgz
      have Hrz:Hid (zab 16 kz=true):=hrtz
      have Hlz:Hid (Lies 16 w2 kz.items (.slice akz kz.items.length ckz)):=hgz.1.1
      simp only at u0 u1 u2 u3 u4 u5 u6 u7
      have z0:=zaa HW.out u0;have z1:=zaa HW.out u1;have z2:=zaa HW.out u2;have z3:=zaa HW.out u3;have z4:=zaa HW.out u4;have z5:=zaa HW.out u5;have z6:=zaa HW.out u6;have z7:=zaa HW.out u7
      clear u0 u1 u2 u3 u4 u5 u6 u7 hgz hrtz hez hrz
      have HA:Hid (Below wr.heap.size wr (wr.drew.alloc (.cells #[.int .i64 kz.kind,.int .i64 kz.num,.string kz.text,.slice akz kz.items.length ckz,.int .i64 vz.kind,.int .i64 vz.num,.string vz.text,.slice avz vz.items.length cvz] 108))):=((Below.refl wr.heap.size wr).drew).alloc (Nat.le_refl _) _
      have HBW:Hid (Below w2.heap.size w2 wr):=HG.out.2.2.2.2.1
      have HSr:Hid (SrcR (wr.drew.alloc (.cells #[.int .i64 kz.kind,.int .i64 kz.num,.string kz.text,.slice akz kz.items.length ckz,.int .i64 vz.kind,.int .i64 vz.num,.string vz.text,.slice avz vz.items.length cvz] 108)) (some ⟨wr.heap.size,0,none⟩) 1 (encQ ((kz,.slice akz kz.items.length ckz),(vz,.slice avz vz.items.length cvz)))):=litR wr.drew ((kz,.slice akz kz.items.length ckz),(vz,.slice avz vz.items.length cvz)) (encQ_one Hgz.out)
      have Hbs:Hid (w2.heap.size≤(wr.drew.alloc (.cells #[.int .i64 kz.kind,.int .i64 kz.num,.string kz.text,.slice akz kz.items.length ckz,.int .i64 vz.kind,.int .i64 vz.num,.string vz.text,.slice avz vz.items.length cvz] 108)).heap.size):=Nat.le_trans HBW.out.size HA.out.size
      have HOa:Hid ((wr.drew.alloc (.cells #[.int .i64 kz.kind,.int .i64 kz.num,.string kz.text,.slice akz kz.items.length ckz,.int .i64 vz.kind,.int .i64 vz.num,.string vz.text,.slice avz vz.items.length cvz] 108)).ownsRow w2.heap.size 108 8 (.slice av no cv) no (ds.flatMap encQ)):=(HG.out.2.1).drew.alloc _
      have HGa:Hid (Box2 (wr.drew.alloc (.cells #[.int .i64 kz.kind,.int .i64 kz.num,.string kz.text,.slice akz kz.items.length ckz,.int .i64 vz.kind,.int .i64 vz.num,.string vz.text,.slice avz vz.items.length cvz] 108)) w2.heap.size 98 (.int .i64 (q:Int)) (.slice av no cv)):=(show Box2 wr w2.heap.size 98 (.int .i64 (q:Int)) (.slice av no cv) from HG.out.1).keeps HA.out
      have Heq:Hid (((kz,.slice akz kz.items.length ckz),(vz,.slice avz vz.items.length cvz))::mrgK (cmpO q) (ps.drop (i)) (rs.drop (k+1))=mrgK (cmpO q) (ps.drop i) (rs.drop k)):=mg_r (by have:=HNa.out;omega) (by have:=HNb.out;omega) Hez.out
      have Hdec:Hid ((ps.length-(i))+(rs.length-(k+1))+1≤(ps.length-i)+(rs.length-k)):=(by show _≤_;have:=HNa.out;have:=HNb.out;omega)
      have Hno5:Hid (no+1≤200000):=(by show _≤_;have:=HG.out.2.2.2.2.2;have:=HNa.out;have:=HNb.out;omega)
      have Hgw:Hid (MgB q ps rs R0 w2 wr i k no (.slice av no cv) ds):=HG.out
      obtain⟨g0,g1,g2,g3⟩:=(show Box2 wr w2.heap.size 98 (.int .i64 (q:Int)) (.slice av no cv) from HG.out.1).cells
      have hgl:w2.heap.size<wr.heap.size:=(show Box2 wr w2.heap.size 98 (.int .i64 (q:Int)) (.slice av no cv) from HG.out.1).lt
      go_wp2_with fail
      go_region_law (refine stepR_append rfl (.tmp 119) (.tmp 127) rfl (base:=w2.heap.size) (n:=no) (xs:=ds.flatMap encQ) rfl HOa.out rfl HSr.out (by have:=Hno5.out;omega) Hbs.out (no+1) rfl _ rfl ?_;intro a9 c9 w9 hown9 hg9;obtain⟨hb9,hst⟩:=row2_step HGa.out (Nat.le_refl _) Hbs.out HOa.out hown9 hg9;obtain⟨_,h91,_,h93⟩:=hb9.cells;have Hst:Hid _:=hst;clear hown9 hg9 hb9 hst)
      all_goals go_wp2_with fail
      all_goals go_roundg (ps.length+rs.length-((i)+(k+1)))
      all_goals first
       | (case measure=>have:=Hm.out;have:=Hdec.out;have:=HNa.out;have:=HNb.out;omega)
       | (case rel=>have h9:=MgB.step Hgw.out ((kz,.slice akz kz.items.length ckz),(vz,.slice avz vz.items.length cvz)) Hst.out.1 Hst.out.2.1 (HBW.out.trans ((HA.out.mono HBW.out.size).trans Hst.out.2.2)) Heq.out Hdec.out;have H9:Hid _:=h9;exact⟨i,k+1,no+1,a9,c9,_,by first|rfl|go_num,by first|rfl|go_num,rfl,by omega,by omega,H9⟩)
     ·have hkI : ¬(k:Int)<(NB:Nat):=by omega
      have HE:Hid (BdP q R0 w (.returned (.pointer (some ⟨w2.heap.size,0,none⟩))) wr):=MgB.done HG.out (by have:=HNa.out;omega) (by have:=HNb.out;omega) Hb2.out HGR.out HRl.out
      obtain⟨g0,g1,g2,g3⟩:=HG.out.1.cells
      go_wp2_with fail
      go_ret
      exact HE.out
end Go.Proofs.YtlnecfjnffdciabGreat

namespace Go.Proofs.YtlnecfjnffdciabGreat
open Go.RowKit Go.Shelf
theorem rbuild_any (q:Nat) (hq:q<6):∀(k:Nat) (qs:List PP) (u:Value) (w:World),SlQ 0 16 w qs u→(∀p∈qs,zab 16 p.1.1=true)→qs.length≤131072→qs.length≤k+1→
 Calls Tryz.prog 118 #[.int .i64 (q:Int),u] w (BdP q (kyd (cmpO q) (k+1) qs) w):=by
 intro k
 induction k with
 | zero=>intro qs u w hu hr hlen hk;exact rbuild_core q hq 0 qs u w hu hr hlen (fun h=>by omega)
 | succ k ih=>intro qs u w hu hr hlen hk;exact rbuild_core q hq (k+1) qs u w hu hr hlen (fun _ m v W hm hmr hv=>ih m v W hv hmr (by omega) (by omega))
end Go.Proofs.YtlnecfjnffdciabGreat

namespace Go.Proofs.YtlnecfjnffdciabGreat
open Go.RowKit Go.Shelf
theorem lst_mem {α:Type} {l:List α} {z:α} (h:z∈lst l):z∈l:=by
 unfold lst at h
 cases hl:l.getLast? with
 | none=>rw [hl] at h;cases h
 | some x=>
  rw [hl] at h
  obtain rfl:z=x:=List.mem_singleton.1 h
  exact List.mem_of_getLast? hl
theorem kyd_mem_iff {α:Type} {cf:α→α→Int} (h:Cmp3 cf) (n:Nat) (l:List α) (hn:l.length≤n) (z:α):z∈kyd cf n l↔z∈lst (l.filter (sim (ltI cf) z)):=by
 have h1:=(kyd_spec h n l hn).2 z
 constructor
 ·intro hz
  rw [←h1]
  exact List.mem_filter.2 ⟨hz,sim_self h.weak z⟩
 ·intro hz
  rw [←h1] at hz
  exact (List.mem_filter.1 hz).1
theorem sim_zero {α:Type} {cf:α→α→Int} (h:Cmp3 cf) (a b:α):sim (ltI cf) a b=decide (cf a b=0):=by
 have ht:=h.turn a b
 rw [Bool.eq_iff_iff,sim_iff,decide_eq_true_eq]
 constructor
 ·rintro ⟨h1,h2⟩
  have a1 : ¬cf a b<0:=of_decide_eq_false h1
  have a2 : ¬cf b a<0:=of_decide_eq_false h2
  omega
 ·intro h0
  exact⟨decide_eq_false (by omega),decide_eq_false (by omega)⟩
theorem kyd_same {α:Type} {cf cg:α→α→Int} (h:Cmp3 cf) (g:Cmp3 cg) (n m:Nat) (l:List α) (hn:l.length≤n) (hm:l.length≤m) (he:∀a∈l,∀b∈l,cf a b=0↔cg a b=0) (z:α):z∈kyd cf n l↔z∈kyd cg m l:=by
 rw [kyd_mem_iff h n l hn,kyd_mem_iff g m l hm]
 by_cases hz:z∈l
 ·have e:l.filter (sim (ltI cf) z)=l.filter (sim (ltI cg) z):=by
   apply List.filter_congr
   intro x hx
   rw [sim_zero h,sim_zero g]
   exact decide_eq_decide.2 (he z hz x hx)
  rw [e]
 ·exact⟨fun k=>absurd (List.mem_filter.1 (lst_mem k)).1 hz,fun k=>absurd (List.mem_filter.1 (lst_mem k)).1 hz⟩
theorem kydO_mem {q:Nat} {qs:List PP} (hg:∀p∈qs,Good 16 p.1.1) (n m:Nat) (hn:qs.length≤n) (hm:qs.length≤m) (z:PP):z∈kyd (cmpO q) n qs↔z∈kyd (cmpQ 16) m qs:=
 kyd_same (cmpO_3 q) (cmp3Q 16) n m qs hn hm (fun a ha b hb=>ordV_zero q (hg a ha) (hg b hb)) z
theorem kydO_rises {q:Nat} {qs:List PP} (n:Nat) (hn:qs.length≤n):RT.Rises (byK q) ((kyd (cmpO q) n qs).map trT):=by
 have h:(kyd (cmpO q) n qs).Pairwise (fun a b=>cmpO q a b<0):=(kyd_spec (cmpO_3 q) n qs hn).1
 show ((kyd (cmpO q) n qs).map trT).Pairwise (fun a b=>byK q a b<0)
 rw [List.pairwise_map]
 exact h
theorem kydO_eq {q:Nat} {qs:List PP} (hg:∀p∈qs,Good 16 p.1.1) (n m:Nat) (hn:qs.length≤n) (hm:qs.length≤m) {l:List PT} (hl:RT.Rises (byK q) l) (h:∀y,y∈l↔y∈(kyd (cmpQ 16) m qs).map trT):l=(kyd (cmpO q) n qs).map trT:=by
 refine RT.rises_eq (byK_cmp q) _ _ hl (kydO_rises n hn) fun y=>?_
 rw [h y,List.mem_map,List.mem_map]
 constructor
 ·rintro ⟨p,hp,rfl⟩
  exact⟨p,(kydO_mem hg n m hn hm p).2 hp,rfl⟩
 ·rintro ⟨p,hp,rfl⟩
  exact⟨p,(kydO_mem hg n m hn hm p).1 hp,rfl⟩
theorem BdP.dm {q:Nat} (hq:q<6) {n:Nat} {qs:List PP} (hn:qs.length≤n) {w w':World} {e:Ending} (h:BdP q (kyd (cmpO q) n qs) w e w') (hg:∀p∈qs,Good 16 p.1.1∧Good 16 p.2.1) (hl:(kyd (cmpO q) n qs).length≤65536):Below w.heap.size w w'∧∃b,e=.returned (.pointer (some ⟨b,0,none⟩))∧DM w' q ((kyd (cmpO q) n qs).map trT) b:=by
 obtain⟨hb,b,v,rfl,h0,h1,hs⟩:=h
 refine⟨hb,b,rfl,⟨h0,⟨_,v,h1,rfl,hs⟩,hq,?_,kydO_rises n hn,by rw [List.length_map];exact hl⟩⟩
 intro x hx
 obtain⟨p,hp,rfl⟩:=List.mem_map.1 hx
 exact hg p (kyd_mem _ _ _ p hp)
end Go.Proofs.YtlnecfjnffdciabGreat

namespace Go.Proofs.YtlnecfjnffdciabGreat
open Go.RowKit Go.Shelf
set_option maxRecDepth 100000 in
set_option maxHeartbeats 8000000 in
theorem upto_wrong (d b:Nat) (cn:Bool) (y:VT) (yu:Value) (w:World) (hy:Lies d w y.items yu) (ht:y.text.size≤9223372036854775807) (hr:zab d y=false):Calls Tryz.prog 140 #[.pointer (some ⟨b,0,none⟩),.agg #[.int .i64 y.kind,.int .i64 y.num,.string y.text,yu],.bool cn] w fun e w'=>e=.returned (.tuple #[.int .i64 0,.int .i64 3])∧Below w.heap.size w w':=by
 obtain⟨ak,ck,rfl,_⟩:=Lies.slice hy
 have hb0:∀o,Below w.heap.size w (w.alloc o):=fun o=>((Grew.refl w).alloc o).below
 have HC:Hid (∀o,Calls Tryz.prog 101 #[.agg #[.int .i64 y.kind,.int .i64 y.num,.string y.text,.slice ak y.items.length ck]] (w.alloc o) fun e w'=>e=.returned (.int .i64 3)∧Below (w.alloc o).heap.size (w.alloc o) w'):=fun o=>by
  have h9:=zbd d y _ (w.alloc o) (Lies.keeps (hb0 o) _ _ _ hy) ht
  rwa [hr] at h9
 have HB:Hid _:=hb0
 clear hy ht hr hb0
 go_enter Tryz.func140,Tryz.ntmps140
 go_wp2_with fail
 refine (HC.out _).mono ?_
 rintro e w1 ⟨rfl,hg⟩
 have hb1:Below w.heap.size w w1:=(HB.out _).trans (hg.mono (HB.out _).size)
 clear hg HB HC
 go_wp2_with fail
 first|(go_ret;exact⟨rfl,hb1⟩)|(go_ret2;exact⟨rfl,hb1⟩)
structure USt (w wr:World) (q:Nat) (y:VT) (yu:Value) (cn:Bool) (T:Nat) (s:RT PT) (p:Option Addr) (B n:Nat):Prop where
 box:Bx2 wr B (.int .i64 (q:Int)) (.pointer p)
 key:Bx wr w.heap.size y yu
 lo:w.heap.size<B
 nm:NM TT 16 w s p
 tot:n+RT.upTo (atK q y) cn s=T
 sub:∀x∈s.items,zab 16 x.1=true
 size:n+s.size≤65536
 below:Below w.heap.size w wr
theorem USt.keeps {w wr wr':World} {q:Nat} {y:VT} {yu:Value} {cn:Bool} {T:Nat} {s:RT PT} {p:Option Addr} {B n:Nat} (h:USt w wr q y yu cn T s p B n) (hb:Below wr.heap.size wr wr'):USt w wr' q y yu cn T s p B n:=
 ⟨h.box.keeps hb,h.key.keeps hb,h.lo,h.nm,h.tot,h.sub,h.size,h.below.trans (hb.mono h.below.size)⟩
theorem bx_put2 {W:World} {n m:Nat} {y:VT} {yu:Value} (h:Bx W n y yu) (hm:n≠m) (u v:Value):Bx (W.setCells m 0 [u,v]) n y yu:=
 ⟨zai (g:=m) hm h.c0,zai (g:=m) hm h.c1,zai (g:=m) hm h.c2,zai (g:=m) hm h.c3,by rw [World.frozen?_setCells];exact h.f0,by rw [World.frozen?_setCells];exact h.f1,by rw [World.frozen?_setCells];exact h.f2,by rw [World.frozen?_setCells];exact h.f3⟩
theorem USt.next {w wr:World} {q:Nat} {y:VT} {yu:Value} {cn:Bool} {T:Nat} {s s':RT PT} {p p':Option Addr} {B n n':Nat} (h:USt w wr q y yu cn T s p B n) (hn:NM TT 16 w s' p') (ht:n'+RT.upTo (atK q y) cn s'=T) (hs:∀x∈s'.items,x∈s.items) (hz:n'+s'.size≤65536) :
 USt w ((wr.setCells B 0 [.int .i64 (q:Int),.pointer p']).alloc (.cells #[.int .i64 (q:Int),.pointer p'] 246)) q y yu cn T s' p' wr.heap.size n':=by
 have hsz:(wr.setCells B 0 [.int .i64 (q:Int),.pointer p']).heap.size=wr.heap.size:=by simp [World.setCells]
 have hal:=((Grew.refl (wr.setCells B 0 [.int .i64 (q:Int),.pointer p'])).alloc (.cells #[.int .i64 (q:Int),.pointer p'] 246)).below
 have hbx:=za3 (wr.setCells B 0 [.int .i64 (q:Int),.pointer p']) 246 (.int .i64 (q:Int)) (.pointer p')
 rw [hsz] at hbx
 have hlow:w.heap.size<wr.heap.size:=by have h9:=zad h.key.c0;simpa using h9
 refine⟨hbx,(bx_put2 h.key (by have:=h.lo;omega) _ _).keeps hal,hlow,hn,ht,fun x hx=>h.sub x (hs x hx),hz,?_⟩
 have hb1:Below w.heap.size w (wr.setCells B 0 [.int .i64 (q:Int),.pointer p']):=below_pt15 h.below (by have:=h.lo;omega) _ _
 exact hb1.trans (hal.mono hb1.size)
end Go.Proofs.YtlnecfjnffdciabGreat

namespace Go.Proofs.YtlnecfjnffdciabGreat
open Go.RowKit Go.Shelf
set_option maxRecDepth 100000 in
set_option maxHeartbeats 8000000 in
theorem upto_right (d b q:Nat) (cn:Bool) (t:RT PT) (y:VT) (yu:Value) (w:World) (hm:MC w q t b) (hy:Lies d w y.items yu) (ht:y.text.size≤9223372036854775807) (hr:zab d y=true):Calls Tryz.prog 140 #[.pointer (some ⟨b,0,none⟩),.agg #[.int .i64 y.kind,.int .i64 y.num,.string y.text,yu],.bool cn] w fun e w'=>e=.returned (.tuple #[.int .i64 (RT.upTo (atK q y) cn t:Nat),.int .i64 0])∧Below w.heap.size w w':=by
 obtain⟨ak,ck,rfl,_⟩:=Lies.slice hy
 obtain⟨h16,hr16⟩:=canon hy hr
 have hb0:∀o,Below w.heap.size w (w.alloc o):=fun o=>((Grew.refl w).alloc o).below
 have HC:Hid (∀o,Calls Tryz.prog 101 #[.agg #[.int .i64 y.kind,.int .i64 y.num,.string y.text,.slice ak y.items.length ck]] (w.alloc o) fun e w'=>e=.returned (.int .i64 0)∧Below (w.alloc o).heap.size (w.alloc o) w'):=fun o=>by
  have h9:=zbd d y _ (w.alloc o) (Lies.keeps (hb0 o) _ _ _ hy) ht
  rwa [hr] at h9
 obtain⟨po,hpo,hn⟩:=hm.top
 have HWh:Hid (∀V,Below w.heap.size w V→Calls Tryz.prog 191 #[.pointer (some ⟨b,0,none⟩)] V (zbh q po V)):=fun V hV=>whole_15 b q po V (zaa hV hm.ord) (zaa hV hpo)
 have HN:Hid (NM TT 16 w t po):=hn
 have HK:Hid (Lies 16 w y.items (.slice ak y.items.length ck)):=h16
 have HKt:Hid (y.text.size≤9223372036854775807):=ht
 have HKr:Hid (zab 16 y=true):=hr16
 have HS:Hid (∀x∈t.items,zab 16 x.1=true):=fun x hx=>(hm.right x hx).1.1
 have HSz:Hid (t.size≤65536):=hm.size
 have H6:Hid (q<6):=hm.q6
 obtain⟨T,hT⟩:∃T,T=RT.upTo (atK q y) cn t:=⟨_,rfl⟩
 rw [←hT]
 have HT:Hid (RT.upTo (atK q y) cn t=T):=hT.symm
 obtain⟨Z,hZ⟩:∃Z,Z=t.size:=⟨_,rfl⟩
 have HZ:Hid (Z=t.size):=hZ
 have HB:Hid _:=hb0
 clear hm hy ht hr hb0 h16 hr16 hpo hn hT hZ
 go_enter Tryz.func140,Tryz.ntmps140
 go_wp2_with fail
 refine (HC.out _).mono ?_
 rintro e w1 ⟨rfl,hg⟩
 have HK1:Hid (Bx w1 w.heap.size y (.slice ak y.items.length ck)):=(zag w y _).keeps hg
 have hb1:Below w.heap.size w w1:=(HB.out _).trans (hg.mono (HB.out _).size)
 clear hg HC HB
 go_wp2_with fail
 refine Calls.mono (HWh.out _ hb1) ?_
 rintro e w2 ⟨rfl,hg2⟩
 have HU:Hid (USt w (w2.alloc (.cells #[.int .i64 (q:Int),.pointer po] 246)) q y (.slice ak y.items.length ck) cn T t po w2.heap.size 0):=by
  have hal:=((Grew.refl w2).alloc (.cells #[.int .i64 (q:Int),.pointer po] 246)).below
  have hb2:Below w.heap.size w w2:=hb1.trans (hg2.mono hb1.size)
  refine⟨za3 _ _ _ _,(HK1.out.keeps hg2).keeps hal,?_,HN.out,?_,HS.out,?_,hb2.trans (hal.mono hb2.size)⟩
  ·have h9:=zad (HK1.out.keeps hg2).c0;simpa using h9
  ·rw [Nat.zero_add];exact HT.out
  ·rw [Nat.zero_add];exact HSz.out
 clear HWh HN HT HS HSz HK1 hb1 hg2
 go_wp2_with fail
 go_loopg [9,10] Z (fun z v9 v10 wr=>∃(s:RT PT) (p:Option Addr) (B n:Nat),v9=.int .i64 (n:Int)∧v10=.pointer (some ⟨B,0,none⟩)∧Hid (z=s.size)∧Hid (USt w wr q y (.slice ak y.items.length ck) cn T s p B n))
 case atStart=>exact⟨t,po,w2.heap.size,0,rfl,rfl,HZ,HU⟩
 case round=>
  obtain⟨s,p,B,n,rfl,rfl,Hz,HSt⟩:=hrel
  clear HU HZ
  have hbw:Below w.heap.size w wr:=HSt.out.below
  obtain⟨b0,b1,fb0,fb1⟩:=HSt.out.box
  obtain⟨k0,k1,k2,k3,_,_,_,_⟩:=HSt.out.key
  cases s with
  | nil=>
   have hp:p=none:=HSt.out.nm
   subst hp
   have hn9:n=T:=by have h9:=HSt.out.tot;simpa [RT.upTo] using h9
   have HL:Hid (Calls Tryz.prog 192 #[.agg #[.int .i64 (q:Int),.pointer none]] wr fun e w'=>e=.returned (.int .i64 0)∧Below wr.heap.size wr w'):=plen_15 (X:=TT) (d:=16) (t:=.nil) q rfl
   have HE:Hid (n=T∧Below w.heap.size w wr):=⟨hn9,hbw⟩
   clear hn9 hbw
   go_wp2_with fail
   refine Calls.mono HL.out ?_
   rintro e w3 ⟨rfl,hg3⟩
   have HE3:Hid (n=T∧Below w.heap.size w w3):=⟨HE.out.1,HE.out.2.trans (hg3.mono HE.out.2.size)⟩
   clear hg3 HE HL k0 k1 k2 k3 b0 b1 fb0 fb1
   go_wp2_with fail
   first|go_ret|go_ret2
   exact⟨by rw [HE3.out.1];rfl,HE3.out.2⟩
  | node c l x r=>
   obtain⟨bb,pl,pr,ku,vu,hp,hc,hk,hv,hl,hr⟩:=HSt.out.nm
   subst hp
   obtain⟨N,hN⟩:∃N,N=(RT.node c l x r).size:=⟨_,rfl⟩
   have hN2:N=l.size+1+r.size:=hN
   have hpos:(0:Int)<(N:Int):=by omega
   have HL:Hid (∀V,Below w.heap.size w V→Calls Tryz.prog 192 #[.agg #[.int .i64 (q:Int),.pointer (some ⟨bb,0,none⟩)]] V fun e w'=>e=.returned (.int .i64 (N:Int))∧Below V.heap.size V w'):=fun V hV=>by rw [hN];exact plen_15 q (HSt.out.nm.keeps hV)
   obtain⟨G,hG⟩:∃G,G=atK q y x:=⟨_,rfl⟩
   have HSd:Hid (∀V,Below w.heap.size w V→Calls Tryz.prog 205 #[.agg #[.int .i64 (q:Int),.pointer (some ⟨bb,0,none⟩)],.agg #[.int .i64 y.kind,.int .i64 y.num,.string y.text,.slice ak y.items.length ck]] V fun e w'=>e=.returned (.int .i64 G)∧Below V.heap.size V w'):=fun V hV=>by
    rw [hG];exact stand_15 q bb H6.out y _ pl pr x ku vu c _ _ _ V (hc.keeps hV) (Lies.keeps hV _ _ _ HK.out) HKt.out HKr.out (LiesX.keeps hV hk.1).lies hk.2 (HSt.out.sub x (by simp [RT.items]))
   have HAh:Hid (∀V,Below w.heap.size w V→Calls Tryz.prog 193 #[.agg #[.int .i64 (q:Int),.pointer (some ⟨bb,0,none⟩)]] V (zbh q pl V)):=fun V hV=>pahead_15 q bb pl pr x ku vu c _ _ _ V (hc.keeps hV)
   have HBh:Hid (∀V,Below w.heap.size w V→Calls Tryz.prog 194 #[.agg #[.int .i64 (q:Int),.pointer (some ⟨bb,0,none⟩)]] V (zbh q pr V)):=fun V hV=>pbehind_15 q bb pl pr x ku vu c _ _ _ V (hc.keeps hV)
   obtain⟨M,hM⟩:∃M,M=l.size:=⟨_,rfl⟩
   have HLl:Hid (∀V,Below w.heap.size w V→Calls Tryz.prog 192 #[.agg #[.int .i64 (q:Int),.pointer pl]] V fun e w'=>e=.returned (.int .i64 (M:Int))∧Below V.heap.size V w'):=fun V hV=>by rw [hM];exact plen_15 q (hl.keeps hV)
   have HNl:Hid (NM TT 16 w l pl):=hl
   have HNr:Hid (NM TT 16 w r pr):=hr
   have HM:Hid (M=l.size):=hM
   have HZn:Hid ((RT.node c l x r).size=l.size+1+r.size):=rfl
   have hsz:n+(l.size+1+r.size)≤65536:=HSt.out.size
   have e1:IntKind.i64.wrap ((M:Int)+1)=((M+1:Nat):Int):=by rw [IntKind.wrap_i64];omega
   have E2:Hid (wrap64 ((n:Int)+((M:Int)+1))=((n+(M+1):Nat):Int)):=by show _=_;first|(unfold wrap64;omega)|(rw [←IntKind.wrap_eq_wrap64,IntKind.wrap_i64];omega)
   have HG:Hid (atK q y x=G):=hG.symm
   have hbw2:=hbw
   clear hc hk hv hl hr hN hN2 hG hM hsz
   go_wp2_with fail
   refine Calls.mono (HL.out _ hbw) ?_
   rintro e w3 ⟨rfl,hg3⟩
   have b0:=zaa hg3 b0;have b1:=zaa hg3 b1;have k0:=zaa hg3 k0;have k1:=zaa hg3 k1;have k2:=zaa hg3 k2;have k3:=zaa hg3 k3
   have hbw:Below w.heap.size w w3:=hbw2.trans (hg3.mono hbw2.size)
   have HS3:Hid (USt w w3 q y (.slice ak y.items.length ck) cn T (.node c l x r) (some ⟨bb,0,none⟩) B n):=HSt.out.keeps hg3
   clear hg3 HL hbw2 HSt fb0 fb1
   go_wp2_with fail
   refine Calls.mono (HSd.out _ hbw) ?_
   rintro e w4 ⟨rfl,hg4⟩
   have b0:=zaa hg4 b0;have b1:=zaa hg4 b1
   have hbw4:Below w.heap.size w w4:=hbw.trans (hg4.mono hbw.size)
   have HS4:Hid (USt w w4 q y (.slice ak y.items.length ck) cn T (.node c l x r) (some ⟨bb,0,none⟩) B n):=HS3.out.keeps hg4
   clear hg4 HSd hbw HS3 k0 k1 k2 k3 hpos
   by_cases g1:0<G
   ·have HT:Hid (n+(M+1)+RT.upTo (atK q y) cn r=T):=by
     show _=_
     rw [←HS4.out.tot]
     show _=n+(if RT.ahead (atK q y) cn x=true then l.size+1+RT.upTo (atK q y) cn r else RT.upTo (atK q y) cn l)
     rw [if_pos (by simp only [RT.ahead,HG.out];simp [g1]),HM.out]
     omega
    clear HG
    go_wp2_with fail
    refine Calls.mono (HAh.out _ hbw4) ?_
    rintro e w5 ⟨rfl,hg5⟩
    have b0:=zaa hg5 b0;have b1:=zaa hg5 b1
    have hbw5:Below w.heap.size w w5:=hbw4.trans (hg5.mono hbw4.size)
    have HS5:Hid (USt w w5 q y (.slice ak y.items.length ck) cn T (.node c l x r) (some ⟨bb,0,none⟩) B n):=HS4.out.keeps hg5
    clear hg5 HS4 hbw4 HAh
    go_wp2_with fail
    refine Calls.mono (HLl.out _ hbw5) ?_
    rintro e w6 ⟨rfl,hg6⟩
    have b0:=zaa hg6 b0;have b1:=zaa hg6 b1
    have hbw6:Below w.heap.size w w6:=hbw5.trans (hg6.mono hbw5.size)
    have HS6:Hid (USt w w6 q y (.slice ak y.items.length ck) cn T (.node c l x r) (some ⟨bb,0,none⟩) B n):=HS5.out.keeps hg6
    clear hg6 HS5 hbw5 HLl
    go_wp2_with fail
    refine Calls.mono (HBh.out _ hbw6) ?_
    rintro e w7 ⟨rfl,hg7⟩
    have HS7:Hid (USt w w7 q y (.slice ak y.items.length ck) cn T (.node c l x r) (some ⟨bb,0,none⟩) B n):=HS6.out.keeps hg7
    obtain⟨b0,b1,fb0,fb1⟩:=HS7.out.box
    have HX:Hid (USt w ((w7.setCells B 0 [.int .i64 (q:Int),.pointer pr]).alloc (.cells #[.int .i64 (q:Int),.pointer pr] 246)) q y (.slice ak y.items.length ck) cn T r pr w7.heap.size (n+(M+1))):=HS7.out.next HNr.out HT.out (fun z hz=>by simp [RT.items,hz]) (by have h8:=HS7.out.size;have:=HZn.out;have:=HM.out;omega)
    clear hg7 HS6 hbw6 HBh
    go_wp2_with fail
    go_roundg r.size
    case measure=>have:=Hz.out;have:=HZn.out;omega
    case rel=>exact⟨r,pr,w7.heap.size,n+(M+1),congrArg (Value.int .i64) E2.out,rfl,rfl,HX⟩
   ·by_cases g2:G=0
    ·subst g2
     cases cn with
     | true=>
      have HT:Hid (n+(M+1)+RT.upTo (atK q y) true r=T):=by
       show _=_
       rw [←HS4.out.tot]
       show _=n+(if RT.ahead (atK q y) true x=true then l.size+1+RT.upTo (atK q y) true r else RT.upTo (atK q y) true l)
       rw [if_pos (by simp only [RT.ahead,HG.out];simp),HM.out]
       omega
      clear HG
      go_wp2_with fail
      refine Calls.mono (HAh.out _ hbw4) ?_
      rintro e w5 ⟨rfl,hg5⟩
      have b0:=zaa hg5 b0;have b1:=zaa hg5 b1
      have hbw5:Below w.heap.size w w5:=hbw4.trans (hg5.mono hbw4.size)
      have HS5:Hid (USt w w5 q y (.slice ak y.items.length ck) true T (.node c l x r) (some ⟨bb,0,none⟩) B n):=HS4.out.keeps hg5
      clear hg5 HS4 hbw4 HAh
      go_wp2_with fail
      refine Calls.mono (HLl.out _ hbw5) ?_
      rintro e w6 ⟨rfl,hg6⟩
      have b0:=zaa hg6 b0;have b1:=zaa hg6 b1
      have hbw6:Below w.heap.size w w6:=hbw5.trans (hg6.mono hbw5.size)
      have HS6:Hid (USt w w6 q y (.slice ak y.items.length ck) true T (.node c l x r) (some ⟨bb,0,none⟩) B n):=HS5.out.keeps hg6
      clear hg6 HS5 hbw5 HLl
      go_wp2_with fail
      refine Calls.mono (HBh.out _ hbw6) ?_
      rintro e w7 ⟨rfl,hg7⟩
      have HS7:Hid (USt w w7 q y (.slice ak y.items.length ck) true T (.node c l x r) (some ⟨bb,0,none⟩) B n):=HS6.out.keeps hg7
      obtain⟨b0,b1,fb0,fb1⟩:=HS7.out.box
      have HX:Hid (USt w ((w7.setCells B 0 [.int .i64 (q:Int),.pointer pr]).alloc (.cells #[.int .i64 (q:Int),.pointer pr] 246)) q y (.slice ak y.items.length ck) true T r pr w7.heap.size (n+(M+1))):=HS7.out.next HNr.out HT.out (fun z hz=>by simp [RT.items,hz]) (by have h8:=HS7.out.size;have:=HZn.out;have:=HM.out;omega)
      clear hg7 HS6 hbw6 HBh
      go_wp2_with fail
      go_roundg r.size
      case measure=>have:=Hz.out;have:=HZn.out;omega
      case rel=>exact⟨r,pr,w7.heap.size,n+(M+1),congrArg (Value.int .i64) E2.out,rfl,rfl,HX⟩
     | false=>
      have HT:Hid (n+RT.upTo (atK q y) false l=T):=by
       show _=_
       rw [←HS4.out.tot]
       show _=n+(if RT.ahead (atK q y) false x=true then l.size+1+RT.upTo (atK q y) false r else RT.upTo (atK q y) false l)
       rw [if_neg (by simp only [RT.ahead,HG.out];simp)]
      clear HG
      go_wp2_with fail
      refine Calls.mono (HAh.out _ hbw4) ?_
      rintro e w7 ⟨rfl,hg7⟩
      have HS7:Hid (USt w w7 q y (.slice ak y.items.length ck) false T (.node c l x r) (some ⟨bb,0,none⟩) B n):=HS4.out.keeps hg7
      obtain⟨b0,b1,fb0,fb1⟩:=HS7.out.box
      have HX:Hid (USt w ((w7.setCells B 0 [.int .i64 (q:Int),.pointer pl]).alloc (.cells #[.int .i64 (q:Int),.pointer pl] 246)) q y (.slice ak y.items.length ck) false T l pl w7.heap.size n):=HS7.out.next HNl.out HT.out (fun z hz=>by simp [RT.items,hz]) (by have h8:=HS7.out.size;have:=HZn.out;omega)
      clear hg7 HS4 hbw4 HAh HBh HLl
      go_wp2_with fail
      go_roundg l.size
      case measure=>have:=Hz.out;have:=HZn.out;omega
      case rel=>exact⟨l,pl,w7.heap.size,n,rfl,rfl,rfl,HX⟩
    ·have g3:G<0:=by omega
     have HT:Hid (n+RT.upTo (atK q y) cn l=T):=by
      show _=_
      rw [←HS4.out.tot]
      show _=n+(if RT.ahead (atK q y) cn x=true then l.size+1+RT.upTo (atK q y) cn r else RT.upTo (atK q y) cn l)
      rw [if_neg (by simp only [RT.ahead,HG.out];simp [g1,g2])]
     clear HG
     go_wp2_with fail
     refine Calls.mono (HAh.out _ hbw4) ?_
     rintro e w7 ⟨rfl,hg7⟩
     have HS7:Hid (USt w w7 q y (.slice ak y.items.length ck) cn T (.node c l x r) (some ⟨bb,0,none⟩) B n):=HS4.out.keeps hg7
     obtain⟨b0,b1,fb0,fb1⟩:=HS7.out.box
     have HX:Hid (USt w ((w7.setCells B 0 [.int .i64 (q:Int),.pointer pl]).alloc (.cells #[.int .i64 (q:Int),.pointer pl] 246)) q y (.slice ak y.items.length ck) cn T l pl w7.heap.size n):=HS7.out.next HNl.out HT.out (fun z hz=>by simp [RT.items,hz]) (by have h8:=HS7.out.size;have:=HZn.out;omega)
     clear hg7 HS4 hbw4 HAh HBh HLl
     go_wp2_with fail
     go_roundg l.size
     case measure=>have:=Hz.out;have:=HZn.out;omega
     case rel=>exact⟨l,pl,w7.heap.size,n,rfl,rfl,rfl,HX⟩
end Go.Proofs.YtlnecfjnffdciabGreat

namespace Go.Proofs.YtlnecfjnffdciabGreat
open Go.RowKit Go.Shelf
set_option maxRecDepth 100000 in
set_option maxHeartbeats 8000000 in
theorem mslice_14 {w:World} {q:Nat} {t:RT PT} {b:Nat} (h:MC w q t b) (i j:Nat) (hi:i≤65536) (hj:j≤65536):Calls Tryz.prog 144 #[.pointer (some ⟨b,0,none⟩),.int .i64 (i:Int),.int .i64 (j:Int)] w (MapPost14 q ((t.items.take j).drop i) w):=by
 obtain⟨po,hpo,hn⟩:=h.top
 have hc1:=cut_sizes t (j:Int)
 have hc2:=cut_sizes (RT.cut (j:Int) t).1 (i:Int)
 have he:(RT.cut (i:Int) (RT.cut (j:Int) t).1).2.items=(t.items.take j).drop i:=by
  rw [(RT.cut_items _ _).2,(RT.cut_items _ _).1,Int.toNat_natCast,Int.toNat_natCast]
 have hsub:((t.items.take j).drop i).Sublist t.items:=(List.drop_sublist _ _).trans (List.take_sublist _ _)
 have hs:=h.size
 have HC1:Hid (∀V,Below w.heap.size w V→Calls Tryz.prog 207 #[.pointer po,.int .i64 (j:Int)] V (za7 TT 16 (RT.cut (j:Int) t).1 (RT.cut (j:Int) t).2 V)):=fun V hV=>cut_14 TT 16 t _ po V (hn.keeps hV) h.well (by omega) (by omega)
 have HC2:Hid (∀V p,NM TT 16 V (RT.cut (j:Int) t).1 p→Calls Tryz.prog 207 #[.pointer p,.int .i64 (i:Int)] V (za7 TT 16 (RT.cut (i:Int) (RT.cut (j:Int) t).1).1 (RT.cut (i:Int) (RT.cut (j:Int) t).1).2 V)):=fun V p hp=>cut_14 TT 16 _ _ p V hp (RT.cut_well t _ h.well).1 (by omega) (by omega)
 have HO:Hid (∀V p,Below w.heap.size w V→NM TT 16 V (RT.cut (i:Int) (RT.cut (j:Int) t).1).2 p→Calls Tryz.prog 133 #[.pointer (some ⟨b,0,none⟩),.pointer p] V (MapPost14 q ((t.items.take j).drop i) V)):=fun V p hV hp=>by
  have h9:=of_14 b q _ p V (zaa hV h.ord) hp (RT.cut_well _ _ (RT.cut_well t _ h.well).1).2 h.q6 (by rw [he];exact fun x hx=>h.right x (hsub.subset hx)) (by rw [he];exact List.Pairwise.sublist hsub h.rises) (by omega)
  rwa [he] at h9
 generalize (RT.cut (i:Int) (RT.cut (j:Int) t).1).1=T1 at *
 generalize (RT.cut (i:Int) (RT.cut (j:Int) t).1).2=T2 at *
 generalize (RT.cut (j:Int) t).1=T3 at *
 generalize (RT.cut (j:Int) t).2=T4 at *
 generalize (t.items.take j).drop i=L at *
 clear hn hc1 hc2 he hsub hs h hi hj
 go_enter Tryz.func144,Tryz.ntmps144
 go_wp2_with fail
 refine (own_14 _ _).mono ?_
 rintro e w1 ⟨rfl,hw⟩
 obtain rfl:w=w1:=hw.symm
 go_wp2_with fail
 refine Calls.mono (HC1.out _ (Below.refl _ _)) ?_
 rintro e w2 ⟨hg2,pa,pb,rfl,hta,htb⟩
 have HTA:Hid (NM TT 16 w2 T3 pa):=hta
 clear HC1 hta htb
 go_wp2_with fail
 refine Calls.mono (HC2.out _ _ HTA.out) ?_
 rintro e w3 ⟨hg3,pc,pd,rfl,htc,htd⟩
 have hb3:Below w.heap.size w w3:=hg2.trans (hg3.mono hg2.size)
 have HTD:Hid (NM TT 16 w3 T2 pd):=htd
 clear HC2 htc htd hg2 hg3 HTA
 go_wp2_with fail
 refine Calls.mono (HO.out _ _ hb3 HTD.out) ?_
 rintro e w4 ⟨hg4,t4,b4,rfl,hm4⟩
 have HE:Hid (MapPost14 q L w (.returned (.pointer (some ⟨b4,0,none⟩))) w4):=⟨hb3.trans (hg4.mono hb3.size),t4,b4,rfl,hm4⟩
 clear hg4 hm4 HO HTD
 go_wp2_with fail
 go_ret
 exact HE.out
set_option maxRecDepth 100000 in
set_option maxHeartbeats 8000000 in
theorem cut15_from (b:Nat) (y z:VT) (ay az:Option Addr) (cy cz:Nat) (wf wt:Bool) (w:World) (h1:∀V,Below w.heap.size w V→Calls Tryz.prog 140 #[.pointer (some ⟨b,0,none⟩),.agg #[.int .i64 y.kind,.int .i64 y.num,.string y.text,.slice ay y.items.length cy],.bool (!wf)] V fun e w'=>e=.returned (.tuple #[.int .i64 0,.int .i64 3])∧Below V.heap.size V w') :
 Calls Tryz.prog 90 #[.pointer (some ⟨b,0,none⟩),.agg #[.int .i64 y.kind,.int .i64 y.num,.string y.text,.slice ay y.items.length cy],.agg #[.int .i64 z.kind,.int .i64 z.num,.string z.text,.slice az z.items.length cz],.bool wf,.bool wt] w (OrPost 0 [] 3 w):=by
 have H1:Hid _:=h1
 obtain⟨W0,hW0⟩:∃W0,W0=(w.alloc (.cells #[.int .i64 y.kind,.int .i64 y.num,.string y.text,.slice ay y.items.length cy] 33)).alloc (.cells #[.int .i64 z.kind,.int .i64 z.num,.string z.text,.slice az z.items.length cz] 33):=⟨_,rfl⟩
 have HW0:Hid (W0=(w.alloc (.cells #[.int .i64 y.kind,.int .i64 y.num,.string y.text,.slice ay y.items.length cy] 33)).alloc (.cells #[.int .i64 z.kind,.int .i64 z.num,.string z.text,.slice az z.items.length cz] 33)):=hW0
 have hb0:Below w.heap.size w W0:=by rw [hW0];exact (((Grew.refl w).alloc _).alloc _).below
 have HK0:Hid (Bx W0 w.heap.size y (.slice ay y.items.length cy)):=by rw [hW0];exact (zag w y _).keeps ((Grew.refl _).alloc _).below
 have HZ0:Hid (Bx W0 (w.heap.size+1) z (.slice az z.items.length cz)):=by
  rw [hW0]
  have h9:=zag (w.alloc (.cells #[.int .i64 y.kind,.int .i64 y.num,.string y.text,.slice ay y.items.length cy] 33)) z (.slice az z.items.length cz)
  rwa [World.size_alloc] at h9
 obtain⟨k0,k1,k2,k3,_,_,_,_⟩:=HK0.out
 obtain⟨l0,l1,l2,l3,_,_,_,_⟩:=HZ0.out
 clear hW0 h1
 go_enter Tryz.func90,Tryz.ntmps90
 go_upto_region 1 with fail
 rw [←HW0.out]
 clear HW0
 go_wp2_with fail
 refine Calls.mono (H1.out _ hb0) ?_
 rintro e w2 ⟨rfl,hg2⟩
 have hb2:Below w.heap.size w w2:=hb0.trans (hg2.mono hb0.size)
 clear hg2 H1 k0 k1 k2 k3 l0 l1 l2 l3
 go_wp2_with fail
 go_ret2
 exact⟨hb2,.inl ⟨by decide,rfl⟩⟩
set_option maxRecDepth 100000 in
set_option maxHeartbeats 8000000 in
theorem cut15_to (b n:Nat) (y z:VT) (ay az:Option Addr) (cy cz:Nat) (wf wt:Bool) (w:World) (h1:∀V,Below w.heap.size w V→Calls Tryz.prog 140 #[.pointer (some ⟨b,0,none⟩),.agg #[.int .i64 y.kind,.int .i64 y.num,.string y.text,.slice ay y.items.length cy],.bool (!wf)] V fun e w'=>e=.returned (.tuple #[.int .i64 (n:Nat),.int .i64 0])∧Below V.heap.size V w')
 (h2:∀V,Below w.heap.size w V→Calls Tryz.prog 140 #[.pointer (some ⟨b,0,none⟩),.agg #[.int .i64 z.kind,.int .i64 z.num,.string z.text,.slice az z.items.length cz],.bool wt] V fun e w'=>e=.returned (.tuple #[.int .i64 0,.int .i64 3])∧Below V.heap.size V w') :
 Calls Tryz.prog 90 #[.pointer (some ⟨b,0,none⟩),.agg #[.int .i64 y.kind,.int .i64 y.num,.string y.text,.slice ay y.items.length cy],.agg #[.int .i64 z.kind,.int .i64 z.num,.string z.text,.slice az z.items.length cz],.bool wf,.bool wt] w (OrPost 0 [] 3 w):=by
 have H1:Hid _:=h1
 have H2:Hid _:=h2
 obtain⟨W0,hW0⟩:∃W0,W0=(w.alloc (.cells #[.int .i64 y.kind,.int .i64 y.num,.string y.text,.slice ay y.items.length cy] 33)).alloc (.cells #[.int .i64 z.kind,.int .i64 z.num,.string z.text,.slice az z.items.length cz] 33):=⟨_,rfl⟩
 have HW0:Hid (W0=(w.alloc (.cells #[.int .i64 y.kind,.int .i64 y.num,.string y.text,.slice ay y.items.length cy] 33)).alloc (.cells #[.int .i64 z.kind,.int .i64 z.num,.string z.text,.slice az z.items.length cz] 33)):=hW0
 have hb0:Below w.heap.size w W0:=by rw [hW0];exact (((Grew.refl w).alloc _).alloc _).below
 have HK0:Hid (Bx W0 w.heap.size y (.slice ay y.items.length cy)):=by rw [hW0];exact (zag w y _).keeps ((Grew.refl _).alloc _).below
 have HZ0:Hid (Bx W0 (w.heap.size+1) z (.slice az z.items.length cz)):=by
  rw [hW0]
  have h9:=zag (w.alloc (.cells #[.int .i64 y.kind,.int .i64 y.num,.string y.text,.slice ay y.items.length cy] 33)) z (.slice az z.items.length cz)
  rwa [World.size_alloc] at h9
 obtain⟨k0,k1,k2,k3,_,_,_,_⟩:=HK0.out
 obtain⟨l0,l1,l2,l3,_,_,_,_⟩:=HZ0.out
 clear hW0 h1 h2
 go_enter Tryz.func90,Tryz.ntmps90
 go_upto_region 1 with fail
 rw [←HW0.out]
 clear HW0
 go_wp2_with fail
 refine Calls.mono (H1.out _ hb0) ?_
 rintro e w2 ⟨rfl,hg2⟩
 have hb2:Below w.heap.size w w2:=hb0.trans (hg2.mono hb0.size)
 have k0:=zaa hg2 k0;have k1:=zaa hg2 k1;have k2:=zaa hg2 k2;have k3:=zaa hg2 k3;have l0:=zaa hg2 l0;have l1:=zaa hg2 l1;have l2:=zaa hg2 l2;have l3:=zaa hg2 l3
 clear hg2 H1
 go_wp2_with fail
 refine Calls.mono (H2.out _ hb2) ?_
 rintro e w3 ⟨rfl,hg3⟩
 have hb3:Below w.heap.size w w3:=hb2.trans (hg3.mono hb2.size)
 clear hg3 H2 k0 k1 k2 k3 l0 l1 l2 l3
 go_wp2_with fail
 go_ret2
 exact⟨hb3,.inl ⟨by decide,rfl⟩⟩
set_option maxRecDepth 100000 in
set_option maxHeartbeats 8000000 in
theorem cut15_both (b q i j:Nat) (L:List PT) (y z:VT) (ay az:Option Addr) (cy cz:Nat) (wf wt:Bool) (w:World) (h1:∀V,Below w.heap.size w V→Calls Tryz.prog 140 #[.pointer (some ⟨b,0,none⟩),.agg #[.int .i64 y.kind,.int .i64 y.num,.string y.text,.slice ay y.items.length cy],.bool (!wf)] V fun e w'=>e=.returned (.tuple #[.int .i64 (i:Nat),.int .i64 0])∧Below V.heap.size V w')
 (h2:∀V,Below w.heap.size w V→Calls Tryz.prog 140 #[.pointer (some ⟨b,0,none⟩),.agg #[.int .i64 z.kind,.int .i64 z.num,.string z.text,.slice az z.items.length cz],.bool wt] V fun e w'=>e=.returned (.tuple #[.int .i64 (j:Nat),.int .i64 0])∧Below V.heap.size V w')
 (h3:∀V,Below w.heap.size w V→Calls Tryz.prog 144 #[.pointer (some ⟨b,0,none⟩),.int .i64 (i:Nat),.int .i64 (j:Nat)] V (MapPost14 q L V)) :
 Calls Tryz.prog 90 #[.pointer (some ⟨b,0,none⟩),.agg #[.int .i64 y.kind,.int .i64 y.num,.string y.text,.slice ay y.items.length cy],.agg #[.int .i64 z.kind,.int .i64 z.num,.string z.text,.slice az z.items.length cz],.bool wf,.bool wt] w (OrPost q L 0 w):=by
 have H1:Hid _:=h1
 have H2:Hid _:=h2
 have H3:Hid _:=h3
 obtain⟨W0,hW0⟩:∃W0,W0=(w.alloc (.cells #[.int .i64 y.kind,.int .i64 y.num,.string y.text,.slice ay y.items.length cy] 33)).alloc (.cells #[.int .i64 z.kind,.int .i64 z.num,.string z.text,.slice az z.items.length cz] 33):=⟨_,rfl⟩
 have HW0:Hid (W0=(w.alloc (.cells #[.int .i64 y.kind,.int .i64 y.num,.string y.text,.slice ay y.items.length cy] 33)).alloc (.cells #[.int .i64 z.kind,.int .i64 z.num,.string z.text,.slice az z.items.length cz] 33)):=hW0
 have hb0:Below w.heap.size w W0:=by rw [hW0];exact (((Grew.refl w).alloc _).alloc _).below
 have HK0:Hid (Bx W0 w.heap.size y (.slice ay y.items.length cy)):=by rw [hW0];exact (zag w y _).keeps ((Grew.refl _).alloc _).below
 have HZ0:Hid (Bx W0 (w.heap.size+1) z (.slice az z.items.length cz)):=by
  rw [hW0]
  have h9:=zag (w.alloc (.cells #[.int .i64 y.kind,.int .i64 y.num,.string y.text,.slice ay y.items.length cy] 33)) z (.slice az z.items.length cz)
  rwa [World.size_alloc] at h9
 obtain⟨k0,k1,k2,k3,_,_,_,_⟩:=HK0.out
 obtain⟨l0,l1,l2,l3,_,_,_,_⟩:=HZ0.out
 clear hW0 h1 h2 h3
 go_enter Tryz.func90,Tryz.ntmps90
 go_upto_region 1 with fail
 rw [←HW0.out]
 clear HW0
 go_wp2_with fail
 refine Calls.mono (H1.out _ hb0) ?_
 rintro e w2 ⟨rfl,hg2⟩
 have hb2:Below w.heap.size w w2:=hb0.trans (hg2.mono hb0.size)
 have k0:=zaa hg2 k0;have k1:=zaa hg2 k1;have k2:=zaa hg2 k2;have k3:=zaa hg2 k3;have l0:=zaa hg2 l0;have l1:=zaa hg2 l1;have l2:=zaa hg2 l2;have l3:=zaa hg2 l3
 clear hg2 H1
 go_wp2_with fail
 refine Calls.mono (H2.out _ hb2) ?_
 rintro e w3 ⟨rfl,hg3⟩
 have hb3:Below w.heap.size w w3:=hb2.trans (hg3.mono hb2.size)
 clear hg3 H2 k0 k1 k2 k3 l0 l1 l2 l3
 go_wp2_with fail
 refine Calls.mono (H3.out _ hb3) ?_
 rintro e w4 ⟨hg4,t4,b4,rfl,hm4,hi4⟩
 have HE:Hid (OrPost q L 0 w (.returned (.tuple #[.pointer (some ⟨b4,0,none⟩),.int .i64 0])) w4):=⟨hb3.trans (hg4.mono hb3.size),.inr ⟨rfl,t4,b4,rfl,hm4,hi4⟩⟩
 clear hg4 hm4 hi4 H3
 go_wp2_with fail
 go_ret2
 exact HE.out
def btwL (q:Nat) (y z:VT) (wf wt:Bool) (t:RT PT):List PT:=(t.items.take (RT.upTo (atK q z) wt t)).drop (RT.upTo (atK q y) (!wf) t)
def btwE (d1 d2:Nat) (y z:VT):Int:=if zab d1 y=true∧zab d2 z=true then 0 else 3
theorem mcut_15 (d1 d2 b q:Nat) (t:RT PT) (y z:VT) (yu zu:Value) (wf wt:Bool) (w:World) (hm:MC w q t b) (hy:Lies d1 w y.items yu) (hyt:y.text.size≤9223372036854775807) (hz:Lies d2 w z.items zu) (hzt:z.text.size≤9223372036854775807) :
 Calls Tryz.prog 90 #[.pointer (some ⟨b,0,none⟩),.agg #[.int .i64 y.kind,.int .i64 y.num,.string y.text,yu],.agg #[.int .i64 z.kind,.int .i64 z.num,.string z.text,zu],.bool wf,.bool wt] w (OrPost q (btwL q y z wf wt t) (btwE d1 d2 y z) w):=by
 obtain⟨ay,cy,rfl,_⟩:=Lies.slice hy
 obtain⟨az,cz,rfl,_⟩:=Lies.slice hz
 have hs:=hm.size
 have hY:=fun V (hV:Below w.heap.size w V)=>Lies.keeps hV _ _ _ hy
 have hZ:=fun V (hV:Below w.heap.size w V)=>Lies.keeps hV _ _ _ hz
 have e3:∀e w',OrPost 0 [] 3 w e w'→OrPost q (btwL q y z wf wt t) 3 w e w':=fun e w' h=>⟨h.1,by
  rcases h.2 with h|⟨h,_⟩
  ·exact .inl h
  ·exact absurd h (by decide)⟩
 cases hr1:zab d1 y with
 | false=>
  rw [show btwE d1 d2 y z=3 by unfold btwE;rw [if_neg (by rw [hr1];simp)]]
  exact Calls.mono (cut15_from b y z ay az cy cz wf wt w (fun V hV=>upto_wrong d1 b (!wf) y _ V (hY V hV) hyt hr1)) e3
 | true=>
  cases hr2:zab d2 z with
  | false=>
   rw [show btwE d1 d2 y z=3 by unfold btwE;rw [if_neg (by rw [hr2];simp)]]
   exact Calls.mono (cut15_to b _ y z ay az cy cz wf wt w (fun V hV=>upto_right d1 b q (!wf) t y _ V (hm.keeps hV) (hY V hV) hyt hr1) (fun V hV=>upto_wrong d2 b wt z _ V (hZ V hV) hzt hr2)) e3
  | true=>
   rw [show btwE d1 d2 y z=0 by unfold btwE;rw [if_pos ⟨hr1,hr2⟩]]
   have h1:=RT.upTo_le (atK q y) (!wf) t
   have h2:=RT.upTo_le (atK q z) wt t
   exact cut15_both b q _ _ _ y z ay az cy cz wf wt w (fun V hV=>upto_right d1 b q (!wf) t y _ V (hm.keeps hV) (hY V hV) hyt hr1) (fun V hV=>upto_right d2 b q wt t z _ V (hm.keeps hV) (hZ V hV) hzt hr2) (fun V hV=>mslice_14 (hm.keeps hV) _ _ (by omega) (by omega))
end Go.Proofs.YtlnecfjnffdciabGreat

namespace Go.Proofs.YtlnecfjnffdciabGreat
open Go.RowKit Go.Shelf
def zal (l:List PT) (i:Int):Option PT:=if 0≤i then l[i.toNat]? else none
abbrev pairV (x:PT) (ku vu:Value):Value:=.agg #[.int .i64 x.1.kind,.int .i64 x.1.num,.string x.1.text,ku,.int .i64 x.2.kind,.int .i64 x.2.num,.string x.2.text,vu]
abbrev zeroPV:Value:=.agg #[.int .i64 0,.int .i64 0,.string ⟨#[]⟩,.slice none 0 0,.int .i64 0,.int .i64 0,.string ⟨#[]⟩,.slice none 0 0]
def InPost (o:Option PT) (w:World) (e:Ending) (w':World):Prop:=Below w.heap.size w w'∧((o=none∧e=.returned (.tuple #[zeroPV,.bool false]))∨∃x ku vu,o=some x∧e=.returned (.tuple #[pairV x ku vu,.bool true])∧LiesB w.heap.size 16 w' x.1.items ku∧LiesB w.heap.size 16 w' x.2.items vu)
structure ISt (w wr:World) (q:Nat) (O:Option PT) (s:RT PT) (p:Option Addr) (B j:Nat):Prop where
 box:Bx2 wr B (.int .i64 (q:Int)) (.pointer p)
 res:Bx8 wr w.heap.size (.int .i64 0) (.int .i64 0) (.string ⟨#[]⟩) (.slice none 0 0) (.int .i64 0) (.int .i64 0) (.string ⟨#[]⟩) (.slice none 0 0)
 lo:w.heap.size<B
 nm:NM TT 16 w s p
 at_:RT.nth s j=O
 lt:j<s.size
 sub:∀x∈s.items,zab 16 x.1=true∧zab 16 x.2=true
 size:s.size≤65536
 below:Below w.heap.size w wr
theorem ISt.keeps {w wr wr':World} {q:Nat} {O:Option PT} {s:RT PT} {p:Option Addr} {B j:Nat} (h:ISt w wr q O s p B j) (hb:Below wr.heap.size wr wr'):ISt w wr' q O s p B j:=
 ⟨h.box.keeps hb,h.res.keeps hb,h.lo,h.nm,h.at_,h.lt,h.sub,h.size,h.below.trans (hb.mono h.below.size)⟩
theorem bx8_other {W:World} {n m:Nat} {v0 v1 v2 v3 v4 v5 v6 v7:Value} (h:Bx8 W n v0 v1 v2 v3 v4 v5 v6 v7) (hm:n≠m) (vs:List Value):Bx8 (W.setCells m 0 vs) n v0 v1 v2 v3 v4 v5 v6 v7:=
 ⟨zai (g:=m) hm h.c0,zai (g:=m) hm h.c1,zai (g:=m) hm h.c2,zai (g:=m) hm h.c3,zai (g:=m) hm h.c4,zai (g:=m) hm h.c5,zai (g:=m) hm h.c6,zai (g:=m) hm h.c7,by rw [World.frozen?_setCells];exact h.f0,by rw [World.frozen?_setCells];exact h.f1,by rw [World.frozen?_setCells];exact h.f2,by rw [World.frozen?_setCells];exact h.f3,by rw [World.frozen?_setCells];exact h.f4,by rw [World.frozen?_setCells];exact h.f5,by rw [World.frozen?_setCells];exact h.f6,by rw [World.frozen?_setCells];exact h.f7,by rw [World.cell?_setCells_out m vs 0 W ⟨n,13,none⟩ (fun e _=>absurd e hm)];exact h.top⟩
theorem ISt.next {w wr:World} {q:Nat} {O:Option PT} {s s':RT PT} {p p':Option Addr} {B j j':Nat} (h:ISt w wr q O s p B j) (hn:NM TT 16 w s' p') (ha:RT.nth s' j'=O) (hlt:j'<s'.size) (hs:∀x∈s'.items,x∈s.items) (hz:s'.size≤s.size) :
 ISt w (wr.setCells B 0 [.int .i64 (q:Int),.pointer p']) q O s' p' B j':=
 ⟨h.box.put _ _,bx8_other h.res (by have:=h.lo;omega) _,h.lo,hn,ha,hlt,fun x hx=>h.sub x (hs x hx),by have:=h.size;omega,below_pt15 h.below (by have:=h.lo;omega) _ _⟩
end Go.Proofs.YtlnecfjnffdciabGreat

namespace Go.Proofs.YtlnecfjnffdciabGreat
open Go.RowKit Go.Shelf
set_option maxRecDepth 100000 in
set_option maxHeartbeats 8000000 in
theorem inpl_neg (b q:Nat) (t:RT PT) (i:Int) (w:World) (hm:MC w q t b) (hi:i<0):Calls Tryz.prog 128 #[.pointer (some ⟨b,0,none⟩),.int .i64 i] w (InPost none w):=by
 obtain⟨po,hpo,hn⟩:=hm.top
 have HWh:Hid (∀V,Below w.heap.size w V→Calls Tryz.prog 191 #[.pointer (some ⟨b,0,none⟩)] V (zbh q po V)):=fun V hV=>whole_15 b q po V (zaa hV hm.ord) (zaa hV hpo)
 have HB:Hid (Below w.heap.size w (w.alloc (.cells #[.int .i64 0,.int .i64 0,.string ⟨#[]⟩,.slice none 0 0,.int .i64 0,.int .i64 0,.string ⟨#[]⟩,.slice none 0 0] 108))):=((Grew.refl w).alloc _).below
 have HZ:Hid (Bx8 (w.alloc (.cells #[.int .i64 0,.int .i64 0,.string ⟨#[]⟩,.slice none 0 0,.int .i64 0,.int .i64 0,.string ⟨#[]⟩,.slice none 0 0] 108)) w.heap.size (.int .i64 0) (.int .i64 0) (.string ⟨#[]⟩) (.slice none 0 0) (.int .i64 0) (.int .i64 0) (.string ⟨#[]⟩) (.slice none 0 0)):=zan _ _ _ _ _ _ _ _ _ _
 clear hm hpo hn
 go_enter Tryz.func128,Tryz.ntmps128
 go_wp2_with fail
 refine Calls.mono (HWh.out _ HB.out) ?_
 rintro e w2 ⟨rfl,hg2⟩
 have hb2:Below w.heap.size w w2:=HB.out.trans (hg2.mono HB.out.size)
 have HZ2:Hid (Bx8 w2 w.heap.size (.int .i64 0) (.int .i64 0) (.string ⟨#[]⟩) (.slice none 0 0) (.int .i64 0) (.int .i64 0) (.string ⟨#[]⟩) (.slice none 0 0)):=HZ.out.keeps hg2
 obtain⟨W3,hW3⟩:∃W3,W3=w2.alloc (.cells #[.int .i64 (q:Int),.pointer po] 246):=⟨_,rfl⟩
 have HW3:Hid (W3=w2.alloc (.cells #[.int .i64 (q:Int),.pointer po] 246)):=hW3
 have hal:Below w2.heap.size w2 W3:=by rw [hW3];exact ((Grew.refl w2).alloc _).below
 have HP3:Hid (Bx2 W3 w2.heap.size (.int .i64 (q:Int)) (.pointer po)):=by rw [hW3];exact za3 _ _ _ _
 have hb3:Below w.heap.size w W3:=hb2.trans (hal.mono hb2.size)
 have HZ3:Hid (Bx8 W3 w.heap.size (.int .i64 0) (.int .i64 0) (.string ⟨#[]⟩) (.slice none 0 0) (.int .i64 0) (.int .i64 0) (.string ⟨#[]⟩) (.slice none 0 0)):=HZ2.out.keeps hal
 obtain⟨b0,b1,_,_⟩:=HP3.out
 clear hW3 hal hg2 hb2 HB HZ HZ2 HWh
 go_upto_region 2 with fail
 rw [←HW3.out]
 clear HW3
 obtain⟨y0,y1,y2,y3,y4,y5,y6,y7,f0,f1,f2,f3,f4,f5,f6,f7,_⟩:=HZ3.out
 have Hq:Hid _:=zaz HZ3.out (.int .i64 0) (.int .i64 0) (.string ⟨#[]⟩) (.slice none 0 0) (.int .i64 0) (.int .i64 0) (.string ⟨#[]⟩) (.slice none 0 0)
 have HE:Hid (InPost none w (.returned (.tuple #[.agg #[.int .i64 0,.int .i64 0,.string ⟨#[]⟩,.slice none 0 0,.int .i64 0,.int .i64 0,.string ⟨#[]⟩,.slice none 0 0],.bool false])) (W3.setCells w.heap.size 0 [.int .i64 0,.int .i64 0,.string ⟨#[]⟩,.slice none 0 0,.int .i64 0,.int .i64 0,.string ⟨#[]⟩,.slice none 0 0])):=⟨zam hb3 (Nat.le_refl _) _ _ _ _ _ _ _ _,.inl ⟨rfl,rfl⟩⟩
 clear hb3
 go_wp2_with fail
 refine bodyPost_ret (v:=.tuple #[.agg #[.int .i64 0,.int .i64 0,.string ⟨#[]⟩,.slice none 0 0,.int .i64 0,.int .i64 0,.string ⟨#[]⟩,.slice none 0 0],.bool false]) ?_ rfl HE.out
 obtain⟨q0,q1,q2,q3,q4,q5,q6,q7⟩:=Hq.out
 simp only [World.setCells,Nat.zero_add,Nat.reduceAdd] at q0 q1 q2 q3 q4 q5 q6 q7
 simp [results,Tryz.results128,go_sem,q0,q1,q2,q3,q4,q5,q6,q7]
set_option maxRecDepth 100000 in
set_option maxHeartbeats 8000000 in
theorem inpl_far (b q:Nat) (t:RT PT) (i:Int) (w:World) (hm:MC w q t b) (hi : ¬i<0∧(t.size:Int)≤i):Calls Tryz.prog 128 #[.pointer (some ⟨b,0,none⟩),.int .i64 i] w (InPost none w):=by
 obtain⟨po,hpo,hn⟩:=hm.top
 have HWh:Hid (∀V,Below w.heap.size w V→Calls Tryz.prog 191 #[.pointer (some ⟨b,0,none⟩)] V (zbh q po V)):=fun V hV=>whole_15 b q po V (zaa hV hm.ord) (zaa hV hpo)
 obtain⟨hi0,hi1⟩:=hi
 obtain⟨N,hN⟩:∃N,N=t.size:=⟨_,rfl⟩
 have HL:Hid (∀V,Below w.heap.size w V→Calls Tryz.prog 192 #[.agg #[.int .i64 (q:Int),.pointer po]] V fun e w'=>e=.returned (.int .i64 (N:Int))∧Below V.heap.size V w'):=fun V hV=>by rw [hN];exact plen_15 q (hn.keeps hV)
 rw [←hN] at hi1
 clear hN
 have HB:Hid (Below w.heap.size w (w.alloc (.cells #[.int .i64 0,.int .i64 0,.string ⟨#[]⟩,.slice none 0 0,.int .i64 0,.int .i64 0,.string ⟨#[]⟩,.slice none 0 0] 108))):=((Grew.refl w).alloc _).below
 have HZ:Hid (Bx8 (w.alloc (.cells #[.int .i64 0,.int .i64 0,.string ⟨#[]⟩,.slice none 0 0,.int .i64 0,.int .i64 0,.string ⟨#[]⟩,.slice none 0 0] 108)) w.heap.size (.int .i64 0) (.int .i64 0) (.string ⟨#[]⟩) (.slice none 0 0) (.int .i64 0) (.int .i64 0) (.string ⟨#[]⟩) (.slice none 0 0)):=zan _ _ _ _ _ _ _ _ _ _
 clear hm hpo hn
 go_enter Tryz.func128,Tryz.ntmps128
 go_wp2_with fail
 refine Calls.mono (HWh.out _ HB.out) ?_
 rintro e w2 ⟨rfl,hg2⟩
 have hb2:Below w.heap.size w w2:=HB.out.trans (hg2.mono HB.out.size)
 have HZ2:Hid (Bx8 w2 w.heap.size (.int .i64 0) (.int .i64 0) (.string ⟨#[]⟩) (.slice none 0 0) (.int .i64 0) (.int .i64 0) (.string ⟨#[]⟩) (.slice none 0 0)):=HZ.out.keeps hg2
 obtain⟨W3,hW3⟩:∃W3,W3=w2.alloc (.cells #[.int .i64 (q:Int),.pointer po] 246):=⟨_,rfl⟩
 have HW3:Hid (W3=w2.alloc (.cells #[.int .i64 (q:Int),.pointer po] 246)):=hW3
 have hal:Below w2.heap.size w2 W3:=by rw [hW3];exact ((Grew.refl w2).alloc _).below
 have HP3:Hid (Bx2 W3 w2.heap.size (.int .i64 (q:Int)) (.pointer po)):=by rw [hW3];exact za3 _ _ _ _
 have hb3:Below w.heap.size w W3:=hb2.trans (hal.mono hb2.size)
 have HZ3:Hid (Bx8 W3 w.heap.size (.int .i64 0) (.int .i64 0) (.string ⟨#[]⟩) (.slice none 0 0) (.int .i64 0) (.int .i64 0) (.string ⟨#[]⟩) (.slice none 0 0)):=HZ2.out.keeps hal
 obtain⟨b0,b1,_,_⟩:=HP3.out
 clear hW3 hal hg2 hb2 HB HZ HZ2 HWh
 go_upto_region 2 with fail
 rw [←HW3.out]
 clear HW3
 go_wp2_with fail
 refine Calls.mono (HL.out _ hb3) ?_
 rintro e w4 ⟨rfl,hg4⟩
 have HZ3:Hid (Bx8 w4 w.heap.size (.int .i64 0) (.int .i64 0) (.string ⟨#[]⟩) (.slice none 0 0) (.int .i64 0) (.int .i64 0) (.string ⟨#[]⟩) (.slice none 0 0)):=HZ3.out.keeps hg4
 have hb3:Below w.heap.size w w4:=hb3.trans (hg4.mono hb3.size)
 clear hg4 HL b0 b1
 obtain⟨y0,y1,y2,y3,y4,y5,y6,y7,f0,f1,f2,f3,f4,f5,f6,f7,_⟩:=HZ3.out
 have Hq:Hid _:=zaz HZ3.out (.int .i64 0) (.int .i64 0) (.string ⟨#[]⟩) (.slice none 0 0) (.int .i64 0) (.int .i64 0) (.string ⟨#[]⟩) (.slice none 0 0)
 have HE:Hid (InPost none w (.returned (.tuple #[.agg #[.int .i64 0,.int .i64 0,.string ⟨#[]⟩,.slice none 0 0,.int .i64 0,.int .i64 0,.string ⟨#[]⟩,.slice none 0 0],.bool false])) (w4.setCells w.heap.size 0 [.int .i64 0,.int .i64 0,.string ⟨#[]⟩,.slice none 0 0,.int .i64 0,.int .i64 0,.string ⟨#[]⟩,.slice none 0 0])):=⟨zam hb3 (Nat.le_refl _) _ _ _ _ _ _ _ _,.inl ⟨rfl,rfl⟩⟩
 clear hb3
 go_wp2_with fail
 refine bodyPost_ret (v:=.tuple #[.agg #[.int .i64 0,.int .i64 0,.string ⟨#[]⟩,.slice none 0 0,.int .i64 0,.int .i64 0,.string ⟨#[]⟩,.slice none 0 0],.bool false]) ?_ rfl HE.out
 obtain⟨q0,q1,q2,q3,q4,q5,q6,q7⟩:=Hq.out
 simp only [World.setCells,Nat.zero_add,Nat.reduceAdd] at q0 q1 q2 q3 q4 q5 q6 q7
 simp [results,Tryz.results128,go_sem,q0,q1,q2,q3,q4,q5,q6,q7]
set_option maxRecDepth 100000 in
set_option maxHeartbeats 8000000 in
theorem inpl_in (b q j:Nat) (t:RT PT) (w:World) (hm:MC w q t b) (hj:j<t.size):Calls Tryz.prog 128 #[.pointer (some ⟨b,0,none⟩),.int .i64 (j:Int)] w (InPost (RT.nth t j) w):=by
 obtain⟨po,hpo,hn⟩:=hm.top
 have HWh:Hid (∀V,Below w.heap.size w V→Calls Tryz.prog 191 #[.pointer (some ⟨b,0,none⟩)] V (zbh q po V)):=fun V hV=>whole_15 b q po V (zaa hV hm.ord) (zaa hV hpo)
 obtain⟨N,hN⟩:∃N,N=t.size:=⟨_,rfl⟩
 have HL:Hid (∀V,Below w.heap.size w V→Calls Tryz.prog 192 #[.agg #[.int .i64 (q:Int),.pointer po]] V fun e w'=>e=.returned (.int .i64 (N:Int))∧Below V.heap.size V w'):=fun V hV=>by rw [hN];exact plen_15 q (hn.keeps hV)
 have HN:Hid (NM TT 16 w t po):=hn
 have HB:Hid (Below w.heap.size w (w.alloc (.cells #[.int .i64 0,.int .i64 0,.string ⟨#[]⟩,.slice none 0 0,.int .i64 0,.int .i64 0,.string ⟨#[]⟩,.slice none 0 0] 108))):=((Grew.refl w).alloc _).below
 have HZ:Hid (Bx8 (w.alloc (.cells #[.int .i64 0,.int .i64 0,.string ⟨#[]⟩,.slice none 0 0,.int .i64 0,.int .i64 0,.string ⟨#[]⟩,.slice none 0 0] 108)) w.heap.size (.int .i64 0) (.int .i64 0) (.string ⟨#[]⟩) (.slice none 0 0) (.int .i64 0) (.int .i64 0) (.string ⟨#[]⟩) (.slice none 0 0)):=zan _ _ _ _ _ _ _ _ _ _
 obtain⟨O,hO⟩:∃O,O=RT.nth t j:=⟨_,rfl⟩
 have HO:Hid (RT.nth t j=O):=hO.symm
 rw [←hO]
 have HR:Hid (∀x∈t.items,zab 16 x.1=true∧zab 16 x.2=true):=fun x hx=>⟨(hm.right x hx).1.1,(hm.right x hx).2.1⟩
 have HSz:Hid (t.size≤65536):=hm.size
 have HJ:Hid (j<t.size):=hj
 have HNs:Hid (N=t.size):=hN
 have hi0 : ¬(j:Int)<0:=by omega
 have hi1 : ¬(N:Int)≤(j:Int):=by omega
 clear hm hpo hn hO hj hN
 go_enter Tryz.func128,Tryz.ntmps128
 go_wp2_with fail
 refine Calls.mono (HWh.out _ HB.out) ?_
 rintro e w2 ⟨rfl,hg2⟩
 have hb2:Below w.heap.size w w2:=HB.out.trans (hg2.mono HB.out.size)
 have HZ2:Hid (Bx8 w2 w.heap.size (.int .i64 0) (.int .i64 0) (.string ⟨#[]⟩) (.slice none 0 0) (.int .i64 0) (.int .i64 0) (.string ⟨#[]⟩) (.slice none 0 0)):=HZ.out.keeps hg2
 obtain⟨W3,hW3⟩:∃W3,W3=w2.alloc (.cells #[.int .i64 (q:Int),.pointer po] 246):=⟨_,rfl⟩
 have HW3:Hid (W3=w2.alloc (.cells #[.int .i64 (q:Int),.pointer po] 246)):=hW3
 have hal:Below w2.heap.size w2 W3:=by rw [hW3];exact ((Grew.refl w2).alloc _).below
 obtain⟨B,hB⟩:∃B,B=w2.heap.size:=⟨_,rfl⟩
 have HBe:Hid (B=w2.heap.size):=hB
 have HI3:Hid (ISt w W3 q O t po B j):=by
  refine⟨?_,HZ2.out.keeps hal,?_,HN.out,HO.out,HJ.out,HR.out,HSz.out,hb2.trans (hal.mono hb2.size)⟩
  ·rw [hW3,hB];exact za3 _ _ _ _
  ·rw [hB];have h9:=zad HZ2.out.c0;simpa using h9
 obtain⟨b0,b1,_,_⟩:=HI3.out.box
 have hb3:=HI3.out.below
 clear hW3 hal hg2 hb2 hB HB HZ HZ2 HWh HN HO HJ HR HSz
 go_upto_region 2 with fail
 rw [←HW3.out,←HBe.out]
 clear HW3 HBe
 go_wp2_with fail
 refine Calls.mono (HL.out _ hb3) ?_
 rintro e w4 ⟨rfl,hg4⟩
 have HI4:Hid (ISt w w4 q O t po B j):=HI3.out.keeps hg4
 have HJ4:Hid (j<65536):=by have:=HI3.out.size;have:=HI3.out.lt;show _<_;omega
 clear hg4 HL b0 b1 HI3 hb3
 go_wp2_with fail
 generalize decide (N≤j)=D1
 generalize decide ((j:Int)<0)=D0
 go_loopg [1] N (fun z v1 wr=>∃(s:RT PT) (p:Option Addr) (j:Nat),v1=.int .i64 (j:Int)∧Hid (z=s.size)∧Hid (ISt w wr q O s p B j))
 case atStart=>exact⟨t,po,j,rfl,HNs,HI4⟩
 case round=>
  obtain⟨s,p,j,rfl,Hz,HSt⟩:=hrel
  clear HI4 HNs HJ4 hi0 hi1
  cases s with
  | nil=>exact absurd HSt.out.lt (by simp [RT.size])
  | node c l x r=>
   obtain⟨bb,pl,pr,ku,vu,hp,hc,hk,hv,hl,hr⟩:=HSt.out.nm
   subst hp
   obtain⟨b0,b1,_,_⟩:=HSt.out.box
   have hbw:Below w.heap.size w wr:=HSt.out.below
   have HAh:Hid (∀V,Below w.heap.size w V→Calls Tryz.prog 193 #[.agg #[.int .i64 (q:Int),.pointer (some ⟨bb,0,none⟩)]] V (zbh q pl V)):=fun V hV=>pahead_15 q bb pl pr x ku vu c _ _ _ V (hc.keeps hV)
   have HBh:Hid (∀V,Below w.heap.size w V→Calls Tryz.prog 194 #[.agg #[.int .i64 (q:Int),.pointer (some ⟨bb,0,none⟩)]] V (zbh q pr V)):=fun V hV=>pbehind_15 q bb pl pr x ku vu c _ _ _ V (hc.keeps hV)
   have HPr:Hid (∀V,Below w.heap.size w V→Calls Tryz.prog 195 #[.agg #[.int .i64 (q:Int),.pointer (some ⟨bb,0,none⟩)]] V (zbf x V)):=fun V hV=>ppair_15 q bb pl pr x ku vu c _ _ _ V (hc.keeps hV) (LiesX.keeps hV hk.1).lies (LiesX.keeps hV hv.1).lies (HSt.out.sub x (by simp [RT.items]))
   obtain⟨M,hM⟩:∃M,M=l.size:=⟨_,rfl⟩
   have HLl:Hid (∀V,Below w.heap.size w V→Calls Tryz.prog 192 #[.agg #[.int .i64 (q:Int),.pointer pl]] V fun e w'=>e=.returned (.int .i64 (M:Int))∧Below V.heap.size V w'):=fun V hV=>by rw [hM];exact plen_15 q (hl.keeps hV)
   have HNl:Hid (NM TT 16 w l pl):=hl
   have HNr:Hid (NM TT 16 w r pr):=hr
   have HM:Hid (M=l.size):=hM
   have HZn:Hid ((RT.node c l x r).size=l.size+1+r.size):=rfl
   have HAt:Hid ((if j<M then RT.nth l j else if M<j then RT.nth r (j-M-1) else some x)=O):=by rw [hM];exact HSt.out.at_
   clear hc hk hv hl hr hM
   go_wp2_with fail
   refine Calls.mono (HAh.out _ hbw) ?_
   rintro e w5 ⟨rfl,hg5⟩
   obtain⟨W6,hW6⟩:∃W6,W6=w5.alloc (.cells #[.int .i64 (q:Int),.pointer pl] 246):=⟨_,rfl⟩
   have HW6:Hid (W6=w5.alloc (.cells #[.int .i64 (q:Int),.pointer pl] 246)):=hW6
   obtain⟨B6,hB6⟩:∃B6,B6=w5.heap.size:=⟨_,rfl⟩
   have HB6:Hid (B6=w5.heap.size):=hB6
   have HP6:Hid (Bx2 W6 B6 (.int .i64 (q:Int)) (.pointer pl)):=by rw [hW6,hB6];exact za3 _ _ _ _
   have hal:Below w5.heap.size w5 W6:=by rw [hW6];exact ((Grew.refl w5).alloc _).below
   have HI6:Hid (ISt w W6 q O (.node c l x r) (some ⟨bb,0,none⟩) B j):=(HSt.out.keeps hg5).keeps hal
   have HNe:Hid (B6≠B):=by have h9:=zad (HSt.out.keeps hg5).box.c0;simp only at h9;show _≠_;omega
   obtain⟨p0,p1,_,_⟩:=HP6.out
   have hb6:=HI6.out.below
   clear hW6 hB6 hal hg5 hbw b0 b1 HSt HAh
   go_upto_region 5 with fail
   rw [←HW6.out,←HB6.out]
   clear HW6 HB6
   go_wp2_with fail
   refine Calls.mono (HLl.out _ hb6) ?_
   rintro e w7 ⟨rfl,hg7⟩
   have HI7:Hid (ISt w w7 q O (.node c l x r) (some ⟨bb,0,none⟩) B j):=HI6.out.keeps hg7
   have HP7:Hid (Bx2 w7 B6 (.int .i64 (q:Int)) (.pointer pl)):=HP6.out.keeps hg7
   obtain⟨b0,b1,fb0,fb1⟩:=HI7.out.box
   obtain⟨p0,p1,_,_⟩:=HP7.out
   have hb7:=HI7.out.below
   have hne:=HNe.out
   have hne2 : ¬B=B6:=fun e=>hne e.symm
   clear hg7 hb6 HI6 HP6 HLl
   by_cases g1:(j:Int)<(M:Int)
   ·have HX:Hid (ISt w (w7.setCells B 0 [.int .i64 (q:Int),.pointer pl]) q O l pl B j):=HI7.out.next HNl.out (by have h9:=HAt.out;rwa [if_pos (by omega)] at h9) (by have:=HM.out;omega) (fun z hz=>by simp [RT.items,hz]) (by have:=HZn.out;omega)
    clear HAt
    go_wp2_with fail
    go_roundg l.size
    case measure=>have:=Hz.out;have:=HZn.out;omega
    case rel=>exact⟨l,pl,j,rfl,rfl,HX⟩
   ·by_cases g2:(M:Int)<(j:Int)
    ·have E1:Hid (wrap64 (wrap64 ((j:Int)-(M:Int))-1)=((j-M-1:Nat):Int)):=by
      have h1:=HI7.out.lt;have h2:=HI7.out.size
      show _=_
      unfold wrap64;omega
     clear p0 p1
     go_wp2_with fail
     refine Calls.mono (HBh.out _ hb7) ?_
     rintro e w8 ⟨rfl,hg8⟩
     have HI8:Hid (ISt w w8 q O (.node c l x r) (some ⟨bb,0,none⟩) B j):=HI7.out.keeps hg8
     obtain⟨b0,b1,fb0,fb1⟩:=HI8.out.box
     have HX:Hid (ISt w (w8.setCells B 0 [.int .i64 (q:Int),.pointer pr]) q O r pr B (j-M-1)):=HI8.out.next HNr.out (by have h9:=HAt.out;rwa [if_neg (by omega),if_pos (by omega)] at h9) (by have:=HI8.out.lt;have:=HM.out;have:=HZn.out;omega) (fun z hz=>by simp [RT.items,hz]) (by have:=HZn.out;omega)
     clear HAt hg8 HI7 hb7 HP7
     go_wp2_with fail
     go_roundg r.size
     case measure=>have:=Hz.out;have:=HZn.out;omega
     case rel=>exact⟨r,pr,j-M-1,congrArg (Value.int .i64) E1.out,rfl,HX⟩
    ·have HOx:Hid (O=some x):=by have h9:=HAt.out;rw [if_neg (by omega),if_neg (by omega)] at h9;exact h9.symm
     clear HAt p0 p1
     go_wp2_with fail
     refine Calls.mono (HPr.out _ hb7) ?_
     rintro e w8 ⟨ku',vu',rfl,hl5,hl6,hg8⟩
     obtain⟨a5,c5,rfl,_⟩:=LiesB.slice hl5
     obtain⟨a6,c6,rfl,_⟩:=LiesB.slice hl6
     have HR8:Hid (Bx8 w8 w.heap.size (.int .i64 0) (.int .i64 0) (.string ⟨#[]⟩) (.slice none 0 0) (.int .i64 0) (.int .i64 0) (.string ⟨#[]⟩) (.slice none 0 0)):=HI7.out.res.keeps hg8
     obtain⟨y0,y1,y2,y3,y4,y5,y6,y7,f0,f1,f2,f3,f4,f5,f6,f7,_⟩:=HR8.out
     have Hq:Hid _:=zaz HR8.out (.int .i64 x.1.kind) (.int .i64 x.1.num) (.string x.1.text) (.slice a5 x.1.items.length c5) (.int .i64 x.2.kind) (.int .i64 x.2.num) (.string x.2.text) (.slice a6 x.2.items.length c6)
     have hlt7:w.heap.size<w7.heap.size:=by have h9:=zad HI7.out.res.c0;simpa using h9
     have hbz:Below w.heap.size w w8:=hb7.trans (hg8.mono hb7.size)
     have HE:Hid (InPost O w (.returned (.tuple #[.agg #[.int .i64 x.1.kind,.int .i64 x.1.num,.string x.1.text,.slice a5 x.1.items.length c5,.int .i64 x.2.kind,.int .i64 x.2.num,.string x.2.text,.slice a6 x.2.items.length c6],.bool true])) (w8.setCells w.heap.size 0 [.int .i64 x.1.kind,.int .i64 x.1.num,.string x.1.text,.slice a5 x.1.items.length c5,.int .i64 x.2.kind,.int .i64 x.2.num,.string x.2.text,.slice a6 x.2.items.length c6])):=⟨zam hbz (Nat.le_refl _) _ _ _ _ _ _ _ _,.inr ⟨x,_,_,HOx.out,rfl,LiesB.lower14 hb7.size _ _ _ (LiesB.put8 hlt7 _ hl5),LiesB.lower14 hb7.size _ _ _ (LiesB.put8 hlt7 _ hl6)⟩⟩
     clear hl5 hl6 hg8 hbz hlt7 hb7 HPr HOx fb0 fb1 b0 b1
     go_wp2_with fail
     refine bodyPost_ret (v:=.tuple #[.agg #[.int .i64 x.1.kind,.int .i64 x.1.num,.string x.1.text,.slice a5 x.1.items.length c5,.int .i64 x.2.kind,.int .i64 x.2.num,.string x.2.text,.slice a6 x.2.items.length c6],.bool true]) ?_ rfl HE.out
     obtain⟨q0,q1,q2,q3,q4,q5,q6,q7⟩:=Hq.out
     simp only [World.setCells,Nat.zero_add,Nat.reduceAdd] at q0 q1 q2 q3 q4 q5 q6 q7
     simp [results,Tryz.results128,go_sem,q0,q1,q2,q3,q4,q5,q6,q7]
theorem inpl_15 (b q:Nat) (t:RT PT) (i:Int) (w:World) (hm:MC w q t b):Calls Tryz.prog 128 #[.pointer (some ⟨b,0,none⟩),.int .i64 i] w (InPost (zal t.items i) w):=by
 unfold zal
 by_cases h0:i<0
 ·rw [if_neg (by omega)];exact inpl_neg b q t i w hm h0
 ·rw [if_pos (by omega),←RT.nth_items]
  by_cases h1:(t.size:Int)≤i
  ·have h9:RT.nth t i.toNat=none:=by
    rw [RT.nth_items,List.getElem?_eq_none_iff,←RT.size_items];omega
   rw [h9];exact inpl_far b q t i w hm ⟨h0,h1⟩
  ·obtain⟨j,rfl⟩:∃j:Nat,i=(j:Int):=⟨i.toNat,by omega⟩
   exact inpl_in b q j t w hm (by omega)
end Go.Proofs.YtlnecfjnffdciabGreat

namespace Go.Proofs.YtlnecfjnffdciabGreat
open Go.RowKit Go.Shelf
def NearPost (o:Option PT) (E:Int) (w:World) (e:Ending) (w':World):Prop:=Below w.heap.size w w'∧((o=none∧e=.returned (.tuple #[zeroPV,.bool false,.int .i64 E]))∨∃x ku vu,o=some x∧E=0∧e=.returned (.tuple #[pairV x ku vu,.bool true,.int .i64 0])∧LiesB w.heap.size 16 w' x.1.items ku∧LiesB w.heap.size 16 w' x.2.items vu)
set_option maxRecDepth 100000 in
set_option maxHeartbeats 8000000 in
theorem lasto_wrong (d b:Nat) (cn:Bool) (y:VT) (yu:Value) (w:World) (hy:Lies d w y.items yu) (ht:y.text.size≤9223372036854775807) (hr:zab d y=false):Calls Tryz.prog 143 #[.pointer (some ⟨b,0,none⟩),.agg #[.int .i64 y.kind,.int .i64 y.num,.string y.text,yu],.bool cn] w (NearPost none 3 w):=by
 obtain⟨ak,ck,rfl,_⟩:=Lies.slice hy
 have HU:Hid (∀V,Below w.heap.size w V→Calls Tryz.prog 140 #[.pointer (some ⟨b,0,none⟩),.agg #[.int .i64 y.kind,.int .i64 y.num,.string y.text,.slice ak y.items.length ck],.bool cn] V fun e w'=>e=.returned (.tuple #[.int .i64 0,.int .i64 3])∧Below V.heap.size V w'):=fun V hV=>upto_wrong d b cn y _ V (Lies.keeps hV _ _ _ hy) ht hr
 obtain⟨W0,hW0⟩:∃W0,W0=(w.alloc (.cells #[.int .i64 y.kind,.int .i64 y.num,.string y.text,.slice ak y.items.length ck] 33)).alloc (.cells #[.int .i64 0,.int .i64 0,.string ⟨#[]⟩,.slice none 0 0,.int .i64 0,.int .i64 0,.string ⟨#[]⟩,.slice none 0 0] 108):=⟨_,rfl⟩
 have HW0:Hid (W0=(w.alloc (.cells #[.int .i64 y.kind,.int .i64 y.num,.string y.text,.slice ak y.items.length ck] 33)).alloc (.cells #[.int .i64 0,.int .i64 0,.string ⟨#[]⟩,.slice none 0 0,.int .i64 0,.int .i64 0,.string ⟨#[]⟩,.slice none 0 0] 108)):=hW0
 have hb0:Below w.heap.size w W0:=by rw [hW0];exact (((Grew.refl w).alloc _).alloc _).below
 have HS0:Hid (W0.heap.size=w.heap.size+1+1):=by rw [hW0];show _=_;simp
 have HK0:Hid (Bx W0 w.heap.size y (.slice ak y.items.length ck)):=by rw [hW0];exact (zag w y _).keeps ((Grew.refl _).alloc _).below
 have HZ0:Hid (Bx8 W0 (w.heap.size+1) (.int .i64 0) (.int .i64 0) (.string ⟨#[]⟩) (.slice none 0 0) (.int .i64 0) (.int .i64 0) (.string ⟨#[]⟩) (.slice none 0 0)):=by
  rw [hW0]
  have h9:=zan (w.alloc (.cells #[.int .i64 y.kind,.int .i64 y.num,.string y.text,.slice ak y.items.length ck] 33)) 108 (.int .i64 0) (.int .i64 0) (.string ⟨#[]⟩) (.slice none 0 0) (.int .i64 0) (.int .i64 0) (.string ⟨#[]⟩) (.slice none 0 0)
  rwa [World.size_alloc] at h9
 obtain⟨k0,k1,k2,k3,_,_,_,_⟩:=HK0.out
 clear hW0 hy ht hr
 go_enter Tryz.func143,Tryz.ntmps143
 go_upto_region 1 with fail
 rw [←HW0.out]
 clear HW0
 go_wp2_with fail
 refine Calls.mono (HU.out _ hb0) ?_
 rintro e w1 ⟨rfl,hg1⟩
 have HZ1:Hid (Bx8 w1 (w.heap.size+1) (.int .i64 0) (.int .i64 0) (.string ⟨#[]⟩) (.slice none 0 0) (.int .i64 0) (.int .i64 0) (.string ⟨#[]⟩) (.slice none 0 0)):=HZ0.out.keeps hg1
 obtain⟨y0,y1,y2,y3,y4,y5,y6,y7,f0,f1,f2,f3,f4,f5,f6,f7,_⟩:=HZ1.out
 have Hq:Hid _:=zaz HZ1.out (.int .i64 0) (.int .i64 0) (.string ⟨#[]⟩) (.slice none 0 0) (.int .i64 0) (.int .i64 0) (.string ⟨#[]⟩) (.slice none 0 0)
 have hb1:Below w.heap.size w w1:=hb0.trans (hg1.mono hb0.size)
 have HE:Hid (NearPost none 3 w (.returned (.tuple #[.agg #[.int .i64 0,.int .i64 0,.string ⟨#[]⟩,.slice none 0 0,.int .i64 0,.int .i64 0,.string ⟨#[]⟩,.slice none 0 0],.bool false,.int .i64 3])) (w1.setCells (w.heap.size+1) 0 [.int .i64 0,.int .i64 0,.string ⟨#[]⟩,.slice none 0 0,.int .i64 0,.int .i64 0,.string ⟨#[]⟩,.slice none 0 0])):=⟨zam hb1 (by omega) _ _ _ _ _ _ _ _,.inl ⟨rfl,rfl⟩⟩
 clear hb1 hg1 HU k0 k1 k2 k3
 go_wp2_with fail
 refine bodyPost_ret (v:=.tuple #[.agg #[.int .i64 0,.int .i64 0,.string ⟨#[]⟩,.slice none 0 0,.int .i64 0,.int .i64 0,.string ⟨#[]⟩,.slice none 0 0],.bool false,.int .i64 3]) ?_ rfl HE.out
 obtain⟨q0,q1,q2,q3,q4,q5,q6,q7⟩:=Hq.out
 simp only [World.setCells,Nat.zero_add,Nat.reduceAdd] at q0 q1 q2 q3 q4 q5 q6 q7
 simp [results,Tryz.results143,go_sem,q0,q1,q2,q3,q4,q5,q6,q7]
set_option maxRecDepth 100000 in
set_option maxHeartbeats 8000000 in
theorem lasto_right (d b q:Nat) (cn:Bool) (t:RT PT) (y:VT) (yu:Value) (w:World) (hm:MC w q t b) (hy:Lies d w y.items yu) (ht:y.text.size≤9223372036854775807) (hr:zab d y=true):Calls Tryz.prog 143 #[.pointer (some ⟨b,0,none⟩),.agg #[.int .i64 y.kind,.int .i64 y.num,.string y.text,yu],.bool cn] w (NearPost (zal t.items ((RT.upTo (atK q y) cn t:Nat)-1:Int)) 0 w):=by
 obtain⟨ak,ck,rfl,_⟩:=Lies.slice hy
 obtain⟨n,hn⟩:∃n,n=RT.upTo (atK q y) cn t:=⟨_,rfl⟩
 have hnz:n≤65536:=by rw [hn];exact Nat.le_trans (RT.upTo_le _ _ _) hm.size
 rw [←hn]
 have HU:Hid (∀V,Below w.heap.size w V→Calls Tryz.prog 140 #[.pointer (some ⟨b,0,none⟩),.agg #[.int .i64 y.kind,.int .i64 y.num,.string y.text,.slice ak y.items.length ck],.bool cn] V fun e w'=>e=.returned (.tuple #[.int .i64 (n:Int),.int .i64 0])∧Below V.heap.size V w'):=fun V hV=>by rw [hn];exact upto_right d b q cn t y _ V (hm.keeps hV) (Lies.keeps hV _ _ _ hy) ht hr
 obtain⟨O,hO⟩:∃O,O=zal t.items ((n:Int)-1):=⟨_,rfl⟩
 have HI:Hid (∀V,Below w.heap.size w V→Calls Tryz.prog 128 #[.pointer (some ⟨b,0,none⟩),.int .i64 ((n:Int)-1)] V (InPost O V)):=fun V hV=>by rw [hO];exact inpl_15 b q t _ V (hm.keeps hV)
 rw [←hO]
 have e1:IntKind.i64.wrap ((n:Int)-1)=(n:Int)-1:=by rw [IntKind.wrap_i64];omega
 obtain⟨W0,hW0⟩:∃W0,W0=(w.alloc (.cells #[.int .i64 y.kind,.int .i64 y.num,.string y.text,.slice ak y.items.length ck] 33)).alloc (.cells #[.int .i64 0,.int .i64 0,.string ⟨#[]⟩,.slice none 0 0,.int .i64 0,.int .i64 0,.string ⟨#[]⟩,.slice none 0 0] 108):=⟨_,rfl⟩
 have HW0:Hid (W0=(w.alloc (.cells #[.int .i64 y.kind,.int .i64 y.num,.string y.text,.slice ak y.items.length ck] 33)).alloc (.cells #[.int .i64 0,.int .i64 0,.string ⟨#[]⟩,.slice none 0 0,.int .i64 0,.int .i64 0,.string ⟨#[]⟩,.slice none 0 0] 108)):=hW0
 have hb0:Below w.heap.size w W0:=by rw [hW0];exact (((Grew.refl w).alloc _).alloc _).below
 have HS0:Hid (W0.heap.size=w.heap.size+1+1):=by rw [hW0];show _=_;simp
 have HK0:Hid (Bx W0 w.heap.size y (.slice ak y.items.length ck)):=by rw [hW0];exact (zag w y _).keeps ((Grew.refl _).alloc _).below
 have HZ0:Hid (Bx8 W0 (w.heap.size+1) (.int .i64 0) (.int .i64 0) (.string ⟨#[]⟩) (.slice none 0 0) (.int .i64 0) (.int .i64 0) (.string ⟨#[]⟩) (.slice none 0 0)):=by
  rw [hW0]
  have h9:=zan (w.alloc (.cells #[.int .i64 y.kind,.int .i64 y.num,.string y.text,.slice ak y.items.length ck] 33)) 108 (.int .i64 0) (.int .i64 0) (.string ⟨#[]⟩) (.slice none 0 0) (.int .i64 0) (.int .i64 0) (.string ⟨#[]⟩) (.slice none 0 0)
  rwa [World.size_alloc] at h9
 obtain⟨k0,k1,k2,k3,_,_,_,_⟩:=HK0.out
 clear hW0 hy ht hr hm hn hO hnz
 go_enter Tryz.func143,Tryz.ntmps143
 go_upto_region 1 with fail
 rw [←HW0.out]
 clear HW0
 go_wp2_with fail
 refine Calls.mono (HU.out _ hb0) ?_
 rintro e w1 ⟨rfl,hg1⟩
 have HZ1:Hid (Bx8 w1 (w.heap.size+1) (.int .i64 0) (.int .i64 0) (.string ⟨#[]⟩) (.slice none 0 0) (.int .i64 0) (.int .i64 0) (.string ⟨#[]⟩) (.slice none 0 0)):=HZ0.out.keeps hg1
 have hb1:Below w.heap.size w w1:=hb0.trans (hg1.mono hb0.size)
 have HS1:Hid (w.heap.size+1<w1.heap.size):=by have h9:=zad HZ1.out.c0;show w.heap.size+1<w1.heap.size;simpa using h9
 clear hg1 HU k0 k1 k2 k3 HK0 HZ0 hb0
 go_wp2_with fail
 refine Calls.mono (HI.out _ hb1) ?_
 rintro e w2 ⟨hg2,hcase⟩
 have HZ2:Hid (Bx8 w2 (w.heap.size+1) (.int .i64 0) (.int .i64 0) (.string ⟨#[]⟩) (.slice none 0 0) (.int .i64 0) (.int .i64 0) (.string ⟨#[]⟩) (.slice none 0 0)):=HZ1.out.keeps hg2
 have hb2:Below w.heap.size w w2:=hb1.trans (hg2.mono hb1.size)
 clear hg2 HI HZ1
 rcases hcase with ⟨ho,rfl⟩|⟨x,ku,vu,ho,rfl,hl5,hl6⟩
 ·obtain⟨W3,hW3⟩:∃W3,W3=w2.alloc (.cells #[.int .i64 0,.int .i64 0,.string ⟨#[]⟩,.slice none 0 0,.int .i64 0,.int .i64 0,.string ⟨#[]⟩,.slice none 0 0] 108):=⟨_,rfl⟩
  have HW3:Hid (W3=w2.alloc (.cells #[.int .i64 0,.int .i64 0,.string ⟨#[]⟩,.slice none 0 0,.int .i64 0,.int .i64 0,.string ⟨#[]⟩,.slice none 0 0] 108)):=hW3
  have hal:Below w2.heap.size w2 W3:=by rw [hW3];exact ((Grew.refl w2).alloc _).below
  have HB3:Hid (Bx8 W3 w2.heap.size (.int .i64 0) (.int .i64 0) (.string ⟨#[]⟩) (.slice none 0 0) (.int .i64 0) (.int .i64 0) (.string ⟨#[]⟩) (.slice none 0 0)):=by rw [hW3];exact zan _ _ _ _ _ _ _ _ _ _
  have HZ3:Hid (Bx8 W3 (w.heap.size+1) (.int .i64 0) (.int .i64 0) (.string ⟨#[]⟩) (.slice none 0 0) (.int .i64 0) (.int .i64 0) (.string ⟨#[]⟩) (.slice none 0 0)):=HZ2.out.keeps hal
  have hb3:Below w.heap.size w W3:=hb2.trans (hal.mono hb2.size)
  obtain⟨y0,y1,y2,y3,y4,y5,y6,y7,f0,f1,f2,f3,f4,f5,f6,f7,_⟩:=HZ3.out
  obtain⟨z0,z1,z2,z3,z4,z5,z6,z7,_,_,_,_,_,_,_,_,_⟩:=HB3.out
  have Hq:Hid _:=zaz HZ3.out (.int .i64 0) (.int .i64 0) (.string ⟨#[]⟩) (.slice none 0 0) (.int .i64 0) (.int .i64 0) (.string ⟨#[]⟩) (.slice none 0 0)
  have HE:Hid (NearPost O 0 w (.returned (.tuple #[.agg #[.int .i64 0,.int .i64 0,.string ⟨#[]⟩,.slice none 0 0,.int .i64 0,.int .i64 0,.string ⟨#[]⟩,.slice none 0 0],.bool false,.int .i64 0])) (W3.setCells (w.heap.size+1) 0 [.int .i64 0,.int .i64 0,.string ⟨#[]⟩,.slice none 0 0,.int .i64 0,.int .i64 0,.string ⟨#[]⟩,.slice none 0 0])):=⟨zam hb3 (by omega) _ _ _ _ _ _ _ _,.inl ⟨ho,rfl⟩⟩
  clear hW3 hal ho hb1 hb2 hb3
  go_upto_region 5 with fail
  rw [←HW3.out]
  clear HW3
  go_wp2_with fail
  refine bodyPost_ret (v:=.tuple #[.agg #[.int .i64 0,.int .i64 0,.string ⟨#[]⟩,.slice none 0 0,.int .i64 0,.int .i64 0,.string ⟨#[]⟩,.slice none 0 0],.bool false,.int .i64 0]) ?_ rfl HE.out
  obtain⟨q0,q1,q2,q3,q4,q5,q6,q7⟩:=Hq.out
  simp only [World.setCells,Nat.zero_add,Nat.reduceAdd] at q0 q1 q2 q3 q4 q5 q6 q7
  simp [results,Tryz.results143,go_sem,q0,q1,q2,q3,q4,q5,q6,q7]
 ·obtain⟨a5,c5,rfl,_⟩:=LiesB.slice hl5
  obtain⟨a6,c6,rfl,_⟩:=LiesB.slice hl6
  obtain⟨W3,hW3⟩:∃W3,W3=w2.alloc (.cells #[.int .i64 x.1.kind,.int .i64 x.1.num,.string x.1.text,.slice a5 x.1.items.length c5,.int .i64 x.2.kind,.int .i64 x.2.num,.string x.2.text,.slice a6 x.2.items.length c6] 108):=⟨_,rfl⟩
  have HW3:Hid (W3=w2.alloc (.cells #[.int .i64 x.1.kind,.int .i64 x.1.num,.string x.1.text,.slice a5 x.1.items.length c5,.int .i64 x.2.kind,.int .i64 x.2.num,.string x.2.text,.slice a6 x.2.items.length c6] 108)):=hW3
  have hal:Below w2.heap.size w2 W3:=by rw [hW3];exact ((Grew.refl w2).alloc _).below
  have HB3:Hid (Bx8 W3 w2.heap.size (.int .i64 x.1.kind) (.int .i64 x.1.num) (.string x.1.text) (.slice a5 x.1.items.length c5) (.int .i64 x.2.kind) (.int .i64 x.2.num) (.string x.2.text) (.slice a6 x.2.items.length c6)):=by rw [hW3];exact zan _ _ _ _ _ _ _ _ _ _
  have HZ3:Hid (Bx8 W3 (w.heap.size+1) (.int .i64 0) (.int .i64 0) (.string ⟨#[]⟩) (.slice none 0 0) (.int .i64 0) (.int .i64 0) (.string ⟨#[]⟩) (.slice none 0 0)):=HZ2.out.keeps hal
  have hb3:Below w.heap.size w W3:=hb2.trans (hal.mono hb2.size)
  obtain⟨y0,y1,y2,y3,y4,y5,y6,y7,f0,f1,f2,f3,f4,f5,f6,f7,_⟩:=HZ3.out
  obtain⟨z0,z1,z2,z3,z4,z5,z6,z7,_,_,_,_,_,_,_,_,_⟩:=HB3.out
  have Hq:Hid _:=zaz HZ3.out (.int .i64 x.1.kind) (.int .i64 x.1.num) (.string x.1.text) (.slice a5 x.1.items.length c5) (.int .i64 x.2.kind) (.int .i64 x.2.num) (.string x.2.text) (.slice a6 x.2.items.length c6)
  have HE:Hid (NearPost O 0 w (.returned (.tuple #[.agg #[.int .i64 x.1.kind,.int .i64 x.1.num,.string x.1.text,.slice a5 x.1.items.length c5,.int .i64 x.2.kind,.int .i64 x.2.num,.string x.2.text,.slice a6 x.2.items.length c6],.bool true,.int .i64 0])) (W3.setCells (w.heap.size+1) 0 [.int .i64 x.1.kind,.int .i64 x.1.num,.string x.1.text,.slice a5 x.1.items.length c5,.int .i64 x.2.kind,.int .i64 x.2.num,.string x.2.text,.slice a6 x.2.items.length c6])):=⟨zam hb3 (by omega) _ _ _ _ _ _ _ _,.inr ⟨x,_,_,ho,rfl,rfl,LiesB.lower14 hb1.size _ _ _ (LiesB.put8 HS1.out _ (LiesB.keepsB hal hl5)),LiesB.lower14 hb1.size _ _ _ (LiesB.put8 HS1.out _ (LiesB.keepsB hal hl6))⟩⟩
  clear hW3 hal ho hb1 hb2 hb3 hl5 hl6
  go_upto_region 5 with fail
  rw [←HW3.out]
  clear HW3
  go_wp2_with fail
  refine bodyPost_ret (v:=.tuple #[.agg #[.int .i64 x.1.kind,.int .i64 x.1.num,.string x.1.text,.slice a5 x.1.items.length c5,.int .i64 x.2.kind,.int .i64 x.2.num,.string x.2.text,.slice a6 x.2.items.length c6],.bool true,.int .i64 0]) ?_ rfl HE.out
  obtain⟨q0,q1,q2,q3,q4,q5,q6,q7⟩:=Hq.out
  simp only [World.setCells,Nat.zero_add,Nat.reduceAdd] at q0 q1 q2 q3 q4 q5 q6 q7
  simp [results,Tryz.results143,go_sem,q0,q1,q2,q3,q4,q5,q6,q7]
set_option maxRecDepth 100000 in
set_option maxHeartbeats 8000000 in
theorem firstb_wrong (d b:Nat) (cn:Bool) (y:VT) (yu:Value) (w:World) (hy:Lies d w y.items yu) (ht:y.text.size≤9223372036854775807) (hr:zab d y=false):Calls Tryz.prog 142 #[.pointer (some ⟨b,0,none⟩),.agg #[.int .i64 y.kind,.int .i64 y.num,.string y.text,yu],.bool cn] w (NearPost none 3 w):=by
 obtain⟨ak,ck,rfl,_⟩:=Lies.slice hy
 have HU:Hid (∀V,Below w.heap.size w V→Calls Tryz.prog 140 #[.pointer (some ⟨b,0,none⟩),.agg #[.int .i64 y.kind,.int .i64 y.num,.string y.text,.slice ak y.items.length ck],.bool cn] V fun e w'=>e=.returned (.tuple #[.int .i64 0,.int .i64 3])∧Below V.heap.size V w'):=fun V hV=>upto_wrong d b cn y _ V (Lies.keeps hV _ _ _ hy) ht hr
 obtain⟨W0,hW0⟩:∃W0,W0=(w.alloc (.cells #[.int .i64 y.kind,.int .i64 y.num,.string y.text,.slice ak y.items.length ck] 33)).alloc (.cells #[.int .i64 0,.int .i64 0,.string ⟨#[]⟩,.slice none 0 0,.int .i64 0,.int .i64 0,.string ⟨#[]⟩,.slice none 0 0] 108):=⟨_,rfl⟩
 have HW0:Hid (W0=(w.alloc (.cells #[.int .i64 y.kind,.int .i64 y.num,.string y.text,.slice ak y.items.length ck] 33)).alloc (.cells #[.int .i64 0,.int .i64 0,.string ⟨#[]⟩,.slice none 0 0,.int .i64 0,.int .i64 0,.string ⟨#[]⟩,.slice none 0 0] 108)):=hW0
 have hb0:Below w.heap.size w W0:=by rw [hW0];exact (((Grew.refl w).alloc _).alloc _).below
 have HS0:Hid (W0.heap.size=w.heap.size+1+1):=by rw [hW0];show _=_;simp
 have HK0:Hid (Bx W0 w.heap.size y (.slice ak y.items.length ck)):=by rw [hW0];exact (zag w y _).keeps ((Grew.refl _).alloc _).below
 have HZ0:Hid (Bx8 W0 (w.heap.size+1) (.int .i64 0) (.int .i64 0) (.string ⟨#[]⟩) (.slice none 0 0) (.int .i64 0) (.int .i64 0) (.string ⟨#[]⟩) (.slice none 0 0)):=by
  rw [hW0]
  have h9:=zan (w.alloc (.cells #[.int .i64 y.kind,.int .i64 y.num,.string y.text,.slice ak y.items.length ck] 33)) 108 (.int .i64 0) (.int .i64 0) (.string ⟨#[]⟩) (.slice none 0 0) (.int .i64 0) (.int .i64 0) (.string ⟨#[]⟩) (.slice none 0 0)
  rwa [World.size_alloc] at h9
 obtain⟨k0,k1,k2,k3,_,_,_,_⟩:=HK0.out
 clear hW0 hy ht hr
 go_enter Tryz.func142,Tryz.ntmps142
 go_upto_region 1 with fail
 rw [←HW0.out]
 clear HW0
 go_wp2_with fail
 refine Calls.mono (HU.out _ hb0) ?_
 rintro e w1 ⟨rfl,hg1⟩
 have HZ1:Hid (Bx8 w1 (w.heap.size+1) (.int .i64 0) (.int .i64 0) (.string ⟨#[]⟩) (.slice none 0 0) (.int .i64 0) (.int .i64 0) (.string ⟨#[]⟩) (.slice none 0 0)):=HZ0.out.keeps hg1
 obtain⟨y0,y1,y2,y3,y4,y5,y6,y7,f0,f1,f2,f3,f4,f5,f6,f7,_⟩:=HZ1.out
 have Hq:Hid _:=zaz HZ1.out (.int .i64 0) (.int .i64 0) (.string ⟨#[]⟩) (.slice none 0 0) (.int .i64 0) (.int .i64 0) (.string ⟨#[]⟩) (.slice none 0 0)
 have hb1:Below w.heap.size w w1:=hb0.trans (hg1.mono hb0.size)
 have HE:Hid (NearPost none 3 w (.returned (.tuple #[.agg #[.int .i64 0,.int .i64 0,.string ⟨#[]⟩,.slice none 0 0,.int .i64 0,.int .i64 0,.string ⟨#[]⟩,.slice none 0 0],.bool false,.int .i64 3])) (w1.setCells (w.heap.size+1) 0 [.int .i64 0,.int .i64 0,.string ⟨#[]⟩,.slice none 0 0,.int .i64 0,.int .i64 0,.string ⟨#[]⟩,.slice none 0 0])):=⟨zam hb1 (by omega) _ _ _ _ _ _ _ _,.inl ⟨rfl,rfl⟩⟩
 clear hb1 hg1 HU k0 k1 k2 k3
 go_wp2_with fail
 refine bodyPost_ret (v:=.tuple #[.agg #[.int .i64 0,.int .i64 0,.string ⟨#[]⟩,.slice none 0 0,.int .i64 0,.int .i64 0,.string ⟨#[]⟩,.slice none 0 0],.bool false,.int .i64 3]) ?_ rfl HE.out
 obtain⟨q0,q1,q2,q3,q4,q5,q6,q7⟩:=Hq.out
 simp only [World.setCells,Nat.zero_add,Nat.reduceAdd] at q0 q1 q2 q3 q4 q5 q6 q7
 simp [results,Tryz.results142,go_sem,q0,q1,q2,q3,q4,q5,q6,q7]
set_option maxRecDepth 100000 in
set_option maxHeartbeats 8000000 in
theorem firstb_right (d b q:Nat) (cn:Bool) (t:RT PT) (y:VT) (yu:Value) (w:World) (hm:MC w q t b) (hy:Lies d w y.items yu) (ht:y.text.size≤9223372036854775807) (hr:zab d y=true):Calls Tryz.prog 142 #[.pointer (some ⟨b,0,none⟩),.agg #[.int .i64 y.kind,.int .i64 y.num,.string y.text,yu],.bool cn] w (NearPost (zal t.items ((RT.upTo (atK q y) cn t:Nat):Int)) 0 w):=by
 obtain⟨ak,ck,rfl,_⟩:=Lies.slice hy
 obtain⟨n,hn⟩:∃n,n=RT.upTo (atK q y) cn t:=⟨_,rfl⟩
 have hnz:n≤65536:=by rw [hn];exact Nat.le_trans (RT.upTo_le _ _ _) hm.size
 rw [←hn]
 have HU:Hid (∀V,Below w.heap.size w V→Calls Tryz.prog 140 #[.pointer (some ⟨b,0,none⟩),.agg #[.int .i64 y.kind,.int .i64 y.num,.string y.text,.slice ak y.items.length ck],.bool cn] V fun e w'=>e=.returned (.tuple #[.int .i64 (n:Int),.int .i64 0])∧Below V.heap.size V w'):=fun V hV=>by rw [hn];exact upto_right d b q cn t y _ V (hm.keeps hV) (Lies.keeps hV _ _ _ hy) ht hr
 obtain⟨O,hO⟩:∃O,O=zal t.items (n:Int):=⟨_,rfl⟩
 have HI:Hid (∀V,Below w.heap.size w V→Calls Tryz.prog 128 #[.pointer (some ⟨b,0,none⟩),.int .i64 (n:Int)] V (InPost O V)):=fun V hV=>by rw [hO];exact inpl_15 b q t _ V (hm.keeps hV)
 rw [←hO]
 obtain⟨W0,hW0⟩:∃W0,W0=(w.alloc (.cells #[.int .i64 y.kind,.int .i64 y.num,.string y.text,.slice ak y.items.length ck] 33)).alloc (.cells #[.int .i64 0,.int .i64 0,.string ⟨#[]⟩,.slice none 0 0,.int .i64 0,.int .i64 0,.string ⟨#[]⟩,.slice none 0 0] 108):=⟨_,rfl⟩
 have HW0:Hid (W0=(w.alloc (.cells #[.int .i64 y.kind,.int .i64 y.num,.string y.text,.slice ak y.items.length ck] 33)).alloc (.cells #[.int .i64 0,.int .i64 0,.string ⟨#[]⟩,.slice none 0 0,.int .i64 0,.int .i64 0,.string ⟨#[]⟩,.slice none 0 0] 108)):=hW0
 have hb0:Below w.heap.size w W0:=by rw [hW0];exact (((Grew.refl w).alloc _).alloc _).below
 have HS0:Hid (W0.heap.size=w.heap.size+1+1):=by rw [hW0];show _=_;simp
 have HK0:Hid (Bx W0 w.heap.size y (.slice ak y.items.length ck)):=by rw [hW0];exact (zag w y _).keeps ((Grew.refl _).alloc _).below
 have HZ0:Hid (Bx8 W0 (w.heap.size+1) (.int .i64 0) (.int .i64 0) (.string ⟨#[]⟩) (.slice none 0 0) (.int .i64 0) (.int .i64 0) (.string ⟨#[]⟩) (.slice none 0 0)):=by
  rw [hW0]
  have h9:=zan (w.alloc (.cells #[.int .i64 y.kind,.int .i64 y.num,.string y.text,.slice ak y.items.length ck] 33)) 108 (.int .i64 0) (.int .i64 0) (.string ⟨#[]⟩) (.slice none 0 0) (.int .i64 0) (.int .i64 0) (.string ⟨#[]⟩) (.slice none 0 0)
  rwa [World.size_alloc] at h9
 obtain⟨k0,k1,k2,k3,_,_,_,_⟩:=HK0.out
 clear hW0 hy ht hr hm hn hO hnz
 go_enter Tryz.func142,Tryz.ntmps142
 go_upto_region 1 with fail
 rw [←HW0.out]
 clear HW0
 go_wp2_with fail
 refine Calls.mono (HU.out _ hb0) ?_
 rintro e w1 ⟨rfl,hg1⟩
 have HZ1:Hid (Bx8 w1 (w.heap.size+1) (.int .i64 0) (.int .i64 0) (.string ⟨#[]⟩) (.slice none 0 0) (.int .i64 0) (.int .i64 0) (.string ⟨#[]⟩) (.slice none 0 0)):=HZ0.out.keeps hg1
 have hb1:Below w.heap.size w w1:=hb0.trans (hg1.mono hb0.size)
 have HS1:Hid (w.heap.size+1<w1.heap.size):=by have h9:=zad HZ1.out.c0;show w.heap.size+1<w1.heap.size;simpa using h9
 clear hg1 HU k0 k1 k2 k3 HK0 HZ0 hb0
 go_wp2_with fail
 refine Calls.mono (HI.out _ hb1) ?_
 rintro e w2 ⟨hg2,hcase⟩
 have HZ2:Hid (Bx8 w2 (w.heap.size+1) (.int .i64 0) (.int .i64 0) (.string ⟨#[]⟩) (.slice none 0 0) (.int .i64 0) (.int .i64 0) (.string ⟨#[]⟩) (.slice none 0 0)):=HZ1.out.keeps hg2
 have hb2:Below w.heap.size w w2:=hb1.trans (hg2.mono hb1.size)
 clear hg2 HI HZ1
 rcases hcase with ⟨ho,rfl⟩|⟨x,ku,vu,ho,rfl,hl5,hl6⟩
 ·obtain⟨W3,hW3⟩:∃W3,W3=w2.alloc (.cells #[.int .i64 0,.int .i64 0,.string ⟨#[]⟩,.slice none 0 0,.int .i64 0,.int .i64 0,.string ⟨#[]⟩,.slice none 0 0] 108):=⟨_,rfl⟩
  have HW3:Hid (W3=w2.alloc (.cells #[.int .i64 0,.int .i64 0,.string ⟨#[]⟩,.slice none 0 0,.int .i64 0,.int .i64 0,.string ⟨#[]⟩,.slice none 0 0] 108)):=hW3
  have hal:Below w2.heap.size w2 W3:=by rw [hW3];exact ((Grew.refl w2).alloc _).below
  have HB3:Hid (Bx8 W3 w2.heap.size (.int .i64 0) (.int .i64 0) (.string ⟨#[]⟩) (.slice none 0 0) (.int .i64 0) (.int .i64 0) (.string ⟨#[]⟩) (.slice none 0 0)):=by rw [hW3];exact zan _ _ _ _ _ _ _ _ _ _
  have HZ3:Hid (Bx8 W3 (w.heap.size+1) (.int .i64 0) (.int .i64 0) (.string ⟨#[]⟩) (.slice none 0 0) (.int .i64 0) (.int .i64 0) (.string ⟨#[]⟩) (.slice none 0 0)):=HZ2.out.keeps hal
  have hb3:Below w.heap.size w W3:=hb2.trans (hal.mono hb2.size)
  obtain⟨y0,y1,y2,y3,y4,y5,y6,y7,f0,f1,f2,f3,f4,f5,f6,f7,_⟩:=HZ3.out
  obtain⟨z0,z1,z2,z3,z4,z5,z6,z7,_,_,_,_,_,_,_,_,_⟩:=HB3.out
  have Hq:Hid _:=zaz HZ3.out (.int .i64 0) (.int .i64 0) (.string ⟨#[]⟩) (.slice none 0 0) (.int .i64 0) (.int .i64 0) (.string ⟨#[]⟩) (.slice none 0 0)
  have HE:Hid (NearPost O 0 w (.returned (.tuple #[.agg #[.int .i64 0,.int .i64 0,.string ⟨#[]⟩,.slice none 0 0,.int .i64 0,.int .i64 0,.string ⟨#[]⟩,.slice none 0 0],.bool false,.int .i64 0])) (W3.setCells (w.heap.size+1) 0 [.int .i64 0,.int .i64 0,.string ⟨#[]⟩,.slice none 0 0,.int .i64 0,.int .i64 0,.string ⟨#[]⟩,.slice none 0 0])):=⟨zam hb3 (by omega) _ _ _ _ _ _ _ _,.inl ⟨ho,rfl⟩⟩
  clear hW3 hal ho hb1 hb2 hb3
  go_upto_region 5 with fail
  rw [←HW3.out]
  clear HW3
  go_wp2_with fail
  refine bodyPost_ret (v:=.tuple #[.agg #[.int .i64 0,.int .i64 0,.string ⟨#[]⟩,.slice none 0 0,.int .i64 0,.int .i64 0,.string ⟨#[]⟩,.slice none 0 0],.bool false,.int .i64 0]) ?_ rfl HE.out
  obtain⟨q0,q1,q2,q3,q4,q5,q6,q7⟩:=Hq.out
  simp only [World.setCells,Nat.zero_add,Nat.reduceAdd] at q0 q1 q2 q3 q4 q5 q6 q7
  simp [results,Tryz.results142,go_sem,q0,q1,q2,q3,q4,q5,q6,q7]
 ·obtain⟨a5,c5,rfl,_⟩:=LiesB.slice hl5
  obtain⟨a6,c6,rfl,_⟩:=LiesB.slice hl6
  obtain⟨W3,hW3⟩:∃W3,W3=w2.alloc (.cells #[.int .i64 x.1.kind,.int .i64 x.1.num,.string x.1.text,.slice a5 x.1.items.length c5,.int .i64 x.2.kind,.int .i64 x.2.num,.string x.2.text,.slice a6 x.2.items.length c6] 108):=⟨_,rfl⟩
  have HW3:Hid (W3=w2.alloc (.cells #[.int .i64 x.1.kind,.int .i64 x.1.num,.string x.1.text,.slice a5 x.1.items.length c5,.int .i64 x.2.kind,.int .i64 x.2.num,.string x.2.text,.slice a6 x.2.items.length c6] 108)):=hW3
  have hal:Below w2.heap.size w2 W3:=by rw [hW3];exact ((Grew.refl w2).alloc _).below
  have HB3:Hid (Bx8 W3 w2.heap.size (.int .i64 x.1.kind) (.int .i64 x.1.num) (.string x.1.text) (.slice a5 x.1.items.length c5) (.int .i64 x.2.kind) (.int .i64 x.2.num) (.string x.2.text) (.slice a6 x.2.items.length c6)):=by rw [hW3];exact zan _ _ _ _ _ _ _ _ _ _
  have HZ3:Hid (Bx8 W3 (w.heap.size+1) (.int .i64 0) (.int .i64 0) (.string ⟨#[]⟩) (.slice none 0 0) (.int .i64 0) (.int .i64 0) (.string ⟨#[]⟩) (.slice none 0 0)):=HZ2.out.keeps hal
  have hb3:Below w.heap.size w W3:=hb2.trans (hal.mono hb2.size)
  obtain⟨y0,y1,y2,y3,y4,y5,y6,y7,f0,f1,f2,f3,f4,f5,f6,f7,_⟩:=HZ3.out
  obtain⟨z0,z1,z2,z3,z4,z5,z6,z7,_,_,_,_,_,_,_,_,_⟩:=HB3.out
  have Hq:Hid _:=zaz HZ3.out (.int .i64 x.1.kind) (.int .i64 x.1.num) (.string x.1.text) (.slice a5 x.1.items.length c5) (.int .i64 x.2.kind) (.int .i64 x.2.num) (.string x.2.text) (.slice a6 x.2.items.length c6)
  have HE:Hid (NearPost O 0 w (.returned (.tuple #[.agg #[.int .i64 x.1.kind,.int .i64 x.1.num,.string x.1.text,.slice a5 x.1.items.length c5,.int .i64 x.2.kind,.int .i64 x.2.num,.string x.2.text,.slice a6 x.2.items.length c6],.bool true,.int .i64 0])) (W3.setCells (w.heap.size+1) 0 [.int .i64 x.1.kind,.int .i64 x.1.num,.string x.1.text,.slice a5 x.1.items.length c5,.int .i64 x.2.kind,.int .i64 x.2.num,.string x.2.text,.slice a6 x.2.items.length c6])):=⟨zam hb3 (by omega) _ _ _ _ _ _ _ _,.inr ⟨x,_,_,ho,rfl,rfl,LiesB.lower14 hb1.size _ _ _ (LiesB.put8 HS1.out _ (LiesB.keepsB hal hl5)),LiesB.lower14 hb1.size _ _ _ (LiesB.put8 HS1.out _ (LiesB.keepsB hal hl6))⟩⟩
  clear hW3 hal ho hb1 hb2 hb3 hl5 hl6
  go_upto_region 5 with fail
  rw [←HW3.out]
  clear HW3
  go_wp2_with fail
  refine bodyPost_ret (v:=.tuple #[.agg #[.int .i64 x.1.kind,.int .i64 x.1.num,.string x.1.text,.slice a5 x.1.items.length c5,.int .i64 x.2.kind,.int .i64 x.2.num,.string x.2.text,.slice a6 x.2.items.length c6],.bool true,.int .i64 0]) ?_ rfl HE.out
  obtain⟨q0,q1,q2,q3,q4,q5,q6,q7⟩:=Hq.out
  simp only [World.setCells,Nat.zero_add,Nat.reduceAdd] at q0 q1 q2 q3 q4 q5 q6 q7
  simp [results,Tryz.results142,go_sem,q0,q1,q2,q3,q4,q5,q6,q7]
end Go.Proofs.YtlnecfjnffdciabGreat

