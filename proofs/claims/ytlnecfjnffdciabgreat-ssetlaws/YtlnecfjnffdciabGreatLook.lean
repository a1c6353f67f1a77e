import Derived.Test.YtlnecfjnffdciabGreatTab6
import Derived.Test.YtlnecfjnffdciabGreatRotate
set_option maxHeartbeats 4000000
namespace Go.Proofs.YtlnecfjnffdciabGreat
open Go.RowKit Go.Shelf
structure MB where
 t:VT
 u:Value
 m:Int
def encM (p:MB):List Value:=[.int .i64 p.t.kind,.int .i64 p.t.num,.string p.t.text,p.u,.int .u64 p.m]
structure Five (W:World) (n:Nat):Prop where
 there:∀k,k<5→(W.cell? ⟨n,k,none⟩).isSome=true
 soft:∀k,k<5→W.frozen? ⟨n,k,none⟩=false
theorem Five.lt {W:World} {n:Nat} (h:Five W n):n<W.heap.size:=by
 obtain⟨v,hv⟩:=Option.isSome_iff_exists.1 (h.there 0 (by omega))
 exact zad hv
theorem Five.keeps {W W':World} {n:Nat} (h:Five W n) (hb:Below W.heap.size W W'):Five W' n:=
 ⟨fun k hk=>by rw [hb.cell (p:=⟨n,k,none⟩) h.lt];exact h.there k hk,fun k hk=>by rw [hb.frozen (p:=⟨n,k,none⟩) h.lt];exact h.soft k hk⟩
theorem Five.put {W:World} {n:Nat} (h:Five W n) (p:MB):∀j (hj:j<(encM p).length),(W.setCells n 0 (encM p)).cell? ⟨n,0+j,none⟩=some ((encM p)[j]):=
 World.cell?_setCells_in n _ 0 W (fun j hj=>by rw [Nat.zero_add];exact h.there j (by simpa [encM] using hj))
theorem below_putM {w W:World} {n:Nat} (h:Below w.heap.size w W) (hn:w.heap.size≤n) (o:Nat) (p:MB):Below w.heap.size w (W.setCells n o (encM p)):=
 ((((h.setCell (p:=⟨n,o,none⟩) hn _).setCell (p:=⟨n,o+1,none⟩) hn _).setCell (p:=⟨n,o+1+1,none⟩) hn _).setCell (p:=⟨n,o+1+1+1,none⟩) hn _).setCell (p:=⟨n,o+1+1+1+1,none⟩) hn _
structure DeskM (W:World) (n f0 f1:Nat) (t:VT) (u:Value):Prop where
 g0:W.cell? ⟨n,0,none⟩=some (fv f0)
 g1:W.cell? ⟨n,1,none⟩=some (fv f1)
 box:Boxed W (n+1) t.kind t.num t.text u
 res:Five W (n+2)
theorem DeskM.keeps {W W':World} {n f0 f1:Nat} {t:VT} {u:Value} (h:DeskM W n f0 f1 t u) (hb:Below W.heap.size W W'):DeskM W' n f0 f1 t u:=
 ⟨zaa hb h.g0,zaa hb h.g1,h.box.keeps hb,h.res.keeps hb⟩
abbrev deskW (w:World) (f0 f1:Nat) (t:VT) (u:Value):World:=
 (((w.alloc (.cells #[fv f0,fv f1] 281)).alloc (.cells #[.int .i64 t.kind,.int .i64 t.num,.string t.text,u] 33)).alloc (.cells #[.int .i64 0,.int .i64 0,.string ⟨#[]⟩,.slice none 0 0,.int .u64 0] 288)).drew
theorem five_alloc (w:World) (a b c d e:Value) (ty:Nat):Five (w.alloc (.cells #[a,b,c,d,e] ty)) w.heap.size:=by
 refine⟨fun k hk=>?_,fun k hk=>by simp⟩
 match k,hk with
 | 0,_=>simp
 | 1,_=>simp
 | 2,_=>simp
 | 3,_=>simp
 | 4,_=>simp
theorem deskM_start (w:World) (f0 f1:Nat) (t:VT) (u:Value):DeskM (deskW w f0 f1 t u) w.heap.size f0 f1 t u:=by
 have h2:∀(W:World) (o1 o2:Obj),Below W.heap.size W ((W.alloc o1).alloc o2).drew:=fun W o1 o2=>(Grew.two W o1 o2).drew.below
 have h1:∀(W:World) (o1:Obj),Below W.heap.size W (W.alloc o1).drew:=fun W o1=>((Grew.refl W).alloc o1).drew.below
 have h0:∀(W:World),Below W.heap.size W W.drew:=fun W=>(Grew.refl W).drew.below
 refine⟨zaa (h2 _ _ _) (by simp),zaa (h2 _ _ _) (by simp),?_,?_⟩
 ·have:=(za2 (w.alloc (.cells #[fv f0,fv f1] 281)) t.kind t.num t.text u 33).keeps (h1 _ (.cells #[.int .i64 0,.int .i64 0,.string ⟨#[]⟩,.slice none 0 0,.int .u64 0] 288))
  rwa [World.size_alloc] at this
 ·have:=(five_alloc ((w.alloc (.cells #[fv f0,fv f1] 281)).alloc (.cells #[.int .i64 t.kind,.int .i64 t.num,.string t.text,u] 33)) (.int .i64 0) (.int .i64 0) (.string ⟨#[]⟩) (.slice none 0 0) (.int .u64 0) 288).keeps (h0 _)
  rwa [World.size_alloc,World.size_alloc] at this
theorem measured_core (f0 f1:Nat) (eg:∀args w,(callFunc f0 args).run Tryz.prog w=.ok (.enter f0 args) w) (z:Int) (t:VT) (a:Option Addr) (l c:Nat) (w:World)
 (hf:Hid (∀W:World,Below w.heap.size w W→Calls Tryz.prog f0 #[.agg #[.int .i64 t.kind,.int .i64 t.num,.string t.text,.slice a l c]] W (MeasPost z W))) :
 Calls Tryz.prog 269 #[.agg #[fv f0,fv f1],.agg #[.int .i64 t.kind,.int .i64 t.num,.string t.text,.slice a l c]] w fun e w'=>e=.returned (.agg #[.int .i64 t.kind,.int .i64 t.num,.string t.text,.slice a l c,.int .u64 z])∧Below w.heap.size w w':=by
 have HD0:Hid (DeskM (deskW w f0 f1 t (.slice a l c)) w.heap.size f0 f1 t (.slice a l c)):=deskM_start w f0 f1 t _
 have HB:Hid (Below w.heap.size w (deskW w f0 f1 t (.slice a l c))):=((((Grew.refl w).alloc _).alloc _).alloc _).drew.below
 have hne1 : ¬(w.heap.size+1+1=w.heap.size):=by omega
 have hne2 : ¬(w.heap.size=w.heap.size+1+1):=by omega
 go_enter Tryz.func269,Tryz.ntmps269
 go_wp2_with fail
 go_region_held3 (fun w'=>w'.cell? ⟨w.heap.size,0,none⟩=some (fv f0)∧w'.cell? ⟨w.heap.size+1,0,none⟩=some (.int .i64 t.kind)∧w'.cell? ⟨w.heap.size+1,1,none⟩=some (.int .i64 t.num)∧w'.cell? ⟨w.heap.size+1,2,none⟩=some (.string t.text)∧w'.cell? ⟨w.heap.size+1,3,none⟩=some (.slice a l c)) (go_keep)
  (first|(go_at_fn f0;refine (hf.out _ HB.out).mono ?_;rintro e w1 ⟨rfl,hb1⟩;have HD1:Hid (DeskM w1 w.heap.size f0 f1 t (.slice a l c)):=HD0.out.keeps hb1;have hbw1:Below w.heap.size w w1:=HB.out.trans (hb1.mono (by simp;omega));clear hb1 HD0 HB;obtain⟨g0,g1,⟨x0,x1,x2,x3⟩,hres⟩:=HD1.out;obtain⟨v0,s0⟩:=Option.isSome_iff_exists.1 (hres.there 0 (by omega));have z0:=hres.soft 0 (by omega);obtain⟨v1,s1⟩:=Option.isSome_iff_exists.1 (hres.there 1 (by omega));have z1:=hres.soft 1 (by omega);obtain⟨v2,s2⟩:=Option.isSome_iff_exists.1 (hres.there 2 (by omega));have z2:=hres.soft 2 (by omega);obtain⟨v3,s3⟩:=Option.isSome_iff_exists.1 (hres.there 3 (by omega));have z3:=hres.soft 3 (by omega);obtain⟨v4,s4⟩:=Option.isSome_iff_exists.1 (hres.there 4 (by omega));have z4:=hres.soft 4 (by omega);have Hres:Hid (Five w1 (w.heap.size+2)):=hres;clear hres))
 have Hin:Hid _:=Hres.out.put ⟨t,.slice a l c,z⟩
 have Hbf:Hid _:=below_putM hbw1 (show w.heap.size≤w.heap.size+2 by omega) 0 ⟨t,.slice a l c,z⟩
 clear Hres HD1
 go_wp2_with fail
 refine bodyPost_ret (v:=.agg #[.int .i64 t.kind,.int .i64 t.num,.string t.text,.slice a l c,.int .u64 z]) ?_ rfl ⟨rfl,Hbf.out⟩
 have q0:=Hin.out 0 (by simp [encM])
 have q1:=Hin.out 1 (by simp [encM])
 have q2:=Hin.out 2 (by simp [encM])
 have q3:=Hin.out 3 (by simp [encM])
 have q4:=Hin.out 4 (by simp [encM])
 simp only [encM,World.setCells,Nat.zero_add,Nat.reduceAdd,List.getElem_cons_zero,List.getElem_cons_succ] at q0 q1 q2 q3 q4
 simp [results,Tryz.results269,go_sem,q0,q1,q2,q3,q4]
theorem measured_any (q:Nat) (hq:q<6) (t:VT) (u:Value) (w:World) (hu:Lies 16 w t.items u) (hr:zac 16 t=true) :
 Calls Tryz.prog 269 #[.agg #[fv (mF q),fv (cF q)],.agg #[.int .i64 t.kind,.int .i64 t.num,.string t.text,u]] w fun e w'=>e=.returned (.agg #[.int .i64 t.kind,.int .i64 t.num,.string t.text,u,.int .u64 (msr q t)])∧Below w.heap.size w w':=by
 obtain⟨a,c,rfl,_⟩:=Lies.slice hu
 exact measured_core _ _ (mF_enters q hq) _ t a _ c w (fun W hW=>meas_any q hq t _ W (Lies.keeps hW _ _ _ hu) hr)
def ordE (d:Nat) (o:Int) (t s:VT):Int:=if o<0∨6≤o then 4 else if zac d t=true∧zac d s=true then 0 else 3
def ordR (d:Nat) (o:Int) (t s:VT):Int:=if ordE d o t s=0 then ordV o.toNat t s else 0
structure DeskC (W:World) (n B f0 f1:Nat) (t s:VT) (x y:Value):Prop where
 b1:Boxed W n t.kind t.num t.text x
 b2:Boxed W (n+1) s.kind s.num s.text y
 g0:W.cell? ⟨B,0,none⟩=some (fv f0)
 g1:W.cell? ⟨B,1,none⟩=some (fv f1)
theorem DeskC.keeps {W W':World} {n B f0 f1:Nat} {t s:VT} {x y:Value} (h:DeskC W n B f0 f1 t s x y) (hb:Below W.heap.size W W'):DeskC W' n B f0 f1 t s x y:=
 ⟨h.b1.keeps hb,h.b2.keeps hb,zaa hb h.g0,zaa hb h.g1⟩
abbrev twoW (w:World) (t s:VT) (x y:Value):World:=(w.alloc (.cells #[.int .i64 t.kind,.int .i64 t.num,.string t.text,x] 33)).alloc (.cells #[.int .i64 s.kind,.int .i64 s.num,.string s.text,y] 33)
theorem two_boxes (w:World) (t s:VT) (x y:Value):Boxed (twoW w t s x y) w.heap.size t.kind t.num t.text x∧Boxed (twoW w t s x y) (w.heap.size+1) s.kind s.num s.text y:=by
 refine⟨(za2 w t.kind t.num t.text x 33).keeps ((Grew.refl _).alloc _).below,?_⟩
 have:=za2 (w.alloc (.cells #[.int .i64 t.kind,.int .i64 t.num,.string t.text,x] 33)) s.kind s.num s.text y 33
 rwa [World.size_alloc] at this
theorem compareO_kind (o:Int) (t s:VT) (ax ay:Option Addr) (lx cx ly cy:Nat) (w:World) (ho:o<0∨6≤o) :
 Calls Tryz.prog 216 #[.int .i64 o,.agg #[.int .i64 t.kind,.int .i64 t.num,.string t.text,.slice ax lx cx],.agg #[.int .i64 s.kind,.int .i64 s.num,.string s.text,.slice ay ly cy]] w fun e w'=>e=.returned (.tuple #[.int .i64 0,.int .i64 4])∧Below w.heap.size w w':=by
 have HO:Hid (o<0∨6≤o):=ho
 clear ho
 have HB:Hid (Below w.heap.size w (tabW (twoW w t s (.slice ax lx cx) (.slice ay ly cy)))):=(((Grew.refl w).alloc _).alloc _).alloc _ |>.below
 go_enter Tryz.func216,Tryz.ntmps216
 go_wp2_with fail
 refine (rows_any _).mono ?_
 rintro e w1 ⟨rfl,rfl⟩
 go_wp2_with fail
 refine (rowO_no _ o _ HO.out).mono ?_
 rintro e w1 ⟨rfl,hb⟩
 have hb1:Below w.heap.size w w1:=HB.out.trans (hb.mono HB.out.size)
 clear hb HB HO
 go_wp2_with fail
 go_ret2
 exact⟨rfl,hb1.alloc hb1.size _⟩
theorem compareO_some (d q:Nat) (hq:q<6) (t s:VT) (x y:Value) (w:World) (hx:Lies d w t.items x) (hy:Lies d w s.items y) (ht:t.text.size≤9223372036854775807) (hs:s.text.size≤9223372036854775807) :
 Calls Tryz.prog 216 #[.int .i64 q,.agg #[.int .i64 t.kind,.int .i64 t.num,.string t.text,x],.agg #[.int .i64 s.kind,.int .i64 s.num,.string s.text,y]] w fun e w'=>e=.returned (.tuple #[.int .i64 (ordR d q t s),.int .i64 (ordE d q t s)])∧Below w.heap.size w w':=by
 obtain⟨ax,cx,rfl,_⟩:=Lies.slice hx
 obtain⟨ay,cy,rfl,_⟩:=Lies.slice hy
 have HX:Hid (Lies d w t.items (.slice ax t.items.length cx)):=hx
 have HY:Hid (Lies d w s.items (.slice ay s.items.length cy)):=hy
 clear hx hy
 have Hm:Hid (∀(r:VT) (u:Value) (W:World),Lies 16 W r.items u→zac 16 r=true→Calls Tryz.prog 269 #[.agg #[fv (mF q),fv (cF q)],.agg #[.int .i64 r.kind,.int .i64 r.num,.string r.text,u]] W fun e w'=>e=.returned (.agg #[.int .i64 r.kind,.int .i64 r.num,.string r.text,u,.int .u64 (msr q r)])∧Below W.heap.size W w'):=fun r u W h1 h2=>measured_any q hq r u W h1 h2
 have Hc:Hid (∀(W:World),Lies 16 W t.items (.slice ax t.items.length cx)→Lies 16 W s.items (.slice ay s.items.length cy)→Calls Tryz.prog (cF q) #[.agg #[.int .i64 t.kind,.int .i64 t.num,.string t.text,.slice ax t.items.length cx,.int .u64 (msr q t)],.agg #[.int .i64 s.kind,.int .i64 s.num,.string s.text,.slice ay s.items.length cy,.int .u64 (msr q s)]] W fun e w'=>e=.returned (.int .i64 (ordV q t s))∧Grew W w'):=fun W h1 h2=>cmpO_any q hq t s _ _ _ _ W h1 h2
 have eg:=cF_enters q hq
 have hT:=tab_cells (twoW w t s (.slice ax t.items.length cx) (.slice ay s.items.length cy)) q hq
 simp only [World.size_alloc] at hT
 have HT:Hid ((tabW (twoW w t s (.slice ax t.items.length cx) (.slice ay s.items.length cy))).cell? ⟨w.heap.size+1+1,q*2,none⟩=some (fv (mF q))∧(tabW (twoW w t s (.slice ax t.items.length cx) (.slice ay s.items.length cy))).cell? ⟨w.heap.size+1+1,q*2+1,none⟩=some (fv (cF q))):=hT
 clear hT
 have He:Hid (ordE d q t s=if zac d t=true∧zac d s=true then 0 else 3):=by
  show _=_
  unfold ordE;rw [if_neg (by omega)]
 have Hr0:Hid (ordE d q t s=0→ordR d q t s=ordV q t s):=fun h=>by unfold ordR;rw [if_pos h];simp
 have Hr1:Hid (ordE d q t s=3→ordR d q t s=0):=fun h=>by unfold ordR;rw [if_neg (by omega)]
 generalize ordV q t s=Z at *
 generalize ordE d q t s=E at *
 generalize ordR d q t s=R at *
 generalize mF q=f0 at *
 generalize cF q=f1 at *
 have HB:Hid (Below w.heap.size w (tabW (twoW w t s (.slice ax t.items.length cx) (.slice ay s.items.length cy)))):=(((Grew.refl w).alloc _).alloc _).alloc _ |>.below
 have HBx:Hid (Boxed (tabW (twoW w t s (.slice ax t.items.length cx) (.slice ay s.items.length cy))) w.heap.size t.kind t.num t.text (.slice ax t.items.length cx)∧Boxed (tabW (twoW w t s (.slice ax t.items.length cx) (.slice ay s.items.length cy))) (w.heap.size+1) s.kind s.num s.text (.slice ay s.items.length cy)):=
  ⟨(two_boxes w t s _ _).1.keeps ((Grew.refl _).alloc _).below,(two_boxes w t s _ _).2.keeps ((Grew.refl _).alloc _).below⟩
 go_enter Tryz.func216,Tryz.ntmps216
 go_wp2_with fail
 refine (rows_any _).mono ?_
 rintro e w1 ⟨rfl,rfl⟩
 go_wp2_with fail
 refine (rowO_yes (w.heap.size+1+1) q f0 f1 _ hq HT.out.1 HT.out.2).mono ?_
 rintro e w1 ⟨rfl,hb⟩
 have hb:Below (tabW (twoW w t s (.slice ax t.items.length cx) (.slice ay s.items.length cy))).heap.size (tabW (twoW w t s (.slice ax t.items.length cx) (.slice ay s.items.length cy))) w1:=hb
 have hb1:Below w.heap.size w w1:=HB.out.trans (hb.mono HB.out.size)
 have hb2:Below w.heap.size w (w1.alloc (.cells #[fv f0,fv f1] 281)):=hb1.alloc hb1.size _
 have HD2:Hid (DeskC (w1.alloc (.cells #[fv f0,fv f1] 281)) w.heap.size w1.heap.size f0 f1 t s (.slice ax t.items.length cx) (.slice ay s.items.length cy)):=
  ⟨(HBx.out.1.keeps hb).keeps ((Grew.refl _).alloc _).below,(HBx.out.2.keeps hb).keeps ((Grew.refl _).alloc _).below,by simp,by simp⟩
 clear hb HB HBx HT hb1
 obtain⟨⟨x0,x1,x2,x3⟩,⟨y0,y1,y2,y3⟩,g0,g1⟩:=HD2.out
 go_wp2_with fail
 refine (za1 d t _ _ (Lies.keeps hb2 _ _ _ HX.out) ht).mono ?_
 rintro e w3 ⟨rfl,hb⟩
 have hb3:Below w.heap.size w w3:=hb2.trans (hb.mono hb2.size)
 have HD3:Hid (DeskC w3 w.heap.size w1.heap.size f0 f1 t s (.slice ax t.items.length cx) (.slice ay s.items.length cy)):=HD2.out.keeps hb
 generalize w1.heap.size=B at *
 clear hb hb2 HD2 x0 x1 x2 x3 y0 y1 y2 y3 g0 g1
 cases hrt:zac d t
 ·have he:errOf false=3:=rfl
  have hE:E=3:=by rw [He.out,hrt];simp
  have hR:R=0:=Hr1.out hE
  rw [he]
  subst hE hR
  clear He Hr0 Hr1 he
  go_wp2_with fail
  go_ret2
  exact⟨rfl,hb3⟩
 ·have he:errOf true=0:=rfl
  rw [he]
  clear he
  obtain⟨⟨x0,x1,x2,x3⟩,⟨y0,y1,y2,y3⟩,g0,g1⟩:=HD3.out
  go_wp2_with fail
  refine (za1 d s _ _ (Lies.keeps hb3 _ _ _ HY.out) hs).mono ?_
  rintro e w4 ⟨rfl,hb⟩
  have hb4:Below w.heap.size w w4.drew:=(hb3.trans (hb.mono hb3.size)).drew
  have HD4:Hid (DeskC w4.drew w.heap.size B f0 f1 t s (.slice ax t.items.length cx) (.slice ay s.items.length cy)):=(HD3.out.keeps hb).keeps (Grew.refl _).drew.below
  have hb4':Below w.heap.size w w4:=hb3.trans (hb.mono hb3.size)
  clear hb hb3 HD3 x0 x1 x2 x3 y0 y1 y2 y3 g0 g1
  cases hrs:zac d s
  ·have he:errOf false=3:=rfl
   have hE:E=3:=by rw [He.out,hrs];simp
   have hR:R=0:=Hr1.out hE
   rw [he]
   subst hE hR
   clear He Hr0 Hr1 he HD4
   go_wp2_with fail
   go_ret2
   exact⟨rfl,hb4'⟩
  ·have he:errOf true=0:=rfl
   rw [he]
   clear he
   have hE:E=0:=by rw [He.out,hrt,hrs];simp
   have hR:R=Z:=Hr0.out hE
   subst hE hR
   have h1:=canon HX.out hrt
   have h2:=canon HY.out hrs
   have H1:Hid (Lies 16 w t.items (.slice ax t.items.length cx)∧zac 16 t=true):=h1
   have H2:Hid (Lies 16 w s.items (.slice ay s.items.length cy)∧zac 16 s=true):=h2
   clear h1 h2 He Hr0 Hr1 hrt hrs HX HY hb4'
   obtain⟨⟨x0,x1,x2,x3⟩,⟨y0,y1,y2,y3⟩,g0,g1⟩:=HD4.out
   go_wp2_with fail
   go_region_held3 (fun w'=>w'.cell? ⟨B,0,none⟩=some (fv f0)∧w'.cell? ⟨B,1,none⟩=some (fv f1)∧w'.cell? ⟨w.heap.size,0,none⟩=some (.int .i64 t.kind)∧w'.cell? ⟨w.heap.size,1,none⟩=some (.int .i64 t.num)∧w'.cell? ⟨w.heap.size,2,none⟩=some (.string t.text)∧w'.cell? ⟨w.heap.size,3,none⟩=some (.slice ax t.items.length cx)∧w'.cell? ⟨w.heap.size+1,0,none⟩=some (.int .i64 s.kind)∧w'.cell? ⟨w.heap.size+1,1,none⟩=some (.int .i64 s.num)∧w'.cell? ⟨w.heap.size+1,2,none⟩=some (.string s.text)∧w'.cell? ⟨w.heap.size+1,3,none⟩=some (.slice ay s.items.length cy)) (go_keep)
    (first
     | (go_at_fn f1;refine (Hc.out _ (Lies.keeps hb6 _ _ _ H1.out.1) (Lies.keeps hb6 _ _ _ H2.out.1)).mono ?_;rintro e w7 ⟨rfl,hg7⟩;have hb7:Below w.heap.size w w7:=hb6.trans (hg7.below.mono hb6.size);have HD7:Hid (DeskC w7 w.heap.size B f0 f1 t s (.slice ax t.items.length cx) (.slice ay s.items.length cy)):=HD6.out.keeps hg7.below;clear hg7 hb6 HD6 x0 x1 x2 x3 y0 y1 y2 y3 g0 g1;obtain⟨⟨x0,x1,x2,x3⟩,⟨y0,y1,y2,y3⟩,g0,g1⟩:=HD7.out)
     | (go_at_call 269;refine (Hm.out s _ _ (Lies.keeps hb5 _ _ _ H2.out.1) H2.out.2).mono ?_;rintro e w6 ⟨rfl,hg6⟩;have hb6:Below w.heap.size w w6:=hb5.trans (hg6.mono hb5.size);have HD6:Hid (DeskC w6 w.heap.size B f0 f1 t s (.slice ax t.items.length cx) (.slice ay s.items.length cy)):=HD5.out.keeps hg6;clear hg6 hb5 HD5 x0 x1 x2 x3 y0 y1 y2 y3 g0 g1;obtain⟨⟨x0,x1,x2,x3⟩,⟨y0,y1,y2,y3⟩,g0,g1⟩:=HD6.out)
     | (go_at_call 269;refine (Hm.out t _ _ (Lies.keeps hb4 _ _ _ H1.out.1) H1.out.2).mono ?_;rintro e w5 ⟨rfl,hg5⟩;have hb5:Below w.heap.size w w5:=hb4.trans (hg5.mono hb4.size);have HD5:Hid (DeskC w5 w.heap.size B f0 f1 t s (.slice ax t.items.length cx) (.slice ay s.items.length cy)):=HD4.out.keeps hg5;clear hg5 hb4 HD4 x0 x1 x2 x3 y0 y1 y2 y3 g0 g1;obtain⟨⟨x0,x1,x2,x3⟩,⟨y0,y1,y2,y3⟩,g0,g1⟩:=HD5.out))
   go_wp2_with fail
   go_ret2
   exact⟨rfl,hb7⟩
theorem compareO_any (d:Nat) (o:Int) (t s:VT) (x y:Value) (w:World) (hx:Lies d w t.items x) (hy:Lies d w s.items y) (ht:t.text.size≤9223372036854775807) (hs:s.text.size≤9223372036854775807) :
 Calls Tryz.prog 216 #[.int .i64 o,.agg #[.int .i64 t.kind,.int .i64 t.num,.string t.text,x],.agg #[.int .i64 s.kind,.int .i64 s.num,.string s.text,y]] w fun e w'=>e=.returned (.tuple #[.int .i64 (ordR d o t s),.int .i64 (ordE d o t s)])∧Below w.heap.size w w':=by
 by_cases ho:o<0∨6≤o
 ·have hE:ordE d o t s=4:=by unfold ordE;rw [if_pos ho]
  have hR:ordR d o t s=0:=by unfold ordR;rw [if_neg (by omega)]
  rw [hE,hR]
  obtain⟨ax,cx,rfl,_⟩:=Lies.slice hx
  obtain⟨ay,cy,rfl,_⟩:=Lies.slice hy
  exact compareO_kind o t s ax ay _ cx _ cy w ho
 ·obtain⟨q,rfl⟩:∃q:Nat,o=q:=⟨o.toNat,by omega⟩
  exact compareO_some d q (by omega) t s x y w hx hy ht hs
def RowM (w:World) (b o:Nat) (ms:List MB):Prop:=∀(i:Nat) (h:i<ms.length),
 w.cell? ⟨b,o+i*5,none⟩=some (.int .i64 (ms[i]'h).t.kind)∧w.cell? ⟨b,o+i*5+1,none⟩=some (.int .i64 (ms[i]'h).t.num)∧
 w.cell? ⟨b,o+i*5+2,none⟩=some (.string (ms[i]'h).t.text)∧w.cell? ⟨b,o+i*5+3,none⟩=some (ms[i]'h).u∧w.cell? ⟨b,o+i*5+4,none⟩=some (.int .u64 (ms[i]'h).m)
theorem RowM.keeps {w w':World} {b o:Nat} {ms:List MB} (h:RowM w b o ms) (hb:Below w.heap.size w w'):RowM w' b o ms:=fun i hi=>
 ⟨zaa hb (h i hi).1,zaa hb (h i hi).2.1,zaa hb (h i hi).2.2.1,zaa hb (h i hi).2.2.2.1,zaa hb (h i hi).2.2.2.2⟩
structure GoodM (w:World) (p:MB):Prop where
 lies:Lies 16 w p.t.items p.u
 right:zac 16 p.t=true
theorem GoodM.keeps {w w':World} {p:MB} (h:GoodM w p) (hb:Below w.heap.size w w'):GoodM w' p:=⟨Lies.keeps hb _ _ _ h.lies,h.right⟩
def SlM (w:World) (ms:List MB) (v:Value):Prop:=
 ∃b o c,v=.slice (some ⟨b,o,none⟩) ms.length c∧ms.length≤c∧RowM w b o ms∧∀p∈ms,GoodM w p
theorem SlM.keeps {w w':World} {ms:List MB} {v:Value} (h:SlM w ms v) (hb:Below w.heap.size w w'):SlM w' ms v:=by
 obtain⟨b,o,c,hv,hc,hr,hg⟩:=h
 exact⟨b,o,c,hv,hc,hr.keeps hb,fun p hp=>(hg p hp).keeps hb⟩
structure FilledM (G n:Nat) (w:World) (ms:List MB):Prop where
 row:RowM w G 0 ms
 there:∀k,k<n*5→(w.cell? ⟨G,k,none⟩).isSome=true∧w.frozen? ⟨G,k,none⟩=false
 lt:G<w.heap.size
theorem FilledM.keeps {G n:Nat} {w w':World} {ms:List MB} (h:FilledM G n w ms) (hb:Below w.heap.size w w'):FilledM G n w' ms:=by
 refine⟨h.row.keeps hb,fun k hk=>?_,Nat.lt_of_lt_of_le h.lt hb.size⟩
 obtain⟨h1,h2⟩:=h.there k hk
 rw [hb.cell (p:=⟨G,k,none⟩) h.lt,hb.frozen (p:=⟨G,k,none⟩) h.lt]
 exact⟨h1,h2⟩
theorem FilledM.put {G n:Nat} {w:World} {ms:List MB} (h:FilledM G n w ms) (p:MB) (hn:ms.length<n):FilledM G n (w.setCells G (ms.length*5) (encM p)) (ms++[p]):=by
 have hin:∀j (hj:j<(encM p).length),(w.setCells G (ms.length*5) (encM p)).cell? ⟨G,ms.length*5+j,none⟩=some ((encM p)[j]):=World.cell?_setCells_in G (encM p) (ms.length*5) w (fun j hj=>(h.there _ (by simp [encM] at hj;omega)).1)
 have hout:∀k,k<ms.length*5→(w.setCells G (ms.length*5) (encM p)).cell? ⟨G,k,none⟩=w.cell? ⟨G,k,none⟩:=fun k hk=>World.cell?_setCells_out G (encM p) _ w ⟨G,k,none⟩ (fun _ _=>.inl hk)
 refine⟨?_,?_,by rw [size_setCells];exact h.lt⟩
 ·intro i hi
  by_cases hl:i<ms.length
  ·obtain⟨k0,k1,k2,k3,k4⟩:=h.row i hl
   rw [List.getElem_append_left hl]
   simp only [Nat.zero_add] at k0 k1 k2 k3 k4 ⊢
   exact⟨(hout _ (by omega)).trans k0,(hout _ (by omega)).trans k1,(hout _ (by omega)).trans k2,(hout _ (by omega)).trans k3,(hout _ (by omega)).trans k4⟩
  ·have hie:i=ms.length:=by simp at hi;omega
   subst hie
   rw [List.getElem_append_right (Nat.le_refl _)]
   simp only [Nat.zero_add,Nat.sub_self,List.getElem_cons_zero]
   exact⟨hin 0 (by simp [encM]),hin 1 (by simp [encM]),hin 2 (by simp [encM]),hin 3 (by simp [encM]),hin 4 (by simp [encM])⟩
 ·intro k hk
  obtain⟨h1,h2⟩:=h.there k hk
  refine⟨?_,by rw [World.frozen?_setCells];exact h2⟩
  by_cases hl:ms.length*5≤k∧k<ms.length*5+5
  ·have:=hin (k-ms.length*5) (by simp [encM];omega)
   rw [show ms.length*5+(k-ms.length*5)=k by omega] at this
   rw [this];rfl
  ·rw [World.cell?_setCells_out G (encM p) _ w ⟨G,k,none⟩ (fun _ _=>by simp [encM];omega)]
   exact h1
set_option maxRecDepth 100000 in
theorem infoM:∃i0,Tryz.prog.info? 288=some i0∧i0.zero=some (.agg #[.int .i64 0,.int .i64 0,.string ⟨#[]⟩,.slice none 0 0,.int .u64 0])∧i0.size=5∧i0.bytes=64:=by
 refine⟨_,rfl,?_,?_,?_⟩
 all_goals kernel_rfl
theorem make_members (n:Nat) (hn:n≤65536):∃M:Array Value,M.size=n*5∧∀W:World,(Instr.makeSlice 282 (.int .i64 (n:Int)) (.int .i64 (n:Int))).run Tryz.prog W=.ok (.slice (some ⟨W.heap.size,0,none⟩) n n) (W.alloc (.cells M 288)):=by
 obtain⟨i0,hi,hz0,hz1,hz2⟩:=infoM
 refine⟨madeCells (Value.agg #[.int .i64 0,.int .i64 0,.string ⟨#[]⟩,.slice none 0 0,.int .u64 0]).cells (((n:Nat):Int).toNat*i0.size),?_,fun W=>?_⟩
 ·rw [size_madeCells,hz1];simp
 ·have h:=run_make (P:=Tryz.prog) W 282 288 i0 _ Tryz.underlying282 hi hz0 .i64 .i64 (n:Int) (n:Int) (by omega) (by omega) (by rw [hz2];omega) (by omega)
  simpa using h
theorem filledM_start (w:World) (M:Array Value) (n:Nat) (t:Nat) (hM:M.size=n*5):FilledM w.heap.size n (w.alloc (.cells M t)) []:=by
 refine⟨fun i hi=>(by cases hi),fun k hk=>?_,(by simp)⟩
 have hk':k<M.size:=by omega
 simp [hk']
abbrev mkM (g:VT→Int) (p:VT×Value):MB:=⟨p.1,p.2,g p.1⟩
theorem measuredAll_core (f0 f1:Nat) (g:VT→Int) (ps:List (VT×Value)) (a:Option Addr) (c:Nat) (w:World) (hlen:ps.length≤65536) (hr:ps≠[]→∃b o,a=some ⟨b,o,none⟩∧RowAt w b o ps)
 (hsl:∀p∈ps,∃a l c,p.2=.slice a l c)
 (hm:Hid (∀(p:VT×Value) (W:World),p∈ps→Below w.heap.size w W→Calls Tryz.prog 269 #[.agg #[fv f0,fv f1],.agg #[.int .i64 p.1.kind,.int .i64 p.1.num,.string p.1.text,p.2]] W fun e W'=>e=.returned (.agg #[.int .i64 p.1.kind,.int .i64 p.1.num,.string p.1.text,p.2,.int .u64 (g p.1)])∧Below W.heap.size W W')) :
 Calls Tryz.prog 277 #[.agg #[fv f0,fv f1],.slice a ps.length c] w fun e w'=>e=.returned (.slice (some ⟨w.heap.size+1,0,none⟩) ps.length ps.length)∧RowM w' (w.heap.size+1) 0 (ps.map (mkM g))∧Below w.heap.size w w':=by
 have Hr:Hid _:=hr
 have Hsl:Hid _:=hsl
 clear hr hsl
 obtain⟨M,hMs,hmk⟩:=make_members ps.length hlen
 have HF0:Hid (FilledM (w.heap.size+1) ps.length ((w.alloc (.cells #[fv f0,fv f1] 281)).alloc (.cells M 288)) []):=by
  have:=filledM_start (w.alloc (.cells #[fv f0,fv f1] 281)) M ps.length 288 hMs
  rwa [World.size_alloc] at this
 have Hg:Hid (((w.alloc (.cells #[fv f0,fv f1] 281)).alloc (.cells M 288)).cell? ⟨w.heap.size,0,none⟩=some (fv f0)∧((w.alloc (.cells #[fv f0,fv f1] 281)).alloc (.cells M 288)).cell? ⟨w.heap.size,1,none⟩=some (fv f1)):=
  ⟨zaa ((Grew.refl _).alloc _).below (by simp),zaa ((Grew.refl _).alloc _).below (by simp)⟩
 clear hMs
 go_enter Tryz.func277,Tryz.ntmps277
 go_wp2_with fail
 go_loopg [13] ps.length (fun k i wr=>∃j:Nat,i=.int .i64 (j:Int)∧j≤ps.length∧k=ps.length-j∧Hid (FilledM (w.heap.size+1) ps.length wr ((ps.take j).map (mkM g)))∧Hid (wr.cell? ⟨w.heap.size,0,none⟩=some (fv f0)∧wr.cell? ⟨w.heap.size,1,none⟩=some (fv f1))∧Below w.heap.size w wr)
 case atStart=>exact⟨0,rfl,by omega,by omega,HF0,Hg,(Grew.two _ _ _).below⟩
 case round=>
  obtain⟨j,rfl,hj,hk,HC,HG,hbw⟩:=hrel
  have Hk:Hid _:=hk
  clear hk hmk HF0 Hg
  by_cases hlt:j<ps.length
  ·obtain⟨b1,o1,rfl,hrow⟩:=Hr.out (by intro e;simp [e] at hlt)
   obtain⟨p0,p1,p2,p3⟩:=hrow j hlt
   clear hrow
   have Hmem:Hid (ps[j]∈ps):=List.getElem_mem hlt
   have Htk:Hid ((ps.take (j+1)).map (mkM g)=(ps.take j).map (mkM g)++[mkM g ps[j]]):=by
    show _=_
    rw [List.take_succ_eq_append_getElem hlt,List.map_append];rfl
   have Hlen:Hid (((ps.take j).map (mkM g)).length=j):=by show _=_;simp;omega
   generalize (ps.take j).map (mkM g)=ms at *
   generalize ps[j]=p at *
   obtain⟨t,u⟩:=p
   obtain⟨ax,lx,cx,hu⟩:=Hsl.out _ Hmem.out
   simp only at hu p0 p1 p2 p3
   subst hu
   have p0:=zaa hbw p0;have p1:=zaa hbw p1;have p2:=zaa hbw p2;have p3:=zaa hbw p3
   have hl1:b1<wr.heap.size:=zad p0
   have hws2:w.heap.size≤wr.heap.size:=hbw.size
   have hG:=HC.out.lt
   obtain⟨g0,g1⟩:=HG.out
   have hlt0:w.heap.size<wr.heap.size:=zad g0
   go_wp2_with fail
   refine (hm.out (t,.slice ax lx cx) _ Hmem.out (hbw.alloc hws2 _)).mono ?_
   rintro e w1 ⟨rfl,hb⟩
   have hb2:Below w.heap.size w w1:=(hbw.alloc hws2 _).trans (hb.mono (by simp;omega))
   have HC1:Hid (FilledM (w.heap.size+1) ps.length w1 ms):=(HC.out.keeps ((Grew.refl _).alloc _).below).keeps hb
   have HG1:Hid (w1.cell? ⟨w.heap.size,0,none⟩=some (fv f0)∧w1.cell? ⟨w.heap.size,1,none⟩=some (fv f1)):=⟨zaa hb (zaa ((Grew.refl _).alloc _).below g0),zaa hb (zaa ((Grew.refl _).alloc _).below g1)⟩
   clear hb p0 p1 p2 p3 hm HC HG g0 g1
   have hpl:=Hlen.out
   obtain⟨v0,s0⟩:=Option.isSome_iff_exists.1 (HC1.out.there (j*5) (by omega)).1
   obtain⟨v1,s1⟩:=Option.isSome_iff_exists.1 (HC1.out.there (j*5+1) (by omega)).1
   obtain⟨v2,s2⟩:=Option.isSome_iff_exists.1 (HC1.out.there (j*5+2) (by omega)).1
   obtain⟨v3,s3⟩:=Option.isSome_iff_exists.1 (HC1.out.there (j*5+3) (by omega)).1
   obtain⟨v4,s4⟩:=Option.isSome_iff_exists.1 (HC1.out.there (j*5+4) (by omega)).1
   have z0:=(HC1.out.there (j*5) (by omega)).2
   have z1:=(HC1.out.there (j*5+1) (by omega)).2
   have z2:=(HC1.out.there (j*5+2) (by omega)).2
   have z3:=(HC1.out.there (j*5+3) (by omega)).2
   have z4:=(HC1.out.there (j*5+4) (by omega)).2
   have hput:=HC1.out.put (mkM g (t,.slice ax lx cx)) (by omega)
   rw [←Htk.out,hpl] at hput
   have Hput:Hid _:=hput
   have HG2:Hid ((w1.setCells (w.heap.size+1) (j*5) (encM (mkM g (t,.slice ax lx cx)))).cell? ⟨w.heap.size,0,none⟩=some (fv f0)∧(w1.setCells (w.heap.size+1) (j*5) (encM (mkM g (t,.slice ax lx cx)))).cell? ⟨w.heap.size,1,none⟩=some (fv f1)):=
    ⟨zaf (show w.heap.size≠w.heap.size+1 by omega) HG1.out.1,zaf (show w.heap.size≠w.heap.size+1 by omega) HG1.out.2⟩
   have Hbf:Hid (Below w.heap.size w (w1.setCells (w.heap.size+1) (j*5) (encM (mkM g (t,.slice ax lx cx))))):=below_putM hb2 (by omega) (j*5) _
   clear hput hpl HG1 HC1
   go_wp2_with fail
   go_roundg (ps.length-(j+1))
   case measure=>have:=Hk.out;omega
   case rel=>exact⟨j+1,by go_num,by omega,rfl,Hput,HG2,Hbf.out⟩
  ·have hjl:j=ps.length:=by omega
   have hd:=HC.out.row
   rw [hjl,List.take_length] at hd
   have Hd:Hid (RowM wr (w.heap.size+1) 0 (ps.map (mkM g))):=hd
   clear hd hjl HC HG hm
   go_wp2_with fail
   go_ret
   exact⟨rfl,Hd.out,hbw⟩
structure Pairly (W:World) (n:Nat):Prop where
 there:∀k,k<2→(W.cell? ⟨n,k,none⟩).isSome=true
 soft:∀k,k<2→W.frozen? ⟨n,k,none⟩=false
theorem Pairly.lt {W:World} {n:Nat} (h:Pairly W n):n<W.heap.size:=by
 obtain⟨v,hv⟩:=Option.isSome_iff_exists.1 (h.there 0 (by omega))
 exact zad hv
theorem Pairly.keeps {W W':World} {n:Nat} (h:Pairly W n) (hb:Below W.heap.size W W'):Pairly W' n:=
 ⟨fun k hk=>by rw [hb.cell (p:=⟨n,k,none⟩) h.lt];exact h.there k hk,fun k hk=>by rw [hb.frozen (p:=⟨n,k,none⟩) h.lt];exact h.soft k hk⟩
theorem pairly_alloc (w:World) (a b:Value) (ty:Nat):Pairly (w.alloc (.cells #[a,b] ty)) w.heap.size:=by
 refine⟨fun k hk=>?_,fun k hk=>by simp⟩
 match k,hk with
 | 0,_=>simp
 | 1,_=>simp
theorem Pairly.put {W:World} {n:Nat} (h:Pairly W n) (a b:Value):∀j (hj:j<[a,b].length),(W.setCells n 0 [a,b]).cell? ⟨n,0+j,none⟩=some ([a,b][j]):=
 World.cell?_setCells_in n _ 0 W (fun j hj=>by rw [Nat.zero_add];exact h.there j (by simpa using hj))
theorem below_put2 {w W:World} {n:Nat} (h:Below w.heap.size w W) (hn:w.heap.size≤n) (a b:Value):Below w.heap.size w (W.setCells n 0 [a,b]):=
 (h.setCell (p:=⟨n,0,none⟩) hn _).setCell (p:=⟨n,0+1,none⟩) hn _
def lookE (d:Nat) (o:Int) (l:List VT):Int:=if o<0∨6≤o then 4 else zar d l
def NonePost (E:Int) (w:World) (e:Ending) (w':World):Prop:=e=.returned (.tuple #[.agg #[.nilFunc,.nilFunc],.slice none 0 0,.int .i64 E])∧Below w.heap.size w w'
abbrev resW (w:World):World:=w.alloc (.cells #[.nilFunc,.nilFunc] 281)
theorem look_kind (o:Int) (a:Option Addr) (n c:Nat) (w:World) (ho:o<0∨6≤o):Calls Tryz.prog 235 #[.int .i64 o,.slice a n c] w (NonePost 4 w):=by
 have HO:Hid (o<0∨6≤o):=ho
 clear ho
 have HB:Hid (Below w.heap.size w (tabW (resW w))):=(Grew.two w _ _).below
 have HP:Hid (Pairly (tabW (resW w)) w.heap.size):=(pairly_alloc w _ _ _).keeps ((Grew.refl _).alloc _).below
 go_enter Tryz.func235,Tryz.ntmps235
 go_wp2_with fail
 refine (rows_any _).mono ?_
 rintro e w1 ⟨rfl,rfl⟩
 go_wp2_with fail
 refine (rowO_no _ o _ HO.out).mono ?_
 rintro e w1 ⟨rfl,hb⟩
 have hb:Below (tabW (resW w)).heap.size (tabW (resW w)) w1:=hb
 have hb1:Below w.heap.size w w1:=HB.out.trans (hb.mono HB.out.size)
 have hb2:Below w.heap.size w (w1.alloc (.cells #[.nilFunc,.nilFunc] 281)):=hb1.alloc hb1.size _
 have HP2:Hid (Pairly (w1.alloc (.cells #[.nilFunc,.nilFunc] 281)) w.heap.size):=(HP.out.keeps hb).keeps ((Grew.refl _).alloc _).below
 clear hb hb1 HB HP HO
 obtain⟨v0,s0⟩:=Option.isSome_iff_exists.1 (HP2.out.there 0 (by omega))
 obtain⟨v1,s1⟩:=Option.isSome_iff_exists.1 (HP2.out.there 1 (by omega))
 have z0:=HP2.out.soft 0 (by omega)
 have z1:=HP2.out.soft 1 (by omega)
 have Hin:Hid _:=HP2.out.put .nilFunc .nilFunc
 have Hbf:Hid _:=below_put2 hb2 (Nat.le_refl _) .nilFunc .nilFunc
 go_wp2_with fail
 refine bodyPost_ret (v:=.tuple #[.agg #[.nilFunc,.nilFunc],.slice none 0 0,.int .i64 4]) ?_ rfl ⟨rfl,Hbf.out⟩
 have q0:=Hin.out 0 (by simp)
 have q1:=Hin.out 1 (by simp)
 simp only [World.setCells,Nat.zero_add,List.getElem_cons_zero,List.getElem_cons_succ] at q0 q1
 simp [results,Tryz.results235,go_sem,q0,q1]
structure DeskL (W:World) (n B f0 f1:Nat):Prop where
 res:Pairly W n
 g0:W.cell? ⟨B,0,none⟩=some (fv f0)
 g1:W.cell? ⟨B,1,none⟩=some (fv f1)
theorem DeskL.keeps {W W':World} {n B f0 f1:Nat} (h:DeskL W n B f0 f1) (hb:Below W.heap.size W W'):DeskL W' n B f0 f1:=
 ⟨h.res.keeps hb,zaa hb h.g0,zaa hb h.g1⟩
theorem look_core (d q:Nat) (hq:q<6) (f0 f1:Nat) (hT:Hid (∀w:World,(tabW (resW w)).cell? ⟨w.heap.size+1,q*2,none⟩=some (fv f0)∧(tabW (resW w)).cell? ⟨w.heap.size+1,q*2+1,none⟩=some (fv f1))) (l:List VT) (u:Value) (w:World) (hu:Lies (d+1) w l u) (ms:List MB)
 (hm:Hid (zar d l=0→(∀p∈ms,GoodM w p)∧∀W:World,Below w.heap.size w W→Calls Tryz.prog 277 #[.agg #[fv f0,fv f1],u] W fun e w'=>∃G,e=.returned (.slice (some ⟨G,0,none⟩) ms.length ms.length)∧W.heap.size≤G∧RowM w' G 0 ms∧Below W.heap.size W w')) :
 Calls Tryz.prog 235 #[.int .i64 q,u] w fun e w'=>(zar d l≠0∧NonePost (zar d l) w e w')∨(zar d l=0∧∃v,e=.returned (.tuple #[.agg #[fv f0,fv f1],v,.int .i64 0])∧SlM w' ms v∧Below w.heap.size w w'):=by
 obtain⟨a,c,rfl,_⟩:=Lies.slice hu
 have HU:Hid (Lies (d+1) w l (.slice a l.length c)):=hu
 clear hu
 have HB:Hid (Below w.heap.size w (tabW (resW w))):=(Grew.two w _ _).below
 have HP:Hid (Pairly (tabW (resW w)) w.heap.size):=(pairly_alloc w _ _ _).keeps ((Grew.refl _).alloc _).below
 go_enter Tryz.func235,Tryz.ntmps235
 go_wp2_with fail
 refine (rows_any _).mono ?_
 rintro e w1 ⟨rfl,rfl⟩
 go_wp2_with fail
 refine (rowO_yes (w.heap.size+1) q f0 f1 _ hq (hT.out w).1 (hT.out w).2).mono ?_
 rintro e w1 ⟨rfl,hb⟩
 have hb:Below (tabW (resW w)).heap.size (tabW (resW w)) w1:=hb
 have hb1:Below w.heap.size w w1:=HB.out.trans (hb.mono HB.out.size)
 have hb2:Below w.heap.size w (w1.alloc (.cells #[fv f0,fv f1] 281)):=hb1.alloc hb1.size _
 have HD2:Hid (DeskL (w1.alloc (.cells #[fv f0,fv f1] 281)) w.heap.size w1.heap.size f0 f1):=⟨(HP.out.keeps hb).keeps ((Grew.refl _).alloc _).below,by simp,by simp⟩
 have hlow:w.heap.size<w1.heap.size:=(HP.out.keeps hb).lt
 clear hb hb1 HB HP hT
 go_wp2_with fail
 refine (checkAll_any d l _ _ (Lies.keeps hb2 _ _ _ HU.out)).mono ?_
 rintro e w3 ⟨rfl,hb⟩
 have hb3:Below w.heap.size w w3:=hb2.trans (hb.mono hb2.size)
 have HD3:Hid (DeskL w3 w.heap.size w1.heap.size f0 f1):=HD2.out.keeps hb
 clear hb hb2 HD2 HU
 generalize hBB:w1.heap.size=B at *
 clear hBB
 generalize hLE:zar d l=E at *
 have HLE:Hid (zar d l=E):=hLE
 clear hLE
 by_cases hE:E=0
 ·subst hE
  have hb4:Below w.heap.size w w3.drew:=hb3.drew
  have HD4:Hid (DeskL w3.drew w.heap.size B f0 f1):=HD3.out.keeps (Grew.refl _).drew.below
  have Hm:Hid (∀W:World,Below w.heap.size w W→Calls Tryz.prog 277 #[.agg #[fv f0,fv f1],.slice a l.length c] W fun e w'=>∃G,e=.returned (.slice (some ⟨G,0,none⟩) ms.length ms.length)∧W.heap.size≤G∧RowM w' G 0 ms∧Below W.heap.size W w'):=(hm.out rfl).2
  have HGd:Hid (∀p∈ms,GoodM w p):=(hm.out rfl).1
  have hne1 : ¬(w.heap.size=B):=by omega
  have hne2 : ¬(B=w.heap.size):=by omega
  have hgt:w.heap.size<w3.heap.size:=HD3.out.res.lt
  clear hm HD3 hb3
  obtain⟨hp4,g0,g1⟩:=HD4.out
  clear hp4
  go_wp2_with fail
  go_region_held3 (fun w'=>w'.cell? ⟨B,0,none⟩=some (fv f0)∧w'.cell? ⟨B,1,none⟩=some (fv f1)) (first|go_keep|trivial)
   (first
    | (go_at_call 277;refine (Hm.out _ hb4).mono ?_;rintro e w5 ⟨G,rfl,hG,hrow,hg5⟩;have hG2:w3.heap.size≤G:=hG;clear hG;have hb5:Below w.heap.size w w5:=hb4.trans (hg5.mono hb4.size);have HD5:Hid (DeskL w5 w.heap.size B f0 f1):=HD4.out.keeps hg5;clear hg5 hb4 HD4 g0 g1;have HR:Hid (RowM w5 G 0 ms):=hrow;clear hrow;obtain⟨hres,g0,g1⟩:=HD5.out;obtain⟨v0,s0⟩:=Option.isSome_iff_exists.1 (hres.there 0 (by omega));obtain⟨v1,s1⟩:=Option.isSome_iff_exists.1 (hres.there 1 (by omega));have z0:=hres.soft 0 (by omega);have z1:=hres.soft 1 (by omega);clear hres))
  have Hin:Hid _:=HD5.out.res.put (fv f0) (fv f1)
  have hbf:=below_put2 hb5 (Nat.le_refl _) (fv f0) (fv f1)
  have Hbf:Hid (Below w.heap.size w (w5.setCells w.heap.size 0 [fv f0,fv f1])):=hbf
  have HS:Hid (SlM (w5.setCells w.heap.size 0 [fv f0,fv f1]) ms (.slice (some ⟨G,0,none⟩) ms.length ms.length)):=by
   refine⟨G,0,_,rfl,Nat.le_refl _,fun i hi=>?_,fun p hp=>(HGd.out p hp).keeps hbf⟩
   obtain⟨k0,k1,k2,k3,k4⟩:=HR.out i hi
   have hg:G≠w.heap.size:=by omega
   exact⟨zaf hg k0,zaf hg k1,zaf hg k2,zaf hg k3,zaf hg k4⟩
  clear hbf HR HGd HD5
  go_wp2_with fail
  refine bodyPost_ret (v:=.tuple #[.agg #[fv f0,fv f1],.slice (some ⟨G,0,none⟩) ms.length ms.length,.int .i64 0]) ?_ rfl (.inr ⟨HLE.out,_,rfl,HS.out,Hbf.out⟩)
  have q0:=Hin.out 0 (by simp)
  have q1:=Hin.out 1 (by simp)
  simp only [World.setCells,Nat.zero_add,List.getElem_cons_zero,List.getElem_cons_succ] at q0 q1
  simp [results,Tryz.results235,go_sem,q0,q1]
 ·have HP3:Hid (Pairly w3 w.heap.size):=HD3.out.res
  clear HD3 hm
  obtain⟨v0,s0⟩:=Option.isSome_iff_exists.1 (HP3.out.there 0 (by omega))
  obtain⟨v1,s1⟩:=Option.isSome_iff_exists.1 (HP3.out.there 1 (by omega))
  have z0:=HP3.out.soft 0 (by omega)
  have z1:=HP3.out.soft 1 (by omega)
  have Hin:Hid _:=HP3.out.put .nilFunc .nilFunc
  have Hbf:Hid _:=below_put2 hb3 (Nat.le_refl _) .nilFunc .nilFunc
  have hE':(E==0)=false:=by simpa using hE
  have HE:Hid (E≠0):=hE
  clear hE
  go_wp2_with fail
  refine bodyPost_ret (v:=.tuple #[.agg #[.nilFunc,.nilFunc],.slice none 0 0,.int .i64 E]) ?_ rfl (.inl ⟨by rw [HLE.out];exact HE.out,by rw [HLE.out],Hbf.out⟩)
  have q0:=Hin.out 0 (by simp)
  have q1:=Hin.out 1 (by simp)
  simp only [World.setCells,Nat.zero_add,List.getElem_cons_zero,List.getElem_cons_succ] at q0 q1
  simp [results,Tryz.results235,go_sem,q0,q1]
def LookPost (d q:Nat) (l:List VT) (w:World) (e:Ending) (w':World):Prop:=
 (zar d l≠0∧NonePost (zar d l) w e w')∨(zar d l=0∧∃v ms,e=.returned (.tuple #[.agg #[fv (mF q),fv (cF q)],v,.int .i64 0])∧SlM w' ms v∧ms.map (·.t)=l∧(∀p∈ms,p.m=msr q p.t)∧Below w.heap.size w w')
theorem listErr_zero6 {d:Nat} {l:List VT} (h:zar d l=0):l.length≤65536∧∀x∈l,zac d x=true:=by
 unfold zar at h
 by_cases h1:65536<l.length
 ·rw [if_pos h1] at h;cases h
 ·rw [if_neg h1] at h
  cases h2:l.all (zac d)
  ·rw [h2] at h;cases h
  ·exact⟨by omega,fun x hx=>List.all_eq_true.1 h2 x hx⟩
theorem look_some (d q:Nat) (hq:q<6) (l:List VT) (u:Value) (w:World) (hu:Lies (d+1) w l u):Calls Tryz.prog 235 #[.int .i64 q,u] w (LookPost d q l w):=by
 obtain⟨a,c,rfl,hlen,ps,hps,hsd,hrow⟩:=Lies.row hu
 have hpl:ps.length=l.length:=by rw [←hps];simp
 have hpne:ps≠[]→l≠[]:=fun h e=>h (List.eq_nil_of_length_eq_zero (by rw [hpl,e];rfl))
 refine (look_core d q hq (mF q) (cF q) (fun W=>?_) l _ w hu (ps.map (mkM (msr q))) ?_).mono ?_
 ·have:=tab_cells (resW W) q hq
  rwa [World.size_alloc] at this
 ·intro hE
  obtain⟨h1,h2⟩:=listErr_zero6 hE
  have hgood:∀p∈ps,Lies 16 w p.1.items p.2∧zac 16 p.1=true:=fun p hp=>canon (hsd p hp).1 (h2 p.1 (by rw [←hps];exact List.mem_map.2 ⟨p,hp,rfl⟩))
  refine⟨fun m hm=>?_,fun W hW=>?_⟩
  ·obtain⟨p,hp,rfl⟩:=List.mem_map.1 hm
   exact⟨(hgood p hp).1,(hgood p hp).2⟩
  ·have:=measuredAll_core (mF q) (cF q) (msr q) ps a c W (by omega) (fun hne=>by
    obtain⟨b,o,ha,hr⟩:=hrow (hpne hne)
    exact⟨b,o,ha,hr.keeps hW⟩) (fun p hp=>by
    obtain⟨a',c',e,_⟩:=Lies.slice (hsd p hp).1
    exact⟨a',_,c',e⟩) (fun p W' hp hW'=>measured_any q hq p.1 p.2 W' (Lies.keeps (hW.trans (hW'.mono hW.size)) _ _ _ (hgood p hp).1) (hgood p hp).2)
   rw [hpl] at this
   refine this.mono ?_
   rintro e w' ⟨rfl,hr,hb⟩
   exact⟨W.heap.size+1,by rw [List.length_map,hpl],by omega,hr,hb⟩
 ·rintro e w' (h|⟨h1,v,h2,h3,h4⟩)
  ·exact .inl h
  ·refine .inr ⟨h1,v,_,h2,h3,?_,fun p hp=>?_,h4⟩
   ·rw [List.map_map];exact hps
   ·obtain⟨x,_,rfl⟩:=List.mem_map.1 hp;rfl
end Go.Proofs.YtlnecfjnffdciabGreat
