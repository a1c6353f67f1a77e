import Derived.Test.YtlnecfjnffdciacGreatTab6
import Derived.Test.YtlnecfjnffdciacGreatLiesX
set_option maxRecDepth 100000
set_option maxHeartbeats 8000000
namespace Go.Proofs.YtlnecfjnffdciacGreat
open Go.RowKit Go.Shelf
structure MB where
 t:VT
 u:Value
 m:Int
def encM (p:MB):List Value:=[.int .i64 p.t.kind,.int .i64 p.t.num,.string p.t.text,p.u,.int .u64 p.m]
structure Five (W:World) (n:Nat):Prop where
 there:∀k,k<5→(W.cell? ⟨n,k,none⟩).isSome=true
 soft:∀k,k<5→W.frozen? ⟨n,k,none⟩=false
theorem Five.lt {W:World} {n:Nat} (h:Five W n):n<W.heap.size:=by
 obtain⟨v,hv⟩:=Option.isSome_iff_exists.1 (h.there 0 (by omega))
 exact zad hv
theorem Five.keeps {W W':World} {n:Nat} (h:Five W n) (hb:Below W.heap.size W W'):Five W' n:=
 ⟨fun k hk=>by rw [hb.cell (p:=⟨n,k,none⟩) h.lt];exact h.there k hk,fun k hk=>by rw [hb.frozen (p:=⟨n,k,none⟩) h.lt];exact h.soft k hk⟩
theorem Five.put {W:World} {n:Nat} (h:Five W n) (p:MB):∀j (hj:j<(encM p).length),(W.setCells n 0 (encM p)).cell? ⟨n,0+j,none⟩=some ((encM p)[j]):=
 World.cell?_setCells_in n _ 0 W (fun j hj=>by rw [Nat.zero_add];exact h.there j (by simpa [encM] using hj))
theorem below_putM {w W:World} {n:Nat} (h:Below w.heap.size w W) (hn:w.heap.size≤n) (o:Nat) (p:MB):Below w.heap.size w (W.setCells n o (encM p)):=
 ((((h.setCell (p:=⟨n,o,none⟩) hn _).setCell (p:=⟨n,o+1,none⟩) hn _).setCell (p:=⟨n,o+1+1,none⟩) hn _).setCell (p:=⟨n,o+1+1+1,none⟩) hn _).setCell (p:=⟨n,o+1+1+1+1,none⟩) hn _
structure DeskM (W:World) (n f0 f1:Nat) (t:VT) (u:Value):Prop where
 g0:W.cell? ⟨n,0,none⟩=some (fv f0)
 g1:W.cell? ⟨n,1,none⟩=some (fv f1)
 box:Boxed W (n+1) t.kind t.num t.text u
 res:Five W (n+2)
theorem DeskM.keeps {W W':World} {n f0 f1:Nat} {t:VT} {u:Value} (h:DeskM W n f0 f1 t u) (hb:Below W.heap.size W W'):DeskM W' n f0 f1 t u:=
 ⟨zaa hb h.g0,zaa hb h.g1,h.box.keeps hb,h.res.keeps hb⟩
abbrev deskW (w:World) (f0 f1:Nat) (t:VT) (u:Value):World:=
 (((w.alloc (.cells #[fv f0,fv f1] 90)).alloc (.cells #[.int .i64 t.kind,.int .i64 t.num,.string t.text,u] 24)).alloc (.cells #[.int .i64 0,.int .i64 0,.string ⟨#[]⟩,.slice none 0 0,.int .u64 0] 98)).drew
theorem five_alloc (w:World) (a b c d e:Value) (ty:Nat):Five (w.alloc (.cells #[a,b,c,d,e] ty)) w.heap.size:=by
 refine⟨fun k hk=>?_,fun k hk=>by simp⟩
 match k,hk with
 | 0,_=>simp
 | 1,_=>simp
 | 2,_=>simp
 | 3,_=>simp
 | 4,_=>simp
theorem deskM_start (w:World) (f0 f1:Nat) (t:VT) (u:Value):DeskM (deskW w f0 f1 t u) w.heap.size f0 f1 t u:=by
 have h2:∀(W:World) (o1 o2:Obj),Below W.heap.size W ((W.alloc o1).alloc o2).drew:=fun W o1 o2=>(Grew.two W o1 o2).drew.below
 have h1:∀(W:World) (o1:Obj),Below W.heap.size W (W.alloc o1).drew:=fun W o1=>((Grew.refl W).alloc o1).drew.below
 have h0:∀(W:World),Below W.heap.size W W.drew:=fun W=>(Grew.refl W).drew.below
 refine⟨zaa (h2 _ _ _) (by simp),zaa (h2 _ _ _) (by simp),?_,?_⟩
 ·have:=(zat (w.alloc (.cells #[fv f0,fv f1] 90)) t.kind t.num t.text u 24).keeps (h1 _ (.cells #[.int .i64 0,.int .i64 0,.string ⟨#[]⟩,.slice none 0 0,.int .u64 0] 98))
  rwa [World.size_alloc] at this
 ·have:=(five_alloc ((w.alloc (.cells #[fv f0,fv f1] 90)).alloc (.cells #[.int .i64 t.kind,.int .i64 t.num,.string t.text,u] 24)) (.int .i64 0) (.int .i64 0) (.string ⟨#[]⟩) (.slice none 0 0) (.int .u64 0) 98).keeps (h0 _)
  rwa [World.size_alloc,World.size_alloc] at this
theorem measured_core (f0 f1:Nat) (eg:∀args w,(callFunc f0 args).run Tryz.prog w=.ok (.enter f0 args) w) (z:Int) (t:VT) (a:Option Addr) (l c:Nat) (w:World)
 (hf:Hid (∀W:World,Below w.heap.size w W→Calls Tryz.prog f0 #[.agg #[.int .i64 t.kind,.int .i64 t.num,.string t.text,.slice a l c]] W (MeasPost z W))) :
 Calls Tryz.prog 128 #[.agg #[fv f0,fv f1],.agg #[.int .i64 t.kind,.int .i64 t.num,.string t.text,.slice a l c]] w fun e w'=>e=.returned (.agg #[.int .i64 t.kind,.int .i64 t.num,.string t.text,.slice a l c,.int .u64 z])∧Below w.heap.size w w':=by
 have HD0:Hid (DeskM (deskW w f0 f1 t (.slice a l c)) w.heap.size f0 f1 t (.slice a l c)):=deskM_start w f0 f1 t _
 have HB:Hid (Below w.heap.size w (deskW w f0 f1 t (.slice a l c))):=((((Grew.refl w).alloc _).alloc _).alloc _).drew.below
 have hne1 : ¬(w.heap.size+1+1=w.heap.size):=by omega
 have hne2 : ¬(w.heap.size=w.heap.size+1+1):=by omega
 go_enter Tryz.func128,Tryz.ntmps128
 go_wp2_with fail
 go_region_held3 (fun w'=>w'.cell? ⟨w.heap.size,0,none⟩=some (fv f0)∧w'.cell? ⟨w.heap.size+1,0,none⟩=some (.int .i64 t.kind)∧w'.cell? ⟨w.heap.size+1,1,none⟩=some (.int .i64 t.num)∧w'.cell? ⟨w.heap.size+1,2,none⟩=some (.string t.text)∧w'.cell? ⟨w.heap.size+1,3,none⟩=some (.slice a l c)) (go_keep)
  (first|(go_at_fn f0;refine (hf.out _ HB.out).mono ?_;rintro e w1 ⟨rfl,hb1⟩;have HD1:Hid (DeskM w1 w.heap.size f0 f1 t (.slice a l c)):=HD0.out.keeps hb1;have hbw1:Below w.heap.size w w1:=HB.out.trans (hb1.mono (by simp;omega));clear hb1 HD0 HB;obtain⟨g0,g1,⟨x0,x1,x2,x3⟩,hres⟩:=HD1.out;obtain⟨v0,s0⟩:=Option.isSome_iff_exists.1 (hres.there 0 (by omega));have z0:=hres.soft 0 (by omega);obtain⟨v1,s1⟩:=Option.isSome_iff_exists.1 (hres.there 1 (by omega));have z1:=hres.soft 1 (by omega);obtain⟨v2,s2⟩:=Option.isSome_iff_exists.1 (hres.there 2 (by omega));have z2:=hres.soft 2 (by omega);obtain⟨v3,s3⟩:=Option.isSome_iff_exists.1 (hres.there 3 (by omega));have z3:=hres.soft 3 (by omega);obtain⟨v4,s4⟩:=Option.isSome_iff_exists.1 (hres.there 4 (by omega));have z4:=hres.soft 4 (by omega);have Hres:Hid (Five w1 (w.heap.size+2)):=hres;clear hres))
 have Hin:Hid _:=Hres.out.put ⟨t,.slice a l c,z⟩
 have Hbf:Hid _:=below_putM hbw1 (show w.heap.size≤w.heap.size+2 by omega) 0 ⟨t,.slice a l c,z⟩
 clear Hres HD1
 go_wp2_with fail
 refine bodyPost_ret (v:=.agg #[.int .i64 t.kind,.int .i64 t.num,.string t.text,.slice a l c,.int .u64 z]) ?_ rfl ⟨rfl,Hbf.out⟩
 have q0:=Hin.out 0 (by simp [encM])
 have q1:=Hin.out 1 (by simp [encM])
 have q2:=Hin.out 2 (by simp [encM])
 have q3:=Hin.out 3 (by simp [encM])
 have q4:=Hin.out 4 (by simp [encM])
 simp only [encM,World.setCells,Nat.zero_add,Nat.reduceAdd,List.getElem_cons_zero,List.getElem_cons_succ] at q0 q1 q2 q3 q4
 simp [results,Tryz.results128,go_sem,q0,q1,q2,q3,q4]
theorem measured_any (q:Nat) (hq:q<6) (t:VT) (u:Value) (w:World) (hu:Lies 16 w t.items u) (hr:zab 16 t=true) :
 Calls Tryz.prog 128 #[.agg #[fv (mF q),fv (cF q)],.agg #[.int .i64 t.kind,.int .i64 t.num,.string t.text,u]] w fun e w'=>e=.returned (.agg #[.int .i64 t.kind,.int .i64 t.num,.string t.text,u,.int .u64 (msr q t)])∧Below w.heap.size w w':=by
 obtain⟨a,c,rfl,_⟩:=Lies.slice hu
 exact measured_core _ _ (mF_enters q hq) _ t a _ c w (fun W hW=>meas_any q hq t _ W (Lies.keeps hW _ _ _ hu) hr)
def ordE (d:Nat) (o:Int) (t s:VT):Int:=if o<0∨6≤o then 4 else if zab d t=true∧zab d s=true then 0 else 3
def ordR (d:Nat) (o:Int) (t s:VT):Int:=if ordE d o t s=0 then ordV o.toNat t s else 0
structure DeskC (W:World) (n B f0 f1:Nat) (t s:VT) (x y:Value):Prop where
 b1:Boxed W n t.kind t.num t.text x
 b2:Boxed W (n+1) s.kind s.num s.text y
 g0:W.cell? ⟨B,0,none⟩=some (fv f0)
 g1:W.cell? ⟨B,1,none⟩=some (fv f1)
theorem DeskC.keeps {W W':World} {n B f0 f1:Nat} {t s:VT} {x y:Value} (h:DeskC W n B f0 f1 t s x y) (hb:Below W.heap.size W W'):DeskC W' n B f0 f1 t s x y:=
 ⟨h.b1.keeps hb,h.b2.keeps hb,zaa hb h.g0,zaa hb h.g1⟩
abbrev twoW (w:World) (t s:VT) (x y:Value):World:=(w.alloc (.cells #[.int .i64 t.kind,.int .i64 t.num,.string t.text,x] 24)).alloc (.cells #[.int .i64 s.kind,.int .i64 s.num,.string s.text,y] 24)
theorem two_boxes (w:World) (t s:VT) (x y:Value):Boxed (twoW w t s x y) w.heap.size t.kind t.num t.text x∧Boxed (twoW w t s x y) (w.heap.size+1) s.kind s.num s.text y:=by
 refine⟨(zat w t.kind t.num t.text x 24).keeps ((Grew.refl _).alloc _).below,?_⟩
 have:=zat (w.alloc (.cells #[.int .i64 t.kind,.int .i64 t.num,.string t.text,x] 24)) s.kind s.num s.text y 24
 rwa [World.size_alloc] at this
theorem compareO_kind (o:Int) (t s:VT) (ax ay:Option Addr) (lx cx ly cy:Nat) (w:World) (ho:o<0∨6≤o) :
 Calls Tryz.prog 85 #[.int .i64 o,.agg #[.int .i64 t.kind,.int .i64 t.num,.string t.text,.slice ax lx cx],.agg #[.int .i64 s.kind,.int .i64 s.num,.string s.text,.slice ay ly cy]] w fun e w'=>e=.returned (.tuple #[.int .i64 0,.int .i64 4])∧Below w.heap.size w w':=by
 have HO:Hid (o<0∨6≤o):=ho
 clear ho
 have HB:Hid (Below w.heap.size w (tabW (twoW w t s (.slice ax lx cx) (.slice ay ly cy)))):=(((Grew.refl w).alloc _).alloc _).alloc _ |>.below
 go_enter Tryz.func85,Tryz.ntmps85
 go_wp2_with fail
 refine (rows_any _).mono ?_
 rintro e w1 ⟨rfl,rfl⟩
 go_wp2_with fail
 refine (rowO_no _ o _ HO.out).mono ?_
 rintro e w1 ⟨rfl,hb⟩
 have hb1:Below w.heap.size w w1:=HB.out.trans (hb.mono HB.out.size)
 clear hb HB HO
 go_wp2_with fail
 go_ret2
 exact⟨rfl,hb1.alloc hb1.size _⟩
theorem compareO_some (d q:Nat) (hq:q<6) (t s:VT) (x y:Value) (w:World) (hx:Lies d w t.items x) (hy:Lies d w s.items y) (ht:t.text.size≤9223372036854775807) (hs:s.text.size≤9223372036854775807) :
 Calls Tryz.prog 85 #[.int .i64 q,.agg #[.int .i64 t.kind,.int .i64 t.num,.string t.text,x],.agg #[.int .i64 s.kind,.int .i64 s.num,.string s.text,y]] w fun e w'=>e=.returned (.tuple #[.int .i64 (ordR d q t s),.int .i64 (ordE d q t s)])∧Below w.heap.size w w':=by
 obtain⟨ax,cx,rfl,_⟩:=Lies.slice hx
 obtain⟨ay,cy,rfl,_⟩:=Lies.slice hy
 have HX:Hid (Lies d w t.items (.slice ax t.items.length cx)):=hx
 have HY:Hid (Lies d w s.items (.slice ay s.items.length cy)):=hy
 clear hx hy
 have Hm:Hid (∀(r:VT) (u:Value) (W:World),Lies 16 W r.items u→zab 16 r=true→Calls Tryz.prog 128 #[.agg #[fv (mF q),fv (cF q)],.agg #[.int .i64 r.kind,.int .i64 r.num,.string r.text,u]] W fun e w'=>e=.returned (.agg #[.int .i64 r.kind,.int .i64 r.num,.string r.text,u,.int .u64 (msr q r)])∧Below W.heap.size W w'):=fun r u W h1 h2=>measured_any q hq r u W h1 h2
 have Hc:Hid (∀(W:World),Lies 16 W t.items (.slice ax t.items.length cx)→Lies 16 W s.items (.slice ay s.items.length cy)→Calls Tryz.prog (cF q) #[.agg #[.int .i64 t.kind,.int .i64 t.num,.string t.text,.slice ax t.items.length cx,.int .u64 (msr q t)],.agg #[.int .i64 s.kind,.int .i64 s.num,.string s.text,.slice ay s.items.length cy,.int .u64 (msr q s)]] W fun e w'=>e=.returned (.int .i64 (ordV q t s))∧Grew W w'):=fun W h1 h2=>cmpO_any q hq t s _ _ _ _ W h1 h2
 have eg:=cF_enters q hq
 have hT:=tab_cells (twoW w t s (.slice ax t.items.length cx) (.slice ay s.items.length cy)) q hq
 simp only [World.size_alloc] at hT
 have HT:Hid ((tabW (twoW w t s (.slice ax t.items.length cx) (.slice ay s.items.length cy))).cell? ⟨w.heap.size+1+1,q*2,none⟩=some (fv (mF q))∧(tabW (twoW w t s (.slice ax t.items.length cx) (.slice ay s.items.length cy))).cell? ⟨w.heap.size+1+1,q*2+1,none⟩=some (fv (cF q))):=hT
 clear hT
 have He:Hid (ordE d q t s=if zab d t=true∧zab d s=true then 0 else 3):=by
  show _=_
  unfold ordE;rw [if_neg (by omega)]
 have Hr0:Hid (ordE d q t s=0→ordR d q t s=ordV q t s):=fun h=>by unfold ordR;rw [if_pos h];simp
 have Hr1:Hid (ordE d q t s=3→ordR d q t s=0):=fun h=>by unfold ordR;rw [if_neg (by omega)]
 generalize ordV q t s=Z at *
 generalize ordE d q t s=E at *
 generalize ordR d q t s=R at *
 generalize mF q=f0 at *
 generalize cF q=f1 at *
 have HB:Hid (Below w.heap.size w (tabW (twoW w t s (.slice ax t.items.length cx) (.slice ay s.items.length cy)))):=(((Grew.refl w).alloc _).alloc _).alloc _ |>.below
 have HBx:Hid (Boxed (tabW (twoW w t s (.slice ax t.items.length cx) (.slice ay s.items.length cy))) w.heap.size t.kind t.num t.text (.slice ax t.items.length cx)∧Boxed (tabW (twoW w t s (.slice ax t.items.length cx) (.slice ay s.items.length cy))) (w.heap.size+1) s.kind s.num s.text (.slice ay s.items.length cy)):=
  ⟨(two_boxes w t s _ _).1.keeps ((Grew.refl _).alloc _).below,(two_boxes w t s _ _).2.keeps ((Grew.refl _).alloc _).below⟩
 go_enter Tryz.func85,Tryz.ntmps85
 go_wp2_with fail
 refine (rows_any _).mono ?_
 rintro e w1 ⟨rfl,rfl⟩
 go_wp2_with fail
 refine (rowO_yes (w.heap.size+1+1) q f0 f1 _ hq HT.out.1 HT.out.2).mono ?_
 rintro e w1 ⟨rfl,hb⟩
 have hb:Below (tabW (twoW w t s (.slice ax t.items.length cx) (.slice ay s.items.length cy))).heap.size (tabW (twoW w t s (.slice ax t.items.length cx) (.slice ay s.items.length cy))) w1:=hb
 have hb1:Below w.heap.size w w1:=HB.out.trans (hb.mono HB.out.size)
 have hb2:Below w.heap.size w (w1.alloc (.cells #[fv f0,fv f1] 90)):=hb1.alloc hb1.size _
 have HD2:Hid (DeskC (w1.alloc (.cells #[fv f0,fv f1] 90)) w.heap.size w1.heap.size f0 f1 t s (.slice ax t.items.length cx) (.slice ay s.items.length cy)):=
  ⟨(HBx.out.1.keeps hb).keeps ((Grew.refl _).alloc _).below,(HBx.out.2.keeps hb).keeps ((Grew.refl _).alloc _).below,by simp,by simp⟩
 clear hb HB HBx HT hb1
 obtain⟨⟨x0,x1,x2,x3⟩,⟨y0,y1,y2,y3⟩,g0,g1⟩:=HD2.out
 go_wp2_with fail
 refine (check_any d t _ _ (Lies.keeps hb2 _ _ _ HX.out) ht).mono ?_
 rintro e w3 ⟨rfl,hb⟩
 have hb3:Below w.heap.size w w3:=hb2.trans (hb.mono hb2.size)
 have HD3:Hid (DeskC w3 w.heap.size w1.heap.size f0 f1 t s (.slice ax t.items.length cx) (.slice ay s.items.length cy)):=HD2.out.keeps hb
 generalize w1.heap.size=B at *
 clear hb hb2 HD2 x0 x1 x2 x3 y0 y1 y2 y3 g0 g1
 cases hrt:zab d t
 ·have he:errOf false=3:=rfl
  have hE:E=3:=by rw [He.out,hrt];simp
  have hR:R=0:=Hr1.out hE
  rw [he]
  subst hE hR
  clear He Hr0 Hr1 he
  go_wp2_with fail
  go_ret2
  exact⟨rfl,hb3⟩
 ·have he:errOf true=0:=rfl
  rw [he]
  clear he
  obtain⟨⟨x0,x1,x2,x3⟩,⟨y0,y1,y2,y3⟩,g0,g1⟩:=HD3.out
  go_wp2_with fail
  refine (check_any d s _ _ (Lies.keeps hb3 _ _ _ HY.out) hs).mono ?_
  rintro e w4 ⟨rfl,hb⟩
  have hb4:Below w.heap.size w w4.drew:=(hb3.trans (hb.mono hb3.size)).drew
  have HD4:Hid (DeskC w4.drew w.heap.size B f0 f1 t s (.slice ax t.items.length cx) (.slice ay s.items.length cy)):=(HD3.out.keeps hb).keeps (Grew.refl _).drew.below
  have hb4':Below w.heap.size w w4:=hb3.trans (hb.mono hb3.size)
  clear hb hb3 HD3 x0 x1 x2 x3 y0 y1 y2 y3 g0 g1
  cases hrs:zab d s
  ·have he:errOf false=3:=rfl
   have hE:E=3:=by rw [He.out,hrs];simp
   have hR:R=0:=Hr1.out hE
   rw [he]
   subst hE hR
   clear He Hr0 Hr1 he HD4
   go_wp2_with fail
   go_ret2
   exact⟨rfl,hb4'⟩
  ·have he:errOf true=0:=rfl
   rw [he]
   clear he
   have hE:E=0:=by rw [He.out,hrt,hrs];simp
   have hR:R=Z:=Hr0.out hE
   subst hE hR
   have h1:=canon HX.out hrt
   have h2:=canon HY.out hrs
   have H1:Hid (Lies 16 w t.items (.slice ax t.items.length cx)∧zab 16 t=true):=h1
   have H2:Hid (Lies 16 w s.items (.slice ay s.items.length cy)∧zab 16 s=true):=h2
   clear h1 h2 He Hr0 Hr1 hrt hrs HX HY hb4'
   obtain⟨⟨x0,x1,x2,x3⟩,⟨y0,y1,y2,y3⟩,g0,g1⟩:=HD4.out
   go_wp2_with fail
   go_region_held3 (fun w'=>w'.cell? ⟨B,0,none⟩=some (fv f0)∧w'.cell? ⟨B,1,none⟩=some (fv f1)∧w'.cell? ⟨w.heap.size,0,none⟩=some (.int .i64 t.kind)∧w'.cell? ⟨w.heap.size,1,none⟩=some (.int .i64 t.num)∧w'.cell? ⟨w.heap.size,2,none⟩=some (.string t.text)∧w'.cell? ⟨w.heap.size,3,none⟩=some (.slice ax t.items.length cx)∧w'.cell? ⟨w.heap.size+1,0,none⟩=some (.int .i64 s.kind)∧w'.cell? ⟨w.heap.size+1,1,none⟩=some (.int .i64 s.num)∧w'.cell? ⟨w.heap.size+1,2,none⟩=some (.string s.text)∧w'.cell? ⟨w.heap.size+1,3,none⟩=some (.slice ay s.items.length cy)) (go_keep)
    (first
     | (go_at_fn f1;refine (Hc.out _ (Lies.keeps hb6 _ _ _ H1.out.1) (Lies.keeps hb6 _ _ _ H2.out.1)).mono ?_;rintro e w7 ⟨rfl,hg7⟩;have hb7:Below w.heap.size w w7:=hb6.trans (hg7.below.mono hb6.size);have HD7:Hid (DeskC w7 w.heap.size B f0 f1 t s (.slice ax t.items.length cx) (.slice ay s.items.length cy)):=HD6.out.keeps hg7.below;clear hg7 hb6 HD6 x0 x1 x2 x3 y0 y1 y2 y3 g0 g1;obtain⟨⟨x0,x1,x2,x3⟩,⟨y0,y1,y2,y3⟩,g0,g1⟩:=HD7.out)
     | (go_at_call 128;refine (Hm.out s _ _ (Lies.keeps hb5 _ _ _ H2.out.1) H2.out.2).mono ?_;rintro e w6 ⟨rfl,hg6⟩;have hb6:Below w.heap.size w w6:=hb5.trans (hg6.mono hb5.size);have HD6:Hid (DeskC w6 w.heap.size B f0 f1 t s (.slice ax t.items.length cx) (.slice ay s.items.length cy)):=HD5.out.keeps hg6;clear hg6 hb5 HD5 x0 x1 x2 x3 y0 y1 y2 y3 g0 g1;obtain⟨⟨x0,x1,x2,x3⟩,⟨y0,y1,y2,y3⟩,g0,g1⟩:=HD6.out)
     | (go_at_call 128;refine (Hm.out t _ _ (Lies.keeps hb4 _ _ _ H1.out.1) H1.out.2).mono ?_;rintro e w5 ⟨rfl,hg5⟩;have hb5:Below w.heap.size w w5:=hb4.trans (hg5.mono hb4.size);have HD5:Hid (DeskC w5 w.heap.size B f0 f1 t s (.slice ax t.items.length cx) (.slice ay s.items.length cy)):=HD4.out.keeps hg5;clear hg5 hb4 HD4 x0 x1 x2 x3 y0 y1 y2 y3 g0 g1;obtain⟨⟨x0,x1,x2,x3⟩,⟨y0,y1,y2,y3⟩,g0,g1⟩:=HD5.out))
   go_wp2_with fail
   go_ret2
   exact⟨rfl,hb7⟩
theorem compareO_any (d:Nat) (o:Int) (t s:VT) (x y:Value) (w:World) (hx:Lies d w t.items x) (hy:Lies d w s.items y) (ht:t.text.size≤9223372036854775807) (hs:s.text.size≤9223372036854775807) :
 Calls Tryz.prog 85 #[.int .i64 o,.agg #[.int .i64 t.kind,.int .i64 t.num,.string t.text,x],.agg #[.int .i64 s.kind,.int .i64 s.num,.string s.text,y]] w fun e w'=>e=.returned (.tuple #[.int .i64 (ordR d o t s),.int .i64 (ordE d o t s)])∧Below w.heap.size w w':=by
 by_cases ho:o<0∨6≤o
 ·have hE:ordE d o t s=4:=by unfold ordE;rw [if_pos ho]
  have hR:ordR d o t s=0:=by unfold ordR;rw [if_neg (by omega)]
  rw [hE,hR]
  obtain⟨ax,cx,rfl,_⟩:=Lies.slice hx
  obtain⟨ay,cy,rfl,_⟩:=Lies.slice hy
  exact compareO_kind o t s ax ay _ cx _ cy w ho
 ·obtain⟨q,rfl⟩:∃q:Nat,o=q:=⟨o.toNat,by omega⟩
  exact compareO_some d q (by omega) t s x y w hx hy ht hs
end Go.Proofs.YtlnecfjnffdciacGreat
namespace Go.Proofs.YtlnecfjnffdciacGreat
open Go.RowKit
structure ItM (X:Nat→Prop) (w:World) (x:VT) (u:Value):Prop where
 lies:LiesX X 16 w x.items u
 right:zab 16 x=true
theorem ItM.keeps {X:Nat→Prop} {w w':World} (hb:Below w.heap.size w w') {x:VT} {u:Value} (h:ItM X w x u):ItM X w' x u:=⟨LiesX.keeps hb h.1,h.2⟩
theorem ItM.size {X:Nat→Prop} {w:World} {x:VT} {u:Value} (h:ItM X w x u):x.text.size≤9223372036854775807:=by have:=right_short h.right;omega
structure HCells (w:World) (c:Nat) (x:VT) (u:Value) (pb:Option Addr):Prop where
 kind:w.cell? ⟨c,0,none⟩=some (.int .i64 x.kind)
 num:w.cell? ⟨c,1,none⟩=some (.int .i64 x.num)
 text:w.cell? ⟨c,2,none⟩=some (.string x.text)
 items:w.cell? ⟨c,3,none⟩=some u
 below:w.cell? ⟨c,4,none⟩=some (.pointer pb)
theorem HCells.keeps {w w':World} (hb:Below w.heap.size w w') {c:Nat} {x:VT} {u:Value} {pb:Option Addr} (h:HCells w c x u pb):HCells w' c x u pb:=
 ⟨zaa hb h.1,zaa hb h.2,zaa hb h.3,zaa hb h.4,zaa hb h.5⟩
def RowH (X:Nat→Prop) (w:World):BT→Option Addr→Prop
 | .nil,p=>p=none
 | .node x below rest,p=>∃b c pb pr u,p=some ⟨b,0,none⟩∧w.cell? ⟨b,0,none⟩=some (.pointer (some ⟨c,0,none⟩))∧w.cell? ⟨b,1,none⟩=some (.pointer pr)∧
  HCells w c x u pb∧ItM X w x u∧RowH X w below pb∧RowH X w rest pr
def HpM (X:Nat→Prop) (w:World) (h:HP) (p:Option Addr):Prop:=∃c pb u,p=some ⟨c,0,none⟩∧HCells w c h.1 u pb∧ItM X w h.1 u∧RowH X w h.2 pb
def HpO (X:Nat→Prop) (w:World):Option HP→Option Addr→Prop
 | none,p=>p=none
 | some h,p=>HpM X w h p
structure KeepsH (X:Nat→Prop) (w w':World):Prop where
 lists:∀a v,X a.block→w.cell? a=some v→w'.cell? a=some v
 five:∀b k u,k<5→w.cell? ⟨b,4,none⟩≠none→w.cell? ⟨b,k,none⟩=some u→w'.cell? ⟨b,k,none⟩=some u
 ptr:∀b k p,w.cell? ⟨b,k,none⟩=some (.pointer p)→w'.cell? ⟨b,k,none⟩=some (.pointer p)
theorem KeepsH.of_below {X:Nat→Prop} {w w':World} (hb:Below w.heap.size w w'):KeepsH X w w':=⟨fun _ _ _ h=>zaa hb h,fun _ _ _ _ _ h=>zaa hb h,fun _ _ _ h=>zaa hb h⟩
theorem KeepsH.cells {X:Nat→Prop} {w w':World} (hk:KeepsH X w w') {c:Nat} {x:VT} {u:Value} {pb:Option Addr} (h:HCells w c x u pb):HCells w' c x u pb:=by
 have h4:w.cell? ⟨c,4,none⟩≠none:=by rw [h.below];simp
 exact⟨hk.five c 0 _ (by omega) h4 h.1,hk.five c 1 _ (by omega) h4 h.2,hk.five c 2 _ (by omega) h4 h.3,hk.five c 3 _ (by omega) h4 h.4,hk.five c 4 _ (by omega) h4 h.5⟩
theorem RowH.stays {X Y:Nat→Prop} (hY:∀b,X b→Y b) {w w':World} (hk:KeepsH X w w'):∀{t:BT} {p:Option Addr},RowH X w t p→RowH Y w' t p
 | .nil,_,h=>h
 | .node x b r,p,h=>by
  obtain⟨b,c,pb,pr,u,hp,c0,c1,hc,hi,h1,h2⟩:=h
  exact⟨b,c,pb,pr,u,hp,hk.ptr b 0 _ c0,hk.ptr b 1 _ c1,hk.cells hc,⟨LiesX.stays hY hk.lists hi.1,hi.2⟩,RowH.stays hY hk h1,RowH.stays hY hk h2⟩
theorem HpM.stays {X Y:Nat→Prop} (hY:∀b,X b→Y b) {w w':World} (hk:KeepsH X w w') {h:HP} {p:Option Addr} (hm:HpM X w h p):HpM Y w' h p:=by
 obtain⟨c,pb,u,hp,hc,hi,hr⟩:=hm
 exact⟨c,pb,u,hp,hk.cells hc,⟨LiesX.stays hY hk.lists hi.1,hi.2⟩,RowH.stays hY hk hr⟩
theorem HpO.stays {X Y:Nat→Prop} (hY:∀b,X b→Y b) {w w':World} (hk:KeepsH X w w') {h:Option HP} {p:Option Addr} (hm:HpO X w h p):HpO Y w' h p:=by
 cases h with
 | none=>exact hm
 | some h=>exact HpM.stays hY hk hm
theorem RowH.keeps {X:Nat→Prop} {w w':World} (hb:Below w.heap.size w w') {t:BT} {p:Option Addr} (h:RowH X w t p):RowH X w' t p:=RowH.stays (fun _ h=>h) (KeepsH.of_below hb) h
theorem HpM.keeps {X:Nat→Prop} {w w':World} (hb:Below w.heap.size w w') {t:HP} {p:Option Addr} (h:HpM X w t p):HpM X w' t p:=HpM.stays (fun _ h=>h) (KeepsH.of_below hb) h
theorem HpO.keeps {X:Nat→Prop} {w w':World} (hb:Below w.heap.size w w') {t:Option HP} {p:Option Addr} (h:HpO X w t p):HpO X w' t p:=HpO.stays (fun _ h=>h) (KeepsH.of_below hb) h
theorem ordR_19 (q:Nat) (hq:q<6) (a b:VT) (ha:zab 16 a=true) (hb:zab 16 b=true):ordR 16 q a b=ordV q a b∧ordE 16 q a b=0:=by
 have e:ordE 16 q a b=0:=by
  unfold ordE
  rw [if_neg (by omega),if_pos ⟨ha,hb⟩]
 refine⟨?_,e⟩
 unfold ordR
 rw [if_pos e]
 rfl
abbrev fnBy (g:Nat):Value:=.func (.func 87) #[] #[.pointer (some ⟨g,0,none⟩)]
theorem byOrder_any (q:Int) (w:World):Calls Tryz.prog 47 #[.int .i64 q] w fun e w'=>e=.returned (fnBy w.heap.size)∧w'=w.alloc (.cells #[.int .i64 q] 3):=by
 go_enter Tryz.func47,Tryz.ntmps47
 go_wp2_with fail
 go_ret
 exact⟨rfl,rfl⟩
theorem byOrder1_core (q bx:Nat) (x y:VT) (xu yu:Value) (w:World) (hbx:w.cell? ⟨bx,0,none⟩=some (.int .i64 (q:Int))) (R:Int)
 (hc:∀V,Below w.heap.size w V→Calls Tryz.prog 85 #[.int .i64 (q:Int),.agg #[.int .i64 x.kind,.int .i64 x.num,.string x.text,xu],.agg #[.int .i64 y.kind,.int .i64 y.num,.string y.text,yu]] V fun e w'=>e=.returned (.tuple #[.int .i64 R,.int .i64 0])∧Below V.heap.size V w') :
 Calls Tryz.prog 87 #[.agg #[.int .i64 x.kind,.int .i64 x.num,.string x.text,xu],.agg #[.int .i64 y.kind,.int .i64 y.num,.string y.text,yu],.pointer (some ⟨bx,0,none⟩)] w fun e w'=>e=.returned (.bool (decide (R<0)))∧Below w.heap.size w w':=by
 have HC:Hid _:=hc
 have hbl:=zad hbx
 simp only at hbl
 have hbn : ¬bx=w.heap.size:=by omega
 have hbn2 : ¬bx=w.heap.size+1:=by omega
 have hb2:∀A B,Below w.heap.size w ((w.alloc A).alloc B):=fun A B=>(((Grew.refl w).alloc A).alloc B).below
 have z0:∀A B,((w.alloc A).alloc B).cell? ⟨bx,0,none⟩=some (.int .i64 (q:Int)):=fun A B=>zaa (hb2 A B) hbx
 have HB:Hid _:=hb2
 clear hc hb2
 go_enter Tryz.func87,Tryz.ntmps87
 go_wp2_with fail
 refine (HC.out _ (HB.out _ _)).mono ?_
 rintro e w1 ⟨rfl,hg⟩
 have hb1:Below w.heap.size w w1:=(HB.out _ _).trans (hg.mono (HB.out _ _).size)
 clear hg HC HB
 go_wp2_with fail
 go_ret
 exact⟨rfl,hb1⟩
theorem byOrder1_any (q bx:Nat) (hq:q<6) {X:Nat→Prop} (x y:VT) (xu yu:Value) (w:World) (hbx:w.cell? ⟨bx,0,none⟩=some (.int .i64 (q:Int))) (hx:ItM X w x xu) (hy:ItM X w y yu) :
 Calls Tryz.prog 87 #[.agg #[.int .i64 x.kind,.int .i64 x.num,.string x.text,xu],.agg #[.int .i64 y.kind,.int .i64 y.num,.string y.text,yu],.pointer (some ⟨bx,0,none⟩)] w fun e w'=>e=.returned (.bool (decide (ordV q x y<0)))∧Below w.heap.size w w':=by
 refine byOrder1_core q bx x y xu yu w hbx _ fun V hV=>?_
 have h9:=compareO_any 16 (q:Int) x y xu yu V (LiesX.keeps hV hx.lies).lies (LiesX.keeps hV hy.lies).lies hx.size hy.size
 rw [(ordR_19 q hq x y hx.right hy.right).1,(ordR_19 q hq x y hx.right hy.right).2] at h9
 exact h9
def joinO (f:VT→VT→Int):Option HP→Option HP→Option HP
 | none,b=>b
 | some a,none=>some a
 | some a,some b=>some (joinH f a b)
def HpPost (X:Nat→Prop) (h:Option HP) (w:World) (e:Ending) (w':World):Prop:=Below w.heap.size w w'∧∃p,e=.returned (.pointer p)∧HpO X w' h p
theorem joined_left (p:Option Addr) (g:Nat) (w:World):Calls Tryz.prog 129 #[.pointer none,.pointer p,fnBy g] w fun e w'=>e=.returned (.pointer p)∧w'=w:=by
 go_enter Tryz.func129,Tryz.ntmps129
 go_wp2_with fail
 go_ret
 exact⟨rfl,rfl⟩
theorem joined_right (c g:Nat) (w:World):Calls Tryz.prog 129 #[.pointer (some ⟨c,0,none⟩),.pointer none,fnBy g] w fun e w'=>e=.returned (.pointer (some ⟨c,0,none⟩))∧w'=w:=by
 go_enter Tryz.func129,Tryz.ntmps129
 go_wp2_with fail
 go_ret
 exact⟨rfl,rfl⟩
theorem join_fin (X:Nat→Prop) {w V:World} {n cl:Nat} {x y:VT} {xb yb:BT} {xu yu:Value} {px py:Option Addr} (T1 T2:Nat) (hb:Below w.heap.size w V) (hn:n=V.heap.size) (hx:ItM X w x xu) (hxr:RowH X w xb px) (hy:HCells w cl y yu py) (hyi:ItM X w y yu) (hyr:RowH X w yb py) :
 HpPost X (some (x,.node y yb xb)) w (.returned (.pointer (some ⟨n+1,0,none⟩))) ((V.alloc (.cells #[.pointer (some ⟨cl,0,none⟩),.pointer px] T1)).alloc (.cells #[.int .i64 x.kind,.int .i64 x.num,.string x.text,xu,.pointer (some ⟨n,0,none⟩)] T2)).drew:=by
 subst hn
 have hb':Below w.heap.size w ((V.alloc (.cells #[.pointer (some ⟨cl,0,none⟩),.pointer px] T1)).alloc (.cells #[.int .i64 x.kind,.int .i64 x.num,.string x.text,xu,.pointer (some ⟨V.heap.size,0,none⟩)] T2)).drew:=((hb.alloc hb.size _).alloc (hb.alloc hb.size _).size _).drew
 refine⟨hb',_,rfl,V.heap.size+1,some ⟨V.heap.size,0,none⟩,xu,rfl,?_,hx.keeps hb',V.heap.size,cl,py,px,yu,rfl,?_,?_,hy.keeps hb',hyi.keeps hb',hyr.keeps hb',hxr.keeps hb'⟩
 ·constructor <;> simp
 ·simp
 ·simp
theorem joined_yes (g ca cb:Nat) (a b:HP) (au bu:Value) (pa pb:Option Addr) (w:World) (ha:HCells w ca a.1 au pa) (hb:HCells w cb b.1 bu pb)
 (hc:∀V,Below w.heap.size w V→Calls Tryz.prog 87 #[.agg #[.int .i64 b.1.kind,.int .i64 b.1.num,.string b.1.text,bu],.agg #[.int .i64 a.1.kind,.int .i64 a.1.num,.string a.1.text,au],.pointer (some ⟨g,0,none⟩)] V fun e w'=>e=.returned (.bool true)∧Below V.heap.size V w')
 (Q:Ending→World→Prop) (hQ:∀V,Below w.heap.size w V→Q (.returned (.pointer (some ⟨V.heap.size+1,0,none⟩))) ((V.alloc (.cells #[.pointer (some ⟨ca,0,none⟩),.pointer pb] 204)).alloc (.cells #[.int .i64 b.1.kind,.int .i64 b.1.num,.string b.1.text,bu,.pointer (some ⟨V.heap.size,0,none⟩)] 156)).drew) :
 Calls Tryz.prog 129 #[.pointer (some ⟨ca,0,none⟩),.pointer (some ⟨cb,0,none⟩),fnBy g] w Q:=by
 obtain⟨x0,x1,x2,x3,x4⟩:=ha
 obtain⟨y0,y1,y2,y3,y4⟩:=hb
 have HC:Hid _:=hc
 have HQ:Hid _:=hQ
 have eg:∀args w,(callFunc 87 args).run Tryz.prog w=.ok (.enter 87 args) w:=enters_of Tryz.func87 (by kernel_rfl) rfl
 clear hc hQ
 go_enter Tryz.func129,Tryz.ntmps129
 go_wp2_with fail
 go_region_held3 (fun w'=>w'.cell? ⟨ca,0,none⟩=some (.int .i64 a.1.kind)∧w'.cell? ⟨ca,1,none⟩=some (.int .i64 a.1.num)∧w'.cell? ⟨ca,2,none⟩=some (.string a.1.text)∧w'.cell? ⟨ca,3,none⟩=some au∧w'.cell? ⟨cb,0,none⟩=some (.int .i64 b.1.kind)∧w'.cell? ⟨cb,1,none⟩=some (.int .i64 b.1.num)∧w'.cell? ⟨cb,2,none⟩=some (.string b.1.text)∧w'.cell? ⟨cb,3,none⟩=some bu) (go_keep)
  (first|(go_at_call 87;refine (HC.out _ (Below.refl _ _).drew).mono ?_;rintro e w2 ⟨rfl,hb⟩;have hbZ:Below w.heap.size w w2:=(Below.refl _ _).drew.trans hb;have x0:=zaa hbZ x0;have x1:=zaa hbZ x1;have x2:=zaa hbZ x2;have x3:=zaa hbZ x3;have x4:=zaa hbZ x4;have y0:=zaa hbZ y0;have y1:=zaa hbZ y1;have y2:=zaa hbZ y2;have y3:=zaa hbZ y3;have y4:=zaa hbZ y4;clear hb))
 clear HC eg
 have z0:∀A,(w2.alloc A).cell? ⟨cb,0,none⟩=some (.int .i64 b.1.kind):=fun A=>zaa ((Grew.refl w2).alloc A).below y0
 have u0:∀A,(w2.alloc A).drew.cell? ⟨cb,0,none⟩=some (.int .i64 b.1.kind):=fun A=>zaa ((Grew.refl w2).alloc A).drew.below y0
 have z1:∀A,(w2.alloc A).cell? ⟨cb,1,none⟩=some (.int .i64 b.1.num):=fun A=>zaa ((Grew.refl w2).alloc A).below y1
 have u1:∀A,(w2.alloc A).drew.cell? ⟨cb,1,none⟩=some (.int .i64 b.1.num):=fun A=>zaa ((Grew.refl w2).alloc A).drew.below y1
 have z2:∀A,(w2.alloc A).cell? ⟨cb,2,none⟩=some (.string b.1.text):=fun A=>zaa ((Grew.refl w2).alloc A).below y2
 have u2:∀A,(w2.alloc A).drew.cell? ⟨cb,2,none⟩=some (.string b.1.text):=fun A=>zaa ((Grew.refl w2).alloc A).drew.below y2
 have z3:∀A,(w2.alloc A).cell? ⟨cb,3,none⟩=some (bu):=fun A=>zaa ((Grew.refl w2).alloc A).below y3
 have u3:∀A,(w2.alloc A).drew.cell? ⟨cb,3,none⟩=some (bu):=fun A=>zaa ((Grew.refl w2).alloc A).drew.below y3
 have z4:∀A,(w2.alloc A).cell? ⟨cb,4,none⟩=some (.pointer pb):=fun A=>zaa ((Grew.refl w2).alloc A).below y4
 have u4:∀A,(w2.alloc A).drew.cell? ⟨cb,4,none⟩=some (.pointer pb):=fun A=>zaa ((Grew.refl w2).alloc A).drew.below y4
 have HE:Hid _:=HQ.out w2 hbZ
 clear HQ hbZ
 go_wp2_with fail
 go_region
 all_goals (go_wp2_with fail;first|exact HE.out|(go_ret;exact HE.out)|(go_ret2;exact HE.out))
theorem joined_no (g ca cb:Nat) (a b:HP) (au bu:Value) (pa pb:Option Addr) (w:World) (ha:HCells w ca a.1 au pa) (hb:HCells w cb b.1 bu pb)
 (hc:∀V,Below w.heap.size w V→Calls Tryz.prog 87 #[.agg #[.int .i64 b.1.kind,.int .i64 b.1.num,.string b.1.text,bu],.agg #[.int .i64 a.1.kind,.int .i64 a.1.num,.string a.1.text,au],.pointer (some ⟨g,0,none⟩)] V fun e w'=>e=.returned (.bool false)∧Below V.heap.size V w')
 (Q:Ending→World→Prop) (hQ:∀V,Below w.heap.size w V→Q (.returned (.pointer (some ⟨V.heap.size+1,0,none⟩))) ((V.alloc (.cells #[.pointer (some ⟨cb,0,none⟩),.pointer pa] 204)).alloc (.cells #[.int .i64 a.1.kind,.int .i64 a.1.num,.string a.1.text,au,.pointer (some ⟨V.heap.size,0,none⟩)] 156)).drew) :
 Calls Tryz.prog 129 #[.pointer (some ⟨ca,0,none⟩),.pointer (some ⟨cb,0,none⟩),fnBy g] w Q:=by
 obtain⟨x0,x1,x2,x3,x4⟩:=ha
 obtain⟨y0,y1,y2,y3,y4⟩:=hb
 have HC:Hid _:=hc
 have HQ:Hid _:=hQ
 have eg:∀args w,(callFunc 87 args).run Tryz.prog w=.ok (.enter 87 args) w:=enters_of Tryz.func87 (by kernel_rfl) rfl
 clear hc hQ
 go_enter Tryz.func129,Tryz.ntmps129
 go_wp2_with fail
 go_region_held3 (fun w'=>w'.cell? ⟨ca,0,none⟩=some (.int .i64 a.1.kind)∧w'.cell? ⟨ca,1,none⟩=some (.int .i64 a.1.num)∧w'.cell? ⟨ca,2,none⟩=some (.string a.1.text)∧w'.cell? ⟨ca,3,none⟩=some au∧w'.cell? ⟨cb,0,none⟩=some (.int .i64 b.1.kind)∧w'.cell? ⟨cb,1,none⟩=some (.int .i64 b.1.num)∧w'.cell? ⟨cb,2,none⟩=some (.string b.1.text)∧w'.cell? ⟨cb,3,none⟩=some bu) (go_keep)
  (first|(go_at_call 87;refine (HC.out _ (Below.refl _ _).drew).mono ?_;rintro e w2 ⟨rfl,hb⟩;have hbZ:Below w.heap.size w w2:=(Below.refl _ _).drew.trans hb;have x0:=zaa hbZ x0;have x1:=zaa hbZ x1;have x2:=zaa hbZ x2;have x3:=zaa hbZ x3;have x4:=zaa hbZ x4;have y0:=zaa hbZ y0;have y1:=zaa hbZ y1;have y2:=zaa hbZ y2;have y3:=zaa hbZ y3;have y4:=zaa hbZ y4;clear hb))
 clear HC eg
 have z0:∀A,(w2.alloc A).cell? ⟨ca,0,none⟩=some (.int .i64 a.1.kind):=fun A=>zaa ((Grew.refl w2).alloc A).below x0
 have u0:∀A,(w2.alloc A).drew.cell? ⟨ca,0,none⟩=some (.int .i64 a.1.kind):=fun A=>zaa ((Grew.refl w2).alloc A).drew.below x0
 have z1:∀A,(w2.alloc A).cell? ⟨ca,1,none⟩=some (.int .i64 a.1.num):=fun A=>zaa ((Grew.refl w2).alloc A).below x1
 have u1:∀A,(w2.alloc A).drew.cell? ⟨ca,1,none⟩=some (.int .i64 a.1.num):=fun A=>zaa ((Grew.refl w2).alloc A).drew.below x1
 have z2:∀A,(w2.alloc A).cell? ⟨ca,2,none⟩=some (.string a.1.text):=fun A=>zaa ((Grew.refl w2).alloc A).below x2
 have u2:∀A,(w2.alloc A).drew.cell? ⟨ca,2,none⟩=some (.string a.1.text):=fun A=>zaa ((Grew.refl w2).alloc A).drew.below x2
 have z3:∀A,(w2.alloc A).cell? ⟨ca,3,none⟩=some (au):=fun A=>zaa ((Grew.refl w2).alloc A).below x3
 have u3:∀A,(w2.alloc A).drew.cell? ⟨ca,3,none⟩=some (au):=fun A=>zaa ((Grew.refl w2).alloc A).drew.below x3
 have z4:∀A,(w2.alloc A).cell? ⟨ca,4,none⟩=some (.pointer pa):=fun A=>zaa ((Grew.refl w2).alloc A).below x4
 have u4:∀A,(w2.alloc A).drew.cell? ⟨ca,4,none⟩=some (.pointer pa):=fun A=>zaa ((Grew.refl w2).alloc A).drew.below x4
 have HE:Hid _:=HQ.out w2 hbZ
 clear HQ hbZ
 go_wp2_with fail
 go_region
 all_goals (go_wp2_with fail;first|exact HE.out|(go_ret;exact HE.out)|(go_ret2;exact HE.out))
theorem joined_any (X:Nat→Prop) (q g:Nat) (hq:q<6) (a b:Option HP) (pa pb:Option Addr) (w:World) (hg:w.cell? ⟨g,0,none⟩=some (.int .i64 (q:Int))) (ha:HpO X w a pa) (hb:HpO X w b pb) :
 Calls Tryz.prog 129 #[.pointer pa,.pointer pb,fnBy g] w (HpPost X (joinO (ordV q) a b) w):=by
 cases a with
 | none=>
  have hp:pa=none:=ha
  subst hp
  refine Calls.mono (joined_left pb g w) ?_
  rintro e w' ⟨rfl,rfl⟩
  exact⟨Below.refl _ _,pb,rfl,hb⟩
 | some a=>
  cases b with
  | none=>
   have hp:pb=none:=hb
   subst hp
   obtain⟨c,pl,u,rfl,h⟩:=id ha
   refine Calls.mono (joined_right c g w) ?_
   rintro e w' ⟨rfl,rfl⟩
   exact⟨Below.refl _ _,_,rfl,ha⟩
  | some b=>
   obtain⟨ca,qa,au,rfl,hac,hai,har⟩:=ha
   obtain⟨cb,qb,bu,rfl,hbc,hbi,hbr⟩:=hb
   have hc:∀V,Below w.heap.size w V→Calls Tryz.prog 87 #[.agg #[.int .i64 b.1.kind,.int .i64 b.1.num,.string b.1.text,bu],.agg #[.int .i64 a.1.kind,.int .i64 a.1.num,.string a.1.text,au],.pointer (some ⟨g,0,none⟩)] V fun e w'=>e=.returned (.bool (decide (ordV q b.1 a.1<0)))∧Below V.heap.size V w':=
    fun V hV=>byOrder1_any q g hq b.1 a.1 bu au V (zaa hV hg) (hbi.keeps hV) (hai.keeps hV)
   show Calls _ _ _ _ (HpPost X (some (joinH (ordV q) a b)) w)
   unfold joinH
   by_cases h:ordV q b.1 a.1<0
   ·rw [if_pos h]
    simp only [h,decide_true] at hc
    exact joined_yes g ca cb a b au bu qa qb w hac hbc hc _ fun V hV=>join_fin X _ _ hV rfl hbi hbr hac hai har
   ·rw [if_neg h]
    simp only [h,decide_false] at hc
    exact joined_no g ca cb a b au bu qa qb w hac hbc hc _ fun V hV=>join_fin X _ _ hV rfl hai har hbc hbi hbr
def SlH (X:Nat→Prop) (w:World) (l:List HP) (v:Value):Prop:=
 ∃a c,v=.slice a l.length c∧l.length≤c∧(l≠[]→∃b o,a=some ⟨b,o,none⟩∧∀(i:Nat) (h:i<l.length),∃p,w.cell? ⟨b,o+i,none⟩=some (.pointer p)∧HpM X w (l[i]'h) p)
theorem SlH.keeps {X:Nat→Prop} {w w':World} (hb:Below w.heap.size w w') {l:List HP} {v:Value} (h:SlH X w l v):SlH X w' l v:=by
 obtain⟨a,c,hv,hc,hr⟩:=h
 refine⟨a,c,hv,hc,fun hne=>?_⟩
 obtain⟨b,o,ha,hall⟩:=hr hne
 refine⟨b,o,ha,fun i hi=>?_⟩
 obtain⟨p,h1,h2⟩:=hall i hi
 exact⟨p,zaa hb h1,h2.keeps hb⟩
theorem SlH.take {X:Nat→Prop} {w:World} {l:List HP} {b o c:Nat} (h:SlH X w l (.slice (some ⟨b,o,none⟩) l.length c)) (m:Nat) (hm:m≤l.length):SlH X w (l.take m) (.slice (some ⟨b,o,none⟩) m c):=by
 obtain⟨a',c',hv,hc,hr⟩:=h
 injection hv with h1 h2 h3
 subst h1 h3
 have e:(l.take m).length=m:=by rw [List.length_take,Nat.min_eq_left hm]
 refine⟨_,c,by rw [e],by rw [e];omega,fun hne=>?_⟩
 obtain⟨b',o',ha,hall⟩:=hr (fun e0=>hne (by rw [e0];simp))
 refine⟨b',o',ha,fun i hi=>?_⟩
 have:=hall i (by omega)
 simpa [List.getElem_take] using this
theorem SlH.drop {X:Nat→Prop} {w:World} {l:List HP} {b o c:Nat} (h:SlH X w l (.slice (some ⟨b,o,none⟩) l.length c)) (m:Nat):SlH X w (l.drop m) (.slice (some ⟨b,o+m,none⟩) (l.length-m) (c-m)):=by
 obtain⟨a',c',hv,hc,hr⟩:=h
 injection hv with h1 h2 h3
 subst h1 h3
 refine⟨_,c-m,by rw [List.length_drop],by rw [List.length_drop];omega,fun hne=>?_⟩
 obtain⟨b',o',ha,hall⟩:=hr (fun e0=>hne (by rw [e0];simp))
 injection ha with ha
 injection ha with hb1 ho1
 subst hb1 ho1
 refine⟨b,o+m,rfl,fun i hi=>?_⟩
 have:=hall (m+i) (by simp at hi;omega)
 simp only [List.getElem_drop]
 rw [show o+m+i=o+(m+i) by omega]
 exact this
def PairPost (X:Nat→Prop) (q:Nat) (I:List VT) (w:World) (e:Ending) (w':World):Prop:=
 Below w.heap.size w w'∧∃h p,e=.returned (.pointer p)∧HpO X w' h p∧(oItems h).Perm I∧oOk (ordV q) h
theorem joinO_perm (f:VT→VT→Int):∀(a b:Option HP),(oItems (joinO f a b)).Perm (oItems a++oItems b)
 | none,_=>List.Perm.refl _
 | some a,none=>by show (HP.items a).Perm (HP.items a++[]);rw [List.append_nil]
 | some a,some b=>joinH_perm f a b
theorem joinO_ok (q:Nat):∀{a b:Option HP},oOk (ordV q) a→oOk (ordV q) b→oOk (ordV q) (joinO (ordV q) a b)
 | none,_,_,h=>h
 | some _,none,h,_=>h
 | some _,some _,h,k=>joinH_ok (ordV_goes q) (zai q) h k
theorem joined_ok (X:Nat→Prop) (q g:Nat) (hq:q<6) (a b:Option HP) (pa pb:Option Addr) (w:World) (I J:List VT) (hg:w.cell? ⟨g,0,none⟩=some (.int .i64 (q:Int))) (ha:HpO X w a pa) (hb:HpO X w b pb)
 (hoa:oOk (ordV q) a) (hob:oOk (ordV q) b) (hpa:(oItems a).Perm I) (hpb:(oItems b).Perm J) :
 Calls Tryz.prog 129 #[.pointer pa,.pointer pb,fnBy g] w (PairPost X q (I++J) w):=by
 refine Calls.mono (joined_any X q g hq a b pa pb w hg ha hb) ?_
 rintro e w' ⟨h1,p,rfl,h2⟩
 exact⟨h1,_,p,rfl,h2,(joinO_perm _ a b).trans (hpa.append hpb),joinO_ok q hoa hob⟩
theorem paired_none (g c:Nat) (a:Option Addr) (w:World):Calls Tryz.prog 86 #[.slice a 0 c,fnBy g] w fun e w'=>e=.returned (.pointer none)∧w'=w:=by
 go_enter Tryz.func86,Tryz.ntmps86
 go_wp2_with fail
 go_ret
 exact⟨rfl,rfl⟩
theorem paired_one (g b o c:Nat) (p:Option Addr) (w:World) (h:w.cell? ⟨b,o,none⟩=some (.pointer p)):Calls Tryz.prog 86 #[.slice (some ⟨b,o,none⟩) 1 c,fnBy g] w fun e w'=>e=.returned (.pointer p)∧w'=w:=by
 go_enter Tryz.func86,Tryz.ntmps86
 go_wp2_with fail
 go_ret
 exact⟨rfl,rfl⟩
theorem paired_more (g b o c n h:Nat) (w:World) (Q:Ending→World→Prop) (hn:2≤n) (hh:h=n / 2) (hc:n≤c) (hl:n≤65536)
 (hC:∀V,Below w.heap.size w V→Calls Tryz.prog 86 #[.slice (some ⟨b,o,none⟩) h c,fnBy g] V fun e w1=>∃p1,e=.returned (.pointer p1)∧
  (∀V,Below w1.heap.size w1 V→Calls Tryz.prog 86 #[.slice (some ⟨b,o+h,none⟩) (n-h) (c-h),fnBy g] V fun e w2=>∃p2,e=.returned (.pointer p2)∧
   (∀V,Below w2.heap.size w2 V→Calls Tryz.prog 129 #[.pointer p1,.pointer p2,fnBy g] V fun e w3=>∃p3,e=.returned (.pointer p3)∧Q (.returned (.pointer p3)) w3))) :
 Calls Tryz.prog 86 #[.slice (some ⟨b,o,none⟩) n c,fnBy g] w Q:=by
 have HC:Hid _:=hC
 have h2' : ¬(n:Int)=0:=by omega
 have h3' : ¬(n:Int)=1:=by omega
 have hq:((n:Nat):Int) / 2=((h:Nat):Int):=by omega
 have hle:h≤n:=by omega
 have hle':((h:Nat):Int)≤(n:Nat):=by omega
 have hcc:h≤c:=by omega
 have hcc':((h:Nat):Int)≤(c:Nat):=by omega
 have hcn : ¬((c:Nat):Int)=(h:Nat):=by omega
 have hcn2 : ¬c=h:=by omega
 have hmc':(n:Int)≤(c:Nat):=by omega
 clear hC hh
 go_enter Tryz.func86,Tryz.ntmps86
 go_wp2_with fail
 go_region_held3 (fun _=>True) (first|trivial|go_keep)
  (first
   | (go_at_call 129;(with_reducible refine Calls.mono (H2.out _ ?_) ?_);(first|exact Below.refl _ _|exact (Below.refl _ _).drew);rintro e w3 ⟨p3,rfl,hE⟩;have HE:Hid _:=hE;clear hE H2)
   | (go_at_call 86;(with_reducible refine Calls.mono (H1.out _ ?_) ?_);(first|exact Below.refl _ _|exact (Below.refl _ _).drew);rintro e w2 ⟨p2,rfl,h2⟩;have H2:Hid _:=h2;clear h2 H1)
   | (go_at_call 86;(with_reducible refine Calls.mono (HC.out _ ?_) ?_);(first|exact Below.refl _ _|exact (Below.refl _ _).drew);rintro e w1 ⟨p1,rfl,h1⟩;have H1:Hid _:=h1;clear h1 HC))
 go_wp2_with fail
 first|exact HE.out|(go_ret;exact HE.out)|(go_ret2;exact HE.out)
theorem paired19_any (X:Nat→Prop) (q g:Nat) (hq:q<6):∀(k:Nat) (l:List HP) (v:Value) (w:World),l.length≤k→l.length≤65536→w.cell? ⟨g,0,none⟩=some (.int .i64 (q:Int))→SlH X w l v→(∀h∈l,HP.Ok (ordV q) h)→
 Calls Tryz.prog 86 #[v,fnBy g] w (PairPost X q (zal l) w):=by
 intro k
 induction k with
 | zero=>
  intro l v w hk _ _ hs _
  have hl:l=[]:=List.eq_nil_of_length_eq_zero (by omega)
  subst hl
  obtain⟨a,c,rfl,_⟩:=hs
  refine Calls.mono (paired_none g c a w) ?_
  rintro e w' ⟨rfl,rfl⟩
  exact⟨Below.refl _ _,none,none,rfl,rfl,List.Perm.refl _,trivial⟩
 | succ k ih=>
  intro l v w hk hl hg hs hok
  by_cases h2:2≤l.length
  ·obtain⟨a,c,rfl,hc,hr⟩:=id hs
   obtain⟨b,o,rfl,hall⟩:=hr (fun e=>by rw [e] at h2;simp at h2)
   obtain⟨h,hh⟩:∃h,h=l.length / 2:=⟨_,rfl⟩
   have s1:=hs.take h (by omega)
   have s2:=hs.drop h
   refine paired_more g b o c l.length h w _ h2 hh hc hl fun V hV=>?_
   refine Calls.mono (ih (l.take h) _ V (by rw [List.length_take];omega) (by rw [List.length_take];omega) (zaa hV hg) (s1.keeps hV) (fun x hx=>hok x (List.mem_of_mem_take hx))) ?_
   rintro e w1 ⟨hb1,h1,p1,rfl,hm1,hp1,ho1⟩
   have hw1:Below w.heap.size w w1:=hV.trans (hb1.mono hV.size)
   refine⟨p1,rfl,fun V2 hV2=>?_⟩
   have hw2:Below w.heap.size w V2:=hw1.trans (hV2.mono hw1.size)
   refine Calls.mono (ih (l.drop h) _ V2 (by rw [List.length_drop];omega) (by rw [List.length_drop];omega) (zaa hw2 hg) (s2.keeps hw2) (fun x hx=>hok x (List.mem_of_mem_drop hx))) ?_
   rintro e w2 ⟨hb2,h2,p2,rfl,hm2,hp2,ho2⟩
   have hw3:Below w.heap.size w w2:=hw2.trans (hb2.mono hw2.size)
   refine⟨p2,rfl,fun V3 hV3=>?_⟩
   have hw4:Below w.heap.size w V3:=hw3.trans (hV3.mono hw3.size)
   refine Calls.mono (joined_ok X q g hq h1 h2 p1 p2 V3 _ _ (zaa hw4 hg) (((hm1.keeps hV2).keeps hb2).keeps hV3) (hm2.keeps hV3) ho1 ho2 hp1 hp2) ?_
   rintro e w3 ⟨hb3,h3,p3,rfl,hm3,hp3,ho3⟩
   refine⟨p3,rfl,hw4.trans (hb3.mono hw4.size),h3,p3,rfl,hm3,?_,ho3⟩
   rw [←itemsH_app,List.take_append_drop] at hp3
   exact hp3
  ·cases l with
   | nil=>exact ih [] v w (Nat.zero_le _) hl hg hs hok
   | cons x l=>
    have hl0:l=[]:=List.eq_nil_of_length_eq_zero (by rw [List.length_cons] at h2;omega)
    subst hl0
    obtain⟨a,c,rfl,hc,hr⟩:=hs
    obtain⟨b,o,rfl,hall⟩:=hr (by simp)
    obtain⟨p,h1,hm⟩:=hall 0 (by simp)
    refine Calls.mono (paired_one g b o c p w (by simpa using h1)) ?_
    rintro e w' ⟨rfl,rfl⟩
    refine⟨Below.refl _ _,some x,p,rfl,hm,?_,hok x (by simp)⟩
    show (HP.items x).Perm (HP.items x++[])
    rw [List.append_nil]
def Hps (X:Nat→Prop) (w:World):List HP→List (Option Addr)→Prop
 | [],[]=>True
 | h::l,p::ps=>HpM X w h p∧Hps X w l ps
 | _,_=>False
theorem Hps.len {X:Nat→Prop} {w:World}:∀{l:List HP} {ps:List (Option Addr)},Hps X w l ps→l.length=ps.length
 | [],[],_=>rfl
 | _::_,_::_,h=>by rw [List.length_cons,List.length_cons,Hps.len h.2]
 | [],_::_,h=>h.elim
 | _::_,[],h=>h.elim
theorem Hps.app {X:Nat→Prop} {w:World}:∀{l m:List HP} {ps qs:List (Option Addr)},Hps X w l ps→Hps X w m qs→Hps X w (l++m) (ps++qs)
 | [],_,[],_,_,h=>h
 | _::_,_,_::_,_,h,k=>⟨h.1,Hps.app h.2 k⟩
 | [],_,_::_,_,h,_=>h.elim
 | _::_,_,[],_,h,_=>h.elim
theorem Hps.get {X:Nat→Prop} {w:World}:∀{l:List HP} {ps:List (Option Addr)},Hps X w l ps→∀(i:Nat) (h1:i<l.length) (h2:i<ps.length),HpM X w (l[i]'h1) (ps[i]'h2)
 | _::_,_::_,h,0,_,_=>h.1
 | _::_,_::_,h,i+1,h1,h2=>Hps.get h.2 i (by simpa using h1) (by simpa using h2)
 | [],_,_,_,h1,_=>absurd h1 (by simp)
 | _::_,[],h,_,_,_=>h.elim
theorem own_rowP {w:World} {base e:Nat} {v:Value} {vs:List Value} {n:Nat} (hn:n=vs.length) (h:w.ownsRow base e 1 v n vs) (hne:vs≠[]) :
 ∃g cap,v=.slice (some ⟨g,0,none⟩) n cap∧base≤g∧n≤cap∧g<w.heap.size∧(∀i (hi:i<vs.length),w.cell? ⟨g,i,none⟩=some (vs[i]'hi)):=by
 rcases h.2 with ⟨_,h0⟩|⟨g,cap,cur,hv,hbs,hg,hcap,_,hsz,htk⟩
 ·exact absurd (List.eq_nil_of_length_eq_zero (by omega)) hne
 ·have hlt:g<w.heap.size:=by
   by_cases hl:g<w.heap.size
   ·exact hl
   ·rw [Array.getElem?_eq_none (by omega)] at hg;cases hg
  refine⟨g,cap,hv,hbs,hcap,hlt,fun i hi=>?_⟩
  have hj:vs[i]? = some (vs[i]'hi):=List.getElem?_eq_getElem hi
  generalize vs[i]'hi=y at hj
  rw [←htk] at hj
  unfold World.cell?
  rw [hg]
  simp only
  rw [List.getElem?_take] at hj
  split at hj
  ·simpa using hj
  ·cases hj
theorem infoP19:∃i0,Tryz.prog.info? 82=some i0∧i0.zero=some (.pointer none)∧i0.size=1∧i0.bytes=8:=by
 refine⟨_,rfl,?_,?_,?_⟩
 all_goals kernel_rfl
def BelPost (X:Nat→Prop) (l:List HP) (w0 w:World) (e:Ending) (w':World):Prop:=
 Below w.heap.size w w'∧∃v ps,e=.returned v∧w'.ownsRow w.heap.size 82 1 v ps.length (ps.map Value.pointer)∧Hps X w0 l ps
theorem own_grow19 {w wr w2:World} {M:Nat} {ty sz:Nat} {v:Value} {n:Nat} {xs:List Value} (hb:Below M w wr) (hM:M≤wr.heap.size) (hown:wr.ownsRow M ty sz v n xs) (hgrow:wr.grownBy w2 v.ownBlock):Below M w w2:=
 hb.grown hgrow hM (by
  intro k hk
  rcases hown.2 with ⟨hv,_⟩|⟨g,cap',cur,hv,hbs,_⟩
  ·rw [hv] at hk;cases hk
  ·rw [hv] at hk
   simp only [Value.ownBlock,Option.some.injEq] at hk
   omega)
theorem heapsBelow_any (X:Nat→Prop) (c:Nat) (t:BT) (pb:Option Addr) (w0 w:World) (h00:Below w0.heap.size w0 w) (h4:w0.cell? ⟨c,4,none⟩=some (.pointer pb)) (hr:RowH X w0 t pb) (hl:t.heaps.length≤65536) :
 Calls Tryz.prog 92 #[.pointer (some ⟨c,0,none⟩)] w (BelPost X t.heaps w0 w):=by
 have h4:=zaa h00 h4
 have H0:Hid (Below w0.heap.size w0 w):=h00
 clear h00
 obtain⟨i0,hi,hz0,hz1,hz2⟩:=infoP19
 have Hi:Hid _:=hi;have Hz0:Hid _:=hz0;have Hz1:Hid _:=hz1;have Hz2:Hid _:=hz2
 have HR:Hid (RowH X w0 t pb):=hr
 have HL:Hid (t.heaps.length≤65536):=hl
 clear hi hz0 hz1 hz2 hr hl
 obtain⟨Z,hZ⟩:∃Z,Z=t.heaps.length:=⟨_,rfl⟩
 have HZ:Hid (Z=t.heaps.length):=hZ
 clear hZ
 go_enter Tryz.func92,Tryz.ntmps92
 go_wp2_with fail
 go_loopg [3,4] Z (fun z v3 v4 wr=>∃(s:BT) (pr:Option Addr) (l:List HP) (ps:List (Option Addr)),v4=.pointer pr∧Hid (z=s.heaps.length)∧Hid (RowH X w0 s pr)∧Hid (wr.ownsRow w.heap.size 82 1 v3 ps.length (ps.map Value.pointer))∧Hid (Hps X w0 l ps)∧Hid (l++s.heaps=t.heaps)∧Hid (Below w.heap.size w wr))
 case atStart=>exact⟨t,pb,[],[],rfl,HZ,HR,World.ownsRow_nil _ _ _ _,trivial,rfl,Below.refl _ _⟩
 case round=>
  obtain⟨s,pr,l,ps,rfl,Hz,HRs,Hown,Hps1,Hl,HB⟩:=hrel
  cases s with
  | nil=>
   have hq:pr=none:=HRs.out
   subst hq
   have HE:Hid (BelPost X t.heaps w0 w (.returned u3) wr):=by
    refine⟨HB.out,u3,ps,rfl,Hown.out,?_⟩
    have h1:l++[]=t.heaps:=Hl.out
    rw [List.append_nil] at h1
    rw [←h1]
    exact Hps1.out
   go_wp2_with fail
   go_ret
   exact HE.out
  | node x b r=>
   obtain⟨bb,cc,pbl,prr,u,hp,c0,c1,hc,hi,h1,h2⟩:=HRs.out
   subst hp
   have HH:Hid (HpM X w0 (x,b) (some ⟨cc,0,none⟩)):=⟨cc,pbl,u,rfl,hc,hi,h1⟩
   have HN:Hid (RowH X w0 r prr):=h2
   have hlen:ps.length≤65535:=by
    have e1:=HL.out
    rw [←Hl.out,List.length_append] at e1
    have e2:=Hps1.out.len
    have e3:(BT.node x b r).heaps.length=r.heaps.length+1:=rfl
    omega
   have c0:=zaa HB.out (zaa H0.out c0)
   have Hc1:Hid (w.cell? ⟨bb,1,none⟩=some (.pointer prr)):=zaa H0.out c1
   have HLen:Hid (ps.length≤65535):=hlen
   have hws:w.heap.size≤wr.heap.size:=HB.out.size
   clear hc hi h1 h2 hlen c1
   go_wp2_with (first
    | (at_builtin;refine wpList_append_own _ rfl _ _ 153 rfl w.heap.size 82 i0 (.pointer none) 1 8 Tryz.underlying153 Hi.out Hz0.out Hz1.out Hz2.out rfl (by decide) _ _ _ rfl (zaj Hown.out ((Below.refl _ _).alloc (Nat.le_refl _) _)) ⟨wr.heap.size,0,none⟩ 1 1 [.pointer (some ⟨cc,0,none⟩)] rfl rfl ?c1 ?c2 ?c3 ?c4 ?c5 ?_))
   case c1=>
    intro q u hq
    match q,hq with
    | 0,hq=>simp at hq;subst hq;simp [Addr.add]
   case c2=>intro u hu;simp at hu;subst hu;rfl
   case c3=>have:=HLen.out;unfold maxLen;omega
   case c4=>have:=HLen.out;omega
   case c5=>simp;omega
   intro v' w2 hown' hgrow _
   have hb0:Below w.heap.size w (wr.alloc (.cells #[.pointer (some ⟨cc,0,none⟩)] 82)):=HB.out.alloc hws _
   have hb2:Below w.heap.size w w2:=own_grow19 hb0 hb0.size (zaj Hown.out ((Below.refl _ _).alloc (Nat.le_refl _) _)) hgrow
   have c1:=zaa hb2 Hc1.out
   have Ho2:Hid (w2.ownsRow w.heap.size 82 1 v' (ps++[some (⟨cc,0,none⟩:Addr)]).length ((ps++[some (⟨cc,0,none⟩:Addr)]).map Value.pointer)):=by
    show World.ownsRow _ _ _ _ _ _ _
    rw [List.length_append,List.map_append]
    exact hown'
   clear hown' hgrow Hown hb0
   go_wp2_with fail
   go_roundg (r.heaps.length)
   case measure=>have e1:=Hz.out;have e3:(BT.node x b r).heaps.length=r.heaps.length+1:=rfl;omega
   case rel=>
    refine⟨r,prr,l++[(x,b)],ps++[some ⟨cc,0,none⟩],rfl,rfl,HN,Ho2,Hps1.out.app ⟨HH.out,trivial⟩,?_,hb2⟩
    show _=_
    rw [List.append_assoc,←Hl.out];rfl
open Go.Shelf
def RowM (w:World) (b o:Nat) (ms:List MB):Prop:=∀(i:Nat) (h:i<ms.length),
 w.cell? ⟨b,o+i*5,none⟩=some (.int .i64 (ms[i]'h).t.kind)∧w.cell? ⟨b,o+i*5+1,none⟩=some (.int .i64 (ms[i]'h).t.num)∧
 w.cell? ⟨b,o+i*5+2,none⟩=some (.string (ms[i]'h).t.text)∧w.cell? ⟨b,o+i*5+3,none⟩=some (ms[i]'h).u∧w.cell? ⟨b,o+i*5+4,none⟩=some (.int .u64 (ms[i]'h).m)
theorem RowM.keeps {w w':World} {b o:Nat} {ms:List MB} (h:RowM w b o ms) (hb:Below w.heap.size w w'):RowM w' b o ms:=fun i hi=>
 ⟨zaa hb (h i hi).1,zaa hb (h i hi).2.1,zaa hb (h i hi).2.2.1,zaa hb (h i hi).2.2.2.1,zaa hb (h i hi).2.2.2.2⟩
structure GoodM (w:World) (p:MB):Prop where
 lies:Lies 16 w p.t.items p.u
 right:zab 16 p.t=true
theorem GoodM.keeps {w w':World} {p:MB} (h:GoodM w p) (hb:Below w.heap.size w w'):GoodM w' p:=⟨Lies.keeps hb _ _ _ h.lies,h.right⟩
def SlM (w:World) (ms:List MB) (v:Value):Prop:=
 ∃b o c,v=.slice (some ⟨b,o,none⟩) ms.length c∧ms.length≤c∧RowM w b o ms∧∀p∈ms,GoodM w p
theorem SlM.keeps {w w':World} {ms:List MB} {v:Value} (h:SlM w ms v) (hb:Below w.heap.size w w'):SlM w' ms v:=by
 obtain⟨b,o,c,hv,hc,hr,hg⟩:=h
 exact⟨b,o,c,hv,hc,hr.keeps hb,fun p hp=>(hg p hp).keeps hb⟩
structure FilledM (G n:Nat) (w:World) (ms:List MB):Prop where
 row:RowM w G 0 ms
 there:∀k,k<n*5→(w.cell? ⟨G,k,none⟩).isSome=true∧w.frozen? ⟨G,k,none⟩=false
 lt:G<w.heap.size
theorem FilledM.keeps {G n:Nat} {w w':World} {ms:List MB} (h:FilledM G n w ms) (hb:Below w.heap.size w w'):FilledM G n w' ms:=by
 refine⟨h.row.keeps hb,fun k hk=>?_,Nat.lt_of_lt_of_le h.lt hb.size⟩
 obtain⟨h1,h2⟩:=h.there k hk
 rw [hb.cell (p:=⟨G,k,none⟩) h.lt,hb.frozen (p:=⟨G,k,none⟩) h.lt]
 exact⟨h1,h2⟩
theorem FilledM.put {G n:Nat} {w:World} {ms:List MB} (h:FilledM G n w ms) (p:MB) (hn:ms.length<n):FilledM G n (w.setCells G (ms.length*5) (encM p)) (ms++[p]):=by
 have hin:∀j (hj:j<(encM p).length),(w.setCells G (ms.length*5) (encM p)).cell? ⟨G,ms.length*5+j,none⟩=some ((encM p)[j]):=World.cell?_setCells_in G (encM p) (ms.length*5) w (fun j hj=>(h.there _ (by simp [encM] at hj;omega)).1)
 have hout:∀k,k<ms.length*5→(w.setCells G (ms.length*5) (encM p)).cell? ⟨G,k,none⟩=w.cell? ⟨G,k,none⟩:=fun k hk=>World.cell?_setCells_out G (encM p) _ w ⟨G,k,none⟩ (fun _ _=>.inl hk)
 refine⟨?_,?_,by rw [size_setCells];exact h.lt⟩
 ·intro i hi
  by_cases hl:i<ms.length
  ·obtain⟨k0,k1,k2,k3,k4⟩:=h.row i hl
   rw [List.getElem_append_left hl]
   simp only [Nat.zero_add] at k0 k1 k2 k3 k4 ⊢
   exact⟨(hout _ (by omega)).trans k0,(hout _ (by omega)).trans k1,(hout _ (by omega)).trans k2,(hout _ (by omega)).trans k3,(hout _ (by omega)).trans k4⟩
  ·have hie:i=ms.length:=by simp at hi;omega
   subst hie
   rw [List.getElem_append_right (Nat.le_refl _)]
   simp only [Nat.zero_add,Nat.sub_self,List.getElem_cons_zero]
   exact⟨hin 0 (by simp [encM]),hin 1 (by simp [encM]),hin 2 (by simp [encM]),hin 3 (by simp [encM]),hin 4 (by simp [encM])⟩
 ·intro k hk
  obtain⟨h1,h2⟩:=h.there k hk
  refine⟨?_,by rw [World.frozen?_setCells];exact h2⟩
  by_cases hl:ms.length*5≤k∧k<ms.length*5+5
  ·have:=hin (k-ms.length*5) (by simp [encM];omega)
   rw [show ms.length*5+(k-ms.length*5)=k by omega] at this
   rw [this];rfl
  ·rw [World.cell?_setCells_out G (encM p) _ w ⟨G,k,none⟩ (fun _ _=>by simp [encM];omega)]
   exact h1
theorem infoM:∃i0,Tryz.prog.info? 98=some i0∧i0.zero=some (.agg #[.int .i64 0,.int .i64 0,.string ⟨#[]⟩,.slice none 0 0,.int .u64 0])∧i0.size=5∧i0.bytes=64:=by
 refine⟨_,rfl,?_,?_,?_⟩
 all_goals kernel_rfl
theorem make_members (n:Nat) (hn:n≤65536):∃M:Array Value,M.size=n*5∧∀W:World,(Instr.makeSlice 91 (.int .i64 (n:Int)) (.int .i64 (n:Int))).run Tryz.prog W=.ok (.slice (some ⟨W.heap.size,0,none⟩) n n) (W.alloc (.cells M 98)):=by
 obtain⟨i0,hi,hz0,hz1,hz2⟩:=infoM
 refine⟨madeCells (Value.agg #[.int .i64 0,.int .i64 0,.string ⟨#[]⟩,.slice none 0 0,.int .u64 0]).cells (((n:Nat):Int).toNat*i0.size),?_,fun W=>?_⟩
 ·rw [size_madeCells,hz1];simp
 ·have h:=run_make (P:=Tryz.prog) W 91 98 i0 _ Tryz.underlying91 hi hz0 .i64 .i64 (n:Int) (n:Int) (by omega) (by omega) (by rw [hz2];omega) (by omega)
  simpa using h
theorem filledM_start (w:World) (M:Array Value) (n:Nat) (t:Nat) (hM:M.size=n*5):FilledM w.heap.size n (w.alloc (.cells M t)) []:=by
 refine⟨fun i hi=>(by cases hi),fun k hk=>?_,(by simp)⟩
 have hk':k<M.size:=by omega
 simp [hk']
abbrev mkM (g:VT→Int) (p:VT×Value):MB:=⟨p.1,p.2,g p.1⟩
theorem measuredAll_core (f0 f1:Nat) (g:VT→Int) (ps:List (VT×Value)) (a:Option Addr) (c:Nat) (w:World) (hlen:ps.length≤65536) (hr:ps≠[]→∃b o,a=some ⟨b,o,none⟩∧RowAt w b o ps)
 (hsl:∀p∈ps,∃a l c,p.2=.slice a l c)
 (hm:Hid (∀(p:VT×Value) (W:World),p∈ps→Below w.heap.size w W→Calls Tryz.prog 128 #[.agg #[fv f0,fv f1],.agg #[.int .i64 p.1.kind,.int .i64 p.1.num,.string p.1.text,p.2]] W fun e W'=>e=.returned (.agg #[.int .i64 p.1.kind,.int .i64 p.1.num,.string p.1.text,p.2,.int .u64 (g p.1)])∧Below W.heap.size W W')) :
 Calls Tryz.prog 90 #[.agg #[fv f0,fv f1],.slice a ps.length c] w fun e w'=>e=.returned (.slice (some ⟨w.heap.size+1,0,none⟩) ps.length ps.length)∧RowM w' (w.heap.size+1) 0 (ps.map (mkM g))∧Below w.heap.size w w':=by
 have Hr:Hid _:=hr
 have Hsl:Hid _:=hsl
 clear hr hsl
 obtain⟨M,hMs,hmk⟩:=make_members ps.length hlen
 have HF0:Hid (FilledM (w.heap.size+1) ps.length ((w.alloc (.cells #[fv f0,fv f1] 90)).alloc (.cells M 98)) []):=by
  have:=filledM_start (w.alloc (.cells #[fv f0,fv f1] 90)) M ps.length 98 hMs
  rwa [World.size_alloc] at this
 have Hg:Hid (((w.alloc (.cells #[fv f0,fv f1] 90)).alloc (.cells M 98)).cell? ⟨w.heap.size,0,none⟩=some (fv f0)∧((w.alloc (.cells #[fv f0,fv f1] 90)).alloc (.cells M 98)).cell? ⟨w.heap.size,1,none⟩=some (fv f1)):=
  ⟨zaa ((Grew.refl _).alloc _).below (by simp),zaa ((Grew.refl _).alloc _).below (by simp)⟩
 clear hMs
 go_enter Tryz.func90,Tryz.ntmps90
 go_wp2_with fail
 go_loopg [13] ps.length (fun k i wr=>∃j:Nat,i=.int .i64 (j:Int)∧j≤ps.length∧k=ps.length-j∧Hid (FilledM (w.heap.size+1) ps.length wr ((ps.take j).map (mkM g)))∧Hid (wr.cell? ⟨w.heap.size,0,none⟩=some (fv f0)∧wr.cell? ⟨w.heap.size,1,none⟩=some (fv f1))∧Below w.heap.size w wr)
 case atStart=>exact⟨0,rfl,by omega,by omega,HF0,Hg,(Grew.two _ _ _).below⟩
 case round=>
  obtain⟨j,rfl,hj,hk,HC,HG,hbw⟩:=hrel
  have Hk:Hid _:=hk
  clear hk hmk HF0 Hg
  by_cases hlt:j<ps.length
  ·obtain⟨b1,o1,rfl,hrow⟩:=Hr.out (by intro e;simp [e] at hlt)
   obtain⟨p0,p1,p2,p3⟩:=hrow j hlt
   clear hrow
   have Hmem:Hid (ps[j]∈ps):=List.getElem_mem hlt
   have Htk:Hid ((ps.take (j+1)).map (mkM g)=(ps.take j).map (mkM g)++[mkM g ps[j]]):=by
    show _=_
    rw [List.take_succ_eq_append_getElem hlt,List.map_append];rfl
   have Hlen:Hid (((ps.take j).map (mkM g)).length=j):=by show _=_;simp;omega
   generalize (ps.take j).map (mkM g)=ms at *
   generalize ps[j]=p at *
   obtain⟨t,u⟩:=p
   obtain⟨ax,lx,cx,hu⟩:=Hsl.out _ Hmem.out
   simp only at hu p0 p1 p2 p3
   subst hu
   have p0:=zaa hbw p0;have p1:=zaa hbw p1;have p2:=zaa hbw p2;have p3:=zaa hbw p3
   have hl1:b1<wr.heap.size:=zad p0
   have hws2:w.heap.size≤wr.heap.size:=hbw.size
   have hG:=HC.out.lt
   obtain⟨g0,g1⟩:=HG.out
   have hlt0:w.heap.size<wr.heap.size:=zad g0
   go_wp2_with fail
   refine (hm.out (t,.slice ax lx cx) _ Hmem.out (hbw.alloc hws2 _)).mono ?_
   rintro e w1 ⟨rfl,hb⟩
   have hb2:Below w.heap.size w w1:=(hbw.alloc hws2 _).trans (hb.mono (by simp;omega))
   have HC1:Hid (FilledM (w.heap.size+1) ps.length w1 ms):=(HC.out.keeps ((Grew.refl _).alloc _).below).keeps hb
   have HG1:Hid (w1.cell? ⟨w.heap.size,0,none⟩=some (fv f0)∧w1.cell? ⟨w.heap.size,1,none⟩=some (fv f1)):=⟨zaa hb (zaa ((Grew.refl _).alloc _).below g0),zaa hb (zaa ((Grew.refl _).alloc _).below g1)⟩
   clear hb p0 p1 p2 p3 hm HC HG g0 g1
   have hpl:=Hlen.out
   obtain⟨v0,s0⟩:=Option.isSome_iff_exists.1 (HC1.out.there (j*5) (by omega)).1
   obtain⟨v1,s1⟩:=Option.isSome_iff_exists.1 (HC1.out.there (j*5+1) (by omega)).1
   obtain⟨v2,s2⟩:=Option.isSome_iff_exists.1 (HC1.out.there (j*5+2) (by omega)).1
   obtain⟨v3,s3⟩:=Option.isSome_iff_exists.1 (HC1.out.there (j*5+3) (by omega)).1
   obtain⟨v4,s4⟩:=Option.isSome_iff_exists.1 (HC1.out.there (j*5+4) (by omega)).1
   have z0:=(HC1.out.there (j*5) (by omega)).2
   have z1:=(HC1.out.there (j*5+1) (by omega)).2
   have z2:=(HC1.out.there (j*5+2) (by omega)).2
   have z3:=(HC1.out.there (j*5+3) (by omega)).2
   have z4:=(HC1.out.there (j*5+4) (by omega)).2
   have hput:=HC1.out.put (mkM g (t,.slice ax lx cx)) (by omega)
   rw [←Htk.out,hpl] at hput
   have Hput:Hid _:=hput
   have HG2:Hid ((w1.setCells (w.heap.size+1) (j*5) (encM (mkM g (t,.slice ax lx cx)))).cell? ⟨w.heap.size,0,none⟩=some (fv f0)∧(w1.setCells (w.heap.size+1) (j*5) (encM (mkM g (t,.slice ax lx cx)))).cell? ⟨w.heap.size,1,none⟩=some (fv f1)):=
    ⟨zap (show w.heap.size≠w.heap.size+1 by omega) HG1.out.1,zap (show w.heap.size≠w.heap.size+1 by omega) HG1.out.2⟩
   have Hbf:Hid (Below w.heap.size w (w1.setCells (w.heap.size+1) (j*5) (encM (mkM g (t,.slice ax lx cx))))):=below_putM hb2 (by omega) (j*5) _
   clear hput hpl HG1 HC1
   go_wp2_with fail
   go_roundg (ps.length-(j+1))
   case measure=>have:=Hk.out;omega
   case rel=>exact⟨j+1,by go_num,by omega,rfl,Hput,HG2,Hbf.out⟩
  ·have hjl:j=ps.length:=by omega
   have hd:=HC.out.row
   rw [hjl,List.take_length] at hd
   have Hd:Hid (RowM wr (w.heap.size+1) 0 (ps.map (mkM g))):=hd
   clear hd hjl HC HG hm
   go_wp2_with fail
   go_ret
   exact⟨rfl,Hd.out,hbw⟩
structure Pairly (W:World) (n:Nat):Prop where
 there:∀k,k<2→(W.cell? ⟨n,k,none⟩).isSome=true
 soft:∀k,k<2→W.frozen? ⟨n,k,none⟩=false
theorem Pairly.lt {W:World} {n:Nat} (h:Pairly W n):n<W.heap.size:=by
 obtain⟨v,hv⟩:=Option.isSome_iff_exists.1 (h.there 0 (by omega))
 exact zad hv
theorem Pairly.keeps {W W':World} {n:Nat} (h:Pairly W n) (hb:Below W.heap.size W W'):Pairly W' n:=
 ⟨fun k hk=>by rw [hb.cell (p:=⟨n,k,none⟩) h.lt];exact h.there k hk,fun k hk=>by rw [hb.frozen (p:=⟨n,k,none⟩) h.lt];exact h.soft k hk⟩
theorem pairly_alloc (w:World) (a b:Value) (ty:Nat):Pairly (w.alloc (.cells #[a,b] ty)) w.heap.size:=by
 refine⟨fun k hk=>?_,fun k hk=>by simp⟩
 match k,hk with
 | 0,_=>simp
 | 1,_=>simp
theorem Pairly.put {W:World} {n:Nat} (h:Pairly W n) (a b:Value):∀j (hj:j<[a,b].length),(W.setCells n 0 [a,b]).cell? ⟨n,0+j,none⟩=some ([a,b][j]):=
 World.cell?_setCells_in n _ 0 W (fun j hj=>by rw [Nat.zero_add];exact h.there j (by simpa using hj))
theorem below_put2 {w W:World} {n:Nat} (h:Below w.heap.size w W) (hn:w.heap.size≤n) (a b:Value):Below w.heap.size w (W.setCells n 0 [a,b]):=
 (h.setCell (p:=⟨n,0,none⟩) hn _).setCell (p:=⟨n,0+1,none⟩) hn _
def lookE (d:Nat) (o:Int) (l:List VT):Int:=if o<0∨6≤o then 4 else zae d l
def NonePost (E:Int) (w:World) (e:Ending) (w':World):Prop:=e=.returned (.tuple #[.agg #[.nilFunc,.nilFunc],.slice none 0 0,.int .i64 E])∧Below w.heap.size w w'
abbrev resW (w:World):World:=w.alloc (.cells #[.nilFunc,.nilFunc] 90)
theorem look_kind (o:Int) (a:Option Addr) (n c:Nat) (w:World) (ho:o<0∨6≤o):Calls Tryz.prog 48 #[.int .i64 o,.slice a n c] w (NonePost 4 w):=by
 have HO:Hid (o<0∨6≤o):=ho
 clear ho
 have HB:Hid (Below w.heap.size w (tabW (resW w))):=(Grew.two w _ _).below
 have HP:Hid (Pairly (tabW (resW w)) w.heap.size):=(pairly_alloc w _ _ _).keeps ((Grew.refl _).alloc _).below
 go_enter Tryz.func48,Tryz.ntmps48
 go_wp2_with fail
 refine (rows_any _).mono ?_
 rintro e w1 ⟨rfl,rfl⟩
 go_wp2_with fail
 refine (rowO_no _ o _ HO.out).mono ?_
 rintro e w1 ⟨rfl,hb⟩
 have hb:Below (tabW (resW w)).heap.size (tabW (resW w)) w1:=hb
 have hb1:Below w.heap.size w w1:=HB.out.trans (hb.mono HB.out.size)
 have hb2:Below w.heap.size w (w1.alloc (.cells #[.nilFunc,.nilFunc] 90)):=hb1.alloc hb1.size _
 have HP2:Hid (Pairly (w1.alloc (.cells #[.nilFunc,.nilFunc] 90)) w.heap.size):=(HP.out.keeps hb).keeps ((Grew.refl _).alloc _).below
 clear hb hb1 HB HP HO
 obtain⟨v0,s0⟩:=Option.isSome_iff_exists.1 (HP2.out.there 0 (by omega))
 obtain⟨v1,s1⟩:=Option.isSome_iff_exists.1 (HP2.out.there 1 (by omega))
 have z0:=HP2.out.soft 0 (by omega)
 have z1:=HP2.out.soft 1 (by omega)
 have Hin:Hid _:=HP2.out.put .nilFunc .nilFunc
 have Hbf:Hid _:=below_put2 hb2 (Nat.le_refl _) .nilFunc .nilFunc
 go_wp2_with fail
 refine bodyPost_ret (v:=.tuple #[.agg #[.nilFunc,.nilFunc],.slice none 0 0,.int .i64 4]) ?_ rfl ⟨rfl,Hbf.out⟩
 have q0:=Hin.out 0 (by simp)
 have q1:=Hin.out 1 (by simp)
 simp only [World.setCells,Nat.zero_add,List.getElem_cons_zero,List.getElem_cons_succ] at q0 q1
 simp [results,Tryz.results48,go_sem,q0,q1]
structure DeskL (W:World) (n B f0 f1:Nat):Prop where
 res:Pairly W n
 g0:W.cell? ⟨B,0,none⟩=some (fv f0)
 g1:W.cell? ⟨B,1,none⟩=some (fv f1)
theorem DeskL.keeps {W W':World} {n B f0 f1:Nat} (h:DeskL W n B f0 f1) (hb:Below W.heap.size W W'):DeskL W' n B f0 f1:=
 ⟨h.res.keeps hb,zaa hb h.g0,zaa hb h.g1⟩
theorem look_core (d q:Nat) (hq:q<6) (f0 f1:Nat) (hT:Hid (∀w:World,(tabW (resW w)).cell? ⟨w.heap.size+1,q*2,none⟩=some (fv f0)∧(tabW (resW w)).cell? ⟨w.heap.size+1,q*2+1,none⟩=some (fv f1))) (l:List VT) (u:Value) (w:World) (hu:Lies (d+1) w l u) (ms:List MB)
 (hm:Hid (zae d l=0→(∀p∈ms,GoodM w p)∧∀W:World,Below w.heap.size w W→Calls Tryz.prog 90 #[.agg #[fv f0,fv f1],u] W fun e w'=>∃G,e=.returned (.slice (some ⟨G,0,none⟩) ms.length ms.length)∧W.heap.size≤G∧RowM w' G 0 ms∧Below W.heap.size W w')) :
 Calls Tryz.prog 48 #[.int .i64 q,u] w fun e w'=>(zae d l≠0∧NonePost (zae d l) w e w')∨(zae d l=0∧∃v,e=.returned (.tuple #[.agg #[fv f0,fv f1],v,.int .i64 0])∧SlM w' ms v∧Below w.heap.size w w'):=by
 obtain⟨a,c,rfl,_⟩:=Lies.slice hu
 have HU:Hid (Lies (d+1) w l (.slice a l.length c)):=hu
 clear hu
 have HB:Hid (Below w.heap.size w (tabW (resW w))):=(Grew.two w _ _).below
 have HP:Hid (Pairly (tabW (resW w)) w.heap.size):=(pairly_alloc w _ _ _).keeps ((Grew.refl _).alloc _).below
 go_enter Tryz.func48,Tryz.ntmps48
 go_wp2_with fail
 refine (rows_any _).mono ?_
 rintro e w1 ⟨rfl,rfl⟩
 go_wp2_with fail
 refine (rowO_yes (w.heap.size+1) q f0 f1 _ hq (hT.out w).1 (hT.out w).2).mono ?_
 rintro e w1 ⟨rfl,hb⟩
 have hb:Below (tabW (resW w)).heap.size (tabW (resW w)) w1:=hb
 have hb1:Below w.heap.size w w1:=HB.out.trans (hb.mono HB.out.size)
 have hb2:Below w.heap.size w (w1.alloc (.cells #[fv f0,fv f1] 90)):=hb1.alloc hb1.size _
 have HD2:Hid (DeskL (w1.alloc (.cells #[fv f0,fv f1] 90)) w.heap.size w1.heap.size f0 f1):=⟨(HP.out.keeps hb).keeps ((Grew.refl _).alloc _).below,by simp,by simp⟩
 have hlow:w.heap.size<w1.heap.size:=(HP.out.keeps hb).lt
 clear hb hb1 HB HP hT
 go_wp2_with fail
 refine (checkAll_any d l _ _ (Lies.keeps hb2 _ _ _ HU.out)).mono ?_
 rintro e w3 ⟨rfl,hb⟩
 have hb3:Below w.heap.size w w3:=hb2.trans (hb.mono hb2.size)
 have HD3:Hid (DeskL w3 w.heap.size w1.heap.size f0 f1):=HD2.out.keeps hb
 clear hb hb2 HD2 HU
 generalize hBB:w1.heap.size=B at *
 clear hBB
 generalize hLE:zae d l=E at *
 have HLE:Hid (zae d l=E):=hLE
 clear hLE
 by_cases hE:E=0
 ·subst hE
  have hb4:Below w.heap.size w w3.drew:=hb3.drew
  have HD4:Hid (DeskL w3.drew w.heap.size B f0 f1):=HD3.out.keeps (Grew.refl _).drew.below
  have Hm:Hid (∀W:World,Below w.heap.size w W→Calls Tryz.prog 90 #[.agg #[fv f0,fv f1],.slice a l.length c] W fun e w'=>∃G,e=.returned (.slice (some ⟨G,0,none⟩) ms.length ms.length)∧W.heap.size≤G∧RowM w' G 0 ms∧Below W.heap.size W w'):=(hm.out rfl).2
  have HGd:Hid (∀p∈ms,GoodM w p):=(hm.out rfl).1
  have hne1 : ¬(w.heap.size=B):=by omega
  have hne2 : ¬(B=w.heap.size):=by omega
  have hgt:w.heap.size<w3.heap.size:=HD3.out.res.lt
  clear hm HD3 hb3
  obtain⟨hp4,g0,g1⟩:=HD4.out
  clear hp4
  go_wp2_with fail
  go_region_held3 (fun w'=>w'.cell? ⟨B,0,none⟩=some (fv f0)∧w'.cell? ⟨B,1,none⟩=some (fv f1)) (first|go_keep|trivial)
   (first
    | (go_at_call 90;refine (Hm.out _ hb4).mono ?_;rintro e w5 ⟨G,rfl,hG,hrow,hg5⟩;have hG2:w3.heap.size≤G:=hG;clear hG;have hb5:Below w.heap.size w w5:=hb4.trans (hg5.mono hb4.size);have HD5:Hid (DeskL w5 w.heap.size B f0 f1):=HD4.out.keeps hg5;clear hg5 hb4 HD4 g0 g1;have HR:Hid (RowM w5 G 0 ms):=hrow;clear hrow;obtain⟨hres,g0,g1⟩:=HD5.out;obtain⟨v0,s0⟩:=Option.isSome_iff_exists.1 (hres.there 0 (by omega));obtain⟨v1,s1⟩:=Option.isSome_iff_exists.1 (hres.there 1 (by omega));have z0:=hres.soft 0 (by omega);have z1:=hres.soft 1 (by omega);clear hres))
  have Hin:Hid _:=HD5.out.res.put (fv f0) (fv f1)
  have hbf:=below_put2 hb5 (Nat.le_refl _) (fv f0) (fv f1)
  have Hbf:Hid (Below w.heap.size w (w5.setCells w.heap.size 0 [fv f0,fv f1])):=hbf
  have HS:Hid (SlM (w5.setCells w.heap.size 0 [fv f0,fv f1]) ms (.slice (some ⟨G,0,none⟩) ms.length ms.length)):=by
   refine⟨G,0,_,rfl,Nat.le_refl _,fun i hi=>?_,fun p hp=>(HGd.out p hp).keeps hbf⟩
   obtain⟨k0,k1,k2,k3,k4⟩:=HR.out i hi
   have hg:G≠w.heap.size:=by omega
   exact⟨zap hg k0,zap hg k1,zap hg k2,zap hg k3,zap hg k4⟩
  clear hbf HR HGd HD5
  go_wp2_with fail
  refine bodyPost_ret (v:=.tuple #[.agg #[fv f0,fv f1],.slice (some ⟨G,0,none⟩) ms.length ms.length,.int .i64 0]) ?_ rfl (.inr ⟨HLE.out,_,rfl,HS.out,Hbf.out⟩)
  have q0:=Hin.out 0 (by simp)
  have q1:=Hin.out 1 (by simp)
  simp only [World.setCells,Nat.zero_add,List.getElem_cons_zero,List.getElem_cons_succ] at q0 q1
  simp [results,Tryz.results48,go_sem,q0,q1]
 ·have HP3:Hid (Pairly w3 w.heap.size):=HD3.out.res
  clear HD3 hm
  obtain⟨v0,s0⟩:=Option.isSome_iff_exists.1 (HP3.out.there 0 (by omega))
  obtain⟨v1,s1⟩:=Option.isSome_iff_exists.1 (HP3.out.there 1 (by omega))
  have z0:=HP3.out.soft 0 (by omega)
  have z1:=HP3.out.soft 1 (by omega)
  have Hin:Hid _:=HP3.out.put .nilFunc .nilFunc
  have Hbf:Hid _:=below_put2 hb3 (Nat.le_refl _) .nilFunc .nilFunc
  have hE':(E==0)=false:=by simpa using hE
  have HE:Hid (E≠0):=hE
  clear hE
  go_wp2_with fail
  refine bodyPost_ret (v:=.tuple #[.agg #[.nilFunc,.nilFunc],.slice none 0 0,.int .i64 E]) ?_ rfl (.inl ⟨by rw [HLE.out];exact HE.out,by rw [HLE.out],Hbf.out⟩)
  have q0:=Hin.out 0 (by simp)
  have q1:=Hin.out 1 (by simp)
  simp only [World.setCells,Nat.zero_add,List.getElem_cons_zero,List.getElem_cons_succ] at q0 q1
  simp [results,Tryz.results48,go_sem,q0,q1]
def LookPost (d q:Nat) (l:List VT) (w:World) (e:Ending) (w':World):Prop:=
 (zae d l≠0∧NonePost (zae d l) w e w')∨(zae d l=0∧∃v ms,e=.returned (.tuple #[.agg #[fv (mF q),fv (cF q)],v,.int .i64 0])∧SlM w' ms v∧ms.map (·.t)=l∧(∀p∈ms,p.m=msr q p.t)∧Below w.heap.size w w')
theorem listErr_zero6 {d:Nat} {l:List VT} (h:zae d l=0):l.length≤65536∧∀x∈l,zab d x=true:=by
 unfold zae at h
 by_cases h1:65536<l.length
 ·rw [if_pos h1] at h;cases h
 ·rw [if_neg h1] at h
  cases h2:l.all (zab d)
  ·rw [h2] at h;cases h
  ·exact⟨by omega,fun x hx=>List.all_eq_true.1 h2 x hx⟩
theorem look_some (d q:Nat) (hq:q<6) (l:List VT) (u:Value) (w:World) (hu:Lies (d+1) w l u):Calls Tryz.prog 48 #[.int .i64 q,u] w (LookPost d q l w):=by
 obtain⟨a,c,rfl,hlen,ps,hps,hsd,hrow⟩:=Lies.row hu
 have hpl:ps.length=l.length:=by rw [←hps];simp
 have hpne:ps≠[]→l≠[]:=fun h e=>h (List.eq_nil_of_length_eq_zero (by rw [hpl,e];rfl))
 refine (look_core d q hq (mF q) (cF q) (fun W=>?_) l _ w hu (ps.map (mkM (msr q))) ?_).mono ?_
 ·have:=tab_cells (resW W) q hq
  rwa [World.size_alloc] at this
 ·intro hE
  obtain⟨h1,h2⟩:=listErr_zero6 hE
  have hgood:∀p∈ps,Lies 16 w p.1.items p.2∧zab 16 p.1=true:=fun p hp=>canon (hsd p hp).1 (h2 p.1 (by rw [←hps];exact List.mem_map.2 ⟨p,hp,rfl⟩))
  refine⟨fun m hm=>?_,fun W hW=>?_⟩
  ·obtain⟨p,hp,rfl⟩:=List.mem_map.1 hm
   exact⟨(hgood p hp).1,(hgood p hp).2⟩
  ·have:=measuredAll_core (mF q) (cF q) (msr q) ps a c W (by omega) (fun hne=>by
    obtain⟨b,o,ha,hr⟩:=hrow (hpne hne)
    exact⟨b,o,ha,hr.keeps hW⟩) (fun p hp=>by
    obtain⟨a',c',e,_⟩:=Lies.slice (hsd p hp).1
    exact⟨a',_,c',e⟩) (fun p W' hp hW'=>measured_any q hq p.1 p.2 W' (Lies.keeps (hW.trans (hW'.mono hW.size)) _ _ _ (hgood p hp).1) (hgood p hp).2)
   rw [hpl] at this
   refine this.mono ?_
   rintro e w' ⟨rfl,hr,hb⟩
   exact⟨W.heap.size+1,by rw [List.length_map,hpl],by omega,hr,hb⟩
 ·rintro e w' (h|⟨h1,v,h2,h3,h4⟩)
  ·exact .inl h
  ·refine .inr ⟨h1,v,_,h2,h3,?_,fun p hp=>?_,h4⟩
   ·rw [List.map_map];exact hps
   ·obtain⟨x,_,rfl⟩:=List.mem_map.1 hp;rfl
end Go.Proofs.YtlnecfjnffdciacGreat
