import Derived.Test.YtlnecfjnffdciabGreatAppRow
import Derived.Test.YtlnecfjnffdciabGreatLiesX
import Derived.BigQuiet
import Derived.Shelf.SlSortCmp.QuietGrown
set_option maxRecDepth 100000
set_option maxHeartbeats 16000000
namespace Go.Proofs.YtlnecfjnffdciabGreat
open Go.RowKit
abbrev PT:Type:=VT×VT
structure NCells (w:World) (b:Nat) (pl pr:Option Addr) (x:PT) (ku vu:Value) (c:Bool) (s h k:Nat):Prop where
 left:w.cell? ⟨b,0,none⟩=some (.pointer pl)
 right:w.cell? ⟨b,1,none⟩=some (.pointer pr)
 kkind:w.cell? ⟨b,2,none⟩=some (.int .i64 x.1.kind)
 knum:w.cell? ⟨b,3,none⟩=some (.int .i64 x.1.num)
 ktext:w.cell? ⟨b,4,none⟩=some (.string x.1.text)
 kitems:w.cell? ⟨b,5,none⟩=some ku
 vkind:w.cell? ⟨b,6,none⟩=some (.int .i64 x.2.kind)
 vnum:w.cell? ⟨b,7,none⟩=some (.int .i64 x.2.num)
 vtext:w.cell? ⟨b,8,none⟩=some (.string x.2.text)
 vitems:w.cell? ⟨b,9,none⟩=some vu
 red:w.cell? ⟨b,10,none⟩=some (.bool c)
 size:w.cell? ⟨b,11,none⟩=some (.int .i64 (s:Int))
 high:w.cell? ⟨b,12,none⟩=some (.int .i64 (h:Int))
 blacks:w.cell? ⟨b,13,none⟩=some (.int .i64 (k:Int))
theorem NCells.keeps {w w':World} {b:Nat} {pl pr:Option Addr} {x:PT} {ku vu:Value} {c:Bool} {s h k:Nat} (n:NCells w b pl pr x ku vu c s h k) (hb:Below w.heap.size w w'):NCells w' b pl pr x ku vu c s h k:=
 ⟨zaa hb n.1,zaa hb n.2,zaa hb n.3,zaa hb n.4,zaa hb n.5,zaa hb n.6,zaa hb n.7,zaa hb n.8,zaa hb n.9,zaa hb n.10,zaa hb n.11,zaa hb n.12,zaa hb n.13,zaa hb n.14⟩
def NM (X:Nat→Prop) (d:Nat) (w:World):RT PT→Option Addr→Prop
 | .nil,p=>p=none
 | .node c l x r,p=>∃b pl pr ku vu,p=some ⟨b,0,none⟩∧NCells w b pl pr x ku vu c (RT.size (.node c l x r)) (RT.high (.node c l x r)) (RT.blacks (.node c l x r))∧
  (LiesX X d w x.1.items ku∧x.1.text.size≤9223372036854775807)∧(LiesX X d w x.2.items vu∧x.2.text.size≤9223372036854775807)∧NM X d w l pl∧NM X d w r pr
theorem NM.keeps {X:Nat→Prop} {d:Nat} {w w':World} (hb:Below w.heap.size w w'):∀{t:RT PT} {p:Option Addr},NM X d w t p→NM X d w' t p
 | .nil,_,h=>h
 | .node c l x r,p,h=>by
  obtain⟨b,pl,pr,ku,vu,hp,hn,hk,hv,hl,hr⟩:=h
  exact⟨b,pl,pr,ku,vu,hp,hn.keeps hb,⟨LiesX.keeps hb hk.1,hk.2⟩,⟨LiesX.keeps hb hv.1,hv.2⟩,NM.keeps hb hl,NM.keeps hb hr⟩
theorem NM.stays {X Y:Nat→Prop} {d:Nat} {w w':World} (hY:∀b,X b→Y b) (hX:∀a v,X a.block→w.cell? a=some v→w'.cell? a=some v) (hN:∀b k u,k<14→w.cell? ⟨b,13,none⟩≠none→w.cell? ⟨b,k,none⟩=some u→w'.cell? ⟨b,k,none⟩=some u):∀{t:RT PT} {p:Option Addr},NM X d w t p→NM Y d w' t p
 | .nil,_,h=>h
 | .node c l x r,p,h=>by
  obtain⟨b,pl,pr,ku,vu,hp,n,hk,hv,hl,hr⟩:=h
  have h13:w.cell? ⟨b,13,none⟩≠none:=by rw [n.blacks];simp
  have g:=fun k u (hk:k<14) (hc:w.cell? ⟨b,k,none⟩=some u)=>hN b k u hk h13 hc
  exact⟨b,pl,pr,ku,vu,hp,⟨g 0 _ (by omega) n.1,g 1 _ (by omega) n.2,g 2 _ (by omega) n.3,g 3 _ (by omega) n.4,g 4 _ (by omega) n.5,g 5 _ (by omega) n.6,g 6 _ (by omega) n.7,g 7 _ (by omega) n.8,g 8 _ (by omega) n.9,g 9 _ (by omega) n.10,g 10 _ (by omega) n.11,g 11 _ (by omega) n.12,g 12 _ (by omega) n.13,g 13 _ (by omega) n.14⟩,⟨LiesX.stays hY hX hk.1,hk.2⟩,⟨LiesX.stays hY hX hv.1,hv.2⟩,NM.stays hY hX hN hl,NM.stays hY hX hN hr⟩
theorem NM.mono {X Y:Nat→Prop} {d:Nat} {w:World} (hY:∀b,X b→Y b) {t:RT PT} {p:Option Addr} (h:NM X d w t p):NM Y d w t p:=
 NM.stays hY (fun _ _ _ hv=>hv) (fun _ _ _ _ _ hv=>hv) h
theorem NM.both {X:Nat→Prop} {d:Nat} {w:World}:∀{t:RT PT} {p:Option Addr},NM X d w t p→NM (fun b=>X b∧b<w.heap.size) d w t p
 | .nil,_,h=>h
 | .node c l x r,p,h=>by
  obtain⟨b,pl,pr,ku,vu,hp,n,hk,hv,hl,hr⟩:=h
  exact⟨b,pl,pr,ku,vu,hp,n,⟨hk.1.both,hk.2⟩,⟨hv.1.both,hv.2⟩,NM.both hl,NM.both hr⟩
def zag (s h k:Int) (w:World) (e:Ending) (w':World):Prop:=Below w.heap.size w w'∧e=.returned (.agg #[.int .i64 s,.int .i64 h,.int .i64 k])
theorem box3_14 (w:World) (T:Nat) (s h k:Int):(w.alloc (.cells #[.int .i64 s,.int .i64 h,.int .i64 k] T)).cell? ⟨w.heap.size,0,none⟩=some (.int .i64 s)∧(w.alloc (.cells #[.int .i64 s,.int .i64 h,.int .i64 k] T)).cell? ⟨w.heap.size,1,none⟩=some (.int .i64 h)∧(w.alloc (.cells #[.int .i64 s,.int .i64 h,.int .i64 k] T)).cell? ⟨w.heap.size,2,none⟩=some (.int .i64 k):=by
 refine⟨?_,?_,?_⟩ <;> simp
theorem measured_nil (w:World):Calls Tryz.prog 113 #[.pointer none] w (zag 0 0 0 w):=by
 obtain⟨y0,y1,y2⟩:=box3_14 w 171 0 0 0
 go_enter Tryz.func113,Tryz.ntmps113
 go_wp2_with fail
 refine bodyPost_ret (v:=.agg #[.int .i64 0,.int .i64 0,.int .i64 0]) ?_ rfl ⟨((Grew.refl w).alloc _).below,rfl⟩
 obtain⟨k0,k1,k2⟩:=box3_14 w 171 0 0 0
 simp [results,Tryz.results113,go_sem,k0,k1,k2]
theorem measured_node (b:Nat) (s h k:Int) (w:World) (h1:w.cell? ⟨b,11,none⟩=some (.int .i64 s)) (h2:w.cell? ⟨b,12,none⟩=some (.int .i64 h)) (h3:w.cell? ⟨b,13,none⟩=some (.int .i64 k)) :
 Calls Tryz.prog 113 #[.pointer (some ⟨b,0,none⟩)] w (zag s h k w):=by
 obtain⟨y0,y1,y2⟩:=box3_14 w 171 0 0 0
 have hbz:Below w.heap.size w (w.alloc (.cells #[.int .i64 0,.int .i64 0,.int .i64 0] 171)):=((Grew.refl w).alloc _).below
 have g1:=zaa hbz h1
 have g2:=zaa hbz h2
 have g3:=zaa hbz h3
 have hlt:=zad h1
 have hn1 : ¬b=w.heap.size:=by intro e;simp at hlt;omega
 clear h1 h2 h3 hlt hbz
 go_enter Tryz.func113,Tryz.ntmps113
 go_wp2_with fail
 refine bodyPost_ret (v:=.agg #[.int .i64 s,.int .i64 h,.int .i64 k]) ?_ rfl ⟨((Grew.refl w).alloc _).below,rfl⟩
 obtain⟨k0,k1,k2⟩:=box3_14 w 171 s h k
 simp [results,Tryz.results113,go_sem,k0,k1,k2]
theorem zaj {X:Nat→Prop} {d:Nat} {w:World} {t:RT PT} {p:Option Addr} (h:NM X d w t p):Calls Tryz.prog 113 #[.pointer p] w (zag (t.size:Int) (t.high:Int) (t.blacks:Int) w):=by
 cases t with
 | nil=>
  have hp:p=none:=h
  subst hp
  exact measured_nil w
 | node c l x r=>
  obtain⟨b,pl,pr,ku,vu,rfl,hn,_⟩:=h
  exact measured_node b _ _ _ w hn.size hn.high hn.blacks
theorem isRed_nil (w:World):Calls Tryz.prog 254 #[.pointer none] w fun e w'=>e=.returned (.bool false)∧w'=w:=by
 go_enter Tryz.func254,Tryz.ntmps254
 go_wp2_with fail
 go_ret
 exact⟨rfl,rfl⟩
theorem zat (b:Nat) (c:Bool) (w:World) (h1:w.cell? ⟨b,10,none⟩=some (.bool c)):Calls Tryz.prog 254 #[.pointer (some ⟨b,0,none⟩)] w fun e w'=>e=.returned (.bool c)∧w'=w:=by
 go_enter Tryz.func254,Tryz.ntmps254
 go_wp2_with fail
 go_ret
 exact⟨rfl,rfl⟩
theorem isRed_14 {X:Nat→Prop} {d:Nat} {w:World} {t:RT PT} {p:Option Addr} (h:NM X d w t p):Calls Tryz.prog 254 #[.pointer p] w fun e w'=>e=.returned (.bool t.isRed)∧w'=w:=by
 cases t with
 | nil=>
  have hp:p=none:=h
  subst hp
  exact isRed_nil w
 | node c l x r=>
  obtain⟨b,pl,pr,ku,vu,rfl,hn,_⟩:=h
  exact zat b c w hn.red
def zab (X:Nat→Prop) (d:Nat) (t:RT PT) (w:World) (e:Ending) (w':World):Prop:=Below w.heap.size w w'∧∃p,e=.returned (.pointer p)∧NM X d w' t p
theorem zao:∀(t:RT PT),t.high≤t.size
 | .nil=>Nat.le_refl _
 | .node _ l x r=>by
  have hl:=zao l
  have hr:=zao r
  show 1+max l.high r.high≤l.size+1+r.size
  omega
theorem blacks_size14:∀(t:RT PT),t.blacks≤t.size
 | .nil=>Nat.le_refl _
 | .node c l x r=>by
  have hl:=blacks_size14 l
  show l.blacks+(if c then 0 else 1)≤l.size+1+r.size
  split <;> omega
theorem made_fin14 {X:Nat→Prop} {d n:Nat} {w V:World} {c:Bool} {l r:RT PT} {x:PT} {pl pr:Option Addr} {ku vu:Value} {S H K:Int} (T:Nat) (hb:Below w.heap.size w V) (HL:NM X d w l pl∧NM X d w r pr) (HK:(LiesX X d w x.1.items ku∧x.1.text.size≤9223372036854775807)∧(LiesX X d w x.2.items vu∧x.2.text.size≤9223372036854775807))
 (hn:n=V.heap.size) (hS:S=((l.size+1+r.size:Nat):Int)) (hH:H=((1+max l.high r.high:Nat):Int)) (hK:K=((l.blacks+(if c then 0 else 1):Nat):Int)) :
 zab X d (.node c l x r) w (.returned (.pointer (some ⟨n,0,none⟩))) (V.alloc (.cells #[.pointer pl,.pointer pr,.int .i64 x.1.kind,.int .i64 x.1.num,.string x.1.text,ku,.int .i64 x.2.kind,.int .i64 x.2.num,.string x.2.text,vu,.bool c,.int .i64 S,.int .i64 H,.int .i64 K] T)):=by
 subst hn hS hH hK
 have hb':=hb.alloc hb.size (.cells #[.pointer pl,.pointer pr,.int .i64 x.1.kind,.int .i64 x.1.num,.string x.1.text,ku,.int .i64 x.2.kind,.int .i64 x.2.num,.string x.2.text,vu,.bool c,.int .i64 ((l.size+1+r.size:Nat):Int),.int .i64 ((1+max l.high r.high:Nat):Int),.int .i64 ((l.blacks+(if c then 0 else 1):Nat):Int)] T)
 refine⟨hb',_,rfl,V.heap.size,pl,pr,ku,vu,rfl,?_,⟨LiesX.keeps hb' HK.1.1,HK.1.2⟩,⟨LiesX.keeps hb' HK.2.1,HK.2.2⟩,HL.1.keeps hb',HL.2.keeps hb'⟩
 constructor <;> simp [RT.size,RT.high,RT.blacks]
theorem made_red14 (X:Nat→Prop) (d:Nat) (w:World) (l r:RT PT) (x:PT) (pl pr:Option Addr) (ku vu:Value) (hl:NM X d w l pl) (hr:NM X d w r pr) (hk:LiesX X d w x.1.items ku∧x.1.text.size≤9223372036854775807) (hv:LiesX X d w x.2.items vu∧x.2.text.size≤9223372036854775807) (hs:l.size+1+r.size<4611686018427387904) :
 Calls Tryz.prog 234 #[.bool true,.pointer pl,.agg #[.int .i64 x.1.kind,.int .i64 x.1.num,.string x.1.text,ku,.int .i64 x.2.kind,.int .i64 x.2.num,.string x.2.text,vu],.pointer pr] w (zab X d (.node true l x r) w):=by
 have HM:Hid (∀V,Below w.heap.size w V→Calls Tryz.prog 113 #[.pointer pl] V (zag (l.size:Int) (l.high:Int) (l.blacks:Int) V)):=fun V hV=>zaj (hl.keeps hV)
 have HN:Hid (∀V,Below w.heap.size w V→Calls Tryz.prog 113 #[.pointer pr] V (zag (r.size:Int) (r.high:Int) (r.blacks:Int) V)):=fun V hV=>zaj (hr.keeps hV)
 go_enter Tryz.func234,Tryz.ntmps234
 go_wp2_with fail
 obtain⟨W0,hW0⟩:∃W0,W0=w.alloc (.cells #[.int .i64 x.1.kind,.int .i64 x.1.num,.string x.1.text,ku,.int .i64 x.2.kind,.int .i64 x.2.num,.string x.2.text,vu] 108):=⟨_,rfl⟩
 rw [←hW0]
 have hb0:Below w.heap.size w W0:=by rw [hW0];exact ((Grew.refl w).alloc _).below
 have x0:W0.cell? ⟨w.heap.size,0,none⟩=some (.int .i64 x.1.kind):=by rw [hW0];simp
 have x1:W0.cell? ⟨w.heap.size,1,none⟩=some (.int .i64 x.1.num):=by rw [hW0];simp
 have x2:W0.cell? ⟨w.heap.size,2,none⟩=some (.string x.1.text):=by rw [hW0];simp
 have x3:W0.cell? ⟨w.heap.size,3,none⟩=some ku:=by rw [hW0];simp
 have x4:W0.cell? ⟨w.heap.size,4,none⟩=some (.int .i64 x.2.kind):=by rw [hW0];simp
 have x5:W0.cell? ⟨w.heap.size,5,none⟩=some (.int .i64 x.2.num):=by rw [hW0];simp
 have x6:W0.cell? ⟨w.heap.size,6,none⟩=some (.string x.2.text):=by rw [hW0];simp
 have x7:W0.cell? ⟨w.heap.size,7,none⟩=some vu:=by rw [hW0];simp
 clear hW0
 refine Calls.mono (HM.out _ hb0) ?_
 rintro e w1 ⟨hg1,rfl⟩
 have hb1:Below w.heap.size w w1:=hb0.trans (hg1.mono hb0.size)
 go_wp2_with fail
 refine Calls.mono (HN.out _ hb1) ?_
 rintro e w2 ⟨hg2,rfl⟩
 have hb2:Below w.heap.size w w2:=hb1.trans (hg2.mono hb1.size)
 have hg:Below W0.heap.size W0 w2:=hg1.trans (hg2.mono hg1.size)
 have y0:=zaa hg x0
 have y1:=zaa hg x1
 have y2:=zaa hg x2
 have y3:=zaa hg x3
 have y4:=zaa hg x4
 have y5:=zaa hg x5
 have y6:=zaa hg x6
 have y7:=zaa hg x7
 have hlt:w.heap.size<w2.heap.size:=zad y0
 have hn1 : ¬w.heap.size=w2.heap.size:=by omega
 have hn2 : ¬w2.heap.size=w.heap.size:=by omega
 have Hb:Hid (Below w.heap.size w w2):=hb2
 have Hs:Hid (l.size+1+r.size<4611686018427387904):=hs
 have HL:Hid (NM X d w l pl∧NM X d w r pr):=⟨hl,hr⟩
 have HK:Hid ((LiesX X d w x.1.items ku∧x.1.text.size≤9223372036854775807)∧(LiesX X d w x.2.items vu∧x.2.text.size≤9223372036854775807)):=⟨hk,hv⟩
 obtain⟨S1,hS1⟩:∃S1,S1=l.size+1:=⟨_,rfl⟩
 obtain⟨S2,hS2⟩:∃S2,S2=S1+r.size:=⟨_,rfl⟩
 have e1:IntKind.i64.wrap ((l.size:Int)+1)=(S1:Int):=by rw [IntKind.wrap_i64];omega
 have e2:IntKind.i64.wrap ((S1:Int)+(r.size:Int))=(S2:Int):=by rw [IntKind.wrap_i64];omega
 obtain⟨HA,hHA⟩:∃HA,HA=1+l.high:=⟨_,rfl⟩
 obtain⟨HB,hHB⟩:∃HB,HB=1+r.high:=⟨_,rfl⟩
 have q1:=zao l
 have q2:=zao r
 have e3:IntKind.i64.wrap (1+(l.high:Int))=(HA:Int):=by rw [IntKind.wrap_i64];omega
 have e4:IntKind.i64.wrap (1+(r.high:Int))=(HB:Int):=by rw [IntKind.wrap_i64];omega
 have HHA:Hid (HA=1+l.high):=hHA
 have HHB:Hid (HB=1+r.high):=hHB
 clear q1 q2 hHA hHB
 have HS:Hid (S2=l.size+1+r.size):=by show _=_;omega
 have z0:∀A B C,(((w2.alloc A).alloc B).alloc C).cell? ⟨w.heap.size,0,none⟩=some (.int .i64 x.1.kind):=fun A B C=>zaa ((((Grew.refl w2).alloc A).alloc B).alloc C).below y0
 have z1:∀A B C,(((w2.alloc A).alloc B).alloc C).cell? ⟨w.heap.size,1,none⟩=some (.int .i64 x.1.num):=fun A B C=>zaa ((((Grew.refl w2).alloc A).alloc B).alloc C).below y1
 have z2:∀A B C,(((w2.alloc A).alloc B).alloc C).cell? ⟨w.heap.size,2,none⟩=some (.string x.1.text):=fun A B C=>zaa ((((Grew.refl w2).alloc A).alloc B).alloc C).below y2
 have z3:∀A B C,(((w2.alloc A).alloc B).alloc C).cell? ⟨w.heap.size,3,none⟩=some ku:=fun A B C=>zaa ((((Grew.refl w2).alloc A).alloc B).alloc C).below y3
 have z4:∀A B C,(((w2.alloc A).alloc B).alloc C).cell? ⟨w.heap.size,4,none⟩=some (.int .i64 x.2.kind):=fun A B C=>zaa ((((Grew.refl w2).alloc A).alloc B).alloc C).below y4
 have z5:∀A B C,(((w2.alloc A).alloc B).alloc C).cell? ⟨w.heap.size,5,none⟩=some (.int .i64 x.2.num):=fun A B C=>zaa ((((Grew.refl w2).alloc A).alloc B).alloc C).below y5
 have z6:∀A B C,(((w2.alloc A).alloc B).alloc C).cell? ⟨w.heap.size,6,none⟩=some (.string x.2.text):=fun A B C=>zaa ((((Grew.refl w2).alloc A).alloc B).alloc C).below y6
 have z7:∀A B C,(((w2.alloc A).alloc B).alloc C).cell? ⟨w.heap.size,7,none⟩=some vu:=fun A B C=>zaa ((((Grew.refl w2).alloc A).alloc B).alloc C).below y7
 clear y0 y1 y2 y3 y4 y5 y6 y7
 clear hg1 hg2 hg hb0 hb1 hb2 x0 x1 x2 x3 x4 x5 x6 x7 hl hr hk hv hs HM HN hlt hS1 hS2
 go_wp2_with fail
 all_goals go_ret
 all_goals have q1:=HS.out
 all_goals have q2:=HHA.out
 all_goals have q3:=HHB.out
 all_goals refine made_fin14 _ (((Hb.out.alloc Hb.out.size _).alloc (Hb.out.alloc Hb.out.size _).size _).alloc ((Hb.out.alloc Hb.out.size _).alloc (Hb.out.alloc Hb.out.size _).size _).size _) HL.out HK.out (by simp) (by omega) ?_ (by simp)
 all_goals (have q4:=zao l;have q5:=zao r;have q6:=Hs.out;clear e1 e2 e3 e4;unfold wrap64;omega)
theorem made_black14 (X:Nat→Prop) (d:Nat) (w:World) (l r:RT PT) (x:PT) (pl pr:Option Addr) (ku vu:Value) (hl:NM X d w l pl) (hr:NM X d w r pr) (hk:LiesX X d w x.1.items ku∧x.1.text.size≤9223372036854775807) (hv:LiesX X d w x.2.items vu∧x.2.text.size≤9223372036854775807) (hs:l.size+1+r.size<4611686018427387904) :
 Calls Tryz.prog 234 #[.bool false,.pointer pl,.agg #[.int .i64 x.1.kind,.int .i64 x.1.num,.string x.1.text,ku,.int .i64 x.2.kind,.int .i64 x.2.num,.string x.2.text,vu],.pointer pr] w (zab X d (.node false l x r) w):=by
 have HM:Hid (∀V,Below w.heap.size w V→Calls Tryz.prog 113 #[.pointer pl] V (zag (l.size:Int) (l.high:Int) (l.blacks:Int) V)):=fun V hV=>zaj (hl.keeps hV)
 have HN:Hid (∀V,Below w.heap.size w V→Calls Tryz.prog 113 #[.pointer pr] V (zag (r.size:Int) (r.high:Int) (r.blacks:Int) V)):=fun V hV=>zaj (hr.keeps hV)
 go_enter Tryz.func234,Tryz.ntmps234
 go_wp2_with fail
 obtain⟨W0,hW0⟩:∃W0,W0=w.alloc (.cells #[.int .i64 x.1.kind,.int .i64 x.1.num,.string x.1.text,ku,.int .i64 x.2.kind,.int .i64 x.2.num,.string x.2.text,vu] 108):=⟨_,rfl⟩
 rw [←hW0]
 have hb0:Below w.heap.size w W0:=by rw [hW0];exact ((Grew.refl w).alloc _).below
 have x0:W0.cell? ⟨w.heap.size,0,none⟩=some (.int .i64 x.1.kind):=by rw [hW0];simp
 have x1:W0.cell? ⟨w.heap.size,1,none⟩=some (.int .i64 x.1.num):=by rw [hW0];simp
 have x2:W0.cell? ⟨w.heap.size,2,none⟩=some (.string x.1.text):=by rw [hW0];simp
 have x3:W0.cell? ⟨w.heap.size,3,none⟩=some ku:=by rw [hW0];simp
 have x4:W0.cell? ⟨w.heap.size,4,none⟩=some (.int .i64 x.2.kind):=by rw [hW0];simp
 have x5:W0.cell? ⟨w.heap.size,5,none⟩=some (.int .i64 x.2.num):=by rw [hW0];simp
 have x6:W0.cell? ⟨w.heap.size,6,none⟩=some (.string x.2.text):=by rw [hW0];simp
 have x7:W0.cell? ⟨w.heap.size,7,none⟩=some vu:=by rw [hW0];simp
 clear hW0
 refine Calls.mono (HM.out _ hb0) ?_
 rintro e w1 ⟨hg1,rfl⟩
 have hb1:Below w.heap.size w w1:=hb0.trans (hg1.mono hb0.size)
 go_wp2_with fail
 refine Calls.mono (HN.out _ hb1) ?_
 rintro e w2 ⟨hg2,rfl⟩
 have hb2:Below w.heap.size w w2:=hb1.trans (hg2.mono hb1.size)
 have hg:Below W0.heap.size W0 w2:=hg1.trans (hg2.mono hg1.size)
 have y0:=zaa hg x0
 have y1:=zaa hg x1
 have y2:=zaa hg x2
 have y3:=zaa hg x3
 have y4:=zaa hg x4
 have y5:=zaa hg x5
 have y6:=zaa hg x6
 have y7:=zaa hg x7
 have hlt:w.heap.size<w2.heap.size:=zad y0
 have hn1 : ¬w.heap.size=w2.heap.size:=by omega
 have hn2 : ¬w2.heap.size=w.heap.size:=by omega
 have Hb:Hid (Below w.heap.size w w2):=hb2
 have Hs:Hid (l.size+1+r.size<4611686018427387904):=hs
 have HL:Hid (NM X d w l pl∧NM X d w r pr):=⟨hl,hr⟩
 have HK:Hid ((LiesX X d w x.1.items ku∧x.1.text.size≤9223372036854775807)∧(LiesX X d w x.2.items vu∧x.2.text.size≤9223372036854775807)):=⟨hk,hv⟩
 obtain⟨S1,hS1⟩:∃S1,S1=l.size+1:=⟨_,rfl⟩
 obtain⟨S2,hS2⟩:∃S2,S2=S1+r.size:=⟨_,rfl⟩
 have e1:IntKind.i64.wrap ((l.size:Int)+1)=(S1:Int):=by rw [IntKind.wrap_i64];omega
 have e2:IntKind.i64.wrap ((S1:Int)+(r.size:Int))=(S2:Int):=by rw [IntKind.wrap_i64];omega
 obtain⟨HA,hHA⟩:∃HA,HA=1+l.high:=⟨_,rfl⟩
 obtain⟨HB,hHB⟩:∃HB,HB=1+r.high:=⟨_,rfl⟩
 have q1:=zao l
 have q2:=zao r
 have e3:IntKind.i64.wrap (1+(l.high:Int))=(HA:Int):=by rw [IntKind.wrap_i64];omega
 have e4:IntKind.i64.wrap (1+(r.high:Int))=(HB:Int):=by rw [IntKind.wrap_i64];omega
 have HHA:Hid (HA=1+l.high):=hHA
 have HHB:Hid (HB=1+r.high):=hHB
 clear q1 q2 hHA hHB
 have HS:Hid (S2=l.size+1+r.size):=by show _=_;omega
 have z0:∀A B C,(((w2.alloc A).alloc B).alloc C).cell? ⟨w.heap.size,0,none⟩=some (.int .i64 x.1.kind):=fun A B C=>zaa ((((Grew.refl w2).alloc A).alloc B).alloc C).below y0
 have z1:∀A B C,(((w2.alloc A).alloc B).alloc C).cell? ⟨w.heap.size,1,none⟩=some (.int .i64 x.1.num):=fun A B C=>zaa ((((Grew.refl w2).alloc A).alloc B).alloc C).below y1
 have z2:∀A B C,(((w2.alloc A).alloc B).alloc C).cell? ⟨w.heap.size,2,none⟩=some (.string x.1.text):=fun A B C=>zaa ((((Grew.refl w2).alloc A).alloc B).alloc C).below y2
 have z3:∀A B C,(((w2.alloc A).alloc B).alloc C).cell? ⟨w.heap.size,3,none⟩=some ku:=fun A B C=>zaa ((((Grew.refl w2).alloc A).alloc B).alloc C).below y3
 have z4:∀A B C,(((w2.alloc A).alloc B).alloc C).cell? ⟨w.heap.size,4,none⟩=some (.int .i64 x.2.kind):=fun A B C=>zaa ((((Grew.refl w2).alloc A).alloc B).alloc C).below y4
 have z5:∀A B C,(((w2.alloc A).alloc B).alloc C).cell? ⟨w.heap.size,5,none⟩=some (.int .i64 x.2.num):=fun A B C=>zaa ((((Grew.refl w2).alloc A).alloc B).alloc C).below y5
 have z6:∀A B C,(((w2.alloc A).alloc B).alloc C).cell? ⟨w.heap.size,6,none⟩=some (.string x.2.text):=fun A B C=>zaa ((((Grew.refl w2).alloc A).alloc B).alloc C).below y6
 have z7:∀A B C,(((w2.alloc A).alloc B).alloc C).cell? ⟨w.heap.size,7,none⟩=some vu:=fun A B C=>zaa ((((Grew.refl w2).alloc A).alloc B).alloc C).below y7
 clear y0 y1 y2 y3 y4 y5 y6 y7
 clear hg1 hg2 hg hb0 hb1 hb2 x0 x1 x2 x3 x4 x5 x6 x7 hl hr hk hv hs HM HN hlt hS1 hS2
 go_wp2_with fail
 all_goals go_ret
 all_goals have q1:=HS.out
 all_goals have q2:=HHA.out
 all_goals have q3:=HHB.out
 all_goals refine made_fin14 _ (((Hb.out.alloc Hb.out.size _).alloc (Hb.out.alloc Hb.out.size _).size _).alloc ((Hb.out.alloc Hb.out.size _).alloc (Hb.out.alloc Hb.out.size _).size _).size _) HL.out HK.out (by simp) (by omega) ?_ ?_
 all_goals (have q4:=zao l;have q5:=zao r;have q6:=Hs.out;have q7:=blacks_size14 l;clear e1 e2 e3 e4;(try simp only [Bool.false_eq_true,if_false]);unfold wrap64;omega)
theorem made_14 (X:Nat→Prop) (d:Nat) (w:World) (c:Bool) (l r:RT PT) (x:PT) (pl pr:Option Addr) (ku vu:Value) (hl:NM X d w l pl) (hr:NM X d w r pr) (hk:LiesX X d w x.1.items ku∧x.1.text.size≤9223372036854775807) (hv:LiesX X d w x.2.items vu∧x.2.text.size≤9223372036854775807) (hs:l.size+1+r.size<4611686018427387904) :
 Calls Tryz.prog 234 #[.bool c,.pointer pl,.agg #[.int .i64 x.1.kind,.int .i64 x.1.num,.string x.1.text,ku,.int .i64 x.2.kind,.int .i64 x.2.num,.string x.2.text,vu],.pointer pr] w (zab X d (.node c l x r) w):=by
 cases c
 ·exact made_black14 X d w l r x pl pr ku vu hl hr hk hv hs
 ·exact made_red14 X d w l r x pl pr ku vu hl hr hk hv hs
theorem black_not14 (w:World) (p:Option Addr) (h:Calls Tryz.prog 254 #[.pointer p] w fun e w'=>e=.returned (.bool false)∧w'=w):Calls Tryz.prog 200 #[.pointer p] w fun e w'=>e=.returned (.pointer p)∧w'=w:=by
 go_enter Tryz.func200,Tryz.ntmps200
 go_wp2_with fail
 refine Calls.mono h ?_
 rintro e w1 ⟨rfl,rfl⟩
 go_wp2_with fail
 go_ret
 exact⟨rfl,rfl⟩
theorem black_red14 (X:Nat→Prop) (d:Nat) (w:World) (l r:RT PT) (x:PT) (b:Nat) (pl pr:Option Addr) (ku vu:Value) (hn:NCells w b pl pr x ku vu true (RT.size (.node true l x r)) (RT.high (.node true l x r)) (RT.blacks (.node true l x r)))
 (hm:∀V,Below w.heap.size w V→Calls Tryz.prog 234 #[.bool false,.pointer pl,.agg #[.int .i64 x.1.kind,.int .i64 x.1.num,.string x.1.text,ku,.int .i64 x.2.kind,.int .i64 x.2.num,.string x.2.text,vu],.pointer pr] V (zab X d (.node false l x r) V)) :
 Calls Tryz.prog 200 #[.pointer (some ⟨b,0,none⟩)] w (zab X d (.node false l x r) w):=by
 have HR:Hid _:=zat b true w hn.red
 obtain⟨c0,c1,c2,c3,c4,c5,c6,c7,c8,c9,_,_,_,_⟩:=hn
 have HM:Hid _:=hm
 clear hm
 go_enter Tryz.func200,Tryz.ntmps200
 go_wp2_with fail
 refine Calls.mono HR.out ?_
 rintro e w1 ⟨rfl,rfl⟩
 clear HR
 go_wp2_with fail
 go_region_held3 (fun w'=>w'.cell? ⟨b,0,none⟩=some (.pointer pl)∧w'.cell? ⟨b,1,none⟩=some (.pointer pr)∧w'.cell? ⟨b,2,none⟩=some (.int .i64 x.1.kind)∧w'.cell? ⟨b,3,none⟩=some (.int .i64 x.1.num)∧w'.cell? ⟨b,4,none⟩=some (.string x.1.text)∧w'.cell? ⟨b,5,none⟩=some (ku)∧w'.cell? ⟨b,6,none⟩=some (.int .i64 x.2.kind)∧w'.cell? ⟨b,7,none⟩=some (.int .i64 x.2.num)∧w'.cell? ⟨b,8,none⟩=some (.string x.2.text)∧w'.cell? ⟨b,9,none⟩=some (vu)) (go_keep)
  (first|(go_at_call 234;refine (HM.out _ (Below.refl _ _).drew).mono ?_;rintro e w2 ⟨hb,p,rfl,ht⟩;have HE:Hid (zab X d (.node false l x r) w1 (.returned (.pointer p)) w2):=⟨(Below.refl _ _).drew.trans hb,p,rfl,ht⟩;have hbZ:Below w1.heap.size w1 w2:=(Below.refl _ _).drew.trans hb;have c0:=zaa hbZ c0;have c1:=zaa hbZ c1;have c2:=zaa hbZ c2;have c3:=zaa hbZ c3;have c4:=zaa hbZ c4;have c5:=zaa hbZ c5;have c6:=zaa hbZ c6;have c7:=zaa hbZ c7;have c8:=zaa hbZ c8;have c9:=zaa hbZ c9;clear HM hb ht))
 all_goals (first|(go_ret;exact HE.out)|(go_wp2_with fail;go_ret;exact HE.out))
theorem black_14 {X:Nat→Prop} {d:Nat} {w:World} {t:RT PT} {p:Option Addr} (h:NM X d w t p) (hs:t.size<4611686018427387904):Calls Tryz.prog 200 #[.pointer p] w (zab X d t.black w):=by
 cases t with
 | nil=>
  refine Calls.mono (black_not14 w p (isRed_14 h)) ?_
  rintro e w' ⟨rfl,rfl⟩
  exact⟨Below.refl _ _,p,rfl,h⟩
 | node c l x r=>
  cases c with
  | false=>
   refine Calls.mono (black_not14 w p (isRed_14 h)) ?_
   rintro e w' ⟨rfl,rfl⟩
   exact⟨Below.refl _ _,p,rfl,h⟩
  | true=>
   obtain⟨b,pl,pr,ku,vu,rfl,hn,hk,hv,hl,hr⟩:=h
   exact black_red14 X d w l r x b pl pr ku vu hn fun V hV=>made_14 X d V false l r x pl pr ku vu (hl.keeps hV) (hr.keeps hV) ⟨LiesX.keeps hV hk.1,hk.2⟩ ⟨LiesX.keeps hV hv.1,hv.2⟩ hs
theorem zah (s h k:Int) (W:World):(Instr.field 171 (.agg #[.int .i64 s,.int .i64 h,.int .i64 k]) 2).run Tryz.prog W=.ok (.int .i64 k) W:=by
 kernel_rfl
theorem hungR_here (X:Nat→Prop) (d:Nat) (w:World) (l r:RT PT) (x:PT) (pl pr:Option Addr) (ku vu:Value) (hl:NM X d w l pl) (hr:NM X d w r pr) (hk:LiesX X d w x.1.items ku∧x.1.text.size≤9223372036854775807) (hv:LiesX X d w x.2.items vu∧x.2.text.size≤9223372036854775807) (hs:l.size+1+r.size<4611686018427387904) (h1:l.isRed=false) (h2:l.blacks=r.blacks) :
 Calls Tryz.prog 256 #[.pointer pl,.agg #[.int .i64 x.1.kind,.int .i64 x.1.num,.string x.1.text,ku,.int .i64 x.2.kind,.int .i64 x.2.num,.string x.2.text,vu],.pointer pr] w (zab X d (.node true l x r) w):=by
 have HR:Hid (∀V,Below w.heap.size w V→Calls Tryz.prog 254 #[.pointer pl] V fun e w'=>e=.returned (.bool false)∧w'=V):=fun V hV=>by rw [←h1];exact isRed_14 (hl.keeps hV)
 have HM:Hid (∀V,Below w.heap.size w V→Calls Tryz.prog 113 #[.pointer pl] V (zag (l.size:Int) (l.high:Int) (l.blacks:Int) V)):=fun V hV=>zaj (hl.keeps hV)
 have HN:Hid (∀V,Below w.heap.size w V→Calls Tryz.prog 113 #[.pointer pr] V (zag (r.size:Int) (r.high:Int) (l.blacks:Int) V)):=fun V hV=>by rw [h2];exact zaj (hr.keeps hV)
 have HD:Hid (∀V,Below w.heap.size w V→Calls Tryz.prog 234 #[.bool true,.pointer pl,.agg #[.int .i64 x.1.kind,.int .i64 x.1.num,.string x.1.text,ku,.int .i64 x.2.kind,.int .i64 x.2.num,.string x.2.text,vu],.pointer pr] V (zab X d (.node true l x r) V)):=
  fun V hV=>made_14 X d V true l r x pl pr ku vu (hl.keeps hV) (hr.keeps hV) ⟨LiesX.keeps hV hk.1,hk.2⟩ ⟨LiesX.keeps hV hv.1,hv.2⟩ hs
 clear hl hr hk hv hs h1 h2
 go_enter Tryz.func256,Tryz.ntmps256
 go_wp2_with fail
 refine (HR.out _ (by first|exact Below.refl _ _|exact ((Grew.refl w).alloc _).below)).mono ?_
 rintro e w1 ⟨rfl,rfl⟩
 go_wp2_with fail
 obtain⟨W0,hW0⟩:∃W0,W0=w.alloc (.cells #[.int .i64 x.1.kind,.int .i64 x.1.num,.string x.1.text,ku,.int .i64 x.2.kind,.int .i64 x.2.num,.string x.2.text,vu] 108):=⟨_,rfl⟩
 rw [←hW0]
 have hb0:Below w.heap.size w W0:=by rw [hW0];exact ((Grew.refl w).alloc _).below
 have x0:W0.cell? ⟨w.heap.size,0,none⟩=some (.int .i64 x.1.kind):=by rw [hW0];simp
 have x1:W0.cell? ⟨w.heap.size,1,none⟩=some (.int .i64 x.1.num):=by rw [hW0];simp
 have x2:W0.cell? ⟨w.heap.size,2,none⟩=some (.string x.1.text):=by rw [hW0];simp
 have x3:W0.cell? ⟨w.heap.size,3,none⟩=some ku:=by rw [hW0];simp
 have x4:W0.cell? ⟨w.heap.size,4,none⟩=some (.int .i64 x.2.kind):=by rw [hW0];simp
 have x5:W0.cell? ⟨w.heap.size,5,none⟩=some (.int .i64 x.2.num):=by rw [hW0];simp
 have x6:W0.cell? ⟨w.heap.size,6,none⟩=some (.string x.2.text):=by rw [hW0];simp
 have x7:W0.cell? ⟨w.heap.size,7,none⟩=some vu:=by rw [hW0];simp
 clear hW0
 refine (HM.out _ hb0).mono ?_
 rintro e w1 ⟨hg1,rfl⟩
 have hb1:Below w.heap.size w w1:=hb0.trans (hg1.mono hb0.size)
 have x0:=zaa hg1 x0
 have x1:=zaa hg1 x1
 have x2:=zaa hg1 x2
 have x3:=zaa hg1 x3
 have x4:=zaa hg1 x4
 have x5:=zaa hg1 x5
 have x6:=zaa hg1 x6
 have x7:=zaa hg1 x7
 have hf1:∀W:World,(Instr.field 171 (.agg #[.int .i64 l.size,.int .i64 l.high,.int .i64 l.blacks]) 2).run Tryz.prog W=.ok (.int .i64 l.blacks) W:=fun W=>zah _ _ _ W
 have hf2:∀W:World,(Instr.field 171 (.agg #[.int .i64 r.size,.int .i64 r.high,.int .i64 l.blacks]) 2).run Tryz.prog W=.ok (.int .i64 l.blacks) W:=fun W=>zah _ _ _ W
 clear hg1 hb0
 go_wp2_with fail
 refine (HN.out _ (by first|exact hb1|exact hb1.alloc hb1.size _)).mono ?_
 rintro e w2 ⟨hg2,rfl⟩
 have hb2:Below w.heap.size w w2:=by first|exact hb1.trans (hg2.mono hb1.size)|exact (hb1.alloc hb1.size _).trans (hg2.mono (hb1.alloc hb1.size _).size)
 have x0:=zaa hg2 (by first|exact x0|exact zaa ((Grew.refl w1).alloc _).below x0)
 have x1:=zaa hg2 (by first|exact x1|exact zaa ((Grew.refl w1).alloc _).below x1)
 have x2:=zaa hg2 (by first|exact x2|exact zaa ((Grew.refl w1).alloc _).below x2)
 have x3:=zaa hg2 (by first|exact x3|exact zaa ((Grew.refl w1).alloc _).below x3)
 have x4:=zaa hg2 (by first|exact x4|exact zaa ((Grew.refl w1).alloc _).below x4)
 have x5:=zaa hg2 (by first|exact x5|exact zaa ((Grew.refl w1).alloc _).below x5)
 have x6:=zaa hg2 (by first|exact x6|exact zaa ((Grew.refl w1).alloc _).below x6)
 have x7:=zaa hg2 (by first|exact x7|exact zaa ((Grew.refl w1).alloc _).below x7)
 clear hg2 hb1 HM HN HR
 go_wp2_with fail
 refine (HD.out _ hb2).mono ?_
 rintro e w3 ⟨hg3,p,rfl,ht⟩
 have HE:Hid (zab X d (.node true l x r) w (.returned (.pointer p)) w3):=⟨hb2.trans (hg3.mono hb2.size),p,rfl,ht⟩
 clear HD hg3 hb2 ht
 go_wp2_with fail
 go_ret
 exact HE.out
theorem hungL_here (X:Nat→Prop) (d:Nat) (w:World) (l r:RT PT) (x:PT) (pl pr:Option Addr) (ku vu:Value) (hl:NM X d w l pl) (hr:NM X d w r pr) (hk:LiesX X d w x.1.items ku∧x.1.text.size≤9223372036854775807) (hv:LiesX X d w x.2.items vu∧x.2.text.size≤9223372036854775807) (hs:l.size+1+r.size<4611686018427387904) (h1:r.isRed=false) (h2:l.blacks=r.blacks) :
 Calls Tryz.prog 257 #[.pointer pl,.agg #[.int .i64 x.1.kind,.int .i64 x.1.num,.string x.1.text,ku,.int .i64 x.2.kind,.int .i64 x.2.num,.string x.2.text,vu],.pointer pr] w (zab X d (.node true l x r) w):=by
 have HR:Hid (∀V,Below w.heap.size w V→Calls Tryz.prog 254 #[.pointer pr] V fun e w'=>e=.returned (.bool false)∧w'=V):=fun V hV=>by rw [←h1];exact isRed_14 (hr.keeps hV)
 have HM:Hid (∀V,Below w.heap.size w V→Calls Tryz.prog 113 #[.pointer pl] V (zag (l.size:Int) (l.high:Int) (l.blacks:Int) V)):=fun V hV=>zaj (hl.keeps hV)
 have HN:Hid (∀V,Below w.heap.size w V→Calls Tryz.prog 113 #[.pointer pr] V (zag (r.size:Int) (r.high:Int) (l.blacks:Int) V)):=fun V hV=>by rw [h2];exact zaj (hr.keeps hV)
 have HD:Hid (∀V,Below w.heap.size w V→Calls Tryz.prog 234 #[.bool true,.pointer pl,.agg #[.int .i64 x.1.kind,.int .i64 x.1.num,.string x.1.text,ku,.int .i64 x.2.kind,.int .i64 x.2.num,.string x.2.text,vu],.pointer pr] V (zab X d (.node true l x r) V)):=
  fun V hV=>made_14 X d V true l r x pl pr ku vu (hl.keeps hV) (hr.keeps hV) ⟨LiesX.keeps hV hk.1,hk.2⟩ ⟨LiesX.keeps hV hv.1,hv.2⟩ hs
 clear hl hr hk hv hs h1 h2
 go_enter Tryz.func257,Tryz.ntmps257
 go_wp2_with fail
 refine (HR.out _ (by first|exact Below.refl _ _|exact ((Grew.refl w).alloc _).below)).mono ?_
 rintro e w1 ⟨rfl,rfl⟩
 go_wp2_with fail
 obtain⟨W0,hW0⟩:∃W0,W0=w.alloc (.cells #[.int .i64 x.1.kind,.int .i64 x.1.num,.string x.1.text,ku,.int .i64 x.2.kind,.int .i64 x.2.num,.string x.2.text,vu] 108):=⟨_,rfl⟩
 rw [←hW0]
 have hb0:Below w.heap.size w W0:=by rw [hW0];exact ((Grew.refl w).alloc _).below
 have x0:W0.cell? ⟨w.heap.size,0,none⟩=some (.int .i64 x.1.kind):=by rw [hW0];simp
 have x1:W0.cell? ⟨w.heap.size,1,none⟩=some (.int .i64 x.1.num):=by rw [hW0];simp
 have x2:W0.cell? ⟨w.heap.size,2,none⟩=some (.string x.1.text):=by rw [hW0];simp
 have x3:W0.cell? ⟨w.heap.size,3,none⟩=some ku:=by rw [hW0];simp
 have x4:W0.cell? ⟨w.heap.size,4,none⟩=some (.int .i64 x.2.kind):=by rw [hW0];simp
 have x5:W0.cell? ⟨w.heap.size,5,none⟩=some (.int .i64 x.2.num):=by rw [hW0];simp
 have x6:W0.cell? ⟨w.heap.size,6,none⟩=some (.string x.2.text):=by rw [hW0];simp
 have x7:W0.cell? ⟨w.heap.size,7,none⟩=some vu:=by rw [hW0];simp
 clear hW0
 refine (HM.out _ hb0).mono ?_
 rintro e w1 ⟨hg1,rfl⟩
 have hb1:Below w.heap.size w w1:=hb0.trans (hg1.mono hb0.size)
 have x0:=zaa hg1 x0
 have x1:=zaa hg1 x1
 have x2:=zaa hg1 x2
 have x3:=zaa hg1 x3
 have x4:=zaa hg1 x4
 have x5:=zaa hg1 x5
 have x6:=zaa hg1 x6
 have x7:=zaa hg1 x7
 have hf1:∀W:World,(Instr.field 171 (.agg #[.int .i64 l.size,.int .i64 l.high,.int .i64 l.blacks]) 2).run Tryz.prog W=.ok (.int .i64 l.blacks) W:=fun W=>zah _ _ _ W
 have hf2:∀W:World,(Instr.field 171 (.agg #[.int .i64 r.size,.int .i64 r.high,.int .i64 l.blacks]) 2).run Tryz.prog W=.ok (.int .i64 l.blacks) W:=fun W=>zah _ _ _ W
 clear hg1 hb0
 go_wp2_with fail
 refine (HN.out _ (by first|exact hb1|exact hb1.alloc hb1.size _)).mono ?_
 rintro e w2 ⟨hg2,rfl⟩
 have hb2:Below w.heap.size w w2:=by first|exact hb1.trans (hg2.mono hb1.size)|exact (hb1.alloc hb1.size _).trans (hg2.mono (hb1.alloc hb1.size _).size)
 have x0:=zaa hg2 (by first|exact x0|exact zaa ((Grew.refl w1).alloc _).below x0)
 have x1:=zaa hg2 (by first|exact x1|exact zaa ((Grew.refl w1).alloc _).below x1)
 have x2:=zaa hg2 (by first|exact x2|exact zaa ((Grew.refl w1).alloc _).below x2)
 have x3:=zaa hg2 (by first|exact x3|exact zaa ((Grew.refl w1).alloc _).below x3)
 have x4:=zaa hg2 (by first|exact x4|exact zaa ((Grew.refl w1).alloc _).below x4)
 have x5:=zaa hg2 (by first|exact x5|exact zaa ((Grew.refl w1).alloc _).below x5)
 have x6:=zaa hg2 (by first|exact x6|exact zaa ((Grew.refl w1).alloc _).below x6)
 have x7:=zaa hg2 (by first|exact x7|exact zaa ((Grew.refl w1).alloc _).below x7)
 clear hg2 hb1 HM HN HR
 go_wp2_with fail
 refine (HD.out _ hb2).mono ?_
 rintro e w3 ⟨hg3,p,rfl,ht⟩
 have HE:Hid (zab X d (.node true l x r) w (.returned (.pointer p)) w3):=⟨hb2.trans (hg3.mono hb2.size),p,rfl,ht⟩
 clear HD hg3 hb2 ht
 go_wp2_with fail
 go_ret
 exact HE.out
theorem hungR_red (X:Nat→Prop) (d:Nat) (w:World) (o el er:RT PT) (x y ex:PT) (b:Nat) (pa pi q:Option Addr) (ku vu ku2 vu2:Value) (S H K:Nat) (ec:Bool)
 (hn:NCells w b pa pi y ku2 vu2 true S H K)
 (hi:∀V,Below w.heap.size w V→Calls Tryz.prog 256 #[.pointer (pi),.agg #[.int .i64 x.1.kind,.int .i64 x.1.num,.string x.1.text,ku,.int .i64 x.2.kind,.int .i64 x.2.num,.string x.2.text,vu],.pointer q] V (zab X d (.node ec el ex er) V))
 (hd:∀V pe,Below w.heap.size w V→NM X d V (.node ec el ex er) pe→Calls Tryz.prog 234 #[.bool true,.pointer pa,.agg #[.int .i64 y.1.kind,.int .i64 y.1.num,.string y.1.text,ku2,.int .i64 y.2.kind,.int .i64 y.2.num,.string y.2.text,vu2],.pointer pe] V (zab X d (.node true o y (.node ec el ex er)) V)) :
 Calls Tryz.prog 256 #[.pointer (some ⟨b,0,none⟩),.agg #[.int .i64 x.1.kind,.int .i64 x.1.num,.string x.1.text,ku,.int .i64 x.2.kind,.int .i64 x.2.num,.string x.2.text,vu],.pointer q] w (zab X d (.node true o y (.node ec el ex er)) w):=by
 have HR:Hid (∀V,Below w.heap.size w V→Calls Tryz.prog 254 #[.pointer (some ⟨b,0,none⟩)] V fun e w'=>e=.returned (.bool true)∧w'=V):=fun V hV=>zat b true V (hn.keeps hV).red
 have HI:Hid _:=hi
 have HD:Hid _:=hd
 have HN:Hid (NCells w b pa pi y ku2 vu2 true S H K):=hn
 obtain⟨c0,c1,c2,c3,c4,c5,c6,c7,c8,c9,c10,_,_,_⟩:=hn
 have hbl:=zad c0;simp only at hbl;have hbne : ¬b=w.heap.size:=by omega
 clear hi hd
 go_enter Tryz.func256,Tryz.ntmps256
 go_wp2_with fail
 refine (HR.out _ (by first|exact Below.refl _ _|exact ((Grew.refl w).alloc _).below)).mono ?_
 rintro e w1 ⟨rfl,rfl⟩
 obtain⟨W0,hW0⟩:∃W0,W0=w.alloc (.cells #[.int .i64 x.1.kind,.int .i64 x.1.num,.string x.1.text,ku,.int .i64 x.2.kind,.int .i64 x.2.num,.string x.2.text,vu] 108):=⟨_,rfl⟩
 rw [←hW0]
 have hb0:Below w.heap.size w W0:=by rw [hW0];exact ((Grew.refl w).alloc _).below
 have x0:W0.cell? ⟨w.heap.size,0,none⟩=some (.int .i64 x.1.kind):=by rw [hW0];simp
 have x1:W0.cell? ⟨w.heap.size,1,none⟩=some (.int .i64 x.1.num):=by rw [hW0];simp
 have x2:W0.cell? ⟨w.heap.size,2,none⟩=some (.string x.1.text):=by rw [hW0];simp
 have x3:W0.cell? ⟨w.heap.size,3,none⟩=some (ku):=by rw [hW0];simp
 have x4:W0.cell? ⟨w.heap.size,4,none⟩=some (.int .i64 x.2.kind):=by rw [hW0];simp
 have x5:W0.cell? ⟨w.heap.size,5,none⟩=some (.int .i64 x.2.num):=by rw [hW0];simp
 have x6:W0.cell? ⟨w.heap.size,6,none⟩=some (.string x.2.text):=by rw [hW0];simp
 have x7:W0.cell? ⟨w.heap.size,7,none⟩=some (vu):=by rw [hW0];simp
 clear hW0 HR
 have c0:=zaa hb0 c0;have c1:=zaa hb0 c1;have c2:=zaa hb0 c2;have c3:=zaa hb0 c3;have c4:=zaa hb0 c4;have c5:=zaa hb0 c5;have c6:=zaa hb0 c6;have c7:=zaa hb0 c7;have c8:=zaa hb0 c8;have c9:=zaa hb0 c9;have c10:=zaa hb0 c10
 have hb2:=hb0
 go_wp2_with fail
 go_region_held3 (fun w'=>w'.cell? ⟨b,1,none⟩=some (.pointer pi)∧w'.cell? ⟨w.heap.size,0,none⟩=some (.int .i64 x.1.kind)∧w'.cell? ⟨w.heap.size,1,none⟩=some (.int .i64 x.1.num)∧w'.cell? ⟨w.heap.size,2,none⟩=some (.string x.1.text)∧w'.cell? ⟨w.heap.size,3,none⟩=some (ku)∧w'.cell? ⟨w.heap.size,4,none⟩=some (.int .i64 x.2.kind)∧w'.cell? ⟨w.heap.size,5,none⟩=some (.int .i64 x.2.num)∧w'.cell? ⟨w.heap.size,6,none⟩=some (.string x.2.text)∧w'.cell? ⟨w.heap.size,7,none⟩=some (vu)) (go_keep) (first|(go_at_call 256;refine (HI.out _ hb2.drew).mono ?_;rintro e w3 ⟨hg3,pe,rfl,ht⟩;have hb3:Below w.heap.size w w3:=hb2.drew.trans (hg3.mono hb2.drew.size);have hg3:Below W0.heap.size W0 w3:=(Below.refl _ _).drew.trans hg3;have c0:=zaa hg3 c0;have c1:=zaa hg3 c1;have c2:=zaa hg3 c2;have c3:=zaa hg3 c3;have c4:=zaa hg3 c4;have c5:=zaa hg3 c5;have c6:=zaa hg3 c6;have c7:=zaa hg3 c7;have c8:=zaa hg3 c8;have c9:=zaa hg3 c9;have c10:=zaa hg3 c10;have x0:=zaa hg3 x0;have x1:=zaa hg3 x1;have x2:=zaa hg3 x2;have x3:=zaa hg3 x3;have x4:=zaa hg3 x4;have x5:=zaa hg3 x5;have x6:=zaa hg3 x6;have x7:=zaa hg3 x7;have HT:Hid (NM X d w3 (.node ec el ex er) pe):=ht;clear hg3 ht HI))
 have ht:=HT.out
 obtain⟨be,pel,per,ke,ve,rfl,hne3,hke,hve,htl,htr⟩:=ht
 obtain⟨e0,e1,e2,e3,e4,e5,e6,e7,e8,e9,e10,_,_,_⟩:=hne3
 have HKE:Hid (LiesX X d w3 ex.1.items ke∧ex.1.text.size≤9223372036854775807):=hke;have HVE:Hid (LiesX X d w3 ex.2.items ve∧ex.2.text.size≤9223372036854775807):=hve;have HTL:Hid (NM X d w3 el pel):=htl;have HTR:Hid (NM X d w3 er per):=htr
 clear hke hve htl htr x0 x1 x2 x3 x4 x5 x6 x7
 go_wp2_with fail
 go_region_held3 (fun w'=>w'.cell? ⟨b,10,none⟩=some (.bool true)∧w'.cell? ⟨b,0,none⟩=some (.pointer pa)∧w'.cell? ⟨b,2,none⟩=some (.int .i64 y.1.kind)∧w'.cell? ⟨b,3,none⟩=some (.int .i64 y.1.num)∧w'.cell? ⟨b,4,none⟩=some (.string y.1.text)∧w'.cell? ⟨b,5,none⟩=some (ku2)∧w'.cell? ⟨b,6,none⟩=some (.int .i64 y.2.kind)∧w'.cell? ⟨b,7,none⟩=some (.int .i64 y.2.num)∧w'.cell? ⟨b,8,none⟩=some (.string y.2.text)∧w'.cell? ⟨b,9,none⟩=some (vu2)) (go_keep) (first|(go_at_call 234;refine (HD.out _ _ hb3.drew (HT.out.keeps (Below.refl _ _).drew)).mono ?_;rintro e w5 ⟨hg5,p5,rfl,ht5⟩;have HE:Hid (zab X d (.node true o y (.node ec el ex er)) w (.returned (.pointer p5)) w5):=⟨hb3.drew.trans (hg5.mono hb3.drew.size),p5,rfl,ht5⟩;have hg6:Below w3.heap.size w3 w5:=(Below.refl _ _).drew.trans hg5;have c10:=zaa hg6 c10;have c0:=zaa hg6 c0;have c2:=zaa hg6 c2;have c3:=zaa hg6 c3;have c4:=zaa hg6 c4;have c5:=zaa hg6 c5;have c6:=zaa hg6 c6;have c7:=zaa hg6 c7;have c8:=zaa hg6 c8;have c9:=zaa hg6 c9;clear hg5 hg6 ht5 HD))
 all_goals (first|(go_ret;exact HE.out)|(go_wp2_with fail;go_ret;exact HE.out))
theorem hungR_A (X:Nat→Prop) (d:Nat) (w:World) (o el er:RT PT) (x y ex:PT) (b:Nat) (pa pi q:Option Addr) (ku vu ku2 vu2:Value) (S H K:Nat)
 (hn:NCells w b pa pi y ku2 vu2 false S H K)
 (hi:∀V,Below w.heap.size w V→Calls Tryz.prog 256 #[.pointer (pi),.agg #[.int .i64 x.1.kind,.int .i64 x.1.num,.string x.1.text,ku,.int .i64 x.2.kind,.int .i64 x.2.num,.string x.2.text,vu],.pointer q] V (zab X d (.node false el ex er) V))
 (k1 k2 s1 s2 h1 h2:Int) (hm1:∀V,Below w.heap.size w V→Calls Tryz.prog 113 #[.pointer (some ⟨b,0,none⟩)] V (zag s1 h1 k1 V)) (hm2:∀V,Below w.heap.size w V→Calls Tryz.prog 113 #[.pointer (q)] V (zag s2 h2 k2 V)) (hne : ¬k1=k2)
 (hd:∀V pe,Below w.heap.size w V→NM X d V (.node false el ex er) pe→Calls Tryz.prog 234 #[.bool false,.pointer pa,.agg #[.int .i64 y.1.kind,.int .i64 y.1.num,.string y.1.text,ku2,.int .i64 y.2.kind,.int .i64 y.2.num,.string y.2.text,vu2],.pointer pe] V (zab X d (.node false o y (.node false el ex er)) V)) :
 Calls Tryz.prog 256 #[.pointer (some ⟨b,0,none⟩),.agg #[.int .i64 x.1.kind,.int .i64 x.1.num,.string x.1.text,ku,.int .i64 x.2.kind,.int .i64 x.2.num,.string x.2.text,vu],.pointer q] w (zab X d (.node false o y (.node false el ex er)) w):=by
 have HR:Hid (∀V,Below w.heap.size w V→Calls Tryz.prog 254 #[.pointer (some ⟨b,0,none⟩)] V fun e w'=>e=.returned (.bool false)∧w'=V):=fun V hV=>zat b false V (hn.keeps hV).red
 have HI:Hid _:=hi
 have HM1:Hid _:=hm1;have HM2:Hid _:=hm2
 have HD:Hid _:=hd
 have HN:Hid (NCells w b pa pi y ku2 vu2 false S H K):=hn
 obtain⟨c0,c1,c2,c3,c4,c5,c6,c7,c8,c9,c10,_,_,_⟩:=hn
 have hbl:=zad c0;simp only at hbl;have hbne : ¬b=w.heap.size:=by omega
 clear hi hm1 hm2 hd
 go_enter Tryz.func256,Tryz.ntmps256
 go_wp2_with fail
 refine (HR.out _ (by first|exact Below.refl _ _|exact ((Grew.refl w).alloc _).below)).mono ?_
 rintro e w1 ⟨rfl,rfl⟩
 obtain⟨W0,hW0⟩:∃W0,W0=w.alloc (.cells #[.int .i64 x.1.kind,.int .i64 x.1.num,.string x.1.text,ku,.int .i64 x.2.kind,.int .i64 x.2.num,.string x.2.text,vu] 108):=⟨_,rfl⟩
 rw [←hW0]
 have hb0:Below w.heap.size w W0:=by rw [hW0];exact ((Grew.refl w).alloc _).below
 have x0:W0.cell? ⟨w.heap.size,0,none⟩=some (.int .i64 x.1.kind):=by rw [hW0];simp
 have x1:W0.cell? ⟨w.heap.size,1,none⟩=some (.int .i64 x.1.num):=by rw [hW0];simp
 have x2:W0.cell? ⟨w.heap.size,2,none⟩=some (.string x.1.text):=by rw [hW0];simp
 have x3:W0.cell? ⟨w.heap.size,3,none⟩=some (ku):=by rw [hW0];simp
 have x4:W0.cell? ⟨w.heap.size,4,none⟩=some (.int .i64 x.2.kind):=by rw [hW0];simp
 have x5:W0.cell? ⟨w.heap.size,5,none⟩=some (.int .i64 x.2.num):=by rw [hW0];simp
 have x6:W0.cell? ⟨w.heap.size,6,none⟩=some (.string x.2.text):=by rw [hW0];simp
 have x7:W0.cell? ⟨w.heap.size,7,none⟩=some (vu):=by rw [hW0];simp
 clear hW0 HR
 have c0:=zaa hb0 c0;have c1:=zaa hb0 c1;have c2:=zaa hb0 c2;have c3:=zaa hb0 c3;have c4:=zaa hb0 c4;have c5:=zaa hb0 c5;have c6:=zaa hb0 c6;have c7:=zaa hb0 c7;have c8:=zaa hb0 c8;have c9:=zaa hb0 c9;have c10:=zaa hb0 c10
 go_wp2_with fail
 refine (HM1.out _ hb0).mono ?_
 rintro e w1 ⟨hg1,rfl⟩
 have hb1:Below w.heap.size w w1:=hb0.trans (hg1.mono hb0.size)
 have c0:=zaa hg1 c0;have c1:=zaa hg1 c1;have c2:=zaa hg1 c2;have c3:=zaa hg1 c3;have c4:=zaa hg1 c4;have c5:=zaa hg1 c5;have c6:=zaa hg1 c6;have c7:=zaa hg1 c7;have c8:=zaa hg1 c8;have c9:=zaa hg1 c9;have c10:=zaa hg1 c10;have x0:=zaa hg1 x0;have x1:=zaa hg1 x1;have x2:=zaa hg1 x2;have x3:=zaa hg1 x3;have x4:=zaa hg1 x4;have x5:=zaa hg1 x5;have x6:=zaa hg1 x6;have x7:=zaa hg1 x7
 have hf1:∀W:World,(Instr.field 171 (.agg #[.int .i64 s1,.int .i64 h1,.int .i64 k1]) 2).run Tryz.prog W=.ok (.int .i64 k1) W:=fun W=>zah _ _ _ W
 have hf2:∀W:World,(Instr.field 171 (.agg #[.int .i64 s2,.int .i64 h2,.int .i64 k2]) 2).run Tryz.prog W=.ok (.int .i64 k2) W:=fun W=>zah _ _ _ W
 clear hg1 hb0
 go_wp2_with fail
 refine (HM2.out _ (by first|exact hb1|exact hb1.alloc hb1.size _)).mono ?_
 rintro e w2 ⟨hg2,rfl⟩
 have hb2:Below w.heap.size w w2:=by first|exact hb1.trans (hg2.mono hb1.size)|exact (hb1.alloc hb1.size _).trans (hg2.mono (hb1.alloc hb1.size _).size)
 have c0:=zaa hg2 (by first|exact c0|exact zaa ((Grew.refl w1).alloc _).below c0)
 have c1:=zaa hg2 (by first|exact c1|exact zaa ((Grew.refl w1).alloc _).below c1)
 have c2:=zaa hg2 (by first|exact c2|exact zaa ((Grew.refl w1).alloc _).below c2)
 have c3:=zaa hg2 (by first|exact c3|exact zaa ((Grew.refl w1).alloc _).below c3)
 have c4:=zaa hg2 (by first|exact c4|exact zaa ((Grew.refl w1).alloc _).below c4)
 have c5:=zaa hg2 (by first|exact c5|exact zaa ((Grew.refl w1).alloc _).below c5)
 have c6:=zaa hg2 (by first|exact c6|exact zaa ((Grew.refl w1).alloc _).below c6)
 have c7:=zaa hg2 (by first|exact c7|exact zaa ((Grew.refl w1).alloc _).below c7)
 have c8:=zaa hg2 (by first|exact c8|exact zaa ((Grew.refl w1).alloc _).below c8)
 have c9:=zaa hg2 (by first|exact c9|exact zaa ((Grew.refl w1).alloc _).below c9)
 have c10:=zaa hg2 (by first|exact c10|exact zaa ((Grew.refl w1).alloc _).below c10)
 have x0:=zaa hg2 (by first|exact x0|exact zaa ((Grew.refl w1).alloc _).below x0)
 have x1:=zaa hg2 (by first|exact x1|exact zaa ((Grew.refl w1).alloc _).below x1)
 have x2:=zaa hg2 (by first|exact x2|exact zaa ((Grew.refl w1).alloc _).below x2)
 have x3:=zaa hg2 (by first|exact x3|exact zaa ((Grew.refl w1).alloc _).below x3)
 have x4:=zaa hg2 (by first|exact x4|exact zaa ((Grew.refl w1).alloc _).below x4)
 have x5:=zaa hg2 (by first|exact x5|exact zaa ((Grew.refl w1).alloc _).below x5)
 have x6:=zaa hg2 (by first|exact x6|exact zaa ((Grew.refl w1).alloc _).below x6)
 have x7:=zaa hg2 (by first|exact x7|exact zaa ((Grew.refl w1).alloc _).below x7)
 clear hg2 hb1 HM1 HM2
 go_wp2_with fail
 go_region_held3 (fun w'=>w'.cell? ⟨b,1,none⟩=some (.pointer pi)∧w'.cell? ⟨w.heap.size,0,none⟩=some (.int .i64 x.1.kind)∧w'.cell? ⟨w.heap.size,1,none⟩=some (.int .i64 x.1.num)∧w'.cell? ⟨w.heap.size,2,none⟩=some (.string x.1.text)∧w'.cell? ⟨w.heap.size,3,none⟩=some (ku)∧w'.cell? ⟨w.heap.size,4,none⟩=some (.int .i64 x.2.kind)∧w'.cell? ⟨w.heap.size,5,none⟩=some (.int .i64 x.2.num)∧w'.cell? ⟨w.heap.size,6,none⟩=some (.string x.2.text)∧w'.cell? ⟨w.heap.size,7,none⟩=some (vu)) (go_keep) (first|(go_at_call 256;refine (HI.out _ hb2.drew).mono ?_;rintro e w3 ⟨hg3,pe,rfl,ht⟩;have hb3:Below w.heap.size w w3:=hb2.drew.trans (hg3.mono hb2.drew.size);have hg3:Below w2.heap.size w2 w3:=(Below.refl _ _).drew.trans hg3;have c0:=zaa hg3 c0;have c1:=zaa hg3 c1;have c2:=zaa hg3 c2;have c3:=zaa hg3 c3;have c4:=zaa hg3 c4;have c5:=zaa hg3 c5;have c6:=zaa hg3 c6;have c7:=zaa hg3 c7;have c8:=zaa hg3 c8;have c9:=zaa hg3 c9;have c10:=zaa hg3 c10;have x0:=zaa hg3 x0;have x1:=zaa hg3 x1;have x2:=zaa hg3 x2;have x3:=zaa hg3 x3;have x4:=zaa hg3 x4;have x5:=zaa hg3 x5;have x6:=zaa hg3 x6;have x7:=zaa hg3 x7;have HT:Hid (NM X d w3 (.node false el ex er) pe):=ht;clear hg3 ht HI))
 have ht:=HT.out
 obtain⟨be,pel,per,ke,ve,rfl,hne3,hke,hve,htl,htr⟩:=ht
 obtain⟨e0,e1,e2,e3,e4,e5,e6,e7,e8,e9,e10,_,_,_⟩:=hne3
 have HKE:Hid (LiesX X d w3 ex.1.items ke∧ex.1.text.size≤9223372036854775807):=hke;have HVE:Hid (LiesX X d w3 ex.2.items ve∧ex.2.text.size≤9223372036854775807):=hve;have HTL:Hid (NM X d w3 el pel):=htl;have HTR:Hid (NM X d w3 er per):=htr
 clear hke hve htl htr x0 x1 x2 x3 x4 x5 x6 x7
 go_wp2_with fail
 go_region_held3 (fun w'=>w'.cell? ⟨b,10,none⟩=some (.bool false)∧w'.cell? ⟨b,0,none⟩=some (.pointer pa)∧w'.cell? ⟨b,2,none⟩=some (.int .i64 y.1.kind)∧w'.cell? ⟨b,3,none⟩=some (.int .i64 y.1.num)∧w'.cell? ⟨b,4,none⟩=some (.string y.1.text)∧w'.cell? ⟨b,5,none⟩=some (ku2)∧w'.cell? ⟨b,6,none⟩=some (.int .i64 y.2.kind)∧w'.cell? ⟨b,7,none⟩=some (.int .i64 y.2.num)∧w'.cell? ⟨b,8,none⟩=some (.string y.2.text)∧w'.cell? ⟨b,9,none⟩=some (vu2)) (go_keep) (first|(go_at_call 234;refine (HD.out _ _ hb3.drew (HT.out.keeps (Below.refl _ _).drew)).mono ?_;rintro e w5 ⟨hg5,p5,rfl,ht5⟩;have HE:Hid (zab X d (.node false o y (.node false el ex er)) w (.returned (.pointer p5)) w5):=⟨hb3.drew.trans (hg5.mono hb3.drew.size),p5,rfl,ht5⟩;have hg6:Below w3.heap.size w3 w5:=(Below.refl _ _).drew.trans hg5;have c10:=zaa hg6 c10;have c0:=zaa hg6 c0;have c2:=zaa hg6 c2;have c3:=zaa hg6 c3;have c4:=zaa hg6 c4;have c5:=zaa hg6 c5;have c6:=zaa hg6 c6;have c7:=zaa hg6 c7;have c8:=zaa hg6 c8;have c9:=zaa hg6 c9;clear hg5 hg6 ht5 HD))
 all_goals (first|(go_ret;exact HE.out)|(go_wp2_with fail;go_ret;exact HE.out))
theorem hungR_B (X:Nat→Prop) (d:Nat) (w:World) (o el er:RT PT) (x y ex:PT) (b:Nat) (pa pi q:Option Addr) (ku vu ku2 vu2:Value) (S H K:Nat)
 (hn:NCells w b pa pi y ku2 vu2 false S H K)
 (hi:∀V,Below w.heap.size w V→Calls Tryz.prog 256 #[.pointer (pi),.agg #[.int .i64 x.1.kind,.int .i64 x.1.num,.string x.1.text,ku,.int .i64 x.2.kind,.int .i64 x.2.num,.string x.2.text,vu],.pointer q] V (zab X d (.node true el ex er) V))
 (k1 k2 s1 s2 h1 h2:Int) (hm1:∀V,Below w.heap.size w V→Calls Tryz.prog 113 #[.pointer (some ⟨b,0,none⟩)] V (zag s1 h1 k1 V)) (hm2:∀V,Below w.heap.size w V→Calls Tryz.prog 113 #[.pointer (q)] V (zag s2 h2 k2 V)) (hne : ¬k1=k2)
 (hd:∀V pe,Below w.heap.size w V→NM X d V (.node true el ex er) pe→Calls Tryz.prog 234 #[.bool false,.pointer pa,.agg #[.int .i64 y.1.kind,.int .i64 y.1.num,.string y.1.text,ku2,.int .i64 y.2.kind,.int .i64 y.2.num,.string y.2.text,vu2],.pointer pe] V (zab X d (.node false o y (.node true el ex er)) V))
 (hrd:∀V p,NM X d V er p→Calls Tryz.prog 254 #[.pointer p] V fun e w'=>e=.returned (.bool false)∧w'=V) :
 Calls Tryz.prog 256 #[.pointer (some ⟨b,0,none⟩),.agg #[.int .i64 x.1.kind,.int .i64 x.1.num,.string x.1.text,ku,.int .i64 x.2.kind,.int .i64 x.2.num,.string x.2.text,vu],.pointer q] w (zab X d (.node false o y (.node true el ex er)) w):=by
 have HR:Hid (∀V,Below w.heap.size w V→Calls Tryz.prog 254 #[.pointer (some ⟨b,0,none⟩)] V fun e w'=>e=.returned (.bool false)∧w'=V):=fun V hV=>zat b false V (hn.keeps hV).red
 have HI:Hid _:=hi
 have HM1:Hid _:=hm1;have HM2:Hid _:=hm2
 have HD:Hid _:=hd
 have HRd:Hid _:=hrd
 have HN:Hid (NCells w b pa pi y ku2 vu2 false S H K):=hn
 obtain⟨c0,c1,c2,c3,c4,c5,c6,c7,c8,c9,c10,_,_,_⟩:=hn
 have hbl:=zad c0;simp only at hbl;have hbne : ¬b=w.heap.size:=by omega
 clear hi hm1 hm2 hd hrd
 go_enter Tryz.func256,Tryz.ntmps256
 go_wp2_with fail
 refine (HR.out _ (by first|exact Below.refl _ _|exact ((Grew.refl w).alloc _).below)).mono ?_
 rintro e w1 ⟨rfl,rfl⟩
 obtain⟨W0,hW0⟩:∃W0,W0=w.alloc (.cells #[.int .i64 x.1.kind,.int .i64 x.1.num,.string x.1.text,ku,.int .i64 x.2.kind,.int .i64 x.2.num,.string x.2.text,vu] 108):=⟨_,rfl⟩
 rw [←hW0]
 have hb0:Below w.heap.size w W0:=by rw [hW0];exact ((Grew.refl w).alloc _).below
 have x0:W0.cell? ⟨w.heap.size,0,none⟩=some (.int .i64 x.1.kind):=by rw [hW0];simp
 have x1:W0.cell? ⟨w.heap.size,1,none⟩=some (.int .i64 x.1.num):=by rw [hW0];simp
 have x2:W0.cell? ⟨w.heap.size,2,none⟩=some (.string x.1.text):=by rw [hW0];simp
 have x3:W0.cell? ⟨w.heap.size,3,none⟩=some (ku):=by rw [hW0];simp
 have x4:W0.cell? ⟨w.heap.size,4,none⟩=some (.int .i64 x.2.kind):=by rw [hW0];simp
 have x5:W0.cell? ⟨w.heap.size,5,none⟩=some (.int .i64 x.2.num):=by rw [hW0];simp
 have x6:W0.cell? ⟨w.heap.size,6,none⟩=some (.string x.2.text):=by rw [hW0];simp
 have x7:W0.cell? ⟨w.heap.size,7,none⟩=some (vu):=by rw [hW0];simp
 clear hW0 HR
 have c0:=zaa hb0 c0;have c1:=zaa hb0 c1;have c2:=zaa hb0 c2;have c3:=zaa hb0 c3;have c4:=zaa hb0 c4;have c5:=zaa hb0 c5;have c6:=zaa hb0 c6;have c7:=zaa hb0 c7;have c8:=zaa hb0 c8;have c9:=zaa hb0 c9;have c10:=zaa hb0 c10
 go_wp2_with fail
 refine (HM1.out _ hb0).mono ?_
 rintro e w1 ⟨hg1,rfl⟩
 have hb1:Below w.heap.size w w1:=hb0.trans (hg1.mono hb0.size)
 have c0:=zaa hg1 c0;have c1:=zaa hg1 c1;have c2:=zaa hg1 c2;have c3:=zaa hg1 c3;have c4:=zaa hg1 c4;have c5:=zaa hg1 c5;have c6:=zaa hg1 c6;have c7:=zaa hg1 c7;have c8:=zaa hg1 c8;have c9:=zaa hg1 c9;have c10:=zaa hg1 c10;have x0:=zaa hg1 x0;have x1:=zaa hg1 x1;have x2:=zaa hg1 x2;have x3:=zaa hg1 x3;have x4:=zaa hg1 x4;have x5:=zaa hg1 x5;have x6:=zaa hg1 x6;have x7:=zaa hg1 x7
 have hf1:∀W:World,(Instr.field 171 (.agg #[.int .i64 s1,.int .i64 h1,.int .i64 k1]) 2).run Tryz.prog W=.ok (.int .i64 k1) W:=fun W=>zah _ _ _ W
 have hf2:∀W:World,(Instr.field 171 (.agg #[.int .i64 s2,.int .i64 h2,.int .i64 k2]) 2).run Tryz.prog W=.ok (.int .i64 k2) W:=fun W=>zah _ _ _ W
 clear hg1 hb0
 go_wp2_with fail
 refine (HM2.out _ (by first|exact hb1|exact hb1.alloc hb1.size _)).mono ?_
 rintro e w2 ⟨hg2,rfl⟩
 have hb2:Below w.heap.size w w2:=by first|exact hb1.trans (hg2.mono hb1.size)|exact (hb1.alloc hb1.size _).trans (hg2.mono (hb1.alloc hb1.size _).size)
 have c0:=zaa hg2 (by first|exact c0|exact zaa ((Grew.refl w1).alloc _).below c0)
 have c1:=zaa hg2 (by first|exact c1|exact zaa ((Grew.refl w1).alloc _).below c1)
 have c2:=zaa hg2 (by first|exact c2|exact zaa ((Grew.refl w1).alloc _).below c2)
 have c3:=zaa hg2 (by first|exact c3|exact zaa ((Grew.refl w1).alloc _).below c3)
 have c4:=zaa hg2 (by first|exact c4|exact zaa ((Grew.refl w1).alloc _).below c4)
 have c5:=zaa hg2 (by first|exact c5|exact zaa ((Grew.refl w1).alloc _).below c5)
 have c6:=zaa hg2 (by first|exact c6|exact zaa ((Grew.refl w1).alloc _).below c6)
 have c7:=zaa hg2 (by first|exact c7|exact zaa ((Grew.refl w1).alloc _).below c7)
 have c8:=zaa hg2 (by first|exact c8|exact zaa ((Grew.refl w1).alloc _).below c8)
 have c9:=zaa hg2 (by first|exact c9|exact zaa ((Grew.refl w1).alloc _).below c9)
 have c10:=zaa hg2 (by first|exact c10|exact zaa ((Grew.refl w1).alloc _).below c10)
 have x0:=zaa hg2 (by first|exact x0|exact zaa ((Grew.refl w1).alloc _).below x0)
 have x1:=zaa hg2 (by first|exact x1|exact zaa ((Grew.refl w1).alloc _).below x1)
 have x2:=zaa hg2 (by first|exact x2|exact zaa ((Grew.refl w1).alloc _).below x2)
 have x3:=zaa hg2 (by first|exact x3|exact zaa ((Grew.refl w1).alloc _).below x3)
 have x4:=zaa hg2 (by first|exact x4|exact zaa ((Grew.refl w1).alloc _).below x4)
 have x5:=zaa hg2 (by first|exact x5|exact zaa ((Grew.refl w1).alloc _).below x5)
 have x6:=zaa hg2 (by first|exact x6|exact zaa ((Grew.refl w1).alloc _).below x6)
 have x7:=zaa hg2 (by first|exact x7|exact zaa ((Grew.refl w1).alloc _).below x7)
 clear hg2 hb1 HM1 HM2
 go_wp2_with fail
 go_region_held3 (fun w'=>w'.cell? ⟨b,1,none⟩=some (.pointer pi)∧w'.cell? ⟨w.heap.size,0,none⟩=some (.int .i64 x.1.kind)∧w'.cell? ⟨w.heap.size,1,none⟩=some (.int .i64 x.1.num)∧w'.cell? ⟨w.heap.size,2,none⟩=some (.string x.1.text)∧w'.cell? ⟨w.heap.size,3,none⟩=some (ku)∧w'.cell? ⟨w.heap.size,4,none⟩=some (.int .i64 x.2.kind)∧w'.cell? ⟨w.heap.size,5,none⟩=some (.int .i64 x.2.num)∧w'.cell? ⟨w.heap.size,6,none⟩=some (.string x.2.text)∧w'.cell? ⟨w.heap.size,7,none⟩=some (vu)) (go_keep) (first|(go_at_call 256;refine (HI.out _ hb2.drew).mono ?_;rintro e w3 ⟨hg3,pe,rfl,ht⟩;have hb3:Below w.heap.size w w3:=hb2.drew.trans (hg3.mono hb2.drew.size);have hg3:Below w2.heap.size w2 w3:=(Below.refl _ _).drew.trans hg3;have c0:=zaa hg3 c0;have c1:=zaa hg3 c1;have c2:=zaa hg3 c2;have c3:=zaa hg3 c3;have c4:=zaa hg3 c4;have c5:=zaa hg3 c5;have c6:=zaa hg3 c6;have c7:=zaa hg3 c7;have c8:=zaa hg3 c8;have c9:=zaa hg3 c9;have c10:=zaa hg3 c10;have x0:=zaa hg3 x0;have x1:=zaa hg3 x1;have x2:=zaa hg3 x2;have x3:=zaa hg3 x3;have x4:=zaa hg3 x4;have x5:=zaa hg3 x5;have x6:=zaa hg3 x6;have x7:=zaa hg3 x7;have HT:Hid (NM X d w3 (.node true el ex er) pe):=ht;clear hg3 ht HI))
 have ht:=HT.out
 obtain⟨be,pel,per,ke,ve,rfl,hne3,hke,hve,htl,htr⟩:=ht
 obtain⟨e0,e1,e2,e3,e4,e5,e6,e7,e8,e9,e10,_,_,_⟩:=hne3
 have HKE:Hid (LiesX X d w3 ex.1.items ke∧ex.1.text.size≤9223372036854775807):=hke;have HVE:Hid (LiesX X d w3 ex.2.items ve∧ex.2.text.size≤9223372036854775807):=hve;have HTL:Hid (NM X d w3 el pel):=htl;have HTR:Hid (NM X d w3 er per):=htr
 clear hke hve htl htr x0 x1 x2 x3 x4 x5 x6 x7
 go_wp2_with fail
 refine (HRd.out _ _ HTR.out).mono ?_
 rintro e w4 ⟨rfl,rfl⟩
 go_wp2_with fail
 go_region_held3 (fun w'=>w'.cell? ⟨b,10,none⟩=some (.bool false)∧w'.cell? ⟨b,0,none⟩=some (.pointer pa)∧w'.cell? ⟨b,2,none⟩=some (.int .i64 y.1.kind)∧w'.cell? ⟨b,3,none⟩=some (.int .i64 y.1.num)∧w'.cell? ⟨b,4,none⟩=some (.string y.1.text)∧w'.cell? ⟨b,5,none⟩=some (ku2)∧w'.cell? ⟨b,6,none⟩=some (.int .i64 y.2.kind)∧w'.cell? ⟨b,7,none⟩=some (.int .i64 y.2.num)∧w'.cell? ⟨b,8,none⟩=some (.string y.2.text)∧w'.cell? ⟨b,9,none⟩=some (vu2)) (go_keep) (first|(go_at_call 234;refine (HD.out _ _ hb3.drew (HT.out.keeps (Below.refl _ _).drew)).mono ?_;rintro e w5 ⟨hg5,p5,rfl,ht5⟩;have HE:Hid (zab X d (.node false o y (.node true el ex er)) w (.returned (.pointer p5)) w5):=⟨hb3.drew.trans (hg5.mono hb3.drew.size),p5,rfl,ht5⟩;have hg6:Below w4.heap.size w4 w5:=(Below.refl _ _).drew.trans hg5;have c10:=zaa hg6 c10;have c0:=zaa hg6 c0;have c2:=zaa hg6 c2;have c3:=zaa hg6 c3;have c4:=zaa hg6 c4;have c5:=zaa hg6 c5;have c6:=zaa hg6 c6;have c7:=zaa hg6 c7;have c8:=zaa hg6 c8;have c9:=zaa hg6 c9;clear hg5 hg6 ht5 HD))
 all_goals (first|(go_ret;exact HE.out)|(go_wp2_with fail;go_ret;exact HE.out))
theorem hungR_C (X:Nat→Prop) (d:Nat) (w:World) (o el er:RT PT) (x y ex:PT) (b:Nat) (pa pi q:Option Addr) (ku vu ku2 vu2:Value) (S H K:Nat)
 (hn:NCells w b pa pi y ku2 vu2 false S H K)
 (hi:∀V,Below w.heap.size w V→Calls Tryz.prog 256 #[.pointer (pi),.agg #[.int .i64 x.1.kind,.int .i64 x.1.num,.string x.1.text,ku,.int .i64 x.2.kind,.int .i64 x.2.num,.string x.2.text,vu],.pointer q] V (zab X d (.node true el ex er) V))
 (k1 k2 s1 s2 h1 h2:Int) (hm1:∀V,Below w.heap.size w V→Calls Tryz.prog 113 #[.pointer (some ⟨b,0,none⟩)] V (zag s1 h1 k1 V)) (hm2:∀V,Below w.heap.size w V→Calls Tryz.prog 113 #[.pointer (q)] V (zag s2 h2 k2 V)) (hne : ¬k1=k2)
 (hrd:∀V p,NM X d V er p→Calls Tryz.prog 254 #[.pointer p] V fun e w'=>e=.returned (.bool true)∧w'=V)
 (hin:∀V p,Below w.heap.size w V→NM X d V el p→Calls Tryz.prog 234 #[.bool false,.pointer pa,.agg #[.int .i64 y.1.kind,.int .i64 y.1.num,.string y.1.text,ku2,.int .i64 y.2.kind,.int .i64 y.2.num,.string y.2.text,vu2],.pointer p] V (zab X d (.node false o y el) V))
 (hbl:∀V p,NM X d V er p→Calls Tryz.prog 200 #[.pointer p] V (zab X d er.black V))
 (hout:∀V p1 p2 k3 v3,NM X d V (.node false o y el) p1→NM X d V er.black p2→(LiesX X d V ex.1.items k3∧ex.1.text.size≤9223372036854775807)→(LiesX X d V ex.2.items v3∧ex.2.text.size≤9223372036854775807)→Calls Tryz.prog 234 #[.bool true,.pointer p1,.agg #[.int .i64 ex.1.kind,.int .i64 ex.1.num,.string ex.1.text,k3,.int .i64 ex.2.kind,.int .i64 ex.2.num,.string ex.2.text,v3],.pointer p2] V (zab X d (.node true (.node false o y el) ex er.black) V)) :
 Calls Tryz.prog 256 #[.pointer (some ⟨b,0,none⟩),.agg #[.int .i64 x.1.kind,.int .i64 x.1.num,.string x.1.text,ku,.int .i64 x.2.kind,.int .i64 x.2.num,.string x.2.text,vu],.pointer q] w (zab X d (.node true (.node false o y el) ex er.black) w):=by
 have HR:Hid (∀V,Below w.heap.size w V→Calls Tryz.prog 254 #[.pointer (some ⟨b,0,none⟩)] V fun e w'=>e=.returned (.bool false)∧w'=V):=fun V hV=>zat b false V (hn.keeps hV).red
 have HI:Hid _:=hi
 have HM1:Hid _:=hm1;have HM2:Hid _:=hm2
 have HRd:Hid _:=hrd
 have HIn:Hid _:=hin;have HBl:Hid _:=hbl;have HOut:Hid _:=hout
 have HN:Hid (NCells w b pa pi y ku2 vu2 false S H K):=hn
 obtain⟨c0,c1,c2,c3,c4,c5,c6,c7,c8,c9,c10,_,_,_⟩:=hn
 have hbl:=zad c0;simp only at hbl;have hbne : ¬b=w.heap.size:=by omega
 clear hi hm1 hm2 hrd hin  hout
 go_enter Tryz.func256,Tryz.ntmps256
 go_wp2_with fail
 refine (HR.out _ (by first|exact Below.refl _ _|exact ((Grew.refl w).alloc _).below)).mono ?_
 rintro e w1 ⟨rfl,rfl⟩
 obtain⟨W0,hW0⟩:∃W0,W0=w.alloc (.cells #[.int .i64 x.1.kind,.int .i64 x.1.num,.string x.1.text,ku,.int .i64 x.2.kind,.int .i64 x.2.num,.string x.2.text,vu] 108):=⟨_,rfl⟩
 rw [←hW0]
 have hb0:Below w.heap.size w W0:=by rw [hW0];exact ((Grew.refl w).alloc _).below
 have x0:W0.cell? ⟨w.heap.size,0,none⟩=some (.int .i64 x.1.kind):=by rw [hW0];simp
 have x1:W0.cell? ⟨w.heap.size,1,none⟩=some (.int .i64 x.1.num):=by rw [hW0];simp
 have x2:W0.cell? ⟨w.heap.size,2,none⟩=some (.string x.1.text):=by rw [hW0];simp
 have x3:W0.cell? ⟨w.heap.size,3,none⟩=some (ku):=by rw [hW0];simp
 have x4:W0.cell? ⟨w.heap.size,4,none⟩=some (.int .i64 x.2.kind):=by rw [hW0];simp
 have x5:W0.cell? ⟨w.heap.size,5,none⟩=some (.int .i64 x.2.num):=by rw [hW0];simp
 have x6:W0.cell? ⟨w.heap.size,6,none⟩=some (.string x.2.text):=by rw [hW0];simp
 have x7:W0.cell? ⟨w.heap.size,7,none⟩=some (vu):=by rw [hW0];simp
 clear hW0 HR
 have c0:=zaa hb0 c0;have c1:=zaa hb0 c1;have c2:=zaa hb0 c2;have c3:=zaa hb0 c3;have c4:=zaa hb0 c4;have c5:=zaa hb0 c5;have c6:=zaa hb0 c6;have c7:=zaa hb0 c7;have c8:=zaa hb0 c8;have c9:=zaa hb0 c9;have c10:=zaa hb0 c10
 go_wp2_with fail
 refine (HM1.out _ hb0).mono ?_
 rintro e w1 ⟨hg1,rfl⟩
 have hb1:Below w.heap.size w w1:=hb0.trans (hg1.mono hb0.size)
 have c0:=zaa hg1 c0;have c1:=zaa hg1 c1;have c2:=zaa hg1 c2;have c3:=zaa hg1 c3;have c4:=zaa hg1 c4;have c5:=zaa hg1 c5;have c6:=zaa hg1 c6;have c7:=zaa hg1 c7;have c8:=zaa hg1 c8;have c9:=zaa hg1 c9;have c10:=zaa hg1 c10;have x0:=zaa hg1 x0;have x1:=zaa hg1 x1;have x2:=zaa hg1 x2;have x3:=zaa hg1 x3;have x4:=zaa hg1 x4;have x5:=zaa hg1 x5;have x6:=zaa hg1 x6;have x7:=zaa hg1 x7
 have hf1:∀W:World,(Instr.field 171 (.agg #[.int .i64 s1,.int .i64 h1,.int .i64 k1]) 2).run Tryz.prog W=.ok (.int .i64 k1) W:=fun W=>zah _ _ _ W
 have hf2:∀W:World,(Instr.field 171 (.agg #[.int .i64 s2,.int .i64 h2,.int .i64 k2]) 2).run Tryz.prog W=.ok (.int .i64 k2) W:=fun W=>zah _ _ _ W
 clear hg1 hb0
 go_wp2_with fail
 refine (HM2.out _ (by first|exact hb1|exact hb1.alloc hb1.size _)).mono ?_
 rintro e w2 ⟨hg2,rfl⟩
 have hb2:Below w.heap.size w w2:=by first|exact hb1.trans (hg2.mono hb1.size)|exact (hb1.alloc hb1.size _).trans (hg2.mono (hb1.alloc hb1.size _).size)
 have c0:=zaa hg2 (by first|exact c0|exact zaa ((Grew.refl w1).alloc _).below c0)
 have c1:=zaa hg2 (by first|exact c1|exact zaa ((Grew.refl w1).alloc _).below c1)
 have c2:=zaa hg2 (by first|exact c2|exact zaa ((Grew.refl w1).alloc _).below c2)
 have c3:=zaa hg2 (by first|exact c3|exact zaa ((Grew.refl w1).alloc _).below c3)
 have c4:=zaa hg2 (by first|exact c4|exact zaa ((Grew.refl w1).alloc _).below c4)
 have c5:=zaa hg2 (by first|exact c5|exact zaa ((Grew.refl w1).alloc _).below c5)
 have c6:=zaa hg2 (by first|exact c6|exact zaa ((Grew.refl w1).alloc _).below c6)
 have c7:=zaa hg2 (by first|exact c7|exact zaa ((Grew.refl w1).alloc _).below c7)
 have c8:=zaa hg2 (by first|exact c8|exact zaa ((Grew.refl w1).alloc _).below c8)
 have c9:=zaa hg2 (by first|exact c9|exact zaa ((Grew.refl w1).alloc _).below c9)
 have c10:=zaa hg2 (by first|exact c10|exact zaa ((Grew.refl w1).alloc _).below c10)
 have x0:=zaa hg2 (by first|exact x0|exact zaa ((Grew.refl w1).alloc _).below x0)
 have x1:=zaa hg2 (by first|exact x1|exact zaa ((Grew.refl w1).alloc _).below x1)
 have x2:=zaa hg2 (by first|exact x2|exact zaa ((Grew.refl w1).alloc _).below x2)
 have x3:=zaa hg2 (by first|exact x3|exact zaa ((Grew.refl w1).alloc _).below x3)
 have x4:=zaa hg2 (by first|exact x4|exact zaa ((Grew.refl w1).alloc _).below x4)
 have x5:=zaa hg2 (by first|exact x5|exact zaa ((Grew.refl w1).alloc _).below x5)
 have x6:=zaa hg2 (by first|exact x6|exact zaa ((Grew.refl w1).alloc _).below x6)
 have x7:=zaa hg2 (by first|exact x7|exact zaa ((Grew.refl w1).alloc _).below x7)
 clear hg2 hb1 HM1 HM2
 go_wp2_with fail
 go_region_held3 (fun w'=>w'.cell? ⟨b,1,none⟩=some (.pointer pi)∧w'.cell? ⟨w.heap.size,0,none⟩=some (.int .i64 x.1.kind)∧w'.cell? ⟨w.heap.size,1,none⟩=some (.int .i64 x.1.num)∧w'.cell? ⟨w.heap.size,2,none⟩=some (.string x.1.text)∧w'.cell? ⟨w.heap.size,3,none⟩=some (ku)∧w'.cell? ⟨w.heap.size,4,none⟩=some (.int .i64 x.2.kind)∧w'.cell? ⟨w.heap.size,5,none⟩=some (.int .i64 x.2.num)∧w'.cell? ⟨w.heap.size,6,none⟩=some (.string x.2.text)∧w'.cell? ⟨w.heap.size,7,none⟩=some (vu)) (go_keep) (first|(go_at_call 256;refine (HI.out _ hb2.drew).mono ?_;rintro e w3 ⟨hg3,pe,rfl,ht⟩;have hb3:Below w.heap.size w w3:=hb2.drew.trans (hg3.mono hb2.drew.size);have hg3:Below w2.heap.size w2 w3:=(Below.refl _ _).drew.trans hg3;have c0:=zaa hg3 c0;have c1:=zaa hg3 c1;have c2:=zaa hg3 c2;have c3:=zaa hg3 c3;have c4:=zaa hg3 c4;have c5:=zaa hg3 c5;have c6:=zaa hg3 c6;have c7:=zaa hg3 c7;have c8:=zaa hg3 c8;have c9:=zaa hg3 c9;have c10:=zaa hg3 c10;have x0:=zaa hg3 x0;have x1:=zaa hg3 x1;have x2:=zaa hg3 x2;have x3:=zaa hg3 x3;have x4:=zaa hg3 x4;have x5:=zaa hg3 x5;have x6:=zaa hg3 x6;have x7:=zaa hg3 x7;have HT:Hid (NM X d w3 (.node true el ex er) pe):=ht;clear hg3 ht HI))
 have ht:=HT.out
 obtain⟨be,pel,per,ke,ve,rfl,hne3,hke,hve,htl,htr⟩:=ht
 obtain⟨e0,e1,e2,e3,e4,e5,e6,e7,e8,e9,e10,_,_,_⟩:=hne3
 have HKE:Hid (LiesX X d w3 ex.1.items ke∧ex.1.text.size≤9223372036854775807):=hke;have HVE:Hid (LiesX X d w3 ex.2.items ve∧ex.2.text.size≤9223372036854775807):=hve;have HTL:Hid (NM X d w3 el pel):=htl;have HTR:Hid (NM X d w3 er per):=htr
 clear hke hve htl htr x0 x1 x2 x3 x4 x5 x6 x7
 go_wp2_with fail
 refine (HRd.out _ _ HTR.out).mono ?_
 rintro e w4 ⟨rfl,rfl⟩
 go_wp2_with fail
 have hbc:Below w4.heap.size w4 w4.drew:=(Below.refl _ _).drew
 go_region_held3 (fun w'=>w'.cell? ⟨b,0,none⟩=some (.pointer pa)∧w'.cell? ⟨b,2,none⟩=some (.int .i64 y.1.kind)∧w'.cell? ⟨b,3,none⟩=some (.int .i64 y.1.num)∧w'.cell? ⟨b,4,none⟩=some (.string y.1.text)∧w'.cell? ⟨b,5,none⟩=some (ku2)∧w'.cell? ⟨b,6,none⟩=some (.int .i64 y.2.kind)∧w'.cell? ⟨b,7,none⟩=some (.int .i64 y.2.num)∧w'.cell? ⟨b,8,none⟩=some (.string y.2.text)∧w'.cell? ⟨b,9,none⟩=some (vu2)∧w'.cell? ⟨be,0,none⟩=some (.pointer pel)∧w'.cell? ⟨be,1,none⟩=some (.pointer per)∧w'.cell? ⟨be,2,none⟩=some (.int .i64 ex.1.kind)∧w'.cell? ⟨be,3,none⟩=some (.int .i64 ex.1.num)∧w'.cell? ⟨be,4,none⟩=some (.string ex.1.text)∧w'.cell? ⟨be,5,none⟩=some (ke)∧w'.cell? ⟨be,6,none⟩=some (.int .i64 ex.2.kind)∧w'.cell? ⟨be,7,none⟩=some (.int .i64 ex.2.num)∧w'.cell? ⟨be,8,none⟩=some (.string ex.2.text)∧w'.cell? ⟨be,9,none⟩=some (ve)) (go_keep) (first
  | (go_at_call 234;refine (HOut.out _ _ _ _ _ HP.out HQ.out ⟨LiesX.keeps hbc HKE.out.1,HKE.out.2⟩ ⟨LiesX.keeps hbc HVE.out.1,HVE.out.2⟩).mono ?_;rintro e w7 ⟨hg,p7,rfl,ht⟩;have HE:Hid (zab X d (.node true (.node false o y el) ex er.black) w (.returned (.pointer p7)) w7):=⟨(hb3.trans (hbc.mono hb3.size)).trans (hg.mono (hb3.trans (hbc.mono hb3.size)).size),p7,rfl,ht⟩;have c0:=zaa hg c0;have c2:=zaa hg c2;have c3:=zaa hg c3;have c4:=zaa hg c4;have c5:=zaa hg c5;have c6:=zaa hg c6;have c7:=zaa hg c7;have c8:=zaa hg c8;have c9:=zaa hg c9;have e0:=zaa hg e0;have e1:=zaa hg e1;have e2:=zaa hg e2;have e3:=zaa hg e3;have e4:=zaa hg e4;have e5:=zaa hg e5;have e6:=zaa hg e6;have e7:=zaa hg e7;have e8:=zaa hg e8;have e9:=zaa hg e9;clear hg ht)
  | (go_at_call 234;refine (HIn.out _ _ (hb3.trans (hbc.mono hb3.size)) (HTL.out.keeps hbc)).mono ?_;rintro e w5 ⟨hg,p5,rfl,ht⟩;have HP:Hid (NM X d w5 (.node false o y el) p5):=ht;(try have HQ:Hid (NM X d w5 er.black _):=HQ.out.keeps hg);replace hbc:=hbc.trans (hg.mono hbc.size);have c0:=zaa hg c0;have c2:=zaa hg c2;have c3:=zaa hg c3;have c4:=zaa hg c4;have c5:=zaa hg c5;have c6:=zaa hg c6;have c7:=zaa hg c7;have c8:=zaa hg c8;have c9:=zaa hg c9;have e0:=zaa hg e0;have e1:=zaa hg e1;have e2:=zaa hg e2;have e3:=zaa hg e3;have e4:=zaa hg e4;have e5:=zaa hg e5;have e6:=zaa hg e6;have e7:=zaa hg e7;have e8:=zaa hg e8;have e9:=zaa hg e9;clear hg ht)
  | (go_at_call 200;refine (HBl.out _ _ (HTR.out.keeps hbc)).mono ?_;rintro e w6 ⟨hg,p6,rfl,ht⟩;have HQ:Hid (NM X d w6 er.black p6):=ht;(try have HP:Hid (NM X d w6 (.node false o y el) _):=HP.out.keeps hg);replace hbc:=hbc.trans (hg.mono hbc.size);have c0:=zaa hg c0;have c2:=zaa hg c2;have c3:=zaa hg c3;have c4:=zaa hg c4;have c5:=zaa hg c5;have c6:=zaa hg c6;have c7:=zaa hg c7;have c8:=zaa hg c8;have c9:=zaa hg c9;have e0:=zaa hg e0;have e1:=zaa hg e1;have e2:=zaa hg e2;have e3:=zaa hg e3;have e4:=zaa hg e4;have e5:=zaa hg e5;have e6:=zaa hg e6;have e7:=zaa hg e7;have e8:=zaa hg e8;have e9:=zaa hg e9;clear hg ht))
 all_goals (first|(go_ret;exact HE.out)|(go_wp2_with fail;go_ret;exact HE.out))
theorem hungL_red (X:Nat→Prop) (d:Nat) (w:World) (o el er:RT PT) (x y ex:PT) (b:Nat) (pa pi q:Option Addr) (ku vu ku2 vu2:Value) (S H K:Nat) (ec:Bool)
 (hn:NCells w b pi pa y ku2 vu2 true S H K)
 (hi:∀V,Below w.heap.size w V→Calls Tryz.prog 257 #[.pointer q,.agg #[.int .i64 x.1.kind,.int .i64 x.1.num,.string x.1.text,ku,.int .i64 x.2.kind,.int .i64 x.2.num,.string x.2.text,vu],.pointer (pi)] V (zab X d (.node ec el ex er) V))
 (hd:∀V pe,Below w.heap.size w V→NM X d V (.node ec el ex er) pe→Calls Tryz.prog 234 #[.bool true,.pointer pe,.agg #[.int .i64 y.1.kind,.int .i64 y.1.num,.string y.1.text,ku2,.int .i64 y.2.kind,.int .i64 y.2.num,.string y.2.text,vu2],.pointer pa] V (zab X d (.node true (.node ec el ex er) y o) V)) :
 Calls Tryz.prog 257 #[.pointer q,.agg #[.int .i64 x.1.kind,.int .i64 x.1.num,.string x.1.text,ku,.int .i64 x.2.kind,.int .i64 x.2.num,.string x.2.text,vu],.pointer (some ⟨b,0,none⟩)] w (zab X d (.node true (.node ec el ex er) y o) w):=by
 have HR:Hid (∀V,Below w.heap.size w V→Calls Tryz.prog 254 #[.pointer (some ⟨b,0,none⟩)] V fun e w'=>e=.returned (.bool true)∧w'=V):=fun V hV=>zat b true V (hn.keeps hV).red
 have HI:Hid _:=hi
 have HD:Hid _:=hd
 have HN:Hid (NCells w b pi pa y ku2 vu2 true S H K):=hn
 obtain⟨c0,c1,c2,c3,c4,c5,c6,c7,c8,c9,c10,_,_,_⟩:=hn
 have hbl:=zad c0;simp only at hbl;have hbne : ¬b=w.heap.size:=by omega
 clear hi hd
 go_enter Tryz.func257,Tryz.ntmps257
 go_wp2_with fail
 refine (HR.out _ (by first|exact Below.refl _ _|exact ((Grew.refl w).alloc _).below)).mono ?_
 rintro e w1 ⟨rfl,rfl⟩
 obtain⟨W0,hW0⟩:∃W0,W0=w.alloc (.cells #[.int .i64 x.1.kind,.int .i64 x.1.num,.string x.1.text,ku,.int .i64 x.2.kind,.int .i64 x.2.num,.string x.2.text,vu] 108):=⟨_,rfl⟩
 rw [←hW0]
 have hb0:Below w.heap.size w W0:=by rw [hW0];exact ((Grew.refl w).alloc _).below
 have x0:W0.cell? ⟨w.heap.size,0,none⟩=some (.int .i64 x.1.kind):=by rw [hW0];simp
 have x1:W0.cell? ⟨w.heap.size,1,none⟩=some (.int .i64 x.1.num):=by rw [hW0];simp
 have x2:W0.cell? ⟨w.heap.size,2,none⟩=some (.string x.1.text):=by rw [hW0];simp
 have x3:W0.cell? ⟨w.heap.size,3,none⟩=some (ku):=by rw [hW0];simp
 have x4:W0.cell? ⟨w.heap.size,4,none⟩=some (.int .i64 x.2.kind):=by rw [hW0];simp
 have x5:W0.cell? ⟨w.heap.size,5,none⟩=some (.int .i64 x.2.num):=by rw [hW0];simp
 have x6:W0.cell? ⟨w.heap.size,6,none⟩=some (.string x.2.text):=by rw [hW0];simp
 have x7:W0.cell? ⟨w.heap.size,7,none⟩=some (vu):=by rw [hW0];simp
 clear hW0 HR
 have c0:=zaa hb0 c0;have c1:=zaa hb0 c1;have c2:=zaa hb0 c2;have c3:=zaa hb0 c3;have c4:=zaa hb0 c4;have c5:=zaa hb0 c5;have c6:=zaa hb0 c6;have c7:=zaa hb0 c7;have c8:=zaa hb0 c8;have c9:=zaa hb0 c9;have c10:=zaa hb0 c10
 have hb2:=hb0
 go_wp2_with fail
 go_region_held3 (fun w'=>w'.cell? ⟨b,0,none⟩=some (.pointer pi)∧w'.cell? ⟨w.heap.size,0,none⟩=some (.int .i64 x.1.kind)∧w'.cell? ⟨w.heap.size,1,none⟩=some (.int .i64 x.1.num)∧w'.cell? ⟨w.heap.size,2,none⟩=some (.string x.1.text)∧w'.cell? ⟨w.heap.size,3,none⟩=some (ku)∧w'.cell? ⟨w.heap.size,4,none⟩=some (.int .i64 x.2.kind)∧w'.cell? ⟨w.heap.size,5,none⟩=some (.int .i64 x.2.num)∧w'.cell? ⟨w.heap.size,6,none⟩=some (.string x.2.text)∧w'.cell? ⟨w.heap.size,7,none⟩=some (vu)) (go_keep) (first|(go_at_call 257;refine (HI.out _ hb2.drew).mono ?_;rintro e w3 ⟨hg3,pe,rfl,ht⟩;have hb3:Below w.heap.size w w3:=hb2.drew.trans (hg3.mono hb2.drew.size);have hg3:Below W0.heap.size W0 w3:=(Below.refl _ _).drew.trans hg3;have c0:=zaa hg3 c0;have c1:=zaa hg3 c1;have c2:=zaa hg3 c2;have c3:=zaa hg3 c3;have c4:=zaa hg3 c4;have c5:=zaa hg3 c5;have c6:=zaa hg3 c6;have c7:=zaa hg3 c7;have c8:=zaa hg3 c8;have c9:=zaa hg3 c9;have c10:=zaa hg3 c10;have x0:=zaa hg3 x0;have x1:=zaa hg3 x1;have x2:=zaa hg3 x2;have x3:=zaa hg3 x3;have x4:=zaa hg3 x4;have x5:=zaa hg3 x5;have x6:=zaa hg3 x6;have x7:=zaa hg3 x7;have HT:Hid (NM X d w3 (.node ec el ex er) pe):=ht;clear hg3 ht HI))
 have ht:=HT.out
 obtain⟨be,pel,per,ke,ve,rfl,hne3,hke,hve,htl,htr⟩:=ht
 obtain⟨e0,e1,e2,e3,e4,e5,e6,e7,e8,e9,e10,_,_,_⟩:=hne3
 have HKE:Hid (LiesX X d w3 ex.1.items ke∧ex.1.text.size≤9223372036854775807):=hke;have HVE:Hid (LiesX X d w3 ex.2.items ve∧ex.2.text.size≤9223372036854775807):=hve;have HTL:Hid (NM X d w3 el pel):=htl;have HTR:Hid (NM X d w3 er per):=htr
 clear hke hve htl htr x0 x1 x2 x3 x4 x5 x6 x7
 go_wp2_with fail
 go_region_held3 (fun w'=>w'.cell? ⟨b,10,none⟩=some (.bool true)∧w'.cell? ⟨b,1,none⟩=some (.pointer pa)∧w'.cell? ⟨b,2,none⟩=some (.int .i64 y.1.kind)∧w'.cell? ⟨b,3,none⟩=some (.int .i64 y.1.num)∧w'.cell? ⟨b,4,none⟩=some (.string y.1.text)∧w'.cell? ⟨b,5,none⟩=some (ku2)∧w'.cell? ⟨b,6,none⟩=some (.int .i64 y.2.kind)∧w'.cell? ⟨b,7,none⟩=some (.int .i64 y.2.num)∧w'.cell? ⟨b,8,none⟩=some (.string y.2.text)∧w'.cell? ⟨b,9,none⟩=some (vu2)) (go_keep) (first|(go_at_call 234;refine (HD.out _ _ hb3.drew (HT.out.keeps (Below.refl _ _).drew)).mono ?_;rintro e w5 ⟨hg5,p5,rfl,ht5⟩;have HE:Hid (zab X d (.node true (.node ec el ex er) y o) w (.returned (.pointer p5)) w5):=⟨hb3.drew.trans (hg5.mono hb3.drew.size),p5,rfl,ht5⟩;have hg6:Below w3.heap.size w3 w5:=(Below.refl _ _).drew.trans hg5;have c10:=zaa hg6 c10;have c1:=zaa hg6 c1;have c2:=zaa hg6 c2;have c3:=zaa hg6 c3;have c4:=zaa hg6 c4;have c5:=zaa hg6 c5;have c6:=zaa hg6 c6;have c7:=zaa hg6 c7;have c8:=zaa hg6 c8;have c9:=zaa hg6 c9;clear hg5 hg6 ht5 HD))
 all_goals (first|(go_ret;exact HE.out)|(go_wp2_with fail;go_ret;exact HE.out))
theorem hungL_A (X:Nat→Prop) (d:Nat) (w:World) (o el er:RT PT) (x y ex:PT) (b:Nat) (pa pi q:Option Addr) (ku vu ku2 vu2:Value) (S H K:Nat)
 (hn:NCells w b pi pa y ku2 vu2 false S H K)
 (hi:∀V,Below w.heap.size w V→Calls Tryz.prog 257 #[.pointer q,.agg #[.int .i64 x.1.kind,.int .i64 x.1.num,.string x.1.text,ku,.int .i64 x.2.kind,.int .i64 x.2.num,.string x.2.text,vu],.pointer (pi)] V (zab X d (.node false el ex er) V))
 (k1 k2 s1 s2 h1 h2:Int) (hm1:∀V,Below w.heap.size w V→Calls Tryz.prog 113 #[.pointer (q)] V (zag s1 h1 k1 V)) (hm2:∀V,Below w.heap.size w V→Calls Tryz.prog 113 #[.pointer (some ⟨b,0,none⟩)] V (zag s2 h2 k2 V)) (hne : ¬k1=k2)
 (hd:∀V pe,Below w.heap.size w V→NM X d V (.node false el ex er) pe→Calls Tryz.prog 234 #[.bool false,.pointer pe,.agg #[.int .i64 y.1.kind,.int .i64 y.1.num,.string y.1.text,ku2,.int .i64 y.2.kind,.int .i64 y.2.num,.string y.2.text,vu2],.pointer pa] V (zab X d (.node false (.node false el ex er) y o) V)) :
 Calls Tryz.prog 257 #[.pointer q,.agg #[.int .i64 x.1.kind,.int .i64 x.1.num,.string x.1.text,ku,.int .i64 x.2.kind,.int .i64 x.2.num,.string x.2.text,vu],.pointer (some ⟨b,0,none⟩)] w (zab X d (.node false (.node false el ex er) y o) w):=by
 have HR:Hid (∀V,Below w.heap.size w V→Calls Tryz.prog 254 #[.pointer (some ⟨b,0,none⟩)] V fun e w'=>e=.returned (.bool false)∧w'=V):=fun V hV=>zat b false V (hn.keeps hV).red
 have HI:Hid _:=hi
 have HM1:Hid _:=hm1;have HM2:Hid _:=hm2
 have HD:Hid _:=hd
 have HN:Hid (NCells w b pi pa y ku2 vu2 false S H K):=hn
 obtain⟨c0,c1,c2,c3,c4,c5,c6,c7,c8,c9,c10,_,_,_⟩:=hn
 have hbl:=zad c0;simp only at hbl;have hbne : ¬b=w.heap.size:=by omega
 clear hi hm1 hm2 hd
 go_enter Tryz.func257,Tryz.ntmps257
 go_wp2_with fail
 refine (HR.out _ (by first|exact Below.refl _ _|exact ((Grew.refl w).alloc _).below)).mono ?_
 rintro e w1 ⟨rfl,rfl⟩
 obtain⟨W0,hW0⟩:∃W0,W0=w.alloc (.cells #[.int .i64 x.1.kind,.int .i64 x.1.num,.string x.1.text,ku,.int .i64 x.2.kind,.int .i64 x.2.num,.string x.2.text,vu] 108):=⟨_,rfl⟩
 rw [←hW0]
 have hb0:Below w.heap.size w W0:=by rw [hW0];exact ((Grew.refl w).alloc _).below
 have x0:W0.cell? ⟨w.heap.size,0,none⟩=some (.int .i64 x.1.kind):=by rw [hW0];simp
 have x1:W0.cell? ⟨w.heap.size,1,none⟩=some (.int .i64 x.1.num):=by rw [hW0];simp
 have x2:W0.cell? ⟨w.heap.size,2,none⟩=some (.string x.1.text):=by rw [hW0];simp
 have x3:W0.cell? ⟨w.heap.size,3,none⟩=some (ku):=by rw [hW0];simp
 have x4:W0.cell? ⟨w.heap.size,4,none⟩=some (.int .i64 x.2.kind):=by rw [hW0];simp
 have x5:W0.cell? ⟨w.heap.size,5,none⟩=some (.int .i64 x.2.num):=by rw [hW0];simp
 have x6:W0.cell? ⟨w.heap.size,6,none⟩=some (.string x.2.text):=by rw [hW0];simp
 have x7:W0.cell? ⟨w.heap.size,7,none⟩=some (vu):=by rw [hW0];simp
 clear hW0 HR
 have c0:=zaa hb0 c0;have c1:=zaa hb0 c1;have c2:=zaa hb0 c2;have c3:=zaa hb0 c3;have c4:=zaa hb0 c4;have c5:=zaa hb0 c5;have c6:=zaa hb0 c6;have c7:=zaa hb0 c7;have c8:=zaa hb0 c8;have c9:=zaa hb0 c9;have c10:=zaa hb0 c10
 go_wp2_with fail
 refine (HM1.out _ hb0).mono ?_
 rintro e w1 ⟨hg1,rfl⟩
 have hb1:Below w.heap.size w w1:=hb0.trans (hg1.mono hb0.size)
 have c0:=zaa hg1 c0;have c1:=zaa hg1 c1;have c2:=zaa hg1 c2;have c3:=zaa hg1 c3;have c4:=zaa hg1 c4;have c5:=zaa hg1 c5;have c6:=zaa hg1 c6;have c7:=zaa hg1 c7;have c8:=zaa hg1 c8;have c9:=zaa hg1 c9;have c10:=zaa hg1 c10;have x0:=zaa hg1 x0;have x1:=zaa hg1 x1;have x2:=zaa hg1 x2;have x3:=zaa hg1 x3;have x4:=zaa hg1 x4;have x5:=zaa hg1 x5;have x6:=zaa hg1 x6;have x7:=zaa hg1 x7
 have hf1:∀W:World,(Instr.field 171 (.agg #[.int .i64 s1,.int .i64 h1,.int .i64 k1]) 2).run Tryz.prog W=.ok (.int .i64 k1) W:=fun W=>zah _ _ _ W
 have hf2:∀W:World,(Instr.field 171 (.agg #[.int .i64 s2,.int .i64 h2,.int .i64 k2]) 2).run Tryz.prog W=.ok (.int .i64 k2) W:=fun W=>zah _ _ _ W
 clear hg1 hb0
 go_wp2_with fail
 refine (HM2.out _ (by first|exact hb1|exact hb1.alloc hb1.size _)).mono ?_
 rintro e w2 ⟨hg2,rfl⟩
 have hb2:Below w.heap.size w w2:=by first|exact hb1.trans (hg2.mono hb1.size)|exact (hb1.alloc hb1.size _).trans (hg2.mono (hb1.alloc hb1.size _).size)
 have c0:=zaa hg2 (by first|exact c0|exact zaa ((Grew.refl w1).alloc _).below c0)
 have c1:=zaa hg2 (by first|exact c1|exact zaa ((Grew.refl w1).alloc _).below c1)
 have c2:=zaa hg2 (by first|exact c2|exact zaa ((Grew.refl w1).alloc _).below c2)
 have c3:=zaa hg2 (by first|exact c3|exact zaa ((Grew.refl w1).alloc _).below c3)
 have c4:=zaa hg2 (by first|exact c4|exact zaa ((Grew.refl w1).alloc _).below c4)
 have c5:=zaa hg2 (by first|exact c5|exact zaa ((Grew.refl w1).alloc _).below c5)
 have c6:=zaa hg2 (by first|exact c6|exact zaa ((Grew.refl w1).alloc _).below c6)
 have c7:=zaa hg2 (by first|exact c7|exact zaa ((Grew.refl w1).alloc _).below c7)
 have c8:=zaa hg2 (by first|exact c8|exact zaa ((Grew.refl w1).alloc _).below c8)
 have c9:=zaa hg2 (by first|exact c9|exact zaa ((Grew.refl w1).alloc _).below c9)
 have c10:=zaa hg2 (by first|exact c10|exact zaa ((Grew.refl w1).alloc _).below c10)
 have x0:=zaa hg2 (by first|exact x0|exact zaa ((Grew.refl w1).alloc _).below x0)
 have x1:=zaa hg2 (by first|exact x1|exact zaa ((Grew.refl w1).alloc _).below x1)
 have x2:=zaa hg2 (by first|exact x2|exact zaa ((Grew.refl w1).alloc _).below x2)
 have x3:=zaa hg2 (by first|exact x3|exact zaa ((Grew.refl w1).alloc _).below x3)
 have x4:=zaa hg2 (by first|exact x4|exact zaa ((Grew.refl w1).alloc _).below x4)
 have x5:=zaa hg2 (by first|exact x5|exact zaa ((Grew.refl w1).alloc _).below x5)
 have x6:=zaa hg2 (by first|exact x6|exact zaa ((Grew.refl w1).alloc _).below x6)
 have x7:=zaa hg2 (by first|exact x7|exact zaa ((Grew.refl w1).alloc _).below x7)
 clear hg2 hb1 HM1 HM2
 go_wp2_with fail
 go_region_held3 (fun w'=>w'.cell? ⟨b,0,none⟩=some (.pointer pi)∧w'.cell? ⟨w.heap.size,0,none⟩=some (.int .i64 x.1.kind)∧w'.cell? ⟨w.heap.size,1,none⟩=some (.int .i64 x.1.num)∧w'.cell? ⟨w.heap.size,2,none⟩=some (.string x.1.text)∧w'.cell? ⟨w.heap.size,3,none⟩=some (ku)∧w'.cell? ⟨w.heap.size,4,none⟩=some (.int .i64 x.2.kind)∧w'.cell? ⟨w.heap.size,5,none⟩=some (.int .i64 x.2.num)∧w'.cell? ⟨w.heap.size,6,none⟩=some (.string x.2.text)∧w'.cell? ⟨w.heap.size,7,none⟩=some (vu)) (go_keep) (first|(go_at_call 257;refine (HI.out _ hb2.drew).mono ?_;rintro e w3 ⟨hg3,pe,rfl,ht⟩;have hb3:Below w.heap.size w w3:=hb2.drew.trans (hg3.mono hb2.drew.size);have hg3:Below w2.heap.size w2 w3:=(Below.refl _ _).drew.trans hg3;have c0:=zaa hg3 c0;have c1:=zaa hg3 c1;have c2:=zaa hg3 c2;have c3:=zaa hg3 c3;have c4:=zaa hg3 c4;have c5:=zaa hg3 c5;have c6:=zaa hg3 c6;have c7:=zaa hg3 c7;have c8:=zaa hg3 c8;have c9:=zaa hg3 c9;have c10:=zaa hg3 c10;have x0:=zaa hg3 x0;have x1:=zaa hg3 x1;have x2:=zaa hg3 x2;have x3:=zaa hg3 x3;have x4:=zaa hg3 x4;have x5:=zaa hg3 x5;have x6:=zaa hg3 x6;have x7:=zaa hg3 x7;have HT:Hid (NM X d w3 (.node false el ex er) pe):=ht;clear hg3 ht HI))
 have ht:=HT.out
 obtain⟨be,pel,per,ke,ve,rfl,hne3,hke,hve,htl,htr⟩:=ht
 obtain⟨e0,e1,e2,e3,e4,e5,e6,e7,e8,e9,e10,_,_,_⟩:=hne3
 have HKE:Hid (LiesX X d w3 ex.1.items ke∧ex.1.text.size≤9223372036854775807):=hke;have HVE:Hid (LiesX X d w3 ex.2.items ve∧ex.2.text.size≤9223372036854775807):=hve;have HTL:Hid (NM X d w3 el pel):=htl;have HTR:Hid (NM X d w3 er per):=htr
 clear hke hve htl htr x0 x1 x2 x3 x4 x5 x6 x7
 go_wp2_with fail
 go_region_held3 (fun w'=>w'.cell? ⟨b,10,none⟩=some (.bool false)∧w'.cell? ⟨b,1,none⟩=some (.pointer pa)∧w'.cell? ⟨b,2,none⟩=some (.int .i64 y.1.kind)∧w'.cell? ⟨b,3,none⟩=some (.int .i64 y.1.num)∧w'.cell? ⟨b,4,none⟩=some (.string y.1.text)∧w'.cell? ⟨b,5,none⟩=some (ku2)∧w'.cell? ⟨b,6,none⟩=some (.int .i64 y.2.kind)∧w'.cell? ⟨b,7,none⟩=some (.int .i64 y.2.num)∧w'.cell? ⟨b,8,none⟩=some (.string y.2.text)∧w'.cell? ⟨b,9,none⟩=some (vu2)) (go_keep) (first|(go_at_call 234;refine (HD.out _ _ hb3.drew (HT.out.keeps (Below.refl _ _).drew)).mono ?_;rintro e w5 ⟨hg5,p5,rfl,ht5⟩;have HE:Hid (zab X d (.node false (.node false el ex er) y o) w (.returned (.pointer p5)) w5):=⟨hb3.drew.trans (hg5.mono hb3.drew.size),p5,rfl,ht5⟩;have hg6:Below w3.heap.size w3 w5:=(Below.refl _ _).drew.trans hg5;have c10:=zaa hg6 c10;have c1:=zaa hg6 c1;have c2:=zaa hg6 c2;have c3:=zaa hg6 c3;have c4:=zaa hg6 c4;have c5:=zaa hg6 c5;have c6:=zaa hg6 c6;have c7:=zaa hg6 c7;have c8:=zaa hg6 c8;have c9:=zaa hg6 c9;clear hg5 hg6 ht5 HD))
 all_goals (first|(go_ret;exact HE.out)|(go_wp2_with fail;go_ret;exact HE.out))
theorem hungL_B (X:Nat→Prop) (d:Nat) (w:World) (o el er:RT PT) (x y ex:PT) (b:Nat) (pa pi q:Option Addr) (ku vu ku2 vu2:Value) (S H K:Nat)
 (hn:NCells w b pi pa y ku2 vu2 false S H K)
 (hi:∀V,Below w.heap.size w V→Calls Tryz.prog 257 #[.pointer q,.agg #[.int .i64 x.1.kind,.int .i64 x.1.num,.string x.1.text,ku,.int .i64 x.2.kind,.int .i64 x.2.num,.string x.2.text,vu],.pointer (pi)] V (zab X d (.node true el ex er) V))
 (k1 k2 s1 s2 h1 h2:Int) (hm1:∀V,Below w.heap.size w V→Calls Tryz.prog 113 #[.pointer (q)] V (zag s1 h1 k1 V)) (hm2:∀V,Below w.heap.size w V→Calls Tryz.prog 113 #[.pointer (some ⟨b,0,none⟩)] V (zag s2 h2 k2 V)) (hne : ¬k1=k2)
 (hd:∀V pe,Below w.heap.size w V→NM X d V (.node true el ex er) pe→Calls Tryz.prog 234 #[.bool false,.pointer pe,.agg #[.int .i64 y.1.kind,.int .i64 y.1.num,.string y.1.text,ku2,.int .i64 y.2.kind,.int .i64 y.2.num,.string y.2.text,vu2],.pointer pa] V (zab X d (.node false (.node true el ex er) y o) V))
 (hrd:∀V p,NM X d V el p→Calls Tryz.prog 254 #[.pointer p] V fun e w'=>e=.returned (.bool false)∧w'=V) :
 Calls Tryz.prog 257 #[.pointer q,.agg #[.int .i64 x.1.kind,.int .i64 x.1.num,.string x.1.text,ku,.int .i64 x.2.kind,.int .i64 x.2.num,.string x.2.text,vu],.pointer (some ⟨b,0,none⟩)] w (zab X d (.node false (.node true el ex er) y o) w):=by
 have HR:Hid (∀V,Below w.heap.size w V→Calls Tryz.prog 254 #[.pointer (some ⟨b,0,none⟩)] V fun e w'=>e=.returned (.bool false)∧w'=V):=fun V hV=>zat b false V (hn.keeps hV).red
 have HI:Hid _:=hi
 have HM1:Hid _:=hm1;have HM2:Hid _:=hm2
 have HD:Hid _:=hd
 have HRd:Hid _:=hrd
 have HN:Hid (NCells w b pi pa y ku2 vu2 false S H K):=hn
 obtain⟨c0,c1,c2,c3,c4,c5,c6,c7,c8,c9,c10,_,_,_⟩:=hn
 have hbl:=zad c0;simp only at hbl;have hbne : ¬b=w.heap.size:=by omega
 clear hi hm1 hm2 hd hrd
 go_enter Tryz.func257,Tryz.ntmps257
 go_wp2_with fail
 refine (HR.out _ (by first|exact Below.refl _ _|exact ((Grew.refl w).alloc _).below)).mono ?_
 rintro e w1 ⟨rfl,rfl⟩
 obtain⟨W0,hW0⟩:∃W0,W0=w.alloc (.cells #[.int .i64 x.1.kind,.int .i64 x.1.num,.string x.1.text,ku,.int .i64 x.2.kind,.int .i64 x.2.num,.string x.2.text,vu] 108):=⟨_,rfl⟩
 rw [←hW0]
 have hb0:Below w.heap.size w W0:=by rw [hW0];exact ((Grew.refl w).alloc _).below
 have x0:W0.cell? ⟨w.heap.size,0,none⟩=some (.int .i64 x.1.kind):=by rw [hW0];simp
 have x1:W0.cell? ⟨w.heap.size,1,none⟩=some (.int .i64 x.1.num):=by rw [hW0];simp
 have x2:W0.cell? ⟨w.heap.size,2,none⟩=some (.string x.1.text):=by rw [hW0];simp
 have x3:W0.cell? ⟨w.heap.size,3,none⟩=some (ku):=by rw [hW0];simp
 have x4:W0.cell? ⟨w.heap.size,4,none⟩=some (.int .i64 x.2.kind):=by rw [hW0];simp
 have x5:W0.cell? ⟨w.heap.size,5,none⟩=some (.int .i64 x.2.num):=by rw [hW0];simp
 have x6:W0.cell? ⟨w.heap.size,6,none⟩=some (.string x.2.text):=by rw [hW0];simp
 have x7:W0.cell? ⟨w.heap.size,7,none⟩=some (vu):=by rw [hW0];simp
 clear hW0 HR
 have c0:=zaa hb0 c0;have c1:=zaa hb0 c1;have c2:=zaa hb0 c2;have c3:=zaa hb0 c3;have c4:=zaa hb0 c4;have c5:=zaa hb0 c5;have c6:=zaa hb0 c6;have c7:=zaa hb0 c7;have c8:=zaa hb0 c8;have c9:=zaa hb0 c9;have c10:=zaa hb0 c10
 go_wp2_with fail
 refine (HM1.out _ hb0).mono ?_
 rintro e w1 ⟨hg1,rfl⟩
 have hb1:Below w.heap.size w w1:=hb0.trans (hg1.mono hb0.size)
 have c0:=zaa hg1 c0;have c1:=zaa hg1 c1;have c2:=zaa hg1 c2;have c3:=zaa hg1 c3;have c4:=zaa hg1 c4;have c5:=zaa hg1 c5;have c6:=zaa hg1 c6;have c7:=zaa hg1 c7;have c8:=zaa hg1 c8;have c9:=zaa hg1 c9;have c10:=zaa hg1 c10;have x0:=zaa hg1 x0;have x1:=zaa hg1 x1;have x2:=zaa hg1 x2;have x3:=zaa hg1 x3;have x4:=zaa hg1 x4;have x5:=zaa hg1 x5;have x6:=zaa hg1 x6;have x7:=zaa hg1 x7
 have hf1:∀W:World,(Instr.field 171 (.agg #[.int .i64 s1,.int .i64 h1,.int .i64 k1]) 2).run Tryz.prog W=.ok (.int .i64 k1) W:=fun W=>zah _ _ _ W
 have hf2:∀W:World,(Instr.field 171 (.agg #[.int .i64 s2,.int .i64 h2,.int .i64 k2]) 2).run Tryz.prog W=.ok (.int .i64 k2) W:=fun W=>zah _ _ _ W
 clear hg1 hb0
 go_wp2_with fail
 refine (HM2.out _ (by first|exact hb1|exact hb1.alloc hb1.size _)).mono ?_
 rintro e w2 ⟨hg2,rfl⟩
 have hb2:Below w.heap.size w w2:=by first|exact hb1.trans (hg2.mono hb1.size)|exact (hb1.alloc hb1.size _).trans (hg2.mono (hb1.alloc hb1.size _).size)
 have c0:=zaa hg2 (by first|exact c0|exact zaa ((Grew.refl w1).alloc _).below c0)
 have c1:=zaa hg2 (by first|exact c1|exact zaa ((Grew.refl w1).alloc _).below c1)
 have c2:=zaa hg2 (by first|exact c2|exact zaa ((Grew.refl w1).alloc _).below c2)
 have c3:=zaa hg2 (by first|exact c3|exact zaa ((Grew.refl w1).alloc _).below c3)
 have c4:=zaa hg2 (by first|exact c4|exact zaa ((Grew.refl w1).alloc _).below c4)
 have c5:=zaa hg2 (by first|exact c5|exact zaa ((Grew.refl w1).alloc _).below c5)
 have c6:=zaa hg2 (by first|exact c6|exact zaa ((Grew.refl w1).alloc _).below c6)
 have c7:=zaa hg2 (by first|exact c7|exact zaa ((Grew.refl w1).alloc _).below c7)
 have c8:=zaa hg2 (by first|exact c8|exact zaa ((Grew.refl w1).alloc _).below c8)
 have c9:=zaa hg2 (by first|exact c9|exact zaa ((Grew.refl w1).alloc _).below c9)
 have c10:=zaa hg2 (by first|exact c10|exact zaa ((Grew.refl w1).alloc _).below c10)
 have x0:=zaa hg2 (by first|exact x0|exact zaa ((Grew.refl w1).alloc _).below x0)
 have x1:=zaa hg2 (by first|exact x1|exact zaa ((Grew.refl w1).alloc _).below x1)
 have x2:=zaa hg2 (by first|exact x2|exact zaa ((Grew.refl w1).alloc _).below x2)
 have x3:=zaa hg2 (by first|exact x3|exact zaa ((Grew.refl w1).alloc _).below x3)
 have x4:=zaa hg2 (by first|exact x4|exact zaa ((Grew.refl w1).alloc _).below x4)
 have x5:=zaa hg2 (by first|exact x5|exact zaa ((Grew.refl w1).alloc _).below x5)
 have x6:=zaa hg2 (by first|exact x6|exact zaa ((Grew.refl w1).alloc _).below x6)
 have x7:=zaa hg2 (by first|exact x7|exact zaa ((Grew.refl w1).alloc _).below x7)
 clear hg2 hb1 HM1 HM2
 go_wp2_with fail
 go_region_held3 (fun w'=>w'.cell? ⟨b,0,none⟩=some (.pointer pi)∧w'.cell? ⟨w.heap.size,0,none⟩=some (.int .i64 x.1.kind)∧w'.cell? ⟨w.heap.size,1,none⟩=some (.int .i64 x.1.num)∧w'.cell? ⟨w.heap.size,2,none⟩=some (.string x.1.text)∧w'.cell? ⟨w.heap.size,3,none⟩=some (ku)∧w'.cell? ⟨w.heap.size,4,none⟩=some (.int .i64 x.2.kind)∧w'.cell? ⟨w.heap.size,5,none⟩=some (.int .i64 x.2.num)∧w'.cell? ⟨w.heap.size,6,none⟩=some (.string x.2.text)∧w'.cell? ⟨w.heap.size,7,none⟩=some (vu)) (go_keep) (first|(go_at_call 257;refine (HI.out _ hb2.drew).mono ?_;rintro e w3 ⟨hg3,pe,rfl,ht⟩;have hb3:Below w.heap.size w w3:=hb2.drew.trans (hg3.mono hb2.drew.size);have hg3:Below w2.heap.size w2 w3:=(Below.refl _ _).drew.trans hg3;have c0:=zaa hg3 c0;have c1:=zaa hg3 c1;have c2:=zaa hg3 c2;have c3:=zaa hg3 c3;have c4:=zaa hg3 c4;have c5:=zaa hg3 c5;have c6:=zaa hg3 c6;have c7:=zaa hg3 c7;have c8:=zaa hg3 c8;have c9:=zaa hg3 c9;have c10:=zaa hg3 c10;have x0:=zaa hg3 x0;have x1:=zaa hg3 x1;have x2:=zaa hg3 x2;have x3:=zaa hg3 x3;have x4:=zaa hg3 x4;have x5:=zaa hg3 x5;have x6:=zaa hg3 x6;have x7:=zaa hg3 x7;have HT:Hid (NM X d w3 (.node true el ex er) pe):=ht;clear hg3 ht HI))
 have ht:=HT.out
 obtain⟨be,pel,per,ke,ve,rfl,hne3,hke,hve,htl,htr⟩:=ht
 obtain⟨e0,e1,e2,e3,e4,e5,e6,e7,e8,e9,e10,_,_,_⟩:=hne3
 have HKE:Hid (LiesX X d w3 ex.1.items ke∧ex.1.text.size≤9223372036854775807):=hke;have HVE:Hid (LiesX X d w3 ex.2.items ve∧ex.2.text.size≤9223372036854775807):=hve;have HTL:Hid (NM X d w3 el pel):=htl;have HTR:Hid (NM X d w3 er per):=htr
 clear hke hve htl htr x0 x1 x2 x3 x4 x5 x6 x7
 go_wp2_with fail
 refine (HRd.out _ _ HTL.out).mono ?_
 rintro e w4 ⟨rfl,rfl⟩
 go_wp2_with fail
 go_region_held3 (fun w'=>w'.cell? ⟨b,10,none⟩=some (.bool false)∧w'.cell? ⟨b,1,none⟩=some (.pointer pa)∧w'.cell? ⟨b,2,none⟩=some (.int .i64 y.1.kind)∧w'.cell? ⟨b,3,none⟩=some (.int .i64 y.1.num)∧w'.cell? ⟨b,4,none⟩=some (.string y.1.text)∧w'.cell? ⟨b,5,none⟩=some (ku2)∧w'.cell? ⟨b,6,none⟩=some (.int .i64 y.2.kind)∧w'.cell? ⟨b,7,none⟩=some (.int .i64 y.2.num)∧w'.cell? ⟨b,8,none⟩=some (.string y.2.text)∧w'.cell? ⟨b,9,none⟩=some (vu2)) (go_keep) (first|(go_at_call 234;refine (HD.out _ _ hb3.drew (HT.out.keeps (Below.refl _ _).drew)).mono ?_;rintro e w5 ⟨hg5,p5,rfl,ht5⟩;have HE:Hid (zab X d (.node false (.node true el ex er) y o) w (.returned (.pointer p5)) w5):=⟨hb3.drew.trans (hg5.mono hb3.drew.size),p5,rfl,ht5⟩;have hg6:Below w4.heap.size w4 w5:=(Below.refl _ _).drew.trans hg5;have c10:=zaa hg6 c10;have c1:=zaa hg6 c1;have c2:=zaa hg6 c2;have c3:=zaa hg6 c3;have c4:=zaa hg6 c4;have c5:=zaa hg6 c5;have c6:=zaa hg6 c6;have c7:=zaa hg6 c7;have c8:=zaa hg6 c8;have c9:=zaa hg6 c9;clear hg5 hg6 ht5 HD))
 all_goals (first|(go_ret;exact HE.out)|(go_wp2_with fail;go_ret;exact HE.out))
theorem hungL_C (X:Nat→Prop) (d:Nat) (w:World) (o el er:RT PT) (x y ex:PT) (b:Nat) (pa pi q:Option Addr) (ku vu ku2 vu2:Value) (S H K:Nat)
 (hn:NCells w b pi pa y ku2 vu2 false S H K)
 (hi:∀V,Below w.heap.size w V→Calls Tryz.prog 257 #[.pointer q,.agg #[.int .i64 x.1.kind,.int .i64 x.1.num,.string x.1.text,ku,.int .i64 x.2.kind,.int .i64 x.2.num,.string x.2.text,vu],.pointer (pi)] V (zab X d (.node true el ex er) V))
 (k1 k2 s1 s2 h1 h2:Int) (hm1:∀V,Below w.heap.size w V→Calls Tryz.prog 113 #[.pointer (q)] V (zag s1 h1 k1 V)) (hm2:∀V,Below w.heap.size w V→Calls Tryz.prog 113 #[.pointer (some ⟨b,0,none⟩)] V (zag s2 h2 k2 V)) (hne : ¬k1=k2)
 (hrd:∀V p,NM X d V el p→Calls Tryz.prog 254 #[.pointer p] V fun e w'=>e=.returned (.bool true)∧w'=V)
 (hin:∀V p,Below w.heap.size w V→NM X d V er p→Calls Tryz.prog 234 #[.bool false,.pointer p,.agg #[.int .i64 y.1.kind,.int .i64 y.1.num,.string y.1.text,ku2,.int .i64 y.2.kind,.int .i64 y.2.num,.string y.2.text,vu2],.pointer pa] V (zab X d (.node false er y o) V))
 (hbl:∀V p,NM X d V el p→Calls Tryz.prog 200 #[.pointer p] V (zab X d el.black V))
 (hout:∀V p1 p2 k3 v3,NM X d V el.black p1→NM X d V (.node false er y o) p2→(LiesX X d V ex.1.items k3∧ex.1.text.size≤9223372036854775807)→(LiesX X d V ex.2.items v3∧ex.2.text.size≤9223372036854775807)→Calls Tryz.prog 234 #[.bool true,.pointer p1,.agg #[.int .i64 ex.1.kind,.int .i64 ex.1.num,.string ex.1.text,k3,.int .i64 ex.2.kind,.int .i64 ex.2.num,.string ex.2.text,v3],.pointer p2] V (zab X d (.node true el.black ex (.node false er y o)) V)) :
 Calls Tryz.prog 257 #[.pointer q,.agg #[.int .i64 x.1.kind,.int .i64 x.1.num,.string x.1.text,ku,.int .i64 x.2.kind,.int .i64 x.2.num,.string x.2.text,vu],.pointer (some ⟨b,0,none⟩)] w (zab X d (.node true el.black ex (.node false er y o)) w):=by
 have HR:Hid (∀V,Below w.heap.size w V→Calls Tryz.prog 254 #[.pointer (some ⟨b,0,none⟩)] V fun e w'=>e=.returned (.bool false)∧w'=V):=fun V hV=>zat b false V (hn.keeps hV).red
 have HI:Hid _:=hi
 have HM1:Hid _:=hm1;have HM2:Hid _:=hm2
 have HRd:Hid _:=hrd
 have HIn:Hid _:=hin;have HBl:Hid _:=hbl;have HOut:Hid _:=hout
 have HN:Hid (NCells w b pi pa y ku2 vu2 false S H K):=hn
 obtain⟨c0,c1,c2,c3,c4,c5,c6,c7,c8,c9,c10,_,_,_⟩:=hn
 have hbl:=zad c0;simp only at hbl;have hbne : ¬b=w.heap.size:=by omega
 clear hi hm1 hm2 hrd hin  hout
 go_enter Tryz.func257,Tryz.ntmps257
 go_wp2_with fail
 refine (HR.out _ (by first|exact Below.refl _ _|exact ((Grew.refl w).alloc _).below)).mono ?_
 rintro e w1 ⟨rfl,rfl⟩
 obtain⟨W0,hW0⟩:∃W0,W0=w.alloc (.cells #[.int .i64 x.1.kind,.int .i64 x.1.num,.string x.1.text,ku,.int .i64 x.2.kind,.int .i64 x.2.num,.string x.2.text,vu] 108):=⟨_,rfl⟩
 rw [←hW0]
 have hb0:Below w.heap.size w W0:=by rw [hW0];exact ((Grew.refl w).alloc _).below
 have x0:W0.cell? ⟨w.heap.size,0,none⟩=some (.int .i64 x.1.kind):=by rw [hW0];simp
 have x1:W0.cell? ⟨w.heap.size,1,none⟩=some (.int .i64 x.1.num):=by rw [hW0];simp
 have x2:W0.cell? ⟨w.heap.size,2,none⟩=some (.string x.1.text):=by rw [hW0];simp
 have x3:W0.cell? ⟨w.heap.size,3,none⟩=some (ku):=by rw [hW0];simp
 have x4:W0.cell? ⟨w.heap.size,4,none⟩=some (.int .i64 x.2.kind):=by rw [hW0];simp
 have x5:W0.cell? ⟨w.heap.size,5,none⟩=some (.int .i64 x.2.num):=by rw [hW0];simp
 have x6:W0.cell? ⟨w.heap.size,6,none⟩=some (.string x.2.text):=by rw [hW0];simp
 have x7:W0.cell? ⟨w.heap.size,7,none⟩=some (vu):=by rw [hW0];simp
 clear hW0 HR
 have c0:=zaa hb0 c0;have c1:=zaa hb0 c1;have c2:=zaa hb0 c2;have c3:=zaa hb0 c3;have c4:=zaa hb0 c4;have c5:=zaa hb0 c5;have c6:=zaa hb0 c6;have c7:=zaa hb0 c7;have c8:=zaa hb0 c8;have c9:=zaa hb0 c9;have c10:=zaa hb0 c10
 go_wp2_with fail
 refine (HM1.out _ hb0).mono ?_
 rintro e w1 ⟨hg1,rfl⟩
 have hb1:Below w.heap.size w w1:=hb0.trans (hg1.mono hb0.size)
 have c0:=zaa hg1 c0;have c1:=zaa hg1 c1;have c2:=zaa hg1 c2;have c3:=zaa hg1 c3;have c4:=zaa hg1 c4;have c5:=zaa hg1 c5;have c6:=zaa hg1 c6;have c7:=zaa hg1 c7;have c8:=zaa hg1 c8;have c9:=zaa hg1 c9;have c10:=zaa hg1 c10;have x0:=zaa hg1 x0;have x1:=zaa hg1 x1;have x2:=zaa hg1 x2;have x3:=zaa hg1 x3;have x4:=zaa hg1 x4;have x5:=zaa hg1 x5;have x6:=zaa hg1 x6;have x7:=zaa hg1 x7
 have hf1:∀W:World,(Instr.field 171 (.agg #[.int .i64 s1,.int .i64 h1,.int .i64 k1]) 2).run Tryz.prog W=.ok (.int .i64 k1) W:=fun W=>zah _ _ _ W
 have hf2:∀W:World,(Instr.field 171 (.agg #[.int .i64 s2,.int .i64 h2,.int .i64 k2]) 2).run Tryz.prog W=.ok (.int .i64 k2) W:=fun W=>zah _ _ _ W
 clear hg1 hb0
 go_wp2_with fail
 refine (HM2.out _ (by first|exact hb1|exact hb1.alloc hb1.size _)).mono ?_
 rintro e w2 ⟨hg2,rfl⟩
 have hb2:Below w.heap.size w w2:=by first|exact hb1.trans (hg2.mono hb1.size)|exact (hb1.alloc hb1.size _).trans (hg2.mono (hb1.alloc hb1.size _).size)
 have c0:=zaa hg2 (by first|exact c0|exact zaa ((Grew.refl w1).alloc _).below c0)
 have c1:=zaa hg2 (by first|exact c1|exact zaa ((Grew.refl w1).alloc _).below c1)
 have c2:=zaa hg2 (by first|exact c2|exact zaa ((Grew.refl w1).alloc _).below c2)
 have c3:=zaa hg2 (by first|exact c3|exact zaa ((Grew.refl w1).alloc _).below c3)
 have c4:=zaa hg2 (by first|exact c4|exact zaa ((Grew.refl w1).alloc _).below c4)
 have c5:=zaa hg2 (by first|exact c5|exact zaa ((Grew.refl w1).alloc _).below c5)
 have c6:=zaa hg2 (by first|exact c6|exact zaa ((Grew.refl w1).alloc _).below c6)
 have c7:=zaa hg2 (by first|exact c7|exact zaa ((Grew.refl w1).alloc _).below c7)
 have c8:=zaa hg2 (by first|exact c8|exact zaa ((Grew.refl w1).alloc _).below c8)
 have c9:=zaa hg2 (by first|exact c9|exact zaa ((Grew.refl w1).alloc _).below c9)
 have c10:=zaa hg2 (by first|exact c10|exact zaa ((Grew.refl w1).alloc _).below c10)
 have x0:=zaa hg2 (by first|exact x0|exact zaa ((Grew.refl w1).alloc _).below x0)
 have x1:=zaa hg2 (by first|exact x1|exact zaa ((Grew.refl w1).alloc _).below x1)
 have x2:=zaa hg2 (by first|exact x2|exact zaa ((Grew.refl w1).alloc _).below x2)
 have x3:=zaa hg2 (by first|exact x3|exact zaa ((Grew.refl w1).alloc _).below x3)
 have x4:=zaa hg2 (by first|exact x4|exact zaa ((Grew.refl w1).alloc _).below x4)
 have x5:=zaa hg2 (by first|exact x5|exact zaa ((Grew.refl w1).alloc _).below x5)
 have x6:=zaa hg2 (by first|exact x6|exact zaa ((Grew.refl w1).alloc _).below x6)
 have x7:=zaa hg2 (by first|exact x7|exact zaa ((Grew.refl w1).alloc _).below x7)
 clear hg2 hb1 HM1 HM2
 go_wp2_with fail
 go_region_held3 (fun w'=>w'.cell? ⟨b,0,none⟩=some (.pointer pi)∧w'.cell? ⟨w.heap.size,0,none⟩=some (.int .i64 x.1.kind)∧w'.cell? ⟨w.heap.size,1,none⟩=some (.int .i64 x.1.num)∧w'.cell? ⟨w.heap.size,2,none⟩=some (.string x.1.text)∧w'.cell? ⟨w.heap.size,3,none⟩=some (ku)∧w'.cell? ⟨w.heap.size,4,none⟩=some (.int .i64 x.2.kind)∧w'.cell? ⟨w.heap.size,5,none⟩=some (.int .i64 x.2.num)∧w'.cell? ⟨w.heap.size,6,none⟩=some (.string x.2.text)∧w'.cell? ⟨w.heap.size,7,none⟩=some (vu)) (go_keep) (first|(go_at_call 257;refine (HI.out _ hb2.drew).mono ?_;rintro e w3 ⟨hg3,pe,rfl,ht⟩;have hb3:Below w.heap.size w w3:=hb2.drew.trans (hg3.mono hb2.drew.size);have hg3:Below w2.heap.size w2 w3:=(Below.refl _ _).drew.trans hg3;have c0:=zaa hg3 c0;have c1:=zaa hg3 c1;have c2:=zaa hg3 c2;have c3:=zaa hg3 c3;have c4:=zaa hg3 c4;have c5:=zaa hg3 c5;have c6:=zaa hg3 c6;have c7:=zaa hg3 c7;have c8:=zaa hg3 c8;have c9:=zaa hg3 c9;have c10:=zaa hg3 c10;have x0:=zaa hg3 x0;have x1:=zaa hg3 x1;have x2:=zaa hg3 x2;have x3:=zaa hg3 x3;have x4:=zaa hg3 x4;have x5:=zaa hg3 x5;have x6:=zaa hg3 x6;have x7:=zaa hg3 x7;have HT:Hid (NM X d w3 (.node true el ex er) pe):=ht;clear hg3 ht HI))
 have ht:=HT.out
 obtain⟨be,pel,per,ke,ve,rfl,hne3,hke,hve,htl,htr⟩:=ht
 obtain⟨e0,e1,e2,e3,e4,e5,e6,e7,e8,e9,e10,_,_,_⟩:=hne3
 have HKE:Hid (LiesX X d w3 ex.1.items ke∧ex.1.text.size≤9223372036854775807):=hke;have HVE:Hid (LiesX X d w3 ex.2.items ve∧ex.2.text.size≤9223372036854775807):=hve;have HTL:Hid (NM X d w3 el pel):=htl;have HTR:Hid (NM X d w3 er per):=htr
 clear hke hve htl htr x0 x1 x2 x3 x4 x5 x6 x7
 go_wp2_with fail
 refine (HRd.out _ _ HTL.out).mono ?_
 rintro e w4 ⟨rfl,rfl⟩
 go_wp2_with fail
 have hbc:Below w4.heap.size w4 w4.drew:=(Below.refl _ _).drew
 go_region_held3 (fun w'=>w'.cell? ⟨b,1,none⟩=some (.pointer pa)∧w'.cell? ⟨b,2,none⟩=some (.int .i64 y.1.kind)∧w'.cell? ⟨b,3,none⟩=some (.int .i64 y.1.num)∧w'.cell? ⟨b,4,none⟩=some (.string y.1.text)∧w'.cell? ⟨b,5,none⟩=some (ku2)∧w'.cell? ⟨b,6,none⟩=some (.int .i64 y.2.kind)∧w'.cell? ⟨b,7,none⟩=some (.int .i64 y.2.num)∧w'.cell? ⟨b,8,none⟩=some (.string y.2.text)∧w'.cell? ⟨b,9,none⟩=some (vu2)∧w'.cell? ⟨be,0,none⟩=some (.pointer pel)∧w'.cell? ⟨be,1,none⟩=some (.pointer per)∧w'.cell? ⟨be,2,none⟩=some (.int .i64 ex.1.kind)∧w'.cell? ⟨be,3,none⟩=some (.int .i64 ex.1.num)∧w'.cell? ⟨be,4,none⟩=some (.string ex.1.text)∧w'.cell? ⟨be,5,none⟩=some (ke)∧w'.cell? ⟨be,6,none⟩=some (.int .i64 ex.2.kind)∧w'.cell? ⟨be,7,none⟩=some (.int .i64 ex.2.num)∧w'.cell? ⟨be,8,none⟩=some (.string ex.2.text)∧w'.cell? ⟨be,9,none⟩=some (ve)) (go_keep) (first
  | (go_at_call 234;refine (HOut.out _ _ _ _ _ HP.out HQ.out ⟨LiesX.keeps hbc HKE.out.1,HKE.out.2⟩ ⟨LiesX.keeps hbc HVE.out.1,HVE.out.2⟩).mono ?_;rintro e w7 ⟨hg,p7,rfl,ht⟩;have HE:Hid (zab X d (.node true el.black ex (.node false er y o)) w (.returned (.pointer p7)) w7):=⟨(hb3.trans (hbc.mono hb3.size)).trans (hg.mono (hb3.trans (hbc.mono hb3.size)).size),p7,rfl,ht⟩;have c1:=zaa hg c1;have c2:=zaa hg c2;have c3:=zaa hg c3;have c4:=zaa hg c4;have c5:=zaa hg c5;have c6:=zaa hg c6;have c7:=zaa hg c7;have c8:=zaa hg c8;have c9:=zaa hg c9;have e0:=zaa hg e0;have e1:=zaa hg e1;have e2:=zaa hg e2;have e3:=zaa hg e3;have e4:=zaa hg e4;have e5:=zaa hg e5;have e6:=zaa hg e6;have e7:=zaa hg e7;have e8:=zaa hg e8;have e9:=zaa hg e9;clear hg ht)
  | (go_at_call 234;refine (HIn.out _ _ (hb3.trans (hbc.mono hb3.size)) (HTR.out.keeps hbc)).mono ?_;rintro e w5 ⟨hg,p5,rfl,ht⟩;have HQ:Hid (NM X d w5 (.node false er y o) p5):=ht;(try have HP:Hid (NM X d w5 el.black _):=HP.out.keeps hg);replace hbc:=hbc.trans (hg.mono hbc.size);have c1:=zaa hg c1;have c2:=zaa hg c2;have c3:=zaa hg c3;have c4:=zaa hg c4;have c5:=zaa hg c5;have c6:=zaa hg c6;have c7:=zaa hg c7;have c8:=zaa hg c8;have c9:=zaa hg c9;have e0:=zaa hg e0;have e1:=zaa hg e1;have e2:=zaa hg e2;have e3:=zaa hg e3;have e4:=zaa hg e4;have e5:=zaa hg e5;have e6:=zaa hg e6;have e7:=zaa hg e7;have e8:=zaa hg e8;have e9:=zaa hg e9;clear hg ht)
  | (go_at_call 200;refine (HBl.out _ _ (HTL.out.keeps hbc)).mono ?_;rintro e w6 ⟨hg,p6,rfl,ht⟩;have HP:Hid (NM X d w6 el.black p6):=ht;(try have HQ:Hid (NM X d w6 (.node false er y o) _):=HQ.out.keeps hg);replace hbc:=hbc.trans (hg.mono hbc.size);have c1:=zaa hg c1;have c2:=zaa hg c2;have c3:=zaa hg c3;have c4:=zaa hg c4;have c5:=zaa hg c5;have c6:=zaa hg c6;have c7:=zaa hg c7;have c8:=zaa hg c8;have c9:=zaa hg c9;have e0:=zaa hg e0;have e1:=zaa hg e1;have e2:=zaa hg e2;have e3:=zaa hg e3;have e4:=zaa hg e4;have e5:=zaa hg e5;have e6:=zaa hg e6;have e7:=zaa hg e7;have e8:=zaa hg e8;have e9:=zaa hg e9;clear hg ht))
 all_goals (first|(go_ret;exact HE.out)|(go_wp2_with fail;go_ret;exact HE.out))
theorem hungR_node {α:Type} (x:α) (r:RT α):∀(l:RT α),∃c a b e,RT.hungR l x r=.node c a b e
 | .nil=>⟨_,_,_,_,rfl⟩
 | .node c l y rr=>by
  unfold RT.hungR
  split
  ·exact⟨_,_,_,_,rfl⟩
  ·unfold RT.turnR
   split <;> exact⟨_,_,_,_,rfl⟩
theorem hungR_size {α:Type} (l:RT α) (x:α) (r:RT α):(RT.hungR l x r).size=l.size+1+r.size:=by
 rw [RT.size_items,RT.hungR_items,RT.size_items l,RT.size_items r];simp;omega
theorem hungR_any (X:Nat→Prop) (d:Nat) (s:RT PT) (x:PT) (q:Option Addr) (ku vu:Value):∀(t:RT PT) (p:Option Addr) (m k:Nat) (w:World),RT.BH t m→RT.BH s k→k≤m→NM X d w t p→NM X d w s q→(LiesX X d w x.1.items ku∧x.1.text.size≤9223372036854775807)→(LiesX X d w x.2.items vu∧x.2.text.size≤9223372036854775807)→t.size+1+s.size<4611686018427387904→
 Calls Tryz.prog 256 #[.pointer p,.agg #[.int .i64 x.1.kind,.int .i64 x.1.num,.string x.1.text,ku,.int .i64 x.2.kind,.int .i64 x.2.num,.string x.2.text,vu],.pointer q] w (zab X d (RT.hungR t x s) w)
 | .nil,p,m,k,w,hm,hk,hkm,ht,hs,hx1,hx2,hz=>by
  have hm0:m=0:=hm
  have e:RT.blacks s=0:=by rw [hk.blacks];omega
  have h9:=hungR_here X d w RT.nil s x p q ku vu ht hs hx1 hx2 (by simpa [RT.size] using hz) rfl (by rw [e];rfl)
  exact h9
 | .node c l0 y rr,p,m,k,w,hm,hk,hkm,ht,hs,hx1,hx2,hz=>by
  by_cases hc:c=false∧RT.blacks (.node c l0 y rr)=RT.blacks s
  ·have e9:RT.hungR (.node c l0 y rr) x s=.node true (.node c l0 y rr) x s:=by
    show (if _ then _ else _)=_
    rw [if_pos hc]
   rw [e9]
   exact hungR_here X d w (.node c l0 y rr) s x p q ku vu ht hs hx1 hx2 (hz) hc.1 hc.2
  ·obtain⟨m',hm',hl,hr⟩:=hm
   have hb:RT.blacks (.node c l0 y rr)=m:=RT.BH.blacks (t:=.node c l0 y rr) ⟨m',hm',hl,hr⟩
   have hbs:=hk.blacks
   have hkm':k≤m':=by
    cases c with
    | true=>simp at hm';omega
    | false=>
     have : ¬RT.blacks (.node false l0 y rr)=RT.blacks s:=fun e=>hc ⟨rfl,e⟩
     simp at hm'
     omega
   have hzz:(RT.node c l0 y rr).size=l0.size+1+rr.size:=rfl
   have hsz:(RT.hungR rr x s).size=rr.size+1+s.size:=hungR_size _ _ _
   have e9:RT.hungR (.node c l0 y rr) x s=RT.turnR c l0 y (RT.hungR rr x s):=by
    show (if _ then _ else _)=_
    rw [if_neg hc]
   rw [e9]
   obtain⟨b,pl0,pr0,ku2,vu2,rfl,hn,hy1,hy2,hnl,hnr⟩:=ht
   have hi:∀V,Below w.heap.size w V→Calls Tryz.prog 256 #[.pointer pr0,.agg #[.int .i64 x.1.kind,.int .i64 x.1.num,.string x.1.text,ku,.int .i64 x.2.kind,.int .i64 x.2.num,.string x.2.text,vu],.pointer q] V (zab X d (RT.hungR rr x s) V):=fun V hV=>hungR_any X d s x q ku vu rr pr0 m' k V hr hk hkm' (hnr.keeps hV) (hs.keeps hV) ⟨LiesX.keeps hV hx1.1,hx1.2⟩ ⟨LiesX.keeps hV hx2.1,hx2.2⟩ (by omega)
   have ho:NM X d w l0 pl0:=hnl
   have htt:NM X d w (.node c l0 y rr) (some ⟨b,0,none⟩):=⟨b,pl0,pr0,ku2,vu2,rfl,hn,hy1,hy2,hnl,hnr⟩
   obtain⟨ec,el,ex,er,hEe⟩:=hungR_node x s rr
   obtain⟨E,hE0⟩:∃E,E=RT.hungR rr x s:=⟨_,rfl⟩
   rw [←hE0] at hsz hi hEe ⊢
   have hmade:∀c V pe,Below w.heap.size w V→NM X d V E pe→Calls Tryz.prog 234 #[.bool c,.pointer pl0,.agg #[.int .i64 y.1.kind,.int .i64 y.1.num,.string y.1.text,ku2,.int .i64 y.2.kind,.int .i64 y.2.num,.string y.2.text,vu2],.pointer pe] V (zab X d (.node c l0 y E) V):=fun c V pe hV hE=>made_14 X d V c l0 E y pl0 pe ku2 vu2 (ho.keeps hV) hE ⟨LiesX.keeps hV hy1.1,hy1.2⟩ ⟨LiesX.keeps hV hy2.1,hy2.2⟩ (by omega)
   cases c with
   | true=>
    subst hEe
    exact hungR_red X d w l0 el er x y ex b pl0 pr0 q ku vu ku2 vu2 _ _ _ ec hn hi (hmade true)
   | false=>
    have hne : ¬((RT.blacks (.node false l0 y rr):Int)=(RT.blacks s:Int)):=fun e=>hc ⟨rfl,by omega⟩
    have g1:=fun V (hV:Below w.heap.size w V)=>zaj (htt.keeps hV)
    have g2:=fun V (hV:Below w.heap.size w V)=>zaj (hs.keeps hV)
    cases ec with
    | false=>
     subst hEe
     exact hungR_A X d w l0 el er x y ex b pl0 pr0 q ku vu ku2 vu2 _ _ _ hn hi _ _ _ _ _ _ g1 g2 hne (hmade false)
    | true=>
     cases hred:RT.isRed er with
     | false=>
      subst hEe
      have e8:RT.turnR false l0 y (.node true el ex er)=.node false l0 y (.node true el ex er):=by
       cases er with
       | nil=>rfl
       | node c9 a9 b9 d9=>
        cases c9 with
        | false=>rfl
        | true=>cases hred
      rw [e8]
      exact hungR_B X d w l0 el er x y ex b pl0 pr0 q ku vu ku2 vu2 _ _ _ hn hi _ _ _ _ _ _ g1 g2 hne (hmade false) (fun V p hp=>by rw [←hred];exact isRed_14 hp)
     | true=>
      subst hEe
      have e8:RT.turnR false l0 y (.node true el ex er)=.node true (.node false l0 y el) ex er.black:=by
       cases er with
       | nil=>cases hred
       | node c9 a9 b9 d9=>
        cases c9 with
        | false=>cases hred
        | true=>rfl
      have hsz':el.size+1+er.size=rr.size+1+s.size:=hsz
      have hbs9:(er).black.size=(er).size:=by rw [RT.size_items,RT.black_items,←RT.size_items]
      rw [e8]
      exact hungR_C X d w l0 el er x y ex b pl0 pr0 q ku vu ku2 vu2 _ _ _ hn hi _ _ _ _ _ _ g1 g2 hne (fun V p hp=>by rw [←hred];exact isRed_14 hp)
       (fun V p hV hp=>made_14 X d V false l0 el y pl0 p ku2 vu2 (ho.keeps hV) hp ⟨LiesX.keeps hV hy1.1,hy1.2⟩ ⟨LiesX.keeps hV hy2.1,hy2.2⟩ (by omega))
       (fun V p hp=>black_14 hp (by omega))
       (fun V p1 p2 k3 v3 h1 h2 h3 h4=>made_14 X d V true _ _ ex p1 p2 k3 v3 h1 h2 h3 h4 (by
        show (l0.size+1+el.size)+1+er.black.size<_
        omega))
theorem hungL_node {α:Type} (x:α) (l:RT α):∀(r:RT α),∃c a b e,RT.hungL l x r=.node c a b e
 | .nil=>by cases l <;> exact⟨_,_,_,_,rfl⟩
 | .node c ll y r=>by
  unfold RT.hungL
  split
  ·exact⟨_,_,_,_,rfl⟩
  ·unfold RT.turnL
   split <;> exact⟨_,_,_,_,rfl⟩
theorem hungL_size {α:Type} (l:RT α) (x:α) (r:RT α):(RT.hungL l x r).size=l.size+1+r.size:=by
 rw [RT.size_items,RT.hungL_items,RT.size_items l,RT.size_items r];simp;omega
theorem hungL_any (X:Nat→Prop) (d:Nat) (s:RT PT) (x:PT) (q:Option Addr) (ku vu:Value):∀(t:RT PT) (p:Option Addr) (m k:Nat) (w:World),RT.BH t m→RT.BH s k→k≤m→NM X d w t p→NM X d w s q→(LiesX X d w x.1.items ku∧x.1.text.size≤9223372036854775807)→(LiesX X d w x.2.items vu∧x.2.text.size≤9223372036854775807)→t.size+1+s.size<4611686018427387904→
 Calls Tryz.prog 257 #[.pointer q,.agg #[.int .i64 x.1.kind,.int .i64 x.1.num,.string x.1.text,ku,.int .i64 x.2.kind,.int .i64 x.2.num,.string x.2.text,vu],.pointer p] w (zab X d (RT.hungL s x t) w)
 | .nil,p,m,k,w,hm,hk,hkm,ht,hs,hx1,hx2,hz=>by
  have hm0:m=0:=hm
  have e:RT.blacks s=0:=by rw [hk.blacks];omega
  have h9:=hungL_here X d w s RT.nil x q p ku vu hs ht hx1 hx2 (by simpa [RT.size,Nat.add_comm] using hz) rfl (by rw [e];rfl)
  have e9:RT.hungL s x RT.nil=.node true s x .nil:=by cases s <;> rfl
  rw [e9];exact h9
 | .node c l0 y rr,p,m,k,w,hm,hk,hkm,ht,hs,hx1,hx2,hz=>by
  by_cases hc:c=false∧RT.blacks s=RT.blacks (.node c l0 y rr)
  ·have e9:RT.hungL s x (.node c l0 y rr)=.node true s x (.node c l0 y rr):=by
    cases s <;> show (if _ then _ else _)=_
    all_goals rw [if_pos hc]
   rw [e9]
   exact hungL_here X d w s (.node c l0 y rr) x q p ku vu hs ht hx1 hx2 (by omega) hc.1 hc.2
  ·obtain⟨m',hm',hl,hr⟩:=hm
   have hb:RT.blacks (.node c l0 y rr)=m:=RT.BH.blacks (t:=.node c l0 y rr) ⟨m',hm',hl,hr⟩
   have hbs:=hk.blacks
   have hkm':k≤m':=by
    cases c with
    | true=>simp at hm';omega
    | false=>
     have : ¬RT.blacks (.node false l0 y rr)=RT.blacks s:=fun e=>hc ⟨rfl,e.symm⟩
     simp at hm'
     omega
   have hzz:(RT.node c l0 y rr).size=l0.size+1+rr.size:=rfl
   have hsz:(RT.hungL s x l0).size=s.size+1+l0.size:=hungL_size _ _ _
   have e9:RT.hungL s x (.node c l0 y rr)=RT.turnL c (RT.hungL s x l0) y rr:=by
    cases s <;> show (if _ then _ else _)=_
    all_goals rw [if_neg hc]
   rw [e9]
   obtain⟨b,pl0,pr0,ku2,vu2,rfl,hn,hy1,hy2,hnl,hnr⟩:=ht
   have hi:∀V,Below w.heap.size w V→Calls Tryz.prog 257 #[.pointer q,.agg #[.int .i64 x.1.kind,.int .i64 x.1.num,.string x.1.text,ku,.int .i64 x.2.kind,.int .i64 x.2.num,.string x.2.text,vu],.pointer pl0] V (zab X d (RT.hungL s x l0) V):=fun V hV=>hungL_any X d s x q ku vu l0 pl0 m' k V hl hk hkm' (hnl.keeps hV) (hs.keeps hV) ⟨LiesX.keeps hV hx1.1,hx1.2⟩ ⟨LiesX.keeps hV hx2.1,hx2.2⟩ (by omega)
   have ho:NM X d w rr pr0:=hnr
   have htt:NM X d w (.node c l0 y rr) (some ⟨b,0,none⟩):=⟨b,pl0,pr0,ku2,vu2,rfl,hn,hy1,hy2,hnl,hnr⟩
   obtain⟨ec,el,ex,er,hEe⟩:=hungL_node x s l0
   obtain⟨E,hE0⟩:∃E,E=RT.hungL s x l0:=⟨_,rfl⟩
   rw [←hE0] at hsz hi hEe ⊢
   have hmade:∀c V pe,Below w.heap.size w V→NM X d V E pe→Calls Tryz.prog 234 #[.bool c,.pointer pe,.agg #[.int .i64 y.1.kind,.int .i64 y.1.num,.string y.1.text,ku2,.int .i64 y.2.kind,.int .i64 y.2.num,.string y.2.text,vu2],.pointer pr0] V (zab X d (.node c E y rr) V):=fun c V pe hV hE=>made_14 X d V c E rr y pe pr0 ku2 vu2 hE (ho.keeps hV) ⟨LiesX.keeps hV hy1.1,hy1.2⟩ ⟨LiesX.keeps hV hy2.1,hy2.2⟩ (by omega)
   cases c with
   | true=>
    subst hEe
    exact hungL_red X d w rr el er x y ex b pr0 pl0 q ku vu ku2 vu2 _ _ _ ec hn hi (hmade true)
   | false=>
    have hne : ¬((RT.blacks s:Int)=(RT.blacks (.node false l0 y rr):Int)):=fun e=>hc ⟨rfl,by omega⟩
    have g1:=fun V (hV:Below w.heap.size w V)=>zaj (htt.keeps hV)
    have g2:=fun V (hV:Below w.heap.size w V)=>zaj (hs.keeps hV)
    cases ec with
    | false=>
     subst hEe
     exact hungL_A X d w rr el er x y ex b pr0 pl0 q ku vu ku2 vu2 _ _ _ hn hi _ _ _ _ _ _ g2 g1 hne (hmade false)
    | true=>
     cases hred:RT.isRed el with
     | false=>
      subst hEe
      have e8:RT.turnL false (.node true el ex er) y rr=.node false (.node true el ex er) y rr:=by
       cases el with
       | nil=>rfl
       | node c9 a9 b9 d9=>
        cases c9 with
        | false=>rfl
        | true=>cases hred
      rw [e8]
      exact hungL_B X d w rr el er x y ex b pr0 pl0 q ku vu ku2 vu2 _ _ _ hn hi _ _ _ _ _ _ g2 g1 hne (hmade false) (fun V p hp=>by rw [←hred];exact isRed_14 hp)
     | true=>
      subst hEe
      have e8:RT.turnL false (.node true el ex er) y rr=.node true el.black ex (.node false er y rr):=by
       cases el with
       | nil=>cases hred
       | node c9 a9 b9 d9=>
        cases c9 with
        | false=>cases hred
        | true=>rfl
      have hsz':el.size+1+er.size=s.size+1+l0.size:=hsz
      have hbs9:(el).black.size=(el).size:=by rw [RT.size_items,RT.black_items,←RT.size_items]
      rw [e8]
      exact hungL_C X d w rr el er x y ex b pr0 pl0 q ku vu ku2 vu2 _ _ _ hn hi _ _ _ _ _ _ g2 g1 hne (fun V p hp=>by rw [←hred];exact isRed_14 hp)
       (fun V p hV hp=>made_14 X d V false er rr y p pr0 ku2 vu2 hp (ho.keeps hV) ⟨LiesX.keeps hV hy1.1,hy1.2⟩ ⟨LiesX.keeps hV hy2.1,hy2.2⟩ (by omega))
       (fun V p hp=>black_14 hp (by omega))
       (fun V p1 p2 k3 v3 h1 h2 h3 h4=>made_14 X d V true _ _ ex p1 p2 k3 v3 h1 h2 h3 h4 (by
        show el.black.size+1+(er.size+1+rr.size)<_
        omega))
theorem join_size {α:Type} (l:RT α) (x:α) (r:RT α):(RT.join l x r).size=l.size+1+r.size:=by
 rw [RT.size_items,RT.join_items,RT.size_items l,RT.size_items r];simp;omega
theorem join_core (X:Nat→Prop) (d:Nat) (w:World) (l r T:RT PT) (x:PT) (pl pr:Option Addr) (ku vu:Value) (c:Nat)
 (h1:∀V,Below w.heap.size w V→Calls Tryz.prog 200 #[.pointer pl] V (zab X d l.black V)) (h2:∀V,Below w.heap.size w V→Calls Tryz.prog 200 #[.pointer pr] V (zab X d r.black V))
 (hlt:c=0→¬((r.black.blacks:Int)<(l.black.blacks:Int))∧¬((l.black.blacks:Int)<(r.black.blacks:Int))∧∀V p q,Below w.heap.size w V→NM X d V l.black p→NM X d V r.black q→Calls Tryz.prog 234 #[.bool true,.pointer p,.agg #[.int .i64 x.1.kind,.int .i64 x.1.num,.string x.1.text,ku,.int .i64 x.2.kind,.int .i64 x.2.num,.string x.2.text,vu],.pointer q] V (zab X d T V))
 (hgt:c=1→((r.black.blacks:Int)<(l.black.blacks:Int))∧∀V p q,Below w.heap.size w V→NM X d V l.black p→NM X d V r.black q→Calls Tryz.prog 256 #[.pointer p,.agg #[.int .i64 x.1.kind,.int .i64 x.1.num,.string x.1.text,ku,.int .i64 x.2.kind,.int .i64 x.2.num,.string x.2.text,vu],.pointer q] V (zab X d T V))
 (hls:c=2→¬((r.black.blacks:Int)<(l.black.blacks:Int))∧((l.black.blacks:Int)<(r.black.blacks:Int))∧∀V p q,Below w.heap.size w V→NM X d V l.black p→NM X d V r.black q→Calls Tryz.prog 257 #[.pointer p,.agg #[.int .i64 x.1.kind,.int .i64 x.1.num,.string x.1.text,ku,.int .i64 x.2.kind,.int .i64 x.2.num,.string x.2.text,vu],.pointer q] V (zab X d T V))
 (hc:c=0∨c=1∨c=2) :
 Calls Tryz.prog 204 #[.pointer pl,.agg #[.int .i64 x.1.kind,.int .i64 x.1.num,.string x.1.text,ku,.int .i64 x.2.kind,.int .i64 x.2.num,.string x.2.text,vu],.pointer pr] w (zab X d T w):=by
 have H1:Hid _:=h1
 have H2:Hid _:=h2
 have HL:Hid _:=hlt
 have HG:Hid _:=hgt
 have HS:Hid _:=hls
 have HC:Hid _:=hc
 clear h1 h2 hlt hgt hls hc
 go_enter Tryz.func204,Tryz.ntmps204
 go_wp2_with fail
 obtain⟨W0,hW0⟩:∃W0,W0=w.alloc (.cells #[.int .i64 x.1.kind,.int .i64 x.1.num,.string x.1.text,ku,.int .i64 x.2.kind,.int .i64 x.2.num,.string x.2.text,vu] 108):=⟨_,rfl⟩
 rw [←hW0]
 have hb0:Below w.heap.size w W0:=by rw [hW0];exact ((Grew.refl w).alloc _).below
 have x0:W0.cell? ⟨w.heap.size,0,none⟩=some (.int .i64 x.1.kind):=by rw [hW0];simp
 have x1:W0.cell? ⟨w.heap.size,1,none⟩=some (.int .i64 x.1.num):=by rw [hW0];simp
 have x2:W0.cell? ⟨w.heap.size,2,none⟩=some (.string x.1.text):=by rw [hW0];simp
 have x3:W0.cell? ⟨w.heap.size,3,none⟩=some ku:=by rw [hW0];simp
 have x4:W0.cell? ⟨w.heap.size,4,none⟩=some (.int .i64 x.2.kind):=by rw [hW0];simp
 have x5:W0.cell? ⟨w.heap.size,5,none⟩=some (.int .i64 x.2.num):=by rw [hW0];simp
 have x6:W0.cell? ⟨w.heap.size,6,none⟩=some (.string x.2.text):=by rw [hW0];simp
 have x7:W0.cell? ⟨w.heap.size,7,none⟩=some vu:=by rw [hW0];simp
 clear hW0
 refine (H1.out _ hb0).mono ?_
 rintro e w1 ⟨hg1,p1,rfl,ht1⟩
 have hb1:Below w.heap.size w w1:=hb0.trans (hg1.mono hb0.size)
 go_wp2_with fail
 refine (H2.out _ hb1).mono ?_
 rintro e w2 ⟨hg2,p2,rfl,ht2⟩
 have hb2:Below w.heap.size w w2:=hb1.trans (hg2.mono hb1.size)
 have HT1:Hid (NM X d w2 l.black p1):=ht1.keeps hg2
 have HT2:Hid (NM X d w2 r.black p2):=ht2
 have hg:Below W0.heap.size W0 w2:=hg1.trans (hg2.mono hg1.size)
 have x0:=zaa hg x0
 have x1:=zaa hg x1
 have x2:=zaa hg x2
 have x3:=zaa hg x3
 have x4:=zaa hg x4
 have x5:=zaa hg x5
 have x6:=zaa hg x6
 have x7:=zaa hg x7
 clear ht1 ht2 hg1 hg2 hg hb0 hb1 H1 H2
 go_wp2_with fail
 refine (zaj HT1.out).mono ?_
 rintro e w3 ⟨hg3,rfl⟩
 have hb3:Below w.heap.size w w3:=hb2.trans (hg3.mono hb2.size)
 have HT1:Hid (NM X d w3 l.black p1):=HT1.out.keeps hg3
 have HT2:Hid (NM X d w3 r.black p2):=HT2.out.keeps hg3
 have x0:=zaa hg3 x0
 have x1:=zaa hg3 x1
 have x2:=zaa hg3 x2
 have x3:=zaa hg3 x3
 have x4:=zaa hg3 x4
 have x5:=zaa hg3 x5
 have x6:=zaa hg3 x6
 have x7:=zaa hg3 x7
 have hf1:∀W:World,(Instr.field 171 (.agg #[.int .i64 l.black.size,.int .i64 l.black.high,.int .i64 l.black.blacks]) 2).run Tryz.prog W=.ok (.int .i64 l.black.blacks) W:=fun W=>zah _ _ _ W
 have hf2:∀W:World,(Instr.field 171 (.agg #[.int .i64 r.black.size,.int .i64 r.black.high,.int .i64 r.black.blacks]) 2).run Tryz.prog W=.ok (.int .i64 r.black.blacks) W:=fun W=>zah _ _ _ W
 clear hg3 hb2
 go_wp2_with fail
 refine (zaj HT2.out).mono ?_
 rintro e w4 ⟨hg4,rfl⟩
 have hb4:Below w.heap.size w w4:=hb3.trans (hg4.mono hb3.size)
 have HT1:Hid (NM X d w4 l.black p1):=HT1.out.keeps hg4
 have HT2:Hid (NM X d w4 r.black p2):=HT2.out.keeps hg4
 have x0:=zaa hg4 x0
 have x1:=zaa hg4 x1
 have x2:=zaa hg4 x2
 have x3:=zaa hg4 x3
 have x4:=zaa hg4 x4
 have x5:=zaa hg4 x5
 have x6:=zaa hg4 x6
 have x7:=zaa hg4 x7
 clear hg4 hb3
 rcases HC.out with rfl|rfl|rfl
 ·obtain⟨hn1,hn2,hmd⟩:=HL.out rfl
  have HD:Hid _:=hmd
  clear hmd HL HG HS HC
  go_wp2_with fail
  refine (HD.out _ _ _ hb4 HT1.out HT2.out).mono ?_
  rintro e w5 ⟨hg5,p5,rfl,ht5⟩
  have HE:Hid (zab X d T w (.returned (.pointer p5)) w5):=⟨hb4.trans (hg5.mono hb4.size),p5,rfl,ht5⟩
  clear hg5 ht5 HD
  go_wp2_with fail
  go_ret
  exact HE.out
 ·obtain⟨hn1,hmd⟩:=HG.out rfl
  have HD:Hid _:=hmd
  clear hmd HL HG HS HC
  go_wp2_with fail
  refine (HD.out _ _ _ hb4 HT1.out HT2.out).mono ?_
  rintro e w5 ⟨hg5,p5,rfl,ht5⟩
  have HE:Hid (zab X d T w (.returned (.pointer p5)) w5):=⟨hb4.trans (hg5.mono hb4.size),p5,rfl,ht5⟩
  clear hg5 ht5 HD
  go_wp2_with fail
  go_ret
  exact HE.out
 ·obtain⟨hn1,hn2,hmd⟩:=HS.out rfl
  have HD:Hid _:=hmd
  clear hmd HL HG HS HC
  go_wp2_with fail
  refine (HD.out _ _ _ hb4 HT1.out HT2.out).mono ?_
  rintro e w5 ⟨hg5,p5,rfl,ht5⟩
  have HE:Hid (zab X d T w (.returned (.pointer p5)) w5):=⟨hb4.trans (hg5.mono hb4.size),p5,rfl,ht5⟩
  clear hg5 ht5 HD
  go_wp2_with fail
  go_ret
  exact HE.out
theorem join_14 (X:Nat→Prop) (d:Nat) (w:World) (l r:RT PT) (x:PT) (pl pr:Option Addr) (ku vu:Value) (hl:NM X d w l pl) (hr:NM X d w r pr) (wl:RT.Well l) (wr:RT.Well r) (hk:LiesX X d w x.1.items ku∧x.1.text.size≤9223372036854775807) (hv:LiesX X d w x.2.items vu∧x.2.text.size≤9223372036854775807) (hs:l.size+1+r.size<4611686018427387904) :
 Calls Tryz.prog 204 #[.pointer pl,.agg #[.int .i64 x.1.kind,.int .i64 x.1.num,.string x.1.text,ku,.int .i64 x.2.kind,.int .i64 x.2.num,.string x.2.text,vu],.pointer pr] w (zab X d (RT.join l x r) w):=by
 obtain⟨n1,_,b1⟩:=wl
 obtain⟨n2,_,b2⟩:=wr
 obtain⟨m1,b1⟩:=b1.black
 obtain⟨m2,b2⟩:=b2.black
 have e1:=b1.blacks
 have e2:=b2.blacks
 have z1:l.black.size=l.size:=by rw [RT.size_items,RT.black_items,←RT.size_items]
 have z2:r.black.size=r.size:=by rw [RT.size_items,RT.black_items,←RT.size_items]
 have kk:=fun V (hV:Below w.heap.size w V)=>(⟨LiesX.keeps hV hk.1,hk.2⟩:LiesX X d V x.1.items ku∧x.1.text.size≤9223372036854775807)
 have vv:=fun V (hV:Below w.heap.size w V)=>(⟨LiesX.keeps hV hv.1,hv.2⟩:LiesX X d V x.2.items vu∧x.2.text.size≤9223372036854775807)
 refine join_core X d w l r _ x pl pr ku vu (if m1=m2 then 0 else if m2<m1 then 1 else 2) (fun V hV=>black_14 (hl.keeps hV) (by omega)) (fun V hV=>black_14 (hr.keeps hV) (by omega)) ?_ ?_ ?_ ?_
 ·intro hc
  have hm:m1=m2:=by
   by_cases h:m1=m2
   ·exact h
   ·rw [if_neg h] at hc;split at hc <;> cases hc
  refine⟨by omega,by omega,fun V p q hV h1 h2=>?_⟩
  have e9:RT.join l x r=.node true l.black x r.black:=by
   unfold RT.join
   rw [if_neg (by omega),if_neg (by omega)]
  rw [e9]
  exact made_14 X d V true _ _ x p q ku vu h1 h2 (kk V hV) (vv V hV) (by omega)
 ·intro hc
  have hm:m2<m1:=by
   by_cases h:m1=m2
   ·rw [if_pos h] at hc;cases hc
   ·rw [if_neg h] at hc
    by_cases h':m2<m1
    ·exact h'
    ·rw [if_neg h'] at hc;cases hc
  refine⟨by omega,fun V p q hV h1 h2=>?_⟩
  have e9:RT.join l x r=RT.hungR l.black x r.black:=by
   unfold RT.join
   rw [if_pos (by omega)]
  rw [e9]
  exact hungR_any X d r.black x q ku vu l.black p m1 m2 V b1 b2 (by omega) h1 h2 (kk V hV) (vv V hV) (by omega)
 ·intro hc
  have hm:m1<m2:=by
   by_cases h:m1=m2
   ·rw [if_pos h] at hc;cases hc
   ·rw [if_neg h] at hc
    by_cases h':m2<m1
    ·rw [if_pos h'] at hc;cases hc
    ·omega
  refine⟨by omega,by omega,fun V p q hV h1 h2=>?_⟩
  have e9:RT.join l x r=RT.hungL l.black x r.black:=by
   unfold RT.join
   rw [if_neg (by omega),if_pos (by omega)]
  rw [e9]
  exact hungL_any X d l.black x p ku vu r.black q m2 m1 V b2 b1 (by omega) h2 h1 (kk V hV) (vv V hV) (by omega)
 ·split
  ·exact .inl rfl
  ·split
   ·exact .inr (.inl rfl)
   ·exact .inr (.inr rfl)
structure Bx8 (W:World) (n:Nat) (v0 v1 v2 v3 v4 v5 v6 v7:Value):Prop where
 c0:W.cell? ⟨n,0,none⟩=some v0
 c1:W.cell? ⟨n,1,none⟩=some v1
 c2:W.cell? ⟨n,2,none⟩=some v2
 c3:W.cell? ⟨n,3,none⟩=some v3
 c4:W.cell? ⟨n,4,none⟩=some v4
 c5:W.cell? ⟨n,5,none⟩=some v5
 c6:W.cell? ⟨n,6,none⟩=some v6
 c7:W.cell? ⟨n,7,none⟩=some v7
 f0:W.frozen? ⟨n,0,none⟩=false
 f1:W.frozen? ⟨n,1,none⟩=false
 f2:W.frozen? ⟨n,2,none⟩=false
 f3:W.frozen? ⟨n,3,none⟩=false
 f4:W.frozen? ⟨n,4,none⟩=false
 f5:W.frozen? ⟨n,5,none⟩=false
 f6:W.frozen? ⟨n,6,none⟩=false
 f7:W.frozen? ⟨n,7,none⟩=false
 top:W.cell? ⟨n,13,none⟩=none
theorem cell_none {w w':World} (hb:Below w.heap.size w w') {a:Addr} (ha:a.block<w.heap.size) (h:w.cell? a=none):w'.cell? a=none:=by
 have e:=hb.block a.block ha
 unfold World.cell? at h ⊢
 rw [e]
 exact h
theorem Bx8.keeps {W W':World} {n:Nat} {v0 v1 v2 v3 v4 v5 v6 v7:Value} (h:Bx8 W n v0 v1 v2 v3 v4 v5 v6 v7) (hb:Below W.heap.size W W'):Bx8 W' n v0 v1 v2 v3 v4 v5 v6 v7:=by
 have hl:n<W.heap.size:=zad h.c0
 exact⟨zaa hb h.c0,zaa hb h.c1,zaa hb h.c2,zaa hb h.c3,zaa hb h.c4,zaa hb h.c5,zaa hb h.c6,zaa hb h.c7,(hb.frozen (p:=⟨n,0,none⟩) hl).trans h.f0,(hb.frozen (p:=⟨n,1,none⟩) hl).trans h.f1,(hb.frozen (p:=⟨n,2,none⟩) hl).trans h.f2,(hb.frozen (p:=⟨n,3,none⟩) hl).trans h.f3,(hb.frozen (p:=⟨n,4,none⟩) hl).trans h.f4,(hb.frozen (p:=⟨n,5,none⟩) hl).trans h.f5,(hb.frozen (p:=⟨n,6,none⟩) hl).trans h.f6,(hb.frozen (p:=⟨n,7,none⟩) hl).trans h.f7,cell_none hb hl h.top⟩
theorem zan (w:World) (T:Nat) (v0 v1 v2 v3 v4 v5 v6 v7:Value):Bx8 (w.alloc (.cells #[v0,v1,v2,v3,v4,v5,v6,v7] T)) w.heap.size v0 v1 v2 v3 v4 v5 v6 v7:=by
 refine⟨?_,?_,?_,?_,?_,?_,?_,?_,?_,?_,?_,?_,?_,?_,?_,?_,?_⟩ <;> simp
theorem put8_in {W:World} {n:Nat} {v0 v1 v2 v3 v4 v5 v6 v7:Value} (h:Bx8 W n v0 v1 v2 v3 v4 v5 v6 v7) (u0 u1 u2 u3 u4 u5 u6 u7:Value):(W.setCells n 0 [u0,u1,u2,u3,u4,u5,u6,u7]).cell? ⟨n,0,none⟩=some u0∧(W.setCells n 0 [u0,u1,u2,u3,u4,u5,u6,u7]).cell? ⟨n,1,none⟩=some u1∧(W.setCells n 0 [u0,u1,u2,u3,u4,u5,u6,u7]).cell? ⟨n,2,none⟩=some u2∧(W.setCells n 0 [u0,u1,u2,u3,u4,u5,u6,u7]).cell? ⟨n,3,none⟩=some u3∧(W.setCells n 0 [u0,u1,u2,u3,u4,u5,u6,u7]).cell? ⟨n,4,none⟩=some u4∧(W.setCells n 0 [u0,u1,u2,u3,u4,u5,u6,u7]).cell? ⟨n,5,none⟩=some u5∧(W.setCells n 0 [u0,u1,u2,u3,u4,u5,u6,u7]).cell? ⟨n,6,none⟩=some u6∧(W.setCells n 0 [u0,u1,u2,u3,u4,u5,u6,u7]).cell? ⟨n,7,none⟩=some u7:=by
 have hin:∀j (hj:j<[u0,u1,u2,u3,u4,u5,u6,u7].length),(W.setCells n 0 [u0,u1,u2,u3,u4,u5,u6,u7]).cell? ⟨n,0+j,none⟩=some ([u0,u1,u2,u3,u4,u5,u6,u7][j]):=
  World.cell?_setCells_in n _ 0 W (fun j hj=>by
   match j,hj with
   | 0,_=>rw [h.c0];rfl
   | 1,_=>rw [h.c1];rfl
   | 2,_=>rw [h.c2];rfl
   | 3,_=>rw [h.c3];rfl
   | 4,_=>rw [h.c4];rfl
   | 5,_=>rw [h.c5];rfl
   | 6,_=>rw [h.c6];rfl
   | 7,_=>rw [h.c7];rfl)
 refine⟨?_,?_,?_,?_,?_,?_,?_,?_⟩
 ·have q:=hin 0 (by simp);simpa using q
 ·have q:=hin 1 (by simp);simpa using q
 ·have q:=hin 2 (by simp);simpa using q
 ·have q:=hin 3 (by simp);simpa using q
 ·have q:=hin 4 (by simp);simpa using q
 ·have q:=hin 5 (by simp);simpa using q
 ·have q:=hin 6 (by simp);simpa using q
 ·have q:=hin 7 (by simp);simpa using q
theorem NM.put8 {X:Nat→Prop} {d:Nat} {W:World} {n:Nat} {v0 v1 v2 v3 v4 v5 v6 v7:Value} (hx : ¬X n) (h:Bx8 W n v0 v1 v2 v3 v4 v5 v6 v7) (vs:List Value) {t:RT PT} {p:Option Addr} (hn:NM X d W t p):NM X d (W.setCells n 0 vs) t p:=
 NM.stays (fun _ h=>h) (fun a v ha hv=>zaf (g:=n) (fun e=>hx (by rw [←e];exact ha)) hv) (fun b k u _ h13 hc=>zaf (g:=n) (fun e=>by simp only at e;rw [e] at h13;exact h13 h.top) hc) hn
theorem zai {W:World} {n:Nat} {v0 v1 v2 v3 v4 v5 v6 v7:Value} {a:Addr} {v:Value} (hn:a.block≠n) (h:W.cell? a=some v):((((((((W.setCell ⟨n,0,none⟩ v0).setCell ⟨n,1,none⟩ v1).setCell ⟨n,2,none⟩ v2).setCell ⟨n,3,none⟩ v3).setCell ⟨n,4,none⟩ v4).setCell ⟨n,5,none⟩ v5).setCell ⟨n,6,none⟩ v6).setCell ⟨n,7,none⟩ v7).cell? a=some v:=
 zaf (g:=n) (o:=0) (vs:=[v0,v1,v2,v3,v4,v5,v6,v7]) hn h
theorem zau {n0:Nat} {w W:World} (h:Below n0 w W) {g:Nat} (hg:n0≤g) (v0 v1 v2 v3 v4 v5 v6 v7:Value):Below n0 w (W.setCells g 0 [v0,v1,v2,v3,v4,v5,v6,v7]):=
 (((((((h.setCell (p:=⟨g,0,none⟩) hg _).setCell (p:=⟨g,0+1,none⟩) hg _).setCell (p:=⟨g,0+1+1,none⟩) hg _).setCell (p:=⟨g,0+1+1+1,none⟩) hg _).setCell (p:=⟨g,0+1+1+1+1,none⟩) hg _).setCell (p:=⟨g,0+1+1+1+1+1,none⟩) hg _).setCell (p:=⟨g,0+1+1+1+1+1+1,none⟩) hg _).setCell (p:=⟨g,0+1+1+1+1+1+1+1,none⟩) hg _
def CutPost14 (X:Nat→Prop) (d:Nat) (t:RT PT) (x:PT) (w:World) (e:Ending) (w':World):Prop:=
 Below w.heap.size w w'∧∃p ku vu,e=.returned (.tuple #[.pointer p,.agg #[.int .i64 x.1.kind,.int .i64 x.1.num,.string x.1.text,ku,.int .i64 x.2.kind,.int .i64 x.2.num,.string x.2.text,vu]])∧NM X d w' t p∧(LiesX X d w' x.1.items ku∧x.1.text.size≤9223372036854775807)∧(LiesX X d w' x.2.items vu∧x.2.text.size≤9223372036854775807)
theorem cutLast_here (X:Nat→Prop) (d:Nat) (w:World) (l:RT PT) (x:PT) (b:Nat) (pl:Option Addr) (ku vu:Value) (c:Bool) (S H K:Nat) (hn:NCells w b pl none x ku vu c S H K) (hl:NM X d w l pl) (hk:(LiesX X d w x.1.items ku∧x.1.text.size≤9223372036854775807)∧(LiesX X d w x.2.items vu∧x.2.text.size≤9223372036854775807)) :
 Calls Tryz.prog 255 #[.pointer (some ⟨b,0,none⟩)] w (CutPost14 X d l x w):=by
 obtain⟨ak,ck,rfl,_⟩:=hk.1.1.slice
 obtain⟨av,cv,rfl,_⟩:=hk.2.1.slice
 obtain⟨c0,c1,c2,c3,c4,c5,c6,c7,c8,c9,_,_,_,_⟩:=hn
 have HK:Hid _:=hk
 have HL:Hid _:=hl
 clear hk hl
 have hbl:=zad c0
 simp only at hbl
 have hbne : ¬b=w.heap.size:=by omega
 go_enter Tryz.func255,Tryz.ntmps255
 go_wp2_with fail
 go_region
 go_wp2_with fail
 have hbb:Below w.heap.size w (w.alloc (.cells #[.int .i64 x.1.kind,.int .i64 x.1.num,.string x.1.text,.slice ak x.1.items.length ck,.int .i64 x.2.kind,.int .i64 x.2.num,.string x.2.text,.slice av x.2.items.length cv] 108)).drew:=((Grew.refl w).alloc _).below.drew
 refine bodyPost_ret (v:=.tuple #[.pointer pl,.agg #[.int .i64 x.1.kind,.int .i64 x.1.num,.string x.1.text,.slice ak x.1.items.length ck,.int .i64 x.2.kind,.int .i64 x.2.num,.string x.2.text,.slice av x.2.items.length cv]]) ?_ rfl ⟨hbb,_,_,_,rfl,HL.out.keeps hbb,⟨LiesX.keeps hbb HK.out.1.1,HK.out.1.2⟩,⟨LiesX.keeps hbb HK.out.2.1,HK.out.2.2⟩⟩
 simp [results,Tryz.results255,go_sem]
theorem cutLast_step (X:Nat→Prop) (d:Nat) (w:World) (r0 T:RT PT) (x z:PT) (b:Nat) (pl:Option Addr) (q:Addr) (ku vu:Value) (c:Bool) (S H K:Nat) (hn:NCells w b pl (some q) x ku vu c S H K) (hk:(LiesX X d w x.1.items ku∧x.1.text.size≤9223372036854775807)∧(LiesX X d w x.2.items vu∧x.2.text.size≤9223372036854775807))
 (hi:∀V,Below w.heap.size w V→Calls Tryz.prog 255 #[.pointer (some q)] V (CutPost14 X d r0 z V))
 (hj:∀V p,Below w.heap.size w V→NM X d V r0 p→Calls Tryz.prog 204 #[.pointer pl,.agg #[.int .i64 x.1.kind,.int .i64 x.1.num,.string x.1.text,ku,.int .i64 x.2.kind,.int .i64 x.2.num,.string x.2.text,vu],.pointer p] V (zab X d T V)) (hX : ¬X w.heap.size) :
 Calls Tryz.prog 255 #[.pointer (some ⟨b,0,none⟩)] w (CutPost14 X d T z w):=by
 obtain⟨ak,ck,rfl,_⟩:=hk.1.1.slice
 obtain⟨av,cv,rfl,_⟩:=hk.2.1.slice
 obtain⟨c0,c1,c2,c3,c4,c5,c6,c7,c8,c9,_,_,_,_⟩:=hn
 have HI:Hid _:=hi
 have HJ:Hid _:=hj
 have HK:Hid _:=hk
 clear hk hi hj
 have hbl:=zad c0
 simp only at hbl
 have hbne : ¬b=w.heap.size:=by omega
 go_enter Tryz.func255,Tryz.ntmps255
 go_wp2_with fail
 obtain⟨W0,hW0⟩:∃W0,W0=w.alloc (.cells #[.int .i64 0,.int .i64 0,.string ⟨#[]⟩,.slice none 0 0,.int .i64 0,.int .i64 0,.string ⟨#[]⟩,.slice none 0 0] 108):=⟨_,rfl⟩
 rw [←hW0]
 have hb0:Below w.heap.size w W0:=by rw [hW0];exact ((Grew.refl w).alloc _).below
 have HZ0:Hid (Bx8 W0 w.heap.size (.int .i64 0) (.int .i64 0) (.string ⟨#[]⟩) (.slice none 0 0) (.int .i64 0) (.int .i64 0) (.string ⟨#[]⟩) (.slice none 0 0)):=by rw [hW0];exact zan w _ _ _ _ _ _ _ _ _
 have hz0:w.heap.size<W0.heap.size:=by rw [hW0];simp
 clear hW0
 refine (HI.out _ hb0).mono ?_
 rintro e w1 ⟨hg1,p1,kz,vz,rfl,ht1,hkz,hvz⟩
 obtain⟨akz,ckz,rfl,_⟩:=hkz.1.slice
 obtain⟨avz,cvz,rfl,_⟩:=hvz.1.slice
 have hb1:Below w.heap.size w w1:=hb0.trans (hg1.mono hb0.size)
 obtain⟨W1,hW1⟩:∃W1,W1=w1.alloc (.cells #[.int .i64 z.1.kind,.int .i64 z.1.num,.string z.1.text,.slice akz z.1.items.length ckz,.int .i64 z.2.kind,.int .i64 z.2.num,.string z.2.text,.slice avz z.2.items.length cvz] 108):=⟨_,rfl⟩
 have hbA:Below w1.heap.size w1 W1:=by rw [hW1];exact ((Grew.refl w1).alloc _).below
 have HT1:Hid (NM X d W1 r0 p1):=ht1.keeps hbA
 have HKZ:Hid (LiesX X d W1 z.1.items (.slice akz z.1.items.length ckz)∧z.1.text.size≤9223372036854775807):=⟨LiesX.keeps hbA hkz.1,hkz.2⟩
 have HVZ:Hid (LiesX X d W1 z.2.items (.slice avz z.2.items.length cvz)∧z.2.text.size≤9223372036854775807):=⟨LiesX.keeps hbA hvz.1,hvz.2⟩
 have hb2:Below w.heap.size w W1:=hb1.trans (hbA.mono hb1.size)
 have HZ1:Hid (Bx8 W1 w.heap.size (.int .i64 0) (.int .i64 0) (.string ⟨#[]⟩) (.slice none 0 0) (.int .i64 0) (.int .i64 0) (.string ⟨#[]⟩) (.slice none 0 0)):=(HZ0.out.keeps hg1).keeps hbA
 have hn2:w1.heap.size≠w.heap.size:=by have:=hg1.size;omega
 clear ht1 hkz hvz HZ0
 go_wp2_with fail
 rw [←hW1]
 have z0:W1.cell? ⟨w1.heap.size,0,none⟩=some (.int .i64 z.1.kind):=by rw [hW1];simp
 have z1:W1.cell? ⟨w1.heap.size,1,none⟩=some (.int .i64 z.1.num):=by rw [hW1];simp
 have z2:W1.cell? ⟨w1.heap.size,2,none⟩=some (.string z.1.text):=by rw [hW1];simp
 have z3:W1.cell? ⟨w1.heap.size,3,none⟩=some (.slice akz z.1.items.length ckz):=by rw [hW1];simp
 have z4:W1.cell? ⟨w1.heap.size,4,none⟩=some (.int .i64 z.2.kind):=by rw [hW1];simp
 have z5:W1.cell? ⟨w1.heap.size,5,none⟩=some (.int .i64 z.2.num):=by rw [hW1];simp
 have z6:W1.cell? ⟨w1.heap.size,6,none⟩=some (.string z.2.text):=by rw [hW1];simp
 have z7:W1.cell? ⟨w1.heap.size,7,none⟩=some (.slice avz z.2.items.length cvz):=by rw [hW1];simp
 have c0:=zaa hb2 c0;have c1:=zaa hb2 c1;have c2:=zaa hb2 c2;have c3:=zaa hb2 c3;have c4:=zaa hb2 c4;have c5:=zaa hb2 c5;have c6:=zaa hb2 c6;have c7:=zaa hb2 c7;have c8:=zaa hb2 c8;have c9:=zaa hb2 c9
 clear hW1 hg1 hbA hb0 hb1 HI hbl hz0
 generalize w1.heap.size=B2 at *
 obtain⟨y0,y1,y2,y3,y4,y5,y6,y7,f0,f1,f2,f3,f4,f5,f6,f7,_⟩:=HZ1.out
 have hb6:b≠w.heap.size:=hbne
 go_region_held3 (fun w'=>w'.cell? ⟨b,0,none⟩=some (.pointer pl)∧w'.cell? ⟨b,2,none⟩=some (.int .i64 x.1.kind)∧w'.cell? ⟨b,3,none⟩=some (.int .i64 x.1.num)∧w'.cell? ⟨b,4,none⟩=some (.string x.1.text)∧w'.cell? ⟨b,5,none⟩=some (.slice ak x.1.items.length ck)∧w'.cell? ⟨b,6,none⟩=some (.int .i64 x.2.kind)∧w'.cell? ⟨b,7,none⟩=some (.int .i64 x.2.num)∧w'.cell? ⟨b,8,none⟩=some (.string x.2.text)∧w'.cell? ⟨b,9,none⟩=some (.slice av x.2.items.length cv)∧w'.cell? ⟨B2,0,none⟩=some (.int .i64 z.1.kind)∧w'.cell? ⟨B2,1,none⟩=some (.int .i64 z.1.num)∧w'.cell? ⟨B2,2,none⟩=some (.string z.1.text)∧w'.cell? ⟨B2,3,none⟩=some (.slice akz z.1.items.length ckz)∧w'.cell? ⟨B2,4,none⟩=some (.int .i64 z.2.kind)∧w'.cell? ⟨B2,5,none⟩=some (.int .i64 z.2.num)∧w'.cell? ⟨B2,6,none⟩=some (.string z.2.text)∧w'.cell? ⟨B2,7,none⟩=some (.slice avz z.2.items.length cvz)) (first|go_keep|exact⟨zai hb6 c0,zai hb6 c2,zai hb6 c3,zai hb6 c4,zai hb6 c5,zai hb6 c6,zai hb6 c7,zai hb6 c8,zai hb6 c9,zai hn2 z0,zai hn2 z1,zai hn2 z2,zai hn2 z3,zai hn2 z4,zai hn2 z5,zai hn2 z6,zai hn2 z7⟩)
  (first|(go_at_call 204;refine (HJ.out _ _ hb2.drew (HT1.out.keeps (Below.refl _ _).drew)).mono ?_;rintro e w5 ⟨hg5,p5,rfl,ht5⟩;have hbc:Below W1.heap.size W1 w5:=(Below.refl _ _).drew.trans hg5;have c0:=zaa hbc c0;have c1:=zaa hbc c1;have c2:=zaa hbc c2;have c3:=zaa hbc c3;have c4:=zaa hbc c4;have c5:=zaa hbc c5;have c6:=zaa hbc c6;have c7:=zaa hbc c7;have c8:=zaa hbc c8;have c9:=zaa hbc c9;have z0:=zaa hbc z0;have z1:=zaa hbc z1;have z2:=zaa hbc z2;have z3:=zaa hbc z3;have z4:=zaa hbc z4;have z5:=zaa hbc z5;have z6:=zaa hbc z6;have z7:=zaa hbc z7;have HT5:Hid (NM X d w5 T p5):=ht5;have HZ5:Hid (Bx8 w5 w.heap.size (.int .i64 0) (.int .i64 0) (.string ⟨#[]⟩) (.slice none 0 0) (.int .i64 0) (.int .i64 0) (.string ⟨#[]⟩) (.slice none 0 0)):=HZ1.out.keeps hbc;obtain⟨y0,y1,y2,y3,y4,y5,y6,y7,f0,f1,f2,f3,f4,f5,f6,f7,_⟩:=HZ5.out;clear ht5 hg5))
 have Hq:Hid _:=put8_in HZ5.out (.int .i64 z.1.kind) (.int .i64 z.1.num) (.string z.1.text) (.slice akz z.1.items.length ckz) (.int .i64 z.2.kind) (.int .i64 z.2.num) (.string z.2.text) (.slice avz z.2.items.length cvz)
 have hbz:Below w.heap.size w w5:=hb2.trans (hbc.mono hb2.size)
 have HBz:Hid (Below w.heap.size w (w5.setCells w.heap.size 0 [.int .i64 z.1.kind,.int .i64 z.1.num,.string z.1.text,.slice akz z.1.items.length ckz,.int .i64 z.2.kind,.int .i64 z.2.num,.string z.2.text,.slice avz z.2.items.length cvz])):=zau hbz (Nat.le_refl _) _ _ _ _ _ _ _ _
 have HTz:Hid (NM X d (w5.setCells w.heap.size 0 [.int .i64 z.1.kind,.int .i64 z.1.num,.string z.1.text,.slice akz z.1.items.length ckz,.int .i64 z.2.kind,.int .i64 z.2.num,.string z.2.text,.slice avz z.2.items.length cvz]) T p5):=HT5.out.put8 hX HZ5.out _
 have HKz:Hid (LiesX X d (w5.setCells w.heap.size 0 [.int .i64 z.1.kind,.int .i64 z.1.num,.string z.1.text,.slice akz z.1.items.length ckz,.int .i64 z.2.kind,.int .i64 z.2.num,.string z.2.text,.slice avz z.2.items.length cvz]) z.1.items (.slice akz z.1.items.length ckz)):=(HKZ.out.1.keeps hbc).set hX
 have HVz:Hid (LiesX X d (w5.setCells w.heap.size 0 [.int .i64 z.1.kind,.int .i64 z.1.num,.string z.1.text,.slice akz z.1.items.length ckz,.int .i64 z.2.kind,.int .i64 z.2.num,.string z.2.text,.slice avz z.2.items.length cvz]) z.2.items (.slice avz z.2.items.length cvz)):=(HVZ.out.1.keeps hbc).set hX
 go_wp2_with fail
 refine bodyPost_ret (v:=.tuple #[.pointer p5,.agg #[.int .i64 z.1.kind,.int .i64 z.1.num,.string z.1.text,.slice akz z.1.items.length ckz,.int .i64 z.2.kind,.int .i64 z.2.num,.string z.2.text,.slice avz z.2.items.length cvz]]) ?_ rfl ⟨HBz.out,_,_,_,rfl,HTz.out,⟨HKz.out,HKZ.out.2⟩,⟨HVz.out,HVZ.out.2⟩⟩
 obtain⟨q0,q1,q2,q3,q4,q5,q6,q7⟩:=Hq.out
 simp only [World.setCells,Nat.zero_add,Nat.reduceAdd] at q0 q1 q2 q3 q4 q5 q6 q7
 simp [results,Tryz.results255,go_sem,q0,q1,q2,q3,q4,q5,q6,q7]
theorem cutLast_core (X:Nat→Prop) (d:Nat):∀(r l:RT PT) (c:Bool) (x:PT) (p:Option Addr) (w:World),NM X d w (.node c l x r) p→RT.Well l→RT.Well r→l.size+1+r.size<4611686018427387904→Calls Tryz.prog 255 #[.pointer p] w (CutPost14 X d (RT.cutLast l x r).1 (RT.cutLast l x r).2 w)
 | .nil,l,c,x,p,w,h,wl,wr,hs=>by
  obtain⟨b,pl,pr,ku,vu,rfl,hn,hk,hv,hl,hr⟩:=h
  have hr':pr=none:=hr
  subst hr'
  exact cutLast_here X d w l x b pl ku vu c _ _ _ hn hl ⟨hk,hv⟩
 | .node c2 l2 y r2,l,c,x,p,w,h,wl,wr,hs=>by
  have h0:=h
  obtain⟨b,pl,pr,ku,vu,rfl,hn,hk,hv,hl,hr⟩:=NM.both h
  obtain⟨q,hq⟩:∃q,pr=some q:=by
   obtain⟨b2,_,_,_,_,e,_⟩:=hr
   exact⟨_,e⟩
  subst hq
  have hsz:(RT.node c2 l2 y r2).size=l2.size+1+r2.size:=rfl
  have hw2:=RT.cutLast_well r2 l2 y wr.left wr.right
  have hz2:(RT.cutLast l2 y r2).1.size+1=l2.size+1+r2.size:=by
   have h9:=congrArg List.length (RT.cutLast_items r2 l2 y)
   rw [RT.size_items,RT.size_items l2,RT.size_items r2]
   simp at h9
   omega
  refine Calls.mono (cutLast_step (fun b=>X b∧b<w.heap.size) d w (RT.cutLast l2 y r2).1 _ x (RT.cutLast l2 y r2).2 b pl q ku vu c _ _ _ hn ⟨hk,hv⟩ (fun V hV=>cutLast_core (fun b=>X b∧b<w.heap.size) d r2 l2 c2 y (some q) V (hr.keeps hV) wr.left wr.right (by omega)) (fun V p9 hV h9=>join_14 (fun b=>X b∧b<w.heap.size) d V l _ x pl p9 ku vu (hl.keeps hV) h9 wl hw2 ⟨LiesX.keeps hV hk.1,hk.2⟩ ⟨LiesX.keeps hV hv.1,hv.2⟩ (by omega)) (fun e=>Nat.lt_irrefl _ e.2)) ?_
  rintro e w' ⟨hb,p',ku',vu',rfl,ht,h1,h2⟩
  exact⟨hb,p',ku',vu',rfl,ht.mono (fun _ h=>h.1),⟨h1.1.mono (fun _ h=>h.1),h1.2⟩,⟨h2.1.mono (fun _ h=>h.1),h2.2⟩⟩
end Go.Proofs.YtlnecfjnffdciabGreat
