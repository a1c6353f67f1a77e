import Derived.Test.YtlnecfjnffdciacGreatAppRow
import Derived.Test.YtlnecfjnffdciacGreatLiesX
import Derived.BigQuiet
import Derived.Shelf.SlSortCmp.QuietGrown
set_option maxRecDepth 100000
set_option maxHeartbeats 4000000
namespace Go.Proofs.YtlnecfjnffdciacGreat
open Go.RowKit
abbrev PT:Type:=VT×VT
structure NCells (w:World) (b:Nat) (pl pr:Option Addr) (x:PT) (ku vu:Value) (c:Bool) (s h k:Nat):Prop where
 left:w.cell? ⟨b,0,none⟩=some (.pointer pl)
 right:w.cell? ⟨b,1,none⟩=some (.pointer pr)
 kkind:w.cell? ⟨b,2,none⟩=some (.int .i64 x.1.kind)
 knum:w.cell? ⟨b,3,none⟩=some (.int .i64 x.1.num)
 ktext:w.cell? ⟨b,4,none⟩=some (.string x.1.text)
 kitems:w.cell? ⟨b,5,none⟩=some ku
 vkind:w.cell? ⟨b,6,none⟩=some (.int .i64 x.2.kind)
 vnum:w.cell? ⟨b,7,none⟩=some (.int .i64 x.2.num)
 vtext:w.cell? ⟨b,8,none⟩=some (.string x.2.text)
 vitems:w.cell? ⟨b,9,none⟩=some vu
 red:w.cell? ⟨b,10,none⟩=some (.bool c)
 size:w.cell? ⟨b,11,none⟩=some (.int .i64 (s:Int))
 high:w.cell? ⟨b,12,none⟩=some (.int .i64 (h:Int))
 blacks:w.cell? ⟨b,13,none⟩=some (.int .i64 (k:Int))
theorem NCells.keeps {w w':World} {b:Nat} {pl pr:Option Addr} {x:PT} {ku vu:Value} {c:Bool} {s h k:Nat} (n:NCells w b pl pr x ku vu c s h k) (hb:Below w.heap.size w w'):NCells w' b pl pr x ku vu c s h k:=
 ⟨zaa hb n.1,zaa hb n.2,zaa hb n.3,zaa hb n.4,zaa hb n.5,zaa hb n.6,zaa hb n.7,zaa hb n.8,zaa hb n.9,zaa hb n.10,zaa hb n.11,zaa hb n.12,zaa hb n.13,zaa hb n.14⟩
def NM (X:Nat→Prop) (d:Nat) (w:World):RT PT→Option Addr→Prop
 | .nil,p=>p=none
 | .node c l x r,p=>∃b pl pr ku vu,p=some ⟨b,0,none⟩∧NCells w b pl pr x ku vu c (RT.size (.node c l x r)) (RT.high (.node c l x r)) (RT.blacks (.node c l x r))∧
  (LiesX X d w x.1.items ku∧x.1.text.size≤9223372036854775807)∧(LiesX X d w x.2.items vu∧x.2.text.size≤9223372036854775807)∧NM X d w l pl∧NM X d w r pr
theorem NM.keeps {X:Nat→Prop} {d:Nat} {w w':World} (hb:Below w.heap.size w w'):∀{t:RT PT} {p:Option Addr},NM X d w t p→NM X d w' t p
 | .nil,_,h=>h
 | .node c l x r,p,h=>by
  obtain⟨b,pl,pr,ku,vu,hp,hn,hk,hv,hl,hr⟩:=h
  exact⟨b,pl,pr,ku,vu,hp,hn.keeps hb,⟨LiesX.keeps hb hk.1,hk.2⟩,⟨LiesX.keeps hb hv.1,hv.2⟩,NM.keeps hb hl,NM.keeps hb hr⟩
def MeasPost14 (s h k:Int) (w:World) (e:Ending) (w':World):Prop:=Below w.heap.size w w'∧e=.returned (.agg #[.int .i64 s,.int .i64 h,.int .i64 k])
theorem box3_14 (w:World) (T:Nat) (s h k:Int):(w.alloc (.cells #[.int .i64 s,.int .i64 h,.int .i64 k] T)).cell? ⟨w.heap.size,0,none⟩=some (.int .i64 s)∧(w.alloc (.cells #[.int .i64 s,.int .i64 h,.int .i64 k] T)).cell? ⟨w.heap.size,1,none⟩=some (.int .i64 h)∧(w.alloc (.cells #[.int .i64 s,.int .i64 h,.int .i64 k] T)).cell? ⟨w.heap.size,2,none⟩=some (.int .i64 k):=by
 refine⟨?_,?_,?_⟩ <;> simp
theorem measured_nil (w:World):Calls Tryz.prog 73 #[.pointer none] w (MeasPost14 0 0 0 w):=by
 obtain⟨y0,y1,y2⟩:=box3_14 w 140 0 0 0
 go_enter Tryz.func73,Tryz.ntmps73
 go_wp2_with fail
 refine bodyPost_ret (v:=.agg #[.int .i64 0,.int .i64 0,.int .i64 0]) ?_ rfl ⟨((Grew.refl w).alloc _).below,rfl⟩
 obtain⟨k0,k1,k2⟩:=box3_14 w 140 0 0 0
 simp [results,Tryz.results73,go_sem,k0,k1,k2]
theorem measured_node (b:Nat) (s h k:Int) (w:World) (h1:w.cell? ⟨b,11,none⟩=some (.int .i64 s)) (h2:w.cell? ⟨b,12,none⟩=some (.int .i64 h)) (h3:w.cell? ⟨b,13,none⟩=some (.int .i64 k)) :
 Calls Tryz.prog 73 #[.pointer (some ⟨b,0,none⟩)] w (MeasPost14 s h k w):=by
 obtain⟨y0,y1,y2⟩:=box3_14 w 140 0 0 0
 have hbz:Below w.heap.size w (w.alloc (.cells #[.int .i64 0,.int .i64 0,.int .i64 0] 140)):=((Grew.refl w).alloc _).below
 have g1:=zaa hbz h1
 have g2:=zaa hbz h2
 have g3:=zaa hbz h3
 have hlt:=zad h1
 have hn1 : ¬b=w.heap.size:=by intro e;simp at hlt;omega
 clear h1 h2 h3 hlt hbz
 go_enter Tryz.func73,Tryz.ntmps73
 go_wp2_with fail
 refine bodyPost_ret (v:=.agg #[.int .i64 s,.int .i64 h,.int .i64 k]) ?_ rfl ⟨((Grew.refl w).alloc _).below,rfl⟩
 obtain⟨k0,k1,k2⟩:=box3_14 w 140 s h k
 simp [results,Tryz.results73,go_sem,k0,k1,k2]
theorem measured_14 {X:Nat→Prop} {d:Nat} {w:World} {t:RT PT} {p:Option Addr} (h:NM X d w t p):Calls Tryz.prog 73 #[.pointer p] w (MeasPost14 (t.size:Int) (t.high:Int) (t.blacks:Int) w):=by
 cases t with
 | nil=>
  have hp:p=none:=h
  subst hp
  exact measured_nil w
 | node c l x r=>
  obtain⟨b,pl,pr,ku,vu,rfl,hn,_⟩:=h
  exact measured_node b _ _ _ w hn.size hn.high hn.blacks
def zah (X:Nat→Prop) (d:Nat) (t:RT PT) (w:World) (e:Ending) (w':World):Prop:=Below w.heap.size w w'∧∃p,e=.returned (.pointer p)∧NM X d w' t p
theorem zam:∀(t:RT PT),t.high≤t.size
 | .nil=>Nat.le_refl _
 | .node _ l x r=>by
  have hl:=zam l
  have hr:=zam r
  show 1+max l.high r.high≤l.size+1+r.size
  omega
theorem blacks_size14:∀(t:RT PT),t.blacks≤t.size
 | .nil=>Nat.le_refl _
 | .node c l x r=>by
  have hl:=blacks_size14 l
  show l.blacks+(if c then 0 else 1)≤l.size+1+r.size
  split <;> omega
theorem made_fin14 {X:Nat→Prop} {d n:Nat} {w V:World} {c:Bool} {l r:RT PT} {x:PT} {pl pr:Option Addr} {ku vu:Value} {S H K:Int} (T:Nat) (hb:Below w.heap.size w V) (HL:NM X d w l pl∧NM X d w r pr) (HK:(LiesX X d w x.1.items ku∧x.1.text.size≤9223372036854775807)∧(LiesX X d w x.2.items vu∧x.2.text.size≤9223372036854775807))
 (hn:n=V.heap.size) (hS:S=((l.size+1+r.size:Nat):Int)) (hH:H=((1+max l.high r.high:Nat):Int)) (hK:K=((l.blacks+(if c then 0 else 1):Nat):Int)) :
 zah X d (.node c l x r) w (.returned (.pointer (some ⟨n,0,none⟩))) (V.alloc (.cells #[.pointer pl,.pointer pr,.int .i64 x.1.kind,.int .i64 x.1.num,.string x.1.text,ku,.int .i64 x.2.kind,.int .i64 x.2.num,.string x.2.text,vu,.bool c,.int .i64 S,.int .i64 H,.int .i64 K] T)):=by
 subst hn hS hH hK
 have hb':=hb.alloc hb.size (.cells #[.pointer pl,.pointer pr,.int .i64 x.1.kind,.int .i64 x.1.num,.string x.1.text,ku,.int .i64 x.2.kind,.int .i64 x.2.num,.string x.2.text,vu,.bool c,.int .i64 ((l.size+1+r.size:Nat):Int),.int .i64 ((1+max l.high r.high:Nat):Int),.int .i64 ((l.blacks+(if c then 0 else 1):Nat):Int)] T)
 refine⟨hb',_,rfl,V.heap.size,pl,pr,ku,vu,rfl,?_,⟨LiesX.keeps hb' HK.1.1,HK.1.2⟩,⟨LiesX.keeps hb' HK.2.1,HK.2.2⟩,HL.1.keeps hb',HL.2.keeps hb'⟩
 constructor <;> simp [RT.size,RT.high,RT.blacks]
theorem made_red14 (X:Nat→Prop) (d:Nat) (w:World) (l r:RT PT) (x:PT) (pl pr:Option Addr) (ku vu:Value) (hl:NM X d w l pl) (hr:NM X d w r pr) (hk:LiesX X d w x.1.items ku∧x.1.text.size≤9223372036854775807) (hv:LiesX X d w x.2.items vu∧x.2.text.size≤9223372036854775807) (hs:l.size+1+r.size<4611686018427387904) :
 Calls Tryz.prog 151 #[.bool true,.pointer pl,.agg #[.int .i64 x.1.kind,.int .i64 x.1.num,.string x.1.text,ku,.int .i64 x.2.kind,.int .i64 x.2.num,.string x.2.text,vu],.pointer pr] w (zah X d (.node true l x r) w):=by
 have HM:Hid (∀V,Below w.heap.size w V→Calls Tryz.prog 73 #[.pointer pl] V (MeasPost14 (l.size:Int) (l.high:Int) (l.blacks:Int) V)):=fun V hV=>measured_14 (hl.keeps hV)
 have HN:Hid (∀V,Below w.heap.size w V→Calls Tryz.prog 73 #[.pointer pr] V (MeasPost14 (r.size:Int) (r.high:Int) (r.blacks:Int) V)):=fun V hV=>measured_14 (hr.keeps hV)
 go_enter Tryz.func151,Tryz.ntmps151
 go_wp2_with fail
 obtain⟨W0,hW0⟩:∃W0,W0=w.alloc (.cells #[.int .i64 x.1.kind,.int .i64 x.1.num,.string x.1.text,ku,.int .i64 x.2.kind,.int .i64 x.2.num,.string x.2.text,vu] 124):=⟨_,rfl⟩
 rw [←hW0]
 have hb0:Below w.heap.size w W0:=by rw [hW0];exact ((Grew.refl w).alloc _).below
 have x0:W0.cell? ⟨w.heap.size,0,none⟩=some (.int .i64 x.1.kind):=by rw [hW0];simp
 have x1:W0.cell? ⟨w.heap.size,1,none⟩=some (.int .i64 x.1.num):=by rw [hW0];simp
 have x2:W0.cell? ⟨w.heap.size,2,none⟩=some (.string x.1.text):=by rw [hW0];simp
 have x3:W0.cell? ⟨w.heap.size,3,none⟩=some ku:=by rw [hW0];simp
 have x4:W0.cell? ⟨w.heap.size,4,none⟩=some (.int .i64 x.2.kind):=by rw [hW0];simp
 have x5:W0.cell? ⟨w.heap.size,5,none⟩=some (.int .i64 x.2.num):=by rw [hW0];simp
 have x6:W0.cell? ⟨w.heap.size,6,none⟩=some (.string x.2.text):=by rw [hW0];simp
 have x7:W0.cell? ⟨w.heap.size,7,none⟩=some vu:=by rw [hW0];simp
 clear hW0
 refine Calls.mono (HM.out _ hb0) ?_
 rintro e w1 ⟨hg1,rfl⟩
 have hb1:Below w.heap.size w w1:=hb0.trans (hg1.mono hb0.size)
 go_wp2_with fail
 refine Calls.mono (HN.out _ hb1) ?_
 rintro e w2 ⟨hg2,rfl⟩
 have hb2:Below w.heap.size w w2:=hb1.trans (hg2.mono hb1.size)
 have hg:Below W0.heap.size W0 w2:=hg1.trans (hg2.mono hg1.size)
 have y0:=zaa hg x0
 have y1:=zaa hg x1
 have y2:=zaa hg x2
 have y3:=zaa hg x3
 have y4:=zaa hg x4
 have y5:=zaa hg x5
 have y6:=zaa hg x6
 have y7:=zaa hg x7
 have hlt:w.heap.size<w2.heap.size:=zad y0
 have hn1 : ¬w.heap.size=w2.heap.size:=by omega
 have hn2 : ¬w2.heap.size=w.heap.size:=by omega
 have Hb:Hid (Below w.heap.size w w2):=hb2
 have Hs:Hid (l.size+1+r.size<4611686018427387904):=hs
 have HL:Hid (NM X d w l pl∧NM X d w r pr):=⟨hl,hr⟩
 have HK:Hid ((LiesX X d w x.1.items ku∧x.1.text.size≤9223372036854775807)∧(LiesX X d w x.2.items vu∧x.2.text.size≤9223372036854775807)):=⟨hk,hv⟩
 obtain⟨S1,hS1⟩:∃S1,S1=l.size+1:=⟨_,rfl⟩
 obtain⟨S2,hS2⟩:∃S2,S2=S1+r.size:=⟨_,rfl⟩
 have e1:IntKind.i64.wrap ((l.size:Int)+1)=(S1:Int):=by rw [IntKind.wrap_i64];omega
 have e2:IntKind.i64.wrap ((S1:Int)+(r.size:Int))=(S2:Int):=by rw [IntKind.wrap_i64];omega
 obtain⟨HA,hHA⟩:∃HA,HA=1+l.high:=⟨_,rfl⟩
 obtain⟨HB,hHB⟩:∃HB,HB=1+r.high:=⟨_,rfl⟩
 have q1:=zam l
 have q2:=zam r
 have e3:IntKind.i64.wrap (1+(l.high:Int))=(HA:Int):=by rw [IntKind.wrap_i64];omega
 have e4:IntKind.i64.wrap (1+(r.high:Int))=(HB:Int):=by rw [IntKind.wrap_i64];omega
 have HHA:Hid (HA=1+l.high):=hHA
 have HHB:Hid (HB=1+r.high):=hHB
 clear q1 q2 hHA hHB
 have HS:Hid (S2=l.size+1+r.size):=by show _=_;omega
 have z0:∀A B C,(((w2.alloc A).alloc B).alloc C).cell? ⟨w.heap.size,0,none⟩=some (.int .i64 x.1.kind):=fun A B C=>zaa ((((Grew.refl w2).alloc A).alloc B).alloc C).below y0
 have z1:∀A B C,(((w2.alloc A).alloc B).alloc C).cell? ⟨w.heap.size,1,none⟩=some (.int .i64 x.1.num):=fun A B C=>zaa ((((Grew.refl w2).alloc A).alloc B).alloc C).below y1
 have z2:∀A B C,(((w2.alloc A).alloc B).alloc C).cell? ⟨w.heap.size,2,none⟩=some (.string x.1.text):=fun A B C=>zaa ((((Grew.refl w2).alloc A).alloc B).alloc C).below y2
 have z3:∀A B C,(((w2.alloc A).alloc B).alloc C).cell? ⟨w.heap.size,3,none⟩=some ku:=fun A B C=>zaa ((((Grew.refl w2).alloc A).alloc B).alloc C).below y3
 have z4:∀A B C,(((w2.alloc A).alloc B).alloc C).cell? ⟨w.heap.size,4,none⟩=some (.int .i64 x.2.kind):=fun A B C=>zaa ((((Grew.refl w2).alloc A).alloc B).alloc C).below y4
 have z5:∀A B C,(((w2.alloc A).alloc B).alloc C).cell? ⟨w.heap.size,5,none⟩=some (.int .i64 x.2.num):=fun A B C=>zaa ((((Grew.refl w2).alloc A).alloc B).alloc C).below y5
 have z6:∀A B C,(((w2.alloc A).alloc B).alloc C).cell? ⟨w.heap.size,6,none⟩=some (.string x.2.text):=fun A B C=>zaa ((((Grew.refl w2).alloc A).alloc B).alloc C).below y6
 have z7:∀A B C,(((w2.alloc A).alloc B).alloc C).cell? ⟨w.heap.size,7,none⟩=some vu:=fun A B C=>zaa ((((Grew.refl w2).alloc A).alloc B).alloc C).below y7
 clear y0 y1 y2 y3 y4 y5 y6 y7
 clear hg1 hg2 hg hb0 hb1 hb2 x0 x1 x2 x3 x4 x5 x6 x7 hl hr hk hv hs HM HN hlt hS1 hS2
 go_wp2_with fail
 all_goals go_ret
 all_goals have q1:=HS.out
 all_goals have q2:=HHA.out
 all_goals have q3:=HHB.out
 all_goals refine made_fin14 _ (((Hb.out.alloc Hb.out.size _).alloc (Hb.out.alloc Hb.out.size _).size _).alloc ((Hb.out.alloc Hb.out.size _).alloc (Hb.out.alloc Hb.out.size _).size _).size _) HL.out HK.out (by simp) (by omega) ?_ (by simp)
 all_goals (have q4:=zam l;have q5:=zam r;have q6:=Hs.out;clear e1 e2 e3 e4;unfold wrap64;omega)
theorem made_black14 (X:Nat→Prop) (d:Nat) (w:World) (l r:RT PT) (x:PT) (pl pr:Option Addr) (ku vu:Value) (hl:NM X d w l pl) (hr:NM X d w r pr) (hk:LiesX X d w x.1.items ku∧x.1.text.size≤9223372036854775807) (hv:LiesX X d w x.2.items vu∧x.2.text.size≤9223372036854775807) (hs:l.size+1+r.size<4611686018427387904) :
 Calls Tryz.prog 151 #[.bool false,.pointer pl,.agg #[.int .i64 x.1.kind,.int .i64 x.1.num,.string x.1.text,ku,.int .i64 x.2.kind,.int .i64 x.2.num,.string x.2.text,vu],.pointer pr] w (zah X d (.node false l x r) w):=by
 have HM:Hid (∀V,Below w.heap.size w V→Calls Tryz.prog 73 #[.pointer pl] V (MeasPost14 (l.size:Int) (l.high:Int) (l.blacks:Int) V)):=fun V hV=>measured_14 (hl.keeps hV)
 have HN:Hid (∀V,Below w.heap.size w V→Calls Tryz.prog 73 #[.pointer pr] V (MeasPost14 (r.size:Int) (r.high:Int) (r.blacks:Int) V)):=fun V hV=>measured_14 (hr.keeps hV)
 go_enter Tryz.func151,Tryz.ntmps151
 go_wp2_with fail
 obtain⟨W0,hW0⟩:∃W0,W0=w.alloc (.cells #[.int .i64 x.1.kind,.int .i64 x.1.num,.string x.1.text,ku,.int .i64 x.2.kind,.int .i64 x.2.num,.string x.2.text,vu] 124):=⟨_,rfl⟩
 rw [←hW0]
 have hb0:Below w.heap.size w W0:=by rw [hW0];exact ((Grew.refl w).alloc _).below
 have x0:W0.cell? ⟨w.heap.size,0,none⟩=some (.int .i64 x.1.kind):=by rw [hW0];simp
 have x1:W0.cell? ⟨w.heap.size,1,none⟩=some (.int .i64 x.1.num):=by rw [hW0];simp
 have x2:W0.cell? ⟨w.heap.size,2,none⟩=some (.string x.1.text):=by rw [hW0];simp
 have x3:W0.cell? ⟨w.heap.size,3,none⟩=some ku:=by rw [hW0];simp
 have x4:W0.cell? ⟨w.heap.size,4,none⟩=some (.int .i64 x.2.kind):=by rw [hW0];simp
 have x5:W0.cell? ⟨w.heap.size,5,none⟩=some (.int .i64 x.2.num):=by rw [hW0];simp
 have x6:W0.cell? ⟨w.heap.size,6,none⟩=some (.string x.2.text):=by rw [hW0];simp
 have x7:W0.cell? ⟨w.heap.size,7,none⟩=some vu:=by rw [hW0];simp
 clear hW0
 refine Calls.mono (HM.out _ hb0) ?_
 rintro e w1 ⟨hg1,rfl⟩
 have hb1:Below w.heap.size w w1:=hb0.trans (hg1.mono hb0.size)
 go_wp2_with fail
 refine Calls.mono (HN.out _ hb1) ?_
 rintro e w2 ⟨hg2,rfl⟩
 have hb2:Below w.heap.size w w2:=hb1.trans (hg2.mono hb1.size)
 have hg:Below W0.heap.size W0 w2:=hg1.trans (hg2.mono hg1.size)
 have y0:=zaa hg x0
 have y1:=zaa hg x1
 have y2:=zaa hg x2
 have y3:=zaa hg x3
 have y4:=zaa hg x4
 have y5:=zaa hg x5
 have y6:=zaa hg x6
 have y7:=zaa hg x7
 have hlt:w.heap.size<w2.heap.size:=zad y0
 have hn1 : ¬w.heap.size=w2.heap.size:=by omega
 have hn2 : ¬w2.heap.size=w.heap.size:=by omega
 have Hb:Hid (Below w.heap.size w w2):=hb2
 have Hs:Hid (l.size+1+r.size<4611686018427387904):=hs
 have HL:Hid (NM X d w l pl∧NM X d w r pr):=⟨hl,hr⟩
 have HK:Hid ((LiesX X d w x.1.items ku∧x.1.text.size≤9223372036854775807)∧(LiesX X d w x.2.items vu∧x.2.text.size≤9223372036854775807)):=⟨hk,hv⟩
 obtain⟨S1,hS1⟩:∃S1,S1=l.size+1:=⟨_,rfl⟩
 obtain⟨S2,hS2⟩:∃S2,S2=S1+r.size:=⟨_,rfl⟩
 have e1:IntKind.i64.wrap ((l.size:Int)+1)=(S1:Int):=by rw [IntKind.wrap_i64];omega
 have e2:IntKind.i64.wrap ((S1:Int)+(r.size:Int))=(S2:Int):=by rw [IntKind.wrap_i64];omega
 obtain⟨HA,hHA⟩:∃HA,HA=1+l.high:=⟨_,rfl⟩
 obtain⟨HB,hHB⟩:∃HB,HB=1+r.high:=⟨_,rfl⟩
 have q1:=zam l
 have q2:=zam r
 have e3:IntKind.i64.wrap (1+(l.high:Int))=(HA:Int):=by rw [IntKind.wrap_i64];omega
 have e4:IntKind.i64.wrap (1+(r.high:Int))=(HB:Int):=by rw [IntKind.wrap_i64];omega
 have HHA:Hid (HA=1+l.high):=hHA
 have HHB:Hid (HB=1+r.high):=hHB
 clear q1 q2 hHA hHB
 have HS:Hid (S2=l.size+1+r.size):=by show _=_;omega
 have z0:∀A B C,(((w2.alloc A).alloc B).alloc C).cell? ⟨w.heap.size,0,none⟩=some (.int .i64 x.1.kind):=fun A B C=>zaa ((((Grew.refl w2).alloc A).alloc B).alloc C).below y0
 have z1:∀A B C,(((w2.alloc A).alloc B).alloc C).cell? ⟨w.heap.size,1,none⟩=some (.int .i64 x.1.num):=fun A B C=>zaa ((((Grew.refl w2).alloc A).alloc B).alloc C).below y1
 have z2:∀A B C,(((w2.alloc A).alloc B).alloc C).cell? ⟨w.heap.size,2,none⟩=some (.string x.1.text):=fun A B C=>zaa ((((Grew.refl w2).alloc A).alloc B).alloc C).below y2
 have z3:∀A B C,(((w2.alloc A).alloc B).alloc C).cell? ⟨w.heap.size,3,none⟩=some ku:=fun A B C=>zaa ((((Grew.refl w2).alloc A).alloc B).alloc C).below y3
 have z4:∀A B C,(((w2.alloc A).alloc B).alloc C).cell? ⟨w.heap.size,4,none⟩=some (.int .i64 x.2.kind):=fun A B C=>zaa ((((Grew.refl w2).alloc A).alloc B).alloc C).below y4
 have z5:∀A B C,(((w2.alloc A).alloc B).alloc C).cell? ⟨w.heap.size,5,none⟩=some (.int .i64 x.2.num):=fun A B C=>zaa ((((Grew.refl w2).alloc A).alloc B).alloc C).below y5
 have z6:∀A B C,(((w2.alloc A).alloc B).alloc C).cell? ⟨w.heap.size,6,none⟩=some (.string x.2.text):=fun A B C=>zaa ((((Grew.refl w2).alloc A).alloc B).alloc C).below y6
 have z7:∀A B C,(((w2.alloc A).alloc B).alloc C).cell? ⟨w.heap.size,7,none⟩=some vu:=fun A B C=>zaa ((((Grew.refl w2).alloc A).alloc B).alloc C).below y7
 clear y0 y1 y2 y3 y4 y5 y6 y7
 clear hg1 hg2 hg hb0 hb1 hb2 x0 x1 x2 x3 x4 x5 x6 x7 hl hr hk hv hs HM HN hlt hS1 hS2
 go_wp2_with fail
 all_goals go_ret
 all_goals have q1:=HS.out
 all_goals have q2:=HHA.out
 all_goals have q3:=HHB.out
 all_goals refine made_fin14 _ (((Hb.out.alloc Hb.out.size _).alloc (Hb.out.alloc Hb.out.size _).size _).alloc ((Hb.out.alloc Hb.out.size _).alloc (Hb.out.alloc Hb.out.size _).size _).size _) HL.out HK.out (by simp) (by omega) ?_ ?_
 all_goals (have q4:=zam l;have q5:=zam r;have q6:=Hs.out;have q7:=blacks_size14 l;clear e1 e2 e3 e4;(try simp only [Bool.false_eq_true,if_false]);unfold wrap64;omega)
theorem made_14 (X:Nat→Prop) (d:Nat) (w:World) (c:Bool) (l r:RT PT) (x:PT) (pl pr:Option Addr) (ku vu:Value) (hl:NM X d w l pl) (hr:NM X d w r pr) (hk:LiesX X d w x.1.items ku∧x.1.text.size≤9223372036854775807) (hv:LiesX X d w x.2.items vu∧x.2.text.size≤9223372036854775807) (hs:l.size+1+r.size<4611686018427387904) :
 Calls Tryz.prog 151 #[.bool c,.pointer pl,.agg #[.int .i64 x.1.kind,.int .i64 x.1.num,.string x.1.text,ku,.int .i64 x.2.kind,.int .i64 x.2.num,.string x.2.text,vu],.pointer pr] w (zah X d (.node c l x r) w):=by
 cases c
 ·exact made_black14 X d w l r x pl pr ku vu hl hr hk hv hs
 ·exact made_red14 X d w l r x pl pr ku vu hl hr hk hv hs
structure Bx8 (W:World) (n:Nat) (v0 v1 v2 v3 v4 v5 v6 v7:Value):Prop where
 c0:W.cell? ⟨n,0,none⟩=some v0
 c1:W.cell? ⟨n,1,none⟩=some v1
 c2:W.cell? ⟨n,2,none⟩=some v2
 c3:W.cell? ⟨n,3,none⟩=some v3
 c4:W.cell? ⟨n,4,none⟩=some v4
 c5:W.cell? ⟨n,5,none⟩=some v5
 c6:W.cell? ⟨n,6,none⟩=some v6
 c7:W.cell? ⟨n,7,none⟩=some v7
 f0:W.frozen? ⟨n,0,none⟩=false
 f1:W.frozen? ⟨n,1,none⟩=false
 f2:W.frozen? ⟨n,2,none⟩=false
 f3:W.frozen? ⟨n,3,none⟩=false
 f4:W.frozen? ⟨n,4,none⟩=false
 f5:W.frozen? ⟨n,5,none⟩=false
 f6:W.frozen? ⟨n,6,none⟩=false
 f7:W.frozen? ⟨n,7,none⟩=false
 top:W.cell? ⟨n,13,none⟩=none
theorem cell_none {w w':World} (hb:Below w.heap.size w w') {a:Addr} (ha:a.block<w.heap.size) (h:w.cell? a=none):w'.cell? a=none:=by
 have e:=hb.block a.block ha
 unfold World.cell? at h ⊢
 rw [e]
 exact h
theorem Bx8.keeps {W W':World} {n:Nat} {v0 v1 v2 v3 v4 v5 v6 v7:Value} (h:Bx8 W n v0 v1 v2 v3 v4 v5 v6 v7) (hb:Below W.heap.size W W'):Bx8 W' n v0 v1 v2 v3 v4 v5 v6 v7:=by
 have hl:n<W.heap.size:=zad h.c0
 exact⟨zaa hb h.c0,zaa hb h.c1,zaa hb h.c2,zaa hb h.c3,zaa hb h.c4,zaa hb h.c5,zaa hb h.c6,zaa hb h.c7,(hb.frozen (p:=⟨n,0,none⟩) hl).trans h.f0,(hb.frozen (p:=⟨n,1,none⟩) hl).trans h.f1,(hb.frozen (p:=⟨n,2,none⟩) hl).trans h.f2,(hb.frozen (p:=⟨n,3,none⟩) hl).trans h.f3,(hb.frozen (p:=⟨n,4,none⟩) hl).trans h.f4,(hb.frozen (p:=⟨n,5,none⟩) hl).trans h.f5,(hb.frozen (p:=⟨n,6,none⟩) hl).trans h.f6,(hb.frozen (p:=⟨n,7,none⟩) hl).trans h.f7,cell_none hb hl h.top⟩
theorem bx8_alloc (w:World) (T:Nat) (v0 v1 v2 v3 v4 v5 v6 v7:Value):Bx8 (w.alloc (.cells #[v0,v1,v2,v3,v4,v5,v6,v7] T)) w.heap.size v0 v1 v2 v3 v4 v5 v6 v7:=by
 refine⟨?_,?_,?_,?_,?_,?_,?_,?_,?_,?_,?_,?_,?_,?_,?_,?_,?_⟩ <;> simp
theorem put8_in {W:World} {n:Nat} {v0 v1 v2 v3 v4 v5 v6 v7:Value} (h:Bx8 W n v0 v1 v2 v3 v4 v5 v6 v7) (u0 u1 u2 u3 u4 u5 u6 u7:Value):(W.setCells n 0 [u0,u1,u2,u3,u4,u5,u6,u7]).cell? ⟨n,0,none⟩=some u0∧(W.setCells n 0 [u0,u1,u2,u3,u4,u5,u6,u7]).cell? ⟨n,1,none⟩=some u1∧(W.setCells n 0 [u0,u1,u2,u3,u4,u5,u6,u7]).cell? ⟨n,2,none⟩=some u2∧(W.setCells n 0 [u0,u1,u2,u3,u4,u5,u6,u7]).cell? ⟨n,3,none⟩=some u3∧(W.setCells n 0 [u0,u1,u2,u3,u4,u5,u6,u7]).cell? ⟨n,4,none⟩=some u4∧(W.setCells n 0 [u0,u1,u2,u3,u4,u5,u6,u7]).cell? ⟨n,5,none⟩=some u5∧(W.setCells n 0 [u0,u1,u2,u3,u4,u5,u6,u7]).cell? ⟨n,6,none⟩=some u6∧(W.setCells n 0 [u0,u1,u2,u3,u4,u5,u6,u7]).cell? ⟨n,7,none⟩=some u7:=by
 have hin:∀j (hj:j<[u0,u1,u2,u3,u4,u5,u6,u7].length),(W.setCells n 0 [u0,u1,u2,u3,u4,u5,u6,u7]).cell? ⟨n,0+j,none⟩=some ([u0,u1,u2,u3,u4,u5,u6,u7][j]):=
  World.cell?_setCells_in n _ 0 W (fun j hj=>by
   match j,hj with
   | 0,_=>rw [h.c0];rfl
   | 1,_=>rw [h.c1];rfl
   | 2,_=>rw [h.c2];rfl
   | 3,_=>rw [h.c3];rfl
   | 4,_=>rw [h.c4];rfl
   | 5,_=>rw [h.c5];rfl
   | 6,_=>rw [h.c6];rfl
   | 7,_=>rw [h.c7];rfl)
 refine⟨?_,?_,?_,?_,?_,?_,?_,?_⟩
 ·have q:=hin 0 (by simp);simpa using q
 ·have q:=hin 1 (by simp);simpa using q
 ·have q:=hin 2 (by simp);simpa using q
 ·have q:=hin 3 (by simp);simpa using q
 ·have q:=hin 4 (by simp);simpa using q
 ·have q:=hin 5 (by simp);simpa using q
 ·have q:=hin 6 (by simp);simpa using q
 ·have q:=hin 7 (by simp);simpa using q
theorem below_put8 {n0:Nat} {w W:World} (h:Below n0 w W) {g:Nat} (hg:n0≤g) (v0 v1 v2 v3 v4 v5 v6 v7:Value):Below n0 w (W.setCells g 0 [v0,v1,v2,v3,v4,v5,v6,v7]):=
 (((((((h.setCell (p:=⟨g,0,none⟩) hg _).setCell (p:=⟨g,0+1,none⟩) hg _).setCell (p:=⟨g,0+1+1,none⟩) hg _).setCell (p:=⟨g,0+1+1+1,none⟩) hg _).setCell (p:=⟨g,0+1+1+1+1,none⟩) hg _).setCell (p:=⟨g,0+1+1+1+1+1,none⟩) hg _).setCell (p:=⟨g,0+1+1+1+1+1+1,none⟩) hg _).setCell (p:=⟨g,0+1+1+1+1+1+1+1,none⟩) hg _
end Go.Proofs.YtlnecfjnffdciacGreat
