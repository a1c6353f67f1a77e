import Derived.Test.YtlnecfjnffdciabGreatRWhole
import Derived.Test.YtlnecfjnffdciabGreatLook
set_option maxHeartbeats 2000000
namespace Go.Proofs.YtlnecfjnffdciabGreat
open Go.RowKit
theorem rf_parts6 (d:Nat) (t:VT) (h:Dp d t):(zac d t=false→rf d t 16 1024 = -1)∧(zac d t=true→rf d t 16 1024=cpV d t):=by
 have e:=rf_fw d t 16 1024 h (by omega) (by omega)
 have e2:zac d t=((fw d t 16 1024).1&&rpV d t):=rfl
 rw [←e2] at e
 refine⟨fun hr=>by rw [e,hr];rfl,fun hr=>?_⟩
 rw [e,if_pos hr]
 rw [e2,Bool.and_eq_true] at hr
 have:=fw_count d t 16 1024 (by omega) hr.1
 omega
def partZ (d:Nat) (t:VT):Int:=if zac d t then cpV d t else 0
theorem rparts6_any (d:Nat) (t:VT) (u:Value) (w:World) (hu:Lies d w t.items u) :
 Calls Tryz.prog 210 #[.agg #[.int .i64 t.kind,.int .i64 t.num,.string t.text,u]] w fun e w'=>e=.returned (.tuple #[.int .i64 (partZ d t),.int .i64 (errOf (zac d t))])∧Below w.heap.size w w':=by
 obtain⟨q1,q2⟩:=rf_parts6 d t (Dp.of_lies d w t u hu)
 obtain⟨a,c,rfl,_⟩:=Lies.slice hu
 have HL:Hid (Lies d w t.items (.slice a t.items.length c)):=hu
 clear hu
 cases hr:zac d t
 ·have hz:Hid (partZ d t=0):=by show _=_;unfold partZ;rw [hr];rfl
  have H1:Hid (rf d t 16 1024 = -1):=q1 hr
  clear q1 q2 hr
  go_enter Tryz.func210,Tryz.ntmps210
  go_wp2_with fail
  refine (rfits_any d t _ _ 16 1024 (Lies.keeps ((Grew.refl w).alloc _).below _ _ _ HL.out) (by omega) (by omega) (by omega) (by omega)).mono ?_
  rintro e w1 ⟨rfl,hb⟩
  have hb1:Below w.heap.size w w1:=((Grew.refl w).alloc _).below.trans (hb.mono (by simp))
  rw [H1.out]
  clear hb
  go_wp2_with fail
  go_ret2
  rw [hz.out]
  exact⟨rfl,hb1⟩
 ·have hz:Hid (partZ d t=cpV d t):=by show _=_;unfold partZ;rw [hr];rfl
  have H1:Hid (rf d t 16 1024=cpV d t):=q2 hr
  have hpos:=cpV_pos d t
  clear q1 q2 hr
  go_enter Tryz.func210,Tryz.ntmps210
  go_wp2_with fail
  refine (rfits_any d t _ _ 16 1024 (Lies.keeps ((Grew.refl w).alloc _).below _ _ _ HL.out) (by omega) (by omega) (by omega) (by omega)).mono ?_
  rintro e w1 ⟨rfl,hb⟩
  have hb1:Below w.heap.size w w1:=((Grew.refl w).alloc _).below.trans (hb.mono (by simp))
  rw [H1.out]
  have hge:0≤cpV d t:=by omega
  clear hb
  go_wp2_with fail
  go_ret2
  rw [hz.out]
  exact⟨rfl,hb1⟩
theorem rless_any (a b:Int) (w:World):Calls Tryz.prog 208 #[.int .u64 a,.int .u64 b] w fun e w'=>e=.returned (.int .i64 (cmpI a b))∧w'=w:=by
 by_cases h1:a<b
 ·go_enter Tryz.func208,Tryz.ntmps208
  go_wp2
  go_ret
  exact⟨by simp [cmpI,h1],rfl⟩
 ·by_cases h2:b<a
  ·go_enter Tryz.func208,Tryz.ntmps208
   go_wp2
   go_ret
   exact⟨zaf (by unfold cmpI;rw [if_neg (by omega),if_pos (by omega)]),rfl⟩
  ·go_enter Tryz.func208,Tryz.ntmps208
   go_wp2
   go_ret
   exact⟨zaf (by unfold cmpI;rw [if_neg (by omega),if_neg (by omega)]),rfl⟩
theorem rfar_any (n:Int) (w:World):Calls Tryz.prog 212 #[.int .i64 n] w fun e w'=>e=.returned (.int .u64 (farZ n))∧w'=w:=by
 unfold farZ
 by_cases h1:n<0
 ·rw [if_pos h1]
  go_enter Tryz.func212,Tryz.ntmps212
  go_wp2
  go_ret
  exact⟨rfl,rfl⟩
 ·rw [if_neg h1]
  go_enter Tryz.func212,Tryz.ntmps212
  go_wp2
  go_ret
  exact⟨rfl,rfl⟩
def fstZ (q:Nat) (a b:VT):Int:=
 if q=2 then cmpI (msr 2 a) (msr 2 b) else if q=3 then cmpI (msr 3 a) (msr 3 b) else if q=4 then (if a.kind=3∧b.kind=3 then cmpI (msr 4 a) (msr 4 b) else 0)
 else if q=5 then (if a.kind=2∧b.kind=2 then cmpI (msr 5 a) (msr 5 b) else 0) else 0
theorem text_zero:runesZ ⟨#[]⟩=0:=by
 have:=runesZ_range ⟨#[]⟩
 have e:(⟨#[]⟩:ByteArray).size=0:=rfl
 omega
theorem fst_ord (q:Nat) (hq:q<6) {a b:VT} (ha:zac 16 a=true) (hb:zac 16 b=true):ordV q a b=(if q=1 then -(if fstZ q a b=0 then cmpV 16 a b else fstZ q a b) else (if fstZ q a b=0 then cmpV 16 a b else fstZ q a b)):=by
 have ta:=right_text (right_own ha)
 have tb:=right_text (right_own hb)
 match q,hq with
 | 0,_=>
  have e1:ordV 0 a b=cmpV 16 a b:=by unfold ordV ordM;simp
  have e2:fstZ 0 a b=0:=by unfold fstZ;simp
  rw [e1,e2,if_neg (show ¬0=1 by omega),if_pos rfl]
 | 1,_=>
  have e1:ordV 1 a b=cmpV 16 b a:=by unfold ordV ordM;simp
  have e2:fstZ 1 a b=0:=by unfold fstZ;simp
  rw [e1,e2,if_pos rfl,if_pos rfl]
  exact zat 16 a b
 | 2,_=>
  have e1:ordV 2 a b=if cmpI (msr 2 a) (msr 2 b)≠0 then cmpI (msr 2 a) (msr 2 b) else cmpV 16 a b:=by unfold ordV ordM;simp
  have e2:fstZ 2 a b=cmpI (msr 2 a) (msr 2 b):=by unfold fstZ;simp
  rw [e1,e2,if_neg (show ¬2=1 by omega)]
  clear e1 e2
  generalize cmpI (msr 2 a) (msr 2 b)=z
  by_cases h:z=0
  ·rw [if_neg (fun c=>c h),if_pos h]
  ·rw [if_pos h,if_neg h]
 | 3,_=>
  have e1:ordV 3 a b=if cmpI (msr 3 a) (msr 3 b)≠0 then cmpI (msr 3 a) (msr 3 b) else cmpV 16 a b:=by unfold ordV ordM;simp
  have e2:fstZ 3 a b=cmpI (msr 3 a) (msr 3 b):=by unfold fstZ;simp
  rw [e1,e2,if_neg (show ¬3=1 by omega)]
  clear e1 e2
  generalize cmpI (msr 3 a) (msr 3 b)=z
  by_cases h:z=0
  ·rw [if_neg (fun c=>c h),if_pos h]
  ·rw [if_pos h,if_neg h]
 | 4,_=>
  have e1:ordV 4 a b=if a.kind≠b.kind then cmpV 16 a b else if cmpI (msr 4 a) (msr 4 b)≠0 then cmpI (msr 4 a) (msr 4 b) else cmpV 16 a b:=by unfold ordV ordM;simp
  have e2:fstZ 4 a b=if a.kind=3∧b.kind=3 then cmpI (msr 4 a) (msr 4 b) else 0:=by unfold fstZ;simp
  rw [e1,if_neg (show ¬4=1 by omega)]
  clear e1
  by_cases hk:a.kind=b.kind
  ·rw [if_neg (fun c=>c hk)]
   by_cases h3:a.kind=3
   ·rw [if_pos ⟨h3,by rw [←hk];exact h3⟩] at e2
    rw [e2]
    by_cases h:cmpI (msr 4 a) (msr 4 b)=0
    ·rw [if_neg (fun c=>c h),if_pos h]
    ·rw [if_pos h,if_neg h]
   ·rw [if_neg (fun c=>h3 c.1)] at e2
    have z1:msr 4 a=0:=by unfold msr;simp;rw [ta.2.2 h3];exact text_zero
    have z2:msr 4 b=0:=by unfold msr;simp;rw [tb.2.2 (by rw [←hk];exact h3)];exact text_zero
    rw [e2,if_pos rfl,z1,z2,cmpI_same,if_neg (by simp)]
  ·rw [if_neg (fun c=>hk (by rw [c.1,c.2]))] at e2
   rw [if_pos hk,e2,if_pos rfl]
 | 5,_=>
  have e1:ordV 5 a b=if a.kind≠b.kind then cmpV 16 a b else if cmpI (msr 5 a) (msr 5 b)≠0 then cmpI (msr 5 a) (msr 5 b) else cmpV 16 a b:=by unfold ordV ordM;simp
  have e2:fstZ 5 a b=if a.kind=2∧b.kind=2 then cmpI (msr 5 a) (msr 5 b) else 0:=by unfold fstZ;simp
  rw [e1,if_neg (show ¬5=1 by omega)]
  clear e1
  by_cases hk:a.kind=b.kind
  ·rw [if_neg (fun c=>c hk)]
   by_cases h3:a.kind=2
   ·rw [if_pos ⟨h3,by rw [←hk];exact h3⟩] at e2
    rw [e2]
    by_cases h:cmpI (msr 5 a) (msr 5 b)=0
    ·rw [if_neg (fun c=>c h),if_pos h]
    ·rw [if_pos h,if_neg h]
   ·rw [if_neg (fun c=>h3 c.1)] at e2
    have z1:msr 5 a=0:=by unfold msr;simp;exact fun c=>absurd c h3
    have z2:msr 5 b=0:=by unfold msr;simp;exact fun c=>absurd (hk.trans c) h3
    rw [e2,if_pos rfl,z1,z2,cmpI_same,if_neg (by simp)]
  ·rw [if_neg (fun c=>hk (by rw [c.1,c.2]))] at e2
   rw [if_pos hk,e2,if_pos rfl]
theorem first_none (q:Nat) (hq:q=0∨q=1) (t s:VT) (ax ay:Option Addr) (lx cx ly cy:Nat) (w:World):Calls Tryz.prog 145 #[.int .i64 q,.agg #[.int .i64 t.kind,.int .i64 t.num,.string t.text,.slice ax lx cx],.agg #[.int .i64 s.kind,.int .i64 s.num,.string s.text,.slice ay ly cy]] w fun e w'=>e=.returned (.int .i64 0)∧Below w.heap.size w w':=by
 have hb0:Below w.heap.size w (twoW w t s (.slice ax lx cx) (.slice ay ly cy)):=(Grew.two w _ _).below
 rcases hq with rfl|rfl
 all_goals
  go_enter Tryz.func145,Tryz.ntmps145
  go_wp2_with fail
  go_ret
  exact⟨rfl,hb0⟩
theorem first_two (t s:VT) (ax ay:Option Addr) (lx cx ly cy:Nat) (w:World) (zt zs:Int)
 (H1:Hid (∀W,Below w.heap.size w W→Calls Tryz.prog 209 #[.agg #[.int .i64 t.kind,.int .i64 t.num,.string t.text,.slice ax lx cx]] W fun e W'=>e=.returned (.int .u32 zt)∧Below W.heap.size W W'))
 (H2:Hid (∀W,Below w.heap.size w W→Calls Tryz.prog 209 #[.agg #[.int .i64 s.kind,.int .i64 s.num,.string s.text,.slice ay ly cy]] W fun e W'=>e=.returned (.int .u32 zs)∧Below W.heap.size W W')) :
 Calls Tryz.prog 145 #[.int .i64 2,.agg #[.int .i64 t.kind,.int .i64 t.num,.string t.text,.slice ax lx cx],.agg #[.int .i64 s.kind,.int .i64 s.num,.string s.text,.slice ay ly cy]] w fun e w'=>e=.returned (.int .i64 (cmpI (IntKind.u64.wrap zt) (IntKind.u64.wrap zs)))∧Below w.heap.size w w':=by
 have HBx:Hid (Boxed (twoW w t s (.slice ax lx cx) (.slice ay ly cy)) w.heap.size t.kind t.num t.text (.slice ax lx cx)∧Boxed (twoW w t s (.slice ax lx cx) (.slice ay ly cy)) (w.heap.size+1) s.kind s.num s.text (.slice ay ly cy)):=two_boxes w t s _ _
 have hb0:Below w.heap.size w (twoW w t s (.slice ax lx cx) (.slice ay ly cy)):=(Grew.two w _ _).below
 have hb1:Below w.heap.size w (twoW w t s (.slice ax lx cx) (.slice ay ly cy)).drew:=hb0.drew
 have HB1:Hid (Boxed (twoW w t s (.slice ax lx cx) (.slice ay ly cy)).drew w.heap.size t.kind t.num t.text (.slice ax lx cx)∧Boxed (twoW w t s (.slice ax lx cx) (.slice ay ly cy)).drew (w.heap.size+1) s.kind s.num s.text (.slice ay ly cy)):=⟨HBx.out.1.keeps (Grew.refl _).drew.below,HBx.out.2.keeps (Grew.refl _).drew.below⟩
 clear HBx hb0
 obtain⟨⟨x0,x1,x2,x3⟩,⟨y0,y1,y2,y3⟩⟩:=HB1.out
 go_enter Tryz.func145,Tryz.ntmps145
 go_wp2_with fail
 go_region_held3 (fun w'=>w'.cell? ⟨w.heap.size,0,none⟩=some (.int .i64 t.kind)∧w'.cell? ⟨w.heap.size,1,none⟩=some (.int .i64 t.num)∧w'.cell? ⟨w.heap.size,2,none⟩=some (.string t.text)∧w'.cell? ⟨w.heap.size,3,none⟩=some (.slice ax lx cx)∧w'.cell? ⟨w.heap.size+1,0,none⟩=some (.int .i64 s.kind)∧w'.cell? ⟨w.heap.size+1,1,none⟩=some (.int .i64 s.num)∧w'.cell? ⟨w.heap.size+1,2,none⟩=some (.string s.text)∧w'.cell? ⟨w.heap.size+1,3,none⟩=some (.slice ay ly cy)) (go_keep)
  (first
   | (go_at_call 208;refine (rless_any _ _ _).mono ?_;rintro e w9 ⟨rfl,rfl⟩)
   | (go_at_call 209;refine (H2.out _ hb2).mono ?_;rintro e w3 ⟨rfl,hg3⟩;have hb3:Below w.heap.size w w3:=hb2.trans (hg3.mono hb2.size);have x0:=zaa hg3 x0;have x1:=zaa hg3 x1;have x2:=zaa hg3 x2;have x3:=zaa hg3 x3;have y0:=zaa hg3 y0;have y1:=zaa hg3 y1;have y2:=zaa hg3 y2;have y3:=zaa hg3 y3;clear hg3)
   | (go_at_call 209;refine (H1.out _ hb1).mono ?_;rintro e w2 ⟨rfl,hg2⟩;have hb2:Below w.heap.size w w2:=hb1.trans (hg2.mono hb1.size);have x0:=zaa hg2 x0;have x1:=zaa hg2 x1;have x2:=zaa hg2 x2;have x3:=zaa hg2 x3;have y0:=zaa hg2 y0;have y1:=zaa hg2 y1;have y2:=zaa hg2 y2;have y3:=zaa hg2 y3;clear hg2))
 go_wp2_with fail
 go_ret
 exact⟨rfl,hb3⟩
theorem first_three (t s:VT) (ax ay:Option Addr) (lx cx ly cy:Nat) (w:World) (zt zs e1 e2:Int)
 (H1:Hid (∀W,Below w.heap.size w W→Calls Tryz.prog 210 #[.agg #[.int .i64 t.kind,.int .i64 t.num,.string t.text,.slice ax lx cx]] W fun e W'=>e=.returned (.tuple #[.int .i64 zt,.int .i64 e1])∧Below W.heap.size W W'))
 (H2:Hid (∀W,Below w.heap.size w W→Calls Tryz.prog 210 #[.agg #[.int .i64 s.kind,.int .i64 s.num,.string s.text,.slice ay ly cy]] W fun e W'=>e=.returned (.tuple #[.int .i64 zs,.int .i64 e2])∧Below W.heap.size W W')) :
 Calls Tryz.prog 145 #[.int .i64 3,.agg #[.int .i64 t.kind,.int .i64 t.num,.string t.text,.slice ax lx cx],.agg #[.int .i64 s.kind,.int .i64 s.num,.string s.text,.slice ay ly cy]] w fun e w'=>e=.returned (.int .i64 (cmpI (IntKind.u64.wrap zt) (IntKind.u64.wrap zs)))∧Below w.heap.size w w':=by
 have HBx:Hid (Boxed (twoW w t s (.slice ax lx cx) (.slice ay ly cy)) w.heap.size t.kind t.num t.text (.slice ax lx cx)∧Boxed (twoW w t s (.slice ax lx cx) (.slice ay ly cy)) (w.heap.size+1) s.kind s.num s.text (.slice ay ly cy)):=two_boxes w t s _ _
 have hb0:Below w.heap.size w (twoW w t s (.slice ax lx cx) (.slice ay ly cy)):=(Grew.two w _ _).below
 go_enter Tryz.func145,Tryz.ntmps145
 go_wp2_with fail
 refine (H1.out _ hb0).mono ?_
 rintro e w1 ⟨rfl,hb⟩
 have hb1:Below w.heap.size w w1:=hb0.trans (hb.mono hb0.size)
 obtain⟨⟨x0,x1,x2,x3⟩,⟨y0,y1,y2,y3⟩⟩:=(⟨HBx.out.1.keeps hb,HBx.out.2.keeps hb⟩:Boxed w1 w.heap.size t.kind t.num t.text (.slice ax lx cx)∧Boxed w1 (w.heap.size+1) s.kind s.num s.text (.slice ay ly cy))
 clear hb HBx hb0
 go_wp2_with fail
 refine (H2.out _ hb1).mono ?_
 rintro e w2 ⟨rfl,hb⟩
 have hb2:Below w.heap.size w w2:=hb1.trans (hb.mono hb1.size)
 clear hb x0 x1 x2 x3 y0 y1 y2 y3
 go_wp2_with (go_at_call 208;refine (rless_any _ _ _).mono ?_;rintro e w9 ⟨rfl,rfl⟩)
 go_ret
 exact⟨rfl,hb2⟩
theorem first_four (t s:VT) (ax ay:Option Addr) (lx cx ly cy:Nat) (w:World) (h1:t.text.size≤256) (h2:s.text.size≤256) (k1:t.kind=3) (k2:s.kind=3) (zt zs:Int) (l1:za5 t.text=zt) (l2:za5 s.text=zs) :
 Calls Tryz.prog 145 #[.int .i64 4,.agg #[.int .i64 t.kind,.int .i64 t.num,.string t.text,.slice ax lx cx],.agg #[.int .i64 s.kind,.int .i64 s.num,.string s.text,.slice ay ly cy]] w fun e w'=>e=.returned (.int .i64 (cmpI (IntKind.u64.wrap zt) (IntKind.u64.wrap zs)))∧Below w.heap.size w w':=by
 have HBx:Hid (Boxed (twoW w t s (.slice ax lx cx) (.slice ay ly cy)) w.heap.size t.kind t.num t.text (.slice ax lx cx)∧Boxed (twoW w t s (.slice ax lx cx) (.slice ay ly cy)) (w.heap.size+1) s.kind s.num s.text (.slice ay ly cy)):=two_boxes w t s _ _
 have hb0:Below w.heap.size w (twoW w t s (.slice ax lx cx) (.slice ay ly cy)):=(Grew.two w _ _).below
 have k1':(t.kind==3)=true:=by simpa using k1
 have k2':(s.kind==3)=true:=by simpa using k2
 have H1:Hid (∀W:World,Calls Tryz.prog 211 #[.string t.text] W fun e w'=>e=.returned (.int .i64 zt)∧w'=W):=fun W=>by have:=letters_any t.text W (by omega);rwa [l1] at this
 have H2:Hid (∀W:World,Calls Tryz.prog 211 #[.string s.text] W fun e w'=>e=.returned (.int .i64 zs)∧w'=W):=fun W=>by have:=letters_any s.text W (by omega);rwa [l2] at this
 have hb1:Below w.heap.size w (twoW w t s (.slice ax lx cx) (.slice ay ly cy)).drew:=hb0.drew
 have HB1:Hid (Boxed (twoW w t s (.slice ax lx cx) (.slice ay ly cy)).drew w.heap.size t.kind t.num t.text (.slice ax lx cx)∧Boxed (twoW w t s (.slice ax lx cx) (.slice ay ly cy)).drew (w.heap.size+1) s.kind s.num s.text (.slice ay ly cy)):=⟨HBx.out.1.keeps (Grew.refl _).drew.below,HBx.out.2.keeps (Grew.refl _).drew.below⟩
 clear HBx hb0 k1 k2 l1 l2 h1 h2
 go_enter Tryz.func145,Tryz.ntmps145
 go_wp2_with fail
 obtain⟨⟨x0,x1,x2,x3⟩,⟨y0,y1,y2,y3⟩⟩:=HB1.out
 go_region_held3 (fun w'=>w'.cell? ⟨w.heap.size,2,none⟩=some (.string t.text)∧w'.cell? ⟨w.heap.size+1,2,none⟩=some (.string s.text)) (go_keep)
  (first
   | (go_at_call 208;refine (rless_any _ _ _).mono ?_;rintro e w9 ⟨rfl,rfl⟩)
   | (go_at_call 211;clear hmark;refine (H2.out _).mono ?_;rintro e w9 ⟨rfl,rfl⟩)
   | (go_at_call 211;refine (H1.out _).mono ?_;rintro e w9 ⟨rfl,rfl⟩;have hmark:Hid True:=trivial))
 go_wp2_with fail
 go_ret
 exact⟨rfl,hb1⟩
theorem first_four_none (t s:VT) (ax ay:Option Addr) (lx cx ly cy:Nat) (w:World) (h : ¬(t.kind=3∧s.kind=3)) :
 Calls Tryz.prog 145 #[.int .i64 4,.agg #[.int .i64 t.kind,.int .i64 t.num,.string t.text,.slice ax lx cx],.agg #[.int .i64 s.kind,.int .i64 s.num,.string s.text,.slice ay ly cy]] w fun e w'=>e=.returned (.int .i64 0)∧Below w.heap.size w w':=by
 have hb0:Below w.heap.size w (twoW w t s (.slice ax lx cx) (.slice ay ly cy)):=(Grew.two w _ _).below
 by_cases k1:t.kind=3
 ·have k1':(t.kind==3)=true:=by simpa using k1
  have k2':(s.kind==3)=false:=by simpa using fun k=>h ⟨k1,k⟩
  clear h k1
  go_enter Tryz.func145,Tryz.ntmps145
  go_wp2_with fail
  go_ret
  exact⟨rfl,hb0⟩
 ·have k1':(t.kind==3)=false:=by simpa using k1
  clear h k1
  go_enter Tryz.func145,Tryz.ntmps145
  go_wp2_with fail
  go_ret
  exact⟨rfl,hb0⟩
theorem first_five (t s:VT) (ax ay:Option Addr) (lx cx ly cy:Nat) (w:World) (k1:t.kind=2) (k2:s.kind=2) :
 Calls Tryz.prog 145 #[.int .i64 5,.agg #[.int .i64 t.kind,.int .i64 t.num,.string t.text,.slice ax lx cx],.agg #[.int .i64 s.kind,.int .i64 s.num,.string s.text,.slice ay ly cy]] w fun e w'=>e=.returned (.int .i64 (cmpI (farZ t.num) (farZ s.num)))∧Below w.heap.size w w':=by
 have HBx:Hid (Boxed (twoW w t s (.slice ax lx cx) (.slice ay ly cy)) w.heap.size t.kind t.num t.text (.slice ax lx cx)∧Boxed (twoW w t s (.slice ax lx cx) (.slice ay ly cy)) (w.heap.size+1) s.kind s.num s.text (.slice ay ly cy)):=two_boxes w t s _ _
 have hb0:Below w.heap.size w (twoW w t s (.slice ax lx cx) (.slice ay ly cy)):=(Grew.two w _ _).below
 have k1':(t.kind==2)=true:=by simpa using k1
 have k2':(s.kind==2)=true:=by simpa using k2
 have hb1:Below w.heap.size w (twoW w t s (.slice ax lx cx) (.slice ay ly cy)).drew:=hb0.drew
 have HB1:Hid (Boxed (twoW w t s (.slice ax lx cx) (.slice ay ly cy)).drew w.heap.size t.kind t.num t.text (.slice ax lx cx)∧Boxed (twoW w t s (.slice ax lx cx) (.slice ay ly cy)).drew (w.heap.size+1) s.kind s.num s.text (.slice ay ly cy)):=⟨HBx.out.1.keeps (Grew.refl _).drew.below,HBx.out.2.keeps (Grew.refl _).drew.below⟩
 clear HBx hb0 k1 k2
 obtain⟨⟨x0,x1,x2,x3⟩,⟨y0,y1,y2,y3⟩⟩:=HB1.out
 go_enter Tryz.func145,Tryz.ntmps145
 go_wp2_with fail
 go_region_held3 (fun w'=>w'.cell? ⟨w.heap.size,1,none⟩=some (.int .i64 t.num)∧w'.cell? ⟨w.heap.size+1,1,none⟩=some (.int .i64 s.num)) (go_keep)
  (first
   | (go_at_call 208;refine (rless_any _ _ _).mono ?_;rintro e w9 ⟨rfl,rfl⟩)
   | (go_at_call 212;refine (rfar_any _ _).mono ?_;rintro e w9 ⟨rfl,rfl⟩))
 go_wp2_with fail
 go_ret
 exact⟨rfl,hb1⟩
theorem first_five_none (t s:VT) (ax ay:Option Addr) (lx cx ly cy:Nat) (w:World) (h : ¬(t.kind=2∧s.kind=2)) :
 Calls Tryz.prog 145 #[.int .i64 5,.agg #[.int .i64 t.kind,.int .i64 t.num,.string t.text,.slice ax lx cx],.agg #[.int .i64 s.kind,.int .i64 s.num,.string s.text,.slice ay ly cy]] w fun e w'=>e=.returned (.int .i64 0)∧Below w.heap.size w w':=by
 have hb0:Below w.heap.size w (twoW w t s (.slice ax lx cx) (.slice ay ly cy)):=(Grew.two w _ _).below
 by_cases k1:t.kind=2
 ·have k1':(t.kind==2)=true:=by simpa using k1
  have k2':(s.kind==2)=false:=by simpa using fun k=>h ⟨k1,k⟩
  clear h k1
  go_enter Tryz.func145,Tryz.ntmps145
  go_wp2_with fail
  go_ret
  exact⟨rfl,hb0⟩
 ·have k1':(t.kind==2)=false:=by simpa using k1
  clear h k1
  go_enter Tryz.func145,Tryz.ntmps145
  go_wp2_with fail
  go_ret
  exact⟨rfl,hb0⟩
theorem rfirst_any (q:Nat) (hq:q<6) (t s:VT) (x y:Value) (w:World) (hx:Lies 16 w t.items x) (hy:Lies 16 w s.items y) (ht:zac 16 t=true) (hs:zac 16 s=true) :
 Calls Tryz.prog 145 #[.int .i64 q,.agg #[.int .i64 t.kind,.int .i64 t.num,.string t.text,x],.agg #[.int .i64 s.kind,.int .i64 s.num,.string s.text,y]] w fun e w'=>e=.returned (.int .i64 (fstZ q t s))∧Below w.heap.size w w':=by
 obtain⟨ax,cx,rfl,_⟩:=Lies.slice hx
 obtain⟨ay,cy,rfl,_⟩:=Lies.slice hy
 match q,hq with
 | 0,_=>exact first_none 0 (.inl rfl) t s ax ay _ cx _ cy w
 | 1,_=>exact first_none 1 (.inr rfl) t s ax ay _ cx _ cy w
 | 2,_=>exact first_two t s ax ay _ cx _ cy w _ _ (fun W hW=>whole_any 16 t _ W (Lies.keeps hW _ _ _ hx) (rex_right ht)) (fun W hW=>whole_any 16 s _ W (Lies.keeps hW _ _ _ hy) (rex_right hs))
 | 3,_=>
  have p1:partZ 16 t=cpV 16 t:=by unfold partZ;rw [ht];rfl
  have p2:partZ 16 s=cpV 16 s:=by unfold partZ;rw [hs];rfl
  have h:=first_three t s ax ay _ cx _ cy w _ _ _ _ (fun W hW=>rparts6_any 16 t _ W (Lies.keeps hW _ _ _ hx)) (fun W hW=>rparts6_any 16 s _ W (Lies.keeps hW _ _ _ hy))
  rw [p1,p2] at h
  exact h
 | 4,_=>
  have e2:fstZ 4 t s=if t.kind=3∧s.kind=3 then cmpI (runesZ t.text) (runesZ s.text) else 0:=by unfold fstZ;simp [msr]
  rw [e2]
  by_cases h:t.kind=3∧s.kind=3
  ·rw [if_pos h]
   have ta:=right_text (right_own ht)
   have tb:=right_text (right_own hs)
   have ra:=runesZ_range t.text
   have rb:=runesZ_range s.text
   have h4:=first_four t s ax ay t.items.length cx s.items.length cy w ta.1 tb.1 h.1 h.2 _ _ (runes_letters _ (ta.2.1 h.1)) (runes_letters _ (tb.2.1 h.2))
   have w1:IntKind.u64.wrap (runesZ t.text)=runesZ t.text:=by rw [IntKind.wrap_u64];have:=ta.1;omega
   have w2:IntKind.u64.wrap (runesZ s.text)=runesZ s.text:=by rw [IntKind.wrap_u64];have:=tb.1;omega
   rw [w1,w2] at h4
   exact h4
  ·rw [if_neg h]
   exact first_four_none t s ax ay _ cx _ cy w h
 | 5,_=>
  have e2:fstZ 5 t s=if t.kind=2∧s.kind=2 then cmpI (msr 5 t) (msr 5 s) else 0:=by unfold fstZ;simp
  rw [e2]
  by_cases h:t.kind=2∧s.kind=2
  ·rw [if_pos h]
   have m1:msr 5 t=farZ t.num:=by unfold msr;simp;exact fun c=>absurd h.1 c
   have m2:msr 5 s=farZ s.num:=by unfold msr;simp;exact fun c=>absurd h.2 c
   rw [m1,m2]
   exact first_five t s ax ay _ cx _ cy w h.1 h.2
  ·rw [if_neg h]
   exact first_five_none t s ax ay _ cx _ cy w h
theorem rordV_core (q:Nat) (t s:VT) (ax ay:Option Addr) (lx cx ly cy:Nat) (w:World) (F C:Int) (hC : -1≤C∧C≤1) (hF : -1≤F∧F≤1)
 (H1:Hid (∀W,Below w.heap.size w W→Calls Tryz.prog 145 #[.int .i64 q,.agg #[.int .i64 t.kind,.int .i64 t.num,.string t.text,.slice ax lx cx],.agg #[.int .i64 s.kind,.int .i64 s.num,.string s.text,.slice ay ly cy]] W fun e W'=>e=.returned (.int .i64 F)∧Below W.heap.size W W'))
 (H2:Hid (∀W,Below w.heap.size w W→Calls Tryz.prog 146 #[.agg #[.int .i64 t.kind,.int .i64 t.num,.string t.text,.slice ax lx cx],.agg #[.int .i64 s.kind,.int .i64 s.num,.string s.text,.slice ay ly cy]] W fun e W'=>e=.returned (.int .i64 C)∧Below W.heap.size W W')) :
 Calls Tryz.prog 91 #[.int .i64 q,.agg #[.int .i64 t.kind,.int .i64 t.num,.string t.text,.slice ax lx cx],.agg #[.int .i64 s.kind,.int .i64 s.num,.string s.text,.slice ay ly cy]] w fun e w'=>e=.returned (.int .i64 (if q=1 then -(if F=0 then C else F) else (if F=0 then C else F)))∧Below w.heap.size w w':=by
 have HBx:Hid (Boxed (twoW w t s (.slice ax lx cx) (.slice ay ly cy)) w.heap.size t.kind t.num t.text (.slice ax lx cx)∧Boxed (twoW w t s (.slice ax lx cx) (.slice ay ly cy)) (w.heap.size+1) s.kind s.num s.text (.slice ay ly cy)):=two_boxes w t s _ _
 have hb0:Below w.heap.size w (twoW w t s (.slice ax lx cx) (.slice ay ly cy)):=(Grew.two w _ _).below
 obtain⟨c1,c2⟩:=hC
 obtain⟨f1,f2⟩:=hF
 by_cases hq:q=1
 ·rw [if_pos hq]
  subst hq
  by_cases hz:F=0
  ·rw [if_pos hz]
   subst hz
   go_enter Tryz.func91,Tryz.ntmps91
   go_wp2_with fail
   refine (H1.out _ hb0).mono ?_
   rintro e w1 ⟨rfl,hb⟩
   have hb1:Below w.heap.size w w1:=hb0.trans (hb.mono hb0.size)
   obtain⟨⟨x0,x1,x2,x3⟩,⟨y0,y1,y2,y3⟩⟩:=(⟨HBx.out.1.keeps hb,HBx.out.2.keeps hb⟩:Boxed w1 w.heap.size t.kind t.num t.text (.slice ax lx cx)∧Boxed w1 (w.heap.size+1) s.kind s.num s.text (.slice ay ly cy))
   clear hb HBx hb0
   go_wp2_with fail
   refine (H2.out _ hb1).mono ?_
   rintro e w2 ⟨rfl,hb⟩
   have hb2:Below w.heap.size w w2:=hb1.trans (hb.mono hb1.size)
   clear hb x0 x1 x2 x3 y0 y1 y2 y3
   go_wp2_with fail
   go_ret
   exact⟨rfl,hb2⟩
  ·rw [if_neg hz]
   go_enter Tryz.func91,Tryz.ntmps91
   go_wp2_with fail
   refine (H1.out _ hb0).mono ?_
   rintro e w1 ⟨rfl,hb⟩
   have hb1:Below w.heap.size w w1:=hb0.trans (hb.mono hb0.size)
   clear hb HBx hb0
   go_wp2_with fail
   go_ret
   exact⟨rfl,hb1⟩
 ·rw [if_neg hq]
  have hq' : ¬(q:Int)=1:=by omega
  by_cases hz:F=0
  ·rw [if_pos hz]
   subst hz
   go_enter Tryz.func91,Tryz.ntmps91
   go_wp2_with fail
   refine (H1.out _ hb0).mono ?_
   rintro e w1 ⟨rfl,hb⟩
   have hb1:Below w.heap.size w w1:=hb0.trans (hb.mono hb0.size)
   obtain⟨⟨x0,x1,x2,x3⟩,⟨y0,y1,y2,y3⟩⟩:=(⟨HBx.out.1.keeps hb,HBx.out.2.keeps hb⟩:Boxed w1 w.heap.size t.kind t.num t.text (.slice ax lx cx)∧Boxed w1 (w.heap.size+1) s.kind s.num s.text (.slice ay ly cy))
   clear hb HBx hb0
   go_wp2_with fail
   refine (H2.out _ hb1).mono ?_
   rintro e w2 ⟨rfl,hb⟩
   have hb2:Below w.heap.size w w2:=hb1.trans (hb.mono hb1.size)
   clear hb x0 x1 x2 x3 y0 y1 y2 y3
   go_wp2_with fail
   go_ret
   exact⟨rfl,hb2⟩
  ·rw [if_neg hz]
   go_enter Tryz.func91,Tryz.ntmps91
   go_wp2_with fail
   refine (H1.out _ hb0).mono ?_
   rintro e w1 ⟨rfl,hb⟩
   have hb1:Below w.heap.size w w1:=hb0.trans (hb.mono hb0.size)
   clear hb HBx hb0
   go_wp2_with fail
   go_ret
   exact⟨rfl,hb1⟩
theorem fstZ_range (q:Nat) (a b:VT) : -1≤fstZ q a b∧fstZ q a b≤1:=by
 unfold fstZ
 split
 ·exact cmpI_range _ _
 ·split
  ·exact cmpI_range _ _
  ·split
   ·split
    ·exact cmpI_range _ _
    ·omega
   ·split
    ·split
     ·exact cmpI_range _ _
     ·omega
    ·omega
theorem rordV_any (q:Nat) (hq:q<6) (t s:VT) (x y:Value) (w:World) (hx:Lies 16 w t.items x) (hy:Lies 16 w s.items y) (ht:zac 16 t=true) (hs:zac 16 s=true) :
 Calls Tryz.prog 91 #[.int .i64 q,.agg #[.int .i64 t.kind,.int .i64 t.num,.string t.text,x],.agg #[.int .i64 s.kind,.int .i64 s.num,.string s.text,y]] w fun e w'=>e=.returned (.int .i64 (ordV q t s))∧Below w.heap.size w w':=by
 obtain⟨ax,cx,rfl,_⟩:=Lies.slice hx
 obtain⟨ay,cy,rfl,_⟩:=Lies.slice hy
 rw [fst_ord q hq ht hs]
 exact rordV_core q t s ax ay _ cx _ cy w _ _ (cmpV_range 16 t s) (fstZ_range q t s) (fun W hW=>rfirst_any q hq t s _ _ W (Lies.keeps hW _ _ _ hx) (Lies.keeps hW _ _ _ hy) ht hs)
  (fun W hW=>(ref_any 16 t s _ _ W (Lies.keeps hW _ _ _ hx) (Lies.keeps hW _ _ _ hy)).mono fun e W' h=>⟨h.1,h.2⟩)
end Go.Proofs.YtlnecfjnffdciabGreat
