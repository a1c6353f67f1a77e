import Derived.Test.YtcflooaoocngdaaGreatProg
import Derived.Test.YtcflooaoocngdaaGreatSymC
import Derived.Deep.LoopGhost
set_option maxHeartbeats 1000000
namespace Go.Proofs.YtcflooaoocngdaaGreat
open Go.RowKit
theorem zai {k:IntKind} {a b:Int} (h:a=b):Ending.returned (.int k a)=.returned (.int k b):=by rw [h]
theorem cmp_int (a b:Int) (w:World):Calls Tryz.prog 39 #[.int .i64 a,.int .i64 b] w fun e w'=>e=.returned (.int .i64 (cmpI a b))∧w'=w:=by
 by_cases h1:a<b
 ·go_enter Tryz.func39,Tryz.ntmps39
  go_wp2
  go_ret
  exact⟨by simp [cmpI,h1],rfl⟩
 ·by_cases h2:b<a
  ·go_enter Tryz.func39,Tryz.ntmps39
   go_wp2
   go_ret
   exact⟨zai (by unfold cmpI;rw [if_neg (by omega),if_pos (by omega)]),rfl⟩
  ·go_enter Tryz.func39,Tryz.ntmps39
   go_wp2
   go_ret
   exact⟨zai (by unfold cmpI;rw [if_neg (by omega),if_neg (by omega)]),rfl⟩
theorem cmp_int64 (a b:Int) (w:World):Calls Tryz.prog 62 #[.int .i64 a,.int .i64 b] w fun e w'=>e=.returned (.int .i64 (cmpI a b))∧w'=w:=by
 by_cases h1:a<b
 ·go_enter Tryz.func62,Tryz.ntmps62
  go_wp2
  go_ret
  exact⟨by simp [cmpI,h1],rfl⟩
 ·by_cases h2:b<a
  ·go_enter Tryz.func62,Tryz.ntmps62
   go_wp2
   go_ret
   exact⟨zai (by unfold cmpI;rw [if_neg (by omega),if_pos (by omega)]),rfl⟩
  ·go_enter Tryz.func62,Tryz.ntmps62
   go_wp2
   go_ret
   exact⟨zai (by unfold cmpI;rw [if_neg (by omega),if_neg (by omega)]),rfl⟩
theorem cmp_str (a b:ByteArray) (w:World):Calls Tryz.prog 63 #[.string a,.string b] w fun e w'=>e=.returned (.int .i64 (cmpS a b))∧w'=w:=by
 cases h1:Op.bytesLess a.toList b.toList
 ·cases h2:a.toList==b.toList
  ·go_enter Tryz.func63,Tryz.ntmps63
   go_wp2
   go_ret
   exact⟨zai (by simp [cmpS,h1,h2]),rfl⟩
  ·go_enter Tryz.func63,Tryz.ntmps63
   go_wp2
   go_ret
   exact⟨zai (by simp [cmpS,h1,h2]),rfl⟩
 ·go_enter Tryz.func63,Tryz.ntmps63
  go_wp2
  go_ret
  exact⟨zai (by simp [cmpS,h1]),rfl⟩
theorem compareFunc_any (d:Nat) (f:VT→VT→Int) (l m:List VT) (u v:Value) (w:World) (hu:Lies (d+1) w l u) (hv:Lies (d+1) w m v)
 (hf:Hid (∀(t s:VT) (x y:Value) (W:World),t∈l→s∈m→Lies d W t.items x→Lies d W s.items y→
  Calls Tryz.prog 38 #[.agg #[.int .i64 t.kind,.int .i64 t.num,.string t.text,x],.agg #[.int .i64 s.kind,.int .i64 s.num,.string s.text,y]] W fun e W'=>e=.returned (.int .i64 (f t s))∧Grew W W')) :
 Calls Tryz.prog 64 #[u,v,.func (.func 38) #[] #[]] w fun e w'=>e=.returned (.int .i64 (cmpL f l m))∧Grew w w':=by
 have Hu:=hu;have Hv:=hv
 obtain⟨a1,c1,rfl,hb1,hr1⟩:=hu
 obtain⟨a2,c2,rfl,hb2,hr2⟩:=hv
 have Hr1:Hid _:=hr1;have Hr2:Hid _:=hr2
 clear hr1 hr2 Hu Hv
 go_enter Tryz.func64,Tryz.ntmps64
 go_wp2_with fail
 go_loopg [13] l.length (fun k i wr=>∃j:Nat,i=.int .i64 j∧j≤l.length∧j≤m.length∧k=l.length-j∧Hid (cmpL f l m=cmpL f (l.drop j) (m.drop j))∧Grew w wr)
 case atStart=>exact⟨0,rfl,by omega,by omega,by omega,rfl,Grew.refl _⟩
 case round=>
  obtain⟨j,rfl,hj1,hj2,hk,Hc,hbw⟩:=hrel
  have Hk:Hid _:=hk
  clear hk
  by_cases hlt:j<l.length
  ·by_cases hlt2:j<m.length
   ·obtain⟨b1,o1,rfl,hall1⟩:=Hr1.out (by intro e;simp [e] at hlt)
    obtain⟨b2,o2,rfl,hall2⟩:=Hr2.out (by intro e;simp [e] at hlt2)
    obtain⟨x,p0,p1,p2,p3,p4,_⟩:=hall1 j hlt
    obtain⟨y,q0,q1,q2,q3,q4,_⟩:=hall2 j hlt2
    clear hall1 hall2
    obtain⟨ax,cx,rfl,_⟩:=Lies.slice p4
    obtain⟨ay,cy,rfl,_⟩:=Lies.slice q4
    have p0:=zaa hbw.below p0;have p1:=zaa hbw.below p1;have p2:=zaa hbw.below p2;have p3:=zaa hbw.below p3
    have q0:=zaa hbw.below q0;have q1:=zaa hbw.below q1;have q2:=zaa hbw.below q2;have q3:=zaa hbw.below q3
    have p4:Hid (Lies d w l[j].items (.slice ax l[j].items.length cx)):=p4
    have q4:Hid (Lies d w m[j].items (.slice ay m[j].items.length cy)):=q4
    have hl1:b1<wr.heap.size:=zae p0
    have hl2:b2<wr.heap.size:=zae q0
    go_wp2_with fail
    have hfc:=hf.out l[j] m[j] (.slice ax l[j].items.length cx) (.slice ay m[j].items.length cy)
    refine (hfc _ (List.getElem_mem hlt) (List.getElem_mem hlt2) ?_ ?_).mono ?_
    ·exact Lies.keeps ((hbw.alloc _).alloc _).below _ _ _ p4.out
    ·exact Lies.keeps ((hbw.alloc _).alloc _).below _ _ _ q4.out
    ·rintro e w1 ⟨rfl,hb1w⟩
     have hb2w:Grew w w1:=((hbw.alloc _).alloc _).trans hb1w
     clear hb1w hfc p4 q4 hf p0 p1 p2 p3 q0 q1 q2 q3
     have Hs:Hid _:=cmpL_step f l m j hlt hlt2
     by_cases hz:f l[j] m[j]=0
     ·have hzb:(f l[j] m[j] != 0)=false:=by simp [hz]
      have Hz:Hid (f l[j] m[j]=0):=hz
      clear hz
      go_wp2_with fail
      go_roundg (l.length-(j+1))
      case measure=>have:=Hk.out;omega
      case rel=>
       refine⟨j+1,by go_num,by omega,by omega,rfl,?_,hb2w⟩
       show cmpL f l m=_
       rw [Hc.out,Hs.out,if_pos Hz.out]
     ·have hzb:(f l[j] m[j] != 0)=true:=by simp [hz]
      have Hz:Hid (¬f l[j] m[j]=0):=hz
      clear hz
      go_wp2_with fail
      go_ret
      exact⟨zai (by rw [Hc.out,Hs.out,if_neg Hz.out]),hb2w⟩
   ·obtain⟨b1,o1,rfl,hall1⟩:=Hr1.out (by intro e;simp [e] at hlt)
    obtain⟨x,p0,p1,p2,p3,p4,_⟩:=hall1 j hlt
    clear hall1
    obtain⟨ax,cx,rfl,_⟩:=Lies.slice p4
    have p0:=zaa hbw.below p0;have p1:=zaa hbw.below p1;have p2:=zaa hbw.below p2;have p3:=zaa hbw.below p3
    clear p4
    have hl1:b1<wr.heap.size:=zae p0
    have Hs:Hid _:=cmpL_end f l m j (by omega)
    go_wp2_with fail
    go_ret
    exact⟨zai (by rw [Hc.out,Hs.out,if_pos hlt]),(hbw.alloc _)⟩
  ·have Hs:Hid _:=cmpL_end f l m j (by omega)
   by_cases hlt2:j<m.length
   ·have hlm:l.length<m.length:=by omega
    go_wp2_with fail
    go_ret
    exact⟨zai (by rw [Hc.out,Hs.out,if_neg (by omega),if_pos (by omega)]),hbw⟩
   ·have hlm : ¬l.length<m.length:=by omega
    go_wp2_with fail
    go_ret
    exact⟨zai (by rw [Hc.out,Hs.out,if_neg (by omega),if_neg (by omega)]),hbw⟩
def cmpK (k1 n1 k2 n2 r:Int) (s1 s2:ByteArray):Int:=if k1≠k2 then cmpI k1 k2 else if k1=1∨k1=2 then cmpI n1 n2 else if k1=3 then cmpS s1 s2 else if k1=4∨k1=5∨k1=6 then r else 0
theorem compare_core (k1 n1 k2 n2 r:Int) (s1 s2:ByteArray) (ax ay:Option Addr) (lx cx ly cy:Nat) (w:World)
 (hcf:Hid (∀W,Grew w W→Calls Tryz.prog 64 #[.slice ax lx cx,.slice ay ly cy,.func (.func 38) #[] #[]] W fun e W'=>e=.returned (.int .i64 r)∧Grew W W')) :
 Calls Tryz.prog 38 #[.agg #[.int .i64 k1,.int .i64 n1,.string s1,.slice ax lx cx],.agg #[.int .i64 k2,.int .i64 n2,.string s2,.slice ay ly cy]] w fun e w'=>
  e=.returned (.int .i64 (cmpK k1 n1 k2 n2 r s1 s2))∧Grew w w':=by
 have B2:∀o1 o2:Obj,Grew w ((w.alloc o1).alloc o2):=Grew.two w
 have HB2:Hid _:=B2
 clear B2
 by_cases hk:k1=k2
 ·subst hk
  have hkb:(k1 != k1)=false:=by simp
  by_cases h1:k1=1
  ·subst h1
   go_enter Tryz.func38,Tryz.ntmps38
   go_wp2_with (go_at_call 62;refine (cmp_int64 _ _ _).mono ?_;rintro e w' ⟨rfl,rfl⟩)
   go_ret
   exact⟨zai (by simp [cmpK]),HB2.out _ _⟩
  by_cases h2:k1=2
  ·subst h2
   go_enter Tryz.func38,Tryz.ntmps38
   go_wp2_with (go_at_call 62;refine (cmp_int64 _ _ _).mono ?_;rintro e w' ⟨rfl,rfl⟩)
   go_ret
   exact⟨zai (by simp [cmpK]),HB2.out _ _⟩
  by_cases h3:k1=3
  ·subst h3
   go_enter Tryz.func38,Tryz.ntmps38
   go_wp2_with (go_at_call 63;refine (cmp_str _ _ _).mono ?_;rintro e w' ⟨rfl,rfl⟩)
   go_ret
   exact⟨zai (by simp [cmpK]),HB2.out _ _⟩
  by_cases h4:k1=4
  ·subst h4
   go_enter Tryz.func38,Tryz.ntmps38
   go_wp2_with fail
   refine (hcf.out _ (HB2.out _ _)).mono ?_
   rintro e w1 ⟨rfl,hb⟩
   go_wp2_with fail
   go_ret
   exact⟨zai (by simp [cmpK]),(HB2.out _ _).trans hb⟩
  by_cases h5:k1=5
  ·subst h5
   go_enter Tryz.func38,Tryz.ntmps38
   go_wp2_with fail
   refine (hcf.out _ (HB2.out _ _)).mono ?_
   rintro e w1 ⟨rfl,hb⟩
   go_wp2_with fail
   go_ret
   exact⟨zai (by simp [cmpK]),(HB2.out _ _).trans hb⟩
  by_cases h6:k1=6
  ·subst h6
   go_enter Tryz.func38,Tryz.ntmps38
   go_wp2_with fail
   refine (hcf.out _ (HB2.out _ _)).mono ?_
   rintro e w1 ⟨rfl,hb⟩
   go_wp2_with fail
   go_ret
   exact⟨zai (by simp [cmpK]),(HB2.out _ _).trans hb⟩
  ·have b1:(k1==1)=false:=by simp [h1]
   have b2:(k1==2)=false:=by simp [h2]
   have b3:(k1==3)=false:=by simp [h3]
   have b4:(k1==4)=false:=by simp [h4]
   have b5:(k1==5)=false:=by simp [h5]
   have b6:(k1==6)=false:=by simp [h6]
   have hfin:Hid ((cmpK k1 n1 k1 n2 r s1 s2)=0):=by
    show _=_
    simp [cmpK,h1,h2,h3,h4,h5,h6]
   clear h1 h2 h3 h4 h5 h6
   go_enter Tryz.func38,Tryz.ntmps38
   go_wp2_with fail
   go_ret
   exact⟨zai hfin.out.symm,HB2.out _ _⟩
 ·have hkb:(k1 != k2)=true:=by simp [hk]
  have hfin:Hid ((cmpK k1 n1 k2 n2 r s1 s2)=cmpI k1 k2):=by
   show _=_
   simp [cmpK,hk]
  clear hk
  go_enter Tryz.func38,Tryz.ntmps38
  go_wp2_with (go_at_call 39;refine (cmp_int _ _ _).mono ?_;rintro e w' ⟨rfl,rfl⟩)
  go_ret
  exact⟨zai hfin.out.symm,HB2.out _ _⟩
theorem zao:∀(d:Nat) (t s:VT) (x y:Value) (w:World),Lies d w t.items x→Lies d w s.items y→
 Calls Tryz.prog 38 #[.agg #[.int .i64 t.kind,.int .i64 t.num,.string t.text,x],.agg #[.int .i64 s.kind,.int .i64 s.num,.string s.text,y]] w fun e w'=>e=.returned (.int .i64 (cmpV d t s))∧Grew w w':=by
 intro d
 induction d with
 | zero=>
  intro t s x y w hx hy
  obtain⟨ax,cx,rfl,_⟩:=Lies.slice hx
  obtain⟨ay,cy,rfl,_⟩:=Lies.slice hy
  have e1:t.items=[]:=hx.1
  refine compare_core _ _ _ _ (cmpL (fun _ _=>0) t.items s.items) _ _ _ _ _ _ _ _ w (fun W hW=>?_)
  exact compareFunc_any 0 (fun _ _=>0) t.items s.items _ _ W (Lies.deeper _ _ _ (Lies.keeps hW.below _ _ _ hx)) (Lies.deeper _ _ _ (Lies.keeps hW.below _ _ _ hy)) (fun t' _ _ _ _ ht=>by rw [e1] at ht;cases ht)
 | succ d ih=>
  intro t s x y w hx hy
  obtain⟨ax,cx,rfl,_⟩:=Lies.slice hx
  obtain⟨ay,cy,rfl,_⟩:=Lies.slice hy
  refine compare_core _ _ _ _ (cmpL (cmpV d) t.items s.items) _ _ _ _ _ _ _ _ w (fun W hW=>?_)
  exact compareFunc_any d (cmpV d) t.items s.items _ _ W (Lies.keeps hW.below _ _ _ hx) (Lies.keeps hW.below _ _ _ hy) (fun t' s' x' y' W' _ _=>ih t' s' x' y' W')
set_option maxRecDepth 100000 in
theorem info24:∃i0,Tryz.prog.info? 27=some i0∧i0.zero=some (.agg #[.int .i64 0,.int .i64 0,.string ⟨#[]⟩,.slice none 0 0])∧i0.size=4∧i0.bytes=56:=by
 refine⟨_,rfl,?_,?_,?_⟩
 all_goals kernel_rfl
theorem own_keeps {w w':World} {base:Nat} {e:TypeId} {size:Nat} {v:Value} {n:Nat} {xs:List Value} (h:w.ownsRow base e size v n xs) (hb:Below w.heap.size w w'):w'.ownsRow base e size v n xs:=by
 refine⟨h.1,?_⟩
 rcases h.2 with hn|⟨g,cap,cur,hv,hbs,hg,rest⟩
 ·exact .inl hn
 ·refine .inr ⟨g,cap,cur,hv,hbs,?_,rest⟩
  have hlt:g<w.heap.size:=by
   by_cases hl:g<w.heap.size
   ·exact hl
   ·rw [Array.getElem?_eq_none (by omega)] at hg;cases hg
  rw [hb.block g hlt];exact hg
theorem int_any (n:Int) (w:World):Calls Tryz.prog 24 #[.int .i64 n] w fun e w'=>e=.returned (.agg #[.int .i64 2,.int .i64 n,.string ⟨#[]⟩,.slice none 0 0])∧Grew w w':=by
 go_enter Tryz.func24,Tryz.ntmps24
 go_wp2_with fail
 exact bodyPost_ret (v:=.agg #[.int .i64 2,.int .i64 n,.string ⟨#[]⟩,.slice none 0 0]) (by simp [results,Tryz.results24,go_sem]) rfl ⟨rfl,(Grew.refl _).alloc _⟩
def cellsInt (z:Int):List Value:=[.int .i64 2,.int .i64 z,.string ⟨#[]⟩,.slice none 0 0]
theorem ints_any (b:Nat) (zs:List Int) (cap:Nat) (w:World) (hz:zs.length≤1000) (hc:∀(i:Nat) (h:i<zs.length),w.cell? ⟨b,0+i,none⟩=some (.int .i64 (zs[i]'h))) :
 Calls Tryz.prog 25 #[.slice (some ⟨b,0,none⟩) zs.length cap] w fun e w'=>∃v,e=.returned v∧w'.ownsRow w.heap.size 27 4 v zs.length (zs.flatMap cellsInt)∧Below w.heap.size w w':=by
 obtain⟨i0,hi,hz0,hz1,hz2⟩:=info24
 have HC:Hid _:=hc
 have Hi:Hid _:=hi;have Hz0:Hid _:=hz0;have Hz1:Hid _:=hz1;have Hz2:Hid _:=hz2
 clear hi hz0 hz1 hz2
 clear hc
 go_enter Tryz.func25,Tryz.ntmps25
 go_wp2_with fail
 go_loopg [3,8] zs.length (fun k v i wr=>∃j:Nat,i=.int .i64 j∧j≤zs.length∧k=zs.length-j∧wr.ownsRow w.heap.size 27 4 v j ((zs.take j).flatMap cellsInt)∧Below w.heap.size w wr)
 case atStart=>exact⟨0,rfl,by omega,by omega,World.ownsRow_nil _ _ _ _,Below.refl _ _⟩
 case round=>
  obtain⟨j,rfl,hj,hk,hown,hbw⟩:=hrel
  have Hown:Hid _:=hown
  clear hown
  have Hk:Hid _:=hk
  clear hk
  by_cases hlt:j<zs.length
  ·have hcj:=zaa hbw (HC.out j hlt)
   generalize hzj:zs[j]=zj at hcj
   have Hzj:Hid _:=hzj
   clear hzj
   rw [Nat.zero_add] at hcj
   go_wp2_with fail
   refine (int_any zj _).mono ?_
   rintro e w1 ⟨rfl,hg⟩
   have hb1:Below w.heap.size w w1:=hbw.trans (hg.below.mono hbw.size)
   have hown:=own_keeps Hown.out hg.below
   clear Hown
   have Hown:Hid _:=hown
   clear hown hg
   go_wp2_with (first
    | (at_builtin;refine wpList_append_own _ rfl _ _ 22 rfl w.heap.size 27 i0 (.agg #[.int .i64 0,.int .i64 0,.string ⟨#[]⟩,.slice none 0 0]) 4 56 Tryz.underlying22 Hi.out Hz0.out Hz1.out Hz2.out rfl (by decide) _ _ _ rfl (own_keeps Hown.out ((Below.refl _ _).alloc (Nat.le_refl _) _)) ⟨w1.heap.size,0,none⟩ 1 1 (cellsInt zj) rfl rfl ?c1 ?c2 ?c3 ?c4 ?c5 ?_))
   case c1=>
    intro q u hq
    match q,hq with
    | 0,hq=>simp [cellsInt] at hq;subst hq;simp [Addr.add]
    | 1,hq=>simp [cellsInt] at hq;subst hq;simp [Addr.add]
    | 2,hq=>simp [cellsInt] at hq;subst hq;simp [Addr.add]
    | 3,hq=>simp [cellsInt] at hq;subst hq;simp [Addr.add]
   case c2=>intro u hu;simp [cellsInt] at hu;rcases hu with rfl|rfl|rfl|rfl <;> rfl
   case c3=>unfold maxLen;omega
   case c4=>omega
   case c5=>have:=hb1.size;simp;omega
   intro v' w2 hown' hgrow _
   have hb2:Below w.heap.size w w2:=(hb1.alloc hb1.size _).grown hgrow (by have:=hb1.size;simp;omega) (by
    intro k hk
    rcases Hown.out.2 with ⟨hv,_⟩|⟨g,cap',cur,hv,hbs,_⟩
    ·rw [hv] at hk;cases hk
    ·rw [hv] at hk;simp [Value.ownBlock] at hk;omega)
   clear Hown hgrow
   have Hown:Hid _:=hown'
   clear hown'
   go_wp2_with fail
   go_roundg (zs.length-(j+1))
   case measure=>have:=Hk.out;omega
   case rel=>
    refine⟨j+1,by go_num,by omega,rfl,?_,hb2⟩
    rw [List.take_succ_eq_append_getElem hlt,List.flatMap_append,Hzj.out,List.flatMap_cons,List.flatMap_nil,List.append_nil]
    exact Hown.out
  ·have hjz:j=zs.length:=by omega
   have Hj:Hid _:=hjz
   clear hjz
   go_wp2_with fail
   go_ret
   refine⟨_,rfl,?_,hbw⟩
   have h2:=Hown.out
   rw [Hj.out,List.take_length] at h2
   exact h2
def preB (s:ByteArray):Bool:=decide (3≤s.size)&&((s.extract 0 3).toList==[239,191,189])
theorem hasPrefix_any (s:ByteArray) (w:World) (hs:s.size≤9223372036854775807):Calls Tryz.prog 104 #[.string s,.string { data:=#[239,191,189] }] w fun e w'=>e=.returned (.bool (preB s))∧w'=w:=by
 by_cases h:3≤s.size
 ·go_enter Tryz.func104,Tryz.ntmps104
  go_wp2
  go_ret
  exact⟨by simp [preB,h],rfl⟩
 ·go_enter Tryz.func104,Tryz.ntmps104
  go_wp2
  go_ret
  exact⟨by simp [preB];omega,rfl⟩
def utfF (s:ByteArray):Nat→Nat→Bool
 | 0,_=>true
 | b+1,pos=>if pos<s.size then (if (((Utf8.decode s pos).1:Int)==65533)=true∧preB (s.extract pos s.size)=false then false else utfF s b (pos+(Utf8.decode s pos).2)) else true
def utfB (s:ByteArray):Bool:=utfF s s.size 0
theorem width_pos (s:ByteArray) (pos:Nat) (h:pos<s.size):1≤(Utf8.decode s pos).2:=by
 by_cases ha:(s[pos]'h).toNat<128
 ·rw [decode_ascii s pos h ha]
  exact Nat.le_refl _
 ·exact (decode_high s pos h (by omega)).2
theorem utfF_end (s:ByteArray) (b pos:Nat) (h : ¬pos<s.size):utfF s b pos=true:=by
 cases b with
 | zero=>rfl
 | succ b=>simp [utfF,h]
theorem isUTF8_any (s:ByteArray) (w:World) (hs:s.size≤9223372036854775807):Calls Tryz.prog 82 #[.string s] w fun e w'=>e=.returned (.bool (utfB s))∧Grew w w':=by
 go_enter Tryz.func82,Tryz.ntmps82
 go_wp2_with fail
 go_loopg [] s.size (fun k w'=>∃(pos b:Nat),w'=w.iter s pos∧k=s.size-pos∧Hid (utfF s b pos=utfB s)∧s.size≤pos+b)
 case atStart=>exact⟨0,s.size,rfl,rfl,rfl,by omega⟩
 case round=>
  obtain⟨pos,b,rfl,hk,Hc,hb⟩:=hrel
  have Hk:Hid _:=hk
  clear hk
  by_cases hp:pos<s.size
  ·have hnx:∀ty,(Instr.next (.pointer (some ⟨w.heap.size,0,none⟩)) true ty).run Tryz.prog (w.iter s pos)=_:=fun ty=>run_next_any w s pos ty hp
   have hwd:=width_pos s pos hp
   obtain⟨b,rfl⟩:∃c,b=c+1:=⟨b-1,by omega⟩
   have He:Hid (utfF s (b+1) pos=if (((Utf8.decode s pos).1:Int)==65533)=true∧preB (s.extract pos s.size)=false then false else utfF s b (pos+(Utf8.decode s pos).2)):=by
    show _=_
    simp only [utfF,hp,if_true]
   cases hr:(((Utf8.decode s pos).1:Int)==65533)
   ·go_wp2_with fail
    go_roundg (s.size-(pos+(Utf8.decode s pos).2))
    case measure=>have:=Hk.out;omega
    case rel=>
     refine⟨pos+(Utf8.decode s pos).2,b,rfl,rfl,?_,by omega⟩
     show _=_
     rw [←Hc.out,He.out,if_neg (by simp [hr])]
   ·have hsz2:(s.extract pos s.size).size≤9223372036854775807:=by simp;omega
    cases hq:preB (s.extract pos s.size)
    ·go_wp2_with fail
     refine (hasPrefix_any _ _ hsz2).mono ?_
     rintro e w' ⟨rfl,rfl⟩
     go_wp2_with fail
     go_ret
     exact⟨by rw [←Hc.out,He.out,if_pos ⟨hr,hq⟩];rfl,(Grew.refl _).alloc _⟩
    ·go_wp2_with fail
     refine (hasPrefix_any _ _ hsz2).mono ?_
     rintro e w' ⟨rfl,rfl⟩
     go_wp2_with fail
     go_roundg (s.size-(pos+(Utf8.decode s pos).2))
     case measure=>have:=Hk.out;omega
     case rel=>
      refine⟨pos+(Utf8.decode s pos).2,b,rfl,rfl,?_,by omega⟩
      show _=_
      rw [←Hc.out,He.out,if_neg (by simp [hq])]
  ·have hnx:∀ty,(Instr.next (.pointer (some ⟨w.heap.size,0,none⟩)) true ty).run Tryz.prog (w.iter s pos)=_:=fun ty=>run_next_end w s pos ty hp
   go_wp2_with fail
   go_ret
   exact⟨by rw [←Hc.out,utfF_end s b pos hp];rfl,(Grew.refl _).alloc _⟩
end Go.Proofs.YtcflooaoocngdaaGreat
