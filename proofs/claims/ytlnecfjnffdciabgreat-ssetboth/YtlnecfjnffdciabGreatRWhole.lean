import Derived.Test.YtlnecfjnffdciabGreatREach
import Derived.Deep.AppendLies
set_option maxHeartbeats 4000000
namespace Go.Proofs.YtlnecfjnffdciabGreat
open Go.RowKit
theorem ents_step (l:List Int) (j:Nat) (h:2*j+1<l.length):entL (l.take (2*(j+1)))=entL (l.take (2*j))++[ordZ [l[2*j],l[2*j+1]]]:=by
 have h1:l.take (2*(j+1))=l.take (2*j)++[l[2*j],l[2*j+1]]:=by
  rw [show 2*(j+1)=2*j+1+1 by omega,List.take_succ_eq_append_getElem h,List.take_succ_eq_append_getElem (by omega:2*j<l.length),List.append_assoc]
  rfl
 rw [h1]
 exact entL_snoc j _ _ _ (by simp;omega)
theorem entL_bound:∀(l:List Int),(entL l).length≤l.length:=by
 intro l
 match l with
 | []=>exact Nat.le_refl _
 | [a]=>simp [entL]
 | a::b::l=>
  have:=entL_bound l
  simp only [entL,List.length_cons]
  omega
set_option maxRecDepth 100000 in
theorem whole_map (d:Nat) (f:VT→Int) (t:VT) (u:Value) (w:World) (hu:Lies (d+1) w t.items u) (hlen:t.items.length≤1024) (hk:t.kind=6)
 (hf:Hid (∀(x:VT) (v:Value) (W:World),x∈t.items→Lies d W x.items v→
  Calls Tryz.prog 209 #[.agg #[.int .i64 x.kind,.int .i64 x.num,.string x.text,v]] W fun e W'=>e=.returned (.int .u32 (f x))∧Below W.heap.size W W')) :
 Calls Tryz.prog 209 #[.agg #[.int .i64 t.kind,.int .i64 t.num,.string t.text,u]] w fun e w'=>e=.returned (.int .u32 (unoZ (entL (t.items.map f))))∧Below w.heap.size w w':=by
 obtain⟨i0,hi0,hz0,hz1,hz2⟩:=infoU
 have Hi:Hid _:=hi0;have Hz0:Hid _:=hz0;have Hz1:Hid _:=hz1;have Hz2:Hid _:=hz2
 clear hi0 hz0 hz1 hz2
 obtain⟨a,c,rfl,_⟩:=Lies.slice hu
 have HL:Hid (∀o,Lies (d+1) (w.alloc o) t.items (.slice a t.items.length c)):=fun o=>Lies.keeps ((Grew.refl w).alloc o).below _ _ _ hu
 clear hu
 have Hal:Hid (∀o,Below w.heap.size w (w.alloc o)):=fun o=>(Below.refl _ _).alloc (Nat.le_refl _) o
 rw [hk]
 go_enter Tryz.func209,Tryz.ntmps209
 go_wp2_with fail
 refine (each_core d f t.items _ _ (HL.out _) hlen hf).mono ?_
 rintro e w1 ⟨v,rfl,hi,hb⟩
 have hb1:Below w.heap.size w w1:=(Hal.out _).trans (hb.mono (Hal.out _).size)
 have hll:(t.items.map f).length≤1024:=by simpa using hlen
 clear hb hf HL
 obtain⟨l,hl⟩:∃l,l=t.items.map f:=⟨_,rfl⟩
 rw [←hl] at hi hll
 have Hl:Hid (l=t.items.map f):=hl
 clear hl
 obtain⟨ae,ce,rfl,_,_,hr⟩:=hi
 have Hr:Hid _:=hr
 clear hr
 go_wp2_with fail
 go_loopg [4,5] l.length (fun g v i wr=>∃(j J:Nat),i=.int .i64 (J:Int)∧Hid (J=2*j)∧J≤l.length+1∧g=l.length-J∧Hid (wr.ownsRow w1.heap.size 85 1 v (entL (l.take J)).length ((entL (l.take J)).map (Value.int .u32)))∧(entL (l.take J)).length≤1024∧Below w1.heap.size w1 wr)
 case atStart=>exact⟨0,0,rfl,rfl,by omega,by omega,World.ownsRow_nil _ _ _ _,by simp [entL],Below.refl _ _⟩
 case round=>
  obtain⟨j,J,rfl,HJ,hJ,hk,Hown,hel,hbw⟩:=hrel
  have Hk:Hid _:=hk
  clear hk
  by_cases hlt:J+1<l.length
  ·obtain⟨be,oe,rfl,hcs⟩:=Hr.out (fun e=>by subst e;cases hlt)
   have p0:=hcs J (by omega)
   have p1:=hcs (J+1) hlt
   have hbe:be<w1.heap.size:=zad p0
   have Hst:Hid (entL (l.take (J+2))=entL (l.take J)++[ordZ [l[J],l[J+1]]]):=by
    have hj:=HJ.out
    subst hj
    exact ents_step l j hlt
   have q0:=zaa hbw p0;have q1:=zaa hbw p1
   clear p0 p1 hcs
   generalize l[J]=X at *
   generalize l[J+1]=Y at *
   generalize hys:entL (l.take J)=ys at *
   clear hys
   have ht:(J:Int)+1<(l.length:Nat):=by omega
   have hJl:J<l.length:=by omega
   obtain⟨Q,hQ⟩:∃Q:Nat,Q=J+1:=⟨_,rfl⟩
   have hQl:Q<l.length:=by omega
   have hw3:IntKind.i64.wrap ((J:Int)+1)=(Q:Int):=by rw [IntKind.wrap_i64];omega
   rw [←hQ] at q1
   have HQ:Hid (Q=J+1):=hQ
   have hsz0:w1.heap.size≤wr.heap.size:=hbw.size
   have hne : ¬(be=wr.heap.size):=by omega
   clear hQ hlt
   have HB:Hid (Below w1.heap.size w1 wr):=hbw
   have Hw3:Hid (IntKind.i64.wrap ((J:Int)+1)=(Q:Int)):=hw3
   clear hw3
   go_wp2_with fail
   have hw3:=Hw3.out
   clear ht
   go_region_held3 (fun w'=>w'.cell? ⟨be,oe+J,none⟩=some (.int .u32 X)∧w'.cell? ⟨be,oe+Q,none⟩=some (.int .u32 Y)) (go_keep)
    (first|(go_at_call 265;refine Calls.mono (rentry_any _ _ _) ?_;rintro e w2 ⟨rfl,hg⟩;have hb2:Below wr.heap.size wr w2:=(Below.refl _ _).drew.trans hg.below;clear hg;have r0:=zaa hb2 q0;have r1:=zaa hb2 q1;have Hown2:Hid (w2.ownsRow w1.heap.size 85 1 u4 ys.length (ys.map (Value.int .u32))):=own_below Hown.out hb2;clear q0 q1;have hsz2:w1.heap.size≤w2.heap.size:=Nat.le_trans hsz0 hb2.size;have hne2 : ¬(be=w2.heap.size):=by omega)
          | (refine step_append_lies _ rfl _ _ 242 rfl w1.heap.size 85 i0 (.int .u32 0) 1 4 Tryz.underlying242 Hi.out Hz0.out Hz1.out Hz2.out rfl (by decide) _ _ _ rfl (Hown2.out.alloc _) ⟨w2.heap.size,0,none⟩ 1 1 [.int .u32 (ordZ [X,Y])] rfl rfl (fun q u hq=>by match q,hq with|0,hq=>(simp at hq;subst hq;simp [Addr.add])|q+1,hq=>simp at hq) (fun u hu=>by simp at hu;subst hu;rfl) (by decide) (by unfold maxLen;omega) (by omega) (by simp;omega) _ rfl ?_;intro g cap w3 hown hgrow hat hlt3;have hob:∀k,(u4).ownBlock=some k→w1.heap.size≤k:=fun k hk=>(Hown2.out.lt k hk).1;have k0:w3.cell? ⟨be,oe+J,none⟩=some (.int .u32 X):=(World.cell?_of_block (hgrow.block be (by simp;omega) (fun e=>by have:=hob _ e.symm;omega))).trans (zaa ((Below.refl _ _).alloc (Nat.le_refl _) _) r0);have k1:w3.cell? ⟨be,oe+Q,none⟩=some (.int .u32 Y):=(World.cell?_of_block (hgrow.block be (by simp;omega) (fun e=>by have:=hob _ e.symm;omega))).trans (zaa ((Below.refl _ _).alloc (Nat.le_refl _) _) r1)))
   have hb3:Below w1.heap.size w1 w3:=(((HB.out.trans (hb2.mono HB.out.size)).alloc hsz2 _).grown hgrow (by simp;omega) hob)
   have hown2:w3.ownsRow w1.heap.size 85 1 (.slice (some ⟨g,0,none⟩) (ys.length+1) cap) (ys++[ordZ [X,Y]]).length ((ys++[ordZ [X,Y]]).map (Value.int .u32)):=by simpa using hown
   have Hown3:Hid (w3.ownsRow w1.heap.size 85 1 (.slice (some ⟨g,0,none⟩) (ys.length+1) cap) (ys++[ordZ [X,Y]]).length ((ys++[ordZ [X,Y]]).map (Value.int .u32))):=hown2
   clear hown hown2 hgrow hat hlt3 hob k0 k1 r0 r1 Hown2 Hown hb2 HB hw3 Hw3 hne hne2
   have hQ2:=HQ.out
   go_wp2_with fail
   go_roundg (l.length-(J+2))
   case measure=>have:=Hk.out;omega
   case rel=>
    refine⟨j+1,J+2,by go_num,by show _=_;have:=HJ.out;omega,by omega,rfl,?_,?_,hb3⟩
    ·rw [Hst.out];exact Hown3
    ·rw [Hst.out]
     have:=entL_bound (l.take (J+2))
     rw [Hst.out] at this
     have h2:(l.take (J+2)).length≤1024:=by rw [List.length_take];omega
     omega
  ·have hnt : ¬((J:Int)+1<(l.length:Nat)):=by omega
   have hfin:Hid (entL (l.take J)=entL l):=by
    have hj:=HJ.out
    subst hj
    by_cases e:l.length≤2*j
    ·show _=_
     rw [List.take_of_length_le e]
    ·exact entL_half j l (by omega)
   have Hi2:Hid (IntsAt .u32 wr (entL l) u4):=by
    show IntsAt _ _ _ _
    rw [←hfin.out]
    exact own_ints Hown.out
   clear Hown
   go_wp2_with fail
   refine (runordered_any _ _ _ Hi2.out).mono ?_
   rintro e w2 ⟨rfl,hdr⟩
   have hb2:Below w.heap.size w w2:=(hb1.trans (hbw.mono hb1.size)).trans (hdr.grew.below.mono (Nat.le_trans hb1.size hbw.size))
   go_wp2_with fail
   go_ret
   refine⟨?_,hb2⟩
   rw [←Hl.out]
   rfl
theorem whole_core (d:Nat) (f:VT→Int) (t:VT) (u:Value) (w:World) (hu:Lies (d+1) w t.items u) (hlen:t.items.length≤1024) (hs:t.kind=3→t.text.size≤256∧utfB t.text=true) (hbn:t.kind=1→t.num=0∨t.num=1)
 (hf:Hid (∀(x:VT) (v:Value) (W:World),x∈t.items→Lies d W x.items v→
  Calls Tryz.prog 209 #[.agg #[.int .i64 x.kind,.int .i64 x.num,.string x.text,v]] W fun e W'=>e=.returned (.int .u32 (f x))∧Below W.heap.size W W')) :
 Calls Tryz.prog 209 #[.agg #[.int .i64 t.kind,.int .i64 t.num,.string t.text,u]] w fun e w'=>e=.returned (.int .u32 (fullN f t))∧Below w.heap.size w w':=by
 have hu0:=hu
 obtain⟨a,c,rfl,_⟩:=Lies.slice hu
 have HL:Hid (∀o,Lies (d+1) (w.alloc o) t.items (.slice a t.items.length c)):=fun o=>Lies.keeps ((Grew.refl w).alloc o).below _ _ _ hu
 have Hal:Hid (∀o,Below w.heap.size w (w.alloc o)):=fun o=>(Below.refl _ _).alloc (Nat.le_refl _) o
 by_cases h6:t.kind=6
 ·have hz:fullN f t=unoZ (entL (t.items.map f)):=by unfold fullN;rw [if_neg (by omega),if_neg (by omega),if_neg (by omega),if_neg (by omega),if_neg (by omega),if_pos h6]
  rw [hz]
  exact whole_map d f t _ w hu0 hlen h6 hf
 ·clear hu hu0
  by_cases h1:t.kind=1
  ·rcases hbn h1 with hn|hn
   ·have hz:Hid (fullN f t=1237):=by show _=_;unfold fullN;rw [if_pos h1,if_pos hn]
    clear hs hf hbn
    go_enter Tryz.func209,Tryz.ntmps209
    go_wp2_with fail
    go_ret
    rw [hz.out]
    exact⟨rfl,Hal.out _⟩
   ·have hz:Hid (fullN f t=1231):=by show _=_;unfold fullN;rw [if_pos h1,if_neg (by omega)]
    clear hs hf hbn
    go_enter Tryz.func209,Tryz.ntmps209
    go_wp2_with fail
    go_ret
    rw [hz.out]
    exact⟨rfl,Hal.out _⟩
  ·by_cases h2:t.kind=2
   ·have hz:Hid (fullN f t=longZ t.num):=by show _=_;unfold fullN;rw [if_neg h1,if_pos h2]
    clear hs hf hbn
    go_enter Tryz.func209,Tryz.ntmps209
    go_wp2_with fail
    refine (rlong_any _ _).mono ?_
    rintro e w1 ⟨rfl,hd⟩
    rw [←hz.out]
    have hb:=hd.grew.below
    go_wp2_with fail
    go_ret
    exact⟨rfl,(Hal.out _).trans (hb.mono (Hal.out _).size)⟩
   ·by_cases h3:t.kind=3
    ·have hz:Hid (fullN f t=intZ (javaZ (unL t.text))):=by show _=_;unfold fullN;rw [if_neg h1,if_neg h2,if_pos h3]
     obtain⟨hs3,hu3⟩:=hs h3
     have Hu3:Hid (utfB t.text=true):=hu3
     clear hs hf hbn hu3
     go_enter Tryz.func209,Tryz.ntmps209
     go_wp2_with fail
     refine (runits_any _ _ hs3 Hu3.out).mono ?_
     rintro e w1 ⟨v,rfl,hi,hb⟩
     have hb1:Below w.heap.size w w1:=(Hal.out _).trans (hb.mono (Hal.out _).size)
     have HI:Hid (IntsAt .u16 w1 (unL t.text) v):=hi
     clear hb hi
     go_wp2_with fail
     refine (rjava_any _ _ _ HI.out).mono ?_
     rintro e w2 ⟨rfl,hd⟩
     have hb2:Below w.heap.size w w2:=hb1.trans (hd.grew.below.mono hb1.size)
     clear hd HI hb1
     go_wp2_with fail
     refine (rint_any _ _).mono ?_
     rintro e w3 ⟨rfl,hd⟩
     have hb3:Below w.heap.size w w3:=hb2.trans (hd.grew.below.mono hb2.size)
     clear hd hb2
     rw [←hz.out]
     go_wp2_with fail
     go_ret
     exact⟨rfl,hb3⟩
    ·by_cases h4:t.kind=4
     ·have hz:Hid (fullN f t=ordZ (t.items.map f)):=by show _=_;unfold fullN;rw [if_neg h1,if_neg h2,if_neg h3,if_pos h4]
      clear hs hbn
      go_enter Tryz.func209,Tryz.ntmps209
      go_wp2_with fail
      refine (each_core d f t.items _ _ (HL.out _) hlen hf).mono ?_
      rintro e w1 ⟨v,rfl,hi,hb⟩
      have hb1:Below w.heap.size w w1:=(Hal.out _).trans (hb.mono (Hal.out _).size)
      have HI:Hid (IntsAt .u32 w1 (t.items.map f) v):=hi
      clear hb hi hf
      go_wp2_with fail
      refine (rordered_any _ _ _ HI.out).mono ?_
      rintro e w2 ⟨rfl,hd⟩
      have hb2:Below w.heap.size w w2:=hb1.trans (hd.grew.below.mono hb1.size)
      clear hd HI hb1
      rw [←hz.out]
      go_wp2_with fail
      go_ret
      exact⟨rfl,hb2⟩
     ·by_cases h5:t.kind=5
      ·have hz:Hid (fullN f t=unoZ (t.items.map f)):=by show _=_;unfold fullN;rw [if_neg h1,if_neg h2,if_neg h3,if_neg h4,if_pos h5]
       clear hs hbn
       go_enter Tryz.func209,Tryz.ntmps209
       go_wp2_with fail
       refine (each_core d f t.items _ _ (HL.out _) hlen hf).mono ?_
       rintro e w1 ⟨v,rfl,hi,hb⟩
       have hb1:Below w.heap.size w w1:=(Hal.out _).trans (hb.mono (Hal.out _).size)
       have HI:Hid (IntsAt .u32 w1 (t.items.map f) v):=hi
       clear hb hi hf
       go_wp2_with fail
       refine (runordered_any _ _ _ HI.out).mono ?_
       rintro e w2 ⟨rfl,hd⟩
       have hb2:Below w.heap.size w w2:=hb1.trans (hd.grew.below.mono hb1.size)
       clear hd HI hb1
       rw [←hz.out]
       go_wp2_with fail
       go_ret
       exact⟨rfl,hb2⟩
      ·have hz:Hid (fullN f t=0):=by show _=_;unfold fullN;rw [if_neg h1,if_neg h2,if_neg h3,if_neg h4,if_neg h5,if_neg h6]
       clear hs hf hbn
       go_enter Tryz.func209,Tryz.ntmps209
       go_wp2_with fail
       go_ret
       rw [hz.out]
       exact⟨rfl,Hal.out _⟩
def Rex:Nat→VT→Prop
 | 0,t=>(t.kind=3→t.text.size≤256∧utfB t.text=true)∧(t.kind=1→t.num=0∨t.num=1)
 | d+1,t=>((t.kind=3→t.text.size≤256∧utfB t.text=true)∧(t.kind=1→t.num=0∨t.num=1))∧t.items.length≤1024∧∀x∈t.items,Rex d x
theorem whole_any:∀(d:Nat) (t:VT) (u:Value) (w:World),Lies d w t.items u→Rex d t→
 Calls Tryz.prog 209 #[.agg #[.int .i64 t.kind,.int .i64 t.num,.string t.text,u]] w fun e w'=>e=.returned (.int .u32 (fullZ d t))∧Below w.heap.size w w':=by
 intro d
 induction d with
 | zero=>
  intro t u w hu ht
  have e1:t.items=[]:=hu.1
  exact whole_core 0 (fun _=>0) t u w (Lies.deeper _ _ _ hu) (by rw [e1];simp) ht.1 ht.2 (fun x _ _ hx=>by rw [e1] at hx;cases hx)
 | succ d ih=>
  intro t u w hu ht
  exact whole_core d (fullZ d) t u w hu ht.2.1 ht.1.1 ht.1.2 (fun x v W hx hl=>ih x v W hl (ht.2.2 x hx))
theorem own_rex {d:Nat} {t:VT} (h:ownV d t=true):(t.kind=3→t.text.size≤256∧utfB t.text=true)∧(t.kind=1→t.num=0∨t.num=1):=by
 simp only [ownV,Bool.and_eq_true,decide_eq_true_eq] at h
 obtain⟨_,_,hn,ht,_⟩:=h
 refine⟨fun h3=>?_,fun h1=>?_⟩
 ·simp only [okText,h3] at ht
  simpa using ht
 ·simpa [okNum,h1] using hn
theorem rex_of:∀(d:Nat) (t:VT),Sm d t→rpV d t=true→Rex d t:=by
 intro d
 induction d with
 | zero=>intro t _ hr;exact own_rex hr
 | succ d ih=>
  intro t hs hr
  simp only [rpV,Bool.and_eq_true,List.all_eq_true] at hr
  exact⟨own_rex hr.2,hs.1,fun x hx=>ih x (hs.2 x hx) (hr.1 x hx)⟩
theorem rex_right {d:Nat} {t:VT} (h:zac d t=true):Rex d t:=by
 unfold zac at h
 rw [Bool.and_eq_true] at h
 exact rex_of d t (fw_small d t 16 1024 (by omega) (by omega) h.1) h.2
end Go.Proofs.YtlnecfjnffdciabGreat
