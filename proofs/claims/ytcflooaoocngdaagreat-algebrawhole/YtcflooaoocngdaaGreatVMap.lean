import Derived.Test.YtcflooaoocngdaaGreatSortV
import Derived.Shelf.SlSortCmp.NoneTotal
import Derived.Test.YtcflooaoocngdaaGreatMapV
namespace Go.Proofs.YtcflooaoocngdaaGreat
open Go.RowKit
def Tells (d:Nat) (a:VT×Int) (w:World) (e:Ending) (w':World):Prop:=
 ∃v,e=.returned (.tuple #[.agg #[.int .i64 a.1.kind,.int .i64 a.1.num,.string a.1.text,v],.int .i64 a.2])∧Lies d w' a.1.items v∧Below w.heap.size w w'
theorem tells_zero (d:Nat) (n:Int) {w w':World} (h:Below w.heap.size w w'):Tells d (zeroT,n) w (.returned (.tuple #[zeroAgg,.int .i64 n])) w':=
 ⟨.slice none 0 0,rfl,lies_nil d w',h⟩
theorem mapI_of (d:Nat) (qs:List PP):(kvQ (kyd (cmpQ d) (qs.length+1) qs)).map (·.1)=mapI d (qs.map trT):=by
 rw [kvQ_map]
 unfold mapI
 rw [List.length_map,kyd_map trT (cmpQ d) (cmpTP d) (fun _ _=>rfl)]
def MapPost (d:Nat) (ts:List TP) (w:World) (e:Ending) (w':World):Prop:=
 ∃v,e=.returned (.tuple #[.agg #[.int .i64 (mapA d ts).1.kind,.int .i64 (mapA d ts).1.num,.string (mapA d ts).1.text,v],.int .i64 (mapA d ts).2])∧LiesB w.heap.size (d+1) w' (mapA d ts).1.items v∧Below w.heap.size w w'
theorem liesB_nil (base d:Nat) (w:World):LiesB base (d+1) w [] (.slice none 0 0):=⟨none,0,rfl,by simp,fun h=>absurd rfl h⟩
set_option maxRecDepth 100000 in
set_option maxHeartbeats 4000000 in
theorem vmap_any (d:Nat) (qs:List PP) (u:Value) (w:World) (hu:SlQ 0 d w qs u):Calls Tryz.prog 20 #[u] w (MapPost d (qs.map trT) w):=by
 have HSl:Hid (SlQ 0 d w qs u):=hu
 have HK:Hid (Blank (w.alloc (.cells #[.int .i64 0,.int .i64 0,.string ⟨#[]⟩,.slice none 0 0] 27)) w.heap.size):=blank_alloc w
 have hbz:Below w.heap.size w (w.alloc (.cells #[.int .i64 0,.int .i64 0,.string ⟨#[]⟩,.slice none 0 0] 27)):=((Grew.refl w).alloc _).below
 have HCk:Hid (∀W,Below w.heap.size w W→Calls Tryz.prog 41 #[u,.func (.func 10) #[] #[]] W fun e w'=>e=.returned (.int .i64 (pErr d (qs.map trT)))∧Below W.heap.size W w'):=fun W h=>checkPairs_any d qs u W (HSl.out.keeps h)
 have HLk:Hid (∀W,Below w.heap.size w W→qs.length≤65536→Calls Tryz.prog 42 #[u] W fun e w'=>∃v,e=.returned v∧Lies (d+1) w' (mapI d (qs.map trT)) v∧Below W.heap.size W w'):=fun W h hl=>(lastKey_any d qs u W (HSl.out.keeps h) hl).mono fun e w' ⟨v,h1,h2,h3⟩=>⟨v,h1,by rw [←mapI_of];exact h2.lies,h3⟩
 have Hql:Hid ((qs.map trT).length=qs.length):=List.length_map ..
 obtain⟨a,c,rfl,_⟩:=hu.slice
 clear hu
 have Hsz:Hid (pErr d (qs.map trT)=0→∀x∈mapI d (qs.map trT),zab d x=true):=fun h x hx=>by
  obtain⟨p,hp,hh⟩:=kvT_mem hx
  have:=(pErr_zero h).2 p (kyd_mem _ _ _ p hp)
  rcases hh with rfl|rfl
  ·exact this.1
  ·exact this.2
 generalize qs.map trT=ts at *
 generalize hL:qs.length=L at *
 clear hL HSl
 by_cases herr:pErr d ts=0
 ·have Herr:Hid (pErr d ts=0):=herr
  have Hgood:Hid (∀x∈mapI d ts,zab d x=true):=Hsz.out herr
  have Hlen:Hid (L≤65536):=by show _≤_;rw [←Hql.out];exact (pErr_zero herr).1
  have Htx:Hid (Txt (fun s=>s.size≤281474976710656) (d+1) ⟨6,0,⟨#[]⟩,mapI d ts⟩):=⟨(by show 0≤281474976710656;omega),fun x hx=>right_txt d x (right_rp (Hgood.out x hx))⟩
  have Ha1:Hid ((fw (d+1) ⟨6,0,⟨#[]⟩,mapI d ts⟩ 16 1024).1=false→mapA d ts=(zeroT,2)):=fun h=>by unfold mapA;rw [if_neg (fun q=>q herr),if_neg (by rw [h];simp)]
  have Ha2:Hid ((fw (d+1) ⟨6,0,⟨#[]⟩,mapI d ts⟩ 16 1024).1=true→mapA d ts=(⟨6,0,⟨#[]⟩,mapI d ts⟩,0)):=fun h=>by unfold mapA;rw [if_neg (fun q=>q herr),if_pos h]
  clear herr Hsz Hql
  go_enter Tryz.func20,Tryz.ntmps20
  go_wp2_with fail
  refine (HCk.out _ hbz).mono ?_
  rintro e w1 ⟨rfl,hb⟩
  rw [Herr.out]
  have hb1:Below w.heap.size w w1:=hbz.trans (hb.mono (by simp))
  have HK1:Hid (Blank w1 w.heap.size):=HK.out.keeps hb
  have hsz1:w.heap.size<w1.heap.size:=by have:=hb.size;simp at this;omega
  clear hb HK hbz
  go_wp2_with fail
  refine (HLk.out _ hb1 Hlen.out).mono ?_
  rintro e w2 ⟨v2,rfl,hL2,hb2⟩
  have HL2:Hid (Lies (d+1) w2 (mapI d ts) v2):=hL2
  have hbw2:Below w.heap.size w w2:=hb1.trans (hb2.mono hb1.size)
  have HK2:Hid (Blank w2 w.heap.size):=HK1.out.keeps hb2
  have hsz2:w.heap.size<w2.heap.size:=by have:=hb2.size;omega
  obtain⟨a2,c2,rfl,_⟩:=Lies.slice hL2
  clear hb2 HK1 hL2 HCk HLk
  generalize mapI d ts=l at *
  go_wp2_with fail
  refine (made_any (d+1) 6 l (.slice a2 l.length c2) _ HL2.out Htx.out).mono ?_
  intro e w4 hm
  obtain⟨hb4,hm⟩:=madeLies hm
  have hbw4:Below w.heap.size w w4:=hbw2.trans (hb4.mono hbw2.size)
  have HK4:Hid (Blank w4 w.heap.size):=HK2.out.keeps hb4
  clear HK2 Htx hb4
  obtain⟨y0,y1,y2,y3,z0,z1,z2,z3⟩:=HK4.out
  rcases hm with ⟨hf,rfl⟩|⟨hf,v,rfl,hLB⟩
  ·have Hf:Hid (mapA d ts=(zeroT,2)):=Ha1.out hf
   have Hbx:Hid _:=HK4.out.put (⟨0,0,⟨#[]⟩,[]⟩,.slice none 0 0)
   have Hbl:Hid _:=zag hbw4 (Nat.le_refl _) (⟨0,0,⟨#[]⟩,[]⟩,.slice none 0 0)
   clear hf
   unfold zeroAgg
   go_wp2_with fail
   refine bodyPost_ret (v:=.tuple #[.agg #[.int .i64 0,.int .i64 0,.string ⟨#[]⟩,.slice none 0 0],.int .i64 2]) ?_ rfl ?_
   ·obtain⟨q0,q1,q2,q3⟩:=Hbx.out
    simp only [encP,World.setCells,Nat.zero_add,Nat.reduceAdd] at q0 q1 q2 q3
    simp [results,Tryz.results20,go_sem,q0,q1,q2,q3]
   ·unfold MapPost
    rw [Hf.out]
    exact⟨_,rfl,liesB_nil _ _ _,Hbl.out⟩
  ·have Hf:Hid (mapA d ts=(⟨6,0,⟨#[]⟩,l⟩,0)):=Ha2.out hf
   have HLB:Hid (LiesB (w.heap.size+1) (d+1) w4 l v):=LiesB.lower (by omega) _ _ _ hLB
   clear hf hLB
   obtain⟨av,cv,rfl,_⟩:=LiesB.slice HLB.out
   have Hbx:Hid _:=HK4.out.put (⟨6,0,⟨#[]⟩,l⟩,.slice av l.length cv)
   have Hbl:Hid _:=zag hbw4 (Nat.le_refl _) (⟨6,0,⟨#[]⟩,l⟩,.slice av l.length cv)
   have Hfin:Hid (LiesB w.heap.size (d+1) (w4.setCells w.heap.size 0 (encP (⟨6,0,⟨#[]⟩,l⟩,.slice av l.length cv))) l (.slice av l.length cv)):=
    LiesB.lower (by omega) _ _ _ (LiesB.stays (base:=w.heap.size+1) (fun x v hx hv=>⟨by rw [World.cell?_setCells_out w.heap.size _ 0 w4 x (fun e _=>by omega)];exact hv,World.frozen?_setCells ..⟩) _ _ _ HLB.out)
   go_wp2_with fail
   refine bodyPost_ret (v:=.tuple #[.agg #[.int .i64 6,.int .i64 0,.string ⟨#[]⟩,.slice av l.length cv],.int .i64 0]) ?_ rfl ?_
   ·obtain⟨q0,q1,q2,q3⟩:=Hbx.out
    simp only [encP,World.setCells,Nat.zero_add,Nat.reduceAdd] at q0 q1 q2 q3
    simp [results,Tryz.results20,go_sem,q0,q1,q2,q3]
   ·unfold MapPost
    rw [Hf.out]
    exact⟨_,rfl,Hfin.out,Hbl.out⟩
 ·have Ha:Hid (mapA d ts=(zeroT,pErr d ts)):=by show _=_;unfold mapA;rw [if_pos herr]
  have hne:(pErr d ts != 0)=true:=by simpa using herr
  clear herr Hsz Hql HLk
  go_enter Tryz.func20,Tryz.ntmps20
  go_wp2_with fail
  refine (HCk.out _ hbz).mono ?_
  rintro e w1 ⟨rfl,hb⟩
  have hb1:Below w.heap.size w w1:=hbz.trans (hb.mono (by simp))
  have HK1:Hid (Blank w1 w.heap.size):=HK.out.keeps hb
  clear hb HK hbz HCk
  obtain⟨y0,y1,y2,y3,z0,z1,z2,z3⟩:=HK1.out
  have Hbx:Hid _:=HK1.out.put (⟨0,0,⟨#[]⟩,[]⟩,.slice none 0 0)
  have Hbl:Hid _:=zag hb1 (Nat.le_refl _) (⟨0,0,⟨#[]⟩,[]⟩,.slice none 0 0)
  go_wp2_with fail
  refine bodyPost_ret (v:=.tuple #[.agg #[.int .i64 0,.int .i64 0,.string ⟨#[]⟩,.slice none 0 0],.int .i64 (pErr d ts)]) ?_ rfl ?_
  ·obtain⟨q0,q1,q2,q3⟩:=Hbx.out
   simp only [encP,World.setCells,Nat.zero_add,Nat.reduceAdd] at q0 q1 q2 q3
   simp [results,Tryz.results20,go_sem,q0,q1,q2,q3]
  ·unfold MapPost
   rw [Ha.out]
   exact⟨_,rfl,liesB_nil _ _ _,Hbl.out⟩
end Go.Proofs.YtcflooaoocngdaaGreat
