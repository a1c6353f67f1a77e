import Derived.Test.YtcflooaoocngdaaGreatRedP
import Derived.Test.YtcflooaoocngdaaGreatAppB
namespace Go.Proofs.YtcflooaoocngdaaGreat
open Go.RowKit
structure Rdr (O:Nat→Prop) (JJ:(Nat→Prop)→List VT→World→Prop):Prop where
 k1:∀{bar l w w'},JJ bar l w→KC O w w'→JJ bar l w'
 k2:∀{bar l w w'},JJ bar l w→Below w.heap.size w w'→JJ (fun n=>bar n∨(w.heap.size≤n∧n<w'.heap.size)) l w'
 k3:∀{bar bar':Nat→Prop} {l w},JJ bar l w→(∀n,bar' n→bar n)→JJ bar' l w
def RdPost (JJ:(Nat→Prop)→List VT→World→Prop) (bar:Nat→Prop) (r:List VT) (w:World) (e:Ending) (w':World):Prop:=
 e=.returned (.tuple #[])∧KC (fun n=>¬bar n) w w'∧JJ bar r w'
theorem two_ok (q:Nat) (hq:q<8) (t s:VT) (u v:Value) (w:World) (hu:Lies 16 w t.items u) (hv:Lies 16 w s.items v) (hr:zab 16 t=true) (hr2:zab 16 s=true) :
 Calls Tryz.prog 81 #[.int .i64 q,.agg #[.int .i64 t.kind,.int .i64 t.num,.string t.text,u],.agg #[.int .i64 s.kind,.int .i64 s.num,.string s.text,v]] w (TPost (bothT q t s) (stopQ q (bothT q t s)) 0 w):=by
 have h:=two_any 16 q t s u v w hu hv (Nat.le_trans (right_size hr) (by omega)) (Nat.le_trans (right_size hr2) (by omega))
 have e:twoE 16 q t s=0:=by
  unfold twoE
  rw [if_neg (by omega),if_pos ⟨hr,hr2⟩]
 have e1:twoT 16 q t s=bothT q t s:=by unfold twoT;rw [if_pos e];simp
 have e2:twoB 16 q t s=stopQ q (bothT q t s):=by unfold twoB;rw [if_pos e];simp
 rwa [e,e1,e2] at h
structure RdS (JJ:(Nat→Prop)→List VT→World→Prop) (bar:Nat→Prop) (q:Nat) (t:VT) (l:List VT) (w:World) (j:Nat) (tt:VT) (u:Value) (wr:World) (bar2:Nat→Prop) (cs:List VT):Prop where
 box:Bx wr w.heap.size tt u
 sub:∀n,bar n→bar2 n
 own:bar2 w.heap.size
 jj:JJ bar2 cs wr
 lies:LiesX (fun n=>bar2 n∧n≠w.heap.size) 16 wr tt.items u
 right:zab 16 tt=true
 len:cs.length=j
 eq:redS q t l=cs++redS q tt (l.drop j)
 kc:KC (fun n=>¬bar n) w wr
set_option maxRecDepth 100000 in
set_option maxHeartbeats 8000000 in
theorem reduce_any (JJ:(Nat→Prop)→List VT→World→Prop) (g:Nat) (cap:Array Value) (eg:∀args w,(callFunc g args).run Tryz.prog w=.ok (.enter g args) w) (q:Nat) (hq:q<8) (t:VT) (a:Option Addr) (c:Nat) (l:List VT) (al:Option Addr) (cl:Nat) (bar:Nat→Prop) (w:World)
 (hw:Rdr (fun n=>n=w.heap.size) JJ)
 (hg:∀(bar:Nat→Prop) l x u w',l.length<65536→bar w.heap.size→JJ bar l w'→LiesX (fun n=>bar n∧w.heap.size<n) 16 w' x.items u→zab 16 x=true→Calls Tryz.prog g (#[.agg #[.int .i64 x.kind,.int .i64 x.num,.string x.text,u]]++cap) w' fun e w''=>e=.returned (.tuple #[])∧KC (fun n=>¬bar n) w' w''∧JJ bar (l++[x]) w'')
 (h:JJ bar [] w) (ht:LiesX bar 16 w t.items (.slice a t.items.length c)) (hr:zab 16 t=true) (hl:LiesX bar 17 w l (.slice al l.length cl)) (hlr:∀x∈l,zab 16 x=true) (hll:l.length≤65536) :
 Calls Tryz.prog 46 #[.int .i64 q,.agg #[.int .i64 t.kind,.int .i64 t.num,.string t.text,.slice a t.items.length c],.slice al l.length cl,.func (.func g) #[] cap] w (RdPost JJ bar (redS q t l) w):=by
 have HW:Hid (Rdr (fun n=>n=w.heap.size) JJ):=hw
 have HG:Hid (∀(bar:Nat→Prop) l x u w',l.length<65536→bar w.heap.size→JJ bar l w'→LiesX (fun n=>bar n∧w.heap.size<n) 16 w' x.items u→zab 16 x=true→Calls Tryz.prog g (#[.agg #[.int .i64 x.kind,.int .i64 x.num,.string x.text,u]]++cap) w' fun e w''=>e=.returned (.tuple #[])∧KC (fun n=>¬bar n) w' w''∧JJ bar (l++[x]) w''):=hg
 have HL:Hid (LiesX bar 17 w l (.slice al l.length cl)∧(∀x∈l,zab 16 x=true)):=⟨hl,hlr⟩
 have Hn:Hid (l.length≤65536):=hll
 obtain⟨W,hW⟩:∃W,W=w.alloc (.cells #[.int .i64 t.kind,.int .i64 t.num,.string t.text,.slice a t.items.length c] 27):=⟨_,rfl⟩
 have HWe:Hid (W=w.alloc (.cells #[.int .i64 t.kind,.int .i64 t.num,.string t.text,.slice a t.items.length c] 27)):=hW
 have hwb:Below w.heap.size w W:=by rw [hW];exact ((Grew.refl w).alloc _).below
 have HS:Hid (RdS JJ bar q t l w 0 t (.slice a t.items.length c) W (fun n=>bar n∨(w.heap.size≤n∧n<W.heap.size)) []):=by
  have hws:W.heap.size=w.heap.size+1:=by rw [hW];simp
  refine⟨by rw [hW];exact zaj w t _,fun n hn=>.inl hn,.inr ⟨Nat.le_refl _,by omega⟩,hw.k2 h hwb,(ht.both.keeps hwb).mono (fun n hn=>⟨.inl hn.1,by omega⟩),hr,rfl,by simp,KC.of_below hwb⟩
 clear hw hg hl hlr hll hW h ht hr
 generalize t.items.length=lt at *
 obtain⟨L,hL⟩:∃L,L=l.length:=⟨_,rfl⟩
 have HLe:Hid (L=l.length):=hL
 rw [←hL] at HL Hn ⊢
 clear hL
 go_enter Tryz.func46,Tryz.ntmps46
 go_wp2_with fail
 go_step3
 go_wp2_with fail
 go_step3
 go_wp2_with fail
 rw [←HWe.out]
 go_loopg [15] L (fun z v15 wr=>∃(j:Nat) (tt:VT) (au:Option Addr) (lu cu:Nat) (bar2:Nat→Prop) (cs:List VT),v15=.int .i64 (j:Int)∧z=L-j∧j≤L∧Hid (RdS JJ bar q t l w j tt (.slice au lu cu) wr bar2 cs))
 case atStart=>exact⟨0,t,a,_,c,_,[],rfl,by omega,by omega,HS⟩
 case round=>
  obtain⟨j,tt,au,lu,cu,bar2,cs,rfl,hgk,hj,HI⟩:=hrel
  have Hg:Hid (gk=L-j):=hgk
  clear hgk HS HWe
  by_cases hlt:j<L
  ·have hji:(j:Int)<(L:Int):=by omega
   have hjl:j<l.length:=by have:=HLe.out;omega
   have hlw:=HI.out.kc.liesX (X:=bar) (fun n hn h=>h hn) HL.out.1
   obtain⟨al',cl',he,_,hrow⟩:=hlw
   injection he with e1 e2 e3
   subst e1 e3
   clear e2
   obtain⟨b1,o1,rfl,hX1,hall⟩:=hrow (by intro e;rw [e] at hjl;simp at hjl)
   obtain⟨ux,p0,p1,p2,p3,p4,_⟩:=hall j hjl
   clear hall hrow
   obtain⟨ax,cx,rfl,_⟩:=LiesX.slice p4
   have Hx:Hid (LiesX bar 16 wr l[j].items (.slice ax l[j].items.length cx)∧zab 16 l[j]=true∧l.drop j=l[j]::l.drop (j+1)):=⟨p4,HL.out.2 _ (List.getElem_mem hjl),List.drop_eq_getElem_cons hjl⟩
   clear p4
   generalize l[j]=x at *
   obtain⟨x0,x1,x2,x3,g0,g1,g2,g3⟩:=HI.out.box
   have hb8:w.heap.size<wr.heap.size:=zae x0
   have hb1:b1<wr.heap.size:=zae p0
   have hal:Below wr.heap.size wr (wr.alloc (.cells #[.int .i64 x.kind,.int .i64 x.num,.string x.text,.slice ax x.items.length cx] 27)):=((Grew.refl wr).alloc _).below
   have HT:Hid (Calls Tryz.prog 81 #[.int .i64 q,.agg #[.int .i64 tt.kind,.int .i64 tt.num,.string tt.text,.slice au lu cu],.agg #[.int .i64 x.kind,.int .i64 x.num,.string x.text,.slice ax x.items.length cx]] (wr.alloc (.cells #[.int .i64 x.kind,.int .i64 x.num,.string x.text,.slice ax x.items.length cx] 27)) (TPost (bothT q tt x) (stopQ q (bothT q tt x)) 0 (wr.alloc (.cells #[.int .i64 x.kind,.int .i64 x.num,.string x.text,.slice ax x.items.length cx] 27)))):=
    two_ok q hq tt x _ _ _ (HI.out.lies.keeps hal).lies (Hx.out.1.keeps hal).lies HI.out.right Hx.out.2.1
   have Hal:Hid (Below wr.heap.size wr (wr.alloc (.cells #[.int .i64 x.kind,.int .i64 x.num,.string x.text,.slice ax x.items.length cx] 27))):=hal
   clear hal
   go_wp2_with fail
   refine Calls.mono HT.out ?_
   rintro e w2 ⟨u,rfl,hl2,hb2⟩
   have hb2:Below (wr.alloc (.cells #[.int .i64 x.kind,.int .i64 x.num,.string x.text,.slice ax x.items.length cx] 27)).heap.size (wr.alloc (.cells #[.int .i64 x.kind,.int .i64 x.num,.string x.text,.slice ax x.items.length cx] 27)) w2:=hb2
   obtain⟨ar,cr,rfl,_⟩:=LiesX.slice hl2
   have hbr:Below wr.heap.size wr w2:=Hal.out.trans (hb2.mono Hal.out.size)
   have hrr:zab 16 (bothT q tt x)=true∧Dp 16 (bothT q tt x):=both_right q HI.out.right (Dp.of_lies 16 _ _ _ HI.out.lies.lies) Hx.out.2.1 (Dp.of_lies 16 _ _ _ Hx.out.1.lies)
   have hl2:LiesX (fun b=>wr.heap.size+1≤b) 16 w2 (bothT q tt x).items (.slice ar (bothT q tt x).items.length cr):=hl2.mono (fun b hb=>by simpa using hb)
   have HEq:Hid (redS q t l=cs++redS q tt (x::l.drop (j+1))):=by
    show _=_
    rw [←Hx.out.2.2];exact HI.out.eq
   generalize hrd:bothT q tt x=r at *
   have Hrd:Hid (bothT q tt x=r):=hrd
   clear hrd
   have hal3:Below w2.heap.size w2 (w2.alloc (.cells #[.int .i64 r.kind,.int .i64 r.num,.string r.text,.slice ar r.items.length cr] 27)):=((Grew.refl w2).alloc _).below
   have hb3:Below wr.heap.size wr (w2.alloc (.cells #[.int .i64 r.kind,.int .i64 r.num,.string r.text,.slice ar r.items.length cr] 27)):=hbr.trans (hal3.mono hbr.size)
   have hs3:(w2.alloc (.cells #[.int .i64 r.kind,.int .i64 r.num,.string r.text,.slice ar r.items.length cr] 27)).heap.size=w2.heap.size+1:=by simp
   have hs2:wr.heap.size+1≤w2.heap.size:=by have:=hb2.size;simpa using this
   have HJ3:Hid (JJ (fun n=>bar2 n∨(wr.heap.size≤n∧n<(w2.alloc (.cells #[.int .i64 r.kind,.int .i64 r.num,.string r.text,.slice ar r.items.length cr] 27)).heap.size)) cs (w2.alloc (.cells #[.int .i64 r.kind,.int .i64 r.num,.string r.text,.slice ar r.items.length cr] 27))):=HW.out.k2 HI.out.jj hb3
   have HL3:Hid (LiesX (fun n=>(fun n=>bar2 n∨(wr.heap.size≤n∧n<(w2.alloc (.cells #[.int .i64 r.kind,.int .i64 r.num,.string r.text,.slice ar r.items.length cr] 27)).heap.size)) n∧w.heap.size<n) 16 (w2.alloc (.cells #[.int .i64 r.kind,.int .i64 r.num,.string r.text,.slice ar r.items.length cr] 27)) r.items (.slice ar r.items.length cr)):=(hl2.both.keeps hal3).mono (fun n hn=>⟨.inr ⟨by omega,by omega⟩,by omega⟩)
   have Hbar:Hid ((fun n=>bar2 n∨(wr.heap.size≤n∧n<(w2.alloc (.cells #[.int .i64 r.kind,.int .i64 r.num,.string r.text,.slice ar r.items.length cr] 27)).heap.size)) w.heap.size∧(fun n=>bar2 n∨(wr.heap.size≤n∧n<(w2.alloc (.cells #[.int .i64 r.kind,.int .i64 r.num,.string r.text,.slice ar r.items.length cr] 27)).heap.size)) w2.heap.size∧∀n,bar n→(fun n=>bar2 n∨(wr.heap.size≤n∧n<(w2.alloc (.cells #[.int .i64 r.kind,.int .i64 r.num,.string r.text,.slice ar r.items.length cr] 27)).heap.size)) n):=⟨.inl HI.out.own,.inr ⟨by omega,by omega⟩,fun n hn=>.inl (HI.out.sub n hn)⟩
   have HB3:Hid (Bx (w2.alloc (.cells #[.int .i64 r.kind,.int .i64 r.num,.string r.text,.slice ar r.items.length cr] 27)) w.heap.size tt (.slice au lu cu)):=HI.out.box.keeps hb3
   have HN3:Hid (Bx (w2.alloc (.cells #[.int .i64 r.kind,.int .i64 r.num,.string r.text,.slice ar r.items.length cr] 27)) w2.heap.size r (.slice ar r.items.length cr)):=zaj w2 r _
   have HK3:Hid (KC (fun n=>¬bar n) w (w2.alloc (.cells #[.int .i64 r.kind,.int .i64 r.num,.string r.text,.slice ar r.items.length cr] 27))):=HI.out.kc.trans2 (KC.of_below (B:=fun _=>False) hb3) (fun _ _ h=>h.elim)
   have Hcs:Hid (cs.length=j):=HI.out.len
   have Hrr:Hid (zab 16 r=true):=hrr.1
   generalize hb9:(fun n=>bar2 n∨(wr.heap.size≤n∧n<(w2.alloc (.cells #[.int .i64 r.kind,.int .i64 r.num,.string r.text,.slice ar r.items.length cr] 27)).heap.size))=bar3 at *
   have HGo:Hid (Calls Tryz.prog g (#[.agg #[.int .i64 r.kind,.int .i64 r.num,.string r.text,.slice ar r.items.length cr]]++cap) (w2.alloc (.cells #[.int .i64 r.kind,.int .i64 r.num,.string r.text,.slice ar r.items.length cr] 27)) fun e w''=>e=.returned (.tuple #[])∧KC (fun n=>¬bar3 n) (w2.alloc (.cells #[.int .i64 r.kind,.int .i64 r.num,.string r.text,.slice ar r.items.length cr] 27)) w''∧JJ bar3 (cs++[r]) w''):=HG.out bar3 cs r _ _ (by have:=Hcs.out;have:=Hn.out;omega) Hbar.out.1 HJ3.out HL3.out Hrr.out
   clear hl2 hb2 hbr hrr hal3 hb3 hs3 hs2 hb9 HJ3 HT Hal HI Hx p0 p1 p2 p3 x0 x1 x2 x3 g0 g1 g2 g3 hb1 hb8 hX1
   go_wp2_with fail
   refine Calls.mono HGo.out ?_
   rintro e w4 ⟨rfl,hk4,hj4⟩
   have HB4:Hid (Bx w4 w.heap.size tt (.slice au lu cu)):=hk4.bx (fun h=>h Hbar.out.1) HB3.out
   have HN4:Hid (Bx w4 w2.heap.size r (.slice ar r.items.length cr)):=hk4.bx (fun h=>h Hbar.out.2.1) HN3.out
   have HL4:Hid (LiesX (fun n=>bar3 n∧n≠w.heap.size) 16 w4 r.items (.slice ar r.items.length cr)):=(hk4.liesX (fun n hn h=>h hn.1) HL3.out).mono (fun n hn=>⟨hn.1,by omega⟩)
   have HK4:Hid (KC (fun n=>¬bar n) w w4):=HK3.out.trans (hk4.mono (fun n _ h hb=>h (Hbar.out.2.2 n hb)))
   have HJ4:Hid (JJ bar3 (cs++[r]) w4):=hj4
   clear hk4 hj4 HB3 HN3 HL3 HK3 HGo
   cases hst:stopQ q r
   ·have HEq2:Hid (redS q t l=(cs++[r])++redS q r (l.drop (j+1))):=by
     show _=_
     rw [HEq.out,redS_go (by rw [Hrd.out];exact hst),Hrd.out];simp
    clear HEq Hrd
    obtain⟨y0,y1,y2,y3,f0,f1,f2,f3⟩:=HB4.out
    obtain⟨z0,z1,z2,z3,_,_,_,_⟩:=HN4.out
    have hb8:w.heap.size<w4.heap.size:=zae y0
    go_wp2_with fail
    go_roundg (L-(j+1))
    case measure=>have:=Hg.out;omega
    case rel=>
     have hks:KC (fun n=>n=w.heap.size) w4 (w4.setCells w.heap.size 0 (encP (r,.slice ar r.items.length cr))):=KC.put4 (B:=fun n=>n=w.heap.size) (KC.refl _ w4) (.inl rfl) r _
     refine⟨j+1,r,ar,_,cr,bar3,cs++[r],by go_num,rfl,by omega,HB4.out.put (r,.slice ar r.items.length cr),Hbar.out.2.2,Hbar.out.1,HW.out.k1 HJ4.out hks,hks.liesX (fun n hn h=>hn.2 h) HL4.out,Hrr.out,by have:=Hcs.out;simp;omega,HEq2.out,HK4.out.put4 (.inr (Nat.le_refl _)) r _⟩
   ·have HEq2:Hid (redS q t l=cs++[r]):=by
     show _=_
     rw [HEq.out,redS_stop (by rw [Hrd.out];exact hst),Hrd.out]
    have HZ:Hid (RdPost JJ bar (redS q t l) w (.returned (.tuple #[])) w4):=⟨rfl,HK4.out,by rw [HEq2.out];exact HW.out.k3 HJ4.out Hbar.out.2.2⟩
    clear HEq Hrd HEq2 HJ4 HK4 HL4 HB4 HN4
    go_wp2_with fail
    refine bodyPost_end (v:=.tuple #[]) ?_ rfl HZ.out
    simp [results,Tryz.results46,go_sem]
  ·have hji : ¬(j:Int)<(L:Int):=by omega
   have HZ:Hid (RdPost JJ bar (redS q t l) w (.returned (.tuple #[])) wr):=⟨rfl,HI.out.kc,by
    have:=HI.out.eq
    rw [List.drop_eq_nil_of_le (by have:=HLe.out;omega)] at this
    rw [this]
    simp only [redS,List.append_nil]
    exact HW.out.k3 HI.out.jj HI.out.sub⟩
   clear HI
   go_wp2_with fail
   refine bodyPost_end (v:=.tuple #[]) ?_ rfl HZ.out
   simp [results,Tryz.results46,go_sem]
end Go.Proofs.YtcflooaoocngdaaGreat
