import Derived.Test.YtcflooaoocngdaaGreatFun
import Derived.Lib.MapLaws
import Derived.Test.YtcflooaoocngdaaGreatTold
set_option maxHeartbeats 4000000
namespace Go.Proofs.YtcflooaoocngdaaGreat
open Go.RowKit
theorem dp_list {l:List VT} (h:(fw 17 (listT l) 16 1024).1=true) (hd:∀x∈l,Dp 16 x):Dp 16 (listT l):=fw_deep 17 (listT l) 16 1024 (by omega) h hd
open Go.PlainAid
theorem fwL_mono {f g:VT→Int→Bool×Int} (hf:∀x m,0≤m→0≤(f x m).2) (h:∀x m m',0≤m→m≤m'→(f x m).1=true→(g x m').1=true∧(g x m').2=(f x m).2+(m'-m)) :
 ∀(l:List VT) (n n':Int),0≤n→n≤n'→(fwL f l n).1=true→(fwL g l n').1=true∧(fwL g l n').2=(fwL f l n).2+(n'-n):=by
 intro l
 induction l with
 | nil=>intro n n' _ _ _;exact⟨rfl,by show n'=n+(n'-n);omega⟩
 | cons x l ih=>
  intro n n' h0 hn hh
  unfold fwL at hh ⊢
  by_cases hx:(f x n).1=true
  ·rw [if_pos hx] at hh ⊢
   obtain⟨g1,g2⟩:=h x n n' h0 hn hx
   rw [if_pos g1]
   have h1:=hf x n h0
   obtain⟨i1,i2⟩:=ih (f x n).2 (g x n').2 h1 (by omega) hh
   exact⟨i1,by omega⟩
  ·rw [if_neg hx] at hh;cases hh
theorem fw_mono:∀(d:Nat) (t:VT) (lv lv' n n':Int),0≤n→lv≤lv'→n≤n'→(fw d t lv n).1=true→(fw d t lv' n').1=true∧(fw d t lv' n').2=(fw d t lv n).2+(n'-n):=by
 intro d
 induction d with
 | zero=>
  intro t lv lv' n n' h0 hl hn hh
  unfold fw at hh ⊢
  by_cases hx:lv<0∨n=0
  ·rw [if_pos hx] at hh;cases hh
  ·rw [if_neg hx,if_neg (by omega)];exact⟨rfl,by show n'-1=n-1+(n'-n);omega⟩
 | succ d ih=>
  intro t lv lv' n n' h0 hl hn hh
  unfold fw at hh ⊢
  by_cases hx:lv<0∨n=0
  ·rw [if_pos hx] at hh;cases hh
  ·rw [if_neg hx] at hh ⊢
   rw [if_neg (by omega)]
   have:=fwL_mono (f:=fun x m=>fw d x (lv-1) m) (g:=fun x m=>fw d x (lv'-1) m) (fun x m hm=>(fw_range d x _ m hm).1) (fun x m m' hm hmm hb=>ih x (lv-1) (lv'-1) m m' hm (by omega) hmm hb) t.items (n-1) (n'-1) (by omega) (by omega) hh
   exact⟨this.1,by omega⟩
theorem fw_items {d:Nat} {t:VT} {lv n:Int} (h:(fw (d+1) t lv n).1=true) : ¬(lv<0∨n=0)∧(fwL (fun x m=>fw d x (lv-1) m) t.items (n-1)).1=true:=by
 unfold fw at h
 by_cases hx:lv<0∨n=0
 ·rw [if_pos hx] at h;cases h
 ·rw [if_neg hx] at h;exact⟨hx,h⟩
theorem rp_succ {d:Nat} {t:VT} (h:rpV (d+1) t=true):(∀x∈t.items,rpV d x=true)∧ownV d t=true:=by
 unfold rpV at h
 rw [Bool.and_eq_true,List.all_eq_true] at h
 exact h
theorem item_right {t x:VT} (hr:zab 16 t=true) (hd:Dp 16 t) (hx:x∈t.items):zab 16 x=true∧Dp 16 x:=by
 have hdx:Dp 15 x:=hd x hx
 refine⟨?_,hdx.up⟩
 rw [rightV_eq x hdx (by omega)]
 simp only [zab,Bool.and_eq_true] at hr ⊢
 have hrp:=rp_succ (d:=15) hr.2
 refine⟨?_,hrp.1 x hx⟩
 obtain⟨_,h2⟩:=fw_items hr.1
 obtain⟨_,_,i3⟩:=fwL_len (f:=fun x m=>fw 15 x ((16:Int)-1) m) (fun x m hm=>(fw_range 15 x _ m hm).1) (fun x m hm hb=>fw_less 15 x _ m hm hb) t.items (1024-1) (by omega) h2
 obtain⟨m,m1,m2,m3⟩:=i3 x hx
 exact (fw_mono 15 x (16-1) 16 m 1024 m1 (by omega) (by omega) m3).1
theorem int_right (n:Int):zab 16 (intT n)=true:=by
 simp [zab,fw,fwL,rpV,ownV,okNum,okText,zan,intT]
theorem nil_right:zab 16 nilT=true:=by
 simp [zab,fw,fwL,rpV,ownV,okNum,okText,zan,nilT]
theorem dp_leaf {t:VT} (h:t.items=[]):Dp 16 t:=Dp.mono (d:=0) h (by omega)
theorem own_list (d:Nat) (l:List VT):ownV d (listT l)=true:=by
 simp [ownV,okNum,okText,zan,listT]
theorem rp_list {d:Nat} {l:List VT} (h:∀x∈l,rpV d x=true):rpV (d+1) (listT l)=true:=by
 unfold rpV
 rw [Bool.and_eq_true,List.all_eq_true]
 exact⟨h,own_list d l⟩
theorem list_right (l:List VT) (hr:∀x∈l,zab 16 x=true):zab 17 (listT l)=(fw 17 (listT l) 16 1024).1:=by
 unfold zab
 rw [rp_list (fun x hx=>right_rp (hr x hx)),Bool.and_true]
theorem list_right16 {l:List VT} (hr:∀x∈l,zab 16 x=true) (hd:∀x∈l,Dp 16 x) (hf:(fw 17 (listT l) 16 1024).1=true):zab 16 (listT l)=true∧Dp 16 (listT l):=by
 have h1:=dp_list hf hd
 refine⟨?_,h1⟩
 rw [←rightV_eq (listT l) h1 (show 16≤17 by omega),list_right l hr]
 exact hf
theorem right_len {t:VT} (hr:zab 16 t=true):t.items.length≤1024:=by
 have h:=hr
 simp only [zab,Bool.and_eq_true] at h
 exact (fw_small 16 t 16 1024 (by omega) (by omega) h.1).1
theorem right_size {t:VT} (hr:zab 16 t=true):t.text.size≤256:=(right_text (rp_succ (d:=15) (right_rp hr)).2).1
end Go.Proofs.YtcflooaoocngdaaGreat
namespace Go.Proofs.YtcflooaoocngdaaGreat
open Go.RowKit
theorem right_len_all {t:VT} (hr:zab 16 t=true):Len 16 t:=by
 have h:=hr
 simp only [zab,Bool.and_eq_true] at h
 exact sm_len 16 t (fw_small 16 t 16 1024 (by omega) (by omega) h.1)
theorem copy_right (t:VT) (u:Value) (w:World) (hl:Lies 16 w t.items u) (hr:zab 16 t=true):Calls Tryz.prog 34 #[.agg #[.int .i64 t.kind,.int .i64 t.num,.string t.text,u]] w (CopyPost 16 t w):=
 copyOf_any (fun s=>s.size≤281474976710656) txt_any 16 t u w hl (right_txt 16 t (right_rp hr)) (right_len_all hr)
def evenB (n:Int):Bool:=n.tmod 2==0
def qB:Nat→VT→Bool
 | 0,_=>true
 | 1,_=>false
 | 2,t=>t.kind==2
 | 3,t=>t.kind==2&&evenB t.num
 | 4,t=>t.kind==2&&decide (0<t.num)
 | 5,t=>t.kind==3
 | 6,t=>t.kind==4 || (t.kind==5 || t.kind==6)
 | _,t=>t.kind==0
def QPost (b:Bool) (W:World) (e:Ending) (W':World):Prop:=e=.returned (.bool b)∧Below W.heap.size W W'
theorem zak (t:VT) (a:Option Addr) (l c:Nat) (w:World):Calls Tryz.prog 54 #[.agg #[.int .i64 t.kind,.int .i64 t.num,.string t.text,.slice a l c]] w fun e w'=>e=.returned (.bool (t.kind==2))∧w'=w.alloc (.cells #[.int .i64 t.kind,.int .i64 t.num,.string t.text,.slice a l c] 27):=by
 go_enter Tryz.func54,Tryz.ntmps54
 go_wp2_with fail
 go_ret
 exact⟨rfl,rfl⟩
theorem never_any (t:VT) (a:Option Addr) (l c:Nat) (w:World):Calls Tryz.prog 53 #[.agg #[.int .i64 t.kind,.int .i64 t.num,.string t.text,.slice a l c]] w (QPost false w):=by
 go_enter Tryz.func53,Tryz.ntmps53
 go_wp2_with fail
 go_ret
 first|exact⟨rfl,(Grew.refl _).alloc _ |>.below⟩|exact⟨rfl,Below.refl _ _⟩
theorem question_any (q:Nat) (hq:q<8) (t:VT) (u:Value) (d:Nat) (w:World) (hl:Lies d w t.items u) :
 Calls Tryz.prog (isF q) #[.agg #[.int .i64 t.kind,.int .i64 t.num,.string t.text,u]] w (QPost (qB q t) w):=by
 obtain⟨a,c,rfl,_⟩:=Lies.slice hl
 clear hl
 generalize t.items.length=l
 match q,hq with
 | 0,_=>
  show Calls Tryz.prog 52 _ _ _
  go_enter Tryz.func52,Tryz.ntmps52
  go_wp2_with fail
  go_ret
  first|exact⟨rfl,(Grew.refl _).alloc _ |>.below⟩|exact⟨rfl,Below.refl _ _⟩
 | 1,_=>exact never_any t a l c w
 | 2,_=>exact (zak t a l c w).mono fun e w' h=>⟨h.1,by rw [h.2];exact ((Grew.refl _).alloc _).below⟩
 | 3,_=>
  show Calls Tryz.prog 55 _ _ _
  cases hk:(t.kind==2)
  ·go_enter Tryz.func55,Tryz.ntmps55
   go_wp2_with (go_at_call 54;refine (zak t _ _ _ _).mono ?_;rintro e w' ⟨rfl,rfl⟩)
   go_ret
   exact⟨by simp [qB,hk],(Grew.two _ _ _).below⟩
  ·go_enter Tryz.func55,Tryz.ntmps55
   go_wp2_with (go_at_call 54;refine (zak t _ _ _ _).mono ?_;rintro e w' ⟨rfl,rfl⟩)
   go_ret
   exact⟨by simp [qB,hk,evenB],(Grew.two _ _ _).below⟩
 | 4,_=>
  show Calls Tryz.prog 56 _ _ _
  cases hk:(t.kind==2)
  ·go_enter Tryz.func56,Tryz.ntmps56
   go_wp2_with (go_at_call 54;refine (zak t _ _ _ _).mono ?_;rintro e w' ⟨rfl,rfl⟩)
   go_ret
   exact⟨by simp [qB,hk],(Grew.two _ _ _).below⟩
  ·go_enter Tryz.func56,Tryz.ntmps56
   go_wp2_with (go_at_call 54;refine (zak t _ _ _ _).mono ?_;rintro e w' ⟨rfl,rfl⟩)
   go_ret
   exact⟨by simp [qB,hk],(Grew.two _ _ _).below⟩
 | 5,_=>
  show Calls Tryz.prog 57 _ _ _
  go_enter Tryz.func57,Tryz.ntmps57
  go_wp2_with fail
  go_ret
  exact⟨rfl,((Grew.refl _).alloc _).below⟩
 | 6,_=>
  show Calls Tryz.prog 58 _ _ _
  cases h4:(t.kind==4)
  ·cases h5:(t.kind==5)
   ·go_enter Tryz.func58,Tryz.ntmps58
    go_wp2_with fail
    go_ret
    exact⟨by simp [qB,h4,h5],((Grew.refl _).alloc _).below⟩
   ·go_enter Tryz.func58,Tryz.ntmps58
    go_wp2_with fail
    go_ret
    exact⟨by simp [qB,h5],((Grew.refl _).alloc _).below⟩
  ·go_enter Tryz.func58,Tryz.ntmps58
   go_wp2_with fail
   go_ret
   exact⟨by simp [qB,h4],((Grew.refl _).alloc _).below⟩
 | 7,_=>
  show Calls Tryz.prog 59 _ _ _
  go_enter Tryz.func59,Tryz.ntmps59
  go_wp2_with fail
  go_ret
  exact⟨rfl,((Grew.refl _).alloc _).below⟩
def isE (d:Nat) (q:Int) (t:VT):Int:=if q<0∨8≤q then 4 else if zab d t=true then 0 else 3
def isZ (d:Nat) (q:Int) (t:VT):Bool:=if isE d q t=0 then qB q.toNat t else false
def startQ (w:World) (t:VT) (u:Value):World:=
 (w.alloc (.cells #[.int .i64 t.kind,.int .i64 t.num,.string t.text,u] 27)).alloc
  (.cells #[fv 52,fv 53,fv 54,fv 55,fv 56,fv 57,fv 58,fv 59] 65)
theorem startQ_below (w:World) (t:VT) (u:Value):Below w.heap.size w (startQ w t u):=(Grew.two _ _ _).below
theorem startQ_box (w:World) (t:VT) (u:Value):Bx (startQ w t u) w.heap.size t u:=(zaj w t u).keeps ((Grew.refl _).alloc _).below
theorem startQ_row (w:World) (t:VT) (u:Value) (q:Nat) (hq:q<8):(startQ w t u).cell? ⟨w.heap.size+1,q,none⟩=some (fv (isF q)):=by
 have:=isF_cell (w.alloc (.cells #[.int .i64 t.kind,.int .i64 t.num,.string t.text,u] 27)) q hq
 rwa [World.size_alloc] at this
theorem startQ_size (w:World) (t:VT) (u:Value):(startQ w t u).heap.size=w.heap.size+2:=by unfold startQ;simp
def IPost (b:Bool) (r:Int) (W:World) (e:Ending) (W':World):Prop:=e=.returned (.tuple #[.bool b,.int .i64 r])∧Below W.heap.size W W'
theorem pis_no (d:Nat) (q:Int) (t:VT) (u:Value) (w:World) (hu:Lies d w t.items u) (hq:q<0∨8≤q) :
 Calls Tryz.prog 15 #[.int .i64 q,.agg #[.int .i64 t.kind,.int .i64 t.num,.string t.text,u]] w (IPost false 4 w):=by
 obtain⟨a,c,rfl,_⟩:=Lies.slice hu
 clear hu
 have HB:=startQ_below w t (.slice a t.items.length c)
 have Hz:Hid ((startQ w t (.slice a t.items.length c)).heap.size=w.heap.size+2):=startQ_size _ _ _
 have HQ:Hid (q<0∨8≤q):=hq
 clear hq
 go_enter Tryz.func15,Tryz.ntmps15
 go_wp2_with fail
 refine (questions_any _).mono ?_
 rintro e w1 ⟨rfl,rfl⟩
 go_wp2_with fail
 refine (rowQ_no (w.heap.size+1) q _ HQ.out).mono ?_
 rintro e w1 ⟨rfl,hb⟩
 have hb:Below (startQ w t (.slice a t.items.length c)).heap.size (startQ w t (.slice a t.items.length c)) w1:=hb
 have hb1:Below w.heap.size w w1:=HB.trans (hb.mono (by rw [Hz.out];omega))
 clear hb HB
 go_wp2_with fail
 go_ret2
 exact⟨rfl,hb1.alloc hb1.size _⟩
theorem pis_yes (d q:Nat) (t:VT) (u:Value) (w:World) (hu:Lies d w t.items u) (hs:t.text.size≤9223372036854775807) (hq:q<8) :
 Calls Tryz.prog 15 #[.int .i64 q,.agg #[.int .i64 t.kind,.int .i64 t.num,.string t.text,u]] w (IPost (if zab d t=true then qB q t else false) (errOf (zab d t)) w):=by
 have Hd:Hid (∀(v:Value) (W:World),Lies d W t.items v→Calls Tryz.prog (isF q) #[.agg #[.int .i64 t.kind,.int .i64 t.num,.string t.text,v]] W (QPost (qB q t) W)):=fun v W h=>question_any q hq t v d W h
 have Hrow:Hid (∀v,(startQ w t v).cell? ⟨w.heap.size+1,q,none⟩=some (fv (isF q))):=fun v=>startQ_row w t v q hq
 have eg:=isF_enters q hq
 generalize isF q=f at *
 generalize qB q t=Q at *
 generalize hZ:(if zab d t=true then Q else false)=Z
 generalize hE:errOf (zab d t)=E
 have HZ:Hid ((if zab d t=true then Q else false)=Z):=hZ
 have HE:Hid (errOf (zab d t)=E):=hE
 clear hZ hE
 obtain⟨a,c,rfl,_⟩:=Lies.slice hu
 have HL:Hid (Lies d w t.items (.slice a t.items.length c)):=hu
 clear hu
 have HB:=startQ_below w t (.slice a t.items.length c)
 have HX:Hid (Bx (startQ w t (.slice a t.items.length c)) w.heap.size t (.slice a t.items.length c)):=startQ_box w t _
 have Hz:Hid ((startQ w t (.slice a t.items.length c)).heap.size=w.heap.size+2):=startQ_size _ _ _
 go_enter Tryz.func15,Tryz.ntmps15
 go_wp2_with fail
 refine (questions_any _).mono ?_
 rintro e w1 ⟨rfl,rfl⟩
 go_wp2_with fail
 refine (rowQ_yes (w.heap.size+1) q f _ hq (Hrow.out _)).mono ?_
 rintro e w1 ⟨rfl,hb⟩
 have hb:Below (startQ w t (.slice a t.items.length c)).heap.size (startQ w t (.slice a t.items.length c)) w1:=hb
 have hb1:Below w.heap.size w w1:=HB.trans (hb.mono (by rw [Hz.out];omega))
 have hb2:Below w.heap.size w (w1.alloc (.cells #[fv f] 65)):=hb1.alloc hb1.size _
 have HX2:Hid (Bx (w1.alloc (.cells #[fv f] 65)) w.heap.size t (.slice a t.items.length c)):=(HX.out.keeps hb).keeps ((Grew.refl _).alloc _).below
 have HF2:Hid ((w1.alloc (.cells #[fv f] 65)).cell? ⟨w1.heap.size,0,none⟩=some (fv f)):=by show _=_;simp
 clear hb HB HX Hz Hrow
 obtain⟨x0,x1,x2,x3,_,_,_,_⟩:=HX2.out
 go_wp2_with fail
 refine (check_any d t _ _ (Lies.keeps hb2 _ _ _ HL.out) hs).mono ?_
 rintro e w2 ⟨rfl,hb⟩
 have hb3:Below w.heap.size w w2:=hb2.trans (hb.mono hb2.size)
 have HX3:=HX2.out.keeps hb
 have xr:=zaa hb HF2.out
 clear hb HX2 HF2 x0 x1 x2 x3 hb2 hb1
 obtain⟨x0,x1,x2,x3,_,_,_,_⟩:=HX3
 generalize w1.heap.size=B at *
 cases hr:zab d t
 ·have he:errOf false=3:=rfl
  rw [he]
  have Hr:Hid (zab d t=false):=hr
  clear he hr
  go_wp2_with fail
  go_ret2
  rw [←HZ.out,←HE.out,Hr.out]
  exact⟨rfl,hb3⟩
 ·have he:errOf true=0:=rfl
  rw [he]
  have Hr:Hid (zab d t=true):=hr
  clear he hr
  go_wp2_with (go_at_fn f;refine Calls.mono (Hd.out (.slice a t.items.length c) _ (Lies.keeps hb3 _ _ _ HL.out)) ?_;rintro e w4 ⟨rfl,hb4⟩)
  go_ret2
  rw [←HZ.out,←HE.out,Hr.out]
  exact⟨rfl,hb3.trans (hb4.mono hb3.size)⟩
theorem pis_any (d:Nat) (q:Int) (t:VT) (u:Value) (w:World) (hu:Lies d w t.items u) (hs:t.text.size≤9223372036854775807) :
 Calls Tryz.prog 15 #[.int .i64 q,.agg #[.int .i64 t.kind,.int .i64 t.num,.string t.text,u]] w (IPost (isZ d q t) (isE d q t) w):=by
 unfold isZ
 by_cases hq:q<0∨8≤q
 ·have e:isE d q t=4:=by unfold isE;rw [if_pos hq]
  rw [e]
  exact pis_no d q t u w hu hq
 ·obtain⟨Q,hQ,hQ8⟩:∃Q:Nat,q=Q∧Q<8:=⟨q.toNat,by omega,by omega⟩
  subst hQ
  have h:=pis_yes d Q t u w hu hs hQ8
  cases hr:zab d t
  ·have e:isE d Q t=3:=by unfold isE;rw [if_neg hq,hr];rfl
   rw [hr] at h
   rw [e];exact h
  ·have e:isE d Q t=0:=by unfold isE;rw [if_neg hq,if_pos hr]
   rw [hr] at h
   rw [e];exact h
def addI (a b:Int):Int:=wrap64 (a+b)
def addT (t s:VT):VT:=if t.kind=2∧s.kind=2 then intT (addI t.num s.num) else t
def maxT (t s:VT):VT:=if cmpV 16 t s<0 then s else t
def minT (t s:VT):VT:=if 0<cmpV 16 t s then s else t
def countT (t:VT):VT:=if t.kind=2 then intT (incI t.num) else intT 1
def stopB (t:VT):Bool:=t.kind==2&&decide (100<t.num)
def two3 (w:World) (t s:VT) (u v:Value):World:=
 ((w.alloc (.cells #[.int .i64 t.kind,.int .i64 t.num,.string t.text,u] 27)).alloc (.cells #[.int .i64 s.kind,.int .i64 s.num,.string s.text,v] 27)).alloc (.cells #[.int .i64 0,.int .i64 0,.string ⟨#[]⟩,.slice none 0 0] 27)
theorem two3_below (w:World) (t s:VT) (u v:Value):Below w.heap.size w (two3 w t s u v):=grew3 _ _ _ _
theorem two3_first (w:World) (t s:VT) (u v:Value):Bx (two3 w t s u v) w.heap.size t u:=(zaj w t u).keeps (Grew.two _ _ _).below
theorem two3_second (w:World) (t s:VT) (u v:Value):Bx (two3 w t s u v) (w.heap.size+1) s v:=by
 have:=(zaj (w.alloc (.cells #[.int .i64 t.kind,.int .i64 t.num,.string t.text,u] 27)) s v).keeps ((Grew.refl _).alloc (.cells #[.int .i64 0,.int .i64 0,.string ⟨#[]⟩,.slice none 0 0] 27)).below
 rwa [World.size_alloc] at this
theorem two3_res (w:World) (t s:VT) (u v:Value):Bx (two3 w t s u v) (w.heap.size+2) zeroT (.slice none 0 0):=by
 have:=zaj ((w.alloc (.cells #[.int .i64 t.kind,.int .i64 t.num,.string t.text,u] 27)).alloc (.cells #[.int .i64 s.kind,.int .i64 s.num,.string s.text,v] 27)) zeroT (.slice none 0 0)
 rwa [World.size_alloc,World.size_alloc] at this
theorem zaq (w:World) (t s:VT) (u v:Value):(two3 w t s u v).heap.size=w.heap.size+3:=by unfold two3;simp
theorem grew4 (w:World) (o1 o2 o3 o4:Obj):Below w.heap.size w ((((w.alloc o1).alloc o2).alloc o3).alloc o4):=(((Grew.two w o1 o2).alloc o3).alloc o4).below
theorem grew5 (w:World) (o1 o2 o3 o4 o5:Obj):Below w.heap.size w (((((w.alloc o1).alloc o2).alloc o3).alloc o4).alloc o5):=((((Grew.two w o1 o2).alloc o3).alloc o4).alloc o5).below
theorem grew6 (w:World) (o1 o2 o3 o4 o5 o6:Obj):Below w.heap.size w ((((((w.alloc o1).alloc o2).alloc o3).alloc o4).alloc o5).alloc o6):=(((((Grew.two w o1 o2).alloc o3).alloc o4).alloc o5).alloc o6).below
theorem add_any (X:Nat→Prop) (t s:VT) (a a2:Option Addr) (l c l2 c2:Nat) (w:World) (h:LiesX X 16 w t.items (.slice a l c)) (h2:LiesX X 16 w s.items (.slice a2 l2 c2)):Calls Tryz.prog 110 #[.agg #[.int .i64 t.kind,.int .i64 t.num,.string t.text,.slice a l c],.agg #[.int .i64 s.kind,.int .i64 s.num,.string s.text,.slice a2 l2 c2]] w (FnPost X (addT t s) w):=by
 have HL:Hid (LiesX X 16 w t.items (.slice a l c)):=h
 have HL2:Hid (LiesX X 16 w s.items (.slice a2 l2 c2)):=h2
 clear h h2
 cases hk:(t.kind==2)
 ·have e:addT t s=t:=by unfold addT;rw [if_neg (fun h=>by simp [h.1] at hk)]
  rw [e]
  clear e
  go_enter Tryz.func110,Tryz.ntmps110
  go_wp2_with (first|(go_at_call 54;refine (zak _ _ _ _ _).mono ?_;rintro e w' ⟨rfl,rfl⟩)|(go_at_call 122;refine (number_any _ _).mono ?_;rintro e w' ⟨rfl,rfl⟩))
  exact bodyPost_ret (v:=.agg #[.int .i64 t.kind,.int .i64 t.num,.string t.text,.slice a l c]) (by simp [results,Tryz.results110,go_sem]) rfl  (fnPost_same HL.out (grew4 _ _ _ _ _))
 ·cases hk2:(s.kind==2)
  ·have e:addT t s=t:=by unfold addT;rw [if_neg (fun h=>by simp [h.2] at hk2)]
   rw [e]
   clear e
   go_enter Tryz.func110,Tryz.ntmps110
   go_wp2_with (first|(go_at_call 54;refine (zak _ _ _ _ _).mono ?_;rintro e w' ⟨rfl,rfl⟩)|(go_at_call 122;refine (number_any _ _).mono ?_;rintro e w' ⟨rfl,rfl⟩))
   exact bodyPost_ret (v:=.agg #[.int .i64 t.kind,.int .i64 t.num,.string t.text,.slice a l c]) (by simp [results,Tryz.results110,go_sem]) rfl  (fnPost_same HL.out (grew5 _ _ _ _ _ _))
  ·have e:addT t s=intT (addI t.num s.num):=by unfold addT;rw [if_pos ⟨by simpa using hk,by simpa using hk2⟩]
   rw [e]
   clear e
   go_enter Tryz.func110,Tryz.ntmps110
   go_wp2_with (first|(go_at_call 54;refine (zak _ _ _ _ _).mono ?_;rintro e w' ⟨rfl,rfl⟩)|(go_at_call 122;refine (number_any _ _).mono ?_;rintro e w' ⟨rfl,rfl⟩))
   exact bodyPost_ret (v:=.agg #[.int .i64 2,.int .i64 (addI t.num s.num),.string ⟨#[]⟩,.slice none 0 0]) (by simp [results,Tryz.results110,go_sem,addI]) rfl (fnPost_int (grew6 _ _ _ _ _ _ _))
theorem left_any (X:Nat→Prop) (t s:VT) (a a2:Option Addr) (l c l2 c2:Nat) (w:World) (h:LiesX X 16 w t.items (.slice a l c)) (h2:LiesX X 16 w s.items (.slice a2 l2 c2)):Calls Tryz.prog 114 #[.agg #[.int .i64 t.kind,.int .i64 t.num,.string t.text,.slice a l c],.agg #[.int .i64 s.kind,.int .i64 s.num,.string s.text,.slice a2 l2 c2]] w (FnPost X t w):=by
 have HL:Hid (LiesX X 16 w t.items (.slice a l c)):=h
 have HL2:Hid (LiesX X 16 w s.items (.slice a2 l2 c2)):=h2
 clear h h2
 clear HL2
 go_enter Tryz.func114,Tryz.ntmps114
 go_wp2_with fail
 exact bodyPost_ret (v:=.agg #[.int .i64 t.kind,.int .i64 t.num,.string t.text,.slice a l c]) (by simp [results,Tryz.results114,go_sem]) rfl  (fnPost_same HL.out (grew3 _ _ _ _))
theorem right_any2 (X:Nat→Prop) (t s:VT) (a a2:Option Addr) (l c l2 c2:Nat) (w:World) (h:LiesX X 16 w t.items (.slice a l c)) (h2:LiesX X 16 w s.items (.slice a2 l2 c2)):Calls Tryz.prog 115 #[.agg #[.int .i64 t.kind,.int .i64 t.num,.string t.text,.slice a l c],.agg #[.int .i64 s.kind,.int .i64 s.num,.string s.text,.slice a2 l2 c2]] w (FnPost X s w):=by
 have HL:Hid (LiesX X 16 w t.items (.slice a l c)):=h
 have HL2:Hid (LiesX X 16 w s.items (.slice a2 l2 c2)):=h2
 clear h h2
 clear HL
 go_enter Tryz.func115,Tryz.ntmps115
 go_wp2_with fail
 exact bodyPost_ret (v:=.agg #[.int .i64 s.kind,.int .i64 s.num,.string s.text,.slice a2 l2 c2]) (by simp [results,Tryz.results115,go_sem]) rfl  (fnPost_same HL2.out (grew3 _ _ _ _))
theorem inc_int (t:VT) (a:Option Addr) (l c:Nat) (w:World) (hk:(t.kind==2)=true):Calls Tryz.prog 124 #[.agg #[.int .i64 t.kind,.int .i64 t.num,.string t.text,.slice a l c]] w fun e w'=>e=.returned (.agg #[.int .i64 2,.int .i64 (incI t.num),.string ⟨#[]⟩,.slice none 0 0])∧∃o1 o2 o3,w'=((w.alloc o1).alloc o2).alloc o3:=by
 have hk':(t.kind != 2)=false:=by simp [bne,hk]
 go_enter Tryz.func124,Tryz.ntmps124
 go_wp2_with (go_at_call 122;refine (number_any _ _).mono ?_;rintro e w' ⟨rfl,rfl⟩)
 exact bodyPost_ret (v:=.agg #[.int .i64 2,.int .i64 (incI t.num),.string ⟨#[]⟩,.slice none 0 0]) (by simp [results,Tryz.results124,go_sem,incI]) rfl ⟨rfl,_,_,_,rfl⟩
theorem count_any (X:Nat→Prop) (t s:VT) (a a2:Option Addr) (l c l2 c2:Nat) (w:World) (h:LiesX X 16 w t.items (.slice a l c)) (h2:LiesX X 16 w s.items (.slice a2 l2 c2)):Calls Tryz.prog 117 #[.agg #[.int .i64 t.kind,.int .i64 t.num,.string t.text,.slice a l c],.agg #[.int .i64 s.kind,.int .i64 s.num,.string s.text,.slice a2 l2 c2]] w (FnPost X (countT t) w):=by
 have HL:Hid (LiesX X 16 w t.items (.slice a l c)):=h
 have HL2:Hid (LiesX X 16 w s.items (.slice a2 l2 c2)):=h2
 clear h h2
 clear HL2 HL
 cases hk:(t.kind==2)
 ·have e:countT t=intT 1:=by unfold countT;rw [if_neg (by simpa using hk)]
  rw [e]
  clear e
  go_enter Tryz.func117,Tryz.ntmps117
  go_wp2_with (first|(go_at_call 54;refine (zak _ _ _ _ _).mono ?_;rintro e w' ⟨rfl,rfl⟩)|(go_at_call 122;refine (number_any _ _).mono ?_;rintro e w' ⟨rfl,rfl⟩))
  exact bodyPost_ret (v:=.agg #[.int .i64 2,.int .i64 1,.string ⟨#[]⟩,.slice none 0 0]) (by simp [results,Tryz.results117,go_sem]) rfl (fnPost_int (grew5 _ _ _ _ _ _))
 ·have e:countT t=intT (incI t.num):=by unfold countT;rw [if_pos (by simpa using hk)]
  rw [e]
  clear e
  go_enter Tryz.func117,Tryz.ntmps117
  go_wp2_with (first|(go_at_call 54;refine (zak _ _ _ _ _).mono ?_;rintro e w' ⟨rfl,rfl⟩)|(go_at_call 124;refine (inc_int t _ _ _ _ hk).mono ?_;rintro e w' ⟨rfl,o1,o2,o3,rfl⟩))
  generalize incI t.num=I at *
  exact bodyPost_ret (v:=.agg #[.int .i64 2,.int .i64 I,.string ⟨#[]⟩,.slice none 0 0]) (by simp [results,Tryz.results117,go_sem]) rfl (fnPost_int ((((Grew.two _ _ _).alloc _).alloc _).alloc _ |>.alloc _ |>.alloc _).below)
theorem isGreat_any (t:VT) (a:Option Addr) (l c:Nat) (w:World):Calls Tryz.prog 116 #[.agg #[.int .i64 t.kind,.int .i64 t.num,.string t.text,.slice a l c]] w (QPost (stopB t) w):=by
 cases hk:(t.kind==2)
 ·go_enter Tryz.func116,Tryz.ntmps116
  go_wp2_with (first|(go_at_call 54;refine (zak _ _ _ _ _).mono ?_;rintro e w' ⟨rfl,rfl⟩)|(go_at_call 122;refine (number_any _ _).mono ?_;rintro e w' ⟨rfl,rfl⟩))
  go_ret
  exact⟨by simp [stopB,hk],(Grew.two _ _ _).below⟩
 ·go_enter Tryz.func116,Tryz.ntmps116
  go_wp2_with (first|(go_at_call 54;refine (zak _ _ _ _ _).mono ?_;rintro e w' ⟨rfl,rfl⟩)|(go_at_call 122;refine (number_any _ _).mono ?_;rintro e w' ⟨rfl,rfl⟩))
  go_ret
  exact⟨by simp [stopB,hk],(Grew.two _ _ _).below⟩
theorem greater_any (X:Nat→Prop) (t s:VT) (a a2:Option Addr) (l c l2 c2:Nat) (w:World) (h:LiesX X 16 w t.items (.slice a l c)) (h2:LiesX X 16 w s.items (.slice a2 l2 c2)):Calls Tryz.prog 111 #[.agg #[.int .i64 t.kind,.int .i64 t.num,.string t.text,.slice a l c],.agg #[.int .i64 s.kind,.int .i64 s.num,.string s.text,.slice a2 l2 c2]] w (FnPost X (maxT t s) w):=by
 have hbz:=two3_below w t s (.slice a l c) (.slice a2 l2 c2)
 have HX:Hid (Bx (two3 w t s (.slice a l c) (.slice a2 l2 c2)) w.heap.size t (.slice a l c)):=two3_first _ _ _ _ _
 have HY:Hid (Bx (two3 w t s (.slice a l c) (.slice a2 l2 c2)) (w.heap.size+1) s (.slice a2 l2 c2)):=two3_second _ _ _ _ _
 have HR:Hid (Bx (two3 w t s (.slice a l c) (.slice a2 l2 c2)) (w.heap.size+2) zeroT (.slice none 0 0)):=two3_res _ _ _ _ _
 have Hz:Hid ((two3 w t s (.slice a l c) (.slice a2 l2 c2)).heap.size=w.heap.size+3):=zaq _ _ _ _ _
 have HXl:Hid (LiesX (fun b=>X b∧b<w.heap.size) 16 w t.items (.slice a l c)):=LiesX.both h
 have HYl:Hid (LiesX (fun b=>X b∧b<w.heap.size) 16 w s.items (.slice a2 l2 c2)):=LiesX.both h2
 have HL:Hid (LiesX X 16 w t.items (.slice a l c)):=h
 have HL2:Hid (LiesX X 16 w s.items (.slice a2 l2 c2)):=h2
 clear h h2
 go_enter Tryz.func111,Tryz.ntmps111
 go_wp2_with fail
 refine (zao 16 t s _ _ _ (Lies.keeps hbz _ _ _ HL.out.lies) (Lies.keeps hbz _ _ _ HL2.out.lies)).mono ?_
 rintro e w1 ⟨rfl,hg⟩
 have hb:Below (two3 w t s (.slice a l c) (.slice a2 l2 c2)).heap.size (two3 w t s (.slice a l c) (.slice a2 l2 c2)) w1:=hg.below
 have hb1:Below w.heap.size w w1:=hbz.trans (hb.mono (by rw [Hz.out];omega))
 have HR1:Hid (Bx w1 (w.heap.size+2) zeroT (.slice none 0 0)):=HR.out.keeps hb
 obtain⟨x0,x1,x2,x3,_,_,_,_⟩:=HX.out.keeps hb
 obtain⟨u0,u1,u2,u3,_,_,_,_⟩:=HY.out.keeps hb
 obtain⟨y0,y1,y2,y3,z0,z1,z2,z3⟩:=HR1.out
 clear hg hb hbz HX HY HR Hz
 by_cases hc:cmpV 16 t s<0
 ·have e:Hid (maxT t s=s):=if_pos hc
  have Hbx:Hid (Bx (w1.setCells (w.heap.size+2) 0 (encP (s,.slice a2 l2 c2))) (w.heap.size+2) s (.slice a2 l2 c2)):=HR1.out.put (s,.slice a2 l2 c2)
  have Hbl:Hid (Below w.heap.size w (w1.setCells (w.heap.size+2) 0 (encP (s,.slice a2 l2 c2)))):=zag hb1 (by omega) (s,.slice a2 l2 c2)
  have Hfin:Hid (LiesX (fun b=>X b∨w.heap.size≤b) 16 (w1.setCells (w.heap.size+2) 0 (encP (s,.slice a2 l2 c2))) s.items (.slice a2 l2 c2)):=((HYl.out.keeps hb1).set (g:=w.heap.size+2) (by omega)).mono (fun b hb=>.inl hb.1)
  go_wp2_with fail
  refine bodyPost_ret (v:=.agg #[.int .i64 s.kind,.int .i64 s.num,.string s.text,.slice a2 l2 c2]) ?_ rfl (by rw [e.out];exact⟨_,rfl,Hfin.out,Hbl.out⟩)
  obtain⟨q0,q1,q2,q3,_,_,_,_⟩:=Hbx.out
  simp only [encP,World.setCells,Nat.zero_add,Nat.reduceAdd] at q0 q1 q2 q3
  simp [results,Tryz.results111,go_sem,q0,q1,q2,q3]
 ·have e:Hid (maxT t s=t):=if_neg hc
  have Hbx:Hid (Bx (w1.setCells (w.heap.size+2) 0 (encP (t,.slice a l c))) (w.heap.size+2) t (.slice a l c)):=HR1.out.put (t,.slice a l c)
  have Hbl:Hid (Below w.heap.size w (w1.setCells (w.heap.size+2) 0 (encP (t,.slice a l c)))):=zag hb1 (by omega) (t,.slice a l c)
  have Hfin:Hid (LiesX (fun b=>X b∨w.heap.size≤b) 16 (w1.setCells (w.heap.size+2) 0 (encP (t,.slice a l c))) t.items (.slice a l c)):=((HXl.out.keeps hb1).set (g:=w.heap.size+2) (by omega)).mono (fun b hb=>.inl hb.1)
  go_wp2_with fail
  refine bodyPost_ret (v:=.agg #[.int .i64 t.kind,.int .i64 t.num,.string t.text,.slice a l c]) ?_ rfl (by rw [e.out];exact⟨_,rfl,Hfin.out,Hbl.out⟩)
  obtain⟨q0,q1,q2,q3,_,_,_,_⟩:=Hbx.out
  simp only [encP,World.setCells,Nat.zero_add,Nat.reduceAdd] at q0 q1 q2 q3
  simp [results,Tryz.results111,go_sem,q0,q1,q2,q3]
theorem lesser_any (X:Nat→Prop) (t s:VT) (a a2:Option Addr) (l c l2 c2:Nat) (w:World) (h:LiesX X 16 w t.items (.slice a l c)) (h2:LiesX X 16 w s.items (.slice a2 l2 c2)):Calls Tryz.prog 112 #[.agg #[.int .i64 t.kind,.int .i64 t.num,.string t.text,.slice a l c],.agg #[.int .i64 s.kind,.int .i64 s.num,.string s.text,.slice a2 l2 c2]] w (FnPost X (minT t s) w):=by
 have hbz:=two3_below w t s (.slice a l c) (.slice a2 l2 c2)
 have HX:Hid (Bx (two3 w t s (.slice a l c) (.slice a2 l2 c2)) w.heap.size t (.slice a l c)):=two3_first _ _ _ _ _
 have HY:Hid (Bx (two3 w t s (.slice a l c) (.slice a2 l2 c2)) (w.heap.size+1) s (.slice a2 l2 c2)):=two3_second _ _ _ _ _
 have HR:Hid (Bx (two3 w t s (.slice a l c) (.slice a2 l2 c2)) (w.heap.size+2) zeroT (.slice none 0 0)):=two3_res _ _ _ _ _
 have Hz:Hid ((two3 w t s (.slice a l c) (.slice a2 l2 c2)).heap.size=w.heap.size+3):=zaq _ _ _ _ _
 have HXl:Hid (LiesX (fun b=>X b∧b<w.heap.size) 16 w t.items (.slice a l c)):=LiesX.both h
 have HYl:Hid (LiesX (fun b=>X b∧b<w.heap.size) 16 w s.items (.slice a2 l2 c2)):=LiesX.both h2
 have HL:Hid (LiesX X 16 w t.items (.slice a l c)):=h
 have HL2:Hid (LiesX X 16 w s.items (.slice a2 l2 c2)):=h2
 clear h h2
 go_enter Tryz.func112,Tryz.ntmps112
 go_wp2_with fail
 refine (zao 16 t s _ _ _ (Lies.keeps hbz _ _ _ HL.out.lies) (Lies.keeps hbz _ _ _ HL2.out.lies)).mono ?_
 rintro e w1 ⟨rfl,hg⟩
 have hb:Below (two3 w t s (.slice a l c) (.slice a2 l2 c2)).heap.size (two3 w t s (.slice a l c) (.slice a2 l2 c2)) w1:=hg.below
 have hb1:Below w.heap.size w w1:=hbz.trans (hb.mono (by rw [Hz.out];omega))
 have HR1:Hid (Bx w1 (w.heap.size+2) zeroT (.slice none 0 0)):=HR.out.keeps hb
 obtain⟨x0,x1,x2,x3,_,_,_,_⟩:=HX.out.keeps hb
 obtain⟨u0,u1,u2,u3,_,_,_,_⟩:=HY.out.keeps hb
 obtain⟨y0,y1,y2,y3,z0,z1,z2,z3⟩:=HR1.out
 clear hg hb hbz HX HY HR Hz
 by_cases hc:0<cmpV 16 t s
 ·have e:Hid (minT t s=s):=if_pos hc
  have Hbx:Hid (Bx (w1.setCells (w.heap.size+2) 0 (encP (s,.slice a2 l2 c2))) (w.heap.size+2) s (.slice a2 l2 c2)):=HR1.out.put (s,.slice a2 l2 c2)
  have Hbl:Hid (Below w.heap.size w (w1.setCells (w.heap.size+2) 0 (encP (s,.slice a2 l2 c2)))):=zag hb1 (by omega) (s,.slice a2 l2 c2)
  have Hfin:Hid (LiesX (fun b=>X b∨w.heap.size≤b) 16 (w1.setCells (w.heap.size+2) 0 (encP (s,.slice a2 l2 c2))) s.items (.slice a2 l2 c2)):=((HYl.out.keeps hb1).set (g:=w.heap.size+2) (by omega)).mono (fun b hb=>.inl hb.1)
  go_wp2_with fail
  refine bodyPost_ret (v:=.agg #[.int .i64 s.kind,.int .i64 s.num,.string s.text,.slice a2 l2 c2]) ?_ rfl (by rw [e.out];exact⟨_,rfl,Hfin.out,Hbl.out⟩)
  obtain⟨q0,q1,q2,q3,_,_,_,_⟩:=Hbx.out
  simp only [encP,World.setCells,Nat.zero_add,Nat.reduceAdd] at q0 q1 q2 q3
  simp [results,Tryz.results112,go_sem,q0,q1,q2,q3]
 ·have e:Hid (minT t s=t):=if_neg hc
  have Hbx:Hid (Bx (w1.setCells (w.heap.size+2) 0 (encP (t,.slice a l c))) (w.heap.size+2) t (.slice a l c)):=HR1.out.put (t,.slice a l c)
  have Hbl:Hid (Below w.heap.size w (w1.setCells (w.heap.size+2) 0 (encP (t,.slice a l c)))):=zag hb1 (by omega) (t,.slice a l c)
  have Hfin:Hid (LiesX (fun b=>X b∨w.heap.size≤b) 16 (w1.setCells (w.heap.size+2) 0 (encP (t,.slice a l c))) t.items (.slice a l c)):=((HXl.out.keeps hb1).set (g:=w.heap.size+2) (by omega)).mono (fun b hb=>.inl hb.1)
  go_wp2_with fail
  refine bodyPost_ret (v:=.agg #[.int .i64 t.kind,.int .i64 t.num,.string t.text,.slice a l c]) ?_ rfl (by rw [e.out];exact⟨_,rfl,Hfin.out,Hbl.out⟩)
  obtain⟨q0,q1,q2,q3,_,_,_,_⟩:=Hbx.out
  simp only [encP,World.setCells,Nat.zero_add,Nat.reduceAdd] at q0 q1 q2 q3
  simp [results,Tryz.results112,go_sem,q0,q1,q2,q3]
def TPost (s:VT) (b:Bool) (r:Int) (W:World) (e:Ending) (W':World):Prop:=
 ∃u,e=.returned (.tuple #[.agg #[.int .i64 s.kind,.int .i64 s.num,.string s.text,u],.bool b,.int .i64 r])∧LiesX (fun b=>W.heap.size≤b) 16 W' s.items u∧Below W.heap.size W W'
theorem tPost_nil {r:Int} {W W':World} (h:Below W.heap.size W W'):TPost nilT false r W (.returned (.tuple #[.agg #[.int .i64 0,.int .i64 0,.string ⟨#[]⟩,.slice none 0 0],.bool false,.int .i64 r])) W':=
 ⟨_,rfl,zah _ _ _ _ _,h⟩
def zar (w:World) (t s:VT) (u v:Value):World:=(two3 w t s u v).alloc (.cells #[fv 110,fv 53,fv 111,fv 53,fv 112,fv 53,fv 113,fv 53,fv 114,fv 53,fv 115,fv 53,fv 110,fv 116,fv 117,fv 53] 127)
theorem start4_below (w:World) (t s:VT) (u v:Value):Below w.heap.size w (zar w t s u v):=grew4 _ _ _ _ _
theorem start4_size (w:World) (t s:VT) (u v:Value):(zar w t s u v).heap.size=w.heap.size+4:=by unfold zar;rw [World.size_alloc,zaq]
theorem start4_row (w:World) (t s:VT) (u v:Value) (q:Nat) (hq:q<8):(zar w t s u v).cell? ⟨w.heap.size+1+1+1,q*2,none⟩=some (fv (twoF q)):=by
 have:=twoF_cell (two3 w t s u v) q hq
 rwa [zaq] at this
theorem start4_row2 (w:World) (t s:VT) (u v:Value) (q:Nat) (hq:q<8):(zar w t s u v).cell? ⟨w.heap.size+1+1+1,q*2+1,none⟩=some (fv (stopF q)):=by
 have:=stopF_cell (two3 w t s u v) q hq
 rwa [zaq] at this
structure Desk2 (W:World) (N B f g:Nat) (t s:VT) (u v:Value):Prop where
 one:Bx W N t u
 two:Bx W (N+1) s v
 res:Bx W (N+2) zeroT (.slice none 0 0)
 fn:W.cell? ⟨B,0,none⟩=some (fv f)
 st:W.cell? ⟨B,1,none⟩=some (fv g)
theorem Desk2.keeps {W W':World} {N B f g:Nat} {t s:VT} {u v:Value} (h:Desk2 W N B f g t s u v) (hb:Below W.heap.size W W'):Desk2 W' N B f g t s u v:=
 ⟨h.one.keeps hb,h.two.keeps hb,h.res.keeps hb,zaa hb h.fn,zaa hb h.st⟩
theorem two_kind (d:Nat) (q:Int) (t s:VT) (u v:Value) (w:World) (hu:Lies d w t.items u) (hv:Lies d w s.items v) (hq:q<0∨8≤q) :
 Calls Tryz.prog 81 #[.int .i64 q,.agg #[.int .i64 t.kind,.int .i64 t.num,.string t.text,u],.agg #[.int .i64 s.kind,.int .i64 s.num,.string s.text,v]] w (TPost nilT false 4 w):=by
 obtain⟨a,c,rfl,_⟩:=Lies.slice hu
 obtain⟨a2,c2,rfl,_⟩:=Lies.slice hv
 have HL:Hid (Lies d w t.items (.slice a t.items.length c)):=hu
 have HL2:Hid (Lies d w s.items (.slice a2 s.items.length c2)):=hv
 clear hu hv
 generalize t.items.length=l at *
 generalize s.items.length=l2 at *
 have HB:=start4_below w t s (.slice a l c) (.slice a2 l2 c2)
 have HX:Hid (Bx (zar w t s (.slice a l c) (.slice a2 l2 c2)) w.heap.size t (.slice a l c)):=(two3_first _ _ _ _ _).keeps ((Grew.refl _).alloc _).below
 have HY:Hid (Bx (zar w t s (.slice a l c) (.slice a2 l2 c2)) (w.heap.size+1) s (.slice a2 l2 c2)):=(two3_second _ _ _ _ _).keeps ((Grew.refl _).alloc _).below
 have HR:Hid (Bx (zar w t s (.slice a l c) (.slice a2 l2 c2)) (w.heap.size+2) zeroT (.slice none 0 0)):=(two3_res _ _ _ _ _).keeps ((Grew.refl _).alloc _).below
 have Hz:Hid ((zar w t s (.slice a l c) (.slice a2 l2 c2)).heap.size=w.heap.size+4):=start4_size _ _ _ _ _
 have HQ:Hid (q<0∨8≤q):=hq
 clear hq HL HL2 HX HY
 go_enter Tryz.func81,Tryz.ntmps81
 go_wp2_with fail
 refine (twos_any _).mono ?_
 rintro e w1 ⟨rfl,rfl⟩
 go_wp2_with fail
 refine (rowT_no (w.heap.size+1+1+1) q _ HQ.out).mono ?_
 rintro e w1 ⟨rfl,hb⟩
 have hb:Below (zar w t s (.slice a l c) (.slice a2 l2 c2)).heap.size (zar w t s (.slice a l c) (.slice a2 l2 c2)) w1:=hb
 have hb1:Below w.heap.size w w1:=HB.trans (hb.mono (by rw [Hz.out];omega))
 have hb2:Below w.heap.size w (w1.alloc (.cells #[.nilFunc,.nilFunc] 127)):=hb1.alloc hb1.size _
 have HR2:Hid (Bx (w1.alloc (.cells #[.nilFunc,.nilFunc] 127)) (w.heap.size+2) zeroT (.slice none 0 0)):=(HR.out.keeps hb).keeps ((Grew.refl _).alloc _).below
 clear hb HR HB Hz
 obtain⟨y0,y1,y2,y3,z0,z1,z2,z3⟩:=HR2.out
 have Hbx:Hid (Bx ((w1.alloc (.cells #[.nilFunc,.nilFunc] 127)).setCells (w.heap.size+2) 0 (encP (zeroT,.slice none 0 0))) (w.heap.size+2) zeroT (.slice none 0 0)):=HR2.out.put (zeroT,.slice none 0 0)
 have Hbl:Hid (Below w.heap.size w ((w1.alloc (.cells #[.nilFunc,.nilFunc] 127)).setCells (w.heap.size+2) 0 (encP (zeroT,.slice none 0 0)))):=zag hb2 (by omega) (zeroT,.slice none 0 0)
 go_wp2_with fail
 refine bodyPost_ret (v:=.tuple #[.agg #[.int .i64 0,.int .i64 0,.string ⟨#[]⟩,.slice none 0 0],.bool false,.int .i64 4]) ?_ rfl (tPost_nil Hbl.out)
 obtain⟨q0,q1,q2,q3,_,_,_,_⟩:=Hbx.out
 simp only [encP,World.setCells,Nat.zero_add,Nat.reduceAdd] at q0 q1 q2 q3
 simp [results,Tryz.results81,go_sem,q0,q1,q2,q3]
theorem set4_keep {W:World} {n:Nat} {v0 v1 v2 v3:Value} {a:Addr} {v:Value} (hn:a.block≠n) (h:W.cell? a=some v):((((W.setCell ⟨n,0,none⟩ v0).setCell ⟨n,1,none⟩ v1).setCell ⟨n,2,none⟩ v2).setCell ⟨n,3,none⟩ v3).cell? a=some v:=
 cell_other (g:=n) (o:=0) (vs:=[v0,v1,v2,v3]) hn h
theorem two_core (d q f g:Nat) (t s r:VT) (b:Bool) (u v:Value) (w:World) (hu:Lies d w t.items u) (hv:Lies d w s.items v) (hs:t.text.size≤9223372036854775807) (hs2:s.text.size≤9223372036854775807) (hq:q<8)
 (Hrow:Hid (∀x y,(zar w t s x y).cell? ⟨w.heap.size+1+1+1,q*2,none⟩=some (fv f))) (Hrow2:Hid (∀x y,(zar w t s x y).cell? ⟨w.heap.size+1+1+1,q*2+1,none⟩=some (fv g)))
 (eg:∀args w,(callFunc f args).run Tryz.prog w=.ok (.enter f args) w) (eg2:∀args w,(callFunc g args).run Tryz.prog w=.ok (.enter g args) w)
 (Hf:Hid (zab d t=true→zab d s=true→∀W,Below w.heap.size w W→Calls Tryz.prog f #[.agg #[.int .i64 t.kind,.int .i64 t.num,.string t.text,u],.agg #[.int .i64 s.kind,.int .i64 s.num,.string s.text,v]] W (FnPost (fun _=>True) r W)))
 (Hg:Hid (∀x W,Lies 16 W r.items x→Calls Tryz.prog g #[.agg #[.int .i64 r.kind,.int .i64 r.num,.string r.text,x]] W (QPost b W)))
 (Hr:Hid (zab d t=true→zab d s=true→zab 16 r=true)) :
 Calls Tryz.prog 81 #[.int .i64 q,.agg #[.int .i64 t.kind,.int .i64 t.num,.string t.text,u],.agg #[.int .i64 s.kind,.int .i64 s.num,.string s.text,v]] w (if zab d t=true∧zab d s=true then TPost r b 0 w else TPost nilT false 3 w):=by
 obtain⟨a,c,rfl,_⟩:=Lies.slice hu
 obtain⟨a2,c2,rfl,_⟩:=Lies.slice hv
 have HL:Hid (Lies d w t.items (.slice a t.items.length c)):=hu
 have HL2:Hid (Lies d w s.items (.slice a2 s.items.length c2)):=hv
 clear hu hv
 generalize t.items.length=l at *
 generalize s.items.length=l2 at *
 have HB:=start4_below w t s (.slice a l c) (.slice a2 l2 c2)
 have HX:Hid (Bx (zar w t s (.slice a l c) (.slice a2 l2 c2)) w.heap.size t (.slice a l c)):=(two3_first _ _ _ _ _).keeps ((Grew.refl _).alloc _).below
 have HY:Hid (Bx (zar w t s (.slice a l c) (.slice a2 l2 c2)) (w.heap.size+1) s (.slice a2 l2 c2)):=(two3_second _ _ _ _ _).keeps ((Grew.refl _).alloc _).below
 have HR:Hid (Bx (zar w t s (.slice a l c) (.slice a2 l2 c2)) (w.heap.size+2) zeroT (.slice none 0 0)):=(two3_res _ _ _ _ _).keeps ((Grew.refl _).alloc _).below
 have Hz:Hid ((zar w t s (.slice a l c) (.slice a2 l2 c2)).heap.size=w.heap.size+4):=start4_size _ _ _ _ _
 generalize hP:(if zab d t=true∧zab d s=true then TPost r b 0 w else TPost nilT false 3 w)=P
 have HP:Hid ((if zab d t=true∧zab d s=true then TPost r b 0 w else TPost nilT false 3 w)=P):=hP
 clear hP
 go_enter Tryz.func81,Tryz.ntmps81
 go_wp2_with fail
 refine (twos_any _).mono ?_
 rintro e w1 ⟨rfl,rfl⟩
 go_wp2_with fail
 refine (rowT_yes (w.heap.size+1+1+1) q f g _ hq (Hrow.out _ _) (Hrow2.out _ _)).mono ?_
 rintro e w1 ⟨rfl,hb⟩
 have hb:Below (zar w t s (.slice a l c) (.slice a2 l2 c2)).heap.size (zar w t s (.slice a l c) (.slice a2 l2 c2)) w1:=hb
 have hb1:Below w.heap.size w w1:=HB.trans (hb.mono (by rw [Hz.out];omega))
 have hsz:w.heap.size+4≤w1.heap.size:=by have:=hb.size;rw [Hz.out] at this;exact this
 have hb2:Below w.heap.size w (w1.alloc (.cells #[fv f,fv g] 127)):=hb1.alloc hb1.size _
 have HD2:Hid (Desk2 (w1.alloc (.cells #[fv f,fv g] 127)) w.heap.size w1.heap.size f g t s (.slice a l c) (.slice a2 l2 c2)):=
  ⟨(HX.out.keeps hb).keeps ((Grew.refl _).alloc _).below,(HY.out.keeps hb).keeps ((Grew.refl _).alloc _).below,(HR.out.keeps hb).keeps ((Grew.refl _).alloc _).below,by simp,by simp⟩
 clear hb HR HX HY HB Hz Hrow Hrow2
 obtain⟨⟨x0,x1,x2,x3,_,_,_,_⟩,⟨u0,u1,u2,u3,_,_,_,_⟩,_,_,_⟩:=HD2.out
 go_wp2_with fail
 refine (check_any d t _ _ (Lies.keeps hb2 _ _ _ HL.out) hs).mono ?_
 rintro e w2 ⟨rfl,hb⟩
 have hb3:Below w.heap.size w w2:=hb2.trans (hb.mono hb2.size)
 have HD3:Hid (Desk2 w2 w.heap.size w1.heap.size f g t s (.slice a l c) (.slice a2 l2 c2)):=HD2.out.keeps hb
 clear hb HD2 x0 x1 x2 x3 u0 u1 u2 u3 hb2 hb1
 have hB:w.heap.size+4≤w1.heap.size:=hsz
 clear hsz
 generalize w1.heap.size=B at *
 cases hr:zab d t
 ·have he:errOf false=3:=rfl
  rw [he]
  have HR3:Hid (Bx w2 (w.heap.size+2) zeroT (.slice none 0 0)):=HD3.out.res
  have HP2:Hid (P=TPost nilT false 3 w):=by show _=_;rw [←HP.out,if_neg (fun h=>by rw [hr] at h;exact absurd h.1 (by simp))]
  clear he hr HP HD3
  obtain⟨y0,y1,y2,y3,z0,z1,z2,z3⟩:=HR3.out
  have Hbx:Hid (Bx (w2.setCells (w.heap.size+2) 0 (encP (zeroT,.slice none 0 0))) (w.heap.size+2) zeroT (.slice none 0 0)):=HR3.out.put (zeroT,.slice none 0 0)
  have Hbl:Hid (Below w.heap.size w (w2.setCells (w.heap.size+2) 0 (encP (zeroT,.slice none 0 0)))):=zag hb3 (by omega) (zeroT,.slice none 0 0)
  go_wp2_with fail
  refine bodyPost_ret (v:=.tuple #[.agg #[.int .i64 0,.int .i64 0,.string ⟨#[]⟩,.slice none 0 0],.bool false,.int .i64 3]) ?_ rfl (by rw [HP2.out];exact tPost_nil Hbl.out)
  obtain⟨q0,q1,q2,q3,_,_,_,_⟩:=Hbx.out
  simp only [encP,World.setCells,Nat.zero_add,Nat.reduceAdd] at q0 q1 q2 q3
  simp [results,Tryz.results81,go_sem,q0,q1,q2,q3]
 have he:errOf true=0:=rfl
 rw [he]
 have HrT:Hid (zab d t=true):=hr
 clear he hr
 obtain⟨⟨x0,x1,x2,x3,_,_,_,_⟩,⟨u0,u1,u2,u3,_,_,_,_⟩,_,_,_⟩:=HD3.out
 go_wp2_with fail
 refine (check_any d s _ _ (Lies.keeps hb3 _ _ _ HL2.out) hs2).mono ?_
 rintro e w3 ⟨rfl,hb⟩
 have hb4:Below w.heap.size w w3:=hb3.trans (hb.mono hb3.size)
 have HD4:Hid (Desk2 w3 w.heap.size B f g t s (.slice a l c) (.slice a2 l2 c2)):=HD3.out.keeps hb
 clear hb HD3 x0 x1 x2 x3 u0 u1 u2 u3 hb3
 cases hr:zab d s
 ·have he:errOf false=3:=rfl
  rw [he]
  have HR3:Hid (Bx w3 (w.heap.size+2) zeroT (.slice none 0 0)):=HD4.out.res
  have HP2:Hid (P=TPost nilT false 3 w):=by show _=_;rw [←HP.out,if_neg (fun h=>by rw [hr] at h;exact absurd h.2 (by simp))]
  clear he hr HP HD4
  obtain⟨y0,y1,y2,y3,z0,z1,z2,z3⟩:=HR3.out
  have Hbx:Hid (Bx (w3.setCells (w.heap.size+2) 0 (encP (zeroT,.slice none 0 0))) (w.heap.size+2) zeroT (.slice none 0 0)):=HR3.out.put (zeroT,.slice none 0 0)
  have Hbl:Hid (Below w.heap.size w (w3.setCells (w.heap.size+2) 0 (encP (zeroT,.slice none 0 0)))):=zag hb4 (by omega) (zeroT,.slice none 0 0)
  go_wp2_with fail
  refine bodyPost_ret (v:=.tuple #[.agg #[.int .i64 0,.int .i64 0,.string ⟨#[]⟩,.slice none 0 0],.bool false,.int .i64 3]) ?_ rfl (by rw [HP2.out];exact tPost_nil Hbl.out)
  obtain⟨q0,q1,q2,q3,_,_,_,_⟩:=Hbx.out
  simp only [encP,World.setCells,Nat.zero_add,Nat.reduceAdd] at q0 q1 q2 q3
  simp [results,Tryz.results81,go_sem,q0,q1,q2,q3]
 have he:errOf true=0:=rfl
 rw [he]
 have HP2:Hid (P=TPost r b 0 w):=by show _=_;rw [←HP.out,if_pos ⟨HrT.out,hr⟩]
 have HfW:Hid (∀W,Below w.heap.size w W→Calls Tryz.prog f #[.agg #[.int .i64 t.kind,.int .i64 t.num,.string t.text,.slice a l c],.agg #[.int .i64 s.kind,.int .i64 s.num,.string s.text,.slice a2 l2 c2]] W (FnPost (fun _=>True) r W)):=Hf.out HrT.out hr
 have HrR:Hid (zab 16 r=true):=Hr.out HrT.out hr
 clear he hr HP Hf Hr HrT
 obtain⟨⟨x0,x1,x2,x3,_,_,_,_⟩,⟨u0,u1,u2,u3,_,_,_,_⟩,_,xf,_⟩:=HD4.out
 go_wp2_with (go_at_fn f;refine Calls.mono (HfW.out _ hb4) ?_;rintro e w4 ⟨v4,rfl,hl4,hb5⟩;fail)
 go_at_fn f
 refine Calls.mono (HfW.out _ hb4) ?_
 rintro e w4 ⟨v4,rfl,hl4,hb5⟩
 obtain⟨a4,c4,rfl,_⟩:=LiesX.slice hl4
 have HL4:Hid (Lies 16 w4 r.items (.slice a4 r.items.length c4)):=hl4.lies
 generalize r.items.length=l4 at *
 have hb6:Below w.heap.size w (w4.alloc (.cells #[.int .i64 r.kind,.int .i64 r.num,.string r.text,.slice a4 l4 c4] 27)):=(hb4.trans (hb5.mono hb4.size)).alloc (hb4.trans (hb5.mono hb4.size)).size _
 have HD6:Hid (Desk2 (w4.alloc (.cells #[.int .i64 r.kind,.int .i64 r.num,.string r.text,.slice a4 l4 c4] 27)) w.heap.size B f g t s (.slice a l c) (.slice a2 l2 c2)):=(HD4.out.keeps hb5).keeps ((Grew.refl _).alloc _).below
 have HV6:Hid (Bx (w4.alloc (.cells #[.int .i64 r.kind,.int .i64 r.num,.string r.text,.slice a4 l4 c4] 27)) w4.heap.size r (.slice a4 l4 c4)):=zaj w4 r _
 have HL6:Hid (Lies 16 (w4.alloc (.cells #[.int .i64 r.kind,.int .i64 r.num,.string r.text,.slice a4 l4 c4] 27)) r.items (.slice a4 l4 c4)):=Lies.keeps ((Grew.refl w4).alloc _).below _ _ _ HL4.out
 have hB2:B<w4.heap.size:=zae (zaa hb5 HD4.out.fn)
 clear hl4 hb5 HD4 hb4 x0 x1 x2 x3 u0 u1 u2 u3 xf HL4 HfW
 go_wp2_with fail
 generalize w4.alloc (.cells #[.int .i64 r.kind,.int .i64 r.num,.string r.text,.slice a4 l4 c4] 27)=W6 at *
 generalize w4.heap.size=B2 at *
 obtain⟨x0,x1,x2,x3,_,_,_,_⟩:=HV6.out
 have xg:=HD6.out.st
 have n1:B2≠w.heap.size+1+1:=by omega
 have n2:B≠w.heap.size+1+1:=by omega
 go_region_held3 (fun w'=>w'.cell? ⟨B2,0,none⟩=some (.int .i64 r.kind)∧w'.cell? ⟨B2,1,none⟩=some (.int .i64 r.num)∧w'.cell? ⟨B2,2,none⟩=some (.string r.text)∧w'.cell? ⟨B2,3,none⟩=some (.slice a4 l4 c4)∧w'.cell? ⟨B,1,none⟩=some (fv g)) (first|go_keep|exact⟨set4_keep n1 m0,set4_keep n1 m1,set4_keep n1 m2,set4_keep n1 m3,set4_keep n2 mg⟩)
  (first|(go_at_call 34;refine (copy_right r (.slice a4 l4 c4) _ (Lies.keeps (Below.refl W6.heap.size W6).drew _ _ _ HL6.out) HrR.out).mono ?_;rintro e w7 ⟨v7,rfl,hl7,hb⟩;have hb7:Below W6.heap.size W6 w7:=(Below.refl _ _).drew.trans hb;have hl7':LiesB W6.heap.size 16 w7 r.items v7:=hl7;clear hl7 hb;have k0:=zaa hb7 x0;have k1:=zaa hb7 x1;have k2:=zaa hb7 x2;have k3:=zaa hb7 x3;have kg:=zaa hb7 xg;clear x0 x1 x2 x3 xg;obtain⟨a7,c7,rfl,_⟩:=LiesB.slice hl7';have HL7:Hid (LiesB W6.heap.size 16 w7 r.items (.slice a7 r.items.length c7)):=hl7';clear hl7')
        | (go_at_fn g;refine Calls.mono (Hg.out (.slice a4 l4 c4) _ (Lies.keeps hb7 _ _ _ HL6.out)) ?_;rintro e w8 ⟨rfl,hb⟩;have hb8:Below W6.heap.size W6 w8:=hb7.trans (hb.mono hb7.size);have m0:=zaa hb k0;have m1:=zaa hb k1;have m2:=zaa hb k2;have m3:=zaa hb k3;have mg:=zaa hb kg;clear k0 k1 k2 k3 kg;have HL8:Hid (LiesB W6.heap.size 16 w8 r.items (.slice a7 r.items.length c7)):=LiesB.stays (fun a v _ hv=>⟨zaa hb hv,hb.frozen (zae hv)⟩) _ _ _ HL7.out;clear HL7 hb;have HR8:Hid (Bx w8 (w.heap.size+2) zeroT (.slice none 0 0)):=HD6.out.res.keeps hb8;obtain⟨y0,y1,y2,y3,z0,z1,z2,z3⟩:=HR8.out))
 have Hbx:Hid (Bx (w8.setCells (w.heap.size+2) 0 (encP (r,.slice a7 r.items.length c7))) (w.heap.size+2) r (.slice a7 r.items.length c7)):=HR8.out.put (r,.slice a7 r.items.length c7)
 have hbw:Below w.heap.size w w8:=hb6.trans (hb8.mono hb6.size)
 have Hbl:Hid (Below w.heap.size w (w8.setCells (w.heap.size+2) 0 (encP (r,.slice a7 r.items.length c7)))):=zag hbw (by omega) (r,.slice a7 r.items.length c7)
 have hsz6:w.heap.size+2<W6.heap.size:=zae HD6.out.res.c0
 have Hfin:Hid (LiesX (fun b=>w.heap.size≤b) 16 (w8.setCells (w.heap.size+2) 0 (encP (r,.slice a7 r.items.length c7))) r.items (.slice a7 r.items.length c7)):=((LiesX.of_b HL8.out).set (g:=w.heap.size+2) (by omega)).mono (fun b hb=>by omega)
 go_wp2_with fail
 refine bodyPost_ret (v:=.tuple #[.agg #[.int .i64 r.kind,.int .i64 r.num,.string r.text,.slice a7 r.items.length c7],.bool b,.int .i64 0]) ?_ rfl (by rw [HP2.out];exact⟨_,rfl,Hfin.out,Hbl.out⟩)
 obtain⟨q0,q1,q2,q3,_,_,_,_⟩:=Hbx.out
 simp only [encP,World.setCells,Nat.zero_add,Nat.reduceAdd] at q0 q1 q2 q3
 simp [results,Tryz.results81,go_sem,q0,q1,q2,q3]
end Go.Proofs.YtcflooaoocngdaaGreat
