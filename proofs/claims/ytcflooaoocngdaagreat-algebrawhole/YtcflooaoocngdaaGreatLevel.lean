import Derived.PlainAid
import Derived.Test.YtcflooaoocngdaaGreatEq
namespace Go.Proofs.YtcflooaoocngdaaGreat
open Go.RowKit
def Dp:Nat→VT→Prop
 | 0,t=>t.items=[]
 | d+1,t=>∀x∈t.items,Dp d x
theorem Dp.of_lies:∀(d:Nat) (w:World) (t:VT) (u:Value),Lies d w t.items u→Dp d t:=by
 intro d
 induction d with
 | zero=>intro w t u h;exact h.1
 | succ d ih=>
  intro w t u h x hx
  obtain⟨a,c,_,_,hr⟩:=h
  obtain⟨b,o,_,hall⟩:=hr (fun e=>by rw [e] at hx;cases hx)
  obtain⟨i,hi,rfl⟩:=List.getElem_of_mem hx
  obtain⟨v,_,_,_,_,hl,_⟩:=hall i hi
  exact ih w _ v hl
theorem fw_neg (d:Nat) (t:VT) (lv n:Int) (h:lv<0):fw d t lv n=(false,n):=by
 cases d with
 | zero=>unfold fw;rw [if_pos (Or.inl h)]
 | succ d=>unfold fw;rw [if_pos (Or.inl h)]
theorem Dp.up:∀(d:Nat) (t:VT),Dp d t→Dp (d+1) t:=by
 intro d
 induction d with
 | zero=>intro t h x hx;rw [show t.items=[] from h] at hx;cases hx
 | succ d ih=>intro t h x hx;exact ih x (h x hx)
theorem Dp.mono {d e:Nat} {t:VT} (h:Dp d t) (hde:d≤e):Dp e t:=by
 induction e with
 | zero=>have:d=0:=by omega
         subst this;exact h
 | succ e ih=>
  by_cases hd:d=e+1
  ·subst hd;exact h
  ·exact Dp.up _ _ (ih (by omega))
theorem cmpL_congr {f g:VT→VT→Int}:∀(l m:List VT),(∀x∈l,∀y∈m,f x y=g x y)→cmpL f l m=cmpL g l m:=by
 intro l
 induction l with
 | nil=>intro m _;cases m <;> rfl
 | cons x l ih=>
  intro m h
  cases m with
  | nil=>rfl
  | cons y m=>
   have h0:=h x List.mem_cons_self y List.mem_cons_self
   have h1:=ih m (fun a ha b hb=>h a (List.mem_cons_of_mem _ ha) b (List.mem_cons_of_mem _ hb))
   unfold cmpL
   rw [h0,h1]
theorem cmpN_congr {f g:VT→VT→Int} (a b:VT) (h:∀x∈a.items,∀y∈b.items,f x y=g x y):cmpN f a b=cmpN g a b:=by
 unfold cmpN
 rw [cmpL_congr a.items b.items h]
theorem cmpV_up:∀(d:Nat) (a b:VT),Dp d a→Dp d b→cmpV (d+1) a b=cmpV d a b:=by
 intro d
 induction d with
 | zero=>
  intro a b ha _
  exact cmpN_congr a b (fun x hx=>by rw [show a.items=[] from ha] at hx;cases hx)
 | succ d ih=>intro a b ha hb;exact cmpN_congr a b (fun x hx y hy=>ih x y (ha x hx) (hb y hy))
theorem risF_congr {f g:VT→VT→Int} {s:Nat} {l:List VT} (h:∀x∈l,∀y∈l,f x y=g x y):∀b j,risF f s l b j=risF g s l b j:=by
 intro b
 induction b with
 | zero=>intro j;rfl
 | succ b ih=>
  intro j
  unfold risF
  cases hx:l[j]? with
  | none=>rfl
  | some x=>
   cases hy:l[j+s]? with
   | none=>rfl
   | some y=>
    simp only
    rw [h x (List.mem_of_getElem? hx) y (List.mem_of_getElem? hy),ih]
theorem okItems_congr {d e:Nat} {t:VT} (h:∀x∈t.items,∀y∈t.items,cmpV d x y=cmpV e x y):zan d t=zan e t:=by
 unfold zan
 rw [risF_congr h,risF_congr h]
theorem ownV_up (d:Nat) (t:VT) (h:Dp (d+1) t):ownV (d+1) t=ownV d t:=by
 unfold ownV
 rw [okItems_congr (d:=d+1) (e:=d) (fun x hx y hy=>cmpV_up d x y (h x hx) (h y hy))]
theorem all_congr {f g:VT→Bool}:∀(l:List VT),(∀x∈l,f x=g x)→l.all f=l.all g:=by
 intro l
 induction l with
 | nil=>intro _;rfl
 | cons x l ih=>intro h;rw [List.all_cons,List.all_cons,h x List.mem_cons_self,ih (fun y hy=>h y (List.mem_cons_of_mem _ hy))]
theorem rpV_up:∀(d:Nat) (t:VT),Dp d t→rpV (d+1) t=rpV d t:=by
 intro d
 induction d with
 | zero=>
  intro t h
  unfold rpV
  rw [show t.items=[] from h];rfl
 | succ d ih=>
  intro t h
  have e1:rpV (d+1+1) t=(t.items.all (rpV (d+1))&&ownV (d+1) t):=rfl
  have e2:rpV (d+1) t=(t.items.all (rpV d)&&ownV d t):=rfl
  rw [e1,e2,all_congr t.items (fun x hx=>ih x (h x hx)),ownV_up d t h]
theorem fwL_congr {f g:VT→Int→Bool×Int}:∀(l:List VT) (n:Int),(∀x∈l,∀m,f x m=g x m)→fwL f l n=fwL g l n:=by
 intro l
 induction l with
 | nil=>intro n _;rfl
 | cons x l ih=>
  intro n h
  unfold fwL
  rw [h x List.mem_cons_self,ih _ (fun y hy=>h y (List.mem_cons_of_mem _ hy))]
theorem fw_up:∀(d:Nat) (t:VT) (lv n:Int),Dp d t→fw (d+1) t lv n=fw d t lv n:=by
 intro d
 induction d with
 | zero=>
  intro t lv n h
  unfold fw
  rw [show t.items=[] from h];rfl
 | succ d ih=>
  intro t lv n h
  have e1:fw (d+1+1) t lv n=if lv<0∨n=0 then (false,n) else fwL (fun x m=>fw (d+1) x (lv-1) m) t.items (n-1):=rfl
  have e2:fw (d+1) t lv n=if lv<0∨n=0 then (false,n) else fwL (fun x m=>fw d x (lv-1) m) t.items (n-1):=rfl
  rw [e1,e2,fwL_congr (f:=fun x m=>fw (d+1) x (lv-1) m) (g:=fun x m=>fw d x (lv-1) m) t.items _ (fun x hx m=>ih x _ _ (h x hx))]
theorem rightV_up (d:Nat) (t:VT) (h:Dp d t):zab (d+1) t=zab d t:=by
 unfold zab
 rw [fw_up d t _ _ h,rpV_up d t h]
theorem rightV_eq {d e:Nat} (t:VT) (ht:Dp d t) (h:d≤e):zab e t=zab d t:=by
 induction e with
 | zero=>have:d=0:=by omega
         subst this;rfl
 | succ e ih=>
  by_cases hd:d=e+1
  ·subst hd;rfl
  ·rw [rightV_up e t (ht.mono (by omega)),ih (by omega)]
theorem rightV_any {d e:Nat} (t:VT) (h1:Dp d t) (h2:Dp e t):zab e t=zab d t:=by
 by_cases h:d≤e
 ·exact rightV_eq t h1 h
 ·exact (rightV_eq t h2 (by omega)).symm
theorem all2_self {f:VT→VT→Bool}:∀(l:List VT),(∀x∈l,f x x=true)→all2 f l l=true:=by
 intro l
 induction l with
 | nil=>intro _;rfl
 | cons x l ih=>intro h;unfold all2;rw [h x List.mem_cons_self,ih (fun y hy=>h y (List.mem_cons_of_mem _ hy))];rfl
theorem headS_self (a:VT):headS a a=true:=by simp [headS]
theorem sameV_self:∀(d:Nat) (a:VT),sameV d a a=true:=by
 intro d
 induction d with
 | zero=>intro a;exact headS_self a
 | succ d ih=>intro a;unfold sameV;rw [headS_self,all2_self a.items (fun x _=>ih x)];rfl
theorem fw_deep:∀(d:Nat) (t:VT) (lv:Nat) (n:Int),0≤n→(fw d t lv n).1=true→Dp d t→Dp lv t:=by
 intro d
 induction d with
 | zero=>intro t lv n _ _ h;exact Dp.mono (d:=0) h (Nat.zero_le _)
 | succ d ih=>
  intro t lv n hn hf h
  unfold fw at hf
  by_cases hx:(lv:Int)<0∨n=0
  ·rw [if_pos hx] at hf;cases hf
  ·rw [if_neg hx] at hf
   obtain⟨_,_,i3⟩:=fwL_len (f:=fun x m=>fw d x ((lv:Int)-1) m) (fun x m hm=>(fw_range d x _ m hm).1) (fun x m hm hb=>fw_less d x _ m hm hb) t.items (n-1) (by omega) hf
   cases lv with
   | zero=>
    show t.items=[]
    cases hi:t.items with
    | nil=>rfl
    | cons x l=>
     exfalso
     obtain⟨m,m1,_,m3⟩:=i3 x (by rw [hi];exact List.mem_cons_self)
     rw [fw_neg d x _ m (by simp)] at m3
     cases m3
   | succ lv=>
    intro x hx
    obtain⟨m,m1,_,m3⟩:=i3 x hx
    have e:((lv+1:Nat):Int)-1=(lv:Int):=by omega
    rw [e] at m3
    exact ih x lv m m1 m3 (h x hx)
theorem right_deep {d:Nat} {t:VT} (hr:zab d t=true) (h:Dp d t):Dp 16 t:=by
 unfold zab at hr
 rw [Bool.and_eq_true] at hr
 exact fw_deep d t 16 1024 (by omega) hr.1 h
theorem Lies.lower {w:World}:∀(e d:Nat) (l:List VT) (v:Value),Lies d w l v→(e=0→l=[])→(∀x∈l,Dp (e-1) x)→Lies e w l v:=by
 intro e
 induction e with
 | zero=>
  intro d l v h h0 _
  have hl:=h0 rfl
  subst hl
  obtain⟨a,c,hv,_⟩:=Lies.slice h
  exact⟨rfl,a,c,hv⟩
 | succ e ih=>
  intro d l v h _ hx
  cases d with
  | zero=>
   obtain⟨rfl,a,c,rfl⟩:=h
   exact⟨a,c,rfl,by simp,fun h=>absurd rfl h⟩
  | succ d=>
   obtain⟨a,c,hv,hb,hr⟩:=h
   refine⟨a,c,hv,hb,fun hne=>?_⟩
   obtain⟨b,o,ha,hall⟩:=hr hne
   refine⟨b,o,ha,fun i hi=>?_⟩
   obtain⟨u,h0,h1,h2,h3,h4,h5⟩:=hall i hi
   have hd:Dp e l[i]:=hx l[i] (List.getElem_mem hi)
   refine⟨u,h0,h1,h2,h3,ih d _ _ h4 (fun e0=>?_) (fun y hy=>?_),h5⟩
   ·subst e0;exact hd
   ·cases e with
    | zero=>rw [show l[i].items=[] from hd] at hy;cases hy
    | succ e=>exact hd y hy
theorem Lies.to {w:World} {e d:Nat} {t:VT} {v:Value} (h:Lies d w t.items v) (hd:Dp e t):Lies e w t.items v:=by
 refine Lies.lower e d t.items v h (fun e0=>?_) (fun x hx=>?_)
 ·subst e0;exact hd
 ·cases e with
  | zero=>rw [show t.items=[] from hd] at hx;cases hx
  | succ e=>exact hd x hx
theorem canon {w:World} {d:Nat} {t:VT} {v:Value} (h:Lies d w t.items v) (hr:zab d t=true):Lies 16 w t.items v∧zab 16 t=true:=by
 have hd:=Dp.of_lies d w t v h
 have h16:=right_deep hr hd
 exact⟨h.to h16,by rw [rightV_any t hd h16];exact hr⟩
end Go.Proofs.YtcflooaoocngdaaGreat
