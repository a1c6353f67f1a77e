import Derived.Test.YtlnecfjnffdciacGreatLong
import Derived.Test.YtlnecfjnffdciacGreatRunesP
set_option maxRecDepth 100000
set_option maxHeartbeats 2000000
namespace Go.Proofs.YtlnecfjnffdciacGreat
open Go.RowKit
def IntsAt (k:IntKind) (w:World) (l:List Int) (v:Value):Prop:=
 ∃a c,v=.slice a l.length c∧l.length≤9223372036854775807∧l.length≤c∧(l≠[]→∃b o,a=some ⟨b,o,none⟩∧∀(i:Nat) (h:i<l.length),w.cell? ⟨b,o+i,none⟩=some (.int k (l[i]'h)))
theorem IntsAt.nil (k:IntKind) (w:World):IntsAt k w [] (.slice none 0 0):=⟨none,0,rfl,by simp,by simp,fun h=>absurd rfl h⟩
theorem fold_step {f:Int→Int→Int} {a:Int} (l:List Int) (j:Nat) (h:j<l.length):(l.take (j+1)).foldl f a=f ((l.take j).foldl f a) l[j]:=by
 rw [List.take_succ_eq_append_getElem h,List.foldl_append]
 rfl
def stepO (m x:Int):Int:=(31*m % 4294967296+x) % 4294967296
def stepU (m x:Int):Int:=(m+x) % 4294967296
def stepJ (m x:Int):Int:=wrap32 (wrap32 (31*m)+wrap32 x)
def ordZ (l:List Int):Int:=collZ (l.foldl stepO 1) l.length
def unoZ (l:List Int):Int:=collZ (l.foldl stepU 0) l.length
def javaZ (l:List Int):Int:=l.foldl stepJ 0
theorem ordered_any (l:List Int) (v:Value) (w:World) (hl:IntsAt .u32 w l v):Calls Tryz.prog 81 #[v] w fun e w'=>e=.returned (.int .u32 (ordZ l))∧Drawn w w':=by
 obtain⟨a,c,rfl,hlen,_,hr⟩:=hl
 have HR:Hid (l≠[]→∃b o,a=some ⟨b,o,none⟩∧∀(i:Nat) (h:i<l.length),w.cell? ⟨b,o+i,none⟩=some (.int .u32 (l[i]'h))):=hr
 clear hr
 go_enter Tryz.func81,Tryz.ntmps81
 go_wp2_with fail
 go_loopg [3,8] l.length (fun k m i wr=>∃j:Nat,i=.int .i64 j∧j≤l.length∧k=l.length-j∧m=.int .u32 ((l.take j).foldl stepO 1)∧Drawn w wr)
 case atStart=>exact⟨0,rfl,by omega,by omega,rfl,Drawn.refl _⟩
 case round=>
  obtain⟨j,rfl,hj,hk,rfl,hd⟩:=hrel
  have Hk:Hid _:=hk
  clear hk
  by_cases hlt:j<l.length
  ·obtain⟨b,o,rfl,hcs⟩:=HR.out (fun e=>by subst e;cases hlt)
   have hc:=hcs j hlt
   have Hs:Hid _:=fold_step (f:=stepO) (a:=1) l j hlt
   generalize hm:(l.take j).foldl stepO 1=m at Hs ⊢
   generalize hx:l[j]=x at Hs hc
   clear hcs hm hx
   obtain⟨n,rfl⟩:=hd
   go_wp2_with fail
   go_roundg (l.length-(j+1))
   case measure=>have:=Hk.out;omega
   case rel=>exact⟨j+1,by go_num,by omega,rfl,by rw [Hs.out];rfl,Drawn.n _ _⟩
  ·have hje:j=l.length:=by omega
   have Hj:Hid _:=hje
   clear hje
   have hfull:Hid ((l.take j).foldl stepO 1=l.foldl stepO 1):=by
    show _=_
    rw [Hj.out,List.take_length]
   go_wp2_with fail
   rw [hfull.out]
   refine (coll_any _ _ _).mono ?_
   rintro e w1 ⟨rfl,h1⟩
   go_wp2_with fail
   go_ret
   exact⟨rfl,hd.trans h1⟩
theorem unordered_any (l:List Int) (v:Value) (w:World) (hl:IntsAt .u32 w l v):Calls Tryz.prog 83 #[v] w fun e w'=>e=.returned (.int .u32 (unoZ l))∧Drawn w w':=by
 obtain⟨a,c,rfl,hlen,_,hr⟩:=hl
 have HR:Hid (l≠[]→∃b o,a=some ⟨b,o,none⟩∧∀(i:Nat) (h:i<l.length),w.cell? ⟨b,o+i,none⟩=some (.int .u32 (l[i]'h))):=hr
 clear hr
 go_enter Tryz.func83,Tryz.ntmps83
 go_wp2_with fail
 go_loopg [3,8] l.length (fun k m i wr=>∃j:Nat,i=.int .i64 j∧j≤l.length∧k=l.length-j∧m=.int .u32 ((l.take j).foldl stepU 0)∧Drawn w wr)
 case atStart=>exact⟨0,rfl,by omega,by omega,rfl,Drawn.refl _⟩
 case round=>
  obtain⟨j,rfl,hj,hk,rfl,hd⟩:=hrel
  have Hk:Hid _:=hk
  clear hk
  by_cases hlt:j<l.length
  ·obtain⟨b,o,rfl,hcs⟩:=HR.out (fun e=>by subst e;cases hlt)
   have hc:=hcs j hlt
   have Hs:Hid _:=fold_step (f:=stepU) (a:=0) l j hlt
   generalize hm:(l.take j).foldl stepU 0=m at Hs ⊢
   generalize hx:l[j]=x at Hs hc
   clear hcs hm hx
   obtain⟨n,rfl⟩:=hd
   go_wp2_with fail
   go_roundg (l.length-(j+1))
   case measure=>have:=Hk.out;omega
   case rel=>exact⟨j+1,by go_num,by omega,rfl,by rw [Hs.out];rfl,Drawn.n _ _⟩
  ·have hje:j=l.length:=by omega
   have Hj:Hid _:=hje
   clear hje
   have hfull:Hid ((l.take j).foldl stepU 0=l.foldl stepU 0):=by
    show _=_
    rw [Hj.out,List.take_length]
   go_wp2_with fail
   rw [hfull.out]
   refine (coll_any _ _ _).mono ?_
   rintro e w1 ⟨rfl,h1⟩
   go_wp2_with fail
   go_ret
   exact⟨rfl,hd.trans h1⟩
theorem java_any (l:List Int) (v:Value) (w:World) (hl:IntsAt .u16 w l v):Calls Tryz.prog 79 #[v] w fun e w'=>e=.returned (.int .i32 (javaZ l))∧Drawn w w':=by
 obtain⟨a,c,rfl,hlen,_,hr⟩:=hl
 have HR:Hid (l≠[]→∃b o,a=some ⟨b,o,none⟩∧∀(i:Nat) (h:i<l.length),w.cell? ⟨b,o+i,none⟩=some (.int .u16 (l[i]'h))):=hr
 clear hr
 go_enter Tryz.func79,Tryz.ntmps79
 go_wp2_with fail
 go_loopg [3,8] l.length (fun k m i wr=>∃j:Nat,i=.int .i64 j∧j≤l.length∧k=l.length-j∧m=.int .i32 ((l.take j).foldl stepJ 0)∧Drawn w wr)
 case atStart=>exact⟨0,rfl,by omega,by omega,rfl,Drawn.refl _⟩
 case round=>
  obtain⟨j,rfl,hj,hk,rfl,hd⟩:=hrel
  have Hk:Hid _:=hk
  clear hk
  by_cases hlt:j<l.length
  ·obtain⟨b,o,rfl,hcs⟩:=HR.out (fun e=>by subst e;cases hlt)
   have hc:=hcs j hlt
   have Hs:Hid _:=fold_step (f:=stepJ) (a:=0) l j hlt
   generalize hm:(l.take j).foldl stepJ 0=m at Hs ⊢
   generalize hx:l[j]=x at Hs hc
   clear hcs hm hx
   obtain⟨n,rfl⟩:=hd
   go_wp2_with fail
   go_roundg (l.length-(j+1))
   case measure=>have:=Hk.out;omega
   case rel=>exact⟨j+1,by go_num,by omega,rfl,by rw [Hs.out];rfl,Drawn.n _ _⟩
  ·have hje:j=l.length:=by omega
   have Hj:Hid _:=hje
   clear hje
   have hfull:Hid ((l.take j).foldl stepJ 0=l.foldl stepJ 0):=by
    show _=_
    rw [Hj.out,List.take_length]
   go_wp2_with fail
   rw [hfull.out]
   go_ret
   exact⟨rfl,hd⟩
def uHi (r:Int):Int:=IntKind.u16.wrap (bits .or .i32 55296 ((r-65536) / 1024))
def uLo (r:Int):Int:=IntKind.u16.wrap (bits .or .i32 56320 (bits .and .i32 (r-65536) 1023))
def uOne (r:Int):Int:=r
def unR (r:Int):List Int:=if 65535<r then [uHi r,uLo r] else [uOne r]
def unS (s:ByteArray):Nat→Nat→List Int
 | 0,_=>[]
 | b+1,pos=>if pos<s.size then unR (Utf8.decode s pos).1++unS s b (pos+(Utf8.decode s pos).2) else []
def unL (s:ByteArray):List Int:=unS s s.size 0
theorem unS_end (s:ByteArray) (b pos:Nat) (h : ¬pos<s.size):unS s b pos=[]:=by
 cases b with
 | zero=>rfl
 | succ b=>simp [unS,h]
theorem infoH:∃i0,Tryz.prog.info? 199=some i0∧i0.zero=some (.int .u16 0)∧i0.size=1∧i0.bytes=2:=by
 refine⟨_,rfl,?_,?_,?_⟩
 all_goals kernel_rfl
theorem own_ints {w:World} {base:Nat} {v:Value} {l:List Int} {k:IntKind} {e:TypeId} (h:w.ownsRow base e 1 v l.length (l.map (Value.int k))):IntsAt k w l v:=by
 rcases h.2 with ⟨hv,h0⟩|⟨g,cap,cur,hv,hbs,hg,hcap,hmx,hsz,htk⟩
 ·obtain rfl:=List.eq_nil_of_length_eq_zero h0
  rw [hv]
  exact IntsAt.nil _ _
 ·refine⟨some ⟨g,0,none⟩,cap,hv,by unfold maxLen at hmx;omega,hcap,fun _=>⟨g,0,rfl,fun i hi=>?_⟩⟩
  have hj:(l.map (Value.int k))[i]? = some (.int k l[i]):=by simp [hi]
  rw [←htk] at hj
  unfold World.cell?
  rw [hg]
  rw [List.getElem?_take] at hj
  split at hj
  ·simpa using hj
  ·cases hj
theorem own_iter {w:World} {base:Nat} {e:TypeId} {v:Value} {n:Nat} {xs:List Value} {K pos:Nat} {s:ByteArray} (h:w.ownsRow base e 1 v n xs) (hK:K<base):(w.iterAt K s pos).ownsRow base e 1 v n xs:=by
 refine⟨h.1,?_⟩
 rcases h.2 with hn|⟨g,cap,cur,hv,hbs,hg,rest⟩
 ·exact .inl hn
 ·exact .inr ⟨g,cap,cur,hv,hbs,by rw [Lib.iterAt_other _ _ _ _ _ (by omega)];exact hg,rest⟩
structure UnAt (w wr:World) (s:ByteArray) (pos:Nat) (v:Value) (xs:List Int):Prop where
 it:wr.heap[w.heap.size]? = some (.stringIter s pos)
 own:wr.ownsRow (w.heap.size+1) 199 1 v xs.length (xs.map (Value.int .u16))
 below:Below w.heap.size w wr
 lt:w.heap.size+1≤wr.heap.size
theorem UnAt.moved {w wr:World} {s:ByteArray} {pos:Nat} {v:Value} {xs:List Int} (h:UnAt w wr s pos v xs) (pos':Nat):UnAt w (wr.iterAt w.heap.size s pos') s pos' v xs:=
 ⟨Lib.iterAt_heap _ _ _ _ _ h.it,own_iter h.own (by omega),Lib.below_iterAt h.below (Nat.le_refl _) _ _,by rw [Lib.iterAt_size];exact h.lt⟩
theorem UnAt.laid {w wr:World} {s:ByteArray} {pos:Nat} {v:Value} {xs:List Int} (h:UnAt w wr s pos v xs) (o:Obj):UnAt w (wr.alloc o) s pos v xs:=
 ⟨by rw [Below.heap_alloc _ _ _ (by have:=h.lt;omega)];exact h.it,h.own.alloc o,h.below.alloc h.below.size o,by have:=h.lt;simp;omega⟩
theorem UnAt.grown {w wr w2:World} {s:ByteArray} {pos:Nat} {v v':Value} {xs ys:List Int} (h:UnAt w wr s pos v xs) (hown:w2.ownsRow (w.heap.size+1) 199 1 v' ys.length (ys.map (Value.int .u16))) (hg:wr.grownBy w2 v.ownBlock):UnAt w w2 s pos v' ys:=by
 have hob:∀k,v.ownBlock=some k→w.heap.size+1≤k:=fun k hk=>(h.own.lt k hk).1
 refine⟨?_,hown,h.below.grown hg h.below.size (fun k hk=>by have:=hob k hk;omega),Nat.le_trans h.lt hg.size⟩
 rw [hg.block _ (by have:=h.lt;omega) (fun e=>by have:=hob _ e.symm;omega)]
 exact h.it
theorem units_any (s:ByteArray) (w:World) (hs:s.size≤256):Calls Tryz.prog 80 #[.string s] w fun e w'=>∃v,e=.returned v∧IntsAt .u16 w' (unL s) v∧Below w.heap.size w w':=by
 obtain⟨i0,hi0,hz0,hz1,hz2⟩:=infoH
 have Hi:Hid _:=hi0;have Hz0:Hid _:=hz0;have Hz1:Hid _:=hz1;have Hz2:Hid _:=hz2
 clear hi0 hz0 hz1 hz2
 go_enter Tryz.func80,Tryz.ntmps80
 go_wp2_with fail
 go_loopg [3] s.size (fun k v wr=>∃(pos b:Nat) (xs:List Int),UnAt w wr s pos v xs∧k=s.size-pos∧Hid (xs++unS s b pos=unL s)∧s.size≤pos+b∧xs.length≤2*pos)
 case atStart=>exact⟨0,s.size,[],⟨World.iter_heap _ _ _,World.ownsRow_nil _ _ _ _,(Below.refl _ _).alloc (Nat.le_refl _) _,by simp [World.iter]⟩,rfl,rfl,by omega,by simp⟩
 case round=>
  obtain⟨pos,b,xs,hat,hk,Hc,hb,hx⟩:=hrel
  have Hk:Hid _:=hk
  clear hk
  have HA:Hid (UnAt w wr s pos _ xs):=hat
  by_cases hp:pos<s.size
  ·have hnx:∀ty,(Instr.next (.pointer (some ⟨w.heap.size,0,none⟩)) true ty).run Tryz.prog wr=_:=fun ty=>Lib.run_next_any_at wr _ s pos ty hat.it hp
   have hwd:=width_pos s pos hp
   obtain⟨b,rfl⟩:∃c,b=c+1:=⟨b-1,by omega⟩
   have He:Hid (unS s (b+1) pos=unR (Utf8.decode s pos).1++unS s b (pos+(Utf8.decode s pos).2)):=by
    show _=_
    simp only [unS,hp,if_true]
   have hle:=decode_le s pos
   have hstep:∃w1,(∀ty,(Instr.next (.pointer (some ⟨w.heap.size,0,none⟩)) true ty).run Tryz.prog wr=.ok (.tuple #[.bool true,.int .i64 pos,.int .i32 (Utf8.decode s pos).1]) w1)∧UnAt w w1 s (pos+(Utf8.decode s pos).2) u3 xs:=⟨_,hnx,HA.out.moved _⟩
   obtain⟨w1,hnx1,hA1⟩:=hstep
   clear hnx hat HA
   generalize (Utf8.decode s pos).1=r at hnx1 He hle
   generalize (Utf8.decode s pos).2=wd at hA1 He hwd
   have HA2:Hid (UnAt w w1 s (pos+wd) u3 xs):=hA1
   clear hA1
   by_cases hr:65535<r
   ·have hr':(65535:Int)<(r:Int):=by omega
    have Hu:Hid (unR (r:Int)=[uHi r,uLo r]):=by show _=_;unfold unR;rw [if_pos hr']
    go_wp2_with (first
     | (at_builtin;refine wpList_append_own _ rfl _ _ 146 rfl (w.heap.size+1) 199 i0 (.int .u16 0) 1 2 Tryz.underlying146 Hi.out Hz0.out Hz1.out Hz2.out rfl (by decide) _ _ _ rfl (HA2.out.laid _).own ⟨w1.heap.size,0,none⟩ 1 1 [.int .u16 (uHi r)] rfl rfl ?c1 ?c2 ?c3 ?c4 ?c5 ?_))
    case c1=>
     intro q u hq
     match q,hq with
     | 0,hq=>simp at hq;subst hq;simp [Addr.add,uHi]
     | q+1,hq=>simp at hq
    case c2=>intro u hu;simp at hu;subst hu;rfl
    case c3=>unfold maxLen;omega
    case c4=>omega
    case c5=>have:=HA2.out.lt;simp;omega
    intro v2 w2 hown hgrow _
    have hown2:w2.ownsRow (w.heap.size+1) 199 1 v2 (xs++[uHi r]).length ((xs++[uHi r]).map (Value.int .u16)):=by simpa using hown
    have HA3:Hid (UnAt w w2 s (pos+wd) v2 (xs++[uHi r])):=(HA2.out.laid _).grown hown2 hgrow
    clear hown hown2 hgrow HA2
    have hx2:(xs++[uHi r]).length≤2*pos+1:=by simp;omega
    generalize hys:xs++[uHi r]=ys at HA3 hx2
    have Hys:Hid _:=hys
    clear hys
    go_wp2_with (first
     | (at_builtin;refine wpList_append_own _ rfl _ _ 146 rfl (w.heap.size+1) 199 i0 (.int .u16 0) 1 2 Tryz.underlying146 Hi.out Hz0.out Hz1.out Hz2.out rfl (by decide) _ _ _ rfl (HA3.out.laid _).own ⟨w2.heap.size,0,none⟩ 1 1 [.int .u16 (uLo r)] rfl rfl ?c1 ?c2 ?c3 ?c4 ?c5 ?_))
    case c1=>
     intro q u hq
     match q,hq with
     | 0,hq=>simp at hq;subst hq;simp [Addr.add,uLo]
     | q+1,hq=>simp at hq
    case c2=>intro u hu;simp at hu;subst hu;rfl
    case c3=>unfold maxLen;omega
    case c4=>omega
    case c5=>have:=HA3.out.lt;simp;omega
    intro v3 w3 hown hgrow _
    have hown2:w3.ownsRow (w.heap.size+1) 199 1 v3 (ys++[uLo r]).length ((ys++[uLo r]).map (Value.int .u16)):=by simpa using hown
    have HA4:Hid (UnAt w w3 s (pos+wd) v3 (ys++[uLo r])):=(HA3.out.laid _).grown hown2 hgrow
    clear hown hown2 hgrow HA3
    go_wp2_with fail
    go_roundg (s.size-(pos+wd))
    case measure=>have:=Hk.out;omega
    case rel=>
     refine⟨pos+wd,b,ys++[uLo r],HA4.out,rfl,?_,by omega,by simp;omega⟩
     show _=_
     rw [←Hc.out,He.out,Hu.out,←Hys.out]
     simp
   ·have hr' : ¬((65535:Int)<(r:Int)):=by omega
    have Hu:Hid (unR (r:Int)=[uOne r]):=by show _=_;unfold unR;rw [if_neg hr']
    go_wp2_with (first
     | (at_builtin;refine wpList_append_own _ rfl _ _ 146 rfl (w.heap.size+1) 199 i0 (.int .u16 0) 1 2 Tryz.underlying146 Hi.out Hz0.out Hz1.out Hz2.out rfl (by decide) _ _ _ rfl (HA2.out.laid _).own ⟨w1.heap.size,0,none⟩ 1 1 [.int .u16 (uOne r)] rfl rfl ?c1 ?c2 ?c3 ?c4 ?c5 ?_))
    case c1=>
     intro q u hq
     match q,hq with
     | 0,hq=>simp at hq;subst hq;simp [uOne]
     | q+1,hq=>simp at hq
    case c2=>first|(intro u hu;simp at hu;subst hu;rfl)|rfl
    case c3=>unfold maxLen;omega
    case c4=>omega
    case c5=>have:=HA2.out.lt;simp;omega
    intro v2 w2 hown hgrow _
    have hown2:w2.ownsRow (w.heap.size+1) 199 1 v2 (xs++[uOne r]).length ((xs++[uOne r]).map (Value.int .u16)):=by simpa using hown
    have HA4:Hid (UnAt w w2 s (pos+wd) v2 (xs++[uOne r])):=(HA2.out.laid _).grown hown2 hgrow
    clear hown hown2 hgrow HA2
    go_wp2_with fail
    go_roundg (s.size-(pos+wd))
    case measure=>have:=Hk.out;omega
    case rel=>
     refine⟨pos+wd,b,xs++[uOne r],HA4.out,rfl,?_,by omega,by simp;omega⟩
     show _=_
     rw [←Hc.out,He.out,Hu.out]
     simp
  ·have hnx:∀ty,(Instr.next (.pointer (some ⟨w.heap.size,0,none⟩)) true ty).run Tryz.prog wr=_:=fun ty=>Lib.run_next_end_at wr _ s pos ty hat.it hp
   clear hat
   go_wp2_with fail
   go_ret
   refine⟨_,rfl,?_,HA.out.below⟩
   have h1:=Hc.out
   rw [unS_end s b pos hp,List.append_nil] at h1
   rw [←h1]
   exact own_ints HA.out.own
end Go.Proofs.YtlnecfjnffdciacGreat
