import Derived.Test.YtcflooaoocngdaaGreatAppB
import Derived.RangeFuncNested
import Derived.RangeFuncBound
import Derived.Shelf.RegionOpen
import Derived.OwnWalkIn
import Derived.LoopNIn
import Derived.LoopIn
set_option maxRecDepth 100000
set_option maxHeartbeats 4000000
namespace Go.Proofs.YtcflooaoocngdaaGreat
open Go.RowKit Go.Shelf
attribute [local go_sem] Oper.semAt_some
def nCk (S len:Nat):Nat:=(len+S-1) / S
theorem nCk_lt {S len k:Nat} (hS:1≤S):k<nCk S len↔k*S<len:=by
 unfold nCk
 have h:=Nat.le_div_iff_mul_le (x:=k+1) (y:=len+S-1) (k:=S) (by omega)
 rw [Nat.succ_mul] at h
 omega
def CkS (S len:Nat):Type:={ x:Nat×Nat // x.1<len∧x.2=x.1+min S (len-x.1)∧x.1 % S=0 }
def ckAtS (S len j:Nat) (h:0<len):CkS S len:=if hj:j*S<len then ⟨(j*S,j*S+min S (len-j*S)),hj,rfl,Nat.mul_mod_left _ _⟩ else ⟨(0,0+min S (len-0)),h,rfl,Nat.zero_mod _⟩
theorem ckAtS_val (S len j:Nat) (h:0<len) (hj:j*S<len):(ckAtS S len j h).1=(j*S,j*S+min S (len-j*S)):=by
 have e:ckAtS S len j h=⟨(j*S,j*S+min S (len-j*S)),hj,rfl,Nat.mul_mod_left _ _⟩:=dif_pos hj
 rw [e]
def cksS (S len:Nat) (h:0<len) (k:Nat):List (CkS S len):=(List.range k).map fun j=>ckAtS S len j h
theorem cksS_succ (S len:Nat) (h:0<len) (k:Nat):cksS S len h (k+1)=cksS S len h k++[ckAtS S len k h]:=by simp [cksS,List.range_succ]
theorem cksS_len (S len:Nat) (h:0<len) (k:Nat):(cksS S len h k).length=k:=by simp [cksS]
def ChPostS (S len:Nat) (hlen:0<len) (J Jx:List (CkS S len)→World→Prop) (e:Ending) (W':World):Prop:=(∃v,e=.returned v)∧((∃ys,ys=cksS S len hlen (nCk S len)∧J ys W')∨(∃pre,True∧Jx pre W'))
theorem chunkS1_in (S:Nat) (hS:1≤S) (hS2:S≤65536) (n:Nat) (hn:1≤n) (l Bs Bn b off len cap:Nat) (hlen:0<len) (hcap:len≤cap) (hbig:len≤65536) (Kp:World→World→Prop) (hK:∀W W',Kp W W'→W'.cell? ⟨Bs,0,none⟩=W.cell? ⟨Bs,0,none⟩∧W'.cell? ⟨Bn,0,none⟩=W.cell? ⟨Bn,0,none⟩)
 (J Jx:List (CkS S len)→World→Prop) (hJd:∀s W q,J s W→J s (W.drewN q))
 (hY:∀pre (x:CkS S len) W,J pre W→pre.length<nCk S len→YieldAt Fence.wide (n-1) Tryz.prog l #[.slice (some ⟨b,off+x.1.1*4,none⟩) (x.1.2-x.1.1) (x.1.2-x.1.1)] W fun e W'=>
  (e=.returned (.bool true)∧J (pre++[x]) W'∧Kp W W')∨(e=.returned (.bool false)∧Jx (pre++[x]) W'))
 (W:World) (hBs:W.cell? ⟨Bs,0,none⟩=some (.slice (some ⟨b,off,none⟩) len cap)) (hBn:W.cell? ⟨Bn,0,none⟩=some (.int .i64 (S:Int))) (h0:J [] W) :
 CallsIn Fence.wide n Tryz.prog 29 #[.func (.yield l) #[] #[],.pointer (some ⟨Bs,0,none⟩),.pointer (some ⟨Bn,0,none⟩)] W (ChPostS S len hlen J Jx):=by
 refine callsIn_of_wp Tryz.func29 rfl trivial ?_ rfl
 simp only [Tryz.ntmps29,List.size_toArray,List.length_cons,List.length_nil,Nat.reduceAdd,Nat.reduceSub,Array.replicate_succ,Array.replicate_zero,List.push_toArray,List.append_toArray,List.nil_append,List.cons_append]
 gi_wp2
 gi_loopw [4] (fun i wr=>∃k:Nat,k≤nCk S len∧i=.int .i64 ((k*S:Nat):Int)∧J (cksS S len hlen k) wr∧wr.cell? ⟨Bs,0,none⟩=some (.slice (some ⟨b,off,none⟩) len cap)∧wr.cell? ⟨Bn,0,none⟩=some (.int .i64 (S:Int)))
  (fun i _=>len+S-(intOf i).toNat)
 case atStart=>exact⟨0,Nat.zero_le _,by simp,h0,hBs,hBn⟩
 case round=>
  obtain⟨k,hk,rfl,hJs,hcs,hcn⟩:=hrel
  obtain⟨I,hI⟩:∃I,I=k*S:=⟨_,rfl⟩
  rw [←hI]
  obtain⟨I2,hI2⟩:∃I2,I2=(k+1)*S:=⟨_,rfl⟩
  have hII2:I2=I+S:=by rw [hI2,hI,Nat.succ_mul]
  have hkn:=nCk_lt (S:=S) (len:=len) (k:=k) hS
  rw [←hI] at hkn
  by_cases hlt:I<len
  ·obtain⟨K,hKe⟩:∃K,K=I+min S (len-I):=⟨_,rfl⟩
   have hx:=ckAtS_val S len k hlen (by rw [←hI];exact hlt)
   rw [←hI,←hKe] at hx
   have HYx:Hid (∀q,YieldAt Fence.wide (n-1) Tryz.prog l #[.slice (some ⟨b,off+I*4,none⟩) (K-I) (K-I)] (wr.drewN q) fun e W'=>
    (e=.returned (.bool true)∧J (cksS S len hlen (k+1)) W'∧Kp (wr.drewN q) W')∨(e=.returned (.bool false)∧Jx (cksS S len hlen (k+1)) W')):=fun q=>by
    have hYx:=hY _ (ckAtS S len k hlen) (wr.drewN q) (hJd _ _ q hJs) (by rw [cksS_len];exact hkn.2 hlt)
    rw [←cksS_succ,hx] at hYx
    exact hYx
   have hIi:(I:Int)<(len:Nat):=by omega
   have hIi2:(I:Int)≤(len:Nat):=by omega
   have hIl:I≤len:=by omega
   have hIc:I≤cap:=by omega
   have hIci:(I:Int)≤(cap:Nat):=by omega
   have hlci:(len:Int)≤(cap:Nat):=by omega
   have hcI : ¬(cap=I):=by omega
   have hcIi : ¬((cap:Nat):Int)=(I:Nat):=by omega
   have hIK:I≤K:=by omega
   have hIKi:(I:Int)≤(K:Nat):=by omega
   have hKc:K≤cap:=by omega
   have hKci:(K:Int)≤(cap:Nat):=by omega
   have hKI : ¬(K=I):=by omega
   have hKIi : ¬((K:Nat):Int)=(I:Nat):=by omega
   have HI2:Hid (I2=(k+1)*S):=hI2
   have HK1:Hid (k+1≤nCk S len):=by show _≤_;exact hkn.2 hlt
   have HII:Hid (I2=I+S∧I<len):=⟨hII2,hlt⟩
   clear hkn
   have hw2:IntKind.i64.wrap ((I:Nat)+(S:Nat):Int)=(I2:Int):=by rw [IntKind.wrap_i64];omega
   by_cases h32:S≤len-I
   ·have h32i:(S:Int)≤((len-I:Nat):Int):=by omega
    have h32j : ¬(((len-I:Nat):Int)<(S:Int)):=by omega
    have e2:I2=K:=by omega
    subst e2
    clear hI2 hII2
    clear hY hKe hx hJs hI
    gi_wp2
    gi_quiet (fail)
    rename_i nq
    obtain⟨fn,tmps,assign,body,hy,hR⟩:=HYx.out nq
    gi_wp2
    refine hR.mono ?_
    rintro e W3 (⟨rfl,hJ3,hk3⟩|⟨rfl,hJx3⟩)
    ·have hc1:W3.cell? ⟨Bs,0,none⟩=some (.slice (some ⟨b,off,none⟩) len cap):=(hK _ _ hk3).1.trans hcs
     have hc2:W3.cell? ⟨Bn,0,none⟩=some (.int .i64 (S:Int)):=(hK _ _ hk3).2.trans hcn
     gi_wp2
     go_roundw
     case rel=>exact⟨k+1,HK1.out,by rw [←HI2.out,HII.out.1],hJ3,hc1,hc2⟩
     case measure=>have:=HII.out;simp [intOf];omega
    ·gi_wp2
     refine bodyPost_ret (results_none rfl _ _ _) rfl ?_
     exact⟨⟨_,rfl⟩,.inr ⟨_,trivial,hJx3⟩⟩
   ·have h32i:((len-I:Nat):Int)≤(S:Int):=by omega
    have h32j:((len-I:Nat):Int)<(S:Int):=by omega
    clear hI2
    have hwK:IntKind.i64.wrap ((I:Nat)+((len-I:Nat):Int):Int)=(K:Int):=by rw [IntKind.wrap_i64];omega
    clear hY hKe hx hJs hI
    gi_wp2
    gi_quiet (fail)
    rename_i nq
    obtain⟨fn,tmps,assign,body,hy,hR⟩:=HYx.out nq
    gi_wp2
    refine hR.mono ?_
    rintro e W3 (⟨rfl,hJ3,hk3⟩|⟨rfl,hJx3⟩)
    ·have hc1:W3.cell? ⟨Bs,0,none⟩=some (.slice (some ⟨b,off,none⟩) len cap):=(hK _ _ hk3).1.trans hcs
     have hc2:W3.cell? ⟨Bn,0,none⟩=some (.int .i64 (S:Int)):=(hK _ _ hk3).2.trans hcn
     gi_wp2
     go_roundw
     case rel=>exact⟨k+1,HK1.out,by rw [←HI2.out,HII.out.1];push_cast;rfl,hJ3,hc1,hc2⟩
     case measure=>have:=HII.out;simp [intOf];omega
    ·gi_wp2
     refine bodyPost_ret (results_none rfl _ _ _) rfl ?_
     exact⟨⟨_,rfl⟩,.inr ⟨_,trivial,hJx3⟩⟩
  ·have hIi : ¬(I:Int)<(len:Nat):=by omega
   have hke:k=nCk S len:=by
    have : ¬k<nCk S len:=fun h=>hlt (hkn.1 h)
    omega
   have HJs:Hid (J (cksS S len hlen (nCk S len)) wr):=by rw [←hke];exact hJs
   clear hJs hI hY hI2 hke hII2 hkn
   gi_wp2
   go_end0
   exact⟨⟨_,rfl⟩,.inl ⟨_,rfl,HJs.out⟩⟩
attribute [local go_sem] Oper.semAt_some
def KpC (n0 Bs Bn:Nat) (W W':World):Prop:=Below n0 W W'∧W'.cell? ⟨Bs,0,none⟩=W.cell? ⟨Bs,0,none⟩∧W'.cell? ⟨Bn,0,none⟩=W.cell? ⟨Bn,0,none⟩
theorem KpC.t {n0 Bs Bn:Nat} {A B C:World} (h:KpC n0 Bs Bn A B) (k:KpC n0 Bs Bn B C):KpC n0 Bs Bn A C:=⟨h.1.trans k.1,k.2.1.trans h.2.1,k.2.2.trans h.2.2⟩
theorem KpC.b {n0 Bs Bn:Nat} {w:World} (hn:n0≤w.heap.size) (hs:Bs<w.heap.size) (hb:Bn<w.heap.size) (W:World) (l:Nat) (o o':Obj) (hl:w.heap.size≤l) (h:W.heap[l]? = some o) (h1:o.isCells=false) (h2:o.isWalk=false):KpC n0 Bs Bn W (W.putObj l o'):=by
 have hg:=grownBy_putObj' W l o'
 have hlt:=(Array.getElem?_eq_some_iff.1 h).1
 exact⟨belowK_b hn W l o o' hl h h1 h2,World.cell?_of_block (hg.block Bs (by omega) (fun e=>by injection e;omega)),World.cell?_of_block (hg.block Bn (by omega) (fun e=>by injection e;omega))⟩
theorem chunkS_stops (S:Nat) (hS:1≤S) (hS2:S≤65536) (n:Nat) (hn:1≤n) (n0 Bs Bn b off len cap:Nat) (hlen:0<len) (hcap:len≤cap) (hbig:len≤65536) (w:World) (hs:Bs<w.heap.size) (hb:Bn<w.heap.size) (hBs:w.cell? ⟨Bs,0,none⟩=some (.slice (some ⟨b,off,none⟩) len cap)) (hBn:w.cell? ⟨Bn,0,none⟩=some (.int .i64 (S:Int))) :
 SeqStopsK Fence.wide n Tryz.prog 29 #[.pointer (some ⟨Bs,0,none⟩),.pointer (some ⟨Bn,0,none⟩)] (fun x:CkS S len=>#[.slice (some ⟨b,off+x.1.1*4,none⟩) (x.1.2-x.1.1) (x.1.2-x.1.1)]) (KpC n0 Bs Bn) (fun ys=>ys=cksS S len hlen (nCk S len)) (fun _=>True) (nCk S len) w:=fun l J Jx W hW hJ _ hY h0=>
 chunkS1_in S hS hS2 n hn l Bs Bn b off len cap hlen hcap hbig (KpC n0 Bs Bn) (fun _ _ h=>h.2) J Jx (fun s W q h=>hJ s W (W.drewN q) none h ⟨rfl,rfl,rfl,Nat.le_refl _,fun _ _ _=>rfl⟩ (fun r e=>by cases e)) hY W ((hW.cell (p:=⟨Bs,0,none⟩) hs).trans hBs) ((hW.cell (p:=⟨Bn,0,none⟩) hb).trans hBn) h0
theorem chunkF_in (S:Nat) (hS:1≤S) (n:Nat) (a:Option Addr) (len cap:Nat) (w:World) :
 CallsIn Fence.wide n Tryz.prog 12 #[.slice a len cap,.int .i64 (S:Int)] w fun e w'=>e=.returned (.func (.func 29) #[] #[.pointer (some ⟨w.heap.size,0,none⟩),.pointer (some ⟨w.heap.size+1,0,none⟩)])∧w'=(w.alloc (.cells #[.slice a len cap] 22)).alloc (.cells #[.int .i64 (S:Int)] 3):=by
 refine callsIn_of_wp Tryz.func12 rfl trivial ?_ rfl
 simp only [Tryz.ntmps12,List.size_toArray,List.length_cons,List.length_nil,Nat.reduceAdd,Nat.reduceSub,Array.replicate_succ,Array.replicate_zero,List.push_toArray,List.append_toArray,List.nil_append,List.cons_append]
 have hSi : ¬(S:Int)<1:=by omega
 gi_wp2
 go_ret
 exact⟨rfl,rfl⟩
theorem chunkS1_nil (n l Bs Bn:Nat) (a:Option Addr) (cap:Nat) (J Jx:List Unit→World→Prop) (W:World) (hBs:W.cell? ⟨Bs,0,none⟩=some (.slice a 0 cap)) (h0:J [] W) :
 CallsIn Fence.wide n Tryz.prog 29 #[.func (.yield l) #[] #[],.pointer (some ⟨Bs,0,none⟩),.pointer (some ⟨Bn,0,none⟩)] W fun e W'=>(∃v,e=.returned v)∧((∃ys,ys=[]∧J ys W')∨(∃pre,True∧Jx pre W')):=by
 refine callsIn_of_wp Tryz.func29 rfl trivial ?_ rfl
 simp only [Tryz.ntmps29,List.size_toArray,List.length_cons,List.length_nil,Nat.reduceAdd,Nat.reduceSub,Array.replicate_succ,Array.replicate_zero,List.push_toArray,List.append_toArray,List.nil_append,List.cons_append]
 gi_wp2
 refine wpIn_loop_once ?_
 gi_wp2
 go_end0
 exact⟨⟨_,rfl⟩,.inl ⟨_,rfl,h0⟩⟩
theorem chunkS_none (n:Nat) (n0 Bs Bn:Nat) (a:Option Addr) (cap:Nat) (w:World) (hs:Bs<w.heap.size) (hBs:w.cell? ⟨Bs,0,none⟩=some (.slice a 0 cap)) :
 SeqStopsK Fence.wide n Tryz.prog 29 #[.pointer (some ⟨Bs,0,none⟩),.pointer (some ⟨Bn,0,none⟩)] (fun _:Unit=>#[.slice a 0 0]) (KpC n0 Bs Bn) (fun ys=>ys=[]) (fun _=>True) 0 w:=fun l J Jx W hW _ _ _ h0=>
 chunkS1_nil n l Bs Bn a cap J Jx W ((hW.cell (p:=⟨Bs,0,none⟩) hs).trans hBs) h0
end Go.Proofs.YtcflooaoocngdaaGreat
