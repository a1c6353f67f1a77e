import Derived.Test.YtcflooaoocngdaaGreatRotate
import Derived.Lib.AppendZerosOnto
import Derived.Laws.AppendOwnNone
set_option maxRecDepth 100000
set_option maxHeartbeats 4000000
namespace Go.Proofs.YtcflooaoocngdaaGreat
open Go.RowKit
theorem append_none_any {w:World} (base:Nat) (t ty e:TypeId) (i:TypeInfo) (size:Nat) (ht:Tryz.prog.underlying t=some (.slice e)) (hi:Tryz.prog.info? e=some i)
 (v:Value) (n:Nat) (xs:List Value) (hown:w.ownsRow base e size v n xs) (c:Nat) :
 (Builtin.append_ #[t,t] ty #[v,.slice none 0 c]).run Tryz.prog w=.ok v w:=by
 rcases hown.2 with ⟨rfl,rfl⟩|⟨g,cap,cur,rfl,_,_,hnc,_⟩
 ·simp [Builtin.append_,run_underlying ht,sizeOf,typeInfo,hi,Builtin.lenOf,Builtin.firstCells]
 ·simp [Builtin.append_,run_underlying ht,sizeOf,typeInfo,hi,Builtin.lenOf,Builtin.firstCells,hnc,storeCells]
theorem grow_nil (n:Nat) (h1:1≤n) (h2:n≤65537) (w:World):Calls Tryz.prog 126 #[.slice none 0 0,.int .i64 n] w fun e w'=>∃v,e=.returned v∧w'.ownsRow w.heap.size 27 4 v 0 []∧Below w.heap.size w w':=by
 obtain⟨i0,hi,hz0,hz1,hz2⟩:=info24
 have hge:=grownCap_ge w (0+n) 0 27
 have hle:=grownCap_le_maxLen w (0+n) 0 27 (by unfold maxLen;omega)
 obtain⟨K,cs,hK,hK3,hcs,hrz⟩:∃(K:Nat) (cs:Array Value),n≤K∧K≤maxLen∧cs.size=K*4∧∀ty,(Builtin.append_ #[22,3] ty #[.slice none 0 0,.int .i64 n]).run Tryz.prog w=.ok (.slice (some ⟨w.heap.size,0,none⟩) n K) (w.drew.alloc (.cells cs 27)):=by
  have hrz:=fun ty=>Lib.run_append_grow_zeros (P:=Tryz.prog) w 22 3 ty 27 i0 (.agg #[.int .i64 0,.int .i64 0,.string ⟨#[]⟩,.slice none 0 0]) .i64 .i64 Tryz.underlying22 Tryz.underlying3 hi hz0 none 0 0 [] (run_firstCells_none w.drew i0.size 0 0 0) n (by omega) (by omega) (by omega) (by omega) (by rw [hz2];omega) (growslice_fits (by omega) (by rw [hz2];omega))
  simp only [Nat.zero_add] at hrz hge hle
  refine⟨_,_,hge,hle,?_,hrz⟩
  have hzc:∀m,(Builtin.zeroCells (Value.agg #[.int .i64 0,.int .i64 0,.string ⟨#[]⟩,.slice none 0 0]).cells m).size=m*4:=fun m=>by
   rw [size_zeroCells];rfl
  simp only [Array.size_append,hzc]
  simp
  omega
 clear hge hle hi hz0 hz1 hz2
 have hx : ¬((n:Int)<0):=by omega
 have hx2:(0:Int)<(n:Int):=by omega
 have hK2:K≤9223372036854775807:=by unfold maxLen at hK3;omega
 have Hown:Hid ((w.drew.alloc (.cells cs 27)).ownsRow w.heap.size 27 4 (.slice (some ⟨w.heap.size,0,none⟩) 0 K) 0 []):=
  ⟨rfl,.inr ⟨w.heap.size,K,cs,rfl,Nat.le_refl _,heap_alloc_new w.drew _,Nat.zero_le _,hK3,hcs,rfl⟩⟩
 have Hb:Hid (Below w.heap.size w (w.drew.alloc (.cells cs 27))):=(Below.refl _ _).drew.alloc (by simp) _
 go_enter Tryz.func126,Tryz.ntmps126
 go_wp2_with (at_builtin;refine Lib.wpList_append_run _ rfl _ _ _ _ rfl _ _ rfl rfl _ _ (hrz _) ?_)
 go_ret
 exact⟨_,rfl,Hown.out,Hb.out⟩
theorem addr_add (b o j:Nat):(⟨b,o,none⟩:Addr).add j=⟨b,o+j,none⟩:=by
 unfold Addr.add
 by_cases hk:j=0
 ·subst hk;rfl
 ·rw [if_neg hk]
theorem own_below {w wr w2:World} {v:Value} {n:Nat} {xs:List Value} (hb:Below w.heap.size w wr) (hown:wr.ownsRow w.heap.size 27 4 v n xs) (hgrow:wr.grownBy w2 v.ownBlock):Below w.heap.size w w2:=
 hb.grown hgrow hb.size (by
  intro k hk
  rcases hown.2 with ⟨hv,_⟩|⟨g,cap',cur,hv,hbs,_⟩
  ·rw [hv] at hk;cases hk
  ·rw [hv] at hk
   simp only [Value.ownBlock,Option.some.injEq] at hk
   omega)
theorem concat_any (d:Nat) (ps:List (VT×Value)) (p:VT×Value) (a0:Option Addr) (c0 B B2:Nat) (w:World)
 (hA:w.cell? ⟨B,0,none⟩=some (.slice a0 ps.length c0)) (hB:w.cell? ⟨B,1,none⟩=some (.slice (some ⟨B2,0,none⟩) 1 1))
 (hrow:ps≠[]→∃b o,a0=some ⟨b,o,none⟩∧RowAt w b o ps) (hs:∀q∈ps,Sound d w q) (hrow2:RowAt w B2 0 [p]) (hs2:Sound d w p) (hlen:ps.length≤1024) :
 Calls Tryz.prog 123 #[.slice (some ⟨B,0,none⟩) 2 2] w fun e w'=>∃v,e=.returned v∧w'.ownsRow w.heap.size 27 4 v (ps++[p]).length ((ps++[p]).flatMap encP)∧Below w.heap.size w w':=by
 obtain⟨i0,hi,hz0,hz1,hz2⟩:=info24
 have Hi:Hid _:=hi;have Hz0:Hid _:=hz0;have Hz1:Hid _:=hz1;have Hz2:Hid _:=hz2
 clear hi hz0 hz1 hz2
 have HA:Hid (w.cell? ⟨B,0,none⟩=some (.slice a0 ps.length c0)):=hA
 have HB:Hid (w.cell? ⟨B,1,none⟩=some (.slice (some ⟨B2,0,none⟩) 1 1)):=hB
 have HR:Hid (ps≠[]→∃b o,a0=some ⟨b,o,none⟩∧RowAt w b o ps):=hrow
 have HR2:Hid (RowAt w B2 0 [p]):=hrow2
 have HS:Hid (∀q∈ps,Sound d w q):=hs
 have HS2:Hid (Sound d w p):=hs2
 have hBl:B<w.heap.size:=zae hA
 have hfl:Hid ((ps++[p]).flatMap encP=ps.flatMap encP++encP p):=by show _=_;rw [List.flatMap_append];simp
 have hll:Hid ((ps++[p]).length=ps.length+1):=by show _=_;simp
 have hx1 : ¬((ps.length:Int)<0):=by omega
 have hx2 : ¬((ps.length:Int)+1<0):=by omega
 clear hrow hs hrow2 hs2
 go_enter Tryz.func123,Tryz.ntmps123
 go_wp2_with fail
 go_loopg [3,11] 2 (fun g s i wr=>((i=.int .i64 0∧s=.int .i64 0∧g=2)∨(i=.int .i64 1∧s=.int .i64 ps.length∧g=1)∨(i=.int .i64 2∧s=.int .i64 ((ps.length:Int)+1)∧g=0))∧w=wr)
 case atStart=>exact⟨.inl ⟨rfl,rfl,rfl⟩,rfl⟩
 case round=>
  obtain⟨hrel,rfl⟩:=hrel
  rcases hrel with ⟨rfl,rfl,hk⟩|⟨rfl,rfl,hk⟩|⟨rfl,rfl,hk⟩
  ·have Hk:Hid _:=hk
   clear hk
   go_wp2_with fail
   go_roundg 1
   case measure=>have:=Hk.out;omega
   case rel=>exact⟨.inr (.inl ⟨rfl,rfl,rfl⟩),rfl⟩
  ·have Hk:Hid _:=hk
   clear hk
   go_wp2_with fail
   go_roundg 0
   case measure=>have:=Hk.out;omega
   case rel=>exact⟨.inr (.inr ⟨rfl,rfl,rfl⟩),rfl⟩
  ·clear hk hA hB
   go_wp2_with fail
   refine (grow_nil (ps.length+1) (by omega) (by omega) _).mono ?_
   rintro e w1 ⟨v,rfl,hown,hb1⟩
   have Hown:Hid (w1.ownsRow w.heap.size 27 4 v 0 []):=hown
   clear hown
   go_wp2_with fail
   go_loopg [6,27] 2 (fun g v i wq=>((i=.int .i64 0∧g=2∧Hid (wq.ownsRow w.heap.size 27 4 v 0 []))∨(i=.int .i64 1∧g=1∧Hid (wq.ownsRow w.heap.size 27 4 v ps.length (ps.flatMap encP)))∨(i=.int .i64 2∧g=0∧Hid (wq.ownsRow w.heap.size 27 4 v (ps++[p]).length ((ps++[p]).flatMap encP))))∧Below w.heap.size w wq)
   case atStart=>exact⟨.inl ⟨rfl,rfl,Hown⟩,hb1⟩
   case round=>
    obtain⟨hrel,hbq⟩:=hrel
    clear Hown hb1
    have hA:=zaa hbq HA.out
    have hB:=zaa hbq HB.out
    rcases hrel with ⟨rfl,hk,Hown⟩|⟨rfl,hk,Hown⟩|⟨rfl,hk,Hown⟩
    ·have Hk:Hid _:=hk
     clear hk hB
     cases a0 with
     | none=>
      have hnil:ps=[]:=by
       by_cases hne:ps=[]
       ·exact hne
       ·obtain⟨_,_,h,_⟩:=HR.out hne;cases h
      subst hnil
      go_wp2_with (at_builtin;refine Lib.wpList_append_run _ rfl _ _ _ _ rfl _ _ rfl rfl _ _ (append_none_any w.heap.size 22 _ 27 i0 4 Tryz.underlying22 Hi.out _ _ _ Hown.out c0) ?_)
      go_roundg 1
      case measure=>have:=Hk.out;omega
      case rel=>exact⟨.inr (.inl ⟨rfl,rfl,Hown⟩),hbq⟩
     | some ad=>
      go_wp2_with (first
       | (at_builtin;refine wpList_append_own _ rfl _ _ 22 rfl w.heap.size 27 i0 (.agg #[.int .i64 0,.int .i64 0,.string ⟨#[]⟩,.slice none 0 0]) 4 56 Tryz.underlying22 Hi.out Hz0.out Hz1.out Hz2.out rfl (by decide) _ _ _ rfl Hown.out ad ps.length c0 (ps.flatMap encP) rfl (flat_len ps) ?c1 ?c2 ?c3 ?c4 ?c5 ?_))
      case c1=>
       intro j u hj
       have hne:ps≠[]:=by
        intro e
        rw [e] at hj
        cases hj
       obtain⟨b,o,ha,hr⟩:=HR.out hne
       injection ha with ha
       rw [ha,addr_add]
       exact zaa hbq (RowAt.flat hr j u hj)
      case c2=>
       intro u hu
       obtain⟨q,hq,hup⟩:=List.mem_flatMap.1 hu
       exact encP_one (HS.out q hq) u hup
      case c3=>unfold maxLen;omega
      case c4=>omega
      case c5=>exact hbq.size
      intro v' w2 hown' hgrow _
      have hb2:Below w.heap.size w w2:=own_below hbq Hown.out hgrow
      have hown2:w2.ownsRow w.heap.size 27 4 v' ps.length (ps.flatMap encP):=hown'
      have Hown2:Hid (w2.ownsRow w.heap.size 27 4 v' ps.length (ps.flatMap encP)):=hown2
      clear hgrow hown' hown2 Hown
      go_wp2_with fail
      go_roundg 1
      case measure=>have:=Hk.out;omega
      case rel=>exact⟨.inr (.inl ⟨rfl,rfl,Hown2⟩),hb2⟩
    ·have Hk:Hid _:=hk
     clear hk hA
     go_wp2_with (first
      | (at_builtin;refine wpList_append_own _ rfl _ _ 22 rfl w.heap.size 27 i0 (.agg #[.int .i64 0,.int .i64 0,.string ⟨#[]⟩,.slice none 0 0]) 4 56 Tryz.underlying22 Hi.out Hz0.out Hz1.out Hz2.out rfl (by decide) _ _ _ rfl Hown.out ⟨B2,0,none⟩ 1 1 (encP p) rfl rfl ?c1 ?c2 ?c3 ?c4 ?c5 ?_))
     case c1=>
      intro j u hj
      rw [addr_add]
      exact zaa hbq (RowAt.flat HR2.out j u (by simpa using hj))
     case c2=>exact encP_one HS2.out
     case c3=>unfold maxLen;omega
     case c4=>omega
     case c5=>exact hbq.size
     intro v' w2 hown' hgrow _
     have hb2:Below w.heap.size w w2:=own_below hbq Hown.out hgrow
     have hown2:w2.ownsRow w.heap.size 27 4 v' (ps++[p]).length ((ps++[p]).flatMap encP):=by
      rw [hfl.out,hll.out];exact hown'
     have Hown2:Hid (w2.ownsRow w.heap.size 27 4 v' (ps++[p]).length ((ps++[p]).flatMap encP)):=hown2
     clear hgrow hown' hown2 Hown
     go_wp2_with fail
     go_roundg 0
     case measure=>have:=Hk.out;omega
     case rel=>exact⟨.inr (.inr ⟨rfl,rfl,Hown2⟩),hb2⟩
    ·clear hk hA hB
     go_wp2_with fail
     go_ret
     exact⟨_,rfl,Hown.out,hbq⟩
end Go.Proofs.YtcflooaoocngdaaGreat
