import Derived.Test.YtlnecfjnffdciabGreatRUnits2
import Derived.Test.YtlnecfjnffdciabGreatGroup
namespace Go.Proofs.YtlnecfjnffdciabGreat
open Go.RowKit
theorem own_below {w w':World} {base:Nat} {e:TypeId} {size:Nat} {v:Value} {n:Nat} {xs:List Value} (h:w.ownsRow base e size v n xs) (hb:Below w.heap.size w w'):w'.ownsRow base e size v n xs:=by
 refine⟨h.1,?_⟩
 rcases h.2 with hn|⟨g,cap,cur,hv,hbs,hg,rest⟩
 ·exact .inl hn
 ·refine .inr ⟨g,cap,cur,hv,hbs,?_,rest⟩
  have hlt:g<w.heap.size:=by
   by_cases hl:g<w.heap.size
   ·exact hl
   ·rw [Array.getElem?_eq_none (by omega)] at hg;cases hg
  rw [hb.block g hlt];exact hg
set_option maxHeartbeats 2000000 in
theorem each_core (d:Nat) (f:VT→Int) (l:List VT) (u:Value) (w:World) (hu:Lies (d+1) w l u) (hlen:l.length≤1024)
 (hf:Hid (∀(x:VT) (v:Value) (W:World),x∈l→Lies d W x.items v→
  Calls Tryz.prog 209 #[.agg #[.int .i64 x.kind,.int .i64 x.num,.string x.text,v]] W fun e W'=>e=.returned (.int .u32 (f x))∧Below W.heap.size W W')) :
 Calls Tryz.prog 263 #[u] w fun e w'=>∃v,e=.returned v∧IntsAt .u32 w' (l.map f) v∧Below w.heap.size w w':=by
 obtain⟨i0,hi0,hz0,hz1,hz2⟩:=infoU
 have Hi:Hid _:=hi0;have Hz0:Hid _:=hz0;have Hz1:Hid _:=hz1;have Hz2:Hid _:=hz2
 clear hi0 hz0 hz1 hz2
 obtain⟨a,c,rfl,hb1,hr1⟩:=hu
 have Hr:Hid _:=hr1
 clear hr1
 go_enter Tryz.func263,Tryz.ntmps263
 go_wp2_with fail
 go_loopg [3,4] l.length (fun q v i wr=>∃(j:Nat),i=.int .i64 (j:Int)∧j≤l.length∧q=l.length-j∧Hid (wr.ownsRow w.heap.size 85 1 v ((l.take j).map f).length (((l.take j).map f).map (Value.int .u32)))∧Below w.heap.size w wr)
 case atStart=>exact⟨0,rfl,by omega,by omega,World.ownsRow_nil _ _ _ _,Below.refl _ _⟩
 case round=>
  obtain⟨j,rfl,hj,hk,Hown,hbw⟩:=hrel
  have Hk:Hid _:=hk
  clear hk
  by_cases hlt:j<l.length
  ·obtain⟨b1,o1,rfl,hall⟩:=Hr.out (by intro e;simp [e] at hlt)
   obtain⟨x,p0,p1,p2,p3,p4,p5⟩:=hall j hlt
   obtain⟨ax,cx,rfl,_⟩:=Lies.slice p4
   have p0:=zaa hbw p0;have p1:=zaa hbw p1;have p2:=zaa hbw p2;have p3:=zaa hbw p3
   have p4:Hid (Lies d w l[j].items (.slice ax l[j].items.length cx)):=p4
   have hlj:((l.take j).map f).length=j:=by simp;omega
   have Hst:Hid ((l.take (j+1)).map f=(l.take j).map f++[f l[j]]):=by
    show _=_
    rw [List.take_succ_eq_append_getElem hlt,List.map_append];rfl
   clear hall
   generalize hys:(l.take j).map f=ys at *
   clear hys
   go_wp2_with fail
   have hfc:=hf.out l[j] (.slice ax l[j].items.length cx)
   refine (hfc _ (List.getElem_mem hlt) (Lies.keeps hbw _ _ _ p4.out)).mono ?_
   rintro e w1 ⟨rfl,hg⟩
   have hb2:Below w.heap.size w w1:=hbw.trans (hg.mono hbw.size)
   have Hown1:Hid (w1.ownsRow w.heap.size 85 1 u3 ys.length (ys.map (Value.int .u32))):=own_below Hown.out hg
   clear hg hfc p0 p1 p2 p3 p4 hf Hown hbw
   generalize f l[j]=z at *
   go_wp2_with (first
    | (at_builtin;refine wpList_append_own _ rfl _ _ 242 rfl w.heap.size 85 i0 (.int .u32 0) 1 4 Tryz.underlying242 Hi.out Hz0.out Hz1.out Hz2.out rfl (by decide) _ _ _ rfl (Hown1.out.alloc _) ⟨w1.heap.size,0,none⟩ 1 1 [.int .u32 z] rfl rfl ?c1 ?c2 ?c3 ?c4 ?c5 ?_))
   case c1=>
    intro q u hq
    match q,hq with
    | 0,hq=>simp at hq;subst hq;simp [Addr.add]
    | q+1,hq=>simp at hq
   case c2=>first|(intro u hu;simp at hu;subst hu;rfl)|rfl
   case c3=>unfold maxLen;omega
   case c4=>omega
   case c5=>have:=hb2.size;simp;omega
   intro v2 w2 hown hgrow _
   have hown2:w2.ownsRow w.heap.size 85 1 v2 (ys++[z]).length ((ys++[z]).map (Value.int .u32)):=by simpa [hlj] using hown
   have hob:∀k,(u3).ownBlock=some k→w.heap.size≤k:=fun k hk=>(Hown1.out.lt k hk).1
   have hb3:Below w.heap.size w w2:=(hb2.alloc hb2.size _).grown hgrow (by have:=hb2.size;simp;omega) hob
   have Hown2:Hid (w2.ownsRow w.heap.size 85 1 v2 (ys++[z]).length ((ys++[z]).map (Value.int .u32))):=hown2
   clear hown hown2 hgrow Hown1 hob hb2
   go_wp2_with fail
   go_roundg (l.length-(j+1))
   case measure=>have:=Hk.out;omega
   case rel=>
    refine⟨j+1,by go_num,by omega,rfl,?_,hb3⟩
    rw [Hst.out]
    exact Hown2
  ·have hfin:Hid ((l.take j).map f=l.map f):=by
    show _=_
    rw [List.take_of_length_le (by omega)]
   clear hf
   go_wp2_with fail
   go_ret
   refine⟨_,rfl,?_,hbw⟩
   rw [←hfin.out]
   exact own_ints Hown.out
end Go.Proofs.YtlnecfjnffdciabGreat
