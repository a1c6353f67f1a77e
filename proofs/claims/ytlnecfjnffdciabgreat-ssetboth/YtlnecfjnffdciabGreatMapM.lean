import Derived.Test.YtlnecfjnffdciabGreatEachR
import Derived.Test.YtlnecfjnffdciabGreatAtM
set_option maxRecDepth 100000
set_option maxHeartbeats 8000000
namespace Go.Proofs.YtlnecfjnffdciabGreat
open Go.RowKit Go.Shelf
abbrev TT:Nat→Prop:=fun _=>True
structure MC (w:World) (q:Nat) (t:RT PT) (b:Nat):Prop where
 ord:w.cell? ⟨b,0,none⟩=some (.int .i64 (q:Int))
 top:∃p,w.cell? ⟨b,1,none⟩=some (.pointer p)∧NM TT 16 w t p
 well:RT.Well t
 black:t.isRed=false
 q6:q<6
 right:∀x∈t.items,Good 16 x.1∧Good 16 x.2
 rises:RT.Rises (byK q) t.items
 size:t.size≤65536
theorem MC.keeps {w w':World} {q:Nat} {t:RT PT} {b:Nat} (h:MC w q t b) (hb:Below w.heap.size w w'):MC w' q t b:=by
 obtain⟨p,hp,hn⟩:=h.top
 exact⟨zaa hb h.ord,⟨p,zaa hb hp,hn.keeps hb⟩,h.well,h.black,h.q6,h.right,h.rises,h.size⟩
theorem own_14 (b:Addr) (w:World):Calls Tryz.prog 112 #[.pointer (some b)] w fun e w'=>e=.returned (.pointer (some b))∧w'=w:=by
 go_enter Tryz.func112,Tryz.ntmps112
 go_wp2_with fail
 go_ret
 exact⟨rfl,rfl⟩
theorem field_size14 (s h k:Int) (W:World):(Instr.field 171 (.agg #[.int .i64 s,.int .i64 h,.int .i64 k]) 0).run Tryz.prog W=.ok (.int .i64 s) W:=by
 kernel_rfl
theorem mlen_14 {w:World} {q:Nat} {t:RT PT} {b:Nat} (h:MC w q t b):Calls Tryz.prog 53 #[.pointer (some ⟨b,0,none⟩)] w fun e w'=>e=.returned (.int .i64 (t.size:Nat))∧Below w.heap.size w w':=by
 obtain⟨p,hp,hn⟩:=h.top
 have HM:Hid _:=zak hn
 have hf1:∀W:World,(Instr.field 171 (.agg #[.int .i64 t.size,.int .i64 t.high,.int .i64 t.blacks]) 0).run Tryz.prog W=.ok (.int .i64 (t.size:Nat)) W:=fun W=>field_size14 _ _ _ W
 clear hn
 go_enter Tryz.func53,Tryz.ntmps53
 go_wp2_with fail
 refine (own_14 _ _).mono ?_
 rintro e w1 ⟨rfl,rfl⟩
 go_wp2_with fail
 refine Calls.mono HM.out ?_
 rintro e w2 ⟨hb,rfl⟩
 go_wp2_with fail
 go_ret
 exact⟨rfl,hb⟩
theorem field_high14 (s h k:Int) (W:World):(Instr.field 171 (.agg #[.int .i64 s,.int .i64 h,.int .i64 k]) 1).run Tryz.prog W=.ok (.int .i64 h) W:=by
 kernel_rfl
theorem mheight_14 {w:World} {q:Nat} {t:RT PT} {b:Nat} (h:MC w q t b):Calls Tryz.prog 120 #[.pointer (some ⟨b,0,none⟩)] w fun e w'=>e=.returned (.int .i64 (t.high:Nat))∧Below w.heap.size w w':=by
 obtain⟨p,hp,hn⟩:=h.top
 have HM:Hid _:=zak hn
 have hf1:∀W:World,(Instr.field 171 (.agg #[.int .i64 t.size,.int .i64 t.high,.int .i64 t.blacks]) 1).run Tryz.prog W=.ok (.int .i64 (t.high:Nat)) W:=fun W=>field_high14 _ _ _ W
 clear hn
 go_enter Tryz.func120,Tryz.ntmps120
 go_wp2_with fail
 refine (own_14 _ _).mono ?_
 rintro e w1 ⟨rfl,rfl⟩
 go_wp2_with fail
 refine Calls.mono HM.out ?_
 rintro e w2 ⟨hb,rfl⟩
 go_wp2_with fail
 go_ret
 exact⟨rfl,hb⟩
theorem morder_14 {w:World} {q:Nat} {t:RT PT} {b:Nat} (h:MC w q t b):Calls Tryz.prog 119 #[.pointer (some ⟨b,0,none⟩)] w fun e w'=>e=.returned (.int .i64 (q:Int))∧w'=w:=by
 have ho:=h.ord
 go_enter Tryz.func119,Tryz.ntmps119
 go_wp2_with fail
 refine (own_14 _ _).mono ?_
 rintro e w1 ⟨rfl,rfl⟩
 go_wp2_with fail
 go_ret
 exact⟨rfl,rfl⟩
def KeptQ (l:List PT) (w:World) (e:Ending) (w':World):Prop:=∃v,e=.returned v∧(∃qs:List PP,qs.map trT=l∧w'.ownsRow w.heap.size 108 8 v qs.length (qs.flatMap encQ)∧∀p∈qs,GoodQ 16 w p)∧Below w.heap.size w w'
theorem kept_14 {w:World} {q:Nat} {t:RT PT} {b:Nat} (h:MC w q t b):Calls Tryz.prog 115 #[.pointer (some ⟨b,0,none⟩)] w (KeptQ t.items w):=by
 obtain⟨po,hpo,hn⟩:=h.top
 obtain⟨qs,hq1,hE⟩:=each14 TT 16 w t po hn
 have hq9:qs.length=t.size:=by
  have:=congrArg List.length hq1
  rw [List.length_map] at this
  rw [this,←RT.size_items]
 have hql:qs.length≤65536:=by rw [hq9];exact h.size
 obtain⟨i0,hi,hz0,hz1,hz2⟩:=infoQ
 obtain⟨L,hL⟩:∃L,L=t.size:=⟨_,rfl⟩
 have hL6:L≤65536:=by rw [hL];exact h.size
 obtain⟨M,hM⟩:∃M,M=madeCells (Value.agg #[.int .i64 0,.int .i64 0,.string ⟨#[]⟩,.slice none 0 0,.int .i64 0,.int .i64 0,.string ⟨#[]⟩,.slice none 0 0]).cells (((L:Nat):Int).toNat*i0.size):=⟨_,rfl⟩
 have hMs:M.size=L*8:=by rw [hM,size_madeCells,hz1];simp
 have hmk:∀W:World,(Instr.makeSlice 76 (.int .i64 0) (.int .i64 (L:Int))).run Tryz.prog W=.ok (.slice (some ⟨W.heap.size,0,none⟩) 0 L) (W.alloc (.cells M 108)):=fun W=>by
  have h:=run_make (P:=Tryz.prog) W 76 108 i0 _ Tryz.underlying76 hi hz0 .i64 .i64 0 (L:Int) (by omega) (by omega) (by rw [hz2];omega) (by omega)
  rw [←hM] at h
  simpa using h
 have HLen:Hid (∀V,Below w.heap.size w V→Calls Tryz.prog 53 #[.pointer (some ⟨b,0,none⟩)] V fun e w'=>e=.returned (.int .i64 (L:Int))∧Below V.heap.size V w'):=fun V hV=>by
  rw [hL];exact mlen_14 (h.keeps hV)
 have HApp:Hid (∀(V:World) (g Bp:Nat),Below w.heap.size w V→V.ownsRow w.heap.size 108 8 (.slice (some ⟨g,0,none⟩) 0 L) 0 []→Bp<V.heap.size→V.cell? ⟨Bp,0,none⟩=some (.pointer po)→
  Calls Tryz.prog 176 #[.slice (some ⟨g,0,none⟩) 0 L,.func (.func 240) #[] #[.pointer (some ⟨Bp,0,none⟩)]] V (KeptQ t.items w)):=fun V g Bp hV hrow hlp hp=>by
  refine (appendSeq_14 16 w qs hql _ _ V hV hrow (fun W hW=>all1_stops 16 w po qs hE 5 Bp W (hV.trans (hW.mono hV.size)) (Nat.lt_of_lt_of_le hlp hW.size) (zaa hW hp))).mono ?_
  rintro e w' ⟨v,rfl,ho,hb⟩
  refine⟨v,rfl,⟨qs.map (·.1),by rw [List.map_map];exact hq1,by rw [List.length_map,List.flatMap_map];exact ho,fun p hp=>?_⟩,hV.trans hb⟩
  obtain⟨q,_,rfl⟩:=List.mem_map.1 hp
  exact q.2
 have HMd:Hid (∀(V:World),Below w.heap.size w V→(V.alloc (.cells M 108)).ownsRow w.heap.size 108 8 (.slice (some ⟨V.heap.size,0,none⟩) 0 L) 0 []):=fun V hV=>World.ownsRow_made V M L hV.size (by unfold maxLen;omega) hMs
 have HA:Hid (∀V,Below w.heap.size w V→Below w.heap.size w ((V.alloc (.cells M 108)).alloc (.cells #[.pointer po] 160))∧((V.alloc (.cells M 108)).alloc (.cells #[.pointer po] 160)).ownsRow w.heap.size 108 8 (.slice (some ⟨V.heap.size,0,none⟩) 0 L) 0 []∧V.heap.size+1<((V.alloc (.cells M 108)).alloc (.cells #[.pointer po] 160)).heap.size∧((V.alloc (.cells M 108)).alloc (.cells #[.pointer po] 160)).cell? ⟨V.heap.size+1,0,none⟩=some (.pointer po)):=fun V hV=>by
  refine⟨(hV.alloc hV.size _).alloc (by simp;have:=hV.size;omega) _,(HMd.out _ hV).alloc _,by simp,?_⟩
  have h1:=(Go.Boxed.new (V.alloc (.cells M 108)) 160 (.pointer po)).cell
  rwa [World.size_alloc] at h1
 have HB:Hid (∀V,Below w.heap.size w V→Below w.heap.size w ((V.alloc (.cells #[.pointer po] 160)).alloc (.cells M 108))∧((V.alloc (.cells #[.pointer po] 160)).alloc (.cells M 108)).ownsRow w.heap.size 108 8 (.slice (some ⟨V.heap.size+1,0,none⟩) 0 L) 0 []∧V.heap.size<((V.alloc (.cells #[.pointer po] 160)).alloc (.cells M 108)).heap.size∧((V.alloc (.cells #[.pointer po] 160)).alloc (.cells M 108)).cell? ⟨V.heap.size,0,none⟩=some (.pointer po)):=fun V hV=>by
  refine⟨(hV.alloc hV.size _).alloc (by simp;have:=hV.size;omega) _,?_,(by first|(simp;done)|(simp;omega)),?_⟩
  ·have h1:=HMd.out _ (hV.alloc hV.size (.cells #[.pointer po] 160))
   rwa [World.size_alloc] at h1
  ·exact ((Go.Boxed.new V 160 (.pointer po)).alloc _).cell
 clear hE hq1 hq9 hql hM hMs hi hz0 hz1 hz2 hL hn h
 have hmL:(0:Int)≤(L:Nat):=by omega
 have Hpo:Hid (w.cell? ⟨b,1,none⟩=some (.pointer po)):=hpo
 go_enter Tryz.func115,Tryz.ntmps115
 go_wp2_with fail
 go_region_held3 (fun w'=>w'.cell? ⟨b,1,none⟩=some (.pointer po)) (go_keep)
  (first
   | (go_at_call 177;refine (all_14 _ _).mono ?_;rintro e w3 ⟨rfl,rfl⟩)
   | (go_at_call 53;refine (HLen.out _ (Below.refl _ _).drew).mono ?_;rintro e w1 ⟨rfl,hb1'⟩;have hb1:Below w.heap.size w w1:=(Below.refl _ _).drew.trans hb1';have hpo:=zaa hb1 hpo;clear hb1')
   | (go_at_call 112;refine (own_14 _ _).mono ?_;rintro e w3 ⟨rfl,hw⟩;(first|(obtain rfl:w1=w3:=hw.symm)|subst hw))
   | (go_at_call 176
      refine (HApp.out _ _ _ (by first|exact (HA.out w1 hb1).1|exact (HB.out w1 hb1).1) (by first|exact (HA.out w1 hb1).2.1|exact (HB.out w1 hb1).2.1) (by first|exact (HA.out w1 hb1).2.2.1|exact (HB.out w1 hb1).2.2.1) (by first|exact (HA.out w1 hb1).2.2.2|exact (HB.out w1 hb1).2.2.2)).mono ?_
      rintro e w4 ⟨v4,rfl,hx⟩
      have HE:Hid (KeptQ t.items w (.returned v4) w4):=⟨v4,rfl,hx⟩
      have hpo:=zaa (show Below w.heap.size w w4 from hx.2) Hpo.out
      clear hx))
 all_goals (first|(go_ret;exact HE.out)|(go_wp2_with fail;go_ret;exact HE.out))
end Go.Proofs.YtlnecfjnffdciabGreat
