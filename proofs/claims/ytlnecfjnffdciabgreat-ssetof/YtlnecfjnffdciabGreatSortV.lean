import Derived.Test.YtlnecfjnffdciabGreatShelf
import Derived.Test.YtlnecfjnffdciabGreatRotate
import Derived.Test.YtlnecfjnffdciabGreatPlaceP
namespace Go.Proofs.YtlnecfjnffdciabGreat
open Go.Proofs Go.Shelf Go.Lib Go.Sort
open Go.RowKit (Below Hid Hid.out)
theorem grew_grow {w w':World} (h:Grew w w'):∃q os',w'=grow (w.drewN q) os':=by
 refine⟨w'.drawn-w.drawn,w'.heap.extract w.heap.size w'.heap.size,?_⟩
 have hh:w'.heap=w.heap++w'.heap.extract w.heap.size w'.heap.size:=by
  apply Array.ext_getElem?
  intro i
  rw [Array.getElem?_append]
  by_cases hi:i<w.heap.size
  ·rw [if_pos hi];exact h.below.block i hi
  ·rw [if_neg hi,Array.getElem?_extract]
   have:=h.below.size
   by_cases hi2:i<w'.heap.size
   ·rw [if_pos (by omega),show w.heap.size+(i-w.heap.size)=i by omega]
   ·rw [if_neg (by omega),Array.getElem?_eq_none (by omega)]
 have hd:=h.drawn
 have e1:(w.drewN (w'.drawn-w.drawn))={ w with drawn:=w'.drawn }:=by
  unfold World.drewN
  congr 1
  omega
 rw [e1]
 unfold grow
 obtain⟨b1,b2,b3,_,_⟩:=h.below
 cases w'
 simp only at *
 subst b1 b2 b3
 congr 1
abbrev PV (d:Nat) (w0:World):Type:={ p:VT×Value // Sound d w0 p }
theorem swoV (d:Nat) (w0:World):SWO (ltOf fun x y:PV d w0=>cmpV d x.1.1 y.1.1) where
 irrefl x:=by simp [ltOf,cmpV_self]
 trans x y z h1 h2:=by
  simp only [ltOf,decide_eq_true_eq] at *
  have h:=goes_V d x.1.1 y.1.1 z.1.1 (by omega) (by omega)
  have:cmpV d x.1.1 z.1.1≠0:=fun e=>by have:=h.2 e;omega
  omega
 ntrans x y z h1 h2:=by
  simp only [ltOf,decide_eq_false_iff_not,Int.not_lt] at *
  have t1:=zag d x.1.1 y.1.1
  have t2:=zag d y.1.1 z.1.1
  have t3:=zag d x.1.1 z.1.1
  have h:=goes_V d z.1.1 y.1.1 x.1.1 (by omega) (by omega)
  omega
theorem below_sortWorld {α:Type} [Inhabited α] (enc:α→List Value) (k:Nat) (w0 w:World) (g n:Nat) (dk:Array α) (os:Array Obj) (hb:Below w0.heap.size w0 w) (hg:w0.heap.size≤g):Below w0.heap.size w0 (sortWorldK enc k w g 0 n dk os):=by
 refine hb.trans ⟨rfl,rfl,rfl,?_,?_⟩
 ·unfold sortWorldK grow putRowK putRow mapBlock Sort.ahead
  simp
 ·intro i hi
  have:=hb.size
  unfold sortWorldK grow putRowK putRow mapBlock Sort.ahead
  simp only [Array.getElem?_append,Array.size_modify]
  rw [if_pos (by omega),Array.getElem?_modify,if_neg (by omega)]
theorem eg17:∀args w,(callFunc 190 args).run Tryz.prog w=.ok (.enter 190 args) w:=enters_of Tryz.func190 (by kernel_rfl) rfl
theorem isAgg24 (w:World):(isAgg 33).run Tryz.prog w=.ok true w:=by kernel_rfl
theorem sizeOf24 (w:World):(Go.sizeOf 33).run Tryz.prog w=.ok 4 w:=by kernel_rfl
theorem cmpLays {d:Nat} {w0 w:World} [Inhabited (PV d w0)] {g:Nat} (size:Nat) (hb:Below w0.heap.size w0 w) (hg:w0.heap.size≤g) :
 CmpLays Tryz.prog 190 #[] (fun x:PV d w0=>encP x.1) 4 (fun x y=>cmpV d x.1.1 y.1.1) g 0 size w:=by
 intro m os dk _ x y
 have hbs:=below_sortWorld (fun x:PV d w0=>encP x.1) 4 w0 w g m dk os hb hg
 have h:=compare_any d x.1.1 y.1.1 x.1.2 y.1.2 (sortWorldK (fun x:PV d w0=>encP x.1) 4 w g 0 m dk os) (Lies.keeps hbs _ _ _ x.2.1) (Lies.keeps hbs _ _ _ y.2.1)
 refine Calls.mono h fun e w' hh=>⟨hh.1,grew_grow hh.2⟩
def Rises (d:Nat) (qs:List (VT×Value)):Prop:=qs.Pairwise fun p q=>cmpV d p.1 q.1≤0
theorem holds_of_row {d:Nat} {w0 w:World} [Inhabited (PV d w0)] {g:Nat} (xs:List (PV d w0)) (hrow:RowAt w g 0 (xs.map (·.1))) (hfz:∀k,k<xs.length*4→w.frozen? ⟨g,k,none⟩=false) :
 HoldsK (fun x:PV d w0=>encP x.1) 4 w g 0 xs.toArray:=by
 intro t ht
 have ht':t<xs.length*4:=by simpa using ht
 rw [get_flatK _ _ _ t (by simpa using ht')]
 refine⟨?_,by rw [Nat.zero_add];exact hfz t ht'⟩
 have hi:t / 4<xs.length:=by omega
 have hx:(xs.toArray)[t / 4]! = xs[t / 4]:=by rw [getElem!_pos _ _ (by simpa using hi)];simp
 rw [hx]
 have hl:t<((xs.map (·.1)).flatMap encP).length:=by rw [flat_len];simpa using ht'
 have h:=hrow.flat t _ (List.getElem?_eq_getElem hl)
 have h2:=flat_at (xs.map (·.1)) (t / 4) (t % 4) (by simpa using hi) (by omega)
 rw [show t / 4*4+t % 4=t by omega,List.getElem?_eq_getElem hl] at h2
 rw [h]
 congr 1
 simp only [List.getElem_map] at h2
 simp only [id]
 rw [getElem!_def,←h2]
theorem row_of_holds {d:Nat} {w0 w:World} [Inhabited (PV d w0)] {g:Nat} (xs:List (PV d w0)) (h:HoldsK (fun x:PV d w0=>encP x.1) 4 w g 0 xs.toArray) :
 RowAt w g 0 (xs.map (·.1))∧∀k,k<xs.length*4→w.frozen? ⟨g,k,none⟩=false:=by
 refine⟨RowAt.of_flat fun t u hu=>?_,fun k hk=>by have:=(h k (by simpa using hk)).2;rwa [Nat.zero_add] at this⟩
 have hl:t<((xs.map (·.1)).flatMap encP).length:=by
  by_cases hl:t<((xs.map (·.1)).flatMap encP).length
  ·exact hl
  ·rw [List.getElem?_eq_none (by omega)] at hu;cases hu
 have ht':t<xs.length*4:=by rw [flat_len] at hl;simpa using hl
 have hi:t / 4<xs.length:=by omega
 have h1:=(h t (by simpa using ht')).1
 rw [get_flatK _ _ _ t (by simpa using ht')] at h1
 have hx:(xs.toArray)[t / 4]! = xs[t / 4]:=by rw [getElem!_pos _ _ (by simpa using hi)];simp
 rw [hx] at h1
 rw [h1]
 have h2:=flat_at (xs.map (·.1)) (t / 4) (t % 4) (by simpa using hi) (by omega)
 rw [show t / 4*4+t % 4=t by omega,hu] at h2
 simp only [List.getElem_map] at h2
 simp only [id]
 rw [getElem!_def,←h2]
set_option maxHeartbeats 1000000 in
theorem sort_any (d g cap:Nat) (w0 w:World) (ps:List (VT×Value)) (hs:∀p∈ps,Sound d w0 p) (hb:Below w0.heap.size w0 w) (hg:w0.heap.size≤g) (hlt:g<w.heap.size) (hrow:RowAt w g 0 ps)
 (hfz:∀k,k<ps.length*4→w.frozen? ⟨g,k,none⟩=false) (hlen:ps.length≤65536) :
 Calls Tryz.prog 189 #[.slice (some ⟨g,0,none⟩) ps.length cap,.func (.func 190) #[] #[]] w fun e w'=>e=.returned (.tuple #[])∧∃qs,qs.Perm ps∧Rises d qs∧RowAt w' g 0 qs∧(∀k,k<ps.length*4→w'.frozen? ⟨g,k,none⟩=false)∧Below w0.heap.size w0 w'∧g<w'.heap.size:=by
 have hinh:Inhabited (PV d w0):=⟨⟨(⟨0,0,⟨#[]⟩,[]⟩,.slice none 0 0),Lies.atLeast (d:=0) ⟨rfl,none,0,rfl⟩ d (Nat.zero_le _),(by show 0≤9223372036854775807;omega)⟩⟩
 obtain⟨xs,hxs⟩:∃xs:List (PV d w0),xs.map (·.1)=ps:=⟨ps.pmap Subtype.mk hs,by rw [List.map_pmap];simp⟩
 subst hxs
 have hln:xs.length=(xs.map (·.1)).length:=by simp
 have hcon:=AnyQ.slices_SortFunc Tryz.sortV 4 isAgg24 sizeOf24 (fun x:PV d w0=>encP x.1) (fun _=>rfl) (fun x=>encP_one x.2) (fun x y=>cmpV d x.1.1 y.1.1) (swoV d w0) 190 #[] g 0 cap xs.toArray w eg17 (cmpLays _ hb hg) (holds_of_row xs hrow (by simpa using hfz)) hlt (by simp at hlen ⊢;omega)
 change Calls Tryz.prog 189 _ _ _ at hcon
 have e1:xs.toArray.size=(xs.map (·.1)).length:=by simp
 rw [e1] at hcon
 refine Calls.mono hcon fun e w' hh=>?_
 obtain⟨he,d',n,os,hp,hsd,rfl⟩:=hh
 refine⟨he,d'.toList.map (·.1),?_,?_,?_⟩
 ·have hperm:=hp.2.2
  have hsz:d'.size=xs.length:=by have:=hp.1;simpa using this
  rw [show (xs.map (·.1)).length=xs.length by simp] at hperm
  have a1:(d'.extract 0 xs.length).toList=d'.toList:=by rw [←hsz];simp
  have a2:(xs.toArray.extract 0 xs.length).toList=xs:=by simp
  rw [a1,a2] at hperm
  exact hperm.map _
 ·have hsz:d'.size=xs.length:=by have:=hp.1;simpa using this
  unfold Rises
  rw [List.pairwise_map,List.pairwise_iff_getElem]
  intro i j hi hj hij
  have h1:=hsd i j (Nat.zero_le _) hij (by simp at hj ⊢;omega)
  have gi:d'[i]! = d'.toList[i]:=by rw [getElem!_pos d' i (by simpa using hi)];simp
  have gj:d'[j]! = d'.toList[j]:=by rw [getElem!_pos d' j (by simpa using hj)];simp
  rw [gi,gj] at h1
  simp only [ltOf,decide_eq_false_iff_not,Int.not_lt] at h1
  have:=zag d d'.toList[i].1.1 d'.toList[j].1.1
  omega
 ·have hsz:d'.size=xs.toArray.size:=by have:=hp.1;simpa using this
  have hH:=holdsK_sortWorldK_c (fun x:PV d w0=>encP x.1) 4 w g 0 xs.toArray d' n os (holds_of_row xs hrow (by simpa using hfz)) hlt hsz
  have hH2:HoldsK (fun x:PV d w0=>encP x.1) 4 (sortWorldK (fun x:PV d w0=>encP x.1) 4 w g 0 n d' os) g 0 d'.toList.toArray:=by simpa using hH
  obtain⟨r1,r2⟩:=row_of_holds d'.toList hH2
  refine⟨r1,fun k hk=>r2 k (by simp at hsz ⊢;simp at hk;omega),below_sortWorld _ _ _ _ _ _ _ _ hb hg,?_⟩
  exact Nat.lt_of_lt_of_le hlt (size_sortWorldK_c _ _ _ _ _ _ _ _)
end Go.Proofs.YtlnecfjnffdciabGreat

