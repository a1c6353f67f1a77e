import Derived.Test.YtcflooaoocngdaaGreatShelfI
import Derived.Test.YtcflooaoocngdaaGreatSortV
import Derived.Test.YtcflooaoocngdaaGreatPickM
namespace Go.Proofs.YtcflooaoocngdaaGreat
open Go.Proofs Go.Shelf Go.Lib Go.Sort
open Go.RowKit (Below Hid Hid.out)
theorem cfI_turn (l:List VT) (i j:Nat):cfI l j i = - cfI l i j:=by
 unfold cfI
 have h:=zat 16 (l.getD i nilT) (l.getD j nilT)
 have h2:cmpI (j:Int) (i:Int) = - cmpI (i:Int) (j:Int):=by
  unfold cmpI
  split <;> split <;> (try split) <;> (try split) <;> omega
 split <;> split <;> omega
theorem cmpI_nat {i j:Nat} (h:cmpI (i:Int) (j:Int)=0):i=j:=by
 unfold cmpI at h
 split at h
 ·omega
 ·split at h
  ·omega
  ·omega
theorem cfI_zero {l:List VT} {i j:Nat} (h:cfI l i j=0):i=j:=by
 unfold cfI at h
 split at h
 ·exact cmpI_nat h
 ·rename_i h2;exact absurd h h2
theorem cfI_le (l:List VT) (i j k:Nat) (h1:cfI l i j≤0) (h2:cfI l j k≤0):cfI l i k≤0:=by
 unfold cfI at *
 have a1:cmpV 16 (l.getD i nilT) (l.getD j nilT)≤0:=by split at h1 <;> omega
 have a2:cmpV 16 (l.getD j nilT) (l.getD k nilT)≤0:=by split at h2 <;> omega
 have h:=goes_V 16 _ _ _ a1 a2
 split
 ·rename_i e
  have e2:=h.2 e
  rw [if_pos e2.1] at h1
  rw [if_pos e2.2] at h2
  unfold cmpI at *
  split at h1 <;> split at h2 <;> split <;> (try split) <;> (try split at h1) <;> (try split at h2) <;> omega
 ·exact h.1
theorem swoI (l:List VT) (n:Nat):SWO (ltOf fun x y:Fin n=>cfI l x.1 y.1) where
 irrefl x:=by
  simp only [ltOf,decide_eq_false_iff_not,Int.not_lt]
  have:=cfI_turn l x.1 x.1
  omega
 trans x y z h1 h2:=by
  simp only [ltOf,decide_eq_true_eq] at *
  have h:=cfI_le l x.1 y.1 z.1 (by omega) (by omega)
  have:cfI l x.1 z.1≠0:=fun e=>by
   have e1:=cfI_zero e
   rw [←e1] at h2
   have:=cfI_turn l x.1 y.1
   omega
  omega
 ntrans x y z h1 h2:=by
  simp only [ltOf,decide_eq_false_iff_not,Int.not_lt] at *
  have t1:=cfI_turn l x.1 y.1
  have t2:=cfI_turn l y.1 z.1
  have t3:=cfI_turn l x.1 z.1
  have h:=cfI_le l z.1 y.1 x.1 (by omega) (by omega)
  omega
theorem below_sortW {α:Type} [Inhabited α] (enc:α→Value) (w0 w:World) (g n:Nat) (dk:Array α) (os:Array Obj) (hb:Below w0.heap.size w0 w) (hg:w0.heap.size≤g):Below w0.heap.size w0 (sortWorld enc w g 0 n dk os):=by
 refine hb.trans ⟨rfl,rfl,rfl,?_,?_⟩
 ·unfold sortWorld grow putRow mapBlock Sort.ahead
  simp
 ·intro i hi
  have:=hb.size
  unfold sortWorld grow putRow mapBlock Sort.ahead
  simp only [Array.getElem?_append,Array.size_modify]
  rw [if_pos (by omega),Array.getElem?_modify,if_neg (by omega)]
theorem egA1:∀args w,(callFunc 36 args).run Tryz.prog w=.ok (.enter 36 args) w:=enters_of Tryz.func36 (by kernel_rfl) rfl
def SrtPost (l:List VT) (g:Nat) (w0:World) (e:Ending) (w':World):Prop:=
 e=.returned (.tuple #[])∧∃pl:List Nat,pl.Perm (List.range l.length)∧pl.Pairwise (fun i j=>cfI l i j<0)∧(∀(k:Nat) (hk:k<pl.length),w'.cell? ⟨g,k,none⟩=some (.int .i64 ((pl[k]:Nat):Int)))∧Below w0.heap.size w0 w'∧g<w'.heap.size
set_option maxHeartbeats 1000000 in
theorem sortI_any (l:List VT) (B:Nat) (al:Option Addr) (cl:Nat) (g cap:Nat) (w0 w:World) (hb:Below w0.heap.size w0 w) (hg:w0.heap.size≤g) (hlt:g<w.heap.size) (hB:w0.cell? ⟨B,0,none⟩=some (.slice al l.length cl)) (hl:Lies 17 w0 l (.slice al l.length cl)) (hn:l.length≤65536)
 (hrow:∀k,k<l.length→w.cell? ⟨g,k,none⟩=some (.int .i64 (k:Int))∧w.frozen? ⟨g,k,none⟩=false) :
 Calls Tryz.prog 35 #[.slice (some ⟨g,0,none⟩) l.length cap,.func (.func 36) #[] #[.pointer (some ⟨B,0,none⟩)]] w (SrtPost l g w0):=by
 by_cases h0:l.length=0
 ·have h:=AnyF.slices_SortFunc_none (P:=Tryz.prog) (ρ:=Tryz.sortI_ren) { Tryz.sortI with } (some ⟨g,0,none⟩) cap (.func (.func 36) #[] #[.pointer (some ⟨B,0,none⟩)]) w
  change Calls Tryz.prog 35 _ _ _ at h
  rw [h0]
  refine Calls.mono h fun e w' hh=>?_
  obtain⟨he,rfl⟩:=hh
  exact⟨he,[],by rw [h0];exact List.Perm.nil,List.Pairwise.nil,fun k hk=>by simp at hk,hb,hlt⟩
 ·have hinh:Inhabited (Fin l.length):=⟨⟨0,by omega⟩⟩
  obtain⟨xs,hxs⟩:∃xs:List (Fin l.length),xs.map (·.1)=List.range l.length:=⟨(List.range l.length).pmap (fun i h=>⟨i,h⟩) (fun i hi=>List.mem_range.1 hi),by rw [List.map_pmap];simp⟩
  have hxl:xs.length=l.length:=by have:=congrArg List.length hxs;simpa using this
  have hxg:∀(k:Nat) (hk:k<xs.length),(xs[k]).1=k:=fun k hk=>by
   have h1:(xs.map (·.1))[k]'(by simpa using hk)=xs[k].1:=List.getElem_map ..
   rw [←h1]
   simp [hxs]
  have hH:Holds (fun x:Fin l.length=>Value.int .i64 (x.1:Int)) w g 0 xs.toArray:=by
   intro k hk
   have hk':k<xs.length:=by simpa using hk
   have:=hrow k (by omega)
   rw [getElem!_pos xs.toArray k (by simpa using hk'),Nat.zero_add]
   simp only [List.getElem_toArray]
   rw [hxg k hk']
   exact this
  have hcmp:CmpLays1 Tryz.prog 36 #[.pointer (some ⟨B,0,none⟩)] (fun x:Fin l.length=>Value.int .i64 (x.1:Int)) (fun x y=>cfI l x.1 y.1) g 0 xs.toArray.size w:=by
   intro m os dk _ x y
   have hbs:=below_sortW (fun x:Fin l.length=>Value.int .i64 (x.1:Int)) w0 w g m dk os hb hg
   have h:=alike1_any l B al cl x.1 y.1 (sortWorld (fun x:Fin l.length=>Value.int .i64 (x.1:Int)) w g 0 m dk os) x.2 y.2 (zaa hbs hB) (Lies.keeps hbs _ _ _ hl)
   refine Calls.mono h fun e w' hh=>⟨hh.1,grew_grow hh.2⟩
  have hcon:=Any.slices_SortFunc Tryz.sortI (fun x:Fin l.length=>Value.int .i64 (x.1:Int)) (fun _=>rfl) (fun x y=>cfI l x.1 y.1) (swoI l l.length) 36 #[.pointer (some ⟨B,0,none⟩)] g 0 cap xs.toArray w egA1 hcmp hH hlt (by simp;omega)
  change Calls Tryz.prog 35 _ _ _ at hcon
  have e1:xs.toArray.size=l.length:=by simpa using hxl
  rw [e1] at hcon
  refine Calls.mono hcon fun e w' hh=>?_
  obtain⟨he,d',n,os,hp,hsd,rfl⟩:=hh
  have hsz:d'.size=xs.length:=by have:=hp.1;simpa using this
  have hperm:d'.toList.Perm xs:=by
   have h2:=hp.2.2
   have a1:(d'.extract 0 l.length).toList=d'.toList:=by
    have:d'.toList.length≤l.length:=by simp;omega
    simp [List.take_of_length_le this]
   have a2:(xs.toArray.extract 0 l.length).toList=xs:=by
    have:xs.length≤l.length:=by omega
    simp [List.take_of_length_le this]
   rwa [a1,a2] at h2
  have hpr:(d'.toList.map (·.1)).Perm (List.range l.length):=by rw [←hxs];exact hperm.map _
  have hnd:(d'.toList.map (·.1)).Nodup:=hpr.nodup_iff.2 List.nodup_range
  refine⟨he,d'.toList.map (·.1),hpr,?_,?_,below_sortW _ w0 w g n d' os hb hg,lt_sortWorld _ w g 0 n d' os hlt⟩
  ·have hle:(d'.toList.map (·.1)).Pairwise (fun i j=>cfI l i j≤0):=by
    rw [List.pairwise_map,List.pairwise_iff_getElem]
    intro i j hi hj hij
    have h1:=hsd i j (Nat.zero_le _) hij (by simp at hj;omega)
    have gi:d'[i]! = d'.toList[i]:=by rw [getElem!_pos d' i (by simpa using hi)];simp
    have gj:d'[j]! = d'.toList[j]:=by rw [getElem!_pos d' j (by simpa using hj)];simp
    rw [gi,gj] at h1
    simp only [ltOf,decide_eq_false_iff_not,Int.not_lt] at h1
    have:=cfI_turn l d'.toList[i].1 d'.toList[j].1
    omega
   refine List.Pairwise.imp₂ (fun a b h1 h2=>?_) hle hnd
   have:cfI l a b≠0:=fun e=>h2 (cfI_zero e)
   omega
  ·intro k hk
   have hk':k<d'.size:=by simpa using hk
   have h9:=(holds_sortWorld (fun x:Fin l.length=>Value.int .i64 (x.1:Int)) w g 0 n xs.toArray d' os hlt hH (by simpa using hsz)) k hk'
   rw [Nat.zero_add] at h9
   rw [h9.1,getElem!_pos d' k hk']
   simp
end Go.Proofs.YtcflooaoocngdaaGreat
