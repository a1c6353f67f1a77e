import Derived.Shelf.SlSortCmp.WholeK
import Derived.Test.YtcflooaoocngdaaGreatRotate
namespace Go.Proofs.YtcflooaoocngdaaGreat
open Go.Proofs Go.Shelf Go.Lib Go.Sort
open Go.RowKit (Below Hid Hid.out)
theorem grew_grow {w w':World} (h:Grew w w'):∃q os',w'=grow (w.drewN q) os':=by
 refine⟨w'.drawn-w.drawn,w'.heap.extract w.heap.size w'.heap.size,?_⟩
 have hh:w'.heap=w.heap++w'.heap.extract w.heap.size w'.heap.size:=by
  apply Array.ext_getElem?
  intro i
  rw [Array.getElem?_append]
  by_cases hi:i<w.heap.size
  ·rw [if_pos hi];exact h.below.block i hi
  ·rw [if_neg hi,Array.getElem?_extract]
   have:=h.below.size
   by_cases hi2:i<w'.heap.size
   ·rw [if_pos (by omega),show w.heap.size+(i-w.heap.size)=i by omega]
   ·rw [if_neg (by omega),Array.getElem?_eq_none (by omega)]
 have hd:=h.drawn
 have e1:(w.drewN (w'.drawn-w.drawn))={ w with drawn:=w'.drawn }:=by
  unfold World.drewN
  congr 1
  omega
 rw [e1]
 unfold grow
 obtain⟨b1,b2,b3,_,_⟩:=h.below
 cases w'
 simp only at *
 subst b1 b2 b3
 congr 1
end Go.Proofs.YtcflooaoocngdaaGreat
