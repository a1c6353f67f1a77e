import Derived.Test.YtcflooaoocngdaaGreatChkF
import Derived.Test.YtcflooaoocngdaaGreatTold
namespace Go.Proofs.YtcflooaoocngdaaGreat
def prtAt (S:Nat) (l:List VT) (j:Nat):List VT:=(l.drop (j*S)).take S
def prt (S:Nat) (l:List VT):List VT:=(List.range (nCk S l.length)).map fun j=>listT (prtAt S l j)
def prtOk (S:Nat) (l:List VT):Bool:=(prt S l).all fun x=>zab 17 x
def prtE (d:Nat) (n:Int) (l:List VT):Int:=if n<1∨65536<n then 1 else if zad d l≠0 then zad d l else if prtOk n.toNat l then 0 else 2
def prtL (d:Nat) (n:Int) (l:List VT):List VT:=if prtE d n l=0 then prt n.toNat l else []
theorem prt_take (S:Nat) (l:List VT) (k:Nat) (hk:k≤nCk S l.length):(prt S l).take k=(List.range k).map fun j=>listT (prtAt S l j):=by
 unfold prt
 rw [←List.map_take,List.take_range,Nat.min_eq_left hk]
theorem prt_length (S:Nat) (l:List VT):(prt S l).length=nCk S l.length:=by simp [prt]
theorem prt_take_succ (S:Nat) (l:List VT) (k:Nat) (hk:k<nCk S l.length):(prt S l).take (k+1)=(prt S l).take k++[listT (prtAt S l k)]:=by
 rw [prt_take S l (k+1) hk,prt_take S l k (by omega),List.range_succ,List.map_append]
 rfl
theorem prt_all (S:Nat) (l:List VT) (k:Nat) (hk:nCk S l.length≤k):(prt S l).take k=prt S l:=List.take_of_length_le (by rw [prt_length];exact hk)
theorem prt_no (S:Nat) (l:List VT) (k:Nat) (hk:k<nCk S l.length) (h:zab 17 (listT (prtAt S l k))=false):prtOk S l=false:=by
 unfold prtOk
 rw [Bool.eq_false_iff]
 intro h2
 rw [List.all_eq_true] at h2
 have:=h2 (listT (prtAt S l k)) (List.mem_map.2 ⟨k,List.mem_range.2 hk,rfl⟩)
 rw [h] at this
 cases this
theorem prt_yes (S:Nat) (l:List VT) (h:∀x∈prt S l,zab 17 x=true):prtOk S l=true:=by
 unfold prtOk
 rw [List.all_eq_true]
 exact h
theorem nCk_le (S len:Nat) (hS:1≤S):nCk S len≤len:=by
 unfold nCk
 rw [Nat.div_le_iff_le_mul_add_pred (by omega)]
 have:len*1≤S*len:=by rw [Nat.mul_comm S len];exact Nat.mul_le_mul_left _ hS
 omega
end Go.Proofs.YtcflooaoocngdaaGreat
