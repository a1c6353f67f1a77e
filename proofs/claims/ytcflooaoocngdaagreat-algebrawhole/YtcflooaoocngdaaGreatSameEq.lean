import Derived.Test.YtcflooaoocngdaaGreatLevel
import Derived.Lib.Strings
namespace Go.Proofs.YtcflooaoocngdaaGreat
open Go.RowKit
theorem bytes_eq {a b:ByteArray} (h:a.toList=b.toList):a=b:=by
 rw [Lib.toList_data,Lib.toList_data] at h
 apply ByteArray.ext
 exact Array.toList_inj.1 h
theorem all2_eq {f:VT→VT→Bool}:∀(l m:List VT),(∀x∈l,∀y∈m,f x y=true→x=y)→l.length=m.length→all2 f l m=true→l=m:=by
 intro l
 induction l with
 | nil=>intro m _ hl _;cases m with
  | nil=>rfl
  | cons y m=>simp at hl
 | cons x l ih=>
  intro m h hl ha
  cases m with
  | nil=>simp at hl
  | cons y m=>
   simp only [all2,Bool.and_eq_true] at ha
   rw [h x List.mem_cons_self y List.mem_cons_self ha.1,ih m (fun a ha b hb=>h a (List.mem_cons_of_mem _ ha) b (List.mem_cons_of_mem _ hb)) (by simpa using hl) ha.2]
theorem vt_eq {a b:VT} (h1:a.kind=b.kind) (h2:a.num=b.num) (h3:a.text=b.text) (h4:a.items=b.items):a=b:=by
 cases a;cases b;simp only at *;subst h1 h2 h3 h4;rfl
theorem same_eq:∀(d:Nat) (a b:VT),Dp d a→Dp d b→sameV d a b=true→a=b:=by
 intro d
 induction d with
 | zero=>
  intro a b ha hb h
  simp only [sameV,headS,Bool.and_eq_true,beq_iff_eq] at h
  exact vt_eq h.1 h.2.1 (bytes_eq h.2.2.1) ((show a.items=[] from ha).trans (show b.items=[] from hb).symm)
 | succ d ih=>
  intro a b ha hb h
  simp only [sameV,headS,Bool.and_eq_true,beq_iff_eq] at h
  exact vt_eq h.1.1 h.1.2.1 (bytes_eq h.1.2.2.1) (all2_eq _ _ (fun x hx y hy hf=>ih x y (ha x hx) (hb y hy) hf) h.1.2.2.2 h.2)
def Good (d:Nat) (x:VT):Prop:=zab d x=true∧Dp d x
theorem good_eq {d:Nat} {a b:VT} (ha:Good d a) (hb:Good d b) (h:cmpV d a b=0):a=b:=by
 have h1:=right_same d a b ha.1 hb.1
 rw [h] at h1
 exact same_eq d a b ha.2 hb.2 h1.symm
theorem right_text {d:Nat} {t:VT} (h:ownV d t=true):t.text.size≤256∧(t.kind=3→utfB t.text=true)∧(t.kind≠3→t.text=⟨#[]⟩):=by
 simp only [ownV,Bool.and_eq_true] at h
 have ht:=h.2.2.2.1
 simp only [okText] at ht
 by_cases k:t.kind=3
 ·rw [if_pos (by simpa using k)] at ht
  simp only [Bool.and_eq_true,decide_eq_true_eq] at ht
  exact⟨ht.1,fun _=>ht.2,fun h=>absurd k h⟩
 ·rw [if_neg (by simpa using k)] at ht
  have e:t.text.toList=[]:=by simpa using ht
  have e2:t.text=⟨#[]⟩:=bytes_eq (by rw [e,Lib.toList_data])
  exact⟨by rw [e2];show 0≤256;omega,fun h=>absurd h k,fun _=>e2⟩
end Go.Proofs.YtcflooaoocngdaaGreat
