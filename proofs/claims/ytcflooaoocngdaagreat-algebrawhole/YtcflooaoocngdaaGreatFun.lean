import Derived.Test.YtcflooaoocngdaaGreatTab
import Derived.Test.YtcflooaoocngdaaGreatRowX
namespace Go.Proofs.YtcflooaoocngdaaGreat
open Go.RowKit
def nilT:VT:=⟨0,0,⟨#[]⟩,[]⟩
def FnPost (X:Nat→Prop) (s:VT) (W:World) (e:Ending) (W':World):Prop:=
 ∃u,e=.returned (.agg #[.int .i64 s.kind,.int .i64 s.num,.string s.text,u])∧LiesX (fun b=>X b∨W.heap.size≤b) 16 W' s.items u∧Below W.heap.size W W'
theorem fnPost_int {X:Nat→Prop} {n:Int} {W W':World} (h:Below W.heap.size W W'):FnPost X (intT n) W (.returned (.agg #[.int .i64 2,.int .i64 n,.string ⟨#[]⟩,.slice none 0 0])) W':=
 ⟨_,rfl,zah _ _ _ _ _,h⟩
theorem fnPost_same {X:Nat→Prop} {t:VT} {u:Value} {W W':World} (hl:LiesX X 16 W t.items u) (h:Below W.heap.size W W'):FnPost X t W (.returned (.agg #[.int .i64 t.kind,.int .i64 t.num,.string t.text,u])) W':=
 ⟨_,rfl,(hl.keeps h).mono (fun _ h=>.inl h),h⟩
set_option maxHeartbeats 400000 in
theorem number_any (n:Int) (w:World):Calls Tryz.prog 122 #[.int .i64 n] w fun e w'=>e=.returned (.agg #[.int .i64 2,.int .i64 n,.string ⟨#[]⟩,.slice none 0 0])∧w'=w.alloc (.cells #[.int .i64 2,.int .i64 n,.string ⟨#[]⟩,.slice none 0 0] 27):=by
 go_enter Tryz.func122,Tryz.ntmps122
 go_wp2_with fail
 exact bodyPost_ret (v:=.agg #[.int .i64 2,.int .i64 n,.string ⟨#[]⟩,.slice none 0 0]) (by simp [results,Tryz.results122,go_sem]) rfl ⟨rfl,rfl⟩
def incI (n:Int):Int:=wrap64 (n+1)
theorem grew3 (w:World) (o1 o2 o3:Obj):Below w.heap.size w (((w.alloc o1).alloc o2).alloc o3):=((Grew.two w o1 o2).alloc o3).below
end Go.Proofs.YtcflooaoocngdaaGreat
