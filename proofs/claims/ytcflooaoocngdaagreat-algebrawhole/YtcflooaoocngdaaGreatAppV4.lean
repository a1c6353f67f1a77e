import Derived.Test.YtcflooaoocngdaaGreatAppB
import Derived.OwnWalkIn
import Derived.Shelf.RegionOpen
namespace Go.Proofs.YtcflooaoocngdaaGreat
open Go.RowKit Go.Shelf
theorem appV_step {F:Fence} {n:Nat} {w:World} {ops:Array Oper} {o:Oper} {a:Act} {K:Act→World→Prop} {Q:Exit→Act→World→Prop} {E:Prop} (hgd:o.guard=none) (s x:Operand)
 (ho:o.op=.call { callee:=.builtin .append,args:=#[s,x],argTypes:=#[22,22] })
 (base:Nat) (v:Value) (k:Nat) (xs:List Value) (hs:a.eval s=v) (hown:w.ownsRow base 27 4 v k xs) (B:Nat) (hx:a.eval x=.slice (some ⟨B,0,none⟩) 1 1) (y0:w.cell? ⟨B,0,none⟩=some (.int .i64 0)) (y1:w.cell? ⟨B,1,none⟩=some (.int .i64 0)) (y2:w.cell? ⟨B,2,none⟩=some (.string ⟨#[]⟩)) (y3:w.cell? ⟨B,3,none⟩=some (.slice none 0 0))
 (hk:k≤65537) (hbase:base≤w.heap.size)
 (h:∀g cap w',w'.ownsRow base 27 4 (.slice (some ⟨g,0,none⟩) (k+1) cap) (k+1) (xs++[.int .i64 0,.int .i64 0,.string ⟨#[]⟩,.slice none 0 0])→w.grownBy w' v.ownBlock→(v.ownBlock=some g∨g=w.heap.size)→g<w'.heap.size→K (a.put o.dst (.slice (some ⟨g,0,none⟩) (k+1) cap)) w') :
 if Region.wanted o (yielded ops a.tmps)=true then Oper.wpIn F n Tryz.prog o a w K Q else E:=by
 have hw:Region.wanted o (yielded ops a.tmps)=true:=by simp [Region.wanted,hgd]
 rw [if_pos hw]
 obtain⟨i0,hi,hz0,hz1,hz2⟩:=info24
 obtain⟨g,cap,w',hr,r1,r2,r3,r4⟩:=run_append_lies (P:=Tryz.prog) w 22 o.type base 27 i0 (.agg #[.int .i64 0,.int .i64 0,.string ⟨#[]⟩,.slice none 0 0]) 4 56 Tryz.underlying22 hi hz0 hz1 hz2 rfl (by decide) v k xs hown ⟨B,0,none⟩ 1 1 [.int .i64 0,.int .i64 0,.string ⟨#[]⟩,.slice none 0 0] rfl (fun q u hq=>by
  match q,hq with
  | 0,hq=>simp at hq;subst hq;simpa [Addr.add] using y0
  | 1,hq=>simp at hq;subst hq;simpa [Addr.add] using y1
  | 2,hq=>simp at hq;subst hq;simpa [Addr.add] using y2
  | 3,hq=>simp at hq;subst hq;simpa [Addr.add] using y3
  | q+4,hq=>simp at hq) (fun u hu=>by simp at hu;rcases hu with rfl|rfl|rfl|rfl <;> rfl) (by decide) (by unfold maxLen;omega) (by omega) hbase _ rfl
 unfold Oper.wpIn
 refine⟨?_,?_⟩
 ·simp [Oper.about,ho,resolve,Target.leads,Sem.run_pure]
 ·rw [Oper.semAt_plain F _ _ (by rw [ho];intro c hc';cases hc')]
  simp [execOp,ho,resolve,invoke,builtin,hs,hx,hr,Result.andThen]
  exact h g cap w' r1 r2 r3 r4
end Go.Proofs.YtcflooaoocngdaaGreat
