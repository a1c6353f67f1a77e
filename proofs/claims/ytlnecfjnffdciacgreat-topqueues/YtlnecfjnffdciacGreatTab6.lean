import Derived.Test.YtlnecfjnffdciacGreatMeas
import Derived.Laws.EntriesVeiled
import Derived.Shelf.Abstract
set_option maxHeartbeats 400000
namespace Go.Proofs.YtlnecfjnffdciacGreat
open Go.RowKit Go.Shelf
abbrev fv (n:Nat):Value:=.func (.func n) #[] #[]
theorem rows_any (w:World):Calls Tryz.prog 89 #[] w fun e w'=>e=.returned (.slice (some ⟨w.heap.size,0,none⟩) 6 6)∧
 w'=w.alloc (.cells #[fv 130,fv 131,fv 130,fv 132,fv 133,fv 134,fv 135,fv 134,fv 136,fv 137,fv 138,fv 137] 90):=by
 go_enter Tryz.func89,Tryz.ntmps89
 go_wp2_with fail
 go_ret
 exact⟨rfl,rfl⟩
theorem rowO_no (b:Nat) (q:Int) (w:World) (h:q<0∨6≤q):Calls Tryz.prog 88 #[.slice (some ⟨b,0,none⟩) 6 6,.int .i64 q] w fun e w'=>e=.returned (.tuple #[.agg #[.nilFunc,.nilFunc],.int .i64 4])∧Below w.heap.size w w':=by
 rcases h with h|h
 ·go_enter Tryz.func88,Tryz.ntmps88
  go_wp2_with fail
  exact bodyPost_ret (v:=.tuple #[.agg #[.nilFunc,.nilFunc],.int .i64 4]) (by simp [results,Tryz.results88,go_sem]) rfl ⟨rfl,(Grew.two _ _ _).below⟩
 ·have h' : ¬q<0:=by omega
  go_enter Tryz.func88,Tryz.ntmps88
  go_wp2_with fail
  exact bodyPost_ret (v:=.tuple #[.agg #[.nilFunc,.nilFunc],.int .i64 4]) (by simp [results,Tryz.results88,go_sem]) rfl ⟨rfl,(Grew.two _ _ _).below⟩
theorem rowO_yes (b q:Nat) (f0:Nat) (f1:Nat) (w:World) (h:q<6) (hc0:w.cell? ⟨b,q*2,none⟩=some (fv f0)) (hc1:w.cell? ⟨b,q*2+1,none⟩=some (fv f1)):Calls Tryz.prog 88 #[.slice (some ⟨b,0,none⟩) 6 6,.int .i64 q] w fun e w'=>e=.returned (.tuple #[.agg #[fv f0,fv f1],.int .i64 0])∧Below w.heap.size w w':=by
 have hb:b<w.heap.size:=zad hc0
 have h1 : ¬(q:Int)<0:=by omega
 have h2:(q:Int)<6:=by omega
 go_enter Tryz.func88,Tryz.ntmps88
 go_wp2_with fail
 exact bodyPost_ret (v:=.tuple #[.agg #[fv f0,fv f1],.int .i64 0]) (by simp [results,Tryz.results88,go_sem]) rfl ⟨rfl,((Grew.refl _).alloc _).below⟩
def mF:Nat→Nat
 | 0=>130
 | 1=>130
 | 2=>133
 | 3=>135
 | 4=>136
 | _=>138
def cF:Nat→Nat
 | 0=>131
 | 1=>132
 | 2=>134
 | 3=>134
 | 4=>137
 | _=>137
abbrev tabW (w:World):World:=w.alloc (.cells #[fv 130,fv 131,fv 130,fv 132,fv 133,fv 134,fv 135,fv 134,fv 136,fv 137,fv 138,fv 137] 90)
theorem tab_cells (w:World) (q:Nat) (h:q<6):(tabW w).cell? ⟨w.heap.size,q*2,none⟩=some (fv (mF q))∧(tabW w).cell? ⟨w.heap.size,q*2+1,none⟩=some (fv (cF q)):=by
 match q,h with
 | 0,_=>simp [mF,cF]
 | 1,_=>simp [mF,cF]
 | 2,_=>simp [mF,cF]
 | 3,_=>simp [mF,cF]
 | 4,_=>simp [mF,cF]
 | 5,_=>simp [mF,cF]
theorem mF_enters (q:Nat) (h:q<6):∀args w,(callFunc (mF q) args).run Tryz.prog w=.ok (.enter (mF q) args) w:=by
 match q,h with
 | 0,_=>exact enters_of Tryz.func130 (by kernel_rfl) rfl
 | 1,_=>exact enters_of Tryz.func130 (by kernel_rfl) rfl
 | 2,_=>exact enters_of Tryz.func133 (by kernel_rfl) rfl
 | 3,_=>exact enters_of Tryz.func135 (by kernel_rfl) rfl
 | 4,_=>exact enters_of Tryz.func136 (by kernel_rfl) rfl
 | 5,_=>exact enters_of Tryz.func138 (by kernel_rfl) rfl
theorem cF_enters (q:Nat) (h:q<6):∀args w,(callFunc (cF q) args).run Tryz.prog w=.ok (.enter (cF q) args) w:=by
 match q,h with
 | 0,_=>exact enters_of Tryz.func131 (by kernel_rfl) rfl
 | 1,_=>exact enters_of Tryz.func132 (by kernel_rfl) rfl
 | 2,_=>exact enters_of Tryz.func134 (by kernel_rfl) rfl
 | 3,_=>exact enters_of Tryz.func134 (by kernel_rfl) rfl
 | 4,_=>exact enters_of Tryz.func137 (by kernel_rfl) rfl
 | 5,_=>exact enters_of Tryz.func137 (by kernel_rfl) rfl
theorem right_own {t:VT} (hr:zab 16 t=true):ownV 15 t=true:=by
 unfold zab at hr
 rw [Bool.and_eq_true] at hr
 have h:=hr.2
 unfold rpV at h
 rw [Bool.and_eq_true] at h
 exact h.2
theorem right_short {t:VT} (hr:zab 16 t=true):t.text.size≤256:=(right_text (right_own hr)).1
theorem meas_any (q:Nat) (hq:q<6) (t:VT) (u:Value) (w:World) (hu:Lies 16 w t.items u) (hr:zab 16 t=true) :
 Calls Tryz.prog (mF q) #[.agg #[.int .i64 t.kind,.int .i64 t.num,.string t.text,u]] w (MeasPost (msr q t) w):=by
 have hs:=right_short hr
 obtain⟨a,c,rfl,_⟩:=Lies.slice hu
 match q,hq with
 | 0,_=>exact nothing_any t a _ c w
 | 1,_=>exact nothing_any t a _ c w
 | 2,_=>exact fullHash_any t _ w hu hr (by omega)
 | 3,_=>exact parts1_any t _ w hu hr (by omega)
 | 4,_=>exact runes_any t a _ c w (by omega)
 | 5,_=>exact distance_any t a _ c w
theorem cmpO_any (q:Nat) (hq:q<6) (t s:VT) (x y:Value) (m n:Int) (w:World) (hx:Lies 16 w t.items x) (hy:Lies 16 w s.items y) :
 Calls Tryz.prog (cF q) #[.agg #[.int .i64 t.kind,.int .i64 t.num,.string t.text,x,.int .u64 m],.agg #[.int .i64 s.kind,.int .i64 s.num,.string s.text,y,.int .u64 n]] w fun e w'=>e=.returned (.int .i64 (ordM q t s m n))∧Grew w w':=by
 match q,hq with
 | 0,_=>exact natural_any t s x y m n w hx hy
 | 1,_=>exact turned_any t s x y m n w hx hy
 | 2,_=>
  have e:ordM 2 t s m n=if cmpI m n≠0 then cmpI m n else cmpV 16 t s:=by unfold ordM;simp
  rw [e];exact byMeasure_any t s x y m n w hx hy
 | 3,_=>
  have e:ordM 3 t s m n=if cmpI m n≠0 then cmpI m n else cmpV 16 t s:=by unfold ordM;simp
  rw [e];exact byMeasure_any t s x y m n w hx hy
 | 4,_=>
  have e:ordM 4 t s m n=if t.kind≠s.kind then cmpV 16 t s else if cmpI m n≠0 then cmpI m n else cmpV 16 t s:=by unfold ordM;simp
  rw [e];exact byKind_any t s x y m n w hx hy
 | 5,_=>
  have e:ordM 5 t s m n=if t.kind≠s.kind then cmpV 16 t s else if cmpI m n≠0 then cmpI m n else cmpV 16 t s:=by unfold ordM;simp
  rw [e];exact byKind_any t s x y m n w hx hy
end Go.Proofs.YtlnecfjnffdciacGreat
