import Derived.Test.YtokmolmpkkcbiaaGreatListed
import Derived.Laws.EntriesVeiled
import Derived.Shelf.Abstract
set_option maxHeartbeats 400000
namespace Go.Proofs.YtokmolmpkkcbiaaGreat
open Go.RowKit Go.Shelf
abbrev fv (n:Nat):Value:=.func (.func n) #[] #[]
theorem questions_any (w:World):Calls Tryz.prog 33 #[] w fun e w'=>e=.returned (.slice (some ⟨w.heap.size,0,none⟩) 8 8)∧
 w'=w.alloc (.cells #[fv 44,fv 45,fv 46,fv 47,fv 48,fv 49,fv 50,fv 51] 64):=by
 go_enter Tryz.func33,Tryz.ntmps33
 go_wp2_with fail
 go_ret
 exact⟨rfl,rfl⟩
theorem twos_any (w:World):Calls Tryz.prog 69 #[] w fun e w'=>e=.returned (.slice (some ⟨w.heap.size,0,none⟩) 8 8)∧
 w'=w.alloc (.cells #[fv 85,fv 45,fv 86,fv 45,fv 87,fv 45,fv 88,fv 45,fv 89,fv 45,fv 90,fv 45,fv 85,fv 91,fv 92,fv 45] 95):=by
 go_enter Tryz.func69,Tryz.ntmps69
 go_wp2_with fail
 go_ret
 exact⟨rfl,rfl⟩
theorem rowQ_no (b:Nat) (q:Int) (w:World) (h:q<0∨8≤q):Calls Tryz.prog 32 #[.slice (some ⟨b,0,none⟩) 8 8,.int .i64 q] w fun e w'=>e=.returned (.tuple #[.agg #[.nilFunc],.int .i64 4])∧Below w.heap.size w w':=by
 rcases h with h|h
 ·go_enter Tryz.func32,Tryz.ntmps32
  go_wp2_with fail
  exact bodyPost_ret (v:=.tuple #[.agg #[.nilFunc],.int .i64 4]) (by simp [results,Tryz.results32,go_sem]) rfl ⟨rfl,(Grew.two _ _ _).below⟩
 ·have h' : ¬q<0:=by omega
  go_enter Tryz.func32,Tryz.ntmps32
  go_wp2_with fail
  exact bodyPost_ret (v:=.tuple #[.agg #[.nilFunc],.int .i64 4]) (by simp [results,Tryz.results32,go_sem]) rfl ⟨rfl,(Grew.two _ _ _).below⟩
theorem rowQ_yes (b q:Nat) (f0:Nat) (w:World) (h:q<8) (hc0:w.cell? ⟨b,q,none⟩=some (fv f0)):Calls Tryz.prog 32 #[.slice (some ⟨b,0,none⟩) 8 8,.int .i64 q] w fun e w'=>e=.returned (.tuple #[.agg #[fv f0],.int .i64 0])∧Below w.heap.size w w':=by
 have hb:b<w.heap.size:=zad hc0
 have h1 : ¬(q:Int)<0:=by omega
 have h2:(q:Int)<8:=by omega
 go_enter Tryz.func32,Tryz.ntmps32
 go_wp2_with fail
 exact bodyPost_ret (v:=.tuple #[.agg #[fv f0],.int .i64 0]) (by simp [results,Tryz.results32,go_sem]) rfl ⟨rfl,((Grew.refl _).alloc _).below⟩
theorem rowT_no (b:Nat) (q:Int) (w:World) (h:q<0∨8≤q):Calls Tryz.prog 68 #[.slice (some ⟨b,0,none⟩) 8 8,.int .i64 q] w fun e w'=>e=.returned (.tuple #[.agg #[.nilFunc,.nilFunc],.int .i64 4])∧Below w.heap.size w w':=by
 rcases h with h|h
 ·go_enter Tryz.func68,Tryz.ntmps68
  go_wp2_with fail
  exact bodyPost_ret (v:=.tuple #[.agg #[.nilFunc,.nilFunc],.int .i64 4]) (by simp [results,Tryz.results68,go_sem]) rfl ⟨rfl,(Grew.two _ _ _).below⟩
 ·have h' : ¬q<0:=by omega
  go_enter Tryz.func68,Tryz.ntmps68
  go_wp2_with fail
  exact bodyPost_ret (v:=.tuple #[.agg #[.nilFunc,.nilFunc],.int .i64 4]) (by simp [results,Tryz.results68,go_sem]) rfl ⟨rfl,(Grew.two _ _ _).below⟩
theorem rowT_yes (b q:Nat) (f0:Nat) (f1:Nat) (w:World) (h:q<8) (hc0:w.cell? ⟨b,q*2,none⟩=some (fv f0)) (hc1:w.cell? ⟨b,q*2+1,none⟩=some (fv f1)):Calls Tryz.prog 68 #[.slice (some ⟨b,0,none⟩) 8 8,.int .i64 q] w fun e w'=>e=.returned (.tuple #[.agg #[fv f0,fv f1],.int .i64 0])∧Below w.heap.size w w':=by
 have hb:b<w.heap.size:=zad hc0
 have h1 : ¬(q:Int)<0:=by omega
 have h2:(q:Int)<8:=by omega
 go_enter Tryz.func68,Tryz.ntmps68
 go_wp2_with fail
 exact bodyPost_ret (v:=.tuple #[.agg #[fv f0,fv f1],.int .i64 0]) (by simp [results,Tryz.results68,go_sem]) rfl ⟨rfl,((Grew.refl _).alloc _).below⟩
def isF:Nat→Nat
 | 0=>44
 | 1=>45
 | 2=>46
 | 3=>47
 | 4=>48
 | 5=>49
 | 6=>50
 | _=>51
def twoF:Nat→Nat
 | 0=>85
 | 1=>86
 | 2=>87
 | 3=>88
 | 4=>89
 | 5=>90
 | 6=>85
 | _=>92
def stopF:Nat→Nat
 | 0=>45
 | 1=>45
 | 2=>45
 | 3=>45
 | 4=>45
 | 5=>45
 | 6=>91
 | _=>45
theorem isF_cell (w:World) (q:Nat) (h:q<8):(w.alloc (.cells #[fv 44,fv 45,fv 46,fv 47,fv 48,fv 49,fv 50,fv 51] 64)).cell? ⟨w.heap.size,q,none⟩=some (fv (isF q)):=by
 match q,h with
 | 0,_=>simp [isF]
 | 1,_=>simp [isF]
 | 2,_=>simp [isF]
 | 3,_=>simp [isF]
 | 4,_=>simp [isF]
 | 5,_=>simp [isF]
 | 6,_=>simp [isF]
 | 7,_=>simp [isF]
theorem twoF_cell (w:World) (q:Nat) (h:q<8):(w.alloc (.cells #[fv 85,fv 45,fv 86,fv 45,fv 87,fv 45,fv 88,fv 45,fv 89,fv 45,fv 90,fv 45,fv 85,fv 91,fv 92,fv 45] 95)).cell? ⟨w.heap.size,q*2,none⟩=some (fv (twoF q)):=by
 match q,h with
 | 0,_=>simp [twoF]
 | 1,_=>simp [twoF]
 | 2,_=>simp [twoF]
 | 3,_=>simp [twoF]
 | 4,_=>simp [twoF]
 | 5,_=>simp [twoF]
 | 6,_=>simp [twoF]
 | 7,_=>simp [twoF]
theorem stopF_cell (w:World) (q:Nat) (h:q<8):(w.alloc (.cells #[fv 85,fv 45,fv 86,fv 45,fv 87,fv 45,fv 88,fv 45,fv 89,fv 45,fv 90,fv 45,fv 85,fv 91,fv 92,fv 45] 95)).cell? ⟨w.heap.size,q*2+1,none⟩=some (fv (stopF q)):=by
 match q,h with
 | 0,_=>simp [stopF]
 | 1,_=>simp [stopF]
 | 2,_=>simp [stopF]
 | 3,_=>simp [stopF]
 | 4,_=>simp [stopF]
 | 5,_=>simp [stopF]
 | 6,_=>simp [stopF]
 | 7,_=>simp [stopF]
theorem isF_enters (q:Nat) (h:q<8):∀args w,(callFunc (isF q) args).run Tryz.prog w=.ok (.enter (isF q) args) w:=by
 match q,h with
 | 0,_=>exact enters_of Tryz.func44 (by kernel_rfl) rfl
 | 1,_=>exact enters_of Tryz.func45 (by kernel_rfl) rfl
 | 2,_=>exact enters_of Tryz.func46 (by kernel_rfl) rfl
 | 3,_=>exact enters_of Tryz.func47 (by kernel_rfl) rfl
 | 4,_=>exact enters_of Tryz.func48 (by kernel_rfl) rfl
 | 5,_=>exact enters_of Tryz.func49 (by kernel_rfl) rfl
 | 6,_=>exact enters_of Tryz.func50 (by kernel_rfl) rfl
 | 7,_=>exact enters_of Tryz.func51 (by kernel_rfl) rfl
theorem twoF_enters (q:Nat) (h:q<8):∀args w,(callFunc (twoF q) args).run Tryz.prog w=.ok (.enter (twoF q) args) w:=by
 match q,h with
 | 0,_=>exact enters_of Tryz.func85 (by kernel_rfl) rfl
 | 1,_=>exact enters_of Tryz.func86 (by kernel_rfl) rfl
 | 2,_=>exact enters_of Tryz.func87 (by kernel_rfl) rfl
 | 3,_=>exact enters_of Tryz.func88 (by kernel_rfl) rfl
 | 4,_=>exact enters_of Tryz.func89 (by kernel_rfl) rfl
 | 5,_=>exact enters_of Tryz.func90 (by kernel_rfl) rfl
 | 6,_=>exact enters_of Tryz.func85 (by kernel_rfl) rfl
 | 7,_=>exact enters_of Tryz.func92 (by kernel_rfl) rfl
theorem stopF_enters (q:Nat) (h:q<8):∀args w,(callFunc (stopF q) args).run Tryz.prog w=.ok (.enter (stopF q) args) w:=by
 match q,h with
 | 0,_=>exact enters_of Tryz.func45 (by kernel_rfl) rfl
 | 1,_=>exact enters_of Tryz.func45 (by kernel_rfl) rfl
 | 2,_=>exact enters_of Tryz.func45 (by kernel_rfl) rfl
 | 3,_=>exact enters_of Tryz.func45 (by kernel_rfl) rfl
 | 4,_=>exact enters_of Tryz.func45 (by kernel_rfl) rfl
 | 5,_=>exact enters_of Tryz.func45 (by kernel_rfl) rfl
 | 6,_=>exact enters_of Tryz.func91 (by kernel_rfl) rfl
 | 7,_=>exact enters_of Tryz.func45 (by kernel_rfl) rfl
end Go.Proofs.YtokmolmpkkcbiaaGreat
