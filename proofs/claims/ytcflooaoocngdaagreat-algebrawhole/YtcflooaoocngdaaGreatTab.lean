import Derived.Test.YtcflooaoocngdaaGreatLevel
import Derived.Laws.EntriesVeiled
import Derived.Shelf.Abstract
set_option maxHeartbeats 400000
namespace Go.Proofs.YtcflooaoocngdaaGreat
open Go.RowKit Go.Shelf
abbrev fv (n:Nat):Value:=.func (.func n) #[] #[]
theorem questions_any (w:World):Calls Tryz.prog 33 #[] w fun e w'=>e=.returned (.slice (some ⟨w.heap.size,0,none⟩) 8 8)∧
 w'=w.alloc (.cells #[fv 52,fv 53,fv 54,fv 55,fv 56,fv 57,fv 58,fv 59] 65):=by
 go_enter Tryz.func33,Tryz.ntmps33
 go_wp2_with fail
 go_ret
 exact⟨rfl,rfl⟩
theorem twos_any (w:World):Calls Tryz.prog 103 #[] w fun e w'=>e=.returned (.slice (some ⟨w.heap.size,0,none⟩) 8 8)∧
 w'=w.alloc (.cells #[fv 110,fv 53,fv 111,fv 53,fv 112,fv 53,fv 113,fv 53,fv 114,fv 53,fv 115,fv 53,fv 110,fv 116,fv 117,fv 53] 127):=by
 go_enter Tryz.func103,Tryz.ntmps103
 go_wp2_with fail
 go_ret
 exact⟨rfl,rfl⟩
theorem rowQ_no (b:Nat) (q:Int) (w:World) (h:q<0∨8≤q):Calls Tryz.prog 32 #[.slice (some ⟨b,0,none⟩) 8 8,.int .i64 q] w fun e w'=>e=.returned (.tuple #[.agg #[.nilFunc],.int .i64 4])∧Below w.heap.size w w':=by
 rcases h with h|h
 ·go_enter Tryz.func32,Tryz.ntmps32
  go_wp2_with fail
  exact bodyPost_ret (v:=.tuple #[.agg #[.nilFunc],.int .i64 4]) (by simp [results,Tryz.results32,go_sem]) rfl ⟨rfl,(Grew.two _ _ _).below⟩
 ·have h' : ¬q<0:=by omega
  go_enter Tryz.func32,Tryz.ntmps32
  go_wp2_with fail
  exact bodyPost_ret (v:=.tuple #[.agg #[.nilFunc],.int .i64 4]) (by simp [results,Tryz.results32,go_sem]) rfl ⟨rfl,(Grew.two _ _ _).below⟩
theorem rowQ_yes (b q:Nat) (f0:Nat) (w:World) (h:q<8) (hc0:w.cell? ⟨b,q,none⟩=some (fv f0)):Calls Tryz.prog 32 #[.slice (some ⟨b,0,none⟩) 8 8,.int .i64 q] w fun e w'=>e=.returned (.tuple #[.agg #[fv f0],.int .i64 0])∧Below w.heap.size w w':=by
 have hb:b<w.heap.size:=zae hc0
 have h1 : ¬(q:Int)<0:=by omega
 have h2:(q:Int)<8:=by omega
 go_enter Tryz.func32,Tryz.ntmps32
 go_wp2_with fail
 exact bodyPost_ret (v:=.tuple #[.agg #[fv f0],.int .i64 0]) (by simp [results,Tryz.results32,go_sem]) rfl ⟨rfl,((Grew.refl _).alloc _).below⟩
theorem rowT_no (b:Nat) (q:Int) (w:World) (h:q<0∨8≤q):Calls Tryz.prog 102 #[.slice (some ⟨b,0,none⟩) 8 8,.int .i64 q] w fun e w'=>e=.returned (.tuple #[.agg #[.nilFunc,.nilFunc],.int .i64 4])∧Below w.heap.size w w':=by
 rcases h with h|h
 ·go_enter Tryz.func102,Tryz.ntmps102
  go_wp2_with fail
  exact bodyPost_ret (v:=.tuple #[.agg #[.nilFunc,.nilFunc],.int .i64 4]) (by simp [results,Tryz.results102,go_sem]) rfl ⟨rfl,(Grew.two _ _ _).below⟩
 ·have h' : ¬q<0:=by omega
  go_enter Tryz.func102,Tryz.ntmps102
  go_wp2_with fail
  exact bodyPost_ret (v:=.tuple #[.agg #[.nilFunc,.nilFunc],.int .i64 4]) (by simp [results,Tryz.results102,go_sem]) rfl ⟨rfl,(Grew.two _ _ _).below⟩
theorem rowT_yes (b q:Nat) (f0:Nat) (f1:Nat) (w:World) (h:q<8) (hc0:w.cell? ⟨b,q*2,none⟩=some (fv f0)) (hc1:w.cell? ⟨b,q*2+1,none⟩=some (fv f1)):Calls Tryz.prog 102 #[.slice (some ⟨b,0,none⟩) 8 8,.int .i64 q] w fun e w'=>e=.returned (.tuple #[.agg #[fv f0,fv f1],.int .i64 0])∧Below w.heap.size w w':=by
 have hb:b<w.heap.size:=zae hc0
 have h1 : ¬(q:Int)<0:=by omega
 have h2:(q:Int)<8:=by omega
 go_enter Tryz.func102,Tryz.ntmps102
 go_wp2_with fail
 exact bodyPost_ret (v:=.tuple #[.agg #[fv f0,fv f1],.int .i64 0]) (by simp [results,Tryz.results102,go_sem]) rfl ⟨rfl,((Grew.refl _).alloc _).below⟩
def isF:Nat→Nat
 | 0=>52
 | 1=>53
 | 2=>54
 | 3=>55
 | 4=>56
 | 5=>57
 | 6=>58
 | _=>59
def twoF:Nat→Nat
 | 0=>110
 | 1=>111
 | 2=>112
 | 3=>113
 | 4=>114
 | 5=>115
 | 6=>110
 | _=>117
def stopF:Nat→Nat
 | 0=>53
 | 1=>53
 | 2=>53
 | 3=>53
 | 4=>53
 | 5=>53
 | 6=>116
 | _=>53
theorem isF_cell (w:World) (q:Nat) (h:q<8):(w.alloc (.cells #[fv 52,fv 53,fv 54,fv 55,fv 56,fv 57,fv 58,fv 59] 65)).cell? ⟨w.heap.size,q,none⟩=some (fv (isF q)):=by
 match q,h with
 | 0,_=>simp [isF]
 | 1,_=>simp [isF]
 | 2,_=>simp [isF]
 | 3,_=>simp [isF]
 | 4,_=>simp [isF]
 | 5,_=>simp [isF]
 | 6,_=>simp [isF]
 | 7,_=>simp [isF]
theorem twoF_cell (w:World) (q:Nat) (h:q<8):(w.alloc (.cells #[fv 110,fv 53,fv 111,fv 53,fv 112,fv 53,fv 113,fv 53,fv 114,fv 53,fv 115,fv 53,fv 110,fv 116,fv 117,fv 53] 127)).cell? ⟨w.heap.size,q*2,none⟩=some (fv (twoF q)):=by
 match q,h with
 | 0,_=>simp [twoF]
 | 1,_=>simp [twoF]
 | 2,_=>simp [twoF]
 | 3,_=>simp [twoF]
 | 4,_=>simp [twoF]
 | 5,_=>simp [twoF]
 | 6,_=>simp [twoF]
 | 7,_=>simp [twoF]
theorem stopF_cell (w:World) (q:Nat) (h:q<8):(w.alloc (.cells #[fv 110,fv 53,fv 111,fv 53,fv 112,fv 53,fv 113,fv 53,fv 114,fv 53,fv 115,fv 53,fv 110,fv 116,fv 117,fv 53] 127)).cell? ⟨w.heap.size,q*2+1,none⟩=some (fv (stopF q)):=by
 match q,h with
 | 0,_=>simp [stopF]
 | 1,_=>simp [stopF]
 | 2,_=>simp [stopF]
 | 3,_=>simp [stopF]
 | 4,_=>simp [stopF]
 | 5,_=>simp [stopF]
 | 6,_=>simp [stopF]
 | 7,_=>simp [stopF]
theorem isF_enters (q:Nat) (h:q<8):∀args w,(callFunc (isF q) args).run Tryz.prog w=.ok (.enter (isF q) args) w:=by
 match q,h with
 | 0,_=>exact enters_of Tryz.func52 (by kernel_rfl) rfl
 | 1,_=>exact enters_of Tryz.func53 (by kernel_rfl) rfl
 | 2,_=>exact enters_of Tryz.func54 (by kernel_rfl) rfl
 | 3,_=>exact enters_of Tryz.func55 (by kernel_rfl) rfl
 | 4,_=>exact enters_of Tryz.func56 (by kernel_rfl) rfl
 | 5,_=>exact enters_of Tryz.func57 (by kernel_rfl) rfl
 | 6,_=>exact enters_of Tryz.func58 (by kernel_rfl) rfl
 | 7,_=>exact enters_of Tryz.func59 (by kernel_rfl) rfl
theorem twoF_enters (q:Nat) (h:q<8):∀args w,(callFunc (twoF q) args).run Tryz.prog w=.ok (.enter (twoF q) args) w:=by
 match q,h with
 | 0,_=>exact enters_of Tryz.func110 (by kernel_rfl) rfl
 | 1,_=>exact enters_of Tryz.func111 (by kernel_rfl) rfl
 | 2,_=>exact enters_of Tryz.func112 (by kernel_rfl) rfl
 | 3,_=>exact enters_of Tryz.func113 (by kernel_rfl) rfl
 | 4,_=>exact enters_of Tryz.func114 (by kernel_rfl) rfl
 | 5,_=>exact enters_of Tryz.func115 (by kernel_rfl) rfl
 | 6,_=>exact enters_of Tryz.func110 (by kernel_rfl) rfl
 | 7,_=>exact enters_of Tryz.func117 (by kernel_rfl) rfl
theorem stopF_enters (q:Nat) (h:q<8):∀args w,(callFunc (stopF q) args).run Tryz.prog w=.ok (.enter (stopF q) args) w:=by
 match q,h with
 | 0,_=>exact enters_of Tryz.func53 (by kernel_rfl) rfl
 | 1,_=>exact enters_of Tryz.func53 (by kernel_rfl) rfl
 | 2,_=>exact enters_of Tryz.func53 (by kernel_rfl) rfl
 | 3,_=>exact enters_of Tryz.func53 (by kernel_rfl) rfl
 | 4,_=>exact enters_of Tryz.func53 (by kernel_rfl) rfl
 | 5,_=>exact enters_of Tryz.func53 (by kernel_rfl) rfl
 | 6,_=>exact enters_of Tryz.func116 (by kernel_rfl) rfl
 | 7,_=>exact enters_of Tryz.func53 (by kernel_rfl) rfl
end Go.Proofs.YtcflooaoocngdaaGreat
