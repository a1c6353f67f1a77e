import Derived.Test.YtlnecfjnffdciacGreatEachR
import Derived.Test.YtlnecfjnffdciacGreatFindM
namespace Go.Proofs.YtlnecfjnffdciacGreat
open Go.RowKit Go.Shelf
abbrev TT:Nat→Prop:=fun _=>True
structure MC (w:World) (q:Nat) (t:RT PT) (b:Nat):Prop where
 ord:w.cell? ⟨b,0,none⟩=some (.int .i64 (q:Int))
 top:∃p,w.cell? ⟨b,1,none⟩=some (.pointer p)∧NM TT 16 w t p
 well:RT.Well t
 black:t.isRed=false
 q6:q<6
 right:∀x∈t.items,Good 16 x.1∧Good 16 x.2
 rises:RT.Rises (byK q) t.items
 size:t.size≤65536
theorem MC.keeps {w w':World} {q:Nat} {t:RT PT} {b:Nat} (h:MC w q t b) (hb:Below w.heap.size w w'):MC w' q t b:=by
 obtain⟨p,hp,hn⟩:=h.top
 exact⟨zaa hb h.ord,⟨p,zaa hb hp,hn.keeps hb⟩,h.well,h.black,h.q6,h.right,h.rises,h.size⟩
set_option maxRecDepth 100000 in
theorem own_14 (b:Addr) (w:World):Calls Tryz.prog 72 #[.pointer (some b)] w fun e w'=>e=.returned (.pointer (some b))∧w'=w:=by
 go_enter Tryz.func72,Tryz.ntmps72
 go_wp2_with fail
 go_ret
 exact⟨rfl,rfl⟩
end Go.Proofs.YtlnecfjnffdciacGreat
