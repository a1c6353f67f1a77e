import Derived.Test.YtlnecfjnffdciabGreatEachR
import Derived.Test.YtlnecfjnffdciabGreatAtM
namespace Go.Proofs.YtlnecfjnffdciabGreat
open Go.RowKit Go.Shelf
abbrev TT:Nat→Prop:=fun _=>True
structure MC (w:World) (q:Nat) (t:RT PT) (b:Nat):Prop where
 ord:w.cell? ⟨b,0,none⟩=some (.int .i64 (q:Int))
 top:∃p,w.cell? ⟨b,1,none⟩=some (.pointer p)∧NM TT 16 w t p
 well:RT.Well t
 black:t.isRed=false
 q6:q<6
 right:∀x∈t.items,Good 16 x.1∧Good 16 x.2
 rises:RT.Rises (byK q) t.items
 size:t.size≤65536
theorem MC.keeps {w w':World} {q:Nat} {t:RT PT} {b:Nat} (h:MC w q t b) (hb:Below w.heap.size w w'):MC w' q t b:=by
 obtain⟨p,hp,hn⟩:=h.top
 exact⟨zaa hb h.ord,⟨p,zaa hb hp,hn.keeps hb⟩,h.well,h.black,h.q6,h.right,h.rises,h.size⟩
set_option maxRecDepth 100000 in
theorem own_14 (b:Addr) (w:World):Calls Tryz.prog 112 #[.pointer (some b)] w fun e w'=>e=.returned (.pointer (some b))∧w'=w:=by
 go_enter Tryz.func112,Tryz.ntmps112
 go_wp2_with fail
 go_ret
 exact⟨rfl,rfl⟩
theorem field_size14 (s h k:Int) (W:World):(Instr.field 171 (.agg #[.int .i64 s,.int .i64 h,.int .i64 k]) 0).run Tryz.prog W=.ok (.int .i64 s) W:=by
 kernel_rfl
set_option maxRecDepth 100000 in
set_option maxHeartbeats 4000000 in
theorem mlen_14 {w:World} {q:Nat} {t:RT PT} {b:Nat} (h:MC w q t b):Calls Tryz.prog 53 #[.pointer (some ⟨b,0,none⟩)] w fun e w'=>e=.returned (.int .i64 (t.size:Nat))∧Below w.heap.size w w':=by
 obtain⟨p,hp,hn⟩:=h.top
 have HM:Hid _:=zal hn
 have hf1:∀W:World,(Instr.field 171 (.agg #[.int .i64 t.size,.int .i64 t.high,.int .i64 t.blacks]) 0).run Tryz.prog W=.ok (.int .i64 (t.size:Nat)) W:=fun W=>field_size14 _ _ _ W
 clear hn
 go_enter Tryz.func53,Tryz.ntmps53
 go_wp2_with fail
 refine (own_14 _ _).mono ?_
 rintro e w1 ⟨rfl,rfl⟩
 go_wp2_with fail
 refine Calls.mono HM.out ?_
 rintro e w2 ⟨hb,rfl⟩
 go_wp2_with fail
 go_ret
 exact⟨rfl,hb⟩
theorem field_high14 (s h k:Int) (W:World):(Instr.field 171 (.agg #[.int .i64 s,.int .i64 h,.int .i64 k]) 1).run Tryz.prog W=.ok (.int .i64 h) W:=by
 kernel_rfl
set_option maxRecDepth 100000 in
set_option maxHeartbeats 4000000 in
theorem mheight_14 {w:World} {q:Nat} {t:RT PT} {b:Nat} (h:MC w q t b):Calls Tryz.prog 120 #[.pointer (some ⟨b,0,none⟩)] w fun e w'=>e=.returned (.int .i64 (t.high:Nat))∧Below w.heap.size w w':=by
 obtain⟨p,hp,hn⟩:=h.top
 have HM:Hid _:=zal hn
 have hf1:∀W:World,(Instr.field 171 (.agg #[.int .i64 t.size,.int .i64 t.high,.int .i64 t.blacks]) 1).run Tryz.prog W=.ok (.int .i64 (t.high:Nat)) W:=fun W=>field_high14 _ _ _ W
 clear hn
 go_enter Tryz.func120,Tryz.ntmps120
 go_wp2_with fail
 refine (own_14 _ _).mono ?_
 rintro e w1 ⟨rfl,rfl⟩
 go_wp2_with fail
 refine Calls.mono HM.out ?_
 rintro e w2 ⟨hb,rfl⟩
 go_wp2_with fail
 go_ret
 exact⟨rfl,hb⟩
set_option maxRecDepth 100000 in
set_option maxHeartbeats 4000000 in
theorem morder_14 {w:World} {q:Nat} {t:RT PT} {b:Nat} (h:MC w q t b):Calls Tryz.prog 119 #[.pointer (some ⟨b,0,none⟩)] w fun e w'=>e=.returned (.int .i64 (q:Int))∧w'=w:=by
 have ho:=h.ord
 go_enter Tryz.func119,Tryz.ntmps119
 go_wp2_with fail
 refine (own_14 _ _).mono ?_
 rintro e w1 ⟨rfl,rfl⟩
 go_wp2_with fail
 go_ret
 exact⟨rfl,rfl⟩
end Go.Proofs.YtlnecfjnffdciabGreat

