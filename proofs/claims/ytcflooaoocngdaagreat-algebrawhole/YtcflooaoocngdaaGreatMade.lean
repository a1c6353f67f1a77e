import Derived.Shelf.Strconv.Clone
import Derived.Test.YtcflooaoocngdaaGreatRotate
set_option maxHeartbeats 2000000
namespace Go.Proofs
open Go.Shelf
def Tryz.laysM316_ren:Go.Shelf.Ren:=⟨fun|316=>84|n=>n,fun|9=>9|3=>3|4=>4|37=>133|0=>0|127=>134|5=>5|n=>n,fun|n=>n⟩
theorem Tryz.laysM316:Go.Proofs.LaysM.n316 Tryz.prog Tryz.laysM316_ren:={
 mixed:=by kernel_rfl
 f316:=Tryz.func84.trans (congrArg some (by kernel_rfl))
 t0:=Tryz.underlying0
 a0:=Tryz.isAgg0
 z0:=Tryz.sizeOf0
 v0:=Tryz.zeroValue0
 t3:=Tryz.underlying3
 a3:=Tryz.isAgg3
 z3:=Tryz.sizeOf3
 v3:=Tryz.zeroValue3
 t4:=Tryz.underlying4
 a4:=Tryz.isAgg4
 z4:=Tryz.sizeOf4
 v4:=Tryz.zeroValue4
 t9:=Tryz.underlying9
 a9:=Tryz.isAgg9
 z9:=Tryz.sizeOf9
 v9:=Tryz.zeroValue9
 t37:=Tryz.underlying133
 a37:=Tryz.isAgg133
 z37:=Tryz.sizeOf133
 v37:=Tryz.zeroValue133
 t127:=Tryz.underlying134
 a127:=Tryz.isAgg134
 z127:=Tryz.sizeOf134
 v127:=Tryz.zeroValue134
 t5:=Tryz.underlying5
 a5:=Tryz.isAgg5
 z5:=Tryz.sizeOf5
 v5:=Tryz.zeroValue5
 i0:=by kernel_rfl
 i3:=by kernel_rfl
 i4:=by kernel_rfl
 i5:=by kernel_rfl
 i9:=by kernel_rfl
 i37:=by kernel_rfl
 i127:=by kernel_rfl }
open Go.RowKit in
theorem Tryz.stringslite_Clone (s:ByteArray) (w:World) (hlim:s.size≤281474976710656) :
 Calls Tryz.prog 84 #[.string s] w fun e w'=>e=.returned (.string s)∧Below w.heap.size w w':=Any.stringslite_Clone Tryz.laysM316 s w hlim
end Go.Proofs
namespace Go.Proofs.YtcflooaoocngdaaGreat
open Go.RowKit
theorem strclone (s:ByteArray) (w:World) (hlim:s.size≤281474976710656):Calls Tryz.prog 60 #[.string s] w fun e w'=>e=.returned (.string s)∧Below w.heap.size w w':=by
 go_enter Tryz.func60,Tryz.ntmps60
 go_wp2_with fail
 refine (Tryz.stringslite_Clone s _ hlim).mono ?_
 rintro e w1 ⟨rfl,hb⟩
 go_wp2_with fail
 go_ret
 exact⟨rfl,hb⟩
def MadePost (d:Nat) (t:VT) (w:World) (e:Ending) (w':World):Prop:=
 if (fw d t 16 1024).1=true then ∃v,e=.returned (.tuple #[.agg #[.int .i64 t.kind,.int .i64 0,.string ⟨#[]⟩,v],.int .i64 0])∧LiesB w.heap.size d w' t.items v∧Below w.heap.size w w'
 else e=.returned (.tuple #[.agg #[.int .i64 0,.int .i64 0,.string ⟨#[]⟩,.slice none 0 0],.int .i64 2])∧Below w.heap.size w w'
theorem txt_any (s:ByteArray) (W:World) (h:s.size≤281474976710656):Calls Tryz.prog 60 #[.string s] W fun e W'=>e=.returned (.string s)∧Below W.heap.size W W':=strclone s W h
theorem sm_len:∀(d:Nat) (t:VT),Sm d t→Len d t:=by
 intro d
 induction d with
 | zero=>intro t _;trivial
 | succ d ih=>intro t h;exact⟨by have:=h.1;omega,fun x hx=>ih x (h.2 x hx)⟩
end Go.Proofs.YtcflooaoocngdaaGreat
namespace Go.Proofs.YtcflooaoocngdaaGreat
open Go.RowKit
theorem made_no {d:Nat} {t:VT} {w w':World} (hf:(fw d t 16 1024).1=false) (hb:Below w.heap.size w w') :
 MadePost d t w (.returned (.tuple #[.agg #[.int .i64 0,.int .i64 0,.string ⟨#[]⟩,.slice none 0 0],.int .i64 2])) w':=by
 unfold MadePost
 rw [if_neg (by simp [hf])]
 exact⟨rfl,hb⟩
theorem made_yes {d:Nat} {t:VT} {w w':World} {v:Value} (hf:(fw d t 16 1024).1=true) (hl:LiesB w.heap.size d w' t.items v) (hb:Below w.heap.size w w') :
 MadePost d t w (.returned (.tuple #[.agg #[.int .i64 t.kind,.int .i64 0,.string ⟨#[]⟩,v],.int .i64 0])) w':=by
 unfold MadePost
 rw [if_pos hf]
 exact⟨v,rfl,hl,hb⟩
theorem made_any (d:Nat) (k:Int) (l:List VT) (u:Value) (w:World) (hu:Lies d w l u) (htx:Txt (fun s=>s.size≤281474976710656) d ⟨k,0,⟨#[]⟩,l⟩) :
 Calls Tryz.prog 31 #[.int .i64 k,u] w (MadePost d ⟨k,0,⟨#[]⟩,l⟩ w):=by
 obtain⟨a,c,rfl,_⟩:=Lies.slice hu
 have HL:Hid (Lies d w l (.slice a l.length c)):=hu
 clear hu
 have HK1:Hid (Blank ((w.alloc (.cells #[.int .i64 0,.int .i64 0,.string ⟨#[]⟩,.slice none 0 0] 27)).alloc (.cells #[.int .i64 k,.int .i64 0,.string ⟨#[]⟩,.slice a l.length c] 27)) w.heap.size):=(blank_alloc w).keeps ((Grew.refl _).alloc _).below
 have HK2:Hid (Boxed ((w.alloc (.cells #[.int .i64 0,.int .i64 0,.string ⟨#[]⟩,.slice none 0 0] 27)).alloc (.cells #[.int .i64 k,.int .i64 0,.string ⟨#[]⟩,.slice a l.length c] 27)) (w.heap.size+1) k 0 ⟨#[]⟩ (.slice a l.length c)):=by
  have:=boxed_alloc (w.alloc (.cells #[.int .i64 0,.int .i64 0,.string ⟨#[]⟩,.slice none 0 0] 27)) k 0 ⟨#[]⟩ (.slice a l.length c) 27
  rw [World.size_alloc] at this
  exact this
 go_enter Tryz.func31,Tryz.ntmps31
 go_wp2_with fail
 refine (fits_any d ⟨k,0,⟨#[]⟩,l⟩ (.slice a l.length c) _ (Lies.keeps (Grew.two _ _ _).below _ _ _ HL.out)).mono ?_
 rintro e w1 ⟨rfl,hb⟩
 have hb1:Below w.heap.size w w1:=(Grew.two w _ _).below.trans (hb.mono (by simp;omega))
 have HB1:Hid (Blank w1 w.heap.size):=HK1.out.keeps hb
 obtain⟨x0,x1,x2,x3⟩:=HK2.out.keeps hb
 clear hb HK1 HK2
 cases hf:(fw d ⟨k,0,⟨#[]⟩,l⟩ 16 1024).1
 ·obtain⟨y0,y1,y2,y3,z0,z1,z2,z3⟩:=HB1.out
  have Hbx:Hid _:=HB1.out.put (⟨0,0,⟨#[]⟩,[]⟩,.slice none 0 0)
  have Hbl:Hid _:=zag hb1 (Nat.le_refl _) (⟨0,0,⟨#[]⟩,[]⟩,.slice none 0 0)
  go_wp2_with fail
  refine bodyPost_ret (v:=.tuple #[.agg #[.int .i64 0,.int .i64 0,.string ⟨#[]⟩,.slice none 0 0],.int .i64 2]) ?_ rfl ?_
  ·obtain⟨q0,q1,q2,q3⟩:=Hbx.out
   simp only [encP,World.setCells,Nat.zero_add,Nat.reduceAdd] at q0 q1 q2 q3
   simp [results,Tryz.results31,go_sem,q0,q1,q2,q3]
  ·exact made_no hf Hbl.out
 ·have Hsm:Hid _:=sm_len d _ (fw_small d ⟨k,0,⟨#[]⟩,l⟩ 16 1024 (by omega) (by omega) hf)
  have htxh:Hid _:=htx
  go_wp2_with fail
  refine (copyOf_any (fun s=>s.size≤281474976710656) txt_any d ⟨k,0,⟨#[]⟩,l⟩ (.slice a l.length c) _ (Lies.keeps hb1 _ _ _ HL.out) htxh.out Hsm.out).mono ?_
  rintro e w2 ⟨v,rfl,hLB,hb2⟩
  have hbw2:Below w.heap.size w w2:=hb1.trans (hb2.mono hb1.size)
  have HB2:Hid (Blank w2 w.heap.size):=HB1.out.keeps hb2
  have hsz1:w.heap.size+1<w1.heap.size:=zae x0
  have HLB:Hid (LiesB (w.heap.size+2) d w2 l v):=LiesB.lower (by omega) _ _ _ hLB
  clear hb2 hLB x0 x1 x2 x3 HB1
  obtain⟨av,cv,rfl,_⟩:=LiesB.slice HLB.out
  obtain⟨y0,y1,y2,y3,z0,z1,z2,z3⟩:=HB2.out
  have Hbx:Hid _:=HB2.out.put (⟨k,0,⟨#[]⟩,l⟩,.slice av l.length cv)
  have Hbl:Hid _:=zag hbw2 (Nat.le_refl _) (⟨k,0,⟨#[]⟩,l⟩,.slice av l.length cv)
  have Hfin:Hid (LiesB w.heap.size d (w2.setCells w.heap.size 0 (encP (⟨k,0,⟨#[]⟩,l⟩,.slice av l.length cv))) l (.slice av l.length cv)):=
   LiesB.lower (by omega) _ _ _ (LiesB.stays (fun x v hx hv=>⟨by rw [World.cell?_setCells_out w.heap.size _ 0 w2 x (fun e _=>by omega)];exact hv,World.frozen?_setCells ..⟩) _ _ _ HLB.out)
  go_wp2_with fail
  refine bodyPost_ret (v:=.tuple #[.agg #[.int .i64 k,.int .i64 0,.string ⟨#[]⟩,.slice av l.length cv],.int .i64 0]) ?_ rfl ?_
  ·obtain⟨q0,q1,q2,q3⟩:=Hbx.out
   simp only [encP,World.setCells,Nat.zero_add,Nat.reduceAdd] at q0 q1 q2 q3
   simp [results,Tryz.results31,go_sem,q0,q1,q2,q3]
  ·exact made_yes hf Hfin.out Hbl.out
end Go.Proofs.YtcflooaoocngdaaGreat
