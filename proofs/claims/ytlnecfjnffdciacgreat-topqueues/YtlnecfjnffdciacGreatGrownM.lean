import Derived.Test.YtlnecfjnffdciacGreatBx8
import Derived.Test.YtlnecfjnffdciacGreatLastOf
import Derived.Test.YtlnecfjnffdciacGreatMapP
import Derived.Shelf.Small.Bits
set_option maxRecDepth 100000
set_option maxHeartbeats 16000000
namespace Go.Proofs.YtlnecfjnffdciacGreat
open Go.RowKit
def GoodX (X:Nat→Prop) (d:Nat) (w:World) (p:PP):Prop:=(LiesX X d w p.1.1.items p.1.2∧p.1.1.text.size≤9223372036854775807)∧(LiesX X d w p.2.1.items p.2.2∧p.2.1.text.size≤9223372036854775807)
theorem GoodX.keeps {X:Nat→Prop} {d:Nat} {w w':World} {p:PP} (h:GoodX X d w p) (hb:Below w.heap.size w w'):GoodX X d w' p:=⟨⟨LiesX.keeps hb h.1.1,h.1.2⟩,⟨LiesX.keeps hb h.2.1,h.2.2⟩⟩
theorem grownOver_nil (a:Option Addr) (c:Nat) (F:Int) (w:World):Calls Tryz.prog 107 #[.slice a 0 c,.int .i64 F] w fun e w'=>e=.returned (.pointer none)∧w'=w:=by
 go_enter Tryz.func107,Tryz.ntmps107
 go_wp2_with fail
 go_ret
 exact⟨rfl,rfl⟩
theorem grownOver_more (X:Nat→Prop) (d:Nat) (w:World) (n h h1 b o c:Nat) (F F1:Int) (cc:Bool) (x:PT) (ku vu:Value) (tl tr T:RT PT)
 (hcells:w.cell? ⟨b,o+h*8,none⟩=some (.int .i64 x.1.kind)∧w.cell? ⟨b,o+h*8+1,none⟩=some (.int .i64 x.1.num)∧w.cell? ⟨b,o+h*8+2,none⟩=some (.string x.1.text)∧w.cell? ⟨b,o+h*8+3,none⟩=some (ku)∧w.cell? ⟨b,o+h*8+4,none⟩=some (.int .i64 x.2.kind)∧w.cell? ⟨b,o+h*8+5,none⟩=some (.int .i64 x.2.num)∧w.cell? ⟨b,o+h*8+6,none⟩=some (.string x.2.text)∧w.cell? ⟨b,o+h*8+7,none⟩=some (vu))
 (_hn0 : ¬(n:Int)=0) (hq:((n:Nat):Int) / 2=(h:Nat)) (hhn:h<n) (hnc:n≤c) (hn63:n≤1099511627776) (hh1:h1=h+1) (hcn : ¬c=h1) (hF:IntKind.i64.wrap (F-1)=F1) (hcc:cc=decide (F=0))
 (ha:∀V,Below w.heap.size w V→Calls Tryz.prog 107 #[.slice (some ⟨b,o,none⟩) h c,.int .i64 F1] V (zah X d tl V))
 (hb:∀V,Below w.heap.size w V→Calls Tryz.prog 107 #[.slice (some ⟨b,o+h1*8,none⟩) (n-h1) (c-h1),.int .i64 F1] V (zah X d tr V))
 (hd:∀V p q,Below w.heap.size w V→NM X d V tl p→NM X d V tr q→Calls Tryz.prog 151 #[.bool cc,.pointer p,.agg #[.int .i64 x.1.kind,.int .i64 x.1.num,.string x.1.text,ku,.int .i64 x.2.kind,.int .i64 x.2.num,.string x.2.text,vu],.pointer q] V (zah X d T V)) :
 Calls Tryz.prog 107 #[.slice (some ⟨b,o,none⟩) n c,.int .i64 F] w (zah X d T w):=by
 obtain⟨p0,p1,p2,p3,p4,p5,p6,p7⟩:=hcells
 have HA:Hid _:=ha
 have HB:Hid _:=hb
 have HD:Hid _:=hd
 have hbc:Below w.heap.size w w.drew:=(Below.refl _ _).drew
 have hb0:Below w.heap.size w w:=Below.refl _ _
 have hle:(h:Int)≤(n:Nat):=by omega
 have hcl:h≤c:=by omega
 have hcli:(h:Int)≤(c:Nat):=by omega
 have hlt:(h:Int)<(n:Nat):=by omega
 have hh0:(0:Int)≤(h:Nat):=by omega
 have hw1:IntKind.i64.wrap ((h:Int)+1)=(h1:Nat):=by rw [IntKind.wrap_i64];omega
 have h1n:(h1:Int)≤(n:Nat):=by omega
 have h1c:(h1:Int)≤(c:Nat):=by omega
 have h1cn:h1≤c:=by omega
 have hnci:(n:Int)≤(c:Nat):=by omega
 have hcni : ¬((c:Nat):Int)=(h1:Nat):=by omega
 have HC:Hid (cc=decide (F=0)):=hcc
 have h63:h≤1099511627776:=by omega
 clear ha hb hd hcc hh1
 go_enter Tryz.func107,Tryz.ntmps107
 go_wp2_with fail
 by_cases hF0:F=0
 ·have hcc:cc=true:=by rw [HC.out];simp [hF0]
  subst hcc
  subst hF0
  have hF1:F1=IntKind.i64.wrap (-1):=by rw [←hF];rfl
  subst hF1
  clear HC hF
  go_region_held3 (fun w'=>w'.cell? ⟨b,o+h*8,none⟩=some (.int .i64 x.1.kind)∧w'.cell? ⟨b,o+h*8+1,none⟩=some (.int .i64 x.1.num)∧w'.cell? ⟨b,o+h*8+2,none⟩=some (.string x.1.text)∧w'.cell? ⟨b,o+h*8+3,none⟩=some (ku)∧w'.cell? ⟨b,o+h*8+4,none⟩=some (.int .i64 x.2.kind)∧w'.cell? ⟨b,o+h*8+5,none⟩=some (.int .i64 x.2.num)∧w'.cell? ⟨b,o+h*8+6,none⟩=some (.string x.2.text)∧w'.cell? ⟨b,o+h*8+7,none⟩=some (vu)) (go_keep) (first
   | (go_at_call 151;(with_reducible refine Calls.mono (HD.out _ _ _ hbc HP.out HQ.out) ?_);rintro e w7 ⟨hg,z7,rfl,ht⟩;have HE:Hid (zah X d T w (.returned (.pointer z7)) w7):=⟨hbc.trans (hg.mono hbc.size),z7,rfl,ht⟩;have p0:=zaa hg p0;have p1:=zaa hg p1;have p2:=zaa hg p2;have p3:=zaa hg p3;have p4:=zaa hg p4;have p5:=zaa hg p5;have p6:=zaa hg p6;have p7:=zaa hg p7;clear hg ht)
   | (go_at_call 107;(with_reducible refine Calls.mono (HA.out _ hbc) ?_);rintro e w5 ⟨hg,z5,rfl,ht⟩;have HP:Hid (NM X d w5 tl z5):=ht;(try have HQ:Hid (NM X d w5 tr _):=HQ.out.keeps hg);replace hbc:=hbc.trans (hg.mono hbc.size);have p0:=zaa hg p0;have p1:=zaa hg p1;have p2:=zaa hg p2;have p3:=zaa hg p3;have p4:=zaa hg p4;have p5:=zaa hg p5;have p6:=zaa hg p6;have p7:=zaa hg p7;clear hg ht HA)
   | (go_at_call 107;(with_reducible refine Calls.mono (HB.out _ hbc) ?_);rintro e w6 ⟨hg,z6,rfl,ht⟩;have HQ:Hid (NM X d w6 tr z6):=ht;(try have HP:Hid (NM X d w6 tl _):=HP.out.keeps hg);replace hbc:=hbc.trans (hg.mono hbc.size);have p0:=zaa hg p0;have p1:=zaa hg p1;have p2:=zaa hg p2;have p3:=zaa hg p3;have p4:=zaa hg p4;have p5:=zaa hg p5;have p6:=zaa hg p6;have p7:=zaa hg p7;clear hg ht HB))
  all_goals (first|(go_ret;exact HE.out)|(go_wp2_with fail;go_ret;exact HE.out))
 ·have hcc:cc=false:=by rw [HC.out];simp [hF0]
  subst hcc
  clear HC
  have hFb:(F==0)=false:=by simp [hF0]
  go_region_held3 (fun w'=>w'.cell? ⟨b,o+h*8,none⟩=some (.int .i64 x.1.kind)∧w'.cell? ⟨b,o+h*8+1,none⟩=some (.int .i64 x.1.num)∧w'.cell? ⟨b,o+h*8+2,none⟩=some (.string x.1.text)∧w'.cell? ⟨b,o+h*8+3,none⟩=some (ku)∧w'.cell? ⟨b,o+h*8+4,none⟩=some (.int .i64 x.2.kind)∧w'.cell? ⟨b,o+h*8+5,none⟩=some (.int .i64 x.2.num)∧w'.cell? ⟨b,o+h*8+6,none⟩=some (.string x.2.text)∧w'.cell? ⟨b,o+h*8+7,none⟩=some (vu)) (go_keep) (first
   | (go_at_call 151;(with_reducible refine Calls.mono (HD.out _ _ _ hbc HP.out HQ.out) ?_);rintro e w7 ⟨hg,z7,rfl,ht⟩;have HE:Hid (zah X d T w (.returned (.pointer z7)) w7):=⟨hbc.trans (hg.mono hbc.size),z7,rfl,ht⟩;have p0:=zaa hg p0;have p1:=zaa hg p1;have p2:=zaa hg p2;have p3:=zaa hg p3;have p4:=zaa hg p4;have p5:=zaa hg p5;have p6:=zaa hg p6;have p7:=zaa hg p7;clear hg ht)
   | (go_at_call 107;(with_reducible refine Calls.mono (HA.out _ hbc) ?_);rintro e w5 ⟨hg,z5,rfl,ht⟩;have HP:Hid (NM X d w5 tl z5):=ht;(try have HQ:Hid (NM X d w5 tr _):=HQ.out.keeps hg);replace hbc:=hbc.trans (hg.mono hbc.size);have p0:=zaa hg p0;have p1:=zaa hg p1;have p2:=zaa hg p2;have p3:=zaa hg p3;have p4:=zaa hg p4;have p5:=zaa hg p5;have p6:=zaa hg p6;have p7:=zaa hg p7;clear hg ht HA)
   | (go_at_call 107;(with_reducible refine Calls.mono (HB.out _ hbc) ?_);rintro e w6 ⟨hg,z6,rfl,ht⟩;have HQ:Hid (NM X d w6 tr z6):=ht;(try have HP:Hid (NM X d w6 tl _):=HP.out.keeps hg);replace hbc:=hbc.trans (hg.mono hbc.size);have p0:=zaa hg p0;have p1:=zaa hg p1;have p2:=zaa hg p2;have p3:=zaa hg p3;have p4:=zaa hg p4;have p5:=zaa hg p5;have p6:=zaa hg p6;have p7:=zaa hg p7;clear hg ht HB))
  all_goals (first|(go_ret;exact HE.out)|(go_wp2_with fail;go_ret;exact HE.out))
theorem grownOver_last (X:Nat→Prop) (d:Nat) (w:World) (n h h1 b o c:Nat) (F F1:Int) (cc:Bool) (x:PT) (ku vu:Value) (tl tr T:RT PT)
 (hcells:w.cell? ⟨b,o+h*8,none⟩=some (.int .i64 x.1.kind)∧w.cell? ⟨b,o+h*8+1,none⟩=some (.int .i64 x.1.num)∧w.cell? ⟨b,o+h*8+2,none⟩=some (.string x.1.text)∧w.cell? ⟨b,o+h*8+3,none⟩=some (ku)∧w.cell? ⟨b,o+h*8+4,none⟩=some (.int .i64 x.2.kind)∧w.cell? ⟨b,o+h*8+5,none⟩=some (.int .i64 x.2.num)∧w.cell? ⟨b,o+h*8+6,none⟩=some (.string x.2.text)∧w.cell? ⟨b,o+h*8+7,none⟩=some (vu))
 (_hn0 : ¬(n:Int)=0) (hq:((n:Nat):Int) / 2=(h:Nat)) (hhn:h<n) (hnc:n≤c) (hn63:n≤1099511627776) (hh1:h1=h+1) (hcn:c=h1) (hF:IntKind.i64.wrap (F-1)=F1) (hcc:cc=decide (F=0))
 (ha:∀V,Below w.heap.size w V→Calls Tryz.prog 107 #[.slice (some ⟨b,o,none⟩) h c,.int .i64 F1] V (zah X d tl V))
 (hb:∀V,Below w.heap.size w V→Calls Tryz.prog 107 #[.slice (some ⟨b,o,none⟩) 0 0,.int .i64 F1] V (zah X d tr V))
 (hd:∀V p q,Below w.heap.size w V→NM X d V tl p→NM X d V tr q→Calls Tryz.prog 151 #[.bool cc,.pointer p,.agg #[.int .i64 x.1.kind,.int .i64 x.1.num,.string x.1.text,ku,.int .i64 x.2.kind,.int .i64 x.2.num,.string x.2.text,vu],.pointer q] V (zah X d T V)) :
 Calls Tryz.prog 107 #[.slice (some ⟨b,o,none⟩) n c,.int .i64 F] w (zah X d T w):=by
 obtain⟨p0,p1,p2,p3,p4,p5,p6,p7⟩:=hcells
 have HA:Hid _:=ha
 have HB:Hid _:=hb
 have HD:Hid _:=hd
 have hbc:Below w.heap.size w w.drew:=(Below.refl _ _).drew
 have hb0:Below w.heap.size w w:=Below.refl _ _
 have hle:(h:Int)≤(n:Nat):=by omega
 have hcl:h≤c:=by omega
 have hcli:(h:Int)≤(c:Nat):=by omega
 have hlt:(h:Int)<(n:Nat):=by omega
 have hh0:(0:Int)≤(h:Nat):=by omega
 have hw1:IntKind.i64.wrap ((h:Int)+1)=(h1:Nat):=by rw [IntKind.wrap_i64];omega
 have h1n:(h1:Int)≤(n:Nat):=by omega
 have h1c:(h1:Int)≤(c:Nat):=by omega
 have h1cn:h1≤c:=by omega
 have hnci:(n:Int)≤(c:Nat):=by omega
 have hz1:n=h1:=by omega
 subst hz1
 subst hcn
 have HC:Hid (cc=decide (F=0)):=hcc
 have h63:h≤1099511627776:=by omega
 clear ha hb hd hcc hh1
 go_enter Tryz.func107,Tryz.ntmps107
 go_wp2_with fail
 by_cases hF0:F=0
 ·have hcc:cc=true:=by rw [HC.out];simp [hF0]
  subst hcc
  subst hF0
  have hF1:F1=IntKind.i64.wrap (-1):=by rw [←hF];rfl
  subst hF1
  clear HC hF
  go_region_held3 (fun w'=>w'.cell? ⟨b,o+h*8,none⟩=some (.int .i64 x.1.kind)∧w'.cell? ⟨b,o+h*8+1,none⟩=some (.int .i64 x.1.num)∧w'.cell? ⟨b,o+h*8+2,none⟩=some (.string x.1.text)∧w'.cell? ⟨b,o+h*8+3,none⟩=some (ku)∧w'.cell? ⟨b,o+h*8+4,none⟩=some (.int .i64 x.2.kind)∧w'.cell? ⟨b,o+h*8+5,none⟩=some (.int .i64 x.2.num)∧w'.cell? ⟨b,o+h*8+6,none⟩=some (.string x.2.text)∧w'.cell? ⟨b,o+h*8+7,none⟩=some (vu)) (go_keep) (first
   | (go_at_call 151;(with_reducible refine Calls.mono (HD.out _ _ _ hbc HP.out HQ.out) ?_);rintro e w7 ⟨hg,z7,rfl,ht⟩;have HE:Hid (zah X d T w (.returned (.pointer z7)) w7):=⟨hbc.trans (hg.mono hbc.size),z7,rfl,ht⟩;have p0:=zaa hg p0;have p1:=zaa hg p1;have p2:=zaa hg p2;have p3:=zaa hg p3;have p4:=zaa hg p4;have p5:=zaa hg p5;have p6:=zaa hg p6;have p7:=zaa hg p7;clear hg ht)
   | (go_at_call 107;(with_reducible refine Calls.mono (HA.out _ hbc) ?_);rintro e w5 ⟨hg,z5,rfl,ht⟩;have HP:Hid (NM X d w5 tl z5):=ht;(try have HQ:Hid (NM X d w5 tr _):=HQ.out.keeps hg);replace hbc:=hbc.trans (hg.mono hbc.size);have p0:=zaa hg p0;have p1:=zaa hg p1;have p2:=zaa hg p2;have p3:=zaa hg p3;have p4:=zaa hg p4;have p5:=zaa hg p5;have p6:=zaa hg p6;have p7:=zaa hg p7;clear hg ht HA)
   | (go_at_call 107;(with_reducible refine Calls.mono (HB.out _ hbc) ?_);rintro e w6 ⟨hg,z6,rfl,ht⟩;have HQ:Hid (NM X d w6 tr z6):=ht;(try have HP:Hid (NM X d w6 tl _):=HP.out.keeps hg);replace hbc:=hbc.trans (hg.mono hbc.size);have p0:=zaa hg p0;have p1:=zaa hg p1;have p2:=zaa hg p2;have p3:=zaa hg p3;have p4:=zaa hg p4;have p5:=zaa hg p5;have p6:=zaa hg p6;have p7:=zaa hg p7;clear hg ht HB))
  all_goals (first|(go_ret;exact HE.out)|(go_wp2_with fail;go_ret;exact HE.out))
 ·have hcc:cc=false:=by rw [HC.out];simp [hF0]
  subst hcc
  clear HC
  have hFb:(F==0)=false:=by simp [hF0]
  go_region_held3 (fun w'=>w'.cell? ⟨b,o+h*8,none⟩=some (.int .i64 x.1.kind)∧w'.cell? ⟨b,o+h*8+1,none⟩=some (.int .i64 x.1.num)∧w'.cell? ⟨b,o+h*8+2,none⟩=some (.string x.1.text)∧w'.cell? ⟨b,o+h*8+3,none⟩=some (ku)∧w'.cell? ⟨b,o+h*8+4,none⟩=some (.int .i64 x.2.kind)∧w'.cell? ⟨b,o+h*8+5,none⟩=some (.int .i64 x.2.num)∧w'.cell? ⟨b,o+h*8+6,none⟩=some (.string x.2.text)∧w'.cell? ⟨b,o+h*8+7,none⟩=some (vu)) (go_keep) (first
   | (go_at_call 151;(with_reducible refine Calls.mono (HD.out _ _ _ hbc HP.out HQ.out) ?_);rintro e w7 ⟨hg,z7,rfl,ht⟩;have HE:Hid (zah X d T w (.returned (.pointer z7)) w7):=⟨hbc.trans (hg.mono hbc.size),z7,rfl,ht⟩;have p0:=zaa hg p0;have p1:=zaa hg p1;have p2:=zaa hg p2;have p3:=zaa hg p3;have p4:=zaa hg p4;have p5:=zaa hg p5;have p6:=zaa hg p6;have p7:=zaa hg p7;clear hg ht)
   | (go_at_call 107;(with_reducible refine Calls.mono (HA.out _ hbc) ?_);rintro e w5 ⟨hg,z5,rfl,ht⟩;have HP:Hid (NM X d w5 tl z5):=ht;(try have HQ:Hid (NM X d w5 tr _):=HQ.out.keeps hg);replace hbc:=hbc.trans (hg.mono hbc.size);have p0:=zaa hg p0;have p1:=zaa hg p1;have p2:=zaa hg p2;have p3:=zaa hg p3;have p4:=zaa hg p4;have p5:=zaa hg p5;have p6:=zaa hg p6;have p7:=zaa hg p7;clear hg ht HA)
   | (go_at_call 107;(with_reducible refine Calls.mono (HB.out _ hbc) ?_);rintro e w6 ⟨hg,z6,rfl,ht⟩;have HQ:Hid (NM X d w6 tr z6):=ht;(try have HP:Hid (NM X d w6 tl _):=HP.out.keeps hg);replace hbc:=hbc.trans (hg.mono hbc.size);have p0:=zaa hg p0;have p1:=zaa hg p1;have p2:=zaa hg p2;have p3:=zaa hg p3;have p4:=zaa hg p4;have p5:=zaa hg p5;have p6:=zaa hg p6;have p7:=zaa hg p7;clear hg ht HB))
  all_goals (first|(go_ret;exact HE.out)|(go_wp2_with fail;go_ret;exact HE.out))
theorem grownOver_empty {α:Type}:∀(f:Nat),RT.grownOver f ([]:List α)=.nil
 | 0=>rfl
 | _+1=>by simp [RT.grownOver]
theorem grownOver_split {α:Type} (f:Nat) (l:List α) (x:α) (r:List α) (h:l.drop (l.length / 2)=x::r):RT.grownOver (f+1) l=.node false (RT.grownOver f (l.take (l.length / 2))) x (RT.grownOver f r):=by
 show (match l.drop (l.length / 2) with|[]=>_|x::r=>_)=_
 rw [h]
theorem grownOver_size {α:Type} (f:Nat) (l:List α) (h:l.length+1≤2^(f+1)):(RT.grownOver f l).size=l.length:=by
 rw [RT.size_items,RT.grownOver_items f l h]
theorem grownOver_14 (X:Nat→Prop) (d:Nat):∀(f:Nat) (qs:List PP) (v:Value) (w:World),SlQ 0 d w qs v→(∀p∈qs,GoodX X d w p)→qs.length+1≤2^(f+1)→qs.length≤1099511627776→f≤60→
 Calls Tryz.prog 107 #[v,.int .i64 (f:Int)] w (zah X d (RT.grownOver f (qs.map trT)) w):=by
 intro f
 induction f with
 | zero=>
  intro qs v w hs hg hf hn hf60
  match qs,hs,hg,hf,hn with
  | [],hs,_,_,_=>
   obtain⟨a,c,rfl,_⟩:=hs.slice
   refine Calls.mono (grownOver_nil a c _ w) ?_
   rintro e w' ⟨rfl,rfl⟩
   exact⟨Below.refl _ _,none,rfl,rfl⟩
  | [x],hs,hg,_,_=>
   obtain⟨b,o,c,rfl,hnc,hq,_⟩:=hs.full (by simp)
   have h8:=hq.at 0 (by simp)
   have gx:=hg x (by simp)
   have hnil:∀(a:Option Addr) (c:Nat) (F:Int) (V:World),Below w.heap.size w V→Calls Tryz.prog 107 #[.slice a 0 c,.int .i64 F] V (zah X d .nil V):=fun a c F V _=>by
    refine Calls.mono (grownOver_nil a c F V) ?_
    rintro e w' ⟨rfl,rfl⟩
    exact⟨Below.refl _ _,none,rfl,rfl⟩
   have hmd:∀V p q,Below w.heap.size w V→NM X d V RT.nil p→NM X d V RT.nil q→Calls Tryz.prog 151 #[.bool true,.pointer p,.agg #[.int .i64 (trT x).1.kind,.int .i64 (trT x).1.num,.string (trT x).1.text,x.1.2,.int .i64 (trT x).2.kind,.int .i64 (trT x).2.num,.string (trT x).2.text,x.2.2],.pointer q] V (zah X d (.node true .nil (trT x) .nil) V):=fun V p q hV h1 h2=>made_14 X d V true .nil .nil (trT x) p q _ _ h1 h2 (gx.keeps hV).1 (gx.keeps hV).2 (by simp [RT.size])
   by_cases hc:c=1
   ·exact grownOver_last X d w 1 0 1 b o c 0 (-1) true (trT x) x.1.2 x.2.2 .nil .nil _ h8 (by omega) (by decide) (by omega) (by simpa using hnc) (by omega) rfl hc (by decide) (by simp) (fun V hV=>hnil _ _ _ V hV) (fun V hV=>hnil _ _ _ V hV) hmd
   ·exact grownOver_more X d w 1 0 1 b o c 0 (-1) true (trT x) x.1.2 x.2.2 .nil .nil _ h8 (by omega) (by decide) (by omega) (by simpa using hnc) (by omega) rfl hc (by decide) (by simp) (fun V hV=>hnil _ _ _ V hV) (fun V hV=>hnil _ _ _ V hV) hmd
  | x::y::l,_,_,hf,_=>simp at hf
 | succ f ih=>
  intro qs v w hs hg hf hn hf60
  by_cases hne:qs=[]
  ·subst hne
   obtain⟨a,c,rfl,_⟩:=hs.slice
   refine Calls.mono (grownOver_nil a c _ w) ?_
   rintro e w' ⟨rfl,rfl⟩
   exact⟨Below.refl _ _,none,rfl,by rw [List.map_nil,grownOver_empty];rfl⟩
  ·obtain⟨b,o,c,rfl,hnc,hq,_⟩:=hs.full hne
   have hpos:0<qs.length:=List.length_pos_iff.2 hne
   obtain⟨h,hh⟩:∃h,h=qs.length / 2:=⟨_,rfl⟩
   have hlt:h<qs.length:=by omega
   have h8:=hq.at h hlt
   have gx:=hg qs[h] (List.getElem_mem hlt)
   have hp2:(2:Nat)^(f+1+1)=2*2^(f+1):=by rw [Nat.pow_succ];omega
   have hdr:(qs.map trT).drop ((qs.map trT).length / 2)=trT qs[h]::(qs.drop (h+1)).map trT:=by
    rw [List.length_map,←hh,←List.map_drop,List.drop_eq_getElem_cons hlt,List.map_cons]
   have htk:(qs.map trT).take ((qs.map trT).length / 2)=(qs.take h).map trT:=by
    rw [List.length_map,←hh,List.map_take]
   rw [grownOver_split f _ _ _ hdr,htk]
   have hl1:(qs.take h).length=h:=by rw [List.length_take];omega
   have hl2:(qs.drop (h+1)).length=qs.length-(h+1):=List.length_drop
   have hA:∀V,Below w.heap.size w V→Calls Tryz.prog 107 #[.slice (some ⟨b,o,none⟩) h c,.int .i64 (f:Int)] V (zah X d (RT.grownOver f ((qs.take h).map trT)) V):=fun V hV=>ih _ _ V ((hs.taken h (by omega)).keeps hV) (fun p hp=>(hg p (List.mem_of_mem_take hp)).keeps hV) (by omega) (by omega) (by omega)
   have hB:∀V,Below w.heap.size w V→Calls Tryz.prog 107 #[.slice (some ⟨b,o+(h+1)*8,none⟩) (qs.length-(h+1)) (c-(h+1)),.int .i64 (f:Int)] V (zah X d (RT.grownOver f ((qs.drop (h+1)).map trT)) V):=fun V hV=>ih _ _ V ((hs.dropped (h+1)).keeps hV) (fun p hp=>(hg p (List.mem_of_mem_drop hp)).keeps hV) (by omega) (by omega) (by omega)
   have z1:=grownOver_size f ((qs.take h).map trT) (by rw [List.length_map];omega)
   have z2:=grownOver_size f ((qs.drop (h+1)).map trT) (by rw [List.length_map];omega)
   rw [List.length_map] at z1 z2
   have hmd:∀V p q,Below w.heap.size w V→NM X d V (RT.grownOver f ((qs.take h).map trT)) p→NM X d V (RT.grownOver f ((qs.drop (h+1)).map trT)) q→Calls Tryz.prog 151 #[.bool false,.pointer p,.agg #[.int .i64 (trT qs[h]).1.kind,.int .i64 (trT qs[h]).1.num,.string (trT qs[h]).1.text,qs[h].1.2,.int .i64 (trT qs[h]).2.kind,.int .i64 (trT qs[h]).2.num,.string (trT qs[h]).2.text,qs[h].2.2],.pointer q] V (zah X d (.node false (RT.grownOver f ((qs.take h).map trT)) (trT qs[h]) (RT.grownOver f ((qs.drop (h+1)).map trT))) V):=fun V p q hV h1 h2=>made_14 X d V false _ _ (trT qs[h]) p q _ _ h1 h2 (gx.keeps hV).1 (gx.keeps hV).2 (by omega)
   have hw:IntKind.i64.wrap (((f+1:Nat):Int)-1)=(f:Int):=by rw [IntKind.wrap_i64];omega
   have hF : ¬((f+1:Nat):Int)=0:=by omega
   by_cases hc:c=h+1
   ·have hB':∀V,Below w.heap.size w V→Calls Tryz.prog 107 #[.slice (some ⟨b,o,none⟩) 0 0,.int .i64 (f:Int)] V (zah X d (RT.grownOver f ((qs.drop (h+1)).map trT)) V):=fun V hV=>by
     refine Calls.mono (grownOver_nil _ _ _ V) ?_
     rintro e w' ⟨rfl,rfl⟩
     have e0:qs.drop (h+1)=[]:=List.drop_eq_nil_of_le (by omega)
     exact⟨Below.refl _ _,none,rfl,by rw [e0,List.map_nil,grownOver_empty];rfl⟩
    exact grownOver_last X d w qs.length h (h+1) b o c _ _ false (trT qs[h]) _ _ _ _ _ h8 (by omega) (by omega) hlt hnc hn rfl hc hw (by simp;omega) hA hB' hmd
   ·exact grownOver_more X d w qs.length h (h+1) b o c _ _ false (trT qs[h]) _ _ _ _ _ h8 (by omega) (by omega) hlt hnc hn rfl hc hw (by simp;omega) hA hB hmd
def Tryz.laysLen_ren:Go.Shelf.Ren:=⟨fun|125=>106|128=>149|129=>150|n=>n,fun|3=>3|4=>4|5=>5|9=>9|46=>181|51=>38|53=>96|n=>n,fun|n=>n⟩
theorem Tryz.laysLen:Go.Proofs.Lays.n125 Tryz.prog Tryz.laysLen_ren:={
 mixed:=by kernel_rfl
 f125:=Tryz.func106.trans (congrArg some (by kernel_rfl))
 f128:=Tryz.func149.trans (congrArg some (by kernel_rfl))
 f129:=Tryz.func150.trans (congrArg some (by kernel_rfl))
 t3:=Tryz.underlying3
 a3:=Tryz.isAgg3
 z3:=Tryz.sizeOf3
 v3:=Tryz.zeroValue3
 t4:=Tryz.underlying4
 a4:=Tryz.isAgg4
 z4:=Tryz.sizeOf4
 v4:=Tryz.zeroValue4
 t5:=Tryz.underlying5
 a5:=Tryz.isAgg5
 z5:=Tryz.sizeOf5
 v5:=Tryz.zeroValue5
 t9:=Tryz.underlying9
 a9:=Tryz.isAgg9
 z9:=Tryz.sizeOf9
 v9:=Tryz.zeroValue9
 t46:=Tryz.underlying181
 a46:=Tryz.isAgg181
 z46:=Tryz.sizeOf181
 v46:=Tryz.zeroValue181
 t51:=Tryz.underlying38
 a51:=Tryz.isAgg38
 z51:=Tryz.sizeOf38
 v51:=Tryz.zeroValue38
 t53:=Tryz.underlying96
 a53:=Tryz.isAgg96
 z53:=Tryz.sizeOf96
 v53:=Tryz.zeroValue96
}
theorem bitLen_bounds:∀(f x:Nat),0<x→x<2^f→f≤63→∃k,Lib.bitLen x=k+1∧k<f∧2^k≤x∧x<2^(k+1)
 | 0,x,h0,h1,_=>by simp at h1;omega
 | f+1,x,h0,h1,hf=>by
  have h64:x<2^64:=Nat.lt_of_lt_of_le h1 (Nat.pow_le_pow_right (by omega) (by omega))
  have e:=Lib.bitLen_half x (by omega) h64
  by_cases hx:x=1
  ·subst hx
   exact⟨0,by rw [e];rfl,by omega,by simp,by simp⟩
  ·have hp:(2:Nat)^(f+1)=2*2^f:=by rw [Nat.pow_succ];omega
   obtain⟨k,h2,h3,h4,h5⟩:=bitLen_bounds f (x / 2) (by omega) (by omega) (by omega)
   have hp1:(2:Nat)^(k+1)=2*2^k:=by rw [Nat.pow_succ];omega
   have hp2:(2:Nat)^(k+1+1)=2*2^(k+1):=by rw [Nat.pow_succ];omega
   exact⟨k+1,by rw [e,h2];omega,by omega,by omega,by omega⟩
def GrownPost (X:Nat→Prop) (d:Nat) (l:List PT) (w:World) (e:Ending) (w':World):Prop:=Below w.heap.size w w'∧∃t p,e=.returned (.pointer p)∧NM X d w' t p∧RT.items t=l∧RT.Well t∧t.isRed=false
theorem grown_core (w:World) (n k c:Nat) (a:Option Addr) (Q:Ending→World→Prop) (hn:n≤1099511627776) (hk:Lib.bitLen (n+1)=k+1) (hk60:k≤60)
 (hg:Calls Tryz.prog 107 #[.slice a n c,.int .i64 (k:Int)] w fun e w'=>∃p,e=.returned (.pointer p)∧Q (.returned (.pointer p)) w'):Calls Tryz.prog 62 #[.slice a n c] w Q:=by
 have HG:Hid _:=hg
 have HL:Hid _:=fun (x:Int) (W:World) h0 h1=>Go.Proofs.Any.bits_Len Tryz.laysLen x W h0 h1
 have hw1:IntKind.i64.wrap ((n:Int)+1)=((n+1:Nat):Int):=by rw [IntKind.wrap_i64];omega
 have hu:IntKind.u64.wrap ((n+1:Nat):Int)=((n+1:Nat):Int):=by rw [IntKind.wrap_u64];omega
 have hw2:IntKind.i64.wrap (((k+1:Nat):Int)-1)=(k:Int):=by rw [IntKind.wrap_i64];omega
 obtain⟨M,hM⟩:∃M,M=n+1:=⟨_,rfl⟩
 obtain⟨K,hK⟩:∃K,K=k+1:=⟨_,rfl⟩
 rw [←hM] at hw1 hu hk
 rw [←hK] at hw2 hk
 have HM:Hid (M=n+1):=hM
 have HK:Hid (Lib.bitLen M=K):=hk
 clear hg hk hM hK
 go_enter Tryz.func62,Tryz.ntmps62
 go_wp2_with (go_at_call 106;refine Calls.mono (HL.out _ _ ?_ ?_) ?_;rotate_left 2;rintro e w1 ⟨rfl,rfl⟩;fail)
 go_at_call 106
 refine Calls.mono (HL.out (M:Int) _ (by omega) (by have:=HM.out;omega)) ?_
 rintro e w1 ⟨rfl,rfl⟩
 have e9:Lib.bitLen (M:Int).toNat=K:=HK.out
 rw [e9]
 clear e9
 go_wp2_with fail
 refine Calls.mono HG.out ?_
 rintro e w2 ⟨p,rfl,hq⟩
 have HQ:Hid (Q (.returned (.pointer p)) w2):=hq
 clear hq
 first|(go_wp2_with fail;go_ret;exact HQ.out)|(go_wp2_with fail;exact HQ.out)
theorem grown_14 (X:Nat→Prop) (d:Nat) (qs:List PP) (v:Value) (w:World) (hs:SlQ 0 d w qs v) (hg:∀p∈qs,GoodX X d w p) (hn:qs.length≤1099511627775) :
 Calls Tryz.prog 62 #[v] w (GrownPost X d (qs.map trT) w):=by
 obtain⟨a,c,rfl,_⟩:=hs.slice
 obtain⟨k,h2,h3,h4,h5⟩:=bitLen_bounds 41 (qs.length+1) (by omega) (Nat.lt_of_le_of_lt (by omega:qs.length+1≤1099511627776) (by decide)) (by omega)
 have hl:(qs.map trT).length=qs.length:=List.length_map _
 refine grown_core w qs.length k c a _ (by omega) h2 (by omega) (Calls.mono (grownOver_14 X d k qs _ w hs hg (by omega) (by omega) (by omega)) ?_)
 rintro e w' ⟨hb,p,rfl,ht⟩
 refine⟨p,rfl,hb,_,p,rfl,ht,RT.grownOver_items k _ (by rw [hl];omega),RT.grownOver_well k _ (by rw [hl];omega) (by rw [hl];omega),?_⟩
 cases k with
 | zero=>
  have h0:qs.length=0:=by simp at h5;omega
  rw [List.length_eq_zero_iff.1 h0]
  rfl
 | succ k=>
  have hpos:0<qs.length:=by
   have:2≤2^(k+1):=by rw [Nat.pow_succ];have:=Nat.two_pow_pos k;omega
   omega
  obtain⟨x,r,hx⟩:∃x r,(qs.map trT).drop ((qs.map trT).length / 2)=x::r:=by
   cases hd:(qs.map trT).drop ((qs.map trT).length / 2) with
   | nil=>
    have:=congrArg List.length hd
    rw [List.length_drop,hl] at this
    simp at this
    omega
   | cons x r=>exact⟨x,r,rfl⟩
  rw [grownOver_split k _ x r hx]
  rfl
end Go.Proofs.YtlnecfjnffdciacGreat
