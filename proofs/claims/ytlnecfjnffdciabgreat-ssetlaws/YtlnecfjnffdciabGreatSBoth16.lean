import Derived.Test.YtlnecfjnffdciabGreatSFst16
import Derived.Test.YtlnecfjnffdciabGreatUniP
set_option maxRecDepth 100000
set_option maxHeartbeats 32000000
namespace Go.Proofs.YtlnecfjnffdciabGreat
open Go.RowKit Go.Shelf
def nilP (v:VT):PT:=(v,nilT)
def setL (q:Nat) (vs:List VT):List PT:=ofL q (vs.map nilP)
theorem setL_nils (q:Nat) (vs:List VT):Nils (setL q vs):=fun x hx=>by
 obtain⟨v,_,rfl⟩:=List.mem_map.1 (kyd_mem _ _ _ _ hx)
 rfl
theorem keyP_map (ps:List (VT×Value)):(ps.map keyP).map trT=(ps.map (·.1)).map nilP:=by rw [List.map_map,List.map_map];rfl
def ItPost (base:Nat) (vs:List VT) (w:World) (e:Ending) (w':World):Prop:=Below w.heap.size w w'∧∃ps v,e=.returned v∧ps.map (·.1)=vs∧SlP base 16 w' ps v
def MkM14 (q:Nat) (l:List PT) (w:World) (e:Ending) (w':World):Prop:=Below w.heap.size w w'∧∃t b,e=.returned (.pointer (some ⟨b,0,none⟩))∧MC w' q t b∧t.items=l
def lessL (q:Nat) (la lb:List PT):List PT:=la.filter fun y=>lb.all fun x=>decide (byK q x y≠0)
theorem all_mem {α:Type} {l m:List α} (h:∀y,y∈l↔y∈m) (f:α→Bool):l.all f=m.all f:=by
 rw [Bool.eq_iff_iff,List.all_eq_true,List.all_eq_true]
 exact⟨fun h9 x hx=>h9 x ((h x).2 hx),fun h9 x hx=>h9 x ((h x).1 hx)⟩
theorem less_lessL {q:Nat} {s ta:RT PT} {lb:List PT} (hs:RT.Rises (byK q) s.items) (ha:RT.Rises (byK q) ta.items) (hm:∀y,y∈s.items↔y∈lb):(RT.less (byK q) s ta).items=lessL q ta.items lb:=by
 rw [RT.less_items (byK_cmp q) s ta hs ha]
 unfold lessL
 exact List.filter_congr fun y _=>all_mem hm _
theorem mless_14 {w:World} {q r:Nat} {ta tb:RT PT} {a b:Nat} (ha:MC w q ta a) (hb:MC w r tb b):Calls Tryz.prog 95 #[.pointer (some ⟨a,0,none⟩),.pointer (some ⟨b,0,none⟩)] w (MkM14 q (lessL q ta.items tb.items) w):=by
 have HT:Hid (Calls Tryz.prog 147 #[.pointer (some ⟨b,0,none⟩),.int .i64 (q:Int)] w fun e w'=>Below w.heap.size w w'∧∃s b2 pb,e=.returned (.tuple #[.pointer (some ⟨b2,0,none⟩),.int .i64 0])∧MC w' q s b2∧w'.cell? ⟨b2,1,none⟩=some (.pointer pb)∧NM TT 16 w' s pb∧∀y,y∈s.items↔y∈tb.items):=by
  refine (turn_14 (q:Int) hb).mono fun e w' h=>?_
  have hq6:=ha.q6
  obtain⟨hb,⟨h0,_⟩|⟨_,s,b2,rfl,hm,hi⟩⟩:=h
  ·exact absurd (show zak (q:Int)=0 by unfold zak;rw [if_neg (by omega)]) h0
  ·rw [show ((q:Nat):Int).toNat=q by omega] at hm
   obtain⟨pb,h1,h2⟩:=hm.top
   exact⟨hb,s,b2,pb,rfl,hm,h1,h2,hi⟩
 obtain⟨pa,hpa,na⟩:=ha.top
 have hoa:=ha.ord
 have za:=ha.size
 have HA:Hid (MC w q ta a):=ha
 have HNa:Hid (NM TT 16 w ta pa):=na
 have HEq:Hid (∀s:RT PT,RT.Rises (byK q) s.items→(∀y,y∈s.items↔y∈tb.items)→(RT.less (byK q) s ta).items=lessL q ta.items tb.items):=fun s h1 h2=>less_lessL h1 ha.rises h2
 have HUl:Hid (lessL q ta.items tb.items=ta.items.filter fun y=>tb.items.all fun x=>decide (byK q x y≠0)):=rfl
 generalize lessL q ta.items tb.items=UL at *
 clear ha hb na
 go_enter Tryz.func95,Tryz.ntmps95
 go_wp2_with fail
 refine (own_14 _ _).mono ?_
 rintro e w1 ⟨rfl,hw⟩
 obtain rfl:w=w1:=hw.symm
 go_wp2_with fail
 refine Calls.mono HT.out ?_
 rintro e w1 ⟨hb1,s,b2,pb,rfl,hms,hpb,nb,hsi⟩
 have hus:=less_sizes (byK q) s ta
 have zs:=hms.size
 have hae:(RT.less (byK q) s ta).items=UL:=HEq.out s hms.rises hsi
 have HU:Hid (∀V bb,Below w1.heap.size w1 V→V.cell? ⟨bb,0,none⟩=some (.int .i64 (q:Int))→Calls Tryz.prog 150 #[.pointer pa,.pointer pb,.func (.func 215) #[] #[.pointer (some ⟨bb,0,none⟩)]] V (zab TT 16 (RT.less (byK q) s ta) V)):=fun V bb hV hbb=>less_14 TT 16 215 eg_byK1 _ (byK q) _ s ta pb pa V (byK_cmpC q bb hms.q6 V hbb) (nb.keeps hV) (HNa.out.keeps (hb1.trans (hV.mono hb1.size))) hms.well HA.out.well (fun x hx=>(hms.right x hx).1.1) (fun x hx=>(HA.out.right x hx).1.1) (by omega)
 have HO:Hid (∀V p,Below w.heap.size w V→NM TT 16 V (RT.less (byK q) s ta) p→Calls Tryz.prog 133 #[.pointer (some ⟨a,0,none⟩),.pointer p] V (RawPost q (RT.less (byK q) s ta).black V)):=fun V p hV hp=>of_raw a q _ p V (zaa hV HA.out.ord) hp (by omega)
 have hblk:(RT.less (byK q) s ta).black.items=(RT.less (byK q) s ta).items:=RT.black_items _
 have hbsz:(RT.less (byK q) s ta).black.size=(RT.less (byK q) s ta).size:=by rw [RT.size_items,hblk,←RT.size_items]
 have hwell:RT.Well (RT.less (byK q) s ta):=RT.less_well (byK q) s ta hms.well HA.out.well
 have hwellb:RT.Well (RT.less (byK q) s ta).black:=⟨hwell.1.black,by obtain⟨_,n,hB⟩:=hwell;obtain⟨m,hm⟩:=hB.black;exact⟨m,hm⟩⟩
 have HMC:Hid (∀V b',RawM V q (RT.less (byK q) s ta).black b'→MC V q (RT.less (byK q) s ta).black b'):=fun V b' h=>by
  refine⟨h.1,h.2,hwellb,RT.black_red14 _,hms.q6,?_,?_,by rw [hbsz];omega⟩
  ·rw [hblk,hae,HUl.out]
   intro x hx
   exact HA.out.right x (List.mem_filter.1 hx).1
  ·rw [hblk,hae,HUl.out]
   exact List.Pairwise.filter _ HA.out.rises
 have HBl:Hid ((RT.less (byK q) s ta).black.items=UL):=hblk.trans hae
 generalize RT.less (byK q) s ta=T at *
 have hpa:=zaa hb1 hpa;have hoa:=zaa hb1 hoa
 clear nb hblk hbsz hwell hwellb hus za zs hms hsi hae HT HA HNa HEq HUl
 go_wp2_with fail
 go_region_held3 (fun w'=>w'.cell? ⟨a,0,none⟩=some (.int .i64 (q:Int))∧w'.cell? ⟨a,1,none⟩=some (.pointer pa)∧w'.cell? ⟨b2,1,none⟩=some (.pointer pb)) (go_keep)
  (first
   | (go_at_call 149;refine (byKeys_14 _ _).mono ?_;rintro e w2 ⟨rfl,hw2⟩;have hg2:Below w1.heap.size w1 w2:=(by rw [hw2];exact (Below.refl w1.heap.size w1).drew.trans ((Grew.refl w1.drew).alloc _).below);have hb2:Below w.heap.size w w2:=hb1.trans (hg2.mono hb1.size);have hbb:w2.cell? ⟨w1.heap.size,0,none⟩=some (.int .i64 (q:Int)):=(by rw [hw2];exact (Go.Boxed.new w1.drew 3 (.int .i64 (q:Int))).cell);have hpa:=zaa hg2 hpa;have hpb:=zaa hg2 hpb;have hoa:=zaa hg2 hoa;clear hw2)
   | (go_at_call 150;(with_reducible refine Calls.mono (HU.out _ _ hg2 hbb) ?_);rintro e w3 ⟨hg3,p3,rfl,ht3⟩;have hb3:Below w.heap.size w w3:=hb2.trans (hg3.mono hb2.size);have HT3:Hid (NM TT 16 w3 T p3):=ht3;have hpa:=zaa hg3 hpa;have hpb:=zaa hg3 hpb;have hoa:=zaa hg3 hoa;clear ht3 hg3)
   | (go_at_call 133;(with_reducible refine Calls.mono (HO.out _ _ hb3 HT3.out) ?_);rintro e w4 ⟨hg4,b4,rfl,hr4⟩;have HE:Hid (MkM14 q UL w (.returned (.pointer (some ⟨b4,0,none⟩))) w4):=⟨hb3.trans (hg4.mono hb3.size),T.black,b4,rfl,HMC.out _ _ hr4,HBl.out⟩;have hpa:=zaa hg4 hpa;have hpb:=zaa hg4 hpb;have hoa:=zaa hg4 hoa;clear hr4 hg4))
 all_goals (first|(go_ret;exact HE.out)|(go_wp2_with fail;go_ret;exact HE.out))
attribute [local go_sem] Oper.semAt_some
theorem small_16 (v:Value) (w:World):Calls Tryz.prog 154 #[.agg #[v]] w fun e w'=>e=.returned (.func (.func 218) #[] #[.pointer (some ⟨w.heap.size,0,none⟩)])∧w'=w.alloc (.cells #[v] 112):=by
 go_enter Tryz.func154,Tryz.ntmps154
 go_wp2_with fail
 go_ret
 exact⟨rfl,rfl⟩
theorem sall_16 (s b:Nat) (w:World) (hs:w.cell? ⟨s,0,none⟩=some (.pointer (some ⟨b,0,none⟩))):Calls Tryz.prog 98 #[.pointer (some ⟨s,0,none⟩)] w fun e w'=>e=.returned (.func (.func 218) #[] #[.pointer (some ⟨w.heap.size,0,none⟩)])∧w'=w.alloc (.cells #[.pointer (some ⟨b,0,none⟩)] 112):=by
 go_enter Tryz.func98,Tryz.ntmps98
 go_wp2_with fail
 refine (sown_16 _ _).mono ?_
 rintro e w1 ⟨rfl,hw⟩
 obtain rfl:w=w1:=hw.symm
 go_wp2_with fail
 refine (small_16 _ _).mono ?_
 rintro e w2 ⟨rfl,hw2⟩
 subst hw2
 go_wp2_with fail
 go_ret
 exact⟨rfl,rfl⟩
theorem sappend_16 (l:List VT) (hlen:l.length≤65536) (lb:Array Value) (w:World)
 (hseq:∀(n:Nat) (W:World),6≤n→Below w.heap.size w W→SeqX Fence.wide n Tryz.prog 218 lb encCV (KpY 22 w.heap.size) (PreCV l) (fun xs=>xs.map CV.k=l) (fun _=>True) l.length W) :
 Calls Tryz.prog 153 #[.slice none 0 0,.func (.func 218) #[] lb] w (ItPost w.heap.size l w):=by
 refine (callsIn_wide (n:=8)).1 ?_
 refine callsIn_of_wp_marks Tryz.func153 rfl trivial ?_ rfl
 simp only [Tryz.ntmps153,List.size_toArray,List.length_cons,List.length_nil,Nat.reduceAdd,Nat.reduceSub,Array.replicate_succ,Array.replicate_zero,List.push_toArray,List.append_toArray,List.nil_append,List.cons_append]
 have HL:Hid (l.length≤65536):=hlen
 have HSq:Hid _:=hseq
 clear hseq hlen
 gi_wp2
 obtain⟨Wi,hWi⟩:∃Wi,Wi=w.alloc (.cells #[.slice none 0 0] 22):=⟨_,rfl⟩
 rw [←hWi]
 have hB0:Below w.heap.size w Wi:=by rw [hWi];exact ((Grew.refl w).alloc _).below
 have hsz:Wi.heap.size=w.heap.size+1:=by rw [hWi];simp
 have hG0:GvI w w.heap.size [] Wi:=⟨⟨.slice none 0 0,by rw [hWi];exact Go.Boxed.new w 22 _,World.ownsRow_nil _ _ _ _,fun x hx=>by cases hx⟩,hB0⟩
 have HSq2:Hid _:=HSq.out 7 Wi (by omega) hB0
 clear hWi HSq
 refine rangeX (α:=CV) rfl (by omega) (gf:=218) (lb:=lb) rfl trivial (enters_of Tryz.func218 (by kernel_rfl) rfl)
  HSq2.out kpY_t (fun W o o' hl ho=>kpY_b (by omega) (by omega) W o o' hl ho) (Below.refl _ _) (fun _=>rfl)
  (fun pre W=>GvI w w.heap.size pre W∧pre.map CV.k <+: l) (fun _ _ _=>False)
  (fun s A V row hs hg hr=>⟨GvI.own w _ _ (by omega) (by omega) s A V row hs.1 hg hr,hs.2⟩) (fun _ _ _ _ _ hs _ _=>hs) ⟨hG0,by simp⟩
  (GvA (w.heap.size) l (fun x Bk=>{ tmps:=#[.slice none 0 0,.func (.func 218) #[] lb,.pointer (some ⟨w.heap.size,0,none⟩),undef,.slice none 0 0,.pointer (some ⟨Bk,0,none⟩),.func (.func 218) #[] lb,.agg #[.int .i64 x.k.kind,.int .i64 x.k.num,.string x.k.text,.slice x.a1 x.k.items.length x.c1],undef,undef,undef,undef,undef,undef,undef],defers:=[] })) (fun pre x a'=>GvA.own _ _ _ (by omega) _ _ _ _) ?assign ?body ?done ?stop
 case assign=>
  rintro lp pre x V W K hI hbVW ⟨hN,hpx⟩ hK
  have hba:Below W.heap.size W (W.alloc (.cells #[.int .i64 x.k.kind,.int .i64 x.k.num,.string x.k.text,.slice x.a1 x.k.items.length x.c1] 33)):=((Grew.refl W).alloc _).below
  have hws:w.heap.size≤W.heap.size:=Nat.le_trans hI.1.2.size hbVW.size
  obtain⟨hA,hI3⟩:=GvA.make (l:=l) (f:=(fun x Bk=>{ tmps:=#[.slice none 0 0,.func (.func 218) #[] lb,.pointer (some ⟨w.heap.size,0,none⟩),undef,.slice none 0 0,.pointer (some ⟨Bk,0,none⟩),.func (.func 218) #[] lb,.agg #[.int .i64 x.k.kind,.int .i64 x.k.num,.string x.k.text,.slice x.a1 x.k.items.length x.c1],undef,undef,undef,undef,undef,undef,undef],defers:=[] })) hI.1 hbVW hN hpx
  skip
  have HK:Hid (K _ _):=hK _ _ ((KeepsOthers.alloc W _).from _) ⟨hba.mono hws,KBy.below hba,keepsBelowY hba⟩ ⟨hI3,hI.2⟩ hA
  clear hK hA
  unfold encCV
  gi_wp2
  exact HK.out
 case body=>
  rintro lp pre x a' W hlp ⟨⟨⟨v',bx0,hrow,hl⟩,hB⟩,hpl⟩ ⟨Bk,v,bk,hBk,bx',hnk,hLk,hpx,rfl⟩ hlt
  have hvv:v'=v:=by
   have h1:W.heap[w.heap.size]? = some (.cells #[v] 22 (0,0)):=bx'
   have h2:W.heap[w.heap.size]? = some (.cells #[v'] 22 (0,0)):=bx0
   rw [h1] at h2
   injection h2 with h2
   injection h2 with h2
   simpa using h2.symm
  subst hvv
  obtain⟨av,cv,hv⟩:∃a c,v'=.slice a pre.length c:=by
   rcases hrow.2 with ⟨rfl,e⟩|⟨g,cap,_,rfl,_⟩
   ·exact⟨none,0,by rw [e]⟩
   ·exact⟨_,_,rfl⟩
  subst hv
  obtain⟨k,hk⟩:∃k,k=pre.length:=⟨_,rfl⟩
  have hpx2:(pre++[x]).map CV.k <+: l:=by rw [List.map_append];exact hpx
  have hkl:k+1≤l.length:=by have:=hpx2.length_le;rw [List.length_map,List.length_append,←hk] at this;exact this
  have hkq:k≤65537:=by have:=HL.out;omega
  have HStep:Hid (∀(g cap:Nat) (w3:World),w3.ownsRow w.heap.size 33 4 (.slice (some ⟨g,0,none⟩) (k+1) cap) (k+1) (pre.flatMap (fun x=>encP x.p)++[.int .i64 0,.int .i64 0,.string ⟨#[]⟩,.slice none 0 0])→(W.alloc Z4V).drew.grownBy w3 (Value.slice av k cv).ownBlock→((Value.slice av k cv).ownBlock=some g∨g=(W.alloc Z4V).drew.heap.size)→_):=fun g cap w3 h1 h2 h3=>gv_step (B:=w.heap.size) (n1:=Wi.heap.size+2) hk (by omega) (by rw [hk];exact⟨bx',hrow,hl⟩) hB (by rw [hk];exact hLk) g cap w3 h1 h2 h3
  rw [←hk] at bx' hrow hnk hlt
  obtain⟨y0,y1,y2,y3⟩:=bk.cells
  have hc:=bx'.cell
  have hBl:=bx'.lt
  have hBkl:=bk.lt
  skip
  have hcD:W.drew.cell? ⟨w.heap.size,0,none⟩=some (.slice av k cv):=hc
  have d0:W.drew.cell? ⟨Bk,0,none⟩=some (.int .i64 x.k.kind):=y0
  have d1:W.drew.cell? ⟨Bk,1,none⟩=some (.int .i64 x.k.num):=y1
  have d2:W.drew.cell? ⟨Bk,2,none⟩=some (.string x.k.text):=y2
  have d3:W.drew.cell? ⟨Bk,3,none⟩=some (.slice x.a1 x.k.items.length x.c1):=y3
  have hn1 : ¬(Bk=W.heap.size):=by omega
  have hn2 : ¬(w.heap.size=W.heap.size):=by omega
  have HRow:Hid ((W.alloc Z4V).drew.ownsRow w.heap.size 33 4 (.slice av k cv) k (pre.flatMap (fun x=>encP x.p))):=(hrow.alloc _).drew
  have Hbs:Hid (w.heap.size≤(W.alloc Z4V).drew.heap.size):=by
   have:=hB.size
   show _≤_
   simp
   omega
  have Hxl:Hid ((pre.flatMap (fun x=>encP x.p)).length=k*4):=hrow.1
  have HP:Hid ((pre++[x]).map CV.k <+: l):=hpx2
  have Hk:Hid (k=pre.length):=hk
  have hmx:Tryz.prog.follows .mixedOrders=true:=by kernel_rfl
  have hkk:((k:Nat):Int)<(k:Nat)+1:=by omega
  clear hrow bx' bx0 bk hB hlp hlt hk hl hLk hnk hpx hpx2 hkl hpl
  gi_wp2
  refine wpIn_region_any hmx ?_
  change wpAnyIn _ _ _ _ _ _ _ _ _ (World.drew _)
  all_goals (first|refine wpAnyIn_ready (rs:=[0,1,3]) (by decide +kernel) (by simp) (AllReadyIn.cons rfl (fun K hK=>?_) (AllReadyIn.cons rfl (fun K hK=>?_) (AllReadyIn.cons rfl (fun K hK=>?_) AllReadyIn.nil))))
  all_goals (go_simp;refine hK _ _ ?_;clear hK K)
  all_goals (first|refine wpAnyIn_ready (rs:=[1,2,3]) (by decide +kernel) (by simp) (AllReadyIn.cons rfl (fun K hK=>?_) (AllReadyIn.cons rfl (fun K hK=>?_) (AllReadyIn.cons rfl (fun K hK=>?_) AllReadyIn.nil)))|refine wpAnyIn_ready (rs:=[0,3]) (by decide +kernel) (by simp) (AllReadyIn.cons rfl (fun K hK=>?_) (AllReadyIn.cons rfl (fun K hK=>?_) AllReadyIn.nil))|refine wpAnyIn_ready (rs:=[0,1]) (by decide +kernel) (by simp) (AllReadyIn.cons rfl (fun K hK=>?_) (AllReadyIn.cons rfl (fun K hK=>?_) AllReadyIn.nil)))
  all_goals (go_simp;refine hK _ _ ?_;clear hK K)
  all_goals (first|refine wpAnyIn_ready (rs:=[2,3]) (by decide +kernel) (by simp) (AllReadyIn.cons rfl (fun K hK=>?_) (AllReadyIn.cons rfl (fun K hK=>?_) AllReadyIn.nil))|refine wpAnyIn_ready (rs:=[1,3]) (by decide +kernel) (by simp) (AllReadyIn.cons rfl (fun K hK=>?_) (AllReadyIn.cons rfl (fun K hK=>?_) AllReadyIn.nil))|refine wpAnyIn_ready (rs:=[1,2]) (by decide +kernel) (by simp) (AllReadyIn.cons rfl (fun K hK=>?_) (AllReadyIn.cons rfl (fun K hK=>?_) AllReadyIn.nil))|refine wpAnyIn_ready (rs:=[0]) (by decide +kernel) (by simp) (AllReadyIn.cons rfl (fun K hK=>?_) AllReadyIn.nil))
  all_goals (go_simp;refine hK _ _ ?_;clear hK K)
  all_goals (first|refine wpAnyIn_ready (rs:=[3]) (by decide +kernel) (by simp) (AllReadyIn.cons rfl (fun K hK=>?_) AllReadyIn.nil)|refine wpAnyIn_ready (rs:=[2]) (by decide +kernel) (by simp) (AllReadyIn.cons rfl (fun K hK=>?_) AllReadyIn.nil)|refine wpAnyIn_ready (rs:=[1]) (by decide +kernel) (by simp) (AllReadyIn.cons rfl (fun K hK=>?_) AllReadyIn.nil))
  all_goals (go_simp;refine hK _ _ ?_;clear hK K)
  all_goals refine ?restV9
  refine wpAnyIn_ready (rs:=[4]) (by kernel_rfl) (by simp) ?_
  refine AllReadyIn.cons rfl (fun K hK=>?_) ?_
  ·refine appV_step rfl _ _ rfl w.heap.size (.slice av k cv) k (pre.flatMap (fun x=>encP x.p)) rfl HRow.out _ rfl (by simp) (by simp) (by simp) (by simp) hkq Hbs.out ?_
   intro g3 cap3 w3 hown3 hgrow3 hg3 hgl3
   obtain⟨hbx3,hboxes,hgB,hstep⟩:=HStep.out g3 cap3 w3 hown3 hgrow3 hg3
   have hc3:=hbx3.cell
   have hf3:=hbx3.frozen
   have hgB2 : ¬(w.heap.size=g3):=fun e=>hgB e.symm
   have q0:=hown3.cellAt (k*4) (by omega)
   have q1:=hown3.cellAt (k*4+1) (by omega)
   have q2:=hown3.cellAt (k*4+2) (by omega)
   have q3:=hown3.cellAt (k*4+3) (by omega)
   rw [List.getElem?_append_right (by rw [Hxl.out];omega),Hxl.out] at q0 q1 q2 q3
   simp only [Nat.sub_self,Nat.add_sub_cancel_left,List.getElem?_cons_zero,List.getElem?_cons_succ] at q0 q1 q2 q3
   have z0:=hown3.frozenAt (k*4)
   have z1:=hown3.frozenAt (k*4+1)
   have z2:=hown3.frozenAt (k*4+2)
   have z3:=hown3.frozenAt (k*4+3)
   have Hst:Hid _:=hstep
   clear hown3 hgrow3 hg3 hstep hboxes
   refine hK _ _ ?_
   clear hK K
   refine wpAnyIn_ready (rs:=[5,7]) (by kernel_rfl) (by simp) ?_
   refine AllReadyIn.cons rfl (fun K hK=>?_) ?_
   ·go_simp
    refine hK _ _ ?_
    clear hK K
    refine wpAnyIn_ready (rs:=[6,7]) (by kernel_rfl) (by simp) ?_
    refine AllReadyIn.cons rfl (fun K hK=>?_) ?_
    ·go_simp
     refine hK _ _ ?_
     clear hK K
     refine wpAnyIn_ready (rs:=[7]) (by kernel_rfl) (by simp) ?_
     refine AllReadyIn.cons rfl (fun K hK=>?_) ?_
     ·go_simp
      refine hK _ _ ?_
      clear hK K
      refine wpAnyIn_done (by kernel_rfl) ?_ _
      obtain⟨k1,k2,k3,k4⟩:=Hst.out _ (Or.inl rfl)
      exact⟨k1.from _,k2,⟨⟨_,k3⟩,k4⟩,HP.out⟩
     exact AllReadyIn.nil
    refine AllReadyIn.cons rfl (fun K hK=>?_) ?_
    ·go_simp
     refine hK _ _ ?_
     clear hK K
     refine wpAnyIn_ready (rs:=[6]) (by kernel_rfl) (by simp) ?_
     refine AllReadyIn.cons rfl (fun K hK=>?_) ?_
     ·go_simp
      refine hK _ _ ?_
      clear hK K
      refine wpAnyIn_done (by kernel_rfl) ?_ _
      obtain⟨k1,k2,k3,k4⟩:=Hst.out _ (Or.inr rfl)
      exact⟨k1.from _,k2,⟨⟨_,k3⟩,k4⟩,HP.out⟩
     exact AllReadyIn.nil
    exact AllReadyIn.nil
   refine AllReadyIn.cons rfl (fun K hK=>?_) ?_
   ·go_simp
    refine hK _ _ ?_
    clear hK K
    refine wpAnyIn_ready (rs:=[5]) (by kernel_rfl) (by simp) ?_
    refine AllReadyIn.cons rfl (fun K hK=>?_) ?_
    ·go_simp
     refine hK _ _ ?_
     clear hK K
     refine wpAnyIn_ready (rs:=[6]) (by kernel_rfl) (by simp) ?_
     refine AllReadyIn.cons rfl (fun K hK=>?_) ?_
     ·go_simp
      refine hK _ _ ?_
      clear hK K
      refine wpAnyIn_done (by kernel_rfl) ?_ _
      obtain⟨k1,k2,k3,k4⟩:=Hst.out _ (Or.inr rfl)
      exact⟨k1.from _,k2,⟨⟨_,k3⟩,k4⟩,HP.out⟩
     exact AllReadyIn.nil
    exact AllReadyIn.nil
   exact AllReadyIn.nil
  exact AllReadyIn.nil
 case done=>
  rintro D pre W hD hxs ⟨⟨⟨v,hR⟩,hB⟩,hpl⟩ hK
  have htk:pre.map CV.k=l:=hxs
  have hpl2:pre.length≤65536:=by have:=congrArg List.length htk;rw [List.length_map] at this;skip;have:=HL.out;omega
  have hS:SlP w.heap.size 16 W (pre.map CV.p) v:=hR.slp hpl2
  obtain⟨av,cv,rfl,_⟩:=hS.slice
  obtain⟨NL,hNL⟩:∃NL,NL=(pre.map CV.p).length:=⟨_,rfl⟩
  rw [←hNL] at hS hR
  have hc:=hR.1.cell
  have HS:Hid (SlP w.heap.size 16 W (pre.map CV.p) (.slice av NL cv)∧Below w.heap.size w W):=⟨hS,hB⟩
  have HMk:Hid (MarksX w.heap.size W [D]):=MarksX.one (by omega) hK
  have HT:Hid ((pre.map CV.p).map (·.1)=l):=by rw [map_p_k];exact htk
  clear hR hS hB hK hNL htk hxs
  gi_wp2
  refine leavesX w.heap.size (fun V=>SlP w.heap.size 16 V (pre.map CV.p) (.slice av NL cv)∧Below w.heap.size w V) (fun V D hD hK hT=>⟨slp_putObj hT.1 hK rfl,hT.2.trans (below_putX hD)⟩) (fun V hT=>⟨.slice av NL cv,by simp [results,Tryz.results153,go_sem],hT.2,_,_,rfl,HT.out,hT.1⟩) [D] _ HMk.out HS.out
 case stop=>
  rintro D c pre W _ _ h _
  exact h.elim
theorem scollect_16 (l:List VT) (hlen:l.length≤65536) (lb:Array Value) (w:World)
 (hseq:∀(n:Nat) (W:World),6≤n→Below w.heap.size w W→SeqX Fence.wide n Tryz.prog 218 lb encCV (KpY 22 w.heap.size) (PreCV l) (fun xs=>xs.map CV.k=l) (fun _=>True) l.length W) :
 Calls Tryz.prog 97 #[.func (.func 218) #[] lb] w (ItPost w.heap.size l w):=by
 have HA:Hid _:=sappend_16 l hlen lb w hseq
 clear hseq
 go_enter Tryz.func97,Tryz.ntmps97
 go_wp2_with fail
 refine Calls.mono HA.out ?_
 rintro e w1 ⟨hb,ps,v,rfl,hm,hS⟩
 have HE:Hid (ItPost w.heap.size l w (.returned v) w1):=⟨hb,ps,v,rfl,hm,hS⟩
 obtain⟨av,cv,rfl,_⟩:=hS.slice
 clear hb hm hS HA
 go_wp2_with fail
 go_ret
 exact HE.out
theorem SC.seq {w0:World} {q:Nat} {l:List PT} {s:Nat} (h:SC w0 q l s):∃b,w0.cell? ⟨s,0,none⟩=some (.pointer (some ⟨b,0,none⟩))∧l.length≤65536∧∀(n Bm:Nat) (W:World),6≤n→Below w0.heap.size w0 W→W.cell? ⟨Bm,0,none⟩=some (.pointer (some ⟨b,0,none⟩))→SeqX Fence.wide n Tryz.prog 218 #[.pointer (some ⟨Bm,0,none⟩)] encCV (KpY 22 w0.heap.size) (PreCV (l.map (·.1))) (fun xs=>xs.map CV.k=l.map (·.1)) (fun _=>True) (l.map (·.1)).length W:=by
 obtain⟨b,t,h1,hm,rfl,_⟩:=h
 refine⟨b,h1,?_,fun n Bm W hn hW hc=>?_⟩
 ·have:=hm.size
  rwa [RT.size_items] at this
 ·rw [List.length_map]
  exact sall1_16 hm 22 (by decide) (by decide) n Bm hn W hW hc
theorem sitems_16 {w:World} {q:Nat} {l:List PT} {s:Nat} (h:SC w q l s):Calls Tryz.prog 46 #[.pointer (some ⟨s,0,none⟩)] w (ItPost w.heap.size (l.map (·.1)) w):=by
 obtain⟨b,hs,hl,hq⟩:=h.seq
 have hb:Below w.heap.size w (w.alloc (.cells #[.pointer (some ⟨b,0,none⟩)] 112)):=((Grew.refl w).alloc _).below
 have hc9:(w.alloc (.cells #[.pointer (some ⟨b,0,none⟩)] 112)).cell? ⟨w.heap.size,0,none⟩=some (.pointer (some ⟨b,0,none⟩)):=(Go.Boxed.new w 112 _).cell
 have HA:Hid (Calls Tryz.prog 97 #[.func (.func 218) #[] #[.pointer (some ⟨w.heap.size,0,none⟩)]] (w.alloc (.cells #[.pointer (some ⟨b,0,none⟩)] 112)) (ItPost w.heap.size (l.map (·.1)) w)):=by
  obtain⟨b2,hs2,_,hq2⟩:=(h.keeps hb).seq
  have e2:b2=b:=by
   have h9:=zaa hb hs
   rw [hs2] at h9
   injection h9 with h9
   injection h9 with h9
   injection h9 with h9
   injection h9
  subst e2
  refine (scollect_16 (l.map (·.1)) (by rw [List.length_map];exact hl) _ _ (fun n W hn hW=>hq2 n _ W hn hW (zaa hW hc9))).mono fun e w' h=>?_
  obtain⟨h1,ps,v,h2,h3,h4⟩:=h
  exact⟨hb.trans (h1.mono hb.size),ps,v,h2,h3,h4.mono hb.size⟩
 clear hq hb hc9 h
 go_enter Tryz.func46,Tryz.ntmps46
 go_wp2_with fail
 refine (sall_16 s b _ hs).mono ?_
 rintro e w1 ⟨rfl,hw1⟩
 subst hw1
 go_wp2_with fail
 refine Calls.mono HA.out ?_
 rintro e w1 ⟨hb,ps,v,rfl,hm,hS⟩
 have HE:Hid (ItPost w.heap.size (l.map (·.1)) w (.returned v) w1):=⟨hb,ps,v,rfl,hm,hS⟩
 obtain⟨av,cv,rfl,_⟩:=hS.slice
 clear hb hm hS HA
 go_wp2_with fail
 go_ret
 exact HE.out
theorem right_nil (d:Nat):zac d nilT=true:=by
 rw [←rightV_any nilT (Dp.of_lies d (default:World) nilT (.slice none 0 0) (zero_lies d _)) (Dp.of_lies 16 (default:World) nilT (.slice none 0 0) (zero_lies 16 _))]
 kernel_rfl
theorem of_good16 {d:Nat} {o:Int} {qs:List PP} {u:Value} {w:World} (hu:SlQ 0 d w qs u) (h:ofErr d o (qs.map trT)=0):∀p∈qs,Good 16 p.1.1∧Good 16 p.2.1:=by
 obtain⟨_,hp⟩:=ofErr_zero h
 obtain⟨_,hr⟩:=pErr_zero hp
 obtain⟨h16,hr16⟩:=slq_canon hu (fun p hpq=>hr (trT p) (List.mem_map_of_mem hpq))
 exact fun p hpq=>⟨⟨(hr16 p hpq).1,Dp.of_lies 16 w p.1.1 p.1.2 (h16.good p hpq).1.1⟩,⟨(hr16 p hpq).2,Dp.of_lies 16 w p.2.1 p.2.2 (h16.good p hpq).2.1⟩⟩
theorem mof_mp16 (d:Nat) (o:Int) (qs:List PP) (u:Value) (w:World) (hu:SlQ 0 d w qs u):Calls Tryz.prog 49 #[.int .i64 o,u] w (MpPost o.toNat (ofK o.toNat qs) (ofErr d o (qs.map trT)) w):=by
 refine (mof_14 d o qs u w hu).mono fun e w' h=>?_
 obtain⟨hb,⟨h0,rfl⟩|⟨h0,t,b,rfl,hm,hi⟩⟩:=h
 ·exact⟨hb,none,rfl,.inl ⟨h0,rfl⟩⟩
 ·rw [h0]
  exact⟨hb,_,rfl,.inr ⟨rfl,t,b,rfl,hm,kydO_eq (fun p hp=>(of_good16 hu h0 p hp).1) _ _ (by omega) (by omega) hm.rises hi⟩⟩
theorem keys_err {d:Nat} {o:Int} {l:List VT} (ho:zak o=0) (hl : ¬65536<l.length):ofErr d o (l.map nilP)=lookE d o l:=by
 have h1 : ¬(o<0∨6≤o):=fun h=>by unfold zak at ho;rw [if_pos h] at ho;cases ho
 unfold ofErr lookE pErr zar
 rw [if_neg (by omega),if_neg h1,if_neg (by rw [List.length_map];exact hl),if_neg hl]
 have h2:(l.map nilP).all (okP d)=l.all (zac d):=by
  rw [List.all_map]
  congr 1
  funext v
  show (zac d v&&zac d nilT)=zac d v
  rw [right_nil,Bool.and_true]
 rw [h2]
theorem sof_list16 (d:Nat) (o:Int) (l:List VT) (u:Value) (w:World) (hu:Lies (d+1) w l u):Calls Tryz.prog 9 #[.int .i64 o,u] w (SpPost o.toNat (setL o.toNat l) (lookE d o l) w):=by
 obtain⟨a0,c0,rfl,_⟩:=Lies.slice hu
 have HNw:Hid _:=mnew_14 o w
 by_cases ho:zak o=0
 ·have hoN:(o<0∨6≤o)=False:=by
   refine eq_false fun h=>?_
   unfold zak at ho
   rw [if_pos h] at ho
   cases ho
  rw [ho] at HNw
  by_cases hl:65536<l.length
  ·have hE:lookE d o l=2:=by unfold lookE zar;rw [if_neg (by rw [hoN];exact id),if_pos hl]
   rw [hE]
   have hli:(65536:Int)<(l.length:Nat):=by omega
   clear hu ho hoN hE hl
   generalize setL o.toNat l=SL at *
   generalize l.length=N at *
   go_enter Tryz.func9,Tryz.ntmps9
   go_wp2_with fail
   refine Calls.mono HNw.out ?_
   rintro e w1 ⟨hb,p,rfl,_⟩
   have HE:Hid (SpPost o.toNat SL 2 w (.returned (.tuple #[.pointer none,.int .i64 2])) w1):=⟨hb,none,rfl,.inl ⟨by decide,rfl⟩⟩
   clear hb HNw
   go_wp2_with fail
   go_ret2
   exact HE.out
  ·obtain⟨ps,hps,hpl,hsp⟩:=SlP.of_lies hu
   have HKy:Hid (∀V,Below w.heap.size w V→Calls Tryz.prog 59 #[.slice a0 l.length c0] V (KyPost ps d V)):=fun V hV=>keyed_16 d ps _ V (hsp.keeps hV) (by omega)
   have hmap:(ps.map keyP).map trT=l.map nilP:=by rw [keyP_map,hps]
   have HOf:Hid (∀V v,SlQ 0 d V (ps.map keyP) v→Calls Tryz.prog 49 #[.int .i64 o,v] V (MpPost o.toNat (setL o.toNat l) (lookE d o l) V)):=fun V v hv=>by
    have h9:=mof_mp16 d o (ps.map keyP) v V hv
    rw [hmap,keys_err ho hl,ofK_is,hmap] at h9
    exact h9
   have HN:Hid (Nils (setL o.toNat l)):=setL_nils _ _
   have hli : ¬(65536:Int)<(l.length:Nat):=by omega
   clear hu ho hoN hl hps hpl hsp hmap
   generalize setL o.toNat l=SL at *
   generalize lookE d o l=E at *
   generalize l.length=N at *
   go_enter Tryz.func9,Tryz.ntmps9
   go_wp2_with fail
   refine Calls.mono HNw.out ?_
   rintro e w1 ⟨hb1,p,rfl,_⟩
   clear HNw
   go_wp2_with fail
   refine Calls.mono (HKy.out _ hb1) ?_
   rintro e w2 ⟨hg2,v2,rfl,hv2⟩
   have hb2:Below w.heap.size w w2:=hb1.trans (hg2.mono hb1.size)
   have HO2:Hid _:=HOf.out w2 v2 hv2
   clear HKy HOf hg2 hv2 hb1
   go_wp2_with fail
   refine Calls.mono HO2.out ?_
   rintro e w3 ⟨hg3,p3,rfl,hp3⟩
   have HM:Hid _:=smade_16 hp3 HN.out
   have hb3:Below w.heap.size w w3:=hb2.trans (hg3.mono hb2.size)
   clear hg3 hp3 HO2 hb2
   go_wp2_with fail
   refine Calls.mono HM.out ?_
   rintro e w4 ⟨hg4,p4,rfl,hp4⟩
   have HE:Hid (SpPost o.toNat SL E w (.returned (.tuple #[.pointer p4,.int .i64 E])) w4):=⟨hb3.trans (hg4.mono hb3.size),p4,rfl,hp4⟩
   clear hg4 hp4 HM hb3
   go_wp2_with fail
   go_ret2
   exact HE.out
 ·have hE:lookE d o l=zak o:=by
   unfold lookE zak
   have h1:o<0∨6≤o:=Classical.byContradiction fun h=>ho (by unfold zak;rw [if_neg h])
   rw [if_pos h1,if_pos h1]
  rw [hE]
  have HZ:Hid (¬zak o=0):=ho
  clear hu hE ho
  generalize setL o.toNat l=SL at *
  generalize zak o=E at *
  generalize l.length=N at *
  go_enter Tryz.func9,Tryz.ntmps9
  go_wp2_with fail
  refine Calls.mono HNw.out ?_
  rintro e w1 ⟨hb,p,rfl,_⟩
  have hz:=HZ.out
  have HE:Hid (SpPost o.toNat SL E w (.returned (.tuple #[.pointer none,.int .i64 E])) w1):=⟨hb,none,rfl,.inl ⟨HZ.out,rfl⟩⟩
  clear hb HNw
  go_wp2_with fail
  go_ret2
  exact HE.out
def keyO (o:Option PT):VT:=match o with|some x=>x.1|none=>zeroT
def errO (o:Option PT) (E:Int):Int:=match o with|some _=>0|none=>E
def MbPost (o:Option PT) (E:Int) (w:World) (e:Ending) (w':World):Prop:=Tells 16 (keyO o,errO o E) w e w'
theorem itemAt_natL (l:List PT) (j:Nat):itemAt l (j:Int)=l[j]?:=by
 unfold itemAt
 rw [if_pos (by omega)]
 rfl
theorem upS_le (q:Nat) (y:VT) (l:List PT):upS q y l≤l.length:=List.length_filter_le _ _
theorem sat_16 {w:World} {q:Nat} {l:List PT} {s:Nat} (h:SC w q l s) (i:Int):Calls Tryz.prog 28 #[.pointer (some ⟨s,0,none⟩),.int .i64 i] w (MbPost (itemAt l i) 5 w):=by
 obtain⟨b,t,hs,hm,rfl,_⟩:=h
 have HF:Hid (∀V,Below w.heap.size w V→Calls Tryz.prog 85 #[.pointer (some ⟨b,0,none⟩),.int .i64 i] V (AtPost15 (itemAt t.items i) V)):=fun V hV=>rat_15 b q t i V (hm.keeps hV)
 obtain⟨W0,hW0⟩:∃W0,W0=w.alloc (.cells #[.int .i64 0,.int .i64 0,.string ⟨#[]⟩,.slice none 0 0] 33):=⟨_,rfl⟩
 have HW0:Hid (W0=w.alloc (.cells #[.int .i64 0,.int .i64 0,.string ⟨#[]⟩,.slice none 0 0] 33)):=hW0
 have hb1:Below w.heap.size w W0:=by rw [hW0];exact ((Grew.refl w).alloc _).below
 have HX:Hid (Bx W0 w.heap.size zeroT (.slice none 0 0)):=by rw [hW0];exact bx_alloc w zeroT _
 have HSz:Hid (W0.heap.size=w.heap.size+1):=by rw [hW0];exact World.size_alloc _ _
 have hs1:=zaa hb1 hs
 clear hm hs hW0
 generalize itemAt t.items i=O at *
 go_enter Tryz.func28,Tryz.ntmps28
 go_upto_region 1 with fail
 rw [←HW0.out]
 clear HW0
 go_wp2_with fail
 refine (sown_16 _ _).mono ?_
 rintro e w1 ⟨rfl,hw⟩
 obtain rfl:W0=w1:=hw.symm
 have HFc:=show Hid _ from HF.out W0 hb1
 clear HF
 go_wp2_with fail
 refine Calls.mono HFc.out ?_
 rintro e w2 ⟨hg2,⟨ho,rfl⟩|⟨x,ku,vu,ho,rfl,hl1,hl2⟩⟩
 ·have HX2:Hid _:=HX.out.keeps hg2
  have hb2:Below w.heap.size w w2:=hb1.trans (hg2.mono hb1.size)
  have HO:Hid (O=none):=ho
  clear hg2 HFc HX ho hs1 hb1
  obtain⟨W3,hW3⟩:∃W3,W3=w2.alloc (.cells #[.int .i64 0,.int .i64 0,.string ⟨#[]⟩,.slice none 0 0,.int .i64 0,.int .i64 0,.string ⟨#[]⟩,.slice none 0 0] 108):=⟨_,rfl⟩
  have HW3:Hid (W3=w2.alloc (.cells #[.int .i64 0,.int .i64 0,.string ⟨#[]⟩,.slice none 0 0,.int .i64 0,.int .i64 0,.string ⟨#[]⟩,.slice none 0 0] 108)):=hW3
  have hg3:Below w2.heap.size w2 W3:=by rw [hW3];exact ((Grew.refl w2).alloc _).below
  have p0:W3.cell? ⟨w2.heap.size,0,none⟩=some (.int .i64 0):=by rw [hW3];simp
  have p1:W3.cell? ⟨w2.heap.size,1,none⟩=some (.int .i64 0):=by rw [hW3];simp
  have p2:W3.cell? ⟨w2.heap.size,2,none⟩=some (.string ⟨#[]⟩):=by rw [hW3];simp
  have p3:W3.cell? ⟨w2.heap.size,3,none⟩=some (.slice none 0 0):=by rw [hW3];simp
  have HK3:Hid (Bx W3 w.heap.size zeroT (.slice none 0 0)):=HX2.out.keeps hg3
  have hb3:Below w.heap.size w W3:=hb2.trans (hg3.mono hb2.size)
  clear hW3 hg3 hb2 HX2
  go_upto_region 2 with fail
  rw [←HW3.out]
  clear HW3
  obtain⟨y0,y1,y2,y3,z0,z1,z2,z3⟩:=HK3.out
  have Hbx:Hid (Bx (W3.setCells w.heap.size 0 (encP (zeroT,.slice none 0 0))) w.heap.size zeroT (.slice none 0 0)):=HK3.out.put (zeroT,.slice none 0 0)
  have HT:Hid (MbPost O 5 w (.returned (.tuple #[.agg #[.int .i64 0,.int .i64 0,.string ⟨#[]⟩,.slice none 0 0],.int .i64 5])) (W3.setCells w.heap.size 0 (encP (zeroT,.slice none 0 0)))):=by
   have Hbl:Below w.heap.size w (W3.setCells w.heap.size 0 (encP (zeroT,.slice none 0 0))):=below_put hb3 (by omega) (zeroT,.slice none 0 0)
   rw [HO.out]
   exact tells_zero _ _ Hbl
  clear hb3 HO
  go_wp2_with fail
  refine bodyPost_ret (v:=(.tuple #[.agg #[.int .i64 0,.int .i64 0,.string ⟨#[]⟩,.slice none 0 0],.int .i64 5])) ?_ rfl HT.out
  obtain⟨q0,q1,q2,q3,_,_,_,_⟩:=Hbx.out
  simp only [encP,World.setCells,Nat.zero_add,Nat.reduceAdd] at q0 q1 q2 q3
  simp [results,Tryz.results28,go_sem,q0,q1,q2,q3]
 ·obtain⟨a1,c1,rfl,_⟩:=LiesB.slice hl1
  obtain⟨a2,c2,rfl,_⟩:=LiesB.slice hl2
  have HX2:Hid _:=HX.out.keeps hg2
  have hb2:Below w.heap.size w w2:=hb1.trans (hg2.mono hb1.size)
  have HO:Hid (O=some x):=ho
  have HL:Hid (LiesB W0.heap.size 16 w2 x.1.items (.slice a1 x.1.items.length c1)):=hl1
  clear hg2 HFc HX ho hs1 hb1 hl1 hl2
  obtain⟨W3,hW3⟩:∃W3,W3=w2.alloc (.cells #[.int .i64 x.1.kind,.int .i64 x.1.num,.string x.1.text,.slice a1 x.1.items.length c1,.int .i64 x.2.kind,.int .i64 x.2.num,.string x.2.text,.slice a2 x.2.items.length c2] 108):=⟨_,rfl⟩
  have HW3:Hid (W3=w2.alloc (.cells #[.int .i64 x.1.kind,.int .i64 x.1.num,.string x.1.text,.slice a1 x.1.items.length c1,.int .i64 x.2.kind,.int .i64 x.2.num,.string x.2.text,.slice a2 x.2.items.length c2] 108)):=hW3
  have hg3:Below w2.heap.size w2 W3:=by rw [hW3];exact ((Grew.refl w2).alloc _).below
  have p0:W3.cell? ⟨w2.heap.size,0,none⟩=some (.int .i64 x.1.kind):=by rw [hW3];simp
  have p1:W3.cell? ⟨w2.heap.size,1,none⟩=some (.int .i64 x.1.num):=by rw [hW3];simp
  have p2:W3.cell? ⟨w2.heap.size,2,none⟩=some (.string x.1.text):=by rw [hW3];simp
  have p3:W3.cell? ⟨w2.heap.size,3,none⟩=some (.slice a1 x.1.items.length c1):=by rw [hW3];simp
  have HK3:Hid (Bx W3 w.heap.size zeroT (.slice none 0 0)):=HX2.out.keeps hg3
  have hb3:Below w.heap.size w W3:=hb2.trans (hg3.mono hb2.size)
  have HL3:Hid (LiesX (fun b=>b≠w.heap.size) 16 W3 x.1.items (.slice a1 x.1.items.length c1)):=(LiesX.of_b (LiesB.keepsB hg3 HL.out)).mono (fun b h=>by have:=HSz.out;omega)
  clear hW3 hg3 hb2 HX2 HL
  go_upto_region 2 with fail
  rw [←HW3.out]
  clear HW3
  obtain⟨y0,y1,y2,y3,z0,z1,z2,z3⟩:=HK3.out
  have Hbx:Hid (Bx (W3.setCells w.heap.size 0 (encP (x.1,.slice a1 x.1.items.length c1))) w.heap.size x.1 (.slice a1 x.1.items.length c1)):=HK3.out.put (x.1,.slice a1 x.1.items.length c1)
  have HT:Hid (MbPost O 5 w (.returned (.tuple #[.agg #[.int .i64 x.1.kind,.int .i64 x.1.num,.string x.1.text,.slice a1 x.1.items.length c1],.int .i64 0])) (W3.setCells w.heap.size 0 (encP (x.1,.slice a1 x.1.items.length c1)))):=by
   have Hbl:Below w.heap.size w (W3.setCells w.heap.size 0 (encP (x.1,.slice a1 x.1.items.length c1))):=below_put hb3 (by omega) (x.1,.slice a1 x.1.items.length c1)
   rw [HO.out]
   exact⟨_,rfl,(LiesX.set (g:=w.heap.size) (fun h=>h rfl) HL3.out).lies,Hbl⟩
  clear hb3 HO HL3
  go_wp2_with fail
  refine bodyPost_ret (v:=(.tuple #[.agg #[.int .i64 x.1.kind,.int .i64 x.1.num,.string x.1.text,.slice a1 x.1.items.length c1],.int .i64 0])) ?_ rfl HT.out
  obtain⟨q0,q1,q2,q3,_,_,_,_⟩:=Hbx.out
  simp only [encP,World.setCells,Nat.zero_add,Nat.reduceAdd] at q0 q1 q2 q3
  simp [results,Tryz.results28,go_sem,q0,q1,q2,q3]
abbrev nw16 (n:Int):VT:=⟨2,n,⟨#[]⟩,[]⟩
theorem three_16 (x y z:Int) (b cap:Nat) (w:World) (h0:w.cell? ⟨b,0,none⟩=some (.int .i64 x)) (h1:w.cell? ⟨b,1,none⟩=some (.int .i64 y)) (h2:w.cell? ⟨b,2,none⟩=some (.int .i64 z)) :
 Calls Tryz.prog 62 #[.slice (some ⟨b,0,none⟩) 3 cap] w fun e w'=>∃a c,e=.returned (.slice a 3 c)∧Lies 17 w' [nw16 x,nw16 y,nw16 z] (.slice a 3 c)∧Below w.heap.size w w':=by
 refine (ints_any b [x,y,z] cap w (by simp) (fun i hi=>?_)).mono ?_
 ·match i,hi with
  | 0,_=>exact h0
  | 1,_=>exact h1
  | 2,_=>exact h2
 rintro e w' ⟨v,rfl,hown,hb⟩
 have hown2:w'.ownsRow w.heap.size 33 4 v 3 ([(nw16 x,Value.slice none 0 0),(nw16 y,Value.slice none 0 0),(nw16 z,Value.slice none 0 0)].flatMap encP):=hown
 have hl:=own_liesX (X:=fun _=>True) (d:=16) hown2 rfl (fun _ _=>trivial) (fun p hp=>by
  simp only [List.mem_cons,List.not_mem_nil,or_false] at hp
  rcases hp with rfl|rfl|rfl <;> exact⟨⟨none,0,rfl,by simp,fun h=>absurd rfl h⟩,(show (0:Nat)≤9223372036854775807 by decide)⟩) (by simp)
 obtain⟨a,c,rfl,_⟩:=LiesX.slice hl
 exact⟨a,c,rfl,hl.lies,hb⟩
def three16:List PT:=[nilP (nw16 0),nilP (nw16 1),nilP (nw16 (-2))]
theorem three_set:setL (5:Int).toNat [nw16 (-2),nw16 1,nw16 0]=three16:=by kernel_rfl
theorem three_look:lookE 16 5 [nw16 (-2),nw16 1,nw16 0]=0:=by kernel_rfl
theorem three_rank:rankN 16 5 (nw16 (-1)) three16=1:=by kernel_rfl
theorem three_right:errOf (zac 16 (nw16 (-1)))=0:=by kernel_rfl
theorem speaks16_any (w:World):Calls Tryz.prog 11 #[] w fun e w'=>e=.returned (.bool true)∧Below w.heap.size w w':=by
 have HI:Hid (∀n W,Calls Tryz.prog 63 #[.int .i64 n] W fun e w'=>e=.returned (.agg #[.int .i64 2,.int .i64 n,.string ⟨#[]⟩,.slice none 0 0])∧Below W.heap.size W w'):=fun n W=>Calls.mono (int_any n W) fun _ _ h=>⟨h.1,h.2.below⟩
 obtain⟨W1,hW1⟩:∃W1,W1=w.alloc (.cells #[.int .i64 (-2),.int .i64 1,.int .i64 0] 2):=⟨_,rfl⟩
 have HW1:Hid (W1=w.alloc (.cells #[.int .i64 (-2),.int .i64 1,.int .i64 0] 2)):=hW1
 have HB1:Hid (Below w.heap.size w W1):=by rw [hW1];exact ((Grew.refl w).alloc _).below
 have HC:Hid (Calls Tryz.prog 62 #[.slice (some ⟨w.heap.size,0,none⟩) 3 3] W1 fun e w'=>∃a c,e=.returned (.slice a 3 c)∧Lies 17 w' [nw16 (-2),nw16 1,nw16 0] (.slice a 3 c)∧Below W1.heap.size W1 w'):=three_16 _ _ _ _ _ _ (by rw [hW1];simp) (by rw [hW1];simp) (by rw [hW1];simp)
 clear hW1
 go_enter Tryz.func11,Tryz.ntmps11
 go_wp2_with fail
 rw [←HW1.out]
 clear HW1
 refine Calls.mono HC.out ?_
 rintro e w2 ⟨a2,c2,rfl,hl2,hg2⟩
 have hb2:Below w.heap.size w w2:=HB1.out.trans (hg2.mono HB1.out.size)
 have HOf:Hid (Calls Tryz.prog 9 #[.int .i64 5,.slice a2 3 c2] w2 (SpPost 5 three16 0 w2)):=by
  have h9:=sof_list16 16 5 _ _ w2 hl2
  rw [three_set,three_look] at h9
  exact h9
 clear HC HB1 hl2 hg2
 go_wp2_with fail
 refine Calls.mono HOf.out ?_
 rintro e w3 ⟨hg3,p3,rfl,⟨h0,_⟩|⟨_,s,rfl,hs⟩⟩
 ·exact absurd rfl h0
 have hb3:Below w.heap.size w w3:=hb2.trans (hg3.mono hb2.size)
 have HR:Hid (∀V,Below w3.heap.size w3 V→Calls Tryz.prog 30 #[.pointer (some ⟨s,0,none⟩),.agg #[.int .i64 2,.int .i64 (-1),.string ⟨#[]⟩,.slice none 0 0]] V (RkPost 1 0 V)):=fun V hV=>by
  have h9:=srank_16 (hs.keeps hV) 16 (nw16 (-1)) (.slice none 0 0) (zero_lies 16 V) (show (0:Nat)≤9223372036854775807 by decide)
  rw [three_rank,three_right] at h9
  exact h9
 have HF:Hid (∀V,Below w3.heap.size w3 V→Calls Tryz.prog 15 #[.pointer (some ⟨s,0,none⟩)] V fun e w'=>∃a c,e=.returned (.tuple #[.agg #[.int .i64 2,.int .i64 0,.string ⟨#[]⟩,.slice a 0 c],.int .i64 0])∧Below V.heap.size V w'):=fun V hV=>by
  refine (sfirst_16 (hs.keeps hV)).mono ?_
  rintro e w' ⟨hb,⟨ho,_⟩|⟨x,a,c,ho,rfl,_⟩⟩
  ·exact absurd ho (by unfold itemAt three16;simp)
  ·have hx:x=nilP (nw16 0):=by unfold itemAt three16 at ho;simp at ho;exact ho.symm
   subst hx
   exact⟨a,c,rfl,hb⟩
 have HIt:Hid (∀V,Below w3.heap.size w3 V→Calls Tryz.prog 46 #[.pointer (some ⟨s,0,none⟩)] V fun e w'=>∃a c,e=.returned (.slice a 3 c)∧Lies 17 w' [nw16 0,nw16 1,nw16 (-2)] (.slice a 3 c)∧Below V.heap.size V w'):=fun V hV=>by
  refine (sitems_16 (hs.keeps hV)).mono ?_
  rintro e w' ⟨hb,ps,v,rfl,hm,hS⟩
  have hl:=hS.lies
  rw [hm] at hl
  obtain⟨a,c,rfl,_⟩:=hS.slice
  have hp:ps.length=3:=by have:=congrArg List.length hm;rw [List.length_map] at this;rw [this];rfl
  rw [hp] at hl ⊢
  exact⟨a,c,rfl,hl,hb⟩
 clear hs hg3 HOf hb2
 go_wp2_with fail
 refine Calls.mono (HI.out _ _) ?_
 rintro e w4 ⟨rfl,hg4⟩
 have hb4:Below w.heap.size w w4:=hb3.trans (hg4.mono hb3.size)
 go_wp2_with fail
 refine Calls.mono (HR.out _ hg4) ?_
 rintro e w5 ⟨rfl,hg5'⟩
 have hg5:Below w3.heap.size w3 w5:=hg4.trans (hg5'.mono hg4.size)
 have hb5:Below w.heap.size w w5:=hb4.trans (hg5'.mono hb4.size)
 clear hg5' hg4 hb4 HR
 go_wp2_with fail
 refine Calls.mono (HF.out _ hg5) ?_
 rintro e w6 ⟨a6,c6,rfl,hg6'⟩
 have hg6:Below w3.heap.size w3 w6:=hg5.trans (hg6'.mono hg5.size)
 have hb6:Below w.heap.size w w6:=hb5.trans (hg6'.mono hb5.size)
 obtain⟨W7,hW7⟩:∃W7,W7=w6.alloc (.cells #[.int .i64 2,.int .i64 0,.string ⟨#[]⟩,.slice a6 0 c6] 33):=⟨_,rfl⟩
 have HW7:Hid (W7=w6.alloc (.cells #[.int .i64 2,.int .i64 0,.string ⟨#[]⟩,.slice a6 0 c6] 33)):=hW7
 have hal:Below w6.heap.size w6 W7:=by rw [hW7];exact ((Grew.refl w6).alloc _).below
 have k7:W7.cell? ⟨w6.heap.size,1,none⟩=some (.int .i64 0):=by rw [hW7];exact (bx_alloc _ (nw16 0) _).c1
 have hg7:Below w3.heap.size w3 W7:=hg6.trans (hal.mono hg6.size)
 have hb7:Below w.heap.size w W7:=hb6.trans (hal.mono hb6.size)
 clear hg6' hg6 hb6 HF hW7 hal hg5 hb5
 go_upto_region 6 with fail
 rw [←HW7.out]
 clear HW7
 go_wp2_with fail
 refine Calls.mono (HIt.out _ hg7) ?_
 rintro e w8 ⟨a8,c8,rfl,hl8,hg8'⟩
 have hb8:Below w.heap.size w w8:=hb7.trans (hg8'.mono hb7.size)
 have HL8:Hid (Lies 17 w8 [nw16 0,nw16 1,nw16 (-2)] (.slice a8 3 c8)):=hl8
 clear hg8' hg7 hb7 HIt hl8 k7
 go_wp2_with fail
 obtain⟨W9,hW9⟩:∃W9,W9=w8.alloc (.cells #[.int .i64 0,.int .i64 1,.int .i64 (-2)] 2):=⟨_,rfl⟩
 have HB9:Hid (Below w8.heap.size w8 W9):=by rw [hW9];exact ((Grew.refl w8).alloc _).below
 have HC9:Hid (Calls Tryz.prog 62 #[.slice (some ⟨w8.heap.size,0,none⟩) 3 3] W9 fun e w'=>∃a c,e=.returned (.slice a 3 c)∧Lies 17 w' [nw16 0,nw16 1,nw16 (-2)] (.slice a 3 c)∧Below W9.heap.size W9 w'):=three_16 _ _ _ _ _ _ (by rw [hW9];simp) (by rw [hW9];simp) (by rw [hW9];simp)
 rw [←hW9]
 clear hW9
 refine Calls.mono HC9.out ?_
 rintro e w10 ⟨a10,c10,rfl,hl10,hg10⟩
 have hg:Below w8.heap.size w8 w10:=HB9.out.trans (hg10.mono HB9.out.size)
 have HV:Hid (Calls Tryz.prog 47 #[.slice a8 3 c8,.slice a10 3 c10] w10 fun e w'=>e=.returned (.bool true)∧Below w10.heap.size w10 w'):=values_same 16 _ _ _ _ (Lies.keeps hg _ _ _ HL8.out) hl10 (by simp)
 have hb10:Below w.heap.size w w10:=hb8.trans (hg.mono hb8.size)
 clear hl10 hg10 hg HC9 HB9 HL8 hb8
 go_wp2_with fail
 refine Calls.mono HV.out ?_
 rintro e w11 ⟨rfl,hg11⟩
 have hb11:Below w.heap.size w w11:=hb10.trans (hg11.mono hb10.size)
 clear HV hg11 hb10
 go_wp2_with fail
 first|(go_ret;exact⟨by simp,hb11⟩)|(go_ret;exact⟨rfl,hb11⟩)
theorem val_told16 {d:Nat} (t:VT) (u v:Value) (W:World) (h1:Lies d W t.items u) (h2:Lies d W t.items v):Calls Tryz.prog 19 #[.agg #[.int .i64 t.kind,.int .i64 t.num,.string t.text,u],.agg #[.int .i64 t.kind,.int .i64 t.num,.string t.text,v]] W fun e W'=>e=.returned (.bool true)∧Below W.heap.size W W':=(same_any d t t _ _ W h1 h2).mono fun e W' h=>⟨by rw [h.1,sameV_self],h.2.below⟩
theorem muni_14 {w:World} {q r:Nat} {ta tb:RT PT} {a b:Nat} (ha:MC w q ta a) (hb:MC w r tb b):Calls Tryz.prog 92 #[.pointer (some ⟨a,0,none⟩),.pointer (some ⟨b,0,none⟩)] w (MpPost q (uniL q ta.items tb.items) (uniE (uniL q ta.items tb.items)) w):=by
 have HT:Hid (Calls Tryz.prog 147 #[.pointer (some ⟨b,0,none⟩),.int .i64 (q:Int)] w fun e w'=>Below w.heap.size w w'∧∃s b2 pb,e=.returned (.tuple #[.pointer (some ⟨b2,0,none⟩),.int .i64 0])∧MC w' q s b2∧w'.cell? ⟨b2,1,none⟩=some (.pointer pb)∧NM TT 16 w' s pb∧∀y,y∈s.items↔y∈tb.items):=by
  refine (turn_14 (q:Int) hb).mono fun e w' h=>?_
  have hq6:=ha.q6
  obtain⟨hb,⟨h0,_⟩|⟨_,s,b2,rfl,hm,hi⟩⟩:=h
  ·exact absurd (show zak (q:Int)=0 by unfold zak;rw [if_neg (by omega)]) h0
  ·rw [show ((q:Nat):Int).toNat=q by omega] at hm
   obtain⟨pb,h1,h2⟩:=hm.top
   exact⟨hb,s,b2,pb,rfl,hm,h1,h2,hi⟩
 obtain⟨pa,hpa,na⟩:=ha.top
 have hoa:=ha.ord
 have za:=ha.size
 have HA:Hid (MC w q ta a):=ha
 have HNa:Hid (NM TT 16 w ta pa):=na
 have HEq:Hid (∀s:RT PT,RT.Rises (byK q) s.items→(∀y,y∈s.items↔y∈tb.items)→(RT.union (byK q) s ta).items=uniL q ta.items tb.items):=fun s h1 h2=>union_uniL h1 ha.rises h2 hb.rises (fun x hx=>(ha.right x hx).1) (fun x hx=>(hb.right x hx).1)
 have HP:Hid (∀E l e w',MpPost q l E w e w'→MpPost q l E w e w'):=fun _ _ _ _ h=>h
 generalize uniL q ta.items tb.items=UL at *
 have HUE:Hid (uniE UL=if 65536<UL.length then 2 else 0):=rfl
 generalize uniE UL=E at *
 clear ha hb na
 go_enter Tryz.func92,Tryz.ntmps92
 go_wp2_with fail
 refine (own_14 _ _).mono ?_
 rintro e w1 ⟨rfl,hw⟩
 obtain rfl:w=w1:=hw.symm
 go_wp2_with fail
 refine Calls.mono HT.out ?_
 rintro e w1 ⟨hb1,s,b2,pb,rfl,hms,hpb,nb,hsi⟩
 have hus:=union_sizes (byK q) s ta
 have zs:=hms.size
 have hae:(RT.union (byK q) s ta).items=UL:=HEq.out s hms.rises hsi
 have HU:Hid (∀V bb,Below w1.heap.size w1 V→V.cell? ⟨bb,0,none⟩=some (.int .i64 (q:Int))→Calls Tryz.prog 148 #[.pointer pa,.pointer pb,.func (.func 215) #[] #[.pointer (some ⟨bb,0,none⟩)]] V (zab TT 16 (RT.union (byK q) s ta) V)):=fun V bb hV hbb=>union_14 TT 16 215 eg_byK1 _ (byK q) _ s ta pb pa V (byK_cmpC q bb hms.q6 V hbb) (nb.keeps hV) (HNa.out.keeps (hb1.trans (hV.mono hb1.size))) hms.well HA.out.well (fun x hx=>(hms.right x hx).1.1) (fun x hx=>(HA.out.right x hx).1.1) (by omega)
 have HO:Hid (∀V p,Below w.heap.size w V→NM TT 16 V (RT.union (byK q) s ta) p→Calls Tryz.prog 133 #[.pointer (some ⟨a,0,none⟩),.pointer p] V (RawPost q (RT.union (byK q) s ta).black V)):=fun V p hV hp=>of_raw a q _ p V (zaa hV HA.out.ord) hp (by omega)
 have hblk:(RT.union (byK q) s ta).black.items=(RT.union (byK q) s ta).items:=RT.black_items _
 have hbsz:(RT.union (byK q) s ta).black.size=(RT.union (byK q) s ta).size:=by rw [RT.size_items,hblk,←RT.size_items]
 have hwell:RT.Well (RT.union (byK q) s ta):=RT.union_well (byK q) s ta hms.well HA.out.well
 have hwellb:RT.Well (RT.union (byK q) s ta).black:=⟨hwell.1.black,by obtain⟨_,n,hB⟩:=hwell;obtain⟨m,hm⟩:=hB.black;exact⟨m,hm⟩⟩
 have HMC:Hid (∀V b',RawM V q (RT.union (byK q) s ta).black b'→(RT.union (byK q) s ta).size≤65536→MC V q (RT.union (byK q) s ta).black b'):=fun V b' h hz=>by
  refine⟨h.1,h.2,hwellb,RT.black_red14 _,hms.q6,?_,?_,by rw [hbsz];exact hz⟩
  ·rw [hblk]
   intro x hx
   rcases (RT.mem_union (byK_cmp q) s ta hms.rises HA.out.rises x).1 hx with h1|h1
   ·exact hms.right x h1
   ·exact HA.out.right x h1.1
  ·rw [hblk];exact RT.union_rises (byK_cmp q) s ta hms.rises HA.out.rises
 have HLn:Hid (∀V b',RawM V q (RT.union (byK q) s ta).black b'→Calls Tryz.prog 53 #[.pointer (some ⟨b',0,none⟩)] V fun e w'=>e=.returned (.int .i64 ((RT.union (byK q) s ta).size:Nat))∧Below V.heap.size V w'):=fun V b' h=>by have h9:=len_raw h;rwa [hbsz] at h9
 have HBl:Hid ((RT.union (byK q) s ta).black.items=UL):=hblk.trans hae
 have HZs:Hid ((RT.union (byK q) s ta).size=UL.length):=by show _=_;rw [RT.size_items,hae]
 have hzz:(RT.union (byK q) s ta).size≤131072:=by omega
 generalize RT.union (byK q) s ta=T at *
 obtain⟨Z,hZ⟩:∃Z,Z=T.size:=⟨_,rfl⟩
 have HZ:Hid (Z=T.size):=hZ
 rw [←hZ] at HLn HMC hzz HZs
 have hpa:=zaa hb1 hpa;have hoa:=zaa hb1 hoa
 clear nb hblk hbsz hwell hwellb hus za zs hZ hms hsi hae HT HA HNa HEq HP
 go_wp2_with fail
 go_region_held3 (fun w'=>w'.cell? ⟨a,0,none⟩=some (.int .i64 (q:Int))∧w'.cell? ⟨a,1,none⟩=some (.pointer pa)∧w'.cell? ⟨b2,1,none⟩=some (.pointer pb)) (go_keep)
  (first
   | (go_at_call 149;refine (byKeys_14 _ _).mono ?_;rintro e w2 ⟨rfl,hw2⟩;have hg2:Below w1.heap.size w1 w2:=(by rw [hw2];exact (Below.refl w1.heap.size w1).drew.trans ((Grew.refl w1.drew).alloc _).below);have hb2:Below w.heap.size w w2:=hb1.trans (hg2.mono hb1.size);have hbb:w2.cell? ⟨w1.heap.size,0,none⟩=some (.int .i64 (q:Int)):=(by rw [hw2];exact (Go.Boxed.new w1.drew 3 (.int .i64 (q:Int))).cell);have hpa:=zaa hg2 hpa;have hpb:=zaa hg2 hpb;have hoa:=zaa hg2 hoa;clear hw2)
   | (go_at_call 148;(with_reducible refine Calls.mono (HU.out _ _ hg2 hbb) ?_);rintro e w3 ⟨hg3,p3,rfl,ht3⟩;have hb3:Below w.heap.size w w3:=hb2.trans (hg3.mono hb2.size);have HT3:Hid (NM TT 16 w3 T p3):=ht3;have hpa:=zaa hg3 hpa;have hpb:=zaa hg3 hpb;have hoa:=zaa hg3 hoa;clear ht3 hg3)
   | (go_at_call 133;(with_reducible refine Calls.mono (HO.out _ _ hb3 HT3.out) ?_);rintro e w4 ⟨hg4,b4,rfl,hr4⟩;have hb4:Below w.heap.size w w4:=hb3.trans (hg4.mono hb3.size);have HR4:Hid (RawM w4 q T.black b4):=hr4;have hpa:=zaa hg4 hpa;have hpb:=zaa hg4 hpb;have hoa:=zaa hg4 hoa;clear hr4 hg4))
 clear hpa hpb hoa
 go_wp2_with fail
 refine Calls.mono (HLn.out _ _ HR4.out) ?_
 rintro e w5 ⟨rfl,hg5⟩
 have hb5:Below w.heap.size w w5:=hb4.trans (hg5.mono hb4.size)
 by_cases hbig:65536<Z
 ·have e9:E=2:=by rw [HUE.out,if_pos (by have:=HZs.out;omega)]
  subst e9
  have HE:Hid (MpPost q UL 2 w (.returned (.tuple #[.pointer none,.int .i64 2])) w5):=⟨hb5,none,rfl,.inl ⟨by decide,rfl⟩⟩
  have hbi:65536<(Z:Int):=by omega
  clear hbig
  go_wp2_with fail
  go_ret2
  exact HE.out
 ·have e9:E=0:=by rw [HUE.out,if_neg (by have:=HZs.out;omega)]
  subst e9
  have HE:Hid (MpPost q UL 0 w (.returned (.tuple #[.pointer (some ⟨b4,0,none⟩),.int .i64 0])) w5):=⟨hb5,_,rfl,.inr ⟨rfl,T.black,b4,rfl,(HMC.out w4 b4 HR4.out (by omega)).keeps hg5,HBl.out⟩⟩
  have hbi : ¬65536<(Z:Int):=by omega
  clear hbig
  go_wp2_with fail
  go_ret2
  exact HE.out
def SmPost (q:Nat) (l:List PT) (w:World) (e:Ending) (w':World):Prop:=Below w.heap.size w w'∧∃s,e=.returned (.pointer (some ⟨s,0,none⟩))∧SC w' q l s
theorem nils_lessL {q:Nat} {la lb:List PT} (h:Nils la):Nils (lessL q la lb):=fun x hx=>h x (List.mem_filter.1 hx).1
theorem nils_uni {q:Nat} {la lb:List PT} (ha:Nils la) (hb:Nils lb):Nils (uniL q la lb):=fun x hx=>by
 rcases List.mem_append.1 (kyd_mem _ _ _ _ hx) with h|h
 ·exact ha x h
 ·exact hb x h
theorem sless_16 {w:World} {q r:Nat} {la lb:List PT} {s c:Nat} (h1:SC w q la s) (h2:SC w r lb c):Calls Tryz.prog 42 #[.pointer (some ⟨s,0,none⟩),.pointer (some ⟨c,0,none⟩)] w (SmPost q (lessL q la lb) w):=by
 obtain⟨a,ta,hs0,hm1,rfl,hn1⟩:=h1
 obtain⟨b,tb,hc0,hm2,rfl,hn2⟩:=h2
 have HN:Hid (Nils (lessL q ta.items tb.items)):=nils_lessL hn1
 have HA:Hid (∀V,Below w.heap.size w V→Calls Tryz.prog 95 #[.pointer (some ⟨a,0,none⟩),.pointer (some ⟨b,0,none⟩)] V (MkM14 q (lessL q ta.items tb.items) V)):=fun V hV=>mless_14 (hm1.keeps hV) (hm2.keeps hV)
 clear hm1 hm2 hn1 hn2
 generalize lessL q ta.items tb.items=L at *
 go_enter Tryz.func42,Tryz.ntmps42
 go_wp2_with fail
 go_region_held3 (fun w'=>w'.cell? ⟨s,0,none⟩=some (.pointer (some ⟨a,0,none⟩))∧w'.cell? ⟨c,0,none⟩=some (.pointer (some ⟨b,0,none⟩))) (go_keep)
  (first
   | (go_at_call 74;(with_reducible refine Calls.mono (sown_16 _ _) ?_);rintro e wo ⟨rfl,hwo⟩;subst hwo)
   | (go_at_call 95;(with_reducible refine Calls.mono (HA.out _ (Below.refl _ _).drew) ?_);rintro e w2 ⟨hg2',t2,b2,rfl,hm2,hi2⟩;have hg2:Below w.heap.size w w2:=(Below.refl _ _).drew.trans hg2';have hs0:=zaa hg2 hs0;have hc0:=zaa hg2 hc0;have HM2:Hid (MC w2 q t2 b2∧t2.items=L):=⟨hm2,hi2⟩;clear hg2' hm2 hi2)
   | (go_at_call 94;(with_reducible refine Calls.mono (sof_16 _ _) ?_);rintro e w3 ⟨rfl,hw3⟩;have hg3:Below w2.heap.size w2 w3:=(by rw [hw3];exact ((Grew.refl _).alloc _).below);have hs0:=zaa hg3 hs0;have hc0:=zaa hg3 hc0;have HE:Hid (SmPost q L w (.returned (.pointer (some ⟨w2.heap.size,0,none⟩))) w3):=⟨hg2.trans (hg3.mono hg2.size),_,rfl,(by rw [hw3];exact sc_new HM2.out.1 HM2.out.2 HN.out)⟩;clear hg3 hw3))
 all_goals (first|(go_ret;exact HE.out)|(go_ret2;exact HE.out)|(go_wp2_with fail;go_ret;exact HE.out)|(go_wp2_with fail;go_ret2;exact HE.out))
theorem smeet_16 {w:World} {q r:Nat} {la lb:List PT} {s c:Nat} (h1:SC w q la s) (h2:SC w r lb c):Calls Tryz.prog 40 #[.pointer (some ⟨s,0,none⟩),.pointer (some ⟨c,0,none⟩)] w (SmPost q (lessL q la (lessL q la lb)) w):=by
 have HA:Hid _:=sless_16 h1 h2
 have HB:Hid (∀V m,Below w.heap.size w V→SC V q (lessL q la lb) m→Calls Tryz.prog 42 #[.pointer (some ⟨s,0,none⟩),.pointer (some ⟨m,0,none⟩)] V (SmPost q (lessL q la (lessL q la lb)) V)):=fun V m hV hm=>sless_16 (h1.keeps hV) hm
 clear h1 h2
 generalize lessL q la (lessL q la lb)=L2 at *
 generalize lessL q la lb=L at *
 go_enter Tryz.func40,Tryz.ntmps40
 go_wp2_with fail
 refine Calls.mono HA.out ?_
 rintro e w1 ⟨hg1,m,rfl,hm⟩
 have HM:Hid (SC w1 q L m):=hm
 clear HA hm
 go_wp2_with fail
 refine Calls.mono (HB.out _ _ hg1 HM.out) ?_
 rintro e w2 ⟨hg2,m2,rfl,hm2⟩
 have HE:Hid (SmPost q L2 w (.returned (.pointer (some ⟨m2,0,none⟩))) w2):=⟨hg1.trans (hg2.mono hg1.size),m2,rfl,hm2⟩
 clear hm2 hg2 HB HM
 go_wp2_with fail
 go_ret
 exact HE.out
theorem suni_16 {w:World} {q r:Nat} {la lb:List PT} {s c:Nat} (h1:SC w q la s) (h2:SC w r lb c):Calls Tryz.prog 38 #[.pointer (some ⟨s,0,none⟩),.pointer (some ⟨c,0,none⟩)] w (SpPost q (uniL q la lb) (uniE (uniL q la lb)) w):=by
 obtain⟨a,ta,hs0,hm1,rfl,hn1⟩:=h1
 obtain⟨b,tb,hc0,hm2,rfl,hn2⟩:=h2
 have HN:Hid (Nils (uniL q ta.items tb.items)):=nils_uni hn1 hn2
 have HA:Hid (∀V,Below w.heap.size w V→Calls Tryz.prog 92 #[.pointer (some ⟨a,0,none⟩),.pointer (some ⟨b,0,none⟩)] V (MpPost q (uniL q ta.items tb.items) (uniE (uniL q ta.items tb.items)) V)):=fun V hV=>muni_14 (hm1.keeps hV) (hm2.keeps hV)
 clear hm1 hm2 hn1 hn2
 generalize uniE (uniL q ta.items tb.items)=E at *
 generalize uniL q ta.items tb.items=L at *
 go_enter Tryz.func38,Tryz.ntmps38
 go_wp2_with fail
 go_region_held3 (fun w'=>w'.cell? ⟨s,0,none⟩=some (.pointer (some ⟨a,0,none⟩))∧w'.cell? ⟨c,0,none⟩=some (.pointer (some ⟨b,0,none⟩))) (go_keep)
  (first
   | (go_at_call 74;(with_reducible refine Calls.mono (sown_16 _ _) ?_);rintro e wo ⟨rfl,hwo⟩;subst hwo)
   | (go_at_call 92;(with_reducible refine Calls.mono (HA.out _ (Below.refl _ _).drew) ?_);rintro e w2 ⟨hg2',p2,rfl,hp2⟩;have hg2:Below w.heap.size w w2:=(Below.refl _ _).drew.trans hg2';have hs0:=zaa hg2 hs0;have hc0:=zaa hg2 hc0;have HP2:Hid _:=hp2;clear hg2' hp2)
   | (go_at_call 58;(with_reducible refine Calls.mono (smade_16 HP2.out HN.out) ?_);rintro e w3 ⟨hg3,p3,rfl,hp3⟩;have hs0:=zaa hg3 hs0;have hc0:=zaa hg3 hc0;have HE:Hid (SpPost q L E w (.returned (.tuple #[.pointer p3,.int .i64 E])) w3):=⟨hg2.trans (hg3.mono hg2.size),p3,rfl,hp3⟩;clear hg3 hp3))
 all_goals (first|(go_ret;exact HE.out)|(go_ret2;exact HE.out)|(go_wp2_with fail;go_ret;exact HE.out)|(go_wp2_with fail;go_ret2;exact HE.out))
theorem sequal_16 {w:World} {q r:Nat} {la lb:List PT} {s c:Nat} (h1:SC w q la s) (h2:SC w r lb c) (R:Bool) (hR:R=true↔∀y,y∈la↔y∈lb):Calls Tryz.prog 44 #[.pointer (some ⟨s,0,none⟩),.pointer (some ⟨c,0,none⟩)] w fun e w'=>e=.returned (.bool R)∧Below w.heap.size w w':=by
 obtain⟨a,ta,hs0,hm1,rfl,hn1⟩:=h1
 obtain⟨b,tb,hc0,hm2,rfl,hn2⟩:=h2
 have HA:Hid (∀V,Below w.heap.size w V→Calls Tryz.prog 96 #[.pointer (some ⟨a,0,none⟩),.pointer (some ⟨b,0,none⟩)] V fun e w'=>e=.returned (.bool R)∧Below V.heap.size V w'):=fun V hV=>equal_14 (hm1.keeps hV) (hm2.keeps hV) R hR
 clear hR
 clear hm1 hm2 hn1 hn2
 go_enter Tryz.func44,Tryz.ntmps44
 go_wp2_with fail
 go_region_held3 (fun w'=>w'.cell? ⟨s,0,none⟩=some (.pointer (some ⟨a,0,none⟩))∧w'.cell? ⟨c,0,none⟩=some (.pointer (some ⟨b,0,none⟩))) (go_keep)
  (first
   | (go_at_call 74;(with_reducible refine Calls.mono (sown_16 _ _) ?_);rintro e wo ⟨rfl,hwo⟩;subst hwo)
   | (go_at_call 96;(with_reducible refine Calls.mono (HA.out _ (Below.refl _ _).drew) ?_);rintro e w2 ⟨rfl,hg2'⟩;have hg2:Below w.heap.size w w2:=(Below.refl _ _).drew.trans hg2';have hs0:=zaa hg2 hs0;have hc0:=zaa hg2 hc0;clear hg2'))
 all_goals (first|(go_ret;exact⟨rfl,hg2⟩)|(go_wp2_with fail;go_ret;exact⟨rfl,hg2⟩))
end Go.Proofs.YtlnecfjnffdciabGreat
