import Derived.Test.YtlnecfjnffdciacGreatGrownH
import Derived.Deep.AppendLies
set_option maxRecDepth 100000
set_option maxHeartbeats 8000000
namespace Go.Proofs.YtlnecfjnffdciacGreat
open Go.RowKit Go.Shelf
def ltG (g:MB→MB→Int) (y x:MB):Bool:=decide (g y x<0)
structure Mrg (w:World) (g:MB→MB→Int) (R:List MB) (wr:World) (nx ny no ba oa ca bb ob cb go co:Nat) (xs ys ds:List MB):Prop where
 ex:nx=xs.length
 ey:ny=ys.length
 eo:no=ds.length
 cx:nx≤ca
 cy:ny≤cb
 rx:RowM w ba oa xs
 ry:RowM w bb ob ys
 gx:∀p∈xs,GoodM w p
 gy:∀p∈ys,GoodM w p
 eq:ds++mrg (ltG g) xs ys=R
 own:wr.ownsRow w.heap.size 98 5 (.slice (some ⟨go,0,none⟩) no co) no (ds.flatMap encM)
 below:Below w.heap.size w wr
 sum:nx+ny+no≤65536
theorem rest_row {w:World} {b o o' n:Nat} {x:MB} {xs:List MB} (h:RowM w b o (x::xs)) (e:n=(x::xs).length) (ho:n=1∨o'=o+5):RowM w b o' xs:=by
 rcases ho with ho|ho
 ·have:xs=[]:=List.eq_nil_of_length_eq_zero (by simp at e;omega)
  subst this
  intro i hi;cases hi
 ·subst ho
  have:=h.drop 1
  simpa using this
theorem Mrg.stepY {w:World} {g:MB→MB→Int} {R:List MB} {wr:World} {nx ny no ba oa ca bb ob cb go co:Nat} {x y:MB} {xs ys ds:List MB} (h:Mrg w g R wr nx ny no ba oa ca bb ob cb go co (x::xs) (y::ys) ds) {Z:Int} (hZ:g y x=Z) (hz:Z<0)
 (o':Nat) (ho:ny=1∨o'=ob+5) {W:World} {G K:Nat} (hown:W.ownsRow w.heap.size 98 5 (.slice (some ⟨G,0,none⟩) (no+1) K) (no+1) ((ds++[y]).flatMap encM)) (hb:Below w.heap.size w W) :
 Mrg w g R W nx (ny-1) (no+1) ba oa ca bb o' (cb-1) G K (x::xs) ys (ds++[y]):=by
 have h1:=h.ey
 have h2:=h.sum
 have h3:=h.cy
 simp at h1
 refine⟨h.ex,by omega,by simp [h.eo],h.cx,by omega,h.rx,rest_row h.ry h.ey ho,h.gx,fun p hp=>h.gy p (List.mem_cons_of_mem _ hp),?_,hown,hb,by omega⟩
 have he:=h.eq
 rw [mrg_step,if_pos (by unfold ltG;rw [hZ];exact decide_eq_true hz)] at he
 rw [←he];simp
theorem Mrg.stepX {w:World} {g:MB→MB→Int} {R:List MB} {wr:World} {nx ny no ba oa ca bb ob cb go co:Nat} {x y:MB} {xs ys ds:List MB} (h:Mrg w g R wr nx ny no ba oa ca bb ob cb go co (x::xs) (y::ys) ds) {Z:Int} (hZ:g y x=Z) (hz : ¬Z<0)
 (o':Nat) (ho:nx=1∨o'=oa+5) {W:World} {G K:Nat} (hown:W.ownsRow w.heap.size 98 5 (.slice (some ⟨G,0,none⟩) (no+1) K) (no+1) ((ds++[x]).flatMap encM)) (hb:Below w.heap.size w W) :
 Mrg w g R W (nx-1) ny (no+1) ba o' (ca-1) bb ob cb G K xs (y::ys) (ds++[x]):=by
 have h1:=h.ex
 have h2:=h.sum
 have h3:=h.cx
 simp at h1
 refine⟨by omega,h.ey,by simp [h.eo],by omega,h.cy,rest_row h.rx h.ex ho,h.ry,fun p hp=>h.gx p (List.mem_cons_of_mem _ hp),h.gy,?_,hown,hb,by omega⟩
 have he:=h.eq
 rw [mrg_step,if_neg (by unfold ltG;rw [hZ,decide_eq_true_eq];exact hz)] at he
 rw [←he];simp
theorem own_some6 {w:World} {base ty:Nat} {v:Value} {n:Nat} {ps:List MB} (h:w.ownsRow base ty 5 v n (ps.flatMap encM)) (hv:v≠.slice none 0 0):∃g cap,v=.slice (some ⟨g,0,none⟩) n cap∧n≤cap∧RowM w g 0 ps:=by
 rcases h.2 with ⟨e,_⟩|⟨g,cap,cur,rfl,_,_,hcap,_⟩
 ·exact absurd e hv
 ·exact⟨g,cap,rfl,hcap,(own_rowM h).1⟩
theorem make_room (n:Nat) (hn:n≤65536):∃M:Array Value,M.size=n*5∧∀W:World,(Instr.makeSlice 91 (.int .i64 0) (.int .i64 (n:Int))).run Tryz.prog W=.ok (.slice (some ⟨W.heap.size,0,none⟩) 0 n) (W.alloc (.cells M 98)):=by
 obtain⟨i0,hi,hz0,hz1,hz2⟩:=infoM
 refine⟨madeCells (Value.agg #[.int .i64 0,.int .i64 0,.string ⟨#[]⟩,.slice none 0 0,.int .u64 0]).cells (((n:Nat):Int).toNat*i0.size),?_,fun W=>?_⟩
 ·rw [size_madeCells,hz1];simp
 ·have h:=run_make (P:=Tryz.prog) W 91 98 i0 _ Tryz.underlying91 hi hz0 .i64 .i64 0 (n:Int) (by omega) (by omega) (by rw [hz2];omega) (by omega)
  simpa using h
theorem merged_core (f:Nat) (eg:∀args w,(callFunc f args).run Tryz.prog w=.ok (.enter f args) w) (g:MB→MB→Int) (xs ys:List MB) (va vb:Value) (w:World) (ha:SlM w xs va) (hb:SlM w ys vb) (hlen:xs.length+ys.length≤65536)
 (hc:Hid (∀(p r:MB) (W:World),GoodM W p→GoodM W r→Calls Tryz.prog f #[.agg #[.int .i64 p.t.kind,.int .i64 p.t.num,.string p.t.text,p.u,.int .u64 p.m],.agg #[.int .i64 r.t.kind,.int .i64 r.t.num,.string r.t.text,r.u,.int .u64 r.m]] W fun e W'=>e=.returned (.int .i64 (g p r))∧Grew W W')) :
 Calls Tryz.prog 91 #[va,vb,fv f] w fun e w'=>∃v,e=.returned v∧SlM w' (mrg (ltG g) xs ys) v∧Below w.heap.size w w':=by
 obtain⟨ba,oa,ca,rfl,hca,hra,hga⟩:=ha
 obtain⟨bb,ob,cb,rfl,hcb,hrb,hgb⟩:=hb
 obtain⟨i0,hi,hz0,hz1,hz2⟩:=infoM
 have Hi:Hid _:=hi;have Hz0:Hid _:=hz0;have Hz1:Hid _:=hz1;have Hz2:Hid _:=hz2
 clear hi hz0 hz1 hz2
 obtain⟨M,hMs,hmk⟩:=make_room (xs.length+ys.length) hlen
 have hmk:∀W:World,(Instr.makeSlice 91 (.int .i64 0) (.int .i64 ((xs.length:Int)+(ys.length:Int)))).run Tryz.prog W=.ok (.slice (some ⟨W.heap.size,0,none⟩) 0 (xs.length+ys.length)) (W.alloc (.cells M 98)):=fun W=>by
  have:=hmk W
  rwa [Int.natCast_add] at this
 have HM0:Hid (Mrg w g (mrg (ltG g) xs ys) (w.alloc (.cells M 98)) xs.length ys.length 0 ba oa ca bb ob cb w.heap.size (xs.length+ys.length) xs ys []):=
  ⟨rfl,rfl,rfl,hca,hcb,hra,hrb,hga,hgb,rfl,World.ownsRow_made w M _ (Nat.le_refl _) (by unfold maxLen;omega) hMs,((Grew.refl w).alloc _).below,by omega⟩
 have HGR:Hid (∀p∈mrg (ltG g) xs ys,GoodM w p):=fun p hp=>(mrg_mem (ltG g) _ xs ys (Nat.le_refl _) p hp).elim (hga p) (hgb p)
 clear hMs hca hcb hra hrb hga hgb
 generalize hR:mrg (ltG g) xs ys=R at *
 generalize hnx0:xs.length=nx0 at *
 generalize hny0:ys.length=ny0 at *
 clear hR hnx0 hny0
 go_enter Tryz.func91,Tryz.ntmps91
 go_wp2_with fail
 go_loopg [0,1,7] (nx0+ny0) (fun k va vb vo wr=>∃(nx ny no ba oa ca bb ob cb go co:Nat) (xs' ys' ds:List MB),va=.slice (some ⟨ba,oa,none⟩) nx ca∧vb=.slice (some ⟨bb,ob,none⟩) ny cb∧vo=.slice (some ⟨go,0,none⟩) no co∧k=nx+ny∧Hid (Mrg w g R wr nx ny no ba oa ca bb ob cb go co xs' ys' ds))
 case atStart=>exact⟨nx0,ny0,0,ba,oa,ca,bb,ob,cb,_,_,xs,ys,[],rfl,rfl,rfl,rfl,HM0⟩
 case round=>
  clear HM0 hmk
  obtain⟨nx,ny,no,ba,oa,ca,bb,ob,cb,go,co,xs',ys',ds,rfl,rfl,rfl,hk,HM⟩:=hrel
  have Hk:Hid _:=hk
  clear hk
  have hsum:=HM.out.sum
  by_cases hx:0<nx
  ·by_cases hy:0<ny
   ·obtain⟨x,xs'',rfl⟩:∃x l,xs'=x::l:=by
     cases xs' with
     | nil=>have:=HM.out.ex;simp at this;omega
     | cons x l=>exact⟨x,l,rfl⟩
    obtain⟨y,ys'',rfl⟩:∃x l,ys'=x::l:=by
     cases ys' with
     | nil=>have:=HM.out.ey;simp at this;omega
     | cons x l=>exact⟨x,l,rfl⟩
    obtain⟨t,u,m⟩:=x
    obtain⟨s,u2,n⟩:=y
    obtain⟨ax,lx,cx,hu⟩:=(HM.out.gx _ List.mem_cons_self).slice
    obtain⟨ay,ly,cy,hu2⟩:=(HM.out.gy _ List.mem_cons_self).slice
    simp only at hu hu2
    subst hu hu2
    have hbw:=HM.out.below
    obtain⟨p0,p1,p2,p3,p4⟩:=HM.out.rx 0 (by simp)
    obtain⟨r0,r1,r2,r3,r4⟩:=HM.out.ry 0 (by simp)
    simp only [Nat.zero_mul,Nat.add_zero,List.getElem_cons_zero] at p0 p1 p2 p3 p4 r0 r1 r2 r3 r4
    have hla:ba<w.heap.size:=zad p0
    have hlb:bb<w.heap.size:=zad r0
    have p0:=zaa hbw p0;have p1:=zaa hbw p1;have p2:=zaa hbw p2;have p3:=zaa hbw p3;have p4:=zaa hbw p4
    have r0:=zaa hbw r0;have r1:=zaa hbw r1;have r2:=zaa hbw r2;have r3:=zaa hbw r3;have r4:=zaa hbw r4
    have hxi:(0:Int)<(nx:Nat):=by omega
    have hyi:(0:Int)<(ny:Nat):=by omega
    have hwl:=hbw.size
    go_wp2_with fail
    go_region_held3 (fun w'=>(w'.cell? ⟨bb,ob,none⟩=some (.int .i64 s.kind)∧w'.cell? ⟨bb,ob+1,none⟩=some (.int .i64 s.num)∧w'.cell? ⟨bb,ob+2,none⟩=some (.string s.text)∧w'.cell? ⟨bb,ob+3,none⟩=some (.slice ay ly cy)∧w'.cell? ⟨bb,ob+4,none⟩=some (.int .u64 n))∧(w'.cell? ⟨ba,oa,none⟩=some (.int .i64 t.kind)∧w'.cell? ⟨ba,oa+1,none⟩=some (.int .i64 t.num)∧w'.cell? ⟨ba,oa+2,none⟩=some (.string t.text)∧w'.cell? ⟨ba,oa+3,none⟩=some (.slice ax lx cx)∧w'.cell? ⟨ba,oa+4,none⟩=some (.int .u64 m))) (go_keep)
     (first|(go_at_fn f;refine (hc.out (⟨s,.slice ay ly cy,n⟩:MB) (⟨t,.slice ax lx cx,m⟩:MB) _ ((HM.out.gy _ List.mem_cons_self).keeps hbw.drew) ((HM.out.gx _ List.mem_cons_self).keeps hbw.drew)).mono ?_;rintro e w1 ⟨rfl,hg1⟩;have hb1':Below wr.heap.size wr w1:=(Below.refl _ _).drew.trans hg1.below;have hb1:Below w.heap.size w w1:=hbw.trans (hb1'.mono hwl);clear hg1;have p0:=zaa hb1' p0;have p1:=zaa hb1' p1;have p2:=zaa hb1' p2;have p3:=zaa hb1' p3;have p4:=zaa hb1' p4;have r0:=zaa hb1' r0;have r1:=zaa hb1' r1;have r2:=zaa hb1' r2;have r3:=zaa hb1' r3;have r4:=zaa hb1' r4))
    have Hown1:Hid (w1.drew.ownsRow w.heap.size 98 5 (.slice (some ⟨go,0,none⟩) no co) no (ds.flatMap encM)):=zaj HM.out.own hb1'.drew
    have hw1:w.heap.size≤w1.heap.size:=hb1.size
    have hnea : ¬(ba=w1.heap.size):=by omega
    have hneb : ¬(bb=w1.heap.size):=by omega
    generalize hZ:g (⟨s,.slice ay ly cy,n⟩:MB) (⟨t,.slice ax lx cx,m⟩:MB)=Z at *
    have HZ:Hid (g (⟨s,.slice ay ly cy,n⟩:MB) (⟨t,.slice ax lx cx,m⟩:MB)=Z):=hZ
    clear hZ hb1'
    by_cases hlt:Z<0
    ·have HZ1:Hid (Z<0):=hlt
     have h1i:(1:Int)≤(ny:Nat):=by omega
     have h1c:((1:Nat):Int)≤(cb:Nat):=by have:=HM.out.cy;omega
     have h1n:1≤ny:=by omega
     have hnc:ny≤cb:=HM.out.cy
     have hnci:(ny:Int)≤(cb:Nat):=by omega
     by_cases hcap:cb=1
     ·have hn1:ny=1:=by omega
      have HN:Hid (∀(W:World) (G K:Nat),W.ownsRow w.heap.size 98 5 (.slice (some ⟨G,0,none⟩) (no+1) K) (no+1) ((ds++[(⟨s,.slice ay ly cy,n⟩:MB)]).flatMap encM)→Below w.heap.size w W→Mrg w g R W nx (ny-1) (no+1) ba oa ca bb (ob) (cb-1) G K ((⟨t,.slice ax lx cx,m⟩:MB)::xs'') ys'' (ds++[(⟨s,.slice ay ly cy,n⟩:MB)])):=fun W G K k1 k2=>Mrg.stepY HM.out HZ.out HZ1.out ob (.inl hn1) k1 k2
      subst hcap hn1
      go_wp2_with fail
      go_region_held3 (fun w'=>w'.cell? ⟨bb,ob,none⟩=some (.int .i64 s.kind)∧w'.cell? ⟨bb,ob+1,none⟩=some (.int .i64 s.num)∧w'.cell? ⟨bb,ob+2,none⟩=some (.string s.text)∧w'.cell? ⟨bb,ob+3,none⟩=some (.slice ay ly cy)∧w'.cell? ⟨bb,ob+4,none⟩=some (.int .u64 n)) (go_keep)
       (first|(refine step_append_lies _ rfl _ _ 91 rfl w.heap.size 98 i0 (.agg #[.int .i64 0,.int .i64 0,.string ⟨#[]⟩,.slice none 0 0,.int .u64 0]) 5 64 Tryz.underlying91 Hi.out Hz0.out Hz1.out Hz2.out rfl (by decide) _ _ _ rfl (Hown1.out.alloc _) ⟨w1.heap.size,0,none⟩ 1 1 [.int .i64 s.kind,.int .i64 s.num,.string s.text,.slice ay ly cy,.int .u64 n] rfl rfl (fun q u hq=>by match q,hq with|0,hq=>(simp at hq;subst hq;simp [Addr.add])|1,hq=>(simp at hq;subst hq;simp [Addr.add])|2,hq=>(simp at hq;subst hq;simp [Addr.add])|3,hq=>(simp at hq;subst hq;simp [Addr.add])|4,hq=>(simp at hq;subst hq;simp [Addr.add])|q+5,hq=>simp at hq) (fun u hu=>by simp at hu;rcases hu with rfl|rfl|rfl|rfl|rfl <;> rfl) (by decide) (by unfold maxLen;omega) (by omega) (by simp;omega) _ rfl ?_;intro G K w3 hown hgrow hat hlt3;have hob:∀k,(Value.slice (some ⟨go,0,none⟩) no co).ownBlock=some k→w.heap.size≤k:=fun k hk=>(Hown1.out.lt k hk).1;have j0:w3.cell? ⟨bb,ob,none⟩=some (.int .i64 s.kind):=(World.cell?_of_block (hgrow.block bb (by simp;omega) (fun e=>by have:=hob _ e.symm;omega))).trans (zaa ((Below.refl _ _).alloc (Nat.le_refl _) _) r0);have j1:w3.cell? ⟨bb,ob+1,none⟩=some (.int .i64 s.num):=(World.cell?_of_block (hgrow.block bb (by simp;omega) (fun e=>by have:=hob _ e.symm;omega))).trans (zaa ((Below.refl _ _).alloc (Nat.le_refl _) _) r1);have j2:w3.cell? ⟨bb,ob+2,none⟩=some (.string s.text):=(World.cell?_of_block (hgrow.block bb (by simp;omega) (fun e=>by have:=hob _ e.symm;omega))).trans (zaa ((Below.refl _ _).alloc (Nat.le_refl _) _) r2);have j3:w3.cell? ⟨bb,ob+3,none⟩=some (.slice ay ly cy):=(World.cell?_of_block (hgrow.block bb (by simp;omega) (fun e=>by have:=hob _ e.symm;omega))).trans (zaa ((Below.refl _ _).alloc (Nat.le_refl _) _) r3);have j4:w3.cell? ⟨bb,ob+4,none⟩=some (.int .u64 n):=(World.cell?_of_block (hgrow.block bb (by simp;omega) (fun e=>by have:=hob _ e.symm;omega))).trans (zaa ((Below.refl _ _).alloc (Nat.le_refl _) _) r4)))
      have hb3:Below w.heap.size w w3:=zak ((hb1.drew).alloc (by simpa using hb1.size) _) (by simp;omega) (Hown1.out.alloc _) hgrow
      have HN3:Hid _:=HN.out w3 G K (by simpa [List.flatMap_append,encM] using hown) hb3
      clear hown hgrow hat hlt3 hob j0 j1 j2 j3 j4 Hown1 HN
      go_wp2_with fail
      go_roundg (nx+1-1)
      case measure=>have:=Hk.out;omega
      case rel=>exact⟨nx,1-1,no+1,ba,oa,ca,bb,ob,1-1,G,K,_,_,_,rfl,by go_num,rfl,by omega,HN3⟩
     ·have hcap' : ¬((cb:Nat):Int)=1:=by omega
      have HN:Hid (∀(W:World) (G K:Nat),W.ownsRow w.heap.size 98 5 (.slice (some ⟨G,0,none⟩) (no+1) K) (no+1) ((ds++[(⟨s,.slice ay ly cy,n⟩:MB)]).flatMap encM)→Below w.heap.size w W→Mrg w g R W nx (ny-1) (no+1) ba oa ca bb (ob+5) (cb-1) G K ((⟨t,.slice ax lx cx,m⟩:MB)::xs'') ys'' (ds++[(⟨s,.slice ay ly cy,n⟩:MB)])):=fun W G K k1 k2=>Mrg.stepY HM.out HZ.out HZ1.out (ob+5) (.inr rfl) k1 k2
      go_wp2_with fail
      go_region_held3 (fun w'=>w'.cell? ⟨bb,ob,none⟩=some (.int .i64 s.kind)∧w'.cell? ⟨bb,ob+1,none⟩=some (.int .i64 s.num)∧w'.cell? ⟨bb,ob+2,none⟩=some (.string s.text)∧w'.cell? ⟨bb,ob+3,none⟩=some (.slice ay ly cy)∧w'.cell? ⟨bb,ob+4,none⟩=some (.int .u64 n)) (go_keep)
       (first|(refine step_append_lies _ rfl _ _ 91 rfl w.heap.size 98 i0 (.agg #[.int .i64 0,.int .i64 0,.string ⟨#[]⟩,.slice none 0 0,.int .u64 0]) 5 64 Tryz.underlying91 Hi.out Hz0.out Hz1.out Hz2.out rfl (by decide) _ _ _ rfl (Hown1.out.alloc _) ⟨w1.heap.size,0,none⟩ 1 1 [.int .i64 s.kind,.int .i64 s.num,.string s.text,.slice ay ly cy,.int .u64 n] rfl rfl (fun q u hq=>by match q,hq with|0,hq=>(simp at hq;subst hq;simp [Addr.add])|1,hq=>(simp at hq;subst hq;simp [Addr.add])|2,hq=>(simp at hq;subst hq;simp [Addr.add])|3,hq=>(simp at hq;subst hq;simp [Addr.add])|4,hq=>(simp at hq;subst hq;simp [Addr.add])|q+5,hq=>simp at hq) (fun u hu=>by simp at hu;rcases hu with rfl|rfl|rfl|rfl|rfl <;> rfl) (by decide) (by unfold maxLen;omega) (by omega) (by simp;omega) _ rfl ?_;intro G K w3 hown hgrow hat hlt3;have hob:∀k,(Value.slice (some ⟨go,0,none⟩) no co).ownBlock=some k→w.heap.size≤k:=fun k hk=>(Hown1.out.lt k hk).1;have j0:w3.cell? ⟨bb,ob,none⟩=some (.int .i64 s.kind):=(World.cell?_of_block (hgrow.block bb (by simp;omega) (fun e=>by have:=hob _ e.symm;omega))).trans (zaa ((Below.refl _ _).alloc (Nat.le_refl _) _) r0);have j1:w3.cell? ⟨bb,ob+1,none⟩=some (.int .i64 s.num):=(World.cell?_of_block (hgrow.block bb (by simp;omega) (fun e=>by have:=hob _ e.symm;omega))).trans (zaa ((Below.refl _ _).alloc (Nat.le_refl _) _) r1);have j2:w3.cell? ⟨bb,ob+2,none⟩=some (.string s.text):=(World.cell?_of_block (hgrow.block bb (by simp;omega) (fun e=>by have:=hob _ e.symm;omega))).trans (zaa ((Below.refl _ _).alloc (Nat.le_refl _) _) r2);have j3:w3.cell? ⟨bb,ob+3,none⟩=some (.slice ay ly cy):=(World.cell?_of_block (hgrow.block bb (by simp;omega) (fun e=>by have:=hob _ e.symm;omega))).trans (zaa ((Below.refl _ _).alloc (Nat.le_refl _) _) r3);have j4:w3.cell? ⟨bb,ob+4,none⟩=some (.int .u64 n):=(World.cell?_of_block (hgrow.block bb (by simp;omega) (fun e=>by have:=hob _ e.symm;omega))).trans (zaa ((Below.refl _ _).alloc (Nat.le_refl _) _) r4)))
      have hb3:Below w.heap.size w w3:=zak ((hb1.drew).alloc (by simpa using hb1.size) _) (by simp;omega) (Hown1.out.alloc _) hgrow
      have HN3:Hid _:=HN.out w3 G K (by simpa [List.flatMap_append,encM] using hown) hb3
      clear hown hgrow hat hlt3 hob j0 j1 j2 j3 j4 Hown1 HN
      go_wp2_with fail
      go_roundg (nx+ny-1)
      case measure=>have:=Hk.out;omega
      case rel=>exact⟨nx,ny-1,no+1,ba,oa,ca,bb,ob+5,cb-1,G,K,_,_,_,rfl,by go_num,rfl,by omega,HN3⟩
    ·have HZ1:Hid (¬Z<0):=hlt
     have h1i:(1:Int)≤(nx:Nat):=by omega
     have h1c:((1:Nat):Int)≤(ca:Nat):=by have:=HM.out.cx;omega
     have h1n:1≤nx:=by omega
     have hnc:nx≤ca:=HM.out.cx
     have hnci:(nx:Int)≤(ca:Nat):=by omega
     by_cases hcap:ca=1
     ·have hn1:nx=1:=by omega
      have HN:Hid (∀(W:World) (G K:Nat),W.ownsRow w.heap.size 98 5 (.slice (some ⟨G,0,none⟩) (no+1) K) (no+1) ((ds++[(⟨t,.slice ax lx cx,m⟩:MB)]).flatMap encM)→Below w.heap.size w W→Mrg w g R W (nx-1) ny (no+1) ba (oa) (ca-1) bb ob cb G K xs'' ((⟨s,.slice ay ly cy,n⟩:MB)::ys'') (ds++[(⟨t,.slice ax lx cx,m⟩:MB)])):=fun W G K k1 k2=>Mrg.stepX HM.out HZ.out HZ1.out oa (.inl hn1) k1 k2
      subst hcap hn1
      go_wp2_with fail
      go_region_held3 (fun w'=>w'.cell? ⟨ba,oa,none⟩=some (.int .i64 t.kind)∧w'.cell? ⟨ba,oa+1,none⟩=some (.int .i64 t.num)∧w'.cell? ⟨ba,oa+2,none⟩=some (.string t.text)∧w'.cell? ⟨ba,oa+3,none⟩=some (.slice ax lx cx)∧w'.cell? ⟨ba,oa+4,none⟩=some (.int .u64 m)) (go_keep)
       (first|(refine step_append_lies _ rfl _ _ 91 rfl w.heap.size 98 i0 (.agg #[.int .i64 0,.int .i64 0,.string ⟨#[]⟩,.slice none 0 0,.int .u64 0]) 5 64 Tryz.underlying91 Hi.out Hz0.out Hz1.out Hz2.out rfl (by decide) _ _ _ rfl (Hown1.out.alloc _) ⟨w1.heap.size,0,none⟩ 1 1 [.int .i64 t.kind,.int .i64 t.num,.string t.text,.slice ax lx cx,.int .u64 m] rfl rfl (fun q u hq=>by match q,hq with|0,hq=>(simp at hq;subst hq;simp [Addr.add])|1,hq=>(simp at hq;subst hq;simp [Addr.add])|2,hq=>(simp at hq;subst hq;simp [Addr.add])|3,hq=>(simp at hq;subst hq;simp [Addr.add])|4,hq=>(simp at hq;subst hq;simp [Addr.add])|q+5,hq=>simp at hq) (fun u hu=>by simp at hu;rcases hu with rfl|rfl|rfl|rfl|rfl <;> rfl) (by decide) (by unfold maxLen;omega) (by omega) (by simp;omega) _ rfl ?_;intro G K w3 hown hgrow hat hlt3;have hob:∀k,(Value.slice (some ⟨go,0,none⟩) no co).ownBlock=some k→w.heap.size≤k:=fun k hk=>(Hown1.out.lt k hk).1;have j0:w3.cell? ⟨ba,oa,none⟩=some (.int .i64 t.kind):=(World.cell?_of_block (hgrow.block ba (by simp;omega) (fun e=>by have:=hob _ e.symm;omega))).trans (zaa ((Below.refl _ _).alloc (Nat.le_refl _) _) p0);have j1:w3.cell? ⟨ba,oa+1,none⟩=some (.int .i64 t.num):=(World.cell?_of_block (hgrow.block ba (by simp;omega) (fun e=>by have:=hob _ e.symm;omega))).trans (zaa ((Below.refl _ _).alloc (Nat.le_refl _) _) p1);have j2:w3.cell? ⟨ba,oa+2,none⟩=some (.string t.text):=(World.cell?_of_block (hgrow.block ba (by simp;omega) (fun e=>by have:=hob _ e.symm;omega))).trans (zaa ((Below.refl _ _).alloc (Nat.le_refl _) _) p2);have j3:w3.cell? ⟨ba,oa+3,none⟩=some (.slice ax lx cx):=(World.cell?_of_block (hgrow.block ba (by simp;omega) (fun e=>by have:=hob _ e.symm;omega))).trans (zaa ((Below.refl _ _).alloc (Nat.le_refl _) _) p3);have j4:w3.cell? ⟨ba,oa+4,none⟩=some (.int .u64 m):=(World.cell?_of_block (hgrow.block ba (by simp;omega) (fun e=>by have:=hob _ e.symm;omega))).trans (zaa ((Below.refl _ _).alloc (Nat.le_refl _) _) p4)))
      have hb3:Below w.heap.size w w3:=zak ((hb1.drew).alloc (by simpa using hb1.size) _) (by simp;omega) (Hown1.out.alloc _) hgrow
      have HN3:Hid _:=HN.out w3 G K (by simpa [List.flatMap_append,encM] using hown) hb3
      clear hown hgrow hat hlt3 hob j0 j1 j2 j3 j4 Hown1 HN
      go_wp2_with fail
      go_roundg (1+ny-1)
      case measure=>have:=Hk.out;omega
      case rel=>exact⟨1-1,ny,no+1,ba,oa,1-1,bb,ob,cb,G,K,_,_,_,by go_num,rfl,rfl,by omega,HN3⟩
     ·have hcap' : ¬((ca:Nat):Int)=1:=by omega
      have HN:Hid (∀(W:World) (G K:Nat),W.ownsRow w.heap.size 98 5 (.slice (some ⟨G,0,none⟩) (no+1) K) (no+1) ((ds++[(⟨t,.slice ax lx cx,m⟩:MB)]).flatMap encM)→Below w.heap.size w W→Mrg w g R W (nx-1) ny (no+1) ba (oa+5) (ca-1) bb ob cb G K xs'' ((⟨s,.slice ay ly cy,n⟩:MB)::ys'') (ds++[(⟨t,.slice ax lx cx,m⟩:MB)])):=fun W G K k1 k2=>Mrg.stepX HM.out HZ.out HZ1.out (oa+5) (.inr rfl) k1 k2
      go_wp2_with fail
      go_region_held3 (fun w'=>w'.cell? ⟨ba,oa,none⟩=some (.int .i64 t.kind)∧w'.cell? ⟨ba,oa+1,none⟩=some (.int .i64 t.num)∧w'.cell? ⟨ba,oa+2,none⟩=some (.string t.text)∧w'.cell? ⟨ba,oa+3,none⟩=some (.slice ax lx cx)∧w'.cell? ⟨ba,oa+4,none⟩=some (.int .u64 m)) (go_keep)
       (first|(refine step_append_lies _ rfl _ _ 91 rfl w.heap.size 98 i0 (.agg #[.int .i64 0,.int .i64 0,.string ⟨#[]⟩,.slice none 0 0,.int .u64 0]) 5 64 Tryz.underlying91 Hi.out Hz0.out Hz1.out Hz2.out rfl (by decide) _ _ _ rfl (Hown1.out.alloc _) ⟨w1.heap.size,0,none⟩ 1 1 [.int .i64 t.kind,.int .i64 t.num,.string t.text,.slice ax lx cx,.int .u64 m] rfl rfl (fun q u hq=>by match q,hq with|0,hq=>(simp at hq;subst hq;simp [Addr.add])|1,hq=>(simp at hq;subst hq;simp [Addr.add])|2,hq=>(simp at hq;subst hq;simp [Addr.add])|3,hq=>(simp at hq;subst hq;simp [Addr.add])|4,hq=>(simp at hq;subst hq;simp [Addr.add])|q+5,hq=>simp at hq) (fun u hu=>by simp at hu;rcases hu with rfl|rfl|rfl|rfl|rfl <;> rfl) (by decide) (by unfold maxLen;omega) (by omega) (by simp;omega) _ rfl ?_;intro G K w3 hown hgrow hat hlt3;have hob:∀k,(Value.slice (some ⟨go,0,none⟩) no co).ownBlock=some k→w.heap.size≤k:=fun k hk=>(Hown1.out.lt k hk).1;have j0:w3.cell? ⟨ba,oa,none⟩=some (.int .i64 t.kind):=(World.cell?_of_block (hgrow.block ba (by simp;omega) (fun e=>by have:=hob _ e.symm;omega))).trans (zaa ((Below.refl _ _).alloc (Nat.le_refl _) _) p0);have j1:w3.cell? ⟨ba,oa+1,none⟩=some (.int .i64 t.num):=(World.cell?_of_block (hgrow.block ba (by simp;omega) (fun e=>by have:=hob _ e.symm;omega))).trans (zaa ((Below.refl _ _).alloc (Nat.le_refl _) _) p1);have j2:w3.cell? ⟨ba,oa+2,none⟩=some (.string t.text):=(World.cell?_of_block (hgrow.block ba (by simp;omega) (fun e=>by have:=hob _ e.symm;omega))).trans (zaa ((Below.refl _ _).alloc (Nat.le_refl _) _) p2);have j3:w3.cell? ⟨ba,oa+3,none⟩=some (.slice ax lx cx):=(World.cell?_of_block (hgrow.block ba (by simp;omega) (fun e=>by have:=hob _ e.symm;omega))).trans (zaa ((Below.refl _ _).alloc (Nat.le_refl _) _) p3);have j4:w3.cell? ⟨ba,oa+4,none⟩=some (.int .u64 m):=(World.cell?_of_block (hgrow.block ba (by simp;omega) (fun e=>by have:=hob _ e.symm;omega))).trans (zaa ((Below.refl _ _).alloc (Nat.le_refl _) _) p4)))
      have hb3:Below w.heap.size w w3:=zak ((hb1.drew).alloc (by simpa using hb1.size) _) (by simp;omega) (Hown1.out.alloc _) hgrow
      have HN3:Hid _:=HN.out w3 G K (by simpa [List.flatMap_append,encM] using hown) hb3
      clear hown hgrow hat hlt3 hob j0 j1 j2 j3 j4 Hown1 HN
      go_wp2_with fail
      go_roundg (nx+ny-1)
      case measure=>have:=Hk.out;omega
      case rel=>exact⟨nx-1,ny,no+1,ba,oa+5,ca-1,bb,ob,cb,G,K,_,_,_,by go_num,rfl,rfl,by omega,HN3⟩
   ·have Hown0:Hid (wr.ownsRow w.heap.size 98 5 (.slice (some ⟨go,0,none⟩) no co) no (ds.flatMap encM)):=HM.out.own
    have hbw:=HM.out.below
    have HR2:Hid (R=ds++(xs'++ys')):=by
     show _=_
     have e0:ys'=[]:=List.eq_nil_of_length_eq_zero (by have:=HM.out.ey;omega)
     rw [←HM.out.eq,e0,mrg_right,List.append_nil]
    have HA:Hid (∀j u,(xs'.flatMap encM)[j]? = some u→wr.cell? ((⟨ba,oa,none⟩:Addr).add j)=some u):=fun j u hj=>by rw [add_addr5];exact (HM.out.rx.keeps hbw).flat j u hj
    have HA1:Hid (∀u∈xs'.flatMap encM,u.oneCell'=true):=fun u hu=>by
     obtain⟨p,hp,hu⟩:=List.mem_flatMap.1 hu
     exact encM_one (HM.out.gx p hp).slice u hu
    have HB1:Hid (∀u∈ys'.flatMap encM,u.oneCell'=true):=fun u hu=>by
     obtain⟨p,hp,hu⟩:=List.mem_flatMap.1 hu
     exact encM_one (HM.out.gy p hp).slice u hu
    have HAL:Hid ((xs'.flatMap encM).length=nx*5):=by show _=_;rw [flatM_len,HM.out.ex]
    have HBL:Hid ((ys'.flatMap encM).length=ny*5):=by show _=_;rw [flatM_len,HM.out.ey]
    have hwl:=hbw.size
    have hxi:(0:Int)<(nx:Nat):=by omega
    have hyi : ¬(0:Int)<(ny:Nat):=by omega
    go_wp2_with (first
     | (at_builtin;refine wpList_append_own _ rfl _ _ 91 rfl w.heap.size 98 i0 (.agg #[.int .i64 0,.int .i64 0,.string ⟨#[]⟩,.slice none 0 0,.int .u64 0]) 5 64 Tryz.underlying91 Hi.out Hz0.out Hz1.out Hz2.out rfl (by decide) _ _ _ rfl Hown1.out ⟨bb,ob,none⟩ ny cb (ys'.flatMap encM) rfl HBL.out (fun j u hj=>by rw [add_addr5];exact (HM.out.ry.keeps hb1).flat j u hj) HB1.out (by unfold maxLen;omega) (by omega) hb1.size ?_;intro v2 w2 hown2 hgrow2 hnil2)
     | (at_builtin;refine wpList_append_own _ rfl _ _ 91 rfl w.heap.size 98 i0 (.agg #[.int .i64 0,.int .i64 0,.string ⟨#[]⟩,.slice none 0 0,.int .u64 0]) 5 64 Tryz.underlying91 Hi.out Hz0.out Hz1.out Hz2.out rfl (by decide) _ _ _ rfl Hown0.out ⟨ba,oa,none⟩ nx ca (xs'.flatMap encM) rfl HAL.out HA.out HA1.out (by unfold maxLen;omega) (by omega) hwl ?_;intro v1 w1 hown1 hgrow1 hnil1;have hb1:Below w.heap.size w w1:=zak hbw hwl Hown0.out hgrow1;have Hown1:Hid (w1.ownsRow w.heap.size 98 5 v1 (no+nx) (ds.flatMap encM++xs'.flatMap encM)):=hown1;have Hn1:Hid (v1≠.slice none 0 0):=(fun e=>by have:=(hnil1.1 e).1;cases this);clear hown1 hgrow1 hnil1))
    go_ret
    have hn2:v2≠.slice none 0 0:=fun e=>Hn1.out (hnil2.1 e).1
    have hb2:Below w.heap.size w w2:=zak hb1 hb1.size Hown1.out hgrow2
    have hfl:ds.flatMap encM++xs'.flatMap encM++ys'.flatMap encM=R.flatMap encM:=by rw [HR2.out,List.flatMap_append,List.flatMap_append,List.append_assoc]
    rw [hfl] at hown2
    have hRl:no+nx+ny=R.length:=by rw [HR2.out,List.length_append,List.length_append,←HM.out.ex,←HM.out.ey,←HM.out.eo,Nat.add_assoc]
    rw [hRl] at hown2
    obtain⟨G,K,rfl,hK,hrow⟩:=own_some6 hown2 hn2
    exact⟨_,rfl,⟨G,0,K,rfl,hK,hrow,fun p hp=>(HGR.out p hp).keeps hb2⟩,hb2⟩
  ·have Hown0:Hid (wr.ownsRow w.heap.size 98 5 (.slice (some ⟨go,0,none⟩) no co) no (ds.flatMap encM)):=HM.out.own
   have hbw:=HM.out.below
   have HR2:Hid (R=ds++(xs'++ys')):=by
    show _=_
    have e0:xs'=[]:=List.eq_nil_of_length_eq_zero (by have:=HM.out.ex;omega)
    rw [←HM.out.eq,e0,zaq,List.nil_append]
   have HA:Hid (∀j u,(xs'.flatMap encM)[j]? = some u→wr.cell? ((⟨ba,oa,none⟩:Addr).add j)=some u):=fun j u hj=>by rw [add_addr5];exact (HM.out.rx.keeps hbw).flat j u hj
   have HA1:Hid (∀u∈xs'.flatMap encM,u.oneCell'=true):=fun u hu=>by
    obtain⟨p,hp,hu⟩:=List.mem_flatMap.1 hu
    exact encM_one (HM.out.gx p hp).slice u hu
   have HB1:Hid (∀u∈ys'.flatMap encM,u.oneCell'=true):=fun u hu=>by
    obtain⟨p,hp,hu⟩:=List.mem_flatMap.1 hu
    exact encM_one (HM.out.gy p hp).slice u hu
   have HAL:Hid ((xs'.flatMap encM).length=nx*5):=by show _=_;rw [flatM_len,HM.out.ex]
   have HBL:Hid ((ys'.flatMap encM).length=ny*5):=by show _=_;rw [flatM_len,HM.out.ey]
   have hwl:=hbw.size
   have hxi : ¬(0:Int)<(nx:Nat):=by omega
   go_wp2_with (first
    | (at_builtin;refine wpList_append_own _ rfl _ _ 91 rfl w.heap.size 98 i0 (.agg #[.int .i64 0,.int .i64 0,.string ⟨#[]⟩,.slice none 0 0,.int .u64 0]) 5 64 Tryz.underlying91 Hi.out Hz0.out Hz1.out Hz2.out rfl (by decide) _ _ _ rfl Hown1.out ⟨bb,ob,none⟩ ny cb (ys'.flatMap encM) rfl HBL.out (fun j u hj=>by rw [add_addr5];exact (HM.out.ry.keeps hb1).flat j u hj) HB1.out (by unfold maxLen;omega) (by omega) hb1.size ?_;intro v2 w2 hown2 hgrow2 hnil2)
    | (at_builtin;refine wpList_append_own _ rfl _ _ 91 rfl w.heap.size 98 i0 (.agg #[.int .i64 0,.int .i64 0,.string ⟨#[]⟩,.slice none 0 0,.int .u64 0]) 5 64 Tryz.underlying91 Hi.out Hz0.out Hz1.out Hz2.out rfl (by decide) _ _ _ rfl Hown0.out ⟨ba,oa,none⟩ nx ca (xs'.flatMap encM) rfl HAL.out HA.out HA1.out (by unfold maxLen;omega) (by omega) hwl ?_;intro v1 w1 hown1 hgrow1 hnil1;have hb1:Below w.heap.size w w1:=zak hbw hwl Hown0.out hgrow1;have Hown1:Hid (w1.ownsRow w.heap.size 98 5 v1 (no+nx) (ds.flatMap encM++xs'.flatMap encM)):=hown1;have Hn1:Hid (v1≠.slice none 0 0):=(fun e=>by have:=(hnil1.1 e).1;cases this);clear hown1 hgrow1 hnil1))
   go_ret
   have hn2:v2≠.slice none 0 0:=fun e=>Hn1.out (hnil2.1 e).1
   have hb2:Below w.heap.size w w2:=zak hb1 hb1.size Hown1.out hgrow2
   have hfl:ds.flatMap encM++xs'.flatMap encM++ys'.flatMap encM=R.flatMap encM:=by rw [HR2.out,List.flatMap_append,List.flatMap_append,List.append_assoc]
   rw [hfl] at hown2
   have hRl:no+nx+ny=R.length:=by rw [HR2.out,List.length_append,List.length_append,←HM.out.ex,←HM.out.ey,←HM.out.eo,Nat.add_assoc]
   rw [hRl] at hown2
   obtain⟨G,K,rfl,hK,hrow⟩:=own_some6 hown2 hn2
   exact⟨_,rfl,⟨G,0,K,rfl,hK,hrow,fun p hp=>(HGR.out p hp).keeps hb2⟩,hb2⟩
theorem SlM.take {w:World} {ms:List MB} {b o c:Nat} (h:SlM w ms (.slice (some ⟨b,o,none⟩) ms.length c)) (m:Nat) (hm:m≤ms.length):SlM w (ms.take m) (.slice (some ⟨b,o,none⟩) m c):=by
 obtain⟨b',o',c',hv,hc,hr,hg⟩:=h
 injection hv with h1 h2 h3
 injection h1 with h1
 injection h1 with h4 h5
 subst h3 h4 h5
 exact⟨b,o,c,by rw [List.length_take,Nat.min_eq_left hm],by rw [List.length_take,Nat.min_eq_left hm];omega,hr.take m,fun p hp=>hg p (List.mem_of_mem_take hp)⟩
theorem SlM.drop {w:World} {ms:List MB} {b o c:Nat} (h:SlM w ms (.slice (some ⟨b,o,none⟩) ms.length c)) (m:Nat):SlM w (ms.drop m) (.slice (some ⟨b,o+m*5,none⟩) (ms.length-m) (c-m)):=by
 obtain⟨b',o',c',hv,hc,hr,hg⟩:=h
 injection hv with h1 h2 h3
 injection h1 with h1
 injection h1 with h4 h5
 subst h3 h4 h5
 exact⟨b,o+m*5,c-m,by rw [List.length_drop],by rw [List.length_drop];omega,hr.drop m,fun p hp=>hg p (List.mem_of_mem_drop hp)⟩
theorem sorted_core (f:Nat) (g:MB→MB→Int) (k:Nat) (ms:List MB) (v:Value) (w:World) (hv:SlM w ms v) (hlen:ms.length≤65536)
 (hmg:Hid (∀(xs ys:List MB) (va vb:Value) (W:World),SlM W xs va→SlM W ys vb→xs.length+ys.length≤65536→Calls Tryz.prog 91 #[va,vb,fv f] W fun e W'=>∃v,e=.returned v∧SlM W' (mrg (ltG g) xs ys) v∧Below W.heap.size W W'))
 (ih:Hid (2≤ms.length→∀(xs:List MB) (va:Value) (W:World),xs.length≤ms.length-1→SlM W xs va→Calls Tryz.prog 50 #[va,fv f] W fun e W'=>∃v,e=.returned v∧SlM W' (srt (ltG g) k xs) v∧Below W.heap.size W W')) :
 Calls Tryz.prog 50 #[v,fv f] w fun e w'=>∃v,e=.returned v∧SlM w' (srt (ltG g) (k+1) ms) v∧Below w.heap.size w w':=by
 obtain⟨b,o,c,rfl,hc,_,_⟩:=id hv
 have HS:Hid (SlM w ms (.slice (some ⟨b,o,none⟩) ms.length c)):=hv
 clear hv
 by_cases h2:ms.length<2
 ·have Hr:Hid (srt (ltG g) (k+1) ms=ms):=by show _=_;unfold srt;rw [if_pos h2]
  generalize srt (ltG g) (k+1) ms=R at *
  have h2':(ms.length:Int)<2:=by omega
  clear ih hmg
  go_enter Tryz.func50,Tryz.ntmps50
  go_wp2_with fail
  go_ret
  exact⟨_,rfl,by rw [Hr.out];exact HS.out,Below.refl _ _⟩
 ·have Hr:Hid (srt (ltG g) (k+1) ms=mrg (ltG g) (srt (ltG g) k (ms.take (ms.length / 2))) (srt (ltG g) k (ms.drop (ms.length / 2)))):=srt_step _ _ _ h2
  have Ih:Hid _:=ih.out (by omega)
  obtain⟨h,hh⟩:∃h,h=ms.length / 2:=⟨_,rfl⟩
  rw [←hh] at Hr
  have hle:h≤ms.length:=by omega
  have HS1:Hid (SlM w (ms.take h) (.slice (some ⟨b,o,none⟩) h c)):=HS.out.take h hle
  have HS2:Hid (SlM w (ms.drop h) (.slice (some ⟨b,o+h*5,none⟩) (ms.length-h) (c-h))):=HS.out.drop h
  have Hl1:Hid ((ms.take h).length≤ms.length-1):=by show _≤_;rw [List.length_take];omega
  have Hl2:Hid ((ms.drop h).length≤ms.length-1):=by show _≤_;rw [List.length_drop];omega
  have Hl3:Hid ((srt (ltG g) k (ms.take h)).length+(srt (ltG g) k (ms.drop h)).length≤65536):=by show _≤_;rw [srt_len,srt_len,List.length_take,List.length_drop];omega
  generalize srt (ltG g) (k+1) ms=R at *
  have h2' : ¬(ms.length:Int)<2:=by omega
  have hq:((ms.length:Nat):Int) / 2=((h:Nat):Int):=by omega
  have hle':((h:Nat):Int)≤(ms.length:Nat):=by omega
  have hcc:h≤c:=by omega
  have hcc':((h:Nat):Int)≤(c:Nat):=by omega
  have hcn : ¬((c:Nat):Int)=(h:Nat):=by omega
  have hcn2 : ¬c=h:=by omega
  have hmc:ms.length≤c:=hc
  have hmc':(ms.length:Int)≤(c:Nat):=by omega
  clear hh ih h2 hc HS
  go_enter Tryz.func50,Tryz.ntmps50
  go_wp2_with fail
  go_region_held3 (fun _=>True) (first|trivial|go_keep)
   (first
    | (go_at_call 91;refine (hmg.out _ _ _ _ _ HT1.out HT2.out Hl3.out).mono ?_;rintro e w3 ⟨v3,rfl,hs3,hg3⟩;have hb3:Below w.heap.size w w3:=hb2.trans (hg3.mono hb2.size);have HT3:Hid _:=hs3;clear hs3 hg3)
    | (go_at_call 50;refine (Ih.out (ms.drop h) _ _ Hl2.out (HS2.out.keeps hb1)).mono ?_;rintro e w2 ⟨v2,rfl,hs2,hg2⟩;have hb2:Below w.heap.size w w2:=hb1.trans (hg2.mono hb1.size);have HT2:Hid (SlM w2 (srt (ltG g) k (ms.drop h)) v2):=hs2;have HT1:Hid (SlM w2 (srt (ltG g) k (ms.take h)) v1):=HT0.out.keeps hg2;clear hs2 hg2)
    | (go_at_call 50;refine (Ih.out (ms.take h) _ _ Hl1.out (HS1.out.keeps (Below.refl _ _).drew)).mono ?_;rintro e w1 ⟨v1,rfl,hs1,hg1⟩;have hb1:Below w.heap.size w w1:=(Below.refl _ _).drew.trans hg1;have HT0:Hid (SlM w1 (srt (ltG g) k (ms.take h)) v1):=hs1;clear hs1 hg1))
  go_wp2_with fail
  go_ret
  exact⟨_,rfl,by rw [Hr.out];exact HT3.out,hb3⟩
theorem sorted6_any (f:Nat) (eg:∀args w,(callFunc f args).run Tryz.prog w=.ok (.enter f args) w) (g:MB→MB→Int)
 (hc:Hid (∀(p r:MB) (W:World),GoodM W p→GoodM W r→Calls Tryz.prog f #[.agg #[.int .i64 p.t.kind,.int .i64 p.t.num,.string p.t.text,p.u,.int .u64 p.m],.agg #[.int .i64 r.t.kind,.int .i64 r.t.num,.string r.t.text,r.u,.int .u64 r.m]] W fun e W'=>e=.returned (.int .i64 (g p r))∧Grew W W')) :
 ∀(k:Nat) (ms:List MB) (v:Value) (w:World),SlM w ms v→ms.length≤65536→ms.length≤k+1→Calls Tryz.prog 50 #[v,fv f] w fun e w'=>∃v,e=.returned v∧SlM w' (srt (ltG g) (k+1) ms) v∧Below w.heap.size w w':=by
 have hmg:Hid (∀(xs ys:List MB) (va vb:Value) (W:World),SlM W xs va→SlM W ys vb→xs.length+ys.length≤65536→Calls Tryz.prog 91 #[va,vb,fv f] W fun e W'=>∃v,e=.returned v∧SlM W' (mrg (ltG g) xs ys) v∧Below W.heap.size W W'):=fun xs ys va vb W h1 h2 h3=>merged_core f eg g xs ys va vb W h1 h2 h3 hc
 intro k
 induction k with
 | zero=>
  intro ms v w hv hlen hk
  exact sorted_core f g 0 ms v w hv hlen hmg (fun h=>by omega)
 | succ k ih=>
  intro ms v w hv hlen hk
  exact sorted_core f g (k+1) ms v w hv hlen hmg (fun _ xs va W hx hs=>ih xs va W hs (by omega) (by omega))
end Go.Proofs.YtlnecfjnffdciacGreat
