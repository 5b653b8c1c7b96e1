import Derived.Test.YtmcaejooaaahdaaGreatZ02
import Derived.Deep.RegionHeld3
import Derived.Deep.Matrix
set_option maxHeartbeats 8000000
set_option maxRecDepth 100000
namespace Go.Proofs.YtmcaejooaaahdaaGreat
open Go.Proofs.Tryz
variable {A B C N Y a b c cols gk i j k n p rows x:Nat} {G K L f2 g' g2 pick:Nat→Nat} {f f':Nat→Nat→Nat} {h:Int} {v:Value} {w w':World}
open Go.RowKit
theorem Tryz.infoRow:(Tryz.prog.info? 59).map (fun i=>(i.zero,i.size,i.bytes))=some (some nS,1,24):=by kernel_rfl
def a0Y(r cols:Nat)(G:Nat→Nat)(i:Nat):Value:=if i<r then .slice (some ⟨G i,0,none⟩) cols cols else nS
def lO(G:Nat→Nat)(r g i:Nat):Nat:=if i=r then g else G i
structure c2C(w:World)(b rows cols r:Nat)(G:Nat→Nat)(f:Nat→Nat→Nat):Prop where
 top:w.rowIs b 59 rows (a0Y r cols G)
 row: ∀i,i<r→w.rowIs (G i) 5 cols (fun k=> .int .u8 (f i k:Nat))
 low: ∀i,i<r→b<G i
 inj: ∀i j,i<r→j<r→i≠j→G i≠G j
structure xT(w:World)(b rows cols r j:Nat)(G:Nat→Nat)(f:Nat→Nat→Nat):Prop where
 top:w.rowIs b 59 rows (a0Y (r+1) cols G)
 row: ∀i,i<r→w.rowIs (G i) 5 cols (fun k=> .int .u8 (f i k:Nat))
 cur:w.rowIs (G r) 5 cols (fun k=> .int .u8 (dV j (f r) (fun _=>0) k:Nat))
 low: ∀i,i<r+1→b<G i
 inj: ∀i j,i<r+1→j<r+1→i≠j→G i≠G j
theorem b2O(w:World)(rows cols:Nat)(G:Nat→Nat)(f:Nat→Nat→Nat):c2C (w.alloc (.cells (madeCells #[nS] rows) 59)) w.heap.size rows cols 0 G f:=
 ⟨(World.rowIs_made w _ rows 59).congr (fun j _=>by unfold a0Y;rw[if_neg (c9L _)]),fun i hi=>absurd hi (c9L _),fun i hi=>absurd hi (c9L _),fun i _ hi=>absurd hi (c9L _)⟩
theorem a9N{r:Nat}(h:c2C w b rows cols r G f):
  xT ((w.setCell (aD b r) (.slice (some (aD w.heap.size 0)) cols cols)).alloc (.cells (madeCells #[.int .u8 0] cols) 5)) b rows cols r 0 (lO G r w.heap.size) f:=by
 have A0:=World.rowIs_made (w.setCell (aD b r) (.slice (some (aD w.heap.size 0)) cols cols)) (.int .u8 0) cols 5;rw[Deep.nblk_setCell]at A0;have A2:=h.top.lt;have e1: ∀i,i<r→lO G r w.heap.size i=G i:=fun i hi=>if_neg (by omega);have e2:lO G r w.heap.size r=w.heap.size:=if_pos rfl;refine⟨((h.top.set r _).alloc _).congr (fun j _=>?_),fun i hi=>?_,?_,fun i hi=>?_,fun i j hi hj hne=>?_⟩
 ·unfold a0Y;by_cases e:j=r
  ·subst e;rw[if_pos rfl,if_pos (by omega),e2]
  ·rw[if_neg e];by_cases A1:j<r
   ·rw[if_pos A1,if_pos (by omega),e1 j A1]
   ·rw[if_neg A1,if_neg (by omega)]
 ·rw[e1 i hi];exact((h.row i hi).setOther (by have:=h.low i hi;show G i≠b;omega) _).alloc _
 ·rw[e2];exact A0.congr (fun k _=>by show _=Value.int .u8 ((dV 0 (f r) (fun _=>0) k:Nat):Int);unfold dV;rw[if_neg (c9L _)];rfl)
 ·by_cases e:i=r
  ·rw[e,e2];exact A2
  ·rw[e1 i (by omega)];exact h.low i (by omega)
 ·by_cases ei:i=r
  ·rw[ei,e2,e1 j (by omega)];have:=(h.row j (by omega)).lt;omega
  ·by_cases ej:j=r
   ·rw[ej,e2,e1 i (by omega)];have:=(h.row i (by omega)).lt;omega
   ·rw[e1 i (by omega),e1 j (by omega)];exact h.inj i j (by omega) (by omega) hne
theorem xT.below{r:Nat}(h:xT w b rows cols r j G f)(hb:Bl w w'):xT w' b rows cols r j G f:=
 ⟨eC h.top hb,fun i hi=>eC (h.row i hi) hb,eC h.cur hb,h.low,h.inj⟩
theorem xT.drew{r:Nat}(h:xT w b rows cols r j G f):xT w.drew b rows cols r j G f:=⟨h.top,h.row,h.cur,h.low,h.inj⟩
theorem b8A{r:Nat}(h:xT w b rows cols r j G f):xT (w.setCell ⟨G r,j,none⟩ (.int .u8 (f r j:Nat))) b rows cols r (j+1) G f:=
 ⟨h.top.setOther (by have:=h.low r (by omega);show b≠G r;omega) _,fun i hi=>(h.row i hi).setOther (h.inj i r (by omega) (by omega) (by omega)) _,lU h.cur,h.low,h.inj⟩
theorem b7D{r:Nat}(h:xT w b rows cols r cols G f):c2C w b rows cols (r+1) G f:=
 ⟨h.top,fun i hi=>by
  by_cases e:i=r
  ·rw[e]
   exact h.cur.congr (fun k hk=>by rw[show dV cols (f r) (fun _=>0) k=f r k from if_pos hk])
  ·exact h.row i (by omega),h.low,h.inj⟩
theorem c0G(h:c2C w b rows cols rows G f):Own w b b rows cols G f:=
 ⟨h.top.congr (fun i hi=>if_pos hi),h.row,c9C _,fun r hr=>d2B (h.low r hr),fun r hr=>by have:=h.low r hr;omega,h.inj⟩
def c0C(g:Nat)(lb:Array Value)(rows cols:Nat)(f:Nat→Nat→Nat)(w:World):Prop:=
 ∀i,i<rows→ ∀j,j<cols→ ∀W,Bl w W→Calls prog g (#[iV i,iV j]++lb) W fun e w'=>e=.returned (.int .u8 (f i j:Nat))∧Bl W w'
theorem nL(g rows cols:Nat)(lb:Array Value)(f:Nat→Nat→Nat)(w:World)(eg: ∀args w,(callFunc g args).run prog w=.ok (.enter g args) w)
  (hcell:c0C g lb rows cols f w) (hr:rows≤1000) (hc:cols≤1000):
  Calls prog 162 #[iV rows,iV cols,.func (.func g) #[] lb] w fun e w'=>
   e=.returned (.slice (some (aD w.heap.size 0)) rows rows)∧(∃G,Own w' w.heap.size w.heap.size rows cols G f)∧Bl w w':=by
 have A4:=run_make_row' (P:=prog) 169 59 nS 24 underlying169 Tryz.infoRow rfl .i64 .i64 rows (by omega) (by omega);have A1:=run_make_row' (P:=prog) 59 5 (.int .u8 0) 1 underlying59 Tryz.infoByte rfl .i64 .i64 cols (by omega) (by omega);go_enter func162,ntmps162
 go_wp2_with fail;clear A4;go_loopw [14] (fun i wr=> ∃r:Nat,r≤rows∧i=iV r∧(∃G,c2C wr w.heap.size rows cols r G f)∧Bl w wr) (fun i _=>rows-(intOf i).toNat)
 case atStart=>exact⟨0,c9D _,rfl,⟨fun _=>0,b2O w rows cols _ f⟩,aB8 _ _⟩
 case round=>
  obtain⟨r,Ac,rfl,⟨G,hp⟩,hb⟩:=hrel;by_cases A2:r<rows
  ·have Ab:(r:Int)<(rows:Int):=by omega
   have Aa:=hp.top.frozen r;have A5:=hp.top.cell A2;have Ag:=hp.top.lt;obtain⟨wo,rfl⟩: ∃x,x=wr:=⟨wr,rfl⟩;have HF:=a9N hp;obtain⟨G',A7⟩: ∃G',G'=lO G r wo.heap.size:=⟨_,rfl⟩;rw[←A7]at HF;clear hp A7;go_wp2_with fail;clear Aa A5 A1;go_loopw [27] (fun i wi=> ∃j:Nat,j≤cols∧i=iV j∧xT wi w.heap.size rows cols r j G' f∧Bl w wi) (fun i _=>cols-(intOf i).toNat)
   case atStart=>exact⟨0,c9D _,rfl,HF,(hb.setCell (p:=⟨w.heap.size,r,none⟩) (c9C _) _).alloc (by rw[Deep.nblk_setCell];exact hb.size) _⟩
   case round=>
    obtain⟨j,Ah,rfl,hF,A3⟩:=hrel;clear HF;by_cases hj:j<cols
    ·have Ad:(j:Int)<(cols:Int):=by omega
     have A5:=hF.top.cell A2;rw[show a0Y (r+1) cols G' r=.slice (some ⟨G' r,0,none⟩) cols cols from if_pos (by omega)]at A5;have A9:=hcell r A2 j hj _ A3.drew;go_wp2_with fail;go_region_with (go_at_fn g;refine A9.mono ?_;rintro e w1 ⟨rfl,A8⟩;have A0:=hF.drew.below A8;have A6:=A0.top.cell A2;rw[show a0Y (r+1) cols G' r=.slice (some ⟨G' r,0,none⟩) cols cols from if_pos (by omega)]at A6;have Af:=A0.cur.cell hj;have Ae:=A0.cur.frozen j)
     all_goals go_wp2_with fail
     all_goals exact⟨⟨j+1,by omega,by go_num,b8A A0,(A3.drew.trans (A8.mono A3.size)).setCell (d2B (A0.low r (by omega))) _⟩,by simp[intOf];omega⟩
    ·have e9:j=cols:=by omega
     subst e9;go_wp2_with fail;exact⟨⟨r+1,by omega,by go_num,⟨_,b7D hF⟩,A3⟩,by simp[intOf];omega⟩
  ·have e8:r=rows:=by omega
   subst e8;clear A1;go_wp2_with fail;go_ret
   exact⟨rfl,⟨G,c0G hp⟩,hb⟩
structure Mx(w:World)(v:Value)(n c:Nat)(f:Nat→Nat→Nat):Prop where
 bd:Gf.Bd2 f
 dim:1≤n∧n≤12∧1≤c∧c≤400
 lies: ∃(b o cap:Nat) (G O K:Nat→Nat),v=.slice (some (aD b o)) n cap∧jV w b o n c G O K f
theorem Mx.below(h:Mx w v n c f)(hb:Bl w w'):Mx w' v n c f:=by
 obtain⟨b,o,A0,G,O,K,hv,hm⟩:=h.lies;exact⟨h.bd,h.dim,b,o,A0,G,O,K,hv,hm.below hb⟩
theorem Mx.arg(h:Mx w v n c f):Arg w v n (fun _=>c) f:=by
 obtain⟨b,o,A0,G,O,K,hv,hm⟩:=h.lies;exact⟨h.bd,some (aD b o),A0,fun r=>some ⟨G r,O r,none⟩,K,hv,fun r hr=>⟨b,o,rfl,hm.top r hr,fun k hk=>⟨G r,O r,rfl,hm.row r hr k hk⟩⟩⟩
theorem Mx.ok(h:Mx w v n c f):aB n (fun _=>c)=0:=
 gB h.dim.1 h.dim.2.1 h.dim.2.2.1 h.dim.2.2.2 (fun _ _=>rfl)
theorem Arg.mx(h:Arg w v n L f)(h0:aB n L=0):Mx w v n (L 0) f:=by
 obtain⟨d1,d2,d3,d4,d5⟩:=a6Q h0;obtain⟨A,A1,R,C,hv,hr⟩:=h.lies;obtain⟨b,o,rfl,_,_⟩:=hr 0 (by omega);have A0: ∀r,r<n→ ∃x:Nat×Nat,R r=some (aD x.1 x.2)∧w.cell? (aD b (o+r))=some (.slice (R r) (L 0) (C r))∧ ∀k,k<L 0→w.cell? (aD x.1 (x.2+k))=some (.int .u8 (f r k:Nat)):=fun r hrn=>by
  obtain⟨b',o',e1,e2,e3⟩:=hr r hrn;cases e1
  rw[d5 r hrn]at e2 e3;obtain⟨b2,o2,e4,_⟩:=e3 0 (by omega);refine⟨(b2,o2),e4,e2,fun k hk=>?_⟩;obtain⟨b3,o3,e5,e6⟩:=e3 k hk;rw[e4]at e5;cases e5
  exact e6
 obtain⟨x,hx⟩:=Deep.choose_lt A0;refine⟨h.bd,⟨d1,d2,d3,d4⟩,b,o,A1,fun r=>(x r).1,fun r=>(x r).2,C,hv,fun r hrn=>?_,fun r hrn=>(hx r hrn).2.2⟩;rw[(hx r hrn).2.1,(hx r hrn).1]
theorem Own.mx(h:Own w N b n c G f)(bd:Gf.Bd2 f)(dim:1≤n∧n≤12∧1≤c∧c≤400):Mx w (.slice (some (aD b 0)) n n) n c f:=
 ⟨bd,dim,b,0,n,G,_,_,rfl,h.mat⟩
theorem Tryz.enters_cellOne: ∀args w,(callFunc 170 args).run Tryz.prog w=.ok (.enter 170 args) w:=enters_of Tryz.func170 (by kernel_rfl) rfl
theorem c6E(n:Nat)(w:World)(h1:1≤n)(h2:n≤12):
  Calls prog 158 #[iV n] w fun e w'=>e=.returned (.tuple #[.slice (some (aD w.heap.size 0)) n n,iV 0])∧(∃G,Own w' w.heap.size w.heap.size n n G Gf.one)∧Bl w w':=by
 have A0: ¬(n:Int)<1:=by omega
 have A1: ¬(12:Int)<(n:Int):=by omega
 go_enter func158,ntmps158
 go_wp2_with fail;refine(nL 170 n n #[] Gf.one _ Tryz.enters_cellOne (fun i _ j _ W _=>by simpa using vZ i j W) (by omega) (by omega)).mono ?_;rintro e w1 ⟨rfl,ho,hb⟩;go_wp2_with fail;go_ret2
 exact⟨rfl,ho,hb⟩
theorem a6E(i j Ba Bb:Nat)(ba oa na pa ca bb ob nb pb cb:Nat)(Ga Oa Ka Gb Ob Kb:Nat→Nat)(fa fb:Nat→Nat→Nat)(w:World)
  (ha:w.cell? (aD Ba 0)=some (.slice (some (aD ba oa)) na pa)) (hb:w.cell? (aD Bb 0)=some (.slice (some (aD bb ob)) nb pb))
  (hma:jV w ba oa na ca Ga Oa Ka fa) (hmb:jV w bb ob nb cb Gb Ob Kb fb) (hbda:Gf.Bd2 fa) (hbdb:Gf.Bd2 fb) (hab:ca=nb) (hi:i<na) (hj:j<cb) (hca:ca≤1000):
  Calls prog 163 #[iV i,iV j,.pointer (some (aD Ba 0)),.pointer (some (aD Bb 0))] w fun e w'=>e=.returned (.int .u8 (Gf.mm ca fa fb i j:Nat))∧Bl w w':=by
 subst hab;have A5:=hma.top i hi;have A9:(i:Int)<(na:Int):=by omega
 have A8:(j:Int)<(cb:Int):=by omega
 have la:=World.block_lt_of_cell? _ _ ha;have lb:=World.block_lt_of_cell? _ _ hb;go_enter func163,ntmps163
 go_wp2_with fail;go_loopw [7,15] (fun s x wr=> ∃k:Nat,k≤ca∧x=iV k∧s=.int .u8 (Gf.dot k (fa i) (fun l=>fb l j):Nat)∧Bl w wr) (fun _ x _=>ca-(intOf x).toNat)
 case atStart=>exact⟨0,c9D _,rfl,rfl,Below.refl _ _⟩
 case round=>
  obtain⟨k,hk,rfl,rfl,A1⟩:=hrel;by_cases A3:k<ca
  ·have A4:(k:Int)<(ca:Int):=by omega
   have A2:=hma.below A1;have A0:=hmb.below A1;have r1:=A2.row i hi k A3;have r2:=A0.top k A3;have r3:=A0.row k A3 j hj;have r4:=(A1.cell (p:=⟨Bb,0,none⟩) lb).trans hb;have A7:=pO (Gf.mR (hbda i) (fun l=>fb l j) k) (Gf.dO (fb k j) (hbda i k));have HS:Hid (Gf.dot k (fa i) (fun l=>fb l j)^^^Gf.mul (fa i k) (fb k j)=Gf.dot (k+1) (fa i) (fun l=>fb l j)):=rfl;clear A2 A0 ha hb A5;go_wp2_with fail;refine(a5M _ _ _ (hbda i k) (hbdb k j)).mono ?_;rintro e w1 ⟨rfl,A6⟩;go_wp2_with fail;exact⟨⟨k+1,by omega,by go_num,cA (by rw[HS.out]),A1.trans (A6.mono A1.size)⟩,by simp[intOf];omega⟩
  ·have e8:k=ca:=by omega
   subst e8;go_wp2_with fail;go_ret
   exact⟨rfl,A1⟩
theorem Tryz.enters_mulCell: ∀args w,(callFunc 163 args).run Tryz.prog w=.ok (.enter 163 args) w:=enters_of Tryz.func163 (by kernel_rfl) rfl
def pA(w:World)(x y:Value):World:=((w.alloc (.cells #[x] 169)).alloc (.cells #[y] 169)).alloc (.cells #[x,y] 169)
theorem a5J(w:World)(x y:Value):Bl w (pA w x y):=
 ((aB8 _ _).alloc (by simp) _).alloc (by simp;omega) _
theorem wJ(w:World)(x y:Value):(pA w x y).heap.size=w.heap.size+3:=by
 unfold pA;simp
theorem a5B(w:World)(x y:Value):(pA w x y).cell? (aD w.heap.size 0)=some x∧(pA w x y).cell? (aD (w.heap.size+1) 0)=some y∧(pA w x y).cell? (aD (w.heap.size+2) 0)=some x∧(pA w x y).cell? (aD (w.heap.size+2) 1)=some y:=by
 unfold pA;go_simp
theorem a6A(va vb:Value)(na ca nb cb:Nat)(fa fb:Nat→Nat→Nat)(w:World)(ha:Mx w va na ca fa)(hb:Mx w vb nb cb fb)(hab:ca=nb):
  Calls prog 137 #[va,vb] w fun e w'=> ∃b G,e=.returned (.tuple #[.slice (some (aD b 0)) na na,iV 0])∧Own w' w.heap.size b na cb G (Gf.mm ca fa fb)∧Bl w w':=by
 have Ag:=ha.ok;have Ac:=hb.ok;have H1:=fun w' hb'=>l8 va na _ fa w' (ha.below (w':=w') hb').arg;have H2:=fun w' hb'=>l8 vb nb _ fb w' (hb.below (w':=w') hb').arg;rw[Ag]at H1;rw[Ac]at H2;obtain⟨d1,d2,d3,d4⟩:=ha.dim;obtain⟨f1,f2,f3,f4⟩:=hb.dim;obtain⟨ba,oa,pa,Ga,Oa,Ka,rfl,Ad⟩:=ha.lies;obtain⟨bb,ob,pb,Gb,Ob,Kb,rfl,Ah⟩:=hb.lies;have Ab:=ha.bd;have Aa:=hb.bd;subst hab;have A9:=a5J w (.slice (some (aD ba oa)) na pa) (.slice (some (aD bb ob)) ca pb);have A8:=a5B w (.slice (some (aD ba oa)) na pa) (.slice (some (aD bb ob)) ca pb);have Ao:(0:Int)<(na:Int):=by omega
 have An:(0:Int)<(ca:Int):=by omega
 have Ak:0<ca:=by omega
 have Al: ¬ca=0:=by omega
 clear Ag Ac ha hb;go_enter func137,ntmps137
 go_wp2_with fail;refine wp_loop_rounds 3 ?_;rw[rounds_succ];go_wp2_with fail;refine(H1 _ A9).mono ?_;rintro e w1 ⟨rfl,A4⟩;rw[wJ]at A4;have k1:=(A4.cell (p:=⟨w.heap.size,0,none⟩) (by show w.heap.size<w.heap.size+3;omega)).trans A8.1;have k2:=(A4.cell (p:=⟨w.heap.size+1,0,none⟩) (by show w.heap.size+1<w.heap.size+3;omega)).trans A8.2.1;have k3:=(A4.cell (p:=⟨w.heap.size+2,1,none⟩) (by show w.heap.size+2<w.heap.size+3;omega)).trans A8.2.2.2;have A1:Bl w w1:=A9.trans (A4.mono (by omega));have z1:w.heap.size+3≤w1.heap.size:=by have:=A4.size;rw[wJ]at this;omega
 clear A9 A8 A4;go_wp2_with fail;rw[rounds_succ];go_wp2_with fail;refine(H2 _ A1).mono ?_;rintro e w2 ⟨rfl,A6⟩;have k1:=(A6.cell (p:=⟨w.heap.size,0,none⟩) (by show w.heap.size<w1.heap.size;omega)).trans k1;have k2:=(A6.cell (p:=⟨w.heap.size+1,0,none⟩) (by show w.heap.size+1<w1.heap.size;omega)).trans k2;have A0:=A1.trans (A6.mono A1.size);have z2:=c9E z1 A6.size;clear A6 k3 z1 A1 H1 H2;go_wp2_with fail;rw[rounds_succ];go_wp2_with fail;have A5:=Ad.below A0;have A3:=Ah.below A0;have Am:w2.cell? (aD ba oa)=some (.slice (some ⟨Ga 0,Oa 0,none⟩) ca (Ka 0)):=by simpa using A5.top 0 (by omega)
 have Ae:w2.cell? (aD bb ob)=some (.slice (some ⟨Gb 0,Ob 0,none⟩) cb (Kb 0)):=by simpa using A3.top 0 (by omega)
 have Af: ∀W0,Bl w2 W0→c0C 163 #[.pointer (some (aD w.heap.size 0)),.pointer (some (aD (w.heap.size+1) 0))] na cb (Gf.mm ca fa fb) W0:=by
  intro W0 hW0 i hi j hj W hW;have A7:=hW0.trans (hW.mono hW0.size);exact a6E i j w.heap.size (w.heap.size+1) ba oa na pa ca bb ob ca pb cb Ga Oa Ka Gb Ob Kb fa fb W ((A7.cell (p:=⟨w.heap.size,0,none⟩) (by show w.heap.size<w2.heap.size;omega)).trans k1)
   ((A7.cell (p:=⟨w.heap.size+1,0,none⟩) (by show w.heap.size+1<w2.heap.size;omega)).trans k2) (A5.below A7) (A3.below A7) Ab Aa rfl hi hj (by omega)
 have Ai:=fun W0 hW0=>nL 163 na cb #[.pointer (some (aD w.heap.size 0)),.pointer (some (aD (w.heap.size+1) 0))] (Gf.mm ca fa fb) W0 Tryz.enters_mulCell (Af W0 hW0) (by omega) (by omega);clear Ad Ah A5 A3 Af;go_region
 all_goals go_wp2_with fail
 go_region_held3 (fun w'=>w'.cell? (aD w.heap.size 0)=some (.slice (some (aD ba oa)) na pa)∧w'.cell? (aD (w.heap.size+1) 0)=some (.slice (some (aD bb ob)) ca pb)∧w'.cell? (aD bb ob)=some (.slice (some ⟨Gb 0,Ob 0,none⟩) cb (Kb 0))) (first|exact⟨k1,k2,Ae⟩|exact⟨(A2.cell (p:=⟨w.heap.size,0,none⟩) (c9P (by omega:w.heap.size<w.heap.size+3) z2)).trans k1,(A2.cell (p:=⟨w.heap.size+1,0,none⟩) (c9P (by omega:w.heap.size+1<w.heap.size+3) z2)).trans k2,cB8 A2 Ae⟩)
  (first|(go_at_call 162;refine(Ai _ ?_).mono ?_;exact((Below.refl _ _).drew).drew;rintro e w3 ⟨rfl,⟨G3,Aj⟩,A2⟩))
 all_goals go_wp2_with fail
 all_goals go_ret2
 all_goals exact⟨_,G3,rfl,Aj.lower A0.size,A0.trans (Below.mono (w:=w2) ⟨A2.os,A2.tape,A2.output,A2.size,A2.block⟩ A0.size)⟩
theorem Tryz.enters_notZero: ∀args w,(callFunc 181 args).run Tryz.prog w=.ok (.enter 181 args) w:=enters_of Tryz.func181 (by kernel_rfl) rfl
theorem vG(g c a B:Nat)(f:Nat→Nat)(w:World)(hr:w.rowIs g 5 c (fun k=> .int .u8 (f k:Nat)))(hB:w.cell? (aD B 0)=some (iV a))(ha:a<c):
  Calls prog 181 #[.slice (some (aD g 0)) c c,.pointer (some (aD B 0))] w fun e w'=>e=.returned (.bool (decide (f a≠0)))∧Bl w w':=by
 have hc:=hr.cell ha;have A0:(a:Int)<(c:Int):=by omega
 by_cases h:f a=0
 ·have H:Hid (decide (f a≠0)=false):=by show decide (f a≠0)=false;simpa using h
  rw[h]at hc;clear h hr;go_enter func181,ntmps181
  go_wp2_with fail;go_ret
  exact⟨jP (by rw[H.out]),Below.refl _ _⟩
 ·have H:Hid (decide (f a≠0)=true):=by show decide (f a≠0)=true;simpa using h
  have h':((f a:Int)==0)=false:=by rw[beq_eq_false_iff_ne];omega
  clear h hr;go_enter func181,ntmps181
  go_wp2_with fail;go_ret
  exact⟨jP (by rw[H.out];simp[bne,h']),Below.refl _ _⟩
def nW(a p:Nat)(G:Nat→Nat)(i:Nat):Nat:=if i=a then G p else if i=p then G a else G i
theorem Own.swap(h:Own w N b n c G f)(ha:a<n)(hp:p<n):
  Own ((w.setCell (aD b a) (.slice (some ⟨G p,0,none⟩) c c)).setCell (aD b p) (.slice (some ⟨G a,0,none⟩) c c)) N b n c (nW a p G) (Gf.swp a p f):=by
 have es: ∀i,i<n→ ∃s,s<n∧nW a p G i=G s∧Gf.swp a p f i=f s∧s=(if i=a then p else if i=p then a else i):=fun i hi=>by
  unfold nW Gf.swp;by_cases h1:i=a
  ·exact⟨p,hp,by rw[if_pos h1],by rw[if_pos h1],by rw[if_pos h1]⟩
  ·by_cases h2:i=p
   ·exact⟨a,ha,by rw[if_neg h1,if_pos h2],by rw[if_neg h1,if_pos h2],by rw[if_neg h1,if_pos h2]⟩
   ·exact⟨i,hi,by rw[if_neg h1,if_neg h2],by rw[if_neg h1,if_neg h2],by rw[if_neg h1,if_neg h2]⟩
 refine⟨((h.top.set a _).set p _).congr (fun i _=>?_),fun i hi=>?_,h.lob,fun i hi=>?_,fun i hi=>?_,fun i j hi hj hne=>?_⟩
 ·unfold nW;by_cases h2:i=p
  ·rw[if_pos h2];by_cases h1:i=a
   ·rw[if_pos h1,←h1,←h2]
   ·rw[if_neg h1,if_pos h2]
  ·rw[if_neg h2];by_cases h1:i=a
   ·rw[if_pos h1,if_pos h1]
   ·rw[if_neg h1,if_neg h1,if_neg h2]
 ·obtain⟨s,hs,e1,e2,_⟩:=es i hi;rw[e1,e2];exact((h.row s hs).setOther (h.apart s hs) _).setOther (h.apart s hs) _
 ·obtain⟨s,hs,e1,_,_⟩:=es i hi;rw[e1];exact h.low s hs
 ·obtain⟨s,hs,e1,_,_⟩:=es i hi;rw[e1];exact h.apart s hs
 ·obtain⟨s,hs,e1,_,e3⟩:=es i hi;obtain⟨t,ht,d1,_,d3⟩:=es j hj;rw[e1,d1];refine h.inj s t hs ht ?_;rw[e3,d3]
  (repeat' split)<;>omega
theorem Own.put(h:Own w N b n c G f)(hk:k<n)(hr:w'.rowIs (G k) 5 c (fun j=> .int .u8 (f' k j:Nat)))(ho:Off (fun x=>x=G k) w w')(he: ∀i,i≠k→f' i=f i):Own w' N b n c G f':=
 ⟨tZ h.top ho (fun e=>h.apart k hk e.symm),fun i hi=>by
  by_cases e:i=k
  ·rw[e]
   exact hr
  ·rw[he i e]
   exact tZ (h.row i hi) ho (h.inj i k hi hk e),h.lob,h.low,h.apart,h.inj⟩
theorem Own.congr(h:Own w N b n c G f)(he: ∀i,i<n→ ∀j,j<c→f i j=f' i j):Own w N b n c G f':=
 ⟨h.top,fun i hi=>(h.row i hi).congr (fun j hj=>by rw[he i hi j hj]),h.lob,h.low,h.apart,h.inj⟩
theorem Own.drew(h:Own w N b n c G f):Own w.drew N b n c G f:=⟨h.top,h.row,h.lob,h.low,h.apart,h.inj⟩
def qN(a k:Nat)(W:Nat→Nat→Nat)(i:Nat):Nat→Nat:=if i<k then Gf.add a W i else W i
theorem c0P(N b n c a:Nat)(G:Nat→Nat)(f:Nat→Nat→Nat)(w:World)(h:Own w N b n c G f)(ha:a<n)(hac:a<c)(hn:n≤100)(hz: ∀r,a≤r→r<n→f r a=0):
  Calls prog 171 #[.slice (some (aD b 0)) n n,iV a] w fun e w'=>e=.returned (.bool false)∧Bl w w':=by
 have A3:(a:Int)≤(n:Int):=by omega
 go_enter func171,ntmps171
 go_wp2_with fail;refine(rO 181 b a (n-a) (n-a) _ (fun r=> .slice (some ⟨G (a+r),0,none⟩) c c) (fun r=>decide (f (a+r) a≠0)) _ Tryz.enters_notZero ?_ ?_ (by omega)).mono ?_
 ·intro r hr;rw[((Below.refl w.heap.size w).alloc (c9C _) _).cell (p:=⟨b,a+r,none⟩) h.top.lt];exact h.top.cell (by omega)
 ·intro r hr W hW;have A0:Bl w W:=((Below.refl w.heap.size w).alloc (c9C _) _).trans (hW.mono (by simp));refine vG (G (a+r)) c a w.heap.size (f (a+r)) W (eC (h.row (a+r) (by omega)) A0) ?_ hac;rw[hW.cell (p:=⟨w.heap.size,0,none⟩) (by simp)];simp
 rintro e w1 ⟨i,rfl,hi,A1⟩;have A2:Bl w w1:=((Below.refl w.heap.size w).alloc (c9C _) _).trans (A1.mono (by simp));rcases hi with⟨rfl,hi⟩|⟨r,hr,rfl,hy,_⟩
 ·clear hi h hz;go_wp2_with fail;go_ret
  exact⟨rfl,A2⟩
 ·exact absurd (hz (a+r) (by omega) (by omega)) (of_decide_eq_true hy)
theorem b8C(N b n c a:Nat)(G:Nat→Nat)(f:Nat→Nat→Nat)(w:World)(h:Own w N b n c G f)(hf:Gf.Bd2 f)(ha:a<n)(hac:a<c)(hn:n≤100)(hcc:c≤1000)(hz: ¬ ∀r,a≤r→r<n→f r a=0):
  Calls prog 171 #[.slice (some (aD b 0)) n n,iV a] w fun e w'=>e=.returned (.bool true)∧(∃p G',a≤p∧p<n∧f p a≠0∧Own w' N b n c G' (Gf.clr a p f)∧ ∀r,r<n→vF b n G (G' r))∧Off (vF b n G) w w':=by
 have B6:(a:Int)≤(n:Int):=by omega
 have HZ:=hd8 hz;clear hz;go_enter func171,ntmps171
 go_wp2_with fail;refine(rO 181 b a (n-a) (n-a) _ (fun r=> .slice (some ⟨G (a+r),0,none⟩) c c) (fun r=>decide (f (a+r) a≠0)) _ Tryz.enters_notZero ?_ ?_ (by omega)).mono ?_
 ·intro r hr;rw[((Below.refl w.heap.size w).alloc (c9C _) _).cell (p:=⟨b,a+r,none⟩) h.top.lt];exact h.top.cell (by omega)
 ·intro r hr W hW;have Ax:Bl w W:=((Below.refl w.heap.size w).alloc (c9C _) _).trans (hW.mono (by simp));refine vG (G (a+r)) c a w.heap.size (f (a+r)) W (eC (h.row (a+r) (by omega)) Ax) ?_ hac;rw[hW.cell (p:=⟨w.heap.size,0,none⟩) (by simp)];simp
 rintro e w1 ⟨i,rfl,hi,Ai⟩;have Ag:Bl w w1:=((Below.refl w.heap.size w).alloc (c9C _) _).trans (Ai.mono (by simp));have hB:w1.cell? (aD w.heap.size 0)=some (iV a):=by
  rw[Ai.cell (p:=⟨w.heap.size,0,none⟩) (by simp)];simp
 rcases hi with⟨_,hi⟩|⟨q,hq,rfl,hy,_⟩
 ·exact absurd (fun r h1 h2=>by have:=of_decide_eq_false (hi (r-a) (by omega));rw[Nat.add_sub_cancel' h1]at this;omega) HZ.out
 clear HZ;have Ac:=of_decide_eq_true hy;have HY:Hid (f (a+q) a≠0):=Ac;have B1:=hd8 Ac;have h1:=h.below Ag;have A0:b<w.heap.size∧ ∀r,r<n→G r<w.heap.size:=⟨h.top.lt,fun r hr=>(h.row r hr).lt⟩;have An:w.heap.size<w1.heap.size:=World.block_lt_of_cell? _ _ hB;have HO:=h1.swap ha (show a+q<n by omega);obtain⟨wS,hS⟩: ∃wS,wS=(w1.setCell (aD b a) (.slice (some ⟨G (a+q),0,none⟩) c c)).setCell (aD b (a+q)) (.slice (some ⟨G a,0,none⟩) c c):=⟨_,rfl⟩;rw[←hS]at HO;have Af:wS.cell? (aD w.heap.size 0)=some (iV a):=by
  have Av:Off (fun k=>k=b) w1 wS:=by rw[hS];exact Off.set (S:=fun k=>k=b) (p:=⟨b,a+q,none⟩) (Off.set (S:=fun k=>k=b) (p:=⟨b,a,none⟩) (Off.refl (fun k=>k=b) w1) rfl _) rfl _
  rw[World.cell?_of_block (w:=w1) (Av.block w.heap.size An (fun e=>by have:=A0.1;omega))];exact hB
 have Ao:Off (vF b n G) w wS:=by rw[hS];exact Off.set (p:=⟨b,a+q,none⟩) (Off.set (p:=⟨b,a,none⟩) (Off.of_below Ag) (Or.inl rfl) _) (Or.inl rfl) _
 have Am:w.heap.size<wS.heap.size:=World.block_lt_of_cell? _ _ Af;have HS:=hd8 hS;clear hS;have t1:=h1.top.cell ha;have t2:=h1.top.cell (show a+q<n by omega);have z1:=h1.top.frozen a;have z2:=h1.top.frozen (a+q);obtain⟨v3,t3⟩: ∃v3,(w1.setCell (aD b a) (.slice (some ⟨G (a+q),0,none⟩) c c)).cell? (aD b (a+q))=some v3:=⟨_,(h1.top.set a _).cell (by omega)⟩;have z3:=(h1.top.set a (.slice (some ⟨G (a+q),0,none⟩) c c)).frozen (a+q);have B7:IntKind.i64.wrap ((a:Int)+(q:Int))=(a:Int)+(q:Int):=by rw[IntKind.wrap_i64];omega
 have B3:(a:Int)+(q:Int)<(n:Int):=by omega
 have B5:(a:Int)<(n:Int):=by omega
 clear h h1 hy Ac Ai;go_wp2_with fail;go_region
 rw[←HS.out];clear HS t1 t2 z1 z2 t3 z3 hB Ag B3 An;have Ae: ∀r,r<n→nW a (a+q) G r<w.heap.size:=fun r hr=>by
  unfold nW;split
  ·exact A0.2 _ (by omega)
  ·split
   ·exact A0.2 _ ha
   ·exact A0.2 _ hr
 have A1: ∀r,r<n→vF b n G (nW a (a+q) G r):=fun r hr=>by
  unfold nW;split
  ·exact Or.inr ⟨_,by omega,rfl⟩
  ·split
   ·exact Or.inr ⟨_,ha,rfl⟩
   ·exact Or.inr ⟨_,hr,rfl⟩
 have e0:Gf.swp a (a+q) f a a=f (a+q) a:=by
  unfold Gf.swp;rw[if_pos rfl]
 have A6:Gf.Bd2 (Gf.swp a (a+q) f):=Gf.tQ hf;have HD:Hid (Gf.add a (Gf.scl a (Gf.inv (f (a+q) a)) (Gf.swp a (a+q) f))=Gf.clr a (a+q) f):=rfl;have A3:=hf (a+q) a;generalize nW a (a+q) G=G' at HO Ae A1;generalize Gf.swp a (a+q) f=W0 at HO e0 A6 HD;generalize f (a+q) a=x at e0 HD HY A3;have u1:=HO.top.cell ha;have u2:=(HO.row a ha).cell hac;rw[e0]at u2;have Az:(a:Int)<(c:Int):=by omega
 go_wp2_with fail;refine(b4Q _ _ A3).mono ?_;rintro e w2 ⟨rfl,A7⟩;have Al:=HO.drew.below A7;have Ad:=(A7.cell (p:=⟨w.heap.size,0,none⟩) Am).trans Af;have A4:Off (vF b n G) w w2:=Ao.drew.trans (Off.of_below A7);have Ap:w.heap.size<w2.heap.size:=World.block_lt_of_cell? _ _ Ad;clear A7 Af Ao Am u1 u2 HO;go_wp2_with fail;refine(b6I (G' a) c (Gf.inv x) (W0 a) _ (Al.row a ha) (A6 a) (Gf.iW x) (by omega)).mono ?_;rintro e w3 ⟨rfl,As,Aa⟩;have Ah:Own w3 N b n c G' (Gf.scl a (Gf.inv x) W0):=Al.put ha (As.congr (fun j _=>by rw[show Gf.scl a (Gf.inv x) W0 a j=Gf.mul (W0 a j) (Gf.inv x)from if_pos rfl])) Aa (fun i hi=>by funext j;exact if_neg hi);have Aq:w3.cell? (aD w.heap.size 0)=some (iV a):=(World.cell?_of_block (w:=w2) (Aa.block w.heap.size Ap (fun e=>by have:=Ae a ha;omega))).trans Ad;have A5:Off (vF b n G) w w3:=A4.trans (Aa.wider (fun k e=>by rw[e];exact A1 a ha));have A9:Gf.Bd2 (Gf.scl a (Gf.inv x) W0):=Gf.xN A6;clear As Aa Al Ad A4 Ap e0 A6;generalize Gf.scl a (Gf.inv x) W0=W1 at Ah A9 HD;go_wp2_with fail;go_loopw [47] (fun i wr=> ∃k:Nat,k≤n∧i=iV k∧Own wr N b n c G' (qN a k W1)∧wr.cell? (aD w.heap.size 0)=some (iV a)∧Off (vF b n G) w wr) (fun i _=>n-(intOf i).toNat)
 case atStart=>exact⟨0,c9D _,rfl,Ah.congr (fun i _ j _=>by unfold qN;rw[if_neg (c9L _)]),Aq,A5⟩
 case round=>
  clear Ah Aq A5;obtain⟨k,hk,rfl,A2,Ab,Ak⟩:=hrel;have B2:w.heap.size<wr.heap.size:=World.block_lt_of_cell? _ _ Ab;by_cases A0:k<n
  ·have Au:(k:Int)<(n:Int):=by omega
   have u1:=A2.top.cell A0;by_cases Aj:k=a
   ·subst Aj;go_wp2_with fail;refine⟨⟨k+1,by omega,by go_num,A2.congr (fun i _ j _=>?_),Ab,Ak⟩,by simp[intOf];omega⟩;unfold qN;by_cases hi:i<k
    ·rw[if_pos hi,if_pos (by omega)]
    ·rw[if_neg hi];by_cases B0:i=k
     ·rw[if_pos (by omega),B0];exact(if_pos rfl).symm
     ·rw[if_neg (by omega)]
   ·have B4:((k:Int)==(a:Int))=false:=by rw[beq_eq_false_iff_ne];omega
    have ek:qN a k W1 k=W1 k:=if_neg (d0V _);have ea: ∀j,qN a k W1 a j=W1 a j:=fun j=>by
     unfold qN;split
     ·exact if_pos rfl
     ·rfl
    have r1:=A2.row k A0;rw[ek]at r1;have r2:=(A2.row a ha).congr (g:=fun j=> .int .u8 (W1 a j:Nat)) (fun j _=>by rw[ea]);have u2:=r1.cell hac;have HE:=hd8 Aj;clear Aj ek ea;go_wp2_with fail;refine(a3P (G' k) (G' a) c (W1 k a) (W1 k) (W1 a) _ r1 r2 (A2.inj k a A0 ha HE.out) (A9 k) (A9 a) (A9 k a) (by omega)).mono ?_;rintro e w4 ⟨rfl,Ar,A8⟩
    have Ay:Own w4 N b n c G' (qN a (k+1) W1):=A2.put A0 (Ar.congr (fun j _=>by
     rw[show qN a (k+1) W1 k=Gf.add a W1 k from if_pos (d1F _),show Gf.add a W1 k j=W1 k j^^^Gf.mul (W1 a j) (W1 k a)from if_neg HE.out])) A8 (fun i hi=>by
     unfold qN;by_cases h1:i<k
     ·rw[if_pos h1,if_pos (by omega)]
     ·rw[if_neg h1,if_neg (by omega)])
    have At:w4.cell? (aD w.heap.size 0)=some (iV a):=(World.cell?_of_block (w:=wr) (A8.block w.heap.size B2 (fun e=>by have:=Ae k A0;omega))).trans Ab;have Aw:Off (vF b n G) w w4:=Ak.trans (A8.wider (fun x e=>by rw[e];exact A1 k A0));clear Ar A8 r1 r2 u1 u2 A2;go_wp2_with fail;exact⟨⟨k+1,by omega,by go_num,Ay,At,Aw⟩,by simp[intOf];omega⟩
  ·have e8:k=n:=by omega
   subst e8;go_wp2_with fail;go_ret
   exact⟨rfl,⟨a+q,G',by omega,by omega,B1.out,A2.congr (fun i hi j _=>by rw[←HD.out];unfold qN;rw[if_pos hi]),A1⟩,Ak⟩
theorem Tryz.enters_inv1: ∀args w,(callFunc 169 args).run Tryz.prog w=.ok (.enter 169 args) w:=enters_of Tryz.func169 (by kernel_rfl) rfl
theorem Tryz.enters_inv2: ∀args w,(callFunc 172 args).run Tryz.prog w=.ok (.enter 172 args) w:=enters_of Tryz.func172 (by kernel_rfl) rfl
theorem c3J(i j n B1 B2 b o p:Nat)(G O K:Nat→Nat)(f:Nat→Nat→Nat)(w:World)(h1:w.cell? (aD B1 0)=some (iV n))(h2:w.cell? (aD B2 0)=some (.slice (some (aD b o)) n p))
  (hm:jV w b o n n G O K f) (hi:i<n) (hj:j<n+n) (hn:n≤100):
  Calls prog 169 #[iV i,iV j,.pointer (some (aD B1 0)),.pointer (some (aD B2 0))] w fun e w'=>e=.returned (.int .u8 (Gf.lM n f i j:Nat))∧Bl w w':=by
 have A0:(i:Int)<(n:Int):=by omega
 by_cases h:j<n
 ·have h':(j:Int)<(n:Int):=by omega
  have H:Hid (Gf.lM n f i j=f i j):=if_pos h;have t1:=hm.top i hi;have t2:=hm.row i hi j h;clear hm;go_enter func169,ntmps169
  go_wp2_with fail;go_ret
  exact⟨aH (by rw[H.out]),Below.refl _ _⟩
 ·have h': ¬(j:Int)<(n:Int):=by omega
  have H:Hid (Gf.lM n f i j=Gf.one i (j-n)):=if_neg h;have hs:(j:Int)-(n:Int)=((j-n:Nat):Int):=by omega
  clear hm;go_enter func169,ntmps169
  go_wp2_with fail;refine(vZ i (j-n) _).mono ?_;rintro e w1 ⟨rfl,hb⟩;go_wp2_with fail;go_ret
  exact⟨aH (by rw[H.out]),hb⟩
theorem c1W(i j n c B1 B2 b:Nat)(G:Nat→Nat)(N:Nat)(f:Nat→Nat→Nat)(w:World)(h1:w.cell? (aD B1 0)=some (.slice (some (aD b 0)) n n))(h2:w.cell? (aD B2 0)=some (iV n))
  (hm:Own w N b n c G f) (hi:i<n) (hj:n+j<c) (hn:c≤1000):
  Calls prog 172 #[iV i,iV j,.pointer (some (aD B1 0)),.pointer (some (aD B2 0))] w fun e w'=>e=.returned (.int .u8 (f i (n+j):Nat))∧Bl w w':=by
 have A0:(i:Int)<(n:Int):=by omega
 have hw:IntKind.i64.wrap ((n:Int)+(j:Int))=(n:Int)+(j:Int):=by rw[IntKind.wrap_i64];omega
 have A1:(n:Int)+(j:Int)<(c:Int):=by omega
 have t1:=hm.top.cell hi;have t2:=(hm.row i hi).cell hj;clear hm;go_enter func172,ntmps172
 go_wp2_with fail;go_region
 go_wp2_with fail;go_ret
 exact⟨rfl,(Below.refl _ _).drew⟩
theorem c0S(v:Value)(n:Nat)(f:Nat→Nat→Nat)(w:World)(h:Mx w v n n f):
  Calls prog 143 #[v] w fun e w'=>((∃v' r,e=.returned (.tuple #[v',iV 0])∧Mx w' v' n n r∧Gf.Und n f r)∨(e=.returned (.tuple #[nS,iV 6])∧Gf.a6O n f))∧Bl w w':=by
 have ok:=h.ok;have H1:=fun w' hb'=>l8 v n _ f w' (h.below (w':=w') hb').arg;rw[ok]at H1;have An:=h.bd;obtain⟨d1,d2,d3,d4⟩:=h.dim;obtain⟨b,o,p,G,O,K,rfl,hm⟩:=h.lies;have h0:(0:Int)<(n:Int):=by omega
 have B3:0<n:=by omega
 clear h ok;go_enter func143,ntmps143
 go_wp2_with fail;refine(H1 _ (aB8 _ _)).mono ?_;rintro e w1 ⟨rfl,Ae⟩;have A0:Bl w w1:=((Below.refl w.heap.size w).alloc (c9C _) _).trans (Ae.mono (by simp));have k1:w1.cell? (aD w.heap.size 0)=some (.slice (some (aD b o)) n p):=by
  rw[Ae.cell (p:=⟨w.heap.size,0,none⟩) (by simp)];simp
 have Ac:=hm.below A0;have t1:w1.cell? (aD b o)=some (.slice (some ⟨G 0,O 0,none⟩) n (K 0)):=by simpa using Ac.top 0 (by omega)
 have l1:=World.block_lt_of_cell? _ _ k1;have l2:=World.block_lt_of_cell? _ _ t1;clear hm H1 Ae;go_wp2_with fail;go_region
 obtain⟨w2,A5⟩: ∃w2,w2=(w1.alloc (.cells #[iV n] 3)).drew:=⟨_,rfl⟩;have A8:Bl w1 w2:=by rw[A5];exact(aB8 _ _).drew
 have z2:w2.heap.size=w1.heap.size+1:=by rw[A5];simp
 have c1:w2.cell? (aD w1.heap.size 0)=some (iV n):=by rw[A5];simp
 have c0:=(A8.cell (p:=⟨w.heap.size,0,none⟩) l1).trans k1;have Ar:=Ac.below A8;have A1:=A0.trans (A8.mono A0.size);have A4:=nL 169 n (n+n) #[.pointer (some (aD w1.heap.size 0)),.pointer (some (aD w.heap.size 0))] (Gf.lM n f) w2 Tryz.enters_inv1
  (fun i hi j hj W hW=>c3J i j n w1.heap.size w.heap.size b o p G O K f W (cB8 hW c1) (cB8 hW c0) (Ar.below hW) hi hj (by omega)) (by omega) (by omega)
 rw[show((n+n:Nat):Int)=2*(n:Int) by omega]at A4;have Ax:w1.heap.size<w2.heap.size:=by omega
 rw[←A5];clear A5 Ac Ar k1 t1 l1 l2 A8 A0 c0 z2;go_wp2_with fail;refine A4.mono ?_;rintro e w3 ⟨rfl,⟨G3,Aa⟩,Ad⟩;have c1:=(Ad.cell (p:=⟨w1.heap.size,0,none⟩) Ax).trans c1;have A2:=A1.trans (Ad.mono A1.size);have Aq:=World.block_lt_of_cell? _ _ c1;clear A4 Ad;have Aj:(w3.alloc (.cells #[.slice (some (aD w2.heap.size 0)) n n] 169)).cell? (aD w1.heap.size 0)=some (iV n):=(((Below.refl w3.heap.size w3).alloc (c9C _) _).cell (p:=⟨w1.heap.size,0,none⟩) Aq).trans c1;have Ai:(w3.alloc (.cells #[.slice (some (aD w2.heap.size 0)) n n] 169)).cell? (aD w3.heap.size 0)=some (.slice (some (aD w2.heap.size 0)) n n):=by simp
 have Ak:=Aa.below (aB8 _ _);have Ao: ∀r,r<n→G3 r<w3.heap.size:=fun r hr=>(Aa.row r hr).lt;have Aw:w2.heap.size<w3.heap.size:=Aa.top.lt;have Ah:=A2.alloc A2.size _;have B4:=A1.size;clear Aa A2 A1;go_wp2_with fail;clear c1 Aq;go_loopw [28] (fun i wr=> ∃k:Nat,k≤n∧i=iV k∧(∃G W,Own wr w2.heap.size w2.heap.size n (n+n) G W∧(∀r,r<n→G r<w3.heap.size)∧Gf.pG n f (fun j=>j<k) W)∧wr.cell? (aD w1.heap.size 0)=some (iV n)∧wr.cell? (aD w3.heap.size 0)=some (.slice (some (aD w2.heap.size 0)) n n)∧Bl w wr) (fun i _=>n-(intOf i).toNat)
 case atStart=>exact⟨0,c9D _,rfl,⟨G3,_,Ak,Ao,Gf.pG.start An (fun j=>c9L j)⟩,Aj,Ai,Ah⟩
 case round=>
  clear Aj Ai Ak Ao Ah;obtain⟨k,hk,rfl,⟨G',W,HO,hG,HE⟩,c1,c2,A3⟩:=hrel;have l2:=World.block_lt_of_cell? _ _ c2;by_cases A6:k<n
  ·have At:(k:Int)<(n:Int):=by omega
   by_cases hz: ∀r,k≤r→r<n→W r k=0
   ·have HS:Hid (Gf.a6O n f):=HE.fails A6 (d0V k) (fun i hi hd=>hz i (by omega) hi);have A7:=c0P w2.heap.size w2.heap.size n (n+n) k G' W wr HO A6 (by omega) (by omega) hz;clear hz HE HO;go_wp2_with fail;refine A7.mono ?_;rintro e w4 ⟨rfl,Ab⟩;go_wp2_with fail;go_ret2
    exact⟨Or.inr ⟨rfl,HS.out⟩,A3.trans (Ab.mono A3.size)⟩
   ·have A7:=b8C w2.heap.size w2.heap.size n (n+n) k G' W wr HO HE.bd A6 (by omega) (by omega) (by omega) hz;have Ag:=hd8 HE;clear hz HE;go_wp2_with fail;refine A7.mono ?_;rintro e w4 ⟨rfl,⟨p',G4,B2,Al,Ap,Ay,Am⟩,A9⟩;have Au:w4.cell? (aD w1.heap.size 0)=some (iV n):=by
     refine(World.cell?_of_block (w:=wr) (A9.block w1.heap.size (World.block_lt_of_cell? _ _ c1) (fun e=>?_))).trans c1;rcases e with e|⟨r,hr,e⟩
     ·omega
     ·have:=HO.low r hr;omega
    have B1:w4.cell? (aD w3.heap.size 0)=some (.slice (some (aD w2.heap.size 0)) n n):=by
     refine(World.cell?_of_block (w:=wr) (A9.block w3.heap.size l2 (fun e=>?_))).trans c2;rcases e with e|⟨r,hr,e⟩
     ·omega
     ·have:=hG r hr;omega
    have Ab:Bl w w4:=A3.trans (A9.below A3.size (fun x e=>by
     rcases e with e|⟨r,hr,e⟩
     ·omega
     ·have:=HO.low r hr
      omega))
    have Az: ∀r,r<n→G4 r<w3.heap.size:=fun r hr=>by
     rcases Am r hr with e|⟨s,hs,e⟩
     ·omega
     ·have:=hG s hs;omega
    have As:Hid (Gf.pG n f (fun j=>j<k+1) (Gf.clr k p' W)):=Ag.out.step A6 Al (d0V k) (show¬p'<k by omega) Ap (fun j hj=>by omega);clear A7 B2 Al Ap Am A9 HO hG c1 c2 Ag;go_wp2_with fail;exact⟨⟨k+1,by omega,by go_num,⟨G4,_,Ay,Az,As.out⟩,Au,B1,Ab⟩,by simp[intOf];omega⟩
  ·have e8:k=n:=by omega
   subst e8;have HU:=hd8 (HE.done An (fun j hj=>hj));have A4:=nL 172 k k #[.pointer (some (aD w3.heap.size 0)),.pointer (some (aD w1.heap.size 0))] (fun i j=>W i (k+j)) wr Tryz.enters_inv2
    (fun i hi j hj X hX=>c1W i j k (k+k) w3.heap.size w1.heap.size w2.heap.size G' w2.heap.size W X ((hX.cell (p:=⟨w3.heap.size,0,none⟩) l2).trans c2) (cB8 hX c1) (HO.below hX) hi (by omega) (by omega)) (by omega) (by omega)
   have Af:=HE.bd;clear HE HO;go_wp2_with fail;refine A4.mono ?_;rintro e w5 ⟨rfl,⟨G5,B0⟩,Av⟩;go_wp2_with fail;go_ret2
   exact⟨Or.inl ⟨_,_,rfl,B0.mx (fun i j=>Af i (k+j)) ⟨d1,d2,d3,d4⟩,HU.out⟩,A3.trans (Av.mono A3.size)⟩
open Go.ChangeShapes Go.WideShapes Go.ChangeAt Go.RowKit
theorem wW(a b:Int)(h1:0≤a)(h2:a<9223372036854775808)(h3:0≤b)(h4:b<9223372036854775808):bits .xor .i64 a b=((a.toNat^^^b.toNat:Nat):Int):=by
 obtain⟨A,rfl⟩:=d0I h1;obtain⟨B,rfl⟩:=d0I h3;have hx:A^^^B<2^63:=d2A (by omega) (by omega);show IntKind.i64.wrap ((BitVec.ofInt 64 (A:Int)^^^BitVec.ofInt 64 (B:Int)).toNat:Int)=_;rw[BitVec.toNat_xor,ofInt_u64 A (by omega),ofInt_u64 B (by omega),IntKind.wrap_i64,c9Q,c9Q];omega
structure Acc(w:World)(N:Nat)(v:Value)(k c:Nat)(G K:Nat→Nat)(f:Nat→Nat→Nat):Prop where
 own:w.ownsRow N 59 1 v k ((List.range k).map fun i=> .slice (some ⟨G i,0,none⟩) c (K i))
 row: ∀i,i<k→N≤G i∧aY w (G i) 5 c (fun j=> .int .u8 (f i j:Nat))
theorem Acc.below(h:Acc w N v k c G K f)(hb:Bl w w'):Acc w' N v k c G K f:=
 ⟨aK h.own hb,fun i hi=>⟨(h.row i hi).1,(h.row i hi).2.below hb⟩⟩
theorem Acc.start(w:World)(N c:Nat)(G K:Nat→Nat)(f:Nat→Nat→Nat):Acc w N nS 0 c G K f:=
 ⟨World.ownsRow_nil w N _ 1,fun i hi=>absurd hi (c9L i)⟩
theorem Acc.step{w':World}{v':Value}{Kk:Nat}(h:Acc w N v k c G K f)(hr:N≤gk∧aY w gk 5 c (fun j=> .int .u8 (f k j:Nat)))
  (ho:w'.ownsRow N 59 1 v' (k+1) (((List.range k).map fun i=> .slice (some ⟨G i,0,none⟩) c (K i))++[.slice (some (aD gk 0)) c Kk])) (hg:w.grownBy w' v.ownBlock):Acc w' N v' (k+1) c (lO G k gk) (lO K k Kk) f:=by
 have A0: ∀x F,aY w x 5 c F→aY w' x 5 c F:=fun x F hx=>hx.of_block (hg.block x hx.lt (fun e=>by
  obtain⟨F2,h2⟩:=fH h.own e.symm
  exact hx.ne h2 (by decide) rfl))
 refine⟨?_,fun i hi=>?_⟩
 ·have e:(List.range (k+1)).map (fun i=>Value.slice (some ⟨lO G k gk i,0,none⟩) c (lO K k Kk i))=((List.range k).map fun i=> .slice (some ⟨G i,0,none⟩) c (K i))++[.slice (some (aD gk 0)) c Kk]:=by
   rw[d1G,c9U];congr 1
   ·refine d1H (fun i hi=>?_);have:=d0D.1 hi;unfold lO;rw[if_neg (by omega),if_neg (by omega)]
   ·unfold lO;simp
  rw[e];exact ho
 ·unfold lO;by_cases e:i=k
  ·rw[if_pos e,e];exact⟨hr.1,A0 _ _ hr.2⟩
  ·rw[if_neg e];exact⟨(h.row i (by omega)).1,A0 _ _ (h.row i (by omega)).2⟩
theorem Acc.mx(h:Acc w N v k c G K f)(bd:Gf.Bd2 f)(dim:1≤k∧k≤12∧1≤c∧c≤400):Mx w v k c f:=by
 obtain⟨g,A0,hv,_,_,hr⟩:=eD h.own dim.1;refine⟨bd,dim,g,0,A0,G,fun _=>0,K,hv,fun r hr'=>?_,fun r hr' j hj=>?_⟩
 ·rw[c9G,hr.cell hr'];simp[List.getD,hr']
 ·rw[c9G];exact(h.row r hr').2.cell hj
structure Lls(w:World)(v:Value)(n:Nat)(L:Nat→Nat)(f:Nat→Nat→Nat):Prop where
 bd:Gf.Bd2 f
 lies: ∃(A:Option Addr) (cap:Nat),v=.slice A n cap∧n≤cap∧cap≤maxLen∧ ∀r,r<n→ ∃b o u,A=some (aD b o)∧w.cell? (aD b (o+r))=some u∧cF w u (L r) (f r)
theorem Lls.below(h:Lls w v n L f)(hb:Bl w w'):Lls w' v n L f:=by
 obtain⟨A,A0,hv,h1,h2,hr⟩:=h.lies;refine⟨h.bd,A,A0,hv,h1,h2,fun r hrn=>?_⟩;obtain⟨b,o,u,e1,e2,e3⟩:=hr r hrn;exact⟨b,o,u,e1,cB8 hb e2,e3.below hb⟩
theorem Lls.shape(h:Lls w v n L f): ∃A C,v=.slice A n C:=by
 obtain⟨A,C,hv,_⟩:=h.lies;exact⟨A,C,hv⟩
theorem Lls.len(h:Lls w v n L f):n≤9223372036854775807:=by
 obtain⟨A,C,_,h1,h2,_⟩:=h.lies;unfold maxLen at h2;omega
theorem Lls.at{A:Option Addr}(h:Lls w (.slice A n C) n L f){r:Nat}(hr:r<n): ∃b o R K,A=Option.some ⟨b,o,Option.none⟩∧w.cell? ⟨b,o+r,Option.none⟩=Option.some (.slice R (L r) K)∧cF w (.slice R (L r) K) (L r) (f r):=by
 obtain⟨A',C',hv,_,_,hc⟩:=h.lies;cases hv
 obtain⟨b,o,u,e1,e2,e3⟩:=hc r hr;obtain⟨R,K,rfl⟩: ∃R K,u=.slice R (L r) K:=by
  obtain⟨_,R,K,hv,_⟩:=e3;exact⟨R,K,hv⟩
 exact⟨b,o,R,K,e1,e2,e3⟩
theorem Lls.arg(h:Lls w v n L f):Arg w v n L f:=by
 obtain⟨A,C,rfl⟩:=h.shape;have A0: ∀r,r<n→ ∃q:Option Addr×Nat,∃b o,A=some (aD b o)∧w.cell? (aD b (o+r))=some (.slice q.1 (L r) q.2)∧cF w (.slice q.1 (L r) q.2) (L r) (f r):=fun r hr=>by
  obtain⟨b,o,R,K,e1,e2,e3⟩:=h.at hr;exact⟨(R,K),b,o,e1,e2,e3⟩
 obtain⟨q,hq⟩:=Deep.choose_lt A0;refine⟨h.bd,A,C,fun r=>(q r).1,fun r=>(q r).2,rfl,fun r hr=>?_⟩;obtain⟨b,o,e1,e2,e3⟩:=hq r hr;refine⟨b,o,e1,e2,fun k hk=>?_⟩;obtain⟨_,A',C',hv,_,_,hc⟩:=e3;cases hv
 exact hc k hk
end Go.Proofs.YtmcaejooaaahdaaGreat
namespace Go.Proofs.YtmcaejooaaahdaaGreat.Gf
open Go.Proofs.Tryz
variable {A B C N Y a b c cols gk i j k n p rows x:Nat} {G K L f2 g' g2 pick:Nat→Nat} {f f':Nat→Nat→Nat} {h:Int} {v:Value} {w w':World}
def bH(n i j:Nat):Nat:=if i<n then one i j else inv (i^^^j)
theorem eK(n:Nat):Bd2 (bH n):=fun i j=>by
 unfold bH
 split
 ·exact xU _ _
 ·exact iW _
theorem oK(h:i<n)(j:Nat):bH n i j=one i j:=if_pos h
theorem zT(h:n≤i)(j:Nat):bH n i j=inv (i^^^j):=if_neg (by omega)
theorem uL(h:a≠b):a^^^b≠0:=fun e=>h (by
 have h1:a^^^b^^^b=0^^^b:=by rw[e]
 rw[d1D,c9V,d0R,Nat.zero_xor]at h1
 exact h1)
theorem a5A(a b c:Nat):a^^^b=(a^^^c)^^^(c^^^b):=by
 rw[d1D,←d1D c c b,c9V,Nat.zero_xor]
theorem b8D{u v d:Nat}(hu:u<256)(hv:v<256)(hd:d<256)(hA:A<256)(hB:B<256)(hY:Y<256)(h1:mul u A=1)(h2:mul v B=1):
  mul (u^^^v) (mul A (mul (mul Y d) B))=mul (u^^^d) (mul A Y)^^^mul (v^^^d) (mul B Y):=by
 have hZ:=dO _ hY;have e1:mul u (mul A (mul (mul Y d) B))=mul (mul Y d) B:=by rw[←mul_assoc _ hu hA,h1,one_mul (dO _ hZ)]
 have e2:mul v (mul A (mul (mul Y d) B))=mul A (mul Y d):=by
  rw[mul_comm hv (dO _ hA),mul_assoc _ hA (dO _ hZ),mul_assoc _ hZ hB,mul_comm hB hv,h2,mul_one hZ]
 have e3:mul u (mul A Y)=Y:=by rw[←mul_assoc _ hu hA,h1,one_mul hY]
 have e4:mul v (mul B Y)=Y:=by rw[←mul_assoc _ hv hB,h2,one_mul hY]
 have e5:mul d (mul A Y)=mul A (mul Y d):=by rw[mul_comm hd (dO _ hA),mul_assoc _ hA hY]
 have e6:mul d (mul B Y)=mul (mul Y d) B:=by rw[mul_comm hd (dO _ hB),mul_assoc _ hB hY,mul_comm hB hZ]
 rw[eX _ hu hv,eX _ hu hd,eX _ hv hd,e1,e2,e3,e4,e5,e6,gH,c9V,Nat.zero_xor,Nat.xor_comm]
theorem b3Y{f g f':Nat→Nat}:(n:Nat)→(∀k,k<n→mul a (mul (f k) (g k))=mul b (mul (f' k) (g' k))^^^mul c (mul (f2 k) (g2 k)))→mul a (dot n f g)=mul b (dot n f' g')^^^mul c (dot n f2 g2)
 |0,_=>by
  show mul a 0=mul b 0^^^mul c 0
  rw[aQ,aQ,aQ,c9V]
 |n+1,h=>by
  show mul a (dot n f g^^^mul (f n) (g n))=mul b (dot n f' g'^^^mul (f' n) (g' n))^^^mul c (dot n f2 g2^^^mul (f2 n) (g2 n))
  rw[cY,cY,cY,b3Y n (fun k hk=>h k (by omega)),h n (by omega),gH]
theorem a7S{f g:Nat→Nat}:(n:Nat)→(∀k,k<n→k≠j→g k=0)→dot n f g=if j<n then mul (f j) (g j)else 0
 |0,_=>rfl
 |n+1,h=>by
  show dot n f g^^^mul (f n) (g n)=_
  rw[a7S n (fun k hk=>h k (by omega))]
  by_cases e:j=n
  ·rw[if_neg (by omega),if_pos (by omega),Nat.zero_xor,e]
  ·rw[h n (by omega) (fun h=>e h.symm),aQ,d0R]
   by_cases h':j<n
   ·rw[if_pos h',if_pos (by omega)]
   ·rw[if_neg h',if_neg (by omega)]
theorem c1B(hn:n≤256):(J T:List Nat)→(y:Nat→Nat)→Bd y→J.length≤T.length→T.Nodup→(∀t,t∈T→t<256∧n≤t)→(∀j,j∈J→j<n)→(∀j,j<n→j∉J→y j=0)→(∀t,t∈T→dot n (fun j=>inv (t^^^j)) y=0)→ ∀j,j<n→y j=0
 |[],_,y,_,_,_,_,_,h0,_,j,hj=>h0 j hj (fun h=>by cases h)
 |j0::J,[],_,_,hl,_,_,_,_,_,_,_=>by simp at hl
 |j0::J,t0::T,y,hy,hl,hnd,hT,hJ,h0,hd,j,hj=>by
  obtain⟨ht0,hnT⟩:=List.nodup_cons.1 hnd
  obtain⟨t1,t2⟩:=hT t0 (c9W ..)
  have hj0:=hJ j0 (c9W ..)
  have ih:=c1B hn J T (fun j=>mul (mul (y j) (j^^^j0)) (inv (t0^^^j))) (fun j=>dO _ (dO _ (hy j))) (by simpa using hl) hnT (fun t ht=>hT t (c9Y _ ht)) (fun j hj=>hJ j (c9Y _ hj))
   (fun j hj hn=>by
    show mul (mul (y j) (j^^^j0)) (inv (t0^^^j))=0
    by_cases e:j=j0
    ·rw[e,c9V,aQ,cK]
    ·rw[h0 j hj (fun h=>by rcases List.mem_cons.1 h with h|h;exact e h;exact hn h),cK,cK])
   (fun t ht=>by
    obtain⟨u1,u2⟩:=hT t (c9Y _ ht)
    have hne:=fun e=>ht0 (e▸ht)
    have key:=b3Y (a:=t^^^t0) (b:=t^^^j0) (c:=t0^^^j0) (f:=fun j=>inv (t^^^j)) (g:=fun j=>mul (mul (y j) (j^^^j0)) (inv (t0^^^j))) (f':=fun j=>inv (t^^^j)) (g':=y) (f2:=fun j=>inv (t0^^^j)) (g2:=y) n (fun k hk=>by
     have q1:t^^^k<256:=fE u1 (by omega)
     have q2:t0^^^k<256:=fE t1 (by omega)
     have q3:k^^^j0<256:=fE (by omega) (by omega)
     have e:=b8D q1 q2 q3 (iW (t^^^k)) (iW (t0^^^k)) (hy k) (nK q1 (uL (by omega))) (nK q2 (uL (by omega)))
     rw[a5A t t0 k,a5A t j0 k,a5A t0 j0 k,Nat.xor_comm k t0]
     exact e)
    rw[hd t (c9Y _ ht),hd t0 (c9W ..),aQ,aQ,c9V]at key
    exact((jO (fE u1 t1) (mR (fun j=>iW _) _ n)).1 key).resolve_left (uL hne))
  have hz: ∀k,k<n→k≠j0→y k=0:=fun k hk hne=>by
   have h1:=ih k hk
   have q3:k^^^j0<256:=fE (by omega) (by omega)
   have q2:t0^^^k<256:=fE t1 (by omega)
   rcases(jO (dO _ (hy k)) (iW _)).1 h1 with h|h
   ·exact((jO (hy k) q3).1 h).resolve_right (uL hne)
   ·exact absurd h (a3U q2 (uL (by omega)))
  by_cases e:j=j0
  ·have h1:=hd t0 (c9W ..)
   rw[a7S (j:=j0) n hz,if_pos hj0]at h1
   rw[e]
   exact((jO (iW _) (hy j0)).1 h1).resolve_left (a3U (fE t1 (by omega)) (uL (by omega)))
  ·exact hz j hj e
theorem a2P{α:Type}[DecidableEq α]:(l m:List α)→l.Nodup→(∀a,a∈l→a∈m)→l.length≤m.length
 |[],_,_,_=>c9D _
 |a::l,m,hn,hs=>by
  obtain⟨h1,h2⟩:=List.nodup_cons.1 hn
  have ha:=hs a (c9W ..)
  have ih:=a2P l (m.erase a) h2 (fun b hb=>(List.mem_erase_of_ne (fun e=>by rw[e]at hb;exact h1 hb)).2 (hs b (c9Y _ hb)))
  rw[List.length_erase_of_mem ha]at ih
  have:0<m.length:=List.length_pos_of_mem ha
  simp only[List.length_cons]
  omega
theorem zK(n:Nat):(P:List Nat)→(P.filter (fun k=>decide (k<n))).length+(P.filter (fun k=>decide (n≤k))).length=P.length
 |[]=>rfl
 |a::P=>by
  have ih:=zK n P
  by_cases h:a<n
  ·rw[d1W (by simpa using h),d1N (by simpa using h)]
   simp only[List.length_cons]
   omega
  ·rw[d1N (by simpa using h),d1W (by simpa using h)]
   simp only[List.length_cons]
   omega
theorem lT(hn:n≤256)(hp: ∀p,p<n→pick p<256)(inj: ∀p q,p<n→q<n→p≠q→pick p≠pick q)(hs:a6O n (fun p=>bH n (pick p))):False:=by
 obtain⟨x,hx,h0,c,hc,A6⟩:=hs;refine A6 ?_;have hP:((List.range n).map pick).Nodup:=by
  rw[List.nodup_iff_pairwise_ne,List.pairwise_map];refine List.Pairwise.imp_of_mem (fun {a b} ha hb hab=>?_) (List.nodup_iff_pairwise_ne.1 List.nodup_range);exact inj a b (d0D.1 ha) (d0D.1 hb) hab
 have A0: ∀k,k∈(List.range n).map pick→ ∃p,p<n∧pick p=k:=fun k hk=>by
  obtain⟨p,h1,h2⟩:=d0G.1 hk;exact⟨p,d0D.1 h1,h2⟩
 have A1:((List.range n).map pick).length=n:=by simp
 generalize (List.range n).map pick=P at hP A0 A1;have A2:=zK n P;rw[A1]at A2;have A5: ∀k,k∈P.filter (fun k=>decide (k<n))→x k=0:=fun k hk=>by
  obtain⟨h1,h2⟩:=d0Z.1 hk;have A3:k<n:=by simpa using h2
  obtain⟨p,h3,rfl⟩:=A0 k h1;have h4:=h0 p h3;rw[←gJ hx A3,←dI (f:=bH n (pick p)) (f':=one (pick p)) (g:=x) (g':=x) n (fun k _=>oK A3 k) (fun _ _=>rfl)];exact h4
 have A4:((List.range n).filter (fun j=>decide (j∉P.filter (fun k=>decide (k<n))))).length≤(P.filter (fun k=>decide (n≤k))).length:=by
  have h1:=a2P (P.filter (fun k=>decide (k<n))++(List.range n).filter (fun j=>decide (j∉P.filter (fun k=>decide (k<n))))) (List.range n) (by
   rw[List.nodup_append];refine⟨hP.filter _,List.nodup_range.filter _,fun a ha b hb e=>?_⟩;have:=(d0Z.1 hb).2;rw[decide_eq_true_iff]at this
   exact this (e▸ha)) (fun a ha=>by
   rcases List.mem_append.1 ha with h|h
   ·have:=(d0Z.1 h).2;exact d0D.2 (by simpa using this)
   ·exact(d0Z.1 h).1)
  rw[c9I,d1E]at h1;omega
 refine c1B hn ((List.range n).filter (fun j=>decide (j∉P.filter (fun k=>decide (k<n))))) (P.filter (fun k=>decide (n≤k))) x hx A4 (hP.filter _) (fun t ht=>?_) (fun j hj=>d0D.1 (d0Z.1 hj).1) (fun j hj hn'=>?_) (fun t ht=>?_) c hc
 ·obtain⟨h1,h2⟩:=d0Z.1 ht;obtain⟨p,h3,rfl⟩:=A0 t h1;exact⟨hp p h3,by simpa using h2⟩
 ·refine A5 j ?_;refine Decidable.byContradiction (fun h=>hn' (d0Z.2 ⟨d0D.2 hj,?_⟩));rw[decide_eq_true_iff];exact h
 ·obtain⟨h1,h2⟩:=d0Z.1 ht;obtain⟨p,h3,rfl⟩:=A0 t h1;have h4:=h0 p h3;rw[←dI (f:=bH n (pick p)) (f':=fun j=>inv (pick p^^^j)) (g:=x) (g':=x) n (fun k _=>zT (by simpa using h2) k) (fun _ _=>rfl)];exact h4
end Go.Proofs.YtmcaejooaaahdaaGreat.Gf
namespace Go.Proofs.YtmcaejooaaahdaaGreat.Crc
open Go.Proofs.Tryz
variable {A B C N Y a b c cols gk i j k n p rows x:Nat} {G K L f2 g' g2 pick:Nat→Nat} {f f':Nat→Nat→Nat} {h:Int} {v:Value} {w w':World}
def c6V:Nat:=2197175160
def nI(c:Nat):Nat:=c/2^^^(if c%2=1 then c6V else 0)
def fO:Nat→Nat→Nat
 |0,c=>c
 |k+1,c=>nI (fO k c)
def step(c x:Nat):Nat:=fO 8 (c^^^x)
def run(f:Nat→Nat):Nat→Nat
 |0=>4294967295
 |n+1=>step (run f n) (f n)
def sum(f:Nat→Nat)(n:Nat):Nat:=run f n^^^4294967295
theorem c4F(h:c<2^32):nI c<2^32:=by
 unfold nI;refine d2A (by omega) ?_;split
 ·decide
 ·decide
theorem l6(h:c<2^32):(k:Nat)→fO k c<2^32
 |0=>h
 |k+1=>c4F (l6 h k)
theorem b4D(ha:a<2^32)(hb:b<2^32):a^^^b<2^32:=d2A ha hb
theorem c5U(h:c<2^32)(hx:x<256):step c x<2^32:=l6 (b4D h (by omega)) 8
theorem qY{f:Nat→Nat}(hf: ∀k,f k<256):(n:Nat)→run f n<2^32
 |0=>show 4294967295<2^32 by decide
 |n+1=>c5U (qY hf n) (hf n)
theorem c2Y{f:Nat→Nat}(hf: ∀k,f k<256)(n:Nat):sum f n<2^32:=b4D (qY hf n) (by decide)
theorem c0B(a b:Nat):nI (a^^^b)=nI a^^^nI b:=by
 unfold nI;have h1:=Nat.xor_div_two_pow (n:=1);have h2:=Nat.xor_mod_two_pow (n:=1);rw[h1,h2];rcases Nat.mod_two_eq_zero_or_one a with ea|ea<;>rcases Nat.mod_two_eq_zero_or_one b with eb|eb<;>rw[ea,eb]
 ·simp
 ·simp[Nat.xor_assoc]
 ·simp;rw[d1D,d1D,Nat.xor_comm c6V]
 ·simp;rw[d1D,Nat.xor_comm c6V,d1D,c9V,d0R]
theorem xF(a b:Nat):(k:Nat)→fO k (a^^^b)=fO k a^^^fO k b
 |0=>rfl
 |k+1=>by
  show nI (fO k (a^^^b))=_
  rw[xF a b k,c0B]
  rfl
theorem vX(y:Nat):(k:Nat)→(j:Nat)→fO k (y*2^(k+j))=y*2^j
 |0,j=>by rw[c9G];rfl
 |k+1,j=>by
  show nI (fO k (y*2^(k+1+j)))=_
  rw[show k+1+j=k+(j+1) by omega,vX y k (j+1)]
  unfold nI
  rw[if_neg (by rw[Nat.pow_succ,←Nat.mul_assoc];omega),d0R,Nat.pow_succ,←Nat.mul_assoc,Nat.mul_div_cancel _ (by decide)]
theorem c6Z(c:Nat):c=c%256^^^(c/256)*2^8:=by
 bK Nat.eq_of_testBit_eq;intro i;rw[Nat.testBit_xor,show c%256=c%2^8 from rfl,Nat.testBit_mod_two_pow,Nat.testBit_mul_two_pow,show c/256=c/2^8 from rfl,Nat.testBit_div_two_pow];by_cases h:i<8
 ·simp[h,show¬8≤i by omega]
 ·simp[h,show 8≤i by omega]
theorem b0P(c x:Nat):step c x=fO 8 ((c^^^x)%256)^^^(c^^^x)/256:=by
 unfold step;conv=>lhs;rw[c6Z (c^^^x)]
 rw[xF];congr 1;have:=vX ((c^^^x)/256) 8 0;rw[Nat.pow_zero,d1X]at this;exact this
def aA(s h z:Int)(n:Nat):Nat:=if s<0∨39<s∨h<0∨11<h∨z<0∨3200<z then 3 else if n<1∨400<n then 5 else 0
theorem bG{s z:Int}(e:s<0∨39<s∨h<0∨11<h∨z<0∨3200<z):aA s h z n=3:=if_pos e
theorem eB{s z:Int}(e: ¬(s<0∨39<s∨h<0∨11<h∨z<0∨3200<z))(e2:n<1∨400<n):aA s h z n=5:=by unfold aA;rw[if_neg e,if_pos e2]
theorem kC{s z:Int}(e: ¬(s<0∨39<s∨h<0∨11<h∨z<0∨3200<z))(e2: ¬(n<1∨400<n)):aA s h z n=0:=by unfold aA;rw[if_neg e,if_neg e2]
theorem bN{s z:Int}(e:aA s h z n=0):(0≤s∧s≤39∧0≤h∧h≤11∧0≤z∧z≤3200)∧1≤n∧n≤400:=by
 unfold aA at e;split at e
 ·cases e
 ·split at e
  ·cases e
  ·omega
def hd(s h z n:Nat)(f:Nat→Nat):Nat→Nat
 |0=>83
 |1=>s
 |2=>h
 |3=>z/256
 |4=>z%256
 |5=>n/256
 |6=>n%256
 |k+7=>f k
theorem c2R{s h z:Nat}{f:Nat→Nat}(h1:s<256)(h2:h<256)(h3:z<65536)(h4:n<65536)(hf: ∀k,f k<256): ∀k,hd s h z n f k<256
 |0=>show 83<256 by decide
 |1=>h1
 |2=>h2
 |3=>show z/256<256 by omega
 |4=>show z%256<256 by omega
 |5=>show n/256<256 by omega
 |6=>show n%256<256 by omega
 |k+7=>hf k
def low(x k:Nat):Nat:=x/256^k%256
theorem c7B(x k:Nat):low x k<256:=Nat.mod_lt _ (by decide)
def oC(g:Nat→Nat)(o:Nat):Nat:=g o+g (o+1)*256+g (o+2)*65536+g (o+3)*16777216
def enc(s h z n:Nat)(f:Nat→Nat)(k:Nat):Nat:=if k<n+7 then hd s h z n f k else low (sum (hd s h z n f) (n+7)) (k-(n+7))
theorem a5C{s h z:Nat}{f:Nat→Nat}(h1:s<256)(h2:h<256)(h3:z<65536)(h4:n<65536)(hf: ∀k,f k<256)(k:Nat):enc s h z n f k<256:=by
 unfold enc;split
 ·exact c2R h1 h2 h3 h4 hf k
 ·exact c7B _ _
def aM(g:Nat→Nat)(n:Nat):Nat:=if n<12∨g 0≠83∨n≠11+(g 5*256+g 6)then 2 else if sum g (n-4)≠oC g (n-4)then 9 else aA (g 1) (g 2) (g 3*256+g 4:Nat) (n-11)
theorem nO{g:Nat→Nat}(h:n<12∨g 0≠83∨n≠11+(g 5*256+g 6)):aM g n=2:=if_pos h
theorem pZ{g:Nat→Nat}(h: ¬(n<12∨g 0≠83∨n≠11+(g 5*256+g 6)))(h2:sum g (n-4)≠oC g (n-4)):aM g n=9:=by unfold aM;rw[if_neg h,if_pos h2]
theorem mW{g:Nat→Nat}(h: ¬(n<12∨g 0≠83∨n≠11+(g 5*256+g 6)))(h2:sum g (n-4)=oC g (n-4)):aM g n=aA (g 1) (g 2) (g 3*256+g 4:Nat) (n-11):=by unfold aM;rw[if_neg h,if_neg (fun k=>k h2)]
end Go.Proofs.YtmcaejooaaahdaaGreat.Crc
