import Derived.Test.YtmcaejooaaahdaaGreatZ10
import Derived.Lib.MinMax
set_option maxHeartbeats 8000000
set_option maxRecDepth 100000
namespace Go.Proofs.YtmcaejooaaahdaaGreat
open Go.Proofs.Tryz
variable {L:Nat→Nat} {M N c cap g i k m n x:Nat} {f f':Nat→Nat→Nat} {seg:Int} {t:TypeId} {v:Value} {w:World} {xs:List Value}
open Go.RowKit
theorem c1J{L d:Nat}(hd:1≤d):Nat.max 1 ((L+d-1)/d)=Seg.dF L d:=by
 show max 1 ((L+d-1)/d)=_;unfold Seg.dF;split
 ·rename_i h;have:(L+d-1)/d<2:=by
   rw[Nat.div_lt_iff_lt_mul (by omega)];omega
  omega
 ·rename_i h;have:1≤(L+d-1)/d:=by
   rw[Nat.le_div_iff_mul_le (by omega)];omega
  omega
def spr(r:Nat→Nat)(L k:Nat):Nat:=if k<L then r k else 0
theorem c5S{F:Nat→Nat}(hmn:n≤m)(h:w.heap[g]?=some (.cells (splice (madeCells #[.int .u8 0] m).toList 0 (cellsOf F n)).toArray 5 (0,0))):aY w g 5 m (fun j=> .int .u8 (spr F n j:Nat)):=by
 have hl:(cellsOf F n).length=n:=by simp[cellsOf]
 have A1:(madeCells #[Value.int .u8 0] m).toList.length=m:=by simp[madeCells]
 refine iE ⟨_,h,?_,fun i hi=>?_⟩
 ·rw[d0Q,length_splice _ _ _ (by rw[hl,A1];omega),A1]
 ·have hi:i<m:=hi;simp only[List.getElem?_toArray,splice,List.take_zero,List.nil_append,Nat.zero_add];unfold spr;by_cases A0:i<n
  ·rw[if_pos A0,d0M (by rw[hl];exact A0)];simp[cellsOf,A0]
  ·rw[if_neg A0,d0S (by rw[hl];omega),d0J,hl,show n+(i-n)=i by omega];simp[madeCells,hi,Nat.mod_one]
theorem a8P{r:Nat→Nat}{L:Nat}(hk:k<n):Seg.eT r L n i k=spr r L (i*n+k):=by
 unfold Seg.eT spr;by_cases h:i*n+k<L
 ·rw[if_pos ⟨hk,h⟩,if_pos h]
 ·rw[if_neg (fun q=>h q.2),if_neg h]
theorem zZ(v:Value)(L:Nat)(r:Nat→Nat)(d:Nat)(w:World)(h:cF w v L r)(h1:1≤d)(h2:d≤8)(h5:L≤400*d):
  Calls prog 110 #[v,iV d] w fun e w'=> ∃v' U,e=.returned v'∧Pcs w' w.heap.size v' d U (fun _=>Seg.dF L d) (Seg.eT r L (Seg.dF L d))∧Bl w w':=by
 have B1:=Seg.pK L d h1;have Aw:=Seg.nA h1 h5;have Ad:=Seg.uC L d h1;obtain⟨A,C,rfl⟩:=h.shape;have hL:=h.len;obtain⟨q,hq⟩: ∃q,q=(L+d-1)/d:=⟨_,rfl⟩;have Az:q≤400*8+8:=by
  have:=Nat.div_le_self (L+d-1) d;omega
 have A3:(((L:Int)+(d:Int)-1).tdiv (d:Int))=(q:Int):=by
  rw[show(L:Int)+(d:Int)-1=((L+d-1:Nat):Int) by omega,hq];rfl
 have Ag:IntKind.i64.wrap (q:Int)=(q:Int):=by rw[IntKind.wrap_i64];omega
 have A5:max (1:Int) (q:Int)=((Seg.dF L d:Nat):Int):=by
  have:=c1J (L:=L) h1;rw[←hq]at this;have e:Nat.max 1 q=max 1 q:=rfl;omega
 have Ay: ¬(d:Int)=0:=by omega
 have Af:(L:Int)+(d:Int)≤9223372036854775807:=by omega
 clear hq;generalize hnn:Seg.dF L d=n at*;have Ah:=d0Y h2 Aw;obtain⟨m,hm⟩: ∃m,m=d*n:=⟨_,rfl⟩;have A4:L≤m:=by rw[hm,Nat.mul_comm];exact Ad
 have B2:(d:Int)*(n:Int)=(m:Int):=by rw[hm,Int.natCast_mul]
 have Ak:Hid (∀i,i<d→i*n+n≤m):=fun i hi=>by
  have:=d1J n (show i+1≤d by omega);rw[d0F]at this;rw[hm];exact this
 have Am:Hid (Bd (fun k=>spr r L k)):=fun k=>by
  show spr r L k<256;unfold spr;split
  ·exact h.bd k
  ·decide
 rw[←hm]at Ah;have Ap:=run_make_row' (P:=prog) 59 5 (.int .u8 0) 1 underlying59 Tryz.infoByte rfl .i64 .i64 m (by omega) (by omega);have A9:(prog.info? 5).map (·.size)=some 1:=by
  obtain⟨i1,Ao,A7⟩:=c9J.1 Tryz.infoByte;simp only[Prod.mk.injEq]at A7;rw[Ao];simp[A7.2.1]
 have A6:(cellsOf r L).length=Nat.min L m:=by
  rw[show Nat.min L m=L from Nat.min_eq_left A4];simp[cellsOf]
 have Ab:=jK r L;have A8:0<(cellsOf r L).length→ ∃ad,A=some ad∧ ∀j v,(cellsOf r L)[j]?=some v→(w.alloc (.cells (madeCells #[.int .u8 0] m) 5)).cell? (ad.add j)=some v:=fun h0=>by
  have As:0<L:=by simpa [cellsOf]using h0
  obtain⟨b,o,B0,hv,_,_,hc⟩:=h.some As;cases hv
  refine⟨_,rfl,fun j v hj=>?_⟩;rcases Nat.lt_or_ge j L with h|h
  ·simp[cellsOf,h]at hj;rw[WideShapes.add_plain,((Below.refl w.heap.size w).alloc (c9C _) _).cell (p:=⟨b,o+j,none⟩) (World.block_lt_of_cell? _ _ (hc j h)),hc j h,←hj]
  ·simp[List.getElem?_eq_none (show(cellsOf r L).length≤j by simpa [cellsOf]using h)]at hj
 have Aa:(w.alloc (.cells (madeCells #[.int .u8 0] m) 5)).heap[w.heap.size]?=some (.cells (madeCells #[.int .u8 0] m).toList.toArray 5 (0,0)):=by
  rw[Array.toArray_toList];exact Deep.blk_alloc_new _ _
 have A1:0+(cellsOf r L).length≤(madeCells #[Value.int .u8 0] m).toList.length:=by
  have h6:(madeCells #[Value.int .u8 0] m).toList.length=m:=by simp[madeCells]
  have h7:(cellsOf r L).length=L:=by simp[cellsOf]
  omega
 have Ac:=(Below.refl w.heap.size w).alloc (c9C _) (.cells (madeCells #[.int .u8 0] m) 5);have HR:=hd8 A4;obtain⟨i0,Av,hh⟩:=c9J.1 Tryz.infoRow;simp only[Prod.mk.injEq]at hh;obtain⟨An,Ax,Ar⟩:=hh;clear Ad h hm A4;go_enter func110,ntmps110
 go_upto_region 3 with fail
 clear A3 Ag A5 Af;go_wp2_with (refine wpList_copy_splice rfl (.tmp 21) (.tmp 22) 59 59 rfl 5 underlying59 A9 _ _ _ _ _ _ rfl rfl w.heap.size 0 _ _ Aa _ A6 (fun h0=>⟨rfl,A8 h0⟩) A1 Ab w.heap.size w Ac (c9C _) ?_;intro u3 HG b3);have R3:=c5S HR.out HG.out;clear HG Aa A1 A8 Ap A9 A6 Ab Ac;go_loopw [7,25] (fun y x wr=> ∃(i:Nat) (U:Nat→Value),i≤d∧x=iV i∧Pcs wr w.heap.size y i U (fun _=>n) (Seg.eT r L n)∧aY wr w.heap.size 5 m (fun j=> .int .u8 (spr r L j:Nat))∧Bl w wr) (fun _ x _=>d-(intOf x).toNat)
 case atStart=>exact⟨0,fun _=>nS,c9D _,rfl,Pcs.start _ _ _ _ _,R3,b3⟩
 case round=>
  obtain⟨i,U,hi,rfl,hP,hR,hb⟩:=hrel;by_cases Ai:i<d
  ·have At:(i:Int)<(d:Int):=by omega
   have Al:=Ak.out i Ai;obtain⟨p,hp⟩: ∃p,i*n=p:=⟨_,rfl⟩;rw[hp]at Al;have q1:(i:Int)*(n:Int)=(p:Int):=by rw[←hp,Int.natCast_mul]
   have q2:((i:Int)+1)*(n:Int)=(p:Int)+(n:Int):=by rw[Int.add_mul,q1,Int.one_mul]
   have A2:Pce wr w.heap.size (.slice (some (aD w.heap.size p)) n (m-p)) n (Seg.eT r L n i):=by
    refine⟨⟨fun k=>?_,_,_,rfl,by omega,by unfold maxLen;omega,fun k hk=>⟨w.heap.size,p,rfl,?_⟩⟩,Or.inr ⟨_,p,_,_,_,rfl,c9C _,hR⟩⟩
    ·by_cases e:k<n
     ·rw[a8P e];exact Am.out _
     ·show Seg.eT r L n i k<256;unfold Seg.eT;rw[if_neg (fun q=>e q.1)];decide
    ·rw[hR.cell (by omega),a8P hk,hp]
   have A0:=(Below.refl wr.heap.size wr).alloc (c9C _) (.cells #[.slice (some (aD w.heap.size p)) n (m-p)] 59);have hP:=hP.below A0;have A2:=A2.below A0;have hR:=hR.below A0;have bX:=bt hb A0;have Au:=hP.own.lt;have Aj:=hP.own;clear A0;go_wp2_with (at_builtin;go_loud (refine wpList_append_own _ rfl (.tmp 28) (.tmp 38) 86 rfl w.heap.size 59 i0 nS 1 24 underlying86 Av An Ax Ar rfl (by decide) _ _ _ rfl Aj (aD wr.heap.size 0) 1 1 [.slice (some (aD w.heap.size p)) n (m-p)] rfl rfl cZ (by intro u hu;simp at hu;subst hu;rfl) (by unfold maxLen;omega) (by omega) bX.size ?_;intro v7 w7 hown1 hgrow1 _));have b7:=bX.grown hgrow1 bX.size (fun x hx=>(Au x hx).1);have Aq:=hP.step A2 hown1 hgrow1
   have Ae:aY w7 w.heap.size 5 m (fun j=> .int .u8 (spr r L j:Nat)):=hR.of_block (hgrow1.block _ hR.lt (fun e=>by
    obtain⟨F2,h2⟩:=fH hP.own e.symm
    exact hR.ne h2 (by decide) rfl))
   exact⟨⟨i+1,_,by omega,by go_num,Aq,Ae,b7⟩,by simp[intOf];omega⟩
  ·obtain rfl:i=d:=by omega
   go_wp2_with fail;go_ret
   exact⟨_,_,rfl,hP,hb⟩
theorem rS(h:w.ownsRow N t 1 v n xs)(hM:M≤N):w.ownsRow M t 1 v n xs:=
 ⟨h.1,h.2.imp id (fun⟨g,cap,cur,e,hg,r⟩=>⟨g,cap,cur,e,c9E hM hg,r⟩)⟩
theorem Pcs.congr{U:Nat→Value}(h:Pcs w N v k U L f)(e: ∀i,i<k→f i=f' i):Pcs w N v k U L f':=
 ⟨h.own,fun i hi=>by rw[←e i hi];exact h.row i hi⟩
theorem b0G(v:Value)(m n:Nat)(F:Nat→Nat→Nat)(seg L:Nat)(w:World)(h:Lls w v m (fun _=>n) F)(hm:m≤12)(hW: ∀j,j<m→Crc.aA seg j L n=0):
  Calls prog 112 #[v,iV seg,iV L] w fun e w'=> ∃v' U,e=.returned (.tuple #[v',iV 0])∧Pcs w' w.heap.size v' m U (fun _=>n+11) (fun j=>Crc.enc seg j L n (F j))∧Bl w w':=by
 obtain⟨A,C,rfl⟩:=h.shape;have bd:=h.bd;have HL:Hid (∀w',Bl w w'→ ∀r,r<m→ ∃b o R K,A=some (aD b o)∧w'.cell? (aD b (o+r))=some (.slice R n K)∧cF w' (.slice R n K) n (F r)):=fun w' hb r hr=>(h.below hb).at hr;have HW:Hid (∀j,j<m→Crc.aA seg j L n=0):=hW;have HE:Hid (∀j:Nat,a3M (seg:Int) (j:Int) (L:Int) n (F j)=Crc.enc seg j L n (F j)):=fun j=>rfl;have Ab:Hid (∀j,j<m→Bd (Crc.enc seg j L n (F j))):=fun j hj=>b3F (s:=(seg:Int)) (h:=(j:Int)) (z:=(L:Int)) (bd j) (hW j hj);obtain⟨i0,Ac,hh⟩:=c9J.1 Tryz.infoRow;simp only[Prod.mk.injEq]at hh;obtain⟨A6,Ad,A8⟩:=hh;clear h hW;go_enter func112,ntmps112
 go_wp2_with fail;go_loopw [8,15] (fun y x wr=> ∃(j:Nat) (U:Nat→Value),j≤m∧x=iV j∧Pcs wr w.heap.size y j U (fun _=>n+11) (fun j=>Crc.enc seg j L n (F j))∧Bl w wr) (fun _ x _=>m-(intOf x).toNat)
 case atStart=>exact⟨0,fun _=>nS,c9D _,rfl,Pcs.start _ _ _ _ _,Below.refl _ _⟩
 case round=>
  obtain⟨j,U,hj,rfl,hP,hb⟩:=hrel;by_cases A2:j<m
  ·have A9:(j:Int)<(m:Int):=by omega
   obtain⟨b9,o9,R9,K9,rfl,t9,y9⟩:=HL.out wr hb j A2;have A3:=a1I (.agg #[iV seg,iV j,iV L,.slice R9 n K9]) seg j L n (F j) wr ⟨_,rfl,y9⟩;rw[HW.out j A2,HE.out j]at A3;clear y9;go_wp2_with fail;refine A3.mono ?_;rintro e w6 ⟨v6,rfl,O6,b6⟩;have A4:kK w6 wr.heap.size v6 (n+11) (Crc.enc seg j L n (F j)):=by
    rcases O6 with⟨_,q⟩|⟨q,_⟩
    ·exact q
    ·exact absurd rfl q
   have A1:=(A4.pce (Ab.out j A2)).lower hb.size;obtain⟨g6,c6,rfl,_⟩:=A4;have A0:=(Below.refl w6.heap.size w6).alloc (c9C _) (.cells #[.slice (some (aD g6 0)) (n+11) c6] 59);have hP:=(hP.below b6).below A0;have A1:=A1.below A0;have bX:=bt (bt hb b6) A0;have Aa:=hP.own.lt;have A5:=hP.own;clear A3 O6 A0;go_wp2_with (at_builtin;go_loud (refine wpList_append_own _ rfl (.tmp 32) (.tmp 34) 86 rfl w.heap.size 59 i0 nS 1 24 underlying86 Ac A6 Ad A8 rfl (by decide) _ _ _ rfl A5 (aD w6.heap.size 0) 1 1 [.slice (some (aD g6 0)) (n+11) c6] rfl rfl cZ (by intro u hu;simp at hu;subst hu;rfl) (by unfold maxLen;omega) (by omega) bX.size ?_;intro v7 w7 hown1 hgrow1 _));have b7:=bX.grown hgrow1 bX.size (fun x hx=>(Aa x hx).1);have A7:=hP.step A1 hown1 hgrow1;exact⟨⟨j+1,_,by omega,by go_num,A7,b7⟩,by simp[intOf];omega⟩
  ·obtain rfl:j=m:=by omega
   go_wp2_with fail;go_ret2
   exact⟨_,_,rfl,hP,hb⟩
theorem c3T(w:World)(N:Nat)(v:Value)(d s n:Nat)(U U':Nat→Value)(f f':Nat→Nat→Nat)(b cap:Nat)(hds:d+s≤1000)(hN:N≤w.heap.size)(hP:Pcs w N v d U (fun _=>n) f)(hc: ∀r,r<s→w.cell? (aD b (0+r))=some (U' r))(hQ: ∀r,r<s→Pce w N (U' r) n (f' r)):
  ∃v' w',(Builtin.append_ #[86,86] 86 #[v,.slice (some (aD b 0)) s cap]).run prog w=.ok v' w'∧Below N w w'∧Pcs w' N v' (d+s) (fun i=>if i<d then U i else U' (i-d)) (fun _=>n) (fun i=>if i<d then f i else f' (i-d)):=by
 obtain⟨i0,hi,hh⟩:=c9J.1 Tryz.infoRow;simp only[Prod.mk.injEq]at hh;obtain⟨A1,A3,A2⟩:=hh
 obtain⟨v',w',A0,ho,hg,_⟩:=run_append_own (P:=prog) w N 86 86 59 i0 nS 1 24 underlying86 hi A1 A3 A2 rfl (by decide) v d _ hP.own (aD b 0) s cap ((List.range s).map U') (by simp) (fun j u hj=>by
  rcases Nat.lt_or_ge j s with h|h
  ·simp[h]at hj;rw[WideShapes.add_plain,hc j h,←hj]
  ·simp[List.getElem?_eq_none (show((List.range s).map U').length≤j by simpa using h)]at hj) (fun u hu=>by
  obtain⟨r,hr,rfl⟩:=d0G.1 hu;obtain⟨_,A,C,e,_⟩:=(hQ r (d0D.1 hr)).byts;rw[e]
  rfl) (by unfold maxLen;omega) (by omega) hN
 refine⟨v',w',A0,(Below.refl N w).grown hg hN (fun x hx=>(hP.own.lt x hx).1),?_,fun i hi=>?_⟩
 ·have e:(List.range (d+s)).map (fun i=>if i<d then U i else U' (i-d))=(List.range d).map U++(List.range s).map U':=by
   rw[List.range_add,c9U,List.map_map];refine congr (congrArg _ ?_) ?_
   ·refine d1H (fun i hi=>?_);rw[if_pos (d0D.1 hi)]
   ·refine d1H (fun i _=>?_);show(if d+i<d then U (d+i)else U' (d+i-d))=_;rw[if_neg (by omega),d2G]
  rw[e];exact ho
 ·by_cases e:i<d
  ·simp only[if_pos e];exact(hP.row i e).kept (by decide) hP.own hg
  ·simp only[if_neg e];exact(hQ (i-d) (by omega)).kept (by decide) hP.own hg
theorem xH(N:Nat)(v:Value)(d s n:Nat)(U:Nat→Value)(D:Nat→Nat→Nat)(w:World)(hP:Pcs w N v d U (fun _=>n) D)(bd:Gf.Bd2 D)(h1:1≤d)(h2:d≤8)(h3:s≤4)(hn1:1≤n)(hn2:n≤400)(hN:N≤w.heap.size):
  Calls prog 111 #[v,iV s] w fun e w'=> ∃vm v9 w5,e=.returned (.tuple #[vm,iV 0])∧(Builtin.append_ #[86,86] 86 #[v,vm]).run prog w'=.ok v9 w5∧Lls w5 v9 (d+s) (fun _=>n) (Gf.mm d (Gf.bH d) D)∧Below N w w5:=by
 have hA:=(hP.lls bd).arg;have hx:aB d (fun _=>n)=0:=gB h1 (by omega) hn1 hn2 (fun _ _=>rfl);have A1:=Gf.oS (Gf.eK d) d D;have hM:=hA.mx hx;by_cases hs:1≤s
 ·refine(a2Y v d s n D w hM h2 hs h3).mono ?_;rintro e w' ⟨b,G,rfl,ho,hb⟩;have ho:=ho.lower hN;obtain⟨v9,w5,r9,b9,A9⟩:=c3T w' N v d s n U (fun r=> .slice (some ⟨G r,0,none⟩) n n) D (Gf.mm d (cP d) D) b s (by omega) (c9E hN hb.size) (hP.below hb) (fun r hr=>by rw[c9G];exact ho.top.cell hr) (fun r hr=>⟨lN (Gf.oS (gZ d) d D r) (iE (ho.row r hr)) (c9C _) (by unfold maxLen;omega),Or.inr ⟨_,_,_,_,_,rfl,ho.low r hr,iE (ho.row r hr)⟩⟩);refine⟨_,v9,w5,rfl,r9,?_,(hb.mono hN).trans b9⟩;refine pW (A9.lls (fun i k=>?_)) A1 (fun i hi k _=>?_)
  ·show(if i<d then D i else Gf.mm d (cP d) D (i-d)) k<256;by_cases e:i<d
   ·rw[if_pos e];exact bd i k
   ·rw[if_neg e];exact Gf.oS (gZ d) d D (i-d) k
  ·show(if i<d then D i else Gf.mm d (cP d) D (i-d)) k=_;by_cases e:i<d
   ·rw[if_pos e,mO bd e]
   ·rw[if_neg e];have e2:cP d (i-d)=Gf.bH d i:=by
     show Gf.bH d (d+(i-d))=_;rw[show d+(i-d)=i by omega]
    show Gf.dot d (cP d (i-d)) _=Gf.dot d (Gf.bH d i) _;rw[e2]
 ·obtain rfl:s=0:=by omega
  refine(xJ v d (fun _=>n) D w hA h1 h2 hx).mono ?_;rintro e w' ⟨rfl,hb⟩;obtain⟨g,A2,rfl,_,A0,_⟩:=eD hP.own h1;refine⟨_,_,_,rfl,a3E w' 86 86 underlying86 underlying86 g 0 d A2 A0 86,?_,hb.mono hN⟩;exact pW ((hP.below hb).lls bd) A1 (fun i hi k _=>(mO bd hi k).symm)
theorem c8E(v:Value)(L:Nat)(r:Nat→Nat)(seg d s:Nat)(w:World)(h:cF w v L r)(h1:1≤d)(h2:d≤8)(h3:s≤4)(h4:seg≤39)(h5:L≤400*d):
  Calls prog 79 #[v,iV seg,iV d,iV s] w fun e w'=> ∃v' U,e=.returned (.tuple #[v',iV 0])∧Pcs w' w.heap.size v' (d+s) U (fun _=>Seg.dF L d+11) (Seg.blk r L seg d)∧Bl w w':=by
 have HW:=fun w'=>d9 (d:Int) (s:Int) w';rw[cN (by omega)]at HW;have hL:=h.len;have A0:Hid (∀w',Bl w w'→Calls prog 110 #[v,iV d] w' fun e w2=> ∃v' U,e=.returned v'∧Pcs w2 w'.heap.size v' d U (fun _=>Seg.dF L d) (Seg.eT r L (Seg.dF L d))∧Bl w' w2):=fun w' hb=>zZ v L r d w' (h.below hb) h1 h2 h5;have A3:=Seg.pK L d h1;have A5:=Seg.nA h1 h5;have A4:Hid (Gf.Bd2 (Seg.eT r L (Seg.dF L d))):=Seg.wU h.bd L _;have A1:Hid (∀j,j<d+s→Crc.aA seg j L (Seg.dF L d)=0):=fun j hj=>Crc.kC (by omega) (by omega);have A2:Hid (∀j,j<d+s→Crc.enc seg j L (Seg.dF L d) (Gf.mm d (Gf.bH d) (Seg.eT r L (Seg.dF L d)) j)=Seg.blk r L seg d j):=fun j hj=>by
  rw[Seg.a4C (by omega)];rfl
 obtain⟨A,C,rfl⟩:=h.shape;have q1: ¬40≤(seg:Int):=by omega
 have q2: ¬400*(d:Int)<(L:Int):=by omega
 have q3: ¬(d:Int)*400<(L:Int):=by omega
 clear h h5;go_enter func79,ntmps79
 go_wp2_with fail;refine(HW _).mono ?_;rintro e w1 ⟨rfl,b1⟩;clear HW;go_wp2_with fail;refine(A0.out _ b1).mono ?_;rintro e w2 ⟨v2,U2,rfl,P2,b2⟩;have HJ:=xH w1.heap.size v2 d s _ U2 _ w2 P2 A4.out h1 h2 h3 A3 A5 b2.size;clear A0 P2;go_wp2_with fail;refine HJ.mono ?_;rintro e w3 ⟨vm,v9,w5,rfl,r9,L9,b5⟩;have HB:=b0G v9 (d+s) (Seg.dF L d) _ seg L w5 L9 (by omega) A1.out;have b5:=bt b1 (b2.trans b5);clear HJ L9;go_wp2_with (at_builtin;refine Lib.wpList_append_run _ rfl (.tmp 43) (.tmp 44) 86 86 rfl _ _ rfl rfl _ _ r9 ?_);refine HB.mono ?_;rintro e w6 ⟨v6,U6,rfl,P6,b6⟩;have P6:=P6.congr A2.out;have bz:=bt b5 b6;have P6:Pcs w6 w.heap.size v6 (d+s) U6 (fun _=>Seg.dF L d+11) (Seg.blk r L seg d):=⟨rS P6.own b5.size,fun i hi=>(P6.row i hi).lower b5.size⟩;clear HB r9;go_wp2_with fail;go_ret2
 exact⟨_,_,rfl,P6,bz⟩
theorem c4Y(v:Value)(L:Nat)(r:Nat→Nat)(seg d s:Int)(w:World)(h:cF w v L r):
  Calls prog 79 #[v,iV seg,iV d,iV s] w fun e w'=> ∃v',e=.returned (.tuple #[v',iV (Seg.gU L seg d s:Nat)])∧c9B w' (Seg.gU L seg d s) v' (d.toNat+s.toNat) (Seg.dF L d.toNat+11) (Seg.blk r L seg.toNat d.toNat)∧Bl w w':=by
 have hL:=h.len;have HW:=fun w'=>d9 d s w';by_cases q1:d<1∨8<d∨s<0∨4<s
 ·have HE:Hid (Seg.gU L seg d s=5):=if_pos q1;rw[cC q1]at HW;clear q1;go_enter func79,ntmps79
  go_wp2_with fail;refine(HW _).mono ?_;rintro e w1 ⟨rfl,b1⟩;clear HW;go_wp2_with fail;go_ret2
  exact⟨_,by rw[HE.out];rfl,Or.inr ⟨by rw[HE.out];decide,rfl⟩,b1⟩
 rw[cN q1]at HW;by_cases q2:seg<0∨39<seg
 ·have HE:Hid (Seg.gU L seg d s=3):=by
   show Seg.gU L seg d s=3;unfold Seg.gU;rw[if_neg q1,if_pos q2]
  by_cases q3:seg<0
  ·clear q1 q2;go_enter func79,ntmps79
   go_wp2_with fail;refine(HW _).mono ?_;rintro e w1 ⟨rfl,b1⟩;clear HW;go_wp2_with fail;go_ret2
   exact⟨_,by rw[HE.out];rfl,Or.inr ⟨by rw[HE.out];decide,rfl⟩,b1⟩
  ·have q4:40≤seg:=by omega
   clear q1 q2;go_enter func79,ntmps79
   go_wp2_with fail;refine(HW _).mono ?_;rintro e w1 ⟨rfl,b1⟩;clear HW;go_wp2_with fail;go_ret2
   exact⟨_,by rw[HE.out];rfl,Or.inr ⟨by rw[HE.out];decide,rfl⟩,b1⟩
 by_cases q3:400*d<(L:Int)
 ·have HE:Hid (Seg.gU L seg d s=4):=by
   show Seg.gU L seg d s=4;unfold Seg.gU;rw[if_neg q1,if_neg q2,if_pos q3]
  obtain⟨A,C,rfl⟩:=h.shape;have p1: ¬seg<0:=by omega
  have p2: ¬40≤seg:=by omega
  have p5:d*400<(L:Int):=by omega
  have p3:1≤d:=by omega
  have p4:d≤8:=by omega
  clear q1 q2 h;go_enter func79,ntmps79
  go_wp2_with fail;refine(HW _).mono ?_;rintro e w1 ⟨rfl,b1⟩;clear HW;go_wp2_with fail;go_ret2
  exact⟨_,by rw[HE.out];rfl,Or.inr ⟨by rw[HE.out];decide,rfl⟩,b1⟩
 ·obtain⟨d',rfl⟩:=d0I (show 0≤d by omega);obtain⟨s',rfl⟩:=d0I (show 0≤s by omega);obtain⟨g',rfl⟩:=d0I (show 0≤seg by omega);have HE:Seg.gU L g' d' s'=0:=b4C (by omega) (by omega) (by omega) (by omega) (by omega);refine(c8E v L r g' d' s' w h (by omega) (by omega) (by omega) (by omega) (by omega)).mono ?_;rintro e w' ⟨v',U,rfl,hl,hb⟩;exact⟨v',by rw[HE];rfl,Or.inl ⟨HE,hl.lls (Seg.b0X (by omega) (by omega) (by omega) (by omega))⟩,hb⟩
theorem c0F(m:Nat)(F:Nat→Nat)(w:World)(h1:1≤m)(h2:m≤100000):
  Calls prog 144 #[nS,iV m] w fun e w'=> ∃v',e=.returned v'∧Buf w' w.heap.size v' 0 F∧Bl w w':=by
 obtain⟨i1,A3,A2⟩:=c9J.1 Tryz.infoByte;simp only[Prod.mk.injEq]at A2;obtain⟨A4,A9,A1⟩:=A2
 have hg:=Lib.run_append_grow_zeros (P:=prog) w 59 3 59 5 i1 (.int .u8 0) .i64 .i64 underlying59 underlying3 A3 A4 none 0 0 [] (run_firstCells_none w.drew i1.size 0 0 0) m (by omega) (by omega) (by omega) (by omega) (by rw[A1];omega) (by
  have:=growslice_fits (need:=0+m) (old:=0) (bytes:=i1.bytes) (by omega) (by rw[A1];omega)
  exact this)
 have hG:=grownCap_ge w (0+m) 0 5;have A0:=grownCap_le_maxLen w (0+m) 0 5 (by unfold maxLen;omega);obtain⟨K,hK⟩: ∃K,K=grownCap w (0+m) 0 5:=⟨_,rfl⟩;rw[←hK]at hg hG A0;obtain⟨c,hc⟩: ∃c,c=(([]:List Value).toArray++Builtin.zeroCells (Value.int .u8 0).cells m++Builtin.zeroCells (Value.int .u8 0).cells (K-(0+m))):=⟨_,rfl⟩;have A5:c.size=K:=by
  rw[hc];simp[Builtin.zeroCells,Value.cells];omega
 rw[←hc]at hg;have HB:Hid (Buf (w.drew.alloc (.cells c 5)) w.heap.size (.slice (some (aD w.heap.size 0)) 0 K) 0 F):=World.ownsRow_made w.drew c K (c9C _) A0 (by omega);have A6:Bl w (w.drew.alloc (.cells c 5)):=(Below.refl w.heap.size w).drew.alloc (c9C _) _;have A8: ¬(m:Int)<0:=by omega
 have A7:(0:Int)<(m:Int):=by omega
 have Aa:K≤9223372036854775807:=A0;clear hc hK A5 A0 A3;rw[c9G]at hg hG;go_enter func144,ntmps144
 go_wp2_with (at_builtin;go_loud (refine Lib.wpList_append_run _ rfl (.tmp 20) (.tmp 21) 59 3 rfl _ _ rfl rfl _ _ hg ?_));go_ret
 exact⟨_,rfl,HB.out,A6⟩
theorem c1R(hc:1≤c):cellsOf (fun j=>f (j/c) (j%c)) (k*c+c)=cellsOf (fun j=>f (j/c) (j%c)) (k*c)++cellsOf (f k) c:=by
 rw[lH];refine congrArg _ (jG (fun j hj=>?_));show f ((k*c+j)/c) ((k*c+j)%c)=f k j;rw[Nat.mul_comm,Nat.mul_add_div (by omega),Nat.mul_add_mod,Nat.div_eq_of_lt hj,Nat.mod_eq_of_lt hj,d0X]
theorem b0I(b o n cap c:Nat)(G O K:Nat→Nat)(f:Nat→Nat→Nat)(w:World)(h:jV w b o n c G O K f)(bd:Gf.Bd2 f)(h1:1≤n)(h2:n≤12)(h3:1≤c)(h4:c≤400):
  Calls prog 118 #[.slice (some (aD b o)) n cap] w fun e w'=> ∃v',e=.returned v'∧kK w' w.heap.size v' (n*c) (fun j=>f (j/c) (j%c))∧Bl w w':=by
 have Ae:n*c≤12*400:=d0Y h2 h4;have A9:1*1≤n*c:=d0Y h1 h3;have A6:Hid (∀k,k<n→k*c+c≤n*c):=fun k hk=>by
  have:=d1J c (show k+1≤n by omega);rw[d0F]at this;exact this
 have HT:=hd8 fun w' hb k hk=>(h.below hb).top k hk;have HR:Hid (∀w',Bl w w'→ ∀k,k<n→ ∀j u,(cellsOf (f k) c)[j]?=some u→w'.cell? ((⟨G k,O k,none⟩:Addr).add j)=some u):=fun w' hb k hk j u hj=>by
  rcases Nat.lt_or_ge j c with q|q
  ·simp[cellsOf,q]at hj;rw[WideShapes.add_plain,(h.below hb).row k hk j q,←hj]
  ·simp[List.getElem?_eq_none (show(cellsOf (f k) c).length≤j by simpa [cellsOf]using q)]at hj
 have Ai:=hd8 fun j=>bd _ _;obtain⟨i1,Ad,A5⟩:=c9J.1 Tryz.infoByte;simp only[Prod.mk.injEq]at A5;obtain⟨Aa,Ab,A7⟩:=A5;clear h bd;go_enter func118,ntmps118
 go_wp2_with fail;go_loopw [3,11] (fun z x wr=> ∃(k:Nat),k≤n∧x=iV k∧z=iV ((k*c:Nat):Int)∧Bl w wr) (fun _ x _=>n-(intOf x).toNat)
 case atStart=>exact⟨0,c9D _,rfl,by rw[Nat.zero_mul];rfl,Below.refl _ _⟩
 case round=>
  obtain⟨k,hk,rfl,rfl,hb⟩:=hrel;by_cases A0:k<n
  ·have A4:(k:Int)<(n:Int):=by omega
   have t1:=HT.out wr hb k A0;have A3:=A6.out k A0;have e1:=d0F k c;have Ah:Hid ((((k+1)*c:Nat):Int)=((k*c:Nat):Int)+(c:Int)):=by
    show(((k+1)*c:Nat):Int)=((k*c:Nat):Int)+(c:Int);omega
   clear e1;generalize hp:k*c=p at*;have Al: ¬(p:Int)+(c:Int)<0:=by omega
   go_wp2_with fail;exact⟨⟨k+1,by omega,by go_num,by rw[Ah.out],hb⟩,by simp[intOf];omega⟩
  ·obtain rfl:k=n:=by omega
   obtain⟨m,hm⟩: ∃m,k*c=m:=⟨_,rfl⟩;have HM:=hd8 hm;rw[hm]at Ae A9⊢;have HG:=c0F m (fun j=>f (j/c) (j%c)) wr (by omega) (by omega);clear hm;obtain⟨wo,rfl⟩: ∃x,x=wr:=⟨wr,rfl⟩;go_wp2_with fail;refine HG.mono ?_;rintro e w2 ⟨v2,rfl,B2,b2⟩;have b2:=bt hb b2;have A8:=hb.size;clear HG;go_wp2_with fail;go_loopw [6,27] (fun y x wq=> ∃(q:Nat),q≤k∧x=iV q∧Buf wq w.heap.size y (q*c) (fun j=>f (j/c) (j%c))∧Bl w wq) (fun _ x _=>k-(intOf x).toNat)
   case atStart=>exact⟨0,c9D _,rfl,by rw[Nat.zero_mul];exact rS B2 A8,b2⟩
   case round=>
    obtain⟨q,hq,rfl,BQ,A1⟩:=hrel;by_cases A0:q<k
    ·have A4:(q:Int)<(k:Int):=by omega
     have A3:=A6.out q A0;rw[HM.out]at A3;obtain⟨p,hp⟩: ∃p,q*c=p:=⟨_,rfl⟩;have Ag:Hid (cellsOf (fun j=>f (j/c) (j%c)) ((q+1)*c)=cellsOf (fun j=>f (j/c) (j%c)) p++cellsOf (f q) c):=by
      show cellsOf (fun j=>f (j/c) (j%c)) ((q+1)*c)=cellsOf (fun j=>f (j/c) (j%c)) p++cellsOf (f q) c;rw[d0F,c1R h3,hp]
     have Aj:Hid ((q+1)*c=p+c):=by
      show(q+1)*c=p+c;rw[d0F,hp]
     rw[hp]at BQ A3;have t1:=HT.out wr A1 q A0;have cs:=HR.out wr A1 q A0;have A2:(cellsOf (f q) c).length=c*1:=by simp[cellsOf]
     have Ak:=jK (f q) c;have Af:=World.ownsRow.lt BQ;have BX:wr.ownsRow w.heap.size 5 1 u6 p (cellsOf (fun j=>f (j/c) (j%c)) p):=BQ;clear hp BQ;go_wp2_with (at_builtin;go_loud (refine wpList_append_own _ rfl (.tmp 31) (.tmp 32) 59 rfl w.heap.size 5 i1 (.int .u8 0) 1 1 underlying59 Ad Aa Ab A7 rfl (by decide) _ _ _ rfl BX ⟨G q,O q,none⟩ c (K q) (cellsOf (f q) c) rfl A2 cs Ak (by unfold maxLen;omega) (by omega) A1.size ?_;intro v3 w3 hown3 hgrow3 _));have b3:=A1.grown hgrow3 A1.size (fun y hy=>(Af y hy).1);refine⟨⟨q+1,by omega,by go_num,?_,b3⟩,by simp[intOf];omega⟩;unfold Buf;rw[Ag.out,Aj.out];exact hown3
    ·obtain rfl:q=k:=by omega
     have Ac:1≤q*c:=by
      have:=HM.out;omega
     go_wp2_with fail;go_ret
     exact⟨_,rfl,Buf.made BQ Ai.out Ac,A1⟩
theorem a9P(g n cap:Nat)(A:Option Addr)(l:Value)(V:Nat→Value)(p:Nat→Bool)(w:World)(eg: ∀args w,(callFunc g args).run prog w=.ok (.enter g args) w)
  (hc: ∀r,r<n→ ∃b o,A=some (aD b o)∧w.cell? (aD b (o+r))=some (V r)) (hp:uE g l n V p w) (hn:n≤10000):
  Calls prog 140 #[.slice A n cap,.func (.func g) #[] #[l]] w fun e w'=> ∃i:Int,e=.returned (iV i)∧a4L n p i∧Bl w w':=by
 have HC:Hid (∀w',Bl w w'→ ∀r,r<n→ ∃b o,A=some (aD b o)∧w'.cell? (aD b (o+r))=some (V r)):=fun w' hb r hr=>by
  obtain⟨b,o,e1,e2⟩:=hc r hr;exact⟨b,o,e1,cB8 hb e2⟩
 clear hc;go_enter func140,ntmps140
 go_wp2_with fail;go_loopw [8] (fun i wr=> ∃k:Nat,k≤n∧i=iV k∧Hid (∀s,s<k→p s=false)∧Bl w wr) (fun i _=>n-(intOf i).toNat)
 case atStart=>exact⟨0,c9D _,rfl,fun s hs=>absurd hs (c9L s),Below.refl _ _⟩
 case round=>
  obtain⟨k,hk,rfl,HS,hb⟩:=hrel;by_cases A1:k<n
  ·have A4:(k:Int)<(n:Int):=by omega
   obtain⟨b,o,rfl,A5⟩:=HC.out wr hb k A1;have A0:=hp k A1 wr hb;by_cases hy:p k=true
   ·rw[hy]at A0;go_wp2_with fail;refine A0.mono ?_;rintro e w1 ⟨rfl,A2⟩;go_wp2_with fail;go_ret
    exact⟨_,rfl,Or.inr ⟨k,A1,rfl,hy,HS.out⟩,hb.trans (A2.mono hb.size)⟩
   ·have A3:p k=false:=by simpa using hy
    rw[A3]at A0;clear hy;go_wp2_with fail;refine A0.mono ?_;rintro e w1 ⟨rfl,A2⟩;go_wp2_with fail;refine⟨⟨k+1,by omega,by go_num,fun s hs=>?_,hb.trans (A2.mono hb.size)⟩,by simp[intOf];omega⟩;by_cases e:s=k
    ·rw[e];exact A3
    ·exact HS.out s (by omega)
  ·have e8:k=n:=by omega
   subst e8;go_wp2_with fail;go_ret
   exact⟨_,rfl,Or.inl ⟨rfl,HS.out⟩,hb⟩
theorem a0K(g n cap:Nat)(A:Option Addr)(l:Value)(V:Nat→Value)(p:Nat→Bool)(w:World)(eg: ∀args w,(callFunc g args).run prog w=.ok (.enter g args) w)
  (hc: ∀r,r<n→ ∃b o,A=some (aD b o)∧w.cell? (aD b (o+r))=some (V r)) (hp:uE g l n V p w) (hn:n≤10000):
  Calls prog 115 #[.slice A n cap,.func (.func g) #[] #[l]] w fun e w'=> ∃y:Bool,e=.returned (.bool y)∧(y=true↔ ∃r,r<n∧p r=true)∧Bl w w':=by
 go_enter func115,ntmps115
 go_wp2_with fail;refine(a9P g n cap A l V p w eg hc hp hn).mono ?_;rintro e w1 ⟨i,rfl,hi,hb⟩;clear hc hp;go_wp2_with fail;go_ret
 refine⟨_,rfl,?_,hb⟩;rcases hi with⟨rfl,h⟩|⟨r,hr,rfl,h,_⟩
 ·exact⟨fun e=>absurd e (by decide),fun⟨r,hr,he⟩=>by rw[h r hr]at he;exact absurd he (by decide)⟩
 ·exact⟨fun _=>⟨r,hr,h⟩,fun _=>by simp⟩
theorem b7H(x y n cap B b o:Nat)(w:World)(h0:0<n)(hc:w.cell? (aD B 0)=some (.slice (some (aD b o)) n cap))(hd:w.cell? (aD b o)=some (iV y)):
  Calls prog 116 #[iV x,.pointer (some (aD B 0))] w fun e w'=>e=.returned (.bool (decide (x≠y)))∧Bl w w':=by
 by_cases h:x=y
 ·subst h;have H:Hid (decide (x≠x)=false):=by show decide (x≠x)=false;simp
  go_enter func116,ntmps116
  go_wp2_with fail;go_ret
  exact⟨jP (by rw[H.out]),Below.refl _ _⟩
 ·have H:Hid (decide (x≠y)=true):=by show decide (x≠y)=true;simpa using h
  have h':((x:Int)==(y:Int))=false:=by rw[beq_eq_false_iff_ne];omega
  clear h;go_enter func116,ntmps116
  go_wp2_with fail;go_ret
  exact⟨jP (by rw[H.out];simp[bne,h']),Below.refl _ _⟩
theorem Tryz.enters_other: ∀args w,(callFunc 116 args).run Tryz.prog w=.ok (.enter 116 args) w:=enters_of Tryz.func116 (by kernel_rfl) rfl
def szL(seg:Int)(L:Nat→Nat)(g:Nat→Nat→Nat)(k:Nat):List Nat:=((List.range k).filter (fun i=>decide (Seg.right seg L g i))).map (Seg.rz g)
theorem c6H{g:Nat→Nat→Nat}(h:Seg.right seg L g k):szL seg L g (k+1)=szL seg L g k++[Seg.rz g k]:=by
 unfold szL;rw[d1G,d1O,c9U];have e:List.filter (fun i=>decide (Seg.right seg L g i)) [k]=[k]:=d1W (p:=fun i=>decide (Seg.right seg L g i)) (decide_eq_true h);rw[e];rfl
theorem c7Y{g:Nat→Nat→Nat}(h: ¬Seg.right seg L g k):szL seg L g (k+1)=szL seg L g k:=by
 unfold szL;rw[d1G,d1O,c9U];have e:List.filter (fun i=>decide (Seg.right seg L g i)) [k]=[]:=d1N (p:=fun i=>decide (Seg.right seg L g i)) (fun q=>h (of_decide_eq_true q));rw[e];exact d0W _
theorem sH{g:Nat→Nat→Nat}:x∈szL seg L g k↔ ∃i,i<k∧Seg.right seg L g i∧Seg.rz g i=x:=by
 unfold szL;rw[d0G];constructor
 ·rintro⟨i,hi,e⟩;rw[d0Z,d0D]at hi;exact⟨i,hi.1,of_decide_eq_true hi.2,e⟩
 ·rintro⟨i,h1,h2,e⟩;exact⟨i,by rw[d0Z,d0D];exact⟨h1,decide_eq_true h2⟩,e⟩
theorem b4O(seg:Int)(L:Nat→Nat)(g:Nat→Nat→Nat)(k:Nat):(szL seg L g k).length≤k:=by
 unfold szL;rw[c9M];exact c9E (d2P _ _) (by simp)
theorem b6Z{g:Nat→Nat→Nat}:(∃r,r<(szL seg L g N).length∧decide ((szL seg L g N).getD r 0≠(szL seg L g N).getD 0 0)=true)↔ ¬Seg.a9B seg L g N:=by
 constructor
 ·rintro⟨r,hr,h⟩ hs;have h:=of_decide_eq_true h;have m1:(szL seg L g N).getD r 0∈szL seg L g N:=by simp[List.getD,hr]
  have m0:(szL seg L g N).getD 0 0∈szL seg L g N:=by simp[List.getD,show 0<(szL seg L g N).length by omega]
  obtain⟨i,i1,i2,i3⟩:=sH.1 m1;obtain⟨j,j1,j2,j3⟩:=sH.1 m0;exact h (by rw[←i3,←j3];exact hs i i1 j j1 i2 j2)
 ·intro hn;refine Classical.byContradiction fun q=>hn (fun i hi j hj r1 r2=>?_);have A0: ∀x,x∈szL seg L g N→x=(szL seg L g N).getD 0 0:=fun x hx=>by
   obtain⟨r,hr,e⟩:=d1P.1 hx;refine Classical.byContradiction fun ne=>q ⟨r,hr,decide_eq_true ?_⟩;rw[show(szL seg L g N).getD r 0=x by simp[List.getD,hr,e]];exact ne
  rw[A0 _ (sH.2 ⟨i,hi,r1,rfl⟩),A0 _ (sH.2 ⟨j,hj,r2,rfl⟩)]
theorem kS{l:List Nat}(h:iP w N v l): ∃A cap,v=.slice A l.length cap∧ ∀r,r<l.length→ ∃b o,A=some (aD b o)∧w.cell? (aD b (o+r))=some (iV ((l.getD r 0:Nat):Int)):=by
 have h':w.ownsRow N 3 1 v l.length (l.map fun x:Nat=>Value.int .i64 x):=h;rcases h'.2 with⟨rfl,h0⟩|⟨g,cap,A0,rfl,_,_,_,_,_,_⟩
 ·exact⟨none,0,by rw[h0],fun r hr=>absurd hr (by omega)⟩
 ·refine⟨some (aD g 0),cap,rfl,fun r hr=>⟨g,0,rfl,?_⟩⟩;have:=h'.cells (g:=g) rfl r (iV ((l.getD r 0:Nat):Int)) (by simp[List.getD,hr]);rw[WideShapes.add_plain]at this;exact this
theorem a0F(v:Value)(N:Nat)(L:Nat→Nat)(g:Nat→Nat→Nat)(s:Int)(w:World)(h:Lls w v N L g)(hN:N≤100):
  Calls prog 114 #[v,iV s] w fun e w'=> ∃v' z,e=.returned (.tuple #[v',z])∧Lls w' v' N (Seg.rl s L g) (Seg.rf g)∧iP w' w.heap.size z (szL s L g N)∧Bl w w':=by
 obtain⟨i0,Ae,hh⟩:=c9J.1 Tryz.infoRow;simp only[Prod.mk.injEq]at hh;obtain⟨Aa,Ac,Ad⟩:=hh;obtain⟨i1,Ap,Af⟩:=c9J.1 Tryz.infoInt;simp only[Prod.mk.injEq]at Af;obtain⟨Ah,Ao,Aq⟩:=Af;obtain⟨A,C,rfl⟩:=h.shape;have HL:Hid (∀w',Bl w w'→ ∀r,r<N→ ∃b o R K,A=some (aD b o)∧w'.cell? (aD b (o+r))=some (.slice R (L r) K)∧cF w' (.slice R (L r) K) (L r) (g r)):=fun w' hb r hr=>(h.below hb).at hr;have A7:=hd8 fun i k=>h.bd i (k+7);clear h;go_enter func114,ntmps114
 go_wp2_with fail;go_loopw [4,5,12] (fun y z x wr=> ∃(k:Nat) (U:Nat→Value),k≤N∧x=iV k∧Pcs wr w.heap.size y k U (Seg.rl s L g) (Seg.rf g)∧iP wr w.heap.size z (szL s L g k)∧Bl w wr) (fun _ _ x _=>N-(intOf x).toNat)
 case atStart=>exact⟨0,fun _=>nS,c9D _,rfl,Pcs.start _ _ _ _ _,iP.nil _ _,Below.refl _ _⟩
 case round=>
  obtain⟨k,U,hk,rfl,hP,BN,hb⟩:=hrel;by_cases An:k<N
  ·have Ai:(k:Int)<(N:Int):=by omega
   obtain⟨b,o,R,K,rfl,d0,hy⟩:=HL.out wr hb k An;have HR:=pJ _ _ (g k) s k wr hy;have Au:=b4O s L g k;obtain⟨P,A4⟩: ∃P:Prop,P=Seg.right s L g k:=⟨_,rfl⟩;have A9:P=(Crc.aM (g k) (L k)=0∧((g k 1:Nat):Int)=s∧g k 2=k):=A4;have As:=hd8 fun q=>c6H (by rw[←A4];exact q);have At:Hid (¬P→szL s L g (k+1)=szL s L g k):=fun q=>c7Y (fun r=>q (by rw[A4];exact r));have Aj:=hd8 fun q=>Seg.a9S (by rw[←A4];exact q);have Ar:Hid (¬P→Seg.rl s L g k=0):=fun q=>Seg.c2T (fun r=>q (by rw[A4];exact r));rw[←A9]at HR;clear hy A4 A9;go_wp2_with fail;refine HR.mono ?_;rintro e w1 ⟨v1,y,rfl,hO,b1⟩;have BN:=BN.below b1;have hP:=hP.below b1;have Am:w.heap.size≤wr.heap.size:=hb.size;have b1:=bt hb b1;rcases hO with⟨hp,rfl,d,rfl,hM⟩|⟨hp,rfl,rfl⟩
   ·have A2:=(hM.pce (fun j=>A7.out k j)).lower Am;obtain⟨g5,c5,rfl,_⟩:=hM;have hz:g k 3*256+g k 4=Seg.rz g k:=rfl;rw[hz];have bV:=aB8 w1 (.cells #[iV (g k 1:Nat),iV (g k 2:Nat),iV (Seg.rz g k:Nat),.slice (some (aD g5 0)) (L k-11) c5] 137);obtain⟨V0,V1,V2,V3,VF⟩:=fK w1 (iV (g k 1:Nat)) (iV (g k 2:Nat)) (iV (Seg.rz g k:Nat)) (.slice (some (aD g5 0)) (L k-11) c5);have A1:=hP.own.lt;have A0:(w1.alloc (.cells #[iV (g k 1:Nat),iV (g k 2:Nat),iV (Seg.rz g k:Nat),.slice (some (aD g5 0)) (L k-11) c5] 137)).heap.size=w1.heap.size+1:=by simp
    have bX:=(Below.refl (w1.alloc (.cells #[iV (g k 1:Nat),iV (g k 2:Nat),iV (Seg.rz g k:Nat),.slice (some (aD g5 0)) (L k-11) c5] 137)).heap.size (w1.alloc (.cells #[iV (g k 1:Nat),iV (g k 2:Nat),iV (Seg.rz g k:Nat),.slice (some (aD g5 0)) (L k-11) c5] 137))).alloc (c9C _) (.cells #[.slice (some (aD g5 0)) (L k-11) c5] 59);have hP:=(hP.below bV).below bX;have A2:=(A2.below bV).below bX;have BN:=(BN.below bV).below bX;have b2:=bt (bt b1 bV) bX;have cx: ∀j u,[Value.slice (some (aD g5 0)) (L k-11) c5][j]?=some u→((w1.alloc (.cells #[iV (g k 1:Nat),iV (g k 2:Nat),iV (Seg.rz g k:Nat),.slice (some (aD g5 0)) (L k-11) c5] 137)).alloc (.cells #[.slice (some (aD g5 0)) (L k-11) c5] 59)).cell? ((⟨w1.heap.size+1,0,none⟩:Addr).add j)=some u:=by
     have q:=fun j u=>cZ (w:=(w1.alloc (.cells #[iV (g k 1:Nat),iV (g k 2:Nat),iV (Seg.rz g k:Nat),.slice (some (aD g5 0)) (L k-11) c5] 137))) (v:=.slice (some (aD g5 0)) (L k-11) c5) (t:=59) j u;rw[A0]at q;exact q
    have A3:=hP.own;have Ab:=(bX.cell (p:=⟨w1.heap.size,2,none⟩) (by rw[A0];exact d1F _)).trans V2;clear HR V0 V1 V2 VF bV bX;go_upto_region 6 with(at_builtin;go_loud (refine wpList_append_own _ rfl (.tmp 24) (.tmp 27) 86 rfl w.heap.size 59 i0 nS 1 24 underlying86 Ae Aa Ac Ad rfl (by decide) _ _ _ rfl A3 (aD (w1.heap.size+1) 0) 1 1 [.slice (some (aD g5 0)) (L k-11) c5] rfl rfl cx (by intro u hu;simp at hu;subst hu;rfl) (by unfold maxLen;omega) (by omega) b2.size ?_;intro v4 w4 hown4 hgrow4 _))
    have b4:=b2.grown hgrow4 b2.size (fun x hx=>(A1 x hx).1);have A5:=hP.step (by rw[Aj.out hp];exact A2) hown4 hgrow4;have B4:=BN.kept (by decide) A3 hgrow4;have V4:=hgrow4.cell Ab (fun e=>d0V _ (A1 _ e.symm).2);clear hP A2 BN A3 hown4 hgrow4 Ab V3 cx;have bY:=(Below.refl w4.heap.size w4).alloc (c9C _) (.cells #[iV (Seg.rz g k:Nat)] 3);have A5:=A5.below bY;have b5:=bt b4 bY;have BX:=B4.below bY;have cn:=eE w4 #[iV (Seg.rz g k:Nat)] 3;have A8:=BX.lt;have A6:=hd8 (As.out hp);clear bY B4 hp;generalize Seg.rz g k=zk at*;go_wp2_with (at_builtin;go_loud (refine wpList_append_own _ rfl (.tmp 30) (.tmp 33) 27 rfl w.heap.size 3 i1 (iV 0) 1 8 underlying27 Ap Ah Ao Aq rfl (by decide) _ _ _ rfl BX (aD w4.heap.size 0) 1 1 [iV zk] rfl rfl cn (by intro u hu;simp at hu;rw[hu];rfl) (by unfold maxLen;omega) (by omega) b5.size ?_;intro v6 w6 hown6 hgrow6 _));have B6:=iP.one hown6;rw[←A6.out]at B6;have b6:=b5.grown hgrow6 b5.size (fun y hy=>(A8 y hy).1);have Ak:=A5.kept (by decide) (by decide) BX hgrow6;exact⟨⟨k+1,_,by omega,by go_num,Ak,B6,b6⟩,by simp[intOf];omega⟩
   ·have A2:Pce w1 w.heap.size nS 0 (Seg.rf g k):=Pce.nil _ _ (fun j=>A7.out k j);have bV:=aB8 w1 (.cells #[iV 0,iV 0,iV 0,nS] 137);have A1:=hP.own.lt;have A0:(w1.alloc (.cells #[iV 0,iV 0,iV 0,nS] 137)).heap.size=w1.heap.size+1:=by simp
    have bX:=(Below.refl (w1.alloc (.cells #[iV 0,iV 0,iV 0,nS] 137)).heap.size (w1.alloc (.cells #[iV 0,iV 0,iV 0,nS] 137))).alloc (c9C _) (.cells #[nS] 59);have hP:=(hP.below bV).below bX;have A2:=(A2.below bV).below bX;have BN:=(BN.below bV).below bX;have b2:=bt (bt b1 bV) bX;have cx: ∀j u,[Value.slice none 0 0][j]?=some u→((w1.alloc (.cells #[iV 0,iV 0,iV 0,nS] 137)).alloc (.cells #[nS] 59)).cell? ((⟨w1.heap.size+1,0,none⟩:Addr).add j)=some u:=by
     have q:=fun j u=>cZ (w:=(w1.alloc (.cells #[iV 0,iV 0,iV 0,nS] 137))) (v:=nS) (t:=59) j u;rw[A0]at q;exact q
    have A3:=hP.own;have Al:=hd8 (Ar.out hp);have A6:=hd8 (At.out hp);clear HR bV bX hp;go_upto_region 6 with(at_builtin;go_loud (refine wpList_append_own _ rfl (.tmp 24) (.tmp 27) 86 rfl w.heap.size 59 i0 nS 1 24 underlying86 Ae Aa Ac Ad rfl (by decide) _ _ _ rfl A3 (aD (w1.heap.size+1) 0) 1 1 [nS] rfl rfl cx (by intro u hu;simp at hu;subst hu;rfl) (by unfold maxLen;omega) (by omega) b2.size ?_;intro v4 w4 hown4 hgrow4 _))
    have b4:=b2.grown hgrow4 b2.size (fun x hx=>(A1 x hx).1);have A5:=hP.step (by rw[Al.out];exact A2) hown4 hgrow4;have B4:=BN.kept (by decide) A3 hgrow4;rw[←A6.out]at B4;clear hP A2 BN A3 hown4 hgrow4 cx;go_wp2_with fail;exact⟨⟨k+1,_,by omega,by go_num,A5,B4,b4⟩,by simp[intOf];omega⟩
  ·obtain rfl:k=N:=by omega
   have Ag:=hP.lls A7.out;go_wp2_with fail;go_ret2
   exact⟨_,_,rfl,Ag,BN,hb⟩
theorem b5V{f:Nat→Nat}(h:cF w (.slice (some (aD g 0)) n cap) n f)(hm:m≤n):cF w (.slice (some (aD g 0)) m cap) m f:=by
 obtain⟨bd,A,C,hv,h1,h2,hc⟩:=h;cases hv
 exact⟨bd,_,_,rfl,by omega,h2,fun k hk=>hc k (by omega)⟩
theorem c4M(A:Option Addr)(cap n s:Nat)(L:Nat→Nat)(g:Nat→Nat→Nat)(seg:Int)(w:World)(h:Lls w (.slice A (n+s) cap) (n+s) L g)(h1:1≤n)(h2:n≤8)(h3:s≤4):
  Calls prog 82 #[.slice A (n+s) cap,iV seg,iV n] w fun e w'=> ∃v',e=.returned (.tuple #[v',iV (cR seg n (n+s) L g:Nat)])∧a8O w' (cR seg n (n+s) L g) v' n (n+s) (Seg.rl seg L g) (Seg.rf g) (Seg.rz g (thr (Seg.rl seg L g) (n+s) 0))∧Bl w w':=by
 have Ar:(n:Int)+(s:Int)-(n:Int)=(s:Int):=by omega
 have HW:=fun w'=>d9 (n:Int) (s:Int) w';rw[cN (by omega)]at HW;have Aw: ¬n+s=0:=by omega
 have A4:Hid (bP (n:Int) (((n+s:Nat):Int)-(n:Int))=0):=cN (by omega);have Ay:=hd8 fun w' hb=>a0F _ (n+s) L g seg w' (h.below hb) (by omega);clear h;go_enter func82,ntmps82
 go_wp2_with fail;refine(HW _).mono ?_;rintro e w1 ⟨rfl,b1⟩;clear HW;go_wp2_with fail;refine(Ay.out _ b1).mono ?_;rintro e w2 ⟨vs,vz,rfl,LS,NZ,b2⟩;have b2:=bt b1 b2;obtain⟨Az,Cz,rfl,hz⟩:=kS NZ;have Au:=b4O seg L g (n+s);have Ab:Hid ((∃r,r<(szL seg L g (n+s)).length∧decide ((szL seg L g (n+s)).getD r 0≠(szL seg L g (n+s)).getD 0 0)=true)↔ ¬Seg.a9B seg L g (n+s)):=b6Z;have A7:Hid (∀x,x∈szL seg L g (n+s)↔ ∃i,i<n+s∧Seg.right seg L g i∧Seg.rz g i=x):=fun x=>sH;generalize szL seg L g (n+s)=l at NZ hz Au Ab A7;have bV:=(Below.refl w2.heap.size w2).alloc (c9C _) (.cells #[.slice Az l.length Cz] 27);have A5:Hid (∀W,Bl w2 W→ ∀r,r<l.length→ ∃b o,Az=some (aD b o)∧W.cell? (aD b (o+r))=some (iV ((l.getD r 0:Nat):Int))):=fun W hW r hr=>by
  obtain⟨b,o,e1,e2⟩:=hz r hr;exact⟨b,o,e1,cB8 hW e2⟩
 have HV:Hid (∀W,Bl (w2.alloc (.cells #[.slice Az l.length Cz] 27)) W→W.cell? (aD w2.heap.size 0)=some (.slice Az l.length Cz)):=fun W hW=>by
  rw[hW.cell (p:=⟨w2.heap.size,0,none⟩) (by simp)];simp
 have HC:=a0K 116 l.length Cz Az (.pointer (some (aD w2.heap.size 0))) (fun r=>iV ((l.getD r 0:Nat):Int)) (fun r=>decide (l.getD r 0≠l.getD 0 0)) _ Tryz.enters_other (A5.out _ bV) (fun r hr W hW=>by
  obtain⟨b,o,e1,e2⟩:=A5.out W (bt bV hW) 0 (by omega);have e3:=HV.out W hW;subst e1
  exact b7H (l.getD r 0) (l.getD 0 0) l.length Cz w2.heap.size b o W (by omega) e3 (by simpa using e2)) (by omega)
 have LS:=LS.below bV;have b3:=bt b2 bV;clear hz NZ;go_wp2_with fail;refine HC.mono ?_;rintro e w4 ⟨y,rfl,hy,b4⟩;have HY:=hd8 hy;have A6:=HV.out w4 b4;have Al:=hd8 fun W hW=>A5.out W (bt (bt bV b4) hW);have LS:=LS.below b4;have b4:=bt b3 b4;clear HC hy HV A5 bV;cases y with
 |true=>
  have HE:Hid (cR seg n (n+s) L g=8):=by
   show cR seg n (n+s) L g=8;unfold cR;rw[if_neg (fun q=>q A4.out),if_pos (Ab.out.1 (HY.out.1 rfl))]
  clear LS A6;go_wp2_with fail;go_ret2
  exact⟨_,by rw[HE.out];rfl,Or.inr ⟨by rw[HE.out];decide,rfl⟩,b4⟩
 |false=>
  have HS:Hid (Seg.a9B seg L g (n+s)):=Classical.byContradiction fun q=>by
   have:=HY.out.2 (Ab.out.2 q);cases this
  have HM:=c8I vs (n+s) (Seg.rl seg L g) (Seg.rf g) (n:Int) w4 LS.arg (by unfold maxLen;omega);by_cases hE:eG (n:Int) (n+s) (Seg.rl seg L g)=0
  case neg=>
   have HE:Hid (cR seg n (n+s) L g=eG (n:Int) (n+s) (Seg.rl seg L g)):=by
    show cR seg n (n+s) L g=_;unfold cR;rw[if_neg (fun q=>q A4.out),if_neg (fun q=>q HS.out),if_pos hE]
   have HN:=hd8 hE;have Aq:(((eG (n:Int) (n+s) (Seg.rl seg L g):Nat):Int)==0)=false:=by rw[beq_eq_false_iff_ne];omega
   have B6:(((eG (n:Int) (n+s) (Seg.rl seg L g):Nat):Int) !=0)=true:=by rw[bne,Aq];rfl
   clear hE LS A6;go_wp2_with fail;refine HM.mono ?_;rintro e w5 ⟨vm,r,rfl,_,_,_,b5⟩;have b5:=bt b4 b5;clear HM;go_wp2_with fail;go_ret2
   exact⟨_,by rw[HE.out];rfl,Or.inr ⟨by rw[HE.out];exact HN.out,rfl⟩,b5⟩
  case pos=>
   have Aa:n≤(there (Seg.rl seg L g) (n+s)).length:=by
    refine Nat.le_of_not_lt fun q=>?_;unfold eG at hE;rw[if_neg (fun q=>q A4.out),if_pos (by rw[c9Q];exact q)]at hE;cases hE
   obtain⟨t1,t2⟩:=fG (show 0<(there (Seg.rl seg L g) (n+s)).length by omega);have t3:=Seg.xP t2;have An:0<l.length:=by
    have:=(A7.out (Seg.rz g (thr (Seg.rl seg L g) (n+s) 0))).2 ⟨_,t1,t3,rfl⟩;exact List.length_pos_of_mem this
   have A0:l.getD 0 0=Seg.rz g (thr (Seg.rl seg L g) (n+s) 0):=by
    have m0:l.getD 0 0∈l:=by simp[List.getD,An]
    obtain⟨i,i1,i2,i3⟩:=(A7.out _).1 m0;rw[←i3];exact HS.out i i1 _ t1 i2 t3
   have Ai:Hid (∀b:Prop,(b↔n*Seg.rl seg L g (thr (Seg.rl seg L g) (n+s) 0)<Seg.rz g (thr (Seg.rl seg L g) (n+s) 0))→(b→cR seg n (n+s) L g=8)∧(¬b→cR seg n (n+s) L g=0)):=fun b hb=>by
    have e:cR seg n (n+s) L g=if ((n:Int).toNat*Seg.rl seg L g (thr (Seg.rl seg L g) (n+s) 0)<Seg.rz g (thr (Seg.rl seg L g) (n+s) 0))then 8 else 0:=by
     unfold cR;rw[if_neg (fun q=>q A4.out),if_neg (fun q=>q HS.out),if_neg (fun q=>q hE)]
    rw[c9Q]at e;constructor
    ·intro q;rw[e,if_pos (hb.1 q)]
    ·intro q;rw[e,if_neg (fun z=>q (hb.2 z))]
   rw[hE]at HM;have HF:=hd8 A0;obtain⟨c,hc⟩: ∃c,c=Seg.rl seg L g (thr (Seg.rl seg L g) (n+s) 0):=⟨_,rfl⟩;rw[←hc]at Ai;clear hE LS Aa t1 t2 t3 A0;go_wp2_with fail;refine HM.mono ?_;rintro e w5 ⟨vm,r,rfl,A2,hr,hO,b5⟩;obtain⟨Ag,A9⟩:=hr trivial;rw[c9Q]at A9 hO;have mx:Mx w5 vm (n+s) c (Gf.mm n (Gf.bH n) (Gf.mm n r (fun p=>Seg.rf g (thr (Seg.rl seg L g) (n+s) p)))):=by
    rw[hc];rcases hO with⟨_,q⟩|⟨q,_⟩
    ·exact q
    ·rcases q with q|q
     ·exact absurd rfl q
     ·exact absurd q Aw
   have Ad:=mx.bd;obtain⟨d1,d2,d3,d4⟩:=mx.dim;obtain⟨b,o,p,G,O,K,rfl,hm⟩:=mx.lies;have B5:n+s≤p:=by
    obtain⟨A',n',p',e1,e2⟩:=A2;cases e1
    exact e2
   have Ap:=b0I b o n p c G O K _ w5 ⟨fun r hr=>hm.top r (by omega),fun r hr=>hm.row r (by omega)⟩ Ad h1 (by omega) d3 d4;have q1:n≤p:=by omega
   have q2:(n:Int)≤(p:Int):=by omega
   have Ac:=cB8 b5 A6;have Ak:=hd8 fun W hW=>Al.out W (bt b5 hW);have Ao:Hid (Gf.Bd2 r∧Gf.Und n (fun p=>Gf.bH n (thr (Seg.rl seg L g) (n+s) p)) r):=⟨Ag,A9⟩;have b5:=bt b4 b5;have Af:=hd8 (d0Y h2 d4);have As:=hd8 hc;clear HM A6 A2 hm mx Ag A9 hc hO Al;go_wp2_with fail;refine Ap.mono ?_;rintro e w6 ⟨v6,rfl,M6,b6⟩;have B7:=cB8 b6 Ac;obtain⟨bz,oz,rfl,cz⟩:=Ak.out w6 b6 0 An;rw[d0X]at cz;have b6:=bt b5 b6;have YF:=M6.byts (fun j=>Ad _ _);obtain⟨g6,c6,rfl,B3,B2,Ax,R6⟩:=M6;have Af:=Af.out;have A1:=Ai.out (n*c<l.getD 0 0) (by rw[HF.out]);rw[HF.out]at cz A1;have B4:=hd8 HF.out;have Ah:Hid (∀z,z=Seg.rz g (thr (Seg.rl seg L g) (n+s) 0)→z≤n*c→cR seg n (n+s) L g=0→a8O w6 (cR seg n (n+s) L g) (.slice (some (aD g6 0)) z c6) n (n+s) (Seg.rl seg L g) (Seg.rf g) (Seg.rz g (thr (Seg.rl seg L g) (n+s) 0))):=fun z hz Ae he=>by
    refine Or.inl ⟨he,r,Ao.out.1,Ao.out.2,?_⟩;rw[←hz,←As.out];exact b5V YF Ae
   have B0:c6≤9223372036854775807:=Ax;have At:(0:Int)<(l.length:Int):=by omega
   clear Ap Ac R6 YF Ak;generalize hzz:Seg.rz g (thr (Seg.rl seg L g) (n+s) 0)=z at*;generalize n*c=m at*;by_cases Aj:m<z
   ·have A8:(m:Int)<(z:Int):=by omega
    have A3:=hd8 (A1.1 Aj);clear A1;go_wp2_with fail;go_ret2
    exact⟨_,by rw[A3.out];rfl,Or.inr ⟨by rw[A3.out];decide,rfl⟩,b6⟩
   ·have A8: ¬(m:Int)<(z:Int):=by omega
    have A3:=hd8 (A1.2 Aj);have Am:=Ah.out z rfl (by omega) A3.out;have Av:=hd8 Am;have Ae:z≤c6:=by omega
    have B1:(z:Int)≤(c6:Int):=by omega
    clear A1 Am Ah;go_wp2_with fail;go_ret2
    exact⟨_,by rw[A3.out];rfl,by rw[hzz];exact Av.out,b6⟩
theorem c2D(A:Option Addr)(N cap:Nat)(seg d:Int)(w:World)(hN:N≤maxLen)(h:bP d ((N:Int)-d)≠0):
  Calls prog 82 #[.slice A N cap,iV seg,iV d] w fun e w'=>e=.returned (.tuple #[nS,iV 5])∧Bl w w':=by
 unfold maxLen at hN;have H:Hid (∀w,Calls prog 12 #[iV d,iV (wrap64 ((N:Int)-d))] w fun e w'=>e=.returned (iV 5)∧Bl w w'):=fun w=>by
  have:=d9 d (wrap64 ((N:Int)-d)) w
  rw[cC (by
   unfold bP at h;split at h
   ·rename_i hb;unfold wrap64;omega
   ·exact absurd rfl h)]at this
  exact this
 clear h hN;go_enter func82,ntmps82
 go_wp2_with fail;refine(H.out _).mono ?_;rintro e w1 ⟨rfl,b1⟩;go_wp2_with fail;go_ret2
 exact⟨rfl,b1⟩
theorem b9L(v:Value)(N:Nat)(L:Nat→Nat)(g:Nat→Nat→Nat)(seg d:Int)(w:World)(h:Lls w v N L g):
  Calls prog 82 #[v,iV seg,iV d] w fun e w'=> ∃v',e=.returned (.tuple #[v',iV (cR seg d N L g:Nat)])∧a8O w' (cR seg d N L g) v' d.toNat N (Seg.rl seg L g) (Seg.rf g) (Seg.rz g (thr (Seg.rl seg L g) N 0))∧Bl w w':=by
 have hN:=h.len;obtain⟨A,C,rfl⟩:=h.shape;by_cases hw:bP d ((N:Int)-d)=0
 ·have hb: ¬(d<1∨8<d∨(N:Int)-d<0∨4<(N:Int)-d):=fun q=>by rw[cC q]at hw;cases hw
  obtain⟨n,rfl⟩:=d0I (show 0≤d by omega);obtain⟨s,rfl⟩: ∃s,N=n+s:=⟨N-n,by omega⟩;exact c4M A C n s L g seg w h (by omega) (by omega) (by omega)
 ·have hE:cR seg d N L g=5:=if_pos hw;refine(c2D A N C seg d w (by unfold maxLen;omega) hw).mono ?_;rintro e w' ⟨rfl,hb⟩;exact⟨_,by rw[hE];rfl,Or.inr ⟨by rw[hE];decide,rfl⟩,hb⟩
end Go.Proofs.YtmcaejooaaahdaaGreat
