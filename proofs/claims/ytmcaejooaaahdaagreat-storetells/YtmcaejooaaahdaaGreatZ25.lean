import Derived.Test.YtmcaejooaaahdaaGreatZ24
set_option maxHeartbeats 8000000
set_option maxRecDepth 100000
namespace Go.Proofs.YtmcaejooaaahdaaGreat
open Go.Proofs.Tryz
variable {G K:Nat→Nat} {M M' N c g k m n p sz:Nat} {W w w':World} {bs:List Nat} {e:TypeId} {f:Nat→Nat→Nat} {us ys:List Value} {v v':Value}
open Go.RowKit
structure RG(W w:World)(e:TypeId)(sz:Nat)(v:Value)(n:Nat)(us:List Value):Prop where
 bel:Bl W w
 own:w.ownsRow W.heap.size e sz v n us
theorem RG.below(h:RG W w e sz v n us)(hb:Bl w w'):RG W w' e sz v n us:=⟨bt h.bel hb,aK h.own hb⟩
section
variable {t e : TypeId} {sz bytes : Nat} {z : Value} (ht : prog.underlying t = some (.slice e)) (hin : (prog.info? e).map (fun i => (i.zero, i.size, i.bytes)) = some (some z, sz, bytes)) (hzs : z.cells.size = sz) (hsz : 0 < sz) (hby : bytes ≤ 1000)
include ht hin hzs hsz hby
theorem RG.app(h:RG W w e sz v n us)(A:Option Addr)(m c:Nat)(hA:A=none→m=0)(news:List Value)(hl:news.length=m*sz)(hc: ∀a,A=some a→ ∀j u,news[j]?=some u→w.cell? (a.add j)=some u)(h1: ∀u,u∈news→u.oneCell'=true)(hnm:n+m≤100000):
  ∃v' w',(Builtin.append_ #[t,t] t #[v,.slice A m c]).run prog w=.ok v' w'∧RG W w' e sz v' (n+m) (us++news)∧ ∀B t' cs,aW w B t' cs→v.ownBlock≠some B→aW w' B t' cs:=by
 obtain⟨v',w',hr,h2,h3,_⟩:=wV t ht hin hzs hsz hby h.own A m c hA news hl hc h1 hnm h.bel.size;exact⟨v',w',hr,⟨h.bel.trans (lB h3 (fun g hg=>(h.own.lt g hg).1) h.bel.size),h2⟩,fun B t' cs hV hn=>hV.off (cJ h3) hn⟩
theorem yX(W:World)(A:Option Addr)(m c:Nat)(hA:A=none→m=0)(news:List Value)(hl:news.length=m*sz)(hc: ∀a,A=some a→ ∀j u,news[j]?=some u→W.cell? (a.add j)=some u)(h1: ∀u,u∈news→u.oneCell'=true)(hm:m≤1000)(lit:Array Value)(hlit:lit.size=sz)(h1l: ∀u,u∈lit.toList→u.oneCell'=true):
  (∃A6 n6 C6 w6 A7 n7 C7 w7,(Builtin.append_ #[t,t] t #[.slice (some (aD W.heap.size 0)) 0 0,.slice A m c]).run prog (W.alloc (.cells #[] e)).drew=.ok (.slice A6 n6 C6) w6∧Bl W w6∧(Builtin.append_ #[t,t] t #[.slice A6 n6 C6,.slice (some (aD w6.heap.size 0)) 1 1]).run prog (w6.alloc (.cells lit e))=.ok (.slice A7 n7 C7) w7∧RG W w7 e sz (.slice A7 n7 C7) (m+1) (news++lit.toList))∧
  (∃A6 n6 C6 w6 A7 n7 C7 w7,(Builtin.append_ #[t,t] t #[.slice (some (aD W.heap.size 0)) 0 0,.slice A m c]).run prog ((W.alloc (.cells #[] e)).alloc (.cells lit e)).drew=.ok (.slice A6 n6 C6) w6∧Bl W w6∧(Builtin.append_ #[t,t] t #[.slice A6 n6 C6,.slice (some (aD (W.heap.size+1) 0)) 1 1]).run prog w6=.ok (.slice A7 n7 C7) w7∧RG W w7 e sz (.slice A7 n7 C7) (m+1) (news++lit.toList))∧
  (∃A6 n6 C6 w6 A7 n7 C7 w7,(Builtin.append_ #[t,t] t #[.slice (some (aD (W.heap.size+1) 0)) 0 0,.slice A m c]).run prog ((W.alloc (.cells lit e)).alloc (.cells #[] e)).drew=.ok (.slice A6 n6 C6) w6∧Bl W w6∧(Builtin.append_ #[t,t] t #[.slice A6 n6 C6,.slice (some (aD W.heap.size 0)) 1 1]).run prog w6=.ok (.slice A7 n7 C7) w7∧RG W w7 e sz (.slice A7 n7 C7) (m+1) (news++lit.toList)):=by
 have bR:=fun w'=>(Below.refl _ _).drew;have bA:=fun w' o=>(Below.refl _ _).alloc (c9C _) o;have A3:=fun o=>d2K _;have A2: ∀w',Bl W w'→ ∀a,A=some a→ ∀j u,news[j]?=some u→w'.cell? (a.add j)=some u:=fun w' hb a ha j u hj=>(hb.cell (p:=a.add j) (World.block_lt_of_cell? _ _ (hc a ha j u hj))).trans (hc a ha j u hj);have hE: ∀w',Bl W w'→RG W (w'.alloc (.cells #[] e)) e sz (.slice (some (aD w'.heap.size 0)) 0 0) 0 []:=fun w' hb=>⟨hb.alloc hb.size _,World.ownsRow_made w' #[] 0 hb.size (by unfold maxLen;omega) (by simp)⟩;have A1: ∀(w':World) (B:Nat),aW w' B e lit.toList→ ∀a,some (⟨B,0,none⟩:Addr)=some a→ ∀j u,lit.toList[j]?=some u→w'.cell? (a.add j)=some u:=fun w' B hV a ha j u hj=>by
  cases ha
  rw[WideShapes.add_plain,c9G];exact hV.cell hj
 have A0:lit.toList.length=1*sz:=by rw[d1B,hlit,Nat.one_mul]
 refine⟨?_,?_,?_⟩
 ·have R0:=(hE W (Below.refl _ _)).below (bR _);obtain⟨v6,w6,r6,R6,_⟩:=R0.app ht hin hzs hsz hby A m c hA news hl (A2 _ R0.bel) h1 (by omega);have A4:=R6.below (bA w6 (.cells lit e));obtain⟨v7,w7,r7,R7,_⟩:=A4.app ht hin hzs hsz hby (some (aD w6.heap.size 0)) 1 1 (fun e=>by cases e) lit.toList A0 (A1 _ _ (aC w6 lit e)) h1l (by omega);rw[c9G,d1C]at R7;obtain⟨A6,C6,e6,_⟩:=bI R6.own;obtain⟨A7,C7,e7,_⟩:=bI R7.own;subst e6 e7;exact⟨A6,_,C6,w6,A7,_,C7,w7,r6,R6.bel,r7,R7⟩
 ·have R0:=((hE W (Below.refl _ _)).below (bA _ (.cells lit e))).below (bR _);have V0:=(aC (W.alloc (.cells #[] e)) lit e).below (bR _);rw[A3]at V0;obtain⟨v6,w6,r6,R6,K6⟩:=R0.app ht hin hzs hsz hby A m c hA news hl (A2 _ R0.bel) h1 (by omega)
  have V6:=K6 _ _ _ V0 (fun q=>by
   have q:some W.heap.size=some (W.heap.size+1):=q;have:=Option.some.inj q
   omega)
  obtain⟨v7,w7,r7,R7,_⟩:=R6.app ht hin hzs hsz hby (some (aD (W.heap.size+1) 0)) 1 1 (fun e=>by cases e) lit.toList A0 (A1 _ _ V6) h1l (by omega);rw[c9G,d1C]at R7;obtain⟨A6,C6,e6,_⟩:=bI R6.own;obtain⟨A7,C7,e7,_⟩:=bI R7.own;subst e6 e7;exact⟨A6,_,C6,w6,A7,_,C7,w7,r6,R6.bel,r7,R7⟩
 ·have A5:=bA W (.cells lit e);have R0:=(hE _ A5).below (bR _);have V0:=((aC W lit e).below (bA _ (.cells #[] e))).below (bR _);rw[A3]at R0;obtain⟨v6,w6,r6,R6,K6⟩:=R0.app ht hin hzs hsz hby A m c hA news hl (A2 _ R0.bel) h1 (by omega)
  have V6:=K6 _ _ _ V0 (fun q=>by
   have q:some (W.heap.size+1)=some W.heap.size:=q;have:=Option.some.inj q
   omega)
  obtain⟨v7,w7,r7,R7,_⟩:=R6.app ht hin hzs hsz hby (some (aD W.heap.size 0)) 1 1 (fun e=>by cases e) lit.toList A0 (A1 _ _ V6) h1l (by omega);rw[c9G,d1C]at R7;obtain⟨A6,C6,e6,_⟩:=bI R6.own;obtain⟨A7,C7,e7,_⟩:=bI R7.own;subst e6 e7;exact⟨A6,_,C6,w6,A7,_,C7,w7,r6,R6.bel,r7,R7⟩
end
def b8X(w:World)(M:Nat)(v:Value)(n m:Nat)(F:Nat→Nat→Nat):Prop:= ∃N G K,M≤N∧Acc w N v n m G K F∧Gf.Bd2 F∧ ∀i,i<n→m≤K i∧K i≤maxLen
theorem b6Q{S:Nat→Bool}(h:Acc w N v k c G K f)(hS: ∀k,S k=true→k<N):Acc (aS S w) N v k c G K f:=by
 have hf: ∀g,N≤g→S g=false:=fun g hg=>by
  cases q:S g with
  |false=>rfl
  |true=>
   have:=hS g q;omega
 refine⟨?_,fun i hi=>⟨(h.row i hi).1,(h.row i hi).2.of_block (lK (hf _ (h.row i hi).1))⟩⟩;obtain⟨hl,ho⟩:=h.own;refine⟨hl,ho.imp id ?_⟩;rintro⟨g,A1,A0,hv,hN,hg,hr⟩;exact⟨g,A1,A0,hv,hN,(lK (hf g hN)).trans hg,hr⟩
theorem b8X.lls{F:Nat→Nat→Nat}(h:b8X w M v n m F):Lls w v n (fun _=>m) F∧ ∀S:Nat→Bool,(∀k,S k=true→k<M)→Lls (aS S w) v n (fun _=>m) F:=by
 obtain⟨N,G,K,h1,h2,h3,h4⟩:=h;exact⟨h2.lls h3 h4,fun S hS=>(b6Q h2 (fun k hk=>c9P (hS k hk) h1)).lls h3 h4⟩
def BlM(w:World)(M:Nat)(v:Value)(L:List (List Nat)):Prop:=BlL w v L∧ ∀S:Nat→Bool,(∀k,S k=true→k<M)→BlL (aS S w) v L
theorem BlM.lower{L:List (List Nat)}(h:BlM w M v L)(hm:M'≤M):BlM w M' v L:=⟨h.1,fun S hS=>h.2 S fun k hk=>c9P (hS k hk) hm⟩
def BlP(e:Ending)(w:World)(M:Nat)(x:Nat×List (List Nat)):Prop:= ∃v,e=.returned (.tuple #[v,iV x.1])∧((x.1=0∧BlM w M v x.2)∨(x.1≠0∧v=nS))
theorem c3S(v:Value)(L:Nat)(r:Nat→Nat)(seg d s:Nat)(w:World)(h:cF w v L r)(h1:1≤d)(h2:d≤8)(h3:s≤4)(h4:seg≤39)(h5:L≤400*d):
  Calls prog 62 #[v,iV seg,iV d,iV s] w fun e w'=> ∃v',e=.returned (.tuple #[v',iV 0])∧b8X w' w.heap.size v' (d+s) (Seg.dF L d+11) (Seg.blk r L seg d)∧Bl w w':=by
 have Al:=Seg.pK L d h1;have Ao:=Seg.nA h1 h5;have HW:=fun w'=>dY (d:Int) (s:Int) w';rw[cN (by omega)]at HW;have Bc: ¬400*(d:Int)<(L:Int):=by omega
 have Bi:(seg:Int)≤39:=by omega
 have Be:=hd8 fun w' hb=>h.below hb;have Ap:Hid (L≤Seg.dF L d*d):=Seg.uC L d h1;have Ae:=hd8 fun n q1 q2=>Seg.qX h1 q1 q2;have Az:Hid (Gf.Bd2 (Seg.eT r L (Seg.dF L d))):=Seg.wU h.bd L _;obtain⟨A,C,rfl⟩:=h.shape;have B6:Hid (∀w',Bl w w'→ ∀k,k<L→ ∃b o,A=some (aD b o)∧w'.cell? (aD b (o+k))=some (.int .u8 (r k:Nat))):=fun w' hb k hk=>by
  obtain⟨_,A',C',hv,_,_,hc⟩:=h.below hb;cases hv
  exact hc k hk
 obtain⟨i0,An,hh⟩:=c9J.1 Tryz.infoRow;simp only[Prod.mk.injEq]at hh;obtain⟨Ag,Ai,Ak⟩:=hh;clear h;go_enter func62,ntmps62
 go_wp2_with fail;refine(HW _).mono ?_;rintro e w1 ⟨rfl,b1⟩;clear HW;go_wp2_with fail;go_loop [11] (fun x=> ∃n:Nat,1≤n∧n≤Seg.dF L d∧x=iV n) (fun x=>Seg.dF L d-(intOf x).toNat)
 case atStart=>exact⟨1,c9C _,Al,rfl⟩
 case round=>
  obtain⟨n,q1,q2,rfl⟩:=hrel;have A2:n*d≤400*8:=d0Y (by omega) h2;have A0:(n:Int)*(d:Int)=((n*d:Nat):Int):=by rw[Int.natCast_mul]
  have hw:IntKind.i64.wrap ((n:Int)*(d:Int))=(n:Int)*(d:Int):=by rw[A0,IntKind.wrap_i64];omega
  have B0: -9223372036854775808≤(n:Int)*(d:Int):=by rw[A0];omega
  have B3:(n:Int)*(d:Int)≤9223372036854775807:=by rw[A0];omega
  by_cases Aj:n*d<L
  ·have A5:(n:Int)*(d:Int)<(L:Int):=by rw[A0];omega
   have B5:Hid (n<Seg.dF L d):=by
    show n<_;refine Nat.lt_of_not_le (fun q=>?_);have:=Ap.out;have h9:=d1J d q;omega
   clear A0 Aj A2;go_wp2_with fail;have:=B5.out;exact⟨⟨n+1,by omega,by omega,by go_num⟩,by simp[intOf];omega⟩
  ·have A5: ¬(n:Int)*(d:Int)<(L:Int):=by rw[A0];omega
   obtain rfl:n=Seg.dF L d:=Nat.le_antisymm q2 (Ae.out n q1 (by omega));generalize hnn:Seg.dF L d=n at*;clear A0 Aj A2 q1 q2 Ap Ae;go_wp2_with fail;clear hw B0 B3 A5;go_loopw [12,13] (fun y x wr=> ∃i:Nat,i≤d∧x=iV i∧(∃G K,Acc wr w1.heap.size y i n G K (Seg.eT r L n)∧Hid (∀j,j<i→K j=n))∧Bl w1 wr) (fun _ x _=>d-(intOf x).toNat)
   case atStart=>exact⟨0,c9D _,rfl,⟨fun _=>0,fun _=>0,Acc.start w1 _ n _ _ _,fun j hj=>absurd hj (c9L j)⟩,Below.refl _ _⟩
   case round=>
    obtain⟨i,B8,rfl,⟨G2,K2,hA,HK⟩,A6⟩:=hrel;obtain⟨wo,rfl⟩: ∃x,x=wr:=⟨wr,rfl⟩;by_cases hi:i<d
    ·have Bh:(i:Int)<(d:Int):=by omega
     have A2:i*n≤8*400:=d0Y (by omega) Ao;have A0:(i:Int)*(n:Int)=((i*n:Nat):Int):=by rw[Int.natCast_mul]
     have hw:IntKind.i64.wrap ((i:Int)*(n:Int))=(i:Int)*(n:Int):=by rw[A0,IntKind.wrap_i64];omega
     have B4:=run_make_row' (P:=prog) 59 5 (.int .u8 0) 1 underlying59 Tryz.infoByte rfl .i64 .i64 n (by omega) (by omega);have Bb:=hd8 A0;obtain⟨q,hq⟩: ∃q,i*n=q:=⟨_,rfl⟩;rw[hq]at A0 A2;have HQ:=hd8 hq;have At:=hd8 A0;clear A0 hq;go_wp2_with fail;clear B4;go_loopw [57] (fun x wm=> ∃k:Nat,k≤n∧x=iV k∧wm.rowIs wo.heap.size 5 n (fun y=> .int .u8 (dV k (Seg.eT r L n i) (fun _=>0) y:Nat))∧Bl wo wm) (fun x _=>n-(intOf x).toNat)
     case atStart=>exact⟨0,c9D _,rfl,(World.rowIs_made wo (.int .u8 0) n 5).congr (fun j _=>by rw[show dV 0 (Seg.eT r L n i) (fun _=>0) j=0 from if_neg (c9L _)];rfl),aB8 _ _⟩
     case round=>
      obtain⟨k,Bf,rfl,hR,A4⟩:=hrel;by_cases hk:k<n
      ·have Bg:(k:Int)<(n:Int):=by omega
       have Ba:=At.out;have z1:=hR.frozen k;have u1:=hR.cell hk;rw[b3I]at u1;by_cases Ac:q+k<L
       ·have Ad:(q:Int)+(k:Int)<(L:Int):=by omega
        have HD:Hid (Seg.eT r L n i k=r (q+k)):=by
         show Seg.eT r L n i k=r (q+k);rw[Seg.b4F hk (by rw[HQ.out];exact Ac),HQ.out]
        obtain⟨bb,ob,rfl,t1⟩:=B6.out wr (bt (bt b1 A6) A4) (q+k) Ac;have HP:=hd8 ((hR.set k _).congr (fun y _=>a8N HD.out y));have Ah:=A4.setCell (p:=⟨wo.heap.size,k,none⟩) (c9C _) (.int .u8 ((r (q+k):Nat):Int));generalize r (q+k)=x at t1 HP Ah;clear hR;go_wp2_with fail;exact⟨⟨k+1,by omega,by go_num,HP.out,Ah⟩,by simp[intOf];omega⟩
       ·have Ad: ¬(q:Int)+(k:Int)<(L:Int):=by omega
        have HP:Hid (wr.rowIs wo.heap.size 5 n (fun y=> .int .u8 (dV (k+1) (Seg.eT r L n i) (fun _=>0) y:Nat))):=hR.congr (fun y _=>a2Z (Seg.a7Y (by rw[HQ.out];exact Ac)) y);clear hR;go_wp2_with fail;exact⟨⟨k+1,by omega,by go_num,HP.out,A4⟩,by simp[intOf];omega⟩
      ·obtain rfl:k=n:=by omega
       have hF:aY wr wo.heap.size 5 k (fun y=> .int .u8 (Seg.eT r L k i y:Nat)):=iE (hR.congr (fun y hy=>by rw[show dV k (Seg.eT r L k i) (fun _=>0) y=Seg.eT r L k i y from if_pos hy]));have A3:=(Below.refl wr.heap.size wr).alloc (c9C _) (.cells #[.slice (some (aD wo.heap.size 0)) k k] 59);have AX:=(hA.below A4).below A3;have rX:=hF.alloc (.cells #[.slice (some (aD wo.heap.size 0)) k k] 59);have bX:=bt (bt A6 A4) A3;clear hR hF hA;go_wp2_with (at_builtin;refine wpList_append_own _ rfl (.tmp 80) (.tmp 82) 86 rfl w1.heap.size 59 i0 nS 1 24 underlying86 An Ag Ai Ak rfl (by decide) _ _ _ rfl AX.own (aD wr.heap.size 0) 1 1 [.slice (some (aD wo.heap.size 0)) k k] rfl rfl cZ (by intro u hu;simp at hu;subst hu;rfl) (by unfold maxLen;omega) (by omega) bX.size ?_;intro v4 w4 hown1 hgrow1 _);have A1:=AX.step ⟨A6.size,rX⟩ hown1 hgrow1;have b4:Bl w1 w4:=bX.grown hgrow1 bX.size (fun x hx=>(AX.own.lt x hx).1);clear hown1 hgrow1 AX rX bX A3 A4;go_wp2_with fail
       exact⟨⟨i+1,by omega,by go_num,⟨_,_,A1,fun j hj=>by
        unfold lO;by_cases e:j=i
        ·rw[if_pos e]
        ·rw[if_neg e];exact HK.out j (by omega)⟩,b4⟩,by simp[intOf];omega⟩
    ·obtain rfl:i=d:=by omega
     have HS:=qM w1.heap.size u12 i s n G2 K2 (Seg.eT r L n) wo hA HK.out Az.out h1 h2 h3 Al Ao A6.size;have Av:Hid (Gf.mm i (Gf.bH i) (Seg.eT r L n)=Seg.lA r L i):=by
      show _=Seg.lA r L i;unfold Seg.lA;rw[hnn]
     clear hA;go_wp2_with fail;refine HS.mono ?_;rintro e w2 ⟨vm,v9,w5,rfl,r9,L9,b5⟩;rw[Av.out]at L9;have b5:=A6.trans b5;obtain⟨A9,C9,rfl⟩:=L9.shape;have Am:=bt b1 b5;have B9:i+s≤12:=by omega
     clear HS;go_wp2_with (at_builtin;refine Lib.wpList_append_run _ rfl (.tmp 90) (.tmp 91) 86 86 rfl _ _ rfl rfl _ _ r9 ?_);clear r9;have B2:=hd8 fun w' hb j hj=>(L9.below hb).at hj;have Ay:Hid (∀j,j<i+s→Crc.aA seg j L n=0):=fun j hj=>Crc.kC (by omega) (by omega);have As:Hid (∀j,j<i+s→a3M (seg:Int) (j:Int) (L:Int) n (Seg.lA r L i j)=Seg.blk r L seg i j):=fun j hj=>by
      unfold a3M;rw[Seg.a4C (by omega),hnn];rfl
     clear L9;go_loopw [18,94] (fun y x wr=> ∃j:Nat,j≤i+s∧x=iV j∧(∃G K,Acc wr w5.heap.size y j (n+11) G K (Seg.blk r L seg i)∧Hid (∀t,t<j→n+11≤K t∧K t≤maxLen))∧Bl w5 wr) (fun _ x _=>i+s-(intOf x).toNat)
     case atStart=>exact⟨0,c9D _,rfl,⟨fun _=>0,fun _=>0,Acc.start w5 _ (n+11) _ _ _,fun j hj=>absurd hj (c9L j)⟩,Below.refl _ _⟩
     case round=>
      obtain⟨j,hj,rfl,⟨G3,K3,A8,Af⟩,A7⟩:=hrel;by_cases Ab:j<i+s
      ·have B7:(j:Int)<(i:Int)+(s:Int):=by omega
       have B1:(j:Int)<((i+s:Nat):Int):=by omega
       obtain⟨b9,o9,R9,K9,rfl,t9,y9⟩:=B2.out wr A7 j Ab;have Aa:=sP (.agg #[iV seg,iV j,iV L,.slice R9 n K9]) seg j L n (Seg.lA r L i j) wr ⟨_,rfl,y9⟩;rw[Ay.out j Ab,As.out j Ab]at Aa;clear y9;go_wp2_with fail;refine Aa.mono ?_;rintro e w6 ⟨v6,rfl,O6,b6⟩;have Au:kK w6 wr.heap.size v6 (n+11) (Seg.blk r L seg i j):=by
        rcases O6 with⟨_,q⟩|⟨q,_⟩
        ·exact q
        ·exact absurd rfl q
       obtain⟨g6,c6,rfl,Aw,Aq,Ax,R6⟩:=Au;have A3:=(Below.refl w6.heap.size w6).alloc (c9C _) (.cells #[.slice (some (aD g6 0)) (n+11) c6] 59);have AX:=(A8.below b6).below A3;have rX:=R6.alloc (.cells #[.slice (some (aD g6 0)) (n+11) c6] 59);have bX:=bt (bt A7 b6) A3;have Ar:=hd8 (c9E A7.size Aw);clear Aa O6 A8 R6;go_wp2_with (at_builtin;refine wpList_append_own _ rfl (.tmp 109) (.tmp 111) 86 rfl w5.heap.size 59 i0 nS 1 24 underlying86 An Ag Ai Ak rfl (by decide) _ _ _ rfl AX.own (aD w6.heap.size 0) 1 1 [.slice (some (aD g6 0)) (n+11) c6] rfl rfl cZ (by intro u hu;simp at hu;subst hu;rfl) (by unfold maxLen;omega) (by omega) bX.size ?_;intro v7 w7 hown1 hgrow1 _);have A1:=AX.step ⟨Ar.out,rX⟩ hown1 hgrow1;have b7:Bl w5 w7:=bX.grown hgrow1 bX.size (fun x hx=>(AX.own.lt x hx).1);clear hown1 hgrow1 AX rX bX A3
       exact⟨⟨j+1,by omega,by go_num,⟨_,_,A1,fun t ht=>by
        unfold lO;by_cases e:t=j
        ·rw[if_pos e];exact⟨Aq,Ax⟩
        ·rw[if_neg e];exact Af.out t (by omega)⟩,b7⟩,by simp[intOf];omega⟩
      ·obtain rfl:j=i+s:=by omega
       have HR:Hid (b8X wr w.heap.size u18 (i+s) (Seg.dF L i+11) (Seg.blk r L seg i)):=by
        show b8X wr w.heap.size u18 (i+s) (Seg.dF L i+11) (Seg.blk r L seg i);rw[hnn];exact⟨w5.heap.size,_,_,Am.size,A8,Seg.b0X h1 h5 h4 h2,Af.out⟩
       have bz:=bt Am A7;clear A8;go_wp2_with fail;go_ret2
       exact⟨_,rfl,HR.out,bz⟩
section
variable {X : Sto.Six}
theorem a8T(hX:Sto.dE X)(v:Value)(r:List Nat)(seg:Nat)(c:Sto.Cfg)(w:World)(h:cW w v r):
  Calls prog 62 #[v,iV seg,iV c.d,iV c.s] w fun e w'=>BlP e w' w.heap.size (X.lay r seg c)∧Bl w w':=by
 by_cases hE:Seg.gU r.length seg c.d c.s=0
 ·obtain⟨h1,h2,h3,h4,h5⟩:=Sto.xG hE;refine(c3S v r.length (fun j=>r.getD j 0) seg c.d c.s w h.byts h1 h2 h3 h4 h5).mono ?_;rintro e w' ⟨v',rfl,hl,hb⟩;have hx:X.lay r seg c=(0,(List.range (c.d+c.s)).map fun i=>bl (Seg.blk (fun j=>r.getD j 0) r.length seg c.d i) (Seg.dF r.length c.d+11)):=by
   rw[hX.lay];unfold Sto.lZ;rw[if_pos hE]
  rw[hx];exact⟨⟨v',rfl,Or.inl ⟨rfl,hl.lls.1.blL,fun S hS=>(hl.lls.2 S hS).blL⟩⟩,hb⟩
 ·refine(b9S hX v r seg c w h).mono ?_;rintro e w' ⟨⟨v',rfl,hO⟩,hb⟩;refine⟨⟨v',rfl,Or.inr ?_⟩,hb⟩;rcases hO with⟨q,_⟩|q
  ·rw[hX.lay]at q;unfold Sto.lZ at q;rw[if_neg hE]at q;exact absurd q hE
  ·exact q
theorem b5E(hX:Sto.dE X)(v:Value)(bs:List (List Nat))(seg:Nat)(c:Sto.Cfg)(w:World)(h:BlL w v bs)(hl:bs.length=c.d+c.s)(h8:c.d≤8)(h4:c.s≤4):
  Calls prog 39 #[v,iV seg,iV c.d] w fun e w'=>BlP e w' w.heap.size (X.mend bs seg c)∧Bl w w':=by
 have HR:=a2K hX v bs seg c w h;obtain⟨A,C,rfl⟩:=h.shape;have HM:=hX.mend bs seg c;by_cases hE:(X.read bs seg c).1=0
 case neg=>
  rw[if_pos hE]at HM;generalize (X.read bs seg c).1=x at HR HM hE;have HP:Hid (∀w',BlP (.returned (.tuple #[nS,iV x])) w' w.heap.size (X.mend bs seg c)):=fun w'=>by
   show BlP _ _ _ _;rw[HM];exact⟨_,rfl,Or.inr ⟨hE,rfl⟩⟩
  have A2:((x:Int)==0)=false:=by rw[beq_eq_false_iff_ne];omega
  have A3:((x:Int) !=0)=true:=by rw[bne,A2];rfl
  clear hE h HM hl h8 h4;go_enter func39,ntmps39
  go_wp2_with fail;refine HR.mono ?_;rintro e w1 ⟨v1,rfl,_,b1⟩;clear HR;go_wp2_with fail;go_ret2
  exact⟨HP.out _,b1⟩
 case pos=>
  rw[if_neg (fun q=>q hE)]at HM;rw[hE]at HR;have A0:Hid (∀v1 w1,cW w1 v1 (X.read bs seg c).2→Calls prog 62 #[v1,iV seg,iV c.d,iV (((bs.length:Nat):Int)-(c.d:Int))] w1 fun e w'=>BlP e w' w1.heap.size (X.mend bs seg c)∧Bl w1 w'):=fun v1 w1 q=>by
   have:=a8T hX v1 (X.read bs seg c).2 seg c w1 q;rw[hX.lay,←HM]at this;rw[show((bs.length:Nat):Int)-(c.d:Int)=(c.s:Int) by omega];exact this
  obtain⟨N,hN⟩: ∃N,N=bs.length:=⟨_,rfl⟩;rw[←hN]at HR A0;rw[←hN];have A4:N≤12:=by omega
  have A5:c.d≤N:=by omega
  clear HM hE h hl hN;go_enter func39,ntmps39
  go_wp2_with fail;refine HR.mono ?_;rintro e w1 ⟨v1,rfl,hy,b1⟩;have HL:=A0.out v1 w1 hy;obtain⟨A1,C1,rfl⟩:=hy.byts.shape;clear HR A0 hy;go_wp2_with fail;refine HL.mono ?_;rintro e w2 ⟨⟨v2,rfl,hO⟩,b2⟩;have HP:Hid (BlP (.returned (.tuple #[v2,iV ((X.mend bs seg c).1:Nat)])) w2 w.heap.size (X.mend bs seg c)):=⟨v2,rfl,hO.imp (fun z=>⟨z.1,z.2.lower b1.size⟩) id⟩;have b2:=bt b1 b2;clear HL hO;go_wp2_with fail;go_ret2
  exact⟨HP.out,b2⟩
end
structure RA(W w:World)(N:Nat)(v:Value)(bs:List Nat):Prop where
 off:dJ N W w
 buf:cT w N v bs
 hN:N≤w.heap.size
theorem RA.below(h:RA W w N v bs)(hb:Bl w w'):RA W w' N v bs:=⟨h.off.trans (dJ.of_below hb),h.buf.below hb,c9E h.hN hb.size⟩
theorem RA.alloc(h:RA W w N v bs)(o:Obj):RA W (w.alloc o) N v bs:=h.below ((Below.refl _ _).alloc (c9C _) o)
theorem RA.drew(h:RA W w N v bs):RA W w.drew N v bs:=h.below ((Below.refl _ _).drew)
structure Tmp(w:World)(v:Value)(g:Nat)(xs:List Nat):Prop where
 row:w.rowIs g 5 xs.length (fun j=> .int .u8 ((xs.getD j 0:Nat):Int))
 ne:v.ownBlock≠some g
 le:xs.length≤3
theorem Tmp.below{xs:List Nat}(h:Tmp w v g xs)(hb:Bl w w'):Tmp w' v g xs:=⟨h.row.of_block (hb.block g h.row.lt),h.ne,h.le⟩
theorem Tmp.alloc{xs:List Nat}(h:Tmp w v g xs)(o:Obj):Tmp (w.alloc o) v g xs:=h.below ((Below.refl _ _).alloc (c9C _) o)
theorem Tmp.cells{xs:List Nat}(h:Tmp w v g xs): ∀j u,(clB xs)[j]?=some u→w.cell? ((⟨g,0,none⟩:Addr).add j)=some u:=fun j u hj=>by
 have hj':j<xs.length:=by
  have:=(c9H.1 hj).1;simpa [clB]using this
 rw[WideShapes.add_plain,c9G,h.row.cell hj'];simp[clB,hj']at hj;rw[←hj];simp[List.getD,hj']
theorem c1E(w:World)(xs:List Nat):(w.alloc (.cells (clB xs).toArray 5)).rowIs w.heap.size 5 xs.length (fun j=> .int .u8 ((xs.getD j 0:Nat):Int)):=by
 have hs:(clB xs).toArray.size=xs.length:=by simp[clB]
 have:=World.rowIs_alloc w (clB xs).toArray 5 (fun j=> .int .u8 ((xs.getD j 0:Nat):Int)) (fun i hi=>by
  have A0:i<xs.length:=by simpa [clB]using hi
  simp[clB,A0,List.getD])
 rw[hs]at this;exact this
theorem jJ(h:RA W w N v bs)(xs:List Nat)(hl:xs.length≤3):Tmp (w.alloc (.cells (clB xs).toArray 5)) v w.heap.size xs:=by
 refine⟨c1E w xs,fun e=>?_,hl⟩;have:=(h.buf.lt _ e).2;omega
theorem b3S(xs:List Nat): ∀u∈clB xs,u.oneCell'=true:=fun u hu=>by
 obtain⟨_,_,rfl⟩:=d0G.1 hu
 rfl
theorem c3P{xs:List Nat}(hg:w.grownBy w' v.ownBlock)(hl:v'.ownBlock=v.ownBlock∨v'.ownBlock=some w.heap.size)(ht:Tmp w v g xs):Tmp w' v' g xs:=by
 refine⟨ht.row.of_block (hg.block g ht.row.lt (fun e=>ht.ne e.symm)),fun e=>?_,ht.le⟩;rcases hl with hl|hl
 ·rw[hl]at e;exact ht.ne e
 ·rw[hl]at e;have:=ht.row.lt;simp at e;omega
theorem a6T{xs:List Nat}(h:w'.ownsRow N 5 1 v' n ys)(hn:4≤n)(hg:w.grownBy w' v.ownBlock)(ht:Tmp w v g xs):Tmp w' v' g xs:=by
 have hr:=ht.row.of_block (hg.block g ht.row.lt (fun e=>ht.ne e.symm));refine⟨hr,fun e=>?_,ht.le⟩;have h3:=ht.le;obtain⟨c,e1,e2,_⟩:=hr;rcases h.2 with⟨rfl,_⟩|⟨g',A1,A0,rfl,_,q1,q2,_,q4,_⟩
 ·simp[Value.ownBlock]at e
 ·simp[Value.ownBlock]at e;subst e;rw[q1]at e1;cases e1
  omega
theorem sF{ops:Array Oper}{o:Oper}{a:Act}{w:World}{K:Act→World→Prop}{Q:Exit→Act→World→Prop}{E:Prop}
  (hg:o.guard=none) (s x:Operand) (hop:o.op=Op.call {callee:=Callee.builtin Builtin.append,args:=#[s,x],argTypes:=#[59,59]})
  {W:World} {N:Nat} {v:Value} {bs:List Nat} {g c:Nat} {xs:List Nat} (hs:a.eval s=v) (hx:a.eval x=.slice (some (aD g 0)) xs.length c) (hA:RA W w N v bs) (hT:Tmp w v g xs) (hb:bs.length+xs.length≤2000000)
  (hK: ∀v' w',RA W w' N v' (bs++xs)→(∀g' xs',Tmp w v g' xs'→Tmp w' v' g' xs')→K (a.put o.dst v') w'):
  if Region.wanted o (yielded ops a.tmps)=true then Oper.wp prog o a w K Q else E:=by
 have hw:Region.wanted o (yielded ops a.tmps)=true:=by simp[Region.wanted,hg]
 rw[if_pos hw];obtain⟨i1,A3,A0⟩:=c9J.1 Tryz.infoByte;simp only[Prod.mk.injEq]at A0;obtain⟨A4,A1,A2⟩:=A0;obtain⟨v',w',hr,h2,h3,_,h5⟩:=run_append_own_at (P:=prog) w N 59 o.type 5 i1 (.int .u8 0) 1 1 underlying59 A3 A4 A1 A2 rfl (by decide) v bs.length (clB bs) hA.buf (aD g 0) xs.length c (clB xs) (by simp[clB]) hT.cells (b3S xs) (by unfold maxLen;omega) (by omega) hA.hN;unfold Oper.wp execOp;simp only[hop,resolve,invoke,builtin,Sem.run_bind,Sem.run_pure,Result.andThen_ok,List.map_toArray,List.map_cons,List.map_nil,hs,hx,hr];exact hK v' w' ⟨hA.off.trans (dJ.grown hA.buf h3),cT.more h2 rfl rfl,c9E hA.hN h3.size⟩ (fun g' xs' ht=>c3P h3 h5 ht)
theorem a3L{ops:Array Oper}{o:Oper}{a:Act}{w:World}{K:Act→World→Prop}{Q:Exit→Act→World→Prop}{E:Prop}
  (hg:o.guard=none) (s x:Operand) (hop:o.op=Op.call {callee:=Callee.builtin Builtin.append,args:=#[s,x],argTypes:=#[59,9]})
  {W:World} {N:Nat} {v:Value} {bs:List Nat} {st:ByteArray} (hs:a.eval s=v) (hx:a.eval x=.string st) (hA:RA W w N v bs) (hb:bs.length+st.size≤2000000) (h4:4≤bs.length)
  (hK: ∀v' w',RA W w' N v' (bs++nb st)→(∀g' xs',Tmp w v g' xs'→Tmp w' v' g' xs')→K (a.put o.dst v') w'):
  if Region.wanted o (yielded ops a.tmps)=true then Oper.wp prog o a w K Q else E:=by
 have hw:Region.wanted o (yielded ops a.tmps)=true:=by simp[Region.wanted,hg]
 rw[if_pos hw];obtain⟨i1,A3,A0⟩:=c9J.1 Tryz.infoByte;simp only[Prod.mk.injEq]at A0;obtain⟨A4,A1,A2⟩:=A0;obtain⟨v',w',hr,h2,h3,_⟩:=Lib.run_append_own_string (P:=prog) w N 59 9 o.type 5 i1 underlying59 underlying9 A3 A4 A1 A2 v bs.length (clB bs) hA.buf st (by unfold maxLen;omega) (by omega) hA.hN;unfold Oper.wp execOp;simp only[hop,resolve,invoke,builtin,Sem.run_bind,Sem.run_pure,Result.andThen_ok,List.map_toArray,List.map_cons,List.map_nil,hs,hx,hr];exact hK v' w' ⟨hA.off.trans (dJ.grown hA.buf h3),cT.more h2 (vO st) (gE st),c9E hA.hN h3.size⟩ (fun g' xs' ht=>a6T h2 (by omega) h3 ht)
theorem sM(n:Nat)(w:World)(hn:n<16777216):
  Calls prog 93 #[iV n] w fun e w'=> ∃g,e=.returned (.slice (some (aD g 0)) 3 3)∧Bl w w'∧ ∀{W N v bs},RA W w N v bs→Tmp w' v g (Evt.dK n):=by
 refine(a5H n w hn).mono ?_;rintro e w' ⟨rfl,rfl⟩;refine⟨w.heap.size,rfl,aB8 _ _,fun h=>?_⟩;exact jJ h (Evt.dK n) (by simp[Evt.dK])
theorem c5P(w:World)(N:Nat)(xs:List Nat)(hN:N≤w.heap.size)(hl:xs.length≤1000):cT (w.alloc (.cells (clB xs).toArray 5)) N (.slice (some (aD w.heap.size 0)) xs.length xs.length) xs:=
 ⟨by simp[clB],.inr ⟨w.heap.size,xs.length,(clB xs).toArray,rfl,hN,Deep.blk_alloc_new _ _,c9C _,by unfold maxLen;omega,by simp[clB],by rw[d1X];exact List.take_of_length_le (by simp[clB])⟩⟩
theorem wF{a b:Value}{o:Obj}(h:w.cell? (aD p 0)=some a∧w.cell? (aD p 1)=some b):(w.alloc o).cell? (aD p 0)=some a∧(w.alloc o).cell? (aD p 1)=some b:=
 ⟨(World.cell?_alloc_lt _ _ _ (World.block_lt_of_cell? _ _ h.1)).trans h.1,(World.cell?_alloc_lt _ _ _ (World.block_lt_of_cell? _ _ h.2)).trans h.2⟩
theorem a4W{a b:Value}{o:Obj}(h:w.drew.cell? (aD p 0)=some a∧w.drew.cell? (aD p 1)=some b):(w.alloc o).drew.cell? (aD p 0)=some a∧(w.alloc o).drew.cell? (aD p 1)=some b:=
 wF (w:=w.drew) h
theorem wB{a b c:Value}{o:Obj}(h:w.cell? (aD p 0)=some a∧w.cell? (aD p 1)=some b∧w.cell? (aD p 2)=some c):(w.alloc o).cell? (aD p 0)=some a∧(w.alloc o).cell? (aD p 1)=some b∧(w.alloc o).cell? (aD p 2)=some c:=
 ⟨(World.cell?_alloc_lt _ _ _ (World.block_lt_of_cell? _ _ h.1)).trans h.1,(World.cell?_alloc_lt _ _ _ (World.block_lt_of_cell? _ _ h.2.1)).trans h.2.1,(World.cell?_alloc_lt _ _ _ (World.block_lt_of_cell? _ _ h.2.2)).trans h.2.2⟩
theorem a4M{a b c:Value}{o:Obj}(h:w.drew.cell? (aD p 0)=some a∧w.drew.cell? (aD p 1)=some b∧w.drew.cell? (aD p 2)=some c):(w.alloc o).drew.cell? (aD p 0)=some a∧(w.alloc o).drew.cell? (aD p 1)=some b∧(w.alloc o).drew.cell? (aD p 2)=some c:=
 wB (w:=w.drew) h
theorem b0B{l:List Evt.Bat}(h: ∀j,j<k→ ∃e,l[j]?=some e∧(Evt.aA e).1=0):((l.take k).flatMap Evt.jS).length≤l.length*154:=by
 refine c9E (wT Evt.jS 154 (l.take k) (fun a ha=>?_)) (d1J 154 (by simp;omega));obtain⟨j,hj,rfl⟩:=d1P.1 ha;have A0:j<k∧j<l.length:=by
  rw[c9K]at hj;omega
 obtain⟨e,h1,h2⟩:=h j A0.1;rw[List.getElem_take];rw[c9F A0.2,Option.some.injEq]at h1;rw[h1];exact a5Y h2
theorem a1F(n:Nat):(Evt.dK n).length=3:=rfl
theorem yU(v:Value)(l:List Evt.Bat)(w:World)(h:eU w v l)(hm:150<l.length):
  Calls prog 61 #[v] w fun e w'=> ∃v',e=.returned (.tuple #[v',.agg #[iV ((Evt.aF l).1:Nat),iV ((Evt.aF l).2:Nat)]])∧cT w' w.heap.size v' (rN l)∧Bl w w':=by
 have HW:=vM hm;rw[wP (by rw[HW];decide),HW];obtain⟨A,C,rfl⟩:=h.shape;have hl:=h.len;have A0:(150:Int)<(l.length:Int):=by omega
 clear h HW;go_enter func61,ntmps61
 go_wp2_with fail;refine bodyPost_ret (v:=.tuple #[nS,.agg #[iV 5,iV 0]]) (by simp[results,results61,go_sem]) rfl ⟨_,rfl,rV _ _,?_⟩;exact(Below.refl _ _).alloc (c9C _) _
theorem a0I(v:Value)(l:List Evt.Bat)(w:World)(h:eU w v l)(hm: ¬150<l.length):
  Calls prog 61 #[v] w fun e w'=> ∃v',e=.returned (.tuple #[v',.agg #[iV ((Evt.aF l).1:Nat),iV ((Evt.aF l).2:Nat)]])∧cT w' w.heap.size v' (rN l)∧Bl w w':=by
 obtain⟨i1,Bb,Ar⟩:=c9J.1 Tryz.infoByte;simp only[Prod.mk.injEq]at Ar;obtain⟨B1,B9,Bg⟩:=Ar;obtain⟨A,C,rfl⟩:=h.shape;have Bu: ¬(150:Int)<(l.length:Int):=by omega
 have C0:l.length≤150:=by omega
 have HC:=hd8 (b2V h);have X0:=aB8 w (.cells #[iV 0,iV 0] 78);have V0:=pM w #[iV 0,iV 0] 78 (by decide);have B0:cT ((w.alloc (.cells #[iV 0,iV 0] 78)).alloc (.cells #[.int .u8 l.length] 5)) w.heap.size (.slice (some (aD (w.heap.size+1) 0)) 1 1) [l.length]:=by
  have:=c5P (w.alloc (.cells #[iV 0,iV 0] 78)) w.heap.size [l.length] X0.size (by simp);have sz:(w.alloc (.cells #[iV 0,iV 0] 78)).heap.size=w.heap.size+1:=by simp
  rw[sz]at this;exact this
 have X1:Bl w ((w.alloc (.cells #[iV 0,iV 0] 78)).alloc (.cells #[.int .u8 l.length] 5)):=X0.alloc X0.size _;have V0:=V0.off (N:=w.heap.size) (dJ.of_below ((Below.refl (w.alloc (.cells #[iV 0,iV 0] 78)).heap.size _).alloc (c9C _) (.cells #[.int .u8 l.length] 5)));clear h X0 hm;go_enter func61,ntmps61
 go_wp2_with fail;generalize (w.alloc (.cells #[iV 0,iV 0] 78)).alloc (.cells #[.int .u8 l.length] 5)=W1 at B0 X1 V0⊢;go_loopw [4,20] (fun y x wr=> ∃k:Nat,k≤l.length∧x=iV k∧Hid (∀j,j<k→ ∃e,l[j]?=some e∧(Evt.aA e).1=0)∧cT wr w.heap.size y ([l.length]++(l.take k).flatMap Evt.jS)∧dJ w.heap.size W1 wr) (fun _ x _=>l.length-(intOf x).toNat)
 case atStart=>exact⟨0,c9D _,rfl,(fun j hj=>absurd hj (c9L j)),by simpa using B0,dJ.refl _ _⟩
 case round=>
  obtain⟨k,hk,rfl,HS,BR,OR⟩:=hrel;have Ap:=X1.size;have A9:=c9E Ap OR.size;have br:=X1.trans (OR.below Ap);have VR:=V0.off OR;by_cases B8:k<l.length
  ·have B4:(k:Int)<(l.length:Int):=by omega
   obtain⟨x,hx⟩: ∃x,l[k]?=some x:=⟨l[k],c9F B8⟩;have HX:=hd8 hx;obtain⟨b,o,rfl,Ac,Aa,A8,he⟩:=HC.out k x hx;have d0:=cB8 br Aa;have d1:=cB8 br A8;obtain⟨wo,rfl⟩: ∃y,y=wr:=⟨wr,rfl⟩;have bA:=aB8 wo (.cells #[iV x.cmd,Ac] 47);have VX:=pM wo #[iV x.cmd,Ac] 47 (by decide);have HW:=lR x.cmd Ac x.evs _ (he.below (br.trans (bA.mono A9)));have HQ:Hid (Evt.aA ⟨x.cmd,x.evs⟩=Evt.aA x):=rfl;rw[HQ.out]at HW;have Ad:Hid (∀i e,x.evs[i]?=some e→ ∃b' o',(match Ac with| .slice A' _ _=>A'|_=>none)=some (aD b' o')∧a8E w b' (o'+i*3) e):=by
    obtain⟨A',C',B6,_,_,B2⟩:=he;subst B6;exact B2
   obtain⟨As,Cs,rfl⟩:=he.shape;have Ad:=hd8 Ad;clear hx Aa A8;by_cases hE:(Evt.aA x).1=0
   ·obtain⟨g1,g2,g3,g4,g5⟩:=Evt.bN hE;have B7:=hd8 hE;have An:=hd8 g5;obtain⟨c,hc⟩: ∃c:Nat,x.cmd=c:=⟨x.cmd.toNat,by omega⟩;have Az:=hd8 hc;have Bf:c<16777216:=by omega
    rw[hc]at d0 HW VX bA;rw[hE]at HW;generalize (Evt.aA x).2=y at HW;clear hE g5 hc g1 g2;go_upto_region 10 with(first|(go_at_call 59;refine HW.mono ?_;rintro e w1 ⟨rfl,b1⟩;have bF:Bl w1 (w1.alloc (.cells #[iV 0,iV y] 78)):=aB8 _ _))
    have bB:=bt (bt bA b1) bF;have VX:=(VX.off (N:=w.heap.size) (dJ.of_below b1)).off (N:=w.heap.size) (dJ.of_below bF);have A0:RA (w1.alloc (.cells #[iV 0,iV y] 78)) (w1.alloc (.cells #[iV 0,iV y] 78)) w.heap.size u4 ([l.length]++(l.take k).flatMap Evt.jS):=⟨dJ.refl _ _,BR.below bB,c9E A9 bB.size⟩;generalize w1.alloc (.cells #[iV 0,iV y] 78)=WZ at*;have Ba:([l.length]++(l.take k).flatMap Evt.jS).length≤100000:=by
     have:=b0B HS.out;rw[c9I];simp only[List.length_cons,List.length_nil];omega
    generalize hbs:[l.length]++(l.take k).flatMap Evt.jS=bs at A0 Ba;have TD:WZ.drew.cell? (aD wo.heap.size 0)=some (iV c)∧WZ.drew.cell? (aD wo.heap.size 1)=some (.slice As x.evs.length Cs):=⟨VX.cell 0 _ rfl,VX.cell 1 _ rfl⟩;have A0:=A0.drew;have Bh:IntKind.u8.wrap ((x.evs.length:Nat):Int)=(x.evs.length:Nat):=by rw[IntKind.wrap_u8];omega
    go_cut [4]from 34 to 44 (fun v' wx=> ∃v5,v'=v5∧RA WZ wx w.heap.size v5 (bs++Evt.dK c++[x.evs.length]))
    case first=>
     go_region_held3 (fun w'=>w'.cell? (aD wo.heap.size 0)=some (iV c)∧w'.cell? (aD wo.heap.size 1)=some (.slice As x.evs.length Cs))
      (first|A1 exact TD|A1 A2|A1 exact wF (by A2)|A1 exact a4W (by A2))
      (first|(go_at_call 93;refine(sM c _ Bf).mono ?_;rintro e3 w3 ⟨g3,rfl,b3,T3⟩;(first|(have A3:=A0.below b3;have T3:=T3 A0;have S3:=(VX.off (N:=w.heap.size) A3.off))|(have A3:=(A0.alloc (.cells #[.int .u8 x.evs.length] 5)).below b3;have L3:=(jJ A0 [x.evs.length] (by simp)).below b3;have T3:=T3 (A0.alloc (.cells #[.int .u8 x.evs.length] 5));have S3:=(VX.off (N:=w.heap.size) A3.off)));have Br:w3.cell? (aD wo.heap.size 0)=some (iV c)∧w3.cell? (aD wo.heap.size 1)=some (.slice As x.evs.length Cs):=⟨S3.cell 0 _ rfl,S3.cell 1 _ rfl⟩)|(refine sF rfl (.tmp 34) (.tmp 37) rfl (xs:=Evt.dK c) rfl rfl (by first|exact A3|exact A3.alloc _) (by first|exact T3|exact T3.alloc _) (by simp[Evt.dK];omega) ?_;intro v4 w4 A4 TT4;have S4:=VX.off (N:=w.heap.size) A4.off;have Bt:w4.cell? (aD wo.heap.size 0)=some (iV c)∧w4.cell? (aD wo.heap.size 1)=some (.slice As x.evs.length Cs):=⟨S4.cell 0 _ rfl,S4.cell 1 _ rfl⟩;(first|(have L4:=TT4 _ _ L3)|(have L4:=TT4 _ _ (jJ A3 [x.evs.length] (by simp)))|skip))|(refine sF rfl (.tmp 38) (.tmp 43) rfl (xs:=[x.evs.length]) rfl rfl (by first|exact A4|exact A4.alloc _) (by first|exact L4|exact jJ A4 [x.evs.length] (by simp)) (by simp[Evt.dK];omega) ?_;intro v5 w5 A5 TT5;have S5:=VX.off (N:=w.heap.size) A5.off;have By:w5.cell? (aD wo.heap.size 0)=some (iV c)∧w5.cell? (aD wo.heap.size 1)=some (.slice As x.evs.length Cs):=⟨S5.cell 0 _ rfl,S5.cell 1 _ rfl⟩))
     all_goals go_wp2_with fail
     all_goals go_meet
     all_goals exact⟨_,rfl,A5⟩
    case rest=>
     obtain⟨v5,rfl,A5⟩:=hcut;obtain⟨Ay,rfl⟩: ∃y,y=wc:=⟨wc,rfl⟩;have VY:=VX.off A5.off;have c1:=VY.cell 1 _ rfl;have Au:=A5.hN;have B5:=A5.buf;have bc:=br.trans ((bB.mono A9).trans (A5.off.below (c9E A9 bB.size)));have OC:=hd8 (OR.trans ((dJ.of_below bB).trans A5.off));have L5:(bs++Evt.dK c++[x.evs.length]).length=bs.length+4:=by simp[a1F]
     clear A5 TD A0 Bh VX;go_wp2_with fail;clear c1;go_loopw [4,48] (fun y x' wi=> ∃j:Nat,j≤x.evs.length∧x'=iV j∧cT wi w.heap.size y (bs++Evt.dK c++[x.evs.length]++(x.evs.take j).flatMap Evt.iM)∧dJ w.heap.size Ay wi) (fun _ x' _=>x.evs.length-(intOf x').toNat)
     case atStart=>exact⟨0,c9D _,rfl,by simpa using B5,dJ.refl _ _⟩
     case round=>
      obtain⟨j,hj,rfl,BI,OI⟩:=hrel;have Be:=c9E Au OI.size;have bi:=bc.trans (OI.below Au);by_cases Bi:j<x.evs.length
      ·have Bp:(j:Int)<(x.evs.length:Int):=by omega
       obtain⟨ev,Ab⟩: ∃ev,x.evs[j]?=some ev:=⟨x.evs[j],c9F Bi⟩;have Ao:=An.out ev (c9N Ab);obtain⟨⟨_,_,n3⟩,k1,k2,m1,m2⟩:=Evt.eN Ao;have HT:=hd8 (pT Evt.iM x.evs j ev Ab);have HZ:=pH Evt.iM 15 j x.evs (fun e he=>y8 (An.out e he));obtain⟨be,oe,rfl,s,Bs,Ai,Aa,A8,Aw⟩:=Ad.out j ev Ab;have e0:=cB8 bi Aa;have e1:=cB8 bi A8;have e2:=cB8 bi Aw;obtain⟨kn,Ak⟩: ∃kn:Nat,ev.kind=kn:=⟨ev.kind.toNat,by omega⟩;obtain⟨mn,Al⟩: ∃mn:Nat,ev.num=mn:=⟨ev.num.toNat,by omega⟩;rw[Ak]at e1;rw[Al]at e2;have Bq:s.size≤10:=by rw[←gE,Ai];exact n3
       have Bx:kn≤4:=by omega
       have Bm:mn<16777216:=by omega
       have Bc:Hid (Evt.iM ev=[s.size]++nb s++[kn]++Evt.dK mn):=by
        show Evt.iM ev=_;unfold Evt.iM;rw[←Ai,gE,Ak,Al];simp
       obtain⟨wj,rfl⟩: ∃y,y=wr:=⟨wr,rfl⟩;have bE:=aB8 wj (.cells #[.string s,iV kn,iV mn] 83);have VE:=pM wj #[.string s,iV kn,iV mn] 83 (by decide);have AI:RA (wj.alloc (.cells #[.string s,iV kn,iV mn] 83)) (wj.alloc (.cells #[.string s,iV kn,iV mn] 83)) w.heap.size u4 (bs++Evt.dK c++[x.evs.length]++(x.evs.take j).flatMap Evt.iM):=⟨dJ.refl _ _,BI.below bE,c9E Be bE.size⟩;have Ae:(bs++Evt.dK c++[x.evs.length]++(x.evs.take j).flatMap Evt.iM).length≤200000∧4≤(bs++Evt.dK c++[x.evs.length]++(x.evs.take j).flatMap Evt.iM).length:=by
        rw[c9I,L5];omega
       obtain⟨bj,Av⟩: ∃bj,Hid (bs++Evt.dK c++[x.evs.length]++(x.evs.take j).flatMap Evt.iM=bj):=⟨_,rfl⟩;rw[Av.out]at AI Ae;clear Ab Ao Aa A8 Aw Ak Al BI HZ k1 k2 m1 m2 n3 Ai;have TL:=jJ AI [s.size] (by simp);have Aq:(wj.alloc (.cells #[.string s,iV kn,iV mn] 83)).heap.size=wj.heap.size+1:=by simp
       rw[Aq]at TL;have AL:=AI.alloc (.cells (clB [s.size]).toArray 5);have Bw:(bj++[s.size]).length=bj.length+1:=by simp
       have Bn:(s.size:Int)≤10:=by omega
       go_upto_region 15 with(at_builtin;go_loud (refine wpList_append_own_at _ rfl (.tmp 52) (.tmp 57) 59 rfl w.heap.size 5 i1 (.int .u8 0) 1 1 underlying59 Bb B1 B9 Bg rfl (by decide) _ _ _ rfl AL.buf (aD (wj.heap.size+1) 0) 1 1 (clB [s.size]) rfl rfl TL.cells (b3S _) (by unfold maxLen;omega) (by omega) AL.hN ?_;intro v6 w6 hown6 hgrow6 _ _))
       have A6:RA (wj.alloc (.cells #[.string s,iV kn,iV mn] 83)) w6 w.heap.size v6 (bj++[s.size]):=⟨AL.off.trans (dJ.grown AL.buf hgrow6),cT.more hown6 rfl rfl,c9E AL.hN hgrow6.size⟩;have A7:=VE.off A6.off;have O6:=hd8 ((dJ.of_below bE).trans A6.off);have AC:=(RA.mk (dJ.refl _ _) A6.buf A6.hN).drew;have TD:w6.drew.cell? (aD wj.heap.size 0)=some (.string s)∧w6.drew.cell? (aD wj.heap.size 1)=some (iV kn)∧w6.drew.cell? (aD wj.heap.size 2)=some (iV mn):=⟨A7.cell 0 _ rfl,A7.cell 1 _ rfl,A7.cell 2 _ rfl⟩;have Bv:IntKind.u8.wrap ((kn:Nat):Int)=(kn:Nat):=by rw[IntKind.wrap_u8];omega
       have Bo:bj.length≤200000:=Ae.1;have B3:4≤bj.length:=Ae.2;clear hown6 hgrow6 AL TL Aq AI A6 VE;go_region_held3 (fun w'=>w'.cell? (aD wj.heap.size 0)=some (.string s)∧w'.cell? (aD wj.heap.size 1)=some (iV kn)∧w'.cell? (aD wj.heap.size 2)=some (iV mn))
        (first|A1 exact TD|A1 A2|A1 exact wB (by A2)|A1 exact a4M (by A2))
        (first|(go_at_call 93;refine(sM mn _ Bm).mono ?_;rintro e7 w7 ⟨g7,rfl,b7,T7⟩;(first|(have LT:=LT.below b7)|(have LT:=(jJ AC [kn] (by simp)).below b7)|skip);(first|(have TT:=T7 AC)|(have TT:=T7 (AC.alloc (.cells #[.int .u8 kn] 5))));(first|(have AC:=AC.below b7)|(have AC:=(AC.alloc (.cells #[.int .u8 kn] 5)).below b7));have SX:=A7.off (N:=w.heap.size) AC.off;have Aj:w7.cell? (aD wj.heap.size 0)=some (.string s)∧w7.cell? (aD wj.heap.size 1)=some (iV kn)∧w7.cell? (aD wj.heap.size 2)=some (iV mn):=⟨SX.cell 0 _ rfl,SX.cell 1 _ rfl,SX.cell 2 _ rfl⟩)|(refine a3L rfl (.tmp 59) (.tmp 61) rfl rfl rfl (by first|exact AC|exact AC.alloc _) (by omega) (by omega) ?_;intro v8 w8 AD TR;(first|(have LT:=TR _ _ LT)|(have LT:=TR _ _ (jJ AC [kn] (by simp)))|skip);(first|(have TT:=TR _ _ TT)|(have TT:=TR _ _ (TT.alloc _))|skip);have AC:=AD;have SX:=A7.off (N:=w.heap.size) AC.off;have Aj:w8.cell? (aD wj.heap.size 0)=some (.string s)∧w8.cell? (aD wj.heap.size 1)=some (iV kn)∧w8.cell? (aD wj.heap.size 2)=some (iV mn):=⟨SX.cell 0 _ rfl,SX.cell 1 _ rfl,SX.cell 2 _ rfl⟩)|(refine sF rfl (.tmp 62) (.tmp 66) rfl (xs:=[kn]) rfl rfl (by first|exact AC|exact AC.alloc _) (by first|exact LT|exact jJ AC [kn] (by simp)) (by simp only[List.length_append,gE,List.length_cons,List.length_nil];omega) ?_;intro v9 w9 AD TR;(first|(have LT:=TR _ _ LT)|(have LT:=TR _ _ (jJ AC [kn] (by simp)))|skip);(first|(have TT:=TR _ _ TT)|(have TT:=TR _ _ (TT.alloc _))|skip);have AC:=AD;have SX:=A7.off (N:=w.heap.size) AC.off;have Aj:w9.cell? (aD wj.heap.size 0)=some (.string s)∧w9.cell? (aD wj.heap.size 1)=some (iV kn)∧w9.cell? (aD wj.heap.size 2)=some (iV mn):=⟨SX.cell 0 _ rfl,SX.cell 1 _ rfl,SX.cell 2 _ rfl⟩)|(refine sF rfl (.tmp 67) (.tmp 70) rfl (xs:=Evt.dK mn) rfl rfl (by first|exact AC|exact AC.alloc _) (by first|exact TT|exact TT.alloc _) (by simp only[List.length_append,gE,List.length_cons,List.length_nil,a1F];omega) ?_;intro v10 w10 AD TR;(first|(have LT:=TR _ _ LT)|(have LT:=TR _ _ (jJ AC [kn] (by simp)))|skip);(first|(have TT:=TR _ _ TT)|(have TT:=TR _ _ (TT.alloc _))|skip);have AC:=AD;have SX:=A7.off (N:=w.heap.size) AC.off;have Aj:w10.cell? (aD wj.heap.size 0)=some (.string s)∧w10.cell? (aD wj.heap.size 1)=some (iV kn)∧w10.cell? (aD wj.heap.size 2)=some (iV mn):=⟨SX.cell 0 _ rfl,SX.cell 1 _ rfl,SX.cell 2 _ rfl⟩))
       all_goals
        have Af:Hid (cT w10 w.heap.size v10 (bs++Evt.dK c++[x.evs.length]++(x.evs.take (j+1)).flatMap Evt.iM)):=by
         have q:=AC.buf;show cT w10 w.heap.size v10 _;rw[HT.out,Bc.out,←c9X,Av.out];simpa [c9X]using q
        have Ah:=hd8 (OI.trans (O6.out.trans AC.off));clear AC TD;go_wp2_with fail;exact⟨⟨j+1,by omega,by go_num,Af.out,Ah.out⟩,by simp[intOf];omega⟩
      ·obtain rfl:j=x.evs.length:=by omega
       have Af:Hid (cT wr w.heap.size u4 ([l.length]++(l.take (k+1)).flatMap Evt.jS)):=by
        have q:=BI;rw[d0L]at q;have e:bs++Evt.dK c++[x.evs.length]++x.evs.flatMap Evt.iM=[l.length]++(l.take (k+1)).flatMap Evt.jS:=by
         rw[pT Evt.jS l k x HX.out,←c9X,hbs];unfold Evt.jS;rw[Az.out];simp
        rw[e]at q;exact q
       have Ah:=hd8 (OC.out.trans OI);have Bk:Hid (∀j,j<k+1→ ∃e,l[j]?=some e∧(Evt.aA e).1=0):=fun j hj=>by
        by_cases e:j=k
        ·rw[e];exact⟨x,HX.out,B7.out⟩
        ·exact HS.out j (by omega)
       clear BI;go_wp2_with fail;exact⟨⟨k+1,by omega,by go_num,Bk.out,Af.out,Ah.out⟩,by simp[intOf];omega⟩
   ·have Am:Hid (Evt.aF l=((Evt.aA x).1,k)):=by
     show Evt.aF l=_;rw[lE (by omega)];exact Evt.o8 l k x HX.out hE HS.out
    have Bj:=hd8 (wP (by rw[Am.out];exact hE));generalize (Evt.aA x).1=x1 at HW Am hE;generalize (Evt.aA x).2=y at HW;have Ax:((x1:Int)==0)=false:=by rw[beq_eq_false_iff_ne];omega
    have Bz:((x1:Int) !=0)=true:=by rw[bne,Ax];rfl
    clear hE;go_wp2_with fail;refine HW.mono ?_;rintro e w1 ⟨rfl,b1⟩;have bF:=aB8 w1 (.cells #[iV x1,iV y] 78);have bB:=bt (bt bA b1) bF;have VZ:=VR.off (N:=w.heap.size) (dJ.of_below bB);have c0:=VZ.cell 0 _ rfl;have c1:=VZ.cell 1 _ rfl;have f0:=VZ.frozen 0;have f1:=VZ.frozen 1;have bz:=br.trans (bB.mono A9);clear HW;go_wp2_with fail;go_region
    go_wp2_with fail;refine bodyPost_ret (v:=.tuple #[nS,.agg #[iV x1,iV k]]) (by simp[results,results61,go_sem,c0,c1]) rfl ⟨_,by rw[Am.out],by rw[Bj.out];exact rV _ _,?_⟩;exact((bz.setCell (c9C _) _).setCell (c9C _) _).drew
  ·obtain rfl:k=l.length:=by omega
   have Ag:(Evt.aF l).1=0∧(Evt.aF l).2=0:=by
    rw[lE (by omega),Evt.lG l 0 (fun e he=>by
     obtain⟨j,hj,rfl⟩:=d1P.1 he;obtain⟨e',h1,h2⟩:=HS.out j hj;rw[c9F hj,Option.some.injEq]at h1;rw[h1]
     exact h2)]
    exact⟨rfl,rfl⟩
   have HB:cT wr w.heap.size u4 (rN l):=by
    have q:=BR;rw[d0L]at q;rw[wR Ag.1];exact q
   have At:=hd8 Ag;have c0:=VR.cell 0 _ rfl;have c1:=VR.cell 1 _ rfl;have f0:=VR.frozen 0;have f1:=VR.frozen 1;clear BR OR Ag;go_wp2_with fail;refine bodyPost_ret (v:=.tuple #[u4,.agg #[iV 0,iV 0]]) (by simp[results,results61,go_sem,c0,c1]) rfl ⟨_,by rw[At.out.1,At.out.2];rfl,?_,?_⟩
   ·refine cT.off (S:=fun k=>k=w.heap.size) HB (((Off.refl (fun k=>k=w.heap.size) _).set (p:=⟨w.heap.size,0,none⟩) rfl _).set (p:=⟨w.heap.size,1,none⟩) rfl _) (fun g hg e=>?_);obtain⟨c,hc⟩:=i9 HB hg;rw[e,VR.hp]at hc;cases hc
   ·exact(br.setCell (c9C _) _).setCell (c9C _) _
theorem a0H(v:Value)(l:List Evt.Bat)(w:World)(h:eU w v l):
  Calls prog 61 #[v] w fun e w'=> ∃v',e=.returned (.tuple #[v',.agg #[iV ((Evt.aF l).1:Nat),iV ((Evt.aF l).2:Nat)]])∧cT w' w.heap.size v' (rN l)∧Bl w w':=by
 by_cases hm:150<l.length
 ·exact yU v l w h hm
 ·exact a0I v l w h hm
end Go.Proofs.YtmcaejooaaahdaaGreat
