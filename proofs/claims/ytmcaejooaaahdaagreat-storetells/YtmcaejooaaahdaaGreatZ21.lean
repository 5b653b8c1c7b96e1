import Derived.Test.YtmcaejooaaahdaaGreatZ18
import Derived.Test.YtmcaejooaaahdaaGreatZ20
import Derived.ChangeSlices
set_option maxHeartbeats 8000000
set_option maxRecDepth 100000
namespace Go.Proofs.YtmcaejooaaahdaaGreat
open Go.Proofs.Tryz
variable {G K L:Nat→Nat} {N b c k n x:Nat} {f f':Nat→Nat→Nat} {seg:Int} {w:World}
open Go.RowKit
theorem b9D(m:Nat)(F:Nat→Nat)(w:World)(h1:1≤m)(h2:m≤100000):
  Calls prog 144 #[nS,iV m] w fun e w'=> ∃v',e=.returned v'∧Buf w' w.heap.size v' 0 F∧Bl w w':=by
 obtain⟨i1,A2,A1⟩:=c9J.1 Tryz.infoByte;simp only[Prod.mk.injEq]at A1;obtain⟨A6,Aa,A3⟩:=A1
 have hg:=Lib.run_append_grow_zeros (P:=prog) w 59 3 59 5 i1 (.int .u8 0) .i64 .i64 underlying59 underlying3 A2 A6 none 0 0 [] (run_firstCells_none w.drew i1.size 0 0 0) m (by omega) (by omega) (by omega) (by omega) (by rw[A3];omega) (by
  have:=growslice_fits (need:=0+m) (old:=0) (bytes:=i1.bytes) (by omega) (by rw[A3];omega)
  exact this)
 have hG:=grownCap_ge w (0+m) 0 5;have A0:=grownCap_le_maxLen w (0+m) 0 5 (by unfold maxLen;omega);obtain⟨K,hK⟩: ∃K,K=grownCap w (0+m) 0 5:=⟨_,rfl⟩;rw[←hK]at hg hG A0;obtain⟨c,hc⟩: ∃c,c=(([]:List Value).toArray++Builtin.zeroCells (Value.int .u8 0).cells m++Builtin.zeroCells (Value.int .u8 0).cells (K-(0+m))):=⟨_,rfl⟩;have A5:c.size=K:=by
  rw[hc];simp[Builtin.zeroCells,Value.cells];omega
 rw[←hc]at hg;have HB:Hid (Buf (w.drew.alloc (.cells c 5)) w.heap.size (.slice (some (aD w.heap.size 0)) 0 K) 0 F):=World.ownsRow_made w.drew c K (c9C _) A0 (by omega);have A4:Bl w (w.drew.alloc (.cells c 5)):=(Below.refl w.heap.size w).drew.alloc (c9C _) _;have A8: ¬(m:Int)<0:=by omega
 have A9:(0:Int)<(m:Int):=by omega
 have A7:K≤9223372036854775807:=A0;clear hc hK A5 A0 A2;rw[c9G]at hg hG;go_enter func144,ntmps144
 go_wp2_with (at_builtin;go_loud (refine Lib.wpList_append_run _ rfl (.tmp 20) (.tmp 21) 59 3 rfl _ _ rfl rfl _ _ hg ?_));go_ret
 exact⟨_,rfl,HB.out,A4⟩
theorem c1Q(hc:1≤c):cellsOf (fun j=>f (j/c) (j%c)) (k*c+c)=cellsOf (fun j=>f (j/c) (j%c)) (k*c)++cellsOf (f k) c:=by
 rw[lH];refine congrArg _ (jJ (fun j hj=>?_));show f ((k*c+j)/c) ((k*c+j)%c)=f k j;rw[Nat.mul_comm,Nat.mul_add_div (by omega),Nat.mul_add_mod,Nat.div_eq_of_lt hj,Nat.mod_eq_of_lt hj,d0X]
theorem b0I(b o n cap c:Nat)(G O K:Nat→Nat)(f:Nat→Nat→Nat)(w:World)(h:jW w b o n c G O K f)(bd:Gf.Bd2 f)(h1:1≤n)(h2:n≤12)(h3:1≤c)(h4:c≤400):
  Calls prog 118 #[.slice (some (aD b o)) n cap] w fun e w'=> ∃v',e=.returned v'∧kX w' w.heap.size v' (n*c) (fun j=>f (j/c) (j%c))∧Bl w w':=by
 have Af:n*c≤12*400:=d0Y h2 h4;have Ae:1*1≤n*c:=d0Y h1 h3;have A5:Hid (∀k,k<n→k*c+c≤n*c):=fun k hk=>by
  have:=d1J c (show k+1≤n by omega);rw[d0F]at this;exact this
 have HT:Hid (∀w',Bl w w'→ ∀k,k<n→w'.cell? (aD b (o+k))=some (.slice (some ⟨G k,O k,none⟩) c (K k))):=fun w' hb k hk=>(h.bE hb).top k hk;have HR:Hid (∀w',Bl w w'→ ∀k,k<n→ ∀j u,(cellsOf (f k) c)[j]?=some u→w'.cell? ((⟨G k,O k,none⟩:Addr).add j)=some u):=fun w' hb k hk j u hj=>by
  rcases Nat.lt_or_ge j c with q|q
  ·simp[cellsOf,q]at hj;rw[WideShapes.add_plain,(h.bE hb).row k hk j q,←hj]
  ·simp[List.getElem?_eq_none (show(cellsOf (f k) c).length≤j by simpa [cellsOf]using q)]at hj
 have A7:Hid (Bd (fun j=>f (j/c) (j%c))):=fun j=>bd _ _;obtain⟨i1,Ad,A6⟩:=c9J.1 Tryz.infoByte;simp only[Prod.mk.injEq]at A6;obtain⟨Ai,Aj,Ak⟩:=A6;clear h bd;go_enter func118,ntmps118
 go_wp2_with fail;go_loopw [3,11] (fun z x wr=> ∃(k:Nat),k≤n∧x=iV k∧z=iV ((k*c:Nat):Int)∧Bl w wr) (fun _ x _=>n-(intOf x).toNat)
 case atStart=>exact⟨0,c9D _,rfl,by rw[Nat.zero_mul];rfl,Below.refl _ _⟩
 case round=>
  obtain⟨k,hk,rfl,rfl,hb⟩:=hrel;by_cases A1:k<n
  ·have A4:(k:Int)<(n:Int):=by omega
   have t1:=HT.out wr hb k A1;have A2:=A5.out k A1;have e1:(k+1)*c=k*c+c:=d0F k c;have A8:Hid ((((k+1)*c:Nat):Int)=((k*c:Nat):Int)+(c:Int)):=by
    show(((k+1)*c:Nat):Int)=((k*c:Nat):Int)+(c:Int);omega
   clear e1;generalize hp:k*c=p at*;have Al: ¬(p:Int)+(c:Int)<0:=by omega
   go_wp2_with fail;exact⟨⟨k+1,by omega,by go_num,by rw[A8.out],hb⟩,by simp[intOf];omega⟩
  ·obtain rfl:k=n:=by omega
   obtain⟨m,hm⟩: ∃m,k*c=m:=⟨_,rfl⟩;have HM:Hid (k*c=m):=hm;rw[hm]at Af Ae⊢;have HG:=b9D m (fun j=>f (j/c) (j%c)) wr (by omega) (by omega);clear hm;obtain⟨wo,rfl⟩: ∃x,x=wr:=⟨wr,rfl⟩;go_wp2_with fail;refine HG.mono ?_;rintro e w2 ⟨v2,rfl,B2,b2⟩;have b2:=bt hb b2;have Ah:=hb.size;clear HG;go_wp2_with fail;go_loopw [6,27] (fun y x wq=> ∃(q:Nat),q≤k∧x=iV q∧Buf wq w.heap.size y (q*c) (fun j=>f (j/c) (j%c))∧Bl w wq) (fun _ x _=>k-(intOf x).toNat)
   case atStart=>exact⟨0,c9D _,rfl,by rw[Nat.zero_mul];exact qZ B2 Ah,b2⟩
   case round=>
    obtain⟨q,hq,rfl,BQ,A0⟩:=hrel;by_cases A1:q<k
    ·have A4:(q:Int)<(k:Int):=by omega
     have A2:=A5.out q A1;rw[HM.out]at A2;obtain⟨p,hp⟩: ∃p,q*c=p:=⟨_,rfl⟩;have Ab:Hid (cellsOf (fun j=>f (j/c) (j%c)) ((q+1)*c)=cellsOf (fun j=>f (j/c) (j%c)) p++cellsOf (f q) c):=by
      show cellsOf (fun j=>f (j/c) (j%c)) ((q+1)*c)=cellsOf (fun j=>f (j/c) (j%c)) p++cellsOf (f q) c;rw[d0F,c1Q h3,hp]
     have Aa:Hid ((q+1)*c=p+c):=by
      show(q+1)*c=p+c;rw[d0F,hp]
     rw[hp]at BQ A2;have t1:=HT.out wr A0 q A1;have cs:=HR.out wr A0 q A1;have A3:(cellsOf (f q) c).length=c*1:=by simp[cellsOf]
     have Ac:=jR (f q) c;have A9:=World.ownsRow.lt BQ;have BX:wr.ownsRow w.heap.size 5 1 u6 p (cellsOf (fun j=>f (j/c) (j%c)) p):=BQ;clear hp BQ;go_wp2_with (at_builtin;go_loud (refine wpList_append_own _ rfl (.tmp 31) (.tmp 32) 59 rfl w.heap.size 5 i1 (.int .u8 0) 1 1 underlying59 Ad Ai Aj Ak rfl (by decide) _ _ _ rfl BX ⟨G q,O q,none⟩ c (K q) (cellsOf (f q) c) rfl A3 cs Ac (by unfold maxLen;omega) (by omega) A0.size ?_;intro v3 w3 hown3 hgrow3 _));have b3:Bl w w3:=A0.grown hgrow3 A0.size (fun y hy=>(A9 y hy).1);refine⟨⟨q+1,by omega,by go_num,?_,b3⟩,by simp[intOf];omega⟩;unfold Buf;rw[Ab.out,Aa.out];exact hown3
    ·obtain rfl:q=k:=by omega
     have Ag:1≤q*c:=by
      have:=HM.out;omega
     go_wp2_with fail;go_ret
     exact⟨_,rfl,Buf.made BQ A7.out Ag,A0⟩
theorem b1X(g n cap:Nat)(A:Option Addr)(l:Value)(V:Nat→Value)(p:Nat→Bool)(w:World)(eg: ∀args w,(callFunc g args).run prog w=.ok (.enter g args) w)
  (hc: ∀r,r<n→ ∃b o,A=some (aD b o)∧w.cell? (aD b (o+r))=some (V r)) (hp:uV g l n V p w) (hn:n≤10000):
  Calls prog 140 #[.slice A n cap,.func (.func g) #[] #[l]] w fun e w'=> ∃i:Int,e=.returned (iV i)∧a4H n p i∧Bl w w':=by
 have HC:Hid (∀w',Bl w w'→ ∀r,r<n→ ∃b o,A=some (aD b o)∧w'.cell? (aD b (o+r))=some (V r)):=fun w' hb r hr=>by
  obtain⟨b,o,e1,e2⟩:=hc r hr;exact⟨b,o,e1,cB8 hb e2⟩
 clear hc;go_enter func140,ntmps140
 go_wp2_with fail;go_loopw [8] (fun i wr=> ∃k:Nat,k≤n∧i=iV k∧Hid (∀s,s<k→p s=false)∧Bl w wr) (fun i _=>n-(intOf i).toNat)
 case atStart=>exact⟨0,c9D _,rfl,fun s hs=>absurd hs (c9L s),Below.refl _ _⟩
 case round=>
  obtain⟨k,hk,rfl,HS,hb⟩:=hrel;by_cases A2:k<n
  ·have A4:(k:Int)<(n:Int):=by omega
   obtain⟨b,o,rfl,A5⟩:=HC.out wr hb k A2;have A0:=hp k A2 wr hb;by_cases hy:p k=true
   ·rw[hy]at A0;go_wp2_with fail;refine A0.mono ?_;rintro e w1 ⟨rfl,A1⟩;go_wp2_with fail;go_ret
    exact⟨_,rfl,Or.inr ⟨k,A2,rfl,hy,HS.out⟩,hb.trans (A1.mono hb.size)⟩
   ·have A3:p k=false:=by simpa using hy
    rw[A3]at A0;clear hy;go_wp2_with fail;refine A0.mono ?_;rintro e w1 ⟨rfl,A1⟩;go_wp2_with fail;refine⟨⟨k+1,by omega,by go_num,fun s hs=>?_,hb.trans (A1.mono hb.size)⟩,by simp[intOf];omega⟩;by_cases e:s=k
    ·rw[e];exact A3
    ·exact HS.out s (by omega)
  ·have e8:k=n:=by omega
   subst e8;go_wp2_with fail;go_ret
   exact⟨_,rfl,Or.inl ⟨rfl,HS.out⟩,hb⟩
theorem a0B(g n cap:Nat)(A:Option Addr)(l:Value)(V:Nat→Value)(p:Nat→Bool)(w:World)(eg: ∀args w,(callFunc g args).run prog w=.ok (.enter g args) w)
  (hc: ∀r,r<n→ ∃b o,A=some (aD b o)∧w.cell? (aD b (o+r))=some (V r)) (hp:uV g l n V p w) (hn:n≤10000):
  Calls prog 115 #[.slice A n cap,.func (.func g) #[] #[l]] w fun e w'=> ∃y:Bool,e=.returned (.bool y)∧(y=true↔ ∃r,r<n∧p r=true)∧Bl w w':=by
 go_enter func115,ntmps115
 go_wp2_with fail;refine(b1X g n cap A l V p w eg hc hp hn).mono ?_;rintro e w1 ⟨i,rfl,hi,hb⟩;clear hc hp;go_wp2_with fail;go_ret
 refine⟨_,rfl,?_,hb⟩;rcases hi with⟨rfl,h⟩|⟨r,hr,rfl,h,_⟩
 ·exact⟨fun e=>absurd e (by decide),fun⟨r,hr,he⟩=>by rw[h r hr]at he;exact absurd he (by decide)⟩
 ·exact⟨fun _=>⟨r,hr,h⟩,fun _=>by simp⟩
theorem b7J(x y n cap B b o:Nat)(w:World)(h0:0<n)(hc:w.cell? (aD B 0)=some (.slice (some (aD b o)) n cap))(hd:w.cell? (aD b o)=some (iV y)):
  Calls prog 116 #[iV x,.pointer (some (aD B 0))] w fun e w'=>e=.returned (.bool (decide (x≠y)))∧Bl w w':=by
 by_cases h:x=y
 ·subst h;have H:Hid (decide (x≠x)=false):=by show decide (x≠x)=false;simp
  go_enter func116,ntmps116
  go_wp2_with fail;go_ret
  exact⟨jN (by rw[H.out]),Below.refl _ _⟩
 ·have H:Hid (decide (x≠y)=true):=by show decide (x≠y)=true;simpa using h
  have h':((x:Int)==(y:Int))=false:=by rw[beq_eq_false_iff_ne];omega
  clear h;go_enter func116,ntmps116
  go_wp2_with fail;go_ret
  exact⟨jN (by rw[H.out];simp[bne,h']),Below.refl _ _⟩
theorem Tryz.enters_other: ∀args w,(callFunc 116 args).run Tryz.prog w=.ok (.enter 116 args) w:=enters_of Tryz.func116 (by kernel_rfl) rfl
def szL(seg:Int)(L:Nat→Nat)(g:Nat→Nat→Nat)(k:Nat):List Nat:=((List.range k).filter (fun i=>decide (Seg.right seg L g i))).map (Seg.rz g)
theorem c3O{g:Nat→Nat→Nat}(h:Seg.right seg L g k):szL seg L g (k+1)=szL seg L g k++[Seg.rz g k]:=by
 unfold szL;rw[d1G,d1O,c9U];have e:List.filter (fun i=>decide (Seg.right seg L g i)) [k]=[k]:=d1W (p:=fun i=>decide (Seg.right seg L g i)) (decide_eq_true h);rw[e];rfl
theorem c7R{g:Nat→Nat→Nat}(h: ¬Seg.right seg L g k):szL seg L g (k+1)=szL seg L g k:=by
 unfold szL;rw[d1G,d1O,c9U];have e:List.filter (fun i=>decide (Seg.right seg L g i)) [k]=[]:=d1N (p:=fun i=>decide (Seg.right seg L g i)) (fun q=>h (of_decide_eq_true q));rw[e];exact d0W _
theorem rT{g:Nat→Nat→Nat}:x∈szL seg L g k↔ ∃i,i<k∧Seg.right seg L g i∧Seg.rz g i=x:=by
 unfold szL;rw[d0G];constructor
 ·rintro⟨i,hi,e⟩;rw[d0Z,d0D]at hi;exact⟨i,hi.1,of_decide_eq_true hi.2,e⟩
 ·rintro⟨i,h1,h2,e⟩;exact⟨i,by rw[d0Z,d0D];exact⟨h1,decide_eq_true h2⟩,e⟩
theorem b2U(seg:Int)(L:Nat→Nat)(g:Nat→Nat→Nat)(k:Nat):(szL seg L g k).length≤k:=by
 unfold szL;rw[c9M];exact c9E (d2P _ _) (by simp)
theorem b5Q{g:Nat→Nat→Nat}:(∃r,r<(szL seg L g N).length∧decide ((szL seg L g N).getD r 0≠(szL seg L g N).getD 0 0)=true)↔ ¬Seg.a5T seg L g N:=by
 constructor
 ·rintro⟨r,hr,h⟩ hs;have h:=of_decide_eq_true h;have m1:(szL seg L g N).getD r 0∈szL seg L g N:=by simp[List.getD,hr]
  have m0:(szL seg L g N).getD 0 0∈szL seg L g N:=by simp[List.getD,show 0<(szL seg L g N).length by omega]
  obtain⟨i,i1,i2,i3⟩:=rT.1 m1;obtain⟨j,j1,j2,j3⟩:=rT.1 m0;exact h (by rw[←i3,←j3];exact hs i i1 j j1 i2 j2)
 ·intro hn;refine Classical.byContradiction fun q=>hn (fun i hi j hj r1 r2=>?_);have A0: ∀x,x∈szL seg L g N→x=(szL seg L g N).getD 0 0:=fun x hx=>by
   obtain⟨r,hr,e⟩:=d1P.1 hx;refine Classical.byContradiction fun ne=>q ⟨r,hr,decide_eq_true ?_⟩;rw[show(szL seg L g N).getD r 0=x by simp[List.getD,hr,e]];exact ne
  rw[A0 _ (rT.2 ⟨i,hi,r1,rfl⟩),A0 _ (rT.2 ⟨j,hj,r2,rfl⟩)]
theorem kK{v:Value}{l:List Nat}(h:iQ w N v l): ∃A cap,v=.slice A l.length cap∧ ∀r,r<l.length→ ∃b o,A=some (aD b o)∧w.cell? (aD b (o+r))=some (iV ((l.getD r 0:Nat):Int)):=by
 have h':w.ownsRow N 3 1 v l.length (l.map fun x:Nat=>Value.int .i64 x):=h;rcases h'.2 with⟨rfl,h0⟩|⟨g,cap,A0,rfl,_,_,_,_,_,_⟩
 ·exact⟨none,0,by rw[h0],fun r hr=>absurd hr (by omega)⟩
 ·refine⟨some (aD g 0),cap,rfl,fun r hr=>⟨g,0,rfl,?_⟩⟩;have:=h'.cells (g:=g) rfl r (iV ((l.getD r 0:Nat):Int)) (by simp[List.getD,hr]);rw[WideShapes.add_plain]at this;exact this
theorem a0G(v:Value)(N:Nat)(L:Nat→Nat)(g:Nat→Nat→Nat)(s:Int)(w:World)(h:Lls w v N L g)(hN:N≤100):
  Calls prog 114 #[v,iV s] w fun e w'=> ∃v' z,e=.returned (.tuple #[v',z])∧Lls w' v' N (Seg.rl s L g) (Seg.rf g)∧iQ w' w.heap.size z (szL s L g N)∧Bl w w':=by
 obtain⟨i0,Ac,hh⟩:=c9J.1 Tryz.infoRow;simp only[Prod.mk.injEq]at hh;obtain⟨Ad,Ae,Af⟩:=hh;obtain⟨i1,Ao,Ab⟩:=c9J.1 Tryz.infoInt;simp only[Prod.mk.injEq]at Ab;obtain⟨Ar,As,At⟩:=Ab;obtain⟨A,C,rfl⟩:=h.sE;have HL:Hid (∀w',Bl w w'→ ∀r,r<N→ ∃b o R K,A=some (aD b o)∧w'.cell? (aD b (o+r))=some (.slice R (L r) K)∧cA w' (.slice R (L r) K) (L r) (g r)):=fun w' hb r hr=>(h.bE hb).at hr;have A6:=hd8 fun i k=>h.bd i (k+7);clear h;go_enter func114,ntmps114
 go_wp2_with fail;go_loopw [4,5,12] (fun y z x wr=> ∃(k:Nat) (U:Nat→Value),k≤N∧x=iV k∧Pcs wr w.heap.size y k U (Seg.rl s L g) (Seg.rf g)∧iQ wr w.heap.size z (szL s L g k)∧Bl w wr) (fun _ _ x _=>N-(intOf x).toNat)
 case atStart=>exact⟨0,fun _=>nS,c9D _,rfl,Pcs.start _ _ _ _ _,iQ.nil _ _,Below.refl _ _⟩
 case round=>
  obtain⟨k,U,hk,rfl,hP,BN,hb⟩:=hrel;by_cases Ap:k<N
  ·have Aq:(k:Int)<(N:Int):=by omega
   obtain⟨b,o,R,K,rfl,d0,hy⟩:=HL.out wr hb k Ap;have HR:=oJ _ _ (g k) s k wr hy;have Au:=b2U s L g k;obtain⟨P,A4⟩: ∃P:Prop,P=Seg.right s L g k:=⟨_,rfl⟩;have Aa:P=(Crc.aL (g k) (L k)=0∧((g k 1:Nat):Int)=s∧g k 2=k):=A4;have Al:=hd8 fun q=>c3O (by rw[←A4];exact q);have Ak:Hid (¬P→szL s L g (k+1)=szL s L g k):=fun q=>c7R (fun r=>q (by rw[A4];exact r));have Aj:=hd8 fun q=>Seg.b1D (by rw[←A4];exact q);have Ai:Hid (¬P→Seg.rl s L g k=0):=fun q=>Seg.c2Z (fun r=>q (by rw[A4];exact r));rw[←Aa]at HR;clear hy A4 Aa;go_wp2_with fail;refine HR.mono ?_;rintro e w1 ⟨v1,y,rfl,hO,b1⟩;have BN:=BN.bE b1;have hP:=hP.bE b1;have Am:w.heap.size≤wr.heap.size:=hb.size;have b1:=bt hb b1;rcases hO with⟨hp,rfl,d,rfl,hM⟩|⟨hp,rfl,rfl⟩
   ·have A1:=(hM.pce (fun j=>A6.out k j)).lower Am;obtain⟨g5,c5,rfl,_⟩:=hM;have hz:g k 3*256+g k 4=Seg.rz g k:=rfl;rw[hz];have bV:=aB8 w1 (.cells #[iV (g k 1:Nat),iV (g k 2:Nat),iV (Seg.rz g k:Nat),.slice (some (aD g5 0)) (L k-11) c5] 137);obtain⟨V0,V1,V2,V3,VF⟩:=fW w1 (iV (g k 1:Nat)) (iV (g k 2:Nat)) (iV (Seg.rz g k:Nat)) (.slice (some (aD g5 0)) (L k-11) c5);have A0:=hP.own.lt;have A2:(w1.alloc (.cells #[iV (g k 1:Nat),iV (g k 2:Nat),iV (Seg.rz g k:Nat),.slice (some (aD g5 0)) (L k-11) c5] 137)).heap.size=w1.heap.size+1:=by simp
    have bX:=(Below.refl (w1.alloc (.cells #[iV (g k 1:Nat),iV (g k 2:Nat),iV (Seg.rz g k:Nat),.slice (some (aD g5 0)) (L k-11) c5] 137)).heap.size (w1.alloc (.cells #[iV (g k 1:Nat),iV (g k 2:Nat),iV (Seg.rz g k:Nat),.slice (some (aD g5 0)) (L k-11) c5] 137))).alloc (c9C _) (.cells #[.slice (some (aD g5 0)) (L k-11) c5] 59);have hP:=(hP.bE bV).bE bX;have A1:=(A1.bE bV).bE bX;have BN:=(BN.bE bV).bE bX;have b2:=bt (bt b1 bV) bX;have cx: ∀j u,[Value.slice (some (aD g5 0)) (L k-11) c5][j]?=some u→((w1.alloc (.cells #[iV (g k 1:Nat),iV (g k 2:Nat),iV (Seg.rz g k:Nat),.slice (some (aD g5 0)) (L k-11) c5] 137)).alloc (.cells #[.slice (some (aD g5 0)) (L k-11) c5] 59)).cell? ((⟨w1.heap.size+1,0,none⟩:Addr).add j)=some u:=by
     have q:=fun j u=>dD (w:=(w1.alloc (.cells #[iV (g k 1:Nat),iV (g k 2:Nat),iV (Seg.rz g k:Nat),.slice (some (aD g5 0)) (L k-11) c5] 137))) (v:=.slice (some (aD g5 0)) (L k-11) c5) (t:=59) j u;rw[A2]at q;exact q
    have A3:=hP.own;have A9:=(bX.cell (p:=⟨w1.heap.size,2,none⟩) (by rw[A2];exact d1F _)).trans V2;clear HR V0 V1 V2 VF bV bX;go_upto_region 6 with(at_builtin;go_loud (refine wpList_append_own _ rfl (.tmp 24) (.tmp 27) 86 rfl w.heap.size 59 i0 nS 1 24 underlying86 Ac Ad Ae Af rfl (by decide) _ _ _ rfl A3 (aD (w1.heap.size+1) 0) 1 1 [.slice (some (aD g5 0)) (L k-11) c5] rfl rfl cx (by intro u hu;simp at hu;subst hu;rfl) (by unfold maxLen;omega) (by omega) b2.size ?_;intro v4 w4 hown4 hgrow4 _))
    have b4:=b2.grown hgrow4 b2.size (fun x hx=>(A0 x hx).1);have A5:=hP.step (by rw[Aj.out hp];exact A1) hown4 hgrow4;have B4:=BN.kept (by decide) A3 hgrow4;have V4:=hgrow4.cell A9 (fun e=>d0V _ (A0 _ e.symm).2);clear hP A1 BN A3 hown4 hgrow4 A9 V3 cx;have bY:=(Below.refl w4.heap.size w4).alloc (c9C _) (.cells #[iV (Seg.rz g k:Nat)] 3);have A5:=A5.bE bY;have b5:=bt b4 bY;have BX:=B4.bE bY;have cn:=eE w4 #[iV (Seg.rz g k:Nat)] 3;have A7:=BX.lt;have A8:=hd8 (Al.out hp);clear bY B4 hp;generalize Seg.rz g k=zk at*;go_wp2_with (at_builtin;go_loud (refine wpList_append_own _ rfl (.tmp 30) (.tmp 33) 27 rfl w.heap.size 3 i1 (iV 0) 1 8 underlying27 Ao Ar As At rfl (by decide) _ _ _ rfl BX (aD w4.heap.size 0) 1 1 [iV zk] rfl rfl cn (by intro u hu;simp at hu;rw[hu];rfl) (by unfold maxLen;omega) (by omega) b5.size ?_;intro v6 w6 hown6 hgrow6 _));have B6:=iQ.one hown6;rw[←A8.out]at B6;have b6:=b5.grown hgrow6 b5.size (fun y hy=>(A7 y hy).1);have An:=A5.kept (by decide) (by decide) BX hgrow6;exact⟨⟨k+1,_,by omega,by go_num,An,B6,b6⟩,by simp[intOf];omega⟩
   ·have A1:Pce w1 w.heap.size nS 0 (Seg.rf g k):=Pce.nil _ _ (fun j=>A6.out k j);have bV:=aB8 w1 (.cells #[iV 0,iV 0,iV 0,nS] 137);have A0:=hP.own.lt;have A2:(w1.alloc (.cells #[iV 0,iV 0,iV 0,nS] 137)).heap.size=w1.heap.size+1:=by simp
    have bX:=(Below.refl (w1.alloc (.cells #[iV 0,iV 0,iV 0,nS] 137)).heap.size (w1.alloc (.cells #[iV 0,iV 0,iV 0,nS] 137))).alloc (c9C _) (.cells #[nS] 59);have hP:=(hP.bE bV).bE bX;have A1:=(A1.bE bV).bE bX;have BN:=(BN.bE bV).bE bX;have b2:=bt (bt b1 bV) bX;have cx: ∀j u,[Value.slice none 0 0][j]?=some u→((w1.alloc (.cells #[iV 0,iV 0,iV 0,nS] 137)).alloc (.cells #[nS] 59)).cell? ((⟨w1.heap.size+1,0,none⟩:Addr).add j)=some u:=by
     have q:=fun j u=>dD (w:=(w1.alloc (.cells #[iV 0,iV 0,iV 0,nS] 137))) (v:=nS) (t:=59) j u;rw[A2]at q;exact q
    have A3:=hP.own;have Ah:=hd8 (Ai.out hp);have A8:=hd8 (Ak.out hp);clear HR bV bX hp;go_upto_region 6 with(at_builtin;go_loud (refine wpList_append_own _ rfl (.tmp 24) (.tmp 27) 86 rfl w.heap.size 59 i0 nS 1 24 underlying86 Ac Ad Ae Af rfl (by decide) _ _ _ rfl A3 (aD (w1.heap.size+1) 0) 1 1 [nS] rfl rfl cx (by intro u hu;simp at hu;subst hu;rfl) (by unfold maxLen;omega) (by omega) b2.size ?_;intro v4 w4 hown4 hgrow4 _))
    have b4:=b2.grown hgrow4 b2.size (fun x hx=>(A0 x hx).1);have A5:=hP.step (by rw[Ah.out];exact A1) hown4 hgrow4;have B4:=BN.kept (by decide) A3 hgrow4;rw[←A8.out]at B4;clear hP A1 BN A3 hown4 hgrow4 cx;go_wp2_with fail;exact⟨⟨k+1,_,by omega,by go_num,A5,B4,b4⟩,by simp[intOf];omega⟩
  ·obtain rfl:k=N:=by omega
   have Ag:=hP.lls A6.out;go_wp2_with fail;go_ret2
   exact⟨_,_,rfl,Ag,BN,hb⟩
theorem b7K{g m cap:Nat}{f:Nat→Nat}(h:cA w (.slice (some (aD g 0)) n cap) n f)(hm:m≤n):cA w (.slice (some (aD g 0)) m cap) m f:=by
 obtain⟨bd,A,C,hv,h1,h2,hc⟩:=h;cases hv
 exact⟨bd,_,_,rfl,by omega,h2,fun k hk=>hc k (by omega)⟩
theorem c5L(A:Option Addr)(cap n s:Nat)(L:Nat→Nat)(g:Nat→Nat→Nat)(seg:Int)(w:World)(h:Lls w (.slice A (n+s) cap) (n+s) L g)(h1:1≤n)(h2:n≤8)(h3:s≤4):
  Calls prog 82 #[.slice A (n+s) cap,iV seg,iV n] w fun e w'=> ∃v',e=.returned (.tuple #[v',iV (cS seg n (n+s) L g:Nat)])∧a8P w' (cS seg n (n+s) L g) v' n (n+s) (Seg.rl seg L g) (Seg.rf g) (Seg.rz g (thr (Seg.rl seg L g) (n+s) 0))∧Bl w w':=by
 have Ay:(n:Int)+(s:Int)-(n:Int)=(s:Int):=by omega
 have HW:=fun w'=>dY (n:Int) (s:Int) w';rw[cO (by omega)]at HW;have Ax: ¬n+s=0:=by omega
 have A4:Hid (bZ (n:Int) (((n+s:Nat):Int)-(n:Int))=0):=cO (by omega);have As:=hd8 fun w' hb=>a0G _ (n+s) L g seg w' (h.bE hb) (by omega);clear h;go_enter func82,ntmps82
 go_wp2_with fail;refine(HW _).mono ?_;rintro e w1 ⟨rfl,b1⟩;clear HW;go_wp2_with fail;refine(As.out _ b1).mono ?_;rintro e w2 ⟨vs,vz,rfl,LS,NZ,b2⟩;have b2:=bt b1 b2;obtain⟨Az,Cz,rfl,hz⟩:=kK NZ;have Au:=b2U seg L g (n+s);have A8:Hid ((∃r,r<(szL seg L g (n+s)).length∧decide ((szL seg L g (n+s)).getD r 0≠(szL seg L g (n+s)).getD 0 0)=true)↔ ¬Seg.a5T seg L g (n+s)):=b5Q;have A7:Hid (∀x,x∈szL seg L g (n+s)↔ ∃i,i<n+s∧Seg.right seg L g i∧Seg.rz g i=x):=fun x=>rT;generalize szL seg L g (n+s)=l at NZ hz Au A8 A7;have bV:=(Below.refl w2.heap.size w2).alloc (c9C _) (.cells #[.slice Az l.length Cz] 27);have A6:Hid (∀W,Bl w2 W→ ∀r,r<l.length→ ∃b o,Az=some (aD b o)∧W.cell? (aD b (o+r))=some (iV ((l.getD r 0:Nat):Int))):=fun W hW r hr=>by
  obtain⟨b,o,e1,e2⟩:=hz r hr;exact⟨b,o,e1,cB8 hW e2⟩
 have HV:Hid (∀W,Bl (w2.alloc (.cells #[.slice Az l.length Cz] 27)) W→W.cell? (aD w2.heap.size 0)=some (.slice Az l.length Cz)):=fun W hW=>by
  rw[hW.cell (p:=⟨w2.heap.size,0,none⟩) (by simp)];simp
 have HC:=a0B 116 l.length Cz Az (.pointer (some (aD w2.heap.size 0))) (fun r=>iV ((l.getD r 0:Nat):Int)) (fun r=>decide (l.getD r 0≠l.getD 0 0)) _ Tryz.enters_other (A6.out _ bV) (fun r hr W hW=>by
  obtain⟨b,o,e1,e2⟩:=A6.out W (bt bV hW) 0 (by omega);have e3:=HV.out W hW;subst e1
  exact b7J (l.getD r 0) (l.getD 0 0) l.length Cz w2.heap.size b o W (by omega) e3 (by simpa using e2)) (by omega)
 have LS:=LS.bE bV;have b3:=bt b2 bV;clear hz NZ;go_wp2_with fail;refine HC.mono ?_;rintro e w4 ⟨y,rfl,hy,b4⟩;have HY:=hd8 hy;have A5:=HV.out w4 b4;have Aj:=hd8 fun W hW=>A6.out W (bt (bt bV b4) hW);have LS:=LS.bE b4;have b4:=bt b3 b4;clear HC hy HV A6 bV;cases y with
 |true=>
  have HE:Hid (cS seg n (n+s) L g=8):=by
   show cS seg n (n+s) L g=8;unfold cS;rw[if_neg (fun q=>q A4.out),if_pos (A8.out.1 (HY.out.1 rfl))]
  clear LS A5;go_wp2_with fail;go_ret2
  exact⟨_,by rw[HE.out];rfl,Or.inr ⟨by rw[HE.out];decide,rfl⟩,b4⟩
 |false=>
  have HS:Hid (Seg.a5T seg L g (n+s)):=Classical.byContradiction fun q=>by
   have:=HY.out.2 (A8.out.2 q);cases this
  have HM:=c8T vs (n+s) (Seg.rl seg L g) (Seg.rf g) (n:Int) w4 LS.arg (by unfold maxLen;omega);by_cases hE:eG (n:Int) (n+s) (Seg.rl seg L g)=0
  case neg=>
   have HE:Hid (cS seg n (n+s) L g=eG (n:Int) (n+s) (Seg.rl seg L g)):=by
    show cS seg n (n+s) L g=_;unfold cS;rw[if_neg (fun q=>q A4.out),if_neg (fun q=>q HS.out),if_pos hE]
   have HN:=hd8 hE;have B0:(((eG (n:Int) (n+s) (Seg.rl seg L g):Nat):Int)==0)=false:=by rw[beq_eq_false_iff_ne];omega
   have B7:(((eG (n:Int) (n+s) (Seg.rl seg L g):Nat):Int) !=0)=true:=by rw[bne,B0];rfl
   clear hE LS A5;go_wp2_with fail;refine HM.mono ?_;rintro e w5 ⟨vm,r,rfl,_,_,_,b5⟩;have b5:=bt b4 b5;clear HM;go_wp2_with fail;go_ret2
   exact⟨_,by rw[HE.out];rfl,Or.inr ⟨by rw[HE.out];exact HN.out,rfl⟩,b5⟩
  case pos=>
   have A9:n≤(there (Seg.rl seg L g) (n+s)).length:=by
    refine Nat.le_of_not_lt fun q=>?_;unfold eG at hE;rw[if_neg (fun q=>q A4.out),if_pos (by rw[c9Q];exact q)]at hE;cases hE
   obtain⟨t1,t2⟩:=fI (show 0<(there (Seg.rl seg L g) (n+s)).length by omega);have t3:=Seg.yJ t2;have Am:0<l.length:=by
    have:=(A7.out (Seg.rz g (thr (Seg.rl seg L g) (n+s) 0))).2 ⟨_,t1,t3,rfl⟩;exact List.length_pos_of_mem this
   have A0:l.getD 0 0=Seg.rz g (thr (Seg.rl seg L g) (n+s) 0):=by
    have m0:l.getD 0 0∈l:=by simp[List.getD,Am]
    obtain⟨i,i1,i2,i3⟩:=(A7.out _).1 m0;rw[←i3];exact HS.out i i1 _ t1 i2 t3
   have Ad:Hid (∀b:Prop,(b↔n*Seg.rl seg L g (thr (Seg.rl seg L g) (n+s) 0)<Seg.rz g (thr (Seg.rl seg L g) (n+s) 0))→(b→cS seg n (n+s) L g=8)∧(¬b→cS seg n (n+s) L g=0)):=fun b hb=>by
    have e:cS seg n (n+s) L g=if ((n:Int).toNat*Seg.rl seg L g (thr (Seg.rl seg L g) (n+s) 0)<Seg.rz g (thr (Seg.rl seg L g) (n+s) 0))then 8 else 0:=by
     unfold cS;rw[if_neg (fun q=>q A4.out),if_neg (fun q=>q HS.out),if_neg (fun q=>q hE)]
    rw[c9Q]at e;constructor
    ·intro q;rw[e,if_pos (hb.1 q)]
    ·intro q;rw[e,if_neg (fun z=>q (hb.2 z))]
   rw[hE]at HM;have HF:=hd8 A0;obtain⟨c,hc⟩: ∃c,c=Seg.rl seg L g (thr (Seg.rl seg L g) (n+s) 0):=⟨_,rfl⟩;rw[←hc]at Ad;clear hE LS A9 t1 t2 t3 A0;go_wp2_with fail;refine HM.mono ?_;rintro e w5 ⟨vm,r,rfl,A3,hr,hO,b5⟩;obtain⟨Ao,Ab⟩:=hr trivial;rw[c9Q]at Ab hO;have mx:Mx w5 vm (n+s) c (Gf.mm n (Gf.bH n) (Gf.mm n r (fun p=>Seg.rf g (thr (Seg.rl seg L g) (n+s) p)))):=by
    rw[hc];rcases hO with⟨_,q⟩|⟨q,_⟩
    ·exact q
    ·rcases q with q|q
     ·exact absurd rfl q
     ·exact absurd q Ax
   have Al:=mx.bd;obtain⟨d1,d2,d3,d4⟩:=mx.dim;obtain⟨b,o,p,G,O,K,rfl,hm⟩:=mx.lies;have B5:n+s≤p:=by
    obtain⟨A',n',p',e1,e2⟩:=A3;cases e1
    exact e2
   have Ac:=b0I b o n p c G O K _ w5 ⟨fun r hr=>hm.top r (by omega),fun r hr=>hm.row r (by omega)⟩ Al h1 (by omega) d3 d4;have q1:n≤p:=by omega
   have q2:(n:Int)≤(p:Int):=by omega
   have Ai:=cB8 b5 A5;have Ak:=hd8 fun W hW=>Aj.out W (bt b5 hW);have Ah:Hid (Gf.Bd2 r∧Gf.Und n (fun p=>Gf.bH n (thr (Seg.rl seg L g) (n+s) p)) r):=⟨Ao,Ab⟩;have b5:=bt b4 b5;have Ag:=hd8 (d0Y h2 d4);have Aq:=hd8 hc;clear HM A5 A3 hm mx Ao Ab hc hO Aj;go_wp2_with fail;refine Ac.mono ?_;rintro e w6 ⟨v6,rfl,M6,b6⟩;have B3:=cB8 b6 Ai;obtain⟨bz,oz,rfl,cz⟩:=Ak.out w6 b6 0 Am;rw[d0X]at cz;have b6:=bt b5 b6;have YF:=M6.byts (fun j=>Al _ _);obtain⟨g6,c6,rfl,B6,B4,Av,R6⟩:=M6;have Ag:=Ag.out;have A2:=Ad.out (n*c<l.getD 0 0) (by rw[HF.out]);rw[HF.out]at cz A2;have B2:=hd8 HF.out;have Ae:Hid (∀z,z=Seg.rz g (thr (Seg.rl seg L g) (n+s) 0)→z≤n*c→cS seg n (n+s) L g=0→a8P w6 (cS seg n (n+s) L g) (.slice (some (aD g6 0)) z c6) n (n+s) (Seg.rl seg L g) (Seg.rf g) (Seg.rz g (thr (Seg.rl seg L g) (n+s) 0))):=fun z hz Ap he=>by
    refine Or.inl ⟨he,r,Ah.out.1,Ah.out.2,?_⟩;rw[←hz,←Aq.out];exact b7K YF Ap
   have Aw:c6≤9223372036854775807:=Av;have At:(0:Int)<(l.length:Int):=by omega
   clear Ac Ai R6 YF Ak;generalize hzz:Seg.rz g (thr (Seg.rl seg L g) (n+s) 0)=z at*;generalize n*c=m at*;by_cases An:m<z
   ·have Aa:(m:Int)<(z:Int):=by omega
    have A1:=hd8 (A2.1 An);clear A2;go_wp2_with fail;go_ret2
    exact⟨_,by rw[A1.out];rfl,Or.inr ⟨by rw[A1.out];decide,rfl⟩,b6⟩
   ·have Aa: ¬(m:Int)<(z:Int):=by omega
    have A1:=hd8 (A2.2 An);have Af:=Ae.out z rfl (by omega) A1.out;have Ar:=hd8 Af;have Ap:z≤c6:=by omega
    have B1:(z:Int)≤(c6:Int):=by omega
    clear A2 Af Ae;go_wp2_with fail;go_ret2
    exact⟨_,by rw[A1.out];rfl,by rw[hzz];exact Ar.out,b6⟩
theorem b9O(A:Option Addr)(N cap:Nat)(seg d:Int)(w:World)(hN:N≤maxLen)(h:bZ d ((N:Int)-d)≠0):
  Calls prog 82 #[.slice A N cap,iV seg,iV d] w fun e w'=>e=.returned (.tuple #[nS,iV 5])∧Bl w w':=by
 unfold maxLen at hN;have H:Hid (∀w,Calls prog 12 #[iV d,iV (wrap64 ((N:Int)-d))] w fun e w'=>e=.returned (iV 5)∧Bl w w'):=fun w=>by
  have:=dY d (wrap64 ((N:Int)-d)) w
  rw[cE (by
   unfold bZ at h;split at h
   ·rename_i hb;unfold wrap64;omega
   ·exact absurd rfl h)]at this
  exact this
 clear h hN;go_enter func82,ntmps82
 go_wp2_with fail;refine(H.out _).mono ?_;rintro e w1 ⟨rfl,b1⟩;go_wp2_with fail;go_ret2
 exact⟨rfl,b1⟩
theorem c3A(v:Value)(N:Nat)(L:Nat→Nat)(g:Nat→Nat→Nat)(seg d:Int)(w:World)(h:Lls w v N L g):
  Calls prog 82 #[v,iV seg,iV d] w fun e w'=> ∃v',e=.returned (.tuple #[v',iV (cS seg d N L g:Nat)])∧a8P w' (cS seg d N L g) v' d.toNat N (Seg.rl seg L g) (Seg.rf g) (Seg.rz g (thr (Seg.rl seg L g) N 0))∧Bl w w':=by
 have hN:=h.len;obtain⟨A,C,rfl⟩:=h.sE;by_cases hw:bZ d ((N:Int)-d)=0
 ·have hb: ¬(d<1∨8<d∨(N:Int)-d<0∨4<(N:Int)-d):=fun q=>by rw[cE q]at hw;cases hw
  obtain⟨n,rfl⟩:=d0I (show 0≤d by omega);obtain⟨s,rfl⟩: ∃s,N=n+s:=⟨N-n,by omega⟩;exact c5L A C n s L g seg w h (by omega) (by omega) (by omega)
 ·have hE:cS seg d N L g=5:=if_pos hw;refine(b9O A N C seg d w (by unfold maxLen;omega) hw).mono ?_;rintro e w' ⟨rfl,hb⟩;exact⟨_,by rw[hE];rfl,Or.inr ⟨by rw[hE];decide,rfl⟩,hb⟩
open Go.ChangeShapes Go.WideShapes Go.ChangeAt Go.RowKit
structure jY(w:World)(N b n c:Nat)(G K:Nat→Nat)(f:Nat→Nat→Nat):Prop where
 top:aZ w b 59 n (fun r=> .slice (some ⟨G r,0,none⟩) c (K r))
 row: ∀r,r<n→aZ w (G r) 5 c (fun k=> .int .u8 (f r k:Nat))
 lob:N≤b
 low: ∀r,r<n→N≤G r
 inj: ∀r s,r<n→s<n→r≠s→G r≠G s
theorem jY.apart(h:jY w N b n c G K f)(r:Nat)(hr:r<n):G r≠b:=(h.row r hr).ne h.top (by decide)
theorem jY.bE{w':World}(h:jY w N b n c G K f)(hb:Bl w w'):jY w' N b n c G K f:=
 ⟨h.top.bE hb,fun r hr=>(h.row r hr).bE hb,h.lob,h.low,h.inj⟩
theorem jY.drew(h:jY w N b n c G K f):jY w.drew N b n c G K f:=⟨h.top,h.row,h.lob,h.low,h.inj⟩
theorem jY.congr(h:jY w N b n c G K f)(he: ∀i,i<n→ ∀j,j<c→f i j=f' i j):jY w N b n c G K f':=
 ⟨h.top,fun i hi=>(h.row i hi).congr (fun j hj=>by rw[he i hi j hj]),h.lob,h.low,h.inj⟩
theorem jY.swap{a p:Nat}(h:jY w N b n c G K f)(ha:a<n)(hp:p<n):
  jY ((w.setCell (aD b a) (.slice (some ⟨G p,0,none⟩) c (K p))).setCell (aD b p) (.slice (some ⟨G a,0,none⟩) c (K a))) N b n c (nY a p G) (nY a p K) (Gf.swp a p f):=by
 have es: ∀i,i<n→ ∃s,s<n∧nY a p G i=G s∧Gf.swp a p f i=f s∧s=(if i=a then p else if i=p then a else i):=fun i hi=>by
  unfold nY Gf.swp;by_cases h1:i=a
  ·exact⟨p,hp,by rw[if_pos h1],by rw[if_pos h1],by rw[if_pos h1]⟩
  ·by_cases h2:i=p
   ·exact⟨a,ha,by rw[if_neg h1,if_pos h2],by rw[if_neg h1,if_pos h2],by rw[if_neg h1,if_pos h2]⟩
   ·exact⟨i,hi,by rw[if_neg h1,if_neg h2],by rw[if_neg h1,if_neg h2],by rw[if_neg h1,if_neg h2]⟩
 refine⟨((h.top.set a _).set p _).congr (fun i _=>?_),fun i hi=>?_,h.lob,fun i hi=>?_,fun i j hi hj hne=>?_⟩
 ·unfold nY;by_cases h2:i=p
  ·rw[if_pos h2];by_cases h1:i=a
   ·rw[if_pos h1,if_pos h1,←h1,←h2]
   ·rw[if_neg h1,if_pos h2,if_neg h1,if_pos h2]
  ·rw[if_neg h2];by_cases h1:i=a
   ·rw[if_pos h1,if_pos h1,if_pos h1]
   ·rw[if_neg h1,if_neg h1,if_neg h2,if_neg h1,if_neg h2]
 ·obtain⟨s,hs,e1,e2,_⟩:=es i hi;rw[e1,e2];exact((h.row s hs).setOther (h.apart s hs) _).setOther (h.apart s hs) _
 ·obtain⟨s,hs,e1,_,_⟩:=es i hi;rw[e1];exact h.low s hs
 ·obtain⟨s,hs,e1,_,e3⟩:=es i hi;obtain⟨t,ht,d1,_,d3⟩:=es j hj;rw[e1,d1];refine h.inj s t hs ht ?_;rw[e3,d3]
  (repeat' split)<;>omega
theorem jY.put{i:Nat}(h:jY w N b n c G K f)(hi:i<n)(_hk:k<c)(he: ∀r j,r<n→j<c→f' r j=if r=i∧j=k then x else f r j):
  jY (w.setCell ⟨G i,k,none⟩ (.int .u8 x)) N b n c G K f':=
 ⟨h.top.setOther (fun e=>h.apart i hi e.symm) _,fun r hr=>by
  by_cases e:r=i
  ·subst e
   refine((h.row r hr).set k _).congr (fun j hj=>?_)
   show(if j=k then _ else _)=_
   rw[he r j hr hj]
   by_cases ej:j=k
   ·rw[if_pos ej,if_pos ⟨rfl,ej⟩]
   ·rw[if_neg ej,if_neg (fun h=>ej h.2)]
  ·refine((h.row r hr).setOther (h.inj r i hr hi e) _).congr (fun j hj=>?_)
   rw[he r j hr hj,if_neg (fun h=>e h.1)],h.lob,h.low,h.inj⟩
theorem c1M(a p:Nat)(W:Nat→Nat→Nat):Gf.swp a p W=Gf.swp p a W:=by
 funext i
 unfold Gf.swp;by_cases h1:i=a
 ·by_cases h2:i=p
  ·rw[if_pos h1,if_pos h2,←h1,←h2]
  ·rw[if_pos h1,if_neg h2,if_pos h1]
 ·by_cases h2:i=p
  ·rw[if_neg h1,if_pos h2,if_pos h2]
  ·rw[if_neg h1,if_neg h2,if_neg h2,if_neg h1]
def wC(c t x:Nat)(W:Nat→Nat→Nat)(i j:Nat):Nat:=if i=c∧j<t then Gf.mul (W i j) x else W i j
theorem b0D(c t x:Nat)(W:Nat→Nat→Nat)(i j:Nat):wC c (t+1) x W i j=if i=c∧j=t then Gf.mul (W c t) x else wC c t x W i j:=by
 unfold wC;by_cases h:i=c∧j=t
 ·rw[if_pos h,if_pos ⟨h.1,by omega⟩,h.1,h.2]
 ·rw[if_neg h];by_cases h2:i=c∧j<t
  ·rw[if_pos h2,if_pos ⟨h2.1,by omega⟩]
  ·rw[if_neg h2,if_neg (fun h3=>h2 ⟨h3.1,by
    have:j≠t:=fun e=>h ⟨h3.1,e⟩
    omega⟩)]
def lM(c i t:Nat)(W:Nat→Nat→Nat)(r j:Nat):Nat:=if r<i∨(r=i∧j<t)then Gf.add c W r j else W r j
theorem zT(c i t:Nat)(W:Nat→Nat→Nat)(r j:Nat):lM c i (t+1) W r j=if r=i∧j=t then Gf.add c W i t else lM c i t W r j:=by
 unfold lM;by_cases h:r=i∧j=t
 ·rw[if_pos h,if_pos (Or.inr ⟨h.1,by omega⟩),h.1,h.2]
 ·rw[if_neg h];by_cases h2:r<i∨(r=i∧j<t)
  ·rw[if_pos h2,if_pos (by omega)]
  ·rw[if_neg h2,if_neg (by omega)]
end Go.Proofs.YtmcaejooaaahdaaGreat
