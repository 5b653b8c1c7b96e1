import Derived.Test.YtmcaejooaaahdaaGreatZ13
import Derived.Test.YtmcaejooaaahdaaGreatZ14
set_option maxHeartbeats 8000000
set_option maxRecDepth 100000
namespace Go.Proofs.YtmcaejooaaahdaaGreat
open Go.Proofs.Tryz
variable {D N g i k n p s x:Nat} {L:Nat→Nat} {S:Nat→Prop} {V:Nat→Value} {cs:List Value} {f:Nat→Nat→Nat} {r:List Nat} {t:TypeId} {v:Value} {w w':World}
open Go.RowKit
def iQ(w:World)(N:Nat)(v:Value)(l:List Nat):Prop:=w.ownsRow N 3 1 v l.length (l.map fun x:Nat=>Value.int .i64 x)
theorem Tryz.infoInt:(Tryz.prog.info? 3).map (fun i=>(i.zero,i.size,i.bytes))=some (some (iV 0),1,8):=by kernel_rfl
theorem iQ.nil(w:World)(N:Nat):iQ w N nS []:=World.ownsRow_nil w N _ 1
theorem iQ.bE{l:List Nat}(h:iQ w N v l)(hb:Bl w w'):iQ w' N v l:=aK h hb
theorem iQ.one{l:List Nat}(h:w.ownsRow N 3 1 v (l.length+1) ((l.map fun x:Nat=>Value.int .i64 x)++[iV x])):iQ w N v (l++[x]):=by
 unfold iQ;rw[c9I,c9U];exact h
theorem zZ(s:Int)(L:Nat→Nat)(g:Nat→Nat→Nat)(k:Nat):(Seg.kI s L g k).length≤k:=by
 unfold Seg.kI;exact c9E (d2P _ _) (by simp)
theorem Acc.lls{c:Nat}{G K:Nat→Nat}(h:Acc w N v k c G K f)(bd:Gf.Bd2 f)(hK: ∀i,i<k→c≤K i∧K i≤maxLen):Lls w v k (fun _=>c) f:=by
 rcases h.own.2 with⟨rfl,h0⟩|⟨g,A0,A1,rfl,_,_,h1,h2,_,_⟩
 ·subst h0;exact⟨bd,none,0,rfl,c9C _,c9D _,fun r hr=>absurd hr (c9L r)⟩
 ·refine⟨bd,some (aD g 0),A0,rfl,h1,h2,fun r hr=>⟨g,0,.slice (some ⟨G r,0,none⟩) c (K r),rfl,?_,?_⟩⟩
  ·have:=h.own.cells (g:=g) rfl r (.slice (some ⟨G r,0,none⟩) c (K r)) (by simp[hr]);rw[WideShapes.add_plain]at this;exact this
  ·exact lE (bd r) (h.row r hr).2 (hK r hr).1 (hK r hr).2
theorem b9L(w:World)(N:Nat)(v:Value)(d s c:Nat)(G K G' K':Nat→Nat)(f f':Nat→Nat→Nat)(N':Nat)(vm:Value)(hds:d+s≤1000)(hN:N≤w.heap.size)(hNN:N≤N')(hA:Acc w N v d c G K f)(hM:Acc w N' vm s c G' K' f')(hs:1≤s):
  ∃v' w',(Builtin.append_ #[86,86] 86 #[v,vm]).run prog w=.ok v' w'∧Below N w w'∧Acc w' N v' (d+s) c (fun i=>if i<d then G i else G' (i-d)) (fun i=>if i<d then K i else K' (i-d)) (fun i=>if i<d then f i else f' (i-d)):=by
 obtain⟨i0,hi,hh⟩:=c9J.1 Tryz.infoRow;simp only[Prod.mk.injEq]at hh;obtain⟨A2,A3,A4⟩:=hh;obtain⟨gm,cm,rfl,_,_,hr⟩:=eD hM.own hs
 obtain⟨v',w',A1,ho,hg,_⟩:=run_append_own (P:=prog) w N 86 86 59 i0 nS 1 24 underlying86 hi A2 A3 A4 rfl (by decide) v d _ hA.own (aD gm 0) s cm ((List.range s).map fun i=> .slice (some ⟨G' i,0,none⟩) c (K' i)) (by simp) (fun j u hj=>hM.own.cells (g:=gm) rfl j u hj) (fun u hu=>by
  obtain⟨_,_,rfl⟩:=d0G.1 hu
  rfl) (by unfold maxLen;omega) (by omega) hN
 have A0: ∀x F,aZ w x 5 c F→aZ w' x 5 c F:=fun x F hx=>hx.of_block (hg.block x hx.lt (fun e=>by
  obtain⟨F2,h2⟩:=fL hA.own e.symm
  exact hx.ne h2 (by decide) rfl))
 refine⟨v',w',A1,(Below.refl N w).grown hg hN (fun x hx=>(hA.own.lt x hx).1),?_,fun i hi=>?_⟩
 ·have e:(List.range (d+s)).map (fun i=>Value.slice (some ⟨if i<d then G i else G' (i-d),0,none⟩) c (if i<d then K i else K' (i-d)))=((List.range d).map fun i=> .slice (some ⟨G i,0,none⟩) c (K i))++((List.range s).map fun i=> .slice (some ⟨G' i,0,none⟩) c (K' i)):=by
   rw[List.range_add,c9U,List.map_map];refine congr (congrArg _ ?_) ?_
   ·refine d1H (fun i hi=>?_);have:=d0D.1 hi;rw[if_pos this,if_pos this]
   ·refine d1H (fun i _=>?_);show Value.slice (some ⟨if d+i<d then G (d+i)else G' (d+i-d),0,none⟩) c (if d+i<d then K (d+i)else K' (d+i-d))=_;rw[if_neg (by omega),if_neg (by omega),d2G]
  rw[e];exact ho
 ·by_cases e:i<d
  ·simp only[if_pos e];exact⟨(hA.row i e).1,A0 _ _ (hA.row i e).2⟩
  ·simp only[if_neg e];exact⟨c9E hNN (hM.row (i-d) (by omega)).1,A0 _ _ (hM.row (i-d) (by omega)).2⟩
theorem mX{d:Nat}{D:Nat→Nat→Nat}(hD:Gf.Bd2 D)(hi:i<d)(k:Nat):Gf.mm d (Gf.bH d) D i k=D i k:=by
 refine Eq.trans (Gf.mE (a':=Gf.one) (b':=D) (fun j _=>if_pos hi) (fun _ _=>rfl)) (Gf.b1V hD k hi)
theorem qD{f':Nat→Nat→Nat}(h:Lls w v n L f)(bd:Gf.Bd2 f')(e: ∀i,i<n→ ∀k,k<L i→f i k=f' i k):Lls w v n L f':=by
 obtain⟨A,A0,hv,h1,h2,hr⟩:=h.lies;refine⟨bd,A,A0,hv,h1,h2,fun r hrn=>?_⟩;obtain⟨b,o,u,e1,e2,_,A',C',e3,e4,e5,e6⟩:=hr r hrn;refine⟨b,o,u,e1,e2,bd r,A',C',e3,e4,e5,fun k hk=>?_⟩;obtain⟨b',o',e7,e8⟩:=e6 k hk;exact⟨b',o',e7,by rw[←e r hrn k hk];exact e8⟩
def c8N(w:World)(E:Nat)(v:Value)(N m:Nat)(F:Nat→Nat→Nat):Prop:=(E=0∧Lls w v N (fun _=>m) F)∨(E≠0∧v=nS)
theorem b4A{L seg d:Nat}(h1:1≤d)(h2:d≤8)(h3:s≤4)(h4:seg≤39)(h5:L≤400*d):Seg.gW L seg d s=0:=by
 unfold Seg.gW;rw[if_neg (by omega),if_neg (by omega),if_neg (by omega)]
def cS(seg:Int)(d:Int)(N:Nat)(L:Nat→Nat)(g:Nat→Nat→Nat):Nat:=
 if bZ d ((N:Int)-d)≠0 then 5 else if¬Seg.a5T seg L g N then 8 else if eG d N (Seg.rl seg L g)≠0 then eG d N (Seg.rl seg L g)
 else if d.toNat*Seg.rl seg L g (thr (Seg.rl seg L g) N 0)<Seg.rz g (thr (Seg.rl seg L g) N 0)then 8 else 0
def a8P(w:World)(E:Nat)(v:Value)(n N:Nat)(L:Nat→Nat)(f:Nat→Nat→Nat)(z:Nat):Prop:=
 (E=0∧ ∃r,Gf.Bd2 r∧Gf.Und n (fun p=>Gf.bH n (thr L N p)) r∧cA w v z (fun k=>Gf.mm n (Gf.bH n) (Gf.mm n r (fun p=>f (thr L N p))) (k/L (thr L N 0)) (k%L (thr L N 0))))∨(E≠0∧v=nS)
def b8W{α:Type}(Q:Nat→α)(k:Nat)(e:α)(i:Nat):α:=if i=k then e else Q i
theorem sF{α:Type}(Q:Nat→α)(k:Nat)(e:α):b8W Q k e k=e:=if_pos rfl
theorem sH{α:Type}(Q:Nat→α)(e:α)(h:i≠k):b8W Q k e i=Q i:=if_neg h
theorem pR(U:Nat→Value)(k:Nat)(u:Value):(List.range (k+1)).map (b8W U k u)=(List.range k).map U++[u]:=by
 rw[d1G,c9U];refine congr (congrArg _ ?_) ?_
 ·refine d1H (fun i hi=>sH _ _ ?_);have:=d0D.1 hi;omega
 ·show[b8W U k u k]=[u];rw[sF]
theorem cA.none(w:World){f:Nat→Nat}(hf:Bd f):cA w (.slice Option.none 0 0) 0 f:=⟨hf,Option.none,0,rfl,c9C _,c9D _,fun i hi=>absurd hi (c9L i)⟩
theorem b3O{wr:World}{y:Value}{U:Nat→Value}(ho:wr.ownsRow N 59 1 y n ((List.range n).map U))(hU: ∀i,i<n→cA w (U i) (L i) (f i))(hb:Bl w wr)(bd:Gf.Bd2 f):Lls wr y n L f:=by
 rcases ho.2 with⟨rfl,h0⟩|⟨g,A0,A1,rfl,_,_,h1,h2,_,_⟩
 ·subst h0;exact⟨bd,none,0,rfl,c9C _,c9D _,fun r hr=>absurd hr (c9L r)⟩
 ·refine⟨bd,some (aD g 0),A0,rfl,h1,h2,fun r hr=>⟨g,0,U r,rfl,?_,(hU r hr).bE hb⟩⟩;have:=ho.cells (g:=g) rfl r (U r) (by simp[hr]);rw[WideShapes.add_plain]at this;exact this
theorem c6F(F:Nat→Nat→Nat)(n c j:Nat)(hc:1≤c)(hj:j<n*c):((List.range n).flatMap (fun p=>(List.range c).map (F p))).getD j 0=F (j/c) (j%c):=by
 have h1:j/c<n:=by
  rw[Nat.div_lt_iff_lt_mul (by omega)];exact hj
 have h2:j%c<c:=Nat.mod_lt _ (by omega);have h3:=dQ (fun p=>(List.range c).map (F p)) c (List.range n) (fun _ _=>by simp) (j/c) (j%c) h2 (j/c) (by simp[h1]);rw[show j/c*c+j%c=j by rw[Nat.mul_comm];exact Nat.div_add_mod j c]at h3;rw[c9R,h3];simp[h2]
theorem b0E{l:List Nat}{z j:Nat}(hb: ∀x,x∈l→x<256)(hz:z≤l.length)(hj:j<z):(((fF l).extract 0 z).data.toList.getD j 0).toNat=l.getD j 0:=by
 have h1:(fF l).data.toList=l.map UInt8.ofNat:=by rw[←d2C];exact l7 l
 have h2:((fF l).extract 0 z).data.toList=(l.map UInt8.ofNat).take z:=by
  rw[ByteArray.data_extract,Array.toList_extract,h1];simp
 have A0:j<l.length:=by omega
 rw[h2,c9R,d0C,if_pos hj,c9S,c9F A0];have:=hb _ (List.getElem_mem A0);simp[List.getD,A0];omega
def a1T(n N:Nat)(L:Nat→Nat)(f r:Nat→Nat→Nat)(k:Nat):Nat:=Gf.mm n (Gf.bH n) (Gf.mm n r (fun p=>f (thr L N p))) (k/L (thr L N 0)) (k%L (thr L N 0))
section
variable {r : Nat → Nat} {L seg d s : Nat} {M : Nat → Bool} {Ls : Nat → Nat} {g : Nat → Nat → Nat}
end
end Go.Proofs.YtmcaejooaaahdaaGreat
namespace Go.Proofs.YtmcaejooaaahdaaGreat.Gf
open Go.Proofs.Tryz
theorem a6S{n:Nat}{m:Nat→Nat→Nat}(hm:Bd2 m):(∃r,Bd2 r∧Und n m r)∨a5U n m:=by
 have A0: ∀k,k≤n→(∃W,oY n m (fun j=>j<k) W)∨a5U n m:=by
  intro k;induction k with
  |zero=>exact fun _=>Or.inl ⟨_,oY.start hm fun j=>c9L j⟩
  |succ k ih=>
   intro hk;rcases ih (by omega)with⟨W,hW⟩|hs
   ·by_cases q: ∃p,p<n∧ ¬p<k∧W p k≠0
    ·obtain⟨p,p1,p2,p3⟩:=q;exact Or.inl ⟨_,hW.step (D':=fun j=>j<k+1) (show k<n by omega) p1 (d0V k) p2 p3 fun j hj=>by omega⟩
    ·exact Or.inr (hW.fails (show k<n by omega) (d0V k) fun i hi hn=>Classical.byContradiction fun z=>q ⟨i,hi,hn,z⟩)
   ·exact Or.inr hs
 rcases A0 n (Nat.le_refl n)with⟨W,hW⟩|hs
 ·exact Or.inl ⟨_,fun i j=>hW.bd i (n+j),hW.done hm fun j hj=>hj⟩
 ·exact Or.inr hs
end Go.Proofs.YtmcaejooaaahdaaGreat.Gf
namespace Go.Proofs.YtmcaejooaaahdaaGreat.Sto
open Go.Proofs.Tryz
open Evt (Ev Bat)
def fO(bs:List (List Nat))(i:Nat):Nat:=(bs.getD i []).length
def eK(bs:List (List Nat))(i k:Nat):Nat:=(bs.getD i []).getD k 0
def lX(r:List Nat)(k:Nat)(c:Cfg):Nat×List (List Nat):=
 if Seg.gW r.length k c.d c.s=0 then(0,(List.range (c.d+c.s)).map fun i=>bl (Seg.blk (fun j=>r.getD j 0) r.length k c.d i) (Seg.dF r.length c.d+11))else(Seg.gW r.length k c.d c.s,[])
structure dE(X:Six):Prop where
 lay: ∀r k c,X.lay r k c=lX r k c
 bad: ∀bs k,X.bad bs k=Seg.kI k (fO bs) (eK bs) bs.length
 err: ∀bs k c,(X.read bs k c).1=cS k c.d bs.length (fO bs) (eK bs)
 told: ∀bs k c,(X.read bs k c).1=0→ ∀r,Gf.Bd2 r→Gf.Und c.d (fun p=>Gf.bH c.d (thr (Seg.rl k (fO bs) (eK bs)) bs.length p)) r→
  (X.read bs k c).2=bl (a1T c.d bs.length (Seg.rl k (fO bs) (eK bs)) (Seg.rf (eK bs)) r) (Seg.rz (eK bs) (thr (Seg.rl k (fO bs) (eK bs)) bs.length 0))
 none: ∀bs k c,(X.read bs k c).1≠0→(X.read bs k c).2=[]
 mend: ∀bs k c,X.mend bs k c=if (X.read bs k c).1≠0 then((X.read bs k c).1,[])else lX (X.read bs k c).2 k c
theorem b2K{n N:Nat}{L:Nat→Nat}{f r r':Nat→Nat→Nat}(hr:Gf.Bd2 r)(hr':Gf.Bd2 r')(h:Gf.Und n (fun p=>Gf.bH n (thr L N p)) r)(h':Gf.Und n (fun p=>Gf.bH n (thr L N p)) r')(k:Nat):a1T n N L f r k=a1T n N L f r' k:=by
 unfold a1T;refine Gf.mE (fun _ _=>rfl) (fun p hp=>Gf.mE (fun q hq=>?_) (fun _ _=>rfl));exact h.uniq (fun p=>Gf.eM n _) hr hr' h' p q hp hq
theorem six: ∃X:Six,dE X:=by
 have h: ∀x:List (List Nat)×Nat×Cfg,∃y:Nat×List Nat,y.1=cS x.2.1 x.2.2.d x.1.length (fO x.1) (eK x.1)∧
   (y.1=0→ ∀r,Gf.Bd2 r→Gf.Und x.2.2.d (fun p=>Gf.bH x.2.2.d (thr (Seg.rl x.2.1 (fO x.1) (eK x.1)) x.1.length p)) r→y.2=bl (a1T x.2.2.d x.1.length (Seg.rl x.2.1 (fO x.1) (eK x.1)) (Seg.rf (eK x.1)) r) (Seg.rz (eK x.1) (thr (Seg.rl x.2.1 (fO x.1) (eK x.1)) x.1.length 0)))∧(y.1≠0→y.2=[]):=fun x=>by
  by_cases q:cS x.2.1 x.2.2.d x.1.length (fO x.1) (eK x.1)=0∧ ∃r,Gf.Bd2 r∧Gf.Und x.2.2.d (fun p=>Gf.bH x.2.2.d (thr (Seg.rl x.2.1 (fO x.1) (eK x.1)) x.1.length p)) r
  ·obtain⟨q0,r,r1,r2⟩:=q;refine⟨(0,bl (a1T x.2.2.d x.1.length (Seg.rl x.2.1 (fO x.1) (eK x.1)) (Seg.rf (eK x.1)) r) (Seg.rz (eK x.1) (thr (Seg.rl x.2.1 (fO x.1) (eK x.1)) x.1.length 0))),q0.symm,fun _ r' h1 h2=>?_,fun z=>absurd rfl z⟩;exact congrArg (fun f=>bl f _) (funext fun k=>b2K (f:=Seg.rf (eK x.1)) r1 h1 r2 h2 k)
  ·exact⟨(cS x.2.1 x.2.2.d x.1.length (fO x.1) (eK x.1),[]),rfl,fun z r h1 h2=>absurd ⟨z,r,h1,h2⟩ q,fun _=>rfl⟩
 obtain⟨f,hf⟩:=Classical.skolem.1 h
 exact⟨⟨lX,fun bs k c=>f (bs,k,c),fun bs k=>Seg.kI k (fO bs) (eK bs) bs.length,fun bs k c=>if (f (bs,k,c)).1≠0 then((f (bs,k,c)).1,[])else lX (f (bs,k,c)).2 k c⟩,
  fun _ _ _=>rfl,fun _ _=>rfl,fun bs k c=>(hf (bs,k,c)).1,fun bs k c=>(hf (bs,k,c)).2.1,fun bs k c=>(hf (bs,k,c)).2.2,fun _ _ _=>rfl⟩
theorem l5(g:Nat→Nat)(n:Nat):(bl g n).length=n:=by
 unfold bl;rw[c9M,d1E]
theorem mV(g:Nat→Nat){n k:Nat}(h:k<n):(bl g n)[k]?=some (g k):=by
 unfold bl;rw[c9S,List.getElem?_range h];rfl
theorem c8Z(g:Nat→Nat){n k:Nat}(h:k<n):(bl g n).getD k 0=g k:=by
 rw[c9R,mV g h];rfl
theorem b3G(r:List Nat):bl (fun j=>r.getD j 0) r.length=r:=by
 apply d1I;intro i;by_cases hi:i<r.length
 ·rw[mV _ hi,c9R,c9F hi];rfl
 ·rw[c9Z (by rw[l5];omega),c9Z (by omega)]
theorem yB{L seg d s:Nat}(h:Seg.gW L seg d s=0):1≤d∧d≤8∧s≤4∧seg≤39∧L≤400*d:=by
 unfold Seg.gW at h;by_cases q1:(d:Int)<1∨8<(d:Int)∨(s:Int)<0∨4<(s:Int)
 ·rw[if_pos q1]at h;cases h
 rw[if_neg q1]at h;by_cases q2:(seg:Int)<0∨39<(seg:Int)
 ·rw[if_pos q2]at h;cases h
 rw[if_neg q2]at h;by_cases q3:400*(d:Int)<(L:Int)
 ·rw[if_pos q3]at h;cases h
 omega
theorem oE{r:List Nat}{k:Nat}{c:Cfg}{L:List (List Nat)}(h:lX r k c=(0,L)):(1≤c.d∧c.d≤8∧c.s≤4∧k≤39∧r.length≤400*c.d)∧L.length=c.d+c.s∧ ∀i,i<c.d+c.s→L.getD i []=bl (Seg.blk (fun j=>r.getD j 0) r.length k c.d i) (Seg.dF r.length c.d+11):=by
 unfold lX at h;by_cases q:Seg.gW r.length k c.d c.s=0
 ·rw[if_pos q]at h;have h:=(Prod.mk.inj h).2;subst h;refine⟨yB q,by rw[c9M,d1E],fun i hi=>?_⟩;rw[c9R,c9S,List.getElem?_range hi];rfl
 ·rw[if_neg q]at h;exact absurd (Prod.mk.inj h).1 q
theorem kH{r:List Nat}(h:Evt.bP r)(k:Nat):r.getD k 0<256:=by
 by_cases hk:k<r.length
 ·rw[c9R,c9F hk];exact h _ (List.getElem_mem hk)
 ·rw[c9R,c9Z (by omega)];decide
section
variable {X : Six} {c : Cfg} {bs : List (List Nat)} {r : List Nat} {k : Nat} {L : List (List Nat)}
end
end Go.Proofs.YtmcaejooaaahdaaGreat.Sto
namespace Go.Proofs.YtmcaejooaaahdaaGreat
open Go.Proofs.Tryz
variable {D N g i k n p s x:Nat} {L:Nat→Nat} {S:Nat→Prop} {V:Nat→Value} {cs:List Value} {f:Nat→Nat→Nat} {r:List Nat} {t:TypeId} {v:Value} {w w':World}
open Go.RowKit
def TyB(w:World)(k:Nat)(t:TypeId):Prop:= ∃F,aZ w k t 0 F
theorem aZ.ty{F:Nat→Value}(h:aZ w g t n F):TyB w g t:=by
 obtain⟨m,F',hr,hm,_⟩:=h;exact⟨F,m,F',hr,c9D _,fun j hj=>absurd hj (c9L j)⟩
theorem TyB.lt(h:TyB w k t):k<w.heap.size:=by
 obtain⟨F,h⟩:=h;exact h.lt
theorem TyB.ne{k':Nat}{t':TypeId}(h:TyB w k t)(h':TyB w k' t')(ht:t≠t'):k≠k':=by
 obtain⟨F,h⟩:=h;obtain⟨F',h'⟩:=h';exact h.ne h' ht
theorem TyB.of_block(h:TyB w k t)(e:w'.heap[k]?=w.heap[k]?):TyB w' k t:=by
 obtain⟨F,h⟩:=h;exact⟨F,h.of_block e⟩
theorem TyB.bE(h:TyB w k t)(hb:Bl w w'):TyB w' k t:=h.of_block (hb.block k h.lt)
theorem aU{xs:List Value}(h:w.ownsRow N t s v n xs)(hg:v.ownBlock=some g):TyB w g t:=by
 obtain⟨A0,e⟩:=iY h hg;exact⟨fun j=>A0.getD j nS,A0.size,fun j=>A0.getD j nS,⟨A0,e,rfl,fun i hi=>by simp[hi]⟩,c9D _,fun j hj=>absurd hj (c9L j)⟩
theorem zR(w:World)(g:Nat)(a:Array Value):Off (fun k=>(Value.slice (some (aD g 0)) 0 0).ownBlock=some k) w (w.drew.setRow g a):=
 ⟨rfl,rfl,rfl,(below_setRow (w0:=w) (w:=w.drew) (B:=0) ⟨rfl,rfl,rfl,c9C _,fun _ _=>rfl⟩ (c9D _) a).size,fun k _ hk=>by
  have hne:k≠g:=fun e=>hk (by rw[e];rfl)
  rw[setRow_other _ _ _ _ hne]
  rfl⟩
def aV(w:World)(p:Nat)(t:TypeId)(cs:List Value):Prop:=aZ w p t cs.length (fun j=>cs.getD j nS)
theorem aV.cell(h:aV w p t cs){u:Value}(hi:cs[i]?=some u):w.cell? (aD p i)=some u:=by
 rw[aZ.cell h (c9H.1 hi).1,c9R,hi];rfl
theorem aV.frozen(h:aV w p t cs)(i:Nat):w.frozen? (aD p i)=false:=aZ.frozen h i
theorem aV.set(h:aV w p t cs)(i:Nat)(v:Value)(hi:i<cs.length):aV (w.setCell (aD p i) v) p t (cs.set i v):=by
 unfold aV;rw[d0B];refine(aZ.set h i v).congr fun j hj=>?_;rw[c9R,c9R];by_cases e:j=i
 ·subst e;rw[if_pos rfl,d0O hi];rfl
 ·rw[if_neg e,d0P (fun z=>e z.symm)]
theorem aV.off(h:aV w p t cs)(ho:Off S w w')(hS: ¬S p):aV w' p t cs:=aZ.of_block h (ho.block p (aZ.lt h) hS)
theorem aV.bE(h:aV w p t cs)(hb:Bl w w'):aV w' p t cs:=aZ.bE h hb
theorem aV.ty(h:aV w p t cs):TyB w p t:=aZ.ty h
theorem aC(w:World)(cs:Array Value)(t:TypeId):aV (w.alloc (.cells cs t)) w.heap.size t cs.toList:=by
 have hr:=World.rowIs_alloc w cs t (fun i=>cs.getD i nS) (fun i hi=>by simp[hi])
 exact⟨_,_,hr,by simp,fun j hj=>by
  have hj:j<cs.size:=by simpa using hj
  simp[List.getD,Array.getD,hj]⟩
abbrev Sl:=Option Addr×Nat×Nat
def slV(q:Sl):Value:=.slice q.1 q.2.1 q.2.2
abbrev HeC:=Int×Sl×List Nat
def aJ(h:HeC):List Value:=[iV h.1,slV h.2.1]
theorem tS(es:List HeC): ∀u∈es.flatMap aJ,u.oneCell'=true:=fun u hu=>by
 obtain⟨x,_,hx⟩:=d2H.1 hu
 simp only[aJ,List.mem_cons,List.not_mem_nil,or_false]at hx
 rcases hx with rfl|rfl<;>rfl
def kV(h:HeC):Int×List Nat:=(h.1,h.2.2)
theorem Tryz.infoH:(Tryz.prog.info? 61).map (fun i=>(i.zero,i.size,i.bytes))=some (some (.agg #[iV 0,nS]),2,32):=by kernel_rfl
theorem xR(es:List HeC):(es.flatMap aJ).length=es.length*2:=fX aJ 2 _ (fun _ _=>rfl)
def aE(x:Int):List Value:=[iV x]
theorem Tryz.infoI:(Tryz.prog.info? 3).map (fun i=>(i.zero,i.size,i.bytes))=some (some (iV 0),1,8):=by kernel_rfl
theorem rL(es:List Int):(es.flatMap aE).length=es.length:=(fX aE 1 _ (fun _ _=>rfl)).trans (d1X _)
theorem rO(es:List Int): ∀u∈es.flatMap aE,u.oneCell'=true:=fun u hu=>by
 obtain⟨x,_,hx⟩:=d2H.1 hu
 simp only[aE,List.mem_cons,List.not_mem_nil,or_false]at hx
 subst hx
 rfl
def eQ(w:World)(N:Nat)(u:Value)(r:List Nat):Prop:=Evt.bP r∧kX w N u r.length (fun j=>r.getD j 0)
theorem eQ.bytL{u:Value}(h:eQ w N u r):cU w u r:=by
 have:=(h.2.byts (Sto.kH h.1)).list;rw[Sto.b3G]at this;exact this
theorem eQ.at{u:Value}(h:eQ w N u r): ∃g cap,u=.slice (some (aD g 0)) r.length cap∧N≤g∧r.length≤cap∧cap≤maxLen∧aZ w g 5 r.length (fun j=> .int .u8 ((r.getD j 0:Nat):Int)):=h.2
theorem eQ.ty{u:Value}(h:eQ w N u r)(hg:u.ownBlock=some g):TyB w g 5:=by
 obtain⟨g',A0,rfl,_,_,_,hr⟩:=h.at;cases hg
 exact hr.ty
theorem eQ.of_block{u:Value}(h:eQ w N u r)(e: ∀g,u.ownBlock=some g→w'.heap[g]?=w.heap[g]?):eQ w' N u r:=by
 obtain⟨h0,g,A0,rfl,h1,h2,h3,hr⟩:=h;exact⟨h0,g,A0,rfl,h1,h2,h3,hr.of_block (e g rfl)⟩
theorem eQ.off{u:Value}(h:eQ w N u r)(ho:Off S w w')(hS: ∀g,u.ownBlock=some g→ ¬S g):eQ w' N u r:=
 h.of_block fun g hg=>ho.block g (h.ty hg).lt (hS g hg)
theorem eQ.bE{u:Value}(h:eQ w N u r)(hb:Bl w w'):eQ w' N u r:=h.of_block fun g hg=>hb.block g (h.ty hg).lt
theorem eQ.lower{M:Nat}{u:Value}(h:eQ w N u r)(hM:M≤N):eQ w M u r:=by
 obtain⟨h0,g,A0,hv,h1,h⟩:=h;exact⟨h0,g,A0,hv,c9E hM h1,h⟩
theorem eQ.ge{u:Value}(h:eQ w N u r)(hg:u.ownBlock=some g):N≤g:=by
 obtain⟨g',A0,rfl,h1,_⟩:=h.at;cases hg
 exact h1
theorem eQ.set{cap:Nat}(h:eQ w N (.slice (some (aD g 0)) n cap) r)(hp:p<r.length)(hx:x<256):eQ (w.setCell (aD g p) (.int .u8 ((x:Nat):Int))) N (.slice (some (aD g 0)) n cap) (r.set p x):=by
 obtain⟨h0,g',A0,hv,h1,h2,h3,hr⟩:=h;cases hv
 refine⟨fun y hy=>?_,g,cap,by rw[d0B],h1,by rw[d0B];exact h2,h3,?_⟩
 ·rcases List.mem_or_eq_of_mem_set hy with q|rfl
  ·exact h0 y q
  ·exact hx
 ·rw[d0B];refine(hr.set p _).congr fun j hj=>?_;show(if j=p then Value.int .u8 ((x:Nat):Int)else Value.int .u8 ((r.getD j 0:Nat):Int))=Value.int .u8 (((r.set p x).getD j 0:Nat):Int);rw[c9R,c9R];by_cases e:j=p
  ·subst e;rw[if_pos rfl,d0O hp];rfl
  ·rw[if_neg e,d0P (fun z=>e z.symm)]
def dkF(V:Nat→Value)(ds:List Sto.aM)(j:Nat):Value:=if j%2=0 then .bool (ds.getD (j/2) ⟨false,[]⟩).gone else V (j/2)
structure dM(w:World)(N D:Nat)(V:Nat→Value)(U:Nat→List HeC)(ds:List Sto.aM):Prop where
 row:aZ w D 58 (ds.length*2) (dkF V ds)
 ge:N≤D
 own: ∀i,i<ds.length→w.ownsRow N 61 2 (V i) (U i).length ((U i).flatMap aJ)
 bl: ∀i d,ds[i]?=some d→d.bl=(U i).map kV
 byt: ∀(i:Nat) (x:HeC),i<ds.length→x∈U i→eQ w N (slV x.2.1) x.2.2
 sepV: ∀i j g,i<ds.length→j<ds.length→(V i).ownBlock=some g→(V j).ownBlock=some g→i=j
 sepU: ∀(i j a b:Nat) (x x':HeC) (g:Nat),i<ds.length→j<ds.length→(U i)[a]?=some x→(U j)[b]?=some x'→(slV x.2.1).ownBlock=some g→(slV x'.2.1).ownBlock=some g→i=j∧a=b
theorem dM.off{U:Nat→List HeC}{ds:List Sto.aM}(h:dM w N D V U ds)(ho:Off S w w')(hS: ∀k,S k→ ∃t,TyB w k t∧t≠58∧t≠61∧t≠5):dM w' N D V U ds:=by
 refine⟨h.row.of_block (ho.block D h.row.lt fun s=>?_),h.ge,fun i hi=>bC (h.own i hi) ho fun g hg s=>?_,h.bl,fun i x hi hx=>(h.byt i x hi hx).off ho fun g hg s=>?_,h.sepV,h.sepU⟩
 ·obtain⟨t,ht,q,_,_⟩:=hS D s;exact ht.ne h.row.ty q rfl
 ·obtain⟨t,ht,_,q,_⟩:=hS g s;exact ht.ne (aU (h.own i hi) hg) q rfl
 ·obtain⟨t,ht,_,_,q⟩:=hS g s;exact ht.ne ((h.byt i x hi hx).ty hg) q rfl
theorem dM.bE{U:Nat→List HeC}{ds:List Sto.aM}(h:dM w N D V U ds)(hb:Bl w w'):dM w' N D V U ds:=
 h.off (Off.oE (S:=fun _=>False) hb) fun _ s=>s.elim
theorem dM.gone{U:Nat→List HeC}{ds:List Sto.aM}(h:dM w N D V U ds){d:Sto.aM}(hi:ds[i]?=some d):w.cell? (aD D (i*2))=some (.bool d.gone):=by
 have hl:i<ds.length:=(c9H.1 hi).1;rw[h.row.cell (show i*2<ds.length*2 by omega)];unfold dkF;rw[if_pos (by omega),show i*2/2=i by omega,c9R,hi];rfl
theorem dM.held{U:Nat→List HeC}{ds:List Sto.aM}(h:dM w N D V U ds)(hi:i<ds.length):w.cell? (aD D (i*2+1))=some (V i):=by
 rw[h.row.cell (show i*2+1<ds.length*2 by omega)];unfold dkF;rw[if_neg (by omega),show(i*2+1)/2=i by omega]
theorem dM.put{w':World}{U:Nat→List HeC}{ds:List Sto.aM}(h:dM w N D V U ds)(hi:i<ds.length)(d':Sto.aM)(v':Value)(hs':List HeC)
  (hrow:aZ w' D 58 (ds.length*2) (dkF (upd V i v') (ds.set i d')))
  (ho:Off (fun k=>k=D∨(V i).ownBlock=some k∨ ∃x,x∈U i∧(slV x.2.1).ownBlock=some k) w w')
  (hown:w'.ownsRow N 61 2 v' hs'.length (hs'.flatMap aJ)) (hbl:d'.bl=hs'.map kV) (hbyt: ∀x:HeC,x∈hs'→eQ w' N (slV x.2.1) x.2.2)
  (hv: ∀g,v'.ownBlock=some g→(V i).ownBlock=some g∨ ∀j,j<ds.length→(V j).ownBlock≠some g)
  (hu: ∀(a:Nat) (x:HeC) (g:Nat),hs'[a]?=some x→(slV x.2.1).ownBlock=some g→(∃x0,x0∈U i∧(slV x0.2.1).ownBlock=some g)∨ ∀(j:Nat) (x1:HeC),j<ds.length→x1∈U j→(slV x1.2.1).ownBlock≠some g)
  (hu2: ∀(a b:Nat) (x x':HeC) (g:Nat),hs'[a]?=some x→hs'[b]?=some x'→(slV x.2.1).ownBlock=some g→(slV x'.2.1).ownBlock=some g→a=b):
  dM w' N D (upd V i v') (upd U i hs') (ds.set i d'):=by
 have A0: ∀(j:Nat) (x x0:HeC) (g:Nat),j≠i→j<ds.length→x∈U j→x0∈U i→(slV x.2.1).ownBlock=some g→(slV x0.2.1).ownBlock=some g→False:=fun j x x0 g hj hl hx A2 h1 h2=>by
  obtain⟨a,ha⟩:=d1K.1 hx;obtain⟨b,hb⟩:=d1K.1 A2;exact hj (h.sepU j i a b x x0 g hl hi ha hb h1 h2).1
 refine⟨by rw[d0B];exact hrow,h.ge,fun j hj=>?_,fun j d hd=>?_,fun j x hj hx=>?_,fun j l g hj hl h1 h2=>?_,fun j l a b x x' g hj hl ha hb h1 h2=>?_⟩
 ·rw[d0B]at hj;by_cases e:j=i
  ·subst e;rw[bM,bM];exact hown
  ·rw[aW _ _ e,aW _ _ e];refine bC (h.own j hj) ho fun g hg s=>?_;have A1:=aU (h.own j hj) hg;rcases s with s|s|⟨x,hx,s⟩
   ·exact A1.ne h.row.ty (by decide) s
   ·exact e (h.sepV j i g hj hi hg s)
   ·exact A1.ne ((h.byt i x hi hx).ty s) (by decide) rfl
 ·by_cases e:j=i
  ·subst e;rw[d0O hi]at hd;cases hd
   rw[bM];exact hbl
  ·rw[d0P (fun z=>e z.symm)]at hd;rw[aW _ _ e];exact h.bl j d hd
 ·rw[d0B]at hj;by_cases e:j=i
  ·subst e;rw[bM]at hx;exact hbyt x hx
  ·rw[aW _ _ e]at hx;refine(h.byt j x hj hx).off ho fun g hg s=>?_;have A1:=(h.byt j x hj hx).ty hg;rcases s with s|s|⟨x0,A2,s⟩
   ·exact A1.ne h.row.ty (by decide) s
   ·exact A1.ne (aU (h.own i hi) s) (by decide) rfl
   ·exact A0 j x x0 g e hj hx A2 hg s
 ·rw[d0B]at hj hl;by_cases e:j=i
  ·by_cases e2:l=i
   ·rw[e,e2]
   ·subst e;rw[bM]at h1;rw[aW _ _ e2]at h2;rcases hv g h1 with q|q
    ·exact h.sepV j l g hj hl q h2
    ·exact absurd h2 (q l hl)
  ·rw[aW _ _ e]at h1;by_cases e2:l=i
   ·subst e2;rw[bM]at h2;rcases hv g h2 with q|q
    ·exact h.sepV j l g hj hl h1 q
    ·exact absurd h1 (q j hj)
   ·rw[aW _ _ e2]at h2;exact h.sepV j l g hj hl h1 h2
 ·rw[d0B]at hj hl;by_cases e:j=i
  ·by_cases e2:l=i
   ·subst e;subst e2;rw[bM]at ha hb;exact⟨rfl,hu2 a b x x' g ha hb h1 h2⟩
   ·subst e;rw[bM]at ha;rw[aW _ _ e2]at hb;rcases hu a x g ha h1 with⟨x0,q1,q2⟩|q
    ·exact(A0 l x' x0 g e2 hl (c9N hb) q1 h2 q2).elim
    ·exact absurd h2 (q l x' hl (c9N hb))
  ·rw[aW _ _ e]at ha;by_cases e2:l=i
   ·subst e2;rw[bM]at hb;rcases hu b x' g hb h2 with⟨x0,q1,q2⟩|q
    ·exact(A0 j x x0 g e hj (c9N ha) q1 h1 q2).elim
    ·exact absurd h1 (q j x hj (c9N ha))
   ·rw[aW _ _ e2]at hb;exact h.sepU j l a b x x' g hj hl ha hb h1 h2
end Go.Proofs.YtmcaejooaaahdaaGreat
