import Derived.Test.YtmcaejooaaahdaaGreatZ22
import Derived.Deep.CutBlock
set_option maxHeartbeats 8000000
set_option maxRecDepth 100000
namespace Go.Proofs.YtmcaejooaaahdaaGreat
open Go.Proofs.Tryz
variable {A A2 A3 A4 C D M N b c g i j k lg m n segs:Nat} {V0:Nat→Value} {X:Sto.Six} {ds:List Sto.Disk} {r r' r2:List Nat} {s:Sto.St} {t:TypeId} {v:Value} {w wA wo wr wr':World} {xs:List Value}
open Go.RowKit
def nP(ds:List Sto.aL):Prop:= ∀(i:Nat) (d:Sto.aL),ds[i]?=some d→ ∀h,h∈d.bl→1≤h.2.length∧h.2.length≤1000
structure WfJ(c:Sto.Cfg)(s:Sto.St):Prop where
 d1:1≤c.d
 d8:c.d≤8
 s4:c.s≤4
 b1:1≤c.b
 b10:c.b≤10
 si:Sto.SI c s.segs s.disks
 segs:s.segs≤40
 tail:s.tail.length<c.b
 bats: ∀b,b∈s.tail→(Evt.aA b).1=0
 len:nP s.disks
 cmds:(s.seen.length:Int)≤s.u
 right:Vw.iQ s.u s.acc
theorem WfJ.dl{c:Sto.Cfg}(h:WfJ c s):s.disks.length=c.d+c.s:=h.si.dl
theorem WfJ.n12{c:Sto.Cfg}(h:WfJ c s):s.disks.length≤12:=by
 have:=h.dl;have:=h.d8;have:=h.s4;omega
theorem WfJ.n1{c:Sto.Cfg}(h:WfJ c s):1≤s.disks.length:=by
 have:=h.dl;have:=h.d1;omega
theorem WfJ.bl{c:Sto.Cfg}(h:WfJ c s){d:Sto.aL}(hd:s.disks[i]?=some d):d.bl.length≤100:=by
 obtain⟨q1,q2,_⟩:=h.si.up i d hd
 have:=xA (a:=0) (m:=(s.segs:Int)) (Sto.oI.1 q1) (fun x hx=>by
  obtain⟨y,hy,rfl⟩:=d0G.1 hx
  exact q2 y hy) (by omega)
 rw[c9M]at this;have:=h.segs;omega
theorem WfJ.seen{c:Sto.Cfg}(h:WfJ c s):s.seen.length≤150:=by
 have:=h.cmds;have:=h.right.hi;omega
theorem b8F{c:Sto.Cfg}(d1:1≤c.d)(d8:c.d≤8)(s4:c.s≤4)(b1:1≤c.b)(b10:c.b≤10):WfJ c (Sto.start c):=
 ⟨d1,d8,s4,b1,b10,Sto.c0R c,c9D _,b1,(fun _ h=>by cases h),(fun i d hd h hh=>by
  have e:=(List.mem_replicate.1 (c9N hd)).2
  subst e
  cases hh),Int.le_refl _,Vw.b7I⟩
theorem b3O(hX:Sto.dE X){c:Sto.Cfg}{L:List (List Nat)}(h:X.lay r k c=(0,L))(hi:i<c.d+c.s):1≤(L.getD i []).length∧(L.getD i []).length≤1000:=by
 rw[hX.lay]at h;obtain⟨⟨q1,_,_,_,q5⟩,_,q3⟩:=Sto.oP h;rw[q3 i hi,Sto.lY];have:=Seg.nA (L:=r.length) q1 q5;omega
theorem a1G{c:Sto.Cfg}{L:List (List Nat)}{k:Int}(hs:Sto.SI c segs ds)(h:nP ds)(hL: ∀i,i<c.d+c.s→1≤(L.getD i []).length∧(L.getD i []).length≤1000):nP (Sto.write k L 0 ds):=fun i d hd x hx=>by
 rw[Sto.kW]at hd
 obtain⟨e,he,rfl⟩:=c9J.1 hd
 have hi:i<c.d+c.s:=by
  rw[←hs.dl];exact(c9H.1 he).1
 by_cases q:e.gone=true
 ·rw[if_pos q]at hx;exact h i e he x hx
 ·rw[if_neg q,c9G]at hx;rcases Sto.a3J (hs.up i e he).1 hx with rfl|⟨z,_⟩
  ·exact hL i hi
  ·exact h i e he x z
theorem pP(hX:Sto.dE X){c:Sto.Cfg}: ∀(m k:Nat) (ds:List Sto.aL) (e n:Nat),k+m=segs→Sto.SI c segs ds→nP ds→nP (Sto.aN X c m k ds e n).1
 |0,_,_,_,_,_,_,h=>h
 |m+1,k,ds,e,n,hk,hs,h=>by
  rw[Sto.aN]
  by_cases q1:X.bad (Sto.aJ ds k) k=[]
  ·rw[if_pos q1]
   exact pP hX m (k+1) ds e n (by omega) hs h
  ·rw[if_neg q1]
   by_cases q2:(X.mend (Sto.aJ ds k) k c).1≠0
   ·rw[if_pos q2]
    exact pP hX m (k+1) ds _ n (by omega) hs h
   ·rw[if_neg q2]
    have q2:=d2J.1 q2
    obtain⟨_,r,_,hr⟩:=Sto.c1D hX (by rw[Sto.aJ,c9M,hs.dl]) q2
    exact pP hX m (k+1) _ e _ (by omega) (hs.write (by omega) _) (a1G hs h fun i hi=>b3O hX hr hi)
theorem a2E(k:Int)(p y:Nat): ∀(l:List (Int×List Nat)) (x:Int×List Nat),x∈Sto.lX k p y l→ ∃z,z∈l∧z.2.length=x.2.length
 |[],x,h=>by cases h
 |h::t,x,hx=>by
  rw[Sto.lX]at hx
  by_cases q:h.1=k
  ·rw[if_pos q]at hx
   rcases List.mem_cons.1 hx with rfl|z
   ·exact⟨h,c9W,by show _=(h.2.set p _).length;rw[d0B]⟩
   ·exact⟨x,c9Y _ z,rfl⟩
  ·rw[if_neg q]at hx
   rcases List.mem_cons.1 hx with rfl|z
   ·exact⟨x,c9W,rfl⟩
   ·obtain⟨w,h1,h2⟩:=a2E k p y t x z
    exact⟨w,c9Y _ h1,h2⟩
theorem b3P(h:nP ds)(n:Nat)(x:Sto.aL)(hx: ∀z,z∈x.bl→1≤z.2.length∧z.2.length≤1000):nP (ds.set n x):=fun i d hd z hz=>by
 by_cases e:i=n
 ·subst e
  rw[List.getElem?_set_self']at hd
  obtain⟨_,_,rfl⟩:=c9J.1 hd
  exact hx z hz
 ·rw[d0P (fun y=>e y.symm)]at hd
  exact h i d hd z hz
theorem b9A(h:nP s.disks)(d:Sto.Do):nP (Sto.nY s d).1.disks:=by
 unfold Sto.nY;split
 ·exact h
 ·rename_i x hx;split
  ·exact h
  ·split
   ·exact h
   ·split
    ·exact b3P h _ _ fun z hz=>by cases hz
    ·split
     ·exact h
     ·split
      ·exact h
      ·refine b3P h _ _ fun z hz=>?_;obtain⟨y,h1,h2⟩:=a2E _ _ _ _ _ hz;rw[←h2];exact h _ _ hx y h1
theorem c5R(hX:Sto.dE X){c:Sto.Cfg}(h:WfJ c s)(d:Sto.Do)(hk:d.kind=1):WfJ c (Sto.put X c s d).1:=by
 have A1:=Sto.b3M (X:=X) h.si d;rw[Sto.xS hk]at A1;unfold Sto.put at A1⊢;by_cases h1:(Evt.aA d.bat).1≠0
 ·rw[if_pos h1];exact h
 rw[if_neg h1]at A1⊢;have h1:=d2J.1 h1;by_cases h2:d.bat.cmd∈s.seen
 ·rw[if_pos h2];exact h
 rw[if_neg h2]at A1⊢;by_cases h3:0≤d.ver∧d.ver≠(Vw.get s.acc d.name).cnt
 ·rw[if_pos h3];exact h
 rw[if_neg h3]at A1⊢;by_cases h4:(Vw.cD s.u s.acc d.bat.evs).1.1≠0
 ·rw[if_pos h4];exact h
 rw[if_neg h4]at A1⊢;have h4:=d2J.1 h4;by_cases h5:(Sto.eR X c s d.bat (Vw.cD s.u s.acc d.bat.evs).2).1≠0
 ·rw[if_pos h5];exact h
 rw[if_neg h5]at A1⊢;have h5:=d2J.1 h5;obtain⟨k1,k2,_⟩:=Vw.qU h4;have he:=(Evt.bN h1).2.2.1;obtain⟨q1,q2,q3⟩:=Sto.c5J h5;have A4:(Sto.eR X c s d.bat (Vw.cD s.u s.acc d.bat.evs).2).2.seen.length=s.seen.length+1:=by
  rw[q1,c9I,d0E];have:=congrArg List.length (d2Q (Sto.below d.bat.cmd s.seen) s.seen);rw[c9I]at this;omega
 have A2:((Sto.eR X c s d.bat (Vw.cD s.u s.acc d.bat.evs).2).2.seen.length:Int)≤(Sto.eR X c s d.bat (Vw.cD s.u s.acc d.bat.evs).2).2.u:=by
  rw[A4,q2,k2];have:=h.cmds;omega
 have hr:Vw.iQ (Sto.eR X c s d.bat (Vw.cD s.u s.acc d.bat.evs).2).2.u (Sto.eR X c s d.bat (Vw.cD s.u s.acc d.bat.evs).2).2.acc:=by
  rw[q2,q3];exact k1
 have A3: ∀b,b∈s.tail++[d.bat]→(Evt.aA b).1=0:=fun b hb=>by
  rcases List.mem_append.1 hb with z|z
  ·exact h.bats b z
  ·rw[d1Z.1 z];exact h1
 have A0:(Sto.eR X c s d.bat (Vw.cD s.u s.acc d.bat.evs).2).2.segs≤40∧(Sto.eR X c s d.bat (Vw.cD s.u s.acc d.bat.evs).2).2.tail.length<c.b∧(∀b,b∈(Sto.eR X c s d.bat (Vw.cD s.u s.acc d.bat.evs).2).2.tail→(Evt.aA b).1=0)∧nP (Sto.eR X c s d.bat (Vw.cD s.u s.acc d.bat.evs).2).2.disks:=by
  unfold Sto.eR at h5⊢;dsimp only at h5⊢;by_cases p1:(s.tail++[d.bat]).length<c.b
  ·rw[if_pos p1];exact⟨h.segs,p1,A3,h.len⟩
  ·rw[if_neg p1]at h5⊢;by_cases p2:(Evt.aF (s.tail++[d.bat])).1≠0
   ·rw[if_pos p2]at h5;exact absurd h5 p2
   ·rw[if_neg p2]at h5⊢;by_cases p3:(X.lay (Evt.iK (s.tail++[d.bat])) s.segs c).1≠0
    ·rw[if_pos p3]at h5;exact absurd h5 p3
    ·rw[if_neg p3];have p3:=d2J.1 p3;have hl:X.lay (Evt.iK (s.tail++[d.bat])) s.segs c=(0,(X.lay (Evt.iK (s.tail++[d.bat])) s.segs c).2):=by rw[←p3]
     have A5:s.segs≤39:=by
      have hl:=hl;rw[hX.lay]at hl;exact(Sto.oP hl).1.2.2.2.1
     exact⟨by show s.segs+1≤40;omega,h.b1,(fun _ z=>by cases z),a1G h.si h.len fun i hi=>b3O hX hl hi⟩
 exact⟨h.d1,h.d8,h.s4,h.b1,h.b10,A1,A0.1,A0.2.1,A0.2.2.1,A0.2.2.2,A2,hr⟩
theorem c1F(hX:Sto.dE X){c:Sto.Cfg}(h:WfJ c s)(d:Sto.Do):WfJ c (Sto.step X c s d).1:=by
 by_cases k1:d.kind=1
 ·rw[Sto.xS k1];exact c5R hX h d k1
 ·have A0:=Sto.b3M (X:=X) h.si d;have hs:=Sto.b7M (X:=X) (c:=c) (s:=s) k1;have hl:nP (Sto.step X c s d).1.disks:=by
   unfold Sto.step;rw[if_neg k1];split
   ·exact h.len
   ·split
    ·exact b9A h.len d
    ·split
     ·exact pP hX s.segs 0 s.disks 0 0 (by omega) h.si h.len
     ·split
      ·exact h.len
      ·exact h.len
  exact⟨h.d1,h.d8,h.s4,h.b1,h.b10,A0,by rw[hs.segs];exact h.segs,by rw[hs.tail];exact h.tail,by rw[hs.tail];exact h.bats,hl,by rw[hs.seen,hs.u];exact h.cmds,by rw[hs.u,hs.acc];exact h.right⟩
theorem b0R{ops:Array Oper}{o:Oper}{a:Act}{w:World}{K:Act→World→Prop}{Q:Exit→Act→World→Prop}{E:Prop}
  (hg:o.guard=none) (s x:Operand) (t:TypeId) (hop:o.op=Op.call {callee:=Callee.builtin Builtin.append,args:=#[s,x],argTypes:=#[t,t]})
  {v u v':Value} {w':World} (hs:a.eval s=v) (hx:a.eval x=u) (hr:(Builtin.append_ #[t,t] o.type #[v,u]).run prog w=.ok v' w') (hK:K (a.put o.dst v') w'):
  if Region.wanted o (yielded ops a.tmps)=true then Oper.wp prog o a w K Q else E:=by
 have hw:Region.wanted o (yielded ops a.tmps)=true:=by simp[Region.wanted,hg]
 rw[if_pos hw];unfold Oper.wp execOp;simp only[hop,resolve,invoke,builtin,Sem.run_bind,Sem.run_pure,Result.andThen_ok,List.map_toArray,List.map_cons,List.map_nil,hs,hx,hr];exact hK
theorem b1K{A:Option Addr}(h:cW w (.slice A m c) r):m=r.length∧(A=none→m=0)∧ ∀a,A=some a→ ∀j u,(clB r)[j]?=some u→w.cell? (a.add j)=some u:=by
 obtain⟨_,A',C',hv,h1,h2,h3⟩:=h;cases hv
 refine⟨rfl,fun e=>?_,fun a e j u hj=>?_⟩
 ·cases hr:r[0]? with
  |none=>exact Nat.le_zero.1 (List.getElem?_eq_none_iff.1 hr)
  |some x=>
   obtain⟨b,o,e1,_⟩:=h3 0 x hr;rw[e]at e1;cases e1
 ·unfold clB at hj;rw[c9S]at hj;obtain⟨x,hx,rfl⟩:=c9J.1 hj;obtain⟨b,o,e1,e2⟩:=h3 j x hx;rw[e]at e1;cases e1
  rw[WideShapes.add_plain];exact e2
theorem c5Q(h:w.ownsRow N 5 1 v n (clB r))(hn:n=r.length)(h1:1≤n)(hb:Evt.bZ r):eQ w N v r:=by
 subst hn;obtain⟨A,C,_,_,A1,_⟩:=bI h;obtain⟨g,A0,hv,hN,hc,hR⟩:=eD h h1;have hm:A0≤maxLen:=by
  rename_i hv2 _ _;rw[hv2]at hv;cases hv
  exact A1
 refine⟨hb,g,A0,hv,hN,hc,hm,hR.congr fun j hj=>?_⟩;unfold clB;show _=Value.int .u8 ((r.getD j 0:Nat):Int);rw[c9R,c9S,c9R,c9F hj];rfl
theorem b6R{F:Nat→Value}(h:aY w g t n F)(hm:m≤n):aY w g t m F:=by
 obtain⟨k,F',hr,hk,hF⟩:=h;exact⟨k,F',hr,c9E hm hk,fun j hj=>hF j (c9P hj hm)⟩
theorem b7J{s:Nat}(h:w.ownsRow N t s v n xs)(hM:M≤N):w.ownsRow M t s v n xs:=by
 obtain⟨hl,h⟩:=h;refine⟨hl,h.imp id ?_⟩;rintro⟨g,A1,A0,hv,hN,h⟩;exact⟨g,A1,A0,hv,c9E hM hN,h⟩
def OwJ(wo wr:World)(bl:List (Int×List Nat))(v:Value)(j:Nat):Prop:= ∃es:List HeC,wr.ownsRow wo.heap.size 61 2 v es.length (es.flatMap aI)∧es.map kQ=bl.take j∧(∀e,e∈es→eQ wr wo.heap.size (slV e.2.1) e.2.2)∧(∀(a b:Nat) (x x':HeC) (g:Nat),es[a]?=some x→es[b]?=some x'→(slV x.2.1).ownBlock=some g→(slV x'.2.1).ownBlock=some g→a=b)∧Bl wo wr
theorem OwJ.lt{bl:List (Int×List Nat)}(h:OwJ wo wr bl v j)(hb:v.ownBlock=some b):b<wr.heap.size:=by
 obtain⟨es,h1,_⟩:=h;exact(h1.lt b hb).2
theorem OwJ.bel{bl:List (Int×List Nat)}(h:OwJ wo wr bl v j):Bl wo wr:=by
 obtain⟨_,_,_,_,_,h5⟩:=h;exact h5
theorem OwJ.off{bl:List (Int×List Nat)}(h:OwJ wo wr bl v j)(hb:Bl wr wr'):OwJ wo wr' bl v j:=by
 obtain⟨es,h1,h2,h3,h4,h5⟩:=h;exact⟨es,aK h1 hb,h2,fun e he=>(h3 e he).below hb,h4,bt h5 hb⟩
theorem OwJ.shape{bl:List (Int×List Nat)}(h:OwJ wo wr bl v j): ∃A n C,v=.slice A n C:=by
 obtain⟨es,h1,_⟩:=h;obtain⟨A,C,hv,_⟩:=bI h1;exact⟨A,_,C,hv⟩
theorem OwJ.next{bl:List (Int×List Nat)}{x:Int×List Nat}{A:Option Addr}(h:OwJ wo wA bl v j)(hx:bl[j]?=some x)(hy:cW wo (.slice A m C) x.2)(h1:1≤x.2.length)(h2:x.2.length≤1000)(hj:j≤100):
  ∃A6 m6 C6 w6,(Builtin.append_ #[59,59] 59 #[.slice (some (aD wA.heap.size 0)) 0 0,.slice A m C]).run prog (wA.alloc (.cells #[] 5)).drew=.ok (.slice A6 m6 C6) w6∧Bl wA w6∧
   ∃v7 w7,(Builtin.append_ #[56,56] 56 #[v,.slice (some (aD w6.heap.size 0)) 1 1]).run prog (w6.alloc (.cells #[iV x.1,.slice A6 m6 C6] 61))=.ok v7 w7∧OwJ wo w7 bl v7 (j+1)∧Off (fun k=>v.ownBlock=some k) w6 w7:=by
 obtain⟨es,g1,g2,g3,g4,g5⟩:=h;have A5:es.length=min j bl.length:=by rw[←c9K,←g2,c9M]
 have bE:=(aB8 wA (.cells #[] 5)).drew;obtain⟨q1,q2,q3⟩:=b1K ((hy.below g5).below bE);have hE:(wA.alloc (.cells #[] 5)).drew.ownsRow wA.heap.size 5 1 (.slice (some (aD wA.heap.size 0)) 0 0) 0 []:=aK (World.ownsRow_made wA #[] 0 (c9C _) (by unfold maxLen;omega) rfl) (Below.refl _ _).drew
 obtain⟨v6,w6,r6,o6,k6,b6⟩:=wV 59 underlying59 Tryz.infoByte rfl (by decide) (by decide) hE A m C q2 (clB x.2) (by rw[d1X,q1];unfold clB;rw[c9M]) q3 (fun u hu=>by
  unfold clB at hu;obtain⟨_,_,rfl⟩:=d0G.1 hu
  rfl) (by omega) bE.size
 rw[c9G,d1C]at o6;have B6:Bl wA w6:=bE.trans (lB k6 (fun g hg=>by cases hg;exact c9C _) bE.size);have O6:eQ w6 wA.heap.size v6 x.2:=c5Q o6 q1 (by omega) hy.1;obtain⟨A6,C6,A4,_⟩:=bI o6;subst A4;refine⟨A6,m,C6,w6,r6,B6,?_⟩;have L6:=aK g1 B6;obtain⟨v7,w7,r7,o7,b7,f7⟩:=b9P L6 (x.1,(A6,m,C6),x.2) (c9E g5.size B6.size) (by omega);refine⟨v7,w7,r7,⟨es++[(x.1,(A6,m,C6),x.2)],o7,?_,fun e he=>?_,fun a b y y' g ha hb hy1 hy2=>?_,(bt g5 B6).trans b7⟩,f7⟩
 ·rw[c9U,g2,d1Y,hx];rfl
 ·have A0: ∀{u:Value} {t:List Nat} {M:Nat},eQ w6 M u t→eQ w7 M u t:=fun {u t M} hu=>hu.off f7 fun g hg s=>(hu.ty hg).ne (aU L6 s) (by decide) rfl;rcases List.mem_append.1 he with z|z
  ·exact A0 ((g3 e z).below B6)
  ·rw[d1Z.1 z];exact A0 (O6.lower g5.size)
 ·have A3: ∀(i:Nat) (z:HeC),es[i]?=some z→ ∀g,(slV z.2.1).ownBlock=some g→g<wA.heap.size:=fun i z hz g hg=>((g3 z (c9N hz)).ty hg).lt;have A2:=fun g hg=>O6.ge hg;have A1: ∀(i:Nat) (z:HeC),(es++[(x.1,(A6,m,C6),x.2)])[i]?=some z→(i<es.length∧es[i]?=some z)∨(i=es.length∧z=(x.1,(A6,m,C6),x.2)):=fun i z hz=>by
   by_cases q:i<es.length
   ·rw[d0M q]at hz;exact Or.inl ⟨q,hz⟩
   ·rw[d0S (by omega)]at hz;have:i-es.length=0:=by
     have:=(c9H.1 hz).1;simp at this;omega
    rw[this]at hz;cases hz
    exact Or.inr ⟨by omega,rfl⟩
  rcases A1 a y ha with⟨_,c1⟩|⟨c1,rfl⟩
  ·rcases A1 b y' hb with⟨_,c2⟩|⟨_,rfl⟩
   ·exact g4 a b y y' g c1 c2 hy1 hy2
   ·have:=A3 a y c1 g hy1;have:=A2 g hy2;omega
  ·rcases A1 b y' hb with⟨_,c2⟩|⟨c2,rfl⟩
   ·have:=A3 b y' c2 g hy2;have:=A2 g hy1;omega
   ·rw[c1,c2]
structure OwI(w wr:World)(D:Nat)(V0:Nat→Value)(ds:List Sto.aL)(i:Nat):Prop where
 ok: ∃V U,dM wr w.heap.size D V U (ds.take i)∧aY wr D 58 (ds.length*2) (dkF V ds)∧ ∀j,i≤j→V j=V0 j
theorem OwI.off(h:OwI w wr D V0 ds i)(hb:Bl wr wr'):OwI w wr' D V0 ds i:=by
 obtain⟨V,U,h1,h2,h3⟩:=h.ok;exact⟨V,U,h1.below hb,h2.below hb,h3⟩
theorem OwI.next{d:Sto.aL}(h:OwI w wo D V0 ds i)(hd:ds[i]?=some d)(hj:OwJ wo wr d.bl v d.bl.length)(hw:w.heap.size≤wo.heap.size):OwI w (wr.setCell (aD D (i*2+1)) v) D V0 ds (i+1):=by
 obtain⟨V,U,h1,h2,h3⟩:=h.ok;obtain⟨es,g1,g2,g3,g4,g5⟩:=hj;rw[d0L]at g2;have A9:i<ds.length:=(c9H.1 hd).1;have A8:(ds.take i).length=i:=by rw[c9K];omega
 have A0:(ds.take (i+1)).length=i+1:=by rw[c9K];omega
 have h2:=h2.below g5;have Aa:D<wo.heap.size:=by
  obtain⟨V,U,_,h2,_⟩:=h.ok;exact h2.lt
 have A6:=(Off.of_below g5).trans (aG wr (aD D (i*2+1)) v);have A3:=aG wr (aD D (i*2+1)) v;have A5:aY (wr.setCell (aD D (i*2+1)) v) D 58 (ds.length*2) (dkF (upd V i v) ds):=by
  refine(h2.set (i*2+1) v).congr fun j hj=>?_;unfold dkF;by_cases e:j=i*2+1
  ·rw[if_pos e,if_neg (by omega),show j/2=i by omega,bM]
  ·rw[if_neg e];by_cases q:j%2=0
   ·rw[if_pos q,if_pos q]
   ·rw[if_neg q,if_neg q,aV _ _ (by omega)]
 have A2: ∀j g,j<i→(V j).ownBlock=some g→g<wo.heap.size:=fun j g hj hg=>((h1.own j (by omega)).lt g hg).2;have A1: ∀(j:Nat) (x:HeC) (g:Nat),j<i→x∈U j→(slV x.2.1).ownBlock=some g→g<wo.heap.size:=fun j x g hj hx hg=>((h1.byt j x (by omega) hx).ty hg).lt;have A4:=fun x g hx hg=>(g3 x hx).ge hg;have tD:TyB wr D 58:=h2.ty;have A7:dM (wr.setCell (aD D (i*2+1)) v) w.heap.size D (upd V i v) (upd U i es) (ds.take (i+1)):=by
  refine⟨?_,h1.ge,fun j hj=>?_,fun j x hx=>?_,fun j x hj hx=>?_,fun j l g hj hl a1 a2=>?_,fun j l a b x x' g hj hl a1 a2 a3 a4=>?_⟩
  ·rw[A0];refine(b6R A5 (show(i+1)*2≤ds.length*2 by omega)).congr fun j hj=>?_;unfold dkF;by_cases q:j%2=0
   ·rw[if_pos q,if_pos q,c9R,c9R,d0C,if_pos (by omega)]
   ·rw[if_neg q,if_neg q]
  ·rw[A0]at hj;by_cases e:j=i
   ·subst e;rw[bM,bM];exact b7J (bC g1 A3 fun g hg s=>(aU g1 hg).ne tD (by decide) s) hw
   ·rw[aV _ _ e,aV _ _ e];exact bC (h1.own j (by omega)) A6 fun g hg s=>by
     subst s;exact(aU (h1.own j (by omega)) hg).ne h1.row.ty (by decide) rfl
  ·rw[d0C]at hx;by_cases e:j=i
   ·subst e;rw[if_pos (by omega),hd]at hx;cases hx
    rw[bM];exact g2.symm
   ·have hj:j<i:=by
     by_cases q:j<i+1
     ·omega
     ·rw[if_neg q]at hx;cases hx
    rw[if_pos (by omega)]at hx;rw[aV _ _ e];exact h1.bl j x (by rw[d0C,if_pos hj];exact hx)
  ·rw[A0]at hj;by_cases e:j=i
   ·subst e;rw[bM]at hx;exact((g3 x hx).off A3 fun g hg s=>by subst s;exact((g3 x hx).ty hg).ne tD (by decide) rfl).lower hw
   ·rw[aV _ _ e]at hx;have:=h1.byt j x (by omega) hx;exact this.off A6 fun g hg s=>by
     subst s;exact(this.ty hg).ne h1.row.ty (by decide) rfl
  ·rw[A0]at hj hl;by_cases e:j=i
   ·by_cases e2:l=i
    ·rw[e,e2]
    ·rw[e,bM]at a1;rw[aV _ _ e2]at a2;have:=A2 l g (by omega) a2;have:=(g1.lt g a1).1;omega
   ·by_cases e2:l=i
    ·rw[aV _ _ e]at a1;rw[e2,bM]at a2;have:=A2 j g (by omega) a1;have:=(g1.lt g a2).1;omega
    ·rw[aV _ _ e]at a1;rw[aV _ _ e2]at a2;exact h1.sepV j l g (by omega) (by omega) a1 a2
  ·rw[A0]at hj hl;by_cases e:j=i
   ·by_cases e2:l=i
    ·rw[e,bM]at a1;rw[e2,bM]at a2;exact⟨by omega,g4 a b x x' g a1 a2 a3 a4⟩
    ·rw[e,bM]at a1;rw[aV _ _ e2]at a2;have:=A1 l x' g (by omega) (c9N a2) a4;have:=A4 x g (c9N a1) a3;omega
   ·by_cases e2:l=i
    ·rw[aV _ _ e]at a1;rw[e2,bM]at a2;have:=A1 j x g (by omega) (c9N a1) a3;have:=A4 x' g (c9N a2) a4;omega
    ·rw[aV _ _ e]at a1;rw[aV _ _ e2]at a2;exact h1.sepU j l a b x x' g (by omega) (by omega) a1 a2 a3 a4
 exact⟨upd V i v,upd U i es,A7,A5,fun j hj=>by rw[aV _ _ (by omega)];exact h3 j (by omega)⟩
theorem b5J{z:Nat}(h:w.ownsRow N t z v n xs)(hn:1≤n): ∃g cap,v=.slice (some (aD g 0)) n cap∧N≤g∧n≤cap∧cap≤maxLen∧aY w g t (n*z) (fun j=>xs.getD j nS):=by
 obtain⟨hl,h⟩:=h;rcases h with⟨_,h0⟩|⟨g,cap,A0,hv,hN,hg,hc,hm,hs,ht⟩
 ·omega
 ·have A1:n*z≤A0.size:=by rw[hs];exact d1J _ hc
  refine⟨g,cap,hv,hN,hc,hm,A0.size,fun j=>A0.getD j nS,⟨A0,hg,rfl,fun i hi=>by simp[hi]⟩,A1,fun j hj=>?_⟩;have A2:=c9P hj A1;show A0.getD j nS=xs.getD j nS;rw[←ht,c9R,d0C,if_pos hj];simp[Array.getD,A2]
theorem b7P{A:Option Addr}(h:Dks w (.slice A n C) ds)(h1:1≤ds.length): ∃(V0:Nat→Value) (b o:Nat),n=ds.length∧A=some (aD b o)∧n≤C∧C≤maxLen∧(∀i d,ds[i]?=some d→Hes w (V0 i) d.bl)∧ ∀j,j<n*2→w.cell? (aD b (o+j))=some (dkF V0 ds j):=by
 obtain⟨A',C',hv,A1,A2,h3⟩:=h;cases hv
 obtain⟨b,o,rfl,_⟩:=h3 0 ds[0] (c9F h1);have hV: ∀i,∃v,∀d,ds[i]?=some d→w.cell? (aD b (o+i*2))=some (.bool d.gone)∧w.cell? (aD b (o+i*2+1))=some v∧Hes w v d.bl:=fun i=>by
  cases hd:ds[i]? with
  |none=>exact⟨nS,fun d e=>by cases e⟩
  |some d=>
   obtain⟨b',o',e,v,q1,q2,q3⟩:=h3 i d hd;cases e
   exact⟨v,fun d' e=>by cases e;exact⟨q1,q2,q3⟩⟩
 obtain⟨V0,A0⟩:=Classical.skolem.1 hV;refine⟨V0,b,o,rfl,rfl,A1,A2,fun i d hd=>(A0 i d hd).2.2,fun j hj=>?_⟩;have hi:j/2<ds.length:=by omega
 obtain⟨q1,q2,_⟩:=A0 (j/2) ds[j/2] (c9F hi);unfold dkF;by_cases e:j%2=0
 ·rw[if_pos e,c9R,c9F hi,show o+j=o+j/2*2 by omega];exact q1
 ·rw[if_neg e,show o+j=o+j/2*2+1 by omega];exact q2
def c8S(e:Ending)(w w':World)(x y z g u:Int)(vt vs va:Value)(ds:List Sto.aL):Prop:= ∃D C V U,e=.returned (stA x y z (.slice (some (aD D 0)) ds.length C) g vt vs u va)∧ds.length≤C∧C≤maxLen∧dM w' w.heap.size D V U ds∧Bl w w'
abbrev jR:Array Value:=#[iV 0,iV 0,iV 0,nS,iV 0,nS,nS,iV 0,nS]
theorem kL(x y z g u:Int)(vd vt vs va:Value)(ds:List Sto.aL)(w:World)(h:Dks w vd ds)(h1:1≤ds.length)(h12:ds.length≤12)(hbl: ∀(i:Nat) (d:Sto.aL),ds[i]?=some d→d.bl.length≤100)(hok:nP ds)(ht: ∃A n C,vt=.slice A n C)(hs: ∃A n C,vs=.slice A n C)(ha: ∃A n C,va=.slice A n C):
  Calls prog 36 #[stA x y z vd g vt vs u va] w fun e w'=>c8S e w w' x y z g u vt vs va ds:=by
 obtain⟨At,nt,Ct,rfl⟩:=ht;obtain⟨As,ns,Cs,rfl⟩:=hs;obtain⟨Aa,na,Ca,rfl⟩:=ha;obtain⟨Ad,Cd,rfl,Bq⟩: ∃A C,vd=.slice A ds.length C∧True:=by
  obtain⟨A,C,hv,_⟩:=h;exact⟨A,C,hv,trivial⟩
 obtain⟨V0,b,o,_,rfl,Bn,Bi,Az,A2⟩:=b7P h h1;obtain⟨n,hn⟩: ∃n,n=ds.length:=⟨_,rfl⟩;rw[←hn]at Bn A2 h1 h12⊢;have HN:=hd8 hn;have Au:=hd8 Az;have B9:=hd8 hbl;have Bh:=hd8 hok;have Bo:=mL8 Bi;obtain⟨w1,Am⟩: ∃q,q=(w.alloc (.cells #[iV x,iV y,iV z,.slice (some (aD b o)) n Cd,iV g,.slice At nt Ct,.slice As ns Cs,iV u,.slice Aa na Ca] 32)).alloc (.cells jR 32):=⟨_,rfl⟩;have b1:=aB8 w (.cells #[iV x,iV y,iV z,.slice (some (aD b o)) n Cd,iV g,.slice At nt Ct,.slice As ns Cs,iV u,.slice Aa na Ca] 32);have b2:=b1.alloc b1.size (.cells jR 32);have V1:=(aC w #[iV x,iV y,iV z,.slice (some (aD b o)) n Cd,iV g,.slice At nt Ct,.slice As ns Cs,iV u,.slice Aa na Ca] 32).below ((Below.refl _ _).alloc (c9C _) (.cells jR 32));have V2:=aC (w.alloc (.cells #[iV x,iV y,iV z,.slice (some (aD b o)) n Cd,iV g,.slice At nt Ct,.slice As ns Cs,iV u,.slice Aa na Ca] 32)) jR 32;have Ap:=d2K _;rw[Ap]at V2;rw[←Am]at b2 V1 V2;have bE:=aB8 w1 (.cells #[] 58);have hE:(w1.alloc (.cells #[] 58)).ownsRow w1.heap.size 58 2 (.slice (some (aD w1.heap.size 0)) 0 0) 0 []:=World.ownsRow_made w1 #[] 0 (c9C _) (by unfold maxLen;omega) rfl;have Ae: ∀v,v∈(List.range (n*2)).map (dkF V0 ds)→v.oneCell'=true:=fun v hv=>by
  obtain⟨j,hj,rfl⟩:=d0G.1 hv;have hj:=d0D.1 hj;unfold dkF;by_cases e:j%2=0
  ·rw[if_pos e];rfl
  ·rw[if_neg e];have hi:j/2<ds.length:=by omega
   obtain⟨A,C,hv,_⟩:=Au.out (j/2) ds[j/2] (c9F hi);rw[hv];rfl
 obtain⟨v3,w3,r3,o3,k3,e3⟩:=wV 25 underlying25 Tryz.infoDisk rfl (by decide) (by decide) hE (some (aD b o)) n Cd (fun e=>by cases e) ((List.range (n*2)).map (dkF V0 ds)) (by rw[List.length_map,List.length_range]) (fun a e j v hj=>by
  cases e
  rw[c9S]at hj;obtain⟨j',Af,rfl⟩:=c9J.1 hj;obtain⟨hl,Af⟩:=c9H.1 Af;rw[List.getElem_range]at Af;subst Af;rw[d1E]at hl;rw[WideShapes.add_plain]
  exact((bt b2 bE).cell (p:=⟨b,o+j,none⟩) (World.block_lt_of_cell? _ _ (A2 j hl))).trans (A2 j hl)) Ae (by omega) bE.size
 rw[c9G,d1C]at o3;obtain⟨D,C,rfl,hD,Be,Ar,hR⟩:=b5J o3 h1;have B3:Bl w1 w3:=bE.trans (lB k3 (fun q hq=>by cases hq;exact c9C _) bE.size);have hR:aY w3 D 58 (ds.length*2) (dkF V0 ds):=by
  rw[←HN.out];refine hR.congr fun j hj=>?_;rw[c9R,c9S,List.getElem?_range hj];rfl
 have Bf:=mL8 Ar;have VP:=(V1.below B3).set 3 (.slice (some (aD D 0)) n C) (show 3<9 by decide);have Al:D≠w.heap.size:=fun e=>(hR.ty.ne (V1.below B3).ty (by decide)) e;have Aj:D≠w.heap.size+1:=fun e=>(hR.ty.ne (V2.below B3).ty (by decide)) e;have Ag:=aG _ (aD w.heap.size 3) _;have H0:Hid (OwI w (w3.setCell (aD w.heap.size 3) (.slice (some (aD D 0)) n C)) D V0 ds 0∧aW (w3.setCell (aD w.heap.size 3) (.slice (some (aD D 0)) n C)) w.heap.size 32 [iV x,iV y,iV z,.slice (some (aD D 0)) n C,iV g,.slice At nt Ct,.slice As ns Cs,iV u,.slice Aa na Ca]∧aW (w3.setCell (aD w.heap.size 3) (.slice (some (aD D 0)) n C)) (w.heap.size+1) 32 jR.toList∧Bl w (w3.setCell (aD w.heap.size 3) (.slice (some (aD D 0)) n C))):=by
  refine⟨⟨V0,fun _=>[],?_,hR.of_block (Ag.block D hR.lt Al),fun _ _=>rfl⟩,VP,(V2.below B3).off Ag (by show¬w.heap.size+1=w.heap.size;omega),(bt b2 B3).setCell (c9C _) _⟩;refine⟨?_,c9E b2.size hD,(fun i hi=>by cases hi),(fun i d hd=>by rw[List.take_zero]at hd;cases hd),(fun i _ hi=>by cases hi),(fun i _ _ hi=>by cases hi),(fun i _ _ _ _ _ _ hi=>by cases hi)⟩;exact⟨_,_,(hR.of_block (Ag.block D hR.lt Al)).choose_spec.choose_spec.1,c9D _,fun j hj=>by cases hj⟩
 have c3:=V1.q3;have B5:=cB8 bE c3;have Bb:=(V1.below B3).q3;have B4:=(V1.below B3).frozen 3;clear h A2 Az hbl hok hn Ae o3 k3 e3 hE hR VP Ag V1 V2 b1 b2 bE Ap;go_enter func36,ntmps36
 go_upto_region 1 with fail
 rw[←Am];clear Am;go_upto_region 2 with(at_builtin;refine Lib.wpList_append_run _ rfl _ _ _ _ rfl _ _ rfl rfl _ _ r3 ?_)
 obtain⟨w4,Aq⟩: ∃q,q=w3.setCell (aD w.heap.size 3) (.slice (some (aD D 0)) n C):=⟨_,rfl⟩;rw[←Aq]at H0⊢;clear Aq c3 B5 Bb B4 r3 B3;have c3:=H0.out.2.1.q3;go_wp2_with fail;clear c3;go_loopw [15] (fun x' wr=> ∃i:Nat,i≤n∧x'=iV i∧Hid (OwI w wr D V0 ds i∧aW wr w.heap.size 32 [iV x,iV y,iV z,.slice (some (aD D 0)) n C,iV g,.slice At nt Ct,.slice As ns Cs,iV u,.slice Aa na Ca]∧aW wr (w.heap.size+1) 32 jR.toList∧Bl w wr)) (fun x' _=>n-(intOf x').toNat)
 case atStart=>exact⟨0,c9D _,rfl,H0⟩
 case round=>
  obtain⟨i,hi,rfl,HR⟩:=hrel;by_cases Ba:i<n
  ·have B7:(i:Int)<(n:Int):=by omega
   obtain⟨hI,hP,A1,hB⟩:=HR.out;have Bg:i<ds.length:=by rw[←HN.out];exact Ba
   obtain⟨d,hd⟩: ∃d,ds[i]?=some d:=⟨ds[i],c9F Bg⟩;have c3:=hP.q3;have g1:wr.cell? (aD D (i*2+1))=some (V0 i):=by
    obtain⟨V,U,_,A5,hV⟩:=hI.ok;rw[A5.cell (show i*2+1<ds.length*2 by omega)];unfold dkF;rw[if_neg (by omega),show(i*2+1)/2=i by omega,hV i (c9C _)]
   obtain⟨Ah,Ch,Av,Bp,Bj,Ax⟩:=Au.out i d hd;rw[Av]at g1;obtain⟨m,hm⟩: ∃m,m=d.bl.length:=⟨_,rfl⟩;rw[←hm]at g1 Bp;have Ay:m≤100:=by rw[hm];exact B9.out i d hd
   have Bm:=mL8 Bj;obtain⟨wo,A4⟩: ∃q,q=wr:=⟨wr,rfl⟩;have Bk:Hid (∀j x9,d.bl[j]?=some x9→ ∃b9 o9 A9 C9,Ah=some (aD b9 o9)∧wo.cell? (aD b9 (o9+j*2))=some (iV x9.1)∧wo.cell? (aD b9 (o9+j*2+1))=some (.slice A9 x9.2.length C9)∧cW wo (.slice A9 x9.2.length C9) x9.2∧1≤x9.2.length∧x9.2.length≤1000):=fun j x9 Ab=>by
    obtain⟨b9,o9,e1,u9,e2,e3,e4⟩:=Ax j x9 Ab;have e5:=e4;obtain⟨_,A9,C9,rfl,_⟩:=e5;obtain⟨q1,q2⟩:=Bh.out i d hd x9 (c9N Ab);rw[A4];exact⟨b9,o9,A9,C9,e1,cB8 hB e2,cB8 hB e3,e4.below hB,q1,q2⟩
   have HK:Hid (wo=wr∧OwI w wo D V0 ds i∧aW wo w.heap.size 32 [iV x,iV y,iV z,.slice (some (aD D 0)) n C,iV g,.slice At nt Ct,.slice As ns Cs,iV u,.slice Aa na Ca]∧aW wo (w.heap.size+1) 32 jR.toList∧Bl w wo∧ds[i]?=some d∧m=d.bl.length):=⟨A4,by rw[A4];exact hI,by rw[A4];exact hP,by rw[A4];exact A1,by rw[A4];exact hB,hd,hm⟩;have H1:Hid (OwJ wo wr d.bl nS 0):=⟨[],by rw[A4];exact World.ownsRow_nil _ _ _ _,rfl,(fun _ h=>by cases h),(fun _ _ _ _ _ h=>by cases h),by rw[A4];exact Below.refl _ _⟩;clear HR hI hP A1 hB hd hm Av Ax A4;go_wp2_with fail;clear c3 g1;go_loopw [4,25] (fun v4 x' wr=> ∃j:Nat,j≤m∧x'=iV j∧Hid (OwJ wo wr d.bl v4 j)) (fun _ x' _=>m-(intOf x').toNat)
   case atStart=>exact⟨0,c9D _,rfl,H1⟩
   case round=>
    obtain⟨j,hj,rfl,HR⟩:=hrel;by_cases Bc:j<m
    ·have B8:(j:Int)<(m:Int):=by omega
     obtain⟨x9,Ab⟩: ∃x9,d.bl[j]?=some x9:=⟨d.bl[j]'(by rw[←HK.out.2.2.2.2.2.2];exact Bc),c9F _⟩;obtain⟨b9,o9,A9,C9,rfl,e0,e1,e2,q1,q2⟩:=Bk.out j x9 Ab;have A3:=HR.out.bel;have e0:=cB8 A3 e0;have e1:=cB8 A3 e1;have bA:=aB8 wr (.cells #[iV x9.1,.slice A9 x9.2.length C9] 61);have VH:=aC wr #[iV x9.1,.slice A9 x9.2.length C9] 61;obtain⟨A6,m6,C6,w6,r6,B6,v7,w7,r7,J7,F7⟩:=(HR.out.off bA).next Ab e2 q1 q2 (by omega);have An:Hid (u4.ownBlock≠some wr.heap.size):=fun e=>by
      have:=HR.out.lt e;omega
     have Ak:=hd8 J7;obtain⟨s9,B0⟩: ∃q,q=x9.1:=⟨_,rfl⟩;obtain⟨n9,B1⟩: ∃q,q=x9.2.length:=⟨_,rfl⟩;rw[←B0]at e0 r7 VH bA r6 B6;rw[←B1]at e1 VH bA r6 B6;clear HR J7 Ab e2 q1 q2 B0 B1 A3;go_upto_region 9 with fail
     obtain⟨wA,B2⟩: ∃q,q=wr.alloc (.cells #[iV s9,.slice A9 n9 C9] 61):=⟨_,rfl⟩;rw[←B2]at VH r6 B6⊢;obtain⟨Q,hQ⟩: ∃q,q=wr.heap.size:=⟨_,rfl⟩;rw[←hQ]at VH An⊢;have Ai: ∀w',Bl wA w'→w'.cell? (aD Q 0)=some (iV s9)∧w'.cell? (aD Q 1)=some (.slice A9 n9 C9):=fun w' hb=>⟨(VH.below hb).q0,(VH.below hb).q1⟩;have V7:=(VH.below B6).off F7 An.out;have T7:w7.cell? (aD Q 0)=some (iV s9)∧w7.cell? (aD Q 1)=some (.slice A9 n9 C9):=⟨V7.q0,V7.q1⟩;have TD:=Ai wA.drew (Below.refl _ _).drew;have T1:=fun q=>Ai (wA.alloc q).drew ((Below.refl _ _).alloc (c9C _) q).drew;have T2:=Ai w6 B6;have T3:=fun q=>Ai (w6.alloc q) (B6.alloc B6.size q);clear B2 hQ e0 e1 bA VH V7 F7 An;go_region_held3 (fun w'=>w'.cell? (aD Q 0)=some (iV s9)∧w'.cell? (aD Q 1)=some (.slice A9 n9 C9))
      (first|A0 exact TD|A0 A8|A0 exact T1 _|A0 exact T2|A0 exact T3 _|A0 exact T7)
      (first|(refine b0R rfl (.tmp 32) (.tmp 34) 59 rfl rfl rfl r6 ?_)|(refine b0R rfl (.tmp 29) (.tmp 37) 56 rfl rfl rfl r7 ?_))
     go_wp2_with fail;exact⟨⟨j+1,by omega,by go_num,Ak⟩,by simp[intOf];omega⟩
    ·obtain rfl:j=m:=by omega
     obtain⟨_,k2,k3,k4,k5,k6,k7⟩:=HK.out;have A3:=HR.out.bel;have hJ:=HR.out;rw[k7]at hJ;have Aw:=k2.next k6 hJ k5.size;have Br:D<wr.heap.size:=by
      obtain⟨V,U,_,A5,_⟩:=(k2.off A3).ok;exact A5.lt
     have Ao:=aG wr (aD D (i*2+1)) u4
     have Ak:Hid (OwI w (wr.setCell (aD D (i*2+1)) u4) D V0 ds (i+1)∧aW (wr.setCell (aD D (i*2+1)) u4) w.heap.size 32 [iV x,iV y,iV z,.slice (some (aD D 0)) n C,iV g,.slice At nt Ct,.slice As ns Cs,iV u,.slice Aa na Ca]∧aW (wr.setCell (aD D (i*2+1)) u4) (w.heap.size+1) 32 jR.toList∧Bl w (wr.setCell (aD D (i*2+1)) u4)):=⟨Aw,(k3.below A3).off Ao (fun e=>Al e.symm),(k4.below A3).off Ao (fun e=>Aj e.symm),(bt k5 A3).setCell (by
      obtain⟨V,U,Ac,_,_⟩:=k2.ok
      exact Ac.ge) _⟩
     have c3:=(k3.below A3).q3;obtain⟨u0,g1,f1⟩: ∃u0,wr.cell? (aD D (i*2+1))=some u0∧wr.frozen? (aD D (i*2+1))=false:=by
      obtain⟨V,U,_,A5,_⟩:=(k2.off A3).ok;exact⟨_,A5.cell (show i*2+1<ds.length*2 by have:=HN.out;omega),A5.frozen _⟩
     obtain⟨A7,n7,C7,rfl⟩:=hJ.shape;clear HR hJ Aw k2 k3 k4 k5 k6 k7 A3 Ao;go_wp2_with fail;exact⟨⟨i+1,by omega,by go_num,Ak⟩,by simp[intOf];omega⟩
  ·obtain rfl:i=n:=by omega
   obtain⟨hI,hP,A1,hB⟩:=HR.out;obtain⟨V,U,Ac,A5,_⟩:=hI.ok;rw[HN.out,d0L]at Ac;have HF:Hid (∀w',Off (fun k=>k=w.heap.size+1) wr w'→c8S (.returned (stA x y z (.slice (some (aD D 0)) i C) g (.slice At nt Ct) (.slice As ns Cs) u (.slice Aa na Ca))) w w' x y z g u (.slice At nt Ct) (.slice As ns Cs) (.slice Aa na Ca) ds):=fun w' ho=>⟨D,C,V,U,by rw[←HN.out],by rw[←HN.out];exact Be,Ar,Ac.off ho fun k hk=>⟨32,by subst hk;exact A1.ty,by decide,by decide,by decide⟩,hB.trans (ho.below hB.size fun k hk=>by subst hk;omega)⟩;have a0:=hP.q0;have a1:=hP.q1;have a2:=hP.q2;have a3:=hP.q3;have a4:=hP.q4;have a5:=hP.q5;have a6:=hP.q6;have a7:=hP.q7;have a8:=hP.q8;have d0:=A1.q0;have d1:=A1.q1;have d2:=A1.q2;have d3:=A1.q3;have d4:=A1.q4;have d5:=A1.q5;have d6:=A1.q6;have d7:=A1.q7;have d8:=A1.q8;have f0:=A1.frozen 0;have f1:=A1.frozen 1;have f2:=A1.frozen 2;have f3:=A1.frozen 3;have f4:=A1.frozen 4;have f5:=A1.frozen 5;have f6:=A1.frozen 6;have f7:=A1.frozen 7;have f8:=A1.frozen 8;clear HR hI hP A1 hB Ac A5;go_wp2_with fail;exact bodyPost_ret (by simp[results,results36,go_sem,d0,d1,d2,d3,d4,d5,d6,d7,d8]) rfl (HF.out _ (fC _ _ _ _ _ _ _ _ _ _ _))
theorem Tryz.enters_num: ∀args w,(callFunc 98 args).run Tryz.prog w=.ok (.enter 98 args) w:=enters_of Tryz.func98 (by kernel_rfl) rfl
abbrev c6B:=Int×Value×List EvC
def pr(t:c6B):Int×Value:=(t.1,t.2.1)
def wD(t:c6B):Evt.Bat:=⟨t.1,t.2.2.map aZ⟩
def OS(W0 w:World)(v:Value)(g:Nat→Nat)(N n:Nat)(vo:Value)(i:Nat):Prop:=
 ∃(L:List c6B) (A:Nat) (ok:Bool),sT w (W0.heap.size+3) vo (L.map pr)∧(∀t,t∈L→cG w (W0.heap.size+3) t.2.1 t.2.2)∧PS W0 w v N A ok∧i≤n∧L.length=i∧(ok=true→A≤1+i*70000)∧
  ((ok=true∧Evt.dZ n ((bl g N).drop 1)=a1X (L.map wD) (Evt.dZ (n-i) ((bl g N).drop A)))∨(ok=false∧Evt.dZ n ((bl g N).drop 1)=none))
theorem c2Q(h:Evt.num 1 0 r=some (n,r'))(h2:Evt.dZ n r'=none):Evt.aM r=2∧Evt.dD r=[]:=by
 have:Evt.vA r=none:=by
  unfold Evt.vA;rw[h];show(match Evt.dZ n r' with|none=>none|some (l,r)=>if r=[]then some l else none)=none;rw[h2]
 unfold Evt.aM Evt.dD;rw[this];exact⟨rfl,rfl⟩
theorem b6H{l:List Evt.Bat}(h:Evt.num 1 0 r=some (n,r'))(h2:Evt.dZ n r'=some (l,r2))(h3:r2≠[]):Evt.aM r=2∧Evt.dD r=[]:=by
 have:Evt.vA r=none:=by
  unfold Evt.vA;rw[h];show(match Evt.dZ n r' with|none=>none|some (l,r)=>if r=[]then some l else none)=none;rw[h2];exact if_neg h3
 unfold Evt.aM Evt.dD;rw[this];exact⟨rfl,rfl⟩
theorem b6Y{l:List Evt.Bat}(h:Evt.num 1 0 r=some (n,r'))(h2:Evt.dZ n r'=some (l,[])):Evt.aM r=(Evt.aF l).1∧Evt.dD r=if (Evt.aF l).1=0 then l else[]:=by
 have:Evt.vA r=some l:=by
  unfold Evt.vA;rw[h];show(match Evt.dZ n r' with|none=>none|some (l,r)=>if r=[]then some l else none)=_;rw[h2];exact if_pos rfl
 unfold Evt.aM Evt.dD;rw[this];exact⟨rfl,rfl⟩
theorem b8N{s:Nat}(h:w.ownsRow N t s v n xs)(hM:M≤N):w.ownsRow M t s v n xs:=by
 obtain⟨hl,h⟩:=h;refine⟨hl,h.imp id ?_⟩;rintro⟨g,A1,A0,rfl,hN,hr⟩;exact⟨g,A1,A0,rfl,c9E hM hN,hr⟩
theorem c7D{g:Nat→Nat}{kd A6 nm A7:Nat}{ok4 ok6 ok7:Bool}{S:ByteArray}(hg:Bd g)(h6:(ok4=true∧A4=A3+1∧lg=g A3∧A3+1≤N)∨(ok4=false∧A4=N∧lg=0∧N≤A3))
  (h9:(ok6=true∧ok4=true∧A6=A4+lg+1∧A4+lg+1≤N∧kd=g (A4+lg))∨(ok6=false∧A6=N∧(ok4=true→N<A4+lg+1))) (h0:(ok7=true∧ok6=true∧A7=A6+3∧A6+3≤N∧nm=gA g A6 3)∨(ok7=false∧(ok6=true→N<A6+3))) (hS:S=uT (fun k=>g (A4+k)) lg):
  (ok7=true∧Evt.rM ((bl g N).drop A3)=some (aZ (S,(kd:Int),(nm:Int)),(bl g N).drop A7)∧A7≤A3+260)∨(ok7=false∧Evt.rM ((bl g N).drop A3)=none):=by
 have A0:=hg A3;rcases h0 with⟨q1,q2,q3,q4,q5⟩|⟨q1,q2⟩
 ·rcases h9 with⟨_,r2,r3,r4,r5⟩|⟨r1,_⟩
  ·rcases h6 with⟨_,s2,s3,s4⟩|⟨s1,_⟩
   ·refine Or.inl ⟨q1,?_,by omega⟩;have e1:A6=A3+2+g A3:=by omega
    have e2:A7=A3+5+g A3:=by omega
    rw[b5I (by omega),e2,q5,e1,r5,s3,s2];have e3:nb S=c0X g A3:=by
     rw[hS,a3G (fun k=>hg _),s3,s2];rfl
    show _=some ((⟨nb S,_,_⟩:Evt.Ev),_);rw[e3]
   ·rw[r2]at s1;cases s1
  ·rw[q2]at r1;cases r1
 ·refine Or.inr ⟨q1,a2D ?_⟩;rcases h6 with⟨s1,s2,s3,s4⟩|⟨s1,s2,s3,s4⟩
  ·rcases h9 with⟨r1,r2,r3,r4,r5⟩|⟨r1,r2,r3⟩
   ·have:=q2 r1;omega
   ·have:=r3 s1;omega
  ·exact Or.inr s4
theorem uG{g:Nat→Nat}{ok2:Bool}(h:(ok2=true∧A2=A+4∧A+4≤N∧c=gA g A 3∧m=g (A+3))∨(ok2=false∧A2=N∧m=0∧N<A+4))(h2:ok2=true→Evt.eF m ((bl g N).drop A2)=none):Evt.mI ((bl g N).drop A)=none:=by
 rcases h with⟨h1,rfl,h3,_,h5⟩|⟨_,_,_,h4⟩
 ·rw[a1K h3 h5.symm,h2 h1]
 ·exact b7Q h4
theorem b8B{g:Nat→Nat}{A3:Nat}{ok2 ok3:Bool}{es:List EvC}(h:(ok2=true∧A2=A+4∧A+4≤N∧c=gA g A 3∧m=g (A+3))∨(ok2=false∧A2=N∧m=0∧N<A+4))
  (h2:(ok3=true∧ok2=true∧Evt.eF m ((bl g N).drop A2)=zB (es.map aZ) (Evt.eF (m-m) ((bl g N).drop A3)))∨(ok3=false∧(ok2=true→Evt.eF m ((bl g N).drop A2)=none))):
  (ok3=true∧Evt.mI ((bl g N).drop A)=some (⟨(c:Nat),es.map aZ⟩,(bl g N).drop A3))∨(ok3=false∧Evt.mI ((bl g N).drop A)=none):=by
 rcases h2 with⟨q1,q2,q3⟩|⟨q1,q2⟩
 ·rcases h with⟨h1,rfl,h3,rfl,h5⟩|⟨h1,_⟩
  ·refine Or.inl ⟨q1,?_⟩;rw[a1K h3 h5.symm,q3,d1L];show some ((⟨((gA g A 3:Nat):Int),es.map aZ++[]⟩:Evt.Bat),(bl g N).drop A3)=_;rw[d0W]
  ·rw[q2]at h1;cases h1
 ·exact Or.inr ⟨q1,uG h q2⟩
theorem c2A(X:Option Addr)(C:Nat)(W0 w:World)(h:PS W0 w (.slice X 0 C) 0 0 true):
  Calls prog 98 #[iV 1,.pointer (some (aD (W0.heap.size+1) 0)),.pointer (some (aD W0.heap.size 0)),.pointer (some (aD (W0.heap.size+1+1) 0))] w fun e w'=>e=.returned (iV 0)∧PS W0 w' (.slice X 0 C) 0 0 false:=by
 have HP:=hd8 h.setNo;have c0:w.cell? (aD (W0.heap.size+1) 0)=some (iV 0):=h.at_;have c1:=h.b_;have c2:=h.ok_;have f1:=h.fo;clear h;go_enter func98,ntmps98
 go_wp2_with fail;refine wp_loop_rounds 1 ?_;rw[rounds_succ];go_wp2_with fail;go_ret
 exact⟨rfl,HP.out⟩
theorem vS(g:Nat→Nat):Evt.aM (bl g 0)=2∧Evt.dD (bl g 0)=[]:=⟨rfl,rfl⟩
end Go.Proofs.YtmcaejooaaahdaaGreat
