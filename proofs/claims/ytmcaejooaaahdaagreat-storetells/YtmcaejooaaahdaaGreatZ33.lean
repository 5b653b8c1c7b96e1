import Derived.Test.YtmcaejooaaahdaaGreatZ27
import Derived.Test.YtmcaejooaaahdaaGreatZ32
set_option maxHeartbeats 8000000
set_option maxRecDepth 100000
namespace Go.Proofs.YtmcaejooaaahdaaGreat
open Go.Proofs.Tryz
variable {Bs xs:List Value} {C D N R b base g i j k m n o q:Nat} {E F:Nat→Prop} {V V0:Nat→Value} {r:List Nat} {t:TypeId} {v va vd vs vt:Value} {w w' wo wr wr':World}
open Go.RowKit
section
variable {w w' wX : World} {N R D : Nat} {F E E' : Nat → Prop} {c : Sto.Cfg} {s : Sto.St} {V : Nat → Value} {U : Nat → List HeC} {vt vs va : Value} {tc : List (Int × Sl)}
theorem StP.moreE(h:StP w N R F E c s D V U vt vs va tc)(hE: ∀k,E k→E' k)(hE': ∀k,E' k→E k∨(¬F k∧k<w.heap.size)):StP w N R F E' c s D V U vt vs va tc:=
 ⟨h.var,h.ge,h.dk,⟨h.tail.own,h.tail.len,fun i x b hx hb=>⟨(h.tail.evs i x b hx hb).1,(h.tail.evs i x b hx hb).2.1,fun g hg hl=>hE g ((h.tail.evs i x b hx hb).2.2 g hg hl)⟩⟩,h.seen,⟨h.acc.1,fun g hg hl=>hE g (h.acc.2 g hg hl)⟩,h.fR,h.fD,h.fV,h.fU,h.fT,h.fS,h.lt,fun k hk=>by
  rcases hE' k hk with q|q
  ·exact h.dis k q
  ·exact q,h.wf⟩
theorem a0K.lt{w:World}{E:Nat→Prop}{es:List Evt.Ev}(h:a0K w E v es)(hg:v.ownBlock=some g)(hl:es≠[]):g<w.heap.size:=by
 obtain⟨⟨A,A0,rfl,_,_,h3⟩,_⟩:=h;cases es with
 |nil=>exact absurd rfl hl
 |cons e r=>
  obtain⟨b,o,rfl,t,_,_,c0,_⟩:=h3 0 e rfl;cases hg
  exact World.block_lt_of_cell? _ _ c0
theorem a0S.lt{w:World}{E:Nat→Prop}{l:List Vw.Acc}(h:a0S w E v l)(hg:v.ownBlock=some g)(hl:l≠[]):g<w.heap.size:=by
 obtain⟨⟨A,A0,rfl,_,_,h3⟩,_⟩:=h;cases l with
 |nil=>exact absurd rfl hl
 |cons e r=>
  obtain⟨b,o,rfl,t,_,_,c0,_⟩:=h3 0 e rfl;cases hg
  exact World.block_lt_of_cell? _ _ c0
theorem a3O(h:StP w N R F E c s D V U vt vs va tc){e:Ending}{a:Sto.Ans}(ht:wI e w' w.heap.size a)(hb:Bl w w'):DoO e w w' N R F E c (s,a):=by
 obtain⟨v,rfl,ve,A0,rfl,h1,h2⟩:=ht;refine⟨_,F,fun k=>E k∨(w.heap.size≤k∧k<w'.heap.size),rfl,⟨_,_,_,_,_,_,_,(h.bE hb).moreE (fun _ q=>Or.inl q) fun k q=>?_⟩,⟨Off.oE hb,fun _ q=>Or.inl q,fun k q=>q.imp id (·.1)⟩,ve,A0,rfl,⟨h1.1,fun g hg hl=>Or.inr ⟨h1.2 g hg hl,h1.lt hg hl⟩⟩,⟨h2.1,fun g hg hl=>Or.inr ⟨h2.2 g hg hl,h2.lt hg hl⟩⟩⟩
 rcases q with q|⟨q1,q2⟩
 ·exact Or.inl q
 ·exact Or.inr ⟨fun z=>absurd (h.lt k z).2 (Nat.not_lt.2 q1),q2⟩
theorem j9{e:Ending}{x:Nat}{ds':List Sto.aM}(hc:ChP e w w' N R F E c s D vt vs va tc x ds'):DoO e w w' N R F E c ({s with disks:=ds'},⟨x,0,[],0,[]⟩):=by
 obtain⟨rfl,V',U',h1,h2⟩:=hc;exact⟨_,F,E,rfl,⟨_,_,_,_,_,_,_,h1⟩,h2,fJ _ _ _ _⟩
end
theorem Tryz.enters_do1: ∀args w,(callFunc 19 args).run Tryz.prog w=.ok (.enter 19 args) w:=enters_of Tryz.func19 (by kernel_rfl) rfl
theorem Tryz.enters_do2: ∀args w,(callFunc 21 args).run Tryz.prog w=.ok (.enter 21 args) w:=enters_of Tryz.func21 (by kernel_rfl) rfl
theorem Tryz.enters_do3: ∀args w,(callFunc 27 args).run Tryz.prog w=.ok (.enter 27 args) w:=enters_of Tryz.func27 (by kernel_rfl) rfl
theorem Tryz.enters_viewOf: ∀args w,(callFunc 23 args).run Tryz.prog w=.ok (.enter 23 args) w:=enters_of Tryz.func23 (by kernel_rfl) rfl
theorem c4Y(B N:Nat)(v:Value)(es:List EvC)(t:ByteArray)(w:World)(h:cH w N v es)(hN:N≤w.heap.size)(ht:t.size≤9223372036854775807)(hc:w.cell? (aD B 7)=some (.string t)):
  Calls prog 19 #[v,.pointer (some (aD B 0))] w fun e w'=>wI e w' N (ofA (es.map aY) (nb t))∧Below N w w':=by
 have bA:=aB8 w (.cells (cJ 0 0) 42);have VB:=aC w (cJ 0 0) 42;have HC:=a5H N v es t _ (h.bE bA) ht;have c7:=cB8 bA hc;have A8:Hid (∀g,v.ownBlock=some g→N≤g∧g<w.heap.size):=fun g hg=>h.1.lt g hg;have A6:=hd8 bA;have Ab:=hd8 VB;have A1:=hd8 hN;obtain⟨A,C,hv⟩:=h.sE;obtain⟨L,hL⟩: ∃L,L=es.length:=⟨_,rfl⟩;rw[←hL]at hv;subst hv;obtain⟨a,ha⟩: ∃a,a=ofA (es.map aY) (nb t):=⟨_,rfl⟩;rw[←ha]at HC⊢;clear h hc bA VB hL ha hN;go_enter func19,ntmps19
 go_upto_region 1 with fail
 generalize w.alloc (.cells (cJ 0 0) 42)=w1 at*;go_wp2_with fail;refine HC.mono ?_;rintro e w2 ⟨⟨v2,rfl,ve,A9,rfl,A4,A2⟩,A5⟩;have A0:aV w2 w.heap.size 42 (cJ 0 0).toList:=Ab.out.off A5 fun z=>by
  have:=(A8.out _ z).2;omega
 have A3:=(A6.out.mono A1.out).trans (A5.bE (c9E A1.out A6.out.size) fun k z=>(A8.out k z).1);have A7:Hid (∀w',Off (fun k=>k=w.heap.size) w2 w'→qG w' (fun k=>N≤k) (.agg #[iV a.err,iV a.n,ve,iV a.vu,A9]) a∧Below N w w'):=fun w' ho=>by
  have hk: ∀k,k<w2.heap.size→(N≤k∧TyB w2 k 83)→w'.heap[k]?=w2.heap[k]?:=fun k hk q=>ho.block k hk fun z=>by
   have z:k=w.heap.size:=z;exact q.2.ne A0.ty (by decide) z
  exact⟨⟨ve,A9,rfl,A4.move hk fun k _ q=>q.1,A2.move hk fun k _ q=>q.1⟩,A3.trans (ho.bE (c9E A1.out A3.size) fun k z=>by rw[z];exact A1.out)⟩
 have b0:=A0.q0;have b1:=A0.q1;have b2:=A0.q2;have b3:=A0.q3;have b4:=A0.q4;have f0:=A0.frozen 0;have f1:=A0.frozen 1;have f2:=A0.frozen 2;have f3:=A0.frozen 3;have f4:=A0.frozen 4;obtain⟨Ae,Ce,Ad⟩:=A4.1.sE;obtain⟨Aa,Ca,Ac⟩:=A2.1.sE;subst Ad;subst Ac;clear HC A4 A2 A5 A0 A3;go_wp2_with fail;refine bodyPost_ret (v:=.agg #[iV a.err,iV a.n,.slice Ae a.evs.length Ce,iV a.vu,.slice Aa a.vl.length Ca]) (by simp[results,results19,go_sem,b0,b1,b2,b3,b4]) rfl ⟨⟨_,rfl,?_⟩,?_⟩
 ·exact(A7.out _ (aT _ w.heap.size _ _ _ _ _)).1
 ·exact(A7.out _ (aT _ w.heap.size _ _ _ _ _)).2
theorem c4I(B N:Nat)(v:Value)(es:List EvC)(n:Int)(w:World)(h:cH w N v es)(hN:N≤w.heap.size)(hl:es.length≤200000)(hc:w.cell? (aD B 1)=some (iV n)):
  Calls prog 21 #[v,.pointer (some (aD B 0))] w fun e w'=>wI e w' N (gM (es.map aY) n)∧Below N w w':=by
 have bA:=aB8 w (.cells (cJ 0 0) 42);have VB:=aC w (cJ 0 0) 42;have HC:=b8Q N v es n _ (h.bE bA) hl;have c7:=cB8 bA hc;have A8:Hid (∀g,v.ownBlock=some g→N≤g∧g<w.heap.size):=fun g hg=>h.1.lt g hg;have A6:=hd8 bA;have Ab:=hd8 VB;have A1:=hd8 hN;obtain⟨A,C,hv⟩:=h.sE;obtain⟨L,hL⟩: ∃L,L=es.length:=⟨_,rfl⟩;rw[←hL]at hv;subst hv;obtain⟨a,ha⟩: ∃a,a=gM (es.map aY) n:=⟨_,rfl⟩;rw[←ha]at HC⊢;clear h hc bA VB hL ha hN;go_enter func21,ntmps21
 go_upto_region 1 with fail
 generalize w.alloc (.cells (cJ 0 0) 42)=w1 at*;go_wp2_with fail;refine HC.mono ?_;rintro e w2 ⟨⟨v2,rfl,ve,A9,rfl,A4,A2⟩,A5⟩;have A0:aV w2 w.heap.size 42 (cJ 0 0).toList:=Ab.out.off A5 fun z=>by
  have:=(A8.out _ z).2;omega
 have A3:=(A6.out.mono A1.out).trans (A5.bE (c9E A1.out A6.out.size) fun k z=>(A8.out k z).1);have A7:Hid (∀w',Off (fun k=>k=w.heap.size) w2 w'→qG w' (fun k=>N≤k) (.agg #[iV a.err,iV a.n,ve,iV a.vu,A9]) a∧Below N w w'):=fun w' ho=>by
  have hk: ∀k,k<w2.heap.size→(N≤k∧TyB w2 k 83)→w'.heap[k]?=w2.heap[k]?:=fun k hk q=>ho.block k hk fun z=>by
   have z:k=w.heap.size:=z;exact q.2.ne A0.ty (by decide) z
  exact⟨⟨ve,A9,rfl,A4.move hk fun k _ q=>q.1,A2.move hk fun k _ q=>q.1⟩,A3.trans (ho.bE (c9E A1.out A3.size) fun k z=>by rw[z];exact A1.out)⟩
 have b0:=A0.q0;have b1:=A0.q1;have b2:=A0.q2;have b3:=A0.q3;have b4:=A0.q4;have f0:=A0.frozen 0;have f1:=A0.frozen 1;have f2:=A0.frozen 2;have f3:=A0.frozen 3;have f4:=A0.frozen 4;obtain⟨Ae,Ce,Ad⟩:=A4.1.sE;obtain⟨Aa,Ca,Ac⟩:=A2.1.sE;subst Ad;subst Ac;clear HC A4 A2 A5 A0 A3;go_wp2_with fail;refine bodyPost_ret (v:=.agg #[iV a.err,iV a.n,.slice Ae a.evs.length Ce,iV a.vu,.slice Aa a.vl.length Ca]) (by simp[results,results21,go_sem,b0,b1,b2,b3,b4]) rfl ⟨⟨_,rfl,?_⟩,?_⟩
 ·exact(A7.out _ (aT _ w.heap.size _ _ _ _ _)).1
 ·exact(A7.out _ (aT _ w.heap.size _ _ _ _ _)).2
section
variable {N R D : Nat} {F E : Nat → Prop} {c : Sto.Cfg} {s : Sto.St} {V : Nat → Value} {U : Nat → List HeC} {vt vs va : Value} {tc : List (Int × Sl)}
theorem c5W(B:Nat)(q:Nat)(x:Sto.aM)(k p:Int)(y:Nat)(w:World)(h:StP w N R F E c s D V U vt vs va tc)(hq:s.disks[q]?=some x)(hNw:N≤w.heap.size)(hy:y<256)(c2:w.cell? (aD B 2)=some (iV k))(c3:w.cell? (aD B 3)=some (iV p))(c4:w.cell? (aD B 4)=some (.int .u8 y)):
  Calls prog 27 #[.pointer (some (aD D (q*2))),.pointer (some (aD B 0))] w fun e w'=>a6X e w w' N R F E c s D vt vs va tc (dO s.disks q x k p y).1 (dO s.disks q x k p y).2:=by
 have HC:=b7M q x k p y w h hq hNw hy;obtain⟨r,hr⟩: ∃r,r=dO s.disks q x k p y:=⟨_,rfl⟩;rw[←hr]at HC⊢;clear h hr;go_enter func27,ntmps27
 go_wp2_with fail;refine HC.mono ?_;rintro e w2 ⟨rfl,hP⟩;clear HC;go_wp2_with fail;go_ret
 exact⟨rfl,hP⟩
end
theorem a2U{X:Sto.Six}{c:Sto.Cfg}{s:Sto.St}{d:Sto.Do}(h:d.kind=2):Sto.step X c s d=(s,lP (Sto.all X c s) (ofA (Sto.all X c s).2 d.name)):=by
 unfold Sto.step;rw[if_neg (by omega),if_pos (Or.inl h)];unfold Sto.b4Q lP ofA;rw[if_neg (show¬d.kind=4 by omega),if_neg (show¬d.kind=3 by omega)]
theorem a7O{X:Sto.Six}{c:Sto.Cfg}{s:Sto.St}{d:Sto.Do}(h:d.kind=3):Sto.step X c s d=(s,lP (Sto.all X c s) (gM (Sto.all X c s).2 d.n)):=by
 unfold Sto.step;rw[if_neg (by omega),if_pos (Or.inr (Or.inl h))];unfold Sto.b4Q lP gM;rw[if_neg (show¬d.kind=4 by omega),if_pos h]
theorem a2G{X:Sto.Six}{c:Sto.Cfg}{s:Sto.St}{d:Sto.Do}(h:d.kind=4):Sto.step X c s d=(s,lP (Sto.all X c s) (nW (Sto.all X c s).2)):=by
 unfold Sto.step;rw[if_neg (by omega),if_pos (Or.inr (Or.inr h))];unfold Sto.b4Q lP nW;rw[if_pos h]
theorem kA{X:Sto.Six}{c:Sto.Cfg}{s:Sto.St}{d:Sto.Do}(h:d.kind=5∨d.kind=6∨d.kind=7):Sto.step X c s d=Sto.nZ s d:=by
 unfold Sto.step;rw[if_neg (by omega),if_neg (by omega),if_pos h]
theorem kE{s:Sto.St}{d:Sto.Do}(h:d.n<0∨(s.disks.length:Int)≤d.n):Sto.nZ s d=(s,Sto.no 6):=by
 unfold Sto.nZ;cases hx:s.disks[d.n.toNat]? with
 |none=>rfl
 |some x=>
  dsimp only;by_cases q:d.n<0
  ·rw[if_pos q]
  ·have:=(c9H.1 hx).1;omega
theorem tQ{s:Sto.St}{d:Sto.Do}{x:Sto.aM}(hk:d.kind=5)(hn:d.n=(q:Int))(hx:s.disks[q]?=some x):Sto.nZ s d=({s with disks:=if x.gone then s.disks else s.disks.set q ⟨true,[]⟩},⟨if x.gone then 8 else 0,0,[],0,[]⟩):=by
 unfold Sto.nZ;rw[hn,c9Q,hx];dsimp only;rw[if_neg (show¬(q:Int)<0 by omega)];by_cases g:x.gone=true
 ·rw[if_pos ⟨hk,g⟩,if_pos g,if_pos g];rfl
 ·rw[if_neg (fun z=>g z.2),if_pos (Or.inl hk),if_neg g,if_neg g,decide_eq_true hk];rfl
theorem a1D{s:Sto.St}{d:Sto.Do}{x:Sto.aM}(hk:d.kind=6)(hn:d.n=(q:Int))(hx:s.disks[q]?=some x):Sto.nZ s d=({s with disks:=s.disks.set q ⟨false,[]⟩},⟨0,0,[],0,[]⟩):=by
 unfold Sto.nZ;rw[hn,c9Q,hx];dsimp only;rw[if_neg (show¬(q:Int)<0 by omega),if_neg (fun z=>by omega),if_pos (Or.inr hk),decide_eq_false (by omega)];rfl
theorem nE{s:Sto.St}{d:Sto.Do}{x:Sto.aM}(hk:d.kind=7)(hn:d.n=(q:Int))(hx:s.disks[q]?=some x):Sto.nZ s d=({s with disks:=(dO s.disks q x d.seg d.pos d.turn).2},⟨(dO s.disks q x d.seg d.pos d.turn).1,0,[],0,[]⟩):=by
 unfold Sto.nZ dO;rw[hn,c9Q,hx];dsimp only;rw[if_neg (show¬(q:Int)<0 by omega),if_neg (fun z=>by omega),if_neg (fun z=>by omega)];cases x.bl.find? (fun h=>decide (h.1=d.seg))with
 |none=>rfl
 |some h=>
  dsimp only;by_cases g:d.pos<0∨(h.2.length:Int)≤d.pos
  ·rw[if_pos g,if_pos g];rfl
  ·rw[if_neg g,if_neg g];rfl
theorem yR{X:Sto.Six}{c:Sto.Cfg}{s:Sto.St}{d:Sto.Do}(h:d.kind=8):Sto.step X c s d=({s with disks:=(Sto.aN X c s.segs 0 s.disks 0 0).1},⟨(Sto.aN X c s.segs 0 s.disks 0 0).2.1,(Sto.aN X c s.segs 0 s.disks 0 0).2.2,[],0,[]⟩):=by
 unfold Sto.step;rw[if_neg (by omega),if_neg (by omega),if_neg (by omega),if_pos h]
theorem vF{X:Sto.Six}{c:Sto.Cfg}{s:Sto.St}{d:Sto.Do}(h:d.kind=9):Sto.step X c s d=(s,⟨0,(Sto.eI X s.disks s.segs 0 0:Nat),[],0,[]⟩):=by
 unfold Sto.step;rw[if_neg (by omega),if_neg (by omega),if_neg (by omega),if_neg (by omega),if_pos h];rfl
theorem a2I{X:Sto.Six}{c:Sto.Cfg}{s:Sto.St}{d:Sto.Do}(h: ∀k:Int,1≤k→k≤9→d.kind≠k):Sto.step X c s d=(s,⟨1,0,[],0,[]⟩):=by
 have h1:=h 1 (by omega) (by omega);have h2:=h 2 (by omega) (by omega);have h3:=h 3 (by omega) (by omega);have h4:=h 4 (by omega) (by omega);have h5:=h 5 (by omega) (by omega);have h6:=h 6 (by omega) (by omega);have h7:=h 7 (by omega) (by omega);have h8:=h 8 (by omega) (by omega);have h9:=h 9 (by omega) (by omega);unfold Sto.step;rw[if_neg h1,if_neg (by omega),if_neg (by omega),if_neg h8,if_neg h9];rfl
section
variable {w w2 w3 : World} {N R D : Nat} {F E : Nat → Prop} {c : Sto.Cfg} {s : Sto.St} {V : Nat → Value} {U : Nat → List HeC} {vt vs va : Value} {tc : List (Int × Sl)} {d : Sto.Do} {ve : Value} {t : ByteArray} {r : Sto.St × Sto.Ans} {v : Value}
theorem PW.fin(hp:PW w w2 N R F E c s D V U vt vs va tc d ve t)(h:DoO (.returned v) w2 w3 N R F E c r):
  ∃Ae Ce Aa Ca,v=.agg #[iV r.2.err,iV r.2.n,.slice Ae r.2.evs.length Ce,iV r.2.vu,.slice Aa r.2.vl.length Ca]∧aV w3 (w.heap.size+1) 42 (cJ 0 0).toList∧ ∀w',Off (fun k=>k=w.heap.size+1) w3 w'→DoO (.returned v) w w' N R F E c r:=by
 obtain⟨v',F',E',hv,hS,hF,A3,A2,A1,h1,h2⟩:=h;cases hv
 have A4:w.heap.size+1<w2.heap.size:=World.block_lt_of_cell? _ _ (hp.va.q0);have A0: ∀k,k=w.heap.size+1→ ¬F k∧ ¬F' k∧ ¬E' k:=fun k e=>by
  refine⟨fun z=>?_,fun z=>?_,fun z=>?_⟩
  ·have:=hp.lt k (Or.inl z);omega
  ·rcases hF.growF k z with q|q
   ·have:=hp.lt k (Or.inl q);omega
   ·omega
  ·rcases hF.growE k z with q|q
   ·have:=hp.lt k (Or.inr q);omega
   ·omega
 obtain⟨Ae,Ce,he⟩:=h1.1.sE;obtain⟨Aa,Ca,ha⟩:=h2.1.sE;refine⟨Ae,Ce,Aa,Ca,by rw[A1,he,ha],hp.va.off hF.off (A0 _ rfl).1,fun w' ho=>?_⟩;have hk:=fun k hk q=>ho.block k hk fun z=>(A0 k z).2.2 q;have hf:=(dS.oE F E hp.bel).trans hF
 exact⟨_,F',E',rfl,hS.out ho fun k e=>(A0 k e).2,⟨hf.off.past ho fun k e hl=>by
  have e:k=w.heap.size+1:=e
  omega,hf.growF,hf.growE⟩,A3,A2,A1,h1.move hk fun _ _ q=>q,h2.move hk fun _ _ q=>q⟩
end
section
variable {N R D : Nat} {F E : Nat → Prop} {c : Sto.Cfg} {s : Sto.St} {V : Nat → Value} {U : Nat → List HeC} {vt vs va : Value} {tc : List (Int × Sl)} {X : Sto.Six}
theorem c6O(hX:Sto.dE X)(w:World)(h:StP w N R F E c s D V U vt vs va tc)(d:Sto.Do)(ve:Value)(t:ByteArray)(hd:sS w d ve t)(hNw:N≤w.heap.size):
  Calls prog 10 #[.pointer (some (aD R 0)),.agg (dX d ve t).toArray] w fun e w'=>DoO e w w' N R F E c (Sto.step X c s d):=by
 obtain⟨A,C,rfl⟩:=hd.evs.sE;show Calls prog 10 #[.pointer (some (aD R 0)),.agg #[iV d.kind,iV d.n,iV d.seg,iV d.pos,.int .u8 d.turn,iV d.bat.cmd,.slice A d.bat.evs.length C,.string t,iV d.ver]] w fun e w'=>DoO e w w' N R F E c (Sto.step X c s d);have A1:Hid (PW w ((w.alloc (.cells #[iV d.kind,iV d.n,iV d.seg,iV d.pos,.int .u8 d.turn,iV d.bat.cmd,.slice A d.bat.evs.length C,.string t,iV d.ver] 49)).alloc (.cells (cJ 0 0) 42)) N R F E c s D V U vt vs va tc d (.slice A d.bat.evs.length C) t):=a8K h hd;obtain⟨r,hr⟩: ∃r,r=Sto.step X c s d:=⟨_,rfl⟩;have A5:Hid (Sto.step X c s d=r):=hr.symm;rw[←hr];have Af:=Tryz.enters_do1;have Ag:=Tryz.enters_do2;have Ah:=Tryz.enters_do3;have Ai:=Tryz.enters_viewOf;have Aj:=Tryz.enters_lose;have Ak:=Tryz.enters_swap;have HX:Hid (Sto.dE X):=hX;have Ab:=hd8 hNw;clear h hd hX hNw hr;go_enter func10,ntmps10
 go_upto_region 1 with fail
 generalize (w.alloc (.cells #[iV d.kind,iV d.n,iV d.seg,iV d.pos,.int .u8 d.turn,iV d.bat.cmd,.slice A d.bat.evs.length C,.string t,iV d.ver] 49)).alloc (.cells (cJ 0 0) 42)=w2 at A1⊢;have A7:Hid (N≤w2.heap.size):=c9E Ab.out A1.out.bel.size;have e0:w2.cell? (aD w.heap.size 0)=some (iV d.kind):=A1.out.vd.q0;have e1:w2.cell? (aD w.heap.size 1)=some (iV d.n):=A1.out.vd.q1;have e2:w2.cell? (aD w.heap.size 2)=some (iV d.seg):=A1.out.vd.q2;have e3:w2.cell? (aD w.heap.size 3)=some (iV d.pos):=A1.out.vd.q3;have e4:w2.cell? (aD w.heap.size 4)=some (.int .u8 d.turn):=A1.out.vd.q4;have e5:w2.cell? (aD w.heap.size 5)=some (iV d.bat.cmd):=A1.out.vd.q5;have e6:w2.cell? (aD w.heap.size 6)=some (.slice A d.bat.evs.length C):=A1.out.vd.q6;have e7:w2.cell? (aD w.heap.size 7)=some (.string t):=A1.out.vd.q7;have e8:w2.cell? (aD w.heap.size 8)=some (iV d.ver):=A1.out.vd.q8;by_cases k1:d.kind=1
 ·have HC:Calls prog 17 #[.pointer (some (aD R 0)),.agg #[iV d.kind,iV d.n,iV d.seg,iV d.pos,.int .u8 d.turn,iV d.bat.cmd,.slice A d.bat.evs.length C,.string t,iV d.ver]] w2 fun e w'=>DoO e w2 w' N R F E c r:=by
   rw[←A5.out,Sto.zF k1];exact c5G HX.out w2 A1.out.st d (.slice A d.bat.evs.length C) t A1.out.din A7.out
  have Al:=beq_iff_eq.2 k1;clear k1;go_wp2_with fail;refine HC.mono ?_;rintro e w3 hD;obtain⟨v3,rfl⟩: ∃v3,e=.returned v3:=by
   obtain⟨v,_,_,rfl,_⟩:=hD;exact⟨v,rfl⟩
  obtain⟨Ae,Ce,Aa,Ca,rfl,A0,HF⟩:=A1.out.fin hD;have A4:=hd8 HF;have b0:=A0.q0;have b1:=A0.q1;have b2:=A0.q2;have b3:=A0.q3;have b4:=A0.q4;have f0:=A0.frozen 0;have f1:=A0.frozen 1;have f2:=A0.frozen 2;have f3:=A0.frozen 3;have f4:=A0.frozen 4;obtain⟨ae,A3⟩: ∃x,x=r.2.evs.length:=⟨_,rfl⟩;obtain⟨aa,A2⟩: ∃x,x=r.2.vl.length:=⟨_,rfl⟩;rw[←A3,←A2]at A4;rw[←A3,←A2];clear HC hD A0 HF A3 A2;go_wp2_with fail;exact bodyPost_ret (by simp[results,results10,go_sem,b0,b1,b2,b3,b4]) rfl (A4.out _ (aT _ _ _ _ _ _ _))
 have Al:(d.kind==1)=false:=by rw[beq_eq_false_iff_ne];exact k1
 have K1:=hd8 k1;clear k1;by_cases k2:d.kind=2
 ·have HC:Calls prog 18 #[.pointer (some (aD R 0)),.func (.func 19) #[] #[.pointer (some (aD w.heap.size 0))]] w2 fun e w'=>DoO e w2 w' N R F E c r:=by
   rw[←A5.out,a2U k2];refine(a1Z HX.out 19 (.pointer (some (aD w.heap.size 0))) Af (ofA (Sto.all X c s).2 d.name) w2 A1.out.st ?_).mono fun e w' q=>a3O A1.out.st q.1 q.2;intro v es w' hE hm _ hb hN;have q:=c4Y w.heap.size (w2.heap.size+1) v es t w' hE hN A1.out.din.sz (cB8 hb e7);rw[hm,A1.out.din.name]at q;exact q
  have Am:=beq_iff_eq.2 k2;clear k2;go_wp2_with fail;refine HC.mono ?_;rintro e w3 hD;obtain⟨v3,rfl⟩: ∃v3,e=.returned v3:=by
   obtain⟨v,_,_,rfl,_⟩:=hD;exact⟨v,rfl⟩
  obtain⟨Ae,Ce,Aa,Ca,rfl,A0,HF⟩:=A1.out.fin hD;have A4:=hd8 HF;have b0:=A0.q0;have b1:=A0.q1;have b2:=A0.q2;have b3:=A0.q3;have b4:=A0.q4;have f0:=A0.frozen 0;have f1:=A0.frozen 1;have f2:=A0.frozen 2;have f3:=A0.frozen 3;have f4:=A0.frozen 4;obtain⟨ae,A3⟩: ∃x,x=r.2.evs.length:=⟨_,rfl⟩;obtain⟨aa,A2⟩: ∃x,x=r.2.vl.length:=⟨_,rfl⟩;rw[←A3,←A2]at A4;rw[←A3,←A2];clear HC hD A0 HF A3 A2;go_wp2_with fail;exact bodyPost_ret (by simp[results,results10,go_sem,b0,b1,b2,b3,b4]) rfl (A4.out _ (aT _ _ _ _ _ _ _))
 have Am:(d.kind==2)=false:=by rw[beq_eq_false_iff_ne];exact k2
 have K2:=hd8 k2;clear k2;by_cases k3:d.kind=3
 ·have HC:Calls prog 18 #[.pointer (some (aD R 0)),.func (.func 21) #[] #[.pointer (some (aD w.heap.size 0))]] w2 fun e w'=>DoO e w2 w' N R F E c r:=by
   rw[←A5.out,a7O k3];refine(a1Z HX.out 21 (.pointer (some (aD w.heap.size 0))) Ag (gM (Sto.all X c s).2 d.n) w2 A1.out.st ?_).mono fun e w' q=>a3O A1.out.st q.1 q.2;intro v es w' hE hm hl hb hN;have q:=c4I w.heap.size (w2.heap.size+1) v es d.n w' hE hN hl (cB8 hb e1);rw[hm]at q;exact q
  have An:=beq_iff_eq.2 k3;clear k3;go_wp2_with fail;refine HC.mono ?_;rintro e w3 hD;obtain⟨v3,rfl⟩: ∃v3,e=.returned v3:=by
   obtain⟨v,_,_,rfl,_⟩:=hD;exact⟨v,rfl⟩
  obtain⟨Ae,Ce,Aa,Ca,rfl,A0,HF⟩:=A1.out.fin hD;have A4:=hd8 HF;have b0:=A0.q0;have b1:=A0.q1;have b2:=A0.q2;have b3:=A0.q3;have b4:=A0.q4;have f0:=A0.frozen 0;have f1:=A0.frozen 1;have f2:=A0.frozen 2;have f3:=A0.frozen 3;have f4:=A0.frozen 4;obtain⟨ae,A3⟩: ∃x,x=r.2.evs.length:=⟨_,rfl⟩;obtain⟨aa,A2⟩: ∃x,x=r.2.vl.length:=⟨_,rfl⟩;rw[←A3,←A2]at A4;rw[←A3,←A2];clear HC hD A0 HF A3 A2;go_wp2_with fail;exact bodyPost_ret (by simp[results,results10,go_sem,b0,b1,b2,b3,b4]) rfl (A4.out _ (aT _ _ _ _ _ _ _))
 have An:(d.kind==3)=false:=by rw[beq_eq_false_iff_ne];exact k3
 have K3:=hd8 k3;clear k3;by_cases k4:d.kind=4
 ·have HC:Calls prog 18 #[.pointer (some (aD R 0)),.func (.func 23) #[] #[]] w2 fun e w'=>DoO e w2 w' N R F E c r:=by
   rw[←A5.out,a2G k4];refine(b5X HX.out 23 Ai (nW (Sto.all X c s).2) w2 A1.out.st ?_).mono fun e w' q=>a3O A1.out.st q.1 q.2;intro v es w' hE hm _ _ hN;have q:=b1Y (w2.heap.size+1) v es w' hE hN;rw[hm]at q;exact q
  have Ao:=beq_iff_eq.2 k4;clear k4;go_wp2_with fail;refine HC.mono ?_;rintro e w3 hD;obtain⟨v3,rfl⟩: ∃v3,e=.returned v3:=by
   obtain⟨v,_,_,rfl,_⟩:=hD;exact⟨v,rfl⟩
  obtain⟨Ae,Ce,Aa,Ca,rfl,A0,HF⟩:=A1.out.fin hD;have A4:=hd8 HF;have b0:=A0.q0;have b1:=A0.q1;have b2:=A0.q2;have b3:=A0.q3;have b4:=A0.q4;have f0:=A0.frozen 0;have f1:=A0.frozen 1;have f2:=A0.frozen 2;have f3:=A0.frozen 3;have f4:=A0.frozen 4;obtain⟨ae,A3⟩: ∃x,x=r.2.evs.length:=⟨_,rfl⟩;obtain⟨aa,A2⟩: ∃x,x=r.2.vl.length:=⟨_,rfl⟩;rw[←A3,←A2]at A4;rw[←A3,←A2];clear HC hD A0 HF A3 A2;go_wp2_with fail;exact bodyPost_ret (by simp[results,results10,go_sem,b0,b1,b2,b3,b4]) rfl (A4.out _ (aT _ _ _ _ _ _ _))
 have Ao:(d.kind==4)=false:=by rw[beq_eq_false_iff_ne];exact k4
 have K4:=hd8 k4;clear k4;by_cases k5:d.kind=5
 ·have HC:Calls prog 24 #[.pointer (some (aD R 0)),iV d.n,.func (.func 25) #[] #[]] w2 fun e w'=>DoO e w2 w' N R F E c r:=by
   rw[←A5.out,kA (Or.inl k5)];by_cases hn:d.n<0∨(s.disks.length:Int)≤d.n
   ·rw[kE hn];exact(tO 25 d.n w2 A1.out.st hn).mono fun e w' q=>j9 q
   ·obtain⟨q,hq⟩: ∃q:Nat,d.n=(q:Int):=⟨d.n.toNat,by omega⟩;have A6:q<s.disks.length:=by omega
    obtain⟨x,hx⟩: ∃x,s.disks[q]?=some x:=⟨s.disks[q],c9F A6⟩;rw[tQ k5 hq hx,hq];exact(sI 25 Aj q _ _ w2 A1.out.st A6 fun w' V' U' hb hS=>c1I q x w' hS hx (c9E A7.out hb.size)).mono fun e w' z=>j9 z
  have Ap:=beq_iff_eq.2 k5;clear k5;go_wp2_with fail;refine HC.mono ?_;rintro e w3 hD;obtain⟨v3,rfl⟩: ∃v3,e=.returned v3:=by
   obtain⟨v,_,_,rfl,_⟩:=hD;exact⟨v,rfl⟩
  obtain⟨Ae,Ce,Aa,Ca,rfl,A0,HF⟩:=A1.out.fin hD;have A4:=hd8 HF;have b0:=A0.q0;have b1:=A0.q1;have b2:=A0.q2;have b3:=A0.q3;have b4:=A0.q4;have f0:=A0.frozen 0;have f1:=A0.frozen 1;have f2:=A0.frozen 2;have f3:=A0.frozen 3;have f4:=A0.frozen 4;obtain⟨ae,A3⟩: ∃x,x=r.2.evs.length:=⟨_,rfl⟩;obtain⟨aa,A2⟩: ∃x,x=r.2.vl.length:=⟨_,rfl⟩;rw[←A3,←A2]at A4;rw[←A3,←A2];clear HC hD A0 HF A3 A2;go_wp2_with fail;exact bodyPost_ret (by simp[results,results10,go_sem,b0,b1,b2,b3,b4]) rfl (A4.out _ (aT _ _ _ _ _ _ _))
 have Ap:(d.kind==5)=false:=by rw[beq_eq_false_iff_ne];exact k5
 have K5:=hd8 k5;clear k5;by_cases k6:d.kind=6
 ·have HC:Calls prog 24 #[.pointer (some (aD R 0)),iV d.n,.func (.func 26) #[] #[]] w2 fun e w'=>DoO e w2 w' N R F E c r:=by
   rw[←A5.out,kA (Or.inr (Or.inl k6))];by_cases hn:d.n<0∨(s.disks.length:Int)≤d.n
   ·rw[kE hn];exact(tO 26 d.n w2 A1.out.st hn).mono fun e w' q=>j9 q
   ·obtain⟨q,hq⟩: ∃q:Nat,d.n=(q:Int):=⟨d.n.toNat,by omega⟩;have A6:q<s.disks.length:=by omega
    obtain⟨x,hx⟩: ∃x,s.disks[q]?=some x:=⟨s.disks[q],c9F A6⟩;rw[a1D k6 hq hx,hq];exact(sI 26 Ak q _ _ w2 A1.out.st A6 fun w' V' U' hb hS=>c1L q x w' hS hx (c9E A7.out hb.size)).mono fun e w' z=>j9 z
  have Aq:=beq_iff_eq.2 k6;clear k6;go_wp2_with fail;refine HC.mono ?_;rintro e w3 hD;obtain⟨v3,rfl⟩: ∃v3,e=.returned v3:=by
   obtain⟨v,_,_,rfl,_⟩:=hD;exact⟨v,rfl⟩
  obtain⟨Ae,Ce,Aa,Ca,rfl,A0,HF⟩:=A1.out.fin hD;have A4:=hd8 HF;have b0:=A0.q0;have b1:=A0.q1;have b2:=A0.q2;have b3:=A0.q3;have b4:=A0.q4;have f0:=A0.frozen 0;have f1:=A0.frozen 1;have f2:=A0.frozen 2;have f3:=A0.frozen 3;have f4:=A0.frozen 4;obtain⟨ae,A3⟩: ∃x,x=r.2.evs.length:=⟨_,rfl⟩;obtain⟨aa,A2⟩: ∃x,x=r.2.vl.length:=⟨_,rfl⟩;rw[←A3,←A2]at A4;rw[←A3,←A2];clear HC hD A0 HF A3 A2;go_wp2_with fail;exact bodyPost_ret (by simp[results,results10,go_sem,b0,b1,b2,b3,b4]) rfl (A4.out _ (aT _ _ _ _ _ _ _))
 have Aq:(d.kind==6)=false:=by rw[beq_eq_false_iff_ne];exact k6
 have K6:=hd8 k6;clear k6;by_cases k7:d.kind=7
 ·have HC:Calls prog 24 #[.pointer (some (aD R 0)),iV d.n,.func (.func 27) #[] #[.pointer (some (aD w.heap.size 0))]] w2 fun e w'=>DoO e w2 w' N R F E c r:=by
   rw[←A5.out,kA (Or.inr (Or.inr k7))];by_cases hn:d.n<0∨(s.disks.length:Int)≤d.n
   ·rw[kE hn];exact(a3N 27 (.pointer (some (aD w.heap.size 0))) d.n w2 A1.out.st hn).mono fun e w' q=>j9 q
   ·obtain⟨q,hq⟩: ∃q:Nat,d.n=(q:Int):=⟨d.n.toNat,by omega⟩;have A6:q<s.disks.length:=by omega
    obtain⟨x,hx⟩: ∃x,s.disks[q]?=some x:=⟨s.disks[q],c9F A6⟩;rw[nE k7 hq hx,hq];exact(a4Z 27 (.pointer (some (aD w.heap.size 0))) Ah q _ _ w2 A1.out.st A6 fun w' V' U' hb hS=>c5W w.heap.size q x d.seg d.pos d.turn w' hS hx (c9E A7.out hb.size) A1.out.din.byte (cB8 hb e2) (cB8 hb e3) (cB8 hb e4)).mono fun e w' z=>j9 z
  have Ar:=beq_iff_eq.2 k7;clear k7;go_wp2_with fail;refine HC.mono ?_;rintro e w3 hD;obtain⟨v3,rfl⟩: ∃v3,e=.returned v3:=by
   obtain⟨v,_,_,rfl,_⟩:=hD;exact⟨v,rfl⟩
  obtain⟨Ae,Ce,Aa,Ca,rfl,A0,HF⟩:=A1.out.fin hD;have A4:=hd8 HF;have b0:=A0.q0;have b1:=A0.q1;have b2:=A0.q2;have b3:=A0.q3;have b4:=A0.q4;have f0:=A0.frozen 0;have f1:=A0.frozen 1;have f2:=A0.frozen 2;have f3:=A0.frozen 3;have f4:=A0.frozen 4;obtain⟨ae,A3⟩: ∃x,x=r.2.evs.length:=⟨_,rfl⟩;obtain⟨aa,A2⟩: ∃x,x=r.2.vl.length:=⟨_,rfl⟩;rw[←A3,←A2]at A4;rw[←A3,←A2];clear HC hD A0 HF A3 A2;go_wp2_with fail;exact bodyPost_ret (by simp[results,results10,go_sem,b0,b1,b2,b3,b4]) rfl (A4.out _ (aT _ _ _ _ _ _ _))
 have Ar:(d.kind==7)=false:=by rw[beq_eq_false_iff_ne];exact k7
 have K7:=hd8 k7;clear k7;by_cases k8:d.kind=8
 ·have HC:Calls prog 29 #[.pointer (some (aD R 0))] w2 fun e w'=>DoO e w2 w' N R F E c r:=by
   rw[←A5.out,yR k8];refine(b6O HX.out w2 A1.out.st A7.out).mono ?_;rintro e w' ⟨rfl,F',V',U',q1,q2⟩;exact⟨_,F',E,rfl,⟨_,_,_,_,_,_,_,q1⟩,q2,fJ _ _ _ _⟩
  have As:=beq_iff_eq.2 k8;clear k8;go_wp2_with fail;refine HC.mono ?_;rintro e w3 hD;obtain⟨v3,rfl⟩: ∃v3,e=.returned v3:=by
   obtain⟨v,_,_,rfl,_⟩:=hD;exact⟨v,rfl⟩
  obtain⟨Ae,Ce,Aa,Ca,rfl,A0,HF⟩:=A1.out.fin hD;have A4:=hd8 HF;have b0:=A0.q0;have b1:=A0.q1;have b2:=A0.q2;have b3:=A0.q3;have b4:=A0.q4;have f0:=A0.frozen 0;have f1:=A0.frozen 1;have f2:=A0.frozen 2;have f3:=A0.frozen 3;have f4:=A0.frozen 4;obtain⟨ae,A3⟩: ∃x,x=r.2.evs.length:=⟨_,rfl⟩;obtain⟨aa,A2⟩: ∃x,x=r.2.vl.length:=⟨_,rfl⟩;rw[←A3,←A2]at A4;rw[←A3,←A2];clear HC hD A0 HF A3 A2;go_wp2_with fail;exact bodyPost_ret (by simp[results,results10,go_sem,b0,b1,b2,b3,b4]) rfl (A4.out _ (aT _ _ _ _ _ _ _))
 have As:(d.kind==8)=false:=by rw[beq_eq_false_iff_ne];exact k8
 have K8:=hd8 k8;clear k8;by_cases k9:d.kind=9
 ·have HC:=a9K HX.out w2 A1.out.st;obtain⟨n,hn⟩: ∃n,n=Sto.eI X s.disks s.segs 0 0:=⟨_,rfl⟩;rw[←hn]at HC;have Ad:Hid (r=(s,⟨0,(n:Nat),[],0,[]⟩)):=by
   show r=_;rw[←A5.out,vF k9,hn]
  have At:=beq_iff_eq.2 k9;clear k9 hn;go_wp2_with fail;refine HC.mono ?_;rintro e w3 ⟨rfl,A9⟩;have A8:=A1.out.bE A9;have A0:=A8.va;have A4:Hid (∀w',Off (fun k=>k=w.heap.size+1) w3 w'→DoO (.returned (dI 0 (n:Nat))) w w' N R F E c r):=fun w' ho=>by
   rw[Ad.out];exact A8.same ho 0 (n:Nat)
  have b0:=A0.q0;have b1:=A0.q1;have b2:=A0.q2;have b3:=A0.q3;have b4:=A0.q4;have f0:=A0.frozen 0;have f1:=A0.frozen 1;have f2:=A0.frozen 2;have f3:=A0.frozen 3;have f4:=A0.frozen 4;clear HC A9 A8 A0;go_wp2_with fail;exact bodyPost_ret (by simp[results,results10,go_sem,b0,b1,b2,b3,b4]) rfl (A4.out _ (aT _ _ _ _ _ _ _))
 have At:(d.kind==9)=false:=by rw[beq_eq_false_iff_ne];exact k9
 have Ac:Hid (r=(s,⟨1,0,[],0,[]⟩)):=by
  show r=_;rw[←A5.out];refine a2I fun k h1 h2 e=>?_;have z1:=K1.out;have z2:=K2.out;have z3:=K3.out;have z4:=K4.out;have z5:=K5.out;have z6:=K6.out;have z7:=K7.out;have z8:=K8.out;omega
 have A0:=A1.out.va;have A4:Hid (∀w',Off (fun k=>k=w.heap.size+1) w2 w'→DoO (.returned (dI 1 0)) w w' N R F E c r):=fun w' ho=>by
  rw[Ac.out];exact A1.out.same ho 1 0
 have b0:=A0.q0;have b1:=A0.q1;have b2:=A0.q2;have b3:=A0.q3;have b4:=A0.q4;have f0:=A0.frozen 0;have f1:=A0.frozen 1;have f2:=A0.frozen 2;have f3:=A0.frozen 3;have f4:=A0.frozen 4;clear k9 A0;go_wp2_with fail;exact bodyPost_ret (by simp[results,results10,go_sem,b0,b1,b2,b3,b4]) rfl (A4.out _ (aT _ _ _ _ _ _ _))
end
def cN(d s b:Int):Nat:=if bZ d s≠0 then bZ d s else if b<1∨10<b then 3 else 0
theorem b6A{d s b:Int}(h:cN d s b=0):1≤d∧d≤8∧0≤s∧s≤4∧1≤b∧b≤10:=by
 unfold cN at h;by_cases h1:bZ d s≠0
 ·rw[if_pos h1]at h;exact absurd h h1
 ·rw[if_neg h1]at h;have h2: ¬(d<1∨8<d∨s<0∨4<s):=fun z=>h1 (by rw[cE z];decide);by_cases h3:b<1∨10<b
  ·rw[if_pos h3]at h;cases h
  ·omega
theorem iN(d s b:Int)(w:World):
  Calls prog 6 #[.agg #[iV d,iV s,iV b]] w fun e w'=>e=.returned (iV (cN d s b:Nat))∧Bl w w':=by
 have bA:=aB8 w (.cells #[iV d,iV s,iV b] 23);have VB:=aC w #[iV d,iV s,iV b] 23;have c0:=VB.q0;have c1:=VB.q1;have HC:=dY d s (w.alloc (.cells #[iV d,iV s,iV b] 23));have A0:Hid (cN d s b=if bZ d s≠0 then bZ d s else if b<1∨10<b then 3 else 0):=rfl;generalize bZ d s=x at HC A0;have A2:=hd8 VB;clear VB;go_enter func6,ntmps6
 go_wp2_with fail;refine HC.mono ?_;rintro e w2 ⟨rfl,b2⟩;have A4:=(A2.out.bE b2).q2;have A1:=bt bA b2;clear HC;by_cases hx:x=0
 ·have A3:((x:Int) !=0)=false:=by rw[bne_eq_false_iff_eq];omega
  by_cases h1:b<1
  ·have HR:Hid (cN d s b=3):=by
    show cN d s b=3;rw[A0.out,if_neg (fun z=>z hx),if_pos (Or.inl h1)]
   clear hx;go_wp2_with fail;go_ret
   exact⟨by rw[HR.out];rfl,A1⟩
  ·by_cases h2:10<b
   ·have HR:Hid (cN d s b=3):=by
     show cN d s b=3;rw[A0.out,if_neg (fun z=>z hx),if_pos (Or.inr h2)]
    clear hx;go_wp2_with fail;go_ret
    exact⟨by rw[HR.out];rfl,A1⟩
   ·have HR:Hid (cN d s b=0):=by
     show cN d s b=0;rw[A0.out,if_neg (fun z=>z hx),if_neg (by omega)]
    clear hx;go_wp2_with fail;go_ret
    exact⟨by rw[HR.out];rfl,A1⟩
 ·have A3:((x:Int) !=0)=true:=by rw[bne_iff_ne];omega
  have HR:Hid (cN d s b=x):=by
   show cN d s b=x;rw[A0.out,if_pos hx]
  clear hx;go_wp2_with fail;go_ret
  exact⟨by rw[HR.out];rfl,A1⟩
theorem Tryz.infoDisk:(Tryz.prog.info? 58).map (fun i=>(i.zero,i.size,i.bytes))=some (some (.agg #[.bool false,nS]),2,32):=by kernel_rfl
theorem Tryz.infoAns:(Tryz.prog.info? 42).map (fun i=>(i.zero,i.size,i.bytes))=some (some (.agg #[iV 0,iV 0,nS,iV 0,nS]),5,72):=by kernel_rfl
theorem xF(n:Nat)(hn:n≤12)(w:World):(Instr.makeSlice 25 (iV n) (iV n)).run prog w=.ok (.slice (some (aD w.heap.size 0)) n n) (w.alloc (.cells (madeCells #[.bool false,nS] (n*2)) 58)):=by
 obtain⟨i3,A1,A0⟩:=c9J.1 Tryz.infoDisk;simp only[Prod.mk.injEq]at A0;obtain⟨A2,A3,A4⟩:=A0;have hr:=run_make (P:=prog) w 25 58 i3 _ underlying25 A1 A2 .i64 .i64 n n (by omega) (d1Q _) (by rw[A4];omega) (by omega);simp only[Int.toNat_natCast,A3]at hr;exact hr
theorem pM(n:Nat)(w:World):aZ (w.alloc (.cells (madeCells #[.bool false,nS] (n*2)) 58)) w.heap.size 58 (n*2) (dkF (fun _=>nS) (List.replicate n ⟨false,[]⟩)):=by
 have hr:=World.rowIs_alloc w (madeCells #[.bool false,nS] (n*2)) 58 (dkF (fun _=>nS) (List.replicate n ⟨false,[]⟩)) (fun i hi=>?_)
 ·have:=iL hr;rw[size_madeCells]at this;exact this
 ·rw[size_madeCells]at hi;have h1:i/2<n:=by omega
  have hd:(List.replicate n (⟨false,[]⟩:Sto.aM)).getD (i/2) ⟨false,[]⟩=⟨false,[]⟩:=by
   rw[c9R,List.getElem?_replicate];split<;>rfl
  unfold dkF;rw[hd];by_cases q:i%2=0
  ·rw[if_pos q];have:=mP #[.bool false,nS] (n*2) i hi (.bool false) (by rw[show(#[Value.bool false,nS]).size=2 from rfl,q];rfl);rw[Array.getElem?_toList]at this;exact this
  ·rw[if_neg q];have:=mP #[.bool false,nS] (n*2) i hi nS (by rw[show(#[Value.bool false,nS]).size=2 from rfl,show i%2=1 by omega];rfl);rw[Array.getElem?_toList]at this;exact this
theorem b9A{w:World}{c:Sto.Cfg}(h1:1≤c.d)(h2:c.d≤8)(h3:c.s≤4)(h4:1≤c.b)(h5:c.b≤10)(hN:N≤R)(hD:N≤D)
  (hv:aV w R 45 (j6 c D (c.d+c.s) 0 nS nS 0 nS)) (hr:aZ w D 58 ((c.d+c.s)*2) (dkF (fun _=>nS) (List.replicate (c.d+c.s) ⟨false,[]⟩))):
  StP w N R (fun k=>k=R∨k=D) (fun _=>False) c (Sto.start c) D (fun _=>nS) (fun _=>[]) nS nS nS []:=by
 have hl:(Sto.start c).disks.length=c.d+c.s:=List.length_replicate ..;refine⟨?_,hN,⟨?_,hD,fun i _=>World.ownsRow_nil _ _ _ _,fun i d hd=>?_,fun i x _ hx=>(by cases hx),fun i j g _ _ hg=>(by cases hg),fun i j a b x x' g _ _ hx=>(by cases hx)⟩,⟨World.ownsRow_nil _ _ _ _,rfl,fun i x b hx=>(by cases hx)⟩,World.ownsRow_nil _ _ _ _,pC _ _,Or.inl rfl,Or.inr rfl,fun i g _ hg=>(by cases hg),fun i x g _ hx=>(by cases hx),fun g hg=>(by cases hg),fun g hg=>(by cases hg),fun k hk=>?_,fun k hk=>hk.elim,⟨hl,h1,h2,h3,h4,h5,fun i d hd=>?_,Nat.zero_le _,h4,fun b hb=>(by cases hb),List.Pairwise.nil,Int.le_refl _,⟨Int.le_refl _,(show(0:Int)≤150 by decide),fun a ha=>(by cases ha),List.Pairwise.nil,rfl⟩⟩⟩
 ·rw[hl];exact hv
 ·show aZ w D _ ((Sto.start c).disks.length*2) _;rw[hl];exact hr
 ·have:d=⟨false,[]⟩:=by
   have hd:(List.replicate (c.d+c.s) (⟨false,[]⟩:Sto.aM))[i]?=some d:=hd;exact d2X (c9N hd)
  rw[this];rfl
 ·rcases hk with rfl|rfl
  ·exact⟨hN,aZ.lt hv⟩
  ·exact⟨hD,hr.lt⟩
 ·have:d=⟨false,[]⟩:=by
   have hd:(List.replicate (c.d+c.s) (⟨false,[]⟩:Sto.aM))[i]?=some d:=hd;exact d2X (c9N hd)
  rw[this];exact⟨List.Pairwise.nil,fun h hh=>(by cases hh),fun hh=>rfl⟩
def b7H(w:World)(b o:Nat)(d:Sto.Do):Prop:= ∃ve t,sS w d ve t∧ ∀j u,(dX d ve t)[j]?=some u→w.cell? (aD b (o+j))=some u
def Dos(w:World)(v:Value)(l:List Sto.Do):Prop:= ∃A cap,v=.slice A l.length cap∧l.length≤cap∧cap≤maxLen∧ ∀i d,l[i]?=some d→ ∃b o,A=some (aD b o)∧b7H w b (o+i*9) d
theorem b7H.bE{d:Sto.Do}(h:b7H w b o d)(hN:N=w.heap.size)(hb:Below N w w'):b7H w' b o d:=by
 subst hN;obtain⟨ve,t,h1,h2⟩:=h;exact⟨ve,t,h1.bE hb,fun j u hj=>cB8 hb (h2 j u hj)⟩
abbrev AnC:=Nat×Int×Sl×Int×Sl
def cY(q:AnC):List Value:=[iV q.1,iV q.2.1,slV q.2.2.1,iV q.2.2.2.1,slV q.2.2.2.2]
structure gE(w:World)(N:Nat)(F:Nat→Prop)(v:Value)(qs:List AnC)(al:List Sto.Ans):Prop where
 own:w.ownsRow N 42 5 v qs.length (qs.flatMap cY)
 len:qs.length=al.length
 ans: ∀(i:Nat) (q:AnC) (a:Sto.Ans),qs[i]?=some q→al[i]?=some a→qG w (fun k=> ¬F k∧k<w.heap.size∧v.ownBlock≠some k∧N≤k) (.agg (cY q).toArray) a
theorem gE.step{F' E':Nat→Prop}{qs:List AnC}{al:List Sto.Ans}(h:gE w N F v qs al)(hf:dS w w' F F' E E')(hv: ∀g,v.ownBlock=some g→ ¬F g):gE w' N F' v qs al:=
 ⟨bC h.own hf.off hv,h.len,fun i q a hq ha=>(h.ans i q a hq ha).move (fun k hk z=>hf.off.block k hk z.1) fun k hk z=>⟨fun y=>by
  rcases hf.growF k y with y|y
  ·exact z.1 y
  ·omega,c9P hk hf.off.size,z.2.2⟩⟩
theorem gE.bE{qs:List AnC}{al:List Sto.Ans}(h:gE w N F v qs al)(hb:Bl w w'):gE w' N F v qs al:=
 ⟨aK h.own hb,h.len,fun i q a hq ha=>(h.ans i q a hq ha).move (fun k hk _=>hb.block k hk) fun _ hk z=>⟨z.1,c9P hk hb.size,z.2.2⟩⟩
theorem uQ.dis{c:Sto.Cfg}{s:Sto.St}(h:uQ w N R F E c s)(hk:E k): ¬F k∧k<w.heap.size:=by
 obtain⟨D,V,U,vt,vs,va,tc,h⟩:=h;exact h.dis k hk
theorem c4Q(w:World)(N:Nat)(F:Nat→Prop)(v:Value)(qs:List AnC)(al:List Sto.Ans)(h:gE w N F v qs al)(hN:N≤w.heap.size)(q:AnC)(a:Sto.Ans)(ha:qG w (fun k=> ¬F k∧k<w.heap.size∧v.ownBlock≠some k∧N≤k) (.agg (cY q).toArray) a)(hsz:qs.length≤1000):
  ∃v' w',(Builtin.append_ #[33,33] 33 #[v,.slice (some (aD w.heap.size 0)) 1 1]).run prog (w.alloc (.cells (cY q).toArray 42))=.ok v' w'∧gE w' N F v' (qs++[q]) (al++[a])∧Off (fun k=>v.ownBlock=some k) w w'∧(v'.ownBlock=v.ownBlock∨ ∀g,v'.ownBlock=some g→w.heap.size≤g):=by
 obtain⟨i4,A6,A4⟩:=c9J.1 Tryz.infoAns;simp only[Prod.mk.injEq]at A4;obtain⟨A7,A8,A9⟩:=A4;have bA:=aB8 w (.cells (cY q).toArray 42);have hc:=aC w (cY q).toArray 42
 obtain⟨v',w',A2,ho,hg,_,A3⟩:=run_append_own_at (P:=prog) (w.alloc (.cells (cY q).toArray 42)) N 33 33 42 i4 _ 5 72 underlying33 A6 A7 A8 A9 rfl (by decide) v qs.length _ (aK h.own bA) (aD w.heap.size 0) 1 1 (cY q) rfl (fun j u hj=>by
  rw[WideShapes.add_plain,c9G]
  exact hc.cell hj) (fun u hu=>by
  simp only[cY,List.mem_cons,List.not_mem_nil,or_false]at hu
  rcases hu with rfl|rfl|rfl|rfl|rfl<;>rfl) (by unfold maxLen;omega) (by omega) (c9E hN bA.size)
 have A1:=(Off.oE bA).trans (cI hg)
 have A5: ∀{q:AnC} {a:Sto.Ans},qG w (fun k=> ¬F k∧k<w.heap.size∧v.ownBlock≠some k∧N≤k) (.agg (cY q).toArray) a→qG w' (fun k=> ¬F k∧k<w'.heap.size∧v'.ownBlock≠some k∧N≤k) (.agg (cY q).toArray) a:=fun {q a} z=>z.move (fun k hk y=>A1.block k hk y.2.2.1) fun k hk y=>⟨y.1,c9P hk A1.size,fun e=>by
  rcases A3 with x|x
  ·rw[x]at e;exact y.2.2.1 e
  ·rw[x]at e;cases e
   exact absurd bA.size (Nat.not_le.2 hk),y.2.2.2⟩
 refine⟨v',w',A2,⟨?_,by rw[c9I,c9I,h.len];rfl,fun i x b hx hb=>?_⟩,A1,A3.imp id fun z g hg=>?_⟩
 ·rw[c9I,d0H];exact ho
 ·have Aa:=h.len;by_cases hi:i<qs.length
  ·rw[d0M hi]at hx;rw[d0M (by omega)]at hb;exact A5 (h.ans i x b hx hb)
  ·have A0:=(c9H.1 hx).1;rw[c9I]at A0;have A0:i<qs.length+1:=A0;obtain rfl:i=qs.length:=by omega
   rw[d0S (c9C _),d1L]at hx;rw[d0S (by omega),show qs.length-al.length=0 by omega]at hb;cases hx
   cases hb
   exact A5 ha
 ·rw[z]at hg;cases hg
  exact bA.size
structure c1O(w3 wx:World)(c:Sto.Cfg)(R D:Nat):Prop where
 var:aV wx R 45 (j6 c D (c.d+c.s) 0 nS nS 0 nS)
 row:aZ wx D 58 ((c.d+c.s)*2) (dkF (fun _=>nS) (List.replicate (c.d+c.s) ⟨false,[]⟩))
 geR:w3.heap.size≤R
 geD:w3.heap.size≤D
 bel:Bl w3 wx
theorem c3Y(w3:World)(c:Sto.Cfg):c1O w3 ((w3.alloc (.cells (madeCells #[.bool false,nS] ((c.d+c.s)*2)) 58)).alloc (.cells #[iV c.d,iV c.s,iV c.b,.slice (some (aD w3.heap.size 0)) (c.d+c.s) (c.d+c.s),iV 0,nS,nS,iV 0,nS] 45)).drew c (w3.heap.size+1) w3.heap.size:=by
 have b1:=aB8 w3 (.cells (madeCells #[.bool false,nS] ((c.d+c.s)*2)) 58);have b2:=(aB8 (w3.alloc (.cells (madeCells #[.bool false,nS] ((c.d+c.s)*2)) 58)) (.cells #[iV c.d,iV c.s,iV c.b,.slice (some (aD w3.heap.size 0)) (c.d+c.s) (c.d+c.s),iV 0,nS,nS,iV 0,nS] 45)).drew;have V:=aC (w3.alloc (.cells (madeCells #[.bool false,nS] ((c.d+c.s)*2)) 58)) #[iV c.d,iV c.s,iV c.b,.slice (some (aD w3.heap.size 0)) (c.d+c.s) (c.d+c.s),iV 0,nS,nS,iV 0,nS] 45;rw[show(w3.alloc (.cells (madeCells #[.bool false,nS] ((c.d+c.s)*2)) 58)).heap.size=w3.heap.size+1 by simp]at V;exact⟨V,(pM (c.d+c.s) w3).bE b2,c9O _,c9C _,bt b1 b2⟩
theorem c5M(w3:World)(c:Sto.Cfg):c1O w3 ((w3.alloc (.cells #[iV c.d,iV c.s,iV c.b,.slice (some (aD (w3.heap.size+1) 0)) (c.d+c.s) (c.d+c.s),iV 0,nS,nS,iV 0,nS] 45)).alloc (.cells (madeCells #[.bool false,nS] ((c.d+c.s)*2)) 58)).drew c w3.heap.size (w3.heap.size+1):=by
 have b1:=aB8 w3 (.cells #[iV c.d,iV c.s,iV c.b,.slice (some (aD (w3.heap.size+1) 0)) (c.d+c.s) (c.d+c.s),iV 0,nS,nS,iV 0,nS] 45);have b2:=(aB8 (w3.alloc (.cells #[iV c.d,iV c.s,iV c.b,.slice (some (aD (w3.heap.size+1) 0)) (c.d+c.s) (c.d+c.s),iV 0,nS,nS,iV 0,nS] 45)) (.cells (madeCells #[.bool false,nS] ((c.d+c.s)*2)) 58)).drew;have V:=(aC w3 #[iV c.d,iV c.s,iV c.b,.slice (some (aD (w3.heap.size+1) 0)) (c.d+c.s) (c.d+c.s),iV 0,nS,nS,iV 0,nS] 45).bE b2;have r:=pM (c.d+c.s) (w3.alloc (.cells #[iV c.d,iV c.s,iV c.b,.slice (some (aD (w3.heap.size+1) 0)) (c.d+c.s) (c.d+c.s),iV 0,nS,nS,iV 0,nS] 45));rw[show(w3.alloc (.cells #[iV c.d,iV c.s,iV c.b,.slice (some (aD (w3.heap.size+1) 0)) (c.d+c.s) (c.d+c.s),iV 0,nS,nS,iV 0,nS] 45)).heap.size=w3.heap.size+1 by simp]at r;exact⟨V,r,c9C _,c9O _,bt b1 b2⟩
def b3D(e:Ending)(w w':World)(X:Sto.Six)(c:Sto.Cfg)(l:List Sto.Do):Prop:= ∃N R F E D V U vt vs va tc vr qs,e=.returned (.tuple #[.agg (j6 c D (Sto.aX X c (Sto.start c) l).1.disks.length (Sto.aX X c (Sto.start c) l).1.segs vt vs (Sto.aX X c (Sto.start c) l).1.u va).toArray,vr,iV 0])∧StP w' N R F E c (Sto.aX X c (Sto.start c) l).1 D V U vt vs va tc∧gE w' N F vr qs (Sto.aX X c (Sto.start c) l).2∧Bl w w'∧N=w.heap.size∧ ∀k,E k→w.heap.size≤k
structure a1V(w wr:World)(X:Sto.Six)(c:Sto.Cfg)(l:List Sto.Do)(R:Nat)(vr:Value)(k:Nat)(F E:Nat→Prop)(D:Nat)(V:Nat→Value)(U:Nat→List HeC)(vt vs va:Value)(tc:List (Int×Sl))(qs:List AnC):Prop where
 st:StP wr w.heap.size R F E c (Sto.aX X c (Sto.start c) (l.take k)).1 D V U vt vs va tc
 ans:gE wr w.heap.size (fun k=>F k∨k=w.heap.size+1) vr qs (Sto.aX X c (Sto.start c) (l.take k)).2
 bel:Bl w wr
 sep: ∀g,vr.ownBlock=some g→ ¬F g∧ ¬E g
 res:aV wr (w.heap.size+1) 32 #[iV 0,iV 0,iV 0,nS,iV 0,nS,nS,iV 0,nS].toList
 noF: ¬F (w.heap.size+1)
 noE: ¬E (w.heap.size+1)
 geE: ∀k,E k→w.heap.size≤k
def b3A(w wr:World)(X:Sto.Six)(c:Sto.Cfg)(l:List Sto.Do)(R:Nat)(vr:Value)(k:Nat):Prop:= ∃F E D V U vt vs va tc qs,a1V w wr X c l R vr k F E D V U vt vs va tc qs
theorem b6N{X:Sto.Six}{c:Sto.Cfg}{l:List Sto.Do}{s:Sto.St}{d:Sto.Do}(h:l[k]?=some d):(Sto.aX X c s (l.take (k+1))).2=(Sto.aX X c s (l.take k)).2++[(Sto.step X c (Sto.aX X c s (l.take k)).1 d).2]:=by
 rw[d1Y,h,Sto.mY];rfl
section
variable {w wr w5 w6 w7 : World} {X : Sto.Six} {c : Sto.Cfg} {l : List Sto.Do} {R k D : Nat} {vr v7 : Value} {F E F' E' : Nat → Prop} {V : Nat → Value} {U : Nat → List HeC} {vt vs va : Value} {tc : List (Int × Sl)} {qs : List AnC} {d : Sto.Do} {q : AnC}
theorem a1V.next(h:a1V w wr X c l R vr k F E D V U vt vs va tc qs)(hd:l[k]?=some d)(b5:Bl wr w5)(hS6:uQ w6 w.heap.size R F' E' c (Sto.step X c (Sto.aX X c (Sto.start c) (l.take k)).1 d).1)(hF6:dS w5 w6 F F' E E')
  (ho:Off (fun g=>vr.ownBlock=some g) w6 w7) (hat:v7.ownBlock=vr.ownBlock∨ ∀g,v7.ownBlock=some g→w6.heap.size≤g) (hA7:gE w7 w.heap.size (fun k=>F' k∨k=w.heap.size+1) v7 (qs++[q]) ((Sto.aX X c (Sto.start c) (l.take k)).2++[(Sto.step X c (Sto.aX X c (Sto.start c) (l.take k)).1 d).2])):b3A w w7 X c l R v7 (k+1):=by
 have A2: ∀g,vr.ownBlock=some g→w.heap.size≤g∧g<w5.heap.size:=fun g hg=>⟨(h.ans.own.lt g hg).1,c9P (h.ans.own.lt g hg).2 b5.size⟩;have A1: ∀g,vr.ownBlock=some g→ ¬F' g∧ ¬E' g:=fun g hg=>by
  have h1:=A2 g hg;refine⟨fun z=>?_,fun z=>?_⟩
  ·rcases hF6.growF g z with y|y
   ·exact(h.sep g hg).1 y
   ·omega
  ·rcases hF6.growE g z with y|y
   ·exact(h.sep g hg).2 y
   ·omega
 obtain⟨D',V',U',A8,A7,A6,A5,A3⟩:=hS6.out ho A1;have e1:=Sto.rD (X:=X) (c:=c) (s:=Sto.start c) hd;have e2:=b6N (X:=X) (c:=c) (s:=Sto.start c) hd;have A0:=h.res.bE b5;have A9:=aZ.lt A0;have A4:=A0.off hF6.off h.noF;refine⟨F',E',D',V',U',A8,A7,A6,A5,qs++[q],by rw[e1];exact A3,by rw[e2];exact hA7,?_,fun g hg=>?_,A4.off ho fun z=>?_,fun z=>?_,fun z=>?_,fun k z=>?_⟩
 ·have b6:=(bt h.bel b5).trans (hF6.off.bE (c9E h.bel.size b5.size) fun k z=>(h.st.lt k z).1);exact b6.trans (ho.bE b6.size fun k z=>(A2 k z).1)
 ·rcases hat with z|z
  ·rw[z]at hg;exact A1 g hg
  ·have h1:=z g hg;exact⟨fun y=>absurd (hS6.lt (Or.inl y)) (Nat.not_lt.2 h1),fun y=>absurd (hS6.lt (Or.inr y)) (Nat.not_lt.2 h1)⟩
 ·have hO:=aU (aK h.ans.own b5) z;exact hO.ne A0.ty (by decide) rfl
 ·rcases hF6.growF _ z with y|y
  ·exact h.noF y
  ·omega
 ·rcases hF6.growE _ z with y|y
  ·exact h.noE y
  ·omega
 ·rcases hF6.growE _ z with y|y
  ·exact h.geE k y
  ·exact c9E (c9E h.bel.size b5.size) y
theorem dS.plus(h:dS wr w6 F F' E E')(B:Nat):dS wr w6 (fun k=>F k∨k=B) (fun k=>F' k∨k=B) E E':=
 ⟨h.off.wider fun _ z=>Or.inl z,fun k z=>by
  rcases z with z|z
  ·exact(h.growF k z).imp Or.inl id
  ·exact Or.inl (Or.inr z),h.growE⟩
theorem a1V.sepB(h:a1V w wr X c l R vr k F E D V U vt vs va tc qs)(hg:vr.ownBlock=some g):g≠w.heap.size+1:=(aU h.ans.own hg).ne h.res.ty (by decide)
theorem fE(w:World)(B:Nat)(a b c d e f g h i:Value):Off (fun k=>k=B) w (((((((((w.setCell (aD B 0) a).setCell (aD B 1) b).setCell (aD B 2) c).setCell (aD B 3) d).setCell (aD B 4) e).setCell (aD B 5) f).setCell (aD B 6) g).setCell (aD B 7) h).setCell (aD B 8) i):=
 ((((aT w B a b c d e).set (p:=⟨B,5,none⟩) rfl f).set (p:=⟨B,6,none⟩) rfl g).set (p:=⟨B,7,none⟩) rfl h).set (p:=⟨B,8,none⟩) rfl i
end
theorem c6G{X:Sto.Six}(hX:Sto.dE X)(c:Sto.Cfg)(h1:1≤c.d)(h2:c.d≤8)(h3:c.s≤4)(h4:1≤c.b)(h5:c.b≤10)(v:Value)(l:List Sto.Do)(w:World)(hD:Dos w v l)(hl:l.length≤80):
  Calls prog 4 #[.agg #[iV c.d,iV c.s,iV c.b],v] w fun e w'=>b3D e w w' X c l:=by
 obtain⟨A,C,rfl,Bu,Aw,Ax⟩:=hD;have Au:cN c.d c.s (c.b:Int)=0:=by
  unfold cN;rw[cO (by omega),if_neg (fun z=>z rfl),if_neg (by omega)]
 have b2:Bl w ((w.alloc (.cells #[iV c.d,iV c.s,iV c.b] 23)).alloc (.cells #[iV 0,iV 0,iV 0,nS,iV 0,nS,nS,iV 0,nS] 32)):=(aB8 _ _).alloc (aB8 _ _).size _;have bB:Bl (w.alloc (.cells #[iV c.d,iV c.s,iV c.b] 23)) ((w.alloc (.cells #[iV c.d,iV c.s,iV c.b] 23)).alloc (.cells #[iV 0,iV 0,iV 0,nS,iV 0,nS,nS,iV 0,nS] 32)):=(Below.refl _ _).alloc (c9C _) _;have VS:=(aC w #[iV c.d,iV c.s,iV c.b] 23).bE bB;have VT:=aC (w.alloc (.cells #[iV c.d,iV c.s,iV c.b] 23)) #[iV 0,iV 0,iV 0,nS,iV 0,nS,nS,iV 0,nS] 32;rw[show(w.alloc (.cells #[iV c.d,iV c.s,iV c.b] 23)).heap.size=w.heap.size+1 by simp]at VT;have HW:=iN c.d c.s c.b ((w.alloc (.cells #[iV c.d,iV c.s,iV c.b] 23)).alloc (.cells #[iV 0,iV 0,iV 0,nS,iV 0,nS,nS,iV 0,nS] 32));rw[Au]at HW;have B2:Hid (∀i d,l[i]?=some d→ ∃b o,A=some (aD b o)∧b7H w b (o+i*9) d):=Ax
 have HX:Hid (Sto.dE X):=hX;clear Au Ax hX bB;go_enter func4,ntmps4
 go_upto_region 1 with fail
 generalize (w.alloc (.cells #[iV c.d,iV c.s,iV c.b] 23)).alloc (.cells #[iV 0,iV 0,iV 0,nS,iV 0,nS,nS,iV 0,nS] 32)=w2 at*;have s0:=VS.q0;have s1:=VS.q1;have s2:=VS.q2;have Bv: ¬(80:Int)<(l.length:Int):=by omega
 go_wp2_with fail;refine HW.mono ?_;rintro e w3 ⟨rfl,b3⟩;have A0:=VS.bE b3;have Af:=VT.bE b3;have Ag:=bt b2 b3;clear HW s0 s1 s2;have s0:w3.cell? (aD w.heap.size 0)=some (iV c.d):=A0.q0;have s1:w3.cell? (aD w.heap.size 1)=some (iV c.s):=A0.q1;have s2:w3.cell? (aD w.heap.size 2)=some (iV c.b):=A0.q2;have Bf: ∀w',(Instr.makeSlice 25 (iV ((c.d:Int)+(c.s:Int))) (iV ((c.d:Int)+(c.s:Int)))).run prog w'=.ok (.slice (some (aD w'.heap.size 0)) (c.d+c.s) (c.d+c.s)) (w'.alloc (.cells (madeCells #[.bool false,nS] ((c.d+c.s)*2)) 58)):=fun w'=>xF (c.d+c.s) (by omega) w';have Bi:IntKind.i64.wrap ((c.d:Int)+(c.s:Int))=(c.d:Int)+(c.s:Int):=by rw[IntKind.wrap_i64];omega
 have An:wrap64 ((c.d:Int)+(c.s:Int))=(c.d:Int)+(c.s:Int):=by unfold wrap64;omega
 have bR:Bl w3 (w3.alloc (.cells #[iV 0,iV 0,iV 0,nS,iV 0,nS,nS,iV 0,nS] 45)).drew:=(aB8 _ _).drew;have r0:(w3.alloc (.cells #[iV 0,iV 0,iV 0,nS,iV 0,nS,nS,iV 0,nS] 45)).drew.cell? (aD w.heap.size 0)=some (iV c.d):=(A0.bE bR).q0;have r1:(w3.alloc (.cells #[iV 0,iV 0,iV 0,nS,iV 0,nS,nS,iV 0,nS] 45)).drew.cell? (aD w.heap.size 1)=some (iV c.s):=(A0.bE bR).q1;have r2:(w3.alloc (.cells #[iV 0,iV 0,iV 0,nS,iV 0,nS,nS,iV 0,nS] 45)).drew.cell? (aD w.heap.size 2)=some (iV c.b):=(A0.bE bR).q2;have A8:Bl w3 (w3.alloc (.cells (madeCells #[.bool false,nS] ((c.d+c.s)*2)) 58)).drew:=(aB8 _ _).drew;have Bj:(w3.alloc (.cells (madeCells #[.bool false,nS] ((c.d+c.s)*2)) 58)).drew.cell? (aD w.heap.size 0)=some (iV c.d):=(A0.bE A8).q0;have Bk:(w3.alloc (.cells (madeCells #[.bool false,nS] ((c.d+c.s)*2)) 58)).drew.cell? (aD w.heap.size 1)=some (iV c.s):=(A0.bE A8).q1;have Bm:(w3.alloc (.cells (madeCells #[.bool false,nS] ((c.d+c.s)*2)) 58)).drew.cell? (aD w.heap.size 2)=some (iV c.b):=(A0.bE A8).q2;have A9:Bl w3 ((w3.alloc (.cells #[iV 0,iV 0,iV 0,nS,iV 0,nS,nS,iV 0,nS] 45)).alloc (.cells (madeCells #[.bool false,nS] ((c.d+c.s)*2)) 58)).drew:=((aB8 _ _).alloc ((Below.refl w3.heap.size w3).alloc (c9C _) _).size _).drew;have Bn:((w3.alloc (.cells #[iV 0,iV 0,iV 0,nS,iV 0,nS,nS,iV 0,nS] 45)).alloc (.cells (madeCells #[.bool false,nS] ((c.d+c.s)*2)) 58)).drew.cell? (aD w.heap.size 0)=some (iV c.d):=(A0.bE A9).q0;have Bo:((w3.alloc (.cells #[iV 0,iV 0,iV 0,nS,iV 0,nS,nS,iV 0,nS] 45)).alloc (.cells (madeCells #[.bool false,nS] ((c.d+c.s)*2)) 58)).drew.cell? (aD w.heap.size 1)=some (iV c.s):=(A0.bE A9).q1;have Bp:((w3.alloc (.cells #[iV 0,iV 0,iV 0,nS,iV 0,nS,nS,iV 0,nS] 45)).alloc (.cells (madeCells #[.bool false,nS] ((c.d+c.s)*2)) 58)).drew.cell? (aD w.heap.size 2)=some (iV c.b):=(A0.bE A9).q2;have Ab:Bl w3 ((w3.alloc (.cells (madeCells #[.bool false,nS] ((c.d+c.s)*2)) 58)).alloc (.cells #[iV 0,iV 0,iV 0,nS,iV 0,nS,nS,iV 0,nS] 45)).drew:=((aB8 _ _).alloc ((Below.refl w3.heap.size w3).alloc (c9C _) _).size _).drew;have Bq:((w3.alloc (.cells (madeCells #[.bool false,nS] ((c.d+c.s)*2)) 58)).alloc (.cells #[iV 0,iV 0,iV 0,nS,iV 0,nS,nS,iV 0,nS] 45)).drew.cell? (aD w.heap.size 0)=some (iV c.d):=(A0.bE Ab).q0;have Br:((w3.alloc (.cells (madeCells #[.bool false,nS] ((c.d+c.s)*2)) 58)).alloc (.cells #[iV 0,iV 0,iV 0,nS,iV 0,nS,nS,iV 0,nS] 45)).drew.cell? (aD w.heap.size 1)=some (iV c.s):=(A0.bE Ab).q1;have Bs:((w3.alloc (.cells (madeCells #[.bool false,nS] ((c.d+c.s)*2)) 58)).alloc (.cells #[iV 0,iV 0,iV 0,nS,iV 0,nS,nS,iV 0,nS] 45)).drew.cell? (aD w.heap.size 2)=some (iV c.b):=(A0.bE Ab).q2;go_upto_region 6 with fail
 go_cut [8]from 22 to 31 (fun p8 wx=> ∃R D,p8=.pointer (some (aD R 0))∧c1O w3 wx c R D)
 case first=>
  go_region
  all_goals go_wp2_with fail
  all_goals go_meet
  ·exact⟨_,_,rfl,c3Y w3 c⟩
  ·exact⟨_,_,rfl,c5M w3 c⟩
 case rest=>
  obtain⟨R,D,rfl,hN⟩:=hcut;obtain⟨w4,B1⟩: ∃y,y=wc:=⟨wc,rfl⟩;rw[←B1]at hN⊢;have Ah:=Ag.size;have Bb:w.heap.size+1<w3.heap.size:=aZ.lt Af;have Ar:=b9A h1 h2 h3 h4 h5 (c9E Ah hN.geR) (c9E Ah hN.geD) hN.var hN.row
  have H0:b3A w w4 X c l R nS 0:=⟨_,_,_,_,_,_,_,_,_,[],Ar,⟨World.ownsRow_nil _ _ _ _,rfl,fun i q a hq=>(by cases hq)⟩,bt Ag hN.bel,fun g hg=>(by cases hg),Af.bE hN.bel,fun z=>by
   have h1:=hN.geR;have h2:=hN.geD
   omega,fun z=>z,fun k z=>z.elim⟩
  have Bt:=mL8 Aw;clear B1 hN Ar A0 Af Ag s0 s1 s2 Bf Bi An VS VT b2 b3 Ah Bb r0 r1 r2 bR A8 A9 Ab Bj Bk Bm Bn Bo Bp Bq Br Bs h1 h2 h3 h4 h5 Aw;obtain⟨n,hn⟩: ∃n,n=l.length:=⟨_,rfl⟩;have HN:Hid (n=l.length):=hn;go_wp2_with fail;go_loopw [9,33] (fun y x wr=> ∃k:Nat,k≤l.length∧x=iV k∧b3A w wr X c l R y k) (fun _ x _=>l.length-(intOf x).toNat)
  case atStart=>exact⟨0,c9D _,rfl,H0⟩
  case round=>
   obtain⟨k,hk,rfl,F,E,D',V,U,vt,vs,va,tc,qs,hP⟩:=hrel;by_cases Bc:k<l.length
   ·have Be:(k:Int)<(l.length:Int):=by omega
    obtain⟨d,hd⟩: ∃d,l[k]?=some d:=⟨l[k],c9F Bc⟩;obtain⟨b,o,rfl,ve,t,A4,A1⟩:=B2.out k d hd;obtain⟨Ad,Cd,rfl⟩:=A4.evs.sE;have hb:=hP.bel;have g0:wr.cell? (aD b (o+k*9))=some (iV d.kind):=cB8 hb (A1 0 _ rfl);have g1:wr.cell? (aD b (o+k*9+1))=some (iV d.n):=cB8 hb (A1 1 _ rfl);have g2:wr.cell? (aD b (o+k*9+2))=some (iV d.seg):=cB8 hb (A1 2 _ rfl);have g3:wr.cell? (aD b (o+k*9+3))=some (iV d.pos):=cB8 hb (A1 3 _ rfl);have g4:wr.cell? (aD b (o+k*9+4))=some (.int .u8 d.turn):=cB8 hb (A1 4 _ rfl);have g5:wr.cell? (aD b (o+k*9+5))=some (iV d.bat.cmd):=cB8 hb (A1 5 _ rfl);have g6:wr.cell? (aD b (o+k*9+6))=some (.slice Ad d.bat.evs.length Cd):=cB8 hb (A1 6 _ rfl);have g7:wr.cell? (aD b (o+k*9+7))=some (.string t):=cB8 hb (A1 7 _ rfl);have g8:wr.cell? (aD b (o+k*9+8))=some (iV d.ver):=cB8 hb (A1 8 _ rfl);have b5:Bl wr (wr.alloc (.cells #[iV d.kind,iV d.n,iV d.seg,iV d.pos,.int .u8 d.turn,iV d.bat.cmd,.slice Ad d.bat.evs.length Cd,.string t,iV d.ver] 49)):=(Below.refl _ _).alloc (c9C _) _;have HC:=c6O HX.out (wr.alloc (.cells #[iV d.kind,iV d.n,iV d.seg,iV d.pos,.int .u8 d.turn,iV d.bat.cmd,.slice Ad d.bat.evs.length Cd,.string t,iV d.ver] 49)) (hP.st.bE b5) d (.slice Ad d.bat.evs.length Cd) t (A4.bE (bt hb b5)) (c9E hb.size b5.size);have HC:Calls prog 10 #[.pointer (some (aD R 0)),.agg #[iV d.kind,iV d.n,iV d.seg,iV d.pos,.int .u8 d.turn,iV d.bat.cmd,.slice Ad d.bat.evs.length Cd,.string t,iV d.ver]] (wr.alloc (.cells #[iV d.kind,iV d.n,iV d.seg,iV d.pos,.int .u8 d.turn,iV d.bat.cmd,.slice Ad d.bat.evs.length Cd,.string t,iV d.ver] 49)) fun e w'=>DoO e (wr.alloc (.cells #[iV d.kind,iV d.n,iV d.seg,iV d.pos,.int .u8 d.turn,iV d.bat.cmd,.slice Ad d.bat.evs.length Cd,.string t,iV d.ver] 49)) w' w.heap.size R F E c (Sto.step X c (Sto.aX X c (Sto.start c) (l.take k)).1 d):=HC;have B5:Hid (a1V w wr X c l R u9 k F E D' V U vt vs va tc qs):=hP;have HD:Hid (l[k]?=some d):=hd;clear hP hd A4 A1 hb;go_wp2_with fail;refine HC.mono ?_;rintro e6 w6 ⟨v6,F',E',rfl,Ac,A3,Bx,Bw,rfl,A7,A5⟩;have hP:=B5.out;have Ao:=(hP.ans.bE b5).step (A3.plus (w.heap.size+1)) (fun g hg z=>z.elim (hP.sep g hg).1 (hP.sepB hg));have B0: ∀g,u9.ownBlock=some g→g<(wr.alloc (.cells #[iV d.kind,iV d.n,iV d.seg,iV d.pos,.int .u8 d.turn,iV d.bat.cmd,.slice Ad d.bat.evs.length Cd,.string t,iV d.ver] 49)).heap.size:=fun g hg=>c9P (hP.ans.own.lt g hg).2 b5.size;obtain⟨Ae,Ce,Bh⟩:=A7.1.sE;obtain⟨Aa,Ca,Bg⟩:=A5.1.sE;subst Bh;subst Bg;obtain⟨a,Aj⟩: ∃a,a=(Sto.step X c (Sto.aX X c (Sto.start c) (l.take k)).1 d).2:=⟨_,rfl⟩;have B8:w.heap.size+1<(wr.alloc (.cells #[iV d.kind,iV d.n,iV d.seg,iV d.pos,.int .u8 d.turn,iV d.bat.cmd,.slice Ad d.bat.evs.length Cd,.string t,iV d.ver] 49)).heap.size:=aZ.lt (hP.res.bE b5)
    have Al: ∀g,E' g→ ¬(F' g∨g=w.heap.size+1)∧g<w6.heap.size∧u9.ownBlock≠some g∧w.heap.size≤g:=fun g hg=>⟨fun z=>z.elim (Ac.dis hg).1 fun z=>by
     rcases A3.growE g hg with y|y
     ·exact hP.noE (z▸y)
     ·omega,(Ac.dis hg).2,fun z=>by
     rcases A3.growE g hg with y|y
     ·exact(hP.sep g z).2 y
     ·have:=B0 g z;omega,by
     rcases A3.growE g hg with y|y
     ·exact hP.geE g y
     ·exact c9E (c9E hP.bel.size b5.size) y⟩
    have Az:qs.length≤1000:=by
     have h1:=hP.ans.len;rw[Sto.nG,c9K]at h1;omega
    have Aq:w.heap.size≤w6.heap.size:=c9E (c9E hP.bel.size b5.size) A3.off.size;rw[←Aj]at A7 A5⊢;have Av:qG w6 (fun k=> ¬(F' k∨k=w.heap.size+1)∧k<w6.heap.size∧u9.ownBlock≠some k∧w.heap.size≤k) (.agg (cY (a.err,a.n,(Ae,a.evs.length,Ce),a.vu,(Aa,a.vl.length,Ca))).toArray) a:=⟨.slice Ae a.evs.length Ce,.slice Aa a.vl.length Ca,rfl,⟨A7.1,fun g hg hl=>Al g (A7.2 g hg hl)⟩,⟨A5.1,fun g hg hl=>Al g (A5.2 g hg hl)⟩⟩;obtain⟨v7,w7,A2,Ap,Ay,A6⟩:=c4Q w6 w.heap.size (fun k=>F' k∨k=w.heap.size+1) u9 qs _ Ao Aq (a.err,a.n,(Ae,a.evs.length,Ce),a.vu,(Aa,a.vl.length,Ca)) a Av Az;have B4:b3A w w7 X c l R v7 (k+1):=hP.next HD.out b5 Ac A3 Ay A6 (by rw[←Aj];exact Ap);obtain⟨ae,Ak⟩: ∃x,x=a.evs.length:=⟨_,rfl⟩;obtain⟨aa,Ai⟩: ∃x,x=a.vl.length:=⟨_,rfl⟩;have A2:(Builtin.append_ #[33,33] 33 #[u9,.slice (some (aD w6.heap.size 0)) 1 1]).run prog (w6.alloc (.cells #[iV a.err,iV a.n,.slice Ae a.evs.length Ce,iV a.vu,.slice Aa a.vl.length Ca] 42))=.ok v7 w7:=A2;rw[←Ak,←Ai]at A2;rw[←Ak,←Ai];clear HC hP Ao B0 Aj Al Az Aq A7 A5 Av Ap Ay A6 Ac A3 Ak Ai B8 b5;go_wp2_with (at_builtin;refine Lib.wpList_append_run _ rfl _ _ _ _ rfl _ _ rfl rfl _ _ A2 ?_);exact⟨⟨k+1,by omega,by go_num,B4⟩,by simp[intOf];omega⟩
   ·obtain rfl:k=l.length:=by omega
    have hT:=hP.res;have B9:R≠w.heap.size+1:=fun e=>hP.noF (e▸hP.st.fR);have Ba:w.heap.size+1≠R:=fun e=>B9 e.symm;have hS:=hP.st;have hA:=hP.ans;rw[d0L]at hS hA;obtain⟨s,hs⟩: ∃s,s=(Sto.aX X c (Sto.start c) l).1:=⟨_,rfl⟩;rw[←hs]at hS;obtain⟨At,n5,Ct,rfl⟩: ∃At n Ct,vt=.slice At n Ct:=by
     rcases hS.tail.own.2 with⟨rfl,_⟩|⟨g,B6,B7,rfl,_⟩
     ·exact⟨_,_,_,rfl⟩
     ·exact⟨_,_,_,rfl⟩
    obtain⟨As,n6,Cs,rfl⟩: ∃At n Ct,vs=.slice At n Ct:=by
     rcases hS.seen.2 with⟨rfl,_⟩|⟨g,B6,B7,rfl,_⟩
     ·exact⟨_,_,_,rfl⟩
     ·exact⟨_,_,_,rfl⟩
    obtain⟨Aa,n8,Ca,rfl⟩: ∃At n Ct,va=.slice At n Ct:=by
     obtain⟨A,C,h⟩:=hS.acc.1.sE;exact⟨_,_,_,h⟩
    have b0:=hT.q0;have b1:=hT.q1;have b2:=hT.q2;have b3:=hT.q3;have b4:=hT.q4;have b5:=hT.q5;have b6:=hT.q6;have b7:=hT.q7;have b8:=hT.q8;have f0:=hT.frozen 0;have f1:=hT.frozen 1;have f2:=hT.frozen 2;have f3:=hT.frozen 3;have f4:=hT.frozen 4;have f5:=hT.frozen 5;have f6:=hT.frozen 6;have f7:=hT.frozen 7;have f8:=hT.frozen 8;have c0:=hS.var.q0;have c1:=hS.var.q1;have c2:=hS.var.q2;have c3:=hS.var.q3;have c4:=hS.var.q4;have c5:=hS.var.q5;have c6:=hS.var.q6;have c7:=hS.var.q7;have c8:=hS.var.q8;obtain⟨n3,Am⟩: ∃n3,n3=s.disks.length:=⟨_,rfl⟩;have B3:Hid (∀w',Off (fun k=>k=w.heap.size+1) wr w'→b3D (.returned (.tuple #[.agg #[iV c.d,iV c.s,iV c.b,.slice (some (aD D' 0)) n3 n3,iV s.segs,.slice At n5 Ct,.slice As n6 Cs,iV s.u,.slice Aa n8 Ca],u9,iV 0])) w w' X c l):=fun w' ho=>by
     have hk: ∀k,k<wr.heap.size→ ¬(F k∨k=w.heap.size+1)→w'.heap[k]?=wr.heap[k]?:=fun k hk z=>ho.block k hk fun y=>z (Or.inr y);refine⟨w.heap.size,R,F,E,D',V,U,.slice At n5 Ct,.slice As n6 Cs,.slice Aa n8 Ca,tc,u9,qs,?_,?_,⟨bC hA.own ho fun g hg e=>hP.sepB hg e,hA.len,fun i q a hq ha=>(hA.ans i q a hq ha).move (fun k hk1 z=>hk k hk1 z.1) fun k hk1 z=>⟨fun y=>z.1 (Or.inl y),c9P hk1 ho.size,z.2.2⟩⟩,hP.bel.trans (ho.bE hP.bel.size fun k e=>by omega),rfl,hP.geE⟩
     ·rw[←hs,Am];rfl
     ·rw[←hs];exact hS.out ho fun k e=>by
       rw[show k=w.heap.size+1 from e];exact⟨hP.noF,hP.noE⟩
    rw[←Am]at c3;clear hT hP hS hA hs Am;go_wp2_with fail;exact bodyPost_ret (by simp[results,results4,go_sem,b0,b1,b2,b3,b4,b5,b6,b7,b8]) rfl (B3.out _ (fE _ _ _ _ _ _ _ _ _ _ _))
def zP(e:Ending)(w w':World)(x:Nat):Prop:=e=.returned (.tuple #[.agg #[iV 0,iV 0,iV 0,nS,iV 0,nS,nS,iV 0,nS],nS,iV x])∧Bl w w'
theorem b8S(d s b:Int)(A:Option Addr)(n C:Nat)(w:World)(x:Nat)(hx:x=cN d s b)(h0:x≠0):
  Calls prog 4 #[.agg #[iV d,iV s,iV b],.slice A n C] w fun e w'=>zP e w w' x:=by
 have b2:Bl w ((w.alloc (.cells #[iV d,iV s,iV b] 23)).alloc (.cells #[iV 0,iV 0,iV 0,nS,iV 0,nS,nS,iV 0,nS] 32)):=(aB8 _ _).alloc (aB8 _ _).size _;have bB:=aB8 (w.alloc (.cells #[iV d,iV s,iV b] 23)) (.cells #[iV 0,iV 0,iV 0,nS,iV 0,nS,nS,iV 0,nS] 32);have VS:=(aC w #[iV d,iV s,iV b] 23).bE bB;have VT:=aC (w.alloc (.cells #[iV d,iV s,iV b] 23)) #[iV 0,iV 0,iV 0,nS,iV 0,nS,nS,iV 0,nS] 32;rw[show(w.alloc (.cells #[iV d,iV s,iV b] 23)).heap.size=w.heap.size+1 by simp]at VT;have HW:=iN d s b ((w.alloc (.cells #[iV d,iV s,iV b] 23)).alloc (.cells #[iV 0,iV 0,iV 0,nS,iV 0,nS,nS,iV 0,nS] 32));rw[←hx]at HW;have A5:((x:Int) !=0)=true:=by rw[bne_iff_ne];omega
 clear hx h0;clear bB;go_enter func4,ntmps4
 go_upto_region 1 with fail
 generalize (w.alloc (.cells #[iV d,iV s,iV b] 23)).alloc (.cells #[iV 0,iV 0,iV 0,nS,iV 0,nS,nS,iV 0,nS] 32)=w2 at*;have s0:=VS.q0;have s1:=VS.q1;have s2:=VS.q2;have A4:=hd8 VT;have A2:=hd8 b2;clear VS VT b2;go_wp2_with fail;refine HW.mono ?_;rintro e w3 ⟨rfl,A1⟩;have A0:=A4.out.bE A1;have A3:Hid (∀w',Off (fun k=>k=w.heap.size+1) w3 w'→Bl w w'):=fun w' ho=>(bt A2.out A1).trans (ho.bE (bt A2.out A1).size fun k e=>by omega);have b0:=A0.q0;have b1:=A0.q1;have b2:=A0.q2;have b3:=A0.q3;have b4:=A0.q4;have b5:=A0.q5;have b6:=A0.q6;have b7:=A0.q7;have b8:=A0.q8;have f0:=A0.frozen 0;have f1:=A0.frozen 1;have f2:=A0.frozen 2;have f3:=A0.frozen 3;have f4:=A0.frozen 4;have f5:=A0.frozen 5;have f6:=A0.frozen 6;have f7:=A0.frozen 7;have f8:=A0.frozen 8;clear A0 A1 s0 s1 s2 HW;go_wp2_with fail;refine bodyPost_ret (v:=.tuple #[.agg #[iV 0,iV 0,iV 0,nS,iV 0,nS,nS,iV 0,nS],nS,iV x]) (by simp[results,results4,go_sem,b0,b1,b2,b3,b4,b5,b6,b7,b8]) rfl ⟨rfl,?_⟩;exact A3.out _ (fE _ _ _ _ _ _ _ _ _ _ _)
theorem b4V(d s b:Int)(A:Option Addr)(n C:Nat)(w:World)(hx:cN d s b=0)(h80:80<n):
  Calls prog 4 #[.agg #[iV d,iV s,iV b],.slice A n C] w fun e w'=>zP e w w' 5:=by
 have b2:Bl w ((w.alloc (.cells #[iV d,iV s,iV b] 23)).alloc (.cells #[iV 0,iV 0,iV 0,nS,iV 0,nS,nS,iV 0,nS] 32)):=(aB8 _ _).alloc (aB8 _ _).size _;have bB:=aB8 (w.alloc (.cells #[iV d,iV s,iV b] 23)) (.cells #[iV 0,iV 0,iV 0,nS,iV 0,nS,nS,iV 0,nS] 32);have VS:=(aC w #[iV d,iV s,iV b] 23).bE bB;have VT:=aC (w.alloc (.cells #[iV d,iV s,iV b] 23)) #[iV 0,iV 0,iV 0,nS,iV 0,nS,nS,iV 0,nS] 32;rw[show(w.alloc (.cells #[iV d,iV s,iV b] 23)).heap.size=w.heap.size+1 by simp]at VT;have HW:=iN d s b ((w.alloc (.cells #[iV d,iV s,iV b] 23)).alloc (.cells #[iV 0,iV 0,iV 0,nS,iV 0,nS,nS,iV 0,nS] 32));rw[hx]at HW;have hn:(80:Int)<(n:Int):=by omega
 have A5:=decide_eq_true hn;clear hx h80;clear bB;go_enter func4,ntmps4
 go_upto_region 1 with fail
 generalize (w.alloc (.cells #[iV d,iV s,iV b] 23)).alloc (.cells #[iV 0,iV 0,iV 0,nS,iV 0,nS,nS,iV 0,nS] 32)=w2 at*;have s0:=VS.q0;have s1:=VS.q1;have s2:=VS.q2;have A4:=hd8 VT;have A2:=hd8 b2;clear VS VT b2;go_wp2_with fail;refine HW.mono ?_;rintro e w3 ⟨rfl,A1⟩;have A0:=A4.out.bE A1;have A3:Hid (∀w',Off (fun k=>k=w.heap.size+1) w3 w'→Bl w w'):=fun w' ho=>(bt A2.out A1).trans (ho.bE (bt A2.out A1).size fun k e=>by omega);have b0:=A0.q0;have b1:=A0.q1;have b2:=A0.q2;have b3:=A0.q3;have b4:=A0.q4;have b5:=A0.q5;have b6:=A0.q6;have b7:=A0.q7;have b8:=A0.q8;have f0:=A0.frozen 0;have f1:=A0.frozen 1;have f2:=A0.frozen 2;have f3:=A0.frozen 3;have f4:=A0.frozen 4;have f5:=A0.frozen 5;have f6:=A0.frozen 6;have f7:=A0.frozen 7;have f8:=A0.frozen 8;clear A0 A1 s0 s1 s2 HW;go_wp2_with fail;refine bodyPost_ret (v:=.tuple #[.agg #[iV 0,iV 0,iV 0,nS,iV 0,nS,nS,iV 0,nS],nS,iV 5]) (by simp[results,results4,go_sem,b0,b1,b2,b3,b4,b5,b6,b7,b8]) rfl ⟨rfl,?_⟩;exact A3.out _ (fE _ _ _ _ _ _ _ _ _ _ _)
theorem bJ{z:Nat}(h:w.ownsRow N t z v n xs): ∃A C,v=.slice A n C∧n≤C∧C≤maxLen∧(1≤n→ ∃g,A=some (aD g 0)):=by
 rcases h.2 with⟨rfl,h0⟩|⟨g,A0,A1,rfl,_,_,h1,h2,_⟩
 ·subst h0;exact⟨none,0,rfl,c9C _,c9D _,fun h=>absurd h (by decide)⟩
 ·exact⟨_,A0,rfl,h1,h2,fun _=>⟨g,rfl⟩⟩
theorem iH{α:Type}{f:α→List Value}{z:Nat}{es:List α}(h:w.ownsRow N t z v n (es.flatMap f))(hf: ∀a,a∈es→(f a).length=z)(hg:v.ownBlock=some g){a:α}{u:Value}(ha:es[i]?=some a)(hj:(f a)[j]?=some u):w.cell? (aD g (i*z+j))=some u:=by
 have A0:j<z:=by
  have:=(c9H.1 hj).1;rw[hf a (c9N ha)]at this;exact this
 have:=h.cells hg (i*z+j) u ((dQ f z es hf i j A0 a ha).trans hj);rw[WideShapes.add_plain,c9G]at this;exact this
def Nms(w:World)(v:Value)(l:List Int):Prop:= ∃A cap,v=.slice A l.length cap∧l.length≤cap∧cap≤maxLen∧ ∀i x,l[i]?=some x→ ∃b o,A=some (aD b o)∧w.cell? (aD b (o+i))=some (iV x)
theorem Nms.bE{l:List Int}(h:Nms w v l)(hb:Bl w w'):Nms w' v l:=by
 obtain⟨A,A0,hv,h1,h2,h3⟩:=h;refine⟨A,A0,hv,h1,h2,fun i e he=>?_⟩;obtain⟨b,o,hA,hi⟩:=h3 i e he;exact⟨b,o,hA,cB8 hb hi⟩
theorem b3R{l:List Int}(h:w.ownsRow N 3 1 v l.length (l.flatMap aE)):Nms w v l:=by
 obtain⟨A,C,rfl,h1,h2,h3⟩:=bJ h;refine⟨A,C,rfl,h1,h2,fun i x hx=>?_⟩;obtain⟨g,rfl⟩:=h3 (by have:=(c9H.1 hx).1;omega);have:=iH (f:=aE) h (fun _ _=>rfl) (g:=g) rfl (j:=0) hx rfl;exact⟨g,0,rfl,by simpa using this⟩
def c3T(w:World)(b o:Nat)(h:Int×List Nat):Prop:= ∃v,w.cell? (aD b o)=some (iV h.1)∧w.cell? (aD b (o+1))=some v∧cU w v h.2
theorem c3T.bE{x:Int×List Nat}(h:c3T w b o x)(hb:Bl w w'):c3T w' b o x:=by
 obtain⟨v,c0,c1,he⟩:=h;have hp:b<w.heap.size:=World.block_lt_of_cell? _ _ c0;exact⟨v,(hb.cell (p:=⟨b,o,none⟩) hp).trans c0,(hb.cell (p:=⟨b,o+1,none⟩) hp).trans c1,he.bE hb⟩
def Hes(w:World)(v:Value)(l:List (Int×List Nat)):Prop:= ∃A cap,v=.slice A l.length cap∧l.length≤cap∧cap≤maxLen∧ ∀i x,l[i]?=some x→ ∃b o,A=some (aD b o)∧c3T w b (o+i*2) x
theorem Hes.bE{l:List (Int×List Nat)}(h:Hes w v l)(hb:Bl w w'):Hes w' v l:=by
 obtain⟨A,A0,hv,h1,h2,h3⟩:=h;refine⟨A,A0,hv,h1,h2,fun i e he=>?_⟩;obtain⟨b,o,hA,hi⟩:=h3 i e he;exact⟨b,o,hA,hi.bE hb⟩
def c4A(w:World)(b o:Nat)(d:Sto.aM):Prop:= ∃v,w.cell? (aD b o)=some (.bool d.gone)∧w.cell? (aD b (o+1))=some v∧Hes w v d.bl
theorem c4A.bE{x:Sto.aM}(h:c4A w b o x)(hb:Bl w w'):c4A w' b o x:=by
 obtain⟨v,c0,c1,he⟩:=h;have hp:b<w.heap.size:=World.block_lt_of_cell? _ _ c0;exact⟨v,(hb.cell (p:=⟨b,o,none⟩) hp).trans c0,(hb.cell (p:=⟨b,o+1,none⟩) hp).trans c1,he.bE hb⟩
def Dks(w:World)(v:Value)(l:List Sto.aM):Prop:= ∃A cap,v=.slice A l.length cap∧l.length≤cap∧cap≤maxLen∧ ∀i x,l[i]?=some x→ ∃b o,A=some (aD b o)∧c4A w b (o+i*2) x
theorem Dks.bE{l:List Sto.aM}(h:Dks w v l)(hb:Bl w w'):Dks w' v l:=by
 obtain⟨A,A0,hv,h1,h2,h3⟩:=h;refine⟨A,A0,hv,h1,h2,fun i e he=>?_⟩;obtain⟨b,o,hA,hi⟩:=h3 i e he;exact⟨b,o,hA,hi.bE hb⟩
theorem eS.nil8(w:World):eS w nS []:=⟨none,0,rfl,c9C _,c9D _,fun _ _ he=>(by cases he)⟩
theorem c4J{U:Nat→List HeC}{ds:List Sto.aM}(h:dM w N D V U ds)(hl:ds.length≤100):Dks w (.slice (some (aD D 0)) ds.length ds.length) ds:=by
 refine⟨_,_,rfl,c9C _,by unfold maxLen;omega,fun i d hd=>⟨D,0,rfl,V i,?_,?_,?_⟩⟩
 ·have hi:=(c9H.1 hd).1;have:=h.row.cell (j:=i*2) (by omega);rw[c9G,this];unfold dkF;rw[if_pos (by omega),Nat.mul_div_cancel _ (by decide),c9R,hd];rfl
 ·have hi:=(c9H.1 hd).1;have:=h.row.cell (j:=i*2+1) (by omega);rw[c9G,this];unfold dkF;rw[if_neg (by omega),show(i*2+1)/2=i by omega]
 ·have hi:=(c9H.1 hd).1;have ho:=h.own i hi;have hb:=h.bl i d hd;obtain⟨A,C,hv,h1,h2,h3⟩:=bJ ho;refine⟨A,C,by rw[hb,c9M];exact hv,by rw[hb,c9M];exact h1,h2,fun k x hx=>?_⟩;rw[hb,c9S]at hx;obtain⟨q,hq,rfl⟩:=c9J.1 hx;obtain⟨g,rfl⟩:=h3 (by have:=(c9H.1 hq).1;omega);have hg:(V i).ownBlock=some g:=by rw[hv];rfl
  refine⟨g,0,rfl,slV q.2.1,?_,?_,(h.byt i q hi (c9N hq)).bytL⟩
  ·have:=iH (f:=aJ) ho (fun _ _=>rfl) hg (j:=0) hq rfl;rw[c9G];exact this
  ·have:=iH (f:=aJ) ho (fun _ _=>rfl) hg (j:=1) hq rfl;rw[c9G];exact this
theorem b9X{tc:List (Int×Sl)}{l:List Evt.Bat}(h:a0M w N E vt tc l):eS w vt l:=by
 obtain⟨A,C,hv,h1,h2,h3⟩:=bJ h.own;refine⟨A,C,hv,h1,h2,fun i x hx=>?_⟩;have hi:=(c9H.1 hx).1;obtain⟨q,hq⟩: ∃q,tc[i]?=some q:=⟨tc[i]'(by rw[h.len];exact hi),c9F _⟩;obtain⟨g,rfl⟩:=h3 (by omega);have hg:vt.ownBlock=some g:=by rw[hv];rfl
 obtain⟨e1,e2⟩:=h.evs i q x hq hx;refine⟨g,0,rfl,slV q.2,?_,?_,e2.1⟩
 ·have:=iH (f:=wY) h.own (fun _ _=>rfl) hg (j:=0) hq rfl;rw[c9G,e1];exact this
 ·have:=iH (f:=wY) h.own (fun _ _=>rfl) hg (j:=1) hq rfl;rw[c9G];exact this
structure jT(w:World)(vd vt vs va:Value)(s:Sto.St):Prop where
 dk:Dks w vd s.disks
 tl:eS w vt s.tail
 sn:Nms w vs s.seen
 ac:bG w va s.acc
theorem jT.bE{s:Sto.St}(h:jT w vd vt vs va s)(hb:Bl w w'):jT w' vd vt vs va s:=⟨h.dk.bE hb,h.tl.bE hb,h.sn.bE hb,h.ac.bE hb⟩
theorem StP.read{c:Sto.Cfg}{s:Sto.St}{U:Nat→List HeC}{tc:List (Int×Sl)}(h:StP w N R F E c s D V U vt vs va tc):jT w (.slice (some (aD D 0)) s.disks.length s.disks.length) vt vs va s:=
 ⟨c4J h.dk (by have:=h.wf.len;have:=h.wf.d8;have:=h.wf.s4;omega),b9X h.tail,b3R h.seen,h.acc.1⟩
def AnIn(w:World)(b o:Nat)(a:Sto.Ans):Prop:= ∃ve va,w.cell? (aD b o)=some (iV a.err)∧w.cell? (aD b (o+1))=some (iV a.n)∧w.cell? (aD b (o+2))=some ve∧w.cell? (aD b (o+3))=some (iV a.vu)∧w.cell? (aD b (o+4))=some va∧Evs w ve a.evs∧bG w va a.vl
def b8K(w:World)(v:Value)(l:List Sto.Ans):Prop:= ∃A cap,v=.slice A l.length cap∧l.length≤cap∧cap≤maxLen∧ ∀i a,l[i]?=some a→ ∃b o,A=some (aD b o)∧AnIn w b (o+i*5) a
theorem gE.read{qs:List AnC}{al:List Sto.Ans}(h:gE w N F v qs al):b8K w v al:=by
 obtain⟨A,C,hv,h1,h2,h3⟩:=bJ h.own;have hl:=h.len;refine⟨A,C,by rw[←hl];exact hv,by omega,h2,fun i a ha=>?_⟩;have hi:=(c9H.1 ha).1;obtain⟨q,hq⟩: ∃q,qs[i]?=some q:=⟨qs[i]'(by omega),c9F _⟩;obtain⟨g,rfl⟩:=h3 (by omega);have hg:v.ownBlock=some g:=by rw[hv];rfl
 obtain⟨ve,va,A2,A3,A1⟩:=h.ans i q a hq ha;have A0:cY q=[iV a.err,iV a.n,ve,iV a.vu,va]:=congrArg Array.toList (Value.agg.inj A2);have hc: ∀j u,(cY q)[j]?=some u→w.cell? (aD g (0+i*5+j))=some u:=fun j u hj=>by
  have:=iH (f:=cY) h.own (fun _ _=>rfl) hg hq hj;rw[c9G];exact this
 exact⟨g,0,rfl,ve,va,hc 0 _ (by rw[A0];rfl),hc 1 _ (by rw[A0];rfl),hc 2 _ (by rw[A0];rfl),hc 3 _ (by rw[A0];rfl),hc 4 _ (by rw[A0];rfl),A3.1,A1.1⟩
theorem Dos.bE{l:List Sto.Do}(h:Dos w v l)(hb:Bl w w'):Dos w' v l:=by
 obtain⟨A,A0,hv,h1,h2,h3⟩:=h;refine⟨A,A0,hv,h1,h2,fun i e he=>?_⟩;obtain⟨b,o,hA,hi⟩:=h3 i e he;exact⟨b,o,hA,hi.bE rfl hb⟩
def c6K(e:Ending)(w w':World)(c:Sto.Cfg)(r:Sto.St×List Sto.Ans):Prop:= ∃vd vt vs va vr,e=.returned (.tuple #[.agg #[iV c.d,iV c.s,iV c.b,vd,iV r.1.segs,vt,vs,iV r.1.u,va],vr,iV 0])∧jT w' vd vt vs va r.1∧b8K w' vr r.2∧Bl w w'∧ ∀w'',Off (fun k=>k<w.heap.size) w' w''→jT w'' vd vt vs va r.1∧b8K w'' vr r.2
theorem gE.far{qs:List AnC}{al:List Sto.Ans}(h:gE w N F v qs al)(ho:Off (fun k=>k<N) w w'):gE w' N F v qs al:=
 ⟨bC h.own ho fun g hg z=>absurd (h.own.lt g hg).1 (Nat.not_le.2 z),h.len,fun i q a hq ha=>(h.ans i q a hq ha).move (fun k hk z=>ho.block k hk (Nat.not_lt.2 z.2.2.2)) fun _ hk z=>⟨z.1,c9P hk ho.size,z.2.2⟩⟩
theorem b3D.read{e:Ending}{X:Sto.Six}{c:Sto.Cfg}{l:List Sto.Do}(h:b3D e w w' X c l):c6K e w w' c (Sto.aX X c (Sto.start c) l):=by
 obtain⟨N,R,F,E,D,V,U,vt,vs,va,tc,vr,qs,rfl,hS,hA,hb,rfl,hE⟩:=h;exact⟨_,vt,vs,va,vr,rfl,hS.read,hA.read,hb,fun w'' ho=>⟨(hS.out ho fun k z=>⟨fun y=>absurd (hS.lt k y).1 (Nat.not_le.2 z),fun y=>absurd (hE k y) (Nat.not_le.2 z)⟩).read,(hA.far ho).read⟩⟩
theorem c8F{X:Sto.Six}(hX:Sto.dE X)(c:Sto.Cfg)(d s b:Int)(hd:d=(c.d:Int))(hs:s=(c.s:Int))(hb:b=(c.b:Int))(h1:1≤c.d)(h2:c.d≤8)(h3:c.s≤4)(h4:1≤c.b)(h5:c.b≤10)(v:Value)(l:List Sto.Do)(w:World)(hD:Dos w v l)(hl:l.length≤80):
  Calls prog 4 #[.agg #[iV d,iV s,iV b],v] w fun e w'=>c6K e w w' c (Sto.aX X c (Sto.start c) l):=by
 subst hd hs hb;exact(c6G hX c h1 h2 h3 h4 h5 v l w hD hl).mono fun e w' h=>h.read
theorem c2G{d s b:Int}(h:cN d s b=0): ∃c:Sto.Cfg,d=(c.d:Int)∧s=(c.s:Int)∧b=(c.b:Int)∧1≤c.d∧c.d≤8∧c.s≤4∧1≤c.b∧c.b≤10:=by
 have:=b6A h;exact⟨⟨d.toNat,s.toNat,b.toNat⟩,by show d=(d.toNat:Int);omega,by show s=(s.toNat:Int);omega,by show b=(b.toNat:Int);omega,by show 1≤d.toNat;omega,by show d.toNat≤8;omega,by show s.toNat≤4;omega,by show 1≤b.toNat;omega,by show b.toNat≤10;omega⟩
def BlL(w:World)(v:Value)(L:List (List Nat)):Prop:= ∃A cap,v=.slice A L.length cap∧L.length≤cap∧cap≤maxLen∧ ∀i x,L[i]?=some x→ ∃b o u,A=some (aD b o)∧w.cell? (aD b (o+i))=some u∧cU w u x
theorem BlL.sE{L:List (List Nat)}(h:BlL w v L): ∃A C,v=.slice A L.length C:=by
 obtain⟨A,C,hv,_⟩:=h;exact⟨A,C,hv⟩
theorem BlL.lls{L:List (List Nat)}(h:BlL w v L):Lls w v L.length (Sto.fO L) (Sto.eK L):=by
 obtain⟨A,A0,hv,h1,h2,h3⟩:=h;refine⟨fun i k=>?_,A,A0,hv,h1,h2,fun r hr=>?_⟩
 ·unfold Sto.eK;cases e:L[i]? with
  |none=>
   rw[c9R (l:=L),e];show([]:List Nat).getD k 0<256;rw[List.getD_nil];decide
  |some x=>
   obtain⟨_,_,_,_,_,hx⟩:=h3 i x e;rw[c9R (l:=L),e];exact Sto.kH hx.1 k
 ·obtain⟨b,o,u,e1,e2,e3⟩:=h3 r L[r] (c9F hr);refine⟨b,o,u,e1,e2,?_⟩;have e:L.getD r []=L[r]:=by rw[c9R,c9F hr];rfl
  unfold Sto.fO Sto.eK;rw[e];exact e3.byts
theorem Lls.blL{F:Nat→Nat→Nat}(h:Lls w v n (fun _=>m) F):BlL w v ((List.range n).map fun i=>bl (F i) m):=by
 obtain⟨A,A0,hv,h1,h2,h3⟩:=h.lies;have e:((List.range n).map fun i=>bl (F i) m).length=n:=by rw[c9M,d1E]
 refine⟨A,A0,by rw[e];exact hv,by rw[e];exact h1,h2,fun i x hx=>?_⟩;rw[c9S]at hx;obtain⟨j,hj,rfl⟩:=c9J.1 hx;obtain⟨hl,hj⟩:=c9H.1 hj;rw[List.getElem_range]at hj;subst hj;rw[d1E]at hl;obtain⟨b,o,u,e1,e2,e3⟩:=h3 i hl;exact⟨b,o,u,e1,e2,e3.list⟩
def BlO(e:Ending)(w:World)(x:Nat×List (List Nat)):Prop:= ∃v,e=.returned (.tuple #[v,iV x.1])∧((x.1=0∧BlL w v x.2)∨(x.1≠0∧v=nS))
section
variable {X : Sto.Six}
theorem c2I(hX:Sto.dE X)(v:Value)(r:List Nat)(seg:Nat)(c:Sto.Cfg)(w:World)(h:cU w v r):
  Calls prog 62 #[v,iV seg,iV c.d,iV c.s] w fun e w'=>BlO e w' (X.lay r seg c)∧Bl w w':=by
 refine(b2N v r.length (fun j=>r.getD j 0) seg c.d c.s w h.byts).mono ?_;rintro e w' ⟨v',rfl,hO,hb⟩;refine⟨⟨v',?_,?_⟩,hb⟩
 ·rw[hX.lay];unfold Sto.lX;by_cases q:Seg.gW r.length seg c.d c.s=0
  ·rw[if_pos q,q]
  ·rw[if_neg q]
 ·rw[hX.lay];unfold Sto.lX;rcases hO with⟨q,hL⟩|⟨q,rfl⟩
  ·rw[if_pos q];rw[c9Q,c9Q,c9Q]at hL;exact Or.inl ⟨rfl,hL.blL⟩
  ·rw[if_neg q];exact Or.inr ⟨q,rfl⟩
theorem a1U(hX:Sto.dE X)(v:Value)(bs:List (List Nat))(seg:Nat)(c:Sto.Cfg)(w:World)(h:BlL w v bs):
  Calls prog 64 #[v,iV seg,iV c.d] w fun e w'=> ∃v',e=.returned (.tuple #[v',iV ((X.read bs seg c).1:Nat)])∧cU w' v' (X.read bs seg c).2∧Bl w w':=by
 refine(a5P v bs.length (Sto.fO bs) (Sto.eK bs) seg c.d w h.lls).mono ?_;rintro e w' ⟨v',rfl,hO,hb⟩;have he:=hX.err bs seg c;rw[←he]at hO⊢;refine⟨v',rfl,?_,hb⟩;rcases hO with⟨q,r,r1,r2,hy⟩|⟨q,rfl⟩
 ·rw[c9Q]at r2 hy;rw[hX.told bs seg c q r r1 r2];exact hy.list
 ·rw[hX.none bs seg c q];exact cU.nil w'
theorem a7L(hX:Sto.dE X)(v:Value)(bs:List (List Nat))(seg:Nat)(w:World)(h:BlL w v bs)(hl:bs.length≤12):
  Calls prog 37 #[v,iV seg] w fun e w'=> ∃v',e=.returned v'∧iQ w' w.heap.size v' (X.bad bs seg)∧Bl w w':=by
 rw[hX.bad];exact a5V v bs.length (Sto.fO bs) (Sto.eK bs) seg w h.lls (by omega)
end
def fC(w w':World):Prop:= ∀p u,w.cell? p=some u→w'.cell? p=some u
theorem fC.oE(hb:Bl w w'):fC w w':=fun p _ h=>(hb.cell (p:=p) (World.block_lt_of_cell? _ _ h)).trans h
theorem cU.sub(h:cU w v r)(hs:fC w w'):cU w' v r:=by
 obtain⟨h0,A,A0,hv,h1,h2,h3⟩:=h;refine⟨h0,A,A0,hv,h1,h2,fun i x hx=>?_⟩;obtain⟨b,o,e1,e2⟩:=h3 i x hx;exact⟨b,o,e1,hs _ _ e2⟩
theorem Hes.sub{l:List (Int×List Nat)}(h:Hes w v l)(hs:fC w w'):Hes w' v l:=by
 obtain⟨A,A0,hv,h1,h2,h3⟩:=h;refine⟨A,A0,hv,h1,h2,fun i x hx=>?_⟩;obtain⟨b,o,e1,u,e2,e3,e4⟩:=h3 i x hx;exact⟨b,o,e1,u,hs _ _ e2,hs _ _ e3,e4.sub hs⟩
theorem BlL.sub{L:List (List Nat)}(h:BlL w v L)(hs:fC w w'):BlL w' v L:=by
 obtain⟨A,A0,hv,h1,h2,h3⟩:=h;refine⟨A,A0,hv,h1,h2,fun i x hx=>?_⟩;obtain⟨b,o,u,e1,e2,e3⟩:=h3 i x hx;exact⟨b,o,u,e1,hs _ _ e2,e3.sub hs⟩
theorem Evs.sub{l:List Evt.Ev}(h:Evs w v l)(hs:fC w w'):Evs w' v l:=by
 obtain⟨A,A0,hv,h1,h2,h3⟩:=h;refine⟨A,A0,hv,h1,h2,fun i x hx=>?_⟩;obtain⟨b,o,e1,u,q1,q2,e2,e3,e4⟩:=h3 i x hx;exact⟨b,o,e1,u,q1,q2,hs _ _ e2,hs _ _ e3,hs _ _ e4⟩
theorem bG.sub{l:List Vw.Acc}(h:bG w v l)(hs:fC w w'):bG w' v l:=by
 obtain⟨A,A0,hv,h1,h2,h3⟩:=h;refine⟨A,A0,hv,h1,h2,fun i x hx=>?_⟩;obtain⟨b,o,e1,u,q1,q2,e2,e3,e4,e5⟩:=h3 i x hx;exact⟨b,o,e1,u,q1,q2,hs _ _ e2,hs _ _ e3,hs _ _ e4,hs _ _ e5⟩
theorem eS.sub{l:List Evt.Bat}(h:eS w v l)(hs:fC w w'):eS w' v l:=by
 obtain⟨A,A0,hv,h1,h2,h3⟩:=h;refine⟨A,A0,hv,h1,h2,fun i x hx=>?_⟩;obtain⟨b,o,e1,u,e2,e3,e4⟩:=h3 i x hx;exact⟨b,o,e1,u,hs _ _ e2,hs _ _ e3,e4.sub hs⟩
theorem Nms.sub{l:List Int}(h:Nms w v l)(hs:fC w w'):Nms w' v l:=by
 obtain⟨A,A0,hv,h1,h2,h3⟩:=h;refine⟨A,A0,hv,h1,h2,fun i x hx=>?_⟩;obtain⟨b,o,e1,e2⟩:=h3 i x hx;exact⟨b,o,e1,hs _ _ e2⟩
theorem Dks.sub{l:List Sto.aM}(h:Dks w v l)(hs:fC w w'):Dks w' v l:=by
 obtain⟨A,A0,hv,h1,h2,h3⟩:=h;refine⟨A,A0,hv,h1,h2,fun i x hx=>?_⟩;obtain⟨b,o,e1,u,e2,e3,e4⟩:=h3 i x hx;exact⟨b,o,e1,u,hs _ _ e2,hs _ _ e3,e4.sub hs⟩
theorem jT.sub{s:Sto.St}(h:jT w vd vt vs va s)(hs:fC w w'):jT w' vd vt vs va s:=⟨h.dk.sub hs,h.tl.sub hs,h.sn.sub hs,h.ac.sub hs⟩
theorem sS.sub{d:Sto.Do}{ve:Value}{t:ByteArray}(h:sS w d ve t)(hs:fC w w'):sS w' d ve t:=⟨h.evs.sub hs,h.name,h.sz,h.byte⟩
def aS(S:Nat→Bool)(w:World):World:={w with heap:=w.heap.mapIdx fun i o=>if S i then .cells #[] 0 else o}
theorem lJ{S:Nat→Bool}(h:S k=false):(aS S w).heap[k]?=w.heap[k]?:=by
 unfold aS;simp only[Array.getElem?_mapIdx,h];cases w.heap[k]?<;>rfl
theorem eW{S:Nat→Bool}{p:Addr}(h:S p.block=false):(aS S w).cell? p=w.cell? p:=World.cell?_of_block (lJ h)
theorem kL{S:Nat→Bool}{p:Addr}{u:Value}(h:(aS S w).cell? p=some u):S p.block=false∧w.cell? p=some u:=by
 have hn:S p.block=false:=by
  cases e:S p.block with
  |false=>rfl
  |true=>
   exfalso;unfold World.cell? aS at h;simp only[Array.getElem?_mapIdx,e]at h;cases hw:w.heap[p.block]?<;>rw[hw]at h<;>simp at h
 exact⟨hn,(eW hn).symm.trans h⟩
theorem mG(S:Nat→Bool)(w:World):fC (aS S w) w:=fun _ _ h=>(kL h).2
theorem tY{S:Nat→Bool}(ho:Off (fun k=>S k=true) w w'):fC (aS S w) (aS S w'):=fun p u h=>by
 obtain⟨h1,h2⟩:=kL h
 rw[eW h1]
 exact(World.cell?_of_block (w:=w) (a:=p) (ho.block p.block (World.block_lt_of_cell? _ _ h2) (by rw[h1];decide))).trans h2
theorem j7{S:Nat→Bool}(hD:S D=true)(ho:Off (fun k=>k=D) w w'):fC (aS S w) (aS S w'):=tY (ho.wider fun k hk=>by rw[hk];exact hD)
theorem cR{S:Nat→Bool}(hb:Bl w w'):fC (aS S w) (aS S w'):=tY (Off.oE hb)
theorem iX(S:Nat→Bool)(w:World):Off (fun k=>S k=true) w (aS S w):=
 ⟨rfl,rfl,rfl,by unfold aS;simp,fun k _ h=>lJ (by cases e:S k with|false=>rfl|true=>exact absurd e h)⟩
theorem sP{S:Nat→Bool}(ho:Off (fun k=>S k=true) w w'):fC (aS S w) w':=fun p u h=>by
 obtain⟨h1,h2⟩:=kL h
 exact(World.cell?_of_block (w:=w) (a:=p) (ho.block p.block (World.block_lt_of_cell? _ _ h2) (by rw[h1];decide))).trans h2
structure DkJ(w:World)(S:Nat→Bool)(D:Nat)(V:Nat→Value)(ds:List Sto.aM):Prop where
 sD:S D=true
 row:aZ w D 58 (ds.length*2) (dkF V ds)
 hes: ∀i d,ds[i]?=some d→Hes (aS S w) (V i) d.bl
theorem DkJ.off{S:Nat→Bool}{ds:List Sto.aM}(h:DkJ w S D V ds)(hb:Bl w w'):DkJ w' S D V ds:=
 ⟨h.sD,h.row.bE hb,fun i d hd=>(h.hes i d hd).sub (cR hb)⟩
theorem DkJ.gone{S:Nat→Bool}{ds:List Sto.aM}(h:DkJ w S D V ds){d:Sto.aM}(hi:ds[i]?=some d):w.cell? (aD D (i*2))=some (.bool d.gone):=by
 have hl:i<ds.length:=(c9H.1 hi).1;rw[h.row.cell (show i*2<ds.length*2 by omega)];unfold dkF;rw[if_pos (by omega),show i*2/2=i by omega,c9R,hi];rfl
theorem DkJ.held{S:Nat→Bool}{ds:List Sto.aM}(h:DkJ w S D V ds)(hi:i<ds.length):w.cell? (aD D (i*2+1))=some (V i):=by
 rw[h.row.cell (show i*2+1<ds.length*2 by omega)];unfold dkF;rw[if_neg (by omega),show(i*2+1)/2=i by omega]
theorem DkJ.set{S:Nat→Bool}{ds:List Sto.aM}(h:DkJ w S D V ds){d:Sto.aM}(hi:ds[i]?=some d)(v:Value)(l:List (Int×List Nat))(hl:Hes (aS S w) v l):DkJ (w.setCell (aD D (i*2+1)) v) S D (upd V i v) (ds.set i ⟨d.gone,l⟩):=by
 have A0:i<ds.length:=(c9H.1 hi).1;have A1:=aG w (aD D (i*2+1)) v;refine⟨h.sD,?_,fun j x hx=>?_⟩
 ·rw[d0B];refine(h.row.set (i*2+1) v).congr fun j hj=>?_;unfold dkF;by_cases e:j=i*2+1
  ·rw[if_pos e,if_neg (by omega),show j/2=i by omega,bM]
  ·rw[if_neg e];by_cases q:j%2=0
   ·rw[if_pos q,if_pos q,c9R,c9R];by_cases z:j/2=i
    ·rw[z,d0O A0,hi];rfl
    ·rw[d0P (fun y=>z y.symm)]
   ·rw[if_neg q,if_neg q,aW _ _ (by omega)]
 ·by_cases e:j=i
  ·subst e;rw[d0O A0]at hx;cases hx
   rw[bM];exact hl.sub (j7 h.sD A1)
  ·rw[d0P (fun z=>e z.symm)]at hx;rw[aW _ _ e];exact(h.hes j x hx).sub (j7 h.sD A1)
theorem DkJ.dks{S:Nat→Bool}{ds:List Sto.aM}(h:DkJ w S D V ds)(h1:ds.length≤C)(h2:C≤maxLen):Dks w (.slice (some (aD D 0)) ds.length C) ds:=by
 refine⟨_,C,rfl,h1,h2,fun i x hx=>⟨D,0,rfl,V i,?_,?_,(h.hes i x hx).sub (mG S w)⟩⟩
 ·rw[c9G];exact h.gone hx
 ·rw[c9G];exact h.held (c9H.1 hx).1
theorem b4C{es:List HeC}{S:Nat→Bool}(h:w.ownsRow N 61 2 v es.length (es.flatMap aJ))(hD: ∀g,v.ownBlock=some g→S g=false)(hb: ∀x,x∈es→cU (aS S w) (slV x.2.1) x.2.2):Hes (aS S w) v (es.map kV):=by
 obtain⟨A,C,rfl,h1,h2,h3⟩:=bJ h;refine⟨A,C,by rw[c9M],by rw[c9M];exact h1,h2,fun i x hx=>?_⟩;rw[c9S]at hx;obtain⟨e,he,rfl⟩:=c9J.1 hx;obtain⟨g,rfl⟩:=h3 (by have:=(c9H.1 he).1;omega);have c0:=iH (f:=aJ) h (fun _ _=>rfl) (g:=g) rfl (j:=0) he rfl;have c1:=iH (f:=aJ) h (fun _ _=>rfl) (g:=g) rfl (j:=1) he rfl;have hg:=hD g rfl;refine⟨g,0,rfl,slV e.2.1,?_,?_,hb e (c9N he)⟩
 ·rw[eW hg,c9G];exact c0
 ·rw[eW hg,c9G];exact c1
theorem dM.dkJ{U:Nat→List HeC}{ds:List Sto.aM}{S:Nat→Bool}(h:dM w N D V U ds)(hD:S D=true)(hS: ∀k,S k=true→k<N∨ ∃t,TyB w k t∧t≠61∧t≠5):DkJ w S D V ds:=by
 have A0: ∀k t,N≤k→TyB w k t→t=61∨t=5→S k=false:=fun k t hN ht e=>by
  cases q:S k with
  |false=>rfl
  |true=>
   obtain⟨t',h1,h2,h3⟩:=(hS k q).resolve_left (by omega);have A3:t≠t':=by
    rcases e with rfl|rfl
    ·exact fun z=>h2 z.symm
    ·exact fun z=>h3 z.symm
   exact absurd rfl (ht.ne h1 A3)
 refine⟨hD,h.row,fun i d hd=>?_⟩;have hi:i<ds.length:=(c9H.1 hd).1;rw[h.bl i d hd];refine b4C (h.own i hi) (fun g hg=>A0 g _ ((h.own i hi).lt g hg).1 (aU (h.own i hi) hg) (Or.inl rfl)) fun x hx=>?_
 ·have hO:=h.byt i x hi hx;have hB:=hO.bytL;obtain⟨g,A4,hv,hg,_,_,hr⟩:=hO.at;obtain⟨b0,A,A1,A2,q1,q2,q3⟩:=hB;refine⟨b0,A,A1,A2,q1,q2,fun j y hy=>?_⟩;obtain⟨b,o,e1,e2⟩:=q3 j y hy;refine⟨b,o,e1,?_⟩;rw[hv]at A2;cases A2
  cases e1
  rw[eW (A0 _ _ hg hr.ty (Or.inr rfl))];exact e2
theorem xL{P:Program}{w:World}(base:Nat)(t ty e:TypeId)(i:TypeInfo)(size c:Nat)(ht:P.underlying t=some (.slice e))(hi:P.info? e=some i)
  (v:Value) (n:Nat) (xs:List Value) (hown:w.ownsRow base e size v n xs):
  (Builtin.append_ #[t,t] ty #[v,.slice none 0 c]).run P w=.ok v w:=by
 rcases hown.2 with⟨rfl,rfl⟩|⟨g,A1,A2,rfl,_,_,A0,_⟩
 ·simp[Builtin.append_,run_underlying ht,sizeOf,typeInfo,hi,Builtin.lenOf,Builtin.firstCells]
 ·simp[Builtin.append_,run_underlying ht,sizeOf,typeInfo,hi,Builtin.lenOf,Builtin.firstCells,A0,storeCells]
theorem wO(t:TypeId){e:TypeId}{sz bytes:Nat}{z:Value}(ht:prog.underlying t=some (.slice e))(hin:(prog.info? e).map (fun i=>(i.zero,i.size,i.bytes))=some (some z,sz,bytes))(hzs:z.cells.size=sz)(hsz:0<sz)(hby:bytes≤1000)(hown:w.ownsRow base e sz v n xs)
  (A:Option Addr) (m c:Nat) (hA:A=none→m=0) (news:List Value) (hl:news.length=m*sz) (hc: ∀a,A=some a→ ∀j u,news[j]?=some u→w.cell? (a.add j)=some u) (h1: ∀u,u∈news→u.oneCell'=true) (hnm:n+m≤100000) (hb:base≤w.heap.size):
  ∃v' w',(Builtin.append_ #[t,t] t #[v,.slice A m c]).run prog w=.ok v' w'∧w'.ownsRow base e sz v' (n+m) (xs++news)∧w.grownBy w' v.ownBlock∧(v'.ownBlock=v.ownBlock∨v'.ownBlock=some w.heap.size):=by
 obtain⟨i0,hi,hh⟩:=c9J.1 hin;simp only[Prod.mk.injEq]at hh;obtain⟨A0,A1,A2⟩:=hh;cases A with
 |none=>
  obtain rfl:m=0:=hA rfl;obtain rfl:news=[]:=d0N (by rw[hl,Nat.zero_mul]);refine⟨v,w,xL base t t e i0 sz c ht hi v n xs hown,by rw[d0W];exact hown,⟨rfl,rfl,rfl,c9C _,fun _ _ _=>rfl⟩,Or.inl rfl⟩
 |some a=>
  have hm:(n+m)*bytes≤100000*1000:=d0Y hnm hby
  obtain⟨v',w',hr,h2,h3,_,h5⟩:=run_append_own_at (P:=prog) w base t t e i0 z sz bytes ht hi A0 A1 A2 hzs hsz v n xs hown a m c news hl (hc a rfl) h1 (by unfold maxLen;omega) (by omega) hb;exact⟨v',w',hr,h2,h3,h5⟩
theorem lA{row:Option Nat}(h:w.grownBy w' row)(hr: ∀g,row=some g→N≤g)(hN:N≤w.heap.size):Below N w w':=⟨h.os,h.tape,h.output,h.size,fun k hk=>h.block k (by omega) fun e=>by have:=hr k e.symm;omega⟩
abbrev stA(x y z:Int)(vd:Value)(g:Int)(vt vs:Value)(u:Int)(va:Value):Value:=.agg #[iV x,iV y,iV z,vd,iV g,vt,vs,iV u,va]
def b8O(ds:List Sto.aM)(k:Int)(q j:Nat):List Nat:=if j<q then(Sto.aI ds k).getD j []else[]
def BsI(w:World)(ds:List Sto.aM)(k:Int)(n q:Nat)(Bs:List Value):Prop:=Bs.length=n∧ ∀j u,Bs[j]?=some u→cU w u (b8O ds k q j)
def BsJ(w:World)(ds:List Sto.aM)(k:Int)(n q j:Nat)(d:Sto.aM)(Bs:List Value):Prop:=Bs.length=n∧(∀i u,i≠q→Bs[i]?=some u→cU w u (b8O ds k q i))∧ ∃u cur,Bs[q]?=some u∧cU w u cur∧(d.gone=true→cur=[])∧(d.gone=false→Sto.lF k (d.bl.drop j) cur=Sto.lF k d.bl [])
theorem BsI.to{ds:List Sto.aM}{k:Int}{d:Sto.aM}(h:BsI w ds k n q Bs)(hq:q<n):BsJ w ds k n q 0 d Bs:=by
 refine⟨h.1,fun i u _ hi=>h.2 i u hi,Bs[q]'(by rw[h.1];exact hq),[],c9F _,?_,fun _=>rfl,fun _=>rfl⟩;have:=h.2 q _ (c9F (by rw[h.1];exact hq));unfold b8O at this;rw[if_neg (d0V q)]at this;exact this
theorem BsJ.out{ds:List Sto.aM}{k:Int}{d:Sto.aM}(h:BsJ w ds k n q d.bl.length d Bs)(hd:ds[q]?=some d):BsI w ds k n (q+1) Bs:=by
 obtain⟨h1,h2,u,A0,h3,h4,h5,h6⟩:=h;refine⟨h1,fun i v hi=>?_⟩;by_cases e:i=q
 ·subst e;rw[h3]at hi;cases hi
  unfold b8O;rw[if_pos (d1F i),c9R,Sto.aI,c9S,hd];show cU w u (if d.gone then[]else Sto.lF k d.bl []);cases g:d.gone with
  |true=>
   rw[if_pos rfl,←h5 g];exact h4
  |false=>
   rw[if_neg (by decide),←h6 g,d0T];exact h4
 ·have:=h2 i v e hi;unfold b8O at this⊢;by_cases z:i<q
  ·rw[if_pos z]at this;rw[if_pos (by omega)];exact this
  ·rw[if_neg z]at this;rw[if_neg (by omega)];exact this
theorem b2D{α:Type}{l:List α}{x:α}(h:l[j]?=some x):l.drop j=x::l.drop (j+1):=by
 obtain⟨hl,rfl⟩:=c9H.1 h;exact d2L hl
theorem BsJ.skip{ds:List Sto.aM}{k:Int}{d:Sto.aM}{x:Int×List Nat}(h:BsJ w ds k n q j d Bs)(hx:d.bl[j]?=some x)(hn:d.gone=true∨x.1≠k):BsJ w ds k n q (j+1) d Bs:=by
 obtain⟨h1,h2,u,A0,h3,h4,h5,h6⟩:=h;refine⟨h1,h2,u,A0,h3,h4,h5,fun g=>?_⟩;have:=h6 g;have A1:x.1≠k:=by
  rcases hn with y|y
  ·rw[g]at y;cases y
  ·exact y
 rw[b2D hx,Sto.lF,if_neg A1]at this;exact this
theorem BsJ.take{ds:List Sto.aM}{k:Int}{d:Sto.aM}{x:Int×List Nat}(h:BsJ w ds k n q j d Bs)(hq:q<n)(hx:d.bl[j]?=some x)(hg:d.gone=false)(hk:x.1=k)(hv:cU w v x.2):BsJ w ds k n q (j+1) d (Bs.set q v):=by
 obtain⟨h1,h2,u,A0,h3,h4,h5,h6⟩:=h;refine⟨by rw[d0B];exact h1,fun i y hi hy=>?_,v,x.2,d0O (by rw[h1];exact hq),hv,fun g=>?_,fun g=>?_⟩
 ·rw[d0P (fun z=>hi z.symm)]at hy;exact h2 i y hi hy
 ·rw[hg]at g;cases g
 ·have:=h6 g;rw[b2D hx,Sto.lF,if_pos hk]at this;exact this
theorem rF(x y z g u:Int)(vd vt vs va:Value)(ds:List Sto.aM)(k:Int)(w:World)(h:Dks w vd ds)(hn:ds.length≤12)(ht: ∃A n C,vt=.slice A n C)(hs: ∃A n C,vs=.slice A n C)(ha: ∃A n C,va=.slice A n C):
  Calls prog 38 #[stA x y z vd g vt vs u va,iV k] w fun e w'=> ∃v',e=.returned v'∧BlL w' v' (Sto.aI ds k)∧Bl w w':=by
 obtain⟨At,nt,Ct,rfl⟩:=ht;obtain⟨As,ns,Cs,rfl⟩:=hs;obtain⟨Aa,na,Ca,rfl⟩:=ha;obtain⟨Ad,Cd,rfl,B9,Au,Av⟩:=h;obtain⟨n,Aj⟩: ∃n,n=ds.length:=⟨_,rfl⟩;rw[←Aj]at hn B9⊢;have B5:=hd8 Av;have Am:=hd8 Aj;have Bh:=run_make_row' (P:=prog) 86 59 nS 24 underlying86 Tryz.infoRow rfl .i64 .i64 n (by omega) (by omega);have Au:=mL8 Au;have b1:=aB8 w (.cells #[iV x,iV y,iV z,.slice Ad n Cd,iV g,.slice At nt Ct,.slice As ns Cs,iV u,.slice Aa na Ca] 32);clear Av Aj;go_enter func38,ntmps38
 go_upto_region 1 with fail
 have VS:=aC w #[iV x,iV y,iV z,.slice Ad n Cd,iV g,.slice At nt Ct,.slice As ns Cs,iV u,.slice Aa na Ca] 32;obtain⟨w1,B0⟩: ∃q,q=w.alloc (.cells #[iV x,iV y,iV z,.slice Ad n Cd,iV g,.slice At nt Ct,.slice As ns Cs,iV u,.slice Aa na Ca] 32):=⟨_,rfl⟩;rw[←B0]at b1 VS⊢;obtain⟨P,hP⟩: ∃q,q=w.heap.size:=⟨_,rfl⟩;rw[←hP]at VS⊢;have c3:=VS.q3;have R0:(w1.alloc (.cells (madeCells #[nS] n) 59)).ownsRow w1.heap.size 59 1 (.slice (some (aD w1.heap.size 0)) n n) n (List.replicate n nS):=by
  have:=World.ownsRow_lit w1 (madeCells #[nS] n) n (e:=59) (size:=1) (c9C w1.heap.size) (by unfold maxLen;omega) (by simp[madeCells]);rw[toList_madeCells_one]at this;exact this
 have b2:=aB8 w1 (.cells (madeCells #[nS] n) 59);have B8:=cB8 b2 c3
 have B3:Hid (BsI w ds k n 0 (List.replicate n nS)):=⟨List.length_replicate,fun j v hj=>by
  rw[(List.mem_replicate.1 (c9N hj)).2]
  exact cU.nil w⟩
 have hO:w.heap.size≤w1.heap.size:=b1.size;have Ao:=bt b1 b2;clear B0 VS hP b1;go_wp2_with fail;obtain⟨w2,B1⟩: ∃q,q=w1.alloc (.cells (madeCells #[nS] n) 59):=⟨_,rfl⟩;rw[←B1]at R0 b2 B8 Ao⊢;obtain⟨O,Ap⟩: ∃q,q=w1.heap.size:=⟨_,rfl⟩;rw[←Ap]at R0 hO⊢;clear B1 c3 b2 Ap;go_loopw [17] (fun x wr=> ∃q:Nat,q≤n∧x=iV q∧Hid (∃Bs,wr.ownsRow O 59 1 (.slice (some (aD O 0)) n n) n Bs∧BsI w ds k n q Bs)∧Hid (Bl w wr)) (fun x _=>n-(intOf x).toNat)
 case atStart=>exact⟨0,c9D _,rfl,⟨_,R0,B3.out⟩,Ao⟩
 case round=>
  obtain⟨q,hq,rfl,HR,HB⟩:=hrel;by_cases Ae:q<n
  ·have Be:(q:Int)<(n:Int):=by omega
   obtain⟨d,Ag⟩: ∃d,ds[q]?=some d:=⟨ds[q]'(by rw[←Am.out];exact Ae),c9F _⟩;obtain⟨b,o,rfl,vh,g0,g1,hh⟩:=B5.out q d Ag;have g0:=(HB.out.cell (p:=⟨b,o+q*2,none⟩) (World.block_lt_of_cell? _ _ g0)).trans g0;have g1:=(HB.out.cell (p:=⟨b,o+q*2+1,none⟩) (World.block_lt_of_cell? _ _ g1)).trans g1;obtain⟨Ah,Ch,rfl,Ba,Aw,Ax⟩:=hh;obtain⟨m,Ai⟩: ∃m,m=d.bl.length:=⟨_,rfl⟩;rw[←Ai]at g1 Ba;have Aw:=mL8 Aw;have B7:=hd8 Ax;have Al:=hd8 Ai;have B6:=hd8 Ag;obtain⟨Bs,A1,A6⟩:=HR.out;obtain⟨wo,Bj⟩: ∃y,y=wr:=⟨wr,rfl⟩;have VD:=aC wr #[.bool d.gone,.slice Ah m Ch] 58;have bA:=aB8 wr (.cells #[.bool d.gone,.slice Ah m Ch] 58);have An:Hid (∃Bs,(wr.alloc (.cells #[.bool d.gone,.slice Ah m Ch] 58)).ownsRow O 59 1 (.slice (some (aD O 0)) n n) n Bs∧BsJ w ds k n q 0 d Bs):=⟨Bs,aK A1 bA,A6.to Ae⟩;have Ak:=hd8 (bt HB.out bA);have Aq:O<wr.heap.size:=(A1.lt O rfl).2;have Ab:Hid (aV (wr.alloc (.cells #[.bool d.gone,.slice Ah m Ch] 58)) wr.heap.size 58 [.bool d.gone,.slice Ah m Ch]∧O<wr.heap.size):=⟨VD,Aq⟩;clear Ag Ax Ai HR HB A1 A6 VD bA Aq;go_upto_region 5 with fail
   obtain⟨w3,B2⟩: ∃y,y=wr.alloc (.cells #[.bool d.gone,.slice Ah m Ch] 58):=⟨_,rfl⟩;rw[←B2]at An Ak Ab⊢;obtain⟨Q,hQ⟩: ∃y,y=wr.heap.size:=⟨_,rfl⟩;rw[←hQ]at Ab⊢;have d0:=Ab.out.1.q0;have d1:=Ab.out.1.q1;clear B2 hQ g0 g1;go_wp2_with fail;go_loopw [25] (fun x wr=> ∃j:Nat,j≤m∧x=iV j∧Hid (∃Bs,wr.ownsRow O 59 1 (.slice (some (aD O 0)) n n) n Bs∧BsJ w ds k n q j d Bs)∧Hid (Bl w wr∧aV wr Q 58 [.bool d.gone,.slice Ah m Ch])) (fun x _=>m-(intOf x).toNat)
   case atStart=>exact⟨0,c9D _,rfl,An,Ak.out,Ab.out.1⟩
   case round=>
    obtain⟨j,hj,rfl,HR,HB⟩:=hrel;by_cases Bb:j<m
    ·have Bc:(j:Int)<(m:Int):=by omega
     obtain⟨x9,A5⟩: ∃x,d.bl[j]?=some x:=⟨d.bl[j]'(by rw[←Al.out];exact Bb),c9F _⟩;obtain⟨b9,o9,rfl,v9,e0,e1,e2⟩:=B7.out j x9 A5;have e0:=(HB.out.1.cell (p:=⟨b9,o9+j*2,none⟩) (World.block_lt_of_cell? _ _ e0)).trans e0;have e1:=(HB.out.1.cell (p:=⟨b9,o9+j*2+1,none⟩) (World.block_lt_of_cell? _ _ e1)).trans e1;have A8:=hd8 e2;obtain⟨_,A9,C9,rfl,_⟩:=e2;obtain⟨r9,Af⟩: ∃y,y=x9.2.length:=⟨_,rfl⟩;rw[←Af]at e1 A8;obtain⟨s9,A7⟩: ∃y,y=x9.1:=⟨_,rfl⟩;rw[←A7]at e0;have bA:=aB8 wr (.cells #[iV s9,.slice A9 r9 C9] 61);have f0:=(HB.out.2.bE bA).q0;obtain⟨Bs,A1,A2⟩:=HR.out;have A0:=aK A1 bA;have A3:Hid (Bl w (wr.alloc (.cells #[iV s9,.slice A9 r9 C9] 61))∧aV (wr.alloc (.cells #[iV s9,.slice A9 r9 C9] 61)) Q 58 [.bool d.gone,.slice (some (aD b9 o9)) m Ch]):=⟨bt HB.out.1 bA,HB.out.2.bE bA⟩;by_cases hk:s9=k
     ·by_cases hg:d.gone=true
      case pos=>
       have A4:Hid (∃Bs,(wr.alloc (.cells #[iV s9,.slice A9 r9 C9] 61)).ownsRow O 59 1 (.slice (some (aD O 0)) n n) n Bs∧BsJ w ds k n q (j+1) d Bs):=⟨Bs,A0,A2.skip A5 (Or.inl hg)⟩;rw[hg]at f0;have Ay:=beq_iff_eq.2 hk;clear HR HB A1 A2 A0 A5 hk hg A8 Af A7;go_wp2_with fail;exact⟨⟨j+1,by omega,by go_num,A4,A3⟩,by simp[intOf];omega⟩
      case neg=>
       have hg:d.gone=false:=by simpa using hg
       have Ac:=A2.take Ae A5 hg (A7.symm.trans hk) (show cU w (.slice A9 r9 C9) x9.2 from A8.out);have Ar:=A0.stored q (.slice A9 r9 C9);have A4:Hid (∃Bs,((wr.alloc (.cells #[iV s9,.slice A9 r9 C9] 61)).setCell (aD O q) (.slice A9 r9 C9)).ownsRow O 59 1 (.slice (some (aD O 0)) n n) n Bs∧BsJ w ds k n q (j+1) d Bs):=⟨_,Ar.1,Ac⟩;have B4:Hid (Bl w ((wr.alloc (.cells #[iV s9,.slice A9 r9 C9] 61)).setCell (aD O q) (.slice A9 r9 C9))∧aV ((wr.alloc (.cells #[iV s9,.slice A9 r9 C9] 61)).setCell (aD O q) (.slice A9 r9 C9)) Q 58 [.bool d.gone,.slice (some (aD b9 o9)) m Ch]):=⟨A3.out.1.setCell hO _,A3.out.2.off (aG _ (aD O q) _) fun z=>(aU A0 rfl).ne A3.out.2.ty (by decide) z.symm⟩;have Bg:=A0.frozenAt q;obtain⟨u0,Bi⟩: ∃u0,(wr.alloc (.cells #[iV s9,.slice A9 r9 C9] 61)).cell? (aD O q)=some u0:=by
        obtain⟨g,Bf,hv,_,_,_,_,hc⟩:=dC A0 (by omega);cases hv
        exact⟨_,hc q _ (c9F (by rw[A2.1];exact Ae))⟩
       rw[hg]at f0;have Ay:=beq_iff_eq.2 hk;clear HR HB A3 A1 A2 Ac A0 A5 hk hg A8 Af A7 Ar;go_wp2_with fail;exact⟨⟨j+1,by omega,by go_num,A4,B4⟩,by simp[intOf];omega⟩
     ·have A4:Hid (∃Bs,(wr.alloc (.cells #[iV s9,.slice A9 r9 C9] 61)).ownsRow O 59 1 (.slice (some (aD O 0)) n n) n Bs∧BsJ w ds k n q (j+1) d Bs):=⟨Bs,A0,A2.skip A5 (Or.inr (by rw[←A7];exact hk))⟩;have Ay:(s9==k)=false:=by rw[beq_eq_false_iff_ne];exact hk
      clear HR HB A1 A2 A0 A5 hk A8 Af A7;go_wp2_with fail;exact⟨⟨j+1,by omega,by go_num,A4,A3⟩,by simp[intOf];omega⟩
    ·obtain rfl:j=m:=by omega
     obtain⟨Bs,A1,A2⟩:=HR.out
     have A4:Hid (∃Bs,wr.ownsRow O 59 1 (.slice (some (aD O 0)) n n) n Bs∧BsI w ds k n (q+1) Bs):=⟨Bs,A1,by
      rw[Al.out]at A2
      exact A2.out B6.out⟩
     have A3:=hd8 HB.out.1;clear HR HB A1 A2;go_wp2_with fail;exact⟨⟨q+1,by omega,by go_num,A4,A3⟩,by simp[intOf];omega⟩
  ·obtain rfl:q=n:=by omega
   obtain⟨Bs,A1,A6⟩:=HR.out;have HF:Hid (BlL wr (.slice (some (aD O 0)) q q) (Sto.aI ds k)):=by
    have hl:(Sto.aI ds k).length=q:=by rw[Sto.aI,c9M,Am.out]
    refine⟨_,q,by rw[hl],by rw[hl];exact c9C _,by unfold maxLen;omega,fun i x hx=>?_⟩;have hi:i<q:=by
     rw[←hl];exact(c9H.1 hx).1
    obtain⟨u9,Az⟩: ∃u9,Bs[i]?=some u9:=⟨Bs[i]'(by rw[A6.1];exact hi),c9F _⟩;have hc:=A1.cells rfl i u9 Az;rw[WideShapes.add_plain]at hc;have hb:=A6.2 i u9 Az;unfold b8O at hb;rw[if_pos hi,c9R,hx]at hb;exact⟨O,0,u9,rfl,hc,hb.bE HB.out⟩
   have A3:=HB.out;clear HR A1 A6;go_wp2_with fail;go_ret
   exact⟨_,rfl,HF.out,A3⟩
def nL{α:Type}(a b:List α)(i:Nat):List α:=a.take i++b.drop i
theorem a6V{α:Type}{a b:List α}(h:a.length=b.length)(i:Nat):(nL a b i).length=b.length:=by
 unfold nL;rw[c9I,c9K,d0A];omega
theorem c1Y{α:Type}{a b:List α}(h:a.length=b.length):nL a b b.length=a:=by
 unfold nL;rw[d0T,d0W,←h,d0L]
theorem b2Y{α:Type}{a b:List α}(h:a.length=b.length)(hi:i<b.length):(nL a b i)[i]?=b[i]?:=by
 unfold nL;rw[d0S (by rw[c9K];omega),c9K,Nat.min_eq_left (by omega),d1L,d0J,d0X]
theorem a9C{α:Type}{a b:List α}(h:a.length=b.length){x:α}(hi:a[i]?=some x):(nL a b i).set i x=nL a b (i+1):=by
 have hl:=(c9H.1 hi).1;apply d1I;intro j;by_cases e:j=i
 ·subst e;rw[d0O (by rw[a6V h];omega)];unfold nL;rw[d0M (by rw[c9K];omega),d0C,if_pos (by omega),hi]
 ·rw[d0P (fun z=>e z.symm)];unfold nL;by_cases q:j<i
  ·rw[d0M (by rw[c9K];omega),d0M (by rw[c9K];omega),d0C,d0C,if_pos q,if_pos (by omega)]
  ·rw[d0S (by rw[c9K];omega),d0S (by rw[c9K];omega),d0J,d0J,c9K,c9K,Nat.min_eq_left (by omega),Nat.min_eq_left (by omega)];congr 1;omega
theorem b7S{α:Type}{a b:List α}(h:a.length=b.length){x:α}(hi:a[i]?=some x)(hb:b[i]?=some x):nL a b i=nL a b (i+1):=by
 rw[←a9C h hi];have hl:=(c9H.1 hb).1;have:=b2Y h hl;rw[hb]at this;apply d1I;intro j;by_cases e:j=i
 ·subst e;rw[d0O (by rw[a6V h];exact hl),this]
 ·rw[d0P (fun z=>e z.symm)]
theorem b9T{es:List HeC}(h:w.ownsRow base 61 2 v es.length (es.flatMap aJ))(y:HeC)(hb:base≤w.heap.size)(hl:es.length+1≤1000):
  ∃v' w',(Builtin.append_ #[56,56] 56 #[v,.slice (some (aD w.heap.size 0)) 1 1]).run prog (w.alloc (.cells #[iV y.1,slV y.2.1] 61))=.ok v' w'∧w'.ownsRow base 61 2 v' (es++[y]).length ((es++[y]).flatMap aJ)∧Below base w w'∧Off (fun k=>v.ownBlock=some k) w w':=by
 have bA:=aB8 w (.cells #[iV y.1,slV y.2.1] 61);have hc:=aC w #[iV y.1,slV y.2.1] 61
 obtain⟨v',w',hr,h2,h3,_⟩:=wO 56 underlying56 Tryz.infoH rfl (by decide) (by decide) (aK h bA) (some (aD w.heap.size 0)) 1 1 (fun e=>by cases e) (aJ y) rfl (fun a e j u hj=>by
  cases e
  rw[WideShapes.add_plain,c9G]
  exact hc.cell hj) (fun u hu=>by
  have:=tS [y] u (by simpa using hu)
  exact this) (by omega) (c9E hb bA.size)
 refine⟨v',w',hr,?_,?_,(Off.oE bA).trans (cI h3)⟩
 ·rw[c9I,d0H];simpa using h2
 ·have hg:=lA h3 (fun g hg=>(h.lt g hg).1) (c9E hb bA.size);exact⟨hg.os.trans bA.os,hg.tape.trans bA.tape,hg.output.trans bA.output,c9E bA.size hg.size,fun k hk=>(hg.block k hk).trans (bA.block k (c9P hk hb))⟩
def WrG(wo wr:World)(S:Nat→Bool)(T:List (Int×List Nat))(v:Value)(R:List (Int×List Nat))(m:Nat):Prop:= ∃es:List HeC,wr.ownsRow wo.heap.size 61 2 v es.length (es.flatMap aJ)∧(∀e,e∈es→cU (aS S wo) (slV e.2.1) e.2.2)∧T=es.map kV++R∧es.length≤m∧Bl wo wr
theorem WrG.off{S:Nat→Bool}{T R:List (Int×List Nat)}(h:WrG wo wr S T v R m)(hb:Bl wr wr'):WrG wo wr' S T v R m:=by
 obtain⟨es,h1,h2,h3,h4,h5⟩:=h;exact⟨es,aK h1 hb,h2,h3,h4,bt h5 hb⟩
theorem WrG.more{S:Nat→Bool}{T R:List (Int×List Nat)}{m':Nat}(h:WrG wo wr S T v R m)(hm:m≤m'):WrG wo wr S T v R m':=by
 obtain⟨es,h1,h2,h3,h4,h5⟩:=h;exact⟨es,h1,h2,h3,c9E h4 hm,h5⟩
theorem WrG.bel{S:Nat→Bool}{T R:List (Int×List Nat)}(h:WrG wo wr S T v R m):Bl wo wr:=by
 obtain⟨_,_,_,_,_,h5⟩:=h;exact h5
theorem WrG.app{S:Nat→Bool}{T R:List (Int×List Nat)}(y:HeC)(h:WrG wo wr S T v (kV y::R) m)(hy:cU (aS S wo) (slV y.2.1) y.2.2)(hm:m≤900):
  ∃v' w',(Builtin.append_ #[56,56] 56 #[v,.slice (some (aD wr.heap.size 0)) 1 1]).run prog (wr.alloc (.cells #[iV y.1,slV y.2.1] 61))=.ok v' w'∧WrG wo w' S T v' R (m+1)∧Off (fun k=>v.ownBlock=some k) wr w':=by
 obtain⟨es,h1,h2,h3,h4,h5⟩:=h;obtain⟨v',w',hr,ho,hb,A0⟩:=b9T h1 y h5.size (by omega)
 exact⟨v',w',hr,⟨es++[y],ho,fun e he=>by
  rcases List.mem_append.1 he with z|z
  ·exact h2 e z
  ·rw[d1Z.1 z]
   exact hy,by rw[h3,c9U,c9X];rfl,by rw[c9I];show es.length+1≤m+1;omega,Below.trans h5 hb⟩,A0⟩
theorem WrG.lt{S:Nat→Bool}{T R:List (Int×List Nat)}(h:WrG wo wr S T v R m)(hb:v.ownBlock=some b):b<wr.heap.size:=by
 obtain⟨es,h1,_⟩:=h;exact(h1.lt b hb).2
theorem WrG.hes{S:Nat→Bool}{T:List (Int×List Nat)}(h:WrG wo wr S T v [] m)(hS: ∀k,S k=true→k<wo.heap.size):Hes (aS S wr) v T:=by
 obtain⟨es,h1,h2,h3,h4,h5⟩:=h;rw[h3,d0W]
 exact b4C h1 (fun g hg=>by
  cases q:S g with|false=>rfl|true=>
   have:=hS g q;have:=(h1.lt g hg).1
   omega) fun e he=>(h2 e he).sub (cR h5)
theorem WrG.sE{S:Nat→Bool}{T R:List (Int×List Nat)}(h:WrG wo wr S T v R m): ∃A n C,v=.slice A n C:=by
 obtain⟨es,h1,_⟩:=h;obtain⟨A,C,hv,_⟩:=bJ h1;exact⟨A,_,C,hv⟩
theorem b9P{k:Int}{x:List Nat}{f:Bool}{bl:List (Int×List Nat)}{h:Int×List Nat}(hj:bl[j]?=some h):Sto.ins k x f (bl.drop j)=(if k≤h.1∧f=false then[(k,x)]else[])++((if h.1=k then[]else[h])++Sto.ins k x (f||decide (k≤h.1)) (bl.drop (j+1))):=by
 rw[b2D hj,Sto.ins]
theorem sG(S:Nat→Bool)(P D n C:Nat)(x y z g u k:Int)(vt vs va vl:Value)(L:List (List Nat))(V:Nat→Value)(ds:List Sto.aM)(w:World)(hv:aV w P 32 [iV x,iV y,iV z,.slice (some (aD D 0)) n C,iV g,vt,vs,iV u,va])(hd:DkJ w S D V ds)(hS: ∀k,S k=true→k<w.heap.size)(hn:n=ds.length)(h12:n≤12)(hC1:n≤C)(hC2:C≤maxLen)(hlen: ∀(i:Nat) (d:Sto.aM),ds[i]?=some d→d.bl.length≤100)(hL:BlL (aS S w) vl L)(hLn:L.length=n):
  Calls prog 40 #[.pointer (some (aD P 0)),iV k,vl] w fun e w'=>e=.returned (.tuple #[])∧(∃V',DkJ w' S D V' (Sto.write k L 0 ds))∧Off (fun j=>j=D) w w':=by
 have C2:=hv.ty.ne hd.row.ty (by decide);have Ci:D<w.heap.size:=hd.row.lt;have Be:=hd8 hd.sD;have C1:=hd8 hS;have Bv:=Sto.cK k L ds 0;have HV:=hd8 hv;have HN:=hd8 hn;have HW:=hd8 Bv;have Bz:=hd8 hlen;have H0:Hid ((∃V',DkJ w S D V' (nL (Sto.write k L 0 ds) ds 0))∧Off (fun j=>j=D) w w):=⟨⟨V,hd⟩,Off.refl _ _⟩;have c3:=hv.q3;have hC2:=mL8 hC2;have B1:=hd8 hL;obtain⟨Al,Cl,rfl,C6,Br,_⟩:=hL;rw[hLn]at C6 B1⊢;have Br:=mL8 Br;have Ce:=hd8 hLn;have C0:Hid (∀i,i<n→ ∃b o A9 m9 C9,Al=some (aD b o)∧S b=false∧w.cell? (aD b (o+i))=some (.slice A9 m9 C9)∧cU (aS S w) (.slice A9 m9 C9) (L.getD i [])):=fun i hi=>by
  obtain⟨A',C',Cd,_,_,h3⟩:=B1.out;cases Cd
  obtain⟨x9,Aj⟩: ∃x,L[i]?=some x:=⟨L[i]'(by omega),c9F _⟩;obtain⟨b,o,u9,e1,e2,e3⟩:=h3 i x9 Aj;obtain⟨q1,q2⟩:=kL e2;have e4:=e3;obtain⟨_,A9,C9,rfl,_⟩:=e4;refine⟨b,o,A9,_,C9,e1,q1,q2,?_⟩;rw[c9R,Aj];exact e3
 clear hv hd hn Bv hlen hLn B1 hS;go_enter func40,ntmps40
 go_wp2_with fail;go_loopw [17] (fun x wr=> ∃i:Nat,i≤n∧x=iV i∧Hid ((∃V',DkJ wr S D V' (nL (Sto.write k L 0 ds) ds i))∧Off (fun j=>j=D) w wr)) (fun x _=>n-(intOf x).toNat)
 case atStart=>exact⟨0,c9D _,rfl,H0⟩
 case round=>
  obtain⟨i,hi,rfl,HR⟩:=hrel;by_cases B9:i<n
  ·have Cc:(i:Int)<(n:Int):=by omega
   obtain⟨⟨V1,Ab⟩,Am⟩:=HR.out;have c3:=(HV.out.off Am C2).q3;obtain⟨d,As⟩: ∃d,ds[i]?=some d:=⟨ds[i]'(by rw[←HN.out];exact B9),c9F _⟩;have At:=(b2Y HW.out (by rw[←HN.out];exact B9)).trans As;have Ba:=(c9H.1 At).1;have g0:=Ab.gone At;have g1:=Ab.held Ba;have Ai:(Sto.write k L 0 ds)[i]?=some (if d.gone then d else⟨false,Sto.ins k (L.getD i []) false d.bl⟩):=by
    rw[Sto.kQ,As,c9G];rfl
   by_cases hg:d.gone=true
   case pos=>
    rw[hg]at g0 Ai;rw[if_pos rfl]at Ai;have A4:Hid ((∃V',DkJ wr S D V' (nL (Sto.write k L 0 ds) ds (i+1)))∧Off (fun j=>j=D) w wr):=⟨⟨V1,by rw[←b7S HW.out Ai As];exact Ab⟩,Am⟩;clear HR Ab Am As At Ba Ai hg g1;go_wp2_with fail;exact⟨⟨i+1,by omega,by go_num,A4⟩,by simp[intOf];omega⟩
   case neg=>
    have hg:d.gone=false:=by simpa using hg
    rw[hg]at g0 Ai;rw[if_neg (by decide)]at Ai;have hH:=Ab.hes i d At;obtain⟨Ah,Ch,Bk,C5,Bn,Bo⟩:=hH;rw[Bk]at g1;obtain⟨m,Ae⟩: ∃m,m=d.bl.length:=⟨_,rfl⟩;rw[←Ae]at g1 C5;have Bt:m≤100:=by rw[Ae];exact Bz.out i d As
    have Bn:=mL8 Bn;obtain⟨wo,Aa⟩: ∃q,q=wr:=⟨wr,rfl⟩;have By:Hid (∀j x,d.bl[j]?=some x→ ∃b o A9 m9 C9,Ah=some (aD b o)∧wo.cell? (aD b (o+j*2))=some (iV x.1)∧wo.cell? (aD b (o+j*2+1))=some (.slice A9 m9 C9)∧cU (aS S wo) (.slice A9 m9 C9) x.2):=fun j x9 Aj=>by
     obtain⟨b,o,e1,u9,e2,e3,e4⟩:=Bo j x9 Aj;have e5:=e4;obtain⟨_,A9,C9,rfl,_⟩:=e5;rw[Aa];exact⟨b,o,A9,_,C9,e1,(kL e2).2,(kL e3).2,e4⟩
    obtain⟨Ax,Bc,A8,m8,C8,rfl,Bm,Ag,Bs⟩:=C0.out i B9;have Ag:=(World.cell?_of_block (w:=w) (a:=⟨Ax,Bc+i,none⟩) (Am.block Ax (World.block_lt_of_cell? _ _ Ag) (fun e=>by rw[e,Be.out]at Bm;cases Bm))).trans Ag;have B3:Hid (cU (aS S wo) (.slice A8 m8 C8) (L.getD i [])):=by
     rw[Aa];exact Bs.sub (j7 Be.out Am)
    have HK:Hid (wo=wr∧DkJ wo S D V1 (nL (Sto.write k L 0 ds) ds i)∧Off (fun j=>j=D) w wo∧(nL (Sto.write k L 0 ds) ds i)[i]?=some d∧(Sto.write k L 0 ds)[i]?=some ⟨false,Sto.ins k (L.getD i []) false d.bl⟩∧m=d.bl.length∧d.gone=false):=⟨Aa,by rw[Aa];exact Ab,by rw[Aa];exact Am,At,Ai,Ae,hg⟩;have H1:Hid (WrG wo wr S (Sto.ins k (L.getD i []) false d.bl) nS (Sto.ins k (L.getD i []) false (d.bl.drop 0)) (2*0)):=⟨[],by rw[Aa];exact World.ownsRow_nil _ _ _ _,(fun _ h=>by cases h),rfl,Nat.le_refl _,by rw[Aa];exact Below.refl _ _⟩;have Bg:wo.cell? (aD D (i*2+1))=some (.slice Ah m Ch):=by rw[Aa];exact g1
    have Av:wo.cell? (aD Ax (Bc+i))=some (.slice A8 m8 C8):=by rw[Aa];exact Ag
    have Bx:Hid (wo.cell? (aD D (i*2+1))=some (.slice Ah m Ch)∧wo.cell? (aD Ax (Bc+i))=some (.slice A8 m8 C8)∧wo.cell? (aD P 3)=some (.slice (some (aD D 0)) n C)):=⟨Bg,Av,by rw[Aa];exact c3⟩;clear HR Ab Am As At Ba Ai hg Bk Bo Bs Aa Ae Bg Av;go_wp2_with fail;clear g0 g1 c3;go_loopw [8,9,35] (fun v8 v9 x wr=> ∃j:Nat,j≤m∧x=iV j∧ ∃f:Bool,v9=.bool f∧Hid (WrG wo wr S (Sto.ins k (L.getD i []) false d.bl) v8 (Sto.ins k (L.getD i []) f (d.bl.drop j)) (2*j))) (fun _ _ x _=>m-(intOf x).toNat)
    case atStart=>exact⟨0,c9D _,rfl,false,rfl,H1⟩
    case round=>
     obtain⟨j,hj,rfl,f,rfl,HR⟩:=hrel;have An:=HR.out.bel;obtain⟨Cf,Bh,Cg⟩:=Bx.out;by_cases Ca:j<m
     ·have Cb:(j:Int)<(m:Int):=by omega
      obtain⟨x9,Aj⟩: ∃x,d.bl[j]?=some x:=⟨d.bl[j]'(by rw[←HK.out.2.2.2.2.2.1];exact Ca),c9F _⟩;obtain⟨b9,o9,A9,m9,C9,rfl,e0,e1,e2⟩:=By.out j x9 Aj;have e0:=cB8 An e0;have e1:=cB8 An e1;have Ag:=cB8 An Bh;have A6:=b9P (k:=k) (x:=L.getD i []) (f:=f) Aj;obtain⟨s9,Bb⟩: ∃q,q=x9.1:=⟨_,rfl⟩;rw[←Bb]at e0 A6;have VH:=aC wr #[iV s9,.slice A9 m9 C9] 61;have bA:=aB8 wr (.cells #[iV s9,.slice A9 m9 C9] 61);have A2:=HR.out.off bA;have Ap:=cB8 bA Ag;have A3:x9=(s9,x9.2):=by rw[Bb]
      have Ak:Hid (cU (aS S wo) (.slice A9 m9 C9) x9.2):=e2;have Bi:=VH.q0;have Bj:=VH.q1;have Af:Hid (∀b,u8.ownBlock=some b→b≠wr.heap.size):=fun b hb e=>by
       have:=HR.out.lt hb;omega
      rw[A6]at A2;have B4:=hd8 A2;have Bf:=hd8 A3;have Aw:=hd8 VH;have B2:=hd8 Ap;clear HR A2 A6 Aj A3 VH Bb Ap Bi Bj bA;go_upto_region 10 with fail
      obtain⟨wA,Bu⟩: ∃y,y=wr.alloc (.cells #[iV s9,.slice A9 m9 C9] 61):=⟨_,rfl⟩;rw[←Bu]at B4 Aw B2⊢;obtain⟨Q,hQ⟩: ∃y,y=wr.heap.size:=⟨_,rfl⟩;rw[←hQ]at Aw Af⊢;have VH:=Aw.out;have A2:=B4.out;have A3:=Bf.out;have Ap:=B2.out;have Bi:=VH.q0;have Bj:=VH.q1;clear Bu hQ e0 e1 Ag An B4 Aw B2 Bf;by_cases hA:k≤s9∧f=false
      ·obtain⟨Bq,rfl⟩:=hA;rw[if_pos ⟨Bq,rfl⟩,Bool.false_or,decide_eq_true Bq]at A2;by_cases hs:s9=k
       ·rw[if_pos hs]at A2;obtain⟨v1,w1,A1,A5,Aq⟩:=WrG.app (k,(A8,m8,C8),L.getD i []) A2 B3.out (by omega);have A1:(Builtin.append_ #[56,56] 56 #[u8,.slice (some (aD wA.heap.size 0)) 1 1]).run prog (wA.alloc (.cells #[iV k,.slice A8 m8 C8] 61))=.ok v1 w1:=A1;have A4:Hid (WrG wo w1 S (Sto.ins k (L.getD i []) false d.bl) v1 (Sto.ins k (L.getD i []) true (d.bl.drop (j+1))) (2*(j+1))):=A5.more (by omega);have VQ:=VH.off Aq (fun e=>Af.out _ e rfl);have q0:=VQ.q0;have B8:(s9 !=k)=false:=by rw[hs];simp
        clear A2 A5 A3 Ak VQ VH Aq Af hs;go_wp2_with (at_builtin;refine Lib.wpList_append_run _ rfl _ _ _ _ rfl _ _ rfl rfl _ _ A1 ?_);all_goals exact⟨⟨j+1,by omega,by go_num,true,rfl,A4⟩,by simp[intOf];omega⟩
       ·rw[if_neg hs]at A2;obtain⟨v1,w1,A1,A5,Aq⟩:=WrG.app (k,(A8,m8,C8),L.getD i []) A2 B3.out (by omega);have A1:(Builtin.append_ #[56,56] 56 #[u8,.slice (some (aD wA.heap.size 0)) 1 1]).run prog (wA.alloc (.cells #[iV k,.slice A8 m8 C8] 61))=.ok v1 w1:=A1;have A5:WrG wo w1 S (Sto.ins k (L.getD i []) false d.bl) v1 (x9::Sto.ins k (L.getD i []) true (d.bl.drop (j+1))) (2*j+1):=A5;rw[A3]at A5;obtain⟨v2,w2,A0,Ar,_⟩:=WrG.app (s9,(A9,m9,C9),x9.2) A5 Ak.out (by omega);have A0:(Builtin.append_ #[56,56] 56 #[v1,.slice (some (aD w1.heap.size 0)) 1 1]).run prog (w1.alloc (.cells #[iV s9,.slice A9 m9 C9] 61))=.ok v2 w2:=A0;have A4:Hid (WrG wo w2 S (Sto.ins k (L.getD i []) false d.bl) v2 (Sto.ins k (L.getD i []) true (d.bl.drop (j+1))) (2*(j+1))):=Ar.more (by omega);have VQ:=VH.off Aq (fun e=>Af.out _ e rfl);have q0:=VQ.q0;have q1:=VQ.q1;have B8:(s9 !=k)=true:=by rw[bne_iff_ne];exact hs
        clear A2 A5 Ar A3 Ak VQ VH Aq Af hs;go_wp2_with (first|(at_builtin;refine Lib.wpList_append_run _ rfl _ _ _ _ rfl _ _ rfl rfl _ _ A1 ?_)|(at_builtin;refine Lib.wpList_append_run _ rfl _ _ _ _ rfl _ _ rfl rfl _ _ A0 ?_));all_goals exact⟨⟨j+1,by omega,by go_num,true,rfl,A4⟩,by simp[intOf];omega⟩
      ·have Ay:(f||decide (k≤s9))=f:=by
        cases f with
        |true=>rfl
        |false=>
         rw[Bool.false_or];exact decide_eq_false fun z=>hA ⟨z,rfl⟩
       rw[if_neg hA,Ay,d1C]at A2;have Az:=fun e=>decide_eq_false fun z=>hA ⟨z,e⟩;by_cases hs:s9=k
       ·rw[if_pos hs,d1C]at A2;have A4:Hid (WrG wo wA S (Sto.ins k (L.getD i []) false d.bl) u8 (Sto.ins k (L.getD i []) f (d.bl.drop (j+1))) (2*(j+1))):=A2.more (by omega);have B8:(s9 !=k)=false:=by rw[hs];simp
        cases f with
        |true=>
         clear A2 A3 Ak VH Af hs hA Ay Az;go_wp2_with fail;all_goals exact⟨⟨j+1,by omega,by go_num,true,rfl,A4⟩,by simp[intOf];omega⟩
        |false=>exact absurd ⟨by omega,rfl⟩ hA
       ·rw[if_neg hs]at A2;have A2:WrG wo wA S (Sto.ins k (L.getD i []) false d.bl) u8 (x9::Sto.ins k (L.getD i []) f (d.bl.drop (j+1))) (2*j):=A2;rw[A3]at A2;obtain⟨v2,w2,A0,Ar,_⟩:=WrG.app (s9,(A9,m9,C9),x9.2) A2 Ak.out (by omega);have A0:(Builtin.append_ #[56,56] 56 #[u8,.slice (some (aD wA.heap.size 0)) 1 1]).run prog (wA.alloc (.cells #[iV s9,.slice A9 m9 C9] 61))=.ok v2 w2:=A0;have A4:Hid (WrG wo w2 S (Sto.ins k (L.getD i []) false d.bl) v2 (Sto.ins k (L.getD i []) f (d.bl.drop (j+1))) (2*(j+1))):=Ar.more (by omega);have B8:(s9 !=k)=true:=by rw[bne_iff_ne];exact hs
        cases f with
        |true=>
         clear A2 Ar A3 Ak VH Af hs hA Ay Az;go_wp2_with (at_builtin;refine Lib.wpList_append_run _ rfl _ _ _ _ rfl _ _ rfl rfl _ _ A0 ?_);all_goals exact⟨⟨j+1,by omega,by go_num,true,rfl,A4⟩,by simp[intOf];omega⟩
        |false=>
         have C4:=Az rfl;have Cj:s9<k:=by have:=of_decide_eq_false C4;omega
         clear A2 Ar A3 Ak VH Af hs hA Ay Az;go_wp2_with (at_builtin;refine Lib.wpList_append_run _ rfl _ _ _ _ rfl _ _ rfl rfl _ _ A0 ?_);exact⟨⟨j+1,by omega,by go_num,false,rfl,A4⟩,by simp[intOf];omega⟩
     ·obtain rfl:j=m:=by omega
      obtain⟨Bp,Ao,B0,Au,B5,B6,B7⟩:=HK.out;have Ag:=cB8 An Bh;have Ac:=HR.out;rw[B6,d0T]at Ac;have Ad: ∀(v:Value) (w1:World) (m':Nat),WrG wo w1 S (Sto.ins k (L.getD i []) false d.bl) v [] m'→(∃V',DkJ (w1.setCell (aD D (i*2+1)) v) S D V' (nL (Sto.write k L 0 ds) ds (i+1)))∧Off (fun j=>j=D) w (w1.setCell (aD D (i*2+1)) v):=fun v w1 m' hG=>by
       have Ab:=(Ao.off hG.bel).set Au v _ (hG.hes fun q hq=>c9P (C1.out q hq) B0.size);rw[B7,a9C HW.out B5]at Ab;exact⟨⟨_,Ab⟩,(B0.trans (Off.oE hG.bel)).trans (aG _ (aD D (i*2+1)) _)⟩
      cases f with
      |true=>
       have Ac:WrG wo wr S (Sto.ins k (L.getD i []) false d.bl) u8 [] (2*d.bl.length):=Ac;have A4:Hid ((∃V',DkJ (wr.setCell (aD D (i*2+1)) u8) S D V' (nL (Sto.write k L 0 ds) ds (i+1)))∧Off (fun j=>j=D) w (wr.setCell (aD D (i*2+1)) u8)):=Ad u8 wr _ Ac;have g1:=(Ao.off An).held (c9H.1 Au).1;have C3:=(Ao.off An).row.frozen (i*2+1);obtain⟨A7,n7,C7,rfl⟩:=Ac.sE;clear HR Ac Ad Bp Ao B0 Au B5 B6 B7;go_wp2_with fail;exact⟨⟨i+1,by omega,by go_num,A4⟩,by simp[intOf];omega⟩
      |false=>
       have Ac:WrG wo wr S (Sto.ins k (L.getD i []) false d.bl) u8 [(k,L.getD i [])] (2*d.bl.length):=Ac;obtain⟨v1,w1,A1,A5,Aq⟩:=WrG.app (k,(A8,m8,C8),L.getD i []) Ac B3.out (by omega);have A1:(Builtin.append_ #[56,56] 56 #[u8,.slice (some (aD wr.heap.size 0)) 1 1]).run prog (wr.alloc (.cells #[iV k,.slice A8 m8 C8] 61))=.ok v1 w1:=A1;have A4:=hd8 (Ad v1 w1 _ A5);have g1:=(Ao.off A5.bel).held (c9H.1 Au).1;have C3:=(Ao.off A5.bel).row.frozen (i*2+1);obtain⟨A7,n7,C7,rfl⟩:=A5.sE;clear HR Ac A5 Ad Bp Ao B0 Au B5 B6 B7 Aq;go_wp2_with (at_builtin;refine Lib.wpList_append_run _ rfl _ _ _ _ rfl _ _ rfl rfl _ _ A1 ?_);exact⟨⟨i+1,by omega,by go_num,A4⟩,by simp[intOf];omega⟩
  ·obtain rfl:i=n:=by omega
   have HF:=HR.out;rw[HN.out,c1Y HW.out]at HF;have Bw:=hd8 HF;clear HR HF;go_wp2_with fail;go_end0
   exact⟨rfl,Bw.out⟩
theorem b2P{ops:Array Oper}{o:Oper}{a:Act}{w:World}{K:Act→World→Prop}{Q:Exit→Act→World→Prop}{E:Prop}
  (hg:o.guard=none) (s x:Operand) (t:TypeId) (hop:o.op=Op.call {callee:=Callee.builtin Builtin.append,args:=#[s,x],argTypes:=#[t,t]})
  {v u v':Value} {w':World} (hs:a.eval s=v) (hx:a.eval x=u) (hr:(Builtin.append_ #[t,t] o.type #[v,u]).run prog w=.ok v' w') (hK:K (a.put o.dst v') w'):
  if Region.wanted o (yielded ops a.tmps)=true then Oper.wp prog o a w K Q else E:=by
 have hw:Region.wanted o (yielded ops a.tmps)=true:=by simp[Region.wanted,hg]
 rw[if_pos hw];unfold Oper.wp execOp;simp only[hop,resolve,invoke,builtin,Sem.run_bind,Sem.run_pure,Result.andThen_ok,List.map_toArray,List.map_cons,List.map_nil,hs,hx,hr];exact hK
theorem b2C{A:Option Addr}{c:Nat}(h:cU w (.slice A m c) r):m=r.length∧(A=none→m=0)∧ ∀a,A=some a→ ∀j u,(clB r)[j]?=some u→w.cell? (a.add j)=some u:=by
 obtain⟨_,A',C',hv,h1,h2,h3⟩:=h;cases hv
 refine⟨rfl,fun e=>?_,fun a e j u hj=>?_⟩
 ·cases hr:r[0]? with
  |none=>exact Nat.le_zero.1 (List.getElem?_eq_none_iff.1 hr)
  |some x=>
   obtain⟨b,o,e1,_⟩:=h3 0 x hr;rw[e]at e1;cases e1
 ·unfold clB at hj;rw[c9S]at hj;obtain⟨x,hx,rfl⟩:=c9J.1 hj;obtain⟨b,o,e1,e2⟩:=h3 j x hx;rw[e]at e1;cases e1
  rw[WideShapes.add_plain];exact e2
theorem c5H(h:w.ownsRow N 5 1 v n (clB r))(hn:n=r.length)(h1:1≤n)(hb:Evt.bP r):eQ w N v r:=by
 subst hn;obtain⟨A,C,_,_,A1,_⟩:=bJ h;obtain⟨g,A0,hv,hN,hc,hR⟩:=eD h h1;have hm:A0≤maxLen:=by
  rename_i hv2 _ _;rw[hv2]at hv;cases hv
  exact A1
 refine⟨hb,g,A0,hv,hN,hc,hm,hR.congr fun j hj=>?_⟩;unfold clB;show _=Value.int .u8 ((r.getD j 0:Nat):Int);rw[c9R,c9S,c9R,c9F hj];rfl
theorem b6T{F:Nat→Value}(h:aZ w g t n F)(hm:m≤n):aZ w g t m F:=by
 obtain⟨k,F',hr,hk,hF⟩:=h;exact⟨k,F',hr,c9E hm hk,fun j hj=>hF j (c9P hj hm)⟩
theorem b6S{M:Nat}{s:Nat}(h:w.ownsRow N t s v n xs)(hM:M≤N):w.ownsRow M t s v n xs:=by
 obtain⟨hl,h⟩:=h;refine⟨hl,h.imp id ?_⟩;rintro⟨g,A0,A1,hv,hN,h⟩;exact⟨g,A0,A1,hv,c9E hM hN,h⟩
def OwJ(wo wr:World)(bl:List (Int×List Nat))(v:Value)(j:Nat):Prop:= ∃es:List HeC,wr.ownsRow wo.heap.size 61 2 v es.length (es.flatMap aJ)∧es.map kV=bl.take j∧(∀e,e∈es→eQ wr wo.heap.size (slV e.2.1) e.2.2)∧(∀(a b:Nat) (x x':HeC) (g:Nat),es[a]?=some x→es[b]?=some x'→(slV x.2.1).ownBlock=some g→(slV x'.2.1).ownBlock=some g→a=b)∧Bl wo wr
theorem OwJ.lt{bl:List (Int×List Nat)}(h:OwJ wo wr bl v j)(hb:v.ownBlock=some b):b<wr.heap.size:=by
 obtain⟨es,h1,_⟩:=h;exact(h1.lt b hb).2
theorem OwJ.bel{bl:List (Int×List Nat)}(h:OwJ wo wr bl v j):Bl wo wr:=by
 obtain⟨_,_,_,_,_,h5⟩:=h;exact h5
theorem OwJ.off{bl:List (Int×List Nat)}(h:OwJ wo wr bl v j)(hb:Bl wr wr'):OwJ wo wr' bl v j:=by
 obtain⟨es,h1,h2,h3,h4,h5⟩:=h;exact⟨es,aK h1 hb,h2,fun e he=>(h3 e he).bE hb,h4,bt h5 hb⟩
theorem OwJ.sE{bl:List (Int×List Nat)}(h:OwJ wo wr bl v j): ∃A n C,v=.slice A n C:=by
 obtain⟨es,h1,_⟩:=h;obtain⟨A,C,hv,_⟩:=bJ h1;exact⟨A,_,C,hv⟩
theorem OwJ.next{wA:World}{bl:List (Int×List Nat)}{x:Int×List Nat}{A:Option Addr}(h:OwJ wo wA bl v j)(hx:bl[j]?=some x)(hy:cU wo (.slice A m C) x.2)(h1:1≤x.2.length)(h2:x.2.length≤1000)(hj:j≤100):
  ∃A6 m6 C6 w6,(Builtin.append_ #[59,59] 59 #[.slice (some (aD wA.heap.size 0)) 0 0,.slice A m C]).run prog (wA.alloc (.cells #[] 5)).drew=.ok (.slice A6 m6 C6) w6∧Bl wA w6∧
   ∃v7 w7,(Builtin.append_ #[56,56] 56 #[v,.slice (some (aD w6.heap.size 0)) 1 1]).run prog (w6.alloc (.cells #[iV x.1,.slice A6 m6 C6] 61))=.ok v7 w7∧OwJ wo w7 bl v7 (j+1)∧Off (fun k=>v.ownBlock=some k) w6 w7:=by
 obtain⟨es,g1,g2,g3,g4,g5⟩:=h;have A5:es.length=min j bl.length:=by rw[←c9K,←g2,c9M]
 have bE:=(aB8 wA (.cells #[] 5)).drew;obtain⟨q1,q2,q3⟩:=b2C ((hy.bE g5).bE bE);have hE:(wA.alloc (.cells #[] 5)).drew.ownsRow wA.heap.size 5 1 (.slice (some (aD wA.heap.size 0)) 0 0) 0 []:=aK (World.ownsRow_made wA #[] 0 (c9C _) (by unfold maxLen;omega) rfl) (Below.refl _ _).drew
 obtain⟨v6,w6,r6,o6,k6,b6⟩:=wO 59 underlying59 Tryz.infoByte rfl (by decide) (by decide) hE A m C q2 (clB x.2) (by rw[d1X,q1];unfold clB;rw[c9M]) q3 (fun u hu=>by
  unfold clB at hu;obtain⟨_,_,rfl⟩:=d0G.1 hu
  rfl) (by omega) bE.size
 rw[c9G,d1C]at o6;have B6:Bl wA w6:=bE.trans (lA k6 (fun g hg=>by cases hg;exact c9C _) bE.size);have O6:eQ w6 wA.heap.size v6 x.2:=c5H o6 q1 (by omega) hy.1;obtain⟨A6,C6,A4,_⟩:=bJ o6;subst A4;refine⟨A6,m,C6,w6,r6,B6,?_⟩;have L6:=aK g1 B6;obtain⟨v7,w7,r7,o7,b7,f7⟩:=b9T L6 (x.1,(A6,m,C6),x.2) (c9E g5.size B6.size) (by omega);refine⟨v7,w7,r7,⟨es++[(x.1,(A6,m,C6),x.2)],o7,?_,fun e he=>?_,fun a b y y' g ha hb hy1 hy2=>?_,(bt g5 B6).trans b7⟩,f7⟩
 ·rw[c9U,g2,d1Y,hx];rfl
 ·have A0: ∀{u:Value} {t:List Nat} {M:Nat},eQ w6 M u t→eQ w7 M u t:=fun {u t M} hu=>hu.off f7 fun g hg s=>(hu.ty hg).ne (aU L6 s) (by decide) rfl;rcases List.mem_append.1 he with z|z
  ·exact A0 ((g3 e z).bE B6)
  ·rw[d1Z.1 z];exact A0 (O6.lower g5.size)
 ·have A3: ∀(i:Nat) (z:HeC),es[i]?=some z→ ∀g,(slV z.2.1).ownBlock=some g→g<wA.heap.size:=fun i z hz g hg=>((g3 z (c9N hz)).ty hg).lt;have A2: ∀g,(Value.slice A6 m C6).ownBlock=some g→wA.heap.size≤g:=fun g hg=>O6.ge hg;have A1: ∀(i:Nat) (z:HeC),(es++[(x.1,(A6,m,C6),x.2)])[i]?=some z→(i<es.length∧es[i]?=some z)∨(i=es.length∧z=(x.1,(A6,m,C6),x.2)):=fun i z hz=>by
   by_cases q:i<es.length
   ·rw[d0M q]at hz;exact Or.inl ⟨q,hz⟩
   ·rw[d0S (by omega)]at hz;have:i-es.length=0:=by
     have:=(c9H.1 hz).1;simp at this;omega
    rw[this]at hz;cases hz
    exact Or.inr ⟨by omega,rfl⟩
  rcases A1 a y ha with⟨_,c1⟩|⟨c1,rfl⟩
  ·rcases A1 b y' hb with⟨_,c2⟩|⟨_,rfl⟩
   ·exact g4 a b y y' g c1 c2 hy1 hy2
   ·have:=A3 a y c1 g hy1;have:=A2 g hy2;omega
  ·rcases A1 b y' hb with⟨_,c2⟩|⟨c2,rfl⟩
   ·have:=A3 b y' c2 g hy2;have:=A2 g hy1;omega
   ·rw[c1,c2]
structure OwI(w wr:World)(D:Nat)(V0:Nat→Value)(ds:List Sto.aM)(i:Nat):Prop where
 ok: ∃V U,dM wr w.heap.size D V U (ds.take i)∧aZ wr D 58 (ds.length*2) (dkF V ds)∧ ∀j,i≤j→V j=V0 j
theorem OwI.off{ds:List Sto.aM}(h:OwI w wr D V0 ds i)(hb:Bl wr wr'):OwI w wr' D V0 ds i:=by
 obtain⟨V,U,h1,h2,h3⟩:=h.ok;exact⟨V,U,h1.bE hb,h2.bE hb,h3⟩
theorem OwI.next{ds:List Sto.aM}{d:Sto.aM}(h:OwI w wo D V0 ds i)(hd:ds[i]?=some d)(hj:OwJ wo wr d.bl v d.bl.length)(hw:w.heap.size≤wo.heap.size):OwI w (wr.setCell (aD D (i*2+1)) v) D V0 ds (i+1):=by
 obtain⟨V,U,h1,h2,h3⟩:=h.ok;obtain⟨es,g1,g2,g3,g4,g5⟩:=hj;rw[d0L]at g2;have A9:i<ds.length:=(c9H.1 hd).1;have Aa:(ds.take i).length=i:=by rw[c9K];omega
 have A0:(ds.take (i+1)).length=i+1:=by rw[c9K];omega
 have h2:=h2.bE g5;have A8:D<wo.heap.size:=by
  obtain⟨V,U,_,h2,_⟩:=h.ok;exact h2.lt
 have A6:=(Off.oE g5).trans (aG wr (aD D (i*2+1)) v);have A1:=aG wr (aD D (i*2+1)) v;have A2:aZ (wr.setCell (aD D (i*2+1)) v) D 58 (ds.length*2) (dkF (upd V i v) ds):=by
  refine(h2.set (i*2+1) v).congr fun j hj=>?_;unfold dkF;by_cases e:j=i*2+1
  ·rw[if_pos e,if_neg (by omega),show j/2=i by omega,bM]
  ·rw[if_neg e];by_cases q:j%2=0
   ·rw[if_pos q,if_pos q]
   ·rw[if_neg q,if_neg q,aW _ _ (by omega)]
 have A5: ∀j g,j<i→(V j).ownBlock=some g→g<wo.heap.size:=fun j g hj hg=>((h1.own j (by omega)).lt g hg).2;have A4: ∀(j:Nat) (x:HeC) (g:Nat),j<i→x∈U j→(slV x.2.1).ownBlock=some g→g<wo.heap.size:=fun j x g hj hx hg=>((h1.byt j x (by omega) hx).ty hg).lt;have A3: ∀(x:HeC) (g:Nat),x∈es→(slV x.2.1).ownBlock=some g→wo.heap.size≤g:=fun x g hx hg=>(g3 x hx).ge hg;have tD:TyB wr D 58:=h2.ty;have A7:dM (wr.setCell (aD D (i*2+1)) v) w.heap.size D (upd V i v) (upd U i es) (ds.take (i+1)):=by
  refine⟨?_,h1.ge,fun j hj=>?_,fun j x hx=>?_,fun j x hj hx=>?_,fun j l g hj hl a1 a2=>?_,fun j l a b x x' g hj hl a1 a2 a3 a4=>?_⟩
  ·rw[A0];refine(b6T A2 (show(i+1)*2≤ds.length*2 by omega)).congr fun j hj=>?_;unfold dkF;by_cases q:j%2=0
   ·rw[if_pos q,if_pos q,c9R,c9R,d0C,if_pos (by omega)]
   ·rw[if_neg q,if_neg q]
  ·rw[A0]at hj;by_cases e:j=i
   ·subst e;rw[bM,bM];exact b6S (bC g1 A1 fun g hg s=>(aU g1 hg).ne tD (by decide) s) hw
   ·rw[aW _ _ e,aW _ _ e];exact bC (h1.own j (by omega)) A6 fun g hg s=>by
     subst s;exact(aU (h1.own j (by omega)) hg).ne h1.row.ty (by decide) rfl
  ·rw[d0C]at hx;by_cases e:j=i
   ·subst e;rw[if_pos (by omega),hd]at hx;cases hx
    rw[bM];exact g2.symm
   ·have hj:j<i:=by
     by_cases q:j<i+1
     ·omega
     ·rw[if_neg q]at hx;cases hx
    rw[if_pos (by omega)]at hx;rw[aW _ _ e];exact h1.bl j x (by rw[d0C,if_pos hj];exact hx)
  ·rw[A0]at hj;by_cases e:j=i
   ·subst e;rw[bM]at hx;exact((g3 x hx).off A1 fun g hg s=>by subst s;exact((g3 x hx).ty hg).ne tD (by decide) rfl).lower hw
   ·rw[aW _ _ e]at hx;have:=h1.byt j x (by omega) hx;exact this.off A6 fun g hg s=>by
     subst s;exact(this.ty hg).ne h1.row.ty (by decide) rfl
  ·rw[A0]at hj hl;by_cases e:j=i
   ·by_cases e2:l=i
    ·rw[e,e2]
    ·rw[e,bM]at a1;rw[aW _ _ e2]at a2;have:=A5 l g (by omega) a2;have:=(g1.lt g a1).1;omega
   ·by_cases e2:l=i
    ·rw[aW _ _ e]at a1;rw[e2,bM]at a2;have:=A5 j g (by omega) a1;have:=(g1.lt g a2).1;omega
    ·rw[aW _ _ e]at a1;rw[aW _ _ e2]at a2;exact h1.sepV j l g (by omega) (by omega) a1 a2
  ·rw[A0]at hj hl;by_cases e:j=i
   ·by_cases e2:l=i
    ·rw[e,bM]at a1;rw[e2,bM]at a2;exact⟨by omega,g4 a b x x' g a1 a2 a3 a4⟩
    ·rw[e,bM]at a1;rw[aW _ _ e2]at a2;have:=A4 l x' g (by omega) (c9N a2) a4;have:=A3 x g (c9N a1) a3;omega
   ·by_cases e2:l=i
    ·rw[aW _ _ e]at a1;rw[e2,bM]at a2;have:=A4 j x g (by omega) (c9N a1) a3;have:=A3 x' g (c9N a2) a4;omega
    ·rw[aW _ _ e]at a1;rw[aW _ _ e2]at a2;exact h1.sepU j l a b x x' g (by omega) (by omega) a1 a2 a3 a4
 exact⟨upd V i v,upd U i es,A7,A2,fun j hj=>by rw[aW _ _ (by omega)];exact h3 j (by omega)⟩
end Go.Proofs.YtmcaejooaaahdaaGreat
