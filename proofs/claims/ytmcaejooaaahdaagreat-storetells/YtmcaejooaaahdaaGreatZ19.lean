import Derived.Test.YtmcaejooaaahdaaGreatZ18
set_option maxHeartbeats 8000000
set_option maxRecDepth 100000
namespace Go.Proofs.YtmcaejooaaahdaaGreat
open Go.Proofs.Tryz
variable {D N R b cap g i j n o:Nat} {E F:Nat→Prop} {U:Nat→List HeC} {V:Nat→Value} {X:Sto.Six} {ds:List Sto.Disk} {s:Sto.St} {t t':TypeId} {v va vd vs vt:Value} {w w' w0:World} {xs:List Value}
open Go.RowKit
def yJ(e:Ending)(w w':World)(x:Nat):Prop:=e=.returned (.tuple #[.agg #[iV 0,iV 0,iV 0,nS,iV 0,nS,nS,iV 0,nS],nS,iV x])∧Bl w w'
theorem b9Y(d s b:Int)(A:Option Addr)(n C:Nat)(w:World)(x:Nat)(hx:x=cM d s b)(h0:x≠0):
  Calls prog 4 #[.agg #[iV d,iV s,iV b],.slice A n C] w fun e w'=>yJ e w w' x:=by
 have b2:Bl w ((w.alloc (.cells #[iV d,iV s,iV b] 23)).alloc (.cells #[iV 0,iV 0,iV 0,nS,iV 0,nS,nS,iV 0,nS] 32)):=(aB8 _ _).alloc (aB8 _ _).size _;have bB:=aB8 (w.alloc (.cells #[iV d,iV s,iV b] 23)) (.cells #[iV 0,iV 0,iV 0,nS,iV 0,nS,nS,iV 0,nS] 32);have VS:=(aC w #[iV d,iV s,iV b] 23).below bB;have VT:=aC (w.alloc (.cells #[iV d,iV s,iV b] 23)) #[iV 0,iV 0,iV 0,nS,iV 0,nS,nS,iV 0,nS] 32;rw[show(w.alloc (.cells #[iV d,iV s,iV b] 23)).heap.size=w.heap.size+1 by simp]at VT;have HW:=iJ d s b ((w.alloc (.cells #[iV d,iV s,iV b] 23)).alloc (.cells #[iV 0,iV 0,iV 0,nS,iV 0,nS,nS,iV 0,nS] 32));rw[←hx]at HW;have A5:((x:Int) !=0)=true:=by rw[bne_iff_ne];omega
 clear hx h0;clear bB;go_enter func4,ntmps4
 go_upto_region 1 with fail
 generalize (w.alloc (.cells #[iV d,iV s,iV b] 23)).alloc (.cells #[iV 0,iV 0,iV 0,nS,iV 0,nS,nS,iV 0,nS] 32)=w2 at*;have s0:=VS.q0;have s1:=VS.q1;have s2:=VS.q2;have A4:=hd8 VT;have A2:=hd8 b2;clear VS VT b2;go_wp2_with fail;refine HW.mono ?_;rintro e w3 ⟨rfl,A1⟩;have A0:=A4.out.below A1;have A3:Hid (∀w',Off (fun k=>k=w.heap.size+1) w3 w'→Bl w w'):=fun w' ho=>(bt A2.out A1).trans (ho.below (bt A2.out A1).size fun k e=>by omega);have b0:=A0.q0;have b1:=A0.q1;have b2:=A0.q2;have b3:=A0.q3;have b4:=A0.q4;have b5:=A0.q5;have b6:=A0.q6;have b7:=A0.q7;have b8:=A0.q8;have f0:=A0.frozen 0;have f1:=A0.frozen 1;have f2:=A0.frozen 2;have f3:=A0.frozen 3;have f4:=A0.frozen 4;have f5:=A0.frozen 5;have f6:=A0.frozen 6;have f7:=A0.frozen 7;have f8:=A0.frozen 8;clear A0 A1 s0 s1 s2 HW;go_wp2_with fail;refine bodyPost_ret (v:=.tuple #[.agg #[iV 0,iV 0,iV 0,nS,iV 0,nS,nS,iV 0,nS],nS,iV x]) (by simp[results,results4,go_sem,b0,b1,b2,b3,b4,b5,b6,b7,b8]) rfl ⟨rfl,?_⟩;exact A3.out _ (fC _ _ _ _ _ _ _ _ _ _ _)
theorem b7Y(d s b:Int)(A:Option Addr)(n C:Nat)(w:World)(hx:cM d s b=0)(h80:80<n):
  Calls prog 4 #[.agg #[iV d,iV s,iV b],.slice A n C] w fun e w'=>yJ e w w' 5:=by
 have b2:Bl w ((w.alloc (.cells #[iV d,iV s,iV b] 23)).alloc (.cells #[iV 0,iV 0,iV 0,nS,iV 0,nS,nS,iV 0,nS] 32)):=(aB8 _ _).alloc (aB8 _ _).size _;have bB:=aB8 (w.alloc (.cells #[iV d,iV s,iV b] 23)) (.cells #[iV 0,iV 0,iV 0,nS,iV 0,nS,nS,iV 0,nS] 32);have VS:=(aC w #[iV d,iV s,iV b] 23).below bB;have VT:=aC (w.alloc (.cells #[iV d,iV s,iV b] 23)) #[iV 0,iV 0,iV 0,nS,iV 0,nS,nS,iV 0,nS] 32;rw[show(w.alloc (.cells #[iV d,iV s,iV b] 23)).heap.size=w.heap.size+1 by simp]at VT;have HW:=iJ d s b ((w.alloc (.cells #[iV d,iV s,iV b] 23)).alloc (.cells #[iV 0,iV 0,iV 0,nS,iV 0,nS,nS,iV 0,nS] 32));rw[hx]at HW;have hn:(80:Int)<(n:Int):=by omega
 have A5:=decide_eq_true hn;clear hx h80;clear bB;go_enter func4,ntmps4
 go_upto_region 1 with fail
 generalize (w.alloc (.cells #[iV d,iV s,iV b] 23)).alloc (.cells #[iV 0,iV 0,iV 0,nS,iV 0,nS,nS,iV 0,nS] 32)=w2 at*;have s0:=VS.q0;have s1:=VS.q1;have s2:=VS.q2;have A4:=hd8 VT;have A2:=hd8 b2;clear VS VT b2;go_wp2_with fail;refine HW.mono ?_;rintro e w3 ⟨rfl,A1⟩;have A0:=A4.out.below A1;have A3:Hid (∀w',Off (fun k=>k=w.heap.size+1) w3 w'→Bl w w'):=fun w' ho=>(bt A2.out A1).trans (ho.below (bt A2.out A1).size fun k e=>by omega);have b0:=A0.q0;have b1:=A0.q1;have b2:=A0.q2;have b3:=A0.q3;have b4:=A0.q4;have b5:=A0.q5;have b6:=A0.q6;have b7:=A0.q7;have b8:=A0.q8;have f0:=A0.frozen 0;have f1:=A0.frozen 1;have f2:=A0.frozen 2;have f3:=A0.frozen 3;have f4:=A0.frozen 4;have f5:=A0.frozen 5;have f6:=A0.frozen 6;have f7:=A0.frozen 7;have f8:=A0.frozen 8;clear A0 A1 s0 s1 s2 HW;go_wp2_with fail;refine bodyPost_ret (v:=.tuple #[.agg #[iV 0,iV 0,iV 0,nS,iV 0,nS,nS,iV 0,nS],nS,iV 5]) (by simp[results,results4,go_sem,b0,b1,b2,b3,b4,b5,b6,b7,b8]) rfl ⟨rfl,?_⟩;exact A3.out _ (fC _ _ _ _ _ _ _ _ _ _ _)
theorem bI{z:Nat}(h:w.ownsRow N t z v n xs): ∃A C,v=.slice A n C∧n≤C∧C≤maxLen∧(1≤n→ ∃g,A=some (aD g 0)):=by
 rcases h.2 with⟨rfl,h0⟩|⟨g,A0,A1,rfl,_,_,h1,h2,_⟩
 ·subst h0;exact⟨none,0,rfl,c9C _,c9D _,fun h=>absurd h (by decide)⟩
 ·exact⟨_,A0,rfl,h1,h2,fun _=>⟨g,rfl⟩⟩
theorem iI{α:Type}{f:α→List Value}{z:Nat}{es:List α}(h:w.ownsRow N t z v n (es.flatMap f))(hf: ∀a,a∈es→(f a).length=z)(hg:v.ownBlock=some g){a:α}{u:Value}(ha:es[i]?=some a)(hj:(f a)[j]?=some u):w.cell? (aD g (i*z+j))=some u:=by
 have A0:j<z:=by
  have:=(c9H.1 hj).1;rw[hf a (c9N ha)]at this;exact this
 have:=h.cells hg (i*z+j) u ((dQ f z es hf i j A0 a ha).trans hj);rw[WideShapes.add_plain,c9G]at this;exact this
def Nms(w:World)(v:Value)(l:List Int):Prop:= ∃A cap,v=.slice A l.length cap∧l.length≤cap∧cap≤maxLen∧ ∀i x,l[i]?=some x→ ∃b o,A=some (aD b o)∧w.cell? (aD b (o+i))=some (iV x)
theorem Nms.below{l:List Int}(h:Nms w v l)(hb:Bl w w'):Nms w' v l:=by
 obtain⟨A,A0,hv,h1,h2,h3⟩:=h;refine⟨A,A0,hv,h1,h2,fun i e he=>?_⟩;obtain⟨b,o,hA,hi⟩:=h3 i e he;exact⟨b,o,hA,cB8 hb hi⟩
theorem b3D{l:List Int}(h:w.ownsRow N 3 1 v l.length (l.flatMap aE)):Nms w v l:=by
 obtain⟨A,C,rfl,h1,h2,h3⟩:=bI h;refine⟨A,C,rfl,h1,h2,fun i x hx=>?_⟩;obtain⟨g,rfl⟩:=h3 (by have:=(c9H.1 hx).1;omega);have:=iI (f:=aE) h (fun _ _=>rfl) (g:=g) rfl (j:=0) hx rfl;exact⟨g,0,rfl,by simpa using this⟩
def c5H(w:World)(b o:Nat)(h:Int×List Nat):Prop:= ∃v,w.cell? (aD b o)=some (iV h.1)∧w.cell? (aD b (o+1))=some v∧cW w v h.2
theorem c5H.below{x:Int×List Nat}(h:c5H w b o x)(hb:Bl w w'):c5H w' b o x:=by
 obtain⟨v,c0,c1,he⟩:=h;have hp:b<w.heap.size:=World.block_lt_of_cell? _ _ c0;exact⟨v,(hb.cell (p:=⟨b,o,none⟩) hp).trans c0,(hb.cell (p:=⟨b,o+1,none⟩) hp).trans c1,he.below hb⟩
def Hes(w:World)(v:Value)(l:List (Int×List Nat)):Prop:= ∃A cap,v=.slice A l.length cap∧l.length≤cap∧cap≤maxLen∧ ∀i x,l[i]?=some x→ ∃b o,A=some (aD b o)∧c5H w b (o+i*2) x
theorem Hes.below{l:List (Int×List Nat)}(h:Hes w v l)(hb:Bl w w'):Hes w' v l:=by
 obtain⟨A,A0,hv,h1,h2,h3⟩:=h;refine⟨A,A0,hv,h1,h2,fun i e he=>?_⟩;obtain⟨b,o,hA,hi⟩:=h3 i e he;exact⟨b,o,hA,hi.below hb⟩
def c5M(w:World)(b o:Nat)(d:Sto.aL):Prop:= ∃v,w.cell? (aD b o)=some (.bool d.gone)∧w.cell? (aD b (o+1))=some v∧Hes w v d.bl
theorem c5M.below{x:Sto.aL}(h:c5M w b o x)(hb:Bl w w'):c5M w' b o x:=by
 obtain⟨v,c0,c1,he⟩:=h;have hp:b<w.heap.size:=World.block_lt_of_cell? _ _ c0;exact⟨v,(hb.cell (p:=⟨b,o,none⟩) hp).trans c0,(hb.cell (p:=⟨b,o+1,none⟩) hp).trans c1,he.below hb⟩
def Dks(w:World)(v:Value)(l:List Sto.aL):Prop:= ∃A cap,v=.slice A l.length cap∧l.length≤cap∧cap≤maxLen∧ ∀i x,l[i]?=some x→ ∃b o,A=some (aD b o)∧c5M w b (o+i*2) x
theorem Dks.below{l:List Sto.aL}(h:Dks w v l)(hb:Bl w w'):Dks w' v l:=by
 obtain⟨A,A0,hv,h1,h2,h3⟩:=h;refine⟨A,A0,hv,h1,h2,fun i e he=>?_⟩;obtain⟨b,o,hA,hi⟩:=h3 i e he;exact⟨b,o,hA,hi.below hb⟩
theorem eU.nil8(w:World):eU w nS []:=⟨none,0,rfl,c9C _,c9D _,fun _ _ he=>(by cases he)⟩
theorem c5Y(h:dM w N D V U ds)(hl:ds.length≤100):Dks w (.slice (some (aD D 0)) ds.length ds.length) ds:=by
 refine⟨_,_,rfl,c9C _,by unfold maxLen;omega,fun i d hd=>⟨D,0,rfl,V i,?_,?_,?_⟩⟩
 ·have hi:=(c9H.1 hd).1;have:=h.row.cell (j:=i*2) (by omega);rw[c9G,this];unfold dkF;rw[if_pos (by omega),Nat.mul_div_cancel _ (by decide),c9R,hd];rfl
 ·have hi:=(c9H.1 hd).1;have:=h.row.cell (j:=i*2+1) (by omega);rw[c9G,this];unfold dkF;rw[if_neg (by omega),show(i*2+1)/2=i by omega]
 ·have hi:=(c9H.1 hd).1;have ho:=h.own i hi;have hb:=h.bl i d hd;obtain⟨A,C,hv,h1,h2,h3⟩:=bI ho;refine⟨A,C,by rw[hb,c9M];exact hv,by rw[hb,c9M];exact h1,h2,fun k x hx=>?_⟩;rw[hb,c9S]at hx;obtain⟨q,hq,rfl⟩:=c9J.1 hx;obtain⟨g,rfl⟩:=h3 (by have:=(c9H.1 hq).1;omega);have hg:(V i).ownBlock=some g:=by rw[hv];rfl
  refine⟨g,0,rfl,slV q.2.1,?_,?_,(h.byt i q hi (c9N hq)).bytL⟩
  ·have:=iI (f:=aI) ho (fun _ _=>rfl) hg (j:=0) hq rfl;rw[c9G];exact this
  ·have:=iI (f:=aI) ho (fun _ _=>rfl) hg (j:=1) hq rfl;rw[c9G];exact this
theorem c2Z{tc:List (Int×Sl)}{l:List Evt.Bat}(h:a0J w N E vt tc l):eU w vt l:=by
 obtain⟨A,C,hv,h1,h2,h3⟩:=bI h.own;refine⟨A,C,hv,h1,h2,fun i x hx=>?_⟩;have hi:=(c9H.1 hx).1;obtain⟨q,hq⟩: ∃q,tc[i]?=some q:=⟨tc[i]'(by rw[h.len];exact hi),c9F _⟩;obtain⟨g,rfl⟩:=h3 (by omega);have hg:vt.ownBlock=some g:=by rw[hv];rfl
 obtain⟨e1,e2⟩:=h.evs i q x hq hx;refine⟨g,0,rfl,slV q.2,?_,?_,e2.1⟩
 ·have:=iI (f:=wY) h.own (fun _ _=>rfl) hg (j:=0) hq rfl;rw[c9G,e1];exact this
 ·have:=iI (f:=wY) h.own (fun _ _=>rfl) hg (j:=1) hq rfl;rw[c9G];exact this
structure jT(w:World)(vd vt vs va:Value)(s:Sto.St):Prop where
 dk:Dks w vd s.disks
 tl:eU w vt s.tail
 sn:Nms w vs s.seen
 ac:bJ w va s.acc
theorem jT.below(h:jT w vd vt vs va s)(hb:Bl w w'):jT w' vd vt vs va s:=⟨h.dk.below hb,h.tl.below hb,h.sn.below hb,h.ac.below hb⟩
theorem StP.read{c:Sto.Cfg}{tc:List (Int×Sl)}(h:StP w N R F E c s D V U vt vs va tc):jT w (.slice (some (aD D 0)) s.disks.length s.disks.length) vt vs va s:=
 ⟨c5Y h.dk (by have:=h.wf.len;have:=h.wf.d8;have:=h.wf.s4;omega),c2Z h.tail,b3D h.seen,h.acc.1⟩
def AnIn(w:World)(b o:Nat)(a:Sto.Ans):Prop:= ∃ve va,w.cell? (aD b o)=some (iV a.err)∧w.cell? (aD b (o+1))=some (iV a.n)∧w.cell? (aD b (o+2))=some ve∧w.cell? (aD b (o+3))=some (iV a.vu)∧w.cell? (aD b (o+4))=some va∧Evs w ve a.evs∧bJ w va a.vl
def b6E(w:World)(v:Value)(l:List Sto.Ans):Prop:= ∃A cap,v=.slice A l.length cap∧l.length≤cap∧cap≤maxLen∧ ∀i a,l[i]?=some a→ ∃b o,A=some (aD b o)∧AnIn w b (o+i*5) a
theorem gG.read{qs:List AnC}{al:List Sto.Ans}(h:gG w N F v qs al):b6E w v al:=by
 obtain⟨A,C,hv,h1,h2,h3⟩:=bI h.own;have hl:=h.len;refine⟨A,C,by rw[←hl];exact hv,by omega,h2,fun i a ha=>?_⟩;have hi:=(c9H.1 ha).1;obtain⟨q,hq⟩: ∃q,qs[i]?=some q:=⟨qs[i]'(by omega),c9F _⟩;obtain⟨g,rfl⟩:=h3 (by omega);have hg:v.ownBlock=some g:=by rw[hv];rfl
 obtain⟨ve,va,A2,A1,A3⟩:=h.ans i q a hq ha;have A0:=congrArg Array.toList (Value.agg.inj A2);have hc: ∀j u,(dA q)[j]?=some u→w.cell? (aD g (0+i*5+j))=some u:=fun j u hj=>by
  have:=iI (f:=dA) h.own (fun _ _=>rfl) hg hq hj;rw[c9G];exact this
 exact⟨g,0,rfl,ve,va,hc 0 _ (by rw[A0];rfl),hc 1 _ (by rw[A0];rfl),hc 2 _ (by rw[A0];rfl),hc 3 _ (by rw[A0];rfl),hc 4 _ (by rw[A0];rfl),A1.1,A3.1⟩
theorem Dos.below{l:List Sto.Do}(h:Dos w v l)(hb:Bl w w'):Dos w' v l:=by
 obtain⟨A,A0,hv,h1,h2,h3⟩:=h;refine⟨A,A0,hv,h1,h2,fun i e he=>?_⟩;obtain⟨b,o,hA,hi⟩:=h3 i e he;exact⟨b,o,hA,hi.below rfl hb⟩
def c6J(e:Ending)(w w':World)(c:Sto.Cfg)(r:Sto.St×List Sto.Ans):Prop:= ∃vd vt vs va vr,e=.returned (.tuple #[.agg #[iV c.d,iV c.s,iV c.b,vd,iV r.1.segs,vt,vs,iV r.1.u,va],vr,iV 0])∧jT w' vd vt vs va r.1∧b6E w' vr r.2∧Bl w w'∧ ∀w'',Off (fun k=>k<w.heap.size) w' w''→jT w'' vd vt vs va r.1∧b6E w'' vr r.2
theorem gG.far{qs:List AnC}{al:List Sto.Ans}(h:gG w N F v qs al)(ho:Off (fun k=>k<N) w w'):gG w' N F v qs al:=
 ⟨bC h.own ho fun g hg z=>absurd (h.own.lt g hg).1 (Nat.not_le.2 z),h.len,fun i q a hq ha=>(h.ans i q a hq ha).move (fun k hk z=>ho.block k hk (Nat.not_lt.2 z.2.2.2)) fun _ hk z=>⟨z.1,c9P hk ho.size,z.2.2⟩⟩
theorem b2Y.read{e:Ending}{c:Sto.Cfg}{l:List Sto.Do}(h:b2Y e w w' X c l):c6J e w w' c (Sto.aX X c (Sto.start c) l):=by
 obtain⟨N,R,F,E,D,V,U,vt,vs,va,tc,vr,qs,rfl,hS,hA,hb,rfl,hE⟩:=h;exact⟨_,vt,vs,va,vr,rfl,hS.read,hA.read,hb,fun w'' ho=>⟨(hS.out ho fun k z=>⟨fun y=>absurd (hS.lt k y).1 (Nat.not_le.2 z),fun y=>absurd (hE k y) (Nat.not_le.2 z)⟩).read,(hA.far ho).read⟩⟩
theorem c8W(hX:Sto.dE X)(c:Sto.Cfg)(d s b:Int)(hd:d=(c.d:Int))(hs:s=(c.s:Int))(hb:b=(c.b:Int))(h1:1≤c.d)(h2:c.d≤8)(h3:c.s≤4)(h4:1≤c.b)(h5:c.b≤10)(v:Value)(l:List Sto.Do)(w:World)(hD:Dos w v l)(hl:l.length≤80):
  Calls prog 4 #[.agg #[iV d,iV s,iV b],v] w fun e w'=>c6J e w w' c (Sto.aX X c (Sto.start c) l):=by
 subst hd hs hb;exact(c4W hX c h1 h2 h3 h4 h5 v l w hD hl).mono fun e w' h=>h.read
theorem c0A{d s b:Int}(h:cM d s b=0): ∃c:Sto.Cfg,d=(c.d:Int)∧s=(c.s:Int)∧b=(c.b:Int)∧1≤c.d∧c.d≤8∧c.s≤4∧1≤c.b∧c.b≤10:=by
 have:=b6K h;exact⟨⟨d.toNat,s.toNat,b.toNat⟩,by show d=(d.toNat:Int);omega,by show s=(s.toNat:Int);omega,by show b=(b.toNat:Int);omega,by show 1≤d.toNat;omega,by show d.toNat≤8;omega,by show s.toNat≤4;omega,by show 1≤b.toNat;omega,by show b.toNat≤10;omega⟩
theorem tC(u u':Int)(v v':Value)(l l':List Vw.Acc)(w:World)(h:bJ w v l)(h':bJ w v' l'):
  Calls prog 15 #[.agg #[iV u,v],.agg #[iV u',v']] w fun e w'=>qW e (u=u'∧l=l')∧Bl w w':=by
 have Ah:=h.len;obtain⟨A,C,rfl,_,_,ha⟩:=h;obtain⟨A',C',rfl,_,_,A9⟩:=h';have Ag:prog.eqGuardType prog.depth 93=false:=by kernel_rfl
 have h1:=aB8 w (.cells #[iV u,.slice A l.length C] 30);have h2:=h1.alloc h1.size (.cells #[iV u',.slice A' l'.length C'] 30);have Ac:=aB8 (w.alloc (.cells #[iV u,.slice A l.length C] 30)) (.cells #[iV u',.slice A' l'.length C'] 30);have VV:=(aO w 30 (iV u) (.slice A l.length C)).below Ac;have VW:=aO (w.alloc (.cells #[iV u,.slice A l.length C] 30)) 30 (iV u') (.slice A' l'.length C');have z1:(w.alloc (.cells #[iV u,.slice A l.length C] 30)).heap.size=w.heap.size+1:=by simp
 rw[z1]at VW;clear z1 Ac h1;have HA:=hd8 ha;have Ad:=hd8 A9;clear ha A9;obtain⟨c0,c1,_⟩:=VV;obtain⟨d0,d1,_⟩:=VW;by_cases q0:u=u'
 case neg=>
  have H:=hd8 fun q=>q0 q.1;have q1:(u !=u')=true:=by rw[bne_iff_ne];exact q0
  clear q0;go_enter func15,ntmps15
  go_wp2_with fail;go_ret
  exact⟨cV H.out,h2⟩
 have q1:(u !=u')=false:=by rw[bne_eq_false_iff_eq];exact q0
 have HU:=hd8 q0;clear q0;by_cases q2:l.length=l'.length
 case neg=>
  have H:Hid (¬(u=u'∧l=l')):=fun q=>q2 (by rw[q.2]);have q3:((l.length:Int) !=(l'.length:Int))=true:=by rw[bne_iff_ne];omega
  clear q2;go_enter func15,ntmps15
  go_wp2_with fail;go_ret
  exact⟨cV H.out,h2⟩
 have HL:=hd8 q2;have q3:((l.length:Int) !=(l'.length:Int))=false:=by rw[bne_eq_false_iff_eq];omega
 have A6:l'.length=l.length:=q2.symm;rw[A6]at d1 q3 h2 c0 c1 d0;rw[A6];clear q2 A6;go_enter func15,ntmps15
 go_wp2_with fail;generalize (w.alloc (.cells #[iV u,.slice A l.length C] 30)).alloc (.cells #[iV u',.slice A' l.length C'] 30)=W0 at h2 c0 c1 d0 d1⊢;go_loopw [23] (fun x wr=> ∃k:Nat,k≤l.length∧x=iV k∧Hid (∀j,j<k→l[j]?=l'[j]?)∧Hid (∃m,wr=W0.drewN m)) (fun x _=>l.length-(intOf x).toNat)
 case atStart=>exact⟨0,c9D _,rfl,fun j hj=>absurd hj (c9L j),⟨0,rfl⟩⟩
 case round=>
  obtain⟨k,hk,rfl,HS,HM⟩:=hrel;have A1:Bl W0 wr:=by
   obtain⟨m,e⟩:=HM.out;rw[e];exact dP W0 m
  have c1:=cB8 A1 c1;have d1:=cB8 A1 d1;by_cases Ae:k<l.length
  ·have Af:(k:Int)<(l.length:Int):=by omega
   obtain⟨a,A7⟩: ∃a,l[k]?=some a:=⟨l[k],c9F Ae⟩;obtain⟨a',A0⟩: ∃a,l'[k]?=some a:=⟨l'[k]'(by have:=HL.out;omega),c9F (by have:=HL.out;omega)⟩;obtain⟨b,o,rfl,Aa⟩:=HA.out k a A7;obtain⟨b',o',rfl,A2⟩:=Ad.out k a' A0;obtain⟨s,Ab,A8,x0,x1,x2,x3⟩:=Aa.below (bt h2 A1);obtain⟨s',A4,A3,y0,y1,y2,y3⟩:=A2.below (bt h2 A1);obtain⟨y,hy,_,hq⟩:=c7R ⟨s,Ab,A8,rfl⟩ ⟨s',A4,A3,rfl⟩;have HE:Hid (l[k]?=some a∧l'[k]?=some a'):=⟨A7,A0⟩;have HY:=hd8 hy;clear A7 A0 Aa A2 A8 A3 Ab A4 hy;cases y with
   |true=>
    have HR:=hd8 (HY.out.1 rfl);clear HY;go_wp2_with fail;go_quiet (fail)
    go_wp2_with fail;refine⟨⟨k+1,by omega,by go_num,fun j hj=>?_,sK HM.out _⟩,by simp[intOf];omega⟩;by_cases e:j=k
    ·rw[e,HE.out.1,HE.out.2,HR.out]
    ·exact HS.out j (by omega)
   |false=>
    have HN:Hid (¬(u=u'∧l=l')):=fun q=>by
     have h1:=HE.out.1;rw[q.2,HE.out.2,Option.some.injEq]at h1;exact absurd (HY.out.2 h1.symm) (by decide)
    clear HY;go_wp2_with fail;go_quiet (fail)
    go_wp2_with fail;go_ret
    exact⟨cV HN.out,bdn (bt h2 A1) _⟩
  ·obtain rfl:k=l.length:=by omega
   have A5:Hid (u=u'∧l=l'):=⟨HU.out,rA HL.out (fun j hj=>HS.out j hj)⟩;go_wp2_with fail;go_ret
   exact⟨gL A5.out,bt h2 A1⟩
theorem b1U(a b c:Int)(w:World):(binOp .neq 23 (.agg #[iV a,iV b,iV c]) (.agg #[iV a,iV b,iV c])).run prog w=.ok (.bool false) w:=by
 have u3:=underlying3;have a3:=Tryz.isAgg3;have z3:=Tryz.sizeOf3;have hS:prog.underlying 23=some (.struct (prog.fieldsOf 23)):=by kernel_rfl
 have hp:prog.stoodInHeld 23=false:=by kernel_rfl
 rw[run_neq_struct,show(10000:Nat)=9999+1 from rfl,run_equalIn_agg w 9999 23 _ _ hS hp];simp only[Program.fieldsOf,underlying23];go_simp
theorem qW.yes{e:Ending}{P:Prop}(h:qW e P)(hp:P):e=.returned (.bool true):=by
 obtain⟨y,rfl,hy⟩:=h;rw[hy.2 hp]
theorem a8I{p q c d:Value}:aW ((w0.alloc (.cells #[p,q] t)).alloc (.cells #[c,d] t')) w0.heap.size t [p,q]∧aW ((w0.alloc (.cells #[p,q] t)).alloc (.cells #[c,d] t')) (w0.heap.size+1) t' [c,d]∧Bl w0 ((w0.alloc (.cells #[p,q] t)).alloc (.cells #[c,d] t')):=by
 have b1:=aB8 w0 (.cells #[p,q] t);have V:=aC (w0.alloc (.cells #[p,q] t)) #[c,d] t';rw[show(w0.alloc (.cells #[p,q] t)).heap.size=w0.heap.size+1 by simp]at V;exact⟨(aC w0 #[p,q] t).below (aB8 _ _),V,b1.alloc b1.size _⟩
theorem b9H(x y z g u:Int)(vd vt vs va vd' vt' vs' va':Value)(s:Sto.St)(w:World)(h:jT w vd vt vs va s)(h':jT w vd' vt' vs' va' s):
  Calls prog 8 #[.agg #[iV x,iV y,iV z,vd,iV g,vt,vs,iV u,va],.agg #[iV x,iV y,iV z,vd',iV g,vt',vs',iV u,va']] w fun e w'=>e=.returned (.bool true)∧Bl w w':=by
 have By:=b1U x y z
 have HT:Hid (∀w',Bl w w'→Calls prog 14 #[vt,vt'] w' fun e w2=>e=.returned (.bool true)∧Bl w' w2):=fun w' hb=>(a9D vt vt' s.tail s.tail w' (h.tl.below hb) (h'.tl.below hb)).mono fun e w2 q=>⟨q.1.yes rfl,by
  obtain⟨m,rfl⟩:=q.2
  exact dP w' m⟩
 have HV:=hd8 fun w' hb=>(tC u u va va' s.acc s.acc w' (h.ac.below hb) (h'.ac.below hb)).mono fun e w2 q=>⟨q.1.yes ⟨rfl,rfl⟩,q.2⟩;obtain⟨⟨Ad,Cd,rfl,Bx,B7,hd⟩,ht,⟨As,Cs,rfl,Bu,Bc,hs⟩,ha⟩:=h;obtain⟨⟨Bd,Ed,rfl,Bw,Ba,kd⟩,B8,⟨Bs,Es,rfl,C7,B9,ks⟩,Bo⟩:=h';obtain⟨At,Ct,rfl⟩:=ht.shape;obtain⟨Ao,Aw,rfl⟩:=B8.shape;obtain⟨Aa,Ca,rfl⟩:=ha.shape;obtain⟨Aq,Ap,rfl⟩:=Bo.shape;have HD:=hd8 hd;have KD:=hd8 kd;have HS:=hd8 hs;have KS:=hd8 ks;have B7:=mL8 B7;have Bc:=mL8 Bc;have Ba:=mL8 Ba;have B9:=mL8 B9;clear ht B8 ha Bo hd kd hs ks;obtain⟨nd,An⟩: ∃n,n=s.disks.length:=⟨_,rfl⟩;obtain⟨ns,Az⟩: ∃n,n=s.seen.length:=⟨_,rfl⟩;obtain⟨nt,Bj⟩: ∃n,n=s.tail.length:=⟨_,rfl⟩;obtain⟨na,B6⟩: ∃n,n=s.acc.length:=⟨_,rfl⟩;rw[←An]at Bx Bw⊢;rw[←Az]at Bu C7⊢;rw[←Bj]at HT⊢;rw[←B6]at HV⊢;have Bv:=hd8 An;have Bz:=hd8 Az;clear An Az Bj B6;have b1:=aB8 w (.cells #[iV x,iV y,iV z,.slice Ad nd Cd,iV g,.slice At nt Ct,.slice As ns Cs,iV u,.slice Aa na Ca] 32);have b2:=aB8 (w.alloc (.cells #[iV x,iV y,iV z,.slice Ad nd Cd,iV g,.slice At nt Ct,.slice As ns Cs,iV u,.slice Aa na Ca] 32)) (.cells #[iV x,iV y,iV z,.slice Bd nd Ed,iV g,.slice Ao nt Aw,.slice Bs ns Es,iV u,.slice Aq na Ap] 32);have VA:=(aC w #[iV x,iV y,iV z,.slice Ad nd Cd,iV g,.slice At nt Ct,.slice As ns Cs,iV u,.slice Aa na Ca] 32).below b2;have VB:=aC (w.alloc (.cells #[iV x,iV y,iV z,.slice Ad nd Cd,iV g,.slice At nt Ct,.slice As ns Cs,iV u,.slice Aa na Ca] 32)) #[iV x,iV y,iV z,.slice Bd nd Ed,iV g,.slice Ao nt Aw,.slice Bs ns Es,iV u,.slice Aq na Ap] 32;rw[show(w.alloc (.cells #[iV x,iV y,iV z,.slice Ad nd Cd,iV g,.slice At nt Ct,.slice As ns Cs,iV u,.slice Aa na Ca] 32)).heap.size=w.heap.size+1 by simp]at VB;have b2:=bt b1 b2;go_enter func8,ntmps8
 go_upto_region 1 with fail
 generalize (w.alloc (.cells #[iV x,iV y,iV z,.slice Ad nd Cd,iV g,.slice At nt Ct,.slice As ns Cs,iV u,.slice Aa na Ca] 32)).alloc (.cells #[iV x,iV y,iV z,.slice Bd nd Ed,iV g,.slice Ao nt Aw,.slice Bs ns Es,iV u,.slice Aq na Ap] 32)=w2 at*;have Be:=HT.out w2 b2;have Ai:=hd8 VA;have Ak:=hd8 VB;have a0:=VA.q0;have a1:=VA.q1;have a2:=VA.q2;have a3:=VA.q3;have a4:=VA.q4;have a5:=VA.q5;have a6:=VA.q6;have d0:=VB.q0;have d1:=VB.q1;have d2:=VB.q2;have d3:=VB.q3;have d4:=VB.q4;have d5:=VB.q5;have d6:=VB.q6;clear VA VB b1;go_wp2_with fail;refine Be.mono ?_;rintro e w3 ⟨rfl,b3⟩;clear a0 a1 a2 a3 a4 a5 a6 d0 d1 d2 d3 d4 d5 d6 Be By;have Av:=bt b2 b3;have Bh:=HV.out w3 Av;have a7:=(Ai.out.below b3).q7;have a8:=(Ai.out.below b3).q8;have d7:=(Ak.out.below b3).q7;have d8:=(Ak.out.below b3).q8;go_wp2_with fail;refine Bh.mono ?_;rintro e w4 ⟨rfl,b4⟩;have Au:=bt b3 b4;have Am:=bt Av b4;have A5:=hd8 (Ai.out.below Au);have A9:=hd8 (Ak.out.below Au);clear a7 a8 d7 d8 Bh HT HV Ai Ak b3 b4 Au Av b2;have a6:=A5.out.q6;go_wp2_with fail;clear a6;go_loopw [59] (fun x wr=> ∃k:Nat,k≤ns∧x=iV k∧Bl w4 wr) (fun x _=>ns-(intOf x).toNat)
 case atStart=>exact⟨0,c9D _,rfl,Below.refl _ _⟩
 case round=>
  obtain⟨k,hk,rfl,A6⟩:=hrel;by_cases Ay:k<ns
  ·have Ar:(k:Int)<(ns:Int):=by omega
   obtain⟨q,hq⟩: ∃q,s.seen[k]?=some q:=⟨s.seen[k]'(by rw[←Bz.out];exact Ay),c9F _⟩;obtain⟨b,o,rfl,r0⟩:=HS.out k q hq;obtain⟨b',o',rfl,A8⟩:=KS.out k q hq;have br:=bt Am A6;have e0:=cB8 br r0;have A7:=cB8 br A8;have a6:=(A5.out.below A6).q6;have d6:=(A9.out.below A6).q6;have C8:(q !=q)=false:=by simp
   clear r0 A8 hq;go_wp2_with fail;go_quiet (fail)
   go_wp2_with fail;exact⟨⟨k+1,by omega,by go_num,bdn A6 _⟩,by simp[intOf];omega⟩
  ·obtain rfl:k=ns:=by omega
   have br:=bt Am A6;obtain⟨w5,Bm⟩: ∃y,y=wr:=⟨wr,rfl⟩;rw[←Bm]at A6 br⊢;clear Bm;have Ab:=hd8 (A5.out.below A6);have Ag:=hd8 (A9.out.below A6);have a3:=Ab.out.q3;clear A5 A9 HS KS Am A6;go_wp2_with fail;clear a3;go_loopw [77] (fun x wi=> ∃i:Nat,i≤nd∧x=iV i∧Bl w5 wi) (fun x _=>nd-(intOf x).toNat)
   case atStart=>exact⟨0,c9D _,rfl,Below.refl _ _⟩
   case round=>
    obtain⟨i,hi,rfl,Ae⟩:=hrel;by_cases Ay:i<nd
    ·have Ar:(i:Int)<(nd:Int):=by omega
     obtain⟨q,hq⟩: ∃q,s.disks[i]?=some q:=⟨s.disks[i]'(by rw[←Bv.out];exact Ay),c9F _⟩;have bi:=bt br Ae;obtain⟨b,o,rfl,r0⟩:=HD.out i q hq;obtain⟨b',o',rfl,A8⟩:=KD.out i q hq;obtain⟨v1,e0,e1,Aj⟩:=r0.below bi;obtain⟨v2,A7,Af,Ah⟩:=A8.below bi;obtain⟨A1,C1,rfl,g1,g2,Aj⟩:=Aj;obtain⟨A2,C2,rfl,C0,B5,Ah⟩:=Ah;obtain⟨nq,B2⟩: ∃n,n=q.bl.length:=⟨_,rfl⟩;rw[←B2]at e1 Af g1 C0;have g2:=mL8 g2;have B5:=mL8 B5;have B1:=hd8 Aj;have Ax:=hd8 Ah;have Bi:=hd8 B2;obtain⟨gq,Bn⟩: ∃y,y=q.gone:=⟨_,rfl⟩;rw[←Bn]at e0 A7;clear Aj Ah B2 Bn r0 A8 hq;obtain⟨wo,Bk⟩: ∃y,y=wr:=⟨wr,rfl⟩;rw[←Bk]at Ae bi e0 A7 e1 Af B1 Ax⊢;clear Bk;have a3:=(Ab.out.below Ae).q3;have d3:=(Ag.out.below Ae).q3;go_upto_region 12 with fail
     go_cut [7,8]from 80 to 89 (fun p7 p8 wx=> ∃P Q,p7=.pointer (some (aD P 0))∧p8=.pointer (some (aD Q 0))∧aW wx P 58 [.bool gq,.slice A1 nq C1]∧aW wx Q 58 [.bool gq,.slice A2 nq C2]∧Bl wo wx)
     case first=>
      have B0: ∀w',Bl wo w'→(w'.cell? (aD w.heap.size 3)=some (.slice (some (aD b o)) nd Cd)∧w'.cell? (aD (w.heap.size+1) 3)=some (.slice (some (aD b' o')) nd Ed)∧w'.cell? (aD b (o+i*2))=some (.bool gq)∧w'.cell? (aD b (o+i*2+1))=some (.slice A1 nq C1)∧w'.cell? (aD b' (o'+i*2))=some (.bool gq)∧w'.cell? (aD b' (o'+i*2+1))=some (.slice A2 nq C2))∧Bl wo w':=fun w' hb=>⟨⟨cB8 hb a3,cB8 hb d3,cB8 hb e0,cB8 hb e1,cB8 hb A7,cB8 hb Af⟩,hb⟩;have C5:=fun x=>(aB8 _ _).drew;have Bq:=fun x y=>((aB8 _ _).alloc ((Below.refl wo.heap.size wo).alloc (c9C _) x).size _).drew;have TD:=B0 wo.drew (Below.refl _ _).drew;go_region_held3 (fun w'=>(w'.cell? (aD w.heap.size 3)=some (.slice (some (aD b o)) nd Cd)∧w'.cell? (aD (w.heap.size+1) 3)=some (.slice (some (aD b' o')) nd Ed)∧w'.cell? (aD b (o+i*2))=some (.bool gq)∧w'.cell? (aD b (o+i*2+1))=some (.slice A1 nq C1)∧w'.cell? (aD b' (o'+i*2))=some (.bool gq)∧w'.cell? (aD b' (o'+i*2+1))=some (.slice A2 nq C2))∧Bl wo w')
       (first|A0 exact TD|A0 Ac|A0 exact B0 _ (C5 _)|A0 exact B0 _ (Bq _ _))
       (fail)
      all_goals go_wp2_with fail
      all_goals go_meet
      ·obtain⟨q1,q2,q3⟩:=a8I (w0:=wo) (t:=58) (t':=58) (p:=.bool gq) (q:=.slice A1 nq C1) (c:=.bool gq) (d:=.slice A2 nq C2);exact⟨_,_,rfl,rfl,q1.below (Below.refl _ _).drew,q2.below (Below.refl _ _).drew,q3.drew⟩
      ·obtain⟨q1,q2,q3⟩:=a8I (w0:=wo) (t:=58) (t':=58) (p:=.bool gq) (q:=.slice A2 nq C2) (c:=.bool gq) (d:=.slice A1 nq C1);exact⟨_,_,rfl,rfl,q2.below (Below.refl _ _).drew,q1.below (Below.refl _ _).drew,q3.drew⟩
     case rest=>
      obtain⟨P,Q,rfl,rfl,VP,VQ,bc⟩:=hcut;obtain⟨w6,B4⟩: ∃y,y=wc:=⟨wc,rfl⟩;rw[←B4]at VP VQ bc⊢;have Bp:=hd8 VP;have Bg:=hd8 VQ;have p0:=VP.q0;have p1:=VP.q1;have q0:=VQ.q0;have q1:=VQ.q1;have Br:(gq !=gq)=false:=by cases gq<;>rfl
      clear B4 VP VQ a3 d3 e0 A7 e1 Af;go_wp2_with fail;clear p0 p1 q0 q1 Br;go_loopw [107] (fun x wi=> ∃j:Nat,j≤nq∧x=iV j∧Bl w6 wi) (fun x _=>nq-(intOf x).toNat)
      case atStart=>exact⟨0,c9D _,rfl,Below.refl _ _⟩
      case round=>
       obtain⟨j,hj,rfl,Al⟩:=hrel;have bj:=bt bc Al;by_cases B3:j<nq
       ·have Bb:(j:Int)<(nq:Int):=by omega
        obtain⟨⟨sg,Bf⟩,hq⟩: ∃q',q.bl[j]?=some q':=⟨q.bl[j]'(by rw[←Bi.out];exact B3),c9F _⟩;obtain⟨bb,oo,rfl,r0⟩:=B1.out j _ hq;obtain⟨C6,Bt,rfl,A8⟩:=Ax.out j _ hq;obtain⟨v1,e0,e1,y1⟩:=r0.below bj;obtain⟨v2,A7,Af,y2⟩:=A8.below bj;have x1:=fun n=>c0L (y1.below (dP wr n));have x2:=fun n=>c0L (y2.below (dP wr n));obtain⟨_,A3,C3,rfl,_⟩:=y1;obtain⟨_,A4,C4,rfl,_⟩:=y2;have p1:=(Bp.out.below Al).q1;have q1:=(Bg.out.below Al).q1;have e0:wr.cell? (aD bb (oo+j*2))=some (iV sg):=e0;have A7:wr.cell? (aD C6 (Bt+j*2))=some (iV sg):=A7;have C9:(sg !=sg)=false:=by simp
        generalize hS9:fF Bf=S9 at x1 x2;have Cc:(S9.toList==S9.toList)=true:=by simp
        obtain⟨n9,Cb⟩: ∃n,n=Bf.length:=⟨_,rfl⟩;clear r0 A8 hq hS9;go_wp2_with fail;go_quiet (fail)
        go_wp2_with fail;exact⟨⟨j+1,by omega,by go_num,bdn Al _⟩,by simp[intOf];omega⟩
       ·obtain rfl:j=nq:=by omega
        clear Bp Bg B1 Ax Bi;go_wp2_with fail;exact⟨⟨i+1,by omega,by go_num,bt Ae bj⟩,by simp[intOf];omega⟩
    ·obtain rfl:i=nd:=by omega
     clear Ab Ag;go_wp2_with fail;go_ret
     exact⟨rfl,bt br Ae⟩
theorem a8K(s h z:Nat)(v:Value)(n:Nat)(f:Nat→Nat)(w:World)(hd:cF w v n f)(hx:Crc.aA s h z n=0):
  Calls prog 95 #[.agg #[iV s,iV h,iV z,v]] w fun e w'=> ∃v',e=.returned (.tuple #[v',iV 0])∧kK w' w.heap.size v' (n+11) (Crc.enc s h z n f)∧Bl w w':=by
 obtain⟨⟨_,hs,_,hh,_,hz⟩,Al,An⟩:=Crc.bN hx;have hf:=hd.bd;have A4:Hid (Bd (Crc.hd s h z n f)):=Crc.c2R (by omega) (by omega) (by omega) (by omega) hf;have Ai:Hid (Bd (Crc.enc s h z n f)):=Crc.a5C (by omega) (by omega) (by omega) (by omega) hf;obtain⟨b,o,A3,rfl,_,_,hc⟩:=hd.some Al;obtain⟨i1,Ac,A6⟩:=c9J.1 Tryz.infoByte;simp only[Prod.mk.injEq]at A6;obtain⟨A8,A9,A5⟩:=A6;have H1:=fun w'=>mY s h z (some (aD b o)) n A3 w';rw[hx]at H1;have A1:=aB8 w (.cells #[iV s,iV h,iV z,.slice (some (aD b o)) n A3] 137);have kc:=eE w #[iV s,iV h,iV z,.slice (some (aD b o)) n A3] 137;have k0:=kc 0 _ rfl;have k1:=kc 1 _ rfl;have k2:=kc 2 _ rfl;have k3:=kc 3 _ rfl;rw[WideShapes.add_plain]at k0 k1 k2 k3;have Ah:(w.alloc (.cells #[iV s,iV h,iV z,.slice (some (aD b o)) n A3] 137)).heap.size=w.heap.size+1:=by simp
 clear kc hd hx;go_enter func95,ntmps95
 go_wp2_with fail;refine(H1 _).mono ?_;rintro e w1 ⟨rfl,b1⟩;have Af:w.heap.size<w1.heap.size:=by have:=b1.size;omega
 have K0:=(b1.cell (p:=⟨w.heap.size,0,none⟩) (by show w.heap.size<_;omega)).trans k0;have K1:=(b1.cell (p:=⟨w.heap.size,0+1,none⟩) (by show w.heap.size<_;omega)).trans k1;have K2:=(b1.cell (p:=⟨w.heap.size,0+2,none⟩) (by show w.heap.size<_;omega)).trans k2;have K3:=(b1.cell (p:=⟨w.heap.size,0+3,none⟩) (by show w.heap.size<_;omega)).trans k3;rw[c9G]at K1 K2 K3;have Am:=K3;have b1:=bt A1 b1;clear H1 k0 k1 k2 k3 A1 Ah;have X2:=aB8 w1 (.cells #[.int .u8 83,.int .u8 s,.int .u8 h,.int .u8 ((z:Int)/256),.int .u8 ((z:Int)%256),.int .u8 ((n:Int)/256),.int .u8 ((n:Int)%256)] 5);have B4:Buf (w1.alloc (.cells #[.int .u8 83,.int .u8 s,.int .u8 h,.int .u8 ((z:Int)/256),.int .u8 ((z:Int)%256),.int .u8 ((n:Int)/256),.int .u8 ((n:Int)%256)] 5)) w1.heap.size (.slice (some (aD w1.heap.size 0)) 7 7) 7 (Crc.hd s h z n f):=a9I w1 #[.int .u8 83,.int .u8 s,.int .u8 h,.int .u8 ((z:Int)/256),.int .u8 ((z:Int)%256),.int .u8 ((n:Int)/256),.int .u8 ((n:Int)%256)] 5 (by unfold maxLen;simp);have b3:=b1.trans (X2.mono b1.size);have K3:=(X2.cell (p:=⟨w.heap.size,3,none⟩) Af).trans Am;have A0: ∀j u,(cellsOf f n)[j]?=some u→(w1.alloc (.cells #[.int .u8 83,.int .u8 s,.int .u8 h,.int .u8 ((z:Int)/256),.int .u8 ((z:Int)%256),.int .u8 ((n:Int)/256),.int .u8 ((n:Int)%256)] 5)).cell? ((⟨b,o,none⟩:Addr).add j)=some u:=fun j u hj=>by
  rcases Nat.lt_or_ge j n with h|h
  ·simp[cellsOf,h]at hj;rw[WideShapes.add_plain,cB8 b3 (hc j h),←hj]
  ·simp[List.getElem?_eq_none (show(cellsOf f n).length≤j by simpa [cellsOf]using h)]at hj
 have Ae:=jK f n;have A2:(cellsOf f n).length=n*1:=by simp[cellsOf]
 have HL:=B4.lt;have Aa:=hd8 (b3L s h z n f);have s3:=X2.size;clear hc;go_wp2_with (at_builtin;go_loud (refine wpList_append_own _ rfl (.tmp 38) (.tmp 40) 59 rfl w1.heap.size 5 i1 (.int .u8 0) 1 1 underlying59 Ac A8 A9 A5 rfl (by decide) _ _ _ rfl B4 (aD b o) n A3 (cellsOf f n) rfl A2 A0 Ae (by unfold maxLen;omega) (by omega) s3 ?_;intro v4 w4 hown4 hgrow4 _));have B5:Buf w4 w1.heap.size v4 (7+n) (Crc.hd s h z n f):=by
  unfold Buf;rw[Aa.out];exact hown4
 have c4:=X2.grown hgrow4 s3 (fun y hy=>(HL y hy).1);have Y4:=(B5.made A4.out (by omega)).byts A4.out;have H5:=b1B v4 (7+n) _ w4 Y4;have A7:=Crc.c2Y A4.out _;have HE:=hd8 (a2Q s h z n f);generalize Crc.sum (Crc.hd s h z n f) (7+n)=S at H5 A7 HE;have Ag:Hid (Buf w4 w1.heap.size v4 (7+n) (oF (Crc.hd s h z n f) (7+n) S)):=B5.congr (fun k hk=>by unfold oF;rw[if_pos hk]);clear hown4 B5 Y4 Aa B4 A0 K3 hgrow4 HL Ae A2;refine H5.mono ?_;rintro e w5 ⟨rfl,rfl⟩;clear H5;go_wp2_with fail;go_loopw [5,6,7] (fun u y x wr=> ∃k:Nat,k≤4∧x=iV k∧y=.int .u32 (S/256^k:Nat)∧Buf wr w1.heap.size u (7+n+k) (oF (Crc.hd s h z n f) (7+n) S)∧Bl w1 wr) (fun _ _ x _=>4-(intOf x).toNat)
 case atStart=>exact⟨0,c9D _,rfl,by rw[Nat.pow_zero,Nat.div_one],Ag.out,c4⟩
 case round=>
  obtain⟨k,hk,rfl,rfl,HB,hb⟩:=hrel;by_cases Ao:k<4
  ·have Ak:(k:Int)<4:=by omega
   have Ab:Hid (Crc.low S k=S/256^k%256):=rfl;have Ad:Hid (S/256^k/256=S/256^(k+1)):=by
    show S/256^k/256=_;rw[Nat.div_div_eq_div_mul,Nat.pow_succ]
   have Aj:=Nat.lt_of_le_of_lt (Nat.div_le_self _ _) A7;generalize S/256^k=x at Ab Ad Aj;have HO:=HB.below ((Below.refl _ _).alloc (c9C _) (.cells #[.int .u8 ((x:Int)%256)] 5));have A1:=hb.alloc hb.size _;have HL:=HB.lt;have cn:=eE wr #[.int .u8 ((x:Int)%256)] 5;have sX:=A1.size;go_wp2_with (at_builtin;go_loud (refine wpList_append_own _ rfl (.tmp 48) (.tmp 52) 59 rfl w1.heap.size 5 i1 (.int .u8 0) 1 1 underlying59 Ac A8 A9 A5 rfl (by decide) _ _ _ rfl HO (aD wr.heap.size 0) 1 1 [.int .u8 ((x:Int)%256)] rfl rfl cn (by intro u hu;simp at hu;subst hu;rfl) (by unfold maxLen;omega) (by omega) sX ?_;intro v6 w6 hown6 hgrow6 _));refine⟨⟨k+1,by omega,by go_num,cA (by rw[←Ad.out];rfl),b4J (n:=7+n+k) hown6 (y:=Crc.low S k) (by rw[Ab.out];rfl) ?_,A1.grown hgrow6 sX (fun y hy=>(HL y hy).1)⟩,by simp[intOf];omega⟩;unfold oF;rw[if_neg (by omega),d2G]
  ·have e8:k=4:=by omega
   subst e8;have HM:Hid (∀v' w',Buf w' w1.heap.size v' (7+n+4) (oF (Crc.hd s h z n f) (7+n) S)→kK w' w.heap.size v' (n+11) (Crc.enc s h z n f)):=fun v' w' B7=>by
    have:=(B7.congr (fun k _=>HE.out k)).made Ai.out (by omega);rw[show 7+n+4=n+11 by omega]at this;exact this.lower b1.size
   go_wp2_with fail;go_ret2
   exact⟨_,rfl,HM.out _ _ HB,b1.trans (hb.mono b1.size)⟩
theorem a4Z(v:Value)(n:Nat)(g:Nat→Nat)(w:World)(h:cF w v n g)(hx:cU g n):
  Calls prog 96 #[v] w fun e w'=>e=.returned (.tuple #[.agg #[iV 0,iV 0,iV 0,nS],iV 2])∧Bl w w':=by
 have hl:=h.len;have A1:=h.bd;have A0:=aB8 w (.cells #[iV 0,iV 0,iV 0,nS] 137);by_cases hn:n<12
 ·obtain⟨A,C,rfl⟩:=h.shape;have A2:(n:Int)<12:=by omega
  clear hx h;go_enter func96,ntmps96
  go_wp2_with fail;go_quiet (fail)
  go_wp2_with fail;refine bodyPost_ret (v:=.tuple #[.agg #[iV 0,iV 0,iV 0,nS],iV 2]) (by simp[results,results96,go_sem]) rfl ⟨rfl,?_⟩;exact fA (bdn A0 _) (c9C _)
 have A2: ¬(n:Int)<12:=by omega
 have A4:decide ((n:Int)<12)=false:=by simp;omega
 obtain⟨b,o,A6,rfl,_,_,hc⟩:=h.some (by omega);have hc:=fun i hi=>cB8 A0 (hc i hi);have t0:=hc 0 (by omega);rw[d0X]at t0;have A8:(0:Int)<(n:Int):=by omega
 by_cases h0:g 0=83
 ·have e0:(((g 0:Nat):Int) !=83)=false:=by rw[h0];rfl
  have t5:=hc 5 (by omega);have t6:=hc 6 (by omega);have b5:=A1 5;have b6:=A1 6;have A5:(5:Int)<(n:Int):=by omega
  have A3:(6:Int)<(n:Int):=by omega
  have A7:((256*((g 5:Nat):Int)+((g 6:Nat):Int)) !=(n:Int)-11)=true:=by
   rw[bne_iff_ne];unfold cU at hx;omega
  clear hx h hc;go_enter func96,ntmps96
  go_wp2_with fail;go_quiet (fail)
  go_wp2_with fail;refine bodyPost_ret (v:=.tuple #[.agg #[iV 0,iV 0,iV 0,nS],iV 2]) (by simp[results,results96,go_sem]) rfl ⟨rfl,?_⟩;exact fA (bdn A0 _) (c9C _)
 ·have e0:(((g 0:Nat):Int) !=83)=true:=by rw[bne_iff_ne];omega
  clear hx h hc;go_enter func96,ntmps96
  go_wp2_with fail;go_quiet (fail)
  go_wp2_with fail;refine bodyPost_ret (v:=.tuple #[.agg #[iV 0,iV 0,iV 0,nS],iV 2]) (by simp[results,results96,go_sem]) rfl ⟨rfl,?_⟩;exact fA (bdn A0 _) (c9C _)
theorem a0S(b o n e cap:Nat)(g:Nat→Nat)(w:World)(h:cF w (.slice (some (aD b o)) n cap) n g)(hne4:n=e+4)(hx: ¬cU g n)(hs:Crc.sum g e≠Crc.oC g e):
  Calls prog 96 #[.slice (some (aD b o)) n cap] w fun r w'=>r=.returned (.tuple #[.agg #[iV 0,iV 0,iV 0,nS],iV 9])∧Bl w w':=by
 have hl:=h.len;have A1:=h.bd;have A3:g 0=83∧n=11+(g 5*256+g 6)∧12≤n:=by unfold cU at hx;omega
 have A0:=aB8 w (.cells #[iV 0,iV 0,iV 0,nS] 137);have V0:=fK w (iV 0) (iV 0) (iV 0) nS;have A7: ¬(n:Int)<12:=by omega
 have Aa:decide ((n:Int)<12)=false:=by simp;omega
 obtain⟨b',o',A4,hv,A5,A9,hc⟩:=h.some (by omega);cases hv
 have HC:=hd8 fun w' hb' i hi=>cB8 hb' (hc i hi);have H2:=fun w' (hb':Bl w w')=>oG b o e cap g w' A1 (by omega) (fun i hi=>HC.out w' hb' i (by omega));have t0:=HC.out _ A0 0 (by omega);have t5:=HC.out _ A0 5 (by omega);have t6:=HC.out _ A0 6 (by omega);rw[d0X]at t0;have u0:=HC.out _ A0 e (by omega);have u1:=HC.out _ A0 (e+1) (by omega);have u2:=HC.out _ A0 (e+2) (by omega);have u3:=HC.out _ A0 (e+3) (by omega);have Ad:(0:Int)<(n:Int):=by omega
 have e0:(((g 0:Nat):Int) !=83)=false:=by rw[A3.1];rfl
 have b5:=A1 5;have b6:=A1 6;have v0:=A1 e;have v1:=A1 (e+1);have v2:=A1 (e+2);have v3:=A1 (e+3);have Ab:(5:Int)<(n:Int):=by omega
 have A8:(6:Int)<(n:Int):=by omega
 have A6:((256*((g 5:Nat):Int)+((g 6:Nat):Int)) !=(n:Int)-11)=false:=by
  rw[bne_eq_false_iff_eq];omega
 have s1:(n:Int)-1=(e:Int)+3:=by omega
 have s2:(n:Int)-2=(e:Int)+2:=by omega
 have s3:(n:Int)-3=(e:Int)+1:=by omega
 have s4:(n:Int)-4=(e:Int):=by omega
 have r0:(e:Int)<(n:Int):=by omega
 have r1:(e:Int)+1<(n:Int):=by omega
 have r2:(e:Int)+2<(n:Int):=by omega
 have r3:(e:Int)+3<(n:Int):=by omega
 have Ac:(e:Int)≤(cap:Int):=by omega
 have A2:((256*(256*(256*((g (e+3):Nat):Int)+((g (e+2):Nat):Int))+((g (e+1):Nat):Int))+((g e:Nat):Int)) !=((Crc.sum g e:Nat):Int))=true:=by
  rw[bne_iff_ne];unfold Crc.oC at hs;omega
 generalize Crc.sum g e=S at H2 A2 hs;clear hc h A3 hx hne4 hs;go_enter func96,ntmps96
 go_wp2_with fail;go_quiet (fail)
 go_wp2_with fail;refine wp_loop_rounds 5 ?_;iterate 5
  rw[rounds_succ];go_wp2_with fail
 have bq:=bdn A0 nq;have Vq:sO ((w.alloc (.cells #[iV 0,iV 0,iV 0,nS] 137)).drewN nq) w.heap.size (iV 0) (iV 0) (iV 0) nS:=⟨V0.c0,V0.c1,V0.c2,V0.c3,V0.fr⟩;clear t0 t5 t6 u0 u1 u2 u3 V0 A0;generalize (w.alloc (.cells #[iV 0,iV 0,iV 0,nS] 137)).drewN nq=wq at bq Vq⊢;refine(H2 _ bq).mono ?_;rintro e2 w2 ⟨rfl,rfl⟩;clear H2;obtain⟨c0,c1,c2,c3,fr⟩:=Vq;have f0:=fr 0;have f1:=fr 1;have f2:=fr 2;have f3:=fr 3;go_wp2_with fail;refine bodyPost_ret (v:=.tuple #[.agg #[iV 0,iV 0,iV 0,nS],iV 9]) (by simp[results,results96,go_sem,c0,c1,c2,c3]) rfl ⟨rfl,?_⟩;exact fA bq (c9C _)
theorem qH(b o n e cap:Nat)(g:Nat→Nat)(w:World)(h:cF w (.slice (some (aD b o)) n cap) n g)(hne4:n=e+4)(he8:8≤e)(hx: ¬cU g n)(hs:Crc.sum g e=Crc.oC g e):
  Calls prog 96 #[.slice (some (aD b o)) n cap] w fun r w'=> ∃v',r=.returned (.tuple #[v',iV (Crc.aA (g 1) (g 2) (g 3*256+g 4:Nat) (e-7):Nat)])∧
   ((Crc.aA (g 1) (g 2) (g 3*256+g 4:Nat) (e-7)=0∧ ∃d,v'=.agg #[iV (g 1:Nat),iV (g 2:Nat),iV (g 3*256+g 4:Nat),d]∧d=.slice (some (aD b (o+7))) (e-7) (cap-7)∧cF w d (e-7) (fun k=>g (k+7)))∨(Crc.aA (g 1) (g 2) (g 3*256+g 4:Nat) (e-7)≠0∧v'=.agg #[iV 0,iV 0,iV 0,nS]))∧Bl w w':=by
 have hl:=h.len;have A1:=h.bd;have A6:g 0=83∧n=11+(g 5*256+g 6)∧12≤n:=by unfold cU at hx;omega
 have A2:=aB8 w (.cells #[iV 0,iV 0,iV 0,nS] 137);have V0:=fK w (iV 0) (iV 0) (iV 0) nS;have Ao: ¬(n:Int)<12:=by omega
 have Al:decide ((n:Int)<12)=false:=by simp;omega
 obtain⟨b',o',Ab,hv,Ae,Ak,hc⟩:=h.some (by omega);cases hv
 have HC:=hd8 fun w' hb' i hi=>cB8 hb' (hc i hi);have H2:=fun w' (hb':Bl w w')=>oG b o e cap g w' A1 (by omega) (fun i hi=>HC.out w' hb' i (by omega));have t0:=HC.out _ A2 0 (by omega);have t5:=HC.out _ A2 5 (by omega);have t6:=HC.out _ A2 6 (by omega);rw[d0X]at t0;have u0:=HC.out _ A2 e (by omega);have u1:=HC.out _ A2 (e+1) (by omega);have u2:=HC.out _ A2 (e+2) (by omega);have u3:=HC.out _ A2 (e+3) (by omega);have An:(0:Int)<(n:Int):=by omega
 have e0:(((g 0:Nat):Int) !=83)=false:=by rw[A6.1];rfl
 have b5:=A1 5;have b6:=A1 6;have v0:=A1 e;have v1:=A1 (e+1);have v2:=A1 (e+2);have v3:=A1 (e+3);have As:(5:Int)<(n:Int):=by omega
 have Av:(6:Int)<(n:Int):=by omega
 have Ah:((256*((g 5:Nat):Int)+((g 6:Nat):Int)) !=(n:Int)-11)=false:=by
  rw[bne_eq_false_iff_eq];omega
 have s1:(n:Int)-1=(e:Int)+3:=by omega
 have s2:(n:Int)-2=(e:Int)+2:=by omega
 have s3:(n:Int)-3=(e:Int)+1:=by omega
 have s4:(n:Int)-4=(e:Int):=by omega
 have r0:(e:Int)<(n:Int):=by omega
 have r1:(e:Int)+1<(n:Int):=by omega
 have r2:(e:Int)+2<(n:Int):=by omega
 have r3:(e:Int)+3<(n:Int):=by omega
 have At:(e:Int)≤(cap:Int):=by omega
 have A5:((256*(256*(256*((g (e+3):Nat):Int)+((g (e+2):Nat):Int))+((g (e+1):Nat):Int))+((g e:Nat):Int)) !=((Crc.sum g e:Nat):Int))=false:=by
  rw[bne_eq_false_iff_eq];unfold Crc.oC at hs;omega
 generalize Crc.sum g e=S at H2 A5 hs;have a1:(1:Int)<(n:Int):=by omega
 have a2:(2:Int)<(n:Int):=by omega
 have a3:(3:Int)<(n:Int):=by omega
 have a4:(4:Int)<(n:Int):=by omega
 have n1:1<n:=by omega
 have n2:2<n:=by omega
 have n3:3<n:=by omega
 have n4:4<n:=by omega
 have a7:(7:Int)≤(e:Int):=by omega
 have n7:7≤e:=by omega
 have Ar:e≤cap:=by omega
 have Am: ¬cap=7:=by omega
 have q1:=A1 1;have q2:=A1 2;have q3:=A1 3;have q4:=A1 4;have Ag:IntKind.i64.wrap ((g 1:Nat):Int)=(g 1:Nat):=by rw[IntKind.wrap_i64];omega
 have Ai:IntKind.i64.wrap ((g 2:Nat):Int)=(g 2:Nat):=by rw[IntKind.wrap_i64];omega
 have Af:IntKind.i64.wrap ((g 3:Nat):Int)=(g 3:Nat):=by rw[IntKind.wrap_i64];omega
 have Ac:IntKind.i64.wrap ((g 4:Nat):Int)=(g 4:Nat):=by rw[IntKind.wrap_i64];omega
 have Aa:IntKind.i64.wrap (256*((g 3:Nat):Int))=256*((g 3:Nat):Int):=by rw[IntKind.wrap_i64];omega
 have Aj:IntKind.i64.wrap (256*((g 3:Nat):Int)+((g 4:Nat):Int))=256*((g 3:Nat):Int)+((g 4:Nat):Int):=by rw[IntKind.wrap_i64];omega
 have Aq:IntKind.i64.wrap (e:Int)=(e:Int):=by rw[IntKind.wrap_i64];omega
 have A4:=fun k=>A1 _;have HD:Hid (∀w',Bl w w'→cF w' (.slice (some (aD b (o+7))) (e-7) (cap-7)) (e-7) (fun k=>g (k+7))):=fun w' hb'=>
  ⟨A4,some (aD b (o+7)),cap-7,rfl,by omega,by unfold maxLen;omega,fun k hk=>⟨b,o+7,rfl,by rw[show o+7+k=o+(k+7) by omega];exact HC.out w' hb' (k+7) (by omega)⟩⟩
 have HW:=fun w'=>mY (g 1:Nat) (g 2:Nat) (g 3*256+g 4:Nat) (some (aD b (o+7))) (e-7) (cap-7) w';have Ad:b<w.heap.size:=World.block_lt_of_cell? _ _ (hc 0 (by omega));have A9:g 3*256+g 4≤65535:=by omega
 have HQ:Hid (256*((g 3:Nat):Int)+((g 4:Nat):Int)=((g 3*256+g 4:Nat):Int)):=show _=_ by omega
 generalize g 3*256+g 4=q at HW HQ A9⊢;clear hc h A6 hx hne4 hs he8;go_enter func96,ntmps96
 go_wp2_with fail;go_quiet (fail)
 go_wp2_with fail;refine wp_loop_rounds 5 ?_;iterate 5
  rw[rounds_succ];go_wp2_with fail
 have bq:=bdn A2 nq;have Vq:sO ((w.alloc (.cells #[iV 0,iV 0,iV 0,nS] 137)).drewN nq) w.heap.size (iV 0) (iV 0) (iV 0) nS:=⟨V0.c0,V0.c1,V0.c2,V0.c3,V0.fr⟩;clear t0 t5 t6 u0 u1 u2 u3 V0 A2;generalize (w.alloc (.cells #[iV 0,iV 0,iV 0,nS] 137)).drewN nq=wq at bq Vq⊢;refine(H2 _ bq).mono ?_;rintro e2 w2 ⟨rfl,rfl⟩;clear H2;go_wp2_with fail;have T1:=HC.out w2 bq 1 n1;have T2:=HC.out w2 bq 2 n2;have T3:=HC.out w2 bq 3 n3;have T4:=HC.out w2 bq 4 n4;have A3:=c9P Ad bq.size;have TD:w2.drew.cell? (aD b (o+1))=some (.int .u8 (g 1:Nat))∧w2.drew.cell? (aD b (o+2))=some (.int .u8 (g 2:Nat))∧w2.drew.cell? (aD b (o+3))=some (.int .u8 (g 3:Nat))∧w2.drew.cell? (aD b (o+4))=some (.int .u8 (g 4:Nat)):=⟨T1,T2,T3,T4⟩;have TA: ∀ob,(w2.alloc ob).drew.cell? (aD b (o+1))=some (.int .u8 (g 1:Nat))∧(w2.alloc ob).drew.cell? (aD b (o+2))=some (.int .u8 (g 2:Nat))∧(w2.alloc ob).drew.cell? (aD b (o+3))=some (.int .u8 (g 3:Nat))∧(w2.alloc ob).drew.cell? (aD b (o+4))=some (.int .u8 (g 4:Nat)):=fun ob=>
  ⟨(World.cell?_alloc_lt _ _ _ A3).trans T1,(World.cell?_alloc_lt _ _ _ A3).trans T2,(World.cell?_alloc_lt _ _ _ A3).trans T3,(World.cell?_alloc_lt _ _ _ A3).trans T4⟩
 go_region_held3 (fun w'=>w'.cell? (aD b (o+1))=some (.int .u8 (g 1:Nat))∧w'.cell? (aD b (o+2))=some (.int .u8 (g 2:Nat))∧w'.cell? (aD b (o+3))=some (.int .u8 (g 3:Nat))∧w'.cell? (aD b (o+4))=some (.int .u8 (g 4:Nat)))
  (first|A0 exact TD|A0 exact TA _)
  (fail)
 have Ap:=HQ.out;have VX:=(fK w2 (iV (g 1:Nat)) (iV (g 2:Nat)) (iV q) (.slice (some (aD b (o+7))) (e-7) (cap-7))).drew;have V2:=(Vq.below ((Below.refl _ _).alloc (c9C _) (.cells #[iV (g 1:Nat),iV (g 2:Nat),iV q,.slice (some (aD b (o+7))) (e-7) (cap-7)] 137))).drew;have A7:=(bq.alloc bq.size (.cells #[iV (g 1:Nat),iV (g 2:Nat),iV q,.slice (some (aD b (o+7))) (e-7) (cap-7)] 137)).drew;have HW:=HW (w2.alloc (.cells #[iV (g 1:Nat),iV (g 2:Nat),iV q,.slice (some (aD b (o+7))) (e-7) (cap-7)] 137)).drew;have VX:=hd8 VX;clear T1 T2 T3 T4 TD TA Vq Aa Aj Ag Ai Af Ac;by_cases hE:Crc.aA (g 1) (g 2) (q:Nat) (e-7)=0
 ·have HE:=hd8 hE;rw[hE]at HW;clear hE;go_wp2_with fail;refine HW.mono ?_;rintro e6 w6 ⟨rfl,b6⟩;obtain⟨c0,c1,c2,c3,fr⟩:=V2.below b6;obtain⟨m0,m1,m2,m3,_⟩:=VX.out.below b6;have f0:=fr 0;have f1:=fr 1;have f2:=fr 2;have f3:=fr 3;have bz:=bt A7 b6;clear HW V2;go_wp2_with fail;refine bodyPost_ret (v:=.tuple #[.agg #[iV (g 1:Nat),iV (g 2:Nat),iV q,.slice (some (aD b (o+7))) (e-7) (cap-7)],iV 0]) (by simp[results,results96,go_sem,c0,c1,c2,c3]) rfl ⟨_,by rw[HE.out];rfl,Or.inl ⟨HE.out,_,rfl,rfl,?_⟩,?_⟩
  ·exact HD.out _ (Below.refl _ _)
  ·exact fA bz (c9C _)
 ·have HE:=hd8 hE;have A8:(((Crc.aA (g 1) (g 2) (q:Nat) (e-7):Nat):Int)==0)=false:=by rw[beq_eq_false_iff_ne];omega
  have Au:(((Crc.aA (g 1) (g 2) (q:Nat) (e-7):Nat):Int) !=0)=true:=by rw[bne,A8];rfl
  clear hE;go_wp2_with fail;refine HW.mono ?_;rintro e6 w6 ⟨rfl,b6⟩;obtain⟨c0,c1,c2,c3,fr⟩:=V2.below b6;have f0:=fr 0;have f1:=fr 1;have f2:=fr 2;have f3:=fr 3;have bz:=bt A7 b6;clear HW V2;go_wp2_with fail;refine bodyPost_ret (v:=.tuple #[.agg #[iV 0,iV 0,iV 0,nS],iV (Crc.aA (g 1) (g 2) (q:Nat) (e-7):Nat)]) (by simp[results,results96,go_sem,c0,c1,c2,c3]) rfl ⟨_,rfl,Or.inr ⟨HE.out,rfl⟩,?_⟩;exact fA bz (c9C _)
theorem sP(v:Value)(s h z:Int)(n:Nat)(f:Nat→Nat)(w:World)(hx:Blk w v s h z n f):
  Calls prog 95 #[v] w fun e w'=> ∃v',e=.returned (.tuple #[v',iV (Crc.aA s h z n:Nat)])∧c3C w' w.heap.size (Crc.aA s h z n) v' (n+11) (a3M s h z n f)∧Bl w w':=by
 obtain⟨d,rfl,hd⟩:=hx;by_cases hE:Crc.aA s h z n=0
 ·have hi:=Crc.bN hE;obtain⟨S,rfl⟩:=d0I hi.1.1;obtain⟨H,rfl⟩:=d0I hi.1.2.2.1;obtain⟨Z,rfl⟩:=d0I hi.1.2.2.2.2.1;refine(a8K S H Z d n f w hd hE).mono ?_;rintro e w' ⟨v',rfl,hm,hb⟩;exact⟨v',by rw[hE];rfl,Or.inl ⟨hE,hm⟩,hb⟩
 ·obtain⟨_,A,A0,rfl,_⟩:=hd;refine(a4X s h z A n A0 w hE).mono ?_;rintro e w' ⟨rfl,hb⟩;exact⟨_,rfl,Or.inr ⟨hE,rfl⟩,hb⟩
theorem b4U{e:Nat}{g:Nat→Nat}(h:cF w (.slice (some (aD b o)) n cap) n g)(he:n=e+4)(h8:8≤e):cF w (.slice (some (aD b (o+7))) (e-7) (cap-7)) (e-7) (fun k=>g (k+7)):=by
 obtain⟨bd,A,C,hv,h1,h2,hc⟩:=h;cases hv
 refine⟨fun k=>bd _,some (aD b (o+7)),cap-7,rfl,by omega,by omega,fun i hi=>⟨b,o+7,rfl,?_⟩⟩;obtain⟨b',o',e1,e2⟩:=hc (i+7) (by omega);cases e1
 rw[show o+7+i=o+(i+7) by omega];exact e2
theorem a5T(v:Value)(n:Nat)(g:Nat→Nat)(w:World)(hx:cF w v n g)(h0:Crc.aM g n=0):
  Calls prog 96 #[v] w fun e w'=> ∃A C,e=.returned (.tuple #[.agg #[iV (g 1:Nat),iV (g 2:Nat),iV (g 3*256+g 4:Nat),.slice A (n-11) C],iV 0])∧(∀W,cF W v n g→cF W (.slice A (n-11) C) (n-11) (fun k=>g (k+7)))∧Bl w w':=by
 have hF: ¬cU g n:=fun q=>by rw[Crc.nO q]at h0;cases h0
 have hn:12≤n:=by unfold cU at hF;omega
 obtain⟨b,o,A0,rfl,A1,_,_⟩:=hx.some (by omega);obtain⟨e,rfl⟩: ∃e,n=e+4:=⟨n-4,by omega⟩;have hs:Crc.sum g e=Crc.oC g e:=by
  refine Classical.byContradiction fun q=>?_;rw[Crc.pZ hF (by rw[d2N];exact q)]at h0;cases h0
 have hE:Crc.aM g (e+4)=Crc.aA (g 1) (g 2) (g 3*256+g 4:Nat) (e-7):=by
  rw[Crc.mW hF (by rw[d2N];exact hs),show e+4-11=e-7 by omega]
 refine(qH b o (e+4) e A0 g w hx rfl (by omega) hF hs).mono ?_;rintro r w' ⟨v',rfl,hv,hb⟩;rw[←hE,h0]at hv⊢;rw[show e+4-11=e-7 by omega];rcases hv with⟨_,d,rfl,rfl,_⟩|⟨q,_⟩
 ·exact⟨_,_,rfl,fun W hW=>b4U hW rfl (by omega),hb⟩
 ·exact absurd rfl q
theorem a3V(v:Value)(n:Nat)(g:Nat→Nat)(w:World)(hx:cF w v n g):
  Calls prog 96 #[v] w fun e w'=> ∃v',e=.returned (.tuple #[v',iV (Crc.aM g n:Nat)])∧
   Blk w' v' (pk (Crc.aM g n) (g 1):Nat) (pk (Crc.aM g n) (g 2):Nat) (pk (Crc.aM g n) (g 3*256+g 4):Nat) (pk (Crc.aM g n) (n-11)) (fun k=>g (k+7))∧Bl w w':=by
 have A3:=hx.bd;have A0:=fun k=>A3 _;by_cases hF:cU g n
 ·have hE:=Crc.nO hF;refine(a4Z v n g w hx hF).mono ?_;rintro e w' ⟨rfl,hb⟩;exact⟨_,by rw[hE];rfl,l9 (by omega) _ _ _ _ A0,hb⟩
 ·have hn:12≤n:=by unfold cU at hF;omega
  obtain⟨b,o,A1,rfl,A2,_,_⟩:=hx.some (by omega);obtain⟨e,rfl⟩: ∃e,n=e+4:=⟨n-4,by omega⟩;by_cases hs:Crc.sum g e=Crc.oC g e
  ·have hE:Crc.aM g (e+4)=Crc.aA (g 1) (g 2) (g 3*256+g 4:Nat) (e-7):=by
    rw[Crc.mW hF (by rw[d2N];exact hs),show e+4-11=e-7 by omega]
   refine(qH b o (e+4) e A1 g w hx rfl (by omega) hF hs).mono ?_;rintro r w' ⟨v',rfl,hv,hb⟩;rw[←hE]at hv⊢;rw[show e+4-11=e-7 by omega];rcases hv with⟨h0,d,rfl,_,hd⟩|⟨h0,rfl⟩
   ·rw[nT h0,nT h0,nT h0,nT h0];exact⟨_,rfl,⟨d,rfl,hd.below hb⟩,hb⟩
   ·exact⟨_,rfl,l9 h0 _ _ _ _ A0,hb⟩
  ·have hE:Crc.aM g (e+4)=9:=Crc.pZ hF (by rw[d2N];exact hs);refine(a0S b o (e+4) e A1 g w hx rfl hF hs).mono ?_;rintro r w' ⟨rfl,hb⟩;exact⟨_,by rw[hE];rfl,l9 (by omega) _ _ _ _ A0,hb⟩
theorem sV(v:Value)(n:Nat)(g:Nat→Nat)(s:Int)(i:Nat)(w:World)(h:cF w v n g):
  Calls prog 68 #[v,iV s,iV i] w fun e w'=>qW e (Crc.aM g n=0∧((g 1:Nat):Int)=s∧g 2=i)∧Bl w w':=by
 have H1:=a3V v n g w h;by_cases hE:Crc.aM g n=0
 ·rw[hE,nT rfl,nT rfl,nT rfl,nT rfl]at H1;have HE:=hd8 hE;generalize g 3*256+g 4=z at H1;by_cases h1:((g 1:Nat):Int)=s
  ·by_cases h2:g 2=i
   ·have t1:(((g 1:Nat):Int)==s)=true:=by rw[beq_iff_eq];exact h1
    have t2:(((g 2:Nat):Int)==(i:Int))=true:=by rw[beq_iff_eq];omega
    have HY:Hid (Crc.aM g n=0∧((g 1:Nat):Int)=s∧g 2=i):=⟨hE,h1,h2⟩;clear hE h1 h2;go_enter func68,ntmps68
    go_wp2_with fail;refine H1.mono ?_;rintro e w1 ⟨v1,rfl,⟨d,rfl,hd⟩,b1⟩;obtain⟨A,C,rfl⟩:=hd.shape;have b2:=b1.alloc b1.size _;clear H1 hd;go_wp2_with fail;go_ret
    exact⟨gL HY.out,b2⟩
   ·have t1:(((g 1:Nat):Int)==s)=true:=by rw[beq_iff_eq];exact h1
    have t2:(((g 2:Nat):Int)==(i:Int))=false:=by rw[beq_eq_false_iff_ne];omega
    have HN:=hd8 fun q=>h2 q.2.2;clear hE h1 h2;go_enter func68,ntmps68
    go_wp2_with fail;refine H1.mono ?_;rintro e w1 ⟨v1,rfl,⟨d,rfl,hd⟩,b1⟩;obtain⟨A,C,rfl⟩:=hd.shape;have b2:=b1.alloc b1.size _;clear H1 hd;go_wp2_with fail;go_ret
    exact⟨cV HN.out,b2⟩
  ·have t1:(((g 1:Nat):Int)==s)=false:=by rw[beq_eq_false_iff_ne];exact h1
   have HN:=hd8 fun q=>h1 q.2.1;clear hE h1;go_enter func68,ntmps68
   go_wp2_with fail;refine H1.mono ?_;rintro e w1 ⟨v1,rfl,⟨d,rfl,hd⟩,b1⟩;obtain⟨A,C,rfl⟩:=hd.shape;have b2:=b1.alloc b1.size _;clear H1 hd;go_wp2_with fail;go_ret
   exact⟨cV HN.out,b2⟩
 ·have HN:=hd8 fun q=>hE q.1;rw[nQ hE,nQ hE,nQ hE,nQ hE]at H1;have A0:(((Crc.aM g n:Nat):Int)==0)=false:=by rw[beq_eq_false_iff_ne];omega
  obtain⟨P,hP⟩: ∃P:Prop,P=(Crc.aM g n=0∧((g 1:Nat):Int)=s∧g 2=i):=⟨_,rfl⟩;rw[←hP]at HN⊢;clear hP;generalize Crc.aM g n=E at H1 A0;clear hE;go_enter func68,ntmps68
  go_wp2_with fail;refine H1.mono ?_;rintro e w1 ⟨v1,rfl,⟨d,rfl,hd⟩,b1⟩;obtain⟨A,C,rfl⟩:=hd.shape;have b2:=b1.alloc b1.size _;clear H1 hd;go_wp2_with fail;go_ret
  exact⟨cV HN.out,b2⟩
theorem a7I(v:Value)(N:Nat)(L:Nat→Nat)(g:Nat→Nat→Nat)(s:Int)(w:World)(h:Lls w v N L g)(hN:(N+1)*8≤140737488355328):
  Calls prog 37 #[v,iV s] w fun e w'=> ∃v',e=.returned v'∧iP w' w.heap.size v' (Seg.kT s L g N)∧Bl w w':=by
 obtain⟨i1,A9,A2⟩:=c9J.1 Tryz.infoInt;simp only[Prod.mk.injEq]at A2;obtain⟨A6,A8,A3⟩:=A2;obtain⟨A,C,rfl⟩:=h.shape;have HL:=hd8 fun w' hb r hr=>(h.below hb).at hr;clear h;go_enter func37,ntmps37
 go_wp2_with fail;go_loopw [5,9] (fun y x wr=> ∃k:Nat,k≤N∧x=iV k∧iP wr w.heap.size y (Seg.kT s L g k)∧Bl w wr) (fun _ x _=>N-(intOf x).toNat)
 case atStart=>exact⟨0,c9D _,rfl,iP.nil _ _,Below.refl _ _⟩
 case round=>
  obtain⟨k,hk,rfl,BN,hb⟩:=hrel;by_cases A4:k<N
  ·have Aa:(k:Int)<(N:Int):=by omega
   obtain⟨b,o,R,K,rfl,d0,hy⟩:=HL.out wr hb k A4;have HR:=sV _ _ (g k) s k wr hy;have Ac:=yG s L g k;obtain⟨P,hP⟩: ∃P:Prop,P=(Crc.aM (g k) (L k)=0∧((g k 1:Nat):Int)=s∧g k 2=k):=⟨_,rfl⟩;have A5:Hid (P→Seg.kT s L g (k+1)=Seg.kT s L g k):=fun q=>Seg.b4M (by rw[hP]at q;exact q);have A7:Hid (¬P→Seg.kT s L g (k+1)=Seg.kT s L g k++[k]):=fun q=>Seg.a7A (fun r=>q (by rw[hP];exact r));rw[←hP]at HR;clear hy hP;by_cases hp:P
   ·have A1:Hid P:=hp;clear hp;go_wp2_with fail;refine HR.mono ?_;rintro e w1 ⟨⟨y,rfl,A0⟩,b1⟩;obtain rfl:y=true:=A0.2 A1.out;have BN:=BN.below b1;have b1:=bt hb b1;rw[←A5.out A1.out]at BN;clear HR A0;go_wp2_with fail;exact⟨⟨k+1,by omega,by go_num,BN,b1⟩,by simp[intOf];omega⟩
   ·have A1:=hd8 hp;clear hp;go_wp2_with fail;refine HR.mono ?_;rintro e w1 ⟨⟨y,rfl,A0⟩,b1⟩;obtain rfl:y=false:=by cases y with|false=>rfl|true=>exact absurd (A0.1 rfl) A1.out
    have BN:=BN.below b1;have b1:=bt hb b1;have bX:=aB8 w1 (.cells #[iV k] 3);have BX:=BN.below bX;have b2:=bt b1 bX;have cn:=eE w1 #[iV k] 3;have Ab:=BX.lt;clear HR A0 BN;go_wp2_with (at_builtin;go_loud (refine wpList_append_own _ rfl (.tmp 20) (.tmp 22) 27 rfl w.heap.size 3 i1 (iV 0) 1 8 underlying27 A9 A6 A8 A3 rfl (by decide) _ _ _ rfl BX (aD w1.heap.size 0) 1 1 [iV k] rfl rfl cn (by intro u hu;simp at hu;rw[hu];rfl) (by unfold maxLen;omega) (by omega) b2.size ?_;intro v3 w3 hown3 hgrow3 _));have B3:=iP.one hown3;rw[←A7.out A1.out]at B3;have b3:=b2.grown hgrow3 b2.size (fun y hy=>(Ab y hy).1);exact⟨⟨k+1,by omega,by go_num,B3,b3⟩,by simp[intOf];omega⟩
  ·obtain rfl:k=N:=by omega
   go_wp2_with fail;go_ret
   exact⟨_,rfl,BN,hb⟩
end Go.Proofs.YtmcaejooaaahdaaGreat
