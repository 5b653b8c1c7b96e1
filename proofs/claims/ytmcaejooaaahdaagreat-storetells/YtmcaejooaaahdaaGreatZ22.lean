import Derived.Test.YtmcaejooaaahdaaGreatZ21
set_option maxHeartbeats 8000000
set_option maxRecDepth 100000
namespace Go.Proofs.YtmcaejooaaahdaaGreat
open Go.Proofs.Tryz
variable {Bs xs:List Value} {C D N b base bytes i j k m m' n q sz:Nat} {U:Nat→List HeC} {V:Nat→Value} {d:Sto.Do} {ds:List Sto.Disk} {e:TypeId} {r:List Nat} {s:Sto.St} {v va vd ve vs vt z:Value} {w w' wo wr wr':World}
open Go.RowKit
def BlL(w:World)(v:Value)(L:List (List Nat)):Prop:= ∃A cap,v=.slice A L.length cap∧L.length≤cap∧cap≤maxLen∧ ∀i x,L[i]?=some x→ ∃b o u,A=some (aD b o)∧w.cell? (aD b (o+i))=some u∧cW w u x
theorem BlL.shape{L:List (List Nat)}(h:BlL w v L): ∃A C,v=.slice A L.length C:=by
 obtain⟨A,C,hv,_⟩:=h;exact⟨A,C,hv⟩
theorem BlL.lls{L:List (List Nat)}(h:BlL w v L):Lls w v L.length (Sto.f9 L) (Sto.eP L):=by
 obtain⟨A,A0,hv,h1,h2,h3⟩:=h;refine⟨fun i k=>?_,A,A0,hv,h1,h2,fun r hr=>?_⟩
 ·unfold Sto.eP;cases e:L[i]? with
  |none=>
   rw[c9R (l:=L),e];show([]:List Nat).getD k 0<256;rw[List.getD_nil];decide
  |some x=>
   obtain⟨_,_,_,_,_,hx⟩:=h3 i x e;rw[c9R (l:=L),e];exact Sto.kJ hx.1 k
 ·obtain⟨b,o,u,e1,e2,e3⟩:=h3 r L[r] (c9F hr);refine⟨b,o,u,e1,e2,?_⟩;have e:L.getD r []=L[r]:=by rw[c9R,c9F hr];rfl
  unfold Sto.f9 Sto.eP;rw[e];exact e3.byts
theorem Lls.blL{F:Nat→Nat→Nat}(h:Lls w v n (fun _=>m) F):BlL w v ((List.range n).map fun i=>bl (F i) m):=by
 obtain⟨A,A0,hv,h1,h2,h3⟩:=h.lies;have e:((List.range n).map fun i=>bl (F i) m).length=n:=by rw[c9M,d1E]
 refine⟨A,A0,by rw[e];exact hv,by rw[e];exact h1,h2,fun i x hx=>?_⟩;rw[c9S]at hx;obtain⟨j,hj,rfl⟩:=c9J.1 hx;obtain⟨hl,hj⟩:=c9H.1 hj;rw[List.getElem_range]at hj;subst hj;rw[d1E]at hl;obtain⟨b,o,u,e1,e2,e3⟩:=h3 i hl;exact⟨b,o,u,e1,e2,e3.list⟩
def BlO(e:Ending)(w:World)(x:Nat×List (List Nat)):Prop:= ∃v,e=.returned (.tuple #[v,iV x.1])∧((x.1=0∧BlL w v x.2)∨(x.1≠0∧v=nS))
section
variable {X : Sto.Six}
theorem b9S(hX:Sto.dE X)(v:Value)(r:List Nat)(seg:Nat)(c:Sto.Cfg)(w:World)(h:cW w v r):
  Calls prog 62 #[v,iV seg,iV c.d,iV c.s] w fun e w'=>BlO e w' (X.lay r seg c)∧Bl w w':=by
 refine(b1E v r.length (fun j=>r.getD j 0) seg c.d c.s w h.byts).mono ?_;rintro e w' ⟨v',rfl,hO,hb⟩;refine⟨⟨v',?_,?_⟩,hb⟩
 ·rw[hX.lay];unfold Sto.lZ;by_cases q:Seg.gU r.length seg c.d c.s=0
  ·rw[if_pos q,q]
  ·rw[if_neg q]
 ·rw[hX.lay];unfold Sto.lZ;rcases hO with⟨q,hL⟩|⟨q,rfl⟩
  ·rw[if_pos q];rw[c9Q,c9Q,c9Q]at hL;exact Or.inl ⟨rfl,hL.blL⟩
  ·rw[if_neg q];exact Or.inr ⟨q,rfl⟩
theorem a2K(hX:Sto.dE X)(v:Value)(bs:List (List Nat))(seg:Nat)(c:Sto.Cfg)(w:World)(h:BlL w v bs):
  Calls prog 64 #[v,iV seg,iV c.d] w fun e w'=> ∃v',e=.returned (.tuple #[v',iV ((X.read bs seg c).1:Nat)])∧cW w' v' (X.read bs seg c).2∧Bl w w':=by
 refine(a7P v bs.length (Sto.f9 bs) (Sto.eP bs) seg c.d w h.lls).mono ?_;rintro e w' ⟨v',rfl,hO,hb⟩;have he:=hX.err bs seg c;rw[←he]at hO⊢;refine⟨v',rfl,?_,hb⟩;rcases hO with⟨q,r,r1,r2,hy⟩|⟨q,rfl⟩
 ·rw[c9Q]at r2 hy;rw[hX.told bs seg c q r r1 r2];exact hy.list
 ·rw[hX.none bs seg c q];exact cW.nil w'
theorem a7O(hX:Sto.dE X)(v:Value)(bs:List (List Nat))(seg:Nat)(w:World)(h:BlL w v bs)(hl:bs.length≤12):
  Calls prog 37 #[v,iV seg] w fun e w'=> ∃v',e=.returned v'∧iP w' w.heap.size v' (X.bad bs seg)∧Bl w w':=by
 rw[hX.bad];exact a7I v bs.length (Sto.f9 bs) (Sto.eP bs) seg w h.lls (by omega)
end
def fB(w w':World):Prop:= ∀p u,w.cell? p=some u→w'.cell? p=some u
theorem fB.of_below(hb:Bl w w'):fB w w':=fun p _ h=>(hb.cell (p:=p) (World.block_lt_of_cell? _ _ h)).trans h
theorem cW.sub(h:cW w v r)(hs:fB w w'):cW w' v r:=by
 obtain⟨h0,A,A0,hv,h1,h2,h3⟩:=h;refine⟨h0,A,A0,hv,h1,h2,fun i x hx=>?_⟩;obtain⟨b,o,e1,e2⟩:=h3 i x hx;exact⟨b,o,e1,hs _ _ e2⟩
theorem Hes.sub{l:List (Int×List Nat)}(h:Hes w v l)(hs:fB w w'):Hes w' v l:=by
 obtain⟨A,A0,hv,h1,h2,h3⟩:=h;refine⟨A,A0,hv,h1,h2,fun i x hx=>?_⟩;obtain⟨b,o,e1,u,e2,e3,e4⟩:=h3 i x hx;exact⟨b,o,e1,u,hs _ _ e2,hs _ _ e3,e4.sub hs⟩
theorem BlL.sub{L:List (List Nat)}(h:BlL w v L)(hs:fB w w'):BlL w' v L:=by
 obtain⟨A,A0,hv,h1,h2,h3⟩:=h;refine⟨A,A0,hv,h1,h2,fun i x hx=>?_⟩;obtain⟨b,o,u,e1,e2,e3⟩:=h3 i x hx;exact⟨b,o,u,e1,hs _ _ e2,e3.sub hs⟩
theorem Evs.sub{l:List Evt.Ev}(h:Evs w v l)(hs:fB w w'):Evs w' v l:=by
 obtain⟨A,A0,hv,h1,h2,h3⟩:=h;refine⟨A,A0,hv,h1,h2,fun i x hx=>?_⟩;obtain⟨b,o,e1,u,q1,q2,e2,e3,e4⟩:=h3 i x hx;exact⟨b,o,e1,u,q1,q2,hs _ _ e2,hs _ _ e3,hs _ _ e4⟩
theorem bJ.sub{l:List Vw.Acc}(h:bJ w v l)(hs:fB w w'):bJ w' v l:=by
 obtain⟨A,A0,hv,h1,h2,h3⟩:=h;refine⟨A,A0,hv,h1,h2,fun i x hx=>?_⟩;obtain⟨b,o,e1,u,q1,q2,e2,e3,e4,e5⟩:=h3 i x hx;exact⟨b,o,e1,u,q1,q2,hs _ _ e2,hs _ _ e3,hs _ _ e4,hs _ _ e5⟩
theorem eU.sub{l:List Evt.Bat}(h:eU w v l)(hs:fB w w'):eU w' v l:=by
 obtain⟨A,A0,hv,h1,h2,h3⟩:=h;refine⟨A,A0,hv,h1,h2,fun i x hx=>?_⟩;obtain⟨b,o,e1,u,e2,e3,e4⟩:=h3 i x hx;exact⟨b,o,e1,u,hs _ _ e2,hs _ _ e3,e4.sub hs⟩
theorem Nms.sub{l:List Int}(h:Nms w v l)(hs:fB w w'):Nms w' v l:=by
 obtain⟨A,A0,hv,h1,h2,h3⟩:=h;refine⟨A,A0,hv,h1,h2,fun i x hx=>?_⟩;obtain⟨b,o,e1,e2⟩:=h3 i x hx;exact⟨b,o,e1,hs _ _ e2⟩
theorem Dks.sub{l:List Sto.aL}(h:Dks w v l)(hs:fB w w'):Dks w' v l:=by
 obtain⟨A,A0,hv,h1,h2,h3⟩:=h;refine⟨A,A0,hv,h1,h2,fun i x hx=>?_⟩;obtain⟨b,o,e1,u,e2,e3,e4⟩:=h3 i x hx;exact⟨b,o,e1,u,hs _ _ e2,hs _ _ e3,e4.sub hs⟩
theorem jT.sub(h:jT w vd vt vs va s)(hs:fB w w'):jT w' vd vt vs va s:=⟨h.dk.sub hs,h.tl.sub hs,h.sn.sub hs,h.ac.sub hs⟩
theorem tM.sub{t:ByteArray}(h:tM w d ve t)(hs:fB w w'):tM w' d ve t:=⟨h.evs.sub hs,h.name,h.sz,h.byte⟩
def aS(S:Nat→Bool)(w:World):World:={w with heap:=w.heap.mapIdx fun i o=>if S i then .cells #[] 0 else o}
theorem lK{S:Nat→Bool}(h:S k=false):(aS S w).heap[k]?=w.heap[k]?:=by
 unfold aS;simp only[Array.getElem?_mapIdx,h];cases w.heap[k]?<;>rfl
theorem eY{S:Nat→Bool}{p:Addr}(h:S p.block=false):(aS S w).cell? p=w.cell? p:=World.cell?_of_block (lK h)
theorem kE{S:Nat→Bool}{p:Addr}{u:Value}(h:(aS S w).cell? p=some u):S p.block=false∧w.cell? p=some u:=by
 have hn:S p.block=false:=by
  cases e:S p.block with
  |false=>rfl
  |true=>
   exfalso;unfold World.cell? aS at h;simp only[Array.getElem?_mapIdx,e]at h;cases hw:w.heap[p.block]?<;>rw[hw]at h<;>simp at h
 exact⟨hn,(eY hn).symm.trans h⟩
theorem mD(S:Nat→Bool)(w:World):fB (aS S w) w:=fun _ _ h=>(kE h).2
theorem uW{S:Nat→Bool}(ho:Off (fun k=>S k=true) w w'):fB (aS S w) (aS S w'):=fun p u h=>by
 obtain⟨h1,h2⟩:=kE h
 rw[eY h1]
 exact(World.cell?_of_block (w:=w) (a:=p) (ho.block p.block (World.block_lt_of_cell? _ _ h2) (by rw[h1];decide))).trans h2
theorem kB{S:Nat→Bool}(hD:S D=true)(ho:Off (fun k=>k=D) w w'):fB (aS S w) (aS S w'):=uW (ho.wider fun k hk=>by rw[hk];exact hD)
theorem cQ{S:Nat→Bool}(hb:Bl w w'):fB (aS S w) (aS S w'):=uW (Off.of_below hb)
theorem jD(S:Nat→Bool)(w:World):Off (fun k=>S k=true) w (aS S w):=
 ⟨rfl,rfl,rfl,by unfold aS;simp,fun k _ h=>lK (by cases e:S k with|false=>rfl|true=>exact absurd e h)⟩
theorem tE{S:Nat→Bool}(ho:Off (fun k=>S k=true) w w'):fB (aS S w) w':=fun p u h=>by
 obtain⟨h1,h2⟩:=kE h
 exact(World.cell?_of_block (w:=w) (a:=p) (ho.block p.block (World.block_lt_of_cell? _ _ h2) (by rw[h1];decide))).trans h2
structure DkJ(w:World)(S:Nat→Bool)(D:Nat)(V:Nat→Value)(ds:List Sto.aL):Prop where
 sD:S D=true
 row:aY w D 58 (ds.length*2) (dkF V ds)
 hes: ∀i d,ds[i]?=some d→Hes (aS S w) (V i) d.bl
theorem DkJ.off{S:Nat→Bool}(h:DkJ w S D V ds)(hb:Bl w w'):DkJ w' S D V ds:=
 ⟨h.sD,h.row.below hb,fun i d hd=>(h.hes i d hd).sub (cQ hb)⟩
theorem DkJ.gone{S:Nat→Bool}(h:DkJ w S D V ds){d:Sto.aL}(hi:ds[i]?=some d):w.cell? (aD D (i*2))=some (.bool d.gone):=by
 have hl:i<ds.length:=(c9H.1 hi).1;rw[h.row.cell (show i*2<ds.length*2 by omega)];unfold dkF;rw[if_pos (by omega),show i*2/2=i by omega,c9R,hi];rfl
theorem DkJ.held{S:Nat→Bool}(h:DkJ w S D V ds)(hi:i<ds.length):w.cell? (aD D (i*2+1))=some (V i):=by
 rw[h.row.cell (show i*2+1<ds.length*2 by omega)];unfold dkF;rw[if_neg (by omega),show(i*2+1)/2=i by omega]
theorem DkJ.set{S:Nat→Bool}(h:DkJ w S D V ds){d:Sto.aL}(hi:ds[i]?=some d)(v:Value)(l:List (Int×List Nat))(hl:Hes (aS S w) v l):DkJ (w.setCell (aD D (i*2+1)) v) S D (upd V i v) (ds.set i ⟨d.gone,l⟩):=by
 have A0:i<ds.length:=(c9H.1 hi).1;have A1:=aG w (aD D (i*2+1)) v;refine⟨h.sD,?_,fun j x hx=>?_⟩
 ·rw[d0B];refine(h.row.set (i*2+1) v).congr fun j hj=>?_;unfold dkF;by_cases e:j=i*2+1
  ·rw[if_pos e,if_neg (by omega),show j/2=i by omega,bM]
  ·rw[if_neg e];by_cases q:j%2=0
   ·rw[if_pos q,if_pos q,c9R,c9R];by_cases z:j/2=i
    ·rw[z,d0O A0,hi];rfl
    ·rw[d0P (fun y=>z y.symm)]
   ·rw[if_neg q,if_neg q,aV _ _ (by omega)]
 ·by_cases e:j=i
  ·subst e;rw[d0O A0]at hx;cases hx
   rw[bM];exact hl.sub (kB h.sD A1)
  ·rw[d0P (fun z=>e z.symm)]at hx;rw[aV _ _ e];exact(h.hes j x hx).sub (kB h.sD A1)
theorem DkJ.dks{S:Nat→Bool}(h:DkJ w S D V ds)(h1:ds.length≤C)(h2:C≤maxLen):Dks w (.slice (some (aD D 0)) ds.length C) ds:=by
 refine⟨_,C,rfl,h1,h2,fun i x hx=>⟨D,0,rfl,V i,?_,?_,(h.hes i x hx).sub (mD S w)⟩⟩
 ·rw[c9G];exact h.gone hx
 ·rw[c9G];exact h.held (c9H.1 hx).1
theorem b4E{es:List HeC}{S:Nat→Bool}(h:w.ownsRow N 61 2 v es.length (es.flatMap aI))(hD: ∀g,v.ownBlock=some g→S g=false)(hb: ∀x,x∈es→cW (aS S w) (slV x.2.1) x.2.2):Hes (aS S w) v (es.map kQ):=by
 obtain⟨A,C,rfl,h1,h2,h3⟩:=bI h;refine⟨A,C,by rw[c9M],by rw[c9M];exact h1,h2,fun i x hx=>?_⟩;rw[c9S]at hx;obtain⟨e,he,rfl⟩:=c9J.1 hx;obtain⟨g,rfl⟩:=h3 (by have:=(c9H.1 he).1;omega);have c0:=iI (f:=aI) h (fun _ _=>rfl) (g:=g) rfl (j:=0) he rfl;have c1:=iI (f:=aI) h (fun _ _=>rfl) (g:=g) rfl (j:=1) he rfl;have hg:=hD g rfl;refine⟨g,0,rfl,slV e.2.1,?_,?_,hb e (c9N he)⟩
 ·rw[eY hg,c9G];exact c0
 ·rw[eY hg,c9G];exact c1
theorem dM.dkJ{S:Nat→Bool}(h:dM w N D V U ds)(hD:S D=true)(hS: ∀k,S k=true→k<N∨ ∃t,TyB w k t∧t≠61∧t≠5):DkJ w S D V ds:=by
 have A0: ∀k t,N≤k→TyB w k t→t=61∨t=5→S k=false:=fun k t hN ht e=>by
  cases q:S k with
  |false=>rfl
  |true=>
   obtain⟨t',h1,h2,h3⟩:=(hS k q).resolve_left (by omega);have A3:t≠t':=by
    rcases e with rfl|rfl
    ·exact fun z=>h2 z.symm
    ·exact fun z=>h3 z.symm
   exact absurd rfl (ht.ne h1 A3)
 refine⟨hD,h.row,fun i d hd=>?_⟩;have hi:i<ds.length:=(c9H.1 hd).1;rw[h.bl i d hd];refine b4E (h.own i hi) (fun g hg=>A0 g _ ((h.own i hi).lt g hg).1 (aU (h.own i hi) hg) (Or.inl rfl)) fun x hx=>?_
 ·have hO:=h.byt i x hi hx;have hB:=hO.bytL;obtain⟨g,A4,hv,hg,_,_,hr⟩:=hO.at;obtain⟨b0,A,A1,A2,q1,q2,q3⟩:=hB;refine⟨b0,A,A1,A2,q1,q2,fun j y hy=>?_⟩;obtain⟨b,o,e1,e2⟩:=q3 j y hy;refine⟨b,o,e1,?_⟩;rw[hv]at A2;cases A2
  cases e1
  rw[eY (A0 _ _ hg hr.ty (Or.inr rfl))];exact e2
theorem yI{P:Program}{w:World}(base:Nat)(t ty e:TypeId)(i:TypeInfo)(size c:Nat)(ht:P.underlying t=some (.slice e))(hi:P.info? e=some i)
  (v:Value) (n:Nat) (xs:List Value) (hown:w.ownsRow base e size v n xs):
  (Builtin.append_ #[t,t] ty #[v,.slice none 0 c]).run P w=.ok v w:=by
 rcases hown.2 with⟨rfl,rfl⟩|⟨g,A2,A1,rfl,_,_,A0,_⟩
 ·simp[Builtin.append_,run_underlying ht,sizeOf,typeInfo,hi,Builtin.lenOf,Builtin.firstCells]
 ·simp[Builtin.append_,run_underlying ht,sizeOf,typeInfo,hi,Builtin.lenOf,Builtin.firstCells,A0,storeCells]
theorem wV(t:TypeId)(ht:prog.underlying t=some (.slice e))(hin:(prog.info? e).map (fun i=>(i.zero,i.size,i.bytes))=some (some z,sz,bytes))(hzs:z.cells.size=sz)(hsz:0<sz)(hby:bytes≤1000)(hown:w.ownsRow base e sz v n xs)
  (A:Option Addr) (m c:Nat) (hA:A=none→m=0) (news:List Value) (hl:news.length=m*sz) (hc: ∀a,A=some a→ ∀j u,news[j]?=some u→w.cell? (a.add j)=some u) (h1: ∀u,u∈news→u.oneCell'=true) (hnm:n+m≤100000) (hb:base≤w.heap.size):
  ∃v' w',(Builtin.append_ #[t,t] t #[v,.slice A m c]).run prog w=.ok v' w'∧w'.ownsRow base e sz v' (n+m) (xs++news)∧w.grownBy w' v.ownBlock∧(v'.ownBlock=v.ownBlock∨v'.ownBlock=some w.heap.size):=by
 obtain⟨i0,hi,hh⟩:=c9J.1 hin;simp only[Prod.mk.injEq]at hh;obtain⟨A0,A1,A2⟩:=hh;cases A with
 |none=>
  obtain rfl:m=0:=hA rfl;obtain rfl:news=[]:=d0N (by rw[hl,Nat.zero_mul]);refine⟨v,w,yI base t t e i0 sz c ht hi v n xs hown,by rw[d0W];exact hown,⟨rfl,rfl,rfl,c9C _,fun _ _ _=>rfl⟩,Or.inl rfl⟩
 |some a=>
  have hm:(n+m)*bytes≤100000*1000:=d0Y hnm hby
  obtain⟨v',w',hr,h2,h3,_,h5⟩:=run_append_own_at (P:=prog) w base t t e i0 z sz bytes ht hi A0 A1 A2 hzs hsz v n xs hown a m c news hl (hc a rfl) h1 (by unfold maxLen;omega) (by omega) hb;exact⟨v',w',hr,h2,h3,h5⟩
theorem lB{row:Option Nat}(h:w.grownBy w' row)(hr: ∀g,row=some g→N≤g)(hN:N≤w.heap.size):Below N w w':=⟨h.os,h.tape,h.output,h.size,fun k hk=>h.block k (by omega) fun e=>by have:=hr k e.symm;omega⟩
abbrev stA(x y z:Int)(vd:Value)(g:Int)(vt vs:Value)(u:Int)(va:Value):Value:=.agg #[iV x,iV y,iV z,vd,iV g,vt,vs,iV u,va]
def b7V(ds:List Sto.aL)(k:Int)(q j:Nat):List Nat:=if j<q then(Sto.aJ ds k).getD j []else[]
def BsI(w:World)(ds:List Sto.aL)(k:Int)(n q:Nat)(Bs:List Value):Prop:=Bs.length=n∧ ∀j u,Bs[j]?=some u→cW w u (b7V ds k q j)
def BsJ(w:World)(ds:List Sto.aL)(k:Int)(n q j:Nat)(d:Sto.aL)(Bs:List Value):Prop:=Bs.length=n∧(∀i u,i≠q→Bs[i]?=some u→cW w u (b7V ds k q i))∧ ∃u cur,Bs[q]?=some u∧cW w u cur∧(d.gone=true→cur=[])∧(d.gone=false→Sto.lI k (d.bl.drop j) cur=Sto.lI k d.bl [])
theorem BsI.to{k:Int}{d:Sto.aL}(h:BsI w ds k n q Bs)(hq:q<n):BsJ w ds k n q 0 d Bs:=by
 refine⟨h.1,fun i u _ hi=>h.2 i u hi,Bs[q]'(by rw[h.1];exact hq),[],c9F _,?_,fun _=>rfl,fun _=>rfl⟩;have:=h.2 q _ (c9F (by rw[h.1];exact hq));unfold b7V at this;rw[if_neg (d0V q)]at this;exact this
theorem BsJ.out{k:Int}{d:Sto.aL}(h:BsJ w ds k n q d.bl.length d Bs)(hd:ds[q]?=some d):BsI w ds k n (q+1) Bs:=by
 obtain⟨h1,h2,u,A0,h3,h4,h5,h6⟩:=h;refine⟨h1,fun i v hi=>?_⟩;by_cases e:i=q
 ·subst e;rw[h3]at hi;cases hi
  unfold b7V;rw[if_pos (d1F i),c9R,Sto.aJ,c9S,hd];show cW w u (if d.gone then[]else Sto.lI k d.bl []);cases g:d.gone with
  |true=>
   rw[if_pos rfl,←h5 g];exact h4
  |false=>
   rw[if_neg (by decide),←h6 g,d0T];exact h4
 ·have:=h2 i v e hi;unfold b7V at this⊢;by_cases z:i<q
  ·rw[if_pos z]at this;rw[if_pos (by omega)];exact this
  ·rw[if_neg z]at this;rw[if_neg (by omega)];exact this
theorem b0H{α:Type}{l:List α}{x:α}(h:l[j]?=some x):l.drop j=x::l.drop (j+1):=by
 obtain⟨hl,rfl⟩:=c9H.1 h;exact d2L hl
theorem BsJ.skip{k:Int}{d:Sto.aL}{x:Int×List Nat}(h:BsJ w ds k n q j d Bs)(hx:d.bl[j]?=some x)(hn:d.gone=true∨x.1≠k):BsJ w ds k n q (j+1) d Bs:=by
 obtain⟨h1,h2,u,A0,h3,h4,h5,h6⟩:=h;refine⟨h1,h2,u,A0,h3,h4,h5,fun g=>?_⟩;have:=h6 g;have A1:x.1≠k:=by
  rcases hn with y|y
  ·rw[g]at y;cases y
  ·exact y
 rw[b0H hx,Sto.lI,if_neg A1]at this;exact this
theorem BsJ.take{k:Int}{d:Sto.aL}{x:Int×List Nat}(h:BsJ w ds k n q j d Bs)(hq:q<n)(hx:d.bl[j]?=some x)(hg:d.gone=false)(hk:x.1=k)(hv:cW w v x.2):BsJ w ds k n q (j+1) d (Bs.set q v):=by
 obtain⟨h1,h2,u,A0,h3,h4,h5,h6⟩:=h;refine⟨by rw[d0B];exact h1,fun i y hi hy=>?_,v,x.2,d0O (by rw[h1];exact hq),hv,fun g=>?_,fun g=>?_⟩
 ·rw[d0P (fun z=>hi z.symm)]at hy;exact h2 i y hi hy
 ·rw[hg]at g;cases g
 ·have:=h6 g;rw[b0H hx,Sto.lI,if_pos hk]at this;exact this
theorem rE(x y z g u:Int)(vd vt vs va:Value)(ds:List Sto.aL)(k:Int)(w:World)(h:Dks w vd ds)(hn:ds.length≤12)(ht: ∃A n C,vt=.slice A n C)(hs: ∃A n C,vs=.slice A n C)(ha: ∃A n C,va=.slice A n C):
  Calls prog 38 #[stA x y z vd g vt vs u va,iV k] w fun e w'=> ∃v',e=.returned v'∧BlL w' v' (Sto.aJ ds k)∧Bl w w':=by
 obtain⟨At,nt,Ct,rfl⟩:=ht;obtain⟨As,ns,Cs,rfl⟩:=hs;obtain⟨Aa,na,Ca,rfl⟩:=ha;obtain⟨Ad,Cd,rfl,B9,An,Al⟩:=h;obtain⟨n,Ag⟩: ∃n,n=ds.length:=⟨_,rfl⟩;rw[←Ag]at hn B9⊢;have B6:=hd8 Al;have Ax:=hd8 Ag;have Bj:=run_make_row' (P:=prog) 86 59 nS 24 underlying86 Tryz.infoRow rfl .i64 .i64 n (by omega) (by omega);have An:=mL8 An;have b1:=aB8 w (.cells #[iV x,iV y,iV z,.slice Ad n Cd,iV g,.slice At nt Ct,.slice As ns Cs,iV u,.slice Aa na Ca] 32);clear Al Ag;go_enter func38,ntmps38
 go_upto_region 1 with fail
 have VS:=aC w #[iV x,iV y,iV z,.slice Ad n Cd,iV g,.slice At nt Ct,.slice As ns Cs,iV u,.slice Aa na Ca] 32;obtain⟨w1,B1⟩: ∃q,q=w.alloc (.cells #[iV x,iV y,iV z,.slice Ad n Cd,iV g,.slice At nt Ct,.slice As ns Cs,iV u,.slice Aa na Ca] 32):=⟨_,rfl⟩;rw[←B1]at b1 VS⊢;obtain⟨P,hP⟩: ∃q,q=w.heap.size:=⟨_,rfl⟩;rw[←hP]at VS⊢;have c3:=VS.q3;have R0:(w1.alloc (.cells (madeCells #[nS] n) 59)).ownsRow w1.heap.size 59 1 (.slice (some (aD w1.heap.size 0)) n n) n (List.replicate n nS):=by
  have:=World.ownsRow_lit w1 (madeCells #[nS] n) n (e:=59) (size:=1) (c9C w1.heap.size) (by unfold maxLen;omega) (by simp[madeCells]);rw[toList_madeCells_one]at this;exact this
 have b2:=aB8 w1 (.cells (madeCells #[nS] n) 59);have Bb:=cB8 b2 c3
 have Bc:Hid (BsI w ds k n 0 (List.replicate n nS)):=⟨List.length_replicate,fun j v hj=>by
  rw[(List.mem_replicate.1 (c9N hj)).2]
  exact cW.nil w⟩
 have hO:w.heap.size≤w1.heap.size:=b1.size;have Ar:=bt b1 b2;clear B1 VS hP b1;go_wp2_with fail;obtain⟨w2,B2⟩: ∃q,q=w1.alloc (.cells (madeCells #[nS] n) 59):=⟨_,rfl⟩;rw[←B2]at R0 b2 Bb Ar⊢;obtain⟨O,Ao⟩: ∃q,q=w1.heap.size:=⟨_,rfl⟩;rw[←Ao]at R0 hO⊢;clear B2 c3 b2 Ao;go_loopw [17] (fun x wr=> ∃q:Nat,q≤n∧x=iV q∧Hid (∃Bs,wr.ownsRow O 59 1 (.slice (some (aD O 0)) n n) n Bs∧BsI w ds k n q Bs)∧Hid (Bl w wr)) (fun x _=>n-(intOf x).toNat)
 case atStart=>exact⟨0,c9D _,rfl,⟨_,R0,Bc.out⟩,Ar⟩
 case round=>
  obtain⟨q,hq,rfl,HR,HB⟩:=hrel;by_cases Af:q<n
  ·have B3:(q:Int)<(n:Int):=by omega
   obtain⟨d,Ai⟩: ∃d,ds[q]?=some d:=⟨ds[q]'(by rw[←Ax.out];exact Af),c9F _⟩;obtain⟨b,o,rfl,vh,g0,g1,hh⟩:=B6.out q d Ai;have g0:=(HB.out.cell (p:=⟨b,o+q*2,none⟩) (World.block_lt_of_cell? _ _ g0)).trans g0;have g1:=(HB.out.cell (p:=⟨b,o+q*2+1,none⟩) (World.block_lt_of_cell? _ _ g1)).trans g1;obtain⟨Ah,Ch,rfl,Be,Au,Aw⟩:=hh;obtain⟨m,Aj⟩: ∃m,m=d.bl.length:=⟨_,rfl⟩;rw[←Aj]at g1 Be;have Au:=mL8 Au;have B8:=hd8 Aw;have Az:=hd8 Aj;have B4:=hd8 Ai;obtain⟨Bs,A1,A6⟩:=HR.out;obtain⟨wo,Bi⟩: ∃y,y=wr:=⟨wr,rfl⟩;have VD:=aC wr #[.bool d.gone,.slice Ah m Ch] 58;have bA:=aB8 wr (.cells #[.bool d.gone,.slice Ah m Ch] 58);have Aq:Hid (∃Bs,(wr.alloc (.cells #[.bool d.gone,.slice Ah m Ch] 58)).ownsRow O 59 1 (.slice (some (aD O 0)) n n) n Bs∧BsJ w ds k n q 0 d Bs):=⟨Bs,aK A1 bA,A6.to Af⟩;have Av:=hd8 (bt HB.out bA);have Ay:O<wr.heap.size:=(A1.lt O rfl).2;have Ab:Hid (aW (wr.alloc (.cells #[.bool d.gone,.slice Ah m Ch] 58)) wr.heap.size 58 [.bool d.gone,.slice Ah m Ch]∧O<wr.heap.size):=⟨VD,Ay⟩;clear Ai Aw Aj HR HB A1 A6 VD bA Ay;go_upto_region 5 with fail
   obtain⟨w3,B0⟩: ∃y,y=wr.alloc (.cells #[.bool d.gone,.slice Ah m Ch] 58):=⟨_,rfl⟩;rw[←B0]at Aq Av Ab⊢;obtain⟨Q,hQ⟩: ∃y,y=wr.heap.size:=⟨_,rfl⟩;rw[←hQ]at Ab⊢;have d0:=Ab.out.1.q0;have d1:=Ab.out.1.q1;clear B0 hQ g0 g1;go_wp2_with fail;go_loopw [25] (fun x wr=> ∃j:Nat,j≤m∧x=iV j∧Hid (∃Bs,wr.ownsRow O 59 1 (.slice (some (aD O 0)) n n) n Bs∧BsJ w ds k n q j d Bs)∧Hid (Bl w wr∧aW wr Q 58 [.bool d.gone,.slice Ah m Ch])) (fun x _=>m-(intOf x).toNat)
   case atStart=>exact⟨0,c9D _,rfl,Aq,Av.out,Ab.out.1⟩
   case round=>
    obtain⟨j,hj,rfl,HR,HB⟩:=hrel;by_cases B7:j<m
    ·have B5:(j:Int)<(m:Int):=by omega
     obtain⟨x9,A5⟩: ∃x,d.bl[j]?=some x:=⟨d.bl[j]'(by rw[←Az.out];exact B7),c9F _⟩;obtain⟨b9,o9,rfl,v9,e0,e1,e2⟩:=B8.out j x9 A5;have e0:=(HB.out.1.cell (p:=⟨b9,o9+j*2,none⟩) (World.block_lt_of_cell? _ _ e0)).trans e0;have e1:=(HB.out.1.cell (p:=⟨b9,o9+j*2+1,none⟩) (World.block_lt_of_cell? _ _ e1)).trans e1;have Ac:=hd8 e2;obtain⟨_,A9,C9,rfl,_⟩:=e2;obtain⟨r9,Ae⟩: ∃y,y=x9.2.length:=⟨_,rfl⟩;rw[←Ae]at e1 Ac;obtain⟨s9,A7⟩: ∃y,y=x9.1:=⟨_,rfl⟩;rw[←A7]at e0;have bA:=aB8 wr (.cells #[iV s9,.slice A9 r9 C9] 61);have f0:=(HB.out.2.below bA).q0;obtain⟨Bs,A1,A2⟩:=HR.out;have A0:=aK A1 bA;have A3:Hid (Bl w (wr.alloc (.cells #[iV s9,.slice A9 r9 C9] 61))∧aW (wr.alloc (.cells #[iV s9,.slice A9 r9 C9] 61)) Q 58 [.bool d.gone,.slice (some (aD b9 o9)) m Ch]):=⟨bt HB.out.1 bA,HB.out.2.below bA⟩;by_cases hk:s9=k
     ·by_cases hg:d.gone=true
      case pos=>
       have A4:Hid (∃Bs,(wr.alloc (.cells #[iV s9,.slice A9 r9 C9] 61)).ownsRow O 59 1 (.slice (some (aD O 0)) n n) n Bs∧BsJ w ds k n q (j+1) d Bs):=⟨Bs,A0,A2.skip A5 (Or.inl hg)⟩;rw[hg]at f0;have Ap:=beq_iff_eq.2 hk;clear HR HB A1 A2 A0 A5 hk hg Ac Ae A7;go_wp2_with fail;exact⟨⟨j+1,by omega,by go_num,A4,A3⟩,by simp[intOf];omega⟩
      case neg=>
       have hg:d.gone=false:=by simpa using hg
       have A8:=A2.take Af A5 hg (A7.symm.trans hk) (show cW w (.slice A9 r9 C9) x9.2 from Ac.out);have Am:=A0.stored q (.slice A9 r9 C9);have A4:Hid (∃Bs,((wr.alloc (.cells #[iV s9,.slice A9 r9 C9] 61)).setCell (aD O q) (.slice A9 r9 C9)).ownsRow O 59 1 (.slice (some (aD O 0)) n n) n Bs∧BsJ w ds k n q (j+1) d Bs):=⟨_,Am.1,A8⟩;have Ba:Hid (Bl w ((wr.alloc (.cells #[iV s9,.slice A9 r9 C9] 61)).setCell (aD O q) (.slice A9 r9 C9))∧aW ((wr.alloc (.cells #[iV s9,.slice A9 r9 C9] 61)).setCell (aD O q) (.slice A9 r9 C9)) Q 58 [.bool d.gone,.slice (some (aD b9 o9)) m Ch]):=⟨A3.out.1.setCell hO _,A3.out.2.off (aG _ (aD O q) _) fun z=>(aU A0 rfl).ne A3.out.2.ty (by decide) z.symm⟩;have Bf:=A0.frozenAt q;obtain⟨u0,Bh⟩: ∃u0,(wr.alloc (.cells #[iV s9,.slice A9 r9 C9] 61)).cell? (aD O q)=some u0:=by
        obtain⟨g,Bg,hv,_,_,_,_,hc⟩:=dB A0 (by omega);cases hv
        exact⟨_,hc q _ (c9F (by rw[A2.1];exact Af))⟩
       rw[hg]at f0;have Ap:=beq_iff_eq.2 hk;clear HR HB A3 A1 A2 A8 A0 A5 hk hg Ac Ae A7 Am;go_wp2_with fail;exact⟨⟨j+1,by omega,by go_num,A4,Ba⟩,by simp[intOf];omega⟩
     ·have A4:Hid (∃Bs,(wr.alloc (.cells #[iV s9,.slice A9 r9 C9] 61)).ownsRow O 59 1 (.slice (some (aD O 0)) n n) n Bs∧BsJ w ds k n q (j+1) d Bs):=⟨Bs,A0,A2.skip A5 (Or.inr (by rw[←A7];exact hk))⟩;have Ap:(s9==k)=false:=by rw[beq_eq_false_iff_ne];exact hk
      clear HR HB A1 A2 A0 A5 hk Ac Ae A7;go_wp2_with fail;exact⟨⟨j+1,by omega,by go_num,A4,A3⟩,by simp[intOf];omega⟩
    ·obtain rfl:j=m:=by omega
     obtain⟨Bs,A1,A2⟩:=HR.out
     have A4:Hid (∃Bs,wr.ownsRow O 59 1 (.slice (some (aD O 0)) n n) n Bs∧BsI w ds k n (q+1) Bs):=⟨Bs,A1,by
      rw[Az.out]at A2
      exact A2.out B4.out⟩
     have A3:=hd8 HB.out.1;clear HR HB A1 A2;go_wp2_with fail;exact⟨⟨q+1,by omega,by go_num,A4,A3⟩,by simp[intOf];omega⟩
  ·obtain rfl:q=n:=by omega
   obtain⟨Bs,A1,A6⟩:=HR.out;have HF:Hid (BlL wr (.slice (some (aD O 0)) q q) (Sto.aJ ds k)):=by
    have hl:(Sto.aJ ds k).length=q:=by rw[Sto.aJ,c9M,Ax.out]
    refine⟨_,q,by rw[hl],by rw[hl];exact c9C _,by unfold maxLen;omega,fun i x hx=>?_⟩;have hi:i<q:=by
     rw[←hl];exact(c9H.1 hx).1
    obtain⟨u9,Ak⟩: ∃u9,Bs[i]?=some u9:=⟨Bs[i]'(by rw[A6.1];exact hi),c9F _⟩;have hc:=A1.cells rfl i u9 Ak;rw[WideShapes.add_plain]at hc;have hb:=A6.2 i u9 Ak;unfold b7V at hb;rw[if_pos hi,c9R,hx]at hb;exact⟨O,0,u9,rfl,hc,hb.below HB.out⟩
   have A3:=HB.out;clear HR A1 A6;go_wp2_with fail;go_ret
   exact⟨_,rfl,HF.out,A3⟩
def nN{α:Type}(a b:List α)(i:Nat):List α:=a.take i++b.drop i
theorem a8Z{α:Type}{a b:List α}(h:a.length=b.length)(i:Nat):(nN a b i).length=b.length:=by
 unfold nN;rw[c9I,c9K,d0A];omega
theorem b9T{α:Type}{a b:List α}(h:a.length=b.length):nN a b b.length=a:=by
 unfold nN;rw[d0T,d0W,←h,d0L]
theorem b4A{α:Type}{a b:List α}(h:a.length=b.length)(hi:i<b.length):(nN a b i)[i]?=b[i]?:=by
 unfold nN;rw[d0S (by rw[c9K];omega),c9K,Nat.min_eq_left (by omega),d1L,d0J,d0X]
theorem a7T{α:Type}{a b:List α}(h:a.length=b.length){x:α}(hi:a[i]?=some x):(nN a b i).set i x=nN a b (i+1):=by
 have hl:=(c9H.1 hi).1;bK d1I;intro j;by_cases e:j=i
 ·subst e;rw[d0O (by rw[a8Z h];omega)];unfold nN;rw[d0M (by rw[c9K];omega),d0C,if_pos (by omega),hi]
 ·rw[d0P (fun z=>e z.symm)];unfold nN;by_cases q:j<i
  ·rw[d0M (by rw[c9K];omega),d0M (by rw[c9K];omega),d0C,d0C,if_pos q,if_pos (by omega)]
  ·rw[d0S (by rw[c9K];omega),d0S (by rw[c9K];omega),d0J,d0J,c9K,c9K,Nat.min_eq_left (by omega),Nat.min_eq_left (by omega)];congr 1;omega
theorem b6M{α:Type}{a b:List α}(h:a.length=b.length){x:α}(hi:a[i]?=some x)(hb:b[i]?=some x):nN a b i=nN a b (i+1):=by
 rw[←a7T h hi];have hl:=(c9H.1 hb).1;have:=b4A h hl;rw[hb]at this;bK d1I;intro j;by_cases e:j=i
 ·subst e;rw[d0O (by rw[a8Z h];exact hl),this]
 ·rw[d0P (fun z=>e z.symm)]
theorem b9P{es:List HeC}(h:w.ownsRow base 61 2 v es.length (es.flatMap aI))(y:HeC)(hb:base≤w.heap.size)(hl:es.length+1≤1000):
  ∃v' w',(Builtin.append_ #[56,56] 56 #[v,.slice (some (aD w.heap.size 0)) 1 1]).run prog (w.alloc (.cells #[iV y.1,slV y.2.1] 61))=.ok v' w'∧w'.ownsRow base 61 2 v' (es++[y]).length ((es++[y]).flatMap aI)∧Below base w w'∧Off (fun k=>v.ownBlock=some k) w w':=by
 have bA:=aB8 w (.cells #[iV y.1,slV y.2.1] 61);have hc:=aC w #[iV y.1,slV y.2.1] 61
 obtain⟨v',w',hr,h2,h3,_⟩:=wV 56 underlying56 Tryz.infoH rfl (by decide) (by decide) (aK h bA) (some (aD w.heap.size 0)) 1 1 (fun e=>by cases e) (aI y) rfl (fun a e j u hj=>by
  cases e
  rw[WideShapes.add_plain,c9G]
  exact hc.cell hj) (fun u hu=>by
  have:=uD [y] u (by simpa using hu)
  exact this) (by omega) (c9E hb bA.size)
 refine⟨v',w',hr,?_,?_,(Off.of_below bA).trans (cJ h3)⟩
 ·rw[c9I,d0H];simpa using h2
 ·have hg:=lB h3 (fun g hg=>(h.lt g hg).1) (c9E hb bA.size);exact⟨hg.os.trans bA.os,hg.tape.trans bA.tape,hg.output.trans bA.output,c9E bA.size hg.size,fun k hk=>(hg.block k hk).trans (bA.block k (c9P hk hb))⟩
def WrG(wo wr:World)(S:Nat→Bool)(T:List (Int×List Nat))(v:Value)(R:List (Int×List Nat))(m:Nat):Prop:= ∃es:List HeC,wr.ownsRow wo.heap.size 61 2 v es.length (es.flatMap aI)∧(∀e,e∈es→cW (aS S wo) (slV e.2.1) e.2.2)∧T=es.map kQ++R∧es.length≤m∧Bl wo wr
theorem WrG.off{S:Nat→Bool}{T R:List (Int×List Nat)}(h:WrG wo wr S T v R m)(hb:Bl wr wr'):WrG wo wr' S T v R m:=by
 obtain⟨es,h1,h2,h3,h4,h5⟩:=h;exact⟨es,aK h1 hb,h2,h3,h4,bt h5 hb⟩
theorem WrG.more{S:Nat→Bool}{T R:List (Int×List Nat)}(h:WrG wo wr S T v R m)(hm:m≤m'):WrG wo wr S T v R m':=by
 obtain⟨es,h1,h2,h3,h4,h5⟩:=h;exact⟨es,h1,h2,h3,c9E h4 hm,h5⟩
theorem WrG.bel{S:Nat→Bool}{T R:List (Int×List Nat)}(h:WrG wo wr S T v R m):Bl wo wr:=by
 obtain⟨_,_,_,_,_,h5⟩:=h;exact h5
theorem WrG.app{S:Nat→Bool}{T R:List (Int×List Nat)}(y:HeC)(h:WrG wo wr S T v (kQ y::R) m)(hy:cW (aS S wo) (slV y.2.1) y.2.2)(hm:m≤900):
  ∃v' w',(Builtin.append_ #[56,56] 56 #[v,.slice (some (aD wr.heap.size 0)) 1 1]).run prog (wr.alloc (.cells #[iV y.1,slV y.2.1] 61))=.ok v' w'∧WrG wo w' S T v' R (m+1)∧Off (fun k=>v.ownBlock=some k) wr w':=by
 obtain⟨es,h1,h2,h3,h4,h5⟩:=h;obtain⟨v',w',hr,ho,hb,A0⟩:=b9P h1 y h5.size (by omega)
 exact⟨v',w',hr,⟨es++[y],ho,fun e he=>by
  rcases List.mem_append.1 he with z|z
  ·exact h2 e z
  ·rw[d1Z.1 z]
   exact hy,by rw[h3,c9U,c9X];rfl,by rw[c9I];show es.length+1≤m+1;omega,Below.trans h5 hb⟩,A0⟩
theorem WrG.lt{S:Nat→Bool}{T R:List (Int×List Nat)}(h:WrG wo wr S T v R m)(hb:v.ownBlock=some b):b<wr.heap.size:=by
 obtain⟨es,h1,_⟩:=h;exact(h1.lt b hb).2
theorem WrG.hes{S:Nat→Bool}{T:List (Int×List Nat)}(h:WrG wo wr S T v [] m)(hS: ∀k,S k=true→k<wo.heap.size):Hes (aS S wr) v T:=by
 obtain⟨es,h1,h2,h3,h4,h5⟩:=h;rw[h3,d0W]
 exact b4E h1 (fun g hg=>by
  cases q:S g with|false=>rfl|true=>
   have:=hS g q;have:=(h1.lt g hg).1
   omega) fun e he=>(h2 e he).sub (cQ h5)
theorem WrG.shape{S:Nat→Bool}{T R:List (Int×List Nat)}(h:WrG wo wr S T v R m): ∃A n C,v=.slice A n C:=by
 obtain⟨es,h1,_⟩:=h;obtain⟨A,C,hv,_⟩:=bI h1;exact⟨A,_,C,hv⟩
theorem b9U{k:Int}{x:List Nat}{f:Bool}{bl:List (Int×List Nat)}{h:Int×List Nat}(hj:bl[j]?=some h):Sto.ins k x f (bl.drop j)=(if k≤h.1∧f=false then[(k,x)]else[])++((if h.1=k then[]else[h])++Sto.ins k x (f||decide (k≤h.1)) (bl.drop (j+1))):=by
 rw[b0H hj,Sto.ins]
theorem tL(S:Nat→Bool)(P D n C:Nat)(x y z g u k:Int)(vt vs va vl:Value)(L:List (List Nat))(V:Nat→Value)(ds:List Sto.aL)(w:World)(hv:aW w P 32 [iV x,iV y,iV z,.slice (some (aD D 0)) n C,iV g,vt,vs,iV u,va])(hd:DkJ w S D V ds)(hS: ∀k,S k=true→k<w.heap.size)(hn:n=ds.length)(h12:n≤12)(hC1:n≤C)(hC2:C≤maxLen)(hlen: ∀(i:Nat) (d:Sto.aL),ds[i]?=some d→d.bl.length≤100)(hL:BlL (aS S w) vl L)(hLn:L.length=n):
  Calls prog 40 #[.pointer (some (aD P 0)),iV k,vl] w fun e w'=>e=.returned (.tuple #[])∧(∃V',DkJ w' S D V' (Sto.write k L 0 ds))∧Off (fun j=>j=D) w w':=by
 have C6:=hv.ty.ne hd.row.ty (by decide);have Cj:D<w.heap.size:=hd.row.lt;have Bo:=hd8 hd.sD;have Ca:=hd8 hS;have Bg:=Sto.cI k L ds 0;have HV:=hd8 hv;have HN:=hd8 hn;have HW:=hd8 Bg;have Cb:=hd8 hlen;have H0:Hid ((∃V',DkJ w S D V' (nN (Sto.write k L 0 ds) ds 0))∧Off (fun j=>j=D) w w):=⟨⟨V,hd⟩,Off.refl _ _⟩;have c3:=hv.q3;have hC2:=mL8 hC2;have B2:=hd8 hL;obtain⟨Al,Cl,rfl,C0,Bu,_⟩:=hL;rw[hLn]at C0 B2⊢;have Bu:=mL8 Bu;have Ce:=hd8 hLn;have C3:Hid (∀i,i<n→ ∃b o A9 m9 C9,Al=some (aD b o)∧S b=false∧w.cell? (aD b (o+i))=some (.slice A9 m9 C9)∧cW (aS S w) (.slice A9 m9 C9) (L.getD i [])):=fun i hi=>by
  obtain⟨A',C',Bw,_,_,h3⟩:=B2.out;cases Bw
  obtain⟨x9,Aj⟩: ∃x,L[i]?=some x:=⟨L[i]'(by omega),c9F _⟩;obtain⟨b,o,u9,e1,e2,e3⟩:=h3 i x9 Aj;obtain⟨q1,q2⟩:=kE e2;have e4:=e3;obtain⟨_,A9,C9,rfl,_⟩:=e4;refine⟨b,o,A9,_,C9,e1,q1,q2,?_⟩;rw[c9R,Aj];exact e3
 clear hv hd hn Bg hlen hLn B2 hS;go_enter func40,ntmps40
 go_wp2_with fail;go_loopw [17] (fun x wr=> ∃i:Nat,i≤n∧x=iV i∧Hid ((∃V',DkJ wr S D V' (nN (Sto.write k L 0 ds) ds i))∧Off (fun j=>j=D) w wr)) (fun x _=>n-(intOf x).toNat)
 case atStart=>exact⟨0,c9D _,rfl,H0⟩
 case round=>
  obtain⟨i,hi,rfl,HR⟩:=hrel;by_cases B3:i<n
  ·have Bx:(i:Int)<(n:Int):=by omega
   obtain⟨⟨V1,Ab⟩,An⟩:=HR.out;have c3:=(HV.out.off An C6).q3;obtain⟨d,As⟩: ∃d,ds[i]?=some d:=⟨ds[i]'(by rw[←HN.out];exact B3),c9F _⟩;have At:=(b4A HW.out (by rw[←HN.out];exact B3)).trans As;have B8:=(c9H.1 At).1;have g0:=Ab.gone At;have g1:=Ab.held B8;have Ag:(Sto.write k L 0 ds)[i]?=some (if d.gone then d else⟨false,Sto.ins k (L.getD i []) false d.bl⟩):=by
    rw[Sto.kW,As,c9G];rfl
   by_cases hg:d.gone=true
   case pos=>
    rw[hg]at g0 Ag;rw[if_pos rfl]at Ag;have A4:Hid ((∃V',DkJ wr S D V' (nN (Sto.write k L 0 ds) ds (i+1)))∧Off (fun j=>j=D) w wr):=⟨⟨V1,by rw[←b6M HW.out Ag As];exact Ab⟩,An⟩;clear HR Ab An As At B8 Ag hg g1;go_wp2_with fail;exact⟨⟨i+1,by omega,by go_num,A4⟩,by simp[intOf];omega⟩
   case neg=>
    have hg:d.gone=false:=by simpa using hg
    rw[hg]at g0 Ag;rw[if_neg (by decide)]at Ag;have hH:=Ab.hes i d At;obtain⟨Ah,Ch,Bm,Cc,Bk,Bp⟩:=hH;rw[Bm]at g1;obtain⟨m,Ae⟩: ∃m,m=d.bl.length:=⟨_,rfl⟩;rw[←Ae]at g1 Cc;have Bq:m≤100:=by rw[Ae];exact Cb.out i d As
    have Bk:=mL8 Bk;obtain⟨wo,A6⟩: ∃q,q=wr:=⟨wr,rfl⟩;have C5:Hid (∀j x,d.bl[j]?=some x→ ∃b o A9 m9 C9,Ah=some (aD b o)∧wo.cell? (aD b (o+j*2))=some (iV x.1)∧wo.cell? (aD b (o+j*2+1))=some (.slice A9 m9 C9)∧cW (aS S wo) (.slice A9 m9 C9) x.2):=fun j x9 Aj=>by
     obtain⟨b,o,e1,u9,e2,e3,e4⟩:=Bp j x9 Aj;have e5:=e4;obtain⟨_,A9,C9,rfl,_⟩:=e5;rw[A6];exact⟨b,o,A9,_,C9,e1,(kE e2).2,(kE e3).2,e4⟩
    obtain⟨Aw,B4,A8,m8,C8,rfl,Bt,Af,Bf⟩:=C3.out i B3;have Af:=(World.cell?_of_block (w:=w) (a:=⟨Aw,B4+i,none⟩) (An.block Aw (World.block_lt_of_cell? _ _ Af) (fun e=>by rw[e,Bo.out]at Bt;cases Bt))).trans Af;have B5:Hid (cW (aS S wo) (.slice A8 m8 C8) (L.getD i [])):=by
     rw[A6];exact Bf.sub (kB Bo.out An)
    have HK:Hid (wo=wr∧DkJ wo S D V1 (nN (Sto.write k L 0 ds) ds i)∧Off (fun j=>j=D) w wo∧(nN (Sto.write k L 0 ds) ds i)[i]?=some d∧(Sto.write k L 0 ds)[i]?=some ⟨false,Sto.ins k (L.getD i []) false d.bl⟩∧m=d.bl.length∧d.gone=false):=⟨A6,by rw[A6];exact Ab,by rw[A6];exact An,At,Ag,Ae,hg⟩;have H1:Hid (WrG wo wr S (Sto.ins k (L.getD i []) false d.bl) nS (Sto.ins k (L.getD i []) false (d.bl.drop 0)) (2*0)):=⟨[],by rw[A6];exact World.ownsRow_nil _ _ _ _,(fun _ h=>by cases h),rfl,Nat.le_refl _,by rw[A6];exact Below.refl _ _⟩;have Bj:wo.cell? (aD D (i*2+1))=some (.slice Ah m Ch):=by rw[A6];exact g1
    have Au:wo.cell? (aD Aw (B4+i))=some (.slice A8 m8 C8):=by rw[A6];exact Af
    have By:Hid (wo.cell? (aD D (i*2+1))=some (.slice Ah m Ch)∧wo.cell? (aD Aw (B4+i))=some (.slice A8 m8 C8)∧wo.cell? (aD P 3)=some (.slice (some (aD D 0)) n C)):=⟨Bj,Au,by rw[A6];exact c3⟩;clear HR Ab An As At B8 Ag hg Bm Bp Bf A6 Ae Bj Au;go_wp2_with fail;clear g0 g1 c3;go_loopw [8,9,35] (fun v8 v9 x wr=> ∃j:Nat,j≤m∧x=iV j∧ ∃f:Bool,v9=.bool f∧Hid (WrG wo wr S (Sto.ins k (L.getD i []) false d.bl) v8 (Sto.ins k (L.getD i []) f (d.bl.drop j)) (2*j))) (fun _ _ x _=>m-(intOf x).toNat)
    case atStart=>exact⟨0,c9D _,rfl,false,rfl,H1⟩
    case round=>
     obtain⟨j,hj,rfl,f,rfl,HR⟩:=hrel;have Aq:=HR.out.bel;obtain⟨Ci,Bh,Cf⟩:=By.out;by_cases C2:j<m
     ·have Bz:(j:Int)<(m:Int):=by omega
      obtain⟨x9,Aj⟩: ∃x,d.bl[j]?=some x:=⟨d.bl[j]'(by rw[←HK.out.2.2.2.2.2.1];exact C2),c9F _⟩;obtain⟨b9,o9,A9,m9,C9,rfl,e0,e1,e2⟩:=C5.out j x9 Aj;have e0:=cB8 Aq e0;have e1:=cB8 Aq e1;have Af:=cB8 Aq Bh;have Aa:=b9U (k:=k) (x:=L.getD i []) (f:=f) Aj;obtain⟨s9,Bb⟩: ∃q,q=x9.1:=⟨_,rfl⟩;rw[←Bb]at e0 Aa;have VH:=aC wr #[iV s9,.slice A9 m9 C9] 61;have bA:=aB8 wr (.cells #[iV s9,.slice A9 m9 C9] 61);have A2:=HR.out.off bA;have Ap:=cB8 bA Af;have A3:x9=(s9,x9.2):=by rw[Bb]
      have Ao:Hid (cW (aS S wo) (.slice A9 m9 C9) x9.2):=e2;have Be:=VH.q0;have Br:=VH.q1;have Ai:Hid (∀b,u8.ownBlock=some b→b≠wr.heap.size):=fun b hb e=>by
       have:=HR.out.lt hb;omega
      rw[Aa]at A2;have Ba:=hd8 A2;have Bi:=hd8 A3;have Ay:=hd8 VH;have B9:=hd8 Ap;clear HR A2 Aa Aj A3 VH Bb Ap Be Br bA;go_upto_region 10 with fail
      obtain⟨wA,Bv⟩: ∃y,y=wr.alloc (.cells #[iV s9,.slice A9 m9 C9] 61):=⟨_,rfl⟩;rw[←Bv]at Ba Ay B9⊢;obtain⟨Q,hQ⟩: ∃y,y=wr.heap.size:=⟨_,rfl⟩;rw[←hQ]at Ay Ai⊢;have VH:=Ay.out;have A2:=Ba.out;have A3:=Bi.out;have Ap:=B9.out;have Be:=VH.q0;have Br:=VH.q1;clear Bv hQ e0 e1 Af Aq Ba Ay B9 Bi;by_cases hA:k≤s9∧f=false
      ·obtain⟨Bn,rfl⟩:=hA;rw[if_pos ⟨Bn,rfl⟩,Bool.false_or,decide_eq_true Bn]at A2;by_cases hs:s9=k
       ·rw[if_pos hs]at A2;obtain⟨v1,w1,A1,A5,Am⟩:=WrG.app (k,(A8,m8,C8),L.getD i []) A2 B5.out (by omega);have A1:(Builtin.append_ #[56,56] 56 #[u8,.slice (some (aD wA.heap.size 0)) 1 1]).run prog (wA.alloc (.cells #[iV k,.slice A8 m8 C8] 61))=.ok v1 w1:=A1;have A4:Hid (WrG wo w1 S (Sto.ins k (L.getD i []) false d.bl) v1 (Sto.ins k (L.getD i []) true (d.bl.drop (j+1))) (2*(j+1))):=A5.more (by omega);have VQ:=VH.off Am (fun e=>Ai.out _ e rfl);have q0:=VQ.q0;have B6:(s9 !=k)=false:=by rw[hs];simp
        clear A2 A5 A3 Ao VQ VH Am Ai hs;go_wp2_with (at_builtin;refine Lib.wpList_append_run _ rfl _ _ _ _ rfl _ _ rfl rfl _ _ A1 ?_);all_goals exact⟨⟨j+1,by omega,by go_num,true,rfl,A4⟩,by simp[intOf];omega⟩
       ·rw[if_neg hs]at A2;obtain⟨v1,w1,A1,A5,Am⟩:=WrG.app (k,(A8,m8,C8),L.getD i []) A2 B5.out (by omega);have A1:(Builtin.append_ #[56,56] 56 #[u8,.slice (some (aD wA.heap.size 0)) 1 1]).run prog (wA.alloc (.cells #[iV k,.slice A8 m8 C8] 61))=.ok v1 w1:=A1;have A5:WrG wo w1 S (Sto.ins k (L.getD i []) false d.bl) v1 (x9::Sto.ins k (L.getD i []) true (d.bl.drop (j+1))) (2*j+1):=A5;rw[A3]at A5;obtain⟨v2,w2,A0,Ar,_⟩:=WrG.app (s9,(A9,m9,C9),x9.2) A5 Ao.out (by omega);have A0:(Builtin.append_ #[56,56] 56 #[v1,.slice (some (aD w1.heap.size 0)) 1 1]).run prog (w1.alloc (.cells #[iV s9,.slice A9 m9 C9] 61))=.ok v2 w2:=A0;have A4:Hid (WrG wo w2 S (Sto.ins k (L.getD i []) false d.bl) v2 (Sto.ins k (L.getD i []) true (d.bl.drop (j+1))) (2*(j+1))):=Ar.more (by omega);have VQ:=VH.off Am (fun e=>Ai.out _ e rfl);have q0:=VQ.q0;have q1:=VQ.q1;have B6:(s9 !=k)=true:=by rw[bne_iff_ne];exact hs
        clear A2 A5 Ar A3 Ao VQ VH Am Ai hs;go_wp2_with (first|(at_builtin;refine Lib.wpList_append_run _ rfl _ _ _ _ rfl _ _ rfl rfl _ _ A1 ?_)|(at_builtin;refine Lib.wpList_append_run _ rfl _ _ _ _ rfl _ _ rfl rfl _ _ A0 ?_));all_goals exact⟨⟨j+1,by omega,by go_num,true,rfl,A4⟩,by simp[intOf];omega⟩
      ·have Az:(f||decide (k≤s9))=f:=by
        cases f with
        |true=>rfl
        |false=>
         rw[Bool.false_or];exact decide_eq_false fun z=>hA ⟨z,rfl⟩
       rw[if_neg hA,Az,d1C]at A2;have B0:=fun e=>decide_eq_false fun z=>hA ⟨z,e⟩;by_cases hs:s9=k
       ·rw[if_pos hs,d1C]at A2;have A4:Hid (WrG wo wA S (Sto.ins k (L.getD i []) false d.bl) u8 (Sto.ins k (L.getD i []) f (d.bl.drop (j+1))) (2*(j+1))):=A2.more (by omega);have B6:(s9 !=k)=false:=by rw[hs];simp
        cases f with
        |true=>
         clear A2 A3 Ao VH Ai hs hA Az B0;go_wp2_with fail;all_goals exact⟨⟨j+1,by omega,by go_num,true,rfl,A4⟩,by simp[intOf];omega⟩
        |false=>exact absurd ⟨by omega,rfl⟩ hA
       ·rw[if_neg hs]at A2;have A2:WrG wo wA S (Sto.ins k (L.getD i []) false d.bl) u8 (x9::Sto.ins k (L.getD i []) f (d.bl.drop (j+1))) (2*j):=A2;rw[A3]at A2;obtain⟨v2,w2,A0,Ar,_⟩:=WrG.app (s9,(A9,m9,C9),x9.2) A2 Ao.out (by omega);have A0:(Builtin.append_ #[56,56] 56 #[u8,.slice (some (aD wA.heap.size 0)) 1 1]).run prog (wA.alloc (.cells #[iV s9,.slice A9 m9 C9] 61))=.ok v2 w2:=A0;have A4:Hid (WrG wo w2 S (Sto.ins k (L.getD i []) false d.bl) v2 (Sto.ins k (L.getD i []) f (d.bl.drop (j+1))) (2*(j+1))):=Ar.more (by omega);have B6:(s9 !=k)=true:=by rw[bne_iff_ne];exact hs
        cases f with
        |true=>
         clear A2 Ar A3 Ao VH Ai hs hA Az B0;go_wp2_with (at_builtin;refine Lib.wpList_append_run _ rfl _ _ _ _ rfl _ _ rfl rfl _ _ A0 ?_);all_goals exact⟨⟨j+1,by omega,by go_num,true,rfl,A4⟩,by simp[intOf];omega⟩
        |false=>
         have C1:=B0 rfl;have Cg:s9<k:=by have:=of_decide_eq_false C1;omega
         clear A2 Ar A3 Ao VH Ai hs hA Az B0;go_wp2_with (at_builtin;refine Lib.wpList_append_run _ rfl _ _ _ _ rfl _ _ rfl rfl _ _ A0 ?_);exact⟨⟨j+1,by omega,by go_num,false,rfl,A4⟩,by simp[intOf];omega⟩
     ·obtain rfl:j=m:=by omega
      obtain⟨Bs,Ak,Ax,Av,B1,B7,Bc⟩:=HK.out;have Af:=cB8 Aq Bh;have Ac:=HR.out;rw[B7,d0T]at Ac;have Ad: ∀(v:Value) (w1:World) (m':Nat),WrG wo w1 S (Sto.ins k (L.getD i []) false d.bl) v [] m'→(∃V',DkJ (w1.setCell (aD D (i*2+1)) v) S D V' (nN (Sto.write k L 0 ds) ds (i+1)))∧Off (fun j=>j=D) w (w1.setCell (aD D (i*2+1)) v):=fun v w1 m' hG=>by
       have Ab:=(Ak.off hG.bel).set Av v _ (hG.hes fun q hq=>c9P (Ca.out q hq) Ax.size);rw[Bc,a7T HW.out B1]at Ab;exact⟨⟨_,Ab⟩,(Ax.trans (Off.of_below hG.bel)).trans (aG _ (aD D (i*2+1)) _)⟩
      cases f with
      |true=>
       have Ac:WrG wo wr S (Sto.ins k (L.getD i []) false d.bl) u8 [] (2*d.bl.length):=Ac;have A4:Hid ((∃V',DkJ (wr.setCell (aD D (i*2+1)) u8) S D V' (nN (Sto.write k L 0 ds) ds (i+1)))∧Off (fun j=>j=D) w (wr.setCell (aD D (i*2+1)) u8)):=Ad u8 wr _ Ac;have g1:=(Ak.off Aq).held (c9H.1 Av).1;have C4:=(Ak.off Aq).row.frozen (i*2+1);obtain⟨A7,n7,C7,rfl⟩:=Ac.shape;clear HR Ac Ad Bs Ak Ax Av B1 B7 Bc;go_wp2_with fail;exact⟨⟨i+1,by omega,by go_num,A4⟩,by simp[intOf];omega⟩
      |false=>
       have Ac:WrG wo wr S (Sto.ins k (L.getD i []) false d.bl) u8 [(k,L.getD i [])] (2*d.bl.length):=Ac;obtain⟨v1,w1,A1,A5,Am⟩:=WrG.app (k,(A8,m8,C8),L.getD i []) Ac B5.out (by omega);have A1:(Builtin.append_ #[56,56] 56 #[u8,.slice (some (aD wr.heap.size 0)) 1 1]).run prog (wr.alloc (.cells #[iV k,.slice A8 m8 C8] 61))=.ok v1 w1:=A1;have A4:=hd8 (Ad v1 w1 _ A5);have g1:=(Ak.off A5.bel).held (c9H.1 Av).1;have C4:=(Ak.off A5.bel).row.frozen (i*2+1);obtain⟨A7,n7,C7,rfl⟩:=A5.shape;clear HR Ac A5 Ad Bs Ak Ax Av B1 B7 Bc Am;go_wp2_with (at_builtin;refine Lib.wpList_append_run _ rfl _ _ _ _ rfl _ _ rfl rfl _ _ A1 ?_);exact⟨⟨i+1,by omega,by go_num,A4⟩,by simp[intOf];omega⟩
  ·obtain rfl:i=n:=by omega
   have HF:=HR.out;rw[HN.out,b9T HW.out]at HF;have Cd:=hd8 HF;clear HR HF;go_wp2_with fail;go_end0
   exact⟨rfl,Cd.out⟩
open Evt (Ev Bat)
section
variable {X : Sto.Six} {c : Sto.Cfg} {l : List Sto.Do} {k : Nat} {d : Sto.Do} {M M' : Nat → Bool}
end
end Go.Proofs.YtmcaejooaaahdaaGreat
namespace Go.Proofs.YtmcaejooaaahdaaGreat.Sto
open Go.Proofs.Tryz
variable {Bs xs:List Value} {C D N b base bytes i j k m m' n q sz:Nat} {U:Nat→List HeC} {V:Nat→Value} {d:Sto.Do} {ds:List Sto.Disk} {e:TypeId} {r:List Nat} {s:Sto.St} {v va vd ve vs vt z:Value} {w w' wo wr wr':World}
open Evt (Ev Bat)
section
variable {X : Six} {c : Cfg} {bs : List (List Nat)} {k i : Nat}
theorem a7W{α:Type}(p q:α→Bool)(hpq: ∀x,p x=true→q x=false): ∀l:List α,(l.filter p).length+(l.filter q).length≤l.length
 |[]=>c9C _
 |x::l=>by
  have h:=a7W p q hpq l
  by_cases hp:p x=true
  ·rw[d1W hp,d1N (by rw[hpq x hp];exact Bool.false_ne_true),d0E,d0E]
   omega
  ·rw[d1N hp]
   by_cases hq:q x=true
   ·rw[d1W hq,d0E,d0E]
    omega
   ·rw[d1N hq,d0E]
    omega
theorem c1D(hX:dE X)(hl:bs.length=c.d+c.s)(h:(X.mend bs k c).1=0):(X.bad bs k).length≤c.s∧ ∃r,Evt.bZ r∧X.lay r k c=(0,(X.mend bs k c).2):=by
 rw[hX.mend]at h⊢;by_cases q:(X.read bs k c).1≠0
 ·rw[if_pos q]at h;exact absurd h q
 rw[if_neg q]at h⊢;have q0:=d2J.1 q;have he:=hX.err bs k c;rw[q0,hl]at he;have hR:cR k c.d (c.d+c.s) (f9 bs) (eP bs)=0:=he.symm;unfold cR at hR;split at hR
 ·cases hR
 rename_i w0;split at hR
 ·cases hR
 split at hR
 ·rename_i w2;exact absurd hR w2
 rename_i w2;have w2:=d2J.1 w2;unfold eG at w2;split at w2
 ·cases w2
 split at w2
 ·cases w2
 rename_i wt;have wt:c.d≤(Go.Proofs.YtmcaejooaaahdaaGreat.there (Seg.rl k (f9 bs) (eP bs)) (c.d+c.s)).length:=by
  rw[c9Q]at wt;omega
 refine⟨?_,(X.read bs k c).2,?_,?_⟩
 ·rw[hX.bad,hl];unfold Seg.kT;unfold Go.Proofs.YtmcaejooaaahdaaGreat.there at wt;have:=a7W (fun r=>decide (0<Seg.rl k (f9 bs) (eP bs) r)) (fun i=>decide (¬Seg.right k (f9 bs) (eP bs) i)) (fun x hx=>decide_eq_false fun z=>z (Seg.xP (of_decide_eq_true hx))) (List.range (c.d+c.s));rw[d1E]at this;omega
 ·have A0:=d2J.1 w0;have hd8:c.d+c.s≤256:=by
   unfold bP at A0;split at A0
   ·cases A0
   ·omega
  have hu: ∃r',Gf.Bd2 r'∧Gf.Und c.d (fun p=>Gf.bH c.d (thr (Seg.rl k (f9 bs) (eP bs)) (c.d+c.s) p)) r':=by
   rcases Gf.a6F (n:=c.d) (m:=fun p=>Gf.bH c.d (thr (Seg.rl k (f9 bs) (eP bs)) (c.d+c.s) p)) (fun p=>Gf.eK c.d _)with q|q
   ·exact q
   ·exact(Gf.lT (by omega) (fun p hp=>by have:=(fG (show p<(Go.Proofs.YtmcaejooaaahdaaGreat.there (Seg.rl k (f9 bs) (eP bs)) (c.d+c.s)).length by omega)).1;omega) (fun p q hp hq hne=>a5N (by omega) (by omega) hne) q).elim
  obtain⟨r',r1,r2⟩:=hu;have hr:=hX.told bs k c q0 r' r1 (by rw[hl];exact r2);rw[hr];intro x hx;unfold bl at hx;obtain⟨j,_,rfl⟩:=d0G.1 hx;exact Gf.c2K (fun p=>Gf.eK c.d p) _ _ _ _
 ·rw[hX.lay];exact Prod.ext h rfl
end
structure SI(c:Cfg)(segs:Nat)(ds:List aL):Prop where
 dl:ds.length=c.d+c.s
 up: ∀(i:Nat) (d:aL),ds[i]?=some d→Up d.bl∧(∀h,h∈d.bl→0≤h.1∧h.1<(segs:Int))∧(d.gone=true→d.bl=[])
section
variable {X : Six} {c : Cfg} {segs : Nat} {ds : List aL}
theorem c0R(c:Cfg):SI c 0 (start c).disks:=⟨List.length_replicate,fun i d hd=>by
 obtain rfl:=d2X (c9N (l:=List.replicate (c.d+c.s) (⟨false,[]⟩:aL)) hd)
 exact⟨List.Pairwise.nil,fun h hh=>(by cases hh),fun _=>rfl⟩⟩
theorem SI.more(h:SI c segs ds):SI c (segs+1) ds:=⟨h.dl,fun i d hd=>⟨(h.up i d hd).1,fun x hx=>by
 have:=(h.up i d hd).2.1 x hx
 omega,(h.up i d hd).2.2⟩⟩
theorem SI.write(h:SI c segs ds)(hk:k<segs)(L:List (List Nat)):SI c segs (Sto.write k L 0 ds):=by
 refine⟨by rw[cI];exact h.dl,fun i d hd=>?_⟩;rw[kW]at hd;obtain⟨e,he,rfl⟩:=c9J.1 hd;obtain⟨u1,u2,u3⟩:=h.up i e he;by_cases q:e.gone=true
 ·rw[if_pos q];exact⟨u1,u2,u3⟩
 ·rw[if_neg q];refine⟨zP u1,fun x hx=>?_,fun z=>by cases z⟩;rcases a3J u1 hx with rfl|z
  ·show 0≤(k:Int)∧(k:Int)<segs;omega
  ·exact u2 x z.1
theorem SI.set(h:SI c segs ds)(i:Nat)(x:aL)(hx:Up x.bl∧(∀h,h∈x.bl→0≤h.1∧h.1<(segs:Int))∧(x.gone=true→x.bl=[])):SI c segs (ds.set i x):=by
 refine⟨by rw[d0B];exact h.dl,fun j d hd=>?_⟩;by_cases q:i=j
 ·subst q;have hl:i<ds.length:=by
   have:=(c9H.1 hd).1;rw[d0B]at this;exact this
  rw[d0O hl]at hd;cases hd
  exact hx
 ·rw[d0P q]at hd;exact h.up j d hd
theorem rT: ∀(m k:Nat) (ds:List aL) (e n:Nat),SI c segs ds→k+m=segs→SI c segs (aN X c m k ds e n).1
 |0,_,_,_,_,h,_=>h
 |m+1,k,ds,e,n,h,hk=>by
  rw[aN]
  split
  ·exact rT m (k+1) ds e n h (by omega)
  ·split
   ·exact rT m (k+1) ds _ n h (by omega)
   ·exact rT m (k+1) _ e _ (h.write (by omega) _) (by omega)
theorem b3M{s:St}(h:SI c s.segs s.disks)(d:Do):SI c (step X c s d).1.segs (step X c s d).1.disks:=by
 unfold step;by_cases k1:d.kind=1
 ·rw[if_pos k1];unfold put;split
  ·exact h
  ·split
   ·exact h
   ·split
    ·exact h
    ·split
     ·exact h
     ·split
      ·exact h
      ·unfold eR;dsimp only;split
       ·exact h
       ·split
        ·exact h
        ·split
         ·exact h
         ·exact h.more.write (d1F _) _
 rw[if_neg k1];by_cases k2:d.kind=2∨d.kind=3∨d.kind=4
 ·rw[if_pos k2];exact h
 rw[if_neg k2];by_cases k3:d.kind=5∨d.kind=6∨d.kind=7
 ·rw[if_pos k3];unfold nY;split
  ·exact h
  ·rename_i x hx;split
   ·exact h
   ·split
    ·exact h
    ·split
     ·exact h.set _ _ ⟨List.Pairwise.nil,fun y hy=>(by cases hy),fun _=>rfl⟩
     ·split
      ·exact h
      ·split
       ·exact h
       ·obtain⟨u1,u2,u3⟩:=h.up _ x hx;refine h.set _ _ ⟨b9D u1,fun y hy=>?_,fun z=>?_⟩
        ·have A0:y.1∈(lX d.seg d.pos.toNat d.turn x.bl).map (·.1):=d0G.2 ⟨y,hy,rfl⟩
         rw[q9]at A0;obtain⟨z,hz,e⟩:=d0G.1 A0;rw[←e];exact u2 z hz
        ·show lX d.seg d.pos.toNat d.turn x.bl=[];rw[u3 z];rfl
 rw[if_neg k3];by_cases k8:d.kind=8
 ·rw[if_pos k8];exact rT s.segs 0 s.disks 0 0 h (c9G _)
 rw[if_neg k8];by_cases k9:d.kind=9
 ·rw[if_pos k9];exact h
 ·rw[if_neg k9];exact h
end
end Go.Proofs.YtmcaejooaaahdaaGreat.Sto
