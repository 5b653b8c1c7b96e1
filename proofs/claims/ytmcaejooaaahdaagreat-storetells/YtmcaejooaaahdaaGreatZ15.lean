import Derived.Test.YtmcaejooaaahdaaGreatZ14
set_option maxHeartbeats 8000000
set_option maxRecDepth 100000
namespace Go.Proofs.YtmcaejooaaahdaaGreat
open Go.Proofs.Tryz
variable {C M N R cap g i j k m n p:Nat} {E S:Nat→Prop} {es:List EvC} {r:List Nat} {v v3 vt:Value} {w w' w0 w3 wX:World}
open Go.RowKit
theorem b3T{es:List Evt.Ev}(h:Evs w (.slice (some (aD g 0)) m C) es)(ho:Off S w w')(hS: ¬S g):Evs w' (.slice (some (aD g 0)) m C) es:=by
 obtain⟨A,A0,hv,h1,h2,hc⟩:=h;cases hv
 refine⟨_,_,rfl,h1,h2,fun i e he=>?_⟩;obtain⟨b,o,e1,s,x1,x2,c0,c1,c2⟩:=hc i e he;cases e1
 have hb:=ho.block g (World.block_lt_of_cell? _ _ c0) hS;exact⟨g,0,rfl,s,x1,x2,(World.cell?_of_block (w:=w) (a:=⟨g,0+i*3,none⟩) hb).trans c0,(World.cell?_of_block (w:=w) (a:=⟨g,0+i*3+1,none⟩) hb).trans c1,(World.cell?_of_block (w:=w) (a:=⟨g,0+i*3+2,none⟩) hb).trans c2⟩
def a3N(w:World)(N:Nat)(v:Value)(es:List Evt.Ev):Prop:= ∃g m,v=.slice (some (aD g 0)) m m∧N≤g∧Evs w v es
theorem a3N.off{es:List Evt.Ev}(h:a3N w N v es)(ho:Off S w w')(hS: ∀k,S k→k<N):a3N w' N v es:=by
 obtain⟨g,m,rfl,hN,he⟩:=h;exact⟨g,m,rfl,hN,b3T he ho (fun k=>by have:=hS g k;omega)⟩
def gY(w:World)(M:Nat)(v:Value)(l:List Evt.Bat):Prop:= ∃A cap,v=.slice A l.length cap∧l.length≤cap∧cap≤maxLen∧ ∀i x,l[i]?=some x→ ∃b o,A=some (aD b o)∧M≤b∧ ∃ve,w.cell? (aD b (o+i*2))=some (iV x.cmd)∧w.cell? (aD b (o+i*2+1))=some ve∧Evs w ve x.evs∧ ∀g,ve.ownBlock=some g→M≤g
theorem gY.bats{l:List Evt.Bat}(h:gY w M v l):eU w v l:=by
 obtain⟨A,A0,hv,h1,h2,h3⟩:=h;refine⟨A,A0,hv,h1,h2,fun i x hx=>?_⟩;obtain⟨b,o,e1,_,ve,c0,c1,he,_⟩:=h3 i x hx;exact⟨b,o,e1,ve,c0,c1,he⟩
theorem gY.below{l:List Evt.Bat}(h:gY w M v l)(hb:Bl w w'):gY w' M v l:=by
 obtain⟨A,A0,hv,h1,h2,h3⟩:=h;refine⟨A,A0,hv,h1,h2,fun i x hx=>?_⟩;obtain⟨b,o,e1,e2,ve,c0,c1,he,e3⟩:=h3 i x hx;have hp:b<w.heap.size:=World.block_lt_of_cell? _ _ c0;exact⟨b,o,e1,e2,ve,(hb.cell (p:=⟨b,o+i*2,none⟩) hp).trans c0,(hb.cell (p:=⟨b,o+i*2+1,none⟩) hp).trans c1,he.below hb,e3⟩
theorem gY.lower{K:Nat}{l:List Evt.Bat}(h:gY w M v l)(hK:K≤M):gY w K v l:=by
 obtain⟨A,A0,hv,h1,h2,h3⟩:=h;refine⟨A,A0,hv,h1,h2,fun i x hx=>?_⟩;obtain⟨b,o,e1,e2,ve,c0,c1,he,e3⟩:=h3 i x hx;exact⟨b,o,e1,c9E hK e2,ve,c0,c1,he,fun g hg=>c9E hK (e3 g hg)⟩
theorem eW(w:World)(M:Nat):gY w M nS []:=⟨none,0,rfl,c9C _,c9D _,fun i e he=>by cases he⟩
structure jE(w:World)(g m:Nat)(Q:Nat→Int×Value):Prop where
 cs: ∀i,i<m→w.cell? (aD g (i*2))=some (iV (Q i).1)∧w.cell? (aD g (i*2+1))=some (Q i).2
 fr: ∀i,w.frozen? (aD g i)=false
 lt:g<w.heap.size
theorem jE.off{Q:Nat→Int×Value}(h:jE w g m Q)(ho:Off S w w')(hS: ¬S g):jE w' g m Q:=by
 have hb:=ho.block g h.lt hS;exact⟨fun i hi=>⟨(World.cell?_of_block (w:=w) (a:=⟨g,i*2,none⟩) hb).trans (h.cs i hi).1,(World.cell?_of_block (w:=w) (a:=⟨g,i*2+1,none⟩) hb).trans (h.cs i hi).2⟩,fun i=>(World.frozen?_of_block (w:=w) (a:=⟨g,i,none⟩) hb).trans (h.fr i),c9P h.lt ho.size⟩
theorem jE.set0{Q:Nat→Int×Value}(h:jE w g m Q)(n:Int):jE (w.setCell (aD g (k*2)) (iV n)) g m (upd Q k (n,(Q k).2)):=by
 refine⟨fun i hi=>?_,fun i=>(World.frozen?_setCell _ _ _ _).trans (h.fr i),by rw[Deep.nblk_setCell];exact h.lt⟩;obtain⟨e0,e1⟩:=h.cs i hi;rw[World.cell?_setCell_other _ _ _ _ (fY (show k*2≠i*2+1 by omega))];by_cases e:i=k
 ·subst e;rw[World.cell?_setCell_same _ _ _ e0,bM];exact⟨rfl,e1⟩
 ·rw[World.cell?_setCell_other _ _ _ _ (fY (show k*2≠i*2 by omega)),aV _ _ e];exact⟨e0,e1⟩
theorem jE.set1{Q:Nat→Int×Value}(h:jE w g m Q)(v:Value):jE (w.setCell (aD g (k*2+1)) v) g m (upd Q k ((Q k).1,v)):=by
 refine⟨fun i hi=>?_,fun i=>(World.frozen?_setCell _ _ _ _).trans (h.fr i),by rw[Deep.nblk_setCell];exact h.lt⟩;obtain⟨e0,e1⟩:=h.cs i hi;rw[World.cell?_setCell_other _ _ _ _ (fY (show k*2+1≠i*2 by omega))];by_cases e:i=k
 ·subst e;rw[World.cell?_setCell_same _ _ _ e1,bM];exact⟨e0,rfl⟩
 ·rw[World.cell?_setCell_other _ _ _ _ (fY (show k*2+1≠i*2+1 by omega)),aV _ _ e];exact⟨e0,e1⟩
theorem b5N(w:World)(m:Nat)(hm:m<256): ∃w',(Instr.makeSlice 26 (iV m) (iV m)).run prog w=.ok (.slice (some (aD w.heap.size 0)) m m) w'∧jE w' w.heap.size m (fun _=>(0,nS))∧Bl w w':=by
 obtain⟨i3,A6,A2⟩:=c9J.1 Tryz.infoBatch;simp only[Prod.mk.injEq]at A2;obtain⟨A5,A3,A4⟩:=A2;obtain⟨w',A1,A0,hg⟩:=run_make_full (P:=prog) w w.heap.size 26 47 i3 _ 2 underlying26 A6 A5 A3 .i64 .i64 m (by rw[A4];omega) (by unfold maxLen;omega) (c9C _);have hc: ∀j u,(madeCells (Value.agg #[iV 0,nS]).cells (m*2)).toList[j]?=some u→w'.cell? (aD w.heap.size j)=some u:=fun j u hj=>by
  have:=A0.cells (g:=w.heap.size) rfl j u hj;rw[WideShapes.add_plain,c9G]at this;exact this
 refine⟨w',A1,⟨fun i hi=>⟨?_,?_⟩,kZ A0 rfl,(A0.lt _ rfl).2⟩,⟨hg.os,hg.tape,hg.output,hg.size,fun k hk=>hg.block k hk (by simp)⟩⟩
 ·exact hc _ _ (nC _ _ _ (by omega) _ (by rw[show(Value.agg #[iV 0,nS]).cells=#[iV 0,nS]from rfl,show(i*2)%(#[Value.int .i64 0,nS]).size=0 from show i*2%2=0 by omega];rfl))
 ·exact hc _ _ (nC _ _ _ (by omega) _ (by rw[show(Value.agg #[iV 0,nS]).cells=#[iV 0,nS]from rfl,show(i*2+1)%(#[Value.int .i64 0,nS]).size=1 from show(i*2+1)%2=1 by omega];rfl))
theorem jE.bats{Q:Nat→Int×Value}{l:List Evt.Bat}(h:jE w g m Q)(hm:m<256)(hl:l.length=m)(hgN:g≤N)(hs: ∀(i:Nat) (x:Evt.Bat),l[i]?=some x→x.cmd=(Q i).1∧a3N w N (Q i).2 x.evs):gY w g (.slice (some (aD g 0)) m m) l:=by
 refine⟨some (aD g 0),m,by rw[hl],by omega,by unfold maxLen;omega,fun i x hx=>⟨g,0,rfl,c9C _,?_⟩⟩;have hi:i<m:=by
  have:=(c9H.1 hx).1;omega
 obtain⟨e0,e1⟩:=h.cs i hi;obtain⟨h1,g',m',hq,hN,he⟩:=hs i x hx;rw[c9G];refine⟨(Q i).2,by rw[h1];exact e0,e1,he,fun b hb=>?_⟩;rw[hq]at hb;cases hb
 exact c9E hgN hN
theorem a9E(W0:World)(p:Nat)(st:Evt.St)(w:World)(h:Rd W0 w p st):
  Calls prog 119 #[.pointer (some (aD p 0))] w fun e w'=> ∃g m,e=.returned (.slice (some (aD g 0)) m m)∧gY w' w.heap.size (.slice (some (aD g 0)) m m) (Evt.jN st).1∧Rd W0 w' p (Evt.jN st).2∧Off (fun k=>k=p) w w':=by
 have H1:=iX W0 p 1 st w h (by omega);have hm:=Evt.a3Q 1 h.bytes;unfold Evt.jN;generalize (Evt.cO 1 st).1=m at H1 hm⊢;generalize (Evt.cO 1 st).2=st1 at H1⊢;clear h;go_enter func119,ntmps119
 go_wp2_with fail;refine H1.mono ?_;rintro e w1 ⟨rfl,R1,O1⟩;obtain⟨w2,Aa,E2,b2⟩:=b5N w1 m hm;have O2:=O1.trans (Off.of_below b2);have R2:=R1.off (S:=fun _=>False) (Off.of_below b2) (fun h=>h) (fun k h=>h.elim);have A9:w.heap.size≤w1.heap.size:=O1.size;have Ac:p<w1.heap.size:=R1.lt;have A0:w1.heap.size≠p:=fun e=>by omega
 have A3:W0.heap.size≤w1.heap.size:=R1.bel.size;generalize w1.heap.size=g at Aa E2 A9 A0 Ac A3;clear H1 R1 O1 b2;go_wp2_with fail;clear Aa;go_loopw [10] (fun x wr=> ∃(k:Nat) (Q:Nat→Int×Value),k≤m∧x=iV k∧jE wr g m Q∧Hid (∀(i:Nat) (x:Evt.Bat),(Evt.dR k st1).1[i]?=some x→x.cmd=(Q i).1∧a3N wr (g+1) (Q i).2 x.evs)∧Rd W0 wr p (Evt.dR k st1).2∧Off (fun k=>k=p) w wr) (fun x _=>m-(intOf x).toNat)
 case atStart=>exact⟨0,_,c9D _,rfl,E2,(fun i x hx=>by cases hx),R2,O2⟩
 case round=>
  obtain⟨k,Q,hk,rfl,ER,HS,RR,OR⟩:=hrel;by_cases A8:k<m
  ·have Ae:(k:Int)<(m:Int):=by omega
   have HN:=hd8 (Evt.xM k st1);have A1:=hd8 (Evt.uV k st1);generalize (Evt.dR k st1).1=L at HS HN A1;generalize (Evt.dR k st1).2=s0 at RR HN;have K1:=iX W0 p 3 s0 wr RR (by omega);have HE:Hid (Evt.nH s0=(⟨((Evt.cO 3 s0).1:Nat),(Evt.tW (Evt.cO 3 s0).2).1⟩,(Evt.tW (Evt.cO 3 s0).2).2)):=rfl;generalize (Evt.cO 3 s0).1=a1 at K1 HE;generalize (Evt.cO 3 s0).2=s1 at K1 HE;clear RR;go_wp2_with fail;refine K1.mono ?_;rintro e w3 ⟨rfl,R3,O3⟩;have E3:=ER.off O3 A0;have A6:Hid (∀(i:Nat) (x:Evt.Bat),L[i]?=some x→x.cmd=(Q i).1∧a3N w3 (g+1) (Q i).2 x.evs):=fun i x hx=>⟨(HS.out i x hx).1,(HS.out i x hx).2.off O3 (fun j e=>by omega)⟩;have O3:=OR.trans O3;obtain⟨d0,d1⟩:=E3.cs k A8;have f0:=E3.fr (k*2);have f1:=E3.fr (k*2+1);have E5:=E3.set0 (k:=k) (a1:Int);have R5:=R3.off (aG w3 (aD g (k*2)) (iV a1)) (fun e=>A0 e.symm) (fun j e=>by rw[e];exact A3);have A5:Hid (∀(i:Nat) (x:Evt.Bat),L[i]?=some x→x.cmd=(Q i).1∧a3N (w3.setCell (aD g (k*2)) (iV a1)) (g+1) (Q i).2 x.evs):=fun i x hx=>⟨(A6.out i x hx).1,(A6.out i x hx).2.off (aG w3 (aD g (k*2)) (iV a1)) (fun j e=>by rw[e];exact d1F g)⟩;have O5:Off (fun k=>k=p) w (w3.setCell (aD g (k*2)) (iV a1)):=O3.past (aG w3 (aD g (k*2)) (iV a1)) (fun y e hl=>by rw[e]at hl;exact absurd hl (by show¬g<_;omega));have Ag:g+1≤(w3.setCell (aD g (k*2)) (iV a1)).heap.size:=E5.lt;obtain⟨Q1,A2⟩: ∃Q1,Hid (Q1=upd Q k ((a1:Int),(Q k).2)):=⟨_,rfl⟩;rw[←A2.out]at E5;have K3:=b1C W0 p s1 _ R5;generalize (Evt.tW s1).1=es at K3 HE;generalize (Evt.tW s1).2=s3 at K3 HE;clear K1 ER OR R3 E3 HS A6 O3 R5;go_wp2_with fail;refine K3.mono ?_;rintro e w5 ⟨g5,m5,rfl,Af,V5,R6,O6⟩;have E6:=E5.off O6 A0;have A4:Hid (∀(i:Nat) (x:Evt.Bat),L[i]?=some x→x.cmd=(Q i).1∧a3N w5 (g+1) (Q i).2 x.evs):=fun i x hx=>⟨(A5.out i x hx).1,(A5.out i x hx).2.off O6 (fun j e=>by omega)⟩;have O6:=O5.trans O6;obtain⟨d0,d1⟩:=E6.cs k A8;have f0:=E6.fr (k*2);have f1:=E6.fr (k*2+1);have E7:=E6.set1 (k:=k) (.slice (some (aD g5 0)) m5 m5);have R7:Hid (Rd W0 (w5.setCell (aD g (k*2+1)) (.slice (some (aD g5 0)) m5 m5)) p s3):=R6.off (aG w5 (aD g (k*2+1)) (.slice (some (aD g5 0)) m5 m5)) (fun e=>A0 e.symm) (fun j e=>by rw[e];exact A3);have O7:Hid (Off (fun k=>k=p) w (w5.setCell (aD g (k*2+1)) (.slice (some (aD g5 0)) m5 m5))):=O6.past (aG w5 (aD g (k*2+1)) (.slice (some (aD g5 0)) m5 m5)) (fun y e hl=>by rw[e]at hl;exact absurd hl (by show¬g<_;omega));obtain⟨Q2,A7⟩: ∃Q2,Hid (Q2=upd Q1 k ((Q1 k).1,.slice (some (aD g5 0)) m5 m5)):=⟨_,rfl⟩;rw[←A7.out]at E7;have HZ:=hd8 E7;have HF:Hid (∀(i:Nat) (x:Evt.Bat),(Evt.dR (k+1) st1).1[i]?=some x→x.cmd=(Q2 i).1∧a3N (w5.setCell (aD g (k*2+1)) (.slice (some (aD g5 0)) m5 m5)) (g+1) (Q2 i).2 x.evs):=by
    show∀(i:Nat) (x:Evt.Bat),(Evt.dR (k+1) st1).1[i]?=some x→_;rw[HN.out,HE.out];intro i x hx;by_cases hi:i<L.length
    ·have Ab:i≠k:=by have:=A1.out;omega
     have hx:(L++[_])[i]?=some x:=hx;rw[d0M hi]at hx;rw[A7.out,aV _ _ Ab,A2.out,aV _ _ Ab];exact⟨(A4.out i x hx).1,(A4.out i x hx).2.off (aG w5 (aD g (k*2+1)) (.slice (some (aD g5 0)) m5 m5)) (fun j e=>by rw[e];exact d1F g)⟩
    ·have hx:(L++[(⟨(a1:Int),es⟩:Evt.Bat)])[i]?=some x:=hx;rw[d0S (by omega)]at hx;obtain rfl:i=k:=by
      have h1:=(c9H.1 hx).1;have h2:=A1.out;simp at h1;omega
     rw[A1.out,d1L]at hx;cases hx
     rw[A7.out,bM,A2.out,bM];exact⟨rfl,g5,m5,rfl,by omega,b3T V5 (aG w5 (aD g (i*2+1)) (.slice (some (aD g5 0)) m5 m5)) (fun e=>by have e:g5=g:=e;omega)⟩
   have Ad:Hid (Rd W0 (w5.setCell (aD g (k*2+1)) (.slice (some (aD g5 0)) m5 m5)) p (Evt.dR (k+1) st1).2):=by
    show Rd W0 _ p (Evt.dR (k+1) st1).2;rw[HN.out,HE.out];exact R7.out
   clear K3 E5 O5 E6 R6 O6 V5 A5 A4 E7;go_wp2_with fail;exact⟨⟨k+1,Q2,by omega,by go_num,HZ.out,HF.out,Ad.out,O7.out⟩,by simp[intOf];omega⟩
  ·obtain rfl:k=m:=by omega
   have HE:=hd8 ((ER.bats hm (Evt.uV k st1) (c9O g) HS.out).lower A9);clear ER;go_wp2_with fail;go_ret
   exact⟨g,k,rfl,HE.out,RR,OR⟩
theorem b1O(v:Value)(r:List Nat)(w:World)(h:cW w v r):
  Calls prog 83 #[v] w fun e w'=> ∃v',e=.returned (.tuple #[v',iV (Evt.aM r:Nat)])∧gY w' w.heap.size v' (Evt.dD r)∧Bl w w':=by
 have X0:=aB8 w (.cells #[v,.bool false] 165);have V0:=aO w 165 v (.bool false);have R0:Rd w (w.alloc (.cells #[v,.bool false] 165)) w.heap.size (r,false):=⟨⟨v,V0.c0,h⟩,V0.c1,V0.fr,X0,c9C _⟩;have H1:=a9E w w.heap.size (r,false) _ R0;obtain⟨A,C,hv⟩:=h.byts.shape;have A1:=hd8 fun q=>Evt.b5F q;have A4:=hd8 fun q q'=>Evt.a7R q q';generalize (Evt.jN (r,false)).1=l at H1 A1 A4;generalize (Evt.jN (r,false)).2=st at H1 A1 A4;obtain⟨rr,fl⟩:=st;subst hv;clear h V0 R0;go_enter func83,ntmps83
 go_wp2_with fail;refine H1.mono ?_;rintro e w1 ⟨g,m,rfl,B1,R1,O1⟩;have B1:=B1.lower X0.size;obtain⟨vr,k0,A3⟩:=R1.c0;have k1:w1.cell? (aD w.heap.size 1)=some (.bool fl):=R1.c1;have b1:=R1.bel;obtain⟨Ar,Cr,rfl⟩:=A3.byts.shape;have A6:rr.length≤9223372036854775807:=A3.byts.len;clear H1 R1 O1 A3 X0;cases fl with
 |true=>
  have HQ:Hid (Evt.aM r=2∧Evt.dD r=[]):=A1.out (Or.inl rfl);go_wp2_with fail;go_ret2
  exact⟨_,by rw[HQ.out.1];rfl,by rw[HQ.out.2];exact eW _ _,b1⟩
 |false=>
  cases rr with
  |A5 x rr=>
   have HQ:Hid (Evt.aM r=2∧Evt.dD r=[]):=A1.out (Or.inr (fun e=>by cases e));have A2:(0:Int)<((x::rr).length:Int):=by rw[d0E];omega
   have k0:w1.cell? (aD w.heap.size 0)=some (.slice Ar (x::rr).length Cr):=k0;generalize (x::rr).length=q at k0 A2 A6;go_wp2_with fail;go_ret2
   exact⟨_,by rw[HQ.out.1];rfl,by rw[HQ.out.2];exact eW _ _,b1⟩
  |nil=>
   have k0:w1.cell? (aD w.heap.size 0)=some (.slice Ar 0 Cr):=k0;have HQ:=hd8 (A4.out rfl rfl);have H2:=rC _ l w1 B1.bats;have HB:=hd8 fun w' hb=>B1.below hb;clear B1;by_cases hE:(Evt.aF l).1=0
   ·rw[hE]at H2;have A0:Hid (Evt.aM r=0∧Evt.dD r=l):=⟨by rw[HQ.out.1,hE],by rw[HQ.out.2,if_pos hE]⟩;generalize (Evt.aF l).2=y at H2;clear hE HQ;go_wp2_with fail;refine H2.mono ?_;rintro e w2 ⟨rfl,b2⟩;have b3:=bt b2 ((Below.refl w2.heap.size w2).alloc (c9C _) (.cells #[iV 0,iV y] 78));clear H2;go_wp2_with fail;go_ret2
    exact⟨_,by rw[A0.out.1];rfl,by rw[A0.out.2];exact HB.out _ b3,bt b1 b3⟩
   ·have A0:Hid (Evt.aM r=(Evt.aF l).1∧Evt.dD r=[]):=⟨HQ.out.1,by rw[HQ.out.2,if_neg hE]⟩;generalize (Evt.aF l).1=x1 at H2 A0 hE;generalize (Evt.aF l).2=y at H2;have A7:((x1:Int)==0)=false:=by rw[beq_eq_false_iff_ne];omega
    have A8:((x1:Int) !=0)=true:=by rw[bne,A7];rfl
    clear hE HQ;go_wp2_with fail;refine H2.mono ?_;rintro e w2 ⟨rfl,b2⟩;have b3:=bt b2 ((Below.refl w2.heap.size w2).alloc (c9C _) (.cells #[iV x1,iV y] 78));clear H2;go_wp2_with fail;go_quiet (fail)
    go_wp2_with fail;go_ret2
    exact⟨_,by rw[A0.out.1];rfl,by rw[A0.out.2];exact eW _ _,⟨(bt b1 b3).os,(bt b1 b3).tape,(bt b1 b3).output,(bt b1 b3).size,(bt b1 b3).block⟩⟩
theorem uX{l:List Evt.Ev}(h:Evs w v l):
  ∃es:List EvC,es.map aZ=l∧(∀e,e∈es→e.1.size≤9223372036854775807)∧ ∀A C,v=.slice (some A) l.length C→ ∀j u,(es.flatMap eH)[j]?=some u→w.cell? (A.add j)=some u:=by
 by_cases h0:1≤l.length
 ·obtain⟨b,o,C,rfl,_,_,hc⟩:=h.some h0;have A0: ∀i,i<l.length→ ∃q:EvC,∀x,l[i]?=some x→aZ q=x∧q.1.size≤9223372036854775807∧w.cell? (aD b (o+i*3))=some (.string q.1)∧w.cell? (aD b (o+i*3+1))=some (iV q.2.1)∧w.cell? (aD b (o+i*3+2))=some (iV q.2.2):=by
   intro i hi;obtain⟨s,h1,h2,c0,c1,c2⟩:=hc i l[i] (c9F hi);refine⟨(s,l[i].kind,l[i].num),fun x hx=>?_⟩;rw[c9F hi,Option.some.injEq]at hx;subst hx;refine⟨?_,h1,c0,c1,c2⟩;show(⟨nb s,_,_⟩:Evt.Ev)=_;rw[h2]
  obtain⟨q,hq⟩:=Deep.choose_lt (α:=EvC) A0;have hL: ∀i,i<l.length→((List.range l.length).map q)[i]?=some (q i):=fun i hi=>by simp[hi]
  refine⟨(List.range l.length).map q,?_,fun e he=>?_,fun A C' hv j u hj=>?_⟩
  ·bK d1I;intro i;by_cases hi:i<l.length
   ·rw[c9S,hL i hi,c9F hi,Option.map_some,(hq i hi l[i] (c9F hi)).1]
   ·rw[c9Z (by simpa using hi),c9Z (by omega)]
  ·obtain⟨i,hi,rfl⟩:=d0G.1 he;have hi:=d0D.1 hi;exact(hq i hi l[i] (c9F hi)).2.1
  ·cases hv
   have A1:(((List.range l.length).map q).flatMap eH).length=l.length*3:=by
    rw[fJ eH 3 _ (fun _ _=>rfl)];simp
   have A2:j<l.length*3:=by
    have:=(c9H.1 hj).1;omega
   have hi:j/3<l.length:=by omega
   have hf:=dQ eH 3 ((List.range l.length).map q) (fun _ _=>rfl) (j/3) (j%3) (by omega) (q (j/3)) (hL _ hi);rw[show j/3*3+j%3=j by omega,hj]at hf;obtain⟨_,_,c0,c1,c2⟩:=hq (j/3) hi l[j/3] (c9F hi);rw[WideShapes.add_plain];rcases(show j%3=0∨j%3=1∨j%3=2 by omega)with e|e|e
   ·rw[e]at hf;cases hf
    rw[show o+j=o+j/3*3 by omega];exact c0
   ·rw[e]at hf;cases hf
    rw[show o+j=o+j/3*3+1 by omega];exact c1
   ·rw[e]at hf;cases hf
    rw[show o+j=o+j/3*3+2 by omega];exact c2
 ·obtain rfl:l=[]:=d0N (by omega);exact⟨[],rfl,fun e he=>(by cases he),fun A C _ j u hj=>(by cases hj)⟩
theorem c4V(es:List EvC): ∀u∈es.flatMap eH,u.oneCell'=true:=fun u hu=>by
 obtain⟨x,_,hx⟩:=d2H.1 hu
 simp only[eH,List.mem_cons,List.not_mem_nil,or_false]at hx
 rcases hx with rfl|rfl|rfl<;>rfl
theorem a3H(es:List EvC):(es.flatMap eH).length=es.length*3:=fJ eH 3 _ (fun _ _=>rfl)
theorem a4D(w:World)(N:Nat)(v:Value)(es0 es:List EvC)(h0:cG w N v es0)(hN:N≤w.heap.size)(a:Addr)(C:Nat)(hc: ∀j u,(es.flatMap eH)[j]?=some u→w.cell? (a.add j)=some u)(hz: ∀e,e∈es→e.1.size≤9223372036854775807)(hsz:es0.length+es.length≤4000000):
  ∃v' w',(Builtin.append_ #[40,40] 40 #[v,.slice (some a) es.length C]).run prog w=.ok v' w'∧cG w' N v' (es0++es)∧Off (fun k=>v.ownBlock=some k) w w'∧(v'.ownBlock=v.ownBlock∨v'.ownBlock=some w.heap.size):=by
 obtain⟨i4,A4,A1⟩:=c9J.1 Tryz.infoEvent;simp only[Prod.mk.injEq]at A1;obtain⟨A5,A6,A3⟩:=A1;obtain⟨v',w',A0,ho,hg,_,A2⟩:=run_append_own_at (P:=prog) w N 40 40 83 i4 _ 3 32 underlying40 A4 A5 A6 A3 rfl (by decide) v es0.length _ h0.1 a es.length C (es.flatMap eH) (a3H es) hc (c4V es) (by unfold maxLen;omega) (by omega) hN;refine⟨v',w',A0,⟨?_,fun e he=>?_⟩,cJ hg,A2⟩
 ·rw[c9I,d0H];exact ho
 ·rcases List.mem_append.1 he with q|q
  ·exact h0.2 e q
  ·exact hz e q
def b2R(e:Ending)(w':World)(N:Nat)(l:List Evt.Ev):Prop:= ∃v es,e=.returned v∧es.map aZ=l∧cG w' N v es
theorem b0C(vs:Value)(l:List Evt.Ev)(w:World)(h:Evs w vs l)(hn:l.length≤2000000):
  Calls prog 77 #[vs] w fun e w'=>b2R e w' w.heap.size l∧Bl w w':=by
 obtain⟨es,A2,A8,A4⟩:=uX h;have A3:es.length=l.length:=by rw[←A2,c9M]
 have HE:=hd8 A2;obtain⟨A,C,rfl,_,_,A5⟩:=h;have hq:=fun w=>Lib.run_eql_slice_nil (P:=prog) w 40 83 A l.length C 0 0 underlying40;cases A with
 |none=>
  have A6:l=[]:=by
   cases l with
   |Aa=>rfl
   |cons a r=>
    obtain⟨_,_,e,_⟩:=A5 0 a rfl;cases e
  have HR:Hid (b2R (.returned nS) w w.heap.size l):=⟨_,[],rfl,A6.symm,cG.nil w _⟩;clear A2 A4 A3 HE A5 A6;go_enter func77,ntmps77
  go_wp2_with fail;go_ret
  exact⟨HR.out,Below.refl _ _⟩
 |some a=>
  have A1:=aB8 w (.cells #[] 83);have h0:cG (w.alloc (.cells #[] 83)) w.heap.size (.slice (some (aD w.heap.size 0)) 0 0) []:=⟨World.ownsRow_made w #[] 0 (c9C _) (by unfold maxLen;omega) rfl,fun e he=>(by cases he)⟩
  obtain⟨v',w',A0,hB,A7,_⟩:=a4D (w.alloc (.cells #[] 83)) w.heap.size _ [] es h0 A1.size a C (fun j u hj=>by
   have h1:=A4 a C rfl j u hj
   exact(A1.cell (World.block_lt_of_cell? _ _ h1)).trans h1) A8 (by simp;omega)
  rw[A3]at A0
  have A9:Bl w w':=A1.trans (A7.below A1.size fun k q=>by
   cases q
   exact c9C _)
  have HR:Hid (b2R (.returned v') w' w.heap.size l):=⟨v',es,rfl,HE.out,by rw[d1C]at hB;exact hB⟩;clear A2 A4 A3 HE A5 hB h0 A7;go_enter func77,ntmps77
  go_wp2_with (at_builtin;refine Lib.wpList_append_run _ rfl _ _ _ _ rfl _ _ rfl rfl _ _ A0 ?_);go_ret
  exact⟨HR.out,A9⟩
theorem mZ{l:List Evt.Bat}{b:Evt.Bat}(h:l[k]?=some b):Sto.cE (l.take (k+1))=Sto.cE (l.take k)++b.evs:=by
 rw[d1Y,h,Sto.sE];simp[Sto.cE]
theorem pL(l:List Evt.Bat)(k:Nat):(Sto.cE (l.take k)).length≤(Sto.cE l).length:=by
 conv=>rhs;rw[←d2Q k l,Sto.sE,c9I]
 omega
def c8T(e:Ending)(w w':World)(N:Nat)(v:Value)(l:List Evt.Ev):Prop:= ∃v' es',e=.returned v'∧cG w' N v' es'∧es'.map aZ=l∧Off (fun k=>v.ownBlock=some k) w w'∧(v'.ownBlock=v.ownBlock∨ ∀g,v'.ownBlock=some g→w.heap.size≤g)
def c8O(w wr:World)(N:Nat)(v y:Value)(es:List EvC)(l:List Evt.Bat)(k:Nat):Prop:= ∃es',cG wr N y es'∧es'.map aZ=es.map aZ++Sto.cE (l.take k)∧Off (fun k=>v.ownBlock=some k) w wr∧(y.ownBlock=v.ownBlock∨ ∀g,y.ownBlock=some g→w.heap.size≤g)
theorem yY(N:Nat)(v vb:Value)(es:List EvC)(l:List Evt.Bat)(w:World)(h:cG w N v es)(hN:N≤w.heap.size)(hB: ∀w',Off (fun k=>v.ownBlock=some k) w w'→eU w' vb l)(hne: ∀b,b∈l→1≤b.evs.length)(hsz:es.length+(Sto.cE l).length≤1000000):
  Calls prog 84 #[v,vb] w fun e w'=>c8T e w w' N v (es.map aZ++Sto.cE l):=by
 have Aj:=hB w (Off.refl _ _);obtain⟨A,C,Af,At,Ac,_⟩:=Aj;have HB:Hid (∀w',Off (fun k=>v.ownBlock=some k) w w'→ ∀i x,l[i]?=some x→ ∃b o,A=some (aD b o)∧oV w' b (o+i*2) x):=fun w' ho i x hx=>by
  obtain⟨A',C',Ae,_,_,hc⟩:=hB w' ho;rw[Af]at Ae;cases Ae
  exact hc i x hx
 have Al:=hd8 hne;have Ao:=hd8 hsz;have Aq:=mL8 Ac;subst Af;have H0:c8O w w N v v es l 0:=⟨es,h,by rw[d2F];exact(d0W _).symm,Off.refl _ _,Or.inl rfl⟩;clear hB hne hsz h Ac;go_enter func84,ntmps84
 go_wp2_with fail;go_loopw [0,9] (fun y x wr=> ∃k:Nat,k≤l.length∧x=iV k∧Hid (∃A1,cG wr N y A1∧A1.map aZ=es.map aZ++Sto.cE (l.take k)∧Off (fun k=>v.ownBlock=some k) w wr∧(y.ownBlock=v.ownBlock∨ ∀g,y.ownBlock=some g→w.heap.size≤g))) (fun _ x _=>l.length-(intOf x).toNat)
 case atStart=>exact⟨0,c9D _,rfl,H0⟩
 case round=>
  obtain⟨k,hk,rfl,HS⟩:=hrel;by_cases Ak:k<l.length
  ·have Ap:(k:Int)<(l.length:Int):=by omega
   obtain⟨A1,hE,A0,A3,A6⟩:=HS;obtain⟨x,hx⟩: ∃x,l[k]?=some x:=⟨l[k],c9F Ak⟩;obtain⟨b,o,rfl,ve,d0,d1,A7⟩:=HB.out wr A3 k x hx;have Ad:=Al.out x (c9N hx);have bA:=aB8 wr (.cells #[iV x.cmd,ve] 47);obtain⟨bb,oo,CC,rfl,Am,As,_⟩:=A7.some Ad;obtain⟨xs,A8,Ag,Ai⟩:=uX (A7.below bA);have Ah:xs.length=x.evs.length:=by rw[←A8,c9M]
   have A9:A1.length=es.length+(Sto.cE (l.take k)).length:=by
    have:=congrArg List.length A0;rw[c9M,c9I,c9M]at this;exact this
   have Aa:=pL l (k+1);rw[mZ hx,c9I]at Aa;have An:=Ao.out;obtain⟨v',w',A2,Ab,A4,A5⟩:=a4D (wr.alloc (.cells #[iV x.cmd,.slice (some (aD bb oo)) x.evs.length CC] 47)) N u0 A1 xs (hE.below bA) (c9E hN (c9E A3.size bA.size)) (aD bb oo) CC (Ai _ _ rfl) Ag (by omega);rw[Ah]at A2;have Ar:c8O w w' N v v' es l (k+1):=by
    refine⟨A1++xs,Ab,by rw[c9U,A0,A8,mZ hx,c9X],(A3.trans (Off.of_below bA)).past A4 fun q hq hql=>?_,?_⟩
    ·rcases A6 with z|z
     ·rw[←z];exact hq
     ·have:=z q hq;omega
    ·rcases A5 with z|z
     ·rcases A6 with z1|z1
      ·exact Or.inl (z.trans z1)
      ·exact Or.inr fun g hg=>z1 g (z▸hg)
     ·refine Or.inr fun g hg=>?_;rw[z]at hg;cases hg
      exact c9E A3.size bA.size
   have VB:=aO wr 47 (iV x.cmd) (.slice (some (aD bb oo)) x.evs.length CC);obtain⟨e0,e1,_⟩:=VB;obtain⟨m,hm⟩: ∃m,m=x.evs.length:=⟨_,rfl⟩;rw[←hm]at A2 d1 Am e1;rw[←hm]at e0;clear hE A0 A3 A6 hx A7 A8 Ag Ai Ah A9 Aa An Ab A4 A5 bA Ad hm;go_wp2_with (at_builtin;refine Lib.wpList_append_run _ rfl _ _ _ _ rfl _ _ rfl rfl _ _ A2 ?_);exact⟨⟨k+1,by omega,by go_num,Ar⟩,by simp[intOf];omega⟩
  ·obtain rfl:k=l.length:=by omega
   have HF:Hid (c8T (.returned u0) w wr N v (es.map aZ++Sto.cE l)):=by
    obtain⟨A1,hE,A0,A3,A6⟩:=HS;rw[d0L]at A0;exact⟨u0,A1,rfl,hE,A0,A3,A6⟩
   clear HS;go_wp2_with fail;go_ret
   exact HF.out
theorem gY.off{l:List Evt.Bat}(h:gY w M v l)(ho:Off S w w')(hS: ∀k,S k→k<M):gY w' M v l:=by
 obtain⟨A,A0,hv,h1,h2,h3⟩:=h;refine⟨A,A0,hv,h1,h2,fun i x hx=>?_⟩;obtain⟨b,o,e1,e2,ve,c0,c1,he,e3⟩:=h3 i x hx;have hp:b<w.heap.size:=World.block_lt_of_cell? _ _ c0;have hb:=ho.block b hp fun z=>by have:=hS b z;omega
 refine⟨b,o,e1,e2,ve,(World.cell?_of_block (w:=w) (a:=⟨b,o+i*2,none⟩) hb).trans c0,(World.cell?_of_block (w:=w) (a:=⟨b,o+i*2+1,none⟩) hb).trans c1,?_,e3⟩;have h4:a0B w (fun k=>M≤k) ve x.evs:=⟨he,fun g hg _=>e3 g hg⟩;exact(h4.move (w':=w') (E':=fun k=>M≤k) (fun k hk hM=>ho.block k hk fun z=>by have:=hS k z;omega) fun _ _ z=>z).1
theorem a0J.bats{tc:List (Int×Sl)}{l:List Evt.Bat}(h:a0J w N E vt tc l):eU w vt l:=by
 have hB:sT w N vt (tc.map fun x=>(x.1,slV x.2)):=by
  unfold sT;rw[c9M,h.len,List.flatMap_map];exact h.own
 refine hB.bats (by rw[c9M,h.len]) fun i x b hx hb=>?_;rw[c9S]at hx;obtain⟨y,hy,rfl⟩:=c9J.1 hx;exact⟨(h.evs i y b hy hb).1,(h.evs i y b hy hb).2.1⟩
theorem tA{l:List Evt.Bat}(h:(Evt.aF l).1=0):(Sto.cE l).length≤2550∧ ∀b,b∈l→1≤b.evs.length:=by
 obtain⟨h1,h2⟩:=Evt.kR h;refine⟨?_,fun b hb=>(Evt.bN (h2 b hb)).2.2.1⟩;have A0: ∀r:List Evt.Bat,(∀b,b∈r→b.evs.length≤10)→(Sto.cE r).length≤r.length*10:=by
  intro r;induction r with
  |A1=>intro _;simp[Sto.cE]
  |cons x r ih=>
   intro hr;have h3:=hr x c9W;have h4:=ih fun b hb=>hr b (c9Y _ hb);have e:Sto.cE (x::r)=x.evs++Sto.cE r:=by simp[Sto.cE]
   rw[e,c9I,d0E,d0F];omega
 have:=A0 l fun b hb=>(Evt.bN (h2 b hb)).2.2.2.1;omega
theorem a8S(h:Evt.aM r=0):(Evt.aF (Evt.dD r)).1=0:=by
 unfold Evt.aM at h;unfold Evt.dD;cases hg:Evt.vA r with
 |none=>
  rw[hg]at h;cases h
 |some l=>
  rw[hg]at h;show(Evt.aF (if (Evt.aF l).1=0 then l else[])).1=0;have h:(Evt.aF l).1=0:=h;rw[if_pos h];exact h
theorem c1L{x:Value}(b3:Bl wX w3)(h:wX.cell? (aD R i)=some x∧Bl w0 wX):w3.cell? (aD R i)=some x∧Bl w0 w3:=
 ⟨(b3.cell (p:=⟨R,i,none⟩) (World.block_lt_of_cell? _ _ h.1)).trans h.1,bt h.2 b3⟩
def a6V(e:Ending)(w':World)(N:Nat)(r:Nat×List Evt.Ev):Prop:= ∃v es,e=.returned (.tuple #[v,iV r.1])∧es.map aZ=r.2∧cG w' N v es∧es.length≤200000
theorem sI(w':World)(N x:Nat):a6V (.returned (.tuple #[nS,iV x])) w' N (x,[]):=⟨_,[],rfl,rfl,cG.nil _ _,c9D _⟩
def c7S(X:Sto.Six)(c:Sto.Cfg)(ds:List Sto.aL)(n:Nat)(w wr:World)(y:Value)(k:Nat):Prop:= ∃es,cG wr w.heap.size y es∧Bl w wr∧es.length≤k*2550∧Sto.jA X c ds n 0 []=Sto.jA X c ds (n-k) k (es.map aZ)
section
variable {N R D : Nat} {F E : Nat → Prop} {c : Sto.Cfg} {s : Sto.St} {V : Nat → Value} {U : Nat → List HeC} {vt vs va : Value} {tc : List (Int × Sl)} {X : Sto.Six}
theorem b3J(hX:Sto.dE X)(w:World)(h:StP w N R F E c s D V U vt vs va tc):
  Calls prog 47 #[.pointer (some (aD R 0))] w fun e w'=>a6V e w' w.heap.size (Sto.all X c s)∧Bl w w':=by
 have c4:=h.var.q4;have Az:=h.wf.segs;have HP:=hd8 h;have HX:=hd8 hX;have HA:Hid (Sto.all X c s=if (Sto.jA X c s.disks s.segs 0 []).1≠0 then((Sto.jA X c s.disks s.segs 0 []).1,[])else(0,(Sto.jA X c s.disks s.segs 0 []).2++Sto.cE s.tail)):=rfl;obtain⟨n,hn⟩: ∃n,n=s.segs:=⟨_,rfl⟩;rw[←hn]at c4 Az HA;have S0:c7S X c s.disks n w w nS 0:=⟨[],cG.nil _ _,Below.refl _ _,c9D _,rfl⟩;clear h hX hn;go_enter func47,ntmps47
 go_wp2_with fail;go_loopw [4,14] (fun y x wr=> ∃k:Nat,k≤n∧x=iV k∧c7S X c s.disks n w wr y k) (fun _ x _=>n-(intOf x).toNat)
 case atStart=>exact⟨0,c9D _,rfl,S0⟩
 case round=>
  obtain⟨k,hk,rfl,es,hE,hb,Ap,Ah⟩:=hrel;by_cases B4:k<n
  ·have At:(k:Int)<(n:Int):=by omega
   obtain⟨m,hm⟩: ∃m,n-k=m+1:=⟨n-k-1,by omega⟩;have hP:=HP.out.below hb;have Am:=fun w' (hS:w'.cell? (aD R 0)=some (iV c.d)∧Bl wr w')=>(hP.below hS.2).blks (k:Int);have c0:=hP.var.q0;have TD:wr.drew.cell? (aD R 0)=some (iV c.d)∧Bl wr wr.drew:=⟨c0,(Below.refl _ _).drew⟩;have A8:Hid (Sto.jA X c s.disks n 0 []=if (X.read (Sto.aJ s.disks k) k c).1≠0 then((X.read (Sto.aJ s.disks k) k c).1,[])else if Evt.aM (X.read (Sto.aJ s.disks k) k c).2≠0 then(Evt.aM (X.read (Sto.aJ s.disks k) k c).2,[])else Sto.jA X c s.disks m (k+1) (es.map aZ++Sto.cE (Evt.dD (X.read (Sto.aJ s.disks k) k c).2))):=by
    show Sto.jA X c s.disks n 0 []=_;rw[Ah,hm,Sto.jA]
   have Af:=hd8 fun v' w' hL=>a2S HX.out v' _ k c w' hL;generalize (X.read (Sto.aJ s.disks (k:Int)) k c).1=x at A8 Af;generalize (X.read (Sto.aJ s.disks (k:Int)) k c).2=r at A8 Af;have Ax:Hid (n-(k+1)=m):=show n-(k+1)=m by omega
   clear Ah hm hP c0;go_wp2_with fail;go_region_held3 (fun w'=>w'.cell? (aD R 0)=some (iV c.d)∧Bl wr w')
    (first|A1 exact TD|A1 A0|A1 exact c1L (by A0) (by A0))
    (first|(go_at_call 52;refine(Am _ (by A0)).mono ?_;rintro e1 w1 ⟨⟨v1,rfl,B0⟩,b1⟩;have S1:=c1L b1 (by A0))|(go_at_call 82;refine(Af.out _ _ (by A0)).mono ?_;rintro e2 w2 ⟨v2,rfl,Ab,b2⟩;have S2:=c1L b2 (by A0)))
   have Ac:=S2.2;clear S1 S2 TD Am Af b1 b2 B0;by_cases hx:x=0
   case neg=>
    have HF:Hid (Sto.all X c s=(x,[])):=by
     show Sto.all X c s=(x,[]);have e1:Sto.jA X c s.disks n 0 []=(x,[]):=by rw[A8.out,if_pos hx]
     rw[HA.out,e1];exact if_pos hx
    have B6:((x:Int) !=0)=true:=by rw[bne_iff_ne];omega
    obtain⟨A2,C2,rfl⟩:=Ab.byts.shape;clear hx Ab;go_wp2_with fail;go_ret2
    exact⟨by rw[HF.out];exact sI _ _ _,bt hb Ac⟩
   case pos=>
    subst hx;have Ag:=b1O v2 r w2 Ab;have Ao:Evt.aM r=0→(Evt.aF (Evt.dD r)).1=0:=a8S;obtain⟨A2,C2,rfl⟩:=Ab.byts.shape;obtain⟨y,hy⟩: ∃y,Evt.aM r=y:=⟨_,rfl⟩;have HY:=hd8 hy;rw[hy]at Ag;clear hy Ab;go_wp2_with fail;refine Ag.mono ?_;rintro e3 w3 ⟨v3,rfl,A9,b3⟩;by_cases Ae:y=0
    case neg=>
     have HF:Hid (Sto.all X c s=(y,[])):=by
      show Sto.all X c s=(y,[]);have e1:Sto.jA X c s.disks n 0 []=(y,[]):=by rw[A8.out,if_neg (fun z=>z rfl),HY.out,if_pos Ae]
      rw[HA.out,e1];exact if_pos Ae
     have B3:((y:Int) !=0)=true:=by rw[bne_iff_ne];omega
     obtain⟨A3,C3,A5⟩: ∃A C,v3=.slice A (Evt.dD r).length C:=by
      obtain⟨A3,C3,A5,_⟩:=A9;exact⟨A3,C3,A5⟩
     subst A5;clear Ae A9 Ag;go_wp2_with fail;go_ret2
     exact⟨by rw[HF.out];exact sI _ _ _,bt hb (bt Ac b3)⟩
    case pos=>
     subst Ae;obtain⟨As,Aq⟩:=tA (Ao HY.out);have Ak:=(hE.below Ac).below b3;have Al:es.length+(Sto.cE (Evt.dD r)).length≤(k+1)*2550:=by
      rw[d0F];omega
     have Ai:=bt hb (bt Ac b3);have Aj:(k+1)*2550≤40*2550:=d1J _ (by omega);have A7:=yY w.heap.size u4 v3 es (Evt.dD r) w3 Ak Ai.size (fun w' ho=>(A9.off ho fun q hq=>((hE.below Ac).1.lt q hq).2).bats) Aq (by omega);have Ay:Hid (∀v4 A4 w4,cG w4 w.heap.size v4 A4→A4.map aZ=es.map aZ++Sto.cE (Evt.dD r)→Off (fun q=>u4.ownBlock=some q) w3 w4→c7S X c s.disks n w w4 v4 (k+1)):=fun v4 A4 w4 q1 q2 q3=>by
      refine⟨A4,q1,Ai.trans (q3.below Ai.size fun q hq=>(Ak.1.lt q hq).1),?_,?_⟩
      ·have:=congrArg List.length q2;rw[c9M,c9I,c9M]at this;omega
      ·rw[A8.out,if_neg (fun z=>z rfl),if_neg (fun z=>z HY.out),q2,Ax.out]
     obtain⟨A3,C3,A5⟩: ∃A C,v3=.slice A (Evt.dD r).length C:=by
      obtain⟨A3,C3,A5,_⟩:=A9;exact⟨A3,C3,A5⟩
     subst A5;clear A9 Ag hE Ak Al As Aq Aj Ao Ap;go_wp2_with fail;refine A7.mono ?_;rintro e4 w4 ⟨v4,A4,rfl,Ad,A6,Aa,_⟩;have Ar:=Ay.out v4 A4 w4 Ad A6 Aa;clear A7 Ad A6 Aa;go_wp2_with fail;exact⟨⟨k+1,by omega,by go_num,Ar⟩,by simp[intOf];omega⟩
  ·obtain rfl:k=n:=by omega
   have hP:=HP.out.below hb;have c5:=hP.var.q5;have An:=fun b hb=>(Evt.bN (hP.wf.bats b hb)).2.2.1;have B1:(Sto.cE s.tail).length≤2550:=by
    have h1:=hP.wf.tail;have h2:=hP.wf.b10;have B2: ∀r:List Evt.Bat,(∀b,b∈r→b.evs.length≤10)→(Sto.cE r).length≤r.length*10:=by
     intro r;induction r with
     |B5=>intro _;simp[Sto.cE]
     |cons x r ih=>
      intro hr;have h3:=hr x c9W;have h4:=ih fun b hb=>hr b (c9Y _ hb);have e:Sto.cE (x::r)=x.evs++Sto.cE r:=by simp[Sto.cE]
      rw[e,c9I,d0E,d0F];omega
    have:=B2 s.tail fun b hb=>(Evt.bN (hP.wf.bats b hb)).2.2.2.1;omega
   have Aj:k*2550≤40*2550:=d1J _ (by omega)
   have A7:=yY w.heap.size u4 vt es s.tail wr hE hb.size (fun w' ho=>(hP.out ho fun q hq=>⟨fun z=>by
    have z1:=(HP.out.lt q z).2;have z2:=(hE.1.lt q hq).1;omega,fun z=>by
    have z1:=(HP.out.dis q z).2;have z2:=(hE.1.lt q hq).1
    omega⟩).tail.bats) An (by omega)
   have HF:Hid (Sto.all X c s=(0,es.map aZ++Sto.cE s.tail)):=by
    show Sto.all X c s=_;rw[HA.out,Ah,d1L];rfl
   have Aw:Hid (es.length+(Sto.cE s.tail).length≤200000):=show _≤_ by omega
   have Av:Hid (∀w',Off (fun q=>u4.ownBlock=some q) wr w'→Bl w w'):=fun w' q3=>hb.trans (q3.below hb.size fun q hq=>(hE.1.lt q hq).1);clear hP An B1 Aj hE Ap Ah;go_wp2_with fail;refine A7.mono ?_;rintro e4 w4 ⟨v4,A4,rfl,Ad,A6,Aa,_⟩;have Au:=Av.out w4 Aa;have HO:Hid (a6V (.returned (.tuple #[v4,iV 0])) w4 w.heap.size (Sto.all X c s)):=by
    show a6V _ _ _ _;rw[HF.out];refine⟨v4,A4,rfl,A6,Ad,?_⟩;have:=congrArg List.length A6;rw[c9M,c9I,c9M]at this;rw[this];exact Aw.out
   clear A7 Ad A6 Aa;go_wp2_with fail;go_ret2
   exact⟨HO.out,Au⟩
end
theorem Tryz.enters_others: ∀args w,(callFunc 49 args).run Tryz.prog w=.ok (.enter 49 args) w:=enters_of Tryz.func49 (by kernel_rfl) rfl
theorem zQ(p:Nat)(s t:ByteArray)(k m:Int)(w:World)(hc:w.cell? (aD p 0)=some (.string t)):
  Calls prog 49 #[.agg #[.string s,iV k,iV m],.pointer (some (aD p 0))] w fun e w'=>e=.returned (.bool !(decide (nb s=nb t)))∧Bl w w':=by
 have A0:=aB8 w (.cells #[.string s,iV k,iV m] 83);have A1:=cB8 A0 hc;obtain⟨c0,_,_⟩:=iL w (.string s) (iV k) (iV m);have HY:=hd8 (mV s t);go_enter func49,ntmps49
 go_wp2_with fail;go_ret
 exact⟨by rw[←HY.out];rfl,A0⟩
def a9U(l:List EvC)(t:ByteArray)(i:Int):Prop:=(i= -1∧ ∀(j:Nat) q,l[j]?=some q→nb q.1=nb t)∨ ∃(r:Nat) (q:EvC),i=(r:Int)∧l[r]?=some q∧nb q.1≠nb t∧ ∀(j:Nat) x,j<r→l[j]?=some x→nb x.1=nb t
theorem cG.at(h:cG w N v es){q:EvC}(hi:es[i]?=some q): ∃g cap,v=.slice (some (aD g 0)) es.length cap∧cap≤9223372036854775807∧es.length≤cap∧w.cell? (aD g (i*3))=some (.string q.1)∧w.cell? (aD g (i*3+1))=some (iV q.2.1)∧w.cell? (aD g (i*3+2))=some (iV q.2.2):=by
 have hl:1≤es.length:=by
  have:=(c9H.1 hi).1;omega
 obtain⟨g,cap,rfl,_,h1,h2,_,hc⟩:=dB h.1 hl;have hf:=fun t ht=>dQ eH 3 es (fun _ _=>rfl) i t ht q hi;exact⟨g,cap,rfl,by unfold maxLen at h2;exact h2,h1,hc _ _ (hf 0 (by decide)),hc _ _ (hf 1 (by decide)),hc _ _ (hf 2 (by decide))⟩
theorem cG.shape(h:cG w N v es): ∃A C,v=.slice A es.length C:=by
 rcases h.1.2 with⟨rfl,h0⟩|⟨g,A1,A0,rfl,_⟩
 ·exact⟨none,0,by rw[h0]⟩
 ·exact⟨_,_,rfl⟩
theorem b2N(p N:Nat)(t:ByteArray)(v:Value)(es:List EvC)(w:World)(h:cG w N v es)(hc:w.cell? (aD p 0)=some (.string t)):
  Calls prog 86 #[v,.func (.func 49) #[] #[.pointer (some (aD p 0))]] w fun e w'=> ∃i:Int,e=.returned (iV i)∧a9U es t i∧Bl w w':=by
 have eg:=Tryz.enters_others;obtain⟨A,C,hv⟩:=h.shape;have HB:=hd8 h;subst hv;clear h;go_enter func86,ntmps86
 go_wp2_with fail;go_loopw [8] (fun i wr=> ∃k:Nat,k≤es.length∧i=iV k∧Hid (∀(j:Nat) q,j<k→es[j]?=some q→nb q.1=nb t)∧Bl w wr) (fun i _=>es.length-(intOf i).toNat)
 case atStart=>exact⟨0,c9D _,rfl,fun j q hj=>absurd hj (c9L j),Below.refl _ _⟩
 case round=>
  obtain⟨k,hk,rfl,HS,hb⟩:=hrel;by_cases A0:k<es.length
  ·have A2:(k:Int)<(es.length:Int):=by omega
   obtain⟨q,hq⟩: ∃q,es[k]?=some q:=⟨es[k],c9F A0⟩;obtain⟨g,A4,hv,A1,A3,d0,d1,d2⟩:=(HB.out.below hb).at hq;cases hv
   have HQ:Hid (es[k]?=some q):=hq;have HC:=zQ p q.1 t q.2.1 q.2.2 wr (cB8 hb hc);clear hq;by_cases hy:nb q.1=nb t
   ·have HY:=hd8 hy;rw[decide_eq_true hy]at HC;clear hy;go_wp2_with fail;refine HC.mono ?_;rintro e w1 ⟨rfl,b1⟩;clear HC;go_wp2_with fail;refine⟨⟨k+1,by omega,by go_num,fun j x hj hx=>?_,bt hb b1⟩,by simp[intOf];omega⟩;by_cases e:j=k
    ·rw[e,HQ.out]at hx;cases hx
     exact HY.out
    ·exact HS.out j x (by omega) hx
   ·have HF:Hid (a9U es t (k:Int)):=Or.inr ⟨k,q,rfl,HQ.out,hy,HS.out⟩;rw[decide_eq_false hy]at HC;clear hy;go_wp2_with fail;refine HC.mono ?_;rintro e w1 ⟨rfl,b1⟩;clear HC;go_wp2_with fail;go_ret
    exact⟨_,rfl,HF.out,bt hb b1⟩
  ·obtain rfl:k=es.length:=by omega
   have HF:Hid (a9U es t (-1)):=Or.inl ⟨rfl,fun j q hq=>HS.out j q (c9H.1 hq).1 hq⟩;go_wp2_with fail;go_ret
   exact⟨_,rfl,HF.out,hb⟩
def gW(t:ByteArray)(q:EvC):Bool:=decide (nb q.1=nb t)
theorem cG.over{L:List EvC}(h:cG w N (.slice (some (aD g 0)) n cap) L)(hn:n=L.length)(hi:i<n)(q:EvC)(hq:q.1.size≤9223372036854775807):
  cG (((w.setCell (aD g (i*3)) (.string q.1)).setCell (aD g (i*3+1)) (iV q.2.1)).setCell (aD g (i*3+2)) (iV q.2.2)) N (.slice (some (aD g 0)) n cap) (L.set i q):=by
 subst hn;obtain⟨x,hx⟩: ∃x,L[i]?=some x:=⟨L[i],c9F hi⟩;have fs:=fun M t a a' u ht h1 h2=>sW eH 3 M i t a a' u (fun _ _=>rfl) ht h1 h2;have s1:=(h.1.stored (i*3) (.string q.1)).1;rw[show i*3=i*3+0 from rfl,fs L 0 x (q.1,x.2) (.string q.1) (by decide) hx rfl]at s1;have l1:(L.set i (q.1,x.2)).length=L.length:=d0B ..;have g1:(L.set i (q.1,x.2))[i]?=some (q.1,x.2):=d0O hi;have s2:=(s1.stored (i*3+1) (iV q.2.1)).1;rw[fs _ 1 _ (q.1,q.2.1,x.2.2) (iV q.2.1) (by decide) g1 rfl,List.set_set]at s2;have g2:(L.set i (q.1,q.2.1,x.2.2))[i]?=some (q.1,q.2.1,x.2.2):=d0O hi;have s3:=(s2.stored (i*3+2) (iV q.2.2)).1;rw[fs _ 2 _ q (iV q.2.2) (by decide) g2 rfl,List.set_set]at s3;refine⟨by rw[d0B];exact s3,fun e he=>?_⟩;rcases List.mem_or_eq_of_mem_set he with z|rfl
 ·exact h.2 e z
 ·exact hq
theorem b5K{L:List EvC}(h:cG w N (.slice (some (aD g 0)) n cap) L)(hn:n=L.length)(hi:i<n):
  ∃w',(∀ty c,(Builtin.clear_ #[40] ty #[.slice (some (aD g (i*3))) (n-i) c]).run prog w=.ok (.tuple #[]) w')∧cG w' N (.slice (some (aD g 0)) i cap) (L.take i)∧Off (fun k=>k=g) w w':=by
 subst hn;rcases h.1.2 with⟨e,_⟩|⟨g',A9,A0,e,A8,hg,hc,hm,A2,Ab⟩
 ·cases e
 ·cases e
  obtain⟨i3,Ad,A5⟩:=c9J.1 Tryz.infoEvent;simp only[Prod.mk.injEq]at A5;obtain⟨Ac,Af,Ae⟩:=A5;have hz: ∀w,(zeroValue 83).run prog w=.ok (.agg #[.string ByteArray.empty,iV 0,iV 0]) w:=fun w=>by
   simp[zeroValue,typeInfo,Ad,Ac]
  obtain⟨vs,A1⟩: ∃vs,vs=(Builtin.zeroCells (Value.agg #[.string ByteArray.empty,iV 0,iV 0]).cells (L.length-i)).toList:=⟨_,rfl⟩;have A6:vs.length=(L.length-i)*3:=by
   rw[A1,d1B,size_zeroCells];rfl
  have A3: ∀v∈vs,v.oneCell'=true:=fun v hv=>by
   rw[A1]at hv;simp only[Builtin.zeroCells,Array.toList_map,List.mem_map]at hv;obtain⟨j,_,rfl⟩:=hv;have:j%(Value.agg #[.string ByteArray.empty,iV 0,iV 0]).cells.size<3:=Nat.mod_lt _ (by decide);generalize j%(Value.agg #[.string ByteArray.empty,iV 0,iV 0]).cells.size=r at this;rcases(show r=0∨r=1∨r=2 by omega)with rfl|rfl|rfl<;>rfl
  have A4:=run_storeCells_at (P:=prog) g (i*3) 83 vs 0 A0 w hg (by rw[A6,A2];omega) A3;rw[d0X]at A4;have Aa:=a3H L;refine⟨_,fun ty c=>?_,⟨⟨by rw[a3H],Or.inr ⟨g,cap,(A0.toList.take (i*3)++vs++A0.toList.drop (i*3+vs.length)).toArray,by rw[c9K,Nat.min_eq_left (d2B hi)],A8,setRow_heap w g A0 _ 83 _ hg,by rw[c9K];omega,hm,?_,?_⟩⟩,fun e he=>h.2 e (d2T he)⟩,⟨rfl,rfl,rfl,(below_setRow (Below.refl 0 w) (c9D g) _).size,fun k _ hk=>setRow_other w g k _ hk⟩⟩
  ·obtain⟨m,A7⟩: ∃m,L.length-i=m+1:=⟨L.length-i-1,by omega⟩;rw[A7];rw[A7]at A1;simp only[Builtin.clear_];simp[run_underlying underlying40,hz,←A1,A4]
  ·rw[d0Q];simp only[List.length_append,List.length_take,List.length_drop,Array.length_toList,A2,A6];omega
  ·rw[c9K,Nat.min_eq_left (d2B hi)];show(A0.toList.take (i*3)++vs++A0.toList.drop (i*3+vs.length)).take (i*3)=_;rw[c9X,List.take_append_of_le_length (by rw[c9K,d1B,A2];omega),List.take_take,Nat.min_self];have:=congrArg (List.take (i*3)) Ab;rw[List.take_take,Nat.min_eq_left (by omega)]at this;rw[this,jB eH 3 L i (fun _ _=>rfl) (d2B hi)]
def c6C(w wr:World)(N:Nat)(v:Value)(es:List EvC)(t:ByteArray)(p i j:Nat):Prop:= ∃L,cG wr N v L∧L.length=es.length∧L.take i=(es.take j).filter (gW t)∧L.drop j=es.drop j∧Off (fun k=>v.ownBlock=some k) w wr∧wr.cell? (aD p 0)=some (.string t)
theorem a1S{t:ByteArray}{q:EvC}(hq:es[j]?=some q):(es.take (j+1)).filter (gW t)=(es.take j).filter (gW t)++if nb q.1=nb t then[q]else[]:=by
 rw[d1Y,hq,d1O];congr 1;show[q].filter (gW t)=_;by_cases h:nb q.1=nb t
 ·rw[if_pos h,d1W (show gW t q=true from decide_eq_true h)];rfl
 ·rw[if_neg h,d1N (show¬gW t q=true from fun z=>h (of_decide_eq_true z))];rfl
def c6U(e:Ending)(w w':World)(N:Nat)(v:Value)(es:List EvC):Prop:= ∃v',e=.returned v'∧cG w' N v' es∧Off (fun k=>v.ownBlock=some k) w w'
theorem a9G(p N:Nat)(t:ByteArray)(v:Value)(es:List EvC)(w:World)(h:cG w N v es)(hc:w.cell? (aD p 0)=some (.string t))(hp: ∀g,v.ownBlock=some g→g≠p):
  Calls prog 50 #[v,.func (.func 49) #[] #[.pointer (some (aD p 0))]] w fun e w'=>c6U e w w' N v (es.filter (gW t)):=by
 have eg:=Tryz.enters_others;have HI:=b2N p N t v es w h hc;have HB:=hd8 h;obtain⟨A,C,hv⟩:=h.shape;subst hv;clear h;go_enter func50,ntmps50
 go_wp2_with fail;refine HI.mono ?_;rintro e w1 ⟨i,rfl,HF,b1⟩;have A7:=HB.out.below b1;have c1:=cB8 b1 hc;clear HI;rcases HF with⟨rfl,A8⟩|⟨r,q,rfl,hq,Ai,A3⟩
 ·have HO:Hid (c6U (.returned (.slice A es.length C)) w w1 N (.slice A es.length C) (es.filter (gW t))):=by
   have e1:es.filter (gW t)=es:=d2S.2 fun q hq=>by
    obtain⟨j,hj⟩:=d1K.1 hq;exact decide_eq_true (A8 j q hj)
   rw[e1];exact⟨_,rfl,A7,Off.of_below b1⟩
  clear A8 A7;go_wp2_with fail;go_ret
  exact HO.out
 ·have B6:r<es.length:=(c9H.1 hq).1;have S0:c6C w w1 N (.slice A es.length C) es t p r (r+1):=by
   refine⟨es,A7,rfl,?_,rfl,Off.of_below b1,c1⟩;rw[a1S hq,if_neg Ai,d0W];refine(d2S.2 fun x hx=>?_).symm;obtain⟨j,hj⟩:=d1K.1 hx;have Aj:j<r:=by
    have:=(c9H.1 hj).1;rw[c9K]at this;omega
   rw[d0C,if_pos Aj]at hj;exact decide_eq_true (A3 j x Aj hj)
  obtain⟨g,B4,Ad,Ax,Az,_⟩:=A7.at hq;cases Ad
  have Ae:=hp g rfl;have Ao:(r:Int)≠ -1:=by omega
  have B0:((r:Int)== -1)=false:=by rw[beq_eq_false_iff_ne];exact Ao
  clear hq Ai A3 A7 hp;go_wp2_with fail;go_loopw [5,6] (fun y x wr=> ∃i j:Nat,i<j∧j≤es.length∧y=iV i∧x=iV j∧c6C w wr N (.slice (some (aD g 0)) es.length C) es t p i j) (fun _ x _=>es.length-(intOf x).toNat)
  case atStart=>exact⟨r,r+1,by omega,by omega,rfl,by go_num,S0⟩
  case round=>
   obtain⟨i,j,Am,B3,rfl,rfl,L,hL,A9,A5,Aa,A0,A1⟩:=hrel;by_cases Aq:j<es.length
   ·have Ap:(j:Int)<(es.length:Int):=by omega
    obtain⟨q,hq⟩: ∃q,es[j]?=some q:=⟨es[j],c9F Aq⟩;have Af:L[j]?=some q:=by
     have:=congrArg (fun z=>z[0]?) Aa;simp only[List.getElem?_drop,Nat.add_zero]at this;rw[this];exact hq
    obtain⟨g',Ar,Ad,_,_,d0,d1,d2⟩:=hL.at Af;rw[A9]at Ad;cases Ad
    have bA:=aB8 wr (.cells #[.string q.1,iV q.2.1,iV q.2.2] 83);have VE:=iL wr (.string q.1) (iV q.2.1) (iV q.2.2);have HC:=zQ p q.1 t q.2.1 q.2.2 _ (cB8 bA A1);have Aw:=hL.2 q (c9N Af);have Ah:Hid (L.drop (j+1)=es.drop (j+1)):=by
     show L.drop (j+1)=es.drop (j+1);have:=congrArg (List.drop 1) Aa;rw[List.drop_drop,List.drop_drop]at this;exact this
    have HT:Hid ((es.take (j+1)).filter (gW t)=(es.take j).filter (gW t)++if nb q.1=nb t then[q]else[]):=a1S hq;have Ak:Hid (L.take i=(es.take j).filter (gW t)):=A5;have A2:Hid (L.length=es.length):=A9;obtain⟨wo,rfl⟩: ∃x,x=wr:=⟨wr,rfl⟩;clear hq Af Aa A5 A9;by_cases hy:nb q.1=nb t
    ·have HY:=hd8 hy;rw[decide_eq_true hy]at HC;clear hy;go_wp2_with fail;refine HC.mono ?_;rintro e w2 ⟨rfl,b2⟩;obtain⟨e0,e1,e2⟩:=VE.below b2;have b3:=bt bA b2;have Ac:=hL.below b3;have fr:=fun j=>kZ Ac.1 (g:=g) rfl j;have f0:=fr (i*3);have f1:=fr (i*3+1);have f2:=fr (i*3+2);obtain⟨x,hx⟩: ∃x,L[i]?=some x:=⟨L[i]'(by have:=A2.out;omega),c9F _⟩;obtain⟨g9,As,A6,_,_,y0,y1,y2⟩:=Ac.at hx;have At:g9=g:=by
      injection A6 with h1 _ _;injection h1 with h1;injection h1 with h1 _ _;exact h1.symm
     rw[At]at y0 y1 y2;have Al:=Ac.over (by rw[A2.out]) (show i<es.length by omega) q Aw;have Ab:c6C w (((w2.setCell (aD g (i*3)) (.string q.1)).setCell (aD g (i*3+1)) (iV q.2.1)).setCell (aD g (i*3+2)) (iV q.2.2)) N (.slice (some (aD g 0)) es.length C) es t p (i+1) (j+1):=by
      refine⟨L.set i q,Al,by rw[d0B];exact A2.out,?_,?_,?_,?_⟩
      ·rw[HT.out,if_pos HY.out,←Ak.out,d1Y,d0O (by have:=A2.out;omega),List.take_set,List.set_eq_of_length_le (by rw[c9K];omega)];rfl
      ·rw[List.drop_set,if_pos (by omega)];exact Ah.out
      ·exact(((A0.trans (Off.of_below b3)).set (p:=⟨g,i*3,none⟩) rfl _).set (p:=⟨g,i*3+1,none⟩) rfl _).set (p:=⟨g,i*3+2,none⟩) rfl _
      ·have c9:=cB8 b3 A1;rw[World.cell?_setCell_other _ _ _ _ (fun e=>Ae (congrArg Addr.block e)),World.cell?_setCell_other _ _ _ _ (fun e=>Ae (congrArg Addr.block e)),World.cell?_setCell_other _ _ _ _ (fun e=>Ae (congrArg Addr.block e))];exact c9
     have Au:(i:Int)<(es.length:Int):=by omega
     have Ay:(i:Int)<(j:Int):=by omega
     clear HC VE hL Ac Al hx A6 fr A0 A1 bA b2 b3;go_wp2_with fail;exact⟨⟨i+1,j+1,by omega,by omega,by go_num,by go_num,Ab⟩,by simp[intOf];omega⟩
    ·have Ab:Hid (∀w2,Bl wo w2→c6C w w2 N (.slice (some (aD g 0)) es.length C) es t p i (j+1)):=fun w2 hb2=>by
      refine⟨L,hL.below hb2,A2.out,by rw[HT.out,if_neg hy,d0W];exact Ak.out,Ah.out,A0.trans (Off.of_below hb2),cB8 hb2 A1⟩
     rw[decide_eq_false hy]at HC;clear hy;go_wp2_with fail;refine HC.mono ?_;rintro e w2 ⟨rfl,b2⟩;have An:=Ab.out w2 (bt bA b2);clear HC VE hL A0 A1 bA b2 Ab;go_wp2_with fail;exact⟨⟨i,j+1,by omega,by omega,rfl,by go_num,An⟩,by simp[intOf];omega⟩
   ·obtain rfl:j=es.length:=by omega
    obtain⟨w9,Av,Ag,A4⟩:=b5K hL (by rw[A9]) (show i<es.length from Am);have HO:Hid (c6U (.returned (.slice (some (aD g 0)) i C)) w w9 N (.slice (some (aD g 0)) es.length C) (es.filter (gW t))):=by
     rw[d0L]at A5;rw[←A5];exact⟨_,rfl,Ag,A0.trans (A4.wider fun k hk=>by rw[hk];rfl)⟩
    have B5: ¬C=i:=by omega
    have Au:(i:Int)≤(es.length:Int):=by omega
    have B1:i≤es.length:=by omega
    have B2:i≤C:=by omega
    have Ay:(i:Int)≤(C:Int):=by omega
    clear hL A5 Aa A0 A1 Ag A4 A9;go_wp2_with fail;go_ret
    exact HO.out
theorem c5G{P:Program}(w:World)(base:Nat)(t ty e:TypeId)(i:TypeInfo)(z:Value)(size bytes:Nat)(ht:P.underlying t=some (.slice e))(hi:P.info? e=some i)(hz:i.zero=some z)
  (hsize:i.size=size) (hby:i.bytes=bytes) (v:Value) (n:Nat) (xs:List Value) (hown:w.ownsRow base e size v n xs)
  (a:Addr) (m c:Nat) (news:List Value) (hl:news.length=m*size) (hnews: ∀j u,news[j]?=some u→w.cell? (a.add j)=some u) (h1: ∀u∈news,u.oneCell'=true)
  (h63:n+m≤maxLen) (hbytes:(n+m)*bytes≤140737488355328)
  {v':Value} {w':World} (hr:(Builtin.append_ #[t,t] ty #[v,.slice (some a) m c]).run P w=.ok v' w'):w'.ownsRow base e size v n xs:=by
 subst hsize;subst hby
 have A6:n+m≤9223372036854775807:=by simp only[maxLen]at h63;omega
 rcases hown.2 with⟨rfl,rfl⟩|⟨g,A3,A5,rfl,A9,hg,Ab,Aa,A8,A1⟩
 ·exact⟨hown.1,.inl ⟨rfl,rfl⟩⟩
 ·by_cases A0:n+m≤A3
  ·have A7:n*i.size+news.length≤A5.size:=by rw[hl,A8,←Nat.add_mul];exact d1J _ A0
   have A4:=run_append_room (P:=P) w t ty e i ht hi g n A3 A5 hg a m c news hl hnews h1 A0 A7;rw[hr]at A4;injection A4 with e1 e2;subst e2;refine⟨hown.1,.inr ⟨g,A3,_,rfl,A9,setRow_heap w g A5 _ e _ hg,Ab,Aa,?_,?_⟩⟩
   ·simp only[List.size_toArray,List.length_append,List.length_take,List.length_drop,Array.length_toList];omega
   ·rw[A1,c9X];have:=hown.1;rw[←this];exact List.take_left
  ·have A2:=hown.cells (g:=g) rfl;have A4:=run_append_grow (P:=P) w t ty e i z ht hi hz (aD g 0) n A3 xs hown.1 A2 a m c news hl hnews (by omega) (by omega) (growslice_fits (by omega) hbytes);rw[hr]at A4;injection A4 with e1 e2;subst e2;have Ac:=(hown.lt g rfl).2;exact⟨hown.1,.inr ⟨g,A3,A5,rfl,A9,(heap_alloc_old w.drew _ Ac).trans hg,Ab,Aa,A8,A1⟩⟩
section
variable {w w' : World} {N R D : Nat} {F F' E E' : Nat → Prop} {c : Sto.Cfg} {s s' : Sto.St} {V : Nat → Value} {U : Nat → List HeC} {vt vs va vt' vs' va' : Value} {tc tc' : List (Int × Sl)}
theorem StP.tailed(h:StP w N R F E c s D V U vt vs va tc)(ho:Off (fun k=>vt.ownBlock=some k) w w')(hown:w'.ownsRow N 47 2 vt s.tail.length (tc.flatMap wY)):StP w' N R F E c s D V U vt vs va tc:=by
 have hT: ∀k,vt.ownBlock=some k→TyB w k 47:=fun k q=>aU h.tail.own q;have A0:=fun k hk he=>ho.block k hk fun q=>(h.dis k he).1 (h.fT k q);refine⟨h.var.off ho fun q=>(hT _ q).ne h.var.ty (by decide) rfl,h.ge,h.dk.off ho fun k q=>⟨_,hT k q,by decide,by decide,by decide⟩,⟨hown,h.tail.len,fun i x b hx hb=>⟨(h.tail.evs i x b hx hb).1,(h.tail.evs i x b hx hb).2.move A0 fun _ _ q=>q⟩⟩,bC h.seen ho fun g hg q=>(hT g q).ne (aU h.seen hg) (by decide) rfl,h.acc.move A0 fun _ _ q=>q,h.fR,h.fD,h.fV,h.fU,h.fT,h.fS,fun k hk=>⟨(h.lt k hk).1,c9P (h.lt k hk).2 ho.size⟩,fun k hk=>⟨(h.dis k hk).1,c9P (h.dis k hk).2 ho.size⟩,h.wf⟩
theorem StP.remake(h:StP w N R F E c s D V U vt vs va tc)(ho:Off (fun k=>k=R) w w')(hd:s'.disks=s.disks)(hvar:aW w' R 45 (jZ c D s'.disks.length s'.segs vt' vs' s'.u va'))
  (htl:a0J w' N E' vt' tc' s'.tail) (hseen:w'.ownsRow N 3 1 vs' s'.seen.length (s'.seen.flatMap aE)) (hacc:a0M w' E' va' s'.acc) (hF: ∀k,F k→F' k) (hT: ∀g,vt'.ownBlock=some g→F' g) (hS: ∀g,vs'.ownBlock=some g→F' g)
  (hlt: ∀k,F' k→N≤k∧k<w'.heap.size) (hdis: ∀k,E' k→ ¬F' k∧k<w'.heap.size) (hwf:WfS c s'):StP w' N R F' E' c s' D V U vt' vs' va' tc':=by
 have A0:dM w' N D V U s.disks:=h.dk.off ho fun k q=>⟨45,by rw[show k=R from q];exact h.var.ty,by decide,by decide,by decide⟩;exact⟨hvar,h.ge,by rw[hd];exact A0,htl,hseen,hacc,hF _ h.fR,hF _ h.fD,fun i g hi hg=>hF _ (h.fV i g (by rw[←hd];exact hi) hg),fun i x g hi hx hg=>hF _ (h.fU i x g (by rw[←hd];exact hi) hx hg),hT,hS,hlt,hdis,hwf⟩
end
structure b9M(w0 w':World)(N R:Nat)(F E:Nat→Prop)(c:Sto.Cfg)(s:Sto.St)(D:Nat)(V:Nat→Value)(U:Nat→List HeC)(vt vs va:Value)(tc:List (Int×Sl))(b:Evt.Bat)(v':Value)(E1:Nat→Prop)(tc1:List (Int×Sl)):Prop where
 st:StP w' N R F E c s D V U vt vs va tc
 off:Off F w0 w'
 up: ∀k,E k→E1 k
 new: ∀k,E1 k→E k∨(w0.heap.size≤k∧TyB w' k 83)
 tl:a0J w' N E1 v' tc1 (s.tail++[b])
 at': ∀g,v'.ownBlock=some g→F g∨w0.heap.size≤g
 elt: ∀k,E k→k<w0.heap.size
 flt: ∀k,F k→k<w0.heap.size
section
variable {w w0 : World} {N R D : Nat} {F E : Nat → Prop} {c : Sto.Cfg} {s : Sto.St} {V : Nat → Value} {U : Nat → List HeC} {vt vs va : Value} {tc : List (Int × Sl)}
theorem c8C(h:StP w0 N R F E c s D V U vt vs va tc)(b0:Bl w0 w)(b:Evt.Bat)(hE:cG w w0.heap.size v3 es)(hm:es.map aZ=b.evs)(hNw:N≤w0.heap.size)(c0:w.cell? (aD p 0)=some (iV b.cmd))(c1:w.cell? (aD p 1)=some v3):
  ∃v' w',(Builtin.append_ #[26,26] 26 #[vt,.slice (some (aD p 0)) 1 1]).run prog w=.ok v' w'∧ ∃E1 tc1,b9M w0 w' N R F E c s D V U vt vs va tc b v' E1 tc1:=by
 obtain⟨i4,Ac,A7⟩:=c9J.1 Tryz.infoBatch;simp only[Prod.mk.injEq]at A7;obtain⟨A9,Aa,A5⟩:=A7;have hw:=h.below b0;obtain⟨A3,C3,rfl⟩:=hE.shape;have A6: ∀j u,[Value.int .i64 b.cmd,.slice A3 es.length C3][j]?=some u→w.cell? ((⟨p,0,none⟩:Addr).add j)=some u:=fun j u hj=>by
  match j,hj with
  |0,hj=>cases hj;rw[WideShapes.add_plain];exact c0
  |1,hj=>cases hj;rw[WideShapes.add_plain];exact c1
 have A8: ∀u∈[Value.int .i64 b.cmd,.slice A3 es.length C3],u.oneCell'=true:=fun u hu=>by
  simp only[List.mem_cons,List.not_mem_nil,or_false]at hu;rcases hu with rfl|rfl<;>rfl
 have Ai:=hw.wf.tail;have Ag:=hw.wf.b10;obtain⟨v',w',A0,ho,hg,_,Ah⟩:=run_append_own_at (P:=prog) w N 26 26 47 i4 _ 2 32 underlying26 Ac A9 Aa A5 rfl (by decide) vt s.tail.length _ hw.tail.own (aD p 0) 1 1 _ rfl A6 A8 (by unfold maxLen;omega) (by omega) (c9E hNw b0.size);have A2:=c5G (P:=prog) w N 26 26 47 i4 _ 2 32 underlying26 Ac A9 Aa A5 vt s.tail.length _ hw.tail.own (aD p 0) 1 1 _ rfl A6 A8 (by unfold maxLen;omega) (by omega) A0;have A1:=cJ hg;have Af: ∀k,(Value.slice A3 es.length C3).ownBlock=some k→TyB w k 83:=fun k q=>aU hE.1 q;have Ab:cG w' w0.heap.size (.slice A3 es.length C3) es:=hE.off A1 fun g hg q=>(Af g hg).ne (aU hw.tail.own q) (by decide) rfl;have Ad:=fun k hk he=>A1.block k hk fun q=>(hw.dis k he).1 (hw.fT k q);refine⟨v',w',A0,fun k=>E k∨(Value.slice A3 es.length C3).ownBlock=some k,tc++[(b.cmd,(A3,es.length,C3))],hw.tailed A1 A2,(Off.of_below b0).trans (A1.wider fun k q=>h.fT k q),fun _ q=>Or.inl q,fun k q=>?_,⟨?_,?_,fun i x y hx hy=>?_⟩,fun g hg=>?_,fun k q=>(h.dis k q).2,fun k q=>(h.lt k q).2⟩
 ·rcases q with q|q
  ·exact Or.inl q
  ·exact Or.inr ⟨(hE.1.lt k q).1,aU Ab.1 q⟩
 ·rw[c9I,d0H];exact ho
 ·rw[c9I,c9I,hw.tail.len];rfl
 ·have Ae:=hw.tail.len;by_cases hi:i<tc.length
  ·rw[d0M hi]at hx;rw[d0M (by omega)]at hy;exact⟨(hw.tail.evs i x y hx hy).1,(hw.tail.evs i x y hx hy).2.move Ad fun _ _ q=>Or.inl q⟩
  ·have A4:=(c9H.1 hx).1;rw[c9I]at A4;have A4:i<tc.length+1:=A4;obtain rfl:i=tc.length:=by omega
   rw[d0S (c9C _),d1L]at hx;rw[d0S (by omega),show tc.length-s.tail.length=0 by omega]at hy;cases hx
   cases hy
   exact⟨rfl,by rw[←hm];exact Ab.evs,fun g hg _=>Or.inr hg⟩
 ·rcases Ah with z|z
  ·rw[z]at hg;exact Or.inl (h.fT g hg)
  ·rw[z]at hg;cases hg
   exact Or.inr b0.size
end
theorem c4S{ops:Array Oper}{o:Oper}{a:Act}{w w':World}{K:Act→World→Prop}{Q:Exit→Act→World→Prop}{E:Prop}
  (hg:o.guard=none) (s x:Operand) (hop:o.op=Op.call {callee:=Callee.builtin Builtin.append,args:=#[s,x],argTypes:=#[26,26]}) (hty:o.type=26)
  {v u v':Value} (hs:a.eval s=v) (hx:a.eval x=u) (hr:(Builtin.append_ #[26,26] 26 #[v,u]).run prog w=.ok v' w') (hK:K (a.put o.dst v') w'):
  if Region.wanted o (yielded ops a.tmps)=true then Oper.wp prog o a w K Q else E:=by
 have hw:Region.wanted o (yielded ops a.tmps)=true:=by simp[Region.wanted,hg]
 rw[if_pos hw];unfold Oper.wp execOp;simp only[hop,hty,resolve,invoke,builtin,Sem.run_bind,Sem.run_pure,Result.andThen_ok,List.map_toArray,List.map_cons,List.map_nil,hs,hx,hr];exact hK
end Go.Proofs.YtmcaejooaaahdaaGreat
