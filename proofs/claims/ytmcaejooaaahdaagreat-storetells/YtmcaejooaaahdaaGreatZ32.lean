import Derived.Test.YtmcaejooaaahdaaGreatZ26
import Derived.Test.YtmcaejooaaahdaaGreatZ31
set_option maxHeartbeats 8000000
set_option maxRecDepth 100000
namespace Go.Proofs.YtmcaejooaaahdaaGreat
open Go.Proofs.Tryz
variable {N g k n p:Nat} {W w w':World} {bs:List Nat} {v v':Value}
open Go.RowKit
def wI(e:Ending)(w':World)(N:Nat)(a:Sto.Ans):Prop:= ∃v,e=.returned v∧qG w' (fun k=>N≤k) v a
def gM(l:List Evt.Ev)(n:Int):Sto.Ans:=if n<0∨(l.length:Int)<n then Sto.no 3 else⟨0,l.length,l.drop n.toNat,0,[]⟩
def ofA(l:List Evt.Ev)(t:List Nat):Sto.Ans:=if¬Evt.cV t then Sto.no 7 else⟨0,(l.filter fun e=>decide (e.name=t)).length,l.filter fun e=>decide (e.name=t),0,[]⟩
def nW(l:List Evt.Ev):Sto.Ans:=⟨(Vw.cD 0 [] l).1.1,(Vw.cD 0 [] l).2.1,[],(Vw.cD 0 [] l).2.1,(Vw.cD 0 [] l).2.2⟩
def tE(e:Ending)(w':World)(N:Nat)(a:Sto.Ans):Prop:= ∃v,e=.returned v∧qG w' (fun k=>N≤k∧TyB w' k 83) v a
theorem pI(w':World)(N x:Nat):tE (.returned (dI (x:Nat) 0)) w' N (Sto.no x):=⟨_,rfl,fJ w' _ x 0⟩
theorem pA(w':World)(N x:Nat):wI (.returned (dI (x:Nat) 0)) w' N (Sto.no x):=⟨_,rfl,fJ w' _ x 0⟩
theorem cH.rest{cap:Nat}{es:List EvC}(h:cH w N (.slice (some (aD g 0)) es.length cap) es)(hn:n≤es.length):Evs w (.slice (some (aD g (n*3))) (es.length-n) (cap-n)) ((es.map aY).drop n):=by
 obtain⟨A,C,hv,h1,h2,h3⟩:=h.evs;rw[c9M]at hv h1;cases hv
 refine⟨_,_,by rw[d0A,c9M],by rw[d0A,c9M];omega,c9E (Nat.sub_le ..) h2,fun i e he=>?_⟩;rw[d0J]at he;obtain⟨b,o,e1,q⟩:=h3 (n+i) e he;cases e1
 refine⟨g,n*3,rfl,?_⟩;rw[show n*3+i*3=0+(n+i)*3 by omega];exact q
theorem uY(w:World)(A:Option Addr)(C:Nat)(hC:C≤maxLen):Evs w (.slice A 0 C) []:=⟨A,C,rfl,c9D _,hC,fun i e he=>by cases he⟩
theorem b8Q(N:Nat)(v:Value)(es:List EvC)(n:Int)(w:World)(h:cH w N v es)(hl:es.length≤200000):
  Calls prog 22 #[v,iV n] w fun e w'=>tE e w' N (gM (es.map aY) n)∧Off (fun k=>v.ownBlock=some k) w w':=by
 have A1:Hid (∀(S:Nat→Prop) d,Off S w (w.alloc (.cells d 42))):=fun _ d=>Off.oE (aB8 _ _);obtain⟨L,hL⟩: ∃L,L=es.length:=⟨_,rfl⟩;have A2:(es.map aY).length=L:=by rw[c9M,hL]
 by_cases q:n<0∨(L:Int)<n
 ·have HR:Hid (gM (es.map aY) n=Sto.no 3):=by
   show gM (es.map aY) n=Sto.no 3;unfold gM;rw[A2,if_pos q]
  obtain⟨A,C,hv⟩:=h.sE;rw[←hL]at hv;subst hv;clear h;by_cases q0:n<0
  ·clear q;go_enter func22,ntmps22
   go_wp2_with fail;refine bodyPost_ret (v:=dI 3 0) (by simp[results,results22,go_sem]) rfl ⟨by rw[HR.out];exact pI _ _ 3,A1.out _ _⟩
  ·have q1:(L:Int)<n:=by omega
   clear q;go_enter func22,ntmps22
   go_wp2_with fail;refine bodyPost_ret (v:=dI 3 0) (by simp[results,results22,go_sem]) rfl ⟨by rw[HR.out];exact pI _ _ 3,A1.out _ _⟩
 ·obtain⟨m,rfl⟩: ∃m:Nat,n=(m:Int):=⟨n.toNat,by omega⟩;have Aa:m≤L:=by omega
  have HR:Hid (gM (es.map aY) m=⟨0,(L:Int),(es.map aY).drop m,0,[]⟩):=by
   show gM (es.map aY) m=_;unfold gM;rw[A2,if_neg q,c9Q]
  have q1: ¬(m:Int)<0:=by omega
  have q2: ¬(L:Int)<(m:Int):=by omega
  rcases h.1.2 with⟨rfl,h0⟩|⟨g,A0,Ac,hv,A7,_,hc,hm,_⟩
  ·obtain rfl:L=0:=by omega
   obtain rfl:m=0:=by omega
   have he:=d0N h0;subst he;have HT:Hid (tE (.returned (.agg #[iV 0,iV 0,nS,iV 0,nS])) (w.alloc (.cells (cJ 0 0) 42)) N (gM [] 0)):=by
    show tE _ _ _ _;have e:gM [] 0=⟨0,0,[],0,[]⟩:=by
     unfold gM;rw[if_neg (by decide)];rfl
    rw[e];exact⟨_,rfl,fJ _ _ 0 0⟩
   clear h q q1 q2 HR hL A2 h0 hl Aa;go_enter func22,ntmps22
   go_wp2_with fail;refine bodyPost_ret (v:=dI 0 0) (by simp[results,results22,go_sem]) rfl ⟨HT.out,A1.out _ _⟩
  ·subst hv;have Ae:=mL8 hm;have A5:=h.rest (n:=m) (by omega);have A6:Hid (TyB w g 83):=aU h.1 rfl;rw[←hL]at A5 h hc hl⊢;have A3:=hd8 A5;have A4:Hid (((es.map aY).drop m).length=L-m):=by
    show((es.map aY).drop m).length=L-m;rw[d0A,A2]
   have Ad:m≤A0:=by omega
   have Ab:(m:Int)≤(L:Int):=by omega
   have A9:(m:Int)≤(A0:Int):=by omega
   clear h A5 q A2 hL hl;by_cases A8:A0=m
   ·obtain rfl:L=m:=by omega
    subst A8;have HB:Hid (∀A c d,c≤maxLen→tE (.returned (.agg #[iV 0,iV A0,.slice A 0 c,iV 0,nS])) (w.alloc (.cells d 42)) N (gM (es.map aY) A0)):=fun A c d hc=>by
     show tE _ _ _ _;rw[HR.out];have e:(es.map aY).drop A0=[]:=d0N (by rw[A4.out];omega);rw[e];exact⟨_,rfl,_,_,rfl,⟨uY _ A c hc,fun _ _ z=>absurd rfl z⟩,pC _ _⟩
    clear A3 A4 HR;go_enter func22,ntmps22
    go_wp2_with fail;refine bodyPost_ret (v:=.agg #[iV 0,iV A0,.slice (some (aD g 0)) 0 0,iV 0,nS]) (by simp[results,results22,go_sem]) rfl ⟨HB.out _ _ _ (c9D _),A1.out _ _⟩
   ·have HB:Hid (∀d,tE (.returned (.agg #[iV 0,iV L,.slice (some (aD g (m*3))) (L-m) (A0-m),iV 0,nS])) (w.alloc (.cells d 42)) N (gM (es.map aY) m)):=fun d=>by
     show tE _ _ _ _;rw[HR.out]
     exact⟨_,rfl,_,_,rfl,⟨A3.out.bE (aB8 _ _),fun b hb _=>by
      cases hb
      exact⟨A7,A6.out.bE (aB8 _ _)⟩⟩,pC _ _⟩
    clear A3 A4 HR;go_enter func22,ntmps22
    go_wp2_with fail;refine bodyPost_ret (v:=.agg #[iV 0,iV L,.slice (some (aD g (m*3))) (L-m) (A0-m),iV 0,nS]) (by simp[results,results22,go_sem]) rfl ⟨HB.out _,A1.out _ _⟩
theorem b4U{u:Int}{l:List Vw.Acc}{es:List Evt.Ev}(h:(Vw.cD u l es).1.1≠0):(Vw.cD u l es).2=(0,[]):=by
 by_cases hw:(Vw.aR u l).1=0
 ·rw[Vw.pW hw]at h⊢;have A0: ∀(es:List Evt.Ev) (u:Int) (l:List Vw.Acc) (i:Nat),(Vw.fB u l i es).1.1≠0→(Vw.fB u l i es).2=(0,[]):=by
   intro es;induction es with
   |nil=>intro u l i h;exact absurd rfl h
   |cons e r ih=>
    intro u l i h;by_cases q:(Vw.apply u l e).1=0
    ·rw[Vw.yQ q]at h⊢;exact ih _ _ _ h
    ·rw[Vw.a0U q]
  exact A0 es u l 0 h
 ·rw[Vw.sC hw]
theorem b1Y(N:Nat)(v:Value)(es:List EvC)(w:World)(h:cH w N v es)(hN:N≤w.heap.size):
  Calls prog 23 #[v] w fun e w'=>wI e w' N (nW (es.map aY))∧Below N w w':=by
 have bA:Bl w (w.alloc (.cells (cJ 0 0) 42)):=(Below.refl _ _).alloc (c9C _) _;have VB:=aC w (cJ 0 0) 42;have A2:=a8Z 0 nS v [] (es.map aY) _ (bG.nil _) (h.bE bA).evs;have HV:Hid (aV (w.alloc (.cells (cJ 0 0) 42)) w.heap.size 42 (cJ 0 0).toList):=VB;have Ag:Hid (Bl w (w.alloc (.cells (cJ 0 0) 42))):=bA;have A7:Hid (nW (es.map aY)=⟨(Vw.cD 0 [] (es.map aY)).1.1,(Vw.cD 0 [] (es.map aY)).2.1,[],(Vw.cD 0 [] (es.map aY)).2.1,(Vw.cD 0 [] (es.map aY)).2.2⟩):=rfl;have Ab:Hid ((Vw.cD 0 [] (es.map aY)).1.1≠0→(Vw.cD 0 [] (es.map aY)).2=(0,[])):=b4U;have A5:Hid ((Vw.cD 0 [] (es.map aY)).1.1=0→(Vw.cD 0 [] (es.map aY)).2.1=(es.length:Int)):=fun q=>by
  have:=(Vw.rG q).2.1;rw[c9M]at this;omega
 obtain⟨L,hL⟩: ∃L,L=es.length:=⟨_,rfl⟩;obtain⟨A,C,hv⟩:=h.sE;rw[←hL]at hv A5;subst hv;unfold FoO jU at A2;generalize Vw.cD 0 [] (es.map aY)=r at A2 A7 Ab A5;obtain⟨⟨x,y⟩,u,l⟩:=r;have Af:(w.alloc (.cells (cJ 0 0) 42)).heap.size=w.heap.size+1:=by simp
 rw[Af]at A2;clear h hL VB bA Af;go_enter func23,ntmps23
 go_wp2_with fail;refine A2.mono ?_;rintro e w1 ⟨⟨v1,rfl,A3,A9⟩,b1⟩;have A3:bG w1 v1 l:=A3;have Aa:=b1;have Ad:aV w1 w.heap.size 42 (cJ 0 0).toList:=aZ.of_block HV.out (Aa.block _ (aZ.lt HV.out));have A8:Bl w w1:=bt Ag.out Aa;obtain⟨A1,C1,rfl⟩:=A3.sE;have bV:Bl w1 (w1.alloc (.cells #[iV u,.slice A1 l.length C1] 30)):=(Below.refl _ _).alloc (c9C _) _;have bW:Bl (w1.alloc (.cells #[iV u,.slice A1 l.length C1] 30)) ((w1.alloc (.cells #[iV u,.slice A1 l.length C1] 30)).alloc (.cells #[iV x,iV y] 78)):=(Below.refl _ _).alloc (c9C _) _;have VV:=(aO w1 30 (iV u) (.slice A1 l.length C1)).bE bW;have VF:=aO (w1.alloc (.cells #[iV u,.slice A1 l.length C1] 30)) 78 (iV x) (iV y);have Ae:(w1.alloc (.cells #[iV u,.slice A1 l.length C1] 30)).heap.size=w1.heap.size+1:=by simp
 rw[Ae]at VF;have bX:=bt bV bW;have A0:=Ad.bE bX;have A4:Hid (∀w',Off (fun k=>k=w.heap.size) ((w1.alloc (.cells #[iV u,.slice A1 l.length C1] 30)).alloc (.cells #[iV x,iV y] 78)) w'→a0S w' (fun k=>N≤k) (.slice A1 l.length C1) l∧Below N w w'):=fun w' ho=>by
  refine⟨⟨(A3.bE bX).off ho fun g hg e=>by
   have:=A9 g hg;omega,fun g hg _=>by
   have:=A9 g hg
   omega⟩,?_⟩
  exact((bt A8 bX).mono hN).trans (ho.bE (c9E hN (bt A8 bX).size) fun k hk=>by rw[hk];exact hN)
 clear A2 A3 A9 b1 Aa Ad A8 Ae bV bW;go_upto_region 2 with fail
 generalize (w1.alloc (.cells #[iV u,.slice A1 l.length C1] 30)).alloc (.cells #[iV x,iV y] 78)=w3 at VV VF bX A0 A4⊢;have b0:=A0.q0;have Ac:=A0.q1;have b2:=A0.q2;have b3:=A0.q3;have b4:=A0.q4;have f0:=A0.frozen 0;have f1:=A0.frozen 1;have f2:=A0.frozen 2;have f3:=A0.frozen 3;have f4:=A0.frozen 4;obtain⟨c0,c1,_⟩:=VV;obtain⟨d0,_,_⟩:=VF;clear A0 bX;by_cases hx:x=0
 ·have HU:Hid (u=(L:Int)):=A5.out hx;have A6:Hid (nW (es.map aY)=⟨0,u,[],u,l⟩):=by
   show nW (es.map aY)=⟨0,u,[],u,l⟩;rw[A7.out,hx]
  have Ah:((x:Int) !=0)=false:=by rw[bne_eq_false_iff_eq];omega
  clear hx;go_wp2_with fail;refine bodyPost_ret (v:=.agg #[iV 0,iV L,nS,iV u,.slice A1 l.length C1]) (by simp[results,results23,go_sem,b0,Ac,b2,b3,b4]) rfl ⟨⟨_,rfl,?_⟩,?_⟩
  ·rw[A6.out];exact⟨_,_,by rw[HU.out];rfl,a5Z _ _,(A4.out _ (aT _ w.heap.size _ _ _ _ _)).1⟩
  ·exact(A4.out _ (aT _ w.heap.size _ _ _ _ _)).2
 ·have Ai:((x:Int) !=0)=true:=by rw[bne_iff_ne];omega
  have A6:Hid (nW (es.map aY)=Sto.no x):=by
   show nW (es.map aY)=Sto.no x;rw[A7.out];have e:=Ab.out hx;have e1:u=0:=(Prod.mk.inj e).1;have e2:l=[]:=(Prod.mk.inj e).2;rw[e1,e2];rfl
  clear hx;go_wp2_with fail;refine bodyPost_ret (v:=dI (x:Nat) 0) (by simp[results,results23,go_sem,b0,Ac,b2,b3,b4]) rfl ⟨by rw[A6.out];exact pA _ _ x,?_⟩;exact(A4.out _ (aT _ w.heap.size _ _ _ _ _)).2
theorem b6Z(es:List EvC)(t:ByteArray):(es.filter (iC t)).map aY=(es.map aY).filter fun e=>decide (e.name=nb t):=by
 induction es with
 |nil=>rfl
 |cons q r ih=>
  rw[d1R];by_cases h:nb q.1=nb t
  ·rw[d1W (show iC t q=true from decide_eq_true h),d1W (p:=fun e:Evt.Ev=>decide (e.name=nb t)) (decide_eq_true h),d1R,ih]
  ·rw[d1N (show¬iC t q=true from fun z=>h (of_decide_eq_true z)),d1N (p:=fun e:Evt.Ev=>decide (e.name=nb t)) (fun z=>h (of_decide_eq_true z)),ih]
theorem a5H(N:Nat)(v:Value)(es:List EvC)(t:ByteArray)(w:World)(h:cH w N v es)(ht:t.size≤9223372036854775807):
  Calls prog 20 #[v,.string t] w fun e w'=>tE e w' N (ofA (es.map aY) (nb t))∧Off (fun k=>v.ownBlock=some k) w w':=by
 have bA:=aB8 w (.cells #[.string t] 9);have bB:=aB8 (w.alloc (.cells #[.string t] 9)) (.cells (cJ 0 0) 42);have VS:=(aC w #[.string t] 9).bE bB;have VB:=aC (w.alloc (.cells #[.string t] 9)) (cJ 0 0) 42;have sz:(w.alloc (.cells #[.string t] 9)).heap.size=w.heap.size+1:=by simp
 rw[sz]at VB;have b2:=bt bA bB;have hE:=h.bE b2;have c0:=VS.q0;have HN:=fun w'=>uX t w' ht
 have HD:=a7U w.heap.size N t v es _ hE c0 (fun g hg e=>by
  have:=(h.1.lt g hg).2
  omega)
 have A1:Hid (Bl w ((w.alloc (.cells #[.string t] 9)).alloc (.cells (cJ 0 0) 42))):=b2;have Ab:Hid (∀g,v.ownBlock=some g→g<w.heap.size):=fun g hg=>(h.1.lt g hg).2;have A2:Hid (aV ((w.alloc (.cells #[.string t] 9)).alloc (.cells (cJ 0 0) 42)) (w.heap.size+1) 42 (cJ 0 0).toList):=VB;obtain⟨A,C,hv⟩:=h.sE;obtain⟨L,hL⟩: ∃L,L=es.length:=⟨_,rfl⟩;rw[←hL]at hv;subst hv;clear h hE VS VB bA bB sz b2 hL;go_enter func20,ntmps20
 go_upto_region 1 with fail
 generalize (w.alloc (.cells #[.string t] 9)).alloc (.cells (cJ 0 0) 42)=w2 at c0 HD A1 A2⊢;go_wp2_with fail;refine(HN _).mono ?_;rintro e w3 ⟨⟨y,rfl,hy⟩,rfl⟩;clear HN;cases y with
 |false=>
  have HR:Hid (ofA (es.map aY) (nb t)=Sto.no 7):=if_pos fun z=>absurd (hy.2 z) (by decide);have hV:=A2.out;have b0:=hV.q0;have A3:=hV.q1;have b2:=hV.q2;have b3:=hV.q3;have b4:=hV.q4;have f0:=hV.frozen 0;have f1:=hV.frozen 1;have f2:=hV.frozen 2;have f3:=hV.frozen 3;have f4:=hV.frozen 4;have Aa:Hid (∀w',Off (fun k=>k=w.heap.size+1) w3 w'→Off (fun k=>(Value.slice A L C).ownBlock=some k) w w'):=fun w' ho=>(Off.oE A1.out).past ho fun k hk hl=>by omega
  clear hV HD hy;go_wp2_with fail;refine bodyPost_ret (v:=dI 7 0) (by simp[results,results20,go_sem,b0,A3,b2,b3,b4]) rfl ⟨by rw[HR.out];exact pI _ _ 7,?_⟩;exact Aa.out _ (aT _ (w.heap.size+1) _ _ _ _ _)
 |true=>
  have HR:Hid (ofA (es.map aY) (nb t)=⟨0,((es.filter (iC t)).length:Int),(es.filter (iC t)).map aY,0,[]⟩):=by
   show ofA (es.map aY) (nb t)=_;unfold ofA;rw[if_neg (fun z=>z (hy.1 rfl)),←b6Z,c9M]
  clear hy;go_wp2_with fail;refine HD.mono ?_;rintro e w4 ⟨v4,rfl,A0,A5⟩;have hV:aV w4 (w.heap.size+1) 42 (cJ 0 0).toList:=A2.out.off A5 fun z=>by
   have:=Ab.out _ z;omega
  have b0:=hV.q0;have A3:=hV.q1;have b2:=hV.q2;have b3:=hV.q3;have b4:=hV.q4;have f0:=hV.frozen 0;have f1:=hV.frozen 1;have f2:=hV.frozen 2;have f3:=hV.frozen 3;have f4:=hV.frozen 4;have A8:=hV.ty;obtain⟨A4,C4,A9⟩:=A0.sE;have A6:Hid (∀w',Off (fun k=>k=w.heap.size+1) w4 w'→a0K w' (fun k=>N≤k∧TyB w' k 83) v4 ((es.filter (iC t)).map aY)∧Off (fun k=>(Value.slice A L C).ownBlock=some k) w w'):=fun w' ho=>by
   have A7:=A0.off ho fun g hg e=>A8.ne (aU A0.1 hg) (by decide) e.symm;refine⟨⟨A7.evs,fun g hg _=>⟨(A0.1.lt g hg).1,aU A7.1 hg⟩⟩,?_⟩;exact((Off.oE A1.out).trans A5).past ho fun k hk hl=>by omega
  obtain⟨M,hM⟩: ∃M,M=(es.filter (iC t)).length:=⟨_,rfl⟩;rw[←hM]at A9 HR;subst A9;clear HD A0 A5 hV A8 hM;go_wp2_with fail;refine bodyPost_ret (v:=.agg #[iV 0,iV M,.slice A4 M C4,iV 0,nS]) (by simp[results,results20,go_sem,b0,A3,b2,b3,b4]) rfl ⟨⟨_,rfl,?_⟩,?_⟩
  ·rw[HR.out];exact⟨_,_,rfl,(A6.out _ (aT _ (w.heap.size+1) _ _ _ _ _)).1,pC _ _⟩
  ·exact(A6.out _ (aT _ (w.heap.size+1) _ _ _ _ _)).2
def lP(r:Nat×List Evt.Ev)(a:Sto.Ans):Sto.Ans:=if r.1≠0 then Sto.no r.1 else a
def c8Q(g:Nat)(caps:Array Value)(w:World)(l:List Evt.Ev)(a:Sto.Ans):Prop:=
 ∀v es w',cH w' (w.heap.size+1) v es→es.map aY=l→es.length≤200000→Bl w w'→w.heap.size+1≤w'.heap.size→Calls prog g (#[v]++caps) w' fun e w''=>wI e w'' (w.heap.size+1) a∧Below (w.heap.size+1) w' w''
section
variable {N R D : Nat} {F E : Nat → Prop} {c : Sto.Cfg} {s : Sto.St} {V : Nat → Value} {U : Nat → List HeC} {vt vs va : Value} {tc : List (Int × Sl)} {X : Sto.Six}
theorem b5X(hX:Sto.dE X)(g:Nat)(eg: ∀args w,(callFunc g args).run prog w=.ok (.enter g args) w)(a:Sto.Ans)(w:World)(h:StP w N R F E c s D V U vt vs va tc)(HG:c8Q g #[] w (Sto.all X c s).2 a):
  Calls prog 18 #[.pointer (some (aD R 0)),.func (.func g) #[] #[]] w fun e w'=>wI e w' w.heap.size (lP (Sto.all X c s) a)∧Bl w w':=by
 have bA:=aB8 w (.cells (cJ 0 0) 42);have VB:=aC w (cJ 0 0) 42;have A3:=b3Z hX _ (h.bE bA);have sz:(w.alloc (.cells (cJ 0 0) 42)).heap.size=w.heap.size+1:=by simp
 have A9:=hd8 VB;have Ai:=hd8 bA;rw[sz]at A3;unfold a8J at A3;generalize Sto.all X c s=r at A3 HG⊢;obtain⟨x,l⟩:=r;clear h bA VB sz;go_enter func18,ntmps18
 go_wp2_with fail;generalize w.alloc (.cells (cJ 0 0) 42)=w1 at A3 A9 Ai⊢;refine A3.mono ?_;rintro e w2 ⟨⟨v2,es,rfl,A6,Ad,Aj⟩,b2⟩;have A6:es.map aY=l:=A6;have A0:aV w2 w.heap.size 42 (cJ 0 0).toList:=aZ.of_block A9.out (b2.block _ (aZ.lt A9.out));have A4:=bt Ai.out b2;have A8:=HG v2 es w2 Ad A6 Aj A4 (aZ.lt A0);obtain⟨A2,C2,Ak⟩:=Ad.sE;obtain⟨L,hL⟩: ∃L,L=es.length:=⟨_,rfl⟩;rw[←hL]at Ak;subst Ak;clear A3 Ad A6 Aj HG hL b2;by_cases hx:x=0
 ·have Ap:((x:Int) !=0)=false:=by rw[bne_eq_false_iff_eq];omega
  have HR:Hid (lP (x,l) a=a):=if_neg fun z=>z hx;have A7:=hd8 A4;have Am:=hd8 A0;clear hx A0 A4;go_wp2_with fail;refine A8.mono ?_;rintro e w3 ⟨⟨v3,rfl,ve,Al,rfl,Ah,Af⟩,b3⟩;have A1:aV w3 w.heap.size 42 (cJ 0 0).toList:=aZ.of_block Am.out (b3.block _ (d1F _));have Ag:=A7.out.trans (b3.mono (c9O _));have A5:Hid (∀w',Off (fun k=>k=w.heap.size) w3 w'→qG w' (fun k=>w.heap.size≤k) (.agg #[iV a.err,iV a.n,ve,iV a.vu,Al]) a∧Bl w w'):=fun w' ho=>by
   have hk: ∀k,k<w3.heap.size→w.heap.size+1≤k→w'.heap[k]?=w3.heap[k]?:=fun k hk hk2=>ho.block k hk fun z=>by omega
   exact⟨⟨ve,Al,rfl,Ah.move hk fun k _ z=>by omega,Af.move hk fun k _ z=>by omega⟩,Ag.trans (ho.bE Ag.size fun k z=>by omega)⟩
  have b0:=A1.q0;have Ab:=A1.q1;have b2:=A1.q2;have Ac:=A1.q3;have b4:=A1.q4;have f0:=A1.frozen 0;have f1:=A1.frozen 1;have f2:=A1.frozen 2;have f3:=A1.frozen 3;have f4:=A1.frozen 4;obtain⟨Ae,Ce,Ao⟩:=Ah.1.sE;obtain⟨Aa,Ca,An⟩:=Af.1.sE;subst Ao;subst An;clear A8 Ah Af b3 A1 Ag;go_wp2_with fail;refine bodyPost_ret (v:=.agg #[iV a.err,iV a.n,.slice Ae a.evs.length Ce,iV a.vu,.slice Aa a.vl.length Ca]) (by simp[results,results18,go_sem,b0,Ab,b2,Ac,b4]) rfl ⟨⟨_,rfl,?_⟩,?_⟩
  ·rw[HR.out];exact(A5.out _ (aT _ w.heap.size _ _ _ _ _)).1
  ·exact(A5.out _ (aT _ w.heap.size _ _ _ _ _)).2
 ·have Ap:((x:Int) !=0)=true:=by rw[bne_iff_ne];omega
  have HR:Hid (lP (x,l) a=Sto.no x):=if_pos hx;have A5:Hid (∀w',Off (fun k=>k=w.heap.size) w2 w'→Bl w w'):=fun w' ho=>A4.trans (ho.bE A4.size fun k z=>by omega);have b0:=A0.q0;have Ab:=A0.q1;have b2:=A0.q2;have Ac:=A0.q3;have b4:=A0.q4;have f0:=A0.frozen 0;have f1:=A0.frozen 1;have f2:=A0.frozen 2;have f3:=A0.frozen 3;have f4:=A0.frozen 4;clear hx A8 A0 A4;go_wp2_with fail;refine bodyPost_ret (v:=dI (x:Nat) 0) (by simp[results,results18,go_sem,b0,Ab,b2,Ac,b4]) rfl ⟨by rw[HR.out];exact pA _ _ x,?_⟩;exact A5.out _ (aT _ w.heap.size _ _ _ _ _)
theorem a1Z(hX:Sto.dE X)(g:Nat)(k:Value)(eg: ∀args w,(callFunc g args).run prog w=.ok (.enter g args) w)(a:Sto.Ans)(w:World)(h:StP w N R F E c s D V U vt vs va tc)(HG:c8Q g #[k] w (Sto.all X c s).2 a):
  Calls prog 18 #[.pointer (some (aD R 0)),.func (.func g) #[] #[k]] w fun e w'=>wI e w' w.heap.size (lP (Sto.all X c s) a)∧Bl w w':=by
 have bA:=aB8 w (.cells (cJ 0 0) 42);have VB:=aC w (cJ 0 0) 42;have A3:=b3Z hX _ (h.bE bA);have sz:(w.alloc (.cells (cJ 0 0) 42)).heap.size=w.heap.size+1:=by simp
 have A9:=hd8 VB;have Ai:=hd8 bA;rw[sz]at A3;unfold a8J at A3;generalize Sto.all X c s=r at A3 HG⊢;obtain⟨x,l⟩:=r;clear h bA VB sz;go_enter func18,ntmps18
 go_wp2_with fail;generalize w.alloc (.cells (cJ 0 0) 42)=w1 at A3 A9 Ai⊢;refine A3.mono ?_;rintro e w2 ⟨⟨v2,es,rfl,A6,Ad,Aj⟩,b2⟩;have A6:es.map aY=l:=A6;have A0:aV w2 w.heap.size 42 (cJ 0 0).toList:=aZ.of_block A9.out (b2.block _ (aZ.lt A9.out));have A4:=bt Ai.out b2;have A8:=HG v2 es w2 Ad A6 Aj A4 (aZ.lt A0);obtain⟨A2,C2,Ak⟩:=Ad.sE;obtain⟨L,hL⟩: ∃L,L=es.length:=⟨_,rfl⟩;rw[←hL]at Ak;subst Ak;clear A3 Ad A6 Aj HG hL b2;by_cases hx:x=0
 ·have Ap:((x:Int) !=0)=false:=by rw[bne_eq_false_iff_eq];omega
  have HR:Hid (lP (x,l) a=a):=if_neg fun z=>z hx;have A7:=hd8 A4;have Am:=hd8 A0;clear hx A0 A4;go_wp2_with fail;refine A8.mono ?_;rintro e w3 ⟨⟨v3,rfl,ve,Al,rfl,Ah,Af⟩,b3⟩;have A1:aV w3 w.heap.size 42 (cJ 0 0).toList:=aZ.of_block Am.out (b3.block _ (d1F _));have Ag:=A7.out.trans (b3.mono (c9O _));have A5:Hid (∀w',Off (fun k=>k=w.heap.size) w3 w'→qG w' (fun k=>w.heap.size≤k) (.agg #[iV a.err,iV a.n,ve,iV a.vu,Al]) a∧Bl w w'):=fun w' ho=>by
   have hk: ∀k,k<w3.heap.size→w.heap.size+1≤k→w'.heap[k]?=w3.heap[k]?:=fun k hk hk2=>ho.block k hk fun z=>by omega
   exact⟨⟨ve,Al,rfl,Ah.move hk fun k _ z=>by omega,Af.move hk fun k _ z=>by omega⟩,Ag.trans (ho.bE Ag.size fun k z=>by omega)⟩
  have b0:=A1.q0;have Ab:=A1.q1;have b2:=A1.q2;have Ac:=A1.q3;have b4:=A1.q4;have f0:=A1.frozen 0;have f1:=A1.frozen 1;have f2:=A1.frozen 2;have f3:=A1.frozen 3;have f4:=A1.frozen 4;obtain⟨Ae,Ce,Ao⟩:=Ah.1.sE;obtain⟨Aa,Ca,An⟩:=Af.1.sE;subst Ao;subst An;clear A8 Ah Af b3 A1 Ag;go_wp2_with fail;refine bodyPost_ret (v:=.agg #[iV a.err,iV a.n,.slice Ae a.evs.length Ce,iV a.vu,.slice Aa a.vl.length Ca]) (by simp[results,results18,go_sem,b0,Ab,b2,Ac,b4]) rfl ⟨⟨_,rfl,?_⟩,?_⟩
  ·rw[HR.out];exact(A5.out _ (aT _ w.heap.size _ _ _ _ _)).1
  ·exact(A5.out _ (aT _ w.heap.size _ _ _ _ _)).2
 ·have Ap:((x:Int) !=0)=true:=by rw[bne_iff_ne];omega
  have HR:Hid (lP (x,l) a=Sto.no x):=if_pos hx;have A5:Hid (∀w',Off (fun k=>k=w.heap.size) w2 w'→Bl w w'):=fun w' ho=>A4.trans (ho.bE A4.size fun k z=>by omega);have b0:=A0.q0;have Ab:=A0.q1;have b2:=A0.q2;have Ac:=A0.q3;have b4:=A0.q4;have f0:=A0.frozen 0;have f1:=A0.frozen 1;have f2:=A0.frozen 2;have f3:=A0.frozen 3;have f4:=A0.frozen 4;clear hx A8 A0 A4;go_wp2_with fail;refine bodyPost_ret (v:=dI (x:Nat) 0) (by simp[results,results18,go_sem,b0,Ab,b2,Ac,b4]) rfl ⟨by rw[HR.out];exact pA _ _ x,?_⟩;exact A5.out _ (aT _ w.heap.size _ _ _ _ _)
end
theorem qK(N:Nat)(v:Value)(d s n:Nat)(G K:Nat→Nat)(D:Nat→Nat→Nat)(w:World)(hA:Acc w N v d n G K D)(HK: ∀j,j<d→K j=n)(bd:Gf.Bd2 D)(h1:1≤d)(h2:d≤8)(h3:s≤4)(hn1:1≤n)(hn2:n≤400)(hN:N≤w.heap.size):
  Calls prog 94 #[v,iV s] w fun e w'=> ∃vm v9 w5,e=.returned (.tuple #[vm,iV 0])∧(Builtin.append_ #[86,86] 86 #[v,vm]).run prog w'=.ok v9 w5∧Lls w5 v9 (d+s) (fun _=>n) (Gf.mm d (Gf.bH d) D)∧Below N w w5:=by
 have hM:=hA.mx bd ⟨h1,by omega,hn1,hn2⟩;have A1:=Gf.oN (Gf.eM d) d D;by_cases hs:1≤s
 ·refine(tN v d s n D w hM h2 hs h3).mono ?_;rintro e w' ⟨vm,N',G',K',rfl,A5,A4,A2,hb⟩;obtain⟨v9,w5,r9,b9,A9⟩:=b9L w' N v d s n G K G' K' D _ N' vm (by omega) (c9E hN hb.size) (c9E hN A5) (hA.bE hb) A4 hs;refine⟨vm,v9,w5,rfl,r9,?_,(hb.mono hN).trans b9⟩;refine qD (A9.lls (fun i k=>?_) (fun i hi=>?_)) A1 (fun i hi k _=>?_)
  ·show(if i<d then D i else Gf.mm d (cQ d) D (i-d)) k<256;by_cases e:i<d
   ·rw[if_pos e];exact bd i k
   ·rw[if_neg e];exact Gf.oN (iB d) d D (i-d) k
  ·show n≤(if i<d then K i else K' (i-d))∧(if i<d then K i else K' (i-d))≤maxLen;by_cases e:i<d
   ·rw[if_pos e,HK i e];exact⟨c9C _,by unfold maxLen;omega⟩
   ·rw[if_neg e,A2 (i-d) (by omega)];exact⟨c9C _,by unfold maxLen;omega⟩
  ·show(if i<d then D i else Gf.mm d (cQ d) D (i-d)) k=_;by_cases e:i<d
   ·rw[if_pos e,mX bd e]
   ·rw[if_neg e];have e2:cQ d (i-d)=Gf.bH d i:=by
     show Gf.bH d (d+(i-d))=_;rw[show d+(i-d)=i by omega]
    show Gf.dot d (cQ d (i-d)) _=Gf.dot d (Gf.bH d i) _;rw[e2]
 ·obtain rfl:s=0:=by omega
  have hE:vD d (fun _=>n) ((0:Nat):Int)=0:=by
   unfold vD;rw[if_neg (fun q=>q (cO (by omega)))];exact hM.ok
  refine(b8B v d (fun _=>n) D ((0:Nat):Int) w hM.arg).mono ?_;rintro e w' ⟨vm,rfl,hO,hb⟩;rw[hE]at hO⊢;obtain rfl:vm=nS:=by
   rcases hO with⟨_,hx⟩|⟨_,hx⟩
   ·exact absurd hx.dim.1 (by decide)
   ·exact hx
  obtain⟨g,A3,rfl,_,A0,_⟩:=eD hA.own h1;refine⟨_,_,_,rfl,a4T w' 86 86 underlying86 underlying86 g 0 d A3 A0 86,?_,hb.mono hN⟩;refine qD ((hA.bE hb).lls bd (fun i hi=>?_)) A1 (fun i hi k _=>(mX bd hi k).symm);rw[HK i hi];exact⟨c9C _,by unfold maxLen;omega⟩
theorem b3M(k:Nat)(M N:Nat→Nat):dW k M N k=N k:=if_neg (d0V k)
theorem a7T{x:Nat}{M N:Nat→Nat}(h:M k=x)(y:Nat):(if y=k then Value.int .u8 ((x:Nat):Int)else .int .u8 ((dW k M N y:Nat):Int))=.int .u8 ((dW (k+1) M N y:Nat):Int):=by
 unfold dW;by_cases e:y=k
 ·rw[if_pos e,if_pos (by omega),e,h]
 ·rw[if_neg e];by_cases e2:y<k
  ·rw[if_pos e2,if_pos (by omega)]
  ·rw[if_neg e2,if_neg (by omega)]
theorem a2Q{M:Nat→Nat}(h:M k=0)(y:Nat):Value.int .u8 ((dW k M (fun _=>0) y:Nat):Int)=.int .u8 ((dW (k+1) M (fun _=>0) y:Nat):Int):=by
 unfold dW;by_cases e:y<k
 ·rw[if_pos e,if_pos (by omega)]
 ·rw[if_neg e];by_cases e2:y<k+1
  ·rw[if_pos e2,show y=k by omega,h]
  ·rw[if_neg e2]
theorem b6L(v:Value)(L:Nat)(r:Nat→Nat)(seg d s:Nat)(w:World)(h:cA w v L r)(h1:1≤d)(h2:d≤8)(h3:s≤4)(h4:seg≤39)(h5:L≤400*d):
  Calls prog 62 #[v,iV seg,iV d,iV s] w fun e w'=> ∃v',e=.returned (.tuple #[v',iV 0])∧Lls w' v' (d+s) (fun _=>Seg.dF L d+11) (Seg.blk r L seg d)∧Bl w w':=by
 have Ak:=Seg.oH L d h1;have Al:=Seg.nF h1 h5;have HW:=fun w'=>dZ (d:Int) (s:Int) w';rw[cO (by omega)]at HW;have Bh: ¬400*(d:Int)<(L:Int):=by omega
 have Bi:(seg:Int)≤39:=by omega
 have B9:Hid (∀w',Bl w w'→cA w' v L r):=fun w' hb=>h.bE hb;have Ag:Hid (L≤Seg.dF L d*d):=Seg.uO L d h1;have Af:Hid (∀n,1≤n→L≤n*d→Seg.dF L d≤n):=fun n q1 q2=>Seg.rS h1 q1 q2;have Ap:Hid (Gf.Bd2 (Seg.eT r L (Seg.dF L d))):=Seg.wR h.bd L _;obtain⟨A,C,rfl⟩:=h.sE;have Ax:Hid (∀w',Bl w w'→ ∀k,k<L→ ∃b o,A=some (aD b o)∧w'.cell? (aD b (o+k))=some (.int .u8 (r k:Nat))):=fun w' hb k hk=>by
  obtain⟨_,A',C',hv,_,_,hc⟩:=h.bE hb;cases hv
  exact hc k hk
 obtain⟨i0,Ai,hh⟩:=c9J.1 Tryz.infoRow;simp only[Prod.mk.injEq]at hh;obtain⟨Am,An,Ao⟩:=hh;clear h;go_enter func62,ntmps62
 go_wp2_with fail;refine(HW _).mono ?_;rintro e w1 ⟨rfl,b1⟩;clear HW;go_wp2_with fail;go_loop [11] (fun x=> ∃n:Nat,1≤n∧n≤Seg.dF L d∧x=iV n) (fun x=>Seg.dF L d-(intOf x).toNat)
 case atStart=>exact⟨1,c9C _,Ak,rfl⟩
 case round=>
  obtain⟨n,q1,q2,rfl⟩:=hrel;have A2:n*d≤400*8:=d0Y (by omega) h2;have A0:(n:Int)*(d:Int)=((n*d:Nat):Int):=by rw[Int.natCast_mul]
  have hw:IntKind.i64.wrap ((n:Int)*(d:Int))=(n:Int)*(d:Int):=by rw[A0,IntKind.wrap_i64];omega
  have B6: -9223372036854775808≤(n:Int)*(d:Int):=by rw[A0];omega
  have B7:(n:Int)*(d:Int)≤9223372036854775807:=by rw[A0];omega
  by_cases Aj:n*d<L
  ·have A6:(n:Int)*(d:Int)<(L:Int):=by rw[A0];omega
   have Au:Hid (n<Seg.dF L d):=by
    show n<_;refine Nat.lt_of_not_le (fun q=>?_);have:=Ag.out;have h9:=d1J d q;omega
   clear A0 Aj A2;go_wp2_with fail;have:=Au.out;exact⟨⟨n+1,by omega,by omega,by go_num⟩,by simp[intOf];omega⟩
  ·have A6: ¬(n:Int)*(d:Int)<(L:Int):=by rw[A0];omega
   obtain rfl:n=Seg.dF L d:=Nat.le_antisymm q2 (Af.out n q1 (by omega));generalize hnn:Seg.dF L d=n at*;clear A0 Aj A2 q1 q2 Ag Af;go_wp2_with fail;clear hw B6 B7 A6;go_loopw [12,13] (fun y x wr=> ∃i:Nat,i≤d∧x=iV i∧(∃G K,Acc wr w1.heap.size y i n G K (Seg.eT r L n)∧Hid (∀j,j<i→K j=n))∧Bl w1 wr) (fun _ x _=>d-(intOf x).toNat)
   case atStart=>exact⟨0,c9D _,rfl,⟨fun _=>0,fun _=>0,Acc.start w1 _ n _ _ _,fun j hj=>absurd hj (c9L j)⟩,Below.refl _ _⟩
   case round=>
    obtain⟨i,Bc,rfl,⟨G2,K2,hA,HK⟩,A5⟩:=hrel;obtain⟨wo,rfl⟩: ∃x,x=wr:=⟨wr,rfl⟩;by_cases hi:i<d
    ·have Bb:(i:Int)<(d:Int):=by omega
     have A2:i*n≤8*400:=d0Y (by omega) Al;have A0:(i:Int)*(n:Int)=((i*n:Nat):Int):=by rw[Int.natCast_mul]
     have hw:IntKind.i64.wrap ((i:Int)*(n:Int))=(i:Int)*(n:Int):=by rw[A0,IntKind.wrap_i64];omega
     have B5:=run_make_row' (P:=prog) 59 5 (.int .u8 0) 1 underlying59 Tryz.infoByte rfl .i64 .i64 n (by omega) (by omega);have B8:=hd8 A0;obtain⟨q,hq⟩: ∃q,i*n=q:=⟨_,rfl⟩;rw[hq]at A0 A2;have HQ:=hd8 hq;have As:=hd8 A0;clear A0 hq;go_wp2_with fail;clear B5;go_loopw [57] (fun x wm=> ∃k:Nat,k≤n∧x=iV k∧wm.rowIs wo.heap.size 5 n (fun y=> .int .u8 (dW k (Seg.eT r L n i) (fun _=>0) y:Nat))∧Bl wo wm) (fun x _=>n-(intOf x).toNat)
     case atStart=>exact⟨0,c9D _,rfl,(World.rowIs_made wo (.int .u8 0) n 5).congr (fun j _=>by rw[show dW 0 (Seg.eT r L n i) (fun _=>0) j=0 from if_neg (c9L _)];rfl),aB8 _ _⟩
     case round=>
      obtain⟨k,Bg,rfl,hR,A4⟩:=hrel;by_cases hk:k<n
      ·have Bf:(k:Int)<(n:Int):=by omega
       have Be:=As.out;have z1:=hR.frozen k;have u1:=hR.cell hk;rw[b3M]at u1;by_cases Ab:q+k<L
       ·have Ac:(q:Int)+(k:Int)<(L:Int):=by omega
        have HD:Hid (Seg.eT r L n i k=r (q+k)):=by
         show Seg.eT r L n i k=r (q+k);rw[Seg.b3L hk (by rw[HQ.out];exact Ab),HQ.out]
        obtain⟨bb,ob,rfl,t1⟩:=Ax.out wr (bt (bt b1 A5) A4) (q+k) Ab;have HP:=hd8 ((hR.set k _).congr (fun y _=>a7T HD.out y));have Ah:=A4.setCell (p:=⟨wo.heap.size,k,none⟩) (c9C _) (.int .u8 ((r (q+k):Nat):Int));generalize r (q+k)=x at t1 HP Ah;clear hR;go_wp2_with fail;exact⟨⟨k+1,by omega,by go_num,HP.out,Ah⟩,by simp[intOf];omega⟩
       ·have Ac: ¬(q:Int)+(k:Int)<(L:Int):=by omega
        have HP:Hid (wr.rowIs wo.heap.size 5 n (fun y=> .int .u8 (dW (k+1) (Seg.eT r L n i) (fun _=>0) y:Nat))):=hR.congr (fun y _=>a2Q (Seg.a5X (by rw[HQ.out];exact Ab)) y);clear hR;go_wp2_with fail;exact⟨⟨k+1,by omega,by go_num,HP.out,A4⟩,by simp[intOf];omega⟩
      ·obtain rfl:k=n:=by omega
       have hF:aZ wr wo.heap.size 5 k (fun y=> .int .u8 (Seg.eT r L k i y:Nat)):=iL (hR.congr (fun y hy=>by rw[show dW k (Seg.eT r L k i) (fun _=>0) y=Seg.eT r L k i y from if_pos hy]));have A3:=(Below.refl wr.heap.size wr).alloc (c9C _) (.cells #[.slice (some (aD wo.heap.size 0)) k k] 59);have AX:=(hA.bE A4).bE A3;have rX:=hF.alloc (.cells #[.slice (some (aD wo.heap.size 0)) k k] 59);have bX:=bt (bt A5 A4) A3;clear hR hF hA;go_wp2_with (at_builtin;refine wpList_append_own _ rfl (.tmp 80) (.tmp 82) 86 rfl w1.heap.size 59 i0 nS 1 24 underlying86 Ai Am An Ao rfl (by decide) _ _ _ rfl AX.own (aD wr.heap.size 0) 1 1 [.slice (some (aD wo.heap.size 0)) k k] rfl rfl dD (by intro u hu;simp at hu;subst hu;rfl) (by unfold maxLen;omega) (by omega) bX.size ?_;intro v4 w4 hown1 hgrow1 _);have A1:=AX.step ⟨A5.size,rX⟩ hown1 hgrow1;have b4:Bl w1 w4:=bX.grown hgrow1 bX.size (fun x hx=>(AX.own.lt x hx).1);clear hown1 hgrow1 AX rX bX A3 A4;go_wp2_with fail
       exact⟨⟨i+1,by omega,by go_num,⟨_,_,A1,fun j hj=>by
        unfold lS;by_cases e:j=i
        ·rw[if_pos e]
        ·rw[if_neg e];exact HK.out j (by omega)⟩,b4⟩,by simp[intOf];omega⟩
    ·obtain rfl:i=d:=by omega
     have HS:=qK w1.heap.size u12 i s n G2 K2 (Seg.eT r L n) wo hA HK.out Ap.out h1 h2 h3 Ak Al A5.size;have Av:Hid (Gf.mm i (Gf.bH i) (Seg.eT r L n)=Seg.jP r L i):=by
      show _=Seg.jP r L i;unfold Seg.jP;rw[hnn]
     clear hA;go_wp2_with fail;refine HS.mono ?_;rintro e w2 ⟨vm,v9,w5,rfl,r9,L9,b5⟩;rw[Av.out]at L9;have b5:=A5.trans b5;obtain⟨A9,C9,rfl⟩:=L9.sE;have Ay:=bt b1 b5;have Ba:i+s≤12:=by omega
     clear HS;go_wp2_with (at_builtin;refine Lib.wpList_append_run _ rfl (.tmp 90) (.tmp 91) 86 86 rfl _ _ rfl rfl _ _ r9 ?_);clear r9;have At:Hid (∀w',Bl w5 w'→ ∀j,j<i+s→ ∃b o R K,A9=some (aD b o)∧w'.cell? (aD b (o+j))=some (.slice R n K)∧cA w' (.slice R n K) n (Seg.jP r L i j)):=fun w' hb j hj=>(L9.bE hb).at hj;have Aw:Hid (∀j,j<i+s→Crc.aA seg j L n=0):=fun j hj=>Crc.j8 (by omega) (by omega);have Aq:Hid (∀j,j<i+s→a3W (seg:Int) (j:Int) (L:Int) n (Seg.jP r L i j)=Seg.blk r L seg i j):=fun j hj=>by
      unfold a3W;rw[Seg.a5K (by omega),hnn];rfl
     clear L9;go_loopw [18,94] (fun y x wr=> ∃j:Nat,j≤i+s∧x=iV j∧(∃G K,Acc wr w5.heap.size y j (n+11) G K (Seg.blk r L seg i)∧Hid (∀t,t<j→n+11≤K t∧K t≤maxLen))∧Bl w5 wr) (fun _ x _=>i+s-(intOf x).toNat)
     case atStart=>exact⟨0,c9D _,rfl,⟨fun _=>0,fun _=>0,Acc.start w5 _ (n+11) _ _ _,fun j hj=>absurd hj (c9L j)⟩,Below.refl _ _⟩
     case round=>
      obtain⟨j,hj,rfl,⟨G3,K3,A7,Ae⟩,A8⟩:=hrel;by_cases Ad:j<i+s
      ·have B2:(j:Int)<(i:Int)+(s:Int):=by omega
       have B3:(j:Int)<((i+s:Nat):Int):=by omega
       obtain⟨b9,o9,R9,K9,rfl,t9,y9⟩:=At.out wr A8 j Ad;have Aa:=sJ (.agg #[iV seg,iV j,iV L,.slice R9 n K9]) seg j L n (Seg.jP r L i j) wr ⟨_,rfl,y9⟩;rw[Aw.out j Ad,Aq.out j Ad]at Aa;clear y9;go_wp2_with fail;refine Aa.mono ?_;rintro e w6 ⟨v6,rfl,O6,b6⟩;have Az:kX w6 wr.heap.size v6 (n+11) (Seg.blk r L seg i j):=by
        rcases O6 with⟨_,q⟩|⟨q,_⟩
        ·exact q
        ·exact absurd rfl q
       obtain⟨g6,c6,rfl,B1,B0,B4,R6⟩:=Az;have A3:=(Below.refl w6.heap.size w6).alloc (c9C _) (.cells #[.slice (some (aD g6 0)) (n+11) c6] 59);have AX:=(A7.bE b6).bE A3;have rX:=R6.alloc (.cells #[.slice (some (aD g6 0)) (n+11) c6] 59);have bX:=bt (bt A8 b6) A3;have Ar:=hd8 (c9E A8.size B1);clear Aa O6 A7 R6;go_wp2_with (at_builtin;refine wpList_append_own _ rfl (.tmp 109) (.tmp 111) 86 rfl w5.heap.size 59 i0 nS 1 24 underlying86 Ai Am An Ao rfl (by decide) _ _ _ rfl AX.own (aD w6.heap.size 0) 1 1 [.slice (some (aD g6 0)) (n+11) c6] rfl rfl dD (by intro u hu;simp at hu;subst hu;rfl) (by unfold maxLen;omega) (by omega) bX.size ?_;intro v7 w7 hown1 hgrow1 _);have A1:=AX.step ⟨Ar.out,rX⟩ hown1 hgrow1;have b7:Bl w5 w7:=bX.grown hgrow1 bX.size (fun x hx=>(AX.own.lt x hx).1);clear hown1 hgrow1 AX rX bX A3
       exact⟨⟨j+1,by omega,by go_num,⟨_,_,A1,fun t ht=>by
        unfold lS;by_cases e:t=j
        ·rw[if_pos e];exact⟨B0,B4⟩
        ·rw[if_neg e];exact Ae.out t (by omega)⟩,b7⟩,by simp[intOf];omega⟩
      ·obtain rfl:j=i+s:=by omega
       have HR:Hid (Lls wr u18 (i+s) (fun _=>Seg.dF L i+11) (Seg.blk r L seg i)):=by
        show Lls wr u18 (i+s) (fun _=>Seg.dF L i+11) (Seg.blk r L seg i);rw[hnn];exact A7.lls (Seg.b0B h1 h5 h4 h2) Ae.out
       have bz:=bt Ay A8;clear A7;go_wp2_with fail;go_ret2
       exact⟨_,rfl,HR.out,bz⟩
theorem b2N(v:Value)(L:Nat)(r:Nat→Nat)(seg d s:Int)(w:World)(h:cA w v L r):
  Calls prog 62 #[v,iV seg,iV d,iV s] w fun e w'=> ∃v',e=.returned (.tuple #[v',iV (Seg.gW L seg d s:Nat)])∧c8N w' (Seg.gW L seg d s) v' (d.toNat+s.toNat) (Seg.dF L d.toNat+11) (Seg.blk r L seg.toNat d.toNat)∧Bl w w':=by
 have hL:=h.len;have HW:=fun w'=>dZ d s w';by_cases q1:d<1∨8<d∨s<0∨4<s
 ·have HE:Hid (Seg.gW L seg d s=5):=if_pos q1;rw[cE q1]at HW;clear q1;go_enter func62,ntmps62
  go_wp2_with fail;refine(HW _).mono ?_;rintro e w1 ⟨rfl,b1⟩;clear HW;go_wp2_with fail;go_ret2
  exact⟨_,by rw[HE.out];rfl,Or.inr ⟨by rw[HE.out];decide,rfl⟩,b1⟩
 rw[cO q1]at HW;by_cases q2:seg<0∨39<seg
 ·have HE:Hid (Seg.gW L seg d s=3):=by
   show Seg.gW L seg d s=3;unfold Seg.gW;rw[if_neg q1,if_pos q2]
  by_cases q3:seg<0
  ·clear q1 q2;go_enter func62,ntmps62
   go_wp2_with fail;refine(HW _).mono ?_;rintro e w1 ⟨rfl,b1⟩;clear HW;go_wp2_with fail;go_ret2
   exact⟨_,by rw[HE.out];rfl,Or.inr ⟨by rw[HE.out];decide,rfl⟩,b1⟩
  ·have q4:39<seg:=by omega
   clear q1 q2;go_enter func62,ntmps62
   go_wp2_with fail;refine(HW _).mono ?_;rintro e w1 ⟨rfl,b1⟩;clear HW;go_wp2_with fail;go_ret2
   exact⟨_,by rw[HE.out];rfl,Or.inr ⟨by rw[HE.out];decide,rfl⟩,b1⟩
 by_cases q3:400*d<(L:Int)
 ·have HE:Hid (Seg.gW L seg d s=4):=by
   show Seg.gW L seg d s=4;unfold Seg.gW;rw[if_neg q1,if_neg q2,if_pos q3]
  obtain⟨A,C,rfl⟩:=h.sE;have p1: ¬seg<0:=by omega
  have p2: ¬39<seg:=by omega
  have p3:1≤d:=by omega
  have p4:d≤8:=by omega
  clear q1 q2 h;go_enter func62,ntmps62
  go_wp2_with fail;refine(HW _).mono ?_;rintro e w1 ⟨rfl,b1⟩;clear HW;go_wp2_with fail;go_ret2
  exact⟨_,by rw[HE.out];rfl,Or.inr ⟨by rw[HE.out];decide,rfl⟩,b1⟩
 ·obtain⟨d',rfl⟩:=d0I (show 0≤d by omega);obtain⟨s',rfl⟩:=d0I (show 0≤s by omega);obtain⟨g',rfl⟩:=d0I (show 0≤seg by omega);have HE:Seg.gW L g' d' s'=0:=b4A (by omega) (by omega) (by omega) (by omega) (by omega);refine(b6L v L r g' d' s' w h (by omega) (by omega) (by omega) (by omega) (by omega)).mono ?_;rintro e w' ⟨v',rfl,hl,hb⟩;exact⟨v',by rw[HE];rfl,Or.inl ⟨HE,hl⟩,hb⟩
theorem b1H(A:Option Addr)(cap n s:Nat)(L:Nat→Nat)(g:Nat→Nat→Nat)(seg:Int)(w:World)(h:Lls w (.slice A (n+s) cap) (n+s) L g)(h1:1≤n)(h2:n≤8)(h3:s≤4):
  Calls prog 64 #[.slice A (n+s) cap,iV seg,iV n] w fun e w'=> ∃v',e=.returned (.tuple #[v',iV (cS seg n (n+s) L g:Nat)])∧a8P w' (cS seg n (n+s) L g) v' n (n+s) (Seg.rl seg L g) (Seg.rf g) (Seg.rz g (thr (Seg.rl seg L g) (n+s) 0))∧Bl w w':=by
 have Bh:(n:Int)+(s:Int)-(n:Int)=(s:Int):=by omega
 have HW:=fun w'=>dZ (n:Int) (s:Int) w';rw[cO (by omega)]at HW;have bd:=h.bd;have B0:Gf.Bd2 (Seg.rf g):=fun i k=>bd i (k+7);have HL:Hid (∀w',Bl w w'→ ∀r,r<n+s→ ∃b o R K,A=some (aD b o)∧w'.cell? (aD b (o+r))=some (.slice R (L r) K)∧cA w' (.slice R (L r) K) (L r) (g r)):=fun w' hb r hr=>(h.bE hb).at hr;have Av:Hid (∀r,r<n+s→ ∀R K b o,A=some (aD b o)→w.cell? (aD b (o+r))=some (.slice R (L r) K)→cA w (.slice R (L r) K) (L r) (g r)):=fun r hr R K b o e1 e2=>by
  obtain⟨b',o',R',K',q1,q2,q3⟩:=h.at hr;rw[e1]at q1;cases q1
  rw[e2]at q2;cases q2
  exact q3
 obtain⟨i0,Am,hh⟩:=c9J.1 Tryz.infoRow;simp only[Prod.mk.injEq]at hh;obtain⟨Aq,Ar,A7⟩:=hh;have Af:Hid (bZ (n:Int) (((n+s:Nat):Int)-(n:Int))=0):=cO (by omega);clear h;go_enter func64,ntmps64
 go_wp2_with fail;refine(HW _).mono ?_;rintro e w1 ⟨rfl,b1⟩;clear HW;go_wp2_with fail;go_loopw [9,10,11,31] (fun y z b x wr=> ∃(k:Nat) (U:Nat→Value) (sz:Nat) (bb:Bool),k≤n+s∧x=iV k∧z=iV sz∧b=.bool bb∧wr.ownsRow w.heap.size 59 1 y k ((List.range k).map U)∧Hid (∀i,i<k→cA w (U i) (Seg.rl seg L g i) (Seg.rf g i))∧Hid (∀i,i<k→Seg.right seg L g i→Seg.rz g i=sz∧bb=true)∧Hid (bb=true→ ∃i,i<k∧Seg.right seg L g i)∧Bl w wr) (fun _ _ _ x _=>n+s-(intOf x).toNat)
 case atStart=>exact⟨0,fun _=>nS,0,false,c9D _,rfl,rfl,rfl,World.ownsRow_nil _ _ _ 1,(fun i hi=>absurd hi (c9L i)),(fun i hi=>absurd hi (c9L i)),(fun q=>by cases q),b1⟩
 case round=>
  obtain⟨k,U,sz,bb,hk,rfl,rfl,rfl,ho,HU,HZ,HB,A0⟩:=hrel;by_cases Ac:k<n+s
  ·have An:(k:Int)<(n:Int)+(s:Int):=by omega
   have Be:(k:Int)<((n+s:Nat):Int):=by omega
   obtain⟨b,o,R,K,rfl,t0,hy⟩:=HL.out wr A0 k Ac
   have Bc:Hid (∀k',k'=k→cA w (.slice R (L k) K) (L k) (g k)):=fun _ _=>Av.out k Ac R K b o rfl (by
    obtain⟨b',o',R',K',q1,q2,q3⟩:=HL.out w (Below.refl _ _) k Ac;cases q1
    rw[cB8 A0 q2]at t0;cases t0
    exact q2)
   have HR:=rW _ _ (g k) seg k wr hy;have A1:=fun(w':World) (hb':Bl wr w') (q:Crc.aL (g k) (L k)=0)=>a8M _ _ (g k) w' (hy.bE hb') q;obtain⟨P,hP⟩: ∃P:Prop,P=Seg.right seg L g k:=⟨_,rfl⟩;have Aj:=hd8 hP;have Az:P=(Crc.aL (g k) (L k)=0∧((g k 1:Nat):Int)=seg∧g k 2=k):=hP;rw[←Az]at HR;clear hP Az;by_cases hp:P
   case neg=>
    have Aa:=hd8 hp;clear hp hy A1;go_wp2_with fail;refine HR.mono ?_;rintro e w2 ⟨⟨y,rfl,Ad⟩,b2⟩;obtain rfl:y=false:=by cases y with|false=>rfl|true=>exact absurd (Ad.1 rfl) Aa.out
    have A6:=(Below.refl w2.heap.size w2).alloc (c9C _) (.cells #[nS] 59);have ox:=aK (aK ho b2) A6;have bX:=bt (bt A0 b2) A6;have A9:=ox.lt;clear HR Ad ho t0;go_wp2_with (at_builtin;refine wpList_append_own _ rfl (.tmp 41) (.tmp 42) 86 rfl w.heap.size 59 i0 nS 1 24 underlying86 Am Aq Ar A7 rfl (by decide) _ _ _ rfl ox (aD w2.heap.size 0) 1 1 [nS] rfl rfl dD (by intro u hu;simp at hu;subst hu;rfl) (by unfold maxLen;omega) (by omega) bX.size ?_;intro v7 w7 hown1 hgrow1 _);have b7:=bX.grown hgrow1 bX.size (fun x hx=>(A9 x hx).1);rw[←pR]at hown1;refine⟨⟨k+1,_,sz,bb,by omega,by go_num,rfl,rfl,hown1,(fun i hi=>?_),(fun i hi q=>?_),(fun q=>?_),b7⟩,by simp[intOf];omega⟩
    ·by_cases e:i=k
     ·rw[e,sF,Seg.c2Z (fun q=>Aa.out (by rw[Aj.out];exact q))];exact cA.none w (B0 k)
     ·rw[sH _ _ e];exact HU.out i (by omega)
    ·by_cases e:i=k
     ·rw[e]at q;exact absurd (show P by rw[Aj.out];exact q) Aa.out
     ·exact HZ.out i (by omega) q
    ·obtain⟨i,hi,q2⟩:=HB.out q;exact⟨i,by omega,q2⟩
   case pos=>
    have Aa:Hid P:=hp;have A5:Hid (Seg.right seg L g k):=by
     show Seg.right seg L g k;rw[←Aj.out];exact hp
    have A1:=fun(w':World) (hb':Bl wr w')=>A1 w' hb' A5.out.1;clear hp;go_wp2_with fail;refine HR.mono ?_;rintro e w2 ⟨⟨y,rfl,Ad⟩,b2⟩;obtain rfl:y=true:=Ad.2 Aa.out;have ho:=aK ho b2;have A1:=A1 _ b2;have A0:=bt A0 b2;clear HR Ad t0 hy;go_wp2_with fail;refine A1.mono ?_;rintro e w3 ⟨A3,C3,rfl,D3,b3⟩;have At:=hd8 (D3 w (Bc.out k rfl));have ho:=aK ho b3;have A0:=bt A0 b3;have bV:=(Below.refl w3.heap.size w3).alloc (c9C _) (.cells #[iV (g k 1:Nat),iV (g k 2:Nat),iV (g k 3*256+g k 4:Nat),.slice A3 (L k-11) C3] 137);have ho:=aK ho bV;have A0:=bt A0 bV;have hz:g k 3*256+g k 4=Seg.rz g k:=rfl;rw[hz]at bV ho A0⊢;have A6:=(Below.refl (w3.alloc (.cells #[iV (g k 1:Nat),iV (g k 2:Nat),iV (Seg.rz g k:Nat),.slice A3 (L k-11) C3] 137)).heap.size (w3.alloc (.cells #[iV (g k 1:Nat),iV (g k 2:Nat),iV (Seg.rz g k:Nat),.slice A3 (L k-11) C3] 137))).alloc (c9C _) (.cells #[.slice A3 (L k-11) C3] 59);have ox:=aK ho A6;have bX:=bt A0 A6;have A9:=ox.lt;have cx: ∀j u,[Value.slice A3 (L k-11) C3][j]?=some u→((w3.alloc (.cells #[iV (g k 1:Nat),iV (g k 2:Nat),iV (Seg.rz g k:Nat),.slice A3 (L k-11) C3] 137)).alloc (.cells #[.slice A3 (L k-11) C3] 59)).cell? ((⟨w3.heap.size+1,0,none⟩:Addr).add j)=some u:=fun j u hj=>by
     have q:=dD (w:=w3.alloc (.cells #[iV (g k 1:Nat),iV (g k 2:Nat),iV (Seg.rz g k:Nat),.slice A3 (L k-11) C3] 137)) (t:=59) j u hj;have Bm:(w3.alloc (.cells #[iV (g k 1:Nat),iV (g k 2:Nat),iV (Seg.rz g k:Nat),.slice A3 (L k-11) C3] 137)).heap.size=w3.heap.size+1:=by simp
     rw[Bm]at q;exact q
    clear A1 D3 hz A6 ho b3 bV;cases bb with
    |false=>
     have A2:Hid (∀i,i<k→Seg.right seg L g i→Seg.rz g i=Seg.rz g k):=fun i hi q=>by
      have:=(HZ.out i hi q).2;cases this
     generalize hzk:Seg.rz g k=zk at*;go_wp2_with (at_builtin;refine wpList_append_own _ rfl (.tmp 58) (.tmp 61) 86 rfl w.heap.size 59 i0 nS 1 24 underlying86 Am Aq Ar A7 rfl (by decide) _ _ _ rfl ox (aD (w3.heap.size+1) 0) 1 1 [.slice A3 (L k-11) C3] rfl rfl cx (by intro u hu;simp at hu;subst hu;rfl) (by unfold maxLen;omega) (by omega) bX.size ?_;intro v7 w7 hown1 hgrow1 _);have b7:=bX.grown hgrow1 bX.size (fun x hx=>(A9 x hx).1);rw[←pR]at hown1;refine⟨⟨k+1,_,zk,true,by omega,by go_num,rfl,rfl,hown1,(fun i hi=>?_),(fun i hi q=>?_),(fun _=>⟨k,by omega,A5.out⟩),b7⟩,by simp[intOf];omega⟩
     ·by_cases e:i=k
      ·rw[e,sF,Seg.b1D A5.out];exact At.out
      ·rw[sH _ _ e];exact HU.out i (by omega)
     ·by_cases e:i=k
      ·rw[e];exact⟨hzk,rfl⟩
      ·exact⟨A2.out i (by omega) q,rfl⟩
    |true=>
     by_cases Ae:Seg.rz g k=sz
     ·have A2:Hid (∀i,i<k→Seg.right seg L g i→Seg.rz g i=Seg.rz g k):=fun i hi q=>by
       rw[Ae];exact(HZ.out i hi q).1
      have tz:(((Seg.rz g k:Nat):Int) !=((sz:Nat):Int))=false:=by rw[Ae];simp
      clear Ae;generalize hzk:Seg.rz g k=zk at*;go_wp2_with (at_builtin;refine wpList_append_own _ rfl (.tmp 58) (.tmp 61) 86 rfl w.heap.size 59 i0 nS 1 24 underlying86 Am Aq Ar A7 rfl (by decide) _ _ _ rfl ox (aD (w3.heap.size+1) 0) 1 1 [.slice A3 (L k-11) C3] rfl rfl cx (by intro u hu;simp at hu;subst hu;rfl) (by unfold maxLen;omega) (by omega) bX.size ?_;intro v7 w7 hown1 hgrow1 _);have b7:=bX.grown hgrow1 bX.size (fun x hx=>(A9 x hx).1);rw[←pR]at hown1;refine⟨⟨k+1,_,zk,true,by omega,by go_num,rfl,rfl,hown1,(fun i hi=>?_),(fun i hi q=>?_),(fun _=>⟨k,by omega,A5.out⟩),b7⟩,by simp[intOf];omega⟩
      ·by_cases e:i=k
       ·rw[e,sF,Seg.b1D A5.out];exact At.out
       ·rw[sH _ _ e];exact HU.out i (by omega)
      ·by_cases e:i=k
       ·rw[e];exact⟨hzk,rfl⟩
       ·exact⟨A2.out i (by omega) q,rfl⟩
     ·have HE:Hid (cS seg n (n+s) L g=8):=by
       show cS seg n (n+s) L g=8;obtain⟨i,hi,q⟩:=HB.out rfl;unfold cS
       rw[if_neg (fun q=>q Af.out),if_pos (fun q2=>Ae (by
        rw[←(HZ.out i hi q).1]
        exact q2 k Ac i (by omega) A5.out q))]
      have tz:(((Seg.rz g k:Nat):Int) !=((sz:Nat):Int))=true:=by rw[bne_iff_ne];omega
      generalize hzk:Seg.rz g k=zk at*;clear Ae ox bX A9 cx;go_wp2_with fail;go_ret2
      exact⟨_,by rw[HE.out];rfl,Or.inr ⟨by rw[HE.out];decide,rfl⟩,A0⟩
  ·obtain rfl:k=n+s:=by omega
   have Ax:Hid (Seg.a5T seg L g (n+s)):=fun i hi j hj q1 q2=>by rw[(HZ.out i hi q1).1,(HZ.out j hj q2).1]
   have LS:=b3O ho HU.out A0 B0;have HM:=b9K u9 (n+s) (Seg.rl seg L g) (Seg.rf g) (n:Int) wr LS.arg (by unfold maxLen;omega);rw[c9Q]at HM;clear ho LS HU HL Av;by_cases hE:eG (n:Int) (n+s) (Seg.rl seg L g)=0
   case neg=>
    have HE:Hid (cS seg n (n+s) L g=eG (n:Int) (n+s) (Seg.rl seg L g)):=by
     show cS seg n (n+s) L g=_;unfold cS;rw[if_neg (fun q=>q Af.out),if_neg (fun q=>q Ax.out),if_pos hE]
    have B9:Hid (cS seg n (n+s) L g≠0):=by
     show cS seg n (n+s) L g≠0;rw[HE.out];exact hE
    generalize eG (n:Int) (n+s) (Seg.rl seg L g)=E at HM HE hE;have Bk:((E:Int)==0)=false:=by rw[beq_eq_false_iff_ne];omega
    have Bn:((E:Int) !=0)=true:=by rw[bne,Bk];rfl
    clear hE;go_wp2_with fail;refine HM.mono ?_;rintro e w2 ⟨v2,r,rfl,_,_,b2⟩;have b2:=bt A0 b2;clear HM;go_wp2_with fail;go_ret2
    exact⟨_,by rw[HE.out];rfl,Or.inr ⟨B9.out,rfl⟩,b2⟩
   case pos=>
    have B8:0<(there (Seg.rl seg L g) (n+s)).length:=by
     refine Nat.pos_of_ne_zero fun q=>?_;unfold eG at hE;rw[if_neg (fun q=>q Af.out),if_pos (by rw[q,c9Q];omega)]at hE;cases hE
    obtain⟨B7,Bj⟩:=fI B8;have A2:=hd8 (((HZ.out _ B7 (Seg.yJ Bj)).1).symm);have HE:Hid (cS seg n (n+s) L g=if n*Seg.rl seg L g (thr (Seg.rl seg L g) (n+s) 0)<Seg.rz g (thr (Seg.rl seg L g) (n+s) 0)then 8 else 0):=by
     show cS seg n (n+s) L g=_;unfold cS;rw[if_neg (fun q=>q Af.out),if_neg (fun q=>q Ax.out),if_neg (fun q=>q hE),c9Q]
    rw[hE]at HM;generalize hc:Seg.rl seg L g (thr (Seg.rl seg L g) (n+s) 0)=c at*;clear hE B8 B7;go_wp2_with fail;refine HM.mono ?_;rintro e w2 ⟨v2,r,rfl,B5,hO,b2⟩;obtain⟨B3,B4⟩:=B5 trivial;have Al:Mx w2 v2 (n+s) c (Gf.mm n (Gf.bH n) (Gf.mm n r (fun p=>Seg.rf g (thr (Seg.rl seg L g) (n+s) p)))):=by
     rcases hO with⟨_,q⟩|⟨q,_⟩
     ·exact q
     ·omega
    have b2:=bt A0 b2;obtain⟨_,_,c1,c2⟩:=Al.dim;have Ay:=Al.bd;obtain⟨bm,om,cm,G,O,K,rfl,hm⟩:=Al.lies;have Bb:Hid (∃r,Gf.Bd2 r∧Gf.Und n (fun p=>Gf.bH n (thr (Seg.rl seg L g) (n+s) p)) r∧Gf.mm n (Gf.bH n) (Gf.mm n r (fun p=>Seg.rf g (thr (Seg.rl seg L g) (n+s) p)))=Gf.mm n (Gf.bH n) (Gf.mm n r (fun p=>Seg.rf g (thr (Seg.rl seg L g) (n+s) p)))):=⟨r,B3,B4,rfl⟩;generalize hF:Gf.mm n (Gf.bH n) (Gf.mm n r (fun p=>Seg.rf g (thr (Seg.rl seg L g) (n+s) p)))=F at*;clear HM hO B5 Bb;go_wp2_with fail;go_loop [18,19] (fun y x=> ∃i:Nat,i≤n∧x=iV i∧y=.string (fF ((List.range i).flatMap (fun p=>(List.range c).map (F p))))) (fun _ x=>n-(intOf x).toNat)
    case atStart=>exact⟨0,c9D _,rfl,rfl⟩
    case round=>
     obtain⟨i,hi,rfl,rfl⟩:=hrel;have A4:(fF ((List.range i).flatMap (fun p=>(List.range c).map (F p)))).size=i*c:=by
      rw[a2M,fX _ c _ (fun _ _=>by simp),d1E]
     by_cases Ac:i<n
     ·have An:(i:Int)<(n:Int):=by omega
      have Bf:(i:Int)<(n:Int)+(s:Int):=by omega
      have Bg:i<n+s:=by omega
      have t1:=hm.top i (by omega);have q1:(convert 59 9 (.slice (some ⟨G i,O i,none⟩) c (K i))).run prog w2=.ok (.string (uJ (F i) c)) w2:=run_convert_bytes_arg (P:=prog) w2 59 5 underlying59 underlying5 (G i) (O i) c (K i) ((List.range c).map fun j=>(F i j:Int)) (by simp) (fun j hj=>by rw[xQ _ _ _ hj];exact hm.row i (by omega) j hj) 9 underlying9;rw[b8M]at q1;have Ai:Hid (fF ((List.range i).flatMap (fun p=>(List.range c).map (F p)))++fF ((List.range c).map (F i))=fF ((List.range (i+1)).flatMap (fun p=>(List.range c).map (F p)))):=by
       show _=_;rw[c3J,d1G,d0H];simp
      have A7:(fF ((List.range c).map (F i))).size=c:=by rw[a2M];simp
      have Ao:i*c≤8*400:=d0Y (by omega) c2;have Ab: ¬9223372036854775807<(fF ((List.range i).flatMap (fun p=>(List.range c).map (F p)))).size+(fF ((List.range c).map (F i))).size:=by rw[A4,A7];omega
      generalize fF ((List.range i).flatMap (fun p=>(List.range c).map (F p)))=S at Ai Ab A4;generalize fF ((List.range c).map (F i))=T at Ai Ab q1 A7;clear hm;go_wp2_with fail;exact⟨⟨i+1,by omega,by go_num,by rw[Ai.out]⟩,by simp[intOf];omega⟩
     ·obtain rfl:i=n:=by omega
      have Ao:i*c≤8*400:=d0Y h2 c2;have Au:Hid (∀j,j<i*c→((List.range i).flatMap (fun p=>(List.range c).map (F p))).getD j 0=F (j/c) (j%c)):=fun j hj=>c6F F i c j (by omega) hj;have As:Hid (∀x,x∈(List.range i).flatMap (fun p=>(List.range c).map (F p))→x<256):=fun x hx=>by
       obtain⟨p,_,hx⟩:=d2H.1 hx;obtain⟨k,_,rfl⟩:=d0G.1 hx;exact Ay p k
      have Aw:Hid (((List.range i).flatMap (fun p=>(List.range c).map (F p))).length=i*c):=by
       show _=_;rw[fX _ c _ (fun _ _=>by simp),d1E]
      generalize (List.range i).flatMap (fun p=>(List.range c).map (F p))=fl at Au As Aw A4;generalize hic:i*c=ic at*;by_cases B6:ic<sz
      ·have Ap:(ic:Int)<(sz:Int):=by omega
       have A8:Hid (cS seg i (i+s) L g=8):=by
        show cS seg i (i+s) L g=8;rw[HE.out,←A2.out,if_pos B6]
       generalize fF fl=S at A4;clear hm;go_wp2_with fail;go_ret2
       exact⟨_,by rw[A8.out];rfl,Or.inr ⟨by rw[A8.out];decide,rfl⟩,b2⟩
      ·have Ap: ¬(ic:Int)<(sz:Int):=by omega
       have A8:Hid (cS seg i (i+s) L g=0):=by
        show cS seg i (i+s) L g=0;rw[HE.out,←A2.out,if_neg B6]
       have Bi:(sz:Int)≤(ic:Int):=by omega
       have Ak:((fF fl).extract 0 sz).size=sz:=by
        rw[ByteArray.size_extract,A4];omega
       have Ag:=Lib.run_convert_string_bytes (P:=prog) w2 9 59 5 ((fF fl).extract 0 sz) underlying9 underlying59 underlying5;have b3:=l9 w2 5 ((fF fl).extract 0 sz);have B2:=grownCap_le_maxLen w2 sz 0 5 (by unfold maxLen;omega);have B1:=grownCap_ge w2 sz 0 5;have Ah:Hid (cA (Lib.bytesWorld w2 5 ((fF fl).extract 0 sz)) (.slice (some (aD w2.heap.size 0)) sz (grownCap w2 sz 0 5)) sz (fun k=>F (k/c) (k%c))):=by
        refine⟨fun k=>Ay _ _,some (aD w2.heap.size 0),_,rfl,B1,B2,fun j hj=>⟨w2.heap.size,0,rfl,?_⟩⟩;rw[c9G,Lib.bytesWorld_cell _ _ _ _ (by rw[Ak];exact hj),b0E As.out (by rw[Aw.out];omega) hj,Au.out j (by omega)]
       rw[Ak]at Ag;generalize Lib.bytesWorld w2 5 ((fF fl).extract 0 sz)=w3 at Ag b3 Ah;generalize grownCap w2 sz 0 5=C3 at Ag Ah;have b3:=bt b2 b3;generalize fF fl=S at A4 Ag;have Ba:Hid (∃r,Gf.Bd2 r∧Gf.Und i (fun p=>Gf.bH i (thr (Seg.rl seg L g) (i+s) p)) r∧cA w3 (.slice (some (aD w2.heap.size 0)) sz C3) (Seg.rz g (thr (Seg.rl seg L g) (i+s) 0)) (fun k=>Gf.mm i (Gf.bH i) (Gf.mm i r (fun p=>Seg.rf g (thr (Seg.rl seg L g) (i+s) p))) (k/Seg.rl seg L g (thr (Seg.rl seg L g) (i+s) 0)) (k%Seg.rl seg L g (thr (Seg.rl seg L g) (i+s) 0)))):=by
        refine⟨r,B3,B4,?_⟩;rw[hF,hc,←A2.out];exact Ah.out
       clear hm B2 B1 Ak;go_wp2_with fail;go_ret2
       exact⟨_,by rw[A8.out];rfl,Or.inl ⟨A8.out,Ba.out⟩,b3⟩
theorem a6K(A:Option Addr)(N cap:Nat)(seg d:Int)(w:World)(hN:N≤maxLen)(h:bZ d ((N:Int)-d)≠0):
  Calls prog 64 #[.slice A N cap,iV seg,iV d] w fun e w'=>e=.returned (.tuple #[nS,iV 5])∧Bl w w':=by
 unfold maxLen at hN;have H:Hid (∀w,Calls prog 13 #[iV d,iV (wrap64 ((N:Int)-d))] w fun e w'=>e=.returned (iV 5)∧Bl w w'):=fun w=>by
  have:=dZ d (wrap64 ((N:Int)-d)) w
  rw[cE (by
   unfold bZ at h;split at h
   ·rename_i hb;unfold wrap64;omega
   ·exact absurd rfl h)]at this
  exact this
 clear h hN;go_enter func64,ntmps64
 go_wp2_with fail;refine(H.out _).mono ?_;rintro e w1 ⟨rfl,b1⟩;go_wp2_with fail;go_ret2
 exact⟨rfl,b1⟩
theorem a5P(v:Value)(N:Nat)(L:Nat→Nat)(g:Nat→Nat→Nat)(seg d:Int)(w:World)(h:Lls w v N L g):
  Calls prog 64 #[v,iV seg,iV d] w fun e w'=> ∃v',e=.returned (.tuple #[v',iV (cS seg d N L g:Nat)])∧a8P w' (cS seg d N L g) v' d.toNat N (Seg.rl seg L g) (Seg.rf g) (Seg.rz g (thr (Seg.rl seg L g) N 0))∧Bl w w':=by
 have hN:=h.len;obtain⟨A,C,rfl⟩:=h.sE;by_cases hw:bZ d ((N:Int)-d)=0
 ·have hb: ¬(d<1∨8<d∨(N:Int)-d<0∨4<(N:Int)-d):=fun q=>by rw[cE q]at hw;cases hw
  obtain⟨n,rfl⟩:=d0I (show 0≤d by omega);obtain⟨s,rfl⟩: ∃s,N=n+s:=⟨N-n,by omega⟩;exact b1H A C n s L g seg w h (by omega) (by omega) (by omega)
 ·have hE:cS seg d N L g=5:=if_pos hw;refine(a6K A N C seg d w (by unfold maxLen;omega) hw).mono ?_;rintro e w' ⟨rfl,hb⟩;exact⟨_,by rw[hE];rfl,Or.inr ⟨by rw[hE];decide,rfl⟩,hb⟩
structure RA(W w:World)(N:Nat)(v:Value)(bs:List Nat):Prop where
 off:dJ N W w
 buf:cT w N v bs
 hN:N≤w.heap.size
theorem RA.bE(h:RA W w N v bs)(hb:Bl w w'):RA W w' N v bs:=⟨h.off.trans (dJ.oE hb),h.buf.bE hb,c9E h.hN hb.size⟩
theorem RA.alloc(h:RA W w N v bs)(o:Obj):RA W (w.alloc o) N v bs:=h.bE ((Below.refl _ _).alloc (c9C _) o)
theorem RA.drew(h:RA W w N v bs):RA W w.drew N v bs:=h.bE ((Below.refl _ _).drew)
structure Tmp(w:World)(v:Value)(g:Nat)(xs:List Nat):Prop where
 row:w.rowIs g 5 xs.length (fun j=> .int .u8 ((xs.getD j 0:Nat):Int))
 ne:v.ownBlock≠some g
 le:xs.length≤3
theorem Tmp.bE{xs:List Nat}(h:Tmp w v g xs)(hb:Bl w w'):Tmp w' v g xs:=⟨h.row.of_block (hb.block g h.row.lt),h.ne,h.le⟩
theorem Tmp.alloc{xs:List Nat}(h:Tmp w v g xs)(o:Obj):Tmp (w.alloc o) v g xs:=h.bE ((Below.refl _ _).alloc (c9C _) o)
theorem Tmp.cells{xs:List Nat}(h:Tmp w v g xs): ∀j u,(clB xs)[j]?=some u→w.cell? ((⟨g,0,none⟩:Addr).add j)=some u:=fun j u hj=>by
 have hj':j<xs.length:=by
  have:=(c9H.1 hj).1;simpa [clB]using this
 rw[WideShapes.add_plain,c9G,h.row.cell hj'];simp[clB,hj']at hj;rw[←hj];simp[List.getD,hj']
theorem c1U(w:World)(xs:List Nat):(w.alloc (.cells (clB xs).toArray 5)).rowIs w.heap.size 5 xs.length (fun j=> .int .u8 ((xs.getD j 0:Nat):Int)):=by
 have hs:(clB xs).toArray.size=xs.length:=by simp[clB]
 have:=World.rowIs_alloc w (clB xs).toArray 5 (fun j=> .int .u8 ((xs.getD j 0:Nat):Int)) (fun i hi=>by
  have A0:i<xs.length:=by simpa [clB]using hi
  simp[clB,A0,List.getD])
 rw[hs]at this;exact this
theorem jI(h:RA W w N v bs)(xs:List Nat)(hl:xs.length≤3):Tmp (w.alloc (.cells (clB xs).toArray 5)) v w.heap.size xs:=by
 refine⟨c1U w xs,fun e=>?_,hl⟩;have:=(h.buf.lt _ e).2;omega
theorem b4G(xs:List Nat): ∀u∈clB xs,u.oneCell'=true:=fun u hu=>by
 obtain⟨_,_,rfl⟩:=d0G.1 hu
 rfl
theorem c4S{xs:List Nat}(hg:w.grownBy w' v.ownBlock)(hl:v'.ownBlock=v.ownBlock∨v'.ownBlock=some w.heap.size)(ht:Tmp w v g xs):Tmp w' v' g xs:=by
 refine⟨ht.row.of_block (hg.block g ht.row.lt (fun e=>ht.ne e.symm)),fun e=>?_,ht.le⟩;rcases hl with hl|hl
 ·rw[hl]at e;exact ht.ne e
 ·rw[hl]at e;have:=ht.row.lt;simp at e;omega
theorem a5S{ys:List Value}{xs:List Nat}(h:w'.ownsRow N 5 1 v' n ys)(hn:4≤n)(hg:w.grownBy w' v.ownBlock)(ht:Tmp w v g xs):Tmp w' v' g xs:=by
 have hr:=ht.row.of_block (hg.block g ht.row.lt (fun e=>ht.ne e.symm));refine⟨hr,fun e=>?_,ht.le⟩;have h3:=ht.le;obtain⟨c,e1,e2,_⟩:=hr;rcases h.2 with⟨rfl,_⟩|⟨g',A0,A1,rfl,_,q1,q2,_,q4,_⟩
 ·simp[Value.ownBlock]at e
 ·simp[Value.ownBlock]at e;subst e;rw[q1]at e1;cases e1
  omega
theorem rY{ops:Array Oper}{o:Oper}{a:Act}{w:World}{K:Act→World→Prop}{Q:Exit→Act→World→Prop}{E:Prop}
  (hg:o.guard=none) (s x:Operand) (hop:o.op=Op.call {callee:=Callee.builtin Builtin.append,args:=#[s,x],argTypes:=#[59,59]})
  {W:World} {N:Nat} {v:Value} {bs:List Nat} {g c:Nat} {xs:List Nat} (hs:a.eval s=v) (hx:a.eval x=.slice (some (aD g 0)) xs.length c) (hA:RA W w N v bs) (hT:Tmp w v g xs) (hb:bs.length+xs.length≤2000000)
  (hK: ∀v' w',RA W w' N v' (bs++xs)→(∀g' xs',Tmp w v g' xs'→Tmp w' v' g' xs')→K (a.put o.dst v') w'):
  if Region.wanted o (yielded ops a.tmps)=true then Oper.wp prog o a w K Q else E:=by
 have hw:Region.wanted o (yielded ops a.tmps)=true:=by simp[Region.wanted,hg]
 rw[if_pos hw];obtain⟨i1,A1,A0⟩:=c9J.1 Tryz.infoByte;simp only[Prod.mk.injEq]at A0;obtain⟨A2,A3,A4⟩:=A0;obtain⟨v',w',hr,h2,h3,_,h5⟩:=run_append_own_at (P:=prog) w N 59 o.type 5 i1 (.int .u8 0) 1 1 underlying59 A1 A2 A3 A4 rfl (by decide) v bs.length (clB bs) hA.buf (aD g 0) xs.length c (clB xs) (by simp[clB]) hT.cells (b4G xs) (by unfold maxLen;omega) (by omega) hA.hN;unfold Oper.wp execOp;simp only[hop,resolve,invoke,builtin,Sem.run_bind,Sem.run_pure,Result.andThen_ok,List.map_toArray,List.map_cons,List.map_nil,hs,hx,hr];exact hK v' w' ⟨hA.off.trans (dJ.grown hA.buf h3),cT.more h2 rfl rfl,c9E hA.hN h3.size⟩ (fun g' xs' ht=>c4S h3 h5 ht)
theorem a3Z{ops:Array Oper}{o:Oper}{a:Act}{w:World}{K:Act→World→Prop}{Q:Exit→Act→World→Prop}{E:Prop}
  (hg:o.guard=none) (s x:Operand) (hop:o.op=Op.call {callee:=Callee.builtin Builtin.append,args:=#[s,x],argTypes:=#[59,9]})
  {W:World} {N:Nat} {v:Value} {bs:List Nat} {st:ByteArray} (hs:a.eval s=v) (hx:a.eval x=.string st) (hA:RA W w N v bs) (hb:bs.length+st.size≤2000000) (h4:4≤bs.length)
  (hK: ∀v' w',RA W w' N v' (bs++nb st)→(∀g' xs',Tmp w v g' xs'→Tmp w' v' g' xs')→K (a.put o.dst v') w'):
  if Region.wanted o (yielded ops a.tmps)=true then Oper.wp prog o a w K Q else E:=by
 have hw:Region.wanted o (yielded ops a.tmps)=true:=by simp[Region.wanted,hg]
 rw[if_pos hw];obtain⟨i1,A1,A0⟩:=c9J.1 Tryz.infoByte;simp only[Prod.mk.injEq]at A0;obtain⟨A2,A3,A4⟩:=A0;obtain⟨v',w',hr,h2,h3,_⟩:=Lib.run_append_own_string (P:=prog) w N 59 9 o.type 5 i1 underlying59 underlying9 A1 A2 A3 A4 v bs.length (clB bs) hA.buf st (by unfold maxLen;omega) (by omega) hA.hN;unfold Oper.wp execOp;simp only[hop,resolve,invoke,builtin,Sem.run_bind,Sem.run_pure,Result.andThen_ok,List.map_toArray,List.map_cons,List.map_nil,hs,hx,hr];exact hK v' w' ⟨hA.off.trans (dJ.grown hA.buf h3),cT.more h2 (vK st) (gF st),c9E hA.hN h3.size⟩ (fun g' xs' ht=>a5S h2 (by omega) h3 ht)
theorem sM(n:Nat)(w:World)(hn:n<16777216):
  Calls prog 93 #[iV n] w fun e w'=> ∃g,e=.returned (.slice (some (aD g 0)) 3 3)∧Bl w w'∧ ∀{W N v bs},RA W w N v bs→Tmp w' v g (Evt.dL n):=by
 refine(a3T n w hn).mono ?_;rintro e w' ⟨rfl,rfl⟩;refine⟨w.heap.size,rfl,aB8 _ _,fun h=>?_⟩;exact jI h (Evt.dL n) (by simp[Evt.dL])
theorem c4D(w:World)(N:Nat)(xs:List Nat)(hN:N≤w.heap.size)(hl:xs.length≤1000):cT (w.alloc (.cells (clB xs).toArray 5)) N (.slice (some (aD w.heap.size 0)) xs.length xs.length) xs:=
 ⟨by simp[clB],.inr ⟨w.heap.size,xs.length,(clB xs).toArray,rfl,hN,Deep.blk_alloc_new _ _,c9C _,by unfold maxLen;omega,by simp[clB],by rw[d1X];exact List.take_of_length_le (by simp[clB])⟩⟩
theorem wD{a b:Value}{o:Obj}(h:w.cell? (aD p 0)=some a∧w.cell? (aD p 1)=some b):(w.alloc o).cell? (aD p 0)=some a∧(w.alloc o).cell? (aD p 1)=some b:=
 ⟨(World.cell?_alloc_lt _ _ _ (World.block_lt_of_cell? _ _ h.1)).trans h.1,(World.cell?_alloc_lt _ _ _ (World.block_lt_of_cell? _ _ h.2)).trans h.2⟩
theorem a4M{a b:Value}{o:Obj}(h:w.drew.cell? (aD p 0)=some a∧w.drew.cell? (aD p 1)=some b):(w.alloc o).drew.cell? (aD p 0)=some a∧(w.alloc o).drew.cell? (aD p 1)=some b:=
 wD (w:=w.drew) h
theorem wG{a b c:Value}{o:Obj}(h:w.cell? (aD p 0)=some a∧w.cell? (aD p 1)=some b∧w.cell? (aD p 2)=some c):(w.alloc o).cell? (aD p 0)=some a∧(w.alloc o).cell? (aD p 1)=some b∧(w.alloc o).cell? (aD p 2)=some c:=
 ⟨(World.cell?_alloc_lt _ _ _ (World.block_lt_of_cell? _ _ h.1)).trans h.1,(World.cell?_alloc_lt _ _ _ (World.block_lt_of_cell? _ _ h.2.1)).trans h.2.1,(World.cell?_alloc_lt _ _ _ (World.block_lt_of_cell? _ _ h.2.2)).trans h.2.2⟩
theorem a5N{a b c:Value}{o:Obj}(h:w.drew.cell? (aD p 0)=some a∧w.drew.cell? (aD p 1)=some b∧w.drew.cell? (aD p 2)=some c):(w.alloc o).drew.cell? (aD p 0)=some a∧(w.alloc o).drew.cell? (aD p 1)=some b∧(w.alloc o).drew.cell? (aD p 2)=some c:=
 wG (w:=w.drew) h
theorem b2A{l:List Evt.Bat}(h: ∀j,j<k→ ∃e,l[j]?=some e∧(Evt.aA e).1=0):((l.take k).flatMap Evt.jS).length≤l.length*154:=by
 refine c9E (xA Evt.jS 154 (l.take k) (fun a ha=>?_)) (d1J 154 (by simp;omega));obtain⟨j,hj,rfl⟩:=d1P.1 ha;have A0:j<k∧j<l.length:=by
  rw[c9K]at hj;omega
 obtain⟨e,h1,h2⟩:=h j A0.1;rw[List.getElem_take];rw[c9F A0.2,Option.some.injEq]at h1;rw[h1];exact a7P h2
theorem a0V(n:Nat):(Evt.dL n).length=3:=rfl
theorem yP(v:Value)(l:List Evt.Bat)(w:World)(h:eS w v l)(hm:150<l.length):
  Calls prog 61 #[v] w fun e w'=> ∃v',e=.returned (.tuple #[v',.agg #[iV ((Evt.aF l).1:Nat),iV ((Evt.aF l).2:Nat)]])∧cT w' w.heap.size v' (rE l)∧Bl w w':=by
 have HW:=vX hm;rw[wV (by rw[HW];decide),HW];obtain⟨A,C,rfl⟩:=h.sE;have hl:=h.len;have A0:(150:Int)<(l.length:Int):=by omega
 clear h HW;go_enter func61,ntmps61
 go_wp2_with fail;refine bodyPost_ret (v:=.tuple #[nS,.agg #[iV 5,iV 0]]) (by simp[results,results61,go_sem]) rfl ⟨_,rfl,tA _ _,?_⟩;exact(Below.refl _ _).alloc (c9C _) _
theorem a0I(v:Value)(l:List Evt.Bat)(w:World)(h:eS w v l)(hm: ¬150<l.length):
  Calls prog 61 #[v] w fun e w'=> ∃v',e=.returned (.tuple #[v',.agg #[iV ((Evt.aF l).1:Nat),iV ((Evt.aF l).2:Nat)]])∧cT w' w.heap.size v' (rE l)∧Bl w w':=by
 obtain⟨i1,B8,Ar⟩:=c9J.1 Tryz.infoByte;simp only[Prod.mk.injEq]at Ar;obtain⟨Bj,Bk,Bm⟩:=Ar;obtain⟨A,C,rfl⟩:=h.sE;have Bt: ¬(150:Int)<(l.length:Int):=by omega
 have Bu:l.length≤150:=by omega
 have HC:=hd8 (b4F h);have X0:=aB8 w (.cells #[iV 0,iV 0] 78);have V0:=pU w #[iV 0,iV 0] 78 (by decide);have B0:cT ((w.alloc (.cells #[iV 0,iV 0] 78)).alloc (.cells #[.int .u8 l.length] 5)) w.heap.size (.slice (some (aD (w.heap.size+1) 0)) 1 1) [l.length]:=by
  have:=c4D (w.alloc (.cells #[iV 0,iV 0] 78)) w.heap.size [l.length] X0.size (by simp);have sz:(w.alloc (.cells #[iV 0,iV 0] 78)).heap.size=w.heap.size+1:=by simp
  rw[sz]at this;exact this
 have X1:Bl w ((w.alloc (.cells #[iV 0,iV 0] 78)).alloc (.cells #[.int .u8 l.length] 5)):=X0.alloc X0.size _;have V0:=V0.off (N:=w.heap.size) (dJ.oE ((Below.refl (w.alloc (.cells #[iV 0,iV 0] 78)).heap.size _).alloc (c9C _) (.cells #[.int .u8 l.length] 5)));clear h X0 hm;go_enter func61,ntmps61
 go_wp2_with fail;generalize (w.alloc (.cells #[iV 0,iV 0] 78)).alloc (.cells #[.int .u8 l.length] 5)=W1 at B0 X1 V0⊢;go_loopw [4,20] (fun y x wr=> ∃k:Nat,k≤l.length∧x=iV k∧Hid (∀j,j<k→ ∃e,l[j]?=some e∧(Evt.aA e).1=0)∧cT wr w.heap.size y ([l.length]++(l.take k).flatMap Evt.jS)∧dJ w.heap.size W1 wr) (fun _ x _=>l.length-(intOf x).toNat)
 case atStart=>exact⟨0,c9D _,rfl,(fun j hj=>absurd hj (c9L j)),by simpa using B0,dJ.refl _ _⟩
 case round=>
  obtain⟨k,hk,rfl,HS,BR,OR⟩:=hrel;have Ao:=X1.size;have A8:=c9E Ao OR.size;have br:=X1.trans (OR.bE Ao);have VR:=V0.off OR;by_cases Bb:k<l.length
  ·have Bc:(k:Int)<(l.length:Int):=by omega
   obtain⟨x,hx⟩: ∃x,l[k]?=some x:=⟨l[k],c9F Bb⟩;have HX:=hd8 hx;obtain⟨b,o,rfl,Aa,A2,A7,he⟩:=HC.out k x hx;have d0:=cB8 br A2;have d1:=cB8 br A7;obtain⟨wo,rfl⟩: ∃y,y=wr:=⟨wr,rfl⟩;have bA:=aB8 wo (.cells #[iV x.cmd,Aa] 47);have VX:=pU wo #[iV x.cmd,Aa] 47 (by decide);have HW:=lR x.cmd Aa x.evs _ (he.bE (br.trans (bA.mono A8)));have HQ:Hid (Evt.aA ⟨x.cmd,x.evs⟩=Evt.aA x):=rfl;rw[HQ.out]at HW;have Ad:Hid (∀i e,x.evs[i]?=some e→ ∃b' o',(match Aa with| .slice A' _ _=>A'|_=>none)=some (aD b' o')∧a7E w b' (o'+i*3) e):=by
    obtain⟨A',C',Bg,_,_,B6⟩:=he;subst Bg;exact B6
   obtain⟨As,Cs,rfl⟩:=he.sE;have Ad:=hd8 Ad;clear hx A2 A7;by_cases hE:(Evt.aA x).1=0
   ·obtain⟨g1,g2,g3,g4,g5⟩:=Evt.bN hE;have Aw:=hd8 hE;have Al:=hd8 g5;obtain⟨c,hc⟩: ∃c:Nat,x.cmd=c:=⟨x.cmd.toNat,by omega⟩;have Av:=hd8 hc;have B7:c<16777216:=by omega
    rw[hc]at d0 HW VX bA;rw[hE]at HW;generalize (Evt.aA x).2=y at HW;clear hE g5 hc g1 g2;go_upto_region 10 with(first|(go_at_call 59;refine HW.mono ?_;rintro e w1 ⟨rfl,b1⟩;have bF:Bl w1 (w1.alloc (.cells #[iV 0,iV y] 78)):=aB8 _ _))
    have bB:=bt (bt bA b1) bF;have VX:=(VX.off (N:=w.heap.size) (dJ.oE b1)).off (N:=w.heap.size) (dJ.oE bF);have A0:RA (w1.alloc (.cells #[iV 0,iV y] 78)) (w1.alloc (.cells #[iV 0,iV y] 78)) w.heap.size u4 ([l.length]++(l.take k).flatMap Evt.jS):=⟨dJ.refl _ _,BR.bE bB,c9E A8 bB.size⟩;generalize w1.alloc (.cells #[iV 0,iV y] 78)=WZ at*;have B1:([l.length]++(l.take k).flatMap Evt.jS).length≤100000:=by
     have:=b2A HS.out;rw[c9I];simp only[List.length_cons,List.length_nil];omega
    generalize hbs:[l.length]++(l.take k).flatMap Evt.jS=bs at A0 B1;have TD:WZ.drew.cell? (aD wo.heap.size 0)=some (iV c)∧WZ.drew.cell? (aD wo.heap.size 1)=some (.slice As x.evs.length Cs):=⟨VX.cell 0 _ rfl,VX.cell 1 _ rfl⟩;have A0:=A0.drew;have Bh:IntKind.u8.wrap ((x.evs.length:Nat):Int)=(x.evs.length:Nat):=by rw[IntKind.wrap_u8];omega
    go_cut [4]from 34 to 44 (fun v' wx=> ∃v5,v'=v5∧RA WZ wx w.heap.size v5 (bs++Evt.dL c++[x.evs.length]))
    case first=>
     go_region_held3 (fun w'=>w'.cell? (aD wo.heap.size 0)=some (iV c)∧w'.cell? (aD wo.heap.size 1)=some (.slice As x.evs.length Cs))
      (first|with_reducible exact TD|with_reducible assumption|with_reducible exact wD (by assumption)|with_reducible exact a4M (by assumption))
      (first|(go_at_call 93;refine(sM c _ B7).mono ?_;rintro e3 w3 ⟨g3,rfl,b3,T3⟩;(first|(have A3:=A0.bE b3;have T3:=T3 A0;have S3:=(VX.off (N:=w.heap.size) A3.off))|(have A3:=(A0.alloc (.cells #[.int .u8 x.evs.length] 5)).bE b3;have L3:=(jI A0 [x.evs.length] (by simp)).bE b3;have T3:=T3 (A0.alloc (.cells #[.int .u8 x.evs.length] 5));have S3:=(VX.off (N:=w.heap.size) A3.off)));have Bo:w3.cell? (aD wo.heap.size 0)=some (iV c)∧w3.cell? (aD wo.heap.size 1)=some (.slice As x.evs.length Cs):=⟨S3.cell 0 _ rfl,S3.cell 1 _ rfl⟩)|(refine rY rfl (.tmp 34) (.tmp 37) rfl (xs:=Evt.dL c) rfl rfl (by first|exact A3|exact A3.alloc _) (by first|exact T3|exact T3.alloc _) (by simp[Evt.dL];omega) ?_;intro v4 w4 A4 TT4;have S4:=VX.off (N:=w.heap.size) A4.off;have Bp:w4.cell? (aD wo.heap.size 0)=some (iV c)∧w4.cell? (aD wo.heap.size 1)=some (.slice As x.evs.length Cs):=⟨S4.cell 0 _ rfl,S4.cell 1 _ rfl⟩;(first|(have L4:=TT4 _ _ L3)|(have L4:=TT4 _ _ (jI A3 [x.evs.length] (by simp)))|skip))|(refine rY rfl (.tmp 38) (.tmp 43) rfl (xs:=[x.evs.length]) rfl rfl (by first|exact A4|exact A4.alloc _) (by first|exact L4|exact jI A4 [x.evs.length] (by simp)) (by simp[Evt.dL];omega) ?_;intro v5 w5 A5 TT5;have S5:=VX.off (N:=w.heap.size) A5.off;have Bq:w5.cell? (aD wo.heap.size 0)=some (iV c)∧w5.cell? (aD wo.heap.size 1)=some (.slice As x.evs.length Cs):=⟨S5.cell 0 _ rfl,S5.cell 1 _ rfl⟩))
     all_goals go_wp2_with fail
     all_goals go_meet
     all_goals exact⟨_,rfl,A5⟩
    case rest=>
     obtain⟨v5,rfl,A5⟩:=hcut;obtain⟨Bn,rfl⟩: ∃y,y=wc:=⟨wc,rfl⟩;have VY:=VX.off A5.off;have c1:=VY.cell 1 _ rfl;have Ap:=A5.hN;have B5:=A5.buf;have bc:=br.trans ((bB.mono A8).trans (A5.off.bE (c9E A8 bB.size)));have OC:=hd8 (OR.trans ((dJ.oE bB).trans A5.off));have L5:(bs++Evt.dL c++[x.evs.length]).length=bs.length+4:=by simp[a0V]
     clear A5 TD A0 Bh VX;go_wp2_with fail;clear c1;go_loopw [4,48] (fun y x' wi=> ∃j:Nat,j≤x.evs.length∧x'=iV j∧cT wi w.heap.size y (bs++Evt.dL c++[x.evs.length]++(x.evs.take j).flatMap Evt.iI)∧dJ w.heap.size Bn wi) (fun _ x' _=>x.evs.length-(intOf x').toNat)
     case atStart=>exact⟨0,c9D _,rfl,by simpa using B5,dJ.refl _ _⟩
     case round=>
      obtain⟨j,hj,rfl,BI,OI⟩:=hrel;have B4:=c9E Ap OI.size;have bi:=bc.trans (OI.bE Ap);by_cases B9:j<x.evs.length
      ·have Ba:(j:Int)<(x.evs.length:Int):=by omega
       obtain⟨ev,A9⟩: ∃ev,x.evs[j]?=some ev:=⟨x.evs[j],c9F B9⟩;have At:=Al.out ev (c9N A9);obtain⟨⟨_,_,n3⟩,k1,k2,m1,m2⟩:=Evt.eN At;have HT:=hd8 (qB Evt.iI x.evs j ev A9);have HZ:=oQ Evt.iI 15 j x.evs (fun e he=>zG (Al.out e he));obtain⟨be,oe,rfl,s,Bv,Ak,A2,A7,An⟩:=Ad.out j ev A9;have e0:=cB8 bi A2;have e1:=cB8 bi A7;have e2:=cB8 bi An;obtain⟨kn,Ai⟩: ∃kn:Nat,ev.kind=kn:=⟨ev.kind.toNat,by omega⟩;obtain⟨mn,Aj⟩: ∃mn:Nat,ev.num=mn:=⟨ev.num.toNat,by omega⟩;rw[Ai]at e1;rw[Aj]at e2;have Bw:s.size≤10:=by rw[←gF,Ak];exact n3
       have Bs:kn≤4:=by omega
       have Be:mn<16777216:=by omega
       have Ax:Hid (Evt.iI ev=[s.size]++nb s++[kn]++Evt.dL mn):=by
        show Evt.iI ev=_;unfold Evt.iI;rw[←Ak,gF,Ai,Aj];simp
       obtain⟨wj,rfl⟩: ∃y,y=wr:=⟨wr,rfl⟩;have bE:=aB8 wj (.cells #[.string s,iV kn,iV mn] 83);have VE:=pU wj #[.string s,iV kn,iV mn] 83 (by decide);have AI:RA (wj.alloc (.cells #[.string s,iV kn,iV mn] 83)) (wj.alloc (.cells #[.string s,iV kn,iV mn] 83)) w.heap.size u4 (bs++Evt.dL c++[x.evs.length]++(x.evs.take j).flatMap Evt.iI):=⟨dJ.refl _ _,BI.bE bE,c9E B4 bE.size⟩;have Ae:(bs++Evt.dL c++[x.evs.length]++(x.evs.take j).flatMap Evt.iI).length≤200000∧4≤(bs++Evt.dL c++[x.evs.length]++(x.evs.take j).flatMap Evt.iI).length:=by
        rw[c9I,L5];omega
       obtain⟨bj,Aq⟩: ∃bj,Hid (bs++Evt.dL c++[x.evs.length]++(x.evs.take j).flatMap Evt.iI=bj):=⟨_,rfl⟩;rw[Aq.out]at AI Ae;clear A9 At A2 A7 An Ai Aj BI HZ k1 k2 m1 m2 n3 Ak;have TL:=jI AI [s.size] (by simp);have Au:(wj.alloc (.cells #[.string s,iV kn,iV mn] 83)).heap.size=wj.heap.size+1:=by simp
       rw[Au]at TL;have AL:=AI.alloc (.cells (clB [s.size]).toArray 5);have Br:(bj++[s.size]).length=bj.length+1:=by simp
       have Bf:(s.size:Int)≤10:=by omega
       go_upto_region 15 with(at_builtin;go_loud (refine wpList_append_own_at _ rfl (.tmp 52) (.tmp 57) 59 rfl w.heap.size 5 i1 (.int .u8 0) 1 1 underlying59 B8 Bj Bk Bm rfl (by decide) _ _ _ rfl AL.buf (aD (wj.heap.size+1) 0) 1 1 (clB [s.size]) rfl rfl TL.cells (b4G _) (by unfold maxLen;omega) (by omega) AL.hN ?_;intro v6 w6 hown6 hgrow6 _ _))
       have A6:RA (wj.alloc (.cells #[.string s,iV kn,iV mn] 83)) w6 w.heap.size v6 (bj++[s.size]):=⟨AL.off.trans (dJ.grown AL.buf hgrow6),cT.more hown6 rfl rfl,c9E AL.hN hgrow6.size⟩;have A1:=VE.off A6.off;have O6:=hd8 ((dJ.oE bE).trans A6.off);have AC:=(RA.mk (dJ.refl _ _) A6.buf A6.hN).drew;have TD:w6.drew.cell? (aD wj.heap.size 0)=some (.string s)∧w6.drew.cell? (aD wj.heap.size 1)=some (iV kn)∧w6.drew.cell? (aD wj.heap.size 2)=some (iV mn):=⟨A1.cell 0 _ rfl,A1.cell 1 _ rfl,A1.cell 2 _ rfl⟩;have Bx:IntKind.u8.wrap ((kn:Nat):Int)=(kn:Nat):=by rw[IntKind.wrap_u8];omega
       have B2:bj.length≤200000:=Ae.1;have B3:4≤bj.length:=Ae.2;clear hown6 hgrow6 AL TL Au AI A6 VE;go_region_held3 (fun w'=>w'.cell? (aD wj.heap.size 0)=some (.string s)∧w'.cell? (aD wj.heap.size 1)=some (iV kn)∧w'.cell? (aD wj.heap.size 2)=some (iV mn))
        (first|with_reducible exact TD|with_reducible assumption|with_reducible exact wG (by assumption)|with_reducible exact a5N (by assumption))
        (first|(go_at_call 93;refine(sM mn _ Be).mono ?_;rintro e7 w7 ⟨g7,rfl,b7,T7⟩;(first|(have LT:=LT.bE b7)|(have LT:=(jI AC [kn] (by simp)).bE b7)|skip);(first|(have TT:=T7 AC)|(have TT:=T7 (AC.alloc (.cells #[.int .u8 kn] 5))));(first|(have AC:=AC.bE b7)|(have AC:=(AC.alloc (.cells #[.int .u8 kn] 5)).bE b7));have SX:=A1.off (N:=w.heap.size) AC.off;have Ah:w7.cell? (aD wj.heap.size 0)=some (.string s)∧w7.cell? (aD wj.heap.size 1)=some (iV kn)∧w7.cell? (aD wj.heap.size 2)=some (iV mn):=⟨SX.cell 0 _ rfl,SX.cell 1 _ rfl,SX.cell 2 _ rfl⟩)|(refine a3Z rfl (.tmp 59) (.tmp 61) rfl rfl rfl (by first|exact AC|exact AC.alloc _) (by omega) (by omega) ?_;intro v8 w8 AD TR;(first|(have LT:=TR _ _ LT)|(have LT:=TR _ _ (jI AC [kn] (by simp)))|skip);(first|(have TT:=TR _ _ TT)|(have TT:=TR _ _ (TT.alloc _))|skip);have AC:=AD;have SX:=A1.off (N:=w.heap.size) AC.off;have Ah:w8.cell? (aD wj.heap.size 0)=some (.string s)∧w8.cell? (aD wj.heap.size 1)=some (iV kn)∧w8.cell? (aD wj.heap.size 2)=some (iV mn):=⟨SX.cell 0 _ rfl,SX.cell 1 _ rfl,SX.cell 2 _ rfl⟩)|(refine rY rfl (.tmp 62) (.tmp 66) rfl (xs:=[kn]) rfl rfl (by first|exact AC|exact AC.alloc _) (by first|exact LT|exact jI AC [kn] (by simp)) (by simp only[List.length_append,gF,List.length_cons,List.length_nil];omega) ?_;intro v9 w9 AD TR;(first|(have LT:=TR _ _ LT)|(have LT:=TR _ _ (jI AC [kn] (by simp)))|skip);(first|(have TT:=TR _ _ TT)|(have TT:=TR _ _ (TT.alloc _))|skip);have AC:=AD;have SX:=A1.off (N:=w.heap.size) AC.off;have Ah:w9.cell? (aD wj.heap.size 0)=some (.string s)∧w9.cell? (aD wj.heap.size 1)=some (iV kn)∧w9.cell? (aD wj.heap.size 2)=some (iV mn):=⟨SX.cell 0 _ rfl,SX.cell 1 _ rfl,SX.cell 2 _ rfl⟩)|(refine rY rfl (.tmp 67) (.tmp 70) rfl (xs:=Evt.dL mn) rfl rfl (by first|exact AC|exact AC.alloc _) (by first|exact TT|exact TT.alloc _) (by simp only[List.length_append,gF,List.length_cons,List.length_nil,a0V];omega) ?_;intro v10 w10 AD TR;(first|(have LT:=TR _ _ LT)|(have LT:=TR _ _ (jI AC [kn] (by simp)))|skip);(first|(have TT:=TR _ _ TT)|(have TT:=TR _ _ (TT.alloc _))|skip);have AC:=AD;have SX:=A1.off (N:=w.heap.size) AC.off;have Ah:w10.cell? (aD wj.heap.size 0)=some (.string s)∧w10.cell? (aD wj.heap.size 1)=some (iV kn)∧w10.cell? (aD wj.heap.size 2)=some (iV mn):=⟨SX.cell 0 _ rfl,SX.cell 1 _ rfl,SX.cell 2 _ rfl⟩))
       all_goals
        have Ab:Hid (cT w10 w.heap.size v10 (bs++Evt.dL c++[x.evs.length]++(x.evs.take (j+1)).flatMap Evt.iI)):=by
         have q:=AC.buf;show cT w10 w.heap.size v10 _;rw[HT.out,Ax.out,←c9X,Aq.out];simpa [c9X]using q
        have Af:=hd8 (OI.trans (O6.out.trans AC.off));clear AC TD;go_wp2_with fail;exact⟨⟨j+1,by omega,by go_num,Ab.out,Af.out⟩,by simp[intOf];omega⟩
      ·obtain rfl:j=x.evs.length:=by omega
       have Ab:Hid (cT wr w.heap.size u4 ([l.length]++(l.take (k+1)).flatMap Evt.jS)):=by
        have q:=BI;rw[d0L]at q;have e:bs++Evt.dL c++[x.evs.length]++x.evs.flatMap Evt.iI=[l.length]++(l.take (k+1)).flatMap Evt.jS:=by
         rw[qB Evt.jS l k x HX.out,←c9X,hbs];unfold Evt.jS;rw[Av.out];simp
        rw[e]at q;exact q
       have Af:=hd8 (OC.out.trans OI);have Az:Hid (∀j,j<k+1→ ∃e,l[j]?=some e∧(Evt.aA e).1=0):=fun j hj=>by
        by_cases e:j=k
        ·rw[e];exact⟨x,HX.out,Aw.out⟩
        ·exact HS.out j (by omega)
       clear BI;go_wp2_with fail;exact⟨⟨k+1,by omega,by go_num,Az.out,Ab.out,Af.out⟩,by simp[intOf];omega⟩
   ·have Ac:Hid (Evt.aF l=((Evt.aA x).1,k)):=by
     show Evt.aF l=_;rw[lG (by omega)];exact Evt.oT l k x HX.out hE HS.out
    have Ay:=hd8 (wV (by rw[Ac.out];exact hE));generalize (Evt.aA x).1=x1 at HW Ac hE;generalize (Evt.aA x).2=y at HW;have Bi:((x1:Int)==0)=false:=by rw[beq_eq_false_iff_ne];omega
    have By:((x1:Int) !=0)=true:=by rw[bne,Bi];rfl
    clear hE;go_wp2_with fail;refine HW.mono ?_;rintro e w1 ⟨rfl,b1⟩;have bF:=aB8 w1 (.cells #[iV x1,iV y] 78);have bB:=bt (bt bA b1) bF;have VZ:=VR.off (N:=w.heap.size) (dJ.oE bB);have c0:=VZ.cell 0 _ rfl;have c1:=VZ.cell 1 _ rfl;have f0:=VZ.frozen 0;have f1:=VZ.frozen 1;have bz:=br.trans (bB.mono A8);clear HW;go_wp2_with fail;go_region
    go_wp2_with fail;refine bodyPost_ret (v:=.tuple #[nS,.agg #[iV x1,iV k]]) (by simp[results,results61,go_sem,c0,c1]) rfl ⟨_,by rw[Ac.out],by rw[Ay.out];exact tA _ _,?_⟩;exact((bz.setCell (c9C _) _).setCell (c9C _) _).drew
  ·obtain rfl:k=l.length:=by omega
   have Ag:(Evt.aF l).1=0∧(Evt.aF l).2=0:=by
    rw[lG (by omega),Evt.lI l 0 (fun e he=>by
     obtain⟨j,hj,rfl⟩:=d1P.1 he;obtain⟨e',h1,h2⟩:=HS.out j hj;rw[c9F hj,Option.some.injEq]at h1;rw[h1]
     exact h2)]
    exact⟨rfl,rfl⟩
   have HB:cT wr w.heap.size u4 (rE l):=by
    have q:=BR;rw[d0L]at q;rw[wZ Ag.1];exact q
   have Am:=hd8 Ag;have c0:=VR.cell 0 _ rfl;have c1:=VR.cell 1 _ rfl;have f0:=VR.frozen 0;have f1:=VR.frozen 1;clear BR OR Ag;go_wp2_with fail;refine bodyPost_ret (v:=.tuple #[u4,.agg #[iV 0,iV 0]]) (by simp[results,results61,go_sem,c0,c1]) rfl ⟨_,by rw[Am.out.1,Am.out.2];rfl,?_,?_⟩
   ·refine cT.off (S:=fun k=>k=w.heap.size) HB (((Off.refl (fun k=>k=w.heap.size) _).set (p:=⟨w.heap.size,0,none⟩) rfl _).set (p:=⟨w.heap.size,1,none⟩) rfl _) (fun g hg e=>?_);obtain⟨c,hc⟩:=iY HB hg;rw[e,VR.hp]at hc;cases hc
   ·exact(br.setCell (c9C _) _).setCell (c9C _) _
theorem a0H(v:Value)(l:List Evt.Bat)(w:World)(h:eS w v l):
  Calls prog 61 #[v] w fun e w'=> ∃v',e=.returned (.tuple #[v',.agg #[iV ((Evt.aF l).1:Nat),iV ((Evt.aF l).2:Nat)]])∧cT w' w.heap.size v' (rE l)∧Bl w w':=by
 by_cases hm:150<l.length
 ·exact yP v l w h hm
 ·exact a0I v l w h hm
end Go.Proofs.YtmcaejooaaahdaaGreat
