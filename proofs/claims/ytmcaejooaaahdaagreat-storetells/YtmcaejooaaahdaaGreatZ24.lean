import Derived.Test.YtmcaejooaaahdaaGreatZ23
set_option maxHeartbeats 8000000
set_option maxRecDepth 100000
namespace Go.Proofs.YtmcaejooaaahdaaGreat
open Go.Proofs.Tryz
variable {N P Q n:Nat} {S:Nat→Prop} {T:Nat→Bool} {X:Sto.Six} {s:Sto.St} {t:TypeId} {v va vd ve vl vs vt:Value} {w w' w2:World} {xs:List Value}
open Go.RowKit
theorem b1D{z:Nat}(h:w.ownsRow N t z v n xs): ∃A C,v=.slice A n C∧n≤C∧C≤maxLen∧(1≤n→ ∃g,A=some (aD g 0)):=by
 rcases h.2 with⟨rfl,h0⟩|⟨g,A0,A1,rfl,_,_,h1,h2,_⟩
 ·subst h0;exact⟨none,0,rfl,c9C _,c9D _,fun h=>absurd h (by decide)⟩
 ·exact⟨_,A0,rfl,h1,h2,fun _=>⟨g,rfl⟩⟩
theorem sT.batsM{l:List (Int×Value)}{bs:List Evt.Bat}(h:sT w N v l)(hl:bs.length=l.length)(he: ∀(i:Nat) (x:Int×Value) (b:Evt.Bat),l[i]?=some x→bs[i]?=some b→b.cmd=x.1∧Evs w x.2 b.evs∧ ∀g,x.2.ownBlock=some g→N≤g):gY w N v bs:=by
 obtain⟨A,A0,rfl,h1,h2,h3⟩:=b1D h;refine⟨A,A0,by rw[hl],by rw[hl];exact h1,h2,fun i b hb=>?_⟩;obtain⟨x,hx⟩: ∃x,l[i]?=some x:=by
  have:i<l.length:=by
   rw[←hl];exact(c9H.1 hb).1
  exact⟨l[i],c9F this⟩
 obtain⟨g,rfl⟩:=h3 (by have:=(c9H.1 hx).1;omega);obtain⟨e1,e2,e3⟩:=he i x b hx hb;have hc: ∀j u,(dG x)[j]?=some u→w.cell? (aD g (i*2+j))=some u:=fun j u hj=>by
  have A1:j<2:=(c9H.1 hj).1;have:=h.cells rfl (i*2+j) u ((dQ dG 2 l (fun _ _=>rfl) i j A1 x hx).trans hj);rw[WideShapes.add_plain,c9G]at this;exact this
 refine⟨g,0,rfl,(h.lt g rfl).1,x.2,?_,?_,e2,e3⟩
 ·rw[c9G,e1];exact hc 0 _ rfl
 ·rw[c9G];exact hc 1 _ rfl
theorem a5V(b o cap N:Nat)(g:Nat→Nat)(w:World)(hy:cF w (.slice (some (aD b o)) N cap) N g)(hN1:1≤N):
  Calls prog 65 #[.slice (some (aD b o)) N cap] w fun e w'=> ∃v',e=.returned (.tuple #[v',iV (Evt.aM (bl g N):Nat)])∧gY w' w.heap.size v' (Evt.dD (bl g N))∧Bl w w':=by
 obtain⟨b',o',Cb,hv,Cv,D2,hc⟩:=hy.some hN1;cases hv
 have hg:=hy.bd;have HN:=fun s A ok w' (hs:s≤3) (hp:PS w w' (.slice (some (aD b o)) N cap) N A ok)=>c1V s b o cap N A ok g w w' hs hy hc hp;have eg:=Tryz.enters_num;go_enter func65,ntmps65
 go_wp2_with fail;have P0:PS w (((w.alloc (.cells #[.slice (some (aD b o)) N cap] 59)).alloc (.cells #[iV 0] 3)).alloc (.cells #[.bool true] 4)) (.slice (some (aD b o)) N cap) N 0 true:=by
  refine⟨by go_simp,by go_simp,by go_simp,by go_simp,by go_simp,?_,c9D _⟩;have h1:=aB8 w (.cells #[.slice (some (aD b o)) N cap] 59);have h2:=h1.alloc h1.size (.cells #[iV 0] 3);exact h2.alloc h2.size _
 refine(HN 1 0 true _ (by decide) P0).mono ?_;clear P0;rintro e w1 (⟨_,rfl,P1,_⟩|⟨Ad,_⟩)
 case inr=>omega
 have e1:gA g 0 1=g 0:=by
  show 256*0+g 0=_;rw[d1U,c9G]
 rw[e1];clear e1;have Cx:=hg 0;have B4:Hid (Evt.num 1 0 (bl g N)=some (g 0,(bl g N).drop 1)):=by
  have:=mJ g (A:=0) (N:=N) (by omega);rw[d2E,show gA g 0 1=g 0 from by show 256*0+g 0=_;rw[d1U,c9G]]at this;exact this
 generalize g 0=n at Cx B4;go_wp2_with fail;go_loopw [7,9] (fun vo x wr=> ∃i:Nat,x=iV i∧OS w wr (.slice (some (aD b o)) N cap) g N n vo i) (fun _ x _=>n-(intOf x).toNat)
 case atStart=>exact⟨0,rfl,[],1,true,sT.nil _ _,(fun t ht=>by cases ht),P1,Nat.zero_le _,rfl,(fun _=>by omega),Or.inl ⟨rfl,by cases h:Evt.dZ n ((bl g N).drop 1)<;>simp[a1X]⟩⟩
 case round=>
  obtain⟨i,rfl,L,A,ok,BB,BE,P2,D7,Ar,Bv,Al⟩:=hrel;have c0:=P2.at_;have c1:=P2.b_;have c2:=P2.ok_;cases ok with
  |false=>
   have HZ:Hid (Evt.aM (bl g N)=2∧Evt.dD (bl g N)=[]):=c2Q B4.out (by
    rcases Al with⟨h,_⟩|⟨_,h⟩
    ·cases h
    ·exact h)
   have bz:=P2.bel;clear Al BB BE P2 HN Ar hc hy;by_cases hi:i<n
   ·have B9:(i:Int)<(n:Int):=by omega
    go_wp2_with fail;go_ret2
    exact⟨_,by rw[HZ.out.1];rfl,by rw[HZ.out.2];exact eW _ _,bz⟩
   ·have B9: ¬(i:Int)<(n:Int):=by omega
    go_wp2_with fail;go_ret2
    exact⟨_,by rw[HZ.out.1];rfl,by rw[HZ.out.2];exact eW _ _,bz⟩
  |true=>
   have Ch:=Bv rfl;clear Bv;by_cases hi:i<n
   ·have B9:(i:Int)<(n:Int):=by omega
    have Ai:Evt.dZ n ((bl g N).drop 1)=a1X (L.map wD) (Evt.dZ (n-i) ((bl g N).drop A)):=by
     rcases Al with⟨_,h⟩|⟨h,_⟩
     ·exact h
     ·cases h
    obtain⟨wo,B0⟩: ∃x,x=wr:=⟨wr,rfl⟩;rw[←B0]at c0 c1 c2 BB BE P2⊢;clear Al B0;go_upto_region 8 with fail
    go_cut [10]from 21 to 76 (fun x10 wc=> ∃(p c A1:Nat) (As:Bool),x10=.pointer (some (aD p 0))∧wo.heap.size≤p∧PS w wc (.slice (some (aD b o)) N cap) N A1 As∧dW wc p (iV c) nS∧Off (fun k=>k=w.heap.size+1∨k=w.heap.size+1+1) wo wc∧
     ((As=true∧A1=A+3∧A+3≤N∧c=gA g A 3)∨(As=false∧A1=N∧N<A+3)))
    case first=>
     go_wp2_with fail;refine(HN 3 A true _ (by decide) P2).mono ?_;rintro e1 wN (⟨hA3,rfl,P3,O3⟩|⟨hA3,rfl,P3,O3⟩)
     ·have hz:=P2.bel.size;have At:w.heap.size+3≤wN.heap.size:=P3.room;go_wp2_with fail;go_meet
      exact⟨wN.heap.size,gA g A 3,A+3,true,rfl,O3.size,P3.keep ((Below.refl _ _).alloc At _),aO wN _ _ _,O3.trans (Off.of_below (aB8 _ _)),Or.inl ⟨rfl,rfl,hA3,rfl⟩⟩
     ·have At:w.heap.size+3≤wN.heap.size:=P3.room;go_wp2_with fail;go_meet
      exact⟨wN.heap.size,0,N,false,rfl,O3.size,P3.keep ((Below.refl _ _).alloc At _),aO wN _ _ _,O3.trans (Off.of_below (aB8 _ _)),Or.inr ⟨rfl,rfl,hA3⟩⟩
    case rest=>
    obtain⟨p,c,A1,As,rfl,hp,P3,V3,O3,Bg⟩:=hcut;go_upto_region 9 with fail
    go_cut [11]from 21 to 76 (fun x11 wc=> ∃(m A2:Nat) (Ag:Bool),x11=iV m∧m<256∧PS w wc (.slice (some (aD b o)) N cap) N A2 Ag∧dW wc p (iV c) nS∧Off (fun k=>k=w.heap.size+1∨k=w.heap.size+1+1) wo wc∧
     ((Ag=true∧A2=A+4∧A+4≤N∧c=gA g A 3∧m=g (A+3))∨(Ag=false∧A2=N∧m=0∧N<A+4)))
    case first=>
     go_wp2_with fail;refine(HN 1 A1 As _ (by decide) P3).mono ?_;rintro e1 wN (⟨Br,rfl,P4,O4⟩|⟨Br,rfl,P4,O4⟩)
     ·have Ac: ¬(p=w.heap.size+1∨p=w.heap.size+1+1):=by have:=P2.room;omega
      have hv:=(b4H hg A1 1 (by decide)).2 (by decide);have Bq:gA g A1 1=g A1:=by
       show 256*0+g A1=_;rw[d1U,c9G]
      have Cp:=hg A1;go_wp2_with fail;go_meet
      refine⟨g A1,A1+1,As,rfl,Cp,P4,V3.off O4 Ac,O3.trans O4,?_⟩;rcases Bg with⟨h1,h2,h3,h4⟩|⟨h1,h2,h3⟩
      ·exact Or.inl ⟨h1,by omega,by omega,h4,by rw[h2]⟩
      ·omega
     ·have Ac: ¬(p=w.heap.size+1∨p=w.heap.size+1+1):=by have:=P2.room;omega
      go_wp2_with fail;go_meet
      exact⟨0,N,false,rfl,by decide,P4,V3.off O4 Ac,O3.trans O4,Or.inr ⟨rfl,rfl,rfl,by rcases Bg with⟨_,h2,_⟩|⟨_,h2,h3⟩<;>omega⟩⟩
    case rest=>
    obtain⟨m,A2,Ag,rfl,C5,P4,V4,O4,Ay⟩:=hcut;clear P3 V3 O3 Bg;go_upto_block 2 with fail
    go_cut [12,13,14]from 21 to 76 (fun x12 x13 x14 wc=> ∃(A3:Nat) (A8:Bool) (ve:Value) (es:List EvC),PS w wc (.slice (some (aD b o)) N cap) N A3 A8∧dW wc p (iV c) ve∧cG wc (p+1) ve es∧Off (fun k=>k=w.heap.size+1∨k=w.heap.size+1+1) wo wc∧es.length≤256∧(A8=true→A3≤A+66304)∧
     ((A8=true∧Evt.mI ((bl g N).drop A)=some (⟨(c:Nat),es.map aZ⟩,(bl g N).drop A3))∨(A8=false∧Evt.mI ((bl g N).drop A)=none)))
    case first=>
     go_wp2_with fail
     go_loopw [12] (fun x wi=> ∃(k A3:Nat) (A8:Bool) (ve:Value) (es:List EvC),x=iV k∧k≤m∧PS w wi (.slice (some (aD b o)) N cap) N A3 A8∧dW wi p (iV c) ve∧cG wi (p+1) ve es∧es.length≤k∧Off (fun k=>k=w.heap.size+1∨k=w.heap.size+1+1) wo wi∧(A8=true→A3≤A+4+k*260)∧
      ((A8=true∧Ag=true∧Evt.eF m ((bl g N).drop A2)=zB (es.map aZ) (Evt.eF (m-k) ((bl g N).drop A3)))∨(A8=false∧(Ag=true→Evt.eF m ((bl g N).drop A2)=none)))) (fun x _=>m-(intOf x).toNat)
     case atStart=>
      refine⟨0,A2,Ag,nS,[],rfl,c9D _,P4,V4,cG.nil _ _,c9C _,O4,?_,?_⟩
      ·intro h;rcases Ay with⟨_,h2,_⟩|⟨h1,_⟩
       ·omega
       ·rw[h]at h1;cases h1
      ·cases Ag with
       |true=>exact Or.inl ⟨rfl,rfl,by rw[Nat.sub_zero];cases h:Evt.eF m ((bl g N).drop A2)<;>simp[zB]⟩
       |false=>exact Or.inr ⟨rfl,fun h=>by cases h⟩
     case round=>
      obtain⟨k,A3,A8,ve,es,rfl,D5,P5,V5,EB,Cm,O5,Ab,Ap⟩:=hrel;have d0:=P5.at_;have d1:=P5.b_;have d2:=P5.ok_;by_cases hk:k<m
      ·have D3:(k:Int)<(m:Int):=by omega
       cases A8 with
       |true=>
        have Cc:=Ab rfl;clear Ab;have B5:Ag=true∧Evt.eF m ((bl g N).drop A2)=zB (es.map aZ) (Evt.eF (m-k) ((bl g N).drop A3)):=by
         rcases Ap with⟨_,h⟩|⟨h,_⟩
         ·exact h
         ·cases h
        clear Ap;obtain⟨wi,Bu⟩: ∃x,x=wr:=⟨wr,rfl⟩;rw[←Bu]at d0 d1 d2 P5 V5 EB O5⊢;clear Bu;have B1:=P5.room;have D9:p<wi.heap.size:=World.block_lt_of_cell? _ _ V5.c0;have D6:=P2.room;have Ac: ¬(p=w.heap.size+1∨p=w.heap.size+1+1):=by omega
        have bE:=aB8 wi (.cells #[.string ByteArray.empty,iV 0,iV 0] 83);have G5:=c1O wi 83 (.string ByteArray.empty) (iV 0) (iV 0);have By:=P5.keep (bE.mono B1);have Bh:=V5.below bE;have Au:=EB.below bE;have Bc:=O5.trans (Off.of_below bE);go_upto_region 14 with fail
        go_cut [14]from 34 to 72 (fun x14 wc=> ∃(lg A4:Nat) (Aa:Bool),x14=iV lg∧PS w wc (.slice (some (aD b o)) N cap) N A4 Aa∧mP wc wi.heap.size (.string ByteArray.empty) (iV 0) (iV 0)∧dW wc p (iV c) ve∧cG wc (p+1) ve es∧Off (fun k=>k=w.heap.size+1∨k=w.heap.size+1+1) wo wc∧wi.heap.size<wc.heap.size∧
         ((Aa=true∧A4=A3+1∧lg=g A3∧A3+1≤N)∨(Aa=false∧A4=N∧lg=0∧N≤A3)))
        case first=>
         go_wp2_with fail;refine(HN 1 A3 true _ (by decide) By).mono ?_;rintro e1 wN (⟨hA6,rfl,P6,O6⟩|⟨hA6,rfl,P6,O6⟩)
         ·have Bq:gA g A3 1=g A3:=by
           show 256*0+g A3=_;rw[d1U,c9G]
          go_wp2_with fail;go_meet
          refine⟨g A3,A3+1,true,rfl,P6,G5.off O6 (by omega),Bh.off O6 Ac,Au.off O6 (fun y hy=>by have:=(Au.1.lt y hy).1;omega),Bc.trans O6,?_,Or.inl ⟨rfl,rfl,rfl,hA6⟩⟩;have:=O6.size;have:=World.block_lt_of_cell? _ _ G5.c0;exact c9P this O6.size
         ·go_wp2_with fail;go_meet
          refine⟨0,N,false,rfl,P6,G5.off O6 (by omega),Bh.off O6 Ac,Au.off O6 (fun y hy=>by have:=(Au.1.lt y hy).1;omega),Bc.trans O6,?_,Or.inr ⟨rfl,rfl,rfl,by omega⟩⟩;exact c9P (World.block_lt_of_cell? _ _ G5.c0) O6.size
        case rest=>
        obtain⟨lg,A4,Aa,rfl,P6,G6,V6,Aj,O6,B2,Am⟩:=hcut;have Ba:=EB.1.lt;have Bn:=O5.size;clear By Bh Au Bc G5 P5 V5 EB d0 d1 d2 bE;have d0:=P6.at_;have d1:=P6.b_;have d2:=P6.ok_;have f0:=P6.fa;have f1:=P6.fo;have Br:=P6.le;have D1:lg<256:=by
         rcases Am with⟨_,_,h3,_⟩|⟨_,_,h3,_⟩
         ·rw[h3];exact hg A3
         ·omega
        have D0:=hy.len;have Ck:A4+lg≤9223372036854775807:=by
         rcases Am with⟨_,h3,_⟩|⟨_,h3,h4,_⟩<;>omega
        have A0: ∀y,ve.ownBlock=some y→p+1≤y∧y<wi.heap.size:=Ba;by_cases C1:N<A4+lg
        ·have Cr:(N:Int)<(A4:Int)+(lg:Int):=by omega
         have HX:Hid (Evt.mI ((bl g N).drop A)=none):=uG Ay (fun _=>by
          rw[B5.2,show m-k=(m-(k+1))+1 by omega]
          exact zD (a2D (by rcases Am with⟨_,h2,h3,h4⟩|⟨_,h2,h3,h4⟩<;>omega)) _)
         go_wp2_with fail;go_meet
         exact⟨A4,false,ve,es,P6.setNo,V6.off (aG _ _ _) (show¬p=w.heap.size+1+1 by omega),Aj.off (aG _ _ _) (fun y hy=>by have:=(Aj.1.lt y hy).1;show¬y=w.heap.size+1+1;omega),O6.set (p:=⟨w.heap.size+1+1,0,none⟩) (Or.inr rfl) _,by omega,(fun h=>by cases h),Or.inr ⟨rfl,HX.out⟩⟩
        ·have Cr: ¬(N:Int)<(A4:Int)+(lg:Int):=by omega
         have C0:Bd (fun k=>g (A4+k)):=fun k=>hg _;have Cu:(A4:Int)+(lg:Int)≤(cap:Int):=by omega
         go_upto_region 17 with fail
         go_cut []from 34 to 72 (fun wc=>PS w wc (.slice (some (aD b o)) N cap) N A4 Aa∧mP wc wi.heap.size (.string (uT (fun k=>g (A4+k)) lg)) (iV 0) (iV 0)∧dW wc p (iV c) ve∧cG wc (p+1) ve es∧Off (fun k=>k=w.heap.size+1∨k=w.heap.size+1+1) wo wc∧wi.heap.size<wc.heap.size)
         case first=>
          obtain⟨g0,g1,g2,gf⟩:=G6;have Da:=gf 0;have HR:Hid (∀x,PS w (wc.setCell (aD wi.heap.size 0) x) (.slice (some (aD b o)) N cap) N A4 Aa∧mP (wc.setCell (aD wi.heap.size 0) x) wi.heap.size x (iV 0) (iV 0)∧dW (wc.setCell (aD wi.heap.size 0) x) p (iV c) ve∧cG (wc.setCell (aD wi.heap.size 0) x) (p+1) ve es∧Off (fun k=>k=w.heap.size+1∨k=w.heap.size+1+1) wo (wc.setCell (aD wi.heap.size 0) x)∧wi.heap.size<(wc.setCell (aD wi.heap.size 0) x).heap.size):=fun x=>
           ⟨P6.keep ((Below.refl _ _).setCell (show w.heap.size+3≤wi.heap.size by omega) _),mP.set0 ⟨g0,g1,g2,gf⟩ x,V6.off (aG _ _ _) (show¬p=wi.heap.size by omega),Aj.off (aG _ _ _) (fun y hy=>by have:=A0 y hy;show¬y=wi.heap.size;omega),O6.past (aG _ _ _) (fun y hy Ad=>by have h1:y=wi.heap.size:=hy;have h2:=Bn;omega),by rw[Deep.nblk_setCell];exact B2⟩
          by_cases Co:cap=A4
          ·obtain rfl:lg=0:=by omega
           subst Co;have hq:=fun A C w=>a2H w A C;have HS:Hid (uT (fun k=>g (cap+k)) 0=ByteArray.empty):=rfl;go_wp2_with fail;go_meet
           rw[HS.out];exact HR.out _
          ·have hq:=a8W (w:=wc) (v:=.slice (some (aD b (o+A4))) lg (cap-A4)) (n:=lg) (f:=fun k=>g (A4+k)) ⟨C0,some (aD b (o+A4)),cap-A4,rfl,by omega,by unfold maxLen;omega,fun k hk=>⟨b,o+A4,rfl,by
            have ht:=hc (A4+k) (by omega);rw[show o+A4+k=o+(A4+k) by omega]
            exact(P6.bel.cell (p:=⟨b,o+(A4+k),none⟩) (World.block_lt_of_cell? _ _ ht)).trans ht⟩⟩
           obtain⟨S,hS⟩: ∃S,S=uT (fun k=>g (A4+k)) lg:=⟨_,rfl⟩;rw[←hS]at hq;have HS:=hd8 hS;clear hS;go_wp2_with fail;go_meet
           rw[←HS.out];exact HR.out _
         case rest=>
         obtain⟨P7,G7,V7,Bp,O7,Ax⟩:=hcut;clear P6 G6 V6 Aj O6 B2 d0 d1 d2 f0 f1;obtain⟨S,Be⟩: ∃S,S=uT (fun k=>g (A4+k)) lg:=⟨_,rfl⟩;rw[←Be]at G7;have HS:=hd8 Be;clear Be;have e0:=P7.at_;have e2:=P7.fa;have P8:PS w (wc.setCell (aD (w.heap.size+1) 0) (iV ((A4:Int)+(lg:Int)))) (.slice (some (aD b o)) N cap) N (A4+lg) Aa:=P7.setAt (by omega) (by omega);have G8:=G7.off (aG wc (aD (w.heap.size+1) 0) (iV ((A4:Int)+(lg:Int)))) (show¬wi.heap.size=w.heap.size+1 by omega);have V8:=V7.off (aG wc (aD (w.heap.size+1) 0) (iV ((A4:Int)+(lg:Int)))) (show¬p=w.heap.size+1 by omega);have B3:=Bp.off (aG wc (aD (w.heap.size+1) 0) (iV ((A4:Int)+(lg:Int)))) (fun y hy=>by have:=(A0 y hy).1;show¬y=w.heap.size+1;omega);have O8:=O7.set (p:=⟨w.heap.size+1,0,none⟩) (Or.inl rfl) (iV ((A4:Int)+(lg:Int)));have Af:wi.heap.size<(wc.setCell (aD (w.heap.size+1) 0) (iV ((A4:Int)+(lg:Int)))).heap.size:=by rw[Deep.nblk_setCell];exact Ax
         clear P7 G7 V7 Bp O7 Ax;go_upto_region 19 with fail
         clear e0 e2;generalize wc.setCell (aD (w.heap.size+1) 0) (iV ((A4:Int)+(lg:Int)))=wd at P8 G8 V8 B3 O8 Af⊢
         go_cut []from 34 to 72 (fun wc=> ∃(kd A6:Nat) (Ah:Bool),PS w wc (.slice (some (aD b o)) N cap) N A6 Ah∧mP wc wi.heap.size (.string S) (iV kd) (iV 0)∧dW wc p (iV c) ve∧cG wc (p+1) ve es∧Off (fun k=>k=w.heap.size+1∨k=w.heap.size+1+1) wo wc∧wi.heap.size<wc.heap.size∧
          ((Ah=true∧Aa=true∧A6=A4+lg+1∧A4+lg+1≤N∧kd=g (A4+lg))∨(Ah=false∧A6=N∧(Aa=true→N<A4+lg+1))))
         case first=>
          go_wp2_with fail;refine(HN 1 (A4+lg) Aa _ (by decide) P8).mono ?_;rintro e1 wN (⟨hA9,rfl,P9,O9⟩|⟨hA9,rfl,P9,O9⟩)
          ·have Bq:gA g (A4+lg) 1=g (A4+lg):=by
            show 256*0+g (A4+lg)=_;rw[d1U,c9G]
           have G9:=G8.off O9 (by omega);have V9:=V8.off O9 Ac;have An:=B3.off O9 (fun y hy=>by have:=(A0 y hy).1;omega);have A5:=c9P Af O9.size;have q1:=G9.c1;have q2:=G9.fr 1;go_wp2_with fail;go_meet
           refine⟨g (A4+lg),A4+lg+1,Aa,P9.keep ((Below.refl _ _).setCell (show w.heap.size+3≤wi.heap.size by omega) _),G9.set1 _,V9.off (aG _ _ _) (show¬p=wi.heap.size by omega),An.off (aG _ _ _) (fun y hy=>by have:=(A0 y hy).2;show¬y=wi.heap.size;omega),(O8.trans O9).past (aG _ _ _) (fun y hy Ad=>by have h1:y=wi.heap.size:=hy;omega),by rw[Deep.nblk_setCell];exact A5,?_⟩;rcases Am with⟨h1,h2,h3,h4⟩|⟨h1,h2,h3,h4⟩
           ·exact Or.inl ⟨h1,h1,rfl,hA9,rfl⟩
           ·omega
          ·have G9:=G8.off O9 (by omega);have V9:=V8.off O9 Ac;have An:=B3.off O9 (fun y hy=>by have:=(A0 y hy).1;omega);have A5:=c9P Af O9.size;have q1:=G9.c1;have q2:=G9.fr 1;go_wp2_with fail;go_meet
           exact⟨0,N,false,P9.keep ((Below.refl _ _).setCell (show w.heap.size+3≤wi.heap.size by omega) _),G9.set1 _,V9.off (aG _ _ _) (show¬p=wi.heap.size by omega),An.off (aG _ _ _) (fun y hy=>by have:=(A0 y hy).2;show¬y=wi.heap.size;omega),(O8.trans O9).past (aG _ _ _) (fun y hy Ad=>by have h1:y=wi.heap.size:=hy;omega),by rw[Deep.nblk_setCell];exact A5,Or.inr ⟨rfl,rfl,fun _=>hA9⟩⟩
         case rest=>
         obtain⟨kd,A6,Ah,P9,G9,V9,An,O9,A5,Bz⟩:=hcut;clear P8 G8 V8 B3 O8 Af;go_upto_region 20 with fail
         go_cut []from 34 to 72 (fun wc=> ∃(nm A7:Nat) (Aw:Bool),PS w wc (.slice (some (aD b o)) N cap) N A7 Aw∧mP wc wi.heap.size (.string S) (iV kd) (iV nm)∧dW wc p (iV c) ve∧cG wc (p+1) ve es∧Off (fun k=>k=w.heap.size+1∨k=w.heap.size+1+1) wo wc∧wi.heap.size<wc.heap.size∧
          ((Aw=true∧Ah=true∧A7=A6+3∧A6+3≤N∧nm=gA g A6 3)∨(Aw=false∧(Ah=true→N<A6+3))))
         case first=>
          go_wp2_with fail;refine(HN 3 A6 Ah _ (by decide) P9).mono ?_;rintro e1 wN (⟨hA9,rfl,P0,O0⟩|⟨hA9,rfl,P0,O0⟩)
          ·have G0:=G9.off O0 (by omega);have V0:=V9.off O0 Ac;have Ao:=An.off O0 (fun y hy=>by have:=(A0 y hy).1;omega);have Ae:=c9P A5 O0.size;have q1:=G0.c2;have q2:=G0.fr 2;obtain⟨nv,Bk⟩: ∃x,x=gA g A6 3:=⟨_,rfl⟩;rw[←Bk];have Ca:=hd8 Bk;clear Bk;go_wp2_with fail;go_meet
           refine⟨nv,A6+3,Ah,P0.keep ((Below.refl _ _).setCell (show w.heap.size+3≤wi.heap.size by omega) _),G0.set2 _,V0.off (aG _ _ _) (show¬p=wi.heap.size by omega),Ao.off (aG _ _ _) (fun y hy=>by have:=(A0 y hy).2;show¬y=wi.heap.size;omega),(O9.trans O0).past (aG _ _ _) (fun y hy Ad=>by have h1:y=wi.heap.size:=hy;omega),by rw[Deep.nblk_setCell];exact Ae,?_⟩;rcases Bz with⟨h1,h2,h3,h4,h5⟩|⟨h1,h2,h3⟩
           ·exact Or.inl ⟨h1,h1,rfl,hA9,Ca.out⟩
           ·omega
          ·have G0:=G9.off O0 (by omega);have V0:=V9.off O0 Ac;have Ao:=An.off O0 (fun y hy=>by have:=(A0 y hy).1;omega);have Ae:=c9P A5 O0.size;have q1:=G0.c2;have q2:=G0.fr 2;go_wp2_with fail;go_meet
           exact⟨0,N,false,P0.keep ((Below.refl _ _).setCell (show w.heap.size+3≤wi.heap.size by omega) _),G0.set2 _,V0.off (aG _ _ _) (show¬p=wi.heap.size by omega),Ao.off (aG _ _ _) (fun y hy=>by have:=(A0 y hy).2;show¬y=wi.heap.size;omega),(O9.trans O0).past (aG _ _ _) (fun y hy Ad=>by have h1:y=wi.heap.size:=hy;omega),by rw[Deep.nblk_setCell];exact Ae,Or.inr ⟨rfl,fun _=>hA9⟩⟩
         case rest=>
         obtain⟨nm,A7,Aw,P0,G0,V0,Ao,O0,Ae,Cg⟩:=hcut;clear P9 G9 V9 An O9 A5;have Bo:=hd8 (c7D hg Am Bz Cg HS.out);have Cd:S.size≤9223372036854775807:=by
          have h1:=a3G C0 lg;rw[←HS.out]at h1;have h2:=gE S;rw[h1,kI]at h2;omega
         obtain⟨i3,Cy,Bx⟩:=c9J.1 Tryz.infoEvent;simp only[Prod.mk.injEq]at Bx;obtain⟨B7,B8,Bb⟩:=Bx;obtain⟨g0,g1,g2,_⟩:=G0;have k1:=V0.c1;have bA:=aB8 wc (.cells #[.string S,iV kd,iV nm] 83);have HO:=(Ao.below bA).1;have VA:=V0.below bA;have cn:=eE wc #[.string S,iV kd,iV nm] 83;have Ct:p+1≤wc.heap.size:=by omega
         have sX:=c9E Ct bA.size;have Cn: ¬ve.ownBlock=some p:=fun h=>by have:=(A0 p h).1;omega
         go_wp2_with (at_builtin;refine wpList_append_own _ rfl (.tmp 68) (.tmp 70) 40 rfl (p+1) 83 i3 (.agg #[.string ByteArray.empty,iV 0,iV 0]) 3 32 underlying40 Cy B7 B8 Bb rfl (by decide) _ _ _ rfl HO (aD wc.heap.size 0) 1 1 [.string S,iV kd,iV nm] rfl rfl cn (by intro u hu;simp at hu;rcases hu with rfl|rfl|rfl<;>rfl) (by unfold maxLen;omega) (by omega) sX ?_;intro v7 w7 hown7 hgrow7 _;have Bi:=VA.off (cJ hgrow7) Cn;have k4:=Bi.c1;have k5:=Bi.fr 1;have Z7:=dB hown7 (Nat.le_add_left 1 _);obtain⟨g9,C9,rfl,D4,_⟩:=Z7);have OG:=(Off.of_below bA).trans (cJ hgrow7);have BG:Below (w.heap.size+3) wc w7:=OG.below P0.room (fun y hy=>by have:=(A0 y hy).1;omega);refine⟨⟨k+1,A7,Aw,_,es++[((S,((kd:Nat):Int),((nm:Nat):Int)):EvC)],by go_num,by omega,P0.keep (BG.setCell (show w.heap.size+3≤p by omega) _),Bi.set1 _,⟨?_,?_⟩,by rw[c9I];show es.length+1≤k+1;omega,(O0.past OG (fun y hy Ad=>by have:=(A0 y hy).1;omega)).past (aG _ _ _) (fun y hy Ad=>by have h1:y=p:=hy;omega),?_,?_⟩,by simp[intOf];omega⟩
         ·have h1:=bC hown7 (aG w7 (aD p 1) (.slice (some (aD g9 0)) (es.length+1) C9)) (fun y hy=>by have h2:=(hown7.lt y hy).1;show¬y=p;omega);rw[d0H,c9I];exact h1
         ·intro e he;rcases List.mem_append.1 he with he|he
          ·exact Ao.2 e he
          ·rw[d1Z]at he;rw[he];exact Cd
         ·intro h;rcases Bo.out with⟨_,_,h3⟩|⟨h1,_⟩
          ·omega
          ·rw[h]at h1;cases h1
         ·rcases Bo.out with⟨h1,h2,_⟩|⟨h1,h2⟩
          ·refine Or.inl ⟨h1,B5.1,?_⟩;rw[B5.2,show m-k=(m-(k+1))+1 by omega,b0F h2,c9U];rfl
          ·refine Or.inr ⟨h1,fun _=>?_⟩;rw[B5.2,show m-k=(m-(k+1))+1 by omega,zD h2]
       |false=>
        have HX:Hid (Evt.mI ((bl g N).drop A)=none):=uG Ay (by
         rcases Ap with⟨h,_⟩|⟨_,h⟩
         ·cases h
         ·exact h)
        clear Ap;go_wp2_with fail;go_meet
        exact⟨A3,false,ve,es,P5,V5,EB,O5,by omega,(fun h=>by cases h),Or.inr ⟨rfl,HX.out⟩⟩
      ·obtain rfl:k=m:=by omega
       have HX:=hd8 (b8B Ay Ap);clear Ap;go_wp2_with fail;go_meet
       exact⟨A3,A8,ve,es,P5,V5,EB,O5,by omega,(fun h=>by have:=Ab h;omega),HX.out⟩
    case rest=>
    obtain⟨A3,A8,ve,es,P6,V6,Aj,O6,Cm,Ab,Am⟩:=hcut;have Bj:=bC BB O6 (fun y hy=>by have:=(BB.lt y hy).1;omega);have Cq: ∀t,t∈L→cG wc (w.heap.size+3) t.2.1 t.2.2:=fun t ht=>(BE t ht).off O6 (fun y hy=>by have:=((BE t ht).1.lt y hy).1;omega);obtain⟨A9,C9,C2⟩:=Aj.evs.shape;rw[c9M]at C2;subst C2;obtain⟨k0,k1,_⟩:=V6;obtain⟨i2,Cj,Bw⟩:=c9J.1 Tryz.infoBatch;simp only[Prod.mk.injEq]at Bw;obtain⟨B7,B8,Bb⟩:=Bw;have bA:=aB8 wc (.cells #[iV c,.slice A9 es.length C9] 47);have HO:=aK Bj bA;have cn:=eE wc #[iV c,.slice A9 es.length C9] 47;have At:w.heap.size+3≤wc.heap.size:=P6.room;have sX:=c9E At bA.size;have Cw:(L.map pr).length=i:=by rw[c9M];exact Ar
    clear P4 V4 O4 Ay;go_wp2_with (at_builtin;go_loud (refine wpList_append_own _ rfl (.tmp 73) (.tmp 75) 26 rfl (w.heap.size+3) 47 i2 (.agg #[iV 0,nS]) 2 32 underlying26 Cj B7 B8 Bb rfl (by decide) _ _ _ rfl HO (aD wc.heap.size 0) 1 1 [iV c,.slice A9 es.length C9] rfl rfl cn (by intro u hu;simp at hu;rcases hu with rfl|rfl<;>rfl) (by unfold maxLen;omega) (by omega) sX ?_;intro v7 w7 hown7 hgrow7 _));have HG:=cJ hgrow7;have O7:=(Off.of_below bA).trans HG;refine⟨⟨i+1,by go_num,L++[((((c:Nat):Int),Value.slice A9 es.length C9,es):c6B)],A3,A8,?_,?_,?_,by omega,by rw[c9I,Ar];rfl,fun h=>?_,?_⟩,by simp[intOf];omega⟩
    ·show w7.ownsRow _ _ _ _ _ _;rw[c9U,d0H,c9I];exact hown7
    ·intro t ht;have kp: ∀(vv:Value) (ee:List EvC),cG wc (w.heap.size+3) vv ee→cG w7 (w.heap.size+3) vv ee:=fun vv ee hE=>hE.off O7 (fun y hy hu=>c3Q hE.1 Bj (by decide) y hy hu);rcases List.mem_append.1 ht with ht|ht
     ·exact kp _ _ (Cq t ht)
     ·rw[d1Z]at ht;subst ht;exact kp _ _ ⟨b8N Aj.1 (by have:=P2.room;omega),Aj.2⟩
    ·exact P6.keep (O7.below At (fun y hy=>(Bj.lt y hy).1))
    ·have h1:=Ab h;omega
    ·have Bt:n-i=(n-(i+1))+1:=by omega
     rcases Am with⟨h1,h2⟩|⟨h1,h2⟩
     ·refine Or.inl ⟨h1,?_⟩;rw[Ai,Bt,b2G h2,c9U];rfl
     ·refine Or.inr ⟨h1,?_⟩;rw[Ai,Bt,a9V h2]
   ·have B9: ¬(i:Int)<(n:Int):=by omega
    obtain rfl:i=n:=by omega
    have Ai:Evt.dZ i ((bl g N).drop 1)=some (L.map wD,(bl g N).drop A):=by
     rcases Al with⟨_,h⟩|⟨h,_⟩
     ·rw[h,d1L];show some (L.map wD++[],_)=_;rw[d0W]
     ·cases h
    have bz:=P2.bel;have Db:=P2.le;by_cases hA:A=N
    ·have C7:((A:Int) !=(N:Int))=false:=by rw[bne_eq_false_iff_eq];omega
     rw[hA,lV g (c9C N)]at Ai;have Ak:=hd8 (b6Y B4.out Ai)
     have B6:eU wr u7 (L.map wD):=BB.bats (by simp) (fun idx x y hx hy=>by
      rw[c9S]at hx hy;obtain⟨t,ht,rfl⟩:=c9J.1 hx;rw[ht]at hy;cases hy
      exact⟨rfl,(BE t (c9N ht)).evs⟩)
     have Bm:gY wr w.heap.size u7 (L.map wD):=(sT.batsM BB (by simp) (fun idx x y hx hy=>by
      rw[c9S]at hx hy;obtain⟨t,ht,rfl⟩:=c9J.1 hx;rw[ht]at hy;cases hy
      exact⟨rfl,(BE t (c9N ht)).evs,fun g hg=>((BE t (c9N ht)).1.lt g hg).1⟩)).lower (by omega)
     have C4:(L.map wD).length=i:=by rw[c9M];exact Ar
     obtain⟨wo,B0⟩: ∃x,x=wr:=⟨wr,rfl⟩;rw[←B0]at c0 c1 c2 bz B6 Bm⊢;clear Al BB BE P2 HN Ar hc hy Ai B0 hA;generalize L.map wD=l at Ak B6 Bm C4;subst C4;by_cases Av:150<l.length
     ·have Ce:(150:Int)<(l.length:Int):=by omega
      have HW:Hid (Evt.aF l=(5,0)):=if_pos Av;obtain⟨X,C,rfl,_⟩:=B6;go_wp2_with fail;go_ret2
      exact⟨_,by rw[Ak.out.1,HW.out];rfl,by rw[Ak.out.2,HW.out];exact eW _ _,bz⟩
     ·have Ce: ¬(150:Int)<(l.length:Int):=by omega
      have HW:Hid (Evt.aF l=Evt.gR l 0):=if_neg Av;have Cz:=hd8 Bm;obtain⟨X,C,rfl,Ci,Cf,hX⟩:=B6;clear Ci Cf;go_wp2_with fail;go_loopw [90] (fun x wl=> ∃k:Nat,k≤l.length∧x=iV k∧Hid (∀j,j<k→ ∃e,l[j]?=some e∧(Evt.aA e).1=0)∧Bl wo wl) (fun x _=>l.length-(intOf x).toNat)
      case atStart=>exact⟨0,c9D _,rfl,fun j hj=>absurd hj (c9L j),Below.refl _ _⟩
      case round=>
       obtain⟨k,hk,rfl,HS,Az⟩:=hrel;by_cases Ad:k<l.length
       ·have C8:(k:Int)<(l.length:Int):=by omega
        obtain⟨x,hx⟩: ∃x,l[k]?=some x:=⟨l[k],c9F Ad⟩;have HX:=hd8 hx;obtain⟨b2,o2,rfl,Cs⟩:=hX k x hx;obtain⟨ve,d0,d1,Bf⟩:=Cs.below Az;clear hX hx;obtain⟨A3,C3,rfl⟩:=Bf.shape;have bA:=aB8 wr (.cells #[iV x.cmd,.slice A3 x.evs.length C3] 47);have Aq:=lR x.cmd _ x.evs _ (Bf.below bA);have Bs:Hid (∀y,y=(Evt.aA ⟨x.cmd,x.evs⟩).1→y=(Evt.aA x).1):=fun y hy=>hy;generalize (Evt.aA ⟨x.cmd,x.evs⟩).2=E2 at Aq;obtain⟨E,hE⟩: ∃E,E=(Evt.aA ⟨x.cmd,x.evs⟩).1:=⟨_,rfl⟩;rw[←hE]at Aq;have HE:=hd8 (Bs.out E hE);clear hE Bs Bf;by_cases hz:E=0
        ·have HZ:=hd8 (HE.out.symm.trans hz);subst hz;go_wp2_with fail;refine Aq.mono ?_;rintro e w3 ⟨rfl,b3⟩;have b3:=bt bA b3;have b4:=b3.alloc b3.size (.cells #[iV 0,iV E2] 78);clear Aq;go_wp2_with fail;refine⟨⟨k+1,by omega,by go_num,fun j hj=>?_,bt Az b4⟩,by simp[intOf];omega⟩;by_cases e:j=k
         ·rw[e];exact⟨x,HX.out,HZ.out⟩
         ·exact HS.out j (by omega)
        ·have HF:Hid (Evt.gR l 0=(E,k)):=by
          show _=_;rw[Evt.o8 l k x HX.out (by rw[←HE.out];exact hz) HS.out,HE.out]
         have Cl:=hd8 hz;have C6:((E:Int)==0)=false:=by rw[beq_eq_false_iff_ne];omega
         have D8:((E:Int) !=0)=true:=by rw[bne,C6];rfl
         clear hz;go_wp2_with fail;refine Aq.mono ?_;rintro e w3 ⟨rfl,b3⟩;have b3:=bt bA b3;have b4:=b3.alloc b3.size (.cells #[iV E,iV E2] 78);clear Aq;go_wp2_with fail;go_quiet (fail)
         go_wp2_with fail;go_ret2
         refine⟨_,by rw[Ak.out.1,HW.out,HF.out];rfl,by rw[Ak.out.2,HW.out,HF.out,if_neg Cl.out];exact eW _ _,?_⟩;exact bdn (bt bz (bt Az b4)) _
       ·obtain rfl:k=l.length:=by omega
        have HZ:Hid (Evt.gR l 0=(0,0)):=Evt.lG l 0 (fun e he=>by
         obtain⟨j,hj,rfl⟩:=d1P.1 he;obtain⟨e',h1,h2⟩:=HS.out j hj;rw[c9F hj,Option.some.injEq]at h1;rw[h1]
         exact h2)
        clear hX;go_wp2_with fail;go_ret2
        exact⟨_,by rw[Ak.out.1,HW.out,HZ.out];rfl,by rw[Ak.out.2,HW.out,HZ.out,if_pos rfl];exact Cz.out.below Az,bt bz Az⟩
    ·have HZ:Hid (Evt.aM (bl g N)=2∧Evt.dD (bl g N)=[]):=b6H B4.out Ai (by rw[jF g (by omega)];exact List.cons_ne_nil _ _);have C7:((A:Int) !=(N:Int))=true:=by rw[bne_iff_ne];omega
     clear Al BB BE P2 HN Ar hc hy Ai;go_wp2_with fail;go_ret2
     exact⟨_,by rw[HZ.out.1];rfl,by rw[HZ.out.2];exact eW _ _,bz⟩
theorem a8L(X:Option Addr)(C:Nat)(g:Nat→Nat)(w:World):
  Calls prog 65 #[.slice X 0 C] w fun e w'=> ∃v',e=.returned (.tuple #[v',iV (Evt.aM (bl g 0):Nat)])∧gY w' w.heap.size v' (Evt.dD (bl g 0))∧Bl w w':=by
 rw[(vS g).1,(vS g).2];have eg:=Tryz.enters_num;have P0:PS w (((w.alloc (.cells #[.slice X 0 C] 59)).alloc (.cells #[iV 0] 3)).alloc (.cells #[.bool true] 4)) (.slice X 0 C) 0 0 true:=by
  refine⟨by go_simp,by go_simp,by go_simp,by go_simp,by go_simp,?_,c9D _⟩;have h1:=aB8 w (.cells #[.slice X 0 C] 59);have h2:=h1.alloc h1.size (.cells #[iV 0] 3);exact h2.alloc h2.size _
 have HN:=c2A X C w _ P0;clear P0;go_enter func65,ntmps65
 go_wp2_with fail;refine HN.mono ?_;rintro e w1 ⟨rfl,P1⟩;have c0:=P1.at_;have c1:=P1.b_;have c2:=P1.ok_;have bz:=P1.bel;clear HN P1;go_wp2_with fail;refine wp_loop_rounds 1 ?_;rw[rounds_succ];go_wp2_with fail;go_ret2
 exact⟨_,rfl,eW _ _,bz⟩
theorem a9Q(v:Value)(N:Nat)(g:Nat→Nat)(w:World)(h:cF w v N g):
  Calls prog 65 #[v] w fun e w'=> ∃v',e=.returned (.tuple #[v',iV (Evt.aM (bl g N):Nat)])∧gY w' w.heap.size v' (Evt.dD (bl g N))∧Bl w w':=by
 by_cases hN:1≤N
 ·obtain⟨b,o,A0,rfl,_⟩:=h.some hN;exact a5V b o A0 N g w h hN
 ·obtain rfl:N=0:=by omega
  obtain⟨X,C,rfl⟩:=h.zero;exact a8L X C g w
theorem Tryz.enters_add: ∀args w,(callFunc 63 args).run Tryz.prog w=.ok (.enter 63 args) w:=enters_of Tryz.func63 (by kernel_rfl) rfl
structure c7I(w wr:World)(N Q:Nat)(v y:Value)(es:List EvC)(l:List Evt.Bat)(k:Nat):Prop where
 ok: ∃es',cG wr N y es'∧es'.map aZ=es.map aZ++Sto.cE (l.take k)∧aW wr Q 40 [y]∧Off (fun k=>k=Q∨v.ownBlock=some k) w wr∧(y.ownBlock=v.ownBlock∨ ∀g,y.ownBlock=some g→w.heap.size≤g)
def c8U(e:Ending)(w w':World)(N Q:Nat)(v:Value)(l:List Evt.Ev):Prop:= ∃v' es',e=.returned (.tuple #[])∧cG w' N v' es'∧es'.map aZ=l∧aW w' Q 40 [v']∧Off (fun k=>k=Q∨v.ownBlock=some k) w w'
theorem yR(N Q:Nat)(v vb:Value)(es:List EvC)(l:List Evt.Bat)(w:World)(h:cG w N v es)(hQ:aW w Q 40 [v])(hN:N≤w.heap.size)(hB: ∀w',Off (fun k=>k=Q∨v.ownBlock=some k) w w'→eU w' vb l)(hne: ∀b,b∈l→1≤b.evs.length)(hsz:es.length+(Sto.cE l).length≤1000000):
  Calls prog 63 #[vb,.pointer (some (aD Q 0))] w fun e w'=>c8U e w w' N Q v (es.map aZ++Sto.cE l):=by
 have Aq:=hB w (Off.refl _ _);obtain⟨A,C,Ai,B1,Ah,_⟩:=Aq;have HB:Hid (∀w',Off (fun k=>k=Q∨v.ownBlock=some k) w w'→ ∀i x,l[i]?=some x→ ∃b o,A=some (aD b o)∧oV w' b (o+i*2) x):=fun w' ho i x hx=>by
  obtain⟨A',C',Af,_,_,hc⟩:=hB w' ho;rw[Ai]at Af;cases Af
  exact hc i x hx
 have Au:=hd8 hne;have B0:=hd8 hsz;have As:=mL8 Ah;subst Ai;have H0:Hid (∃y,c7I w w N Q v y es l 0):=⟨v,es,h,by rw[d2F];exact(d0W _).symm,hQ,Off.refl _ _,Or.inl rfl⟩;clear hB hne hsz h Ah hQ;go_enter func63,ntmps63
 go_wp2_with fail;go_loopw [7] (fun x wr=> ∃k:Nat,k≤l.length∧x=iV k∧Hid (∃y,c7I w wr N Q v y es l k)) (fun x _=>l.length-(intOf x).toNat)
 case atStart=>exact⟨0,c9D _,rfl,H0⟩
 case round=>
  obtain⟨k,hk,rfl,HS⟩:=hrel;by_cases Ar:k<l.length
  ·have Ap:(k:Int)<(l.length:Int):=by omega
   obtain⟨y,A4,hE,A0,hV,A1,A9⟩:=HS.out;obtain⟨x,hx⟩: ∃x,l[k]?=some x:=⟨l[k],c9F Ar⟩;obtain⟨b,o,rfl,ve,d0,d1,Ab⟩:=HB.out wr A1 k x hx;have Al:=Au.out x (c9N hx);have bA:=aB8 wr (.cells #[iV x.cmd,ve] 47);obtain⟨bb,oo,CC,rfl,Aw,B2,_⟩:=Ab.some Al;obtain⟨xs,Ac,Aj,Ag⟩:=uX (Ab.below bA);have Ao:xs.length=x.evs.length:=by rw[←Ac,c9M]
   have Ad:A4.length=es.length+(Sto.cE (l.take k)).length:=by
    have:=congrArg List.length A0;rw[c9M,c9I,c9M]at this;exact this
   have Ak:=pL l (k+1);rw[mZ hx,c9I]at Ak;have Az:=B0.out;obtain⟨v',w',A2,A8,A3,A7⟩:=a4D (wr.alloc (.cells #[iV x.cmd,.slice (some (aD bb oo)) x.evs.length CC] 47)) N y A4 xs (hE.below bA) (c9E hN (c9E A1.size bA.size)) (aD bb oo) CC (Ag _ _ rfl) Aj (by omega);rw[Ao]at A2;have An:=fun e=>(aU hE.1 e).ne hV.ty (by decide) rfl;have Aa:=hV.below bA;have A5:=Aa.off A3 An;have A6:=fun e=>(aU A8.1 e).ne A5.ty (by decide) rfl;have Am:=A5.set 0 v' (show 0<1 by decide);have At:Hid (∃y,c7I w (w'.setCell (aD Q 0) v') N Q v y es l (k+1)):=by
    have Ae:=aG w' (aD Q 0) v';have Ax:cG (w'.setCell (aD Q 0) v') N v' (A4++xs):=A8.off Ae fun g hg e=>by subst e;exact A6 hg
    refine⟨v',A4++xs,Ax,by rw[c9U,A0,Ac,mZ hx,c9X],Am,?_,?_⟩
    ·refine(((A1.trans (Off.of_below bA)).past A3 fun q hq hql=>?_).past Ae fun q hq _=>Or.inl hq);rcases A9 with z|z
     ·rw[z]at hq;exact Or.inr hq
     ·have:=z q hq;omega
    ·rcases A7 with z|z
     ·rcases A9 with z1|z1
      ·exact Or.inl (z.trans z1)
      ·exact Or.inr fun g hg=>z1 g (z▸hg)
     ·refine Or.inr fun g hg=>?_;rw[z]at hg;cases hg
      exact c9E A1.size bA.size
   have c0:=Aa.q0;have c1:=A5.q0;have f1:=A5.frozen 0;have VB:=aO wr 47 (iV x.cmd) (.slice (some (aD bb oo)) x.evs.length CC);obtain⟨e0,e1,_⟩:=VB;obtain⟨m,hm⟩: ∃m,m=x.evs.length:=⟨_,rfl⟩;rw[←hm]at A2 d1 Aw e1 c0;rw[←hm]at e0;obtain⟨Ay,ny,Cy,rfl⟩: ∃A n C,y=.slice A n C:=by
    obtain⟨A,C,h,_⟩:=bI hE.1;exact⟨A,_,C,h⟩
   obtain⟨Av,nv,Cv,rfl⟩: ∃A n C,v'=.slice A n C:=by
    obtain⟨A,C,h,_⟩:=bI A8.1;exact⟨A,_,C,h⟩
   clear HS hE A0 A1 A9 hx Ab Ac Aj Ag Ao Ad Ak Az A8 A3 A7 bA Al hm hV Aa A5 Am An A6;go_wp2_with (at_builtin;refine Lib.wpList_append_run _ rfl _ _ _ _ rfl _ _ rfl rfl _ _ A2 ?_);exact⟨⟨k+1,by omega,by go_num,At⟩,by simp[intOf];omega⟩
  ·obtain rfl:k=l.length:=by omega
   have HF:Hid (c8U (.returned (.tuple #[])) w wr N Q v (es.map aZ++Sto.cE l)):=by
    obtain⟨y,A4,hE,A0,hV,A1,A9⟩:=HS.out;rw[d0L]at A0;exact⟨y,A4,rfl,hE,A0,hV,A1⟩
   clear HS;go_wp2_with fail;go_end0
   exact HF.out
structure c7L(X:Sto.Six)(c:Sto.Cfg)(ds:List Sto.aL)(n:Nat)(w wr:World)(Q k:Nat):Prop where
 ok: ∃y es,cG wr (w.heap.size) y es∧aW wr Q 40 [y]∧Bl w wr∧es.length≤k*2550∧Sto.jA X c ds n 0 []=Sto.jA X c ds (n-k) k (es.map aZ)
theorem b0N{c:Sto.Cfg}(h:WfJ c s):(Sto.cE s.tail).length≤2550∧ ∀b,b∈s.tail→1≤b.evs.length:=by
 refine⟨?_,fun b hb=>(Evt.bN (h.bats b hb)).2.2.1⟩;have h1:=h.tail;have h2:=h.b10;have A0: ∀r:List Evt.Bat,(∀b,b∈r→b.evs.length≤10)→(Sto.cE r).length≤r.length*10:=by
  intro r;induction r with
  |A1=>intro _;simp[Sto.cE]
  |cons x r ih=>
   intro hr;have h3:=hr x c9W;have h4:=ih fun b hb=>hr b (c9Y _ hb);have e:Sto.cE (x::r)=x.evs++Sto.cE r:=by simp[Sto.cE]
   rw[e,c9I,d0E,d0F];omega
 have:=A0 s.tail fun b hb=>(Evt.bN (h.bats b hb)).2.2.2.1;omega
abbrev stC(c:Sto.Cfg)(vd:Value)(s:Sto.St)(vt vs va:Value):Value:=stA c.d c.s c.b vd s.segs vt vs s.u va
theorem fX{l:List Evt.Bat}(h:eU w v l): ∃A n C,v=.slice A n C:=by
 obtain⟨A,C,hv,_⟩:=h;exact⟨A,_,C,hv⟩
theorem gV{l:List Int}(h:Nms w v l): ∃A n C,v=.slice A n C:=by
 obtain⟨A,C,hv,_⟩:=h;exact⟨A,_,C,hv⟩
theorem dT{l:List Vw.Acc}(h:bJ w v l): ∃A n C,v=.slice A n C:=by
 obtain⟨A,C,hv⟩:=h.shape;exact⟨A,_,C,hv⟩
theorem iZ{l:List Sto.aL}(h:Dks w v l): ∃A n C,v=.slice A n C:=by
 obtain⟨A,C,hv,_⟩:=h;exact⟨A,_,C,hv⟩
theorem rJ(hX:Sto.dE X)(c:Sto.Cfg)(s:Sto.St)(vd vt vs va:Value)(w:World)(h:jT w vd vt vs va s)(hw:WfJ c s):
  Calls prog 33 #[stC c vd s vt vs va] w fun e w'=>a6V e w' w.heap.size (Sto.all X c s)∧Bl w w':=by
 have Br:=hd8 h.tl;have Bk:=hd8 h.dk;have Ax:Hid ((∃A n C,vt=.slice A n C)∧(∃A n C,vs=.slice A n C)∧ ∃A n C,va=.slice A n C):=⟨fX h.tl,gV h.sn,dT h.ac⟩;obtain⟨Ad,nd,Cd,rfl⟩:=iZ h.dk;obtain⟨At,nt,Ct,rfl⟩:=fX h.tl;obtain⟨As,ns,Cs,rfl⟩:=gV h.sn;obtain⟨Aa,na,Ca,rfl⟩:=dT h.ac;obtain⟨n,hn⟩: ∃n,n=s.segs:=⟨_,rfl⟩;obtain⟨uU,B8⟩: ∃uU,uU=s.u:=⟨_,rfl⟩;have Bt:n≤40:=by rw[hn];exact hw.segs
 have Ay:=hd8 hw.n12;have HX:Hid (Sto.dE X):=hX;have B7:=b0N hw;have B1:=hd8 B7;have HA:Hid (Sto.all X c s=if (Sto.jA X c s.disks n 0 []).1≠0 then((Sto.jA X c s.disks n 0 []).1,[])else(0,(Sto.jA X c s.disks n 0 []).2++Sto.cE s.tail)):=by
  show Sto.all X c s=_;rw[hn];rfl
 have eg:=Tryz.enters_add;change Calls prog 33 #[stA c.d c.s c.b (.slice Ad nd Cd) s.segs (.slice At nt Ct) (.slice As ns Cs) s.u (.slice Aa na Ca)] w _;rw[←hn,←B8];obtain⟨w1,B3⟩: ∃q,q=w.alloc (.cells #[iV c.d,iV c.s,iV c.b,.slice Ad nd Cd,iV n,.slice At nt Ct,.slice As ns Cs,iV uU,.slice Aa na Ca] 32):=⟨_,rfl⟩;have b1:=aB8 w (.cells #[iV c.d,iV c.s,iV c.b,.slice Ad nd Cd,iV n,.slice At nt Ct,.slice As ns Cs,iV uU,.slice Aa na Ca] 32);have V1:=aC w #[iV c.d,iV c.s,iV c.b,.slice Ad nd Cd,iV n,.slice At nt Ct,.slice As ns Cs,iV uU,.slice Aa na Ca] 32;rw[←B3]at b1 V1;have bQ:=aB8 w1 (.cells #[nS] 40);have VQ:=aC w1 #[nS] 40;have H0:Hid (c7L X c s.disks n w (w1.alloc (.cells #[nS] 40)) w1.heap.size 0):=⟨_,[],cG.nil _ _,VQ,bt b1 bQ,c9D _,rfl⟩;have Be:=hd8 (V1.below bQ);have B2:=aY.lt V1;clear h hw hX B7 b1 V1 bQ VQ hn B8;go_enter func33,ntmps33
 go_upto_region 1 with fail
 rw[←B3];clear B3;go_upto_region 2 with fail
 obtain⟨w2,Bf⟩: ∃q,q=w1.alloc (.cells #[nS] 40):=⟨_,rfl⟩;rw[←Bf]at H0 Be⊢;obtain⟨Q,hQ⟩: ∃q,q=w1.heap.size:=⟨_,rfl⟩;rw[←hQ]at H0 B2⊢;clear Bf hQ;go_wp2_with fail;go_loopw [6] (fun x wr=> ∃k:Nat,k≤n∧x=iV k∧Hid (c7L X c s.disks n w wr Q k)∧Hid (aW wr w.heap.size 32 [iV c.d,iV c.s,iV c.b,.slice Ad nd Cd,iV n,.slice At nt Ct,.slice As ns Cs,iV uU,.slice Aa na Ca])) (fun x _=>n-(intOf x).toNat)
 case atStart=>exact⟨0,c9D _,rfl,H0,Be⟩
 case round=>
  obtain⟨k,hk,rfl,HR,HP⟩:=hrel;obtain⟨y,es,hE,Aj,hb,Bb,Au⟩:=HR.out.ok;have c4:=HP.out.q4;by_cases Bw:k<n
  ·have Bj:(k:Int)<(n:Int):=by omega
   obtain⟨m,hm⟩: ∃m,n-k=m+1:=⟨n-k-1,by omega⟩;have B5:=fun w' (hS:((w'.cell? (aD w.heap.size 0)=some (iV c.d)∧w'.cell? (aD w.heap.size 1)=some (iV c.s)∧w'.cell? (aD w.heap.size 2)=some (iV c.b)∧w'.cell? (aD w.heap.size 3)=some (.slice Ad nd Cd)∧w'.cell? (aD w.heap.size 4)=some (iV n)∧w'.cell? (aD w.heap.size 5)=some (.slice At nt Ct)∧w'.cell? (aD w.heap.size 6)=some (.slice As ns Cs)∧w'.cell? (aD w.heap.size 7)=some (iV uU)∧w'.cell? (aD w.heap.size 8)=some (.slice Aa na Ca))∧Bl wr w'))=>rE c.d c.s c.b (n:Int) uU (.slice Ad nd Cd) (.slice At nt Ct) (.slice As ns Cs) (.slice Aa na Ca) s.disks (k:Int) w' (Bk.out.below (bt hb hS.2)) Ay.out Ax.out.1 Ax.out.2.1 Ax.out.2.2;have Aq: ∀w',Bl wr w'→((w'.cell? (aD w.heap.size 0)=some (iV c.d)∧w'.cell? (aD w.heap.size 1)=some (iV c.s)∧w'.cell? (aD w.heap.size 2)=some (iV c.b)∧w'.cell? (aD w.heap.size 3)=some (.slice Ad nd Cd)∧w'.cell? (aD w.heap.size 4)=some (iV n)∧w'.cell? (aD w.heap.size 5)=some (.slice At nt Ct)∧w'.cell? (aD w.heap.size 6)=some (.slice As ns Cs)∧w'.cell? (aD w.heap.size 7)=some (iV uU)∧w'.cell? (aD w.heap.size 8)=some (.slice Aa na Ca))∧Bl wr w'):=fun w' hb'=>by
    have V:=HP.out.below hb';exact⟨⟨V.q0,V.q1,V.q2,V.q3,V.q4,V.q5,V.q6,V.q7,V.q8⟩,hb'⟩
   have TD:=Aq wr.drew (Below.refl _ _).drew;have B9: ∀w',((w'.cell? (aD w.heap.size 0)=some (iV c.d)∧w'.cell? (aD w.heap.size 1)=some (iV c.s)∧w'.cell? (aD w.heap.size 2)=some (iV c.b)∧w'.cell? (aD w.heap.size 3)=some (.slice Ad nd Cd)∧w'.cell? (aD w.heap.size 4)=some (iV n)∧w'.cell? (aD w.heap.size 5)=some (.slice At nt Ct)∧w'.cell? (aD w.heap.size 6)=some (.slice As ns Cs)∧w'.cell? (aD w.heap.size 7)=some (iV uU)∧w'.cell? (aD w.heap.size 8)=some (.slice Aa na Ca))∧Bl wr w')→Bl wr w':=fun w' hS=>hS.2;have Ae:Hid (Sto.jA X c s.disks n 0 []=if (X.read (Sto.aJ s.disks k) k c).1≠0 then((X.read (Sto.aJ s.disks k) k c).1,[])else if Evt.aM (X.read (Sto.aJ s.disks k) k c).2≠0 then(Evt.aM (X.read (Sto.aJ s.disks k) k c).2,[])else Sto.jA X c s.disks m (k+1) (es.map aZ++Sto.cE (Evt.dD (X.read (Sto.aJ s.disks k) k c).2))):=by
    show Sto.jA X c s.disks n 0 []=_;rw[Au,hm,Sto.jA]
   have Ap:Hid (∀v' w',BlL w' v' (Sto.aJ s.disks (k:Int))→Calls prog 64 #[v',iV k,iV c.d] w' fun e w2=> ∃v2,e=.returned (.tuple #[v2,iV ((X.read (Sto.aJ s.disks (k:Int)) k c).1:Nat)])∧cW w2 v2 (X.read (Sto.aJ s.disks (k:Int)) k c).2∧Bl w' w2):=fun v' w' hL=>a2K HX.out v' _ k c w' hL;generalize (X.read (Sto.aJ s.disks (k:Int)) k c).1=x at Ae Ap;generalize (X.read (Sto.aJ s.disks (k:Int)) k c).2=r at Ae Ap;have Bn:Hid (n-(k+1)=m):=show n-(k+1)=m by omega
   clear Au hm;go_upto_region 6 with fail
   go_region_held3 (fun w'=>((w'.cell? (aD w.heap.size 0)=some (iV c.d)∧w'.cell? (aD w.heap.size 1)=some (iV c.s)∧w'.cell? (aD w.heap.size 2)=some (iV c.b)∧w'.cell? (aD w.heap.size 3)=some (.slice Ad nd Cd)∧w'.cell? (aD w.heap.size 4)=some (iV n)∧w'.cell? (aD w.heap.size 5)=some (.slice At nt Ct)∧w'.cell? (aD w.heap.size 6)=some (.slice As ns Cs)∧w'.cell? (aD w.heap.size 7)=some (iV uU)∧w'.cell? (aD w.heap.size 8)=some (.slice Aa na Ca))∧Bl wr w'))
    (first|A1 exact TD|A1 A0)
    (first|(go_at_call 38;refine(B5 _ (by A0)).mono ?_;rintro e1 w1 ⟨v1,rfl,Bp,b1⟩;have S1:=Aq w1 (bt (B9 _ (by A0)) b1))|(go_at_call 64;refine(Ap.out _ _ (by A0)).mono ?_;rintro e2 w2 ⟨v2,rfl,An,b2⟩;have S2:=Aq w2 (bt S1.2 b2)))
   have Av:=S2.2;have Al:=hE.below Av;have A7:=Aj.below Av;have B6:=hd8 (HP.out.below Av);have Az:=bt hb Av;clear S1 S2 TD B5 Ap b1 b2 Bp Aq B9 HR HP hE Aj hb c4;by_cases hx:x=0
   case neg=>
    have HF:Hid (Sto.all X c s=(x,[])):=by
     show Sto.all X c s=(x,[]);have e1:Sto.jA X c s.disks n 0 []=(x,[]):=by rw[Ae.out,if_pos hx]
     rw[HA.out,e1];exact if_pos hx
    have Bx:((x:Int) !=0)=true:=by rw[bne_iff_ne];omega
    obtain⟨A2,C2,rfl⟩:=An.byts.shape;clear hx An Al A7;go_wp2_with fail;go_ret2
    exact⟨by rw[HF.out];exact sI _ _ _,Az⟩
   case pos=>
    subst hx;have Am:=a9Q v2 r.length (fun j=>r.getD j 0) w2 An.byts;rw[Sto.b2W]at Am;have Ba:Evt.aM r=0→(Evt.aF (Evt.dD r)).1=0:=a8S;obtain⟨A2,C2,rfl⟩:=An.byts.shape;obtain⟨y9,hy⟩: ∃y9,Evt.aM r=y9:=⟨_,rfl⟩;have HY:=hd8 hy;rw[hy]at Am;clear hy An;go_wp2_with fail;refine Am.mono ?_;rintro e3 w3 ⟨v3,rfl,Ak,b3⟩;by_cases Ao:y9=0
    case neg=>
     have HF:Hid (Sto.all X c s=(y9,[])):=by
      show Sto.all X c s=(y9,[]);have e1:Sto.jA X c s.disks n 0 []=(y9,[]):=by rw[Ae.out,if_neg (fun z=>z rfl),HY.out,if_pos Ao]
      rw[HA.out,e1];exact if_pos Ao
     have Bv:((y9:Int) !=0)=true:=by rw[bne_iff_ne];omega
     obtain⟨A3,C3,A8⟩: ∃A C,v3=.slice A (Evt.dD r).length C:=by
      obtain⟨A3,C3,A8,_⟩:=Ak;exact⟨A3,C3,A8⟩
     subst A8;have Ai:=bt Az b3;clear Ao Ak Am Al A7;go_wp2_with fail;go_ret2
     exact⟨by rw[HF.out];exact sI _ _ _,Ai⟩
    case pos=>
     subst Ao;obtain⟨Bi,Bc⟩:=tA (Ba HY.out);have Ar:=Al.below b3;have Af:=A7.below b3;have B4:es.length+(Sto.cE (Evt.dD r)).length≤(k+1)*2550:=by
      rw[d0F];omega
     have Ai:=bt Az b3;have B0:(k+1)*2550≤40*2550:=d1J _ (by omega);have Bs:Q<w2.heap.size:=aY.lt A7
     have Ac:=yR w.heap.size Q y v3 es (Evt.dD r) w3 Ar Af Ai.size (fun w' ho=>(Ak.off ho fun q hq=>by
      rcases hq with z|z
      ·rw[z];exact Bs
      ·exact(Al.1.lt q z).2).bats) Bc (by omega)
     have A6: ∀w4,Off (fun q=>q=Q∨y.ownBlock=some q) w3 w4→Below w.heap.size w3 w4:=fun w4 ho=>ho.below Ai.size fun q hq=>by
      rcases hq with z|z
      ·rw[z];exact d2B B2
      ·exact(Ar.1.lt q z).1
     have Bo:Hid (∀v4 A5 w4,cG w4 w.heap.size v4 A5→A5.map aZ=es.map aZ++Sto.cE (Evt.dD r)→aW w4 Q 40 [v4]→Off (fun q=>q=Q∨y.ownBlock=some q) w3 w4→c7L X c s.disks n w w4 Q (k+1)):=fun v4 A5 w4 q1 q2 q3 q4=>by
      refine⟨v4,A5,q1,q3,Ai.trans (A6 w4 q4),?_,?_⟩
      ·have:=congrArg List.length q2;rw[c9M,c9I,c9M]at this;omega
      ·rw[Ae.out,if_neg (fun z=>z rfl),if_neg (fun z=>z HY.out),q2,Bn.out]
     have Aw:=B6.out.below b3;have Bq:Hid (∀w4,Off (fun q=>q=Q∨y.ownBlock=some q) w3 w4→aW w4 w.heap.size 32 [iV c.d,iV c.s,iV c.b,.slice Ad nd Cd,iV n,.slice At nt Ct,.slice As ns Cs,iV uU,.slice Aa na Ca]):=fun w4 ho=>Aw.off ho fun z=>by
      rcases z with z|z
      ·omega
      ·exact(aU Ar.1 z).ne Aw.ty (by decide) rfl
     obtain⟨A3,C3,A8⟩: ∃A C,v3=.slice A (Evt.dD r).length C:=by
      obtain⟨A3,C3,A8,_⟩:=Ak;exact⟨A3,C3,A8⟩
     subst A8;clear Ak Am Al Ar B4 Bi Bc B0 Ba Bb A7 Af Aw B6 A6;go_wp2_with fail;refine Ac.mono ?_;rintro e4 w4 ⟨v4,A5,rfl,Ab,Ag,Ah,A9⟩;have Bh:=hd8 (Bo.out v4 A5 w4 Ab Ag Ah A9);have Bm:=hd8 (Bq.out w4 A9);clear Ac Ab Ag A9 Ah;go_wp2_with fail;exact⟨⟨k+1,by omega,by go_num,Bh,Bm⟩,by simp[intOf];omega⟩
  ·obtain rfl:k=n:=by omega
   have c5:=HP.out.q5;have B0:k*2550≤40*2550:=d1J _ (by omega);obtain⟨t1,t2⟩:=B1.out;have Bu:=aY.lt Aj;have A6: ∀w4,Off (fun q=>q=Q∨y.ownBlock=some q) wr w4→Below w.heap.size wr w4:=fun w4 ho=>ho.below hb.size fun q hq=>by
    rcases hq with z|z
    ·rw[z];exact d2B B2
    ·exact(hE.1.lt q z).1
   have Ac:=yR w.heap.size Q y (.slice At nt Ct) es s.tail wr hE Aj hb.size (fun w' ho=>Br.out.below (hb.trans (A6 w' ho))) t2 (by omega);have HF:Hid (∀v4 A5 w4,cG w4 w.heap.size v4 A5→A5.map aZ=es.map aZ++Sto.cE s.tail→Off (fun q=>q=Q∨y.ownBlock=some q) wr w4→a6V (.returned (.tuple #[v4,iV 0])) w4 w.heap.size (Sto.all X c s)∧Bl w w4):=fun v4 A5 w4 q1 q2 q3=>by
    have e1:Sto.jA X c s.disks k 0 []=(0,es.map aZ):=by
     rw[Au,d1L];rfl
    have e2:Sto.all X c s=(0,es.map aZ++Sto.cE s.tail):=by
     rw[HA.out,e1];rfl
    refine⟨?_,hb.trans (A6 w4 q3)⟩;rw[e2];refine⟨v4,A5,rfl,q2,q1,?_⟩;have:=congrArg List.length q2;rw[c9M,c9I,c9M]at this;omega
   clear HR HP hE Aj hb Bb Au B0 t1 t2 A6;go_wp2_with fail;refine Ac.mono ?_;rintro e4 w4 ⟨v4,A5,rfl,Ab,Ag,Ah,A9⟩;have Bg:=hd8 (HF.out v4 A5 w4 Ab Ag A9);have q0:=Ah.q0;obtain⟨A4,n4,C4,rfl⟩: ∃A n C,v4=.slice A n C:=by
    obtain⟨A,C,h,_⟩:=bI Ab.1;exact⟨A,_,C,h⟩
   clear Ac HF Ab Ag A9 Ah;go_wp2_with fail;go_ret2
   exact Bg.out
abbrev c6F(a:Sto.Ans)(ve va:Value):Value:=.agg #[iV a.err,iV a.n,ve,iV a.vu,va]
abbrev m7:Array Value:=#[iV 0,iV 0,nS,iV 0,nS]
def lP(v:Value):Prop:= ∀A n C,v=.slice A n C→(A=none→C=0)∧ ∀a,A=some a→a.spot=none
theorem b1I:lP nS:=fun A n C e=>by
 cases e
 exact⟨fun _=>rfl,fun a e=>by cases e⟩
theorem b2E{z:Nat}(h:w.ownsRow N t z v n xs):lP v:=fun A n' C e=>by
 rcases h.2 with⟨rfl,_⟩|⟨g,cap,cur,rfl,_⟩
 ·cases e
  exact⟨fun _=>rfl,fun a e=>by cases e⟩
 ·cases e
  exact⟨(fun e=>by cases e),(fun a e=>by cases e;rfl)⟩
def dL(e:Ending)(T:Nat→Bool)(w w':World)(c:Sto.Cfg)(r:Sto.St×Sto.Ans):Prop:= ∃vd vt vs va ve vl,e=.returned (.tuple #[stC c vd r.1 vt vs va,c6F r.2 ve vl])∧jT (aS T w') vd vt vs va r.1∧Evs (aS T w') ve r.2.evs∧bJ (aS T w') vl r.2.vl∧lP vs∧Bl w w'
theorem kA(w:World):Evs w nS []:=tX w none 0 (c9D _)
theorem zG{c:Sto.Cfg}(h:jT (aS T w) vd vt vs va s)(hp:lP vs)(hb:Bl w w'){a:Sto.Ans}(he:Evs (aS T w') ve a.evs)(hl:bJ (aS T w') vl a.vl):dL (.returned (.tuple #[stC c vd s vt vs va,c6F a ve vl])) T w w' c (s,a):=
 ⟨vd,vt,vs,va,_,_,rfl,h.sub (cQ hb),he,hl,hp,hb⟩
theorem a7X{c:Sto.Cfg}(h:jT (aS T w) vd vt vs va s)(hp:lP vs)(hb:Bl w w')(E:Nat)(n:Int):dL (.returned (.tuple #[stC c vd s vt vs va,c6F ⟨E,n,[],0,[]⟩ nS nS])) T w w' c (s,⟨E,n,[],0,[]⟩):=
 zG h hp hb (kA _) (bJ.nil _)
def uH(w:World)(P:Nat)(t:TypeId)(cs:Array Value):Prop:=w.heap[P]?=some (.cells cs t)
theorem l5(w:World)(cs:Array Value)(t:TypeId):uH (w.alloc (.cells cs t)) w.heap.size t cs:=heap_alloc_new w _
theorem uH.lt{cs:Array Value}(h:uH w P t cs):P<w.heap.size:=(d1M.1 h).1
theorem uH.off{cs:Array Value}(h:uH w P t cs)(ho:Off S w w')(hS: ¬S P):uH w' P t cs:=(ho.block P h.lt hS).trans h
theorem uH.below{cs:Array Value}(h:uH w P t cs)(hb:Bl w w'):uH w' P t cs:=(hb.block P h.lt).trans h
theorem uH.var{cs:Array Value}(h:uH w P t cs):aW w P t cs.toList:=⟨cs.size,fun j=>cs.getD j nS,⟨cs,h,rfl,fun i hi=>by simp[hi]⟩,by simp,fun j hj=>by
 have hj:j<cs.size:=by simpa using hj
 simp[List.getD,Array.getD,hj]⟩
theorem Tryz.enters_noP: ∀args w,(callFunc 58 args).run Tryz.prog w=.ok (.enter 58 args) w:=enters_of Tryz.func58 (by kernel_rfl) rfl
theorem Tryz.enters_noS: ∀args w,(callFunc 31 args).run Tryz.prog w=.ok (.enter 31 args) w:=enters_of Tryz.func31 (by kernel_rfl) rfl
theorem noB(h:Bl w w2)(hP:w.heap.size≤P)(hQ:w.heap.size≤Q)(a b c d e f g i j k l m n o:Value):Bl w ((((((((((((((w2.setCell (aD P 0) a).setCell (aD P 1) b).setCell (aD P 2) c).setCell (aD P 3) d).setCell (aD P 4) e).setCell (aD P 5) f).setCell (aD P 6) g).setCell (aD P 7) i).setCell (aD P 8) j).setCell (aD Q 0) k).setCell (aD Q 1) l).setCell (aD Q 2) m).setCell (aD Q 3) n).setCell (aD Q 4) o):=
 (h.trans ((fC w2 P a b c d e f g i j).below h.size fun q e=>by omega)).trans ((aT _ Q k l m n o).below (c9E h.size (fC w2 P a b c d e f g i j).size) fun q e=>by omega)
theorem tI(P:Nat)(E:Nat)(x y z g u:Int)(Ad:Option Addr)(nd Cd:Nat)(At:Option Addr)(nt Ct:Nat)(As:Option Addr)(ns Cs:Nat)(Aa:Option Addr)(na Ca:Nat)(w:World)(h:aW w P 32 [iV x,iV y,iV z,.slice Ad nd Cd,iV g,.slice At nt Ct,.slice As ns Cs,iV u,.slice Aa na Ca]):
  Calls prog 58 #[iV E,.pointer (some (aD P 0))] w fun e w'=>e=.returned (.tuple #[stA x y z (.slice Ad nd Cd) g (.slice At nt Ct) (.slice As ns Cs) u (.slice Aa na Ca),.agg #[iV E,iV 0,nS,iV 0,nS]])∧Bl w w':=by
 have b1:=aB8 w (.cells jR 32);have b2:=b1.alloc b1.size (.cells m7 42);have V:=h.below b2;have a0:=V.q0;have a1:=V.q1;have a2:=V.q2;have a3:=V.q3;have a4:=V.q4;have a5:=V.q5;have a6:=V.q6;have a7:=V.q7;have a8:=V.q8;have X1:=((l5 w jR 32).below ((Below.refl _ _).alloc (c9C _) (.cells m7 42))).var;have X2:=(l5 (w.alloc (.cells jR 32)) m7 42).var;have A0:=d2K _;rw[A0]at X2;have d0:=X1.q0;have d1:=X1.q1;have d2:=X1.q2;have d3:=X1.q3;have d4:=X1.q4;have d5:=X1.q5;have d6:=X1.q6;have d7:=X1.q7;have d8:=X1.q8;have f0:=X1.frozen 0;have f1:=X1.frozen 1;have f2:=X1.frozen 2;have f3:=X1.frozen 3;have f4:=X1.frozen 4;have f5:=X1.frozen 5;have f6:=X1.frozen 6;have f7:=X1.frozen 7;have f8:=X1.frozen 8;have k0:=X2.q0;have k1:=X2.q1;have k2:=X2.q2;have k3:=X2.q3;have k4:=X2.q4;have l0:=X2.frozen 0;have l1:=X2.frozen 1;have l2:=X2.frozen 2;have l3:=X2.frozen 3;have l4:=X2.frozen 4;clear h V X1 X2 A0 b1;go_enter func58,ntmps58
 go_upto_region 1 with fail
 generalize (w.alloc (.cells jR 32)).alloc (.cells m7 42)=w2 at*;go_wp2_with fail;exact bodyPost_ret (by simp[results,results58,go_sem,d0,d1,d2,d3,d4,d5,d6,d7,d8,k0,k1,k2,k3,k4]) rfl ⟨rfl,noB b2 (c9C _) (c9O _) _ _ _ _ _ _ _ _ _ _ _ _ _ _⟩
theorem eL(P:Nat)(E:Nat)(x y z g u:Int)(Ad:Option Addr)(nd Cd:Nat)(At:Option Addr)(nt Ct:Nat)(As:Option Addr)(ns Cs:Nat)(Aa:Option Addr)(na Ca:Nat)(w:World)(h:aW w P 32 [iV x,iV y,iV z,.slice Ad nd Cd,iV g,.slice At nt Ct,.slice As ns Cs,iV u,.slice Aa na Ca]):
  Calls prog 31 #[iV E,.pointer (some (aD P 0))] w fun e w'=>e=.returned (.tuple #[stA x y z (.slice Ad nd Cd) g (.slice At nt Ct) (.slice As ns Cs) u (.slice Aa na Ca),.agg #[iV E,iV 0,nS,iV 0,nS]])∧Bl w w':=by
 have b1:=aB8 w (.cells jR 32);have b2:=b1.alloc b1.size (.cells m7 42);have V:=h.below b2;have a0:=V.q0;have a1:=V.q1;have a2:=V.q2;have a3:=V.q3;have a4:=V.q4;have a5:=V.q5;have a6:=V.q6;have a7:=V.q7;have a8:=V.q8;have X1:=((l5 w jR 32).below ((Below.refl _ _).alloc (c9C _) (.cells m7 42))).var;have X2:=(l5 (w.alloc (.cells jR 32)) m7 42).var;have A0:=d2K _;rw[A0]at X2;have d0:=X1.q0;have d1:=X1.q1;have d2:=X1.q2;have d3:=X1.q3;have d4:=X1.q4;have d5:=X1.q5;have d6:=X1.q6;have d7:=X1.q7;have d8:=X1.q8;have f0:=X1.frozen 0;have f1:=X1.frozen 1;have f2:=X1.frozen 2;have f3:=X1.frozen 3;have f4:=X1.frozen 4;have f5:=X1.frozen 5;have f6:=X1.frozen 6;have f7:=X1.frozen 7;have f8:=X1.frozen 8;have k0:=X2.q0;have k1:=X2.q1;have k2:=X2.q2;have k3:=X2.q3;have k4:=X2.q4;have l0:=X2.frozen 0;have l1:=X2.frozen 1;have l2:=X2.frozen 2;have l3:=X2.frozen 3;have l4:=X2.frozen 4;clear h V X1 X2 A0 b1;go_enter func31,ntmps31
 go_upto_region 1 with fail
 generalize (w.alloc (.cells jR 32)).alloc (.cells m7 42)=w2 at*;go_wp2_with fail;exact bodyPost_ret (by simp[results,results31,go_sem,d0,d1,d2,d3,d4,d5,d6,d7,d8,k0,k1,k2,k3,k4]) rfl ⟨rfl,noB b2 (c9C _) (c9O _) _ _ _ _ _ _ _ _ _ _ _ _ _ _⟩
end Go.Proofs.YtmcaejooaaahdaaGreat
