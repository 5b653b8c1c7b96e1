import Derived.Test.YtmcaejooaaahdaaGreatZ26
import Derived.Test.YtmcaejooaaahdaaGreatZ31
set_option maxHeartbeats 8000000
set_option maxRecDepth 100000
namespace Go.Proofs.YtmcaejooaaahdaaGreat
open Go.Proofs.Tryz
variable {N:Nat} {v:Value} {w:World}
open Go.RowKit
theorem a9Q{t:TypeId}{z:Nat}{n:Nat}{xs:List Value}(h:w.ownsRow N t z v n xs): ∃A C,v=.slice A n C∧n≤C∧C≤maxLen∧(1≤n→ ∃g,A=some (aD g 0)):=by
 rcases h.2 with⟨rfl,h0⟩|⟨g,A0,A1,rfl,_,_,h1,h2,_⟩
 ·subst h0;exact⟨none,0,rfl,c9C _,c9D _,fun h=>absurd h (by decide)⟩
 ·exact⟨_,A0,rfl,h1,h2,fun _=>⟨g,rfl⟩⟩
theorem sT.batsM{l:List (Int×Value)}{bs:List Evt.Bat}(h:sT w N v l)(hl:bs.length=l.length)(he: ∀(i:Nat) (x:Int×Value) (b:Evt.Bat),l[i]?=some x→bs[i]?=some b→b.cmd=x.1∧Evs w x.2 b.evs∧ ∀g,x.2.ownBlock=some g→N≤g):gN w N v bs:=by
 obtain⟨A,A0,rfl,h1,h2,h3⟩:=a9Q h;refine⟨A,A0,by rw[hl],by rw[hl];exact h1,h2,fun i b hb=>?_⟩;obtain⟨x,hx⟩: ∃x,l[i]?=some x:=by
  have:i<l.length:=by
   rw[←hl];exact(c9H.1 hb).1
  exact⟨l[i],c9F this⟩
 obtain⟨g,rfl⟩:=h3 (by have:=(c9H.1 hx).1;omega);obtain⟨e1,e2,e3⟩:=he i x b hx hb;have hc: ∀j u,(dG x)[j]?=some u→w.cell? (aD g (i*2+j))=some u:=fun j u hj=>by
  have A1:j<2:=(c9H.1 hj).1;have:=h.cells rfl (i*2+j) u ((dQ dG 2 l (fun _ _=>rfl) i j A1 x hx).trans hj);rw[WideShapes.add_plain,c9G]at this;exact this
 refine⟨g,0,rfl,(h.lt g rfl).1,x.2,?_,?_,e2,e3⟩
 ·rw[c9G,e1];exact hc 0 _ rfl
 ·rw[c9G];exact hc 1 _ rfl
theorem a8I(b o cap N:Nat)(g:Nat→Nat)(w:World)(hy:cA w (.slice (some (aD b o)) N cap) N g)(hN1:1≤N):
  Calls prog 65 #[.slice (some (aD b o)) N cap] w fun e w'=> ∃v',e=.returned (.tuple #[v',iV (Evt.aL (bl g N):Nat)])∧gN w' w.heap.size v' (Evt.dA (bl g N))∧Bl w w':=by
 obtain⟨b',o',Cd,hv,Cn,D6,hc⟩:=hy.some hN1;cases hv
 have hg:=hy.bd;have HN:=fun s A ok w' (hs:s≤3) (hp:PS w w' (.slice (some (aD b o)) N cap) N A ok)=>b9S s b o cap N A ok g w w' hs hy hc hp;have eg:=Tryz.enters_num;go_enter func65,ntmps65
 go_wp2_with fail;have P0:PS w (((w.alloc (.cells #[.slice (some (aD b o)) N cap] 59)).alloc (.cells #[iV 0] 3)).alloc (.cells #[.bool true] 4)) (.slice (some (aD b o)) N cap) N 0 true:=by
  refine⟨by go_simp,by go_simp,by go_simp,by go_simp,by go_simp,?_,c9D _⟩;have h1:=aB8 w (.cells #[.slice (some (aD b o)) N cap] 59);have h2:=h1.alloc h1.size (.cells #[iV 0] 3);exact h2.alloc h2.size _
 refine(HN 1 0 true _ (by decide) P0).mono ?_;clear P0;rintro e w1 (⟨_,rfl,P1,_⟩|⟨Ad,_⟩)
 case inr=>omega
 have e1:gB g 0 1=g 0:=by
  show 256*0+g 0=_;rw[d1U,c9G]
 rw[e1];clear e1;have Cq:=hg 0;have B5:Hid (Evt.num 1 0 (bl g N)=some (g 0,(bl g N).drop 1)):=by
  have:=mD g (A:=0) (N:=N) (by omega);rw[d2E,show gB g 0 1=g 0 from by show 256*0+g 0=_;rw[d1U,c9G]]at this;exact this
 generalize g 0=n at Cq B5;go_wp2_with fail;go_loopw [7,9] (fun vo x wr=> ∃i:Nat,x=iV i∧OS w wr (.slice (some (aD b o)) N cap) g N n vo i) (fun _ x _=>n-(intOf x).toNat)
 case atStart=>exact⟨0,rfl,[],1,true,sT.nil _ _,(fun t ht=>by cases ht),P1,Nat.zero_le _,rfl,(fun _=>by omega),Or.inl ⟨rfl,by cases h:Evt.eC n ((bl g N).drop 1)<;>simp[a2C]⟩⟩
 case round=>
  obtain⟨i,rfl,L,A,ok,BB,BE,P2,D8,Ar,Bx,Ao⟩:=hrel;have c0:=P2.at_;have c1:=P2.b_;have c2:=P2.ok_;cases ok with
  |false=>
   have HZ:Hid (Evt.aL (bl g N)=2∧Evt.dA (bl g N)=[]):=c3G B5.out (by
    rcases Ao with⟨h,_⟩|⟨_,h⟩
    ·cases h
    ·exact h)
   have bz:=P2.bel;clear Ao BB BE P2 HN Ar hc hy;by_cases hi:i<n
   ·have Bi:(i:Int)<(n:Int):=by omega
    go_wp2_with fail;go_ret2
    exact⟨_,by rw[HZ.out.1];rfl,by rw[HZ.out.2];exact eX _ _,bz⟩
   ·have Bi: ¬(i:Int)<(n:Int):=by omega
    go_wp2_with fail;go_ret2
    exact⟨_,by rw[HZ.out.1];rfl,by rw[HZ.out.2];exact eX _ _,bz⟩
  |true=>
   have Cj:=Bx rfl;clear Bx;by_cases hi:i<n
   ·have Bi:(i:Int)<(n:Int):=by omega
    have Ai:Evt.eC n ((bl g N).drop 1)=a2C (L.map vY) (Evt.eC (n-i) ((bl g N).drop A)):=by
     rcases Ao with⟨_,h⟩|⟨h,_⟩
     ·exact h
     ·cases h
    obtain⟨wo,B2⟩: ∃x,x=wr:=⟨wr,rfl⟩;rw[←B2]at c0 c1 c2 BB BE P2⊢;clear Ao B2;go_upto_region 8 with fail
    go_cut [10]from 21 to 76 (fun x10 wc=> ∃(p c A1:Nat) (Au:Bool),x10=.pointer (some (aD p 0))∧wo.heap.size≤p∧PS w wc (.slice (some (aD b o)) N cap) N A1 Au∧dU wc p (iV c) nS∧Off (fun k=>k=w.heap.size+1∨k=w.heap.size+1+1) wo wc∧
     ((Au=true∧A1=A+3∧A+3≤N∧c=gB g A 3)∨(Au=false∧A1=N∧N<A+3)))
    case first=>
     go_wp2_with fail;refine(HN 3 A true _ (by decide) P2).mono ?_;rintro e1 wN (⟨Bb,rfl,P3,O3⟩|⟨Bb,rfl,P3,O3⟩)
     ·have hz:=P2.bel.size;have At:w.heap.size+3≤wN.heap.size:=P3.room;go_wp2_with fail;go_meet
      exact⟨wN.heap.size,gB g A 3,A+3,true,rfl,O3.size,P3.keep ((Below.refl _ _).alloc At _),aO wN _ _ _,O3.trans (Off.oE (aB8 _ _)),Or.inl ⟨rfl,rfl,Bb,rfl⟩⟩
     ·have At:w.heap.size+3≤wN.heap.size:=P3.room;go_wp2_with fail;go_meet
      exact⟨wN.heap.size,0,N,false,rfl,O3.size,P3.keep ((Below.refl _ _).alloc At _),aO wN _ _ _,O3.trans (Off.oE (aB8 _ _)),Or.inr ⟨rfl,rfl,Bb⟩⟩
    case rest=>
    obtain⟨p,c,A1,Au,rfl,hp,P3,V3,O3,Bk⟩:=hcut;go_upto_region 9 with fail
    go_cut [11]from 21 to 76 (fun x11 wc=> ∃(m A2:Nat) (Ag:Bool),x11=iV m∧m<256∧PS w wc (.slice (some (aD b o)) N cap) N A2 Ag∧dU wc p (iV c) nS∧Off (fun k=>k=w.heap.size+1∨k=w.heap.size+1+1) wo wc∧
     ((Ag=true∧A2=A+4∧A+4≤N∧c=gB g A 3∧m=g (A+3))∨(Ag=false∧A2=N∧m=0∧N<A+4)))
    case first=>
     go_wp2_with fail;refine(HN 1 A1 Au _ (by decide) P3).mono ?_;rintro e1 wN (⟨Bu,rfl,P4,O4⟩|⟨Bu,rfl,P4,O4⟩)
     ·have Ac: ¬(p=w.heap.size+1∨p=w.heap.size+1+1):=by have:=P2.room;omega
      have hv:=(b4B hg A1 1 (by decide)).2 (by decide);have C6:gB g A1 1=g A1:=by
       show 256*0+g A1=_;rw[d1U,c9G]
      have Cr:=hg A1;go_wp2_with fail;go_meet
      refine⟨g A1,A1+1,Au,rfl,Cr,P4,V3.off O4 Ac,O3.trans O4,?_⟩;rcases Bk with⟨h1,h2,h3,h4⟩|⟨h1,h2,h3⟩
      ·exact Or.inl ⟨h1,by omega,by omega,h4,by rw[h2]⟩
      ·omega
     ·have Ac: ¬(p=w.heap.size+1∨p=w.heap.size+1+1):=by have:=P2.room;omega
      go_wp2_with fail;go_meet
      exact⟨0,N,false,rfl,by decide,P4,V3.off O4 Ac,O3.trans O4,Or.inr ⟨rfl,rfl,rfl,by rcases Bk with⟨_,h2,_⟩|⟨_,h2,h3⟩<;>omega⟩⟩
    case rest=>
    obtain⟨m,A2,Ag,rfl,C2,P4,V4,O4,Az⟩:=hcut;clear P3 V3 O3 Bk;go_upto_block 2 with fail
    go_cut [12,13,14]from 21 to 76 (fun x12 x13 x14 wc=> ∃(A3:Nat) (A8:Bool) (ve:Value) (es:List EvC),PS w wc (.slice (some (aD b o)) N cap) N A3 A8∧dU wc p (iV c) ve∧cH wc (p+1) ve es∧Off (fun k=>k=w.heap.size+1∨k=w.heap.size+1+1) wo wc∧es.length≤256∧(A8=true→A3≤A+66304)∧
     ((A8=true∧Evt.l6 ((bl g N).drop A)=some (⟨(c:Nat),es.map aY⟩,(bl g N).drop A3))∨(A8=false∧Evt.l6 ((bl g N).drop A)=none)))
    case first=>
     go_wp2_with fail
     go_loopw [12] (fun x wi=> ∃(k A3:Nat) (A8:Bool) (ve:Value) (es:List EvC),x=iV k∧k≤m∧PS w wi (.slice (some (aD b o)) N cap) N A3 A8∧dU wi p (iV c) ve∧cH wi (p+1) ve es∧es.length≤k∧Off (fun k=>k=w.heap.size+1∨k=w.heap.size+1+1) wo wi∧(A8=true→A3≤A+4+k*260)∧
      ((A8=true∧Ag=true∧Evt.eF m ((bl g N).drop A2)=yW (es.map aY) (Evt.eF (m-k) ((bl g N).drop A3)))∨(A8=false∧(Ag=true→Evt.eF m ((bl g N).drop A2)=none)))) (fun x _=>m-(intOf x).toNat)
     case atStart=>
      refine⟨0,A2,Ag,nS,[],rfl,c9D _,P4,V4,cH.nil _ _,c9C _,O4,?_,?_⟩
      ·intro h;rcases Az with⟨_,h2,_⟩|⟨h1,_⟩
       ·omega
       ·rw[h]at h1;cases h1
      ·cases Ag with
       |true=>exact Or.inl ⟨rfl,rfl,by rw[Nat.sub_zero];cases h:Evt.eF m ((bl g N).drop A2)<;>simp[yW]⟩
       |false=>exact Or.inr ⟨rfl,fun h=>by cases h⟩
     case round=>
      obtain⟨k,A3,A8,ve,es,rfl,Da,P5,V5,EB,Cp,O5,Aa,As⟩:=hrel;have d0:=P5.at_;have d1:=P5.b_;have d2:=P5.ok_;by_cases hk:k<m
      ·have D9:(k:Int)<(m:Int):=by omega
       cases A8 with
       |true=>
        have Ck:=Aa rfl;clear Aa;have B7:Ag=true∧Evt.eF m ((bl g N).drop A2)=yW (es.map aY) (Evt.eF (m-k) ((bl g N).drop A3)):=by
         rcases As with⟨_,h⟩|⟨h,_⟩
         ·exact h
         ·cases h
        clear As;obtain⟨wi,C8⟩: ∃x,x=wr:=⟨wr,rfl⟩;rw[←C8]at d0 d1 d2 P5 V5 EB O5⊢;clear C8;have Ay:=P5.room;have Dc:p<wi.heap.size:=World.block_lt_of_cell? _ _ V5.c0;have Dd:=P2.room;have Ac: ¬(p=w.heap.size+1∨p=w.heap.size+1+1):=by omega
        have bE:=aB8 wi (.cells #[.string ByteArray.empty,iV 0,iV 0] 83);have G5:=c2N wi 83 (.string ByteArray.empty) (iV 0) (iV 0);have Bt:=P5.keep (bE.mono Ay);have Ba:=V5.bE bE;have Av:=EB.bE bE;have B8:=O5.trans (Off.oE bE);go_upto_region 14 with fail
        go_cut [14]from 34 to 72 (fun x14 wc=> ∃(lg A4:Nat) (Ab:Bool),x14=iV lg∧PS w wc (.slice (some (aD b o)) N cap) N A4 Ab∧mZ wc wi.heap.size (.string ByteArray.empty) (iV 0) (iV 0)∧dU wc p (iV c) ve∧cH wc (p+1) ve es∧Off (fun k=>k=w.heap.size+1∨k=w.heap.size+1+1) wo wc∧wi.heap.size<wc.heap.size∧
         ((Ab=true∧A4=A3+1∧lg=g A3∧A3+1≤N)∨(Ab=false∧A4=N∧lg=0∧N≤A3)))
        case first=>
         go_wp2_with fail;refine(HN 1 A3 true _ (by decide) Bt).mono ?_;rintro e1 wN (⟨Bv,rfl,P6,O6⟩|⟨Bv,rfl,P6,O6⟩)
         ·have C6:gB g A3 1=g A3:=by
           show 256*0+g A3=_;rw[d1U,c9G]
          go_wp2_with fail;go_meet
          refine⟨g A3,A3+1,true,rfl,P6,G5.off O6 (by omega),Ba.off O6 Ac,Av.off O6 (fun y hy=>by have:=(Av.1.lt y hy).1;omega),B8.trans O6,?_,Or.inl ⟨rfl,rfl,rfl,Bv⟩⟩;have:=O6.size;have:=World.block_lt_of_cell? _ _ G5.c0;exact c9P this O6.size
         ·go_wp2_with fail;go_meet
          refine⟨0,N,false,rfl,P6,G5.off O6 (by omega),Ba.off O6 Ac,Av.off O6 (fun y hy=>by have:=(Av.1.lt y hy).1;omega),B8.trans O6,?_,Or.inr ⟨rfl,rfl,rfl,by omega⟩⟩;exact c9P (World.block_lt_of_cell? _ _ G5.c0) O6.size
        case rest=>
        obtain⟨lg,A4,Ab,rfl,P6,G6,V6,Ah,O6,B0,An⟩:=hcut;have Bf:=EB.1.lt;have Bm:=O5.size;clear Bt Ba Av B8 G5 P5 V5 EB d0 d1 d2 bE;have d0:=P6.at_;have d1:=P6.b_;have d2:=P6.ok_;have f0:=P6.fa;have f1:=P6.fo;have Bu:=P6.le;have Db:lg<256:=by
         rcases An with⟨_,_,h3,_⟩|⟨_,_,h3,_⟩
         ·rw[h3];exact hg A3
         ·omega
        have D5:=hy.len;have D0:A4+lg≤9223372036854775807:=by
         rcases An with⟨_,h3,_⟩|⟨_,h3,h4,_⟩<;>omega
        have A0: ∀y,ve.ownBlock=some y→p+1≤y∧y<wi.heap.size:=Bf;by_cases C1:N<A4+lg
        ·have Cu:(N:Int)<(A4:Int)+(lg:Int):=by omega
         have HX:Hid (Evt.l6 ((bl g N).drop A)=none):=uD Az (fun _=>by
          rw[B7.2,show m-k=(m-(k+1))+1 by omega]
          exact xJ (a1E (by rcases An with⟨_,h2,h3,h4⟩|⟨_,h2,h3,h4⟩<;>omega)) _)
         go_wp2_with fail;go_meet
         exact⟨A4,false,ve,es,P6.setNo,V6.off (aG _ _ _) (show¬p=w.heap.size+1+1 by omega),Ah.off (aG _ _ _) (fun y hy=>by have:=(Ah.1.lt y hy).1;show¬y=w.heap.size+1+1;omega),O6.set (p:=⟨w.heap.size+1+1,0,none⟩) (Or.inr rfl) _,by omega,(fun h=>by cases h),Or.inr ⟨rfl,HX.out⟩⟩
        ·have Cu: ¬(N:Int)<(A4:Int)+(lg:Int):=by omega
         have By:Bd (fun k=>g (A4+k)):=fun k=>hg _;have Co:(A4:Int)+(lg:Int)≤(cap:Int):=by omega
         go_upto_region 17 with fail
         go_cut []from 34 to 72 (fun wc=>PS w wc (.slice (some (aD b o)) N cap) N A4 Ab∧mZ wc wi.heap.size (.string (uJ (fun k=>g (A4+k)) lg)) (iV 0) (iV 0)∧dU wc p (iV c) ve∧cH wc (p+1) ve es∧Off (fun k=>k=w.heap.size+1∨k=w.heap.size+1+1) wo wc∧wi.heap.size<wc.heap.size)
         case first=>
          obtain⟨g0,g1,g2,gf⟩:=G6;have D3:=gf 0;have HR:Hid (∀x,PS w (wc.setCell (aD wi.heap.size 0) x) (.slice (some (aD b o)) N cap) N A4 Ab∧mZ (wc.setCell (aD wi.heap.size 0) x) wi.heap.size x (iV 0) (iV 0)∧dU (wc.setCell (aD wi.heap.size 0) x) p (iV c) ve∧cH (wc.setCell (aD wi.heap.size 0) x) (p+1) ve es∧Off (fun k=>k=w.heap.size+1∨k=w.heap.size+1+1) wo (wc.setCell (aD wi.heap.size 0) x)∧wi.heap.size<(wc.setCell (aD wi.heap.size 0) x).heap.size):=fun x=>
           ⟨P6.keep ((Below.refl _ _).setCell (show w.heap.size+3≤wi.heap.size by omega) _),mZ.set0 ⟨g0,g1,g2,gf⟩ x,V6.off (aG _ _ _) (show¬p=wi.heap.size by omega),Ah.off (aG _ _ _) (fun y hy=>by have:=A0 y hy;show¬y=wi.heap.size;omega),O6.past (aG _ _ _) (fun y hy Ad=>by have h1:y=wi.heap.size:=hy;have h2:=Bm;omega),by rw[Deep.nblk_setCell];exact B0⟩
          by_cases Cm:cap=A4
          ·obtain rfl:lg=0:=by omega
           subst Cm;have hq:=fun A C w=>a1O w A C;have HS:Hid (uJ (fun k=>g (cap+k)) 0=ByteArray.empty):=rfl;go_wp2_with fail;go_meet
           rw[HS.out];exact HR.out _
          ·have hq:=a6P (w:=wc) (v:=.slice (some (aD b (o+A4))) lg (cap-A4)) (n:=lg) (f:=fun k=>g (A4+k)) ⟨By,some (aD b (o+A4)),cap-A4,rfl,by omega,by unfold maxLen;omega,fun k hk=>⟨b,o+A4,rfl,by
            have ht:=hc (A4+k) (by omega);rw[show o+A4+k=o+(A4+k) by omega]
            exact(P6.bel.cell (p:=⟨b,o+(A4+k),none⟩) (World.block_lt_of_cell? _ _ ht)).trans ht⟩⟩
           obtain⟨S,hS⟩: ∃S,S=uJ (fun k=>g (A4+k)) lg:=⟨_,rfl⟩;rw[←hS]at hq;have HS:=hd8 hS;clear hS;go_wp2_with fail;go_meet
           rw[←HS.out];exact HR.out _
         case rest=>
         obtain⟨P7,G7,V7,Bq,O7,B1⟩:=hcut;clear P6 G6 V6 Ah O6 B0 d0 d1 d2 f0 f1;obtain⟨S,Bg⟩: ∃S,S=uJ (fun k=>g (A4+k)) lg:=⟨_,rfl⟩;rw[←Bg]at G7;have HS:=hd8 Bg;clear Bg;have e0:=P7.at_;have e2:=P7.fa;have P8:PS w (wc.setCell (aD (w.heap.size+1) 0) (iV ((A4:Int)+(lg:Int)))) (.slice (some (aD b o)) N cap) N (A4+lg) Ab:=P7.setAt (by omega) (by omega);have G8:=G7.off (aG wc (aD (w.heap.size+1) 0) (iV ((A4:Int)+(lg:Int)))) (show¬wi.heap.size=w.heap.size+1 by omega);have V8:=V7.off (aG wc (aD (w.heap.size+1) 0) (iV ((A4:Int)+(lg:Int)))) (show¬p=w.heap.size+1 by omega);have B4:=Bq.off (aG wc (aD (w.heap.size+1) 0) (iV ((A4:Int)+(lg:Int)))) (fun y hy=>by have:=(A0 y hy).1;show¬y=w.heap.size+1;omega);have O8:=O7.set (p:=⟨w.heap.size+1,0,none⟩) (Or.inl rfl) (iV ((A4:Int)+(lg:Int)));have Af:wi.heap.size<(wc.setCell (aD (w.heap.size+1) 0) (iV ((A4:Int)+(lg:Int)))).heap.size:=by rw[Deep.nblk_setCell];exact B1
         clear P7 G7 V7 Bq O7 B1;go_upto_region 19 with fail
         clear e0 e2;generalize wc.setCell (aD (w.heap.size+1) 0) (iV ((A4:Int)+(lg:Int)))=wd at P8 G8 V8 B4 O8 Af⊢
         go_cut []from 34 to 72 (fun wc=> ∃(kd A6:Nat) (Aj:Bool),PS w wc (.slice (some (aD b o)) N cap) N A6 Aj∧mZ wc wi.heap.size (.string S) (iV kd) (iV 0)∧dU wc p (iV c) ve∧cH wc (p+1) ve es∧Off (fun k=>k=w.heap.size+1∨k=w.heap.size+1+1) wo wc∧wi.heap.size<wc.heap.size∧
          ((Aj=true∧Ab=true∧A6=A4+lg+1∧A4+lg+1≤N∧kd=g (A4+lg))∨(Aj=false∧A6=N∧(Ab=true→N<A4+lg+1))))
         case first=>
          go_wp2_with fail;refine(HN 1 (A4+lg) Ab _ (by decide) P8).mono ?_;rintro e1 wN (⟨Am,rfl,P9,O9⟩|⟨Am,rfl,P9,O9⟩)
          ·have C6:gB g (A4+lg) 1=g (A4+lg):=by
            show 256*0+g (A4+lg)=_;rw[d1U,c9G]
           have G9:=G8.off O9 (by omega);have V9:=V8.off O9 Ac;have Ak:=B4.off O9 (fun y hy=>by have:=(A0 y hy).1;omega);have A5:=c9P Af O9.size;have q1:=G9.c1;have q2:=G9.fr 1;go_wp2_with fail;go_meet
           refine⟨g (A4+lg),A4+lg+1,Ab,P9.keep ((Below.refl _ _).setCell (show w.heap.size+3≤wi.heap.size by omega) _),G9.set1 _,V9.off (aG _ _ _) (show¬p=wi.heap.size by omega),Ak.off (aG _ _ _) (fun y hy=>by have:=(A0 y hy).2;show¬y=wi.heap.size;omega),(O8.trans O9).past (aG _ _ _) (fun y hy Ad=>by have h1:y=wi.heap.size:=hy;omega),by rw[Deep.nblk_setCell];exact A5,?_⟩;rcases An with⟨h1,h2,h3,h4⟩|⟨h1,h2,h3,h4⟩
           ·exact Or.inl ⟨h1,h1,rfl,Am,rfl⟩
           ·omega
          ·have G9:=G8.off O9 (by omega);have V9:=V8.off O9 Ac;have Ak:=B4.off O9 (fun y hy=>by have:=(A0 y hy).1;omega);have A5:=c9P Af O9.size;have q1:=G9.c1;have q2:=G9.fr 1;go_wp2_with fail;go_meet
           exact⟨0,N,false,P9.keep ((Below.refl _ _).setCell (show w.heap.size+3≤wi.heap.size by omega) _),G9.set1 _,V9.off (aG _ _ _) (show¬p=wi.heap.size by omega),Ak.off (aG _ _ _) (fun y hy=>by have:=(A0 y hy).2;show¬y=wi.heap.size;omega),(O8.trans O9).past (aG _ _ _) (fun y hy Ad=>by have h1:y=wi.heap.size:=hy;omega),by rw[Deep.nblk_setCell];exact A5,Or.inr ⟨rfl,rfl,fun _=>Am⟩⟩
         case rest=>
         obtain⟨kd,A6,Aj,P9,G9,V9,Ak,O9,A5,C5⟩:=hcut;clear P8 G8 V8 B4 O8 Af;go_upto_region 20 with fail
         go_cut []from 34 to 72 (fun wc=> ∃(nm A7:Nat) (B3:Bool),PS w wc (.slice (some (aD b o)) N cap) N A7 B3∧mZ wc wi.heap.size (.string S) (iV kd) (iV nm)∧dU wc p (iV c) ve∧cH wc (p+1) ve es∧Off (fun k=>k=w.heap.size+1∨k=w.heap.size+1+1) wo wc∧wi.heap.size<wc.heap.size∧
          ((B3=true∧Aj=true∧A7=A6+3∧A6+3≤N∧nm=gB g A6 3)∨(B3=false∧(Aj=true→N<A6+3))))
         case first=>
          go_wp2_with fail;refine(HN 3 A6 Aj _ (by decide) P9).mono ?_;rintro e1 wN (⟨Am,rfl,P0,O0⟩|⟨Am,rfl,P0,O0⟩)
          ·have G0:=G9.off O0 (by omega);have V0:=V9.off O0 Ac;have Ap:=Ak.off O0 (fun y hy=>by have:=(A0 y hy).1;omega);have Ae:=c9P A5 O0.size;have q1:=G0.c2;have q2:=G0.fr 2;obtain⟨nv,Bj⟩: ∃x,x=gB g A6 3:=⟨_,rfl⟩;rw[←Bj];have Cc:=hd8 Bj;clear Bj;go_wp2_with fail;go_meet
           refine⟨nv,A6+3,Aj,P0.keep ((Below.refl _ _).setCell (show w.heap.size+3≤wi.heap.size by omega) _),G0.set2 _,V0.off (aG _ _ _) (show¬p=wi.heap.size by omega),Ap.off (aG _ _ _) (fun y hy=>by have:=(A0 y hy).2;show¬y=wi.heap.size;omega),(O9.trans O0).past (aG _ _ _) (fun y hy Ad=>by have h1:y=wi.heap.size:=hy;omega),by rw[Deep.nblk_setCell];exact Ae,?_⟩;rcases C5 with⟨h1,h2,h3,h4,h5⟩|⟨h1,h2,h3⟩
           ·exact Or.inl ⟨h1,h1,rfl,Am,Cc.out⟩
           ·omega
          ·have G0:=G9.off O0 (by omega);have V0:=V9.off O0 Ac;have Ap:=Ak.off O0 (fun y hy=>by have:=(A0 y hy).1;omega);have Ae:=c9P A5 O0.size;have q1:=G0.c2;have q2:=G0.fr 2;go_wp2_with fail;go_meet
           exact⟨0,N,false,P0.keep ((Below.refl _ _).setCell (show w.heap.size+3≤wi.heap.size by omega) _),G0.set2 _,V0.off (aG _ _ _) (show¬p=wi.heap.size by omega),Ap.off (aG _ _ _) (fun y hy=>by have:=(A0 y hy).2;show¬y=wi.heap.size;omega),(O9.trans O0).past (aG _ _ _) (fun y hy Ad=>by have h1:y=wi.heap.size:=hy;omega),by rw[Deep.nblk_setCell];exact Ae,Or.inr ⟨rfl,fun _=>Am⟩⟩
         case rest=>
         obtain⟨nm,A7,B3,P0,G0,V0,Ap,O0,Ae,Cz⟩:=hcut;clear P9 G9 V9 Ak O9 A5;have Bs:=hd8 (c8A hg An C5 Cz HS.out);have Ci:S.size≤9223372036854775807:=by
          have h1:=a4D By lg;rw[←HS.out]at h1;have h2:=gF S;rw[h1,kU]at h2;omega
         obtain⟨i3,Ct,C0⟩:=c9J.1 Tryz.infoEvent;simp only[Prod.mk.injEq]at C0;obtain⟨Bn,Bo,Bp⟩:=C0;obtain⟨g0,g1,g2,_⟩:=G0;have k1:=V0.c1;have bA:=aB8 wc (.cells #[.string S,iV kd,iV nm] 83);have HO:=(Ap.bE bA).1;have VA:=V0.bE bA;have cn:=eE wc #[.string S,iV kd,iV nm] 83;have Cy:p+1≤wc.heap.size:=by omega
         have sX:=c9E Cy bA.size;have D1: ¬ve.ownBlock=some p:=fun h=>by have:=(A0 p h).1;omega
         go_wp2_with (at_builtin;refine wpList_append_own _ rfl (.tmp 68) (.tmp 70) 40 rfl (p+1) 83 i3 (.agg #[.string ByteArray.empty,iV 0,iV 0]) 3 32 underlying40 Ct Bn Bo Bp rfl (by decide) _ _ _ rfl HO (aD wc.heap.size 0) 1 1 [.string S,iV kd,iV nm] rfl rfl cn (by intro u hu;simp at hu;rcases hu with rfl|rfl|rfl<;>rfl) (by unfold maxLen;omega) (by omega) sX ?_;intro v7 w7 hown7 hgrow7 _;have B9:=VA.off (cI hgrow7) D1;have k4:=B9.c1;have k5:=B9.fr 1;have Z7:=dC hown7 (Nat.le_add_left 1 _);obtain⟨g9,C9,rfl,D7,_⟩:=Z7);have OG:=(Off.oE bA).trans (cI hgrow7);have BG:Below (w.heap.size+3) wc w7:=OG.bE P0.room (fun y hy=>by have:=(A0 y hy).1;omega);refine⟨⟨k+1,A7,B3,_,es++[((S,((kd:Nat):Int),((nm:Nat):Int)):EvC)],by go_num,by omega,P0.keep (BG.setCell (show w.heap.size+3≤p by omega) _),B9.set1 _,⟨?_,?_⟩,by rw[c9I];show es.length+1≤k+1;omega,(O0.past OG (fun y hy Ad=>by have:=(A0 y hy).1;omega)).past (aG _ _ _) (fun y hy Ad=>by have h1:y=p:=hy;omega),?_,?_⟩,by simp[intOf];omega⟩
         ·have h1:=bC hown7 (aG w7 (aD p 1) (.slice (some (aD g9 0)) (es.length+1) C9)) (fun y hy=>by have h2:=(hown7.lt y hy).1;show¬y=p;omega);rw[d0H,c9I];exact h1
         ·intro e he;rcases List.mem_append.1 he with he|he
          ·exact Ap.2 e he
          ·rw[d1Z]at he;rw[he];exact Ci
         ·intro h;rcases Bs.out with⟨_,_,h3⟩|⟨h1,_⟩
          ·omega
          ·rw[h]at h1;cases h1
         ·rcases Bs.out with⟨h1,h2,_⟩|⟨h1,h2⟩
          ·refine Or.inl ⟨h1,B7.1,?_⟩;rw[B7.2,show m-k=(m-(k+1))+1 by omega,b1P h2,c9U];rfl
          ·refine Or.inr ⟨h1,fun _=>?_⟩;rw[B7.2,show m-k=(m-(k+1))+1 by omega,xJ h2]
       |false=>
        have HX:Hid (Evt.l6 ((bl g N).drop A)=none):=uD Az (by
         rcases As with⟨h,_⟩|⟨_,h⟩
         ·cases h
         ·exact h)
        clear As;go_wp2_with fail;go_meet
        exact⟨A3,false,ve,es,P5,V5,EB,O5,by omega,(fun h=>by cases h),Or.inr ⟨rfl,HX.out⟩⟩
      ·obtain rfl:k=m:=by omega
       have HX:=hd8 (b7X Az As);clear As;go_wp2_with fail;go_meet
       exact⟨A3,A8,ve,es,P5,V5,EB,O5,by omega,(fun h=>by have:=Aa h;omega),HX.out⟩
    case rest=>
    obtain⟨A3,A8,ve,es,P6,V6,Ah,O6,Cp,Aa,An⟩:=hcut;have Bc:=bC BB O6 (fun y hy=>by have:=(BB.lt y hy).1;omega);have Cf: ∀t,t∈L→cH wc (w.heap.size+3) t.2.1 t.2.2:=fun t ht=>(BE t ht).off O6 (fun y hy=>by have:=((BE t ht).1.lt y hy).1;omega);obtain⟨A9,C9,C7⟩:=Ah.evs.sE;rw[c9M]at C7;subst C7;obtain⟨k0,k1,_⟩:=V6;obtain⟨i2,Cs,Bz⟩:=c9J.1 Tryz.infoBatch;simp only[Prod.mk.injEq]at Bz;obtain⟨Bn,Bo,Bp⟩:=Bz;have bA:=aB8 wc (.cells #[iV c,.slice A9 es.length C9] 47);have HO:=aK Bc bA;have cn:=eE wc #[iV c,.slice A9 es.length C9] 47;have At:w.heap.size+3≤wc.heap.size:=P6.room;have sX:=c9E At bA.size;have Cv:(L.map pr).length=i:=by rw[c9M];exact Ar
    clear P4 V4 O4 Az;go_wp2_with (at_builtin;go_loud (refine wpList_append_own _ rfl (.tmp 73) (.tmp 75) 26 rfl (w.heap.size+3) 47 i2 (.agg #[iV 0,nS]) 2 32 underlying26 Cs Bn Bo Bp rfl (by decide) _ _ _ rfl HO (aD wc.heap.size 0) 1 1 [iV c,.slice A9 es.length C9] rfl rfl cn (by intro u hu;simp at hu;rcases hu with rfl|rfl<;>rfl) (by unfold maxLen;omega) (by omega) sX ?_;intro v7 w7 hown7 hgrow7 _));have HG:=cI hgrow7;have O7:=(Off.oE bA).trans HG;refine⟨⟨i+1,by go_num,L++[((((c:Nat):Int),Value.slice A9 es.length C9,es):c5A)],A3,A8,?_,?_,?_,by omega,by rw[c9I,Ar];rfl,fun h=>?_,?_⟩,by simp[intOf];omega⟩
    ·show w7.ownsRow _ _ _ _ _ _;rw[c9U,d0H,c9I];exact hown7
    ·intro t ht;have kp: ∀(vv:Value) (ee:List EvC),cH wc (w.heap.size+3) vv ee→cH w7 (w.heap.size+3) vv ee:=fun vv ee hE=>hE.off O7 (fun y hy hu=>c5F hE.1 Bc (by decide) y hy hu);rcases List.mem_append.1 ht with ht|ht
     ·exact kp _ _ (Cf t ht)
     ·rw[d1Z]at ht;subst ht;exact kp _ _ ⟨b4W Ah.1 (by have:=P2.room;omega),Ah.2⟩
    ·exact P6.keep (O7.bE At (fun y hy=>(Bc.lt y hy).1))
    ·have h1:=Aa h;omega
    ·have C4:n-i=(n-(i+1))+1:=by omega
     rcases An with⟨h1,h2⟩|⟨h1,h2⟩
     ·refine Or.inl ⟨h1,?_⟩;rw[Ai,C4,b0Y h2,c9U];rfl
     ·refine Or.inr ⟨h1,?_⟩;rw[Ai,C4,b1T h2]
   ·have Bi: ¬(i:Int)<(n:Int):=by omega
    obtain rfl:i=n:=by omega
    have Ai:Evt.eC i ((bl g N).drop 1)=some (L.map vY,(bl g N).drop A):=by
     rcases Ao with⟨_,h⟩|⟨h,_⟩
     ·rw[h,d1L];show some (L.map vY++[],_)=_;rw[d0W]
     ·cases h
    have bz:=P2.bel;have D4:=P2.le;by_cases hA:A=N
    ·have Ce:((A:Int) !=(N:Int))=false:=by rw[bne_eq_false_iff_eq];omega
     rw[hA,lZ g (c9C N)]at Ai;have Al:=hd8 (b7Z B5.out Ai)
     have B6:eS wr u7 (L.map vY):=BB.bats (by simp) (fun idx x y hx hy=>by
      rw[c9S]at hx hy;obtain⟨t,ht,rfl⟩:=c9J.1 hx;rw[ht]at hy;cases hy
      exact⟨rfl,(BE t (c9N ht)).evs⟩)
     have Be:gN wr w.heap.size u7 (L.map vY):=(sT.batsM BB (by simp) (fun idx x y hx hy=>by
      rw[c9S]at hx hy;obtain⟨t,ht,rfl⟩:=c9J.1 hx;rw[ht]at hy;cases hy
      exact⟨rfl,(BE t (c9N ht)).evs,fun g hg=>((BE t (c9N ht)).1.lt g hg).1⟩)).lower (by omega)
     have Bw:(L.map vY).length=i:=by rw[c9M];exact Ar
     obtain⟨wo,B2⟩: ∃x,x=wr:=⟨wr,rfl⟩;rw[←B2]at c0 c1 c2 bz B6 Be⊢;clear Ao BB BE P2 HN Ar hc hy Ai B2 hA;generalize L.map vY=l at Al B6 Be Bw;subst Bw;by_cases Aw:150<l.length
     ·have Cx:(150:Int)<(l.length:Int):=by omega
      have HW:Hid (Evt.aF l=(5,0)):=if_pos Aw;obtain⟨X,C,rfl,_⟩:=B6;go_wp2_with fail;go_ret2
      exact⟨_,by rw[Al.out.1,HW.out];rfl,by rw[Al.out.2,HW.out];exact eX _ _,bz⟩
     ·have Cx: ¬(150:Int)<(l.length:Int):=by omega
      have HW:Hid (Evt.aF l=Evt.gT l 0):=if_neg Aw;have Ca:=hd8 Be;obtain⟨X,C,rfl,Cg,Ch,hX⟩:=B6;clear Cg Ch;go_wp2_with fail;go_loopw [90] (fun x wl=> ∃k:Nat,k≤l.length∧x=iV k∧Hid (∀j,j<k→ ∃e,l[j]?=some e∧(Evt.aA e).1=0)∧Bl wo wl) (fun x _=>l.length-(intOf x).toNat)
      case atStart=>exact⟨0,c9D _,rfl,fun j hj=>absurd hj (c9L j),Below.refl _ _⟩
      case round=>
       obtain⟨k,hk,rfl,HS,Ax⟩:=hrel;by_cases Ad:k<l.length
       ·have Cw:(k:Int)<(l.length:Int):=by omega
        obtain⟨x,hx⟩: ∃x,l[k]?=some x:=⟨l[k],c9F Ad⟩;have HX:=hd8 hx;obtain⟨b2,o2,rfl,Cl⟩:=hX k x hx;obtain⟨ve,d0,d1,Bh⟩:=Cl.bE Ax;clear hX hx;obtain⟨A3,C3,rfl⟩:=Bh.sE;have bA:=aB8 wr (.cells #[iV x.cmd,.slice A3 x.evs.length C3] 47);have Aq:=lR x.cmd _ x.evs _ (Bh.bE bA);have Br:Hid (∀y,y=(Evt.aA ⟨x.cmd,x.evs⟩).1→y=(Evt.aA x).1):=fun y hy=>hy;generalize (Evt.aA ⟨x.cmd,x.evs⟩).2=E2 at Aq;obtain⟨E,hE⟩: ∃E,E=(Evt.aA ⟨x.cmd,x.evs⟩).1:=⟨_,rfl⟩;rw[←hE]at Aq;have HE:=hd8 (Br.out E hE);clear hE Br Bh;by_cases hz:E=0
        ·have HZ:=hd8 (HE.out.symm.trans hz);subst hz;go_wp2_with fail;refine Aq.mono ?_;rintro e w3 ⟨rfl,b3⟩;have b3:=bt bA b3;have b4:=b3.alloc b3.size (.cells #[iV 0,iV E2] 78);clear Aq;go_wp2_with fail;refine⟨⟨k+1,by omega,by go_num,fun j hj=>?_,bt Ax b4⟩,by simp[intOf];omega⟩;by_cases e:j=k
         ·rw[e];exact⟨x,HX.out,HZ.out⟩
         ·exact HS.out j (by omega)
        ·have HF:Hid (Evt.gT l 0=(E,k)):=by
          show _=_;rw[Evt.oT l k x HX.out (by rw[←HE.out];exact hz) HS.out,HE.out]
         have Cb:=hd8 hz;have D2:((E:Int)==0)=false:=by rw[beq_eq_false_iff_ne];omega
         have De:((E:Int) !=0)=true:=by rw[bne,D2];rfl
         clear hz;go_wp2_with fail;refine Aq.mono ?_;rintro e w3 ⟨rfl,b3⟩;have b3:=bt bA b3;have b4:=b3.alloc b3.size (.cells #[iV E,iV E2] 78);clear Aq;go_wp2_with fail;go_quiet (fail)
         go_wp2_with fail;go_ret2
         refine⟨_,by rw[Al.out.1,HW.out,HF.out];rfl,by rw[Al.out.2,HW.out,HF.out,if_neg Cb.out];exact eX _ _,?_⟩;exact bdn (bt bz (bt Ax b4)) _
       ·obtain rfl:k=l.length:=by omega
        have HZ:Hid (Evt.gT l 0=(0,0)):=Evt.lI l 0 (fun e he=>by
         obtain⟨j,hj,rfl⟩:=d1P.1 he;obtain⟨e',h1,h2⟩:=HS.out j hj;rw[c9F hj,Option.some.injEq]at h1;rw[h1]
         exact h2)
        clear hX;go_wp2_with fail;go_ret2
        exact⟨_,by rw[Al.out.1,HW.out,HZ.out];rfl,by rw[Al.out.2,HW.out,HZ.out,if_pos rfl];exact Ca.out.bE Ax,bt bz Ax⟩
    ·have HZ:Hid (Evt.aL (bl g N)=2∧Evt.dA (bl g N)=[]):=b5D B5.out Ai (by rw[jB g (by omega)];exact List.cons_ne_nil _ _);have Ce:((A:Int) !=(N:Int))=true:=by rw[bne_iff_ne];omega
     clear Ao BB BE P2 HN Ar hc hy Ai;go_wp2_with fail;go_ret2
     exact⟨_,by rw[HZ.out.1];rfl,by rw[HZ.out.2];exact eX _ _,bz⟩
theorem a6D(X:Option Addr)(C:Nat)(g:Nat→Nat)(w:World):
  Calls prog 65 #[.slice X 0 C] w fun e w'=> ∃v',e=.returned (.tuple #[v',iV (Evt.aL (bl g 0):Nat)])∧gN w' w.heap.size v' (Evt.dA (bl g 0))∧Bl w w':=by
 rw[(vJ g).1,(vJ g).2];have eg:=Tryz.enters_num;have P0:PS w (((w.alloc (.cells #[.slice X 0 C] 59)).alloc (.cells #[iV 0] 3)).alloc (.cells #[.bool true] 4)) (.slice X 0 C) 0 0 true:=by
  refine⟨by go_simp,by go_simp,by go_simp,by go_simp,by go_simp,?_,c9D _⟩;have h1:=aB8 w (.cells #[.slice X 0 C] 59);have h2:=h1.alloc h1.size (.cells #[iV 0] 3);exact h2.alloc h2.size _
 have HN:=c1R X C w _ P0;clear P0;go_enter func65,ntmps65
 go_wp2_with fail;refine HN.mono ?_;rintro e w1 ⟨rfl,P1⟩;have c0:=P1.at_;have c1:=P1.b_;have c2:=P1.ok_;have bz:=P1.bel;clear HN P1;go_wp2_with fail;refine wp_loop_rounds 1 ?_;rw[rounds_succ];go_wp2_with fail;go_ret2
 exact⟨_,rfl,eX _ _,bz⟩
theorem b2L(v:Value)(N:Nat)(g:Nat→Nat)(w:World)(h:cA w v N g):
  Calls prog 65 #[v] w fun e w'=> ∃v',e=.returned (.tuple #[v',iV (Evt.aL (bl g N):Nat)])∧gN w' w.heap.size v' (Evt.dA (bl g N))∧Bl w w':=by
 by_cases hN:1≤N
 ·obtain⟨b,o,A0,rfl,_⟩:=h.some hN;exact a8I b o A0 N g w h hN
 ·obtain rfl:N=0:=by omega
  obtain⟨X,C,rfl⟩:=h.zero;exact a6D X C g w
end Go.Proofs.YtmcaejooaaahdaaGreat
