import Derived.Test.YtmcaejooaaahdaaGreatZ20
set_option maxHeartbeats 8000000
set_option maxRecDepth 100000
namespace Go.Proofs.YtmcaejooaaahdaaGreat
open Go.Proofs.Tryz
variable {L:Nat→Nat} {N k n:Nat} {f:Nat→Nat→Nat} {t:TypeId} {v:Value} {w w':World} {xs:List Value}
open Go.RowKit
theorem lW(f:Nat→Nat)(n:Nat):(vN f n).length=n:=by simp[vN]
theorem a1Q(f:Nat→Nat)(n j:Nat)(h:j<n):(vN f n)[j]?=some (.int .u8 (f j:Nat)):=by simp[vN,h]
theorem c3H(n k:Nat)(f:Nat→Nat→Nat)(j:Nat)(_hk:k<n)(hj:j<n+n):
  (if j=n+k then Value.int .u8 1 else(vN (f k) n++List.replicate n (Value.int .u8 0)).getD j nS)=Value.int .u8 (Gf.lM n f k j:Nat):=by
 unfold Gf.lM;by_cases h1:j=n+k
 ·rw[if_pos h1,if_neg (by omega),show j-n=k by omega,Gf.kU];rfl
 ·rw[if_neg h1];by_cases h2:j<n
  ·rw[if_pos h2,List.getD,d0M (by rw[lW];exact h2),a1Q _ _ _ h2];rfl
  ·rw[if_neg h2,Gf.gQ (by omega),List.getD,d0S (by rw[lW];omega),lW];simp[show j-n<n by omega]
theorem a7K(v:Value)(n:Nat)(f:Nat→Nat→Nat)(w:World)(h:Mx w v n n f):
  Calls prog 128 #[v] w fun e w'=>((∃v' r,e=.returned (.tuple #[v',iV 0])∧Mx w' v' n n r∧Gf.Und n f r)∨(e=.returned (.tuple #[nS,iV 6])∧Gf.a6O n f))∧Bl w w':=by
 have ok:=h.ok;have H1:=fun w' hb'=>jW v n _ f w' (h.below (w':=w') hb').arg;rw[ok]at H1;have B9:=h.bd;obtain⟨d1,d2,d3,d4⟩:=h.dim;obtain⟨b,o,p,G0,O0,K0,rfl,hm⟩:=h.lies;have h0:(0:Int)<(n:Int):=by omega
 obtain⟨i0,hi,hh⟩:=c9J.1 Tryz.infoRow;simp only[Prod.mk.injEq]at hh;obtain⟨B2,B4,B6⟩:=hh;obtain⟨i1,Aw,Ba⟩:=c9J.1 Tryz.infoByte;simp only[Prod.mk.injEq]at Ba;obtain⟨Ao,Au,Ax⟩:=Ba;clear h ok;go_enter func128,ntmps128
 go_wp2_with fail;refine(H1 _ (Below.refl _ _)).mono ?_;rintro e w1 ⟨rfl,b1⟩;have t1:w1.cell? (aD b o)=some (.slice (some ⟨G0 0,O0 0,none⟩) n (K0 0)):=by simpa using(hm.below b1).top 0 (by omega)
 clear H1;go_wp2_with fail;clear t1;go_loopw [6,35] (fun v i wr=> ∃k:Nat,k≤n∧i=iV k∧(∃G K,Acc wr w.heap.size v k (n+n) G K (Gf.lM n f)∧(∀x y,x<k→y<k→x≠y→G x≠G y)∧ ∀x,x<k→n+n≤K x)∧Bl w wr) (fun _ i _=>n-(intOf i).toNat)
 case atStart=>exact⟨0,c9D _,rfl,⟨fun _=>0,fun _=>0,Acc.start w1 _ _ _ _ _,fun x _ hx=>absurd hx (c9L x),fun x hx=>absurd hx (c9L x)⟩,b1⟩
 case round=>
  clear b1;obtain⟨k,hk,rfl,⟨G,K,hA,Ab,A7⟩,hb⟩:=hrel;by_cases As:k<n
  ·have Bf:(k:Int)<(n:Int):=by omega
   obtain⟨wo,rfl⟩: ∃x,x=wr:=⟨wr,rfl⟩;have Ar:=hm.below hb;have tk:=Ar.top k As;have Bk:(n:Int)+(k:Int)<((n+n:Nat):Int):=by omega
   have hE:=aB8 wo (.cells #[] 5);have A5:(wo.alloc (.cells #[] 5)).ownsRow wo.heap.size 5 1 (.slice (some (aD wo.heap.size 0)) 0 0) 0 []:=World.ownsRow_made wo #[] 0 (c9C _) (by unfold maxLen;omega) rfl;have Ae: ∀j u,(vN (f k) n)[j]?=some u→(wo.alloc (.cells #[] 5)).cell? ((⟨G0 k,O0 k,none⟩:Addr).add j)=some u:=fun j u hj=>by
    rcases Nat.lt_or_ge j n with Am|Am
    ·rw[a1Q _ _ _ Am]at hj;rw[WideShapes.add_plain,(Ar.below hE).row k As j Am,hj]
    ·rw[c9Z (by rw[lW];exact Am)]at hj;cases hj
   have lb:=World.block_lt_of_cell? _ _ tk;clear Ar;go_wp2_with (first|(at_builtin;refine wpList_append_own _ rfl (.tmp 38) (.tmp 42) 59 rfl wo.heap.size 5 i1 (.int .u8 0) 1 1 underlying59 Aw Ao Au Ax rfl (by decide) _ _ _ rfl A5 ⟨G0 k,O0 k,none⟩ n (K0 k) (vN (f k) n) rfl (by rw[lW];omega) Ae (by intro u hu;obtain⟨l,_,rfl⟩:=d0G.1 hu;rfl) (by unfold maxLen;omega) (by omega) (by simp) ?_;intro v1 w2 hown1 hgrow1 _;rw[c9G,d1C]at hown1;have b2:=hE.grown hgrow1 (by simp) (fun x hx=>(A5.lt x hx).1);obtain⟨v2,w3,B5,Ac,A4⟩:=uO w2 wo.heap.size 59 3 59 5 i1 (.int .u8 0) 1 .i64 .i64 underlying59 underlying3 Aw Ao Au Ax rfl rfl v1 n (vN (f k) n) hown1 d1 n d1 (by omega) (by omega) b2.size;have b3:=b2.grown A4 b2.size (fun x hx=>(hown1.lt x hx).1);obtain⟨g,Ad,rfl,Bb,Aj,A2⟩:=eD Ac (by omega);have Bc:=A2.cell (show n+k<n+n by omega);have Bi:=A2.frozen (n+k);have bS:=b3.setCell (p:=⟨g,n+k,none⟩) Bb (.int .u8 1);have bX:=bS.alloc bS.size (.cells #[.slice (some (aD g 0)) (n+n) Ad] 59);have AX:=hA.below bX;have rX:=(((A2.set (n+k) (.int .u8 1)).alloc (.cells #[.slice (some (aD g 0)) (n+n) Ad] 59)).congr (fun j hj=>c3H n k f j As hj));have sX:=c9E hb.size bX.size;have cX:=a9H (w:=w3.setCell (aD g (n+k)) (.int .u8 1)) (t:=59) (x:=.slice (some (aD g 0)) (n+n) Ad);rw[Deep.nblk_setCell]at cX)|(at_builtin;refine Lib.wpList_append_run _ rfl (.tmp 43) (.tmp 44) 59 3 rfl _ _ rfl rfl _ _ B5 ?_)|(at_builtin;refine wpList_append_own _ rfl (.tmp 51) (.tmp 53) 86 rfl w.heap.size 59 i0 nS 1 24 underlying86 hi B2 B4 B6 rfl (by decide) _ _ _ rfl AX.own (aD w3.heap.size 0) 1 1 [.slice (some (aD g 0)) (n+n) Ad] rfl rfl cX (by intro u hu;simp at hu;subst hu;rfl) (by unfold maxLen;omega) (by omega) sX ?_;intro v4 w4 hown4 hgrow4 _));have A1:=AX.step ⟨c9E hb.size Bb,rX⟩ hown4 hgrow4;have b4:Bl w w4:=(hb.trans (bX.mono hb.size)).grown hgrow4 sX (fun x hx=>(AX.own.lt x hx).1);have Ai: ∀x y,x<k+1→y<k+1→x≠y→lO G k g x≠lO G k g y:=fun x y hx hy hne=>by
    have low: ∀z,z<k→G z<wo.heap.size:=fun z hz=>(hA.row z hz).2.lt;unfold lO;by_cases ex:x=k
    ·have:=low y (by omega);rw[if_pos ex,if_neg (by omega)];omega
    ·by_cases ey:y=k
     ·have:=low x (by omega);rw[if_neg ex,if_pos ey];omega
     ·rw[if_neg ex,if_neg ey];exact Ab x y (by omega) (by omega) hne
   have Be: ∀x,x<k+1→n+n≤lO K k Ad x:=fun x hx=>by
    unfold lO;by_cases ex:x=k
    ·rw[if_pos ex];exact Aj
    ·rw[if_neg ex];exact A7 x (by omega)
   clear A7 Aj;clear hown4 hgrow4 AX rX Ac hown1 A5 hgrow1 A4 B5 Ae Bc Bi A2 bS bX b2 b3 hE cX tk lb hA Ab;go_wp2_with fail;exact⟨⟨k+1,by omega,by go_num,⟨_,_,A1,Ai,Be⟩,b4⟩,by simp[intOf];omega⟩
  ·have e8:k=n:=by omega
   subst e8;obtain⟨bw,Bm,rfl,Bv,_,Ak⟩:=eD hA.own d1;have HW:j4 wr w.heap.size bw k (k+k) G K (Gf.lM k f):=⟨Ak.congr (fun r hr=>by simp[List.getD,hr]),fun r hr=>(hA.row r hr).2,Bv,fun r hr=>(hA.row r hr).1,Ab⟩;clear hA Ab Ak hm Aw Ao Au Ax;go_wp2_with fail;go_loopw [9] (fun i wr=> ∃m:Nat,m≤k∧i=iV ((m:Int)-1)∧(∃G K W,j4 wr w.heap.size bw k (k+k) G K W∧Gf.pG k f (fun j=>m≤j∧j<k) W∧ ∀r,r<k→k+k≤K r)∧Bl w wr) (fun i _=>(intOf i+1).toNat)
   case atStart=>exact⟨k,c9C _,rfl,⟨G,K,_,HW,Gf.pG.start B9 (fun j hj=>by omega),A7⟩,hb⟩
   case round=>
    clear HW hb A7;obtain⟨m,hm,rfl,⟨G,K,W,HW,HE,A7⟩,hb⟩:=hrel;by_cases Bt:m=0
    ·subst Bt;rw[show((0:Nat):Int)-1=(-1:Int)from rfl];have HU:=hd8 (HE.done B9 (fun j hj=>⟨c9D _,hj⟩));have A8:=HE.bd;clear HE;have Bz:(k:Int)≤((k+k:Nat):Int):=by omega
     obtain⟨wo,rfl⟩: ∃x,x=wr:=⟨wr,rfl⟩;go_wp2_with fail;go_loopw [17,174] (fun v i wi=> ∃t:Nat,t≤k∧i=iV t∧wi.ownsRow wo.heap.size 59 1 v t ((List.range t).map fun r=> .slice (some ⟨G r,k,none⟩) k (K r-k))∧Bl wo wi) (fun _ i _=>k-(intOf i).toNat)
     case atStart=>exact⟨0,c9D _,rfl,World.ownsRow_nil wo _ _ 1,Below.refl _ _⟩
     case round=>
      obtain⟨t,ht,rfl,A9,A3⟩:=hrel;have HT:=HW.below A3;by_cases Aa:t<k
      ·have Af:(t:Int)<(k:Int):=by omega
       have u1:=HT.top.cell Aa;have C2: ¬K t=k:=by have:=A7 t Aa;omega
       have At:=aK A9 ((Below.refl wr.heap.size wr).alloc (c9C _) (.cells #[.slice (some ⟨G t,k,none⟩) k (K t-k)] 59));have sX:wo.heap.size≤(wr.alloc (.cells #[.slice (some ⟨G t,k,none⟩) k (K t-k)] 59)).heap.size:=c9E A3.size (by simp);have B7:((List.range t).map fun r=>Value.slice (some ⟨G r,k,none⟩) k (K r-k))++[.slice (some ⟨G t,k,none⟩) k (K t-k)]=(List.range (t+1)).map fun r=>Value.slice (some ⟨G r,k,none⟩) k (K r-k):=by
        rw[d1G,c9U];rfl
       have Bq:=hd8 B7;clear A9 HT B7;go_wp2_with (at_builtin;(refine wpList_append_own _ rfl (.tmp 178) (.tmp 182) 169 rfl wo.heap.size 59 i0 nS 1 24 underlying169 hi B2 B4 B6 rfl (by decide) _ _ _ rfl At (aD wr.heap.size 0) 1 1 [.slice (some ⟨G t,k,none⟩) k (K t-k)] rfl rfl a9H (by intro u hu;simp at hu;subst hu;rfl) (by unfold maxLen;omega) (by omega) sX ?_);intro v1 w1 hown1 hgrow1 _);rw[Bq.out]at hown1;have b1:Bl wo w1:=(A3.alloc A3.size (.cells #[.slice (some ⟨G t,k,none⟩) k (K t-k)] 59)).grown hgrow1 sX (fun x hx=>(At.lt x hx).1);clear hgrow1 At u1;go_wp2_with fail;exact⟨⟨t+1,by omega,by go_num,hown1,b1⟩,by simp[intOf];omega⟩
      ·have et:t=k:=by omega
       subst et;obtain⟨g,Ad,rfl,_,_,A2⟩:=eD A9 d1
       have Bj:Hid (Mx wr (.slice (some (aD g 0)) t Ad) t t (fun i j=>W i (t+j))):=⟨fun i j=>A8 i (t+j),⟨d1,d2,d3,d4⟩,g,0,Ad,G,fun _=>t,fun r=>K r-t,rfl,fun r hr=>by
        rw[c9G,A2.cell hr]
        simp[List.getD,hr],fun r hr j hj=>(HT.row r hr).cell (show t+j<t+t by omega)⟩
       clear A2 A9 HT HW;go_wp2_with fail;go_ret2
       exact⟨Or.inl ⟨_,_,rfl,Bj.out,HU.out⟩,bt hb A3⟩
    ·obtain⟨c,rfl⟩: ∃c,m=c+1:=⟨m-1,by omega⟩;have A0:c<k:=by omega
     rw[show((c+1:Nat):Int)-1=(c:Int) by omega];have Bs:(c:Int)<(k:Int):=by omega
     have Br:(c:Int)<((k+k:Nat):Int):=by omega
     have Al:=hd8 HE;have A8:=HE.bd;clear HE;go_wp2_with fail;go_loop [10,11] (fun a i=> ∃t:Nat,t≤c+1∧i=iV t∧ ∃x:Int,a=iV x∧Hid ((x= -1∧ ∀r,r<t→W r c=0)∨ ∃q:Nat,q<t∧x=(q:Int)∧W q c≠0)) (fun _ i=>(c+1)-(intOf i).toNat)
     case atStart=>exact⟨0,c9D _,rfl,-1,rfl,Or.inl ⟨rfl,fun r hr=>absurd hr (c9L r)⟩⟩
     case round=>
      obtain⟨t,ht,rfl,x,rfl,HX⟩:=hrel;by_cases C1:t≤c
      ·have Bp:(t:Int)≤(c:Int):=by omega
       have Af:(t:Int)<(k:Int):=by omega
       have u1:=HW.top.cell (show t<k by omega);have u2:=(HW.row t (by omega)).cell (show c<k+k by omega);by_cases hz:W t c=0
       ·rw[hz]at u2;have HZ:=hd8 hz;clear hz;go_wp2_with fail;refine⟨⟨t+1,by omega,by go_num,x,rfl,?_⟩,by simp[intOf];omega⟩;rcases HX.out with⟨h1,h2⟩|⟨q,h1,h2,h3⟩
        ·exact Or.inl ⟨h1,fun r hr=>by
          by_cases e:r=t
          ·rw[e];exact HZ.out
          ·exact h2 r (by omega)⟩
        ·exact Or.inr ⟨q,by omega,h2,h3⟩
       ·have C0:((W t c:Int)==0)=false:=by rw[beq_eq_false_iff_ne];omega
        have HZ:=hd8 hz;clear hz;go_wp2_with fail;exact⟨⟨t+1,by omega,by go_num,t,rfl,Or.inr ⟨t,by omega,rfl,HZ.out⟩⟩,by simp[intOf];omega⟩
      ·have et:t=c+1:=by omega
       subst et;have By: ¬((c+1:Nat):Int)≤(c:Int):=by omega
       rcases HX.out with⟨rfl,h2⟩|⟨q,hq,rfl,B8⟩
       ·have HS:Hid (Gf.a6O k f):=Al.out.fails A0 (by omega) (fun i hi hd=>h2 i (by omega));clear h2 HX Al HW;go_wp2_with fail;go_ret2
        exact⟨Or.inr ⟨rfl,HS.out⟩,hb⟩
       ·clear HX;have HQ:=hd8 B8;have Bu:(q:Int)<(k:Int):=by omega
        have Bx: ¬(q:Int)<0:=by omega
        clear B8;have HO:=HW.swap (a:=q) (p:=c) (by omega) A0;obtain⟨wS,hS⟩: ∃wS,wS=(wr.setCell (aD bw q) (.slice (some ⟨G c,0,none⟩) (k+k) (K c))).setCell (aD bw c) (.slice (some ⟨G q,0,none⟩) (k+k) (K q)):=⟨_,rfl⟩;rw[←hS,c0E]at HO;have B3:Bl w wS:=by rw[hS];exact(hb.setCell (p:=⟨bw,q,none⟩) HW.lob _).setCell (p:=⟨bw,c,none⟩) HW.lob _
        have HS:=hd8 hS;clear hS;have t1:=HW.top.cell (show q<k by omega);have t2:=HW.top.cell A0;have z1:=HW.top.frozen q;have z2:=HW.top.frozen c;obtain⟨v3,t3⟩: ∃v3,(wr.setCell (aD bw q) (.slice (some ⟨G c,0,none⟩) (k+k) (K c))).cell? (aD bw c)=some v3:=⟨_,(HW.top.set q _).cell A0⟩;have z3:=(HW.top.set q (.slice (some ⟨G c,0,none⟩) (k+k) (K c))).frozen c;have Bw:=hd8 HW;clear HW;go_wp2_with fail;go_region
        rw[←HS.out];clear HS t1 t2 z1 z2 t3 z3 Bw hb;have e0:Gf.swp c q W c c=W q c:=by
         unfold Gf.swp;rw[if_pos rfl]
        have An:Gf.Bd2 (Gf.swp c q W):=Gf.tQ A8;have HD:Hid (Gf.add c (Gf.scl c (Gf.inv (W q c)) (Gf.swp c q W))=Gf.clr c q W):=rfl;have Av:=A8 q c;generalize nW q c G=G' at HO;have B1: ∀r,r<k→k+k≤nW q c K r:=fun r hr=>by
         unfold nW;split
         ·exact A7 _ A0
         ·split
          ·exact A7 _ (by omega)
          ·exact A7 _ hr
        generalize nW q c K=K' at HO B1;clear A7;generalize Gf.swp c q W=W0 at HO e0 An HD;have u1:=HO.top.cell A0;have u2:=(HO.row c A0).cell (show c<k+k by omega);rw[e0]at u2;go_wp2_with fail;refine(zW (W q c) _ Av).mono ?_;rintro e w2 ⟨rfl,rfl⟩;go_wp2_with fail;clear u1 u2 e0;have Ay:=Gf.iW (W q c);generalize Gf.inv (W q c)=x at HD Ay;have hx:=hd8 Ay;clear Ay;go_loopw [105] (fun i wi=> ∃t:Nat,t≤k+k∧i=iV t∧j4 wi w.heap.size bw k (k+k) G' K' (vI c t x W0)∧Bl w wi) (fun i _=>(k+k)-(intOf i).toNat)
        case atStart=>exact⟨0,c9D _,rfl,HO.drew.congr (fun i _ j _=>by unfold vI;rw[if_neg (fun h=>absurd h.2 (c9L j))]),B3.drew⟩
        case round=>
         clear HO B3;obtain⟨t,ht,rfl,HT,A3⟩:=hrel;by_cases Aa:t<k+k
         ·have Af:(t:Int)<((k+k:Nat):Int):=by omega
          have u1:=HT.top.cell A0;have u2:=(HT.row c A0).cell Aa;have z2:=(HT.row c A0).frozen t;rw[show vI c t x W0 c t=W0 c t from if_neg (fun h=>absurd h.2 (d0V _))]at u2;have HP:=HT.put (x:=Gf.mul (W0 c t) x) (f':=vI c (t+1) x W0) A0 Aa (fun r j _ _=>b1G c t x W0 r j);have u3:=HP.top.cell A0;have Ap:=A3.setCell (p:=⟨G' c,t,none⟩) (HT.low c A0) _;clear HT;go_wp2_with fail;go_region_with (go_at_call 125;refine(jL _ _ _ (An c t) hx.out).mono ?_;rintro e w2 ⟨rfl,rfl⟩)
          all_goals go_wp2_with fail
          all_goals exact⟨⟨t+1,by omega,by go_num,HP.drew,Ap.drew⟩,by simp[intOf];omega⟩
         ·have et:t=k+k:=by omega
          subst et
          have Aq:j4 wr w.heap.size bw k (k+k) G' K' (Gf.scl c x W0):=HT.congr (fun i _ j hj=>by
           unfold vI Gf.scl;by_cases h:i=c
           ·rw[if_pos ⟨h,hj⟩,if_pos h]
           ·rw[if_neg (fun h'=>h h'.1),if_neg h])
          have Ah:=Gf.xN An;clear HT;generalize Gf.scl c x W0=W1 at Aq Ah HD;go_wp2_with fail;go_loopw [126] (fun i wi=> ∃r:Nat,r≤k∧i=iV r∧j4 wi w.heap.size bw k (k+k) G' K' (lC c r 0 W1)∧Bl w wi) (fun i _=>k-(intOf i).toNat)
          case atStart=>exact⟨0,c9D _,rfl,Aq.congr (fun i _ j _=>by unfold lC;rw[if_neg (by omega)]),A3⟩
          case round=>
           clear Aq A3;obtain⟨r,hr,rfl,HR,Az⟩:=hrel;by_cases Ag:r<k
           ·have Bh:(r:Int)<(k:Int):=by omega
            have y1:=HR.top.cell Ag;have y2:=(HR.row r Ag).cell (show c<k+k by omega);rw[show lC c r 0 W1 r c=W1 r c from if_neg (by omega)]at y2;go_wp2_with fail;clear y1 y2;go_loopw [141] (fun i wi=> ∃t:Nat,t≤k+k∧i=iV t∧j4 wi w.heap.size bw k (k+k) G' K' (lC c r t W1)∧Bl w wi) (fun i _=>(k+k)-(intOf i).toNat)
            case atStart=>exact⟨0,c9D _,rfl,HR,Az⟩
            case round=>
             clear HR Az;obtain⟨t,ht,rfl,HT,A3⟩:=hrel;by_cases Aa:t<k+k
             ·have Af:(t:Int)<((k+k:Nat):Int):=by omega
              by_cases B0:r=c
              ·subst B0;go_wp2_with fail;refine⟨⟨t+1,by omega,by go_num,HT.congr (fun i _ j _=>?_),A3⟩,by simp[intOf];omega⟩;rw[yO];by_cases h:i=r∧j=t
               ·rw[if_pos h,h.1,h.2];unfold lC;rw[if_neg (by omega)];exact(if_pos rfl).symm
               ·rw[if_neg h]
              ·have Bg:((r:Int)==(c:Int))=false:=by rw[beq_eq_false_iff_ne];omega
               have ea:lC c r t W1 c t=W1 c t:=by
                unfold lC;by_cases h:c<r∨(c=r∧t<t)
                ·rw[if_pos h];exact if_pos rfl
                ·rw[if_neg h]
               have u1:=HT.top.cell Ag;have u2:=HT.top.cell A0;have u3:=(HT.row r Ag).cell Aa;have u4:=(HT.row c A0).cell Aa;rw[show lC c r t W1 r t=W1 r t from if_neg (by omega)]at u3;rw[ea]at u4;have z3:=(HT.row r Ag).frozen t;have Bo:=pO (Ah r t) (Gf.dO (W1 c t) (Ah r c))
               have HP:=HT.put (x:=W1 r t^^^Gf.mul (W1 r c) (W1 c t)) (f':=lC c r (t+1) W1) Ag Aa (fun i j _ _=>by
                rw[yO,show Gf.add c W1 r t=W1 r t^^^Gf.mul (W1 c t) (W1 r c)from if_neg B0,Gf.mul_comm (Ah c t) (Ah r c)])
               have Ap:=A3.setCell (p:=⟨G' r,t,none⟩) (HT.low r Ag) _;clear HT ea B0;go_wp2_with fail;refine wp_region_still_tail 23 (by kernel_rfl) (by kernel_rfl) ?_;simp only[List.take_succ_cons,List.take_zero,List.drop_succ_cons,List.drop_zero];have v1:({wr with A6:=wr.drawn+1}:World).cell? (aD bw r)=some (.slice (some ⟨G' r,0,none⟩) (k+k) (K' r)):=u1;have v2:({wr with A6:=wr.drawn+1}:World).cell? (aD bw c)=some (.slice (some ⟨G' c,0,none⟩) (k+k) (K' c)):=u2;have v3:({wr with A6:=wr.drawn+1}:World).cell? ⟨G' r,t,none⟩=some (.int .u8 (W1 r t:Nat)):=u3;have v4:({wr with A6:=wr.drawn+1}:World).cell? ⟨G' c,t,none⟩=some (.int .u8 (W1 c t:Nat)):=u4;iterate 20 still_step
               still_call (jL _ _ _ (Ah r c) (Ah c t))
               iterate 2 still_step
               refine wpStill_nil ?_;go_wp2_with fail;refine⟨?_,?_⟩
               ·repeat bK Exists.intro
                refine⟨?_,rfl⟩;exact⟨t+1,by omega,by go_num,HP.drew,Ap.drew⟩
               ·simp[intOf];omega
             ·have et:t=k+k:=by omega
              subst et;go_wp2_with fail
              exact⟨⟨r+1,by omega,by go_num,HT.congr (fun i _ j hj=>by
               unfold lC;by_cases h:i<r∨(i=r∧j<k+k)
               ·rw[if_pos h,if_pos (by omega)]
               ·rw[if_neg h,if_neg (by omega)]),A3⟩,by simp[intOf];omega⟩
           ·have er:r=k:=by omega
            subst er
            have HF:j4 wr w.heap.size bw r (r+r) G' K' (Gf.clr c q W):=HR.congr (fun i hi j _=>by
             rw[←HD.out];unfold lC
             rw[if_pos (Or.inl hi)])
            have Bn:Hid (Gf.pG r f (fun j=>c≤j∧j<r) (Gf.clr c q W)):=Al.out.step A0 (by omega) (by omega) (by omega) HQ.out (fun j hj=>by omega);clear HR Al HQ;go_wp2_with fail;exact⟨⟨c,by omega,by go_num,⟨G',K',_,HF,Bn.out,B1⟩,Az⟩,by simp[intOf]⟩
theorem Tryz.infoInt:(Tryz.prog.info? 3).map (fun i=>(i.zero,i.size,i.bytes))=some (some (iV 0),1,8):=by kernel_rfl
theorem b2A(ho:w.ownsRow N t 1 v n xs): ∃A cap,v=.slice A n cap:=by
 rcases ho.2 with⟨rfl,rfl⟩|⟨g,cap,_,rfl,_⟩
 ·exact⟨none,0,rfl⟩
 ·exact⟨_,cap,rfl⟩
theorem c7P(hk:k<N)(h:0<L k): ∃p,p<(there L N).length∧thr L N p=k:=by
 obtain⟨p,hp,e⟩:=List.getElem_of_mem (qB.2 ⟨hk,h⟩:k∈there L N);exact⟨p,hp,by unfold thr;simp[List.getD,hp,e]⟩
theorem a8G(hk:k<N)(h:400<L k∨(0<L k∧L k≠L (thr L N 0))): ¬oU L N:=fun hf=>by
 obtain⟨p,hp,e⟩:=c7P hk (show 0<L k by omega)
 have h1:=hf.2 p hp
 rw[e]at h1
 have:=hf.1
 omega
theorem b7X(hm:1≤(there L N).length)(h: ∀i,i<N→ ¬(400<L i∨(0<L i∧L i≠L (thr L N 0)))):oU L N:=by
 have h0:=fG (show 0<(there L N).length by omega);refine⟨?_,fun p hp=>?_⟩
 ·have:=h _ h0.1;omega
 ·have h1:=fG hp;have:=h _ h1.1;omega
theorem a7L(v:Value)(N:Nat)(A:Option Addr)(cap:Nat)(hv:v=.slice A N cap)(d:Int)(w:World)(hN:N≤maxLen)(h:bP d ((N:Int)-d)≠0):
  Calls prog 97 #[v,iV d] w fun e w'=>e=.returned (.tuple #[nS,iV 5])∧Bl w w':=by
 subst hv;unfold maxLen at hN;have H:Hid (∀w,Calls prog 123 #[iV d,iV (wrap64 ((N:Int)-d))] w fun e w'=>e=.returned (.tuple #[nS,iV 5])∧Bl w w'):=fun w=>by
  refine wH d _ w ?_;unfold bP at h;split at h
  ·rename_i hb;unfold wrap64;omega
  ·exact absurd rfl h
 clear h hN;go_enter func97,ntmps97
 go_wp2_with fail;refine(H.out _).mono ?_;rintro e w1 ⟨rfl,b1⟩;go_wp2_with fail;go_ret2
 exact⟨rfl,b1⟩
def c6L(n s:Nat)(L:Nat→Nat)(f:Nat→Nat→Nat)(e:Ending)(w':World):Prop:= ∃v r,e=.returned (.tuple #[v,iV (eG n (n+s) L:Nat)])∧(eG n (n+s) L=0→Gf.Bd2 r∧Gf.Und n (fun p=>Gf.bH n (thr L (n+s) p)) r)∧
 Out w' (eG n (n+s) L) v (n+s) (L (thr L (n+s) 0)) (Gf.mm n (Gf.bH n) (Gf.mm n r (fun p=>f (thr L (n+s) p))))
theorem uB{s E:Nat}(h:eG n (n+s) L=E)(h0:E≠0):c6L n s L f (.returned (.tuple #[nS,iV E])) w':=
 ⟨_,f,by rw[h],fun h'=>absurd (h.symm.trans h') h0,by rw[h];exact Or.inr ⟨Or.inl h0,rfl⟩⟩
theorem a7F(A:Option Addr)(cap n s:Nat)(L:Nat→Nat)(f:Nat→Nat→Nat)(w:World)(h:Arg w (.slice A (n+s) cap) (n+s) L f)(h1:1≤n)(h2:n≤8)(h3:s≤4):
  Calls prog 97 #[.slice A (n+s) cap,iV n] w fun e w'=>c6L n s L f e w'∧Bl w w':=by
 have HR:=fun w=>lJ n s w h1 h2 h3;have Bb:(n:Int)+(s:Int)-(n:Int)=(s:Int):=by omega
 have bf:=h.bd;obtain⟨A',Bf,R,C,hv,hr⟩:=h.lies;cases hv
 obtain⟨b,o,rfl,_,_⟩:=hr 0 (by omega);have HC:Hid (∀r,r<n+s→w.cell? (aD b (o+r))=some (.slice (R r) (L r) (C r))∧ ∀k,k<L r→ ∃b' o',R r=some (aD b' o')∧w.cell? (aD b' (o'+k))=some (.int .u8 (f r k:Nat))):=fun r hrn=>by
  obtain⟨b',o',e1,e2,e3⟩:=hr r hrn;cases e1
  exact⟨e2,e3⟩
 clear hr h;obtain⟨i0,hi,hh⟩:=c9J.1 Tryz.infoRow;simp only[Prod.mk.injEq]at hh;obtain⟨Aw,Ay,B1⟩:=hh;obtain⟨i2,Bi,B4⟩:=c9J.1 Tryz.infoInt;simp only[Prod.mk.injEq]at B4;obtain⟨Bp,Bm,By⟩:=B4;have HW:Hid (bP n (((n+s:Nat):Int)-n)=0):=cN (by omega);go_enter func97,ntmps97
 go_wp2_with fail;refine(HR _).mono ?_;rintro e w1 ⟨g,cp,rfl,C4,⟨G,K,hm⟩,b1⟩;clear HR;go_wp2_with fail;go_loopw [8,40] (fun v x wr=> ∃k:Nat,k≤n+s∧x=iV k∧wr.ownsRow w1.heap.size 3 1 v (there L k).length ((there L k).map fun(r:Nat)=>Value.int .i64 r)∧Bl w1 wr) (fun _ x _=>(n+s)-(intOf x).toNat)
 case atStart=>exact⟨0,c9D _,rfl,World.ownsRow_nil _ _ _ 1,Below.refl _ _⟩
 case round=>
  obtain⟨k,hk,rfl,A0,hb⟩:=hrel;have A5:=bt b1 hb;by_cases Ac:k<n+s
  ·have Am:(k:Int)<(n:Int)+(s:Int):=by omega
   have Ah:=(HC.out k Ac).1;have Av:=cB8 A5 Ah;clear Ah;by_cases hy:0<L k
   ·have Bn:(0:Int)<(L k:Int):=by omega
    have HT:=hd8 (a2C hy);have Au:=mG L k;have A3:=(Below.refl wr.heap.size wr).alloc (c9C _) (.cells #[iV k] 3);have ox:=aK A0 A3;have bX:=bt hb A3;go_wp2_with (at_builtin;refine wpList_append_own _ rfl (.tmp 48) (.tmp 50) 27 rfl w1.heap.size 3 i2 (iV 0) 1 8 underlying27 Bi Bp Bm By rfl (by decide) _ _ _ rfl ox (aD wr.heap.size 0) 1 1 [iV k] rfl rfl cZ (by intro u hu;simp at hu;subst hu;rfl) (by unfold maxLen;omega) (by omega) bX.size ?_;intro v2 w2 hown2 hgrow2 _);have b2:=bX.grown hgrow2 bX.size (fun x hx=>(ox.lt x hx).1);have q2:w2.ownsRow w1.heap.size 3 1 v2 (there L (k+1)).length ((there L (k+1)).map fun(r:Nat)=>Value.int .i64 r):=by
     rw[HT.out,c9I,c9U];exact hown2
    clear A0 ox hown2 hgrow2 bX A3 Av;go_wp2_with fail;exact⟨⟨k+1,by omega,by go_num,q2,b2⟩,by simp[intOf];omega⟩
   ·have Bn: ¬(0:Int)<(L k:Int):=by omega
    have HT:=hd8 (a6Y hy);go_wp2_with fail;exact⟨⟨k+1,by omega,by go_num,by rw[HT.out];exact A0,hb⟩,by simp[intOf];omega⟩
  ·have e8:k=n+s:=by omega
   subst e8;obtain⟨w3,rfl⟩: ∃x,x=wr:=⟨wr,rfl⟩;have Au:=mG L (n+s);by_cases hl:(there L (n+s)).length<n
   ·have Bo:((there L (n+s)).length:Int)<(n:Int):=by omega
    have HE:Hid (eG n (n+s) L=10):=(if_neg (by rw[HW.out];simp)).trans (if_pos hl);obtain⟨A8,c8,rfl⟩:=b2A A0;clear A0;go_wp2_with fail;go_ret2
    exact⟨uB HE.out (by decide),A5⟩
   ·have Bo: ¬((there L (n+s)).length:Int)<(n:Int):=by omega
    obtain⟨gu,cu,rfl,C3,C6,B5⟩:=eD A0 (by omega);have hu:aY w3 gu 3 (there L (n+s)).length (fun j=>iV (thr L (n+s) j:Int)):=B5.congr (fun j hj=>by unfold thr;simp[List.getD,hj]);clear A0 B5;have u0:=hu.cell (show 0<(there L (n+s)).length by omega);have Aq:=(fG (show 0<(there L (n+s)).length by omega)).1;have Af:(thr L (n+s) 0:Int)<(n:Int)+(s:Int):=by omega
    have B8:(0:Int)<((there L (n+s)).length:Int):=by omega
    have B0:=(HC.out _ Aq).1;have ct:=cB8 A5 B0;clear B0;go_wp2_with fail;clear u0 ct B8 Af;generalize hcc:L (thr L (n+s) 0)=c;have Ab:Hid (L (thr L (n+s) 0)=c):=hcc;clear hcc;go_loop [66] (fun x=> ∃k:Nat,k≤n+s∧x=iV k∧Hid (∀i,i<k→ ¬(400<L i∨(0<L i∧L i≠c)))) (fun x=>(n+s)-(intOf x).toNat)
    case atStart=>exact⟨0,c9D _,rfl,fun i hi=>absurd hi (c9L i)⟩
    case round=>
     obtain⟨k,hk,rfl,HF⟩:=hrel;by_cases Ac:k<n+s
     ·have Am:(k:Int)<(n:Int)+(s:Int):=by omega
      have Ah:=(HC.out k Ac).1;have Av:=cB8 A5 Ah;clear Ah;by_cases h4:400<L k
      ·have Bs:(400:Int)<(L k:Int):=by omega
       have HE:Hid (eG n (n+s) L=2):=(if_neg (by rw[HW.out];simp)).trans ((if_neg (by simp;omega)).trans (if_neg (a8G Ac (Or.inl h4))));go_wp2_with fail;go_ret2
       exact⟨uB HE.out (by decide),A5⟩
      ·have Bs: ¬(400:Int)<(L k:Int):=by omega
       by_cases h5:0<L k
       ·have Bg:(0:Int)<(L k:Int):=by omega
        by_cases h6:L k=c
        ·have HK:Hid (¬(400<L k∨(0<L k∧L k≠c))):=by show¬_;omega
         have Ap:((L k:Int)==(c:Int))=true:=by rw[beq_iff_eq];omega
         have Bx:((L k:Int) !=(c:Int))=false:=by rw[bne,Ap];rfl
         clear h6;go_wp2_with fail;refine⟨⟨k+1,by omega,by go_num,fun i hi=>?_⟩,by simp[intOf];omega⟩;by_cases e:i=k
         ·rw[e];exact HK.out
         ·exact HF.out i (by omega)
        ·have Ap:((L k:Int)==(c:Int))=false:=by rw[beq_eq_false_iff_ne];omega
         have Bx:((L k:Int) !=(c:Int))=true:=by rw[bne,Ap];rfl
         have HE:Hid (eG n (n+s) L=2):=(if_neg (by rw[HW.out];simp)).trans ((if_neg (by simp;omega)).trans (if_neg (a8G Ac (Or.inr ⟨h5,by rw[Ab.out];exact h6⟩))));clear h6;go_wp2_with fail;go_ret2
         exact⟨uB HE.out (by decide),A5⟩
       ·have Bg: ¬(0:Int)<(L k:Int):=by omega
        have HK:Hid (¬(400<L k∨(0<L k∧L k≠c))):=by show¬_;omega
        go_wp2_with fail;refine⟨⟨k+1,by omega,by go_num,fun i hi=>?_⟩,by simp[intOf];omega⟩;by_cases e:i=k
        ·rw[e];exact HK.out
        ·exact HF.out i (by omega)
     ·have e8:k=n+s:=by omega
      subst e8;have B6:Hid (oU L (n+s)):=b7X (by omega) (by rw[Ab.out];exact HF.out);have HE:Hid (eG n (n+s) L=0):=(if_neg (by rw[HW.out];simp)).trans ((if_neg (by simp;omega)).trans (if_pos B6.out));have Bt:(n:Int)≤(cu:Int):=by omega
      clear HF Ac;have Al:=hm.below hb;go_wp2_with fail;go_loopw [14,89] (fun v x wr=> ∃p:Nat,p≤n∧x=iV p∧wr.ownsRow w3.heap.size 59 1 v p ((List.range p).map fun q=> .slice (some ⟨G (thr L (n+s) q),0,none⟩) n (K (thr L (n+s) q)))∧Bl w3 wr) (fun _ x _=>n-(intOf x).toNat)
      case atStart=>exact⟨0,c9D _,rfl,World.ownsRow_nil _ _ _ 1,Below.refl _ _⟩
      case round=>
       obtain⟨p,hp,rfl,A2,A7⟩:=hrel;have Aj:=bt A5 A7;by_cases At:p<n
       ·have B9:(p:Int)<(n:Int):=by omega
        have Bc:=(hu.below A7).cell (show p<(there L (n+s)).length by omega);have Bk:=(fG (show p<(there L (n+s)).length by omega)).1;have As:(thr L (n+s) p:Int)<(n:Int)+(s:Int):=by omega
        have tk:=(Al.below A7).top _ Bk;rw[c9G]at tk;have A3:=(Below.refl wr.heap.size wr).alloc (c9C _) (.cells #[.slice (some ⟨G (thr L (n+s) p),0,none⟩) n (K (thr L (n+s) p))] 59);have ox:=aK A2 A3;have bX:=bt A7 A3;go_wp2_with (at_builtin;refine wpList_append_own _ rfl (.tmp 93) (.tmp 98) 169 rfl w3.heap.size 59 i0 nS 1 24 underlying169 hi Aw Ay B1 rfl (by decide) _ _ _ rfl ox (aD wr.heap.size 0) 1 1 [.slice (some ⟨G (thr L (n+s) p),0,none⟩) n (K (thr L (n+s) p))] rfl rfl cZ (by intro u hu;simp at hu;subst hu;rfl) (by unfold maxLen;omega) (by omega) bX.size ?_;intro v4 w4 hown4 hgrow4 _);have b4:=bX.grown hgrow4 bX.size (fun x hx=>(ox.lt x hx).1);have q4:w4.ownsRow w3.heap.size 59 1 v4 (p+1) ((List.range (p+1)).map fun q=> .slice (some ⟨G (thr L (n+s) q),0,none⟩) n (K (thr L (n+s) q))):=by
         rw[d1G,c9U];exact hown4
        clear A2 ox hown4 hgrow4 bX A3 Bc tk;go_wp2_with fail;exact⟨⟨p+1,by omega,by go_num,q4,b4⟩,by simp[intOf];omega⟩
       ·have ep:n=p:=by omega
        subst ep;obtain⟨g5,Ad,rfl,_,_,A6⟩:=eD A2 h1;have mM:Mx wr (.slice (some (aD g5 0)) n Ad) n n (fun q=>Gf.bH n (thr L (n+s) q)):=by
         refine⟨fun q=>Gf.eK n _,⟨h1,by omega,h1,by omega⟩,g5,0,Ad,fun q=>G (thr L (n+s) q),fun _=>0,fun q=>K (thr L (n+s) q),rfl,fun q hq=>?_,fun q hq j hj=>?_⟩
         ·rw[c9G,A6.cell hq];simp[List.getD,hq]
         ·exact(Al.below A7).row _ (fG (show q<(there L (n+s)).length by omega)).1 j hj
        have hU:=a7K _ n _ wr mM;have hF:=B6.out;have Ag:c≤400:=by rw[←Ab.out];exact hF.1
        have Bj:1≤c:=by rw[←Ab.out];exact(fG (show 0<(there L (n+s)).length by omega)).2
        have Bw:Hid (∀q,q<n→L (thr L (n+s) q)=c):=fun q hq=>by rw[hF.2 q (by omega),Ab.out]
        have B7:=run_make_row' (P:=prog) 59 5 (.int .u8 0) 1 underlying59 Tryz.infoByte rfl .i64 .i64 c (by omega) (by omega);clear A2 A6 mM hF;go_wp2_with fail;refine hU.mono ?_;rintro e w5 ⟨Br,b5⟩;rcases Br with⟨vB,r,rfl,mB,Ae⟩|⟨_,hs⟩
        ·have B3:=(Al.below A7).below b5;have Bq:=(hu.below A7).below b5;have Ar:=bt Aj b5;have rB:=mB.bd;obtain⟨bB,oB,pB,GB,OB,KB,rfl,hB⟩:=mB.lies;have Bv:Hid (∀q,q<n→w5.cell? ⟨b,o+thr L (n+s) q,none⟩=some (.slice (R (thr L (n+s) q)) c (C (thr L (n+s) q)))∧ ∀k,k<c→ ∃b' o',R (thr L (n+s) q)=some (aD b' o')∧w5.cell? (aD b' (o'+k))=some (.int .u8 (f (thr L (n+s) q) k:Nat))):=fun q hq=>by
          obtain⟨e1,e2⟩:=HC.out _ (fG (show q<(there L (n+s)).length by omega)).1;rw[Bw.out q hq]at e1 e2;refine⟨cB8 Ar e1,fun k hk=>?_⟩;obtain⟨b',o',e3,e4⟩:=e2 k hk;exact⟨b',o',e3,cB8 Ar e4⟩
         have An:=hd8 Ae;obtain⟨D,hD⟩: ∃D,D=Gf.mm n r (fun p=>f (thr L (n+s) p)):=⟨_,rfl⟩;have Az:=hd8 hD;have bD:Gf.Bd2 D:=by rw[hD];exact Gf.oS rB n _
         clear hU Ae hm Al hu A7 A5 Aj hb b1 b5 mB hD;go_wp2_with fail;go_loopw [18,111] (fun v x wr=> ∃i:Nat,i≤n+s∧x=iV i∧(∃G2 K2,Acc wr w5.heap.size v i c G2 K2 (Gf.mm n (Gf.bH n) D))∧Bl w5 wr) (fun _ x _=>(n+s)-(intOf x).toNat)
         case atStart=>exact⟨0,c9D _,rfl,⟨fun _=>0,fun _=>0,Acc.start w5 _ c _ _ _⟩,Below.refl _ _⟩
         case round=>
          obtain⟨i,C5,rfl,⟨G2,K2,hA⟩,Ak⟩:=hrel;obtain⟨wo,rfl⟩: ∃x,x=wr:=⟨wr,rfl⟩;by_cases B2:i<n+s
          ·have Ba:(i:Int)<(n:Int)+(s:Int):=by omega
           go_wp2_with fail;clear B7;go_loopw [118] (fun x wm=> ∃k:Nat,k≤c∧x=iV k∧wm.rowIs wo.heap.size 5 c (fun y=> .int .u8 (dV k (Gf.mm n (Gf.bH n) D i) (fun _=>0) y:Nat))∧Bl wo wm) (fun x _=>c-(intOf x).toNat)
           case atStart=>exact⟨0,c9D _,rfl,(World.rowIs_made wo (.int .u8 0) c 5).congr (fun j _=>by rw[show dV 0 (Gf.mm n (Gf.bH n) D i) (fun _=>0) j=0 from if_neg (c9L _)];rfl),aB8 _ _⟩
           case round=>
            obtain⟨k,C1,rfl,hR,Ai⟩:=hrel;obtain⟨wm,rfl⟩: ∃x,x=wr:=⟨wr,rfl⟩;by_cases hk:k<c
            ·have C2:(k:Int)<(c:Int):=by omega
             go_wp2_with fail;go_loopw [22] (fun x wi=> ∃j:Nat,j≤n∧x=iV j∧wi.rowIs wo.heap.size 5 c (fun y=> .int .u8 (wL k (Gf.dot j (Gf.bH n i) (fun l=>D l k)) (Gf.mm n (Gf.bH n) D i) y:Nat))∧Bl wo wi) (fun x _=>n-(intOf x).toNat)
             case atStart=>exact⟨0,c9D _,rfl,hR.congr (fun y _=>by rw[show Gf.dot 0 (Gf.bH n i) (fun l=>D l k)=0 from rfl,xK]),Ai⟩
             case round=>
              clear hR Ai;obtain⟨j,Bz,rfl,hJ,A4⟩:=hrel;obtain⟨wi,rfl⟩: ∃x,x=wr:=⟨wr,rfl⟩;by_cases hj:j<n
              ·have C0:(j:Int)<(n:Int):=by omega
               go_wp2_with fail;go_loopw [23,130] (fun z x wp=> ∃p:Nat,p≤n∧x=iV p∧z=.int .u8 (Gf.dot p (r j) (fun q=>f (thr L (n+s) q) k):Nat)∧wp.rowIs wo.heap.size 5 c (fun y=> .int .u8 (wL k (Gf.dot j (Gf.bH n i) (fun l=>D l k)) (Gf.mm n (Gf.bH n) D i) y:Nat))∧Bl wo wp) (fun _ x _=>n-(intOf x).toNat)
               case atStart=>exact⟨0,c9D _,rfl,rfl,hJ,A4⟩
               case round=>
                clear hJ A4;obtain⟨p,hp,rfl,rfl,hJ,A4⟩:=hrel;have Aa:=Ak.trans (A4.mono Ak.size);by_cases At:p<n
                ·have B9:(p:Int)<(n:Int):=by omega
                 obtain⟨e1,e2⟩:=Bv.out p At;obtain⟨b',o',e3,e4⟩:=e2 k hk;rw[e3]at e1;have r1:=(hB.below Aa).top j hj;have r2:=(hB.below Aa).row j hj p At;have r3:=cB8 Aa e1;have r4:=cB8 Aa e4;have r5:=(Bq.below Aa).cell (show p<(there L (n+s)).length by omega);have As:(thr L (n+s) p:Int)<(n:Int)+(s:Int):=by have:=(fG (show p<(there L (n+s)).length by omega)).1;omega
                 have Ao:=pO (Gf.mR (rB j) (fun q=>f (thr L (n+s) q) k) p) (Gf.dO (f (thr L (n+s) p) k) (rB j p));have HS:Hid (Gf.dot p (r j) (fun q=>f (thr L (n+s) q) k)^^^Gf.mul (r j p) (f (thr L (n+s) p) k)=Gf.dot (p+1) (r j) (fun q=>f (thr L (n+s) q) k)):=rfl;clear e1 e2 e3 e4;go_wp2_with fail;go_quiet (first|(go_at_call 125;refine Calls.quiet_of_same (jL _ _ _ (rB j p) (bf (thr L (n+s) p) k))))
                 go_wp2_with fail;exact⟨⟨p+1,by omega,by go_num,cA (by rw[HS.out]),hJ,⟨A4.os,A4.tape,A4.output,A4.size,A4.block⟩⟩,by simp[intOf];omega⟩
                ·have ep:n=p:=by omega
                 subst ep;have HX:Hid (Gf.dot n (r j) (fun q=>f (thr L (n+s) q) k)=D j k):=by rw[Az.out];rfl
                 rw[HX.out];have u1:=hJ.cell hk;rw[a1H]at u1;have z1:=hJ.frozen k;have u2:=(B3.below Aa).top i B2;have u3:=(B3.below Aa).row i B2 j hj;rw[c9G]at u2 u3;have Ao:=pO (Gf.mR (Gf.eK n i) (fun l=>D l k) j) (Gf.dO (D j k) (Gf.eK n i j));have HP:=a2M (d':=Gf.dot j (Gf.bH n i) (fun l=>D l k)^^^Gf.mul (Gf.bH n i j) (D j k)) hJ;have Be:=A4.setCell (p:=⟨wo.heap.size,k,none⟩) (c9C _) (.int .u8 ((Gf.dot j (Gf.bH n i) (fun l=>D l k)^^^Gf.mul (Gf.bH n i j) (D j k):Nat):Int));have v1:({wr with A9:=wr.drawn+1}:World).cell? (aD wo.heap.size k)=some (.int .u8 (Gf.dot j (Gf.bH n i) (fun l=>D l k):Nat)):=u1;have v2:({wr with A9:=wr.drawn+1}:World).cell? (aD g i)=some (.slice (some ⟨G i,0,none⟩) n (K i)):=u2;have v3:({wr with A9:=wr.drawn+1}:World).cell? ⟨G i,j,none⟩=some (.int .u8 (Gf.bH n i j:Nat)):=u3;clear hJ;go_wp2_with fail;refine wp_region_still_tail 17 (by kernel_rfl) (by kernel_rfl) ?_;simp only[List.take_succ_cons,List.take_zero,List.drop_succ_cons,List.drop_zero];iterate 14 still_step
                 still_call (jL _ _ _ (Gf.eK n i j) (bD j k))
                 iterate 2 still_step
                 refine wpStill_nil ?_;go_wp2_with fail;exact⟨⟨j+1,by omega,by go_num,HP.drew,Be.drew⟩,by simp[intOf];omega⟩
              ·have ej:n=j:=by omega
               subst ej;have Bu:wi.rowIs wo.heap.size 5 c (fun y=> .int .u8 (dV (k+1) (Gf.mm n (Gf.bH n) D i) (fun _=>0) y:Nat)):=hJ.congr (fun y _=>by rw[←a1C];rfl);clear hJ;go_wp2_with fail;exact⟨⟨k+1,by omega,by go_num,Bu,A4⟩,by simp[intOf];omega⟩
            ·have ek:c=k:=by omega
             subst ek;have hF:aY wm wo.heap.size 5 c (fun y=> .int .u8 (Gf.mm n (Gf.bH n) D i y:Nat)):=iE (hR.congr (fun y hy=>by rw[show dV c (Gf.mm n (Gf.bH n) D i) (fun _=>0) y=Gf.mm n (Gf.bH n) D i y from if_pos hy]));have A3:=(Below.refl wm.heap.size wm).alloc (c9C _) (.cells #[.slice (some (aD wo.heap.size 0)) c c] 59);have AX:=(hA.below Ai).below A3;have rX:=hF.alloc (.cells #[.slice (some (aD wo.heap.size 0)) c c] 59);have bX:=bt (bt Ak Ai) A3;clear hR hF hA;go_wp2_with (at_builtin;refine wpList_append_own _ rfl (.tmp 171) (.tmp 173) 86 rfl w5.heap.size 59 i0 nS 1 24 underlying86 hi Aw Ay B1 rfl (by decide) _ _ _ rfl AX.own (aD wm.heap.size 0) 1 1 [.slice (some (aD wo.heap.size 0)) c c] rfl rfl cZ (by intro u hu;simp at hu;subst hu;rfl) (by unfold maxLen;omega) (by omega) bX.size ?_;intro v1 w6 hown1 hgrow1 _);have A1:=AX.step ⟨Ak.size,rX⟩ hown1 hgrow1;have b6:=bX.grown hgrow1 bX.size (fun x hx=>(AX.own.lt x hx).1);clear hown1 hgrow1 AX rX bX A3 Ai;go_wp2_with fail;exact⟨⟨i+1,by omega,by go_num,⟨_,_,A1⟩,b6⟩,by simp[intOf];omega⟩
          ·have ei:i=n+s:=by omega
           subst ei;have Ax:Mx wo _ (n+s) c (Gf.mm n (Gf.bH n) D):=hA.mx (Gf.oS (Gf.eK n) n D) ⟨by omega,by omega,Bj,Ag⟩;have Bh:=hd8 Ax;clear hA B7 Ax;go_wp2_with fail;go_ret2
           exact⟨⟨_,r,by rw[HE.out];rfl,fun _=>⟨rB,An.out⟩,by rw[HE.out,Ab.out,←Az.out];exact Or.inl ⟨rfl,Bh.out⟩⟩,bt Ar Ak⟩
        ·exact(Gf.lT (by omega) (fun p hp=>by have:=(fG (show p<(there L (n+s)).length by omega)).1;omega) (fun p q hp hq hne=>a5N (by omega) (by omega) hne) hs).elim
theorem b8W(v:Value)(N:Nat)(L:Nat→Nat)(f:Nat→Nat→Nat)(d:Int)(w:World)(h:Arg w v N L f)(hN:N≤maxLen):
  Calls prog 97 #[v,iV d] w fun e w'=> ∃v' r,e=.returned (.tuple #[v',iV (eG d N L:Nat)])∧(eG d N L=0→Gf.Bd2 r∧Gf.Und d.toNat (fun p=>Gf.bH d.toNat (thr L N p)) r)∧
   Out w' (eG d N L) v' N (L (thr L N 0)) (Gf.mm d.toNat (Gf.bH d.toNat) (Gf.mm d.toNat r (fun p=>f (thr L N p))))∧Bl w w':=by
 obtain⟨A,A0,R,C,hv,_⟩:=h.lies;subst hv;by_cases hw:bP d ((N:Int)-d)≠0
 ·rw[show eG d N L=5 from if_pos hw];exact(a7L _ N A A0 rfl d w hN hw).mono fun e w' ⟨h1,h2⟩=>⟨_,f,h1,fun h=>absurd h (by decide),Or.inr ⟨Or.inl (by decide),rfl⟩,h2⟩
 ·have A1: ¬(d<1∨8<d∨(N:Int)-d<0∨4<(N:Int)-d):=fun h=>hw (by rw[cC h];decide);obtain⟨n,rfl⟩:=d0I (show 0≤d by omega);obtain⟨s,rfl⟩: ∃s,N=n+s:=⟨N-n,by omega⟩;exact(a7F A A0 n s L f w h (by omega) (by omega) (by omega)).mono fun e w' ⟨⟨v',r,h1,h2,h3⟩,h4⟩=>⟨v',r,h1,h2,h3,h4⟩
theorem b1P(A:Option Addr)(cap n s:Nat)(L:Nat→Nat)(g:Nat→Nat→Nat)(seg:Int)(w:World)(h:Lls w (.slice A (n+s) cap) (n+s) L g)(h1:1≤n)(h2:n≤8)(h3:s≤4):
  Calls prog 64 #[.slice A (n+s) cap,iV seg,iV n] w fun e w'=> ∃v',e=.returned (.tuple #[v',iV (cR seg n (n+s) L g:Nat)])∧a8O w' (cR seg n (n+s) L g) v' n (n+s) (Seg.rl seg L g) (Seg.rf g) (Seg.rz g (thr (Seg.rl seg L g) (n+s) 0))∧Bl w w':=by
 have Ba:(n:Int)+(s:Int)-(n:Int)=(s:Int):=by omega
 have HW:=fun w'=>dY (n:Int) (s:Int) w';rw[cN (by omega)]at HW;have bd:=h.bd;have B8:Gf.Bd2 (Seg.rf g):=fun i k=>bd i (k+7);have HL:Hid (∀w',Bl w w'→ ∀r,r<n+s→ ∃b o R K,A=some (aD b o)∧w'.cell? (aD b (o+r))=some (.slice R (L r) K)∧cF w' (.slice R (L r) K) (L r) (g r)):=fun w' hb r hr=>(h.below hb).at hr;have B1:Hid (∀r,r<n+s→ ∀R K b o,A=some (aD b o)→w.cell? (aD b (o+r))=some (.slice R (L r) K)→cF w (.slice R (L r) K) (L r) (g r)):=fun r hr R K b o e1 e2=>by
  obtain⟨b',o',R',K',q1,q2,q3⟩:=h.at hr;rw[e1]at q1;cases q1
  rw[e2]at q2;cases q2
  exact q3
 obtain⟨i0,An,hh⟩:=c9J.1 Tryz.infoRow;simp only[Prod.mk.injEq]at hh;obtain⟨Ah,Ak,A6⟩:=hh;have Af:Hid (bP (n:Int) (((n+s:Nat):Int)-(n:Int))=0):=cN (by omega);clear h;go_enter func64,ntmps64
 go_wp2_with fail;refine(HW _).mono ?_;rintro e w1 ⟨rfl,b1⟩;clear HW;go_wp2_with fail;go_loopw [9,10,11,31] (fun y z b x wr=> ∃(k:Nat) (U:Nat→Value) (sz:Nat) (bb:Bool),k≤n+s∧x=iV k∧z=iV sz∧b=.bool bb∧wr.ownsRow w.heap.size 59 1 y k ((List.range k).map U)∧Hid (∀i,i<k→cF w (U i) (Seg.rl seg L g i) (Seg.rf g i))∧Hid (∀i,i<k→Seg.right seg L g i→Seg.rz g i=sz∧bb=true)∧Hid (bb=true→ ∃i,i<k∧Seg.right seg L g i)∧Bl w wr) (fun _ _ _ x _=>n+s-(intOf x).toNat)
 case atStart=>exact⟨0,fun _=>nS,0,false,c9D _,rfl,rfl,rfl,World.ownsRow_nil _ _ _ 1,(fun i hi=>absurd hi (c9L i)),(fun i hi=>absurd hi (c9L i)),(fun q=>by cases q),b1⟩
 case round=>
  obtain⟨k,U,sz,bb,hk,rfl,rfl,rfl,ho,HU,HZ,HB,A0⟩:=hrel;by_cases A9:k<n+s
  ·have Aj:(k:Int)<(n:Int)+(s:Int):=by omega
   have Bj:(k:Int)<((n+s:Nat):Int):=by omega
   obtain⟨b,o,R,K,rfl,t0,hy⟩:=HL.out wr A0 k A9
   have Bb:Hid (∀k',k'=k→cF w (.slice R (L k) K) (L k) (g k)):=fun _ _=>B1.out k A9 R K b o rfl (by
    obtain⟨b',o',R',K',q1,q2,q3⟩:=HL.out w (Below.refl _ _) k A9;cases q1
    rw[cB8 A0 q2]at t0;cases t0
    exact q2)
   have HR:=sV _ _ (g k) seg k wr hy;have A1:=fun(w':World) (hb':Bl wr w') (q:Crc.aM (g k) (L k)=0)=>a5T _ _ (g k) w' (hy.below hb') q;obtain⟨P,hP⟩: ∃P:Prop,P=Seg.right seg L g k:=⟨_,rfl⟩;have Am:=hd8 hP;have Ax:P=(Crc.aM (g k) (L k)=0∧((g k 1:Nat):Int)=seg∧g k 2=k):=hP;rw[←Ax]at HR;clear hP Ax;by_cases hp:P
   case neg=>
    have Aa:=hd8 hp;clear hp hy A1;go_wp2_with fail;refine HR.mono ?_;rintro e w2 ⟨⟨y,rfl,Ad⟩,b2⟩;obtain rfl:y=false:=by cases y with|false=>rfl|true=>exact absurd (Ad.1 rfl) Aa.out
    have A4:=(Below.refl w2.heap.size w2).alloc (c9C _) (.cells #[nS] 59);have ox:=aK (aK ho b2) A4;have bX:=bt (bt A0 b2) A4;have Ac:=ox.lt;clear HR Ad ho t0;go_wp2_with (at_builtin;refine wpList_append_own _ rfl (.tmp 41) (.tmp 42) 86 rfl w.heap.size 59 i0 nS 1 24 underlying86 An Ah Ak A6 rfl (by decide) _ _ _ rfl ox (aD w2.heap.size 0) 1 1 [nS] rfl rfl cZ (by intro u hu;simp at hu;subst hu;rfl) (by unfold maxLen;omega) (by omega) bX.size ?_;intro v7 w7 hown1 hgrow1 _);have b7:=bX.grown hgrow1 bX.size (fun x hx=>(Ac x hx).1);rw[←pS]at hown1;refine⟨⟨k+1,_,sz,bb,by omega,by go_num,rfl,rfl,hown1,(fun i hi=>?_),(fun i hi q=>?_),(fun q=>?_),b7⟩,by simp[intOf];omega⟩
    ·by_cases e:i=k
     ·rw[e,sG,Seg.c2T (fun q=>Aa.out (by rw[Am.out];exact q))];exact cF.none w (B8 k)
     ·rw[rZ _ _ e];exact HU.out i (by omega)
    ·by_cases e:i=k
     ·rw[e]at q;exact absurd (show P by rw[Am.out];exact q) Aa.out
     ·exact HZ.out i (by omega) q
    ·obtain⟨i,hi,q2⟩:=HB.out q;exact⟨i,by omega,q2⟩
   case pos=>
    have Aa:Hid P:=hp;have A7:Hid (Seg.right seg L g k):=by
     show Seg.right seg L g k;rw[←Am.out];exact hp
    have A1:=fun(w':World) (hb':Bl wr w')=>A1 w' hb' A7.out.1;clear hp;go_wp2_with fail;refine HR.mono ?_;rintro e w2 ⟨⟨y,rfl,Ad⟩,b2⟩;obtain rfl:y=true:=Ad.2 Aa.out;have ho:=aK ho b2;have A1:=A1 _ b2;have A0:=bt A0 b2;clear HR Ad t0 hy;go_wp2_with fail;refine A1.mono ?_;rintro e w3 ⟨A3,C3,rfl,D3,b3⟩;have B3:=hd8 (D3 w (Bb.out k rfl));have ho:=aK ho b3;have A0:=bt A0 b3;have bV:=(Below.refl w3.heap.size w3).alloc (c9C _) (.cells #[iV (g k 1:Nat),iV (g k 2:Nat),iV (g k 3*256+g k 4:Nat),.slice A3 (L k-11) C3] 137);have ho:=aK ho bV;have A0:=bt A0 bV;have hz:g k 3*256+g k 4=Seg.rz g k:=rfl;rw[hz]at bV ho A0⊢;have A4:=(Below.refl (w3.alloc (.cells #[iV (g k 1:Nat),iV (g k 2:Nat),iV (Seg.rz g k:Nat),.slice A3 (L k-11) C3] 137)).heap.size (w3.alloc (.cells #[iV (g k 1:Nat),iV (g k 2:Nat),iV (Seg.rz g k:Nat),.slice A3 (L k-11) C3] 137))).alloc (c9C _) (.cells #[.slice A3 (L k-11) C3] 59);have ox:=aK ho A4;have bX:=bt A0 A4;have Ac:=ox.lt;have cx: ∀j u,[Value.slice A3 (L k-11) C3][j]?=some u→((w3.alloc (.cells #[iV (g k 1:Nat),iV (g k 2:Nat),iV (Seg.rz g k:Nat),.slice A3 (L k-11) C3] 137)).alloc (.cells #[.slice A3 (L k-11) C3] 59)).cell? ((⟨w3.heap.size+1,0,none⟩:Addr).add j)=some u:=fun j u hj=>by
     have q:=cZ (w:=w3.alloc (.cells #[iV (g k 1:Nat),iV (g k 2:Nat),iV (Seg.rz g k:Nat),.slice A3 (L k-11) C3] 137)) (t:=59) j u hj;have Bi:(w3.alloc (.cells #[iV (g k 1:Nat),iV (g k 2:Nat),iV (Seg.rz g k:Nat),.slice A3 (L k-11) C3] 137)).heap.size=w3.heap.size+1:=by simp
     rw[Bi]at q;exact q
    clear A1 D3 hz A4 ho b3 bV;cases bb with
    |false=>
     have A2:Hid (∀i,i<k→Seg.right seg L g i→Seg.rz g i=Seg.rz g k):=fun i hi q=>by
      have:=(HZ.out i hi q).2;cases this
     generalize hzk:Seg.rz g k=zk at*;go_wp2_with (at_builtin;refine wpList_append_own _ rfl (.tmp 58) (.tmp 61) 86 rfl w.heap.size 59 i0 nS 1 24 underlying86 An Ah Ak A6 rfl (by decide) _ _ _ rfl ox (aD (w3.heap.size+1) 0) 1 1 [.slice A3 (L k-11) C3] rfl rfl cx (by intro u hu;simp at hu;subst hu;rfl) (by unfold maxLen;omega) (by omega) bX.size ?_;intro v7 w7 hown1 hgrow1 _);have b7:=bX.grown hgrow1 bX.size (fun x hx=>(Ac x hx).1);rw[←pS]at hown1;refine⟨⟨k+1,_,zk,true,by omega,by go_num,rfl,rfl,hown1,(fun i hi=>?_),(fun i hi q=>?_),(fun _=>⟨k,by omega,A7.out⟩),b7⟩,by simp[intOf];omega⟩
     ·by_cases e:i=k
      ·rw[e,sG,Seg.a9S A7.out];exact B3.out
      ·rw[rZ _ _ e];exact HU.out i (by omega)
     ·by_cases e:i=k
      ·rw[e];exact⟨hzk,rfl⟩
      ·exact⟨A2.out i (by omega) q,rfl⟩
    |true=>
     by_cases Ab:Seg.rz g k=sz
     ·have A2:Hid (∀i,i<k→Seg.right seg L g i→Seg.rz g i=Seg.rz g k):=fun i hi q=>by
       rw[Ab];exact(HZ.out i hi q).1
      have tz:(((Seg.rz g k:Nat):Int) !=((sz:Nat):Int))=false:=by rw[Ab];simp
      clear Ab;generalize hzk:Seg.rz g k=zk at*;go_wp2_with (at_builtin;refine wpList_append_own _ rfl (.tmp 58) (.tmp 61) 86 rfl w.heap.size 59 i0 nS 1 24 underlying86 An Ah Ak A6 rfl (by decide) _ _ _ rfl ox (aD (w3.heap.size+1) 0) 1 1 [.slice A3 (L k-11) C3] rfl rfl cx (by intro u hu;simp at hu;subst hu;rfl) (by unfold maxLen;omega) (by omega) bX.size ?_;intro v7 w7 hown1 hgrow1 _);have b7:=bX.grown hgrow1 bX.size (fun x hx=>(Ac x hx).1);rw[←pS]at hown1;refine⟨⟨k+1,_,zk,true,by omega,by go_num,rfl,rfl,hown1,(fun i hi=>?_),(fun i hi q=>?_),(fun _=>⟨k,by omega,A7.out⟩),b7⟩,by simp[intOf];omega⟩
      ·by_cases e:i=k
       ·rw[e,sG,Seg.a9S A7.out];exact B3.out
       ·rw[rZ _ _ e];exact HU.out i (by omega)
      ·by_cases e:i=k
       ·rw[e];exact⟨hzk,rfl⟩
       ·exact⟨A2.out i (by omega) q,rfl⟩
     ·have HE:Hid (cR seg n (n+s) L g=8):=by
       show cR seg n (n+s) L g=8;obtain⟨i,hi,q⟩:=HB.out rfl;unfold cR
       rw[if_neg (fun q=>q Af.out),if_pos (fun q2=>Ab (by
        rw[←(HZ.out i hi q).1]
        exact q2 k A9 i (by omega) A7.out q))]
      have tz:(((Seg.rz g k:Nat):Int) !=((sz:Nat):Int))=true:=by rw[bne_iff_ne];omega
      generalize hzk:Seg.rz g k=zk at*;clear Ab ox bX Ac cx;go_wp2_with fail;go_ret2
      exact⟨_,by rw[HE.out];rfl,Or.inr ⟨by rw[HE.out];decide,rfl⟩,A0⟩
  ·obtain rfl:k=n+s:=by omega
   have B4:Hid (Seg.a9B seg L g (n+s)):=fun i hi j hj q1 q2=>by rw[(HZ.out i hi q1).1,(HZ.out j hj q2).1]
   have LS:=b2X ho HU.out A0 B8;have HM:=b8W u9 (n+s) (Seg.rl seg L g) (Seg.rf g) (n:Int) wr LS.arg (by unfold maxLen;omega);rw[c9Q]at HM;clear ho LS HU HL B1;by_cases hE:eG (n:Int) (n+s) (Seg.rl seg L g)=0
   case neg=>
    have HE:Hid (cR seg n (n+s) L g=eG (n:Int) (n+s) (Seg.rl seg L g)):=by
     show cR seg n (n+s) L g=_;unfold cR;rw[if_neg (fun q=>q Af.out),if_neg (fun q=>q B4.out),if_pos hE]
    have Be:Hid (cR seg n (n+s) L g≠0):=by
     show cR seg n (n+s) L g≠0;rw[HE.out];exact hE
    generalize eG (n:Int) (n+s) (Seg.rl seg L g)=E at HM HE hE;have B9:((E:Int)==0)=false:=by rw[beq_eq_false_iff_ne];omega
    have Bn:((E:Int) !=0)=true:=by rw[bne,B9];rfl
    clear hE;go_wp2_with fail;refine HM.mono ?_;rintro e w2 ⟨v2,r,rfl,_,_,b2⟩;have b2:=bt A0 b2;clear HM;go_wp2_with fail;go_ret2
    exact⟨_,by rw[HE.out];rfl,Or.inr ⟨Be.out,rfl⟩,b2⟩
   case pos=>
    have B5:0<(there (Seg.rl seg L g) (n+s)).length:=by
     refine Nat.pos_of_ne_zero fun q=>?_;unfold eG at hE;rw[if_neg (fun q=>q Af.out),if_pos (by rw[q,c9Q];omega)]at hE;cases hE
    obtain⟨B2,Bg⟩:=fG B5;have A2:=hd8 (((HZ.out _ B2 (Seg.xP Bg)).1).symm);have HE:Hid (cR seg n (n+s) L g=if n*Seg.rl seg L g (thr (Seg.rl seg L g) (n+s) 0)<Seg.rz g (thr (Seg.rl seg L g) (n+s) 0)then 8 else 0):=by
     show cR seg n (n+s) L g=_;unfold cR;rw[if_neg (fun q=>q Af.out),if_neg (fun q=>q B4.out),if_neg (fun q=>q hE),c9Q]
    rw[hE]at HM;generalize hc:Seg.rl seg L g (thr (Seg.rl seg L g) (n+s) 0)=c at*;clear hE B5 B2;go_wp2_with fail;refine HM.mono ?_;rintro e w2 ⟨v2,r,rfl,Au,hO,b2⟩;obtain⟨Az,B0⟩:=Au trivial;have Ao:Mx w2 v2 (n+s) c (Gf.mm n (Gf.bH n) (Gf.mm n r (fun p=>Seg.rf g (thr (Seg.rl seg L g) (n+s) p)))):=by
     rcases hO with⟨_,q⟩|⟨q,_⟩
     ·exact q
     ·omega
    have b2:=bt A0 b2;obtain⟨_,_,c1,c2⟩:=Ao.dim;have At:=Ao.bd;obtain⟨bm,om,cm,G,O,K,rfl,hm⟩:=Ao.lies;have Bf:Hid (∃r,Gf.Bd2 r∧Gf.Und n (fun p=>Gf.bH n (thr (Seg.rl seg L g) (n+s) p)) r∧Gf.mm n (Gf.bH n) (Gf.mm n r (fun p=>Seg.rf g (thr (Seg.rl seg L g) (n+s) p)))=Gf.mm n (Gf.bH n) (Gf.mm n r (fun p=>Seg.rf g (thr (Seg.rl seg L g) (n+s) p)))):=⟨r,Az,B0,rfl⟩;generalize hF:Gf.mm n (Gf.bH n) (Gf.mm n r (fun p=>Seg.rf g (thr (Seg.rl seg L g) (n+s) p)))=F at*;clear HM hO Au Bf;go_wp2_with fail;go_loop [18,19] (fun y x=> ∃i:Nat,i≤n∧x=iV i∧y=.string (fF ((List.range i).flatMap (fun p=>(List.range c).map (F p))))) (fun _ x=>n-(intOf x).toNat)
    case atStart=>exact⟨0,c9D _,rfl,rfl⟩
    case round=>
     obtain⟨i,hi,rfl,rfl⟩:=hrel;have A5:(fF ((List.range i).flatMap (fun p=>(List.range c).map (F p)))).size=i*c:=by
      rw[a0U,fJ _ c _ (fun _ _=>by simp),d1E]
     by_cases A9:i<n
     ·have Aj:(i:Int)<(n:Int):=by omega
      have Bh:(i:Int)<(n:Int)+(s:Int):=by omega
      have Bc:i<n+s:=by omega
      have t1:=hm.top i (by omega);have q1:(convert 59 9 (.slice (some ⟨G i,O i,none⟩) c (K i))).run prog w2=.ok (.string (uT (F i) c)) w2:=run_convert_bytes_arg (P:=prog) w2 59 5 underlying59 underlying5 (G i) (O i) c (K i) ((List.range c).map fun j=>(F i j:Int)) (by simp) (fun j hj=>by rw[yM _ _ _ hj];exact hm.row i (by omega) j hj) 9 underlying9;rw[b4X]at q1;have Aq:Hid (fF ((List.range i).flatMap (fun p=>(List.range c).map (F p)))++fF ((List.range c).map (F i))=fF ((List.range (i+1)).flatMap (fun p=>(List.range c).map (F p)))):=by
       show _=_;rw[b9R,d1G,d0H];simp
      have A6:(fF ((List.range c).map (F i))).size=c:=by rw[a0U];simp
      have Ap:i*c≤8*400:=d0Y (by omega) c2;have A8: ¬9223372036854775807<(fF ((List.range i).flatMap (fun p=>(List.range c).map (F p)))).size+(fF ((List.range c).map (F i))).size:=by rw[A5,A6];omega
      generalize fF ((List.range i).flatMap (fun p=>(List.range c).map (F p)))=S at Aq A8 A5;generalize fF ((List.range c).map (F i))=T at Aq A8 q1 A6;clear hm;go_wp2_with fail;exact⟨⟨i+1,by omega,by go_num,by rw[Aq.out]⟩,by simp[intOf];omega⟩
     ·obtain rfl:i=n:=by omega
      have Ap:i*c≤8*400:=d0Y h2 c2;have Aw:Hid (∀j,j<i*c→((List.range i).flatMap (fun p=>(List.range c).map (F p))).getD j 0=F (j/c) (j%c)):=fun j hj=>c5L F i c j (by omega) hj;have B7:Hid (∀x,x∈(List.range i).flatMap (fun p=>(List.range c).map (F p))→x<256):=fun x hx=>by
       obtain⟨p,_,hx⟩:=d2H.1 hx;obtain⟨k,_,rfl⟩:=d0G.1 hx;exact At p k
      have As:Hid (((List.range i).flatMap (fun p=>(List.range c).map (F p))).length=i*c):=by
       show _=_;rw[fJ _ c _ (fun _ _=>by simp),d1E]
      generalize (List.range i).flatMap (fun p=>(List.range c).map (F p))=fl at Aw B7 As A5;generalize hic:i*c=ic at*;by_cases Ay:ic<sz
      ·have Al:(ic:Int)<(sz:Int):=by omega
       have Ae:Hid (cR seg i (i+s) L g=8):=by
        show cR seg i (i+s) L g=8;rw[HE.out,←A2.out,if_pos Ay]
       generalize fF fl=S at A5;clear hm;go_wp2_with fail;go_ret2
       exact⟨_,by rw[Ae.out];rfl,Or.inr ⟨by rw[Ae.out];decide,rfl⟩,b2⟩
      ·have Al: ¬(ic:Int)<(sz:Int):=by omega
       have Ae:Hid (cR seg i (i+s) L g=0):=by
        show cR seg i (i+s) L g=0;rw[HE.out,←A2.out,if_neg Ay]
       have Bm:(sz:Int)≤(ic:Int):=by omega
       have Ai:((fF fl).extract 0 sz).size=sz:=by
        rw[ByteArray.size_extract,A5];omega
       have Ag:=Lib.run_convert_string_bytes (P:=prog) w2 9 59 5 ((fF fl).extract 0 sz) underlying9 underlying59 underlying5;have b3:=mF w2 5 ((fF fl).extract 0 sz);have Av:=grownCap_le_maxLen w2 sz 0 5 (by unfold maxLen;omega);have B6:=grownCap_ge w2 sz 0 5;have Ar:Hid (cF (Lib.bytesWorld w2 5 ((fF fl).extract 0 sz)) (.slice (some (aD w2.heap.size 0)) sz (grownCap w2 sz 0 5)) sz (fun k=>F (k/c) (k%c))):=by
        refine⟨fun k=>At _ _,some (aD w2.heap.size 0),_,rfl,B6,Av,fun j hj=>⟨w2.heap.size,0,rfl,?_⟩⟩;rw[c9G,Lib.bytesWorld_cell _ _ _ _ (by rw[Ai];exact hj),b0A B7.out (by rw[As.out];omega) hj,Aw.out j (by omega)]
       rw[Ai]at Ag;generalize Lib.bytesWorld w2 5 ((fF fl).extract 0 sz)=w3 at Ag b3 Ar;generalize grownCap w2 sz 0 5=C3 at Ag Ar;have b3:=bt b2 b3;generalize fF fl=S at A5 Ag;have Bk:Hid (∃r,Gf.Bd2 r∧Gf.Und i (fun p=>Gf.bH i (thr (Seg.rl seg L g) (i+s) p)) r∧cF w3 (.slice (some (aD w2.heap.size 0)) sz C3) (Seg.rz g (thr (Seg.rl seg L g) (i+s) 0)) (fun k=>Gf.mm i (Gf.bH i) (Gf.mm i r (fun p=>Seg.rf g (thr (Seg.rl seg L g) (i+s) p))) (k/Seg.rl seg L g (thr (Seg.rl seg L g) (i+s) 0)) (k%Seg.rl seg L g (thr (Seg.rl seg L g) (i+s) 0)))):=by
        refine⟨r,Az,B0,?_⟩;rw[hF,hc,←A2.out];exact Ar.out
       clear hm Av B6 Ai;go_wp2_with fail;go_ret2
       exact⟨_,by rw[Ae.out];rfl,Or.inl ⟨Ae.out,Bk.out⟩,b3⟩
theorem a8B(A:Option Addr)(N cap:Nat)(seg d:Int)(w:World)(hN:N≤maxLen)(h:bP d ((N:Int)-d)≠0):
  Calls prog 64 #[.slice A N cap,iV seg,iV d] w fun e w'=>e=.returned (.tuple #[nS,iV 5])∧Bl w w':=by
 unfold maxLen at hN;have H:Hid (∀w,Calls prog 13 #[iV d,iV (wrap64 ((N:Int)-d))] w fun e w'=>e=.returned (iV 5)∧Bl w w'):=fun w=>by
  have:=dY d (wrap64 ((N:Int)-d)) w
  rw[cC (by
   unfold bP at h;split at h
   ·rename_i hb;unfold wrap64;omega
   ·exact absurd rfl h)]at this
  exact this
 clear h hN;go_enter func64,ntmps64
 go_wp2_with fail;refine(H.out _).mono ?_;rintro e w1 ⟨rfl,b1⟩;go_wp2_with fail;go_ret2
 exact⟨rfl,b1⟩
theorem a7P(v:Value)(N:Nat)(L:Nat→Nat)(g:Nat→Nat→Nat)(seg d:Int)(w:World)(h:Lls w v N L g):
  Calls prog 64 #[v,iV seg,iV d] w fun e w'=> ∃v',e=.returned (.tuple #[v',iV (cR seg d N L g:Nat)])∧a8O w' (cR seg d N L g) v' d.toNat N (Seg.rl seg L g) (Seg.rf g) (Seg.rz g (thr (Seg.rl seg L g) N 0))∧Bl w w':=by
 have hN:=h.len;obtain⟨A,C,rfl⟩:=h.shape;by_cases hw:bP d ((N:Int)-d)=0
 ·have hb: ¬(d<1∨8<d∨(N:Int)-d<0∨4<(N:Int)-d):=fun q=>by rw[cC q]at hw;cases hw
  obtain⟨n,rfl⟩:=d0I (show 0≤d by omega);obtain⟨s,rfl⟩: ∃s,N=n+s:=⟨N-n,by omega⟩;exact b1P A C n s L g seg w h (by omega) (by omega) (by omega)
 ·have hE:cR seg d N L g=5:=if_pos hw;refine(a8B A N C seg d w (by unfold maxLen;omega) hw).mono ?_;rintro e w' ⟨rfl,hb⟩;exact⟨_,by rw[hE];rfl,Or.inr ⟨by rw[hE];decide,rfl⟩,hb⟩
end Go.Proofs.YtmcaejooaaahdaaGreat
