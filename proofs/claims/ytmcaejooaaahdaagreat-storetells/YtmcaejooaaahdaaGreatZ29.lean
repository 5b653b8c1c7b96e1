import Derived.Test.YtmcaejooaaahdaaGreatZ21
import Derived.StillTailTactics
set_option maxHeartbeats 8000000
set_option maxRecDepth 100000
namespace Go.Proofs.YtmcaejooaaahdaaGreat
open Go.Proofs.Tryz
open Go.RowKit
theorem mH(f:Nat→Nat)(n:Nat):(vV f n).length=n:=by simp[vV]
theorem a0X(f:Nat→Nat)(n j:Nat)(h:j<n):(vV f n)[j]?=some (.int .u8 (f j:Nat)):=by simp[vV,h]
theorem b9Z(n k:Nat)(f:Nat→Nat→Nat)(j:Nat)(_hk:k<n)(hj:j<n+n):
  (if j=n+k then Value.int .u8 1 else(vV (f k) n++List.replicate n (Value.int .u8 0)).getD j nS)=Value.int .u8 (Gf.kP n f k j:Nat):=by
 unfold Gf.kP;by_cases h1:j=n+k
 ·rw[if_pos h1,if_neg (by omega),show j-n=k by omega,Gf.kT];rfl
 ·rw[if_neg h1];by_cases h2:j<n
  ·rw[if_pos h2,List.getD,d0M (by rw[mH];exact h2),a0X _ _ _ h2];rfl
  ·rw[if_neg h2,Gf.gU (by omega),List.getD,d0S (by rw[mH];omega),mH];simp[show j-n<n by omega]
theorem a9J(v:Value)(n:Nat)(f:Nat→Nat→Nat)(w:World)(h:Mx w v n n f):
  Calls prog 128 #[v] w fun e w'=>((∃v' r,e=.returned (.tuple #[v',iV 0])∧Mx w' v' n n r∧Gf.Und n f r)∨(e=.returned (.tuple #[nS,iV 6])∧Gf.a5U n f))∧Bl w w':=by
 have ok:=h.ok;have H1:=fun w' hb'=>jX v n _ f w' (h.bE (w':=w') hb').arg;rw[ok]at H1;have B3:=h.bd;obtain⟨d1,d2,d3,d4⟩:=h.dim;obtain⟨b,o,p,G0,O0,K0,rfl,hm⟩:=h.lies;have h0:(0:Int)<(n:Int):=by omega
 obtain⟨i0,hi,hh⟩:=c9J.1 Tryz.infoRow;simp only[Prod.mk.injEq]at hh;obtain⟨B8,B9,Ba⟩:=hh;obtain⟨i1,Ar,B4⟩:=c9J.1 Tryz.infoByte;simp only[Prod.mk.injEq]at B4;obtain⟨Ax,Ay,Az⟩:=B4;clear h ok;go_enter func128,ntmps128
 go_wp2_with fail;refine(H1 _ (Below.refl _ _)).mono ?_;rintro e w1 ⟨rfl,b1⟩;have t1:w1.cell? (aD b o)=some (.slice (some ⟨G0 0,O0 0,none⟩) n (K0 0)):=by simpa using(hm.bE b1).top 0 (by omega)
 clear H1;go_wp2_with fail;clear t1;go_loopw [6,35] (fun v i wr=> ∃k:Nat,k≤n∧i=iV k∧(∃G K,Acc wr w.heap.size v k (n+n) G K (Gf.kP n f)∧(∀x y,x<k→y<k→x≠y→G x≠G y)∧ ∀x,x<k→n+n≤K x)∧Bl w wr) (fun _ i _=>n-(intOf i).toNat)
 case atStart=>exact⟨0,c9D _,rfl,⟨fun _=>0,fun _=>0,Acc.start w1 _ _ _ _ _,fun x _ hx=>absurd hx (c9L x),fun x hx=>absurd hx (c9L x)⟩,b1⟩
 case round=>
  clear b1;obtain⟨k,hk,rfl,⟨G,K,hA,A8,A6⟩,hb⟩:=hrel;by_cases As:k<n
  ·have Bo:(k:Int)<(n:Int):=by omega
   obtain⟨wo,rfl⟩: ∃x,x=wr:=⟨wr,rfl⟩;have At:=hm.bE hb;have tk:=At.top k As;have Bt:(n:Int)+(k:Int)<((n+n:Nat):Int):=by omega
   have hE:=aB8 wo (.cells #[] 5);have A5:(wo.alloc (.cells #[] 5)).ownsRow wo.heap.size 5 1 (.slice (some (aD wo.heap.size 0)) 0 0) 0 []:=World.ownsRow_made wo #[] 0 (c9C _) (by unfold maxLen;omega) rfl;have Ac: ∀j u,(vV (f k) n)[j]?=some u→(wo.alloc (.cells #[] 5)).cell? ((⟨G0 k,O0 k,none⟩:Addr).add j)=some u:=fun j u hj=>by
    rcases Nat.lt_or_ge j n with Al|Al
    ·rw[a0X _ _ _ Al]at hj;rw[WideShapes.add_plain,(At.bE hE).row k As j Al,hj]
    ·rw[c9Z (by rw[mH];exact Al)]at hj;cases hj
   have lb:=World.block_lt_of_cell? _ _ tk;clear At;go_wp2_with (first|(at_builtin;refine wpList_append_own _ rfl (.tmp 38) (.tmp 42) 59 rfl wo.heap.size 5 i1 (.int .u8 0) 1 1 underlying59 Ar Ax Ay Az rfl (by decide) _ _ _ rfl A5 ⟨G0 k,O0 k,none⟩ n (K0 k) (vV (f k) n) rfl (by rw[mH];omega) Ac (by intro u hu;obtain⟨l,_,rfl⟩:=d0G.1 hu;rfl) (by unfold maxLen;omega) (by omega) (by simp) ?_;intro v1 w2 hown1 hgrow1 _;rw[c9G,d1C]at hown1;have b2:=hE.grown hgrow1 (by simp) (fun x hx=>(A5.lt x hx).1);obtain⟨v2,w3,B6,Ad,A4⟩:=uW w2 wo.heap.size 59 3 59 5 i1 (.int .u8 0) 1 .i64 .i64 underlying59 underlying3 Ar Ax Ay Az rfl rfl v1 n (vV (f k) n) hown1 d1 n d1 (by omega) (by omega) b2.size;have b3:=b2.grown A4 b2.size (fun x hx=>(hown1.lt x hx).1);obtain⟨g,Ab,rfl,B1,Ah,A2⟩:=eD Ad (by omega);have Bj:=A2.cell (show n+k<n+n by omega);have Bn:=A2.frozen (n+k);have bS:=b3.setCell (p:=⟨g,n+k,none⟩) B1 (.int .u8 1);have bX:=bS.alloc bS.size (.cells #[.slice (some (aD g 0)) (n+n) Ab] 59);have AX:=hA.bE bX;have rX:=(((A2.set (n+k) (.int .u8 1)).alloc (.cells #[.slice (some (aD g 0)) (n+n) Ab] 59)).congr (fun j hj=>b9Z n k f j As hj));have sX:=c9E hb.size bX.size;have cX:=a8T (w:=w3.setCell (aD g (n+k)) (.int .u8 1)) (t:=59) (x:=.slice (some (aD g 0)) (n+n) Ab);rw[Deep.nblk_setCell]at cX)|(at_builtin;refine Lib.wpList_append_run _ rfl (.tmp 43) (.tmp 44) 59 3 rfl _ _ rfl rfl _ _ B6 ?_)|(at_builtin;refine wpList_append_own _ rfl (.tmp 51) (.tmp 53) 86 rfl w.heap.size 59 i0 nS 1 24 underlying86 hi B8 B9 Ba rfl (by decide) _ _ _ rfl AX.own (aD w3.heap.size 0) 1 1 [.slice (some (aD g 0)) (n+n) Ab] rfl rfl cX (by intro u hu;simp at hu;subst hu;rfl) (by unfold maxLen;omega) (by omega) sX ?_;intro v4 w4 hown4 hgrow4 _));have A1:=AX.step ⟨c9E hb.size B1,rX⟩ hown4 hgrow4;have b4:Bl w w4:=(hb.trans (bX.mono hb.size)).grown hgrow4 sX (fun x hx=>(AX.own.lt x hx).1);have Ai: ∀x y,x<k+1→y<k+1→x≠y→lS G k g x≠lS G k g y:=fun x y hx hy hne=>by
    have low: ∀z,z<k→G z<wo.heap.size:=fun z hz=>(hA.row z hz).2.lt;unfold lS;by_cases ex:x=k
    ·have:=low y (by omega);rw[if_pos ex,if_neg (by omega)];omega
    ·by_cases ey:y=k
     ·have:=low x (by omega);rw[if_neg ex,if_pos ey];omega
     ·rw[if_neg ex,if_neg ey];exact A8 x y (by omega) (by omega) hne
   have Bh: ∀x,x<k+1→n+n≤lS K k Ab x:=fun x hx=>by
    unfold lS;by_cases ex:x=k
    ·rw[if_pos ex];exact Ah
    ·rw[if_neg ex];exact A6 x (by omega)
   clear A6 Ah;clear hown4 hgrow4 AX rX Ad hown1 A5 hgrow1 A4 B6 Ac Bj Bn A2 bS bX b2 b3 hE cX tk lb hA A8;go_wp2_with fail;exact⟨⟨k+1,by omega,by go_num,⟨_,_,A1,Ai,Bh⟩,b4⟩,by simp[intOf];omega⟩
  ·have e8:k=n:=by omega
   subst e8;obtain⟨bw,Bg,rfl,Bi,_,Aj⟩:=eD hA.own d1;have HW:jY wr w.heap.size bw k (k+k) G K (Gf.kP k f):=⟨Aj.congr (fun r hr=>by simp[List.getD,hr]),fun r hr=>(hA.row r hr).2,Bi,fun r hr=>(hA.row r hr).1,A8⟩;clear hA A8 Aj hm Ar Ax Ay Az;go_wp2_with fail;go_loopw [9] (fun i wr=> ∃m:Nat,m≤k∧i=iV ((m:Int)-1)∧(∃G K W,jY wr w.heap.size bw k (k+k) G K W∧Gf.oY k f (fun j=>m≤j∧j<k) W∧ ∀r,r<k→k+k≤K r)∧Bl w wr) (fun i _=>(intOf i+1).toNat)
   case atStart=>exact⟨k,c9C _,rfl,⟨G,K,_,HW,Gf.oY.start B3 (fun j hj=>by omega),A6⟩,hb⟩
   case round=>
    clear HW hb A6;obtain⟨m,hm,rfl,⟨G,K,W,HW,HE,A6⟩,hb⟩:=hrel;by_cases Bp:m=0
    ·subst Bp;rw[show((0:Nat):Int)-1=(-1:Int)from rfl];have HU:=hd8 (HE.done B3 (fun j hj=>⟨c9D _,hj⟩));have A7:=HE.bd;clear HE;have Bx:(k:Int)≤((k+k:Nat):Int):=by omega
     obtain⟨wo,rfl⟩: ∃x,x=wr:=⟨wr,rfl⟩;go_wp2_with fail;go_loopw [17,174] (fun v i wi=> ∃t:Nat,t≤k∧i=iV t∧wi.ownsRow wo.heap.size 59 1 v t ((List.range t).map fun r=> .slice (some ⟨G r,k,none⟩) k (K r-k))∧Bl wo wi) (fun _ i _=>k-(intOf i).toNat)
     case atStart=>exact⟨0,c9D _,rfl,World.ownsRow_nil wo _ _ 1,Below.refl _ _⟩
     case round=>
      obtain⟨t,ht,rfl,A9,A3⟩:=hrel;have HT:=HW.bE A3;by_cases Aa:t<k
      ·have Ag:(t:Int)<(k:Int):=by omega
       have u1:=HT.top.cell Aa;have Bw: ¬K t=k:=by have:=A6 t Aa;omega
       have Au:=aK A9 ((Below.refl wr.heap.size wr).alloc (c9C _) (.cells #[.slice (some ⟨G t,k,none⟩) k (K t-k)] 59));have sX:wo.heap.size≤(wr.alloc (.cells #[.slice (some ⟨G t,k,none⟩) k (K t-k)] 59)).heap.size:=c9E A3.size (by simp);have B7:((List.range t).map fun r=>Value.slice (some ⟨G r,k,none⟩) k (K r-k))++[.slice (some ⟨G t,k,none⟩) k (K t-k)]=(List.range (t+1)).map fun r=>Value.slice (some ⟨G r,k,none⟩) k (K r-k):=by
        rw[d1G,c9U];rfl
       have Be:=hd8 B7;clear A9 HT B7;go_wp2_with (at_builtin;(refine wpList_append_own _ rfl (.tmp 178) (.tmp 182) 169 rfl wo.heap.size 59 i0 nS 1 24 underlying169 hi B8 B9 Ba rfl (by decide) _ _ _ rfl Au (aD wr.heap.size 0) 1 1 [.slice (some ⟨G t,k,none⟩) k (K t-k)] rfl rfl a8T (by intro u hu;simp at hu;subst hu;rfl) (by unfold maxLen;omega) (by omega) sX ?_);intro v1 w1 hown1 hgrow1 _);rw[Be.out]at hown1;have b1:Bl wo w1:=(A3.alloc A3.size (.cells #[.slice (some ⟨G t,k,none⟩) k (K t-k)] 59)).grown hgrow1 sX (fun x hx=>(Au.lt x hx).1);clear hgrow1 Au u1;go_wp2_with fail;exact⟨⟨t+1,by omega,by go_num,hown1,b1⟩,by simp[intOf];omega⟩
      ·have et:t=k:=by omega
       subst et;obtain⟨g,Ab,rfl,_,_,A2⟩:=eD A9 d1
       have Bc:Hid (Mx wr (.slice (some (aD g 0)) t Ab) t t (fun i j=>W i (t+j))):=⟨fun i j=>A7 i (t+j),⟨d1,d2,d3,d4⟩,g,0,Ab,G,fun _=>t,fun r=>K r-t,rfl,fun r hr=>by
        rw[c9G,A2.cell hr]
        simp[List.getD,hr],fun r hr j hj=>(HT.row r hr).cell (show t+j<t+t by omega)⟩
       clear A2 A9 HT HW;go_wp2_with fail;go_ret2
       exact⟨Or.inl ⟨_,_,rfl,Bc.out,HU.out⟩,bt hb A3⟩
    ·obtain⟨c,rfl⟩: ∃c,m=c+1:=⟨m-1,by omega⟩;have A0:c<k:=by omega
     rw[show((c+1:Nat):Int)-1=(c:Int) by omega];have Bm:(c:Int)<(k:Int):=by omega
     have Bk:(c:Int)<((k+k:Nat):Int):=by omega
     have Ak:=hd8 HE;have A7:=HE.bd;clear HE;go_wp2_with fail;go_loop [10,11] (fun a i=> ∃t:Nat,t≤c+1∧i=iV t∧ ∃x:Int,a=iV x∧Hid ((x= -1∧ ∀r,r<t→W r c=0)∨ ∃q:Nat,q<t∧x=(q:Int)∧W q c≠0)) (fun _ i=>(c+1)-(intOf i).toNat)
     case atStart=>exact⟨0,c9D _,rfl,-1,rfl,Or.inl ⟨rfl,fun r hr=>absurd hr (c9L r)⟩⟩
     case round=>
      obtain⟨t,ht,rfl,x,rfl,HX⟩:=hrel;by_cases C0:t≤c
      ·have Bu:(t:Int)≤(c:Int):=by omega
       have Ag:(t:Int)<(k:Int):=by omega
       have u1:=HW.top.cell (show t<k by omega);have u2:=(HW.row t (by omega)).cell (show c<k+k by omega);by_cases hz:W t c=0
       ·rw[hz]at u2;have HZ:=hd8 hz;clear hz;go_wp2_with fail;refine⟨⟨t+1,by omega,by go_num,x,rfl,?_⟩,by simp[intOf];omega⟩;rcases HX.out with⟨h1,h2⟩|⟨q,h1,h2,h3⟩
        ·exact Or.inl ⟨h1,fun r hr=>by
          by_cases e:r=t
          ·rw[e];exact HZ.out
          ·exact h2 r (by omega)⟩
        ·exact Or.inr ⟨q,by omega,h2,h3⟩
       ·have C1:((W t c:Int)==0)=false:=by rw[beq_eq_false_iff_ne];omega
        have HZ:=hd8 hz;clear hz;go_wp2_with fail;exact⟨⟨t+1,by omega,by go_num,t,rfl,Or.inr ⟨t,by omega,rfl,HZ.out⟩⟩,by simp[intOf];omega⟩
      ·have et:t=c+1:=by omega
       subst et;have By: ¬((c+1:Nat):Int)≤(c:Int):=by omega
       rcases HX.out with⟨rfl,h2⟩|⟨q,hq,rfl,B5⟩
       ·have HS:Hid (Gf.a5U k f):=Ak.out.fails A0 (by omega) (fun i hi hd=>h2 i (by omega));clear h2 HX Ak HW;go_wp2_with fail;go_ret2
        exact⟨Or.inr ⟨rfl,HS.out⟩,hb⟩
       ·clear HX;have HQ:=hd8 B5;have Bq:(q:Int)<(k:Int):=by omega
        have Bz: ¬(q:Int)<0:=by omega
        clear B5;have HO:=HW.swap (a:=q) (p:=c) (by omega) A0;obtain⟨wS,hS⟩: ∃wS,wS=(wr.setCell (aD bw q) (.slice (some ⟨G c,0,none⟩) (k+k) (K c))).setCell (aD bw c) (.slice (some ⟨G q,0,none⟩) (k+k) (K q)):=⟨_,rfl⟩;rw[←hS,c1M]at HO;have B2:Bl w wS:=by rw[hS];exact(hb.setCell (p:=⟨bw,q,none⟩) HW.lob _).setCell (p:=⟨bw,c,none⟩) HW.lob _
        have HS:=hd8 hS;clear hS;have t1:=HW.top.cell (show q<k by omega);have t2:=HW.top.cell A0;have z1:=HW.top.frozen q;have z2:=HW.top.frozen c;obtain⟨v3,t3⟩: ∃v3,(wr.setCell (aD bw q) (.slice (some ⟨G c,0,none⟩) (k+k) (K c))).cell? (aD bw c)=some v3:=⟨_,(HW.top.set q _).cell A0⟩;have z3:=(HW.top.set q (.slice (some ⟨G c,0,none⟩) (k+k) (K c))).frozen c;have Bf:=hd8 HW;clear HW;go_wp2_with fail;go_region
        rw[←HS.out];clear HS t1 t2 z1 z2 t3 z3 Bf hb;have e0:Gf.swp c q W c c=W q c:=by
         unfold Gf.swp;rw[if_pos rfl]
        have An:Gf.Bd2 (Gf.swp c q W):=Gf.uN A7;have HD:Hid (Gf.add c (Gf.scl c (Gf.inv (W q c)) (Gf.swp c q W))=Gf.clr c q W):=rfl;have Ap:=A7 q c;generalize nY q c G=G' at HO;have B0: ∀r,r<k→k+k≤nY q c K r:=fun r hr=>by
         unfold nY;split
         ·exact A6 _ A0
         ·split
          ·exact A6 _ (by omega)
          ·exact A6 _ hr
        generalize nY q c K=K' at HO B0;clear A6;generalize Gf.swp c q W=W0 at HO e0 An HD;have u1:=HO.top.cell A0;have u2:=(HO.row c A0).cell (show c<k+k by omega);rw[e0]at u2;go_wp2_with fail;refine(zC (W q c) _ Ap).mono ?_;rintro e w2 ⟨rfl,rfl⟩;go_wp2_with fail;clear u1 u2 e0;have Aw:=Gf.jH (W q c);generalize Gf.inv (W q c)=x at HD Aw;have hx:=hd8 Aw;clear Aw;go_loopw [105] (fun i wi=> ∃t:Nat,t≤k+k∧i=iV t∧jY wi w.heap.size bw k (k+k) G' K' (wC c t x W0)∧Bl w wi) (fun i _=>(k+k)-(intOf i).toNat)
        case atStart=>exact⟨0,c9D _,rfl,HO.drew.congr (fun i _ j _=>by unfold wC;rw[if_neg (fun h=>absurd h.2 (c9L j))]),B2.drew⟩
        case round=>
         clear HO B2;obtain⟨t,ht,rfl,HT,A3⟩:=hrel;by_cases Aa:t<k+k
         ·have Ag:(t:Int)<((k+k:Nat):Int):=by omega
          have u1:=HT.top.cell A0;have u2:=(HT.row c A0).cell Aa;have z2:=(HT.row c A0).frozen t;rw[show wC c t x W0 c t=W0 c t from if_neg (fun h=>absurd h.2 (d0V _))]at u2;have HP:=HT.put (x:=Gf.mul (W0 c t) x) (f':=wC c (t+1) x W0) A0 Aa (fun r j _ _=>b0D c t x W0 r j);have u3:=HP.top.cell A0;have Ao:Bl w (wr.setCell ⟨G' c,t,none⟩ (.int .u8 ((Gf.mul (W0 c t) x:Nat):Int))):=A3.setCell (p:=⟨G' c,t,none⟩) (HT.low c A0) _;clear HT;go_wp2_with fail;go_region_with (go_at_call 125;refine(jO _ _ _ (An c t) hx.out).mono ?_;rintro e w2 ⟨rfl,rfl⟩)
          all_goals go_wp2_with fail
          all_goals exact⟨⟨t+1,by omega,by go_num,HP.drew,Ao.drew⟩,by simp[intOf];omega⟩
         ·have et:t=k+k:=by omega
          subst et
          have Am:jY wr w.heap.size bw k (k+k) G' K' (Gf.scl c x W0):=HT.congr (fun i _ j hj=>by
           unfold wC Gf.scl;by_cases h:i=c
           ·rw[if_pos ⟨h,hj⟩,if_pos h]
           ·rw[if_neg (fun h'=>h h'.1),if_neg h])
          have Ae:Gf.Bd2 (Gf.scl c x W0):=Gf.yO An;clear HT;generalize Gf.scl c x W0=W1 at Am Ae HD;go_wp2_with fail;go_loopw [126] (fun i wi=> ∃r:Nat,r≤k∧i=iV r∧jY wi w.heap.size bw k (k+k) G' K' (lM c r 0 W1)∧Bl w wi) (fun i _=>k-(intOf i).toNat)
          case atStart=>exact⟨0,c9D _,rfl,Am.congr (fun i _ j _=>by unfold lM;rw[if_neg (by omega)]),A3⟩
          case round=>
           clear Am A3;obtain⟨r,hr,rfl,HR,Aq⟩:=hrel;by_cases Af:r<k
           ·have Bs:(r:Int)<(k:Int):=by omega
            have y1:=HR.top.cell Af;have y2:=(HR.row r Af).cell (show c<k+k by omega);rw[show lM c r 0 W1 r c=W1 r c from if_neg (by omega)]at y2;go_wp2_with fail;clear y1 y2;go_loopw [141] (fun i wi=> ∃t:Nat,t≤k+k∧i=iV t∧jY wi w.heap.size bw k (k+k) G' K' (lM c r t W1)∧Bl w wi) (fun i _=>(k+k)-(intOf i).toNat)
            case atStart=>exact⟨0,c9D _,rfl,HR,Aq⟩
            case round=>
             clear HR Aq;obtain⟨t,ht,rfl,HT,A3⟩:=hrel;by_cases Aa:t<k+k
             ·have Ag:(t:Int)<((k+k:Nat):Int):=by omega
              by_cases Av:r=c
              ·subst Av;go_wp2_with fail;refine⟨⟨t+1,by omega,by go_num,HT.congr (fun i _ j _=>?_),A3⟩,by simp[intOf];omega⟩;rw[zT];by_cases h:i=r∧j=t
               ·rw[if_pos h,h.1,h.2];unfold lM;rw[if_neg (by omega)];exact(if_pos rfl).symm
               ·rw[if_neg h]
              ·have Br:((r:Int)==(c:Int))=false:=by rw[beq_eq_false_iff_ne];omega
               have ea:lM c r t W1 c t=W1 c t:=by
                unfold lM;by_cases h:c<r∨(c=r∧t<t)
                ·rw[if_pos h];exact if_pos rfl
                ·rw[if_neg h]
               have u1:=HT.top.cell Af;have u2:=HT.top.cell A0;have u3:=(HT.row r Af).cell Aa;have u4:=(HT.row c A0).cell Aa;rw[show lM c r t W1 r t=W1 r t from if_neg (by omega)]at u3;rw[ea]at u4;have z3:=(HT.row r Af).frozen t;have Bv:=pQ (Ae r t) (Gf.dN (W1 c t) (Ae r c))
               have HP:=HT.put (x:=W1 r t^^^Gf.mul (W1 r c) (W1 c t)) (f':=lM c r (t+1) W1) Af Aa (fun i j _ _=>by
                rw[zT,show Gf.add c W1 r t=W1 r t^^^Gf.mul (W1 c t) (W1 r c)from if_neg Av,Gf.mul_comm (Ae c t) (Ae r c)])
               have Ao:Bl w (wr.setCell ⟨G' r,t,none⟩ (.int .u8 ((W1 r t^^^Gf.mul (W1 r c) (W1 c t):Nat):Int))):=A3.setCell (p:=⟨G' r,t,none⟩) (HT.low r Af) _;clear HT ea Av;go_wp2_with fail;refine wp_region_still_tail 23 (by kernel_rfl) (by kernel_rfl) ?_;simp only[List.take_succ_cons,List.take_zero,List.drop_succ_cons,List.drop_zero];have v1:({wr with drawn:=wr.drawn+1}:World).cell? (aD bw r)=some (.slice (some ⟨G' r,0,none⟩) (k+k) (K' r)):=u1;have v2:({wr with drawn:=wr.drawn+1}:World).cell? (aD bw c)=some (.slice (some ⟨G' c,0,none⟩) (k+k) (K' c)):=u2;have v3:({wr with drawn:=wr.drawn+1}:World).cell? ⟨G' r,t,none⟩=some (.int .u8 (W1 r t:Nat)):=u3;have v4:({wr with drawn:=wr.drawn+1}:World).cell? ⟨G' c,t,none⟩=some (.int .u8 (W1 c t:Nat)):=u4;iterate 20 still_step
               still_call (jO _ _ _ (Ae r c) (Ae c t))
               iterate 2 still_step
               refine wpStill_nil ?_;go_wp2_with fail;refine⟨?_,?_⟩
               ·repeat apply Exists.intro
                refine⟨?_,rfl⟩;exact⟨t+1,by omega,by go_num,HP.drew,Ao.drew⟩
               ·simp[intOf];omega
             ·have et:t=k+k:=by omega
              subst et;go_wp2_with fail
              exact⟨⟨r+1,by omega,by go_num,HT.congr (fun i _ j hj=>by
               unfold lM;by_cases h:i<r∨(i=r∧j<k+k)
               ·rw[if_pos h,if_pos (by omega)]
               ·rw[if_neg h,if_neg (by omega)]),A3⟩,by simp[intOf];omega⟩
           ·have er:r=k:=by omega
            subst er
            have HF:jY wr w.heap.size bw r (r+r) G' K' (Gf.clr c q W):=HR.congr (fun i hi j _=>by
             rw[←HD.out];unfold lM
             rw[if_pos (Or.inl hi)])
            have Bb:Hid (Gf.oY r f (fun j=>c≤j∧j<r) (Gf.clr c q W)):=Ak.out.step A0 (by omega) (by omega) (by omega) HQ.out (fun j hj=>by omega);clear HR Ak HQ;go_wp2_with fail;exact⟨⟨c,by omega,by go_num,⟨G',K',_,HF,Bb.out,B0⟩,Aq⟩,by simp[intOf]⟩
end Go.Proofs.YtmcaejooaaahdaaGreat
