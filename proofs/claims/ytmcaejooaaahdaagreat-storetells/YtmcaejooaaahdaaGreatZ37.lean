import Derived.Test.YtmcaejooaaahdaaGreatZ33
import Derived.Test.YtmcaejooaaahdaaGreatZ36
set_option maxHeartbeats 8000000
set_option maxRecDepth 100000
namespace Go.Proofs.YtmcaejooaaahdaaGreat
open Go.Proofs.Tryz
variable {M N P n:Nat} {T:Nat→Bool} {W w w':World} {t:TypeId} {us xs:List Value} {v va vd vs vt:Value}
open Go.RowKit
theorem b5P{z:Nat}(h:w.ownsRow N t z v n xs)(hn:1≤n): ∃g cap,v=.slice (some (aD g 0)) n cap∧N≤g∧n≤cap∧cap≤maxLen∧aZ w g t (n*z) (fun j=>xs.getD j nS):=by
 obtain⟨hl,h⟩:=h;rcases h with⟨_,h0⟩|⟨g,cap,A0,hv,hN,hg,hc,hm,hs,ht⟩
 ·omega
 ·have A1:n*z≤A0.size:=by rw[hs];exact d1J _ hc
  refine⟨g,cap,hv,hN,hc,hm,A0.size,fun j=>A0.getD j nS,⟨A0,hg,rfl,fun i hi=>by simp[hi]⟩,A1,fun j hj=>?_⟩;have A2:=c9P hj A1;show A0.getD j nS=xs.getD j nS;rw[←ht,c9R,d0C,if_pos hj];simp[Array.getD,A2]
theorem b5Z{A:Option Addr}{C:Nat}{ds:List Sto.aM}(h:Dks w (.slice A n C) ds)(h1:1≤ds.length): ∃(V0:Nat→Value) (b o:Nat),n=ds.length∧A=some (aD b o)∧n≤C∧C≤maxLen∧(∀i d,ds[i]?=some d→Hes w (V0 i) d.bl)∧ ∀j,j<n*2→w.cell? (aD b (o+j))=some (dkF V0 ds j):=by
 obtain⟨A',C',hv,A1,A2,h3⟩:=h;cases hv
 obtain⟨b,o,rfl,_⟩:=h3 0 ds[0] (c9F h1);have hV: ∀i,∃v,∀d,ds[i]?=some d→w.cell? (aD b (o+i*2))=some (.bool d.gone)∧w.cell? (aD b (o+i*2+1))=some v∧Hes w v d.bl:=fun i=>by
  cases hd:ds[i]? with
  |none=>exact⟨nS,fun d e=>by cases e⟩
  |some d=>
   obtain⟨b',o',e,v,q1,q2,q3⟩:=h3 i d hd;cases e
   exact⟨v,fun d' e=>by cases e;exact⟨q1,q2,q3⟩⟩
 obtain⟨V0,A0⟩:=Classical.skolem.1 hV;refine⟨V0,b,o,rfl,rfl,A1,A2,fun i d hd=>(A0 i d hd).2.2,fun j hj=>?_⟩;have hi:j/2<ds.length:=by omega
 obtain⟨q1,q2,_⟩:=A0 (j/2) ds[j/2] (c9F hi);unfold dkF;by_cases e:j%2=0
 ·rw[if_pos e,c9R,c9F hi,show o+j=o+j/2*2 by omega];exact q1
 ·rw[if_neg e,show o+j=o+j/2*2+1 by omega];exact q2
def c8G(e:Ending)(w w':World)(x y z g u:Int)(vt vs va:Value)(ds:List Sto.aM):Prop:= ∃D C V U,e=.returned (stA x y z (.slice (some (aD D 0)) ds.length C) g vt vs u va)∧ds.length≤C∧C≤maxLen∧dM w' w.heap.size D V U ds∧Bl w w'
abbrev jE:Array Value:=#[iV 0,iV 0,iV 0,nS,iV 0,nS,nS,iV 0,nS]
theorem kR(x y z g u:Int)(vd vt vs va:Value)(ds:List Sto.aM)(w:World)(h:Dks w vd ds)(h1:1≤ds.length)(h12:ds.length≤12)(hbl: ∀(i:Nat) (d:Sto.aM),ds[i]?=some d→d.bl.length≤100)(hok:nT ds)(ht: ∃A n C,vt=.slice A n C)(hs: ∃A n C,vs=.slice A n C)(ha: ∃A n C,va=.slice A n C):
  Calls prog 36 #[stA x y z vd g vt vs u va] w fun e w'=>c8G e w w' x y z g u vt vs va ds:=by
 obtain⟨At,nt,Ct,rfl⟩:=ht;obtain⟨As,ns,Cs,rfl⟩:=hs;obtain⟨Aa,na,Ca,rfl⟩:=ha;obtain⟨Ad,Cd,rfl,Bp⟩: ∃A C,vd=.slice A ds.length C∧True:=by
  obtain⟨A,C,hv,_⟩:=h;exact⟨A,C,hv,trivial⟩
 obtain⟨V0,b,o,_,rfl,Bb,Bc,Aq,A1⟩:=b5Z h h1;obtain⟨n,hn⟩: ∃n,n=ds.length:=⟨_,rfl⟩;rw[←hn]at Bb A1 h1 h12⊢;have HN:=hd8 hn;have An:=hd8 Aq;have B1:=hd8 hbl;have B4:=hd8 hok;have Be:=mL8 Bc;obtain⟨w1,Am⟩: ∃q,q=(w.alloc (.cells #[iV x,iV y,iV z,.slice (some (aD b o)) n Cd,iV g,.slice At nt Ct,.slice As ns Cs,iV u,.slice Aa na Ca] 32)).alloc (.cells jE 32):=⟨_,rfl⟩;have b1:=aB8 w (.cells #[iV x,iV y,iV z,.slice (some (aD b o)) n Cd,iV g,.slice At nt Ct,.slice As ns Cs,iV u,.slice Aa na Ca] 32);have b2:=b1.alloc b1.size (.cells jE 32);have V1:=(aC w #[iV x,iV y,iV z,.slice (some (aD b o)) n Cd,iV g,.slice At nt Ct,.slice As ns Cs,iV u,.slice Aa na Ca] 32).bE ((Below.refl _ _).alloc (c9C _) (.cells jE 32));have V2:=aC (w.alloc (.cells #[iV x,iV y,iV z,.slice (some (aD b o)) n Cd,iV g,.slice At nt Ct,.slice As ns Cs,iV u,.slice Aa na Ca] 32)) jE 32;have Ay:(w.alloc (.cells #[iV x,iV y,iV z,.slice (some (aD b o)) n Cd,iV g,.slice At nt Ct,.slice As ns Cs,iV u,.slice Aa na Ca] 32)).heap.size=w.heap.size+1:=d2K _;rw[Ay]at V2;rw[←Am]at b2 V1 V2;have bE:=aB8 w1 (.cells #[] 58);have hE:(w1.alloc (.cells #[] 58)).ownsRow w1.heap.size 58 2 (.slice (some (aD w1.heap.size 0)) 0 0) 0 []:=World.ownsRow_made w1 #[] 0 (c9C _) (by unfold maxLen;omega) rfl;have Ab: ∀v,v∈(List.range (n*2)).map (dkF V0 ds)→v.oneCell'=true:=fun v hv=>by
  obtain⟨j,hj,rfl⟩:=d0G.1 hv;have hj:=d0D.1 hj;unfold dkF;by_cases e:j%2=0
  ·rw[if_pos e];rfl
  ·rw[if_neg e];have hi:j/2<ds.length:=by omega
   obtain⟨A,C,hv,_⟩:=An.out (j/2) ds[j/2] (c9F hi);rw[hv];rfl
 obtain⟨v3,w3,r3,o3,k3,e3⟩:=wO 25 underlying25 Tryz.infoDisk rfl (by decide) (by decide) hE (some (aD b o)) n Cd (fun e=>by cases e) ((List.range (n*2)).map (dkF V0 ds)) (by rw[List.length_map,List.length_range]) (fun a e j v hj=>by
  cases e
  rw[c9S]at hj;obtain⟨j',Ae,rfl⟩:=c9J.1 hj;obtain⟨hl,Ae⟩:=c9H.1 Ae;rw[List.getElem_range]at Ae;subst Ae;rw[d1E]at hl;rw[WideShapes.add_plain]
  exact((bt b2 bE).cell (p:=⟨b,o+j,none⟩) (World.block_lt_of_cell? _ _ (A1 j hl))).trans (A1 j hl)) Ab (by omega) bE.size
 rw[c9G,d1C]at o3;obtain⟨D,C,rfl,hD,B9,Ao,hR⟩:=b5P o3 h1;have B3:Bl w1 w3:=bE.trans (lA k3 (fun q hq=>by cases hq;exact c9C _) bE.size);have hR:aZ w3 D 58 (ds.length*2) (dkF V0 ds):=by
  rw[←HN.out];refine hR.congr fun j hj=>?_;rw[c9R,c9S,List.getElem?_range hj];rfl
 have Ba:=mL8 Ao;have VP:=(V1.bE B3).set 3 (.slice (some (aD D 0)) n C) (show 3<9 by decide);have Aj:D≠w.heap.size:=fun e=>(hR.ty.ne (V1.bE B3).ty (by decide)) e;have Ak:D≠w.heap.size+1:=fun e=>(hR.ty.ne (V2.bE B3).ty (by decide)) e;have Af:Off (fun k=>k=w.heap.size) w3 (w3.setCell (aD w.heap.size 3) (.slice (some (aD D 0)) n C)):=aG _ (aD w.heap.size 3) _;have H0:Hid (OwI w (w3.setCell (aD w.heap.size 3) (.slice (some (aD D 0)) n C)) D V0 ds 0∧aV (w3.setCell (aD w.heap.size 3) (.slice (some (aD D 0)) n C)) w.heap.size 32 [iV x,iV y,iV z,.slice (some (aD D 0)) n C,iV g,.slice At nt Ct,.slice As ns Cs,iV u,.slice Aa na Ca]∧aV (w3.setCell (aD w.heap.size 3) (.slice (some (aD D 0)) n C)) (w.heap.size+1) 32 jE.toList∧Bl w (w3.setCell (aD w.heap.size 3) (.slice (some (aD D 0)) n C))):=by
  refine⟨⟨V0,fun _=>[],?_,hR.of_block (Af.block D hR.lt Aj),fun _ _=>rfl⟩,VP,(V2.bE B3).off Af (by show¬w.heap.size+1=w.heap.size;omega),(bt b2 B3).setCell (c9C _) _⟩;refine⟨?_,c9E b2.size hD,(fun i hi=>by cases hi),(fun i d hd=>by rw[List.take_zero]at hd;cases hd),(fun i _ hi=>by cases hi),(fun i _ _ hi=>by cases hi),(fun i _ _ _ _ _ _ hi=>by cases hi)⟩;exact⟨_,_,(hR.of_block (Af.block D hR.lt Aj)).choose_spec.choose_spec.1,c9D _,fun j hj=>by cases hj⟩
 have c3:=V1.q3;have B7:=cB8 bE c3;have B5:=(V1.bE B3).q3;have B8:=(V1.bE B3).frozen 3;clear h A1 Aq hbl hok hn Ab o3 k3 e3 hE hR VP Af V1 V2 b1 b2 bE Ay;go_enter func36,ntmps36
 go_upto_region 1 with fail
 rw[←Am];clear Am;go_upto_region 2 with(at_builtin;refine Lib.wpList_append_run _ rfl _ _ _ _ rfl _ _ rfl rfl _ _ r3 ?_)
 obtain⟨w4,Az⟩: ∃q,q=w3.setCell (aD w.heap.size 3) (.slice (some (aD D 0)) n C):=⟨_,rfl⟩;rw[←Az]at H0⊢;clear Az c3 B7 B5 B8 r3 B3;have c3:=H0.out.2.1.q3;go_wp2_with fail;clear c3;go_loopw [15] (fun x' wr=> ∃i:Nat,i≤n∧x'=iV i∧Hid (OwI w wr D V0 ds i∧aV wr w.heap.size 32 [iV x,iV y,iV z,.slice (some (aD D 0)) n C,iV g,.slice At nt Ct,.slice As ns Cs,iV u,.slice Aa na Ca]∧aV wr (w.heap.size+1) 32 jE.toList∧Bl w wr)) (fun x' _=>n-(intOf x').toNat)
 case atStart=>exact⟨0,c9D _,rfl,H0⟩
 case round=>
  obtain⟨i,hi,rfl,HR⟩:=hrel;by_cases Bm:i<n
  ·have Bn:(i:Int)<(n:Int):=by omega
   obtain⟨hI,hP,A0,hB⟩:=HR.out;have Bi:i<ds.length:=by rw[←HN.out];exact Bm
   obtain⟨d,hd⟩: ∃d,ds[i]?=some d:=⟨ds[i],c9F Bi⟩;have c3:=hP.q3;have g1:wr.cell? (aD D (i*2+1))=some (V0 i):=by
    obtain⟨V,U,_,A4,hV⟩:=hI.ok;rw[A4.cell (show i*2+1<ds.length*2 by omega)];unfold dkF;rw[if_neg (by omega),show(i*2+1)/2=i by omega,hV i (c9C _)]
   obtain⟨Ah,Ch,Ar,Bf,Bg,Au⟩:=An.out i d hd;rw[Ar]at g1;obtain⟨m,hm⟩: ∃m,m=d.bl.length:=⟨_,rfl⟩;rw[←hm]at g1 Bf;have Av:m≤100:=by rw[hm];exact B1.out i d hd
   have Bh:=mL8 Bg;obtain⟨wo,A3⟩: ∃q,q=wr:=⟨wr,rfl⟩;have B2:Hid (∀j x9,d.bl[j]?=some x9→ ∃b9 o9 A9 C9,Ah=some (aD b9 o9)∧wo.cell? (aD b9 (o9+j*2))=some (iV x9.1)∧wo.cell? (aD b9 (o9+j*2+1))=some (.slice A9 x9.2.length C9)∧cU wo (.slice A9 x9.2.length C9) x9.2∧1≤x9.2.length∧x9.2.length≤1000):=fun j x9 A5=>by
    obtain⟨b9,o9,e1,u9,e2,e3,e4⟩:=Au j x9 A5;have e5:=e4;obtain⟨_,A9,C9,rfl,_⟩:=e5;obtain⟨q1,q2⟩:=B4.out i d hd x9 (c9N A5);rw[A3];exact⟨b9,o9,A9,C9,e1,cB8 hB e2,cB8 hB e3,e4.bE hB,q1,q2⟩
   have HK:Hid (wo=wr∧OwI w wo D V0 ds i∧aV wo w.heap.size 32 [iV x,iV y,iV z,.slice (some (aD D 0)) n C,iV g,.slice At nt Ct,.slice As ns Cs,iV u,.slice Aa na Ca]∧aV wo (w.heap.size+1) 32 jE.toList∧Bl w wo∧ds[i]?=some d∧m=d.bl.length):=⟨A3,by rw[A3];exact hI,by rw[A3];exact hP,by rw[A3];exact A0,by rw[A3];exact hB,hd,hm⟩;have H1:Hid (OwJ wo wr d.bl nS 0):=⟨[],by rw[A3];exact World.ownsRow_nil _ _ _ _,rfl,(fun _ h=>by cases h),(fun _ _ _ _ _ h=>by cases h),by rw[A3];exact Below.refl _ _⟩;clear HR hI hP A0 hB hd hm Ar Au A3;go_wp2_with fail;clear c3 g1;go_loopw [4,25] (fun v4 x' wr=> ∃j:Nat,j≤m∧x'=iV j∧Hid (OwJ wo wr d.bl v4 j)) (fun _ x' _=>m-(intOf x').toNat)
   case atStart=>exact⟨0,c9D _,rfl,H1⟩
   case round=>
    obtain⟨j,hj,rfl,HR⟩:=hrel;by_cases Bj:j<m
    ·have Bk:(j:Int)<(m:Int):=by omega
     obtain⟨x9,A5⟩: ∃x9,d.bl[j]?=some x9:=⟨d.bl[j]'(by rw[←HK.out.2.2.2.2.2.2];exact Bj),c9F _⟩;obtain⟨b9,o9,A9,C9,rfl,e0,e1,e2,q1,q2⟩:=B2.out j x9 A5;have A2:=HR.out.bel;have e0:=cB8 A2 e0;have e1:=cB8 A2 e1;have bA:=aB8 wr (.cells #[iV x9.1,.slice A9 x9.2.length C9] 61);have VH:=aC wr #[iV x9.1,.slice A9 x9.2.length C9] 61;obtain⟨A6,m6,C6,w6,r6,B6,v7,w7,r7,J7,F7⟩:=(HR.out.off bA).next A5 e2 q1 q2 (by omega);have Ag:Hid (u4.ownBlock≠some wr.heap.size):=fun e=>by
      have:=HR.out.lt e;omega
     have Ai:=hd8 J7;obtain⟨s9,Ax⟩: ∃q,q=x9.1:=⟨_,rfl⟩;obtain⟨n9,Aw⟩: ∃q,q=x9.2.length:=⟨_,rfl⟩;rw[←Ax]at e0 r7 VH bA r6 B6;rw[←Aw]at e1 VH bA r6 B6;clear HR J7 A5 e2 q1 q2 Ax Aw A2;go_upto_region 9 with fail
     obtain⟨wA,B0⟩: ∃q,q=wr.alloc (.cells #[iV s9,.slice A9 n9 C9] 61):=⟨_,rfl⟩;rw[←B0]at VH r6 B6⊢;obtain⟨Q,hQ⟩: ∃q,q=wr.heap.size:=⟨_,rfl⟩;rw[←hQ]at VH Ag⊢;have Ac: ∀w',Bl wA w'→w'.cell? (aD Q 0)=some (iV s9)∧w'.cell? (aD Q 1)=some (.slice A9 n9 C9):=fun w' hb=>⟨(VH.bE hb).q0,(VH.bE hb).q1⟩;have V7:=(VH.bE B6).off F7 Ag.out;have T7:w7.cell? (aD Q 0)=some (iV s9)∧w7.cell? (aD Q 1)=some (.slice A9 n9 C9):=⟨V7.q0,V7.q1⟩;have TD:=Ac wA.drew (Below.refl _ _).drew;have T1:=fun q=>Ac (wA.alloc q).drew ((Below.refl _ _).alloc (c9C _) q).drew;have T2:=Ac w6 B6;have T3:=fun q=>Ac (w6.alloc q) (B6.alloc B6.size q);clear B0 hQ e0 e1 bA VH V7 F7 Ag;go_region_held3 (fun w'=>w'.cell? (aD Q 0)=some (iV s9)∧w'.cell? (aD Q 1)=some (.slice A9 n9 C9))
      (first|with_reducible exact TD|with_reducible assumption|with_reducible exact T1 _|with_reducible exact T2|with_reducible exact T3 _|with_reducible exact T7)
      (first|(refine b2P rfl (.tmp 32) (.tmp 34) 59 rfl rfl rfl r6 ?_)|(refine b2P rfl (.tmp 29) (.tmp 37) 56 rfl rfl rfl r7 ?_))
     go_wp2_with fail;exact⟨⟨j+1,by omega,by go_num,Ai⟩,by simp[intOf];omega⟩
    ·obtain rfl:j=m:=by omega
     obtain⟨_,k2,k3,k4,k5,k6,k7⟩:=HK.out;have A2:=HR.out.bel;have hJ:=HR.out;rw[k7]at hJ;have Ap:=k2.next k6 hJ k5.size;have Bo:D<wr.heap.size:=by
      obtain⟨V,U,_,A4,_⟩:=(k2.off A2).ok;exact A4.lt
     have Al:=aG wr (aD D (i*2+1)) u4
     have Ai:Hid (OwI w (wr.setCell (aD D (i*2+1)) u4) D V0 ds (i+1)∧aV (wr.setCell (aD D (i*2+1)) u4) w.heap.size 32 [iV x,iV y,iV z,.slice (some (aD D 0)) n C,iV g,.slice At nt Ct,.slice As ns Cs,iV u,.slice Aa na Ca]∧aV (wr.setCell (aD D (i*2+1)) u4) (w.heap.size+1) 32 jE.toList∧Bl w (wr.setCell (aD D (i*2+1)) u4)):=⟨Ap,(k3.bE A2).off Al (fun e=>Aj e.symm),(k4.bE A2).off Al (fun e=>Ak e.symm),(bt k5 A2).setCell (by
      obtain⟨V,U,A8,_,_⟩:=k2.ok
      exact A8.ge) _⟩
     have c3:=(k3.bE A2).q3;obtain⟨u0,g1,f1⟩: ∃u0,wr.cell? (aD D (i*2+1))=some u0∧wr.frozen? (aD D (i*2+1))=false:=by
      obtain⟨V,U,_,A4,_⟩:=(k2.off A2).ok;exact⟨_,A4.cell (show i*2+1<ds.length*2 by have:=HN.out;omega),A4.frozen _⟩
     obtain⟨A7,n7,C7,rfl⟩:=hJ.sE;clear HR hJ Ap k2 k3 k4 k5 k6 k7 A2 Al;go_wp2_with fail;exact⟨⟨i+1,by omega,by go_num,Ai⟩,by simp[intOf];omega⟩
  ·obtain rfl:i=n:=by omega
   obtain⟨hI,hP,A0,hB⟩:=HR.out;obtain⟨V,U,A8,A4,_⟩:=hI.ok;rw[HN.out,d0L]at A8;have HF:Hid (∀w',Off (fun k=>k=w.heap.size+1) wr w'→c8G (.returned (stA x y z (.slice (some (aD D 0)) i C) g (.slice At nt Ct) (.slice As ns Cs) u (.slice Aa na Ca))) w w' x y z g u (.slice At nt Ct) (.slice As ns Cs) (.slice Aa na Ca) ds):=fun w' ho=>⟨D,C,V,U,by rw[←HN.out],by rw[←HN.out];exact B9,Ao,A8.off ho fun k hk=>⟨32,by subst hk;exact A0.ty,by decide,by decide,by decide⟩,hB.trans (ho.bE hB.size fun k hk=>by subst hk;omega)⟩;have a0:=hP.q0;have a1:=hP.q1;have a2:=hP.q2;have a3:=hP.q3;have a4:=hP.q4;have a5:=hP.q5;have a6:=hP.q6;have a7:=hP.q7;have a8:=hP.q8;have d0:=A0.q0;have d1:=A0.q1;have d2:=A0.q2;have d3:=A0.q3;have d4:=A0.q4;have d5:=A0.q5;have d6:=A0.q6;have d7:=A0.q7;have d8:=A0.q8;have f0:=A0.frozen 0;have f1:=A0.frozen 1;have f2:=A0.frozen 2;have f3:=A0.frozen 3;have f4:=A0.frozen 4;have f5:=A0.frozen 5;have f6:=A0.frozen 6;have f7:=A0.frozen 7;have f8:=A0.frozen 8;clear HR hI hP A0 hB A8 A4;go_wp2_with fail;exact bodyPost_ret (by simp[results,results36,go_sem,d0,d1,d2,d3,d4,d5,d6,d7,d8]) rfl (HF.out _ (fE _ _ _ _ _ _ _ _ _ _ _))
theorem Tryz.enters_add: ∀args w,(callFunc 63 args).run Tryz.prog w=.ok (.enter 63 args) w:=enters_of Tryz.func63 (by kernel_rfl) rfl
structure c7W(w wr:World)(N Q:Nat)(v y:Value)(es:List EvC)(l:List Evt.Bat)(k:Nat):Prop where
 ok: ∃es',cH wr N y es'∧es'.map aY=es.map aY++Sto.cG (l.take k)∧aV wr Q 40 [y]∧Off (fun k=>k=Q∨v.ownBlock=some k) w wr∧(y.ownBlock=v.ownBlock∨ ∀g,y.ownBlock=some g→w.heap.size≤g)
def c8P(e:Ending)(w w':World)(N Q:Nat)(v:Value)(l:List Evt.Ev):Prop:= ∃v' es',e=.returned (.tuple #[])∧cH w' N v' es'∧es'.map aY=l∧aV w' Q 40 [v']∧Off (fun k=>k=Q∨v.ownBlock=some k) w w'
theorem zQ(N Q:Nat)(v vb:Value)(es:List EvC)(l:List Evt.Bat)(w:World)(h:cH w N v es)(hQ:aV w Q 40 [v])(hN:N≤w.heap.size)(hB: ∀w',Off (fun k=>k=Q∨v.ownBlock=some k) w w'→eS w' vb l)(hne: ∀b,b∈l→1≤b.evs.length)(hsz:es.length+(Sto.cG l).length≤1000000):
  Calls prog 63 #[vb,.pointer (some (aD Q 0))] w fun e w'=>c8P e w w' N Q v (es.map aY++Sto.cG l):=by
 have Au:=hB w (Off.refl _ _);obtain⟨A,C,Aj,B1,Ae,_⟩:=Au;have HB:Hid (∀w',Off (fun k=>k=Q∨v.ownBlock=some k) w w'→ ∀i x,l[i]?=some x→ ∃b o,A=some (aD b o)∧oO w' b (o+i*2) x):=fun w' ho i x hx=>by
  obtain⟨A',C',Ai,_,_,hc⟩:=hB w' ho;rw[Aj]at Ai;cases Ai
  exact hc i x hx
 have Ap:=hd8 hne;have Ar:=hd8 hsz;have At:=mL8 Ae;subst Aj;have H0:Hid (∃y,c7W w w N Q v y es l 0):=⟨v,es,h,by rw[d2F];exact(d0W _).symm,hQ,Off.refl _ _,Or.inl rfl⟩;clear hB hne hsz h Ae hQ;go_enter func63,ntmps63
 go_wp2_with fail;go_loopw [7] (fun x wr=> ∃k:Nat,k≤l.length∧x=iV k∧Hid (∃y,c7W w wr N Q v y es l k)) (fun x _=>l.length-(intOf x).toNat)
 case atStart=>exact⟨0,c9D _,rfl,H0⟩
 case round=>
  obtain⟨k,hk,rfl,HS⟩:=hrel;by_cases Ax:k<l.length
  ·have Az:(k:Int)<(l.length:Int):=by omega
   obtain⟨y,A4,hE,A0,hV,A1,A9⟩:=HS.out;obtain⟨x,hx⟩: ∃x,l[k]?=some x:=⟨l[k],c9F Ax⟩;obtain⟨b,o,rfl,ve,d0,d1,Ab⟩:=HB.out wr A1 k x hx;have Ak:=Ap.out x (c9N hx);have bA:=aB8 wr (.cells #[iV x.cmd,ve] 47);obtain⟨bb,oo,CC,rfl,Aw,B2,_⟩:=Ab.some Ak;obtain⟨xs,Ad,An,Al⟩:=uE (Ab.bE bA);have Am:xs.length=x.evs.length:=by rw[←Ad,c9M]
   have Ac:A4.length=es.length+(Sto.cG (l.take k)).length:=by
    have:=congrArg List.length A0;rw[c9M,c9I,c9M]at this;exact this
   have Ag:=pL l (k+1);rw[mO hx,c9I]at Ag;have B0:=Ar.out;obtain⟨v',w',A3,A8,A2,A6⟩:=a5J (wr.alloc (.cells #[iV x.cmd,.slice (some (aD bb oo)) x.evs.length CC] 47)) N y A4 xs (hE.bE bA) (c9E hN (c9E A1.size bA.size)) (aD bb oo) CC (Al _ _ rfl) An (by omega);rw[Am]at A3;have Ao:=fun e=>(aU hE.1 e).ne hV.ty (by decide) rfl;have Aa:=hV.bE bA;have A5:=Aa.off A2 Ao;have A7:=fun e=>(aU A8.1 e).ne A5.ty (by decide) rfl;have Af:=A5.set 0 v' (show 0<1 by decide);have Aq:Hid (∃y,c7W w (w'.setCell (aD Q 0) v') N Q v y es l (k+1)):=by
    have Ah:=aG w' (aD Q 0) v';have As:cH (w'.setCell (aD Q 0) v') N v' (A4++xs):=A8.off Ah fun g hg e=>by subst e;exact A7 hg
    refine⟨v',A4++xs,As,by rw[c9U,A0,Ad,mO hx,c9X],Af,?_,?_⟩
    ·refine(((A1.trans (Off.oE bA)).past A2 fun q hq hql=>?_).past Ah fun q hq _=>Or.inl hq);rcases A9 with z|z
     ·rw[z]at hq;exact Or.inr hq
     ·have:=z q hq;omega
    ·rcases A6 with z|z
     ·rcases A9 with z1|z1
      ·exact Or.inl (z.trans z1)
      ·exact Or.inr fun g hg=>z1 g (z▸hg)
     ·refine Or.inr fun g hg=>?_;rw[z]at hg;cases hg
      exact c9E A1.size bA.size
   have c0:=Aa.q0;have c1:=A5.q0;have f1:=A5.frozen 0;have VB:=aO wr 47 (iV x.cmd) (.slice (some (aD bb oo)) x.evs.length CC);obtain⟨e0,e1,_⟩:=VB;obtain⟨m,hm⟩: ∃m,m=x.evs.length:=⟨_,rfl⟩;rw[←hm]at A3 d1 Aw e1 c0;rw[←hm]at e0;obtain⟨Ay,ny,Cy,rfl⟩: ∃A n C,y=.slice A n C:=by
    obtain⟨A,C,h,_⟩:=bJ hE.1;exact⟨A,_,C,h⟩
   obtain⟨Av,nv,Cv,rfl⟩: ∃A n C,v'=.slice A n C:=by
    obtain⟨A,C,h,_⟩:=bJ A8.1;exact⟨A,_,C,h⟩
   clear HS hE A0 A1 A9 hx Ab Ad An Al Am Ac Ag B0 A8 A2 A6 bA Ak hm hV Aa A5 Af Ao A7;go_wp2_with (at_builtin;refine Lib.wpList_append_run _ rfl _ _ _ _ rfl _ _ rfl rfl _ _ A3 ?_);exact⟨⟨k+1,by omega,by go_num,Aq⟩,by simp[intOf];omega⟩
  ·obtain rfl:k=l.length:=by omega
   have HF:Hid (c8P (.returned (.tuple #[])) w wr N Q v (es.map aY++Sto.cG l)):=by
    obtain⟨y,A4,hE,A0,hV,A1,A9⟩:=HS.out;rw[d0L]at A0;exact⟨y,A4,rfl,hE,A0,hV,A1⟩
   clear HS;go_wp2_with fail;go_end0
   exact HF.out
structure c7Q(X:Sto.Six)(c:Sto.Cfg)(ds:List Sto.aM)(n:Nat)(w wr:World)(Q k:Nat):Prop where
 ok: ∃y es,cH wr (w.heap.size) y es∧aV wr Q 40 [y]∧Bl w wr∧es.length≤k*2550∧Sto.iW X c ds n 0 []=Sto.iW X c ds (n-k) k (es.map aY)
theorem b2B{c:Sto.Cfg}{s:Sto.St}(h:WfJ c s):(Sto.cG s.tail).length≤2550∧ ∀b,b∈s.tail→1≤b.evs.length:=by
 refine⟨?_,fun b hb=>(Evt.bN (h.bats b hb)).2.2.1⟩;have h1:=h.tail;have h2:=h.b10;have A0: ∀r:List Evt.Bat,(∀b,b∈r→b.evs.length≤10)→(Sto.cG r).length≤r.length*10:=by
  intro r;induction r with
  |nil=>intro _;simp[Sto.cG]
  |cons x r ih=>
   intro hr;have h3:=hr x c9W;have h4:=ih fun b hb=>hr b (c9Y _ hb);have e:Sto.cG (x::r)=x.evs++Sto.cG r:=by simp[Sto.cG]
   rw[e,c9I,d0E,d0F];omega
 have:=A0 s.tail fun b hb=>(Evt.bN (h.bats b hb)).2.2.2.1;omega
abbrev stC(c:Sto.Cfg)(vd:Value)(s:Sto.St)(vt vs va:Value):Value:=stA c.d c.s c.b vd s.segs vt vs s.u va
theorem fZ{l:List Evt.Bat}(h:eS w v l): ∃A n C,v=.slice A n C:=by
 obtain⟨A,C,hv,_⟩:=h;exact⟨A,_,C,hv⟩
theorem gY{l:List Int}(h:Nms w v l): ∃A n C,v=.slice A n C:=by
 obtain⟨A,C,hv,_⟩:=h;exact⟨A,_,C,hv⟩
theorem dT{l:List Vw.Acc}(h:bG w v l): ∃A n C,v=.slice A n C:=by
 obtain⟨A,C,hv⟩:=h.sE;exact⟨A,_,C,hv⟩
theorem i9{l:List Sto.aM}(h:Dks w v l): ∃A n C,v=.slice A n C:=by
 obtain⟨A,C,hv,_⟩:=h;exact⟨A,_,C,hv⟩
theorem rC{X:Sto.Six}(hX:Sto.dE X)(c:Sto.Cfg)(s:Sto.St)(vd vt vs va:Value)(w:World)(h:jT w vd vt vs va s)(hw:WfJ c s):
  Calls prog 33 #[stC c vd s vt vs va] w fun e w'=>a8J e w' w.heap.size (Sto.all X c s)∧Bl w w':=by
 have Bm:=hd8 h.tl;have Be:=hd8 h.dk;have Av:Hid ((∃A n C,vt=.slice A n C)∧(∃A n C,vs=.slice A n C)∧ ∃A n C,va=.slice A n C):=⟨fZ h.tl,gY h.sn,dT h.ac⟩;obtain⟨Ad,nd,Cd,rfl⟩:=i9 h.dk;obtain⟨At,nt,Ct,rfl⟩:=fZ h.tl;obtain⟨As,ns,Cs,rfl⟩:=gY h.sn;obtain⟨Aa,na,Ca,rfl⟩:=dT h.ac;obtain⟨n,hn⟩: ∃n,n=s.segs:=⟨_,rfl⟩;obtain⟨uU,Bb⟩: ∃uU,uU=s.u:=⟨_,rfl⟩;have Bq:n≤40:=by rw[hn];exact hw.segs
 have Au:=hd8 hw.n12;have HX:Hid (Sto.dE X):=hX;have B7:=b2B hw;have Aw:=hd8 B7;have HA:Hid (Sto.all X c s=if (Sto.iW X c s.disks n 0 []).1≠0 then((Sto.iW X c s.disks n 0 []).1,[])else(0,(Sto.iW X c s.disks n 0 []).2++Sto.cG s.tail)):=by
  show Sto.all X c s=_;rw[hn];rfl
 have eg:=Tryz.enters_add;change Calls prog 33 #[stA c.d c.s c.b (.slice Ad nd Cd) s.segs (.slice At nt Ct) (.slice As ns Cs) s.u (.slice Aa na Ca)] w _;rw[←hn,←Bb];obtain⟨w1,B2⟩: ∃q,q=w.alloc (.cells #[iV c.d,iV c.s,iV c.b,.slice Ad nd Cd,iV n,.slice At nt Ct,.slice As ns Cs,iV uU,.slice Aa na Ca] 32):=⟨_,rfl⟩;have b1:=aB8 w (.cells #[iV c.d,iV c.s,iV c.b,.slice Ad nd Cd,iV n,.slice At nt Ct,.slice As ns Cs,iV uU,.slice Aa na Ca] 32);have V1:=aC w #[iV c.d,iV c.s,iV c.b,.slice Ad nd Cd,iV n,.slice At nt Ct,.slice As ns Cs,iV uU,.slice Aa na Ca] 32;rw[←B2]at b1 V1;have bQ:=aB8 w1 (.cells #[nS] 40);have VQ:=aC w1 #[nS] 40;have H0:Hid (c7Q X c s.disks n w (w1.alloc (.cells #[nS] 40)) w1.heap.size 0):=⟨_,[],cH.nil _ _,VQ,bt b1 bQ,c9D _,rfl⟩;have B5:=hd8 (V1.bE bQ);have Ay:=aZ.lt V1;clear h hw hX B7 b1 V1 bQ VQ hn Bb;go_enter func33,ntmps33
 go_upto_region 1 with fail
 rw[←B2];clear B2;go_upto_region 2 with fail
 obtain⟨w2,Bc⟩: ∃q,q=w1.alloc (.cells #[nS] 40):=⟨_,rfl⟩;rw[←Bc]at H0 B5⊢;obtain⟨Q,hQ⟩: ∃q,q=w1.heap.size:=⟨_,rfl⟩;rw[←hQ]at H0 Ay⊢;clear Bc hQ;go_wp2_with fail;go_loopw [6] (fun x wr=> ∃k:Nat,k≤n∧x=iV k∧Hid (c7Q X c s.disks n w wr Q k)∧Hid (aV wr w.heap.size 32 [iV c.d,iV c.s,iV c.b,.slice Ad nd Cd,iV n,.slice At nt Ct,.slice As ns Cs,iV uU,.slice Aa na Ca])) (fun x _=>n-(intOf x).toNat)
 case atStart=>exact⟨0,c9D _,rfl,H0,B5⟩
 case round=>
  obtain⟨k,hk,rfl,HR,HP⟩:=hrel;obtain⟨y,es,hE,Ah,hb,B9,Aq⟩:=HR.out.ok;have c4:=HP.out.q4;by_cases Bt:k<n
  ·have Bp:(k:Int)<(n:Int):=by omega
   obtain⟨m,hm⟩: ∃m,n-k=m+1:=⟨n-k-1,by omega⟩;have B3:=fun w' (hS:((w'.cell? (aD w.heap.size 0)=some (iV c.d)∧w'.cell? (aD w.heap.size 1)=some (iV c.s)∧w'.cell? (aD w.heap.size 2)=some (iV c.b)∧w'.cell? (aD w.heap.size 3)=some (.slice Ad nd Cd)∧w'.cell? (aD w.heap.size 4)=some (iV n)∧w'.cell? (aD w.heap.size 5)=some (.slice At nt Ct)∧w'.cell? (aD w.heap.size 6)=some (.slice As ns Cs)∧w'.cell? (aD w.heap.size 7)=some (iV uU)∧w'.cell? (aD w.heap.size 8)=some (.slice Aa na Ca))∧Bl wr w'))=>rF c.d c.s c.b (n:Int) uU (.slice Ad nd Cd) (.slice At nt Ct) (.slice As ns Cs) (.slice Aa na Ca) s.disks (k:Int) w' (Be.out.bE (bt hb hS.2)) Au.out Av.out.1 Av.out.2.1 Av.out.2.2;have An: ∀w',Bl wr w'→((w'.cell? (aD w.heap.size 0)=some (iV c.d)∧w'.cell? (aD w.heap.size 1)=some (iV c.s)∧w'.cell? (aD w.heap.size 2)=some (iV c.b)∧w'.cell? (aD w.heap.size 3)=some (.slice Ad nd Cd)∧w'.cell? (aD w.heap.size 4)=some (iV n)∧w'.cell? (aD w.heap.size 5)=some (.slice At nt Ct)∧w'.cell? (aD w.heap.size 6)=some (.slice As ns Cs)∧w'.cell? (aD w.heap.size 7)=some (iV uU)∧w'.cell? (aD w.heap.size 8)=some (.slice Aa na Ca))∧Bl wr w'):=fun w' hb'=>by
    have V:=HP.out.bE hb';exact⟨⟨V.q0,V.q1,V.q2,V.q3,V.q4,V.q5,V.q6,V.q7,V.q8⟩,hb'⟩
   have TD:=An wr.drew (Below.refl _ _).drew;have B4: ∀w',((w'.cell? (aD w.heap.size 0)=some (iV c.d)∧w'.cell? (aD w.heap.size 1)=some (iV c.s)∧w'.cell? (aD w.heap.size 2)=some (iV c.b)∧w'.cell? (aD w.heap.size 3)=some (.slice Ad nd Cd)∧w'.cell? (aD w.heap.size 4)=some (iV n)∧w'.cell? (aD w.heap.size 5)=some (.slice At nt Ct)∧w'.cell? (aD w.heap.size 6)=some (.slice As ns Cs)∧w'.cell? (aD w.heap.size 7)=some (iV uU)∧w'.cell? (aD w.heap.size 8)=some (.slice Aa na Ca))∧Bl wr w')→Bl wr w':=fun w' hS=>hS.2;have Ab:Hid (Sto.iW X c s.disks n 0 []=if (X.read (Sto.aI s.disks k) k c).1≠0 then((X.read (Sto.aI s.disks k) k c).1,[])else if Evt.aL (X.read (Sto.aI s.disks k) k c).2≠0 then(Evt.aL (X.read (Sto.aI s.disks k) k c).2,[])else Sto.iW X c s.disks m (k+1) (es.map aY++Sto.cG (Evt.dA (X.read (Sto.aI s.disks k) k c).2))):=by
    show Sto.iW X c s.disks n 0 []=_;rw[Aq,hm,Sto.iW]
   have Am:Hid (∀v' w',BlL w' v' (Sto.aI s.disks (k:Int))→Calls prog 64 #[v',iV k,iV c.d] w' fun e w2=> ∃v2,e=.returned (.tuple #[v2,iV ((X.read (Sto.aI s.disks (k:Int)) k c).1:Nat)])∧cU w2 v2 (X.read (Sto.aI s.disks (k:Int)) k c).2∧Bl w' w2):=fun v' w' hL=>a1U HX.out v' _ k c w' hL;generalize (X.read (Sto.aI s.disks (k:Int)) k c).1=x at Ab Am;generalize (X.read (Sto.aI s.disks (k:Int)) k c).2=r at Ab Am;have Bh:Hid (n-(k+1)=m):=show n-(k+1)=m by omega
   clear Aq hm;go_upto_region 6 with fail
   go_region_held3 (fun w'=>((w'.cell? (aD w.heap.size 0)=some (iV c.d)∧w'.cell? (aD w.heap.size 1)=some (iV c.s)∧w'.cell? (aD w.heap.size 2)=some (iV c.b)∧w'.cell? (aD w.heap.size 3)=some (.slice Ad nd Cd)∧w'.cell? (aD w.heap.size 4)=some (iV n)∧w'.cell? (aD w.heap.size 5)=some (.slice At nt Ct)∧w'.cell? (aD w.heap.size 6)=some (.slice As ns Cs)∧w'.cell? (aD w.heap.size 7)=some (iV uU)∧w'.cell? (aD w.heap.size 8)=some (.slice Aa na Ca))∧Bl wr w'))
    (first|with_reducible exact TD|with_reducible assumption)
    (first|(go_at_call 38;refine(B3 _ (by assumption)).mono ?_;rintro e1 w1 ⟨v1,rfl,Bn,b1⟩;have S1:=An w1 (bt (B4 _ (by assumption)) b1))|(go_at_call 64;refine(Am.out _ _ (by assumption)).mono ?_;rintro e2 w2 ⟨v2,rfl,Aj,b2⟩;have S2:=An w2 (bt S1.2 b2)))
   have Ao:=S2.2;have Af:=hE.bE Ao;have A5:=Ah.bE Ao;have B6:=hd8 (HP.out.bE Ao);have Az:=bt hb Ao;clear S1 S2 TD B3 Am b1 b2 Bn An B4 HR HP hE Ah hb c4;by_cases hx:x=0
   case neg=>
    have HF:Hid (Sto.all X c s=(x,[])):=by
     show Sto.all X c s=(x,[]);have e1:Sto.iW X c s.disks n 0 []=(x,[]):=by rw[Ab.out,if_pos hx]
     rw[HA.out,e1];exact if_pos hx
    have Bu:((x:Int) !=0)=true:=by rw[bne_iff_ne];omega
    obtain⟨A2,C2,rfl⟩:=Aj.byts.sE;clear hx Aj Af A5;go_wp2_with fail;go_ret2
    exact⟨by rw[HF.out];exact tL _ _ _,Az⟩
   case pos=>
    subst hx;have Ac:=b2L v2 r.length (fun j=>r.getD j 0) w2 Aj.byts;rw[Sto.b3G]at Ac;have B8:Evt.aL r=0→(Evt.aF (Evt.dA r)).1=0:=a6Q;obtain⟨A2,C2,rfl⟩:=Aj.byts.sE;obtain⟨y9,hy⟩: ∃y9,Evt.aL r=y9:=⟨_,rfl⟩;have HY:=hd8 hy;rw[hy]at Ac;clear hy Aj;go_wp2_with fail;refine Ac.mono ?_;rintro e3 w3 ⟨v3,rfl,Ae,b3⟩;by_cases Ar:y9=0
    case neg=>
     have HF:Hid (Sto.all X c s=(y9,[])):=by
      show Sto.all X c s=(y9,[]);have e1:Sto.iW X c s.disks n 0 []=(y9,[]):=by rw[Ab.out,if_neg (fun z=>z rfl),HY.out,if_pos Ar]
      rw[HA.out,e1];exact if_pos Ar
     have Bv:((y9:Int) !=0)=true:=by rw[bne_iff_ne];omega
     obtain⟨A3,C3,A6⟩: ∃A C,v3=.slice A (Evt.dA r).length C:=by
      obtain⟨A3,C3,A6,_⟩:=Ae;exact⟨A3,C3,A6⟩
     subst A6;have Ak:=bt Az b3;clear Ar Ae Ac Af A5;go_wp2_with fail;go_ret2
     exact⟨by rw[HF.out];exact tL _ _ _,Ak⟩
    case pos=>
     subst Ar;obtain⟨Br,Ba⟩:=tF (B8 HY.out);have Ap:=Af.bE b3;have Ai:=A5.bE b3;have B0:es.length+(Sto.cG (Evt.dA r)).length≤(k+1)*2550:=by
      rw[d0F];omega
     have Ak:=bt Az b3;have B1:(k+1)*2550≤40*2550:=d1J _ (by omega);have Bo:Q<w2.heap.size:=aZ.lt A5
     have A9:=zQ w.heap.size Q y v3 es (Evt.dA r) w3 Ap Ai Ak.size (fun w' ho=>(Ae.off ho fun q hq=>by
      rcases hq with z|z
      ·rw[z];exact Bo
      ·exact(Af.1.lt q z).2).bats) Ba (by omega)
     have A1: ∀w4,Off (fun q=>q=Q∨y.ownBlock=some q) w3 w4→Below w.heap.size w3 w4:=fun w4 ho=>ho.bE Ak.size fun q hq=>by
      rcases hq with z|z
      ·rw[z];exact d2B Ay
      ·exact(Ap.1.lt q z).1
     have Bi:Hid (∀v4 A0 w4,cH w4 w.heap.size v4 A0→A0.map aY=es.map aY++Sto.cG (Evt.dA r)→aV w4 Q 40 [v4]→Off (fun q=>q=Q∨y.ownBlock=some q) w3 w4→c7Q X c s.disks n w w4 Q (k+1)):=fun v4 A0 w4 q1 q2 q3 q4=>by
      refine⟨v4,A0,q1,q3,Ak.trans (A1 w4 q4),?_,?_⟩
      ·have:=congrArg List.length q2;rw[c9M,c9I,c9M]at this;omega
      ·rw[Ab.out,if_neg (fun z=>z rfl),if_neg (fun z=>z HY.out),q2,Bh.out]
     have Ax:=B6.out.bE b3;have Bj:Hid (∀w4,Off (fun q=>q=Q∨y.ownBlock=some q) w3 w4→aV w4 w.heap.size 32 [iV c.d,iV c.s,iV c.b,.slice Ad nd Cd,iV n,.slice At nt Ct,.slice As ns Cs,iV uU,.slice Aa na Ca]):=fun w4 ho=>Ax.off ho fun z=>by
      rcases z with z|z
      ·omega
      ·exact(aU Ap.1 z).ne Ax.ty (by decide) rfl
     obtain⟨A3,C3,A6⟩: ∃A C,v3=.slice A (Evt.dA r).length C:=by
      obtain⟨A3,C3,A6,_⟩:=Ae;exact⟨A3,C3,A6⟩
     subst A6;clear Ae Ac Af Ap B0 Br Ba B1 B8 B9 A5 Ai Ax B6 A1;go_wp2_with fail;refine A9.mono ?_;rintro e4 w4 ⟨v4,A0,rfl,A7,Al,Ag,A8⟩;have Bg:=hd8 (Bi.out v4 A0 w4 A7 Al Ag A8);have Bk:=hd8 (Bj.out w4 A8);clear A9 A7 Al A8 Ag;go_wp2_with fail;exact⟨⟨k+1,by omega,by go_num,Bg,Bk⟩,by simp[intOf];omega⟩
  ·obtain rfl:k=n:=by omega
   have c5:=HP.out.q5;have B1:k*2550≤40*2550:=d1J _ (by omega);obtain⟨t1,t2⟩:=Aw.out;have Bs:=aZ.lt Ah;have A1: ∀w4,Off (fun q=>q=Q∨y.ownBlock=some q) wr w4→Below w.heap.size wr w4:=fun w4 ho=>ho.bE hb.size fun q hq=>by
    rcases hq with z|z
    ·rw[z];exact d2B Ay
    ·exact(hE.1.lt q z).1
   have A9:=zQ w.heap.size Q y (.slice At nt Ct) es s.tail wr hE Ah hb.size (fun w' ho=>Bm.out.bE (hb.trans (A1 w' ho))) t2 (by omega);have HF:Hid (∀v4 A0 w4,cH w4 w.heap.size v4 A0→A0.map aY=es.map aY++Sto.cG s.tail→Off (fun q=>q=Q∨y.ownBlock=some q) wr w4→a8J (.returned (.tuple #[v4,iV 0])) w4 w.heap.size (Sto.all X c s)∧Bl w w4):=fun v4 A0 w4 q1 q2 q3=>by
    have e1:Sto.iW X c s.disks k 0 []=(0,es.map aY):=by
     rw[Aq,d1L];rfl
    have e2:Sto.all X c s=(0,es.map aY++Sto.cG s.tail):=by
     rw[HA.out,e1];rfl
    refine⟨?_,hb.trans (A1 w4 q3)⟩;rw[e2];refine⟨v4,A0,rfl,q2,q1,?_⟩;have:=congrArg List.length q2;rw[c9M,c9I,c9M]at this;omega
   clear HR HP hE Ah hb B9 Aq B1 t1 t2 A1;go_wp2_with fail;refine A9.mono ?_;rintro e4 w4 ⟨v4,A0,rfl,A7,Al,Ag,A8⟩;have Bf:=hd8 (HF.out v4 A0 w4 A7 Al A8);have q0:=Ag.q0;obtain⟨A4,n4,C4,rfl⟩: ∃A n C,v4=.slice A n C:=by
    obtain⟨A,C,h,_⟩:=bJ A7.1;exact⟨A,_,C,h⟩
   clear A9 HF A7 Al A8 Ag;go_wp2_with fail;go_ret2
   exact Bf.out
abbrev c4E(a:Sto.Ans)(ve va:Value):Value:=.agg #[iV a.err,iV a.n,ve,iV a.vu,va]
abbrev nC:Array Value:=#[iV 0,iV 0,nS,iV 0,nS]
def lO(v:Value):Prop:= ∀A n C,v=.slice A n C→(A=none→C=0)∧ ∀a,A=some a→a.spot=none
theorem b2R:lO nS:=fun A n C e=>by
 cases e
 exact⟨fun _=>rfl,fun a e=>by cases e⟩
theorem b0M{z:Nat}(h:w.ownsRow N t z v n xs):lO v:=fun A n' C e=>by
 rcases h.2 with⟨rfl,_⟩|⟨g,cap,cur,rfl,_⟩
 ·cases e
  exact⟨fun _=>rfl,fun a e=>by cases e⟩
 ·cases e
  exact⟨(fun e=>by cases e),(fun a e=>by cases e;rfl)⟩
def dK(e:Ending)(T:Nat→Bool)(w w':World)(c:Sto.Cfg)(r:Sto.St×Sto.Ans):Prop:= ∃vd vt vs va ve vl,e=.returned (.tuple #[stC c vd r.1 vt vs va,c4E r.2 ve vl])∧jT (aS T w') vd vt vs va r.1∧Evs (aS T w') ve r.2.evs∧bG (aS T w') vl r.2.vl∧lO vs∧Bl w w'
theorem kB(w:World):Evs w nS []:=uY w none 0 (c9D _)
theorem xO{c:Sto.Cfg}{s:Sto.St}(h:jT (aS T w) vd vt vs va s)(hp:lO vs)(hb:Bl w w'){a:Sto.Ans}{ve vl:Value}(he:Evs (aS T w') ve a.evs)(hl:bG (aS T w') vl a.vl):dK (.returned (.tuple #[stC c vd s vt vs va,c4E a ve vl])) T w w' c (s,a):=
 ⟨vd,vt,vs,va,_,_,rfl,h.sub (cR hb),he,hl,hp,hb⟩
theorem a8D{c:Sto.Cfg}{s:Sto.St}(h:jT (aS T w) vd vt vs va s)(hp:lO vs)(hb:Bl w w')(E:Nat)(n:Int):dK (.returned (.tuple #[stC c vd s vt vs va,c4E ⟨E,n,[],0,[]⟩ nS nS])) T w w' c (s,⟨E,n,[],0,[]⟩):=
 xO h hp hb (kB _) (bG.nil _)
def tV(w:World)(P:Nat)(t:TypeId)(cs:Array Value):Prop:=w.heap[P]?=some (.cells cs t)
theorem lY(w:World)(cs:Array Value)(t:TypeId):tV (w.alloc (.cells cs t)) w.heap.size t cs:=heap_alloc_new w _
theorem tV.lt{cs:Array Value}(h:tV w P t cs):P<w.heap.size:=(d1M.1 h).1
theorem tV.off{cs:Array Value}{S:Nat→Prop}(h:tV w P t cs)(ho:Off S w w')(hS: ¬S P):tV w' P t cs:=(ho.block P h.lt hS).trans h
theorem tV.bE{cs:Array Value}(h:tV w P t cs)(hb:Bl w w'):tV w' P t cs:=(hb.block P h.lt).trans h
theorem tV.var{cs:Array Value}(h:tV w P t cs):aV w P t cs.toList:=⟨cs.size,fun j=>cs.getD j nS,⟨cs,h,rfl,fun i hi=>by simp[hi]⟩,by simp,fun j hj=>by
 have hj:j<cs.size:=by simpa using hj
 simp[List.getD,Array.getD,hj]⟩
theorem Tryz.enters_noP: ∀args w,(callFunc 58 args).run Tryz.prog w=.ok (.enter 58 args) w:=enters_of Tryz.func58 (by kernel_rfl) rfl
theorem Tryz.enters_noS: ∀args w,(callFunc 31 args).run Tryz.prog w=.ok (.enter 31 args) w:=enters_of Tryz.func31 (by kernel_rfl) rfl
theorem noB{w2:World}{Q:Nat}(h:Bl w w2)(hP:w.heap.size≤P)(hQ:w.heap.size≤Q)(a b c d e f g i j k l m n o:Value):Bl w ((((((((((((((w2.setCell (aD P 0) a).setCell (aD P 1) b).setCell (aD P 2) c).setCell (aD P 3) d).setCell (aD P 4) e).setCell (aD P 5) f).setCell (aD P 6) g).setCell (aD P 7) i).setCell (aD P 8) j).setCell (aD Q 0) k).setCell (aD Q 1) l).setCell (aD Q 2) m).setCell (aD Q 3) n).setCell (aD Q 4) o):=
 (h.trans ((fE w2 P a b c d e f g i j).bE h.size fun q e=>by omega)).trans ((aT _ Q k l m n o).bE (c9E h.size (fE w2 P a b c d e f g i j).size) fun q e=>by omega)
theorem sQ(P:Nat)(E:Nat)(x y z g u:Int)(Ad:Option Addr)(nd Cd:Nat)(At:Option Addr)(nt Ct:Nat)(As:Option Addr)(ns Cs:Nat)(Aa:Option Addr)(na Ca:Nat)(w:World)(h:aV w P 32 [iV x,iV y,iV z,.slice Ad nd Cd,iV g,.slice At nt Ct,.slice As ns Cs,iV u,.slice Aa na Ca]):
  Calls prog 58 #[iV E,.pointer (some (aD P 0))] w fun e w'=>e=.returned (.tuple #[stA x y z (.slice Ad nd Cd) g (.slice At nt Ct) (.slice As ns Cs) u (.slice Aa na Ca),.agg #[iV E,iV 0,nS,iV 0,nS]])∧Bl w w':=by
 have b1:=aB8 w (.cells jE 32);have b2:=b1.alloc b1.size (.cells nC 42);have V:=h.bE b2;have a0:=V.q0;have a1:=V.q1;have a2:=V.q2;have a3:=V.q3;have a4:=V.q4;have a5:=V.q5;have a6:=V.q6;have a7:=V.q7;have a8:=V.q8;have X1:=((lY w jE 32).bE ((Below.refl _ _).alloc (c9C _) (.cells nC 42))).var;have X2:=(lY (w.alloc (.cells jE 32)) nC 42).var;have A0:(w.alloc (.cells jE 32)).heap.size=w.heap.size+1:=d2K _;rw[A0]at X2;have d0:=X1.q0;have d1:=X1.q1;have d2:=X1.q2;have d3:=X1.q3;have d4:=X1.q4;have d5:=X1.q5;have d6:=X1.q6;have d7:=X1.q7;have d8:=X1.q8;have f0:=X1.frozen 0;have f1:=X1.frozen 1;have f2:=X1.frozen 2;have f3:=X1.frozen 3;have f4:=X1.frozen 4;have f5:=X1.frozen 5;have f6:=X1.frozen 6;have f7:=X1.frozen 7;have f8:=X1.frozen 8;have k0:=X2.q0;have k1:=X2.q1;have k2:=X2.q2;have k3:=X2.q3;have k4:=X2.q4;have l0:=X2.frozen 0;have l1:=X2.frozen 1;have l2:=X2.frozen 2;have l3:=X2.frozen 3;have l4:=X2.frozen 4;clear h V X1 X2 A0 b1;go_enter func58,ntmps58
 go_upto_region 1 with fail
 generalize (w.alloc (.cells jE 32)).alloc (.cells nC 42)=w2 at*;go_wp2_with fail;exact bodyPost_ret (by simp[results,results58,go_sem,d0,d1,d2,d3,d4,d5,d6,d7,d8,k0,k1,k2,k3,k4]) rfl ⟨rfl,noB b2 (c9C _) (c9O _) _ _ _ _ _ _ _ _ _ _ _ _ _ _⟩
theorem eL(P:Nat)(E:Nat)(x y z g u:Int)(Ad:Option Addr)(nd Cd:Nat)(At:Option Addr)(nt Ct:Nat)(As:Option Addr)(ns Cs:Nat)(Aa:Option Addr)(na Ca:Nat)(w:World)(h:aV w P 32 [iV x,iV y,iV z,.slice Ad nd Cd,iV g,.slice At nt Ct,.slice As ns Cs,iV u,.slice Aa na Ca]):
  Calls prog 31 #[iV E,.pointer (some (aD P 0))] w fun e w'=>e=.returned (.tuple #[stA x y z (.slice Ad nd Cd) g (.slice At nt Ct) (.slice As ns Cs) u (.slice Aa na Ca),.agg #[iV E,iV 0,nS,iV 0,nS]])∧Bl w w':=by
 have b1:=aB8 w (.cells jE 32);have b2:=b1.alloc b1.size (.cells nC 42);have V:=h.bE b2;have a0:=V.q0;have a1:=V.q1;have a2:=V.q2;have a3:=V.q3;have a4:=V.q4;have a5:=V.q5;have a6:=V.q6;have a7:=V.q7;have a8:=V.q8;have X1:=((lY w jE 32).bE ((Below.refl _ _).alloc (c9C _) (.cells nC 42))).var;have X2:=(lY (w.alloc (.cells jE 32)) nC 42).var;have A0:(w.alloc (.cells jE 32)).heap.size=w.heap.size+1:=d2K _;rw[A0]at X2;have d0:=X1.q0;have d1:=X1.q1;have d2:=X1.q2;have d3:=X1.q3;have d4:=X1.q4;have d5:=X1.q5;have d6:=X1.q6;have d7:=X1.q7;have d8:=X1.q8;have f0:=X1.frozen 0;have f1:=X1.frozen 1;have f2:=X1.frozen 2;have f3:=X1.frozen 3;have f4:=X1.frozen 4;have f5:=X1.frozen 5;have f6:=X1.frozen 6;have f7:=X1.frozen 7;have f8:=X1.frozen 8;have k0:=X2.q0;have k1:=X2.q1;have k2:=X2.q2;have k3:=X2.q3;have k4:=X2.q4;have l0:=X2.frozen 0;have l1:=X2.frozen 1;have l2:=X2.frozen 2;have l3:=X2.frozen 3;have l4:=X2.frozen 4;clear h V X1 X2 A0 b1;go_enter func31,ntmps31
 go_upto_region 1 with fail
 generalize (w.alloc (.cells jE 32)).alloc (.cells nC 42)=w2 at*;go_wp2_with fail;exact bodyPost_ret (by simp[results,results31,go_sem,d0,d1,d2,d3,d4,d5,d6,d7,d8,k0,k1,k2,k3,k4]) rfl ⟨rfl,noB b2 (c9C _) (c9O _) _ _ _ _ _ _ _ _ _ _ _ _ _ _⟩
structure RG(W w:World)(e:TypeId)(sz:Nat)(v:Value)(n:Nat)(us:List Value):Prop where
 bel:Bl W w
 own:w.ownsRow W.heap.size e sz v n us
theorem RG.bE{e:TypeId}{sz:Nat}(h:RG W w e sz v n us)(hb:Bl w w'):RG W w' e sz v n us:=⟨bt h.bel hb,aK h.own hb⟩
section
variable {t e : TypeId} {sz bytes : Nat} {z : Value}
theorem RG.app(ht:prog.underlying t=some (.slice e))(hin:(prog.info? e).map (fun i=>(i.zero,i.size,i.bytes))=some (some z,sz,bytes))(hzs:z.cells.size=sz)(hsz:0<sz)(hby:bytes≤1000)(h:RG W w e sz v n us)(A:Option Addr)(m c:Nat)(hA:A=none→m=0)(news:List Value)(hl:news.length=m*sz)(hc: ∀a,A=some a→ ∀j u,news[j]?=some u→w.cell? (a.add j)=some u)(h1: ∀u,u∈news→u.oneCell'=true)(hnm:n+m≤100000):
  ∃v' w',(Builtin.append_ #[t,t] t #[v,.slice A m c]).run prog w=.ok v' w'∧RG W w' e sz v' (n+m) (us++news)∧ ∀B t' cs,aV w B t' cs→v.ownBlock≠some B→aV w' B t' cs:=by
 obtain⟨v',w',hr,h2,h3,_⟩:=wO t ht hin hzs hsz hby h.own A m c hA news hl hc h1 hnm h.bel.size;exact⟨v',w',hr,⟨h.bel.trans (lA h3 (fun g hg=>(h.own.lt g hg).1) h.bel.size),h2⟩,fun B t' cs hV hn=>hV.off (cI h3) hn⟩
theorem yU(ht:prog.underlying t=some (.slice e))(hin:(prog.info? e).map (fun i=>(i.zero,i.size,i.bytes))=some (some z,sz,bytes))(hzs:z.cells.size=sz)(hsz:0<sz)(hby:bytes≤1000)(W:World)(A:Option Addr)(m c:Nat)(hA:A=none→m=0)(news:List Value)(hl:news.length=m*sz)(hc: ∀a,A=some a→ ∀j u,news[j]?=some u→W.cell? (a.add j)=some u)(h1: ∀u,u∈news→u.oneCell'=true)(hm:m≤1000)(lit:Array Value)(hlit:lit.size=sz)(h1l: ∀u,u∈lit.toList→u.oneCell'=true):
  (∃A6 n6 C6 w6 A7 n7 C7 w7,(Builtin.append_ #[t,t] t #[.slice (some (aD W.heap.size 0)) 0 0,.slice A m c]).run prog (W.alloc (.cells #[] e)).drew=.ok (.slice A6 n6 C6) w6∧Bl W w6∧(Builtin.append_ #[t,t] t #[.slice A6 n6 C6,.slice (some (aD w6.heap.size 0)) 1 1]).run prog (w6.alloc (.cells lit e))=.ok (.slice A7 n7 C7) w7∧RG W w7 e sz (.slice A7 n7 C7) (m+1) (news++lit.toList))∧
  (∃A6 n6 C6 w6 A7 n7 C7 w7,(Builtin.append_ #[t,t] t #[.slice (some (aD W.heap.size 0)) 0 0,.slice A m c]).run prog ((W.alloc (.cells #[] e)).alloc (.cells lit e)).drew=.ok (.slice A6 n6 C6) w6∧Bl W w6∧(Builtin.append_ #[t,t] t #[.slice A6 n6 C6,.slice (some (aD (W.heap.size+1) 0)) 1 1]).run prog w6=.ok (.slice A7 n7 C7) w7∧RG W w7 e sz (.slice A7 n7 C7) (m+1) (news++lit.toList))∧
  (∃A6 n6 C6 w6 A7 n7 C7 w7,(Builtin.append_ #[t,t] t #[.slice (some (aD (W.heap.size+1) 0)) 0 0,.slice A m c]).run prog ((W.alloc (.cells lit e)).alloc (.cells #[] e)).drew=.ok (.slice A6 n6 C6) w6∧Bl W w6∧(Builtin.append_ #[t,t] t #[.slice A6 n6 C6,.slice (some (aD W.heap.size 0)) 1 1]).run prog w6=.ok (.slice A7 n7 C7) w7∧RG W w7 e sz (.slice A7 n7 C7) (m+1) (news++lit.toList)):=by
 have bR: ∀w':World,Bl w' w'.drew:=fun w'=>(Below.refl _ _).drew;have bA: ∀(w':World) o,Bl w' (w'.alloc o):=fun w' o=>(Below.refl _ _).alloc (c9C _) o;have A3: ∀o,(W.alloc o).heap.size=W.heap.size+1:=fun o=>d2K _;have A0: ∀w',Bl W w'→ ∀a,A=some a→ ∀j u,news[j]?=some u→w'.cell? (a.add j)=some u:=fun w' hb a ha j u hj=>(hb.cell (p:=a.add j) (World.block_lt_of_cell? _ _ (hc a ha j u hj))).trans (hc a ha j u hj);have hE: ∀w',Bl W w'→RG W (w'.alloc (.cells #[] e)) e sz (.slice (some (aD w'.heap.size 0)) 0 0) 0 []:=fun w' hb=>⟨hb.alloc hb.size _,World.ownsRow_made w' #[] 0 hb.size (by unfold maxLen;omega) (by simp)⟩;have A1: ∀(w':World) (B:Nat),aV w' B e lit.toList→ ∀a,some (⟨B,0,none⟩:Addr)=some a→ ∀j u,lit.toList[j]?=some u→w'.cell? (a.add j)=some u:=fun w' B hV a ha j u hj=>by
  cases ha
  rw[WideShapes.add_plain,c9G];exact hV.cell hj
 have A2:lit.toList.length=1*sz:=by rw[d1B,hlit,Nat.one_mul]
 refine⟨?_,?_,?_⟩
 ·have R0:=(hE W (Below.refl _ _)).bE (bR _);obtain⟨v6,w6,r6,R6,_⟩:=R0.app ht hin hzs hsz hby A m c hA news hl (A0 _ R0.bel) h1 (by omega);have A4:=R6.bE (bA w6 (.cells lit e));obtain⟨v7,w7,r7,R7,_⟩:=A4.app ht hin hzs hsz hby (some (aD w6.heap.size 0)) 1 1 (fun e=>by cases e) lit.toList A2 (A1 _ _ (aC w6 lit e)) h1l (by omega);rw[c9G,d1C]at R7;obtain⟨A6,C6,e6,_⟩:=bJ R6.own;obtain⟨A7,C7,e7,_⟩:=bJ R7.own;subst e6 e7;exact⟨A6,_,C6,w6,A7,_,C7,w7,r6,R6.bel,r7,R7⟩
 ·have R0:=((hE W (Below.refl _ _)).bE (bA _ (.cells lit e))).bE (bR _);have V0:=(aC (W.alloc (.cells #[] e)) lit e).bE (bR _);rw[A3]at V0;obtain⟨v6,w6,r6,R6,K6⟩:=R0.app ht hin hzs hsz hby A m c hA news hl (A0 _ R0.bel) h1 (by omega)
  have V6:=K6 _ _ _ V0 (fun q=>by
   have q:some W.heap.size=some (W.heap.size+1):=q;have:=Option.some.inj q
   omega)
  obtain⟨v7,w7,r7,R7,_⟩:=R6.app ht hin hzs hsz hby (some (aD (W.heap.size+1) 0)) 1 1 (fun e=>by cases e) lit.toList A2 (A1 _ _ V6) h1l (by omega);rw[c9G,d1C]at R7;obtain⟨A6,C6,e6,_⟩:=bJ R6.own;obtain⟨A7,C7,e7,_⟩:=bJ R7.own;subst e6 e7;exact⟨A6,_,C6,w6,A7,_,C7,w7,r6,R6.bel,r7,R7⟩
 ·have A5:=bA W (.cells lit e);have R0:=(hE _ A5).bE (bR _);have V0:=((aC W lit e).bE (bA _ (.cells #[] e))).bE (bR _);rw[A3]at R0;obtain⟨v6,w6,r6,R6,K6⟩:=R0.app ht hin hzs hsz hby A m c hA news hl (A0 _ R0.bel) h1 (by omega)
  have V6:=K6 _ _ _ V0 (fun q=>by
   have q:some (W.heap.size+1)=some W.heap.size:=q;have:=Option.some.inj q
   omega)
  obtain⟨v7,w7,r7,R7,_⟩:=R6.app ht hin hzs hsz hby (some (aD W.heap.size 0)) 1 1 (fun e=>by cases e) lit.toList A2 (A1 _ _ V6) h1l (by omega);rw[c9G,d1C]at R7;obtain⟨A6,C6,e6,_⟩:=bJ R6.own;obtain⟨A7,C7,e7,_⟩:=bJ R7.own;subst e6 e7;exact⟨A6,_,C6,w6,A7,_,C7,w7,r6,R6.bel,r7,R7⟩
end
def c1A(w:World)(M:Nat)(v:Value)(n m:Nat)(F:Nat→Nat→Nat):Prop:= ∃N G K,M≤N∧Acc w N v n m G K F∧Gf.Bd2 F∧ ∀i,i<n→m≤K i∧K i≤maxLen
theorem b6H{S:Nat→Bool}{k c:Nat}{G K:Nat→Nat}{f:Nat→Nat→Nat}(h:Acc w N v k c G K f)(hS: ∀k,S k=true→k<N):Acc (aS S w) N v k c G K f:=by
 have hf: ∀g,N≤g→S g=false:=fun g hg=>by
  cases q:S g with
  |false=>rfl
  |true=>
   have:=hS g q;omega
 refine⟨?_,fun i hi=>⟨(h.row i hi).1,(h.row i hi).2.of_block (lJ (hf _ (h.row i hi).1))⟩⟩;obtain⟨hl,ho⟩:=h.own;refine⟨hl,ho.imp id ?_⟩;rintro⟨g,A0,A1,hv,hN,hg,hr⟩;exact⟨g,A0,A1,hv,hN,(lJ (hf g hN)).trans hg,hr⟩
theorem c1A.lls{m:Nat}{F:Nat→Nat→Nat}(h:c1A w M v n m F):Lls w v n (fun _=>m) F∧ ∀S:Nat→Bool,(∀k,S k=true→k<M)→Lls (aS S w) v n (fun _=>m) F:=by
 obtain⟨N,G,K,h1,h2,h3,h4⟩:=h;exact⟨h2.lls h3 h4,fun S hS=>(b6H h2 (fun k hk=>c9P (hS k hk) h1)).lls h3 h4⟩
def BlM(w:World)(M:Nat)(v:Value)(L:List (List Nat)):Prop:=BlL w v L∧ ∀S:Nat→Bool,(∀k,S k=true→k<M)→BlL (aS S w) v L
theorem BlM.lower{M':Nat}{L:List (List Nat)}(h:BlM w M v L)(hm:M'≤M):BlM w M' v L:=⟨h.1,fun S hS=>h.2 S fun k hk=>c9P (hS k hk) hm⟩
def BlP(e:Ending)(w:World)(M:Nat)(x:Nat×List (List Nat)):Prop:= ∃v,e=.returned (.tuple #[v,iV x.1])∧((x.1=0∧BlM w M v x.2)∨(x.1≠0∧v=nS))
theorem c4G(v:Value)(L:Nat)(r:Nat→Nat)(seg d s:Nat)(w:World)(h:cA w v L r)(h1:1≤d)(h2:d≤8)(h3:s≤4)(h4:seg≤39)(h5:L≤400*d):
  Calls prog 62 #[v,iV seg,iV d,iV s] w fun e w'=> ∃v',e=.returned (.tuple #[v',iV 0])∧c1A w' w.heap.size v' (d+s) (Seg.dF L d+11) (Seg.blk r L seg d)∧Bl w w':=by
 have Al:=Seg.oH L d h1;have Am:=Seg.nF h1 h5;have HW:=fun w'=>dZ (d:Int) (s:Int) w';rw[cO (by omega)]at HW;have Bh: ¬400*(d:Int)<(L:Int):=by omega
 have Bi:(seg:Int)≤39:=by omega
 have B9:Hid (∀w',Bl w w'→cA w' v L r):=fun w' hb=>h.bE hb;have Ag:Hid (L≤Seg.dF L d*d):=Seg.uO L d h1;have Af:Hid (∀n,1≤n→L≤n*d→Seg.dF L d≤n):=fun n q1 q2=>Seg.rS h1 q1 q2;have Aq:Hid (Gf.Bd2 (Seg.eT r L (Seg.dF L d))):=Seg.wR h.bd L _;obtain⟨A,C,rfl⟩:=h.sE;have Ay:Hid (∀w',Bl w w'→ ∀k,k<L→ ∃b o,A=some (aD b o)∧w'.cell? (aD b (o+k))=some (.int .u8 (r k:Nat))):=fun w' hb k hk=>by
  obtain⟨_,A',C',hv,_,_,hc⟩:=h.bE hb;cases hv
  exact hc k hk
 obtain⟨i0,Aj,hh⟩:=c9J.1 Tryz.infoRow;simp only[Prod.mk.injEq]at hh;obtain⟨An,Ao,Ap⟩:=hh;clear h;go_enter func62,ntmps62
 go_wp2_with fail;refine(HW _).mono ?_;rintro e w1 ⟨rfl,b1⟩;clear HW;go_wp2_with fail;go_loop [11] (fun x=> ∃n:Nat,1≤n∧n≤Seg.dF L d∧x=iV n) (fun x=>Seg.dF L d-(intOf x).toNat)
 case atStart=>exact⟨1,c9C _,Al,rfl⟩
 case round=>
  obtain⟨n,q1,q2,rfl⟩:=hrel;have A2:n*d≤400*8:=d0Y (by omega) h2;have A0:(n:Int)*(d:Int)=((n*d:Nat):Int):=by rw[Int.natCast_mul]
  have hw:IntKind.i64.wrap ((n:Int)*(d:Int))=(n:Int)*(d:Int):=by rw[A0,IntKind.wrap_i64];omega
  have B6: -9223372036854775808≤(n:Int)*(d:Int):=by rw[A0];omega
  have B7:(n:Int)*(d:Int)≤9223372036854775807:=by rw[A0];omega
  by_cases Ak:n*d<L
  ·have A6:(n:Int)*(d:Int)<(L:Int):=by rw[A0];omega
   have Av:Hid (n<Seg.dF L d):=by
    show n<_;refine Nat.lt_of_not_le (fun q=>?_);have:=Ag.out;have h9:=d1J d q;omega
   clear A0 Ak A2;go_wp2_with fail;have:=Av.out;exact⟨⟨n+1,by omega,by omega,by go_num⟩,by simp[intOf];omega⟩
  ·have A6: ¬(n:Int)*(d:Int)<(L:Int):=by rw[A0];omega
   obtain rfl:n=Seg.dF L d:=Nat.le_antisymm q2 (Af.out n q1 (by omega));generalize hnn:Seg.dF L d=n at*;clear A0 Ak A2 q1 q2 Ag Af;go_wp2_with fail;clear hw B6 B7 A6;go_loopw [12,13] (fun y x wr=> ∃i:Nat,i≤d∧x=iV i∧(∃G K,Acc wr w1.heap.size y i n G K (Seg.eT r L n)∧Hid (∀j,j<i→K j=n))∧Bl w1 wr) (fun _ x _=>d-(intOf x).toNat)
   case atStart=>exact⟨0,c9D _,rfl,⟨fun _=>0,fun _=>0,Acc.start w1 _ n _ _ _,fun j hj=>absurd hj (c9L j)⟩,Below.refl _ _⟩
   case round=>
    obtain⟨i,Bc,rfl,⟨G2,K2,hA,HK⟩,A5⟩:=hrel;obtain⟨wo,rfl⟩: ∃x,x=wr:=⟨wr,rfl⟩;by_cases hi:i<d
    ·have Bb:(i:Int)<(d:Int):=by omega
     have A2:i*n≤8*400:=d0Y (by omega) Am;have A0:(i:Int)*(n:Int)=((i*n:Nat):Int):=by rw[Int.natCast_mul]
     have hw:IntKind.i64.wrap ((i:Int)*(n:Int))=(i:Int)*(n:Int):=by rw[A0,IntKind.wrap_i64];omega
     have B5:=run_make_row' (P:=prog) 59 5 (.int .u8 0) 1 underlying59 Tryz.infoByte rfl .i64 .i64 n (by omega) (by omega);have B8:=hd8 A0;obtain⟨q,hq⟩: ∃q,i*n=q:=⟨_,rfl⟩;rw[hq]at A0 A2;have HQ:=hd8 hq;have At:=hd8 A0;clear A0 hq;go_wp2_with fail;clear B5;go_loopw [57] (fun x wm=> ∃k:Nat,k≤n∧x=iV k∧wm.rowIs wo.heap.size 5 n (fun y=> .int .u8 (dW k (Seg.eT r L n i) (fun _=>0) y:Nat))∧Bl wo wm) (fun x _=>n-(intOf x).toNat)
     case atStart=>exact⟨0,c9D _,rfl,(World.rowIs_made wo (.int .u8 0) n 5).congr (fun j _=>by rw[show dW 0 (Seg.eT r L n i) (fun _=>0) j=0 from if_neg (c9L _)];rfl),aB8 _ _⟩
     case round=>
      obtain⟨k,Bg,rfl,hR,A4⟩:=hrel;by_cases hk:k<n
      ·have Bf:(k:Int)<(n:Int):=by omega
       have Be:=At.out;have z1:=hR.frozen k;have u1:=hR.cell hk;rw[b3M]at u1;by_cases Ab:q+k<L
       ·have Ac:(q:Int)+(k:Int)<(L:Int):=by omega
        have HD:Hid (Seg.eT r L n i k=r (q+k)):=by
         show Seg.eT r L n i k=r (q+k);rw[Seg.b3L hk (by rw[HQ.out];exact Ab),HQ.out]
        obtain⟨bb,ob,rfl,t1⟩:=Ay.out wr (bt (bt b1 A5) A4) (q+k) Ab;have HP:=hd8 ((hR.set k _).congr (fun y _=>a7T HD.out y));have Ai:=A4.setCell (p:=⟨wo.heap.size,k,none⟩) (c9C _) (.int .u8 ((r (q+k):Nat):Int));generalize r (q+k)=x at t1 HP Ai;clear hR;go_wp2_with fail;exact⟨⟨k+1,by omega,by go_num,HP.out,Ai⟩,by simp[intOf];omega⟩
       ·have Ac: ¬(q:Int)+(k:Int)<(L:Int):=by omega
        have HP:Hid (wr.rowIs wo.heap.size 5 n (fun y=> .int .u8 (dW (k+1) (Seg.eT r L n i) (fun _=>0) y:Nat))):=hR.congr (fun y _=>a2Q (Seg.a5X (by rw[HQ.out];exact Ab)) y);clear hR;go_wp2_with fail;exact⟨⟨k+1,by omega,by go_num,HP.out,A4⟩,by simp[intOf];omega⟩
      ·obtain rfl:k=n:=by omega
       have hF:aZ wr wo.heap.size 5 k (fun y=> .int .u8 (Seg.eT r L k i y:Nat)):=iL (hR.congr (fun y hy=>by rw[show dW k (Seg.eT r L k i) (fun _=>0) y=Seg.eT r L k i y from if_pos hy]));have A3:=(Below.refl wr.heap.size wr).alloc (c9C _) (.cells #[.slice (some (aD wo.heap.size 0)) k k] 59);have AX:=(hA.bE A4).bE A3;have rX:=hF.alloc (.cells #[.slice (some (aD wo.heap.size 0)) k k] 59);have bX:=bt (bt A5 A4) A3;clear hR hF hA;go_wp2_with (at_builtin;refine wpList_append_own _ rfl (.tmp 80) (.tmp 82) 86 rfl w1.heap.size 59 i0 nS 1 24 underlying86 Aj An Ao Ap rfl (by decide) _ _ _ rfl AX.own (aD wr.heap.size 0) 1 1 [.slice (some (aD wo.heap.size 0)) k k] rfl rfl dD (by intro u hu;simp at hu;subst hu;rfl) (by unfold maxLen;omega) (by omega) bX.size ?_;intro v4 w4 hown1 hgrow1 _);have A1:=AX.step ⟨A5.size,rX⟩ hown1 hgrow1;have b4:Bl w1 w4:=bX.grown hgrow1 bX.size (fun x hx=>(AX.own.lt x hx).1);clear hown1 hgrow1 AX rX bX A3 A4;go_wp2_with fail
       exact⟨⟨i+1,by omega,by go_num,⟨_,_,A1,fun j hj=>by
        unfold lS;by_cases e:j=i
        ·rw[if_pos e]
        ·rw[if_neg e];exact HK.out j (by omega)⟩,b4⟩,by simp[intOf];omega⟩
    ·obtain rfl:i=d:=by omega
     have HS:=qK w1.heap.size u12 i s n G2 K2 (Seg.eT r L n) wo hA HK.out Aq.out h1 h2 h3 Al Am A5.size;have Aw:Hid (Gf.mm i (Gf.bH i) (Seg.eT r L n)=Seg.jP r L i):=by
      show _=Seg.jP r L i;unfold Seg.jP;rw[hnn]
     clear hA;go_wp2_with fail;refine HS.mono ?_;rintro e w2 ⟨vm,v9,w5,rfl,r9,L9,b5⟩;rw[Aw.out]at L9;have b5:=A5.trans b5;obtain⟨A9,C9,rfl⟩:=L9.sE;have Ah:=bt b1 b5;have Ba:i+s≤12:=by omega
     clear HS;go_wp2_with (at_builtin;refine Lib.wpList_append_run _ rfl (.tmp 90) (.tmp 91) 86 86 rfl _ _ rfl rfl _ _ r9 ?_);clear r9;have Au:Hid (∀w',Bl w5 w'→ ∀j,j<i+s→ ∃b o R K,A9=some (aD b o)∧w'.cell? (aD b (o+j))=some (.slice R n K)∧cA w' (.slice R n K) n (Seg.jP r L i j)):=fun w' hb j hj=>(L9.bE hb).at hj;have Ax:Hid (∀j,j<i+s→Crc.aA seg j L n=0):=fun j hj=>Crc.j8 (by omega) (by omega);have Ar:Hid (∀j,j<i+s→a3W (seg:Int) (j:Int) (L:Int) n (Seg.jP r L i j)=Seg.blk r L seg i j):=fun j hj=>by
      unfold a3W;rw[Seg.a5K (by omega),hnn];rfl
     clear L9;go_loopw [18,94] (fun y x wr=> ∃j:Nat,j≤i+s∧x=iV j∧(∃G K,Acc wr w5.heap.size y j (n+11) G K (Seg.blk r L seg i)∧Hid (∀t,t<j→n+11≤K t∧K t≤maxLen))∧Bl w5 wr) (fun _ x _=>i+s-(intOf x).toNat)
     case atStart=>exact⟨0,c9D _,rfl,⟨fun _=>0,fun _=>0,Acc.start w5 _ (n+11) _ _ _,fun j hj=>absurd hj (c9L j)⟩,Below.refl _ _⟩
     case round=>
      obtain⟨j,hj,rfl,⟨G3,K3,A7,Ae⟩,A8⟩:=hrel;by_cases Ad:j<i+s
      ·have B2:(j:Int)<(i:Int)+(s:Int):=by omega
       have B3:(j:Int)<((i+s:Nat):Int):=by omega
       obtain⟨b9,o9,R9,K9,rfl,t9,y9⟩:=Au.out wr A8 j Ad;have Aa:=sJ (.agg #[iV seg,iV j,iV L,.slice R9 n K9]) seg j L n (Seg.jP r L i j) wr ⟨_,rfl,y9⟩;rw[Ax.out j Ad,Ar.out j Ad]at Aa;clear y9;go_wp2_with fail;refine Aa.mono ?_;rintro e w6 ⟨v6,rfl,O6,b6⟩;have Az:kX w6 wr.heap.size v6 (n+11) (Seg.blk r L seg i j):=by
        rcases O6 with⟨_,q⟩|⟨q,_⟩
        ·exact q
        ·exact absurd rfl q
       obtain⟨g6,c6,rfl,B1,B0,B4,R6⟩:=Az;have A3:=(Below.refl w6.heap.size w6).alloc (c9C _) (.cells #[.slice (some (aD g6 0)) (n+11) c6] 59);have AX:=(A7.bE b6).bE A3;have rX:=R6.alloc (.cells #[.slice (some (aD g6 0)) (n+11) c6] 59);have bX:=bt (bt A8 b6) A3;have As:=hd8 (c9E A8.size B1);clear Aa O6 A7 R6;go_wp2_with (at_builtin;refine wpList_append_own _ rfl (.tmp 109) (.tmp 111) 86 rfl w5.heap.size 59 i0 nS 1 24 underlying86 Aj An Ao Ap rfl (by decide) _ _ _ rfl AX.own (aD w6.heap.size 0) 1 1 [.slice (some (aD g6 0)) (n+11) c6] rfl rfl dD (by intro u hu;simp at hu;subst hu;rfl) (by unfold maxLen;omega) (by omega) bX.size ?_;intro v7 w7 hown1 hgrow1 _);have A1:=AX.step ⟨As.out,rX⟩ hown1 hgrow1;have b7:Bl w5 w7:=bX.grown hgrow1 bX.size (fun x hx=>(AX.own.lt x hx).1);clear hown1 hgrow1 AX rX bX A3
       exact⟨⟨j+1,by omega,by go_num,⟨_,_,A1,fun t ht=>by
        unfold lS;by_cases e:t=j
        ·rw[if_pos e];exact⟨B0,B4⟩
        ·rw[if_neg e];exact Ae.out t (by omega)⟩,b7⟩,by simp[intOf];omega⟩
      ·obtain rfl:j=i+s:=by omega
       have HR:Hid (c1A wr w.heap.size u18 (i+s) (Seg.dF L i+11) (Seg.blk r L seg i)):=by
        show c1A wr w.heap.size u18 (i+s) (Seg.dF L i+11) (Seg.blk r L seg i);rw[hnn];exact⟨w5.heap.size,_,_,Ah.size,A7,Seg.b0B h1 h5 h4 h2,Ae.out⟩
       have bz:=bt Ah A8;clear A7;go_wp2_with fail;go_ret2
       exact⟨_,rfl,HR.out,bz⟩
section
variable {X : Sto.Six}
theorem a8H(hX:Sto.dE X)(v:Value)(r:List Nat)(seg:Nat)(c:Sto.Cfg)(w:World)(h:cU w v r):
  Calls prog 62 #[v,iV seg,iV c.d,iV c.s] w fun e w'=>BlP e w' w.heap.size (X.lay r seg c)∧Bl w w':=by
 by_cases hE:Seg.gW r.length seg c.d c.s=0
 ·obtain⟨h1,h2,h3,h4,h5⟩:=Sto.yB hE;refine(c4G v r.length (fun j=>r.getD j 0) seg c.d c.s w h.byts h1 h2 h3 h4 h5).mono ?_;rintro e w' ⟨v',rfl,hl,hb⟩;have hx:X.lay r seg c=(0,(List.range (c.d+c.s)).map fun i=>bl (Seg.blk (fun j=>r.getD j 0) r.length seg c.d i) (Seg.dF r.length c.d+11)):=by
   rw[hX.lay];unfold Sto.lX;rw[if_pos hE]
  rw[hx];exact⟨⟨v',rfl,Or.inl ⟨rfl,hl.lls.1.blL,fun S hS=>(hl.lls.2 S hS).blL⟩⟩,hb⟩
 ·refine(c2I hX v r seg c w h).mono ?_;rintro e w' ⟨⟨v',rfl,hO⟩,hb⟩;refine⟨⟨v',rfl,Or.inr ?_⟩,hb⟩;rcases hO with⟨q,_⟩|q
  ·rw[hX.lay]at q;unfold Sto.lX at q;rw[if_neg hE]at q;exact absurd q hE
  ·exact q
theorem b4Y(hX:Sto.dE X)(v:Value)(bs:List (List Nat))(seg:Nat)(c:Sto.Cfg)(w:World)(h:BlL w v bs)(hl:bs.length=c.d+c.s)(h8:c.d≤8)(h4:c.s≤4):
  Calls prog 39 #[v,iV seg,iV c.d] w fun e w'=>BlP e w' w.heap.size (X.mend bs seg c)∧Bl w w':=by
 have HR:=a1U hX v bs seg c w h;obtain⟨A,C,rfl⟩:=h.sE;have HM:=hX.mend bs seg c;by_cases hE:(X.read bs seg c).1=0
 case neg=>
  rw[if_pos hE]at HM;generalize (X.read bs seg c).1=x at HR HM hE;have HP:Hid (∀w',BlP (.returned (.tuple #[nS,iV x])) w' w.heap.size (X.mend bs seg c)):=fun w'=>by
   show BlP _ _ _ _;rw[HM];exact⟨_,rfl,Or.inr ⟨hE,rfl⟩⟩
  have A2:((x:Int)==0)=false:=by rw[beq_eq_false_iff_ne];omega
  have A5:((x:Int) !=0)=true:=by rw[bne,A2];rfl
  clear hE h HM hl h8 h4;go_enter func39,ntmps39
  go_wp2_with fail;refine HR.mono ?_;rintro e w1 ⟨v1,rfl,_,b1⟩;clear HR;go_wp2_with fail;go_ret2
  exact⟨HP.out _,b1⟩
 case pos=>
  rw[if_neg (fun q=>q hE)]at HM;rw[hE]at HR;have A0:Hid (∀v1 w1,cU w1 v1 (X.read bs seg c).2→Calls prog 62 #[v1,iV seg,iV c.d,iV (((bs.length:Nat):Int)-(c.d:Int))] w1 fun e w'=>BlP e w' w1.heap.size (X.mend bs seg c)∧Bl w1 w'):=fun v1 w1 q=>by
   have:=a8H hX v1 (X.read bs seg c).2 seg c w1 q;rw[hX.lay,←HM]at this;rw[show((bs.length:Nat):Int)-(c.d:Int)=(c.s:Int) by omega];exact this
  obtain⟨N,hN⟩: ∃N,N=bs.length:=⟨_,rfl⟩;rw[←hN]at HR A0;rw[←hN];have A3:N≤12:=by omega
  have A4:c.d≤N:=by omega
  clear HM hE h hl hN;go_enter func39,ntmps39
  go_wp2_with fail;refine HR.mono ?_;rintro e w1 ⟨v1,rfl,hy,b1⟩;have HL:=A0.out v1 w1 hy;obtain⟨A1,C1,rfl⟩:=hy.byts.sE;clear HR A0 hy;go_wp2_with fail;refine HL.mono ?_;rintro e w2 ⟨⟨v2,rfl,hO⟩,b2⟩;have HP:Hid (BlP (.returned (.tuple #[v2,iV ((X.mend bs seg c).1:Nat)])) w2 w.heap.size (X.mend bs seg c)):=⟨v2,rfl,hO.imp (fun z=>⟨z.1,z.2.lower b1.size⟩) id⟩;have b2:=bt b1 b2;clear HL hO;go_wp2_with fail;go_ret2
  exact⟨HP.out,b2⟩
end
end Go.Proofs.YtmcaejooaaahdaaGreat
