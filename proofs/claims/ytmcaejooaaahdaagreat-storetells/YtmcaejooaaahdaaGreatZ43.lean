import Derived.Test.YtmcaejooaaahdaaGreatZ39
set_option maxHeartbeats 8000000
set_option maxRecDepth 100000
namespace Go.Proofs.YtmcaejooaaahdaaGreat
open Go.Proofs.Tryz
open Go.RowKit
section
variable {X : Sto.Six} {c : Sto.Cfg} {s : Sto.St} {d : Sto.Do} {T : Nat → Bool} {w : World} {Ad At As Aa Ae : Option Addr} {nd Cd nt Ct ns Cs na Ca ne Ce : Nat} {t : ByteArray}
theorem a0N(H:SJ X c s d T w Ad nd Cd At nt Ct As ns Cs Aa na Ca Ae ne Ce t)(hk:d.kind=7):
  Calls prog 11 #[.agg #[iV c.d,iV c.s,iV c.b,.slice Ad nd Cd,iV s.segs,.slice At nt Ct,.slice As ns Cs,iV s.u,.slice Aa na Ca],.agg #[iV 7,iV d.n,iV d.seg,iV d.pos,.int .u8 d.turn,iV d.bat.cmd,.slice Ae ne Ce,.string t,iV d.ver]] w fun e w'=>dK e T w w' c (Sto.step X c s d):=by
 have HJ:=hd8 H;obtain⟨r,hr⟩: ∃r,r=Sto.step X c s d:=⟨_,rfl⟩;have Ag:=hd8 hr.symm;rw[←hr];obtain⟨w1,C5,Bb⟩:=qN w #[iV c.d,iV c.s,iV c.b,.slice Ad nd Cd,iV s.segs,.slice At nt Ct,.slice As ns Cs,iV s.u,.slice Aa na Ca] #[iV 7,iV d.n,iV d.seg,iV d.pos,.int .u8 d.turn,iV d.bat.cmd,.slice Ae ne Ce,.string t,iV d.ver];have eg:=Tryz.enters_noS;clear H hr;go_enter func11,ntmps11
 go_upto_region 1 with fail
 rw[←C5];clear C5;have A8:=hd8 Bb;have d0:=Bb.dc.q0;clear Bb;have Bi:nd=s.disks.length:=by
  obtain⟨A,C,q,_⟩:=HJ.out.st.dk;cases q
  rfl
 have Ao:=hd8 Bi;have Cn:nd≤12:=by
  rw[Bi];exact HJ.out.wf.n12
 have Ay:Hid (Sto.step X c s d=Sto.nZ s d):=kA (by omega);obtain⟨a0,a1,a2,a3,a4,a5,a6,a7,a8⟩:=A8.out.st.c9;have d1:=A8.out.dc.q1;clear Bi;by_cases hb:d.n<0∨(nd:Int)≤d.n
 case pos=>
  have Ah:Hid (Sto.step X c s d=(s,⟨6,0,[],0,[]⟩)):=by
   show Sto.step X c s d=_;rw[Ay.out];exact kE (by rw[←Ao.out];exact hb)
  have Az:=A8.out;by_cases h0:d.n<0
  ·clear hb;have A2:=noJ 6 Az;clear Az A8 hk;go_wp2_with fail;refine A2.mono ?_;rintro e wn ⟨rfl,A0⟩;obtain⟨x0,x1,x2,x3,x4,x5,x6,x7,x8,p0,p1,p2,p3,p4,p5,p6,p7,p8,y0,y1,y2,y3,y4,q0,q1,q2,q3,q4⟩:=A0.res;have A7:=A0.bel;clear A2 A0;go_wp2_with fail;exact bodyPost_ret (by simp[results,results11,go_sem,x0,x1,x2,x3,x4,x5,x6,x7,x8,y0,y1,y2,y3,y4]) rfl (HJ.out.fin Ag.out Ah.out (noB A7 (by omega) (by omega) _ _ _ _ _ _ _ _ _ _ _ _ _ _))
  ·have h1:(nd:Int)≤d.n:=by omega
   clear hb;have A2:=noJ 6 Az;clear Az A8 hk;go_wp2_with fail;refine A2.mono ?_;rintro e wn ⟨rfl,A0⟩;obtain⟨x0,x1,x2,x3,x4,x5,x6,x7,x8,p0,p1,p2,p3,p4,p5,p6,p7,p8,y0,y1,y2,y3,y4,q0,q1,q2,q3,q4⟩:=A0.res;have A7:=A0.bel;clear A2 A0;go_wp2_with fail;exact bodyPost_ret (by simp[results,results11,go_sem,x0,x1,x2,x3,x4,x5,x6,x7,x8,y0,y1,y2,y3,y4]) rfl (HJ.out.fin Ag.out Ah.out (noB A7 (by omega) (by omega) _ _ _ _ _ _ _ _ _ _ _ _ _ _))
 case neg=>
  obtain⟨m,hm⟩: ∃m:Nat,d.n=(m:Int):=⟨d.n.toNat,by omega⟩;have HM:=hd8 hm;rw[hm]at d1;have h0: ¬(m:Int)<0:=by omega
  have h1: ¬(nd:Int)≤(m:Int):=by omega
  have h2:(m:Int)<(nd:Int):=by omega
  have h3:m<nd:=by omega
  obtain⟨x,hx⟩: ∃x,s.disks[m]?=some x:=⟨s.disks[m]'(by rw[←Ao.out];exact h3),c9F _⟩;have Am:=hd8 hx;obtain⟨b,o,rfl,C0⟩: ∃b o,Ad=some (aD b o)∧w.cell? (aD b (o+m*2))=some (.bool x.gone):=by
   obtain⟨A,C,q,_,_,q3⟩:=HJ.out.st.dk;cases q
   obtain⟨b,o,e,v,c0,_⟩:=q3 m x hx;exact⟨b,o,e,c0⟩
  have Br:=kR c.d c.s c.b s.segs s.u (.slice (some (aD b o)) nd Cd) (.slice At nt Ct) (.slice As ns Cs) (.slice Aa na Ca) s.disks w1 (HJ.out.st.dk.bE A8.out.bel) HJ.out.wf.n1 HJ.out.wf.n12 (fun i d hd=>HJ.out.wf.bl hd) HJ.out.wf.len ⟨_,_,_,rfl⟩ ⟨_,_,_,rfl⟩ ⟨_,_,_,rfl⟩;clear hb hm hx;go_wp2_with fail;refine Br.mono ?_;rintro e w9 ⟨D,C,V,U,rfl,Bu,Bv,Bw,b9⟩;rw[←Ao.out]at Bu⊢;have bT:=aB8 w9 (.cells #[iV c.d,iV c.s,iV c.b,.slice (some (aD D 0)) nd C,iV s.segs,.slice At nt Ct,.slice As ns Cs,iV s.u,.slice Aa na Ca] 32);have VT:=aC w9 #[iV c.d,iV c.s,iV c.b,.slice (some (aD D 0)) nd C,iV s.segs,.slice At nt Ct,.slice As ns Cs,iV s.u,.slice Aa na Ca] 32;have A3:=Bw.bE bT;have Ak:=bt b9 bT;have Bt:w1.heap.size≤w9.heap.size:=b9.size;have Cc:=mL8 Bv;clear Br Bw b9 bT a0 a1 a2 a3 a4 a5 a6 a7 a8 d1;go_upto_region 34 with fail
  obtain⟨Cv,Aw⟩: ∃q,q=w9.alloc (.cells #[iV c.d,iV c.s,iV c.b,.slice (some (aD D 0)) nd C,iV s.segs,.slice At nt Ct,.slice As ns Cs,iV s.u,.slice Aa na Ca] 32):=⟨_,rfl⟩;rw[←Aw]at VT A3 Ak⊢;obtain⟨QT,Bc⟩: ∃q,q=w9.heap.size:=⟨_,rfl⟩;rw[←Bc]at VT⊢;have Cw:w1.heap.size≤QT:=by rw[Bc];exact Bt
  have A1:=hd8 (A8.out.bE Ak);have B5:=hd8 A8.out.size;have Ac:=hd8 A3;have B9:=hd8 VT;have Cf:=VT.ty.ne A3.row.ty (by decide);have Cg:D≠QT:=fun e=>Cf e.symm;have d0:=A1.out.dc.q0;have d1:=A1.out.dc.q1;have a3:=A1.out.st.q3;rw[HM.out]at d1;have cg:=fC.oE A1.out.bel _ _ C0;have t3:=VT.q3;clear VT A3 Ak Bt Aw Bc A8 C0;have B2:m<s.disks.length:=by rw[←Ao.out];exact h3
  have g1:=Ac.out.held (i:=m) B2;have HU:=hd8 ((HJ.out.wf.si.up m x Am.out).1);have Bo:=hd8 (Ac.out.bl m x Am.out);obtain⟨AV,CV,hV,Ch,By,Bz⟩:=Ac.out.heIn B2;have Bp:=hd8 Bz;have Cb:=hd8 B2;have Ci:=mL8 By;obtain⟨nu,B3⟩: ∃nu,nu=(U m).length:=⟨_,rfl⟩;have Bq:=hd8 B3;rw[hV,←B3]at g1;rw[←B3]at Ch;clear hV By Bz B3 B2 cg a3;go_wp2_with fail;go_loopw [182] (fun xv wr=> ∃(k:Nat),k≤nu∧xv=iV k∧Hid (∀(i:Nat) (y:HeC),i<k→(U m)[i]?=some y→y.1≠d.seg)∧Bl Cv wr) (fun xv _=>nu-(intOf xv).toNat)
  case atStart=>exact⟨0,c9D _,rfl,fun i y hi=>absurd hi (c9L _),Below.refl _ _⟩
  case round=>
   obtain⟨k,Cy,rfl,Ap,A6⟩:=hrel;by_cases Cl:k<nu
   ·have Cm:(k:Int)<(nu:Int):=by omega
    obtain⟨y,hy⟩: ∃y,(U m)[k]?=some y:=⟨(U m)[k]'(by rw[←Bq.out];exact Cl),c9F _⟩;obtain⟨b7,o7,rfl,e0,e1⟩:=Bp.out k y hy;have e0:=cB8 A6 e0;have e1:=cB8 A6 e1;have hB:=(Ac.out.bE A6).byt m y Cb.out (c9N hy);obtain⟨gx,cx,Bm,Cx,Au,Bh,C4⟩:=hB.at;have C1:=mL8 Bh;obtain⟨nx,Av⟩: ∃nx,nx=y.2.2.length:=⟨_,rfl⟩;rw[Bm,←Av]at e1;have B7:=hd8 Av;clear Av;have bA:=aB8 wr (.cells #[iV y.1,.slice (some (aD gx 0)) nx cx] 61);have VH:=aC wr #[iV y.1,.slice (some (aD gx 0)) nx cx] 61;have A5:=(A1.out.bE A6).bE bA;have A9:=(B9.out.bE A6).bE bA;have Af:=(Ac.out.bE A6).bE bA;have B1:=hB.bE bA;have An:=C4.bE bA;have Be:=bt A6 bA;clear hB C4 bA A6;go_upto_region 42 with fail
    obtain⟨wq,C6⟩: ∃q,q=wr.alloc (.cells #[iV y.1,.slice (some (aD gx 0)) nx cx] 61):=⟨_,rfl⟩;rw[←C6]at VH A5 A9 Af B1 An Be⊢;obtain⟨QH,Bx⟩: ∃q,q=wr.heap.size:=⟨_,rfl⟩;rw[←Bx]at VH⊢;have Aq:=hd8 A5;have B8:=hd8 A9;have B4:=hd8 Af;have HY:=hd8 hy;have Ba:=hd8 Bm;have Cj:=A9.ty.ne An.ty (by decide);have Cp:=VH.q0;have Cq:=VH.q1;have d2:=A5.dc.q2;have d3:=A5.dc.q3;have d4:=A5.dc.q4;have C2:x.bl[k]?=some (kV y):=by
     rw[Bo.out,c9S,hy];rfl
    have Ax:=hd8 C2;clear A5 A9 Af VH C6 Bx hy Bm C2 e0 e1 A1 Ac B9 d0 d1 t3 g1;by_cases hs:y.1=d.seg
    case neg=>
     have Cr:(y.1 !=d.seg)=true:=by rw[bne_iff_ne];exact hs
     have B6:Hid (∀(i:Nat) (z:HeC),i<k+1→(U m)[i]?=some z→z.1≠d.seg):=fun i z hi hz=>by
      rcases Nat.lt_succ_iff_lt_or_eq.1 hi with q|q
      ·exact Ap.out i z q hz
      ·subst q;rw[HY.out]at hz;cases hz
       exact hs
     clear hs;go_wp2_with fail;exact⟨⟨k+1,by omega,by go_num,B6,Be⟩,by simp[intOf];omega⟩
    case pos=>
     have Cr:(y.1 !=d.seg)=false:=by rw[hs,bne_self_eq_false]
     have A4:=b2V HU.out Ax.out (show(kV y).1=d.seg from hs);by_cases hp:d.pos<0∨(y.2.2.length:Int)≤d.pos
     case pos=>
      have Ai:Hid (dO s.disks m x d.seg d.pos d.turn=(3,s.disks)):=by
       show dO s.disks m x d.seg d.pos d.turn=(3,s.disks);unfold dO;rw[A4];exact if_pos hp
      have Ah:Hid (Sto.step X c s d=(s,⟨3,0,[],0,[]⟩)):=by
       show Sto.step X c s d=_;rw[Ay.out,nE hk HM.out Am.out,Ai.out]
      have B0:=Aq.out;rw[←B7.out]at hp Au;clear hs A4 Ai Ax HY Ba B4 B8 B1 An;by_cases Cz:d.pos<0
      ·clear hp;have A2:=noJ 3 B0;clear B0 Aq hk;go_wp2_with fail;refine A2.mono ?_;rintro e wn ⟨rfl,A0⟩;obtain⟨x0,x1,x2,x3,x4,x5,x6,x7,x8,p0,p1,p2,p3,p4,p5,p6,p7,p8,y0,y1,y2,y3,y4,q0,q1,q2,q3,q4⟩:=A0.res;have A7:=A0.bel;clear A2 A0;go_wp2_with fail;exact bodyPost_ret (by simp[results,results11,go_sem,x0,x1,x2,x3,x4,x5,x6,x7,x8,y0,y1,y2,y3,y4]) rfl (HJ.out.fin Ag.out Ah.out (noB A7 (by omega) (by omega) _ _ _ _ _ _ _ _ _ _ _ _ _ _))
      ·have D0:(nx:Int)≤d.pos:=by omega
       clear hp;have A2:=noJ 3 B0;clear B0 Aq hk;go_wp2_with fail;refine A2.mono ?_;rintro e wn ⟨rfl,A0⟩;obtain⟨x0,x1,x2,x3,x4,x5,x6,x7,x8,p0,p1,p2,p3,p4,p5,p6,p7,p8,y0,y1,y2,y3,y4,q0,q1,q2,q3,q4⟩:=A0.res;have A7:=A0.bel;clear A2 A0;go_wp2_with fail;exact bodyPost_ret (by simp[results,results11,go_sem,x0,x1,x2,x3,x4,x5,x6,x7,x8,y0,y1,y2,y3,y4]) rfl (HJ.out.fin Ag.out Ah.out (noB A7 (by omega) (by omega) _ _ _ _ _ _ _ _ _ _ _ _ _ _))
     case neg=>
      obtain⟨p',Bk⟩: ∃p':Nat,d.pos=(p':Int):=⟨d.pos.toNat,by omega⟩;have C3:p'<y.2.2.length:=by omega
      have Bf:=Sto.kH B1.1 p';have dx:=An.cell C3;have fx:=An.frozen p';obtain⟨bx,Bg⟩: ∃bx,bx=y.2.2.getD p' 0:=⟨_,rfl⟩;rw[←Bg]at dx Bf;have C7:d.turn<256:=HJ.out.do0.byte;have Cu:=d2A (n:=8) Bf C7;have Ai:Hid (dO s.disks m x d.seg d.pos d.turn=(0,s.disks.set m ⟨x.gone,x.bl.set k (y.1,y.2.2.set p' (bx^^^d.turn))⟩)):=by
       show dO s.disks m x d.seg d.pos d.turn=_;unfold dO;rw[A4];show(if d.pos<0∨(y.2.2.length:Int)≤d.pos then _ else _)=_;rw[if_neg hp,Bk,c9Q,Sto.pD HU.out Ax.out (show(kV y).1=d.seg from hs),Bg,hs];rfl
      have hX:=u8_xor_nat bx d.turn Bf C7;rw[Bk]at d3;have Av:=B7.out;have D1:(p':Int)<(nx:Int):=by omega
      have D2:p'<nx:=by omega
      have D3: ¬(p':Int)<0:=by omega
      have D4: ¬(nx:Int)≤(p':Int):=by omega
      clear Av;rw[←B7.out]at Au;clear hs A4 Ax B1 An hp Bg Bk Be;go_upto_region 45 with fail
      go_region
      go_upto_region 46 with fail
      clear d2 d3 d4 dx fx Cp Cq;obtain⟨C8,Ab⟩: ∃q,q=(wq.setCell (aD gx p') (.int .u8 ((bx^^^d.turn:Nat):Int))).drew:=⟨_,rfl⟩;rw[←Ab];have Al:=(B4.out.spoilt Am.out HY.out Ba.out C3 Cu).bE (Below.refl _ _).drew;rw[←Ab]at Al;have Bn:Off (fun q=>q=gx) wq C8:=by
       rw[Ab];exact(aG wq (aD gx p') _).trans (Off.oE (Below.refl _ _).drew)
      have Aj:=Aq.out.off Bn (fun q hq=>by
       have hq:q=gx:=hq;have:=B5.out
       omega)
      have Ar:=B8.out.off Bn Cj;have C9:Hid (∀wE,Off (fun q=>q=w.heap.size+1+1∨q=w.heap.size+1+1+1) C8 wE→dK (.returned (.tuple #[stA c.d c.s c.b (.slice (some (aD D 0)) nd C) s.segs (.slice At nt Ct) (.slice As ns Cs) s.u (.slice Aa na Ca),.agg #[iV 0,iV 0,nS,iV 0,nS]])) T w wE c r):=fun wE ho=>by
       rw[←Ag.out,Ay.out,nE hk HM.out Am.out,Ai.out];exact HJ.out.disks Aj.bel Al ho B5.out (by rw[d0B];exact Ao.out) Bu Bv 0 0
      obtain⟨a0,a1,a2,a3,a4,a5,a6,a7,a8⟩:=Ar.c9;obtain⟨x0,x1,x2,x3,x4,x5,x6,x7,x8,p0,p1,p2,p3,p4,p5,p6,p7,p8,y0,y1,y2,y3,y4,q0,q1,q2,q3,q4⟩:=Aj.res;have Bj: ¬QT=w.heap.size+1+1:=by
       have:=B5.out;omega
      have Co: ¬w.heap.size+1+1=QT:=fun e=>Bj e.symm;clear Ab Al Bn Aj Ar B4 B8 Aq Ag HY Ba;go_wp2_with fail;exact bodyPost_ret (by simp[results,results11,go_sem,x0,x1,x2,x3,x4,x5,x6,x7,x8,y0,y1,y2,y3,y4]) rfl (C9.out _ (yZ _ _ _ _ _ _ _ _ _ _ _ _ _ _ _ _ _))
   ·obtain rfl:k=nu:=by omega
    have Ai:Hid (dO s.disks m x d.seg d.pos d.turn=(6,s.disks)):=by
     show dO s.disks m x d.seg d.pos d.turn=(6,s.disks);unfold dO
     rw[List.find?_eq_none.2 (fun z hz=>by
      rw[Bo.out]at hz;obtain⟨y,hy,rfl⟩:=d0G.1 hz;obtain⟨i,hi,Ck⟩:=List.getElem_of_mem hy;have:=Ap.out i y (by rw[Bq.out];exact hi) (by rw[c9F hi,Ck])
      exact fun z=>this (of_decide_eq_true z))]
    have Ah:Hid (Sto.step X c s d=(s,⟨6,0,[],0,[]⟩)):=by
     show Sto.step X c s d=_;rw[Ay.out,nE hk HM.out Am.out,Ai.out]
    have Bs:=A1.out.bE A6;clear Ai Ac B9 Bp d0 d1 t3 g1 A6;have A2:=noJ 6 Bs;clear Bs A1 hk;go_wp2_with fail;refine A2.mono ?_;rintro e wn ⟨rfl,A0⟩;obtain⟨x0,x1,x2,x3,x4,x5,x6,x7,x8,p0,p1,p2,p3,p4,p5,p6,p7,p8,y0,y1,y2,y3,y4,q0,q1,q2,q3,q4⟩:=A0.res;have A7:=A0.bel;clear A2 A0;go_wp2_with fail;exact bodyPost_ret (by simp[results,results11,go_sem,x0,x1,x2,x3,x4,x5,x6,x7,x8,y0,y1,y2,y3,y4]) rfl (HJ.out.fin Ag.out Ah.out (noB A7 (by omega) (by omega) _ _ _ _ _ _ _ _ _ _ _ _ _ _))
end
end Go.Proofs.YtmcaejooaaahdaaGreat
