import Derived.Test.YtmcaejooaaahdaaGreatZ39
set_option maxHeartbeats 8000000
set_option maxRecDepth 100000
namespace Go.Proofs.YtmcaejooaaahdaaGreat
open Go.Proofs.Tryz
open Go.RowKit
section
variable {X : Sto.Six} {c : Sto.Cfg} {s : Sto.St} {d : Sto.Do} {T : Nat → Bool} {w : World} {Ad At As Aa Ae : Option Addr} {nd Cd nt Ct ns Cs na Ca ne Ce : Nat} {t : ByteArray}
theorem a4P(H:SJ X c s d T w Ad nd Cd At nt Ct As ns Cs Aa na Ca Ae ne Ce t)(hk:d.kind=6):
  Calls prog 11 #[.agg #[iV c.d,iV c.s,iV c.b,.slice Ad nd Cd,iV s.segs,.slice At nt Ct,.slice As ns Cs,iV s.u,.slice Aa na Ca],.agg #[iV 6,iV d.n,iV d.seg,iV d.pos,.int .u8 d.turn,iV d.bat.cmd,.slice Ae ne Ce,.string t,iV d.ver]] w fun e w'=>dK e T w w' c (Sto.step X c s d):=by
 have HJ:=hd8 H;obtain⟨r,hr⟩: ∃r,r=Sto.step X c s d:=⟨_,rfl⟩;have Ag:=hd8 hr.symm;rw[←hr];obtain⟨w1,B3,Al⟩:=qN w #[iV c.d,iV c.s,iV c.b,.slice Ad nd Cd,iV s.segs,.slice At nt Ct,.slice As ns Cs,iV s.u,.slice Aa na Ca] #[iV 6,iV d.n,iV d.seg,iV d.pos,.int .u8 d.turn,iV d.bat.cmd,.slice Ae ne Ce,.string t,iV d.ver];have eg:=Tryz.enters_noS;clear H hr;go_enter func11,ntmps11
 go_upto_region 1 with fail
 rw[←B3];clear B3;have A2:=hd8 Al;have d0:=Al.dc.q0;clear Al;have An:nd=s.disks.length:=by
  obtain⟨A,C,q,_⟩:=HJ.out.st.dk;cases q
  rfl
 have A9:=hd8 An;have B9:nd≤12:=by
  rw[An];exact HJ.out.wf.n12
 have Av:Hid (Sto.step X c s d=Sto.nZ s d):=kA (by omega);obtain⟨a0,a1,a2,a3,a4,a5,a6,a7,a8⟩:=A2.out.st.c9;have d1:=A2.out.dc.q1;clear An;by_cases hb:d.n<0∨(nd:Int)≤d.n
 case pos=>
  have Au:Hid (Sto.step X c s d=(s,⟨6,0,[],0,[]⟩)):=by
   show Sto.step X c s d=_;rw[Av.out];exact kE (by rw[←A9.out];exact hb)
  have Ah:=A2.out;by_cases h0:d.n<0
  ·clear hb;have Ab:=noJ 6 Ah;clear Ah A2 hk;go_wp2_with fail;refine Ab.mono ?_;rintro e wn ⟨rfl,A6⟩;obtain⟨x0,x1,x2,x3,x4,x5,x6,x7,x8,p0,p1,p2,p3,p4,p5,p6,p7,p8,y0,y1,y2,y3,y4,q0,q1,q2,q3,q4⟩:=A6.res;have Ai:=A6.bel;clear Ab A6;go_wp2_with fail;exact bodyPost_ret (by simp[results,results11,go_sem,x0,x1,x2,x3,x4,x5,x6,x7,x8,y0,y1,y2,y3,y4]) rfl (HJ.out.fin Ag.out Au.out (noB Ai (by omega) (by omega) _ _ _ _ _ _ _ _ _ _ _ _ _ _))
  ·have h1:(nd:Int)≤d.n:=by omega
   clear hb;have Ab:=noJ 6 Ah;clear Ah A2 hk;go_wp2_with fail;refine Ab.mono ?_;rintro e wn ⟨rfl,A6⟩;obtain⟨x0,x1,x2,x3,x4,x5,x6,x7,x8,p0,p1,p2,p3,p4,p5,p6,p7,p8,y0,y1,y2,y3,y4,q0,q1,q2,q3,q4⟩:=A6.res;have Ai:=A6.bel;clear Ab A6;go_wp2_with fail;exact bodyPost_ret (by simp[results,results11,go_sem,x0,x1,x2,x3,x4,x5,x6,x7,x8,y0,y1,y2,y3,y4]) rfl (HJ.out.fin Ag.out Au.out (noB Ai (by omega) (by omega) _ _ _ _ _ _ _ _ _ _ _ _ _ _))
 case neg=>
  obtain⟨m,hm⟩: ∃m:Nat,d.n=(m:Int):=⟨d.n.toNat,by omega⟩;have HM:=hd8 hm;rw[hm]at d1;have h0: ¬(m:Int)<0:=by omega
  have h1: ¬(nd:Int)≤(m:Int):=by omega
  have h2:(m:Int)<(nd:Int):=by omega
  have h3:m<nd:=by omega
  obtain⟨x,hx⟩: ∃x,s.disks[m]?=some x:=⟨s.disks[m]'(by rw[←A9.out];exact h3),c9F _⟩;have Ak:=hd8 hx;obtain⟨b,o,rfl,B2⟩: ∃b o,Ad=some (aD b o)∧w.cell? (aD b (o+m*2))=some (.bool x.gone):=by
   obtain⟨A,C,q,_,_,q3⟩:=HJ.out.st.dk;cases q
   obtain⟨b,o,e,v,c0,_⟩:=q3 m x hx;exact⟨b,o,e,c0⟩
  have Ar:=kR c.d c.s c.b s.segs s.u (.slice (some (aD b o)) nd Cd) (.slice At nt Ct) (.slice As ns Cs) (.slice Aa na Ca) s.disks w1 (HJ.out.st.dk.bE A2.out.bel) HJ.out.wf.n1 HJ.out.wf.n12 (fun i d hd=>HJ.out.wf.bl hd) HJ.out.wf.len ⟨_,_,_,rfl⟩ ⟨_,_,_,rfl⟩ ⟨_,_,_,rfl⟩;clear hb hm hx;go_wp2_with fail;refine Ar.mono ?_;rintro e w9 ⟨D,C,V,U,rfl,Ay,Az,B1,b9⟩;rw[←A9.out]at Ay⊢;have bT:=aB8 w9 (.cells #[iV c.d,iV c.s,iV c.b,.slice (some (aD D 0)) nd C,iV s.segs,.slice At nt Ct,.slice As ns Cs,iV s.u,.slice Aa na Ca] 32);have VT:=aC w9 #[iV c.d,iV c.s,iV c.b,.slice (some (aD D 0)) nd C,iV s.segs,.slice At nt Ct,.slice As ns Cs,iV s.u,.slice Aa na Ca] 32;have A0:=B1.bE bT;have A7:=bt b9 bT;have Ax:w1.heap.size≤w9.heap.size:=b9.size;have B6:=mL8 Az;clear Ar B1 b9 bT a0 a1 a2 a3 a4 a5 a6 a7 a8 d1;go_upto_region 34 with fail
  obtain⟨Aq,Af⟩: ∃q,q=w9.alloc (.cells #[iV c.d,iV c.s,iV c.b,.slice (some (aD D 0)) nd C,iV s.segs,.slice At nt Ct,.slice As ns Cs,iV s.u,.slice Aa na Ca] 32):=⟨_,rfl⟩;rw[←Af]at VT A0 A7⊢;obtain⟨QT,Am⟩: ∃q,q=w9.heap.size:=⟨_,rfl⟩;rw[←Am]at VT⊢;have Bb:w1.heap.size≤QT:=by rw[Am];exact Ax
  have A1:=hd8 (A2.out.bE A7);have Aj:=hd8 A2.out.size;have A4:=hd8 A0;have Aw:=hd8 VT;have B0:=VT.ty.ne A0.row.ty (by decide);have B7:D≠QT:=fun e=>B0 e.symm;have d0:=A1.out.dc.q0;have d1:=A1.out.dc.q1;have a3:=A1.out.st.q3;rw[HM.out]at d1;have cg:=fC.oE A1.out.bel _ _ B2;have t3:=VT.q3;clear VT A0 A7 Ax Af Am A2 B2;have g0:=A4.out.gone Ak.out;have g1:=A4.out.held (i:=m) (by rw[←A9.out];exact h3);have f0:=A4.out.row.frozen (m*2);have f1:=A4.out.row.frozen (m*2+1);go_upto_region 38 with fail
  obtain⟨B4,A3⟩: ∃q,q=((Aq.setCell (aD D (m*2)) (.bool false)).setCell (aD D (m*2+1)) nS):=⟨_,rfl⟩;rw[←A3];have A8:=A4.out.swap Ak.out false;rw[←A3]at A8;have Ap:Off (fun q=>q=D) Aq B4:=by
   rw[A3];exact(aG Aq (aD D (m*2)) _).trans (aG _ (aD D (m*2+1)) _)
  have B8:=A4.out.ge
  have A5:=A1.out.off Ap (fun q hq=>by
   have hq:q=D:=hq;have:=Aj.out
   omega)
  have Ac:=Aw.out.off Ap B0;have B5:Hid (∀wE,Off (fun q=>q=w.heap.size+1+1∨q=w.heap.size+1+1+1) B4 wE→dK (.returned (.tuple #[stA c.d c.s c.b (.slice (some (aD D 0)) nd C) s.segs (.slice At nt Ct) (.slice As ns Cs) s.u (.slice Aa na Ca),.agg #[iV 0,iV 0,nS,iV 0,nS]])) T w wE c r):=fun wE ho=>by
   rw[←Ag.out,Av.out,a1D hk HM.out Ak.out];exact HJ.out.disks A5.bel A8 ho Aj.out (by rw[d0B];exact A9.out) Ay Az 0 0
  obtain⟨a0,a1,a2,a3,a4,a5,a6,a7,a8⟩:=Ac.c9;obtain⟨x0,x1,x2,x3,x4,x5,x6,x7,x8,p0,p1,p2,p3,p4,p5,p6,p7,p8,y0,y1,y2,y3,y4,q0,q1,q2,q3,q4⟩:=A5.res;have Ao: ¬QT=w.heap.size+1+1:=by
   have:=Aj.out;omega
  have Ba: ¬w.heap.size+1+1=QT:=fun e=>Ao e.symm;clear A3 A8 Ap A5 Ac g0 g1 f0 f1 A4 Aw A1 Ag d0 d1 cg t3;go_wp2_with fail;exact bodyPost_ret (by simp[results,results11,go_sem,x0,x1,x2,x3,x4,x5,x6,x7,x8,y0,y1,y2,y3,y4]) rfl (B5.out _ (yZ _ _ _ _ _ _ _ _ _ _ _ _ _ _ _ _ _))
theorem a4J(H:SJ X c s d T w Ad nd Cd At nt Ct As ns Cs Aa na Ca Ae ne Ce t)(hk:d.kind=5):
  Calls prog 11 #[.agg #[iV c.d,iV c.s,iV c.b,.slice Ad nd Cd,iV s.segs,.slice At nt Ct,.slice As ns Cs,iV s.u,.slice Aa na Ca],.agg #[iV 5,iV d.n,iV d.seg,iV d.pos,.int .u8 d.turn,iV d.bat.cmd,.slice Ae ne Ce,.string t,iV d.ver]] w fun e w'=>dK e T w w' c (Sto.step X c s d):=by
 have HJ:=hd8 H;obtain⟨r,hr⟩: ∃r,r=Sto.step X c s d:=⟨_,rfl⟩;have Ag:=hd8 hr.symm;rw[←hr];obtain⟨w1,B6,Aq⟩:=qN w #[iV c.d,iV c.s,iV c.b,.slice Ad nd Cd,iV s.segs,.slice At nt Ct,.slice As ns Cs,iV s.u,.slice Aa na Ca] #[iV 5,iV d.n,iV d.seg,iV d.pos,.int .u8 d.turn,iV d.bat.cmd,.slice Ae ne Ce,.string t,iV d.ver];have eg:=Tryz.enters_noS;clear H hr;go_enter func11,ntmps11
 go_upto_region 1 with fail
 rw[←B6];clear B6;have A3:=hd8 Aq;have d0:=Aq.dc.q0;clear Aq;have Au:nd=s.disks.length:=by
  obtain⟨A,C,q,_⟩:=HJ.out.st.dk;cases q
  rfl
 have Af:=hd8 Au;have Bc:nd≤12:=by
  rw[Au];exact HJ.out.wf.n12
 have Ao:Hid (Sto.step X c s d=Sto.nZ s d):=kA (by omega);obtain⟨a0,a1,a2,a3,a4,a5,a6,a7,a8⟩:=A3.out.st.c9;have d1:=A3.out.dc.q1;clear Au;by_cases hb:d.n<0∨(nd:Int)≤d.n
 case pos=>
  have Ak:Hid (Sto.step X c s d=(s,⟨6,0,[],0,[]⟩)):=by
   show Sto.step X c s d=_;rw[Ao.out];exact kE (by rw[←Af.out];exact hb)
  have Am:=A3.out;by_cases h0:d.n<0
  ·clear hb;have A6:=noJ 6 Am;clear Am A3 hk;go_wp2_with fail;refine A6.mono ?_;rintro e wn ⟨rfl,A2⟩;obtain⟨x0,x1,x2,x3,x4,x5,x6,x7,x8,p0,p1,p2,p3,p4,p5,p6,p7,p8,y0,y1,y2,y3,y4,q0,q1,q2,q3,q4⟩:=A2.res;have Ac:=A2.bel;clear A6 A2;go_wp2_with fail;exact bodyPost_ret (by simp[results,results11,go_sem,x0,x1,x2,x3,x4,x5,x6,x7,x8,y0,y1,y2,y3,y4]) rfl (HJ.out.fin Ag.out Ak.out (noB Ac (by omega) (by omega) _ _ _ _ _ _ _ _ _ _ _ _ _ _))
  ·have h1:(nd:Int)≤d.n:=by omega
   clear hb;have A6:=noJ 6 Am;clear Am A3 hk;go_wp2_with fail;refine A6.mono ?_;rintro e wn ⟨rfl,A2⟩;obtain⟨x0,x1,x2,x3,x4,x5,x6,x7,x8,p0,p1,p2,p3,p4,p5,p6,p7,p8,y0,y1,y2,y3,y4,q0,q1,q2,q3,q4⟩:=A2.res;have Ac:=A2.bel;clear A6 A2;go_wp2_with fail;exact bodyPost_ret (by simp[results,results11,go_sem,x0,x1,x2,x3,x4,x5,x6,x7,x8,y0,y1,y2,y3,y4]) rfl (HJ.out.fin Ag.out Ak.out (noB Ac (by omega) (by omega) _ _ _ _ _ _ _ _ _ _ _ _ _ _))
 case neg=>
  obtain⟨m,hm⟩: ∃m:Nat,d.n=(m:Int):=⟨d.n.toNat,by omega⟩;have HM:=hd8 hm;rw[hm]at d1;have h0: ¬(m:Int)<0:=by omega
  have h1: ¬(nd:Int)≤(m:Int):=by omega
  have h2:(m:Int)<(nd:Int):=by omega
  have h3:m<nd:=by omega
  obtain⟨x,hx⟩: ∃x,s.disks[m]?=some x:=⟨s.disks[m]'(by rw[←Af.out];exact h3),c9F _⟩;have Al:=hd8 hx;obtain⟨b,o,rfl,B5⟩: ∃b o,Ad=some (aD b o)∧w.cell? (aD b (o+m*2))=some (.bool x.gone):=by
   obtain⟨A,C,q,_,_,q3⟩:=HJ.out.st.dk;cases q
   obtain⟨b,o,e,v,c0,_⟩:=q3 m x hx;exact⟨b,o,e,c0⟩
  have Az:=kR c.d c.s c.b s.segs s.u (.slice (some (aD b o)) nd Cd) (.slice At nt Ct) (.slice As ns Cs) (.slice Aa na Ca) s.disks w1 (HJ.out.st.dk.bE A3.out.bel) HJ.out.wf.n1 HJ.out.wf.n12 (fun i d hd=>HJ.out.wf.bl hd) HJ.out.wf.len ⟨_,_,_,rfl⟩ ⟨_,_,_,rfl⟩ ⟨_,_,_,rfl⟩;clear hb hm hx;go_wp2_with fail;refine Az.mono ?_;rintro e w9 ⟨D,C,V,U,rfl,B1,B2,B4,b9⟩;rw[←Af.out]at B1⊢;have bT:=aB8 w9 (.cells #[iV c.d,iV c.s,iV c.b,.slice (some (aD D 0)) nd C,iV s.segs,.slice At nt Ct,.slice As ns Cs,iV s.u,.slice Aa na Ca] 32);have VT:=aC w9 #[iV c.d,iV c.s,iV c.b,.slice (some (aD D 0)) nd C,iV s.segs,.slice At nt Ct,.slice As ns Cs,iV s.u,.slice Aa na Ca] 32;have A1:=B4.bE bT;have A8:=bt b9 bT;have B0:w1.heap.size≤w9.heap.size:=b9.size;have B9:=mL8 B2;clear Az B4 b9 bT a0 a1 a2 a3 a4 a5 a6 a7 a8 d1;go_upto_region 34 with fail
  obtain⟨Ax,Aj⟩: ∃q,q=w9.alloc (.cells #[iV c.d,iV c.s,iV c.b,.slice (some (aD D 0)) nd C,iV s.segs,.slice At nt Ct,.slice As ns Cs,iV s.u,.slice Aa na Ca] 32):=⟨_,rfl⟩;rw[←Aj]at VT A1 A8⊢;obtain⟨QT,Ar⟩: ∃q,q=w9.heap.size:=⟨_,rfl⟩;rw[←Ar]at VT⊢;have Bf:w1.heap.size≤QT:=by rw[Ar];exact B0
  have A0:=hd8 (A3.out.bE A8);have An:=hd8 A3.out.size;have A5:=hd8 A1;have Ap:=hd8 VT;have B3:=VT.ty.ne A1.row.ty (by decide);have Ba:D≠QT:=fun e=>B3 e.symm;have d0:=A0.out.dc.q0;have d1:=A0.out.dc.q1;have a3:=A0.out.st.q3;rw[HM.out]at d1;have cg:=fC.oE A0.out.bel _ _ B5;have t3:=VT.q3;clear VT A1 A8 B0 Aj Ar A3 B5;obtain⟨gn,Ab⟩: ∃gn,gn=x.gone:=⟨_,rfl⟩;rw[←Ab]at cg;cases gn with
  |true=>
   have Ak:Hid (Sto.step X c s d=(s,⟨8,0,[],0,[]⟩)):=by
    show Sto.step X c s d=_;rw[Ao.out,tQ hk HM.out Al.out,if_pos Ab.symm,if_pos Ab.symm]
   have Ah:=A0.out;have A6:=noJ 8 Ah;clear Ah A0 hk Ab A5 Ap;go_wp2_with fail;refine A6.mono ?_;rintro e wn ⟨rfl,A2⟩;obtain⟨x0,x1,x2,x3,x4,x5,x6,x7,x8,p0,p1,p2,p3,p4,p5,p6,p7,p8,y0,y1,y2,y3,y4,q0,q1,q2,q3,q4⟩:=A2.res;have Ac:=A2.bel;clear A6 A2;go_wp2_with fail;exact bodyPost_ret (by simp[results,results11,go_sem,x0,x1,x2,x3,x4,x5,x6,x7,x8,y0,y1,y2,y3,y4]) rfl (HJ.out.fin Ag.out Ak.out (noB Ac (by omega) (by omega) _ _ _ _ _ _ _ _ _ _ _ _ _ _))
  |false=>
   have Ay:=hd8 Ab.symm;clear Ab;have g0:=A5.out.gone Al.out;have g1:=A5.out.held (i:=m) (by rw[←Af.out];exact h3);have f0:=A5.out.row.frozen (m*2);have f1:=A5.out.row.frozen (m*2+1);go_upto_region 38 with fail
   obtain⟨B7,A4⟩: ∃q,q=((Ax.setCell (aD D (m*2)) (.bool true)).setCell (aD D (m*2+1)) nS):=⟨_,rfl⟩;rw[←A4];have A9:=A5.out.swap Al.out true;rw[←A4]at A9;have Aw:Off (fun q=>q=D) Ax B7:=by
    rw[A4];exact(aG Ax (aD D (m*2)) _).trans (aG _ (aD D (m*2+1)) _)
   have Bb:=A5.out.ge
   have A7:=A0.out.off Aw (fun q hq=>by
    have hq:q=D:=hq;have:=An.out
    omega)
   have Ai:=Ap.out.off Aw B3;have B8:Hid (∀wE,Off (fun q=>q=w.heap.size+1+1∨q=w.heap.size+1+1+1) B7 wE→dK (.returned (.tuple #[stA c.d c.s c.b (.slice (some (aD D 0)) nd C) s.segs (.slice At nt Ct) (.slice As ns Cs) s.u (.slice Aa na Ca),.agg #[iV 0,iV 0,nS,iV 0,nS]])) T w wE c r):=fun wE ho=>by
    rw[←Ag.out,Ao.out,tQ hk HM.out Al.out,if_neg (by rw[Ay.out];decide),if_neg (by rw[Ay.out];decide)];exact HJ.out.disks A7.bel A9 ho An.out (by rw[d0B];exact Af.out) B1 B2 0 0
   obtain⟨a0,a1,a2,a3,a4,a5,a6,a7,a8⟩:=Ai.c9;obtain⟨x0,x1,x2,x3,x4,x5,x6,x7,x8,p0,p1,p2,p3,p4,p5,p6,p7,p8,y0,y1,y2,y3,y4,q0,q1,q2,q3,q4⟩:=A7.res;have Av: ¬QT=w.heap.size+1+1:=by
    have:=An.out;omega
   have Be: ¬w.heap.size+1+1=QT:=fun e=>Av e.symm;clear A4 A9 Aw A7 Ai g0 g1 f0 f1 A5 Ap A0 Ag d0 d1 cg t3;go_wp2_with fail;exact bodyPost_ret (by simp[results,results11,go_sem,x0,x1,x2,x3,x4,x5,x6,x7,x8,y0,y1,y2,y3,y4]) rfl (B8.out _ (yZ _ _ _ _ _ _ _ _ _ _ _ _ _ _ _ _ _))
end
end Go.Proofs.YtmcaejooaaahdaaGreat
