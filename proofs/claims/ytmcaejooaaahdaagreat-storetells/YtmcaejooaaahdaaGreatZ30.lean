import Derived.Test.YtmcaejooaaahdaaGreatZ27
set_option maxHeartbeats 8000000
set_option maxRecDepth 100000
namespace Go.Proofs.YtmcaejooaaahdaaGreat
open Go.Proofs.Tryz
variable {C D N Q k m n nn':Nat} {V:Nat→Value} {ds ds':List Sto.Disk} {w2 wE:World}
open Go.RowKit
section
variable {X : Sto.Six} {c : Sto.Cfg} {s : Sto.St} {d : Sto.Do} {T : Nat → Bool} {w : World} {Ad At As Aa Ae : Option Addr} {nd Cd nt Ct ns Cs na Ca ne Ce : Nat} {t : ByteArray}
theorem a0D(H:SJ X c s d T w Ad nd Cd At nt Ct As ns Cs Aa na Ca Ae ne Ce t)(hk:d.kind=7):
  Calls prog 11 #[.agg #[iV c.d,iV c.s,iV c.b,.slice Ad nd Cd,iV s.segs,.slice At nt Ct,.slice As ns Cs,iV s.u,.slice Aa na Ca],.agg #[iV 7,iV d.n,iV d.seg,iV d.pos,.int .u8 d.turn,iV d.bat.cmd,.slice Ae ne Ce,.string t,iV d.ver]] w fun e w'=>dL e T w w' c (Sto.step X c s d):=by
 have HJ:=hd8 H;obtain⟨r,hr⟩: ∃r,r=Sto.step X c s d:=⟨_,rfl⟩;have Am:=hd8 hr.symm;rw[←hr];obtain⟨w1,Cb,B8⟩:=qQ w #[iV c.d,iV c.s,iV c.b,.slice Ad nd Cd,iV s.segs,.slice At nt Ct,.slice As ns Cs,iV s.u,.slice Aa na Ca] #[iV 7,iV d.n,iV d.seg,iV d.pos,.int .u8 d.turn,iV d.bat.cmd,.slice Ae ne Ce,.string t,iV d.ver];have eg:=Tryz.enters_noS;clear H hr;go_enter func11,ntmps11
 go_upto_region 1 with fail
 rw[←Cb];clear Cb;have A9:=hd8 B8;have d0:=B8.dc.q0;clear B8;have B9:nd=s.disks.length:=by
  obtain⟨A,C,q,_⟩:=HJ.out.st.dk;cases q
  rfl
 have Av:=hd8 B9;have Cr:nd≤12:=by
  rw[B9];exact HJ.out.wf.n12
 have B1:Hid (Sto.step X c s d=Sto.nY s d):=j7 (by omega);obtain⟨a0,a1,a2,a3,a4,a5,a6,a7,a8⟩:=A9.out.st.c9;have d1:=A9.out.dc.q1;clear B9;by_cases hb:d.n<0∨(nd:Int)≤d.n
 case pos=>
  have Ai:Hid (Sto.step X c s d=(s,⟨6,0,[],0,[]⟩)):=by
   show Sto.step X c s d=_;rw[B1.out];exact j9 (by rw[←Av.out];exact hb)
  have Ao:=A9.out;by_cases h0:d.n<0
  ·clear hb;have A2:=eL w.heap.size 6 c.d c.s c.b s.segs s.u Ad nd Cd At nt Ct As ns Cs Aa na Ca _ (Ao).st;have A5:=hd8 Ao;have A8:Hid (r=(s,⟨6,0,[],0,[]⟩)):=by
    rw[←Am.out];exact Ai.out
   clear Ao A9 hk;go_wp2_with fail;refine A2.mono ?_;rintro e wn ⟨rfl,bn⟩;have A0:=A5.out.below bn;obtain⟨x0,x1,x2,x3,x4,x5,x6,x7,x8,p0,p1,p2,p3,p4,p5,p6,p7,p8,y0,y1,y2,y3,y4,q0,q1,q2,q3,q4⟩:=A0.res;have Af:=A0.bel;clear A2 A5 A0 bn;go_wp2_with fail;refine bodyPost_ret (v:=.tuple #[stA c.d c.s c.b (.slice Ad nd Cd) s.segs (.slice At nt Ct) (.slice As ns Cs) s.u (.slice Aa na Ca),.agg #[iV 6,iV 0,nS,iV 0,nS]]) (by simp[results,results11,go_sem,x0,x1,x2,x3,x4,x5,x6,x7,x8,y0,y1,y2,y3,y4]) rfl ?_;rw[A8.out];exact HJ.out.no (noB Af (by omega) (by omega) _ _ _ _ _ _ _ _ _ _ _ _ _ _) 6 0
  ·have h1:(nd:Int)≤d.n:=by omega
   clear hb;have A2:=eL w.heap.size 6 c.d c.s c.b s.segs s.u Ad nd Cd At nt Ct As ns Cs Aa na Ca _ (Ao).st;have A5:=hd8 Ao;have A8:Hid (r=(s,⟨6,0,[],0,[]⟩)):=by
    rw[←Am.out];exact Ai.out
   clear Ao A9 hk;go_wp2_with fail;refine A2.mono ?_;rintro e wn ⟨rfl,bn⟩;have A0:=A5.out.below bn;obtain⟨x0,x1,x2,x3,x4,x5,x6,x7,x8,p0,p1,p2,p3,p4,p5,p6,p7,p8,y0,y1,y2,y3,y4,q0,q1,q2,q3,q4⟩:=A0.res;have Af:=A0.bel;clear A2 A5 A0 bn;go_wp2_with fail;refine bodyPost_ret (v:=.tuple #[stA c.d c.s c.b (.slice Ad nd Cd) s.segs (.slice At nt Ct) (.slice As ns Cs) s.u (.slice Aa na Ca),.agg #[iV 6,iV 0,nS,iV 0,nS]]) (by simp[results,results11,go_sem,x0,x1,x2,x3,x4,x5,x6,x7,x8,y0,y1,y2,y3,y4]) rfl ?_;rw[A8.out];exact HJ.out.no (noB Af (by omega) (by omega) _ _ _ _ _ _ _ _ _ _ _ _ _ _) 6 0
 case neg=>
  obtain⟨m,hm⟩: ∃m:Nat,d.n=(m:Int):=⟨d.n.toNat,by omega⟩;have HM:=hd8 hm;rw[hm]at d1;have h0: ¬(m:Int)<0:=by omega
  have h1: ¬(nd:Int)≤(m:Int):=by omega
  have h2:(m:Int)<(nd:Int):=by omega
  have h3:m<nd:=by omega
  obtain⟨x,hx⟩: ∃x,s.disks[m]?=some x:=⟨s.disks[m]'(by rw[←Av.out];exact h3),c9F _⟩;have Aq:=hd8 hx;obtain⟨b,o,rfl,C8⟩: ∃b o,Ad=some (aD b o)∧w.cell? (aD b (o+m*2))=some (.bool x.gone):=by
   obtain⟨A,C,q,_,_,q3⟩:=HJ.out.st.dk;cases q
   obtain⟨b,o,e,v,c0,_⟩:=q3 m x hx;exact⟨b,o,e,c0⟩
  have By:=kL c.d c.s c.b s.segs s.u (.slice (some (aD b o)) nd Cd) (.slice At nt Ct) (.slice As ns Cs) (.slice Aa na Ca) s.disks w1 (HJ.out.st.dk.below A9.out.bel) HJ.out.wf.n1 HJ.out.wf.n12 (fun i d hd=>HJ.out.wf.bl hd) HJ.out.wf.len ⟨_,_,_,rfl⟩ ⟨_,_,_,rfl⟩ ⟨_,_,_,rfl⟩;clear hb hm hx;go_wp2_with fail;refine By.mono ?_;rintro e w9 ⟨D,C,V,U,rfl,C0,Bz,C7,b9⟩;rw[←Av.out]at C0⊢;have bT:=aB8 w9 (.cells #[iV c.d,iV c.s,iV c.b,.slice (some (aD D 0)) nd C,iV s.segs,.slice At nt Ct,.slice As ns Cs,iV s.u,.slice Aa na Ca] 32);have VT:=aC w9 #[iV c.d,iV c.s,iV c.b,.slice (some (aD D 0)) nd C,iV s.segs,.slice At nt Ct,.slice As ns Cs,iV s.u,.slice Aa na Ca] 32;have A4:=C7.below bT;have Ak:=bt b9 bT;have Bu:w1.heap.size≤w9.heap.size:=b9.size;have Cl:=mL8 Bz;clear By C7 b9 bT a0 a1 a2 a3 a4 a5 a6 a7 a8 d1;go_upto_region 34 with fail
  obtain⟨Ck,Au⟩: ∃q,q=w9.alloc (.cells #[iV c.d,iV c.s,iV c.b,.slice (some (aD D 0)) nd C,iV s.segs,.slice At nt Ct,.slice As ns Cs,iV s.u,.slice Aa na Ca] 32):=⟨_,rfl⟩;rw[←Au]at VT A4 Ak⊢;obtain⟨QT,Bn⟩: ∃q,q=w9.heap.size:=⟨_,rfl⟩;rw[←Bn]at VT⊢;have D6:w1.heap.size≤QT:=by rw[Bn];exact Bu
  have A1:=hd8 (A9.out.below Ak);have Bi:=hd8 A9.out.size;have Ag:=hd8 A4;have Bm:=hd8 VT;have Cv:QT≠D:=VT.ty.ne A4.row.ty (by decide);have Cf:D≠QT:=fun e=>Cv e.symm;have d0:=A1.out.dc.q0;have d1:=A1.out.dc.q1;have a3:=A1.out.st.q3;rw[HM.out]at d1;have cg:=fB.of_below A1.out.bel _ _ C8;have t3:=VT.q3;clear VT A4 Ak Bu Au Bn A9 C8;have B4:m<s.disks.length:=by rw[←Av.out];exact h3
  have g1:=Ag.out.held (i:=m) B4;have HU:=hd8 ((HJ.out.wf.si.up m x Aq.out).1);have Bx:=hd8 (Ag.out.bl m x Aq.out);obtain⟨AV,CV,hV,Cj,Bw,Br⟩:=Ag.out.heIn B4;have C5:=hd8 Br;have Cp:=hd8 B4;have Ch:=mL8 Bw;obtain⟨nu,B5⟩: ∃nu,nu=(U m).length:=⟨_,rfl⟩;have C1:=hd8 B5;rw[hV,←B5]at g1;rw[←B5]at Cj;clear hV Bw Br B5 B4 cg a3;go_wp2_with fail;go_loopw [182] (fun xv wr=> ∃(k:Nat),k≤nu∧xv=iV k∧Hid (∀(i:Nat) (y:HeC),i<k→(U m)[i]?=some y→y.1≠d.seg)∧Bl Ck wr) (fun xv _=>nu-(intOf xv).toNat)
  case atStart=>exact⟨0,c9D _,rfl,fun i y hi=>absurd hi (c9L _),Below.refl _ _⟩
  case round=>
   obtain⟨k,D1,rfl,B0,A7⟩:=hrel;by_cases Cg:k<nu
   ·have Cc:(k:Int)<(nu:Int):=by omega
    obtain⟨y,hy⟩: ∃y,(U m)[k]?=some y:=⟨(U m)[k]'(by rw[←C1.out];exact Cg),c9F _⟩;obtain⟨b7,o7,rfl,e0,e1⟩:=C5.out k y hy;have e0:=cB8 A7 e0;have e1:=cB8 A7 e1;have hB:=(Ag.out.below A7).byt m y Cp.out (c9N hy);obtain⟨gx,cx,Bp,D0,Ax,Bq,C2⟩:=hB.at;have Bv:=mL8 Bq;obtain⟨nx,Ay⟩: ∃nx,nx=y.2.2.length:=⟨_,rfl⟩;rw[Bp,←Ay]at e1;have Bk:=hd8 Ay;clear Ay;have bA:=aB8 wr (.cells #[iV y.1,.slice (some (aD gx 0)) nx cx] 61);have VH:=aC wr #[iV y.1,.slice (some (aD gx 0)) nx cx] 61;have A6:=(A1.out.below A7).below bA;have Ab:=(Bm.out.below A7).below bA;have An:=(Ag.out.below A7).below bA;have B2:=hB.below bA;have Ap:=C2.below bA;have Bh:=bt A7 bA;clear hB C2 bA A7;go_upto_region 42 with fail
    obtain⟨wq,C4⟩: ∃q,q=wr.alloc (.cells #[iV y.1,.slice (some (aD gx 0)) nx cx] 61):=⟨_,rfl⟩;rw[←C4]at VH A6 Ab An B2 Ap Bh⊢;obtain⟨QH,Bs⟩: ∃q,q=wr.heap.size:=⟨_,rfl⟩;rw[←Bs]at VH⊢;have Aw:=hd8 A6;have Be:=hd8 Ab;have Bb:=hd8 An;have HY:=hd8 hy;have Bj:=hd8 Bp;have Cm: ¬QT=gx:=Ab.ty.ne Ap.ty (by decide);have Cx:=VH.q0;have Cn:=VH.q1;have d2:=A6.dc.q2;have d3:=A6.dc.q3;have d4:=A6.dc.q4;have C3:x.bl[k]?=some (kQ y):=by
     rw[Bx.out,c9S,hy];rfl
    have B3:=hd8 C3;clear A6 Ab An VH C4 Bs hy Bp C3 e0 e1 A1 Ag Bm d0 d1 t3 g1;by_cases hs:y.1=d.seg
    case neg=>
     have Cw:(y.1 !=d.seg)=true:=by rw[bne_iff_ne];exact hs
     have Ba:Hid (∀(i:Nat) (z:HeC),i<k+1→(U m)[i]?=some z→z.1≠d.seg):=fun i z hi hz=>by
      rcases Nat.lt_succ_iff_lt_or_eq.1 hi with q|q
      ·exact B0.out i z q hz
      ·subst q;rw[HY.out]at hz;cases hz
       exact hs
     clear hs;go_wp2_with fail;exact⟨⟨k+1,by omega,by go_num,Ba,Bh⟩,by simp[intOf];omega⟩
    case pos=>
     have Cw:(y.1 !=d.seg)=false:=by rw[hs,bne_self_eq_false]
     have A3:=b4G HU.out B3.out (show(kQ y).1=d.seg from hs);by_cases hp:d.pos<0∨(y.2.2.length:Int)≤d.pos
     case pos=>
      have Al:Hid (dN s.disks m x d.seg d.pos d.turn=(3,s.disks)):=by
       show dN s.disks m x d.seg d.pos d.turn=(3,s.disks);unfold dN;rw[A3];exact if_pos hp
      have Ai:Hid (Sto.step X c s d=(s,⟨3,0,[],0,[]⟩)):=by
       show Sto.step X c s d=_;rw[B1.out,nF hk HM.out Aq.out,Al.out]
      have Ar:=Aw.out;rw[←Bk.out]at hp Ax;clear hs A3 Al B3 HY Bj Bb Be B2 Ap;by_cases Cz:d.pos<0
      ·clear hp;have A2:=eL w.heap.size 3 c.d c.s c.b s.segs s.u (some (aD b o)) nd Cd At nt Ct As ns Cs Aa na Ca _ (Ar).st;have A5:=hd8 Ar;have A8:Hid (r=(s,⟨3,0,[],0,[]⟩)):=by
        rw[←Am.out];exact Ai.out
       clear Ar Aw hk;go_wp2_with fail;refine A2.mono ?_;rintro e wn ⟨rfl,bn⟩;have A0:=A5.out.below bn;obtain⟨x0,x1,x2,x3,x4,x5,x6,x7,x8,p0,p1,p2,p3,p4,p5,p6,p7,p8,y0,y1,y2,y3,y4,q0,q1,q2,q3,q4⟩:=A0.res;have Af:=A0.bel;clear A2 A5 A0 bn;go_wp2_with fail;refine bodyPost_ret (v:=.tuple #[stA c.d c.s c.b (.slice (some (aD b o)) nd Cd) s.segs (.slice At nt Ct) (.slice As ns Cs) s.u (.slice Aa na Ca),.agg #[iV 3,iV 0,nS,iV 0,nS]]) (by simp[results,results11,go_sem,x0,x1,x2,x3,x4,x5,x6,x7,x8,y0,y1,y2,y3,y4]) rfl ?_;rw[A8.out];exact HJ.out.no (noB Af (by omega) (by omega) _ _ _ _ _ _ _ _ _ _ _ _ _ _) 3 0
      ·have D2:(nx:Int)≤d.pos:=by omega
       clear hp;have A2:=eL w.heap.size 3 c.d c.s c.b s.segs s.u (some (aD b o)) nd Cd At nt Ct As ns Cs Aa na Ca _ (Ar).st;have A5:=hd8 Ar;have A8:Hid (r=(s,⟨3,0,[],0,[]⟩)):=by
        rw[←Am.out];exact Ai.out
       clear Ar Aw hk;go_wp2_with fail;refine A2.mono ?_;rintro e wn ⟨rfl,bn⟩;have A0:=A5.out.below bn;obtain⟨x0,x1,x2,x3,x4,x5,x6,x7,x8,p0,p1,p2,p3,p4,p5,p6,p7,p8,y0,y1,y2,y3,y4,q0,q1,q2,q3,q4⟩:=A0.res;have Af:=A0.bel;clear A2 A5 A0 bn;go_wp2_with fail;refine bodyPost_ret (v:=.tuple #[stA c.d c.s c.b (.slice (some (aD b o)) nd Cd) s.segs (.slice At nt Ct) (.slice As ns Cs) s.u (.slice Aa na Ca),.agg #[iV 3,iV 0,nS,iV 0,nS]]) (by simp[results,results11,go_sem,x0,x1,x2,x3,x4,x5,x6,x7,x8,y0,y1,y2,y3,y4]) rfl ?_;rw[A8.out];exact HJ.out.no (noB Af (by omega) (by omega) _ _ _ _ _ _ _ _ _ _ _ _ _ _) 3 0
     case neg=>
      obtain⟨p',B7⟩: ∃p':Nat,d.pos=(p':Int):=⟨d.pos.toNat,by omega⟩;have Bt:p'<y.2.2.length:=by omega
      have Bf:=Sto.kJ B2.1 p';have dx:=Ap.cell Bt;have fx:=Ap.frozen p';obtain⟨bx,Bg⟩: ∃bx,bx=y.2.2.getD p' 0:=⟨_,rfl⟩;rw[←Bg]at dx Bf;have C9:d.turn<256:=HJ.out.do0.byte;have Cu:=d2A (n:=8) Bf C9;have Al:Hid (dN s.disks m x d.seg d.pos d.turn=(0,s.disks.set m ⟨x.gone,x.bl.set k (y.1,y.2.2.set p' (bx^^^d.turn))⟩)):=by
       show dN s.disks m x d.seg d.pos d.turn=_;unfold dN;rw[A3];show(if d.pos<0∨(y.2.2.length:Int)≤d.pos then _ else _)=_;rw[if_neg hp,B7,c9Q,Sto.oE HU.out B3.out (show(kQ y).1=d.seg from hs),Bg,hs];rfl
      have hX:=u8_xor_nat bx d.turn Bf C9;rw[B7]at d3;have Ay:=Bk.out;have Cy:(p':Int)<(nx:Int):=by omega
      have D5:p'<nx:=by omega
      have D3: ¬(p':Int)<0:=by omega
      have D4: ¬(nx:Int)≤(p':Int):=by omega
      clear Ay;rw[←Bk.out]at Ax;clear hs A3 B3 B2 Ap hp Bg B7 Bh;go_upto_region 45 with fail
      go_region
      go_upto_region 46 with fail
      clear d2 d3 d4 dx fx Cx Cn;obtain⟨C6,Ac⟩: ∃q,q=(wq.setCell (aD gx p') (.int .u8 ((bx^^^d.turn:Nat):Int))).drew:=⟨_,rfl⟩;rw[←Ac];have Aj:=(Bb.out.spoilt Aq.out HY.out Bj.out Bt Cu).below (Below.refl _ _).drew;rw[←Ac]at Aj;have Bc:Off (fun q=>q=gx) wq C6:=by
       rw[Ac];exact(aG wq (aD gx p') _).trans (Off.of_below (Below.refl _ _).drew)
      have Ah:=Aw.out.off Bc (fun q hq=>by
       have hq:q=gx:=hq;have:=Bi.out
       omega)
      have Az:=Be.out.off Bc Cm;have Co:Hid (∀wE,Off (fun q=>q=w.heap.size+1+1∨q=w.heap.size+1+1+1) C6 wE→dL (.returned (.tuple #[stA c.d c.s c.b (.slice (some (aD D 0)) nd C) s.segs (.slice At nt Ct) (.slice As ns Cs) s.u (.slice Aa na Ca),.agg #[iV 0,iV 0,nS,iV 0,nS]])) T w wE c r):=fun wE ho=>by
       rw[←Am.out,B1.out,nF hk HM.out Aq.out,Al.out];exact HJ.out.disks Ah.bel Aj ho Bi.out (by rw[d0B];exact Av.out) C0 Bz 0 0
      obtain⟨a0,a1,a2,a3,a4,a5,a6,a7,a8⟩:=Az.c9;obtain⟨x0,x1,x2,x3,x4,x5,x6,x7,x8,p0,p1,p2,p3,p4,p5,p6,p7,p8,y0,y1,y2,y3,y4,q0,q1,q2,q3,q4⟩:=Ah.res;have Bo: ¬QT=w.heap.size+1+1:=by
       have:=Bi.out;omega
      have Ci:=fun e=>Bo e.symm;clear Ac Aj Bc Ah Az Bb Be Aw Am HY Bj;go_wp2_with fail;exact bodyPost_ret (by simp[results,results11,go_sem,x0,x1,x2,x3,x4,x5,x6,x7,x8,y0,y1,y2,y3,y4]) rfl (Co.out _ (zF _ _ _ _ _ _ _ _ _ _ _ _ _ _ _ _ _))
   ·obtain rfl:k=nu:=by omega
    have Al:Hid (dN s.disks m x d.seg d.pos d.turn=(6,s.disks)):=by
     show dN s.disks m x d.seg d.pos d.turn=(6,s.disks);unfold dN
     rw[List.find?_eq_none.2 (fun z hz=>by
      rw[Bx.out]at hz;obtain⟨y,hy,rfl⟩:=d0G.1 hz;obtain⟨i,hi,Cq⟩:=List.getElem_of_mem hy;have:=B0.out i y (by rw[C1.out];exact hi) (by rw[c9F hi,Cq])
      exact fun z=>this (of_decide_eq_true z))]
    have Ai:Hid (Sto.step X c s d=(s,⟨6,0,[],0,[]⟩)):=by
     show Sto.step X c s d=_;rw[B1.out,nF hk HM.out Aq.out,Al.out]
    have B6:=A1.out.below A7;clear Al Ag Bm C5 d0 d1 t3 g1 A7;have A2:=eL w.heap.size 6 c.d c.s c.b s.segs s.u (some (aD b o)) nd Cd At nt Ct As ns Cs Aa na Ca _ (B6).st;have A5:=hd8 B6;have A8:Hid (r=(s,⟨6,0,[],0,[]⟩)):=by
     rw[←Am.out];exact Ai.out
    clear B6 A1 hk;go_wp2_with fail;refine A2.mono ?_;rintro e wn ⟨rfl,bn⟩;have A0:=A5.out.below bn;obtain⟨x0,x1,x2,x3,x4,x5,x6,x7,x8,p0,p1,p2,p3,p4,p5,p6,p7,p8,y0,y1,y2,y3,y4,q0,q1,q2,q3,q4⟩:=A0.res;have Af:=A0.bel;clear A2 A5 A0 bn;go_wp2_with fail;refine bodyPost_ret (v:=.tuple #[stA c.d c.s c.b (.slice (some (aD b o)) nd Cd) s.segs (.slice At nt Ct) (.slice As ns Cs) s.u (.slice Aa na Ca),.agg #[iV 6,iV 0,nS,iV 0,nS]]) (by simp[results,results11,go_sem,x0,x1,x2,x3,x4,x5,x6,x7,x8,y0,y1,y2,y3,y4]) rfl ?_;rw[A8.out];exact HJ.out.no (noB Af (by omega) (by omega) _ _ _ _ _ _ _ _ _ _ _ _ _ _) 6 0
end
section
variable {X : Sto.Six} {c : Sto.Cfg} {s : Sto.St} {d : Sto.Do} {T : Nat → Bool} {w : World} {Ad At As Aa Ae : Option Addr} {nd Cd nt Ct ns Cs na Ca ne Ce : Nat} {t : ByteArray}
structure ScW(w wr:World)(S:Nat→Bool)(QT D:Nat)(tl stl dcl:List Value)(E nn:Nat)(ds:List Sto.aL):Prop where
 pj:PJ w wr stl dcl
 vt:aW wr QT 32 tl
 va:aW wr (QT+1) 42 [iV E,iV nn,nS,iV 0,nS]
 dk: ∃V,DkJ wr S D V ds
 sq:S (QT+1)=true
 qd:QT+1≠D
 qt:QT≠D
 lo:w.heap.size+1+1+1<QT
 ld:w.heap.size+1+1+1<D
 low: ∀k,S k=true→k<wr.heap.size
section
variable {w wr wr' : World} {S : Nat → Bool} {QT D : Nat} {tl stl dcl : List Value} {E nn : Nat} {ds : List Sto.aL}
theorem ScW.below(h:ScW w wr S QT D tl stl dcl E nn ds)(hb:Bl wr wr'):ScW w wr' S QT D tl stl dcl E nn ds:=by
 obtain⟨V,hV⟩:=h.dk;exact⟨h.pj.below hb,h.vt.below hb,h.va.below hb,⟨V,hV.off hb⟩,h.sq,h.qd,h.qt,h.lo,h.ld,fun k z=>c9P (h.low k z) hb.size⟩
theorem ScW.ans(h:ScW w wr S QT D tl stl dcl E nn ds)(ho:Off (fun q=>q=QT+1) wr wr'){E':Nat}(hv:aW wr' (QT+1) 42 [iV E',iV nn',nS,iV 0,nS]):ScW w wr' S QT D tl stl dcl E' nn' ds:=by
 obtain⟨V,hV⟩:=h.dk;have A0:=h.lo
 exact⟨h.pj.off ho (fun k z=>by have z:k=QT+1:=z;omega),h.vt.off ho (fun z=>by have z:QT=QT+1:=z;omega),hv,⟨V,hV.offS ho fun k z=>by
  have z:k=QT+1:=z;rw[z]
  exact⟨h.sq,h.qd⟩⟩,h.sq,h.qd,h.qt,h.lo,h.ld,fun k z=>c9P (h.low k z) ho.size⟩
theorem ScW.err(h:ScW w wr S QT D tl stl dcl E nn ds)(x:Nat):ScW w (wr.setCell (aD (QT+1) 0) (iV x)) S QT D tl stl dcl x nn ds:=h.ans (aG wr (aD (QT+1) 0) _) (h.va.set 0 _ (Nat.succ_pos _))
theorem ScW.num(h:ScW w wr S QT D tl stl dcl E nn ds)(x:Nat):ScW w (wr.setCell (aD (QT+1) 1) (iV x)) S QT D tl stl dcl E x ds:=h.ans (aG wr (aD (QT+1) 1) _) (h.va.set 1 _ (Nat.succ_lt_succ (Nat.succ_pos _)))
theorem ScW.wrote(h:ScW w wr S QT D tl stl dcl E nn ds)(ho:Off (fun q=>q=D) wr wr')(hV:DkJ wr' S D V ds'):ScW w wr' S QT D tl stl dcl E nn ds':=by
 have A0:=h.ld;exact⟨h.pj.off ho (fun k z=>by have z:k=D:=z;omega),h.vt.off ho (fun z=>h.qt z),h.va.off ho (fun z=>h.qd z),⟨V,hV⟩,h.sq,h.qd,h.qt,h.lo,h.ld,fun k z=>c9P (h.low k z) ho.size⟩
end
def MdO(w:World)(M:Nat)(v:Value)(x:Nat)(L:List (List Nat)):Prop:=(x=0∧BlM w M v L)∨(x≠0∧v=nS)
def c5K(T:Nat→Bool)(N D Q:Nat):Nat→Bool:=fun k=>T k||(decide (k=N+1+1)||(decide (k=N+1+1+1)||(decide (k=D)||(decide (k=Q)||decide (k=Q+1)))))
theorem kP{T:Nat→Bool}:c5K T N D Q k=true↔T k=true∨k=N+1+1∨k=N+1+1+1∨k=D∨k=Q∨k=Q+1:=by
 unfold c5K;simp
theorem c8F{c:Sto.Cfg}(h:Sto.SI c m ds)(hm:m≤40)(i:Nat)(d:Sto.aL)(hd:ds[i]?=some d):d.bl.length≤100:=by
 obtain⟨q1,q2,_⟩:=h.up i d hd
 have:=xA (a:=0) (m:=(m:Int)) (Sto.oI.1 q1) (fun x hx=>by
  obtain⟨y,hy,rfl⟩:=d0G.1 hx
  exact q2 y hy) (by omega)
 rw[c9M]at this;omega
section
variable {X : Sto.Six} {c : Sto.Cfg} {s : Sto.St} {d : Sto.Do} {T : Nat → Bool} {w : World} {Ad At As Aa Ae : Option Addr} {nd Cd nt Ct ns Cs na Ca ne Ce : Nat} {t : ByteArray}
theorem SJ.disksJ(H:SJ X c s d T w Ad nd Cd At nt Ct As ns Cs Aa na Ca Ae ne Ce t)(hb:Bl w w2)(hd:DkJ w2 (c5K T w.heap.size D Q) D V ds)(ho:Off (fun q=>q=w.heap.size+1+1∨q=w.heap.size+1+1+1) w2 wE)(hD:w.heap.size+1+1+1<D)(hn:n=ds.length)(h1:n≤C)(h2:C≤maxLen)(E:Nat)(m:Int):dL (.returned (.tuple #[stA c.d c.s c.b (.slice (some (aD D 0)) n C) s.segs (.slice At nt Ct) (.slice As ns Cs) s.u (.slice Aa na Ca),.agg #[iV E,iV m,nS,iV 0,nS]])) T w wE c ({s with disks:=ds},⟨E,m,[],0,[]⟩):=by
 have A0:Bl w wE:=hb.trans (ho.below hb.size fun q hq=>by omega);have hs:fB (aS T w) (aS T wE):=cQ A0;have o3:Off (fun q=>(q=w.heap.size+1+1∨q=w.heap.size+1+1+1)∨T q=true) w2 (aS T wE):=(ho.wider fun _ z=>Or.inl z).trans ((jD T wE).wider fun _ z=>Or.inr z);subst hn
 exact⟨_,_,_,_,_,_,rfl,⟨(hd.offS o3 (fun q hq=>by
  rcases hq with(z|z)|z
  ·exact⟨kP.2 (Or.inr (Or.inl z)),by omega⟩
  ·exact⟨kP.2 (Or.inr (Or.inr (Or.inl z))),by omega⟩
  ·have:=H.low q z
   exact⟨kP.2 (Or.inl z),by omega⟩)).dks h1 h2,H.st0.tl.sub hs,H.st0.sn.sub hs,H.st0.ac.sub hs⟩,kA _,bJ.nil _,H.pv,A0⟩
end
theorem a0P(H:SJ X c s d T w Ad nd Cd At nt Ct As ns Cs Aa na Ca Ae ne Ce t)(hk:d.kind=8):
  Calls prog 11 #[.agg #[iV c.d,iV c.s,iV c.b,.slice Ad nd Cd,iV s.segs,.slice At nt Ct,.slice As ns Cs,iV s.u,.slice Aa na Ca],.agg #[iV 8,iV d.n,iV d.seg,iV d.pos,.int .u8 d.turn,iV d.bat.cmd,.slice Ae ne Ce,.string t,iV d.ver]] w fun e w'=>dL e T w w' c (Sto.step X c s d):=by
 have HJ:=hd8 H;obtain⟨r,hr⟩: ∃r,r=Sto.step X c s d:=⟨_,rfl⟩;have Cn:=hd8 hr.symm;rw[←hr];obtain⟨w1,Cm,Ai⟩:=qQ w #[iV c.d,iV c.s,iV c.b,.slice Ad nd Cd,iV s.segs,.slice At nt Ct,.slice As ns Cs,iV s.u,.slice Aa na Ca] #[iV 8,iV d.n,iV d.seg,iV d.pos,.int .u8 d.turn,iV d.bat.cmd,.slice Ae ne Ce,.string t,iV d.ver];have eg:=Tryz.enters_noS;clear H hr;go_enter func11,ntmps11
 go_upto_region 1 with fail
 rw[←Cm];clear Cm;have Aw:=hd8 Ai;have d0:=Ai.dc.q0;clear Ai;have Bc:nd=s.disks.length:=by
  obtain⟨A,C,q,_⟩:=HJ.out.st.dk;cases q
  rfl
 have C1:=hd8 Bc;have Al:nd≤12:=by
  rw[Bc];exact HJ.out.wf.n12
 have D7:s.segs≤40:=HJ.out.wf.segs;have Ch:Hid (Sto.step X c s d=({s with Cb:=(Sto.aN X c s.segs 0 s.disks 0 0).1},⟨(Sto.aN X c s.segs 0 s.disks 0 0).2.1,(Sto.aN X c s.segs 0 s.disks 0 0).2.2,[],0,[]⟩)):=zX hk;have C4:=kL c.d c.s c.b s.segs s.u (.slice Ad nd Cd) (.slice At nt Ct) (.slice As ns Cs) (.slice Aa na Ca) s.disks w1 (HJ.out.st.dk.below Aw.out.bel) HJ.out.wf.n1 HJ.out.wf.n12 (fun i d hd=>HJ.out.wf.bl hd) HJ.out.wf.len ⟨_,_,_,rfl⟩ ⟨_,_,_,rfl⟩ ⟨_,_,_,rfl⟩;obtain⟨a0,a1,a2,a3,a4,a5,a6,a7,a8⟩:=Aw.out.st.c9;clear Bc hk;go_wp2_with fail;refine C4.mono ?_;rintro e w9 ⟨D,C,V0,U,rfl,B7,B6,Ck,b9⟩;rw[←C1.out]at B7⊢;have bT:=aB8 w9 (.cells #[iV c.d,iV c.s,iV c.b,.slice (some (aD D 0)) nd C,iV s.segs,.slice At nt Ct,.slice As ns Cs,iV s.u,.slice Aa na Ca] 32);have bU:=aB8 (w9.alloc (.cells #[iV c.d,iV c.s,iV c.b,.slice (some (aD D 0)) nd C,iV s.segs,.slice At nt Ct,.slice As ns Cs,iV s.u,.slice Aa na Ca] 32)) (.cells m7 42);have VT:=(aC w9 #[iV c.d,iV c.s,iV c.b,.slice (some (aD D 0)) nd C,iV s.segs,.slice At nt Ct,.slice As ns Cs,iV s.u,.slice Aa na Ca] 32).below bU;have VU:=aC (w9.alloc (.cells #[iV c.d,iV c.s,iV c.b,.slice (some (aD D 0)) nd C,iV s.segs,.slice At nt Ct,.slice As ns Cs,iV s.u,.slice Aa na Ca] 32)) m7 42;have By:(w9.alloc (.cells #[iV c.d,iV c.s,iV c.b,.slice (some (aD D 0)) nd C,iV s.segs,.slice At nt Ct,.slice As ns Cs,iV s.u,.slice Aa na Ca] 32)).heap.size=w9.heap.size+1:=d2K _;rw[By]at VU;have A1:=(Ck.below bT).below bU;have Ag:=((Aw.out.below b9).below bT).below bU;have D4:=hd8 Aw.out.size;have Cu:w1.heap.size≤w9.heap.size:=b9.size;have D3:=mL8 B6;clear C4 Ck b9 bT bU By a0 a1 a2 a3 a4 a5 a6 a7 a8 Aw d0;go_upto_region 52 with fail
 obtain⟨D2,Av⟩: ∃q,q=(w9.alloc (.cells #[iV c.d,iV c.s,iV c.b,.slice (some (aD D 0)) nd C,iV s.segs,.slice At nt Ct,.slice As ns Cs,iV s.u,.slice Aa na Ca] 32)).alloc (.cells m7 42):=⟨_,rfl⟩;rw[←Av]at VT VU A1 Ag⊢;obtain⟨QT,Cj⟩: ∃q,q=w9.heap.size:=⟨_,rfl⟩;rw[←Cj]at VT VU⊢;have Dh:QT≠D:=VT.ty.ne A1.row.ty (by decide);have Bh:QT+1≠D:=VU.ty.ne A1.row.ty (by decide);obtain⟨S,hS⟩: ∃S,S=c5K T w.heap.size D QT:=⟨_,rfl⟩;have Db:=hd8 hS;have Dg:Hid (ScW w D2 S QT D (stL c (.slice (some (aD D 0)) nd C) s.segs (.slice At nt Ct) (.slice As ns Cs) s.u (.slice Aa na Ca)) (stL c (.slice Ad nd Cd) s.segs (.slice At nt Ct) (.slice As ns Cs) s.u (.slice Aa na Ca)) (doL 8 d (.slice Ae ne Ce) t) 0 0 s.disks):=by
  have Dq:=A1.ge;have h1:=D4.out;have h2:=aY.lt VU;have h3:=A1.row.lt;refine⟨Ag,VT,VU,⟨V0,A1.dkJ ?_ fun k hk=>?_⟩,?_,Bh,Dh,by omega,by omega,fun k hk=>?_⟩
  ·rw[hS];exact kP.2 (Or.inr (Or.inr (Or.inr (Or.inl rfl))))
  ·rw[hS]at hk;rcases kP.1 hk with z|z|z|z|z|z
   ·have:=HJ.out.low k z;exact Or.inl (by omega)
   ·exact Or.inl (by omega)
   ·exact Or.inl (by omega)
   ·exact Or.inr ⟨58,z▸A1.row.ty,by decide,by decide⟩
   ·exact Or.inr ⟨32,z▸VT.ty,by decide,by decide⟩
   ·exact Or.inr ⟨42,z▸VU.ty,by decide,by decide⟩
  ·rw[hS];exact kP.2 (Or.inr (Or.inr (Or.inr (Or.inr (Or.inr rfl)))))
  ·rw[hS]at hk;rcases kP.1 hk with z|z|z|z|z|z
   ·have:=HJ.out.low k z;omega
   ·omega
   ·omega
   ·omega
   ·omega
   ·omega
 clear Av Cj VT VU A1 Ag hS Cu;go_wp2_with fail;go_loopw [19] (fun xv wr=> ∃(k E nn:Nat) (ds:List Sto.aL),k≤s.segs∧xv=iV k∧Hid (ScW w wr S QT D (stL c (.slice (some (aD D 0)) nd C) s.segs (.slice At nt Ct) (.slice As ns Cs) s.u (.slice Aa na Ca)) (stL c (.slice Ad nd Cd) s.segs (.slice At nt Ct) (.slice As ns Cs) s.u (.slice Aa na Ca)) (doL 8 d (.slice Ae ne Ce) t) E nn ds)∧Hid (Sto.aN X c s.segs 0 s.disks 0 0=Sto.aN X c (s.segs-k) k ds E nn)∧Hid (Sto.SI c s.segs ds)∧nn≤k*12) (fun xv _=>s.segs-(intOf xv).toNat)
 case atStart=>exact⟨0,0,0,s.disks,c9D _,rfl,Dg,rfl,HJ.out.wf.si,c9C _⟩
 case round=>
  obtain⟨k,E,nn,ds,Dr,rfl,HW,B4,A5,Dl⟩:=hrel;obtain⟨wo,rfl⟩: ∃x,x=wr:=⟨wr,rfl⟩;have a4:=HW.out.pj.st.q4;have B1:nd=ds.length:=by rw[C1.out,HJ.out.wf.dl,A5.out.dl]
  have A8:=hd8 B1;by_cases D0:k<s.segs
  ·have Cy:(k:Int)<(s.segs:Int):=by omega
   obtain⟨q,hq⟩: ∃q,s.segs-k=q+1:=⟨s.segs-k-1,by omega⟩;have A6:(Sto.aJ ds (k:Int)).length≤12:=by
    unfold Sto.aJ;rw[c9M,←B1];exact Al
   have Ak:(Sto.aJ ds (k:Int)).length=c.d+c.s:=by
    unfold Sto.aJ;rw[c9M];exact A5.out.dl
   obtain⟨bs,Ar⟩: ∃bs,bs=Sto.aJ ds (k:Int):=⟨_,rfl⟩;have B2:Hid (∀w',ScW w w' S QT D (stL c (.slice (some (aD D 0)) nd C) s.segs (.slice At nt Ct) (.slice As ns Cs) s.u (.slice Aa na Ca)) (stL c (.slice Ad nd Cd) s.segs (.slice At nt Ct) (.slice As ns Cs) s.u (.slice Aa na Ca)) (doL 8 d (.slice Ae ne Ce) t) E nn ds→Calls prog 38 #[stA c.d c.s c.b (.slice (some (aD D 0)) nd C) s.segs (.slice At nt Ct) (.slice As ns Cs) s.u (.slice Aa na Ca),iV k] w' fun e w2=> ∃v',e=.returned v'∧BlL w2 v' bs∧Bl w' w2):=fun w' h=>by
    obtain⟨V,hV⟩:=h.dk;rw[Ar];exact rE c.d c.s c.b s.segs s.u (.slice (some (aD D 0)) nd C) (.slice At nt Ct) (.slice As ns Cs) (.slice Aa na Ca) ds (k:Int) w' (by rw[A8.out];exact hV.dks (by rw[←A8.out];exact B7) B6) (by rw[←A8.out];exact Al) ⟨_,_,_,rfl⟩ ⟨_,_,_,rfl⟩ ⟨_,_,_,rfl⟩
   rw[←Ar]at A6 Ak;have Br:=hd8 fun v' w' hB=>a7O HJ.out.x v' _ k w' hB A6;have B3:Hid (∀M v' w',BlL w' v' bs→M≤w'.heap.size→Calls prog 39 #[v',iV k,iV c.d] w' fun e w2=> ∃v2,e=.returned (.tuple #[v2,iV ((X.mend bs k c).1:Nat)])∧MdO w2 M v2 (X.mend bs k c).1 (X.mend bs k c).2∧Bl w' w2):=fun M v' w' hB hM=>(b5E HJ.out.x v' bs k c w' hB Ak HJ.out.wf.d8 HJ.out.wf.s4).mono fun e w2 z=>by
    obtain⟨⟨v2,h1,h2⟩,h3⟩:=z;refine⟨v2,h1,?_,h3⟩;rcases h2 with⟨y1,y2⟩|y
    ·exact Or.inl ⟨y1,y2.lower hM⟩
    ·exact Or.inr y
   have Ab:=c9E (pR HJ.out.x bs k) A6;have Bq:Hid (∀i,i∈X.bad bs k→i<nd):=fun i hi=>by
    have:=b3H HJ.out.x hi;rw[Ar]at this;unfold Sto.aJ at this;rw[c9M,←A8.out]at this;exact this
   have Ba:Hid ((X.mend bs k c).1=0→(X.mend bs k c).2.length=nd):=fun z=>by rw[a6Z HJ.out.x z,A8.out,A5.out.dl]
   have Ap:Hid (Sto.aN X c s.segs 0 s.disks 0 0=if X.bad bs k=[]then Sto.aN X c (s.segs-(k+1)) (k+1) ds E nn else if (X.mend bs k c).1≠0 then Sto.aN X c (s.segs-(k+1)) (k+1) ds (if E=0 then(X.mend bs k c).1 else E) nn else Sto.aN X c (s.segs-(k+1)) (k+1) (Sto.write k (X.mend bs k c).2 0 ds) E (nn+Sto.there ds (X.bad bs k))):=by
    have e:s.segs-(k+1)=q:=by omega
    show Sto.aN X c s.segs 0 s.disks 0 0=_;rw[B4.out,hq,e,Sto.aN,Ar]
   generalize X.bad bs k=bl at Br Ab Bq Ap;generalize X.mend bs k c=md at B3 Ba Ap;obtain⟨mx,mL⟩:=md;obtain⟨nb,Bf⟩: ∃nb,nb=bl.length:=⟨_,rfl⟩;have Af:=hd8 Bf;rw[←Bf]at Ab;have Cc:=B2.out _ HW.out;obtain⟨t0,t1,t2,t3,t4,t5,t6,t7,t8⟩:=HW.out.vt.c9;clear hq B4 A6 Ak Ar B1 Bf;go_wp2_with fail;refine Cc.mono ?_;rintro e w2 ⟨v2,rfl,Ci,b2⟩;have C2:=Br.out v2 w2 Ci;clear Cc Br Ci;go_wp2_with fail;refine C2.mono ?_;rintro e w3 ⟨v3,rfl,Bg,b3⟩;have Bm:=hd8 Bg;have Ay:=hd8 ((HW.out.below b2).below b3);have Bp:=hd8 ((HW.out.below b2).low);have D1:w2.heap.size≤w3.heap.size:=b3.size;obtain⟨A3,C3,e3,Dd,Cz,_⟩:=bI Bg;rw[←Af.out]at e3 Dd;subst e3;have Cr:=mL8 Cz;clear C2 b2 b3 Bg t0 t1 t2 t3 t4 t5 t6 t7 t8 HW a4;by_cases An:bl=[]
   case pos=>
    have D9:((nb:Int)==0)=true:=by rw[Af.out,An];rfl
    have Am:Hid (Sto.aN X c s.segs 0 s.disks 0 0=Sto.aN X c (s.segs-(k+1)) (k+1) ds E nn):=by
     show Sto.aN X c s.segs 0 s.disks 0 0=_;rw[Ap.out,if_pos An]
    clear An Ap Bq Ba B3 B2 Bm Bp;go_wp2_with fail;exact⟨⟨k+1,E,nn,ds,by omega,by go_num,Ay,Am,A5,by rw[d0F];omega⟩,by simp[intOf];omega⟩
   case neg=>
    have Ds:0<nb:=by
     rw[Af.out];exact List.length_pos_iff.2 An
    have D9:((nb:Int)==0)=false:=by rw[beq_eq_false_iff_ne];omega
    have Am:Hid (Sto.aN X c s.segs 0 s.disks 0 0=if mx≠0 then Sto.aN X c (s.segs-(k+1)) (k+1) ds (if E=0 then mx else E) nn else Sto.aN X c (s.segs-(k+1)) (k+1) (Sto.write k mL 0 ds) E (nn+Sto.there ds bl)):=by
     show Sto.aN X c s.segs 0 s.disks 0 0=_;rw[Ap.out,if_neg An]
    have B8: ∀w',Bl w3 w'→(((w'.cell? (aD QT 0)=some (iV c.d)∧w'.cell? (aD QT 1)=some (iV c.s)∧w'.cell? (aD QT 2)=some (iV c.b)∧w'.cell? (aD QT 3)=some (.slice (some (aD D 0)) nd C)∧w'.cell? (aD QT 4)=some (iV s.segs)∧w'.cell? (aD QT 5)=some (.slice At nt Ct)∧w'.cell? (aD QT 6)=some (.slice As ns Cs)∧w'.cell? (aD QT 7)=some (iV s.u)∧w'.cell? (aD QT 8)=some (.slice Aa na Ca))∧w'.cell? (aD w.heap.size 0)=some (iV c.d))∧Bl w3 w'):=fun w' hb'=>by
     have V:=Ay.out.below hb';obtain⟨t0,t1,t2,t3,t4,t5,t6,t7,t8⟩:=V.vt.c9;exact⟨⟨⟨t0,t1,t2,t3,t4,t5,t6,t7,t8⟩,V.pj.st.q0⟩,hb'⟩
    have TD:=B8 w3.drew (Below.refl _ _).drew;have Bj: ∀w',(((w'.cell? (aD QT 0)=some (iV c.d)∧w'.cell? (aD QT 1)=some (iV c.s)∧w'.cell? (aD QT 2)=some (iV c.b)∧w'.cell? (aD QT 3)=some (.slice (some (aD D 0)) nd C)∧w'.cell? (aD QT 4)=some (iV s.segs)∧w'.cell? (aD QT 5)=some (.slice At nt Ct)∧w'.cell? (aD QT 6)=some (.slice As ns Cs)∧w'.cell? (aD QT 7)=some (iV s.u)∧w'.cell? (aD QT 8)=some (.slice Aa na Ca))∧w'.cell? (aD w.heap.size 0)=some (iV c.d))∧Bl w3 w')→Bl w3 w':=fun w' hS=>hS.2;have Bx:=fun w' (hS:(((w'.cell? (aD QT 0)=some (iV c.d)∧w'.cell? (aD QT 1)=some (iV c.s)∧w'.cell? (aD QT 2)=some (iV c.b)∧w'.cell? (aD QT 3)=some (.slice (some (aD D 0)) nd C)∧w'.cell? (aD QT 4)=some (iV s.segs)∧w'.cell? (aD QT 5)=some (.slice At nt Ct)∧w'.cell? (aD QT 6)=some (.slice As ns Cs)∧w'.cell? (aD QT 7)=some (iV s.u)∧w'.cell? (aD QT 8)=some (.slice Aa na Ca))∧w'.cell? (aD w.heap.size 0)=some (iV c.d))∧Bl w3 w'))=>B2.out w' (Ay.out.below hS.2);clear An Ap;go_upto_region 57 with fail
    go_region_held3 (fun w'=>(((w'.cell? (aD QT 0)=some (iV c.d)∧w'.cell? (aD QT 1)=some (iV c.s)∧w'.cell? (aD QT 2)=some (iV c.b)∧w'.cell? (aD QT 3)=some (.slice (some (aD D 0)) nd C)∧w'.cell? (aD QT 4)=some (iV s.segs)∧w'.cell? (aD QT 5)=some (.slice At nt Ct)∧w'.cell? (aD QT 6)=some (.slice As ns Cs)∧w'.cell? (aD QT 7)=some (iV s.u)∧w'.cell? (aD QT 8)=some (.slice Aa na Ca))∧w'.cell? (aD w.heap.size 0)=some (iV c.d))∧Bl w3 w'))
     (first|A2 exact TD|A2 A0)
     (first|(go_at_call 38;refine(Bx _ (by A0)).mono ?_;rintro e1 w4 ⟨v4,rfl,Cp,b4⟩;have S1:=B8 w4 (bt (Bj _ (by A0)) b4))|(go_at_call 39;refine(B3.out w3.heap.size _ _ (by A0) (Bj _ (by A0)).size).mono ?_;rintro e2 w5 ⟨v5,rfl,Bu,b5⟩;have S2:=B8 w5 (bt S1.2 b5)))
    have Bb:=S2.2;have Aj:=hd8 (Ay.out.below Bb);have B5:=hd8 Bu;have B0:=hd8 (Bm.out.below Bb);clear S1 S2 TD Bj B8 Bx B3 B2 b4 b5 Cp Bu Ay Bm Bb;by_cases Ah:mx=0
    case neg=>
     have Df:((mx:Int) !=0)=true:=by rw[bne_iff_ne];omega
     have Aq:Hid (Sto.aN X c s.segs 0 s.disks 0 0=Sto.aN X c (s.segs-(k+1)) (k+1) ds (if E=0 then mx else E) nn):=by
      show Sto.aN X c s.segs 0 s.disks 0 0=_;rw[Am.out,if_pos Ah]
     have Dk:=Aj.out.va.q0;have Dp:=Aj.out.va.frozen 0;have hM:=B5.out;rcases hM with⟨z,_⟩|⟨_,z⟩
     ·exact absurd z Ah
     subst z;clear Am B5;by_cases hE:E=0
     ·have Cv:((E:Int)==0)=true:=by rw[hE];rfl
      have Be:Hid (Sto.aN X c s.segs 0 s.disks 0 0=Sto.aN X c (s.segs-(k+1)) (k+1) ds mx nn):=by
       show Sto.aN X c s.segs 0 s.disks 0 0=_;rw[Aq.out,if_pos hE]
      have A7:=hd8 (Aj.out.err mx);clear hE Aq Aj;go_wp2_with fail;exact⟨⟨k+1,mx,nn,ds,by omega,by go_num,A7,Be,A5,by rw[d0F];omega⟩,by simp[intOf];omega⟩
     ·have Cv:((E:Int)==0)=false:=by rw[beq_eq_false_iff_ne];omega
      have Be:Hid (Sto.aN X c s.segs 0 s.disks 0 0=Sto.aN X c (s.segs-(k+1)) (k+1) ds E nn):=by
       show Sto.aN X c s.segs 0 s.disks 0 0=_;rw[Aq.out,if_neg hE]
      clear hE Aq;go_wp2_with fail;exact⟨⟨k+1,E,nn,ds,by omega,by go_num,Aj,Be,A5,by rw[d0F];omega⟩,by simp[intOf];omega⟩
    case pos=>
     have Df:((mx:Int) !=0)=false:=by rw[Ah];rfl
     have Aq:Hid (Sto.aN X c s.segs 0 s.disks 0 0=Sto.aN X c (s.segs-(k+1)) (k+1) (Sto.write k mL 0 ds) E (nn+Sto.there ds bl)):=by
      show Sto.aN X c s.segs 0 s.disks 0 0=_;rw[Am.out,if_neg (fun z=>z Ah)]
     have De:=hd8 (Ba.out Ah);have C8:Hid (BlL (aS S w5) v5 mL):=by
      rcases B5.out with⟨_,z⟩|⟨z,_⟩
      ·exact z.2 S fun k hk=>c9P (Bp.out k hk) D1
      ·exact absurd Ah z
     have Au: ∀j,Sto.there ds (bl.take j)≤12:=fun j=>by
      have h1:=sB ds (bl.take j);rw[c9K]at h1;have h2:=Af.out;omega
     have Dj:=hd8 Au;have D6:k*12≤40*12:=d1J _ (by omega);have Cw:=hd8 Aj.out;clear Am B5 Ah Ba Au Aj;go_wp2_with fail;go_loopw [266] (fun xv wi=> ∃(j:Nat),j≤nb∧xv=iV j∧Hid (ScW w wi S QT D (stL c (.slice (some (aD D 0)) nd C) s.segs (.slice At nt Ct) (.slice As ns Cs) s.u (.slice Aa na Ca)) (stL c (.slice Ad nd Cd) s.segs (.slice At nt Ct) (.slice As ns Cs) s.u (.slice Aa na Ca)) (doL 8 d (.slice Ae ne Ce) t) E (nn+Sto.there ds (bl.take j)) ds)∧Hid (Off (fun q=>q=QT+1) w5 wi)) (fun xv _=>nb-(intOf xv).toNat)
     case atStart=>exact⟨0,c9D _,rfl,Cw,Off.refl _ _⟩
     case round=>
      obtain⟨j,hj,rfl,A4,Ax⟩:=hrel
      have Bn:=bC B0.out Ax.out (fun g hg z=>by
       have z:g=QT+1:=z;have h1:=(B0.out.lt g hg).1;have h2:=Bp.out (QT+1) A4.out.sq
       omega)
      obtain⟨A9,C9,e9,Bi⟩:=kS (l:=bl) Bn;have eA:A9=A3:=by
       injection e9 with q _ _;exact q.symm
      subst eA;clear e9;have B9:=Dj.out j;by_cases Cf:j<nb
      ·have Cq:(j:Int)<(nb:Int):=by omega
       obtain⟨b9,o9,rfl,c9⟩:=Bi j (by rw[←Af.out];exact Cf);obtain⟨i,hi⟩: ∃i,i=bl.getD j 0:=⟨_,rfl⟩;rw[←hi]at c9;have Bt:bl[j]?=some i:=by
        have:j<bl.length:=by rw[←Af.out];exact Cf
        rw[hi,c9R,c9F this];rfl
       have D5:=Bq.out i (c9N Bt);have Da:(i:Int)<(nd:Int):=by omega
       obtain⟨di,Bo⟩: ∃di,ds[i]?=some di:=⟨ds[i]'(by rw[←A8.out];exact D5),c9F _⟩;obtain⟨VI,Az⟩:=A4.out.dk;have cg:=Az.gone Bo;have t3:=A4.out.vt.q3;have Ao:=zR ds bl j Bt Bo;obtain⟨gn,C0⟩: ∃gn,gn=di.gone:=⟨_,rfl⟩;rw[←C0]at cg Ao;obtain⟨th,C6⟩: ∃th,th=Sto.there ds (bl.take j):=⟨_,rfl⟩;rw[←C6]at Ao A4 B9;clear Az Bo Bt C0 hi C6 Bn Bi;cases gn with
       |true=>
        have A7:Hid (ScW w wr S QT D (stL c (.slice (some (aD D 0)) nd C) s.segs (.slice At nt Ct) (.slice As ns Cs) s.u (.slice Aa na Ca)) (stL c (.slice Ad nd Cd) s.segs (.slice At nt Ct) (.slice As ns Cs) s.u (.slice Aa na Ca)) (doL 8 d (.slice Ae ne Ce) t) E (nn+Sto.there ds (bl.take (j+1))) ds):=by
         have e:Sto.there ds (bl.take (j+1))=th:=Ao;show ScW w wr S QT D (stL c (.slice (some (aD D 0)) nd C) s.segs (.slice At nt Ct) (.slice As ns Cs) s.u (.slice Aa na Ca)) (stL c (.slice Ad nd Cd) s.segs (.slice At nt Ct) (.slice As ns Cs) s.u (.slice Aa na Ca)) (doL 8 d (.slice Ae ne Ce) t) E (nn+Sto.there ds (bl.take (j+1))) ds;rw[e];exact A4.out
        clear Ao;go_wp2_with fail;exact⟨⟨j+1,by omega,by go_num,A7,Ax⟩,by simp[intOf];omega⟩
       |false=>
        have D8:=A4.out.va.q1;have Dm:=A4.out.va.frozen 1;have A7:Hid (ScW w (wr.setCell (aD (QT+1) 1) (iV ((nn+th+1:Nat):Int))) S QT D (stL c (.slice (some (aD D 0)) nd C) s.segs (.slice At nt Ct) (.slice As ns Cs) s.u (.slice Aa na Ca)) (stL c (.slice Ad nd Cd) s.segs (.slice At nt Ct) (.slice As ns Cs) s.u (.slice Aa na Ca)) (doL 8 d (.slice Ae ne Ce) t) E (nn+Sto.there ds (bl.take (j+1))) ds):=by
         have e:Sto.there ds (bl.take (j+1))=th+1:=Ao;show ScW w (wr.setCell (aD (QT+1) 1) (iV ((nn+th+1:Nat):Int))) S QT D (stL c (.slice (some (aD D 0)) nd C) s.segs (.slice At nt Ct) (.slice As ns Cs) s.u (.slice Aa na Ca)) (stL c (.slice Ad nd Cd) s.segs (.slice At nt Ct) (.slice As ns Cs) s.u (.slice Aa na Ca)) (doL 8 d (.slice Ae ne Ce) t) E (nn+Sto.there ds (bl.take (j+1))) ds;rw[e];exact A4.out.num (nn+th+1)
        have Bs:Hid (Off (fun q=>q=QT+1) w5 (wr.setCell (aD (QT+1) 1) (iV ((nn+th+1:Nat):Int)))):=Ax.out.trans (aG wr (aD (QT+1) 1) _);obtain⟨tn,Bz⟩: ∃tn,tn=nn+th:=⟨_,rfl⟩;rw[←Bz]at D8 A7 Bs;have Ac:((tn+1:Nat):Int)=(tn:Int)+1:=by omega
        rw[Ac]at A7 Bs;have Di:tn≤1000:=by omega
        clear Ao Bz Ac;go_wp2_with fail;exact⟨⟨j+1,by omega,by go_num,A7,Bs⟩,by simp[intOf];omega⟩
      ·obtain rfl:j=nb:=by omega
       have Co:Hid (ScW w wr S QT D (stL c (.slice (some (aD D 0)) nd C) s.segs (.slice At nt Ct) (.slice As ns Cs) s.u (.slice Aa na Ca)) (stL c (.slice Ad nd Cd) s.segs (.slice At nt Ct) (.slice As ns Cs) s.u (.slice Aa na Ca)) (doL 8 d (.slice Ae ne Ce) t) E (nn+Sto.there ds bl) ds):=by
        have:=A4.out;rw[Af.out,d0L]at this;exact this
       have C5:=C8.out.sub (kB A4.out.sq Ax.out);obtain⟨VI,Az⟩:=A4.out.dk;have Cg:=tL S QT D nd C c.d c.s c.b s.segs s.u (k:Int) (.slice At nt Ct) (.slice As ns Cs) (.slice Aa na Ca) v5 mL VI ds wr A4.out.vt Az A4.out.low A8.out Al B7 B6 (c8F A5.out D7) C5 De.out;have Cx:Sto.there ds bl≤12:=by
        rw[Af.out,d0L]at B9;exact B9
       clear Az C5 A4 Bn Bi Ax C8 B9;go_wp2_with fail;refine Cg.mono ?_;rintro e w6 ⟨rfl,⟨V6,Bw⟩,o6⟩;have A7:=hd8 (Co.out.wrote o6 Bw);have Bk:=hd8 (A5.out.write D0 mL);clear Cg Bw o6 Co;go_wp2_with fail;exact⟨⟨k+1,E,nn+Sto.there ds bl,Sto.write k mL 0 ds,by omega,by go_num,A7,Aq,Bk,by rw[d0F];omega⟩,by simp[intOf];omega⟩
  ·have C7:k=s.segs:=by omega
   have Dn: ¬(k:Int)<(s.segs:Int):=by omega
   have Cl:Hid (Sto.aN X c s.segs 0 s.disks 0 0=(ds,E,nn)):=by
    show Sto.aN X c s.segs 0 s.disks 0 0=_;rw[B4.out,C7,d1L];rfl
   obtain⟨V,hV⟩:=HW.out.dk;have Ai:=HW.out.pj;have Bv:=HW.out.ld;have Dc:Hid (∀wE,Off (fun q=>q=w.heap.size+1+1∨q=w.heap.size+1+1+1) wo wE→dL (.returned (.tuple #[stA c.d c.s c.b (.slice (some (aD D 0)) nd C) s.segs (.slice At nt Ct) (.slice As ns Cs) s.u (.slice Aa na Ca),.agg #[iV E,iV nn,nS,iV 0,nS]])) T w wE c r):=fun wE ho=>by
    rw[←Cn.out,Ch.out,Cl.out];exact HJ.out.disksJ Ai.bel (by rw[←Db.out];exact hV) ho Bv A8.out B7 B6 E nn
   obtain⟨t0,t1,t2,t3,t4,t5,t6,t7,t8⟩:=HW.out.vt.c9;have z0:=HW.out.va.q0;have z1:=HW.out.va.q1;have z2:=HW.out.va.q2;have z3:=HW.out.va.q3;have z4:=HW.out.va.q4;obtain⟨x0,x1,x2,x3,x4,x5,x6,x7,x8,p0,p1,p2,p3,p4,p5,p6,p7,p8,y0,y1,y2,y3,y4,q0,q1,q2,q3,q4⟩:=Ai.res;have q1: ¬QT=w.heap.size+1+1:=by have:=HW.out.lo;omega
   have q2: ¬QT=w.heap.size+1+1+1:=by have:=HW.out.lo;omega
   have q3: ¬QT+1=w.heap.size+1+1:=by have:=HW.out.lo;omega
   have q4: ¬QT+1=w.heap.size+1+1+1:=by have:=HW.out.lo;omega
   clear C7 B4 HW Ai hV Cl Ch Cn A5 Bv B1;go_upto_region 68 with fail
   go_region
   go_wp2_with fail;exact bodyPost_ret (by simp[results,results11,go_sem,x0,x1,x2,x3,x4,x5,x6,x7,x8,y0,y1,y2,y3,y4]) rfl (Dc.out _ (a1A _ _ _ _ _ _ _ _ _ _ _ _ _ _ _ _ _))
end
theorem jI(d s b:Int)(w:World):
  Calls prog 7 #[.agg #[iV d,iV s,iV b]] w fun e w'=>e=.returned (iV (cM d s b:Nat))∧Bl w w':=by
 have bA:=aB8 w (.cells #[iV d,iV s,iV b] 23);have VB:=aC w #[iV d,iV s,iV b] 23;have c0:=VB.q0;have c1:=VB.q1;have HC:=dY d s (w.alloc (.cells #[iV d,iV s,iV b] 23));have A0:Hid (cM d s b=if bP d s≠0 then bP d s else if b<1∨10<b then 3 else 0):=rfl;generalize bP d s=x at HC A0;have A2:=hd8 VB;clear VB;go_enter func7,ntmps7
 go_wp2_with fail;refine HC.mono ?_;rintro e w2 ⟨rfl,b2⟩;have A4:=(A2.out.below b2).q2;have A1:=bt bA b2;clear HC;by_cases hx:x=0
 ·have A3:((x:Int) !=0)=false:=by rw[bne_eq_false_iff_eq];omega
  by_cases h1:b<1
  ·have HR:Hid (cM d s b=3):=by
    show cM d s b=3;rw[A0.out,if_neg (fun z=>z hx),if_pos (Or.inl h1)]
   clear hx;go_wp2_with fail;go_ret
   exact⟨by rw[HR.out];rfl,A1⟩
  ·by_cases h2:10<b
   ·have HR:Hid (cM d s b=3):=by
     show cM d s b=3;rw[A0.out,if_neg (fun z=>z hx),if_pos (Or.inr h2)]
    clear hx;go_wp2_with fail;go_ret
    exact⟨by rw[HR.out];rfl,A1⟩
   ·have HR:Hid (cM d s b=0):=by
     show cM d s b=0;rw[A0.out,if_neg (fun z=>z hx),if_neg (by omega)]
    clear hx;go_wp2_with fail;go_ret
    exact⟨by rw[HR.out];rfl,A1⟩
 ·have A3:((x:Int) !=0)=true:=by rw[bne_iff_ne];omega
  have HR:Hid (cM d s b=x):=by
   show cM d s b=x;rw[A0.out,if_pos hx]
  clear hx;go_wp2_with fail;go_ret
  exact⟨by rw[HR.out];rfl,A1⟩
theorem a8J(d s b:Int)(A:Option Addr)(n C:Nat)(w:World)(x:Nat)(hx:x=cM d s b)(h0:x≠0):
  Calls prog 5 #[.agg #[iV d,iV s,iV b],.slice A n C] w fun e w'=>yJ e w w' x:=by
 have b2:Bl w ((w.alloc (.cells #[iV d,iV s,iV b] 23)).alloc (.cells #[iV 0,iV 0,iV 0,nS,iV 0,nS,nS,iV 0,nS] 32)):=(aB8 _ _).alloc (aB8 _ _).size _;have bB:=aB8 (w.alloc (.cells #[iV d,iV s,iV b] 23)) (.cells #[iV 0,iV 0,iV 0,nS,iV 0,nS,nS,iV 0,nS] 32);have VS:=(aC w #[iV d,iV s,iV b] 23).below bB;have VT:=aC (w.alloc (.cells #[iV d,iV s,iV b] 23)) #[iV 0,iV 0,iV 0,nS,iV 0,nS,nS,iV 0,nS] 32;rw[show(w.alloc (.cells #[iV d,iV s,iV b] 23)).heap.size=w.heap.size+1 by simp]at VT;have HW:=jI d s b ((w.alloc (.cells #[iV d,iV s,iV b] 23)).alloc (.cells #[iV 0,iV 0,iV 0,nS,iV 0,nS,nS,iV 0,nS] 32));rw[←hx]at HW;have A5:((x:Int) !=0)=true:=by rw[bne_iff_ne];omega
 clear hx h0;clear bB;go_enter func5,ntmps5
 go_upto_region 1 with fail
 generalize (w.alloc (.cells #[iV d,iV s,iV b] 23)).alloc (.cells #[iV 0,iV 0,iV 0,nS,iV 0,nS,nS,iV 0,nS] 32)=w2 at*;have s0:=VS.q0;have s1:=VS.q1;have s2:=VS.q2;have A4:=hd8 VT;have A2:=hd8 b2;clear VS VT b2;go_wp2_with fail;refine HW.mono ?_;rintro e w3 ⟨rfl,A1⟩;have A0:=A4.out.below A1;have A3:Hid (∀w',Off (fun k=>k=w.heap.size+1) w3 w'→Bl w w'):=fun w' ho=>(bt A2.out A1).trans (ho.below (bt A2.out A1).size fun k e=>by omega);have b0:=A0.q0;have b1:=A0.q1;have b2:=A0.q2;have b3:=A0.q3;have b4:=A0.q4;have b5:=A0.q5;have b6:=A0.q6;have b7:=A0.q7;have b8:=A0.q8;have f0:=A0.frozen 0;have f1:=A0.frozen 1;have f2:=A0.frozen 2;have f3:=A0.frozen 3;have f4:=A0.frozen 4;have f5:=A0.frozen 5;have f6:=A0.frozen 6;have f7:=A0.frozen 7;have f8:=A0.frozen 8;clear A0 A1 s0 s1 s2 HW;go_wp2_with fail;refine bodyPost_ret (v:=.tuple #[.agg #[iV 0,iV 0,iV 0,nS,iV 0,nS,nS,iV 0,nS],nS,iV x]) (by simp[results,results5,go_sem,b0,b1,b2,b3,b4,b5,b6,b7,b8]) rfl ⟨rfl,?_⟩;exact A3.out _ (fC _ _ _ _ _ _ _ _ _ _ _)
theorem a4R(d s b:Int)(A:Option Addr)(n C:Nat)(w:World)(hx:cM d s b=0)(h80:80<n):
  Calls prog 5 #[.agg #[iV d,iV s,iV b],.slice A n C] w fun e w'=>yJ e w w' 5:=by
 have b2:Bl w ((w.alloc (.cells #[iV d,iV s,iV b] 23)).alloc (.cells #[iV 0,iV 0,iV 0,nS,iV 0,nS,nS,iV 0,nS] 32)):=(aB8 _ _).alloc (aB8 _ _).size _;have bB:=aB8 (w.alloc (.cells #[iV d,iV s,iV b] 23)) (.cells #[iV 0,iV 0,iV 0,nS,iV 0,nS,nS,iV 0,nS] 32);have VS:=(aC w #[iV d,iV s,iV b] 23).below bB;have VT:=aC (w.alloc (.cells #[iV d,iV s,iV b] 23)) #[iV 0,iV 0,iV 0,nS,iV 0,nS,nS,iV 0,nS] 32;rw[show(w.alloc (.cells #[iV d,iV s,iV b] 23)).heap.size=w.heap.size+1 by simp]at VT;have HW:=jI d s b ((w.alloc (.cells #[iV d,iV s,iV b] 23)).alloc (.cells #[iV 0,iV 0,iV 0,nS,iV 0,nS,nS,iV 0,nS] 32));rw[hx]at HW;have hn:(80:Int)<(n:Int):=by omega
 have A5:=decide_eq_true hn;clear hx h80;clear bB;go_enter func5,ntmps5
 go_upto_region 1 with fail
 generalize (w.alloc (.cells #[iV d,iV s,iV b] 23)).alloc (.cells #[iV 0,iV 0,iV 0,nS,iV 0,nS,nS,iV 0,nS] 32)=w2 at*;have s0:=VS.q0;have s1:=VS.q1;have s2:=VS.q2;have A4:=hd8 VT;have A2:=hd8 b2;clear VS VT b2;go_wp2_with fail;refine HW.mono ?_;rintro e w3 ⟨rfl,A1⟩;have A0:=A4.out.below A1;have A3:Hid (∀w',Off (fun k=>k=w.heap.size+1) w3 w'→Bl w w'):=fun w' ho=>(bt A2.out A1).trans (ho.below (bt A2.out A1).size fun k e=>by omega);have b0:=A0.q0;have b1:=A0.q1;have b2:=A0.q2;have b3:=A0.q3;have b4:=A0.q4;have b5:=A0.q5;have b6:=A0.q6;have b7:=A0.q7;have b8:=A0.q8;have f0:=A0.frozen 0;have f1:=A0.frozen 1;have f2:=A0.frozen 2;have f3:=A0.frozen 3;have f4:=A0.frozen 4;have f5:=A0.frozen 5;have f6:=A0.frozen 6;have f7:=A0.frozen 7;have f8:=A0.frozen 8;clear A0 A1 s0 s1 s2 HW;go_wp2_with fail;refine bodyPost_ret (v:=.tuple #[.agg #[iV 0,iV 0,iV 0,nS,iV 0,nS,nS,iV 0,nS],nS,iV 5]) (by simp[results,results5,go_sem,b0,b1,b2,b3,b4,b5,b6,b7,b8]) rfl ⟨rfl,?_⟩;exact A3.out _ (fC _ _ _ _ _ _ _ _ _ _ _)
end Go.Proofs.YtmcaejooaaahdaaGreat
