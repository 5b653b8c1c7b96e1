import Derived.Test.YtmcaejooaaahdaaGreatZ28
set_option maxHeartbeats 8000000
set_option maxRecDepth 100000
namespace Go.Proofs.YtmcaejooaaahdaaGreat
open Go.Proofs.Tryz
variable {k:Nat}
open Go.RowKit
section
variable {X : Sto.Six} {c : Sto.Cfg} {s : Sto.St} {d : Sto.Do} {T : Nat → Bool} {w : World} {Ad At As Aa Ae : Option Addr} {nd Cd nt Ct ns Cs na Ca ne Ce : Nat} {t : ByteArray}
theorem a8F(H:SJ X c s d T w Ad nd Cd At nt Ct As ns Cs Aa na Ca Ae ne Ce t)(hk:d.kind=1):
  Calls prog 11 #[.agg #[iV c.d,iV c.s,iV c.b,.slice Ad nd Cd,iV s.segs,.slice At nt Ct,.slice As ns Cs,iV s.u,.slice Aa na Ca],.agg #[iV 1,iV d.n,iV d.seg,iV d.pos,.int .u8 d.turn,iV d.bat.cmd,.slice Ae ne Ce,.string t,iV d.ver]] w fun e w'=>dL e T w w' c (Sto.step X c s d):=by
 have HJ:=hd8 H;obtain⟨r,hr⟩: ∃r,r=Sto.step X c s d:=⟨_,rfl⟩;have Ac:=hd8 hr.symm;rw[←hr];obtain⟨w1,A9,A4⟩:=qQ w #[iV c.d,iV c.s,iV c.b,.slice Ad nd Cd,iV s.segs,.slice At nt Ct,.slice As ns Cs,iV s.u,.slice Aa na Ca] #[iV 1,iV d.n,iV d.seg,iV d.pos,.int .u8 d.turn,iV d.bat.cmd,.slice Ae ne Ce,.string t,iV d.ver];have eg:=Tryz.enters_noS;clear H hr;go_enter func11,ntmps11
 go_upto_region 1 with fail
 rw[←A9];clear A9;have A0:=hd8 A4;have d0:=A4.dc.q0;clear A4
 have A2:=a9W HJ.out.x c s (.slice Ad nd Cd) (.slice At nt Ct) (.slice As ns Cs) (.slice Aa na Ca) d (.slice Ae ne Ce) t (c5T T w.heap.size) w1 (HJ.out.st0.sub (yK A0.out.bel fun k hk z=>(oY.1 z).resolve_right (by omega))) HJ.out.wf (HJ.out.do0.sub (yK A0.out.bel fun k hk z=>(oY.1 z).resolve_right (by omega))) HJ.out.pv (fun k hk=>by
  have h1:=A0.out.size;rcases oY.1 hk with z|z|z
  ·have:=HJ.out.low k z;omega
  ·omega
  ·omega)
 rw[c7M hk]at A2;have A8:Hid (r=Sto.put X c s d):=by
  show r=_;rw[←Ac.out];unfold Sto.step;rw[if_pos hk]
 obtain⟨p,hp⟩: ∃p,p=Sto.put X c s d:=⟨_,rfl⟩;rw[←hp]at A2 A8;obtain⟨a0,a1,a2,a3,a4,a5,a6,a7,a8⟩:=A0.out.st.c9;obtain⟨-,d1,d2,d3,d4,d5,d6,d7,d8⟩:=A0.out.dc.c9;clear hp;go_wp2_with fail;refine A2.mono ?_;rintro e w2 ⟨vd,vt,vs,va,ve,vl,rfl,A1,A6,A5,A7,b2⟩;obtain⟨B1,m1,K1,rfl⟩:=iZ A1.dk;obtain⟨B2,m2,K2,rfl⟩:=fX A1.tl;obtain⟨B3,m3,K3,rfl⟩:=gV A1.sn;obtain⟨B4,m4,K4,rfl⟩:=dT A1.ac;obtain⟨B5,m5,K5,rfl⟩: ∃A n C,ve=.slice A n C:=by
  obtain⟨A,C,h⟩:=A6.shape;exact⟨A,_,C,h⟩
 obtain⟨B6,m6,K6,rfl⟩:=dT A5;have A3:=A0.out.below b2;obtain⟨x0,x1,x2,x3,x4,x5,x6,x7,x8,p0,p1,p2,p3,p4,p5,p6,p7,p8,y0,y1,y2,y3,y4,q0,q1,q2,q3,q4⟩:=A3.res;have Ab:Hid (∀wE,Off (fun q=>q=w.heap.size+1+1∨q=w.heap.size+1+1+1) w2 wE→dL (.returned (.tuple #[stC c (.slice B1 m1 K1) p.1 (.slice B2 m2 K2) (.slice B3 m3 K3) (.slice B4 m4 K4),c6F p.2 (.slice B5 m5 K5) (.slice B6 m6 K6)])) T w wE c r):=fun wE ho=>by
  have hs:fB (aS (c5T T w.heap.size) w2) (aS T wE):=c0Y ho (fun k z=>oY.2 (Or.inr z)) (fun k z=>oY.2 (Or.inl z));rw[A8.out];exact⟨_,_,_,_,_,_,rfl,A1.sub hs,A6.sub hs,A5.sub hs,A7,A3.bel.trans (ho.below A3.bel.size fun q z=>by omega)⟩
 clear A2 A1 A6 A5 A7 b2 A3;go_wp2_with fail;exact bodyPost_ret (by simp[results,results11,go_sem,x0,x1,x2,x3,x4,x5,x6,x7,x8,y0,y1,y2,y3,y4]) rfl (Ab.out _ (zF _ _ _ _ _ _ _ _ _ _ _ _ _ _ _ _ _))
theorem a3I(H:SJ X c s d T w Ad nd Cd At nt Ct As ns Cs Aa na Ca Ae ne Ce t)(hk: ∀k:Int,1≤k→k≤9→d.kind≠k):
  Calls prog 11 #[.agg #[iV c.d,iV c.s,iV c.b,.slice Ad nd Cd,iV s.segs,.slice At nt Ct,.slice As ns Cs,iV s.u,.slice Aa na Ca],.agg #[iV d.kind,iV d.n,iV d.seg,iV d.pos,.int .u8 d.turn,iV d.bat.cmd,.slice Ae ne Ce,.string t,iV d.ver]] w fun e w'=>dL e T w w' c (Sto.step X c s d):=by
 have HJ:=hd8 H;obtain⟨r,hr⟩: ∃r,r=Sto.step X c s d:=⟨_,rfl⟩;have A8:=hd8 hr.symm;rw[←hr];obtain⟨w1,A5,A1⟩:=qQ w #[iV c.d,iV c.s,iV c.b,.slice Ad nd Cd,iV s.segs,.slice At nt Ct,.slice As ns Cs,iV s.u,.slice Aa na Ca] #[iV d.kind,iV d.n,iV d.seg,iV d.pos,.int .u8 d.turn,iV d.bat.cmd,.slice Ae ne Ce,.string t,iV d.ver];have eg:=Tryz.enters_noS;clear H hr;go_enter func11,ntmps11
 go_upto_region 1 with fail
 rw[←A5];clear A5;have A3:=hd8 A1;have d0:=A1.dc.q0;clear A1;have hn: ∀k:Int,1≤k→k≤9→(d.kind==k)=false:=fun k h1 h2=>by
  rw[beq_eq_false_iff_ne];exact hk k h1 h2
 have h1:=hn 1 (by omega) (by omega);have h2:=hn 2 (by omega) (by omega);have h3:=hn 3 (by omega) (by omega);have h4:=hn 4 (by omega) (by omega);have h5:=hn 5 (by omega) (by omega);have h6:=hn 6 (by omega) (by omega);have h7:=hn 7 (by omega) (by omega);have h8:=hn 8 (by omega) (by omega);have h9:=hn 9 (by omega) (by omega);have A2:=A3.out;have A6:=eL w.heap.size 1 c.d c.s c.b s.segs s.u Ad nd Cd At nt Ct As ns Cs Aa na Ca _ (A2).st;have A4:=hd8 A2;have A9:Hid (r=(s,⟨1,0,[],0,[]⟩)):=by
  rw[←A8.out];exact a1Y hk
 clear hn hk A2 A3;go_wp2_with fail;refine A6.mono ?_;rintro e wn ⟨rfl,bn⟩;have A0:=A4.out.below bn;obtain⟨x0,x1,x2,x3,x4,x5,x6,x7,x8,p0,p1,p2,p3,p4,p5,p6,p7,p8,y0,y1,y2,y3,y4,q0,q1,q2,q3,q4⟩:=A0.res;have A7:=A0.bel;clear A6 A4 A0 bn;go_wp2_with fail;refine bodyPost_ret (v:=.tuple #[stA c.d c.s c.b (.slice Ad nd Cd) s.segs (.slice At nt Ct) (.slice As ns Cs) s.u (.slice Aa na Ca),.agg #[iV 1,iV 0,nS,iV 0,nS]]) (by simp[results,results11,go_sem,x0,x1,x2,x3,x4,x5,x6,x7,x8,y0,y1,y2,y3,y4]) rfl ?_;rw[A9.out];exact HJ.out.no (noB A7 (by omega) (by omega) _ _ _ _ _ _ _ _ _ _ _ _ _ _) 1 0
theorem zO(H:SJ X c s d T w Ad nd Cd At nt Ct As ns Cs Aa na Ca Ae ne Ce t)(hk:d.kind=9):
  Calls prog 11 #[.agg #[iV c.d,iV c.s,iV c.b,.slice Ad nd Cd,iV s.segs,.slice At nt Ct,.slice As ns Cs,iV s.u,.slice Aa na Ca],.agg #[iV 9,iV d.n,iV d.seg,iV d.pos,.int .u8 d.turn,iV d.bat.cmd,.slice Ae ne Ce,.string t,iV d.ver]] w fun e w'=>dL e T w w' c (Sto.step X c s d):=by
 have HJ:=hd8 H;obtain⟨r,hr⟩: ∃r,r=Sto.step X c s d:=⟨_,rfl⟩;have Ag:=hd8 hr.symm;rw[←hr];obtain⟨w1,Af,A1⟩:=qQ w #[iV c.d,iV c.s,iV c.b,.slice Ad nd Cd,iV s.segs,.slice At nt Ct,.slice As ns Cs,iV s.u,.slice Aa na Ca] #[iV 9,iV d.n,iV d.seg,iV d.pos,.int .u8 d.turn,iV d.bat.cmd,.slice Ae ne Ce,.string t,iV d.ver];have eg:=Tryz.enters_noS;clear H hr;go_enter func11,ntmps11
 go_upto_region 1 with fail
 rw[←Af];clear Af;have Aj:=hd8 A1;have d0:=A1.dc.q0;clear A1;have An:s.segs≤40:=HJ.out.wf.segs;have A7:Hid (r=(s,⟨0,(Sto.eJ X s.disks s.segs 0 0:Nat),[],0,[]⟩)):=by
  show r=_;rw[←Ag.out];exact vQ hk
 clear hk Ag;go_wp2_with fail;go_loopw [25,26] (fun v25 v26 wr=> ∃(k m:Nat),k≤s.segs∧m≤k*12∧v26=iV k∧v25=iV m∧Hid (Sto.eJ X s.disks s.segs 0 0=Sto.eJ X s.disks (s.segs-k) k m)∧Hid (PJ w wr (stL c (.slice Ad nd Cd) s.segs (.slice At nt Ct) (.slice As ns Cs) s.u (.slice Aa na Ca)) (doL 9 d (.slice Ae ne Ce) t))) (fun _ x _=>s.segs-(intOf x).toNat)
 case atStart=>exact⟨0,0,c9D _,c9C _,rfl,rfl,rfl,Aj⟩
 case round=>
  obtain⟨k,m,hk,hm,rfl,rfl,HE,HP⟩:=hrel;obtain⟨a0,a1,a2,a3,a4,a5,a6,a7,a8⟩:=HP.out.st.c9;by_cases Ao:k<s.segs
  ·have Ah:(k:Int)<(s.segs:Int):=by omega
   obtain⟨q,hq⟩: ∃q,s.segs-k=q+1:=⟨s.segs-k-1,by omega⟩;have A5:=rE c.d c.s c.b s.segs s.u (.slice Ad nd Cd) (.slice At nt Ct) (.slice As ns Cs) (.slice Aa na Ca) s.disks (k:Int) wr (HJ.out.st.dk.below HP.out.bel) HJ.out.wf.n12 ⟨_,_,_,rfl⟩ ⟨_,_,_,rfl⟩ ⟨_,_,_,rfl⟩;have A0:(Sto.aJ s.disks (k:Int)).length≤12:=by
    unfold Sto.aJ;rw[c9M];exact HJ.out.wf.n12
   have A4:=hd8 fun v' w' hB=>a7O HJ.out.x v' _ k w' hB A0;have Ab:=c9E (pR HJ.out.x (Sto.aJ s.disks (k:Int)) k) A0;have A2:Hid (Sto.eJ X s.disks s.segs 0 0=Sto.eJ X s.disks (s.segs-(k+1)) (k+1) (m+(X.bad (Sto.aJ s.disks (k:Int)) k).length)):=by
    have e:s.segs-(k+1)=q:=by omega
    show Sto.eJ X s.disks s.segs 0 0=_;rw[HE.out,hq,e,Sto.eJ]
   generalize X.bad (Sto.aJ s.disks (k:Int)) k=bl at A4 Ab A2;obtain⟨z,hz⟩: ∃z,z=bl.length:=⟨_,rfl⟩;rw[←hz]at Ab A2;have HZ:=hd8 hz;clear hq HE A0 hz;go_wp2_with fail;refine A5.mono ?_;rintro e w2 ⟨v2,rfl,Ac,b2⟩;have A8:=A4.out v2 w2 Ac;clear A5 A4 Ac;go_wp2_with fail;refine A8.mono ?_;rintro e w3 ⟨v3,rfl,A6,b3⟩;obtain⟨A3,C3,e3,_⟩:=bI A6;rw[←HZ.out]at e3;subst e3;have Al:=hd8 ((HP.out.below b2).below b3);have Ak:m+z≤(k+1)*12:=by
    rw[d0F];omega
   have Aq:(k+1)*12≤40*12:=d1J _ (by omega);clear A8 HP b2 b3 A6 a0 a1 a2 a3 a4 a5 a6 a7 a8;go_wp2_with fail;exact⟨⟨k+1,m+z,by omega,Ak,by go_num,by go_num,A2,Al⟩,by simp[intOf];omega⟩
  ·have A9:k=s.segs:=by omega
   have Ap: ¬(k:Int)<(s.segs:Int):=by omega
   have Ai:Hid (r=(s,⟨0,(m:Int),[],0,[]⟩)):=by
    show r=_;rw[A7.out,HE.out,A9,d1L];rfl
   obtain⟨x0,x1,x2,x3,x4,x5,x6,x7,x8,p0,p1,p2,p3,p4,p5,p6,p7,p8,y0,y1,y2,y3,y4,q0,q1,q2,q3,q4⟩:=HP.out.res;have Am:=HP.out.bel;clear HP HE A7 A9;go_wp2_with fail;refine bodyPost_ret (v:=.tuple #[stA c.d c.s c.b (.slice Ad nd Cd) s.segs (.slice At nt Ct) (.slice As ns Cs) s.u (.slice Aa na Ca),.agg #[iV 0,iV m,nS,iV 0,nS]]) (by simp[results,results11,go_sem,x0,x1,x2,x3,x4,x5,x6,x7,x8,y0,y1,y2,y3,y4]) rfl ?_;rw[Ai.out];exact HJ.out.no (noB Am (by omega) (by omega) _ _ _ _ _ _ _ _ _ _ _ _ _ _) 0 m
end
section
variable {X : Sto.Six} {c : Sto.Cfg} {s : Sto.St} {d : Sto.Do} {T : Nat → Bool} {w : World} {Ad At As Aa Ae : Option Addr} {nd Cd nt Ct ns Cs na Ca ne Ce : Nat} {t : ByteArray}
theorem a3F(H:SJ X c s d T w Ad nd Cd At nt Ct As ns Cs Aa na Ca Ae ne Ce t)(hk:d.kind=6):
  Calls prog 11 #[.agg #[iV c.d,iV c.s,iV c.b,.slice Ad nd Cd,iV s.segs,.slice At nt Ct,.slice As ns Cs,iV s.u,.slice Aa na Ca],.agg #[iV 6,iV d.n,iV d.seg,iV d.pos,.int .u8 d.turn,iV d.bat.cmd,.slice Ae ne Ce,.string t,iV d.ver]] w fun e w'=>dL e T w w' c (Sto.step X c s d):=by
 have HJ:=hd8 H;obtain⟨r,hr⟩: ∃r,r=Sto.step X c s d:=⟨_,rfl⟩;have Ai:=hd8 hr.symm;rw[←hr];obtain⟨w1,B5,Aj⟩:=qQ w #[iV c.d,iV c.s,iV c.b,.slice Ad nd Cd,iV s.segs,.slice At nt Ct,.slice As ns Cs,iV s.u,.slice Aa na Ca] #[iV 6,iV d.n,iV d.seg,iV d.pos,.int .u8 d.turn,iV d.bat.cmd,.slice Ae ne Ce,.string t,iV d.ver];have eg:=Tryz.enters_noS;clear H hr;go_enter func11,ntmps11
 go_upto_region 1 with fail
 rw[←B5];clear B5;have A2:=hd8 Aj;have d0:=Aj.dc.q0;clear Aj;have Ak:nd=s.disks.length:=by
  obtain⟨A,C,q,_⟩:=HJ.out.st.dk;cases q
  rfl
 have Af:=hd8 Ak;have Bc:nd≤12:=by
  rw[Ak];exact HJ.out.wf.n12
 have Aw:Hid (Sto.step X c s d=Sto.nY s d):=j7 (by omega);obtain⟨a0,a1,a2,a3,a4,a5,a6,a7,a8⟩:=A2.out.st.c9;have d1:=A2.out.dc.q1;clear Ak;by_cases hb:d.n<0∨(nd:Int)≤d.n
 case pos=>
  have B0:Hid (Sto.step X c s d=(s,⟨6,0,[],0,[]⟩)):=by
   show Sto.step X c s d=_;rw[Aw.out];exact j9 (by rw[←Af.out];exact hb)
  have A9:=A2.out;by_cases h0:d.n<0
  ·clear hb;have Ac:=eL w.heap.size 6 c.d c.s c.b s.segs s.u Ad nd Cd At nt Ct As ns Cs Aa na Ca _ (A9).st;have Ah:=hd8 A9;have Am:Hid (r=(s,⟨6,0,[],0,[]⟩)):=by
    rw[←Ai.out];exact B0.out
   clear A9 A2 hk;go_wp2_with fail;refine Ac.mono ?_;rintro e wn ⟨rfl,bn⟩;have A8:=Ah.out.below bn;obtain⟨x0,x1,x2,x3,x4,x5,x6,x7,x8,p0,p1,p2,p3,p4,p5,p6,p7,p8,y0,y1,y2,y3,y4,q0,q1,q2,q3,q4⟩:=A8.res;have Aq:=A8.bel;clear Ac Ah A8 bn;go_wp2_with fail;refine bodyPost_ret (v:=.tuple #[stA c.d c.s c.b (.slice Ad nd Cd) s.segs (.slice At nt Ct) (.slice As ns Cs) s.u (.slice Aa na Ca),.agg #[iV 6,iV 0,nS,iV 0,nS]]) (by simp[results,results11,go_sem,x0,x1,x2,x3,x4,x5,x6,x7,x8,y0,y1,y2,y3,y4]) rfl ?_;rw[Am.out];exact HJ.out.no (noB Aq (by omega) (by omega) _ _ _ _ _ _ _ _ _ _ _ _ _ _) 6 0
  ·have h1:(nd:Int)≤d.n:=by omega
   clear hb;have Ac:=eL w.heap.size 6 c.d c.s c.b s.segs s.u Ad nd Cd At nt Ct As ns Cs Aa na Ca _ (A9).st;have Ah:=hd8 A9;have Am:Hid (r=(s,⟨6,0,[],0,[]⟩)):=by
    rw[←Ai.out];exact B0.out
   clear A9 A2 hk;go_wp2_with fail;refine Ac.mono ?_;rintro e wn ⟨rfl,bn⟩;have A8:=Ah.out.below bn;obtain⟨x0,x1,x2,x3,x4,x5,x6,x7,x8,p0,p1,p2,p3,p4,p5,p6,p7,p8,y0,y1,y2,y3,y4,q0,q1,q2,q3,q4⟩:=A8.res;have Aq:=A8.bel;clear Ac Ah A8 bn;go_wp2_with fail;refine bodyPost_ret (v:=.tuple #[stA c.d c.s c.b (.slice Ad nd Cd) s.segs (.slice At nt Ct) (.slice As ns Cs) s.u (.slice Aa na Ca),.agg #[iV 6,iV 0,nS,iV 0,nS]]) (by simp[results,results11,go_sem,x0,x1,x2,x3,x4,x5,x6,x7,x8,y0,y1,y2,y3,y4]) rfl ?_;rw[Am.out];exact HJ.out.no (noB Aq (by omega) (by omega) _ _ _ _ _ _ _ _ _ _ _ _ _ _) 6 0
 case neg=>
  obtain⟨m,hm⟩: ∃m:Nat,d.n=(m:Int):=⟨d.n.toNat,by omega⟩;have HM:=hd8 hm;rw[hm]at d1;have h0: ¬(m:Int)<0:=by omega
  have h1: ¬(nd:Int)≤(m:Int):=by omega
  have h2:(m:Int)<(nd:Int):=by omega
  have h3:m<nd:=by omega
  obtain⟨x,hx⟩: ∃x,s.disks[m]?=some x:=⟨s.disks[m]'(by rw[←Af.out];exact h3),c9F _⟩;have Ar:=hd8 hx;obtain⟨b,o,rfl,B4⟩: ∃b o,Ad=some (aD b o)∧w.cell? (aD b (o+m*2))=some (.bool x.gone):=by
   obtain⟨A,C,q,_,_,q3⟩:=HJ.out.st.dk;cases q
   obtain⟨b,o,e,v,c0,_⟩:=q3 m x hx;exact⟨b,o,e,c0⟩
  have Ax:=kL c.d c.s c.b s.segs s.u (.slice (some (aD b o)) nd Cd) (.slice At nt Ct) (.slice As ns Cs) (.slice Aa na Ca) s.disks w1 (HJ.out.st.dk.below A2.out.bel) HJ.out.wf.n1 HJ.out.wf.n12 (fun i d hd=>HJ.out.wf.bl hd) HJ.out.wf.len ⟨_,_,_,rfl⟩ ⟨_,_,_,rfl⟩ ⟨_,_,_,rfl⟩;clear hb hm hx;go_wp2_with fail;refine Ax.mono ?_;rintro e w9 ⟨D,C,V,U,rfl,Az,Ay,B3,b9⟩;rw[←Af.out]at Az⊢;have bT:=aB8 w9 (.cells #[iV c.d,iV c.s,iV c.b,.slice (some (aD D 0)) nd C,iV s.segs,.slice At nt Ct,.slice As ns Cs,iV s.u,.slice Aa na Ca] 32);have VT:=aC w9 #[iV c.d,iV c.s,iV c.b,.slice (some (aD D 0)) nd C,iV s.segs,.slice At nt Ct,.slice As ns Cs,iV s.u,.slice Aa na Ca] 32;have A0:=B3.below bT;have A7:=bt b9 bT;have Av:w1.heap.size≤w9.heap.size:=b9.size;have B9:=mL8 Ay;clear Ax B3 b9 bT a0 a1 a2 a3 a4 a5 a6 a7 a8 d1;go_upto_region 34 with fail
  obtain⟨An,Ab⟩: ∃q,q=w9.alloc (.cells #[iV c.d,iV c.s,iV c.b,.slice (some (aD D 0)) nd C,iV s.segs,.slice At nt Ct,.slice As ns Cs,iV s.u,.slice Aa na Ca] 32):=⟨_,rfl⟩;rw[←Ab]at VT A0 A7⊢;obtain⟨QT,Ap⟩: ∃q,q=w9.heap.size:=⟨_,rfl⟩;rw[←Ap]at VT⊢;have Be:w1.heap.size≤QT:=by rw[Ap];exact Av
  have A1:=hd8 (A2.out.below A7);have Ao:=hd8 A2.out.size;have A4:=hd8 A0;have B2:=hd8 VT;have B6:QT≠D:=VT.ty.ne A0.row.ty (by decide);have B7:=fun e=>B6 e.symm;have d0:=A1.out.dc.q0;have d1:=A1.out.dc.q1;have a3:=A1.out.st.q3;rw[HM.out]at d1;have cg:=fB.of_below A1.out.bel _ _ B4;have t3:=VT.q3;clear VT A0 A7 Av Ab Ap A2 B4;have g0:=A4.out.gone Ar.out;have g1:=A4.out.held (i:=m) (by rw[←Af.out];exact h3);have f0:=A4.out.row.frozen (m*2);have f1:=A4.out.row.frozen (m*2+1);go_upto_region 38 with fail
  obtain⟨B1,A3⟩: ∃q,q=((An.setCell (aD D (m*2)) (.bool false)).setCell (aD D (m*2+1)) nS):=⟨_,rfl⟩;rw[←A3];have A6:=A4.out.swap Ar.out false;rw[←A3]at A6;have Al:Off (fun q=>q=D) An B1:=by
   rw[A3];exact(aG An (aD D (m*2)) _).trans (aG _ (aD D (m*2+1)) _)
  have Bb:=A4.out.ge
  have A5:=A1.out.off Al (fun q hq=>by
   have hq:q=D:=hq;have:=Ao.out
   omega)
  have Ag:=B2.out.off Al B6;have Ba:Hid (∀wE,Off (fun q=>q=w.heap.size+1+1∨q=w.heap.size+1+1+1) B1 wE→dL (.returned (.tuple #[stA c.d c.s c.b (.slice (some (aD D 0)) nd C) s.segs (.slice At nt Ct) (.slice As ns Cs) s.u (.slice Aa na Ca),.agg #[iV 0,iV 0,nS,iV 0,nS]])) T w wE c r):=fun wE ho=>by
   rw[←Ai.out,Aw.out,a0W hk HM.out Ar.out];exact HJ.out.disks A5.bel A6 ho Ao.out (by rw[d0B];exact Af.out) Az Ay 0 0
  obtain⟨a0,a1,a2,a3,a4,a5,a6,a7,a8⟩:=Ag.c9;obtain⟨x0,x1,x2,x3,x4,x5,x6,x7,x8,p0,p1,p2,p3,p4,p5,p6,p7,p8,y0,y1,y2,y3,y4,q0,q1,q2,q3,q4⟩:=A5.res;have Au: ¬QT=w.heap.size+1+1:=by
   have:=Ao.out;omega
  have B8:=fun e=>Au e.symm;clear A3 A6 Al A5 Ag g0 g1 f0 f1 A4 B2 A1 Ai d0 d1 cg t3;go_wp2_with fail;exact bodyPost_ret (by simp[results,results11,go_sem,x0,x1,x2,x3,x4,x5,x6,x7,x8,y0,y1,y2,y3,y4]) rfl (Ba.out _ (zF _ _ _ _ _ _ _ _ _ _ _ _ _ _ _ _ _))
theorem a4F(H:SJ X c s d T w Ad nd Cd At nt Ct As ns Cs Aa na Ca Ae ne Ce t)(hk:d.kind=5):
  Calls prog 11 #[.agg #[iV c.d,iV c.s,iV c.b,.slice Ad nd Cd,iV s.segs,.slice At nt Ct,.slice As ns Cs,iV s.u,.slice Aa na Ca],.agg #[iV 5,iV d.n,iV d.seg,iV d.pos,.int .u8 d.turn,iV d.bat.cmd,.slice Ae ne Ce,.string t,iV d.ver]] w fun e w'=>dL e T w w' c (Sto.step X c s d):=by
 have HJ:=hd8 H;obtain⟨r,hr⟩: ∃r,r=Sto.step X c s d:=⟨_,rfl⟩;have Am:=hd8 hr.symm;rw[←hr];obtain⟨w1,B8,Ap⟩:=qQ w #[iV c.d,iV c.s,iV c.b,.slice Ad nd Cd,iV s.segs,.slice At nt Ct,.slice As ns Cs,iV s.u,.slice Aa na Ca] #[iV 5,iV d.n,iV d.seg,iV d.pos,.int .u8 d.turn,iV d.bat.cmd,.slice Ae ne Ce,.string t,iV d.ver];have eg:=Tryz.enters_noS;clear H hr;go_enter func11,ntmps11
 go_upto_region 1 with fail
 rw[←B8];clear B8;have A3:=hd8 Ap;have d0:=Ap.dc.q0;clear Ap;have Aq:nd=s.disks.length:=by
  obtain⟨A,C,q,_⟩:=HJ.out.st.dk;cases q
  rfl
 have Aj:=hd8 Aq;have Bg:nd≤12:=by
  rw[Aq];exact HJ.out.wf.n12
 have Au:Hid (Sto.step X c s d=Sto.nY s d):=j7 (by omega);obtain⟨a0,a1,a2,a3,a4,a5,a6,a7,a8⟩:=A3.out.st.c9;have d1:=A3.out.dc.q1;clear Aq;by_cases hb:d.n<0∨(nd:Int)≤d.n
 case pos=>
  have An:Hid (Sto.step X c s d=(s,⟨6,0,[],0,[]⟩)):=by
   show Sto.step X c s d=_;rw[Au.out];exact j9 (by rw[←Aj.out];exact hb)
  have Af:=A3.out;by_cases h0:d.n<0
  ·clear hb;have A5:=eL w.heap.size 6 c.d c.s c.b s.segs s.u Ad nd Cd At nt Ct As ns Cs Aa na Ca _ (Af).st;have A7:=hd8 Af;have Ai:Hid (r=(s,⟨6,0,[],0,[]⟩)):=by
    rw[←Am.out];exact An.out
   clear Af A3 hk;go_wp2_with fail;refine A5.mono ?_;rintro e wn ⟨rfl,bn⟩;have A2:=A7.out.below bn;obtain⟨x0,x1,x2,x3,x4,x5,x6,x7,x8,p0,p1,p2,p3,p4,p5,p6,p7,p8,y0,y1,y2,y3,y4,q0,q1,q2,q3,q4⟩:=A2.res;have Ak:=A2.bel;clear A5 A7 A2 bn;go_wp2_with fail;refine bodyPost_ret (v:=.tuple #[stA c.d c.s c.b (.slice Ad nd Cd) s.segs (.slice At nt Ct) (.slice As ns Cs) s.u (.slice Aa na Ca),.agg #[iV 6,iV 0,nS,iV 0,nS]]) (by simp[results,results11,go_sem,x0,x1,x2,x3,x4,x5,x6,x7,x8,y0,y1,y2,y3,y4]) rfl ?_;rw[Ai.out];exact HJ.out.no (noB Ak (by omega) (by omega) _ _ _ _ _ _ _ _ _ _ _ _ _ _) 6 0
  ·have h1:(nd:Int)≤d.n:=by omega
   clear hb;have A5:=eL w.heap.size 6 c.d c.s c.b s.segs s.u Ad nd Cd At nt Ct As ns Cs Aa na Ca _ (Af).st;have A7:=hd8 Af;have Ai:Hid (r=(s,⟨6,0,[],0,[]⟩)):=by
    rw[←Am.out];exact An.out
   clear Af A3 hk;go_wp2_with fail;refine A5.mono ?_;rintro e wn ⟨rfl,bn⟩;have A2:=A7.out.below bn;obtain⟨x0,x1,x2,x3,x4,x5,x6,x7,x8,p0,p1,p2,p3,p4,p5,p6,p7,p8,y0,y1,y2,y3,y4,q0,q1,q2,q3,q4⟩:=A2.res;have Ak:=A2.bel;clear A5 A7 A2 bn;go_wp2_with fail;refine bodyPost_ret (v:=.tuple #[stA c.d c.s c.b (.slice Ad nd Cd) s.segs (.slice At nt Ct) (.slice As ns Cs) s.u (.slice Aa na Ca),.agg #[iV 6,iV 0,nS,iV 0,nS]]) (by simp[results,results11,go_sem,x0,x1,x2,x3,x4,x5,x6,x7,x8,y0,y1,y2,y3,y4]) rfl ?_;rw[Ai.out];exact HJ.out.no (noB Ak (by omega) (by omega) _ _ _ _ _ _ _ _ _ _ _ _ _ _) 6 0
 case neg=>
  obtain⟨m,hm⟩: ∃m:Nat,d.n=(m:Int):=⟨d.n.toNat,by omega⟩;have HM:=hd8 hm;rw[hm]at d1;have h0: ¬(m:Int)<0:=by omega
  have h1: ¬(nd:Int)≤(m:Int):=by omega
  have h2:(m:Int)<(nd:Int):=by omega
  have h3:m<nd:=by omega
  obtain⟨x,hx⟩: ∃x,s.disks[m]?=some x:=⟨s.disks[m]'(by rw[←Aj.out];exact h3),c9F _⟩;have Ao:=hd8 hx;obtain⟨b,o,rfl,B7⟩: ∃b o,Ad=some (aD b o)∧w.cell? (aD b (o+m*2))=some (.bool x.gone):=by
   obtain⟨A,C,q,_,_,q3⟩:=HJ.out.st.dk;cases q
   obtain⟨b,o,e,v,c0,_⟩:=q3 m x hx;exact⟨b,o,e,c0⟩
  have B1:=kL c.d c.s c.b s.segs s.u (.slice (some (aD b o)) nd Cd) (.slice At nt Ct) (.slice As ns Cs) (.slice Aa na Ca) s.disks w1 (HJ.out.st.dk.below A3.out.bel) HJ.out.wf.n1 HJ.out.wf.n12 (fun i d hd=>HJ.out.wf.bl hd) HJ.out.wf.len ⟨_,_,_,rfl⟩ ⟨_,_,_,rfl⟩ ⟨_,_,_,rfl⟩;clear hb hm hx;go_wp2_with fail;refine B1.mono ?_;rintro e w9 ⟨D,C,V,U,rfl,B3,B2,B6,b9⟩;rw[←Aj.out]at B3⊢;have bT:=aB8 w9 (.cells #[iV c.d,iV c.s,iV c.b,.slice (some (aD D 0)) nd C,iV s.segs,.slice At nt Ct,.slice As ns Cs,iV s.u,.slice Aa na Ca] 32);have VT:=aC w9 #[iV c.d,iV c.s,iV c.b,.slice (some (aD D 0)) nd C,iV s.segs,.slice At nt Ct,.slice As ns Cs,iV s.u,.slice Aa na Ca] 32;have A1:=B6.below bT;have Ac:=bt b9 bT;have B0:w1.heap.size≤w9.heap.size:=b9.size;have Bc:=mL8 B2;clear B1 B6 b9 bT a0 a1 a2 a3 a4 a5 a6 a7 a8 d1;go_upto_region 34 with fail
  obtain⟨Av,Ah⟩: ∃q,q=w9.alloc (.cells #[iV c.d,iV c.s,iV c.b,.slice (some (aD D 0)) nd C,iV s.segs,.slice At nt Ct,.slice As ns Cs,iV s.u,.slice Aa na Ca] 32):=⟨_,rfl⟩;rw[←Ah]at VT A1 Ac⊢;obtain⟨QT,Ay⟩: ∃q,q=w9.heap.size:=⟨_,rfl⟩;rw[←Ay]at VT⊢;have Bh:w1.heap.size≤QT:=by rw[Ay];exact B0
  have A0:=hd8 (A3.out.below Ac);have Aw:=hd8 A3.out.size;have A6:=hd8 A1;have Ax:=hd8 VT;have B9:QT≠D:=VT.ty.ne A1.row.ty (by decide);have Ba:=fun e=>B9 e.symm;have d0:=A0.out.dc.q0;have d1:=A0.out.dc.q1;have a3:=A0.out.st.q3;rw[HM.out]at d1;have cg:=fB.of_below A0.out.bel _ _ B7;have t3:=VT.q3;clear VT A1 Ac B0 Ah Ay A3 B7;obtain⟨gn,Ag⟩: ∃gn,gn=x.gone:=⟨_,rfl⟩;rw[←Ag]at cg;cases gn with
  |true=>
   have An:Hid (Sto.step X c s d=(s,⟨8,0,[],0,[]⟩)):=by
    show Sto.step X c s d=_;rw[Au.out,tP hk HM.out Ao.out,if_pos Ag.symm,if_pos Ag.symm]
   have A8:=A0.out;have A5:=eL w.heap.size 8 c.d c.s c.b s.segs s.u (some (aD b o)) nd Cd At nt Ct As ns Cs Aa na Ca _ (A8).st;have A7:=hd8 A8;have Ai:Hid (r=(s,⟨8,0,[],0,[]⟩)):=by
    rw[←Am.out];exact An.out
   clear A8 A0 hk Ag A6 Ax;go_wp2_with fail;refine A5.mono ?_;rintro e wn ⟨rfl,bn⟩;have A2:=A7.out.below bn;obtain⟨x0,x1,x2,x3,x4,x5,x6,x7,x8,p0,p1,p2,p3,p4,p5,p6,p7,p8,y0,y1,y2,y3,y4,q0,q1,q2,q3,q4⟩:=A2.res;have Ak:=A2.bel;clear A5 A7 A2 bn;go_wp2_with fail;refine bodyPost_ret (v:=.tuple #[stA c.d c.s c.b (.slice (some (aD b o)) nd Cd) s.segs (.slice At nt Ct) (.slice As ns Cs) s.u (.slice Aa na Ca),.agg #[iV 8,iV 0,nS,iV 0,nS]]) (by simp[results,results11,go_sem,x0,x1,x2,x3,x4,x5,x6,x7,x8,y0,y1,y2,y3,y4]) rfl ?_;rw[Ai.out];exact HJ.out.no (noB Ak (by omega) (by omega) _ _ _ _ _ _ _ _ _ _ _ _ _ _) 8 0
  |false=>
   have B5:=hd8 Ag.symm;clear Ag;have g0:=A6.out.gone Ao.out;have g1:=A6.out.held (i:=m) (by rw[←Aj.out];exact h3);have f0:=A6.out.row.frozen (m*2);have f1:=A6.out.row.frozen (m*2+1);go_upto_region 38 with fail
   obtain⟨B4,A4⟩: ∃q,q=((Av.setCell (aD D (m*2)) (.bool true)).setCell (aD D (m*2+1)) nS):=⟨_,rfl⟩;rw[←A4];have Ab:=A6.out.swap Ao.out true;rw[←A4]at Ab;have Ar:Off (fun q=>q=D) Av B4:=by
    rw[A4];exact(aG Av (aD D (m*2)) _).trans (aG _ (aD D (m*2+1)) _)
   have Bf:=A6.out.ge
   have A9:=A0.out.off Ar (fun q hq=>by
    have hq:q=D:=hq;have:=Aw.out
    omega)
   have Al:=Ax.out.off Ar B9;have Be:Hid (∀wE,Off (fun q=>q=w.heap.size+1+1∨q=w.heap.size+1+1+1) B4 wE→dL (.returned (.tuple #[stA c.d c.s c.b (.slice (some (aD D 0)) nd C) s.segs (.slice At nt Ct) (.slice As ns Cs) s.u (.slice Aa na Ca),.agg #[iV 0,iV 0,nS,iV 0,nS]])) T w wE c r):=fun wE ho=>by
    rw[←Am.out,Au.out,tP hk HM.out Ao.out,if_neg (by rw[B5.out];decide),if_neg (by rw[B5.out];decide)];exact HJ.out.disks A9.bel Ab ho Aw.out (by rw[d0B];exact Aj.out) B3 B2 0 0
   obtain⟨a0,a1,a2,a3,a4,a5,a6,a7,a8⟩:=Al.c9;obtain⟨x0,x1,x2,x3,x4,x5,x6,x7,x8,p0,p1,p2,p3,p4,p5,p6,p7,p8,y0,y1,y2,y3,y4,q0,q1,q2,q3,q4⟩:=A9.res;have Az: ¬QT=w.heap.size+1+1:=by
    have:=Aw.out;omega
   have Bb:=fun e=>Az e.symm;clear A4 Ab Ar A9 Al g0 g1 f0 f1 A6 Ax A0 Am d0 d1 cg t3;go_wp2_with fail;exact bodyPost_ret (by simp[results,results11,go_sem,x0,x1,x2,x3,x4,x5,x6,x7,x8,y0,y1,y2,y3,y4]) rfl (Be.out _ (zF _ _ _ _ _ _ _ _ _ _ _ _ _ _ _ _ _))
end
section
variable {X : Sto.Six} {c : Sto.Cfg} {s : Sto.St} {d : Sto.Do} {T : Nat → Bool} {w : World} {Ad At As Aa Ae : Option Addr} {nd Cd nt Ct ns Cs na Ca ne Ce : Nat} {t : ByteArray}
theorem a3D(H:SJ X c s d T w Ad nd Cd At nt Ct As ns Cs Aa na Ca Ae ne Ce t)(hk:d.kind=4):
  Calls prog 11 #[.agg #[iV c.d,iV c.s,iV c.b,.slice Ad nd Cd,iV s.segs,.slice At nt Ct,.slice As ns Cs,iV s.u,.slice Aa na Ca],.agg #[iV 4,iV d.n,iV d.seg,iV d.pos,.int .u8 d.turn,iV d.bat.cmd,.slice Ae ne Ce,.string t,iV d.ver]] w fun e w'=>dL e T w w' c (Sto.step X c s d):=by
 have HJ:=hd8 H;obtain⟨r,hr⟩: ∃r,r=Sto.step X c s d:=⟨_,rfl⟩;have Aj:Hid (Sto.step X c s d=r):=hr.symm;rw[←hr];obtain⟨w1,Ax,Ab⟩:=qQ w #[iV c.d,iV c.s,iV c.b,.slice Ad nd Cd,iV s.segs,.slice At nt Ct,.slice As ns Cs,iV s.u,.slice Aa na Ca] #[iV 4,iV d.n,iV d.seg,iV d.pos,.int .u8 d.turn,iV d.bat.cmd,.slice Ae ne Ce,.string t,iV d.ver];have eg:=Tryz.enters_noS;clear H hr;go_enter func11,ntmps11
 go_upto_region 1 with fail
 rw[←Ax];clear Ax;have A4:=hd8 Ab;have d0:=Ab.dc.q0;clear Ab;have A9:=rJ HJ.out.x c s (.slice Ad nd Cd) (.slice At nt Ct) (.slice As ns Cs) (.slice Aa na Ca) w1 (HJ.out.st.sub (fB.of_below A4.out.bel)) HJ.out.wf;obtain⟨x,l,Ak⟩: ∃x l,Sto.all X c s=(x,l):=⟨_,_,rfl⟩;have A6:Hid (Sto.step X c s d=(s,lS (x,l) (nR l))):=by
  show Sto.step X c s d=_;rw[a0X hk,Ak]
 rw[Ak]at A9;obtain⟨a0,a1,a2,a3,a4,a5,a6,a7,a8⟩:=A4.out.st.c9;clear Ak;go_wp2_with fail;refine A9.mono ?_;rintro e w2 ⟨hA,b2⟩;obtain⟨v,es,he,Ay,hB,B7⟩: ∃(v:Value) (es:List EvC),e=Ending.returned (.tuple #[v,iV x])∧es.map aZ=l∧cG w2 w1.heap.size v es∧es.length≤200000:=hA;subst he;have A3:Hid (PJ w w2 (stL c (.slice Ad nd Cd) s.segs (.slice At nt Ct) (.slice As ns Cs) s.u (.slice Aa na Ca)) (doL 4 d (.slice Ae ne Ce) t)):=A4.out.below b2;have A0:=hd8 A4.out.size;have Az:Hid (∀k,T k=true→k<w1.heap.size):=fun k z=>by
  have:=HJ.out.low k z;have:=A0.out;omega
 have A2:=hd8 hB;have B1:=hd8 Ay;have Ar:w1.heap.size≤w2.heap.size:=b2.size;clear A9 a0 a1 a2 a3 a4 a5 a6 a7 a8 hB Ay A4 d0 b2;by_cases hx:x=0
 case neg=>
  have A8:((x:Int)==0)=false:=by rw[beq_eq_false_iff_ne];omega
  have B4:((x:Int) !=0)=true:=by rw[bne,A8];rfl
  have A5:Hid (Sto.step X c s d=(s,⟨x,0,[],0,[]⟩)):=by
   show Sto.step X c s d=_;rw[A6.out];unfold lS;rw[if_pos hx];rfl
  have Ai:=A3.out;obtain⟨A,C,hv⟩:=A2.out.shape;subst hv;have An:=eL w.heap.size x c.d c.s c.b s.segs s.u Ad nd Cd At nt Ct As ns Cs Aa na Ca _ (Ai).st;have Aw:=hd8 Ai;have B0:Hid (r=(s,⟨x,0,[],0,[]⟩)):=by
   rw[←Aj.out];exact A5.out
  clear Ai A3 hk hx A2 A6;go_wp2_with fail;refine An.mono ?_;rintro e wn ⟨rfl,bn⟩;have Ah:=Aw.out.below bn;obtain⟨x0,x1,x2,x3,x4,x5,x6,x7,x8,p0,p1,p2,p3,p4,p5,p6,p7,p8,y0,y1,y2,y3,y4,q0,q1,q2,q3,q4⟩:=Ah.res;have B5:=Ah.bel;clear An Aw Ah bn;go_wp2_with fail;refine bodyPost_ret (v:=.tuple #[stA c.d c.s c.b (.slice Ad nd Cd) s.segs (.slice At nt Ct) (.slice As ns Cs) s.u (.slice Aa na Ca),.agg #[iV x,iV 0,nS,iV 0,nS]]) (by simp[results,results11,go_sem,x0,x1,x2,x3,x4,x5,x6,x7,x8,y0,y1,y2,y3,y4]) rfl ?_;rw[B0.out];exact HJ.out.no (noB B5 (by omega) (by omega) _ _ _ _ _ _ _ _ _ _ _ _ _ _) x 0
 case pos=>
  have A8:((x:Int)==0)=true:=by rw[hx];rfl
  have B4:((x:Int) !=0)=false:=by rw[bne,A8];rfl
  have A5:Hid (Sto.step X c s d=(s,nR l)):=by
   show Sto.step X c s d=_;rw[A6.out];unfold lS;rw[if_neg (fun z=>z hx)]
  clear A6 hx hk;obtain⟨A,C,hv⟩:=A2.out.shape;subst hv;have d0:=A3.out.dc.q0;have A7:=wI 0 nS _ [] l w2 (bJ.nil _) (by rw[←B1.out];exact A2.out.evs);have Ag:Hid (nR l=⟨(Vw.cD 0 [] l).1.1,(Vw.cD 0 [] l).2.1,[],(Vw.cD 0 [] l).2.1,(Vw.cD 0 [] l).2.2⟩):=rfl;obtain⟨fo,Al⟩: ∃q,q=Vw.cD 0 [] l:=⟨_,rfl⟩;rw[←Al]at A7 Ag;obtain⟨⟨E4,i4⟩,u4,l4⟩:=fo;unfold FoR jQ at A7;have B6:Hid (r=(s,⟨E4,u4,[],u4,l4⟩)):=by
   show r=_;rw[←Aj.out,A5.out,Ag.out]
  clear A5 Ag Al Aj;go_wp2_with fail;refine A7.mono ?_;rintro e w7 ⟨⟨v7,rfl,Ac,Ao⟩,b7⟩;obtain⟨Av,nv,Cv,rfl⟩:=dT Ac;have Au:Hid (kF w1.heap.size (.slice Av nv Cv)∨(Value.slice Av nv Cv=nS∧l4=[])):=Ao.imp (fun z=>z.mono Ar) id;have bV:Bl w7 (w7.alloc (.cells #[iV u4,.slice Av nv Cv] 30)):=(Below.refl _ _).alloc (c9C _) _;have bW:Bl (w7.alloc (.cells #[iV u4,.slice Av nv Cv] 30)) ((w7.alloc (.cells #[iV u4,.slice Av nv Cv] 30)).alloc (.cells #[iV E4,iV i4] 78)):=(Below.refl _ _).alloc (c9C _) _;have VV:=(aC w7 #[iV u4,.slice Av nv Cv] 30).below bW;have VF:=aC (w7.alloc (.cells #[iV u4,.slice Av nv Cv] 30)) #[iV E4,iV i4] 78;have Am:(w7.alloc (.cells #[iV u4,.slice Av nv Cv] 30)).heap.size=w7.heap.size+1:=d2K _;rw[Am]at VF;have Af:=(Ac.below bV).below bW;have A1:=((A3.out.below b7).below bV).below bW;have B3:w2.heap.size≤w7.heap.size:=b7.size;clear A7 A3 b7 bV bW Am Ac Ao d0;go_upto_region 13 with fail
  obtain⟨w8,Ap⟩: ∃q,q=(w7.alloc (.cells #[iV u4,.slice Av nv Cv] 30)).alloc (.cells #[iV E4,iV i4] 78):=⟨_,rfl⟩;rw[←Ap]at VV VF Af A1⊢;obtain⟨QV,Aq⟩: ∃q,q=w7.heap.size:=⟨_,rfl⟩;rw[←Aq]at VV VF⊢;have v0:=VV.q0;have v1:=VV.q1;have f0:=VF.q0;obtain⟨a0,a1,a2,a3,a4,a5,a6,a7,a8⟩:=A1.st.c9;obtain⟨x0,x1,x2,x3,x4,x5,x6,x7,x8,p0,p1,p2,p3,p4,p5,p6,p7,p8,y0,y1,y2,y3,y4,q0,q1,q2,q3,q4⟩:=A1.res;have B2:Hid (∀wE,Off (fun q=>q=w.heap.size+1+1∨q=w.heap.size+1+1+1) w8 wE→dL (.returned (.tuple #[stA c.d c.s c.b (.slice Ad nd Cd) s.segs (.slice At nt Ct) (.slice As ns Cs) s.u (.slice Aa na Ca),.agg #[iV E4,iV u4,nS,iV u4,.slice Av nv Cv]])) T w wE c r):=fun wE ho=>by
   rw[B6.out];refine HJ.out.same (a:=⟨E4,u4,[],u4,l4⟩) (A1.bel.trans (ho.below A1.bel.size fun q z=>by omega)) (kA _) ?_;rcases Au.out with z|⟨z,z'⟩
   ·refine Af.off ((ho.wider fun _ z=>Or.inl z).trans ((jD T wE).wider fun _ z=>Or.inr z)) fun g hg y=>?_;have h1:=z g hg;have h2:=A0.out;rcases y with(y|y)|y
    ·omega
    ·omega
    ·have:=Az.out g y;omega
   ·rw[z];show bJ (aS T wE) _ l4;rw[z'];exact bJ.nil _
  have q1: ¬QV=w.heap.size+1+1:=by have:=A0.out;omega
  have q2: ¬QV=w.heap.size+1+1+1:=by have:=A0.out;omega
  have q3: ¬QV+1=w.heap.size+1+1:=by have:=A0.out;omega
  have q4: ¬QV+1=w.heap.size+1+1+1:=by have:=A0.out;omega
  clear Ap Aq Af A1 VV VF Au A2 B3 Ar;go_region
  go_wp2_with fail;exact bodyPost_ret (by simp[results,results11,go_sem,x0,x1,x2,x3,x4,x5,x6,x7,x8,y0,y1,y2,y3,y4]) rfl (B2.out _ (a1A _ _ _ _ _ _ _ _ _ _ _ _ _ _ _ _ _))
end
section
variable {X : Sto.Six} {c : Sto.Cfg} {s : Sto.St} {d : Sto.Do} {T : Nat → Bool} {w : World} {Ad At As Aa Ae : Option Addr} {nd Cd nt Ct ns Cs na Ca ne Ce : Nat} {t : ByteArray}
theorem a5R(H:SJ X c s d T w Ad nd Cd At nt Ct As ns Cs Aa na Ca Ae ne Ce t)(hk:d.kind=3):
  Calls prog 11 #[.agg #[iV c.d,iV c.s,iV c.b,.slice Ad nd Cd,iV s.segs,.slice At nt Ct,.slice As ns Cs,iV s.u,.slice Aa na Ca],.agg #[iV 3,iV d.n,iV d.seg,iV d.pos,.int .u8 d.turn,iV d.bat.cmd,.slice Ae ne Ce,.string t,iV d.ver]] w fun e w'=>dL e T w w' c (Sto.step X c s d):=by
 have HJ:=hd8 H;obtain⟨r,hr⟩: ∃r,r=Sto.step X c s d:=⟨_,rfl⟩;have Ab:=hd8 hr.symm;rw[←hr];obtain⟨w1,Ar,Al⟩:=qQ w #[iV c.d,iV c.s,iV c.b,.slice Ad nd Cd,iV s.segs,.slice At nt Ct,.slice As ns Cs,iV s.u,.slice Aa na Ca] #[iV 3,iV d.n,iV d.seg,iV d.pos,.int .u8 d.turn,iV d.bat.cmd,.slice Ae ne Ce,.string t,iV d.ver];have eg:=Tryz.enters_noS;clear H hr;go_enter func11,ntmps11
 go_upto_region 1 with fail
 rw[←Ar];clear Ar;have Af:=hd8 Al;have d0:=Al.dc.q0;clear Al;have Ak:=rJ HJ.out.x c s (.slice Ad nd Cd) (.slice At nt Ct) (.slice As ns Cs) (.slice Aa na Ca) w1 (HJ.out.st.sub (fB.of_below Af.out.bel)) HJ.out.wf;obtain⟨x,l,Am⟩: ∃x l,Sto.all X c s=(x,l):=⟨_,_,rfl⟩;have Ai:Hid (Sto.step X c s d=(s,lS (x,l) (gK l d.n))):=by
  show Sto.step X c s d=_;rw[a8M hk,Am]
 rw[Am]at Ak;obtain⟨a0,a1,a2,a3,a4,a5,a6,a7,a8⟩:=Af.out.st.c9;clear Am;go_wp2_with fail;refine Ak.mono ?_;rintro e w2 ⟨hA,b2⟩;obtain⟨v,es,he,Au,hB,Ap⟩: ∃(v:Value) (es:List EvC),e=Ending.returned (.tuple #[v,iV x])∧es.map aZ=l∧cG w2 w1.heap.size v es∧es.length≤200000:=hA;subst he;have A1:=hd8 (Af.out.below b2);have Ao:=hd8 Af.out.size;have Az:Hid (∀k,T k=true→k<w1.heap.size):=fun k z=>by
  have:=HJ.out.low k z;have:=Ao.out;omega
 have A2:=hd8 hB;have Aq:=hd8 Au;have B6:w1.heap.size≤w2.heap.size:=b2.size;clear Ak a0 a1 a2 a3 a4 a5 a6 a7 a8 hB Au Af d0 b2;by_cases hx:x=0
 case neg=>
  have Aj:((x:Int)==0)=false:=by rw[beq_eq_false_iff_ne];omega
  have B0:((x:Int) !=0)=true:=by rw[bne,Aj];rfl
  have A4:Hid (Sto.step X c s d=(s,⟨x,0,[],0,[]⟩)):=by
   show Sto.step X c s d=_;rw[Ai.out];unfold lS;rw[if_pos hx];rfl
  have A0:=A1.out;obtain⟨A,C,hv⟩:=A2.out.shape;subst hv;have A7:=eL w.heap.size x c.d c.s c.b s.segs s.u Ad nd Cd At nt Ct As ns Cs Aa na Ca _ (A0).st;have A8:=hd8 A0;have Ac:Hid (r=(s,⟨x,0,[],0,[]⟩)):=by
   rw[←Ab.out];exact A4.out
  clear A0 A1 hk hx A2 Ai;go_wp2_with fail;refine A7.mono ?_;rintro e wn ⟨rfl,bn⟩;have A3:=A8.out.below bn;obtain⟨x0,x1,x2,x3,x4,x5,x6,x7,x8,p0,p1,p2,p3,p4,p5,p6,p7,p8,y0,y1,y2,y3,y4,q0,q1,q2,q3,q4⟩:=A3.res;have Ah:=A3.bel;clear A7 A8 A3 bn;go_wp2_with fail;refine bodyPost_ret (v:=.tuple #[stA c.d c.s c.b (.slice Ad nd Cd) s.segs (.slice At nt Ct) (.slice As ns Cs) s.u (.slice Aa na Ca),.agg #[iV x,iV 0,nS,iV 0,nS]]) (by simp[results,results11,go_sem,x0,x1,x2,x3,x4,x5,x6,x7,x8,y0,y1,y2,y3,y4]) rfl ?_;rw[Ac.out];exact HJ.out.no (noB Ah (by omega) (by omega) _ _ _ _ _ _ _ _ _ _ _ _ _ _) x 0
 case pos=>
  have Aj:((x:Int)==0)=true:=by rw[hx];rfl
  have B0:((x:Int) !=0)=false:=by rw[bne,Aj];rfl
  have A4:Hid (Sto.step X c s d=(s,gK l d.n)):=by
   show Sto.step X c s d=_;rw[Ai.out];unfold lS;rw[if_neg (fun z=>z hx)]
  clear Ai hx hk;have d0:=A1.out.dc.q0;have d1:=A1.out.dc.q1;obtain⟨L,hL⟩: ∃L,L=es.length:=⟨_,rfl⟩;have A5:l.length=L:=by rw[←Aq.out,c9M,hL]
  by_cases q:d.n<0∨(L:Int)<d.n
  case pos=>
   have A4:Hid (Sto.step X c s d=(s,⟨3,0,[],0,[]⟩)):=by
    show Sto.step X c s d=_;rw[A4.out];unfold gK;rw[A5,if_pos q];rfl
   have A0:=A1.out;obtain⟨A,C,hv⟩:=A2.out.shape;rw[←hL]at hv;subst hv;by_cases q0:d.n<0
   ·clear q;have A7:=eL w.heap.size 3 c.d c.s c.b s.segs s.u Ad nd Cd At nt Ct As ns Cs Aa na Ca _ (A0).st;have A8:=hd8 A0;have Ac:Hid (r=(s,⟨3,0,[],0,[]⟩)):=by
     rw[←Ab.out];exact A4.out
    clear A0 A1 A2 hL A5;go_wp2_with fail;refine A7.mono ?_;rintro e wn ⟨rfl,bn⟩;have A3:=A8.out.below bn;obtain⟨x0,x1,x2,x3,x4,x5,x6,x7,x8,p0,p1,p2,p3,p4,p5,p6,p7,p8,y0,y1,y2,y3,y4,q0,q1,q2,q3,q4⟩:=A3.res;have Ah:=A3.bel;clear A7 A8 A3 bn;go_wp2_with fail;refine bodyPost_ret (v:=.tuple #[stA c.d c.s c.b (.slice Ad nd Cd) s.segs (.slice At nt Ct) (.slice As ns Cs) s.u (.slice Aa na Ca),.agg #[iV 3,iV 0,nS,iV 0,nS]]) (by simp[results,results11,go_sem,x0,x1,x2,x3,x4,x5,x6,x7,x8,y0,y1,y2,y3,y4]) rfl ?_;rw[Ac.out];exact HJ.out.no (noB Ah (by omega) (by omega) _ _ _ _ _ _ _ _ _ _ _ _ _ _) 3 0
   ·have q1:(L:Int)<d.n:=by omega
    clear q;have A7:=eL w.heap.size 3 c.d c.s c.b s.segs s.u Ad nd Cd At nt Ct As ns Cs Aa na Ca _ (A0).st;have A8:=hd8 A0;have Ac:Hid (r=(s,⟨3,0,[],0,[]⟩)):=by
     rw[←Ab.out];exact A4.out
    clear A0 A1 A2 hL A5;go_wp2_with fail;refine A7.mono ?_;rintro e wn ⟨rfl,bn⟩;have A3:=A8.out.below bn;obtain⟨x0,x1,x2,x3,x4,x5,x6,x7,x8,p0,p1,p2,p3,p4,p5,p6,p7,p8,y0,y1,y2,y3,y4,q0,q1,q2,q3,q4⟩:=A3.res;have Ah:=A3.bel;clear A7 A8 A3 bn;go_wp2_with fail;refine bodyPost_ret (v:=.tuple #[stA c.d c.s c.b (.slice Ad nd Cd) s.segs (.slice At nt Ct) (.slice As ns Cs) s.u (.slice Aa na Ca),.agg #[iV 3,iV 0,nS,iV 0,nS]]) (by simp[results,results11,go_sem,x0,x1,x2,x3,x4,x5,x6,x7,x8,y0,y1,y2,y3,y4]) rfl ?_;rw[Ac.out];exact HJ.out.no (noB Ah (by omega) (by omega) _ _ _ _ _ _ _ _ _ _ _ _ _ _) 3 0
  case neg=>
   obtain⟨m,hm⟩: ∃m:Nat,d.n=(m:Int):=⟨d.n.toNat,by omega⟩;have Aw:m≤L:=by omega
   have A9:Hid (r=(s,⟨0,(L:Int),l.drop m,0,[]⟩)):=by
    show r=_;rw[←Ab.out,A4.out];unfold gK;rw[A5,if_neg q,hm,c9Q]
   rw[hm]at d1;have q1: ¬(m:Int)<0:=by omega
   have q2: ¬(L:Int)<(m:Int):=by omega
   rcases A2.out.1.2 with⟨rfl,h0⟩|⟨g,A6,B5,hv,B2,_,hc,Av,_⟩
   ·obtain rfl:L=0:=by omega
    obtain rfl:m=0:=by omega
    have he:l.drop 0=[]:=d0N (by rw[d2E];exact A5);rw[he]at A9;clear q q1 q2 hL h0 Aw hm A2 A5;have A0:=A1.out;have Ag:Hid (∀wE,Off (fun q=>q=w.heap.size+1+1∨q=w.heap.size+1+1+1) w2 wE→dL (.returned (.tuple #[stA c.d c.s c.b (.slice Ad nd Cd) s.segs (.slice At nt Ct) (.slice As ns Cs) s.u (.slice Aa na Ca),.agg #[iV 0,iV 0,nS,iV 0,nS]])) T w wE c r):=fun wE ho=>by
     rw[A9.out];exact HJ.out.same (a:=⟨0,0,[],0,[]⟩) (A0.bel.trans (ho.below A0.bel.size fun q z=>by omega)) (kA _) (bJ.nil _)
    obtain⟨a0,a1,a2,a3,a4,a5,a6,a7,a8⟩:=A0.st.c9;obtain⟨x0,x1,x2,x3,x4,x5,x6,x7,x8,p0,p1,p2,p3,p4,p5,p6,p7,p8,y0,y1,y2,y3,y4,q0,q1,q2,q3,q4⟩:=A0.res;clear he A1 A0 A9 Ab A4;go_upto_region 17 with fail
    go_region
    go_wp2_with fail;exact bodyPost_ret (by simp[results,results11,go_sem,x0,x1,x2,x3,x4,x5,x6,x7,x8,y0,y1,y2,y3,y4]) rfl (Ag.out _ (a1A _ _ _ _ _ _ _ _ _ _ _ _ _ _ _ _ _))
   ·subst hv;have B4:=mL8 Av;rw[←hL]at A2 hc;have An:Hid (∀wE,Off (fun q=>q=w.heap.size+1+1∨q=w.heap.size+1+1+1) w2 wE→Evs (aS T wE) (.slice (some (aD g (m*3))) (L-m) (A6-m)) (l.drop m)):=fun wE ho=>by
     have h9:=A2.out.blankT ho Ao.out Az.out;rw[hL]at h9⊢;rw[←Aq.out];exact h9.rest (by omega)
    have B3:m≤A6:=by omega
    have Ay:(m:Int)≤(L:Int):=by omega
    have B1:(m:Int)≤(A6:Int):=by omega
    have B7:(L:Int)≤(A6:Int):=by omega
    rw[←hL];by_cases Ax:A6=m
    ·obtain rfl:L=m:=by omega
     subst Ax;have he:l.drop A6=[]:=d0N (by rw[d0A,A5,d1L]);rw[he]at A9;clear q hL hm A2 An A5 Ap;have A0:=A1.out;have Ag:Hid (∀wE,Off (fun q=>q=w.heap.size+1+1∨q=w.heap.size+1+1+1) w2 wE→dL (.returned (.tuple #[stA c.d c.s c.b (.slice Ad nd Cd) s.segs (.slice At nt Ct) (.slice As ns Cs) s.u (.slice Aa na Ca),.agg #[iV 0,iV A6,.slice (some (aD g 0)) 0 0,iV 0,nS]])) T w wE c r):=fun wE ho=>by
      rw[A9.out];exact HJ.out.same (a:=⟨0,(A6:Int),[],0,[]⟩) (A0.bel.trans (ho.below A0.bel.size fun q z=>by omega)) (tX _ _ _ (c9D _)) (bJ.nil _)
     obtain⟨a0,a1,a2,a3,a4,a5,a6,a7,a8⟩:=A0.st.c9;obtain⟨x0,x1,x2,x3,x4,x5,x6,x7,x8,p0,p1,p2,p3,p4,p5,p6,p7,p8,y0,y1,y2,y3,y4,q0,q1,q2,q3,q4⟩:=A0.res;clear he A1 A0 A9 Ab A4;go_upto_region 17 with fail
     go_region
     go_wp2_with fail;exact bodyPost_ret (by simp[results,results11,go_sem,x0,x1,x2,x3,x4,x5,x6,x7,x8,y0,y1,y2,y3,y4]) rfl (Ag.out _ (a1A _ _ _ _ _ _ _ _ _ _ _ _ _ _ _ _ _))
    ·clear q hL hm A2 A5 Ap;have A0:=A1.out;have Ag:Hid (∀wE,Off (fun q=>q=w.heap.size+1+1∨q=w.heap.size+1+1+1) w2 wE→dL (.returned (.tuple #[stA c.d c.s c.b (.slice Ad nd Cd) s.segs (.slice At nt Ct) (.slice As ns Cs) s.u (.slice Aa na Ca),.agg #[iV 0,iV L,.slice (some (aD g (m*3))) (L-m) (A6-m),iV 0,nS]])) T w wE c r):=fun wE ho=>by
      rw[A9.out];exact HJ.out.same (a:=⟨0,(L:Int),l.drop m,0,[]⟩) (A0.bel.trans (ho.below A0.bel.size fun q z=>by omega)) (An.out wE ho) (bJ.nil _)
     obtain⟨a0,a1,a2,a3,a4,a5,a6,a7,a8⟩:=A0.st.c9;obtain⟨x0,x1,x2,x3,x4,x5,x6,x7,x8,p0,p1,p2,p3,p4,p5,p6,p7,p8,y0,y1,y2,y3,y4,q0,q1,q2,q3,q4⟩:=A0.res;clear A1 A0 A9 Ab A4;go_upto_region 17 with fail
     go_region
     go_wp2_with fail;exact bodyPost_ret (by simp[results,results11,go_sem,x0,x1,x2,x3,x4,x5,x6,x7,x8,y0,y1,y2,y3,y4]) rfl (Ag.out _ (a1A _ _ _ _ _ _ _ _ _ _ _ _ _ _ _ _ _))
end
section
variable {X : Sto.Six} {c : Sto.Cfg} {s : Sto.St} {d : Sto.Do} {T : Nat → Bool} {w : World} {Ad At As Aa Ae : Option Addr} {nd Cd nt Ct ns Cs na Ca ne Ce : Nat} {t : ByteArray}
theorem b8K{es:List Evt.Ev}{e:Evt.Ev}(h:es[k]?=some e)(p:Evt.Ev→Bool):(es.take (k+1)).filter p=(es.take k).filter p++(if p e=true then[e]else[]):=by
 obtain⟨hk,rfl⟩:=c9H.1 h;rw[List.take_succ_eq_append_getElem hk,d1O];congr 1;by_cases q:p es[k]=true
 ·rw[if_pos q];simp[q]
 ·rw[if_neg q];simp[q]
theorem c4U(es:List EvC): ∀u∈es.flatMap eH,u.oneCell'=true:=fun u hu=>by
 obtain⟨x,_,hx⟩:=d2H.1 hu
 simp only[eH,List.mem_cons,List.not_mem_nil,or_false]at hx
 rcases hx with rfl|rfl|rfl<;>rfl
theorem c5O(w:World)(N:Nat)(v:Value)(es:List EvC)(x:EvC)(h0:cG w N v es)(hN:N≤w.heap.size)(hz:x.1.size≤9223372036854775807)(hsz:es.length≤200000):
  ∃v' w',(Builtin.append_ #[40,40] 40 #[v,.slice (some (aD w.heap.size 0)) 1 1]).run prog (w.alloc (.cells #[.string x.1,iV x.2.1,iV x.2.2] 83))=.ok v' w'∧cG w' N v' (es++[x])∧Below N w w':=by
 obtain⟨i3,A5,A1⟩:=c9J.1 Tryz.infoEvent;simp only[Prod.mk.injEq]at A1;obtain⟨A4,A2,A3⟩:=A1;have bA:=aB8 w (.cells #[.string x.1,iV x.2.1,iV x.2.2] 83);have h1:=h0.below bA;obtain⟨v',w',A0,ho,hg,_⟩:=run_append_own (P:=prog) (w.alloc (.cells #[.string x.1,iV x.2.1,iV x.2.2] 83)) N 40 40 83 i3 _ 3 32 underlying40 A5 A4 A2 A3 rfl (by decide) v es.length _ h1.1 (aD w.heap.size 0) 1 1 ([x].flatMap eH) rfl (eE w _ 83) (c4U [x]) (by unfold maxLen;omega) (by omega) (c9E hN bA.size);refine⟨v',w',A0,⟨?_,fun e he=>?_⟩,(bA.mono hN).trans ((Below.refl N _).grown hg (c9E hN bA.size) (fun y hy=>(h1.1.lt y hy).1))⟩
 ·rw[c9I,d0H];exact ho
 ·rcases List.mem_append.1 he with q|q
  ·exact h0.2 e q
  ·rw[d1Z.1 q];exact hz
theorem a5F(H:SJ X c s d T w Ad nd Cd At nt Ct As ns Cs Aa na Ca Ae ne Ce t)(hk:d.kind=2):
  Calls prog 11 #[.agg #[iV c.d,iV c.s,iV c.b,.slice Ad nd Cd,iV s.segs,.slice At nt Ct,.slice As ns Cs,iV s.u,.slice Aa na Ca],.agg #[iV 2,iV d.n,iV d.seg,iV d.pos,.int .u8 d.turn,iV d.bat.cmd,.slice Ae ne Ce,.string t,iV d.ver]] w fun e w'=>dL e T w w' c (Sto.step X c s d):=by
 have HJ:=hd8 H;obtain⟨r,hr⟩: ∃r,r=Sto.step X c s d:=⟨_,rfl⟩;have Ak:=hd8 hr.symm;rw[←hr];obtain⟨w1,B7,An⟩:=qQ w #[iV c.d,iV c.s,iV c.b,.slice Ad nd Cd,iV s.segs,.slice At nt Ct,.slice As ns Cs,iV s.u,.slice Aa na Ca] #[iV 2,iV d.n,iV d.seg,iV d.pos,.int .u8 d.turn,iV d.bat.cmd,.slice Ae ne Ce,.string t,iV d.ver];have eg:=Tryz.enters_noS;clear H hr;go_enter func11,ntmps11
 go_upto_region 1 with fail
 rw[←B7];clear B7;have A9:=hd8 An;have d0:=An.dc.q0;clear An;have Am:=rJ HJ.out.x c s (.slice Ad nd Cd) (.slice At nt Ct) (.slice As ns Cs) (.slice Aa na Ca) w1 (HJ.out.st.sub (fB.of_below A9.out.bel)) HJ.out.wf;obtain⟨x,l,B0⟩: ∃x l,Sto.all X c s=(x,l):=⟨_,_,rfl⟩;have Ai:Hid (Sto.step X c s d=(s,lS (x,l) (ofA l d.name))):=by
  show Sto.step X c s d=_;rw[a2O hk,B0]
 rw[B0]at Am;obtain⟨a0,a1,a2,a3,a4,a5,a6,a7,a8⟩:=A9.out.st.c9;clear B0;go_wp2_with fail;refine Am.mono ?_;rintro e w2 ⟨hA,b2⟩;obtain⟨v,es,he,B8,hB,Bk⟩: ∃(v:Value) (es:List EvC),e=Ending.returned (.tuple #[v,iV x])∧es.map aZ=l∧cG w2 w1.heap.size v es∧es.length≤200000:=hA;subst he;have A2:=hd8 (A9.out.below b2);have B3:=hd8 A9.out.size;have Bf:Hid (∀k,T k=true→k<w1.heap.size):=fun k z=>by
  have:=HJ.out.low k z;have:=B3.out;omega
 have A6:=hd8 hB;have Av:=hd8 B8;have Br:w1.heap.size≤w2.heap.size:=b2.size;clear Am a0 a1 a2 a3 a4 a5 a6 a7 a8 hB B8 A9 d0 b2;by_cases hx:x=0
 case neg=>
  have Al:((x:Int)==0)=false:=by rw[beq_eq_false_iff_ne];omega
  have Bn:((x:Int) !=0)=true:=by rw[bne,Al];rfl
  have A0:Hid (Sto.step X c s d=(s,⟨x,0,[],0,[]⟩)):=by
   show Sto.step X c s d=_;rw[Ai.out];unfold lS;rw[if_pos hx];rfl
  have Az:=A2.out;obtain⟨A,C,hv⟩:=A6.out.shape;subst hv;have A7:=eL w.heap.size x c.d c.s c.b s.segs s.u Ad nd Cd At nt Ct As ns Cs Aa na Ca _ (Az).st;have Ag:=hd8 Az;have Ap:Hid (r=(s,⟨x,0,[],0,[]⟩)):=by
   rw[←Ak.out];exact A0.out
  clear Az A2 hk hx A6 Ai;go_wp2_with fail;refine A7.mono ?_;rintro e wn ⟨rfl,bn⟩;have A3:=Ag.out.below bn;obtain⟨x0,x1,x2,x3,x4,x5,x6,x7,x8,p0,p1,p2,p3,p4,p5,p6,p7,p8,y0,y1,y2,y3,y4,q0,q1,q2,q3,q4⟩:=A3.res;have Ax:=A3.bel;clear A7 Ag A3 bn;go_wp2_with fail;refine bodyPost_ret (v:=.tuple #[stA c.d c.s c.b (.slice Ad nd Cd) s.segs (.slice At nt Ct) (.slice As ns Cs) s.u (.slice Aa na Ca),.agg #[iV x,iV 0,nS,iV 0,nS]]) (by simp[results,results11,go_sem,x0,x1,x2,x3,x4,x5,x6,x7,x8,y0,y1,y2,y3,y4]) rfl ?_;rw[Ap.out];exact HJ.out.no (noB Ax (by omega) (by omega) _ _ _ _ _ _ _ _ _ _ _ _ _ _) x 0
 case pos=>
  have Al:((x:Int)==0)=true:=by rw[hx];rfl
  have Bn:((x:Int) !=0)=false:=by rw[bne,Al];rfl
  have A0:Hid (Sto.step X c s d=(s,ofA l d.name)):=by
   show Sto.step X c s d=_;rw[Ai.out];unfold lS;rw[if_neg (fun z=>z hx)]
  clear Ai hx hk;obtain⟨A,C,hv,Bh,Aq,Ah⟩:=A6.out.evs;rw[Av.out]at hv Bh Ah;have Ao:=hd8 Ah;have Bj:=mL8 Aq;subst hv;have Bp:l.length≤200000:=by rw[←Av.out,c9M];exact Bk
  have d0:=A2.out.dc.q0;have d7:=A2.out.dc.q7;have Ab:nb t=d.name:=HJ.out.do0.name;have Bb:=HJ.out.do0.sz;have Aj:=mN t w2 Bb;by_cases q: ¬Evt.dC d.name
  case pos=>
   have Ac:Calls prog 35 #[.string t] w2 fun e w3=>e=.returned (.bool false)∧Bl w2 w3:=Aj.mono fun e w3 z=>⟨by
    obtain⟨y,rfl,hy⟩:=z.1;have:y=false:=by
     cases y
     ·rfl
     ·rw[Ab]at hy;exact absurd (hy.1 rfl) q
    rw[this],z.2⟩
   have A0:Hid (Sto.step X c s d=(s,⟨7,0,[],0,[]⟩)):=by
    show Sto.step X c s d=_;rw[A0.out];unfold ofA;rw[if_pos q];rfl
   clear Aj q Ah Ao Aq Ab;go_wp2_with fail;refine Ac.mono ?_;rintro e w3 ⟨rfl,b3⟩;have Ay:=A2.out.below b3;have A7:=eL w.heap.size 7 c.d c.s c.b s.segs s.u Ad nd Cd At nt Ct As ns Cs Aa na Ca _ (Ay).st;have Ag:=hd8 Ay;have Ap:Hid (r=(s,⟨7,0,[],0,[]⟩)):=by
    rw[←Ak.out];exact A0.out
   clear Ay A2 A6 Ac d0 d7;go_wp2_with fail;refine A7.mono ?_;rintro e wn ⟨rfl,bn⟩;have A3:=Ag.out.below bn;obtain⟨x0,x1,x2,x3,x4,x5,x6,x7,x8,p0,p1,p2,p3,p4,p5,p6,p7,p8,y0,y1,y2,y3,y4,q0,q1,q2,q3,q4⟩:=A3.res;have Ax:=A3.bel;clear A7 Ag A3 bn;go_wp2_with fail;refine bodyPost_ret (v:=.tuple #[stA c.d c.s c.b (.slice Ad nd Cd) s.segs (.slice At nt Ct) (.slice As ns Cs) s.u (.slice Aa na Ca),.agg #[iV 7,iV 0,nS,iV 0,nS]]) (by simp[results,results11,go_sem,x0,x1,x2,x3,x4,x5,x6,x7,x8,y0,y1,y2,y3,y4]) rfl ?_;rw[Ap.out];exact HJ.out.no (noB Ax (by omega) (by omega) _ _ _ _ _ _ _ _ _ _ _ _ _ _) 7 0
  case neg=>
   have q:=d2J.1 q
   have Ac:Calls prog 35 #[.string t] w2 fun e w3=>e=.returned (.bool true)∧Bl w2 w3:=Aj.mono fun e w3 z=>⟨by
    obtain⟨y,rfl,hy⟩:=z.1;rw[Ab]at hy
    rw[hy.2 q],z.2⟩
   have A0:Hid (Sto.step X c s d=(s,⟨0,((l.filter fun e=>decide (e.name=nb t)).length:Nat),l.filter fun e=>decide (e.name=nb t),0,[]⟩)):=by
    show Sto.step X c s d=_;rw[A0.out];unfold ofA;rw[if_neg (fun z=>z q),Ab]
   clear Aj q Ah Aq Ab;go_wp2_with fail;refine Ac.mono ?_;rintro e w3 ⟨rfl,b3⟩;have Bq:w2.heap.size≤w3.heap.size:=b3.size;have Aw:=hd8 (A2.out.below b3);have B2:=hd8 fun wr z=>bt b3 z;clear Ac d0 d7 A2;go_wp2_with fail;go_loopw [11,104] (fun yv x wr=> ∃(k:Nat) (os:List EvC),k≤l.length∧x=iV k∧cG wr w3.heap.size yv os∧Hid (os.map aZ=(l.take k).filter fun e=>decide (e.name=nb t))∧Bl w3 wr) (fun _ x _=>l.length-(intOf x).toNat)
   case atStart=>exact⟨0,[],c9D _,rfl,cG.nil w3 _,rfl,Below.refl _ _⟩
   case round=>
    obtain⟨k,os,hk,rfl,BO,HO,A1⟩:=hrel;have Bo:os.length≤200000:=by
     have h1:=congrArg List.length HO.out;have h2:=d2P (fun e:Evt.Ev=>decide (e.name=nb t)) (l.take k);rw[c9M]at h1;rw[c9K]at h2;omega
    by_cases Bg:k<l.length
    ·have Be:(k:Int)<(l.length:Int):=by omega
     obtain⟨ev,Ar⟩: ∃ev,l[k]?=some ev:=⟨l[k],c9F Bg⟩;obtain⟨b,o,rfl,B6⟩:=Ao.out k ev Ar;obtain⟨s1,Bc,Au,e0,e1,e2⟩:=B6.below (B2.out _ A1);have A5:=b8K Ar (fun e:Evt.Ev=>decide (e.name=nb t));have Ba:Hid (aZ (s1,ev.kind,ev.num)=ev):=by
      show(⟨nb s1,ev.kind,ev.num⟩:Evt.Ev)=ev;rw[Au]
     have B1:Hid ((s1.toList==t.toList)=decide (ev.name=nb t)):=by
      show _=_;rw[mV,Au]
     have bA:=aB8 wr (.cells #[.string s1,iV ev.kind,iV ev.num] 83);have BO:=BO.below bA;have d7:=((Aw.out.below A1).below bA).dc.q7;have A1:=bt A1 bA;have VE:=iL wr (.string s1) (iV ev.kind) (iV ev.num);obtain⟨g0,g1,g2⟩:=VE;clear Ar Au B6;by_cases hq:ev.name=nb t
     ·have A5:Hid ((l.take (k+1)).filter (fun e:Evt.Ev=>decide (e.name=nb t))=(l.take k).filter (fun e:Evt.Ev=>decide (e.name=nb t))++[ev]):=by
       show _=_;rw[A5,if_pos (by simpa using hq)]
      have Bi:(s1.toList==t.toList)=true:=by
       rw[B1.out];simpa using hq
      obtain⟨v',w',Af,B',b'⟩:=c5O _ w3.heap.size _ os (s1,ev.kind,ev.num) BO A1.size Bc (by omega);have B4:Hid (cG w' w3.heap.size v' (os++[(s1,ev.kind,ev.num)])∧Bl w3 w'):=⟨B',A1.trans b'⟩;have HM:Hid ((os++[(s1,ev.kind,ev.num)]).map aZ=(l.take (k+1)).filter (fun e:Evt.Ev=>decide (e.name=nb t))):=by
       show _=_;rw[c9U,HO.out,A5.out];show _++[aZ (s1,ev.kind,ev.num)]=_;rw[Ba.out]
      rw[show(wr.alloc (.cells #[.string s1,iV ev.kind,iV ev.num] 83)).heap.size=wr.heap.size+1 by simp]at Af;clear hq B' b' BO;go_wp2_with (at_builtin;refine Lib.wpList_append_run _ rfl _ _ _ _ rfl _ _ rfl rfl _ _ Af ?_);exact⟨⟨k+1,_,by omega,by go_num,B4.out.1,HM.out,B4.out.2⟩,by simp[intOf];omega⟩
     ·have A5:Hid ((l.take (k+1)).filter (fun e:Evt.Ev=>decide (e.name=nb t))=(l.take k).filter (fun e:Evt.Ev=>decide (e.name=nb t))):=by
       show _=_;rw[A5,if_neg (by simpa using hq),d0W]
      have Bi:(s1.toList==t.toList)=false:=by
       rw[B1.out];simpa using hq
      have HM:Hid (os.map aZ=(l.take (k+1)).filter (fun e:Evt.Ev=>decide (e.name=nb t))):=by
       show _=_;rw[HO.out,A5.out]
      clear hq;go_wp2_with fail;exact⟨⟨k+1,os,by omega,by go_num,BO,HM.out,A1⟩,by simp[intOf];omega⟩
    ·obtain rfl:k=l.length:=by omega
     rw[d0L]at HO;have A8:=Aw.out.below A1;have B5:=hd8 BO;obtain⟨A4,C4,h4⟩:=BO.shape;subst h4;have B9:Hid (r=(s,⟨0,(os.length:Int),os.map aZ,0,[]⟩)):=by
      show r=_;rw[←Ak.out,A0.out,←HO.out,c9M]
     have Bm:Hid (∀wE,Off (fun q=>q=w.heap.size+1+1∨q=w.heap.size+1+1+1) wr wE→dL (.returned (.tuple #[stA c.d c.s c.b (.slice Ad nd Cd) s.segs (.slice At nt Ct) (.slice As ns Cs) s.u (.slice Aa na Ca),.agg #[iV 0,iV os.length,.slice A4 os.length C4,iV 0,nS]])) T w wE c r):=fun wE ho=>by
      rw[B9.out];refine HJ.out.same (a:=⟨0,(os.length:Int),os.map aZ,0,[]⟩) (A8.bel.trans (ho.below A8.bel.size fun q z=>by omega)) ?_ (bJ.nil _);exact(B5.out.blankT ho (by have:=B3.out;omega) (fun k z=>by have:=Bf.out k z;omega)).evs
     obtain⟨a0,a1,a2,a3,a4,a5,a6,a7,a8⟩:=A8.st.c9;obtain⟨x0,x1,x2,x3,x4,x5,x6,x7,x8,p0,p1,p2,p3,p4,p5,p6,p7,p8,y0,y1,y2,y3,y4,q0,q1,q2,q3,q4⟩:=A8.res;clear BO B5 A8 B9 A0 Ak HO A1 Aw B2 Ao A6 Av;go_wp2_with fail;exact bodyPost_ret (by simp[results,results11,go_sem,x0,x1,x2,x3,x4,x5,x6,x7,x8,y0,y1,y2,y3,y4]) rfl (Bm.out _ (zF _ _ _ _ _ _ _ _ _ _ _ _ _ _ _ _ _))
end
end Go.Proofs.YtmcaejooaaahdaaGreat
