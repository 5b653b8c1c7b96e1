import Derived.Test.YtmcaejooaaahdaaGreatZ39
set_option maxHeartbeats 8000000
set_option maxRecDepth 100000
namespace Go.Proofs.YtmcaejooaaahdaaGreat
open Go.Proofs.Tryz
open Go.RowKit
section
variable {X : Sto.Six} {c : Sto.Cfg} {s : Sto.St} {d : Sto.Do} {T : Nat → Bool} {w : World} {Ad At As Aa Ae : Option Addr} {nd Cd nt Ct ns Cs na Ca ne Ce : Nat} {t : ByteArray}
theorem a7I(H:SJ X c s d T w Ad nd Cd At nt Ct As ns Cs Aa na Ca Ae ne Ce t)(hk:d.kind=3):
  Calls prog 11 #[.agg #[iV c.d,iV c.s,iV c.b,.slice Ad nd Cd,iV s.segs,.slice At nt Ct,.slice As ns Cs,iV s.u,.slice Aa na Ca],.agg #[iV 3,iV d.n,iV d.seg,iV d.pos,.int .u8 d.turn,iV d.bat.cmd,.slice Ae ne Ce,.string t,iV d.ver]] w fun e w'=>dK e T w w' c (Sto.step X c s d):=by
 have HJ:=hd8 H;obtain⟨r,hr⟩: ∃r,r=Sto.step X c s d:=⟨_,rfl⟩;have A9:=hd8 hr.symm;rw[←hr];obtain⟨w1,Aq,Ai⟩:=qN w #[iV c.d,iV c.s,iV c.b,.slice Ad nd Cd,iV s.segs,.slice At nt Ct,.slice As ns Cs,iV s.u,.slice Aa na Ca] #[iV 3,iV d.n,iV d.seg,iV d.pos,.int .u8 d.turn,iV d.bat.cmd,.slice Ae ne Ce,.string t,iV d.ver];have eg:=Tryz.enters_noS;clear H hr;go_enter func11,ntmps11
 go_upto_region 1 with fail
 rw[←Aq];clear Aq;have Af:=hd8 Ai;have d0:=Ai.dc.q0;clear Ai;have Ah:=rC HJ.out.x c s (.slice Ad nd Cd) (.slice At nt Ct) (.slice As ns Cs) (.slice Aa na Ca) w1 (HJ.out.st.sub (fC.oE Af.out.bel)) HJ.out.wf;obtain⟨x,l,Ak⟩: ∃x l,Sto.all X c s=(x,l):=⟨_,_,rfl⟩;have Ag:Hid (Sto.step X c s d=(s,lP (x,l) (gM l d.n))):=by
  show Sto.step X c s d=_;rw[a7O hk,Ak]
 rw[Ak]at Ah;obtain⟨a0,a1,a2,a3,a4,a5,a6,a7,a8⟩:=Af.out.st.c9;clear Ak;go_wp2_with fail;refine Ah.mono ?_;rintro e w2 ⟨hA,b2⟩;obtain⟨v,es,he,Ao,hB,Ap⟩: ∃(v:Value) (es:List EvC),e=Ending.returned (.tuple #[v,iV x])∧es.map aY=l∧cH w2 w1.heap.size v es∧es.length≤200000:=hA;subst he;have A1:=hd8 (Af.out.bE b2);have An:=hd8 Af.out.size;have Ar:Hid (∀k,T k=true→k<w1.heap.size):=fun k z=>by
  have:=HJ.out.low k z;have:=An.out;omega
 have A2:=hd8 hB;have Am:=hd8 Ao;have B1:w1.heap.size≤w2.heap.size:=b2.size;clear Ah a0 a1 a2 a3 a4 a5 a6 a7 a8 hB Ao Af d0 b2;by_cases hx:x=0
 case neg=>
  have Aj:((x:Int)==0)=false:=by rw[beq_eq_false_iff_ne];omega
  have Az:((x:Int) !=0)=true:=by rw[bne,Aj];rfl
  have A4:Hid (Sto.step X c s d=(s,⟨x,0,[],0,[]⟩)):=by
   show Sto.step X c s d=_;rw[Ag.out];unfold lP;rw[if_pos hx];rfl
  have A0:=A1.out;obtain⟨A,C,hv⟩:=A2.out.sE;subst hv;have A6:=noJ x A0;clear A0 A1 hk hx A2 Ag;go_wp2_with fail;refine A6.mono ?_;rintro e wn ⟨rfl,A3⟩;obtain⟨x0,x1,x2,x3,x4,x5,x6,x7,x8,p0,p1,p2,p3,p4,p5,p6,p7,p8,y0,y1,y2,y3,y4,q0,q1,q2,q3,q4⟩:=A3.res;have Ab:=A3.bel;clear A6 A3;go_wp2_with fail;exact bodyPost_ret (by simp[results,results11,go_sem,x0,x1,x2,x3,x4,x5,x6,x7,x8,y0,y1,y2,y3,y4]) rfl (HJ.out.fin A9.out A4.out (noB Ab (by omega) (by omega) _ _ _ _ _ _ _ _ _ _ _ _ _ _))
 case pos=>
  have Aj:((x:Int)==0)=true:=by rw[hx];rfl
  have Az:((x:Int) !=0)=false:=by rw[bne,Aj];rfl
  have A4:Hid (Sto.step X c s d=(s,gM l d.n)):=by
   show Sto.step X c s d=_;rw[Ag.out];unfold lP;rw[if_neg (fun z=>z hx)]
  clear Ag hx hk;have d0:=A1.out.dc.q0;have d1:=A1.out.dc.q1;obtain⟨L,hL⟩: ∃L,L=es.length:=⟨_,rfl⟩;have A5:l.length=L:=by rw[←Am.out,c9M,hL]
  by_cases q:d.n<0∨(L:Int)<d.n
  case pos=>
   have A4:Hid (Sto.step X c s d=(s,⟨3,0,[],0,[]⟩)):=by
    show Sto.step X c s d=_;rw[A4.out];unfold gM;rw[A5,if_pos q];rfl
   have A0:=A1.out;obtain⟨A,C,hv⟩:=A2.out.sE;rw[←hL]at hv;subst hv;by_cases q0:d.n<0
   ·clear q;have A6:=noJ 3 A0;clear A0 A1 A2 hL A5;go_wp2_with fail;refine A6.mono ?_;rintro e wn ⟨rfl,A3⟩;obtain⟨x0,x1,x2,x3,x4,x5,x6,x7,x8,p0,p1,p2,p3,p4,p5,p6,p7,p8,y0,y1,y2,y3,y4,q0,q1,q2,q3,q4⟩:=A3.res;have Ab:=A3.bel;clear A6 A3;go_wp2_with fail;exact bodyPost_ret (by simp[results,results11,go_sem,x0,x1,x2,x3,x4,x5,x6,x7,x8,y0,y1,y2,y3,y4]) rfl (HJ.out.fin A9.out A4.out (noB Ab (by omega) (by omega) _ _ _ _ _ _ _ _ _ _ _ _ _ _))
   ·have q1:(L:Int)<d.n:=by omega
    clear q;have A6:=noJ 3 A0;clear A0 A1 A2 hL A5;go_wp2_with fail;refine A6.mono ?_;rintro e wn ⟨rfl,A3⟩;obtain⟨x0,x1,x2,x3,x4,x5,x6,x7,x8,p0,p1,p2,p3,p4,p5,p6,p7,p8,y0,y1,y2,y3,y4,q0,q1,q2,q3,q4⟩:=A3.res;have Ab:=A3.bel;clear A6 A3;go_wp2_with fail;exact bodyPost_ret (by simp[results,results11,go_sem,x0,x1,x2,x3,x4,x5,x6,x7,x8,y0,y1,y2,y3,y4]) rfl (HJ.out.fin A9.out A4.out (noB Ab (by omega) (by omega) _ _ _ _ _ _ _ _ _ _ _ _ _ _))
  case neg=>
   obtain⟨m,hm⟩: ∃m:Nat,d.n=(m:Int):=⟨d.n.toNat,by omega⟩;have Aw:m≤L:=by omega
   have A7:Hid (r=(s,⟨0,(L:Int),l.drop m,0,[]⟩)):=by
    show r=_;rw[←A9.out,A4.out];unfold gM;rw[A5,if_neg q,hm,c9Q]
   rw[hm]at d1;have q1: ¬(m:Int)<0:=by omega
   have q2: ¬(L:Int)<(m:Int):=by omega
   rcases A2.out.1.2 with⟨rfl,h0⟩|⟨g,A8,B0,hv,B2,_,hc,Ay,_⟩
   ·obtain rfl:L=0:=by omega
    obtain rfl:m=0:=by omega
    have he:l.drop 0=[]:=d0N (by rw[d2E];exact A5);rw[he]at A7;clear q q1 q2 hL h0 Aw hm A2 A5;have A0:=A1.out;have Ac:Hid (∀wE,Off (fun q=>q=w.heap.size+1+1∨q=w.heap.size+1+1+1) w2 wE→dK (.returned (.tuple #[stA c.d c.s c.b (.slice Ad nd Cd) s.segs (.slice At nt Ct) (.slice As ns Cs) s.u (.slice Aa na Ca),.agg #[iV 0,iV 0,nS,iV 0,nS]])) T w wE c r):=fun wE ho=>by
     rw[A7.out];exact HJ.out.same (a:=⟨0,0,[],0,[]⟩) (A0.bel.trans (ho.bE A0.bel.size fun q z=>by omega)) (kB _) (bG.nil _)
    obtain⟨a0,a1,a2,a3,a4,a5,a6,a7,a8⟩:=A0.st.c9;obtain⟨x0,x1,x2,x3,x4,x5,x6,x7,x8,p0,p1,p2,p3,p4,p5,p6,p7,p8,y0,y1,y2,y3,y4,q0,q1,q2,q3,q4⟩:=A0.res;clear he A1 A0 A7 A9 A4;go_upto_region 17 with fail
    go_region
    go_wp2_with fail;exact bodyPost_ret (by simp[results,results11,go_sem,x0,x1,x2,x3,x4,x5,x6,x7,x8,y0,y1,y2,y3,y4]) rfl (Ac.out _ (a2W _ _ _ _ _ _ _ _ _ _ _ _ _ _ _ _ _))
   ·subst hv;have B5:=mL8 Ay;rw[←hL]at A2 hc;have Al:Hid (∀wE,Off (fun q=>q=w.heap.size+1+1∨q=w.heap.size+1+1+1) w2 wE→Evs (aS T wE) (.slice (some (aD g (m*3))) (L-m) (A8-m)) (l.drop m)):=fun wE ho=>by
     have h9:=A2.out.blankT ho An.out Ar.out;rw[hL]at h9⊢;rw[←Am.out];exact h9.rest (by omega)
    have B4:m≤A8:=by omega
    have Ax:(m:Int)≤(L:Int):=by omega
    have Av:(m:Int)≤(A8:Int):=by omega
    have B3:(L:Int)≤(A8:Int):=by omega
    rw[←hL];by_cases Au:A8=m
    ·obtain rfl:L=m:=by omega
     subst Au;have he:=d0N (by rw[d0A,A5,d1L]);rw[he]at A7;clear q hL hm A2 Al A5 Ap;have A0:=A1.out;have Ac:Hid (∀wE,Off (fun q=>q=w.heap.size+1+1∨q=w.heap.size+1+1+1) w2 wE→dK (.returned (.tuple #[stA c.d c.s c.b (.slice Ad nd Cd) s.segs (.slice At nt Ct) (.slice As ns Cs) s.u (.slice Aa na Ca),.agg #[iV 0,iV A8,.slice (some (aD g 0)) 0 0,iV 0,nS]])) T w wE c r):=fun wE ho=>by
      rw[A7.out];exact HJ.out.same (a:=⟨0,(A8:Int),[],0,[]⟩) (A0.bel.trans (ho.bE A0.bel.size fun q z=>by omega)) (uY _ _ _ (c9D _)) (bG.nil _)
     obtain⟨a0,a1,a2,a3,a4,a5,a6,a7,a8⟩:=A0.st.c9;obtain⟨x0,x1,x2,x3,x4,x5,x6,x7,x8,p0,p1,p2,p3,p4,p5,p6,p7,p8,y0,y1,y2,y3,y4,q0,q1,q2,q3,q4⟩:=A0.res;clear he A1 A0 A7 A9 A4;go_upto_region 17 with fail
     go_region
     go_wp2_with fail;exact bodyPost_ret (by simp[results,results11,go_sem,x0,x1,x2,x3,x4,x5,x6,x7,x8,y0,y1,y2,y3,y4]) rfl (Ac.out _ (a2W _ _ _ _ _ _ _ _ _ _ _ _ _ _ _ _ _))
    ·clear q hL hm A2 A5 Ap;have A0:=A1.out;have Ac:Hid (∀wE,Off (fun q=>q=w.heap.size+1+1∨q=w.heap.size+1+1+1) w2 wE→dK (.returned (.tuple #[stA c.d c.s c.b (.slice Ad nd Cd) s.segs (.slice At nt Ct) (.slice As ns Cs) s.u (.slice Aa na Ca),.agg #[iV 0,iV L,.slice (some (aD g (m*3))) (L-m) (A8-m),iV 0,nS]])) T w wE c r):=fun wE ho=>by
      rw[A7.out];exact HJ.out.same (a:=⟨0,(L:Int),l.drop m,0,[]⟩) (A0.bel.trans (ho.bE A0.bel.size fun q z=>by omega)) (Al.out wE ho) (bG.nil _)
     obtain⟨a0,a1,a2,a3,a4,a5,a6,a7,a8⟩:=A0.st.c9;obtain⟨x0,x1,x2,x3,x4,x5,x6,x7,x8,p0,p1,p2,p3,p4,p5,p6,p7,p8,y0,y1,y2,y3,y4,q0,q1,q2,q3,q4⟩:=A0.res;clear A1 A0 A7 A9 A4;go_upto_region 17 with fail
     go_region
     go_wp2_with fail;exact bodyPost_ret (by simp[results,results11,go_sem,x0,x1,x2,x3,x4,x5,x6,x7,x8,y0,y1,y2,y3,y4]) rfl (Ac.out _ (a2W _ _ _ _ _ _ _ _ _ _ _ _ _ _ _ _ _))
end
end Go.Proofs.YtmcaejooaaahdaaGreat
