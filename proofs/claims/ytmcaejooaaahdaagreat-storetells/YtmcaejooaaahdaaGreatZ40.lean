import Derived.Test.YtmcaejooaaahdaaGreatZ38
set_option maxHeartbeats 8000000
set_option maxRecDepth 100000
namespace Go.Proofs.YtmcaejooaaahdaaGreat
open Go.Proofs.Tryz
open Go.RowKit
theorem b2O{X:Sto.Six}(hX:Sto.dE X)(c:Sto.Cfg)(s:Sto.St)(vd vt vs va:Value)(d:Sto.Do)(ve:Value)(t:ByteArray)(T:Nat→Bool)(w:World)(h:jT (aS T w) vd vt vs va s)(hw:WfJ c s)(hd:sS (aS T w) d ve t)(hpv:lO vs)(hT: ∀k,T k=true→k<w.heap.size):
  Calls prog 32 #[stC c vd s vt vs va,.agg (dX d ve t).toArray] w fun e w'=>dK e T w w' c (Sto.put X c s d):=by
 have Ft:=hd8 h;have HS:=hd8 (h.sub (mG T w));have Ba:=hd8 hw;have Hj:=hd8 hd;have Ew:=hd8 (hd.sub (mG T w));have HT:=hd8 hT;have HX:=hd8 hX;have Fs:=hd8 hpv;obtain⟨Ad,nd,Cd,rfl⟩:=i9 h.dk;obtain⟨At,nt,Ct,rfl⟩:=fZ h.tl;obtain⟨As,ns,Cs,rfl⟩:=gY h.sn;obtain⟨Aa,na,Ca,rfl⟩:=dT h.ac;obtain⟨Ae,ne,Ce,rfl⟩: ∃A n C,ve=.slice A n C:=by
  obtain⟨A,C,h⟩:=hd.evs.sE;exact⟨A,_,C,h⟩
 obtain⟨r,hr⟩: ∃r,r=Sto.put X c s d:=⟨_,rfl⟩;have Ax:=hd8 hr.symm;rw[←hr];change Calls prog 32 #[stA c.d c.s c.b (.slice Ad nd Cd) s.segs (.slice At nt Ct) (.slice As ns Cs) s.u (.slice Aa na Ca),.agg #[iV d.kind,iV d.n,iV d.seg,iV d.pos,.int .u8 d.turn,iV d.bat.cmd,.slice Ae ne Ce,.string t,iV d.ver]] w _;have Ac:Hid (∀(E:Nat) (n:Int),r=(s,⟨E,n,[],0,[]⟩)→ ∀w',Bl w w'→dK (.returned (.tuple #[stA c.d c.s c.b (.slice Ad nd Cd) s.segs (.slice At nt Ct) (.slice As ns Cs) s.u (.slice Aa na Ca),.agg #[iV E,iV n,nS,iV 0,nS]])) T w w' c r):=fun E n e w' hb=>by
  rw[e];exact a8D Ft.out Fs.out hb E n
 have C0:=b9G w #[iV c.d,iV c.s,iV c.b,.slice Ad nd Cd,iV s.segs,.slice At nt Ct,.slice As ns Cs,iV s.u,.slice Aa na Ca] #[iV d.kind,iV d.n,iV d.seg,iV d.pos,.int .u8 d.turn,iV d.bat.cmd,.slice Ae ne Ce,.string t,iV d.ver];have eg:=Tryz.enters_noP;clear h hw hd hX hr hpv hT;go_enter func32,ntmps32
 go_upto_region 1 with fail
 obtain⟨w1,Ha⟩: ∃q,q=(((w.alloc (.cells #[iV c.d,iV c.s,iV c.b,.slice Ad nd Cd,iV s.segs,.slice At nt Ct,.slice As ns Cs,iV s.u,.slice Aa na Ca] 32)).alloc (.cells #[iV d.kind,iV d.n,iV d.seg,iV d.pos,.int .u8 d.turn,iV d.bat.cmd,.slice Ae ne Ce,.string t,iV d.ver] 49)).alloc (.cells jE 32)).alloc (.cells nC 42):=⟨_,rfl⟩;rw[←Ha]at C0⊢;clear Ha;have C0:PJ w w1 (stL c (.slice Ad nd Cd) s.segs (.slice At nt Ct) (.slice As ns Cs) s.u (.slice Aa na Ca)) (dX d (.slice Ae ne Ce) t):=C0;have Gm:=hd8 C0;have d5:=C0.dc.q5;have d6:=C0.dc.q6;have Fa:=lR d.bat.cmd (.slice Ae ne Ce) d.bat.evs w1 (Ew.out.evs.bE C0.bel);have Gh:Hid (∀y,y=(Evt.aA ⟨d.bat.cmd,d.bat.evs⟩).1→y=(Evt.aA d.bat).1):=fun y hy=>hy;generalize (Evt.aA ⟨d.bat.cmd,d.bat.evs⟩).2=E2 at Fa;obtain⟨E,hE⟩: ∃E,E=(Evt.aA ⟨d.bat.cmd,d.bat.evs⟩).1:=⟨_,rfl⟩;rw[←hE]at Fa;have HE:=hd8 (Gh.out E hE);clear hE Gh C0;go_wp2_with fail;refine Fa.mono ?_;rintro e w2 ⟨rfl,b2⟩;have bF:=aB8 w2 (.cells #[iV E,iV E2] 78);have Cc:=(Gm.out.bE b2).bE bF;have VF:=aC w2 #[iV E,iV E2] 78;clear Fa b2 bF d5 d6 Gm;go_upto_region 3 with fail
 obtain⟨w3,Hb⟩: ∃q,q=w2.alloc (.cells #[iV E,iV E2] 78):=⟨_,rfl⟩;rw[←Hb]at Cc VF⊢;obtain⟨F7,Gu⟩: ∃q,q=w2.heap.size:=⟨_,rfl⟩;rw[←Gu]at VF⊢;have v0:=VF.q0;clear Hb Gu VF;by_cases Bn:E=0
 case neg=>
  have Bf:Hid (∀w',Bl w w'→dK (.returned (.tuple #[stA c.d c.s c.b (.slice Ad nd Cd) s.segs (.slice At nt Ct) (.slice As ns Cs) s.u (.slice Aa na Ca),.agg #[iV E,iV 0,nS,iV 0,nS]])) T w w' c r):=Ac.out E 0 (by
   rw[←Ax.out,b5L (by rw[←HE.out];exact Bn),←HE.out]
   rfl)
  have G1:((E:Int) !=0)=true:=by rw[bne_iff_ne];omega
  have Ar:=sQ w.heap.size E c.d c.s c.b s.segs s.u Ad nd Cd At nt Ct As ns Cs Aa na Ca _ (Cc).st;have Au:=hd8 Cc;clear Bn Ac Cc Ax;go_wp2_with fail;refine Ar.mono ?_;rintro e wn ⟨rfl,bn⟩;have Af:=Au.out.bE bn;obtain⟨x0,x1,x2,x3,x4,x5,x6,x7,x8,p0,p1,p2,p3,p4,p5,p6,p7,p8,y0,y1,y2,y3,y4,q0,q1,q2,q3,q4⟩:=Af.res;have Bc:=Af.bel;clear Ar Au Af bn;go_wp2_with fail;exact bodyPost_ret (by simp[results,results32,go_sem,x0,x1,x2,x3,x4,x5,x6,x7,x8,y0,y1,y2,y3,y4]) rfl (Bf.out _ (noB Bc (by omega) (by omega) _ _ _ _ _ _ _ _ _ _ _ _ _ _))
 case pos=>
  have F9:Hid ((Evt.aA d.bat).1=0):=by rw[←HE.out];exact Bn
  subst Bn;have Dl:=hd8 Cc;have c6:=Cc.st.q6;obtain⟨Ih,I9,Ia,H6⟩: ∃C',Value.slice As ns Cs=.slice As s.seen.length C'∧s.seen.length≤C'∧C'≤maxLen:=by
   obtain⟨A,C,q1,q2,q3,_⟩:=HS.out.sn;cases q1
   exact⟨_,rfl,q2,q3⟩
  cases I9
  have Fm:Hid (∀i x,s.seen[i]?=some x→ ∃b o,As=some (aD b o)∧w3.cell? (aD b (o+i))=some (iV x)):=fun i x hx=>by
   obtain⟨A,C,q1,q2,q3,q4⟩:=HS.out.sn.bE Dl.out.bel;cases q1
   exact q4 i x hx
  obtain⟨m,hm⟩: ∃m,m=s.seen.length:=⟨_,rfl⟩;have HM:=hd8 hm;have H6:=mL8 H6;have H3:m≤150:=by rw[hm];exact Ba.out.seen
  have Fc:w3.cell? (aD (w.heap.size+1) 5)=some (iV d.bat.cmd):=Cc.dc.q5;have Ii:=hd8 Fc;rw[←hm]at c6 Ia;clear Cc hm HE;go_wp2_with fail;clear c6 v0;go_loopw [8,34] (fun v8 x wr=> ∃k:Nat,k≤m∧x=iV k∧v8=iV ((Sto.below d.bat.cmd (s.seen.take k):Nat):Int)∧Hid (d.bat.cmd∉s.seen.take k)∧wr=w3) (fun _ x _=>m-(intOf x).toNat)
  case atStart=>exact⟨0,c9D _,rfl,rfl,(fun z=>by cases z),rfl⟩
  case round=>
   obtain⟨k,hk,rfl,rfl,HN,rfl⟩:=hrel;by_cases I5:k<m
   ·have I6:(k:Int)<(m:Int):=by omega
    obtain⟨x,hx⟩: ∃x,s.seen[k]?=some x:=⟨s.seen[k]'(by rw[←HM.out];exact I5),c9F _⟩;obtain⟨b,o,rfl,Io⟩:=Fm.out k x hx;by_cases D6:x=d.bat.cmd
    ·have Bf:Hid (∀w',Bl w w'→dK (.returned (.tuple #[stA c.d c.s c.b (.slice Ad nd Cd) s.segs (.slice At nt Ct) (.slice (some (aD b o)) m Cs) s.u (.slice Aa na Ca),.agg #[iV 0,iV s.u,nS,iV 0,nS]])) T w w' c r):=by
      have:=Ac.out 0 s.u (by
       rw[←Ax.out,c0M F9.out (by rw[←D6];exact c9N hx)]
       rfl)
      rw[←HM.out]at this;exact this
     have Af:=Dl.out;rw[←HM.out]at Af;obtain⟨a0,a1,a2,a3,a4,a5,a6,a7,a8⟩:=Af.st.c9;obtain⟨x0,x1,x2,x3,x4,x5,x6,x7,x8,p0,p1,p2,p3,p4,p5,p6,p7,p8,y0,y1,y2,y3,y4,q0,q1,q2,q3,q4⟩:=Af.res;have Bc:=Af.bel;have I4:=beq_iff_eq.2 D6;clear Af Dl Ac Ax Fm hx HN D6;go_upto_region 10 with fail
     go_region
     go_wp2_with fail;exact bodyPost_ret (by simp[results,results32,go_sem,x0,x1,x2,x3,x4,x5,x6,x7,x8,y0,y1,y2,y3,y4]) rfl (Bf.out _ (noB Bc (by omega) (by omega) _ _ _ _ _ _ _ _ _ _ _ _ _ _).drew)
    ·have I4:(x==d.bat.cmd)=false:=by rw[beq_eq_false_iff_ne];exact D6
     have Da:=b1E (cmd:=d.bat.cmd) hx;have Gi:Hid (d.bat.cmd∉s.seen.take (k+1)):=fun z=>by
      rw[d1Y,hx]at z;rcases List.mem_append.1 z with y|y
      ·exact HN.out y
      ·have y:d.bat.cmd=x:=by simpa using y
       exact D6 y.symm
     have Hz:Sto.below d.bat.cmd (s.seen.take k)≤k:=by
      unfold Sto.below;have:=d2P (fun x=>decide (x<d.bat.cmd)) (s.seen.take k);rw[c9K]at this;omega
     by_cases H1:x<d.bat.cmd
     ·rw[if_pos H1]at Da;have Cu:Hid (Sto.below d.bat.cmd (s.seen.take (k+1))=Sto.below d.bat.cmd (s.seen.take k)+1):=Da;generalize Sto.below d.bat.cmd (s.seen.take k)=q at*;clear hx HN D6 Da;go_wp2_with fail;exact⟨⟨k+1,by omega,by go_num,by rw[Cu.out];go_num,Gi,trivial⟩,by simp[intOf];omega⟩
     ·rw[if_neg H1,d0X]at Da;have Cu:Hid (Sto.below d.bat.cmd (s.seen.take (k+1))=Sto.below d.bat.cmd (s.seen.take k)):=Da;generalize Sto.below d.bat.cmd (s.seen.take k)=q at*;clear hx HN D6 Da;go_wp2_with fail;exact⟨⟨k+1,by omega,by go_num,by rw[Cu.out],Gi,trivial⟩,by simp[intOf];omega⟩
   ·obtain rfl:k=m:=by omega
    have Fn:Hid (d.bat.cmd∉s.seen):=by
     have:=HN.out;rw[HM.out,d0L]at this;exact this
    have Hi:Hid (Sto.below d.bat.cmd (s.seen.take k)=Sto.below d.bat.cmd s.seen):=by
     show Sto.below d.bat.cmd (s.seen.take k)=_;rw[HM.out,d0L]
    have Hz:Sto.below d.bat.cmd (s.seen.take k)≤k:=by
     unfold Sto.below;have:=d2P (fun x=>decide (x<d.bat.cmd)) (s.seen.take k);rw[c9K]at this;omega
    generalize Sto.below d.bat.cmd (s.seen.take k)=at9 at*;have Cf:=Dl.out;have H4:s.seen.length=k:=HM.out.symm;rw[H4]at Cf;have I8:na=s.acc.length:=by
     obtain⟨A,C,q⟩:=HS.out.ac.sE;cases q
     rfl
    have c7:=Cf.st.q7;have c8:=Cf.st.q8;have e7:=Cf.dc.q7;have e8:=Cf.dc.q8;have D9:=hd8 Cf;obtain⟨Er,By⟩: ∃y,y=decide (0≤d.ver∧d.ver≠(Vw.get s.acc d.name).cnt):=⟨_,rfl⟩;have Bh:=hd8 By;have D8:=zO s.u t (.slice Aa na Ca) s.acc wr.drew ((HS.out.ac.bE Cf.bel).bE (Below.refl _ _).drew) Ew.out.sz;rw[Ew.out.name]at D8;unfold c3W AcV at D8;clear Dl Cf By HN Fm H4 I8;go_upto_region 14 with fail
    go_cut [69]from 56 to 69 (fun v69 wx=>v69=.bool Er∧Hid (Bl wr wx))
    case first=>
     by_cases hv:0≤d.ver
     ·have Gk:Hid (Er=(d.ver !=(Vw.get s.acc d.name).cnt)):=by
       show Er=(d.ver !=(Vw.get s.acc d.name).cnt);rw[Bh.out];by_cases q:d.ver=(Vw.get s.acc d.name).cnt
       ·rw[decide_eq_false (fun z=>z.2 q),q];simp
       ·rw[decide_eq_true ⟨hv,q⟩];exact(bne_iff_ne.2 q).symm
      have Ic:=decide_eq_true hv;have TD:wr.drew.cell? (aD w.heap.size 7)=some (iV s.u)∧wr.drew.cell? (aD w.heap.size 8)=some (.slice Aa na Ca)∧wr.drew.cell? (aD (w.heap.size+1) 7)=some (.string t)∧wr.drew.cell? (aD (w.heap.size+1) 8)=some (iV d.ver)∧Bl wr wr.drew:=⟨c7,c8,e7,e8,(Below.refl _ _).drew⟩;have A0: ∀w',Bl wr w'→w'.cell? (aD w.heap.size 7)=some (iV s.u)∧w'.cell? (aD w.heap.size 8)=some (.slice Aa na Ca)∧w'.cell? (aD (w.heap.size+1) 7)=some (.string t)∧w'.cell? (aD (w.heap.size+1) 8)=some (iV d.ver)∧Bl wr w':=fun w' hb=>⟨(D9.out.st.bE hb).q7,(D9.out.st.bE hb).q8,(D9.out.dc.bE hb).q7,(D9.out.dc.bE hb).q8,hb⟩;have I2:=fun s2 a2 o2 w'=>xS s2 a2 (Vw.get s.acc d.name).cnt o2 w';generalize (Vw.get s.acc d.name).cnt=cn at Gk D8 I2;go_region_held3 (fun w'=>w'.cell? (aD w.heap.size 7)=some (iV s.u)∧w'.cell? (aD w.heap.size 8)=some (.slice Aa na Ca)∧w'.cell? (aD (w.heap.size+1) 7)=some (.string t)∧w'.cell? (aD (w.heap.size+1) 8)=some (iV d.ver)∧Bl wr w')
       (first|with_reducible exact TD|with_reducible assumption)
       (first|(go_at_call 60;refine D8.mono ?_;rintro e6 w6 ⟨⟨v6,rfl,s6,_,_,rfl⟩,b6⟩;have S6:=A0 w6 (bt (Below.refl _ _).drew b6)))
      go_wp2_with fail;go_meet
      exact⟨by rw[Gk.out],S6.2.2.2.2⟩
     ·have Ic:=decide_eq_false hv;have By:Er=false:=by
       rw[Bh.out];exact decide_eq_false fun z=>hv z.1
      subst By;clear D8;go_quiet (fail)
      go_wp2_with fail;go_meet
      exact⟨rfl,bdn (Below.refl _ _) _⟩
    case rest=>
     obtain⟨rfl,G5⟩:=hcut;obtain⟨w6,Hc⟩: ∃y,y=wc:=⟨wc,rfl⟩;rw[←Hc]at G5⊢;have Bm:=D9.out.bE G5.out;clear Hc D9 D8 c7 c8 e7 e8 G5;cases Er with
     |true=>
      have Bf:Hid (∀w',Bl w w'→dK (.returned (.tuple #[stA c.d c.s c.b (.slice Ad nd Cd) s.segs (.slice At nt Ct) (.slice As k Cs) s.u (.slice Aa na Ca),.agg #[iV ((11:Nat):Int),iV 0,nS,iV 0,nS]])) T w w' c r):=by
       have:=Ac.out 11 0 (by
        rw[←Ax.out,c6C F9.out Fn.out (of_decide_eq_true Bh.out.symm)]
        rfl)
       rw[←HM.out]at this;exact this
      have Ar:=sQ w.heap.size 11 c.d c.s c.b s.segs s.u Ad nd Cd At nt Ct As k Cs Aa na Ca _ (Bm).st;have Au:=hd8 Bm;clear Ac Bm Ax;go_wp2_with fail;refine Ar.mono ?_;rintro e wn ⟨rfl,bn⟩;have Af:=Au.out.bE bn;obtain⟨x0,x1,x2,x3,x4,x5,x6,x7,x8,p0,p1,p2,p3,p4,p5,p6,p7,p8,y0,y1,y2,y3,y4,q0,q1,q2,q3,q4⟩:=Af.res;have Bc:=Af.bel;clear Ar Au Af bn;go_wp2_with fail;exact bodyPost_ret (by simp[results,results32,go_sem,x0,x1,x2,x3,x4,x5,x6,x7,x8,y0,y1,y2,y3,y4]) rfl (Bf.out _ (noB Bc (by omega) (by omega) _ _ _ _ _ _ _ _ _ _ _ _ _ _))
     |false=>
      have Gj:=hd8 (of_decide_eq_false Bh.out.symm);have c7:=Bm.st.q7;have c8:=Bm.st.q8;have e6:=Bm.dc.q6;have Ey:=vL s.u (.slice Aa na Ca) (.slice Ae ne Ce) s.acc d.bat.evs w6 (HS.out.ac.bE Bm.bel) (Ew.out.evs.bE Bm.bel);obtain⟨fo,G6⟩: ∃q,q=Vw.cD s.u s.acc d.bat.evs:=⟨_,rfl⟩;rw[←G6]at Ey;have Bq:=hd8 G6;obtain⟨⟨E4,i4⟩,u4,l4⟩:=fo;unfold FoR jU at Ey;have Fr:=hd8 Bm;clear Bh G6 Bm;go_wp2_with fail;refine Ey.mono ?_;rintro e w7 ⟨⟨v7,rfl,Fw,Gw⟩,b7⟩;obtain⟨Av,nv,Cv,rfl⟩:=dT Fw;have Hm:=hd8 (Gw.imp (fun z=>z.mono Fr.out.size) id);have bV:=aB8 w7 (.cells #[iV u4,.slice Av nv Cv] 30);have bW:=aB8 (w7.alloc (.cells #[iV u4,.slice Av nv Cv] 30)) (.cells #[iV E4,iV i4] 78);have VV:=(aC w7 #[iV u4,.slice Av nv Cv] 30).bE bW;have VF:=aC (w7.alloc (.cells #[iV u4,.slice Av nv Cv] 30)) #[iV E4,iV i4] 78;have H8:(w7.alloc (.cells #[iV u4,.slice Av nv Cv] 30)).heap.size=w7.heap.size+1:=d2K _;rw[H8]at VF;have Es:=(Fw.bE bV).bE bW;have Cg:=((Fr.out.bE b7).bE bV).bE bW;clear Ey Fr b7 bV bW H8 Fw Gw c7 c8 e6;go_upto_region 17 with fail
      obtain⟨w8,Hd⟩: ∃q,q=(w7.alloc (.cells #[iV u4,.slice Av nv Cv] 30)).alloc (.cells #[iV E4,iV i4] 78):=⟨_,rfl⟩;rw[←Hd]at VV VF Es Cg⊢;obtain⟨QV,Gz⟩: ∃q,q=w7.heap.size:=⟨_,rfl⟩;rw[←Gz]at VV VF⊢;have v0:=VF.q0;clear Hd Gz;by_cases Fz:E4=0
      case neg=>
       have G1:((E4:Int) !=0)=true:=by rw[bne_iff_ne];omega
       have Bf:Hid (∀w',Bl w w'→dK (.returned (.tuple #[stA c.d c.s c.b (.slice Ad nd Cd) s.segs (.slice At nt Ct) (.slice As k Cs) s.u (.slice Aa na Ca),.agg #[iV ((E4:Nat):Int),iV 0,nS,iV 0,nS]])) T w w' c r):=by
        have:=Ac.out E4 0 (by
         rw[←Ax.out,c5X F9.out Fn.out Gj.out (by rw[←Bq.out];exact Fz),←Bq.out]
         rfl)
        rw[←HM.out]at this;exact this
       have Ar:=sQ w.heap.size E4 c.d c.s c.b s.segs s.u Ad nd Cd At nt Ct As k Cs Aa na Ca _ (Cg).st;have Au:=hd8 Cg;clear Ac Cg Ax Fz Es VV VF;go_wp2_with fail;refine Ar.mono ?_;rintro e wn ⟨rfl,bn⟩;have Af:=Au.out.bE bn;obtain⟨x0,x1,x2,x3,x4,x5,x6,x7,x8,p0,p1,p2,p3,p4,p5,p6,p7,p8,y0,y1,y2,y3,y4,q0,q1,q2,q3,q4⟩:=Af.res;have Bc:=Af.bel;clear Ar Au Af bn;go_wp2_with fail;exact bodyPost_ret (by simp[results,results32,go_sem,x0,x1,x2,x3,x4,x5,x6,x7,x8,y0,y1,y2,y3,y4]) rfl (Bf.out _ (noB Bc (by omega) (by omega) _ _ _ _ _ _ _ _ _ _ _ _ _ _))
      case pos=>
       subst Fz;have De:Hid ((Vw.cD s.u s.acc d.bat.evs).1.1=0∧(Vw.cD s.u s.acc d.bat.evs).2=(u4,l4)):=by rw[←Bq.out];exact⟨rfl,rfl⟩
       obtain⟨a0,a1,a2,a3,a4,a5,a6,a7,a8⟩:=Cg.st.c9;have Gl:=kR c.d c.s c.b s.segs s.u (.slice Ad nd Cd) (.slice At nt Ct) (.slice As k Cs) (.slice Aa na Ca) s.disks w8 (HS.out.dk.bE Cg.bel) Ba.out.n1 Ba.out.n12 (fun i d hd=>Ba.out.bl hd) Ba.out.len ⟨_,_,_,rfl⟩ ⟨_,_,_,rfl⟩ ⟨_,_,_,rfl⟩;have Bs:=hd8 Cg;have Fk:=hd8 Es;have Hn:=hd8 VV;clear Bq Cg Es VV VF;go_wp2_with fail;refine Gl.mono ?_;rintro e w9 ⟨D,C,V,U,rfl,Fb,Eg,Gt,b9⟩;obtain⟨n9,Fd⟩: ∃q,q=s.disks.length:=⟨_,rfl⟩;rw[←Fd]at Fb⊢;have Dg:=hd8 Fd;have bT:=aB8 w9 (.cells #[iV c.d,iV c.s,iV c.b,.slice (some (aD D 0)) n9 C,iV s.segs,.slice At nt Ct,.slice As k Cs,iV s.u,.slice Aa na Ca] 32);have VT:=aC w9 #[iV c.d,iV c.s,iV c.b,.slice (some (aD D 0)) n9 C,iV s.segs,.slice At nt Ct,.slice As k Cs,iV s.u,.slice Aa na Ca] 32;have Bk:=Gt.bE bT;have Bw:=bt b9 bT;have Ho:w8.heap.size≤w9.heap.size:=b9.size;have G7:n9≤12:=by rw[Fd];exact Ba.out.n12
       have Eg:=mL8 Eg;clear Gl Gt b9 bT a0 a1 a2 a3 a4 a5 a6 a7 a8 v0 Fd;go_upto_region 20 with fail
       obtain⟨B4,El⟩: ∃q,q=w9.alloc (.cells #[iV c.d,iV c.s,iV c.b,.slice (some (aD D 0)) n9 C,iV s.segs,.slice At nt Ct,.slice As k Cs,iV s.u,.slice Aa na Ca] 32):=⟨_,rfl⟩;rw[←El]at VT Bk Bw⊢;obtain⟨QT,G3⟩: ∃q,q=w9.heap.size:=⟨_,rfl⟩;rw[←G3]at VT⊢;have Ik:w8.heap.size≤QT:=by rw[G3];exact Ho
       have Ak:=Bs.out.bE Bw;obtain⟨tc,t1,t2,t3,t4⟩:=a9M Ft.out.tl;obtain⟨G8,Gq,H9⟩:=t4 At nt Ct rfl;have Gn:Hid (tc.length=s.tail.length∧(∀(i:Nat) (x:Int×Value) (b:Evt.Bat),tc[i]?=some x→s.tail[i]?=some b→b.cmd=x.1∧Evs (aS T w) x.2 b.evs)∧nt=s.tail.length):=⟨t1,t2,G8⟩;have H5:nt≤10:=by
        have:=Ba.out.tail;have:=Ba.out.b10;omega
       have Ck:(tc.flatMap dG).length=nt*2:=by rw[fX dG 2 _ (fun _ _=>rfl),t1,G8]
       obtain⟨⟨A1,n1,C1,x1,A2,n2,C2,y1,r1,B1,r2,R2⟩,⟨A3,n3,C3,x3,A4,n4,C4,y3,r3,B3,r4,R4⟩,⟨A5,n5,C5,x5,A6,n6,C6,y5,r5,B5,r6,R6⟩⟩:=yU (t:=26) underlying26 Tryz.infoBatch rfl (by decide) (by decide) B4 At nt Ct Gq (tc.flatMap dG) Ck (fun a ha j v hj=>fC.oE Ak.bel _ _ (mG T w _ _ (H9 a ha j v hj))) t3 (by omega) #[iV d.bat.cmd,.slice Ae ne Ce] rfl (by simp[Value.oneCell']);have A0: ∀w',Bl B4 w'→w'.cell? (aD w.heap.size 5)=some (.slice At nt Ct)∧w'.cell? (aD (w.heap.size+1) 5)=some (iV d.bat.cmd)∧w'.cell? (aD (w.heap.size+1) 6)=some (.slice Ae ne Ce):=fun w' hb=>⟨(Ak.st.bE hb).q5,(Ak.dc.bE hb).q5,(Ak.dc.bE hb).q6⟩;have Hr:w.heap.size+1<w8.heap.size:=by have:=Bs.out.size;omega
       have Aj: ∀w' v,Bl B4 w'→(w'.setCell (aD QT 5) v).cell? (aD w.heap.size 5)=some (.slice At nt Ct)∧(w'.setCell (aD QT 5) v).cell? (aD (w.heap.size+1) 5)=some (iV d.bat.cmd)∧(w'.setCell (aD QT 5) v).cell? (aD (w.heap.size+1) 6)=some (.slice Ae ne Ce):=fun w' v hb=>⟨((Ak.st.bE hb).off (aG w' (aD QT 5) v) (by show¬w.heap.size=QT;omega)).q5,((Ak.dc.bE hb).off (aG w' (aD QT 5) v) (by show¬w.heap.size+1=QT;omega)).q5,((Ak.dc.bE hb).off (aG w' (aD QT 5) v) (by show¬w.heap.size+1=QT;omega)).q6⟩;have bA: ∀o,Bl B4 (B4.alloc o):=fun o=>(Below.refl _ _).alloc (c9C _) o;have TD:=A0 B4.drew (Below.refl _ _).drew;have T1:=hd8 fun o=>A0 (B4.alloc o).drew (bA o).drew;have T2:=hd8 fun o o'=>A0 ((B4.alloc o).alloc o').drew ((bA o).alloc (bA o).size o').drew;have T3:=hd8 (A0 x1 B1);have T4:=hd8 fun o=>A0 (x1.alloc o) (B1.alloc B1.size o);have T5:=hd8 (A0 x3 B3);have T6:=hd8 (A0 x5 B5);have T7:=hd8 (A0 y1 R2.bel);have T8:=hd8 (A0 y3 R4.bel);have T9:=hd8 (A0 y5 R6.bel);have S7:=hd8 fun v=>Aj y1 v R2.bel;have S8:=hd8 fun v=>Aj y3 v R4.bel;have S9:=hd8 fun v=>Aj y5 v R6.bel;have k7:=(VT.bE R2.bel).q5;have k8:=(VT.bE R4.bel).q5;have k9:=(VT.bE R6.bel).q5;have z7:=(VT.bE R2.bel).frozen 5;have z8:=(VT.bE R4.bel).frozen 5;have z9:=(VT.bE R6.bel).frozen 5;have F8:=hd8 VT;have Gg:=hd8 Bk;have Dd:=hd8 Bw;have F2:Hid (∃wf A n C',Value.slice A2 n2 C2=.slice A n C'∧RG B4 wf 47 2 (.slice A2 n2 C2) (nt+1) (tc.flatMap dG++[iV d.bat.cmd,.slice Ae ne Ce])∧y1.setCell (aD QT 5) (.slice A2 n2 C2)=wf.setCell (aD QT 5) (.slice A2 n2 C2)):=⟨y1,A2,n2,C2,rfl,R2,rfl⟩;have F4:Hid (∃wf A n C',Value.slice A4 n4 C4=.slice A n C'∧RG B4 wf 47 2 (.slice A4 n4 C4) (nt+1) (tc.flatMap dG++[iV d.bat.cmd,.slice Ae ne Ce])∧y3.setCell (aD QT 5) (.slice A4 n4 C4)=wf.setCell (aD QT 5) (.slice A4 n4 C4)):=⟨y3,A4,n4,C4,rfl,R4,rfl⟩;have F6:Hid (∃wf A n C',Value.slice A6 n6 C6=.slice A n C'∧RG B4 wf 47 2 (.slice A6 n6 C6) (nt+1) (tc.flatMap dG++[iV d.bat.cmd,.slice Ae ne Ce])∧y5.setCell (aD QT 5) (.slice A6 n6 C6)=wf.setCell (aD QT 5) (.slice A6 n6 C6)):=⟨y5,A6,n6,C6,rfl,R6,rfl⟩;clear A0 Aj bA B1 B3 B5 R2 R4 R6 Ak VT Bk Bw t1 t2 t3 t4 Gq H9 Ck G8 El G3;go_cut [101]from 94 to 102 (fun v wx=>Hid (∃wf A n C',v=.slice A n C'∧RG B4 wf 47 2 v (nt+1) (tc.flatMap dG++[iV d.bat.cmd,.slice Ae ne Ce])∧wx=wf.setCell (aD QT 5) v))
       case first=>
        go_region_held3 (fun w'=>w'.cell? (aD w.heap.size 5)=some (.slice At nt Ct)∧w'.cell? (aD (w.heap.size+1) 5)=some (iV d.bat.cmd)∧w'.cell? (aD (w.heap.size+1) 6)=some (.slice Ae ne Ce))
         (first|with_reducible exact TD|with_reducible assumption|with_reducible exact T1.out _|with_reducible exact T2.out _ _|with_reducible exact T3.out|with_reducible exact T4.out _|with_reducible exact T5.out|with_reducible exact T6.out|with_reducible exact T7.out|with_reducible exact T8.out|with_reducible exact T9.out|with_reducible exact S7.out _|with_reducible exact S8.out _|with_reducible exact S9.out _)
         (first|(refine cC r1 (.tmp 94) (.tmp 96) (by with_reducible rfl) (by rfl) (by rfl) (by rfl) (by rfl) (by rfl) ?_)|(refine cC r3 (.tmp 94) (.tmp 96) (by with_reducible rfl) (by rfl) (by rfl) (by rfl) (by rfl) (by rfl) ?_)|(refine cC r5 (.tmp 94) (.tmp 96) (by with_reducible rfl) (by rfl) (by rfl) (by rfl) (by rfl) (by rfl) ?_)|(refine cC r2 (.tmp 97) (.tmp 100) (by with_reducible rfl) (by rfl) (by rfl) (by rfl) (by rfl) (by rfl) ?_)|(refine cC r4 (.tmp 97) (.tmp 100) (by with_reducible rfl) (by rfl) (by rfl) (by rfl) (by rfl) (by rfl) ?_)|(refine cC r6 (.tmp 97) (.tmp 100) (by with_reducible rfl) (by rfl) (by rfl) (by rfl) (by rfl) (by rfl) ?_))
        all_goals go_wp2_with fail
        all_goals go_meet
        all_goals first|with_reducible exact F2|with_reducible exact F4|with_reducible exact F6
       case rest=>
        obtain⟨wf,A7,n7,C7,Fg,B8,Bo⟩:=hcut.out;obtain⟨Bb,Em⟩: ∃y,y=wc:=⟨wc,rfl⟩;rw[←Em]at Bo⊢;have Fe:Off (fun k=>k=QT) B4 Bb:=by
         rw[Bo];exact(Off.oE B8.bel).trans (aG wf (aD QT 5) _)
        have B9:Off (fun k=>k=QT) wf Bb:=by
         rw[Bo];exact aG wf (aD QT 5) _
        have Gy:QT<B4.heap.size:=aZ.lt F8.out
        have Bt:=(Bs.out.bE Dd.out).off Fe (fun q hq=>by
         have:=Bs.out.size;have hq:q=QT:=hq
         omega)
        have Ee:Bl w8 Bb:=Dd.out.trans (Fe.bE Dd.out.size fun q hq=>by
         have hq:q=QT:=hq
         omega)
        obtain⟨Hf,Hg,Gc⟩:=Gn.out;have Et:Hid (∀wE,Off (fun q=>q=QT∨q=w.heap.size+1+1∨q=w.heap.size+1+1+1∨T q=true) Bb wE→eS wE (.slice A7 n7 C7) (s.tail++[d.bat])):=fun wE ho=>by
         rw[←Fg]
         exact b8D B8 ((B9.wider fun _ z=>Or.inl z).trans ho) (fun q hq=>by
          have:=Bs.out.size;have:=Dd.out.size;rcases hq with z|z|z|z
          ·omega
          ·omega
          ·omega
          ·have:=HT.out q z
           omega) (sP (Off.down Bt.bel ho fun q hq z=>by
          have:=Bs.out.size;rcases z with z|z|z|z
          ·omega
          ·omega
          ·omega
          ·exact z)) Hf Hg Gc Hj.out.evs
        have I7:n7=nt+1:=by
         obtain⟨A,C',q,_⟩:=bJ B8.own;rw[Fg]at q;cases q
         rfl
        rw[I7]at Fg Et;subst Fg;have Aq:=(F8.out.bE B8.bel).set 5 (.slice A7 (nt+1) C7) (show 5<9 by decide);rw[←Bo]at Aq;have Aq:aV Bb QT 32 (stL c (.slice (some (aD D 0)) n9 C) s.segs (.slice A7 (nt+1) C7) (.slice As k Cs) s.u (.slice Aa na Ca)):=Aq;have Az:=Gg.out.off Fe (fun q hq=>⟨32,by subst hq;exact F8.out.ty,by decide,by decide,by decide⟩);have Bg:Hid (Sto.put X c s d=if (Sto.eU X c s d.bat (u4,l4)).1≠0 then(s,Sto.no (Sto.eU X c s d.bat (u4,l4)).1)else((Sto.eU X c s d.bat (u4,l4)).2,Sto.told u4)):=by
         have:=c1C (X:=X) (c:=c) F9.out Fn.out Gj.out De.out.1;rw[De.out.2]at this;exact this
        have Br:=hd8 Bt;have Bi:=hd8 Aq;have Bp:=hd8 Az;have F5:=hd8 Bs.out.size;have Hp:w8.heap.size≤D:=Az.ge;have Gs:QT≠D:=Aq.ty.ne Az.row.ty (by decide);obtain⟨S,Cj⟩: ∃S:Nat→Bool,S=fun q=>decide (q=D∨q=QT∨q=w.heap.size+1+1∨q=w.heap.size+1+1+1∨T q=true):=⟨_,rfl⟩;have Dm:Hid (∀q,S q=true↔(q=D∨q=QT∨q=w.heap.size+1+1∨q=w.heap.size+1+1+1∨T q=true)):=fun q=>by
         rw[Cj];exact decide_eq_true_iff
        have Cu:Hid (∀q,(q=QT∨q=w.heap.size+1+1∨q=w.heap.size+1+1+1∨T q=true)→S q=true∧q≠D):=fun q hq=>⟨(Dm.out q).2 (Or.inr hq),fun e=>by
         have:=F5.out;rcases hq with z|z|z|z
         ·exact Gs (z.symm.trans e)
         ·omega
         ·omega
         ·have:=HT.out q z
          omega⟩
        have Cr:Hid (∀w',dM w' w8.heap.size D V U s.disks→aV w' QT 32 (stL c (.slice (some (aD D 0)) n9 C) s.segs (.slice A7 (nt+1) C7) (.slice As k Cs) s.u (.slice Aa na Ca))→DkJ w' S D V s.disks):=fun w' hk hv=>hk.dkJ (S:=S) ((Dm.out D).2 (Or.inl rfl)) (fun q hq=>by
         have:=F5.out;rcases(Dm.out q).1 hq with rfl|rfl|z|z|z
         ·exact Or.inr ⟨58,hk.row.ty,by decide,by decide⟩
         ·exact Or.inr ⟨32,hv.ty,by decide,by decide⟩
         ·exact Or.inl (by omega)
         ·exact Or.inl (by omega)
         ·have:=HT.out q z
          exact Or.inl (by omega))
        have Cn:=hd8 Ee;have Fo:=hd8 Gc;have j5:=Aq.q5;have j2:=Bt.st.q2;have In:c.b≤10:=Ba.out.b10;clear Cj Bt Aq Az Ee Hf Hg Gc B8 Bo Fe B9 hcut Gn F8 Gg Dd Em;go_upto_if 109 with fail
        go_cut [14,15,16,17]from 109 to 153 (fun _v14 _v15 _v16 _v17 wx=>Hid (∃(G:Nat) (A9:Option Addr) (n8 C9:Nat) (ds:List Sto.aM) (tl:List Evt.Bat),aV wx QT 32 (stL c (.slice (some (aD D 0)) n9 C) (G:Int) (.slice A9 n8 C9) (.slice As k Cs) s.u (.slice Aa na Ca))∧PJ w wx (stL c (.slice Ad nd Cd) s.segs (.slice At nt Ct) (.slice As k Cs) s.u (.slice Aa na Ca)) (dX d (.slice Ae ne Ce) t)∧Bl w8 wx∧(∀wE,Off (fun q=>q=QT∨q=w.heap.size+1+1∨q=w.heap.size+1+1+1∨T q=true) wx wE→Dks wE (.slice (some (aD D 0)) n9 C) ds∧eS wE (.slice A9 n8 C9) tl)∧r=(⟨ds,G,tl,s.seen.take (Sto.below d.bat.cmd s.seen)++d.bat.cmd::s.seen.drop (Sto.below d.bat.cmd s.seen),u4,l4⟩,⟨0,u4,[],0,[]⟩)))
        case first=>
         by_cases hL:nt+1<c.b
         ·have Hq:(nt:Int)+1<(c.b:Int):=by omega
          have Cw:Hid (∃(G:Nat) (A9:Option Addr) (n8 C9:Nat) (ds:List Sto.aM) (tl:List Evt.Bat),aV Bb QT 32 (stL c (.slice (some (aD D 0)) n9 C) (G:Int) (.slice A9 n8 C9) (.slice As k Cs) s.u (.slice Aa na Ca))∧PJ w Bb (stL c (.slice Ad nd Cd) s.segs (.slice At nt Ct) (.slice As k Cs) s.u (.slice Aa na Ca)) (dX d (.slice Ae ne Ce) t)∧Bl w8 Bb∧(∀wE,Off (fun q=>q=QT∨q=w.heap.size+1+1∨q=w.heap.size+1+1+1∨T q=true) Bb wE→Dks wE (.slice (some (aD D 0)) n9 C) ds∧eS wE (.slice A9 n8 C9) tl)∧r=(⟨ds,G,tl,s.seen.take (Sto.below d.bat.cmd s.seen)++d.bat.cmd::s.seen.drop (Sto.below d.bat.cmd s.seen),u4,l4⟩,⟨0,u4,[],0,[]⟩)):=by
           refine⟨s.segs,A7,nt+1,C7,s.disks,s.tail++[d.bat],Bi.out,Br.out,Cn.out,fun wE ho=>?_,?_⟩
           ·have hj:=(Cr.out _ Bp.out Bi.out).offS ho Cu.out;have:=hj.dks (C:=C) (by rw[←Dg.out];exact Fb) (by unfold maxLen;exact Eg);rw[←Dg.out]at this;exact⟨this,Et.out wE ho⟩
           ·rw[←Ax.out,Bg.out,b9R (by rw[←Fo.out];exact hL),if_neg (fun z=>z rfl)];rfl
          clear hL;go_wp2_with fail;go_meet
          exact Cw
         ·have Hq: ¬(nt:Int)+1<(c.b:Int):=by omega
          have Ez:Hid (¬s.tail.length+1<c.b):=by rw[←Fo.out];exact hL
          have Eu:=a0H (.slice A7 (nt+1) C7) (s.tail++[d.bat]) Bb (Et.out _ (Off.refl _ _));generalize (Evt.aF (s.tail++[d.bat])).2=i5 at Eu;obtain⟨E5,G0⟩: ∃q,q=(Evt.aF (s.tail++[d.bat])).1:=⟨_,rfl⟩;rw[←G0]at Eu;have Ex:=hd8 G0;clear G0;go_wp2_with fail;refine Eu.mono ?_;rintro e Fh ⟨v12,rfl,D2,Gp⟩;obtain⟨Ab,Ie,Cb,rfl⟩: ∃A n C,v12=.slice A n C:=by
           obtain⟨A,C,q,_⟩:=bJ D2;exact⟨A,_,C,q⟩
          have bF:=aB8 Fh (.cells #[iV E5,iV i5] 78);have VF:=aC Fh #[iV E5,iV i5] 78;have Bx:=bt Gp bF;have Ag:=D2.bE bF;clear Eu Gp bF D2 j5 j2;go_upto_region 23 with fail
          obtain⟨Gd,En⟩: ∃q,q=Fh.alloc (.cells #[iV E5,iV i5] 78):=⟨_,rfl⟩;rw[←En]at VF Bx Ag⊢;obtain⟨QF,Gx⟩: ∃q,q=Fh.heap.size:=⟨_,rfl⟩;rw[←Gx]at VF⊢;have v0:=VF.q0;have Am:=Br.out.bE Bx;clear En Gx VF;by_cases Bn:E5=0
          case neg=>
           have G1:((E5:Int) !=0)=true:=by rw[bne_iff_ne];omega
           have Bf:Hid (∀w',Bl w w'→dK (.returned (.tuple #[stA c.d c.s c.b (.slice Ad nd Cd) s.segs (.slice At nt Ct) (.slice As k Cs) s.u (.slice Aa na Ca),.agg #[iV ((E5:Nat):Int),iV 0,nS,iV 0,nS]])) T w w' c r):=by
            have:=Ac.out E5 0 (by
             rw[←Ax.out,Bg.out,b1Q Ez.out (by rw[←Ex.out];exact Bn),←Ex.out,if_pos Bn]
             rfl)
            rw[←HM.out]at this;exact this
           have Ar:=sQ w.heap.size E5 c.d c.s c.b s.segs s.u Ad nd Cd At nt Ct As k Cs Aa na Ca _ (Am).st;have Au:=hd8 Am;clear Ac Am Ax Bn Ag;go_wp2_with fail;refine Ar.mono ?_;rintro e wn ⟨rfl,bn⟩;have Af:=Au.out.bE bn;obtain⟨x0,x1,x2,x3,x4,x5,x6,x7,x8,p0,p1,p2,p3,p4,p5,p6,p7,p8,y0,y1,y2,y3,y4,q0,q1,q2,q3,q4⟩:=Af.res;have Bc:=Af.bel;clear Ar Au Af bn;go_wp2_with fail;exact bodyPost_ret (by simp[results,results32,go_sem,x0,x1,x2,x3,x4,x5,x6,x7,x8,y0,y1,y2,y3,y4]) rfl (Bf.out _ (noB Bc (by omega) (by omega) _ _ _ _ _ _ _ _ _ _ _ _ _ _))
          case pos=>
           have Ds:Hid ((Evt.aF (s.tail++[d.bat])).1=0):=by rw[←Ex.out];exact Bn
           subst Bn;have Ej:rE (s.tail++[d.bat])=Evt.iK (s.tail++[d.bat]):=if_pos Ds.out;rw[Ej]at Ag;have Ei:=c0U Ag (Sto.qU Ds.out);have Df:=a8H HX.out (.slice Ab Ie Cb) (Evt.iK (s.tail++[d.bat])) s.segs c Gd Ei;obtain⟨xl,Gb⟩: ∃q,q=X.lay (Evt.iK (s.tail++[d.bat])) s.segs c:=⟨_,rfl⟩;rw[←Gb]at Df;have Dt:=hd8 Gb;obtain⟨E6,L6⟩:=xl;unfold BlP at Df;have g0:=Am.st.q0;have g1:=Am.st.q1;have g4:=Am.st.q4;have Fq:=hd8 Am;clear Ag Ei Gb Ej Am;go_wp2_with fail;refine Df.mono ?_;rintro e Hh ⟨⟨v14,rfl,hO⟩,Fv⟩;have B6:=Fq.out.bE Fv;have Ay:=bt Bx Fv;by_cases Eh:E6=0
           case neg=>
            have G9:v14=nS:=by
             rcases hO with q|q
             ·exact absurd q.1 Eh
             ·exact q.2
            subst G9;have G1:((E6:Int) !=0)=true:=by rw[bne_iff_ne];omega
            have Bf:Hid (∀w',Bl w w'→dK (.returned (.tuple #[stA c.d c.s c.b (.slice Ad nd Cd) s.segs (.slice At nt Ct) (.slice As k Cs) s.u (.slice Aa na Ca),.agg #[iV ((E6:Nat):Int),iV 0,nS,iV 0,nS]])) T w w' c r):=by
             have:=Ac.out E6 0 (by
              rw[←Ax.out,Bg.out,b5R Ez.out Ds.out (by rw[←Dt.out];exact Eh),←Dt.out,if_pos Eh]
              rfl)
             rw[←HM.out]at this;exact this
            have Ar:=sQ w.heap.size E6 c.d c.s c.b s.segs s.u Ad nd Cd At nt Ct As k Cs Aa na Ca _ (B6).st;have Au:=hd8 B6;clear Ac B6 Ax Eh hO Df g0 g1 g4;go_wp2_with fail;refine Ar.mono ?_;rintro e wn ⟨rfl,bn⟩;have Af:=Au.out.bE bn;obtain⟨x0,x1,x2,x3,x4,x5,x6,x7,x8,p0,p1,p2,p3,p4,p5,p6,p7,p8,y0,y1,y2,y3,y4,q0,q1,q2,q3,q4⟩:=Af.res;have Bc:=Af.bel;clear Ar Au Af bn;go_wp2_with fail;exact bodyPost_ret (by simp[results,results32,go_sem,x0,x1,x2,x3,x4,x5,x6,x7,x8,y0,y1,y2,y3,y4]) rfl (Bf.out _ (noB Bc (by omega) (by omega) _ _ _ _ _ _ _ _ _ _ _ _ _ _))
           case pos=>
            subst Eh;have Fx:BlM Hh Gd.heap.size v14 L6:=by
             rcases hO with q|q
             ·exact q.2
             ·exact absurd rfl q.1
            have Hl:Hid (Sto.eU X c s d.bat (u4,l4)=(0,⟨Sto.write s.segs L6 0 s.disks,s.segs+1,[],s.seen.take (Sto.below d.bat.cmd s.seen)++d.bat.cmd::s.seen.drop (Sto.below d.bat.cmd s.seen),u4,l4⟩)):=by
             have:=b7P (X:=X) (v:=(u4,l4)) Ez.out Ds.out (by rw[←Dt.out]);rw[←Dt.out]at this;exact this
            have Gv:L6.length=n9:=by
             have:=Dt.out;rw[HX.out.lay]at this;rw[(Sto.oE this.symm).2.1,Dg.out,Ba.out.dl]
            have Bu:=Bi.out.bE Ay;have Ci:=Bp.out.bE Ay;have D0: ∀q,S q=true→q<Gd.heap.size:=fun q hq=>by
             have h1:D<Bb.heap.size:=Bp.out.row.lt;have h2:QT<Bb.heap.size:=aZ.lt Bi.out;have h3:=Br.out.size;have h4:=Bx.size;rcases(Dm.out q).1 hq with z|z|z|z|z
             ·omega
             ·omega
             ·omega
             ·omega
             ·have:=HT.out q z;omega
            have Ch:=Cr.out _ Ci Bu;have Go:=sG S QT D n9 C c.d c.s c.b s.segs s.u s.segs (.slice A7 (nt+1) C7) (.slice As k Cs) (.slice Aa na Ca) v14 L6 V s.disks Hh Bu Ch (fun q hq=>c9P (D0 q hq) Fv.size) Dg.out G7 Fb (by unfold maxLen;exact Eg) (fun i d hd=>Ba.out.bl hd) (Fx.2 S D0) Gv;obtain⟨Al,nl,Cl,rfl⟩: ∃A n C,v14=.slice A n C:=by
             obtain⟨A,C,q⟩:=Fx.1.sE;exact⟨A,_,C,q⟩
            have Dp:=hd8 Bu;have Di:=hd8 B6;have Co:=hd8 (bt Cn.out Ay);have s4:=B6.st.q4;clear hO Df B6 Fx Ch D0 Bu Ci g0 g1 g4 Ex Ds Ez Ay Gv;go_wp2_with fail;refine Go.mono ?_;rintro e Cm ⟨rfl,⟨V',Gr⟩,B0⟩;have B7:=Dp.out.off B0 Gs
            have Cx:=Di.out.off B0 (fun q hq=>by
             have hq:q=D:=hq;have:=F5.out
             omega)
            have Ef:Bl w8 Cm:=Co.out.trans (B0.bE Co.out.size fun q hq=>by
             have hq:q=D:=hq
             omega)
            have g4:=Cx.st.q4;have t4:=B7.q4;have t5:=B7.q5;have Iq:=B7.frozen 4;have Ir:=B7.frozen 5;have Ip:s.segs≤40:=Ba.out.segs;have Dq:=hd8 B7;have Dj:=hd8 Cx;have Cp:=hd8 Ef;have Gf:=hd8 Gr;clear Go Gr B0 B7 Cx Ef s4 Dp Di Co;have Cw:Hid (∃(G:Nat) (A9:Option Addr) (n8 C9:Nat) (ds:List Sto.aM) (tl:List Evt.Bat),aV ((Cm.setCell (aD QT 4) (iV ((s.segs:Int)+1))).setCell (aD QT 5) nS) QT 32 (stL c (.slice (some (aD D 0)) n9 C) (G:Int) (.slice A9 n8 C9) (.slice As k Cs) s.u (.slice Aa na Ca))∧PJ w ((Cm.setCell (aD QT 4) (iV ((s.segs:Int)+1))).setCell (aD QT 5) nS) (stL c (.slice Ad nd Cd) s.segs (.slice At nt Ct) (.slice As k Cs) s.u (.slice Aa na Ca)) (dX d (.slice Ae ne Ce) t)∧Bl w8 ((Cm.setCell (aD QT 4) (iV ((s.segs:Int)+1))).setCell (aD QT 5) nS)∧(∀wE,Off (fun q=>q=QT∨q=w.heap.size+1+1∨q=w.heap.size+1+1+1∨T q=true) ((Cm.setCell (aD QT 4) (iV ((s.segs:Int)+1))).setCell (aD QT 5) nS) wE→Dks wE (.slice (some (aD D 0)) n9 C) ds∧eS wE (.slice A9 n8 C9) tl)∧r=(⟨ds,G,tl,s.seen.take (Sto.below d.bat.cmd s.seen)++d.bat.cmd::s.seen.drop (Sto.below d.bat.cmd s.seen),u4,l4⟩,⟨0,u4,[],0,[]⟩)):=by
             have D4:Off (fun q=>q=QT) Cm ((Cm.setCell (aD QT 4) (iV ((s.segs:Int)+1))).setCell (aD QT 5) nS):=(aG Cm (aD QT 4) _).trans (aG _ (aD QT 5) _);refine⟨s.segs+1,none,0,0,Sto.write s.segs L6 0 s.disks,[],(Dq.out.set 4 _ (show 4<9 by decide)).set 5 _ (show 5<9 by decide),Dj.out.off D4 (fun q hq=>?_),Cp.out.trans (D4.bE Cp.out.size fun q hq=>?_),fun wE ho=>?_,?_⟩
             ·have hq:q=QT:=hq;have:=F5.out;omega
             ·have hq:q=QT:=hq;omega
             ·have I1:=Gf.out.offS ((D4.wider fun _ z=>Or.inl z).trans ho) Cu.out;have H2:(Sto.write s.segs L6 0 s.disks).length=n9:=by rw[Sto.cK,Dg.out]
              have:=I1.dks (C:=C) (by rw[H2];exact Fb) (by unfold maxLen;exact Eg);rw[H2]at this;exact⟨this,eS.nil8 _⟩
             ·rw[←Ax.out,Bg.out,Hl.out,if_neg (fun z=>z rfl)];rfl
            clear Dq Dj Cp Gf;go_wp2_with fail;go_meet
            exact Cw
        case rest=>
         obtain⟨G,A9,n8,C9,ds,tl,G4,G2,Fy,Cz,H0⟩:=hcut.out;obtain⟨wz,He⟩: ∃y,y=wc:=⟨wc,rfl⟩;rw[←He]at G4 G2 Fy Cz⊢;have Ah:=hd8 G4;have Aw:=hd8 G2;have Fl:=hd8 Fy;have Fu:=hd8 Cz;have Cw:=H0;have Cw:=hd8 Cw;clear hcut G4 G2 Fy Cz H0 He Cu Dm Cr Bg Fo Et Br Bi Bp Cn j5 j2;go_upto_region 30 with fail
         have Hr:w.heap.size+1<QT:=by
          have:=Bs.out.size;omega
         have Fp:Hid (Nms wz (.slice As k Cs) s.seen):=by
          have:=HS.out.sn.bE Aw.out.bel;rw[←HM.out]at this;exact this
         have Hx:(at9:Int)≤(k:Int):=by omega
         have Hy:(at9:Int)≤(Cs:Int):=by omega
         have I3:(k:Int)≤(Cs:Int):=by omega
         go_cut [169]from 154 to 170 (fun v wx=>Hid (∃wf A n C',v=.slice A n C'∧RG wz wf 3 1 v (k+1) ((s.seen.take at9++d.bat.cmd::s.seen.drop at9).flatMap aE)∧wx=wf.setCell (aD QT 6) v))
         case first=>
          cases As with
          |none=>
           obtain⟨e0,_⟩:=Fs.out _ _ _ rfl;obtain rfl:Cs=0:=e0 rfl;obtain rfl:k=0:=by omega
           obtain rfl:at9=0:=by omega
           have A0: ∀w',Bl wz w'→w'.cell? (aD w.heap.size 6)=some nS∧w'.cell? (aD (w.heap.size+1) 5)=some (iV d.bat.cmd):=fun w' hb=>⟨(Aw.out.st.bE hb).q6,(Aw.out.dc.bE hb).q5⟩;have Aj: ∀w' v,Bl wz w'→(w'.setCell (aD QT 6) v).cell? (aD w.heap.size 6)=some nS∧(w'.setCell (aD QT 6) v).cell? (aD (w.heap.size+1) 5)=some (iV d.bat.cmd):=fun w' v hb=>⟨((Aw.out.st.bE hb).off (aG w' (aD QT 6) v) (by show¬w.heap.size=QT;omega)).q6,((Aw.out.dc.bE hb).off (aG w' (aD QT 6) v) (by show¬w.heap.size+1=QT;omega)).q5⟩;have bA: ∀o,Bl wz (wz.alloc o):=fun o=>(Below.refl _ _).alloc (c9C _) o;have Be:Hid (∀(wf:World) (v:Value),RG wz wf 3 1 v (0+1+0) ((s.seen.take 0++d.bat.cmd::s.seen.drop 0).flatMap aE)→RG wz wf 3 1 v (0+1) ((s.seen.take 0++d.bat.cmd::s.seen.drop 0).flatMap aE)):=fun wf v hR=>by
            rw[show 0+1+0=0+1 by omega]at hR;exact hR
           obtain⟨⟨A1,n1,C1,x1,A2,n2,C2,y1,A7,n7,C7,z1,r1,B1,r2,D1,r3,R3⟩,⟨A3,n3,C3,x3,A4,n4,C4,y3,A8,n8,C8,z3,r4,B3,r5,D3,r6,R6⟩,⟨A5,n5,C5,x5,A6,n6,C6,y5,A9,Ao,C9,z5,r7,B5,r8,D5,r9,R9⟩⟩:=tX wz none 0 0 (fun _=>rfl) (s.seen.take 0) rfl (fun a ha=>by cases ha) d.bat.cmd none 0 0 (fun _=>rfl) (s.seen.drop 0) (by rw[List.length_drop,←HM.out]) (fun a ha=>by cases ha) (by omega) (by omega);have TD:=A0 wz.drew (Below.refl _ _).drew;have T1:=hd8 fun o=>A0 (wz.alloc o).drew (bA o).drew;have T2:=hd8 fun o o'=>A0 ((wz.alloc o).alloc o').drew ((bA o).alloc (bA o).size o').drew;have Dv:=hd8 (A0 x1 B1);have Dw:=hd8 fun o=>A0 (x1.alloc o) (B1.alloc B1.size o);have Dx:=hd8 (A0 y1 D1);have Dy:=hd8 (A0 z1 R3.bel);have Dz:=hd8 fun v=>Aj z1 v R3.bel;have k0:=(Ah.out.bE R3.bel).q6;have q0:=(Ah.out.bE R3.bel).frozen 6;have F0:Hid (∃wf A n C',Value.slice A7 n7 C7=.slice A n C'∧RG wz wf 3 1 (.slice A7 n7 C7) (0+1) ((s.seen.take 0++d.bat.cmd::s.seen.drop 0).flatMap aE)∧z1.setCell (aD QT 6) (.slice A7 n7 C7)=wf.setCell (aD QT 6) (.slice A7 n7 C7)):=⟨z1,A7,n7,C7,rfl,Be.out _ _ R3,rfl⟩;have E0:=hd8 (A0 x3 B3);have E1:=hd8 fun o=>A0 (x3.alloc o) (B3.alloc B3.size o);have E3:=hd8 (A0 y3 D3);have E7:=hd8 (A0 z3 R6.bel);have E8:=hd8 fun v=>Aj z3 v R6.bel;have k1:=(Ah.out.bE R6.bel).q6;have q1:=(Ah.out.bE R6.bel).frozen 6;have F1:Hid (∃wf A n C',Value.slice A8 n8 C8=.slice A n C'∧RG wz wf 3 1 (.slice A8 n8 C8) (0+1) ((s.seen.take 0++d.bat.cmd::s.seen.drop 0).flatMap aE)∧z3.setCell (aD QT 6) (.slice A8 n8 C8)=wf.setCell (aD QT 6) (.slice A8 n8 C8)):=⟨z3,A8,n8,C8,rfl,Be.out _ _ R6,rfl⟩;have E9:=hd8 (A0 x5 B5);have Ea:=hd8 fun o=>A0 (x5.alloc o) (B5.alloc B5.size o);have Eb:=hd8 (A0 y5 D5);have Ec:=hd8 (A0 z5 R9.bel);have Ed:=hd8 fun v=>Aj z5 v R9.bel;have k2:=(Ah.out.bE R9.bel).q6;have q2:=(Ah.out.bE R9.bel).frozen 6;have F2:Hid (∃wf A n C',Value.slice A9 Ao C9=.slice A n C'∧RG wz wf 3 1 (.slice A9 Ao C9) (0+1) ((s.seen.take 0++d.bat.cmd::s.seen.drop 0).flatMap aE)∧z5.setCell (aD QT 6) (.slice A9 Ao C9)=wf.setCell (aD QT 6) (.slice A9 Ao C9)):=⟨z5,A9,Ao,C9,rfl,Be.out _ _ R9,rfl⟩;clear A0 Aj bA B1 B3 B5 D1 D3 D5 R3 R6 R9;go_region_held3 (fun w'=>w'.cell? (aD w.heap.size 6)=some nS∧w'.cell? (aD (w.heap.size+1) 5)=some (iV d.bat.cmd))
            (first|with_reducible assumption|with_reducible exact TD|with_reducible exact T1.out _|with_reducible exact T2.out _ _|with_reducible exact Dv.out|with_reducible exact Dw.out _|with_reducible exact Dx.out|with_reducible exact Dy.out|with_reducible exact Dz.out _|with_reducible exact E0.out|with_reducible exact E1.out _|with_reducible exact E3.out|with_reducible exact E7.out|with_reducible exact E8.out _|with_reducible exact E9.out|with_reducible exact Ea.out _|with_reducible exact Eb.out|with_reducible exact Ec.out|with_reducible exact Ed.out _)
            (first|(refine cC r1 (.tmp 154) (.tmp 158) (by with_reducible rfl) (by rfl) (by rfl) (by rfl) (by rfl) (by rfl) ?_)|(refine cC r4 (.tmp 154) (.tmp 158) (by with_reducible rfl) (by rfl) (by rfl) (by rfl) (by rfl) (by rfl) ?_)|(refine cC r7 (.tmp 154) (.tmp 158) (by with_reducible rfl) (by rfl) (by rfl) (by rfl) (by rfl) (by rfl) ?_)|(refine cC r2 (.tmp 159) (.tmp 163) (by with_reducible rfl) (by rfl) (by rfl) (by rfl) (by rfl) (by rfl) ?_)|(refine cC r5 (.tmp 159) (.tmp 163) (by with_reducible rfl) (by rfl) (by rfl) (by rfl) (by rfl) (by rfl) ?_)|(refine cC r8 (.tmp 159) (.tmp 163) (by with_reducible rfl) (by rfl) (by rfl) (by rfl) (by rfl) (by rfl) ?_)|(refine cC r3 (.tmp 164) (.tmp 168) (by with_reducible rfl) (by rfl) (by rfl) (by rfl) (by rfl) (by rfl) ?_)|(refine cC r6 (.tmp 164) (.tmp 168) (by with_reducible rfl) (by rfl) (by rfl) (by rfl) (by rfl) (by rfl) ?_)|(refine cC r9 (.tmp 164) (.tmp 168) (by with_reducible rfl) (by rfl) (by rfl) (by rfl) (by rfl) (by rfl) ?_))
           all_goals go_wp2_with fail
           all_goals go_meet
           all_goals first|with_reducible exact F0|with_reducible exact F1|with_reducible exact F2
          |some a=>
           obtain⟨b6,o6,sp⟩:=a;obtain⟨_,e0⟩:=Fs.out _ _ _ rfl;obtain rfl:sp=none:=e0 _ rfl;have F3:=Fp.out;have Ff: ∀a:Addr,some (⟨b6,o6,none⟩:Addr)=some a→ ∀j u,((s.seen.take at9).flatMap aE)[j]?=some u→wz.cell? (a.add j)=some u:=fun a ha j u hj=>by
            refine a0Y F3 0 a (by rw[d0X];exact ha) j u ?_;rw[d2E,←d2Q at9 s.seen,d0H,d0M (c9H.1 hj).1];exact hj
           by_cases Fc:Cs=at9
           ·obtain rfl:k=at9:=by omega
            subst Fc;have A0: ∀w',Bl wz w'→w'.cell? (aD w.heap.size 6)=some (.slice (some (aD b6 o6)) Cs Cs)∧w'.cell? (aD (w.heap.size+1) 5)=some (iV d.bat.cmd):=fun w' hb=>⟨(Aw.out.st.bE hb).q6,(Aw.out.dc.bE hb).q5⟩;have Aj: ∀w' v,Bl wz w'→(w'.setCell (aD QT 6) v).cell? (aD w.heap.size 6)=some (.slice (some (aD b6 o6)) Cs Cs)∧(w'.setCell (aD QT 6) v).cell? (aD (w.heap.size+1) 5)=some (iV d.bat.cmd):=fun w' v hb=>⟨((Aw.out.st.bE hb).off (aG w' (aD QT 6) v) (by show¬w.heap.size=QT;omega)).q6,((Aw.out.dc.bE hb).off (aG w' (aD QT 6) v) (by show¬w.heap.size+1=QT;omega)).q5⟩;have bA: ∀o,Bl wz (wz.alloc o):=fun o=>(Below.refl _ _).alloc (c9C _) o;have Be:Hid (∀(wf:World) (v:Value),RG wz wf 3 1 v (Cs+1+0) ((s.seen.take Cs++d.bat.cmd::s.seen.drop Cs).flatMap aE)→RG wz wf 3 1 v (Cs+1) ((s.seen.take Cs++d.bat.cmd::s.seen.drop Cs).flatMap aE)):=fun wf v hR=>by
             rw[show Cs+1+0=Cs+1 by omega]at hR;exact hR
            obtain⟨⟨A1,n1,C1,x1,A2,n2,C2,y1,A7,n7,C7,z1,r1,B1,r2,D1,r3,R3⟩,⟨A3,n3,C3,x3,A4,n4,C4,y3,A8,n8,C8,z3,r4,B3,r5,D3,r6,R6⟩,⟨A5,n5,C5,x5,A6,n6,C6,y5,A9,Ao,C9,z5,r7,B5,r8,D5,r9,R9⟩⟩:=tX wz (some (aD b6 o6)) Cs Cs (fun e=>by cases e) (s.seen.take Cs) (by rw[List.length_take,←HM.out];omega) (fun a ha j u hj=>Ff a ha j u hj) d.bat.cmd (some (aD b6 o6)) 0 0 (fun e=>by cases e) (s.seen.drop Cs) (by rw[List.length_drop,←HM.out];omega) (fun a ha j u hj=>by rw[show s.seen.drop Cs=[]from d0N (by rw[d0A,←HM.out];omega)]at hj;cases hj) (by omega) (by omega);have TD:=A0 wz.drew (Below.refl _ _).drew;have T1:=hd8 fun o=>A0 (wz.alloc o).drew (bA o).drew;have T2:=hd8 fun o o'=>A0 ((wz.alloc o).alloc o').drew ((bA o).alloc (bA o).size o').drew;have Dv:=hd8 (A0 x1 B1);have Dw:=hd8 fun o=>A0 (x1.alloc o) (B1.alloc B1.size o);have Dx:=hd8 (A0 y1 D1);have Dy:=hd8 (A0 z1 R3.bel);have Dz:=hd8 fun v=>Aj z1 v R3.bel;have k0:=(Ah.out.bE R3.bel).q6;have q0:=(Ah.out.bE R3.bel).frozen 6;have F0:Hid (∃wf A n C',Value.slice A7 n7 C7=.slice A n C'∧RG wz wf 3 1 (.slice A7 n7 C7) (Cs+1) ((s.seen.take Cs++d.bat.cmd::s.seen.drop Cs).flatMap aE)∧z1.setCell (aD QT 6) (.slice A7 n7 C7)=wf.setCell (aD QT 6) (.slice A7 n7 C7)):=⟨z1,A7,n7,C7,rfl,Be.out _ _ R3,rfl⟩;have E0:=hd8 (A0 x3 B3);have E1:=hd8 fun o=>A0 (x3.alloc o) (B3.alloc B3.size o);have E3:=hd8 (A0 y3 D3);have E7:=hd8 (A0 z3 R6.bel);have E8:=hd8 fun v=>Aj z3 v R6.bel;have k1:=(Ah.out.bE R6.bel).q6;have q1:=(Ah.out.bE R6.bel).frozen 6;have F1:Hid (∃wf A n C',Value.slice A8 n8 C8=.slice A n C'∧RG wz wf 3 1 (.slice A8 n8 C8) (Cs+1) ((s.seen.take Cs++d.bat.cmd::s.seen.drop Cs).flatMap aE)∧z3.setCell (aD QT 6) (.slice A8 n8 C8)=wf.setCell (aD QT 6) (.slice A8 n8 C8)):=⟨z3,A8,n8,C8,rfl,Be.out _ _ R6,rfl⟩;have E9:=hd8 (A0 x5 B5);have Ea:=hd8 fun o=>A0 (x5.alloc o) (B5.alloc B5.size o);have Eb:=hd8 (A0 y5 D5);have Ec:=hd8 (A0 z5 R9.bel);have Ed:=hd8 fun v=>Aj z5 v R9.bel;have k2:=(Ah.out.bE R9.bel).q6;have q2:=(Ah.out.bE R9.bel).frozen 6;have F2:Hid (∃wf A n C',Value.slice A9 Ao C9=.slice A n C'∧RG wz wf 3 1 (.slice A9 Ao C9) (Cs+1) ((s.seen.take Cs++d.bat.cmd::s.seen.drop Cs).flatMap aE)∧z5.setCell (aD QT 6) (.slice A9 Ao C9)=wf.setCell (aD QT 6) (.slice A9 Ao C9)):=⟨z5,A9,Ao,C9,rfl,Be.out _ _ R9,rfl⟩;clear A0 Aj bA B1 B3 B5 D1 D3 D5 R3 R6 R9 F3 Ff;go_region_held3 (fun w'=>w'.cell? (aD w.heap.size 6)=some (.slice (some (aD b6 o6)) Cs Cs)∧w'.cell? (aD (w.heap.size+1) 5)=some (iV d.bat.cmd))
             (first|with_reducible assumption|with_reducible exact TD|with_reducible exact T1.out _|with_reducible exact T2.out _ _|with_reducible exact Dv.out|with_reducible exact Dw.out _|with_reducible exact Dx.out|with_reducible exact Dy.out|with_reducible exact Dz.out _|with_reducible exact E0.out|with_reducible exact E1.out _|with_reducible exact E3.out|with_reducible exact E7.out|with_reducible exact E8.out _|with_reducible exact E9.out|with_reducible exact Ea.out _|with_reducible exact Eb.out|with_reducible exact Ec.out|with_reducible exact Ed.out _)
             (first|(refine cC r1 (.tmp 154) (.tmp 158) (by with_reducible rfl) (by rfl) (by rfl) (by rfl) (by rfl) (by rfl) ?_)|(refine cC r4 (.tmp 154) (.tmp 158) (by with_reducible rfl) (by rfl) (by rfl) (by rfl) (by rfl) (by rfl) ?_)|(refine cC r7 (.tmp 154) (.tmp 158) (by with_reducible rfl) (by rfl) (by rfl) (by rfl) (by rfl) (by rfl) ?_)|(refine cC r2 (.tmp 159) (.tmp 163) (by with_reducible rfl) (by rfl) (by rfl) (by rfl) (by rfl) (by rfl) ?_)|(refine cC r5 (.tmp 159) (.tmp 163) (by with_reducible rfl) (by rfl) (by rfl) (by rfl) (by rfl) (by rfl) ?_)|(refine cC r8 (.tmp 159) (.tmp 163) (by with_reducible rfl) (by rfl) (by rfl) (by rfl) (by rfl) (by rfl) ?_)|(refine cC r3 (.tmp 164) (.tmp 168) (by with_reducible rfl) (by rfl) (by rfl) (by rfl) (by rfl) (by rfl) ?_)|(refine cC r6 (.tmp 164) (.tmp 168) (by with_reducible rfl) (by rfl) (by rfl) (by rfl) (by rfl) (by rfl) ?_)|(refine cC r9 (.tmp 164) (.tmp 168) (by with_reducible rfl) (by rfl) (by rfl) (by rfl) (by rfl) (by rfl) ?_))
            all_goals go_wp2_with fail
            all_goals go_meet
            all_goals first|with_reducible exact F0|with_reducible exact F1|with_reducible exact F2
           ·have I0: ¬Cs=at9:=Fc;have A0: ∀w',Bl wz w'→w'.cell? (aD w.heap.size 6)=some (.slice (some (aD b6 o6)) k Cs)∧w'.cell? (aD (w.heap.size+1) 5)=some (iV d.bat.cmd):=fun w' hb=>⟨(Aw.out.st.bE hb).q6,(Aw.out.dc.bE hb).q5⟩;have Aj: ∀w' v,Bl wz w'→(w'.setCell (aD QT 6) v).cell? (aD w.heap.size 6)=some (.slice (some (aD b6 o6)) k Cs)∧(w'.setCell (aD QT 6) v).cell? (aD (w.heap.size+1) 5)=some (iV d.bat.cmd):=fun w' v hb=>⟨((Aw.out.st.bE hb).off (aG w' (aD QT 6) v) (by show¬w.heap.size=QT;omega)).q6,((Aw.out.dc.bE hb).off (aG w' (aD QT 6) v) (by show¬w.heap.size+1=QT;omega)).q5⟩;have bA: ∀o,Bl wz (wz.alloc o):=fun o=>(Below.refl _ _).alloc (c9C _) o;have Be:Hid (∀(wf:World) (v:Value),RG wz wf 3 1 v (at9+1+(k-at9)) ((s.seen.take at9++d.bat.cmd::s.seen.drop at9).flatMap aE)→RG wz wf 3 1 v (k+1) ((s.seen.take at9++d.bat.cmd::s.seen.drop at9).flatMap aE)):=fun wf v hR=>by
             rw[show at9+1+(k-at9)=k+1 by omega]at hR;exact hR
            obtain⟨⟨A1,n1,C1,x1,A2,n2,C2,y1,A7,n7,C7,z1,r1,B1,r2,D1,r3,R3⟩,⟨A3,n3,C3,x3,A4,n4,C4,y3,A8,n8,C8,z3,r4,B3,r5,D3,r6,R6⟩,⟨A5,n5,C5,x5,A6,n6,C6,y5,A9,Ao,C9,z5,r7,B5,r8,D5,r9,R9⟩⟩:=tX wz (some (aD b6 o6)) at9 Cs (fun e=>by cases e) (s.seen.take at9) (by rw[List.length_take,←HM.out];omega) (fun a ha j u hj=>Ff a ha j u hj) d.bat.cmd (some (aD b6 (o6+at9))) (k-at9) (Cs-at9) (fun e=>by cases e) (s.seen.drop at9) (by rw[List.length_drop,←HM.out]) (a0Y F3 at9) (by omega) (by omega);have TD:=A0 wz.drew (Below.refl _ _).drew;have T1:=hd8 fun o=>A0 (wz.alloc o).drew (bA o).drew;have T2:=hd8 fun o o'=>A0 ((wz.alloc o).alloc o').drew ((bA o).alloc (bA o).size o').drew;have Dv:=hd8 (A0 x1 B1);have Dw:=hd8 fun o=>A0 (x1.alloc o) (B1.alloc B1.size o);have Dx:=hd8 (A0 y1 D1);have Dy:=hd8 (A0 z1 R3.bel);have Dz:=hd8 fun v=>Aj z1 v R3.bel;have k0:=(Ah.out.bE R3.bel).q6;have q0:=(Ah.out.bE R3.bel).frozen 6;have F0:Hid (∃wf A n C',Value.slice A7 n7 C7=.slice A n C'∧RG wz wf 3 1 (.slice A7 n7 C7) (k+1) ((s.seen.take at9++d.bat.cmd::s.seen.drop at9).flatMap aE)∧z1.setCell (aD QT 6) (.slice A7 n7 C7)=wf.setCell (aD QT 6) (.slice A7 n7 C7)):=⟨z1,A7,n7,C7,rfl,Be.out _ _ R3,rfl⟩;have E0:=hd8 (A0 x3 B3);have E1:=hd8 fun o=>A0 (x3.alloc o) (B3.alloc B3.size o);have E3:=hd8 (A0 y3 D3);have E7:=hd8 (A0 z3 R6.bel);have E8:=hd8 fun v=>Aj z3 v R6.bel;have k1:=(Ah.out.bE R6.bel).q6;have q1:=(Ah.out.bE R6.bel).frozen 6;have F1:Hid (∃wf A n C',Value.slice A8 n8 C8=.slice A n C'∧RG wz wf 3 1 (.slice A8 n8 C8) (k+1) ((s.seen.take at9++d.bat.cmd::s.seen.drop at9).flatMap aE)∧z3.setCell (aD QT 6) (.slice A8 n8 C8)=wf.setCell (aD QT 6) (.slice A8 n8 C8)):=⟨z3,A8,n8,C8,rfl,Be.out _ _ R6,rfl⟩;have E9:=hd8 (A0 x5 B5);have Ea:=hd8 fun o=>A0 (x5.alloc o) (B5.alloc B5.size o);have Eb:=hd8 (A0 y5 D5);have Ec:=hd8 (A0 z5 R9.bel);have Ed:=hd8 fun v=>Aj z5 v R9.bel;have k2:=(Ah.out.bE R9.bel).q6;have q2:=(Ah.out.bE R9.bel).frozen 6;have F2:Hid (∃wf A n C',Value.slice A9 Ao C9=.slice A n C'∧RG wz wf 3 1 (.slice A9 Ao C9) (k+1) ((s.seen.take at9++d.bat.cmd::s.seen.drop at9).flatMap aE)∧z5.setCell (aD QT 6) (.slice A9 Ao C9)=wf.setCell (aD QT 6) (.slice A9 Ao C9)):=⟨z5,A9,Ao,C9,rfl,Be.out _ _ R9,rfl⟩;clear A0 Aj bA B1 B3 B5 D1 D3 D5 R3 R6 R9 F3 Ff;go_region_held3 (fun w'=>w'.cell? (aD w.heap.size 6)=some (.slice (some (aD b6 o6)) k Cs)∧w'.cell? (aD (w.heap.size+1) 5)=some (iV d.bat.cmd))
             (first|with_reducible assumption|with_reducible exact TD|with_reducible exact T1.out _|with_reducible exact T2.out _ _|with_reducible exact Dv.out|with_reducible exact Dw.out _|with_reducible exact Dx.out|with_reducible exact Dy.out|with_reducible exact Dz.out _|with_reducible exact E0.out|with_reducible exact E1.out _|with_reducible exact E3.out|with_reducible exact E7.out|with_reducible exact E8.out _|with_reducible exact E9.out|with_reducible exact Ea.out _|with_reducible exact Eb.out|with_reducible exact Ec.out|with_reducible exact Ed.out _)
             (first|(refine cC r1 (.tmp 154) (.tmp 158) (by with_reducible rfl) (by rfl) (by rfl) (by rfl) (by rfl) (by rfl) ?_)|(refine cC r4 (.tmp 154) (.tmp 158) (by with_reducible rfl) (by rfl) (by rfl) (by rfl) (by rfl) (by rfl) ?_)|(refine cC r7 (.tmp 154) (.tmp 158) (by with_reducible rfl) (by rfl) (by rfl) (by rfl) (by rfl) (by rfl) ?_)|(refine cC r2 (.tmp 159) (.tmp 163) (by with_reducible rfl) (by rfl) (by rfl) (by rfl) (by rfl) (by rfl) ?_)|(refine cC r5 (.tmp 159) (.tmp 163) (by with_reducible rfl) (by rfl) (by rfl) (by rfl) (by rfl) (by rfl) ?_)|(refine cC r8 (.tmp 159) (.tmp 163) (by with_reducible rfl) (by rfl) (by rfl) (by rfl) (by rfl) (by rfl) ?_)|(refine cC r3 (.tmp 164) (.tmp 168) (by with_reducible rfl) (by rfl) (by rfl) (by rfl) (by rfl) (by rfl) ?_)|(refine cC r6 (.tmp 164) (.tmp 168) (by with_reducible rfl) (by rfl) (by rfl) (by rfl) (by rfl) (by rfl) ?_)|(refine cC r9 (.tmp 164) (.tmp 168) (by with_reducible rfl) (by rfl) (by rfl) (by rfl) (by rfl) (by rfl) ?_))
            all_goals go_wp2_with fail
            all_goals go_meet
            all_goals first|with_reducible exact F0|with_reducible exact F1|with_reducible exact F2
         case rest=>
          obtain⟨wf,Db,Ep,Dc,Ga,B8,Bo⟩:=hcut.out;obtain⟨D7,Eo⟩: ∃y,y=wc:=⟨wc,rfl⟩;rw[←Eo]at Bo⊢;subst Ga;have Hs:QT<wz.heap.size:=aZ.lt Ah.out;have Ij:=Bs.out.size;have B9:Off (fun q=>q=QT) wf D7:=by
           rw[Bo];exact aG wf (aD QT 6) _
          have B2:=(Off.oE B8.bel).trans B9;have An:=(Ah.out.bE B8.bel).set 6 (.slice Db Ep Dc) (show 6<9 by decide);rw[←Bo]at An
          have Fj:Bl w8 D7:=Fl.out.trans (B2.bE Fl.out.size fun q hq=>by
           have hq:q=QT:=hq
           omega)
          have Du:=Aw.out.off B2 (fun q hq=>by
           have hq:q=QT:=hq
           omega)
          have Bj:=Hn.out.bE Fj;have Hv:QV≠QT:=Bj.ty.ne An.ty (by decide);have v0:=Bj.q0;have v1:=Bj.q1;have t7:=An.q7;have t8:=An.q8;have f7:=An.frozen 7;have f8:=An.frozen 8;have Dn:=hd8 An;have Dk:=hd8 Du;have Dr:=hd8 Bj;have Cq:=hd8 Fj;have Dh:Hid (Off (fun q=>q=QT) wz D7∧Off (fun q=>q=QT) wf D7∧RG wz wf 3 1 (.slice Db Ep Dc) (k+1) ((s.seen.take at9++d.bat.cmd::s.seen.drop at9).flatMap aE)):=⟨B2,B9,B8⟩;clear hcut B8 Bo B2 B9 An Du Bj Fj Eo;go_upto_region 32 with fail
          obtain⟨Fi,Bz⟩: ∃q,q=(D7.setCell (aD QT 7) (iV u4)).setCell (aD QT 8) (.slice Av nv Cv):=⟨_,rfl⟩;rw[←Bz];have Ai:Off (fun q=>q=QT) D7 Fi:=by
           rw[Bz];exact(aG D7 (aD QT 7) _).trans (aG _ (aD QT 8) _)
          have Cy:=(Dn.out.set 7 (iV u4) (show 7<9 by decide)).set 8 (.slice Av nv Cv) (show 8<9 by decide);rw[←Bz]at Cy
          have Ap:=Dk.out.off Ai (fun q hq=>by
           have hq:q=QT:=hq
           omega)
          have Bv:=Dr.out.off Ai Hv
          have Ge:Bl w8 Fi:=Cq.out.trans (Ai.bE Cq.out.size fun q hq=>by
           have hq:q=QT:=hq
           omega)
          have Hk:Hid (∀wE,Off (fun q=>q=w.heap.size+1+1∨q=w.heap.size+1+1+1) Fi wE→dK (.returned (.tuple #[stA c.d c.s c.b (.slice (some (aD D 0)) n9 C) (G:Int) (.slice A9 n8 C9) (.slice Db Ep Dc) u4 (.slice Av nv Cv),.agg #[iV 0,iV u4,nS,iV 0,nS]])) T w wE c r):=fun wE hoE=>by
           obtain⟨o1,o2,B8⟩:=Dh.out;have o3:Off (fun q=>q=w.heap.size+1+1∨q=w.heap.size+1+1+1∨T q=true) Fi (aS T wE):=(hoE.wider fun _ z=>z.imp id Or.inl).trans ((iX T wE).wider fun _ z=>Or.inr (Or.inr z));have oz:=((o1.wider fun _ z=>Or.inl z).trans (Ai.wider fun _ z=>Or.inl z)).trans (o3.wider fun _ z=>Or.inr (a:=_=QT) z);have Ig:=((o2.wider fun _ z=>Or.inl z).trans (Ai.wider fun _ z=>Or.inl z)).trans (o3.wider fun _ z=>Or.inr (a:=_=QT) z);obtain⟨d1,d2⟩:=Fu.out _ oz;have Ek:(aS T wE).ownsRow wz.heap.size 3 1 (.slice Db Ep Dc) (k+1) ((s.seen.take at9++d.bat.cmd::s.seen.drop at9).flatMap aE):=bC B8.own Ig fun g hg z=>by
            have:=(B8.own.lt g hg).1;have:=Fl.out.size;rcases z with z|z|z|z
            ·omega
            ·omega
            ·omega
            ·have:=HT.out g z;omega
           have Ib:(s.seen.take at9++d.bat.cmd::s.seen.drop at9).length=k+1:=by
            rw[c9I,d0E,c9K,d0A,←HM.out];omega
           have H7:Nms (aS T wE) (.slice Db Ep Dc) (s.seen.take at9++d.bat.cmd::s.seen.drop at9):=b3R (N:=wz.heap.size) (by rw[Ib];exact Ek);have Hw:bG (aS T wE) (.slice Av nv Cv) l4:=by
            rcases Hm.out with z|⟨z1,z2⟩
            ·refine(Fk.out.bE Ge).off o3 fun g hg q=>?_;have:=z g hg;rcases q with q|q|q
             ·omega
             ·omega
             ·have:=HT.out g q;omega
            ·rw[z1,z2];refine Ft.out.ac.sub (sP (Off.down Ap.bel o3 fun q hq z=>?_));rcases z with z|z|z
             ·omega
             ·omega
             ·exact z
           rw[Cw.out];rw[Hi.out]at H7;refine⟨_,_,_,_,_,_,rfl,⟨d1,d2,H7,Hw⟩,kB _,bG.nil _,b0M Ek,Ap.bel.trans (hoE.bE Ap.bel.size fun q hq=>by omega)⟩
          obtain⟨a0,a1,a2,a3,a4,a5,a6,a7,a8⟩:=Cy.c9;obtain⟨x0,x1,x2,x3,x4,x5,x6,x7,x8,p0,p1,p2,p3,p4,p5,p6,p7,p8,y0,y1,y2,y3,y4,q0,q1,q2,q3,q4⟩:=Ap.res;have b0:=Bv.q0;have Ht: ¬QV=w.heap.size+1+1:=Bv.ty.ne Ap.x2.var.ty (by decide);have Hu: ¬QV=w.heap.size+1+1+1:=Bv.ty.ne Ap.x3.var.ty (by decide);have Il: ¬w.heap.size+1+1=QV:=fun z=>Ht z.symm;have Im: ¬w.heap.size+1+1+1=QV:=fun z=>Hu z.symm;clear Bz Ai Cy Ap Bv Ge Dn Dk Dr Cq Dh v0 v1 t7 t8 f7 f8;go_region
          go_wp2_with fail;exact bodyPost_ret (by simp[results,results32,go_sem,x0,x1,x2,x3,x4,x5,x6,x7,x8,y0,y1,y2,y3,y4]) rfl (Hk.out _ (a2W _ _ _ _ _ _ _ _ _ _ _ _ _ _ _ _ _))
end Go.Proofs.YtmcaejooaaahdaaGreat
