import Derived.Test.YtmcaejooaaahdaaGreatZ27
set_option maxHeartbeats 8000000
set_option maxRecDepth 100000
namespace Go.Proofs.YtmcaejooaaahdaaGreat
open Go.Proofs.Tryz
variable {X:Sto.Six}
open Go.RowKit
theorem a9W(hX:Sto.dE X)(c:Sto.Cfg)(s:Sto.St)(vd vt vs va:Value)(d:Sto.Do)(ve:Value)(t:ByteArray)(T:Nat→Bool)(w:World)(h:jT (aS T w) vd vt vs va s)(hw:WfJ c s)(hd:tM (aS T w) d ve t)(hpv:lP vs)(hT: ∀k,T k=true→k<w.heap.size):
  Calls prog 32 #[stC c vd s vt vs va,.agg (dX d ve t).toArray] w fun e w'=>dL e T w w' c (Sto.put X c s d):=by
 have Fz:=hd8 h;have HS:=hd8 (h.sub (mD T w));have Bb:=hd8 hw;have I9:=hd8 hd;have Fh:=hd8 (hd.sub (mD T w));have HT:=hd8 hT;have HX:=hd8 hX;have Fw:=hd8 hpv;obtain⟨Ad,nd,Cd,rfl⟩:=iZ h.dk;obtain⟨At,nt,Ct,rfl⟩:=fX h.tl;obtain⟨As,ns,Cs,rfl⟩:=gV h.sn;obtain⟨Aa,na,Ca,rfl⟩:=dT h.ac;obtain⟨Ae,ne,Ce,rfl⟩: ∃A n C,ve=.slice A n C:=by
  obtain⟨A,C,h⟩:=hd.evs.shape;exact⟨A,_,C,h⟩
 obtain⟨r,hr⟩: ∃r,r=Sto.put X c s d:=⟨_,rfl⟩;have B2:=hd8 hr.symm;rw[←hr];change Calls prog 32 #[stA c.d c.s c.b (.slice Ad nd Cd) s.segs (.slice At nt Ct) (.slice As ns Cs) s.u (.slice Aa na Ca),.agg #[iV d.kind,iV d.n,iV d.seg,iV d.pos,.int .u8 d.turn,iV d.bat.cmd,.slice Ae ne Ce,.string t,iV d.ver]] w _;have Ah:Hid (∀(E:Nat) (n:Int),r=(s,⟨E,n,[],0,[]⟩)→ ∀w',Bl w w'→dL (.returned (.tuple #[stA c.d c.s c.b (.slice Ad nd Cd) s.segs (.slice At nt Ct) (.slice As ns Cs) s.u (.slice Aa na Ca),.agg #[iV E,iV n,nS,iV 0,nS]])) T w w' c r):=fun E n e w' hb=>by
  rw[e];exact a7X Fz.out Fw.out hb E n
 have Cg:=b9O w #[iV c.d,iV c.s,iV c.b,.slice Ad nd Cd,iV s.segs,.slice At nt Ct,.slice As ns Cs,iV s.u,.slice Aa na Ca] #[iV d.kind,iV d.n,iV d.seg,iV d.pos,.int .u8 d.turn,iV d.bat.cmd,.slice Ae ne Ce,.string t,iV d.ver];have eg:=Tryz.enters_noP;clear h hw hd hX hr hpv hT;go_enter func32,ntmps32
 go_upto_region 1 with fail
 obtain⟨w1,Hi⟩: ∃q,q=(((w.alloc (.cells #[iV c.d,iV c.s,iV c.b,.slice Ad nd Cd,iV s.segs,.slice At nt Ct,.slice As ns Cs,iV s.u,.slice Aa na Ca] 32)).alloc (.cells #[iV d.kind,iV d.n,iV d.seg,iV d.pos,.int .u8 d.turn,iV d.bat.cmd,.slice Ae ne Ce,.string t,iV d.ver] 49)).alloc (.cells jR 32)).alloc (.cells m7 42):=⟨_,rfl⟩;rw[←Hi]at Cg⊢;clear Hi;have Cg:PJ w w1 (stL c (.slice Ad nd Cd) s.segs (.slice At nt Ct) (.slice As ns Cs) s.u (.slice Aa na Ca)) (dX d (.slice Ae ne Ce) t):=Cg;have Gk:=hd8 Cg;have d5:=Cg.dc.q5;have d6:=Cg.dc.q6;have Fj:=lR d.bat.cmd (.slice Ae ne Ce) d.bat.evs w1 (Fh.out.evs.below Cg.bel);have Gw:Hid (∀y,y=(Evt.aA ⟨d.bat.cmd,d.bat.evs⟩).1→y=(Evt.aA d.bat).1):=fun y hy=>hy;generalize (Evt.aA ⟨d.bat.cmd,d.bat.evs⟩).2=E2 at Fj;obtain⟨E,hE⟩: ∃E,E=(Evt.aA ⟨d.bat.cmd,d.bat.evs⟩).1:=⟨_,rfl⟩;rw[←hE]at Fj;have HE:=hd8 (Gw.out E hE);clear hE Gw Cg;go_wp2_with fail;refine Fj.mono ?_;rintro e w2 ⟨rfl,b2⟩;have bF:=aB8 w2 (.cells #[iV E,iV E2] 78);have Cm:=(Gk.out.below b2).below bF;have VF:=aC w2 #[iV E,iV E2] 78;clear Fj b2 bF d5 d6 Gk;go_upto_region 3 with fail
 obtain⟨w3,Gl⟩: ∃q,q=w2.alloc (.cells #[iV E,iV E2] 78):=⟨_,rfl⟩;rw[←Gl]at Cm VF⊢;obtain⟨F7,H3⟩: ∃q,q=w2.heap.size:=⟨_,rfl⟩;rw[←H3]at VF⊢;have v0:=VF.q0;clear Gl H3 VF;by_cases Bq:E=0
 case neg=>
  have Bm:Hid (∀w',Bl w w'→dL (.returned (.tuple #[stA c.d c.s c.b (.slice Ad nd Cd) s.segs (.slice At nt Ct) (.slice As ns Cs) s.u (.slice Aa na Ca),.agg #[iV E,iV 0,nS,iV 0,nS]])) T w w' c r):=Ah.out E 0 (by
   rw[←B2.out,b6N (by rw[←HE.out];exact Bq),←HE.out]
   rfl)
  have G1:((E:Int) !=0)=true:=by rw[bne_iff_ne];omega
  have Aw:=tI w.heap.size E c.d c.s c.b s.segs s.u Ad nd Cd At nt Ct As ns Cs Aa na Ca _ (Cm).st;have Az:=hd8 Cm;clear Bq Ah Cm B2;go_wp2_with fail;refine Aw.mono ?_;rintro e wn ⟨rfl,bn⟩;have Ag:=Az.out.below bn;obtain⟨x0,x1,x2,x3,x4,x5,x6,x7,x8,p0,p1,p2,p3,p4,p5,p6,p7,p8,y0,y1,y2,y3,y4,q0,q1,q2,q3,q4⟩:=Ag.res;have Bn:=Ag.bel;clear Aw Az Ag bn;go_wp2_with fail;exact bodyPost_ret (by simp[results,results32,go_sem,x0,x1,x2,x3,x4,x5,x6,x7,x8,y0,y1,y2,y3,y4]) rfl (Bm.out _ (noB Bn (by omega) (by omega) _ _ _ _ _ _ _ _ _ _ _ _ _ _))
 case pos=>
  have Fc:Hid ((Evt.aA d.bat).1=0):=by rw[←HE.out];exact Bq
  subst Bq;have Dg:=hd8 Cm;have c6:=Cm.st.q6;obtain⟨Ik,I8,Hl,Gz⟩: ∃C',Value.slice As ns Cs=.slice As s.seen.length C'∧s.seen.length≤C'∧C'≤maxLen:=by
   obtain⟨A,C,q1,q2,q3,_⟩:=HS.out.sn;cases q1
   exact⟨_,rfl,q2,q3⟩
  cases I8
  have Gc:Hid (∀i x,s.seen[i]?=some x→ ∃b o,As=some (aD b o)∧w3.cell? (aD b (o+i))=some (iV x)):=fun i x hx=>by
   obtain⟨A,C,q1,q2,q3,q4⟩:=HS.out.sn.below Dg.out.bel;cases q1
   exact q4 i x hx
  obtain⟨m,hm⟩: ∃m,m=s.seen.length:=⟨_,rfl⟩;have HM:=hd8 hm;have Gz:=mL8 Gz;have Gi:m≤150:=by rw[hm];exact Bb.out.seen
  have Ew:w3.cell? (aD (w.heap.size+1) 5)=some (iV d.bat.cmd):=Cm.dc.q5;have Ip:=hd8 Ew;rw[←hm]at c6 Hl;clear Cm hm HE;go_wp2_with fail;clear c6 v0;go_loopw [8,34] (fun v8 x wr=> ∃k:Nat,k≤m∧x=iV k∧v8=iV ((Sto.below d.bat.cmd (s.seen.take k):Nat):Int)∧Hid (d.bat.cmd∉s.seen.take k)∧wr=w3) (fun _ x _=>m-(intOf x).toNat)
  case atStart=>exact⟨0,c9D _,rfl,rfl,(fun z=>by cases z),rfl⟩
  case round=>
   obtain⟨k,hk,rfl,rfl,HN,rfl⟩:=hrel;by_cases Ho:k<m
   ·have Hm:(k:Int)<(m:Int):=by omega
    obtain⟨x,hx⟩: ∃x,s.seen[k]?=some x:=⟨s.seen[k]'(by rw[←HM.out];exact Ho),c9F _⟩;obtain⟨b,o,rfl,Ij⟩:=Gc.out k x hx;by_cases D0:x=d.bat.cmd
    ·have Bm:Hid (∀w',Bl w w'→dL (.returned (.tuple #[stA c.d c.s c.b (.slice Ad nd Cd) s.segs (.slice At nt Ct) (.slice (some (aD b o)) m Cs) s.u (.slice Aa na Ca),.agg #[iV 0,iV s.u,nS,iV 0,nS]])) T w w' c r):=by
      have:=Ah.out 0 s.u (by
       rw[←B2.out,c2N Fc.out (by rw[←D0];exact c9N hx)]
       rfl)
      rw[←HM.out]at this;exact this
     have Ag:=Dg.out;rw[←HM.out]at Ag;obtain⟨a0,a1,a2,a3,a4,a5,a6,a7,a8⟩:=Ag.st.c9;obtain⟨x0,x1,x2,x3,x4,x5,x6,x7,x8,p0,p1,p2,p3,p4,p5,p6,p7,p8,y0,y1,y2,y3,y4,q0,q1,q2,q3,q4⟩:=Ag.res;have Bn:=Ag.bel;have Ia:=beq_iff_eq.2 D0;clear Ag Dg Ah B2 Gc hx HN D0;go_upto_region 10 with fail
     go_region
     go_wp2_with fail;exact bodyPost_ret (by simp[results,results32,go_sem,x0,x1,x2,x3,x4,x5,x6,x7,x8,y0,y1,y2,y3,y4]) rfl (Bm.out _ (noB Bn (by omega) (by omega) _ _ _ _ _ _ _ _ _ _ _ _ _ _).drew)
    ·have Ia:(x==d.bat.cmd)=false:=by rw[beq_eq_false_iff_ne];exact D0
     have Db:=a9R (cmd:=d.bat.cmd) hx;have Gt:Hid (d.bat.cmd∉s.seen.take (k+1)):=fun z=>by
      rw[d1Y,hx]at z;rcases List.mem_append.1 z with y|y
      ·exact HN.out y
      ·have y:d.bat.cmd=x:=by simpa using y
       exact D0 y.symm
     have Hx:Sto.below d.bat.cmd (s.seen.take k)≤k:=by
      unfold Sto.below;have:=d2P (fun x=>decide (x<d.bat.cmd)) (s.seen.take k);rw[c9K]at this;omega
     by_cases Gx:x<d.bat.cmd
     ·rw[if_pos Gx]at Db;have D4:Hid (Sto.below d.bat.cmd (s.seen.take (k+1))=Sto.below d.bat.cmd (s.seen.take k)+1):=Db;generalize Sto.below d.bat.cmd (s.seen.take k)=q at*;clear hx HN D0 Db;go_wp2_with fail;exact⟨⟨k+1,by omega,by go_num,by rw[D4.out];go_num,Gt,trivial⟩,by simp[intOf];omega⟩
     ·rw[if_neg Gx,d0X]at Db;have D4:Hid (Sto.below d.bat.cmd (s.seen.take (k+1))=Sto.below d.bat.cmd (s.seen.take k)):=Db;generalize Sto.below d.bat.cmd (s.seen.take k)=q at*;clear hx HN D0 Db;go_wp2_with fail;exact⟨⟨k+1,by omega,by go_num,by rw[D4.out],Gt,trivial⟩,by simp[intOf];omega⟩
   ·obtain rfl:k=m:=by omega
    have Fo:Hid (d.bat.cmd∉s.seen):=by
     have:=HN.out;rw[HM.out,d0L]at this;exact this
    have I7:Hid (Sto.below d.bat.cmd (s.seen.take k)=Sto.below d.bat.cmd s.seen):=by
     show Sto.below d.bat.cmd (s.seen.take k)=_;rw[HM.out,d0L]
    have Hx:Sto.below d.bat.cmd (s.seen.take k)≤k:=by
     unfold Sto.below;have:=d2P (fun x=>decide (x<d.bat.cmd)) (s.seen.take k);rw[c9K]at this;omega
    generalize Sto.below d.bat.cmd (s.seen.take k)=at9 at*;have Cj:=Dg.out;have Hd:s.seen.length=k:=HM.out.symm;rw[Hd]at Cj;have I6:na=s.acc.length:=by
     obtain⟨A,C,q⟩:=HS.out.ac.shape;cases q
     rfl
    have c7:=Cj.st.q7;have c8:=Cj.st.q8;have e7:=Cj.dc.q7;have e8:=Cj.dc.q8;have Dc:=hd8 Cj;obtain⟨Dl,C0⟩: ∃y,y=decide (0≤d.ver∧d.ver≠(Vw.get s.acc d.name).cnt):=⟨_,rfl⟩;have Bg:=hd8 C0;have D9:=yT s.u t (.slice Aa na Ca) s.acc wr.drew ((HS.out.ac.below Cj.bel).below (Below.refl _ _).drew) Fh.out.sz;rw[Fh.out.name]at D9;unfold c4X AcV at D9;clear Dg Cj C0 HN Gc Hd I6;go_upto_region 14 with fail
    go_cut [69]from 56 to 69 (fun v69 wx=>v69=.bool Dl∧Hid (Bl wr wx))
    case first=>
     by_cases hv:0≤d.ver
     ·have Gn:Hid (Dl=(d.ver !=(Vw.get s.acc d.name).cnt)):=by
       show Dl=(d.ver !=(Vw.get s.acc d.name).cnt);rw[Bg.out];by_cases q:d.ver=(Vw.get s.acc d.name).cnt
       ·rw[decide_eq_false (fun z=>z.2 q),q];simp
       ·rw[decide_eq_true ⟨hv,q⟩];exact(bne_iff_ne.2 q).symm
      have Ig:=decide_eq_true hv;have TD:wr.drew.cell? (aD w.heap.size 7)=some (iV s.u)∧wr.drew.cell? (aD w.heap.size 8)=some (.slice Aa na Ca)∧wr.drew.cell? (aD (w.heap.size+1) 7)=some (.string t)∧wr.drew.cell? (aD (w.heap.size+1) 8)=some (iV d.ver)∧Bl wr wr.drew:=⟨c7,c8,e7,e8,(Below.refl _ _).drew⟩;have Ac: ∀w',Bl wr w'→w'.cell? (aD w.heap.size 7)=some (iV s.u)∧w'.cell? (aD w.heap.size 8)=some (.slice Aa na Ca)∧w'.cell? (aD (w.heap.size+1) 7)=some (.string t)∧w'.cell? (aD (w.heap.size+1) 8)=some (iV d.ver)∧Bl wr w':=fun w' hb=>⟨(Dc.out.st.below hb).q7,(Dc.out.st.below hb).q8,(Dc.out.dc.below hb).q7,(Dc.out.dc.below hb).q8,hb⟩;have Hy:=fun s2 a2 o2 w'=>zH s2 a2 (Vw.get s.acc d.name).cnt o2 w';generalize (Vw.get s.acc d.name).cnt=cn at Gn D9 Hy;go_region_held3 (fun w'=>w'.cell? (aD w.heap.size 7)=some (iV s.u)∧w'.cell? (aD w.heap.size 8)=some (.slice Aa na Ca)∧w'.cell? (aD (w.heap.size+1) 7)=some (.string t)∧w'.cell? (aD (w.heap.size+1) 8)=some (iV d.ver)∧Bl wr w')
       (first|A0 exact TD|A0 Af)
       (first|(go_at_call 60;refine D9.mono ?_;rintro e6 w6 ⟨⟨v6,rfl,s6,_,_,rfl⟩,b6⟩;have S6:=Ac w6 (bt (Below.refl _ _).drew b6)))
      go_wp2_with fail;go_meet
      exact⟨by rw[Gn.out],S6.2.2.2.2⟩
     ·have Ig:=decide_eq_false hv;have C0:Dl=false:=by
       rw[Bg.out];exact decide_eq_false fun z=>hv z.1
      subst C0;clear D9;go_quiet (fail)
      go_wp2_with fail;go_meet
      exact⟨rfl,bdn (Below.refl _ _) _⟩
    case rest=>
     obtain⟨rfl,Fq⟩:=hcut;obtain⟨w6,Gu⟩: ∃y,y=wc:=⟨wc,rfl⟩;rw[←Gu]at Fq⊢;have Bo:=Dc.out.below Fq.out;clear Gu Dc D9 c7 c8 e7 e8 Fq;cases Dl with
     |true=>
      have Bm:Hid (∀w',Bl w w'→dL (.returned (.tuple #[stA c.d c.s c.b (.slice Ad nd Cd) s.segs (.slice At nt Ct) (.slice As k Cs) s.u (.slice Aa na Ca),.agg #[iV ((11:Nat):Int),iV 0,nS,iV 0,nS]])) T w w' c r):=by
       have:=Ah.out 11 0 (by
        rw[←B2.out,c5Z Fc.out Fo.out (of_decide_eq_true Bg.out.symm)]
        rfl)
       rw[←HM.out]at this;exact this
      have Aw:=tI w.heap.size 11 c.d c.s c.b s.segs s.u Ad nd Cd At nt Ct As k Cs Aa na Ca _ (Bo).st;have Az:=hd8 Bo;clear Ah Bo B2;go_wp2_with fail;refine Aw.mono ?_;rintro e wn ⟨rfl,bn⟩;have Ag:=Az.out.below bn;obtain⟨x0,x1,x2,x3,x4,x5,x6,x7,x8,p0,p1,p2,p3,p4,p5,p6,p7,p8,y0,y1,y2,y3,y4,q0,q1,q2,q3,q4⟩:=Ag.res;have Bn:=Ag.bel;clear Aw Az Ag bn;go_wp2_with fail;exact bodyPost_ret (by simp[results,results32,go_sem,x0,x1,x2,x3,x4,x5,x6,x7,x8,y0,y1,y2,y3,y4]) rfl (Bm.out _ (noB Bn (by omega) (by omega) _ _ _ _ _ _ _ _ _ _ _ _ _ _))
     |false=>
      have H9:=hd8 (of_decide_eq_false Bg.out.symm);have c7:=Bo.st.q7;have c8:=Bo.st.q8;have e6:=Bo.dc.q6;have F8:=wI s.u (.slice Aa na Ca) (.slice Ae ne Ce) s.acc d.bat.evs w6 (HS.out.ac.below Bo.bel) (Fh.out.evs.below Bo.bel);obtain⟨fo,G9⟩: ∃q,q=Vw.cD s.u s.acc d.bat.evs:=⟨_,rfl⟩;rw[←G9]at F8;have Bs:=hd8 G9;obtain⟨⟨E4,i4⟩,u4,l4⟩:=fo;unfold FoR jQ at F8;have Gf:=hd8 Bo;clear Bg G9 Bo;go_wp2_with fail;refine F8.mono ?_;rintro e w7 ⟨⟨v7,rfl,G2,Hb⟩,b7⟩;obtain⟨Av,nv,Cv,rfl⟩:=dT G2;have Ih:=hd8 (Hb.imp (fun z=>z.mono Gf.out.size) id);have bV:=aB8 w7 (.cells #[iV u4,.slice Av nv Cv] 30);have bW:=aB8 (w7.alloc (.cells #[iV u4,.slice Av nv Cv] 30)) (.cells #[iV E4,iV i4] 78);have VV:=(aC w7 #[iV u4,.slice Av nv Cv] 30).below bW;have VF:=aC (w7.alloc (.cells #[iV u4,.slice Av nv Cv] 30)) #[iV E4,iV i4] 78;have H6:(w7.alloc (.cells #[iV u4,.slice Av nv Cv] 30)).heap.size=w7.heap.size+1:=d2K _;rw[H6]at VF;have F3:=(G2.below bV).below bW;have Ch:=((Gf.out.below b7).below bV).below bW;clear F8 Gf b7 bV bW H6 G2 Hb c7 c8 e6;go_upto_region 17 with fail
      obtain⟨w8,He⟩: ∃q,q=(w7.alloc (.cells #[iV u4,.slice Av nv Cv] 30)).alloc (.cells #[iV E4,iV i4] 78):=⟨_,rfl⟩;rw[←He]at VV VF F3 Ch⊢;obtain⟨QV,Gj⟩: ∃q,q=w7.heap.size:=⟨_,rfl⟩;rw[←Gj]at VV VF⊢;have v0:=VF.q0;clear He Gj;by_cases Ge:E4=0
      case neg=>
       have G1:((E4:Int) !=0)=true:=by rw[bne_iff_ne];omega
       have Bm:Hid (∀w',Bl w w'→dL (.returned (.tuple #[stA c.d c.s c.b (.slice Ad nd Cd) s.segs (.slice At nt Ct) (.slice As k Cs) s.u (.slice Aa na Ca),.agg #[iV ((E4:Nat):Int),iV 0,nS,iV 0,nS]])) T w w' c r):=by
        have:=Ah.out E4 0 (by
         rw[←B2.out,c4J Fc.out Fo.out H9.out (by rw[←Bs.out];exact Ge),←Bs.out]
         rfl)
        rw[←HM.out]at this;exact this
       have Aw:=tI w.heap.size E4 c.d c.s c.b s.segs s.u Ad nd Cd At nt Ct As k Cs Aa na Ca _ (Ch).st;have Az:=hd8 Ch;clear Ah Ch B2 Ge F3 VV VF;go_wp2_with fail;refine Aw.mono ?_;rintro e wn ⟨rfl,bn⟩;have Ag:=Az.out.below bn;obtain⟨x0,x1,x2,x3,x4,x5,x6,x7,x8,p0,p1,p2,p3,p4,p5,p6,p7,p8,y0,y1,y2,y3,y4,q0,q1,q2,q3,q4⟩:=Ag.res;have Bn:=Ag.bel;clear Aw Az Ag bn;go_wp2_with fail;exact bodyPost_ret (by simp[results,results32,go_sem,x0,x1,x2,x3,x4,x5,x6,x7,x8,y0,y1,y2,y3,y4]) rfl (Bm.out _ (noB Bn (by omega) (by omega) _ _ _ _ _ _ _ _ _ _ _ _ _ _))
      case pos=>
       subst Ge;have Du:Hid ((Vw.cD s.u s.acc d.bat.evs).1.1=0∧(Vw.cD s.u s.acc d.bat.evs).2=(u4,l4)):=by rw[←Bs.out];exact⟨rfl,rfl⟩
       obtain⟨a0,a1,a2,a3,a4,a5,a6,a7,a8⟩:=Ch.st.c9;have Gg:=kL c.d c.s c.b s.segs s.u (.slice Ad nd Cd) (.slice At nt Ct) (.slice As k Cs) (.slice Aa na Ca) s.disks w8 (HS.out.dk.below Ch.bel) Bb.out.n1 Bb.out.n12 (fun i d hd=>Bb.out.bl hd) Bb.out.len ⟨_,_,_,rfl⟩ ⟨_,_,_,rfl⟩ ⟨_,_,_,rfl⟩;have Bz:=hd8 Ch;have Fx:=hd8 F3;have Hw:=hd8 VV;clear Bs Ch F3 VV VF;go_wp2_with fail;refine Gg.mono ?_;rintro e w9 ⟨D,C,V,U,rfl,F9,Dn,Gr,b9⟩;obtain⟨n9,Fa⟩: ∃q,q=s.disks.length:=⟨_,rfl⟩;rw[←Fa]at F9⊢;have Dk:=hd8 Fa;have bT:=aB8 w9 (.cells #[iV c.d,iV c.s,iV c.b,.slice (some (aD D 0)) n9 C,iV s.segs,.slice At nt Ct,.slice As k Cs,iV s.u,.slice Aa na Ca] 32);have VT:=aC w9 #[iV c.d,iV c.s,iV c.b,.slice (some (aD D 0)) n9 C,iV s.segs,.slice At nt Ct,.slice As k Cs,iV s.u,.slice Aa na Ca] 32;have Bh:=Gr.below bT;have Cc:=bt b9 bT;have Ii:w8.heap.size≤w9.heap.size:=b9.size;have Fy:n9≤12:=by rw[Fa];exact Bb.out.n12
       have Dn:=mL8 Dn;clear Gg Gr b9 bT a0 a1 a2 a3 a4 a5 a6 a7 a8 v0 Fa;go_upto_region 20 with fail
       obtain⟨Bc,Dy⟩: ∃q,q=w9.alloc (.cells #[iV c.d,iV c.s,iV c.b,.slice (some (aD D 0)) n9 C,iV s.segs,.slice At nt Ct,.slice As k Cs,iV s.u,.slice Aa na Ca] 32):=⟨_,rfl⟩;rw[←Dy]at VT Bh Cc⊢;obtain⟨QT,Fp⟩: ∃q,q=w9.heap.size:=⟨_,rfl⟩;rw[←Fp]at VT⊢;have Is:w8.heap.size≤QT:=by rw[Fp];exact Ii
       have Aq:=Bz.out.below Cc;obtain⟨tc,t1,t2,t3,t4⟩:=a9Z Fz.out.tl;obtain⟨Fv,Hg,Gq⟩:=t4 At nt Ct rfl;have H7:Hid (tc.length=s.tail.length∧(∀(i:Nat) (x:Int×Value) (b:Evt.Bat),tc[i]?=some x→s.tail[i]?=some b→b.cmd=x.1∧Evs (aS T w) x.2 b.evs)∧nt=s.tail.length):=⟨t1,t2,Fv⟩;have Gp:nt≤10:=by
        have:=Bb.out.tail;have:=Bb.out.b10;omega
       have Ck:(tc.flatMap dG).length=nt*2:=by rw[fJ dG 2 _ (fun _ _=>rfl),t1,Fv]
       obtain⟨⟨A1,n1,C1,x1,A2,n2,C2,y1,r1,B1,r2,R2⟩,⟨A3,n3,C3,x3,A4,n4,C4,y3,r3,B3,r4,R4⟩,⟨A5,n5,C5,x5,A6,n6,C6,y5,r5,B5,r6,R6⟩⟩:=yX (t:=26) underlying26 Tryz.infoBatch rfl (by decide) (by decide) Bc At nt Ct Hg (tc.flatMap dG) Ck (fun a ha j v hj=>fB.of_below Aq.bel _ _ (mD T w _ _ (Gq a ha j v hj))) t3 (by omega) #[iV d.bat.cmd,.slice Ae ne Ce] rfl (by simp[Value.oneCell']);have Ac: ∀w',Bl Bc w'→w'.cell? (aD w.heap.size 5)=some (.slice At nt Ct)∧w'.cell? (aD (w.heap.size+1) 5)=some (iV d.bat.cmd)∧w'.cell? (aD (w.heap.size+1) 6)=some (.slice Ae ne Ce):=fun w' hb=>⟨(Aq.st.below hb).q5,(Aq.dc.below hb).q5,(Aq.dc.below hb).q6⟩;have Hu:w.heap.size+1<w8.heap.size:=by have:=Bz.out.size;omega
       have Am: ∀w' v,Bl Bc w'→(w'.setCell (aD QT 5) v).cell? (aD w.heap.size 5)=some (.slice At nt Ct)∧(w'.setCell (aD QT 5) v).cell? (aD (w.heap.size+1) 5)=some (iV d.bat.cmd)∧(w'.setCell (aD QT 5) v).cell? (aD (w.heap.size+1) 6)=some (.slice Ae ne Ce):=fun w' v hb=>⟨((Aq.st.below hb).off (aG w' (aD QT 5) v) (by show¬w.heap.size=QT;omega)).q5,((Aq.dc.below hb).off (aG w' (aD QT 5) v) (by show¬w.heap.size+1=QT;omega)).q5,((Aq.dc.below hb).off (aG w' (aD QT 5) v) (by show¬w.heap.size+1=QT;omega)).q6⟩;have bA:=fun o=>(Below.refl _ _).alloc (c9C _) o;have TD:=Ac Bc.drew (Below.refl _ _).drew;have T1:=hd8 fun o=>Ac (Bc.alloc o).drew (bA o).drew;have T2:=hd8 fun o o'=>Ac ((Bc.alloc o).alloc o').drew ((bA o).alloc (bA o).size o').drew;have T3:=hd8 (Ac x1 B1);have T4:=hd8 fun o=>Ac (x1.alloc o) (B1.alloc B1.size o);have T5:=hd8 (Ac x3 B3);have T6:=hd8 (Ac x5 B5);have T7:=hd8 (Ac y1 R2.bel);have T8:=hd8 (Ac y3 R4.bel);have T9:=hd8 (Ac y5 R6.bel);have S7:=hd8 fun v=>Am y1 v R2.bel;have S8:=hd8 fun v=>Am y3 v R4.bel;have S9:=hd8 fun v=>Am y5 v R6.bel;have k7:=(VT.below R2.bel).q5;have k8:=(VT.below R4.bel).q5;have k9:=(VT.below R6.bel).q5;have z7:=(VT.below R2.bel).frozen 5;have z8:=(VT.below R4.bel).frozen 5;have z9:=(VT.below R6.bel).frozen 5;have F5:=hd8 VT;have Ha:=hd8 Bh;have Dr:=hd8 Cc;have F2:Hid (∃wf A n C',Value.slice A2 n2 C2=.slice A n C'∧RG Bc wf 47 2 (.slice A2 n2 C2) (nt+1) (tc.flatMap dG++[iV d.bat.cmd,.slice Ae ne Ce])∧y1.setCell (aD QT 5) (.slice A2 n2 C2)=wf.setCell (aD QT 5) (.slice A2 n2 C2)):=⟨y1,A2,n2,C2,rfl,R2,rfl⟩;have F4:Hid (∃wf A n C',Value.slice A4 n4 C4=.slice A n C'∧RG Bc wf 47 2 (.slice A4 n4 C4) (nt+1) (tc.flatMap dG++[iV d.bat.cmd,.slice Ae ne Ce])∧y3.setCell (aD QT 5) (.slice A4 n4 C4)=wf.setCell (aD QT 5) (.slice A4 n4 C4)):=⟨y3,A4,n4,C4,rfl,R4,rfl⟩;have F6:Hid (∃wf A n C',Value.slice A6 n6 C6=.slice A n C'∧RG Bc wf 47 2 (.slice A6 n6 C6) (nt+1) (tc.flatMap dG++[iV d.bat.cmd,.slice Ae ne Ce])∧y5.setCell (aD QT 5) (.slice A6 n6 C6)=wf.setCell (aD QT 5) (.slice A6 n6 C6)):=⟨y5,A6,n6,C6,rfl,R6,rfl⟩;clear Ac Am bA B1 B3 B5 R2 R4 R6 Aq VT Bh Cc t1 t2 t3 t4 Hg Gq Ck Fv Dy Fp;go_cut [101]from 94 to 102 (fun v wx=>Hid (∃wf A n C',v=.slice A n C'∧RG Bc wf 47 2 v (nt+1) (tc.flatMap dG++[iV d.bat.cmd,.slice Ae ne Ce])∧wx=wf.setCell (aD QT 5) v))
       case first=>
        go_region_held3 (fun w'=>w'.cell? (aD w.heap.size 5)=some (.slice At nt Ct)∧w'.cell? (aD (w.heap.size+1) 5)=some (iV d.bat.cmd)∧w'.cell? (aD (w.heap.size+1) 6)=some (.slice Ae ne Ce))
         (first|A0 exact TD|A0 Af|A0 exact T1.out _|A0 exact T2.out _ _|A0 exact T3.out|A0 exact T4.out _|A0 exact T5.out|A0 exact T6.out|A0 exact T7.out|A0 exact T8.out|A0 exact T9.out|A0 exact S7.out _|A0 exact S8.out _|A0 exact S9.out _)
         (first|(refine cB r1 (.tmp 94) (.tmp 96) (by A0 rfl) (by rfl) (by rfl) (by rfl) (by rfl) (by rfl) ?_)|(refine cB r3 (.tmp 94) (.tmp 96) (by A0 rfl) (by rfl) (by rfl) (by rfl) (by rfl) (by rfl) ?_)|(refine cB r5 (.tmp 94) (.tmp 96) (by A0 rfl) (by rfl) (by rfl) (by rfl) (by rfl) (by rfl) ?_)|(refine cB r2 (.tmp 97) (.tmp 100) (by A0 rfl) (by rfl) (by rfl) (by rfl) (by rfl) (by rfl) ?_)|(refine cB r4 (.tmp 97) (.tmp 100) (by A0 rfl) (by rfl) (by rfl) (by rfl) (by rfl) (by rfl) ?_)|(refine cB r6 (.tmp 97) (.tmp 100) (by A0 rfl) (by rfl) (by rfl) (by rfl) (by rfl) (by rfl) ?_))
        all_goals go_wp2_with fail
        all_goals go_meet
        all_goals first|A0 exact F2|A0 exact F4|A0 exact F6
       case rest=>
        obtain⟨wf,A7,n7,C7,Fg,B9,Bp⟩:=hcut.out;obtain⟨Be,Dh⟩: ∃y,y=wc:=⟨wc,rfl⟩;rw[←Dh]at Bp⊢;have Fd:Off (fun k=>k=QT) Bc Be:=by
         rw[Bp];exact(Off.of_below B9.bel).trans (aG wf (aD QT 5) _)
        have Ba:Off (fun k=>k=QT) wf Be:=by
         rw[Bp];exact aG wf (aD QT 5) _
        have Gy:QT<Bc.heap.size:=aY.lt F5.out
        have Br:=(Bz.out.below Dr.out).off Fd (fun q hq=>by
         have:=Bz.out.size;have hq:q=QT:=hq
         omega)
        have Er:Bl w8 Be:=Dr.out.trans (Fd.below Dr.out.size fun q hq=>by
         have hq:q=QT:=hq
         omega)
        obtain⟨Hh,Gv,Fs⟩:=H7.out;have Fi:Hid (∀wE,Off (fun q=>q=QT∨q=w.heap.size+1+1∨q=w.heap.size+1+1+1∨T q=true) Be wE→eU wE (.slice A7 n7 C7) (s.tail++[d.bat])):=fun wE ho=>by
         rw[←Fg]
         exact b8I B9 ((Ba.wider fun _ z=>Or.inl z).trans ho) (fun q hq=>by
          have:=Bz.out.size;have:=Dr.out.size;rcases hq with z|z|z|z
          ·omega
          ·omega
          ·omega
          ·have:=HT.out q z
           omega) (tE (Off.down Br.bel ho fun q hq z=>by
          have:=Bz.out.size;rcases z with z|z|z|z
          ·omega
          ·omega
          ·omega
          ·exact z)) Hh Gv Fs I9.out.evs
        have I4:n7=nt+1:=by
         obtain⟨A,C',q,_⟩:=bI B9.own;rw[Fg]at q;cases q
         rfl
        rw[I4]at Fg Fi;subst Fg;have Au:=(F5.out.below B9.bel).set 5 (.slice A7 (nt+1) C7) (show 5<9 by decide);rw[←Bp]at Au;have Au:aW Be QT 32 (stL c (.slice (some (aD D 0)) n9 C) s.segs (.slice A7 (nt+1) C7) (.slice As k Cs) s.u (.slice Aa na Ca)):=Au;have B4:=Ha.out.off Fd (fun q hq=>⟨32,by subst hq;exact F5.out.ty,by decide,by decide,by decide⟩);have Bj:Hid (Sto.put X c s d=if (Sto.eR X c s d.bat (u4,l4)).1≠0 then(s,Sto.no (Sto.eR X c s d.bat (u4,l4)).1)else((Sto.eR X c s d.bat (u4,l4)).2,Sto.told u4)):=by
         have:=c1P (X:=X) (c:=c) Fc.out Fo.out H9.out Du.out.1;rw[Du.out.2]at this;exact this
        have Bx:=hd8 Br;have Bk:=hd8 Au;have By:=hd8 B4;have Fe:=hd8 Bz.out.size;have I5:w8.heap.size≤D:=B4.ge;have Hj:QT≠D:=Au.ty.ne B4.row.ty (by decide);obtain⟨S,Cn⟩: ∃S:Nat→Bool,S=fun q=>decide (q=D∨q=QT∨q=w.heap.size+1+1∨q=w.heap.size+1+1+1∨T q=true):=⟨_,rfl⟩;have E9:Hid (∀q,S q=true↔(q=D∨q=QT∨q=w.heap.size+1+1∨q=w.heap.size+1+1+1∨T q=true)):=fun q=>by
         rw[Cn];exact decide_eq_true_iff
        have D4:Hid (∀q,(q=QT∨q=w.heap.size+1+1∨q=w.heap.size+1+1+1∨T q=true)→S q=true∧q≠D):=fun q hq=>⟨(E9.out q).2 (Or.inr hq),fun e=>by
         have:=Fe.out;rcases hq with z|z|z|z
         ·exact Hj (z.symm.trans e)
         ·omega
         ·omega
         ·have:=HT.out q z
          omega⟩
        have D8:Hid (∀w',dM w' w8.heap.size D V U s.disks→aW w' QT 32 (stL c (.slice (some (aD D 0)) n9 C) s.segs (.slice A7 (nt+1) C7) (.slice As k Cs) s.u (.slice Aa na Ca))→DkJ w' S D V s.disks):=fun w' hk hv=>hk.dkJ (S:=S) ((E9.out D).2 (Or.inl rfl)) (fun q hq=>by
         have:=Fe.out;rcases(E9.out q).1 hq with rfl|rfl|z|z|z
         ·exact Or.inr ⟨58,hk.row.ty,by decide,by decide⟩
         ·exact Or.inr ⟨32,hv.ty,by decide,by decide⟩
         ·exact Or.inl (by omega)
         ·exact Or.inl (by omega)
         ·have:=HT.out q z
          exact Or.inl (by omega))
        have D2:=hd8 Er;have G3:=hd8 Fs;have j5:=Au.q5;have j2:=Br.st.q2;have Il:c.b≤10:=Bb.out.b10;clear Cn Br Au B4 Er Hh Gv Fs B9 Bp Fd Ba hcut H7 F5 Ha Dr Dh;go_upto_if 109 with fail
        go_cut [14,15,16,17]from 109 to 153 (fun _v14 _v15 _v16 _v17 wx=>Hid (∃(G:Nat) (A9:Option Addr) (n8 C9:Nat) (ds:List Sto.aL) (tl:List Evt.Bat),aW wx QT 32 (stL c (.slice (some (aD D 0)) n9 C) (G:Int) (.slice A9 n8 C9) (.slice As k Cs) s.u (.slice Aa na Ca))∧PJ w wx (stL c (.slice Ad nd Cd) s.segs (.slice At nt Ct) (.slice As k Cs) s.u (.slice Aa na Ca)) (dX d (.slice Ae ne Ce) t)∧Bl w8 wx∧(∀wE,Off (fun q=>q=QT∨q=w.heap.size+1+1∨q=w.heap.size+1+1+1∨T q=true) wx wE→Dks wE (.slice (some (aD D 0)) n9 C) ds∧eU wE (.slice A9 n8 C9) tl)∧r=(⟨ds,G,tl,s.seen.take (Sto.below d.bat.cmd s.seen)++d.bat.cmd::s.seen.drop (Sto.below d.bat.cmd s.seen),u4,l4⟩,⟨0,u4,[],0,[]⟩)))
        case first=>
         by_cases hL:nt+1<c.b
         ·have I3:(nt:Int)+1<(c.b:Int):=by omega
          have Co:Hid (∃(G:Nat) (A9:Option Addr) (n8 C9:Nat) (ds:List Sto.aL) (tl:List Evt.Bat),aW Be QT 32 (stL c (.slice (some (aD D 0)) n9 C) (G:Int) (.slice A9 n8 C9) (.slice As k Cs) s.u (.slice Aa na Ca))∧PJ w Be (stL c (.slice Ad nd Cd) s.segs (.slice At nt Ct) (.slice As k Cs) s.u (.slice Aa na Ca)) (dX d (.slice Ae ne Ce) t)∧Bl w8 Be∧(∀wE,Off (fun q=>q=QT∨q=w.heap.size+1+1∨q=w.heap.size+1+1+1∨T q=true) Be wE→Dks wE (.slice (some (aD D 0)) n9 C) ds∧eU wE (.slice A9 n8 C9) tl)∧r=(⟨ds,G,tl,s.seen.take (Sto.below d.bat.cmd s.seen)++d.bat.cmd::s.seen.drop (Sto.below d.bat.cmd s.seen),u4,l4⟩,⟨0,u4,[],0,[]⟩)):=by
           refine⟨s.segs,A7,nt+1,C7,s.disks,s.tail++[d.bat],Bk.out,Bx.out,D2.out,fun wE ho=>?_,?_⟩
           ·have hj:=(D8.out _ By.out Bk.out).offS ho D4.out;have:=hj.dks (C:=C) (by rw[←Dk.out];exact F9) (by unfold maxLen;exact Dn);rw[←Dk.out]at this;exact⟨this,Fi.out wE ho⟩
           ·rw[←B2.out,Bj.out,c2H (by rw[←G3.out];exact hL),if_neg (fun z=>z rfl)];rfl
          clear hL;go_wp2_with fail;go_meet
          exact Co
         ·have I3: ¬(nt:Int)+1<(c.b:Int):=by omega
          have Eu:Hid (¬s.tail.length+1<c.b):=by rw[←G3.out];exact hL
          have Fb:=a0H (.slice A7 (nt+1) C7) (s.tail++[d.bat]) Be (Fi.out _ (Off.refl _ _));generalize (Evt.aF (s.tail++[d.bat])).2=i5 at Fb;obtain⟨E5,Ft⟩: ∃q,q=(Evt.aF (s.tail++[d.bat])).1:=⟨_,rfl⟩;rw[←Ft]at Fb;have Ez:=hd8 Ft;clear Ft;go_wp2_with fail;refine Fb.mono ?_;rintro e Ff ⟨v12,rfl,D6,Hc⟩;obtain⟨Ab,Hz,Cb,rfl⟩: ∃A n C,v12=.slice A n C:=by
           obtain⟨A,C,q,_⟩:=bI D6;exact⟨A,_,C,q⟩
          have bF:=aB8 Ff (.cells #[iV E5,iV i5] 78);have VF:=aC Ff #[iV E5,iV i5] 78;have Bt:=bt Hc bF;have Ai:=D6.below bF;clear Fb Hc bF D6 j5 j2;go_upto_region 23 with fail
          obtain⟨G4,Es⟩: ∃q,q=Ff.alloc (.cells #[iV E5,iV i5] 78):=⟨_,rfl⟩;rw[←Es]at VF Bt Ai⊢;obtain⟨QF,Hf⟩: ∃q,q=Ff.heap.size:=⟨_,rfl⟩;rw[←Hf]at VF⊢;have v0:=VF.q0;have Ao:=Bx.out.below Bt;clear Es Hf VF;by_cases Bq:E5=0
          case neg=>
           have G1:((E5:Int) !=0)=true:=by rw[bne_iff_ne];omega
           have Bm:Hid (∀w',Bl w w'→dL (.returned (.tuple #[stA c.d c.s c.b (.slice Ad nd Cd) s.segs (.slice At nt Ct) (.slice As k Cs) s.u (.slice Aa na Ca),.agg #[iV ((E5:Nat):Int),iV 0,nS,iV 0,nS]])) T w w' c r):=by
            have:=Ah.out E5 0 (by
             rw[←B2.out,Bj.out,b2B Eu.out (by rw[←Ez.out];exact Bq),←Ez.out,if_pos Bq]
             rfl)
            rw[←HM.out]at this;exact this
           have Aw:=tI w.heap.size E5 c.d c.s c.b s.segs s.u Ad nd Cd At nt Ct As k Cs Aa na Ca _ (Ao).st;have Az:=hd8 Ao;clear Ah Ao B2 Bq Ai;go_wp2_with fail;refine Aw.mono ?_;rintro e wn ⟨rfl,bn⟩;have Ag:=Az.out.below bn;obtain⟨x0,x1,x2,x3,x4,x5,x6,x7,x8,p0,p1,p2,p3,p4,p5,p6,p7,p8,y0,y1,y2,y3,y4,q0,q1,q2,q3,q4⟩:=Ag.res;have Bn:=Ag.bel;clear Aw Az Ag bn;go_wp2_with fail;exact bodyPost_ret (by simp[results,results32,go_sem,x0,x1,x2,x3,x4,x5,x6,x7,x8,y0,y1,y2,y3,y4]) rfl (Bm.out _ (noB Bn (by omega) (by omega) _ _ _ _ _ _ _ _ _ _ _ _ _ _))
          case pos=>
           have Dj:Hid ((Evt.aF (s.tail++[d.bat])).1=0):=by rw[←Ez.out];exact Bq
           subst Bq;have Ee:rN (s.tail++[d.bat])=Evt.iK (s.tail++[d.bat]):=if_pos Dj.out;rw[Ee]at Ai;have Dv:=c0D Ai (Sto.rI Dj.out);have Dt:=a8T HX.out (.slice Ab Hz Cb) (Evt.iK (s.tail++[d.bat])) s.segs c G4 Dv;obtain⟨xl,Fr⟩: ∃q,q=X.lay (Evt.iK (s.tail++[d.bat])) s.segs c:=⟨_,rfl⟩;rw[←Fr]at Dt;have Em:=hd8 Fr;obtain⟨E6,L6⟩:=xl;unfold BlP at Dt;have g0:=Ao.st.q0;have g1:=Ao.st.q1;have g4:=Ao.st.q4;have Fl:=hd8 Ao;clear Ai Dv Fr Ee Ao;go_wp2_with fail;refine Dt.mono ?_;rintro e Gh ⟨⟨v14,rfl,hO⟩,G5⟩;have B7:=Fl.out.below G5;have Ay:=bt Bt G5;by_cases Eo:E6=0
           case neg=>
            have Ga:v14=nS:=by
             rcases hO with q|q
             ·exact absurd q.1 Eo
             ·exact q.2
            subst Ga;have G1:((E6:Int) !=0)=true:=by rw[bne_iff_ne];omega
            have Bm:Hid (∀w',Bl w w'→dL (.returned (.tuple #[stA c.d c.s c.b (.slice Ad nd Cd) s.segs (.slice At nt Ct) (.slice As k Cs) s.u (.slice Aa na Ca),.agg #[iV ((E6:Nat):Int),iV 0,nS,iV 0,nS]])) T w w' c r):=by
             have:=Ah.out E6 0 (by
              rw[←B2.out,Bj.out,b8O Eu.out Dj.out (by rw[←Em.out];exact Eo),←Em.out,if_pos Eo]
              rfl)
             rw[←HM.out]at this;exact this
            have Aw:=tI w.heap.size E6 c.d c.s c.b s.segs s.u Ad nd Cd At nt Ct As k Cs Aa na Ca _ (B7).st;have Az:=hd8 B7;clear Ah B7 B2 Eo hO Dt g0 g1 g4;go_wp2_with fail;refine Aw.mono ?_;rintro e wn ⟨rfl,bn⟩;have Ag:=Az.out.below bn;obtain⟨x0,x1,x2,x3,x4,x5,x6,x7,x8,p0,p1,p2,p3,p4,p5,p6,p7,p8,y0,y1,y2,y3,y4,q0,q1,q2,q3,q4⟩:=Ag.res;have Bn:=Ag.bel;clear Aw Az Ag bn;go_wp2_with fail;exact bodyPost_ret (by simp[results,results32,go_sem,x0,x1,x2,x3,x4,x5,x6,x7,x8,y0,y1,y2,y3,y4]) rfl (Bm.out _ (noB Bn (by omega) (by omega) _ _ _ _ _ _ _ _ _ _ _ _ _ _))
           case pos=>
            subst Eo;have G0:BlM Gh G4.heap.size v14 L6:=by
             rcases hO with q|q
             ·exact q.2
             ·exact absurd rfl q.1
            have Hq:Hid (Sto.eR X c s d.bat (u4,l4)=(0,⟨Sto.write s.segs L6 0 s.disks,s.segs+1,[],s.seen.take (Sto.below d.bat.cmd s.seen)++d.bat.cmd::s.seen.drop (Sto.below d.bat.cmd s.seen),u4,l4⟩)):=by
             have:=b7T (X:=X) (v:=(u4,l4)) Eu.out Dj.out (by rw[←Em.out]);rw[←Em.out]at this;exact this
            have Gm:L6.length=n9:=by
             have:=Em.out;rw[HX.out.lay]at this;rw[(Sto.oP this.symm).2.1,Dk.out,Bb.out.dl]
            have Bu:=Bk.out.below Ay;have Ci:=By.out.below Ay;have Cx: ∀q,S q=true→q<G4.heap.size:=fun q hq=>by
             have h1:D<Be.heap.size:=By.out.row.lt;have h2:QT<Be.heap.size:=aY.lt Bk.out;have h3:=Bx.out.size;have h4:=Bt.size;rcases(E9.out q).1 hq with z|z|z|z|z
             ·omega
             ·omega
             ·omega
             ·omega
             ·have:=HT.out q z;omega
            have Cf:=D8.out _ Ci Bu;have H0:=tL S QT D n9 C c.d c.s c.b s.segs s.u s.segs (.slice A7 (nt+1) C7) (.slice As k Cs) (.slice Aa na Ca) v14 L6 V s.disks Gh Bu Cf (fun q hq=>c9P (Cx q hq) G5.size) Dk.out Fy F9 (by unfold maxLen;exact Dn) (fun i d hd=>Bb.out.bl hd) (G0.2 S Cx) Gm;obtain⟨Al,nl,Cl,rfl⟩: ∃A n C,v14=.slice A n C:=by
             obtain⟨A,C,q⟩:=G0.1.shape;exact⟨A,_,C,q⟩
            have Ec:=hd8 Bu;have Dw:=hd8 B7;have Cq:=hd8 (bt D2.out Ay);have s4:=B7.st.q4;clear hO Dt B7 G0 Cf Cx Bu Ci g0 g1 g4 Ez Dj Eu Ay Gm;go_wp2_with fail;refine H0.mono ?_;rintro e Da ⟨rfl,⟨V',H1⟩,Ax⟩;have B8:=Ec.out.off Ax Hj
            have Cp:=Dw.out.off Ax (fun q hq=>by
             have hq:q=D:=hq;have:=Fe.out
             omega)
            have E0:Bl w8 Da:=Cq.out.trans (Ax.below Cq.out.size fun q hq=>by
             have hq:q=D:=hq
             omega)
            have g4:=Cp.st.q4;have t4:=B8.q4;have t5:=B8.q5;have Im:=B8.frozen 4;have Iq:=B8.frozen 5;have It:s.segs≤40:=Bb.out.segs;have Ei:=hd8 B8;have El:=hd8 Cp;have Cw:=hd8 E0;have Gs:=hd8 H1;clear H0 H1 Ax B8 Cp E0 s4 Ec Dw Cq;have Co:Hid (∃(G:Nat) (A9:Option Addr) (n8 C9:Nat) (ds:List Sto.aL) (tl:List Evt.Bat),aW ((Da.setCell (aD QT 4) (iV ((s.segs:Int)+1))).setCell (aD QT 5) nS) QT 32 (stL c (.slice (some (aD D 0)) n9 C) (G:Int) (.slice A9 n8 C9) (.slice As k Cs) s.u (.slice Aa na Ca))∧PJ w ((Da.setCell (aD QT 4) (iV ((s.segs:Int)+1))).setCell (aD QT 5) nS) (stL c (.slice Ad nd Cd) s.segs (.slice At nt Ct) (.slice As k Cs) s.u (.slice Aa na Ca)) (dX d (.slice Ae ne Ce) t)∧Bl w8 ((Da.setCell (aD QT 4) (iV ((s.segs:Int)+1))).setCell (aD QT 5) nS)∧(∀wE,Off (fun q=>q=QT∨q=w.heap.size+1+1∨q=w.heap.size+1+1+1∨T q=true) ((Da.setCell (aD QT 4) (iV ((s.segs:Int)+1))).setCell (aD QT 5) nS) wE→Dks wE (.slice (some (aD D 0)) n9 C) ds∧eU wE (.slice A9 n8 C9) tl)∧r=(⟨ds,G,tl,s.seen.take (Sto.below d.bat.cmd s.seen)++d.bat.cmd::s.seen.drop (Sto.below d.bat.cmd s.seen),u4,l4⟩,⟨0,u4,[],0,[]⟩)):=by
             have Cz:=(aG Da (aD QT 4) _).trans (aG _ (aD QT 5) _);refine⟨s.segs+1,none,0,0,Sto.write s.segs L6 0 s.disks,[],(Ei.out.set 4 _ (show 4<9 by decide)).set 5 _ (show 5<9 by decide),El.out.off Cz (fun q hq=>?_),Cw.out.trans (Cz.below Cw.out.size fun q hq=>?_),fun wE ho=>?_,?_⟩
             ·have hq:q=QT:=hq;have:=Fe.out;omega
             ·have hq:q=QT:=hq;omega
             ·have Hp:=Gs.out.offS ((Cz.wider fun _ z=>Or.inl z).trans ho) D4.out;have H4:(Sto.write s.segs L6 0 s.disks).length=n9:=by rw[Sto.cI,Dk.out]
              have:=Hp.dks (C:=C) (by rw[H4];exact F9) (by unfold maxLen;exact Dn);rw[H4]at this;exact⟨this,eU.nil8 _⟩
             ·rw[←B2.out,Bj.out,Hq.out,if_neg (fun z=>z rfl)];rfl
            clear Ei El Cw Gs;go_wp2_with fail;go_meet
            exact Co
        case rest=>
         obtain⟨G,A9,n8,C9,ds,tl,G6,G7,Fu,Cy,H2⟩:=hcut.out;obtain⟨wz,Go⟩: ∃y,y=wc:=⟨wc,rfl⟩;rw[←Go]at G6 G7 Fu Cy⊢;have Aj:=hd8 G6;have B0:=hd8 G7;have G8:=hd8 Fu;have Fn:=hd8 Cy;have Co:=H2;have Co:=hd8 Co;clear hcut G6 G7 Fu Cy H2 Go D4 E9 D8 Bj G3 Fi Bx Bk By D2 j5 j2;go_upto_region 30 with fail
         have Hu:w.heap.size+1<QT:=by
          have:=Bz.out.size;omega
         have Gb:Hid (Nms wz (.slice As k Cs) s.seen):=by
          have:=HS.out.sn.below B0.out.bel;rw[←HM.out]at this;exact this
         have Hs:(at9:Int)≤(k:Int):=by omega
         have Hn:(at9:Int)≤(Cs:Int):=by omega
         have Ib:(k:Int)≤(Cs:Int):=by omega
         go_cut [169]from 154 to 170 (fun v wx=>Hid (∃wf A n C',v=.slice A n C'∧RG wz wf 3 1 v (k+1) ((s.seen.take at9++d.bat.cmd::s.seen.drop at9).flatMap aE)∧wx=wf.setCell (aD QT 6) v))
         case first=>
          cases As with
          |none=>
           obtain⟨e0,_⟩:=Fw.out _ _ _ rfl;obtain rfl:Cs=0:=e0 rfl;obtain rfl:k=0:=by omega
           obtain rfl:at9=0:=by omega
           have Ac: ∀w',Bl wz w'→w'.cell? (aD w.heap.size 6)=some nS∧w'.cell? (aD (w.heap.size+1) 5)=some (iV d.bat.cmd):=fun w' hb=>⟨(B0.out.st.below hb).q6,(B0.out.dc.below hb).q5⟩;have Am: ∀w' v,Bl wz w'→(w'.setCell (aD QT 6) v).cell? (aD w.heap.size 6)=some nS∧(w'.setCell (aD QT 6) v).cell? (aD (w.heap.size+1) 5)=some (iV d.bat.cmd):=fun w' v hb=>⟨((B0.out.st.below hb).off (aG w' (aD QT 6) v) (by show¬w.heap.size=QT;omega)).q6,((B0.out.dc.below hb).off (aG w' (aD QT 6) v) (by show¬w.heap.size+1=QT;omega)).q5⟩;have bA:=fun o=>(Below.refl _ _).alloc (c9C _) o;have Bf:Hid (∀(wf:World) (v:Value),RG wz wf 3 1 v (0+1+0) ((s.seen.take 0++d.bat.cmd::s.seen.drop 0).flatMap aE)→RG wz wf 3 1 v (0+1) ((s.seen.take 0++d.bat.cmd::s.seen.drop 0).flatMap aE)):=fun wf v hR=>by
            rw[show 0+1+0=0+1 by omega]at hR;exact hR
           obtain⟨⟨A1,n1,C1,x1,A2,n2,C2,y1,A7,n7,C7,z1,r1,B1,r2,D1,r3,R3⟩,⟨A3,n3,C3,x3,A4,n4,C4,y3,A8,n8,C8,z3,r4,B3,r5,D3,r6,R6⟩,⟨A5,n5,C5,x5,A6,n6,C6,y5,A9,An,C9,z5,r7,B5,r8,D5,r9,R9⟩⟩:=uS wz none 0 0 (fun _=>rfl) (s.seen.take 0) rfl (fun a ha=>by cases ha) d.bat.cmd none 0 0 (fun _=>rfl) (s.seen.drop 0) (by rw[List.length_drop,←HM.out]) (fun a ha=>by cases ha) (by omega) (by omega);have TD:=Ac wz.drew (Below.refl _ _).drew;have T1:=hd8 fun o=>Ac (wz.alloc o).drew (bA o).drew;have T2:=hd8 fun o o'=>Ac ((wz.alloc o).alloc o').drew ((bA o).alloc (bA o).size o').drew;have Dq:=hd8 (Ac x1 B1);have Ea:=hd8 fun o=>Ac (x1.alloc o) (B1.alloc B1.size o);have Dp:=hd8 (Ac y1 D1);have Di:=hd8 (Ac z1 R3.bel);have Ep:=hd8 fun v=>Am z1 v R3.bel;have k0:=(Aj.out.below R3.bel).q6;have q0:=(Aj.out.below R3.bel).frozen 6;have F0:Hid (∃wf A n C',Value.slice A7 n7 C7=.slice A n C'∧RG wz wf 3 1 (.slice A7 n7 C7) (0+1) ((s.seen.take 0++d.bat.cmd::s.seen.drop 0).flatMap aE)∧z1.setCell (aD QT 6) (.slice A7 n7 C7)=wf.setCell (aD QT 6) (.slice A7 n7 C7)):=⟨z1,A7,n7,C7,rfl,Bf.out _ _ R3,rfl⟩;have E3:=hd8 (Ac x3 B3);have Eg:=hd8 fun o=>Ac (x3.alloc o) (B3.alloc B3.size o);have Eh:=hd8 (Ac y3 D3);have E7:=hd8 (Ac z3 R6.bel);have Eb:=hd8 fun v=>Am z3 v R6.bel;have k1:=(Aj.out.below R6.bel).q6;have q1:=(Aj.out.below R6.bel).frozen 6;have F1:Hid (∃wf A n C',Value.slice A8 n8 C8=.slice A n C'∧RG wz wf 3 1 (.slice A8 n8 C8) (0+1) ((s.seen.take 0++d.bat.cmd::s.seen.drop 0).flatMap aE)∧z3.setCell (aD QT 6) (.slice A8 n8 C8)=wf.setCell (aD QT 6) (.slice A8 n8 C8)):=⟨z3,A8,n8,C8,rfl,Bf.out _ _ R6,rfl⟩;have Dm:=hd8 (Ac x5 B5);have Dz:=hd8 fun o=>Ac (x5.alloc o) (B5.alloc B5.size o);have Df:=hd8 (Ac y5 D5);have Ej:=hd8 (Ac z5 R9.bel);have E8:=hd8 fun v=>Am z5 v R9.bel;have k2:=(Aj.out.below R9.bel).q6;have q2:=(Aj.out.below R9.bel).frozen 6;have F2:Hid (∃wf A n C',Value.slice A9 An C9=.slice A n C'∧RG wz wf 3 1 (.slice A9 An C9) (0+1) ((s.seen.take 0++d.bat.cmd::s.seen.drop 0).flatMap aE)∧z5.setCell (aD QT 6) (.slice A9 An C9)=wf.setCell (aD QT 6) (.slice A9 An C9)):=⟨z5,A9,An,C9,rfl,Bf.out _ _ R9,rfl⟩;clear Ac Am bA B1 B3 B5 D1 D3 D5 R3 R6 R9;go_region_held3 (fun w'=>w'.cell? (aD w.heap.size 6)=some nS∧w'.cell? (aD (w.heap.size+1) 5)=some (iV d.bat.cmd))
            (first|A0 Af|A0 exact TD|A0 exact T1.out _|A0 exact T2.out _ _|A0 exact Dq.out|A0 exact Ea.out _|A0 exact Dp.out|A0 exact Di.out|A0 exact Ep.out _|A0 exact E3.out|A0 exact Eg.out _|A0 exact Eh.out|A0 exact E7.out|A0 exact Eb.out _|A0 exact Dm.out|A0 exact Dz.out _|A0 exact Df.out|A0 exact Ej.out|A0 exact E8.out _)
            (first|(refine cB r1 (.tmp 154) (.tmp 158) (by A0 rfl) (by rfl) (by rfl) (by rfl) (by rfl) (by rfl) ?_)|(refine cB r4 (.tmp 154) (.tmp 158) (by A0 rfl) (by rfl) (by rfl) (by rfl) (by rfl) (by rfl) ?_)|(refine cB r7 (.tmp 154) (.tmp 158) (by A0 rfl) (by rfl) (by rfl) (by rfl) (by rfl) (by rfl) ?_)|(refine cB r2 (.tmp 159) (.tmp 163) (by A0 rfl) (by rfl) (by rfl) (by rfl) (by rfl) (by rfl) ?_)|(refine cB r5 (.tmp 159) (.tmp 163) (by A0 rfl) (by rfl) (by rfl) (by rfl) (by rfl) (by rfl) ?_)|(refine cB r8 (.tmp 159) (.tmp 163) (by A0 rfl) (by rfl) (by rfl) (by rfl) (by rfl) (by rfl) ?_)|(refine cB r3 (.tmp 164) (.tmp 168) (by A0 rfl) (by rfl) (by rfl) (by rfl) (by rfl) (by rfl) ?_)|(refine cB r6 (.tmp 164) (.tmp 168) (by A0 rfl) (by rfl) (by rfl) (by rfl) (by rfl) (by rfl) ?_)|(refine cB r9 (.tmp 164) (.tmp 168) (by A0 rfl) (by rfl) (by rfl) (by rfl) (by rfl) (by rfl) ?_))
           all_goals go_wp2_with fail
           all_goals go_meet
           all_goals first|A0 exact F0|A0 exact F1|A0 exact F2
          |some a=>
           obtain⟨b6,o6,sp⟩:=a;obtain⟨_,e0⟩:=Fw.out _ _ _ rfl;obtain rfl:sp=none:=e0 _ rfl;have Ex:=Gb.out;have Ey: ∀a:Addr,some (⟨b6,o6,none⟩:Addr)=some a→ ∀j u,((s.seen.take at9).flatMap aE)[j]?=some u→wz.cell? (a.add j)=some u:=fun a ha j u hj=>by
            refine a2R Ex 0 a (by rw[d0X];exact ha) j u ?_;rw[d2E,←d2Q at9 s.seen,d0H,d0M (c9H.1 hj).1];exact hj
           by_cases Ew:Cs=at9
           ·obtain rfl:k=at9:=by omega
            subst Ew;have Ac: ∀w',Bl wz w'→w'.cell? (aD w.heap.size 6)=some (.slice (some (aD b6 o6)) Cs Cs)∧w'.cell? (aD (w.heap.size+1) 5)=some (iV d.bat.cmd):=fun w' hb=>⟨(B0.out.st.below hb).q6,(B0.out.dc.below hb).q5⟩;have Am: ∀w' v,Bl wz w'→(w'.setCell (aD QT 6) v).cell? (aD w.heap.size 6)=some (.slice (some (aD b6 o6)) Cs Cs)∧(w'.setCell (aD QT 6) v).cell? (aD (w.heap.size+1) 5)=some (iV d.bat.cmd):=fun w' v hb=>⟨((B0.out.st.below hb).off (aG w' (aD QT 6) v) (by show¬w.heap.size=QT;omega)).q6,((B0.out.dc.below hb).off (aG w' (aD QT 6) v) (by show¬w.heap.size+1=QT;omega)).q5⟩;have bA:=fun o=>(Below.refl _ _).alloc (c9C _) o;have Bf:Hid (∀(wf:World) (v:Value),RG wz wf 3 1 v (Cs+1+0) ((s.seen.take Cs++d.bat.cmd::s.seen.drop Cs).flatMap aE)→RG wz wf 3 1 v (Cs+1) ((s.seen.take Cs++d.bat.cmd::s.seen.drop Cs).flatMap aE)):=fun wf v hR=>by
             rw[show Cs+1+0=Cs+1 by omega]at hR;exact hR
            obtain⟨⟨A1,n1,C1,x1,A2,n2,C2,y1,A7,n7,C7,z1,r1,B1,r2,D1,r3,R3⟩,⟨A3,n3,C3,x3,A4,n4,C4,y3,A8,n8,C8,z3,r4,B3,r5,D3,r6,R6⟩,⟨A5,n5,C5,x5,A6,n6,C6,y5,A9,An,C9,z5,r7,B5,r8,D5,r9,R9⟩⟩:=uS wz (some (aD b6 o6)) Cs Cs (fun e=>by cases e) (s.seen.take Cs) (by rw[List.length_take,←HM.out];omega) (fun a ha j u hj=>Ey a ha j u hj) d.bat.cmd (some (aD b6 o6)) 0 0 (fun e=>by cases e) (s.seen.drop Cs) (by rw[List.length_drop,←HM.out];omega) (fun a ha j u hj=>by rw[show s.seen.drop Cs=[]from d0N (by rw[d0A,←HM.out];omega)]at hj;cases hj) (by omega) (by omega);have TD:=Ac wz.drew (Below.refl _ _).drew;have T1:=hd8 fun o=>Ac (wz.alloc o).drew (bA o).drew;have T2:=hd8 fun o o'=>Ac ((wz.alloc o).alloc o').drew ((bA o).alloc (bA o).size o').drew;have Dq:=hd8 (Ac x1 B1);have Ea:=hd8 fun o=>Ac (x1.alloc o) (B1.alloc B1.size o);have Dp:=hd8 (Ac y1 D1);have Di:=hd8 (Ac z1 R3.bel);have Ep:=hd8 fun v=>Am z1 v R3.bel;have k0:=(Aj.out.below R3.bel).q6;have q0:=(Aj.out.below R3.bel).frozen 6;have F0:Hid (∃wf A n C',Value.slice A7 n7 C7=.slice A n C'∧RG wz wf 3 1 (.slice A7 n7 C7) (Cs+1) ((s.seen.take Cs++d.bat.cmd::s.seen.drop Cs).flatMap aE)∧z1.setCell (aD QT 6) (.slice A7 n7 C7)=wf.setCell (aD QT 6) (.slice A7 n7 C7)):=⟨z1,A7,n7,C7,rfl,Bf.out _ _ R3,rfl⟩;have E3:=hd8 (Ac x3 B3);have Eg:=hd8 fun o=>Ac (x3.alloc o) (B3.alloc B3.size o);have Eh:=hd8 (Ac y3 D3);have E7:=hd8 (Ac z3 R6.bel);have Eb:=hd8 fun v=>Am z3 v R6.bel;have k1:=(Aj.out.below R6.bel).q6;have q1:=(Aj.out.below R6.bel).frozen 6;have F1:Hid (∃wf A n C',Value.slice A8 n8 C8=.slice A n C'∧RG wz wf 3 1 (.slice A8 n8 C8) (Cs+1) ((s.seen.take Cs++d.bat.cmd::s.seen.drop Cs).flatMap aE)∧z3.setCell (aD QT 6) (.slice A8 n8 C8)=wf.setCell (aD QT 6) (.slice A8 n8 C8)):=⟨z3,A8,n8,C8,rfl,Bf.out _ _ R6,rfl⟩;have Dm:=hd8 (Ac x5 B5);have Dz:=hd8 fun o=>Ac (x5.alloc o) (B5.alloc B5.size o);have Df:=hd8 (Ac y5 D5);have Ej:=hd8 (Ac z5 R9.bel);have E8:=hd8 fun v=>Am z5 v R9.bel;have k2:=(Aj.out.below R9.bel).q6;have q2:=(Aj.out.below R9.bel).frozen 6;have F2:Hid (∃wf A n C',Value.slice A9 An C9=.slice A n C'∧RG wz wf 3 1 (.slice A9 An C9) (Cs+1) ((s.seen.take Cs++d.bat.cmd::s.seen.drop Cs).flatMap aE)∧z5.setCell (aD QT 6) (.slice A9 An C9)=wf.setCell (aD QT 6) (.slice A9 An C9)):=⟨z5,A9,An,C9,rfl,Bf.out _ _ R9,rfl⟩;clear Ac Am bA B1 B3 B5 D1 D3 D5 R3 R6 R9 Ex Ey;go_region_held3 (fun w'=>w'.cell? (aD w.heap.size 6)=some (.slice (some (aD b6 o6)) Cs Cs)∧w'.cell? (aD (w.heap.size+1) 5)=some (iV d.bat.cmd))
             (first|A0 Af|A0 exact TD|A0 exact T1.out _|A0 exact T2.out _ _|A0 exact Dq.out|A0 exact Ea.out _|A0 exact Dp.out|A0 exact Di.out|A0 exact Ep.out _|A0 exact E3.out|A0 exact Eg.out _|A0 exact Eh.out|A0 exact E7.out|A0 exact Eb.out _|A0 exact Dm.out|A0 exact Dz.out _|A0 exact Df.out|A0 exact Ej.out|A0 exact E8.out _)
             (first|(refine cB r1 (.tmp 154) (.tmp 158) (by A0 rfl) (by rfl) (by rfl) (by rfl) (by rfl) (by rfl) ?_)|(refine cB r4 (.tmp 154) (.tmp 158) (by A0 rfl) (by rfl) (by rfl) (by rfl) (by rfl) (by rfl) ?_)|(refine cB r7 (.tmp 154) (.tmp 158) (by A0 rfl) (by rfl) (by rfl) (by rfl) (by rfl) (by rfl) ?_)|(refine cB r2 (.tmp 159) (.tmp 163) (by A0 rfl) (by rfl) (by rfl) (by rfl) (by rfl) (by rfl) ?_)|(refine cB r5 (.tmp 159) (.tmp 163) (by A0 rfl) (by rfl) (by rfl) (by rfl) (by rfl) (by rfl) ?_)|(refine cB r8 (.tmp 159) (.tmp 163) (by A0 rfl) (by rfl) (by rfl) (by rfl) (by rfl) (by rfl) ?_)|(refine cB r3 (.tmp 164) (.tmp 168) (by A0 rfl) (by rfl) (by rfl) (by rfl) (by rfl) (by rfl) ?_)|(refine cB r6 (.tmp 164) (.tmp 168) (by A0 rfl) (by rfl) (by rfl) (by rfl) (by rfl) (by rfl) ?_)|(refine cB r9 (.tmp 164) (.tmp 168) (by A0 rfl) (by rfl) (by rfl) (by rfl) (by rfl) (by rfl) ?_))
            all_goals go_wp2_with fail
            all_goals go_meet
            all_goals first|A0 exact F0|A0 exact F1|A0 exact F2
           ·have Hv: ¬Cs=at9:=Ew;have Ac: ∀w',Bl wz w'→w'.cell? (aD w.heap.size 6)=some (.slice (some (aD b6 o6)) k Cs)∧w'.cell? (aD (w.heap.size+1) 5)=some (iV d.bat.cmd):=fun w' hb=>⟨(B0.out.st.below hb).q6,(B0.out.dc.below hb).q5⟩;have Am: ∀w' v,Bl wz w'→(w'.setCell (aD QT 6) v).cell? (aD w.heap.size 6)=some (.slice (some (aD b6 o6)) k Cs)∧(w'.setCell (aD QT 6) v).cell? (aD (w.heap.size+1) 5)=some (iV d.bat.cmd):=fun w' v hb=>⟨((B0.out.st.below hb).off (aG w' (aD QT 6) v) (by show¬w.heap.size=QT;omega)).q6,((B0.out.dc.below hb).off (aG w' (aD QT 6) v) (by show¬w.heap.size+1=QT;omega)).q5⟩;have bA:=fun o=>(Below.refl _ _).alloc (c9C _) o;have Bf:Hid (∀(wf:World) (v:Value),RG wz wf 3 1 v (at9+1+(k-at9)) ((s.seen.take at9++d.bat.cmd::s.seen.drop at9).flatMap aE)→RG wz wf 3 1 v (k+1) ((s.seen.take at9++d.bat.cmd::s.seen.drop at9).flatMap aE)):=fun wf v hR=>by
             rw[show at9+1+(k-at9)=k+1 by omega]at hR;exact hR
            obtain⟨⟨A1,n1,C1,x1,A2,n2,C2,y1,A7,n7,C7,z1,r1,B1,r2,D1,r3,R3⟩,⟨A3,n3,C3,x3,A4,n4,C4,y3,A8,n8,C8,z3,r4,B3,r5,D3,r6,R6⟩,⟨A5,n5,C5,x5,A6,n6,C6,y5,A9,An,C9,z5,r7,B5,r8,D5,r9,R9⟩⟩:=uS wz (some (aD b6 o6)) at9 Cs (fun e=>by cases e) (s.seen.take at9) (by rw[List.length_take,←HM.out];omega) (fun a ha j u hj=>Ey a ha j u hj) d.bat.cmd (some (aD b6 (o6+at9))) (k-at9) (Cs-at9) (fun e=>by cases e) (s.seen.drop at9) (by rw[List.length_drop,←HM.out]) (a2R Ex at9) (by omega) (by omega);have TD:=Ac wz.drew (Below.refl _ _).drew;have T1:=hd8 fun o=>Ac (wz.alloc o).drew (bA o).drew;have T2:=hd8 fun o o'=>Ac ((wz.alloc o).alloc o').drew ((bA o).alloc (bA o).size o').drew;have Dq:=hd8 (Ac x1 B1);have Ea:=hd8 fun o=>Ac (x1.alloc o) (B1.alloc B1.size o);have Dp:=hd8 (Ac y1 D1);have Di:=hd8 (Ac z1 R3.bel);have Ep:=hd8 fun v=>Am z1 v R3.bel;have k0:=(Aj.out.below R3.bel).q6;have q0:=(Aj.out.below R3.bel).frozen 6;have F0:Hid (∃wf A n C',Value.slice A7 n7 C7=.slice A n C'∧RG wz wf 3 1 (.slice A7 n7 C7) (k+1) ((s.seen.take at9++d.bat.cmd::s.seen.drop at9).flatMap aE)∧z1.setCell (aD QT 6) (.slice A7 n7 C7)=wf.setCell (aD QT 6) (.slice A7 n7 C7)):=⟨z1,A7,n7,C7,rfl,Bf.out _ _ R3,rfl⟩;have E3:=hd8 (Ac x3 B3);have Eg:=hd8 fun o=>Ac (x3.alloc o) (B3.alloc B3.size o);have Eh:=hd8 (Ac y3 D3);have E7:=hd8 (Ac z3 R6.bel);have Eb:=hd8 fun v=>Am z3 v R6.bel;have k1:=(Aj.out.below R6.bel).q6;have q1:=(Aj.out.below R6.bel).frozen 6;have F1:Hid (∃wf A n C',Value.slice A8 n8 C8=.slice A n C'∧RG wz wf 3 1 (.slice A8 n8 C8) (k+1) ((s.seen.take at9++d.bat.cmd::s.seen.drop at9).flatMap aE)∧z3.setCell (aD QT 6) (.slice A8 n8 C8)=wf.setCell (aD QT 6) (.slice A8 n8 C8)):=⟨z3,A8,n8,C8,rfl,Bf.out _ _ R6,rfl⟩;have Dm:=hd8 (Ac x5 B5);have Dz:=hd8 fun o=>Ac (x5.alloc o) (B5.alloc B5.size o);have Df:=hd8 (Ac y5 D5);have Ej:=hd8 (Ac z5 R9.bel);have E8:=hd8 fun v=>Am z5 v R9.bel;have k2:=(Aj.out.below R9.bel).q6;have q2:=(Aj.out.below R9.bel).frozen 6;have F2:Hid (∃wf A n C',Value.slice A9 An C9=.slice A n C'∧RG wz wf 3 1 (.slice A9 An C9) (k+1) ((s.seen.take at9++d.bat.cmd::s.seen.drop at9).flatMap aE)∧z5.setCell (aD QT 6) (.slice A9 An C9)=wf.setCell (aD QT 6) (.slice A9 An C9)):=⟨z5,A9,An,C9,rfl,Bf.out _ _ R9,rfl⟩;clear Ac Am bA B1 B3 B5 D1 D3 D5 R3 R6 R9 Ex Ey;go_region_held3 (fun w'=>w'.cell? (aD w.heap.size 6)=some (.slice (some (aD b6 o6)) k Cs)∧w'.cell? (aD (w.heap.size+1) 5)=some (iV d.bat.cmd))
             (first|A0 Af|A0 exact TD|A0 exact T1.out _|A0 exact T2.out _ _|A0 exact Dq.out|A0 exact Ea.out _|A0 exact Dp.out|A0 exact Di.out|A0 exact Ep.out _|A0 exact E3.out|A0 exact Eg.out _|A0 exact Eh.out|A0 exact E7.out|A0 exact Eb.out _|A0 exact Dm.out|A0 exact Dz.out _|A0 exact Df.out|A0 exact Ej.out|A0 exact E8.out _)
             (first|(refine cB r1 (.tmp 154) (.tmp 158) (by A0 rfl) (by rfl) (by rfl) (by rfl) (by rfl) (by rfl) ?_)|(refine cB r4 (.tmp 154) (.tmp 158) (by A0 rfl) (by rfl) (by rfl) (by rfl) (by rfl) (by rfl) ?_)|(refine cB r7 (.tmp 154) (.tmp 158) (by A0 rfl) (by rfl) (by rfl) (by rfl) (by rfl) (by rfl) ?_)|(refine cB r2 (.tmp 159) (.tmp 163) (by A0 rfl) (by rfl) (by rfl) (by rfl) (by rfl) (by rfl) ?_)|(refine cB r5 (.tmp 159) (.tmp 163) (by A0 rfl) (by rfl) (by rfl) (by rfl) (by rfl) (by rfl) ?_)|(refine cB r8 (.tmp 159) (.tmp 163) (by A0 rfl) (by rfl) (by rfl) (by rfl) (by rfl) (by rfl) ?_)|(refine cB r3 (.tmp 164) (.tmp 168) (by A0 rfl) (by rfl) (by rfl) (by rfl) (by rfl) (by rfl) ?_)|(refine cB r6 (.tmp 164) (.tmp 168) (by A0 rfl) (by rfl) (by rfl) (by rfl) (by rfl) (by rfl) ?_)|(refine cB r9 (.tmp 164) (.tmp 168) (by A0 rfl) (by rfl) (by rfl) (by rfl) (by rfl) (by rfl) ?_))
            all_goals go_wp2_with fail
            all_goals go_meet
            all_goals first|A0 exact F0|A0 exact F1|A0 exact F2
         case rest=>
          obtain⟨wf,Ek,Ds,Et,Gd,B9,Bp⟩:=hcut.out;obtain⟨Cu,Dd⟩: ∃y,y=wc:=⟨wc,rfl⟩;rw[←Dd]at Bp⊢;subst Gd;have I2:QT<wz.heap.size:=aY.lt Aj.out;have Ir:=Bz.out.size;have Ba:Off (fun q=>q=QT) wf Cu:=by
           rw[Bp];exact aG wf (aD QT 6) _
          have B6:=(Off.of_below B9.bel).trans Ba;have Ap:=(Aj.out.below B9.bel).set 6 (.slice Ek Ds Et) (show 6<9 by decide);rw[←Bp]at Ap
          have Fm:Bl w8 Cu:=G8.out.trans (B6.below G8.out.size fun q hq=>by
           have hq:q=QT:=hq
           omega)
          have Dx:=B0.out.off B6 (fun q hq=>by
           have hq:q=QT:=hq
           omega)
          have Bi:=Hw.out.below Fm;have Ie:QV≠QT:=Bi.ty.ne Ap.ty (by decide);have v0:=Bi.q0;have v1:=Bi.q1;have t7:=Ap.q7;have t8:=Ap.q8;have f7:=Ap.frozen 7;have f8:=Ap.frozen 8;have Ef:=hd8 Ap;have Ed:=hd8 Dx;have De:=hd8 Bi;have Cr:=hd8 Fm;have En:Hid (Off (fun q=>q=QT) wz Cu∧Off (fun q=>q=QT) wf Cu∧RG wz wf 3 1 (.slice Ek Ds Et) (k+1) ((s.seen.take at9++d.bat.cmd::s.seen.drop at9).flatMap aE)):=⟨B6,Ba,B9⟩;clear hcut B9 Bp B6 Ba Ap Dx Bi Fm Dd;go_upto_region 32 with fail
          obtain⟨Fk,Bw⟩: ∃q,q=(Cu.setCell (aD QT 7) (iV u4)).setCell (aD QT 8) (.slice Av nv Cv):=⟨_,rfl⟩;rw[←Bw];have Ak:Off (fun q=>q=QT) Cu Fk:=by
           rw[Bw];exact(aG Cu (aD QT 7) _).trans (aG _ (aD QT 8) _)
          have D7:=(Ef.out.set 7 (iV u4) (show 7<9 by decide)).set 8 (.slice Av nv Cv) (show 8<9 by decide);rw[←Bw]at D7
          have Ar:=Ed.out.off Ak (fun q hq=>by
           have hq:q=QT:=hq
           omega)
          have Bv:=De.out.off Ak Ie
          have H8:Bl w8 Fk:=Cr.out.trans (Ak.below Cr.out.size fun q hq=>by
           have hq:q=QT:=hq
           omega)
          have Ht:Hid (∀wE,Off (fun q=>q=w.heap.size+1+1∨q=w.heap.size+1+1+1) Fk wE→dL (.returned (.tuple #[stA c.d c.s c.b (.slice (some (aD D 0)) n9 C) (G:Int) (.slice A9 n8 C9) (.slice Ek Ds Et) u4 (.slice Av nv Cv),.agg #[iV 0,iV u4,nS,iV 0,nS]])) T w wE c r):=fun wE hoE=>by
           obtain⟨o1,o2,B9⟩:=En.out;have o3:Off (fun q=>q=w.heap.size+1+1∨q=w.heap.size+1+1+1∨T q=true) Fk (aS T wE):=(hoE.wider fun _ z=>z.imp id Or.inl).trans ((jD T wE).wider fun _ z=>Or.inr (Or.inr z));have oz:=((o1.wider fun _ z=>Or.inl z).trans (Ak.wider fun _ z=>Or.inl z)).trans (o3.wider fun _ z=>Or.inr (a:=_=QT) z);have I1:=((o2.wider fun _ z=>Or.inl z).trans (Ak.wider fun _ z=>Or.inl z)).trans (o3.wider fun _ z=>Or.inr (a:=_=QT) z);obtain⟨d1,d2⟩:=Fn.out _ oz;have E1:(aS T wE).ownsRow wz.heap.size 3 1 (.slice Ek Ds Et) (k+1) ((s.seen.take at9++d.bat.cmd::s.seen.drop at9).flatMap aE):=bC B9.own I1 fun g hg z=>by
            have:=(B9.own.lt g hg).1;have:=G8.out.size;rcases z with z|z|z|z
            ·omega
            ·omega
            ·omega
            ·have:=HT.out g z;omega
           have Hr:(s.seen.take at9++d.bat.cmd::s.seen.drop at9).length=k+1:=by
            rw[c9I,d0E,c9K,d0A,←HM.out];omega
           have H5:Nms (aS T wE) (.slice Ek Ds Et) (s.seen.take at9++d.bat.cmd::s.seen.drop at9):=b3D (N:=wz.heap.size) (by rw[Hr];exact E1);have Ic:bJ (aS T wE) (.slice Av nv Cv) l4:=by
            rcases Ih.out with z|⟨z1,z2⟩
            ·refine(Fx.out.below H8).off o3 fun g hg q=>?_;have:=z g hg;rcases q with q|q|q
             ·omega
             ·omega
             ·have:=HT.out g q;omega
            ·rw[z1,z2];refine Fz.out.ac.sub (tE (Off.down Ar.bel o3 fun q hq z=>?_));rcases z with z|z|z
             ·omega
             ·omega
             ·exact z
           rw[Co.out];rw[I7.out]at H5;refine⟨_,_,_,_,_,_,rfl,⟨d1,d2,H5,Ic⟩,kA _,bJ.nil _,b2E E1,Ar.bel.trans (hoE.below Ar.bel.size fun q hq=>by omega)⟩
          obtain⟨a0,a1,a2,a3,a4,a5,a6,a7,a8⟩:=D7.c9;obtain⟨x0,x1,x2,x3,x4,x5,x6,x7,x8,p0,p1,p2,p3,p4,p5,p6,p7,p8,y0,y1,y2,y3,y4,q0,q1,q2,q3,q4⟩:=Ar.res;have b0:=Bv.q0;have I0: ¬QV=w.heap.size+1+1:=Bv.ty.ne Ar.x2.var.ty (by decide);have Hk: ¬QV=w.heap.size+1+1+1:=Bv.ty.ne Ar.x3.var.ty (by decide);have Io:=fun z=>I0 z.symm;have In:=fun z=>Hk z.symm;clear Bw Ak D7 Ar Bv H8 Ef Ed De Cr En v0 v1 t7 t8 f7 f8;go_region
          go_wp2_with fail;exact bodyPost_ret (by simp[results,results32,go_sem,x0,x1,x2,x3,x4,x5,x6,x7,x8,y0,y1,y2,y3,y4]) rfl (Ht.out _ (a1A _ _ _ _ _ _ _ _ _ _ _ _ _ _ _ _ _))
end Go.Proofs.YtmcaejooaaahdaaGreat
