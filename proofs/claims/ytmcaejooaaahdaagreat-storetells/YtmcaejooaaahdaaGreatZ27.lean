import Derived.Test.YtmcaejooaaahdaaGreatZ26
set_option maxHeartbeats 8000000
set_option maxRecDepth 100000
namespace Go.Proofs.YtmcaejooaaahdaaGreat
open Go.Proofs.Tryz
open Go.RowKit
section
variable {N R D : Nat} {F E : Nat → Prop} {c : Sto.Cfg} {s : Sto.St} {V : Nat → Value} {U : Nat → List HeC} {vt vs va : Value} {tc : List (Int × Sl)} {X : Sto.Six}
theorem c5G(hX:Sto.dE X)(w:World)(h:StP w N R F E c s D V U vt vs va tc)(d:Sto.Do)(ve:Value)(t:ByteArray)(hd:sS w d ve t)(hNw:N≤w.heap.size):
  Calls prog 17 #[.pointer (some (aD R 0)),.agg (dX d ve t).toArray] w fun e w'=>DoO e w w' N R F E c (Sto.put X c s d):=by
 obtain⟨A,C,rfl⟩:=hd.evs.sE;show Calls prog 17 #[.pointer (some (aD R 0)),.agg #[iV d.kind,iV d.n,iV d.seg,iV d.pos,.int .u8 d.turn,iV d.bat.cmd,.slice A d.bat.evs.length C,.string t,iV d.ver]] w fun e w'=>DoO e w w' N R F E c (Sto.put X c s d);have As:PW w ((w.alloc (.cells #[iV d.kind,iV d.n,iV d.seg,iV d.pos,.int .u8 d.turn,iV d.bat.cmd,.slice A d.bat.evs.length C,.string t,iV d.ver] 49)).alloc (.cells (cJ 0 0) 42)) N R F E c s D V U vt vs va tc d (.slice A d.bat.evs.length C) t:=a8K h hd;have HX:=hd8 hX;have Bv:=hd8 hNw;have Ar:Hid (Sto.put X c s d=if (Evt.aA d.bat).1≠0 then(s,Sto.no (Evt.aA d.bat).1)else if d.bat.cmd∈s.seen then(s,Sto.told s.u)else if 0≤d.ver∧d.ver≠(Vw.get s.acc d.name).cnt then(s,Sto.no 11)else if (Vw.cD s.u s.acc d.bat.evs).1.1≠0 then(s,Sto.no (Vw.cD s.u s.acc d.bat.evs).1.1)else if (Sto.eU X c s d.bat (Vw.cD s.u s.acc d.bat.evs).2).1≠0 then(s,Sto.no (Sto.eU X c s d.bat (Vw.cD s.u s.acc d.bat.evs).2).1)else((Sto.eU X c s d.bat (Vw.cD s.u s.acc d.bat.evs).2).2,Sto.told (Vw.cD s.u s.acc d.bat.evs).2.1)):=rfl;clear h hd hX hNw;go_enter func17,ntmps17
 go_upto_region 1 with fail
 generalize (w.alloc (.cells #[iV d.kind,iV d.n,iV d.seg,iV d.pos,.int .u8 d.turn,iV d.bat.cmd,.slice A d.bat.evs.length C,.string t,iV d.ver] 49)).alloc (.cells (cJ 0 0) 42)=w2 at As⊢;have d5:w2.cell? (aD w.heap.size 5)=some (iV d.bat.cmd):=As.vd.q5;have d6:w2.cell? (aD w.heap.size 6)=some (.slice A d.bat.evs.length C):=As.vd.q6;have HW:=yL d.bat.cmd (.slice A d.bat.evs.length C) d.bat.evs w2 As.din.evs;have HW:Calls prog 41 #[.agg #[iV d.bat.cmd,.slice A d.bat.evs.length C]] w2 fun e w'=>e=.returned (.agg #[iV ((Evt.aA d.bat).1:Nat),iV ((Evt.aA d.bat).2:Nat)])∧Bl w2 w':=HW;obtain⟨x,hx⟩: ∃x,x=(Evt.aA d.bat).1:=⟨_,rfl⟩;obtain⟨y,hy⟩: ∃y,y=(Evt.aA d.bat).2:=⟨_,rfl⟩;have Bf:=hd8 hx;rw[←hx,←hy]at HW;clear hx hy;go_upto_region 2 with(first|(go_at_call 41;refine HW.mono ?_;rintro e3 w3 ⟨rfl,b3⟩))
 have bA:=aB8 w3 (.cells #[iV x,iV y] 78);have g0:=(aC w3 #[iV x,iV y] 78).q0;have A2:=As.bE (bt b3 bA);generalize w3.alloc (.cells #[iV x,iV y] 78)=w4 at*;clear HW As d5 d6 b3 bA;by_cases B8:x=0
 case neg=>
  have HR:Hid (∀w',Off (fun k=>k=w.heap.size+1) w4 w'→DoO (.returned (dI (x:Nat) 0)) w w' N R F E c (Sto.put X c s d)):=fun w' ho=>by
   rw[Ar.out,if_pos (by rw[←Bf.out];exact B8),←Bf.out];exact A2.same ho x 0
  have b0:=A2.va.q0;have b1:=A2.va.q1;have b2:=A2.va.q2;have b3:=A2.va.q3;have b4:=A2.va.q4;have f0:=A2.va.frozen 0;have f1:=A2.va.frozen 1;have f2:=A2.va.frozen 2;have f3:=A2.va.frozen 3;have f4:=A2.va.frozen 4;have Bo:((x:Int) !=0)=true:=by rw[bne_iff_ne];omega
  clear B8 A2;go_wp2_with fail;exact bodyPost_ret (by simp[results,results17,go_sem,b0,b1,b2,b3,b4]) rfl (HR.out _ (aT _ _ _ _ _ _ _))
 case pos=>
  have Bo:((x:Int) !=0)=false:=by rw[bne_eq_false_iff_eq];omega
  have Am:Hid ((Evt.aA d.bat).1=0):=by
   show(Evt.aA d.bat).1=0;rw[←Bf.out];exact B8
  have hr:=A2.st.wf.right;have Ct:=hr.hi;have C5:s.seen.length≤150:=by
   have:=A2.st.wf.cmds;omega
  have Ch:=hd8 C5;have c6:=A2.st.var.q6;have d5:w4.cell? (aD w.heap.size 5)=some (iV d.bat.cmd):=A2.vd.q5;have Be:=b5T d.bat.cmd vs s.seen w4.drew (a6L (aK A2.st.seen (Below.refl _ _).drew)) A2.st.wf.up (by omega);obtain⟨i,hi⟩: ∃i,i=Sto.below d.bat.cmd s.seen:=⟨_,rfl⟩;obtain⟨yb,Bp⟩: ∃yb,yb=decide (d.bat.cmd∈s.seen):=⟨_,rfl⟩;have Ah:Hid (kZ s.seen d.bat.cmd i):=by
   show kZ s.seen d.bat.cmd i;rw[hi];exact b5W A2.st.wf.up
  have An:Hid (yb=true↔d.bat.cmd∈s.seen):=by
   show yb=true↔d.bat.cmd∈s.seen;rw[Bp,decide_eq_true_iff]
  rw[←hi,←Bp]at Be;have TD:w4.drew.cell? (aD R 6)=some vs∧w4.drew.cell? (aD w.heap.size 5)=some (iV d.bat.cmd):=⟨c6,d5⟩;have B1:=A2.bE (Below.refl _ _).drew;clear B8 hr Ct C5 hi Bp A2 c6 d5;go_wp2_with fail;go_region_held3 (fun w'=>w'.cell? (aD R 6)=some vs∧w'.cell? (aD w.heap.size 5)=some (iV d.bat.cmd))
   (first|with_reducible exact TD|with_reducible assumption)
   (first|(go_at_call 42;refine Be.mono ?_;rintro e5 w5 ⟨rfl,b5⟩;have S5:=c8O b5 TD))
  have A1:=B1.bE b5;clear Be TD S5 b5 g0 B1;cases yb with
  |true=>
   have HR:Hid (∀w',Off (fun k=>k=w.heap.size+1) w5 w'→DoO (.returned (dI 0 s.u)) w w' N R F E c (Sto.put X c s d)):=fun w' ho=>by
    rw[Ar.out,if_neg (fun z=>z Am.out),if_pos (An.out.1 rfl)];exact A1.same ho 0 s.u
   have b0:=A1.va.q0;have b1:=A1.va.q1;have b2:=A1.va.q2;have b3:=A1.va.q3;have b4:=A1.va.q4;have f0:=A1.va.frozen 0;have f1:=A1.va.frozen 1;have f2:=A1.va.frozen 2;have f3:=A1.va.frozen 3;have f4:=A1.va.frozen 4;have c7:=A1.st.var.q7;clear A1;go_wp2_with fail;exact bodyPost_ret (by simp[results,results17,go_sem,b0,b1,b2,b3,b4]) rfl (HR.out _ (aT _ _ _ _ _ _ _))
  |false=>
   have B0:Hid (d.bat.cmd∉s.seen):=fun z=>absurd (An.out.2 z) (by decide);obtain⟨Ap,Ak⟩: ∃Ap:Bool,Ap=decide (0≤d.ver∧d.ver≠(Vw.get s.acc d.name).cnt):=⟨_,rfl⟩;have Aj:=hd8 Ak;have c7:=A1.st.var.q7;have c8:=A1.st.var.q8;have e7:w5.cell? (aD w.heap.size 7)=some (.string t):=A1.vd.q7;have e8:w5.cell? (aD w.heap.size 8)=some (iV d.ver):=A1.vd.q8;obtain⟨Aa,Ca,Cu⟩:=A1.st.acc.1.sE;subst Cu;have Aq:=b4O s.u t (.slice Aa s.acc.length Ca) s.acc w5.drew (A1.st.acc.1.bE (Below.refl _ _).drew) A1.din.sz;rw[A1.din.name]at Aq;unfold c3W AcV at Aq;clear An HW Ak;go_upto_region 7 with fail
   go_cut [56]from 40 to 56 (fun v56 wx=>v56=.bool Ap∧PW w wx N R F E c s D V U vt vs (.slice Aa s.acc.length Ca) tc d (.slice A d.bat.evs.length C) t)
   case first=>
    by_cases hv:0≤d.ver
    ·have Bw:Hid (Ap=((Vw.get s.acc d.name).cnt !=d.ver)):=by
      show Ap=((Vw.get s.acc d.name).cnt !=d.ver);rw[Aj.out];by_cases q:d.ver=(Vw.get s.acc d.name).cnt
      ·rw[decide_eq_false (fun z=>z.2 q),q];simp
      ·rw[decide_eq_true ⟨hv,q⟩];exact(bne_iff_ne.2 fun z=>q z.symm).symm
     have Cv:=decide_eq_true hv;have TD:w5.drew.cell? (aD R 7)=some (iV s.u)∧w5.drew.cell? (aD R 8)=some (.slice Aa s.acc.length Ca)∧w5.drew.cell? (aD w.heap.size 7)=some (.string t)∧w5.drew.cell? (aD w.heap.size 8)=some (iV d.ver)∧Bl w5 w5.drew:=⟨c7,c8,e7,e8,(Below.refl _ _).drew⟩;have Co:=fun s2 a2 o2 w'=>xS s2 a2 (Vw.get s.acc d.name).cnt o2 w';generalize (Vw.get s.acc d.name).cnt=cn at Bw Aq Co;go_region_held3 (fun w'=>w'.cell? (aD R 7)=some (iV s.u)∧w'.cell? (aD R 8)=some (.slice Aa s.acc.length Ca)∧w'.cell? (aD w.heap.size 7)=some (.string t)∧w'.cell? (aD w.heap.size 8)=some (iV d.ver)∧Bl w5 w')
      (first|with_reducible exact TD|with_reducible assumption)
      (first|(go_at_call 43;refine Aq.mono ?_;rintro e6 w6 ⟨⟨v6,rfl,s6,_,_,rfl⟩,b6⟩;have S6:=c9A b6 TD))
     go_wp2_with fail;go_meet
     exact⟨by rw[Bw.out],A1.bE S6.2.2.2.2⟩
    ·have Cv:=decide_eq_false hv;have Ak:Ap=false:=by
      rw[Aj.out];exact decide_eq_false fun z=>hv z.1
     subst Ak;clear Aq;go_quiet (fail)
     go_wp2_with fail;go_meet
     exact⟨rfl,A1.bE (bdn (Below.refl _ _) _)⟩
   case rest=>
    obtain⟨rfl,A3⟩:=hcut;obtain⟨w6,Cb⟩: ∃y,y=wc:=⟨wc,rfl⟩;rw[←Cb]at A3⊢;clear Cb A1 Aq c7 c8 e7 e8;cases Ap with
    |true=>
     have HR:Hid (∀w',Off (fun k=>k=w.heap.size+1) w6 w'→DoO (.returned (dI 11 0)) w w' N R F E c (Sto.put X c s d)):=fun w' ho=>by
      rw[Ar.out,if_neg (fun z=>z Am.out),if_neg B0.out,if_pos (of_decide_eq_true Aj.out.symm)];exact A3.same ho 11 0
     have b0:=A3.va.q0;have b1:=A3.va.q1;have b2:=A3.va.q2;have b3:=A3.va.q3;have b4:=A3.va.q4;have f0:=A3.va.frozen 0;have f1:=A3.va.frozen 1;have f2:=A3.va.frozen 2;have f3:=A3.va.frozen 3;have f4:=A3.va.frozen 4;clear A3;go_wp2_with fail;exact bodyPost_ret (by simp[results,results17,go_sem,b0,b1,b2,b3,b4]) rfl (HR.out _ (aT _ _ _ _ _ _ _))
    |false=>
     have Bb:=hd8 (of_decide_eq_false Aj.out.symm);have c7:=A3.st.var.q7;have c8:=A3.st.var.q8;have e6:w6.cell? (aD w.heap.size 6)=some (.slice A d.bat.evs.length C):=A3.vd.q6;have B6: ∀w',(w'.cell? (aD R 7)=some (iV s.u)∧w'.cell? (aD R 8)=some (.slice Aa s.acc.length Ca)∧w'.cell? (aD w.heap.size 6)=some (.slice A d.bat.evs.length C)∧Bl w6 w')→Calls prog 44 #[.agg #[iV s.u,.slice Aa s.acc.length Ca],.slice A d.bat.evs.length C] w' fun e w''=>FoO e w'' w'.heap.size (Vw.cD s.u s.acc d.bat.evs)∧Bl w' w'':=fun w' hS=>a8Z s.u _ _ s.acc d.bat.evs w' (A3.st.acc.1.bE hS.2.2.2) (A3.din.evs.bE hS.2.2.2);obtain⟨fo,Bj⟩: ∃fo,fo=Vw.cD s.u s.acc d.bat.evs:=⟨_,rfl⟩;have Ax:=hd8 Bj;rw[←Bj]at B6;clear Bj;obtain⟨⟨x2,y2⟩,u2,l2⟩:=fo;unfold FoO jU at B6;have TD:w6.drew.cell? (aD R 7)=some (iV s.u)∧w6.drew.cell? (aD R 8)=some (.slice Aa s.acc.length Ca)∧w6.drew.cell? (aD w.heap.size 6)=some (.slice A d.bat.evs.length C)∧Bl w6 w6.drew:=⟨c7,c8,e6,(Below.refl _ _).drew⟩;have D9:R<w6.heap.size:=World.block_lt_of_cell? _ _ c7;have D6:w.heap.size<w6.heap.size:=World.block_lt_of_cell? _ _ e6;have bD: ∀X:World,Bl X X.drew:=fun X=>(Below.refl _ _).drew;have Bh: ∀(X:World) (o:Obj),Bl X (X.alloc o):=fun X o=>(Below.refl _ _).alloc (c9C _) o;have Bq: ∀o,(w6.alloc o).heap.size=w6.heap.size+1:=fun o=>by simp
     have E1:dU (w6.alloc (.cells #[iV 0,nS] 30)).drew w6.heap.size (iV 0) nS:=(aO w6 30 _ _).bE (bD _);have E2:dU (w6.alloc (.cells #[iV 0,iV 0] 78)).drew w6.heap.size (iV 0) (iV 0):=(aO w6 78 _ _).bE (bD _);have E3:dU ((w6.alloc (.cells #[iV 0,nS] 30)).alloc (.cells #[iV 0,iV 0] 78)).drew w6.heap.size (iV 0) nS:=((aO w6 30 _ _).bE (Bh _ _)).bE (bD _);have E4:dU ((w6.alloc (.cells #[iV 0,nS] 30)).alloc (.cells #[iV 0,iV 0] 78)).drew (w6.heap.size+1) (iV 0) (iV 0):=by
      have h:=(aO (w6.alloc (.cells #[iV 0,nS] 30)) 78 (iV 0) (iV 0)).bE (bD _);rw[Bq]at h;exact h
     have E5:dU ((w6.alloc (.cells #[iV 0,iV 0] 78)).alloc (.cells #[iV 0,nS] 30)).drew w6.heap.size (iV 0) (iV 0):=((aO w6 78 _ _).bE (Bh _ _)).bE (bD _);have E6:dU ((w6.alloc (.cells #[iV 0,iV 0] 78)).alloc (.cells #[iV 0,nS] 30)).drew (w6.heap.size+1) (iV 0) nS:=by
      have h:=(aO (w6.alloc (.cells #[iV 0,iV 0] 78)) 30 (iV 0) nS).bE (bD _);rw[Bq]at h;exact h
     have Ao:=hd8 A3;clear A3;go_upto_region 9 with fail
     go_cut [8,9]from 58 to 70 (fun p8 p9 wx=> ∃(XV G:Nat) (v7:Value),p8=.pointer (some (aD XV 0))∧p9=.pointer (some (aD G 0))∧w6.heap.size≤XV∧dU wx XV (iV u2) v7∧dU wx G (iV x2) (iV y2)∧bG wx v7 l2∧kN w6.heap.size v7∧Bl w6 wx)
     case first=>
      go_region_held3 (fun w'=>w'.cell? (aD R 7)=some (iV s.u)∧w'.cell? (aD R 8)=some (.slice Aa s.acc.length Ca)∧w'.cell? (aD w.heap.size 6)=some (.slice A d.bat.evs.length C)∧Bl w6 w')
       (first|with_reducible exact TD|with_reducible assumption|with_reducible exact b4N (by assumption) (by assumption)|with_reducible exact a4E (by assumption)|with_reducible exact c6U (by assumption)|with_reducible exact a3R (by assumption) (by omega) (by omega) (by omega)|with_reducible exact a4E (a4E (by assumption))|with_reducible exact a4E (a3R (by assumption) (by omega) (by omega) (by omega))|with_reducible exact a3R (a3R (by assumption) (by omega) (by omega) (by omega)) (by omega) (by omega) (by omega))
       (first|(go_at_call 44;refine(B6 _ (by assumption)).mono ?_;rintro e7 w7 ⟨⟨v7,rfl,A7,P7⟩,b7⟩;obtain⟨Q7,C7,rfl⟩:=A7.sE;have S7:=b4N b7 (by assumption);have h7:w6.heap.size≤w7.heap.size:=S7.2.2.2.size;(first|(have Y:=E3.bE b7;obtain⟨Y0,Y1,Yr⟩:=Y;have Yf:=Yr 0;have Yg:=Yr 1;have Yl:_<w7.heap.size:=World.block_lt_of_cell? _ _ Y0;have Yn:=Nat.ne_of_lt Yl;have Ym:=Nat.ne_of_gt Yl;have Y:=E3.bE b7;have Z:=E4.bE b7;obtain⟨Z0,Z1,Zr⟩:=Z;have Zf:=Zr 0;have Zg:=Zr 1;have Zl:_<w7.heap.size:=World.block_lt_of_cell? _ _ Z0;have Zn:=Nat.ne_of_lt Zl;have Zm:=Nat.ne_of_gt Zl;have Z:=E4.bE b7)|(have Y:=E6.bE b7;obtain⟨Y0,Y1,Yr⟩:=Y;have Yf:=Yr 0;have Yg:=Yr 1;have Yl:_<w7.heap.size:=World.block_lt_of_cell? _ _ Y0;have Yn:=Nat.ne_of_lt Yl;have Ym:=Nat.ne_of_gt Yl;have Y:=E6.bE b7;have Z:=E5.bE b7;obtain⟨Z0,Z1,Zr⟩:=Z;have Zf:=Zr 0;have Zg:=Zr 1;have Zl:_<w7.heap.size:=World.block_lt_of_cell? _ _ Z0;have Zn:=Nat.ne_of_lt Zl;have Zm:=Nat.ne_of_gt Zl;have Z:=E5.bE b7)|(have Y:=E1.bE b7;obtain⟨Y0,Y1,Yr⟩:=Y;have Yf:=Yr 0;have Yg:=Yr 1;have Yl:_<w7.heap.size:=World.block_lt_of_cell? _ _ Y0;have Yn:=Nat.ne_of_lt Yl;have Ym:=Nat.ne_of_gt Yl;have Y:=E1.bE b7)|(have Z:=E2.bE b7;obtain⟨Z0,Z1,Zr⟩:=Z;have Zf:=Zr 0;have Zg:=Zr 1;have Zl:_<w7.heap.size:=World.block_lt_of_cell? _ _ Z0;have Zn:=Nat.ne_of_lt Zl;have Zm:=Nat.ne_of_gt Zl;have Z:=E2.bE b7)|skip)))
      all_goals go_wp2_with fail
      all_goals go_meet
      ·obtain⟨q1,q2,q3,q4⟩:=c8S (t:=30) (t':=78) (p:=iV u2) (q:=.slice Q7 l2.length C7) (c:=iV x2) (d:=iV y2) A7 S7.2.2.2;exact⟨_,_,_,rfl,rfl,h7,q1,q2,q3,P7.mono (c9C _),q4⟩
      ·obtain⟨q1,q2,q3,q4⟩:=c8S (t:=78) (t':=30) (p:=iV x2) (q:=iV y2) (c:=iV u2) (d:=.slice Q7 l2.length C7) A7 S7.2.2.2;exact⟨_,_,_,rfl,rfl,Nat.le_succ_of_le h7,q2,q1,q3,P7.mono (c9C _),q4⟩
      ·obtain⟨q1,q2,q3,q4⟩:=c8I (t:=78) (p:=iV u2) (q:=.slice Q7 l2.length C7) (c:=iV x2) (d:=iV y2) Y A7 (P7.mono (by simp[World.drew]<;>omega)) S7.2.2.2 (c9C _);exact⟨_,_,_,rfl,rfl,c9C _,q1,q2,q3,P7.mono (by simp[World.drew]),q4⟩
      ·obtain⟨q1,q2,q3,q4⟩:=noA (p:=iV u2) (q:=.slice Q7 l2.length C7) (c:=iV x2) (d:=iV y2) Y Z A7 P7 S7.2.2.2 (c9C _) (by omega) (by omega) (by simp[World.drew]<;>omega) (by simp[World.drew]<;>omega);exact⟨_,_,_,rfl,rfl,c9C _,q1,q2,q3,P7.mono (by simp[World.drew]<;>omega),q4⟩
      ·obtain⟨q1,q2,q3,q4⟩:=c8I (t:=30) (p:=iV x2) (q:=iV y2) (c:=iV u2) (d:=.slice Q7 l2.length C7) Z A7 (P7.mono (by simp[World.drew]<;>omega)) S7.2.2.2 (c9C _);exact⟨_,_,_,rfl,rfl,h7,q2,q1,q3,P7.mono (by simp[World.drew]),q4⟩
      ·obtain⟨q1,q2,q3,q4⟩:=noA (p:=iV u2) (q:=.slice Q7 l2.length C7) (c:=iV x2) (d:=iV y2) Y Z A7 P7 S7.2.2.2 (by omega) (c9C _) (by omega) (by simp[World.drew]<;>omega) (by simp[World.drew]<;>omega);exact⟨_,_,_,rfl,rfl,by omega,q1,q2,q3,P7.mono (by simp[World.drew]<;>omega),q4⟩
     case rest=>
      obtain⟨XV,G,v7,rfl,rfl,De,VX,VG,A7,P7,b7⟩:=hcut;obtain⟨w7,Cc⟩: ∃y,y=wc:=⟨wc,rfl⟩;rw[←Cc]at VX VG A7 b7⊢;have A4:=Ao.out.bE b7;have B5:Hid (w.heap.size+1<w6.heap.size):=World.block_lt_of_cell? _ _ (Ao.out.va.q0);have Ba:=hd8 b7.size;obtain⟨g0,_,_⟩:=VG;clear Cc TD B6 E1 E2 E3 E4 E5 E6 Bq bD Bh c7 c8 e6 Ao b7;by_cases B4:x2=0
      case neg=>
       have HR:Hid (∀w',Off (fun k=>k=w.heap.size+1) w7 w'→DoO (.returned (dI (x2:Nat) 0)) w w' N R F E c (Sto.put X c s d)):=fun w' ho=>by
        rw[Ar.out,if_neg (fun z=>z Am.out),if_neg B0.out,if_neg Bb.out,←Ax.out,if_pos B4];exact A4.same ho x2 0
       have b0:=A4.va.q0;have b1:=A4.va.q1;have b2:=A4.va.q2;have b3:=A4.va.q3;have b4:=A4.va.q4;have f0:=A4.va.frozen 0;have f1:=A4.va.frozen 1;have f2:=A4.va.frozen 2;have f3:=A4.va.frozen 3;have f4:=A4.va.frozen 4;have Bo:((x2:Int) !=0)=true:=by rw[bne_iff_ne];omega
       clear B4 A4 VX A7 P7;go_wp2_with fail;exact bodyPost_ret (by simp[results,results17,go_sem,b0,b1,b2,b3,b4]) rfl (HR.out _ (aT _ _ _ _ _ _ _))
      case pos=>
       have Bo:((x2:Int) !=0)=false:=by rw[bne_eq_false_iff_eq];omega
       have Bz:=hd8 B4;have B7:Hid (Vw.iS u2 l2∧u2=s.u+d.bat.evs.length):=by
        have q:=Vw.rG (u:=s.u) (l:=s.acc) (es:=d.bat.evs) (by rw[←Ax.out];exact B4);rw[←Ax.out]at q;exact⟨q.1,q.2.1⟩
       have Bt:Hid (l2≠[]):=fun z=>by
        have q1:=B7.out.1.tot;have q2:=B7.out.2;have q3:=A4.st.wf.right.lo;have q4:=(Evt.bN Am.out).2.2.1;rw[z]at q1;have q1:(0:Int)=u2:=q1;omega
       have Ay:=c1V HX.out w7 A4.st d.bat (.slice A d.bat.evs.length C) A4.din.evs Am.out (c9E Bv.out A4.bel.size);have e5:w7.cell? (aD w.heap.size 5)=some (iV d.bat.cmd):=A4.vd.q5;have e6:w7.cell? (aD w.heap.size 6)=some (.slice A d.bat.evs.length C):=A4.vd.q6;obtain⟨r8,Bm⟩: ∃r8,r8=fM X c s d.bat:=⟨_,rfl⟩;have B2:=hd8 Bm;rw[←Bm]at Ay;obtain⟨k8,s8⟩:=r8;unfold qI at Ay;have A6:=hd8 A4;have By:=hd8 VX;have Ce:=hd8 A7;have Bc:=hd8 P7;have Bu:Hid (∀g,v7.ownBlock=some g→l2≠[]→g<w7.heap.size):=fun g hg hl=>by
        obtain⟨A,D2,rfl,_,_,h3⟩:=A7;cases l2 with
        |nil=>exact absurd rfl hl
        |cons a r=>
         obtain⟨b,o,rfl,_,_,_,q,_⟩:=h3 0 a rfl;cases hg
         exact World.block_lt_of_cell? _ _ q
       clear Bm B4 A4 VX A7 P7;go_upto_region 13 with(first|(go_at_call 45;refine Ay.mono ?_;rintro e8 w8 ⟨rfl,F8,E8,D8,V8,U8,Cd,Cx,A0,Ad⟩))
       have Cy:=hd8 Ad;have Aw: ∀k,w.heap.size≤k→ ¬F k:=fun k hk z=>by
        have:=A6.out.lt k (Or.inl z);omega
       have Ac:=A6.out.va.off Ad.off (Aw _ (c9O _));have At:=A6.out.vd.off Ad.off (Aw _ (c9C _));have Bg:dU w8 XV (iV u2) v7:=By.out.off Ad.off (Aw _ (by have:=B5.out;omega));have A8:bG w8 v7 l2:=Ce.out.off Ad.off fun g hg=>Aw _ (by have:=Bc.out g hg;have:=B5.out;omega)
       have Az:Hid (∀k,w.heap.size≤k→k<w7.heap.size→ ¬F8 k∧ ¬E8 k):=fun k hk hk2=>⟨fun z=>by
        rcases Ad.growF k z with q|q
        ·exact Aw k hk q
        ·omega,fun z=>by
        rcases Ad.growE k z with q|q
        ·have:=A6.out.lt k (Or.inr q);omega
        ·omega⟩
       have Ai:=hd8 ((dS.oE F E A6.out.bel).trans Ad);have A0:StP w8 N R F8 E8 c s8 D8 V8 U8 Cd vs (.slice Aa s.acc.length Ca) Cx:=A0;have Bn:=b2S X c s d.bat;rw[←B2.out]at Bn;have C6:s8.seen=s.seen:=Bn.1;have Cs:s8.u=s.u:=Bn.2.1;by_cases B3:k8=0
       case neg=>
        have HR:Hid (∀w',Off (fun k=>k=w.heap.size+1) w8 w'→DoO (.returned (dI (k8:Nat) 0)) w w' N R F E c (Sto.put X c s d)):=fun w' ho=>by
         have Cr:s8=s:=by
          have:=b8L (X:=X) (c:=c) (s:=s) (b:=d.bat) (by rw[←B2.out];exact B3);rw[←B2.out]at this;exact this
         rw[Ar.out,if_neg (fun z=>z Am.out),if_neg B0.out,if_neg Bb.out,←Ax.out,if_neg (fun z=>z Bz.out),a1J,←B2.out,if_pos B3];refine⟨_,F8,E8,rfl,⟨_,_,_,_,_,_,_,(Cr▸A0).out ho fun k e=>?_⟩,⟨Ai.out.off.past ho fun k e hk=>?_,Ai.out.growF,Ai.out.growE⟩,fJ _ _ _ _⟩
         ·have e:k=w.heap.size+1:=e;omega
         ·rw[show k=w.heap.size+1 from e];exact Az.out _ (c9O _) (c9P B5.out Ba.out)
        have b0:=Ac.q0;have b1:=Ac.q1;have b2:=Ac.q2;have b3:=Ac.q3;have b4:=Ac.q4;have f0:=Ac.frozen 0;have f1:=Ac.frozen 1;have f2:=Ac.frozen 2;have f3:=Ac.frozen 3;have f4:=Ac.frozen 4;have Cp:((k8:Int) !=0)=true:=by rw[bne_iff_ne];omega
        clear B3 A0 Bg A8 At Ad Ay;go_wp2_with fail;exact bodyPost_ret (by simp[results,results17,go_sem,b0,b1,b2,b3,b4]) rfl (HR.out _ (aT _ _ _ _ _ _ _))
       case pos=>
        have Cp:((k8:Int) !=0)=false:=by rw[bne_eq_false_iff_eq];omega
        have Bs:=hd8 B3;have D7:R<w.heap.size:=A6.out.lt R (Or.inl A6.out.st.fR);have Cn:XV<w7.heap.size:=World.block_lt_of_cell? _ _ By.out.c0;have Df:=B5.out;have Ab:w8.ownsRow N 3 1 vs s.seen.length (s.seen.flatMap aE):=by
         have:=A0.seen;rw[C6]at this;exact this
        have bi:=(aB8 w8 (.cells #[iV d.bat.cmd] 3)).drew;have Br:=c2Y N i w8.heap.size vs s.seen d.bat.cmd (w8.alloc (.cells #[iV d.bat.cmd] 3)).drew (aK Ab bi) (c9E Bv.out (c9E (c9E A6.out.bel.size Ad.off.size) bi.size)) Ah.out.1 (by have:=Ch.out;omega) (heap_alloc_new w8 _) (fun z=>absurd (Ab.lt _ z).2 (d0V _));have Ck:w8.drew.cell? (aD R 6)=some vs:=A0.var.q6;have Cl:=(A0.var.bE bi).q6;have TD:w8.drew.cell? (aD w.heap.size 5)=some (iV d.bat.cmd):=At.q5;have Cj:=(At.bE bi).q5;have D5:w.heap.size≠R:=by omega
        have Al: ∀k,vs.ownBlock=some k→TyB (w8.alloc (.cells #[iV d.bat.cmd] 3)).drew k 3:=fun k q=>aU (aK Ab bi) q;have Bx:Hid (∀w9,Off (fun k=>vs.ownBlock=some k) (w8.alloc (.cells #[iV d.bat.cmd] 3)).drew w9→aV w9 R 45 (j6 c D8 s8.disks.length s8.segs Cd vs s8.u (.slice Aa s.acc.length Ca))∧aV w9 w.heap.size 49 (dX d (.slice A d.bat.evs.length C) t)∧aV w9 (w.heap.size+1) 42 (cJ 0 0).toList∧dU w9 XV (iV u2) v7∧bG w9 v7 l2):=fun w9 ho=>by
         refine⟨(A0.var.bE bi).off ho fun q=>(Al _ q).ne (A0.var.bE bi).ty (by decide) rfl,(At.bE bi).off ho fun q=>(Al _ q).ne (At.bE bi).ty (by decide) rfl,(Ac.bE bi).off ho fun q=>(Al _ q).ne (Ac.bE bi).ty (by decide) rfl,(Bg.bE bi).off ho fun q=>(Az.out XV (by omega) Cn).1 (A0.fS XV q),(A8.bE bi).off ho fun g hg q=>?_⟩;have h1:=Bc.out g hg;by_cases hl:l2=[]
         ·exact absurd hl Bt.out
         ·exact(Az.out g (by omega) (Bu.out g hg hl)).1 (A0.fS g q)
        obtain⟨Q7,C7,rfl⟩:=A8.sE;obtain⟨L9,C1⟩: ∃L,L=(s.seen.take i++d.bat.cmd::s.seen.drop i).length:=⟨_,rfl⟩;have Cg:=hd8 C1;have Ci:=hd8 A6.out.st.wf.up;clear C1;clear B3 Bg A8 At Ac Ay;go_wp2_with fail;go_cut []from 84 to 99 (fun wx=>c8W (w8.alloc (.cells #[iV d.bat.cmd] 3)).drew wx N R vs (s.seen.take i++d.bat.cmd::s.seen.drop i))
        case first=>
         go_region_with (go_at_call 46;refine Br.mono ?_;rintro e9 w9 ⟨v9,rfl,A5,Av,Ae⟩;obtain⟨Ag,C2,Af,B9,Bk⟩:=Bx.out w9 Av;have Cz:=Ag.q6;have Dg:=Ag.frozen 6;have Cf:c8W (w8.alloc (.cells #[iV d.bat.cmd] 3)).drew (w9.setCell (aD R 6) v9) N R vs (s.seen.take i++d.bat.cmd::s.seen.drop i):=⟨w9,v9,rfl,A5,Av,Ae⟩;obtain⟨A9,C9,C8,_⟩:=a6L A5;rw[←Cg.out]at C8;subst C8)
         all_goals go_wp2_with fail
         all_goals go_meet
         all_goals exact Cf
        case rest=>
         obtain⟨w9,v9,Cw,A5,Av,Ae⟩:=hcut;obtain⟨Ag,C2,Af,B9,Bk⟩:=Bx.out w9 Av;have Da:XV≠R:=by omega
         have Db:R≠XV:=by omega
         have D3:w.heap.size+1≠R:=by omega
         have D4:R≠w.heap.size+1:=by omega
         have Dc:XV≠w.heap.size+1:=by omega
         have Dd:w.heap.size+1≠XV:=by omega
         have C0:=bi.size;have HR:Hid (∀w',Off (fun k=>k=w.heap.size+1) (((w9.setCell (aD R 6) v9).setCell (aD R 7) (iV u2)).setCell (aD R 8) (.slice Q7 l2.length C7)) w'→DoO (.returned (dI 0 u2)) w w' N R F E c (Sto.put X c s d)):=fun w' ho=>by
          have Cm:Sto.eU X c s d.bat (u2,l2)=(0,{s8 with seen:=s.seen.take i++d.bat.cmd::s.seen.drop i,u:=u2,acc:=l2}):=by
           rw[a1J,←B2.out,uG Ah.out];show(k8,if k8=0 then _ else _)=_;rw[if_pos Bs.out,Bs.out]
          rw[Ar.out,if_neg (fun z=>z Am.out),if_neg B0.out,if_neg Bb.out,←Ax.out,if_neg (fun z=>z Bz.out),Cm,if_neg (fun z=>z rfl)];have Cq:Off (fun k=>k=R∨vs.ownBlock=some k) w8 w9:=(Off.oE bi).trans (Av.wider fun k q=>Or.inr q);have C4:Off (fun k=>k=R∨vs.ownBlock=some k) w8 (((w9.setCell (aD R 6) v9).setCell (aD R 7) (iV u2)).setCell (aD R 8) (.slice Q7 l2.length C7)):=
           ((Cq.set (p:=⟨R,6,none⟩) (Or.inl rfl) v9).set (p:=⟨R,7,none⟩) (Or.inl rfl) (iV u2)).set (p:=⟨R,8,none⟩) (Or.inl rfl) (.slice Q7 l2.length C7)
          have C3:Off (fun k=>k=R) w9 (((w9.setCell (aD R 6) v9).setCell (aD R 7) (iV u2)).setCell (aD R 8) (.slice Q7 l2.length C7)):=
           (((Off.refl (fun k=>k=R) w9).set (p:=⟨R,6,none⟩) rfl v9).set (p:=⟨R,7,none⟩) rfl (iV u2)).set (p:=⟨R,8,none⟩) rfl (.slice Q7 l2.length C7)
          have Au: ∀g,(Value.slice Q7 l2.length C7).ownBlock=some g→w6.heap.size≤g∧g<w7.heap.size:=fun g hg=>⟨Bc.out g hg,Bu.out g hg Bt.out⟩;have hS:=A0.putS (s':={s8 with seen:=s.seen.take i++d.bat.cmd::s.seen.drop i,u:=u2,acc:=l2}) (vs':=v9) (va':=.slice Q7 l2.length C7) C4 rfl rfl (((Ag.set 6 v9 (show 6<9 by decide)).set 7 (iV u2) (show 7<9 by decide)).set 8 (.slice Q7 l2.length C7) (show 8<9 by decide)) (bC A5 C3 fun g hg e=>?_) (Ae.imp id fun z g hg=>c9E C0 (z g hg)) (Bk.off C3 fun g hg e=>?_) (fun g hg=>?_) ⟨A0.wf.len,A0.wf.d1,A0.wf.d8,A0.wf.s4,A0.wf.b1,A0.wf.b10,A0.wf.wd,A0.wf.segs,A0.wf.tail,A0.wf.bats,c7U Ah.out Ci.out B0.out,?_,B7.out.1⟩
          ·have Bi: ∀k,k=w.heap.size+1→ ¬(F8 k∨v9.ownBlock=some k)∧ ¬(E8 k∨(Value.slice Q7 l2.length C7).ownBlock=some k):=fun k e=>by
            have h0:=Az.out k (by omega) (by have:=Ba.out;omega);refine⟨fun z=>z.elim h0.1 fun z=>?_,fun z=>z.elim h0.2 fun z=>?_⟩
            ·rcases Ae with q|q
             ·rw[q]at z;exact h0.1 (A0.fS k z)
             ·have h1:=q k z;have h2:=Ba.out;have h3:=Ad.off.size;omega
            ·have:=(Au k z).1;omega
           refine⟨_,_,_,rfl,⟨_,_,_,_,_,_,_,hS.out ho Bi⟩,⟨(Ai.out.off.past C4 fun k q hk=>?_).past ho fun k q hk=>?_,fun k q=>?_,fun k q=>?_⟩,fJ _ _ 0 u2⟩
           ·have h0:F8 k:=by
             rcases q with rfl|q
             ·exact A0.fR
             ·exact A0.fS k q
            rcases Ai.out.growF k h0 with z|z
            ·exact z
            ·omega
           ·have q:k=w.heap.size+1:=q;omega
           ·rcases q with q|q
            ·exact Ai.out.growF k q
            ·rcases Ae with z|z
             ·rw[z]at q;exact Ai.out.growF k (A0.fS k q)
             ·have h1:=z k q;have h2:=Ai.out.off.size;exact Or.inr (by omega)
           ·rcases q with q|q
            ·exact Ai.out.growE k q
            ·have:=(Au k q).1;exact Or.inr (by omega)
          ·have e:g=R:=e;exact(aU A5 hg).ne Ag.ty (by decide) e
          ·have e:g=R:=e;have:=(Au g hg).1;omega
          ·have h0:=Az.out g (by have:=(Au g hg).1;omega) (Au g hg).2;exact⟨h0.1,c9P (Au g hg).2 Ad.off.size⟩
          ·have h1:=A0.wf.cmds;rw[C6,Cs]at h1;have h2:=B7.out.2;have h3:=(Evt.bN Am.out).2.2.1;show((s.seen.take i++d.bat.cmd::s.seen.drop i).length:Int)≤u2;have h4:(s.seen.take i++d.bat.cmd::s.seen.drop i).length=s.seen.length+1:=by
            have:=Ah.out.1;simp;omega
           rw[h4];omega
         have D0:=Ag.q7;have D1:=Ag.q8;have Dh:=Ag.frozen 7;have Di:=Ag.frozen 8;have x0:=B9.c0;have x1:=B9.c1;have b0:=Af.q0;have b1:=Af.q1;have b2:=Af.q2;have b3:=Af.q3;have b4:=Af.q4;have f0:=Af.frozen 0;have f1:=Af.frozen 1;have f2:=Af.frozen 2;have f3:=Af.frozen 3;have f4:=Af.frozen 4;subst Cw;clear A5 Av Ae Ag C2 Af B9 Bk A0 Ad Br Ck Cl TD Cj Al bi C0 Ab;go_wp2_with fail;exact bodyPost_ret (by simp[results,results17,go_sem,b0,b1,b2,b3,b4]) rfl (HR.out _ (aT _ _ _ _ _ _ _))
end
end Go.Proofs.YtmcaejooaaahdaaGreat
