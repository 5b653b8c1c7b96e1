import Derived.Test.YtmcaejooaaahdaaGreatZ16
set_option maxHeartbeats 8000000
set_option maxRecDepth 100000
namespace Go.Proofs.YtmcaejooaaahdaaGreat
open Go.Proofs.Tryz
variable {N cap g n x:Nat} {ds':List Sto.Disk} {es:List EvC} {u:Int} {v:Value} {w:World}
open Go.RowKit
section
variable {N R D : Nat} {F E : Nat → Prop} {c : Sto.Cfg} {s : Sto.St} {V : Nat → Value} {U : Nat → List HeC} {vt vs va : Value} {tc : List (Int × Sl)} {X : Sto.Six}
theorem c3R(hX:Sto.dE X)(w:World)(h:StP w N R F E c s D V U vt vs va tc)(d:Sto.Do)(ve:Value)(t:ByteArray)(hd:tM w d ve t)(hNw:N≤w.heap.size):
  Calls prog 17 #[.pointer (some (aD R 0)),.agg (dX d ve t).toArray] w fun e w'=>DoO e w w' N R F E c (Sto.put X c s d):=by
 obtain⟨A,C,rfl⟩:=hd.evs.shape;show Calls prog 17 #[.pointer (some (aD R 0)),.agg #[iV d.kind,iV d.n,iV d.seg,iV d.pos,.int .u8 d.turn,iV d.bat.cmd,.slice A d.bat.evs.length C,.string t,iV d.ver]] w fun e w'=>DoO e w w' N R F E c (Sto.put X c s d);have Au:PW w ((w.alloc (.cells #[iV d.kind,iV d.n,iV d.seg,iV d.pos,.int .u8 d.turn,iV d.bat.cmd,.slice A d.bat.evs.length C,.string t,iV d.ver] 49)).alloc (.cells (cS 0 0) 42)) N R F E c s D V U vt vs va tc d (.slice A d.bat.evs.length C) t:=a6W h hd;have HX:=hd8 hX;have Bx:=hd8 hNw;have Av:Hid (Sto.put X c s d=if (Evt.aA d.bat).1≠0 then(s,Sto.no (Evt.aA d.bat).1)else if d.bat.cmd∈s.seen then(s,Sto.told s.u)else if 0≤d.ver∧d.ver≠(Vw.get s.acc d.name).cnt then(s,Sto.no 11)else if (Vw.cD s.u s.acc d.bat.evs).1.1≠0 then(s,Sto.no (Vw.cD s.u s.acc d.bat.evs).1.1)else if (Sto.eR X c s d.bat (Vw.cD s.u s.acc d.bat.evs).2).1≠0 then(s,Sto.no (Sto.eR X c s d.bat (Vw.cD s.u s.acc d.bat.evs).2).1)else((Sto.eR X c s d.bat (Vw.cD s.u s.acc d.bat.evs).2).2,Sto.told (Vw.cD s.u s.acc d.bat.evs).2.1)):=rfl;clear h hd hX hNw;go_enter func17,ntmps17
 go_upto_region 1 with fail
 generalize (w.alloc (.cells #[iV d.kind,iV d.n,iV d.seg,iV d.pos,.int .u8 d.turn,iV d.bat.cmd,.slice A d.bat.evs.length C,.string t,iV d.ver] 49)).alloc (.cells (cS 0 0) 42)=w2 at Au⊢;have d5:w2.cell? (aD w.heap.size 5)=some (iV d.bat.cmd):=Au.vd.q5;have d6:w2.cell? (aD w.heap.size 6)=some (.slice A d.bat.evs.length C):=Au.vd.q6;have HW:=yC d.bat.cmd (.slice A d.bat.evs.length C) d.bat.evs w2 Au.din.evs;have HW:Calls prog 41 #[.agg #[iV d.bat.cmd,.slice A d.bat.evs.length C]] w2 fun e w'=>e=.returned (.agg #[iV ((Evt.aA d.bat).1:Nat),iV ((Evt.aA d.bat).2:Nat)])∧Bl w2 w':=HW;obtain⟨x,hx⟩: ∃x,x=(Evt.aA d.bat).1:=⟨_,rfl⟩;obtain⟨y,hy⟩: ∃y,y=(Evt.aA d.bat).2:=⟨_,rfl⟩;have Bp:=hd8 hx;rw[←hx,←hy]at HW;clear hx hy;go_upto_region 2 with(first|(go_at_call 41;refine HW.mono ?_;rintro e3 w3 ⟨rfl,b3⟩))
 have bA:=aB8 w3 (.cells #[iV x,iV y] 78);have g0:=(aC w3 #[iV x,iV y] 78).q0;have A4:=Au.below (bt b3 bA);generalize w3.alloc (.cells #[iV x,iV y] 78)=w4 at*;clear HW Au d5 d6 b3 bA;by_cases B9:x=0
 case neg=>
  have HR:Hid (∀w',Off (fun k=>k=w.heap.size+1) w4 w'→DoO (.returned (dH (x:Nat) 0)) w w' N R F E c (Sto.put X c s d)):=fun w' ho=>by
   rw[Av.out,if_pos (by rw[←Bp.out];exact B9),←Bp.out];exact A4.same ho x 0
  have b0:=A4.va.q0;have b1:=A4.va.q1;have b2:=A4.va.q2;have b3:=A4.va.q3;have b4:=A4.va.q4;have f0:=A4.va.frozen 0;have f1:=A4.va.frozen 1;have f2:=A4.va.frozen 2;have f3:=A4.va.frozen 3;have f4:=A4.va.frozen 4;have Bo:((x:Int) !=0)=true:=by rw[bne_iff_ne];omega
  clear B9 A4;go_wp2_with fail;exact bodyPost_ret (by simp[results,results17,go_sem,b0,b1,b2,b3,b4]) rfl (HR.out _ (aT _ _ _ _ _ _ _))
 case pos=>
  have Bo:((x:Int) !=0)=false:=by rw[bne_eq_false_iff_eq];omega
  have Ao:Hid ((Evt.aA d.bat).1=0):=by
   show(Evt.aA d.bat).1=0;rw[←Bp.out];exact B9
  have hr:=A4.st.wf.right;have Cr:=hr.hi;have C4:s.seen.length≤150:=by
   have:=A4.st.wf.cmds;omega
  have Ck:=hd8 C4;have c6:=A4.st.var.q6;have d5:w4.cell? (aD w.heap.size 5)=some (iV d.bat.cmd):=A4.vd.q5;have Bn:=b6V d.bat.cmd vs s.seen w4.drew (a6H (aK A4.st.seen (Below.refl _ _).drew)) A4.st.wf.up (by omega);obtain⟨i,hi⟩: ∃i,i=Sto.below d.bat.cmd s.seen:=⟨_,rfl⟩;obtain⟨yb,Br⟩: ∃yb,yb=decide (d.bat.cmd∈s.seen):=⟨_,rfl⟩;have Am:Hid (kX s.seen d.bat.cmd i):=by
   show kX s.seen d.bat.cmd i;rw[hi];exact b6P A4.st.wf.up
  have Ar:Hid (yb=true↔d.bat.cmd∈s.seen):=by
   show yb=true↔d.bat.cmd∈s.seen;rw[Br,decide_eq_true_iff]
  rw[←hi,←Br]at Bn;have TD:w4.drew.cell? (aD R 6)=some vs∧w4.drew.cell? (aD w.heap.size 5)=some (iV d.bat.cmd):=⟨c6,d5⟩;have B0:=A4.below (Below.refl _ _).drew;clear B9 hr Cr C4 hi Br A4 c6 d5;go_wp2_with fail;go_region_held3 (fun w'=>w'.cell? (aD R 6)=some vs∧w'.cell? (aD w.heap.size 5)=some (iV d.bat.cmd))
   (first|A0 exact TD|A0 A1)
   (first|(go_at_call 42;refine Bn.mono ?_;rintro e5 w5 ⟨rfl,b5⟩;have S5:=c8R b5 TD))
  have A3:=B0.below b5;clear Bn TD S5 b5 g0 B0;cases yb with
  |true=>
   have HR:Hid (∀w',Off (fun k=>k=w.heap.size+1) w5 w'→DoO (.returned (dH 0 s.u)) w w' N R F E c (Sto.put X c s d)):=fun w' ho=>by
    rw[Av.out,if_neg (fun z=>z Ao.out),if_pos (Ar.out.1 rfl)];exact A3.same ho 0 s.u
   have b0:=A3.va.q0;have b1:=A3.va.q1;have b2:=A3.va.q2;have b3:=A3.va.q3;have b4:=A3.va.q4;have f0:=A3.va.frozen 0;have f1:=A3.va.frozen 1;have f2:=A3.va.frozen 2;have f3:=A3.va.frozen 3;have f4:=A3.va.frozen 4;have c7:=A3.st.var.q7;clear A3;go_wp2_with fail;exact bodyPost_ret (by simp[results,results17,go_sem,b0,b1,b2,b3,b4]) rfl (HR.out _ (aT _ _ _ _ _ _ _))
  |false=>
   have B3:Hid (d.bat.cmd∉s.seen):=fun z=>absurd (Ar.out.2 z) (by decide);obtain⟨Aq,An⟩: ∃Aq:Bool,Aq=decide (0≤d.ver∧d.ver≠(Vw.get s.acc d.name).cnt):=⟨_,rfl⟩;have Al:=hd8 An;have c7:=A3.st.var.q7;have c8:=A3.st.var.q8;have e7:w5.cell? (aD w.heap.size 7)=some (.string t):=A3.vd.q7;have e8:w5.cell? (aD w.heap.size 8)=some (iV d.ver):=A3.vd.q8;obtain⟨Aa,Ca,Ct⟩:=A3.st.acc.1.shape;subst Ct;have Ax:=b4N s.u t (.slice Aa s.acc.length Ca) s.acc w5.drew (A3.st.acc.1.below (Below.refl _ _).drew) A3.din.sz;rw[A3.din.name]at Ax;unfold c4X AcV at Ax;clear Ar HW An;go_upto_region 7 with fail
   go_cut [56]from 40 to 56 (fun v56 wx=>v56=.bool Aq∧PW w wx N R F E c s D V U vt vs (.slice Aa s.acc.length Ca) tc d (.slice A d.bat.evs.length C) t)
   case first=>
    by_cases hv:0≤d.ver
    ·have Cd:Hid (Aq=((Vw.get s.acc d.name).cnt !=d.ver)):=by
      show Aq=((Vw.get s.acc d.name).cnt !=d.ver);rw[Al.out];by_cases q:d.ver=(Vw.get s.acc d.name).cnt
      ·rw[decide_eq_false (fun z=>z.2 q),q];simp
      ·rw[decide_eq_true ⟨hv,q⟩];exact(bne_iff_ne.2 fun z=>q z.symm).symm
     have Cv:=decide_eq_true hv;have TD:w5.drew.cell? (aD R 7)=some (iV s.u)∧w5.drew.cell? (aD R 8)=some (.slice Aa s.acc.length Ca)∧w5.drew.cell? (aD w.heap.size 7)=some (.string t)∧w5.drew.cell? (aD w.heap.size 8)=some (iV d.ver)∧Bl w5 w5.drew:=⟨c7,c8,e7,e8,(Below.refl _ _).drew⟩;have Cz:=fun s2 a2 o2 w'=>zH s2 a2 (Vw.get s.acc d.name).cnt o2 w';generalize (Vw.get s.acc d.name).cnt=cn at Cd Ax Cz;go_region_held3 (fun w'=>w'.cell? (aD R 7)=some (iV s.u)∧w'.cell? (aD R 8)=some (.slice Aa s.acc.length Ca)∧w'.cell? (aD w.heap.size 7)=some (.string t)∧w'.cell? (aD w.heap.size 8)=some (iV d.ver)∧Bl w5 w')
      (first|A0 exact TD|A0 A1)
      (first|(go_at_call 43;refine Ax.mono ?_;rintro e6 w6 ⟨⟨v6,rfl,s6,_,_,rfl⟩,b6⟩;have S6:=c8K b6 TD))
     go_wp2_with fail;go_meet
     exact⟨by rw[Cd.out],A3.below S6.2.2.2.2⟩
    ·have Cv:=decide_eq_false hv;have An:Aq=false:=by
      rw[Al.out];exact decide_eq_false fun z=>hv z.1
     subst An;clear Ax;go_quiet (fail)
     go_wp2_with fail;go_meet
     exact⟨rfl,A3.below (bdn (Below.refl _ _) _)⟩
   case rest=>
    obtain⟨rfl,Ab⟩:=hcut;obtain⟨w6,Bv⟩: ∃y,y=wc:=⟨wc,rfl⟩;rw[←Bv]at Ab⊢;clear Bv A3 Ax c7 c8 e7 e8;cases Aq with
    |true=>
     have HR:Hid (∀w',Off (fun k=>k=w.heap.size+1) w6 w'→DoO (.returned (dH 11 0)) w w' N R F E c (Sto.put X c s d)):=fun w' ho=>by
      rw[Av.out,if_neg (fun z=>z Ao.out),if_neg B3.out,if_pos (of_decide_eq_true Al.out.symm)];exact Ab.same ho 11 0
     have b0:=Ab.va.q0;have b1:=Ab.va.q1;have b2:=Ab.va.q2;have b3:=Ab.va.q3;have b4:=Ab.va.q4;have f0:=Ab.va.frozen 0;have f1:=Ab.va.frozen 1;have f2:=Ab.va.frozen 2;have f3:=Ab.va.frozen 3;have f4:=Ab.va.frozen 4;clear Ab;go_wp2_with fail;exact bodyPost_ret (by simp[results,results17,go_sem,b0,b1,b2,b3,b4]) rfl (HR.out _ (aT _ _ _ _ _ _ _))
    |false=>
     have Bf:=hd8 (of_decide_eq_false Al.out.symm);have c7:=Ab.st.var.q7;have c8:=Ab.st.var.q8;have e6:w6.cell? (aD w.heap.size 6)=some (.slice A d.bat.evs.length C):=Ab.vd.q6;have Ba: ∀w',(w'.cell? (aD R 7)=some (iV s.u)∧w'.cell? (aD R 8)=some (.slice Aa s.acc.length Ca)∧w'.cell? (aD w.heap.size 6)=some (.slice A d.bat.evs.length C)∧Bl w6 w')→Calls prog 44 #[.agg #[iV s.u,.slice Aa s.acc.length Ca],.slice A d.bat.evs.length C] w' fun e w''=>FoO e w'' w'.heap.size (Vw.cD s.u s.acc d.bat.evs)∧Bl w' w'':=fun w' hS=>a7V s.u _ _ s.acc d.bat.evs w' (Ab.st.acc.1.below hS.2.2.2) (Ab.din.evs.below hS.2.2.2);obtain⟨fo,Bc⟩: ∃fo,fo=Vw.cD s.u s.acc d.bat.evs:=⟨_,rfl⟩;have B4:=hd8 Bc;rw[←Bc]at Ba;clear Bc;obtain⟨⟨x2,y2⟩,u2,l2⟩:=fo;unfold FoO jQ at Ba;have TD:w6.drew.cell? (aD R 7)=some (iV s.u)∧w6.drew.cell? (aD R 8)=some (.slice Aa s.acc.length Ca)∧w6.drew.cell? (aD w.heap.size 6)=some (.slice A d.bat.evs.length C)∧Bl w6 w6.drew:=⟨c7,c8,e6,(Below.refl _ _).drew⟩;have D2:R<w6.heap.size:=World.block_lt_of_cell? _ _ c7;have Dl:w.heap.size<w6.heap.size:=World.block_lt_of_cell? _ _ e6;have bD: ∀X:World,Bl X X.drew:=fun X=>(Below.refl _ _).drew;have Bh: ∀(X:World) (o:Obj),Bl X (X.alloc o):=fun X o=>(Below.refl _ _).alloc (c9C _) o;have Bg: ∀o,(w6.alloc o).heap.size=w6.heap.size+1:=fun o=>by simp
     have E1:dW (w6.alloc (.cells #[iV 0,nS] 30)).drew w6.heap.size (iV 0) nS:=(aO w6 30 _ _).below (bD _);have E2:dW (w6.alloc (.cells #[iV 0,iV 0] 78)).drew w6.heap.size (iV 0) (iV 0):=(aO w6 78 _ _).below (bD _);have E3:dW ((w6.alloc (.cells #[iV 0,nS] 30)).alloc (.cells #[iV 0,iV 0] 78)).drew w6.heap.size (iV 0) nS:=((aO w6 30 _ _).below (Bh _ _)).below (bD _);have E4:dW ((w6.alloc (.cells #[iV 0,nS] 30)).alloc (.cells #[iV 0,iV 0] 78)).drew (w6.heap.size+1) (iV 0) (iV 0):=by
      have h:=(aO (w6.alloc (.cells #[iV 0,nS] 30)) 78 (iV 0) (iV 0)).below (bD _);rw[Bg]at h;exact h
     have E5:=((aO w6 78 _ _).below (Bh _ _)).below (bD _);have E6:dW ((w6.alloc (.cells #[iV 0,iV 0] 78)).alloc (.cells #[iV 0,nS] 30)).drew (w6.heap.size+1) (iV 0) nS:=by
      have h:=(aO (w6.alloc (.cells #[iV 0,iV 0] 78)) 30 (iV 0) nS).below (bD _);rw[Bg]at h;exact h
     have Ap:=hd8 Ab;clear Ab;go_upto_region 9 with fail
     go_cut [8,9]from 58 to 70 (fun p8 p9 wx=> ∃(XV G:Nat) (v7:Value),p8=.pointer (some (aD XV 0))∧p9=.pointer (some (aD G 0))∧w6.heap.size≤XV∧dW wx XV (iV u2) v7∧dW wx G (iV x2) (iV y2)∧bJ wx v7 l2∧kF w6.heap.size v7∧Bl w6 wx)
     case first=>
      go_region_held3 (fun w'=>w'.cell? (aD R 7)=some (iV s.u)∧w'.cell? (aD R 8)=some (.slice Aa s.acc.length Ca)∧w'.cell? (aD w.heap.size 6)=some (.slice A d.bat.evs.length C)∧Bl w6 w')
       (first|A0 exact TD|A0 A1|A0 exact b4R (by A1) (by A1)|A0 exact a3S (by A1)|A0 exact c6O (by A1)|A0 exact a4O (by A1) (by omega) (by omega) (by omega)|A0 exact a3S (a3S (by A1))|A0 exact a3S (a4O (by A1) (by omega) (by omega) (by omega))|A0 exact a4O (a4O (by A1) (by omega) (by omega) (by omega)) (by omega) (by omega) (by omega))
       (first|(go_at_call 44;refine(Ba _ (by A1)).mono ?_;rintro e7 w7 ⟨⟨v7,rfl,A7,P7⟩,b7⟩;obtain⟨Q7,C7,rfl⟩:=A7.shape;have S7:=b4R b7 (by A1);have h7:w6.heap.size≤w7.heap.size:=S7.2.2.2.size;(first|(have Y:=E3.below b7;obtain⟨Y0,Y1,Yr⟩:=Y;have Yf:=Yr 0;have Yg:=Yr 1;have Yl:_<w7.heap.size:=World.block_lt_of_cell? _ _ Y0;have Yn:=Nat.ne_of_lt Yl;have Ym:=Nat.ne_of_gt Yl;have Y:=E3.below b7;have Z:=E4.below b7;obtain⟨Z0,Z1,Zr⟩:=Z;have Zf:=Zr 0;have Zg:=Zr 1;have Zl:_<w7.heap.size:=World.block_lt_of_cell? _ _ Z0;have Zn:=Nat.ne_of_lt Zl;have Zm:=Nat.ne_of_gt Zl;have Z:=E4.below b7)|(have Y:=E6.below b7;obtain⟨Y0,Y1,Yr⟩:=Y;have Yf:=Yr 0;have Yg:=Yr 1;have Yl:_<w7.heap.size:=World.block_lt_of_cell? _ _ Y0;have Yn:=Nat.ne_of_lt Yl;have Ym:=Nat.ne_of_gt Yl;have Y:=E6.below b7;have Z:=E5.below b7;obtain⟨Z0,Z1,Zr⟩:=Z;have Zf:=Zr 0;have Zg:=Zr 1;have Zl:_<w7.heap.size:=World.block_lt_of_cell? _ _ Z0;have Zn:=Nat.ne_of_lt Zl;have Zm:=Nat.ne_of_gt Zl;have Z:=E5.below b7)|(have Y:=E1.below b7;obtain⟨Y0,Y1,Yr⟩:=Y;have Yf:=Yr 0;have Yg:=Yr 1;have Yl:_<w7.heap.size:=World.block_lt_of_cell? _ _ Y0;have Yn:=Nat.ne_of_lt Yl;have Ym:=Nat.ne_of_gt Yl;have Y:=E1.below b7)|(have Z:=E2.below b7;obtain⟨Z0,Z1,Zr⟩:=Z;have Zf:=Zr 0;have Zg:=Zr 1;have Zl:_<w7.heap.size:=World.block_lt_of_cell? _ _ Z0;have Zn:=Nat.ne_of_lt Zl;have Zm:=Nat.ne_of_gt Zl;have Z:=E2.below b7)|skip)))
      all_goals go_wp2_with fail
      all_goals go_meet
      ·obtain⟨q1,q2,q3,q4⟩:=c8J (t:=30) (t':=78) (p:=iV u2) (q:=.slice Q7 l2.length C7) (c:=iV x2) (d:=iV y2) A7 S7.2.2.2;exact⟨_,_,_,rfl,rfl,h7,q1,q2,q3,P7.mono (c9C _),q4⟩
      ·obtain⟨q1,q2,q3,q4⟩:=c8J (t:=78) (t':=30) (p:=iV x2) (q:=iV y2) (c:=iV u2) (d:=.slice Q7 l2.length C7) A7 S7.2.2.2;exact⟨_,_,_,rfl,rfl,Nat.le_succ_of_le h7,q2,q1,q3,P7.mono (c9C _),q4⟩
      ·obtain⟨q1,q2,q3,q4⟩:=c8N (t:=78) (p:=iV u2) (q:=.slice Q7 l2.length C7) (c:=iV x2) (d:=iV y2) Y A7 (P7.mono (by simp[World.drew]<;>omega)) S7.2.2.2 (c9C _);exact⟨_,_,_,rfl,rfl,c9C _,q1,q2,q3,P7.mono (by simp[World.drew]),q4⟩
      ·obtain⟨q1,q2,q3,q4⟩:=noA (p:=iV u2) (q:=.slice Q7 l2.length C7) (c:=iV x2) (d:=iV y2) Y Z A7 P7 S7.2.2.2 (c9C _) (by omega) (by omega) (by simp[World.drew]<;>omega) (by simp[World.drew]<;>omega);exact⟨_,_,_,rfl,rfl,c9C _,q1,q2,q3,P7.mono (by simp[World.drew]<;>omega),q4⟩
      ·obtain⟨q1,q2,q3,q4⟩:=c8N (t:=30) (p:=iV x2) (q:=iV y2) (c:=iV u2) (d:=.slice Q7 l2.length C7) Z A7 (P7.mono (by simp[World.drew]<;>omega)) S7.2.2.2 (c9C _);exact⟨_,_,_,rfl,rfl,h7,q2,q1,q3,P7.mono (by simp[World.drew]),q4⟩
      ·obtain⟨q1,q2,q3,q4⟩:=noA (p:=iV u2) (q:=.slice Q7 l2.length C7) (c:=iV x2) (d:=iV y2) Y Z A7 P7 S7.2.2.2 (by omega) (c9C _) (by omega) (by simp[World.drew]<;>omega) (by simp[World.drew]<;>omega);exact⟨_,_,_,rfl,rfl,by omega,q1,q2,q3,P7.mono (by simp[World.drew]<;>omega),q4⟩
     case rest=>
      obtain⟨XV,G,v7,rfl,rfl,D4,VX,VG,A7,P7,b7⟩:=hcut;obtain⟨w7,Cg⟩: ∃y,y=wc:=⟨wc,rfl⟩;rw[←Cg]at VX VG A7 b7⊢;have A6:=Ap.out.below b7;have B7:Hid (w.heap.size+1<w6.heap.size):=World.block_lt_of_cell? _ _ (Ap.out.va.q0);have Bq:=hd8 b7.size;obtain⟨g0,_,_⟩:=VG;clear Cg TD Ba E1 E2 E3 E4 E5 E6 Bg bD Bh c7 c8 e6 Ap b7;by_cases B6:x2=0
      case neg=>
       have HR:Hid (∀w',Off (fun k=>k=w.heap.size+1) w7 w'→DoO (.returned (dH (x2:Nat) 0)) w w' N R F E c (Sto.put X c s d)):=fun w' ho=>by
        rw[Av.out,if_neg (fun z=>z Ao.out),if_neg B3.out,if_neg Bf.out,←B4.out,if_pos B6];exact A6.same ho x2 0
       have b0:=A6.va.q0;have b1:=A6.va.q1;have b2:=A6.va.q2;have b3:=A6.va.q3;have b4:=A6.va.q4;have f0:=A6.va.frozen 0;have f1:=A6.va.frozen 1;have f2:=A6.va.frozen 2;have f3:=A6.va.frozen 3;have f4:=A6.va.frozen 4;have Bo:((x2:Int) !=0)=true:=by rw[bne_iff_ne];omega
       clear B6 A6 VX A7 P7;go_wp2_with fail;exact bodyPost_ret (by simp[results,results17,go_sem,b0,b1,b2,b3,b4]) rfl (HR.out _ (aT _ _ _ _ _ _ _))
      case pos=>
       have Bo:((x2:Int) !=0)=false:=by rw[bne_eq_false_iff_eq];omega
       have C5:=hd8 B6;have B8:Hid (Vw.iQ u2 l2∧u2=s.u+d.bat.evs.length):=by
        have q:=Vw.qU (u:=s.u) (l:=s.acc) (es:=d.bat.evs) (by rw[←B4.out];exact B6);rw[←B4.out]at q;exact⟨q.1,q.2.1⟩
       have C0:Hid (l2≠[]):=fun z=>by
        have q1:=B8.out.1.tot;have q2:=B8.out.2;have q3:=A6.st.wf.right.lo;have q4:=(Evt.bN Ao.out).2.2.1;rw[z]at q1;have q1:(0:Int)=u2:=q1;omega
       have B2:=c1X HX.out w7 A6.st d.bat (.slice A d.bat.evs.length C) A6.din.evs Ao.out (c9E Bx.out A6.bel.size);have e5:w7.cell? (aD w.heap.size 5)=some (iV d.bat.cmd):=A6.vd.q5;have e6:w7.cell? (aD w.heap.size 6)=some (.slice A d.bat.evs.length C):=A6.vd.q6;obtain⟨r8,Bk⟩: ∃r8,r8=fM X c s d.bat:=⟨_,rfl⟩;have B5:=hd8 Bk;rw[←Bk]at B2;obtain⟨k8,s8⟩:=r8;unfold qK at B2;have Ac:=hd8 A6;have Bz:=hd8 VX;have Cp:=hd8 A7;have Bs:=hd8 P7;have C1:Hid (∀g,v7.ownBlock=some g→l2≠[]→g<w7.heap.size):=fun g hg hl=>by
        obtain⟨A,Dk,rfl,_,_,h3⟩:=A7;cases l2 with
        |Db=>exact absurd rfl hl
        |cons a r=>
         obtain⟨b,o,rfl,_,_,_,q,_⟩:=h3 0 a rfl;cases hg
         exact World.block_lt_of_cell? _ _ q
       clear Bk B6 A6 VX A7 P7;go_upto_region 13 with(first|(go_at_call 45;refine B2.mono ?_;rintro e8 w8 ⟨rfl,F8,E8,D8,V8,U8,Ce,D0,A2,Ae⟩))
       have D5:=hd8 Ae;have Az: ∀k,w.heap.size≤k→ ¬F k:=fun k hk z=>by
        have:=Ac.out.lt k (Or.inl z);omega
       have Af:=Ac.out.va.off Ae.off (Az _ (c9O _));have At:=Ac.out.vd.off Ae.off (Az _ (c9C _));have Bi:dW w8 XV (iV u2) v7:=Bz.out.off Ae.off (Az _ (by have:=B7.out;omega));have A8:bJ w8 v7 l2:=Cp.out.off Ae.off fun g hg=>Az _ (by have:=Bs.out g hg;have:=B7.out;omega)
       have B1:Hid (∀k,w.heap.size≤k→k<w7.heap.size→ ¬F8 k∧ ¬E8 k):=fun k hk hk2=>⟨fun z=>by
        rcases Ae.growF k z with q|q
        ·exact Az k hk q
        ·omega,fun z=>by
        rcases Ae.growE k z with q|q
        ·have:=Ac.out.lt k (Or.inr q);omega
        ·omega⟩
       have Ak:=hd8 ((dS.of_below F E Ac.out.bel).trans Ae);have A2:StP w8 N R F8 E8 c s8 D8 V8 U8 Ce vs (.slice Aa s.acc.length Ca) D0:=A2;have Bm:=b1Z X c s d.bat;rw[←B5.out]at Bm;have Cf:s8.seen=s.seen:=Bm.1;have Co:s8.u=s.u:=Bm.2.1;by_cases Ay:k8=0
       case neg=>
        have HR:Hid (∀w',Off (fun k=>k=w.heap.size+1) w8 w'→DoO (.returned (dH (k8:Nat) 0)) w w' N R F E c (Sto.put X c s d)):=fun w' ho=>by
         have Cu:s8=s:=by
          have:=b6A (X:=X) (c:=c) (s:=s) (b:=d.bat) (by rw[←B5.out];exact Ay);rw[←B5.out]at this;exact this
         rw[Av.out,if_neg (fun z=>z Ao.out),if_neg B3.out,if_neg Bf.out,←B4.out,if_neg (fun z=>z C5.out),a1P,←B5.out,if_pos Ay];refine⟨_,F8,E8,rfl,⟨_,_,_,_,_,_,_,(Cu▸A2).out ho fun k e=>?_⟩,⟨Ak.out.off.past ho fun k e hk=>?_,Ak.out.growF,Ak.out.growE⟩,fI _ _ _ _⟩
         ·have e:k=w.heap.size+1:=e;omega
         ·rw[show k=w.heap.size+1 from e];exact B1.out _ (c9O _) (c9P B7.out Bq.out)
        have b0:=Af.q0;have b1:=Af.q1;have b2:=Af.q2;have b3:=Af.q3;have b4:=Af.q4;have f0:=Af.frozen 0;have f1:=Af.frozen 1;have f2:=Af.frozen 2;have f3:=Af.frozen 3;have f4:=Af.frozen 4;have Cs:((k8:Int) !=0)=true:=by rw[bne_iff_ne];omega
        clear Ay A2 Bi A8 At Ae B2;go_wp2_with fail;exact bodyPost_ret (by simp[results,results17,go_sem,b0,b1,b2,b3,b4]) rfl (HR.out _ (aT _ _ _ _ _ _ _))
       case pos=>
        have Cs:((k8:Int) !=0)=false:=by rw[bne_eq_false_iff_eq];omega
        have C2:=hd8 Ay;have Di:R<w.heap.size:=Ac.out.lt R (Or.inl Ac.out.st.fR);have Cq:XV<w7.heap.size:=World.block_lt_of_cell? _ _ Bz.out.c0;have Dc:=B7.out;have Ad:w8.ownsRow N 3 1 vs s.seen.length (s.seen.flatMap aE):=by
         have:=A2.seen;rw[Cf]at this;exact this
        have bi:=(aB8 w8 (.cells #[iV d.bat.cmd] 3)).drew;have C6:=c1K N i w8.heap.size vs s.seen d.bat.cmd (w8.alloc (.cells #[iV d.bat.cmd] 3)).drew (aK Ad bi) (c9E Bx.out (c9E (c9E Ac.out.bel.size Ae.off.size) bi.size)) Am.out.1 (by have:=Ck.out;omega) (heap_alloc_new w8 _) (fun z=>absurd (Ad.lt _ z).2 (d0V _));have Cm:w8.drew.cell? (aD R 6)=some vs:=A2.var.q6;have Cx:=(A2.var.below bi).q6;have TD:w8.drew.cell? (aD w.heap.size 5)=some (iV d.bat.cmd):=At.q5;have Ci:=(At.below bi).q5;have Df:w.heap.size≠R:=by omega
        have Aj: ∀k,vs.ownBlock=some k→TyB (w8.alloc (.cells #[iV d.bat.cmd] 3)).drew k 3:=fun k q=>aU (aK Ad bi) q;have Bw:Hid (∀w9,Off (fun k=>vs.ownBlock=some k) (w8.alloc (.cells #[iV d.bat.cmd] 3)).drew w9→aW w9 R 45 (jZ c D8 s8.disks.length s8.segs Ce vs s8.u (.slice Aa s.acc.length Ca))∧aW w9 w.heap.size 49 (dX d (.slice A d.bat.evs.length C) t)∧aW w9 (w.heap.size+1) 42 (cS 0 0).toList∧dW w9 XV (iV u2) v7∧bJ w9 v7 l2):=fun w9 ho=>by
         refine⟨(A2.var.below bi).off ho fun q=>(Aj _ q).ne (A2.var.below bi).ty (by decide) rfl,(At.below bi).off ho fun q=>(Aj _ q).ne (At.below bi).ty (by decide) rfl,(Af.below bi).off ho fun q=>(Aj _ q).ne (Af.below bi).ty (by decide) rfl,(Bi.below bi).off ho fun q=>(B1.out XV (by omega) Cq).1 (A2.fS XV q),(A8.below bi).off ho fun g hg q=>?_⟩;have h1:=Bs.out g hg;by_cases hl:l2=[]
         ·exact absurd hl C0.out
         ·exact(B1.out g (by omega) (C1.out g hg hl)).1 (A2.fS g q)
        obtain⟨Q7,C7,rfl⟩:=A8.shape;obtain⟨L9,Cb⟩: ∃L,L=(s.seen.take i++d.bat.cmd::s.seen.drop i).length:=⟨_,rfl⟩;have Cw:=hd8 Cb;have Cl:=hd8 Ac.out.st.wf.up;clear Cb;clear Ay Bi A8 At Af B2;go_wp2_with fail;go_cut []from 84 to 99 (fun wx=>c8X (w8.alloc (.cells #[iV d.bat.cmd] 3)).drew wx N R vs (s.seen.take i++d.bat.cmd::s.seen.drop i))
        case first=>
         go_region_with (go_at_call 46;refine C6.mono ?_;rintro e9 w9 ⟨v9,rfl,A5,Aw,Ag⟩;obtain⟨Ai,Bu,Ah,Bb,Be⟩:=Bw.out w9 Aw;have Dg:=Ai.q6;have D9:=Ai.frozen 6;have Cj:c8X (w8.alloc (.cells #[iV d.bat.cmd] 3)).drew (w9.setCell (aD R 6) v9) N R vs (s.seen.take i++d.bat.cmd::s.seen.drop i):=⟨w9,v9,rfl,A5,Aw,Ag⟩;obtain⟨A9,C9,Cc,_⟩:=a6H A5;rw[←Cw.out]at Cc;subst Cc)
         all_goals go_wp2_with fail
         all_goals go_meet
         all_goals exact Cj
        case rest=>
         obtain⟨w9,v9,Cy,A5,Aw,Ag⟩:=hcut;obtain⟨Ai,Bu,Ah,Bb,Be⟩:=Bw.out w9 Aw;have D6:XV≠R:=by omega
         have Dm:R≠XV:=by omega
         have Da:w.heap.size+1≠R:=by omega
         have Dj:R≠w.heap.size+1:=by omega
         have De:XV≠w.heap.size+1:=by omega
         have Dh:w.heap.size+1≠XV:=by omega
         have C8:=bi.size;have HR:Hid (∀w',Off (fun k=>k=w.heap.size+1) (((w9.setCell (aD R 6) v9).setCell (aD R 7) (iV u2)).setCell (aD R 8) (.slice Q7 l2.length C7)) w'→DoO (.returned (dH 0 u2)) w w' N R F E c (Sto.put X c s d)):=fun w' ho=>by
          have Ch:Sto.eR X c s d.bat (u2,l2)=(0,{s8 with Bj:=s.seen.take i++d.bat.cmd::s.seen.drop i,u:=u2,acc:=l2}):=by
           rw[a1P,←B5.out,tS Am.out];show(k8,if k8=0 then _ else _)=_;rw[if_pos C2.out,C2.out]
          rw[Av.out,if_neg (fun z=>z Ao.out),if_neg B3.out,if_neg Bf.out,←B4.out,if_neg (fun z=>z C5.out),Ch,if_neg (fun z=>z rfl)];have Cn:Off (fun k=>k=R∨vs.ownBlock=some k) w8 w9:=(Off.of_below bi).trans (Aw.wider fun k q=>Or.inr q);have By:Off (fun k=>k=R∨vs.ownBlock=some k) w8 (((w9.setCell (aD R 6) v9).setCell (aD R 7) (iV u2)).setCell (aD R 8) (.slice Q7 l2.length C7)):=
           ((Cn.set (p:=⟨R,6,none⟩) (Or.inl rfl) v9).set (p:=⟨R,7,none⟩) (Or.inl rfl) (iV u2)).set (p:=⟨R,8,none⟩) (Or.inl rfl) (.slice Q7 l2.length C7)
          have C3:Off (fun k=>k=R) w9 (((w9.setCell (aD R 6) v9).setCell (aD R 7) (iV u2)).setCell (aD R 8) (.slice Q7 l2.length C7)):=
           (((Off.refl (fun k=>k=R) w9).set (p:=⟨R,6,none⟩) rfl v9).set (p:=⟨R,7,none⟩) rfl (iV u2)).set (p:=⟨R,8,none⟩) rfl (.slice Q7 l2.length C7)
          have As: ∀g,(Value.slice Q7 l2.length C7).ownBlock=some g→w6.heap.size≤g∧g<w7.heap.size:=fun g hg=>⟨Bs.out g hg,C1.out g hg C0.out⟩;have hS:=A2.putS (s':={s8 with Bj:=s.seen.take i++d.bat.cmd::s.seen.drop i,u:=u2,acc:=l2}) (vs':=v9) (va':=.slice Q7 l2.length C7) By rfl rfl (((Ai.set 6 v9 (show 6<9 by decide)).set 7 (iV u2) (show 7<9 by decide)).set 8 (.slice Q7 l2.length C7) (show 8<9 by decide)) (bC A5 C3 fun g hg e=>?_) (Ag.imp id fun z g hg=>c9E C8 (z g hg)) (Be.off C3 fun g hg e=>?_) (fun g hg=>?_) ⟨A2.wf.len,A2.wf.d1,A2.wf.d8,A2.wf.s4,A2.wf.b1,A2.wf.b10,A2.wf.wd,A2.wf.segs,A2.wf.tail,A2.wf.bats,c7Z Am.out Cl.out B3.out,?_,B8.out.1⟩
          ·have Bt: ∀k,k=w.heap.size+1→ ¬(F8 k∨v9.ownBlock=some k)∧ ¬(E8 k∨(Value.slice Q7 l2.length C7).ownBlock=some k):=fun k e=>by
            have h0:=B1.out k (by omega) (by have:=Bq.out;omega);refine⟨fun z=>z.elim h0.1 fun z=>?_,fun z=>z.elim h0.2 fun z=>?_⟩
            ·rcases Ag with q|q
             ·rw[q]at z;exact h0.1 (A2.fS k z)
             ·have h1:=q k z;have h2:=Bq.out;have h3:=Ae.off.size;omega
            ·have:=(As k z).1;omega
           refine⟨_,_,_,rfl,⟨_,_,_,_,_,_,_,hS.out ho Bt⟩,⟨(Ak.out.off.past By fun k q hk=>?_).past ho fun k q hk=>?_,fun k q=>?_,fun k q=>?_⟩,fI _ _ 0 u2⟩
           ·have h0:F8 k:=by
             rcases q with rfl|q
             ·exact A2.fR
             ·exact A2.fS k q
            rcases Ak.out.growF k h0 with z|z
            ·exact z
            ·omega
           ·have q:k=w.heap.size+1:=q;omega
           ·rcases q with q|q
            ·exact Ak.out.growF k q
            ·rcases Ag with z|z
             ·rw[z]at q;exact Ak.out.growF k (A2.fS k q)
             ·have h1:=z k q;have h2:=Ak.out.off.size;exact Or.inr (by omega)
           ·rcases q with q|q
            ·exact Ak.out.growE k q
            ·have:=(As k q).1;exact Or.inr (by omega)
          ·have e:g=R:=e;exact(aU A5 hg).ne Ai.ty (by decide) e
          ·have e:g=R:=e;have:=(As g hg).1;omega
          ·have h0:=B1.out g (by have:=(As g hg).1;omega) (As g hg).2;exact⟨h0.1,c9P (As g hg).2 Ae.off.size⟩
          ·have h1:=A2.wf.cmds;rw[Cf,Co]at h1;have h2:=B8.out.2;have h3:=(Evt.bN Ao.out).2.2.1;show((s.seen.take i++d.bat.cmd::s.seen.drop i).length:Int)≤u2;have h4:(s.seen.take i++d.bat.cmd::s.seen.drop i).length=s.seen.length+1:=by
            have:=Am.out.1;simp;omega
           rw[h4];omega
         have D1:=Ai.q7;have Dd:=Ai.q8;have D7:=Ai.frozen 7;have D3:=Ai.frozen 8;have x0:=Bb.c0;have x1:=Bb.c1;have b0:=Ah.q0;have b1:=Ah.q1;have b2:=Ah.q2;have b3:=Ah.q3;have b4:=Ah.q4;have f0:=Ah.frozen 0;have f1:=Ah.frozen 1;have f2:=Ah.frozen 2;have f3:=Ah.frozen 3;have f4:=Ah.frozen 4;subst Cy;clear A5 Aw Ag Ai Bu Ah Bb Be A2 Ae C6 Cm Cx TD Ci Aj bi C8 Ad;go_wp2_with fail;exact bodyPost_ret (by simp[results,results17,go_sem,b0,b1,b2,b3,b4]) rfl (HR.out _ (aT _ _ _ _ _ _ _))
end
def vH(e:Ending)(w':World)(N:Nat)(a:Sto.Ans):Prop:= ∃v,e=.returned v∧qE w' (fun k=>N≤k) v a
def gK(l:List Evt.Ev)(n:Int):Sto.Ans:=if n<0∨(l.length:Int)<n then Sto.no 3 else⟨0,l.length,l.drop n.toNat,0,[]⟩
def ofA(l:List Evt.Ev)(t:List Nat):Sto.Ans:=if¬Evt.dC t then Sto.no 7 else⟨0,(l.filter fun e=>decide (e.name=t)).length,l.filter fun e=>decide (e.name=t),0,[]⟩
def nR(l:List Evt.Ev):Sto.Ans:=⟨(Vw.cD 0 [] l).1.1,(Vw.cD 0 [] l).2.1,[],(Vw.cD 0 [] l).2.1,(Vw.cD 0 [] l).2.2⟩
def sC(e:Ending)(w':World)(N:Nat)(a:Sto.Ans):Prop:= ∃v,e=.returned v∧qE w' (fun k=>N≤k∧TyB w' k 83) v a
theorem oX(w':World)(N x:Nat):sC (.returned (dH (x:Nat) 0)) w' N (Sto.no x):=⟨_,rfl,fI w' _ x 0⟩
theorem pI(w':World)(N x:Nat):vH (.returned (dH (x:Nat) 0)) w' N (Sto.no x):=⟨_,rfl,fI w' _ x 0⟩
theorem cG.rest(h:cG w N (.slice (some (aD g 0)) es.length cap) es)(hn:n≤es.length):Evs w (.slice (some (aD g (n*3))) (es.length-n) (cap-n)) ((es.map aZ).drop n):=by
 obtain⟨A,C,hv,h1,h2,h3⟩:=h.evs;rw[c9M]at hv h1;cases hv
 refine⟨_,_,by rw[d0A,c9M],by rw[d0A,c9M];omega,c9E (Nat.sub_le ..) h2,fun i e he=>?_⟩;rw[d0J]at he;obtain⟨b,o,e1,q⟩:=h3 (n+i) e he;cases e1
 refine⟨g,n*3,rfl,?_⟩;rw[show n*3+i*3=0+(n+i)*3 by omega];exact q
theorem tX(w:World)(A:Option Addr)(C:Nat)(hC:C≤maxLen):Evs w (.slice A 0 C) []:=⟨A,C,rfl,c9D _,hC,fun i e he=>by cases he⟩
theorem c0O(N:Nat)(v:Value)(es:List EvC)(n:Int)(w:World)(h:cG w N v es)(hl:es.length≤200000):
  Calls prog 22 #[v,iV n] w fun e w'=>sC e w' N (gK (es.map aZ) n)∧Off (fun k=>v.ownBlock=some k) w w':=by
 have A2:Hid (∀(S:Nat→Prop) d,Off S w (w.alloc (.cells d 42))):=fun _ d=>Off.of_below (aB8 _ _);obtain⟨L,hL⟩: ∃L,L=es.length:=⟨_,rfl⟩;have A1:(es.map aZ).length=L:=by rw[c9M,hL]
 by_cases q:n<0∨(L:Int)<n
 ·have HR:Hid (gK (es.map aZ) n=Sto.no 3):=by
   show gK (es.map aZ) n=Sto.no 3;unfold gK;rw[A1,if_pos q]
  obtain⟨A,C,hv⟩:=h.shape;rw[←hL]at hv;subst hv;clear h;by_cases q0:n<0
  ·clear q;go_enter func22,ntmps22
   go_wp2_with fail;refine bodyPost_ret (v:=dH 3 0) (by simp[results,results22,go_sem]) rfl ⟨by rw[HR.out];exact oX _ _ 3,A2.out _ _⟩
  ·have q1:(L:Int)<n:=by omega
   clear q;go_enter func22,ntmps22
   go_wp2_with fail;refine bodyPost_ret (v:=dH 3 0) (by simp[results,results22,go_sem]) rfl ⟨by rw[HR.out];exact oX _ _ 3,A2.out _ _⟩
 ·obtain⟨m,rfl⟩: ∃m:Nat,n=(m:Int):=⟨n.toNat,by omega⟩;have A8:m≤L:=by omega
  have HR:Hid (gK (es.map aZ) m=⟨0,(L:Int),(es.map aZ).drop m,0,[]⟩):=by
   show gK (es.map aZ) m=_;unfold gK;rw[A1,if_neg q,c9Q]
  have q1: ¬(m:Int)<0:=by omega
  have q2: ¬(L:Int)<(m:Int):=by omega
  rcases h.1.2 with⟨rfl,h0⟩|⟨g,A0,Ac,hv,A6,_,hc,hm,_⟩
  ·obtain rfl:L=0:=by omega
   obtain rfl:m=0:=by omega
   have he:=d0N h0;subst he;have HT:Hid (sC (.returned (.agg #[iV 0,iV 0,nS,iV 0,nS])) (w.alloc (.cells (cS 0 0) 42)) N (gK [] 0)):=by
    show sC _ _ _ _;have e:gK [] 0=⟨0,0,[],0,[]⟩:=by
     unfold gK;rw[if_neg (by decide)];rfl
    rw[e];exact⟨_,rfl,fI _ _ 0 0⟩
   clear h q q1 q2 HR hL A1 h0 hl A8;go_enter func22,ntmps22
   go_wp2_with fail;refine bodyPost_ret (v:=dH 0 0) (by simp[results,results22,go_sem]) rfl ⟨HT.out,A2.out _ _⟩
  ·subst hv;have Ae:=mL8 hm;have A5:=h.rest (n:=m) (by omega);have Ab:Hid (TyB w g 83):=aU h.1 rfl;rw[←hL]at A5 h hc hl⊢;have A3:=hd8 A5;have A4:Hid (((es.map aZ).drop m).length=L-m):=by
    show((es.map aZ).drop m).length=L-m;rw[d0A,A1]
   have Ad:m≤A0:=by omega
   have Aa:(m:Int)≤(L:Int):=by omega
   have A7:(m:Int)≤(A0:Int):=by omega
   clear h A5 q A1 hL hl;by_cases A9:A0=m
   ·obtain rfl:L=m:=by omega
    subst A9;have HB:Hid (∀A c d,c≤maxLen→sC (.returned (.agg #[iV 0,iV A0,.slice A 0 c,iV 0,nS])) (w.alloc (.cells d 42)) N (gK (es.map aZ) A0)):=fun A c d hc=>by
     show sC _ _ _ _;rw[HR.out];have e:(es.map aZ).drop A0=[]:=d0N (by rw[A4.out];omega);rw[e];exact⟨_,rfl,_,_,rfl,⟨tX _ A c hc,fun _ _ z=>absurd rfl z⟩,oW _ _⟩
    clear A3 A4 HR;go_enter func22,ntmps22
    go_wp2_with fail;refine bodyPost_ret (v:=.agg #[iV 0,iV A0,.slice (some (aD g 0)) 0 0,iV 0,nS]) (by simp[results,results22,go_sem]) rfl ⟨HB.out _ _ _ (c9D _),A2.out _ _⟩
   ·have HB:Hid (∀d,sC (.returned (.agg #[iV 0,iV L,.slice (some (aD g (m*3))) (L-m) (A0-m),iV 0,nS])) (w.alloc (.cells d 42)) N (gK (es.map aZ) m)):=fun d=>by
     show sC _ _ _ _;rw[HR.out]
     exact⟨_,rfl,_,_,rfl,⟨A3.out.below (aB8 _ _),fun b hb _=>by
      cases hb
      exact⟨A6,Ab.out.below (aB8 _ _)⟩⟩,oW _ _⟩
    clear A3 A4 HR;go_enter func22,ntmps22
    go_wp2_with fail;refine bodyPost_ret (v:=.agg #[iV 0,iV L,.slice (some (aD g (m*3))) (L-m) (A0-m),iV 0,nS]) (by simp[results,results22,go_sem]) rfl ⟨HB.out _,A2.out _ _⟩
theorem b5P{l:List Vw.Acc}{es:List Evt.Ev}(h:(Vw.cD u l es).1.1≠0):(Vw.cD u l es).2=(0,[]):=by
 by_cases hw:(Vw.aR u l).1=0
 ·rw[Vw.pY hw]at h⊢;have A0: ∀(es:List Evt.Ev) (u:Int) (l:List Vw.Acc) (i:Nat),(Vw.fP u l i es).1.1≠0→(Vw.fP u l i es).2=(0,[]):=by
   intro es;induction es with
   |A1=>intro u l i h;exact absurd rfl h
   |cons e r ih=>
    intro u l i h;by_cases q:(Vw.bK u l e).1=0
    ·rw[Vw.xV q]at h⊢;exact ih _ _ _ h
    ·rw[Vw.a0V q]
  exact A0 es u l 0 h
 ·rw[Vw.sA hw]
theorem b0O(N:Nat)(v:Value)(es:List EvC)(w:World)(h:cG w N v es)(hN:N≤w.heap.size):
  Calls prog 23 #[v] w fun e w'=>vH e w' N (nR (es.map aZ))∧Below N w w':=by
 have bA:=aB8 w (.cells (cS 0 0) 42);have VB:=aC w (cS 0 0) 42;have A2:=a7V 0 nS v [] (es.map aZ) _ (bJ.nil _) (h.below bA).evs;have HV:=hd8 VB;have Ag:=hd8 bA;have A7:Hid (nR (es.map aZ)=⟨(Vw.cD 0 [] (es.map aZ)).1.1,(Vw.cD 0 [] (es.map aZ)).2.1,[],(Vw.cD 0 [] (es.map aZ)).2.1,(Vw.cD 0 [] (es.map aZ)).2.2⟩):=rfl;have Af:=hd8 b5P;have A6:Hid ((Vw.cD 0 [] (es.map aZ)).1.1=0→(Vw.cD 0 [] (es.map aZ)).2.1=(es.length:Int)):=fun q=>by
  have:=(Vw.qU q).2.1;rw[c9M]at this;omega
 obtain⟨L,hL⟩: ∃L,L=es.length:=⟨_,rfl⟩;obtain⟨A,C,hv⟩:=h.shape;rw[←hL]at hv A6;subst hv;unfold FoO jQ at A2;generalize Vw.cD 0 [] (es.map aZ)=r at A2 A7 Af A6;obtain⟨⟨x,y⟩,u,l⟩:=r;have Ac:(w.alloc (.cells (cS 0 0) 42)).heap.size=w.heap.size+1:=by simp
 rw[Ac]at A2;clear h hL VB bA Ac;go_enter func23,ntmps23
 go_wp2_with fail;refine A2.mono ?_;rintro e w1 ⟨⟨v1,rfl,A3,A9⟩,b1⟩;have A3:bJ w1 v1 l:=A3;have Aa:Below (w.heap.size+1) (w.alloc (.cells (cS 0 0) 42)) w1:=b1;have Ad:=aY.of_block HV.out (Aa.block _ (d1F _));have A5:=Ag.out.trans (Aa.mono (c9O _));obtain⟨A1,C1,rfl⟩:=A3.shape;have bV:=aB8 w1 (.cells #[iV u,.slice A1 l.length C1] 30);have bW:=aB8 (w1.alloc (.cells #[iV u,.slice A1 l.length C1] 30)) (.cells #[iV x,iV y] 78);have VV:=(aO w1 30 (iV u) (.slice A1 l.length C1)).below bW;have VF:=aO (w1.alloc (.cells #[iV u,.slice A1 l.length C1] 30)) 78 (iV x) (iV y);have Ae:(w1.alloc (.cells #[iV u,.slice A1 l.length C1] 30)).heap.size=w1.heap.size+1:=by simp
 rw[Ae]at VF;have bX:=bt bV bW;have A0:=Ad.below bX;have A4:Hid (∀w',Off (fun k=>k=w.heap.size) ((w1.alloc (.cells #[iV u,.slice A1 l.length C1] 30)).alloc (.cells #[iV x,iV y] 78)) w'→a0M w' (fun k=>N≤k) (.slice A1 l.length C1) l∧Below N w w'):=fun w' ho=>by
  refine⟨⟨(A3.below bX).off ho fun g hg e=>by
   have:=A9 g hg;omega,fun g hg _=>by
   have:=A9 g hg
   omega⟩,?_⟩
  exact((bt A5 bX).mono hN).trans (ho.below (c9E hN (bt A5 bX).size) fun k hk=>by rw[hk];exact hN)
 clear A2 A3 A9 b1 Aa Ad A5 Ae bV bW;go_upto_region 2 with fail
 generalize (w1.alloc (.cells #[iV u,.slice A1 l.length C1] 30)).alloc (.cells #[iV x,iV y] 78)=w3 at VV VF bX A0 A4⊢;have b0:=A0.q0;have Ab:=A0.q1;have b2:=A0.q2;have b3:=A0.q3;have b4:=A0.q4;have f0:=A0.frozen 0;have f1:=A0.frozen 1;have f2:=A0.frozen 2;have f3:=A0.frozen 3;have f4:=A0.frozen 4;obtain⟨c0,c1,_⟩:=VV;obtain⟨d0,_,_⟩:=VF;clear A0 bX;by_cases hx:x=0
 ·have HU:=hd8 (A6.out hx);have A8:Hid (nR (es.map aZ)=⟨0,u,[],u,l⟩):=by
   show nR (es.map aZ)=⟨0,u,[],u,l⟩;rw[A7.out,hx]
  have Ai:((x:Int) !=0)=false:=by rw[bne_eq_false_iff_eq];omega
  clear hx;go_wp2_with fail;refine bodyPost_ret (v:=.agg #[iV 0,iV L,nS,iV u,.slice A1 l.length C1]) (by simp[results,results23,go_sem,b0,Ab,b2,b3,b4]) rfl ⟨⟨_,rfl,?_⟩,?_⟩
  ·rw[A8.out];exact⟨_,_,by rw[HU.out];rfl,a5X _ _,(A4.out _ (aT _ w.heap.size _ _ _ _ _)).1⟩
  ·exact(A4.out _ (aT _ w.heap.size _ _ _ _ _)).2
 ·have Ah:((x:Int) !=0)=true:=by rw[bne_iff_ne];omega
  have A8:Hid (nR (es.map aZ)=Sto.no x):=by
   show nR (es.map aZ)=Sto.no x;rw[A7.out];have e:=Af.out hx;have e1:=(Prod.mk.inj e).1;have e2:=(Prod.mk.inj e).2;rw[e1,e2];rfl
  clear hx;go_wp2_with fail;refine bodyPost_ret (v:=dH (x:Nat) 0) (by simp[results,results23,go_sem,b0,Ab,b2,b3,b4]) rfl ⟨by rw[A8.out];exact pI _ _ x,?_⟩;exact(A4.out _ (aT _ w.heap.size _ _ _ _ _)).2
theorem b7F(es:List EvC)(t:ByteArray):(es.filter (gW t)).map aZ=(es.map aZ).filter fun e=>decide (e.name=nb t):=by
 induction es with
 |A0=>rfl
 |cons q r ih=>
  rw[d1R];by_cases h:nb q.1=nb t
  ·rw[d1W (show gW t q=true from decide_eq_true h),d1W (p:=fun e:Evt.Ev=>decide (e.name=nb t)) (decide_eq_true h),d1R,ih]
  ·rw[d1N (show¬gW t q=true from fun z=>h (of_decide_eq_true z)),d1N (p:=fun e:Evt.Ev=>decide (e.name=nb t)) (fun z=>h (of_decide_eq_true z)),ih]
theorem a4S(N:Nat)(v:Value)(es:List EvC)(t:ByteArray)(w:World)(h:cG w N v es)(ht:t.size≤9223372036854775807):
  Calls prog 20 #[v,.string t] w fun e w'=>sC e w' N (ofA (es.map aZ) (nb t))∧Off (fun k=>v.ownBlock=some k) w w':=by
 have bA:=aB8 w (.cells #[.string t] 9);have bB:=aB8 (w.alloc (.cells #[.string t] 9)) (.cells (cS 0 0) 42);have VS:=(aC w #[.string t] 9).below bB;have VB:=aC (w.alloc (.cells #[.string t] 9)) (cS 0 0) 42;have sz:(w.alloc (.cells #[.string t] 9)).heap.size=w.heap.size+1:=by simp
 rw[sz]at VB;have b2:=bt bA bB;have hE:=h.below b2;have c0:=VS.q0;have HN:=fun w'=>tY t w' ht
 have HD:=a9G w.heap.size N t v es _ hE c0 (fun g hg e=>by
  have:=(h.1.lt g hg).2
  omega)
 have A1:Hid (Bl w ((w.alloc (.cells #[.string t] 9)).alloc (.cells (cS 0 0) 42))):=b2;have Aa:Hid (∀g,v.ownBlock=some g→g<w.heap.size):=fun g hg=>(h.1.lt g hg).2;have A3:Hid (aW ((w.alloc (.cells #[.string t] 9)).alloc (.cells (cS 0 0) 42)) (w.heap.size+1) 42 (cS 0 0).toList):=VB;obtain⟨A,C,hv⟩:=h.shape;obtain⟨L,hL⟩: ∃L,L=es.length:=⟨_,rfl⟩;rw[←hL]at hv;subst hv;clear h hE VS VB bA bB sz b2 hL;go_enter func20,ntmps20
 go_upto_region 1 with fail
 generalize (w.alloc (.cells #[.string t] 9)).alloc (.cells (cS 0 0) 42)=w2 at c0 HD A1 A3⊢;go_wp2_with fail;refine(HN _).mono ?_;rintro e w3 ⟨⟨y,rfl,hy⟩,rfl⟩;clear HN;cases y with
 |false=>
  have HR:Hid (ofA (es.map aZ) (nb t)=Sto.no 7):=if_pos fun z=>absurd (hy.2 z) (by decide);have hV:=A3.out;have b0:=hV.q0;have A2:=hV.q1;have b2:=hV.q2;have b3:=hV.q3;have b4:=hV.q4;have f0:=hV.frozen 0;have f1:=hV.frozen 1;have f2:=hV.frozen 2;have f3:=hV.frozen 3;have f4:=hV.frozen 4;have Ab:Hid (∀w',Off (fun k=>k=w.heap.size+1) w3 w'→Off (fun k=>(Value.slice A L C).ownBlock=some k) w w'):=fun w' ho=>(Off.of_below A1.out).past ho fun k hk hl=>by omega
  clear hV HD hy;go_wp2_with fail;refine bodyPost_ret (v:=dH 7 0) (by simp[results,results20,go_sem,b0,A2,b2,b3,b4]) rfl ⟨by rw[HR.out];exact oX _ _ 7,?_⟩;exact Ab.out _ (aT _ (w.heap.size+1) _ _ _ _ _)
 |true=>
  have HR:Hid (ofA (es.map aZ) (nb t)=⟨0,((es.filter (gW t)).length:Int),(es.filter (gW t)).map aZ,0,[]⟩):=by
   show ofA (es.map aZ) (nb t)=_;unfold ofA;rw[if_neg (fun z=>z (hy.1 rfl)),←b7F,c9M]
  clear hy;go_wp2_with fail;refine HD.mono ?_;rintro e w4 ⟨v4,rfl,A0,A5⟩;have hV:aW w4 (w.heap.size+1) 42 (cS 0 0).toList:=A3.out.off A5 fun z=>by
   have:=Aa.out _ z;omega
  have b0:=hV.q0;have A2:=hV.q1;have b2:=hV.q2;have b3:=hV.q3;have b4:=hV.q4;have f0:=hV.frozen 0;have f1:=hV.frozen 1;have f2:=hV.frozen 2;have f3:=hV.frozen 3;have f4:=hV.frozen 4;have A7:=hV.ty;obtain⟨A4,C4,A8⟩:=A0.shape;have A6:Hid (∀w',Off (fun k=>k=w.heap.size+1) w4 w'→a0B w' (fun k=>N≤k∧TyB w' k 83) v4 ((es.filter (gW t)).map aZ)∧Off (fun k=>(Value.slice A L C).ownBlock=some k) w w'):=fun w' ho=>by
   have A9:=A0.off ho fun g hg e=>A7.ne (aU A0.1 hg) (by decide) e.symm;refine⟨⟨A9.evs,fun g hg _=>⟨(A0.1.lt g hg).1,aU A9.1 hg⟩⟩,?_⟩;exact((Off.of_below A1.out).trans A5).past ho fun k hk hl=>by omega
  obtain⟨M,hM⟩: ∃M,M=(es.filter (gW t)).length:=⟨_,rfl⟩;rw[←hM]at A8 HR;subst A8;clear HD A0 A5 hV A7 hM;go_wp2_with fail;refine bodyPost_ret (v:=.agg #[iV 0,iV M,.slice A4 M C4,iV 0,nS]) (by simp[results,results20,go_sem,b0,A2,b2,b3,b4]) rfl ⟨⟨_,rfl,?_⟩,?_⟩
  ·rw[HR.out];exact⟨_,_,rfl,(A6.out _ (aT _ (w.heap.size+1) _ _ _ _ _)).1,oW _ _⟩
  ·exact(A6.out _ (aT _ (w.heap.size+1) _ _ _ _ _)).2
def lS(r:Nat×List Evt.Ev)(a:Sto.Ans):Sto.Ans:=if r.1≠0 then Sto.no r.1 else a
def c8V(g:Nat)(caps:Array Value)(w:World)(l:List Evt.Ev)(a:Sto.Ans):Prop:=
 ∀v es w',cG w' (w.heap.size+1) v es→es.map aZ=l→es.length≤200000→Bl w w'→w.heap.size+1≤w'.heap.size→Calls prog g (#[v]++caps) w' fun e w''=>vH e w'' (w.heap.size+1) a∧Below (w.heap.size+1) w' w''
section
variable {N R D : Nat} {F E : Nat → Prop} {c : Sto.Cfg} {s : Sto.St} {V : Nat → Value} {U : Nat → List HeC} {vt vs va : Value} {tc : List (Int × Sl)} {X : Sto.Six}
theorem b6C(hX:Sto.dE X)(g:Nat)(eg: ∀args w,(callFunc g args).run prog w=.ok (.enter g args) w)(a:Sto.Ans)(w:World)(h:StP w N R F E c s D V U vt vs va tc)(HG:c8V g #[] w (Sto.all X c s).2 a):
  Calls prog 18 #[.pointer (some (aD R 0)),.func (.func g) #[] #[]] w fun e w'=>vH e w' w.heap.size (lS (Sto.all X c s) a)∧Bl w w':=by
 have bA:=aB8 w (.cells (cS 0 0) 42);have VB:=aC w (cS 0 0) 42;have A3:=b3J hX _ (h.below bA);have sz:(w.alloc (.cells (cS 0 0) 42)).heap.size=w.heap.size+1:=by simp
 have Aj:=hd8 VB;have Al:=hd8 bA;rw[sz]at A3;unfold a6V at A3;generalize Sto.all X c s=r at A3 HG⊢;obtain⟨x,l⟩:=r;clear h bA VB sz;go_enter func18,ntmps18
 go_wp2_with fail;generalize w.alloc (.cells (cS 0 0) 42)=w1 at A3 Aj Al⊢;refine A3.mono ?_;rintro e w2 ⟨⟨v2,es,rfl,A5,A9,Ah⟩,b2⟩;have A5:es.map aZ=l:=A5;have A0:=aY.of_block Aj.out (b2.block _ (d1F _));have A4:=Al.out.trans (b2.mono (c9O _));have Ac:=HG v2 es w2 A9 A5 Ah A4 (aY.lt A0);obtain⟨A2,C2,Ak⟩:=A9.shape;obtain⟨L,hL⟩: ∃L,L=es.length:=⟨_,rfl⟩;rw[←hL]at Ak;subst Ak;clear A3 A9 A5 Ah HG hL b2;by_cases hx:x=0
 ·have Ap:((x:Int) !=0)=false:=by rw[bne_eq_false_iff_eq];omega
  have HR:Hid (lS (x,l) a=a):=if_neg fun z=>z hx;have Ad:=hd8 A4;have An:=hd8 A0;clear hx A0 A4;go_wp2_with fail;refine Ac.mono ?_;rintro e w3 ⟨⟨v3,rfl,ve,Ai,rfl,A7,Af⟩,b3⟩;have A1:=aY.of_block An.out (b3.block _ (d1F _));have Ab:=Ad.out.trans (b3.mono (c9O _));have A6:Hid (∀w',Off (fun k=>k=w.heap.size) w3 w'→qE w' (fun k=>w.heap.size≤k) (.agg #[iV a.err,iV a.n,ve,iV a.vu,Ai]) a∧Bl w w'):=fun w' ho=>by
   have hk: ∀k,k<w3.heap.size→w.heap.size+1≤k→w'.heap[k]?=w3.heap[k]?:=fun k hk hk2=>ho.block k hk fun z=>by omega
   exact⟨⟨ve,Ai,rfl,A7.move hk fun k _ z=>by omega,Af.move hk fun k _ z=>by omega⟩,Ab.trans (ho.below Ab.size fun k z=>by omega)⟩
  have b0:=A1.q0;have A8:=A1.q1;have b2:=A1.q2;have Ag:=A1.q3;have b4:=A1.q4;have f0:=A1.frozen 0;have f1:=A1.frozen 1;have f2:=A1.frozen 2;have f3:=A1.frozen 3;have f4:=A1.frozen 4;obtain⟨Ae,Ce,Ao⟩:=A7.1.shape;obtain⟨Aa,Ca,Am⟩:=Af.1.shape;subst Ao;subst Am;clear Ac A7 Af b3 A1 Ab;go_wp2_with fail;refine bodyPost_ret (v:=.agg #[iV a.err,iV a.n,.slice Ae a.evs.length Ce,iV a.vu,.slice Aa a.vl.length Ca]) (by simp[results,results18,go_sem,b0,A8,b2,Ag,b4]) rfl ⟨⟨_,rfl,?_⟩,?_⟩
  ·rw[HR.out];exact(A6.out _ (aT _ w.heap.size _ _ _ _ _)).1
  ·exact(A6.out _ (aT _ w.heap.size _ _ _ _ _)).2
 ·have Ap:((x:Int) !=0)=true:=by rw[bne_iff_ne];omega
  have HR:Hid (lS (x,l) a=Sto.no x):=if_pos hx;have A6:Hid (∀w',Off (fun k=>k=w.heap.size) w2 w'→Bl w w'):=fun w' ho=>A4.trans (ho.below A4.size fun k z=>by omega);have b0:=A0.q0;have A8:=A0.q1;have b2:=A0.q2;have Ag:=A0.q3;have b4:=A0.q4;have f0:=A0.frozen 0;have f1:=A0.frozen 1;have f2:=A0.frozen 2;have f3:=A0.frozen 3;have f4:=A0.frozen 4;clear hx Ac A0 A4;go_wp2_with fail;refine bodyPost_ret (v:=dH (x:Nat) 0) (by simp[results,results18,go_sem,b0,A8,b2,Ag,b4]) rfl ⟨by rw[HR.out];exact pI _ _ x,?_⟩;exact A6.out _ (aT _ w.heap.size _ _ _ _ _)
theorem a2A(hX:Sto.dE X)(g:Nat)(k:Value)(eg: ∀args w,(callFunc g args).run prog w=.ok (.enter g args) w)(a:Sto.Ans)(w:World)(h:StP w N R F E c s D V U vt vs va tc)(HG:c8V g #[k] w (Sto.all X c s).2 a):
  Calls prog 18 #[.pointer (some (aD R 0)),.func (.func g) #[] #[k]] w fun e w'=>vH e w' w.heap.size (lS (Sto.all X c s) a)∧Bl w w':=by
 have bA:=aB8 w (.cells (cS 0 0) 42);have VB:=aC w (cS 0 0) 42;have A3:=b3J hX _ (h.below bA);have sz:(w.alloc (.cells (cS 0 0) 42)).heap.size=w.heap.size+1:=by simp
 have Aj:=hd8 VB;have Al:=hd8 bA;rw[sz]at A3;unfold a6V at A3;generalize Sto.all X c s=r at A3 HG⊢;obtain⟨x,l⟩:=r;clear h bA VB sz;go_enter func18,ntmps18
 go_wp2_with fail;generalize w.alloc (.cells (cS 0 0) 42)=w1 at A3 Aj Al⊢;refine A3.mono ?_;rintro e w2 ⟨⟨v2,es,rfl,A5,A9,Ah⟩,b2⟩;have A5:es.map aZ=l:=A5;have A0:=aY.of_block Aj.out (b2.block _ (d1F _));have A4:=Al.out.trans (b2.mono (c9O _));have Ac:=HG v2 es w2 A9 A5 Ah A4 (aY.lt A0);obtain⟨A2,C2,Ak⟩:=A9.shape;obtain⟨L,hL⟩: ∃L,L=es.length:=⟨_,rfl⟩;rw[←hL]at Ak;subst Ak;clear A3 A9 A5 Ah HG hL b2;by_cases hx:x=0
 ·have Ap:((x:Int) !=0)=false:=by rw[bne_eq_false_iff_eq];omega
  have HR:Hid (lS (x,l) a=a):=if_neg fun z=>z hx;have Ad:=hd8 A4;have An:=hd8 A0;clear hx A0 A4;go_wp2_with fail;refine Ac.mono ?_;rintro e w3 ⟨⟨v3,rfl,ve,Ai,rfl,A7,Af⟩,b3⟩;have A1:=aY.of_block An.out (b3.block _ (d1F _));have Ab:=Ad.out.trans (b3.mono (c9O _));have A6:Hid (∀w',Off (fun k=>k=w.heap.size) w3 w'→qE w' (fun k=>w.heap.size≤k) (.agg #[iV a.err,iV a.n,ve,iV a.vu,Ai]) a∧Bl w w'):=fun w' ho=>by
   have hk: ∀k,k<w3.heap.size→w.heap.size+1≤k→w'.heap[k]?=w3.heap[k]?:=fun k hk hk2=>ho.block k hk fun z=>by omega
   exact⟨⟨ve,Ai,rfl,A7.move hk fun k _ z=>by omega,Af.move hk fun k _ z=>by omega⟩,Ab.trans (ho.below Ab.size fun k z=>by omega)⟩
  have b0:=A1.q0;have A8:=A1.q1;have b2:=A1.q2;have Ag:=A1.q3;have b4:=A1.q4;have f0:=A1.frozen 0;have f1:=A1.frozen 1;have f2:=A1.frozen 2;have f3:=A1.frozen 3;have f4:=A1.frozen 4;obtain⟨Ae,Ce,Ao⟩:=A7.1.shape;obtain⟨Aa,Ca,Am⟩:=Af.1.shape;subst Ao;subst Am;clear Ac A7 Af b3 A1 Ab;go_wp2_with fail;refine bodyPost_ret (v:=.agg #[iV a.err,iV a.n,.slice Ae a.evs.length Ce,iV a.vu,.slice Aa a.vl.length Ca]) (by simp[results,results18,go_sem,b0,A8,b2,Ag,b4]) rfl ⟨⟨_,rfl,?_⟩,?_⟩
  ·rw[HR.out];exact(A6.out _ (aT _ w.heap.size _ _ _ _ _)).1
  ·exact(A6.out _ (aT _ w.heap.size _ _ _ _ _)).2
 ·have Ap:((x:Int) !=0)=true:=by rw[bne_iff_ne];omega
  have HR:Hid (lS (x,l) a=Sto.no x):=if_pos hx;have A6:Hid (∀w',Off (fun k=>k=w.heap.size) w2 w'→Bl w w'):=fun w' ho=>A4.trans (ho.below A4.size fun k z=>by omega);have b0:=A0.q0;have A8:=A0.q1;have b2:=A0.q2;have Ag:=A0.q3;have b4:=A0.q4;have f0:=A0.frozen 0;have f1:=A0.frozen 1;have f2:=A0.frozen 2;have f3:=A0.frozen 3;have f4:=A0.frozen 4;clear hx Ac A0 A4;go_wp2_with fail;refine bodyPost_ret (v:=dH (x:Nat) 0) (by simp[results,results18,go_sem,b0,A8,b2,Ag,b4]) rfl ⟨by rw[HR.out];exact pI _ _ x,?_⟩;exact A6.out _ (aT _ w.heap.size _ _ _ _ _)
end
section
variable {w w' wX : World} {N R D : Nat} {F E E' : Nat → Prop} {c : Sto.Cfg} {s : Sto.St} {V : Nat → Value} {U : Nat → List HeC} {vt vs va : Value} {tc : List (Int × Sl)}
theorem StP.moreE(h:StP w N R F E c s D V U vt vs va tc)(hE: ∀k,E k→E' k)(hE': ∀k,E' k→E k∨(¬F k∧k<w.heap.size)):StP w N R F E' c s D V U vt vs va tc:=
 ⟨h.var,h.ge,h.dk,⟨h.tail.own,h.tail.len,fun i x b hx hb=>⟨(h.tail.evs i x b hx hb).1,(h.tail.evs i x b hx hb).2.1,fun g hg hl=>hE g ((h.tail.evs i x b hx hb).2.2 g hg hl)⟩⟩,h.seen,⟨h.acc.1,fun g hg hl=>hE g (h.acc.2 g hg hl)⟩,h.fR,h.fD,h.fV,h.fU,h.fT,h.fS,h.lt,fun k hk=>by
  rcases hE' k hk with q|q
  ·exact h.dis k q
  ·exact q,h.wf⟩
theorem a0B.lt{w:World}{E:Nat→Prop}{es:List Evt.Ev}(h:a0B w E v es)(hg:v.ownBlock=some g)(hl:es≠[]):g<w.heap.size:=by
 obtain⟨⟨A,A1,rfl,_,_,h3⟩,_⟩:=h;cases es with
 |A0=>exact absurd rfl hl
 |cons e r=>
  obtain⟨b,o,rfl,t,_,_,c0,_⟩:=h3 0 e rfl;cases hg
  exact World.block_lt_of_cell? _ _ c0
theorem a0M.lt{w:World}{E:Nat→Prop}{l:List Vw.Acc}(h:a0M w E v l)(hg:v.ownBlock=some g)(hl:l≠[]):g<w.heap.size:=by
 obtain⟨⟨A,A1,rfl,_,_,h3⟩,_⟩:=h;cases l with
 |A0=>exact absurd rfl hl
 |cons e r=>
  obtain⟨b,o,rfl,t,_,_,c0,_⟩:=h3 0 e rfl;cases hg
  exact World.block_lt_of_cell? _ _ c0
theorem a4G(h:StP w N R F E c s D V U vt vs va tc){e:Ending}{a:Sto.Ans}(ht:vH e w' w.heap.size a)(hb:Bl w w'):DoO e w w' N R F E c (s,a):=by
 obtain⟨v,rfl,ve,A0,rfl,h1,h2⟩:=ht;refine⟨_,F,fun k=>E k∨(w.heap.size≤k∧k<w'.heap.size),rfl,⟨_,_,_,_,_,_,_,(h.below hb).moreE (fun _ q=>Or.inl q) fun k q=>?_⟩,⟨Off.of_below hb,fun _ q=>Or.inl q,fun k q=>q.imp id (·.1)⟩,ve,A0,rfl,⟨h1.1,fun g hg hl=>Or.inr ⟨h1.2 g hg hl,h1.lt hg hl⟩⟩,⟨h2.1,fun g hg hl=>Or.inr ⟨h2.2 g hg hl,h2.lt hg hl⟩⟩⟩
 rcases q with q|⟨q1,q2⟩
 ·exact Or.inl q
 ·exact Or.inr ⟨fun z=>absurd (h.lt k z).2 (Nat.not_lt.2 q1),q2⟩
theorem j8{e:Ending}(hc:ChP e w w' N R F E c s D vt vs va tc x ds'):DoO e w w' N R F E c ({s with disks:=ds'},⟨x,0,[],0,[]⟩):=by
 obtain⟨rfl,V',U',h1,h2⟩:=hc;exact⟨_,F,E,rfl,⟨_,_,_,_,_,_,_,h1⟩,h2,fI _ _ _ _⟩
end
theorem Tryz.enters_do1: ∀args w,(callFunc 19 args).run Tryz.prog w=.ok (.enter 19 args) w:=enters_of Tryz.func19 (by kernel_rfl) rfl
theorem Tryz.enters_do2: ∀args w,(callFunc 21 args).run Tryz.prog w=.ok (.enter 21 args) w:=enters_of Tryz.func21 (by kernel_rfl) rfl
theorem Tryz.enters_do3: ∀args w,(callFunc 27 args).run Tryz.prog w=.ok (.enter 27 args) w:=enters_of Tryz.func27 (by kernel_rfl) rfl
theorem Tryz.enters_viewOf: ∀args w,(callFunc 23 args).run Tryz.prog w=.ok (.enter 23 args) w:=enters_of Tryz.func23 (by kernel_rfl) rfl
theorem c4B(B N:Nat)(v:Value)(es:List EvC)(t:ByteArray)(w:World)(h:cG w N v es)(hN:N≤w.heap.size)(ht:t.size≤9223372036854775807)(hc:w.cell? (aD B 7)=some (.string t)):
  Calls prog 19 #[v,.pointer (some (aD B 0))] w fun e w'=>vH e w' N (ofA (es.map aZ) (nb t))∧Below N w w':=by
 have bA:=aB8 w (.cells (cS 0 0) 42);have VB:=aC w (cS 0 0) 42;have HC:=a4S N v es t _ (h.below bA) ht;have c7:=cB8 bA hc;have A6:Hid (∀g,v.ownBlock=some g→N≤g∧g<w.heap.size):=fun g hg=>h.1.lt g hg;have A8:=hd8 bA;have Ab:=hd8 VB;have A1:=hd8 hN;obtain⟨A,C,hv⟩:=h.shape;obtain⟨L,hL⟩: ∃L,L=es.length:=⟨_,rfl⟩;rw[←hL]at hv;subst hv;obtain⟨a,ha⟩: ∃a,a=ofA (es.map aZ) (nb t):=⟨_,rfl⟩;rw[←ha]at HC⊢;clear h hc bA VB hL ha hN;go_enter func19,ntmps19
 go_upto_region 1 with fail
 generalize w.alloc (.cells (cS 0 0) 42)=w1 at*;go_wp2_with fail;refine HC.mono ?_;rintro e w2 ⟨⟨v2,rfl,ve,A7,rfl,A3,A5⟩,A2⟩;have A0:aW w2 w.heap.size 42 (cS 0 0).toList:=Ab.out.off A2 fun z=>by
  have:=(A6.out _ z).2;omega
 have A4:=(A8.out.mono A1.out).trans (A2.below (c9E A1.out A8.out.size) fun k z=>(A6.out k z).1);have A9:Hid (∀w',Off (fun k=>k=w.heap.size) w2 w'→qE w' (fun k=>N≤k) (.agg #[iV a.err,iV a.n,ve,iV a.vu,A7]) a∧Below N w w'):=fun w' ho=>by
  have hk: ∀k,k<w2.heap.size→(N≤k∧TyB w2 k 83)→w'.heap[k]?=w2.heap[k]?:=fun k hk q=>ho.block k hk fun z=>by
   have z:k=w.heap.size:=z;exact q.2.ne A0.ty (by decide) z
  exact⟨⟨ve,A7,rfl,A3.move hk fun k _ q=>q.1,A5.move hk fun k _ q=>q.1⟩,A4.trans (ho.below (c9E A1.out A4.size) fun k z=>by rw[z];exact A1.out)⟩
 have b0:=A0.q0;have b1:=A0.q1;have b2:=A0.q2;have b3:=A0.q3;have b4:=A0.q4;have f0:=A0.frozen 0;have f1:=A0.frozen 1;have f2:=A0.frozen 2;have f3:=A0.frozen 3;have f4:=A0.frozen 4;obtain⟨Ae,Ce,Ad⟩:=A3.1.shape;obtain⟨Aa,Ca,Ac⟩:=A5.1.shape;subst Ad;subst Ac;clear HC A3 A5 A2 A0 A4;go_wp2_with fail;refine bodyPost_ret (v:=.agg #[iV a.err,iV a.n,.slice Ae a.evs.length Ce,iV a.vu,.slice Aa a.vl.length Ca]) (by simp[results,results19,go_sem,b0,b1,b2,b3,b4]) rfl ⟨⟨_,rfl,?_⟩,?_⟩
 ·exact(A9.out _ (aT _ w.heap.size _ _ _ _ _)).1
 ·exact(A9.out _ (aT _ w.heap.size _ _ _ _ _)).2
theorem c3U(B N:Nat)(v:Value)(es:List EvC)(n:Int)(w:World)(h:cG w N v es)(hN:N≤w.heap.size)(hl:es.length≤200000)(hc:w.cell? (aD B 1)=some (iV n)):
  Calls prog 21 #[v,.pointer (some (aD B 0))] w fun e w'=>vH e w' N (gK (es.map aZ) n)∧Below N w w':=by
 have bA:=aB8 w (.cells (cS 0 0) 42);have VB:=aC w (cS 0 0) 42;have HC:=c0O N v es n _ (h.below bA) hl;have c7:=cB8 bA hc;have A6:Hid (∀g,v.ownBlock=some g→N≤g∧g<w.heap.size):=fun g hg=>h.1.lt g hg;have A8:=hd8 bA;have Ab:=hd8 VB;have A1:=hd8 hN;obtain⟨A,C,hv⟩:=h.shape;obtain⟨L,hL⟩: ∃L,L=es.length:=⟨_,rfl⟩;rw[←hL]at hv;subst hv;obtain⟨a,ha⟩: ∃a,a=gK (es.map aZ) n:=⟨_,rfl⟩;rw[←ha]at HC⊢;clear h hc bA VB hL ha hN;go_enter func21,ntmps21
 go_upto_region 1 with fail
 generalize w.alloc (.cells (cS 0 0) 42)=w1 at*;go_wp2_with fail;refine HC.mono ?_;rintro e w2 ⟨⟨v2,rfl,ve,A7,rfl,A3,A5⟩,A2⟩;have A0:aW w2 w.heap.size 42 (cS 0 0).toList:=Ab.out.off A2 fun z=>by
  have:=(A6.out _ z).2;omega
 have A4:=(A8.out.mono A1.out).trans (A2.below (c9E A1.out A8.out.size) fun k z=>(A6.out k z).1);have A9:Hid (∀w',Off (fun k=>k=w.heap.size) w2 w'→qE w' (fun k=>N≤k) (.agg #[iV a.err,iV a.n,ve,iV a.vu,A7]) a∧Below N w w'):=fun w' ho=>by
  have hk: ∀k,k<w2.heap.size→(N≤k∧TyB w2 k 83)→w'.heap[k]?=w2.heap[k]?:=fun k hk q=>ho.block k hk fun z=>by
   have z:k=w.heap.size:=z;exact q.2.ne A0.ty (by decide) z
  exact⟨⟨ve,A7,rfl,A3.move hk fun k _ q=>q.1,A5.move hk fun k _ q=>q.1⟩,A4.trans (ho.below (c9E A1.out A4.size) fun k z=>by rw[z];exact A1.out)⟩
 have b0:=A0.q0;have b1:=A0.q1;have b2:=A0.q2;have b3:=A0.q3;have b4:=A0.q4;have f0:=A0.frozen 0;have f1:=A0.frozen 1;have f2:=A0.frozen 2;have f3:=A0.frozen 3;have f4:=A0.frozen 4;obtain⟨Ae,Ce,Ad⟩:=A3.1.shape;obtain⟨Aa,Ca,Ac⟩:=A5.1.shape;subst Ad;subst Ac;clear HC A3 A5 A2 A0 A4;go_wp2_with fail;refine bodyPost_ret (v:=.agg #[iV a.err,iV a.n,.slice Ae a.evs.length Ce,iV a.vu,.slice Aa a.vl.length Ca]) (by simp[results,results21,go_sem,b0,b1,b2,b3,b4]) rfl ⟨⟨_,rfl,?_⟩,?_⟩
 ·exact(A9.out _ (aT _ w.heap.size _ _ _ _ _)).1
 ·exact(A9.out _ (aT _ w.heap.size _ _ _ _ _)).2
section
variable {N R D : Nat} {F E : Nat → Prop} {c : Sto.Cfg} {s : Sto.St} {V : Nat → Value} {U : Nat → List HeC} {vt vs va : Value} {tc : List (Int × Sl)}
theorem c6A(B:Nat)(q:Nat)(x:Sto.aL)(k p:Int)(y:Nat)(w:World)(h:StP w N R F E c s D V U vt vs va tc)(hq:s.disks[q]?=some x)(hNw:N≤w.heap.size)(hy:y<256)(c2:w.cell? (aD B 2)=some (iV k))(c3:w.cell? (aD B 3)=some (iV p))(c4:w.cell? (aD B 4)=some (.int .u8 y)):
  Calls prog 27 #[.pointer (some (aD D (q*2))),.pointer (some (aD B 0))] w fun e w'=>a5Z e w w' N R F E c s D vt vs va tc (dN s.disks q x k p y).1 (dN s.disks q x k p y).2:=by
 have HC:=b8M q x k p y w h hq hNw hy;obtain⟨r,hr⟩: ∃r,r=dN s.disks q x k p y:=⟨_,rfl⟩;rw[←hr]at HC⊢;clear h hr;go_enter func27,ntmps27
 go_wp2_with fail;refine HC.mono ?_;rintro e w2 ⟨rfl,hP⟩;clear HC;go_wp2_with fail;go_ret
 exact⟨rfl,hP⟩
end
end Go.Proofs.YtmcaejooaaahdaaGreat
