import Derived.Test.YtmcaejooaaahdaaGreatZ17
import Derived.ChangeSlices
set_option maxHeartbeats 8000000
set_option maxRecDepth 100000
namespace Go.Proofs.YtmcaejooaaahdaaGreat
open Go.Proofs.Tryz
variable {D N R b b0 base cap fuel g k len n o q:Nat} {E E' F F':Nat→Prop} {W w w':World} {X:Sto.Six} {cs:List Value} {d:Sto.Do} {s:Sto.St} {sp spare:Nat→Bool} {t:TypeId} {v:Value}
open Go.RowKit
theorem a2O{c:Sto.Cfg}(h:d.kind=2):Sto.step X c s d=(s,lS (Sto.all X c s) (ofA (Sto.all X c s).2 d.name)):=by
 unfold Sto.step;rw[if_neg (by omega),if_pos (Or.inl h)];unfold Sto.b3G lS ofA;rw[if_neg (show¬d.kind=4 by omega),if_neg (show¬d.kind=3 by omega)]
theorem a8M{c:Sto.Cfg}(h:d.kind=3):Sto.step X c s d=(s,lS (Sto.all X c s) (gK (Sto.all X c s).2 d.n)):=by
 unfold Sto.step;rw[if_neg (by omega),if_pos (Or.inr (Or.inl h))];unfold Sto.b3G lS gK;rw[if_neg (show¬d.kind=4 by omega),if_pos h]
theorem a0X{c:Sto.Cfg}(h:d.kind=4):Sto.step X c s d=(s,lS (Sto.all X c s) (nR (Sto.all X c s).2)):=by
 unfold Sto.step;rw[if_neg (by omega),if_pos (Or.inr (Or.inr h))];unfold Sto.b3G lS nR;rw[if_pos h]
theorem j7{c:Sto.Cfg}(h:d.kind=5∨d.kind=6∨d.kind=7):Sto.step X c s d=Sto.nY s d:=by
 unfold Sto.step;rw[if_neg (by omega),if_neg (by omega),if_pos h]
theorem j9(h:d.n<0∨(s.disks.length:Int)≤d.n):Sto.nY s d=(s,Sto.no 6):=by
 unfold Sto.nY;cases hx:s.disks[d.n.toNat]? with
 |none=>rfl
 |some x=>
  dsimp only;by_cases q:d.n<0
  ·rw[if_pos q]
  ·have:=(c9H.1 hx).1;omega
theorem tP{x:Sto.aL}(hk:d.kind=5)(hn:d.n=(q:Int))(hx:s.disks[q]?=some x):Sto.nY s d=({s with disks:=if x.gone then s.disks else s.disks.set q ⟨true,[]⟩},⟨if x.gone then 8 else 0,0,[],0,[]⟩):=by
 unfold Sto.nY;rw[hn,c9Q,hx];dsimp only;rw[if_neg (show¬(q:Int)<0 by omega)];by_cases g:x.gone=true
 ·rw[if_pos ⟨hk,g⟩,if_pos g,if_pos g];rfl
 ·rw[if_neg (fun z=>g z.2),if_pos (Or.inl hk),if_neg g,if_neg g,decide_eq_true hk];rfl
theorem a0W{x:Sto.aL}(hk:d.kind=6)(hn:d.n=(q:Int))(hx:s.disks[q]?=some x):Sto.nY s d=({s with disks:=s.disks.set q ⟨false,[]⟩},⟨0,0,[],0,[]⟩):=by
 unfold Sto.nY;rw[hn,c9Q,hx];dsimp only;rw[if_neg (show¬(q:Int)<0 by omega),if_neg (fun z=>by omega),if_pos (Or.inr hk),decide_eq_false (by omega)];rfl
theorem nF{x:Sto.aL}(hk:d.kind=7)(hn:d.n=(q:Int))(hx:s.disks[q]?=some x):Sto.nY s d=({s with disks:=(dN s.disks q x d.seg d.pos d.turn).2},⟨(dN s.disks q x d.seg d.pos d.turn).1,0,[],0,[]⟩):=by
 unfold Sto.nY dN;rw[hn,c9Q,hx];dsimp only;rw[if_neg (show¬(q:Int)<0 by omega),if_neg (fun z=>by omega),if_neg (fun z=>by omega)];cases x.bl.find? (fun h=>decide (h.1=d.seg))with
 |none=>rfl
 |some h=>
  dsimp only;by_cases g:d.pos<0∨(h.2.length:Int)≤d.pos
  ·rw[if_pos g,if_pos g];rfl
  ·rw[if_neg g,if_neg g];rfl
theorem zX{c:Sto.Cfg}(h:d.kind=8):Sto.step X c s d=({s with disks:=(Sto.aN X c s.segs 0 s.disks 0 0).1},⟨(Sto.aN X c s.segs 0 s.disks 0 0).2.1,(Sto.aN X c s.segs 0 s.disks 0 0).2.2,[],0,[]⟩):=by
 unfold Sto.step;rw[if_neg (by omega),if_neg (by omega),if_neg (by omega),if_pos h]
theorem vQ{c:Sto.Cfg}(h:d.kind=9):Sto.step X c s d=(s,⟨0,(Sto.eJ X s.disks s.segs 0 0:Nat),[],0,[]⟩):=by
 unfold Sto.step;rw[if_neg (by omega),if_neg (by omega),if_neg (by omega),if_neg (by omega),if_pos h];rfl
theorem a1Y{c:Sto.Cfg}(h: ∀k:Int,1≤k→k≤9→d.kind≠k):Sto.step X c s d=(s,⟨1,0,[],0,[]⟩):=by
 have h1:=h 1 (by omega) (by omega);have h2:=h 2 (by omega) (by omega);have h3:=h 3 (by omega) (by omega);have h4:=h 4 (by omega) (by omega);have h5:=h 5 (by omega) (by omega);have h6:=h 6 (by omega) (by omega);have h7:=h 7 (by omega) (by omega);have h8:=h 8 (by omega) (by omega);have h9:=h 9 (by omega) (by omega);unfold Sto.step;rw[if_neg h1,if_neg (by omega),if_neg (by omega),if_neg h8,if_neg h9];rfl
section
variable {w w2 w3 : World} {N R D : Nat} {F E : Nat → Prop} {c : Sto.Cfg} {s : Sto.St} {V : Nat → Value} {U : Nat → List HeC} {vt vs va : Value} {tc : List (Int × Sl)} {d : Sto.Do} {ve : Value} {t : ByteArray} {r : Sto.St × Sto.Ans} {v : Value}
theorem PW.fin(hp:PW w w2 N R F E c s D V U vt vs va tc d ve t)(h:DoO (.returned v) w2 w3 N R F E c r):
  ∃Ae Ce Aa Ca,v=.agg #[iV r.2.err,iV r.2.n,.slice Ae r.2.evs.length Ce,iV r.2.vu,.slice Aa r.2.vl.length Ca]∧aW w3 (w.heap.size+1) 42 (cS 0 0).toList∧ ∀w',Off (fun k=>k=w.heap.size+1) w3 w'→DoO (.returned v) w w' N R F E c r:=by
 obtain⟨v',F',E',hv,hS,hF,A3,A2,A1,h1,h2⟩:=h;cases hv
 have A4:w.heap.size+1<w2.heap.size:=World.block_lt_of_cell? _ _ (hp.va.q0);have A0: ∀k,k=w.heap.size+1→ ¬F k∧ ¬F' k∧ ¬E' k:=fun k e=>by
  refine⟨fun z=>?_,fun z=>?_,fun z=>?_⟩
  ·have:=hp.lt k (Or.inl z);omega
  ·rcases hF.growF k z with q|q
   ·have:=hp.lt k (Or.inl q);omega
   ·omega
  ·rcases hF.growE k z with q|q
   ·have:=hp.lt k (Or.inr q);omega
   ·omega
 obtain⟨Ae,Ce,he⟩:=h1.1.shape;obtain⟨Aa,Ca,ha⟩:=h2.1.shape;refine⟨Ae,Ce,Aa,Ca,by rw[A1,he,ha],hp.va.off hF.off (A0 _ rfl).1,fun w' ho=>?_⟩;have hk:=fun k hk q=>ho.block k hk fun z=>(A0 k z).2.2 q;have hf:=(dS.of_below F E hp.bel).trans hF
 exact⟨_,F',E',rfl,hS.out ho fun k e=>(A0 k e).2,⟨hf.off.past ho fun k e hl=>by
  have e:k=w.heap.size+1:=e
  omega,hf.growF,hf.growE⟩,A3,A2,A1,h1.move hk fun _ _ q=>q,h2.move hk fun _ _ q=>q⟩
end
section
variable {N R D : Nat} {F E : Nat → Prop} {c : Sto.Cfg} {s : Sto.St} {V : Nat → Value} {U : Nat → List HeC} {vt vs va : Value} {tc : List (Int × Sl)} {X : Sto.Six}
theorem c7J(hX:Sto.dE X)(w:World)(h:StP w N R F E c s D V U vt vs va tc)(d:Sto.Do)(ve:Value)(t:ByteArray)(hd:tM w d ve t)(hNw:N≤w.heap.size):
  Calls prog 10 #[.pointer (some (aD R 0)),.agg (dX d ve t).toArray] w fun e w'=>DoO e w w' N R F E c (Sto.step X c s d):=by
 obtain⟨A,C,rfl⟩:=hd.evs.shape;show Calls prog 10 #[.pointer (some (aD R 0)),.agg #[iV d.kind,iV d.n,iV d.seg,iV d.pos,.int .u8 d.turn,iV d.bat.cmd,.slice A d.bat.evs.length C,.string t,iV d.ver]] w fun e w'=>DoO e w w' N R F E c (Sto.step X c s d);have A1:Hid (PW w ((w.alloc (.cells #[iV d.kind,iV d.n,iV d.seg,iV d.pos,.int .u8 d.turn,iV d.bat.cmd,.slice A d.bat.evs.length C,.string t,iV d.ver] 49)).alloc (.cells (cS 0 0) 42)) N R F E c s D V U vt vs va tc d (.slice A d.bat.evs.length C) t):=a6W h hd;obtain⟨r,hr⟩: ∃r,r=Sto.step X c s d:=⟨_,rfl⟩;have A5:Hid (Sto.step X c s d=r):=hr.symm;rw[←hr];have At:=Tryz.enters_do1;have As:=Tryz.enters_do2;have Ak:=Tryz.enters_do3;have Ai:=Tryz.enters_viewOf;have Aj:=Tryz.enters_lose;have Al:=Tryz.enters_swap;have HX:Hid (Sto.dE X):=hX;have Ad:=hd8 hNw;clear h hd hX hNw hr;go_enter func10,ntmps10
 go_upto_region 1 with fail
 generalize (w.alloc (.cells #[iV d.kind,iV d.n,iV d.seg,iV d.pos,.int .u8 d.turn,iV d.bat.cmd,.slice A d.bat.evs.length C,.string t,iV d.ver] 49)).alloc (.cells (cS 0 0) 42)=w2 at A1⊢;have A7:Hid (N≤w2.heap.size):=c9E Ad.out A1.out.bel.size;have e0:w2.cell? (aD w.heap.size 0)=some (iV d.kind):=A1.out.vd.q0;have e1:w2.cell? (aD w.heap.size 1)=some (iV d.n):=A1.out.vd.q1;have e2:w2.cell? (aD w.heap.size 2)=some (iV d.seg):=A1.out.vd.q2;have e3:w2.cell? (aD w.heap.size 3)=some (iV d.pos):=A1.out.vd.q3;have e4:w2.cell? (aD w.heap.size 4)=some (.int .u8 d.turn):=A1.out.vd.q4;have e5:w2.cell? (aD w.heap.size 5)=some (iV d.bat.cmd):=A1.out.vd.q5;have e6:w2.cell? (aD w.heap.size 6)=some (.slice A d.bat.evs.length C):=A1.out.vd.q6;have e7:w2.cell? (aD w.heap.size 7)=some (.string t):=A1.out.vd.q7;have e8:w2.cell? (aD w.heap.size 8)=some (iV d.ver):=A1.out.vd.q8;by_cases k1:d.kind=1
 ·have HC:Calls prog 17 #[.pointer (some (aD R 0)),.agg #[iV d.kind,iV d.n,iV d.seg,iV d.pos,.int .u8 d.turn,iV d.bat.cmd,.slice A d.bat.evs.length C,.string t,iV d.ver]] w2 fun e w'=>DoO e w2 w' N R F E c r:=by
   rw[←A5.out,Sto.xS k1];exact c3R HX.out w2 A1.out.st d (.slice A d.bat.evs.length C) t A1.out.din A7.out
  have Ag:=beq_iff_eq.2 k1;clear k1;go_wp2_with fail;refine HC.mono ?_;rintro e w3 hD;obtain⟨v3,rfl⟩: ∃v3,e=.returned v3:=by
   obtain⟨v,_,_,rfl,_⟩:=hD;exact⟨v,rfl⟩
  obtain⟨Ae,Ce,Aa,Ca,rfl,A0,HF⟩:=A1.out.fin hD;have A4:=hd8 HF;have b0:=A0.q0;have b1:=A0.q1;have b2:=A0.q2;have b3:=A0.q3;have b4:=A0.q4;have f0:=A0.frozen 0;have f1:=A0.frozen 1;have f2:=A0.frozen 2;have f3:=A0.frozen 3;have f4:=A0.frozen 4;obtain⟨ae,A3⟩: ∃x,x=r.2.evs.length:=⟨_,rfl⟩;obtain⟨aa,A2⟩: ∃x,x=r.2.vl.length:=⟨_,rfl⟩;rw[←A3,←A2]at A4;rw[←A3,←A2];clear HC hD A0 HF A3 A2;go_wp2_with fail;exact bodyPost_ret (by simp[results,results10,go_sem,b0,b1,b2,b3,b4]) rfl (A4.out _ (aT _ _ _ _ _ _ _))
 have Ag:(d.kind==1)=false:=by rw[beq_eq_false_iff_ne];exact k1
 have K1:=hd8 k1;clear k1;by_cases k2:d.kind=2
 ·have HC:Calls prog 18 #[.pointer (some (aD R 0)),.func (.func 19) #[] #[.pointer (some (aD w.heap.size 0))]] w2 fun e w'=>DoO e w2 w' N R F E c r:=by
   rw[←A5.out,a2O k2];refine(a2A HX.out 19 (.pointer (some (aD w.heap.size 0))) At (ofA (Sto.all X c s).2 d.name) w2 A1.out.st ?_).mono fun e w' q=>a4G A1.out.st q.1 q.2;intro v es w' hE hm _ hb hN;have q:=c4B w.heap.size (w2.heap.size+1) v es t w' hE hN A1.out.din.sz (cB8 hb e7);rw[hm,A1.out.din.name]at q;exact q
  have Aq:=beq_iff_eq.2 k2;clear k2;go_wp2_with fail;refine HC.mono ?_;rintro e w3 hD;obtain⟨v3,rfl⟩: ∃v3,e=.returned v3:=by
   obtain⟨v,_,_,rfl,_⟩:=hD;exact⟨v,rfl⟩
  obtain⟨Ae,Ce,Aa,Ca,rfl,A0,HF⟩:=A1.out.fin hD;have A4:=hd8 HF;have b0:=A0.q0;have b1:=A0.q1;have b2:=A0.q2;have b3:=A0.q3;have b4:=A0.q4;have f0:=A0.frozen 0;have f1:=A0.frozen 1;have f2:=A0.frozen 2;have f3:=A0.frozen 3;have f4:=A0.frozen 4;obtain⟨ae,A3⟩: ∃x,x=r.2.evs.length:=⟨_,rfl⟩;obtain⟨aa,A2⟩: ∃x,x=r.2.vl.length:=⟨_,rfl⟩;rw[←A3,←A2]at A4;rw[←A3,←A2];clear HC hD A0 HF A3 A2;go_wp2_with fail;exact bodyPost_ret (by simp[results,results10,go_sem,b0,b1,b2,b3,b4]) rfl (A4.out _ (aT _ _ _ _ _ _ _))
 have Aq:(d.kind==2)=false:=by rw[beq_eq_false_iff_ne];exact k2
 have K2:=hd8 k2;clear k2;by_cases k3:d.kind=3
 ·have HC:Calls prog 18 #[.pointer (some (aD R 0)),.func (.func 21) #[] #[.pointer (some (aD w.heap.size 0))]] w2 fun e w'=>DoO e w2 w' N R F E c r:=by
   rw[←A5.out,a8M k3];refine(a2A HX.out 21 (.pointer (some (aD w.heap.size 0))) As (gK (Sto.all X c s).2 d.n) w2 A1.out.st ?_).mono fun e w' q=>a4G A1.out.st q.1 q.2;intro v es w' hE hm hl hb hN;have q:=c3U w.heap.size (w2.heap.size+1) v es d.n w' hE hN hl (cB8 hb e1);rw[hm]at q;exact q
  have Ar:=beq_iff_eq.2 k3;clear k3;go_wp2_with fail;refine HC.mono ?_;rintro e w3 hD;obtain⟨v3,rfl⟩: ∃v3,e=.returned v3:=by
   obtain⟨v,_,_,rfl,_⟩:=hD;exact⟨v,rfl⟩
  obtain⟨Ae,Ce,Aa,Ca,rfl,A0,HF⟩:=A1.out.fin hD;have A4:=hd8 HF;have b0:=A0.q0;have b1:=A0.q1;have b2:=A0.q2;have b3:=A0.q3;have b4:=A0.q4;have f0:=A0.frozen 0;have f1:=A0.frozen 1;have f2:=A0.frozen 2;have f3:=A0.frozen 3;have f4:=A0.frozen 4;obtain⟨ae,A3⟩: ∃x,x=r.2.evs.length:=⟨_,rfl⟩;obtain⟨aa,A2⟩: ∃x,x=r.2.vl.length:=⟨_,rfl⟩;rw[←A3,←A2]at A4;rw[←A3,←A2];clear HC hD A0 HF A3 A2;go_wp2_with fail;exact bodyPost_ret (by simp[results,results10,go_sem,b0,b1,b2,b3,b4]) rfl (A4.out _ (aT _ _ _ _ _ _ _))
 have Ar:(d.kind==3)=false:=by rw[beq_eq_false_iff_ne];exact k3
 have K3:=hd8 k3;clear k3;by_cases k4:d.kind=4
 ·have HC:Calls prog 18 #[.pointer (some (aD R 0)),.func (.func 23) #[] #[]] w2 fun e w'=>DoO e w2 w' N R F E c r:=by
   rw[←A5.out,a0X k4];refine(b6C HX.out 23 Ai (nR (Sto.all X c s).2) w2 A1.out.st ?_).mono fun e w' q=>a4G A1.out.st q.1 q.2;intro v es w' hE hm _ _ hN;have q:=b0O (w2.heap.size+1) v es w' hE hN;rw[hm]at q;exact q
  have Ah:=beq_iff_eq.2 k4;clear k4;go_wp2_with fail;refine HC.mono ?_;rintro e w3 hD;obtain⟨v3,rfl⟩: ∃v3,e=.returned v3:=by
   obtain⟨v,_,_,rfl,_⟩:=hD;exact⟨v,rfl⟩
  obtain⟨Ae,Ce,Aa,Ca,rfl,A0,HF⟩:=A1.out.fin hD;have A4:=hd8 HF;have b0:=A0.q0;have b1:=A0.q1;have b2:=A0.q2;have b3:=A0.q3;have b4:=A0.q4;have f0:=A0.frozen 0;have f1:=A0.frozen 1;have f2:=A0.frozen 2;have f3:=A0.frozen 3;have f4:=A0.frozen 4;obtain⟨ae,A3⟩: ∃x,x=r.2.evs.length:=⟨_,rfl⟩;obtain⟨aa,A2⟩: ∃x,x=r.2.vl.length:=⟨_,rfl⟩;rw[←A3,←A2]at A4;rw[←A3,←A2];clear HC hD A0 HF A3 A2;go_wp2_with fail;exact bodyPost_ret (by simp[results,results10,go_sem,b0,b1,b2,b3,b4]) rfl (A4.out _ (aT _ _ _ _ _ _ _))
 have Ah:(d.kind==4)=false:=by rw[beq_eq_false_iff_ne];exact k4
 have K4:=hd8 k4;clear k4;by_cases k5:d.kind=5
 ·have HC:Calls prog 24 #[.pointer (some (aD R 0)),iV d.n,.func (.func 25) #[] #[]] w2 fun e w'=>DoO e w2 w' N R F E c r:=by
   rw[←A5.out,j7 (Or.inl k5)];by_cases hn:d.n<0∨(s.disks.length:Int)≤d.n
   ·rw[j9 hn];exact(tN 25 d.n w2 A1.out.st hn).mono fun e w' q=>j8 q
   ·obtain⟨q,hq⟩: ∃q:Nat,d.n=(q:Int):=⟨d.n.toNat,by omega⟩;have A6:q<s.disks.length:=by omega
    obtain⟨x,hx⟩: ∃x,s.disks[q]?=some x:=⟨s.disks[q],c9F A6⟩;rw[tP k5 hq hx,hq];exact(rY 25 Aj q _ _ w2 A1.out.st A6 fun w' V' U' hb hS=>c0N q x w' hS hx (c9E A7.out hb.size)).mono fun e w' z=>j8 z
  have Am:=beq_iff_eq.2 k5;clear k5;go_wp2_with fail;refine HC.mono ?_;rintro e w3 hD;obtain⟨v3,rfl⟩: ∃v3,e=.returned v3:=by
   obtain⟨v,_,_,rfl,_⟩:=hD;exact⟨v,rfl⟩
  obtain⟨Ae,Ce,Aa,Ca,rfl,A0,HF⟩:=A1.out.fin hD;have A4:=hd8 HF;have b0:=A0.q0;have b1:=A0.q1;have b2:=A0.q2;have b3:=A0.q3;have b4:=A0.q4;have f0:=A0.frozen 0;have f1:=A0.frozen 1;have f2:=A0.frozen 2;have f3:=A0.frozen 3;have f4:=A0.frozen 4;obtain⟨ae,A3⟩: ∃x,x=r.2.evs.length:=⟨_,rfl⟩;obtain⟨aa,A2⟩: ∃x,x=r.2.vl.length:=⟨_,rfl⟩;rw[←A3,←A2]at A4;rw[←A3,←A2];clear HC hD A0 HF A3 A2;go_wp2_with fail;exact bodyPost_ret (by simp[results,results10,go_sem,b0,b1,b2,b3,b4]) rfl (A4.out _ (aT _ _ _ _ _ _ _))
 have Am:(d.kind==5)=false:=by rw[beq_eq_false_iff_ne];exact k5
 have K5:=hd8 k5;clear k5;by_cases k6:d.kind=6
 ·have HC:Calls prog 24 #[.pointer (some (aD R 0)),iV d.n,.func (.func 26) #[] #[]] w2 fun e w'=>DoO e w2 w' N R F E c r:=by
   rw[←A5.out,j7 (Or.inr (Or.inl k6))];by_cases hn:d.n<0∨(s.disks.length:Int)≤d.n
   ·rw[j9 hn];exact(tN 26 d.n w2 A1.out.st hn).mono fun e w' q=>j8 q
   ·obtain⟨q,hq⟩: ∃q:Nat,d.n=(q:Int):=⟨d.n.toNat,by omega⟩;have A6:q<s.disks.length:=by omega
    obtain⟨x,hx⟩: ∃x,s.disks[q]?=some x:=⟨s.disks[q],c9F A6⟩;rw[a0W k6 hq hx,hq];exact(rY 26 Al q _ _ w2 A1.out.st A6 fun w' V' U' hb hS=>c0W q x w' hS hx (c9E A7.out hb.size)).mono fun e w' z=>j8 z
  have Ao:=beq_iff_eq.2 k6;clear k6;go_wp2_with fail;refine HC.mono ?_;rintro e w3 hD;obtain⟨v3,rfl⟩: ∃v3,e=.returned v3:=by
   obtain⟨v,_,_,rfl,_⟩:=hD;exact⟨v,rfl⟩
  obtain⟨Ae,Ce,Aa,Ca,rfl,A0,HF⟩:=A1.out.fin hD;have A4:=hd8 HF;have b0:=A0.q0;have b1:=A0.q1;have b2:=A0.q2;have b3:=A0.q3;have b4:=A0.q4;have f0:=A0.frozen 0;have f1:=A0.frozen 1;have f2:=A0.frozen 2;have f3:=A0.frozen 3;have f4:=A0.frozen 4;obtain⟨ae,A3⟩: ∃x,x=r.2.evs.length:=⟨_,rfl⟩;obtain⟨aa,A2⟩: ∃x,x=r.2.vl.length:=⟨_,rfl⟩;rw[←A3,←A2]at A4;rw[←A3,←A2];clear HC hD A0 HF A3 A2;go_wp2_with fail;exact bodyPost_ret (by simp[results,results10,go_sem,b0,b1,b2,b3,b4]) rfl (A4.out _ (aT _ _ _ _ _ _ _))
 have Ao:(d.kind==6)=false:=by rw[beq_eq_false_iff_ne];exact k6
 have K6:=hd8 k6;clear k6;by_cases k7:d.kind=7
 ·have HC:Calls prog 24 #[.pointer (some (aD R 0)),iV d.n,.func (.func 27) #[] #[.pointer (some (aD w.heap.size 0))]] w2 fun e w'=>DoO e w2 w' N R F E c r:=by
   rw[←A5.out,j7 (Or.inr (Or.inr k7))];by_cases hn:d.n<0∨(s.disks.length:Int)≤d.n
   ·rw[j9 hn];exact(a4V 27 (.pointer (some (aD w.heap.size 0))) d.n w2 A1.out.st hn).mono fun e w' q=>j8 q
   ·obtain⟨q,hq⟩: ∃q:Nat,d.n=(q:Int):=⟨d.n.toNat,by omega⟩;have A6:q<s.disks.length:=by omega
    obtain⟨x,hx⟩: ∃x,s.disks[q]?=some x:=⟨s.disks[q],c9F A6⟩;rw[nF k7 hq hx,hq];exact(a3T 27 (.pointer (some (aD w.heap.size 0))) Ak q _ _ w2 A1.out.st A6 fun w' V' U' hb hS=>c6A w.heap.size q x d.seg d.pos d.turn w' hS hx (c9E A7.out hb.size) A1.out.din.byte (cB8 hb e2) (cB8 hb e3) (cB8 hb e4)).mono fun e w' z=>j8 z
  have Af:=beq_iff_eq.2 k7;clear k7;go_wp2_with fail;refine HC.mono ?_;rintro e w3 hD;obtain⟨v3,rfl⟩: ∃v3,e=.returned v3:=by
   obtain⟨v,_,_,rfl,_⟩:=hD;exact⟨v,rfl⟩
  obtain⟨Ae,Ce,Aa,Ca,rfl,A0,HF⟩:=A1.out.fin hD;have A4:=hd8 HF;have b0:=A0.q0;have b1:=A0.q1;have b2:=A0.q2;have b3:=A0.q3;have b4:=A0.q4;have f0:=A0.frozen 0;have f1:=A0.frozen 1;have f2:=A0.frozen 2;have f3:=A0.frozen 3;have f4:=A0.frozen 4;obtain⟨ae,A3⟩: ∃x,x=r.2.evs.length:=⟨_,rfl⟩;obtain⟨aa,A2⟩: ∃x,x=r.2.vl.length:=⟨_,rfl⟩;rw[←A3,←A2]at A4;rw[←A3,←A2];clear HC hD A0 HF A3 A2;go_wp2_with fail;exact bodyPost_ret (by simp[results,results10,go_sem,b0,b1,b2,b3,b4]) rfl (A4.out _ (aT _ _ _ _ _ _ _))
 have Af:(d.kind==7)=false:=by rw[beq_eq_false_iff_ne];exact k7
 have K7:=hd8 k7;clear k7;by_cases k8:d.kind=8
 ·have HC:Calls prog 29 #[.pointer (some (aD R 0))] w2 fun e w'=>DoO e w2 w' N R F E c r:=by
   rw[←A5.out,zX k8];refine(b7U HX.out w2 A1.out.st A7.out).mono ?_;rintro e w' ⟨rfl,F',V',U',q1,q2⟩;exact⟨_,F',E,rfl,⟨_,_,_,_,_,_,_,q1⟩,q2,fI _ _ _ _⟩
  have Ap:=beq_iff_eq.2 k8;clear k8;go_wp2_with fail;refine HC.mono ?_;rintro e w3 hD;obtain⟨v3,rfl⟩: ∃v3,e=.returned v3:=by
   obtain⟨v,_,_,rfl,_⟩:=hD;exact⟨v,rfl⟩
  obtain⟨Ae,Ce,Aa,Ca,rfl,A0,HF⟩:=A1.out.fin hD;have A4:=hd8 HF;have b0:=A0.q0;have b1:=A0.q1;have b2:=A0.q2;have b3:=A0.q3;have b4:=A0.q4;have f0:=A0.frozen 0;have f1:=A0.frozen 1;have f2:=A0.frozen 2;have f3:=A0.frozen 3;have f4:=A0.frozen 4;obtain⟨ae,A3⟩: ∃x,x=r.2.evs.length:=⟨_,rfl⟩;obtain⟨aa,A2⟩: ∃x,x=r.2.vl.length:=⟨_,rfl⟩;rw[←A3,←A2]at A4;rw[←A3,←A2];clear HC hD A0 HF A3 A2;go_wp2_with fail;exact bodyPost_ret (by simp[results,results10,go_sem,b0,b1,b2,b3,b4]) rfl (A4.out _ (aT _ _ _ _ _ _ _))
 have Ap:(d.kind==8)=false:=by rw[beq_eq_false_iff_ne];exact k8
 have K8:=hd8 k8;clear k8;by_cases k9:d.kind=9
 ·have HC:=b0Z HX.out w2 A1.out.st;obtain⟨n,hn⟩: ∃n,n=Sto.eJ X s.disks s.segs 0 0:=⟨_,rfl⟩;rw[←hn]at HC;have Ac:Hid (r=(s,⟨0,(n:Nat),[],0,[]⟩)):=by
   show r=_;rw[←A5.out,vQ k9,hn]
  have Ab:=beq_iff_eq.2 k9;clear k9 hn;go_wp2_with fail;refine HC.mono ?_;rintro e w3 ⟨rfl,A9⟩;have A8:=A1.out.below A9;have A0:=A8.va;have A4:Hid (∀w',Off (fun k=>k=w.heap.size+1) w3 w'→DoO (.returned (dH 0 (n:Nat))) w w' N R F E c r):=fun w' ho=>by
   rw[Ac.out];exact A8.same ho 0 (n:Nat)
  have b0:=A0.q0;have b1:=A0.q1;have b2:=A0.q2;have b3:=A0.q3;have b4:=A0.q4;have f0:=A0.frozen 0;have f1:=A0.frozen 1;have f2:=A0.frozen 2;have f3:=A0.frozen 3;have f4:=A0.frozen 4;clear HC A9 A8 A0;go_wp2_with fail;exact bodyPost_ret (by simp[results,results10,go_sem,b0,b1,b2,b3,b4]) rfl (A4.out _ (aT _ _ _ _ _ _ _))
 have Ab:(d.kind==9)=false:=by rw[beq_eq_false_iff_ne];exact k9
 have An:Hid (r=(s,⟨1,0,[],0,[]⟩)):=by
  show r=_;rw[←A5.out];refine a1Y fun k h1 h2 e=>?_;have z1:=K1.out;have z2:=K2.out;have z3:=K3.out;have z4:=K4.out;have z5:=K5.out;have z6:=K6.out;have z7:=K7.out;have z8:=K8.out;omega
 have A0:=A1.out.va;have A4:Hid (∀w',Off (fun k=>k=w.heap.size+1) w2 w'→DoO (.returned (dH 1 0)) w w' N R F E c r):=fun w' ho=>by
  rw[An.out];exact A1.out.same ho 1 0
 have b0:=A0.q0;have b1:=A0.q1;have b2:=A0.q2;have b3:=A0.q3;have b4:=A0.q4;have f0:=A0.frozen 0;have f1:=A0.frozen 1;have f2:=A0.frozen 2;have f3:=A0.frozen 3;have f4:=A0.frozen 4;clear k9 A0;go_wp2_with fail;exact bodyPost_ret (by simp[results,results10,go_sem,b0,b1,b2,b3,b4]) rfl (A4.out _ (aT _ _ _ _ _ _ _))
end
def cM(d s b:Int):Nat:=if bP d s≠0 then bP d s else if b<1∨10<b then 3 else 0
theorem b6K{d s b:Int}(h:cM d s b=0):1≤d∧d≤8∧0≤s∧s≤4∧1≤b∧b≤10:=by
 unfold cM at h;by_cases h1:bP d s≠0
 ·rw[if_pos h1]at h;exact absurd h h1
 ·rw[if_neg h1]at h;have h2: ¬(d<1∨8<d∨s<0∨4<s):=fun z=>h1 (by rw[cC z];decide);by_cases h3:b<1∨10<b
  ·rw[if_pos h3]at h;cases h
  ·omega
theorem iJ(d s b:Int)(w:World):
  Calls prog 6 #[.agg #[iV d,iV s,iV b]] w fun e w'=>e=.returned (iV (cM d s b:Nat))∧Bl w w':=by
 have bA:=aB8 w (.cells #[iV d,iV s,iV b] 23);have VB:=aC w #[iV d,iV s,iV b] 23;have c0:=VB.q0;have c1:=VB.q1;have HC:=d9 d s (w.alloc (.cells #[iV d,iV s,iV b] 23));have A0:Hid (cM d s b=if bP d s≠0 then bP d s else if b<1∨10<b then 3 else 0):=rfl;generalize bP d s=x at HC A0;have A2:=hd8 VB;clear VB;go_enter func6,ntmps6
 go_wp2_with fail;refine HC.mono ?_;rintro e w2 ⟨rfl,b2⟩;have A4:=(A2.out.below b2).q2;have A1:=bt bA b2;clear HC;by_cases hx:x=0
 ·have A3:((x:Int) !=0)=false:=by rw[bne_eq_false_iff_eq];omega
  by_cases h1:b<1
  ·have HR:Hid (cM d s b=3):=by
    show cM d s b=3;rw[A0.out,if_neg (fun z=>z hx),if_pos (Or.inl h1)]
   clear hx;go_wp2_with fail;go_ret
   exact⟨by rw[HR.out];rfl,A1⟩
  ·by_cases h2:10<b
   ·have HR:Hid (cM d s b=3):=by
     show cM d s b=3;rw[A0.out,if_neg (fun z=>z hx),if_pos (Or.inr h2)]
    clear hx;go_wp2_with fail;go_ret
    exact⟨by rw[HR.out];rfl,A1⟩
   ·have HR:Hid (cM d s b=0):=by
     show cM d s b=0;rw[A0.out,if_neg (fun z=>z hx),if_neg (by omega)]
    clear hx;go_wp2_with fail;go_ret
    exact⟨by rw[HR.out];rfl,A1⟩
 ·have A3:((x:Int) !=0)=true:=by rw[bne_iff_ne];omega
  have HR:Hid (cM d s b=x):=by
   show cM d s b=x;rw[A0.out,if_pos hx]
  clear hx;go_wp2_with fail;go_ret
  exact⟨by rw[HR.out];rfl,A1⟩
theorem Tryz.infoDisk:(Tryz.prog.info? 58).map (fun i=>(i.zero,i.size,i.bytes))=some (some (.agg #[.bool false,nS]),2,32):=by kernel_rfl
theorem Tryz.infoAns:(Tryz.prog.info? 42).map (fun i=>(i.zero,i.size,i.bytes))=some (some (.agg #[iV 0,iV 0,nS,iV 0,nS]),5,72):=by kernel_rfl
theorem zY(n:Nat)(hn:n≤12)(w:World):(Instr.makeSlice 25 (iV n) (iV n)).run prog w=.ok (.slice (some (aD w.heap.size 0)) n n) (w.alloc (.cells (madeCells #[.bool false,nS] (n*2)) 58)):=by
 obtain⟨i3,A4,A0⟩:=c9J.1 Tryz.infoDisk;simp only[Prod.mk.injEq]at A0;obtain⟨A3,A1,A2⟩:=A0;have hr:=run_make (P:=prog) w 25 58 i3 _ underlying25 A4 A3 .i64 .i64 n n (by omega) (d1Q _) (by rw[A2];omega) (by omega);simp only[Int.toNat_natCast,A1]at hr;exact hr
theorem pX(n:Nat)(w:World):aY (w.alloc (.cells (madeCells #[.bool false,nS] (n*2)) 58)) w.heap.size 58 (n*2) (dkF (fun _=>nS) (List.replicate n ⟨false,[]⟩)):=by
 have hr:=World.rowIs_alloc w (madeCells #[.bool false,nS] (n*2)) 58 (dkF (fun _=>nS) (List.replicate n ⟨false,[]⟩)) (fun i hi=>?_)
 ·have:=iE hr;rw[size_madeCells]at this;exact this
 ·rw[size_madeCells]at hi;have h1:i/2<n:=by omega
  have hd:(List.replicate n (⟨false,[]⟩:Sto.aL)).getD (i/2) ⟨false,[]⟩=⟨false,[]⟩:=by
   rw[c9R,List.getElem?_replicate];split<;>rfl
  unfold dkF;rw[hd];by_cases q:i%2=0
  ·rw[if_pos q];have:=nC #[.bool false,nS] (n*2) i hi (.bool false) (by rw[show(#[Value.bool false,nS]).size=2 from rfl,q];rfl);rw[Array.getElem?_toList]at this;exact this
  ·rw[if_neg q];have:=nC #[.bool false,nS] (n*2) i hi nS (by rw[show(#[Value.bool false,nS]).size=2 from rfl,show i%2=1 by omega];rfl);rw[Array.getElem?_toList]at this;exact this
theorem c0I{w:World}{c:Sto.Cfg}(h1:1≤c.d)(h2:c.d≤8)(h3:c.s≤4)(h4:1≤c.b)(h5:c.b≤10)(hN:N≤R)(hD:N≤D)
  (hv:aW w R 45 (jZ c D (c.d+c.s) 0 nS nS 0 nS)) (hr:aY w D 58 ((c.d+c.s)*2) (dkF (fun _=>nS) (List.replicate (c.d+c.s) ⟨false,[]⟩))):
  StP w N R (fun k=>k=R∨k=D) (fun _=>False) c (Sto.start c) D (fun _=>nS) (fun _=>[]) nS nS nS []:=by
 have hl:=List.length_replicate ..;refine⟨?_,hN,⟨?_,hD,fun i _=>World.ownsRow_nil _ _ _ _,fun i d hd=>?_,fun i x _ hx=>(by cases hx),fun i j g _ _ hg=>(by cases hg),fun i j a b x x' g _ _ hx=>(by cases hx)⟩,⟨World.ownsRow_nil _ _ _ _,rfl,fun i x b hx=>(by cases hx)⟩,World.ownsRow_nil _ _ _ _,oW _ _,Or.inl rfl,Or.inr rfl,fun i g _ hg=>(by cases hg),fun i x g _ hx=>(by cases hx),fun g hg=>(by cases hg),fun g hg=>(by cases hg),fun k hk=>?_,fun k hk=>hk.elim,⟨hl,h1,h2,h3,h4,h5,fun i d hd=>?_,Nat.zero_le _,h4,fun b hb=>(by cases hb),List.Pairwise.nil,Int.le_refl _,⟨Int.le_refl _,(show(0:Int)≤150 by decide),fun a ha=>(by cases ha),List.Pairwise.nil,rfl⟩⟩⟩
 ·rw[hl];exact hv
 ·show aY w D _ ((Sto.start c).disks.length*2) _;rw[hl];exact hr
 ·have:d=⟨false,[]⟩:=by
   have hd:(List.replicate (c.d+c.s) (⟨false,[]⟩:Sto.aL))[i]?=some d:=hd;exact d2X (c9N hd)
  rw[this];rfl
 ·rcases hk with rfl|rfl
  ·exact⟨hN,aY.lt hv⟩
  ·exact⟨hD,hr.lt⟩
 ·have:d=⟨false,[]⟩:=by
   have hd:(List.replicate (c.d+c.s) (⟨false,[]⟩:Sto.aL))[i]?=some d:=hd;exact d2X (c9N hd)
  rw[this];exact⟨List.Pairwise.nil,fun h hh=>(by cases hh),fun hh=>rfl⟩
def b7O(w:World)(b o:Nat)(d:Sto.Do):Prop:= ∃ve t,tM w d ve t∧ ∀j u,(dX d ve t)[j]?=some u→w.cell? (aD b (o+j))=some u
def Dos(w:World)(v:Value)(l:List Sto.Do):Prop:= ∃A cap,v=.slice A l.length cap∧l.length≤cap∧cap≤maxLen∧ ∀i d,l[i]?=some d→ ∃b o,A=some (aD b o)∧b7O w b (o+i*9) d
theorem b7O.below(h:b7O w b o d)(hN:N=w.heap.size)(hb:Below N w w'):b7O w' b o d:=by
 subst hN;obtain⟨ve,t,h1,h2⟩:=h;exact⟨ve,t,h1.below hb,fun j u hj=>cB8 hb (h2 j u hj)⟩
abbrev AnC:=Nat×Int×Sl×Int×Sl
def dA(q:AnC):List Value:=[iV q.1,iV q.2.1,slV q.2.2.1,iV q.2.2.2.1,slV q.2.2.2.2]
structure gG(w:World)(N:Nat)(F:Nat→Prop)(v:Value)(qs:List AnC)(al:List Sto.Ans):Prop where
 own:w.ownsRow N 42 5 v qs.length (qs.flatMap dA)
 len:qs.length=al.length
 ans: ∀(i:Nat) (q:AnC) (a:Sto.Ans),qs[i]?=some q→al[i]?=some a→qE w (fun k=> ¬F k∧k<w.heap.size∧v.ownBlock≠some k∧N≤k) (.agg (dA q).toArray) a
theorem gG.step{qs:List AnC}{al:List Sto.Ans}(h:gG w N F v qs al)(hf:dS w w' F F' E E')(hv: ∀g,v.ownBlock=some g→ ¬F g):gG w' N F' v qs al:=
 ⟨bC h.own hf.off hv,h.len,fun i q a hq ha=>(h.ans i q a hq ha).move (fun k hk z=>hf.off.block k hk z.1) fun k hk z=>⟨fun y=>by
  rcases hf.growF k y with y|y
  ·exact z.1 y
  ·omega,c9P hk hf.off.size,z.2.2⟩⟩
theorem gG.below{qs:List AnC}{al:List Sto.Ans}(h:gG w N F v qs al)(hb:Bl w w'):gG w' N F v qs al:=
 ⟨aK h.own hb,h.len,fun i q a hq ha=>(h.ans i q a hq ha).move (fun k hk _=>hb.block k hk) fun _ hk z=>⟨z.1,c9P hk hb.size,z.2.2⟩⟩
theorem uP.dis{c:Sto.Cfg}(h:uP w N R F E c s)(hk:E k): ¬F k∧k<w.heap.size:=by
 obtain⟨D,V,U,vt,vs,va,tc,h⟩:=h;exact h.dis k hk
theorem c5B(w:World)(N:Nat)(F:Nat→Prop)(v:Value)(qs:List AnC)(al:List Sto.Ans)(h:gG w N F v qs al)(hN:N≤w.heap.size)(q:AnC)(a:Sto.Ans)(ha:qE w (fun k=> ¬F k∧k<w.heap.size∧v.ownBlock≠some k∧N≤k) (.agg (dA q).toArray) a)(hsz:qs.length≤1000):
  ∃v' w',(Builtin.append_ #[33,33] 33 #[v,.slice (some (aD w.heap.size 0)) 1 1]).run prog (w.alloc (.cells (dA q).toArray 42))=.ok v' w'∧gG w' N F v' (qs++[q]) (al++[a])∧Off (fun k=>v.ownBlock=some k) w w'∧(v'.ownBlock=v.ownBlock∨ ∀g,v'.ownBlock=some g→w.heap.size≤g):=by
 obtain⟨i4,A9,A3⟩:=c9J.1 Tryz.infoAns;simp only[Prod.mk.injEq]at A3;obtain⟨A7,A8,A6⟩:=A3;have bA:=aB8 w (.cells (dA q).toArray 42);have hc:=aC w (dA q).toArray 42
 obtain⟨v',w',A0,ho,hg,_,A4⟩:=run_append_own_at (P:=prog) (w.alloc (.cells (dA q).toArray 42)) N 33 33 42 i4 _ 5 72 underlying33 A9 A7 A8 A6 rfl (by decide) v qs.length _ (aK h.own bA) (aD w.heap.size 0) 1 1 (dA q) rfl (fun j u hj=>by
  rw[WideShapes.add_plain,c9G]
  exact hc.cell hj) (fun u hu=>by
  simp only[dA,List.mem_cons,List.not_mem_nil,or_false]at hu
  rcases hu with rfl|rfl|rfl|rfl|rfl<;>rfl) (by unfold maxLen;omega) (by omega) (c9E hN bA.size)
 have A2:=(Off.of_below bA).trans (cJ hg)
 have A5: ∀{q:AnC} {a:Sto.Ans},qE w (fun k=> ¬F k∧k<w.heap.size∧v.ownBlock≠some k∧N≤k) (.agg (dA q).toArray) a→qE w' (fun k=> ¬F k∧k<w'.heap.size∧v'.ownBlock≠some k∧N≤k) (.agg (dA q).toArray) a:=fun {q a} z=>z.move (fun k hk y=>A2.block k hk y.2.2.1) fun k hk y=>⟨y.1,c9P hk A2.size,fun e=>by
  rcases A4 with x|x
  ·rw[x]at e;exact y.2.2.1 e
  ·rw[x]at e;cases e
   exact absurd bA.size (Nat.not_le.2 hk),y.2.2.2⟩
 refine⟨v',w',A0,⟨?_,by rw[c9I,c9I,h.len];rfl,fun i x b hx hb=>?_⟩,A2,A4.imp id fun z g hg=>?_⟩
 ·rw[c9I,d0H];exact ho
 ·have Aa:=h.len;by_cases hi:i<qs.length
  ·rw[d0M hi]at hx;rw[d0M (by omega)]at hb;exact A5 (h.ans i x b hx hb)
  ·have A1:=(c9H.1 hx).1;rw[c9I]at A1;have A1:i<qs.length+1:=A1;obtain rfl:i=qs.length:=by omega
   rw[d0S (c9C _),d1L]at hx;rw[d0S (by omega),show qs.length-al.length=0 by omega]at hb;cases hx
   cases hb
   exact A5 ha
 ·rw[z]at hg;cases hg
  exact bA.size
open Go.ChangeShapes Go.WideShapes Go.ChangeAt Go.RowKit
theorem b0M{α:Type}(a0:α){P:Nat→α→Prop}(h: ∀i,i<n→ ∃q,P i q): ∃q:Nat→α,∀i,i<n→P i (q i):=
 ⟨fun i=>if hi:i<n then Classical.choose (h i hi)else a0,fun i hi=>by
  simp only[dif_pos hi]
  exact Classical.choose_spec (h i hi)⟩
def do0:Sto.Do:=⟨0,0,0,0,0,⟨0,[]⟩,[],0⟩
theorem c8L{α:Type}{l:List α}(h:l.length=9): ∃c0 c1 c2 c3 c4 c5 c6 c7 c8,l=[c0,c1,c2,c3,c4,c5,c6,c7,c8]:=by
 match l,h with
 |[c0,c1,c2,c3,c4,c5,c6,c7,c8],_=>exact⟨c0,c1,c2,c3,c4,c5,c6,c7,c8,rfl⟩
theorem a5K{H:Type}{enc:TypeId×Value→H}{P:Program}{held:Bool}{f0 f1 f2 f3 f4 f5 f6 f7:Field}{x:DataW H×List MemPlace}(ht:P.underlying t=some (.struct #[f0,f1,f2,f3,f4,f5,f6,f7]))(h:DataW.trod enc P w base spare held fuel t cs=some x):
  ∃y0 y1 y2 y3 y4 y5 y6 y7 n,cs.length=P.cellsOf t∧DataW.trod enc P w base spare held n f0.type ((cs.drop f0.offset).take (P.cellsOf f0.type))=some y0∧
   DataW.trod enc P w base spare held n f1.type ((cs.drop f1.offset).take (P.cellsOf f1.type))=some y1∧DataW.trod enc P w base spare held n f2.type ((cs.drop f2.offset).take (P.cellsOf f2.type))=some y2∧
   DataW.trod enc P w base spare held n f3.type ((cs.drop f3.offset).take (P.cellsOf f3.type))=some y3∧DataW.trod enc P w base spare held n f4.type ((cs.drop f4.offset).take (P.cellsOf f4.type))=some y4∧
   DataW.trod enc P w base spare held n f5.type ((cs.drop f5.offset).take (P.cellsOf f5.type))=some y5∧DataW.trod enc P w base spare held n f6.type ((cs.drop f6.offset).take (P.cellsOf f6.type))=some y6∧
   DataW.trod enc P w base spare held n f7.type ((cs.drop f7.offset).take (P.cellsOf f7.type))=some y7:=by
 obtain⟨xs,n,_,rfl,hl,A0,hf⟩:=DataW.trod_struct ht h;match xs,A0 with
 |[y0,y1,y2,y3,y4,y5,y6,y7],_=>exact⟨y0,y1,y2,y3,y4,y5,y6,y7,n,hl,by simpa using hf 0 f0 rfl,by simpa using hf 1 f1 rfl,by simpa using hf 2 f2 rfl,by simpa using hf 3 f3 rfl,by simpa using hf 4 f4 rfl,by simpa using hf 5 f5 rfl,by simpa using hf 6 f6 rfl,by simpa using hf 7 f7 rfl⟩
theorem b8T{H:Type}{enc:TypeId×Value→H}{hd:Bool}{y:DataW H×List MemPlace}(h:DataW.trod enc prog W base sp hd fuel 5 [v]=some y): ∃n:Nat,n<256∧v=.int .u8 n:=by
 obtain⟨n,e,_,hw⟩:=DataW.trod_int underlying5 h;simp only[List.cons.injEq,and_true]at e;obtain⟨b0,b1⟩:=bounds_u8 hw;exact⟨n.toNat,by omega,by rw[e,Int.toNat_of_nonneg b0]⟩
theorem b3U{H:Type}{enc:TypeId×Value→H}{hd:Bool}{y:DataW H×List MemPlace}(h:DataW.trod enc prog W base sp hd fuel 3 [v]=some y): ∃n,v=iV n∧ -9223372036854775808≤n∧n≤9223372036854775807:=by
 obtain⟨n,e,_,hw⟩:=DataW.trod_int underlying3 h;simp only[List.cons.injEq,and_true]at e;exact⟨n,e,(bounds_i64 hw).1,(bounds_i64 hw).2⟩
def c4P(d:Sto.Do):Prop:=(-9223372036854775808≤d.n∧d.n≤9223372036854775807)∧ -9223372036854775808≤d.seg∧d.seg≤9223372036854775807
theorem c6Q{H:Type}{enc:TypeId×Value→H}{y:DataW H×List MemPlace}(hf:DataW.trod enc prog W 0 (fun _=>true) true fuel 24 [v]=some y): ∃l,Dos W v l∧ ∀d,d∈l→c4P d:=by
 have ce:prog.cellsOf 49=9:=by kernel_rfl
 rcases Deep.open_slice underlying24 hf with⟨A1,_⟩|⟨a,A8,Ae,m,n,D,Pl,A1,_,hl,hm,A7,_,hx⟩
 ·simp only[List.cons.injEq,and_true]at A1;subst A1;exact⟨[],⟨none,0,rfl,c9C _,c9D _,fun i e he=>(by cases he)⟩,fun d hd=>(by cases hd)⟩
 ·simp only[List.cons.injEq,and_true]at A1;subst A1;simp only[if_true]at A7;subst A7;have A3: ∀i,i<m→ ∃q:Sto.Do×Value×ByteArray,c4P q.1∧tM W q.1 q.2.1 q.2.2∧ ∀j u,(dX q.1 q.2.1 q.2.2)[j]?=some u→W.cell? (a.add (i*9+j))=some u:=by
   intro i hi;obtain⟨Ad,h1,h2⟩:=hx i hi;rw[ce]at h1;obtain⟨_,A5,A2⟩:=World.cells?_some h1;obtain⟨y0,y1,y2,y3,y4,y5,y6,y7,k,_,g0,g1,g2,g3,g4,g5,g6,g7⟩:=a5K underlying49 h2;obtain⟨v0,v1,v2,v3,v4,v5,v6,v7,v8,rfl⟩:=c8L A5;have c3:prog.cellsOf 3=1:=by kernel_rfl
   have c4:prog.cellsOf 5=1:=by kernel_rfl
   have c5:prog.cellsOf 47=2:=by kernel_rfl
   have c6:prog.cellsOf 40=1:=by kernel_rfl
   have c9:prog.cellsOf 9=1:=by kernel_rfl
   simp[c3,c4,c5,c9]at g0 g1 g2 g3 g4 g5 g6 g7;obtain⟨z0,z1,k',_,_,A9,A6⟩:=trod_struct2 underlying47 g5;simp[c3,c6]at A9 A6;obtain⟨k0,rfl⟩:=nB g0;obtain⟨k1,rfl,r1⟩:=b3U g1;obtain⟨k2,rfl,r2⟩:=b3U g2;obtain⟨k3,rfl⟩:=nB g3;obtain⟨k4,Ac,rfl⟩:=b8T g4;obtain⟨k5,rfl⟩:=nB A9;obtain⟨es,Ab⟩:=c6T A6;obtain⟨t,rfl,ht⟩:=c2W g6;obtain⟨k8,rfl⟩:=nB g7;refine⟨(⟨k0,k1,k2,k3,k4,⟨k5,es⟩,nb t,k8⟩,v6,t),⟨r1,r2⟩,⟨Ab,rfl,ht,Ac⟩,fun j u hj=>?_⟩;have Aa:=(c9H.1 hj).1;have:=A2 j (by simpa [dX]using Aa);rw[Deep.add_add]at this;exact this.trans hj
  obtain⟨q,hq⟩:=b0M (α:=Sto.Do×Value×ByteArray) (do0,.bool false,ByteArray.empty) A3;refine⟨(List.range A8).map fun i=>(q i).1,⟨some a,m,by simp,by simpa using hl,hm,fun i e he=>?_⟩,fun d hd=>?_⟩;rotate_left
  ·obtain⟨i,hi,rfl⟩:=d0G.1 hd;have hi:=d0D.1 hi;exact(hq i (by omega)).1
  have hi:i<A8:=by
   have:=(c9H.1 he).1;simpa using this
  simp[hi]at he;subst he;obtain⟨b,o,A4⟩:=a;have A0:A4=none:=by simpa [Addr.add]using World.cell?_spot ((hq 0 (by omega)).2.2 0 _ rfl)
  subst A0;obtain⟨_,z0,z1⟩:=hq i (by omega);refine⟨b,o,rfl,(q i).2.1,(q i).2.2,z0,fun j u hj=>?_⟩;have:=z1 j u hj;rw[WideShapes.add_plain]at this;rw[Nat.add_assoc];exact this
theorem c6W{H:Type}{enc:TypeId×Value→H}{a:Option Addr}{d:DataW H}{ps:List MemPlace}(h:DataW.Trod enc prog W 0 (fun _=>true) true 24 (.slice a len cap) d ps): ∃l,Dos W (.slice a len cap) l∧ ∀d,d∈l→c4P d:=by
 obtain⟨fuel,hf⟩:=h;exact c6Q (fuel:=fuel) (y:=(d,ps)) (by simpa [Value.cells]using hf)
theorem Tryz.cellsSetup:Tryz.prog.cellsOf 23=3:=by kernel_rfl
theorem c1C{H:Type}{enc:TypeId×Value→H}{r:Reach}{d:DataW H}{ps:List MemPlace}(hv:Value.okWide prog W r b0 23 v)(h:DataW.Trod enc prog W 0 (fun _=>true) true 23 v d ps):
  ∃x y z,v=.agg #[iV x,iV y,iV z]:=by
 obtain⟨v0,v1,v2,y0,y1,y2,m,rfl,_,_,t0,t1,t2⟩:=Joins.open_agg3 underlying23 (by kernel_rfl) Tryz.cellsSetup hv h;obtain⟨s,rfl⟩:=nB t0;obtain⟨k,rfl⟩:=nB t1;obtain⟨n,rfl⟩:=nB t2;exact⟨s,k,n,rfl⟩
structure b9I(w3 wx:World)(c:Sto.Cfg)(R D:Nat):Prop where
 var:aW wx R 45 (jZ c D (c.d+c.s) 0 nS nS 0 nS)
 row:aY wx D 58 ((c.d+c.s)*2) (dkF (fun _=>nS) (List.replicate (c.d+c.s) ⟨false,[]⟩))
 geR:w3.heap.size≤R
 geD:w3.heap.size≤D
 bel:Bl w3 wx
theorem c5F(w3:World)(c:Sto.Cfg):b9I w3 ((w3.alloc (.cells (madeCells #[.bool false,nS] ((c.d+c.s)*2)) 58)).alloc (.cells #[iV c.d,iV c.s,iV c.b,.slice (some (aD w3.heap.size 0)) (c.d+c.s) (c.d+c.s),iV 0,nS,nS,iV 0,nS] 45)).drew c (w3.heap.size+1) w3.heap.size:=by
 have b1:=aB8 w3 (.cells (madeCells #[.bool false,nS] ((c.d+c.s)*2)) 58);have b2:=(aB8 (w3.alloc (.cells (madeCells #[.bool false,nS] ((c.d+c.s)*2)) 58)) (.cells #[iV c.d,iV c.s,iV c.b,.slice (some (aD w3.heap.size 0)) (c.d+c.s) (c.d+c.s),iV 0,nS,nS,iV 0,nS] 45)).drew;have V:=aC (w3.alloc (.cells (madeCells #[.bool false,nS] ((c.d+c.s)*2)) 58)) #[iV c.d,iV c.s,iV c.b,.slice (some (aD w3.heap.size 0)) (c.d+c.s) (c.d+c.s),iV 0,nS,nS,iV 0,nS] 45;rw[show(w3.alloc (.cells (madeCells #[.bool false,nS] ((c.d+c.s)*2)) 58)).heap.size=w3.heap.size+1 by simp]at V;exact⟨V,(pX (c.d+c.s) w3).below b2,c9O _,c9C _,bt b1 b2⟩
theorem c6D(w3:World)(c:Sto.Cfg):b9I w3 ((w3.alloc (.cells #[iV c.d,iV c.s,iV c.b,.slice (some (aD (w3.heap.size+1) 0)) (c.d+c.s) (c.d+c.s),iV 0,nS,nS,iV 0,nS] 45)).alloc (.cells (madeCells #[.bool false,nS] ((c.d+c.s)*2)) 58)).drew c w3.heap.size (w3.heap.size+1):=by
 have b1:=aB8 w3 (.cells #[iV c.d,iV c.s,iV c.b,.slice (some (aD (w3.heap.size+1) 0)) (c.d+c.s) (c.d+c.s),iV 0,nS,nS,iV 0,nS] 45);have b2:=(aB8 (w3.alloc (.cells #[iV c.d,iV c.s,iV c.b,.slice (some (aD (w3.heap.size+1) 0)) (c.d+c.s) (c.d+c.s),iV 0,nS,nS,iV 0,nS] 45)) (.cells (madeCells #[.bool false,nS] ((c.d+c.s)*2)) 58)).drew;have V:=(aC w3 #[iV c.d,iV c.s,iV c.b,.slice (some (aD (w3.heap.size+1) 0)) (c.d+c.s) (c.d+c.s),iV 0,nS,nS,iV 0,nS] 45).below b2;have r:=pX (c.d+c.s) (w3.alloc (.cells #[iV c.d,iV c.s,iV c.b,.slice (some (aD (w3.heap.size+1) 0)) (c.d+c.s) (c.d+c.s),iV 0,nS,nS,iV 0,nS] 45));rw[show(w3.alloc (.cells #[iV c.d,iV c.s,iV c.b,.slice (some (aD (w3.heap.size+1) 0)) (c.d+c.s) (c.d+c.s),iV 0,nS,nS,iV 0,nS] 45)).heap.size=w3.heap.size+1 by simp]at r;exact⟨V,r,c9C _,c9O _,bt b1 b2⟩
def b2Y(e:Ending)(w w':World)(X:Sto.Six)(c:Sto.Cfg)(l:List Sto.Do):Prop:= ∃N R F E D V U vt vs va tc vr qs,e=.returned (.tuple #[.agg (jZ c D (Sto.aX X c (Sto.start c) l).1.disks.length (Sto.aX X c (Sto.start c) l).1.segs vt vs (Sto.aX X c (Sto.start c) l).1.u va).toArray,vr,iV 0])∧StP w' N R F E c (Sto.aX X c (Sto.start c) l).1 D V U vt vs va tc∧gG w' N F vr qs (Sto.aX X c (Sto.start c) l).2∧Bl w w'∧N=w.heap.size∧ ∀k,E k→w.heap.size≤k
structure a2T(w wr:World)(X:Sto.Six)(c:Sto.Cfg)(l:List Sto.Do)(R:Nat)(vr:Value)(k:Nat)(F E:Nat→Prop)(D:Nat)(V:Nat→Value)(U:Nat→List HeC)(vt vs va:Value)(tc:List (Int×Sl))(qs:List AnC):Prop where
 st:StP wr w.heap.size R F E c (Sto.aX X c (Sto.start c) (l.take k)).1 D V U vt vs va tc
 ans:gG wr w.heap.size (fun k=>F k∨k=w.heap.size+1) vr qs (Sto.aX X c (Sto.start c) (l.take k)).2
 bel:Bl w wr
 sep: ∀g,vr.ownBlock=some g→ ¬F g∧ ¬E g
 res:aW wr (w.heap.size+1) 32 #[iV 0,iV 0,iV 0,nS,iV 0,nS,nS,iV 0,nS].toList
 noF: ¬F (w.heap.size+1)
 noE: ¬E (w.heap.size+1)
 geE: ∀k,E k→w.heap.size≤k
def b3B(w wr:World)(X:Sto.Six)(c:Sto.Cfg)(l:List Sto.Do)(R:Nat)(vr:Value)(k:Nat):Prop:= ∃F E D V U vt vs va tc qs,a2T w wr X c l R vr k F E D V U vt vs va tc qs
theorem b6T{c:Sto.Cfg}{l:List Sto.Do}(h:l[k]?=some d):(Sto.aX X c s (l.take (k+1))).2=(Sto.aX X c s (l.take k)).2++[(Sto.step X c (Sto.aX X c s (l.take k)).1 d).2]:=by
 rw[d1Y,h,Sto.nG];rfl
section
variable {w wr w5 w6 w7 : World} {X : Sto.Six} {c : Sto.Cfg} {l : List Sto.Do} {R k D : Nat} {vr v7 : Value} {F E F' E' : Nat → Prop} {V : Nat → Value} {U : Nat → List HeC} {vt vs va : Value} {tc : List (Int × Sl)} {qs : List AnC} {d : Sto.Do} {q : AnC}
theorem a2T.next(h:a2T w wr X c l R vr k F E D V U vt vs va tc qs)(hd:l[k]?=some d)(b5:Bl wr w5)(hS6:uP w6 w.heap.size R F' E' c (Sto.step X c (Sto.aX X c (Sto.start c) (l.take k)).1 d).1)(hF6:dS w5 w6 F F' E E')
  (ho:Off (fun g=>vr.ownBlock=some g) w6 w7) (hat:v7.ownBlock=vr.ownBlock∨ ∀g,v7.ownBlock=some g→w6.heap.size≤g) (hA7:gG w7 w.heap.size (fun k=>F' k∨k=w.heap.size+1) v7 (qs++[q]) ((Sto.aX X c (Sto.start c) (l.take k)).2++[(Sto.step X c (Sto.aX X c (Sto.start c) (l.take k)).1 d).2])):b3B w w7 X c l R v7 (k+1):=by
 have A1: ∀g,vr.ownBlock=some g→w.heap.size≤g∧g<w5.heap.size:=fun g hg=>⟨(h.ans.own.lt g hg).1,c9P (h.ans.own.lt g hg).2 b5.size⟩;have A2: ∀g,vr.ownBlock=some g→ ¬F' g∧ ¬E' g:=fun g hg=>by
  have h1:=A1 g hg;refine⟨fun z=>?_,fun z=>?_⟩
  ·rcases hF6.growF g z with y|y
   ·exact(h.sep g hg).1 y
   ·omega
  ·rcases hF6.growE g z with y|y
   ·exact(h.sep g hg).2 y
   ·omega
 obtain⟨D',V',U',A3,A5,A4,A8,A7⟩:=hS6.out ho A2;have e1:=Sto.rP (X:=X) (c:=c) (s:=Sto.start c) hd;have e2:=b6T (X:=X) (c:=c) (s:=Sto.start c) hd;have A0:=h.res.below b5;have A9:=aY.lt A0;have A6:=A0.off hF6.off h.noF;refine⟨F',E',D',V',U',A3,A5,A4,A8,qs++[q],by rw[e1];exact A7,by rw[e2];exact hA7,?_,fun g hg=>?_,A6.off ho fun z=>?_,fun z=>?_,fun z=>?_,fun k z=>?_⟩
 ·have b6:=(bt h.bel b5).trans (hF6.off.below (c9E h.bel.size b5.size) fun k z=>(h.st.lt k z).1);exact b6.trans (ho.below b6.size fun k z=>(A1 k z).1)
 ·rcases hat with z|z
  ·rw[z]at hg;exact A2 g hg
  ·have h1:=z g hg;exact⟨fun y=>absurd (hS6.lt (Or.inl y)) (Nat.not_lt.2 h1),fun y=>absurd (hS6.lt (Or.inr y)) (Nat.not_lt.2 h1)⟩
 ·have hO:=aU (aK h.ans.own b5) z;exact hO.ne A0.ty (by decide) rfl
 ·rcases hF6.growF _ z with y|y
  ·exact h.noF y
  ·omega
 ·rcases hF6.growE _ z with y|y
  ·exact h.noE y
  ·omega
 ·rcases hF6.growE _ z with y|y
  ·exact h.geE k y
  ·exact c9E (c9E h.bel.size b5.size) y
theorem dS.plus(h:dS wr w6 F F' E E')(B:Nat):dS wr w6 (fun k=>F k∨k=B) (fun k=>F' k∨k=B) E E':=
 ⟨h.off.wider fun _ z=>Or.inl z,fun k z=>by
  rcases z with z|z
  ·exact(h.growF k z).imp Or.inl id
  ·exact Or.inl (Or.inr z),h.growE⟩
theorem a2T.sepB(h:a2T w wr X c l R vr k F E D V U vt vs va tc qs)(hg:vr.ownBlock=some g):g≠w.heap.size+1:=(aU h.ans.own hg).ne h.res.ty (by decide)
theorem fC(w:World)(B:Nat)(a b c d e f g h i:Value):Off (fun k=>k=B) w (((((((((w.setCell (aD B 0) a).setCell (aD B 1) b).setCell (aD B 2) c).setCell (aD B 3) d).setCell (aD B 4) e).setCell (aD B 5) f).setCell (aD B 6) g).setCell (aD B 7) h).setCell (aD B 8) i):=
 ((((aT w B a b c d e).set (p:=⟨B,5,none⟩) rfl f).set (p:=⟨B,6,none⟩) rfl g).set (p:=⟨B,7,none⟩) rfl h).set (p:=⟨B,8,none⟩) rfl i
end
theorem c4W(hX:Sto.dE X)(c:Sto.Cfg)(h1:1≤c.d)(h2:c.d≤8)(h3:c.s≤4)(h4:1≤c.b)(h5:c.b≤10)(v:Value)(l:List Sto.Do)(w:World)(hD:Dos w v l)(hl:l.length≤80):
  Calls prog 4 #[.agg #[iV c.d,iV c.s,iV c.b],v] w fun e w'=>b2Y e w w' X c l:=by
 obtain⟨A,C,rfl,Bu,Ay,B1⟩:=hD;have Ap:cM c.d c.s (c.b:Int)=0:=by
  unfold cM;rw[cN (by omega),if_neg (fun z=>z rfl),if_neg (by omega)]
 have b2:Bl w ((w.alloc (.cells #[iV c.d,iV c.s,iV c.b] 23)).alloc (.cells #[iV 0,iV 0,iV 0,nS,iV 0,nS,nS,iV 0,nS] 32)):=(aB8 _ _).alloc (aB8 _ _).size _;have bB:Bl (w.alloc (.cells #[iV c.d,iV c.s,iV c.b] 23)) ((w.alloc (.cells #[iV c.d,iV c.s,iV c.b] 23)).alloc (.cells #[iV 0,iV 0,iV 0,nS,iV 0,nS,nS,iV 0,nS] 32)):=(Below.refl _ _).alloc (c9C _) _;have VS:=(aC w #[iV c.d,iV c.s,iV c.b] 23).below bB;have VT:=aC (w.alloc (.cells #[iV c.d,iV c.s,iV c.b] 23)) #[iV 0,iV 0,iV 0,nS,iV 0,nS,nS,iV 0,nS] 32;rw[show(w.alloc (.cells #[iV c.d,iV c.s,iV c.b] 23)).heap.size=w.heap.size+1 by simp]at VT;have HW:=iJ c.d c.s c.b ((w.alloc (.cells #[iV c.d,iV c.s,iV c.b] 23)).alloc (.cells #[iV 0,iV 0,iV 0,nS,iV 0,nS,nS,iV 0,nS] 32));rw[Ap]at HW;have B2:Hid (∀i d,l[i]?=some d→ ∃b o,A=some (aD b o)∧b7O w b (o+i*9) d):=B1
 have HX:Hid (Sto.dE X):=hX;clear Ap B1 hX bB;go_enter func4,ntmps4
 go_upto_region 1 with fail
 generalize (w.alloc (.cells #[iV c.d,iV c.s,iV c.b] 23)).alloc (.cells #[iV 0,iV 0,iV 0,nS,iV 0,nS,nS,iV 0,nS] 32)=w2 at*;have s0:=VS.q0;have s1:=VS.q1;have s2:=VS.q2;have Bv: ¬(80:Int)<(l.length:Int):=by omega
 go_wp2_with fail;refine HW.mono ?_;rintro e w3 ⟨rfl,b3⟩;have A0:=VS.below b3;have Af:=VT.below b3;have Ah:=bt b2 b3;clear HW s0 s1 s2;have s0:w3.cell? (aD w.heap.size 0)=some (iV c.d):=A0.q0;have s1:w3.cell? (aD w.heap.size 1)=some (iV c.s):=A0.q1;have s2:w3.cell? (aD w.heap.size 2)=some (iV c.b):=A0.q2;have Bp: ∀w',(Instr.makeSlice 25 (iV ((c.d:Int)+(c.s:Int))) (iV ((c.d:Int)+(c.s:Int)))).run prog w'=.ok (.slice (some (aD w'.heap.size 0)) (c.d+c.s) (c.d+c.s)) (w'.alloc (.cells (madeCells #[.bool false,nS] ((c.d+c.s)*2)) 58)):=fun w'=>zY (c.d+c.s) (by omega) w';have Bi:IntKind.i64.wrap ((c.d:Int)+(c.s:Int))=(c.d:Int)+(c.s:Int):=by rw[IntKind.wrap_i64];omega
 have Ag:wrap64 ((c.d:Int)+(c.s:Int))=(c.d:Int)+(c.s:Int):=by unfold wrap64;omega
 have bR:Bl w3 (w3.alloc (.cells #[iV 0,iV 0,iV 0,nS,iV 0,nS,nS,iV 0,nS] 45)).drew:=(aB8 _ _).drew;have r0:(w3.alloc (.cells #[iV 0,iV 0,iV 0,nS,iV 0,nS,nS,iV 0,nS] 45)).drew.cell? (aD w.heap.size 0)=some (iV c.d):=(A0.below bR).q0;have r1:(w3.alloc (.cells #[iV 0,iV 0,iV 0,nS,iV 0,nS,nS,iV 0,nS] 45)).drew.cell? (aD w.heap.size 1)=some (iV c.s):=(A0.below bR).q1;have r2:(w3.alloc (.cells #[iV 0,iV 0,iV 0,nS,iV 0,nS,nS,iV 0,nS] 45)).drew.cell? (aD w.heap.size 2)=some (iV c.b):=(A0.below bR).q2;have Ab:Bl w3 (w3.alloc (.cells (madeCells #[.bool false,nS] ((c.d+c.s)*2)) 58)).drew:=(aB8 _ _).drew;have Bc:(w3.alloc (.cells (madeCells #[.bool false,nS] ((c.d+c.s)*2)) 58)).drew.cell? (aD w.heap.size 0)=some (iV c.d):=(A0.below Ab).q0;have Bb:(w3.alloc (.cells (madeCells #[.bool false,nS] ((c.d+c.s)*2)) 58)).drew.cell? (aD w.heap.size 1)=some (iV c.s):=(A0.below Ab).q1;have Bo:(w3.alloc (.cells (madeCells #[.bool false,nS] ((c.d+c.s)*2)) 58)).drew.cell? (aD w.heap.size 2)=some (iV c.b):=(A0.below Ab).q2;have Ac:Bl w3 ((w3.alloc (.cells #[iV 0,iV 0,iV 0,nS,iV 0,nS,nS,iV 0,nS] 45)).alloc (.cells (madeCells #[.bool false,nS] ((c.d+c.s)*2)) 58)).drew:=((aB8 _ _).alloc ((Below.refl w3.heap.size w3).alloc (c9C _) _).size _).drew;have B7:((w3.alloc (.cells #[iV 0,iV 0,iV 0,nS,iV 0,nS,nS,iV 0,nS] 45)).alloc (.cells (madeCells #[.bool false,nS] ((c.d+c.s)*2)) 58)).drew.cell? (aD w.heap.size 0)=some (iV c.d):=(A0.below Ac).q0;have Bs:((w3.alloc (.cells #[iV 0,iV 0,iV 0,nS,iV 0,nS,nS,iV 0,nS] 45)).alloc (.cells (madeCells #[.bool false,nS] ((c.d+c.s)*2)) 58)).drew.cell? (aD w.heap.size 1)=some (iV c.s):=(A0.below Ac).q1;have B9:((w3.alloc (.cells #[iV 0,iV 0,iV 0,nS,iV 0,nS,nS,iV 0,nS] 45)).alloc (.cells (madeCells #[.bool false,nS] ((c.d+c.s)*2)) 58)).drew.cell? (aD w.heap.size 2)=some (iV c.b):=(A0.below Ac).q2;have A8:Bl w3 ((w3.alloc (.cells (madeCells #[.bool false,nS] ((c.d+c.s)*2)) 58)).alloc (.cells #[iV 0,iV 0,iV 0,nS,iV 0,nS,nS,iV 0,nS] 45)).drew:=((aB8 _ _).alloc ((Below.refl w3.heap.size w3).alloc (c9C _) _).size _).drew;have B3:((w3.alloc (.cells (madeCells #[.bool false,nS] ((c.d+c.s)*2)) 58)).alloc (.cells #[iV 0,iV 0,iV 0,nS,iV 0,nS,nS,iV 0,nS] 45)).drew.cell? (aD w.heap.size 0)=some (iV c.d):=(A0.below A8).q0;have B5:((w3.alloc (.cells (madeCells #[.bool false,nS] ((c.d+c.s)*2)) 58)).alloc (.cells #[iV 0,iV 0,iV 0,nS,iV 0,nS,nS,iV 0,nS] 45)).drew.cell? (aD w.heap.size 1)=some (iV c.s):=(A0.below A8).q1;have B6:((w3.alloc (.cells (madeCells #[.bool false,nS] ((c.d+c.s)*2)) 58)).alloc (.cells #[iV 0,iV 0,iV 0,nS,iV 0,nS,nS,iV 0,nS] 45)).drew.cell? (aD w.heap.size 2)=some (iV c.b):=(A0.below A8).q2;go_upto_region 6 with fail
 go_cut [8]from 22 to 31 (fun p8 wx=> ∃R D,p8=.pointer (some (aD R 0))∧b9I w3 wx c R D)
 case first=>
  go_region
  all_goals go_wp2_with fail
  all_goals go_meet
  ·exact⟨_,_,rfl,c5F w3 c⟩
  ·exact⟨_,_,rfl,c6D w3 c⟩
 case rest=>
  obtain⟨R,D,rfl,hN⟩:=hcut;obtain⟨w4,Aw⟩: ∃y,y=wc:=⟨wc,rfl⟩;rw[←Aw]at hN⊢;have Al:=Ah.size;have Be:w.heap.size+1<w3.heap.size:=aY.lt Af;have Ar:=c0I h1 h2 h3 h4 h5 (c9E Al hN.geR) (c9E Al hN.geD) hN.var hN.row
  have H0:b3B w w4 X c l R nS 0:=⟨_,_,_,_,_,_,_,_,_,[],Ar,⟨World.ownsRow_nil _ _ _ _,rfl,fun i q a hq=>(by cases hq)⟩,bt Ah hN.bel,fun g hg=>(by cases hg),Af.below hN.bel,fun z=>by
   have h1:=hN.geR;have h2:=hN.geD
   omega,fun z=>z,fun k z=>z.elim⟩
  have Bx:=mL8 Ay;clear Aw hN Ar A0 Af Ah s0 s1 s2 Bp Bi Ag VS VT b2 b3 Al Be r0 r1 r2 bR Ab Ac A8 Bc Bb Bo B7 Bs B9 B3 B5 B6 h1 h2 h3 h4 h5 Ay;obtain⟨n,hn⟩: ∃n,n=l.length:=⟨_,rfl⟩;have HN:Hid (n=l.length):=hn;go_wp2_with fail;go_loopw [9,33] (fun y x wr=> ∃k:Nat,k≤l.length∧x=iV k∧b3B w wr X c l R y k) (fun _ x _=>l.length-(intOf x).toNat)
  case atStart=>exact⟨0,c9D _,rfl,H0⟩
  case round=>
   obtain⟨k,hk,rfl,F,E,D',V,U,vt,vs,va,tc,qs,hP⟩:=hrel;by_cases B8:k<l.length
   ·have B4:(k:Int)<(l.length:Int):=by omega
    obtain⟨d,hd⟩: ∃d,l[k]?=some d:=⟨l[k],c9F B8⟩;obtain⟨b,o,rfl,ve,t,A3,A1⟩:=B2.out k d hd;obtain⟨Ad,Cd,rfl⟩:=A3.evs.shape;have hb:=hP.bel;have g0:wr.cell? (aD b (o+k*9))=some (iV d.kind):=cB8 hb (A1 0 _ rfl);have g1:wr.cell? (aD b (o+k*9+1))=some (iV d.n):=cB8 hb (A1 1 _ rfl);have g2:wr.cell? (aD b (o+k*9+2))=some (iV d.seg):=cB8 hb (A1 2 _ rfl);have g3:wr.cell? (aD b (o+k*9+3))=some (iV d.pos):=cB8 hb (A1 3 _ rfl);have g4:wr.cell? (aD b (o+k*9+4))=some (.int .u8 d.turn):=cB8 hb (A1 4 _ rfl);have g5:wr.cell? (aD b (o+k*9+5))=some (iV d.bat.cmd):=cB8 hb (A1 5 _ rfl);have g6:wr.cell? (aD b (o+k*9+6))=some (.slice Ad d.bat.evs.length Cd):=cB8 hb (A1 6 _ rfl);have g7:wr.cell? (aD b (o+k*9+7))=some (.string t):=cB8 hb (A1 7 _ rfl);have g8:wr.cell? (aD b (o+k*9+8))=some (iV d.ver):=cB8 hb (A1 8 _ rfl);have b5:Bl wr (wr.alloc (.cells #[iV d.kind,iV d.n,iV d.seg,iV d.pos,.int .u8 d.turn,iV d.bat.cmd,.slice Ad d.bat.evs.length Cd,.string t,iV d.ver] 49)):=(Below.refl _ _).alloc (c9C _) _;have HC:=c7J HX.out (wr.alloc (.cells #[iV d.kind,iV d.n,iV d.seg,iV d.pos,.int .u8 d.turn,iV d.bat.cmd,.slice Ad d.bat.evs.length Cd,.string t,iV d.ver] 49)) (hP.st.below b5) d (.slice Ad d.bat.evs.length Cd) t (A3.below (bt hb b5)) (c9E hb.size b5.size);have HC:Calls prog 10 #[.pointer (some (aD R 0)),.agg #[iV d.kind,iV d.n,iV d.seg,iV d.pos,.int .u8 d.turn,iV d.bat.cmd,.slice Ad d.bat.evs.length Cd,.string t,iV d.ver]] (wr.alloc (.cells #[iV d.kind,iV d.n,iV d.seg,iV d.pos,.int .u8 d.turn,iV d.bat.cmd,.slice Ad d.bat.evs.length Cd,.string t,iV d.ver] 49)) fun e w'=>DoO e (wr.alloc (.cells #[iV d.kind,iV d.n,iV d.seg,iV d.pos,.int .u8 d.turn,iV d.bat.cmd,.slice Ad d.bat.evs.length Cd,.string t,iV d.ver] 49)) w' w.heap.size R F E c (Sto.step X c (Sto.aX X c (Sto.start c) (l.take k)).1 d):=HC;have Bf:Hid (a2T w wr X c l R u9 k F E D' V U vt vs va tc qs):=hP;have HD:Hid (l[k]?=some d):=hd;clear hP hd A3 A1 hb;go_wp2_with fail;refine HC.mono ?_;rintro e6 w6 ⟨v6,F',E',rfl,A9,A4,Bw,Bt,rfl,A7,A5⟩;have hP:=Bf.out;have Au:=(hP.ans.below b5).step (A4.plus (w.heap.size+1)) (fun g hg z=>z.elim (hP.sep g hg).1 (hP.sepB hg));have B0: ∀g,u9.ownBlock=some g→g<(wr.alloc (.cells #[iV d.kind,iV d.n,iV d.seg,iV d.pos,.int .u8 d.turn,iV d.bat.cmd,.slice Ad d.bat.evs.length Cd,.string t,iV d.ver] 49)).heap.size:=fun g hg=>c9P (hP.ans.own.lt g hg).2 b5.size;obtain⟨Ae,Ce,Bq⟩:=A7.1.shape;obtain⟨Aa,Ca,Bn⟩:=A5.1.shape;subst Bq;subst Bn;obtain⟨a,Am⟩: ∃a,a=(Sto.step X c (Sto.aX X c (Sto.start c) (l.take k)).1 d).2:=⟨_,rfl⟩;have Bh:w.heap.size+1<(wr.alloc (.cells #[iV d.kind,iV d.n,iV d.seg,iV d.pos,.int .u8 d.turn,iV d.bat.cmd,.slice Ad d.bat.evs.length Cd,.string t,iV d.ver] 49)).heap.size:=aY.lt (hP.res.below b5)
    have An: ∀g,E' g→ ¬(F' g∨g=w.heap.size+1)∧g<w6.heap.size∧u9.ownBlock≠some g∧w.heap.size≤g:=fun g hg=>⟨fun z=>z.elim (A9.dis hg).1 fun z=>by
     rcases A4.growE g hg with y|y
     ·exact hP.noE (z▸y)
     ·omega,(A9.dis hg).2,fun z=>by
     rcases A4.growE g hg with y|y
     ·exact(hP.sep g z).2 y
     ·have:=B0 g z;omega,by
     rcases A4.growE g hg with y|y
     ·exact hP.geE g y
     ·exact c9E (c9E hP.bel.size b5.size) y⟩
    have Ax:qs.length≤1000:=by
     have h1:=hP.ans.len;rw[Sto.nE,c9K]at h1;omega
    have Az:w.heap.size≤w6.heap.size:=c9E (c9E hP.bel.size b5.size) A4.off.size;rw[←Am]at A7 A5⊢;have Ao:qE w6 (fun k=> ¬(F' k∨k=w.heap.size+1)∧k<w6.heap.size∧u9.ownBlock≠some k∧w.heap.size≤k) (.agg (dA (a.err,a.n,(Ae,a.evs.length,Ce),a.vu,(Aa,a.vl.length,Ca))).toArray) a:=⟨.slice Ae a.evs.length Ce,.slice Aa a.vl.length Ca,rfl,⟨A7.1,fun g hg hl=>An g (A7.2 g hg hl)⟩,⟨A5.1,fun g hg hl=>An g (A5.2 g hg hl)⟩⟩;obtain⟨v7,w7,A2,Aq,Av,A6⟩:=c5B w6 w.heap.size (fun k=>F' k∨k=w.heap.size+1) u9 qs _ Au Az (a.err,a.n,(Ae,a.evs.length,Ce),a.vu,(Aa,a.vl.length,Ca)) a Ao Ax;have Bg:b3B w w7 X c l R v7 (k+1):=hP.next HD.out b5 A9 A4 Av A6 (by rw[←Am];exact Aq);obtain⟨ae,Ak⟩: ∃x,x=a.evs.length:=⟨_,rfl⟩;obtain⟨aa,Ai⟩: ∃x,x=a.vl.length:=⟨_,rfl⟩;have A2:(Builtin.append_ #[33,33] 33 #[u9,.slice (some (aD w6.heap.size 0)) 1 1]).run prog (w6.alloc (.cells #[iV a.err,iV a.n,.slice Ae a.evs.length Ce,iV a.vu,.slice Aa a.vl.length Ca] 42))=.ok v7 w7:=A2;rw[←Ak,←Ai]at A2;rw[←Ak,←Ai];clear HC hP Au B0 Am An Ax Az A7 A5 Ao Aq Av A6 A9 A4 Ak Ai Bh b5;go_wp2_with (at_builtin;refine Lib.wpList_append_run _ rfl _ _ _ _ rfl _ _ rfl rfl _ _ A2 ?_);exact⟨⟨k+1,by omega,by go_num,Bg⟩,by simp[intOf];omega⟩
   ·obtain rfl:k=l.length:=by omega
    have hT:=hP.res;have Bk:R≠w.heap.size+1:=fun e=>hP.noF (e▸hP.st.fR);have Ba:w.heap.size+1≠R:=fun e=>Bk e.symm;have hS:=hP.st;have hA:=hP.ans;rw[d0L]at hS hA;obtain⟨s,hs⟩: ∃s,s=(Sto.aX X c (Sto.start c) l).1:=⟨_,rfl⟩;rw[←hs]at hS;obtain⟨At,n5,Ct,rfl⟩: ∃At n Ct,vt=.slice At n Ct:=by
     rcases hS.tail.own.2 with⟨rfl,_⟩|⟨g,Bm,Bj,rfl,_⟩
     ·exact⟨_,_,_,rfl⟩
     ·exact⟨_,_,_,rfl⟩
    obtain⟨As,n6,Cs,rfl⟩: ∃At n Ct,vs=.slice At n Ct:=by
     rcases hS.seen.2 with⟨rfl,_⟩|⟨g,Bm,Bj,rfl,_⟩
     ·exact⟨_,_,_,rfl⟩
     ·exact⟨_,_,_,rfl⟩
    obtain⟨Aa,n8,Ca,rfl⟩: ∃At n Ct,va=.slice At n Ct:=by
     obtain⟨A,C,h⟩:=hS.acc.1.shape;exact⟨_,_,_,h⟩
    have b0:=hT.q0;have b1:=hT.q1;have b2:=hT.q2;have b3:=hT.q3;have b4:=hT.q4;have b5:=hT.q5;have b6:=hT.q6;have b7:=hT.q7;have b8:=hT.q8;have f0:=hT.frozen 0;have f1:=hT.frozen 1;have f2:=hT.frozen 2;have f3:=hT.frozen 3;have f4:=hT.frozen 4;have f5:=hT.frozen 5;have f6:=hT.frozen 6;have f7:=hT.frozen 7;have f8:=hT.frozen 8;have c0:=hS.var.q0;have c1:=hS.var.q1;have c2:=hS.var.q2;have c3:=hS.var.q3;have c4:=hS.var.q4;have c5:=hS.var.q5;have c6:=hS.var.q6;have c7:=hS.var.q7;have c8:=hS.var.q8;obtain⟨n3,Aj⟩: ∃n3,n3=s.disks.length:=⟨_,rfl⟩;have Br:Hid (∀w',Off (fun k=>k=w.heap.size+1) wr w'→b2Y (.returned (.tuple #[.agg #[iV c.d,iV c.s,iV c.b,.slice (some (aD D' 0)) n3 n3,iV s.segs,.slice At n5 Ct,.slice As n6 Cs,iV s.u,.slice Aa n8 Ca],u9,iV 0])) w w' X c l):=fun w' ho=>by
     have hk: ∀k,k<wr.heap.size→ ¬(F k∨k=w.heap.size+1)→w'.heap[k]?=wr.heap[k]?:=fun k hk z=>ho.block k hk fun y=>z (Or.inr y);refine⟨w.heap.size,R,F,E,D',V,U,.slice At n5 Ct,.slice As n6 Cs,.slice Aa n8 Ca,tc,u9,qs,?_,?_,⟨bC hA.own ho fun g hg e=>hP.sepB hg e,hA.len,fun i q a hq ha=>(hA.ans i q a hq ha).move (fun k hk1 z=>hk k hk1 z.1) fun k hk1 z=>⟨fun y=>z.1 (Or.inl y),c9P hk1 ho.size,z.2.2⟩⟩,hP.bel.trans (ho.below hP.bel.size fun k e=>by omega),rfl,hP.geE⟩
     ·rw[←hs,Aj];rfl
     ·rw[←hs];exact hS.out ho fun k e=>by
       rw[show k=w.heap.size+1 from e];exact⟨hP.noF,hP.noE⟩
    rw[←Aj]at c3;clear hT hP hS hA hs Aj;go_wp2_with fail;exact bodyPost_ret (by simp[results,results4,go_sem,b0,b1,b2,b3,b4,b5,b6,b7,b8]) rfl (Br.out _ (fC _ _ _ _ _ _ _ _ _ _ _))
end Go.Proofs.YtmcaejooaaahdaaGreat
