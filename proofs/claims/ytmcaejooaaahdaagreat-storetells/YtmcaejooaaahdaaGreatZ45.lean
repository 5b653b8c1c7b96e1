import Derived.Test.YtmcaejooaaahdaaGreatZ40
import Derived.Test.YtmcaejooaaahdaaGreatZ41
import Derived.Test.YtmcaejooaaahdaaGreatZ42
import Derived.Test.YtmcaejooaaahdaaGreatZ43
import Derived.Test.YtmcaejooaaahdaaGreatZ44
set_option maxHeartbeats 8000000
set_option maxRecDepth 100000
namespace Go.Proofs.YtmcaejooaaahdaaGreat
open Go.Proofs.Tryz
variable {P:Nat} {w:World}
open Go.RowKit
section
variable {X : Sto.Six} {c : Sto.Cfg} {s : Sto.St} {d : Sto.Do} {T : Nat → Bool} {w : World} {Ad At As Aa Ae : Option Addr} {nd Cd nt Ct ns Cs na Ca ne Ce : Nat} {t : ByteArray}
theorem a7M(H:SJ X c s d T w Ad nd Cd At nt Ct As ns Cs Aa na Ca Ae ne Ce t)(hk:d.kind=1):
  Calls prog 11 #[.agg #[iV c.d,iV c.s,iV c.b,.slice Ad nd Cd,iV s.segs,.slice At nt Ct,.slice As ns Cs,iV s.u,.slice Aa na Ca],.agg #[iV 1,iV d.n,iV d.seg,iV d.pos,.int .u8 d.turn,iV d.bat.cmd,.slice Ae ne Ce,.string t,iV d.ver]] w fun e w'=>dK e T w w' c (Sto.step X c s d):=by
 have HJ:=hd8 H;obtain⟨r,hr⟩: ∃r,r=Sto.step X c s d:=⟨_,rfl⟩;have Ac:=hd8 hr.symm;rw[←hr];obtain⟨w1,A9,A4⟩:=qN w #[iV c.d,iV c.s,iV c.b,.slice Ad nd Cd,iV s.segs,.slice At nt Ct,.slice As ns Cs,iV s.u,.slice Aa na Ca] #[iV 1,iV d.n,iV d.seg,iV d.pos,.int .u8 d.turn,iV d.bat.cmd,.slice Ae ne Ce,.string t,iV d.ver];have eg:=Tryz.enters_noS;clear H hr;go_enter func11,ntmps11
 go_upto_region 1 with fail
 rw[←A9];clear A9;have A0:=hd8 A4;have d0:=A4.dc.q0;clear A4
 have A2:=b2O HJ.out.x c s (.slice Ad nd Cd) (.slice At nt Ct) (.slice As ns Cs) (.slice Aa na Ca) d (.slice Ae ne Ce) t (c6E T w.heap.size) w1 (HJ.out.st0.sub (zY A0.out.bel fun k hk z=>(oF.1 z).resolve_right (by omega))) HJ.out.wf (HJ.out.do0.sub (zY A0.out.bel fun k hk z=>(oF.1 z).resolve_right (by omega))) HJ.out.pv (fun k hk=>by
  have h1:=A0.out.size;rcases oF.1 hk with z|z|z
  ·have:=HJ.out.low k z;omega
  ·omega
  ·omega)
 rw[c6V hk]at A2;have A7:Hid (r=Sto.put X c s d):=by
  show r=_;rw[←Ac.out];unfold Sto.step;rw[if_pos hk]
 obtain⟨p,hp⟩: ∃p,p=Sto.put X c s d:=⟨_,rfl⟩;rw[←hp]at A2 A7;obtain⟨a0,a1,a2,a3,a4,a5,a6,a7,a8⟩:=A0.out.st.c9;obtain⟨-,d1,d2,d3,d4,d5,d6,d7,d8⟩:=A0.out.dc.c9;clear hp;go_wp2_with fail;refine A2.mono ?_;rintro e w2 ⟨vd,vt,vs,va,ve,vl,rfl,A1,A6,A5,A8,b2⟩;obtain⟨B1,m1,K1,rfl⟩:=i9 A1.dk;obtain⟨B2,m2,K2,rfl⟩:=fZ A1.tl;obtain⟨B3,m3,K3,rfl⟩:=gY A1.sn;obtain⟨B4,m4,K4,rfl⟩:=dT A1.ac;obtain⟨B5,m5,K5,rfl⟩: ∃A n C,ve=.slice A n C:=by
  obtain⟨A,C,h⟩:=A6.sE;exact⟨A,_,C,h⟩
 obtain⟨B6,m6,K6,rfl⟩:=dT A5;have A3:=A0.out.bE b2;obtain⟨x0,x1,x2,x3,x4,x5,x6,x7,x8,p0,p1,p2,p3,p4,p5,p6,p7,p8,y0,y1,y2,y3,y4,q0,q1,q2,q3,q4⟩:=A3.res;have Ab:Hid (∀wE,Off (fun q=>q=w.heap.size+1+1∨q=w.heap.size+1+1+1) w2 wE→dK (.returned (.tuple #[stC c (.slice B1 m1 K1) p.1 (.slice B2 m2 K2) (.slice B3 m3 K3) (.slice B4 m4 K4),c4E p.2 (.slice B5 m5 K5) (.slice B6 m6 K6)])) T w wE c r):=fun wE ho=>by
  have hs:fC (aS (c6E T w.heap.size) w2) (aS T wE):=c2V ho (fun k z=>oF.2 (Or.inr z)) (fun k z=>oF.2 (Or.inl z));rw[A7.out];exact⟨_,_,_,_,_,_,rfl,A1.sub hs,A6.sub hs,A5.sub hs,A8,A3.bel.trans (ho.bE A3.bel.size fun q z=>by omega)⟩
 clear A2 A1 A6 A5 A8 b2 A3;go_wp2_with fail;exact bodyPost_ret (by simp[results,results11,go_sem,x0,x1,x2,x3,x4,x5,x6,x7,x8,y0,y1,y2,y3,y4]) rfl (Ab.out _ (yZ _ _ _ _ _ _ _ _ _ _ _ _ _ _ _ _ _))
theorem a4Y(H:SJ X c s d T w Ad nd Cd At nt Ct As ns Cs Aa na Ca Ae ne Ce t)(hk: ∀k:Int,1≤k→k≤9→d.kind≠k):
  Calls prog 11 #[.agg #[iV c.d,iV c.s,iV c.b,.slice Ad nd Cd,iV s.segs,.slice At nt Ct,.slice As ns Cs,iV s.u,.slice Aa na Ca],.agg #[iV d.kind,iV d.n,iV d.seg,iV d.pos,.int .u8 d.turn,iV d.bat.cmd,.slice Ae ne Ce,.string t,iV d.ver]] w fun e w'=>dK e T w w' c (Sto.step X c s d):=by
 have HJ:=hd8 H;obtain⟨r,hr⟩: ∃r,r=Sto.step X c s d:=⟨_,rfl⟩;have A9:=hd8 hr.symm;rw[←hr];obtain⟨w1,A6,A0⟩:=qN w #[iV c.d,iV c.s,iV c.b,.slice Ad nd Cd,iV s.segs,.slice At nt Ct,.slice As ns Cs,iV s.u,.slice Aa na Ca] #[iV d.kind,iV d.n,iV d.seg,iV d.pos,.int .u8 d.turn,iV d.bat.cmd,.slice Ae ne Ce,.string t,iV d.ver];have eg:=Tryz.enters_noS;clear H hr;go_enter func11,ntmps11
 go_upto_region 1 with fail
 rw[←A6];clear A6;have A4:=hd8 A0;have d0:=A0.dc.q0;clear A0;have hn: ∀k:Int,1≤k→k≤9→(d.kind==k)=false:=fun k h1 h2=>by
  rw[beq_eq_false_iff_ne];exact hk k h1 h2
 have h1:=hn 1 (by omega) (by omega);have h2:=hn 2 (by omega) (by omega);have h3:=hn 3 (by omega) (by omega);have h4:=hn 4 (by omega) (by omega);have h5:=hn 5 (by omega) (by omega);have h6:=hn 6 (by omega) (by omega);have h7:=hn 7 (by omega) (by omega);have h8:=hn 8 (by omega) (by omega);have h9:=hn 9 (by omega) (by omega);have A1:=A4.out;have A3:=eL w.heap.size 1 c.d c.s c.b s.segs s.u Ad nd Cd At nt Ct As ns Cs Aa na Ca _ (A1).st;have A5:=hd8 A1;have A8:Hid (r=(s,⟨1,0,[],0,[]⟩)):=by
  rw[←A9.out];exact a2I hk
 clear hn hk A1 A4;go_wp2_with fail;refine A3.mono ?_;rintro e wn ⟨rfl,bn⟩;have A2:=A5.out.bE bn;obtain⟨x0,x1,x2,x3,x4,x5,x6,x7,x8,p0,p1,p2,p3,p4,p5,p6,p7,p8,y0,y1,y2,y3,y4,q0,q1,q2,q3,q4⟩:=A2.res;have A7:=A2.bel;clear A3 A5 A2 bn;go_wp2_with fail;refine bodyPost_ret (v:=.tuple #[stA c.d c.s c.b (.slice Ad nd Cd) s.segs (.slice At nt Ct) (.slice As ns Cs) s.u (.slice Aa na Ca),.agg #[iV 1,iV 0,nS,iV 0,nS]]) (by simp[results,results11,go_sem,x0,x1,x2,x3,x4,x5,x6,x7,x8,y0,y1,y2,y3,y4]) rfl ?_;rw[A8.out];exact HJ.out.no (noB A7 (by omega) (by omega) _ _ _ _ _ _ _ _ _ _ _ _ _ _) 1 0
theorem zK(H:SJ X c s d T w Ad nd Cd At nt Ct As ns Cs Aa na Ca Ae ne Ce t)(hk:d.kind=9):
  Calls prog 11 #[.agg #[iV c.d,iV c.s,iV c.b,.slice Ad nd Cd,iV s.segs,.slice At nt Ct,.slice As ns Cs,iV s.u,.slice Aa na Ca],.agg #[iV 9,iV d.n,iV d.seg,iV d.pos,.int .u8 d.turn,iV d.bat.cmd,.slice Ae ne Ce,.string t,iV d.ver]] w fun e w'=>dK e T w w' c (Sto.step X c s d):=by
 have HJ:=hd8 H;obtain⟨r,hr⟩: ∃r,r=Sto.step X c s d:=⟨_,rfl⟩;have A8:=hd8 hr.symm;rw[←hr];obtain⟨w1,Ag,A4⟩:=qN w #[iV c.d,iV c.s,iV c.b,.slice Ad nd Cd,iV s.segs,.slice At nt Ct,.slice As ns Cs,iV s.u,.slice Aa na Ca] #[iV 9,iV d.n,iV d.seg,iV d.pos,.int .u8 d.turn,iV d.bat.cmd,.slice Ae ne Ce,.string t,iV d.ver];have eg:=Tryz.enters_noS;clear H hr;go_enter func11,ntmps11
 go_upto_region 1 with fail
 rw[←Ag];clear Ag;have Ai:=hd8 A4;have d0:=A4.dc.q0;clear A4;have An:s.segs≤40:=HJ.out.wf.segs;have A7:Hid (r=(s,⟨0,(Sto.eI X s.disks s.segs 0 0:Nat),[],0,[]⟩)):=by
  show r=_;rw[←A8.out];exact vF hk
 clear hk A8;go_wp2_with fail;go_loopw [25,26] (fun v25 v26 wr=> ∃(k m:Nat),k≤s.segs∧m≤k*12∧v26=iV k∧v25=iV m∧Hid (Sto.eI X s.disks s.segs 0 0=Sto.eI X s.disks (s.segs-k) k m)∧Hid (PJ w wr (stL c (.slice Ad nd Cd) s.segs (.slice At nt Ct) (.slice As ns Cs) s.u (.slice Aa na Ca)) (doL 9 d (.slice Ae ne Ce) t))) (fun _ x _=>s.segs-(intOf x).toNat)
 case atStart=>exact⟨0,0,c9D _,c9C _,rfl,rfl,rfl,Ai⟩
 case round=>
  obtain⟨k,m,hk,hm,rfl,rfl,HE,HP⟩:=hrel;obtain⟨a0,a1,a2,a3,a4,a5,a6,a7,a8⟩:=HP.out.st.c9;by_cases Ao:k<s.segs
  ·have Al:(k:Int)<(s.segs:Int):=by omega
   obtain⟨q,hq⟩: ∃q,s.segs-k=q+1:=⟨s.segs-k-1,by omega⟩;have A6:=rF c.d c.s c.b s.segs s.u (.slice Ad nd Cd) (.slice At nt Ct) (.slice As ns Cs) (.slice Aa na Ca) s.disks (k:Int) wr (HJ.out.st.dk.bE HP.out.bel) HJ.out.wf.n12 ⟨_,_,_,rfl⟩ ⟨_,_,_,rfl⟩ ⟨_,_,_,rfl⟩;have A0:(Sto.aI s.disks (k:Int)).length≤12:=by
    unfold Sto.aI;rw[c9M];exact HJ.out.wf.n12
   have A1:=hd8 fun v' w' hB=>a7L HJ.out.x v' _ k w' hB A0;have Ac:=c9E (pP HJ.out.x (Sto.aI s.disks (k:Int)) k) A0;have A2:Hid (Sto.eI X s.disks s.segs 0 0=Sto.eI X s.disks (s.segs-(k+1)) (k+1) (m+(X.bad (Sto.aI s.disks (k:Int)) k).length)):=by
    have e:s.segs-(k+1)=q:=by omega
    show Sto.eI X s.disks s.segs 0 0=_;rw[HE.out,hq,e,Sto.eI]
   generalize X.bad (Sto.aI s.disks (k:Int)) k=bl at A1 Ac A2;obtain⟨z,hz⟩: ∃z,z=bl.length:=⟨_,rfl⟩;rw[←hz]at Ac A2;have HZ:=hd8 hz;clear hq HE A0 hz;go_wp2_with fail;refine A6.mono ?_;rintro e w2 ⟨v2,rfl,A9,b2⟩;have A5:=A1.out v2 w2 A9;clear A6 A1 A9;go_wp2_with fail;refine A5.mono ?_;rintro e w3 ⟨v3,rfl,Ab,b3⟩;obtain⟨A3,C3,e3,_⟩:=bJ Ab;rw[←HZ.out]at e3;subst e3;have Aj:=hd8 ((HP.out.bE b2).bE b3);have Am:m+z≤(k+1)*12:=by
    rw[d0F];omega
   have Ap:(k+1)*12≤40*12:=d1J _ (by omega);clear A5 HP b2 b3 Ab a0 a1 a2 a3 a4 a5 a6 a7 a8;go_wp2_with fail;exact⟨⟨k+1,m+z,by omega,Am,by go_num,by go_num,A2,Aj⟩,by simp[intOf];omega⟩
  ·have Af:k=s.segs:=by omega
   have Aq: ¬(k:Int)<(s.segs:Int):=by omega
   have Ak:Hid (r=(s,⟨0,(m:Int),[],0,[]⟩)):=by
    show r=_;rw[A7.out,HE.out,Af,d1L];rfl
   obtain⟨x0,x1,x2,x3,x4,x5,x6,x7,x8,p0,p1,p2,p3,p4,p5,p6,p7,p8,y0,y1,y2,y3,y4,q0,q1,q2,q3,q4⟩:=HP.out.res;have Ah:=HP.out.bel;clear HP HE A7 Af;go_wp2_with fail;refine bodyPost_ret (v:=.tuple #[stA c.d c.s c.b (.slice Ad nd Cd) s.segs (.slice At nt Ct) (.slice As ns Cs) s.u (.slice Aa na Ca),.agg #[iV 0,iV m,nS,iV 0,nS]]) (by simp[results,results11,go_sem,x0,x1,x2,x3,x4,x5,x6,x7,x8,y0,y1,y2,y3,y4]) rfl ?_;rw[Ak.out];exact HJ.out.no (noB Ah (by omega) (by omega) _ _ _ _ _ _ _ _ _ _ _ _ _ _) 0 m
end
theorem a9G{X:Sto.Six}{c:Sto.Cfg}{s:Sto.St}{d:Sto.Do}{T:Nat→Bool}{Ad At As Aa Ae:Option Addr}{nd Cd nt Ct ns Cs na Ca ne Ce:Nat}{t:ByteArray}(H:SJ X c s d T w Ad nd Cd At nt Ct As ns Cs Aa na Ca Ae ne Ce t):
  Calls prog 11 #[.agg #[iV c.d,iV c.s,iV c.b,.slice Ad nd Cd,iV s.segs,.slice At nt Ct,.slice As ns Cs,iV s.u,.slice Aa na Ca],.agg #[iV d.kind,iV d.n,iV d.seg,iV d.pos,.int .u8 d.turn,iV d.bat.cmd,.slice Ae ne Ce,.string t,iV d.ver]] w fun e w'=>dK e T w w' c (Sto.step X c s d):=by
 by_cases h1:d.kind=1
 ·rw[h1];exact a7M H h1
 by_cases h2:d.kind=2
 ·rw[h2];exact a3U H h2
 by_cases h3:d.kind=3
 ·rw[h3];exact a7I H h3
 by_cases h4:d.kind=4
 ·rw[h4];exact a4A H h4
 by_cases h5:d.kind=5
 ·rw[h5];exact a4J H h5
 by_cases h6:d.kind=6
 ·rw[h6];exact a4P H h6
 by_cases h7:d.kind=7
 ·rw[h7];exact a0N H h7
 by_cases h8:d.kind=8
 ·rw[h8];exact a0J H h8
 by_cases h9:d.kind=9
 ·rw[h9];exact zK H h9
 exact a4Y H fun k q1 q2=>by omega
def c6N(e:Ending)(w w':World)(c:Sto.Cfg)(r:Sto.St×List Sto.Ans):Prop:= ∃vd vt vs va vr,e=.returned (.tuple #[.agg #[iV c.d,iV c.s,iV c.b,vd,iV r.1.segs,vt,vs,iV r.1.u,va],vr,iV 0])∧jT w' vd vt vs va r.1∧b8K w' vr r.2∧Bl w w'
def plT(P R:Nat)(v:Value):Nat→Bool:=fun k=>decide (k=P)||(decide (k=R)||decide (v.ownBlock=some k))
theorem gS{R:Nat}{v:Value}{k:Nat}:plT P R v k=true↔k=P∨k=R∨v.ownBlock=some k:=by
 unfold plT;simp
structure b0H(w3 wx:World)(c:Sto.Cfg)(R D:Nat):Prop where
 var:aV wx R 32 (j6 c D (c.d+c.s) 0 nS nS 0 nS)
 row:aZ wx D 58 ((c.d+c.s)*2) (dkF (fun _=>nS) (List.replicate (c.d+c.s) ⟨false,[]⟩))
 geR:w3.heap.size≤R
 geD:w3.heap.size≤D
 bel:Bl w3 wx
theorem c1K(w3:World)(c:Sto.Cfg):b0H w3 ((w3.alloc (.cells (madeCells #[.bool false,nS] ((c.d+c.s)*2)) 58)).alloc (.cells #[iV c.d,iV c.s,iV c.b,.slice (some (aD w3.heap.size 0)) (c.d+c.s) (c.d+c.s),iV 0,nS,nS,iV 0,nS] 32)).drew c (w3.heap.size+1) w3.heap.size:=by
 have b1:=aB8 w3 (.cells (madeCells #[.bool false,nS] ((c.d+c.s)*2)) 58);have b2:=(aB8 (w3.alloc (.cells (madeCells #[.bool false,nS] ((c.d+c.s)*2)) 58)) (.cells #[iV c.d,iV c.s,iV c.b,.slice (some (aD w3.heap.size 0)) (c.d+c.s) (c.d+c.s),iV 0,nS,nS,iV 0,nS] 32)).drew;have V:=aC (w3.alloc (.cells (madeCells #[.bool false,nS] ((c.d+c.s)*2)) 58)) #[iV c.d,iV c.s,iV c.b,.slice (some (aD w3.heap.size 0)) (c.d+c.s) (c.d+c.s),iV 0,nS,nS,iV 0,nS] 32;rw[show(w3.alloc (.cells (madeCells #[.bool false,nS] ((c.d+c.s)*2)) 58)).heap.size=w3.heap.size+1 by simp]at V;exact⟨V,(pM (c.d+c.s) w3).bE b2,c9O _,c9C _,bt b1 b2⟩
theorem c0E(w3:World)(c:Sto.Cfg):b0H w3 ((w3.alloc (.cells #[iV c.d,iV c.s,iV c.b,.slice (some (aD (w3.heap.size+1) 0)) (c.d+c.s) (c.d+c.s),iV 0,nS,nS,iV 0,nS] 32)).alloc (.cells (madeCells #[.bool false,nS] ((c.d+c.s)*2)) 58)).drew c w3.heap.size (w3.heap.size+1):=by
 have b1:=aB8 w3 (.cells #[iV c.d,iV c.s,iV c.b,.slice (some (aD (w3.heap.size+1) 0)) (c.d+c.s) (c.d+c.s),iV 0,nS,nS,iV 0,nS] 32);have b2:=(aB8 (w3.alloc (.cells #[iV c.d,iV c.s,iV c.b,.slice (some (aD (w3.heap.size+1) 0)) (c.d+c.s) (c.d+c.s),iV 0,nS,nS,iV 0,nS] 32)) (.cells (madeCells #[.bool false,nS] ((c.d+c.s)*2)) 58)).drew;have V:=(aC w3 #[iV c.d,iV c.s,iV c.b,.slice (some (aD (w3.heap.size+1) 0)) (c.d+c.s) (c.d+c.s),iV 0,nS,nS,iV 0,nS] 32).bE b2;have r:=pM (c.d+c.s) (w3.alloc (.cells #[iV c.d,iV c.s,iV c.b,.slice (some (aD (w3.heap.size+1) 0)) (c.d+c.s) (c.d+c.s),iV 0,nS,nS,iV 0,nS] 32));rw[show(w3.alloc (.cells #[iV c.d,iV c.s,iV c.b,.slice (some (aD (w3.heap.size+1) 0)) (c.d+c.s) (c.d+c.s),iV 0,nS,nS,iV 0,nS] 32)).heap.size=w3.heap.size+1 by simp]at r;exact⟨V,r,c9C _,c9O _,bt b1 b2⟩
structure PlI(w wr:World)(c:Sto.Cfg)(P R:Nat)(vd vt vs va vr:Value)(s:Sto.St)(qs:List AnC)(al:List Sto.Ans):Prop where
 st:jT (aS (plT P R vr) wr) vd vt vs va s
 pv:lO vs
 vP:aV wr P 32 (stL c vd s.segs vt vs s.u va)
 vR:aV wr R 32 jE.toList
 own:wr.ownsRow w.heap.size 42 5 vr qs.length (qs.flatMap cY)
 len:qs.length=al.length
 ans: ∀(i:Nat) (q:AnC) (a:Sto.Ans),qs[i]?=some q→al[i]?=some a→q.1=a.err∧q.2.1=a.n∧q.2.2.2.1=a.vu∧Evs (aS (plT P R vr) wr) (slV q.2.2.1) a.evs∧bG (aS (plT P R vr) wr) (slV q.2.2.2.2) a.vl
 bel:Bl w wr
 pr:P≠R
 vp:vr.ownBlock≠some P
 vr':vr.ownBlock≠some R
 ge:w.heap.size≤P∧w.heap.size≤R
section
variable {w wr wr' : World} {c : Sto.Cfg} {P R : Nat} {vd vt vs va vr : Value} {s : Sto.St} {qs : List AnC} {al : List Sto.Ans}
theorem PlI.low(h:PlI w wr c P R vd vt vs va vr s qs al): ∀k,plT P R vr k=true→k<wr.heap.size:=fun k hk=>by
 rcases gS.1 hk with z|z|z
 ·rw[z]
  exact aZ.lt h.vP
 ·rw[z]
  exact aZ.lt h.vR
 ·exact(h.own.lt k z).2
theorem PlI.bE(h:PlI w wr c P R vd vt vs va vr s qs al)(hb:Bl wr wr'):PlI w wr' c P R vd vt vs va vr s qs al:=
 ⟨h.st.sub (cR hb),h.pv,h.vP.bE hb,h.vR.bE hb,aK h.own hb,h.len,fun i q a hq ha=>by
  obtain⟨e1,e2,e3,e4,e5⟩:=h.ans i q a hq ha
  exact⟨e1,e2,e3,e4.sub (cR hb),e5.sub (cR hb)⟩,bt h.bel hb,h.pr,h.vp,h.vr',h.ge⟩
theorem PlI.store(h:PlI w wr c P R vd vt vs va vr s qs al)(ho:Off (fun k=>k=P) wr wr'){vd' vt' vs' va':Value}{s':Sto.St}(hv:aV wr' P 32 (stL c vd' (s'.segs:Int) vt' vs' s'.u va'))(hs:jT (aS (plT P R vr) wr) vd' vt' vs' va' s')(hp:lO vs'):PlI w wr' c P R vd' vt' vs' va' vr s' qs al:=by
 have hc:fC (aS (plT P R vr) wr) (aS (plT P R vr) wr'):=j7 (gS.2 (Or.inl rfl)) ho
 exact⟨hs.sub hc,hp,hv,h.vR.off ho (fun z=>h.pr z.symm),bC h.own ho (fun g hg z=>h.vp (by have z:g=P:=z;rw[←z];exact hg)),h.len,fun i q a hq ha=>by
  obtain⟨e1,e2,e3,e4,e5⟩:=h.ans i q a hq ha
  exact⟨e1,e2,e3,e4.sub hc,e5.sub hc⟩,h.bel.trans (ho.bE h.bel.size fun k z=>by have z:k=P:=z;rw[z];exact h.ge.1),h.pr,h.vp,h.vr',h.ge⟩
theorem PlI.app(h:PlI w wr c P R vd vt vs va vr s qs al)(q:AnC)(a:Sto.Ans)(hq:q.1=a.err∧q.2.1=a.n∧q.2.2.2.1=a.vu∧Evs (aS (plT P R vr) wr) (slV q.2.2.1) a.evs∧bG (aS (plT P R vr) wr) (slV q.2.2.2.2) a.vl)(hsz:qs.length≤1000):
  ∃v' w',(Builtin.append_ #[33,33] 33 #[vr,.slice (some (aD wr.heap.size 0)) 1 1]).run prog (wr.alloc (.cells (cY q).toArray 42))=.ok v' w'∧PlI w w' c P R vd vt vs va v' s (qs++[q]) (al++[a]):=by
 obtain⟨i4,A7,A4⟩:=c9J.1 Tryz.infoAns;simp only[Prod.mk.injEq]at A4;obtain⟨A9,Aa,Ab⟩:=A4;have bA:=aB8 wr (.cells (cY q).toArray 42);have hc:=aC wr (cY q).toArray 42
 obtain⟨v',w',A2,ho,hg,_,A3⟩:=run_append_own_at (P:=prog) (wr.alloc (.cells (cY q).toArray 42)) w.heap.size 33 33 42 i4 _ 5 72 underlying33 A7 A9 Aa Ab rfl (by decide) vr qs.length _ (aK h.own bA) (aD wr.heap.size 0) 1 1 (cY q) rfl (fun j u hj=>by
  rw[WideShapes.add_plain,c9G]
  exact hc.cell hj) (fun u hu=>by
  simp only[cY,List.mem_cons,List.not_mem_nil,or_false]at hu
  rcases hu with rfl|rfl|rfl|rfl|rfl<;>rfl) (by unfold maxLen;omega) (by omega) (c9E h.bel.size bA.size)
 have A0:=(Off.oE bA).trans (cI hg);have A8:=h.low;have hT: ∀k,k<wr.heap.size→plT P R v' k=true→plT P R vr k=true:=fun k hk hz=>by
  rcases gS.1 hz with z|z|z
  ·exact gS.2 (Or.inl z)
  ·exact gS.2 (Or.inr (Or.inl z))
  ·rcases A3 with y|y
   ·rw[y]at z;exact gS.2 (Or.inr (Or.inr z))
   ·rw[y]at z;cases z
    exact absurd bA.size (Nat.not_le.2 hk)
 have hs:fC (aS (plT P R vr) wr) (aS (plT P R v') w'):=fun p u hp=>by
  obtain⟨q1,q2⟩:=kL hp;have A5:=World.block_lt_of_cell? _ _ q2;have e1:plT P R v' p.block=false:=by
   cases e:plT P R v' p.block with
   |false=>rfl
   |true=>
    rw[hT _ A5 e]at q1;cases q1
  rw[eW e1]
  exact(World.cell?_of_block (w:=wr) (a:=p) (A0.block p.block A5 (fun z=>by
   rw[gS.2 (Or.inr (Or.inr z))]at q1
   cases q1))).trans q2
 have A6: ∀k,k<wr.heap.size→vr.ownBlock≠some k→v'.ownBlock≠some k:=fun k hk hz e=>by
  rcases A3 with y|y
  ·rw[y]at e;exact hz e
  ·rw[y]at e;cases e
   exact absurd bA.size (Nat.not_le.2 hk)
 refine⟨v',w',A2,h.st.sub hs,h.pv,h.vP.off A0 h.vp,h.vR.off A0 h.vr',?_,by rw[c9I,c9I,h.len];rfl,fun i x b hx hb=>?_,h.bel.trans (A0.bE h.bel.size fun k z=>(h.own.lt k z).1),h.pr,A6 P (aZ.lt h.vP) h.vp,A6 R (aZ.lt h.vR) h.vr',h.ge⟩
 ·rw[c9I,d0H];exact ho
 ·have Ac:=h.len;by_cases hi:i<qs.length
  ·rw[d0M hi]at hx;rw[d0M (by omega)]at hb;obtain⟨e1,e2,e3,e4,e5⟩:=h.ans i x b hx hb;exact⟨e1,e2,e3,e4.sub hs,e5.sub hs⟩
  ·have A1:=(c9H.1 hx).1;rw[c9I]at A1;have A1:i<qs.length+1:=A1;obtain rfl:i=qs.length:=by omega
   rw[d0S (c9C _),d1L]at hx;rw[d0S (by omega),show qs.length-al.length=0 by omega]at hb;cases hx
   cases hb
   obtain⟨e1,e2,e3,e4,e5⟩:=hq;exact⟨e1,e2,e3,e4.sub hs,e5.sub hs⟩
theorem PlI.told(h:PlI w wr c P R vd vt vs va vr s qs al)(ho:Off (fun k=>k=R) wr wr'):jT wr' vd vt vs va s∧b8K wr' vr al∧Bl w wr':=by
 have hc:fC (aS (plT P R vr) wr) wr':=sP (ho.wider fun k z=>by
  have z:k=R:=z
  exact gS.2 (Or.inr (Or.inl z)))
 have A0:=bC h.own ho fun g hg z=>h.vr' (by have z:g=R:=z;rw[←z];exact hg);refine⟨h.st.sub hc,?_,h.bel.trans (ho.bE h.bel.size fun k z=>by have z:k=R:=z;rw[z];exact h.ge.2)⟩;obtain⟨A,C,rfl,h1,h2,h3⟩:=bJ A0;refine⟨A,C,by rw[h.len],by rw[←h.len];exact h1,h2,fun i a ha=>?_⟩;have A1:=(c9H.1 ha).1;rw[←h.len]at A1;obtain⟨g,rfl⟩:=h3 (by omega);have hq:=c9F A1;obtain⟨e1,e2,e3,e4,e5⟩:=h.ans i _ a hq ha;have cc: ∀(j:Nat) (u:Value),(cY qs[i])[j]?=some u→wr'.cell? (aD g (0+i*5+j))=some u:=fun j u hj=>by
  rw[c9G];exact iH (f:=cY) A0 (fun _ _=>rfl) (g:=g) rfl (j:=j) hq hj
 refine⟨g,0,rfl,slV qs[i].2.2.1,slV qs[i].2.2.2.2,?_,?_,?_,?_,?_,e4.sub hc,e5.sub hc⟩
 ·rw[←e1];exact cc 0 _ rfl
 ·rw[←e2];exact cc 1 _ rfl
 ·exact cc 2 _ rfl
 ·rw[←e3];exact cc 3 _ rfl
 ·exact cc 4 _ rfl
end
theorem c0T{t:TypeId}{a0 a1 a2 a3 a4 a5 a6 a7 a8:Value}(h:aV w P t [a0,a1,a2,a3,a4,a5,a6,a7,a8])(b0 b1 b2 b3 b4 b5 b6 b7 b8:Value):aV (((((((((w.setCell (aD P 0) b0).setCell (aD P 1) b1).setCell (aD P 2) b2).setCell (aD P 3) b3).setCell (aD P 4) b4).setCell (aD P 5) b5).setCell (aD P 6) b6).setCell (aD P 7) b7).setCell (aD P 8) b8) P t [b0,b1,b2,b3,b4,b5,b6,b7,b8]:=
 ((((((((h.set 0 b0 (show 0<9 by decide)).set 1 b1 (show 1<9 by decide)).set 2 b2 (show 2<9 by decide)).set 3 b3 (show 3<9 by decide)).set 4 b4 (show 4<9 by decide)).set 5 b5 (show 5<9 by decide)).set 6 b6 (show 6<9 by decide)).set 7 b7 (show 7<9 by decide)).set 8 b8 (show 8<9 by decide)
theorem b1K{X:Sto.Six}(hX:Sto.dE X)(c:Sto.Cfg)(h1:1≤c.d)(h2:c.d≤8)(h3:c.s≤4)(h4:1≤c.b)(h5:c.b≤10)(v:Value)(l:List Sto.Do)(w:World)(hD:Dos w v l)(hl:l.length≤80):
  Calls prog 5 #[.agg #[iV c.d,iV c.s,iV c.b],v] w fun e w'=>c6N e w w' c (Sto.aX X c (Sto.start c) l):=by
 obtain⟨A,C,rfl,Cn,Bo,Bp⟩:=hD;have Bn:cN c.d c.s (c.b:Int)=0:=by
  unfold cN;rw[cO (by omega),if_neg (fun z=>z rfl),if_neg (by omega)]
 have b2:Bl w ((w.alloc (.cells #[iV c.d,iV c.s,iV c.b] 23)).alloc (.cells #[iV 0,iV 0,iV 0,nS,iV 0,nS,nS,iV 0,nS] 32)):=(aB8 _ _).alloc (aB8 _ _).size _;have bB:Bl (w.alloc (.cells #[iV c.d,iV c.s,iV c.b] 23)) ((w.alloc (.cells #[iV c.d,iV c.s,iV c.b] 23)).alloc (.cells #[iV 0,iV 0,iV 0,nS,iV 0,nS,nS,iV 0,nS] 32)):=(Below.refl _ _).alloc (c9C _) _;have VS:=(aC w #[iV c.d,iV c.s,iV c.b] 23).bE bB;have VT:=aC (w.alloc (.cells #[iV c.d,iV c.s,iV c.b] 23)) #[iV 0,iV 0,iV 0,nS,iV 0,nS,nS,iV 0,nS] 32;rw[show(w.alloc (.cells #[iV c.d,iV c.s,iV c.b] 23)).heap.size=w.heap.size+1 by simp]at VT;have HW:=jK c.d c.s c.b ((w.alloc (.cells #[iV c.d,iV c.s,iV c.b] 23)).alloc (.cells #[iV 0,iV 0,iV 0,nS,iV 0,nS,nS,iV 0,nS] 32));rw[Bn]at HW;have Bb:Hid (∀i d,l[i]?=some d→ ∃b o,A=some (aD b o)∧b7H w b (o+i*9) d):=Bp
 have HX:Hid (Sto.dE X):=hX;clear Bn Bp hX bB;go_enter func5,ntmps5
 go_upto_region 1 with fail
 generalize (w.alloc (.cells #[iV c.d,iV c.s,iV c.b] 23)).alloc (.cells #[iV 0,iV 0,iV 0,nS,iV 0,nS,nS,iV 0,nS] 32)=w2 at*;have s0:=VS.q0;have s1:=VS.q1;have s2:=VS.q2;have Cp: ¬(80:Int)<(l.length:Int):=by omega
 go_wp2_with fail;refine HW.mono ?_;rintro e w3 ⟨rfl,b3⟩;have A0:=VS.bE b3;have Aw:=VT.bE b3;have Ax:=bt b2 b3;clear HW s0 s1 s2;have s0:w3.cell? (aD w.heap.size 0)=some (iV c.d):=A0.q0;have s1:w3.cell? (aD w.heap.size 1)=some (iV c.s):=A0.q1;have s2:w3.cell? (aD w.heap.size 2)=some (iV c.b):=A0.q2;have C4: ∀w',(Instr.makeSlice 25 (iV ((c.d:Int)+(c.s:Int))) (iV ((c.d:Int)+(c.s:Int)))).run prog w'=.ok (.slice (some (aD w'.heap.size 0)) (c.d+c.s) (c.d+c.s)) (w'.alloc (.cells (madeCells #[.bool false,nS] ((c.d+c.s)*2)) 58)):=fun w'=>xF (c.d+c.s) (by omega) w';have C6:IntKind.i64.wrap ((c.d:Int)+(c.s:Int))=(c.d:Int)+(c.s:Int):=by rw[IntKind.wrap_i64];omega
 have Ba:wrap64 ((c.d:Int)+(c.s:Int))=(c.d:Int)+(c.s:Int):=by unfold wrap64;omega
 have bR:Bl w3 (w3.alloc (.cells #[iV 0,iV 0,iV 0,nS,iV 0,nS,nS,iV 0,nS] 32)).drew:=(aB8 _ _).drew;have r0:(w3.alloc (.cells #[iV 0,iV 0,iV 0,nS,iV 0,nS,nS,iV 0,nS] 32)).drew.cell? (aD w.heap.size 0)=some (iV c.d):=(A0.bE bR).q0;have r1:(w3.alloc (.cells #[iV 0,iV 0,iV 0,nS,iV 0,nS,nS,iV 0,nS] 32)).drew.cell? (aD w.heap.size 1)=some (iV c.s):=(A0.bE bR).q1;have r2:(w3.alloc (.cells #[iV 0,iV 0,iV 0,nS,iV 0,nS,nS,iV 0,nS] 32)).drew.cell? (aD w.heap.size 2)=some (iV c.b):=(A0.bE bR).q2;have Ah:Bl w3 (w3.alloc (.cells (madeCells #[.bool false,nS] ((c.d+c.s)*2)) 58)).drew:=(aB8 _ _).drew;have C7:(w3.alloc (.cells (madeCells #[.bool false,nS] ((c.d+c.s)*2)) 58)).drew.cell? (aD w.heap.size 0)=some (iV c.d):=(A0.bE Ah).q0;have C8:(w3.alloc (.cells (madeCells #[.bool false,nS] ((c.d+c.s)*2)) 58)).drew.cell? (aD w.heap.size 1)=some (iV c.s):=(A0.bE Ah).q1;have Cb:(w3.alloc (.cells (madeCells #[.bool false,nS] ((c.d+c.s)*2)) 58)).drew.cell? (aD w.heap.size 2)=some (iV c.b):=(A0.bE Ah).q2;have Ai:Bl w3 ((w3.alloc (.cells #[iV 0,iV 0,iV 0,nS,iV 0,nS,nS,iV 0,nS] 32)).alloc (.cells (madeCells #[.bool false,nS] ((c.d+c.s)*2)) 58)).drew:=((aB8 _ _).alloc ((Below.refl w3.heap.size w3).alloc (c9C _) _).size _).drew;have Cc:((w3.alloc (.cells #[iV 0,iV 0,iV 0,nS,iV 0,nS,nS,iV 0,nS] 32)).alloc (.cells (madeCells #[.bool false,nS] ((c.d+c.s)*2)) 58)).drew.cell? (aD w.heap.size 0)=some (iV c.d):=(A0.bE Ai).q0;have Cf:((w3.alloc (.cells #[iV 0,iV 0,iV 0,nS,iV 0,nS,nS,iV 0,nS] 32)).alloc (.cells (madeCells #[.bool false,nS] ((c.d+c.s)*2)) 58)).drew.cell? (aD w.heap.size 1)=some (iV c.s):=(A0.bE Ai).q1;have Cg:((w3.alloc (.cells #[iV 0,iV 0,iV 0,nS,iV 0,nS,nS,iV 0,nS] 32)).alloc (.cells (madeCells #[.bool false,nS] ((c.d+c.s)*2)) 58)).drew.cell? (aD w.heap.size 2)=some (iV c.b):=(A0.bE Ai).q2;have Aj:Bl w3 ((w3.alloc (.cells (madeCells #[.bool false,nS] ((c.d+c.s)*2)) 58)).alloc (.cells #[iV 0,iV 0,iV 0,nS,iV 0,nS,nS,iV 0,nS] 32)).drew:=((aB8 _ _).alloc ((Below.refl w3.heap.size w3).alloc (c9C _) _).size _).drew;have Ch:((w3.alloc (.cells (madeCells #[.bool false,nS] ((c.d+c.s)*2)) 58)).alloc (.cells #[iV 0,iV 0,iV 0,nS,iV 0,nS,nS,iV 0,nS] 32)).drew.cell? (aD w.heap.size 0)=some (iV c.d):=(A0.bE Aj).q0;have Ci:((w3.alloc (.cells (madeCells #[.bool false,nS] ((c.d+c.s)*2)) 58)).alloc (.cells #[iV 0,iV 0,iV 0,nS,iV 0,nS,nS,iV 0,nS] 32)).drew.cell? (aD w.heap.size 1)=some (iV c.s):=(A0.bE Aj).q1;have Cj:((w3.alloc (.cells (madeCells #[.bool false,nS] ((c.d+c.s)*2)) 58)).alloc (.cells #[iV 0,iV 0,iV 0,nS,iV 0,nS,nS,iV 0,nS] 32)).drew.cell? (aD w.heap.size 2)=some (iV c.b):=(A0.bE Aj).q2;go_upto_region 6 with fail
 go_cut [8]from 24 to 31 (fun p8 wx=> ∃R D,p8=.pointer (some (aD R 0))∧b0H w3 wx c R D)
 case first=>
  go_region
  all_goals go_wp2_with fail
  all_goals go_meet
  ·exact⟨_,_,rfl,c1K w3 c⟩
  ·exact⟨_,_,rfl,c0E w3 c⟩
 case rest=>
  obtain⟨R,D,rfl,hN⟩:=hcut;obtain⟨w4,Bs⟩: ∃y,y=wc:=⟨wc,rfl⟩;rw[←Bs]at hN⊢;have Bz:=Ax.size;have C0:w.heap.size+1<w3.heap.size:=aZ.lt Aw;have C2:=hN.geR;have C1:=hN.geD;have Ay:D≠R:=fun z=>absurd rfl ((z▸hN.row.ty).ne hN.var.ty (by decide));have A3:(Sto.start c).disks.length=c.d+c.s:=List.length_replicate ..;have H0:PlI w w4 c R (w.heap.size+1) (.slice (some (aD D 0)) (c.d+c.s) (c.d+c.s)) nS nS nS nS (Sto.start c) [] []:=by
   refine⟨⟨?_,?_,?_,bG.nil _⟩,b2R,hN.var,Aw.bE hN.bel,World.ownsRow_nil _ _ _ _,rfl,fun i q a hq=>(by cases hq),bt Ax hN.bel,by omega,(fun z=>by cases z),(fun z=>by cases z),by omega,by omega⟩
   ·refine⟨_,_,by rw[A3],by rw[A3];exact c9C _,by unfold maxLen;omega,fun i x hx=>⟨D,0,rfl,nS,?_,?_,?_⟩⟩
    ·have hi:=(c9H.1 hx).1;rw[A3]at hi
     rw[eW (by
      cases e:plT R (w.heap.size+1) nS D with|false=>rfl|true=>
       rcases gS.1 e with z|z|z
       ·exact absurd z Ay
       ·omega
       ·cases z),Nat.zero_add,hN.row.cell (by omega)]
     have hx:(List.replicate (c.d+c.s) (⟨false,[]⟩:Sto.aM))[i]?=some x:=hx;have Cu:=d2X (c9N hx);unfold dkF;rw[if_pos (by omega),show i*2/2=i by omega,c9R,hx];rfl
    ·have hi:=(c9H.1 hx).1;rw[A3]at hi
     rw[eW (by
      cases e:plT R (w.heap.size+1) nS D with|false=>rfl|true=>
       rcases gS.1 e with z|z|z
       ·exact absurd z Ay
       ·omega
       ·cases z),Nat.zero_add,hN.row.cell (by omega)]
     unfold dkF;rw[if_neg (by omega)]
    ·have hx:(List.replicate (c.d+c.s) (⟨false,[]⟩:Sto.aM))[i]?=some x:=hx;rw[d2X (c9N hx)];exact⟨none,0,rfl,c9C _,c9D _,fun _ _ z=>(by cases z)⟩
   ·exact⟨none,0,rfl,c9C _,c9D _,fun _ _ z=>(by cases z)⟩
   ·exact⟨none,0,rfl,c9C _,c9D _,fun _ _ z=>(by cases z)⟩
  have Av:Hid (WfJ c (Sto.start c)):=b7T h1 h2 h3 h4 h5;have Cl:=mL8 Bo;have Ap:Hid (PlI w w4 c R (w.heap.size+1) (.slice (some (aD D 0)) (c.d+c.s) (c.d+c.s)) nS nS nS nS (Sto.start c) [] []):=H0;clear Bs hN H0 A0 Aw Ax s0 s1 s2 C4 C6 Ba VS VT b2 b3 Bz C0 r0 r1 r2 bR Ah Ai Aj C7 C8 Cb Cc Cf Cg Ch Ci Cj h1 h2 h3 h4 h5 Bo C2 C1 Ay A3;go_wp2_with fail;go_loopw [9,34] (fun y x wr=> ∃(k:Nat) (vd vt vs va:Value) (qs:List AnC),k≤l.length∧x=iV k∧Hid (PlI w wr c R (w.heap.size+1) vd vt vs va y (Sto.aX X c (Sto.start c) (l.take k)).1 qs (Sto.aX X c (Sto.start c) (l.take k)).2)∧Hid (WfJ c (Sto.aX X c (Sto.start c) (l.take k)).1)) (fun _ x _=>l.length-(intOf x).toNat)
  case atStart=>exact⟨0,_,_,_,_,[],c9D _,rfl,Ap,Av⟩
  case round=>
   obtain⟨k,vd,vt,vs,va,qs,hk,rfl,A2,Ag⟩:=hrel;obtain⟨Ad,nd,Cd,rfl⟩:=i9 A2.out.st.dk;obtain⟨At,nt,Ct,rfl⟩:=fZ A2.out.st.tl;obtain⟨As,ns,Cs,rfl⟩:=gY A2.out.st.sn;obtain⟨Aa,na,Ca,rfl⟩:=dT A2.out.st.ac;by_cases Bq:k<l.length
   ·have C3:(k:Int)<(l.length:Int):=by omega
    obtain⟨d,hd⟩: ∃d,l[k]?=some d:=⟨l[k],c9F Bq⟩;have Bk:=Sto.rD (X:=X) (c:=c) (s:=Sto.start c) hd;have Bm:(Sto.aX X c (Sto.start c) (l.take (k+1))).2=(Sto.aX X c (Sto.start c) (l.take k)).2++[(Sto.step X c (Sto.aX X c (Sto.start c) (l.take k)).1 d).2]:=by
     rw[d1Y,hd,Sto.mY];rfl
    have Cr:qs.length≤80:=by
     rw[A2.out.len,Sto.nG,c9K];omega
    have Bf:Hid (WfJ c (Sto.step X c (Sto.aX X c (Sto.start c) (l.take k)).1 d).1):=c2R HX.out Ag.out d;obtain⟨b,o,rfl,ve,t,A7,A4⟩:=Bb.out k d hd;obtain⟨Ae,ne,Ce,rfl⟩: ∃A n C,ve=.slice A n C:=by
     obtain⟨A,C,h⟩:=A7.evs.sE;exact⟨A,_,C,h⟩
    have hb:=A2.out.bel;have g0:wr.cell? (aD b (o+k*9))=some (iV d.kind):=cB8 hb (A4 0 _ rfl);have g1:wr.cell? (aD b (o+k*9+1))=some (iV d.n):=cB8 hb (A4 1 _ rfl);have g2:wr.cell? (aD b (o+k*9+2))=some (iV d.seg):=cB8 hb (A4 2 _ rfl);have g3:wr.cell? (aD b (o+k*9+3))=some (iV d.pos):=cB8 hb (A4 3 _ rfl);have g4:wr.cell? (aD b (o+k*9+4))=some (.int .u8 d.turn):=cB8 hb (A4 4 _ rfl);have g5:wr.cell? (aD b (o+k*9+5))=some (iV d.bat.cmd):=cB8 hb (A4 5 _ rfl);have g6:wr.cell? (aD b (o+k*9+6))=some (.slice Ae ne Ce):=cB8 hb (A4 6 _ rfl);have g7:wr.cell? (aD b (o+k*9+7))=some (.string t):=cB8 hb (A4 7 _ rfl);have g8:wr.cell? (aD b (o+k*9+8))=some (iV d.ver):=cB8 hb (A4 8 _ rfl);have Aq:Hid ((Sto.aX X c (Sto.start c) (l.take (k+1))).1=(Sto.step X c (Sto.aX X c (Sto.start c) (l.take k)).1 d).1):=Bk;have Be:Hid ((Sto.aX X c (Sto.start c) (l.take (k+1))).2=(Sto.aX X c (Sto.start c) (l.take k)).2++[(Sto.step X c (Sto.aX X c (Sto.start c) (l.take k)).1 d).2]):=Bm;generalize (Sto.aX X c (Sto.start c) (l.take k)).1=s at*;generalize (Sto.aX X c (Sto.start c) (l.take k)).2=al at*;have b5:Bl wr (wr.alloc (.cells #[iV d.kind,iV d.n,iV d.seg,iV d.pos,.int .u8 d.turn,iV d.bat.cmd,.slice Ae ne Ce,.string t,iV d.ver] 49)):=(Below.refl _ _).alloc (c9C _) _;have VD:=aC wr #[iV d.kind,iV d.n,iV d.seg,iV d.pos,.int .u8 d.turn,iV d.bat.cmd,.slice Ae ne Ce,.string t,iV d.ver] 49;have A5:=A2.out.bE b5;have Co:=A5.ge
    have HC:=a9G (X:=X) (T:=plT R (w.heap.size+1) u9) (w:=wr.alloc (.cells #[iV d.kind,iV d.n,iV d.seg,iV d.pos,.int .u8 d.turn,iV d.bat.cmd,.slice Ae ne Ce,.string t,iV d.ver] 49)) (d:=d) (s:=s) (c:=c) (t:=t) ⟨HX.out,A5.st,Ag.out,A7.sub (fun p u hp=>by
     have Bq:=World.block_lt_of_cell? _ _ hp
     rw[eW (by
      cases e:plT R (w.heap.size+1) u9 p.block with|false=>rfl|true=>
       rcases gS.1 e with z|z|z
       ·omega
       ·omega
       ·have:=(A5.own.lt _ z).1
        omega)]
     exact fC.oE (bt hb b5) p u hp),A5.pv,A5.low⟩
    clear Bk Bm hd A7 A4 hb;go_upto_region 11 with fail
    obtain⟨w5,Bt⟩: ∃q,q=wr.alloc (.cells #[iV d.kind,iV d.n,iV d.seg,iV d.pos,.int .u8 d.turn,iV d.bat.cmd,.slice Ae ne Ce,.string t,iV d.ver] 49):=⟨_,rfl⟩;rw[←Bt]at VD A5 HC⊢;obtain⟨QD,Bi⟩: ∃q,q=wr.heap.size:=⟨_,rfl⟩;rw[←Bi]at VD⊢;obtain⟨p0,p1,p2,p3,p4,p5,p6,p7,p8⟩:=A5.vP.c9;obtain⟨e0,e1,e2,e3,e4,e5,e6,e7,e8⟩:=VD.c9;have Bc:Hid (PlI w w5 c R (w.heap.size+1) (.slice Ad nd Cd) (.slice At nt Ct) (.slice As ns Cs) (.slice Aa na Ca) u9 s qs al):=A5;clear Bt Bi b5 A5 VD g0 g1 g2 g3 g4 g5 g6 g7 g8 A2;go_wp2_with fail;refine HC.mono ?_;rintro e w6 ⟨Cw,Cz,Cy,Cv,Ck,Cx,rfl,Ac,Al,Ak,B8,b6⟩;obtain⟨B1,m1,K1,rfl⟩:=i9 Ac.dk;obtain⟨B2,m2,K2,rfl⟩:=fZ Ac.tl;obtain⟨B3,m3,K3,rfl⟩:=gY Ac.sn;obtain⟨B4,m4,K4,rfl⟩:=dT Ac.ac;obtain⟨B5,m5,K5,rfl⟩: ∃A n C,Ck=.slice A n C:=by
     obtain⟨A,C,h⟩:=Al.sE;exact⟨A,_,C,h⟩
    obtain⟨B6,m6,K6,rfl⟩:=dT Ak;generalize Sto.step X c s d=rs at*;obtain⟨s',a⟩:=rs;have Ar:Hid (jT (aS (plT R (w.heap.size+1) u9) w6) (.slice B1 m1 K1) (.slice B2 m2 K2) (.slice B3 m3 K3) (.slice B4 m4 K4) s'):=Ac;have An:Hid (Evs (aS (plT R (w.heap.size+1) u9) w6) (.slice B5 m5 K5) a.evs∧bG (aS (plT R (w.heap.size+1) u9) w6) (.slice B6 m6 K6) a.vl∧lO (.slice B3 m3 K3)):=⟨Al,Ak,B8⟩;have Ao:Hid (PlI w w6 c R (w.heap.size+1) (.slice Ad nd Cd) (.slice At nt Ct) (.slice As ns Cs) (.slice Aa na Ca) u9 s qs al):=Bc.out.bE b6;have b7:Bl w6 (w6.alloc (.cells #[iV c.d,iV c.s,iV c.b,.slice B1 m1 K1,iV s'.segs,.slice B2 m2 K2,.slice B3 m3 K3,iV s'.u,.slice B4 m4 K4] 32)):=(Below.refl _ _).alloc (c9C _) _;have b8:Bl (w6.alloc (.cells #[iV c.d,iV c.s,iV c.b,.slice B1 m1 K1,iV s'.segs,.slice B2 m2 K2,.slice B3 m3 K3,iV s'.u,.slice B4 m4 K4] 32)) ((w6.alloc (.cells #[iV c.d,iV c.s,iV c.b,.slice B1 m1 K1,iV s'.segs,.slice B2 m2 K2,.slice B3 m3 K3,iV s'.u,.slice B4 m4 K4] 32)).alloc (.cells #[iV a.err,iV a.n,.slice B5 m5 K5,iV a.vu,.slice B6 m6 K6] 42)):=(Below.refl _ _).alloc (c9C _) _;have V7:=(aC w6 #[iV c.d,iV c.s,iV c.b,.slice B1 m1 K1,iV s'.segs,.slice B2 m2 K2,.slice B3 m3 K3,iV s'.u,.slice B4 m4 K4] 32).bE b8;have V8:=aC (w6.alloc (.cells #[iV c.d,iV c.s,iV c.b,.slice B1 m1 K1,iV s'.segs,.slice B2 m2 K2,.slice B3 m3 K3,iV s'.u,.slice B4 m4 K4] 32)) #[iV a.err,iV a.n,.slice B5 m5 K5,iV a.vu,.slice B6 m6 K6] 42;have Br:(w6.alloc (.cells #[iV c.d,iV c.s,iV c.b,.slice B1 m1 K1,iV s'.segs,.slice B2 m2 K2,.slice B3 m3 K3,iV s'.u,.slice B4 m4 K4] 32)).heap.size=w6.heap.size+1:=d2K _;rw[Br]at V8;have Az:R<w6.heap.size:=aZ.lt Ao.out.vP;have A1:=(Ao.out.bE b7).bE b8;have Af:=(Ac.sub (cR b7)).sub (cR b8);have A8:=(Al.sub (cR b7)).sub (cR b8);have A6:=(Ak.sub (cR b7)).sub (cR b8);clear HC Bc b6 b7 b8 Br Ac Al Ak p0 p1 p2 p3 p4 p5 p6 p7 p8 e0 e1 e2 e3 e4 e5 e6 e7 e8 Ar An Ao;go_upto_region 12 with fail
    obtain⟨w8,Bu⟩: ∃q,q=(w6.alloc (.cells #[iV c.d,iV c.s,iV c.b,.slice B1 m1 K1,iV s'.segs,.slice B2 m2 K2,.slice B3 m3 K3,iV s'.u,.slice B4 m4 K4] 32)).alloc (.cells #[iV a.err,iV a.n,.slice B5 m5 K5,iV a.vu,.slice B6 m6 K6] 42):=⟨_,rfl⟩;rw[←Bu]at V7 V8 A1 Af A8 A6⊢;obtain⟨QS,Bj⟩: ∃q,q=w6.heap.size:=⟨_,rfl⟩;rw[←Bj]at V7 V8 Az⊢;obtain⟨i0,i1,i2,i3,i4,i5,i6,i7,i8⟩:=V7.c9;obtain⟨p0,p1,p2,p3,p4,p5,p6,p7,p8⟩:=A1.vP.c9;have Cm: ¬QS=R:=by omega
    have B0: ¬QS+1=R:=by omega
    have f0:=A1.vP.frozen 0;have f1:=A1.vP.frozen 1;have f2:=A1.vP.frozen 2;have f3:=A1.vP.frozen 3;have f4:=A1.vP.frozen 4;have f5:=A1.vP.frozen 5;have f6:=A1.vP.frozen 6;have f7:=A1.vP.frozen 7;have f8:=A1.vP.frozen 8;clear Bu Bj;go_upto_region 13 with fail
    obtain⟨w9,Am⟩: ∃q,q=(((((((((w8.setCell (aD R 0) (iV c.d)).setCell (aD R 1) (iV c.s)).setCell (aD R 2) (iV c.b)).setCell (aD R 3) (.slice B1 m1 K1)).setCell (aD R 4) (iV s'.segs)).setCell (aD R 5) (.slice B2 m2 K2)).setCell (aD R 6) (.slice B3 m3 K3)).setCell (aD R 7) (iV s'.u)).setCell (aD R 8) (.slice B4 m4 K4)):=⟨_,rfl⟩;rw[←Am];have o9:Off (fun k=>k=R) w8 w9:=by
     rw[Am];exact fE _ _ _ _ _ _ _ _ _ _ _
    have Bv:aV w9 R 32 (stL c (.slice B1 m1 K1) (s'.segs:Int) (.slice B2 m2 K2) (.slice B3 m3 K3) s'.u (.slice B4 m4 K4)):=by
     rw[Am];exact c0T A1.vP _ _ _ _ _ _ _ _ _
    have Bh:=A1.store o9 Bv Af B8;have B7:fC (aS (plT R (w.heap.size+1) u9) w8) (aS (plT R (w.heap.size+1) u9) w9):=j7 (gS.2 (Or.inl rfl)) o9;obtain⟨v',w',Ab,Bg⟩:=Bh.app (a.err,a.n,(B5,m5,K5),a.vu,(B6,m6,K6)) a ⟨rfl,rfl,rfl,A8.sub B7,A6.sub B7⟩ (by omega);have Ab:(Builtin.append_ #[33,33] 33 #[u9,.slice (some (aD w9.heap.size 0)) 1 1]).run prog (w9.alloc (.cells #[iV a.err,iV a.n,.slice B5 m5 K5,iV a.vu,.slice B6 m6 K6] 42))=.ok v' w':=Ab;have V9:=V8.off o9 B0;have y0:=V9.q0;have y1:=V9.q1;have y2:=V9.q2;have y3:=V9.q3;have y4:=V9.q4;have Bw:Hid (PlI w w' c R (w.heap.size+1) (.slice B1 m1 K1) (.slice B2 m2 K2) (.slice B3 m3 K3) (.slice B4 m4 K4) v' (Sto.aX X c (Sto.start c) (l.take (k+1))).1 (qs++[(a.err,a.n,(B5,m5,K5),a.vu,(B6,m6,K6))]) (Sto.aX X c (Sto.start c) (l.take (k+1))).2):=by
     have:=Bg;show PlI _ _ _ _ _ _ _ _ _ _ (Sto.aX X c (Sto.start c) (l.take (k+1))).1 _ (Sto.aX X c (Sto.start c) (l.take (k+1))).2;rw[Aq.out,Be.out];exact this
    have Au:Hid (WfJ c (Sto.aX X c (Sto.start c) (l.take (k+1))).1):=by
     show WfJ c (Sto.aX X c (Sto.start c) (l.take (k+1))).1;rw[Aq.out];exact Bf.out
    clear Am o9 Bv Bh B7 Bg V9 V7 V8 A1 Af A8 A6 B8 Aq Be Bf Ag i0 i1 i2 i3 i4 i5 i6 i7 i8 p0 p1 p2 p3 p4 p5 p6 p7 p8 f0 f1 f2 f3 f4 f5 f6 f7 f8;go_wp2_with (at_builtin;refine Lib.wpList_append_run _ rfl _ _ _ _ rfl _ _ rfl rfl _ _ Ab ?_);exact⟨⟨k+1,_,_,_,_,_,by omega,by go_num,Bw,Au⟩,by simp[intOf];omega⟩
   ·obtain rfl:k=l.length:=by omega
    rw[d0L]at A2;have hP:=A2.out;obtain⟨s,al,B9⟩: ∃s al,Sto.aX X c (Sto.start c) l=(s,al):=⟨_,_,rfl⟩;have Bx:Hid (Sto.aX X c (Sto.start c) l=(s,al)):=B9;rw[B9]at hP;dsimp only at hP;obtain⟨p0,p1,p2,p3,p4,p5,p6,p7,p8⟩:=hP.vP.c9;have Cq: ¬R=w.heap.size+1:=hP.pr;have x0:=hP.vR.q0;have x1:=hP.vR.q1;have x2:=hP.vR.q2;have x3:=hP.vR.q3;have x4:=hP.vR.q4;have x5:=hP.vR.q5;have x6:=hP.vR.q6;have x7:=hP.vR.q7;have x8:=hP.vR.q8;have f0:=hP.vR.frozen 0;have f1:=hP.vR.frozen 1;have f2:=hP.vR.frozen 2;have f3:=hP.vR.frozen 3;have f4:=hP.vR.frozen 4;have f5:=hP.vR.frozen 5;have f6:=hP.vR.frozen 6;have f7:=hP.vR.frozen 7;have f8:=hP.vR.frozen 8;have By:Hid (∀wE,Off (fun k=>k=w.heap.size+1) wr wE→c6N (.returned (.tuple #[.agg #[iV c.d,iV c.s,iV c.b,.slice Ad nd Cd,iV s.segs,.slice At nt Ct,.slice As ns Cs,iV s.u,.slice Aa na Ca],u9,iV 0])) w wE c (s,al)):=fun wE ho=>by
     obtain⟨q1,q2,q3⟩:=hP.told ho;exact⟨_,_,_,_,_,rfl,q1,q2,q3⟩
    obtain⟨A9,C9,C5,_⟩:=bJ hP.own;subst C5;clear A2 hP Ag Bb HX B9;go_wp2_with fail;refine bodyPost_ret (v:=.tuple #[.agg #[iV c.d,iV c.s,iV c.b,.slice Ad nd Cd,iV s.segs,.slice At nt Ct,.slice As ns Cs,iV s.u,.slice Aa na Ca],.slice A9 qs.length C9,iV 0]) (by simp[results,results5,go_sem,x0,x1,x2,x3,x4,x5,x6,x7,x8]) rfl ?_;rw[Bx.out];exact By.out _ (fE _ _ _ _ _ _ _ _ _ _ _)
theorem b9H(a:Sto.Ans)(ve va ve' va':Value)(w:World)(h:Evs w ve a.evs)(hA:bG w va a.vl)(h':Evs w ve' a.evs)(hA':bG w va' a.vl):
  Calls prog 9 #[.agg #[iV a.err,iV a.n,ve,iV a.vu,va],.agg #[iV a.err,iV a.n,ve',iV a.vu,va']] w fun e w'=>e=.returned (.bool true)∧Bl w w':=by
 have HE:Hid (∀w',Bl w w'→Calls prog 16 #[ve,ve'] w' fun e w2=>e=.returned (.bool true)∧Bl w' w2):=fun w' hb=>(a0A ve ve' a.evs a.evs w' (h.bE hb) (h'.bE hb)).mono fun e w2 q=>⟨q.1.yes rfl,by
  obtain⟨m,rfl⟩:=q.2
  exact dP w' m⟩
 have HV:Hid (∀w',Bl w w'→Calls prog 15 #[.agg #[iV a.vu,va],.agg #[iV a.vu,va']] w' fun e w2=>e=.returned (.bool true)∧Bl w' w2):=fun w' hb=>(sA a.vu a.vu va va' a.vl a.vl w' (hA.bE hb) (hA'.bE hb)).mono fun e w2 q=>⟨q.1.yes ⟨rfl,rfl⟩,q.2⟩;obtain⟨A1,C1,rfl⟩:=h.sE;obtain⟨B1,K1,rfl⟩:=h'.sE;obtain⟨A2,C2,rfl⟩:=hA.sE;obtain⟨B2,K2,rfl⟩:=hA'.sE;obtain⟨n1,A7⟩: ∃n,n=a.evs.length:=⟨_,rfl⟩;obtain⟨n2,A8⟩: ∃n,n=a.vl.length:=⟨_,rfl⟩;rw[←A7]at HE⊢;rw[←A8]at HV⊢;clear h h' hA hA' A7 A8;have b1:=aB8 w (.cells #[iV a.err,iV a.n,.slice A1 n1 C1,iV a.vu,.slice A2 n2 C2] 42);have b2:=aB8 (w.alloc (.cells #[iV a.err,iV a.n,.slice A1 n1 C1,iV a.vu,.slice A2 n2 C2] 42)) (.cells #[iV a.err,iV a.n,.slice B1 n1 K1,iV a.vu,.slice B2 n2 K2] 42);have VA:=(aC w #[iV a.err,iV a.n,.slice A1 n1 C1,iV a.vu,.slice A2 n2 C2] 42).bE b2;have VB:=aC (w.alloc (.cells #[iV a.err,iV a.n,.slice A1 n1 C1,iV a.vu,.slice A2 n2 C2] 42)) #[iV a.err,iV a.n,.slice B1 n1 K1,iV a.vu,.slice B2 n2 K2] 42;rw[show(w.alloc (.cells #[iV a.err,iV a.n,.slice A1 n1 C1,iV a.vu,.slice A2 n2 C2] 42)).heap.size=w.heap.size+1 by simp]at VB;have b2:=bt b1 b2;go_enter func9,ntmps9
 go_upto_region 1 with fail
 generalize (w.alloc (.cells #[iV a.err,iV a.n,.slice A1 n1 C1,iV a.vu,.slice A2 n2 C2] 42)).alloc (.cells #[iV a.err,iV a.n,.slice B1 n1 K1,iV a.vu,.slice B2 n2 K2] 42)=w2 at*;have A4:=HE.out w2 b2;have A0:=hd8 VA;have A3:=hd8 VB;have a0:=VA.q0;have a1:=VA.q1;have a2:=VA.q2;have d0:=VB.q0;have d1:=VB.q1;have d2:=VB.q2;clear VA VB b1;go_wp2_with fail;refine A4.mono ?_;rintro e w3 ⟨rfl,b3⟩;have A6:=bt b2 b3;have A5:=HV.out w3 A6;have a3:=(A0.out.bE b3).q3;have a4:=(A0.out.bE b3).q4;have d3:=(A3.out.bE b3).q3;have d4:=(A3.out.bE b3).q4;clear a0 a1 a2 d0 d1 d2 A4 A0 A3;go_wp2_with fail;refine A5.mono ?_;rintro e w4 ⟨rfl,b4⟩;have A9:=bt A6 b4;clear A5;go_wp2_with fail;go_ret
 exact⟨rfl,A9⟩
def PlT(e:Ending)(w w':World)(x y z g u:Int)(E:Nat)(s:Sto.St)(al:List Sto.Ans):Prop:= ∃vd vt vs va vr,e=.returned (.tuple #[.agg #[iV x,iV y,iV z,vd,iV g,vt,vs,iV u,va],vr,iV E])∧jT w' vd vt vs va s∧b8K w' vr al∧Bl w w'
theorem b6P(w:World):jT w nS nS nS nS ⟨[],0,[],[],0,[]⟩:=
 ⟨⟨none,0,rfl,c9C _,c9D _,fun _ _ z=>(by cases z)⟩,⟨none,0,rfl,Nat.le_refl _,Nat.zero_le _,fun _ _ z=>(by cases z)⟩,⟨none,0,rfl,Nat.le_refl _,Nat.zero_le _,fun _ _ z=>(by cases z)⟩,bG.nil _⟩
theorem tG{e:Ending}{w':World}{x:Nat}(h:zP e w w' x):PlT e w w' 0 0 0 0 0 x ⟨[],0,[],[],0,[]⟩ []:=
 ⟨_,_,_,_,_,h.1,b6P w',⟨none,0,rfl,c9C _,c9D _,fun _ _ z=>(by cases z)⟩,h.2⟩
theorem b7F(d s b:Int)(v:Value)(l:List Sto.Do)(w:World)(hD:Dos w v l):
  ∃(x y z g u:Int) (E:Nat) (t:Sto.St) (al:List Sto.Ans),(∀w',Bl w w'→Calls prog 4 #[.agg #[iV d,iV s,iV b],v] w' fun e w2=>PlT e w' w2 x y z g u E t al)∧ ∀w',Bl w w'→Calls prog 5 #[.agg #[iV d,iV s,iV b],v] w' fun e w2=>PlT e w' w2 x y z g u E t al:=by
 have HD:=fun w' (hb:Bl w w')=>hD.bE hb;by_cases h0:cN d s b=0
 ·by_cases A0:l.length≤80
  ·obtain⟨c,ed,es,eb,h1,h2,h3,h4,h5⟩:=c2G h0;obtain⟨X,hX⟩:=Sto.six;refine⟨(c.d:Int),(c.s:Int),(c.b:Int),((Sto.aX X c (Sto.start c) l).1.segs:Int),(Sto.aX X c (Sto.start c) l).1.u,0,(Sto.aX X c (Sto.start c) l).1,(Sto.aX X c (Sto.start c) l).2,fun w' hb=>(c8F hX c d s b ed es eb h1 h2 h3 h4 h5 v l w' (HD w' hb) A0).mono ?_,fun w' hb=>?_⟩
   ·rintro e w2 ⟨vd,vt,vs,va,vr,rfl,q1,q2,q3,_⟩;exact⟨vd,vt,vs,va,vr,rfl,q1,q2,q3⟩
   ·rw[ed,es,eb];exact(b1K hX c h1 h2 h3 h4 h5 v l w' (HD w' hb) A0).mono fun e w2 z=>z
  ·obtain⟨A,C,rfl,_⟩:=hD;exact⟨0,0,0,0,0,5,_,_,fun w' _=>(b4V d s b A l.length C w' h0 (by omega)).mono fun e w2 z=>tG z,fun w' _=>(a4B d s b A l.length C w' h0 (by omega)).mono fun e w2 z=>tG z⟩
 ·obtain⟨A,C,rfl,_⟩:=hD;exact⟨0,0,0,0,0,cN d s b,_,_,fun w' _=>(b8S d s b A l.length C w' _ rfl h0).mono fun e w2 z=>tG z,fun w' _=>(a7N d s b A l.length C w' _ rfl h0).mono fun e w2 z=>tG z⟩
end Go.Proofs.YtmcaejooaaahdaaGreat
