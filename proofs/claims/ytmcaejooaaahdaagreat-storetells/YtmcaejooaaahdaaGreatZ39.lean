import Derived.Test.YtmcaejooaaahdaaGreatZ38
set_option maxHeartbeats 8000000
set_option maxRecDepth 100000
namespace Go.Proofs.YtmcaejooaaahdaaGreat
open Go.Proofs.Tryz
variable {Aa Ad Ae As At:Option Addr} {C Ca Cd Ce Cs Ct D N base fuel k n na nd ns nt:Nat} {S:Nat→Prop} {T T1 sp:Nat→Bool} {V:Nat→Value} {W w w' w1 w2 wE:World} {t:TypeId} {v:Value}
open Go.ChangeShapes Go.WideShapes Go.ChangeAt Go.RowKit
theorem b0Z{α:Type}(a0:α){P:Nat→α→Prop}(h: ∀i,i<n→ ∃q,P i q): ∃q:Nat→α,∀i,i<n→P i (q i):=
 ⟨fun i=>if hi:i<n then Classical.choose (h i hi)else a0,fun i hi=>by
  simp only[dif_pos hi]
  exact Classical.choose_spec (h i hi)⟩
def do0:Sto.Do:=⟨0,0,0,0,0,⟨0,[]⟩,[],0⟩
theorem c8M{α:Type}{l:List α}(h:l.length=9): ∃c0 c1 c2 c3 c4 c5 c6 c7 c8,l=[c0,c1,c2,c3,c4,c5,c6,c7,c8]:=by
 match l,h with
 |[c0,c1,c2,c3,c4,c5,c6,c7,c8],_=>exact⟨c0,c1,c2,c3,c4,c5,c6,c7,c8,rfl⟩
theorem a5G{H:Type}{enc:TypeId×Value→H}{P:Program}{spare:Nat→Bool}{held:Bool}{f0 f1 f2 f3 f4 f5 f6 f7:Field}{cs:List Value}{x:DataW H×List MemPlace}(ht:P.underlying t=some (.struct #[f0,f1,f2,f3,f4,f5,f6,f7]))(h:DataW.trod enc P w base spare held fuel t cs=some x):
  ∃y0 y1 y2 y3 y4 y5 y6 y7 n,cs.length=P.cellsOf t∧DataW.trod enc P w base spare held n f0.type ((cs.drop f0.offset).take (P.cellsOf f0.type))=some y0∧
   DataW.trod enc P w base spare held n f1.type ((cs.drop f1.offset).take (P.cellsOf f1.type))=some y1∧DataW.trod enc P w base spare held n f2.type ((cs.drop f2.offset).take (P.cellsOf f2.type))=some y2∧
   DataW.trod enc P w base spare held n f3.type ((cs.drop f3.offset).take (P.cellsOf f3.type))=some y3∧DataW.trod enc P w base spare held n f4.type ((cs.drop f4.offset).take (P.cellsOf f4.type))=some y4∧
   DataW.trod enc P w base spare held n f5.type ((cs.drop f5.offset).take (P.cellsOf f5.type))=some y5∧DataW.trod enc P w base spare held n f6.type ((cs.drop f6.offset).take (P.cellsOf f6.type))=some y6∧
   DataW.trod enc P w base spare held n f7.type ((cs.drop f7.offset).take (P.cellsOf f7.type))=some y7:=by
 obtain⟨xs,n,_,rfl,hl,A0,hf⟩:=DataW.trod_struct ht h;match xs,A0 with
 |[y0,y1,y2,y3,y4,y5,y6,y7],_=>exact⟨y0,y1,y2,y3,y4,y5,y6,y7,n,hl,by simpa using hf 0 f0 rfl,by simpa using hf 1 f1 rfl,by simpa using hf 2 f2 rfl,by simpa using hf 3 f3 rfl,by simpa using hf 4 f4 rfl,by simpa using hf 5 f5 rfl,by simpa using hf 6 f6 rfl,by simpa using hf 7 f7 rfl⟩
theorem b8Z{H:Type}{enc:TypeId×Value→H}{hd:Bool}{y:DataW H×List MemPlace}(h:DataW.trod enc prog W base sp hd fuel 5 [v]=some y): ∃n:Nat,n<256∧v=.int .u8 n:=by
 obtain⟨n,e,_,hw⟩:=DataW.trod_int underlying5 h;simp only[List.cons.injEq,and_true]at e;obtain⟨b0,b1⟩:=bounds_u8 hw;exact⟨n.toNat,by omega,by rw[e,Int.toNat_of_nonneg b0]⟩
theorem b4P{H:Type}{enc:TypeId×Value→H}{hd:Bool}{y:DataW H×List MemPlace}(h:DataW.trod enc prog W base sp hd fuel 3 [v]=some y): ∃n,v=iV n∧ -9223372036854775808≤n∧n≤9223372036854775807:=by
 obtain⟨n,e,_,hw⟩:=DataW.trod_int underlying3 h;simp only[List.cons.injEq,and_true]at e;exact⟨n,e,(bounds_i64 hw).1,(bounds_i64 hw).2⟩
def c5I(d:Sto.Do):Prop:=(-9223372036854775808≤d.n∧d.n≤9223372036854775807)∧ -9223372036854775808≤d.seg∧d.seg≤9223372036854775807
theorem c7K{H:Type}{enc:TypeId×Value→H}{y:DataW H×List MemPlace}(hf:DataW.trod enc prog W 0 (fun _=>true) true fuel 24 [v]=some y): ∃l,Dos W v l∧ ∀d,d∈l→c5I d:=by
 have ce:prog.cellsOf 49=9:=by kernel_rfl
 rcases Deep.open_slice underlying24 hf with⟨A1,_⟩|⟨a,A9,Ad,m,n,D,Pl,A1,_,hl,hm,A8,_,hx⟩
 ·simp only[List.cons.injEq,and_true]at A1;subst A1;exact⟨[],⟨none,0,rfl,c9C _,c9D _,fun i e he=>(by cases he)⟩,fun d hd=>(by cases hd)⟩
 ·simp only[List.cons.injEq,and_true]at A1;subst A1;simp only[if_true]at A8;subst A8;have A3: ∀i,i<m→ ∃q:Sto.Do×Value×ByteArray,c5I q.1∧sS W q.1 q.2.1 q.2.2∧ ∀j u,(dX q.1 q.2.1 q.2.2)[j]?=some u→W.cell? (a.add (i*9+j))=some u:=by
   intro i hi;obtain⟨Ae,h1,h2⟩:=hx i hi;rw[ce]at h1;obtain⟨_,A4,A0⟩:=World.cells?_some h1;obtain⟨y0,y1,y2,y3,y4,y5,y6,y7,k,_,g0,g1,g2,g3,g4,g5,g6,g7⟩:=a5G underlying49 h2;obtain⟨v0,v1,v2,v3,v4,v5,v6,v7,v8,rfl⟩:=c8M A4;have c3:prog.cellsOf 3=1:=by kernel_rfl
   have c4:prog.cellsOf 5=1:=by kernel_rfl
   have c5:prog.cellsOf 47=2:=by kernel_rfl
   have c6:prog.cellsOf 40=1:=by kernel_rfl
   have c9:prog.cellsOf 9=1:=by kernel_rfl
   simp[c3,c4,c5,c9]at g0 g1 g2 g3 g4 g5 g6 g7;obtain⟨z0,z1,k',_,_,A6,A7⟩:=trod_struct2 underlying47 g5;simp[c3,c6]at A6 A7;obtain⟨k0,rfl⟩:=mW g0;obtain⟨k1,rfl,r1⟩:=b4P g1;obtain⟨k2,rfl,r2⟩:=b4P g2;obtain⟨k3,rfl⟩:=mW g3;obtain⟨k4,Ac,rfl⟩:=b8Z g4;obtain⟨k5,rfl⟩:=mW A6;obtain⟨es,Aa⟩:=c8C A7;obtain⟨t,rfl,ht⟩:=c2C g6;obtain⟨k8,rfl⟩:=mW g7;refine⟨(⟨k0,k1,k2,k3,k4,⟨k5,es⟩,nb t,k8⟩,v6,t),⟨r1,r2⟩,⟨Aa,rfl,ht,Ac⟩,fun j u hj=>?_⟩;have Ab:=(c9H.1 hj).1;have:=A0 j (by simpa [dX]using Ab);rw[Deep.add_add]at this;exact this.trans hj
  obtain⟨q,hq⟩:=b0Z (α:=Sto.Do×Value×ByteArray) (do0,.bool false,ByteArray.empty) A3;refine⟨(List.range A9).map fun i=>(q i).1,⟨some a,m,by simp,by simpa using hl,hm,fun i e he=>?_⟩,fun d hd=>?_⟩;rotate_left
  ·obtain⟨i,hi,rfl⟩:=d0G.1 hd;have hi:=d0D.1 hi;exact(hq i (by omega)).1
  have hi:i<A9:=by
   have:=(c9H.1 he).1;simpa using this
  simp[hi]at he;subst he;obtain⟨b,o,A5⟩:=a;have A2:A5=none:=by simpa [Addr.add]using World.cell?_spot ((hq 0 (by omega)).2.2 0 _ rfl)
  subst A2;obtain⟨_,z0,z1⟩:=hq i (by omega);refine⟨b,o,rfl,(q i).2.1,(q i).2.2,z0,fun j u hj=>?_⟩;have:=z1 j u hj;rw[WideShapes.add_plain]at this;rw[Nat.add_assoc];exact this
theorem c7M{H:Type}{enc:TypeId×Value→H}{a:Option Addr}{len cap:Nat}{d:DataW H}{ps:List MemPlace}(h:DataW.Trod enc prog W 0 (fun _=>true) true 24 (.slice a len cap) d ps): ∃l,Dos W (.slice a len cap) l∧ ∀d,d∈l→c5I d:=by
 obtain⟨fuel,hf⟩:=h;exact c7K (fuel:=fuel) (y:=(d,ps)) (by simpa [Value.cells]using hf)
theorem Tryz.cellsSetup:Tryz.prog.cellsOf 23=3:=by kernel_rfl
theorem b9E{H:Type}{enc:TypeId×Value→H}{r:Reach}{b0:Nat}{d:DataW H}{ps:List MemPlace}(hv:Value.okWide prog W r b0 23 v)(h:DataW.Trod enc prog W 0 (fun _=>true) true 23 v d ps):
  ∃x y z,v=.agg #[iV x,iV y,iV z]:=by
 obtain⟨v0,v1,v2,y0,y1,y2,m,rfl,_,_,t0,t1,t2⟩:=Joins.open_agg3 underlying23 (by kernel_rfl) Tryz.cellsSetup hv h;obtain⟨s,rfl⟩:=mW t0;obtain⟨k,rfl⟩:=mW t1;obtain⟨n,rfl⟩:=mW t2;exact⟨s,k,n,rfl⟩
open Go.RowKit
theorem sA(u u':Int)(v v':Value)(l l':List Vw.Acc)(w:World)(h:bG w v l)(h':bG w v' l'):
  Calls prog 15 #[.agg #[iV u,v],.agg #[iV u',v']] w fun e w'=>rM e (u=u'∧l=l')∧Bl w w':=by
 have Ah:=h.len;obtain⟨A,C,rfl,_,_,ha⟩:=h;obtain⟨A',C',rfl,_,_,A8⟩:=h';have Ag:prog.eqGuardType prog.depth 93=false:=by kernel_rfl
 have h1:=aB8 w (.cells #[iV u,.slice A l.length C] 30);have h2:=h1.alloc h1.size (.cells #[iV u',.slice A' l'.length C'] 30);have A9:=aB8 (w.alloc (.cells #[iV u,.slice A l.length C] 30)) (.cells #[iV u',.slice A' l'.length C'] 30);have VV:=(aO w 30 (iV u) (.slice A l.length C)).bE A9;have VW:=aO (w.alloc (.cells #[iV u,.slice A l.length C] 30)) 30 (iV u') (.slice A' l'.length C');have z1:(w.alloc (.cells #[iV u,.slice A l.length C] 30)).heap.size=w.heap.size+1:=by simp
 rw[z1]at VW;clear z1 A9 h1;have HA:=hd8 ha;have Ad:=hd8 A8;clear ha A8;obtain⟨c0,c1,_⟩:=VV;obtain⟨d0,d1,_⟩:=VW;by_cases q0:u=u'
 case neg=>
  have H:Hid (¬(u=u'∧l=l')):=fun q=>q0 q.1;have q1:(u !=u')=true:=by rw[bne_iff_ne];exact q0
  clear q0;go_enter func15,ntmps15
  go_wp2_with fail;go_ret
  exact⟨cZ H.out,h2⟩
 have q1:(u !=u')=false:=by rw[bne_eq_false_iff_eq];exact q0
 have HU:=hd8 q0;clear q0;by_cases q2:l.length=l'.length
 case neg=>
  have H:Hid (¬(u=u'∧l=l')):=fun q=>q2 (by rw[q.2]);have q3:((l.length:Int) !=(l'.length:Int))=true:=by rw[bne_iff_ne];omega
  clear q2;go_enter func15,ntmps15
  go_wp2_with fail;go_ret
  exact⟨cZ H.out,h2⟩
 have HL:=hd8 q2;have q3:((l.length:Int) !=(l'.length:Int))=false:=by rw[bne_eq_false_iff_eq];omega
 have A7:l'.length=l.length:=q2.symm;rw[A7]at d1 q3 h2 c0 c1 d0;rw[A7];clear q2 A7;go_enter func15,ntmps15
 go_wp2_with fail;generalize (w.alloc (.cells #[iV u,.slice A l.length C] 30)).alloc (.cells #[iV u',.slice A' l.length C'] 30)=W0 at h2 c0 c1 d0 d1⊢;go_loopw [23] (fun x wr=> ∃k:Nat,k≤l.length∧x=iV k∧Hid (∀j,j<k→l[j]?=l'[j]?)∧Hid (∃m,wr=W0.drewN m)) (fun x _=>l.length-(intOf x).toNat)
 case atStart=>exact⟨0,c9D _,rfl,fun j hj=>absurd hj (c9L j),⟨0,rfl⟩⟩
 case round=>
  obtain⟨k,hk,rfl,HS,HM⟩:=hrel;have A1:Bl W0 wr:=by
   obtain⟨m,e⟩:=HM.out;rw[e];exact dP W0 m
  have c1:=cB8 A1 c1;have d1:=cB8 A1 d1;by_cases Ae:k<l.length
  ·have Af:(k:Int)<(l.length:Int):=by omega
   obtain⟨a,A6⟩: ∃a,l[k]?=some a:=⟨l[k],c9F Ae⟩;obtain⟨a',A0⟩: ∃a,l'[k]?=some a:=⟨l'[k]'(by have:=HL.out;omega),c9F (by have:=HL.out;omega)⟩;obtain⟨b,o,rfl,Aa⟩:=HA.out k a A6;obtain⟨b',o',rfl,A2⟩:=Ad.out k a' A0;obtain⟨s,Ab,Ac,x0,x1,x2,x3⟩:=Aa.bE (bt h2 A1);obtain⟨s',A3,A4,y0,y1,y2,y3⟩:=A2.bE (bt h2 A1);obtain⟨y,hy,_,hq⟩:=c7S ⟨s,Ab,Ac,rfl⟩ ⟨s',A3,A4,rfl⟩;have HE:Hid (l[k]?=some a∧l'[k]?=some a'):=⟨A6,A0⟩;have HY:=hd8 hy;clear A6 A0 Aa A2 Ac A4 Ab A3 hy;cases y with
   |true=>
    have HR:=hd8 (HY.out.1 rfl);clear HY;go_wp2_with fail;go_quiet (fail)
    go_wp2_with fail;refine⟨⟨k+1,by omega,by go_num,fun j hj=>?_,sO HM.out _⟩,by simp[intOf];omega⟩;by_cases e:j=k
    ·rw[e,HE.out.1,HE.out.2,HR.out]
    ·exact HS.out j (by omega)
   |false=>
    have HN:Hid (¬(u=u'∧l=l')):=fun q=>by
     have h1:=HE.out.1;rw[q.2,HE.out.2,Option.some.injEq]at h1;exact absurd (HY.out.2 h1.symm) (by decide)
    clear HY;go_wp2_with fail;go_quiet (fail)
    go_wp2_with fail;go_ret
    exact⟨cZ HN.out,bdn (bt h2 A1) _⟩
  ·obtain rfl:k=l.length:=by omega
   have A5:Hid (u=u'∧l=l'):=⟨HU.out,rR HL.out (fun j hj=>HS.out j hj)⟩;go_wp2_with fail;go_ret
   exact⟨gP A5.out,bt h2 A1⟩
theorem a9W(a b c:Int)(w:World):(binOp .neq 23 (.agg #[iV a,iV b,iV c]) (.agg #[iV a,iV b,iV c])).run prog w=.ok (.bool false) w:=by
 have u3:=underlying3;have a3:=Tryz.isAgg3;have z3:=Tryz.sizeOf3;have hS:prog.underlying 23=some (.struct (prog.fieldsOf 23)):=by kernel_rfl
 have hp:prog.stoodInHeld 23=false:=by kernel_rfl
 rw[run_neq_struct,show(10000:Nat)=9999+1 from rfl,run_equalIn_agg w 9999 23 _ _ hS hp];simp only[Program.fieldsOf,underlying23];go_simp
theorem rM.yes{e:Ending}{P:Prop}(h:rM e P)(hp:P):e=.returned (.bool true):=by
 obtain⟨y,rfl,hy⟩:=h;rw[hy.2 hp]
theorem a7J{w0:World}{t':TypeId}{p q c d:Value}:aV ((w0.alloc (.cells #[p,q] t)).alloc (.cells #[c,d] t')) w0.heap.size t [p,q]∧aV ((w0.alloc (.cells #[p,q] t)).alloc (.cells #[c,d] t')) (w0.heap.size+1) t' [c,d]∧Bl w0 ((w0.alloc (.cells #[p,q] t)).alloc (.cells #[c,d] t')):=by
 have b1:=aB8 w0 (.cells #[p,q] t);have V:=aC (w0.alloc (.cells #[p,q] t)) #[c,d] t';rw[show(w0.alloc (.cells #[p,q] t)).heap.size=w0.heap.size+1 by simp]at V;exact⟨(aC w0 #[p,q] t).bE (aB8 _ _),V,b1.alloc b1.size _⟩
theorem b9W(x y z g u:Int)(vd vt vs va vd' vt' vs' va':Value)(s:Sto.St)(w:World)(h:jT w vd vt vs va s)(h':jT w vd' vt' vs' va' s):
  Calls prog 8 #[.agg #[iV x,iV y,iV z,vd,iV g,vt,vs,iV u,va],.agg #[iV x,iV y,iV z,vd',iV g,vt',vs',iV u,va']] w fun e w'=>e=.returned (.bool true)∧Bl w w':=by
 have By:=a9W x y z
 have HT:Hid (∀w',Bl w w'→Calls prog 14 #[vt,vt'] w' fun e w2=>e=.returned (.bool true)∧Bl w' w2):=fun w' hb=>(a8E vt vt' s.tail s.tail w' (h.tl.bE hb) (h'.tl.bE hb)).mono fun e w2 q=>⟨q.1.yes rfl,by
  obtain⟨m,rfl⟩:=q.2
  exact dP w' m⟩
 have HV:Hid (∀w',Bl w w'→Calls prog 15 #[.agg #[iV u,va],.agg #[iV u,va']] w' fun e w2=>e=.returned (.bool true)∧Bl w' w2):=fun w' hb=>(sA u u va va' s.acc s.acc w' (h.ac.bE hb) (h'.ac.bE hb)).mono fun e w2 q=>⟨q.1.yes ⟨rfl,rfl⟩,q.2⟩;obtain⟨⟨Ad,Cd,rfl,Bv,Ba,hd⟩,ht,⟨As,Cs,rfl,Bx,Bg,hs⟩,ha⟩:=h;obtain⟨⟨Bd,Ed,rfl,Bz,Bm,kd⟩,Bh,⟨Bs,Es,rfl,C0,Bn,ks⟩,B9⟩:=h';obtain⟨At,Ct,rfl⟩:=ht.sE;obtain⟨Al,An,rfl⟩:=Bh.sE;obtain⟨Aa,Ca,rfl⟩:=ha.sE;obtain⟨Ak,Am,rfl⟩:=B9.sE;have HD:=hd8 hd;have KD:=hd8 kd;have HS:=hd8 hs;have KS:=hd8 ks;have Ba:=mL8 Ba;have Bg:=mL8 Bg;have Bm:=mL8 Bm;have Bn:=mL8 Bn;clear ht Bh ha B9 hd kd hs ks;obtain⟨nd,Az⟩: ∃n,n=s.disks.length:=⟨_,rfl⟩;obtain⟨ns,B1⟩: ∃n,n=s.seen.length:=⟨_,rfl⟩;obtain⟨nt,Bf⟩: ∃n,n=s.tail.length:=⟨_,rfl⟩;obtain⟨na,Be⟩: ∃n,n=s.acc.length:=⟨_,rfl⟩;rw[←Az]at Bv Bz⊢;rw[←B1]at Bx C0⊢;rw[←Bf]at HT⊢;rw[←Be]at HV⊢;have Bo:=hd8 Az;have Bp:=hd8 B1;clear Az B1 Bf Be;have b1:=aB8 w (.cells #[iV x,iV y,iV z,.slice Ad nd Cd,iV g,.slice At nt Ct,.slice As ns Cs,iV u,.slice Aa na Ca] 32);have b2:=aB8 (w.alloc (.cells #[iV x,iV y,iV z,.slice Ad nd Cd,iV g,.slice At nt Ct,.slice As ns Cs,iV u,.slice Aa na Ca] 32)) (.cells #[iV x,iV y,iV z,.slice Bd nd Ed,iV g,.slice Al nt An,.slice Bs ns Es,iV u,.slice Ak na Am] 32);have VA:=(aC w #[iV x,iV y,iV z,.slice Ad nd Cd,iV g,.slice At nt Ct,.slice As ns Cs,iV u,.slice Aa na Ca] 32).bE b2;have VB:=aC (w.alloc (.cells #[iV x,iV y,iV z,.slice Ad nd Cd,iV g,.slice At nt Ct,.slice As ns Cs,iV u,.slice Aa na Ca] 32)) #[iV x,iV y,iV z,.slice Bd nd Ed,iV g,.slice Al nt An,.slice Bs ns Es,iV u,.slice Ak na Am] 32;rw[show(w.alloc (.cells #[iV x,iV y,iV z,.slice Ad nd Cd,iV g,.slice At nt Ct,.slice As ns Cs,iV u,.slice Aa na Ca] 32)).heap.size=w.heap.size+1 by simp]at VB;have b2:=bt b1 b2;go_enter func8,ntmps8
 go_upto_region 1 with fail
 generalize (w.alloc (.cells #[iV x,iV y,iV z,.slice Ad nd Cd,iV g,.slice At nt Ct,.slice As ns Cs,iV u,.slice Aa na Ca] 32)).alloc (.cells #[iV x,iV y,iV z,.slice Bd nd Ed,iV g,.slice Al nt An,.slice Bs ns Es,iV u,.slice Ak na Am] 32)=w2 at*;have B5:=HT.out w2 b2;have Af:=hd8 VA;have Ag:=hd8 VB;have a0:=VA.q0;have a1:=VA.q1;have a2:=VA.q2;have a3:=VA.q3;have a4:=VA.q4;have a5:=VA.q5;have a6:=VA.q6;have d0:=VB.q0;have d1:=VB.q1;have d2:=VB.q2;have d3:=VB.q3;have d4:=VB.q4;have d5:=VB.q5;have d6:=VB.q6;clear VA VB b1;go_wp2_with fail;refine B5.mono ?_;rintro e w3 ⟨rfl,b3⟩;clear a0 a1 a2 a3 a4 a5 a6 d0 d1 d2 d3 d4 d5 d6 B5 By;have Ar:=bt b2 b3;have B6:=HV.out w3 Ar;have a7:=(Af.out.bE b3).q7;have a8:=(Af.out.bE b3).q8;have d7:=(Ag.out.bE b3).q7;have d8:=(Ag.out.bE b3).q8;go_wp2_with fail;refine B6.mono ?_;rintro e w4 ⟨rfl,b4⟩;have Av:=bt b3 b4;have Au:=bt Ar b4;have A0:=hd8 (Af.out.bE Av);have A9:=hd8 (Ag.out.bE Av);clear a7 a8 d7 d8 B6 HT HV Af Ag b3 b4 Av Ar b2;have a6:=A0.out.q6;go_wp2_with fail;clear a6;go_loopw [59] (fun x wr=> ∃k:Nat,k≤ns∧x=iV k∧Bl w4 wr) (fun x _=>ns-(intOf x).toNat)
 case atStart=>exact⟨0,c9D _,rfl,Below.refl _ _⟩
 case round=>
  obtain⟨k,hk,rfl,A5⟩:=hrel;by_cases Aw:k<ns
  ·have Ax:(k:Int)<(ns:Int):=by omega
   obtain⟨q,hq⟩: ∃q,s.seen[k]?=some q:=⟨s.seen[k]'(by rw[←Bp.out];exact Aw),c9F _⟩;obtain⟨b,o,rfl,r0⟩:=HS.out k q hq;obtain⟨b',o',rfl,A7⟩:=KS.out k q hq;have br:=bt Au A5;have e0:=cB8 br r0;have A6:=cB8 br A7;have a6:=(A0.out.bE A5).q6;have d6:=(A9.out.bE A5).q6;have C7:(q !=q)=false:=by simp
   clear r0 A7 hq;go_wp2_with fail;go_quiet (fail)
   go_wp2_with fail;exact⟨⟨k+1,by omega,by go_num,bdn A5 _⟩,by simp[intOf];omega⟩
  ·obtain rfl:k=ns:=by omega
   have br:=bt Au A5;obtain⟨w5,Bi⟩: ∃y,y=wr:=⟨wr,rfl⟩;rw[←Bi]at A5 br⊢;clear Bi;have A8:=hd8 (A0.out.bE A5);have Ac:=hd8 (A9.out.bE A5);have a3:=A8.out.q3;clear A0 A9 HS KS Au A5;go_wp2_with fail;clear a3;go_loopw [77] (fun x wi=> ∃i:Nat,i≤nd∧x=iV i∧Bl w5 wi) (fun x _=>nd-(intOf x).toNat)
   case atStart=>exact⟨0,c9D _,rfl,Below.refl _ _⟩
   case round=>
    obtain⟨i,hi,rfl,Ab⟩:=hrel;by_cases Aw:i<nd
    ·have Ax:(i:Int)<(nd:Int):=by omega
     obtain⟨q,hq⟩: ∃q,s.disks[i]?=some q:=⟨s.disks[i]'(by rw[←Bo.out];exact Aw),c9F _⟩;have bi:=bt br Ab;obtain⟨b,o,rfl,r0⟩:=HD.out i q hq;obtain⟨b',o',rfl,A7⟩:=KD.out i q hq;obtain⟨v1,e0,e1,Ai⟩:=r0.bE bi;obtain⟨v2,A6,Ae,Aj⟩:=A7.bE bi;obtain⟨A1,C1,rfl,g1,g2,Ai⟩:=Ai;obtain⟨A2,C2,rfl,Bu,B8,Aj⟩:=Aj;obtain⟨nq,B0⟩: ∃n,n=q.bl.length:=⟨_,rfl⟩;rw[←B0]at e1 Ae g1 Bu;have g2:=mL8 g2;have B8:=mL8 B8;have Ao:=hd8 Ai;have Ap:=hd8 Aj;have B2:=hd8 B0;obtain⟨gq,Bb⟩: ∃y,y=q.gone:=⟨_,rfl⟩;rw[←Bb]at e0 A6;clear Ai Aj B0 Bb r0 A7 hq;obtain⟨wo,Bk⟩: ∃y,y=wr:=⟨wr,rfl⟩;rw[←Bk]at Ab bi e0 A6 e1 Ae Ao Ap⊢;clear Bk;have a3:=(A8.out.bE Ab).q3;have d3:=(Ac.out.bE Ab).q3;go_upto_region 12 with fail
     go_cut [7,8]from 80 to 89 (fun p7 p8 wx=> ∃P Q,p7=.pointer (some (aD P 0))∧p8=.pointer (some (aD Q 0))∧aV wx P 58 [.bool gq,.slice A1 nq C1]∧aV wx Q 58 [.bool gq,.slice A2 nq C2]∧Bl wo wx)
     case first=>
      have Aq: ∀w',Bl wo w'→(w'.cell? (aD w.heap.size 3)=some (.slice (some (aD b o)) nd Cd)∧w'.cell? (aD (w.heap.size+1) 3)=some (.slice (some (aD b' o')) nd Ed)∧w'.cell? (aD b (o+i*2))=some (.bool gq)∧w'.cell? (aD b (o+i*2+1))=some (.slice A1 nq C1)∧w'.cell? (aD b' (o'+i*2))=some (.bool gq)∧w'.cell? (aD b' (o'+i*2+1))=some (.slice A2 nq C2))∧Bl wo w':=fun w' hb=>⟨⟨cB8 hb a3,cB8 hb d3,cB8 hb e0,cB8 hb e1,cB8 hb A6,cB8 hb Ae⟩,hb⟩;have Bq: ∀x,Bl wo (wo.alloc x).drew:=fun x=>(aB8 _ _).drew;have Br: ∀x y,Bl wo ((wo.alloc x).alloc y).drew:=fun x y=>((aB8 _ _).alloc ((Below.refl wo.heap.size wo).alloc (c9C _) x).size _).drew;have TD:=Aq wo.drew (Below.refl _ _).drew;go_region_held3 (fun w'=>(w'.cell? (aD w.heap.size 3)=some (.slice (some (aD b o)) nd Cd)∧w'.cell? (aD (w.heap.size+1) 3)=some (.slice (some (aD b' o')) nd Ed)∧w'.cell? (aD b (o+i*2))=some (.bool gq)∧w'.cell? (aD b (o+i*2+1))=some (.slice A1 nq C1)∧w'.cell? (aD b' (o'+i*2))=some (.bool gq)∧w'.cell? (aD b' (o'+i*2+1))=some (.slice A2 nq C2))∧Bl wo w')
       (first|with_reducible exact TD|with_reducible assumption|with_reducible exact Aq _ (Bq _)|with_reducible exact Aq _ (Br _ _))
       (fail)
      all_goals go_wp2_with fail
      all_goals go_meet
      ·obtain⟨q1,q2,q3⟩:=a7J (w0:=wo) (t:=58) (t':=58) (p:=.bool gq) (q:=.slice A1 nq C1) (c:=.bool gq) (d:=.slice A2 nq C2);exact⟨_,_,rfl,rfl,q1.bE (Below.refl _ _).drew,q2.bE (Below.refl _ _).drew,q3.drew⟩
      ·obtain⟨q1,q2,q3⟩:=a7J (w0:=wo) (t:=58) (t':=58) (p:=.bool gq) (q:=.slice A2 nq C2) (c:=.bool gq) (d:=.slice A1 nq C1);exact⟨_,_,rfl,rfl,q2.bE (Below.refl _ _).drew,q1.bE (Below.refl _ _).drew,q3.drew⟩
     case rest=>
      obtain⟨P,Q,rfl,rfl,VP,VQ,bc⟩:=hcut;obtain⟨w6,Bj⟩: ∃y,y=wc:=⟨wc,rfl⟩;rw[←Bj]at VP VQ bc⊢;have B3:=hd8 VP;have B4:=hd8 VQ;have p0:=VP.q0;have p1:=VP.q1;have q0:=VQ.q0;have q1:=VQ.q1;have Bw:(gq !=gq)=false:=by cases gq<;>rfl
      clear Bj VP VQ a3 d3 e0 A6 e1 Ae;go_wp2_with fail;clear p0 p1 q0 q1 Bw;go_loopw [107] (fun x wi=> ∃j:Nat,j≤nq∧x=iV j∧Bl w6 wi) (fun x _=>nq-(intOf x).toNat)
      case atStart=>exact⟨0,c9D _,rfl,Below.refl _ _⟩
      case round=>
       obtain⟨j,hj,rfl,Ah⟩:=hrel;have bj:=bt bc Ah;by_cases Ay:j<nq
       ·have Bc:(j:Int)<(nq:Int):=by omega
        obtain⟨⟨sg,B7⟩,hq⟩: ∃q',q.bl[j]?=some q':=⟨q.bl[j]'(by rw[←B2.out];exact Ay),c9F _⟩;obtain⟨bb,oo,rfl,r0⟩:=Ao.out j _ hq;obtain⟨Bt,C5,rfl,A7⟩:=Ap.out j _ hq;obtain⟨v1,e0,e1,y1⟩:=r0.bE bj;obtain⟨v2,A6,Ae,y2⟩:=A7.bE bj;have x1:=fun n=>b9N (y1.bE (dP wr n));have x2:=fun n=>b9N (y2.bE (dP wr n));obtain⟨_,A3,C3,rfl,_⟩:=y1;obtain⟨_,A4,C4,rfl,_⟩:=y2;have p1:=(B3.out.bE Ah).q1;have q1:=(B4.out.bE Ah).q1;have e0:wr.cell? (aD bb (oo+j*2))=some (iV sg):=e0;have A6:wr.cell? (aD Bt (C5+j*2))=some (iV sg):=A6;have C8:(sg !=sg)=false:=by simp
        generalize hS9:fF B7=S9 at x1 x2;have C9:(S9.toList==S9.toList)=true:=by simp
        obtain⟨n9,C6⟩: ∃n,n=B7.length:=⟨_,rfl⟩;clear r0 A7 hq hS9;go_wp2_with fail;go_quiet (fail)
        go_wp2_with fail;exact⟨⟨j+1,by omega,by go_num,bdn Ah _⟩,by simp[intOf];omega⟩
       ·obtain rfl:j=nq:=by omega
        clear B3 B4 Ao Ap B2;go_wp2_with fail;exact⟨⟨i+1,by omega,by go_num,bt Ab bj⟩,by simp[intOf];omega⟩
    ·obtain rfl:i=nd:=by omega
     clear A8 Ac;go_wp2_with fail;go_ret
     exact⟨rfl,bt br Ab⟩
abbrev doL(k:Int)(d:Sto.Do)(ve:Value)(t:ByteArray):List Value:=[iV k,iV d.n,iV d.seg,iV d.pos,.int .u8 d.turn,iV d.bat.cmd,ve,.string t,iV d.ver]
theorem c6V{d:Sto.Do}{k:Int}(h:d.kind=k)(ve:Value)(t:ByteArray):dX d ve t=doL k d ve t:=by
 subst h;rfl
structure SJ(X:Sto.Six)(c:Sto.Cfg)(s:Sto.St)(d:Sto.Do)(T:Nat→Bool)(w:World)(Ad:Option Addr)(nd Cd:Nat)(At:Option Addr)(nt Ct:Nat)(As:Option Addr)(ns Cs:Nat)(Aa:Option Addr)(na Ca:Nat)(Ae:Option Addr)(ne Ce:Nat)(t:ByteArray):Prop where
 x:Sto.dE X
 st0:jT (aS T w) (.slice Ad nd Cd) (.slice At nt Ct) (.slice As ns Cs) (.slice Aa na Ca) s
 wf:WfJ c s
 do0:sS (aS T w) d (.slice Ae ne Ce) t
 pv:lO (.slice As ns Cs)
 low: ∀k,T k=true→k<w.heap.size
section
variable {X : Sto.Six} {c : Sto.Cfg} {s : Sto.St} {d : Sto.Do} {T : Nat → Bool} {w : World} {Ad At As Aa Ae : Option Addr} {nd Cd nt Ct ns Cs na Ca ne Ce : Nat} {t : ByteArray}
theorem SJ.st(H:SJ X c s d T w Ad nd Cd At nt Ct As ns Cs Aa na Ca Ae ne Ce t):jT w (.slice Ad nd Cd) (.slice At nt Ct) (.slice As ns Cs) (.slice Aa na Ca) s:=H.st0.sub (mG T w)
theorem SJ.same(H:SJ X c s d T w Ad nd Cd At nt Ct As ns Cs Aa na Ca Ae ne Ce t)(hb:Bl w w'){a:Sto.Ans}{ve vl:Value}(he:Evs (aS T w') ve a.evs)(hl:bG (aS T w') vl a.vl):dK (.returned (.tuple #[stA c.d c.s c.b (.slice Ad nd Cd) s.segs (.slice At nt Ct) (.slice As ns Cs) s.u (.slice Aa na Ca),.agg #[iV a.err,iV a.n,ve,iV a.vu,vl]])) T w w' c (s,a):=xO H.st0 H.pv hb he hl
theorem SJ.no(H:SJ X c s d T w Ad nd Cd At nt Ct As ns Cs Aa na Ca Ae ne Ce t)(hb:Bl w w')(E:Nat)(n:Int):dK (.returned (.tuple #[stA c.d c.s c.b (.slice Ad nd Cd) s.segs (.slice At nt Ct) (.slice As ns Cs) s.u (.slice Aa na Ca),.agg #[iV E,iV n,nS,iV 0,nS]])) T w w' c (s,⟨E,n,[],0,[]⟩):=a8D H.st0 H.pv hb E n
end
theorem qN(w:World)(st dc:Array Value): ∃w1,w1=(((w.alloc (.cells st 32)).alloc (.cells dc 49)).alloc (.cells jE 32)).alloc (.cells nC 42)∧PJ w w1 st.toList dc.toList:=⟨_,rfl,b9G w st dc⟩
theorem c2V(ho:Off S w2 wE)(hS: ∀k,S k→T1 k=true)(hT: ∀k,T k=true→T1 k=true):fC (aS T1 w2) (aS T wE):=sP ((ho.wider hS).trans ((iX T wE).wider hT))
theorem zY(hb:Bl w w1)(h: ∀k,k<w.heap.size→T1 k=true→T k=true):fC (aS T w) (aS T1 w1):=sP (Off.down hb (iX T1 w1) h)
def c6E(T:Nat→Bool)(N:Nat):Nat→Bool:=fun k=>T k||(decide (k=N+1+1)||decide (k=N+1+1+1))
theorem oF:c6E T N k=true↔T k=true∨k=N+1+1∨k=N+1+1+1:=by
 unfold c6E;simp
theorem yZ(w2:World)(P Q:Nat)(a b c d e f g i j k l m n o:Value):Off (fun q=>q=P∨q=Q) w2 ((((((((((((((w2.setCell (aD P 0) a).setCell (aD P 1) b).setCell (aD P 2) c).setCell (aD P 3) d).setCell (aD P 4) e).setCell (aD P 5) f).setCell (aD P 6) g).setCell (aD P 7) i).setCell (aD P 8) j).setCell (aD Q 0) k).setCell (aD Q 1) l).setCell (aD Q 2) m).setCell (aD Q 3) n).setCell (aD Q 4) o):=
 ((fE w2 P a b c d e f g i j).wider fun _ z=>Or.inl z).trans ((aT _ Q k l m n o).wider fun _ z=>Or.inr z)
theorem cH.blankT{M:Nat}{es:List EvC}(h:cH w2 N v es)(ho:Off (fun q=>q=M+1+1∨q=M+1+1+1) w2 wE)(hN:M+1+1+1<N)(hT: ∀k,T k=true→k<N):cH (aS T wE) N v es:=
 h.off ((ho.wider fun _ z=>Or.inl z).trans ((iX T wE).wider fun _ z=>Or.inr z)) fun g hg z=>by
  have:=(h.1.lt g hg).1
  rcases z with(z|z)|z
  ·omega
  ·omega
  ·have:=hT g z
   omega
theorem dM.dks_off{U:Nat→List HeC}{ds:List Sto.aM}(h:dM w N D V U ds)(ho:Off S w W)(hS: ∀k,S k→k<N)(h1:ds.length≤C)(h2:C≤maxLen):Dks W (.slice (some (aD D 0)) ds.length C) ds:=by
 obtain⟨S',A0⟩: ∃S':Nat→Bool,∀k,S' k=true↔k=D∨S k:=⟨fun k=>@decide (k=D∨S k) (Classical.propDecidable _),fun k=>@decide_eq_true_iff _ (Classical.propDecidable _)⟩
 have hj:=h.dkJ (S:=S') ((A0 D).2 (Or.inl rfl)) (fun k hk=>by
  rcases(A0 k).1 hk with rfl|z
  ·exact Or.inr ⟨58,h.row.ty,by decide,by decide⟩
  ·exact Or.inl (hS k z))
 exact(hj.offS ho (fun k hk=>⟨(A0 k).2 (Or.inr hk),fun e=>by
  have:=hS k hk;have:=h.ge
  omega⟩)).dks h1 h2
theorem SJ.disks{X:Sto.Six}{c:Sto.Cfg}{s:Sto.St}{d:Sto.Do}{ne:Nat}{t:ByteArray}(H:SJ X c s d T w Ad nd Cd At nt Ct As ns Cs Aa na Ca Ae ne Ce t){U:Nat→List HeC}{ds:List Sto.aM}(hb:Bl w w2)(hd:dM w2 N D V U ds)(ho:Off (fun q=>q=w.heap.size+1+1∨q=w.heap.size+1+1+1) w2 wE)(hN:w.heap.size+1+1+1<N)(hn:n=ds.length)(h1:n≤C)(h2:C≤maxLen)(E:Nat)(m:Int):dK (.returned (.tuple #[stA c.d c.s c.b (.slice (some (aD D 0)) n C) s.segs (.slice At nt Ct) (.slice As ns Cs) s.u (.slice Aa na Ca),.agg #[iV E,iV m,nS,iV 0,nS]])) T w wE c ({s with disks:=ds},⟨E,m,[],0,[]⟩):=by
 have A0:Bl w wE:=hb.trans (ho.bE hb.size fun q hq=>by omega);have hs:fC (aS T w) (aS T wE):=cR A0;have o3:Off (fun q=>(q=w.heap.size+1+1∨q=w.heap.size+1+1+1)∨T q=true) w2 (aS T wE):=(ho.wider fun _ z=>Or.inl z).trans ((iX T wE).wider fun _ z=>Or.inr z);subst hn
 exact⟨_,_,_,_,_,_,rfl,⟨hd.dks_off o3 (fun q hq=>by
  rcases hq with(z|z)|z
  ·omega
  ·omega
  ·have:=H.low q z
   omega) h1 h2,H.st0.tl.sub hs,H.st0.sn.sub hs,H.st0.ac.sub hs⟩,kB _,bG.nil _,H.pv,A0⟩
theorem b2V{k:Int}: ∀{bl:List (Int×List Nat)} {i:Nat} {h:Int×List Nat},Sto.Up bl→bl[i]?=some h→h.1=k→bl.find? (fun h=>decide (h.1=k))=some h
 |[],_,_,_,hi,_=>by cases hi
 |x::t,0,h,hu,hi,hk=>by
  cases hi
  exact List.find?_cons_of_pos (p:=fun h:Int×List Nat=>decide (h.1=k)) (decide_eq_true hk)
 |x::t,i+1,h,hu,hi,hk=>by
  obtain⟨h1,h2⟩:=d1A.1 hu
  have hi:t[i]?=some h:=hi
  have:=h1 h (c9N hi)
  exact(List.find?_cons_of_neg (p:=fun h:Int×List Nat=>decide (h.1=k)) (by
   intro z
   have:=of_decide_eq_true z
   omega)).trans (b2V h2 hi hk)
theorem noJ{c:Sto.Cfg}{g u:Int}{dc:List Value}(E:Nat)(h:PJ w w1 (stL c (.slice Ad nd Cd) g (.slice At nt Ct) (.slice As ns Cs) u (.slice Aa na Ca)) dc):Calls prog 31 #[iV E,.pointer (some (aD w.heap.size 0))] w1 fun e w'=>e=.returned (.tuple #[stA c.d c.s c.b (.slice Ad nd Cd) g (.slice At nt Ct) (.slice As ns Cs) u (.slice Aa na Ca),.agg #[iV E,iV 0,nS,iV 0,nS]])∧PJ w w' (stL c (.slice Ad nd Cd) g (.slice At nt Ct) (.slice As ns Cs) u (.slice Aa na Ca)) dc:=
 (eL w.heap.size E c.d c.s c.b g u Ad nd Cd At nt Ct As ns Cs Aa na Ca w1 h.st).mono fun _ _ z=>⟨z.1,h.bE z.2⟩
theorem SJ.fin{X:Sto.Six}{c:Sto.Cfg}{s:Sto.St}{d:Sto.Do}{ne:Nat}{t:ByteArray}(H:SJ X c s d T w Ad nd Cd At nt Ct As ns Cs Aa na Ca Ae ne Ce t){r:Sto.St×Sto.Ans}{E:Nat}{n:Int}(hr:Sto.step X c s d=r)(h:Sto.step X c s d=(s,⟨E,n,[],0,[]⟩))(hb:Bl w wE):dK (.returned (.tuple #[stA c.d c.s c.b (.slice Ad nd Cd) s.segs (.slice At nt Ct) (.slice As ns Cs) s.u (.slice Aa na Ca),.agg #[iV E,iV n,nS,iV 0,nS]])) T w wE c r:=by
 rw[←hr,h]
 exact H.no hb E n
section
variable {X : Sto.Six} {c : Sto.Cfg} {s : Sto.St} {d : Sto.Do} {T : Nat → Bool} {w : World} {Ad At As Aa Ae : Option Addr} {nd Cd nt Ct ns Cs na Ca ne Ce : Nat} {t : ByteArray}
theorem a4A(H:SJ X c s d T w Ad nd Cd At nt Ct As ns Cs Aa na Ca Ae ne Ce t)(hk:d.kind=4):
  Calls prog 11 #[.agg #[iV c.d,iV c.s,iV c.b,.slice Ad nd Cd,iV s.segs,.slice At nt Ct,.slice As ns Cs,iV s.u,.slice Aa na Ca],.agg #[iV 4,iV d.n,iV d.seg,iV d.pos,.int .u8 d.turn,iV d.bat.cmd,.slice Ae ne Ce,.string t,iV d.ver]] w fun e w'=>dK e T w w' c (Sto.step X c s d):=by
 have HJ:=hd8 H;obtain⟨r,hr⟩: ∃r,r=Sto.step X c s d:=⟨_,rfl⟩;have Ab:=hd8 hr.symm;rw[←hr];obtain⟨w1,Aw,Af⟩:=qN w #[iV c.d,iV c.s,iV c.b,.slice Ad nd Cd,iV s.segs,.slice At nt Ct,.slice As ns Cs,iV s.u,.slice Aa na Ca] #[iV 4,iV d.n,iV d.seg,iV d.pos,.int .u8 d.turn,iV d.bat.cmd,.slice Ae ne Ce,.string t,iV d.ver];have eg:=Tryz.enters_noS;clear H hr;go_enter func11,ntmps11
 go_upto_region 1 with fail
 rw[←Aw];clear Aw;have A3:=hd8 Af;have d0:=Af.dc.q0;clear Af;have A9:=rC HJ.out.x c s (.slice Ad nd Cd) (.slice At nt Ct) (.slice As ns Cs) (.slice Aa na Ca) w1 (HJ.out.st.sub (fC.oE A3.out.bel)) HJ.out.wf;obtain⟨x,l,Aj⟩: ∃x l,Sto.all X c s=(x,l):=⟨_,_,rfl⟩;have A7:Hid (Sto.step X c s d=(s,lP (x,l) (nW l))):=by
  show Sto.step X c s d=_;rw[a2G hk,Aj]
 rw[Aj]at A9;obtain⟨a0,a1,a2,a3,a4,a5,a6,a7,a8⟩:=A3.out.st.c9;clear Aj;go_wp2_with fail;refine A9.mono ?_;rintro e w2 ⟨hA,b2⟩;obtain⟨v,es,he,Aq,hB,B5⟩: ∃(v:Value) (es:List EvC),e=Ending.returned (.tuple #[v,iV x])∧es.map aY=l∧cH w2 w1.heap.size v es∧es.length≤200000:=hA;subst he;have A4:=hd8 (A3.out.bE b2);have A0:=hd8 A3.out.size;have B2:Hid (∀k,T k=true→k<w1.heap.size):=fun k z=>by
  have:=HJ.out.low k z;have:=A0.out;omega
 have A2:=hd8 hB;have Az:=hd8 Aq;have An:w1.heap.size≤w2.heap.size:=b2.size;clear A9 a0 a1 a2 a3 a4 a5 a6 a7 a8 hB Aq A3 d0 b2;by_cases hx:x=0
 case neg=>
  have Ai:((x:Int)==0)=false:=by rw[beq_eq_false_iff_ne];omega
  have B4:((x:Int) !=0)=true:=by rw[bne,Ai];rfl
  have A6:Hid (Sto.step X c s d=(s,⟨x,0,[],0,[]⟩)):=by
   show Sto.step X c s d=_;rw[A7.out];unfold lP;rw[if_pos hx];rfl
  have Am:=A4.out;obtain⟨A,C,hv⟩:=A2.out.sE;subst hv;have Ak:=noJ x Am;clear Am A4 hk hx A2 A7;go_wp2_with fail;refine Ak.mono ?_;rintro e wn ⟨rfl,Ag⟩;obtain⟨x0,x1,x2,x3,x4,x5,x6,x7,x8,p0,p1,p2,p3,p4,p5,p6,p7,p8,y0,y1,y2,y3,y4,q0,q1,q2,q3,q4⟩:=Ag.res;have Ay:=Ag.bel;clear Ak Ag;go_wp2_with fail;exact bodyPost_ret (by simp[results,results11,go_sem,x0,x1,x2,x3,x4,x5,x6,x7,x8,y0,y1,y2,y3,y4]) rfl (HJ.out.fin Ab.out A6.out (noB Ay (by omega) (by omega) _ _ _ _ _ _ _ _ _ _ _ _ _ _))
 case pos=>
  have Ai:((x:Int)==0)=true:=by rw[hx];rfl
  have B4:((x:Int) !=0)=false:=by rw[bne,Ai];rfl
  have A6:Hid (Sto.step X c s d=(s,nW l)):=by
   show Sto.step X c s d=_;rw[A7.out];unfold lP;rw[if_neg (fun z=>z hx)]
  clear A7 hx hk;obtain⟨A,C,hv⟩:=A2.out.sE;subst hv;have d0:=A4.out.dc.q0;have A5:=vL 0 nS _ [] l w2 (bG.nil _) (by rw[←Az.out];exact A2.out.evs);have Ac:Hid (nW l=⟨(Vw.cD 0 [] l).1.1,(Vw.cD 0 [] l).2.1,[],(Vw.cD 0 [] l).2.1,(Vw.cD 0 [] l).2.2⟩):=rfl;obtain⟨fo,Ar⟩: ∃q,q=Vw.cD 0 [] l:=⟨_,rfl⟩;rw[←Ar]at A5 Ac;obtain⟨⟨E4,i4⟩,u4,l4⟩:=fo;unfold FoR jU at A5;have B1:Hid (r=(s,⟨E4,u4,[],u4,l4⟩)):=by
   show r=_;rw[←Ab.out,A6.out,Ac.out]
  clear A6 Ac Ar Ab;go_wp2_with fail;refine A5.mono ?_;rintro e w7 ⟨⟨v7,rfl,Ah,Ao⟩,b7⟩;obtain⟨Av,nv,Cv,rfl⟩:=dT Ah;have Al:=hd8 (Ao.imp (fun z=>z.mono An) id);have bV:=aB8 w7 (.cells #[iV u4,.slice Av nv Cv] 30);have bW:=aB8 (w7.alloc (.cells #[iV u4,.slice Av nv Cv] 30)) (.cells #[iV E4,iV i4] 78);have VV:=(aC w7 #[iV u4,.slice Av nv Cv] 30).bE bW;have VF:=aC (w7.alloc (.cells #[iV u4,.slice Av nv Cv] 30)) #[iV E4,iV i4] 78;have Au:(w7.alloc (.cells #[iV u4,.slice Av nv Cv] 30)).heap.size=w7.heap.size+1:=d2K _;rw[Au]at VF;have A8:=(Ah.bE bV).bE bW;have A1:=((A4.out.bE b7).bE bV).bE bW;have B3:w2.heap.size≤w7.heap.size:=b7.size;clear A5 A4 b7 bV bW Au Ah Ao d0;go_upto_region 13 with fail
  obtain⟨w8,Ax⟩: ∃q,q=(w7.alloc (.cells #[iV u4,.slice Av nv Cv] 30)).alloc (.cells #[iV E4,iV i4] 78):=⟨_,rfl⟩;rw[←Ax]at VV VF A8 A1⊢;obtain⟨QV,Ap⟩: ∃q,q=w7.heap.size:=⟨_,rfl⟩;rw[←Ap]at VV VF⊢;have v0:=VV.q0;have v1:=VV.q1;have f0:=VF.q0;obtain⟨a0,a1,a2,a3,a4,a5,a6,a7,a8⟩:=A1.st.c9;obtain⟨x0,x1,x2,x3,x4,x5,x6,x7,x8,p0,p1,p2,p3,p4,p5,p6,p7,p8,y0,y1,y2,y3,y4,q0,q1,q2,q3,q4⟩:=A1.res;have B0:Hid (∀wE,Off (fun q=>q=w.heap.size+1+1∨q=w.heap.size+1+1+1) w8 wE→dK (.returned (.tuple #[stA c.d c.s c.b (.slice Ad nd Cd) s.segs (.slice At nt Ct) (.slice As ns Cs) s.u (.slice Aa na Ca),.agg #[iV E4,iV u4,nS,iV u4,.slice Av nv Cv]])) T w wE c r):=fun wE ho=>by
   rw[B1.out];refine HJ.out.same (a:=⟨E4,u4,[],u4,l4⟩) (A1.bel.trans (ho.bE A1.bel.size fun q z=>by omega)) (kB _) ?_;rcases Al.out with z|⟨z,z'⟩
   ·refine A8.off ((ho.wider fun _ z=>Or.inl z).trans ((iX T wE).wider fun _ z=>Or.inr z)) fun g hg y=>?_;have h1:=z g hg;have h2:=A0.out;rcases y with(y|y)|y
    ·omega
    ·omega
    ·have:=B2.out g y;omega
   ·rw[z];show bG (aS T wE) _ l4;rw[z'];exact bG.nil _
  have q1: ¬QV=w.heap.size+1+1:=by have:=A0.out;omega
  have q2: ¬QV=w.heap.size+1+1+1:=by have:=A0.out;omega
  have q3: ¬QV+1=w.heap.size+1+1:=by have:=A0.out;omega
  have q4: ¬QV+1=w.heap.size+1+1+1:=by have:=A0.out;omega
  clear Ax Ap A8 A1 VV VF Al A2 B3 An;go_region
  go_wp2_with fail;exact bodyPost_ret (by simp[results,results11,go_sem,x0,x1,x2,x3,x4,x5,x6,x7,x8,y0,y1,y2,y3,y4]) rfl (B0.out _ (a2W _ _ _ _ _ _ _ _ _ _ _ _ _ _ _ _ _))
end
section
variable {X : Sto.Six} {c : Sto.Cfg} {s : Sto.St} {d : Sto.Do} {T : Nat → Bool} {w : World} {Ad At As Aa Ae : Option Addr} {nd Cd nt Ct ns Cs na Ca ne Ce : Nat} {t : ByteArray}
theorem b5N{es:List Evt.Ev}{e:Evt.Ev}(h:es[k]?=some e)(p:Evt.Ev→Bool):(es.take (k+1)).filter p=(es.take k).filter p++(if p e=true then[e]else[]):=by
 obtain⟨hk,rfl⟩:=c9H.1 h;rw[List.take_succ_eq_append_getElem hk,d1O];congr 1;by_cases q:p es[k]=true
 ·rw[if_pos q];simp[q]
 ·rw[if_neg q];simp[q]
theorem c5B(es:List EvC): ∀u∈es.flatMap eH,u.oneCell'=true:=fun u hu=>by
 obtain⟨x,_,hx⟩:=d2H.1 hu
 simp only[eH,List.mem_cons,List.not_mem_nil,or_false]at hx
 rcases hx with rfl|rfl|rfl<;>rfl
theorem c3Q(w:World)(N:Nat)(v:Value)(es:List EvC)(x:EvC)(h0:cH w N v es)(hN:N≤w.heap.size)(hz:x.1.size≤9223372036854775807)(hsz:es.length≤200000):
  ∃v' w',(Builtin.append_ #[40,40] 40 #[v,.slice (some (aD w.heap.size 0)) 1 1]).run prog (w.alloc (.cells #[.string x.1,iV x.2.1,iV x.2.2] 83))=.ok v' w'∧cH w' N v' (es++[x])∧Below N w w':=by
 obtain⟨i3,A2,A1⟩:=c9J.1 Tryz.infoEvent;simp only[Prod.mk.injEq]at A1;obtain⟨A3,A4,A5⟩:=A1;have bA:=aB8 w (.cells #[.string x.1,iV x.2.1,iV x.2.2] 83);have h1:=h0.bE bA;obtain⟨v',w',A0,ho,hg,_⟩:=run_append_own (P:=prog) (w.alloc (.cells #[.string x.1,iV x.2.1,iV x.2.2] 83)) N 40 40 83 i3 _ 3 32 underlying40 A2 A3 A4 A5 rfl (by decide) v es.length _ h1.1 (aD w.heap.size 0) 1 1 ([x].flatMap eH) rfl (eE w _ 83) (c5B [x]) (by unfold maxLen;omega) (by omega) (c9E hN bA.size);refine⟨v',w',A0,⟨?_,fun e he=>?_⟩,(bA.mono hN).trans ((Below.refl N _).grown hg (c9E hN bA.size) (fun y hy=>(h1.1.lt y hy).1))⟩
 ·rw[c9I,d0H];exact ho
 ·rcases List.mem_append.1 he with q|q
  ·exact h0.2 e q
  ·rw[d1Z.1 q];exact hz
theorem a3U(H:SJ X c s d T w Ad nd Cd At nt Ct As ns Cs Aa na Ca Ae ne Ce t)(hk:d.kind=2):
  Calls prog 11 #[.agg #[iV c.d,iV c.s,iV c.b,.slice Ad nd Cd,iV s.segs,.slice At nt Ct,.slice As ns Cs,iV s.u,.slice Aa na Ca],.agg #[iV 2,iV d.n,iV d.seg,iV d.pos,.int .u8 d.turn,iV d.bat.cmd,.slice Ae ne Ce,.string t,iV d.ver]] w fun e w'=>dK e T w w' c (Sto.step X c s d):=by
 have HJ:=hd8 H;obtain⟨r,hr⟩: ∃r,r=Sto.step X c s d:=⟨_,rfl⟩;have Ag:=hd8 hr.symm;rw[←hr];obtain⟨w1,B7,Ap⟩:=qN w #[iV c.d,iV c.s,iV c.b,.slice Ad nd Cd,iV s.segs,.slice At nt Ct,.slice As ns Cs,iV s.u,.slice Aa na Ca] #[iV 2,iV d.n,iV d.seg,iV d.pos,.int .u8 d.turn,iV d.bat.cmd,.slice Ae ne Ce,.string t,iV d.ver];have eg:=Tryz.enters_noS;clear H hr;go_enter func11,ntmps11
 go_upto_region 1 with fail
 rw[←B7];clear B7;have A9:=hd8 Ap;have d0:=Ap.dc.q0;clear Ap;have Ak:=rC HJ.out.x c s (.slice Ad nd Cd) (.slice At nt Ct) (.slice As ns Cs) (.slice Aa na Ca) w1 (HJ.out.st.sub (fC.oE A9.out.bel)) HJ.out.wf;obtain⟨x,l,Aw⟩: ∃x l,Sto.all X c s=(x,l):=⟨_,_,rfl⟩;have Ah:Hid (Sto.step X c s d=(s,lP (x,l) (ofA l d.name))):=by
  show Sto.step X c s d=_;rw[a2U hk,Aw]
 rw[Aw]at Ak;obtain⟨a0,a1,a2,a3,a4,a5,a6,a7,a8⟩:=A9.out.st.c9;clear Aw;go_wp2_with fail;refine Ak.mono ?_;rintro e w2 ⟨hA,b2⟩;obtain⟨v,es,he,B5,hB,Be⟩: ∃(v:Value) (es:List EvC),e=Ending.returned (.tuple #[v,iV x])∧es.map aY=l∧cH w2 w1.heap.size v es∧es.length≤200000:=hA;subst he;have A2:=hd8 (A9.out.bE b2);have B0:=hd8 A9.out.size;have Ba:Hid (∀k,T k=true→k<w1.heap.size):=fun k z=>by
  have:=HJ.out.low k z;have:=B0.out;omega
 have A6:=hd8 hB;have An:=hd8 B5;have Bm:w1.heap.size≤w2.heap.size:=b2.size;clear Ak a0 a1 a2 a3 a4 a5 a6 a7 a8 hB B5 A9 d0 b2;by_cases hx:x=0
 case neg=>
  have Av:((x:Int)==0)=false:=by rw[beq_eq_false_iff_ne];omega
  have Bk:((x:Int) !=0)=true:=by rw[bne,Av];rfl
  have A0:Hid (Sto.step X c s d=(s,⟨x,0,[],0,[]⟩)):=by
   show Sto.step X c s d=_;rw[Ah.out];unfold lP;rw[if_pos hx];rfl
  have B3:=A2.out;obtain⟨A,C,hv⟩:=A6.out.sE;subst hv;have A8:=noJ x B3;clear B3 A2 hk hx A6 Ah;go_wp2_with fail;refine A8.mono ?_;rintro e wn ⟨rfl,A3⟩;obtain⟨x0,x1,x2,x3,x4,x5,x6,x7,x8,p0,p1,p2,p3,p4,p5,p6,p7,p8,y0,y1,y2,y3,y4,q0,q1,q2,q3,q4⟩:=A3.res;have Al:=A3.bel;clear A8 A3;go_wp2_with fail;exact bodyPost_ret (by simp[results,results11,go_sem,x0,x1,x2,x3,x4,x5,x6,x7,x8,y0,y1,y2,y3,y4]) rfl (HJ.out.fin Ag.out A0.out (noB Al (by omega) (by omega) _ _ _ _ _ _ _ _ _ _ _ _ _ _))
 case pos=>
  have Av:((x:Int)==0)=true:=by rw[hx];rfl
  have Bk:((x:Int) !=0)=false:=by rw[bne,Av];rfl
  have A0:Hid (Sto.step X c s d=(s,ofA l d.name)):=by
   show Sto.step X c s d=_;rw[Ah.out];unfold lP;rw[if_neg (fun z=>z hx)]
  clear Ah hx hk;obtain⟨A,C,hv,Bb,Aq,Ai⟩:=A6.out.evs;rw[An.out]at hv Bb Ai;have Am:=hd8 Ai;have Bc:=mL8 Aq;subst hv;have Bo:l.length≤200000:=by rw[←An.out,c9M];exact Be
  have d0:=A2.out.dc.q0;have d7:=A2.out.dc.q7;have Ac:nb t=d.name:=HJ.out.do0.name;have Bj:=HJ.out.do0.sz;have Aj:=nP t w2 Bj;by_cases q: ¬Evt.cV d.name
  case pos=>
   have A7:Calls prog 35 #[.string t] w2 fun e w3=>e=.returned (.bool false)∧Bl w2 w3:=Aj.mono fun e w3 z=>⟨by
    obtain⟨y,rfl,hy⟩:=z.1;have:y=false:=by
     cases y
     ·rfl
     ·rw[Ac]at hy;exact absurd (hy.1 rfl) q
    rw[this],z.2⟩
   have A0:Hid (Sto.step X c s d=(s,⟨7,0,[],0,[]⟩)):=by
    show Sto.step X c s d=_;rw[A0.out];unfold ofA;rw[if_pos q];rfl
   clear Aj q Ai Am Aq Ac;go_wp2_with fail;refine A7.mono ?_;rintro e w3 ⟨rfl,b3⟩;have B4:=A2.out.bE b3;have A8:=noJ 7 B4;clear B4 A2 A6 A7 d0 d7;go_wp2_with fail;refine A8.mono ?_;rintro e wn ⟨rfl,A3⟩;obtain⟨x0,x1,x2,x3,x4,x5,x6,x7,x8,p0,p1,p2,p3,p4,p5,p6,p7,p8,y0,y1,y2,y3,y4,q0,q1,q2,q3,q4⟩:=A3.res;have Al:=A3.bel;clear A8 A3;go_wp2_with fail;exact bodyPost_ret (by simp[results,results11,go_sem,x0,x1,x2,x3,x4,x5,x6,x7,x8,y0,y1,y2,y3,y4]) rfl (HJ.out.fin Ag.out A0.out (noB Al (by omega) (by omega) _ _ _ _ _ _ _ _ _ _ _ _ _ _))
  case neg=>
   have q:=d2J.1 q
   have A7:Calls prog 35 #[.string t] w2 fun e w3=>e=.returned (.bool true)∧Bl w2 w3:=Aj.mono fun e w3 z=>⟨by
    obtain⟨y,rfl,hy⟩:=z.1;rw[Ac]at hy
    rw[hy.2 q],z.2⟩
   have A0:Hid (Sto.step X c s d=(s,⟨0,((l.filter fun e=>decide (e.name=nb t)).length:Nat),l.filter fun e=>decide (e.name=nb t),0,[]⟩)):=by
    show Sto.step X c s d=_;rw[A0.out];unfold ofA;rw[if_neg (fun z=>z q),Ac]
   clear Aj q Ai Aq Ac;go_wp2_with fail;refine A7.mono ?_;rintro e w3 ⟨rfl,b3⟩;have Bn:w2.heap.size≤w3.heap.size:=b3.size;have Ao:=hd8 (A2.out.bE b3);have Ay:Hid (∀wr,Bl w3 wr→Bl w2 wr):=fun wr z=>bt b3 z;clear A7 d0 d7 A2;go_wp2_with fail;go_loopw [11,104] (fun yv x wr=> ∃(k:Nat) (os:List EvC),k≤l.length∧x=iV k∧cH wr w3.heap.size yv os∧Hid (os.map aY=(l.take k).filter fun e=>decide (e.name=nb t))∧Bl w3 wr) (fun _ x _=>l.length-(intOf x).toNat)
   case atStart=>exact⟨0,[],c9D _,rfl,cH.nil w3 _,rfl,Below.refl _ _⟩
   case round=>
    obtain⟨k,os,hk,rfl,BO,HO,A1⟩:=hrel;have Bp:os.length≤200000:=by
     have h1:=congrArg List.length HO.out;have h2:=d2P (fun e:Evt.Ev=>decide (e.name=nb t)) (l.take k);rw[c9M]at h1;rw[c9K]at h2;omega
    by_cases Bf:k<l.length
    ·have Bg:(k:Int)<(l.length:Int):=by omega
     obtain⟨ev,Ar⟩: ∃ev,l[k]?=some ev:=⟨l[k],c9F Bf⟩;obtain⟨b,o,rfl,B6⟩:=Am.out k ev Ar;obtain⟨s1,Bh,Au,e0,e1,e2⟩:=B6.bE (Ay.out _ A1);have A5:=b5N Ar (fun e:Evt.Ev=>decide (e.name=nb t));have B8:Hid (aY (s1,ev.kind,ev.num)=ev):=by
      show(⟨nb s1,ev.kind,ev.num⟩:Evt.Ev)=ev;rw[Au]
     have B2:Hid ((s1.toList==t.toList)=decide (ev.name=nb t)):=by
      show _=_;rw[nD,Au]
     have bA:=aB8 wr (.cells #[.string s1,iV ev.kind,iV ev.num] 83);have BO:=BO.bE bA;have d7:=((Ao.out.bE A1).bE bA).dc.q7;have A1:=bt A1 bA;have VE:=iF wr (.string s1) (iV ev.kind) (iV ev.num);obtain⟨g0,g1,g2⟩:=VE;clear Ar Au B6;by_cases hq:ev.name=nb t
     ·have A5:Hid ((l.take (k+1)).filter (fun e:Evt.Ev=>decide (e.name=nb t))=(l.take k).filter (fun e:Evt.Ev=>decide (e.name=nb t))++[ev]):=by
       show _=_;rw[A5,if_pos (by simpa using hq)]
      have Bi:(s1.toList==t.toList)=true:=by
       rw[B2.out];simpa using hq
      obtain⟨v',w',Af,B',b'⟩:=c3Q _ w3.heap.size _ os (s1,ev.kind,ev.num) BO A1.size Bh (by omega);have Ax:Hid (cH w' w3.heap.size v' (os++[(s1,ev.kind,ev.num)])∧Bl w3 w'):=⟨B',A1.trans b'⟩;have HM:Hid ((os++[(s1,ev.kind,ev.num)]).map aY=(l.take (k+1)).filter (fun e:Evt.Ev=>decide (e.name=nb t))):=by
       show _=_;rw[c9U,HO.out,A5.out];show _++[aY (s1,ev.kind,ev.num)]=_;rw[B8.out]
      rw[show(wr.alloc (.cells #[.string s1,iV ev.kind,iV ev.num] 83)).heap.size=wr.heap.size+1 by simp]at Af;clear hq B' b' BO;go_wp2_with (at_builtin;refine Lib.wpList_append_run _ rfl _ _ _ _ rfl _ _ rfl rfl _ _ Af ?_);exact⟨⟨k+1,_,by omega,by go_num,Ax.out.1,HM.out,Ax.out.2⟩,by simp[intOf];omega⟩
     ·have A5:Hid ((l.take (k+1)).filter (fun e:Evt.Ev=>decide (e.name=nb t))=(l.take k).filter (fun e:Evt.Ev=>decide (e.name=nb t))):=by
       show _=_;rw[A5,if_neg (by simpa using hq),d0W]
      have Bi:(s1.toList==t.toList)=false:=by
       rw[B2.out];simpa using hq
      have HM:Hid (os.map aY=(l.take (k+1)).filter (fun e:Evt.Ev=>decide (e.name=nb t))):=by
       show _=_;rw[HO.out,A5.out]
      clear hq;go_wp2_with fail;exact⟨⟨k+1,os,by omega,by go_num,BO,HM.out,A1⟩,by simp[intOf];omega⟩
    ·obtain rfl:k=l.length:=by omega
     rw[d0L]at HO;have Ab:=Ao.out.bE A1;have Az:=hd8 BO;obtain⟨A4,C4,h4⟩:=BO.sE;subst h4;have B1:Hid (r=(s,⟨0,(os.length:Int),os.map aY,0,[]⟩)):=by
      show r=_;rw[←Ag.out,A0.out,←HO.out,c9M]
     have B9:Hid (∀wE,Off (fun q=>q=w.heap.size+1+1∨q=w.heap.size+1+1+1) wr wE→dK (.returned (.tuple #[stA c.d c.s c.b (.slice Ad nd Cd) s.segs (.slice At nt Ct) (.slice As ns Cs) s.u (.slice Aa na Ca),.agg #[iV 0,iV os.length,.slice A4 os.length C4,iV 0,nS]])) T w wE c r):=fun wE ho=>by
      rw[B1.out];refine HJ.out.same (a:=⟨0,(os.length:Int),os.map aY,0,[]⟩) (Ab.bel.trans (ho.bE Ab.bel.size fun q z=>by omega)) ?_ (bG.nil _);exact(Az.out.blankT ho (by have:=B0.out;omega) (fun k z=>by have:=Ba.out k z;omega)).evs
     obtain⟨a0,a1,a2,a3,a4,a5,a6,a7,a8⟩:=Ab.st.c9;obtain⟨x0,x1,x2,x3,x4,x5,x6,x7,x8,p0,p1,p2,p3,p4,p5,p6,p7,p8,y0,y1,y2,y3,y4,q0,q1,q2,q3,q4⟩:=Ab.res;clear BO Az Ab B1 A0 Ag HO A1 Ao Ay Am A6 An;go_wp2_with fail;exact bodyPost_ret (by simp[results,results11,go_sem,x0,x1,x2,x3,x4,x5,x6,x7,x8,y0,y1,y2,y3,y4]) rfl (B9.out _ (yZ _ _ _ _ _ _ _ _ _ _ _ _ _ _ _ _ _))
end
theorem jK(d s b:Int)(w:World):
  Calls prog 7 #[.agg #[iV d,iV s,iV b]] w fun e w'=>e=.returned (iV (cN d s b:Nat))∧Bl w w':=by
 have bA:=aB8 w (.cells #[iV d,iV s,iV b] 23);have VB:=aC w #[iV d,iV s,iV b] 23;have c0:=VB.q0;have c1:=VB.q1;have HC:=dZ d s (w.alloc (.cells #[iV d,iV s,iV b] 23));have A0:Hid (cN d s b=if bZ d s≠0 then bZ d s else if b<1∨10<b then 3 else 0):=rfl;generalize bZ d s=x at HC A0;have A2:=hd8 VB;clear VB;go_enter func7,ntmps7
 go_wp2_with fail;refine HC.mono ?_;rintro e w2 ⟨rfl,b2⟩;have A4:=(A2.out.bE b2).q2;have A1:=bt bA b2;clear HC;by_cases hx:x=0
 ·have A3:((x:Int) !=0)=false:=by rw[bne_eq_false_iff_eq];omega
  by_cases h1:b<1
  ·have HR:Hid (cN d s b=3):=by
    show cN d s b=3;rw[A0.out,if_neg (fun z=>z hx),if_pos (Or.inl h1)]
   clear hx;go_wp2_with fail;go_ret
   exact⟨by rw[HR.out];rfl,A1⟩
  ·by_cases h2:10<b
   ·have HR:Hid (cN d s b=3):=by
     show cN d s b=3;rw[A0.out,if_neg (fun z=>z hx),if_pos (Or.inr h2)]
    clear hx;go_wp2_with fail;go_ret
    exact⟨by rw[HR.out];rfl,A1⟩
   ·have HR:Hid (cN d s b=0):=by
     show cN d s b=0;rw[A0.out,if_neg (fun z=>z hx),if_neg (by omega)]
    clear hx;go_wp2_with fail;go_ret
    exact⟨by rw[HR.out];rfl,A1⟩
 ·have A3:((x:Int) !=0)=true:=by rw[bne_iff_ne];omega
  have HR:Hid (cN d s b=x):=by
   show cN d s b=x;rw[A0.out,if_pos hx]
  clear hx;go_wp2_with fail;go_ret
  exact⟨by rw[HR.out];rfl,A1⟩
theorem a7N(d s b:Int)(A:Option Addr)(n C:Nat)(w:World)(x:Nat)(hx:x=cN d s b)(h0:x≠0):
  Calls prog 5 #[.agg #[iV d,iV s,iV b],.slice A n C] w fun e w'=>zP e w w' x:=by
 have b2:Bl w ((w.alloc (.cells #[iV d,iV s,iV b] 23)).alloc (.cells #[iV 0,iV 0,iV 0,nS,iV 0,nS,nS,iV 0,nS] 32)):=(aB8 _ _).alloc (aB8 _ _).size _;have bB:=aB8 (w.alloc (.cells #[iV d,iV s,iV b] 23)) (.cells #[iV 0,iV 0,iV 0,nS,iV 0,nS,nS,iV 0,nS] 32);have VS:=(aC w #[iV d,iV s,iV b] 23).bE bB;have VT:=aC (w.alloc (.cells #[iV d,iV s,iV b] 23)) #[iV 0,iV 0,iV 0,nS,iV 0,nS,nS,iV 0,nS] 32;rw[show(w.alloc (.cells #[iV d,iV s,iV b] 23)).heap.size=w.heap.size+1 by simp]at VT;have HW:=jK d s b ((w.alloc (.cells #[iV d,iV s,iV b] 23)).alloc (.cells #[iV 0,iV 0,iV 0,nS,iV 0,nS,nS,iV 0,nS] 32));rw[←hx]at HW;have A5:((x:Int) !=0)=true:=by rw[bne_iff_ne];omega
 clear hx h0;clear bB;go_enter func5,ntmps5
 go_upto_region 1 with fail
 generalize (w.alloc (.cells #[iV d,iV s,iV b] 23)).alloc (.cells #[iV 0,iV 0,iV 0,nS,iV 0,nS,nS,iV 0,nS] 32)=w2 at*;have s0:=VS.q0;have s1:=VS.q1;have s2:=VS.q2;have A4:=hd8 VT;have A2:=hd8 b2;clear VS VT b2;go_wp2_with fail;refine HW.mono ?_;rintro e w3 ⟨rfl,A1⟩;have A0:=A4.out.bE A1;have A3:Hid (∀w',Off (fun k=>k=w.heap.size+1) w3 w'→Bl w w'):=fun w' ho=>(bt A2.out A1).trans (ho.bE (bt A2.out A1).size fun k e=>by omega);have b0:=A0.q0;have b1:=A0.q1;have b2:=A0.q2;have b3:=A0.q3;have b4:=A0.q4;have b5:=A0.q5;have b6:=A0.q6;have b7:=A0.q7;have b8:=A0.q8;have f0:=A0.frozen 0;have f1:=A0.frozen 1;have f2:=A0.frozen 2;have f3:=A0.frozen 3;have f4:=A0.frozen 4;have f5:=A0.frozen 5;have f6:=A0.frozen 6;have f7:=A0.frozen 7;have f8:=A0.frozen 8;clear A0 A1 s0 s1 s2 HW;go_wp2_with fail;refine bodyPost_ret (v:=.tuple #[.agg #[iV 0,iV 0,iV 0,nS,iV 0,nS,nS,iV 0,nS],nS,iV x]) (by simp[results,results5,go_sem,b0,b1,b2,b3,b4,b5,b6,b7,b8]) rfl ⟨rfl,?_⟩;exact A3.out _ (fE _ _ _ _ _ _ _ _ _ _ _)
theorem a4B(d s b:Int)(A:Option Addr)(n C:Nat)(w:World)(hx:cN d s b=0)(h80:80<n):
  Calls prog 5 #[.agg #[iV d,iV s,iV b],.slice A n C] w fun e w'=>zP e w w' 5:=by
 have b2:Bl w ((w.alloc (.cells #[iV d,iV s,iV b] 23)).alloc (.cells #[iV 0,iV 0,iV 0,nS,iV 0,nS,nS,iV 0,nS] 32)):=(aB8 _ _).alloc (aB8 _ _).size _;have bB:=aB8 (w.alloc (.cells #[iV d,iV s,iV b] 23)) (.cells #[iV 0,iV 0,iV 0,nS,iV 0,nS,nS,iV 0,nS] 32);have VS:=(aC w #[iV d,iV s,iV b] 23).bE bB;have VT:=aC (w.alloc (.cells #[iV d,iV s,iV b] 23)) #[iV 0,iV 0,iV 0,nS,iV 0,nS,nS,iV 0,nS] 32;rw[show(w.alloc (.cells #[iV d,iV s,iV b] 23)).heap.size=w.heap.size+1 by simp]at VT;have HW:=jK d s b ((w.alloc (.cells #[iV d,iV s,iV b] 23)).alloc (.cells #[iV 0,iV 0,iV 0,nS,iV 0,nS,nS,iV 0,nS] 32));rw[hx]at HW;have hn:(80:Int)<(n:Int):=by omega
 have A5:=decide_eq_true hn;clear hx h80;clear bB;go_enter func5,ntmps5
 go_upto_region 1 with fail
 generalize (w.alloc (.cells #[iV d,iV s,iV b] 23)).alloc (.cells #[iV 0,iV 0,iV 0,nS,iV 0,nS,nS,iV 0,nS] 32)=w2 at*;have s0:=VS.q0;have s1:=VS.q1;have s2:=VS.q2;have A4:=hd8 VT;have A2:=hd8 b2;clear VS VT b2;go_wp2_with fail;refine HW.mono ?_;rintro e w3 ⟨rfl,A1⟩;have A0:=A4.out.bE A1;have A3:Hid (∀w',Off (fun k=>k=w.heap.size+1) w3 w'→Bl w w'):=fun w' ho=>(bt A2.out A1).trans (ho.bE (bt A2.out A1).size fun k e=>by omega);have b0:=A0.q0;have b1:=A0.q1;have b2:=A0.q2;have b3:=A0.q3;have b4:=A0.q4;have b5:=A0.q5;have b6:=A0.q6;have b7:=A0.q7;have b8:=A0.q8;have f0:=A0.frozen 0;have f1:=A0.frozen 1;have f2:=A0.frozen 2;have f3:=A0.frozen 3;have f4:=A0.frozen 4;have f5:=A0.frozen 5;have f6:=A0.frozen 6;have f7:=A0.frozen 7;have f8:=A0.frozen 8;clear A0 A1 s0 s1 s2 HW;go_wp2_with fail;refine bodyPost_ret (v:=.tuple #[.agg #[iV 0,iV 0,iV 0,nS,iV 0,nS,nS,iV 0,nS],nS,iV 5]) (by simp[results,results5,go_sem,b0,b1,b2,b3,b4,b5,b6,b7,b8]) rfl ⟨rfl,?_⟩;exact A3.out _ (fE _ _ _ _ _ _ _ _ _ _ _)
end Go.Proofs.YtmcaejooaaahdaaGreat
