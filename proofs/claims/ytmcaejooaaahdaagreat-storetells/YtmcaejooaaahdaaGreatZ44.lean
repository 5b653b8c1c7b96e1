import Derived.Test.YtmcaejooaaahdaaGreatZ39
set_option maxHeartbeats 8000000
set_option maxRecDepth 100000
namespace Go.Proofs.YtmcaejooaaahdaaGreat
open Go.Proofs.Tryz
variable {D Q:Nat} {V:Nat→Value}
open Go.RowKit
section
variable {X : Sto.Six} {c : Sto.Cfg} {s : Sto.St} {d : Sto.Do} {T : Nat → Bool} {w : World} {Ad At As Aa Ae : Option Addr} {nd Cd nt Ct ns Cs na Ca ne Ce : Nat} {t : ByteArray}
structure ScW(w wr:World)(S:Nat→Bool)(QT D:Nat)(tl stl dcl:List Value)(E nn:Nat)(ds:List Sto.aM):Prop where
 pj:PJ w wr stl dcl
 vt:aV wr QT 32 tl
 va:aV wr (QT+1) 42 [iV E,iV nn,nS,iV 0,nS]
 dk: ∃V,DkJ wr S D V ds
 sq:S (QT+1)=true
 qd:QT+1≠D
 qt:QT≠D
 lo:w.heap.size+1+1+1<QT
 ld:w.heap.size+1+1+1<D
 low: ∀k,S k=true→k<wr.heap.size
section
variable {w wr wr' : World} {S : Nat → Bool} {QT D : Nat} {tl stl dcl : List Value} {E nn : Nat} {ds : List Sto.aM}
theorem ScW.bE(h:ScW w wr S QT D tl stl dcl E nn ds)(hb:Bl wr wr'):ScW w wr' S QT D tl stl dcl E nn ds:=by
 obtain⟨V,hV⟩:=h.dk;exact⟨h.pj.bE hb,h.vt.bE hb,h.va.bE hb,⟨V,hV.off hb⟩,h.sq,h.qd,h.qt,h.lo,h.ld,fun k z=>c9P (h.low k z) hb.size⟩
theorem ScW.ans(h:ScW w wr S QT D tl stl dcl E nn ds)(ho:Off (fun q=>q=QT+1) wr wr'){E' nn':Nat}(hv:aV wr' (QT+1) 42 [iV E',iV nn',nS,iV 0,nS]):ScW w wr' S QT D tl stl dcl E' nn' ds:=by
 obtain⟨V,hV⟩:=h.dk;have A0:=h.lo
 exact⟨h.pj.off ho (fun k z=>by have z:k=QT+1:=z;omega),h.vt.off ho (fun z=>by have z:QT=QT+1:=z;omega),hv,⟨V,hV.offS ho fun k z=>by
  have z:k=QT+1:=z;rw[z]
  exact⟨h.sq,h.qd⟩⟩,h.sq,h.qd,h.qt,h.lo,h.ld,fun k z=>c9P (h.low k z) ho.size⟩
theorem ScW.err(h:ScW w wr S QT D tl stl dcl E nn ds)(x:Nat):ScW w (wr.setCell (aD (QT+1) 0) (iV x)) S QT D tl stl dcl x nn ds:=h.ans (aG wr (aD (QT+1) 0) _) (h.va.set 0 _ (Nat.succ_pos _))
theorem ScW.num(h:ScW w wr S QT D tl stl dcl E nn ds)(x:Nat):ScW w (wr.setCell (aD (QT+1) 1) (iV x)) S QT D tl stl dcl E x ds:=h.ans (aG wr (aD (QT+1) 1) _) (h.va.set 1 _ (Nat.succ_lt_succ (Nat.succ_pos _)))
theorem ScW.wrote(h:ScW w wr S QT D tl stl dcl E nn ds)(ho:Off (fun q=>q=D) wr wr'){ds':List Sto.aM}(hV:DkJ wr' S D V ds'):ScW w wr' S QT D tl stl dcl E nn ds':=by
 have A0:=h.ld;exact⟨h.pj.off ho (fun k z=>by have z:k=D:=z;omega),h.vt.off ho (fun z=>h.qt z),h.va.off ho (fun z=>h.qd z),⟨V,hV⟩,h.sq,h.qd,h.qt,h.lo,h.ld,fun k z=>c9P (h.low k z) ho.size⟩
end
def MdO(w:World)(M:Nat)(v:Value)(x:Nat)(L:List (List Nat)):Prop:=(x=0∧BlM w M v L)∨(x≠0∧v=nS)
def c4V(T:Nat→Bool)(N D Q:Nat):Nat→Bool:=fun k=>T k||(decide (k=N+1+1)||(decide (k=N+1+1+1)||(decide (k=D)||(decide (k=Q)||decide (k=Q+1)))))
theorem kF{T:Nat→Bool}{N k:Nat}:c4V T N D Q k=true↔T k=true∨k=N+1+1∨k=N+1+1+1∨k=D∨k=Q∨k=Q+1:=by
 unfold c4V;simp
theorem c8L{c:Sto.Cfg}{m:Nat}{ds:List Sto.aM}(h:Sto.SI c m ds)(hm:m≤40)(i:Nat)(d:Sto.aM)(hd:ds[i]?=some d):d.bl.length≤100:=by
 obtain⟨q1,q2,_⟩:=h.up i d hd
 have:=xB (a:=0) (m:=(m:Int)) (Sto.oW.1 q1) (fun x hx=>by
  obtain⟨y,hy,rfl⟩:=d0G.1 hx
  exact q2 y hy) (by omega)
 rw[c9M]at this;omega
section
variable {X : Sto.Six} {c : Sto.Cfg} {s : Sto.St} {d : Sto.Do} {T : Nat → Bool} {w : World} {Ad At As Aa Ae : Option Addr} {nd Cd nt Ct ns Cs na Ca ne Ce : Nat} {t : ByteArray}
theorem SJ.disksJ(H:SJ X c s d T w Ad nd Cd At nt Ct As ns Cs Aa na Ca Ae ne Ce t){w2 wE:World}{n C:Nat}{ds:List Sto.aM}(hb:Bl w w2)(hd:DkJ w2 (c4V T w.heap.size D Q) D V ds)(ho:Off (fun q=>q=w.heap.size+1+1∨q=w.heap.size+1+1+1) w2 wE)(hD:w.heap.size+1+1+1<D)(hn:n=ds.length)(h1:n≤C)(h2:C≤maxLen)(E:Nat)(m:Int):dK (.returned (.tuple #[stA c.d c.s c.b (.slice (some (aD D 0)) n C) s.segs (.slice At nt Ct) (.slice As ns Cs) s.u (.slice Aa na Ca),.agg #[iV E,iV m,nS,iV 0,nS]])) T w wE c ({s with disks:=ds},⟨E,m,[],0,[]⟩):=by
 have A0:Bl w wE:=hb.trans (ho.bE hb.size fun q hq=>by omega);have hs:fC (aS T w) (aS T wE):=cR A0;have o3:Off (fun q=>(q=w.heap.size+1+1∨q=w.heap.size+1+1+1)∨T q=true) w2 (aS T wE):=(ho.wider fun _ z=>Or.inl z).trans ((iX T wE).wider fun _ z=>Or.inr z);subst hn
 exact⟨_,_,_,_,_,_,rfl,⟨(hd.offS o3 (fun q hq=>by
  rcases hq with(z|z)|z
  ·exact⟨kF.2 (Or.inr (Or.inl z)),by omega⟩
  ·exact⟨kF.2 (Or.inr (Or.inr (Or.inl z))),by omega⟩
  ·have:=H.low q z
   exact⟨kF.2 (Or.inl z),by omega⟩)).dks h1 h2,H.st0.tl.sub hs,H.st0.sn.sub hs,H.st0.ac.sub hs⟩,kB _,bG.nil _,H.pv,A0⟩
end
theorem a0J(H:SJ X c s d T w Ad nd Cd At nt Ct As ns Cs Aa na Ca Ae ne Ce t)(hk:d.kind=8):
  Calls prog 11 #[.agg #[iV c.d,iV c.s,iV c.b,.slice Ad nd Cd,iV s.segs,.slice At nt Ct,.slice As ns Cs,iV s.u,.slice Aa na Ca],.agg #[iV 8,iV d.n,iV d.seg,iV d.pos,.int .u8 d.turn,iV d.bat.cmd,.slice Ae ne Ce,.string t,iV d.ver]] w fun e w'=>dK e T w w' c (Sto.step X c s d):=by
 have HJ:=hd8 H;obtain⟨r,hr⟩: ∃r,r=Sto.step X c s d:=⟨_,rfl⟩;have C0:=hd8 hr.symm;rw[←hr];obtain⟨w1,Cl,Af⟩:=qN w #[iV c.d,iV c.s,iV c.b,.slice Ad nd Cd,iV s.segs,.slice At nt Ct,.slice As ns Cs,iV s.u,.slice Aa na Ca] #[iV 8,iV d.n,iV d.seg,iV d.pos,.int .u8 d.turn,iV d.bat.cmd,.slice Ae ne Ce,.string t,iV d.ver];have eg:=Tryz.enters_noS;clear H hr;go_enter func11,ntmps11
 go_upto_region 1 with fail
 rw[←Cl];clear Cl;have Ar:=hd8 Af;have d0:=Af.dc.q0;clear Af;have Br:nd=s.disks.length:=by
  obtain⟨A,C,q,_⟩:=HJ.out.st.dk;cases q
  rfl
 have By:=hd8 Br;have Aj:nd≤12:=by
  rw[Br];exact HJ.out.wf.n12
 have Db:s.segs≤40:=HJ.out.wf.segs;have C1:Hid (Sto.step X c s d=({s with disks:=(Sto.aN X c s.segs 0 s.disks 0 0).1},⟨(Sto.aN X c s.segs 0 s.disks 0 0).2.1,(Sto.aN X c s.segs 0 s.disks 0 0).2.2,[],0,[]⟩)):=yR hk;have Bz:=kR c.d c.s c.b s.segs s.u (.slice Ad nd Cd) (.slice At nt Ct) (.slice As ns Cs) (.slice Aa na Ca) s.disks w1 (HJ.out.st.dk.bE Ar.out.bel) HJ.out.wf.n1 HJ.out.wf.n12 (fun i d hd=>HJ.out.wf.bl hd) HJ.out.wf.len ⟨_,_,_,rfl⟩ ⟨_,_,_,rfl⟩ ⟨_,_,_,rfl⟩;obtain⟨a0,a1,a2,a3,a4,a5,a6,a7,a8⟩:=Ar.out.st.c9;clear Br hk;go_wp2_with fail;refine Bz.mono ?_;rintro e w9 ⟨D,C,V0,U,rfl,B5,B6,C6,b9⟩;rw[←By.out]at B5⊢;have bT:=aB8 w9 (.cells #[iV c.d,iV c.s,iV c.b,.slice (some (aD D 0)) nd C,iV s.segs,.slice At nt Ct,.slice As ns Cs,iV s.u,.slice Aa na Ca] 32);have bU:=aB8 (w9.alloc (.cells #[iV c.d,iV c.s,iV c.b,.slice (some (aD D 0)) nd C,iV s.segs,.slice At nt Ct,.slice As ns Cs,iV s.u,.slice Aa na Ca] 32)) (.cells nC 42);have VT:=(aC w9 #[iV c.d,iV c.s,iV c.b,.slice (some (aD D 0)) nd C,iV s.segs,.slice At nt Ct,.slice As ns Cs,iV s.u,.slice Aa na Ca] 32).bE bU;have VU:=aC (w9.alloc (.cells #[iV c.d,iV c.s,iV c.b,.slice (some (aD D 0)) nd C,iV s.segs,.slice At nt Ct,.slice As ns Cs,iV s.u,.slice Aa na Ca] 32)) nC 42;have Cj:(w9.alloc (.cells #[iV c.d,iV c.s,iV c.b,.slice (some (aD D 0)) nd C,iV s.segs,.slice At nt Ct,.slice As ns Cs,iV s.u,.slice Aa na Ca] 32)).heap.size=w9.heap.size+1:=d2K _;rw[Cj]at VU;have A0:=(C6.bE bT).bE bU;have Ag:=((Ar.out.bE b9).bE bT).bE bU;have Co:=hd8 Ar.out.size;have Cv:w1.heap.size≤w9.heap.size:=b9.size;have D0:=mL8 B6;clear Bz C6 b9 bT bU Cj a0 a1 a2 a3 a4 a5 a6 a7 a8 Ar d0;go_upto_region 52 with fail
 obtain⟨Dg,Ay⟩: ∃q,q=(w9.alloc (.cells #[iV c.d,iV c.s,iV c.b,.slice (some (aD D 0)) nd C,iV s.segs,.slice At nt Ct,.slice As ns Cs,iV s.u,.slice Aa na Ca] 32)).alloc (.cells nC 42):=⟨_,rfl⟩;rw[←Ay]at VT VU A0 Ag⊢;obtain⟨QT,Cb⟩: ∃q,q=w9.heap.size:=⟨_,rfl⟩;rw[←Cb]at VT VU⊢;have D1:=VT.ty.ne A0.row.ty (by decide);have Bj:=VU.ty.ne A0.row.ty (by decide);obtain⟨S,hS⟩: ∃S,S=c4V T w.heap.size D QT:=⟨_,rfl⟩;have Cp:=hd8 hS;have Cu:Hid (ScW w Dg S QT D (stL c (.slice (some (aD D 0)) nd C) s.segs (.slice At nt Ct) (.slice As ns Cs) s.u (.slice Aa na Ca)) (stL c (.slice Ad nd Cd) s.segs (.slice At nt Ct) (.slice As ns Cs) s.u (.slice Aa na Ca)) (doL 8 d (.slice Ae ne Ce) t) 0 0 s.disks):=by
  have Dh:=A0.ge;have h1:=Co.out;have h2:=aZ.lt VU;have h3:=A0.row.lt;refine⟨Ag,VT,VU,⟨V0,A0.dkJ ?_ fun k hk=>?_⟩,?_,Bj,D1,by omega,by omega,fun k hk=>?_⟩
  ·rw[hS];exact kF.2 (Or.inr (Or.inr (Or.inr (Or.inl rfl))))
  ·rw[hS]at hk;rcases kF.1 hk with z|z|z|z|z|z
   ·have:=HJ.out.low k z;exact Or.inl (by omega)
   ·exact Or.inl (by omega)
   ·exact Or.inl (by omega)
   ·exact Or.inr ⟨58,z▸A0.row.ty,by decide,by decide⟩
   ·exact Or.inr ⟨32,z▸VT.ty,by decide,by decide⟩
   ·exact Or.inr ⟨42,z▸VU.ty,by decide,by decide⟩
  ·rw[hS];exact kF.2 (Or.inr (Or.inr (Or.inr (Or.inr (Or.inr rfl)))))
  ·rw[hS]at hk;rcases kF.1 hk with z|z|z|z|z|z
   ·have:=HJ.out.low k z;omega
   ·omega
   ·omega
   ·omega
   ·omega
   ·omega
 clear Ay Cb VT VU A0 Ag hS Cv;go_wp2_with fail;go_loopw [19] (fun xv wr=> ∃(k E nn:Nat) (ds:List Sto.aM),k≤s.segs∧xv=iV k∧Hid (ScW w wr S QT D (stL c (.slice (some (aD D 0)) nd C) s.segs (.slice At nt Ct) (.slice As ns Cs) s.u (.slice Aa na Ca)) (stL c (.slice Ad nd Cd) s.segs (.slice At nt Ct) (.slice As ns Cs) s.u (.slice Aa na Ca)) (doL 8 d (.slice Ae ne Ce) t) E nn ds)∧Hid (Sto.aN X c s.segs 0 s.disks 0 0=Sto.aN X c (s.segs-k) k ds E nn)∧Hid (Sto.SI c s.segs ds)∧nn≤k*12) (fun xv _=>s.segs-(intOf xv).toNat)
 case atStart=>exact⟨0,0,0,s.disks,c9D _,rfl,Cu,rfl,HJ.out.wf.si,c9C _⟩
 case round=>
  obtain⟨k,E,nn,ds,Di,rfl,HW,B0,A2,Dk⟩:=hrel;obtain⟨wo,rfl⟩: ∃x,x=wr:=⟨wr,rfl⟩;have a4:=HW.out.pj.st.q4;have B7:nd=ds.length:=by rw[By.out,HJ.out.wf.dl,A2.out.dl]
  have A6:=hd8 B7;by_cases D8:k<s.segs
  ·have D9:(k:Int)<(s.segs:Int):=by omega
   obtain⟨q,hq⟩: ∃q,s.segs-k=q+1:=⟨s.segs-k-1,by omega⟩;have A5:(Sto.aI ds (k:Int)).length≤12:=by
    unfold Sto.aI;rw[c9M,←B7];exact Aj
   have Ah:(Sto.aI ds (k:Int)).length=c.d+c.s:=by
    unfold Sto.aI;rw[c9M];exact A2.out.dl
   obtain⟨bs,Aw⟩: ∃bs,bs=Sto.aI ds (k:Int):=⟨_,rfl⟩;have Az:Hid (∀w',ScW w w' S QT D (stL c (.slice (some (aD D 0)) nd C) s.segs (.slice At nt Ct) (.slice As ns Cs) s.u (.slice Aa na Ca)) (stL c (.slice Ad nd Cd) s.segs (.slice At nt Ct) (.slice As ns Cs) s.u (.slice Aa na Ca)) (doL 8 d (.slice Ae ne Ce) t) E nn ds→Calls prog 38 #[stA c.d c.s c.b (.slice (some (aD D 0)) nd C) s.segs (.slice At nt Ct) (.slice As ns Cs) s.u (.slice Aa na Ca),iV k] w' fun e w2=> ∃v',e=.returned v'∧BlL w2 v' bs∧Bl w' w2):=fun w' h=>by
    obtain⟨V,hV⟩:=h.dk;rw[Aw];exact rF c.d c.s c.b s.segs s.u (.slice (some (aD D 0)) nd C) (.slice At nt Ct) (.slice As ns Cs) (.slice Aa na Ca) ds (k:Int) w' (by rw[A6.out];exact hV.dks (by rw[←A6.out];exact B5) B6) (by rw[←A6.out];exact Aj) ⟨_,_,_,rfl⟩ ⟨_,_,_,rfl⟩ ⟨_,_,_,rfl⟩
   rw[←Aw]at A5 Ah;have B9:=hd8 fun v' w' hB=>a7L HJ.out.x v' _ k w' hB A5;have B2:Hid (∀M v' w',BlL w' v' bs→M≤w'.heap.size→Calls prog 39 #[v',iV k,iV c.d] w' fun e w2=> ∃v2,e=.returned (.tuple #[v2,iV ((X.mend bs k c).1:Nat)])∧MdO w2 M v2 (X.mend bs k c).1 (X.mend bs k c).2∧Bl w' w2):=fun M v' w' hB hM=>(b4Y HJ.out.x v' bs k c w' hB Ah HJ.out.wf.d8 HJ.out.wf.s4).mono fun e w2 z=>by
    obtain⟨⟨v2,h1,h2⟩,h3⟩:=z;refine⟨v2,h1,?_,h3⟩;rcases h2 with⟨y1,y2⟩|y
    ·exact Or.inl ⟨y1,y2.lower hM⟩
    ·exact Or.inr y
   have Ab:=c9E (pP HJ.out.x bs k) A5;have Ba:Hid (∀i,i∈X.bad bs k→i<nd):=fun i hi=>by
    have:=b2W HJ.out.x hi;rw[Aw]at this;unfold Sto.aI at this;rw[c9M,←A6.out]at this;exact this
   have B3:Hid ((X.mend bs k c).1=0→(X.mend bs k c).2.length=nd):=fun z=>by rw[a9D HJ.out.x z,A6.out,A2.out.dl]
   have Am:Hid (Sto.aN X c s.segs 0 s.disks 0 0=if X.bad bs k=[]then Sto.aN X c (s.segs-(k+1)) (k+1) ds E nn else if (X.mend bs k c).1≠0 then Sto.aN X c (s.segs-(k+1)) (k+1) ds (if E=0 then(X.mend bs k c).1 else E) nn else Sto.aN X c (s.segs-(k+1)) (k+1) (Sto.write k (X.mend bs k c).2 0 ds) E (nn+Sto.there ds (X.bad bs k))):=by
    have e:s.segs-(k+1)=q:=by omega
    show Sto.aN X c s.segs 0 s.disks 0 0=_;rw[B0.out,hq,e,Sto.aN,Aw]
   generalize X.bad bs k=bl at B9 Ab Ba Am;generalize X.mend bs k c=md at B2 B3 Am;obtain⟨mx,mL⟩:=md;obtain⟨nb,Bq⟩: ∃nb,nb=bl.length:=⟨_,rfl⟩;have A7:=hd8 Bq;rw[←Bq]at Ab;have Bs:=Az.out _ HW.out;obtain⟨t0,t1,t2,t3,t4,t5,t6,t7,t8⟩:=HW.out.vt.c9;clear hq B0 A5 Ah Aw B7 Bq;go_wp2_with fail;refine Bs.mono ?_;rintro e w2 ⟨v2,rfl,C7,b2⟩;have Bt:=B9.out v2 w2 C7;clear Bs B9 C7;go_wp2_with fail;refine Bt.mono ?_;rintro e w3 ⟨v3,rfl,Bk,b3⟩;have Bf:=hd8 Bk;have Au:=hd8 ((HW.out.bE b2).bE b3);have Bc:=hd8 ((HW.out.bE b2).low);have Cw:w2.heap.size≤w3.heap.size:=b3.size;obtain⟨A3,C3,e3,Cx,Cy,_⟩:=bJ Bk;rw[←A7.out]at e3 Cx;subst e3;have Cz:=mL8 Cy;clear Bt b2 b3 Bk t0 t1 t2 t3 t4 t5 t6 t7 t8 HW a4;by_cases An:bl=[]
   case pos=>
    have Da:((nb:Int)==0)=true:=by rw[A7.out,An];rfl
    have Ak:Hid (Sto.aN X c s.segs 0 s.disks 0 0=Sto.aN X c (s.segs-(k+1)) (k+1) ds E nn):=by
     show Sto.aN X c s.segs 0 s.disks 0 0=_;rw[Am.out,if_pos An]
    clear An Am Ba B3 B2 Az Bf Bc;go_wp2_with fail;exact⟨⟨k+1,E,nn,ds,by omega,by go_num,Au,Ak,A2,by rw[d0F];omega⟩,by simp[intOf];omega⟩
   case neg=>
    have Dl:0<nb:=by
     rw[A7.out];exact List.length_pos_iff.2 An
    have Da:((nb:Int)==0)=false:=by rw[beq_eq_false_iff_ne];omega
    have Ak:Hid (Sto.aN X c s.segs 0 s.disks 0 0=if mx≠0 then Sto.aN X c (s.segs-(k+1)) (k+1) ds (if E=0 then mx else E) nn else Sto.aN X c (s.segs-(k+1)) (k+1) (Sto.write k mL 0 ds) E (nn+Sto.there ds bl)):=by
     show Sto.aN X c s.segs 0 s.disks 0 0=_;rw[Am.out,if_neg An]
    have B4: ∀w',Bl w3 w'→(((w'.cell? (aD QT 0)=some (iV c.d)∧w'.cell? (aD QT 1)=some (iV c.s)∧w'.cell? (aD QT 2)=some (iV c.b)∧w'.cell? (aD QT 3)=some (.slice (some (aD D 0)) nd C)∧w'.cell? (aD QT 4)=some (iV s.segs)∧w'.cell? (aD QT 5)=some (.slice At nt Ct)∧w'.cell? (aD QT 6)=some (.slice As ns Cs)∧w'.cell? (aD QT 7)=some (iV s.u)∧w'.cell? (aD QT 8)=some (.slice Aa na Ca))∧w'.cell? (aD w.heap.size 0)=some (iV c.d))∧Bl w3 w'):=fun w' hb'=>by
     have V:=Au.out.bE hb';obtain⟨t0,t1,t2,t3,t4,t5,t6,t7,t8⟩:=V.vt.c9;exact⟨⟨⟨t0,t1,t2,t3,t4,t5,t6,t7,t8⟩,V.pj.st.q0⟩,hb'⟩
    have TD:=B4 w3.drew (Below.refl _ _).drew;have Bb: ∀w',(((w'.cell? (aD QT 0)=some (iV c.d)∧w'.cell? (aD QT 1)=some (iV c.s)∧w'.cell? (aD QT 2)=some (iV c.b)∧w'.cell? (aD QT 3)=some (.slice (some (aD D 0)) nd C)∧w'.cell? (aD QT 4)=some (iV s.segs)∧w'.cell? (aD QT 5)=some (.slice At nt Ct)∧w'.cell? (aD QT 6)=some (.slice As ns Cs)∧w'.cell? (aD QT 7)=some (iV s.u)∧w'.cell? (aD QT 8)=some (.slice Aa na Ca))∧w'.cell? (aD w.heap.size 0)=some (iV c.d))∧Bl w3 w')→Bl w3 w':=fun w' hS=>hS.2;have Bu:=fun w' (hS:(((w'.cell? (aD QT 0)=some (iV c.d)∧w'.cell? (aD QT 1)=some (iV c.s)∧w'.cell? (aD QT 2)=some (iV c.b)∧w'.cell? (aD QT 3)=some (.slice (some (aD D 0)) nd C)∧w'.cell? (aD QT 4)=some (iV s.segs)∧w'.cell? (aD QT 5)=some (.slice At nt Ct)∧w'.cell? (aD QT 6)=some (.slice As ns Cs)∧w'.cell? (aD QT 7)=some (iV s.u)∧w'.cell? (aD QT 8)=some (.slice Aa na Ca))∧w'.cell? (aD w.heap.size 0)=some (iV c.d))∧Bl w3 w'))=>Az.out w' (Au.out.bE hS.2);clear An Am;go_upto_region 57 with fail
    go_region_held3 (fun w'=>(((w'.cell? (aD QT 0)=some (iV c.d)∧w'.cell? (aD QT 1)=some (iV c.s)∧w'.cell? (aD QT 2)=some (iV c.b)∧w'.cell? (aD QT 3)=some (.slice (some (aD D 0)) nd C)∧w'.cell? (aD QT 4)=some (iV s.segs)∧w'.cell? (aD QT 5)=some (.slice At nt Ct)∧w'.cell? (aD QT 6)=some (.slice As ns Cs)∧w'.cell? (aD QT 7)=some (iV s.u)∧w'.cell? (aD QT 8)=some (.slice Aa na Ca))∧w'.cell? (aD w.heap.size 0)=some (iV c.d))∧Bl w3 w'))
     (first|with_reducible exact TD|with_reducible assumption)
     (first|(go_at_call 38;refine(Bu _ (by assumption)).mono ?_;rintro e1 w4 ⟨v4,rfl,D3,b4⟩;have S1:=B4 w4 (bt (Bb _ (by assumption)) b4))|(go_at_call 39;refine(B2.out w3.heap.size _ _ (by assumption) (Bb _ (by assumption)).size).mono ?_;rintro e2 w5 ⟨v5,rfl,C8,b5⟩;have S2:=B4 w5 (bt S1.2 b5)))
    have Bi:=S2.2;have Ac:=hd8 (Au.out.bE Bi);have B1:=hd8 C8;have Ap:=hd8 (Bf.out.bE Bi);clear S1 S2 TD Bb B4 Bu B2 Az b4 b5 D3 C8 Au Bf Bi;by_cases Ai:mx=0
    case neg=>
     have De:((mx:Int) !=0)=true:=by rw[bne_iff_ne];omega
     have Al:Hid (Sto.aN X c s.segs 0 s.disks 0 0=Sto.aN X c (s.segs-(k+1)) (k+1) ds (if E=0 then mx else E) nn):=by
      show Sto.aN X c s.segs 0 s.disks 0 0=_;rw[Ak.out,if_pos Ai]
     have Dm:=Ac.out.va.q0;have Dn:=Ac.out.va.frozen 0;have hM:=B1.out;rcases hM with⟨z,_⟩|⟨_,z⟩
     ·exact absurd z Ai
     subst z;clear Ak B1;by_cases hE:E=0
     ·have D2:((E:Int)==0)=true:=by rw[hE];rfl
      have Be:Hid (Sto.aN X c s.segs 0 s.disks 0 0=Sto.aN X c (s.segs-(k+1)) (k+1) ds mx nn):=by
       show Sto.aN X c s.segs 0 s.disks 0 0=_;rw[Al.out,if_pos hE]
      have A4:=hd8 (Ac.out.err mx);clear hE Al Ac;go_wp2_with fail;exact⟨⟨k+1,mx,nn,ds,by omega,by go_num,A4,Be,A2,by rw[d0F];omega⟩,by simp[intOf];omega⟩
     ·have D2:((E:Int)==0)=false:=by rw[beq_eq_false_iff_ne];omega
      have Be:Hid (Sto.aN X c s.segs 0 s.disks 0 0=Sto.aN X c (s.segs-(k+1)) (k+1) ds E nn):=by
       show Sto.aN X c s.segs 0 s.disks 0 0=_;rw[Al.out,if_neg hE]
      clear hE Al;go_wp2_with fail;exact⟨⟨k+1,E,nn,ds,by omega,by go_num,Ac,Be,A2,by rw[d0F];omega⟩,by simp[intOf];omega⟩
    case pos=>
     have De:((mx:Int) !=0)=false:=by rw[Ai];rfl
     have Al:Hid (Sto.aN X c s.segs 0 s.disks 0 0=Sto.aN X c (s.segs-(k+1)) (k+1) (Sto.write k mL 0 ds) E (nn+Sto.there ds bl)):=by
      show Sto.aN X c s.segs 0 s.disks 0 0=_;rw[Ak.out,if_neg (fun z=>z Ai)]
     have Cn:=hd8 (B3.out Ai);have Bx:Hid (BlL (aS S w5) v5 mL):=by
      rcases B1.out with⟨_,z⟩|⟨z,_⟩
      ·exact z.2 S fun k hk=>c9P (Bc.out k hk) Cw
      ·exact absurd Ai z
     have Ax: ∀j,Sto.there ds (bl.take j)≤12:=fun j=>by
      have h1:=rV ds (bl.take j);rw[c9K]at h1;have h2:=A7.out;omega
     have Cr:=hd8 Ax;have D7:k*12≤40*12:=d1J _ (by omega);have Cq:=hd8 Ac.out;clear Ak B1 Ai B3 Ax Ac;go_wp2_with fail;go_loopw [266] (fun xv wi=> ∃(j:Nat),j≤nb∧xv=iV j∧Hid (ScW w wi S QT D (stL c (.slice (some (aD D 0)) nd C) s.segs (.slice At nt Ct) (.slice As ns Cs) s.u (.slice Aa na Ca)) (stL c (.slice Ad nd Cd) s.segs (.slice At nt Ct) (.slice As ns Cs) s.u (.slice Aa na Ca)) (doL 8 d (.slice Ae ne Ce) t) E (nn+Sto.there ds (bl.take j)) ds)∧Hid (Off (fun q=>q=QT+1) w5 wi)) (fun xv _=>nb-(intOf xv).toNat)
     case atStart=>exact⟨0,c9D _,rfl,Cq,Off.refl _ _⟩
     case round=>
      obtain⟨j,hj,rfl,A1,Aq⟩:=hrel
      have Bm:=bC Ap.out Aq.out (fun g hg z=>by
       have z:g=QT+1:=z;have h1:=(Ap.out.lt g hg).1;have h2:=Bc.out (QT+1) A1.out.sq
       omega)
      obtain⟨A9,C9,e9,Bn⟩:=kK (l:=bl) Bm;have eA:A9=A3:=by
       injection e9 with q _ _;exact q.symm
      subst eA;clear e9;have B8:=Cr.out j;by_cases Cg:j<nb
      ·have D6:(j:Int)<(nb:Int):=by omega
       obtain⟨b9,o9,rfl,c9⟩:=Bn j (by rw[←A7.out];exact Cg);obtain⟨i,hi⟩: ∃i,i=bl.getD j 0:=⟨_,rfl⟩;rw[←hi]at c9;have Bp:bl[j]?=some i:=by
        have:j<bl.length:=by rw[←A7.out];exact Cg
        rw[hi,c9R,c9F this];rfl
       have D4:=Ba.out i (c9N Bp);have D5:(i:Int)<(nd:Int):=by omega
       obtain⟨di,Bo⟩: ∃di,ds[i]?=some di:=⟨ds[i]'(by rw[←A6.out];exact D4),c9F _⟩;obtain⟨VI,Av⟩:=A1.out.dk;have cg:=Av.gone Bo;have t3:=A1.out.vt.q3;have Ao:=xV ds bl j Bp Bo;obtain⟨gn,Cf⟩: ∃gn,gn=di.gone:=⟨_,rfl⟩;rw[←Cf]at cg Ao;obtain⟨th,Cc⟩: ∃th,th=Sto.there ds (bl.take j):=⟨_,rfl⟩;rw[←Cc]at Ao A1 B8;clear Av Bo Bp Cf hi Cc Bm Bn;cases gn with
       |true=>
        have A4:Hid (ScW w wr S QT D (stL c (.slice (some (aD D 0)) nd C) s.segs (.slice At nt Ct) (.slice As ns Cs) s.u (.slice Aa na Ca)) (stL c (.slice Ad nd Cd) s.segs (.slice At nt Ct) (.slice As ns Cs) s.u (.slice Aa na Ca)) (doL 8 d (.slice Ae ne Ce) t) E (nn+Sto.there ds (bl.take (j+1))) ds):=by
         have e:Sto.there ds (bl.take (j+1))=th:=Ao;show ScW w wr S QT D (stL c (.slice (some (aD D 0)) nd C) s.segs (.slice At nt Ct) (.slice As ns Cs) s.u (.slice Aa na Ca)) (stL c (.slice Ad nd Cd) s.segs (.slice At nt Ct) (.slice As ns Cs) s.u (.slice Aa na Ca)) (doL 8 d (.slice Ae ne Ce) t) E (nn+Sto.there ds (bl.take (j+1))) ds;rw[e];exact A1.out
        clear Ao;go_wp2_with fail;exact⟨⟨j+1,by omega,by go_num,A4,Aq⟩,by simp[intOf];omega⟩
       |false=>
        have Df:=A1.out.va.q1;have Dp:=A1.out.va.frozen 1;have A4:Hid (ScW w (wr.setCell (aD (QT+1) 1) (iV ((nn+th+1:Nat):Int))) S QT D (stL c (.slice (some (aD D 0)) nd C) s.segs (.slice At nt Ct) (.slice As ns Cs) s.u (.slice Aa na Ca)) (stL c (.slice Ad nd Cd) s.segs (.slice At nt Ct) (.slice As ns Cs) s.u (.slice Aa na Ca)) (doL 8 d (.slice Ae ne Ce) t) E (nn+Sto.there ds (bl.take (j+1))) ds):=by
         have e:Sto.there ds (bl.take (j+1))=th+1:=Ao;show ScW w (wr.setCell (aD (QT+1) 1) (iV ((nn+th+1:Nat):Int))) S QT D (stL c (.slice (some (aD D 0)) nd C) s.segs (.slice At nt Ct) (.slice As ns Cs) s.u (.slice Aa na Ca)) (stL c (.slice Ad nd Cd) s.segs (.slice At nt Ct) (.slice As ns Cs) s.u (.slice Aa na Ca)) (doL 8 d (.slice Ae ne Ce) t) E (nn+Sto.there ds (bl.take (j+1))) ds;rw[e];exact A1.out.num (nn+th+1)
        have Bg:Hid (Off (fun q=>q=QT+1) w5 (wr.setCell (aD (QT+1) 1) (iV ((nn+th+1:Nat):Int)))):=Aq.out.trans (aG wr (aD (QT+1) 1) _);obtain⟨tn,Ck⟩: ∃tn,tn=nn+th:=⟨_,rfl⟩;rw[←Ck]at Df A4 Bg;have A8:((tn+1:Nat):Int)=(tn:Int)+1:=by omega
        rw[A8]at A4 Bg;have Dd:tn≤1000:=by omega
        clear Ao Ck A8;go_wp2_with fail;exact⟨⟨j+1,by omega,by go_num,A4,Bg⟩,by simp[intOf];omega⟩
      ·obtain rfl:j=nb:=by omega
       have C2:Hid (ScW w wr S QT D (stL c (.slice (some (aD D 0)) nd C) s.segs (.slice At nt Ct) (.slice As ns Cs) s.u (.slice Aa na Ca)) (stL c (.slice Ad nd Cd) s.segs (.slice At nt Ct) (.slice As ns Cs) s.u (.slice Aa na Ca)) (doL 8 d (.slice Ae ne Ce) t) E (nn+Sto.there ds bl) ds):=by
        have:=A1.out;rw[A7.out,d0L]at this;exact this
       have Bw:=Bx.out.sub (j7 A1.out.sq Aq.out);obtain⟨VI,Av⟩:=A1.out.dk;have C4:=sG S QT D nd C c.d c.s c.b s.segs s.u (k:Int) (.slice At nt Ct) (.slice As ns Cs) (.slice Aa na Ca) v5 mL VI ds wr A1.out.vt Av A1.out.low A6.out Aj B5 B6 (c8L A2.out Db) Bw Cn.out;have Dc:Sto.there ds bl≤12:=by
        rw[A7.out,d0L]at B8;exact B8
       clear Av Bw A1 Bm Bn Aq Bx B8;go_wp2_with fail;refine C4.mono ?_;rintro e w6 ⟨rfl,⟨V6,C5⟩,o6⟩;have A4:=hd8 (C2.out.wrote o6 C5);have Bh:=hd8 (A2.out.write D8 mL);clear C4 C5 o6 C2;go_wp2_with fail;exact⟨⟨k+1,E,nn+Sto.there ds bl,Sto.write k mL 0 ds,by omega,by go_num,A4,Al,Bh,by rw[d0F];omega⟩,by simp[intOf];omega⟩
  ·have Ch:k=s.segs:=by omega
   have Dj: ¬(k:Int)<(s.segs:Int):=by omega
   have Bv:Hid (Sto.aN X c s.segs 0 s.disks 0 0=(ds,E,nn)):=by
    show Sto.aN X c s.segs 0 s.disks 0 0=_;rw[B0.out,Ch,d1L];rfl
   obtain⟨V,hV⟩:=HW.out.dk;have Af:=HW.out.pj;have Ci:=HW.out.ld;have Cm:Hid (∀wE,Off (fun q=>q=w.heap.size+1+1∨q=w.heap.size+1+1+1) wo wE→dK (.returned (.tuple #[stA c.d c.s c.b (.slice (some (aD D 0)) nd C) s.segs (.slice At nt Ct) (.slice As ns Cs) s.u (.slice Aa na Ca),.agg #[iV E,iV nn,nS,iV 0,nS]])) T w wE c r):=fun wE ho=>by
    rw[←C0.out,C1.out,Bv.out];exact HJ.out.disksJ Af.bel (by rw[←Cp.out];exact hV) ho Ci A6.out B5 B6 E nn
   obtain⟨t0,t1,t2,t3,t4,t5,t6,t7,t8⟩:=HW.out.vt.c9;have z0:=HW.out.va.q0;have z1:=HW.out.va.q1;have z2:=HW.out.va.q2;have z3:=HW.out.va.q3;have z4:=HW.out.va.q4;obtain⟨x0,x1,x2,x3,x4,x5,x6,x7,x8,p0,p1,p2,p3,p4,p5,p6,p7,p8,y0,y1,y2,y3,y4,q0,q1,q2,q3,q4⟩:=Af.res;have q1: ¬QT=w.heap.size+1+1:=by have:=HW.out.lo;omega
   have q2: ¬QT=w.heap.size+1+1+1:=by have:=HW.out.lo;omega
   have q3: ¬QT+1=w.heap.size+1+1:=by have:=HW.out.lo;omega
   have q4: ¬QT+1=w.heap.size+1+1+1:=by have:=HW.out.lo;omega
   clear Ch B0 HW Af hV Bv C1 C0 A2 Ci B7;go_upto_region 68 with fail
   go_region
   go_wp2_with fail;exact bodyPost_ret (by simp[results,results11,go_sem,x0,x1,x2,x3,x4,x5,x6,x7,x8,y0,y1,y2,y3,y4]) rfl (Cm.out _ (a2W _ _ _ _ _ _ _ _ _ _ _ _ _ _ _ _ _))
end
end Go.Proofs.YtmcaejooaaahdaaGreat
