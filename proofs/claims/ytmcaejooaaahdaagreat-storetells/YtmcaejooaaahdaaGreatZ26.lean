import Derived.Test.YtmcaejooaaahdaaGreatZ25
import Derived.StillTailTactics
set_option maxHeartbeats 8000000
set_option maxRecDepth 100000
namespace Go.Proofs.YtmcaejooaaahdaaGreat
open Go.Proofs.Tryz
variable {B N R cap g i j k n:Nat} {E S:Nat→Prop} {v vt y z:Value} {w w' w0 w3 w7 wX:World}
open Go.RowKit
theorem xV(ds:List Sto.aM)(l:List Nat)(k:Nat){d:Sto.aM}(hk:l[k]?=some i)(hd:ds[i]?=some d):Sto.there ds (l.take (k+1))=Sto.there ds (l.take k)+if d.gone then 0 else 1:=by
 unfold Sto.there;rw[d1Y,hk,d1O,c9I];congr 1;show(List.filter _ [i]).length=_;cases hg:d.gone
 ·rw[d1W (by rw[hd];show(!d.gone)=true;rw[hg];rfl)];rfl
 ·rw[d1N (by rw[hd];show¬(!d.gone)=true;rw[hg];decide)];rfl
theorem rV(ds:List Sto.aM)(l:List Nat):Sto.there ds l≤l.length:=d2P ..
section
variable {N R D : Nat} {F E : Nat → Prop} {c : Sto.Cfg} {s : Sto.St} {V : Nat → Value} {U : Nat → List HeC} {vt vs va : Value} {tc : List (Int × Sl)} {X : Sto.Six}
theorem b6J(v:Value)(l:List Nat)(M:Nat)(w:World)(h:StP w N R F E c s D V U vt vs va tc)(hl:iQ w M v l)(hd: ∀i,i∈l→i<s.disks.length)(hln:l.length≤1000):
  Calls prog 57 #[.pointer (some (aD R 0)),v] w fun e w'=>e=.returned (iV ((Sto.there s.disks l:Nat):Int))∧w'=w:=by
 have c3:=h.c3;have A3:s.disks.length≤12:=by have:=h.wf.len;have:=h.wf.d8;have:=h.wf.s4;omega
 have HP:=hd8 h;have HD:=hd8 hd;obtain⟨A,C,hv,A0⟩:=kK hl;subst hv;have HC:=hd8 A0;obtain⟨L,hL⟩: ∃L,L=s.disks.length:=⟨_,rfl⟩;rw[←hL]at c3 A3;have HL:=hd8 hL;obtain⟨n,hn⟩: ∃n,n=l.length:=⟨_,rfl⟩;have HN:=hd8 hn;rw[←hn]at hln⊢;clear h hd hl A0 hL hn;go_enter func57,ntmps57
 go_wp2_with fail;go_loopw [5,10] (fun y x wr=> ∃k:Nat,k≤n∧x=iV k∧y=iV ((Sto.there s.disks (l.take k):Nat):Int)∧wr=w) (fun _ x _=>n-(intOf x).toNat)
 case atStart=>exact⟨0,c9D _,rfl,by rw[d2F];rfl,rfl⟩
 case round=>
  obtain⟨k,hk,rfl,rfl,rfl⟩:=hrel;have A7:Sto.there s.disks (l.take k)≤1000:=c9E (rV _ _) (by rw[c9K];omega);by_cases A8:k<n
  ·have A9:(k:Int)<(n:Int):=by omega
   have A2:k<l.length:=by rw[←HN.out];exact A8
   obtain⟨b,o,rfl,d0⟩:=HC.out k A2;obtain⟨i,hi⟩: ∃i,l[k]?=some i:=⟨l[k],c9F A2⟩;have A4:l.getD k 0=i:=by
    rw[c9R,hi];rfl
   rw[A4]at d0;have A5:=HD.out i (c9N hi);obtain⟨d,A1⟩: ∃d,s.disks[i]?=some d:=⟨s.disks[i],c9F A5⟩;have g0:=HP.out.dk.gone A1;have A6:(i:Int)<(L:Int):=by rw[HL.out];omega
   have HT:=hd8 (xV _ _ _ hi A1);generalize Sto.there s.disks (l.take k)=t at A7 HT;clear A2 hi A4 A5 A1;cases hg:d.gone with
   |true=>
    rw[hg]at g0 HT;clear hg;go_wp2_with fail;refine⟨⟨k+1,by omega,by go_num,by rw[HT.out];rfl,trivial⟩,by simp[intOf];omega⟩
   |false=>
    rw[hg]at g0 HT;clear hg;go_wp2_with fail;refine⟨⟨k+1,by omega,by go_num,by rw[HT.out];go_num,trivial⟩,by simp[intOf];omega⟩
  ·obtain rfl:k=n:=by omega
   have HT:Hid (l.take k=l):=by
    show l.take k=l;rw[HN.out,d0L]
   go_wp2_with fail;go_ret
   exact⟨by rw[HT.out];rfl,rfl⟩
theorem StP.blks(h:StP w N R F E c s D V U vt vs va tc)(k:Int):Calls prog 52 #[.pointer (some (aD R 0)),iV k] w fun e w'=>c5U e w' (Sto.aI s.disks k)∧Bl w w':=
 a7Y R D s.disks.length N 100 k V U s.disks w h.c3 h.dk rfl (by have:=h.wf.len;have:=h.wf.d8;have:=h.wf.s4;omega) h.wf.wd (by omega)
theorem kO(ds:List Sto.aM)(k:Int):(Sto.aI ds k).length=ds.length:=c9M ..
theorem o8(X:Sto.Six)(ds:List Sto.aM): ∀(m k n:Nat),Sto.eI X ds (m+1) k n=Sto.eI X ds m k n+(X.bad (Sto.aI ds ((k+m:Nat):Int)) (k+m)).length
 |0,k,n=>rfl
 |m+1,k,n=>by
  rw[Sto.eI,o8 X ds m (k+1),Sto.eI,show k+1+m=k+(m+1) by omega]
theorem pP{X:Sto.Six}(hX:Sto.dE X)(bs:List (List Nat))(k:Nat):(X.bad bs k).length≤bs.length:=by
 rw[hX.bad];exact zZ ..
theorem a1K{X:Sto.Six}(hX:Sto.dE X)(ds:List Sto.aM): ∀(m:Nat),Sto.eI X ds m 0 0≤m*ds.length
 |0=>c9D _
 |m+1=>by
  rw[o8,d0F]
  have h1:=a1K hX ds m
  have h2:=pP hX (Sto.aI ds ((0+m:Nat):Int)) (0+m)
  rw[kO]at h2
  omega
theorem a9K(hX:Sto.dE X)(w:World)(h:StP w N R F E c s D V U vt vs va tc):
  Calls prog 30 #[.pointer (some (aD R 0))] w fun e w'=>e=.returned (iV ((Sto.eI X s.disks s.segs 0 0:Nat):Int))∧Bl w w':=by
 have c4:=h.var.q4;have A9:=h.wf.segs;have A0:s.disks.length≤12:=by have:=h.wf.len;have:=h.wf.d8;have:=h.wf.s4;omega
 have HP:=hd8 h;have HX:=hd8 hX;obtain⟨n,hn⟩: ∃n,n=s.segs:=⟨_,rfl⟩;rw[←hn]at c4 A9⊢;clear h hX hn;go_enter func30,ntmps30
 go_wp2_with fail;go_loopw [3,10] (fun y x wr=> ∃k:Nat,k≤n∧x=iV k∧y=iV ((Sto.eI X s.disks k 0 0:Nat):Int)∧Bl w wr) (fun _ x _=>n-(intOf x).toNat)
 case atStart=>exact⟨0,c9D _,rfl,rfl,Below.refl _ _⟩
 case round=>
  obtain⟨k,hk,rfl,rfl,hb⟩:=hrel;have A6:Sto.eI X s.disks k 0 0≤1000:=by
   have h1:=a1K HX.out s.disks k;have h2:k*s.disks.length≤40*12:=d0Y (by omega) A0;omega
  by_cases Aa:k<n
  ·have A7:(k:Int)<(n:Int):=by omega
   have HB:=(HP.out.bE hb).blks (k:Int);have HT:Hid (Sto.eI X s.disks (k+1) 0 0=Sto.eI X s.disks k 0 0+(X.bad (Sto.aI s.disks (k:Int)) k).length):=by
    have:=o8 X s.disks k 0 0;rw[c9G]at this;exact this
   have A5:(X.bad (Sto.aI s.disks (k:Int)) k).length≤12:=by
    have:=pP HX.out (Sto.aI s.disks (k:Int)) k;rw[kO]at this;omega
   have A2:Hid (∀v' w',Lls w' v' (Sto.aI s.disks (k:Int)).length (Sto.fO (Sto.aI s.disks (k:Int))) (Sto.eK (Sto.aI s.disks (k:Int)))→Calls prog 53 #[v',iV k] w' fun e w2=> ∃A C,e=.returned (.slice A (X.bad (Sto.aI s.disks (k:Int)) k).length C)∧Bl w' w2):=fun v' w' hL=>by
    refine(a6C HX.out v' _ k w' hL (by rw[kO];exact A0)).mono ?_;rintro e w2 ⟨v2,rfl,A8,A4⟩;obtain⟨A,C,hv,_⟩:=kK A8;exact⟨A,C,by rw[hv],A4⟩
   generalize (X.bad (Sto.aI s.disks (k:Int)) k).length=t at HT A5 A2;generalize Sto.eI X s.disks k 0 0=z at A6 HT;go_wp2_with fail;refine HB.mono ?_;rintro e w1 ⟨⟨v1,rfl,A3⟩,b1⟩;have H2:=A2.out v1 w1 A3;obtain⟨A1,C1,rfl⟩:=A3.sE;clear HB A2 A3;go_wp2_with fail;refine H2.mono ?_;rintro e w2 ⟨A,C,rfl,b2⟩;clear H2;go_wp2_with fail;exact⟨⟨k+1,by omega,by go_num,by rw[HT.out];go_num,bt hb (bt b1 b2)⟩,by simp[intOf];omega⟩
  ·obtain rfl:k=n:=by omega
   go_wp2_with fail;go_ret
   exact⟨rfl,hb⟩
end
theorem WfD.write{ds:List Sto.aM}{m:Nat}(h:WfD ds m)(hk:k<m)(L:List (List Nat)):WfD (Sto.write k L 0 ds) m:=fun i d hi=>by
 rw[Sto.kQ]at hi
 obtain⟨e,he,rfl⟩:=c9J.1 hi
 obtain⟨h1,h2,h3⟩:=h i e he
 by_cases q:e.gone=true
 ·rw[if_pos q]
  exact⟨h1,h2,h3⟩
 ·rw[if_neg q]
  refine⟨Sto.yM h1,fun x hx=>?_,fun z=>by cases z⟩
  rcases Sto.a4W h1 hx with rfl|⟨z,_⟩
  ·show 0≤(k:Int)∧(k:Int)<(m:Int)
   omega
  ·exact h2 x z
section
variable {w w0 w1 w2 : World} {N R D : Nat} {F F' E : Nat → Prop} {c : Sto.Cfg} {s : Sto.St} {V : Nat → Value} {U : Nat → List HeC} {vt vs va : Value} {tc : List (Int × Sl)} {X : Sto.Six}
theorem StP.wider(h:StP w N R F E c s D V U vt vs va tc)(hF: ∀k,F k→F' k)(hF': ∀k,F' k→F k∨(N≤k∧k<w.heap.size∧ ¬E k)):StP w N R F' E c s D V U vt vs va tc:=
 ⟨h.var,h.ge,h.dk,h.tail,h.seen,h.acc,hF _ h.fR,hF _ h.fD,fun i g hi hg=>hF _ (h.fV i g hi hg),fun i x g hi hx hg=>hF _ (h.fU i x g hi hx hg),fun g hg=>hF _ (h.fT g hg),fun g hg=>hF _ (h.fS g hg),fun k hk=>by
  rcases hF' k hk with q|⟨q1,q2,_⟩
  ·exact h.lt k q
  ·exact⟨q1,q2⟩,fun k hk=>⟨fun z=>by
  rcases hF' k z with q|⟨_,_,q⟩
  ·exact(h.dis k hk).1 q
  ·exact q hk,(h.dis k hk).2⟩,h.wf⟩
theorem StP.small(h:StP w N R F E c s D V U vt vs va tc):1≤s.disks.length∧s.disks.length≤12:=by
 have h1:=h.wf.len;have h2:=h.wf.d8;have h3:=h.wf.s4;have h4:=h.wf.d1;omega
def c8U(e:Ending)(w0 w2:World)(N R:Nat)(F E:Nat→Prop)(c:Sto.Cfg)(s:Sto.St)(D:Nat)(vt vs va:Value)(tc:List (Int×Sl))(ds':List Sto.aM):Prop:=e=.returned (.tuple #[])∧ ∃F' V' U',StP w2 N R F' E c {s with disks:=ds'} D V' U' vt vs va tc∧dS w0 w2 F F' E E
theorem a3C(h:StP w0 N R F E c s D V U vt vs va tc)(b1:Bl w0 w1){vl:Value}{L:List (List Nat)}{Y:Nat→Sl}(hL:iD w1 w0.heap.size vl L Y)(hLn:L.length=s.disks.length)(k:Nat)(hk:k<100)(hNw:N≤w0.heap.size):
  Calls prog 56 #[.pointer (some (aD R 0)),iV k,vl] w1 fun e w2=>c8U e w0 w2 N R F E c s D vt vs va tc (Sto.write k L 0 s.disks):=by
 have h1:=h.bE b1;obtain⟨n1,A6⟩:=h.small;have A2: ∀(i:Nat) (x:HeC) (g:Nat),i<s.disks.length→x∈U i→(slV x.2.1).ownBlock=some g→g<w0.heap.size:=fun i x g hi hx hg=>(h.lt g (h.fU i x g hi hx hg)).2;have A0: ∀(j g:Nat),j<s.disks.length→(slV (Y j)).ownBlock=some g→w0.heap.size≤g:=fun j g hj hg=>(hL.byt j (by omega)).ge hg;have A3: ∀(j g:Nat),j<s.disks.length→(slV (Y j)).ownBlock=some g→g<w1.heap.size:=fun j g hj hg=>hL.lt (by omega) hg
 refine(c0V R D s.disks.length N 100 k V U s.disks L Y vl w0.heap.size w1 h1.var.ty h1.c3 h1.dk rfl n1 A6 h.wf.wd (by omega) hL hLn hNw (c9E hNw b1.size) (fun i j x g hi hj hx hg e=>by
  have z1:=A2 i x g hi hx hg;have z2:=A0 j g hj e
  omega)).mono ?_
 rintro e w2 ⟨rfl,V',U',hS⟩;refine⟨rfl,fun k=>F k∨(w0.heap.size≤k∧k<w2.heap.size),V',U',?_⟩;have A5:=hS.off.size;have A1:StP w1 N R (fun k=>F k∨(w0.heap.size≤k∧k<w1.heap.size)) E c s D V U vt vs va tc:=h1.wider (fun _ q=>Or.inl q) fun k q=>by
  rcases q with q|⟨q1,q2⟩
  ·exact Or.inl q
  ·exact Or.inr ⟨c9E hNw q1,q2,fun z=>absurd (h.dis k z).2 (Nat.not_lt.2 q1)⟩
 have A4:dM w2 N D V' U' (Sto.write k L 0 s.disks):=by
  have:=hS.dk;rw[show(Sto.write k L 0 s.disks).take s.disks.length=Sto.write k L 0 s.disks from List.take_of_length_le (by rw[Sto.cK];exact c9C _),d0T,d0W]at this;exact this
 have H:=A1.disks (F':=fun k=>F k∨(w0.heap.size≤k∧k<w2.heap.size)) hS.off (fun b q=>?_) A4 (Sto.cK ..) (fun b q=>?_) (fun b q=>?_) (c9E hNw b1.size) (fun i g hi hg=>?_) (fun i x g hi hx hg=>?_) ⟨by show(Sto.write k L 0 s.disks).length=_;rw[Sto.cK];exact h.wf.len,h.wf.d1,h.wf.d8,h.wf.s4,h.wf.b1,h.wf.b10,h.wf.wd.write hk L,h.wf.segs,h.wf.tail,h.wf.bats,h.wf.up,h.wf.cmds,h.wf.right⟩
 ·refine⟨H.1,⟨(Off.oE b1).trans (hS.off.wider fun b q=>?_),fun b q=>?_,fun _ q=>Or.inl q⟩⟩
  ·rcases q with rfl|⟨i,hi,q⟩
   ·exact h.fD
   ·exact h.fV i b hi q
  ·rcases q with q|⟨q,_⟩
   ·exact Or.inl q
   ·exact Or.inr q
 ·rcases q with rfl|⟨i,hi,q⟩
  ·exact⟨Or.inl h.fD,_,h1.dk.row.ty,Or.inl rfl⟩
  ·exact⟨Or.inl (h.fV i b hi q),_,aU (h1.dk.own i hi) q,Or.inr (Or.inl rfl)⟩
 ·rcases q with q|⟨q1,q2⟩
  ·exact Or.inl q
  ·exact Or.inr ⟨q1,c9P q2 A5⟩
 ·rcases q with q|⟨q1,q2⟩
  ·exact Or.inl (Or.inl q)
  ·by_cases z:b<w1.heap.size
   ·exact Or.inl (Or.inr ⟨q1,z⟩)
   ·exact Or.inr ⟨Nat.not_lt.1 z,q2⟩
 ·rcases hS.newV i g hi hg with q|q
  ·exact Or.inl (h.fV i g hi q)
  ·exact Or.inr ⟨c9E b1.size q,A4.Vlt (by rw[Sto.cK];exact hi) hg⟩
 ·rcases hS.newU i x g hi hx hg with⟨y,hy,q⟩|⟨_,q⟩
  ·exact Or.inl (h.fU i y g hi hy q)
  ·exact Or.inr ⟨A0 i g hi q,c9P (A3 i g hi q) A5⟩
end
def orE(a b:Nat):Nat:=if a=0 then b else a
theorem c6Z(a b p:Nat)(w:World)(c0:w.cell? (aD p 0)=some (iV a))(c1:w.cell? (aD p 1)=some (iV b)):
  Calls prog 55 #[.slice (some (aD p 0)) 2 2] w fun e w'=>e=.returned (iV ((orE a b:Nat):Int))∧w'=w:=by
 by_cases ha:a=0
 ·by_cases hb:b=0
  ·subst ha;subst hb;have HO:Hid (orE 0 0=0):=rfl;go_enter func55,ntmps55
   go_wp2_with fail;go_loopw [8] (fun x wr=> ∃k:Nat,k≤2∧x=iV k∧wr=w) (fun x _=>2-(intOf x).toNat)
   case atStart=>exact⟨0,c9D _,rfl,rfl⟩
   case round=>
    obtain⟨k,hk,rfl,rfl⟩:=hrel;rcases(show k=0∨k=1∨k=2 by omega)with rfl|rfl|rfl
    ·go_wp2_with fail;exact⟨⟨1,by omega,rfl,trivial⟩,by simp[intOf]⟩
    ·go_wp2_with fail;exact⟨⟨2,by omega,rfl,trivial⟩,by simp[intOf]⟩
    ·go_wp2_with fail;go_ret
     exact⟨rfl,rfl⟩
  ·subst ha;have HO:Hid (orE 0 b=b):=rfl;have A1:((b:Int) !=0)=true:=by rw[bne_iff_ne];omega
   clear hb;go_enter func55,ntmps55
   go_wp2_with fail;go_loopw [8] (fun x wr=> ∃k:Nat,k≤1∧x=iV k∧wr=w) (fun x _=>2-(intOf x).toNat)
   case atStart=>exact⟨0,c9D _,rfl,rfl⟩
   case round=>
    obtain⟨k,hk,rfl,rfl⟩:=hrel;rcases(show k=0∨k=1 by omega)with rfl|rfl
    ·go_wp2_with fail;exact⟨⟨1,by omega,rfl,trivial⟩,by simp[intOf]⟩
    ·go_wp2_with fail;go_ret
     exact⟨by rw[HO.out];rfl,rfl⟩
 ·have HO:Hid (orE a b=a):=if_neg ha;have A0:((a:Int) !=0)=true:=by rw[bne_iff_ne];omega
  clear ha;go_enter func55,ntmps55
  go_wp2_with fail;go_loopw [8] (fun x wr=>x=iV 0∧wr=w) (fun x _=>2-(intOf x).toNat)
  case atStart=>exact⟨rfl,rfl⟩
  case round=>
   obtain⟨rfl,rfl⟩:=hrel;go_wp2_with fail;go_ret
   exact⟨by rw[HO.out];rfl,rfl⟩
def kJ(X:Sto.Six)(c:Sto.Cfg)(j:Nat)(r:List Sto.aM×Nat×Nat):List Sto.aM×Nat×Nat:=
 if X.bad (Sto.aI r.1 j) j=[]then r
 else if (X.mend (Sto.aI r.1 j) j c).1≠0 then(r.1,orE r.2.1 (X.mend (Sto.aI r.1 j) j c).1,r.2.2)
 else(Sto.write j (X.mend (Sto.aI r.1 j) j c).2 0 r.1,r.2.1,r.2.2+Sto.there r.1 (X.bad (Sto.aI r.1 j) j))
theorem iU(X:Sto.Six)(c:Sto.Cfg): ∀(m k:Nat) (ds:List Sto.aM) (e n:Nat),Sto.aN X c (m+1) k ds e n=kJ X c (k+m) (Sto.aN X c m k ds e n)
 |0,k,ds,e,n=>by
  show Sto.aN X c 1 k ds e n=kJ X c k (ds,e,n)
  unfold kJ orE
  rw[Sto.aN]
  by_cases h1:X.bad (Sto.aI ds k) k=[]
  ·rw[if_pos h1,if_pos h1]
   rfl
  ·rw[if_neg h1,if_neg h1]
   by_cases h2:(X.mend (Sto.aI ds k) k c).1≠0
   ·rw[if_pos h2,if_pos h2]
    rfl
   ·rw[if_neg h2,if_neg h2]
    rfl
 |m+1,k,ds,e,n=>by
  by_cases h1:X.bad (Sto.aI ds k) k=[]
  ·have e1: ∀j,Sto.aN X c (j+1) k ds e n=Sto.aN X c j (k+1) ds e n:=fun j=>by rw[Sto.aN,if_pos h1]
   rw[e1,e1,iU X c m (k+1),show k+1+m=k+(m+1) by omega]
  ·by_cases h2:(X.mend (Sto.aI ds k) k c).1≠0
   ·have e1: ∀j,Sto.aN X c (j+1) k ds e n=Sto.aN X c j (k+1) ds (if e=0 then(X.mend (Sto.aI ds k) k c).1 else e) n:=fun j=>by rw[Sto.aN,if_neg h1,if_pos h2]
    rw[e1,e1,iU X c m (k+1),show k+1+m=k+(m+1) by omega]
   ·have e1: ∀j,Sto.aN X c (j+1) k ds e n=Sto.aN X c j (k+1) (Sto.write k (X.mend (Sto.aI ds k) k c).2 0 ds) e (n+Sto.there ds (X.bad (Sto.aI ds k) k)):=fun j=>by rw[Sto.aN,if_neg h1,if_neg h2]
    rw[e1,e1,iU X c m (k+1),show k+1+m=k+(m+1) by omega]
theorem l8(X:Sto.Six)(c:Sto.Cfg)(ds:List Sto.aM): ∀m:Nat,(Sto.aN X c m 0 ds 0 0).1.length=ds.length
 |0=>rfl
 |m+1=>by
  rw[iU]
  unfold kJ
  split
  ·exact l8 X c ds m
  ·split
   ·exact l8 X c ds m
   ·show(Sto.write _ _ 0 _).length=_
    rw[Sto.cK]
    exact l8 X c ds m
theorem a9F{X:Sto.Six}(hX:Sto.dE X)(c:Sto.Cfg)(ds:List Sto.aM): ∀m:Nat,(Sto.aN X c m 0 ds 0 0).2.2≤m*ds.length
 |0=>c9D _
 |m+1=>by
  have ih:=a9F hX c ds m
  have hl:=l8 X c ds m
  rw[iU,d0F]
  unfold kJ
  split
  ·omega
  ·split
   ·show(Sto.aN X c m 0 ds 0 0).2.2≤_
    omega
   ·show(Sto.aN X c m 0 ds 0 0).2.2+Sto.there _ _≤_
    have h1:=rV (Sto.aN X c m 0 ds 0 0).1 (X.bad (Sto.aI (Sto.aN X c m 0 ds 0 0).1 ((0+m:Nat):Int)) (0+m))
    have h2:=pP hX (Sto.aI (Sto.aN X c m 0 ds 0 0).1 ((0+m:Nat):Int)) (0+m)
    rw[kO]at h2
    omega
theorem a8C(k:Int)(L:List (List Nat))(ds:List Sto.aM)(l:List Nat):Sto.there (Sto.write k L 0 ds) l=Sto.there ds l:=by
 unfold Sto.there;congr 1;refine List.filter_congr fun i _=>?_;have h:=Sto.b0V k L ds i;cases h1:(Sto.write k L 0 ds)[i]? with
 |none=>
  cases h2:ds[i]? with
  |none=>rfl
  |some d=>
   rw[h1,h2]at h;cases h
 |some a=>
  cases h2:ds[i]? with
  |none=>
   rw[h1,h2]at h;cases h
  |some d=>
   rw[h1,h2]at h;have h:some a.gone=some d.gone:=h;show(!a.gone)=!d.gone;rw[Option.some.inj h]
theorem b2W{X:Sto.Six}(hX:Sto.dE X){bs:List (List Nat)}(h:i∈X.bad bs k):i<bs.length:=by
 rw[hX.bad]at h;exact d0D.1 (d0Z.1 h).1
theorem a9D{X:Sto.Six}(hX:Sto.dE X){bs:List (List Nat)}{c:Sto.Cfg}(h:(X.mend bs k c).1=0):(X.mend bs k c).2.length=c.d+c.s:=by
 rw[hX.mend]at h⊢;by_cases q:(X.read bs k c).1≠0
 ·rw[if_pos q]at h;exact absurd h q
 ·rw[if_neg q]at h⊢;exact(Sto.oE (show Sto.lX (X.read bs k c).2 k c=(0,(Sto.lX (X.read bs k c).2 k c).2)from Prod.ext h rfl)).2.1
structure ScP(w wr:World)(N R:Nat)(F E F':Nat→Prop)(c:Sto.Cfg)(s:Sto.St)(D:Nat)(V:Nat→Value)(U:Nat→List HeC)(vt vs va:Value)(tc:List (Int×Sl))(r:List Sto.aM×Nat×Nat):Prop where
 st:StP wr N R F' E c {s with disks:=r.1} D V U vt vs va tc
 fr:dS w wr F F' E E
 no: ∀k,k=w.heap.size∨k=w.heap.size+1→ ¬F' k∧ ¬E k
 a0:aV wr w.heap.size 42 (cJ 0 0).toList
 a1:aV wr (w.heap.size+1) 42 (cJ (r.2.1:Nat) (r.2.2:Nat)).toList
def ScS(w wr:World)(N R:Nat)(F E:Nat→Prop)(c:Sto.Cfg)(s:Sto.St)(D:Nat)(vt vs va:Value)(tc:List (Int×Sl))(r:List Sto.aM×Nat×Nat):Prop:= ∃F' V U,ScP w wr N R F E F' c s D V U vt vs va tc r
section
variable {w wr w' : World} {N R D : Nat} {F E F' : Nat → Prop} {c : Sto.Cfg} {s : Sto.St} {V : Nat → Value} {U : Nat → List HeC} {vt vs va : Value} {tc : List (Int × Sl)} {r : List Sto.aM × Nat × Nat}
theorem ScP.bE(h:ScP w wr N R F E F' c s D V U vt vs va tc r)(hb:Bl wr w'):ScP w w' N R F E F' c s D V U vt vs va tc r:=
 ⟨h.st.bE hb,h.fr.trans (dS.oE F' E hb),h.no,h.a0.bE hb,h.a1.bE hb⟩
theorem ScP.room(h:ScP w wr N R F E F' c s D V U vt vs va tc r):w.heap.size+1<wr.heap.size:=h.a1.ty.lt
theorem ScP.put(h:ScP w wr N R F E F' c s D V U vt vs va tc r)(i:Nat)(v:Value)(e n:Nat)(hi:(cJ (r.2.1:Nat) (r.2.2:Nat)).toList.set i v=(cJ (e:Nat) (n:Nat)).toList)(hi5:i<5):ScP w (wr.setCell (aD (w.heap.size+1) i) v) N R F E F' c s D V U vt vs va tc (r.1,e,n):=by
 have ho:=aG wr (aD (w.heap.size+1) i) v;refine⟨h.st.out ho fun k q=>h.no k (Or.inr q),⟨h.fr.off.past ho fun k q hk=>?_,h.fr.growF,h.fr.growE⟩,h.no,h.a0.off ho (fun q=>?_),?_⟩
 ·have q:k=w.heap.size+1:=q;omega
 ·have q:w.heap.size=w.heap.size+1:=q;omega
 ·have:=h.a1.set i v (by simpa using hi5);rw[hi]at this;exact this
theorem ScP.held(h:ScP w wr N R F E F' c s D V U vt vs va tc r){F2:Nat→Prop}{V2:Nat→Value}{U2:Nat→List HeC}{ds':List Sto.aM}(hs:StP w' N R F2 E c {s with disks:=ds'} D V2 U2 vt vs va tc)(hf:dS wr w' F' F2 E E):ScP w w' N R F E F2 c s D V2 U2 vt vs va tc (ds',r.2):=by
 have hr:=h.room;refine⟨hs,h.fr.trans hf,fun k q=>⟨fun z=>?_,(h.no k q).2⟩,h.a0.off hf.off (h.no _ (Or.inl rfl)).1,h.a1.off hf.off (h.no _ (Or.inr rfl)).1⟩;rcases hf.growF k z with y|y
 ·exact(h.no k q).1 y
 ·omega
end
theorem b6O{D:Nat}{F:Nat→Prop}{c:Sto.Cfg}{s:Sto.St}{V:Nat→Value}{U:Nat→List HeC}{vs va:Value}{tc:List (Int×Sl)}{X:Sto.Six}(hX:Sto.dE X)(w:World)(h:StP w N R F E c s D V U vt vs va tc)(hNw:N≤w.heap.size):
  Calls prog 29 #[.pointer (some (aD R 0))] w fun e w'=>e=.returned (dI ((Sto.aN X c s.segs 0 s.disks 0 0).2.1:Nat) ((Sto.aN X c s.segs 0 s.disks 0 0).2.2:Nat))∧ ∃F' V' U',StP w' N R F' E c {s with disks:=(Sto.aN X c s.segs 0 s.disks 0 0).1} D V' U' vt vs va tc∧dS w w' F F' E E:=by
 have bA:Bl w (w.alloc (.cells (cJ 0 0) 42)):=(Below.refl _ _).alloc (c9C _) _;have bB:Bl (w.alloc (.cells (cJ 0 0) 42)) ((w.alloc (.cells (cJ 0 0) 42)).alloc (.cells (cJ 0 0) 42)):=(Below.refl _ _).alloc (c9C _) _;have V0:=(aC w (cJ 0 0) 42).bE bB;have V1:=aC (w.alloc (.cells (cJ 0 0) 42)) (cJ 0 0) 42;have sz:(w.alloc (.cells (cJ 0 0) 42)).heap.size=w.heap.size+1:=by simp
 have Bk:((w.alloc (.cells (cJ 0 0) 42)).alloc (.cells (cJ 0 0) 42)).heap.size=w.heap.size+2:=by simp
 rw[sz]at V1;have b2:=bt bA bB;have Ax:Hid (∀k,F k∨E k→k<w.heap.size):=fun k hk=>(show uQ w N R F E c s from⟨_,_,_,_,_,_,_,h⟩).lt hk;have A3:Hid (WfS c s):=h.wf
 have Az:Hid (ScS w ((w.alloc (.cells (cJ 0 0) 42)).alloc (.cells (cJ 0 0) 42)) N R F E c s D vt vs va tc (Sto.aN X c 0 0 s.disks 0 0)):=⟨F,V,U,h.bE b2,dS.oE _ _ b2,fun k q=>⟨fun z=>by
  have:=Ax.out k (Or.inl z);omega,fun z=>by
  have:=Ax.out k (Or.inr z)
  omega⟩,V0,V1⟩
 have c4:=(h.bE b2).var.q4;have Bf:=h.wf.segs;have HX:Hid (Sto.dE X):=hX;have B9:=hd8 b2;obtain⟨n,hn⟩: ∃n,n=s.segs:=⟨_,rfl⟩;rw[←hn]at c4 Bf;have Bc:=hd8 hn;clear h hX hn V0 V1 bA bB sz Bk b2;go_enter func29,ntmps29
 go_wp2_with fail;generalize (w.alloc (.cells (cJ 0 0) 42)).alloc (.cells (cJ 0 0) 42)=W2 at c4 Az B9⊢;go_loopw [14] (fun x wr=> ∃k:Nat,k≤n∧x=iV k∧Hid (ScS w wr N R F E c s D vt vs va tc (Sto.aN X c k 0 s.disks 0 0))) (fun x _=>n-(intOf x).toNat)
 case atStart=>exact⟨0,c9D _,rfl,Az.out⟩
 case round=>
  obtain⟨k,hk,rfl,HS⟩:=hrel;by_cases Bm:k<n
  ·have Be:(k:Int)<(n:Int):=by omega
   obtain⟨F',V',U',hS⟩:=HS.out;obtain⟨r,hr⟩: ∃r,r=Sto.aN X c k 0 s.disks 0 0:=⟨_,rfl⟩;have B1:Hid (Sto.aN X c (k+1) 0 s.disks 0 0=kJ X c k r):=by
    show Sto.aN X c (k+1) 0 s.disks 0 0=kJ X c k r;rw[iU,c9G,hr]
   have A7:r.1.length=s.disks.length:=by rw[hr];exact l8 ..
   have B4:r.2.2≤1000:=by
    have h1:=a9F HX.out c s.disks k;have h2:=A3.out.len;have h3:=A3.out.d8;have h4:=A3.out.s4;have h5:k*s.disks.length≤40*12:=d0Y (by omega) (by omega);rw[hr];omega
   rw[←hr]at hS;obtain⟨ds,e,m⟩:=r;have B4:m≤1000:=B4;have A7:ds.length=s.disks.length:=A7;have A4:Hid (ds.length=c.d+c.s):=by
    show ds.length=c.d+c.s;rw[A7];exact A3.out.len
   have Ap:=hd8 hS;have HB:=hS.st.blks (k:Int);have HB:Calls prog 52 #[.pointer (some (aD R 0)),iV k] wr fun e w'=>c5U e w' (Sto.aI ds (k:Int))∧Bl wr w':=HB;have Ab:Hid ((Sto.aI ds (k:Int)).length=c.d+c.s):=by
    show(Sto.aI ds (k:Int)).length=c.d+c.s;rw[kO];exact A4.out
   obtain⟨bs,Au⟩: ∃bs,bs=Sto.aI ds (k:Int):=⟨_,rfl⟩;have Aa:Hid (Sto.aN X c (k+1) 0 s.disks 0 0=if X.bad bs k=[]then(ds,e,m)else if (X.mend bs k c).1≠0 then(ds,orE e (X.mend bs k c).1,m)else(Sto.write k (X.mend bs k c).2 0 ds,e,m+Sto.there ds (X.bad bs k))):=by
    show Sto.aN X c (k+1) 0 s.disks 0 0=_;rw[B1.out,Au];rfl
   rw[←Au]at HB Ab;clear hr A7 hS B1 HS Au;go_wp2_with fail;refine HB.mono ?_;rintro e1 w1 ⟨⟨v1,rfl,Al⟩,b1⟩;have Bb:Hid (∀g,F' g→g<w1.heap.size):=fun g z=>c9P (Ap.out.st.lt g z).2 b1.size;have An:=a6C HX.out v1 bs k w1 Al (by have:=Ab.out;have:=A3.out.d8;have:=A3.out.s4;omega);have Ao:=hd8 fun w' hb'=>b7I HX.out v1 bs k c w' (Al.bE hb') Ab.out A3.out.d8 A3.out.s4;obtain⟨A1,C1,B6⟩:=Al.sE;rw[B6]at An Ao⊢;clear HB Al B6;go_wp2_with fail;refine An.mono ?_;rintro e2 w2 ⟨v2,rfl,Ar,b2⟩;have Ac:Hid (∀i,i∈X.bad bs k→i<ds.length):=fun i hi=>by
    have:=b2W HX.out hi;rw[Ab.out]at this;rw[A4.out];exact this
   have B3:(X.bad bs k).length≤12:=by
    have:=pP HX.out bs k;have:=Ab.out;have:=A3.out.d8;have:=A3.out.s4;omega
   obtain⟨A2,C2,Bh,_⟩:=kK Ar;have A8:=hd8 Ar;have Ah:=Ap.out.bE (bt b1 b2);have HM:=Ao.out w2 b2;subst Bh;obtain⟨A0,Af⟩: ∃A0,A0=X.bad bs k:=⟨_,rfl⟩;rw[←Af]at A8 Ac Aa B3⊢;clear An Ao Ar Af Ap b1 b2;by_cases hz:A0=[]
   ·subst hz;have HD:Hid (ScS w w2 N R F E c s D vt vs va tc (Sto.aN X c (k+1) 0 s.disks 0 0)):=by
     show ScS w w2 N R F E c s D vt vs va tc (Sto.aN X c (k+1) 0 s.disks 0 0);rw[Aa.out,if_pos rfl];exact⟨_,_,_,Ah⟩
    clear HM A8 Ac;go_wp2_with fail;exact⟨⟨k+1,by omega,by go_num,HD.out⟩,by simp[intOf];omega⟩
   ·have B8:((A0.length:Nat):Int)≠0:=by
     have:=List.length_pos_iff.2 hz;omega
    have Bj:(((A0.length:Nat):Int)==0)=false:=by rw[beq_eq_false_iff_ne];exact B8
    have HZ:=hd8 hz;have c0:=Ah.st.var.q0;obtain⟨Ag,A9⟩: ∃Ag,Ag=A0.length:=⟨_,rfl⟩;rw[←A9]at Bj A8 B3⊢;have Ay:=hd8 A9;have A6:=hd8 Ah;clear hz B8 A9 Ah;go_wp2_with fail;refine HM.mono ?_;rintro e3 w3 ⟨⟨v3,rfl,Ae⟩,b3⟩;have Ai:=A6.out.bE b3;obtain⟨x,hx⟩: ∃x,x=(X.mend bs k c).1:=⟨_,rfl⟩;have Ak:=hd8 hx;rw[←hx]at Ae⊢;clear HM hx;by_cases Am:x=0
    ·subst Am;obtain⟨Y,hY⟩: ∃Y,iD w3 w2.heap.size v3 (X.mend bs k c).2 Y:=by
      rcases Ae with⟨_,q⟩|⟨q,_⟩
      ·exact q
      ·exact absurd rfl q
     have Av:(X.mend bs k c).2.length=ds.length:=by rw[a9D HX.out Ak.out.symm,A4.out]
     have As:=c9E hNw A6.out.fr.off.size;have HH:=a3C A6.out.st b3 hY Av k (by omega) As;have Ad:Hid (Sto.aN X c (k+1) 0 s.disks 0 0=(Sto.write k (X.mend bs k c).2 0 ds,e,m+Sto.there ds A0)):=by
      show Sto.aN X c (k+1) 0 s.disks 0 0=_;rw[Aa.out,if_neg HZ.out,if_neg (fun z=>z Ak.out.symm)]
     obtain⟨b9,c9,B7,_⟩:=hY.at (by rw[Av,A4.out];have:=A3.out.d1;omega);rw[B7]at HH⊢;obtain⟨L,hL⟩: ∃L,L=(X.mend bs k c).2:=⟨_,rfl⟩;rw[←hL]at HH Ad⊢;clear Ae hY B7 Ai Av Aa hL;go_wp2_with fail;refine HH.mono ?_;rintro e4 w4 ⟨rfl,F2,V2,U2,At,Aq⟩;have A5:=A6.out.held At Aq;have B2:iQ w4 w1.heap.size (.slice A2 Ag C2) A0:=bC A8.out Aq.off fun g hg z=>by
      have z1:=Bb.out g z;have z2:=(A8.out.lt g hg).1;omega
     have bD:Bl w4 w4.drew:=(Below.refl _ _).drew;have HT:=b6J (.slice A2 Ag C2) A0 w1.heap.size w4.drew (At.bE bD) (aK B2 bD) (fun i hi=>by show i<(Sto.write k L 0 ds).length;rw[Sto.cK];exact Ac.out i hi) (by rw[←Ay.out];omega);have Bg:Sto.there ds A0≤12:=by
      have:=rV ds A0;have:=Ay.out;omega
     have HT:Calls prog 57 #[.pointer (some (aD R 0)),.slice A2 Ag C2] {w4 with drawn:=w4.drawn+1} fun e w'=>e=.returned (iV ((Sto.there ds A0:Nat):Int))∧w'={w4 with drawn:=w4.drawn+1}:=by
      have e9:Sto.there (Sto.write k L 0 ds) A0=Sto.there ds A0:=a8C _ _ _ _;rw[←e9];exact HT
     have Aj:=A5.bE bD;have d0:=A5.a1.q1;have f2:=A5.a1.frozen 1;have d1:({w4 with drawn:=w4.drawn+1}:World).cell? (aD (w.heap.size+1) 1)=some (iV m):=Aj.a1.q1;have f1:=Aj.a1.frozen 1;obtain⟨t,ht⟩: ∃t,t=Sto.there ds A0:=⟨_,rfl⟩;rw[←ht]at HT Ad Bg;have HD:Hid (ScS w (w4.drew.setCell (aD (w.heap.size+1) 1) (iV ((m+t:Nat):Int))) N R F E c s D vt vs va tc (Sto.aN X c (k+1) 0 s.disks 0 0)):=by
      show ScS w _ N R F E c s D vt vs va tc (Sto.aN X c (k+1) 0 s.disks 0 0);rw[Ad.out];exact⟨_,_,_,Aj.put 1 _ e (m+t) rfl (by decide)⟩
     have B5:((m+t:Nat):Int)=(m:Int)+(t:Int):=by omega
     rw[B5]at HD;clear HH At Aq A5 Aj B2 A8 Ac ht bD B5;go_wp2_with fail;refine wp_region_still_tail 7 (by kernel_rfl) (by kernel_rfl) ?_;simp only[List.take_succ_cons,List.take_zero,List.drop_succ_cons,List.drop_zero];iterate 4 still_step
     still_call HT
     iterate 2 still_step
     refine wpStill_nil ?_;go_wp2_with fail;exact⟨⟨k+1,by omega,by go_num,HD.out⟩,by simp[intOf];omega⟩
    ·have Bi:v3=nS:=by
      rcases Ae with⟨q,_⟩|⟨_,q⟩
      ·exact absurd q Am
      ·exact q
     subst Bi;have Bn:((x:Int) !=0)=true:=by rw[bne_iff_ne];omega
     have Ad:Hid (Sto.aN X c (k+1) 0 s.disks 0 0=(ds,orE e x,m)):=by
      show Sto.aN X c (k+1) 0 s.disks 0 0=_;rw[Aa.out,if_neg HZ.out,if_pos (by rw[←Ak.out];exact Am),Ak.out]
     have bE:=aB8 w3 (.cells #[iV e,iV x] 34);have VE:=aO w3 34 (iV e) (iV x);have HO:=c6Z e x w3.heap.size _ VE.c0 VE.c1;have A5:=Ai.bE bE;have e0:=Ai.a1.q0;have e1:=A5.a1.q0;have f0:=A5.a1.frozen 0;have HD:Hid (ScS w ((w3.alloc (.cells #[iV e,iV x] 34)).setCell (aD (w.heap.size+1) 0) (iV ((orE e x:Nat):Int))) N R F E c s D vt vs va tc (Sto.aN X c (k+1) 0 s.disks 0 0)):=by
      show ScS w _ N R F E c s D vt vs va tc (Sto.aN X c (k+1) 0 s.disks 0 0);rw[Ad.out];exact⟨_,_,_,A5.put 0 _ (orE e x) m rfl (by decide)⟩
     clear Ae Am Ai A5 VE Aa A8 Ac;go_wp2_with fail;refine HO.mono ?_;rintro e4 w4 ⟨rfl,rfl⟩;clear HO;go_wp2_with fail;exact⟨⟨k+1,by omega,by go_num,HD.out⟩,by simp[intOf];omega⟩
  ·obtain rfl:k=n:=by omega
   obtain⟨F',V',U',hS⟩:=HS.out;have Ba:Hid (∀a b d e f,∃F' V' U',StP (((((wr.setCell (aD w.heap.size 0) a).setCell (aD w.heap.size 1) b).setCell (aD w.heap.size 2) d).setCell (aD w.heap.size 3) e).setCell (aD w.heap.size 4) f) N R F' E c {s with disks:=(Sto.aN X c k 0 s.disks 0 0).1} D V' U' vt vs va tc∧dS w (((((wr.setCell (aD w.heap.size 0) a).setCell (aD w.heap.size 1) b).setCell (aD w.heap.size 2) d).setCell (aD w.heap.size 3) e).setCell (aD w.heap.size 4) f) F F' E E):=fun a b d e f=>by
    have ho:=aT wr w.heap.size a b d e f;refine⟨F',V',U',hS.st.out ho fun q z=>hS.no q (Or.inl z),hS.fr.off.past ho fun q z hq=>?_,hS.fr.growF,hS.fr.growE⟩;have z:q=w.heap.size:=z;omega
   have B0:Hid (Sto.aN X c s.segs 0 s.disks 0 0=Sto.aN X c k 0 s.disks 0 0):=by
    show Sto.aN X c s.segs 0 s.disks 0 0=_;rw[←Bc.out]
   have a0:=hS.a0;have a1:=hS.a1;have b0:=a0.q0;have b1:=a0.q1;have b2:=a0.q2;have b3:=a0.q3;have b4:=a0.q4;have f0:=a0.frozen 0;have f1:=a0.frozen 1;have f2:=a0.frozen 2;have f3:=a0.frozen 3;have f4:=a0.frozen 4;have d0:=a1.q0;have d1:=a1.q1;have d2:=a1.q2;have d3:=a1.q3;have d4:=a1.q4;obtain⟨e,he⟩: ∃e,e=(Sto.aN X c k 0 s.disks 0 0).2.1:=⟨_,rfl⟩;obtain⟨m,hm⟩: ∃m,m=(Sto.aN X c k 0 s.disks 0 0).2.2:=⟨_,rfl⟩;have Aw:Hid (e=(Sto.aN X c k 0 s.disks 0 0).2.1∧m=(Sto.aN X c k 0 s.disks 0 0).2.2):=⟨he,hm⟩;rw[←he]at d0;rw[←hm]at d1;clear he hm;clear hS HS a0 a1;go_wp2_with fail;refine bodyPost_ret (v:=dI (e:Nat) (m:Nat)) (by simp[results,results29,go_sem,b0,b1,b2,b3,b4]) rfl ⟨by rw[B0.out,Aw.out.1,Aw.out.2],?_⟩;rw[B0.out];exact Ba.out _ _ _ _ _
theorem uE{l:List Evt.Ev}(h:Evs w v l):
  ∃es:List EvC,es.map aY=l∧(∀e,e∈es→e.1.size≤9223372036854775807)∧ ∀A C,v=.slice (some A) l.length C→ ∀j u,(es.flatMap eH)[j]?=some u→w.cell? (A.add j)=some u:=by
 by_cases h0:1≤l.length
 ·obtain⟨b,o,C,rfl,_,_,hc⟩:=h.some h0;have A0: ∀i,i<l.length→ ∃q:EvC,∀x,l[i]?=some x→aY q=x∧q.1.size≤9223372036854775807∧w.cell? (aD b (o+i*3))=some (.string q.1)∧w.cell? (aD b (o+i*3+1))=some (iV q.2.1)∧w.cell? (aD b (o+i*3+2))=some (iV q.2.2):=by
   intro i hi;obtain⟨s,h1,h2,c0,c1,c2⟩:=hc i l[i] (c9F hi);refine⟨(s,l[i].kind,l[i].num),fun x hx=>?_⟩;rw[c9F hi,Option.some.injEq]at hx;subst hx;refine⟨?_,h1,c0,c1,c2⟩;show(⟨nb s,_,_⟩:Evt.Ev)=_;rw[h2]
  obtain⟨q,hq⟩:=Deep.choose_lt (α:=EvC) A0;have hL: ∀i,i<l.length→((List.range l.length).map q)[i]?=some (q i):=fun i hi=>by simp[hi]
  refine⟨(List.range l.length).map q,?_,fun e he=>?_,fun A C' hv j u hj=>?_⟩
  ·apply d1I;intro i;by_cases hi:i<l.length
   ·rw[c9S,hL i hi,c9F hi,Option.map_some,(hq i hi l[i] (c9F hi)).1]
   ·rw[c9Z (by simpa using hi),c9Z (by omega)]
  ·obtain⟨i,hi,rfl⟩:=d0G.1 he;have hi:=d0D.1 hi;exact(hq i hi l[i] (c9F hi)).2.1
  ·cases hv
   have A1:(((List.range l.length).map q).flatMap eH).length=l.length*3:=by
    rw[fX eH 3 _ (fun _ _=>rfl)];simp
   have A2:j<l.length*3:=by
    have:=(c9H.1 hj).1;omega
   have hi:j/3<l.length:=by omega
   have hf:=dQ eH 3 ((List.range l.length).map q) (fun _ _=>rfl) (j/3) (j%3) (by omega) (q (j/3)) (hL _ hi);rw[show j/3*3+j%3=j by omega,hj]at hf;obtain⟨_,_,c0,c1,c2⟩:=hq (j/3) hi l[j/3] (c9F hi);rw[WideShapes.add_plain];rcases(show j%3=0∨j%3=1∨j%3=2 by omega)with e|e|e
   ·rw[e]at hf;cases hf
    rw[show o+j=o+j/3*3 by omega];exact c0
   ·rw[e]at hf;cases hf
    rw[show o+j=o+j/3*3+1 by omega];exact c1
   ·rw[e]at hf;cases hf
    rw[show o+j=o+j/3*3+2 by omega];exact c2
 ·obtain rfl:l=[]:=d0N (by omega);exact⟨[],rfl,fun e he=>(by cases he),fun A C _ j u hj=>(by cases hj)⟩
theorem c4N(es:List EvC): ∀u∈es.flatMap eH,u.oneCell'=true:=fun u hu=>by
 obtain⟨x,_,hx⟩:=d2H.1 hu
 simp only[eH,List.mem_cons,List.not_mem_nil,or_false]at hx
 rcases hx with rfl|rfl|rfl<;>rfl
theorem a3Q(es:List EvC):(es.flatMap eH).length=es.length*3:=fX eH 3 _ (fun _ _=>rfl)
theorem a5J(w:World)(N:Nat)(v:Value)(es0 es:List EvC)(h0:cH w N v es0)(hN:N≤w.heap.size)(a:Addr)(C:Nat)(hc: ∀j u,(es.flatMap eH)[j]?=some u→w.cell? (a.add j)=some u)(hz: ∀e,e∈es→e.1.size≤9223372036854775807)(hsz:es0.length+es.length≤4000000):
  ∃v' w',(Builtin.append_ #[40,40] 40 #[v,.slice (some a) es.length C]).run prog w=.ok v' w'∧cH w' N v' (es0++es)∧Off (fun k=>v.ownBlock=some k) w w'∧(v'.ownBlock=v.ownBlock∨v'.ownBlock=some w.heap.size):=by
 obtain⟨i4,A3,A1⟩:=c9J.1 Tryz.infoEvent;simp only[Prod.mk.injEq]at A1;obtain⟨A4,A5,A6⟩:=A1;obtain⟨v',w',A0,ho,hg,_,A2⟩:=run_append_own_at (P:=prog) w N 40 40 83 i4 _ 3 32 underlying40 A3 A4 A5 A6 rfl (by decide) v es0.length _ h0.1 a es.length C (es.flatMap eH) (a3Q es) hc (c4N es) (by unfold maxLen;omega) (by omega) hN;refine⟨v',w',A0,⟨?_,fun e he=>?_⟩,cI hg,A2⟩
 ·rw[c9I,d0H];exact ho
 ·rcases List.mem_append.1 he with q|q
  ·exact h0.2 e q
  ·exact hz e q
def b1F(e:Ending)(w':World)(N:Nat)(l:List Evt.Ev):Prop:= ∃v es,e=.returned v∧es.map aY=l∧cH w' N v es
theorem b0J(vs:Value)(l:List Evt.Ev)(w:World)(h:Evs w vs l)(hn:l.length≤2000000):
  Calls prog 77 #[vs] w fun e w'=>b1F e w' w.heap.size l∧Bl w w':=by
 obtain⟨es,A2,A9,A3⟩:=uE h;have A4:es.length=l.length:=by rw[←A2,c9M]
 have HE:=hd8 A2;obtain⟨A,C,rfl,_,_,A5⟩:=h;have hq:=fun w=>Lib.run_eql_slice_nil (P:=prog) w 40 83 A l.length C 0 0 underlying40;cases A with
 |none=>
  have A6:l=[]:=by
   cases l with
   |nil=>rfl
   |cons a r=>
    obtain⟨_,_,e,_⟩:=A5 0 a rfl;cases e
  have HR:Hid (b1F (.returned nS) w w.heap.size l):=⟨_,[],rfl,A6.symm,cH.nil w _⟩;clear A2 A3 A4 HE A5 A6;go_enter func77,ntmps77
  go_wp2_with fail;go_ret
  exact⟨HR.out,Below.refl _ _⟩
 |some a=>
  have A1:=aB8 w (.cells #[] 83);have h0:cH (w.alloc (.cells #[] 83)) w.heap.size (.slice (some (aD w.heap.size 0)) 0 0) []:=⟨World.ownsRow_made w #[] 0 (c9C _) (by unfold maxLen;omega) rfl,fun e he=>(by cases he)⟩
  obtain⟨v',w',A0,hB,A7,_⟩:=a5J (w.alloc (.cells #[] 83)) w.heap.size _ [] es h0 A1.size a C (fun j u hj=>by
   have h1:=A3 a C rfl j u hj
   exact(A1.cell (World.block_lt_of_cell? _ _ h1)).trans h1) A9 (by simp;omega)
  rw[A4]at A0
  have A8:Bl w w':=A1.trans (A7.bE A1.size fun k q=>by
   cases q
   exact c9C _)
  have HR:Hid (b1F (.returned v') w' w.heap.size l):=⟨v',es,rfl,HE.out,by rw[d1C]at hB;exact hB⟩;clear A2 A3 A4 HE A5 hB h0 A7;go_enter func77,ntmps77
  go_wp2_with (at_builtin;refine Lib.wpList_append_run _ rfl _ _ _ _ rfl _ _ rfl rfl _ _ A0 ?_);go_ret
  exact⟨HR.out,A8⟩
theorem mO{l:List Evt.Bat}{b:Evt.Bat}(h:l[k]?=some b):Sto.cG (l.take (k+1))=Sto.cG (l.take k)++b.evs:=by
 rw[d1Y,h,Sto.tK];simp[Sto.cG]
theorem pL(l:List Evt.Bat)(k:Nat):(Sto.cG (l.take k)).length≤(Sto.cG l).length:=by
 conv=>rhs;rw[←d2Q k l,Sto.tK,c9I]
 omega
def c8R(e:Ending)(w w':World)(N:Nat)(v:Value)(l:List Evt.Ev):Prop:= ∃v' es',e=.returned v'∧cH w' N v' es'∧es'.map aY=l∧Off (fun k=>v.ownBlock=some k) w w'∧(v'.ownBlock=v.ownBlock∨ ∀g,v'.ownBlock=some g→w.heap.size≤g)
def c8H(w wr:World)(N:Nat)(v y:Value)(es:List EvC)(l:List Evt.Bat)(k:Nat):Prop:= ∃es',cH wr N y es'∧es'.map aY=es.map aY++Sto.cG (l.take k)∧Off (fun k=>v.ownBlock=some k) w wr∧(y.ownBlock=v.ownBlock∨ ∀g,y.ownBlock=some g→w.heap.size≤g)
theorem xN(N:Nat)(v vb:Value)(es:List EvC)(l:List Evt.Bat)(w:World)(h:cH w N v es)(hN:N≤w.heap.size)(hB: ∀w',Off (fun k=>v.ownBlock=some k) w w'→eS w' vb l)(hne: ∀b,b∈l→1≤b.evs.length)(hsz:es.length+(Sto.cG l).length≤1000000):
  Calls prog 84 #[v,vb] w fun e w'=>c8R e w w' N v (es.map aY++Sto.cG l):=by
 have An:=hB w (Off.refl _ _);obtain⟨A,C,Ae,As,Ab,_⟩:=An;have HB:Hid (∀w',Off (fun k=>v.ownBlock=some k) w w'→ ∀i x,l[i]?=some x→ ∃b o,A=some (aD b o)∧oO w' b (o+i*2) x):=fun w' ho i x hx=>by
  obtain⟨A',C',Ad,_,_,hc⟩:=hB w' ho;rw[Ae]at Ad;cases Ad
  exact hc i x hx
 have Aj:=hd8 hne;have Al:=hd8 hsz;have Am:=mL8 Ab;subst Ae;have H0:c8H w w N v v es l 0:=⟨es,h,by rw[d2F];exact(d0W _).symm,Off.refl _ _,Or.inl rfl⟩;clear hB hne hsz h Ab;go_enter func84,ntmps84
 go_wp2_with fail;go_loopw [0,9] (fun y x wr=> ∃k:Nat,k≤l.length∧x=iV k∧Hid (∃A1,cH wr N y A1∧A1.map aY=es.map aY++Sto.cG (l.take k)∧Off (fun k=>v.ownBlock=some k) w wr∧(y.ownBlock=v.ownBlock∨ ∀g,y.ownBlock=some g→w.heap.size≤g))) (fun _ x _=>l.length-(intOf x).toNat)
 case atStart=>exact⟨0,c9D _,rfl,H0⟩
 case round=>
  obtain⟨k,hk,rfl,HS⟩:=hrel;by_cases Ap:k<l.length
  ·have Aq:(k:Int)<(l.length:Int):=by omega
   obtain⟨A1,hE,A0,A2,A4⟩:=HS;obtain⟨x,hx⟩: ∃x,l[k]?=some x:=⟨l[k],c9F Ap⟩;obtain⟨b,o,rfl,ve,d0,d1,A7⟩:=HB.out wr A2 k x hx;have Af:=Aj.out x (c9N hx);have bA:=aB8 wr (.cells #[iV x.cmd,ve] 47);obtain⟨bb,oo,CC,rfl,Ao,At,_⟩:=A7.some Af;obtain⟨xs,A9,Ai,Ag⟩:=uE (A7.bE bA);have Ah:xs.length=x.evs.length:=by rw[←A9,c9M]
   have A8:A1.length=es.length+(Sto.cG (l.take k)).length:=by
    have:=congrArg List.length A0;rw[c9M,c9I,c9M]at this;exact this
   have Ac:=pL l (k+1);rw[mO hx,c9I]at Ac;have Ar:=Al.out;obtain⟨v',w',A3,Aa,A6,A5⟩:=a5J (wr.alloc (.cells #[iV x.cmd,.slice (some (aD bb oo)) x.evs.length CC] 47)) N u0 A1 xs (hE.bE bA) (c9E hN (c9E A2.size bA.size)) (aD bb oo) CC (Ag _ _ rfl) Ai (by omega);rw[Ah]at A3;have Ak:c8H w w' N v v' es l (k+1):=by
    refine⟨A1++xs,Aa,by rw[c9U,A0,A9,mO hx,c9X],(A2.trans (Off.oE bA)).past A6 fun q hq hql=>?_,?_⟩
    ·rcases A4 with z|z
     ·rw[←z];exact hq
     ·have:=z q hq;omega
    ·rcases A5 with z|z
     ·rcases A4 with z1|z1
      ·exact Or.inl (z.trans z1)
      ·exact Or.inr fun g hg=>z1 g (z▸hg)
     ·refine Or.inr fun g hg=>?_;rw[z]at hg;cases hg
      exact c9E A2.size bA.size
   have VB:=aO wr 47 (iV x.cmd) (.slice (some (aD bb oo)) x.evs.length CC);obtain⟨e0,e1,_⟩:=VB;obtain⟨m,hm⟩: ∃m,m=x.evs.length:=⟨_,rfl⟩;rw[←hm]at A3 d1 Ao e1;rw[←hm]at e0;clear hE A0 A2 A4 hx A7 A9 Ai Ag Ah A8 Ac Ar Aa A6 A5 bA Af hm;go_wp2_with (at_builtin;refine Lib.wpList_append_run _ rfl _ _ _ _ rfl _ _ rfl rfl _ _ A3 ?_);exact⟨⟨k+1,by omega,by go_num,Ak⟩,by simp[intOf];omega⟩
  ·obtain rfl:k=l.length:=by omega
   have HF:Hid (c8R (.returned u0) w wr N v (es.map aY++Sto.cG l)):=by
    obtain⟨A1,hE,A0,A2,A4⟩:=HS;rw[d0L]at A0;exact⟨u0,A1,rfl,hE,A0,A2,A4⟩
   clear HS;go_wp2_with fail;go_ret
   exact HF.out
theorem gN.off{M:Nat}{l:List Evt.Bat}(h:gN w M v l)(ho:Off S w w')(hS: ∀k,S k→k<M):gN w' M v l:=by
 obtain⟨A,A0,hv,h1,h2,h3⟩:=h;refine⟨A,A0,hv,h1,h2,fun i x hx=>?_⟩;obtain⟨b,o,e1,e2,ve,c0,c1,he,e3⟩:=h3 i x hx;have hp:b<w.heap.size:=World.block_lt_of_cell? _ _ c0;have hb:=ho.block b hp fun z=>by have:=hS b z;omega
 refine⟨b,o,e1,e2,ve,(World.cell?_of_block (w:=w) (a:=⟨b,o+i*2,none⟩) hb).trans c0,(World.cell?_of_block (w:=w) (a:=⟨b,o+i*2+1,none⟩) hb).trans c1,?_,e3⟩;have h4:a0K w (fun k=>M≤k) ve x.evs:=⟨he,fun g hg _=>e3 g hg⟩;exact(h4.move (w':=w') (E':=fun k=>M≤k) (fun k hk hM=>ho.block k hk fun z=>by have:=hS k z;omega) fun _ _ z=>z).1
theorem a0M.bats{tc:List (Int×Sl)}{l:List Evt.Bat}(h:a0M w N E vt tc l):eS w vt l:=by
 have hB:sT w N vt (tc.map fun x=>(x.1,slV x.2)):=by
  unfold sT;rw[c9M,h.len,List.flatMap_map];exact h.own
 refine hB.bats (by rw[c9M,h.len]) fun i x b hx hb=>?_;rw[c9S]at hx;obtain⟨y,hy,rfl⟩:=c9J.1 hx;exact⟨(h.evs i y b hy hb).1,(h.evs i y b hy hb).2.1⟩
theorem tF{l:List Evt.Bat}(h:(Evt.aF l).1=0):(Sto.cG l).length≤2550∧ ∀b,b∈l→1≤b.evs.length:=by
 obtain⟨h1,h2⟩:=Evt.kG h;refine⟨?_,fun b hb=>(Evt.bN (h2 b hb)).2.2.1⟩;have A0: ∀r:List Evt.Bat,(∀b,b∈r→b.evs.length≤10)→(Sto.cG r).length≤r.length*10:=by
  intro r;induction r with
  |nil=>intro _;simp[Sto.cG]
  |cons x r ih=>
   intro hr;have h3:=hr x c9W;have h4:=ih fun b hb=>hr b (c9Y _ hb);have e:Sto.cG (x::r)=x.evs++Sto.cG r:=by simp[Sto.cG]
   rw[e,c9I,d0E,d0F];omega
 have:=A0 l fun b hb=>(Evt.bN (h2 b hb)).2.2.2.1;omega
theorem a6Q{r:List Nat}(h:Evt.aL r=0):(Evt.aF (Evt.dA r)).1=0:=by
 unfold Evt.aL at h;unfold Evt.dA;cases hg:Evt.tU r with
 |none=>
  rw[hg]at h;cases h
 |some l=>
  rw[hg]at h;show(Evt.aF (if (Evt.aF l).1=0 then l else[])).1=0;have h:(Evt.aF l).1=0:=h;rw[if_pos h];exact h
theorem c2U{x:Value}(b3:Bl wX w3)(h:wX.cell? (aD R i)=some x∧Bl w0 wX):w3.cell? (aD R i)=some x∧Bl w0 w3:=
 ⟨(b3.cell (p:=⟨R,i,none⟩) (World.block_lt_of_cell? _ _ h.1)).trans h.1,bt h.2 b3⟩
def a8J(e:Ending)(w':World)(N:Nat)(r:Nat×List Evt.Ev):Prop:= ∃v es,e=.returned (.tuple #[v,iV r.1])∧es.map aY=r.2∧cH w' N v es∧es.length≤200000
theorem tL(w':World)(N x:Nat):a8J (.returned (.tuple #[nS,iV x])) w' N (x,[]):=⟨_,[],rfl,rfl,cH.nil _ _,c9D _⟩
def c8E(X:Sto.Six)(c:Sto.Cfg)(ds:List Sto.aM)(n:Nat)(w wr:World)(y:Value)(k:Nat):Prop:= ∃es,cH wr w.heap.size y es∧Bl w wr∧es.length≤k*2550∧Sto.iW X c ds n 0 []=Sto.iW X c ds (n-k) k (es.map aY)
section
variable {N R D : Nat} {F E : Nat → Prop} {c : Sto.Cfg} {s : Sto.St} {V : Nat → Value} {U : Nat → List HeC} {vt vs va : Value} {tc : List (Int × Sl)} {X : Sto.Six}
theorem b3Z(hX:Sto.dE X)(w:World)(h:StP w N R F E c s D V U vt vs va tc):
  Calls prog 47 #[.pointer (some (aD R 0))] w fun e w'=>a8J e w' w.heap.size (Sto.all X c s)∧Bl w w':=by
 have c4:=h.var.q4;have Ay:=h.wf.segs;have HP:=hd8 h;have HX:=hd8 hX;have HA:Hid (Sto.all X c s=if (Sto.iW X c s.disks s.segs 0 []).1≠0 then((Sto.iW X c s.disks s.segs 0 []).1,[])else(0,(Sto.iW X c s.disks s.segs 0 []).2++Sto.cG s.tail)):=rfl;obtain⟨n,hn⟩: ∃n,n=s.segs:=⟨_,rfl⟩;rw[←hn]at c4 Ay HA;have S0:c8E X c s.disks n w w nS 0:=⟨[],cH.nil _ _,Below.refl _ _,c9D _,rfl⟩;clear h hX hn;go_enter func47,ntmps47
 go_wp2_with fail;go_loopw [4,14] (fun y x wr=> ∃k:Nat,k≤n∧x=iV k∧c8E X c s.disks n w wr y k) (fun _ x _=>n-(intOf x).toNat)
 case atStart=>exact⟨0,c9D _,rfl,S0⟩
 case round=>
  obtain⟨k,hk,rfl,es,hE,hb,Am,Ae⟩:=hrel;by_cases B1:k<n
  ·have Aw:(k:Int)<(n:Int):=by omega
   obtain⟨m,hm⟩: ∃m,n-k=m+1:=⟨n-k-1,by omega⟩;have hP:=HP.out.bE hb;have Ak:=fun w' (hS:w'.cell? (aD R 0)=some (iV c.d)∧Bl wr w')=>(hP.bE hS.2).blks (k:Int);have c0:=hP.var.q0;have TD:wr.drew.cell? (aD R 0)=some (iV c.d)∧Bl wr wr.drew:=⟨c0,(Below.refl _ _).drew⟩;have A6:Hid (Sto.iW X c s.disks n 0 []=if (X.read (Sto.aI s.disks k) k c).1≠0 then((X.read (Sto.aI s.disks k) k c).1,[])else if Evt.aL (X.read (Sto.aI s.disks k) k c).2≠0 then(Evt.aL (X.read (Sto.aI s.disks k) k c).2,[])else Sto.iW X c s.disks m (k+1) (es.map aY++Sto.cG (Evt.dA (X.read (Sto.aI s.disks k) k c).2))):=by
    show Sto.iW X c s.disks n 0 []=_;rw[Ae,hm,Sto.iW]
   have Ad:Hid (∀v' w',Lls w' v' (Sto.aI s.disks (k:Int)).length (Sto.fO (Sto.aI s.disks (k:Int))) (Sto.eK (Sto.aI s.disks (k:Int)))→Calls prog 82 #[v',iV k,iV c.d] w' fun e w2=> ∃v2,e=.returned (.tuple #[v2,iV ((X.read (Sto.aI s.disks (k:Int)) k c).1:Nat)])∧cU w2 v2 (X.read (Sto.aI s.disks (k:Int)) k c).2∧Bl w' w2):=fun v' w' hL=>a1X HX.out v' _ k c w' hL;generalize (X.read (Sto.aI s.disks (k:Int)) k c).1=x at A6 Ad;generalize (X.read (Sto.aI s.disks (k:Int)) k c).2=r at A6 Ad;have As:Hid (n-(k+1)=m):=show n-(k+1)=m by omega
   clear Ae hm hP c0;go_wp2_with fail;go_region_held3 (fun w'=>w'.cell? (aD R 0)=some (iV c.d)∧Bl wr w')
    (first|with_reducible exact TD|with_reducible assumption|with_reducible exact c2U (by assumption) (by assumption))
    (first|(go_at_call 52;refine(Ak _ (by assumption)).mono ?_;rintro e1 w1 ⟨⟨v1,rfl,Au⟩,b1⟩;have S1:=c2U b1 (by assumption))|(go_at_call 82;refine(Ad.out _ _ (by assumption)).mono ?_;rintro e2 w2 ⟨v2,rfl,Aa,b2⟩;have S2:=c2U b2 (by assumption)))
   have A7:=S2.2;clear S1 S2 TD Ak Ad b1 b2 Au;by_cases hx:x=0
   case neg=>
    have HF:Hid (Sto.all X c s=(x,[])):=by
     show Sto.all X c s=(x,[]);have e1:Sto.iW X c s.disks n 0 []=(x,[]):=by rw[A6.out,if_pos hx]
     rw[HA.out,e1];exact if_pos hx
    have B2:((x:Int) !=0)=true:=by rw[bne_iff_ne];omega
    obtain⟨A2,C2,rfl⟩:=Aa.byts.sE;clear hx Aa;go_wp2_with fail;go_ret2
    exact⟨by rw[HF.out];exact tL _ _ _,bt hb A7⟩
   case pos=>
    subst hx;have Ac:=b0G v2 r w2 Aa;have Al:Evt.aL r=0→(Evt.aF (Evt.dA r)).1=0:=a6Q;obtain⟨A2,C2,rfl⟩:=Aa.byts.sE;obtain⟨y,hy⟩: ∃y,Evt.aL r=y:=⟨_,rfl⟩;have HY:=hd8 hy;rw[hy]at Ac;clear hy Aa;go_wp2_with fail;refine Ac.mono ?_;rintro e3 w3 ⟨v3,rfl,A8,b3⟩;by_cases Af:y=0
    case neg=>
     have HF:Hid (Sto.all X c s=(y,[])):=by
      show Sto.all X c s=(y,[]);have e1:Sto.iW X c s.disks n 0 []=(y,[]):=by rw[A6.out,if_neg (fun z=>z rfl),HY.out,if_pos Af]
      rw[HA.out,e1];exact if_pos Af
     have B3:((y:Int) !=0)=true:=by rw[bne_iff_ne];omega
     obtain⟨A3,C3,A1⟩: ∃A C,v3=.slice A (Evt.dA r).length C:=by
      obtain⟨A3,C3,A1,_⟩:=A8;exact⟨A3,C3,A1⟩
     subst A1;clear Af A8 Ac;go_wp2_with fail;go_ret2
     exact⟨by rw[HF.out];exact tL _ _ _,bt hb (bt A7 b3)⟩
    case pos=>
     subst Af;obtain⟨Ax,Ao⟩:=tF (Al HY.out);have Ag:=(hE.bE A7).bE b3;have Ai:es.length+(Sto.cG (Evt.dA r)).length≤(k+1)*2550:=by
      rw[d0F];omega
     have Ah:=bt hb (bt A7 b3);have Aj:(k+1)*2550≤40*2550:=d1J _ (by omega);have A5:=xN w.heap.size u4 v3 es (Evt.dA r) w3 Ag Ah.size (fun w' ho=>(A8.off ho fun q hq=>((hE.bE A7).1.lt q hq).2).bats) Ao (by omega);have At:Hid (∀v4 A0 w4,cH w4 w.heap.size v4 A0→A0.map aY=es.map aY++Sto.cG (Evt.dA r)→Off (fun q=>u4.ownBlock=some q) w3 w4→c8E X c s.disks n w w4 v4 (k+1)):=fun v4 A0 w4 q1 q2 q3=>by
      refine⟨A0,q1,Ah.trans (q3.bE Ah.size fun q hq=>(Ag.1.lt q hq).1),?_,?_⟩
      ·have:=congrArg List.length q2;rw[c9M,c9I,c9M]at this;omega
      ·rw[A6.out,if_neg (fun z=>z rfl),if_neg (fun z=>z HY.out),q2,As.out]
     obtain⟨A3,C3,A1⟩: ∃A C,v3=.slice A (Evt.dA r).length C:=by
      obtain⟨A3,C3,A1,_⟩:=A8;exact⟨A3,C3,A1⟩
     subst A1;clear A8 Ac hE Ag Ai Ax Ao Aj Al Am;go_wp2_with fail;refine A5.mono ?_;rintro e4 w4 ⟨v4,A0,rfl,A9,A4,Ab,_⟩;have Ar:=At.out v4 A0 w4 A9 A4 Ab;clear A5 A9 A4 Ab;go_wp2_with fail;exact⟨⟨k+1,by omega,by go_num,Ar⟩,by simp[intOf];omega⟩
  ·obtain rfl:k=n:=by omega
   have hP:=HP.out.bE hb;have c5:=hP.var.q5;have An:=fun b hb=>(Evt.bN (hP.wf.bats b hb)).2.2.1;have Az:(Sto.cG s.tail).length≤2550:=by
    have h1:=hP.wf.tail;have h2:=hP.wf.b10;have B0: ∀r:List Evt.Bat,(∀b,b∈r→b.evs.length≤10)→(Sto.cG r).length≤r.length*10:=by
     intro r;induction r with
     |nil=>intro _;simp[Sto.cG]
     |cons x r ih=>
      intro hr;have h3:=hr x c9W;have h4:=ih fun b hb=>hr b (c9Y _ hb);have e:Sto.cG (x::r)=x.evs++Sto.cG r:=by simp[Sto.cG]
      rw[e,c9I,d0E,d0F];omega
    have:=B0 s.tail fun b hb=>(Evt.bN (hP.wf.bats b hb)).2.2.2.1;omega
   have Aj:k*2550≤40*2550:=d1J _ (by omega)
   have A5:=xN w.heap.size u4 vt es s.tail wr hE hb.size (fun w' ho=>(hP.out ho fun q hq=>⟨fun z=>by
    have z1:=(HP.out.lt q z).2;have z2:=(hE.1.lt q hq).1;omega,fun z=>by
    have z1:=(HP.out.dis q z).2;have z2:=(hE.1.lt q hq).1
    omega⟩).tail.bats) An (by omega)
   have HF:Hid (Sto.all X c s=(0,es.map aY++Sto.cG s.tail)):=by
    show Sto.all X c s=_;rw[HA.out,Ae,d1L];rfl
   have Aq:Hid (es.length+(Sto.cG s.tail).length≤200000):=show _≤_ by omega
   have Ap:Hid (∀w',Off (fun q=>u4.ownBlock=some q) wr w'→Bl w w'):=fun w' q3=>hb.trans (q3.bE hb.size fun q hq=>(hE.1.lt q hq).1);clear hP An Az Aj hE Am Ae;go_wp2_with fail;refine A5.mono ?_;rintro e4 w4 ⟨v4,A0,rfl,A9,A4,Ab,_⟩;have Av:=Ap.out w4 Ab;have HO:Hid (a8J (.returned (.tuple #[v4,iV 0])) w4 w.heap.size (Sto.all X c s)):=by
    show a8J _ _ _ _;rw[HF.out];refine⟨v4,A0,rfl,A4,A9,?_⟩;have:=congrArg List.length A4;rw[c9M,c9I,c9M]at this;rw[this];exact Aq.out
   clear A5 A9 A4 Ab;go_wp2_with fail;go_ret2
   exact⟨HO.out,Av⟩
end
theorem Tryz.enters_others: ∀args w,(callFunc 49 args).run Tryz.prog w=.ok (.enter 49 args) w:=enters_of Tryz.func49 (by kernel_rfl) rfl
theorem yT(p:Nat)(s t:ByteArray)(k m:Int)(w:World)(hc:w.cell? (aD p 0)=some (.string t)):
  Calls prog 49 #[.agg #[.string s,iV k,iV m],.pointer (some (aD p 0))] w fun e w'=>e=.returned (.bool !(decide (nb s=nb t)))∧Bl w w':=by
 have A0:=aB8 w (.cells #[.string s,iV k,iV m] 83);have A1:=cB8 A0 hc;obtain⟨c0,_,_⟩:=iF w (.string s) (iV k) (iV m);have HY:=hd8 (nD s t);go_enter func49,ntmps49
 go_wp2_with fail;go_ret
 exact⟨by rw[←HY.out];rfl,A0⟩
def b0W(l:List EvC)(t:ByteArray)(i:Int):Prop:=(i= -1∧ ∀(j:Nat) q,l[j]?=some q→nb q.1=nb t)∨ ∃(r:Nat) (q:EvC),i=(r:Int)∧l[r]?=some q∧nb q.1≠nb t∧ ∀(j:Nat) x,j<r→l[j]?=some x→nb x.1=nb t
theorem cH.at{es:List EvC}(h:cH w N v es){q:EvC}(hi:es[i]?=some q): ∃g cap,v=.slice (some (aD g 0)) es.length cap∧cap≤9223372036854775807∧es.length≤cap∧w.cell? (aD g (i*3))=some (.string q.1)∧w.cell? (aD g (i*3+1))=some (iV q.2.1)∧w.cell? (aD g (i*3+2))=some (iV q.2.2):=by
 have hl:1≤es.length:=by
  have:=(c9H.1 hi).1;omega
 obtain⟨g,cap,rfl,_,h1,h2,_,hc⟩:=dC h.1 hl;have hf:=fun t ht=>dQ eH 3 es (fun _ _=>rfl) i t ht q hi;exact⟨g,cap,rfl,by unfold maxLen at h2;exact h2,h1,hc _ _ (hf 0 (by decide)),hc _ _ (hf 1 (by decide)),hc _ _ (hf 2 (by decide))⟩
theorem cH.sE{es:List EvC}(h:cH w N v es): ∃A C,v=.slice A es.length C:=by
 rcases h.1.2 with⟨rfl,h0⟩|⟨g,A0,A1,rfl,_⟩
 ·exact⟨none,0,by rw[h0]⟩
 ·exact⟨_,_,rfl⟩
theorem b1Z(p N:Nat)(t:ByteArray)(v:Value)(es:List EvC)(w:World)(h:cH w N v es)(hc:w.cell? (aD p 0)=some (.string t)):
  Calls prog 86 #[v,.func (.func 49) #[] #[.pointer (some (aD p 0))]] w fun e w'=> ∃i:Int,e=.returned (iV i)∧b0W es t i∧Bl w w':=by
 have eg:=Tryz.enters_others;obtain⟨A,C,hv⟩:=h.sE;have HB:=hd8 h;subst hv;clear h;go_enter func86,ntmps86
 go_wp2_with fail;go_loopw [8] (fun i wr=> ∃k:Nat,k≤es.length∧i=iV k∧Hid (∀(j:Nat) q,j<k→es[j]?=some q→nb q.1=nb t)∧Bl w wr) (fun i _=>es.length-(intOf i).toNat)
 case atStart=>exact⟨0,c9D _,rfl,fun j q hj=>absurd hj (c9L j),Below.refl _ _⟩
 case round=>
  obtain⟨k,hk,rfl,HS,hb⟩:=hrel;by_cases A1:k<es.length
  ·have A2:(k:Int)<(es.length:Int):=by omega
   obtain⟨q,hq⟩: ∃q,es[k]?=some q:=⟨es[k],c9F A1⟩;obtain⟨g,A3,hv,A0,A4,d0,d1,d2⟩:=(HB.out.bE hb).at hq;cases hv
   have HQ:Hid (es[k]?=some q):=hq;have HC:=yT p q.1 t q.2.1 q.2.2 wr (cB8 hb hc);clear hq;by_cases hy:nb q.1=nb t
   ·have HY:=hd8 hy;rw[decide_eq_true hy]at HC;clear hy;go_wp2_with fail;refine HC.mono ?_;rintro e w1 ⟨rfl,b1⟩;clear HC;go_wp2_with fail;refine⟨⟨k+1,by omega,by go_num,fun j x hj hx=>?_,bt hb b1⟩,by simp[intOf];omega⟩;by_cases e:j=k
    ·rw[e,HQ.out]at hx;cases hx
     exact HY.out
    ·exact HS.out j x (by omega) hx
   ·have HF:Hid (b0W es t (k:Int)):=Or.inr ⟨k,q,rfl,HQ.out,hy,HS.out⟩;rw[decide_eq_false hy]at HC;clear hy;go_wp2_with fail;refine HC.mono ?_;rintro e w1 ⟨rfl,b1⟩;clear HC;go_wp2_with fail;go_ret
    exact⟨_,rfl,HF.out,bt hb b1⟩
  ·obtain rfl:k=es.length:=by omega
   have HF:Hid (b0W es t (-1)):=Or.inl ⟨rfl,fun j q hq=>HS.out j q (c9H.1 hq).1 hq⟩;go_wp2_with fail;go_ret
   exact⟨_,rfl,HF.out,hb⟩
def iC(t:ByteArray)(q:EvC):Bool:=decide (nb q.1=nb t)
theorem cH.over{L:List EvC}(h:cH w N (.slice (some (aD g 0)) n cap) L)(hn:n=L.length)(hi:i<n)(q:EvC)(hq:q.1.size≤9223372036854775807):
  cH (((w.setCell (aD g (i*3)) (.string q.1)).setCell (aD g (i*3+1)) (iV q.2.1)).setCell (aD g (i*3+2)) (iV q.2.2)) N (.slice (some (aD g 0)) n cap) (L.set i q):=by
 subst hn;obtain⟨x,hx⟩: ∃x,L[i]?=some x:=⟨L[i],c9F hi⟩;have fs:=fun M t a a' u ht h1 h2=>tI eH 3 M i t a a' u (fun _ _=>rfl) ht h1 h2;have s1:=(h.1.stored (i*3) (.string q.1)).1;rw[show i*3=i*3+0 from rfl,fs L 0 x (q.1,x.2) (.string q.1) (by decide) hx rfl]at s1;have l1:(L.set i (q.1,x.2)).length=L.length:=d0B ..;have g1:(L.set i (q.1,x.2))[i]?=some (q.1,x.2):=d0O hi;have s2:=(s1.stored (i*3+1) (iV q.2.1)).1;rw[fs _ 1 _ (q.1,q.2.1,x.2.2) (iV q.2.1) (by decide) g1 rfl,List.set_set]at s2;have g2:(L.set i (q.1,q.2.1,x.2.2))[i]?=some (q.1,q.2.1,x.2.2):=d0O hi;have s3:=(s2.stored (i*3+2) (iV q.2.2)).1;rw[fs _ 2 _ q (iV q.2.2) (by decide) g2 rfl,List.set_set]at s3;refine⟨by rw[d0B];exact s3,fun e he=>?_⟩;rcases List.mem_or_eq_of_mem_set he with z|rfl
 ·exact h.2 e z
 ·exact hq
theorem b5J{L:List EvC}(h:cH w N (.slice (some (aD g 0)) n cap) L)(hn:n=L.length)(hi:i<n):
  ∃w',(∀ty c,(Builtin.clear_ #[40] ty #[.slice (some (aD g (i*3))) (n-i) c]).run prog w=.ok (.tuple #[]) w')∧cH w' N (.slice (some (aD g 0)) i cap) (L.take i)∧Off (fun k=>k=g) w w':=by
 subst hn;rcases h.1.2 with⟨e,_⟩|⟨g',A8,A0,e,A9,hg,hc,hm,A2,Ac⟩
 ·cases e
 ·cases e
  obtain⟨i3,Aa,A4⟩:=c9J.1 Tryz.infoEvent;simp only[Prod.mk.injEq]at A4;obtain⟨Ad,Ae,Af⟩:=A4;have hz: ∀w,(zeroValue 83).run prog w=.ok (.agg #[.string ByteArray.empty,iV 0,iV 0]) w:=fun w=>by
   simp[zeroValue,typeInfo,Aa,Ad]
  obtain⟨vs,A1⟩: ∃vs,vs=(Builtin.zeroCells (Value.agg #[.string ByteArray.empty,iV 0,iV 0]).cells (L.length-i)).toList:=⟨_,rfl⟩;have A7:vs.length=(L.length-i)*3:=by
   rw[A1,d1B,size_zeroCells];rfl
  have A3: ∀v∈vs,v.oneCell'=true:=fun v hv=>by
   rw[A1]at hv;simp only[Builtin.zeroCells,Array.toList_map,List.mem_map]at hv;obtain⟨j,_,rfl⟩:=hv;have:j%(Value.agg #[.string ByteArray.empty,iV 0,iV 0]).cells.size<3:=Nat.mod_lt _ (by decide);generalize j%(Value.agg #[.string ByteArray.empty,iV 0,iV 0]).cells.size=r at this;rcases(show r=0∨r=1∨r=2 by omega)with rfl|rfl|rfl<;>rfl
  have A6:=run_storeCells_at (P:=prog) g (i*3) 83 vs 0 A0 w hg (by rw[A7,A2];omega) A3;rw[d0X]at A6;have Ab:=a3Q L;refine⟨_,fun ty c=>?_,⟨⟨by rw[a3Q],Or.inr ⟨g,cap,(A0.toList.take (i*3)++vs++A0.toList.drop (i*3+vs.length)).toArray,by rw[c9K,Nat.min_eq_left (d2B hi)],A9,setRow_heap w g A0 _ 83 _ hg,by rw[c9K];omega,hm,?_,?_⟩⟩,fun e he=>h.2 e (d2T he)⟩,⟨rfl,rfl,rfl,(below_setRow (Below.refl 0 w) (c9D g) _).size,fun k _ hk=>setRow_other w g k _ hk⟩⟩
  ·obtain⟨m,A5⟩: ∃m,L.length-i=m+1:=⟨L.length-i-1,by omega⟩;rw[A5];rw[A5]at A1;simp only[Builtin.clear_];simp[run_underlying underlying40,hz,←A1,A6]
  ·rw[d0Q];simp only[List.length_append,List.length_take,List.length_drop,Array.length_toList,A2,A7];omega
  ·rw[c9K,Nat.min_eq_left (d2B hi)];show(A0.toList.take (i*3)++vs++A0.toList.drop (i*3+vs.length)).take (i*3)=_;rw[c9X,List.take_append_of_le_length (by rw[c9K,d1B,A2];omega),List.take_take,Nat.min_self];have:=congrArg (List.take (i*3)) Ac;rw[List.take_take,Nat.min_eq_left (by omega)]at this;rw[this,iZ eH 3 L i (fun _ _=>rfl) (d2B hi)]
def c4M(w wr:World)(N:Nat)(v:Value)(es:List EvC)(t:ByteArray)(p i j:Nat):Prop:= ∃L,cH wr N v L∧L.length=es.length∧L.take i=(es.take j).filter (iC t)∧L.drop j=es.drop j∧Off (fun k=>v.ownBlock=some k) w wr∧wr.cell? (aD p 0)=some (.string t)
theorem a1W{t:ByteArray}{es:List EvC}{q:EvC}(hq:es[j]?=some q):(es.take (j+1)).filter (iC t)=(es.take j).filter (iC t)++if nb q.1=nb t then[q]else[]:=by
 rw[d1Y,hq,d1O];congr 1;show[q].filter (iC t)=_;by_cases h:nb q.1=nb t
 ·rw[if_pos h,d1W (show iC t q=true from decide_eq_true h)];rfl
 ·rw[if_neg h,d1N (show¬iC t q=true from fun z=>h (of_decide_eq_true z))];rfl
def c7Z(e:Ending)(w w':World)(N:Nat)(v:Value)(es:List EvC):Prop:= ∃v',e=.returned v'∧cH w' N v' es∧Off (fun k=>v.ownBlock=some k) w w'
theorem a7U(p N:Nat)(t:ByteArray)(v:Value)(es:List EvC)(w:World)(h:cH w N v es)(hc:w.cell? (aD p 0)=some (.string t))(hp: ∀g,v.ownBlock=some g→g≠p):
  Calls prog 50 #[v,.func (.func 49) #[] #[.pointer (some (aD p 0))]] w fun e w'=>c7Z e w w' N v (es.filter (iC t)):=by
 have eg:=Tryz.enters_others;have HI:=b1Z p N t v es w h hc;have HB:=hd8 h;obtain⟨A,C,hv⟩:=h.sE;subst hv;clear h;go_enter func50,ntmps50
 go_wp2_with fail;refine HI.mono ?_;rintro e w1 ⟨i,rfl,HF,b1⟩;have A3:=HB.out.bE b1;have c1:=cB8 b1 hc;clear HI;rcases HF with⟨rfl,A6⟩|⟨r,q,rfl,hq,Al,A7⟩
 ·have HO:Hid (c7Z (.returned (.slice A es.length C)) w w1 N (.slice A es.length C) (es.filter (iC t))):=by
   have e1:es.filter (iC t)=es:=d2S.2 fun q hq=>by
    obtain⟨j,hj⟩:=d1K.1 hq;exact decide_eq_true (A6 j q hj)
   rw[e1];exact⟨_,rfl,A3,Off.oE b1⟩
  clear A6 A3;go_wp2_with fail;go_ret
  exact HO.out
 ·have B6:r<es.length:=(c9H.1 hq).1;have S0:c4M w w1 N (.slice A es.length C) es t p r (r+1):=by
   refine⟨es,A3,rfl,?_,rfl,Off.oE b1,c1⟩;rw[a1W hq,if_neg Al,d0W];refine(d2S.2 fun x hx=>?_).symm;obtain⟨j,hj⟩:=d1K.1 hx;have Aj:j<r:=by
    have:=(c9H.1 hj).1;rw[c9K]at this;omega
   rw[d0C,if_pos Aj]at hj;exact decide_eq_true (A7 j x Aj hj)
  obtain⟨g,Az,Ad,Ap,B1,_⟩:=A3.at hq;cases Ad
  have Ae:=hp g rfl;have Ay:(r:Int)≠ -1:=by omega
  have B5:((r:Int)== -1)=false:=by rw[beq_eq_false_iff_ne];exact Ay
  clear hq Al A7 A3 hp;go_wp2_with fail;go_loopw [5,6] (fun y x wr=> ∃i j:Nat,i<j∧j≤es.length∧y=iV i∧x=iV j∧c4M w wr N (.slice (some (aD g 0)) es.length C) es t p i j) (fun _ x _=>es.length-(intOf x).toNat)
  case atStart=>exact⟨r,r+1,by omega,by omega,rfl,by go_num,S0⟩
  case round=>
   obtain⟨i,j,At,B4,rfl,rfl,L,hL,A4,A5,Ac,A0,A1⟩:=hrel;by_cases Av:j<es.length
   ·have Aw:(j:Int)<(es.length:Int):=by omega
    obtain⟨q,hq⟩: ∃q,es[j]?=some q:=⟨es[j],c9F Av⟩;have Af:L[j]?=some q:=by
     have:=congrArg (fun z=>z[0]?) Ac;simp only[List.getElem?_drop,Nat.add_zero]at this;rw[this];exact hq
    obtain⟨g',An,Ad,_,_,d0,d1,d2⟩:=hL.at Af;rw[A4]at Ad;cases Ad
    have bA:=aB8 wr (.cells #[.string q.1,iV q.2.1,iV q.2.2] 83);have VE:=iF wr (.string q.1) (iV q.2.1) (iV q.2.2);have HC:=yT p q.1 t q.2.1 q.2.2 _ (cB8 bA A1);have Ax:=hL.2 q (c9N Af);have Ag:Hid (L.drop (j+1)=es.drop (j+1)):=by
     show L.drop (j+1)=es.drop (j+1);have:=congrArg (List.drop 1) Ac;rw[List.drop_drop,List.drop_drop]at this;exact this
    have HT:Hid ((es.take (j+1)).filter (iC t)=(es.take j).filter (iC t)++if nb q.1=nb t then[q]else[]):=a1W hq;have Ah:Hid (L.take i=(es.take j).filter (iC t)):=A5;have A2:Hid (L.length=es.length):=A4;obtain⟨wo,rfl⟩: ∃x,x=wr:=⟨wr,rfl⟩;clear hq Af Ac A5 A4;by_cases hy:nb q.1=nb t
    ·have HY:=hd8 hy;rw[decide_eq_true hy]at HC;clear hy;go_wp2_with fail;refine HC.mono ?_;rintro e w2 ⟨rfl,b2⟩;obtain⟨e0,e1,e2⟩:=VE.bE b2;have b3:=bt bA b2;have Ab:=hL.bE b3;have fr:=fun j=>lB Ab.1 (g:=g) rfl j;have f0:=fr (i*3);have f1:=fr (i*3+1);have f2:=fr (i*3+2);obtain⟨x,hx⟩: ∃x,L[i]?=some x:=⟨L[i]'(by have:=A2.out;omega),c9F _⟩;obtain⟨g9,Ao,A9,_,_,y0,y1,y2⟩:=Ab.at hx;have Ar:g9=g:=by
      injection A9 with h1 _ _;injection h1 with h1;injection h1 with h1 _ _;exact h1.symm
     rw[Ar]at y0 y1 y2;have Ak:=Ab.over (by rw[A2.out]) (show i<es.length by omega) q Ax;have Aa:c4M w (((w2.setCell (aD g (i*3)) (.string q.1)).setCell (aD g (i*3+1)) (iV q.2.1)).setCell (aD g (i*3+2)) (iV q.2.2)) N (.slice (some (aD g 0)) es.length C) es t p (i+1) (j+1):=by
      refine⟨L.set i q,Ak,by rw[d0B];exact A2.out,?_,?_,?_,?_⟩
      ·rw[HT.out,if_pos HY.out,←Ah.out,d1Y,d0O (by have:=A2.out;omega),List.take_set,List.set_eq_of_length_le (by rw[c9K];omega)];rfl
      ·rw[List.drop_set,if_pos (by omega)];exact Ag.out
      ·exact(((A0.trans (Off.oE b3)).set (p:=⟨g,i*3,none⟩) rfl _).set (p:=⟨g,i*3+1,none⟩) rfl _).set (p:=⟨g,i*3+2,none⟩) rfl _
      ·have c9:=cB8 b3 A1;rw[World.cell?_setCell_other _ _ _ _ (fun e=>Ae (congrArg Addr.block e)),World.cell?_setCell_other _ _ _ _ (fun e=>Ae (congrArg Addr.block e)),World.cell?_setCell_other _ _ _ _ (fun e=>Ae (congrArg Addr.block e))];exact c9
     have Au:(i:Int)<(es.length:Int):=by omega
     have As:(i:Int)<(j:Int):=by omega
     clear HC VE hL Ab Ak hx A9 fr A0 A1 bA b2 b3;go_wp2_with fail;exact⟨⟨i+1,j+1,by omega,by omega,by go_num,by go_num,Aa⟩,by simp[intOf];omega⟩
    ·have Aa:Hid (∀w2,Bl wo w2→c4M w w2 N (.slice (some (aD g 0)) es.length C) es t p i (j+1)):=fun w2 hb2=>by
      refine⟨L,hL.bE hb2,A2.out,by rw[HT.out,if_neg hy,d0W];exact Ah.out,Ag.out,A0.trans (Off.oE hb2),cB8 hb2 A1⟩
     rw[decide_eq_false hy]at HC;clear hy;go_wp2_with fail;refine HC.mono ?_;rintro e w2 ⟨rfl,b2⟩;have Am:=Aa.out w2 (bt bA b2);clear HC VE hL A0 A1 bA b2 Aa;go_wp2_with fail;exact⟨⟨i,j+1,by omega,by omega,rfl,by go_num,Am⟩,by simp[intOf];omega⟩
   ·obtain rfl:j=es.length:=by omega
    obtain⟨w9,Aq,Ai,A8⟩:=b5J hL (by rw[A4]) (show i<es.length from At);have HO:Hid (c7Z (.returned (.slice (some (aD g 0)) i C)) w w9 N (.slice (some (aD g 0)) es.length C) (es.filter (iC t))):=by
     rw[d0L]at A5;rw[←A5];exact⟨_,rfl,Ai,A0.trans (A8.wider fun k hk=>by rw[hk];rfl)⟩
    have B0: ¬C=i:=by omega
    have Au:(i:Int)≤(es.length:Int):=by omega
    have B2:i≤es.length:=by omega
    have B3:i≤C:=by omega
    have As:(i:Int)≤(C:Int):=by omega
    clear hL A5 Ac A0 A1 Ai A8 A4;go_wp2_with fail;go_ret
    exact HO.out
theorem c4O{P:Program}(w:World)(base:Nat)(t ty e:TypeId)(i:TypeInfo)(z:Value)(size bytes:Nat)(ht:P.underlying t=some (.slice e))(hi:P.info? e=some i)(hz:i.zero=some z)
  (hsize:i.size=size) (hby:i.bytes=bytes) (v:Value) (n:Nat) (xs:List Value) (hown:w.ownsRow base e size v n xs)
  (a:Addr) (m c:Nat) (news:List Value) (hl:news.length=m*size) (hnews: ∀j u,news[j]?=some u→w.cell? (a.add j)=some u) (h1: ∀u∈news,u.oneCell'=true)
  (h63:n+m≤maxLen) (hbytes:(n+m)*bytes≤140737488355328)
  {v':Value} {w':World} (hr:(Builtin.append_ #[t,t] ty #[v,.slice (some a) m c]).run P w=.ok v' w'):w'.ownsRow base e size v n xs:=by
 subst hsize;subst hby
 have A7:n+m≤9223372036854775807:=by simp only[maxLen]at h63;omega
 rcases hown.2 with⟨rfl,rfl⟩|⟨g,A2,A5,rfl,A8,hg,Ab,A9,Aa,A1⟩
 ·exact⟨hown.1,.inl ⟨rfl,rfl⟩⟩
 ·by_cases A0:n+m≤A2
  ·have A6:n*i.size+news.length≤A5.size:=by rw[hl,Aa,←Nat.add_mul];exact d1J _ A0
   have A4:=run_append_room (P:=P) w t ty e i ht hi g n A2 A5 hg a m c news hl hnews h1 A0 A6;rw[hr]at A4;injection A4 with e1 e2;subst e2;refine⟨hown.1,.inr ⟨g,A2,_,rfl,A8,setRow_heap w g A5 _ e _ hg,Ab,A9,?_,?_⟩⟩
   ·simp only[List.size_toArray,List.length_append,List.length_take,List.length_drop,Array.length_toList];omega
   ·rw[A1,c9X];have:=hown.1;rw[←this];exact List.take_left
  ·have A3:=hown.cells (g:=g) rfl;have A4:=run_append_grow (P:=P) w t ty e i z ht hi hz (aD g 0) n A2 xs hown.1 A3 a m c news hl hnews (by omega) (by omega) (growslice_fits (by omega) hbytes);rw[hr]at A4;injection A4 with e1 e2;subst e2;have Ac:=(hown.lt g rfl).2;exact⟨hown.1,.inr ⟨g,A2,A5,rfl,A8,(heap_alloc_old w.drew _ Ac).trans hg,Ab,A9,Aa,A1⟩⟩
section
variable {w w' : World} {N R D : Nat} {F F' E E' : Nat → Prop} {c : Sto.Cfg} {s s' : Sto.St} {V : Nat → Value} {U : Nat → List HeC} {vt vs va vt' vs' va' : Value} {tc tc' : List (Int × Sl)}
theorem StP.tailed(h:StP w N R F E c s D V U vt vs va tc)(ho:Off (fun k=>vt.ownBlock=some k) w w')(hown:w'.ownsRow N 47 2 vt s.tail.length (tc.flatMap wY)):StP w' N R F E c s D V U vt vs va tc:=by
 have hT: ∀k,vt.ownBlock=some k→TyB w k 47:=fun k q=>aU h.tail.own q;have A0:=fun k hk he=>ho.block k hk fun q=>(h.dis k he).1 (h.fT k q);refine⟨h.var.off ho fun q=>(hT _ q).ne h.var.ty (by decide) rfl,h.ge,h.dk.off ho fun k q=>⟨_,hT k q,by decide,by decide,by decide⟩,⟨hown,h.tail.len,fun i x b hx hb=>⟨(h.tail.evs i x b hx hb).1,(h.tail.evs i x b hx hb).2.move A0 fun _ _ q=>q⟩⟩,bC h.seen ho fun g hg q=>(hT g q).ne (aU h.seen hg) (by decide) rfl,h.acc.move A0 fun _ _ q=>q,h.fR,h.fD,h.fV,h.fU,h.fT,h.fS,fun k hk=>⟨(h.lt k hk).1,c9P (h.lt k hk).2 ho.size⟩,fun k hk=>⟨(h.dis k hk).1,c9P (h.dis k hk).2 ho.size⟩,h.wf⟩
theorem StP.remake(h:StP w N R F E c s D V U vt vs va tc)(ho:Off (fun k=>k=R) w w')(hd:s'.disks=s.disks)(hvar:aV w' R 45 (j6 c D s'.disks.length s'.segs vt' vs' s'.u va'))
  (htl:a0M w' N E' vt' tc' s'.tail) (hseen:w'.ownsRow N 3 1 vs' s'.seen.length (s'.seen.flatMap aE)) (hacc:a0S w' E' va' s'.acc) (hF: ∀k,F k→F' k) (hT: ∀g,vt'.ownBlock=some g→F' g) (hS: ∀g,vs'.ownBlock=some g→F' g)
  (hlt: ∀k,F' k→N≤k∧k<w'.heap.size) (hdis: ∀k,E' k→ ¬F' k∧k<w'.heap.size) (hwf:WfS c s'):StP w' N R F' E' c s' D V U vt' vs' va' tc':=by
 have A0:dM w' N D V U s.disks:=h.dk.off ho fun k q=>⟨45,by rw[show k=R from q];exact h.var.ty,by decide,by decide,by decide⟩;exact⟨hvar,h.ge,by rw[hd];exact A0,htl,hseen,hacc,hF _ h.fR,hF _ h.fD,fun i g hi hg=>hF _ (h.fV i g (by rw[←hd];exact hi) hg),fun i x g hi hx hg=>hF _ (h.fU i x g (by rw[←hd];exact hi) hx hg),hT,hS,hlt,hdis,hwf⟩
end
structure c0Z(w0 w':World)(N R:Nat)(F E:Nat→Prop)(c:Sto.Cfg)(s:Sto.St)(D:Nat)(V:Nat→Value)(U:Nat→List HeC)(vt vs va:Value)(tc:List (Int×Sl))(b:Evt.Bat)(v':Value)(E1:Nat→Prop)(tc1:List (Int×Sl)):Prop where
 st:StP w' N R F E c s D V U vt vs va tc
 off:Off F w0 w'
 up: ∀k,E k→E1 k
 new: ∀k,E1 k→E k∨(w0.heap.size≤k∧TyB w' k 83)
 tl:a0M w' N E1 v' tc1 (s.tail++[b])
 at': ∀g,v'.ownBlock=some g→F g∨w0.heap.size≤g
 elt: ∀k,E k→k<w0.heap.size
 flt: ∀k,F k→k<w0.heap.size
section
variable {w w0 : World} {N R D : Nat} {F E : Nat → Prop} {c : Sto.Cfg} {s : Sto.St} {V : Nat → Value} {U : Nat → List HeC} {vt vs va : Value} {tc : List (Int × Sl)}
theorem c7B(h:StP w0 N R F E c s D V U vt vs va tc)(b0:Bl w0 w)(b:Evt.Bat){v3:Value}{es:List EvC}(hE:cH w w0.heap.size v3 es)(hm:es.map aY=b.evs)(hNw:N≤w0.heap.size){p:Nat}(c0:w.cell? (aD p 0)=some (iV b.cmd))(c1:w.cell? (aD p 1)=some v3):
  ∃v' w',(Builtin.append_ #[26,26] 26 #[vt,.slice (some (aD p 0)) 1 1]).run prog w=.ok v' w'∧ ∃E1 tc1,c0Z w0 w' N R F E c s D V U vt vs va tc b v' E1 tc1:=by
 obtain⟨i4,A9,A8⟩:=c9J.1 Tryz.infoBatch;simp only[Prod.mk.injEq]at A8;obtain⟨Aa,Ab,Ac⟩:=A8;have hw:=h.bE b0;obtain⟨A3,C3,rfl⟩:=hE.sE;have A6: ∀j u,[Value.int .i64 b.cmd,.slice A3 es.length C3][j]?=some u→w.cell? ((⟨p,0,none⟩:Addr).add j)=some u:=fun j u hj=>by
  match j,hj with
  |0,hj=>cases hj;rw[WideShapes.add_plain];exact c0
  |1,hj=>cases hj;rw[WideShapes.add_plain];exact c1
 have A7: ∀u∈[Value.int .i64 b.cmd,.slice A3 es.length C3],u.oneCell'=true:=fun u hu=>by
  simp only[List.mem_cons,List.not_mem_nil,or_false]at hu;rcases hu with rfl|rfl<;>rfl
 have Ai:=hw.wf.tail;have Ae:=hw.wf.b10;obtain⟨v',w',A0,ho,hg,_,Ad⟩:=run_append_own_at (P:=prog) w N 26 26 47 i4 _ 2 32 underlying26 A9 Aa Ab Ac rfl (by decide) vt s.tail.length _ hw.tail.own (aD p 0) 1 1 _ rfl A6 A7 (by unfold maxLen;omega) (by omega) (c9E hNw b0.size);have A4:=c4O (P:=prog) w N 26 26 47 i4 _ 2 32 underlying26 A9 Aa Ab Ac vt s.tail.length _ hw.tail.own (aD p 0) 1 1 _ rfl A6 A7 (by unfold maxLen;omega) (by omega) A0;have A1:=cI hg;have Ah: ∀k,(Value.slice A3 es.length C3).ownBlock=some k→TyB w k 83:=fun k q=>aU hE.1 q;have A5:cH w' w0.heap.size (.slice A3 es.length C3) es:=hE.off A1 fun g hg q=>(Ah g hg).ne (aU hw.tail.own q) (by decide) rfl;have Af:=fun k hk he=>A1.block k hk fun q=>(hw.dis k he).1 (hw.fT k q);refine⟨v',w',A0,fun k=>E k∨(Value.slice A3 es.length C3).ownBlock=some k,tc++[(b.cmd,(A3,es.length,C3))],hw.tailed A1 A4,(Off.oE b0).trans (A1.wider fun k q=>h.fT k q),fun _ q=>Or.inl q,fun k q=>?_,⟨?_,?_,fun i x y hx hy=>?_⟩,fun g hg=>?_,fun k q=>(h.dis k q).2,fun k q=>(h.lt k q).2⟩
 ·rcases q with q|q
  ·exact Or.inl q
  ·exact Or.inr ⟨(hE.1.lt k q).1,aU A5.1 q⟩
 ·rw[c9I,d0H];exact ho
 ·rw[c9I,c9I,hw.tail.len];rfl
 ·have Ag:=hw.tail.len;by_cases hi:i<tc.length
  ·rw[d0M hi]at hx;rw[d0M (by omega)]at hy;exact⟨(hw.tail.evs i x y hx hy).1,(hw.tail.evs i x y hx hy).2.move Af fun _ _ q=>Or.inl q⟩
  ·have A2:=(c9H.1 hx).1;rw[c9I]at A2;have A2:i<tc.length+1:=A2;obtain rfl:i=tc.length:=by omega
   rw[d0S (c9C _),d1L]at hx;rw[d0S (by omega),show tc.length-s.tail.length=0 by omega]at hy;cases hx
   cases hy
   exact⟨rfl,by rw[←hm];exact A5.evs,fun g hg _=>Or.inr hg⟩
 ·rcases Ad with z|z
  ·rw[z]at hg;exact Or.inl (h.fT g hg)
  ·rw[z]at hg;cases hg
   exact Or.inr b0.size
end
theorem c5R{ops:Array Oper}{o:Oper}{a:Act}{w w':World}{K:Act→World→Prop}{Q:Exit→Act→World→Prop}{E:Prop}
  (hg:o.guard=none) (s x:Operand) (hop:o.op=Op.call {callee:=Callee.builtin Builtin.append,args:=#[s,x],argTypes:=#[26,26]}) (hty:o.type=26)
  {v u v':Value} (hs:a.eval s=v) (hx:a.eval x=u) (hr:(Builtin.append_ #[26,26] 26 #[v,u]).run prog w=.ok v' w') (hK:K (a.put o.dst v') w'):
  if Region.wanted o (yielded ops a.tmps)=true then Oper.wp prog o a w K Q else E:=by
 have hw:Region.wanted o (yielded ops a.tmps)=true:=by simp[Region.wanted,hg]
 rw[if_pos hw];unfold Oper.wp execOp;simp only[hop,hty,resolve,invoke,builtin,Sem.run_bind,Sem.run_pure,Result.andThen_ok,List.map_toArray,List.map_cons,List.map_nil,hs,hx,hr];exact hK
def fM(X:Sto.Six)(c:Sto.Cfg)(s:Sto.St)(b:Evt.Bat):Nat×Sto.St:=
 if (s.tail++[b]).length<c.b then(0,{s with tail:=s.tail++[b]})
 else if (Evt.aF (s.tail++[b])).1≠0 then((Evt.aF (s.tail++[b])).1,s)
 else if (X.lay (Evt.iK (s.tail++[b])) s.segs c).1≠0 then((X.lay (Evt.iK (s.tail++[b])) s.segs c).1,s)
 else(0,{s with disks:=Sto.write s.segs (X.lay (Evt.iK (s.tail++[b])) s.segs c).2 0 s.disks,segs:=s.segs+1,tail:=[]})
theorem a1J(X:Sto.Six)(c:Sto.Cfg)(s:Sto.St)(b:Evt.Bat)(v:Int×List Vw.Acc):
  Sto.eU X c s b v=((fM X c s b).1,if (fM X c s b).1=0 then {(fM X c s b).2 with seen:=s.seen.take (Sto.below b.cmd s.seen)++b.cmd::s.seen.drop (Sto.below b.cmd s.seen),u:=v.1,acc:=v.2}else s):=by
 unfold Sto.eU fM;dsimp only;by_cases h1:(s.tail++[b]).length<c.b
 ·rw[if_pos h1,if_pos h1];rfl
 ·rw[if_neg h1,if_neg h1];by_cases h2:(Evt.aF (s.tail++[b])).1≠0
  ·rw[if_pos h2,if_pos h2];dsimp only;rw[if_neg h2]
  ·rw[if_neg h2,if_neg h2];by_cases h3:(X.lay (Evt.iK (s.tail++[b])) s.segs c).1≠0
   ·rw[if_pos h3,if_pos h3];dsimp only;rw[if_neg h3]
   ·rw[if_neg h3,if_neg h3];rfl
section
variable {w w0 : World} {N R D : Nat} {F E E1 : Nat → Prop} {c : Sto.Cfg} {s : Sto.St} {V : Nat → Value} {U : Nat → List HeC} {vt vs va v' : Value} {tc tc1 : List (Int × Sl)} {b : Evt.Bat}
theorem c0Z.stored(h:c0Z w0 w N R F E c s D V U vt vs va tc b v' E1 tc1)(hlt:s.tail.length+1<c.b)(hb:(Evt.aA b).1=0):
  StP (w.setCell (aD R 5) v') N R (fun k=>F k∨v'.ownBlock=some k) E1 c {s with tail:=s.tail++[b]} D V U v' vs va tc1∧dS w0 (w.setCell (aD R 5) v') F (fun k=>F k∨v'.ownBlock=some k) E E1:=by
 have hs:=h.st;have ho:Off (fun k=>k=R) w (w.setCell (aD R 5) v'):=aG w (aD R 5) v';have A1:(w.setCell (aD R 5) v').heap.size=w.heap.size:=Deep.nblk_setCell _ _ _;have A2: ∀g,v'.ownBlock=some g→TyB w g 47:=fun g hg=>aU h.tl.own hg;have A0: ∀k,E1 k→k<w.heap.size∧ ¬F k∧v'.ownBlock≠some k:=fun k q=>by
  rcases h.new k q with z|⟨z,zt⟩
  ·refine⟨(hs.dis k z).2,(hs.dis k z).1,fun e=>?_⟩;rcases h.at' k e with z1|z1
   ·exact(hs.dis k z).1 z1
   ·exact absurd (h.elt k z) (Nat.not_lt.2 z1)
  ·exact⟨zt.lt,fun q=>absurd (h.flt k q) (Nat.not_lt.2 z),fun e=>zt.ne (A2 k e) (by decide) rfl⟩
 refine⟨hs.remake (s':={s with tail:=s.tail++[b]}) ho rfl (hs.var.set 5 v' (show 5<9 by decide)) (h.tl.move (fun k hk q=>ho.block k hk fun e=>(A0 k q).2.1 (by rw[show k=R from e];exact hs.fR)) (fun _ _ q=>q) ho fun g hg e=>(A2 g hg).ne hs.var.ty (by decide) e) (bC hs.seen ho fun g hg e=>(aU hs.seen hg).ne hs.var.ty (by decide) e) ((hs.acc.move (fun k hk q=>ho.block k hk fun e=>(hs.dis k q).1 (by rw[show k=R from e];exact hs.fR)) fun k _ q=>h.up k q)) (fun _ q=>Or.inl q) (fun g hg=>Or.inr hg) (fun g hg=>Or.inl (hs.fS g hg)) (fun k q=>?_) (fun k q=>?_) ⟨hs.wf.len,hs.wf.d1,hs.wf.d8,hs.wf.s4,hs.wf.b1,hs.wf.b10,hs.wf.wd,hs.wf.segs,?_,fun x hx=>?_,hs.wf.up,hs.wf.cmds,hs.wf.right⟩,⟨h.off.trans (ho.wider fun k e=>by rw[show k=R from e];exact hs.fR),fun k q=>?_,fun k q=>?_⟩⟩
 ·rw[A1];rcases q with q|q
  ·exact hs.lt k q
  ·exact h.tl.own.lt k q
 ·rw[A1];exact⟨fun z=>z.elim (A0 k q).2.1 (A0 k q).2.2,(A0 k q).1⟩
 ·show(s.tail++[b]).length<c.b;rw[c9I];exact hlt
 ·rcases List.mem_append.1 hx with q|q
  ·exact hs.wf.bats x q
  ·rw[d1Z.1 q];exact hb
 ·rcases q with q|q
  ·exact Or.inl q
  ·exact h.at' k q
 ·exact(h.new k q).imp id (·.1)
theorem StP.laidS(hs:StP w N R F E c s D V U vt vs va tc)(hsg:s.segs≤39)(x:Value)(hx:x=iV ((s.segs+1:Nat):Int)):StP ((w.setCell (aD R 4) x).setCell (aD R 5) nS) N R F E c {s with segs:=s.segs+1,tail:=[]} D V U nS vs va []∧Off (fun k=>k=R) w ((w.setCell (aD R 4) x).setCell (aD R 5) nS):=by
 subst hx;have ho:Off (fun k=>k=R) w ((w.setCell (aD R 4) (iV ((s.segs+1:Nat):Int))).setCell (aD R 5) nS):=((Off.refl (fun k=>k=R) w).set (p:=⟨R,4,none⟩) rfl _).set (p:=⟨R,5,none⟩) rfl _;have A0:=hs.wf.b1;exact⟨hs.remake (s':={s with segs:=s.segs+1,tail:=[]}) ho rfl ((hs.var.set 4 (iV ((s.segs+1:Nat):Int)) (show 4<9 by decide)).set 5 nS (show 5<9 by decide)) ⟨World.ownsRow_nil _ _ _ _,rfl,fun i x y hx=>(by cases hx)⟩ (bC hs.seen ho fun g hg e=>(aU hs.seen hg).ne hs.var.ty (by decide) e) ((hs.acc.move (fun k hk q=>ho.block k hk fun e=>(hs.dis k q).1 (by rw[show k=R from e];exact hs.fR)) fun k _ q=>q)) (fun _ q=>q) (fun g hg=>(by cases hg)) hs.fS (fun k q=>⟨(hs.lt k q).1,Nat.lt_of_lt_of_le (hs.lt k q).2 ho.size⟩) (fun k q=>⟨(hs.dis k q).1,Nat.lt_of_lt_of_le (hs.dis k q).2 ho.size⟩) ⟨hs.wf.len,hs.wf.d1,hs.wf.d8,hs.wf.s4,hs.wf.b1,hs.wf.b10,hs.wf.wd,(show s.segs+1≤40 by omega),(show 0<c.b by omega),fun x hx=>(by cases hx),hs.wf.up,hs.wf.cmds,hs.wf.right⟩,ho⟩
end
def qI(e:Ending)(w w':World)(N R:Nat)(F E:Nat→Prop)(c:Sto.Cfg)(vs va:Value)(r:Nat×Sto.St):Prop:=e=.returned (iV r.1)∧ ∃F' E' D V U vt tc,StP w' N R F' E' c r.2 D V U vt vs va tc∧dS w w' F F' E E'
theorem c6M{x:Value}(b3:Bl wX w3)(h:wX.cell? (aD R 5)=some x∧wX.cell? (aD B 0)=some y∧wX.cell? (aD B 1)=some z):w3.cell? (aD R 5)=some x∧w3.cell? (aD B 0)=some y∧w3.cell? (aD B 1)=some z:=
 ⟨(b3.cell (p:=⟨R,5,none⟩) (World.block_lt_of_cell? _ _ h.1)).trans h.1,(b3.cell (p:=⟨B,0,none⟩) (World.block_lt_of_cell? _ _ h.2.1)).trans h.2.1,(b3.cell (p:=⟨B,1,none⟩) (World.block_lt_of_cell? _ _ h.2.2)).trans h.2.2⟩
theorem c6P{x:Value}(ho:Off S wX w3)(hB: ¬S B)(hR:w3.cell? (aD R 5)=some x)(h:wX.cell? (aD R 5)=some x∧wX.cell? (aD B 0)=some y∧wX.cell? (aD B 1)=some z):w3.cell? (aD R 5)=some x∧w3.cell? (aD B 0)=some y∧w3.cell? (aD B 1)=some z:=
 ⟨hR,(World.cell?_of_block (a:=⟨B,0,none⟩) (ho.block B (World.block_lt_of_cell? _ _ h.2.1) hB)).trans h.2.1,(World.cell?_of_block (a:=⟨B,1,none⟩) (ho.block B (World.block_lt_of_cell? _ _ h.2.1) hB)).trans h.2.2⟩
theorem c9B{x:Value}(b3:Bl wX w3)(h:wX.cell? (aD R 4)=some x∧wX.cell? (aD R 0)=some y∧wX.cell? (aD R 1)=some z∧Bl w0 wX):w3.cell? (aD R 4)=some x∧w3.cell? (aD R 0)=some y∧w3.cell? (aD R 1)=some z∧Bl w0 w3:=
 ⟨(b3.cell (p:=⟨R,4,none⟩) (World.block_lt_of_cell? _ _ h.1)).trans h.1,(b3.cell (p:=⟨R,0,none⟩) (World.block_lt_of_cell? _ _ h.2.1)).trans h.2.1,(b3.cell (p:=⟨R,1,none⟩) (World.block_lt_of_cell? _ _ h.2.2.1)).trans h.2.2.1,bt h.2.2.2 b3⟩
section
variable {N R D : Nat} {F E : Nat → Prop} {c : Sto.Cfg} {s : Sto.St} {V : Nat → Value} {U : Nat → List HeC} {vt vs va : Value} {tc : List (Int × Sl)} {X : Sto.Six}
theorem c1V(hX:Sto.dE X)(w:World)(h:StP w N R F E c s D V U vt vs va tc)(b:Evt.Bat)(ve:Value)(he:Evs w ve b.evs)(hb:(Evt.aA b).1=0)(hNw:N≤w.heap.size):
  Calls prog 45 #[.pointer (some (aD R 0)),.agg #[iV b.cmd,ve]] w fun e w'=>qI e w w' N R F E c vs va (fM X c s b):=by
 obtain⟨A,C,rfl⟩:=he.sE;have b1:=aB8 w (.cells #[iV b.cmd,.slice A b.evs.length C] 47);have VB:=aC w #[iV b.cmd,.slice A b.evs.length C] 47;have h1:=h.bE b1;have Az:=he.bE b1;have d0:=VB.q0;have d1:=VB.q1;have c5:=h1.var.q5;have An:=c9E hNw b1.size;have B0:b.evs.length≤2000000:=by
  have:=(Evt.bN hb).2.2.2.1;omega
 have As:Hid (¬F w.heap.size):=fun q=>absurd (h.lt _ q).2 (d0V _);have Aw:=hd8 b1.size;have HX:=hd8 hX;have B6:=hd8 hb;clear h he hX hb hNw VB;go_enter func45,ntmps45
 go_upto_region 1 with fail
 generalize w.alloc (.cells #[iV b.cmd,.slice A b.evs.length C] 47)=w1 at*;have At:=b0J (.slice A b.evs.length C) b.evs w1.drew (Az.bE (Below.refl _ _).drew) B0;have TD:w1.drew.cell? (aD R 5)=some vt∧w1.drew.cell? (aD w.heap.size 0)=some (iV b.cmd)∧w1.drew.cell? (aD w.heap.size 1)=some (.slice A b.evs.length C):=⟨c5,d0,d1⟩;go_region_held3 (fun w'=>w'.cell? (aD R 5)=some vt∧w'.cell? (aD w.heap.size 0)=some (iV b.cmd)∧w'.cell? (aD w.heap.size 1)=some (.slice A b.evs.length C))
  (first|with_reducible exact TD|with_reducible assumption|with_reducible exact c6M (aB8 _ _) (by assumption))
  (first|(go_at_call 77;refine At.mono ?_;rintro e3 w3 ⟨⟨v3,Al,rfl,B2,Am⟩,b3⟩;have S3:=c6M b3 TD;obtain⟨A3,C3,rfl⟩:=Am.sE)|(obtain⟨v4,w4,B3,E1,Bm,hT⟩:=c7B h1 (w:=w3.alloc (.cells #[iV b.cmd,.slice A3 Al.length C3] 47)) (bt (bt (Below.refl _ _).drew b3) (aB8 _ _)) b (Am.bE (aB8 _ _)) B2 An (p:=w3.heap.size) ((aC w3 #[iV b.cmd,.slice A3 Al.length C3] 47).q0) ((aC w3 #[iV b.cmd,.slice A3 Al.length C3] 47).q1);refine c5R rfl (.tmp 14) (.tmp 21) rfl rfl rfl rfl B3 ?_;have S4:=c6P hT.off As.out (hT.st.var.q5) TD))
 have HT:=hd8 hT;have Ah:Hid (dS w w4 F F E E):=(dS.oE F E b1).trans ⟨hT.off,fun _ q=>Or.inl q,fun _ q=>Or.inl q⟩;have c2:=hT.st.var.q2;have c5:=hT.st.var.q5;have Bc:=hT.st.var.frozen 5;have A8:=a5W v4 (s.tail++[b]) w4 hT.tl.bats;obtain⟨L,hL⟩: ∃L,L=(s.tail++[b]).length:=⟨_,rfl⟩;have HL:Hid (L=s.tail.length+1):=by
  show L=s.tail.length+1;rw[hL,c9I];rfl
 obtain⟨A4,C4,Bf⟩: ∃A4 C4,v4=.slice A4 L C4:=by
  rcases hT.tl.own.2 with⟨rfl,q⟩|⟨g,Bi,Bj,rfl,_⟩
  ·exact⟨none,0,by rw[hL,q]⟩
  ·exact⟨_,_,by rw[hL]⟩
 have Ab:Hid (fM X c s b=if L<c.b then(0,{s with tail:=s.tail++[b]})else if (Evt.aF (s.tail++[b])).1≠0 then((Evt.aF (s.tail++[b])).1,s)else if (X.lay (Evt.iK (s.tail++[b])) s.segs c).1≠0 then((X.lay (Evt.iK (s.tail++[b])) s.segs c).1,s)else(0,{s with disks:=Sto.write s.segs (X.lay (Evt.iK (s.tail++[b])) s.segs c).2 0 s.disks,segs:=s.segs+1,tail:=[]})):=by
  show fM X c s b=_;rw[hL];rfl
 have Au:=hd8 (c9E An hT.off.size);subst Bf;clear hT hL At TD S3 S4 B3 Am B2 b3 h1 Az d0 d1 B0 b1 An As;by_cases Af:L<c.b
 ·have Ap:(L:Int)<(c.b:Int):=by omega
  have HR:Hid (qI (.returned (iV 0)) w (w4.setCell (aD R 5) (.slice A4 L C4)) N R F E c vs va (fM X c s b)):=by
   show qI _ _ _ _ _ _ _ _ _ _ _;rw[Ab.out,if_pos Af];obtain⟨q1,q2⟩:=HT.out.stored (by rw[←HL.out];exact Af) B6.out
   exact⟨rfl,_,_,_,_,_,_,_,q1,⟨Ah.out.off.trans ((aG _ _ _).wider fun k e=>by rw[show k=R from e];exact HT.out.st.fR),fun k q=>by
    rcases q2.growF k q with z|z
    ·exact Or.inl z
    ·exact Or.inr (c9E Aw.out z),fun k q=>by
    rcases q2.growE k q with z|z
    ·exact Or.inl z
    ·exact Or.inr (c9E Aw.out z)⟩⟩
  clear A8;go_wp2_with fail;go_ret
  exact HR.out
 ·have Ap: ¬(L:Int)<(c.b:Int):=by omega
  obtain⟨x,hx⟩: ∃x,x=(Evt.aF (s.tail++[b])).1:=⟨_,rfl⟩;obtain⟨y,hy⟩: ∃y,y=(Evt.aF (s.tail++[b])).2:=⟨_,rfl⟩;obtain⟨r,hr⟩: ∃r,r=rE (s.tail++[b]):=⟨_,rfl⟩;have Av:Hid (x=0→r=Evt.iK (s.tail++[b])):=fun q=>by rw[hr,wZ (by rw[←hx];exact q)]
  have Ad:=hd8 hx;have Ak:=hd8 Af;rw[←hx,←hy,←hr]at A8;obtain⟨lr,B1⟩: ∃lr,lr=r.length:=⟨_,rfl⟩;rw[←B1]at A8;clear hx hy hr B1 Af c5 Bc;go_wp2_with fail;refine A8.mono ?_;rintro e5 w5 ⟨A5,C5,rfl,Ay,b5⟩;have bA:=aB8 w5 (.cells #[iV x,iV y] 78);have Aa:=hd8 (bt b5 bA);clear A8;go_upto_region 6 with fail
  have f0:=(aC w5 #[iV x,iV y] 78).q0;have Ao:=Ay.bE bA;generalize w5.alloc (.cells #[iV x,iV y] 78)=w6 at*;have A0:=hd8 (HT.out.st.bE Aa.out);have Ai:=hd8 (Ah.out.trans (dS.oE F E Aa.out));have B7:=hd8 (c9E Au.out Aa.out.size);clear HT Ah Au Aa Ay bA b5 c2;by_cases A9:x=0
  case neg=>
   have HR:Hid (qI (.returned (iV x)) w w6 N R F E c vs va (fM X c s b)):=by
    show qI _ _ _ _ _ _ _ _ _ _ _;rw[Ab.out,if_neg Ak.out,if_pos (by rw[←Ad.out];exact A9),←Ad.out];exact⟨rfl,_,_,_,_,_,_,_,A0.out,Ai.out⟩
   have Bg:((x:Int) !=0)=true:=by rw[bne_iff_ne];omega
   clear A9 Ao;go_wp2_with fail;go_ret
   exact HR.out
  case pos=>
   have B8:=hd8 (Av.out A9);have Bg:((x:Int) !=0)=false:=by rw[bne_eq_false_iff_eq];omega
   have B9:Hid ((Evt.aF (s.tail++[b])).1=0):=by
    show(Evt.aF (s.tail++[b])).1=0;rw[←Ad.out];exact A9
   have A1:Hid (fM X c s b=if (Sto.lX r s.segs c).1≠0 then((Sto.lX r s.segs c).1,s)else(0,{s with disks:=Sto.write s.segs (Sto.lX r s.segs c).2 0 s.disks,segs:=s.segs+1,tail:=[]})):=by
    show fM X c s b=_;rw[Ab.out,if_neg Ak.out,if_neg (fun z=>z B9.out),HX.out.lay,←B8.out]
   have c4:=A0.out.var.q4;have c0:=A0.out.var.q0;have c1:=A0.out.var.q1;obtain⟨n,hn⟩: ∃n,n=s.segs:=⟨_,rfl⟩;have A6:=hd8 hn;have Be:n≤40:=by rw[hn];exact A0.out.wf.segs
   have Ac:=a7D (.slice A5 lr C5) r s.segs c w6.drew (Ao.bE (Below.refl _ _).drew);obtain⟨Z,hZ⟩: ∃Z,Z=Sto.lX r s.segs c:=⟨_,rfl⟩;have HZ:=hd8 hZ;rw[←hZ]at Ac A1;rw[←hn]at c4 Ac;clear hn hZ Ab Ak Av Ad A9 Ao;have TD:w6.drew.cell? (aD R 4)=some (iV n)∧w6.drew.cell? (aD R 0)=some (iV c.d)∧w6.drew.cell? (aD R 1)=some (iV c.s)∧Bl w6 w6.drew:=⟨c4,c0,c1,(Below.refl _ _).drew⟩;go_wp2_with fail;go_region_held3 (fun w'=>w'.cell? (aD R 4)=some (iV n)∧w'.cell? (aD R 0)=some (iV c.d)∧w'.cell? (aD R 1)=some (iV c.s)∧Bl w6 w')
    (first|with_reducible exact TD|with_reducible assumption)
    (first|(go_at_call 79;refine Ac.mono ?_;rintro e7 w7 ⟨⟨v7,rfl,A7⟩,b7⟩;have S7:=c9B b7 TD))
   have Ae:=S7.2.2.2;clear S7 TD Ac b7;obtain⟨z,LL⟩:=Z;have A7:(z=0∧ ∃Y,iD w7 w6.heap.size v7 LL Y)∨(z≠0∧v7=nS):=A7;by_cases Ag:z=0
   case neg=>
    have HR:Hid (qI (.returned (iV z)) w w7 N R F E c vs va (fM X c s b)):=by
     show qI _ _ _ _ _ _ _ _ _ _ _;rw[A1.out,if_pos Ag];exact⟨rfl,_,_,_,_,_,_,_,A0.out.bE Ae,Ai.out.trans (dS.oE F E Ae)⟩
    obtain rfl:v7=nS:=by
     rcases A7 with⟨q,_⟩|⟨_,q⟩
     ·exact absurd q Ag
     ·exact q
    have Bk:((z:Int) !=0)=true:=by rw[bne_iff_ne];omega
    clear Ag A7;go_wp2_with fail;go_ret
    exact HR.out
   case pos=>
    subst Ag;obtain⟨Y,hY⟩: ∃Y,iD w7 w6.heap.size v7 LL Y:=by
     rcases A7 with⟨_,q⟩|⟨q,_⟩
     ·exact q
     ·exact absurd rfl q
    obtain⟨⟨_,_,_,B5,_⟩,qL,_⟩:=Sto.oE HZ.out.symm;have Aq:LL.length=s.disks.length:=by rw[qL,A0.out.wf.len]
    have Ar:n≤39:=by rw[A6.out];exact B5
    have HH:=a3C A0.out Ae hY Aq n (by omega) B7.out;have Aj:Hid (fM X c s b=(0,{s with disks:=Sto.write n LL 0 s.disks,segs:=s.segs+1,tail:=[]})):=by
     show fM X c s b=_;rw[A1.out,if_neg (fun z=>z rfl),A6.out]
    obtain⟨b9,c9,B4,_⟩:=hY.at (by rw[Aq,A0.out.wf.len];have:=A0.out.wf.d1;omega);rw[B4]at HH⊢;have Ba:=(A0.out.bE Ae).var.q4;rw[←A6.out]at Ba;clear A7 hY B4 A1 qL B5 HZ Aq;go_wp2_with fail;refine HH.mono ?_;rintro e8 w8 ⟨rfl,F8,V8,U8,A2,Ax⟩;have Bb:w8.cell? (aD R 4)=some (iV s.segs):=A2.var.q4;rw[←A6.out]at Bb;have z4:=A2.var.frozen 4;have z5:=A2.var.frozen 5;have Bh:=A2.var.q5;have HR:Hid (qI (.returned (iV 0)) w ((w8.setCell (aD R 4) (iV ((n:Int)+1))).setCell (aD R 5) nS) N R F E c vs va (fM X c s b)):=by
     show qI _ _ _ _ _ _ _ _ _ _ _;rw[Aj.out];obtain⟨q1,q2⟩:=A2.laidS (by show s.segs≤39;rw[←A6.out];exact Ar) (iV ((n:Int)+1)) (by rw[A6.out];rfl);exact⟨rfl,_,_,_,_,_,_,_,q1,(Ai.out.trans Ax).trans ⟨q2.wider fun k e=>by rw[show k=R from e];exact A2.fR,fun _ q=>Or.inl q,fun _ q=>Or.inl q⟩⟩
    clear A2 Ax HH;go_wp2_with fail;go_ret
    exact HR.out
end
theorem b0X(a:Int)(w:World):Calls prog 71 #[iV a] w fun e w'=>e=.returned (.bool false)∧w'=w:=by
 go_enter func71,ntmps71
 go_wp2_with fail;go_ret
 exact⟨rfl,rfl⟩
theorem b2F(a:Int)(w:World):Calls prog 102 #[iV a] w fun e w'=>e=.returned (.bool false)∧w'=w:=by
 go_enter func102,ntmps102
 go_wp2_with fail;go_ret
 exact⟨rfl,rfl⟩
theorem b7B(a b:Int)(w:World):Calls prog 70 #[iV a,iV b] w fun e w'=>e=.returned (.bool (decide (a<b)))∧w'=w:=by
 have H:=b2F a w;go_enter func70,ntmps70
 go_wp2_with fail;refine H.mono ?_;rintro e w1 ⟨rfl,rfl⟩;clear H;go_wp2_with fail;go_ret
 exact⟨rfl,rfl⟩
def c2Q(w:World)(v:Value)(l:List Int):Prop:= ∃A C,v=.slice A l.length C∧l.length≤C∧C≤maxLen∧ ∀i x,l[i]?=some x→ ∃b o,A=some (aD b o)∧w.cell? (aD b (o+i))=some (iV x)
theorem a6L{l:List Int}(h:w.ownsRow N 3 1 v l.length (l.flatMap aE)):c2Q w v l:=by
 rcases h.2 with⟨rfl,h0⟩|⟨g,A0,A1,rfl,_,_,h1,h2,_⟩
 ·obtain rfl:l=[]:=d0N h0;exact⟨none,0,rfl,c9C _,c9D _,fun i x hx=>(by cases hx)⟩
 ·refine⟨_,A0,rfl,h1,h2,fun i x hx=>⟨g,0,rfl,?_⟩⟩;have hf:=dQ aE 1 l (fun _ _=>rfl) i 0 (by omega) x hx;have:=h.cells (g:=g) rfl (i*1+0) _ hf;rw[WideShapes.add_plain]at this;rw[show 0+i=0+(i*1+0) by omega];exact this
theorem c2K(t:Int)(vs:Value)(l:List Int)(w:World)(h:c2Q w vs l)(hup:UpI l)(hn:l.length≤100000):
  Calls prog 42 #[vs,iV t] w fun e w'=>oK e l t∧w'=w:=by
 have Ab:=hd8 hup;obtain⟨A,C,rfl,_,hC,ha⟩:=h;have Af:=mL8 hC;clear hup hC;go_enter func42,ntmps42
 go_wp2_with fail;go_loopw [7,8] (fun x y wr=> ∃i j:Nat,i≤j∧j≤l.length∧x=iV i∧y=iV j∧Hid (∀k a,k<i→l[k]?=some a→a<t)∧Hid (∀k a,j≤k→l[k]?=some a→t≤a)∧wr=w) (fun x y _=>(intOf y).toNat-(intOf x).toNat)
 case atStart=>exact⟨0,l.length,c9D _,c9C _,rfl,rfl,fun k a hk=>absurd hk (c9L k),fun k a hk ha=>absurd (c9H.1 ha).1 (by omega),rfl⟩
 case round=>
  obtain⟨i,j,Ag,A9,rfl,rfl,A4,A3,rfl⟩:=hrel;by_cases Ah:i<j
  ·have Ad:(i:Int)<(j:Int):=by omega
   obtain⟨q,hq⟩: ∃q,q=(i+j)/2:=⟨_,rfl⟩;have Ae:i≤q:=by omega
   have Ai:q<j:=by omega
   obtain⟨a,A0⟩: ∃a,l[q]?=some a:=⟨l[q],c9F (by omega)⟩;obtain⟨b,o,rfl,d0⟩:=ha q a A0;have Aa:=hd8 A0;have HC:=b7B a t wr;have HQ:=hd8 hq;rw[hq]at d0;clear ha A0 hq;by_cases hc:a<t
   ·have A5:=hd8 hc;have A7:=decide_eq_true hc;rw[A7]at HC;go_wp2_with fail;refine HC.mono ?_;rintro e w1 ⟨rfl,rfl⟩;clear HC;go_wp2_with fail;refine⟨⟨q+1,j,by omega,A9,cB (by have:=HQ.out;omega),rfl,fun k x hk hx=>?_,A3.out,trivial⟩,?_⟩
    ·exact Int.lt_of_le_of_lt (a3S Ab.out hx Aa.out (by omega)) A5.out
    ·have:=HQ.out;simp[intOf];omega
   ·have A5:=hd8 (Int.not_lt.1 hc);have A7:=decide_eq_false hc;rw[A7]at HC;go_wp2_with fail;refine HC.mono ?_;rintro e w1 ⟨rfl,rfl⟩;clear HC;go_wp2_with fail;refine⟨⟨i,q,Ae,by omega,rfl,cB (by have:=HQ.out;omega),A4.out,fun k x hk hx=>?_,trivial⟩,?_⟩
    ·exact Int.le_trans A5.out (a3S Ab.out Aa.out hx hk)
    ·have:=HQ.out;simp[intOf];omega
  ·obtain rfl:i=j:=by omega
   by_cases Ac:i<l.length
   ·have A8:(i:Int)<(l.length:Int):=by omega
    obtain⟨a,A0⟩: ∃a,l[i]?=some a:=⟨l[i],c9F Ac⟩;obtain⟨b,o,rfl,d0⟩:=ha i a A0
    have A1:Hid (oK (.returned (.tuple #[iV i,.bool (a==t)])) l t):=⟨i,a==t,rfl,⟨A9,A4.out,A3.out⟩,by
     rw[beq_iff_eq,A0,Option.some.injEq]⟩
    have HC:=b0X a wr;clear ha A0;by_cases A2:a=t
    ·have A6:=beq_iff_eq.2 A2;rw[A6]at A1;clear HC A2;go_wp2_with fail;go_ret2
     exact⟨A1.out,rfl⟩
    ·have A6:(a==t)=false:=by rw[beq_eq_false_iff_ne];exact A2
     rw[A6]at A1;clear A2;go_wp2_with fail;refine HC.mono ?_;rintro e w1 ⟨rfl,rfl⟩;clear HC;go_wp2_with fail;go_ret2
     exact⟨A1.out,rfl⟩
   ·have A8: ¬(i:Int)<(l.length:Int):=by omega
    have HF:Hid (oK (.returned (.tuple #[iV i,.bool false])) l t):=⟨i,false,rfl,⟨A9,A4.out,A3.out⟩,⟨fun e=>absurd e (by decide),fun hx=>absurd (c9H.1 hx).1 (by omega)⟩⟩;clear ha;go_wp2_with fail;go_ret2
    exact⟨HF.out,rfl⟩
def dX(d:Sto.Do)(ve:Value)(t:ByteArray):List Value:=[iV d.kind,iV d.n,iV d.seg,iV d.pos,.int .u8 d.turn,iV d.bat.cmd,ve,.string t,iV d.ver]
structure sS(w:World)(d:Sto.Do)(ve:Value)(t:ByteArray):Prop where
 evs:Evs w ve d.bat.evs
 name:nb t=d.name
 sz:t.size≤9223372036854775807
 byte:d.turn<256
theorem sS.bE{d:Sto.Do}{ve:Value}{t:ByteArray}(h:sS w d ve t)(hb:Bl w w'):sS w' d ve t:=⟨h.evs.bE hb,h.name,h.sz,h.byte⟩
def DoO(e:Ending)(w w':World)(N R:Nat)(F E:Nat→Prop)(c:Sto.Cfg)(r:Sto.St×Sto.Ans):Prop:= ∃v F' E',e=.returned v∧uQ w' N R F' E' c r.1∧dS w w' F F' E E'∧qG w' E' v r.2
structure PW(w wX:World)(N R:Nat)(F E:Nat→Prop)(c:Sto.Cfg)(s:Sto.St)(D:Nat)(V:Nat→Value)(U:Nat→List HeC)(vt vs va:Value)(tc:List (Int×Sl))(d:Sto.Do)(ve:Value)(t:ByteArray):Prop where
 st:StP wX N R F E c s D V U vt vs va tc
 bel:Bl w wX
 vd:aV wX w.heap.size 49 (dX d ve t)
 va:aV wX (w.heap.size+1) 42 (cJ 0 0).toList
 din:sS wX d ve t
 lt: ∀k,F k∨E k→k<w.heap.size
section
variable {w wX w' : World} {N R D : Nat} {F E : Nat → Prop} {c : Sto.Cfg} {s : Sto.St} {V : Nat → Value} {U : Nat → List HeC} {vt vs va : Value} {tc : List (Int × Sl)} {d : Sto.Do} {ve : Value} {t : ByteArray}
theorem PW.bE(h:PW w wX N R F E c s D V U vt vs va tc d ve t)(hb:Bl wX w'):PW w w' N R F E c s D V U vt vs va tc d ve t:=⟨h.st.bE hb,bt h.bel hb,h.vd.bE hb,h.va.bE hb,h.din.bE hb,h.lt⟩
theorem a8K(h:StP w N R F E c s D V U vt vs va tc)(hd:sS w d ve t):PW w ((w.alloc (.cells (dX d ve t).toArray 49)).alloc (.cells (cJ 0 0) 42)) N R F E c s D V U vt vs va tc d ve t:=by
 have b1:=aB8 w (.cells (dX d ve t).toArray 49);have b2:=aB8 (w.alloc (.cells (dX d ve t).toArray 49)) (.cells (cJ 0 0) 42);have V1:=aC (w.alloc (.cells (dX d ve t).toArray 49)) (cJ 0 0) 42;rw[show(w.alloc (.cells (dX d ve t).toArray 49)).heap.size=w.heap.size+1 by simp]at V1;exact⟨h.bE (bt b1 b2),bt b1 b2,(aC w (dX d ve t).toArray 49).bE b2,V1,hd.bE (bt b1 b2),fun k hk=>(show uQ w N R F E c s from⟨_,_,_,_,_,_,_,h⟩).lt hk⟩
theorem PW.same(h:PW w wX N R F E c s D V U vt vs va tc d ve t)(ho:Off (fun k=>k=w.heap.size+1) wX w')(x:Nat)(n:Int):DoO (.returned (dI (x:Nat) n)) w w' N R F E c (s,⟨x,n,[],0,[]⟩):=
 ⟨_,F,E,rfl,⟨_,_,_,_,_,_,_,h.st.out ho fun k e=>⟨fun z=>by
  have:=h.lt k (Or.inl z)
  omega,fun z=>by
  have:=h.lt k (Or.inr z)
  omega⟩⟩,dS.oE F E (h.bel.trans (ho.bE h.bel.size fun k e=>by omega)),fJ _ _ _ _⟩
end
def c8W(wi wx:World)(N R:Nat)(v:Value)(es:List Int):Prop:= ∃w9 v9,wx=w9.setCell (aD R 6) v9∧w9.ownsRow N 3 1 v9 es.length (es.flatMap aE)∧Off (fun k=>v.ownBlock=some k) wi w9∧(v9.ownBlock=v.ownBlock∨ ∀g,v9.ownBlock=some g→wi.heap.size≤g)
theorem b8L{X:Sto.Six}{c:Sto.Cfg}{s:Sto.St}{b:Evt.Bat}(h:(fM X c s b).1≠0):(fM X c s b).2=s:=by
 unfold fM at h⊢;by_cases h1:(s.tail++[b]).length<c.b
 ·rw[if_pos h1]at h;exact absurd rfl h
 ·rw[if_neg h1]at h⊢;by_cases h2:(Evt.aF (s.tail++[b])).1≠0
  ·rw[if_pos h2]
  ·rw[if_neg h2]at h⊢;by_cases h3:(X.lay (Evt.iK (s.tail++[b])) s.segs c).1≠0
   ·rw[if_pos h3]
   ·rw[if_neg h3]at h;exact absurd rfl h
theorem b2S(X:Sto.Six)(c:Sto.Cfg)(s:Sto.St)(b:Evt.Bat):(fM X c s b).2.seen=s.seen∧(fM X c s b).2.u=s.u∧(fM X c s b).2.acc=s.acc:=by
 unfold fM;split
 ·exact⟨rfl,rfl,rfl⟩
 ·split
  ·exact⟨rfl,rfl,rfl⟩
  ·split
   ·exact⟨rfl,rfl,rfl⟩
   ·exact⟨rfl,rfl,rfl⟩
section
variable {w w' : World} {N R D : Nat} {F E : Nat → Prop} {c : Sto.Cfg} {s s' : Sto.St} {V : Nat → Value} {U : Nat → List HeC} {vt vs va vs' va' : Value} {tc : List (Int × Sl)}
theorem StP.putS(h:StP w N R F E c s D V U vt vs va tc)(ho:Off (fun k=>k=R∨vs.ownBlock=some k) w w')(hd:s'.disks=s.disks)(ht:s'.tail=s.tail)(hvar:aV w' R 45 (j6 c D s'.disks.length s'.segs vt vs' s'.u va'))
  (hseen:w'.ownsRow N 3 1 vs' s'.seen.length (s'.seen.flatMap aE)) (hat:vs'.ownBlock=vs.ownBlock∨ ∀g,vs'.ownBlock=some g→w.heap.size≤g) (hacc:bG w' va' s'.acc) (hgF: ∀g,va'.ownBlock=some g→ ¬F g∧g<w.heap.size) (hwf:WfS c s'):
  StP w' N R (fun k=>F k∨vs'.ownBlock=some k) (fun k=>E k∨va'.ownBlock=some k) c s' D V U vt vs' va' tc:=by
 have hS: ∀k,(k=R∨vs.ownBlock=some k)→F k∧ ∃t,TyB w k t∧(t=45∨t=3):=fun k q=>by
  rcases q with rfl|q
  ·exact⟨h.fR,_,h.var.ty,Or.inl rfl⟩
  ·exact⟨h.fS k q,_,aU h.seen q,Or.inr rfl⟩
 have A2:=fun k hk he=>ho.block k hk fun q=>(h.dis k he).1 (hS k q).1;have A1:dM w' N D V U s.disks:=h.dk.off ho fun k q=>by
  obtain⟨_,t,ht,z⟩:=hS k q;rcases z with rfl|rfl
  ·exact⟨_,ht,by decide,by decide,by decide⟩
  ·exact⟨_,ht,by decide,by decide,by decide⟩
 have A3:a0M w' N (fun k=>E k∨va'.ownBlock=some k) vt tc s.tail:=h.tail.move A2 (fun _ _ q=>Or.inl q) ho fun g hg q=>by
  obtain⟨_,t,ht,z⟩:=hS g q;rcases z with rfl|rfl
  ·exact ht.ne (aU h.tail.own hg) (by decide) rfl
  ·exact ht.ne (aU h.tail.own hg) (by decide) rfl
 have A0: ∀k,vs'.ownBlock=some k→F k∨w.heap.size≤k:=fun k q=>by
  rcases hat with z|z
  ·rw[z]at q;exact Or.inl (h.fS k q)
  ·exact Or.inr (z k q)
 refine⟨hvar,h.ge,by rw[hd];exact A1,by rw[ht];exact A3,hseen,⟨hacc,fun g hg _=>Or.inr hg⟩,Or.inl h.fR,Or.inl h.fD,fun i g hi hg=>Or.inl (h.fV i g (by rw[←hd];exact hi) hg),fun i x g hi hx hg=>Or.inl (h.fU i x g (by rw[←hd];exact hi) hx hg),fun g hg=>Or.inl (h.fT g hg),fun g hg=>Or.inr hg,fun k q=>?_,fun k q=>?_,hwf⟩
 ·rcases q with q|q
  ·exact⟨(h.lt k q).1,c9P (h.lt k q).2 ho.size⟩
  ·exact hseen.lt k q
 ·rcases q with q|q
  ·refine⟨fun z=>?_,c9P (h.dis k q).2 ho.size⟩;rcases z with z|z
   ·exact(h.dis k q).1 z
   ·rcases A0 k z with z|z
    ·exact(h.dis k q).1 z
    ·exact absurd (h.dis k q).2 (Nat.not_lt.2 z)
  ·refine⟨fun z=>?_,c9P (hgF k q).2 ho.size⟩;rcases z with z|z
   ·exact(hgF k q).1 z
   ·rcases A0 k z with z|z
    ·exact(hgF k q).1 z
    ·exact absurd (hgF k q).2 (Nat.not_lt.2 z)
end
theorem b4N{x:Value}(b3:Bl wX w3)(h:wX.cell? (aD R i)=some x∧wX.cell? (aD R j)=some y∧wX.cell? (aD B k)=some z∧Bl w0 wX):w3.cell? (aD R i)=some x∧w3.cell? (aD R j)=some y∧w3.cell? (aD B k)=some z∧Bl w0 w3:=
 ⟨(b3.cell (p:=⟨R,i,none⟩) (World.block_lt_of_cell? _ _ h.1)).trans h.1,(b3.cell (p:=⟨R,j,none⟩) (World.block_lt_of_cell? _ _ h.2.1)).trans h.2.1,(b3.cell (p:=⟨B,k,none⟩) (World.block_lt_of_cell? _ _ h.2.2.1)).trans h.2.2.1,bt h.2.2.2 b3⟩
theorem a4E{x:Value}{o:Obj}(h:wX.cell? (aD R i)=some x∧wX.cell? (aD R j)=some y∧wX.cell? (aD B k)=some z∧Bl w0 wX):(wX.alloc o).cell? (aD R i)=some x∧(wX.alloc o).cell? (aD R j)=some y∧(wX.alloc o).cell? (aD B k)=some z∧Bl w0 (wX.alloc o):=
 b4N ((Below.refl _ _).alloc (c9C _) o) h
theorem c6U{x:Value}{o:Obj}(h:wX.drew.cell? (aD R i)=some x∧wX.drew.cell? (aD R j)=some y∧wX.drew.cell? (aD B k)=some z∧Bl w0 wX.drew):(wX.alloc o).drew.cell? (aD R i)=some x∧(wX.alloc o).drew.cell? (aD R j)=some y∧(wX.alloc o).drew.cell? (aD B k)=some z∧Bl w0 (wX.alloc o).drew:=
 b4N (w3:=(wX.alloc o).drew) (show Below wX.drew.heap.size wX.drew (wX.drew.alloc o)from(Below.refl wX.drew.heap.size wX.drew).alloc (c9C _) o) h
theorem a3R{G:Nat}{x a b:Value}(h:wX.cell? (aD R i)=some x∧wX.cell? (aD R j)=some y∧wX.cell? (aD B k)=some z∧Bl w0 wX)(hR:R<G)(hB:B<G)(hw:w0.heap.size≤G):((wX.setCell (aD G 0) a).setCell (aD G 1) b).cell? (aD R i)=some x∧((wX.setCell (aD G 0) a).setCell (aD G 1) b).cell? (aD R j)=some y∧((wX.setCell (aD G 0) a).setCell (aD G 1) b).cell? (aD B k)=some z∧Bl w0 ((wX.setCell (aD G 0) a).setCell (aD G 1) b):=by
 obtain⟨h0,h1,h2,hb⟩:=h;have e1:R≠G:=by omega
 have e2:G≠R:=by omega
 have e3:B≠G:=by omega
 have e4:G≠B:=by omega
 exact⟨by go_simp,by go_simp,by go_simp,(hb.setCell hw _).setCell hw _⟩
theorem c8O{x:Value}(b3:Bl wX w3)(h:wX.cell? (aD R i)=some x∧wX.cell? (aD B k)=some z):w3.cell? (aD R i)=some x∧w3.cell? (aD B k)=some z:=
 ⟨(b3.cell (p:=⟨R,i,none⟩) (World.block_lt_of_cell? _ _ h.1)).trans h.1,(b3.cell (p:=⟨B,k,none⟩) (World.block_lt_of_cell? _ _ h.2)).trans h.2⟩
theorem c7P{F:Nat}(hb:Bl w0 wX)(hF:w0.heap.size≤F)(a b:Value):Bl w0 ((wX.setCell (aD F 0) a).setCell (aD F 1) b):=(hb.setCell hF _).setCell hF _
theorem c1S(w:World)(B:Nat)(p q:Value):Off (fun k=>k=B) w ((w.setCell (aD B 0) p).setCell (aD B 1) q):=((Off.refl (fun k=>k=B) w).set (p:=⟨B,0,none⟩) rfl p).set (p:=⟨B,1,none⟩) rfl q
theorem c8S{t t':TypeId}{p q c d:Value}{l:List Vw.Acc}(A7:bG w7 v l)(hb:Bl w0 w7):
  dU ((w7.alloc (.cells #[p,q] t)).alloc (.cells #[c,d] t')) w7.heap.size p q∧dU ((w7.alloc (.cells #[p,q] t)).alloc (.cells #[c,d] t')) (w7.heap.size+1) c d∧bG ((w7.alloc (.cells #[p,q] t)).alloc (.cells #[c,d] t')) v l∧Bl w0 ((w7.alloc (.cells #[p,q] t)).alloc (.cells #[c,d] t')):=by
 have b1:=aB8 w7 (.cells #[p,q] t);have b2:=aB8 (w7.alloc (.cells #[p,q] t)) (.cells #[c,d] t');have h:=aO (w7.alloc (.cells #[p,q] t)) t' c d;rw[show(w7.alloc (.cells #[p,q] t)).heap.size=w7.heap.size+1 by simp]at h;exact⟨(aO w7 t p q).bE b2,h,A7.bE (bt b1 b2),bt hb (bt b1 b2)⟩
theorem c8I{t:TypeId}{a b p q c d:Value}{l:List Vw.Acc}(W7:dU w7 B a b)(A7:bG w7 v l)(P7:kN (B+1) v)(hb:Bl w0 w7)(hB:w0.heap.size≤B):
  dU (((w7.setCell (aD B 0) p).setCell (aD B 1) q).alloc (.cells #[c,d] t)) B p q∧dU (((w7.setCell (aD B 0) p).setCell (aD B 1) q).alloc (.cells #[c,d] t)) w7.heap.size c d∧bG (((w7.setCell (aD B 0) p).setCell (aD B 1) q).alloc (.cells #[c,d] t)) v l∧Bl w0 (((w7.setCell (aD B 0) p).setCell (aD B 1) q).alloc (.cells #[c,d] t)):=by
 have hs:((w7.setCell (aD B 0) p).setCell (aD B 1) q).heap.size=w7.heap.size:=by rw[Deep.nblk_setCell,Deep.nblk_setCell]
 have ba:=aB8 ((w7.setCell (aD B 0) p).setCell (aD B 1) q) (.cells #[c,d] t);have h1:=aO ((w7.setCell (aD B 0) p).setCell (aD B 1) q) t c d;rw[hs]at h1;exact⟨(W7.set2 p q).bE ba,h1,(A7.off (c1S w7 B p q) (fun g hg e=>by have:=P7 g hg;omega)).bE ba,bt (c7P hb hB p q) ba⟩
theorem noA{G:Nat}{a b a' b' p q c d:Value}{l:List Vw.Acc}(W7:dU w7 B a b)(W8:dU w7 G a' b')(A7:bG w7 v l)(P7:kN N v)(hb:Bl w0 w7)(hB:w0.heap.size≤B)(hG:w0.heap.size≤G)(hBG:B≠G)(hBN:B<N)(hGN:G<N):
  dU ((((w7.setCell (aD B 0) p).setCell (aD B 1) q).setCell (aD G 0) c).setCell (aD G 1) d) B p q∧dU ((((w7.setCell (aD B 0) p).setCell (aD B 1) q).setCell (aD G 0) c).setCell (aD G 1) d) G c d∧bG ((((w7.setCell (aD B 0) p).setCell (aD B 1) q).setCell (aD G 0) c).setCell (aD G 1) d) v l∧Bl w0 ((((w7.setCell (aD B 0) p).setCell (aD B 1) q).setCell (aD G 0) c).setCell (aD G 1) d):=
 ⟨(W7.set2 p q).off (c1S _ G c d) hBG,(W8.off (c1S w7 B p q) (fun e=>hBG e.symm)).set2 c d,(A7.off (c1S w7 B p q) (fun g hg e=>by have:=P7 g hg;omega)).off (c1S _ G c d) (fun g hg e=>by have:=P7 g hg;omega),c7P (c7P hb hB p q) hG c d⟩
theorem c9A{l:Nat}{x u:Value}(b3:Bl wX w3)(h:wX.cell? (aD R i)=some x∧wX.cell? (aD R j)=some y∧wX.cell? (aD B k)=some z∧wX.cell? (aD B l)=some u∧Bl w0 wX):w3.cell? (aD R i)=some x∧w3.cell? (aD R j)=some y∧w3.cell? (aD B k)=some z∧w3.cell? (aD B l)=some u∧Bl w0 w3:=
 ⟨(b3.cell (p:=⟨R,i,none⟩) (World.block_lt_of_cell? _ _ h.1)).trans h.1,(b3.cell (p:=⟨R,j,none⟩) (World.block_lt_of_cell? _ _ h.2.1)).trans h.2.1,(b3.cell (p:=⟨B,k,none⟩) (World.block_lt_of_cell? _ _ h.2.2.1)).trans h.2.2.1,(b3.cell (p:=⟨B,l,none⟩) (World.block_lt_of_cell? _ _ h.2.2.2.1)).trans h.2.2.2.1,bt h.2.2.2.2 b3⟩
theorem uG{l:List Int}{x:Int}(h:kZ l x i):Sto.below x l=i:=by
 obtain⟨h1,h2,h3⟩:=h;unfold Sto.below;have e:l.filter (fun y=>decide (y<x))=l.take i:=by
  conv=>lhs;rw[←d2Q i l,d1O]
  rw[d2S.2,List.filter_eq_nil_iff.2,d0W]
  ·intro y hy;obtain⟨k,hk,e⟩:=d1P.1 hy;have A0:l[i+k]?=some y:=by
    rw[←d0J,c9F hk,e]
   have:=h3 (i+k) y (Nat.le_add_right _ _) A0;simp;omega
  ·intro y hy;obtain⟨k,hk,e⟩:=d1P.1 hy;have A1:k<i:=by
    rw[c9K]at hk;omega
   have A0:l[k]?=some y:=by
    rw[←List.getElem?_take_of_lt A1,c9F hk,e]
   have:=h2 k y A1 A0;simp;exact this
 rw[e,c9K];omega
theorem b8P{l:List Int}{x:Int}(h:kZ l x i)(hup:UpI l):l[i]?=some x↔x∈l:=by
 constructor
 ·exact c9N
 ·intro hx;obtain⟨k,hk,e⟩:=d1P.1 hx;have A0:l[k]?=some x:=by rw[c9F hk,e]
  rcases Nat.lt_trichotomy k i with q|q|q
  ·have:=h.2.1 k x q A0;omega
  ·rw[←q];exact A0
  ·have hi:i<l.length:=by omega
   have h3:=h.2.2 i l[i] (c9C _) (c9F hi);have h4:=d2Y.1 hup i k hi hk q;rw[e]at h4;omega
theorem zS: ∀(l:List Int) (x:Int),UpI l→ ∃i,kZ l x i
 |[],x,_=>⟨0,c9C _,fun k a hk=>absurd hk (c9L _),fun k a _ ha=>(by cases ha)⟩
 |a::r,x,h=>by
  obtain⟨h1,h2⟩:=d1A.1 h
  by_cases q:a<x
  ·obtain⟨i,i1,i2,i3⟩:=zS r x h2
   refine⟨i+1,Nat.succ_le_succ i1,fun k b hk hb=>?_,fun k b hk hb=>?_⟩
   ·cases k with
    |zero=>
     cases hb
     exact q
    |succ k=>exact i2 k b (by omega) hb
   ·cases k with
    |zero=>omega
    |succ k=>exact i3 k b (by omega) hb
  ·refine⟨0,c9D _,fun k b hk=>absurd hk (c9L _),fun k b hk hb=>?_⟩;cases k with
   |zero=>
    cases hb
    omega
   |succ k=>
    have:=h1 b (c9N hb);omega
theorem b5W{l:List Int}{x:Int}(h:UpI l):kZ l x (Sto.below x l):=by
 obtain⟨i,hi⟩:=zS l x h;rw[uG hi];exact hi
theorem b5T(t:Int)(vs:Value)(l:List Int)(w:World)(h:c2Q w vs l)(hup:UpI l)(hn:l.length≤100000):
  Calls prog 42 #[vs,iV t] w fun e w'=>e=.returned (.tuple #[iV (Sto.below t l:Nat),.bool (decide (t∈l))])∧Bl w w':=by
 refine(c2K t vs l w h hup hn).mono ?_;rintro e w' ⟨⟨i,y,rfl,hc,hy⟩,rfl⟩;refine⟨?_,Below.refl _ _⟩;rw[uG hc];have:y=decide (t∈l):=by
  have hm:=b8P hc hup;by_cases q:t∈l
  ·rw[decide_eq_true q];exact hy.2 (hm.2 q)
  ·rw[decide_eq_false q];cases y with
   |false=>rfl
   |true=>exact absurd (hm.1 (hy.1 rfl)) q
 rw[this]
theorem c7U{l:List Int}{x:Int}(h:kZ l x i)(hup:UpI l)(hx:x∉l):UpI (l.take i++x::l.drop i):=by
 have A2: ∀y,y∈l.take i→y<x:=fun y hy=>by
  obtain⟨k,hk,e⟩:=d1P.1 hy;have A0:k<i:=by
   rw[c9K]at hk;omega
  exact h.2.1 k y A0 (by rw[←List.getElem?_take_of_lt A0,c9F hk,e])
 have A1: ∀y,y∈l.drop i→x<y:=fun y hy=>by
  obtain⟨k,hk,e⟩:=d1P.1 hy;have:=h.2.2 (i+k) y (Nat.le_add_right _ _) (by rw[←d0J,c9F hk,e]);rcases Int.lt_or_eq_of_le this with q|q
  ·exact q
  ·exact absurd (q▸d1S hy) hx
 have h1:(l.take i++l.drop i).Pairwise (· <·):=by
  rw[d2Q];exact hup
 obtain⟨p1,p2,p3⟩:=List.pairwise_append.1 h1;refine List.pairwise_append.2 ⟨p1,d1A.2 ⟨A1,p2⟩,fun a ha b hb=>?_⟩;rcases List.mem_cons.1 hb with rfl|q
 ·exact A2 a ha
 ·exact p3 a ha b q
end Go.Proofs.YtmcaejooaaahdaaGreat
