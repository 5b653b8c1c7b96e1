import Derived.Test.YtmcaejooaaahdaaGreatZ13
import Derived.StillTailTactics
set_option maxHeartbeats 8000000
set_option maxRecDepth 100000
namespace Go.Proofs.YtmcaejooaaahdaaGreat
open Go.Proofs.Tryz
variable {B D N R g i k m:Nat} {E F S:Nat→Prop} {U U2:Nat→List HeC} {V V2:Nat→Value} {X:Sto.Six} {ds ds':List Sto.Disk} {s:Sto.St} {v va vl vs vt:Value} {w w' w1 w2 w3:World}
open Go.RowKit
abbrev dH(x:Int)(n:Int):Value:=.agg #[iV x,iV n,nS,iV 0,nS]
abbrev cS(x n:Int):Array Value:=#[iV x,iV n,nS,iV 0,nS]
section
variable {N R D : Nat} {F E : Nat → Prop} {c : Sto.Cfg} {s : Sto.St} {V : Nat → Value} {U : Nat → List HeC} {vt vs va : Value} {tc : List (Int × Sl)}
def ChP(e:Ending)(w w':World)(N R:Nat)(F E:Nat→Prop)(c:Sto.Cfg)(s:Sto.St)(D:Nat)(vt vs va:Value)(tc:List (Int×Sl))(x:Nat)(ds':List Sto.aL):Prop:=e=.returned (dH (x:Nat) 0)∧iC w w' N R F E c s D vt vs va tc ds'
theorem iC.local(hb:Bl w w1)(h:iC w1 w2 N R F E c s D vt vs va tc ds')(ho:Off (fun k=>k=B) w2 w3)(hB:w.heap.size≤B)(hF: ∀k,F k∨E k→k<w.heap.size):iC w w3 N R F E c s D vt vs va tc ds':=by
 obtain⟨V',U',q1,q2⟩:=h;have q3:=(dS.of_below F E hb).trans q2;refine⟨V',U',q1.out ho fun k e=>⟨fun z=>?_,fun z=>?_⟩,q3.off.past ho fun k e hk=>?_,q3.growF,q3.growE⟩
 ·have:=hF k (Or.inl z);omega
 ·have:=hF k (Or.inr z);omega
 ·omega
theorem aT(w:World)(B:Nat)(a b c d e:Value):Off (fun k=>k=B) w (((((w.setCell (aD B 0) a).setCell (aD B 1) b).setCell (aD B 2) c).setCell (aD B 3) d).setCell (aD B 4) e):=
 (((((Off.refl (fun k=>k=B) w).set (p:=⟨B,0,none⟩) rfl a).set (p:=⟨B,1,none⟩) rfl b).set (p:=⟨B,2,none⟩) rfl c).set (p:=⟨B,3,none⟩) rfl d).set (p:=⟨B,4,none⟩) rfl e
def c8Y(g:Nat)(caps:Array Value)(N R:Nat)(F E:Nat→Prop)(c:Sto.Cfg)(s:Sto.St)(D:Nat)(vt vs va:Value)(tc:List (Int×Sl))(w:World)(q x:Nat)(ds':List Sto.aL):Prop:=
 ∀w' V U,Bl w w'→StP w' N R F E c s D V U vt vs va tc→Calls prog g (#[.pointer (some (aD D (q*2)))]++caps) w' fun e w''=>a5Z e w' w'' N R F E c s D vt vs va tc x ds'
theorem tN(g:Nat)(n:Int)(w:World)(h:StP w N R F E c s D V U vt vs va tc)(hn:n<0∨(s.disks.length:Int)≤n):
  Calls prog 24 #[.pointer (some (aD R 0)),iV n,.func (.func g) #[] #[]] w fun e w'=>ChP e w w' N R F E c s D vt vs va tc 6 s.disks:=by
 have bA:=aB8 w (.cells (cS 0 0) 42);have c3:=(bA.cell (p:=⟨R,3,none⟩) (World.block_lt_of_cell? _ _ h.c3)).trans h.c3;have HH:=hd8 (iC.same h (aB8 _ _));have A0:s.disks.length≤12:=by have:=h.wf.len;have:=h.wf.d8;have:=h.wf.s4;omega
 obtain⟨L,hL⟩: ∃L,L=s.disks.length:=⟨_,rfl⟩;rw[←hL]at c3 hn A0;clear h bA hL;by_cases A2:n<0
 ·clear hn;go_enter func24,ntmps24
  go_wp2_with fail;refine bodyPost_ret (v:=dH 6 0) (by simp[results,results24,go_sem]) rfl ⟨rfl,?_⟩;exact HH.out
 ·have A1:(L:Int)≤n:=by omega
  clear hn;go_enter func24,ntmps24
  go_wp2_with fail;refine bodyPost_ret (v:=dH 6 0) (by simp[results,results24,go_sem]) rfl ⟨rfl,?_⟩;exact HH.out
theorem rY(g:Nat)(eg: ∀args w,(callFunc g args).run prog w=.ok (.enter g args) w)(q x:Nat)(ds':List Sto.aL)(w:World)(h:StP w N R F E c s D V U vt vs va tc)(hq:q<s.disks.length)(HG:c8Y g #[] N R F E c s D vt vs va tc w q x ds'):
  Calls prog 24 #[.pointer (some (aD R 0)),iV q,.func (.func g) #[] #[]] w fun e w'=>ChP e w w' N R F E c s D vt vs va tc x ds':=by
 have bA:=aB8 w (.cells (cS 0 0) 42);have VB:=aC w (cS 0 0) 42;have c3:=(bA.cell (p:=⟨R,3,none⟩) (World.block_lt_of_cell? _ _ h.c3)).trans h.c3;have HC:=HG _ V U bA (h.below bA);have A1:s.disks.length≤12:=by have:=h.wf.len;have:=h.wf.d8;have:=h.wf.s4;omega
 have A2:Hid (∀k,F k∨E k→k<w.heap.size):=fun k hk=>(show uP w N R F E c s from⟨_,_,_,_,_,_,_,h⟩).lt hk;have A3:=hd8 VB;have A4:=hd8 bA;obtain⟨L,hL⟩: ∃L,L=s.disks.length:=⟨_,rfl⟩;rw[←hL]at c3 hq A1;have A5:(q:Int)<(L:Int):=by omega
 have A6: ¬(q:Int)<0:=by omega
 clear h bA VB hL HG;go_enter func24,ntmps24
 go_wp2_with fail;refine HC.mono ?_;rintro e w2 ⟨rfl,hP⟩;have A0:aW w2 w.heap.size 42 (cS 0 0).toList:=by
  obtain⟨V',U',q1,q2⟩:=hP;exact A3.out.off q2.off fun z=>by
   have:=A2.out _ (Or.inl z);omega
 have HH:Hid (∀a b d e f,iC w (((((w2.setCell (aD w.heap.size 0) a).setCell (aD w.heap.size 1) b).setCell (aD w.heap.size 2) d).setCell (aD w.heap.size 3) e).setCell (aD w.heap.size 4) f) N R F E c s D vt vs va tc ds'):=fun a b d e f=>
  iC.local A4.out hP (aT _ _ a b d e f) (c9C _) A2.out
 have b0:=A0.q0;have b1:=A0.q1;have b2:=A0.q2;have b3:=A0.q3;have b4:=A0.q4;have f0:=A0.frozen 0;have f1:=A0.frozen 1;have f2:=A0.frozen 2;have f3:=A0.frozen 3;have f4:=A0.frozen 4;clear HC hP A0;go_wp2_with fail;refine bodyPost_ret (v:=dH (x:Nat) 0) (by simp[results,results24,go_sem,b0,b1,b2,b3,b4]) rfl ⟨rfl,?_⟩;exact HH.out _ _ _ _ _
theorem a4V(g:Nat)(k:Value)(n:Int)(w:World)(h:StP w N R F E c s D V U vt vs va tc)(hn:n<0∨(s.disks.length:Int)≤n):
  Calls prog 24 #[.pointer (some (aD R 0)),iV n,.func (.func g) #[] #[k]] w fun e w'=>ChP e w w' N R F E c s D vt vs va tc 6 s.disks:=by
 have bA:=aB8 w (.cells (cS 0 0) 42);have c3:=(bA.cell (p:=⟨R,3,none⟩) (World.block_lt_of_cell? _ _ h.c3)).trans h.c3;have HH:=hd8 (iC.same h (aB8 _ _));have A0:s.disks.length≤12:=by have:=h.wf.len;have:=h.wf.d8;have:=h.wf.s4;omega
 obtain⟨L,hL⟩: ∃L,L=s.disks.length:=⟨_,rfl⟩;rw[←hL]at c3 hn A0;clear h bA hL;by_cases A2:n<0
 ·clear hn;go_enter func24,ntmps24
  go_wp2_with fail;refine bodyPost_ret (v:=dH 6 0) (by simp[results,results24,go_sem]) rfl ⟨rfl,?_⟩;exact HH.out
 ·have A1:(L:Int)≤n:=by omega
  clear hn;go_enter func24,ntmps24
  go_wp2_with fail;refine bodyPost_ret (v:=dH 6 0) (by simp[results,results24,go_sem]) rfl ⟨rfl,?_⟩;exact HH.out
theorem a3T(g:Nat)(k:Value)(eg: ∀args w,(callFunc g args).run prog w=.ok (.enter g args) w)(q x:Nat)(ds':List Sto.aL)(w:World)(h:StP w N R F E c s D V U vt vs va tc)(hq:q<s.disks.length)(HG:c8Y g #[k] N R F E c s D vt vs va tc w q x ds'):
  Calls prog 24 #[.pointer (some (aD R 0)),iV q,.func (.func g) #[] #[k]] w fun e w'=>ChP e w w' N R F E c s D vt vs va tc x ds':=by
 have bA:=aB8 w (.cells (cS 0 0) 42);have VB:=aC w (cS 0 0) 42;have c3:=(bA.cell (p:=⟨R,3,none⟩) (World.block_lt_of_cell? _ _ h.c3)).trans h.c3;have HC:=HG _ V U bA (h.below bA);have A1:s.disks.length≤12:=by have:=h.wf.len;have:=h.wf.d8;have:=h.wf.s4;omega
 have A2:Hid (∀k,F k∨E k→k<w.heap.size):=fun k hk=>(show uP w N R F E c s from⟨_,_,_,_,_,_,_,h⟩).lt hk;have A3:=hd8 VB;have A4:=hd8 bA;obtain⟨L,hL⟩: ∃L,L=s.disks.length:=⟨_,rfl⟩;rw[←hL]at c3 hq A1;have A5:(q:Int)<(L:Int):=by omega
 have A6: ¬(q:Int)<0:=by omega
 clear h bA VB hL HG;go_enter func24,ntmps24
 go_wp2_with fail;refine HC.mono ?_;rintro e w2 ⟨rfl,hP⟩;have A0:aW w2 w.heap.size 42 (cS 0 0).toList:=by
  obtain⟨V',U',q1,q2⟩:=hP;exact A3.out.off q2.off fun z=>by
   have:=A2.out _ (Or.inl z);omega
 have HH:Hid (∀a b d e f,iC w (((((w2.setCell (aD w.heap.size 0) a).setCell (aD w.heap.size 1) b).setCell (aD w.heap.size 2) d).setCell (aD w.heap.size 3) e).setCell (aD w.heap.size 4) f) N R F E c s D vt vs va tc ds'):=fun a b d e f=>
  iC.local A4.out hP (aT _ _ a b d e f) (c9C _) A2.out
 have b0:=A0.q0;have b1:=A0.q1;have b2:=A0.q2;have b3:=A0.q3;have b4:=A0.q4;have f0:=A0.frozen 0;have f1:=A0.frozen 1;have f2:=A0.frozen 2;have f3:=A0.frozen 3;have f4:=A0.frozen 4;clear HC hP A0;go_wp2_with fail;refine bodyPost_ret (v:=dH (x:Nat) 0) (by simp[results,results24,go_sem,b0,b1,b2,b3,b4]) rfl ⟨rfl,?_⟩;exact HH.out _ _ _ _ _
end
theorem zR(ds:List Sto.aL)(l:List Nat)(k:Nat){d:Sto.aL}(hk:l[k]?=some i)(hd:ds[i]?=some d):Sto.there ds (l.take (k+1))=Sto.there ds (l.take k)+if d.gone then 0 else 1:=by
 unfold Sto.there;rw[d1Y,hk,d1O,c9I];congr 1;show(List.filter _ [i]).length=_;cases hg:d.gone
 ·rw[d1W (by rw[hd];show(!d.gone)=true;rw[hg];rfl)];rfl
 ·rw[d1N (by rw[hd];show¬(!d.gone)=true;rw[hg];decide)];rfl
theorem sB(ds:List Sto.aL)(l:List Nat):Sto.there ds l≤l.length:=d2P ..
section
variable {N R D : Nat} {F E : Nat → Prop} {c : Sto.Cfg} {s : Sto.St} {V : Nat → Value} {U : Nat → List HeC} {vt vs va : Value} {tc : List (Int × Sl)} {X : Sto.Six}
theorem b4S(v:Value)(l:List Nat)(M:Nat)(w:World)(h:StP w N R F E c s D V U vt vs va tc)(hl:iP w M v l)(hd: ∀i,i∈l→i<s.disks.length)(hln:l.length≤1000):
  Calls prog 57 #[.pointer (some (aD R 0)),v] w fun e w'=>e=.returned (iV ((Sto.there s.disks l:Nat):Int))∧w'=w:=by
 have c3:=h.c3;have A1:s.disks.length≤12:=by have:=h.wf.len;have:=h.wf.d8;have:=h.wf.s4;omega
 have HP:=hd8 h;have HD:=hd8 hd;obtain⟨A,C,hv,A0⟩:=kS hl;subst hv;have HC:=hd8 A0;obtain⟨L,hL⟩: ∃L,L=s.disks.length:=⟨_,rfl⟩;rw[←hL]at c3 A1;have HL:=hd8 hL;obtain⟨n,hn⟩: ∃n,n=l.length:=⟨_,rfl⟩;have HN:=hd8 hn;rw[←hn]at hln⊢;clear h hd hl A0 hL hn;go_enter func57,ntmps57
 go_wp2_with fail;go_loopw [5,10] (fun y x wr=> ∃k:Nat,k≤n∧x=iV k∧y=iV ((Sto.there s.disks (l.take k):Nat):Int)∧wr=w) (fun _ x _=>n-(intOf x).toNat)
 case atStart=>exact⟨0,c9D _,rfl,by rw[d2F];rfl,rfl⟩
 case round=>
  obtain⟨k,hk,rfl,rfl,rfl⟩:=hrel;have A7:Sto.there s.disks (l.take k)≤1000:=c9E (sB _ _) (by rw[c9K];omega);by_cases A6:k<n
  ·have A9:(k:Int)<(n:Int):=by omega
   have A3:k<l.length:=by rw[←HN.out];exact A6
   obtain⟨b,o,rfl,d0⟩:=HC.out k A3;obtain⟨i,hi⟩: ∃i,l[k]?=some i:=⟨l[k],c9F A3⟩;have A4:l.getD k 0=i:=by
    rw[c9R,hi];rfl
   rw[A4]at d0;have A5:=HD.out i (c9N hi);obtain⟨d,A2⟩: ∃d,s.disks[i]?=some d:=⟨s.disks[i],c9F A5⟩;have g0:=HP.out.dk.gone A2;have A8:(i:Int)<(L:Int):=by rw[HL.out];omega
   have HT:=hd8 (zR _ _ _ hi A2);generalize Sto.there s.disks (l.take k)=t at A7 HT;clear A3 hi A4 A5 A2;cases hg:d.gone with
   |true=>
    rw[hg]at g0 HT;clear hg;go_wp2_with fail;refine⟨⟨k+1,by omega,by go_num,by rw[HT.out];rfl,trivial⟩,by simp[intOf];omega⟩
   |false=>
    rw[hg]at g0 HT;clear hg;go_wp2_with fail;refine⟨⟨k+1,by omega,by go_num,by rw[HT.out];go_num,trivial⟩,by simp[intOf];omega⟩
  ·obtain rfl:k=n:=by omega
   have HT:Hid (l.take k=l):=by
    show l.take k=l;rw[HN.out,d0L]
   go_wp2_with fail;go_ret
   exact⟨by rw[HT.out];rfl,rfl⟩
theorem StP.blks(h:StP w N R F E c s D V U vt vs va tc)(k:Int):Calls prog 52 #[.pointer (some (aD R 0)),iV k] w fun e w'=>c3V e w' (Sto.aJ s.disks k)∧Bl w w':=
 a7Z R D s.disks.length N 100 k V U s.disks w h.c3 h.dk rfl (by have:=h.wf.len;have:=h.wf.d8;have:=h.wf.s4;omega) h.wf.wd (by omega)
theorem kM(ds:List Sto.aL)(k:Int):(Sto.aJ ds k).length=ds.length:=c9M ..
theorem oJ(X:Sto.Six)(ds:List Sto.aL): ∀(m k n:Nat),Sto.eJ X ds (m+1) k n=Sto.eJ X ds m k n+(X.bad (Sto.aJ ds ((k+m:Nat):Int)) (k+m)).length
 |0,k,n=>rfl
 |m+1,k,n=>by
  rw[Sto.eJ,oJ X ds m (k+1),Sto.eJ,show k+1+m=k+(m+1) by omega]
theorem pR{X:Sto.Six}(hX:Sto.dE X)(bs:List (List Nat))(k:Nat):(X.bad bs k).length≤bs.length:=by
 rw[hX.bad];exact yG ..
theorem a1R{X:Sto.Six}(hX:Sto.dE X)(ds:List Sto.aL): ∀(m:Nat),Sto.eJ X ds m 0 0≤m*ds.length
 |0=>c9D _
 |m+1=>by
  rw[oJ,d0F]
  have h1:=a1R hX ds m
  have h2:=pR hX (Sto.aJ ds ((0+m:Nat):Int)) (0+m)
  rw[kM]at h2
  omega
theorem b0Z(hX:Sto.dE X)(w:World)(h:StP w N R F E c s D V U vt vs va tc):
  Calls prog 30 #[.pointer (some (aD R 0))] w fun e w'=>e=.returned (iV ((Sto.eJ X s.disks s.segs 0 0:Nat):Int))∧Bl w w':=by
 have c4:=h.var.q4;have A4:=h.wf.segs;have A0:s.disks.length≤12:=by have:=h.wf.len;have:=h.wf.d8;have:=h.wf.s4;omega
 have HP:=hd8 h;have HX:=hd8 hX;obtain⟨n,hn⟩: ∃n,n=s.segs:=⟨_,rfl⟩;rw[←hn]at c4 A4⊢;clear h hX hn;go_enter func30,ntmps30
 go_wp2_with fail;go_loopw [3,10] (fun y x wr=> ∃k:Nat,k≤n∧x=iV k∧y=iV ((Sto.eJ X s.disks k 0 0:Nat):Int)∧Bl w wr) (fun _ x _=>n-(intOf x).toNat)
 case atStart=>exact⟨0,c9D _,rfl,rfl,Below.refl _ _⟩
 case round=>
  obtain⟨k,hk,rfl,rfl,hb⟩:=hrel;have A5:Sto.eJ X s.disks k 0 0≤1000:=by
   have h1:=a1R HX.out s.disks k;have h2:k*s.disks.length≤40*12:=d0Y (by omega) A0;omega
  by_cases Aa:k<n
  ·have A7:(k:Int)<(n:Int):=by omega
   have HB:=(HP.out.below hb).blks (k:Int);have HT:Hid (Sto.eJ X s.disks (k+1) 0 0=Sto.eJ X s.disks k 0 0+(X.bad (Sto.aJ s.disks (k:Int)) k).length):=by
    have:=oJ X s.disks k 0 0;rw[c9G]at this;exact this
   have A8:(X.bad (Sto.aJ s.disks (k:Int)) k).length≤12:=by
    have:=pR HX.out (Sto.aJ s.disks (k:Int)) k;rw[kM]at this;omega
   have A3:Hid (∀v' w',Lls w' v' (Sto.aJ s.disks (k:Int)).length (Sto.f9 (Sto.aJ s.disks (k:Int))) (Sto.eP (Sto.aJ s.disks (k:Int)))→Calls prog 53 #[v',iV k] w' fun e w2=> ∃A C,e=.returned (.slice A (X.bad (Sto.aJ s.disks (k:Int)) k).length C)∧Bl w' w2):=fun v' w' hL=>by
    refine(a9C HX.out v' _ k w' hL (by rw[kM];exact A0)).mono ?_;rintro e w2 ⟨v2,rfl,A9,A6⟩;obtain⟨A,C,hv,_⟩:=kS A9;exact⟨A,C,by rw[hv],A6⟩
   generalize (X.bad (Sto.aJ s.disks (k:Int)) k).length=t at HT A8 A3;generalize Sto.eJ X s.disks k 0 0=z at A5 HT;go_wp2_with fail;refine HB.mono ?_;rintro e w1 ⟨⟨v1,rfl,A2⟩,b1⟩;have H2:=A3.out v1 w1 A2;obtain⟨A1,C1,rfl⟩:=A2.shape;clear HB A3 A2;go_wp2_with fail;refine H2.mono ?_;rintro e w2 ⟨A,C,rfl,b2⟩;clear H2;go_wp2_with fail;exact⟨⟨k+1,by omega,by go_num,by rw[HT.out];go_num,bt hb (bt b1 b2)⟩,by simp[intOf];omega⟩
  ·obtain rfl:k=n:=by omega
   go_wp2_with fail;go_ret
   exact⟨rfl,hb⟩
end
theorem WfD.write(h:WfD ds m)(hk:k<m)(L:List (List Nat)):WfD (Sto.write k L 0 ds) m:=fun i d hi=>by
 rw[Sto.kW]at hi
 obtain⟨e,he,rfl⟩:=c9J.1 hi
 obtain⟨h1,h2,h3⟩:=h i e he
 by_cases q:e.gone=true
 ·rw[if_pos q]
  exact⟨h1,h2,h3⟩
 ·rw[if_neg q]
  refine⟨Sto.zP h1,fun x hx=>?_,fun z=>by cases z⟩
  rcases Sto.a3J h1 hx with rfl|⟨z,_⟩
  ·show 0≤(k:Int)∧(k:Int)<(m:Int)
   omega
  ·exact h2 x z
section
variable {w w0 w1 w2 : World} {N R D : Nat} {F F' E : Nat → Prop} {c : Sto.Cfg} {s : Sto.St} {V : Nat → Value} {U : Nat → List HeC} {vt vs va : Value} {tc : List (Int × Sl)} {X : Sto.Six}
theorem StP.wider(h:StP w N R F E c s D V U vt vs va tc)(hF: ∀k,F k→F' k)(hF': ∀k,F' k→F k∨(N≤k∧k<w.heap.size∧ ¬E k)):StP w N R F' E c s D V U vt vs va tc:=
 ⟨h.var,h.ge,h.dk,h.tail,h.seen,h.acc,hF _ h.fR,hF _ h.fD,fun i g hi hg=>hF _ (h.fV i g hi hg),fun i x g hi hx hg=>hF _ (h.fU i x g hi hx hg),fun g hg=>hF _ (h.fT g hg),fun g hg=>hF _ (h.fS g hg),fun k hk=>by
  rcases hF' k hk with q|⟨q1,q2,_⟩
  ·exact h.lt k q
  ·exact⟨q1,q2⟩,fun k hk=>⟨fun z=>by
  rcases hF' k z with q|⟨_,_,q⟩
  ·exact(h.dis k hk).1 q
  ·exact q hk,(h.dis k hk).2⟩,h.wf⟩
theorem StP.small(h:StP w N R F E c s D V U vt vs va tc):1≤s.disks.length∧s.disks.length≤12:=by
 have h1:=h.wf.len;have h2:=h.wf.d8;have h3:=h.wf.s4;have h4:=h.wf.d1;omega
def c8M(e:Ending)(w0 w2:World)(N R:Nat)(F E:Nat→Prop)(c:Sto.Cfg)(s:Sto.St)(D:Nat)(vt vs va:Value)(tc:List (Int×Sl))(ds':List Sto.aL):Prop:=e=.returned (.tuple #[])∧ ∃F' V' U',StP w2 N R F' E c {s with disks:=ds'} D V' U' vt vs va tc∧dS w0 w2 F F' E E
theorem a2V(h:StP w0 N R F E c s D V U vt vs va tc)(b1:Bl w0 w1){L:List (List Nat)}{Y:Nat→Sl}(hL:iB w1 w0.heap.size vl L Y)(hLn:L.length=s.disks.length)(k:Nat)(hk:k<100)(hNw:N≤w0.heap.size):
  Calls prog 56 #[.pointer (some (aD R 0)),iV k,vl] w1 fun e w2=>c8M e w0 w2 N R F E c s D vt vs va tc (Sto.write k L 0 s.disks):=by
 have h1:=h.below b1;obtain⟨n1,A6⟩:=h.small;have A3: ∀(i:Nat) (x:HeC) (g:Nat),i<s.disks.length→x∈U i→(slV x.2.1).ownBlock=some g→g<w0.heap.size:=fun i x g hi hx hg=>(h.lt g (h.fU i x g hi hx hg)).2;have A0: ∀(j g:Nat),j<s.disks.length→(slV (Y j)).ownBlock=some g→w0.heap.size≤g:=fun j g hj hg=>(hL.byt j (by omega)).ge hg;have A2: ∀(j g:Nat),j<s.disks.length→(slV (Y j)).ownBlock=some g→g<w1.heap.size:=fun j g hj hg=>hL.lt (by omega) hg
 refine(c0T R D s.disks.length N 100 k V U s.disks L Y vl w0.heap.size w1 h1.var.ty h1.c3 h1.dk rfl n1 A6 h.wf.wd (by omega) hL hLn hNw (c9E hNw b1.size) (fun i j x g hi hj hx hg e=>by
  have z1:=A3 i x g hi hx hg;have z2:=A0 j g hj e
  omega)).mono ?_
 rintro e w2 ⟨rfl,V',U',hS⟩;refine⟨rfl,fun k=>F k∨(w0.heap.size≤k∧k<w2.heap.size),V',U',?_⟩;have A5:=hS.off.size;have A1:StP w1 N R (fun k=>F k∨(w0.heap.size≤k∧k<w1.heap.size)) E c s D V U vt vs va tc:=h1.wider (fun _ q=>Or.inl q) fun k q=>by
  rcases q with q|⟨q1,q2⟩
  ·exact Or.inl q
  ·exact Or.inr ⟨c9E hNw q1,q2,fun z=>absurd (h.dis k z).2 (Nat.not_lt.2 q1)⟩
 have A4:dM w2 N D V' U' (Sto.write k L 0 s.disks):=by
  have:=hS.dk;rw[show(Sto.write k L 0 s.disks).take s.disks.length=Sto.write k L 0 s.disks from List.take_of_length_le (by rw[Sto.cI];exact c9C _),d0T,d0W]at this;exact this
 have H:=A1.disks (F':=fun k=>F k∨(w0.heap.size≤k∧k<w2.heap.size)) hS.off (fun b q=>?_) A4 (Sto.cI ..) (fun b q=>?_) (fun b q=>?_) (c9E hNw b1.size) (fun i g hi hg=>?_) (fun i x g hi hx hg=>?_) ⟨by show(Sto.write k L 0 s.disks).length=_;rw[Sto.cI];exact h.wf.len,h.wf.d1,h.wf.d8,h.wf.s4,h.wf.b1,h.wf.b10,h.wf.wd.write hk L,h.wf.segs,h.wf.tail,h.wf.bats,h.wf.up,h.wf.cmds,h.wf.right⟩
 ·refine⟨H.1,⟨(Off.of_below b1).trans (hS.off.wider fun b q=>?_),fun b q=>?_,fun _ q=>Or.inl q⟩⟩
  ·rcases q with rfl|⟨i,hi,q⟩
   ·exact h.fD
   ·exact h.fV i b hi q
  ·rcases q with q|⟨q,_⟩
   ·exact Or.inl q
   ·exact Or.inr q
 ·rcases q with rfl|⟨i,hi,q⟩
  ·exact⟨Or.inl h.fD,_,h1.dk.row.ty,Or.inl rfl⟩
  ·exact⟨Or.inl (h.fV i b hi q),_,aU (h1.dk.own i hi) q,Or.inr (Or.inl rfl)⟩
 ·rcases q with q|⟨q1,q2⟩
  ·exact Or.inl q
  ·exact Or.inr ⟨q1,c9P q2 A5⟩
 ·rcases q with q|⟨q1,q2⟩
  ·exact Or.inl (Or.inl q)
  ·by_cases z:b<w1.heap.size
   ·exact Or.inl (Or.inr ⟨q1,z⟩)
   ·exact Or.inr ⟨Nat.not_lt.1 z,q2⟩
 ·rcases hS.newV i g hi hg with q|q
  ·exact Or.inl (h.fV i g hi q)
  ·exact Or.inr ⟨c9E b1.size q,A4.Vlt (by rw[Sto.cI];exact hi) hg⟩
 ·rcases hS.newU i x g hi hx hg with⟨y,hy,q⟩|⟨_,q⟩
  ·exact Or.inl (h.fU i y g hi hy q)
  ·exact Or.inr ⟨A0 i g hi q,c9P (A2 i g hi q) A5⟩
end
def orE(a b:Nat):Nat:=if a=0 then b else a
theorem c8B(a b p:Nat)(w:World)(c0:w.cell? (aD p 0)=some (iV a))(c1:w.cell? (aD p 1)=some (iV b)):
  Calls prog 55 #[.slice (some (aD p 0)) 2 2] w fun e w'=>e=.returned (iV ((orE a b:Nat):Int))∧w'=w:=by
 by_cases ha:a=0
 ·by_cases hb:b=0
  ·subst ha;subst hb;have HO:Hid (orE 0 0=0):=rfl;go_enter func55,ntmps55
   go_wp2_with fail;go_loopw [8] (fun x wr=> ∃k:Nat,k≤2∧x=iV k∧wr=w) (fun x _=>2-(intOf x).toNat)
   case atStart=>exact⟨0,c9D _,rfl,rfl⟩
   case round=>
    obtain⟨k,hk,rfl,rfl⟩:=hrel;rcases(show k=0∨k=1∨k=2 by omega)with rfl|rfl|rfl
    ·go_wp2_with fail;exact⟨⟨1,by omega,rfl,trivial⟩,by simp[intOf]⟩
    ·go_wp2_with fail;exact⟨⟨2,by omega,rfl,trivial⟩,by simp[intOf]⟩
    ·go_wp2_with fail;go_ret
     exact⟨rfl,rfl⟩
  ·subst ha;have HO:Hid (orE 0 b=b):=rfl;have A0:((b:Int) !=0)=true:=by rw[bne_iff_ne];omega
   clear hb;go_enter func55,ntmps55
   go_wp2_with fail;go_loopw [8] (fun x wr=> ∃k:Nat,k≤1∧x=iV k∧wr=w) (fun x _=>2-(intOf x).toNat)
   case atStart=>exact⟨0,c9D _,rfl,rfl⟩
   case round=>
    obtain⟨k,hk,rfl,rfl⟩:=hrel;rcases(show k=0∨k=1 by omega)with rfl|rfl
    ·go_wp2_with fail;exact⟨⟨1,by omega,rfl,trivial⟩,by simp[intOf]⟩
    ·go_wp2_with fail;go_ret
     exact⟨by rw[HO.out];rfl,rfl⟩
 ·have HO:Hid (orE a b=a):=if_neg ha;have A1:((a:Int) !=0)=true:=by rw[bne_iff_ne];omega
  clear ha;go_enter func55,ntmps55
  go_wp2_with fail;go_loopw [8] (fun x wr=>x=iV 0∧wr=w) (fun x _=>2-(intOf x).toNat)
  case atStart=>exact⟨rfl,rfl⟩
  case round=>
   obtain⟨rfl,rfl⟩:=hrel;go_wp2_with fail;go_ret
   exact⟨by rw[HO.out];rfl,rfl⟩
def kG(X:Sto.Six)(c:Sto.Cfg)(j:Nat)(r:List Sto.aL×Nat×Nat):List Sto.aL×Nat×Nat:=
 if X.bad (Sto.aJ r.1 j) j=[]then r
 else if (X.mend (Sto.aJ r.1 j) j c).1≠0 then(r.1,orE r.2.1 (X.mend (Sto.aJ r.1 j) j c).1,r.2.2)
 else(Sto.write j (X.mend (Sto.aJ r.1 j) j c).2 0 r.1,r.2.1,r.2.2+Sto.there r.1 (X.bad (Sto.aJ r.1 j) j))
theorem iY(X:Sto.Six)(c:Sto.Cfg): ∀(m k:Nat) (ds:List Sto.aL) (e n:Nat),Sto.aN X c (m+1) k ds e n=kG X c (k+m) (Sto.aN X c m k ds e n)
 |0,k,ds,e,n=>by
  show Sto.aN X c 1 k ds e n=kG X c k (ds,e,n)
  unfold kG orE
  rw[Sto.aN]
  by_cases h1:X.bad (Sto.aJ ds k) k=[]
  ·rw[if_pos h1,if_pos h1]
   rfl
  ·rw[if_neg h1,if_neg h1]
   by_cases h2:(X.mend (Sto.aJ ds k) k c).1≠0
   ·rw[if_pos h2,if_pos h2]
    rfl
   ·rw[if_neg h2,if_neg h2]
    rfl
 |m+1,k,ds,e,n=>by
  by_cases h1:X.bad (Sto.aJ ds k) k=[]
  ·have e1: ∀j,Sto.aN X c (j+1) k ds e n=Sto.aN X c j (k+1) ds e n:=fun j=>by rw[Sto.aN,if_pos h1]
   rw[e1,e1,iY X c m (k+1),show k+1+m=k+(m+1) by omega]
  ·by_cases h2:(X.mend (Sto.aJ ds k) k c).1≠0
   ·have e1: ∀j,Sto.aN X c (j+1) k ds e n=Sto.aN X c j (k+1) ds (if e=0 then(X.mend (Sto.aJ ds k) k c).1 else e) n:=fun j=>by rw[Sto.aN,if_neg h1,if_pos h2]
    rw[e1,e1,iY X c m (k+1),show k+1+m=k+(m+1) by omega]
   ·have e1: ∀j,Sto.aN X c (j+1) k ds e n=Sto.aN X c j (k+1) (Sto.write k (X.mend (Sto.aJ ds k) k c).2 0 ds) e (n+Sto.there ds (X.bad (Sto.aJ ds k) k)):=fun j=>by rw[Sto.aN,if_neg h1,if_neg h2]
    rw[e1,e1,iY X c m (k+1),show k+1+m=k+(m+1) by omega]
theorem mE(X:Sto.Six)(c:Sto.Cfg)(ds:List Sto.aL): ∀m:Nat,(Sto.aN X c m 0 ds 0 0).1.length=ds.length
 |0=>rfl
 |m+1=>by
  rw[iY]
  unfold kG
  split
  ·exact mE X c ds m
  ·split
   ·exact mE X c ds m
   ·show(Sto.write _ _ 0 _).length=_
    rw[Sto.cI]
    exact mE X c ds m
theorem a6S(hX:Sto.dE X)(c:Sto.Cfg)(ds:List Sto.aL): ∀m:Nat,(Sto.aN X c m 0 ds 0 0).2.2≤m*ds.length
 |0=>c9D _
 |m+1=>by
  have ih:=a6S hX c ds m
  have hl:=mE X c ds m
  rw[iY,d0F]
  unfold kG
  split
  ·omega
  ·split
   ·show(Sto.aN X c m 0 ds 0 0).2.2≤_
    omega
   ·show(Sto.aN X c m 0 ds 0 0).2.2+Sto.there _ _≤_
    have h1:=sB (Sto.aN X c m 0 ds 0 0).1 (X.bad (Sto.aJ (Sto.aN X c m 0 ds 0 0).1 ((0+m:Nat):Int)) (0+m))
    have h2:=pR hX (Sto.aJ (Sto.aN X c m 0 ds 0 0).1 ((0+m:Nat):Int)) (0+m)
    rw[kM]at h2
    omega
theorem a5S(k:Int)(L:List (List Nat))(ds:List Sto.aL)(l:List Nat):Sto.there (Sto.write k L 0 ds) l=Sto.there ds l:=by
 unfold Sto.there;congr 1;refine List.filter_congr fun i _=>?_;have h:=Sto.a9Y k L ds i;cases h1:(Sto.write k L 0 ds)[i]? with
 |none=>
  cases h2:ds[i]? with
  |none=>rfl
  |some d=>
   rw[h1,h2]at h;cases h
 |some a=>
  cases h2:ds[i]? with
  |none=>
   rw[h1,h2]at h;cases h
  |some d=>
   rw[h1,h2]at h;have h:some a.gone=some d.gone:=h;show(!a.gone)=!d.gone;rw[Option.some.inj h]
theorem b3H(hX:Sto.dE X){bs:List (List Nat)}(h:i∈X.bad bs k):i<bs.length:=by
 rw[hX.bad]at h;exact d0D.1 (d0Z.1 h).1
theorem a6Z(hX:Sto.dE X){bs:List (List Nat)}{c:Sto.Cfg}(h:(X.mend bs k c).1=0):(X.mend bs k c).2.length=c.d+c.s:=by
 rw[hX.mend]at h⊢;by_cases q:(X.read bs k c).1≠0
 ·rw[if_pos q]at h;exact absurd h q
 ·rw[if_neg q]at h⊢;exact(Sto.oP (show Sto.lZ (X.read bs k c).2 k c=(0,(Sto.lZ (X.read bs k c).2 k c).2)from Prod.ext h rfl)).2.1
structure ScP(w wr:World)(N R:Nat)(F E F':Nat→Prop)(c:Sto.Cfg)(s:Sto.St)(D:Nat)(V:Nat→Value)(U:Nat→List HeC)(vt vs va:Value)(tc:List (Int×Sl))(r:List Sto.aL×Nat×Nat):Prop where
 st:StP wr N R F' E c {s with disks:=r.1} D V U vt vs va tc
 fr:dS w wr F F' E E
 no: ∀k,k=w.heap.size∨k=w.heap.size+1→ ¬F' k∧ ¬E k
 a0:aW wr w.heap.size 42 (cS 0 0).toList
 a1:aW wr (w.heap.size+1) 42 (cS (r.2.1:Nat) (r.2.2:Nat)).toList
def ScS(w wr:World)(N R:Nat)(F E:Nat→Prop)(c:Sto.Cfg)(s:Sto.St)(D:Nat)(vt vs va:Value)(tc:List (Int×Sl))(r:List Sto.aL×Nat×Nat):Prop:= ∃F' V U,ScP w wr N R F E F' c s D V U vt vs va tc r
section
variable {w wr w' : World} {N R D : Nat} {F E F' : Nat → Prop} {c : Sto.Cfg} {s : Sto.St} {V : Nat → Value} {U : Nat → List HeC} {vt vs va : Value} {tc : List (Int × Sl)} {r : List Sto.aL × Nat × Nat}
theorem ScP.below(h:ScP w wr N R F E F' c s D V U vt vs va tc r)(hb:Bl wr w'):ScP w w' N R F E F' c s D V U vt vs va tc r:=
 ⟨h.st.below hb,h.fr.trans (dS.of_below F' E hb),h.no,h.a0.below hb,h.a1.below hb⟩
theorem ScP.room(h:ScP w wr N R F E F' c s D V U vt vs va tc r):w.heap.size+1<wr.heap.size:=h.a1.ty.lt
theorem ScP.put(h:ScP w wr N R F E F' c s D V U vt vs va tc r)(i:Nat)(v:Value)(e n:Nat)(hi:(cS (r.2.1:Nat) (r.2.2:Nat)).toList.set i v=(cS (e:Nat) (n:Nat)).toList)(hi5:i<5):ScP w (wr.setCell (aD (w.heap.size+1) i) v) N R F E F' c s D V U vt vs va tc (r.1,e,n):=by
 have ho:=aG wr (aD (w.heap.size+1) i) v;refine⟨h.st.out ho fun k q=>h.no k (Or.inr q),⟨h.fr.off.past ho fun k q hk=>?_,h.fr.growF,h.fr.growE⟩,h.no,h.a0.off ho (fun q=>?_),?_⟩
 ·have q:k=w.heap.size+1:=q;omega
 ·have q:w.heap.size=w.heap.size+1:=q;omega
 ·have:=h.a1.set i v (by simpa using hi5);rw[hi]at this;exact this
theorem ScP.held(h:ScP w wr N R F E F' c s D V U vt vs va tc r){F2:Nat→Prop}(hs:StP w' N R F2 E c {s with disks:=ds'} D V2 U2 vt vs va tc)(hf:dS wr w' F' F2 E E):ScP w w' N R F E F2 c s D V2 U2 vt vs va tc (ds',r.2):=by
 have hr:=h.room;refine⟨hs,h.fr.trans hf,fun k q=>⟨fun z=>?_,(h.no k q).2⟩,h.a0.off hf.off (h.no _ (Or.inl rfl)).1,h.a1.off hf.off (h.no _ (Or.inr rfl)).1⟩;rcases hf.growF k z with y|y
 ·exact(h.no k q).1 y
 ·omega
end
theorem b7U{c:Sto.Cfg}{tc:List (Int×Sl)}(hX:Sto.dE X)(w:World)(h:StP w N R F E c s D V U vt vs va tc)(hNw:N≤w.heap.size):
  Calls prog 29 #[.pointer (some (aD R 0))] w fun e w'=>e=.returned (dH ((Sto.aN X c s.segs 0 s.disks 0 0).2.1:Nat) ((Sto.aN X c s.segs 0 s.disks 0 0).2.2:Nat))∧ ∃F' V' U',StP w' N R F' E c {s with disks:=(Sto.aN X c s.segs 0 s.disks 0 0).1} D V' U' vt vs va tc∧dS w w' F F' E E:=by
 have bA:Bl w (w.alloc (.cells (cS 0 0) 42)):=(Below.refl _ _).alloc (c9C _) _;have bB:Bl (w.alloc (.cells (cS 0 0) 42)) ((w.alloc (.cells (cS 0 0) 42)).alloc (.cells (cS 0 0) 42)):=(Below.refl _ _).alloc (c9C _) _;have V0:=(aC w (cS 0 0) 42).below bB;have V1:=aC (w.alloc (.cells (cS 0 0) 42)) (cS 0 0) 42;have sz:(w.alloc (.cells (cS 0 0) 42)).heap.size=w.heap.size+1:=by simp
 have Bm:((w.alloc (.cells (cS 0 0) 42)).alloc (.cells (cS 0 0) 42)).heap.size=w.heap.size+2:=by simp
 rw[sz]at V1;have b2:=bt bA bB;have B7:Hid (∀k,F k∨E k→k<w.heap.size):=fun k hk=>(show uP w N R F E c s from⟨_,_,_,_,_,_,_,h⟩).lt hk;have A3:Hid (WfS c s):=h.wf
 have Ax:Hid (ScS w ((w.alloc (.cells (cS 0 0) 42)).alloc (.cells (cS 0 0) 42)) N R F E c s D vt vs va tc (Sto.aN X c 0 0 s.disks 0 0)):=⟨F,V,U,h.below b2,dS.of_below _ _ b2,fun k q=>⟨fun z=>by
  have:=B7.out k (Or.inl z);omega,fun z=>by
  have:=B7.out k (Or.inr z)
  omega⟩,V0,V1⟩
 have c4:=(h.below b2).var.q4;have Bi:=h.wf.segs;have HX:Hid (Sto.dE X):=hX;have Bf:=hd8 b2;obtain⟨n,hn⟩: ∃n,n=s.segs:=⟨_,rfl⟩;rw[←hn]at c4 Bi;have Ba:=hd8 hn;clear h hX hn V0 V1 bA bB sz Bm b2;go_enter func29,ntmps29
 go_wp2_with fail;generalize (w.alloc (.cells (cS 0 0) 42)).alloc (.cells (cS 0 0) 42)=W2 at c4 Ax Bf⊢;go_loopw [14] (fun x wr=> ∃k:Nat,k≤n∧x=iV k∧Hid (ScS w wr N R F E c s D vt vs va tc (Sto.aN X c k 0 s.disks 0 0))) (fun x _=>n-(intOf x).toNat)
 case atStart=>exact⟨0,c9D _,rfl,Ax.out⟩
 case round=>
  obtain⟨k,hk,rfl,HS⟩:=hrel;by_cases Bn:k<n
  ·have Be:(k:Int)<(n:Int):=by omega
   obtain⟨F',V',U',hS⟩:=HS.out;obtain⟨r,hr⟩: ∃r,r=Sto.aN X c k 0 s.disks 0 0:=⟨_,rfl⟩;have B6:Hid (Sto.aN X c (k+1) 0 s.disks 0 0=kG X c k r):=by
    show Sto.aN X c (k+1) 0 s.disks 0 0=kG X c k r;rw[iY,c9G,hr]
   have A7:r.1.length=s.disks.length:=by rw[hr];exact mE ..
   have B2:r.2.2≤1000:=by
    have h1:=a6S HX.out c s.disks k;have h2:=A3.out.len;have h3:=A3.out.d8;have h4:=A3.out.s4;have h5:k*s.disks.length≤40*12:=d0Y (by omega) (by omega);rw[hr];omega
   rw[←hr]at hS;obtain⟨ds,e,m⟩:=r;have B2:m≤1000:=B2;have A7:ds.length=s.disks.length:=A7;have A6:Hid (ds.length=c.d+c.s):=by
    show ds.length=c.d+c.s;rw[A7];exact A3.out.len
   have Aw:=hd8 hS;have HB:=hS.st.blks (k:Int);have HB:Calls prog 52 #[.pointer (some (aD R 0)),iV k] wr fun e w'=>c3V e w' (Sto.aJ ds (k:Int))∧Bl wr w':=HB;have Ac:Hid ((Sto.aJ ds (k:Int)).length=c.d+c.s):=by
    show(Sto.aJ ds (k:Int)).length=c.d+c.s;rw[kM];exact A6.out
   obtain⟨bs,Ao⟩: ∃bs,bs=Sto.aJ ds (k:Int):=⟨_,rfl⟩;have Ab:Hid (Sto.aN X c (k+1) 0 s.disks 0 0=if X.bad bs k=[]then(ds,e,m)else if (X.mend bs k c).1≠0 then(ds,orE e (X.mend bs k c).1,m)else(Sto.write k (X.mend bs k c).2 0 ds,e,m+Sto.there ds (X.bad bs k))):=by
    show Sto.aN X c (k+1) 0 s.disks 0 0=_;rw[B6.out,Ao];rfl
   rw[←Ao]at HB Ac;clear hr A7 hS B6 HS Ao;go_wp2_with fail;refine HB.mono ?_;rintro e1 w1 ⟨⟨v1,rfl,Al⟩,b1⟩;have Bg:Hid (∀g,F' g→g<w1.heap.size):=fun g z=>c9P (Aw.out.st.lt g z).2 b1.size;have Av:=a9C HX.out v1 bs k w1 Al (by have:=Ac.out;have:=A3.out.d8;have:=A3.out.s4;omega);have Ap:=hd8 fun w' hb'=>b6B HX.out v1 bs k c w' (Al.below hb') Ac.out A3.out.d8 A3.out.s4;obtain⟨A1,C1,B0⟩:=Al.shape;rw[B0]at Av Ap⊢;clear HB Al B0;go_wp2_with fail;refine Av.mono ?_;rintro e2 w2 ⟨v2,rfl,Ar,b2⟩;have Af:Hid (∀i,i∈X.bad bs k→i<ds.length):=fun i hi=>by
    have:=b3H HX.out hi;rw[Ac.out]at this;rw[A6.out];exact this
   have B5:(X.bad bs k).length≤12:=by
    have:=pR HX.out bs k;have:=Ac.out;have:=A3.out.d8;have:=A3.out.s4;omega
   obtain⟨A2,C2,Bb,_⟩:=kS Ar;have A9:=hd8 Ar;have Ak:=Aw.out.below (bt b1 b2);have HM:=Ap.out w2 b2;subst Bb;obtain⟨A0,Ag⟩: ∃A0,A0=X.bad bs k:=⟨_,rfl⟩;rw[←Ag]at A9 Af Ab B5⊢;clear Av Ap Ar Ag Aw b1 b2;by_cases hz:A0=[]
   ·subst hz;have HD:Hid (ScS w w2 N R F E c s D vt vs va tc (Sto.aN X c (k+1) 0 s.disks 0 0)):=by
     show ScS w w2 N R F E c s D vt vs va tc (Sto.aN X c (k+1) 0 s.disks 0 0);rw[Ab.out,if_pos rfl];exact⟨_,_,_,Ak⟩
    clear HM A9 Af;go_wp2_with fail;exact⟨⟨k+1,by omega,by go_num,HD.out⟩,by simp[intOf];omega⟩
   ·have B3:((A0.length:Nat):Int)≠0:=by
     have:=List.length_pos_iff.2 hz;omega
    have Bh:(((A0.length:Nat):Int)==0)=false:=by rw[beq_eq_false_iff_ne];exact B3
    have HZ:=hd8 hz;have c0:=Ak.st.var.q0;obtain⟨Ae,Aa⟩: ∃Ae,Ae=A0.length:=⟨_,rfl⟩;rw[←Aa]at Bh A9 B5⊢;have B9:=hd8 Aa;have A5:=hd8 Ak;clear hz B3 Aa Ak;go_wp2_with fail;refine HM.mono ?_;rintro e3 w3 ⟨⟨v3,rfl,Ad⟩,b3⟩;have Am:=A5.out.below b3;obtain⟨x,hx⟩: ∃x,x=(X.mend bs k c).1:=⟨_,rfl⟩;have Aj:=hd8 hx;rw[←hx]at Ad⊢;clear HM hx;by_cases An:x=0
    ·subst An;obtain⟨Y,hY⟩: ∃Y,iB w3 w2.heap.size v3 (X.mend bs k c).2 Y:=by
      rcases Ad with⟨_,q⟩|⟨q,_⟩
      ·exact q
      ·exact absurd rfl q
     have Au:(X.mend bs k c).2.length=ds.length:=by rw[a6Z HX.out Aj.out.symm,A6.out]
     have As:=c9E hNw A5.out.fr.off.size;have HH:=a2V A5.out.st b3 hY Au k (by omega) As;have Ah:Hid (Sto.aN X c (k+1) 0 s.disks 0 0=(Sto.write k (X.mend bs k c).2 0 ds,e,m+Sto.there ds A0)):=by
      show Sto.aN X c (k+1) 0 s.disks 0 0=_;rw[Ab.out,if_neg HZ.out,if_neg (fun z=>z Aj.out.symm)]
     obtain⟨b9,c9,Az,_⟩:=hY.at (by rw[Au,A6.out];have:=A3.out.d1;omega);rw[Az]at HH⊢;obtain⟨L,hL⟩: ∃L,L=(X.mend bs k c).2:=⟨_,rfl⟩;rw[←hL]at HH Ah⊢;clear Ad hY Az Am Au Ab hL;go_wp2_with fail;refine HH.mono ?_;rintro e4 w4 ⟨rfl,F2,V2,U2,Aq,At⟩;have A4:=A5.out.held Aq At;have Ay:iP w4 w1.heap.size (.slice A2 Ae C2) A0:=bC A9.out At.off fun g hg z=>by
      have z1:=Bg.out g z;have z2:=(A9.out.lt g hg).1;omega
     have bD:Bl w4 w4.drew:=(Below.refl _ _).drew;have HT:=b4S (.slice A2 Ae C2) A0 w1.heap.size w4.drew (Aq.below bD) (aK Ay bD) (fun i hi=>by show i<(Sto.write k L 0 ds).length;rw[Sto.cI];exact Af.out i hi) (by rw[←B9.out];omega);have Bj:Sto.there ds A0≤12:=by
      have:=sB ds A0;have:=B9.out;omega
     have HT:Calls prog 57 #[.pointer (some (aD R 0)),.slice A2 Ae C2] {w4 with A8:=w4.drawn+1} fun e w'=>e=.returned (iV ((Sto.there ds A0:Nat):Int))∧w'={w4 with A8:=w4.drawn+1}:=by
      have e9:Sto.there (Sto.write k L 0 ds) A0=Sto.there ds A0:=a5S _ _ _ _;rw[←e9];exact HT
     have Ai:=A4.below bD;have d0:=A4.a1.q1;have f2:=A4.a1.frozen 1;have d1:({w4 with A8:=w4.drawn+1}:World).cell? (aD (w.heap.size+1) 1)=some (iV m):=Ai.a1.q1;have f1:=Ai.a1.frozen 1;obtain⟨t,ht⟩: ∃t,t=Sto.there ds A0:=⟨_,rfl⟩;rw[←ht]at HT Ah Bj;have HD:Hid (ScS w (w4.drew.setCell (aD (w.heap.size+1) 1) (iV ((m+t:Nat):Int))) N R F E c s D vt vs va tc (Sto.aN X c (k+1) 0 s.disks 0 0)):=by
      show ScS w _ N R F E c s D vt vs va tc (Sto.aN X c (k+1) 0 s.disks 0 0);rw[Ah.out];exact⟨_,_,_,Ai.put 1 _ e (m+t) rfl (by decide)⟩
     have B8:((m+t:Nat):Int)=(m:Int)+(t:Int):=by omega
     rw[B8]at HD;clear HH Aq At A4 Ai Ay A9 Af ht bD B8;go_wp2_with fail;refine wp_region_still_tail 7 (by kernel_rfl) (by kernel_rfl) ?_;simp only[List.take_succ_cons,List.take_zero,List.drop_succ_cons,List.drop_zero];iterate 4 still_step
     still_call HT
     iterate 2 still_step
     refine wpStill_nil ?_;go_wp2_with fail;exact⟨⟨k+1,by omega,by go_num,HD.out⟩,by simp[intOf];omega⟩
    ·have Bc:v3=nS:=by
      rcases Ad with⟨q,_⟩|⟨_,q⟩
      ·exact absurd q An
      ·exact q
     subst Bc;have Bo:((x:Int) !=0)=true:=by rw[bne_iff_ne];omega
     have Ah:Hid (Sto.aN X c (k+1) 0 s.disks 0 0=(ds,orE e x,m)):=by
      show Sto.aN X c (k+1) 0 s.disks 0 0=_;rw[Ab.out,if_neg HZ.out,if_pos (by rw[←Aj.out];exact An),Aj.out]
     have bE:=aB8 w3 (.cells #[iV e,iV x] 34);have VE:=aO w3 34 (iV e) (iV x);have HO:=c8B e x w3.heap.size _ VE.c0 VE.c1;have A4:=Am.below bE;have e0:=Am.a1.q0;have e1:=A4.a1.q0;have f0:=A4.a1.frozen 0;have HD:Hid (ScS w ((w3.alloc (.cells #[iV e,iV x] 34)).setCell (aD (w.heap.size+1) 0) (iV ((orE e x:Nat):Int))) N R F E c s D vt vs va tc (Sto.aN X c (k+1) 0 s.disks 0 0)):=by
      show ScS w _ N R F E c s D vt vs va tc (Sto.aN X c (k+1) 0 s.disks 0 0);rw[Ah.out];exact⟨_,_,_,A4.put 0 _ (orE e x) m rfl (by decide)⟩
     clear Ad An Am A4 VE Ab A9 Af;go_wp2_with fail;refine HO.mono ?_;rintro e4 w4 ⟨rfl,rfl⟩;clear HO;go_wp2_with fail;exact⟨⟨k+1,by omega,by go_num,HD.out⟩,by simp[intOf];omega⟩
  ·obtain rfl:k=n:=by omega
   obtain⟨F',V',U',hS⟩:=HS.out;have Bk:Hid (∀a b d e f,∃F' V' U',StP (((((wr.setCell (aD w.heap.size 0) a).setCell (aD w.heap.size 1) b).setCell (aD w.heap.size 2) d).setCell (aD w.heap.size 3) e).setCell (aD w.heap.size 4) f) N R F' E c {s with disks:=(Sto.aN X c k 0 s.disks 0 0).1} D V' U' vt vs va tc∧dS w (((((wr.setCell (aD w.heap.size 0) a).setCell (aD w.heap.size 1) b).setCell (aD w.heap.size 2) d).setCell (aD w.heap.size 3) e).setCell (aD w.heap.size 4) f) F F' E E):=fun a b d e f=>by
    have ho:=aT wr w.heap.size a b d e f;refine⟨F',V',U',hS.st.out ho fun q z=>hS.no q (Or.inl z),hS.fr.off.past ho fun q z hq=>?_,hS.fr.growF,hS.fr.growE⟩;have z:q=w.heap.size:=z;omega
   have B1:Hid (Sto.aN X c s.segs 0 s.disks 0 0=Sto.aN X c k 0 s.disks 0 0):=by
    show Sto.aN X c s.segs 0 s.disks 0 0=_;rw[←Ba.out]
   have a0:=hS.a0;have a1:=hS.a1;have b0:=a0.q0;have b1:=a0.q1;have b2:=a0.q2;have b3:=a0.q3;have b4:=a0.q4;have f0:=a0.frozen 0;have f1:=a0.frozen 1;have f2:=a0.frozen 2;have f3:=a0.frozen 3;have f4:=a0.frozen 4;have d0:=a1.q0;have d1:=a1.q1;have d2:=a1.q2;have d3:=a1.q3;have d4:=a1.q4;obtain⟨e,he⟩: ∃e,e=(Sto.aN X c k 0 s.disks 0 0).2.1:=⟨_,rfl⟩;obtain⟨m,hm⟩: ∃m,m=(Sto.aN X c k 0 s.disks 0 0).2.2:=⟨_,rfl⟩;have B4:Hid (e=(Sto.aN X c k 0 s.disks 0 0).2.1∧m=(Sto.aN X c k 0 s.disks 0 0).2.2):=⟨he,hm⟩;rw[←he]at d0;rw[←hm]at d1;clear he hm;clear hS HS a0 a1;go_wp2_with fail;refine bodyPost_ret (v:=dH (e:Nat) (m:Nat)) (by simp[results,results29,go_sem,b0,b1,b2,b3,b4]) rfl ⟨by rw[B1.out,B4.out.1,B4.out.2],?_⟩;rw[B1.out];exact Bk.out _ _ _ _ _
structure jU(w:World)(g m:Nat)(Q:Nat→EvC):Prop where
 cs: ∀i,i<m→w.cell? (aD g (i*3))=some (.string (Q i).1)∧w.cell? (aD g (i*3+1))=some (iV (Q i).2.1)∧w.cell? (aD g (i*3+2))=some (iV (Q i).2.2)
 sz: ∀i,i<m→(Q i).1.size≤9223372036854775807
 fr: ∀i,w.frozen? (aD g i)=false
 lt:g<w.heap.size
theorem jU.off{Q:Nat→EvC}(h:jU w g m Q)(ho:Off S w w')(hS: ¬S g):jU w' g m Q:=by
 have hb:=ho.block g h.lt hS;exact⟨fun i hi=>⟨(World.cell?_of_block (w:=w) (a:=⟨g,i*3,none⟩) hb).trans (h.cs i hi).1,(World.cell?_of_block (w:=w) (a:=⟨g,i*3+1,none⟩) hb).trans (h.cs i hi).2.1,(World.cell?_of_block (w:=w) (a:=⟨g,i*3+2,none⟩) hb).trans (h.cs i hi).2.2⟩,h.sz,fun i=>(World.frozen?_of_block (w:=w) (a:=⟨g,i,none⟩) hb).trans (h.fr i),c9P h.lt ho.size⟩
theorem jU.set0{Q:Nat→EvC}(h:jU w g m Q)(hk:k<m)(s:ByteArray)(hs:s.size≤9223372036854775807):jU (w.setCell (aD g (k*3)) (.string s)) g m (upd Q k (s,(Q k).2)):=by
 refine⟨fun i hi=>?_,fun i hi=>?_,fun i=>(World.frozen?_setCell _ _ _ _).trans (h.fr i),by rw[Deep.nblk_setCell];exact h.lt⟩
 ·obtain⟨e0,e1,e2⟩:=h.cs i hi;rw[World.cell?_setCell_other _ _ _ _ (fY (show k*3≠i*3+1 by omega)),World.cell?_setCell_other _ _ _ _ (fY (show k*3≠i*3+2 by omega))];by_cases e:i=k
  ·subst e;rw[World.cell?_setCell_same _ _ _ e0,bM];exact⟨rfl,e1,e2⟩
  ·rw[World.cell?_setCell_other _ _ _ _ (fY (show k*3≠i*3 by omega)),aV _ _ e];exact⟨e0,e1,e2⟩
 ·by_cases e:i=k
  ·rw[e,bM];exact hs
  ·rw[aV _ _ e];exact h.sz i hi
theorem jU.set1{Q:Nat→EvC}(h:jU w g m Q)(hk:k<m)(n:Int):jU (w.setCell (aD g (k*3+1)) (iV n)) g m (upd Q k ((Q k).1,n,(Q k).2.2)):=by
 refine⟨fun i hi=>?_,fun i hi=>?_,fun i=>(World.frozen?_setCell _ _ _ _).trans (h.fr i),by rw[Deep.nblk_setCell];exact h.lt⟩
 ·obtain⟨e0,e1,e2⟩:=h.cs i hi;rw[World.cell?_setCell_other _ _ _ _ (fY (show k*3+1≠i*3 by omega)),World.cell?_setCell_other _ _ _ _ (fY (show k*3+1≠i*3+2 by omega))];by_cases e:i=k
  ·subst e;rw[World.cell?_setCell_same _ _ _ e1,bM];exact⟨e0,rfl,e2⟩
  ·rw[World.cell?_setCell_other _ _ _ _ (fY (show k*3+1≠i*3+1 by omega)),aV _ _ e];exact⟨e0,e1,e2⟩
 ·by_cases e:i=k
  ·rw[e,bM];exact h.sz k hk
  ·rw[aV _ _ e];exact h.sz i hi
theorem jU.set2{Q:Nat→EvC}(h:jU w g m Q)(hk:k<m)(n:Int):jU (w.setCell (aD g (k*3+2)) (iV n)) g m (upd Q k ((Q k).1,(Q k).2.1,n)):=by
 refine⟨fun i hi=>?_,fun i hi=>?_,fun i=>(World.frozen?_setCell _ _ _ _).trans (h.fr i),by rw[Deep.nblk_setCell];exact h.lt⟩
 ·obtain⟨e0,e1,e2⟩:=h.cs i hi;rw[World.cell?_setCell_other _ _ _ _ (fY (show k*3+2≠i*3 by omega)),World.cell?_setCell_other _ _ _ _ (fY (show k*3+2≠i*3+1 by omega))];by_cases e:i=k
  ·subst e;rw[World.cell?_setCell_same _ _ _ e2,bM];exact⟨e0,e1,rfl⟩
  ·rw[World.cell?_setCell_other _ _ _ _ (fY (show k*3+2≠i*3+2 by omega)),aV _ _ e];exact⟨e0,e1,e2⟩
 ·by_cases e:i=k
  ·rw[e,bM];exact h.sz k hk
  ·rw[aV _ _ e];exact h.sz i hi
theorem c3G(w:World)(m:Nat)(hm:m<256): ∃w',(Instr.makeSlice 40 (iV m) (iV m)).run prog w=.ok (.slice (some (aD w.heap.size 0)) m m) w'∧jU w' w.heap.size m (fun _=>(ByteArray.empty,0,0))∧Bl w w':=by
 obtain⟨i3,A6,A2⟩:=c9J.1 Tryz.infoEvent;simp only[Prod.mk.injEq]at A2;obtain⟨A5,A3,A4⟩:=A2;obtain⟨w',A1,A0,hg⟩:=run_make_full (P:=prog) w w.heap.size 40 83 i3 _ 3 underlying40 A6 A5 A3 .i64 .i64 m (by rw[A4];omega) (by unfold maxLen;omega) (c9C _);have hc: ∀j u,(madeCells (Value.agg #[.string ByteArray.empty,iV 0,iV 0]).cells (m*3)).toList[j]?=some u→w'.cell? (aD w.heap.size j)=some u:=fun j u hj=>by
  have:=A0.cells (g:=w.heap.size) rfl j u hj;rw[WideShapes.add_plain,c9G]at this;exact this
 refine⟨w',A1,⟨fun i hi=>⟨?_,?_,?_⟩,fun i _=>c9D _,kZ A0 rfl,(A0.lt _ rfl).2⟩,⟨hg.os,hg.tape,hg.output,hg.size,fun k hk=>hg.block k hk (by simp)⟩⟩
 ·exact hc _ _ (nC _ _ _ (by omega) _ (by rw[show(Value.agg #[.string ByteArray.empty,iV 0,iV 0]).cells=#[.string ByteArray.empty,iV 0,iV 0]from rfl,show(i*3)%(#[Value.string ByteArray.empty,iV 0,iV 0]).size=0 from show i*3%3=0 by omega];rfl))
 ·exact hc _ _ (nC _ _ _ (by omega) _ (by rw[show(Value.agg #[.string ByteArray.empty,iV 0,iV 0]).cells=#[.string ByteArray.empty,iV 0,iV 0]from rfl,show(i*3+1)%(#[Value.string ByteArray.empty,iV 0,iV 0]).size=1 from show(i*3+1)%3=1 by omega];rfl))
 ·exact hc _ _ (nC _ _ _ (by omega) _ (by rw[show(Value.agg #[.string ByteArray.empty,iV 0,iV 0]).cells=#[.string ByteArray.empty,iV 0,iV 0]from rfl,show(i*3+2)%(#[Value.string ByteArray.empty,iV 0,iV 0]).size=2 from show(i*3+2)%3=2 by omega];rfl))
theorem jU.evs{Q:Nat→EvC}(h:jU w g m Q)(hm:m<256):Evs w (.slice (some (aD g 0)) m m) ((List.range m).map fun i=>aZ (Q i)):=by
 refine⟨some (aD g 0),m,by simp,by simp,by unfold maxLen;omega,fun i e he=>⟨g,0,rfl,?_⟩⟩;have hi:i<m:=by
  have:=(c9H.1 he).1;simpa using this
 simp[hi]at he;subst he;obtain⟨e0,e1,e2⟩:=h.cs i hi;rw[c9G];exact⟨(Q i).1,h.sz i hi,rfl,e0,e1,e2⟩
theorem c3O{t:List Nat}(h:Evt.bZ t):nb (fF t)=t:=by
 unfold fF;rw[a3G]
 ·bK d1I;intro i;by_cases hi:i<t.length
  ·rw[nM _ hi];simp[List.getD,hi]
  ·rw[c9Z (by rw[kI];omega),c9Z (by omega)]
 ·intro k;show t.getD k 0<256;by_cases hk:k<t.length
  ·have:t.getD k 0∈t:=by simp[List.getD,hk]
   exact h _ this
  ·simp[List.getD,hk]
theorem c0L{t:List Nat}(h:cW w v t):(convert 59 9 v).run prog w=.ok (.string (fF t)) w:=a8W h.byts
theorem b1C(W0:World)(p:Nat)(st:Evt.St)(w:World)(h:Rd W0 w p st):
  Calls prog 146 #[.pointer (some (aD p 0))] w fun e w'=> ∃g m,e=.returned (.slice (some (aD g 0)) m m)∧w.heap.size≤g∧Evs w' (.slice (some (aD g 0)) m m) (Evt.tW st).1∧Rd W0 w' p (Evt.tW st).2∧Off (fun k=>k=p) w w':=by
 have H1:=iX W0 p 1 st w h (by omega);have hm:=Evt.a3Q 1 h.bytes;unfold Evt.tW;generalize (Evt.cO 1 st).1=m at H1 hm⊢;generalize (Evt.cO 1 st).2=st1 at H1⊢;clear h;go_enter func146,ntmps146
 go_wp2_with fail;refine H1.mono ?_;rintro e w1 ⟨rfl,R1,O1⟩;obtain⟨w2,Aa,E2,b2⟩:=c3G w1 m hm;have O2:=O1.trans (Off.of_below b2);have R2:=R1.off (S:=fun _=>False) (Off.of_below b2) (fun h=>h) (fun k h=>h.elim);have A9:w.heap.size≤w1.heap.size:=O1.size;have A0:w1.heap.size≠p:=fun e=>by have:=R1.lt;omega
 have A2:W0.heap.size≤w1.heap.size:=R1.bel.size;generalize w1.heap.size=g at Aa E2 A9 A0 A2;clear H1 R1 O1 b2;go_wp2_with fail;clear Aa;go_loopw [10] (fun x wr=> ∃(k:Nat) (Q:Nat→EvC),k≤m∧x=iV k∧jU wr g m Q∧Hid ((List.range k).map (fun i=>aZ (Q i))=(Evt.iU k st1).1)∧Rd W0 wr p (Evt.iU k st1).2∧Off (fun k=>k=p) w wr) (fun x _=>m-(intOf x).toNat)
 case atStart=>exact⟨0,_,c9D _,rfl,E2,rfl,R2,O2⟩
 case round=>
  obtain⟨k,Q,hk,rfl,ER,HS,RR,OR⟩:=hrel;by_cases A1:k<m
  ·have Ab:(k:Int)<(m:Int):=by omega
   have HN:=hd8 (Evt.a1V k st1);generalize (Evt.iU k st1).2=s0 at RR HN;have K1:=iX W0 p 1 s0 wr RR (by omega);have Ac:=Evt.a3Q 1 RR.bytes;have HE:Hid (Evt.evS s0=(⟨(Evt.gF (Evt.cO 1 s0).1 (Evt.cO 1 s0).2).1,((Evt.cO 1 (Evt.gF (Evt.cO 1 s0).1 (Evt.cO 1 s0).2).2).1:Nat),((Evt.cO 3 (Evt.cO 1 (Evt.gF (Evt.cO 1 s0).1 (Evt.cO 1 s0).2).2).2).1:Nat)⟩,(Evt.cO 3 (Evt.cO 1 (Evt.gF (Evt.cO 1 s0).1 (Evt.cO 1 s0).2).2).2).2)):=rfl;generalize (Evt.cO 1 s0).1=a1 at K1 Ac HE;generalize (Evt.cO 1 s0).2=s1 at K1 HE;clear RR;go_wp2_with fail;refine K1.mono ?_;rintro e w3 ⟨rfl,R3,O3⟩;have E3:=ER.off O3 A0;have O3:=OR.trans O3;have K2:=a7U W0 p a1 s1 w3 R3 (by omega);have ht:=Evt.yW a1 s1;generalize (Evt.gF a1 s1).1=t at K2 HE ht;generalize (Evt.gF a1 s1).2=s2 at K2 HE;clear K1 ER OR R3;go_wp2_with fail;refine K2.mono ?_;rintro e w4 ⟨v4,rfl,T4,R4,O4⟩;have E4:=E3.off O4 A0;have O4:=O3.trans O4;have A7:=c0L (T4.below R4.bel);have A4:=hd8 (c3O T4.1);have A8:(fF t).size≤9223372036854775807:=by
    rw[←gE,A4.out];omega
   obtain⟨d0,d1,d2⟩:=E4.cs k A1;have f0:=E4.fr (k*3);have f1:=E4.fr (k*3+1);have f2:=E4.fr (k*3+2);generalize fF t=S at A7 A4 A8;have E5:=E4.set0 A1 S A8;have R5:=R4.off (aG w4 (aD g (k*3)) (.string S)) (fun e=>A0 e.symm) (fun j e=>by rw[e];exact A2);have O5:Off (fun k=>k=p) w (w4.setCell (aD g (k*3)) (.string S)):=O4.past (aG w4 (aD g (k*3)) (.string S)) (fun y e hl=>by rw[e]at hl;exact absurd hl (by show¬g<_;omega));obtain⟨Q1,A6⟩: ∃Q1,Hid (Q1=upd Q k (S,(Q k).2)):=⟨_,rfl⟩;rw[←A6.out]at E5;have K3:=iX W0 p 1 s2 _ R5 (by omega);generalize (Evt.cO 1 s2).1=a3 at K3 HE;generalize (Evt.cO 1 s2).2=s3 at K3 HE;clear K2 E3 O3 T4 E4 R4 O4 R5;go_wp2_with fail;refine K3.mono ?_;rintro e w5 ⟨rfl,R5,O6⟩;have E6:=E5.off O6 A0;have O6:=O5.trans O6;obtain⟨d0,d1,d2⟩:=E6.cs k A1;have f0:=E6.fr (k*3);have f1:=E6.fr (k*3+1);have f2:=E6.fr (k*3+2);have E7:=E6.set1 A1 (a3:Int);have R7:=R5.off (aG w5 (aD g (k*3+1)) (iV a3)) (fun e=>A0 e.symm) (fun j e=>by rw[e];exact A2);have O7:Off (fun k=>k=p) w (w5.setCell (aD g (k*3+1)) (iV a3)):=O6.past (aG w5 (aD g (k*3+1)) (iV a3)) (fun y e hl=>by rw[e]at hl;exact absurd hl (by show¬g<_;omega));obtain⟨Q2,A5⟩: ∃Q2,Hid (Q2=upd Q1 k ((Q1 k).1,(a3:Int),(Q1 k).2.2)):=⟨_,rfl⟩;rw[←A5.out]at E7;have K4:=iX W0 p 3 s3 _ R7 (by omega);generalize (Evt.cO 3 s3).1=a4 at K4 HE;generalize (Evt.cO 3 s3).2=s4 at K4 HE;clear K3 E5 O5 E6 R5 O6 R7 A7;go_wp2_with fail;refine K4.mono ?_;rintro e w6 ⟨rfl,R8,O8⟩;have E8:=E7.off O8 A0;have O8:=O7.trans O8;obtain⟨d0,d1,d2⟩:=E8.cs k A1;have f0:=E8.fr (k*3);have f1:=E8.fr (k*3+1);have f2:=E8.fr (k*3+2);have E9:=E8.set2 A1 (a4:Int);have R9:Hid (Rd W0 (w6.setCell (aD g (k*3+2)) (iV a4)) p s4):=R8.off (aG w6 (aD g (k*3+2)) (iV a4)) (fun e=>A0 e.symm) (fun j e=>by rw[e];exact A2);have O9:Hid (Off (fun k=>k=p) w (w6.setCell (aD g (k*3+2)) (iV a4))):=O8.past (aG w6 (aD g (k*3+2)) (iV a4)) (fun y e hl=>by rw[e]at hl;exact absurd hl (by show¬g<_;omega));obtain⟨Q3,A3⟩: ∃Q3,Hid (Q3=upd Q2 k ((Q2 k).1,(Q2 k).2.1,(a4:Int))):=⟨_,rfl⟩;rw[←A3.out]at E9;have HZ:=hd8 E9;have HF:Hid ((List.range (k+1)).map (fun i=>aZ (Q3 i))=(Evt.iU (k+1) st1).1):=by
    show(List.range (k+1)).map (fun i=>aZ (Q3 i))=(Evt.iU (k+1) st1).1;rw[HN.out,HE.out,d1G,c9U,←HS.out];congr 1
    ·refine d1H (fun i hi=>?_);have hi:i≠k:=by have:=d0D.1 hi;omega
     rw[A3.out,aV _ _ hi,A5.out,aV _ _ hi,A6.out,aV _ _ hi]
    ·show[aZ (Q3 k)]=_;rw[A3.out,bM,A5.out,bM,A6.out,bM];show[(⟨nb S,(a3:Int),(a4:Int)⟩:Evt.Ev)]=_;rw[A4.out]
   have Ad:Hid (Rd W0 (w6.setCell (aD g (k*3+2)) (iV a4)) p (Evt.iU (k+1) st1).2):=by
    show Rd W0 _ p (Evt.iU (k+1) st1).2;rw[HN.out,HE.out];exact R9.out
   clear K4 E7 O7 E8 O8 R8 E9;go_wp2_with fail;exact⟨⟨k+1,Q3,by omega,by go_num,HZ.out,HF.out,Ad.out,O9.out⟩,by simp[intOf];omega⟩
  ·obtain rfl:k=m:=by omega
   have HE:Hid (Evs wr (.slice (some (aD g 0)) k k) (Evt.iU k st1).1):=by
    have:=ER.evs hm;rw[HS.out]at this;exact this
   clear ER;go_wp2_with fail;go_ret
   exact⟨g,k,rfl,A9,HE.out,RR,OR⟩
end Go.Proofs.YtmcaejooaaahdaaGreat
