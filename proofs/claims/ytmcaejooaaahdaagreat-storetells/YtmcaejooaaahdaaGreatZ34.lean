import Derived.Test.YtmcaejooaaahdaaGreatZ22
set_option maxHeartbeats 8000000
set_option maxRecDepth 100000
namespace Go.Proofs.YtmcaejooaaahdaaGreat
open Go.Proofs.Tryz
open Go.RowKit
theorem Tryz.enters_bad: ∀args w,(callFunc 99 args).run Tryz.prog w=.ok (.enter 99 args) w:=enters_of Tryz.func99 (by kernel_rfl) rfl
theorem fP(I:Nat)(i x:Int)(w:World)(hc:w.cell? (aD I 0)=some (iV i)):Calls prog 99 #[iV x,.pointer (some (aD I 0))] w fun e w'=>e=.returned (.agg #[iV x,iV i])∧Bl w w':=by
 have A0:=aB8 w (.cells #[iV 0,iV 0] 78);have A1:=aB8 w (.cells #[iV x,iV i] 78);have A2:=cB8 A0 hc;go_enter func99,ntmps99
 go_wp2_with fail;refine bodyPost_ret (v:=.agg #[iV x,iV i]) (by simp[results,results99,go_sem]) rfl ⟨rfl,A1⟩
theorem c7X(s t:ByteArray):(Op.bytesLess s.toList t.toList||s.toList==t.toList)=!Vw.lt (nb t) (nb s):=by
 rw[wW,nD];cases h:Vw.lt (nb t) (nb s)with
 |true=>
  rw[Vw.c6A h,decide_eq_false (fun e=>Vw.vT h e.symm)];rfl
 |false=>
  rcases Vw.b1R (nb s) (nb t)with q|q|q
  ·rw[q];rfl
  ·rw[decide_eq_true q,Bool.or_true];rfl
  ·rw[h]at q;cases q
theorem qP(u:Int)(vs:Value)(l:List Vw.Acc)(w:World)(h:bG w vs l):
  Calls prog 66 #[.agg #[iV u,vs]] w fun e w'=>e=.returned (jU (Vw.aR u l))∧Bl w w':=by
 have eg:=Tryz.enters_bad;obtain⟨A,C,rfl,Ap,Ai,hc⟩:=h;unfold maxLen at Ai;have A4:=aB8 w (.cells #[iV u,.slice A l.length C] 30);have Ae:Bl w ((w.alloc (.cells #[iV u,.slice A l.length C] 30)).alloc (.cells #[iV 0,iV 0] 78)):=A4.alloc A4.size _;by_cases q0:u<0
 ·have H:Hid (Vw.aR u l=(3,0)):=Vw.iG (Or.inl q0);go_enter func66,ntmps66
  go_wp2_with fail;refine bodyPost_ret (v:=.agg #[iV 3,iV 0]) (by simp[results,results66,go_sem]) rfl ⟨by rw[H.out];rfl,?_⟩;exact A4.alloc A4.size _
 by_cases q1:150<u
 ·have H:Hid (Vw.aR u l=(3,0)):=Vw.iG (Or.inr q1);go_enter func66,ntmps66
  go_wp2_with fail;refine bodyPost_ret (v:=.agg #[iV 3,iV 0]) (by simp[results,results66,go_sem]) rfl ⟨by rw[H.out];rfl,?_⟩;exact A4.alloc A4.size _
 have HE:Hid (Vw.aR u l=Vw.aF u 0 none 0 l):=Vw.lN (by omega);have VV:=(aO w 30 (iV u) (.slice A l.length C)).bE ((Below.refl _ _).alloc (c9C _) (.cells #[iV 0,iV 0] 78));have VF:=aO (w.alloc (.cells #[iV u,.slice A l.length C] 30)) 78 (iV 0) (iV 0);have Ag:(w.alloc (.cells #[iV u,.slice A l.length C] 30)).heap.size=w.heap.size+1:=by simp
 rw[Ag]at VF;clear Ag;go_enter func66,ntmps66
 obtain⟨v0,v1,_⟩:=VV;go_wp2_with fail;generalize (w.alloc (.cells #[iV u,.slice A l.length C] 30)).alloc (.cells #[iV 0,iV 0] 78)=W0 at Ae VF v0 v1⊢;go_loopw [3,21] (fun y x wr=> ∃(k:Nat) (s:Int),k≤l.length∧x=iV k∧y=iV (u-s)∧0≤s∧s≤u∧Hid (Vw.aR u l=Vw.aF u k (Vw.yF l k) s (l.drop k))∧Bl W0 wr) (fun _ x _=>l.length-(intOf x).toNat)
 case atStart=>exact⟨0,0,c9D _,rfl,cB (by omega),d1Q 0,by omega,HE.out,Below.refl _ _⟩
 case round=>
  obtain⟨k,s,Aq,rfl,rfl,s0,s1,HS,A3⟩:=hrel;have bz:=bt Ae A3;have v0:=cB8 A3 v0;have v1:=cB8 A3 v1;by_cases Ak:k<l.length
  ·have Al:(k:Int)<(l.length:Int):=by omega
   obtain⟨a,ha⟩: ∃a,l[k]?=some a:=⟨l[k],c9F Ak⟩;obtain⟨b,o,rfl,Aj⟩:=hc k a ha;obtain⟨st,An,Ao,d0,d1,d2,d3⟩:=Aj.bE bz;have A8:=hd8 Ao;have HD:=hd8 (Vw.sZ ha);have HP:=hd8 (Vw.pN ha);obtain⟨wo,rfl⟩: ∃y,y=wr:=⟨wr,rfl⟩;have hI:=aB8 wo (.cells #[iV k] 3);have Ad:=aB8 (wo.alloc (.cells #[iV k] 3)) (.cells #[.string st,iV a.sum,iV a.cnt,.bool a.opn] 93);have i0:((wo.alloc (.cells #[iV k] 3)).alloc (.cells #[.string st,iV a.sum,iV a.cnt,.bool a.opn] 93)).cell? (aD wo.heap.size 0)=some (iV k):=by go_simp
   have VA:=iJ (wo.alloc (.cells #[iV k] 3)) 93 (.string st) (iV a.sum) (iV a.cnt) (.bool a.opn);rw[show(wo.alloc (.cells #[iV k] 3)).heap.size=wo.heap.size+1 by simp]at VA;have bA:=bt hI Ad;have HN:=fun w'=>nP st w' An;have VF:=(VF.bE A3).bE bA;have v0:=cB8 bA v0;have v1:=cB8 bA v1;clear hI Ad;by_cases A2:Evt.cV a.name
   case neg=>
    have hn:Hid (¬Evt.cV (nb st)):=by
     show¬_;rw[A8.out];exact A2
    have A0:Vw.cF u a=7:=Vw.pH A2;have HR:Hid (Vw.aR u l=(7,k)):=by
     show _=_;rw[HS.out,HD.out,Vw.gX (by rw[A0];decide),A0]
    clear A2 A0 hc;go_wp2_with fail;refine(HN _).mono ?_;rintro e w1 ⟨⟨y,rfl,hy⟩,b1⟩;obtain rfl:y=false:=by cases y with|false=>rfl|true=>exact absurd (hy.1 rfl) hn.out
    have i0:=cB8 b1 i0;obtain⟨g0,g1,g2,g3,_⟩:=VA.bE b1;have v0:=cB8 b1 v0;have v1:=cB8 b1 v1;have VF:=VF.bE b1;have b1:=bt bA b1;clear HN hy VA;go_wp2_with fail;refine(fP wo.heap.size (k:Nat) 7 _ i0).mono ?_;rintro e w2 ⟨rfl,b2⟩;obtain⟨c0,c1,fr⟩:=VF.bE b2;have f0:=fr 0;have f1:=fr 1;go_wp2_with fail;refine bodyPost_ret (v:=.agg #[iV 7,iV k]) (by simp[results,results66,go_sem,c0,c1]) rfl ⟨by rw[HR.out];rfl,?_⟩;exact((bt (bt bz b1) b2).setCell (c9O _) _).setCell (c9O _) _
   have hn:Hid (Evt.cV (nb st)):=by
    show Evt.cV _;rw[A8.out];exact A2
   by_cases r0:a.cnt<1
   ·have A0:Vw.cF u a=3:=Vw.dV A2 (Or.inl r0);have HR:Hid (Vw.aR u l=(3,k)):=by
     show _=_;rw[HS.out,HD.out,Vw.gX (by rw[A0];decide),A0]
    clear A2 A0 hc;go_wp2_with fail;refine(HN _).mono ?_;rintro e w1 ⟨⟨y,rfl,hy⟩,b1⟩;obtain rfl:y=true:=hy.2 hn.out;have i0:=cB8 b1 i0;obtain⟨g0,g1,g2,g3,_⟩:=VA.bE b1;have v0:=cB8 b1 v0;have v1:=cB8 b1 v1;have VF:=VF.bE b1;have b1:=bt bA b1;clear HN hy VA;go_wp2_with fail;refine(fP wo.heap.size (k:Nat) 3 _ i0).mono ?_;rintro e w2 ⟨rfl,b2⟩;obtain⟨c0,c1,fr⟩:=VF.bE b2;have f0:=fr 0;have f1:=fr 1;go_wp2_with fail;refine bodyPost_ret (v:=.agg #[iV 3,iV k]) (by simp[results,results66,go_sem,c0,c1]) rfl ⟨by rw[HR.out];rfl,?_⟩;exact((bt (bt bz b1) b2).setCell (c9O _) _).setCell (c9O _) _
   by_cases r1:u<a.cnt
   ·have A0:Vw.cF u a=3:=Vw.dV A2 (Or.inr (Or.inl r1));have HR:Hid (Vw.aR u l=(3,k)):=by
     show _=_;rw[HS.out,HD.out,Vw.gX (by rw[A0];decide),A0]
    clear A2 A0 hc;go_wp2_with fail;refine(HN _).mono ?_;rintro e w1 ⟨⟨y,rfl,hy⟩,b1⟩;obtain rfl:y=true:=hy.2 hn.out;have i0:=cB8 b1 i0;obtain⟨g0,g1,g2,g3,_⟩:=VA.bE b1;have v0:=cB8 b1 v0;have v1:=cB8 b1 v1;have VF:=VF.bE b1;have b1:=bt bA b1;clear HN hy VA;go_wp2_with fail;refine(fP wo.heap.size (k:Nat) 3 _ i0).mono ?_;rintro e w2 ⟨rfl,b2⟩;obtain⟨c0,c1,fr⟩:=VF.bE b2;have f0:=fr 0;have f1:=fr 1;go_wp2_with fail;refine bodyPost_ret (v:=.agg #[iV 3,iV k]) (by simp[results,results66,go_sem,c0,c1]) rfl ⟨by rw[HR.out];rfl,?_⟩;exact((bt (bt bz b1) b2).setCell (c9O _) _).setCell (c9O _) _
   by_cases r2:1000000*a.cnt<a.sum
   ·have A0:Vw.cF u a=3:=Vw.dV A2 (Or.inr (Or.inr (Or.inl r2)));have HR:Hid (Vw.aR u l=(3,k)):=by
     show _=_;rw[HS.out,HD.out,Vw.gX (by rw[A0];decide),A0]
    have m1:1≤a.cnt:=by omega
    have m2:a.cnt≤150:=by omega
    clear A2 A0 hc;go_wp2_with fail;refine(HN _).mono ?_;rintro e w1 ⟨⟨y,rfl,hy⟩,b1⟩;obtain rfl:y=true:=hy.2 hn.out;have i0:=cB8 b1 i0;obtain⟨g0,g1,g2,g3,_⟩:=VA.bE b1;have v0:=cB8 b1 v0;have v1:=cB8 b1 v1;have VF:=VF.bE b1;have b1:=bt bA b1;clear HN hy VA;go_wp2_with fail;refine(fP wo.heap.size (k:Nat) 3 _ i0).mono ?_;rintro e w2 ⟨rfl,b2⟩;obtain⟨c0,c1,fr⟩:=VF.bE b2;have f0:=fr 0;have f1:=fr 1;go_wp2_with fail;refine bodyPost_ret (v:=.agg #[iV 3,iV k]) (by simp[results,results66,go_sem,c0,c1]) rfl ⟨by rw[HR.out];rfl,?_⟩;exact((bt (bt bz b1) b2).setCell (c9O _) _).setCell (c9O _) _
   by_cases r3:a.sum< -(1000000*a.cnt)
   ·have A0:Vw.cF u a=3:=Vw.dV A2 (Or.inr (Or.inr (Or.inr r3)));have HR:Hid (Vw.aR u l=(3,k)):=by
     show _=_;rw[HS.out,HD.out,Vw.gX (by rw[A0];decide),A0]
    have m1:1≤a.cnt:=by omega
    have m2:a.cnt≤150:=by omega
    clear A2 A0 hc;go_wp2_with fail;refine(HN _).mono ?_;rintro e w1 ⟨⟨y,rfl,hy⟩,b1⟩;obtain rfl:y=true:=hy.2 hn.out;have i0:=cB8 b1 i0;obtain⟨g0,g1,g2,g3,_⟩:=VA.bE b1;have v0:=cB8 b1 v0;have v1:=cB8 b1 v1;have VF:=VF.bE b1;have b1:=bt bA b1;clear HN hy VA;go_wp2_with fail;refine(fP wo.heap.size (k:Nat) 3 _ i0).mono ?_;rintro e w2 ⟨rfl,b2⟩;obtain⟨c0,c1,fr⟩:=VF.bE b2;have f0:=fr 0;have f1:=fr 1;go_wp2_with fail;refine bodyPost_ret (v:=.agg #[iV 3,iV k]) (by simp[results,results66,go_sem,c0,c1]) rfl ⟨by rw[HR.out];rfl,?_⟩;exact((bt (bt bz b1) b2).setCell (c9O _) _).setCell (c9O _) _
   have A6:Hid (Vw.cF u a=0):=Vw.pX A2 (by omega);have m1:1≤a.cnt:=by omega
   have m2:a.cnt≤150:=by omega
   have m3:a.cnt≤u:=by omega
   clear A2;rcases Nat.eq_zero_or_pos k with Ab|Ab
   ·have Ac:Hid (Vw.nQ (Vw.yF l k) a.name=true):=by
     show _=_;rw[Ab];rfl
    clear hc;subst Ab;simp only[Nat.zero_mul,Nat.add_zero]at d0 d1 d2 d3;go_wp2_with fail;refine(HN _).mono ?_;rintro e w1 ⟨⟨y,rfl,hy⟩,b1⟩;obtain rfl:y=true:=hy.2 hn.out;have i0:=cB8 b1 i0;obtain⟨g0,g1,g2,g3,_⟩:=VA.bE b1;have v0:=cB8 b1 v0;have v1:=cB8 b1 v1;have VF:=VF.bE b1;have b1:=bt bA b1;clear HN hy VA;go_wp2_with fail;go_quiet (fail)
    by_cases A1:s+a.cnt≤u
    ·have HX:Hid (Vw.aR u l=Vw.aF u (0+1) (Vw.yF l (0+1)) (s+a.cnt) (l.drop (0+1))):=by
      show _=_;rw[HS.out,HD.out,HP.out];exact Vw.iA A6.out Ac.out A1
     have A9: ¬u-s-a.cnt<0:=by omega
     go_wp2_with fail;exact⟨⟨0+1,s+a.cnt,by omega,by go_num,cB (by omega),by omega,A1,HX.out,bdn (bt A3 b1) _⟩,by simp[intOf];omega⟩
    ·have HR:Hid (Vw.aR u l=(8,0)):=by
      show _=_;rw[HS.out,HD.out];exact Vw.kM A6.out Ac.out A1
     have A9:u-s-a.cnt<0:=by omega
     go_wp2_with fail;refine(fP wo.heap.size ((0:Nat):Int) 8 (w1.drewN nq) i0).mono ?_;rintro e w2 ⟨rfl,b2⟩;obtain⟨c0,c1,fr⟩:=(VF.bE (dP _ _)).bE b2;have f0:=fr 0;have f1:=fr 1;go_wp2_with fail;refine bodyPost_ret (v:=.agg #[iV 8,iV 0]) (by simp[results,results66,go_sem,c0,c1]) rfl ⟨by rw[HR.out];rfl,?_⟩;exact((bt (bdn (bt bz b1) _) b2).setCell (c9O _) _).setCell (c9O _) _
   ·obtain⟨j,rfl⟩: ∃j,k=j+1:=⟨k-1,by omega⟩;obtain⟨p,hp⟩: ∃p,l[j]?=some p:=⟨l[j],c9F (by omega)⟩;obtain⟨b',o',Ah,Aa⟩:=hc j p hp;cases Ah
    obtain⟨sp,Ar,Af,e0,_,_,_⟩:=Aa.bE (bt bz bA);have A5:=c7X st sp;rw[Af,A8.out]at A5;have HL:Hid (Vw.nQ (Vw.yF l (j+1)) a.name=Vw.lt p.name a.name):=by
     show _=_;rw[Vw.pN hp];rfl
    clear hc Af;generalize Vw.lt p.name a.name=y at HL A5;cases y with
    |true=>
     have A5:(Op.bytesLess st.toList sp.toList||st.toList==sp.toList)=false:=A5;go_wp2_with fail;refine(HN _).mono ?_;rintro e w1 ⟨⟨y,rfl,hy⟩,b1⟩;obtain rfl:y=true:=hy.2 hn.out;have i0:=cB8 b1 i0;obtain⟨g0,g1,g2,g3,_⟩:=VA.bE b1;have v0:=cB8 b1 v0;have v1:=cB8 b1 v1;have VF:=VF.bE b1;have e0:=cB8 b1 e0;have b1:=bt bA b1;clear HN hy VA;go_wp2_with fail;go_quiet (fail)
     by_cases A1:s+a.cnt≤u
     ·have HX:Hid (Vw.aR u l=Vw.aF u ((j+1)+1) (Vw.yF l ((j+1)+1)) (s+a.cnt) (l.drop ((j+1)+1))):=by
       show _=_;rw[HS.out,HD.out,HP.out];exact Vw.iA A6.out HL.out A1
      have A9: ¬u-s-a.cnt<0:=by omega
      go_wp2_with fail;exact⟨⟨(j+1)+1,s+a.cnt,by omega,by go_num,cB (by omega),by omega,A1,HX.out,bdn (bt A3 b1) _⟩,by simp[intOf];omega⟩
     ·have HR:Hid (Vw.aR u l=(8,(j+1))):=by
       show _=_;rw[HS.out,HD.out];exact Vw.kM A6.out HL.out A1
      have A9:u-s-a.cnt<0:=by omega
      go_wp2_with fail;refine(fP wo.heap.size ((j+1:Nat):Int) 8 (w1.drewN nq) i0).mono ?_;rintro e w2 ⟨rfl,b2⟩;obtain⟨c0,c1,fr⟩:=(VF.bE (dP _ _)).bE b2;have f0:=fr 0;have f1:=fr 1;go_wp2_with fail;refine bodyPost_ret (v:=.agg #[iV 8,iV (j+1:Nat)]) (by simp[results,results66,go_sem,c0,c1]) rfl ⟨by rw[HR.out];rfl,?_⟩;exact((bt (bdn (bt bz b1) _) b2).setCell (c9O _) _).setCell (c9O _) _
    |false=>
     have A5:(Op.bytesLess st.toList sp.toList||st.toList==sp.toList)=true:=A5;have HR:Hid (Vw.aR u l=(2,j+1)):=by
      show _=_;rw[HS.out,HD.out];exact Vw.pF A6.out HL.out
     go_wp2_with fail;refine(HN _).mono ?_;rintro e w1 ⟨⟨y,rfl,hy⟩,b1⟩;obtain rfl:y=true:=hy.2 hn.out;have i0:=cB8 b1 i0;obtain⟨g0,g1,g2,g3,_⟩:=VA.bE b1;have v0:=cB8 b1 v0;have v1:=cB8 b1 v1;have VF:=VF.bE b1;have e0:=cB8 b1 e0;have b1:=bt bA b1;clear HN hy VA;go_wp2_with fail;go_quiet (fail)
     go_wp2_with fail;refine(fP wo.heap.size ((j+1:Nat):Int) 2 (w1.drewN nq) i0).mono ?_;rintro e w2 ⟨rfl,b2⟩;obtain⟨c0,c1,fr⟩:=(VF.bE (dP _ _)).bE b2;have f0:=fr 0;have f1:=fr 1;go_wp2_with fail;refine bodyPost_ret (v:=.agg #[iV 2,iV (j+1:Nat)]) (by simp[results,results66,go_sem,c0,c1]) rfl ⟨by rw[HR.out];rfl,?_⟩;exact((bt (bdn (bt bz b1) _) b2).setCell (c9O _) _).setCell (c9O _) _
  ·obtain rfl:k=l.length:=by omega
   obtain⟨c0,c1,fr⟩:=VF.bE A3;have f0:=fr 0;have f1:=fr 1;clear hc;by_cases A7:s=u
   ·have HZ:Hid (Vw.aR u l=(0,0)):=by
     show _=_;rw[HS.out,d0T,Vw.aF,if_pos A7]
    have Am:(u-s !=0)=false:=by rw[bne_eq_false_iff_eq];omega
    clear A7;go_wp2_with fail;refine bodyPost_ret (v:=.agg #[iV 0,iV 0]) (by simp[results,results66,go_sem,c0,c1]) rfl ⟨by rw[HZ.out];rfl,?_⟩;exact(bz.setCell (c9O _) _).setCell (c9O _) _
   ·have HZ:Hid (Vw.aR u l=(8,l.length)):=by
     show _=_;rw[HS.out,d0T,Vw.aF,if_neg A7]
    have Am:(u-s !=0)=true:=by rw[bne_iff_ne];omega
    clear A7;go_wp2_with fail;refine bodyPost_ret (v:=.agg #[iV 8,iV l.length]) (by simp[results,results66,go_sem,c0,c1]) rfl ⟨by rw[HZ.out];rfl,?_⟩;exact(bz.setCell (c9O _) _).setCell (c9O _) _
end Go.Proofs.YtmcaejooaaahdaaGreat
