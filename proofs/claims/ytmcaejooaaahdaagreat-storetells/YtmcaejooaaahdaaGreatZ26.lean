import Derived.Test.YtmcaejooaaahdaaGreatZ13
import Derived.Maps.Own
import Derived.Maps.Views
set_option maxHeartbeats 8000000
set_option maxRecDepth 100000
namespace Go.Proofs.YtmcaejooaaahdaaGreat
open Go.Proofs.Tryz
variable {B C N O P n p:Nat} {S:Nat→Prop} {W0 w w' wr:World} {ov v vs:Value} {u:Int}
open Go.RowKit
theorem Tryz.enters_bad: ∀args w,(callFunc 99 args).run Tryz.prog w=.ok (.enter 99 args) w:=enters_of Tryz.func99 (by kernel_rfl) rfl
theorem fN(I:Nat)(i x:Int)(w:World)(hc:w.cell? (aD I 0)=some (iV i)):Calls prog 99 #[iV x,.pointer (some (aD I 0))] w fun e w'=>e=.returned (.agg #[iV x,iV i])∧Bl w w':=by
 have A0:=aB8 w (.cells #[iV 0,iV 0] 78);have A1:=aB8 w (.cells #[iV x,iV i] 78);have A2:=cB8 A0 hc;go_enter func99,ntmps99
 go_wp2_with fail;refine bodyPost_ret (v:=.agg #[iV x,iV i]) (by simp[results,results99,go_sem]) rfl ⟨rfl,A1⟩
theorem c7W(s t:ByteArray):(Op.bytesLess s.toList t.toList||s.toList==t.toList)=!Vw.lt (nb t) (nb s):=by
 rw[wQ,mV];cases h:Vw.lt (nb t) (nb s)with
 |true=>
  rw[Vw.c3X h,decide_eq_false (fun e=>Vw.vW h e.symm)];rfl
 |false=>
  rcases Vw.b0L (nb s) (nb t)with q|q|q
  ·rw[q];rfl
  ·rw[decide_eq_true q,Bool.or_true];rfl
  ·rw[h]at q;cases q
theorem qS(u:Int)(vs:Value)(l:List Vw.Acc)(w:World)(h:bJ w vs l):
  Calls prog 66 #[.agg #[iV u,vs]] w fun e w'=>e=.returned (jQ (Vw.aR u l))∧Bl w w':=by
 have eg:=Tryz.enters_bad;obtain⟨A,C,rfl,Ap,Al,hc⟩:=h;unfold maxLen at Al;have A4:=aB8 w (.cells #[iV u,.slice A l.length C] 30);have Ad:=A4.alloc A4.size _;by_cases q0:u<0
 ·have H:Hid (Vw.aR u l=(3,0)):=Vw.iH (Or.inl q0);go_enter func66,ntmps66
  go_wp2_with fail;refine bodyPost_ret (v:=.agg #[iV 3,iV 0]) (by simp[results,results66,go_sem]) rfl ⟨by rw[H.out];rfl,?_⟩;exact A4.alloc A4.size _
 by_cases q1:150<u
 ·have H:Hid (Vw.aR u l=(3,0)):=Vw.iH (Or.inr q1);go_enter func66,ntmps66
  go_wp2_with fail;refine bodyPost_ret (v:=.agg #[iV 3,iV 0]) (by simp[results,results66,go_sem]) rfl ⟨by rw[H.out];rfl,?_⟩;exact A4.alloc A4.size _
 have HE:Hid (Vw.aR u l=Vw.aF u 0 none 0 l):=Vw.lF (by omega);have VV:=(aO w 30 (iV u) (.slice A l.length C)).below ((Below.refl _ _).alloc (c9C _) (.cells #[iV 0,iV 0] 78));have VF:=aO (w.alloc (.cells #[iV u,.slice A l.length C] 30)) 78 (iV 0) (iV 0);have Ac:(w.alloc (.cells #[iV u,.slice A l.length C] 30)).heap.size=w.heap.size+1:=by simp
 rw[Ac]at VF;clear Ac;go_enter func66,ntmps66
 obtain⟨v0,v1,_⟩:=VV;go_wp2_with fail;generalize (w.alloc (.cells #[iV u,.slice A l.length C] 30)).alloc (.cells #[iV 0,iV 0] 78)=W0 at Ad VF v0 v1⊢;go_loopw [3,21] (fun y x wr=> ∃(k:Nat) (s:Int),k≤l.length∧x=iV k∧y=iV (u-s)∧0≤s∧s≤u∧Hid (Vw.aR u l=Vw.aF u k (Vw.yV l k) s (l.drop k))∧Bl W0 wr) (fun _ x _=>l.length-(intOf x).toNat)
 case atStart=>exact⟨0,0,c9D _,rfl,cA (by omega),d1Q 0,by omega,HE.out,Below.refl _ _⟩
 case round=>
  obtain⟨k,s,Ar,rfl,rfl,s0,s1,HS,A3⟩:=hrel;have bz:=bt Ad A3;have v0:=cB8 A3 v0;have v1:=cB8 A3 v1;by_cases Ak:k<l.length
  ·have Aj:(k:Int)<(l.length:Int):=by omega
   obtain⟨a,ha⟩: ∃a,l[k]?=some a:=⟨l[k],c9F Ak⟩;obtain⟨b,o,rfl,An⟩:=hc k a ha;obtain⟨st,Ai,Am,d0,d1,d2,d3⟩:=An.below bz;have A9:=hd8 Am;have HD:=hd8 (Vw.tK ha);have HP:=hd8 (Vw.pN ha);obtain⟨wo,rfl⟩: ∃y,y=wr:=⟨wr,rfl⟩;have hI:=aB8 wo (.cells #[iV k] 3);have Af:=aB8 (wo.alloc (.cells #[iV k] 3)) (.cells #[.string st,iV a.sum,iV a.cnt,.bool a.opn] 93);have i0:((wo.alloc (.cells #[iV k] 3)).alloc (.cells #[.string st,iV a.sum,iV a.cnt,.bool a.opn] 93)).cell? (aD wo.heap.size 0)=some (iV k):=by go_simp
   have VA:=iF (wo.alloc (.cells #[iV k] 3)) 93 (.string st) (iV a.sum) (iV a.cnt) (.bool a.opn);rw[show(wo.alloc (.cells #[iV k] 3)).heap.size=wo.heap.size+1 by simp]at VA;have bA:=bt hI Af;have HN:=fun w'=>mN st w' Ai;have VF:=(VF.below A3).below bA;have v0:=cB8 bA v0;have v1:=cB8 bA v1;clear hI Af;by_cases A2:Evt.dC a.name
   case neg=>
    have hn:Hid (¬Evt.dC (nb st)):=by
     show¬_;rw[A9.out];exact A2
    have A0:=Vw.oO A2;have HR:Hid (Vw.aR u l=(7,k)):=by
     show _=_;rw[HS.out,HD.out,Vw.gS (by rw[A0];decide),A0]
    clear A2 A0 hc;go_wp2_with fail;refine(HN _).mono ?_;rintro e w1 ⟨⟨y,rfl,hy⟩,b1⟩;obtain rfl:y=false:=by cases y with|false=>rfl|true=>exact absurd (hy.1 rfl) hn.out
    have i0:=cB8 b1 i0;obtain⟨g0,g1,g2,g3,_⟩:=VA.below b1;have v0:=cB8 b1 v0;have v1:=cB8 b1 v1;have VF:=VF.below b1;have b1:=bt bA b1;clear HN hy VA;go_wp2_with fail;refine(fN wo.heap.size (k:Nat) 7 _ i0).mono ?_;rintro e w2 ⟨rfl,b2⟩;obtain⟨c0,c1,fr⟩:=VF.below b2;have f0:=fr 0;have f1:=fr 1;go_wp2_with fail;refine bodyPost_ret (v:=.agg #[iV 7,iV k]) (by simp[results,results66,go_sem,c0,c1]) rfl ⟨by rw[HR.out];rfl,?_⟩;exact((bt (bt bz b1) b2).setCell (c9O _) _).setCell (c9O _) _
   have hn:Hid (Evt.dC (nb st)):=by
    show Evt.dC _;rw[A9.out];exact A2
   by_cases r0:a.cnt<1
   ·have A0:Vw.cH u a=3:=Vw.dU A2 (Or.inl r0);have HR:Hid (Vw.aR u l=(3,k)):=by
     show _=_;rw[HS.out,HD.out,Vw.gS (by rw[A0];decide),A0]
    clear A2 A0 hc;go_wp2_with fail;refine(HN _).mono ?_;rintro e w1 ⟨⟨y,rfl,hy⟩,b1⟩;obtain rfl:y=true:=hy.2 hn.out;have i0:=cB8 b1 i0;obtain⟨g0,g1,g2,g3,_⟩:=VA.below b1;have v0:=cB8 b1 v0;have v1:=cB8 b1 v1;have VF:=VF.below b1;have b1:=bt bA b1;clear HN hy VA;go_wp2_with fail;refine(fN wo.heap.size (k:Nat) 3 _ i0).mono ?_;rintro e w2 ⟨rfl,b2⟩;obtain⟨c0,c1,fr⟩:=VF.below b2;have f0:=fr 0;have f1:=fr 1;go_wp2_with fail;refine bodyPost_ret (v:=.agg #[iV 3,iV k]) (by simp[results,results66,go_sem,c0,c1]) rfl ⟨by rw[HR.out];rfl,?_⟩;exact((bt (bt bz b1) b2).setCell (c9O _) _).setCell (c9O _) _
   by_cases r1:u<a.cnt
   ·have A0:Vw.cH u a=3:=Vw.dU A2 (Or.inr (Or.inl r1));have HR:Hid (Vw.aR u l=(3,k)):=by
     show _=_;rw[HS.out,HD.out,Vw.gS (by rw[A0];decide),A0]
    clear A2 A0 hc;go_wp2_with fail;refine(HN _).mono ?_;rintro e w1 ⟨⟨y,rfl,hy⟩,b1⟩;obtain rfl:y=true:=hy.2 hn.out;have i0:=cB8 b1 i0;obtain⟨g0,g1,g2,g3,_⟩:=VA.below b1;have v0:=cB8 b1 v0;have v1:=cB8 b1 v1;have VF:=VF.below b1;have b1:=bt bA b1;clear HN hy VA;go_wp2_with fail;refine(fN wo.heap.size (k:Nat) 3 _ i0).mono ?_;rintro e w2 ⟨rfl,b2⟩;obtain⟨c0,c1,fr⟩:=VF.below b2;have f0:=fr 0;have f1:=fr 1;go_wp2_with fail;refine bodyPost_ret (v:=.agg #[iV 3,iV k]) (by simp[results,results66,go_sem,c0,c1]) rfl ⟨by rw[HR.out];rfl,?_⟩;exact((bt (bt bz b1) b2).setCell (c9O _) _).setCell (c9O _) _
   by_cases r2:1000000*a.cnt<a.sum
   ·have A0:Vw.cH u a=3:=Vw.dU A2 (Or.inr (Or.inr (Or.inl r2)));have HR:Hid (Vw.aR u l=(3,k)):=by
     show _=_;rw[HS.out,HD.out,Vw.gS (by rw[A0];decide),A0]
    have m1:1≤a.cnt:=by omega
    have m2:a.cnt≤150:=by omega
    clear A2 A0 hc;go_wp2_with fail;refine(HN _).mono ?_;rintro e w1 ⟨⟨y,rfl,hy⟩,b1⟩;obtain rfl:y=true:=hy.2 hn.out;have i0:=cB8 b1 i0;obtain⟨g0,g1,g2,g3,_⟩:=VA.below b1;have v0:=cB8 b1 v0;have v1:=cB8 b1 v1;have VF:=VF.below b1;have b1:=bt bA b1;clear HN hy VA;go_wp2_with fail;refine(fN wo.heap.size (k:Nat) 3 _ i0).mono ?_;rintro e w2 ⟨rfl,b2⟩;obtain⟨c0,c1,fr⟩:=VF.below b2;have f0:=fr 0;have f1:=fr 1;go_wp2_with fail;refine bodyPost_ret (v:=.agg #[iV 3,iV k]) (by simp[results,results66,go_sem,c0,c1]) rfl ⟨by rw[HR.out];rfl,?_⟩;exact((bt (bt bz b1) b2).setCell (c9O _) _).setCell (c9O _) _
   by_cases r3:a.sum< -(1000000*a.cnt)
   ·have A0:Vw.cH u a=3:=Vw.dU A2 (Or.inr (Or.inr (Or.inr r3)));have HR:Hid (Vw.aR u l=(3,k)):=by
     show _=_;rw[HS.out,HD.out,Vw.gS (by rw[A0];decide),A0]
    have m1:1≤a.cnt:=by omega
    have m2:a.cnt≤150:=by omega
    clear A2 A0 hc;go_wp2_with fail;refine(HN _).mono ?_;rintro e w1 ⟨⟨y,rfl,hy⟩,b1⟩;obtain rfl:y=true:=hy.2 hn.out;have i0:=cB8 b1 i0;obtain⟨g0,g1,g2,g3,_⟩:=VA.below b1;have v0:=cB8 b1 v0;have v1:=cB8 b1 v1;have VF:=VF.below b1;have b1:=bt bA b1;clear HN hy VA;go_wp2_with fail;refine(fN wo.heap.size (k:Nat) 3 _ i0).mono ?_;rintro e w2 ⟨rfl,b2⟩;obtain⟨c0,c1,fr⟩:=VF.below b2;have f0:=fr 0;have f1:=fr 1;go_wp2_with fail;refine bodyPost_ret (v:=.agg #[iV 3,iV k]) (by simp[results,results66,go_sem,c0,c1]) rfl ⟨by rw[HR.out];rfl,?_⟩;exact((bt (bt bz b1) b2).setCell (c9O _) _).setCell (c9O _) _
   have A6:Hid (Vw.cH u a=0):=Vw.pV A2 (by omega);have m1:1≤a.cnt:=by omega
   have m2:a.cnt≤150:=by omega
   have m3:a.cnt≤u:=by omega
   clear A2;rcases Nat.eq_zero_or_pos k with A8|A8
   ·have Ag:Hid (Vw.nV (Vw.yV l k) a.name=true):=by
     show _=_;rw[A8];rfl
    clear hc;subst A8;simp only[Nat.zero_mul,Nat.add_zero]at d0 d1 d2 d3;go_wp2_with fail;refine(HN _).mono ?_;rintro e w1 ⟨⟨y,rfl,hy⟩,b1⟩;obtain rfl:y=true:=hy.2 hn.out;have i0:=cB8 b1 i0;obtain⟨g0,g1,g2,g3,_⟩:=VA.below b1;have v0:=cB8 b1 v0;have v1:=cB8 b1 v1;have VF:=VF.below b1;have b1:=bt bA b1;clear HN hy VA;go_wp2_with fail;go_quiet (fail)
    by_cases A1:s+a.cnt≤u
    ·have HX:Hid (Vw.aR u l=Vw.aF u (0+1) (Vw.yV l (0+1)) (s+a.cnt) (l.drop (0+1))):=by
      show _=_;rw[HS.out,HD.out,HP.out];exact Vw.iA A6.out Ag.out A1
     have Ab: ¬u-s-a.cnt<0:=by omega
     go_wp2_with fail;exact⟨⟨0+1,s+a.cnt,by omega,by go_num,cA (by omega),by omega,A1,HX.out,bdn (bt A3 b1) _⟩,by simp[intOf];omega⟩
    ·have HR:Hid (Vw.aR u l=(8,0)):=by
      show _=_;rw[HS.out,HD.out];exact Vw.kO A6.out Ag.out A1
     have Ab:u-s-a.cnt<0:=by omega
     go_wp2_with fail;refine(fN wo.heap.size ((0:Nat):Int) 8 (w1.drewN nq) i0).mono ?_;rintro e w2 ⟨rfl,b2⟩;obtain⟨c0,c1,fr⟩:=(VF.below (dP _ _)).below b2;have f0:=fr 0;have f1:=fr 1;go_wp2_with fail;refine bodyPost_ret (v:=.agg #[iV 8,iV 0]) (by simp[results,results66,go_sem,c0,c1]) rfl ⟨by rw[HR.out];rfl,?_⟩;exact((bt (bdn (bt bz b1) _) b2).setCell (c9O _) _).setCell (c9O _) _
   ·obtain⟨j,rfl⟩: ∃j,k=j+1:=⟨k-1,by omega⟩;obtain⟨p,hp⟩: ∃p,l[j]?=some p:=⟨l[j],c9F (by omega)⟩;obtain⟨b',o',Ao,Aa⟩:=hc j p hp;cases Ao
    obtain⟨sp,Aq,Ae,e0,_,_,_⟩:=Aa.below (bt bz bA);have A5:=c7W st sp;rw[Ae,A9.out]at A5;have HL:Hid (Vw.nV (Vw.yV l (j+1)) a.name=Vw.lt p.name a.name):=by
     show _=_;rw[Vw.pN hp];rfl
    clear hc Ae;generalize Vw.lt p.name a.name=y at HL A5;cases y with
    |true=>
     have A5:(Op.bytesLess st.toList sp.toList||st.toList==sp.toList)=false:=A5;go_wp2_with fail;refine(HN _).mono ?_;rintro e w1 ⟨⟨y,rfl,hy⟩,b1⟩;obtain rfl:y=true:=hy.2 hn.out;have i0:=cB8 b1 i0;obtain⟨g0,g1,g2,g3,_⟩:=VA.below b1;have v0:=cB8 b1 v0;have v1:=cB8 b1 v1;have VF:=VF.below b1;have e0:=cB8 b1 e0;have b1:=bt bA b1;clear HN hy VA;go_wp2_with fail;go_quiet (fail)
     by_cases A1:s+a.cnt≤u
     ·have HX:Hid (Vw.aR u l=Vw.aF u ((j+1)+1) (Vw.yV l ((j+1)+1)) (s+a.cnt) (l.drop ((j+1)+1))):=by
       show _=_;rw[HS.out,HD.out,HP.out];exact Vw.iA A6.out HL.out A1
      have Ab: ¬u-s-a.cnt<0:=by omega
      go_wp2_with fail;exact⟨⟨(j+1)+1,s+a.cnt,by omega,by go_num,cA (by omega),by omega,A1,HX.out,bdn (bt A3 b1) _⟩,by simp[intOf];omega⟩
     ·have HR:Hid (Vw.aR u l=(8,(j+1))):=by
       show _=_;rw[HS.out,HD.out];exact Vw.kO A6.out HL.out A1
      have Ab:u-s-a.cnt<0:=by omega
      go_wp2_with fail;refine(fN wo.heap.size ((j+1:Nat):Int) 8 (w1.drewN nq) i0).mono ?_;rintro e w2 ⟨rfl,b2⟩;obtain⟨c0,c1,fr⟩:=(VF.below (dP _ _)).below b2;have f0:=fr 0;have f1:=fr 1;go_wp2_with fail;refine bodyPost_ret (v:=.agg #[iV 8,iV (j+1:Nat)]) (by simp[results,results66,go_sem,c0,c1]) rfl ⟨by rw[HR.out];rfl,?_⟩;exact((bt (bdn (bt bz b1) _) b2).setCell (c9O _) _).setCell (c9O _) _
    |false=>
     have A5:(Op.bytesLess st.toList sp.toList||st.toList==sp.toList)=true:=A5;have HR:Hid (Vw.aR u l=(2,j+1)):=by
      show _=_;rw[HS.out,HD.out];exact Vw.oD A6.out HL.out
     go_wp2_with fail;refine(HN _).mono ?_;rintro e w1 ⟨⟨y,rfl,hy⟩,b1⟩;obtain rfl:y=true:=hy.2 hn.out;have i0:=cB8 b1 i0;obtain⟨g0,g1,g2,g3,_⟩:=VA.below b1;have v0:=cB8 b1 v0;have v1:=cB8 b1 v1;have VF:=VF.below b1;have e0:=cB8 b1 e0;have b1:=bt bA b1;clear HN hy VA;go_wp2_with fail;go_quiet (fail)
     go_wp2_with fail;refine(fN wo.heap.size ((j+1:Nat):Int) 2 (w1.drewN nq) i0).mono ?_;rintro e w2 ⟨rfl,b2⟩;obtain⟨c0,c1,fr⟩:=(VF.below (dP _ _)).below b2;have f0:=fr 0;have f1:=fr 1;go_wp2_with fail;refine bodyPost_ret (v:=.agg #[iV 2,iV (j+1:Nat)]) (by simp[results,results66,go_sem,c0,c1]) rfl ⟨by rw[HR.out];rfl,?_⟩;exact((bt (bdn (bt bz b1) _) b2).setCell (c9O _) _).setCell (c9O _) _
  ·obtain rfl:k=l.length:=by omega
   obtain⟨c0,c1,fr⟩:=VF.below A3;have f0:=fr 0;have f1:=fr 1;clear hc;by_cases A7:s=u
   ·have HZ:Hid (Vw.aR u l=(0,0)):=by
     show _=_;rw[HS.out,d0T,Vw.aF,if_pos A7]
    have Ah:(u-s !=0)=false:=by rw[bne_eq_false_iff_eq];omega
    clear A7;go_wp2_with fail;refine bodyPost_ret (v:=.agg #[iV 0,iV 0]) (by simp[results,results66,go_sem,c0,c1]) rfl ⟨by rw[HZ.out];rfl,?_⟩;exact(bz.setCell (c9O _) _).setCell (c9O _) _
   ·have HZ:Hid (Vw.aR u l=(8,l.length)):=by
     show _=_;rw[HS.out,d0T,Vw.aF,if_neg A7]
    have Ah:(u-s !=0)=true:=by rw[bne_iff_ne];omega
    clear A7;go_wp2_with fail;refine bodyPost_ret (v:=.agg #[iV 8,iV l.length]) (by simp[results,results66,go_sem,c0,c1]) rfl ⟨by rw[HZ.out];rfl,?_⟩;exact(bz.setCell (c9O _) _).setCell (c9O _) _
theorem pD.set4{a b c d:Value}(h:pD w p a b c d)(x y z u:Value):pD ((((w.setCell (aD p 0) x).setCell (aD p 1) y).setCell (aD p 2) z).setCell (aD p 3) u) p x y z u:=by
 have c0:=h.c0;have c1:=h.c1;have c2:=h.c2;have c3:=h.c3;exact⟨by go_simp,by go_simp,by go_simp,by go_simp,fun i=>by have:=h.fr i;go_simp⟩
theorem c0H(w:World)(p:Nat)(x y z u:Value):Off (fun j=>j=p) w ((((w.setCell (aD p 0) x).setCell (aD p 1) y).setCell (aD p 2) z).setCell (aD p 3) u):=
 ((((Off.refl (fun j=>j=p) w).set (p:=⟨p,0,none⟩) rfl x).set (p:=⟨p,1,none⟩) rfl y).set (p:=⟨p,2,none⟩) rfl z).set (p:=⟨p,3,none⟩) rfl u
theorem pD.off{a b c d:Value}(h:pD w p a b c d)(ho:Off S w w')(hS: ¬S p):pD w' p a b c d:=by
 have hp:p<w.heap.size:=World.block_lt_of_cell? _ _ h.c0;have hb:=ho.block p hp hS;exact⟨(World.cell?_of_block (w:=w) (a:=⟨p,0,none⟩) hb).trans h.c0,(World.cell?_of_block (w:=w) (a:=⟨p,1,none⟩) hb).trans h.c1,(World.cell?_of_block (w:=w) (a:=⟨p,2,none⟩) hb).trans h.c2,(World.cell?_of_block (w:=w) (a:=⟨p,3,none⟩) hb).trans h.c3,fun i=>(World.frozen?_of_block (w:=w) (a:=⟨p,i,none⟩) hb).trans (h.fr i)⟩
structure GS(w wr:World)(N:Nat)(v:Value)(u:Int)(g:Vw.Acc):Prop where
 vv:dW wr N (iV u) v
 va:pD wr (N+1) (.string (ByteArray.mk #[])) (iV 0) (iV 0) (.bool false)
 vo: ∃s:ByteArray,s.size≤9223372036854775807∧nb s=g.name∧pD wr (N+1+1) (.string s) (iV g.sum) (iV g.cnt) (.bool g.opn)
 bel:Below N w wr
theorem GS.put{g:Vw.Acc}(h:GS w wr N v u g)(s:ByteArray)(a:Vw.Acc)(hs:s.size≤9223372036854775807)(hn:nb s=a.name):GS w ((((wr.setCell (aD (N+1+1) 0) (.string s)).setCell (aD (N+1+1) 1) (iV a.sum)).setCell (aD (N+1+1) 2) (iV a.cnt)).setCell (aD (N+1+1) 3) (.bool a.opn)) N v u a:=by
 have ho:=c0H wr (N+1+1) (.string s) (iV a.sum) (iV a.cnt) (.bool a.opn);obtain⟨s0,_,_,h3⟩:=h.vo;have hN:N≤N+1+1:=by omega
 exact⟨h.vv.off ho (by omega),h.va.off ho (by omega),⟨s,hs,hn,h3.set4 _ _ _ _⟩,(((h.bel.setCell hN _).setCell hN _).setCell hN _).setCell hN _⟩
theorem yT(u:Int)(t:ByteArray)(vs:Value)(l:List Vw.Acc)(w:World)(h:bJ w vs l)(ht:t.size≤9223372036854775807):
  Calls prog 60 #[.agg #[iV u,vs],.string t] w fun e w'=>c4X e (Vw.get l (nb t))∧Bl w w':=by
 have A8:=h.len;obtain⟨A,C,rfl,_,_,hc⟩:=h;have h1:=aB8 w (.cells #[iV u,.slice A l.length C] 30);have h2:=h1.alloc h1.size (.cells #[.string (ByteArray.mk #[]),iV 0,iV 0,.bool false] 93);have h3:=h2.alloc h2.size (.cells #[.string t,iV 0,iV 0,.bool false] 93);have S0:GS w (((w.alloc (.cells #[iV u,.slice A l.length C] 30)).alloc (.cells #[.string (ByteArray.mk #[]),iV 0,iV 0,.bool false] 93)).alloc (.cells #[.string t,iV 0,iV 0,.bool false] 93)) w.heap.size (.slice A l.length C) u (Vw.fresh (nb t)):=by
  have b2:=aB8 (w.alloc (.cells #[iV u,.slice A l.length C] 30)) (.cells #[.string (ByteArray.mk #[]),iV 0,iV 0,.bool false] 93);have b3:=aB8 ((w.alloc (.cells #[iV u,.slice A l.length C] 30)).alloc (.cells #[.string (ByteArray.mk #[]),iV 0,iV 0,.bool false] 93)) (.cells #[.string t,iV 0,iV 0,.bool false] 93);have V2:=(iF (w.alloc (.cells #[iV u,.slice A l.length C] 30)) 93 (.string (ByteArray.mk #[])) (iV 0) (iV 0) (.bool false)).below b3;have V3:=iF ((w.alloc (.cells #[iV u,.slice A l.length C] 30)).alloc (.cells #[.string (ByteArray.mk #[]),iV 0,iV 0,.bool false] 93)) 93 (.string t) (iV 0) (iV 0) (.bool false);rw[show(w.alloc (.cells #[iV u,.slice A l.length C] 30)).heap.size=w.heap.size+1 by simp]at V2;rw[show((w.alloc (.cells #[iV u,.slice A l.length C] 30)).alloc (.cells #[.string (ByteArray.mk #[]),iV 0,iV 0,.bool false] 93)).heap.size=w.heap.size+1+1 by simp]at V3;exact⟨((aO w 30 (iV u) (.slice A l.length C)).below b2).below b3,V2,⟨t,ht,rfl,V3⟩,h3⟩
 clear h1 h2 h3;go_enter func60,ntmps60
 have v1:=S0.vv.c1;go_wp2_with fail;generalize ((w.alloc (.cells #[iV u,.slice A l.length C] 30)).alloc (.cells #[.string (ByteArray.mk #[]),iV 0,iV 0,.bool false] 93)).alloc (.cells #[.string t,iV 0,iV 0,.bool false] 93)=W0 at S0 v1⊢;clear v1;go_loopw [6] (fun x wr=> ∃j:Nat,j≤l.length∧x=iV ((j:Int)-1)∧GS w wr w.heap.size (.slice A l.length C) u (Vw.get (l.drop j) (nb t))) (fun x _=>(intOf x+1).toNat)
 case atStart=>exact⟨l.length,c9C _,cA (by omega),by rw[d0T];exact S0⟩
 case round=>
  obtain⟨j,hj,rfl,SJ⟩:=hrel;clear S0;have v1:=SJ.vv.c1;rcases Nat.eq_zero_or_pos j with A4|A4
  ·have A5: ¬(0:Int)≤(j:Int)-1:=by omega
   have HG:Hid (GS w wr w.heap.size (.slice A l.length C) u (Vw.get l (nb t))):=by
    have h:=SJ;rw[A4,d2E]at h;exact h
   obtain⟨g,hg⟩: ∃g,Vw.get l (nb t)=g:=⟨_,rfl⟩;have HE:=hd8 hg;rw[hg]at HG;clear hg;obtain⟨s,A3,A1,c0,c1,c2,c3,_⟩:=HG.out.vo;obtain⟨r0,r1,r2,r3,fr⟩:=HG.out.va;have f0:=fr 0;have f1:=fr 1;have f2:=fr 2;have f3:=fr 3;have bb:=HG.out.bel;have hN:w.heap.size≤w.heap.size+1:=by omega
   clear SJ hc HG;go_wp2_with fail;refine bodyPost_ret (v:=.agg #[.string s,iV g.sum,iV g.cnt,.bool g.opn]) (by simp[results,results60,go_sem,r0,r1,r2,r3]) rfl ⟨by rw[HE.out];exact⟨_,rfl,s,A3,A1,rfl⟩,?_⟩;exact(((bb.setCell hN _).setCell hN _).setCell hN _).setCell hN _
  ·obtain⟨i,rfl⟩: ∃i,j=i+1:=⟨j-1,by omega⟩;obtain⟨a,ha⟩: ∃a,l[i]?=some a:=⟨l[i],c9F (by omega)⟩;obtain⟨b,o,rfl,A2⟩:=hc i a ha;obtain⟨s,A3,A1,d0,d1,d2,d3⟩:=A2.below SJ.bel;have HD:=hd8 (Vw.tK ha);have A0:=mV s t;have A6:((i+1:Nat):Int)-1=(i:Int):=by omega
   have A9:(i:Int)<(l.length:Int):=by omega
   rw[A1]at A0;rw[A6];obtain⟨s',_,_,e0,e1,e2,e3,fr⟩:=SJ.vo;have f0:=fr 0;have f1:=fr 1;have f2:=fr 2;have f3:=fr 3;by_cases hq:a.name=nb t
   ·have A7:(s.toList==t.toList)=true:=by
     rw[A0];simpa using hq
    have HS:Hid (GS w ((((wr.setCell (aD (w.heap.size+1+1) 0) (.string s)).setCell (aD (w.heap.size+1+1) 1) (iV a.sum)).setCell (aD (w.heap.size+1+1) 2) (iV a.cnt)).setCell (aD (w.heap.size+1+1) 3) (.bool a.opn)) w.heap.size (.slice (some (aD b o)) l.length C) u (Vw.get (l.drop i) (nb t))):=by
     show GS w _ w.heap.size _ u (Vw.get (l.drop i) (nb t));rw[HD.out,Vw.get,if_pos hq];exact SJ.put s a A3 A1
    clear A0 hq hc ha A2 SJ A1;go_wp2_with fail;exact⟨⟨i,by omega,cA (by omega),HS.out⟩,by simp[intOf]⟩
   ·have A7:(s.toList==t.toList)=false:=by
     rw[A0];simpa using hq
    have HS:Hid (GS w wr w.heap.size (.slice (some (aD b o)) l.length C) u (Vw.get (l.drop i) (nb t))):=by
     show GS w _ w.heap.size _ u (Vw.get (l.drop i) (nb t));rw[HD.out,Vw.get,if_neg hq];exact SJ
    clear A0 hq hc ha A2 SJ A1;go_wp2_with fail;exact⟨⟨i,by omega,cA (by omega),HS.out⟩,by simp[intOf]⟩
theorem b1R(s s':ByteArray)(S c k m:Int)(b:Bool)(w:World):
  Calls prog 100 #[.agg #[.string s,iV S,iV c,.bool b],.agg #[.string s',iV k,iV m]] w fun e w'=>e=.returned (.bool (Vw.may ⟨nb s,S,c,b⟩ ⟨nb s',k,m⟩))∧Bl w w':=by
 have h1:=aB8 w (.cells #[.string s,iV S,iV c,.bool b] 93);have h2:=h1.alloc h1.size (.cells #[.string s',iV k,iV m] 83);by_cases q1:k=1
 ·have H:=hd8 (c6M q1);subst q1;cases b with
  |false=>
   go_enter func100,ntmps100
   go_wp2_with fail;go_ret
   exact⟨by rw[H.out];rfl,h2⟩
  |true=>
   go_enter func100,ntmps100
   go_wp2_with fail;go_ret
   exact⟨by rw[H.out];rfl,h2⟩
 have e1:(k==1)=false:=by rw[beq_eq_false_iff_ne];exact q1
 by_cases q2:k=2
 ·have H:Hid (Vw.may ⟨nb s,S,c,b⟩ ⟨nb s',k,m⟩=b):=zL (Or.inl q2);subst q2;clear q1 e1;cases b with
  |false=>
   go_enter func100,ntmps100
   go_wp2_with fail;go_ret
   exact⟨by rw[H.out];rfl,h2⟩
  |true=>
   go_enter func100,ntmps100
   go_wp2_with fail;go_ret
   exact⟨by rw[H.out];rfl,h2⟩
 have e2:(k==2)=false:=by rw[beq_eq_false_iff_ne];exact q2
 by_cases q4:k=4
 ·have H:Hid (Vw.may ⟨nb s,S,c,b⟩ ⟨nb s',k,m⟩=b):=zL (Or.inr q4);subst q4;clear q1 e1 q2 e2;cases b with
  |false=>
   go_enter func100,ntmps100
   go_wp2_with fail;go_ret
   exact⟨by rw[H.out];rfl,h2⟩
  |true=>
   go_enter func100,ntmps100
   go_wp2_with fail;go_ret
   exact⟨by rw[H.out];rfl,h2⟩
 have e4:(k==4)=false:=by rw[beq_eq_false_iff_ne];exact q4
 by_cases q3:k=3
 ·have H:=hd8 (b8Y q3);subst q3;clear q1 e1 q2 e2 q4 e4;cases b with
  |false=>
   go_enter func100,ntmps100
   go_wp2_with fail;go_ret
   exact⟨by rw[H.out];rfl,h2⟩
  |true=>
   go_enter func100,ntmps100
   go_wp2_with fail;go_ret
   exact⟨by rw[H.out];rfl,h2⟩
 have e3:(k==3)=false:=by rw[beq_eq_false_iff_ne];exact q3
 have H:=hd8 (c3I q1 q2 q3 q4);clear q1 q2 q3 q4;go_enter func100,ntmps100
 go_wp2_with fail;go_ret
 exact⟨by rw[H.out];rfl,h2⟩
theorem c4H{A:Option Addr}{l:List Vw.Acc}(h:bJ w (.slice A n C) l): ∀i a,l[i]?=some a→ ∃b o,A=some (aD b o)∧b7C w b (o+i*4) a:=by
 obtain⟨_,_,hv,_,_,hc⟩:=h;cases hv
 exact hc
open Go.RowKit Go.Maps
theorem KV.off{s:ByteArray}{k m:Int}(h:KV W0 w N u vs s k m)(ho:Off S w w')(hS: ∀j,S j→N+1+1<j)(hW:W0.heap.size≤N:=by exact c9C _):KV W0 w' N u vs s k m:=by
 have h0:N<w.heap.size:=World.block_lt_of_cell? _ _ h.v0;have h1:N+1<w.heap.size:=World.block_lt_of_cell? _ _ h.e0;have h2:N+1+1<w.heap.size:=World.block_lt_of_cell? _ _ h.r0;have hb: ∀j,j≤N+1+1→w'.heap[j]?=w.heap[j]?:=fun j hj=>ho.block j (by omega) (fun q=>by have:=hS j q;omega);refine⟨(World.cell?_of_block (w:=w) (a:=⟨N,0,none⟩) (hb N (by omega))).trans h.v0,(World.cell?_of_block (w:=w) (a:=⟨N,1,none⟩) (hb N (by omega))).trans h.v1,(World.cell?_of_block (w:=w) (a:=⟨N+1,0,none⟩) (hb (N+1) (by omega))).trans h.e0,(World.cell?_of_block (w:=w) (a:=⟨N+1,1,none⟩) (hb (N+1) (by omega))).trans h.e1,(World.cell?_of_block (w:=w) (a:=⟨N+1,2,none⟩) (hb (N+1) (by omega))).trans h.e2,(World.cell?_of_block (w:=w) (a:=⟨N+1+1,0,none⟩) (hb (N+1+1) (by omega))).trans h.r0,(World.cell?_of_block (w:=w) (a:=⟨N+1+1,1,none⟩) (hb (N+1+1) (by omega))).trans h.r1,fun i=>(World.frozen?_of_block (w:=w) (a:=⟨N+1+1,i,none⟩) (hb (N+1+1) (by omega))).trans (h.fr i),?_⟩;exact h.bel.trans (ho.below (by omega) (fun j hj=>by have:=hS j hj;omega))
theorem Tryz.zeroInt(w:World):(zeroValue 3).run Tryz.prog w=.ok (iV 0) w:=by kernel_rfl
theorem Tryz.mapIntInt:Tryz.prog.underlying 150=some (.map 3 3):=by kernel_rfl
theorem b2D:Keyed prog 3:=int_keyed underlying3
def qF(k:Int):Int:=if k=2 then 1 else if k=3 then -1 else 0
theorem map7(w:World): ∃W1 W2,(Instr.mapUpdate 150 (.map (some w.heap.size)) (iV 2) (iV 1)).run prog (w.alloc (.map #[] 0))=.ok () W1∧(Instr.mapUpdate 150 (.map (some w.heap.size)) (iV 3) (iV (-1))).run prog W1=.ok () W2∧
  (∀k:Int,1≤k→k≤4→(Instr.lookup 150 (.map (some w.heap.size)) (iV k) false).run prog W2=.ok (iV (qF k)) W2)∧Bl w W2:=by
 have h0:(w.alloc (.map #[] 0)).ownsMap (H:=Unit) prog 3 (plainElem prog 3) w.heap.size 0 (.map []):=World.ownsMap_made _ _ _ _;have A1: ∀k:Int,1≤k→k≤4→keyOf prog 3 (iV k)=some (iV k):=fun k h1 h2=>keyOf_int_mk underlying3 (WalkArith.wf_i64 (by omega));obtain⟨W1,r1,o1,g1⟩:=h0.update b2D Tryz.mapIntInt (by unfold maxLen;omega) (A1 2 (by omega) (by omega)) (plainElem_int underlying3 (a:=1) (WalkArith.wf_i64 (by omega)));obtain⟨W2,r2,o2,g2⟩:=o1.update b2D Tryz.mapIntInt (by unfold maxLen;omega) (A1 3 (by omega) (by omega)) (plainElem_int underlying3 (a:= -1) (WalkArith.wf_i64 (by omega)));have b0:=aB8 w (.map #[] 0);have b1:=b0.grown g1 b0.size (fun x hx=>by cases hx;exact c9C _);have b2:=b1.grown g2 b1.size (fun x hx=>by cases hx;exact c9C _);refine⟨W1,W2,r1,r2,fun k k1 k4=>?_,b2⟩;obtain⟨c,A2,A0,_⟩:=o2.lookup_int b2D Tryz.mapIntInt underlying3 (Tryz.zeroInt W2) (A1 k k1 k4);have A4:IsMap ((DataW.map []:DataW Unit).put (iV 2) (.lit (iV 1))):=by
  obtain⟨es,A3,_,_,_,hD⟩:=o1;exact⟨_,hD⟩
 rw[A2];unfold qF;by_cases h3:k=3
 ·subst h3;rw[atKey_put_same (k:=iV 3) A4 trivial]at A0;simp at A0;rw[←A0];rfl
 ·rw[atKey_put_other (fun q=>by simp at q;omega)]at A0;by_cases h2:k=2
  ·subst h2;rw[atKey_put_same (k:=iV 2) ⟨_,rfl⟩ trivial]at A0;simp at A0;rw[←A0];rfl
  ·rw[atKey_put_other (fun q=>by simp at q;omega)]at A0;rw[if_neg h2,if_neg h3];have A0:(DataW.lit (Lit.int .i64 0):DataW Unit)=.lit (iV c):=A0;simp at A0;rw[A0]
structure AS(w wr:World)(P O B:Nat)(u:Int)(vs:Value)(s:ByteArray)(k m:Int)(q:AcC)(ov:Value)(os:List AcC):Prop where
 kv:KV w wr w.heap.size u vs s k m
 va:pD wr P (.string q.1) (iV q.2.1) (iV q.2.2.1) (.bool q.2.2.2)
 vo:dW wr O (iV (u+1)) ov
 bu:eV wr B ov os
 lo:w.heap.size+1+1<P
 po:P<O
 ob:O<B
 bl:B≤wr.heap.size
theorem AS.below{s:ByteArray}{k m:Int}{q:AcC}{os:List AcC}(h:AS w wr P O B u vs s k m q ov os)(hb:Bl wr w'):AS w w' P O B u vs s k m q ov os:=
 ⟨h.kv.below hb,h.va.below hb,h.vo.below hb,h.bu.below hb,h.lo,h.po,h.ob,c9E h.bl hb.size⟩
theorem AS.app{s:ByteArray}{k m:Int}{q:AcC}{os:List AcC}(h:AS w wr P O B u vs s k m q ov os)(x:AcC)(hx:x.1.size≤9223372036854775807)(hn:os.length≤1000):
  ∃v' w',(Builtin.append_ #[28,28] 28 #[ov,.slice (some (aD wr.heap.size 0)) 1 1]).run prog (wr.alloc (.cells #[.string x.1,iV x.2.1,iV x.2.2.1,.bool x.2.2.2] 93))=.ok v' w'∧dW w' O (iV (u+1)) ov∧AS w (w'.setCell (aD O 1) v') P O B u vs s k m q v' (os++[x])∧ ∀X a b c d,pD wr X a b c d→ov.ownBlock≠some X→X≠O→pD (w'.setCell (aD O 1) v') X a b c d:=by
 have bA:=aB8 wr (.cells #[.string x.1,iV x.2.1,iV x.2.2.1,.bool x.2.2.2] 93);have h1:=h.below bA;obtain⟨i4,A7,A3⟩:=c9J.1 Tryz.infoAccount;simp only[Prod.mk.injEq]at A3;obtain⟨A6,A5,A4⟩:=A3;obtain⟨v',w',A2,A0,hg,_⟩:=run_append_own (P:=prog) _ B 28 28 93 i4 _ 4 40 underlying28 A7 A6 A5 A4 rfl (by decide) ov os.length _ h1.bu.1 (aD wr.heap.size 0) 1 1 ([x].flatMap aP) rfl (eE wr _ 93) (uM [x]) (by unfold maxLen;omega) (by omega) h1.bl;have ho:=cJ hg;have A1: ∀g,ov.ownBlock=some g→B≤g:=fun g hg=>(h.bu.1.lt g hg).1;have lo:=h.lo;have po:=h.po;have ob:=h.ob;have k1:=h1.kv.off ho (fun j hj=>by have:=A1 j hj;omega);have a1:=h1.va.off ho (fun e=>by have:=A1 P e;omega);have o1:=h1.vo.off ho (fun e=>by have:=A1 O e;omega);have hs:=aG w' (aD O 1) v';refine⟨v',w',A2,o1,⟨k1.off hs (fun j hj=>by have hj:j=O:=hj;omega),a1.off hs (fun e=>by have e:P=O:=e;omega),o1.set1 v',⟨?_,fun e he=>?_⟩,lo,po,ob,?_⟩,fun X a b c d hX hne hXO=>((hX.below bA).off ho hne).off hs hXO⟩
 ·rw[c9I,d0H];exact bC A0 hs (fun g hg e=>by have h2:=(A0.lt g hg).1;have e:g=O:=e;omega)
 ·rcases List.mem_append.1 he with q|q
  ·exact h.bu.2 e q
  ·rw[d1Z.1 q];exact hx
 ·rw[Deep.nblk_setCell];exact c9E h1.bl hg.size
theorem AS.tell{s:ByteArray}{k m:Int}{q:AcC}{os:List AcC}(h:AS w wr P O B u vs s k m q ov os)(a b:Value):bJ ((wr.setCell (aD (w.heap.size+1+1) 0) a).setCell (aD (w.heap.size+1+1) 1) b) ov (os.map gD):=by
 have ho:=((Off.refl (fun j=>j=w.heap.size+1+1) wr).set (p:=⟨w.heap.size+1+1,0,none⟩) rfl a).set (p:=⟨w.heap.size+1+1,1,none⟩) rfl b;have lo:=h.lo;have po:=h.po;have ob:=h.ob
 exact eV.accs ⟨bC h.bu.1 ho (fun g hg e=>by
  have:=(h.bu.1.lt g hg).1
  omega),h.bu.2⟩
theorem AS.past{s:ByteArray}{k m:Int}{q:AcC}{os:List AcC}(h:AS w wr P O B u vs s k m q ov os):kF w.heap.size ov:=h.bu.past.mono (by
 have lo:=h.lo
 have po:=h.po
 have ob:=h.ob
 omega)
theorem AS.slice{s:ByteArray}{k m:Int}{q:AcC}{os:List AcC}(h:AS w wr P O B u vs s k m q ov os): ∃Q n C,ov=.slice Q n C:=by
 obtain⟨Q,C,e⟩:=h.bu.accs.shape;exact⟨Q,_,C,e⟩
theorem a3Y(u:Int)(vs:Value)(l:List Vw.Acc)(s:ByteArray)(k m:Int)(w:World)(h:bJ w vs l)(hs:s.size≤9223372036854775807):
  Calls prog 67 #[.agg #[iV u,vs],.agg #[.string s,iV k,iV m]] w fun e w'=>ApO e w' w.heap.size (Vw.bK u l ⟨nb s,k,m⟩)∧Bl w w':=by
 obtain⟨A,C,rfl⟩:=h.shape;have K0:=c2I w u (.slice A l.length C) s k m;have HA:Hid (∀w',Bl w w'→bJ w' (.slice A l.length C) l):=fun w' hb=>h.below hb;clear h;have HW:=fun w' (hb:Bl w w')=>qS u (.slice A l.length C) l w' (HA.out w' hb);have HE:=fun w'=>qP s k m w' hs;obtain⟨x,hx⟩: ∃x,(Vw.aR u l).1=x:=⟨_,rfl⟩;obtain⟨y,hy⟩: ∃y,(Vw.aR u l).2=y:=⟨_,rfl⟩;have HX:Hid ((Vw.aR u l).1=x):=hx;unfold jQ at HW;rw[hx,hy]at HW;obtain⟨z,hz⟩: ∃z,Evt.aB ⟨nb s,k,m⟩=z:=⟨_,rfl⟩;have HZ:Hid (Evt.aB ⟨nb s,k,m⟩=z):=hz;rw[hz]at HE;clear hx hy hz;go_enter func67,ntmps67
 go_wp2_with fail;generalize ((w.alloc (.cells #[iV u,.slice A l.length C] 30)).alloc (.cells #[.string s,iV k,iV m] 83)).alloc (.cells #[iV 0,nS] 30)=W0 at K0⊢;refine(HW _ K0.bel).mono ?_;rintro e w1 ⟨rfl,b1⟩;have K1:=K0.below b1;have bF:=aB8 w1 (.cells #[iV x,iV y] 78);have VF:=aO w1 78 (iV x) (iV y);have K2:=K1.below bF;have Ay:w.heap.size+1+1<w1.heap.size:=World.block_lt_of_cell? _ _ K1.r0;clear K0 K1 HW b1;by_cases Ag:x=0
 case neg=>
  have HF:Hid (Vw.bK u l ⟨nb s,k,m⟩=(x,0,[])):=by
   show _=_;rw[Vw.rR (by rw[HX.out];exact Ag),HX.out]
  have Bm:((x:Int) !=0)=true:=by rw[bne_iff_ne];omega
  clear HE Ag;go_wp2_with fail;generalize w1.alloc (.cells #[iV x,iV y] 78)=w2 at K2 VF⊢;have c0:=VF.c0;have r0:=K2.r0;have r1:=K2.r1;have f0:=K2.fr 0;have f1:=K2.fr 1;have bb:=K2.bel;have B3:w1.heap.size≠w.heap.size+1+1:=by omega
  have Am:w.heap.size+1+1≠w1.heap.size:=by omega
  clear K2 VF bF Ay;go_region
  go_wp2_with fail;refine bodyPost_ret (v:=.tuple #[.agg #[iV 0,nS],iV x]) (by simp[results,results67,go_sem,r0,r1]) rfl ⟨by rw[HF.out];exact lD _ _ x,?_⟩;exact(bb.drew.setCell (by show w.heap.size≤w.heap.size+1+1;omega) _).setCell (by show w.heap.size≤w.heap.size+1+1;omega) _
 have HX:=hd8 (HX.out.trans Ag);subst Ag;have Ae:Hid (KV w (w1.alloc (.cells #[iV 0,iV y] 78)) w.heap.size u (.slice A l.length C) s k m):=K2;clear K2;obtain⟨v0,v1,e0,e1,e2,_,_,_,_⟩:=Ae.out;clear VF Ay;by_cases Ad:z=0
 case neg=>
  have HF:Hid (Vw.bK u l ⟨nb s,k,m⟩=(z,0,[])):=by
   show _=_;rw[Vw.oL HX.out (by rw[HZ.out];exact Ad),HZ.out]
  have Bj:((z:Int) !=0)=true:=by rw[bne_iff_ne];omega
  clear Ad;go_wp2_with fail;refine(HE _).mono ?_;rintro e w3 ⟨rfl,b3⟩;have K3:=Ae.out.below b3;clear HE b3 e0 e1 e2 v0 v1;have r0:=K3.r0;have r1:=K3.r1;have f0:=K3.fr 0;have f1:=K3.fr 1;have bb:=K3.bel;clear K3;go_wp2_with fail;refine bodyPost_ret (v:=.tuple #[.agg #[iV 0,nS],iV z]) (by simp[results,results67,go_sem,r0,r1]) rfl ⟨by rw[HF.out];exact lD _ _ z,?_⟩;exact(bb.setCell (by show w.heap.size≤w.heap.size+1+1;omega) _).setCell (by show w.heap.size≤w.heap.size+1+1;omega) _
 have HZ:=hd8 (HZ.out.trans Ad);subst Ad;by_cases hu:u=150
 ·have HF:Hid (Vw.bK u l ⟨nb s,k,m⟩=(5,0,[])):=Vw.rK HX.out HZ.out hu;have Bb:(150:Int)≤u:=by omega
  clear hu;go_wp2_with fail;refine(HE _).mono ?_;rintro e w3 ⟨rfl,b3⟩;have K3:=Ae.out.below b3;clear HE b3 e0 e1 e2 v0 v1;have v0:=K3.v0;have r0:=K3.r0;have r1:=K3.r1;have f0:=K3.fr 0;have f1:=K3.fr 1;have bb:=K3.bel;clear K3;go_wp2_with fail;refine bodyPost_ret (v:=.tuple #[.agg #[iV 0,nS],iV 5]) (by simp[results,results67,go_sem,r0,r1]) rfl ⟨by rw[HF.out];exact lD _ _ 5,?_⟩;exact(bb.setCell (by show w.heap.size≤w.heap.size+1+1;omega) _).setCell (by show w.heap.size≤w.heap.size+1+1;omega) _
 have Bb: ¬(150:Int)≤u:=by
  have:=(Vw.iO HX.out).hi;omega
 have HU:=hd8 hu;clear hu;go_wp2_with fail;refine(HE _).mono ?_;rintro e w3 ⟨rfl,b3⟩;have K3:=Ae.out.below b3;clear HE b3 e0 e1 e2 v0 v1;have v0:=K3.v0;have v1:=K3.v1;have e0:=K3.e0;have B5:=Vw.oH l (nb s);have HG:=yT u s (.slice A l.length C) l w3 (HA.out w3 K3.bel) hs;obtain⟨y,hy⟩: ∃y,Vw.may (Vw.get l (nb s)) ⟨nb s,k,m⟩=y:=⟨_,rfl⟩;have HY:=hd8 hy;obtain⟨a,ha⟩: ∃a,Vw.get l (nb s)=a:=⟨_,rfl⟩;have Aa:=hd8 ha;rw[ha]at HG hy B5;clear ha;have HM: ∀sg:ByteArray,nb sg=a.name→ ∀w',Calls prog 100 #[.agg #[.string sg,iV a.sum,iV a.cnt,.bool a.opn],.agg #[.string s,iV k,iV m]] w' fun e w''=>e=.returned (.bool y)∧Bl w' w'':=fun sg hg w'=>by
  have h:=b1R sg s a.sum a.cnt k m a.opn w';rw[hg]at h;rw[←hy];exact h
 clear hy;go_wp2_with fail;refine HG.mono ?_;rintro e w5 ⟨⟨v5,rfl,sg,An,Au,rfl⟩,b5⟩;have K5:=K3.below b5;have bA:=aB8 w5 (.cells #[.string sg,iV a.sum,iV a.cnt,.bool a.opn] 93);have VA:=iF w5 93 (.string sg) (iV a.sum) (iV a.cnt) (.bool a.opn);have Bn:w.heap.size+1+1<w5.heap.size:=World.block_lt_of_cell? _ _ K5.r0;have K6:=K5.below bA;have HM:=HM sg Au (w5.alloc (.cells #[.string sg,iV a.sum,iV a.cnt,.bool a.opn] 93));clear HG K3 K5 v0 v1 e0;have e0:=K6.e0;have e1:=K6.e1;have e2:=K6.e2;go_wp2_with fail;generalize w5.alloc (.cells #[.string sg,iV a.sum,iV a.cnt,.bool a.opn] 93)=w6 at HM K6 VA bA e0 e1 e2⊢;refine HM.mono ?_;rintro e w7 ⟨rfl,b7⟩;have K7:=K6.below b7;have VA:=VA.below b7;clear HM K6 e0 e1 e2;cases y with
 |false=>
  have HF:=hd8 (Vw.vD HX.out HZ.out HU.out HY.out);have r0:=K7.r0;have r1:=K7.r1;have f0:=K7.fr 0;have f1:=K7.fr 1;have bb:=K7.bel;clear K7;go_wp2_with fail;refine bodyPost_ret (v:=.tuple #[.agg #[iV 0,nS],iV 8]) (by simp[results,results67,go_sem,r0,r1]) rfl ⟨by rw[HF.out];exact lD _ _ 8,?_⟩;exact(bb.setCell (by show w.heap.size≤w.heap.size+1+1;omega) _).setCell (by show w.heap.size≤w.heap.size+1+1;omega) _
 |true=>
  have HF:=hd8 (Vw.xX HX.out HZ.out HU.out HY.out);obtain⟨_,k1,k4,m0,m1⟩:=Evt.eN HZ.out;have k1:1≤k:=k1;have k4:k≤4:=k4;have m0:0≤m:=m0;have m1:m≤1000000:=m1;obtain⟨a1,a2,a3,a4⟩:0≤a.cnt∧a.cnt≤150∧ -150000000≤a.sum∧a.sum≤150000000:=by
   have hr:=Vw.iO HX.out;rcases Vw.wO l (nb s)with q|q
   ·rw[Aa.out]at q;obtain⟨_,r1,r2,r3,r4⟩:=Vw.fL (hr.acc a q);have:=hr.hi;omega
   ·rw[Aa.out]at q;rw[q];show 0≤(0:Int)∧(0:Int)≤150∧ -150000000≤(0:Int)∧(0:Int)≤150000000;omega
  have hw:wrap64 (a.cnt+1)=a.cnt+1:=by
   unfold wrap64;omega
  have B2:=@run_makeMap prog;obtain⟨g0,g1,g2,g3,gf⟩:=VA;have B9:=gf 1;have B1:=gf 2;have Bh:=gf 3;have e0:=K7.e0;have e1:=K7.e1;have e2:=K7.e2;have B3:w5.heap.size≠w.heap.size+1:=by omega
  have Am:w.heap.size+1≠w5.heap.size:=by omega
  have v0:=K7.v0;have v1:=K7.v1;have n7:w5.heap.size<w7.heap.size:=World.block_lt_of_cell? _ _ g0;have Ax:=hd8 K7;obtain⟨X,hX⟩: ∃X,X=(w7.setCell (aD w5.heap.size 2) (iV (a.cnt+1))).setCell (aD w5.heap.size 3) (.bool (k !=4)):=⟨_,rfl⟩;have Av:Off (fun j=>j=w5.heap.size) w7 X:=by
   rw[hX];exact((Off.refl (fun j=>j=w5.heap.size) w7).set (p:=⟨w5.heap.size,2,none⟩) rfl _).set (p:=⟨w5.heap.size,3,none⟩) rfl _
  have VX:pD X w5.heap.size (.string sg) (iV a.sum) (iV (a.cnt+1)) (.bool (k !=4)):=by
   rw[hX];exact⟨by go_simp,by go_simp,by go_simp,by go_simp,fun i=>by have:=gf i;go_simp⟩
  have KX:KV w X w.heap.size u (.slice A l.length C) s k m:=Ax.out.off Av (fun j hj=>by omega);go_upto_region 14 with fail
  rw[←hX];clear g0 g1 g2 g3 gf B9 B1 Bh e0 e1 e2 v0 v1 K7 hX Av Ax;obtain⟨W1,W2,B7,Bi,Aj,bm⟩:=map7 X;have Aj:=Aj k k1 k4;have hp: -1000000≤m*qF k∧m*qF k≤1000000:=by
   unfold qF;by_cases q2:k=2
   ·rw[if_pos q2];omega
   ·rw[if_neg q2];by_cases q3:k=3
    ·rw[if_pos q3];omega
    ·rw[if_neg q3];omega
  have A7:Hid (a.sum+m*qF k=(Vw.chg a ⟨nb s,k,m⟩).sum):=by
   show a.sum+m*qF k=if k=2 then a.sum+m else if k=3 then a.sum-m else a.sum;unfold qF;by_cases q2:k=2
   ·rw[if_pos q2,if_pos q2];omega
   ·rw[if_neg q2,if_neg q2];by_cases q3:k=3
    ·rw[if_pos q3,if_pos q3];omega
    ·rw[if_neg q3,if_neg q3];omega
  have Ab:Hid ((k !=4)=(Vw.chg a ⟨nb s,k,m⟩).opn):=by
   have A3:Vw.may a ⟨nb s,k,m⟩=true:=by rw[←Aa.out];exact HY.out
   show(k !=4)=if k=1 then true else if k=4 then false else a.opn;rcases(show k=1∨k=2∨k=3∨k=4 by omega)with rfl|rfl|rfl|rfl
   ·rfl
   ·rw[zL (Or.inl rfl)]at A3;rw[show a.opn=true from A3];rfl
   ·rw[b8Y rfl,Bool.and_eq_true]at A3;rw[show a.opn=true from A3.1];rfl
   ·rfl
  have KM:=KX.below bm;have VM:=VX.below bm;have Bc:wrap64 (m*qF k)=m*qF k:=by
   unfold wrap64;omega
  have Bf:wrap64 (a.sum+m*qF k)=a.sum+m*qF k:=by
   unfold wrap64;omega
  have VS:pD (W2.setCell (aD w5.heap.size 1) (iV (a.sum+m*qF k))) w5.heap.size (.string sg) (iV (a.sum+m*qF k)) (iV (a.cnt+1)) (.bool (k !=4)):=by
   obtain⟨c0,c1,c2,c3,cf⟩:=VM;exact⟨by go_simp,by go_simp,by go_simp,by go_simp,fun i=>by have:=cf i;go_simp⟩
  have KS:KV w (W2.setCell (aD w5.heap.size 1) (iV (a.sum+m*qF k))) w.heap.size u (.slice A l.length C) s k m:=KM.off (aG W2 (aD w5.heap.size 1) _) (fun j hj=>by have hj:j=w5.heap.size:=hj;omega);have x1:=VX.c1;have y2:=KX.e2;have z1:=KM.e1;have c1:=VM.c1;have B8:=VM.fr 1;clear bm;go_upto_region 15 with fail
  generalize W2.setCell (aD w5.heap.size 1) (iV (a.sum+m*qF k))=WS at VS KS⊢;rw[A7.out,Ab.out,show a.cnt+1=(Vw.chg a ⟨nb s,k,m⟩).cnt from rfl]at VS;have At:Hid (Vw.put l ⟨nb s,k,m⟩=Vw.rest (nb s) (Vw.chg a ⟨nb s,k,m⟩) false l):=by
   show _=_;rw[←Aa.out];exact(Vw.a6C (e:=⟨nb s,k,m⟩) (Vw.iO HX.out).srt).symm
  have Ao:nb sg=(Vw.chg a ⟨nb s,k,m⟩).name:=Au;have Bo:=(Vw.iO HX.out).lo;have Az:=(Vw.iO HX.out).len;clear x1 y2 z1 c1 B8 Bc Bf VX KX VM KM B7 Bi Aj hp A7 Ab HY Aa hw B2;generalize Vw.chg a ⟨nb s,k,m⟩=ca at VS At Ao;have Br:wrap64 (u+1)=u+1:=by
   unfold wrap64;omega
  have s5:w5.heap.size<WS.heap.size:=World.block_lt_of_cell? _ _ VS.c0;have bO:=aB8 WS (.cells #[iV (u+1),nS] 30);have S0:AS w (WS.alloc (.cells #[iV (u+1),nS] 30)) w5.heap.size WS.heap.size (WS.heap.size+1) u (.slice A l.length C) s k m (sg,ca.sum,ca.cnt,ca.opn) nS []:=
   ⟨KS.below bO,VS.below bO,aO WS 30 _ _,eV.nil _ _,by omega,s5,d1F _,by simp⟩
  have v0:=KS.v0;have v1:=S0.kv.v1;go_upto_region 18 with fail
  generalize WS.alloc (.cells #[iV (u+1),nS] 30)=WO at S0 v1 bO⊢;clear v0 v1 KS VS bO;go_loopw [10,67] (fun yd z wr=> ∃(d:Bool) (i:Nat) (ov:Value) (os:List AcC),i≤l.length∧z=iV i∧yd=.bool d∧AS w wr w5.heap.size WS.heap.size (WS.heap.size+1) u (.slice A l.length C) s k m (sg,ca.sum,ca.cnt,ca.opn) ov os∧os.length≤2*i∧Hid (Vw.put l ⟨nb s,k,m⟩=os.map gD++Vw.rest (nb s) ca d (l.drop i))) (fun _ z _=>l.length-(intOf z).toNat)
  case atStart=>exact⟨false,0,_,[],c9D _,rfl,rfl,S0,c9C _,At.out⟩
  case round=>
   obtain⟨d,i,ov,os,hi,rfl,rfl,SR,Bk,HR⟩:=hrel;clear S0;obtain⟨Qv,nv,Cv,rfl⟩:=SR.slice;have AL:=HA.out wr SR.kv.bel;by_cases B6:i<l.length
   ·have B4:(i:Int)<(l.length:Int):=by omega
    obtain⟨x,hx⟩: ∃x,l[i]?=some x:=⟨l[i],c9F B6⟩;obtain⟨b,o,rfl,Be⟩:=c4H AL i x hx;obtain⟨sx,Al,Ar,d0,d1,d2,d3⟩:=Be;have HD:=hd8 (Vw.tK hx);have Aq:Hid (gD (sx,x.sum,x.cnt,x.opn)=x):=by
     show(⟨nb sx,_,_,_⟩:Vw.Acc)=x;rw[Ar]
    have Af:Hid (gD (sg,ca.sum,ca.cnt,ca.opn)=ca):=by
     show(⟨nb sg,_,_,_⟩:Vw.Acc)=ca;rw[Ao]
    have A5:=wQ sx s;have A0:=mV sx s;rw[Ar]at A5 A0;have bX:=aB8 wr (.cells #[.string sx,iV x.sum,iV x.cnt,.bool x.opn] 93);have SX:=SR.below bX;have VX:=iF wr 93 (.string sx) (iV x.sum) (iV x.cnt) (.bool x.opn);have A8:(Value.slice Qv nv Cv).ownBlock≠some wr.heap.size:=fun e=>by
     have:=(SR.bu.1.lt _ e).2;omega
    have Ac:(wr.alloc (.cells #[.string sx,iV x.sum,iV x.cnt,.bool x.opn] 93)).heap.size=wr.heap.size+1:=by simp
    have Bq:=SR.bl;have As:wr.heap.size≠WS.heap.size:=by omega
    clear hx Ar SR;obtain⟨L,hL⟩: ∃L,Vw.lt x.name (nb s)=L:=⟨_,rfl⟩;rw[hL]at A5;by_cases hq:x.name=nb s
    ·have A9:(sx.toList==s.toList)=true:=by
      rw[A0];simpa using hq
     have Ba:L=false:=by rw[←hL,hq,Vw.lt_irrefl]
     subst Ba;cases d with
     |true=>
      have HN:Hid (AS w (wr.alloc (.cells #[.string sx,iV x.sum,iV x.cnt,.bool x.opn] 93)) w5.heap.size WS.heap.size (WS.heap.size+1) u (.slice (some (aD b o)) l.length C) s k m (sg,ca.sum,ca.cnt,ca.opn) (.slice Qv nv Cv) os∧Vw.put l ⟨nb s,k,m⟩=os.map gD++Vw.rest (nb s) ca true (l.drop (i+1))):=⟨SX,by
       rw[HR.out,HD.out,Vw.rest,if_neg (fun q=>by cases q.1),if_pos hq]
       rfl⟩
      have y0:=SX.kv.e0;obtain⟨g0,_,_,_,_⟩:=VX;clear SX hL hq A0;go_wp2_with fail;exact⟨⟨true,i+1,_,_,by omega,by go_num,rfl,HN.out.1,by omega,HN.out.2⟩,by simp[intOf];omega⟩
     |false=>
      obtain⟨v1,A6,A2,A4,S1,A1⟩:=SX.app (sg,ca.sum,ca.cnt,ca.opn) An (by omega);have Ak:=A1 _ _ _ _ _ VX A8 As
      have HN:Hid (AS w (A6.setCell (aD WS.heap.size 1) v1) w5.heap.size WS.heap.size (WS.heap.size+1) u (.slice (some (aD b o)) l.length C) s k m (sg,ca.sum,ca.cnt,ca.opn) v1 (os++[(sg,ca.sum,ca.cnt,ca.opn)])∧Vw.put l ⟨nb s,k,m⟩=(os++[(sg,ca.sum,ca.cnt,ca.opn)]).map gD++Vw.rest (nb s) ca true (l.drop (i+1))):=⟨S1,by
       rw[HR.out,HD.out,Vw.rest,if_pos ⟨rfl,hL⟩,if_pos hq,hL,c9U];show _=(os.map gD++[gD (sg,ca.sum,ca.cnt,ca.opn)])++_;rw[Af.out,c9X]
       rfl⟩
      rw[Ac]at A2;have y0:=SX.kv.e0;have y1:=S1.kv.e0;obtain⟨g0,_,_,_,_⟩:=VX;obtain⟨h0,_,_,_,_⟩:=Ak;obtain⟨a0,a1,a2,a3,_⟩:=SX.va;have o1:=SX.vo.c1;obtain⟨p0,p1,pf⟩:=A4;have Ah:=pf 1;obtain⟨Q1,n1,C1,rfl⟩:=S1.slice;clear SX S1 hL hq A1 pf A0;go_wp2_with (at_builtin;refine Lib.wpList_append_run _ rfl _ _ _ _ rfl _ _ rfl rfl _ _ A2 ?_);exact⟨⟨true,i+1,_,_,by omega,by go_num,rfl,HN.out.1,by simp;omega,HN.out.2⟩,by simp[intOf];omega⟩
    ·have A9:(sx.toList==s.toList)=false:=by
      rw[A0];simpa using hq
     cases d with
     |true=>
      obtain⟨v1,A6,A2,A4,S1,A1⟩:=SX.app (sx,x.sum,x.cnt,x.opn) Al (by omega)
      have HN:Hid (AS w (A6.setCell (aD WS.heap.size 1) v1) w5.heap.size WS.heap.size (WS.heap.size+1) u (.slice (some (aD b o)) l.length C) s k m (sg,ca.sum,ca.cnt,ca.opn) v1 (os++[(sx,x.sum,x.cnt,x.opn)])∧Vw.put l ⟨nb s,k,m⟩=(os++[(sx,x.sum,x.cnt,x.opn)]).map gD++Vw.rest (nb s) ca true (l.drop (i+1))):=⟨S1,by
       rw[HR.out,HD.out,Vw.rest,if_neg (fun q=>by cases q.1),if_neg hq,hL,List.map_append];show _=(os.map gD++[gD (sx,x.sum,x.cnt,x.opn)])++_;rw[Aq.out,c9X]
       rfl⟩
      rw[Ac]at A2;have y0:=SX.kv.e0;obtain⟨g0,g1,g2,g3,_⟩:=VX;have o1:=SX.vo.c1;obtain⟨p0,p1,pf⟩:=A4;have Ah:=pf 1;obtain⟨Q1,n1,C1,rfl⟩:=S1.slice;clear SX S1 hL hq A1 pf A0;go_wp2_with (at_builtin;refine Lib.wpList_append_run _ rfl _ _ _ _ rfl _ _ rfl rfl _ _ A2 ?_);exact⟨⟨true,i+1,_,_,by omega,by go_num,rfl,HN.out.1,by simp;omega,HN.out.2⟩,by simp[intOf];omega⟩
     |false=>
      cases L with
      |true=>
       obtain⟨v1,A6,A2,A4,S1,A1⟩:=SX.app (sx,x.sum,x.cnt,x.opn) Al (by omega)
       have HN:Hid (AS w (A6.setCell (aD WS.heap.size 1) v1) w5.heap.size WS.heap.size (WS.heap.size+1) u (.slice (some (aD b o)) l.length C) s k m (sg,ca.sum,ca.cnt,ca.opn) v1 (os++[(sx,x.sum,x.cnt,x.opn)])∧Vw.put l ⟨nb s,k,m⟩=(os++[(sx,x.sum,x.cnt,x.opn)]).map gD++Vw.rest (nb s) ca false (l.drop (i+1))):=⟨S1,by
        rw[HR.out,HD.out,Vw.rest,if_neg (fun q=>by rw[hL]at q;cases q.2),if_neg hq,hL,List.map_append];show _=(os.map gD++[gD (sx,x.sum,x.cnt,x.opn)])++_;rw[Aq.out,c9X]
        rfl⟩
       rw[Ac]at A2;have y0:=SX.kv.e0;obtain⟨g0,g1,g2,g3,_⟩:=VX;have o1:=SX.vo.c1;obtain⟨p0,p1,pf⟩:=A4;have Ah:=pf 1;obtain⟨Q1,n1,C1,rfl⟩:=S1.slice;clear SX S1 hL hq A1 pf A0;go_wp2_with (at_builtin;refine Lib.wpList_append_run _ rfl _ _ _ _ rfl _ _ rfl rfl _ _ A2 ?_);exact⟨⟨false,i+1,_,_,by omega,by go_num,rfl,HN.out.1,by simp;omega,HN.out.2⟩,by simp[intOf];omega⟩
      |false=>
       obtain⟨v1,A6,A2,A4,S1,A1⟩:=SX.app (sg,ca.sum,ca.cnt,ca.opn) An (by omega);have Ak:=A1 _ _ _ _ _ VX A8 As;obtain⟨v2,B0,Aw,Bg,S2,_⟩:=S1.app (sx,x.sum,x.cnt,x.opn) Al (by simp;omega)
       have HN:Hid (AS w (B0.setCell (aD WS.heap.size 1) v2) w5.heap.size WS.heap.size (WS.heap.size+1) u (.slice (some (aD b o)) l.length C) s k m (sg,ca.sum,ca.cnt,ca.opn) v2 (os++[(sg,ca.sum,ca.cnt,ca.opn)]++[(sx,x.sum,x.cnt,x.opn)])∧Vw.put l ⟨nb s,k,m⟩=(os++[(sg,ca.sum,ca.cnt,ca.opn)]++[(sx,x.sum,x.cnt,x.opn)]).map gD++Vw.rest (nb s) ca true (l.drop (i+1))):=⟨S2,by
        rw[HR.out,HD.out,Vw.rest,if_pos ⟨rfl,hL⟩,if_neg hq,hL,c9U,c9U];show _=(os.map gD++[gD (sg,ca.sum,ca.cnt,ca.opn)]++[gD (sx,x.sum,x.cnt,x.opn)])++_;rw[Af.out,Aq.out,c9X,c9X]
        rfl⟩
       rw[Ac]at A2;rw[Deep.nblk_setCell]at Aw;have y0:=SX.kv.e0;have y1:=S1.kv.e0;obtain⟨g0,_,_,_,_⟩:=VX;obtain⟨h0,h1,h2,h3,_⟩:=Ak;obtain⟨a0,a1,a2,a3,_⟩:=SX.va;have o1:=SX.vo.c1;have o2:=S1.vo.c1;obtain⟨p0,p1,pf⟩:=A4;have Ah:=pf 1;obtain⟨q0,q1,qf⟩:=Bg;have Bs:=qf 1;obtain⟨Q1,n1,C1,rfl⟩:=S1.slice;obtain⟨Q2,n2,C2,rfl⟩:=S2.slice;clear SX S1 S2 hL hq A1 pf qf A0;go_wp2_with (first|(at_builtin;refine Lib.wpList_append_run _ rfl _ _ _ _ rfl _ _ rfl rfl _ _ A2 ?_)|(at_builtin;refine Lib.wpList_append_run _ rfl _ _ _ _ rfl _ _ rfl rfl _ _ Aw ?_));exact⟨⟨true,i+1,_,_,by omega,by go_num,rfl,HN.out.1,by simp;omega,HN.out.2⟩,by simp[intOf];omega⟩
   ·obtain rfl:i=l.length:=by omega
    rw[d0T]at HR;cases d with
    |true=>
     have Ai:Hid (os.map gD=Vw.put l ⟨nb s,k,m⟩):=by
      show _=_;rw[HR.out];simp[Vw.rest]
     have HT:=hd8 fun a b=>SR.tell a b;have Ap:=hd8 SR.past;have bb:=SR.kv.bel;have r0:=SR.kv.r0;have r1:=SR.kv.r1;have f0:=SR.kv.fr 0;have f1:=SR.kv.fr 1;have o0:=SR.vo.c0;have o1:=SR.vo.c1;clear SR AL;go_wp2_with fail;refine bodyPost_ret (v:=.tuple #[.agg #[iV (u+1),.slice Qv nv Cv],iV 0]) (by simp[results,results67,go_sem,r0,r1]) rfl ⟨by rw[HF.out,←Ai.out];exact⟨_,rfl,HT.out _ _,Ap.out⟩,?_⟩;exact(bb.setCell (by show w.heap.size≤w.heap.size+1+1;omega) _).setCell (by show w.heap.size≤w.heap.size+1+1;omega) _
    |false=>
     have Af:Hid (gD (sg,ca.sum,ca.cnt,ca.opn)=ca):=by
      show(⟨nb sg,_,_,_⟩:Vw.Acc)=ca;rw[Ao]
     obtain⟨v1,A6,A2,A4,S1,_⟩:=SR.app (sg,ca.sum,ca.cnt,ca.opn) An (by omega);obtain⟨Q1,n1,C1,rfl⟩:=S1.slice;have Ai:Hid ((os++[(sg,ca.sum,ca.cnt,ca.opn)]).map gD=Vw.put l ⟨nb s,k,m⟩):=by
      show _=_;rw[HR.out,c9U];show os.map gD++[gD (sg,ca.sum,ca.cnt,ca.opn)]=_;rw[Af.out];simp[Vw.rest]
     have HT:=hd8 fun a b=>S1.tell a b;have Ap:=hd8 S1.past;have bb:=S1.kv.bel;have r0:=S1.kv.r0;have r1:=S1.kv.r1;have f0:=S1.kv.fr 0;have f1:=S1.kv.fr 1;have o0:=S1.vo.c0;have o1:=S1.vo.c1;have Bp:=SR.vo.c1;obtain⟨a0,a1,a2,a3,_⟩:=SR.va;obtain⟨p0,p1,pf⟩:=A4;have Ah:=pf 1;clear SR AL S1 pf;go_wp2_with (at_builtin;refine Lib.wpList_append_run _ rfl _ _ _ _ rfl _ _ rfl rfl _ _ A2 ?_);refine bodyPost_ret (v:=.tuple #[.agg #[iV (u+1),.slice Q1 n1 C1],iV 0]) (by simp[results,results67,go_sem,r0,r1]) rfl ⟨by rw[HF.out,←Ai.out];exact⟨_,rfl,HT.out _ _,Ap.out⟩,?_⟩;exact(bb.setCell (by show w.heap.size≤w.heap.size+1+1;omega) _).setCell (by show w.heap.size≤w.heap.size+1+1;omega) _
end Go.Proofs.YtmcaejooaaahdaaGreat
