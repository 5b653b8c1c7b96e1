import Derived.Test.YtmcaejooaaahdaaGreatZ09
set_option maxHeartbeats 8000000
set_option maxRecDepth 100000
namespace Go.Proofs.YtmcaejooaaahdaaGreat
open Go.Proofs.Tryz
open Go.RowKit
theorem a5F(s:ByteArray)(k m:Int)(b:Bool)(u:Int)(w:World)(hs:s.size≤9223372036854775807)(hu:u≤150):
  Calls prog 103 #[.agg #[.string s,iV k,iV m,.bool b],iV u] w fun e w'=>e=.returned (iV (Vw.cF u ⟨nb s,k,m,b⟩:Nat))∧Bl w w':=by
 have HN:=fun w'=>uX s w' hs;have A0:=aB8 w (.cells #[.string s,iV k,iV m,.bool b] 93);obtain⟨c0,c1,c2,c3,_⟩:=iJ w 93 (.string s) (iV k) (iV m) (.bool b);by_cases A1:Evt.cV (nb s)
 case neg=>
  have hn:Hid (¬Evt.cV (nb s)):=A1;have H:Hid (Vw.cF u ⟨nb s,k,m,b⟩=7):=Vw.pH A1;clear A1;go_enter func103,ntmps103
  go_wp2_with fail;refine(HN _).mono ?_;rintro e w1 ⟨⟨y,rfl,hy⟩,rfl⟩;obtain rfl:y=false:=by cases y with|false=>rfl|true=>exact absurd (hy.1 rfl) hn.out
  clear hy HN;go_wp2_with fail;go_ret
  exact⟨aH (by rw[H.out];rfl),A0⟩
 have hn:Hid (Evt.cV (nb s)):=A1;clear A1;by_cases q0:m<1
 ·have H:Hid (Vw.cF u ⟨nb s,k,m,b⟩=3):=Vw.dV hn.out (Or.inl q0);go_enter func103,ntmps103
  go_wp2_with fail;refine(HN _).mono ?_;rintro e w1 ⟨⟨y,rfl,hy⟩,rfl⟩;obtain rfl:y=true:=hy.2 hn.out;clear hy HN;go_wp2_with fail;go_ret
  exact⟨aH (by rw[H.out];rfl),A0⟩
 by_cases q1:u<m
 ·have H:Hid (Vw.cF u ⟨nb s,k,m,b⟩=3):=Vw.dV hn.out (Or.inr (Or.inl q1));go_enter func103,ntmps103
  go_wp2_with fail;refine(HN _).mono ?_;rintro e w1 ⟨⟨y,rfl,hy⟩,rfl⟩;obtain rfl:y=true:=hy.2 hn.out;clear hy HN;go_wp2_with fail;go_ret
  exact⟨aH (by rw[H.out];rfl),A0⟩
 have m1:1≤m:=by omega
 have m2:m≤150:=by omega
 by_cases q2:k< -(1000000*m)
 ·have H:Hid (Vw.cF u ⟨nb s,k,m,b⟩=3):=Vw.dV hn.out (Or.inr (Or.inr (Or.inr q2)));go_enter func103,ntmps103
  go_wp2_with fail;refine(HN _).mono ?_;rintro e w1 ⟨⟨y,rfl,hy⟩,rfl⟩;obtain rfl:y=true:=hy.2 hn.out;clear hy HN;go_wp2_with fail;go_ret
  exact⟨aH (by rw[H.out];rfl),A0⟩
 by_cases q3:1000000*m<k
 ·have H:Hid (Vw.cF u ⟨nb s,k,m,b⟩=3):=Vw.dV hn.out (Or.inr (Or.inr (Or.inl q3)));go_enter func103,ntmps103
  go_wp2_with fail;refine(HN _).mono ?_;rintro e w1 ⟨⟨y,rfl,hy⟩,rfl⟩;obtain rfl:y=true:=hy.2 hn.out;clear hy HN;go_wp2_with fail;go_ret
  exact⟨aH (by rw[H.out];rfl),A0⟩
 ·have H:Hid (Vw.cF u ⟨nb s,k,m,b⟩=0):=Vw.pX hn.out (show¬(m<1∨u<m∨1000000*m<k∨k< -(1000000*m)) by omega);go_enter func103,ntmps103
  go_wp2_with fail;refine(HN _).mono ?_;rintro e w1 ⟨⟨y,rfl,hy⟩,rfl⟩;obtain rfl:y=true:=hy.2 hn.out;clear hy HN;go_wp2_with fail;go_ret
  exact⟨aH (by rw[H.out];rfl),A0⟩
abbrev jU(p:Nat×Nat):Value:=.agg #[iV p.1,iV p.2]
theorem qR(u:Int)(vs:Value)(l:List Vw.Acc)(w:World)(h:bG w vs l):
  Calls prog 74 #[.agg #[iV u,vs]] w fun e w'=>e=.returned (jU (Vw.aR u l))∧Bl w w':=by
 obtain⟨A,C,rfl,An,Ag,hc⟩:=h;unfold maxLen at Ag;have A4:Bl w (w.alloc (.cells #[iV u,.slice A l.length C] 30)):=(Below.refl _ _).alloc (c9C _) _;have Ab:Bl w ((w.alloc (.cells #[iV u,.slice A l.length C] 30)).alloc (.cells #[iV 0,iV 0] 78)):=A4.alloc A4.size _;by_cases q0:u<0
 ·have H:Hid (Vw.aR u l=(3,0)):=Vw.iG (Or.inl q0);go_enter func74,ntmps74
  go_wp2_with fail;refine bodyPost_ret (v:=.agg #[iV 3,iV 0]) (by simp[results,results74,go_sem]) rfl ⟨by rw[H.out];rfl,?_⟩;exact A4.alloc A4.size _
 by_cases q1:150<u
 ·have H:Hid (Vw.aR u l=(3,0)):=Vw.iG (Or.inr q1);go_enter func74,ntmps74
  go_wp2_with fail;refine bodyPost_ret (v:=.agg #[iV 3,iV 0]) (by simp[results,results74,go_sem]) rfl ⟨by rw[H.out];rfl,?_⟩;exact A4.alloc A4.size _
 have HE:Hid (Vw.aR u l=Vw.aF u 0 none 0 l):=Vw.lN (by omega);have VV:=(aO w 30 (iV u) (.slice A l.length C)).bE (A4.mono (c9C _)|>fun _=>((Below.refl _ _).alloc (c9C _) (.cells #[iV 0,iV 0] 78)));have VF:=aO (w.alloc (.cells #[iV u,.slice A l.length C] 30)) 78 (iV 0) (iV 0);have Ad:(w.alloc (.cells #[iV u,.slice A l.length C] 30)).heap.size=w.heap.size+1:=by simp
 rw[Ad]at VF;clear Ad;go_enter func74,ntmps74
 obtain⟨v0,v1,_⟩:=VV;go_wp2_with fail;generalize (w.alloc (.cells #[iV u,.slice A l.length C] 30)).alloc (.cells #[iV 0,iV 0] 78)=W0 at Ab VF v0 v1⊢;go_loopw [3,19] (fun y x wr=> ∃(k:Nat) (s:Int),k≤l.length∧x=iV k∧y=iV s∧0≤s∧s≤u∧Hid (Vw.aR u l=Vw.aF u k (Vw.yF l k) s (l.drop k))∧Bl W0 wr) (fun _ x _=>l.length-(intOf x).toNat)
 case atStart=>exact⟨0,0,c9D _,rfl,rfl,d1Q 0,by omega,HE.out,Below.refl _ _⟩
 case round=>
  obtain⟨k,s,Ao,rfl,rfl,s0,s1,HS,A1⟩:=hrel;have bz:=bt Ab A1;have v0:=cB8 A1 v0;have v1:=cB8 A1 v1;by_cases Ai:k<l.length
  ·have Aj:(k:Int)<(l.length:Int):=by omega
   obtain⟨a,ha⟩: ∃a,l[k]?=some a:=⟨l[k],c9F Ai⟩;obtain⟨b,o,rfl,Ah⟩:=hc k a ha;obtain⟨st,Al,A9,d0,d1,d2,d3⟩:=Ah.bE bz;have Ae:=hd8 A9;have HD:=hd8 (Vw.sZ ha);have HP:=hd8 (Vw.pN ha);have HW:=a5F st a.sum a.cnt a.opn u (wr.alloc (.cells #[.string st,iV a.sum,iV a.cnt,.bool a.opn] 93)) Al q1;rw[A9]at HW;have bA:=aB8 wr (.cells #[.string st,iV a.sum,iV a.cnt,.bool a.opn] 93);have VA:=iJ wr 93 (.string st) (iV a.sum) (iV a.cnt) (.bool a.opn);have Ar:=cB8 bA v0;clear A9;by_cases hE:Vw.cF u a=0
   ·have A3:=hd8 hE;rw[hE]at HW;clear hE;obtain⟨m1,m2⟩:1≤a.cnt∧a.cnt≤u:=⟨(Vw.fK A3.out).2.1,(Vw.fK A3.out).2.2.1⟩;rcases Nat.eq_zero_or_pos k with A8|A8
    ·have Aa:Hid (Vw.nQ (Vw.yF l k) a.name=true):=by
      show _=_;rw[A8];rfl
     clear hc;subst A8;simp only[Nat.zero_mul,Nat.add_zero]at d0 d1 d2 d3;go_wp2_with fail;refine HW.mono ?_;rintro e w1 ⟨rfl,A2⟩;have b1:=bt bA A2;obtain⟨c0,c1,fr⟩:=(VF.bE A1).bE b1;have f0:=fr 0;have f1:=fr 1;obtain⟨g0,_,g2,_,_⟩:=VA.bE A2;have v0:=cB8 b1 v0;have v1:=cB8 b1 v1;clear HW VA fr;go_wp2_with fail;go_quiet (fail)
     by_cases A0:s+a.cnt≤u
     ·have HN:Hid (Vw.aR u l=Vw.aF u (0+1) (Vw.yF l (0+1)) (s+a.cnt) (l.drop (0+1))):=by
       show _=_;rw[HS.out,HD.out,HP.out];exact Vw.iA A3.out Aa.out A0
      go_wp2_with fail;exact⟨⟨0+1,s+a.cnt,by omega,by go_num,cB (by omega),by omega,A0,HN.out,bdn (bt A1 b1) _⟩,by simp[intOf];omega⟩
     ·have HZ:Hid (Vw.aR u l=(8,0)):=by
       show _=_;rw[HS.out,HD.out];exact Vw.kM A3.out Aa.out A0
      have A6:u<s+a.cnt:=by omega
      go_wp2_with fail;refine bodyPost_ret (v:=.agg #[iV 8,iV ((0:Nat):Int)]) (by simp[results,results74,go_sem,c0,c1]) rfl ⟨by rw[HZ.out];rfl,?_⟩;exact((bdn (bt bz b1) _).setCell (c9O _) _).setCell (c9O _) _
    ·obtain⟨j,rfl⟩: ∃j,k=j+1:=⟨k-1,by omega⟩;obtain⟨p,hp⟩: ∃p,l[j]?=some p:=⟨l[j],c9F (by omega)⟩;obtain⟨b',o',Af,A7⟩:=hc j p hp;cases Af
     obtain⟨sp,Ap,Ac,e0,_,_,_⟩:=A7.bE bz;have HL:Hid (Vw.nQ (Vw.yF l (j+1)) a.name=Op.bytesLess sp.toList st.toList):=by
      show _=_;rw[Vw.pN hp,wW,Ac,Ae.out];rfl
     clear hc Ac;generalize hy:Op.bytesLess sp.toList st.toList=y at HL;cases y with
     |true=>
      go_wp2_with fail;refine HW.mono ?_;rintro e w1 ⟨rfl,A2⟩;have b1:=bt bA A2;obtain⟨c0,c1,fr⟩:=(VF.bE A1).bE b1;have f0:=fr 0;have f1:=fr 1;obtain⟨g0,_,g2,_,_⟩:=VA.bE A2;have v0:=cB8 b1 v0;have v1:=cB8 b1 v1;have e0:=cB8 b1 e0;clear HW VA fr;go_wp2_with fail;go_quiet (fail)
      by_cases A0:s+a.cnt≤u
      ·have HN:Hid (Vw.aR u l=Vw.aF u ((j+1)+1) (Vw.yF l ((j+1)+1)) (s+a.cnt) (l.drop ((j+1)+1))):=by
        show _=_;rw[HS.out,HD.out,HP.out];exact Vw.iA A3.out HL.out A0
       go_wp2_with fail;exact⟨⟨(j+1)+1,s+a.cnt,by omega,by go_num,cB (by omega),by omega,A0,HN.out,bdn (bt A1 b1) _⟩,by simp[intOf];omega⟩
      ·have HZ:Hid (Vw.aR u l=(8,(j+1))):=by
        show _=_;rw[HS.out,HD.out];exact Vw.kM A3.out HL.out A0
       have A6:u<s+a.cnt:=by omega
       go_wp2_with fail;refine bodyPost_ret (v:=.agg #[iV 8,iV (((j+1):Nat):Int)]) (by simp[results,results74,go_sem,c0,c1]) rfl ⟨by rw[HZ.out];rfl,?_⟩;exact((bdn (bt bz b1) _).setCell (c9O _) _).setCell (c9O _) _
     |false=>
      have HZ:Hid (Vw.aR u l=(2,j+1)):=by
       show _=_;rw[HS.out,HD.out];exact Vw.pF A3.out HL.out
      go_wp2_with fail;refine HW.mono ?_;rintro e w1 ⟨rfl,A2⟩;have b1:=bt bA A2;obtain⟨c0,c1,fr⟩:=(VF.bE A1).bE b1;have f0:=fr 0;have f1:=fr 1;obtain⟨g0,_,g2,_,_⟩:=VA.bE A2;have v0:=cB8 b1 v0;have v1:=cB8 b1 v1;have e0:=cB8 b1 e0;clear HW VA fr;go_wp2_with fail;go_quiet (fail)
      go_wp2_with fail;refine bodyPost_ret (v:=.agg #[iV 2,iV ((j+1:Nat):Int)]) (by simp[results,results74,go_sem,c0,c1]) rfl ⟨by rw[HZ.out];rfl,?_⟩;exact((bdn (bt bz b1) _).setCell (c9O _) _).setCell (c9O _) _
   ·have HR:Hid (Vw.aR u l=(Vw.cF u a,k)):=by
     show _=_;rw[HS.out,HD.out];exact Vw.gX hE
    generalize Vw.cF u a=x at HW HR hE;have Am:((x:Int)==0)=false:=by rw[beq_eq_false_iff_ne];omega
    have Aq:((x:Int) !=0)=true:=by rw[bne,Am];rfl
    clear hE hc;go_wp2_with fail;refine HW.mono ?_;rintro e w1 ⟨rfl,b1⟩;have b1:=bt bA b1;obtain⟨c0,c1,fr⟩:=(VF.bE A1).bE b1;have f0:=fr 0;have f1:=fr 1;clear HW;go_wp2_with fail;refine bodyPost_ret (v:=.agg #[iV x,iV k]) (by simp[results,results74,go_sem,c0,c1]) rfl ⟨by rw[HR.out],?_⟩;exact((bt bz b1).setCell (c9O _) _).setCell (c9O _) _
  ·obtain rfl:k=l.length:=by omega
   obtain⟨c0,c1,fr⟩:=VF.bE A1;have f0:=fr 0;have f1:=fr 1;clear hc;by_cases A5:s=u
   ·have HZ:Hid (Vw.aR u l=(0,0)):=by
     show _=_;rw[HS.out,d0T,Vw.aF,if_pos A5]
    have Ak:(s !=u)=false:=by rw[bne_eq_false_iff_eq];exact A5
    clear A5;go_wp2_with fail;refine bodyPost_ret (v:=.agg #[iV 0,iV 0]) (by simp[results,results74,go_sem,c0,c1]) rfl ⟨by rw[HZ.out];rfl,?_⟩;exact(bz.setCell (c9O _) _).setCell (c9O _) _
   ·have HZ:Hid (Vw.aR u l=(8,l.length)):=by
     show _=_;rw[HS.out,d0T,Vw.aF,if_neg A5]
    have Ak:(s !=u)=true:=by rw[bne_iff_ne];exact A5
    clear A5;go_wp2_with fail;refine bodyPost_ret (v:=.agg #[iV 8,iV l.length]) (by simp[results,results74,go_sem,c0,c1]) rfl ⟨by rw[HZ.out];rfl,?_⟩;exact(bz.setCell (c9O _) _).setCell (c9O _) _
end Go.Proofs.YtmcaejooaaahdaaGreat
