import Derived.Test.YtmcaejooaaahdaaGreatZ17
import Derived.Test.YtmcaejooaaahdaaGreatZ22
import Derived.Test.YtmcaejooaaahdaaGreatZ23
set_option maxHeartbeats 8000000
set_option maxRecDepth 100000
namespace Go.Proofs.YtmcaejooaaahdaaGreat
open Go.Proofs.Tryz
variable {N:Nat} {u:Int} {v vs:Value} {w w' w0 wX wr:World}
open Go.RowKit
theorem a3Y(s:ByteArray)(k m:Int)(w:World):Calls prog 106 #[.agg #[.string s,iV k,iV m]] w fun e w'=>e=.returned (.func (.func 133) #[] #[.pointer (some (aD w.heap.size 0))])∧w'=w.alloc (.cells #[.string s,iV k,iV m] 83):=by
 go_enter func106,ntmps106
 go_wp2_with fail;go_ret
 exact⟨rfl,rfl⟩
theorem a4G(s:ByteArray)(k m:Int)(w:World):Calls prog 106 #[.agg #[.string s,iV k,iV m]] w fun e w'=> ∃B,e=.returned (.func (.func 133) #[] #[.pointer (some (aD B 0))])∧b8F w' B (.string s) (iV k) (iV m)∧Bl w w':=by
 refine(a3Y s k m w).mono ?_;rintro e w' ⟨rfl,rfl⟩;exact⟨_,rfl,iF w _ _ _,aB8 _ _⟩
def ApO(e:Ending)(w':World)(N:Nat)(r:Nat×Int×List Vw.Acc):Prop:= ∃v,e=.returned (.tuple #[.agg #[iV r.2.1,v],iV r.1])∧bG w' v r.2.2∧kN N v
theorem lC(w':World)(N x:Nat):ApO (.returned (.tuple #[.agg #[iV 0,nS],iV x])) w' N (x,0,[]):=⟨_,rfl,bG.nil w',xY N⟩
structure KV(W0 w:World)(N:Nat)(u:Int)(vs:Value)(s:ByteArray)(k m:Int):Prop where
 v0:w.cell? (aD N 0)=some (iV u)
 v1:w.cell? (aD N 1)=some vs
 e0:w.cell? (aD (N+1) 0)=some (.string s)
 e1:w.cell? (aD (N+1) 1)=some (iV k)
 e2:w.cell? (aD (N+1) 2)=some (iV m)
 r0:w.cell? (aD (N+1+1) 0)=some (iV 0)
 r1:w.cell? (aD (N+1+1) 1)=some nS
 fr: ∀i,w.frozen? (aD (N+1+1) i)=false
 bel:Bl W0 w
theorem KV.bE{W0:World}{s:ByteArray}{k m:Int}(h:KV W0 w N u vs s k m)(hb:Bl w w'):KV W0 w' N u vs s k m:=by
 have h0:N<w.heap.size:=World.block_lt_of_cell? _ _ h.v0;have h1:N+1<w.heap.size:=World.block_lt_of_cell? _ _ h.e0;have h2:N+1+1<w.heap.size:=World.block_lt_of_cell? _ _ h.r0;exact⟨(hb.cell (p:=⟨N,0,none⟩) h0).trans h.v0,(hb.cell (p:=⟨N,1,none⟩) h0).trans h.v1,(hb.cell (p:=⟨N+1,0,none⟩) h1).trans h.e0,(hb.cell (p:=⟨N+1,1,none⟩) h1).trans h.e1,(hb.cell (p:=⟨N+1,2,none⟩) h1).trans h.e2,(hb.cell (p:=⟨N+1+1,0,none⟩) h2).trans h.r0,(hb.cell (p:=⟨N+1+1,1,none⟩) h2).trans h.r1,fun i=>(hb.frozen (p:=⟨N+1+1,i,none⟩) h2).trans (h.fr i),bt h.bel hb⟩
theorem b8U(w:World)(u:Int)(vs:Value)(s:ByteArray)(k m:Int):KV w (((w.alloc (.cells #[iV u,vs] 30)).alloc (.cells #[.string s,iV k,iV m] 83)).alloc (.cells #[iV 0,nS] 30)) w.heap.size u vs s k m:=by
 have h1:=aB8 w (.cells #[iV u,vs] 30);have h2:=h1.alloc h1.size (.cells #[.string s,iV k,iV m] 83);have h3:=h2.alloc h2.size (.cells #[iV 0,nS] 30);have A1:=aB8 (w.alloc (.cells #[iV u,vs] 30)) (.cells #[.string s,iV k,iV m] 83);have A0:=aB8 ((w.alloc (.cells #[iV u,vs] 30)).alloc (.cells #[.string s,iV k,iV m] 83)) (.cells #[iV 0,nS] 30);have A:=((aO w 30 (iV u) vs).bE A1).bE A0;have B:=(iF (w.alloc (.cells #[iV u,vs] 30)) (.string s) (iV k) (iV m)).bE A0;have C:=aO ((w.alloc (.cells #[iV u,vs] 30)).alloc (.cells #[.string s,iV k,iV m] 83)) 30 (iV 0) nS;have z1:(w.alloc (.cells #[iV u,vs] 30)).heap.size=w.heap.size+1:=by simp
 have z2:((w.alloc (.cells #[iV u,vs] 30)).alloc (.cells #[.string s,iV k,iV m] 83)).heap.size=w.heap.size+1+1:=by simp
 rw[z1]at B;rw[z2]at C;exact⟨A.c0,A.c1,B.c0,B.c1,B.c2,C.c0,C.c1,C.fr,h3⟩
theorem a2Y{s:ByteArray}{k m:Int}{w3:World}(b3:Bl wX w3)(h:wX.cell? (aD N 0)=some (iV u)∧wX.cell? (aD N 1)=some vs∧wX.cell? (aD (N+1) 0)=some (.string s)∧wX.cell? (aD (N+1) 1)=some (iV k)∧wX.cell? (aD (N+1) 2)=some (iV m)∧Bl w0 wX):
  w3.cell? (aD N 0)=some (iV u)∧w3.cell? (aD N 1)=some vs∧w3.cell? (aD (N+1) 0)=some (.string s)∧w3.cell? (aD (N+1) 1)=some (iV k)∧w3.cell? (aD (N+1) 2)=some (iV m)∧Bl w0 w3:=by
 obtain⟨h0,h1,h2,h3,h4,hb⟩:=h;have p0:N<wX.heap.size:=World.block_lt_of_cell? _ _ h0;have p1:N+1<wX.heap.size:=World.block_lt_of_cell? _ _ h2;exact⟨(b3.cell (p:=⟨N,0,none⟩) p0).trans h0,(b3.cell (p:=⟨N,1,none⟩) p0).trans h1,(b3.cell (p:=⟨N+1,0,none⟩) p1).trans h2,(b3.cell (p:=⟨N+1,1,none⟩) p1).trans h3,(b3.cell (p:=⟨N+1,2,none⟩) p1).trans h4,bt hb b3⟩
theorem c7G{a b:Value}{s:ByteArray}{k m:Int}(h:wX.cell? ⟨N,0,none⟩=some (.int .i64 u)∧wX.cell? ⟨N,1,none⟩=some vs∧wX.cell? ⟨N+1,0,none⟩=some (.string s)∧wX.cell? ⟨N+1,1,none⟩=some (.int .i64 k)∧wX.cell? ⟨N+1,2,none⟩=some (.int .i64 m)∧Below N w0 wX):
  ((wX.setCell ⟨N+1+1,0,none⟩ a).setCell ⟨N+1+1,1,none⟩ b).cell? ⟨N,0,none⟩=some (.int .i64 u)∧((wX.setCell ⟨N+1+1,0,none⟩ a).setCell ⟨N+1+1,1,none⟩ b).cell? ⟨N,1,none⟩=some vs∧((wX.setCell ⟨N+1+1,0,none⟩ a).setCell ⟨N+1+1,1,none⟩ b).cell? ⟨N+1,0,none⟩=some (.string s)∧((wX.setCell ⟨N+1+1,0,none⟩ a).setCell ⟨N+1+1,1,none⟩ b).cell? ⟨N+1,1,none⟩=some (.int .i64 k)∧((wX.setCell ⟨N+1+1,0,none⟩ a).setCell ⟨N+1+1,1,none⟩ b).cell? ⟨N+1,2,none⟩=some (.int .i64 m)∧Below N w0 ((wX.setCell ⟨N+1+1,0,none⟩ a).setCell ⟨N+1+1,1,none⟩ b):=by
 obtain⟨h0,h1,h2,h3,h4,hb⟩:=h
 exact⟨by go_simp,by go_simp,by go_simp,by go_simp,by go_simp,(hb.setCell (by show N≤N+1+1;omega) _).setCell (by show N≤N+1+1;omega) _⟩
theorem b8E(u:Int)(vs:Value)(l:List Vw.Acc)(s:ByteArray)(k m:Int)(w:World)(h:bG w vs l)(hs:s.size≤9223372036854775807):
  Calls prog 76 #[.agg #[iV u,vs],.agg #[.string s,iV k,iV m]] w fun e w'=>ApO e w' w.heap.size (Vw.apply u l ⟨nb s,k,m⟩)∧Bl w w':=by
 obtain⟨A,C,rfl⟩:=h.sE;have K0:=b8U w u (.slice A l.length C) s k m;have HA:Hid (∀w',Bl w w'→bG w' (.slice A l.length C) l):=fun w' hb=>h.bE hb;clear h;have HW:=fun w' (hb:Bl w w')=>qR u (.slice A l.length C) l w' (HA.out w' hb);have HE:=fun w'=>yD s k m w' hs;obtain⟨x,hx⟩: ∃x,(Vw.aR u l).1=x:=⟨_,rfl⟩;obtain⟨y,hy⟩: ∃y,(Vw.aR u l).2=y:=⟨_,rfl⟩;have HX:=hd8 hx;unfold jU at HW;rw[hx,hy]at HW;obtain⟨z,hz⟩: ∃z,Evt.aB ⟨nb s,k,m⟩=z:=⟨_,rfl⟩;have HZ:=hd8 hz;rw[hz]at HE;clear hx hy hz;go_enter func76,ntmps76
 go_wp2_with fail;generalize ((w.alloc (.cells #[iV u,.slice A l.length C] 30)).alloc (.cells #[.string s,iV k,iV m] 83)).alloc (.cells #[iV 0,nS] 30)=W0 at K0⊢;refine(HW _ K0.bel).mono ?_;rintro e w1 ⟨rfl,b1⟩;have K1:=K0.bE b1;have bF:=aB8 w1 (.cells #[iV x,iV y] 78);have VF:=aO w1 78 (iV x) (iV y);have K2:=K1.bE bF;have Aa:w.heap.size+1+1<w1.heap.size:=World.block_lt_of_cell? _ _ K1.r0;clear K0 K1 HW b1;by_cases A3:x=0
 case neg=>
  have HF:Hid (Vw.apply u l ⟨nb s,k,m⟩=(x,0,[])):=by
   show _=_;rw[Vw.rI (by rw[HX.out];exact A3),HX.out]
  have Am:((x:Int) !=0)=true:=by rw[bne_iff_ne];omega
  clear HE A3;go_wp2_with fail;generalize w1.alloc (.cells #[iV x,iV y] 78)=w2 at K2 VF⊢;have c0:=VF.c0;have r0:=K2.r0;have r1:=K2.r1;have f0:=K2.fr 0;have f1:=K2.fr 1;have bb:=K2.bel;have Ai:w1.heap.size≠w.heap.size+1+1:=by omega
  have Ae:w.heap.size+1+1≠w1.heap.size:=by omega
  clear K2 VF bF Aa;go_region
  go_wp2_with fail;refine bodyPost_ret (v:=.tuple #[.agg #[iV 0,nS],iV x]) (by simp[results,results76,go_sem,r0,r1]) rfl ⟨by rw[HF.out];exact lC _ _ x,?_⟩;exact(bb.drew.setCell (by show w.heap.size≤w.heap.size+1+1;omega) _).setCell (by show w.heap.size≤w.heap.size+1+1;omega) _
 have HX:=hd8 (HX.out.trans A3);subst A3;have A2:Hid (KV w (w1.alloc (.cells #[iV 0,iV y] 78)) w.heap.size u (.slice A l.length C) s k m):=K2;clear K2;obtain⟨v0,v1,e0,e1,e2,_,_,_,_⟩:=A2.out;clear VF Aa;by_cases A4:z=0
 case neg=>
  have HF:Hid (Vw.apply u l ⟨nb s,k,m⟩=(z,0,[])):=by
   show _=_;rw[Vw.oR HX.out (by rw[HZ.out];exact A4),HZ.out]
  have An:((z:Int) !=0)=true:=by rw[bne_iff_ne];omega
  clear A4;go_wp2_with fail;refine(HE _).mono ?_;rintro e w3 ⟨rfl,b3⟩;have K3:=A2.out.bE b3;clear HE b3 e0 e1 e2 v0 v1;have r0:=K3.r0;have r1:=K3.r1;have f0:=K3.fr 0;have f1:=K3.fr 1;have bb:=K3.bel;clear K3;go_wp2_with fail;refine bodyPost_ret (v:=.tuple #[.agg #[iV 0,nS],iV z]) (by simp[results,results76,go_sem,r0,r1]) rfl ⟨by rw[HF.out];exact lC _ _ z,?_⟩;exact(bb.setCell (by show w.heap.size≤w.heap.size+1+1;omega) _).setCell (by show w.heap.size≤w.heap.size+1+1;omega) _
 have HZ:=hd8 (HZ.out.trans A4);subst A4;by_cases hu:u=150
 ·have HF:Hid (Vw.apply u l ⟨nb s,k,m⟩=(5,0,[])):=Vw.rN HX.out HZ.out hu;have Af:(u==150)=true:=by rw[beq_iff_eq];exact hu
  clear hu;go_wp2_with fail;refine(HE _).mono ?_;rintro e w3 ⟨rfl,b3⟩;have K3:=A2.out.bE b3;clear HE b3 e0 e1 e2 v0 v1;have v0:=K3.v0;have r0:=K3.r0;have r1:=K3.r1;have f0:=K3.fr 0;have f1:=K3.fr 1;have bb:=K3.bel;clear K3;go_wp2_with fail;refine bodyPost_ret (v:=.tuple #[.agg #[iV 0,nS],iV 5]) (by simp[results,results76,go_sem,r0,r1]) rfl ⟨by rw[HF.out];exact lC _ _ 5,?_⟩;exact(bb.setCell (by show w.heap.size≤w.heap.size+1+1;omega) _).setCell (by show w.heap.size≤w.heap.size+1+1;omega) _
 have Af:(u==150)=false:=by rw[beq_eq_false_iff_ne];exact hu
 have HU:=hd8 hu;clear hu;go_wp2_with fail;refine(HE _).mono ?_;rintro e w3 ⟨rfl,b3⟩;have K3:=A2.out.bE b3;clear HE b3 e0 e1 e2 v0 v1;have v0:=K3.v0;go_wp2_with fail;have A9:=Vw.oX l (nb s);have HG:=fun w' (hS:w'.cell? (aD w.heap.size 0)=some (iV u)∧w'.cell? (aD w.heap.size 1)=some (.slice A l.length C)∧w'.cell? (aD (w.heap.size+1) 0)=some (.string s)∧w'.cell? (aD (w.heap.size+1) 1)=some (iV k)∧w'.cell? (aD (w.heap.size+1) 2)=some (iV m)∧Bl w3 w')=>b4O u s (.slice A l.length C) l w' (HA.out w' (bt K3.bel hS.2.2.2.2.2)) hs;obtain⟨y,hy⟩: ∃y,Vw.may (Vw.get l (nb s)) ⟨nb s,k,m⟩=y:=⟨_,rfl⟩;have HY:=hd8 hy;generalize Vw.get l (nb s)=a at HG hy A9;have HM: ∀sg:ByteArray,nb sg=a.name→ ∀w',Calls prog 104 #[.agg #[.string sg,iV a.sum,iV a.cnt,.bool a.opn],.agg #[.string s,iV k,iV m]] w' fun e w''=>e=.returned (.bool y)∧Bl w' w'':=fun sg hg w'=>by
  have h:=c6D sg s a.sum a.cnt k m a.opn w';rw[hg]at h;rw[←hy];exact h
 clear A9 hy;have TD:w3.drew.cell? (aD w.heap.size 0)=some (iV u)∧w3.drew.cell? (aD w.heap.size 1)=some (.slice A l.length C)∧w3.drew.cell? (aD (w.heap.size+1) 0)=some (.string s)∧w3.drew.cell? (aD (w.heap.size+1) 1)=some (iV k)∧w3.drew.cell? (aD (w.heap.size+1) 2)=some (iV m)∧Bl w3 w3.drew:=⟨K3.v0,K3.v1,K3.e0,K3.e1,K3.e2,(Below.refl _ _).drew⟩;clear v0;go_region_held3 (fun w'=>w'.cell? (aD w.heap.size 0)=some (iV u)∧w'.cell? (aD w.heap.size 1)=some (.slice A l.length C)∧w'.cell? (aD (w.heap.size+1) 0)=some (.string s)∧w'.cell? (aD (w.heap.size+1) 1)=some (iV k)∧w'.cell? (aD (w.heap.size+1) 2)=some (iV m)∧Bl w3 w')
  (first|with_reducible exact TD|with_reducible assumption|with_reducible exact a2Y (by assumption) (by assumption))
  (first|(go_at_call 43;refine(HG _ (by assumption)).mono ?_;rintro e5 w5 ⟨⟨v5,rfl,sg,Ad,A7,rfl⟩,b5⟩;have S5:=a2Y b5 (by assumption))|(go_at_call 104;refine(HM sg A7 _).mono ?_;rintro e6 w6 ⟨rfl,b6⟩;have S6:=a2Y b6 (by assumption)))
 have K6:=K3.bE S6.2.2.2.2.2;clear TD HG HM K3 S5 S6 b5 b6 Ad A7;cases y with
 |false=>
  have HF:=hd8 (Vw.uT HX.out HZ.out HU.out HY.out);have r0:=K6.r0;have r1:=K6.r1;have f0:=K6.fr 0;have f1:=K6.fr 1;have bb:=K6.bel;clear K6;go_wp2_with fail;refine bodyPost_ret (v:=.tuple #[.agg #[iV 0,nS],iV 8]) (by simp[results,results76,go_sem,r0,r1]) rfl ⟨by rw[HF.out];exact lC _ _ 8,?_⟩;exact(bb.setCell (by show w.heap.size≤w.heap.size+1+1;omega) _).setCell (by show w.heap.size≤w.heap.size+1+1;omega) _
 |true=>
  have HF:=hd8 (Vw.xK HX.out HZ.out HU.out HY.out);have hr:=Vw.iE HX.out;obtain⟨_,k1,k4,m0,m1⟩:=Evt.eN HZ.out;have k1:1≤k:=k1;have k4:k≤4:=k4;have m0:0≤m:=m0;have m1:m≤1000000:=m1;have A5:=a4G s k m;have A6:=fun B w' (hE:b8F w' B (.string s) (iV k) (iV m)) (hS:w'.cell? (aD w.heap.size 0)=some (iV u)∧w'.cell? (aD w.heap.size 1)=some (.slice A l.length C)∧w'.cell? (aD (w.heap.size+1) 0)=some (.string s)∧w'.cell? (aD (w.heap.size+1) 1)=some (iV k)∧w'.cell? (aD (w.heap.size+1) 2)=some (iV m)∧Bl w w')=>a7H u s s k m B (.slice A l.length C) l w' (HA.out w' hS.2.2.2.2.2) hr hs hE.c0 hE.c1 hE.c2 k1 k4 m0 m1;have Aj:=hr.lo;have Ak:=hr.hi;have TD:w6.drew.cell? (aD w.heap.size 0)=some (iV u)∧w6.drew.cell? (aD w.heap.size 1)=some (.slice A l.length C)∧w6.drew.cell? (aD (w.heap.size+1) 0)=some (.string s)∧w6.drew.cell? (aD (w.heap.size+1) 1)=some (iV k)∧w6.drew.cell? (aD (w.heap.size+1) 2)=some (iV m)∧Bl w w6.drew:=⟨K6.v0,K6.v1,K6.e0,K6.e1,K6.e2,K6.bel.drew⟩;have KD:=K6.bE (Below.refl _ _).drew;have Al:wrap64 (u+1)=u+1:=by
   unfold wrap64;omega
  have Ag:IntKind.i64.wrap (u+1)=u+1:=by
   rw[IntKind.wrap_i64];omega
  clear hr k1 k4 m0 m1 HX HZ HU HY;go_wp2_with fail;go_region_held3 (fun w'=>w'.cell? (aD w.heap.size 0)=some (iV u)∧w'.cell? (aD w.heap.size 1)=some (.slice A l.length C)∧w'.cell? (aD (w.heap.size+1) 0)=some (.string s)∧w'.cell? (aD (w.heap.size+1) 1)=some (iV k)∧w'.cell? (aD (w.heap.size+1) 2)=some (iV m)∧Bl w w')
   (first|with_reducible exact TD|with_reducible assumption|with_reducible exact a2Y (by assumption) (by assumption)|with_reducible exact c7G (by assumption))
   (first|(go_at_call 106;refine(A5 _).mono ?_;rintro e7 w7 ⟨B7,rfl,E7,b7⟩;have S7:=a2Y b7 (by assumption);have K7:=KD.bE b7)|(go_at_call 105;refine(A6 B7 _ E7 (by assumption)).mono ?_;rintro e8 w8 ⟨⟨v8,Ah,rfl,A0,A1⟩,b8⟩;have A8:=A1.accs;rw[A0]at A8;obtain⟨P8,C8,rfl⟩:=A8.sE;clear A8;have S8:=a2Y b8 (by assumption);have K8:=K7.bE b8;have r0:=K8.r0;have r1:=K8.r1;have f0:=K8.fr 0;have f1:=K8.fr 1))
  have bb:=K8.bel;have n7:w.heap.size+1+1<w7.heap.size:=World.block_lt_of_cell? _ _ K7.r0;have Ac:Hid (kN w.heap.size (.slice P8 (Vw.put l ⟨nb s,k,m⟩).length C8)):=A1.past.mono (by omega);have Ab:Hid (∀a b,bG ((w8.setCell (aD (w.heap.size+1+1) 0) a).setCell (aD (w.heap.size+1+1) 1) b) (.slice P8 (Vw.put l ⟨nb s,k,m⟩).length C8) (Vw.put l ⟨nb s,k,m⟩)):=fun a b=>by
   have ho:=((Off.refl (fun j=>j=w.heap.size+1+1) w8).set (p:=⟨w.heap.size+1+1,0,none⟩) rfl a).set (p:=⟨w.heap.size+1+1,1,none⟩) rfl b
   have h:=eV.accs ⟨bC A1.1 ho (fun g hg e=>by
    have:=(A1.1.lt g hg).1
    omega),A1.2⟩
   rw[A0]at h;exact h
  clear TD KD K7 K8 S7 S8 b7 b8 E7 A5 A6 K6 A1 A0;go_wp2_with fail;refine bodyPost_ret (v:=.tuple #[.agg #[iV (u+1),.slice P8 (Vw.put l ⟨nb s,k,m⟩).length C8],iV 0]) (by simp[results,results76,go_sem,r0,r1]) rfl ⟨by rw[HF.out];exact⟨_,rfl,Ab.out _ _,Ac.out⟩,?_⟩;exact(bb.setCell (by show w.heap.size≤w.heap.size+1+1;omega) _).setCell (by show w.heap.size≤w.heap.size+1+1;omega) _
def FoO(e:Ending)(w':World)(N:Nat)(r:(Nat×Nat)×Int×List Vw.Acc):Prop:= ∃v,e=.returned (.tuple #[.agg #[iV r.2.1,v],jU r.1])∧bG w' v r.2.2∧kN N v
theorem b4I(w':World)(N x y:Nat):FoO (.returned (.tuple #[.agg #[iV 0,nS],.agg #[iV x,iV y]])) w' N ((x,y),0,[]):=⟨_,rfl,bG.nil w',xY N⟩
theorem dU.set2{p:Nat}{a b:Value}(h:dU w p a b)(x y:Value):dU ((w.setCell (aD p 0) x).setCell (aD p 1) y) p x y:=by
 have c0:=h.c0;have c1:=h.c1;exact⟨by go_simp,by go_simp,fun i=>by have:=h.fr i;go_simp⟩
theorem a7Z{l:List Evt.Ev}{k:Nat}{e:Evt.Ev}(h:l[k]?=some e):l.drop k=e::l.drop (k+1):=by
 obtain⟨hk,rfl⟩:=c9H.1 h;exact d2L hk
structure FS(w wr:World)(u:Int)(v:Value)(l:List Vw.Acc):Prop where
 vv:dU wr w.heap.size (iV u) v
 vr:dU wr (w.heap.size+1) (iV 0) nS
 vf:dU wr (w.heap.size+1+1) (iV 0) (iV 0)
 ac:bG wr v l
 bel:Bl w wr
theorem FS.bE{l:List Vw.Acc}(h:FS w wr u v l)(hb:Bl wr w'):FS w w' u v l:=
 ⟨h.vv.bE hb,h.vr.bE hb,h.vf.bE hb,h.ac.bE hb,bt h.bel hb⟩
theorem FS.room{l:List Vw.Acc}(h:FS w wr u v l):w.heap.size+1+1<wr.heap.size:=World.block_lt_of_cell? _ _ h.vf.c0
theorem pO(w:World)(p:Nat)(a b:Value):Off (fun j=>j=p) w ((w.setCell (aD p 0) a).setCell (aD p 1) b):=
 ((Off.refl (fun j=>j=p) w).set (p:=⟨p,0,none⟩) rfl a).set (p:=⟨p,1,none⟩) rfl b
theorem FS.put{u':Int}{v':Value}{l l':List Vw.Acc}(h:FS w wr u v l)(ha:bG wr v' l')(hp:kN (w.heap.size+1+1+1) v'):FS w ((wr.setCell (aD w.heap.size 0) (iV u')).setCell (aD w.heap.size 1) v') u' v' l':=by
 have ho:=pO wr w.heap.size (iV u') v';exact⟨h.vv.set2 _ _,h.vr.off ho (by omega),h.vf.off ho (by omega),ha.off ho (fun g hg e=>by have:=hp g hg;omega),(h.bel.setCell (c9C _) _).setCell (c9C _) _⟩
theorem FS.told{l:List Vw.Acc}(h:FS w wr u v l)(hp:kN (w.heap.size+1+1+1) v)(a b c d:Value):bG ((((wr.setCell (aD (w.heap.size+1) 0) a).setCell (aD (w.heap.size+1) 1) b).setCell (aD (w.heap.size+1+1) 0) c).setCell (aD (w.heap.size+1+1) 1) d) v l:=
 (h.ac.off (pO wr (w.heap.size+1) a b) (fun g hg e=>by have:=hp g hg;omega)).off (pO _ (w.heap.size+1+1) c d) (fun g hg e=>by have:=hp g hg;omega)
theorem nN(h:Bl w wr)(a b c d:Value):Bl w ((((wr.setCell (aD (w.heap.size+1) 0) a).setCell (aD (w.heap.size+1) 1) b).setCell (aD (w.heap.size+1+1) 0) c).setCell (aD (w.heap.size+1+1) 1) d):=
 (((h.setCell (by show w.heap.size≤w.heap.size+1;omega) _).setCell (by show w.heap.size≤w.heap.size+1;omega) _).setCell (by show w.heap.size≤w.heap.size+1+1;omega) _).setCell (by show w.heap.size≤w.heap.size+1+1;omega) _
theorem a8Z(u:Int)(vs ve:Value)(l:List Vw.Acc)(es:List Evt.Ev)(w:World)(h:bG w vs l)(he:Evs w ve es):
  Calls prog 44 #[.agg #[iV u,vs],ve] w fun e w'=>FoO e w' w.heap.size (Vw.cD u l es)∧Bl w w':=by
 obtain⟨A,C,rfl⟩:=h.sE;have Aw:es.length≤9223372036854775807:=by
  obtain⟨_,_,_,q1,q2,_⟩:=he;unfold maxLen at q2;omega
 obtain⟨E,D,rfl,_,_,hE⟩:=he;have HA:Hid (∀w',Bl w w'→bG w' (.slice A l.length C) l):=fun w' hb=>h.bE hb;have Al:=hd8 hE;clear h hE;have h1:=aB8 w (.cells #[iV u,.slice A l.length C] 30);have h2:=h1.alloc h1.size (.cells #[iV 0,nS] 30);have h3:=h2.alloc h2.size (.cells #[iV 0,iV 0] 78);have Ac:=aB8 (w.alloc (.cells #[iV u,.slice A l.length C] 30)) (.cells #[iV 0,nS] 30);have Aa:=aB8 ((w.alloc (.cells #[iV u,.slice A l.length C] 30)).alloc (.cells #[iV 0,nS] 30)) (.cells #[iV 0,iV 0] 78);have VV:=((aO w 30 (iV u) (.slice A l.length C)).bE Ac).bE Aa;have VR:=(aO (w.alloc (.cells #[iV u,.slice A l.length C] 30)) 30 (iV 0) nS).bE Aa;have VF:=aO ((w.alloc (.cells #[iV u,.slice A l.length C] 30)).alloc (.cells #[iV 0,nS] 30)) 78 (iV 0) (iV 0);have z1:(w.alloc (.cells #[iV u,.slice A l.length C] 30)).heap.size=w.heap.size+1:=by simp
 have z2:((w.alloc (.cells #[iV u,.slice A l.length C] 30)).alloc (.cells #[iV 0,nS] 30)).heap.size=w.heap.size+1+1:=by simp
 rw[z1]at VR;rw[z2]at VF;clear z1 z2 Ac Aa h1 h2;have HW:=fun w' (hb:Bl w w')=>qR u (.slice A l.length C) l w' (HA.out w' hb);obtain⟨x,hx⟩: ∃x,(Vw.aR u l).1=x:=⟨_,rfl⟩;obtain⟨y,hy⟩: ∃y,(Vw.aR u l).2=y:=⟨_,rfl⟩;have HX:=hd8 hx;unfold jU at HW;rw[hx,hy]at HW;clear hx hy;go_enter func44,ntmps44
 go_wp2_with fail;generalize ((w.alloc (.cells #[iV u,.slice A l.length C] 30)).alloc (.cells #[iV 0,nS] 30)).alloc (.cells #[iV 0,iV 0] 78)=W0 at h3 VV VR VF⊢;refine(HW _ h3).mono ?_;rintro e w1 ⟨rfl,b1⟩;have bF:=aB8 w1 (.cells #[iV x,iV y] 78);have VX:=aO w1 78 (iV x) (iV y);have VV:=(VV.bE b1).bE bF;have A8:=VR.bE b1;have VR:=A8.bE bF;have A7:=VF.bE b1;have VF:=A7.bE bF;have Ae:w.heap.size+1<w1.heap.size:=World.block_lt_of_cell? _ _ A8.c0;have Af:w.heap.size+1+1<w1.heap.size:=World.block_lt_of_cell? _ _ A7.c0;have h4:=bt (bt h3 b1) bF;clear HW A8 A7 h3 b1;by_cases A0:x=0
 case neg=>
  have HF:Hid (Vw.cD u l es=((x,0),0,[])):=by
   show _=_;rw[Vw.sC (by rw[HX.out];exact A0),HX.out]
  have Aj:((x:Int) !=0)=true:=by rw[bne_iff_ne];omega
  clear A0;go_wp2_with fail;generalize w1.alloc (.cells #[iV x,iV y] 78)=w2 at VV VR VF VX h4⊢;obtain⟨c0,_,_⟩:=VX;obtain⟨r0,r1,fr⟩:=VR;obtain⟨q0,q1,fq⟩:=VF;have f0:=fr 0;have f1:=fr 1;have f2:=fq 0;have f3:=fq 1;have Ay:w1.heap.size≠w.heap.size+1+1:=by omega
  have Aq:w.heap.size+1+1≠w1.heap.size:=by omega
  have Ar:w1.heap.size≠w.heap.size+1:=by omega
  have As:w.heap.size+1≠w1.heap.size:=by omega
  clear bF Ae Af VV fr fq;go_region
  go_wp2_with fail;refine bodyPost_ret (v:=.tuple #[.agg #[iV 0,nS],.agg #[iV x,iV 0]]) (by simp[results,results44,go_sem,r0,r1,q0,q1]) rfl ⟨by rw[HF.out];exact b4I _ _ x 0,?_⟩;exact((((h4.setCell (by show w.heap.size≤w.heap.size+1;omega) _).setCell (by show w.heap.size≤w.heap.size+1;omega) _).setCell (by show w.heap.size≤w.heap.size+1+1;omega) _).setCell (by show w.heap.size≤w.heap.size+1+1;omega) _).drew
 have HX:=hd8 (HX.out.trans A0);subst A0;have Am:Hid (Vw.cD u l es=Vw.fB u l 0 es):=Vw.pW HX.out;have Ax:=(Vw.iE HX.out).len;have HC:=fun w' (hb:Bl w w')=>xU (.slice A l.length C) l w' (HA.out w' hb) (by omega);have VV:dU (w1.alloc (.cells #[iV 0,iV y] 78)) w.heap.size (iV u) (.slice A l.length C):=VV;have VR:dU (w1.alloc (.cells #[iV 0,iV y] 78)) (w.heap.size+1) (iV 0) nS:=VR;have VF:dU (w1.alloc (.cells #[iV 0,iV y] 78)) (w.heap.size+1+1) (iV 0) (iV 0):=VF;have h4:Bl w (w1.alloc (.cells #[iV 0,iV y] 78)):=h4;have Ag:w.heap.size+1+1<(w1.alloc (.cells #[iV 0,iV y] 78)).heap.size:=World.block_lt_of_cell? _ _ VF.c0;have v1:=VV.c1;clear VX bF Ae Af;go_wp2_with fail;generalize w1.alloc (.cells #[iV 0,iV y] 78)=w2 at VV VR VF h4 v1 Ag⊢;refine(HC _ h4).mono ?_;rintro e w3 ⟨⟨v3,Au,rfl,A1,A9⟩,b3⟩;have A3:=A9.accs;have P3:kN (w.heap.size+1+1+1) v3:=A9.past.mono (by omega);rw[A1]at A3;have S3:FS w (w3.setCell (aD w.heap.size 1) v3) u v3 l:=by
  have ho:Off (fun j=>j=w.heap.size) w3 (w3.setCell (aD w.heap.size 1) v3):=aG w3 (aD w.heap.size 1) v3;exact⟨(VV.bE b3).set1 v3,(VR.bE b3).off ho (by omega),(VF.bE b3).off ho (by omega),A3.off ho (fun g hg e=>by have:=P3 g hg;omega),(bt h4 b3).setCell (c9C _) _⟩
 obtain⟨c0,c1,fr⟩:=VV.bE b3;have f0:=fr 0;have f1:=fr 1;obtain⟨Q3,C3,rfl⟩:=A3.sE;clear HC A9 A1 v1 h4 b3 A3 VV VR VF Ag;go_wp2_with fail;generalize w3.setCell (aD w.heap.size 1) (.slice Q3 l.length C3)=wz at S3⊢;clear c0 c1 fr f0 f1;go_loopw [26] (fun x wr=> ∃(k:Nat) (uk:Int) (vk:Value) (lk:List Vw.Acc),k≤es.length∧x=iV k∧FS w wr uk vk lk∧kN (w.heap.size+1+1+1) vk∧Hid (Vw.cD u l es=Vw.fB uk lk k (es.drop k))) (fun x _=>es.length-(intOf x).toNat)
 case atStart=>exact⟨0,u,_,l,c9D _,rfl,S3,P3,Am.out⟩
 case round=>
  obtain⟨k,uk,vk,lk,hk,rfl,SK,PK,HK⟩:=hrel;clear S3 P3;obtain⟨Ak,Ck,rfl⟩:=SK.ac.sE;by_cases Ao:k<es.length
  ·have Ap:(k:Int)<(es.length:Int):=by omega
   obtain⟨ev,Ab⟩: ∃ev,es[k]?=some ev:=⟨es[k],c9F Ao⟩;obtain⟨b,o,rfl,Ad⟩:=Al.out k ev Ab;obtain⟨s,At,Ai,d0,d1,d2⟩:=Ad.bE SK.bel;have HD:=hd8 (a7Z Ab);obtain⟨wo,rfl⟩: ∃y,y=wr:=⟨wr,rfl⟩;have bA:=aB8 wo (.cells #[.string s,iV ev.kind,iV ev.num] 83);have SA:=SK.bE bA;have VE:=iF wo (.string s) (iV ev.kind) (iV ev.num);have A6:=b8E uk (.slice Ak lk.length Ck) lk s ev.kind ev.num _ SA.ac At;rw[Ai]at A6;have Ah:=SK.room;have A2:(⟨ev.name,ev.kind,ev.num⟩:Evt.Ev)=ev:=rfl;rw[A2]at A6;clear Ab Ai Ad SK A2;have v0:=SA.vv.c0;have v1:=SA.vv.c1;obtain⟨g0,g1,g2⟩:=VE;go_wp2_with fail;refine A6.mono ?_;rintro e w4 ⟨⟨v4,rfl,A4,P4⟩,b4⟩;have S4:=SA.bE b4;have P4:kN (w.heap.size+1+1+1) v4:=P4.mono (by have:=bA.size;omega);have HN:Hid (Vw.cD u l es=if (Vw.apply uk lk ev).1=0 then Vw.fB (Vw.apply uk lk ev).2.1 (Vw.apply uk lk ev).2.2 (k+1) (es.drop (k+1))else(((Vw.apply uk lk ev).1,k),0,[])):=by
    show _=_;rw[HK.out,HD.out,Vw.fB]
   obtain⟨Q4,C4,rfl⟩:=A4.sE;generalize (Vw.apply uk lk ev).2.1=u' at HN;generalize (Vw.apply uk lk ev).2.2=l' at HN A4 P4;generalize (Vw.apply uk lk ev).1=x' at HN;clear A6 SA v0 v1 g0 g1 g2 b4 bA d0 d1 d2;have bV:=aB8 w4 (.cells #[iV u',.slice Q4 l'.length C4] 30);have S5:=S4.bE bV;have A5:=A4.bE bV;have VN:=aO w4 30 (iV u') (.slice Q4 l'.length C4);have Av:=S4.room;clear S4 A4;by_cases A0:x'=0
   ·have HN:Hid (Vw.cD u l es=Vw.fB u' l' (k+1) (es.drop (k+1))):=by
     show _=_;rw[HN.out,if_pos A0]
    have Aj:((x':Int) !=0)=false:=by rw[bne_eq_false_iff_eq];omega
    have An:Hid (FS w (((w4.alloc (.cells #[iV u',.slice Q4 l'.length C4] 30)).setCell (aD w.heap.size 0) (iV u')).setCell (aD w.heap.size 1) (.slice Q4 l'.length C4)) u' (.slice Q4 l'.length C4) l'):=S5.put A5 P4;obtain⟨c0,c1,fr⟩:=S5.vv;have f0:=fr 0;have f1:=fr 1;obtain⟨n0,n1,_⟩:=VN;clear S5 A5 A0;go_wp2_with fail;exact⟨⟨k+1,u',_,l',by omega,by go_num,An.out,P4,HN.out⟩,by simp[intOf];omega⟩
   ·have HN:Hid (Vw.cD u l es=((x',k),0,[])):=by
     show _=_;rw[HN.out,if_neg A0]
    have Aj:((x':Int) !=0)=true:=by rw[bne_iff_ne];omega
    have bb:=S5.bel;obtain⟨c0,c1,fr⟩:=S5.vr;have f0:=fr 0;have f1:=fr 1;obtain⟨q0,q1,fq⟩:=S5.vf;have f2:=fq 0;have f3:=fq 1;clear S5 A5 A0 VN;go_wp2_with fail;refine bodyPost_ret (v:=.tuple #[.agg #[iV 0,nS],.agg #[iV x',iV k]]) (by simp[results,results44,go_sem,c0,c1,q0,q1]) rfl ⟨by rw[HN.out];exact b4I _ _ x' k,?_⟩;exact nN bb _ _ _ _
  ·obtain rfl:k=es.length:=by omega
   have HN:Hid (Vw.cD u l es=((0,0),uk,lk)):=by
    show _=_;rw[HK.out,d0T];rfl
   have HT:=SK.told PK (iV uk) (.slice Ak lk.length Ck) (iV 0) (iV 0);have HT:=hd8 HT;have bb:=SK.bel;have v0:=SK.vv.c0;have v1:=SK.vv.c1;obtain⟨c0,c1,fr⟩:=SK.vr;have f0:=fr 0;have f1:=fr 1;obtain⟨q0,q1,fq⟩:=SK.vf;have f2:=fq 0;have f3:=fq 1;clear SK;go_wp2_with fail;refine bodyPost_ret (v:=.tuple #[.agg #[iV uk,.slice Ak lk.length Ck],.agg #[iV 0,iV 0]]) (by simp[results,results44,go_sem,c0,c1,q0,q1]) rfl ⟨by rw[HN.out];exact⟨_,rfl,HT.out,PK.mono (by omega)⟩,?_⟩;exact nN bb _ _ _ _
end Go.Proofs.YtmcaejooaaahdaaGreat
