import Derived.Test.YtmcaejooaaahdaaGreatZ12
set_option maxHeartbeats 8000000
set_option maxRecDepth 100000
namespace Go.Proofs.YtmcaejooaaahdaaGreat
open Go.Proofs.Tryz
variable {E E' F H I J S:Nat→Prop} {N a cap g i k m n p q:Nat} {U':Nat→List HeC} {V':Nat→Value} {W0 w w' w0 w3 wX wr:World} {a0 a1 a2 a3 a4 a5 a6 a7 a8 v v' vs vt:Value} {d':Sto.Disk} {ds ds':List Sto.Disk} {l:List Value} {s:Sto.St} {t:TypeId} {u u':Int}
open Go.RowKit
theorem a4H(s:ByteArray)(k m:Int)(w:World):Calls prog 106 #[.agg #[.string s,iV k,iV m]] w fun e w'=>e=.returned (.func (.func 133) #[] #[.pointer (some (aD w.heap.size 0))])∧w'=w.alloc (.cells #[.string s,iV k,iV m] 83):=by
 go_enter func106,ntmps106
 go_wp2_with fail;go_ret
 exact⟨rfl,rfl⟩
theorem a4T(s:ByteArray)(k m:Int)(w:World):Calls prog 106 #[.agg #[.string s,iV k,iV m]] w fun e w'=> ∃B,e=.returned (.func (.func 133) #[] #[.pointer (some (aD B 0))])∧b5Y w' B (.string s) (iV k) (iV m)∧Bl w w':=by
 refine(a4H s k m w).mono ?_;rintro e w' ⟨rfl,rfl⟩;exact⟨_,rfl,iL w _ _ _,aB8 _ _⟩
def ApO(e:Ending)(w':World)(N:Nat)(r:Nat×Int×List Vw.Acc):Prop:= ∃v,e=.returned (.tuple #[.agg #[iV r.2.1,v],iV r.1])∧bJ w' v r.2.2∧kF N v
theorem lD(w':World)(N x:Nat):ApO (.returned (.tuple #[.agg #[iV 0,nS],iV x])) w' N (x,0,[]):=⟨_,rfl,bJ.nil w',a0A N⟩
structure KV(W0 w:World)(N:Nat)(u:Int)(vs:Value)(s:ByteArray)(k m:Int):Prop where
 v0:w.cell? (aD N 0)=some (iV u)
 v1:w.cell? (aD N 1)=some vs
 e0:w.cell? (aD (N+1) 0)=some (.string s)
 e1:w.cell? (aD (N+1) 1)=some (iV k)
 e2:w.cell? (aD (N+1) 2)=some (iV m)
 r0:w.cell? (aD (N+1+1) 0)=some (iV 0)
 r1:w.cell? (aD (N+1+1) 1)=some nS
 fr: ∀i,w.frozen? (aD (N+1+1) i)=false
 bel:Bl W0 w
theorem KV.below{s:ByteArray}{k m:Int}(h:KV W0 w N u vs s k m)(hb:Bl w w'):KV W0 w' N u vs s k m:=by
 have h0:N<w.heap.size:=World.block_lt_of_cell? _ _ h.v0;have h1:N+1<w.heap.size:=World.block_lt_of_cell? _ _ h.e0;have h2:N+1+1<w.heap.size:=World.block_lt_of_cell? _ _ h.r0;exact⟨(hb.cell (p:=⟨N,0,none⟩) h0).trans h.v0,(hb.cell (p:=⟨N,1,none⟩) h0).trans h.v1,(hb.cell (p:=⟨N+1,0,none⟩) h1).trans h.e0,(hb.cell (p:=⟨N+1,1,none⟩) h1).trans h.e1,(hb.cell (p:=⟨N+1,2,none⟩) h1).trans h.e2,(hb.cell (p:=⟨N+1+1,0,none⟩) h2).trans h.r0,(hb.cell (p:=⟨N+1+1,1,none⟩) h2).trans h.r1,fun i=>(hb.frozen (p:=⟨N+1+1,i,none⟩) h2).trans (h.fr i),bt h.bel hb⟩
theorem c2I(w:World)(u:Int)(vs:Value)(s:ByteArray)(k m:Int):KV w (((w.alloc (.cells #[iV u,vs] 30)).alloc (.cells #[.string s,iV k,iV m] 83)).alloc (.cells #[iV 0,nS] 30)) w.heap.size u vs s k m:=by
 have h1:=aB8 w (.cells #[iV u,vs] 30);have h2:=h1.alloc h1.size (.cells #[.string s,iV k,iV m] 83);have h3:=h2.alloc h2.size (.cells #[iV 0,nS] 30);have A1:=aB8 (w.alloc (.cells #[iV u,vs] 30)) (.cells #[.string s,iV k,iV m] 83);have A0:=aB8 ((w.alloc (.cells #[iV u,vs] 30)).alloc (.cells #[.string s,iV k,iV m] 83)) (.cells #[iV 0,nS] 30);have A:=((aO w 30 (iV u) vs).below A1).below A0;have B:=(iL (w.alloc (.cells #[iV u,vs] 30)) (.string s) (iV k) (iV m)).below A0;have C:=aO ((w.alloc (.cells #[iV u,vs] 30)).alloc (.cells #[.string s,iV k,iV m] 83)) 30 (iV 0) nS;have z1:(w.alloc (.cells #[iV u,vs] 30)).heap.size=w.heap.size+1:=by simp
 have z2:((w.alloc (.cells #[iV u,vs] 30)).alloc (.cells #[.string s,iV k,iV m] 83)).heap.size=w.heap.size+1+1:=by simp
 rw[z1]at B;rw[z2]at C;exact⟨A.c0,A.c1,B.c0,B.c1,B.c2,C.c0,C.c1,C.fr,h3⟩
theorem a2J{s:ByteArray}{k m:Int}(b3:Bl wX w3)(h:wX.cell? (aD N 0)=some (iV u)∧wX.cell? (aD N 1)=some vs∧wX.cell? (aD (N+1) 0)=some (.string s)∧wX.cell? (aD (N+1) 1)=some (iV k)∧wX.cell? (aD (N+1) 2)=some (iV m)∧Bl w0 wX):
  w3.cell? (aD N 0)=some (iV u)∧w3.cell? (aD N 1)=some vs∧w3.cell? (aD (N+1) 0)=some (.string s)∧w3.cell? (aD (N+1) 1)=some (iV k)∧w3.cell? (aD (N+1) 2)=some (iV m)∧Bl w0 w3:=by
 obtain⟨h0,h1,h2,h3,h4,hb⟩:=h;have p0:N<wX.heap.size:=World.block_lt_of_cell? _ _ h0;have p1:N+1<wX.heap.size:=World.block_lt_of_cell? _ _ h2;exact⟨(b3.cell (p:=⟨N,0,none⟩) p0).trans h0,(b3.cell (p:=⟨N,1,none⟩) p0).trans h1,(b3.cell (p:=⟨N+1,0,none⟩) p1).trans h2,(b3.cell (p:=⟨N+1,1,none⟩) p1).trans h3,(b3.cell (p:=⟨N+1,2,none⟩) p1).trans h4,bt hb b3⟩
theorem c7H{a b:Value}{s:ByteArray}{k m:Int}(h:wX.cell? (aD N 0)=some (iV u)∧wX.cell? (aD N 1)=some vs∧wX.cell? (aD (N+1) 0)=some (.string s)∧wX.cell? (aD (N+1) 1)=some (iV k)∧wX.cell? (aD (N+1) 2)=some (iV m)∧Below N w0 wX):
  ((wX.setCell (aD (N+1+1) 0) a).setCell (aD (N+1+1) 1) b).cell? (aD N 0)=some (iV u)∧((wX.setCell (aD (N+1+1) 0) a).setCell (aD (N+1+1) 1) b).cell? (aD N 1)=some vs∧((wX.setCell (aD (N+1+1) 0) a).setCell (aD (N+1+1) 1) b).cell? (aD (N+1) 0)=some (.string s)∧((wX.setCell (aD (N+1+1) 0) a).setCell (aD (N+1+1) 1) b).cell? (aD (N+1) 1)=some (iV k)∧((wX.setCell (aD (N+1+1) 0) a).setCell (aD (N+1+1) 1) b).cell? (aD (N+1) 2)=some (iV m)∧Below N w0 ((wX.setCell (aD (N+1+1) 0) a).setCell (aD (N+1+1) 1) b):=by
 obtain⟨h0,h1,h2,h3,h4,hb⟩:=h;exact⟨by go_simp,by go_simp,by go_simp,by go_simp,by go_simp,(hb.setCell (by show N≤N+1+1;omega) _).setCell (by show N≤N+1+1;omega) _⟩
theorem b5O(u:Int)(vs:Value)(l:List Vw.Acc)(s:ByteArray)(k m:Int)(w:World)(h:bJ w vs l)(hs:s.size≤9223372036854775807):
  Calls prog 76 #[.agg #[iV u,vs],.agg #[.string s,iV k,iV m]] w fun e w'=>ApO e w' w.heap.size (Vw.bK u l ⟨nb s,k,m⟩)∧Bl w w':=by
 obtain⟨A,C,rfl⟩:=h.shape;have K0:=c2I w u (.slice A l.length C) s k m;have HA:=hd8 fun w' hb=>h.below hb;clear h;have HW:=fun w' (hb:Bl w w')=>qO u (.slice A l.length C) l w' (HA.out w' hb);have HE:=fun w'=>yL s k m w' hs;obtain⟨x,hx⟩: ∃x,(Vw.aR u l).1=x:=⟨_,rfl⟩;obtain⟨y,hy⟩: ∃y,(Vw.aR u l).2=y:=⟨_,rfl⟩;have HX:=hd8 hx;unfold jQ at HW;rw[hx,hy]at HW;obtain⟨z,hz⟩: ∃z,Evt.aB ⟨nb s,k,m⟩=z:=⟨_,rfl⟩;have HZ:=hd8 hz;rw[hz]at HE;clear hx hy hz;go_enter func76,ntmps76
 go_wp2_with fail;generalize ((w.alloc (.cells #[iV u,.slice A l.length C] 30)).alloc (.cells #[.string s,iV k,iV m] 83)).alloc (.cells #[iV 0,nS] 30)=W0 at K0⊢;refine(HW _ K0.bel).mono ?_;rintro e w1 ⟨rfl,b1⟩;have K1:=K0.below b1;have bF:=aB8 w1 (.cells #[iV x,iV y] 78);have VF:=aO w1 78 (iV x) (iV y);have K2:=K1.below bF;have Ab:w.heap.size+1+1<w1.heap.size:=World.block_lt_of_cell? _ _ K1.r0;clear K0 K1 HW b1;by_cases A6:x=0
 case neg=>
  have HF:Hid (Vw.bK u l ⟨nb s,k,m⟩=(x,0,[])):=by
   show _=_;rw[Vw.rR (by rw[HX.out];exact A6),HX.out]
  have Am:((x:Int) !=0)=true:=by rw[bne_iff_ne];omega
  clear HE A6;go_wp2_with fail;generalize w1.alloc (.cells #[iV x,iV y] 78)=w2 at K2 VF⊢;have c0:=VF.c0;have r0:=K2.r0;have r1:=K2.r1;have f0:=K2.fr 0;have f1:=K2.fr 1;have bb:=K2.bel;have Ak:w1.heap.size≠w.heap.size+1+1:=by omega
  have Ah:w.heap.size+1+1≠w1.heap.size:=by omega
  clear K2 VF bF Ab;go_region
  go_wp2_with fail;refine bodyPost_ret (v:=.tuple #[.agg #[iV 0,nS],iV x]) (by simp[results,results76,go_sem,r0,r1]) rfl ⟨by rw[HF.out];exact lD _ _ x,?_⟩;exact(bb.drew.setCell (by show w.heap.size≤w.heap.size+1+1;omega) _).setCell (by show w.heap.size≤w.heap.size+1+1;omega) _
 have HX:=hd8 (HX.out.trans A6);subst A6;have A5:Hid (KV w (w1.alloc (.cells #[iV 0,iV y] 78)) w.heap.size u (.slice A l.length C) s k m):=K2;clear K2;obtain⟨v0,v1,e0,e1,e2,_,_,_,_⟩:=A5.out;clear VF Ab;by_cases A4:z=0
 case neg=>
  have HF:Hid (Vw.bK u l ⟨nb s,k,m⟩=(z,0,[])):=by
   show _=_;rw[Vw.oL HX.out (by rw[HZ.out];exact A4),HZ.out]
  have Aj:((z:Int) !=0)=true:=by rw[bne_iff_ne];omega
  clear A4;go_wp2_with fail;refine(HE _).mono ?_;rintro e w3 ⟨rfl,b3⟩;have K3:=A5.out.below b3;clear HE b3 e0 e1 e2 v0 v1;have r0:=K3.r0;have r1:=K3.r1;have f0:=K3.fr 0;have f1:=K3.fr 1;have bb:=K3.bel;clear K3;go_wp2_with fail;refine bodyPost_ret (v:=.tuple #[.agg #[iV 0,nS],iV z]) (by simp[results,results76,go_sem,r0,r1]) rfl ⟨by rw[HF.out];exact lD _ _ z,?_⟩;exact(bb.setCell (by show w.heap.size≤w.heap.size+1+1;omega) _).setCell (by show w.heap.size≤w.heap.size+1+1;omega) _
 have HZ:=hd8 (HZ.out.trans A4);subst A4;by_cases hu:u=150
 ·have HF:Hid (Vw.bK u l ⟨nb s,k,m⟩=(5,0,[])):=Vw.rK HX.out HZ.out hu;have Ag:(u==150)=true:=by rw[beq_iff_eq];exact hu
  clear hu;go_wp2_with fail;refine(HE _).mono ?_;rintro e w3 ⟨rfl,b3⟩;have K3:=A5.out.below b3;clear HE b3 e0 e1 e2 v0 v1;have v0:=K3.v0;have r0:=K3.r0;have r1:=K3.r1;have f0:=K3.fr 0;have f1:=K3.fr 1;have bb:=K3.bel;clear K3;go_wp2_with fail;refine bodyPost_ret (v:=.tuple #[.agg #[iV 0,nS],iV 5]) (by simp[results,results76,go_sem,r0,r1]) rfl ⟨by rw[HF.out];exact lD _ _ 5,?_⟩;exact(bb.setCell (by show w.heap.size≤w.heap.size+1+1;omega) _).setCell (by show w.heap.size≤w.heap.size+1+1;omega) _
 have Ag:(u==150)=false:=by rw[beq_eq_false_iff_ne];exact hu
 have HU:=hd8 hu;clear hu;go_wp2_with fail;refine(HE _).mono ?_;rintro e w3 ⟨rfl,b3⟩;have K3:=A5.out.below b3;clear HE b3 e0 e1 e2 v0 v1;have v0:=K3.v0;go_wp2_with fail;have A9:=Vw.oH l (nb s);have HG:=fun w' (hS:w'.cell? (aD w.heap.size 0)=some (iV u)∧w'.cell? (aD w.heap.size 1)=some (.slice A l.length C)∧w'.cell? (aD (w.heap.size+1) 0)=some (.string s)∧w'.cell? (aD (w.heap.size+1) 1)=some (iV k)∧w'.cell? (aD (w.heap.size+1) 2)=some (iV m)∧Bl w3 w')=>b4N u s (.slice A l.length C) l w' (HA.out w' (bt K3.bel hS.2.2.2.2.2)) hs;obtain⟨y,hy⟩: ∃y,Vw.may (Vw.get l (nb s)) ⟨nb s,k,m⟩=y:=⟨_,rfl⟩;have HY:=hd8 hy;generalize Vw.get l (nb s)=a at HG hy A9;have HM: ∀sg:ByteArray,nb sg=a.name→ ∀w',Calls prog 104 #[.agg #[.string sg,iV a.sum,iV a.cnt,.bool a.opn],.agg #[.string s,iV k,iV m]] w' fun e w''=>e=.returned (.bool y)∧Bl w' w'':=fun sg hg w'=>by
  have h:=c5W sg s a.sum a.cnt k m a.opn w';rw[hg]at h;rw[←hy];exact h
 clear A9 hy;have TD:w3.drew.cell? (aD w.heap.size 0)=some (iV u)∧w3.drew.cell? (aD w.heap.size 1)=some (.slice A l.length C)∧w3.drew.cell? (aD (w.heap.size+1) 0)=some (.string s)∧w3.drew.cell? (aD (w.heap.size+1) 1)=some (iV k)∧w3.drew.cell? (aD (w.heap.size+1) 2)=some (iV m)∧Bl w3 w3.drew:=⟨K3.v0,K3.v1,K3.e0,K3.e1,K3.e2,(Below.refl _ _).drew⟩;clear v0;go_region_held3 (fun w'=>w'.cell? (aD w.heap.size 0)=some (iV u)∧w'.cell? (aD w.heap.size 1)=some (.slice A l.length C)∧w'.cell? (aD (w.heap.size+1) 0)=some (.string s)∧w'.cell? (aD (w.heap.size+1) 1)=some (iV k)∧w'.cell? (aD (w.heap.size+1) 2)=some (iV m)∧Bl w3 w')
  (first|A1 exact TD|A1 A0|A1 exact a2J (by A0) (by A0))
  (first|(go_at_call 43;refine(HG _ (by A0)).mono ?_;rintro e5 w5 ⟨⟨v5,rfl,sg,Ai,Aa,rfl⟩,b5⟩;have S5:=a2J b5 (by A0))|(go_at_call 104;refine(HM sg Aa _).mono ?_;rintro e6 w6 ⟨rfl,b6⟩;have S6:=a2J b6 (by A0)))
 have K6:=K3.below S6.2.2.2.2.2;clear TD HG HM K3 S5 S6 b5 b6 Ai Aa;cases y with
 |false=>
  have HF:=hd8 (Vw.vD HX.out HZ.out HU.out HY.out);have r0:=K6.r0;have r1:=K6.r1;have f0:=K6.fr 0;have f1:=K6.fr 1;have bb:=K6.bel;clear K6;go_wp2_with fail;refine bodyPost_ret (v:=.tuple #[.agg #[iV 0,nS],iV 8]) (by simp[results,results76,go_sem,r0,r1]) rfl ⟨by rw[HF.out];exact lD _ _ 8,?_⟩;exact(bb.setCell (by show w.heap.size≤w.heap.size+1+1;omega) _).setCell (by show w.heap.size≤w.heap.size+1+1;omega) _
 |true=>
  have HF:=hd8 (Vw.xX HX.out HZ.out HU.out HY.out);have hr:=Vw.iO HX.out;obtain⟨_,k1,k4,m0,m1⟩:=Evt.eN HZ.out;have k1:1≤k:=k1;have k4:k≤4:=k4;have m0:0≤m:=m0;have m1:m≤1000000:=m1;have Ac:=a4T s k m;have A7:=fun B w' (hE:b5Y w' B (.string s) (iV k) (iV m)) (hS:w'.cell? (aD w.heap.size 0)=some (iV u)∧w'.cell? (aD w.heap.size 1)=some (.slice A l.length C)∧w'.cell? (aD (w.heap.size+1) 0)=some (.string s)∧w'.cell? (aD (w.heap.size+1) 1)=some (iV k)∧w'.cell? (aD (w.heap.size+1) 2)=some (iV m)∧Bl w w')=>a6K u s s k m B (.slice A l.length C) l w' (HA.out w' hS.2.2.2.2.2) hr hs hE.c0 hE.c1 hE.c2 k1 k4 m0 m1;have An:=hr.lo;have Ap:=hr.hi;have TD:w6.drew.cell? (aD w.heap.size 0)=some (iV u)∧w6.drew.cell? (aD w.heap.size 1)=some (.slice A l.length C)∧w6.drew.cell? (aD (w.heap.size+1) 0)=some (.string s)∧w6.drew.cell? (aD (w.heap.size+1) 1)=some (iV k)∧w6.drew.cell? (aD (w.heap.size+1) 2)=some (iV m)∧Bl w w6.drew:=⟨K6.v0,K6.v1,K6.e0,K6.e1,K6.e2,K6.bel.drew⟩;have KD:=K6.below (Below.refl _ _).drew;have Ao:wrap64 (u+1)=u+1:=by
   unfold wrap64;omega
  have Af:IntKind.i64.wrap (u+1)=u+1:=by
   rw[IntKind.wrap_i64];omega
  clear hr k1 k4 m0 m1 HX HZ HU HY;go_wp2_with fail;go_region_held3 (fun w'=>w'.cell? (aD w.heap.size 0)=some (iV u)∧w'.cell? (aD w.heap.size 1)=some (.slice A l.length C)∧w'.cell? (aD (w.heap.size+1) 0)=some (.string s)∧w'.cell? (aD (w.heap.size+1) 1)=some (iV k)∧w'.cell? (aD (w.heap.size+1) 2)=some (iV m)∧Bl w w')
   (first|A1 exact TD|A1 A0|A1 exact a2J (by A0) (by A0)|A1 exact c7H (by A0))
   (first|(go_at_call 106;refine(Ac _).mono ?_;rintro e7 w7 ⟨B7,rfl,E7,b7⟩;have S7:=a2J b7 (by A0);have K7:=KD.below b7)|(go_at_call 105;refine(A7 B7 _ E7 (by A0)).mono ?_;rintro e8 w8 ⟨⟨v8,Al,rfl,A2,A3⟩,b8⟩;have A8:=A3.accs;rw[A2]at A8;obtain⟨P8,C8,rfl⟩:=A8.shape;clear A8;have S8:=a2J b8 (by A0);have K8:=K7.below b8;have r0:=K8.r0;have r1:=K8.r1;have f0:=K8.fr 0;have f1:=K8.fr 1))
  have bb:=K8.bel;have n7:w.heap.size+1+1<w7.heap.size:=World.block_lt_of_cell? _ _ K7.r0;have Ad:Hid (kF w.heap.size (.slice P8 (Vw.put l ⟨nb s,k,m⟩).length C8)):=A3.past.mono (by omega);have Ae:Hid (∀a b,bJ ((w8.setCell (aD (w.heap.size+1+1) 0) a).setCell (aD (w.heap.size+1+1) 1) b) (.slice P8 (Vw.put l ⟨nb s,k,m⟩).length C8) (Vw.put l ⟨nb s,k,m⟩)):=fun a b=>by
   have ho:=((Off.refl (fun j=>j=w.heap.size+1+1) w8).set (p:=⟨w.heap.size+1+1,0,none⟩) rfl a).set (p:=⟨w.heap.size+1+1,1,none⟩) rfl b
   have h:=eV.accs ⟨bC A3.1 ho (fun g hg e=>by
    have:=(A3.1.lt g hg).1
    omega),A3.2⟩
   rw[A2]at h;exact h
  clear TD KD K7 K8 S7 S8 b7 b8 E7 Ac A7 K6 A3 A2;go_wp2_with fail;refine bodyPost_ret (v:=.tuple #[.agg #[iV (u+1),.slice P8 (Vw.put l ⟨nb s,k,m⟩).length C8],iV 0]) (by simp[results,results76,go_sem,r0,r1]) rfl ⟨by rw[HF.out];exact⟨_,rfl,Ae.out _ _,Ad.out⟩,?_⟩;exact(bb.setCell (by show w.heap.size≤w.heap.size+1+1;omega) _).setCell (by show w.heap.size≤w.heap.size+1+1;omega) _
def FoO(e:Ending)(w':World)(N:Nat)(r:(Nat×Nat)×Int×List Vw.Acc):Prop:= ∃v,e=.returned (.tuple #[.agg #[iV r.2.1,v],jQ r.1])∧bJ w' v r.2.2∧kF N v
theorem b3E(w':World)(N x y:Nat):FoO (.returned (.tuple #[.agg #[iV 0,nS],.agg #[iV x,iV y]])) w' N ((x,y),0,[]):=⟨_,rfl,bJ.nil w',a0A N⟩
theorem dW.set2{a b:Value}(h:dW w p a b)(x y:Value):dW ((w.setCell (aD p 0) x).setCell (aD p 1) y) p x y:=by
 have c0:=h.c0;have c1:=h.c1;exact⟨by go_simp,by go_simp,fun i=>by have:=h.fr i;go_simp⟩
theorem a7H{l:List Evt.Ev}{e:Evt.Ev}(h:l[k]?=some e):l.drop k=e::l.drop (k+1):=by
 obtain⟨hk,rfl⟩:=c9H.1 h;exact d2L hk
structure FS(w wr:World)(u:Int)(v:Value)(l:List Vw.Acc):Prop where
 vv:dW wr w.heap.size (iV u) v
 vr:dW wr (w.heap.size+1) (iV 0) nS
 vf:dW wr (w.heap.size+1+1) (iV 0) (iV 0)
 ac:bJ wr v l
 bel:Bl w wr
theorem FS.below{l:List Vw.Acc}(h:FS w wr u v l)(hb:Bl wr w'):FS w w' u v l:=
 ⟨h.vv.below hb,h.vr.below hb,h.vf.below hb,h.ac.below hb,bt h.bel hb⟩
theorem FS.room{l:List Vw.Acc}(h:FS w wr u v l):w.heap.size+1+1<wr.heap.size:=World.block_lt_of_cell? _ _ h.vf.c0
theorem qD(w:World)(p:Nat)(a b:Value):Off (fun j=>j=p) w ((w.setCell (aD p 0) a).setCell (aD p 1) b):=
 ((Off.refl (fun j=>j=p) w).set (p:=⟨p,0,none⟩) rfl a).set (p:=⟨p,1,none⟩) rfl b
theorem FS.put{l l':List Vw.Acc}(h:FS w wr u v l)(ha:bJ wr v' l')(hp:kF (w.heap.size+1+1+1) v'):FS w ((wr.setCell (aD w.heap.size 0) (iV u')).setCell (aD w.heap.size 1) v') u' v' l':=by
 have ho:=qD wr w.heap.size (iV u') v';exact⟨h.vv.set2 _ _,h.vr.off ho (by omega),h.vf.off ho (by omega),ha.off ho (fun g hg e=>by have:=hp g hg;omega),(h.bel.setCell (c9C _) _).setCell (c9C _) _⟩
theorem FS.told{l:List Vw.Acc}(h:FS w wr u v l)(hp:kF (w.heap.size+1+1+1) v)(a b c d:Value):bJ ((((wr.setCell (aD (w.heap.size+1) 0) a).setCell (aD (w.heap.size+1) 1) b).setCell (aD (w.heap.size+1+1) 0) c).setCell (aD (w.heap.size+1+1) 1) d) v l:=
 (h.ac.off (qD wr (w.heap.size+1) a b) (fun g hg e=>by have:=hp g hg;omega)).off (qD _ (w.heap.size+1+1) c d) (fun g hg e=>by have:=hp g hg;omega)
theorem nD(h:Bl w wr)(a b c d:Value):Bl w ((((wr.setCell (aD (w.heap.size+1) 0) a).setCell (aD (w.heap.size+1) 1) b).setCell (aD (w.heap.size+1+1) 0) c).setCell (aD (w.heap.size+1+1) 1) d):=
 (((h.setCell (by show w.heap.size≤w.heap.size+1;omega) _).setCell (by show w.heap.size≤w.heap.size+1;omega) _).setCell (by show w.heap.size≤w.heap.size+1+1;omega) _).setCell (by show w.heap.size≤w.heap.size+1+1;omega) _
theorem a7V(u:Int)(vs ve:Value)(l:List Vw.Acc)(es:List Evt.Ev)(w:World)(h:bJ w vs l)(he:Evs w ve es):
  Calls prog 44 #[.agg #[iV u,vs],ve] w fun e w'=>FoO e w' w.heap.size (Vw.cD u l es)∧Bl w w':=by
 obtain⟨A,C,rfl⟩:=h.shape;have Ay:es.length≤9223372036854775807:=by
  obtain⟨_,_,_,q1,q2,_⟩:=he;unfold maxLen at q2;omega
 obtain⟨E,D,rfl,_,_,hE⟩:=he;have HA:=hd8 fun w' hb=>h.below hb;have Al:=hd8 hE;clear h hE;have h1:=aB8 w (.cells #[iV u,.slice A l.length C] 30);have h2:=h1.alloc h1.size (.cells #[iV 0,nS] 30);have h3:=h2.alloc h2.size (.cells #[iV 0,iV 0] 78);have Ad:=aB8 (w.alloc (.cells #[iV u,.slice A l.length C] 30)) (.cells #[iV 0,nS] 30);have A8:=aB8 ((w.alloc (.cells #[iV u,.slice A l.length C] 30)).alloc (.cells #[iV 0,nS] 30)) (.cells #[iV 0,iV 0] 78);have VV:=((aO w 30 (iV u) (.slice A l.length C)).below Ad).below A8;have VR:=(aO (w.alloc (.cells #[iV u,.slice A l.length C] 30)) 30 (iV 0) nS).below A8;have VF:=aO ((w.alloc (.cells #[iV u,.slice A l.length C] 30)).alloc (.cells #[iV 0,nS] 30)) 78 (iV 0) (iV 0);have z1:(w.alloc (.cells #[iV u,.slice A l.length C] 30)).heap.size=w.heap.size+1:=by simp
 have z2:((w.alloc (.cells #[iV u,.slice A l.length C] 30)).alloc (.cells #[iV 0,nS] 30)).heap.size=w.heap.size+1+1:=by simp
 rw[z1]at VR;rw[z2]at VF;clear z1 z2 Ad A8 h1 h2;have HW:=fun w' (hb:Bl w w')=>qO u (.slice A l.length C) l w' (HA.out w' hb);obtain⟨x,hx⟩: ∃x,(Vw.aR u l).1=x:=⟨_,rfl⟩;obtain⟨y,hy⟩: ∃y,(Vw.aR u l).2=y:=⟨_,rfl⟩;have HX:=hd8 hx;unfold jQ at HW;rw[hx,hy]at HW;clear hx hy;go_enter func44,ntmps44
 go_wp2_with fail;generalize ((w.alloc (.cells #[iV u,.slice A l.length C] 30)).alloc (.cells #[iV 0,nS] 30)).alloc (.cells #[iV 0,iV 0] 78)=W0 at h3 VV VR VF⊢;refine(HW _ h3).mono ?_;rintro e w1 ⟨rfl,b1⟩;have bF:=aB8 w1 (.cells #[iV x,iV y] 78);have VX:=aO w1 78 (iV x) (iV y);have VV:=(VV.below b1).below bF;have A7:=VR.below b1;have VR:=A7.below bF;have Ab:=VF.below b1;have VF:=Ab.below bF;have Ae:w.heap.size+1<w1.heap.size:=World.block_lt_of_cell? _ _ A7.c0;have Ai:w.heap.size+1+1<w1.heap.size:=World.block_lt_of_cell? _ _ Ab.c0;have h4:=bt (bt h3 b1) bF;clear HW A7 Ab h3 b1;by_cases A0:x=0
 case neg=>
  have HF:Hid (Vw.cD u l es=((x,0),0,[])):=by
   show _=_;rw[Vw.sA (by rw[HX.out];exact A0),HX.out]
  have Af:((x:Int) !=0)=true:=by rw[bne_iff_ne];omega
  clear A0;go_wp2_with fail;generalize w1.alloc (.cells #[iV x,iV y] 78)=w2 at VV VR VF VX h4⊢;obtain⟨c0,_,_⟩:=VX;obtain⟨r0,r1,fr⟩:=VR;obtain⟨q0,q1,fq⟩:=VF;have f0:=fr 0;have f1:=fr 1;have f2:=fq 0;have f3:=fq 1;have Au:w1.heap.size≠w.heap.size+1+1:=by omega
  have As:w.heap.size+1+1≠w1.heap.size:=by omega
  have Ap:w1.heap.size≠w.heap.size+1:=by omega
  have Aq:w.heap.size+1≠w1.heap.size:=by omega
  clear bF Ae Ai VV fr fq;go_region
  go_wp2_with fail;refine bodyPost_ret (v:=.tuple #[.agg #[iV 0,nS],.agg #[iV x,iV 0]]) (by simp[results,results44,go_sem,r0,r1,q0,q1]) rfl ⟨by rw[HF.out];exact b3E _ _ x 0,?_⟩;exact((((h4.setCell (by show w.heap.size≤w.heap.size+1;omega) _).setCell (by show w.heap.size≤w.heap.size+1;omega) _).setCell (by show w.heap.size≤w.heap.size+1+1;omega) _).setCell (by show w.heap.size≤w.heap.size+1+1;omega) _).drew
 have HX:=hd8 (HX.out.trans A0);subst A0;have At:=hd8 (Vw.pY HX.out);have Ax:=(Vw.iO HX.out).len;have HC:=fun w' (hb:Bl w w')=>xQ (.slice A l.length C) l w' (HA.out w' hb) (by omega);have VV:dW (w1.alloc (.cells #[iV 0,iV y] 78)) w.heap.size (iV u) (.slice A l.length C):=VV;have VR:dW (w1.alloc (.cells #[iV 0,iV y] 78)) (w.heap.size+1) (iV 0) nS:=VR;have VF:dW (w1.alloc (.cells #[iV 0,iV y] 78)) (w.heap.size+1+1) (iV 0) (iV 0):=VF;have h4:Bl w (w1.alloc (.cells #[iV 0,iV y] 78)):=h4;have Ac:w.heap.size+1+1<(w1.alloc (.cells #[iV 0,iV y] 78)).heap.size:=World.block_lt_of_cell? _ _ VF.c0;have v1:=VV.c1;clear VX bF Ae Ai;go_wp2_with fail;generalize w1.alloc (.cells #[iV 0,iV y] 78)=w2 at VV VR VF h4 v1 Ac⊢;refine(HC _ h4).mono ?_;rintro e w3 ⟨⟨v3,Aw,rfl,A1,Aa⟩,b3⟩;have A3:=Aa.accs;have P3:kF (w.heap.size+1+1+1) v3:=Aa.past.mono (by omega);rw[A1]at A3;have S3:FS w (w3.setCell (aD w.heap.size 1) v3) u v3 l:=by
  have ho:=aG w3 (aD w.heap.size 1) v3;exact⟨(VV.below b3).set1 v3,(VR.below b3).off ho (by omega),(VF.below b3).off ho (by omega),A3.off ho (fun g hg e=>by have:=P3 g hg;omega),(bt h4 b3).setCell (c9C _) _⟩
 obtain⟨c0,c1,fr⟩:=VV.below b3;have f0:=fr 0;have f1:=fr 1;obtain⟨Q3,C3,rfl⟩:=A3.shape;clear HC Aa A1 v1 h4 b3 A3 VV VR VF Ac;go_wp2_with fail;generalize w3.setCell (aD w.heap.size 1) (.slice Q3 l.length C3)=wz at S3⊢;clear c0 c1 fr f0 f1;go_loopw [26] (fun x wr=> ∃(k:Nat) (uk:Int) (vk:Value) (lk:List Vw.Acc),k≤es.length∧x=iV k∧FS w wr uk vk lk∧kF (w.heap.size+1+1+1) vk∧Hid (Vw.cD u l es=Vw.fP uk lk k (es.drop k))) (fun x _=>es.length-(intOf x).toNat)
 case atStart=>exact⟨0,u,_,l,c9D _,rfl,S3,P3,At.out⟩
 case round=>
  obtain⟨k,uk,vk,lk,hk,rfl,SK,PK,HK⟩:=hrel;clear S3 P3;obtain⟨Ak,Ck,rfl⟩:=SK.ac.shape;by_cases Ao:k<es.length
  ·have An:(k:Int)<(es.length:Int):=by omega
   obtain⟨ev,A9⟩: ∃ev,es[k]?=some ev:=⟨es[k],c9F Ao⟩;obtain⟨b,o,rfl,Ah⟩:=Al.out k ev A9;obtain⟨s,Am,Ag,d0,d1,d2⟩:=Ah.below SK.bel;have HD:=hd8 (a7H A9);obtain⟨wo,rfl⟩: ∃y,y=wr:=⟨wr,rfl⟩;have bA:=aB8 wo (.cells #[.string s,iV ev.kind,iV ev.num] 83);have SA:=SK.below bA;have VE:=iL wo (.string s) (iV ev.kind) (iV ev.num);have A6:=b5O uk (.slice Ak lk.length Ck) lk s ev.kind ev.num _ SA.ac Am;rw[Ag]at A6;have Aj:=SK.room;have A2:(⟨ev.name,ev.kind,ev.num⟩:Evt.Ev)=ev:=rfl;rw[A2]at A6;clear A9 Ag Ah SK A2;have v0:=SA.vv.c0;have v1:=SA.vv.c1;obtain⟨g0,g1,g2⟩:=VE;go_wp2_with fail;refine A6.mono ?_;rintro e w4 ⟨⟨v4,rfl,A4,P4⟩,b4⟩;have S4:=SA.below b4;have P4:kF (w.heap.size+1+1+1) v4:=P4.mono (by have:=bA.size;omega);have HN:Hid (Vw.cD u l es=if (Vw.bK uk lk ev).1=0 then Vw.fP (Vw.bK uk lk ev).2.1 (Vw.bK uk lk ev).2.2 (k+1) (es.drop (k+1))else(((Vw.bK uk lk ev).1,k),0,[])):=by
    show _=_;rw[HK.out,HD.out,Vw.fP]
   obtain⟨Q4,C4,rfl⟩:=A4.shape;generalize (Vw.bK uk lk ev).2.1=u' at HN;generalize (Vw.bK uk lk ev).2.2=l' at HN A4 P4;generalize (Vw.bK uk lk ev).1=x' at HN;clear A6 SA v0 v1 g0 g1 g2 b4 bA d0 d1 d2;have bV:=aB8 w4 (.cells #[iV u',.slice Q4 l'.length C4] 30);have S5:=S4.below bV;have A5:=A4.below bV;have VN:=aO w4 30 (iV u') (.slice Q4 l'.length C4);have Av:=S4.room;clear S4 A4;by_cases A0:x'=0
   ·have HN:Hid (Vw.cD u l es=Vw.fP u' l' (k+1) (es.drop (k+1))):=by
     show _=_;rw[HN.out,if_pos A0]
    have Af:((x':Int) !=0)=false:=by rw[bne_eq_false_iff_eq];omega
    have Ar:=hd8 (S5.put A5 P4);obtain⟨c0,c1,fr⟩:=S5.vv;have f0:=fr 0;have f1:=fr 1;obtain⟨n0,n1,_⟩:=VN;clear S5 A5 A0;go_wp2_with fail;exact⟨⟨k+1,u',_,l',by omega,by go_num,Ar.out,P4,HN.out⟩,by simp[intOf];omega⟩
   ·have HN:Hid (Vw.cD u l es=((x',k),0,[])):=by
     show _=_;rw[HN.out,if_neg A0]
    have Af:((x':Int) !=0)=true:=by rw[bne_iff_ne];omega
    have bb:=S5.bel;obtain⟨c0,c1,fr⟩:=S5.vr;have f0:=fr 0;have f1:=fr 1;obtain⟨q0,q1,fq⟩:=S5.vf;have f2:=fq 0;have f3:=fq 1;clear S5 A5 A0 VN;go_wp2_with fail;refine bodyPost_ret (v:=.tuple #[.agg #[iV 0,nS],.agg #[iV x',iV k]]) (by simp[results,results44,go_sem,c0,c1,q0,q1]) rfl ⟨by rw[HN.out];exact b3E _ _ x' k,?_⟩;exact nD bb _ _ _ _
  ·obtain rfl:k=es.length:=by omega
   have HN:Hid (Vw.cD u l es=((0,0),uk,lk)):=by
    show _=_;rw[HK.out,d0T];rfl
   have HT:=SK.told PK (iV uk) (.slice Ak lk.length Ck) (iV 0) (iV 0);have HT:=hd8 HT;have bb:=SK.bel;have v0:=SK.vv.c0;have v1:=SK.vv.c1;obtain⟨c0,c1,fr⟩:=SK.vr;have f0:=fr 0;have f1:=fr 1;obtain⟨q0,q1,fq⟩:=SK.vf;have f2:=fq 0;have f3:=fq 1;clear SK;go_wp2_with fail;refine bodyPost_ret (v:=.tuple #[.agg #[iV uk,.slice Ak lk.length Ck],.agg #[iV 0,iV 0]]) (by simp[results,results44,go_sem,c0,c1,q0,q1]) rfl ⟨by rw[HN.out];exact⟨_,rfl,HT.out,PK.mono (by omega)⟩,?_⟩;exact nD bb _ _ _ _
end Go.Proofs.YtmcaejooaaahdaaGreat
namespace Go.Proofs.YtmcaejooaaahdaaGreat.Sto
open Go.Proofs.Tryz
variable {E E' F H I J S:Nat→Prop} {N a cap g i k m n p q:Nat} {U':Nat→List HeC} {V':Nat→Value} {W0 w w' w0 w3 wX wr:World} {a0 a1 a2 a3 a4 a5 a6 a7 a8 v v' vs vt:Value} {d':Sto.Disk} {ds ds':List Sto.Disk} {l:List Value} {s:Sto.St} {t:TypeId} {u u':Int}
open Evt (Ev Bat)
theorem jM(h:n≤1000000):Evt.bZ (Evt.dK n):=fun x hx=>by
 unfold Evt.dK at hx
 simp only[List.mem_cons,List.not_mem_nil,or_false]at hx
 rcases hx with rfl|rfl|rfl<;>omega
theorem sJ{a b:List Nat}(ha:Evt.bZ a)(hb:Evt.bZ b):Evt.bZ (a++b):=fun x hx=>by
 rcases List.mem_append.1 hx with q|q
 ·exact ha x q
 ·exact hb x q
theorem eZ{b:List Nat}(ha:a<256)(hb:Evt.bZ b):Evt.bZ (a::b):=fun x hx=>by
 rcases List.mem_cons.1 hx with rfl|q
 ·exact ha
 ·exact hb x q
theorem rG{e:Ev}(h:Evt.aB e=0):Evt.bZ (Evt.iM e):=by
 obtain⟨⟨n1,n2,n3⟩,k1,k4,m0,m1⟩:=Evt.eN h;unfold Evt.iM;refine sJ (eZ (by omega) fun x hx=>?_) (eZ (by omega) (jM (by omega)));have:=(Evt.eO x).1 (List.all_eq_true.1 n1 x hx);omega
theorem yS{α:Type}{f:α→List Nat}{l:List α}(h: ∀x,x∈l→Evt.bZ (f x)):Evt.bZ (l.flatMap f):=fun y hy=>by
 obtain⟨x,hx,hy⟩:=d2H.1 hy
 exact h x hx y hy
theorem qT{b:Bat}(h:(Evt.aA b).1=0):Evt.bZ (Evt.jS b):=by
 obtain⟨c1,c2,l1,l2,h5⟩:=Evt.bN h;unfold Evt.jS;exact sJ (jM (by omega)) (eZ (by omega) (yS fun e he=>rG (h5 e he)))
theorem rI{l:List Bat}(h:(Evt.aF l).1=0):Evt.bZ (Evt.iK l):=by
 obtain⟨h1,h2⟩:=Evt.kR h;unfold Evt.iK;exact eZ (by omega) (yS fun b hb=>qT (h2 b hb))
theorem a9Y(k:Int)(l:List (List Nat))(ds:List aL)(i:Nat):((write k l 0 ds)[i]?).map aL.gone=(ds[i]?).map aL.gone:=by
 rw[kW,Option.map_map];congr 1;funext d
 show(if d.gone then d else _:aL).gone=d.gone;by_cases q:d.gone=true
 ·rw[if_pos q]
 ·rw[if_neg q];exact(by simpa using q:d.gone=false).symm
end Go.Proofs.YtmcaejooaaahdaaGreat.Sto
namespace Go.Proofs.YtmcaejooaaahdaaGreat
open Go.Proofs.Tryz
variable {E E' F H I J S:Nat→Prop} {N a cap g i k m n p q:Nat} {U':Nat→List HeC} {V':Nat→Value} {W0 w w' w0 w3 wX wr:World} {a0 a1 a2 a3 a4 a5 a6 a7 a8 v v' vs vt:Value} {d':Sto.Disk} {ds ds':List Sto.Disk} {l:List Value} {s:Sto.St} {t:TypeId} {u u':Int}
open Go.RowKit
def a0B(w:World)(E:Nat→Prop)(v:Value)(es:List Evt.Ev):Prop:=Evs w v es∧ ∀g,v.ownBlock=some g→es≠[]→E g
def a0M(w:World)(E:Nat→Prop)(v:Value)(l:List Vw.Acc):Prop:=bJ w v l∧ ∀g,v.ownBlock=some g→l≠[]→E g
theorem a0B.move{es:List Evt.Ev}(h:a0B w E v es)(hk: ∀k,k<w.heap.size→E k→w'.heap[k]?=w.heap[k]?)(hE: ∀k,k<w.heap.size→E k→E' k):a0B w' E' v es:=by
 obtain⟨⟨A,A0,rfl,h1,h2,h3⟩,h4⟩:=h;refine⟨⟨A,A0,rfl,h1,h2,fun i e he=>?_⟩,fun g hg hne=>?_⟩
 ·obtain⟨b,o,rfl,t,q1,q2,c0,c1,c2⟩:=h3 i e he;have hp:b<w.heap.size:=World.block_lt_of_cell? _ _ c0;have hb:=hk b hp (h4 b rfl (fun z=>by rw[z]at he;cases he));exact⟨b,o,rfl,t,q1,q2,(World.cell?_of_block (w:=w) (a:=⟨b,o+i*3,none⟩) hb).trans c0,(World.cell?_of_block (w:=w) (a:=⟨b,o+i*3+1,none⟩) hb).trans c1,(World.cell?_of_block (w:=w) (a:=⟨b,o+i*3+2,none⟩) hb).trans c2⟩
 ·cases es with
  |A1=>exact absurd rfl hne
  |cons e r=>
   obtain⟨b,o,rfl,t,_,_,c0,_⟩:=h3 0 e rfl;cases hg
   exact hE b (World.block_lt_of_cell? _ _ c0) (h4 b rfl hne)
theorem a0M.move{l:List Vw.Acc}(h:a0M w E v l)(hk: ∀k,k<w.heap.size→E k→w'.heap[k]?=w.heap[k]?)(hE: ∀k,k<w.heap.size→E k→E' k):a0M w' E' v l:=by
 obtain⟨⟨A,A0,rfl,h1,h2,h3⟩,h4⟩:=h;refine⟨⟨A,A0,rfl,h1,h2,fun i e he=>?_⟩,fun g hg hne=>?_⟩
 ·obtain⟨b,o,rfl,t,q1,q2,c0,c1,c2,c3⟩:=h3 i e he;have hp:b<w.heap.size:=World.block_lt_of_cell? _ _ c0;have hb:=hk b hp (h4 b rfl (fun z=>by rw[z]at he;cases he));exact⟨b,o,rfl,t,q1,q2,(World.cell?_of_block (w:=w) (a:=⟨b,o+i*4,none⟩) hb).trans c0,(World.cell?_of_block (w:=w) (a:=⟨b,o+i*4+1,none⟩) hb).trans c1,(World.cell?_of_block (w:=w) (a:=⟨b,o+i*4+2,none⟩) hb).trans c2,(World.cell?_of_block (w:=w) (a:=⟨b,o+i*4+3,none⟩) hb).trans c3⟩
 ·cases l with
  |A1=>exact absurd rfl hne
  |cons e r=>
   obtain⟨b,o,rfl,t,_,_,c0,_⟩:=h3 0 e rfl;cases hg
   exact hE b (World.block_lt_of_cell? _ _ c0) (h4 b rfl hne)
theorem a5X(w:World)(E:Nat→Prop):a0B w E nS []:=⟨⟨none,0,rfl,c9C _,c9D _,fun i e he=>by cases he⟩,fun _ _ h=>absurd rfl h⟩
theorem oW(w:World)(E:Nat→Prop):a0M w E nS []:=⟨bJ.nil w,fun _ _ h=>absurd rfl h⟩
structure dS(w w':World)(F F' E E':Nat→Prop):Prop where
 off:Off F w w'
 growF: ∀k,F' k→F k∨w.heap.size≤k
 growE: ∀k,E' k→E k∨w.heap.size≤k
theorem dS.of_below(F E:Nat→Prop)(h:Bl w w'):dS w w' F F E E:=⟨Off.of_below h,fun _ h=>Or.inl h,fun _ h=>Or.inl h⟩
theorem dS.trans{a b c:World}{G:Nat→Prop}(h:dS a b F G E I)(k:dS b c G H I J):dS a c F H E J:=
 ⟨h.off.past k.off fun y s hy=>by
  rcases h.growF y s with q|q
  ·exact q
  ·omega,fun y s=>by
  rcases k.growF y s with q|q
  ·exact h.growF y q
  ·exact Or.inr (c9E h.off.size q),fun y s=>by
  rcases k.growE y s with q|q
  ·exact h.growE y q
  ·exact Or.inr (c9E h.off.size q)⟩
structure WfS(c:Sto.Cfg)(s:Sto.St):Prop where
 len:s.disks.length=c.d+c.s
 d1:1≤c.d
 d8:c.d≤8
 s4:c.s≤4
 b1:1≤c.b
 b10:c.b≤10
 wd:WfD s.disks 100
 segs:s.segs≤40
 tail:s.tail.length<c.b
 bats: ∀b,b∈s.tail→(Evt.aA b).1=0
 up:UpI s.seen
 cmds:(s.seen.length:Int)≤s.u
 right:Vw.iQ s.u s.acc
def jZ(c:Sto.Cfg)(D n segs:Nat)(vt vs:Value)(u:Int)(va:Value):List Value:=[iV c.d,iV c.s,iV c.b,.slice (some (aD D 0)) n n,iV segs,vt,vs,iV u,va]
def wY(x:Int×Sl):List Value:=[iV x.1,slV x.2]
structure a0J(w:World)(N:Nat)(E:Nat→Prop)(vt:Value)(tc:List (Int×Sl))(l:List Evt.Bat):Prop where
 own:w.ownsRow N 47 2 vt l.length (tc.flatMap wY)
 len:tc.length=l.length
 evs: ∀(i:Nat) (x:Int×Sl) (b:Evt.Bat),tc[i]?=some x→l[i]?=some b→b.cmd=x.1∧a0B w E (slV x.2) b.evs
structure StP(w:World)(N R:Nat)(F E:Nat→Prop)(c:Sto.Cfg)(s:Sto.St)(D:Nat)(V:Nat→Value)(U:Nat→List HeC)(vt vs va:Value)(tc:List (Int×Sl)):Prop where
 var:aW w R 45 (jZ c D s.disks.length s.segs vt vs s.u va)
 ge:N≤R
 dk:dM w N D V U s.disks
 tail:a0J w N E vt tc s.tail
 seen:w.ownsRow N 3 1 vs s.seen.length (s.seen.flatMap aE)
 acc:a0M w E va s.acc
 fR:F R
 fD:F D
 fV: ∀i g,i<s.disks.length→(V i).ownBlock=some g→F g
 fU: ∀(i:Nat) (x:HeC) (g:Nat),i<s.disks.length→x∈U i→(slV x.2.1).ownBlock=some g→F g
 fT: ∀g,vt.ownBlock=some g→F g
 fS: ∀g,vs.ownBlock=some g→F g
 lt: ∀k,F k→N≤k∧k<w.heap.size
 dis: ∀k,E k→ ¬F k∧k<w.heap.size
 wf:WfS c s
def uP(w:World)(N R:Nat)(F E:Nat→Prop)(c:Sto.Cfg)(s:Sto.St):Prop:= ∃D V U vt vs va tc,StP w N R F E c s D V U vt vs va tc
theorem a0J.move{tc:List (Int×Sl)}{l:List Evt.Bat}(h:a0J w N E vt tc l)(hk: ∀k,k<w.heap.size→E k→w'.heap[k]?=w.heap[k]?)(hE: ∀k,k<w.heap.size→E k→E' k)(ho:Off S w w')(hS: ∀g,vt.ownBlock=some g→ ¬S g):a0J w' N E' vt tc l:=
 ⟨bC h.own ho hS,h.len,fun i x b hx hb=>⟨(h.evs i x b hx hb).1,(h.evs i x b hx hb).2.move hk hE⟩⟩
section
variable {w w' : World} {N R D : Nat} {F F' E : Nat → Prop} {c : Sto.Cfg} {s : Sto.St} {V : Nat → Value} {U : Nat → List HeC} {vt vs va : Value} {tc : List (Int × Sl)}
theorem StP.out(h:StP w N R F E c s D V U vt vs va tc)(ho:Off S w w')(hS: ∀k,S k→ ¬F k∧ ¬E k):StP w' N R F E c s D V U vt vs va tc:=by
 have A0: ∀k,k<w.heap.size→F k∨E k→w'.heap[k]?=w.heap[k]?:=fun k hk hf=>ho.block k hk fun q=>by
  rcases hf with z|z
  ·exact(hS k q).1 z
  ·exact(hS k q).2 z
 have A1: ∀k,k<w.heap.size→E k→w'.heap[k]?=w.heap[k]?:=fun k hk he=>A0 k hk (Or.inr he);have A2:dM w' N D V U s.disks:=by
  refine⟨h.dk.row.of_block (A0 D h.dk.row.lt (Or.inl h.fD)),h.dk.ge,fun i hi=>bC (h.dk.own i hi) ho fun g hg q=>(hS g q).1 (h.fV i g hi hg),h.dk.bl,fun i x hi hx=>(h.dk.byt i x hi hx).off ho fun g hg q=>(hS g q).1 (h.fU i x g hi hx hg),h.dk.sepV,h.dk.sepU⟩
 exact⟨h.var.off ho fun q=>(hS R q).1 h.fR,h.ge,A2,h.tail.move A1 (fun _ _ q=>q) ho fun g hg q=>(hS g q).1 (h.fT g hg),bC h.seen ho fun g hg q=>(hS g q).1 (h.fS g hg),h.acc.move A1 fun _ _ q=>q,h.fR,h.fD,h.fV,h.fU,h.fT,h.fS,fun k hk=>⟨(h.lt k hk).1,c9P (h.lt k hk).2 ho.size⟩,fun k hk=>⟨(h.dis k hk).1,c9P (h.dis k hk).2 ho.size⟩,h.wf⟩
theorem StP.below(h:StP w N R F E c s D V U vt vs va tc)(hb:Bl w w'):StP w' N R F E c s D V U vt vs va tc:=h.out (Off.of_below (S:=fun _=>False) hb) fun _ q=>q.elim
theorem uP.out(h:uP w N R F E c s)(ho:Off S w w')(hS: ∀k,S k→ ¬F k∧ ¬E k):uP w' N R F E c s:=by
 obtain⟨D,V,U,vt,vs,va,tc,h⟩:=h;exact⟨D,V,U,vt,vs,va,tc,h.out ho hS⟩
theorem uP.lt(h:uP w N R F E c s)(hk:F k∨E k):k<w.heap.size:=by
 obtain⟨D,V,U,vt,vs,va,tc,h⟩:=h;rcases hk with q|q
 ·exact(h.lt k q).2
 ·exact(h.dis k q).2
theorem StP.disks(h:StP w N R F E c s D V U vt vs va tc)(ho:Off S w w')(hS: ∀k,S k→F k∧ ∃t,TyB w k t∧(t=58∨t=61∨t=5))(hdk:dM w' N D V' U' ds')(hlen:ds'.length=s.disks.length)
  (hF: ∀k,F k→F' k) (hF': ∀k,F' k→F k∨(w.heap.size≤k∧k<w'.heap.size)) (hNw:N≤w.heap.size) (hV: ∀i g,i<s.disks.length→(V' i).ownBlock=some g→F' g) (hU: ∀(i:Nat) (x:HeC) (g:Nat),i<s.disks.length→x∈U' i→(slV x.2.1).ownBlock=some g→F' g) (hwf:WfS c {s with disks:=ds'}):
  StP w' N R F' E c {s with disks:=ds'} D V' U' vt vs va tc∧dS w w' F F' E E:=by
 have hf:dS w w' F F' E E:=⟨ho.wider fun k q=>(hS k q).1,fun k q=>(hF' k q).imp id (·.1),fun _ q=>Or.inl q⟩
 have A1:=fun k hk he=>ho.block k hk fun q=>(h.dis k he).1 (hS k q).1;have no: ∀{g:Nat} {t:TypeId},TyB w g t→t≠58→t≠61→t≠5→ ¬S g:=fun {g t} ht n1 n2 n3 q=>by
  obtain⟨_,t',A0,z⟩:=hS g q;rcases z with rfl|rfl|rfl
  ·exact ht.ne A0 n1 rfl
  ·exact ht.ne A0 n2 rfl
  ·exact ht.ne A0 n3 rfl
 refine⟨⟨?_,h.ge,hdk,h.tail.move A1 (fun _ _ q=>q) ho fun g hg=>no (aU h.tail.own hg) (by decide) (by decide) (by decide),bC h.seen ho fun g hg=>no (aU h.seen hg) (by decide) (by decide) (by decide),h.acc.move A1 fun _ _ q=>q,hF _ h.fR,hF _ h.fD,fun i g hi=>hV i g (by rw[←hlen];exact hi),fun i x g hi=>hU i x g (by rw[←hlen];exact hi),fun g hg=>hF _ (h.fT g hg),fun g hg=>hF _ (h.fS g hg),fun k hk=>?_,fun k hk=>⟨fun q=>?_,c9P (h.dis k hk).2 ho.size⟩,hwf⟩,hf⟩
 ·show aW w' R _ (jZ c D ds'.length s.segs vt vs s.u va);rw[hlen];exact h.var.off ho (no h.var.ty (by decide) (by decide) (by decide))
 ·rcases hF' k hk with q|⟨q1,q2⟩
  ·exact⟨(h.lt k q).1,c9P (h.lt k q).2 ho.size⟩
  ·exact⟨c9E hNw q1,q2⟩
 ·rcases hF' k q with z|⟨z,_⟩
  ·exact(h.dis k hk).1 z
  ·exact absurd (h.dis k hk).2 (Nat.not_lt.2 z)
theorem StP.c3(h:StP w N R F E c s D V U vt vs va tc):w.cell? (aD R 3)=some (.slice (some (aD D 0)) s.disks.length s.disks.length):=h.var.cell rfl
end
def qE(w:World)(E:Nat→Prop)(v:Value)(a:Sto.Ans):Prop:= ∃ve va,v=.agg #[iV a.err,iV a.n,ve,iV a.vu,va]∧a0B w E ve a.evs∧a0M w E va a.vl
theorem qE.move{a:Sto.Ans}(h:qE w E v a)(hk: ∀k,k<w.heap.size→E k→w'.heap[k]?=w.heap[k]?)(hE: ∀k,k<w.heap.size→E k→E' k):qE w' E' v a:=by
 obtain⟨ve,va,hv,h1,h2⟩:=h;exact⟨ve,va,hv,h1.move hk hE,h2.move hk hE⟩
theorem fI(w:World)(E:Nat→Prop)(x:Nat)(n:Int):qE w E (.agg #[iV x,iV n,nS,iV 0,nS]) ⟨x,n,[],0,[]⟩:=⟨_,_,rfl,a5X w E,oW w E⟩
theorem WfD.set(h:WfD ds m)(q:Nat)(hd:Sto.Up d'.bl∧(∀h,h∈d'.bl→0≤h.1∧h.1<(m:Int))∧(d'.gone=true→d'.bl=[])):WfD (ds.set q d') m:=fun i d hi=>by
 by_cases e:i=q
 ·subst e
  rw[List.getElem?_set_self']at hi
  obtain⟨_,_,rfl⟩:=c9J.1 hi
  exact hd
 ·rw[d0P (fun z=>e z.symm)]at hi
  exact h i d hi
theorem WfS.disk{c:Sto.Cfg}(h:WfS c s)(q:Nat)(hd:Sto.Up d'.bl∧(∀h,h∈d'.bl→0≤h.1∧h.1<((100:Nat):Int))∧(d'.gone=true→d'.bl=[])):WfS c {s with disks:=s.disks.set q d'}:=
 ⟨by show(s.disks.set q d').length=_;rw[d0B];exact h.len,h.d1,h.d8,h.s4,h.b1,h.b10,h.wd.set q hd,h.segs,h.tail,h.bats,h.up,h.cmds,h.right⟩
section
variable {w : World} {N R D : Nat} {F E : Nat → Prop} {c : Sto.Cfg} {s : Sto.St} {V : Nat → Value} {U : Nat → List HeC} {vt vs va : Value} {tc : List (Int × Sl)} {ds : List Sto.aL}
theorem dM.swap(h:dM w N D V U ds){d:Sto.aL}(hq:ds[q]?=some d)(b:Bool):dM ((w.setCell (aD D (q*2)) (.bool b)).setCell (aD D (q*2+1)) nS) N D (upd V q nS) (upd U q []) (ds.set q ⟨b,[]⟩):=by
 have hl:=(c9H.1 hq).1;refine h.put hl ⟨b,[]⟩ nS [] ?_ (((Off.refl _ w).set (p:=⟨D,q*2,none⟩) (Or.inl rfl) _).set (p:=⟨D,q*2+1,none⟩) (Or.inl rfl) _) (World.ownsRow_nil _ N _ 2) rfl (fun x hx=>by cases hx) (fun g hg=>by cases hg) (fun a x g ha=>by cases ha) (fun a _ x _ g ha=>by cases ha);refine((h.row.set (q*2) (.bool b)).set (q*2+1) nS).congr fun j hj=>?_;rw[wZ hq _ j];by_cases e:j=q*2
 ·rw[if_pos e,if_neg (by omega),if_pos e]
 ·rw[if_neg e];by_cases e2:j=q*2+1
  ·rw[if_pos e2,if_neg e]
  ·rw[if_neg e2,if_neg e]
theorem dM.spoilt(h:dM w N D V U ds){y:Nat}{d:Sto.aL}{x:HeC}(hq:ds[q]?=some d)(hx:(U q)[i]?=some x)(hv:slV x.2.1=.slice (some (aD g 0)) n cap)(hp:p<x.2.2.length)(hy:y<256):
  dM (w.setCell (aD g p) (.int .u8 ((y:Nat):Int))) N D V (upd U q ((U q).set i (x.1,x.2.1,x.2.2.set p y))) (ds.set q ⟨d.gone,d.bl.set i (x.1,x.2.2.set p y)⟩):=by
 have hl:=(c9H.1 hq).1;have A2:=(c9H.1 hx).1;have A1:=c9N hx;have hB:=h.byt q x hl A1;have A0:(slV x.2.1).ownBlock=some g:=by rw[hv];rfl
 have A3:=hB.ty A0;have ho:=aG w (aD g p) (.int .u8 ((y:Nat):Int));have H:=h.put (w':=w.setCell (aD g p) (.int .u8 ((y:Nat):Int))) hl ⟨d.gone,d.bl.set i (x.1,x.2.2.set p y)⟩ (V q) ((U q).set i (x.1,x.2.1,x.2.2.set p y)) ?_ (ho.wider fun k e=>Or.inr (Or.inr ⟨x,A1,by rw[A0,e]⟩)) ?_ ?_ (fun z hz=>?_) (fun b hb=>Or.inl hb) (fun a z b ha hb=>?_) (fun a b z z' e ha hb h1 h2=>?_)
 ·rw[oT]at H;exact H
 ·refine(h.row.of_block (ho.block D h.row.lt fun e=>h.row.ty.ne A3 (by decide) e)).congr fun j hj=>?_;rw[wZ hq (V q) j];by_cases e:j=q*2
  ·rw[if_pos e,e];unfold dkF;rw[if_pos (by omega),show q*2/2=q by omega,c9R,hq];rfl
  ·rw[if_neg e];by_cases e2:j=q*2+1
   ·rw[if_pos e2,e2];unfold dkF;rw[if_neg (by omega),show(q*2+1)/2=q by omega]
   ·rw[if_neg e2]
 ·rw[d0B];have e:((U q).set i (x.1,x.2.1,x.2.2.set p y)).flatMap aI=(U q).flatMap aI:=by
   have h1:=uZ (U q) i 0 x (x.1,x.2.1,x.2.2.set p y) (iV x.1) (by decide) hx rfl;rw[←h1];have h2:=dQ aI 2 (U q) (fun _ _=>rfl) i 0 (by decide) x hx;obtain⟨h3,h4⟩:=c9H.1 (show((U q).flatMap aI)[i*2+0]?=some (iV x.1)from h2);conv=>lhs;rw[←h4]
   exact List.set_getElem_self h3
  rw[e];exact bC (h.own q hl) ho fun b hb e=>(aU (h.own q hl) hb).ne A3 (by decide) e
 ·show d.bl.set i (x.1,x.2.2.set p y)=((U q).set i (x.1,x.2.1,x.2.2.set p y)).map kQ;rw[List.map_set,h.bl q d hq];rfl
 ·obtain⟨a,ha⟩:=d1K.1 hz;by_cases e:a=i
  ·subst e;rw[d0O A2]at ha;cases ha
   show eQ _ N (slV x.2.1) (x.2.2.set p y);rw[hv]at hB⊢;exact hB.set hp hy
  ·rw[d0P (fun z=>e z.symm)]at ha;exact(h.byt q z hl (c9N ha)).off ho fun b hb e2=>e (h.sepU q q a i z x g hl hl ha hx (by rw[hb,e2]) A0).2
 ·by_cases e:a=i
  ·subst e;rw[d0O A2]at ha;cases ha
   exact Or.inl ⟨x,A1,hb⟩
  ·rw[d0P (fun z=>e z.symm)]at ha;exact Or.inl ⟨z,c9N ha,hb⟩
 ·have A4: ∀(a:Nat) (z:HeC),((U q).set i (x.1,x.2.1,x.2.2.set p y))[a]?=some z→ ∃z0,(U q)[a]?=some z0∧z0.2.1=z.2.1:=fun a z ha=>by
   by_cases e:a=i
   ·subst e;rw[d0O A2]at ha;cases ha
    exact⟨x,hx,rfl⟩
   ·rw[d0P (fun z=>e z.symm)]at ha;exact⟨z,ha,rfl⟩
  obtain⟨z0,q1,q2⟩:=A4 a z ha;obtain⟨z1,q3,q4⟩:=A4 b z' hb;exact(h.sepU q q a b z0 z1 e hl hl q1 q3 (by rw[q2];exact h1) (by rw[q4];exact h2)).2
def iC(w w':World)(N R:Nat)(F E:Nat→Prop)(c:Sto.Cfg)(s:Sto.St)(D:Nat)(vt vs va:Value)(tc:List (Int×Sl))(ds':List Sto.aL):Prop:= ∃V' U',StP w' N R F E c {s with disks:=ds'} D V' U' vt vs va tc∧dS w w' F F E E
theorem iC.same(h:StP w N R F E c s D V U vt vs va tc)(hb:Bl w w'):iC w w' N R F E c s D vt vs va tc s.disks:=⟨V,U,h.below hb,dS.of_below F E hb⟩
theorem StP.swap(h:StP w N R F E c s D V U vt vs va tc){d:Sto.aL}(hq:s.disks[q]?=some d)(b:Bool)(hNw:N≤w.heap.size):iC w ((w.setCell (aD D (q*2)) (.bool b)).setCell (aD D (q*2+1)) nS) N R F E c s D vt vs va tc (s.disks.set q ⟨b,[]⟩):=by
 have ho:Off (fun k=>k=D) w ((w.setCell (aD D (q*2)) (.bool b)).setCell (aD D (q*2+1)) nS):=((Off.refl (fun k=>k=D) w).set (p:=⟨D,q*2,none⟩) rfl _).set (p:=⟨D,q*2+1,none⟩) rfl _;refine⟨_,_,h.disks ho (fun k e=>⟨by rw[e];exact h.fD,_,by rw[e];exact h.dk.row.ty,Or.inl rfl⟩) (h.dk.swap hq b) (d0B ..) (fun _ z=>z) (fun _ z=>Or.inl z) hNw (fun i g hi hg=>?_) (fun i x g hi hx hg=>?_) (h.wf.disk q ⟨List.Pairwise.nil,fun _ hh=>(by cases hh),fun _=>rfl⟩)⟩
 ·by_cases e:i=q
  ·rw[e,bM]at hg;cases hg
  ·rw[aV _ _ e]at hg;exact h.fV i g hi hg
 ·by_cases e:i=q
  ·rw[e,bM]at hx;cases hx
  ·rw[aV _ _ e]at hx;exact h.fU i x g hi hx hg
theorem StP.spoilt(h:StP w N R F E c s D V U vt vs va tc){y:Nat}{d:Sto.aL}{x:HeC}(hq:s.disks[q]?=some d)(hx:(U q)[i]?=some x)(hv:slV x.2.1=.slice (some (aD g 0)) n cap)(hp:p<x.2.2.length)(hy:y<256)(hNw:N≤w.heap.size):
  iC w (w.setCell (aD g p) (.int .u8 ((y:Nat):Int))) N R F E c s D vt vs va tc (s.disks.set q ⟨d.gone,d.bl.set i (x.1,x.2.2.set p y)⟩):=by
 have hl:=(c9H.1 hq).1;have A1:=c9N hx;have A4:(slV x.2.1).ownBlock=some g:=by rw[hv];rfl
 have A2:=h.wf.wd q d hq;have A5:=h.dk.bl q d hq;have A0:(d.bl.set i (x.1,x.2.2.set p y)).map (·.1)=d.bl.map (·.1):=by
  rw[List.map_set];have h1:(d.bl.map (·.1))[i]?=some x.1:=by
   rw[A5,gP,c9S,hx];rfl
  obtain⟨h3,h4⟩:=c9H.1 h1;show(d.bl.map (·.1)).set i x.1=_
  conv=>lhs;rw[←h4]
  exact List.set_getElem_self h3
 refine⟨_,_,h.disks (aG w (aD g p) (.int .u8 ((y:Nat):Int))) (fun k e=>⟨?_,_,?_,Or.inr (Or.inr rfl)⟩) (h.dk.spoilt hq hx hv hp hy) (d0B ..) (fun _ z=>z) (fun _ z=>Or.inl z) hNw (fun i g hi hg=>h.fV i g hi hg) (fun j z b hj hz hb=>?_) (h.wf.disk q ⟨?_,fun z hz=>?_,fun hgone=>?_⟩)⟩
 ·have e:k=g:=e;rw[e];exact h.fU q x g hl A1 A4
 ·have e:k=g:=e;rw[e];exact(h.dk.byt q x hl A1).ty A4
 ·by_cases e:j=q
  ·subst e;rw[bM]at hz;rcases List.mem_or_eq_of_mem_set hz with z1|rfl
   ·exact h.fU j z b hj z1 hb
   ·exact h.fU j x b hj A1 hb
  ·rw[aV _ _ e]at hz;exact h.fU j z b hj hz hb
 ·rw[Sto.oI];show UpI ((d.bl.set i (x.1,x.2.2.set p y)).map (·.1))
  rw[A0];exact Sto.oI.1 A2.1
 ·have A3:z.1∈(d.bl.set i (x.1,x.2.2.set p y)).map (·.1):=List.mem_map_of_mem hz
  rw[A0]at A3;obtain⟨z',A6,e⟩:=d0G.1 A3;rw[←e];exact A2.2.1 z' A6
 ·have:=A2.2.2 hgone;rw[A5]at this;have:U q=[]:=List.map_eq_nil_iff.1 this;rw[this]at A1;cases A1
end
def a5Z(e:Ending)(w w':World)(N R:Nat)(F E:Nat→Prop)(c:Sto.Cfg)(s:Sto.St)(D:Nat)(vt vs va:Value)(tc:List (Int×Sl))(x:Nat)(ds':List Sto.aL):Prop:=e=.returned (iV x)∧iC w w' N R F E c s D vt vs va tc ds'
section
variable {N R D : Nat} {F E : Nat → Prop} {c : Sto.Cfg} {s : Sto.St} {V : Nat → Value} {U : Nat → List HeC} {vt vs va : Value} {tc : List (Int × Sl)}
theorem Tryz.enters_lose: ∀args w,(callFunc 25 args).run Tryz.prog w=.ok (.enter 25 args) w:=enters_of Tryz.func25 (by kernel_rfl) rfl
theorem Tryz.enters_swap: ∀args w,(callFunc 26 args).run Tryz.prog w=.ok (.enter 26 args) w:=enters_of Tryz.func26 (by kernel_rfl) rfl
theorem c0N(q:Nat)(d:Sto.aL)(w:World)(h:StP w N R F E c s D V U vt vs va tc)(hq:s.disks[q]?=some d)(hNw:N≤w.heap.size):
  Calls prog 25 #[.pointer (some (aD D (q*2)))] w fun e w'=>a5Z e w w' N R F E c s D vt vs va tc (if d.gone then 8 else 0) (if d.gone then s.disks else s.disks.set q ⟨true,[]⟩):=by
 have g0:=h.dk.gone hq;have g1:=h.dk.held (c9H.1 hq).1;have f0:=h.dk.row.frozen (q*2);have f1:=h.dk.row.frozen (q*2+1);cases hg:d.gone with
 |true=>
  have HH:=hd8 (iC.same h (Below.refl _ _));rw[hg]at g0;clear h hg;go_enter func25,ntmps25
  go_wp2_with fail;go_ret
  exact⟨rfl,HH.out⟩
 |false=>
  have HH:=hd8 (h.swap hq true hNw);rw[hg]at g0;clear h hg;go_enter func25,ntmps25
  go_wp2_with fail;go_ret
  exact⟨rfl,HH.out⟩
theorem c0W(q:Nat)(d:Sto.aL)(w:World)(h:StP w N R F E c s D V U vt vs va tc)(hq:s.disks[q]?=some d)(hNw:N≤w.heap.size):
  Calls prog 26 #[.pointer (some (aD D (q*2)))] w fun e w'=>a5Z e w w' N R F E c s D vt vs va tc 0 (s.disks.set q ⟨false,[]⟩):=by
 have g0:=h.dk.gone hq;have g1:=h.dk.held (c9H.1 hq).1;have f0:=h.dk.row.frozen (q*2);have f1:=h.dk.row.frozen (q*2+1);have HH:=hd8 (h.swap hq false hNw);clear h;go_enter func26,ntmps26
 go_wp2_with fail;go_ret
 exact⟨rfl,HH.out⟩
def dN(ds:List Sto.aL)(q:Nat)(d:Sto.aL)(k p:Int)(y:Nat):Nat×List Sto.aL:=match d.bl.find? (fun h=>decide (h.1=k))with
 |none=>(6,ds)
 |some h=>if p<0∨(h.2.length:Int)≤p then(3,ds)else(0,ds.set q ⟨d.gone,Sto.lX k p.toNat y d.bl⟩)
theorem b8M(q:Nat)(d:Sto.aL)(k p:Int)(y:Nat)(w:World)(h:StP w N R F E c s D V U vt vs va tc)(hq:s.disks[q]?=some d)(hNw:N≤w.heap.size)(hy:y<256):
  Calls prog 28 #[.pointer (some (aD D (q*2))),iV k,iV p,.int .u8 y] w fun e w'=>a5Z e w w' N R F E c s D vt vs va tc (dN s.disks q d k p y).1 (dN s.disks q d k p y).2:=by
 have hl:=(c9H.1 hq).1;have g1:=h.dk.held hl;obtain⟨Ai,Aj⟩:=h.dk.up h.wf.wd hl;have Ae:=h.wf.segs;have Ag:=h.dk.bl q d hq;have HE:=h.dk.heIn hl;have HF:=yZ k (V q) (U q) w HE Ai (by omega);have HP:=hd8 h;have HQ:=hd8 hq;have HU:=hd8 ((h.wf.wd q d hq).1);have HB:=hd8 Ag;obtain⟨A,C,hV,Ar,Af,A1⟩:=HE;rw[hV]at g1 HF;have Am:=mL8 Af;have Ak:=hd8 A1;clear h hq Ai Ag hV A1 Af;go_enter func28,ntmps28
 go_wp2_with fail;refine HF.mono ?_;rintro e w1 ⟨⟨i,z,rfl,hcut,hz⟩,b1⟩;have HC:Hid (kX (d.bl.map (·.1)) k i):=by
  show kX (d.bl.map (·.1)) k i
  rw[HB.out,gP];exact hcut
 have A8:(d.bl.map (·.1))=(U q).map (·.1):=by rw[HB.out,gP]
 have g1:=cB8 b1 g1;clear HF hcut;cases z with
 |false=>
  have HN:Hid (dN s.disks q d k p y=(6,s.disks)):=by
   show dN s.disks q d k p y=(6,s.disks);unfold dN;rw[Sto.c1S HU.out HC.out fun z=>absurd (hz.2 (by rw[←A8];exact z)) (by decide)]
  have HH:=hd8 (iC.same HP.out b1);clear hz A8;go_wp2_with fail;go_ret
  exact⟨by rw[HN.out];rfl,by rw[HN.out];exact HH.out⟩
 |true=>
  have hk:=hz.1 rfl;rw[c9S]at hk;obtain⟨x,hx,A3⟩:=c9J.1 hk;have A6:d.bl[i]?=some (kQ x):=by
   rw[HB.out,c9S,hx];rfl
  have A0:=Sto.a9X HU.out HC.out A6 A3;obtain⟨b,o,rfl,_,d1⟩:=Ak.out i x hx;have d1:=cB8 b1 d1;have A9:=HP.out.below b1;have hB:=A9.dk.byt q x hl (c9N hx);obtain⟨gx,cx,A7,_,A4,Ac,A5⟩:=hB.at;have Ah:=mL8 Ac;obtain⟨nx,A2⟩: ∃nx,nx=x.2.2.length:=⟨_,rfl⟩;have As:(i:Int)<((U q).length:Int):=by
   have:=(c9H.1 hx).1;omega
  rw[A7,←A2]at d1;by_cases hp:p<0∨(x.2.2.length:Int)≤p
  ·have HN:Hid (dN s.disks q d k p y=(3,s.disks)):=by
    show dN s.disks q d k p y=(3,s.disks);unfold dN;rw[A0];exact if_pos hp
   have HH:=hd8 (iC.same HP.out b1);rw[←A2]at hp A4;clear hz A8 hk hx A3 A6 A0 A9 hB A7 A5 A2;by_cases Ao:p<0
   ·clear hp;go_wp2_with fail;go_ret
    exact⟨by rw[HN.out];rfl,by rw[HN.out];exact HH.out⟩
   ·have Aq:(nx:Int)≤p:=by omega
    clear hp;go_wp2_with fail;go_ret
    exact⟨by rw[HN.out];rfl,by rw[HN.out];exact HH.out⟩
  ·obtain⟨p',rfl⟩: ∃p':Nat,p=(p':Int):=⟨p.toNat,by omega⟩;have Aa:p'<x.2.2.length:=by omega
   have Ad:=Sto.kJ hB.1 p';have dx:=A5.cell Aa;have fx:=A5.frozen p';obtain⟨bx,Ab⟩: ∃bx,bx=x.2.2.getD p' 0:=⟨_,rfl⟩;rw[←Ab]at dx Ad;have Al:=d2A (n:=8) Ad hy;have HN:Hid (dN s.disks q d k p' y=(0,s.disks.set q ⟨d.gone,d.bl.set i (x.1,x.2.2.set p' (bx^^^y))⟩)):=by
    show dN s.disks q d k p' y=_;unfold dN;rw[A0];show(if (p':Int)<0∨(x.2.2.length:Int)≤(p':Int)then _ else _)=_;rw[if_neg hp,c9Q,Sto.oE HU.out A6 A3,Ab,A3];rfl
   have HH:Hid (iC w (w1.setCell (aD gx p') (.int .u8 ((bx^^^y:Nat):Int))) N R F E c s D vt vs va tc (s.disks.set q ⟨d.gone,d.bl.set i (x.1,x.2.2.set p' (bx^^^y))⟩)):=by
    obtain⟨V',U',q1,q2⟩:=A9.spoilt HQ.out hx A7 Aa Al (c9E hNw b1.size);exact⟨V',U',q1,(dS.of_below F E b1).trans q2⟩
   have hX:=u8_xor_nat bx y Ad hy;have An:(p':Int)<(nx:Int):=by omega
   have Ap:p'<nx:=by omega
   rw[←A2]at A4;clear hz A8 hk hx A3 A6 A0 A9 hB A7 A5 A2 hp Aa Ab;go_wp2_with fail;go_ret
   exact⟨by rw[HN.out];rfl,by rw[HN.out];exact HH.out⟩
end
theorem aW.q0(h:aW w p t (a0::l)):w.cell? ⟨p,0,none⟩=some a0:=h.cell (i:=0) rfl
theorem aW.q1(h:aW w p t (a0::a1::l)):w.cell? ⟨p,1,none⟩=some a1:=h.cell (i:=1) rfl
theorem aW.q2(h:aW w p t (a0::a1::a2::l)):w.cell? ⟨p,2,none⟩=some a2:=h.cell (i:=2) rfl
theorem aW.q3(h:aW w p t (a0::a1::a2::a3::l)):w.cell? ⟨p,3,none⟩=some a3:=h.cell (i:=3) rfl
theorem aW.q4(h:aW w p t (a0::a1::a2::a3::a4::l)):w.cell? ⟨p,4,none⟩=some a4:=h.cell (i:=4) rfl
theorem aW.q5(h:aW w p t (a0::a1::a2::a3::a4::a5::l)):w.cell? ⟨p,5,none⟩=some a5:=h.cell (i:=5) rfl
theorem aW.q6(h:aW w p t (a0::a1::a2::a3::a4::a5::a6::l)):w.cell? ⟨p,6,none⟩=some a6:=h.cell (i:=6) rfl
theorem aW.q7(h:aW w p t (a0::a1::a2::a3::a4::a5::a6::a7::l)):w.cell? ⟨p,7,none⟩=some a7:=h.cell (i:=7) rfl
theorem aW.q8(h:aW w p t (a0::a1::a2::a3::a4::a5::a6::a7::a8::l)):w.cell? ⟨p,8,none⟩=some a8:=h.cell (i:=8) rfl
end Go.Proofs.YtmcaejooaaahdaaGreat
