import Derived.Test.YtmcaejooaaahdaaGreatZ08
set_option maxHeartbeats 8000000
set_option maxRecDepth 100000
namespace Go.Proofs.YtmcaejooaaahdaaGreat
open Go.Proofs.Tryz
variable {v:Value} {w:World}
open Go.RowKit
theorem yL(c:Int)(vs:Value)(es:List Evt.Ev)(w:World)(h:Evs w vs es):
  Calls prog 41 #[.agg #[iV c,vs]] w fun e w'=>e=.returned (.agg #[iV ((Evt.aA ⟨c,es⟩).1:Nat),iV ((Evt.aA ⟨c,es⟩).2:Nat)])∧Bl w w':=by
 obtain⟨A,C,rfl⟩:=h.sE;have A0:=aB8 w (.cells #[iV c,.slice A es.length C] 47);have A6:Bl w ((w.alloc (.cells #[iV c,.slice A es.length C] 47)).alloc (.cells #[iV 0,iV 0] 78)):=A0.alloc A0.size _;by_cases q0:c<1
 ·have H:Hid (Evt.aA ⟨c,es⟩=(3,0)):=Evt.bI (Or.inl q0);go_enter func41,ntmps41
  go_wp2_with fail;refine bodyPost_ret (v:=.agg #[iV 3,iV 0]) (by simp[results,results41,go_sem]) rfl ⟨by rw[H.out];rfl,?_⟩;exact A0.alloc A0.size _
 by_cases q1:1000000<c
 ·have H:Hid (Evt.aA ⟨c,es⟩=(3,0)):=Evt.bI (Or.inr q1);go_enter func41,ntmps41
  go_wp2_with fail;refine bodyPost_ret (v:=.agg #[iV 3,iV 0]) (by simp[results,results41,go_sem]) rfl ⟨by rw[H.out];rfl,?_⟩;exact A0.alloc A0.size _
 have hk:Hid (¬(c<1∨1000000<c)):=show¬(_∨_) by omega
 by_cases q2:es.length=0
 ·have H:Hid (Evt.aA ⟨c,es⟩=(5,0)):=Evt.eB hk.out (Or.inl q2);have g2:(es.length:Int)<1:=by omega
  clear q2;go_enter func41,ntmps41
  go_wp2_with fail;refine bodyPost_ret (v:=.agg #[iV 5,iV 0]) (by simp[results,results41,go_sem]) rfl ⟨by rw[H.out];rfl,?_⟩;exact A0.alloc A0.size _
 have g2: ¬(es.length:Int)<1:=by omega
 by_cases q3:10<es.length
 ·have H:Hid (Evt.aA ⟨c,es⟩=(5,0)):=Evt.eB hk.out (Or.inr q3);have g3:(10:Int)<(es.length:Int):=by omega
  go_enter func41,ntmps41
  go_wp2_with fail;refine bodyPost_ret (v:=.agg #[iV 5,iV 0]) (by simp[results,results41,go_sem]) rfl ⟨by rw[H.out];rfl,?_⟩;exact A0.alloc A0.size _
 have g3: ¬(10:Int)<(es.length:Int):=by omega
 have HE:Hid (Evt.aA ⟨c,es⟩=Evt.gV es 0):=Evt.pE hk.out (show¬(es.length=0∨10<es.length) by omega);obtain⟨b,o,C',hv,Ae,Af,hc⟩:=h.some (by omega);cases hv
 have VF:=aO (w.alloc (.cells #[iV c,.slice (some (aD b o)) es.length C] 47)) 78 (iV 0) (iV 0);have A7:(w.alloc (.cells #[iV c,.slice (some (aD b o)) es.length C] 47)).heap.size=w.heap.size+1:=by simp
 rw[A7]at VF;clear A7;go_enter func41,ntmps41
 go_wp2_with fail;generalize (w.alloc (.cells #[iV c,.slice (some (aD b o)) es.length C] 47)).alloc (.cells #[iV 0,iV 0] 78)=W0 at A6 VF⊢;go_loopw [29] (fun x wr=> ∃k:Nat,k≤es.length∧x=iV k∧Hid (∀j,j<k→ ∃e,es[j]?=some e∧Evt.aB e=0)∧Bl W0 wr) (fun x _=>es.length-(intOf x).toNat)
 case atStart=>exact⟨0,c9D _,rfl,fun j hj=>absurd hj (c9L j),Below.refl _ _⟩
 case round=>
  obtain⟨k,Ag,rfl,HS,A1⟩:=hrel;have bz:=bt A6 A1;by_cases A9:k<es.length
  ·have Aa:(k:Int)<(es.length:Int):=by omega
   obtain⟨ev,A2⟩: ∃ev,es[k]?=some ev:=⟨es[k],c9F A9⟩;have A5:=hd8 A2;obtain⟨s,Ab,A3,d0,d1,d2⟩:=(hc k ev A2).bE bz;have Ad:=hd8 A3;have HW:=yD s ev.kind ev.num (wr.alloc (.cells #[.string s,iV ev.kind,iV ev.num] 83)) Ab;have HQ:Hid (Evt.aB ⟨nb s,ev.kind,ev.num⟩=Evt.aB ev):=by
    show Evt.aB _=_;rw[A3]
   clear A2 A3 hc;rw[HQ.out]at HW;have bA:=aB8 wr (.cells #[.string s,iV ev.kind,iV ev.num] 83);by_cases hE:Evt.aB ev=0
   ·have A8:=hd8 hE;rw[hE]at HW;clear hE;go_wp2_with fail;refine HW.mono ?_;rintro e w1 ⟨rfl,b1⟩;have b1:=bt bA b1;clear HW;go_wp2_with fail;refine⟨⟨k+1,by omega,by go_num,fun j hj=>?_,bt A1 b1⟩,by simp[intOf];omega⟩;by_cases e:j=k
    ·rw[e];exact⟨ev,A5.out,A8.out⟩
    ·exact HS.out j (by omega)
   ·have A4:=hd8 (Evt.wF es k ev A5.out hE HS.out);generalize Evt.aB ev=x at HW A4 hE;have Ac:((x:Int)==0)=false:=by rw[beq_eq_false_iff_ne];omega
    have Ah:((x:Int) !=0)=true:=by rw[bne,Ac];rfl
    clear hE;go_wp2_with fail;refine HW.mono ?_;rintro e w1 ⟨rfl,b1⟩;have b1:=bt bA b1;obtain⟨c0,c1,fr⟩:=(VF.bE A1).bE b1;have f0:=fr 0;have f1:=fr 1;clear HW;go_wp2_with fail;refine bodyPost_ret (v:=.agg #[iV x,iV k]) (by simp[results,results41,go_sem,c0,c1]) rfl ⟨by rw[HE.out,A4.out],?_⟩;exact((bt bz b1).setCell (c9O _) _).setCell (c9O _) _
  ·obtain rfl:k=es.length:=by omega
   have HZ:Hid (Evt.gV es 0=(0,0)):=Evt.vG es 0 (fun e he=>by
    obtain⟨j,hj,rfl⟩:=d1P.1 he;obtain⟨e',h1,h2⟩:=HS.out j hj;rw[c9F hj,Option.some.injEq]at h1;rw[h1]
    exact h2)
   obtain⟨c0,c1,fr⟩:=VF.bE A1;have f0:=fr 0;have f1:=fr 1;clear hc;go_wp2_with fail;refine bodyPost_ret (v:=.agg #[iV 0,iV 0]) (by simp[results,results41,go_sem,c0,c1]) rfl ⟨by rw[HE.out,HZ.out];rfl,?_⟩;exact(bz.setCell (c9O _) _).setCell (c9O _) _
theorem eS.sE{l:List Evt.Bat}(h:eS w v l): ∃A C,v=.slice A l.length C:=by
 obtain⟨A,C,hv,_⟩:=h;exact⟨A,C,hv⟩
theorem eS.len{l:List Evt.Bat}(h:eS w v l):l.length≤9223372036854775807:=by
 obtain⟨A,C,hv,h1,h2,_⟩:=h;unfold maxLen at h2;omega
theorem vX{l:List Evt.Bat}(h:150<l.length):Evt.aF l=(5,0):=if_pos h
theorem lG{l:List Evt.Bat}(h: ¬150<l.length):Evt.aF l=Evt.gT l 0:=if_neg h
theorem qV(v:Value)(l:List Evt.Bat)(w:World)(h:eS w v l):
  Calls prog 107 #[v] w fun e w'=>e=.returned (.agg #[iV ((Evt.aF l).1:Nat),iV ((Evt.aF l).2:Nat)])∧Bl w w':=by
 obtain⟨A,C,rfl⟩:=h.sE;have hl:=h.len;have A3:=aB8 w (.cells #[iV 0,iV 0] 78);by_cases q3:150<l.length
 ·have H:=hd8 (vX q3);have g3:(150:Int)<(l.length:Int):=by omega
  go_enter func107,ntmps107
  go_wp2_with fail;refine bodyPost_ret (v:=.agg #[iV 5,iV 0]) (by simp[results,results107,go_sem]) rfl ⟨by rw[H.out];rfl,?_⟩;exact(Below.refl _ _).alloc (c9C _) _
 have g3: ¬(150:Int)<(l.length:Int):=by omega
 have HE:=hd8 (lG q3);have VF:=aO w 78 (iV 0) (iV 0);have hc:Hid (∀i x,l[i]?=some x→ ∃b o,A=some (aD b o)∧oO w b (o+i*2) x):=by
  obtain⟨A',C',hv,_,_,hc⟩:=h;cases hv
  exact hc
 clear h;go_enter func107,ntmps107
 go_wp2_with fail;generalize w.alloc (.cells #[iV 0,iV 0] 78)=W0 at A3 VF⊢;go_loopw [12] (fun x wr=> ∃k:Nat,k≤l.length∧x=iV k∧Hid (∀j,j<k→ ∃e,l[j]?=some e∧(Evt.aA e).1=0)∧Bl W0 wr) (fun x _=>l.length-(intOf x).toNat)
 case atStart=>exact⟨0,c9D _,rfl,fun j hj=>absurd hj (c9L j),Below.refl _ _⟩
 case round=>
  obtain⟨k,A9,rfl,HS,A0⟩:=hrel;have bz:=bt A3 A0;by_cases A6:k<l.length
  ·have A7:(k:Int)<(l.length:Int):=by omega
   obtain⟨x,hx⟩: ∃x,l[k]?=some x:=⟨l[k],c9F A6⟩;have A2:=hd8 hx;obtain⟨b,o,rfl,A4⟩:=hc.out k x hx;obtain⟨vs,d0,d1,he⟩:=A4.bE bz;have bA:=aB8 wr (.cells #[iV x.cmd,vs] 47);have HW:=yL x.cmd vs x.evs _ (he.bE bA);have HQ:Hid (Evt.aA ⟨x.cmd,x.evs⟩=Evt.aA x):=rfl;rw[HQ.out]at HW;obtain⟨As,Cs,rfl⟩:=he.sE;clear hx A4 he;by_cases hE:(Evt.aA x).1=0
   ·have A5:=hd8 hE;rw[hE]at HW;generalize (Evt.aA x).2=y at HW;clear hE;go_wp2_with fail;refine HW.mono ?_;rintro e w1 ⟨rfl,b1⟩;have b1:=bt bA b1;have b2:Bl wr (w1.alloc (.cells #[iV 0,iV y] 78)):=b1.alloc b1.size _;clear HW;go_wp2_with fail;refine⟨⟨k+1,by omega,by go_num,fun j hj=>?_,bt A0 b2⟩,by simp[intOf];omega⟩;by_cases e:j=k
    ·rw[e];exact⟨x,A2.out,A5.out⟩
    ·exact HS.out j (by omega)
   ·have A1:=hd8 (Evt.oT l k x A2.out hE HS.out);generalize (Evt.aA x).1=x1 at HW A1 hE;generalize (Evt.aA x).2=y at HW;have A8:((x1:Int)==0)=false:=by rw[beq_eq_false_iff_ne];omega
    have Aa:((x1:Int) !=0)=true:=by rw[bne,A8];rfl
    clear hE;go_wp2_with fail;refine HW.mono ?_;rintro e w1 ⟨rfl,b1⟩;have b1:=bt bA b1;have b2:Bl wr (w1.alloc (.cells #[iV x1,iV y] 78)):=b1.alloc b1.size _;obtain⟨c0,c1,fr⟩:=(VF.bE A0).bE b2;have f0:=fr 0;have f1:=fr 1;clear HW;go_wp2_with fail;refine bodyPost_ret (v:=.agg #[iV x1,iV k]) (by simp[results,results107,go_sem,c0,c1]) rfl ⟨by rw[HE.out,A1.out],?_⟩;exact((bt bz b2).setCell (c9C _) _).setCell (c9C _) _
  ·obtain rfl:k=l.length:=by omega
   have HZ:Hid (Evt.gT l 0=(0,0)):=Evt.lI l 0 (fun e he=>by
    obtain⟨j,hj,rfl⟩:=d1P.1 he;obtain⟨e',h1,h2⟩:=HS.out j hj;rw[c9F hj,Option.some.injEq]at h1;rw[h1]
    exact h2)
   obtain⟨c0,c1,fr⟩:=VF.bE A0;have f0:=fr 0;have f1:=fr 1;go_wp2_with fail;refine bodyPost_ret (v:=.agg #[iV 0,iV 0]) (by simp[results,results107,go_sem,c0,c1]) rfl ⟨by rw[HE.out,HZ.out];rfl,?_⟩;exact(bz.setCell (c9C _) _).setCell (c9C _) _
end Go.Proofs.YtmcaejooaaahdaaGreat
