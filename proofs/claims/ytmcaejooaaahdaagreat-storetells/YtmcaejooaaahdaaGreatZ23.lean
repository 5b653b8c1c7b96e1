import Derived.Test.YtmcaejooaaahdaaGreatZ09
set_option maxHeartbeats 8000000
set_option maxRecDepth 100000
namespace Go.Proofs.YtmcaejooaaahdaaGreat
open Go.Proofs.Tryz
variable {d:Value} {p:Nat} {w:World}
open Go.RowKit
theorem Tryz.enters_getEq: ∀args w,(callFunc 73 args).run Tryz.prog w=.ok (.enter 73 args) w:=enters_of Tryz.func73 (by kernel_rfl) rfl
theorem b4T(p:Nat)(s t:ByteArray)(k m:Int)(b:Bool)(w:World)(hc:w.cell? (aD p 0)=some (.string t)):
  Calls prog 73 #[.agg #[.string s,iV k,iV m,.bool b],.pointer (some (aD p 0))] w fun e w'=>e=.returned (.bool (s.toList==t.toList))∧Bl w w':=by
 have A0:=aB8 w (.cells #[.string s,iV k,iV m,.bool b] 93);have A1:=cB8 A0 hc;obtain⟨c0,_,_,_,_⟩:=iJ w 93 (.string s) (iV k) (iV m) (.bool b);go_enter func73,ntmps73
 go_wp2_with fail;go_ret
 exact⟨rfl,A0⟩
def b1U(l:List Vw.Acc)(n:List Nat)(i:Int):Prop:=(i= -1∧Vw.get l n=Vw.fresh n)∨ ∃(r:Nat) (a:Vw.Acc),l[r]?=some a∧i=(r:Int)∧Vw.get l n=a
theorem y8: ∀{l:List Vw.Acc} {n:List Nat} {k:Nat},(∀j a,j<k→l[j]?=some a→a.name≠n)→Vw.get l n=Vw.get (l.drop k) n
 |_,_,0,_=>rfl
 |[],_,k+1,_=>rfl
 |x::r,n,k+1,h=>by
  rw[Vw.get,if_neg (h 0 x (Nat.succ_pos k) rfl),d2W]
  exact y8 (fun j a hj ha=>h (j+1) a (by omega) (by simpa using ha))
theorem c6Y{l:List Vw.Acc}{n:List Nat}{k:Nat}{a:Vw.Acc}(h: ∀j a,j<k→l[j]?=some a→a.name≠n)(ha:l[k]?=some a)(hn:a.name=n):Vw.get l n=a:=by
 rw[y8 h,Vw.sZ ha,Vw.get,if_pos hn]
theorem b1S(p:Nat)(t:ByteArray)(vs:Value)(l:List Vw.Acc)(w:World)(h:bG w vs l)(hc:w.cell? (aD p 0)=some (.string t)):
  Calls prog 72 #[vs,.func (.func 73) #[] #[.pointer (some (aD p 0))]] w fun e w'=> ∃i:Int,e=.returned (iV i)∧b1U l (nb t) i∧Bl w w':=by
 have A6:=h.len;have eg:=Tryz.enters_getEq;obtain⟨A,C,rfl,_,_,ha⟩:=h;go_enter func72,ntmps72
 go_wp2_with fail;go_loopw [8] (fun i wr=> ∃k:Nat,k≤l.length∧i=iV k∧Hid (∀j a,j<k→l[j]?=some a→a.name≠nb t)∧Bl w wr) (fun i _=>l.length-(intOf i).toNat)
 case atStart=>exact⟨0,c9D _,rfl,fun j a hj=>absurd hj (c9L j),Below.refl _ _⟩
 case round=>
  obtain⟨k,hk,rfl,HS,hb⟩:=hrel;by_cases A4:k<l.length
  ·have A5:(k:Int)<(l.length:Int):=by omega
   obtain⟨a,A0⟩: ∃a,l[k]?=some a:=⟨l[k],c9F A4⟩;obtain⟨b,o,rfl,A2⟩:=ha k a A0;obtain⟨s,A7,A3,d0,d1,d2,d3⟩:=A2.bE hb;have HK:Hid (l[k]?=some a∧nb s=a.name):=⟨A0,A3⟩;have HC:=b4T p s t a.sum a.cnt a.opn wr (cB8 hb hc);have HY:=hd8 (nD s t);clear ha A0 A3 A2;generalize (s.toList==t.toList)=y at HC HY;cases y with
   |true=>
    have HF:Hid (b1U l (nb t) (k:Int)):=Or.inr ⟨k,a,HK.out.1,rfl,c6Y HS.out HK.out.1 (HK.out.2.symm.trans (of_decide_eq_true HY.out.symm))⟩;go_wp2_with fail;refine HC.mono ?_;rintro e w1 ⟨rfl,A1⟩;clear HC;go_wp2_with fail;go_ret
    exact⟨_,rfl,HF.out,bt hb A1⟩
   |false=>
    have HN:=hd8 fun e=>of_decide_eq_false HY.out.symm (HK.out.2.trans e);go_wp2_with fail;refine HC.mono ?_;rintro e w1 ⟨rfl,A1⟩;clear HC;go_wp2_with fail;refine⟨⟨k+1,by omega,by go_num,fun j x hj hx=>?_,bt hb A1⟩,by simp[intOf];omega⟩;by_cases e:j=k
    ·rw[e,HK.out.1]at hx;cases hx
     exact HN.out
    ·exact HS.out j x (by omega) hx
  ·obtain rfl:k=l.length:=by omega
   have HF:Hid (b1U l (nb t) (-1)):=Or.inl ⟨rfl,by rw[y8 HS.out,d0T];rfl⟩;clear ha;go_wp2_with fail;go_ret
   exact⟨_,rfl,HF.out,hb⟩
def c3W(e:Ending)(a:Vw.Acc):Prop:= ∃v,e=.returned v∧AcV v a
theorem b4O(u:Int)(t:ByteArray)(vs:Value)(l:List Vw.Acc)(w:World)(h:bG w vs l)(ht:t.size≤9223372036854775807):
  Calls prog 43 #[.agg #[iV u,vs],.string t] w fun e w'=>c3W e (Vw.get l (nb t))∧Bl w w':=by
 obtain⟨A,C,rfl⟩:=h.sE;have h1:=aB8 w (.cells #[iV u,.slice A l.length C] 30);have h2:=h1.alloc h1.size (.cells #[.string t] 9);have h3:=h2.alloc h2.size (.cells #[.string (ByteArray.mk #[]),iV 0,iV 0,.bool false] 93);have hA:=h.bE h3;have v1:(((w.alloc (.cells #[iV u,.slice A l.length C] 30)).alloc (.cells #[.string t] 9)).alloc (.cells #[.string (ByteArray.mk #[]),iV 0,iV 0,.bool false] 93)).cell? (aD w.heap.size 1)=some (.slice A l.length C):=by go_simp
 have t0:(((w.alloc (.cells #[iV u,.slice A l.length C] 30)).alloc (.cells #[.string t] 9)).alloc (.cells #[.string (ByteArray.mk #[]),iV 0,iV 0,.bool false] 93)).cell? (aD (w.heap.size+1) 0)=some (.string t):=by go_simp
 have VA:=iJ ((w.alloc (.cells #[iV u,.slice A l.length C] 30)).alloc (.cells #[.string t] 9)) 93 (.string (ByteArray.mk #[])) (iV 0) (iV 0) (.bool false);have A2:((w.alloc (.cells #[iV u,.slice A l.length C] 30)).alloc (.cells #[.string t] 9)).heap.size=w.heap.size+1+1:=by simp
 rw[A2]at VA;clear A2 h1 h2 h;go_enter func43,ntmps43
 go_wp2_with fail;generalize ((w.alloc (.cells #[iV u,.slice A l.length C] 30)).alloc (.cells #[.string t] 9)).alloc (.cells #[.string (ByteArray.mk #[]),iV 0,iV 0,.bool false] 93)=W at h3 hA v1 t0 VA⊢;refine(b1S (w.heap.size+1) t (.slice A l.length C) l W hA t0).mono ?_;rintro e w1 ⟨i,rfl,HF,b1⟩;have hA:=hA.bE b1;have v1:=cB8 b1 v1;have t0:=cB8 b1 t0;obtain⟨g0,g1,g2,g3,fr⟩:=VA.bE b1;have f0:=fr 0;have f1:=fr 1;have f2:=fr 2;have f3:=fr 3;clear VA fr;rcases HF with⟨rfl,hg⟩|⟨r,a,hr,rfl,hg⟩
 ·have HG:=hd8 hg;clear hg hA;go_wp2_with fail;refine bodyPost_ret (v:=.agg #[.string t,iV 0,iV 0,.bool false]) (by simp[results,results43,go_sem,g0,g1,g2,g3]) rfl ⟨⟨_,rfl,?_⟩,?_⟩
  ·rw[HG.out];exact⟨t,ht,rfl,rfl⟩
  ·exact((((bt h3 b1).setCell (by show w.heap.size≤w.heap.size+1+1;omega) _).setCell (by show w.heap.size≤w.heap.size+1+1;omega) _).setCell (by show w.heap.size≤w.heap.size+1+1;omega) _).setCell (by show w.heap.size≤w.heap.size+1+1;omega) _
 ·have HG:=hd8 hg;have A7:r<l.length:=(c9H.1 hr).1;have A5:=hA.len;obtain⟨b,o,C',hv,_,_,A0⟩:=hA.some (by omega);cases hv
  obtain⟨s,A4,A1,d0,d1,d2,d3⟩:=A0 r a hr;have HN:=hd8 A1;have A6: ¬(r:Int)<0:=by omega
  have A3:(r:Int)<(l.length:Int):=by omega
  clear hg hA hr A1 A0;go_wp2_with fail;refine bodyPost_ret (v:=.agg #[.string s,iV a.sum,iV a.cnt,.bool a.opn]) (by simp[results,results43,go_sem,g0,g1,g2,g3]) rfl ⟨⟨_,rfl,?_⟩,?_⟩
  ·rw[HG.out];exact⟨s,A4,HN.out,rfl⟩
  ·exact((((bt h3 b1).setCell (by show w.heap.size≤w.heap.size+1+1;omega) _).setCell (by show w.heap.size≤w.heap.size+1+1;omega) _).setCell (by show w.heap.size≤w.heap.size+1+1;omega) _).setCell (by show w.heap.size≤w.heap.size+1+1;omega) _
theorem c6L{a:Vw.Acc}{e:Evt.Ev}(h:e.kind=1):Vw.may a e=!a.opn:=if_pos h
theorem yS{a:Vw.Acc}{e:Evt.Ev}(h:e.kind=2∨e.kind=4):Vw.may a e=a.opn:=by unfold Vw.may;rw[if_neg (by omega),if_pos h]
theorem c3C{a:Vw.Acc}{e:Evt.Ev}(h:e.kind=3):Vw.may a e=(a.opn&&decide (e.num≤a.sum)):=by unfold Vw.may;rw[if_neg (by omega),if_neg (by omega),if_pos h]
theorem b9I{a:Vw.Acc}{e:Evt.Ev}(h1:e.kind≠1)(h2:e.kind≠2)(h3:e.kind≠3)(h4:e.kind≠4):Vw.may a e=false:=by unfold Vw.may;rw[if_neg h1,if_neg (by omega),if_neg h3]
theorem c6D(s s':ByteArray)(S c k m:Int)(b:Bool)(w:World):
  Calls prog 104 #[.agg #[.string s,iV S,iV c,.bool b],.agg #[.string s',iV k,iV m]] w fun e w'=>e=.returned (.bool (Vw.may ⟨nb s,S,c,b⟩ ⟨nb s',k,m⟩))∧Bl w w':=by
 have h1:=aB8 w (.cells #[.string s,iV S,iV c,.bool b] 93);have h2:=h1.alloc h1.size (.cells #[.string s',iV k,iV m] 83);by_cases q1:k=1
 ·have H:Hid (Vw.may ⟨nb s,S,c,b⟩ ⟨nb s',k,m⟩=!b):=c6L q1;subst q1;go_enter func104,ntmps104
  go_wp2_with fail;go_ret
  exact⟨by rw[H.out];rfl,h2⟩
 have e1:(k==1)=false:=by rw[beq_eq_false_iff_ne];exact q1
 by_cases q2:k=2
 ·have H:Hid (Vw.may ⟨nb s,S,c,b⟩ ⟨nb s',k,m⟩=b):=yS (Or.inl q2);subst q2;clear q1 e1;go_enter func104,ntmps104
  go_wp2_with fail;go_ret
  exact⟨by rw[H.out];rfl,h2⟩
 have e2:(k==2)=false:=by rw[beq_eq_false_iff_ne];exact q2
 by_cases q4:k=4
 ·have H:Hid (Vw.may ⟨nb s,S,c,b⟩ ⟨nb s',k,m⟩=b):=yS (Or.inr q4);subst q4;clear q1 e1 q2 e2;go_enter func104,ntmps104
  go_wp2_with fail;go_ret
  exact⟨by rw[H.out];rfl,h2⟩
 have e4:(k==4)=false:=by rw[beq_eq_false_iff_ne];exact q4
 by_cases q3:k=3
 ·have H:Hid (Vw.may ⟨nb s,S,c,b⟩ ⟨nb s',k,m⟩=(b&&decide (m≤S))):=c3C q3;subst q3;clear q1 e1 q2 e2 q4 e4;cases b with
  |false=>
   go_enter func104,ntmps104
   go_wp2_with fail;go_ret
   exact⟨by rw[H.out];rfl,h2⟩
  |true=>
   go_enter func104,ntmps104
   go_wp2_with fail;go_ret
   exact⟨by rw[H.out];rfl,h2⟩
 have e3:(k==3)=false:=by rw[beq_eq_false_iff_ne];exact q3
 have H:Hid (Vw.may ⟨nb s,S,c,b⟩ ⟨nb s',k,m⟩=false):=b9I q1 q2 q3 q4;clear q1 q2 q3 q4;go_enter func104,ntmps104
 go_wp2_with fail;go_ret
 exact⟨by rw[H.out];rfl,h2⟩
theorem pG.set4{a b c:Value}(h:pG w p a b c d)(x y z u:Value):pG ((((w.setCell (aD p 0) x).setCell (aD p 1) y).setCell (aD p 2) z).setCell (aD p 3) u) p x y z u:=by
 have c0:=h.c0;have c1:=h.c1;have c2:=h.c2;have c3:=h.c3;exact⟨by go_simp,by go_simp,by go_simp,by go_simp,fun i=>by have:=h.fr i;go_simp⟩
theorem c0O(w:World)(p:Nat)(x y z u:Value):Off (fun j=>j=p) w ((((w.setCell (aD p 0) x).setCell (aD p 1) y).setCell (aD p 2) z).setCell (aD p 3) u):=
 ((((Off.refl (fun j=>j=p) w).set (p:=⟨p,0,none⟩) rfl x).set (p:=⟨p,1,none⟩) rfl y).set (p:=⟨p,2,none⟩) rfl z).set (p:=⟨p,3,none⟩) rfl u
theorem pG.off{S:Nat→Prop}{w':World}{a b c:Value}(h:pG w p a b c d)(ho:Off S w w')(hS: ¬S p):pG w' p a b c d:=by
 have hp:p<w.heap.size:=World.block_lt_of_cell? _ _ h.c0;have hb:=ho.block p hp hS;exact⟨(World.cell?_of_block (w:=w) (a:=⟨p,0,none⟩) hb).trans h.c0,(World.cell?_of_block (w:=w) (a:=⟨p,1,none⟩) hb).trans h.c1,(World.cell?_of_block (w:=w) (a:=⟨p,2,none⟩) hb).trans h.c2,(World.cell?_of_block (w:=w) (a:=⟨p,3,none⟩) hb).trans h.c3,fun i=>(World.frozen?_of_block (w:=w) (a:=⟨p,i,none⟩) hb).trans (h.fr i)⟩
structure GS(w wr:World)(N:Nat)(v:Value)(u:Int)(g:Vw.Acc):Prop where
 vv:dU wr N (iV u) v
 va:pG wr (N+1) (.string (ByteArray.mk #[])) (iV 0) (iV 0) (.bool false)
 vo: ∃s:ByteArray,s.size≤9223372036854775807∧nb s=g.name∧pG wr (N+1+1) (.string s) (iV g.sum) (iV g.cnt) (.bool g.opn)
 bel:Below N w wr
theorem GS.put{wr:World}{N:Nat}{v:Value}{u:Int}{g:Vw.Acc}(h:GS w wr N v u g)(s:ByteArray)(a:Vw.Acc)(hs:s.size≤9223372036854775807)(hn:nb s=a.name):GS w ((((wr.setCell (aD (N+1+1) 0) (.string s)).setCell (aD (N+1+1) 1) (iV a.sum)).setCell (aD (N+1+1) 2) (iV a.cnt)).setCell (aD (N+1+1) 3) (.bool a.opn)) N v u a:=by
 have ho:=c0O wr (N+1+1) (.string s) (iV a.sum) (iV a.cnt) (.bool a.opn);obtain⟨s0,_,_,h3⟩:=h.vo;have hN:N≤N+1+1:=by omega
 exact⟨h.vv.off ho (by omega),h.va.off ho (by omega),⟨s,hs,hn,h3.set4 _ _ _ _⟩,(((h.bel.setCell hN _).setCell hN _).setCell hN _).setCell hN _⟩
theorem zO(u:Int)(t:ByteArray)(vs:Value)(l:List Vw.Acc)(w:World)(h:bG w vs l)(ht:t.size≤9223372036854775807):
  Calls prog 60 #[.agg #[iV u,vs],.string t] w fun e w'=>c3W e (Vw.get l (nb t))∧Bl w w':=by
 have A9:=h.len;obtain⟨A,C,rfl,_,_,hc⟩:=h;have h1:=aB8 w (.cells #[iV u,.slice A l.length C] 30);have h2:=h1.alloc h1.size (.cells #[.string (ByteArray.mk #[]),iV 0,iV 0,.bool false] 93);have h3:=h2.alloc h2.size (.cells #[.string t,iV 0,iV 0,.bool false] 93);have S0:GS w (((w.alloc (.cells #[iV u,.slice A l.length C] 30)).alloc (.cells #[.string (ByteArray.mk #[]),iV 0,iV 0,.bool false] 93)).alloc (.cells #[.string t,iV 0,iV 0,.bool false] 93)) w.heap.size (.slice A l.length C) u (Vw.fresh (nb t)):=by
  have b2:=aB8 (w.alloc (.cells #[iV u,.slice A l.length C] 30)) (.cells #[.string (ByteArray.mk #[]),iV 0,iV 0,.bool false] 93);have b3:=aB8 ((w.alloc (.cells #[iV u,.slice A l.length C] 30)).alloc (.cells #[.string (ByteArray.mk #[]),iV 0,iV 0,.bool false] 93)) (.cells #[.string t,iV 0,iV 0,.bool false] 93);have V2:=(iJ (w.alloc (.cells #[iV u,.slice A l.length C] 30)) 93 (.string (ByteArray.mk #[])) (iV 0) (iV 0) (.bool false)).bE b3;have V3:=iJ ((w.alloc (.cells #[iV u,.slice A l.length C] 30)).alloc (.cells #[.string (ByteArray.mk #[]),iV 0,iV 0,.bool false] 93)) 93 (.string t) (iV 0) (iV 0) (.bool false);rw[show(w.alloc (.cells #[iV u,.slice A l.length C] 30)).heap.size=w.heap.size+1 by simp]at V2;rw[show((w.alloc (.cells #[iV u,.slice A l.length C] 30)).alloc (.cells #[.string (ByteArray.mk #[]),iV 0,iV 0,.bool false] 93)).heap.size=w.heap.size+1+1 by simp]at V3;exact⟨((aO w 30 (iV u) (.slice A l.length C)).bE b2).bE b3,V2,⟨t,ht,rfl,V3⟩,h3⟩
 clear h1 h2 h3;go_enter func60,ntmps60
 have v1:=S0.vv.c1;go_wp2_with fail;generalize ((w.alloc (.cells #[iV u,.slice A l.length C] 30)).alloc (.cells #[.string (ByteArray.mk #[]),iV 0,iV 0,.bool false] 93)).alloc (.cells #[.string t,iV 0,iV 0,.bool false] 93)=W0 at S0 v1⊢;clear v1;go_loopw [6] (fun x wr=> ∃j:Nat,j≤l.length∧x=iV ((j:Int)-1)∧GS w wr w.heap.size (.slice A l.length C) u (Vw.get (l.drop j) (nb t))) (fun x _=>(intOf x+1).toNat)
 case atStart=>exact⟨l.length,c9C _,cB (by omega),by rw[d0T];exact S0⟩
 case round=>
  obtain⟨j,hj,rfl,SJ⟩:=hrel;clear S0;have v1:=SJ.vv.c1;rcases Nat.eq_zero_or_pos j with A4|A4
  ·have A6: ¬(0:Int)≤(j:Int)-1:=by omega
   have HG:Hid (GS w wr w.heap.size (.slice A l.length C) u (Vw.get l (nb t))):=by
    have h:=SJ;rw[A4,d2E]at h;exact h
   obtain⟨g,hg⟩: ∃g,Vw.get l (nb t)=g:=⟨_,rfl⟩;have HE:=hd8 hg;rw[hg]at HG;clear hg;obtain⟨s,A3,A1,c0,c1,c2,c3,_⟩:=HG.out.vo;obtain⟨r0,r1,r2,r3,fr⟩:=HG.out.va;have f0:=fr 0;have f1:=fr 1;have f2:=fr 2;have f3:=fr 3;have bb:=HG.out.bel;have hN:w.heap.size≤w.heap.size+1:=by omega
   clear SJ hc HG;go_wp2_with fail;refine bodyPost_ret (v:=.agg #[.string s,iV g.sum,iV g.cnt,.bool g.opn]) (by simp[results,results60,go_sem,r0,r1,r2,r3]) rfl ⟨by rw[HE.out];exact⟨_,rfl,s,A3,A1,rfl⟩,?_⟩;exact(((bb.setCell hN _).setCell hN _).setCell hN _).setCell hN _
  ·obtain⟨i,rfl⟩: ∃i,j=i+1:=⟨j-1,by omega⟩;obtain⟨a,ha⟩: ∃a,l[i]?=some a:=⟨l[i],c9F (by omega)⟩;obtain⟨b,o,rfl,A2⟩:=hc i a ha;obtain⟨s,A3,A1,d0,d1,d2,d3⟩:=A2.bE SJ.bel;have HD:=hd8 (Vw.sZ ha);have A0:=nD s t;have A5:((i+1:Nat):Int)-1=(i:Int):=by omega
   have A8:(i:Int)<(l.length:Int):=by omega
   rw[A1]at A0;rw[A5];obtain⟨s',_,_,e0,e1,e2,e3,fr⟩:=SJ.vo;have f0:=fr 0;have f1:=fr 1;have f2:=fr 2;have f3:=fr 3;by_cases hq:a.name=nb t
   ·have A7:(s.toList==t.toList)=true:=by
     rw[A0];simpa using hq
    have HS:Hid (GS w ((((wr.setCell (aD (w.heap.size+1+1) 0) (.string s)).setCell (aD (w.heap.size+1+1) 1) (iV a.sum)).setCell (aD (w.heap.size+1+1) 2) (iV a.cnt)).setCell (aD (w.heap.size+1+1) 3) (.bool a.opn)) w.heap.size (.slice (some (aD b o)) l.length C) u (Vw.get (l.drop i) (nb t))):=by
     show GS w _ w.heap.size _ u (Vw.get (l.drop i) (nb t));rw[HD.out,Vw.get,if_pos hq];exact SJ.put s a A3 A1
    clear A0 hq hc ha A2 SJ A1;go_wp2_with fail;exact⟨⟨i,by omega,cB (by omega),HS.out⟩,by simp[intOf]⟩
   ·have A7:(s.toList==t.toList)=false:=by
     rw[A0];simpa using hq
    have HS:Hid (GS w wr w.heap.size (.slice (some (aD b o)) l.length C) u (Vw.get (l.drop i) (nb t))):=by
     show GS w _ w.heap.size _ u (Vw.get (l.drop i) (nb t));rw[HD.out,Vw.get,if_neg hq];exact SJ
    clear A0 hq hc ha A2 SJ A1;go_wp2_with fail;exact⟨⟨i,by omega,cB (by omega),HS.out⟩,by simp[intOf]⟩
theorem a9L(s s':ByteArray)(S c k m:Int)(b:Bool)(w:World):
  Calls prog 100 #[.agg #[.string s,iV S,iV c,.bool b],.agg #[.string s',iV k,iV m]] w fun e w'=>e=.returned (.bool (Vw.may ⟨nb s,S,c,b⟩ ⟨nb s',k,m⟩))∧Bl w w':=by
 have h1:=aB8 w (.cells #[.string s,iV S,iV c,.bool b] 93);have h2:=h1.alloc h1.size (.cells #[.string s',iV k,iV m] 83);by_cases q1:k=1
 ·have H:Hid (Vw.may ⟨nb s,S,c,b⟩ ⟨nb s',k,m⟩=!b):=c6L q1;subst q1;cases b with
  |false=>
   go_enter func100,ntmps100
   go_wp2_with fail;go_ret
   exact⟨by rw[H.out];rfl,h2⟩
  |true=>
   go_enter func100,ntmps100
   go_wp2_with fail;go_ret
   exact⟨by rw[H.out];rfl,h2⟩
 have e1:(k==1)=false:=by rw[beq_eq_false_iff_ne];exact q1
 by_cases q2:k=2
 ·have H:Hid (Vw.may ⟨nb s,S,c,b⟩ ⟨nb s',k,m⟩=b):=yS (Or.inl q2);subst q2;clear q1 e1;cases b with
  |false=>
   go_enter func100,ntmps100
   go_wp2_with fail;go_ret
   exact⟨by rw[H.out];rfl,h2⟩
  |true=>
   go_enter func100,ntmps100
   go_wp2_with fail;go_ret
   exact⟨by rw[H.out];rfl,h2⟩
 have e2:(k==2)=false:=by rw[beq_eq_false_iff_ne];exact q2
 by_cases q4:k=4
 ·have H:Hid (Vw.may ⟨nb s,S,c,b⟩ ⟨nb s',k,m⟩=b):=yS (Or.inr q4);subst q4;clear q1 e1 q2 e2;cases b with
  |false=>
   go_enter func100,ntmps100
   go_wp2_with fail;go_ret
   exact⟨by rw[H.out];rfl,h2⟩
  |true=>
   go_enter func100,ntmps100
   go_wp2_with fail;go_ret
   exact⟨by rw[H.out];rfl,h2⟩
 have e4:(k==4)=false:=by rw[beq_eq_false_iff_ne];exact q4
 by_cases q3:k=3
 ·have H:Hid (Vw.may ⟨nb s,S,c,b⟩ ⟨nb s',k,m⟩=(b&&decide (m≤S))):=c3C q3;subst q3;clear q1 e1 q2 e2 q4 e4;cases b with
  |false=>
   go_enter func100,ntmps100
   go_wp2_with fail;go_ret
   exact⟨by rw[H.out];rfl,h2⟩
  |true=>
   go_enter func100,ntmps100
   go_wp2_with fail;go_ret
   exact⟨by rw[H.out];rfl,h2⟩
 have e3:(k==3)=false:=by rw[beq_eq_false_iff_ne];exact q3
 have H:Hid (Vw.may ⟨nb s,S,c,b⟩ ⟨nb s',k,m⟩=false):=b9I q1 q2 q3 q4;clear q1 q2 q3 q4;go_enter func100,ntmps100
 go_wp2_with fail;go_ret
 exact⟨by rw[H.out];rfl,h2⟩
end Go.Proofs.YtmcaejooaaahdaaGreat
