import Derived.Test.YtmcaejooaaahdaaGreatZ05
import Derived.Laws.StructEq
import Derived.Laws.OwnMore
set_option maxHeartbeats 8000000
set_option maxRecDepth 100000
namespace Go.Proofs.YtmcaejooaaahdaaGreat
open Go.Proofs.Tryz
variable {A A' N N' a b g i k n n' o p size x:Nat} {S:Nat→Prop} {W0 w w' wr:World} {es:List EvC} {r r':List Nat} {s':ByteArray} {t t':TypeId} {v v':Value} {xs xs':List Value}
open Go.RowKit
structure b5Y(w:World)(p:Nat)(a b c:Value):Prop where
 c0:w.cell? (aD p 0)=some a
 c1:w.cell? (aD p 1)=some b
 c2:w.cell? (aD p 2)=some c
theorem iL(w:World)(a b c:Value):b5Y (w.alloc (.cells #[a,b,c] 83)) w.heap.size a b c:=by
 have hr:=World.rowIs_alloc w #[a,b,c] 83 (fun k=>#[a,b,c].getD k a) (fun i hi=>by simp only[Array.getElem?_eq_getElem hi,Array.getD,hi,dif_pos];rfl);exact⟨hr.cell (i:=0) (by simp),hr.cell (i:=1) (by simp),hr.cell (i:=2) (by simp)⟩
theorem b5Y.below{a b c:Value}(h:b5Y w p a b c)(hb:Bl w w'):b5Y w' p a b c:=by
 have hp:p<w.heap.size:=World.block_lt_of_cell? _ _ h.c0;exact⟨(hb.cell (p:=⟨p,0,none⟩) hp).trans h.c0,(hb.cell (p:=⟨p,1,none⟩) hp).trans h.c1,(hb.cell (p:=⟨p,2,none⟩) hp).trans h.c2⟩
theorem qP(s:ByteArray)(k m:Int)(w:World)(hs:s.size≤9223372036854775807):
  Calls prog 92 #[.agg #[.string s,iV k,iV m]] w fun e w'=>e=.returned (iV (Evt.aB ⟨nb s,k,m⟩:Nat))∧Bl w w':=by
 have HN:=fun w'=>mN s w' hs;have A0:=aB8 w (.cells #[.string s,iV k,iV m] 83);have V0:=iL w (.string s) (iV k) (iV m);by_cases A1:Evt.dC (nb s)
 case neg=>
  have hn:=hd8 A1;have H:=hd8 (Evt.oZ A1);clear A1;go_enter func92,ntmps92
  go_wp2_with fail;refine(HN _).mono ?_;rintro e w1 ⟨⟨y,rfl,hy⟩,b1⟩;obtain⟨c0,c1,c2⟩:=V0.below b1;have b1:=bt A0 b1;obtain rfl:y=false:=by cases y with|false=>rfl|true=>exact absurd (hy.1 rfl) hn.out
  clear hy HN V0;go_wp2_with fail;go_ret
  exact⟨aH (by rw[H.out];rfl),b1⟩
 have hn:=hd8 A1;clear A1;by_cases q0:k<1
 ·have H:Hid (Evt.aB ⟨nb s,k,m⟩=1):=Evt.kY hn.out (Or.inl q0);go_enter func92,ntmps92
  go_wp2_with fail;refine(HN _).mono ?_;rintro e w1 ⟨⟨y,rfl,hy⟩,b1⟩;obtain⟨c0,c1,c2⟩:=V0.below b1;have b1:=bt A0 b1;obtain rfl:y=true:=hy.2 hn.out;clear hy HN V0;go_wp2_with fail;go_ret
  exact⟨aH (by rw[H.out];rfl),b1⟩
 by_cases q1:4<k
 ·have H:Hid (Evt.aB ⟨nb s,k,m⟩=1):=Evt.kY hn.out (Or.inr q1);go_enter func92,ntmps92
  go_wp2_with fail;refine(HN _).mono ?_;rintro e w1 ⟨⟨y,rfl,hy⟩,b1⟩;obtain⟨c0,c1,c2⟩:=V0.below b1;have b1:=bt A0 b1;obtain rfl:y=true:=hy.2 hn.out;clear hy HN V0;go_wp2_with fail;go_ret
  exact⟨aH (by rw[H.out];rfl),b1⟩
 have hk:Hid (¬(k<1∨4<k)):=show¬(_∨_) by omega
 by_cases q2:m<0
 ·have H:Hid (Evt.aB ⟨nb s,k,m⟩=3):=Evt.fZ hn.out hk.out (Or.inl q2);go_enter func92,ntmps92
  go_wp2_with fail;refine(HN _).mono ?_;rintro e w1 ⟨⟨y,rfl,hy⟩,b1⟩;obtain⟨c0,c1,c2⟩:=V0.below b1;have b1:=bt A0 b1;obtain rfl:y=true:=hy.2 hn.out;clear hy HN V0;go_wp2_with fail;go_ret
  exact⟨aH (by rw[H.out];rfl),b1⟩
 by_cases q3:1000000<m
 ·have H:Hid (Evt.aB ⟨nb s,k,m⟩=3):=Evt.fZ hn.out hk.out (Or.inr (Or.inl q3));go_enter func92,ntmps92
  go_wp2_with fail;refine(HN _).mono ?_;rintro e w1 ⟨⟨y,rfl,hy⟩,b1⟩;obtain⟨c0,c1,c2⟩:=V0.below b1;have b1:=bt A0 b1;obtain rfl:y=true:=hy.2 hn.out;clear hy HN V0;go_wp2_with fail;go_ret
  exact⟨aH (by rw[H.out];rfl),b1⟩
 by_cases q4:m=0
 ·have H:Hid (Evt.aB ⟨nb s,k,m⟩=0):=Evt.gB hn.out hk.out (show¬(m<0∨1000000<m∨(0<m∧k≠2∧k≠3)) by omega);have g4: ¬0<m:=by omega
  clear q4;go_enter func92,ntmps92
  go_wp2_with fail;refine(HN _).mono ?_;rintro e w1 ⟨⟨y,rfl,hy⟩,b1⟩;obtain⟨c0,c1,c2⟩:=V0.below b1;have b1:=bt A0 b1;obtain rfl:y=true:=hy.2 hn.out;clear hy HN V0;go_wp2_with fail;go_ret
  exact⟨aH (by rw[H.out];rfl),b1⟩
 have g4:0<m:=by omega
 by_cases q5:k=2
 ·have H:Hid (Evt.aB ⟨nb s,k,m⟩=0):=Evt.gB hn.out hk.out (show¬(m<0∨1000000<m∨(0<m∧k≠2∧k≠3)) by omega);have g5:(k !=2)=false:=by rw[q5];rfl
  clear q5;go_enter func92,ntmps92
  go_wp2_with fail;refine(HN _).mono ?_;rintro e w1 ⟨⟨y,rfl,hy⟩,b1⟩;obtain⟨c0,c1,c2⟩:=V0.below b1;have b1:=bt A0 b1;obtain rfl:y=true:=hy.2 hn.out;clear hy HN V0;go_wp2_with fail;go_ret
  exact⟨aH (by rw[H.out];rfl),b1⟩
 have g5:(k !=2)=true:=by rw[bne_iff_ne];exact q5
 by_cases q6:k=3
 ·have H:Hid (Evt.aB ⟨nb s,k,m⟩=0):=Evt.gB hn.out hk.out (show¬(m<0∨1000000<m∨(0<m∧k≠2∧k≠3)) by omega);have g6:(k !=3)=false:=by rw[q6];rfl
  clear q6;go_enter func92,ntmps92
  go_wp2_with fail;refine(HN _).mono ?_;rintro e w1 ⟨⟨y,rfl,hy⟩,b1⟩;obtain⟨c0,c1,c2⟩:=V0.below b1;have b1:=bt A0 b1;obtain rfl:y=true:=hy.2 hn.out;clear hy HN V0;go_wp2_with fail;go_ret
  exact⟨aH (by rw[H.out];rfl),b1⟩
 have g6:(k !=3)=true:=by rw[bne_iff_ne];exact q6
 have H:Hid (Evt.aB ⟨nb s,k,m⟩=3):=Evt.fZ hn.out hk.out (Or.inr (Or.inr ⟨g4,q5,q6⟩));clear q5 q6;go_enter func92,ntmps92
 go_wp2_with fail;refine(HN _).mono ?_;rintro e w1 ⟨⟨y,rfl,hy⟩,b1⟩;obtain⟨c0,c1,c2⟩:=V0.below b1;have b1:=bt A0 b1;obtain rfl:y=true:=hy.2 hn.out;clear hy HN V0;go_wp2_with fail;go_ret
 exact⟨aH (by rw[H.out];rfl),b1⟩
def a8E(w:World)(b o:Nat)(e:Evt.Ev):Prop:= ∃s:ByteArray,s.size≤9223372036854775807∧nb s=e.name∧w.cell? (aD b o)=some (.string s)∧w.cell? (aD b (o+1))=some (iV e.kind)∧w.cell? (aD b (o+2))=some (iV e.num)
theorem a8E.below{e:Evt.Ev}(h:a8E w b o e)(hb:Bl w w'):a8E w' b o e:=by
 obtain⟨s,h1,h2,c0,c1,c2⟩:=h;have hp:b<w.heap.size:=World.block_lt_of_cell? _ _ c0;exact⟨s,h1,h2,(hb.cell (p:=⟨b,o,none⟩) hp).trans c0,(hb.cell (p:=⟨b,o+1,none⟩) hp).trans c1,(hb.cell (p:=⟨b,o+2,none⟩) hp).trans c2⟩
def Evs(w:World)(v:Value)(es:List Evt.Ev):Prop:= ∃A cap,v=.slice A es.length cap∧es.length≤cap∧cap≤maxLen∧ ∀i e,es[i]?=some e→ ∃b o,A=some (aD b o)∧a8E w b (o+i*3) e
theorem Evs.below{es:List Evt.Ev}(h:Evs w v es)(hb:Bl w w'):Evs w' v es:=by
 obtain⟨A,A0,hv,h1,h2,h3⟩:=h;refine⟨A,A0,hv,h1,h2,fun i e he=>?_⟩;obtain⟨b,o,hA,hi⟩:=h3 i e he;exact⟨b,o,hA,hi.below hb⟩
theorem Evs.some{es:List Evt.Ev}(h:Evs w v es)(hn:1≤es.length): ∃b o cap,v=.slice (some (aD b o)) es.length cap∧es.length≤cap∧cap≤9223372036854775807∧ ∀i e,es[i]?=some e→a8E w b (o+i*3) e:=by
 obtain⟨A,cap,hv,h1,h2,h3⟩:=h;obtain⟨b,o,rfl,_⟩:=h3 0 es[0] (c9F hn);refine⟨b,o,cap,hv,h1,h2,fun i e he=>?_⟩;obtain⟨b',o',e1,e2⟩:=h3 i e he;cases e1
 exact e2
def oV(w:World)(b o:Nat)(x:Evt.Bat):Prop:= ∃v,w.cell? (aD b o)=some (iV x.cmd)∧w.cell? (aD b (o+1))=some v∧Evs w v x.evs
theorem oV.below{x:Evt.Bat}(h:oV w b o x)(hb:Bl w w'):oV w' b o x:=by
 obtain⟨v,c0,c1,he⟩:=h;have hp:b<w.heap.size:=World.block_lt_of_cell? _ _ c0;exact⟨v,(hb.cell (p:=⟨b,o,none⟩) hp).trans c0,(hb.cell (p:=⟨b,o+1,none⟩) hp).trans c1,he.below hb⟩
def eU(w:World)(v:Value)(l:List Evt.Bat):Prop:= ∃A cap,v=.slice A l.length cap∧l.length≤cap∧cap≤maxLen∧ ∀i x,l[i]?=some x→ ∃b o,A=some (aD b o)∧oV w b (o+i*2) x
theorem eU.below{l:List Evt.Bat}(h:eU w v l)(hb:Bl w w'):eU w' v l:=by
 obtain⟨A,A0,hv,h1,h2,h3⟩:=h;refine⟨A,A0,hv,h1,h2,fun i e he=>?_⟩;obtain⟨b,o,hA,hi⟩:=h3 i e he;exact⟨b,o,hA,hi.below hb⟩
theorem eU.some{l:List Evt.Bat}(h:eU w v l)(hn:1≤l.length): ∃b o cap,v=.slice (some (aD b o)) l.length cap∧l.length≤cap∧cap≤9223372036854775807∧ ∀i x,l[i]?=some x→oV w b (o+i*2) x:=by
 obtain⟨A,cap,hv,h1,h2,h3⟩:=h;obtain⟨b,o,rfl,_⟩:=h3 0 l[0] (c9F hn);refine⟨b,o,cap,hv,h1,h2,fun i e he=>?_⟩;obtain⟨b',o',e1,e2⟩:=h3 i e he;cases e1
 exact e2
theorem Evs.shape{es:List Evt.Ev}(h:Evs w v es): ∃A C,v=.slice A es.length C:=by
 obtain⟨A,C,hv,_⟩:=h;exact⟨A,C,hv⟩
structure dW(w:World)(p:Nat)(a b:Value):Prop where
 c0:w.cell? (aD p 0)=some a
 c1:w.cell? (aD p 1)=some b
 fr: ∀i,w.frozen? (aD p i)=false
theorem aO(w:World)(t:TypeId)(a b:Value):dW (w.alloc (.cells #[a,b] t)) w.heap.size a b:=by
 have hr:=World.rowIs_alloc w #[a,b] t (fun k=>#[a,b].getD k a) (fun i hi=>by simp only[Array.getElem?_eq_getElem hi,Array.getD,hi,dif_pos];rfl);exact⟨hr.cell (i:=0) (by simp),hr.cell (i:=1) (by simp),fun i=>hr.frozen i⟩
theorem dW.below{a b:Value}(h:dW w p a b)(hb:Bl w w'):dW w' p a b:=by
 have hp:p<w.heap.size:=World.block_lt_of_cell? _ _ h.c0
 exact⟨(hb.cell (p:=⟨p,0,none⟩) hp).trans h.c0,(hb.cell (p:=⟨p,1,none⟩) hp).trans h.c1,fun i=>by
  rw[←h.fr i]
  exact World.frozen?_of_block (hb.block p hp)⟩
theorem lR(c:Int)(vs:Value)(es:List Evt.Ev)(w:World)(h:Evs w vs es):
  Calls prog 59 #[.agg #[iV c,vs]] w fun e w'=>e=.returned (.agg #[iV ((Evt.aA ⟨c,es⟩).1:Nat),iV ((Evt.aA ⟨c,es⟩).2:Nat)])∧Bl w w':=by
 obtain⟨A,C,rfl⟩:=h.shape;have A0:=aB8 w (.cells #[iV c,.slice A es.length C] 47);have A7:=A0.alloc A0.size _;by_cases q0:c<1
 ·have H:Hid (Evt.aA ⟨c,es⟩=(3,0)):=Evt.bG (Or.inl q0);go_enter func59,ntmps59
  go_wp2_with fail;refine bodyPost_ret (v:=.agg #[iV 3,iV 0]) (by simp[results,results59,go_sem]) rfl ⟨by rw[H.out];rfl,?_⟩;exact A0.alloc A0.size _
 by_cases q1:1000000<c
 ·have H:Hid (Evt.aA ⟨c,es⟩=(3,0)):=Evt.bG (Or.inr q1);go_enter func59,ntmps59
  go_wp2_with fail;refine bodyPost_ret (v:=.agg #[iV 3,iV 0]) (by simp[results,results59,go_sem]) rfl ⟨by rw[H.out];rfl,?_⟩;exact A0.alloc A0.size _
 have hk:Hid (¬(c<1∨1000000<c)):=show¬(_∨_) by omega
 by_cases q2:es.length=0
 ·have H:Hid (Evt.aA ⟨c,es⟩=(5,0)):=Evt.eB hk.out (Or.inl q2);have g2:((es.length:Int)==0)=true:=by rw[beq_iff_eq];omega
  clear q2;go_enter func59,ntmps59
  go_wp2_with fail;refine bodyPost_ret (v:=.agg #[iV 5,iV 0]) (by simp[results,results59,go_sem]) rfl ⟨by rw[H.out];rfl,?_⟩;exact A0.alloc A0.size _
 have g2:((es.length:Int)==0)=false:=by rw[beq_eq_false_iff_ne];omega
 by_cases q3:10<es.length
 ·have H:Hid (Evt.aA ⟨c,es⟩=(5,0)):=Evt.eB hk.out (Or.inr q3);have g3:(10:Int)<(es.length:Int):=by omega
  go_enter func59,ntmps59
  go_wp2_with fail;refine bodyPost_ret (v:=.agg #[iV 5,iV 0]) (by simp[results,results59,go_sem]) rfl ⟨by rw[H.out];rfl,?_⟩;exact A0.alloc A0.size _
 have g3: ¬(10:Int)<(es.length:Int):=by omega
 have HE:Hid (Evt.aA ⟨c,es⟩=Evt.gT es 0):=Evt.pC hk.out (show¬(es.length=0∨10<es.length) by omega);obtain⟨b,o,C',hv,Ag,Ah,hc⟩:=h.some (by omega);cases hv
 have VF:=aO (w.alloc (.cells #[iV c,.slice (some (aD b o)) es.length C] 47)) 78 (iV 0) (iV 0);have A5:(w.alloc (.cells #[iV c,.slice (some (aD b o)) es.length C] 47)).heap.size=w.heap.size+1:=by simp
 rw[A5]at VF;clear A5;go_enter func59,ntmps59
 go_wp2_with fail;generalize (w.alloc (.cells #[iV c,.slice (some (aD b o)) es.length C] 47)).alloc (.cells #[iV 0,iV 0] 78)=W0 at A7 VF⊢;go_loopw [29] (fun x wr=> ∃k:Nat,k≤es.length∧x=iV k∧Hid (∀j,j<k→ ∃e,es[j]?=some e∧Evt.aB e=0)∧Bl W0 wr) (fun x _=>es.length-(intOf x).toNat)
 case atStart=>exact⟨0,c9D _,rfl,fun j hj=>absurd hj (c9L j),Below.refl _ _⟩
 case round=>
  obtain⟨k,Af,rfl,HS,A1⟩:=hrel;have bz:=bt A7 A1;by_cases A9:k<es.length
  ·have Ab:(k:Int)<(es.length:Int):=by omega
   obtain⟨ev,A2⟩: ∃ev,es[k]?=some ev:=⟨es[k],c9F A9⟩;have A4:=hd8 A2;obtain⟨s,Aa,A3,d0,d1,d2⟩:=(hc k ev A2).below bz;have Ae:=hd8 A3;have HW:=qP s ev.kind ev.num (wr.alloc (.cells #[.string s,iV ev.kind,iV ev.num] 83)) Aa;have HQ:Hid (Evt.aB ⟨nb s,ev.kind,ev.num⟩=Evt.aB ev):=by
    show Evt.aB _=_;rw[A3]
   clear A2 A3 hc;rw[HQ.out]at HW;have bA:=aB8 wr (.cells #[.string s,iV ev.kind,iV ev.num] 83);by_cases hE:Evt.aB ev=0
   ·have Ac:=hd8 hE;rw[hE]at HW;clear hE;go_wp2_with fail;refine HW.mono ?_;rintro e w1 ⟨rfl,b1⟩;have b1:=bt bA b1;clear HW;go_wp2_with fail;refine⟨⟨k+1,by omega,by go_num,fun j hj=>?_,bt A1 b1⟩,by simp[intOf];omega⟩;by_cases e:j=k
    ·rw[e];exact⟨ev,A4.out,Ac.out⟩
    ·exact HS.out j (by omega)
   ·have A6:=hd8 (Evt.vV es k ev A4.out hE HS.out);generalize Evt.aB ev=x at HW A6 hE;have A8:((x:Int)==0)=false:=by rw[beq_eq_false_iff_ne];omega
    have Ad:((x:Int) !=0)=true:=by rw[bne,A8];rfl
    clear hE;go_wp2_with fail;refine HW.mono ?_;rintro e w1 ⟨rfl,b1⟩;have b1:=bt bA b1;obtain⟨c0,c1,fr⟩:=(VF.below A1).below b1;have f0:=fr 0;have f1:=fr 1;clear HW;go_wp2_with fail;refine bodyPost_ret (v:=.agg #[iV x,iV k]) (by simp[results,results59,go_sem,c0,c1]) rfl ⟨by rw[HE.out,A6.out],?_⟩;exact((bt bz b1).setCell (c9O _) _).setCell (c9O _) _
  ·obtain rfl:k=es.length:=by omega
   have HZ:Hid (Evt.gT es 0=(0,0)):=Evt.wG es 0 (fun e he=>by
    obtain⟨j,hj,rfl⟩:=d1P.1 he;obtain⟨e',h1,h2⟩:=HS.out j hj;rw[c9F hj,Option.some.injEq]at h1;rw[h1]
    exact h2)
   obtain⟨c0,c1,fr⟩:=VF.below A1;have f0:=fr 0;have f1:=fr 1;clear hc;go_wp2_with fail;refine bodyPost_ret (v:=.agg #[iV 0,iV 0]) (by simp[results,results59,go_sem,c0,c1]) rfl ⟨by rw[HE.out,HZ.out];rfl,?_⟩;exact(bz.setCell (c9O _) _).setCell (c9O _) _
theorem b2H{s:ByteArray}:nb s=nb s'↔s.toList=s'.toList:=by
 unfold nb;rw[d2C,d2C];constructor
 ·intro h;exact List.map_inj_right (fun a b e=>UInt8.toNat_inj.1 e)|>.1 h
 ·intro h;rw[h]
theorem c7E(s s':ByteArray)(k k' m m':Int)(w:World):(binOp .neq 83 (.agg #[.string s,iV k,iV m]) (.agg #[.string s',iV k',iV m'])).run prog w=.ok (.bool (!(s.toList==s'.toList&&(k==k'&&m==m')))) w:=by
 have u3:=underlying3;have u9:=underlying9;have a3:=Tryz.isAgg3;have z3:=Tryz.sizeOf3;have a9:=Tryz.isAgg9;have z9:=Tryz.sizeOf9;have hS:prog.underlying 83=some (.struct (prog.fieldsOf 83)):=by kernel_rfl
 have hp:prog.stoodInHeld 83=false:=by kernel_rfl
 rw[run_neq_struct,show(10000:Nat)=9999+1 from rfl,run_equalIn_agg w 9999 83 _ _ hS hp];simp only[Program.fieldsOf,underlying83];go_simp
 by_cases h1:s.toList=s'.toList<;>by_cases h2:k=k'<;>by_cases h3:m=m'<;>simp[h1,h2,h3]
theorem c9A{s:ByteArray}{e e':Evt.Ev}(h:nb s=e.name)(h':nb s'=e'.name):(s.toList==s'.toList&&(e.kind==e'.kind&&e.num==e'.num))=true↔e=e':=by
 rw[Bool.and_eq_true,Bool.and_eq_true,beq_iff_eq,beq_iff_eq,beq_iff_eq,←b2H,h,h'];obtain⟨n,k,m⟩:=e;obtain⟨n',k',m'⟩:=e';simp
theorem uY(w:World)(m q:Nat):(w.drewN m).drewN q=w.drewN (m+q):=by
 simp[World.drewN,Nat.add_assoc]
theorem rA{α:Type}{l l':List α}(hl:l.length=l'.length)(h: ∀j,j<l.length→l[j]?=l'[j]?):l=l':=by
 bK d1I;intro j;by_cases hj:j<l.length
 ·exact h j hj
 ·rw[c9Z (by omega),c9Z (by omega)]
theorem a6D(b o b' o' n C C':Nat)(es es':List Evt.Ev)(w:World)(hn:n≤9223372036854775807)(h: ∀i e,es[i]?=some e→a8E w b (o+i*3) e)(h': ∀i e,es'[i]?=some e→a8E w b' (o'+i*3) e)(hl:es.length=n)(hl':es'.length=n):
  Calls prog 16 #[.slice (some (aD b o)) n C,.slice (some (aD b' o')) n C'] w fun e w'=>qW e (es=es')∧ ∃m,w'=w.drewN m:=by
 have HL:Hid (es.length=n∧es'.length=n):=⟨hl,hl'⟩;have Ab:prog.eqGuardType prog.depth 83=false:=by kernel_rfl
 go_enter func16,ntmps16
 go_wp2_with fail;go_loopw [13] (fun x wr=> ∃k:Nat,k≤n∧x=iV k∧Hid (∀j,j<k→es[j]?=es'[j]?)∧ ∃m,wr=w.drewN m) (fun x _=>n-(intOf x).toNat)
 case atStart=>exact⟨0,c9D _,rfl,fun j hj=>absurd hj (c9L j),0,rfl⟩
 case round=>
  obtain⟨k,hk,rfl,HS,m,rfl⟩:=hrel;by_cases A8:k<n
  ·have A7:(k:Int)<(n:Int):=by omega
   obtain⟨ev,A3⟩: ∃ev,es[k]?=some ev:=⟨es[k],c9F (by omega)⟩;obtain⟨A1,A0⟩: ∃ev,es'[k]?=some ev:=⟨es'[k],c9F (by omega)⟩;obtain⟨s,A6,A5,d0,d1,d2⟩:=h k ev A3;obtain⟨s',A4,A2,Aa,A9,Ac⟩:=h' k A1 A0;have HE:Hid (es[k]?=some ev∧es'[k]?=some A1):=⟨A3,A0⟩;have HQ:=c9A A5 A2;have hq:=c7E s s' ev.kind A1.kind ev.num A1.num;generalize (s.toList==s'.toList&&(ev.kind==A1.kind&&ev.num==A1.num))=y at HQ hq;clear h h' A3 A0 A5 A2 hl hl' A6 A4;cases y with
   |true=>
    have HR:=hd8 (HQ.1 rfl);clear HQ;go_wp2_with fail;go_quiet (fail)
    go_wp2_with fail;refine⟨⟨k+1,by omega,by go_num,fun j hj=>?_,_,rfl⟩,by simp[intOf];omega⟩;by_cases e:j=k
    ·rw[e,HE.out.1,HE.out.2,HR.out]
    ·exact HS.out j (by omega)
   |false=>
    have HN:Hid (¬es=es'):=fun e=>by
     have h1:=HE.out.1;rw[e,HE.out.2,Option.some.injEq]at h1;exact absurd (HQ.2 h1.symm) (by decide)
    clear HQ;go_wp2_with fail;go_quiet (fail)
    go_wp2_with fail;go_ret
    exact⟨cV HN.out,_,uY w m _⟩
  ·obtain rfl:k=n:=by omega
   have HY:Hid (es=es'):=rA (by omega) (fun j hj=>HS.out j (by omega));clear h h' hl hl';go_wp2_with fail;go_ret
   exact⟨gL HY.out,_,rfl⟩
theorem xC(v v':Value)(es es':List Evt.Ev)(w:World)(h:Evs w v es)(h':Evs w v' es'):
  Calls prog 16 #[v,v'] w fun e w'=>qW e (es=es')∧ ∃m,w'=w.drewN m:=by
 by_cases hl:es.length=es'.length
 ·by_cases h0:1≤es.length
  ·obtain⟨b,o,C,rfl,q1,q2,q3⟩:=h.some h0;obtain⟨b',o',C',rfl,A1,A3,A0⟩:=h'.some (by omega);rw[←hl];exact a6D b o b' o' es.length C C' es es' w (by omega) q3 A0 rfl hl.symm
  ·obtain⟨A,C,rfl⟩:=h.shape;obtain⟨A',C',rfl⟩:=h'.shape;obtain rfl:es=[]:=d0N (by omega);obtain rfl:es'=[]:=d0N (by simpa using hl.symm);clear hl h0 h h';simp only[List.length_nil];go_enter func16,ntmps16
   go_wp2_with fail;refine wp_loop_rounds 1 ?_;rw[rounds_succ];go_wp2_with fail;go_ret
   exact⟨gL trivial,0,rfl⟩
 ·obtain⟨A,C,rfl⟩:=h.shape;obtain⟨A',C',rfl⟩:=h'.shape;have A2:((es.length:Int) !=(es'.length:Int))=true:=by rw[bne_iff_ne];omega
  have H:Hid (¬es=es'):=fun e=>hl (by rw[e]);clear hl h h';go_enter func16,ntmps16
  go_wp2_with fail;go_ret
  exact⟨cV H.out,0,rfl⟩
theorem dP(w:World)(m:Nat):Bl w (w.drewN m):=⟨rfl,rfl,rfl,c9C _,fun _ _=>rfl⟩
theorem sK(h: ∃m,wr=w.drewN m)(q:Nat): ∃m,wr.drewN q=w.drewN m:=by
 obtain⟨m,rfl⟩:=h;exact⟨_,uY w m q⟩
theorem a9F{es es':List Evt.Ev}(h:Evs w v es)(h':Evs w v' es')(y:Bool)(hy:y=true↔es=es')(n:Nat):
  Calls prog 16 #[v,v'] (w.drewN n) fun e w''=>e=.returned (.bool y)∧ ∃m,w''=w.drewN m:=by
 refine(xC v v' es es' (w.drewN n) (h.below (dP w n)) (h'.below (dP w n))).mono ?_;rintro e w'' ⟨⟨x,rfl,hx⟩,m,rfl⟩;have:x=y:=by
  rw[Bool.eq_iff_iff];exact hx.trans hy.symm
 rw[this];exact⟨rfl,_,uY w n m⟩
theorem a9O(b o b' o' n C C':Nat)(l l':List Evt.Bat)(w:World)(hn:n≤9223372036854775807)(h: ∀i e,l[i]?=some e→oV w b (o+i*2) e)(h': ∀i e,l'[i]?=some e→oV w b' (o'+i*2) e)(hl:l.length=n)(hl':l'.length=n):
  Calls prog 14 #[.slice (some (aD b o)) n C,.slice (some (aD b' o')) n C'] w fun e w'=>qW e (l=l')∧ ∃m,w'=w.drewN m:=by
 have HL:Hid (l.length=n∧l'.length=n):=⟨hl,hl'⟩;go_enter func14,ntmps14
 go_wp2_with fail;go_loopw [13] (fun x wr=> ∃k:Nat,k≤n∧x=iV k∧Hid (∀j,j<k→l[j]?=l'[j]?)∧Hid (∃m,wr=w.drewN m)) (fun x _=>n-(intOf x).toNat)
 case atStart=>exact⟨0,c9D _,rfl,fun j hj=>absurd hj (c9L j),⟨0,rfl⟩⟩
 case round=>
  obtain⟨k,hk,rfl,HS,HM⟩:=hrel;have A3:Bl w wr:=by
   obtain⟨m,e⟩:=HM.out;rw[e];exact dP w m
  by_cases A6:k<n
  ·have A5:(k:Int)<(n:Int):=by omega
   obtain⟨x,hx⟩: ∃ev,l[k]?=some ev:=⟨l[k],c9F (by omega)⟩;obtain⟨x',A1⟩: ∃ev,l'[k]?=some ev:=⟨l'[k],c9F (by omega)⟩;obtain⟨u,d0,d1,he⟩:=(h k x hx).below A3;obtain⟨u',A8,A7,A0⟩:=(h' k x' A1).below A3;have HE:Hid (l[k]?=some x∧l'[k]?=some x'):=⟨hx,A1⟩;have A2:Hid (¬x=x'→ ¬l=l'):=fun q e=>by
    rw[e,A1,Option.some.injEq]at hx;exact q hx.symm
   clear h h' hx A1 hl hl';by_cases hc:x.cmd=x'.cmd
   ·have A4:(x.cmd !=x'.cmd)=false:=by rw[bne_eq_false_iff_eq];exact hc
    have HC:=hd8 hc;clear hc;by_cases hv:x.evs=x'.evs
    ·have HQ:=a9F he A0 true ⟨fun _=>hv,fun _=>rfl⟩;have HR:Hid (x=x'):=by
      obtain⟨c1,e1⟩:=x;obtain⟨c2,e2⟩:=x';have:=HC.out;simp at this hv;show _=_;rw[this,hv]
     clear hv he A0;go_wp2_with fail;go_quiet ((go_at_call 16;refine HQ _))
     go_wp2_with fail;refine⟨⟨k+1,by omega,by go_num,fun j hj=>?_,sK HM.out _⟩,by simp[intOf];omega⟩;by_cases e:j=k
     ·rw[e,HE.out.1,HE.out.2,HR.out]
     ·exact HS.out j (by omega)
    ·have HQ:=a9F he A0 false ⟨fun q=>absurd q (by decide),fun q=>absurd q hv⟩;have HN:Hid (¬l=l'):=A2.out (fun q=>hv (by rw[q]));clear hv he A0;go_wp2_with fail;go_quiet ((go_at_call 16;refine HQ _))
     go_wp2_with fail;go_ret
     exact⟨cV HN.out,sK HM.out _⟩
   ·have A4:(x.cmd !=x'.cmd)=true:=by rw[bne_iff_ne];exact hc
    have HN:Hid (¬l=l'):=A2.out (fun q=>hc (by rw[q]));clear hc he A0;go_wp2_with fail;go_quiet (fail)
    go_wp2_with fail;go_ret
    exact⟨cV HN.out,sK HM.out _⟩
  ·obtain rfl:k=n:=by omega
   have HY:Hid (l=l'):=rA (by omega) (fun j hj=>HS.out j (by omega));clear h h' hl hl';go_wp2_with fail;go_ret
   exact⟨gL HY.out,HM.out⟩
theorem a9D(v v':Value)(l l':List Evt.Bat)(w:World)(h:eU w v l)(h':eU w v' l'):
  Calls prog 14 #[v,v'] w fun e w'=>qW e (l=l')∧ ∃m,w'=w.drewN m:=by
 by_cases hl:l.length=l'.length
 ·by_cases h0:1≤l.length
  ·obtain⟨b,o,C,rfl,q1,q2,q3⟩:=h.some h0;obtain⟨b',o',C',rfl,A1,A3,A0⟩:=h'.some (by omega);rw[←hl];exact a9O b o b' o' l.length C C' l l' w (by omega) q3 A0 rfl hl.symm
  ·obtain⟨A,C,rfl,_⟩:=h;obtain⟨A',C',rfl,_⟩:=h';obtain rfl:l=[]:=d0N (by omega);obtain rfl:l'=[]:=d0N (by simpa using hl.symm);clear hl h0;simp only[List.length_nil];go_enter func14,ntmps14
   go_wp2_with fail;refine wp_loop_rounds 1 ?_;rw[rounds_succ];go_wp2_with fail;go_ret
   exact⟨gL trivial,0,rfl⟩
 ·obtain⟨A,C,rfl,_⟩:=h;obtain⟨A',C',rfl,_⟩:=h';have A2:((l.length:Int) !=(l'.length:Int))=true:=by rw[bne_iff_ne];omega
  have H:Hid (¬l=l'):=fun e=>hl (by rw[e]);clear hl;go_enter func14,ntmps14
  go_wp2_with fail;go_ret
  exact⟨cV H.out,0,rfl⟩
theorem dB(h:w.ownsRow N t size v n xs)(hn:1≤n):
  ∃g cap,v=.slice (some (aD g 0)) n cap∧N≤g∧n≤cap∧cap≤maxLen∧g<w.heap.size∧ ∀j u,xs[j]?=some u→w.cell? (aD g j)=some u:=by
 have h0:=h;obtain⟨hl,h'⟩:=h;rcases h' with⟨_,h1⟩|⟨g,cap,A0,rfl,hN,hg,hc,hm,hs,ht⟩
 ·omega
 ·refine⟨g,cap,rfl,hN,hc,hm,(h0.lt g rfl).2,fun j u hj=>?_⟩;have:=h0.cells (g:=g) rfl j u hj;rw[WideShapes.add_plain,c9G]at this;exact this
theorem Tryz.infoBatch:(Tryz.prog.info? 47).map (fun i=>(i.zero,i.size,i.bytes))=some (some (.agg #[iV 0,nS]),2,32):=by kernel_rfl
theorem Tryz.infoEvent:(Tryz.prog.info? 83).map (fun i=>(i.zero,i.size,i.bytes))=some (some (.agg #[.string ByteArray.empty,iV 0,iV 0]),3,32):=by kernel_rfl
abbrev EvC:=ByteArray×Int×Int
def eH(e:EvC):List Value:=[.string e.1,iV e.2.1,iV e.2.2]
def aZ(e:EvC):Evt.Ev:=⟨nb e.1,e.2.1,e.2.2⟩
def cG(w:World)(N:Nat)(v:Value)(es:List EvC):Prop:=w.ownsRow N 83 3 v es.length (es.flatMap eH)∧ ∀e,e∈es→e.1.size≤9223372036854775807
theorem cG.nil(w:World)(N:Nat):cG w N nS []:=⟨World.ownsRow_nil w N _ 3,fun e he=>by cases he⟩
theorem cG.below(h:cG w N v es)(hb:Bl w w'):cG w' N v es:=⟨aK h.1 hb,h.2⟩
theorem cG.evs(h:cG w N v es):Evs w v (es.map aZ):=by
 by_cases hn:1≤es.length
 ·obtain⟨g,A0,rfl,_,h1,h2,_,hc⟩:=dB h.1 hn;refine⟨some (aD g 0),A0,by rw[c9M],by rw[c9M];exact h1,h2,fun i e he=>?_⟩;rw[c9S]at he;obtain⟨x,hx,rfl⟩:=c9J.1 he;have hf:=fun t ht=>dQ eH 3 es (fun _ _=>rfl) i t ht x hx;exact⟨g,0,rfl,x.1,h.2 x (c9N hx),rfl,by rw[c9G];exact hc _ _ (hf 0 (by decide)),by rw[c9G];exact hc _ _ (hf 1 (by decide)),by rw[c9G];exact hc _ _ (hf 2 (by decide))⟩
 ·obtain rfl:es=[]:=d0N (by omega);rcases h.1.2 with⟨rfl,_⟩|⟨g,A0,A1,rfl,_,_,hc,hm,_⟩
  ·exact⟨none,0,rfl,c9C _,c9D _,fun i e he=>by cases he⟩
  ·exact⟨_,A0,rfl,hc,hm,fun i e he=>by cases he⟩
def dG(x:Int×Value):List Value:=[iV x.1,x.2]
def sT(w:World)(N:Nat)(v:Value)(l:List (Int×Value)):Prop:=w.ownsRow N 47 2 v l.length (l.flatMap dG)
theorem sT.nil(w:World)(N:Nat):sT w N nS []:=World.ownsRow_nil w N _ 2
theorem sT.bats{l:List (Int×Value)}{bs:List Evt.Bat}(h:sT w N v l)(hl:bs.length=l.length)(he: ∀(i:Nat) (x:Int×Value) (b:Evt.Bat),l[i]?=some x→bs[i]?=some b→b.cmd=x.1∧Evs w x.2 b.evs):eU w v bs:=by
 by_cases hn:1≤l.length
 ·obtain⟨g,A0,rfl,_,h1,h2,_,hc⟩:=dB h hn;refine⟨some (aD g 0),A0,by rw[hl],by rw[hl];exact h1,h2,fun i b hb=>?_⟩;obtain⟨x,hx⟩: ∃x,l[i]?=some x:=by
   have:i<l.length:=by
    rw[←hl];exact(c9H.1 hb).1
   exact⟨l[i],c9F this⟩
  have hf:=fun t ht=>dQ dG 2 l (fun _ _=>rfl) i t ht x hx;obtain⟨e1,e2⟩:=he i x b hx hb;exact⟨g,0,rfl,x.2,by rw[c9G,e1];exact hc _ _ (hf 0 (by decide)),by rw[c9G];exact hc _ _ (hf 1 (by decide)),e2⟩
 ·obtain rfl:l=[]:=d0N (by omega);obtain rfl:bs=[]:=d0N (by simpa using hl);rcases h.2 with⟨rfl,_⟩|⟨g,A0,A1,rfl,_,_,hc,hm,_⟩
  ·exact⟨none,0,rfl,c9C _,c9D _,fun i e he=>by cases he⟩
  ·exact⟨_,A0,rfl,hc,hm,fun i e he=>by cases he⟩
structure PS(W0 w:World)(v:Value)(N A:Nat)(ok:Bool):Prop where
 at_:w.cell? (aD (W0.heap.size+1) 0)=some (iV A)
 b_:w.cell? (aD W0.heap.size 0)=some v
 ok_:w.cell? (aD (W0.heap.size+1+1) 0)=some (.bool ok)
 fa:w.frozen? (aD (W0.heap.size+1) 0)=false
 fo:w.frozen? (aD (W0.heap.size+1+1) 0)=false
 bel:Bl W0 w
 le:A≤N
theorem PS.setAt{ok:Bool}(h:PS W0 w v N A ok){a:Int}(e:a=(A':Int))(hA:A'≤N):PS W0 (w.setCell (aD (W0.heap.size+1) 0) (iV a)) v N A' ok:=by
 have c0:=h.at_;have c1:=h.b_;have c2:=h.ok_;have f0:=h.fa;have f1:=h.fo;subst e;exact⟨by go_simp,by go_simp,by go_simp,by go_simp,by go_simp,h.bel.setCell (c9O _) _,hA⟩
theorem PS.setNo{ok:Bool}(h:PS W0 w v N A ok):PS W0 (w.setCell (aD (W0.heap.size+1+1) 0) (.bool false)) v N A false:=by
 have c0:=h.at_;have c1:=h.b_;have c2:=h.ok_;have f0:=h.fa;have f1:=h.fo;exact⟨by go_simp,by go_simp,by go_simp,by go_simp,by go_simp,h.bel.setCell (by show W0.heap.size≤W0.heap.size+1+1;omega) _,h.le⟩
theorem PS.keep{ok:Bool}(h:PS W0 w v N A ok)(hb:Below (W0.heap.size+3) w w'):PS W0 w' v N A ok:=
 ⟨(hb.cell (p:=⟨W0.heap.size+1,0,none⟩) (by show W0.heap.size+1<_;omega)).trans h.at_,(hb.cell (p:=⟨W0.heap.size,0,none⟩) (by show W0.heap.size<_;omega)).trans h.b_,(hb.cell (p:=⟨W0.heap.size+1+1,0,none⟩) (by show W0.heap.size+1+1<_;omega)).trans h.ok_,
  (hb.frozen (p:=⟨W0.heap.size+1,0,none⟩) (by show W0.heap.size+1<_;omega)).trans h.fa,(hb.frozen (p:=⟨W0.heap.size+1+1,0,none⟩) (by show W0.heap.size+1+1<_;omega)).trans h.fo,h.bel.trans (hb.mono (by omega)),h.le⟩
theorem PS.room{ok:Bool}(h:PS W0 w v N A ok):W0.heap.size+3≤w.heap.size:=by
 have:W0.heap.size+1+1<w.heap.size:=World.block_lt_of_cell? _ _ h.ok_;omega
def gA(g:Nat→Nat)(A:Nat):Nat→Nat
 |0=>0
 |k+1=>256*gA g A k+g (A+k)
theorem b4H{g:Nat→Nat}(hg:Bd g)(A:Nat): ∀k,k≤3→gA g A k<16777216∧(k≤2→gA g A k<65536)
 |0,_=>⟨show 0<16777216 by decide,fun _=>show 0<65536 by decide⟩
 |1,_=>by
  have:=hg (A+0)
  exact⟨show 256*0+g (A+0)<_ by omega,fun _=>show 256*0+g (A+0)<_ by omega⟩
 |2,_=>by
  have h0:=hg (A+0)
  have h1:=hg (A+1)
  exact⟨show 256*(256*0+g (A+0))+g (A+1)<_ by omega,fun _=>show 256*(256*0+g (A+0))+g (A+1)<_ by omega⟩
 |3,_=>by
  have h0:=hg (A+0)
  have h1:=hg (A+1)
  have h2:=hg (A+2)
  exact⟨show 256*(256*(256*0+g (A+0))+g (A+1))+g (A+2)<_ by omega,fun h=>absurd h (by decide)⟩
 |k+4,h=>absurd h (by omega)
def c8A(W0 w w':World)(v:Value)(N A:Nat)(ok:Bool)(g:Nat→Nat)(s:Nat)(e:Ending):Prop:=
 (A+s≤N∧e=.returned (iV (gA g A s:Nat))∧PS W0 w' v N (A+s) ok∧Off (fun k=>k=W0.heap.size+1∨k=W0.heap.size+1+1) w w')∨
 (N<A+s∧e=.returned (iV 0)∧PS W0 w' v N N false∧Off (fun k=>k=W0.heap.size+1∨k=W0.heap.size+1+1) w w')
theorem c1V(s b o cap N A:Nat)(ok:Bool)(g:Nat→Nat)(W0 w:World)(hs:s≤3)(hy:cF W0 (.slice (some (aD b o)) N cap) N g)(hc: ∀i,i<N→W0.cell? (aD b (o+i))=some (.int .u8 (g i:Nat)))(h:PS W0 w (.slice (some (aD b o)) N cap) N A ok):
  Calls prog 98 #[iV s,.pointer (some (aD (W0.heap.size+1) 0)),.pointer (some (aD W0.heap.size 0)),.pointer (some (aD (W0.heap.size+1+1) 0))] w fun e w'=>c8A W0 w w' (.slice (some (aD b o)) N cap) N A ok g s e:=by
 have hN:=hy.len;have hg:=hy.bd;have hA:=h.le;go_enter func98,ntmps98
 go_wp2_with fail;go_loopw [6,7] (fun y x wr=> ∃k:Nat,k≤s∧A+k≤N∧x=iV k∧y=iV (gA g A k:Nat)∧PS W0 wr (.slice (some (aD b o)) N cap) N (A+k) ok∧Off (fun k=>k=W0.heap.size+1∨k=W0.heap.size+1+1) w wr) (fun _ x _=>s-(intOf x).toNat)
 case atStart=>exact⟨0,c9D _,hA,rfl,rfl,h,Off.refl _ _⟩
 case round=>
  obtain⟨k,hk,A5,rfl,rfl,hp,ho⟩:=hrel;have c0:=hp.at_;have c1:=hp.b_;have c2:=hp.ok_;have f0:=hp.fa;have f1:=hp.fo;have hv:=b4H hg A k (by omega);by_cases A6:k<s
  ·have A4:(k:Int)<(s:Int):=by omega
   by_cases A2:A+k<N
   ·have A1:((A+k:Nat):Int)<(N:Int):=by omega
    have A0: ¬(N:Int)≤((A+k:Nat):Int):=by omega
    have t:=(hp.bel.cell (p:=⟨b,o+(A+k),none⟩) (World.block_lt_of_cell? _ _ (hc (A+k) A2))).trans (hc (A+k) A2);have gk:=hg (A+k);have HV:Hid (gA g A (k+1)=256*gA g A k+g (A+k)):=rfl;have HP:Hid (∀a:Int,a=((A+k:Nat):Int)+1→PS W0 (wr.setCell (aD (W0.heap.size+1) 0) (iV a)) (.slice (some (aD b o)) N cap) N (A+(k+1)) ok):=fun a e=>hp.setAt (by omega) (by omega);have HO:Hid (∀a,Off (fun k=>k=W0.heap.size+1∨k=W0.heap.size+1+1) w (wr.setCell (aD (W0.heap.size+1) 0) a)):=fun a=>ho.set (p:=⟨W0.heap.size+1,0,none⟩) (Or.inl rfl) a;have A3:=hv.2 (by omega);obtain⟨q,hq⟩: ∃q,A+k=q:=⟨_,rfl⟩;generalize gA g A k=n at hv A3 HV;clear hc hp h ho;rw[hq]at c0 t A2 A1 A0 gk HV HP;generalize g q=x at t gk HV;have HK:=hd8 hq;clear hq;go_wp2_with fail;refine⟨⟨k+1,by omega,by have:=HK.out;omega,by go_num,cA (by rw[HV.out];omega),HP.out _ rfl,HO.out _⟩,by simp[intOf];omega⟩
   ·obtain⟨q,hq⟩: ∃q,A+k=q:=⟨_,rfl⟩
    have HR:Hid (c8A W0 w (wr.setCell (aD (W0.heap.size+1+1) 0) (.bool false)) (.slice (some (aD b o)) N cap) N A ok g s (.returned (iV 0))):=Or.inr ⟨by omega,rfl,by
     have h3:=hp.setNo;rw[show A+k=N by omega]at h3
     exact h3,ho.set (p:=⟨W0.heap.size+1+1,0,none⟩) (Or.inr rfl) _⟩
    rw[hq]at c0;have A0:(N:Int)≤(q:Int):=by omega
    clear hc hp h ho hq;go_wp2_with fail;go_ret
    exact HR.out
  ·obtain rfl:k=s:=by omega
   have HR:Hid (c8A W0 w wr (.slice (some (aD b o)) N cap) N A ok g k (.returned (iV (gA g A k:Nat)))):=Or.inl ⟨A5,rfl,hp,ho⟩;clear hc hp h ho;go_wp2_with fail;go_ret
   exact HR.out
def bl(g:Nat→Nat)(N:Nat):List Nat:=(List.range N).map g
theorem kI(g:Nat→Nat)(N:Nat):(bl g N).length=N:=by simp[bl]
theorem nM(g:Nat→Nat)(h:i<N):(bl g N)[i]?=some (g i):=by simp[bl,h]
theorem a6X{g:Nat→Nat}(hg:Bd g)(N:Nat):Evt.bZ (bl g N):=fun x hx=>by
 obtain⟨k,_,rfl⟩:=d0G.1 hx
 exact hg k
theorem jF(g:Nat→Nat)(h:A<N):(bl g N).drop A=g A::(bl g N).drop (A+1):=by
 have hl:A<(bl g N).length:=by rw[kI];exact h
 rw[d2L hl];congr 1;have:=nM g h;rw[c9F hl,Option.some.injEq]at this;exact this
theorem lV(g:Nat→Nat)(h:N≤A):(bl g N).drop A=[]:=List.drop_eq_nil_of_le (by rw[kI];exact h)
theorem mJ(g:Nat→Nat)(h:A+1≤N):Evt.num 1 0 ((bl g N).drop A)=some (gA g A 1,(bl g N).drop (A+1)):=by
 rw[jF g (by omega),Evt.c3M];show _=some (256*0+g A,_);rw[d1U,c9G]
theorem a4N(g:Nat→Nat)(h:N<A+1):Evt.num 1 0 ((bl g N).drop A)=none:=by
 rw[lV g (by omega)];rfl
theorem zM(g:Nat→Nat)(h:A+3≤N):Evt.num 3 0 ((bl g N).drop A)=some (gA g A 3,(bl g N).drop (A+3)):=by
 rw[jF g (by omega),jF g (show A+1<N by omega),jF g (show A+1+1<N by omega)];rfl
theorem b3C(g:Nat→Nat)(h:N<A+3):Evt.num 3 0 ((bl g N).drop A)=none:=by
 by_cases h1:A<N
 ·rw[jF g h1];by_cases h2:A+1<N
  ·rw[jF g h2,lV g (by omega)];rfl
  ·rw[lV g (by omega)];rfl
 ·rw[lV g (by omega)];rfl
def c0X(g:Nat→Nat)(A:Nat):List Nat:=bl (fun k=>g (A+1+k)) (g A)
theorem b7Z(g:Nat→Nat)(h:A+n≤N):((bl g N).drop A).take n=bl (fun k=>g (A+k)) n:=by
 bK d1I;intro i;rw[d0C];by_cases hi:i<n
 ·rw[if_pos hi,d0J,nM g (by omega),nM _ hi]
 ·rw[if_neg hi,c9Z (by rw[kI];omega)]
theorem a3G{f:Nat→Nat}(hf:Bd f)(n:Nat):nb (uT f n)=bl f n:=by
 unfold nb bl;rw[←d2C];unfold uT;rw[a8A,List.map_map];bK d1H;intro k _;have:=hf k;show(UInt8.ofNat (f k)).toNat=f k;rw[UInt8.toNat_ofNat'];omega
theorem b5I{g:Nat→Nat}(h:A+5+g A≤N):Evt.rM ((bl g N).drop A)=some (⟨c0X g A,(g (A+1+g A):Nat),(gA g (A+2+g A) 3:Nat)⟩,(bl g N).drop (A+5+g A)):=by
 unfold Evt.rM;rw[mJ g (by omega)];have e1:gA g A 1=g A:=by
  show 256*0+g (A+0)=_;rw[d1U,c9G,d0X]
 rw[e1];show(if ((bl g N).drop (A+1)).length<g A then none else _)=_;rw[if_neg (by rw[d0A,kI];omega),List.drop_drop,mJ g (by omega)];have e2:gA g (A+1+g A) 1=g (A+1+g A):=by
  show 256*0+g (A+1+g A+0)=_;rw[d1U,c9G,d0X]
 rw[e2];show(match Evt.num 3 0 ((bl g N).drop (A+1+g A+1))with|none=>none|some (m,r'')=>some ((⟨((bl g N).drop (A+1)).take (g A),((g (A+1+g A):Nat):Int),(m:Int)⟩:Evt.Ev),r''))=_;rw[show A+1+g A+1=A+2+g A by omega,zM g (by omega),b7Z g (by omega),show A+2+g A+3=A+5+g A by omega];rfl
theorem a2D{g:Nat→Nat}(h:N<A+5+g A∨N≤A):Evt.rM ((bl g N).drop A)=none:=by
 unfold Evt.rM;by_cases h1:A+1≤N
 ·rw[mJ g h1];have e1:gA g A 1=g A:=by
   show 256*0+g (A+0)=_;rw[d1U,c9G,d0X]
  rw[e1];show(if ((bl g N).drop (A+1)).length<g A then none else match Evt.num 1 0 (((bl g N).drop (A+1)).drop (g A))with|none=>none|some (k,r')=>match Evt.num 3 0 r' with|none=>none|some (m,r'')=>some ((⟨((bl g N).drop (A+1)).take (g A),(k:Int),(m:Int)⟩:Evt.Ev),r''))=none;by_cases h2:((bl g N).drop (A+1)).length<g A
  ·rw[if_pos h2]
  ·rw[if_neg h2,List.drop_drop];rw[d0A,kI]at h2;by_cases h3:A+1+g A+1≤N
   ·rw[mJ g h3];show(match Evt.num 3 0 ((bl g N).drop (A+1+g A+1))with|none=>none|some (m,r'')=>some ((⟨((bl g N).drop (A+1)).take (g A),((gA g (A+1+g A) 1:Nat):Int),(m:Int)⟩:Evt.Ev),r''))=none;rw[b3C g (by omega)]
   ·rw[a4N g (by omega)]
 ·rw[a4N g (by omega)]
end Go.Proofs.YtmcaejooaaahdaaGreat
namespace Go.Proofs.YtmcaejooaaahdaaGreat.Gf
open Go.Proofs.Tryz
theorem a6F{n:Nat}{m:Nat→Nat→Nat}(hm:Bd2 m):(∃r,Bd2 r∧Und n m r)∨a6O n m:=by
 have A0: ∀k,k≤n→(∃W,pG n m (fun j=>j<k) W)∨a6O n m:=by
  intro k;induction k with
  |A1=>exact fun _=>Or.inl ⟨_,pG.start hm fun j=>c9L j⟩
  |succ k ih=>
   intro hk;rcases ih (by omega)with⟨W,hW⟩|hs
   ·by_cases q: ∃p,p<n∧ ¬p<k∧W p k≠0
    ·obtain⟨p,p1,p2,p3⟩:=q;exact Or.inl ⟨_,hW.step (D':=fun j=>j<k+1) (show k<n by omega) p1 (d0V k) p2 p3 fun j hj=>by omega⟩
    ·exact Or.inr (hW.fails (show k<n by omega) (d0V k) fun i hi hn=>Classical.byContradiction fun z=>q ⟨i,hi,hn,z⟩)
   ·exact Or.inr hs
 rcases A0 n (Nat.le_refl n)with⟨W,hW⟩|hs
 ·exact Or.inl ⟨_,fun i j=>hW.bd i (n+j),hW.done hm fun j hj=>hj⟩
 ·exact Or.inr hs
end Go.Proofs.YtmcaejooaaahdaaGreat.Gf
namespace Go.Proofs.YtmcaejooaaahdaaGreat.Sto
open Go.Proofs.Tryz
open Evt (Ev Bat)
def f9(bs:List (List Nat))(i:Nat):Nat:=(bs.getD i []).length
def eP(bs:List (List Nat))(i k:Nat):Nat:=(bs.getD i []).getD k 0
def lZ(r:List Nat)(k:Nat)(c:Cfg):Nat×List (List Nat):=
 if Seg.gU r.length k c.d c.s=0 then(0,(List.range (c.d+c.s)).map fun i=>bl (Seg.blk (fun j=>r.getD j 0) r.length k c.d i) (Seg.dF r.length c.d+11))else(Seg.gU r.length k c.d c.s,[])
structure dE(X:Six):Prop where
 lay: ∀r k c,X.lay r k c=lZ r k c
 bad: ∀bs k,X.bad bs k=Seg.kT k (f9 bs) (eP bs) bs.length
 err: ∀bs k c,(X.read bs k c).1=cR k c.d bs.length (f9 bs) (eP bs)
 told: ∀bs k c,(X.read bs k c).1=0→ ∀r,Gf.Bd2 r→Gf.Und c.d (fun p=>Gf.bH c.d (thr (Seg.rl k (f9 bs) (eP bs)) bs.length p)) r→
  (X.read bs k c).2=bl (a1O c.d bs.length (Seg.rl k (f9 bs) (eP bs)) (Seg.rf (eP bs)) r) (Seg.rz (eP bs) (thr (Seg.rl k (f9 bs) (eP bs)) bs.length 0))
 none: ∀bs k c,(X.read bs k c).1≠0→(X.read bs k c).2=[]
 mend: ∀bs k c,X.mend bs k c=if (X.read bs k c).1≠0 then((X.read bs k c).1,[])else lZ (X.read bs k c).2 k c
theorem b1T{n N:Nat}{L:Nat→Nat}{f r r':Nat→Nat→Nat}(hr:Gf.Bd2 r)(hr':Gf.Bd2 r')(h:Gf.Und n (fun p=>Gf.bH n (thr L N p)) r)(h':Gf.Und n (fun p=>Gf.bH n (thr L N p)) r')(k:Nat):a1O n N L f r k=a1O n N L f r' k:=by
 unfold a1O;refine Gf.mC (fun _ _=>rfl) (fun p hp=>Gf.mC (fun q hq=>?_) (fun _ _=>rfl));exact h.uniq (fun p=>Gf.eK n _) hr hr' h' p q hp hq
theorem six: ∃X:Six,dE X:=by
 have h: ∀x:List (List Nat)×Nat×Cfg,∃y:Nat×List Nat,y.1=cR x.2.1 x.2.2.d x.1.length (f9 x.1) (eP x.1)∧
   (y.1=0→ ∀r,Gf.Bd2 r→Gf.Und x.2.2.d (fun p=>Gf.bH x.2.2.d (thr (Seg.rl x.2.1 (f9 x.1) (eP x.1)) x.1.length p)) r→y.2=bl (a1O x.2.2.d x.1.length (Seg.rl x.2.1 (f9 x.1) (eP x.1)) (Seg.rf (eP x.1)) r) (Seg.rz (eP x.1) (thr (Seg.rl x.2.1 (f9 x.1) (eP x.1)) x.1.length 0)))∧(y.1≠0→y.2=[]):=fun x=>by
  by_cases q:cR x.2.1 x.2.2.d x.1.length (f9 x.1) (eP x.1)=0∧ ∃r,Gf.Bd2 r∧Gf.Und x.2.2.d (fun p=>Gf.bH x.2.2.d (thr (Seg.rl x.2.1 (f9 x.1) (eP x.1)) x.1.length p)) r
  ·obtain⟨q0,r,r1,r2⟩:=q;refine⟨(0,bl (a1O x.2.2.d x.1.length (Seg.rl x.2.1 (f9 x.1) (eP x.1)) (Seg.rf (eP x.1)) r) (Seg.rz (eP x.1) (thr (Seg.rl x.2.1 (f9 x.1) (eP x.1)) x.1.length 0))),q0.symm,fun _ r' h1 h2=>?_,fun z=>absurd rfl z⟩;exact congrArg (fun f=>bl f _) (funext fun k=>b1T (f:=Seg.rf (eP x.1)) r1 h1 r2 h2 k)
  ·exact⟨(cR x.2.1 x.2.2.d x.1.length (f9 x.1) (eP x.1),[]),rfl,fun z r h1 h2=>absurd ⟨z,r,h1,h2⟩ q,fun _=>rfl⟩
 obtain⟨f,hf⟩:=Classical.skolem.1 h
 exact⟨⟨lZ,fun bs k c=>f (bs,k,c),fun bs k=>Seg.kT k (f9 bs) (eP bs) bs.length,fun bs k c=>if (f (bs,k,c)).1≠0 then((f (bs,k,c)).1,[])else lZ (f (bs,k,c)).2 k c⟩,
  fun _ _ _=>rfl,fun _ _=>rfl,fun bs k c=>(hf (bs,k,c)).1,fun bs k c=>(hf (bs,k,c)).2.1,fun bs k c=>(hf (bs,k,c)).2.2,fun _ _ _=>rfl⟩
theorem lY(g:Nat→Nat)(n:Nat):(bl g n).length=n:=by
 unfold bl;rw[c9M,d1E]
theorem nM(g:Nat→Nat){n k:Nat}(h:k<n):(bl g n)[k]?=some (g k):=by
 unfold bl;rw[c9S,List.getElem?_range h];rfl
theorem c8H(g:Nat→Nat){n k:Nat}(h:k<n):(bl g n).getD k 0=g k:=by
 rw[c9R,nM g h];rfl
theorem b2W(r:List Nat):bl (fun j=>r.getD j 0) r.length=r:=by
 bK d1I;intro i;by_cases hi:i<r.length
 ·rw[nM _ hi,c9R,c9F hi];rfl
 ·rw[c9Z (by rw[lY];omega),c9Z (by omega)]
theorem xG{L seg d s:Nat}(h:Seg.gU L seg d s=0):1≤d∧d≤8∧s≤4∧seg≤39∧L≤400*d:=by
 unfold Seg.gU at h;by_cases q1:(d:Int)<1∨8<(d:Int)∨(s:Int)<0∨4<(s:Int)
 ·rw[if_pos q1]at h;cases h
 rw[if_neg q1]at h;by_cases q2:(seg:Int)<0∨39<(seg:Int)
 ·rw[if_pos q2]at h;cases h
 rw[if_neg q2]at h;by_cases q3:400*(d:Int)<(L:Int)
 ·rw[if_pos q3]at h;cases h
 omega
theorem oP{r:List Nat}{k:Nat}{c:Cfg}{L:List (List Nat)}(h:lZ r k c=(0,L)):(1≤c.d∧c.d≤8∧c.s≤4∧k≤39∧r.length≤400*c.d)∧L.length=c.d+c.s∧ ∀i,i<c.d+c.s→L.getD i []=bl (Seg.blk (fun j=>r.getD j 0) r.length k c.d i) (Seg.dF r.length c.d+11):=by
 unfold lZ at h;by_cases q:Seg.gU r.length k c.d c.s=0
 ·rw[if_pos q]at h;have h:=(Prod.mk.inj h).2;subst h;refine⟨xG q,by rw[c9M,d1E],fun i hi=>?_⟩;rw[c9R,c9S,List.getElem?_range hi];rfl
 ·rw[if_neg q]at h;exact absurd (Prod.mk.inj h).1 q
theorem kJ{r:List Nat}(h:Evt.bZ r)(k:Nat):r.getD k 0<256:=by
 by_cases hk:k<r.length
 ·rw[c9R,c9F hk];exact h _ (List.getElem_mem hk)
 ·rw[c9R,c9Z (by omega)];decide
section
variable {X : Six} {c : Cfg} {bs : List (List Nat)} {r : List Nat} {k : Nat} {L : List (List Nat)}
end
end Go.Proofs.YtmcaejooaaahdaaGreat.Sto
namespace Go.Proofs.YtmcaejooaaahdaaGreat.Evt
open Go.Proofs.Tryz
variable {A A' N N' a b g i k n n' o p size x:Nat} {S:Nat→Prop} {W0 w w' wr:World} {es:List EvC} {r r':List Nat} {s':ByteArray} {t t':TypeId} {v v':Value} {xs xs':List Value}
abbrev St:=List Nat×Bool
def cO(s:Nat)(st:St):Nat×St:=match num s 0 st.1 with|some (x,r)=>(x,(r,st.2))|none=>(0,([],true))
def gF(n:Nat)(st:St):List Nat×St:=if st.1.length<n then([],([],true))else(st.1.take n,(st.1.drop n,st.2))
def evS(st:St):Ev×St:=
 (⟨(gF (cO 1 st).1 (cO 1 st).2).1,((cO 1 (gF (cO 1 st).1 (cO 1 st).2).2).1:Nat),((cO 3 (cO 1 (gF (cO 1 st).1 (cO 1 st).2).2).2).1:Nat)⟩,(cO 3 (cO 1 (gF (cO 1 st).1 (cO 1 st).2).2).2).2)
def iU:Nat→St→List Ev×St
 |0,st=>([],st)
 |m+1,st=>((evS st).1::(iU m (evS st).2).1,(iU m (evS st).2).2)
def tW(st:St):List Ev×St:=iU (cO 1 st).1 (cO 1 st).2
def nH(st:St):Bat×St:=(⟨((cO 3 st).1:Nat),(tW (cO 3 st).2).1⟩,(tW (cO 3 st).2).2)
def dR:Nat→St→List Bat×St
 |0,st=>([],st)
 |m+1,st=>((nH st).1::(dR m (nH st).2).1,(dR m (nH st).2).2)
def jN(st:St):List Bat×St:=dR (cO 1 st).1 (cO 1 st).2
theorem a1V: ∀(m:Nat) (st:St),iU (m+1) st=((iU m st).1++[(evS (iU m st).2).1],(evS (iU m st).2).2)
 |0,st=>rfl
 |m+1,st=>by
  show((evS st).1::(iU (m+1) (evS st).2).1,(iU (m+1) (evS st).2).2)=_
  rw[a1V m (evS st).2]
  rfl
theorem xM: ∀(m:Nat) (st:St),dR (m+1) st=((dR m st).1++[(nH (dR m st).2).1],(nH (dR m st).2).2)
 |0,st=>rfl
 |m+1,st=>by
  show((nH st).1::(dR (m+1) (nH st).2).1,(dR (m+1) (nH st).2).2)=_
  rw[xM m (nH st).2]
  rfl
theorem uV: ∀(m:Nat) (st:St),(dR m st).1.length=m
 |0,_=>rfl
 |m+1,st=>by
  show(dR m (nH st).2).1.length+1=m+1
  rw[uV m]
def qG{α:Type}(o:Option (α×List Nat))(a:α×St):Prop:=match o with|some (x,r)=>a=(x,(r,false))|none=>a.2.2=true
theorem a2F(s:Nat)(r:List Nat):qG (num s 0 r) (cO s (r,false)):=by
 unfold cO qG;cases num s 0 r with
 |none=>rfl
 |some p=>rfl
theorem gM(s:Nat)(st:St)(h:st.2=true):(cO s st).2.2=true:=by
 unfold cO;cases num s 0 st.1 with
 |none=>rfl
 |some p=>exact h
theorem a6M(s:Nat)(st:St)(h:st.2=true):(gF s st).2.2=true:=by
 unfold gF;split
 ·rfl
 ·exact h
theorem c4T(st:St)(h:st.2=true):(evS st).2.2=true:=gM _ _ (gM _ _ (a6M _ _ (gM _ _ h)))
theorem tH: ∀(m:Nat) (st:St),st.2=true→(iU m st).2.2=true
 |0,_,h=>h
 |m+1,st,h=>tH m (evS st).2 (c4T st h)
theorem a8V(st:St)(h:st.2=true):(tW st).2.2=true:=tH _ _ (gM _ _ h)
theorem c2X(st:St)(h:st.2=true):(nH st).2.2=true:=a8V _ (gM _ _ h)
theorem tU: ∀(m:Nat) (st:St),st.2=true→(dR m st).2.2=true
 |0,_,h=>h
 |m+1,st,h=>tU m (nH st).2 (c2X st h)
theorem iT{s:Nat}(h:num s 0 r=some (x,r')):cO s (r,false)=(x,(r',false)):=by
 have:=a2F s r;rw[h]at this;exact this
theorem j6{s:Nat}(h:num s 0 r=none):(cO s (r,false)).2.2=true:=by
 have:=a2F s r;rw[h]at this;exact this
theorem c2P(r:List Nat):qG (rM r) (evS (r,false)):=by
 unfold rM;cases h1:num 1 0 r with
 |none=>exact gM _ _ (gM _ _ (a6M _ _ (j6 h1)))
 |some p=>
  obtain⟨n,r1⟩:=p;have e1:=iT h1;show qG (if r1.length<n then none else _) _;unfold evS;rw[e1];by_cases h2:r1.length<n
  ·rw[if_pos h2];have e2:(gF n (r1,false)).2.2=true:=by
    unfold gF;rw[if_pos h2]
   exact gM _ _ (gM _ _ e2)
  ·rw[if_neg h2];have e2:gF n (r1,false)=(r1.take n,(r1.drop n,false)):=by
    unfold gF;rw[if_neg h2]
   show qG _ ((⟨(gF n (r1,false)).1,_,_⟩:Ev),(cO 3 (cO 1 (gF n (r1,false)).2).2).2);rw[e2];cases h3:num 1 0 (r1.drop n)with
   |none=>exact gM _ _ (j6 h3)
   |some p=>
    obtain⟨k,r2⟩:=p;have e3:=iT h3;show qG _ ((⟨_,((cO 1 (r1.drop n,false)).1:Nat),((cO 3 (cO 1 (r1.drop n,false)).2).1:Nat)⟩:Ev),(cO 3 (cO 1 (r1.drop n,false)).2).2);rw[e3];show qG (match num 3 0 r2 with|none=>none|some (m,r'')=>some ((⟨r1.take n,(k:Int),(m:Int)⟩:Ev),r'')) _;cases h4:num 3 0 r2 with
    |none=>exact j6 h4
    |some p=>
     obtain⟨m,r3⟩:=p;have e4:=iT h4;show((⟨r1.take n,(k:Int),((cO 3 (r2,false)).1:Nat)⟩:Ev),(cO 3 (r2,false)).2)=_;rw[e4]
theorem a0T: ∀(m:Nat) (r:List Nat),qG (eF m r) (iU m (r,false))
 |0,r=>rfl
 |m+1,r=>by
  show qG (match rM r with|none=>none|some (e,r)=>match eF m r with|none=>none|some (l,r)=>some (e::l,r)) _
  have h:=c2P r
  cases h1:rM r with
  |none=>
   rw[h1]at h;exact tH m _ h
  |some p=>
   obtain⟨e,r1⟩:=p;rw[h1]at h;have h:evS (r,false)=(e,(r1,false)):=h;show qG (match eF m r1 with|none=>none|some (l,r)=>some (e::l,r)) ((evS (r,false)).1::(iU m (evS (r,false)).2).1,(iU m (evS (r,false)).2).2);rw[h];have k:=a0T m r1;cases h2:eF m r1 with
   |none=>
    rw[h2]at k;exact k
   |some p=>
    obtain⟨l,r2⟩:=p;rw[h2]at k;have k:iU m (r1,false)=(l,(r2,false)):=k;show(e::(iU m (r1,false)).1,(iU m (r1,false)).2)=_;rw[k]
theorem b8G(r:List Nat):qG (mI r) (nH (r,false)):=by
 unfold mI;cases h1:num 3 0 r with
 |none=>exact a8V _ (j6 h1)
 |some p=>
  obtain⟨c,r1⟩:=p;have e1:=iT h1;unfold nH;rw[e1];show qG (match num 1 0 r1 with|none=>none|some (m,r)=>match eF m r with|none=>none|some (l,r)=>some ((⟨c,l⟩:Bat),r)) _;cases h2:num 1 0 r1 with
  |none=>exact tH _ _ (j6 h2)
  |some p=>
   obtain⟨m,r2⟩:=p;have e2:=iT h2;show qG (match eF m r2 with|none=>none|some (l,r)=>some ((⟨c,l⟩:Bat),r)) ((⟨(c:Int),(tW (r1,false)).1⟩:Bat),(tW (r1,false)).2);unfold tW;rw[e2];have k:=a0T m r2;cases h3:eF m r2 with
   |none=>
    rw[h3]at k;exact k
   |some p=>
    obtain⟨l,r3⟩:=p;rw[h3]at k;have k:iU m (r2,false)=(l,(r3,false)):=k;show((⟨(c:Int),(iU m (r2,false)).1⟩:Bat),(iU m (r2,false)).2)=_;rw[k]
theorem rH: ∀(m:Nat) (r:List Nat),qG (dZ m r) (dR m (r,false))
 |0,r=>rfl
 |m+1,r=>by
  show qG (match mI r with|none=>none|some (e,r)=>match dZ m r with|none=>none|some (l,r)=>some (e::l,r)) _
  have h:=b8G r
  cases h1:mI r with
  |none=>
   rw[h1]at h;exact tU m _ h
  |some p=>
   obtain⟨e,r1⟩:=p;rw[h1]at h;have h:nH (r,false)=(e,(r1,false)):=h;show qG (match dZ m r1 with|none=>none|some (l,r)=>some (e::l,r)) ((nH (r,false)).1::(dR m (nH (r,false)).2).1,(dR m (nH (r,false)).2).2);rw[h];have k:=rH m r1;cases h2:dZ m r1 with
   |none=>
    rw[h2]at k;exact k
   |some p=>
    obtain⟨l,r2⟩:=p;rw[h2]at k;have k:dR m (r1,false)=(l,(r2,false)):=k;show(e::(dR m (r1,false)).1,(dR m (r1,false)).2)=_;rw[k]
theorem b5F(h:(jN (r,false)).2.2=true∨(jN (r,false)).2.1≠[]):aM r=2∧dD r=[]:=by
 have hg:vA r=none:=by
  unfold vA;unfold jN at h;cases h1:num 1 0 r with
  |none=>rfl
  |some p=>
   obtain⟨m,r1⟩:=p;rw[iT h1]at h;show(match dZ m r1 with|none=>none|some (l,r)=>if r=[]then some l else none)=none;have k:=rH m r1;cases h2:dZ m r1 with
   |none=>rfl
   |some p=>
    obtain⟨l,r2⟩:=p;rw[h2]at k;have k:dR m (r1,false)=(l,(r2,false)):=k;have h:(dR m (r1,false)).2.2=true∨(dR m (r1,false)).2.1≠[]:=h;rw[k]at h;rcases h with h|h
    ·cases h
    ·exact if_neg h
 unfold aM dD;rw[hg];exact⟨rfl,rfl⟩
theorem b2F(h:(jN (r,false)).2.2=false)(h':(jN (r,false)).2.1=[]):vA r=some (jN (r,false)).1:=by
 unfold vA;unfold jN at h h'⊢;cases h1:num 1 0 r with
 |none=>
  rw[tU _ _ (j6 h1)]at h;cases h
 |some p=>
  obtain⟨m,r1⟩:=p;rw[iT h1]at h h'⊢;show(match dZ m r1 with|none=>none|some (l,r)=>if r=[]then some l else none)=some (dR m (r1,false)).1;have h:(dR m (r1,false)).2.2=false:=h;have h':(dR m (r1,false)).2.1=[]:=h';have k:=rH m r1;cases h2:dZ m r1 with
  |none=>
   rw[h2]at k;have k:(dR m (r1,false)).2.2=true:=k;rw[k]at h;cases h
  |some p=>
   obtain⟨l,r2⟩:=p;rw[h2]at k;have k:dR m (r1,false)=(l,(r2,false)):=k;rw[k]at h'⊢;exact if_pos h'
theorem a7R(h:(jN (r,false)).2.2=false)(h':(jN (r,false)).2.1=[]):aM r=(aF (jN (r,false)).1).1∧dD r=if (aF (jN (r,false)).1).1=0 then(jN (r,false)).1 else[]:=by
 unfold aM dD;rw[b2F h h'];exact⟨rfl,rfl⟩
theorem bZ.drop(h:bZ r)(n:Nat):bZ (r.drop n):=fun x hx=>h x (d1S hx)
theorem bZ.take(h:bZ r)(n:Nat):bZ (r.take n):=fun x hx=>h x (d2T hx)
theorem bZ.nil:bZ []:=fun x hx=>by cases hx
def val(l:List Nat):Nat:=l.foldl (fun n x=>256*n+x) 0
theorem b3Z: ∀(s acc:Nat) (r:List Nat),num s acc r=if r.length<s then none else some ((r.take s).foldl (fun n x=>256*n+x) acc,r.drop s)
 |0,acc,r=>(if_neg (c:=r.length<0) (c9L _)).symm
 |s+1,acc,[]=>(if_pos (c:=([]:List Nat).length<s+1) (Nat.succ_pos s)).symm
 |s+1,acc,x::r=>by
  show num s (256*acc+x) r=_
  rw[b3Z s]
  by_cases h:r.length<s
  ·rw[if_pos h,if_pos (by simpa using h)]
  ·rw[if_neg h,if_neg (by simpa using h)]
   rfl
theorem a8H(s:Nat)(st:St):cO s st=(val (gF s st).1,(gF s st).2):=by
 unfold cO gF;rw[b3Z];by_cases h:st.1.length<s
 ·rw[if_pos h,if_pos h];rfl
 ·rw[if_neg h,if_neg h];rfl
theorem b1N{st:St}(s:Nat)(h:bZ st.1):bZ (gF s st).1∧bZ (gF s st).2.1:=by
 unfold gF;split
 ·exact⟨bZ.nil,bZ.nil⟩
 ·exact⟨h.take s,h.drop s⟩
theorem yW(s:Nat)(st:St):(gF s st).1.length≤s:=by
 unfold gF;split
 ·exact c9D _
 ·simpa using Nat.min_le_left s st.1.length
theorem b1Y: ∀(l:List Nat) (acc k:Nat),bZ l→acc<256^k→l.foldl (fun n x=>256*n+x) acc<256^(k+l.length)
 |[],acc,k,_,h=>h
 |x::l,acc,k,hb,h=>by
  show l.foldl _ (256*acc+x)<_
  rw[show k+(x::l).length=(k+1)+l.length by simp;omega]
  refine b1Y l _ (k+1) hb.tail ?_
  have:=hb x c9W
  rw[Nat.pow_succ]
  omega
theorem a3Q{st:St}(s:Nat)(h:bZ st.1):(cO s st).1<256^s:=by
 rw[a8H];have h1:=b1Y (gF s st).1 0 0 (b1N s h).1 (by decide);have h2:=yW s st;refine c9P h1 (d2U (by decide) (by omega))
end Go.Proofs.YtmcaejooaaahdaaGreat.Evt
namespace Go.Proofs.YtmcaejooaaahdaaGreat
open Go.Proofs.Tryz
variable {A A' N N' a b g i k n n' o p size x:Nat} {S:Nat→Prop} {W0 w w' wr:World} {es:List EvC} {r r':List Nat} {s':ByteArray} {t t':TypeId} {v v':Value} {xs xs':List Value}
open Go.RowKit
theorem bC{s:Nat}(h:w.ownsRow N t s v n xs)(ho:Off S w w')(hS: ∀g,v.ownBlock=some g→ ¬S g):w'.ownsRow N t s v n xs:=by
 have A2:=h.lt;obtain⟨hl,h⟩:=h;refine⟨hl,h.imp id ?_⟩;rintro⟨g,A1,A0,rfl,hN,hg,hr⟩;refine⟨g,A1,A0,rfl,hN,?_,hr⟩;rw[ho.block g (A2 g rfl).2 (hS g rfl)];exact hg
theorem i9{s:Nat}(h:w.ownsRow N t s v n xs)(hg:v.ownBlock=some g): ∃cur,w.heap[g]?=some (.cells cur t (0,0)):=by
 rcases h.2 with⟨rfl,_⟩|⟨g',A0,cur,rfl,_,h1,_⟩
 ·simp[Value.ownBlock]at hg
 ·simp[Value.ownBlock]at hg;subst hg;exact⟨cur,h1⟩
theorem c3Q{s s':Nat}(h:w.ownsRow N t s v n xs)(h':w.ownsRow N' t' s' v' n' xs')(ht:t≠t'): ∀g,v.ownBlock=some g→ ¬v'.ownBlock=some g:=fun g hg hg'=>by
 obtain⟨c,e1⟩:=i9 h hg
 obtain⟨c',e2⟩:=i9 h' hg'
 rw[e1]at e2
 cases e2
 exact ht rfl
theorem cG.off(h:cG w N v es)(ho:Off S w w')(hS: ∀g,v.ownBlock=some g→ ¬S g):cG w' N v es:=⟨bC h.1 ho hS,h.2⟩
theorem cJ{row:Option Nat}(h:w.grownBy w' row):Off (fun k=>row=some k) w w':=⟨h.os,h.tape,h.output,h.size,fun k hk hn=>h.block k hk (fun e=>hn e.symm)⟩
theorem dW.off{a b:Value}(h:dW w p a b)(ho:Off S w w')(hS: ¬S p):dW w' p a b:=by
 have hp:p<w.heap.size:=World.block_lt_of_cell? _ _ h.c0;have hb:=ho.block p hp hS;exact⟨(World.cell?_of_block (w:=w) (a:=⟨p,0,none⟩) hb).trans h.c0,(World.cell?_of_block (w:=w) (a:=⟨p,1,none⟩) hb).trans h.c1,fun i=>(World.frozen?_of_block (w:=w) (a:=⟨p,i,none⟩) hb).trans (h.fr i)⟩
structure mP(w:World)(p:Nat)(a b c:Value):Prop where
 c0:w.cell? (aD p 0)=some a
 c1:w.cell? (aD p 1)=some b
 c2:w.cell? (aD p 2)=some c
 fr: ∀i,w.frozen? (aD p i)=false
theorem c1O(w:World)(t:TypeId)(a b c:Value):mP (w.alloc (.cells #[a,b,c] t)) w.heap.size a b c:=by
 have hr:=World.rowIs_alloc w #[a,b,c] t (fun k=>#[a,b,c].getD k a) (fun i hi=>by simp only[Array.getElem?_eq_getElem hi,Array.getD,hi,dif_pos];rfl);exact⟨hr.cell (i:=0) (by simp),hr.cell (i:=1) (by simp),hr.cell (i:=2) (by simp),fun i=>hr.frozen i⟩
theorem mP.off{a b c:Value}(h:mP w p a b c)(ho:Off S w w')(hS: ¬S p):mP w' p a b c:=by
 have hp:p<w.heap.size:=World.block_lt_of_cell? _ _ h.c0;have hb:=ho.block p hp hS;exact⟨(World.cell?_of_block (w:=w) (a:=⟨p,0,none⟩) hb).trans h.c0,(World.cell?_of_block (w:=w) (a:=⟨p,1,none⟩) hb).trans h.c1,(World.cell?_of_block (w:=w) (a:=⟨p,2,none⟩) hb).trans h.c2,fun i=>(World.frozen?_of_block (w:=w) (a:=⟨p,i,none⟩) hb).trans (h.fr i)⟩
theorem mP.set0{a b c:Value}(h:mP w p a b c)(x:Value):mP (w.setCell (aD p 0) x) p x b c:=by
 have c0:=h.c0;have c1:=h.c1;have c2:=h.c2;exact⟨by go_simp,by go_simp,by go_simp,fun i=>by have:=h.fr i;go_simp⟩
theorem mP.set1{a b c:Value}(h:mP w p a b c)(x:Value):mP (w.setCell (aD p 1) x) p a x c:=by
 have c0:=h.c0;have c1:=h.c1;have c2:=h.c2;exact⟨by go_simp,by go_simp,by go_simp,fun i=>by have:=h.fr i;go_simp⟩
theorem mP.set2{a b c:Value}(h:mP w p a b c)(x:Value):mP (w.setCell (aD p 2) x) p a b x:=by
 have c0:=h.c0;have c1:=h.c1;have c2:=h.c2;exact⟨by go_simp,by go_simp,by go_simp,fun i=>by have:=h.fr i;go_simp⟩
theorem dW.set1{a b:Value}(h:dW w p a b)(x:Value):dW (w.setCell (aD p 1) x) p a x:=by
 have c0:=h.c0;have c1:=h.c1;exact⟨by go_simp,by go_simp,fun i=>by have:=h.fr i;go_simp⟩
theorem Off.past{T:Nat→Prop}{a b c:World}(h:Off S a b)(k:Off T b c)(hT: ∀y,T y→y<a.heap.size→S y):Off S a c:=
 ⟨k.os.trans h.os,k.tape.trans h.tape,k.output.trans h.output,c9E h.size k.size,fun i hi hs=>(k.block i (c9P hi h.size) (fun q=>hs (hT i q hi))).trans (h.block i hi hs)⟩
theorem aG(w:World)(a:Addr)(x:Value):Off (fun k=>k=a.block) w (w.setCell a x):=(Off.refl (fun k=>k=a.block) w).set (p:=a) rfl x
def upd{α:Type}(Q:Nat→α)(k:Nat)(e:α)(i:Nat):α:=if i=k then e else Q i
theorem bM{α:Type}(Q:Nat→α)(k:Nat)(e:α):upd Q k e k=e:=if_pos rfl
theorem aV{α:Type}(Q:Nat→α)(e:α)(h:i≠k):upd Q k e i=Q i:=if_neg h
theorem fY(h:a≠b):(⟨g,a,none⟩:Addr)≠(aD g b):=fun e=>by
 cases e
 exact h rfl
theorem kZ{s:Nat}(h:w.ownsRow N t s v n xs)(hg:v.ownBlock=some g)(i:Nat):w.frozen? (aD g i)=false:=by
 obtain⟨A0,e⟩:=i9 h hg;have hr:w.rowIs g t A0.size (fun j=>A0.getD j nS):=⟨A0,e,rfl,fun i hi=>by simp[hi]⟩;exact hr.frozen i
theorem nC(z:Array Value)(n j:Nat)(hj:j<n)(u:Value)(hu:z[j%z.size]! =u):(madeCells z n).toList[j]?=some u:=by
 simp[madeCells,hj,hu]
end Go.Proofs.YtmcaejooaaahdaaGreat
