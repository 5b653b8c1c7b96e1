import Derived.Test.YtmcaejooaaahdaaGreatZ09
import Derived.Deep.SlicePairs
set_option maxHeartbeats 8000000
set_option maxRecDepth 100000
namespace Go.Proofs.YtmcaejooaaahdaaGreat
open Go.Proofs.Tryz
open Go.RowKit
theorem a2D(s:ByteArray)(w:World):Calls prog 155 #[.string s] w fun e w'=>e=.returned (.bool false)∧w'=w:=by
 go_enter func155,ntmps155
 go_wp2_with fail;go_ret
 exact⟨by simp,rfl⟩
def oC(a b:List Nat):Int:=if Vw.lt a b=true then -1 else if a=b then 0 else 1
theorem b9Q{a b:List Nat}:oC a b<0↔Vw.lt a b=true:=by
 unfold oC;by_cases h:Vw.lt a b=true
 ·rw[if_pos h];simp[h]
 ·rw[if_neg h];by_cases e:a=b
  ·rw[if_pos e];simp[h]
  ·rw[if_neg e];simp[h]
theorem a1I{a b:List Nat}:oC a b=0↔a=b:=by
 unfold oC;by_cases h:Vw.lt a b=true
 ·rw[if_pos h];simp[Vw.vT h]
 ·rw[if_neg h];by_cases e:a=b
  ·simp[e]
  ·rw[if_neg e];simp[e]
theorem b0L(a b:List Nat): -1≤oC a b∧oC a b≤1:=by
 unfold oC;by_cases h:Vw.lt a b=true
 ·rw[if_pos h];omega
 ·rw[if_neg h];by_cases e:a=b
  ·rw[if_pos e];omega
  ·rw[if_neg e];omega
theorem a8O(s t:ByteArray)(w:World):Calls prog 131 #[.string s,.string t] w fun e w'=>e=.returned (iV (oC (nb s) (nb t)))∧w'=w:=by
 have H1:=a2D s w;have H2:=a2D t w;have hl:=wW s t;have he:=nD s t;by_cases q:Vw.lt (nb s) (nb t)=true
 ·have H:Hid (oC (nb s) (nb t)= -1):=if_pos q;rw[q]at hl;clear q he;go_enter func131,ntmps131
  go_wp2_with fail;refine H1.mono ?_;rintro e w1 ⟨rfl,rfl⟩;clear H1;go_wp2_with fail;refine H2.mono ?_;rintro e w1 ⟨rfl,rfl⟩;clear H2;go_wp2_with fail;go_ret
  exact⟨by rw[H.out];rfl,rfl⟩
 ·have q':Vw.lt (nb s) (nb t)=false:=by simpa using q
  by_cases r:nb s=nb t
  ·have H:Hid (oC (nb s) (nb t)=0):=a1I.2 r;rw[q']at hl;rw[decide_eq_true r]at he;clear q q' r;go_enter func131,ntmps131
   go_wp2_with fail;refine H1.mono ?_;rintro e w1 ⟨rfl,rfl⟩;clear H1;go_wp2_with fail;refine H2.mono ?_;rintro e w1 ⟨rfl,rfl⟩;clear H2;go_wp2_with fail;go_ret
   exact⟨by rw[H.out];rfl,rfl⟩
  ·have H:Hid (oC (nb s) (nb t)=1):=by
    show oC _ _=1;unfold oC;rw[if_neg q,if_neg r]
   rw[q']at hl;rw[decide_eq_false r]at he;clear q q' r;go_enter func131,ntmps131
   go_wp2_with fail;refine H1.mono ?_;rintro e w1 ⟨rfl,rfl⟩;clear H1;go_wp2_with fail;refine H2.mono ?_;rintro e w1 ⟨rfl,rfl⟩;clear H2;go_wp2_with fail;go_ret
   exact⟨by rw[H.out];rfl,rfl⟩
theorem Tryz.enters_cmpA: ∀args w,(callFunc 130 args).run Tryz.prog w=.ok (.enter 130 args) w:=enters_of Tryz.func130 (by kernel_rfl) rfl
theorem a5Y(s t:ByteArray)(k m:Int)(b:Bool)(w:World):Calls prog 130 #[.agg #[.string s,iV k,iV m,.bool b],.string t] w fun e w'=>e=.returned (iV (oC (nb s) (nb t)))∧Bl w w':=by
 have A0:=aB8 w (.cells #[.string s,iV k,iV m,.bool b] 93);have H:=a8O s t (w.alloc (.cells #[.string s,iV k,iV m,.bool b] 93));go_enter func130,ntmps130
 go_wp2_with fail;refine H.mono ?_;rintro e w1 ⟨rfl,rfl⟩;clear H;go_wp2_with fail;go_ret
 exact⟨rfl,A0⟩
def b1A(e:Ending)(l:List Vw.Acc)(n:List Nat):Prop:= ∃(i:Nat) (y:Bool),e=.returned (.tuple #[iV i,.bool y])∧Vw.Cut l n i∧(y=true↔ ∃a,l[i]?=some a∧a.name=n)
theorem b2J(t:ByteArray)(vs:Value)(l:List Vw.Acc)(w:World)(h:bG w vs l)(hs:Vw.lU l)(hn:l.length≤150):
  Calls prog 129 #[vs,.string t,.func (.func 130) #[] #[]] w fun e w'=>b1A e l (nb t)∧Bl w w':=by
 have eg:=Tryz.enters_cmpA;have Ab:=hd8 hs;obtain⟨A,C,rfl,_,_,ha⟩:=h;clear hs;go_enter func129,ntmps129
 go_wp2_with fail;go_loopw [9,10] (fun x y wr=> ∃i j:Nat,i≤j∧j≤l.length∧x=iV i∧y=iV j∧Hid (∀k a,k<i→l[k]?=some a→Vw.lt a.name (nb t)=true)∧Hid (∀k a,j≤k→l[k]?=some a→Vw.lt a.name (nb t)=false)∧Bl w wr) (fun x y _=>(intOf y).toNat-(intOf x).toNat)
 case atStart=>exact⟨0,l.length,c9D _,c9C _,rfl,rfl,fun k a hk=>absurd hk (c9L k),fun k a hk ha=>absurd (c9H.1 ha).1 (by omega),Below.refl _ _⟩
 case round=>
  obtain⟨i,j,Af,A8,rfl,rfl,A5,A4,hb⟩:=hrel;by_cases Ag:i<j
  ·have Ac:(i:Int)<(j:Int):=by omega
   obtain⟨q,hq⟩: ∃q,q=(i+j)/2:=⟨_,rfl⟩;have Ad:i≤q:=by omega
   have Ah:q<j:=by omega
   obtain⟨a,A0⟩: ∃a,l[q]?=some a:=⟨l[q],c9F (by omega)⟩;obtain⟨b,o,rfl,A1⟩:=ha q a A0;obtain⟨s,Ae,A2,d0,d1,d2,d3⟩:=A1.bE hb;have HK:Hid (l[q]?=some a):=A0;have HC:=a5Y s t a.sum a.cnt a.opn wr;rw[A2]at HC;have A3:Hid (oC a.name (nb t)<0↔Vw.lt a.name (nb t)=true):=b9Q;have HR:=b0L a.name (nb t);generalize oC a.name (nb t)=c at HC A3 HR;have HQ:Hid (q=(i+j)/2):=hq;rw[hq]at d0 d1 d2 d3;clear ha A0 A2 A1 hq;by_cases hc:c<0
   ·have A6:=hd8 (A3.out.1 hc);go_wp2_with fail;refine HC.mono ?_;rintro e w1 ⟨rfl,b1⟩;clear HC;go_wp2_with fail;refine⟨⟨q+1,j,by omega,A8,cB (by have:=HQ.out;omega),rfl,fun k x hk hx=>?_,A4.out,bt hb b1⟩,?_⟩
    ·exact Vw.a1A Ab.out hx HK.out (by omega) A6.out
    ·have:=HQ.out;simp[intOf];omega
   ·have A6:Hid (Vw.lt a.name (nb t)=false):=by
     cases h:Vw.lt a.name (nb t)with
     |false=>rfl
     |true=>exact absurd (A3.out.2 h) hc
    go_wp2_with fail;refine HC.mono ?_;rintro e w1 ⟨rfl,b1⟩;clear HC;go_wp2_with fail;refine⟨⟨i,q,Ad,by omega,rfl,cB (by have:=HQ.out;omega),A5.out,fun k x hk hx=>?_,bt hb b1⟩,?_⟩
    ·cases h:Vw.lt x.name (nb t)with
     |false=>rfl
     |true=>
      have:=Vw.a1A Ab.out HK.out hx hk h;rw[A6.out]at this;cases this
    ·have:=HQ.out;simp[intOf];omega
  ·obtain rfl:i=j:=by omega
   by_cases A1:i<l.length
   ·have A7:(i:Int)<(l.length:Int):=by omega
    obtain⟨a,A0⟩: ∃a,l[i]?=some a:=⟨l[i],c9F A1⟩;obtain⟨b,o,rfl,A1⟩:=ha i a A0;obtain⟨s,Ae,A2,d0,d1,d2,d3⟩:=A1.bE hb;have HC:=a5Y s t a.sum a.cnt a.opn wr;rw[A2]at HC
    have HF:Hid (∀c:Int,c=oC a.name (nb t)→b1A (.returned (.tuple #[iV i,.bool (c==0)])) l (nb t)):=fun c hc=>⟨i,c==0,rfl,⟨A8,A5.out,A4.out⟩,by
     rw[beq_iff_eq,hc,a1I];refine⟨fun e=>⟨a,A0,e⟩,fun⟨x,hx,e⟩=>?_⟩;rw[A0]at hx;cases hx
     exact e⟩
    have A9:=HF.out _ rfl;have Aa:=hd8 A9;clear ha A0 A2 A1 HF A9;generalize oC a.name (nb t)=c at HC Aa;go_wp2_with fail;refine HC.mono ?_;rintro e w1 ⟨rfl,b1⟩;clear HC;go_wp2_with fail;go_ret2
    exact⟨Aa.out,bt hb b1⟩
   ·have A7: ¬(i:Int)<(l.length:Int):=by omega
    have HF:Hid (b1A (.returned (.tuple #[iV i,.bool false])) l (nb t)):=⟨i,false,rfl,⟨A8,A5.out,A4.out⟩,⟨fun e=>absurd e (by decide),fun⟨x,hx,_⟩=>absurd (c9H.1 hx).1 A1⟩⟩;clear ha;go_wp2_with fail;go_ret2
    exact⟨HF.out,hb⟩
theorem b2M{w:World}{v:Value}{l:List Vw.Acc}(h:bG w v l):
  ∃es:List AcC,es.map gG=l∧(∀e,e∈es→e.1.size≤9223372036854775807)∧ ∀A C,v=.slice (some A) l.length C→ ∀j u,(es.flatMap aP)[j]?=some u→w.cell? (A.add j)=some u:=by
 by_cases h0:1≤l.length
 ·obtain⟨b,o,C,rfl,_,_,hc⟩:=h.some h0;have A0: ∀i,i<l.length→ ∃q:AcC,∀x,l[i]?=some x→gG q=x∧q.1.size≤9223372036854775807∧w.cell? (aD b (o+i*4))=some (.string q.1)∧w.cell? (aD b (o+i*4+1))=some (iV q.2.1)∧w.cell? (aD b (o+i*4+2))=some (iV q.2.2.1)∧w.cell? (aD b (o+i*4+3))=some (.bool q.2.2.2):=by
   intro i hi;obtain⟨s,h1,h2,c0,c1,c2,c3⟩:=hc i l[i] (c9F hi);refine⟨(s,l[i].sum,l[i].cnt,l[i].opn),fun x hx=>?_⟩;rw[c9F hi,Option.some.injEq]at hx;subst hx;refine⟨?_,h1,c0,c1,c2,c3⟩;show(⟨nb s,_,_,_⟩:Vw.Acc)=_;rw[h2]
  obtain⟨q,hq⟩:=Deep.choose_lt (α:=AcC) A0;have hL: ∀i,i<l.length→((List.range l.length).map q)[i]?=some (q i):=fun i hi=>by simp[hi]
  refine⟨(List.range l.length).map q,?_,fun e he=>?_,fun A C' hv j u hj=>?_⟩
  ·apply d1I;intro i;by_cases hi:i<l.length
   ·rw[c9S,hL i hi,c9F hi,Option.map_some,(hq i hi l[i] (c9F hi)).1]
   ·rw[c9Z (by simpa using hi),c9Z (by omega)]
  ·obtain⟨i,hi,rfl⟩:=d0G.1 he;have hi:=d0D.1 hi;exact(hq i hi l[i] (c9F hi)).2.1
  ·cases hv
   have A1:(((List.range l.length).map q).flatMap aP).length=l.length*4:=by
    rw[fX aP 4 _ (fun _ _=>rfl)];simp
   have A2:j<l.length*4:=by
    have:=(c9H.1 hj).1;omega
   have hi:j/4<l.length:=by omega
   have hf:=dQ aP 4 ((List.range l.length).map q) (fun _ _=>rfl) (j/4) (j%4) (by omega) (q (j/4)) (hL _ hi);rw[show j/4*4+j%4=j by omega,hj]at hf;obtain⟨_,_,c0,c1,c2,c3⟩:=hq (j/4) hi l[j/4] (c9F hi);rw[WideShapes.add_plain];rcases(show j%4=0∨j%4=1∨j%4=2∨j%4=3 by omega)with e|e|e|e
   ·rw[e]at hf;cases hf
    rw[show o+j=o+j/4*4 by omega];exact c0
   ·rw[e]at hf;cases hf
    rw[show o+j=o+j/4*4+1 by omega];exact c1
   ·rw[e]at hf;cases hf
    rw[show o+j=o+j/4*4+2 by omega];exact c2
   ·rw[e]at hf;cases hf
    rw[show o+j=o+j/4*4+3 by omega];exact c3
 ·obtain rfl:l=[]:=d0N (by omega);exact⟨[],rfl,fun e he=>(by cases he),fun A C _ j u hj=>(by cases hj)⟩
theorem tW(es:List AcC): ∀u∈es.flatMap aP,u.oneCell'=true:=fun u hu=>by
 obtain⟨x,_,hx⟩:=d2H.1 hu
 simp only[aP,List.mem_cons,List.not_mem_nil,or_false]at hx
 rcases hx with rfl|rfl|rfl|rfl<;>rfl
theorem uC(es:List AcC):(es.flatMap aP).length=es.length*4:=fX aP 4 _ (fun _ _=>rfl)
theorem b4J(w:World)(N:Nat)(v:Value)(es0 es:List AcC)(h0:eV w N v es0)(hN:N≤w.heap.size)(a:Addr)(C:Nat)(hc: ∀j u,(es.flatMap aP)[j]?=some u→w.cell? (a.add j)=some u)(hz: ∀e,e∈es→e.1.size≤9223372036854775807)(hsz:es0.length+es.length≤4000000):
  ∃v' w',(Builtin.append_ #[28,28] 28 #[v,.slice (some a) es.length C]).run prog w=.ok v' w'∧eV w' N v' (es0++es)∧Below N w w'∧(v'=nS↔v=nS∧es.length=0):=by
 obtain⟨i4,A3,A2⟩:=c9J.1 Tryz.infoAccount;simp only[Prod.mk.injEq]at A2;obtain⟨A4,A5,A6⟩:=A2;obtain⟨v',w',A1,ho,hg,A0⟩:=run_append_own (P:=prog) w N 28 28 93 i4 _ 4 40 underlying28 A3 A4 A5 A6 rfl (by decide) v es0.length _ h0.1 a es.length C (es.flatMap aP) (uC es) hc (tW es) (by unfold maxLen;omega) (by omega) hN;refine⟨v',w',A1,⟨?_,fun e he=>?_⟩,(Below.refl N w).grown hg hN (fun x hx=>(h0.1.lt x hx).1),A0⟩
 ·rw[c9I,d0H];exact ho
 ·rcases List.mem_append.1 he with q|q
  ·exact h0.2 e q
  ·exact hz e q
def a9X(e:Ending)(w':World)(N:Nat)(l:List Vw.Acc):Prop:= ∃v es,e=.returned v∧es.map gG=l∧eV w' N v es
theorem xU(vs:Value)(l:List Vw.Acc)(w:World)(h:bG w vs l)(hn:l.length≤2000000):
  Calls prog 75 #[vs] w fun e w'=>a9X e w' w.heap.size l∧Bl w w':=by
 obtain⟨es,A1,A8,A3⟩:=b2M h;have A6:es.length=l.length:=by rw[←A1,c9M]
 have HE:=hd8 A1;obtain⟨A,C,rfl,_,_,A4⟩:=h;have hq:=fun w=>Lib.run_eql_slice_nil (P:=prog) w 28 93 A l.length C 0 0 underlying28;cases A with
 |none=>
  have A7:l=[]:=by
   cases l with
   |nil=>rfl
   |cons a r=>
    obtain⟨_,_,e,_⟩:=A4 0 a rfl;cases e
  have HR:Hid (a9X (.returned nS) w w.heap.size l):=⟨_,[],rfl,A7.symm,eV.nil w _⟩;clear A1 A3 A6 HE A4 A7;go_enter func75,ntmps75
  go_wp2_with fail;go_ret
  exact⟨HR.out,Below.refl _ _⟩
 |some a=>
  have A2:=aB8 w (.cells #[] 93);have h0:eV (w.alloc (.cells #[] 93)) w.heap.size (.slice (some (aD w.heap.size 0)) 0 0) []:=⟨World.ownsRow_made w #[] 0 (c9C _) (by unfold maxLen;omega) rfl,fun e he=>(by cases he)⟩
  obtain⟨v',w',A0,hB,A5,_⟩:=b4J (w.alloc (.cells #[] 93)) w.heap.size _ [] es h0 A2.size a C (fun j u hj=>by
   have h1:=A3 a C rfl j u hj
   exact(A2.cell (World.block_lt_of_cell? _ _ h1)).trans h1) A8 (by simp;omega)
  rw[A6]at A0;have HR:Hid (a9X (.returned v') w' w.heap.size l):=⟨v',es,rfl,HE.out,by rw[d1C]at hB;exact hB⟩;have HB:=hd8 (A2.trans A5);clear A1 A3 hB A5 h0 A4;go_enter func75,ntmps75
  go_wp2_with (at_builtin;refine Lib.wpList_append_run _ rfl (.tmp 5) (.tmp 6) 28 28 rfl _ _ rfl rfl _ _ A0 ?_);go_ret
  exact⟨HR.out,HB.out⟩
end Go.Proofs.YtmcaejooaaahdaaGreat
