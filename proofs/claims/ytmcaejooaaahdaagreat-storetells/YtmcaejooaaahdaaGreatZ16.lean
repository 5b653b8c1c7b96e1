import Derived.Test.YtmcaejooaaahdaaGreatZ15
set_option maxHeartbeats 8000000
set_option maxRecDepth 100000
namespace Go.Proofs.YtmcaejooaaahdaaGreat
open Go.Proofs.Tryz
variable {v:Value} {w:World}
open Go.RowKit
def kZ(l:List Int)(x:Int)(i:Nat):Prop:=i≤l.length∧(∀k a,k<i→l[k]?=some a→a<x)∧ ∀k a,i≤k→l[k]?=some a→x≤a
abbrev UpI(l:List Int):Prop:=l.Pairwise (· <·)
theorem a3S{l:List Int}(h:UpI l){i j:Nat}{a b:Int}(hi:l[i]?=some a)(hj:l[j]?=some b)(hij:i≤j):a≤b:=by
 by_cases e:i=j
 ·subst e;rw[hi]at hj;cases hj
  exact d1Q _
 ·obtain⟨h1,rfl⟩:=c9H.1 hi;obtain⟨h2,rfl⟩:=c9H.1 hj;exact Int.le_of_lt (d2Y.1 h i j h1 h2 (by omega))
def oK(e:Ending)(l:List Int)(x:Int):Prop:= ∃(i:Nat) (y:Bool),e=.returned (.tuple #[iV i,.bool y])∧kZ l x i∧(y=true↔l[i]?=some x)
theorem zJ(s:Int)(w:World):Calls prog 102 #[iV s] w fun e w'=>e=.returned (.bool false)∧w'=w:=by
 go_enter func102,ntmps102
 go_wp2_with fail;go_ret
 exact⟨by simp,rfl⟩
def lT(a b:Int):Int:=if a<b then -1 else if b<a then 1 else 0
theorem c0Q{a b:Int}:lT a b<0↔a<b:=by
 unfold lT;by_cases h:a<b
 ·rw[if_pos h];simp[h]
 ·rw[if_neg h];by_cases e:b<a
  ·rw[if_pos e];simp[h]
  ·rw[if_neg e];simp[h]
theorem b8G{a b:Int}:lT a b=0↔a=b:=by
 unfold lT;by_cases h:a<b
 ·rw[if_pos h];constructor
  ·intro q;omega
  ·intro q;omega
 ·rw[if_neg h];by_cases e:b<a
  ·rw[if_pos e];constructor
   ·intro q;omega
   ·intro q;omega
  ·rw[if_neg e];constructor
   ·intro q;omega
   ·intro q;rfl
theorem b2H(a b:Int): -1≤lT a b∧lT a b≤1:=by
 unfold lT;split
 ·omega
 ·split
  ·omega
  ·omega
theorem a5M(a b:Int)(w:World):Calls prog 89 #[iV a,iV b] w fun e w'=>e=.returned (iV (lT a b))∧w'=w:=by
 have H1:=zJ a w;have H2:=zJ b w;by_cases q:a<b
 ·have H:Hid (lT a b= -1):=if_pos q;go_enter func89,ntmps89
  go_wp2_with fail;refine H1.mono ?_;rintro e w1 ⟨rfl,rfl⟩;clear H1;go_wp2_with fail;refine H2.mono ?_;rintro e w1 ⟨rfl,rfl⟩;clear H2;go_wp2_with fail;go_ret
  exact⟨by rw[H.out];rfl,rfl⟩
 ·by_cases r:b<a
  ·have H:Hid (lT a b=1):=by
    show lT a b=1;unfold lT;rw[if_neg q,if_pos r]
   go_enter func89,ntmps89
   go_wp2_with fail;refine H1.mono ?_;rintro e w1 ⟨rfl,rfl⟩;clear H1;go_wp2_with fail;refine H2.mono ?_;rintro e w1 ⟨rfl,rfl⟩;clear H2;go_wp2_with fail;go_ret
   exact⟨by rw[H.out];rfl,rfl⟩
  ·have H:Hid (lT a b=0):=by
    show lT a b=0;unfold lT;rw[if_neg q,if_neg r]
   go_enter func89,ntmps89
   go_wp2_with fail;refine H1.mono ?_;rintro e w1 ⟨rfl,rfl⟩;clear H1;go_wp2_with fail;refine H2.mono ?_;rintro e w1 ⟨rfl,rfl⟩;clear H2;go_wp2_with fail;go_ret
   exact⟨by rw[H.out];rfl,rfl⟩
theorem a7V(a b:Int)(q:Value)(w:World):Calls prog 88 #[.agg #[iV a,q],iV b] w fun e w'=>e=.returned (iV (lT a b))∧Bl w w':=by
 have A0:=aB8 w (.cells #[iV a,q] 61);have V:=aO w 61 (iV a) q;obtain⟨c0,_,_⟩:=V;have H:=a5M a b (w.alloc (.cells #[iV a,q] 61));go_enter func88,ntmps88
 go_wp2_with fail;refine H.mono ?_;rintro e w1 ⟨rfl,rfl⟩;clear H;go_wp2_with fail;go_ret
 exact⟨rfl,A0⟩
theorem Tryz.enters_cmpH: ∀args w,(callFunc 88 args).run Tryz.prog w=.ok (.enter 88 args) w:=enters_of Tryz.func88 (by kernel_rfl) rfl
def a8A(w:World)(v:Value)(hs:List HeC):Prop:= ∃A cap,v=.slice A hs.length cap∧hs.length≤cap∧cap≤maxLen∧ ∀(i:Nat) (x:HeC),hs[i]?=some x→ ∃b o,A=some (aD b o)∧w.cell? (aD b (o+i*2))=some (iV x.1)∧w.cell? (aD b (o+i*2+1))=some (slV x.2.1)
theorem a8A.bE{w':World}{hs:List HeC}(h:a8A w v hs)(hb:Bl w w'):a8A w' v hs:=by
 obtain⟨A,A0,hv,h1,h2,h3⟩:=h;refine⟨A,A0,hv,h1,h2,fun i x hx=>?_⟩;obtain⟨b,o,e,c0,c1⟩:=h3 i x hx;have hp:b<w.heap.size:=World.block_lt_of_cell? _ _ c0;exact⟨b,o,e,(hb.cell (p:=⟨b,o+i*2,none⟩) hp).trans c0,(hb.cell (p:=⟨b,o+i*2+1,none⟩) hp).trans c1⟩
theorem c3R{N:Nat}{hs:List HeC}(h:w.ownsRow N 61 2 v hs.length (hs.flatMap aJ)):a8A w v hs:=by
 by_cases hn:1≤hs.length
 ·obtain⟨g,A0,rfl,_,h1,h2,_,hc⟩:=dC h hn;refine⟨some (aD g 0),A0,rfl,h1,h2,fun i x hx=>?_⟩;have hf:=fun t ht=>dQ aJ 2 hs (fun _ _=>rfl) i t ht x hx;exact⟨g,0,rfl,by rw[c9G];exact hc _ _ (hf 0 (by decide)),by rw[c9G];exact hc _ _ (hf 1 (by decide))⟩
 ·obtain rfl:hs=[]:=d0N (by omega);rcases h.2 with⟨rfl,_⟩|⟨g,A0,A1,rfl,_,_,hc,hm,_⟩
  ·exact⟨none,0,rfl,c9C _,c9D _,fun i e he=>by cases he⟩
  ·exact⟨_,A0,rfl,hc,hm,fun i e he=>by cases he⟩
theorem a7F(t:Int)(vs:Value)(hs:List HeC)(w:World)(h:a8A w vs hs)(hup:UpI (hs.map (·.1)))(hn:hs.length≤100000):
  Calls prog 87 #[vs,iV t,.func (.func 88) #[] #[]] w fun e w'=>oK e (hs.map (·.1)) t∧Bl w w':=by
 have eg:=Tryz.enters_cmpH;have Aa:=hd8 hup;obtain⟨A,C,rfl,_,_,ha⟩:=h;have HK:Hid (∀(i:Nat) (x:HeC),hs[i]?=some x→(hs.map (·.1))[i]?=some x.1):=fun i x hx=>by
  show(hs.map (·.1))[i]?=some x.1
  rw[c9S,hx];rfl
 have A1:Hid ((hs.map (·.1)).length=hs.length):=c9M ..
 clear hup;go_enter func87,ntmps87
 go_wp2_with fail;go_loopw [9,10] (fun x y wr=> ∃i j:Nat,i≤j∧j≤hs.length∧x=iV i∧y=iV j∧Hid (∀k a,k<i→(hs.map (·.1))[k]?=some a→a<t)∧Hid (∀k a,j≤k→(hs.map (·.1))[k]?=some a→t≤a)∧Bl w wr) (fun x y _=>(intOf y).toNat-(intOf x).toNat)
 case atStart=>exact⟨0,hs.length,c9D _,c9C _,rfl,rfl,fun k a hk=>absurd hk (c9L k),fun k a hk ha=>absurd (c9H.1 ha).1 (by rw[A1.out];omega),Below.refl _ _⟩
 case round=>
  obtain⟨i,j,Ae,A7,rfl,rfl,A4,A3,hb⟩:=hrel;by_cases Af:i<j
  ·have Ac:(i:Int)<(j:Int):=by omega
   obtain⟨q,hq⟩: ∃q,q=(i+j)/2:=⟨_,rfl⟩;have Ad:i≤q:=by omega
   have Ag:q<j:=by omega
   obtain⟨a,A0⟩: ∃a,hs[q]?=some a:=⟨hs[q],c9F (by omega)⟩;obtain⟨b,o,rfl,d0,d1⟩:=ha q a A0;have hp:b<w.heap.size:=World.block_lt_of_cell? _ _ d0;have d0:=(hb.cell (p:=⟨b,o+q*2,none⟩) hp).trans d0;have d1:=(hb.cell (p:=⟨b,o+q*2+1,none⟩) hp).trans d1;have A8:=hd8 (HK.out q a A0);have HC:=a7V a.1 t (slV a.2.1) wr;have A2:Hid (lT a.1 t<0↔a.1<t):=c0Q;have HR:=b2H a.1 t;generalize lT a.1 t=c at HC A2 HR;have HQ:=hd8 hq;rw[hq]at d0 d1;obtain⟨z,hz⟩: ∃z:Value,z=slV a.2.1:=⟨_,rfl⟩;rw[←hz]at d1 HC;clear ha A0 hq hp hz;by_cases hc:c<0
   ·have A5:=hd8 (A2.out.1 hc);go_wp2_with fail;refine HC.mono ?_;rintro e w1 ⟨rfl,b1⟩;clear HC;go_wp2_with fail;refine⟨⟨q+1,j,by omega,A7,cB (by have:=HQ.out;omega),rfl,fun k x hk hx=>?_,A3.out,bt hb b1⟩,?_⟩
    ·exact Int.lt_of_le_of_lt (a3S Aa.out hx A8.out (by omega)) A5.out
    ·have:=HQ.out;simp[intOf];omega
   ·have A5:=hd8 (Int.not_lt.1 fun z=>hc (A2.out.2 z));go_wp2_with fail;refine HC.mono ?_;rintro e w1 ⟨rfl,b1⟩;clear HC;go_wp2_with fail;refine⟨⟨i,q,Ad,by omega,rfl,cB (by have:=HQ.out;omega),A4.out,fun k x hk hx=>?_,bt hb b1⟩,?_⟩
    ·exact Int.le_trans A5.out (a3S Aa.out A8.out hx hk)
    ·have:=HQ.out;simp[intOf];omega
  ·obtain rfl:i=j:=by omega
   by_cases Ab:i<hs.length
   ·have A6:(i:Int)<(hs.length:Int):=by omega
    obtain⟨a,A0⟩: ∃a,hs[i]?=some a:=⟨hs[i],c9F Ab⟩;obtain⟨b,o,rfl,d0,d1⟩:=ha i a A0;have hp:b<w.heap.size:=World.block_lt_of_cell? _ _ d0;have d0:=(hb.cell (p:=⟨b,o+i*2,none⟩) hp).trans d0;have d1:=(hb.cell (p:=⟨b,o+i*2+1,none⟩) hp).trans d1;have HC:=a7V a.1 t (slV a.2.1) wr
    have A9:Hid (oK (.returned (.tuple #[iV i,.bool (lT a.1 t==0)])) (hs.map (·.1)) t):=⟨i,lT a.1 t==0,rfl,⟨by rw[A1.out];exact A7,A4.out,A3.out⟩,by
     rw[beq_iff_eq,b8G,HK.out i a A0,Option.some.injEq]⟩
    obtain⟨z,hz⟩: ∃z:Value,z=slV a.2.1:=⟨_,rfl⟩;rw[←hz]at d1 HC;clear ha A0 hp hz;generalize lT a.1 t=c at HC A9;go_wp2_with fail;refine HC.mono ?_;rintro e w1 ⟨rfl,b1⟩;clear HC;go_wp2_with fail;go_ret2
    exact⟨A9.out,bt hb b1⟩
   ·have A6: ¬(i:Int)<(hs.length:Int):=by omega
    have HF:Hid (oK (.returned (.tuple #[iV i,.bool false])) (hs.map (·.1)) t):=⟨i,false,rfl,⟨by rw[A1.out];exact A7,A4.out,A3.out⟩,⟨fun e=>absurd e (by decide),fun hx=>absurd (c9H.1 hx).1 (by rw[A1.out];omega)⟩⟩
    clear ha;go_wp2_with fail;go_ret2
    exact⟨HF.out,hb⟩
theorem zN(t:Int)(vs:Value)(hs:List HeC)(w:World)(h:a8A w vs hs)(hup:UpI (hs.map (·.1)))(hn:hs.length≤100000):
  Calls prog 51 #[vs,iV t] w fun e w'=>oK e (hs.map (·.1)) t∧Bl w w':=by
 have H:=a7F t vs hs w h hup hn;clear h hup;go_enter func51,ntmps51
 go_wp2_with fail;refine H.mono ?_;rintro e w1 ⟨⟨i,y,rfl,hF⟩,b1⟩;have HF:Hid (oK (.returned (.tuple #[iV i,.bool y])) (hs.map (·.1)) t):=⟨i,y,rfl,hF⟩
 clear H hF;go_wp2_with fail;go_ret2
 exact⟨HF.out,b1⟩
end Go.Proofs.YtmcaejooaaahdaaGreat
