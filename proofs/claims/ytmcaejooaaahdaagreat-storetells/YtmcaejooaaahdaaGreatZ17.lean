import Derived.Test.YtmcaejooaaahdaaGreatZ13
set_option maxHeartbeats 8000000
set_option maxRecDepth 100000
namespace Go.Proofs.YtmcaejooaaahdaaGreat
open Go.Proofs.Tryz
variable {B cap g i n:Nat} {w:World}
open Go.RowKit
theorem tI{α β:Type}(f:α→List β)(m:Nat): ∀(l:List α) (i t:Nat) (a a':α) (u:β),(∀a,a∈l→(f a).length=m)→t<m→l[i]?=some a→f a'=(f a).set t u→(l.flatMap f).set (i*m+t) u=(l.set i a').flatMap f
 |[],i,t,a,a',u,_,_,h,_=>by cases h
 |x::l,0,t,a,a',u,hm,ht,h,hf=>by
  cases h
  rw[d0K,List.set_cons_zero,d0K,Nat.zero_mul,c9G,List.set_append_left _ _ (by rw[hm x c9W];exact ht),hf]
 |x::l,i+1,t,a,a',u,hm,ht,h,hf=>by
  have hx:=hm x c9W
  rw[d0K,List.set_cons_succ,d0K,List.set_append_right _ _ (by rw[hx,d0F];omega),hx,show(i+1)*m+t-m=i*m+t by rw[d0F];omega,tI f m l i t a a' u (fun a ha=>hm a (c9Y _ ha)) ht (by simpa using h) hf]
theorem eV.store{es:List AcC}(h:eV w B (.slice (some (aD g 0)) n cap) es)(hn:n=es.length){q:AcC}(hi:es[i]?=some q)(t:Nat)(ht:t<4)(u:Value)(q':AcC)(hq:aP q'=(aP q).set t u)(hs:q'.1.size≤9223372036854775807):
  eV (w.setCell (aD g (i*4+t)) u) B (.slice (some (aD g 0)) n cap) (es.set i q')∧Below B w (w.setCell (aD g (i*4+t)) u):=by
 subst hn;have hB:=(h.1.lt g rfl).1;obtain⟨h1,_⟩:=h.1.stored (i*4+t) u;refine⟨⟨?_,fun e he=>?_⟩,(Below.refl B w).setCell hB u⟩
 ·rw[d0B,←tI aP 4 es i t q q' u (fun _ _=>rfl) ht hi hq];exact h1
 ·rcases List.mem_or_eq_of_mem_set he with k|rfl
  ·exact h.2 e k
  ·exact hs
theorem eV.at{es:List AcC}(h:eV w B (.slice (some (aD g 0)) n cap) es){q:AcC}(hi:es[i]?=some q):
  w.cell? (aD g (i*4))=some (.string q.1)∧w.cell? (aD g (i*4+1))=some (iV q.2.1)∧w.cell? (aD g (i*4+2))=some (iV q.2.2.1)∧w.cell? (aD g (i*4+3))=some (.bool q.2.2.2)∧ ∀j,w.frozen? (aD g j)=false:=by
 have hc: ∀j u,(es.flatMap aP)[j]?=some u→w.cell? (aD g j)=some u:=fun j u hj=>by
  have:=h.1.cells (g:=g) rfl j u hj;rw[WideShapes.add_plain,c9G]at this;exact this
 have hf:=fun t ht=>dQ aP 4 es (fun _ _=>rfl) i t ht q hi;exact⟨hc _ _ (hf 0 (by decide)),hc _ _ (hf 1 (by decide)),hc _ _ (hf 2 (by decide)),hc _ _ (hf 3 (by decide)),lB h.1 rfl⟩
def a7S(q:AcC)(k m:Int):AcC:=(q.1,if k=2 then q.2.1+m else if k=3 then q.2.1-m else q.2.1,q.2.2.1+1,if k=1 then true else if k=4 then false else q.2.2.2)
theorem b3C(q:AcC)(n:List Nat)(k m:Int):gG (a7S q k m)=Vw.chg (gG q) ⟨n,k,m⟩:=rfl
def ChgO(e:Ending)(w w':World)(B:Nat)(v:Value)(es:List AcC):Prop:=e=.returned (.tuple #[])∧eV w' B v es∧Below B w w'
theorem Tryz.enters_chg: ∀args w,(callFunc 133 args).run Tryz.prog w=.ok (.enter 133 args) w:=enters_of Tryz.func133 (by kernel_rfl) rfl
theorem b3V(B g n cap i p:Nat)(es:List AcC)(q:AcC)(k m:Int)(w:World)(h:eV w B (.slice (some (aD g 0)) n cap) es)(hn:n=es.length)(hi:es[i]?=some q)(hpB:p<B)
  (e1:w.cell? (aD p 1)=some (iV k)) (e2:w.cell? (aD p 2)=some (iV m)) (hk1:1≤k) (hk4:k≤4) (hm0:0≤m) (hm1:m≤1000000)
  (hc0:0≤q.2.2.1) (hc1:q.2.2.1≤150) (hs0: -150000000≤q.2.1) (hs1:q.2.1≤150000000):
  Calls prog 133 #[.pointer (some (aD g (i*4))),.pointer (some (aD p 0))] w fun e w'=>ChgO e w w' B (.slice (some (aD g 0)) n cap) (es.set i (a7S q k m)):=by
 obtain⟨s0,S,c,b⟩:=q;have A3:=h.2 _ (c9N hi);have hB:=(h.1.lt g rfl).1;have A5:p≠g:=by omega
 obtain⟨d0,d1,d2,d3,fr⟩:=h.at hi;have f1:=fr (i*4+1);have f2:=fr (i*4+2);have f3:=fr (i*4+3);obtain⟨A1,b1⟩:=h.store hn hi 2 (by decide) (iV (c+1)) (s0,S,c+1,b) rfl A3;have A4:i<es.length:=(c9H.1 hi).1;have A0:(es.set i (s0,S,c+1,b))[i]?=some (s0,S,c+1,b):=by simp[A4]
 have hc0:0≤c:=hc0;have hc1:c≤150:=hc1;have hs0: -150000000≤S:=hs0;have hs1:S≤150000000:=hs1;have hw:wrap64 (c+1)=c+1:=by
  unfold wrap64;omega
 have A6:wrap64 (S+m)=S+m:=by
  unfold wrap64;omega
 have A7:wrap64 (S-m)=S-m:=by
  unfold wrap64;omega
 rcases(show k=1∨k=2∨k=3∨k=4 by omega)with rfl|rfl|rfl|rfl
 ·obtain⟨A2,b2⟩:=eV.store A1 (by rw[d0B];exact hn) A0 3 (by decide) (.bool true) (s0,S,c+1,true) rfl A3;rw[List.set_set]at A2;have HA:Hid (eV ((w.setCell (aD g (i*4+2)) (iV (c+1))).setCell (aD g (i*4+3)) (.bool true)) B (.slice (some (aD g 0)) n cap) (es.set i (a7S (s0,S,c,b) 1 m))∧Below B w ((w.setCell (aD g (i*4+2)) (iV (c+1))).setCell (aD g (i*4+3)) (.bool true))):=⟨A2,b1.trans b2⟩;clear h hi A1 A2 b1 b2 A0 hn fr;go_enter func133,ntmps133
  go_wp2_with fail;go_end0
  exact⟨rfl,HA.out.1,HA.out.2⟩
 ·obtain⟨A2,b2⟩:=eV.store (show eV (w.setCell (aD g (i*4+2)) (iV (c+1))).drew B (.slice (some (aD g 0)) n cap) _ from A1) (by rw[d0B];exact hn) A0 1 (by decide) (iV (S+m)) (s0,S+m,c+1,b) rfl A3;rw[List.set_set]at A2;have HA:Hid (eV ((w.setCell (aD g (i*4+2)) (iV (c+1))).drew.setCell (aD g (i*4+1)) (iV (S+m))) B (.slice (some (aD g 0)) n cap) (es.set i (a7S (s0,S,c,b) 2 m))∧Below B w ((w.setCell (aD g (i*4+2)) (iV (c+1))).drew.setCell (aD g (i*4+1)) (iV (S+m)))):=⟨A2,(show Below B w (w.setCell (aD g (i*4+2)) (iV (c+1))).drew from⟨b1.os,b1.tape,b1.output,b1.size,b1.block⟩).trans b2⟩;clear h hi A1 A2 b1 b2 A0 hn fr;go_enter func133,ntmps133
  go_wp2_with fail;go_region
  go_wp2_with fail;go_end0
  exact⟨rfl,HA.out.1,HA.out.2⟩
 ·obtain⟨A2,b2⟩:=eV.store (show eV (w.setCell (aD g (i*4+2)) (iV (c+1))).drew B (.slice (some (aD g 0)) n cap) _ from A1) (by rw[d0B];exact hn) A0 1 (by decide) (iV (S-m)) (s0,S-m,c+1,b) rfl A3;rw[List.set_set]at A2;have HA:Hid (eV ((w.setCell (aD g (i*4+2)) (iV (c+1))).drew.setCell (aD g (i*4+1)) (iV (S-m))) B (.slice (some (aD g 0)) n cap) (es.set i (a7S (s0,S,c,b) 3 m))∧Below B w ((w.setCell (aD g (i*4+2)) (iV (c+1))).drew.setCell (aD g (i*4+1)) (iV (S-m)))):=⟨A2,(show Below B w (w.setCell (aD g (i*4+2)) (iV (c+1))).drew from⟨b1.os,b1.tape,b1.output,b1.size,b1.block⟩).trans b2⟩;clear h hi A1 A2 b1 b2 A0 hn fr;go_enter func133,ntmps133
  go_wp2_with fail;go_region
  go_wp2_with fail;go_end0
  exact⟨rfl,HA.out.1,HA.out.2⟩
 ·obtain⟨A2,b2⟩:=eV.store A1 (by rw[d0B];exact hn) A0 3 (by decide) (.bool false) (s0,S,c+1,false) rfl A3;rw[List.set_set]at A2;have HA:Hid (eV ((w.setCell (aD g (i*4+2)) (iV (c+1))).setCell (aD g (i*4+3)) (.bool false)) B (.slice (some (aD g 0)) n cap) (es.set i (a7S (s0,S,c,b) 4 m))∧Below B w ((w.setCell (aD g (i*4+2)) (iV (c+1))).setCell (aD g (i*4+3)) (.bool false))):=⟨A2,b1.trans b2⟩;clear h hi A1 A2 b1 b2 A0 hn fr;go_enter func133,ntmps133
  go_wp2_with fail;go_end0
  exact⟨rfl,HA.out.1,HA.out.2⟩
def PutO(e:Ending)(w':World)(N:Nat)(l:List Vw.Acc):Prop:= ∃v es,e=.returned v∧es.map gG=l∧eV w' N v es
theorem a7H(u:Int)(t s:ByteArray)(k m:Int)(p:Nat)(vs:Value)(l:List Vw.Acc)(w:World)(h:bG w vs l)(hr:Vw.iS u l)(ht:t.size≤9223372036854775807)
  (e0:w.cell? (aD p 0)=some (.string s)) (e1:w.cell? (aD p 1)=some (iV k)) (e2:w.cell? (aD p 2)=some (iV m)) (hk1:1≤k) (hk4:k≤4) (hm0:0≤m) (hm1:m≤1000000):
  Calls prog 105 #[vs,.string t,.func (.func 133) #[] #[.pointer (some (aD p 0))]] w fun e w'=>PutO e w' w.heap.size (Vw.put l ⟨nb t,k,m⟩)∧Bl w w':=by
 have eg:=Tryz.enters_chg;have Au:=hr.len;have A5:p<w.heap.size:=World.block_lt_of_cell? _ _ e0;have H1:=b2J t vs l w h hr.srt hr.len;have HR:=hd8 hr;clear hr;go_enter func105,ntmps105
 go_wp2_with fail;refine H1.mono ?_;rintro e w1 ⟨⟨i,y,rfl,Ab,Ai⟩,b1⟩;have At:i≤l.length:=Ab.1;have HC:=hd8 Ab;have HY:=hd8 Ai;clear Ab Ai;have H2:=xU vs l w1 (h.bE b1) (by omega);clear H1;go_wp2_with fail;refine H2.mono ?_;rintro e w2 ⟨⟨v2,es,rfl,Ae,Aa⟩,b2⟩;have A6:=bt b1 b2;have A3:eV w2 w.heap.size v2 es:=⟨⟨Aa.1.1,Aa.1.2.imp id (fun⟨g,A7,cur,q1,q2,q3⟩=>⟨g,A7,cur,q1,c9E b1.size q2,q3⟩)⟩,Aa.2⟩;have A2:es.length=l.length:=by rw[←Ae,c9M]
 have HE:=hd8 Ae;have Ah:=hd8 A2;clear H2 Ae A2 Aa;cases y with
 |true=>
  have A2:=Ah.out;obtain⟨a,A4,Ak⟩:=HY.out.1 rfl;have A9:i<es.length:=by
   rw[A2];exact(c9H.1 A4).1
  obtain⟨q,hq⟩: ∃q,es[i]?=some q:=⟨es[i],c9F A9⟩;have Ag:gG q=a:=by
   have:=HE.out;rw[←this,c9S,hq]at A4;exact Option.some.inj A4
  obtain⟨r1,r2,r3,r4⟩:0≤q.2.2.1∧q.2.2.1≤150∧ -150000000≤q.2.1∧q.2.1≤150000000:=by
   obtain⟨_,r1,r2,r3,r4⟩:=Vw.fK (HR.out.acc a (c9N A4));have ru:=HR.out.hi;rw[←Ag]at r1 r2 r3 r4;have r1:1≤q.2.2.1:=r1;have r2:q.2.2.1≤u:=r2;have r3:q.2.1≤1000000*q.2.2.1:=r3;have r4: -(1000000*q.2.2.1)≤q.2.1:=r4;omega
  have HP:Hid ((es.set i (a7S q k m)).map gG=Vw.put l ⟨nb t,k,m⟩):=by
   show _=_;rw[Vw.a2Z (e:=⟨nb t,k,m⟩) HC.out A4 Ak,List.map_set,HE.out,b3C q (nb t) k m,Ag]
  obtain⟨g,A7,As,An,Ao,Ad,Aq,Ap⟩:=dC A3.1 (by omega);subst As;unfold maxLen at Ad;clear Ap;have H3:=b3V w.heap.size g es.length A7 i p es q k m w2 A3 rfl hq A5 ((A6.cell (p:=⟨p,1,none⟩) A5).trans e1) ((A6.cell (p:=⟨p,2,none⟩) A5).trans e2) hk1 hk4 hm0 hm1 r1 r2 r3 r4;have Af:(i:Int)<(es.length:Int):=by omega
  clear A2 A9 A3 hq Ag A4 Ak r1 r2 r3 r4;go_wp2_with fail;refine H3.mono ?_;rintro e w3 ⟨rfl,A8,b3⟩;clear H3;go_wp2_with fail;go_ret
  exact⟨⟨_,_,rfl,HP.out,A8⟩,A6.trans b3⟩
 |false=>
  have HN:Hid (∀a,l[i]?=some a→a.name≠nb t):=fun a ha e=>absurd (HY.out.2 ⟨a,ha,e⟩) (by decide);have Aj:c0I (w2.alloc (.cells #[.string t,iV 0,iV 0,.bool false] 93)) w2.heap.size (t,0,0,false):=heap_alloc_new w2 _;have Ac:=aB8 w2 (.cells #[.string t,iV 0,iV 0,.bool false] 93);have A2:=Ah.out
  have H3:=b0U w.heap.size i w2.heap.size v2 es (t,0,0,false) _ (A3.bE Ac) (c9E A6.size Ac.size) (by omega) (by omega) Aj (fun e=>by
   have:=(A3.1.lt _ e).2
   omega) ht
  have Al:=bt A6 Ac;obtain⟨A1,A0⟩: ∃A1,A1=es.take i++((t,0,0,false):AcC)::es.drop i:=⟨_,rfl⟩;rw[←A0]at H3;have Af:i<A1.length:=by
   rw[A0];simp;omega
  have hq:A1[i]?=some (t,0,0,false):=by
   rw[A0,d0S (by rw[c9K];omega),c9K,show i-min i es.length=0 by omega];rfl
  have HP:Hid ((A1.set i (a7S (t,0,0,false) k m)).map gG=Vw.put l ⟨nb t,k,m⟩):=by
   show _=_;rw[Vw.b3N (e:=⟨nb t,k,m⟩) HC.out HN.out,A0,List.set_append_right _ _ (by rw[c9K];omega),c9K,show i-min i es.length=0 by omega,List.set_cons_zero,c9U,d1R,List.map_take,List.map_drop,HE.out,b3C _ (nb t) k m];rfl
  clear Aj A3 A2 A0;go_wp2_with fail;refine H3.mono ?_;rintro e w3 ⟨⟨v3,rfl,A8⟩,b3⟩;have b3:=Al.trans b3;obtain⟨g,A7,rfl,An,Ao,Ad,Aq,_⟩:=dC A8.1 (by omega);unfold maxLen at Ad;have H4:=b3V w.heap.size g A1.length A7 i p A1 (t,0,0,false) k m w3 A8 rfl hq A5 ((b3.cell (p:=⟨p,1,none⟩) A5).trans e1) ((b3.cell (p:=⟨p,2,none⟩) A5).trans e2) hk1 hk4 hm0 hm1 (d1Q 0) (by show(0:Int)≤150;omega) (by show -150000000≤(0:Int);omega) (by show(0:Int)≤150000000;omega);have Ar:(i:Int)<(A1.length:Int):=by omega
  clear H3 A8 hq;go_wp2_with fail;refine H4.mono ?_;rintro e w4 ⟨rfl,Am,b4⟩;clear H4;go_wp2_with fail;go_ret
  exact⟨⟨_,_,rfl,HP.out,Am⟩,b3.trans b4⟩
end Go.Proofs.YtmcaejooaaahdaaGreat
