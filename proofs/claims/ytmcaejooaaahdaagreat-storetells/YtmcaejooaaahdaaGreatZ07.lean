import Derived.Test.YtmcaejooaaahdaaGreatZ06
import Derived.Deep.RegionLaw
import Derived.Lib.AppendStr
set_option maxHeartbeats 8000000
set_option maxRecDepth 100000
namespace Go.Proofs.YtmcaejooaaahdaaGreat
open Go.Proofs.Tryz
variable {A C M N b k m n o p x:Nat} {S:Nat→Prop} {W0 w w':World} {bs r r':List Nat} {t:TypeId} {v v':Value} {xs:List Value}
open Go.RowKit
def a1X(l:List Evt.Bat):Option (List Evt.Bat×List Nat)→Option (List Evt.Bat×List Nat)
 |none=>none
 |some (l',r)=>some (l++l',r)
def zB(l:List Evt.Ev):Option (List Evt.Ev×List Nat)→Option (List Evt.Ev×List Nat)
 |none=>none
 |some (l',r)=>some (l++l',r)
theorem b2G{b:Evt.Bat}(h:Evt.mI r=some (b,r'))(l:List Evt.Bat):a1X l (Evt.dZ (m+1) r)=a1X (l++[b]) (Evt.dZ m r'):=by
 have e:Evt.dZ (m+1) r=match Evt.dZ m r' with|none=>none|some (l,r)=>some (b::l,r):=by
  show(match Evt.mI r with|none=>none|some (e,r)=>match Evt.dZ m r with|none=>none|some (l,r)=>some (e::l,r))=_;rw[h]
 rw[e];cases Evt.dZ m r' with
 |none=>rfl
 |some p=>show some (l++b::p.1,p.2)=some (l++[b]++p.1,p.2);rw[c9X];rfl
theorem a9V(h:Evt.mI r=none)(l:List Evt.Bat):a1X l (Evt.dZ (m+1) r)=none:=by
 have e:Evt.dZ (m+1) r=none:=by
  show(match Evt.mI r with|none=>none|some (e,r)=>match Evt.dZ m r with|none=>none|some (l,r)=>some (e::l,r))=_;rw[h]
 rw[e];rfl
theorem b0F{b:Evt.Ev}(h:Evt.rM r=some (b,r'))(l:List Evt.Ev):zB l (Evt.eF (m+1) r)=zB (l++[b]) (Evt.eF m r'):=by
 have e:Evt.eF (m+1) r=match Evt.eF m r' with|none=>none|some (l,r)=>some (b::l,r):=by
  show(match Evt.rM r with|none=>none|some (e,r)=>match Evt.eF m r with|none=>none|some (l,r)=>some (e::l,r))=_;rw[h]
 rw[e];cases Evt.eF m r' with
 |none=>rfl
 |some p=>show some (l++b::p.1,p.2)=some (l++[b]++p.1,p.2);rw[c9X];rfl
theorem zD(h:Evt.rM r=none)(l:List Evt.Ev):zB l (Evt.eF (m+1) r)=none:=by
 have e:Evt.eF (m+1) r=none:=by
  show(match Evt.rM r with|none=>none|some (e,r)=>match Evt.eF m r with|none=>none|some (l,r)=>some (e::l,r))=_;rw[h]
 rw[e];rfl
theorem a1K{g:Nat→Nat}(h:A+4≤N)(hm:g (A+3)=m):Evt.mI ((bl g N).drop A)=match Evt.eF m ((bl g N).drop (A+4))with|none=>none|some (l,r)=>some (⟨(gA g A 3:Nat),l⟩,r):=by
 unfold Evt.mI;rw[zM g (by omega)];show(match Evt.num 1 0 ((bl g N).drop (A+3))with|none=>none|some (m,r)=>match Evt.eF m r with|none=>none|some (l,r)=>some ((⟨((gA g A 3:Nat):Int),l⟩:Evt.Bat),r))=_;rw[mJ g (by omega)];have e1:gA g (A+3) 1=m:=by
  show 256*0+g (A+3)=_;rw[d1U,c9G,hm]
 rw[e1]
theorem b7Q{g:Nat→Nat}(h:N<A+4):Evt.mI ((bl g N).drop A)=none:=by
 unfold Evt.mI;by_cases h1:A+3≤N
 ·rw[zM g h1];show(match Evt.num 1 0 ((bl g N).drop (A+3))with|none=>none|some (m,r)=>match Evt.eF m r with|none=>none|some (l,r)=>some ((⟨((gA g A 3:Nat):Int),l⟩:Evt.Bat),r))=_;rw[a4N g (by omega)]
 ·rw[b3C g (by omega)]
theorem a5H(n:Nat)(w:World)(hn:n<16777216):
  Calls prog 93 #[iV n] w fun e w'=>e=.returned (.slice (some (aD w.heap.size 0)) 3 3)∧w'=w.alloc (.cells #[.int .u8 ((n:Int)/65536),.int .u8 ((n:Int)/256%256),.int .u8 ((n:Int)%256)] 5):=by
 go_enter func93,ntmps93
 go_wp2_with fail;go_ret
 exact⟨rfl,rfl⟩
def clB(bs:List Nat):List Value:=bs.map fun x=> .int .u8 x
def cT(w:World)(N:Nat)(v:Value)(bs:List Nat):Prop:=w.ownsRow N 5 1 v bs.length (clB bs)
theorem cT.below(h:cT w N v bs)(hb:Bl w w'):cT w' N v bs:=aK h hb
theorem cT.off(h:cT w N v bs)(ho:Off S w w')(hS: ∀g,v.ownBlock=some g→ ¬S g):cT w' N v bs:=bC h ho hS
theorem cT.more{cs:List Nat}{ns:List Value}(h:w.ownsRow N 5 1 v (bs.length+m) (clB bs++ns))(hn:ns=clB cs)(hm:cs.length=m):cT w N v (bs++cs):=by
 unfold cT;rw[c9I,hm];unfold clB at hn h⊢;rw[c9U,←hn];exact h
theorem cT.byts(h:cT w N v bs)(hb:Evt.bZ bs):cF w v bs.length (fun k=>bs.getD k 0):=by
 have A1:Bd (fun k=>bs.getD k 0):=fun k=>by
  show bs.getD k 0<256;by_cases hk:k<bs.length
  ·have:bs.getD k 0∈bs:=by simp[List.getD,hk]
   exact hb _ this
  ·simp[List.getD,hk]
 by_cases hn:1≤bs.length
 ·obtain⟨g,A0,rfl,_,h1,h2,_,hc⟩:=dB h hn;refine⟨A1,some (aD g 0),A0,rfl,h1,h2,fun i hi=>⟨g,0,rfl,?_⟩⟩;rw[c9G];refine hc i _ ?_;simp[clB,List.getD,hi]
 ·obtain rfl:bs=[]:=d0N (by omega);rcases h.2 with⟨rfl,_⟩|⟨g,A0,A2,rfl,_,_,hc,hm,_⟩
  ·exact⟨A1,none,0,rfl,c9C _,c9D _,fun i hi=>absurd hi (c9L i)⟩
  ·exact⟨A1,_,A0,rfl,hc,hm,fun i hi=>absurd hi (c9L i)⟩
theorem b6O(x:Nat)(w:World)(hx:x<256):Calls prog 85 #[.int .u8 x] w fun e w'=>qW e (Evt.eS x=true)∧w'=w:=by
 by_cases q0:97≤x∧x≤122
 ·have H:Hid (Evt.eS x=true):=by
   show Evt.eS _=true;rw[Evt.eO];omega
  have f1:(97:Int)≤(x:Int):=by omega
  have f2:(x:Int)≤122:=by omega
  go_enter func85,ntmps85
  go_wp2_with fail;go_ret
  exact⟨gL H.out,rfl⟩
 by_cases q1:48≤x∧x≤57
 ·have H:Hid (Evt.eS x=true):=by
   show Evt.eS _=true;rw[Evt.eO];omega
  have f1: ¬(97:Int)≤(x:Int):=by omega
  have f3:(48:Int)≤(x:Int):=by omega
  have f4:(x:Int)≤57:=by omega
  go_enter func85,ntmps85
  go_wp2_with fail;go_ret
  exact⟨gL H.out,rfl⟩
 have H:Hid (¬Evt.eS x=true):=by
  show¬Evt.eS _=true;rw[Evt.eO];omega
 by_cases q2:x<48
 ·have f1: ¬(97:Int)≤(x:Int):=by omega
  have f3: ¬(48:Int)≤(x:Int):=by omega
  go_enter func85,ntmps85
  go_wp2_with fail;go_ret
  exact⟨cV H.out,rfl⟩
 have f3:(48:Int)≤(x:Int):=by omega
 have f4: ¬(x:Int)≤57:=by omega
 by_cases q3:122<x
 ·have f1:(97:Int)≤(x:Int):=by omega
  have f2: ¬(x:Int)≤122:=by omega
  go_enter func85,ntmps85
  go_wp2_with fail;go_ret
  exact⟨cV H.out,rfl⟩
 ·have f1: ¬(97:Int)≤(x:Int):=by omega
  go_enter func85,ntmps85
  go_wp2_with fail;go_ret
  exact⟨cV H.out,rfl⟩
theorem c8P(s:ByteArray)(h:k<s.size):ch s k=s[k].toNat:=by
 have h':k<s.data.size:=h;unfold ch;have e:s.data.toList[k]?=some s.data[k]:=by simp
 rw[c9R,e];rfl
theorem tY(s:ByteArray)(w:World)(hs:s.size≤9223372036854775807):
  Calls prog 48 #[.string s] w fun e w'=>qW e (Evt.dC (nb s))∧w'=w:=by
 by_cases p0:s.size<1
 ·have HN:Hid (¬Evt.dC (nb s)):=fun q=>by
   have:=q.2.1;rw[gE]at this;omega
  have A2:(s.size:Int)<1:=by omega
  go_enter func48,ntmps48
  go_wp2_with fail;go_ret
  exact⟨cV HN.out,rfl⟩
 have A2: ¬(s.size:Int)<1:=by omega
 by_cases p1:10<s.size
 ·have HN:Hid (¬Evt.dC (nb s)):=fun q=>by
   have:=q.2.2;rw[gE]at this;omega
  have A1:(10:Int)<(s.size:Int):=by omega
  go_enter func48,ntmps48
  go_wp2_with fail;go_ret
  exact⟨cV HN.out,rfl⟩
 have A1: ¬(10:Int)<(s.size:Int):=by omega
 go_enter func48,ntmps48
 go_wp2_with fail;go_loop [14] (fun x=> ∃k:Nat,k≤s.size∧x=iV k∧Hid (∀j,j<k→Evt.eS (ch s j)=true)) (fun x=>s.size-(intOf x).toNat)
 case atStart=>exact⟨0,c9D _,rfl,fun j hj=>absurd hj (c9L j)⟩
 case round=>
  obtain⟨k,hk,rfl,HS⟩:=hrel;by_cases A0:k<s.size
  ·have A3:(k:Int)<(s.size:Int):=by omega
   have HC:=hd8 (c8P s A0);have HP:=b6O s[k].toNat w (UInt8.toNat_lt _);by_cases hL:Evt.eS s[k].toNat=true
   ·have HL:Hid (Evt.eS (ch s k)=true):=by
     show Evt.eS _=true;rw[HC.out];exact hL
    go_wp2_with fail;refine HP.mono ?_;rintro e w1 ⟨⟨y,rfl,hy⟩,rfl⟩;obtain rfl:y=true:=hy.2 hL;clear hy HP hL;go_wp2_with fail;refine⟨⟨k+1,by omega,by go_num,fun j hj=>?_⟩,by simp[intOf];omega⟩;by_cases e:j=k
    ·rw[e];exact HL.out
    ·exact HS.out j (by omega)
   ·have HN:Hid (¬Evt.dC (nb s)):=qC A0 (by rw[HC.out];exact hL);go_wp2_with fail;refine HP.mono ?_;rintro e w1 ⟨⟨y,rfl,hy⟩,rfl⟩;obtain rfl:y=false:=by cases y with|false=>rfl|true=>exact absurd (hy.1 rfl) hL
    clear hy HP hL;go_wp2_with fail;go_ret
    exact⟨cV HN.out,rfl⟩
  ·obtain rfl:k=s.size:=by omega
   have HY:Hid (Evt.dC (nb s)):=(a2I s HS.out).2 ⟨by omega,by omega⟩;go_wp2_with fail;go_ret
   exact⟨gL HY.out,rfl⟩
def a8Q(k:Int):Int:=if k=2∨k=3 then 1000000 else 0
theorem c0Z(k:Int)(w:World):Calls prog 101 #[iV k] w fun e w'=>e=.returned (.tuple #[iV (a8Q k),.bool (decide (1≤k∧k≤4))])∧w'=w:=by
 by_cases q1:k=1
 ·subst q1;go_enter func101,ntmps101
  go_wp2_with fail;go_ret2
  exact⟨rfl,rfl⟩
 by_cases q4:k=4
 ·subst q4;go_enter func101,ntmps101
  go_wp2_with fail;go_ret2
  exact⟨rfl,rfl⟩
 by_cases q2:k=2
 ·subst q2;go_enter func101,ntmps101
  go_wp2_with fail;go_ret2
  exact⟨rfl,rfl⟩
 by_cases q3:k=3
 ·subst q3;go_enter func101,ntmps101
  go_wp2_with fail;go_ret2
  exact⟨rfl,rfl⟩
 have e1:(k==1)=false:=by rw[beq_eq_false_iff_ne];exact q1
 have e2:(k==2)=false:=by rw[beq_eq_false_iff_ne];exact q2
 have e3:(k==3)=false:=by rw[beq_eq_false_iff_ne];exact q3
 have e4:(k==4)=false:=by rw[beq_eq_false_iff_ne];exact q4
 have HM:Hid (a8Q k=0):=if_neg (by omega);have HD:Hid (decide (1≤k∧k≤4)=false):=decide_eq_false (by omega);clear q1 q2 q3 q4;go_enter func101,ntmps101
 go_wp2_with fail;go_ret2
 exact⟨by rw[HM.out,HD.out];rfl,rfl⟩
theorem yL(s:ByteArray)(k m:Int)(w:World)(hs:s.size≤9223372036854775807):
  Calls prog 69 #[.agg #[.string s,iV k,iV m]] w fun e w'=>e=.returned (iV (Evt.aB ⟨nb s,k,m⟩:Nat))∧Bl w w':=by
 have HN:=fun w'=>tY s w' hs;have HM:=fun w'=>c0Z k w';have A0:=aB8 w (.cells #[.string s,iV k,iV m] 83);obtain⟨c0,c1,c2⟩:=iL w (.string s) (iV k) (iV m);by_cases A1:Evt.dC (nb s)
 case neg=>
  have hn:=hd8 A1;have H:=hd8 (Evt.oZ A1);clear A1;go_enter func69,ntmps69
  go_wp2_with fail;refine(HN _).mono ?_;rintro e w1 ⟨⟨y,rfl,hy⟩,rfl⟩;obtain rfl:y=false:=by cases y with|false=>rfl|true=>exact absurd (hy.1 rfl) hn.out
  clear hy HN HM;go_wp2_with fail;go_ret
  exact⟨aH (by rw[H.out];rfl),A0⟩
 have hn:=hd8 A1;clear A1;by_cases q0:k<1∨4<k
 ·have H:=hd8 (Evt.kY hn.out q0);have hd:decide (1≤k∧k≤4)=false:=decide_eq_false (by omega);rw[hd]at HM;clear hd q0;go_enter func69,ntmps69
  go_wp2_with fail;refine(HN _).mono ?_;rintro e w1 ⟨⟨y,rfl,hy⟩,rfl⟩;obtain rfl:y=true:=hy.2 hn.out;clear hy HN;go_wp2_with fail;refine(HM _).mono ?_;rintro e w1 ⟨rfl,rfl⟩;clear HM;go_wp2_with fail;go_ret
  exact⟨aH (by rw[H.out];rfl),A0⟩
 have hk:=hd8 q0;have hd:decide (1≤k∧k≤4)=true:=decide_eq_true (by omega);rw[hd]at HM;clear hd q0;have HQ:Hid ((m<0∨1000000<m∨(0<m∧k≠2∧k≠3))↔(m<0∨a8Q k<m)):=by
  show _↔_;unfold a8Q;by_cases e:k=2∨k=3
  ·rw[if_pos e];omega
  ·rw[if_neg e];omega
 generalize a8Q k=M at HM HQ;by_cases q2:m<0
 ·have H:Hid (Evt.aB ⟨nb s,k,m⟩=3):=Evt.fZ hn.out hk.out (HQ.out.2 (Or.inl q2));go_enter func69,ntmps69
  go_wp2_with fail;refine(HN _).mono ?_;rintro e w1 ⟨⟨y,rfl,hy⟩,rfl⟩;obtain rfl:y=true:=hy.2 hn.out;clear hy HN;go_wp2_with fail;refine(HM _).mono ?_;rintro e w1 ⟨rfl,rfl⟩;clear HM;go_wp2_with fail;go_ret
  exact⟨aH (by rw[H.out];rfl),A0⟩
 by_cases q3:M<m
 ·have H:Hid (Evt.aB ⟨nb s,k,m⟩=3):=Evt.fZ hn.out hk.out (HQ.out.2 (Or.inr q3));go_enter func69,ntmps69
  go_wp2_with fail;refine(HN _).mono ?_;rintro e w1 ⟨⟨y,rfl,hy⟩,rfl⟩;obtain rfl:y=true:=hy.2 hn.out;clear hy HN;go_wp2_with fail;refine(HM _).mono ?_;rintro e w1 ⟨rfl,rfl⟩;clear HM;go_wp2_with fail;go_ret
  exact⟨aH (by rw[H.out];rfl),A0⟩
 ·have H:Hid (Evt.aB ⟨nb s,k,m⟩=0):=Evt.gB hn.out hk.out (fun q=>by have:=HQ.out.1 q;omega);go_enter func69,ntmps69
  go_wp2_with fail;refine(HN _).mono ?_;rintro e w1 ⟨⟨y,rfl,hy⟩,rfl⟩;obtain rfl:y=true:=hy.2 hn.out;clear hy HN;go_wp2_with fail;refine(HM _).mono ?_;rintro e w1 ⟨rfl,rfl⟩;clear HM;go_wp2_with fail;go_ret
  exact⟨aH (by rw[H.out];rfl),A0⟩
theorem yC(c:Int)(vs:Value)(es:List Evt.Ev)(w:World)(h:Evs w vs es):
  Calls prog 41 #[.agg #[iV c,vs]] w fun e w'=>e=.returned (.agg #[iV ((Evt.aA ⟨c,es⟩).1:Nat),iV ((Evt.aA ⟨c,es⟩).2:Nat)])∧Bl w w':=by
 obtain⟨A,C,rfl⟩:=h.shape;have A0:=aB8 w (.cells #[iV c,.slice A es.length C] 47);have A7:=A0.alloc A0.size _;by_cases q0:c<1
 ·have H:Hid (Evt.aA ⟨c,es⟩=(3,0)):=Evt.bG (Or.inl q0);go_enter func41,ntmps41
  go_wp2_with fail;refine bodyPost_ret (v:=.agg #[iV 3,iV 0]) (by simp[results,results41,go_sem]) rfl ⟨by rw[H.out];rfl,?_⟩;exact A0.alloc A0.size _
 by_cases q1:1000000<c
 ·have H:Hid (Evt.aA ⟨c,es⟩=(3,0)):=Evt.bG (Or.inr q1);go_enter func41,ntmps41
  go_wp2_with fail;refine bodyPost_ret (v:=.agg #[iV 3,iV 0]) (by simp[results,results41,go_sem]) rfl ⟨by rw[H.out];rfl,?_⟩;exact A0.alloc A0.size _
 have hk:Hid (¬(c<1∨1000000<c)):=show¬(_∨_) by omega
 by_cases q2:es.length=0
 ·have H:Hid (Evt.aA ⟨c,es⟩=(5,0)):=Evt.eB hk.out (Or.inl q2);have g2:(es.length:Int)<1:=by omega
  clear q2;go_enter func41,ntmps41
  go_wp2_with fail;refine bodyPost_ret (v:=.agg #[iV 5,iV 0]) (by simp[results,results41,go_sem]) rfl ⟨by rw[H.out];rfl,?_⟩;exact A0.alloc A0.size _
 have g2: ¬(es.length:Int)<1:=by omega
 by_cases q3:10<es.length
 ·have H:Hid (Evt.aA ⟨c,es⟩=(5,0)):=Evt.eB hk.out (Or.inr q3);have g3:(10:Int)<(es.length:Int):=by omega
  go_enter func41,ntmps41
  go_wp2_with fail;refine bodyPost_ret (v:=.agg #[iV 5,iV 0]) (by simp[results,results41,go_sem]) rfl ⟨by rw[H.out];rfl,?_⟩;exact A0.alloc A0.size _
 have g3: ¬(10:Int)<(es.length:Int):=by omega
 have HE:Hid (Evt.aA ⟨c,es⟩=Evt.gT es 0):=Evt.pC hk.out (show¬(es.length=0∨10<es.length) by omega);obtain⟨b,o,C',hv,Ag,Ah,hc⟩:=h.some (by omega);cases hv
 have VF:=aO (w.alloc (.cells #[iV c,.slice (some (aD b o)) es.length C] 47)) 78 (iV 0) (iV 0);have A5:(w.alloc (.cells #[iV c,.slice (some (aD b o)) es.length C] 47)).heap.size=w.heap.size+1:=by simp
 rw[A5]at VF;clear A5;go_enter func41,ntmps41
 go_wp2_with fail;generalize (w.alloc (.cells #[iV c,.slice (some (aD b o)) es.length C] 47)).alloc (.cells #[iV 0,iV 0] 78)=W0 at A7 VF⊢;go_loopw [29] (fun x wr=> ∃k:Nat,k≤es.length∧x=iV k∧Hid (∀j,j<k→ ∃e,es[j]?=some e∧Evt.aB e=0)∧Bl W0 wr) (fun x _=>es.length-(intOf x).toNat)
 case atStart=>exact⟨0,c9D _,rfl,fun j hj=>absurd hj (c9L j),Below.refl _ _⟩
 case round=>
  obtain⟨k,Af,rfl,HS,A1⟩:=hrel;have bz:=bt A7 A1;by_cases A9:k<es.length
  ·have Ab:(k:Int)<(es.length:Int):=by omega
   obtain⟨ev,A2⟩: ∃ev,es[k]?=some ev:=⟨es[k],c9F A9⟩;have A4:=hd8 A2;obtain⟨s,Aa,A3,d0,d1,d2⟩:=(hc k ev A2).below bz;have Ae:=hd8 A3;have HW:=yL s ev.kind ev.num (wr.alloc (.cells #[.string s,iV ev.kind,iV ev.num] 83)) Aa;have HQ:Hid (Evt.aB ⟨nb s,ev.kind,ev.num⟩=Evt.aB ev):=by
    show Evt.aB _=_;rw[A3]
   clear A2 A3 hc;rw[HQ.out]at HW;have bA:=aB8 wr (.cells #[.string s,iV ev.kind,iV ev.num] 83);by_cases hE:Evt.aB ev=0
   ·have Ac:=hd8 hE;rw[hE]at HW;clear hE;go_wp2_with fail;refine HW.mono ?_;rintro e w1 ⟨rfl,b1⟩;have b1:=bt bA b1;clear HW;go_wp2_with fail;refine⟨⟨k+1,by omega,by go_num,fun j hj=>?_,bt A1 b1⟩,by simp[intOf];omega⟩;by_cases e:j=k
    ·rw[e];exact⟨ev,A4.out,Ac.out⟩
    ·exact HS.out j (by omega)
   ·have A6:=hd8 (Evt.vV es k ev A4.out hE HS.out);generalize Evt.aB ev=x at HW A6 hE;have A8:((x:Int)==0)=false:=by rw[beq_eq_false_iff_ne];omega
    have Ad:((x:Int) !=0)=true:=by rw[bne,A8];rfl
    clear hE;go_wp2_with fail;refine HW.mono ?_;rintro e w1 ⟨rfl,b1⟩;have b1:=bt bA b1;obtain⟨c0,c1,fr⟩:=(VF.below A1).below b1;have f0:=fr 0;have f1:=fr 1;clear HW;go_wp2_with fail;refine bodyPost_ret (v:=.agg #[iV x,iV k]) (by simp[results,results41,go_sem,c0,c1]) rfl ⟨by rw[HE.out,A6.out],?_⟩;exact((bt bz b1).setCell (c9O _) _).setCell (c9O _) _
  ·obtain rfl:k=es.length:=by omega
   have HZ:Hid (Evt.gT es 0=(0,0)):=Evt.wG es 0 (fun e he=>by
    obtain⟨j,hj,rfl⟩:=d1P.1 he;obtain⟨e',h1,h2⟩:=HS.out j hj;rw[c9F hj,Option.some.injEq]at h1;rw[h1]
    exact h2)
   obtain⟨c0,c1,fr⟩:=VF.below A1;have f0:=fr 0;have f1:=fr 1;clear hc;go_wp2_with fail;refine bodyPost_ret (v:=.agg #[iV 0,iV 0]) (by simp[results,results41,go_sem,c0,c1]) rfl ⟨by rw[HE.out,HZ.out];rfl,?_⟩;exact(bz.setCell (c9O _) _).setCell (c9O _) _
theorem eU.shape{l:List Evt.Bat}(h:eU w v l): ∃A C,v=.slice A l.length C:=by
 obtain⟨A,C,hv,_⟩:=h;exact⟨A,C,hv⟩
theorem eU.len{l:List Evt.Bat}(h:eU w v l):l.length≤9223372036854775807:=by
 obtain⟨A,C,hv,h1,h2,_⟩:=h;unfold maxLen at h2;omega
theorem vM{l:List Evt.Bat}(h:150<l.length):Evt.aF l=(5,0):=if_pos h
theorem lE{l:List Evt.Bat}(h: ¬150<l.length):Evt.aF l=Evt.gR l 0:=if_neg h
theorem rC(v:Value)(l:List Evt.Bat)(w:World)(h:eU w v l):
  Calls prog 107 #[v] w fun e w'=>e=.returned (.agg #[iV ((Evt.aF l).1:Nat),iV ((Evt.aF l).2:Nat)])∧Bl w w':=by
 obtain⟨A,C,rfl⟩:=h.shape;have hl:=h.len;have A4:=aB8 w (.cells #[iV 0,iV 0] 78);by_cases q3:150<l.length
 ·have H:=hd8 (vM q3);have g3:(150:Int)<(l.length:Int):=by omega
  go_enter func107,ntmps107
  go_wp2_with fail;refine bodyPost_ret (v:=.agg #[iV 5,iV 0]) (by simp[results,results107,go_sem]) rfl ⟨by rw[H.out];rfl,?_⟩;exact(Below.refl _ _).alloc (c9C _) _
 have g3: ¬(150:Int)<(l.length:Int):=by omega
 have HE:=hd8 (lE q3);have VF:=aO w 78 (iV 0) (iV 0);have hc:Hid (∀i x,l[i]?=some x→ ∃b o,A=some (aD b o)∧oV w b (o+i*2) x):=by
  obtain⟨A',C',hv,_,_,hc⟩:=h;cases hv
  exact hc
 clear h;go_enter func107,ntmps107
 go_wp2_with fail;generalize w.alloc (.cells #[iV 0,iV 0] 78)=W0 at A4 VF⊢;go_loopw [12] (fun x wr=> ∃k:Nat,k≤l.length∧x=iV k∧Hid (∀j,j<k→ ∃e,l[j]?=some e∧(Evt.aA e).1=0)∧Bl W0 wr) (fun x _=>l.length-(intOf x).toNat)
 case atStart=>exact⟨0,c9D _,rfl,fun j hj=>absurd hj (c9L j),Below.refl _ _⟩
 case round=>
  obtain⟨k,Aa,rfl,HS,A0⟩:=hrel;have bz:=bt A4 A0;by_cases A6:k<l.length
  ·have A7:(k:Int)<(l.length:Int):=by omega
   obtain⟨x,hx⟩: ∃x,l[k]?=some x:=⟨l[k],c9F A6⟩;have A1:=hd8 hx;obtain⟨b,o,rfl,A2⟩:=hc.out k x hx;obtain⟨vs,d0,d1,he⟩:=A2.below bz;have bA:=aB8 wr (.cells #[iV x.cmd,vs] 47);have HW:=yC x.cmd vs x.evs _ (he.below bA);have HQ:Hid (Evt.aA ⟨x.cmd,x.evs⟩=Evt.aA x):=rfl;rw[HQ.out]at HW;obtain⟨As,Cs,rfl⟩:=he.shape;clear hx A2 he;by_cases hE:(Evt.aA x).1=0
   ·have A8:=hd8 hE;rw[hE]at HW;generalize (Evt.aA x).2=y at HW;clear hE;go_wp2_with fail;refine HW.mono ?_;rintro e w1 ⟨rfl,b1⟩;have b1:=bt bA b1;have b2:=b1.alloc b1.size _;clear HW;go_wp2_with fail;refine⟨⟨k+1,by omega,by go_num,fun j hj=>?_,bt A0 b2⟩,by simp[intOf];omega⟩;by_cases e:j=k
    ·rw[e];exact⟨x,A1.out,A8.out⟩
    ·exact HS.out j (by omega)
   ·have A3:=hd8 (Evt.o8 l k x A1.out hE HS.out);generalize (Evt.aA x).1=x1 at HW A3 hE;generalize (Evt.aA x).2=y at HW;have A5:((x1:Int)==0)=false:=by rw[beq_eq_false_iff_ne];omega
    have A9:((x1:Int) !=0)=true:=by rw[bne,A5];rfl
    clear hE;go_wp2_with fail;refine HW.mono ?_;rintro e w1 ⟨rfl,b1⟩;have b1:=bt bA b1;have b2:=b1.alloc b1.size _;obtain⟨c0,c1,fr⟩:=(VF.below A0).below b2;have f0:=fr 0;have f1:=fr 1;clear HW;go_wp2_with fail;refine bodyPost_ret (v:=.agg #[iV x1,iV k]) (by simp[results,results107,go_sem,c0,c1]) rfl ⟨by rw[HE.out,A3.out],?_⟩;exact((bt bz b2).setCell (c9C _) _).setCell (c9C _) _
  ·obtain rfl:k=l.length:=by omega
   have HZ:Hid (Evt.gR l 0=(0,0)):=Evt.lG l 0 (fun e he=>by
    obtain⟨j,hj,rfl⟩:=d1P.1 he;obtain⟨e',h1,h2⟩:=HS.out j hj;rw[c9F hj,Option.some.injEq]at h1;rw[h1]
    exact h2)
   obtain⟨c0,c1,fr⟩:=VF.below A0;have f0:=fr 0;have f1:=fr 1;go_wp2_with fail;refine bodyPost_ret (v:=.agg #[iV 0,iV 0]) (by simp[results,results107,go_sem,c0,c1]) rfl ⟨by rw[HE.out,HZ.out];rfl,?_⟩;exact(bz.setCell (c9C _) _).setCell (c9C _) _
theorem rV(w:World)(N:Nat):cT w N nS []:=World.ownsRow_nil w N _ 1
theorem sU(w:World)(x:Value): ∀j u,[x][j]?=some u→(w.alloc (.cells #[x] 5)).cell? ((⟨w.heap.size,0,none⟩:Addr).add j)=some u:=eE w #[x] 5
theorem a4I(a:Int): ∀u∈[Value.int .u8 a],u.oneCell'=true:=by
 intro u hu;simp at hu;rw[hu];rfl
theorem cT.one{a:Int}(h:w.ownsRow N 5 1 v (bs.length+1) (clB bs++[.int .u8 a]))(e:a=(x:Int)):cT w N v (bs++[x]):=
 cT.more h (by rw[e];rfl) rfl
def dJ(N:Nat)(w w':World):Prop:=Off (fun k=>N≤k∧ ∃c z,w.heap[k]?=some (.cells c 5 z)) w w'
theorem dJ.refl(N:Nat)(w:World):dJ N w w:=Off.refl _ _
theorem dJ.trans{a b c:World}(h:dJ N a b)(k:dJ N b c):dJ N a c:=Off.past h k (fun y hy hl=>by
 refine Classical.byContradiction fun hn=>hn ⟨hy.1,?_⟩
 obtain⟨_,c,z,e⟩:=hy
 exact⟨c,z,by rw[←h.block y hl hn];exact e⟩)
theorem dJ.of_below{a b:World}(h:Bl a b):dJ N a b:=Off.of_below h
theorem dJ.grown(h:w.ownsRow N 5 1 v n xs)(hg:w.grownBy w' v.ownBlock):dJ N w w':=
 (cJ hg).wider (fun k hk=>⟨(h.lt k hk).1,by
  obtain⟨c,e⟩:=i9 h hk
  exact⟨c,_,e⟩⟩)
theorem dJ.below(h:dJ N w w')(hN:N≤w.heap.size):Below N w w':=Off.below h hN (fun _ hk=>hk.1)
structure Box(w:World)(p:Nat)(cs:Array Value)(t:TypeId):Prop where
 hp:w.heap[p]?=some (.cells cs t (0,0))
 ht:t≠5
theorem Box.lt{cs:Array Value}(h:Box w p cs t):p<w.heap.size:=(d1M.1 h.hp).1
theorem Box.off{cs:Array Value}(h:Box w p cs t)(ho:dJ N w w'):Box w' p cs t:=
 ⟨by
  rw[ho.block p h.lt (fun q=>by
   obtain⟨_,c,z,e⟩:=q
   rw[h.hp]at e
   cases e
   exact h.ht rfl)]
  exact h.hp,h.ht⟩
theorem pM(w:World)(cs:Array Value)(t:TypeId)(ht:t≠5):Box (w.alloc (.cells cs t)) w.heap.size cs t:=⟨Deep.blk_alloc_new _ _,ht⟩
theorem Box.cell{cs:Array Value}(h:Box w p cs t)(i:Nat)(u:Value)(hu:cs[i]?=some u):w.cell? (aD p i)=some u:=by
 obtain⟨hi,rfl⟩:=d1M.1 hu;have hr:w.rowIs p t cs.size (fun j=>cs.getD j nS):=⟨cs,h.hp,rfl,fun i hi=>by simp[hi]⟩;rw[hr.cell hi];simp[Array.getD,hi]
theorem Box.frozen{cs:Array Value}(h:Box w p cs t)(i:Nat):w.frozen? (aD p i)=false:=by
 have hr:w.rowIs p t cs.size (fun j=>cs.getD j nS):=⟨cs,h.hp,rfl,fun i hi=>by simp[hi]⟩;exact hr.frozen i
theorem sN(N n:Nat)(v:Value)(bs:List Nat)(w:World)(h:cT w N v bs)(hN:N≤w.heap.size)(hb:bs.length≤1000000)(hn:n<256):
  Calls prog 108 #[v,iV n,iV 1] w fun e w'=> ∃v',e=.returned v'∧cT w' N v' (bs++[n])∧dJ N w w':=by
 obtain⟨i1,A3,A0⟩:=c9J.1 Tryz.infoByte;simp only[Prod.mk.injEq]at A0;obtain⟨A4,A1,A2⟩:=A0;have X1:=aB8 w (.cells #[.int .u8 n] 5);have HO:=h.below X1;have sX:=c9E hN X1.size;go_enter func108,ntmps108
 go_wp2_with fail;refine wp_loop_rounds 2 ?_;rw[rounds_succ];go_wp2_with (at_builtin;go_loud (refine wpList_append_own _ rfl (.tmp 14) (.tmp 20) 59 rfl N 5 i1 (.int .u8 0) 1 1 underlying59 A3 A4 A1 A2 rfl (by decide) _ _ _ rfl HO (aD w.heap.size 0) 1 1 [.int .u8 n] rfl rfl (sU w _) (a4I _) (by unfold maxLen;omega) (by omega) sX ?_;intro v1 w1 hown1 hgrow1 _));have HB:=hd8 (cT.one hown1 rfl);have HW:=hd8 ((dJ.of_below X1).trans (dJ.grown HO hgrow1));clear hown1 hgrow1 HO;rw[rounds_succ];go_wp2_with fail;go_ret
 exact⟨_,rfl,HB.out,HW.out⟩
theorem a5U(N n:Nat)(v:Value)(bs:List Nat)(w:World)(h:cT w N v bs)(hN:N≤w.heap.size)(hb:bs.length≤1000000)(hn:n<16777216):
  Calls prog 108 #[v,iV n,iV 3] w fun e w'=> ∃v',e=.returned v'∧cT w' N v' (bs++Evt.dK n)∧dJ N w w':=by
 obtain⟨i1,A3,A4⟩:=c9J.1 Tryz.infoByte;simp only[Prod.mk.injEq]at A4;obtain⟨A1,A2,A0⟩:=A4;have X1:=aB8 w (.cells #[.int .u8 ((n:Int)/65536)] 5);have HO:=h.below X1;have sX:=c9E hN X1.size;go_enter func108,ntmps108
 go_wp2_with fail;refine wp_loop_rounds 4 ?_;rw[rounds_succ];go_wp2_with (at_builtin;go_loud (refine wpList_append_own _ rfl (.tmp 14) (.tmp 20) 59 rfl N 5 i1 (.int .u8 0) 1 1 underlying59 A3 A1 A2 A0 rfl (by decide) _ _ _ rfl HO (aD w.heap.size 0) 1 1 [.int .u8 ((n:Int)/65536)] rfl rfl (sU w _) (a4I _) (by unfold maxLen;omega) (by omega) sX ?_;intro v1 w1 hown1 hgrow1 _));have B1:cT w1 N v1 (bs++[n/65536]):=cT.one hown1 (by omega);have W1:=(dJ.of_below X1).trans (dJ.grown HO hgrow1);have L1:(bs++[n/65536]).length=bs.length+1:=by simp
 have A5:=c9E sX hgrow1.size;clear hown1 hgrow1 HO X1 sX h;have X2:=aB8 w1 (.cells #[.int .u8 ((n:Int)/256%256)] 5);have HO:=B1.below X2;have sX:=c9E A5 X2.size;rw[rounds_succ];go_wp2_with (at_builtin;go_loud (refine wpList_append_own _ rfl (.tmp 14) (.tmp 20) 59 rfl N 5 i1 (.int .u8 0) 1 1 underlying59 A3 A1 A2 A0 rfl (by decide) _ _ _ rfl HO (aD w1.heap.size 0) 1 1 [.int .u8 ((n:Int)/256%256)] rfl rfl (sU w1 _) (a4I _) (by unfold maxLen;omega) (by omega) sX ?_;intro v2 w2 hown2 hgrow2 _));have B2:cT w2 N v2 (bs++[n/65536]++[n/256%256]):=cT.one hown2 (by omega);have W2:=W1.trans ((dJ.of_below X2).trans (dJ.grown HO hgrow2));have L2:(bs++[n/65536]++[n/256%256]).length=bs.length+2:=by simp
 have A6:=c9E sX hgrow2.size;clear hown2 hgrow2 HO X2 sX B1 L1 W1;have X3:=aB8 w2 (.cells #[.int .u8 ((n:Int)%256)] 5);have HO:=B2.below X3;have sX:=c9E A6 X3.size;rw[rounds_succ];go_wp2_with (at_builtin;go_loud (refine wpList_append_own _ rfl (.tmp 14) (.tmp 20) 59 rfl N 5 i1 (.int .u8 0) 1 1 underlying59 A3 A1 A2 A0 rfl (by decide) _ _ _ rfl HO (aD w2.heap.size 0) 1 1 [.int .u8 ((n:Int)%256)] rfl rfl (sU w2 _) (a4I _) (by unfold maxLen;omega) (by omega) sX ?_;intro v3 w3 hown3 hgrow3 _));have B3:Hid (cT w3 N v3 (bs++Evt.dK n)):=by
  have:=cT.one (x:=n%256) hown3 (by omega);rw[c9X,c9X]at this;exact this
 have W3:=hd8 (W2.trans ((dJ.of_below X3).trans (dJ.grown HO hgrow3)));clear hown3 hgrow3 HO X3 sX B2 L2 W2;rw[rounds_succ];go_wp2_with fail;go_ret
 exact⟨_,rfl,B3.out,W3.out⟩
theorem vO(s:ByteArray):Lib.strCells s=clB (nb s):=by
 unfold Lib.strCells clB nb;rw[List.map_map];rfl
theorem c3A(N:Nat)(s:ByteArray)(k m:Int)(v:Value)(bs:List Nat)(w:World)(h:cT w N v bs)(hN:N≤w.heap.size)(hb:bs.length≤900000)(hE:Evt.aB ⟨nb s,k,m⟩=0):
  Calls prog 134 #[v,.agg #[.string s,iV k,iV m]] w fun e w'=> ∃v',e=.returned v'∧cT w' N v' (bs++Evt.iM ⟨nb s,k,m⟩)∧dJ N w w':=by
 obtain⟨⟨_,_,hn⟩,k1,k2,m1,m2⟩:=Evt.eN hE;rw[show(⟨nb s,k,m⟩:Evt.Ev).name=nb s from rfl,gE]at hn;have k1:1≤k:=k1;have k2:k≤4:=k2;have m1:0≤m:=m1;have m2:m≤1000000:=m2;obtain⟨k',rfl⟩: ∃k':Nat,k=k':=⟨k.toNat,by omega⟩;obtain⟨m',rfl⟩: ∃m':Nat,m=m':=⟨m.toNat,by omega⟩;obtain⟨i1,A7,A1⟩:=c9J.1 Tryz.infoByte;simp only[Prod.mk.injEq]at A1;obtain⟨A4,A5,A3⟩:=A1;have X0:=aB8 w (.cells #[.string s,iV k',iV m'] 83);have V0:=pM w #[.string s,iV k',iV m'] 83 (by decide);have c0:=V0.cell 0 _ rfl;have c1:=V0.cell 1 _ rfl;have c2:=V0.cell 2 _ rfl;have H1:=sN N s.size v bs _ (h.below X0) (c9E hN X0.size) (by omega) (by omega);clear hE h;go_enter func134,ntmps134
 go_wp2_with fail;refine H1.mono ?_;rintro e w1 ⟨v1,rfl,B1,O1⟩;have V1:=V0.off O1;have c0:=V1.cell 0 _ rfl;have O1:=(dJ.of_below X0 (N:=N)).trans O1;have A0:=c9E hN O1.size;have L1:(bs++[s.size]).length=bs.length+1:=by simp
 have HO:w1.ownsRow N 5 1 v1 (bs++[s.size]).length (clB (bs++[s.size])):=B1;clear H1 V0 X0 c1 c2 B1;go_wp2_with (at_builtin;go_loud (refine Lib.wpList_append_own_string _ rfl (.tmp 10) (.tmp 12) 59 9 rfl N 5 i1 underlying59 underlying9 A7 A4 A5 A3 _ _ _ rfl HO s rfl (by unfold maxLen;omega) (by omega) A0 ?_;intro v2 w2 hown2 hgrow2 _;have V2:=V1.off (dJ.grown HO hgrow2);have c1:=V2.cell 1 _ rfl));have B2:cT w2 N v2 (bs++[s.size]++nb s):=cT.more hown2 (vO s) (gE s);have L2:(bs++[s.size]++nb s).length=bs.length+1+s.size:=by simp[gE];omega
 have O2:=O1.trans (dJ.grown HO hgrow2);have A2:=c9E hN O2.size;have H3:=sN N k' v2 _ _ B2 A2 (by omega) (by omega);clear hown2 hgrow2 HO B2 V1 c0 O1 L1 A0;refine H3.mono ?_;rintro e w3 ⟨v3,rfl,B3,O3⟩;have V3:=V2.off O3;have c2:=V3.cell 2 _ rfl;have O3:=O2.trans O3;have A6:=c9E hN O3.size;have H4:=a5U N m' v3 _ _ B3 A6 (by rw[c9I,L2];simp;omega) (by omega);clear H3 V2 O2 B3 A2;go_wp2_with fail;refine H4.mono ?_;rintro e w4 ⟨v4,rfl,B4,O4⟩;have HB:Hid (cT w4 N v4 (bs++Evt.iM ⟨nb s,k',m'⟩)):=by
  have e:bs++[s.size]++nb s++[k']++Evt.dK m'=bs++Evt.iM ⟨nb s,k',m'⟩:=by
   unfold Evt.iM;rw[gE];simp
  rw[e]at B4;exact B4
 have HW:=hd8 (O3.trans O4);clear H4 B4 O4 V3;go_wp2_with fail;go_ret
 exact⟨_,rfl,HB.out,HW.out⟩
theorem y8{e:Evt.Ev}(h:Evt.aB e=0):(Evt.iM e).length≤15:=by
 obtain⟨⟨_,_,hn⟩,_⟩:=Evt.eN h;unfold Evt.iM Evt.dK;simp;omega
theorem wT{α:Type}(f:α→List Nat)(c:Nat): ∀(l:List α),(∀a,a∈l→(f a).length≤c)→(l.flatMap f).length≤l.length*c
 |[],_=>by simp
 |x::l,h=>by
  rw[d0K,c9I,d0E,d0F]
  have h1:=h x c9W
  have h2:=wT f c l (fun a ha=>h a (c9Y _ ha))
  omega
theorem a5Y{b:Evt.Bat}(h:(Evt.aA b).1=0):(Evt.jS b).length≤154:=by
 obtain⟨_,_,_,h4,h5⟩:=Evt.bN h;have:=wT Evt.iM 15 b.evs (fun e he=>y8 (h5 e he));unfold Evt.jS Evt.dK;simp only[List.length_append,List.length_cons,List.length_nil];omega
theorem pT{α:Type}(f:α→List Nat)(l:List α)(k:Nat)(a:α)(h:l[k]?=some a):(l.take (k+1)).flatMap f=(l.take k).flatMap f++f a:=by
 rw[d1Y,h,d0H];simp
theorem pH{α:Type}(f:α→List Nat)(c k:Nat)(l:List α)(h: ∀a,a∈l→(f a).length≤c):((l.take k).flatMap f).length≤l.length*c:=by
 refine c9E (wT f c (l.take k) (fun a ha=>h a (d2T ha))) (d1J c ?_);simp;omega
theorem b9F(W0:World)(c:Int)(vs:Value)(es:List Evt.Ev)(hes:Evs W0 vs es)(v:Value)(bs:List Nat)(w:World)(hW:Bl W0 w)(h:cT w W0.heap.size v bs)(hb:bs.length≤800000)(hE:(Evt.aA ⟨c,es⟩).1=0):
  Calls prog 109 #[v,.agg #[iV c,vs]] w fun e w'=> ∃v',e=.returned v'∧cT w' W0.heap.size v' (bs++Evt.jS ⟨c,es⟩)∧dJ W0.heap.size w w':=by
 obtain⟨h1,h2,h3,h4,h5⟩:=Evt.bN hE;have h1:1≤c:=h1;have h2:c≤1000000:=h2;have h3:1≤es.length:=h3;have h4:es.length≤10:=h4;have HA:=hd8 h5;obtain⟨c',rfl⟩: ∃c':Nat,c=c':=⟨c.toNat,by omega⟩;obtain⟨b,o,C,rfl,_,_,hc⟩:=hes.some h3;have HC:=hd8 hc;have hN:=hW.size;have X0:=aB8 w (.cells #[iV c',.slice (some (aD b o)) es.length C] 47);have V0:=pM w #[iV c',.slice (some (aD b o)) es.length C] 47 (by decide);have c0:=V0.cell 0 _ rfl;have c1:=V0.cell 1 _ rfl;have H1:=a5U W0.heap.size c' v bs _ (h.below X0) (c9E hN X0.size) (by omega) (by omega);clear hE h5 h hc hes;go_enter func109,ntmps109
 go_wp2_with fail;refine H1.mono ?_;rintro e w1 ⟨v1,rfl,B1,O1⟩;have V1:=V0.off O1;have c1:=V1.cell 1 _ rfl;have O1:=(dJ.of_below X0 (N:=W0.heap.size)).trans O1;have A3:=c9E hN O1.size;have L1:(bs++Evt.dK c').length=bs.length+3:=by simp[Evt.dK]
 have H2:=sN W0.heap.size es.length v1 _ _ B1 A3 (by omega) (by omega);clear H1 V0 X0 c0 B1;go_wp2_with fail;refine H2.mono ?_;rintro e w2 ⟨v2,rfl,B2,O2⟩;have V2:=V1.off O2;have c1:=V2.cell 1 _ rfl;have O2:=O1.trans O2;have A4:=c9E hN O2.size;have L2:(bs++Evt.dK c'++[es.length]).length=bs.length+4:=by simp[Evt.dK]
 have b2:=hW.trans (O2.below hN);clear H2 V1 O1 L1 A3;go_wp2_with fail;clear c1 V2;go_loopw [0,19] (fun y x wr=> ∃k:Nat,k≤es.length∧x=iV k∧cT wr W0.heap.size y (bs++Evt.dK c'++[es.length]++(es.take k).flatMap Evt.iM)∧dJ W0.heap.size w2 wr) (fun _ x _=>es.length-(intOf x).toNat)
 case atStart=>exact⟨0,c9D _,rfl,by simpa using B2,dJ.refl _ _⟩
 case round=>
  obtain⟨k,hk,rfl,BR,OR⟩:=hrel;have A6:=c9E A4 OR.size;have br:=b2.trans (OR.below A4);by_cases A5:k<es.length
  ·have A7:(k:Int)<(es.length:Int):=by omega
   obtain⟨ev,A0⟩: ∃ev,es[k]?=some ev:=⟨es[k],c9F A5⟩;have HT:=hd8 (pT Evt.iM es k ev A0);have HZ:=pH Evt.iM 15 k es (fun e he=>y8 (HA.out e he));obtain⟨s,A8,A1,d0,d1,d2⟩:=(HC.out k ev A0).below br;have A2:Evt.aB ⟨nb s,ev.kind,ev.num⟩=0:=by
    rw[A1];exact HA.out ev (c9N A0)
   have HQ:Hid ((⟨nb s,ev.kind,ev.num⟩:Evt.Ev)=ev):=by
    show(⟨nb s,ev.kind,ev.num⟩:Evt.Ev)=ev;rw[A1]
   have bA:=aB8 wr (.cells #[.string s,iV ev.kind,iV ev.num] 83);have HW:=c3A W0.heap.size s ev.kind ev.num u0 _ _ (BR.below bA) (c9E A6 bA.size) (by rw[c9I,L2];omega) A2;rw[HQ.out]at HW;clear A0 A1 BR HZ A2;go_wp2_with fail;refine HW.mono ?_;rintro e w3 ⟨v3,rfl,B3,O3⟩;have O3:=(dJ.of_below bA (N:=W0.heap.size)).trans O3;have HB:Hid (cT w3 W0.heap.size v3 (bs++Evt.dK c'++[es.length]++(es.take (k+1)).flatMap Evt.iM)):=by
    have:=B3;rw[c9X,←HT.out]at this;exact this
   clear HW B3 bA;go_wp2_with fail;exact⟨⟨k+1,by omega,by go_num,HB.out,OR.trans O3⟩,by simp[intOf];omega⟩
  ·obtain rfl:k=es.length:=by omega
   have HB:Hid (cT wr W0.heap.size u0 (bs++Evt.jS ⟨c',es⟩)):=by
    have:=BR;rw[d0L]at this;have e:bs++Evt.dK c'++[es.length]++es.flatMap Evt.iM=bs++Evt.jS ⟨c',es⟩:=by
     unfold Evt.jS;simp
    rw[e]at this;exact this
   have HO:=hd8 (O2.trans OR);clear BR OR;go_wp2_with fail;go_ret
   exact⟨_,rfl,HB.out,HO.out⟩
def rN(l:List Evt.Bat):List Nat:=if (Evt.aF l).1=0 then Evt.iK l else[]
theorem wR{l:List Evt.Bat}(h:(Evt.aF l).1=0):rN l=Evt.iK l:=if_pos h
theorem wP{l:List Evt.Bat}(h:(Evt.aF l).1≠0):rN l=[]:=if_neg h
theorem b0T(v:Value)(l:List Evt.Bat)(w:World)(h:eU w v l)(hE:(Evt.aF l).1≠0):
  Calls prog 78 #[v] w fun e w'=> ∃v',e=.returned (.tuple #[v',.agg #[iV ((Evt.aF l).1:Nat),iV ((Evt.aF l).2:Nat)]])∧cT w' w.heap.size v' (rN l)∧Bl w w':=by
 rw[wP hE];have X0:=aB8 w (.cells #[iV 0,iV 0] 78);have V0:=aO w 78 (iV 0) (iV 0);have H1:=rC v l _ (h.below X0);obtain⟨A,C,rfl⟩:=h.shape;generalize (Evt.aF l).1=x at H1 hE⊢;generalize (Evt.aF l).2=y at H1⊢;have A0:((x:Int)==0)=false:=by rw[beq_eq_false_iff_ne];omega
 have A1:((x:Int) !=0)=true:=by rw[bne,A0];rfl
 clear h hE;go_enter func78,ntmps78
 go_wp2_with fail;refine H1.mono ?_;rintro e w1 ⟨rfl,b1⟩;have bA:=aB8 w1 (.cells #[iV x,iV y] 78);obtain⟨c0,c1,fr⟩:=(V0.below b1).below bA;have f0:=fr 0;have f1:=fr 1;have bz:=bt (bt X0 b1) bA;clear H1 V0 X0 b1;go_wp2_with fail;go_region
 go_wp2_with fail;refine bodyPost_ret (v:=.tuple #[nS,.agg #[iV x,iV y]]) (by simp[results,results78,go_sem,c0,c1]) rfl ⟨_,rfl,rV _ _,?_⟩;exact((bz.setCell (c9C _) _).setCell (c9C _) _).drew
theorem b2V{A:Option Addr}{l:List Evt.Bat}(h:eU w (.slice A n C) l): ∀i x,l[i]?=some x→ ∃b o,A=some (aD b o)∧oV w b (o+i*2) x:=by
 obtain⟨A',C',hv,_,_,hc⟩:=h;cases hv
 exact hc
theorem b0J{l:List Evt.Bat}(h:(Evt.aF l).1=0):(Evt.aF l).2=0:=by
 obtain⟨h1,h2⟩:=Evt.kR h;rw[lE (by omega),Evt.lG l 0 h2]
theorem b7K(v:Value)(l:List Evt.Bat)(w:World)(h:eU w v l)(hE:(Evt.aF l).1=0):
  Calls prog 78 #[v] w fun e w'=> ∃v',e=.returned (.tuple #[v',.agg #[iV ((Evt.aF l).1:Nat),iV ((Evt.aF l).2:Nat)]])∧cT w' w.heap.size v' (rN l)∧Bl w w':=by
 rw[wR hE];obtain⟨hl,h5⟩:=Evt.kR hE;have HA:=hd8 h5;have X0:=aB8 w (.cells #[iV 0,iV 0] 78);have V0:=pM w #[iV 0,iV 0] 78 (by decide);have H1:=rC v l _ (h.below X0);obtain⟨A,C,rfl⟩:=h.shape;have HC:=hd8 (b2V h);rw[b0J hE,hE]at H1⊢;clear h hE h5;go_enter func78,ntmps78
 go_wp2_with fail;refine H1.mono ?_;rintro e w1 ⟨rfl,b1⟩;have bA:=aB8 w1 (.cells #[iV 0,iV 0] 78);have V1:=(V0.off (N:=w.heap.size) (dJ.of_below b1)).off (N:=w.heap.size) (dJ.of_below bA);have bz:=bt (bt X0 b1) bA;have H2:=sN w.heap.size l.length nS [] _ (rV _ _) bz.size (c9D _) (by omega);clear H1 V0 X0 b1;go_wp2_with fail;refine H2.mono ?_;rintro e w2 ⟨v2,rfl,B2,O2⟩;have B2:cT w2 w.heap.size v2 [l.length]:=B2;have V2:=V1.off O2;have b2:=bz.trans (O2.below bz.size);have A2:=b2.size;clear H2 V1 O2 bA bz;go_wp2_with fail;go_loopw [5,19] (fun y x wr=> ∃k:Nat,k≤l.length∧x=iV k∧cT wr w.heap.size y ([l.length]++(l.take k).flatMap Evt.jS)∧dJ w.heap.size w2 wr) (fun _ x _=>l.length-(intOf x).toNat)
 case atStart=>exact⟨0,c9D _,rfl,by simpa using B2,dJ.refl _ _⟩
 case round=>
  obtain⟨k,hk,rfl,BR,OR⟩:=hrel;have A6:=c9E A2 OR.size;have br:=b2.trans (OR.below A2);by_cases A5:k<l.length
  ·have A8:(k:Int)<(l.length:Int):=by omega
   obtain⟨x,hx⟩: ∃x,l[k]?=some x:=⟨l[k],c9F A5⟩;have HT:=hd8 (pT Evt.jS l k x hx);have HZ:=pH Evt.jS 154 k l (fun e he=>a5Y (HA.out e he));obtain⟨b,o,rfl,A7⟩:=HC.out k x hx;obtain⟨A3,A1,A4,he⟩:=A7;have d0:=cB8 br A1;have d1:=cB8 br A4;have A0:=HA.out x (c9N hx);have bA:=aB8 wr (.cells #[iV x.cmd,A3] 47);have HW:=b9F w x.cmd A3 x.evs he u5 _ _ (br.trans (bA.mono A6)) (BR.below bA) (by rw[c9I];simp only[List.length_cons,List.length_nil];omega) A0;have HQ:Hid ((⟨x.cmd,x.evs⟩:Evt.Bat)=x):=rfl;rw[HQ.out]at HW;obtain⟨As,Cs,rfl⟩:=he.shape;clear hx BR HZ A0 he A1 A4;go_wp2_with fail;refine HW.mono ?_;rintro e w3 ⟨v3,rfl,B3,O3⟩;have O3:=(dJ.of_below bA (N:=w.heap.size)).trans O3;have HB:Hid (cT w3 w.heap.size v3 ([l.length]++(l.take (k+1)).flatMap Evt.jS)):=by
    have:=B3;rw[c9X,←HT.out]at this;exact this
   clear HW B3 bA;go_wp2_with fail;exact⟨⟨k+1,by omega,by go_num,HB.out,OR.trans O3⟩,by simp[intOf];omega⟩
  ·obtain rfl:k=l.length:=by omega
   have HB:cT wr w.heap.size u5 (Evt.iK l):=by
    have:=BR;rw[d0L]at this;exact this
   have VZ:=V2.off OR;have c0:=VZ.cell 0 _ rfl;have c1:=VZ.cell 1 _ rfl;have f0:=VZ.frozen 0;have f1:=VZ.frozen 1;clear BR OR;go_wp2_with fail;refine bodyPost_ret (v:=.tuple #[u5,.agg #[iV 0,iV 0]]) (by simp[results,results78,go_sem,c0,c1]) rfl ⟨_,rfl,?_,?_⟩
   ·refine cT.off (S:=fun k=>k=w.heap.size) HB (((Off.refl (fun k=>k=w.heap.size) _).set (p:=⟨w.heap.size,0,none⟩) rfl _).set (p:=⟨w.heap.size,1,none⟩) rfl _) (fun g hg e=>?_);obtain⟨c,hc⟩:=i9 HB hg;rw[e,VZ.hp]at hc;cases hc
   ·exact(br.setCell (c9C _) _).setCell (c9C _) _
theorem b0D(v:Value)(l:List Evt.Bat)(w:World)(h:eU w v l):
  Calls prog 78 #[v] w fun e w'=> ∃v',e=.returned (.tuple #[v',.agg #[iV ((Evt.aF l).1:Nat),iV ((Evt.aF l).2:Nat)]])∧cT w' w.heap.size v' (rN l)∧Bl w w':=by
 by_cases hE:(Evt.aF l).1=0
 ·exact b7K v l w h hE
 ·exact b0T v l w h hE
def cW(w:World)(v:Value)(r:List Nat):Prop:=Evt.bZ r∧ ∃A cap,v=.slice A r.length cap∧r.length≤cap∧cap≤maxLen∧ ∀i x,r[i]?=some x→ ∃b o,A=some (aD b o)∧w.cell? (aD b (o+i))=some (.int .u8 x)
theorem cW.below(h:cW w v r)(hb:Bl w w'):cW w' v r:=by
 obtain⟨h0,A,A0,hv,h1,h2,hc⟩:=h;refine⟨h0,A,A0,hv,h1,h2,fun i x hx=>?_⟩;obtain⟨b,o,e1,e2⟩:=hc i x hx;exact⟨b,o,e1,cB8 hb e2⟩
theorem cW.nil(w:World):cW w nS []:=⟨Evt.bZ.nil,none,0,rfl,c9C _,c9D _,fun i x hx=>by cases hx⟩
theorem cF.list{g:Nat→Nat}(h:cF w v n g):cW w v (bl g n):=by
 obtain⟨bd,A,A0,hv,h1,h2,hc⟩:=h;refine⟨a6X bd n,A,A0,by rw[kI];exact hv,by rw[kI];exact h1,h2,fun i x hx=>?_⟩;have hi:i<n:=by
  have:=(c9H.1 hx).1;rwa[kI]at this
 rw[nM g hi]at hx;cases hx
 exact hc i hi
theorem cW.byts(h:cW w v r):cF w v r.length (fun k=>r.getD k 0):=by
 obtain⟨h0,A,A0,hv,h1,h2,hc⟩:=h;refine⟨fun k=>?_,A,A0,hv,h1,h2,fun i hi=>?_⟩
 ·show r.getD k 0<256;by_cases hk:k<r.length
  ·have:r.getD k 0∈r:=by simp[List.getD,hk]
   exact h0 _ this
  ·simp[List.getD,hk]
 ·have e:r[i]?=some (r.getD i 0):=by simp[List.getD,hi]
  exact hc i _ e
theorem cT.bytL(h:cT w N v bs)(hb:Evt.bZ bs):cW w v bs:=by
 have:=(h.byts hb).list;rw[show bl (fun k=>bs.getD k 0) bs.length=bs from ?_]at this
 ·exact this
 ·bK d1I;intro i;by_cases hi:i<bs.length
  ·rw[nM _ hi];simp[List.getD,hi]
  ·rw[c9Z (by rw[kI];omega),c9Z (by omega)]
structure Rd(W0 w:World)(p:Nat)(st:Evt.St):Prop where
 c0: ∃v,w.cell? (aD p 0)=some v∧cW W0 v st.1
 c1:w.cell? (aD p 1)=some (.bool st.2)
 fr: ∀i,w.frozen? (aD p i)=false
 bel:Bl W0 w
 le:W0.heap.size≤p
theorem Rd.bytes{st:Evt.St}(h:Rd W0 w p st):Evt.bZ st.1:=by
 obtain⟨v,_,h0,_⟩:=h.c0;exact h0
theorem Rd.lt{st:Evt.St}(h:Rd W0 w p st):p<w.heap.size:=World.block_lt_of_cell? _ _ h.c1
theorem Rd.off{st:Evt.St}(h:Rd W0 w p st)(ho:Off S w w')(hS: ¬S p)(hW: ∀k,S k→W0.heap.size≤k):Rd W0 w' p st:=by
 have hb:=ho.block p h.lt hS;obtain⟨v,e1,e2⟩:=h.c0;exact⟨⟨v,(World.cell?_of_block (w:=w) (a:=⟨p,0,none⟩) hb).trans e1,e2⟩,(World.cell?_of_block (w:=w) (a:=⟨p,1,none⟩) hb).trans h.c1,fun i=>(World.frozen?_of_block (w:=w) (a:=⟨p,i,none⟩) hb).trans (h.fr i),h.bel.trans (ho.below h.bel.size hW),h.le⟩
theorem Rd.set{st:Evt.St}(h:Rd W0 w p st)(hv:cW W0 v r):Rd W0 (w.setCell (aD p 0) v) p (r,st.2):=by
 obtain⟨⟨v0,c0,_⟩,c1,fr,A0,le⟩:=h;exact⟨⟨v,by go_simp,hv⟩,by go_simp,fun i=>by have:=fr i;go_simp,A0.setCell le _,le⟩
theorem Rd.fail{st:Evt.St}(h:Rd W0 w p st):Rd W0 ((w.setCell (aD p 0) nS).setCell (aD p 1) (.bool true)) p ([],true):=by
 obtain⟨⟨v0,c0,_⟩,c1,fr,A0,le⟩:=h;exact⟨⟨nS,by go_simp,cW.nil _⟩,by go_simp,fun i=>by have:=fr i;go_simp,(A0.setCell le _).setCell le _,le⟩
theorem b5Z{A:Option Addr}(h:cW w (.slice A r.length C) r)(hn:n≤r.length):cW w (.slice A n C) (r.take n):=by
 obtain⟨h0,A',A0,hv,h1,h2,hc⟩:=h;cases hv
 have hl:(r.take n).length=n:=by simp;omega
 refine⟨h0.take n,A,C,by rw[hl],by omega,h2,fun i x hx=>?_⟩;have hi:i<n:=by
  have:=(c9H.1 hx).1;omega
 rw[d0C,if_pos hi]at hx;exact hc i x hx
theorem b5D(h:cW w (.slice (some (aD b o)) r.length C) r)(hn:n≤r.length):cW w (.slice (some (aD b (o+n))) (r.length-n) (C-n)) (r.drop n):=by
 obtain⟨h0,A',A0,hv,h1,h2,hc⟩:=h;cases hv
 have hl:(r.drop n).length=r.length-n:=by simp
 refine⟨h0.drop n,some (aD b (o+n)),C-n,by rw[hl],by omega,by omega,fun i x hx=>?_⟩;rw[d0J]at hx;obtain⟨b',o',e1,e2⟩:=hc (n+i) x hx;cases e1
 exact⟨b,o+n,rfl,by rw[show o+n+i=o+(n+i) by omega];exact e2⟩
theorem tT(w:World)(A:Option Addr)(hC:C≤maxLen):cW w (.slice A 0 C) []:=⟨Evt.bZ.nil,A,C,rfl,c9D _,hC,fun i x hx=>by cases hx⟩
theorem c5C{st:Evt.St}(h:st.1.length<n):Evt.gF n st=([],([],true)):=if_pos h
theorem b8V{st:Evt.St}(h: ¬st.1.length<n):Evt.gF n st=(st.1.take n,(st.1.drop n,st.2)):=if_neg h
theorem a7U(W0:World)(p n:Nat)(st:Evt.St)(w:World)(h:Rd W0 w p st)(hn:n≤1000000):
  Calls prog 173 #[.pointer (some (aD p 0)),iV n] w fun e w'=> ∃t,e=.returned t∧cW W0 t (Evt.gF n st).1∧Rd W0 w' p (Evt.gF n st).2∧Off (fun k=>k=p) w w':=by
 obtain⟨r,fl⟩:=st;obtain⟨v,k0,hv⟩:=h.c0;have hv:cW W0 v r:=hv;have f0:=h.fr 0;have f1:=h.fr 1;have k1:=h.c1;have A1:=hv;obtain⟨h0,A,C,rfl,h1,h2,hc⟩:=A1;unfold maxLen at h2;by_cases q:r.length<n
 ·have q':(r.length:Int)<(n:Int):=by omega
  rw[c5C (st:=(r,fl)) q];have HF:=hd8 h.fail;clear h hv hc h0;go_enter func173,ntmps173
  go_wp2_with fail;go_ret
  exact⟨_,rfl,cW.nil _,HF.out,((Off.refl (fun k=>k=p) _).set (p:=⟨p,0,none⟩) rfl _).set (p:=⟨p,1,none⟩) rfl _⟩
 have q': ¬(r.length:Int)<(n:Int):=by omega
 rw[b8V (st:=(r,fl)) q];have HT:Hid (cW W0 (.slice A n C) (r.take n)):=b5Z hv (by omega);by_cases q0:1≤r.length
 case neg=>
  obtain rfl:r=[]:=d0N (by omega);obtain rfl:n=0:=by simpa using q
  have HS:Hid (∀A',Rd W0 (w.setCell (aD p 0) (.slice A' 0 C)) p ([],fl)):=fun A'=>h.set (tT W0 A' (by unfold maxLen;omega));have HU:Hid (∀A',cW W0 (.slice A' 0 C) []):=fun A'=>tT W0 A' (by unfold maxLen;omega);clear h hv hc h0 q' q0 q HT;simp only[List.length_nil]at k0 h1;cases A with
  |none=>
   go_enter func173,ntmps173
   go_wp2_with fail;go_ret
   exact⟨_,rfl,HU.out _,HS.out _,(Off.refl (fun k=>k=p) _).set (p:=⟨p,0,none⟩) rfl _⟩
  |some a=>
   go_enter func173,ntmps173
   go_wp2_with fail;go_ret
   exact⟨_,rfl,HU.out _,HS.out _,(Off.refl (fun k=>k=p) _).set (p:=⟨p,0,none⟩) rfl _⟩
 obtain⟨b,o,rfl,hz⟩:=hc 0 r[0] (c9F q0);by_cases A0:C=n
 ·obtain rfl:r.length=n:=by omega
  subst A0;have HS:=hd8 (h.set (tT W0 _ (c9D _)));have HT:=hd8 hv;clear h hv hc h0 q0 q hz;go_enter func173,ntmps173
  go_wp2_with fail;go_ret
  exact⟨_,rfl,HT.out,HS.out,(Off.refl (fun k=>k=p) _).set (p:=⟨p,0,none⟩) rfl _⟩
 ·have HS:Hid (Rd W0 (w.setCell (aD p 0) (.slice (some (aD b (o+n))) (r.length-n) (C-n))) p (r.drop n,fl)):=h.set (b5D hv (by omega));have A2: ¬C=0:=by omega
  clear h hv hc h0 hz q0;go_enter func173,ntmps173
  go_wp2_with fail;go_ret
  exact⟨_,rfl,HT.out,HS.out,(Off.refl (fun k=>k=p) _).set (p:=⟨p,0,none⟩) rfl _⟩
theorem b9Q(t:List Nat)(k x:Nat)(h:t[k]?=some x):Evt.val (t.take (k+1))=256*Evt.val (t.take k)+x:=by
 unfold Evt.val;rw[d1Y,h,List.foldl_append];rfl
theorem c4R{t:List Nat}(hb:Evt.bZ t)(k:Nat)(hk:k≤3):Evt.val (t.take k)<16777216∧(k≤2→Evt.val (t.take k)<65536):=by
 have h1:=Evt.b1Y (t.take k) 0 0 (hb.take k) (by decide);have h2:(t.take k).length≤k:=by simp;omega
 constructor
 ·refine c9P h1 (c9E (d2U (by decide) (show 0+(t.take k).length≤3 by omega)) (by decide))
 ·intro hk2;refine c9P h1 (c9E (d2U (by decide) (show 0+(t.take k).length≤2 by omega)) (by decide))
theorem iX(W0:World)(p s:Nat)(st:Evt.St)(w:World)(h:Rd W0 w p st)(hs:s≤3):
  Calls prog 145 #[.pointer (some (aD p 0)),iV s] w fun e w'=>e=.returned (iV ((Evt.cO s st).1:Nat))∧Rd W0 w' p (Evt.cO s st).2∧Off (fun k=>k=p) w w':=by
 have H1:=a7U W0 p s st w h (by omega);have A0:=Evt.yW s st;rw[Evt.a8H];generalize (Evt.gF s st).1=t at H1 A0⊢;generalize (Evt.gF s st).2=st' at H1⊢;clear h;go_enter func145,ntmps145
 go_wp2_with fail;refine H1.mono ?_;rintro e w1 ⟨v,rfl,⟨hb,A,C,rfl,_,_,hc⟩,R1,O1⟩;have HC:=hd8 hc;have br:=R1.bel;have HR:=hd8 R1;have HB:=hd8 hb;clear H1 R1 hc hb;go_wp2_with fail;go_loop [5,12] (fun y x=> ∃k:Nat,k≤t.length∧x=iV k∧y=iV (Evt.val (t.take k):Nat)) (fun _ x=>t.length-(intOf x).toNat)
 case atStart=>exact⟨0,c9D _,rfl,rfl⟩
 case round=>
  obtain⟨k,hk,rfl,rfl⟩:=hrel;by_cases A2:k<t.length
  ·have A3:(k:Int)<(t.length:Int):=by omega
   obtain⟨x,hx⟩: ∃x,t[k]?=some x:=⟨t[k],c9F A2⟩;obtain⟨b,o,rfl,A1⟩:=HC.out k x hx;have d0:=cB8 br A1;have A4:=HB.out x (c9N hx);have HV:=hd8 (b9Q t k x hx);have hv:=(c4R HB.out k (by omega)).2 (by omega);generalize Evt.val (t.take k)=n at HV hv;have HJ:Hid (bits .or .i64 ((n:Int)*256) (x:Int)=((256*n+x:Nat):Int)):=by
    show bits .or .i64 ((n:Int)*256) (x:Int)=_;rw[show(n:Int)*256=((n*256:Nat):Int) by omega,c0K _ _ (by omega) (by omega),nat_join 8 _ _ (by omega) (by omega),Nat.mul_comm]
   clear hx A1;go_wp2_with fail;exact⟨⟨k+1,by omega,by go_num,cA (by rw[HV.out];exact HJ.out)⟩,by simp[intOf];omega⟩
  ·obtain rfl:k=t.length:=by omega
   go_wp2_with fail;go_ret
   exact⟨rfl,HR.out,O1⟩
theorem a2X: ∀a b:List UInt8,Op.bytesLess a b=Vw.lt (a.map fun x=>x.toNat) (b.map fun x=>x.toNat)
 |[],[]=>rfl
 |_::_,[]=>rfl
 |[],_::_=>rfl
 |a::r,b::s=>by
  show(decide (a<b)||(a==b&&Op.bytesLess r s))=(decide (a.toNat<b.toNat)||(decide (a.toNat=b.toNat)&&Vw.lt (r.map fun x=>x.toNat) (s.map fun x=>x.toNat)))
  rw[a2X r s]
  have h1:decide (a<b)=decide (a.toNat<b.toNat):=decide_eq_decide.2 UInt8.lt_iff_toNat_lt
  have h2:(a==b)=decide (a.toNat=b.toNat):=by
   rw[Bool.eq_iff_iff,beq_iff_eq,decide_eq_true_iff];exact UInt8.toNat_inj.symm
  rw[h1,h2]
theorem wQ(s t:ByteArray):Op.bytesLess s.toList t.toList=Vw.lt (nb s) (nb t):=by
 rw[a2X,d2C,d2C];rfl
theorem mV(s t:ByteArray):(s.toList==t.toList)=decide (nb s=nb t):=by
 rw[Bool.eq_iff_iff,beq_iff_eq,decide_eq_true_iff];exact b2H.symm
def b7C(w:World)(b o:Nat)(a:Vw.Acc):Prop:= ∃s:ByteArray,s.size≤9223372036854775807∧nb s=a.name∧w.cell? (aD b o)=some (.string s)∧w.cell? (aD b (o+1))=some (iV a.sum)∧w.cell? (aD b (o+2))=some (iV a.cnt)∧w.cell? (aD b (o+3))=some (.bool a.opn)
theorem b7C.below{a:Vw.Acc}(h:b7C w b o a)(hb:Bl w w'):b7C w' b o a:=by
 obtain⟨s,h1,h2,c0,c1,c2,c3⟩:=h;have hp:b<w.heap.size:=World.block_lt_of_cell? _ _ c0;exact⟨s,h1,h2,(hb.cell (p:=⟨b,o,none⟩) hp).trans c0,(hb.cell (p:=⟨b,o+1,none⟩) hp).trans c1,(hb.cell (p:=⟨b,o+2,none⟩) hp).trans c2,(hb.cell (p:=⟨b,o+3,none⟩) hp).trans c3⟩
def bJ(w:World)(v:Value)(l:List Vw.Acc):Prop:= ∃A cap,v=.slice A l.length cap∧l.length≤cap∧cap≤maxLen∧ ∀i a,l[i]?=some a→ ∃b o,A=some (aD b o)∧b7C w b (o+i*4) a
theorem bJ.below{l:List Vw.Acc}(h:bJ w v l)(hb:Bl w w'):bJ w' v l:=by
 obtain⟨A,A0,hv,h1,h2,h3⟩:=h;refine⟨A,A0,hv,h1,h2,fun i e he=>?_⟩;obtain⟨b,o,hA,hi⟩:=h3 i e he;exact⟨b,o,hA,hi.below hb⟩
theorem bJ.nil(w:World):bJ w nS []:=⟨none,0,rfl,c9C _,c9D _,fun _ _ he=>(by cases he)⟩
theorem bJ.shape{l:List Vw.Acc}(h:bJ w v l): ∃A C,v=.slice A l.length C:=by
 obtain⟨A,C,hv,_⟩:=h;exact⟨A,C,hv⟩
theorem bJ.len{l:List Vw.Acc}(h:bJ w v l):l.length≤9223372036854775807:=by
 obtain⟨A,C,_,h1,h2,_⟩:=h;unfold maxLen at h2;omega
theorem bJ.some{l:List Vw.Acc}(h:bJ w v l)(hn:1≤l.length): ∃b o cap,v=.slice (some (aD b o)) l.length cap∧l.length≤cap∧cap≤9223372036854775807∧ ∀i e,l[i]?=some e→b7C w b (o+i*4) e:=by
 obtain⟨A,cap,hv,h1,h2,h3⟩:=h;obtain⟨b,o,rfl,_⟩:=h3 0 l[0] (c9F hn);refine⟨b,o,cap,hv,h1,h2,fun i e he=>?_⟩;obtain⟨b',o',e1,e2⟩:=h3 i e he;cases e1
 exact e2
theorem bJ.off{l:List Vw.Acc}(h:bJ w v l)(ho:Off S w w')(hS: ∀g,v.ownBlock=Option.some g→ ¬S g):bJ w' v l:=by
 obtain⟨A,A0,rfl,h1,h2,h3⟩:=h;refine⟨A,A0,rfl,h1,h2,fun i e he=>?_⟩;obtain⟨b,o,rfl,s,q1,q2,c0,c1,c2,c3⟩:=h3 i e he;have hp:b<w.heap.size:=World.block_lt_of_cell? _ _ c0;have hb:=ho.block b hp (hS b rfl);exact⟨b,o,rfl,s,q1,q2,(World.cell?_of_block (w:=w) (a:=⟨b,o+i*4,none⟩) hb).trans c0,(World.cell?_of_block (w:=w) (a:=⟨b,o+i*4+1,none⟩) hb).trans c1,(World.cell?_of_block (w:=w) (a:=⟨b,o+i*4+2,none⟩) hb).trans c2,(World.cell?_of_block (w:=w) (a:=⟨b,o+i*4+3,none⟩) hb).trans c3⟩
def kF(N:Nat)(v:Value):Prop:= ∀g,v.ownBlock=some g→N≤g
theorem a0A(N:Nat):kF N nS:=fun _ hg=>(by cases hg)
theorem kF.mono(h:kF N v)(hM:M≤N):kF M v:=fun g hg=>c9E hM (h g hg)
def AcV(v:Value)(a:Vw.Acc):Prop:= ∃s:ByteArray,s.size≤9223372036854775807∧nb s=a.name∧v=.agg #[.string s,iV a.sum,iV a.cnt,.bool a.opn]
theorem Tryz.infoAccount:(Tryz.prog.info? 93).map (fun i=>(i.zero,i.size,i.bytes))=some (some (.agg #[.string ByteArray.empty,iV 0,iV 0,.bool false]),4,40):=by kernel_rfl
abbrev AcC:=ByteArray×Int×Int×Bool
def aP(e:AcC):List Value:=[.string e.1,iV e.2.1,iV e.2.2.1,.bool e.2.2.2]
def gD(e:AcC):Vw.Acc:=⟨nb e.1,e.2.1,e.2.2.1,e.2.2.2⟩
def eV(w:World)(N:Nat)(v:Value)(es:List AcC):Prop:=w.ownsRow N 93 4 v es.length (es.flatMap aP)∧ ∀e,e∈es→e.1.size≤9223372036854775807
theorem eV.nil(w:World)(N:Nat):eV w N nS []:=⟨World.ownsRow_nil w N _ 4,fun e he=>by cases he⟩
theorem eV.below{es:List AcC}(h:eV w N v es)(hb:Bl w w'):eV w' N v es:=⟨aK h.1 hb,h.2⟩
theorem eV.past{es:List AcC}(h:eV w N v es):kF N v:=fun g hg=>(h.1.lt g hg).1
theorem eV.accs{es:List AcC}(h:eV w N v es):bJ w v (es.map gD):=by
 by_cases hn:1≤es.length
 ·obtain⟨g,A0,rfl,_,h1,h2,_,hc⟩:=dB h.1 hn;refine⟨some (aD g 0),A0,by rw[c9M],by rw[c9M];exact h1,h2,fun i e he=>?_⟩;rw[c9S]at he;obtain⟨x,hx,rfl⟩:=c9J.1 he;have hf:=fun t ht=>dQ aP 4 es (fun _ _=>rfl) i t ht x hx;exact⟨g,0,rfl,x.1,h.2 x (c9N hx),rfl,by rw[c9G];exact hc _ _ (hf 0 (by decide)),by rw[c9G];exact hc _ _ (hf 1 (by decide)),by rw[c9G];exact hc _ _ (hf 2 (by decide)),by rw[c9G];exact hc _ _ (hf 3 (by decide))⟩
 ·obtain rfl:es=[]:=d0N (by omega);rcases h.1.2 with⟨rfl,_⟩|⟨g,A0,A1,rfl,_,_,hc,hm,_⟩
  ·exact bJ.nil w
  ·exact⟨_,A0,rfl,hc,hm,fun i e he=>by cases he⟩
theorem a1U(s s':ByteArray)(k k' m m':Int)(b b':Bool)(w:World):(Op.equalIn 10000 93 (.agg #[.string s,iV k,iV m,.bool b]) (.agg #[.string s',iV k',iV m',.bool b'])).run prog w=.ok (s.toList==s'.toList&&(k==k'&&(m==m'&&b==b'))) w:=by
 have u3:=underlying3;have u9:=underlying9;have u4:=underlying4;have a3:=Tryz.isAgg3;have z3:=Tryz.sizeOf3;have a9:=Tryz.isAgg9;have z9:=Tryz.sizeOf9;have a4:=Tryz.isAgg4;have z4:=Tryz.sizeOf4;have hS:prog.underlying 93=some (.struct (prog.fieldsOf 93)):=by kernel_rfl
 have hp:prog.stoodInHeld 93=false:=by kernel_rfl
 rw[show(10000:Nat)=9999+1 from rfl,run_equalIn_agg w 9999 93 _ _ hS hp];simp only[Program.fieldsOf,underlying93];go_simp
 by_cases h1:s.toList=s'.toList<;>by_cases h2:k=k'<;>by_cases h3:m=m'<;>by_cases h4:b=b'<;>simp[h1,h2,h3,h4]
theorem c7R{a a':Vw.Acc}(h:AcV v a)(h':AcV v' a'): ∃y:Bool,(y=true↔a=a')∧(∀w,(binOp .eql 93 v v').run prog w=.ok (.bool y) w)∧ ∀w,(binOp .neq 93 v v').run prog w=.ok (.bool !y) w:=by
 obtain⟨s,_,h2,rfl⟩:=h;obtain⟨s',_,A0,rfl⟩:=h';refine⟨s.toList==s'.toList&&(a.sum==a'.sum&&(a.cnt==a'.cnt&&a.opn==a'.opn)),?_,fun w=>?_,fun w=>?_⟩
 ·rw[Bool.and_eq_true,Bool.and_eq_true,Bool.and_eq_true,beq_iff_eq,beq_iff_eq,beq_iff_eq,beq_iff_eq,←b2H,h2,A0];obtain⟨n,k,m,b⟩:=a;obtain⟨n',k',m',b'⟩:=a';simp
 ·rw[run_eql_struct,a1U];rfl
 ·rw[run_neq_struct,a1U];rfl
theorem zH(s:ByteArray)(k m:Int)(b:Bool)(w:World):(Instr.field 93 (.agg #[.string s,iV k,iV m,.bool b]) 2).run prog w=.ok (iV m) w:=by
 have u:=underlying93;have a3:=Tryz.isAgg3;have z3:=Tryz.sizeOf3;unfold Instr.field;simp[run_underlying u,asAgg,part,a3,z3]
structure pD(w:World)(p:Nat)(a b c d:Value):Prop where
 c0:w.cell? (aD p 0)=some a
 c1:w.cell? (aD p 1)=some b
 c2:w.cell? (aD p 2)=some c
 c3:w.cell? (aD p 3)=some d
 fr: ∀i,w.frozen? (aD p i)=false
theorem iF(w:World)(t:TypeId)(a b c d:Value):pD (w.alloc (.cells #[a,b,c,d] t)) w.heap.size a b c d:=by
 have hr:=World.rowIs_alloc w #[a,b,c,d] t (fun k=>#[a,b,c,d].getD k a) (fun i hi=>by simp only[Array.getElem?_eq_getElem hi,Array.getD,hi,dif_pos];rfl);exact⟨hr.cell (i:=0) (by simp),hr.cell (i:=1) (by simp),hr.cell (i:=2) (by simp),hr.cell (i:=3) (by simp),fun i=>hr.frozen i⟩
theorem pD.below{a b c d:Value}(h:pD w p a b c d)(hb:Bl w w'):pD w' p a b c d:=by
 have hp:p<w.heap.size:=World.block_lt_of_cell? _ _ h.c0
 exact⟨(hb.cell (p:=⟨p,0,none⟩) hp).trans h.c0,(hb.cell (p:=⟨p,1,none⟩) hp).trans h.c1,(hb.cell (p:=⟨p,2,none⟩) hp).trans h.c2,(hb.cell (p:=⟨p,3,none⟩) hp).trans h.c3,fun i=>by
  rw[←h.fr i]
  exact World.frozen?_of_block (hb.block p hp)⟩
end Go.Proofs.YtmcaejooaaahdaaGreat
