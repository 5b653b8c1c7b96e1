import Derived.Test.YtmcaejooaaahdaaGreatZ05
set_option maxHeartbeats 8000000
set_option maxRecDepth 100000
namespace Go.Proofs.YtmcaejooaaahdaaGreat
open Go.Proofs.Tryz
variable {b k o p:Nat} {v:Value} {w w':World}
open Go.RowKit
def nb(s:ByteArray):List Nat:=s.data.toList.map fun b=>b.toNat
def ch(s:ByteArray)(k:Nat):Nat:=(s.data.toList.getD k 0).toNat
theorem gF(s:ByteArray):(nb s).length=s.size:=by simp[nb]
theorem c8V(s:ByteArray)(k:Nat):ch s k<256:=UInt8.toNat_lt _
theorem c3I(s:ByteArray)(h:k<s.size):(nb s)[k]?=some (ch s k):=by
 have h':k<s.data.toList.length:=by simpa using h
 unfold nb ch;generalize s.data.toList=l at h';simp[List.getD,h']
theorem c7D{s:ByteArray}{c:Nat}(h:c∈nb s): ∃k,k<s.size∧c=ch s k:=by
 obtain⟨k,hk,e⟩:=d1P.1 h;rw[gF]at hk;refine⟨k,hk,?_⟩;have:=c3I s hk;rw[c9F (by rw[gF];exact hk),Option.some.injEq]at this;rw[←e,this]
theorem qC{s:ByteArray}(hk:k<s.size)(h: ¬Evt.eR (ch s k)=true): ¬Evt.cV (nb s):=fun q=>
 h (List.all_eq_true.1 q.1 _ (c9N (c3I s hk)))
theorem a1Q(s:ByteArray)(h: ∀j,j<s.size→Evt.eR (ch s j)=true):Evt.cV (nb s)↔1≤s.size∧s.size≤10:=by
 unfold Evt.cV;rw[gF];refine⟨fun q=>q.2,fun q=>⟨List.all_eq_true.2 (fun c hc=>?_),q⟩⟩;obtain⟨k,hk,rfl⟩:=c7D hc;exact h k hk
theorem nP(s:ByteArray)(w:World)(hs:s.size≤9223372036854775807):
  Calls prog 35 #[.string s] w fun e w'=>rM e (Evt.cV (nb s))∧Bl w w':=by
 have A2:=Lib.run_convert_string_bytes (P:=prog) w 9 59 5 s underlying9 underlying59 underlying5;have A0:=l9 w 5 s;have A3: ∀j,j<s.size→(Lib.bytesWorld w 5 s).cell? (aD w.heap.size j)=some (.int .u8 (ch s j:Nat)):=Lib.bytesWorld_cell w 5 s;generalize Lib.bytesWorld w 5 s=W at A2 A0 A3;generalize grownCap w s.size 0 5=C at A2;go_enter func35,ntmps35
 go_wp2_with fail;clear A2;go_loop [8] (fun x=> ∃k:Nat,k≤s.size∧x=iV k∧Hid (∀j,j<k→Evt.eR (ch s j)=true)) (fun x=>s.size-(intOf x).toNat)
 case atStart=>exact⟨0,c9D _,rfl,fun j hj=>absurd hj (c9L j)⟩
 case round=>
  obtain⟨k,hk,rfl,HS⟩:=hrel;by_cases A1:k<s.size
  ·have A8:(k:Int)<(s.size:Int):=by omega
   have t:=A3 k A1;obtain⟨x,A4⟩: ∃x,ch s k=x:=⟨_,rfl⟩;have A5:=c8V s k;have HX:Hid (ch s k=x):=A4;rw[A4]at t A5;by_cases q0:97≤x∧x≤122
   ·have HL:Hid (Evt.eR (ch s k)=true):=by
     show Evt.eR _=true;rw[Evt.eO,HX.out];omega
    have f1:(97:Int)≤(x:Int):=by omega
    have f2:(x:Int)≤122:=by omega
    have f3:(48:Int)≤(x:Int):=by omega
    have f4: ¬(x:Int)≤57:=by omega
    go_wp2_with fail;refine⟨⟨k+1,by omega,by go_num,fun j hj=>?_⟩,by simp[intOf];omega⟩;by_cases e:j=k
    ·rw[e];exact HL.out
    ·exact HS.out j (by omega)
   by_cases q1:48≤x∧x≤57
   ·have HL:Hid (Evt.eR (ch s k)=true):=by
     show Evt.eR _=true;rw[Evt.eO,HX.out];omega
    have f1: ¬(97:Int)≤(x:Int):=by omega
    have f2:(x:Int)≤122:=by omega
    have f3:(48:Int)≤(x:Int):=by omega
    have f4:(x:Int)≤57:=by omega
    go_wp2_with fail;refine⟨⟨k+1,by omega,by go_num,fun j hj=>?_⟩,by simp[intOf];omega⟩;by_cases e:j=k
    ·rw[e];exact HL.out
    ·exact HS.out j (by omega)
   by_cases q2:x<48
   ·have HN:Hid (¬Evt.cV (nb s)):=qC A1 (by rw[Evt.eO,HX.out];omega);have f1: ¬(97:Int)≤(x:Int):=by omega
    have f2:(x:Int)≤122:=by omega
    have f3: ¬(48:Int)≤(x:Int):=by omega
    have f4:(x:Int)≤57:=by omega
    go_wp2_with fail;go_ret
    exact⟨cZ HN.out,A0⟩
   by_cases q3:122<x
   ·have HN:Hid (¬Evt.cV (nb s)):=qC A1 (by rw[Evt.eO,HX.out];omega);have f1:(97:Int)≤(x:Int):=by omega
    have f2: ¬(x:Int)≤122:=by omega
    have f3:(48:Int)≤(x:Int):=by omega
    have f4: ¬(x:Int)≤57:=by omega
    go_wp2_with fail;go_ret
    exact⟨cZ HN.out,A0⟩
   ·have HN:Hid (¬Evt.cV (nb s)):=qC A1 (by rw[Evt.eO,HX.out];omega);have f1: ¬(97:Int)≤(x:Int):=by omega
    have f2:(x:Int)≤122:=by omega
    have f3:(48:Int)≤(x:Int):=by omega
    have f4: ¬(x:Int)≤57:=by omega
    go_wp2_with fail;go_ret
    exact⟨cZ HN.out,A0⟩
  ·obtain rfl:k=s.size:=by omega
   have HI:=a1Q s HS.out;by_cases p1:1≤s.size
   ·have A6:(0:Int)<(s.size:Int):=by omega
    by_cases p2:s.size≤10
    ·have A7:(s.size:Int)≤10:=by omega
     have HY:Hid (Evt.cV (nb s)):=HI.2 ⟨p1,p2⟩;clear HI;go_wp2_with fail;go_ret
     exact⟨gP HY.out,A0⟩
    ·have A7: ¬(s.size:Int)≤10:=by omega
     have HN:Hid (¬Evt.cV (nb s)):=fun q=>p2 (HI.1 q).2;clear HI;go_wp2_with fail;go_ret
     exact⟨cZ HN.out,A0⟩
   ·have A6: ¬(0:Int)<(s.size:Int):=by omega
    have HN:Hid (¬Evt.cV (nb s)):=fun q=>p1 (HI.1 q).1;clear HI;go_wp2_with fail;go_ret
    exact⟨cZ HN.out,A0⟩
structure b8F(w:World)(p:Nat)(a b c:Value):Prop where
 c0:w.cell? (aD p 0)=some a
 c1:w.cell? (aD p 1)=some b
 c2:w.cell? (aD p 2)=some c
theorem iF(w:World)(a b c:Value):b8F (w.alloc (.cells #[a,b,c] 83)) w.heap.size a b c:=by
 have hr:=World.rowIs_alloc w #[a,b,c] 83 (fun k=>#[a,b,c].getD k a) (fun i hi=>by simp only[Array.getElem?_eq_getElem hi,Array.getD,hi,dif_pos];rfl);exact⟨hr.cell (i:=0) (by simp),hr.cell (i:=1) (by simp),hr.cell (i:=2) (by simp)⟩
theorem b8F.bE{a b c:Value}(h:b8F w p a b c)(hb:Bl w w'):b8F w' p a b c:=by
 have hp:p<w.heap.size:=World.block_lt_of_cell? _ _ h.c0;exact⟨(hb.cell (p:=⟨p,0,none⟩) hp).trans h.c0,(hb.cell (p:=⟨p,1,none⟩) hp).trans h.c1,(hb.cell (p:=⟨p,2,none⟩) hp).trans h.c2⟩
theorem qJ(s:ByteArray)(k m:Int)(w:World)(hs:s.size≤9223372036854775807):
  Calls prog 92 #[.agg #[.string s,iV k,iV m]] w fun e w'=>e=.returned (iV (Evt.aB ⟨nb s,k,m⟩:Nat))∧Bl w w':=by
 have HN:=fun w'=>nP s w' hs;have A0:=aB8 w (.cells #[.string s,iV k,iV m] 83);have V0:=iF w (.string s) (iV k) (iV m);by_cases A1:Evt.cV (nb s)
 case neg=>
  have hn:=hd8 A1;have H:Hid (Evt.aB ⟨nb s,k,m⟩=7):=Evt.pK A1;clear A1;go_enter func92,ntmps92
  go_wp2_with fail;refine(HN _).mono ?_;rintro e w1 ⟨⟨y,rfl,hy⟩,b1⟩;obtain⟨c0,c1,c2⟩:=V0.bE b1;have b1:=bt A0 b1;obtain rfl:y=false:=by cases y with|false=>rfl|true=>exact absurd (hy.1 rfl) hn.out
  clear hy HN V0;go_wp2_with fail;go_ret
  exact⟨aH (by rw[H.out];rfl),b1⟩
 have hn:=hd8 A1;clear A1;by_cases q0:k<1
 ·have H:Hid (Evt.aB ⟨nb s,k,m⟩=1):=Evt.lD hn.out (Or.inl q0);go_enter func92,ntmps92
  go_wp2_with fail;refine(HN _).mono ?_;rintro e w1 ⟨⟨y,rfl,hy⟩,b1⟩;obtain⟨c0,c1,c2⟩:=V0.bE b1;have b1:=bt A0 b1;obtain rfl:y=true:=hy.2 hn.out;clear hy HN V0;go_wp2_with fail;go_ret
  exact⟨aH (by rw[H.out];rfl),b1⟩
 by_cases q1:4<k
 ·have H:Hid (Evt.aB ⟨nb s,k,m⟩=1):=Evt.lD hn.out (Or.inr q1);go_enter func92,ntmps92
  go_wp2_with fail;refine(HN _).mono ?_;rintro e w1 ⟨⟨y,rfl,hy⟩,b1⟩;obtain⟨c0,c1,c2⟩:=V0.bE b1;have b1:=bt A0 b1;obtain rfl:y=true:=hy.2 hn.out;clear hy HN V0;go_wp2_with fail;go_ret
  exact⟨aH (by rw[H.out];rfl),b1⟩
 have hk:Hid (¬(k<1∨4<k)):=show¬(_∨_) by omega
 by_cases q2:m<0
 ·have H:Hid (Evt.aB ⟨nb s,k,m⟩=3):=Evt.gA hn.out hk.out (Or.inl q2);go_enter func92,ntmps92
  go_wp2_with fail;refine(HN _).mono ?_;rintro e w1 ⟨⟨y,rfl,hy⟩,b1⟩;obtain⟨c0,c1,c2⟩:=V0.bE b1;have b1:=bt A0 b1;obtain rfl:y=true:=hy.2 hn.out;clear hy HN V0;go_wp2_with fail;go_ret
  exact⟨aH (by rw[H.out];rfl),b1⟩
 by_cases q3:1000000<m
 ·have H:Hid (Evt.aB ⟨nb s,k,m⟩=3):=Evt.gA hn.out hk.out (Or.inr (Or.inl q3));go_enter func92,ntmps92
  go_wp2_with fail;refine(HN _).mono ?_;rintro e w1 ⟨⟨y,rfl,hy⟩,b1⟩;obtain⟨c0,c1,c2⟩:=V0.bE b1;have b1:=bt A0 b1;obtain rfl:y=true:=hy.2 hn.out;clear hy HN V0;go_wp2_with fail;go_ret
  exact⟨aH (by rw[H.out];rfl),b1⟩
 by_cases q4:m=0
 ·have H:Hid (Evt.aB ⟨nb s,k,m⟩=0):=Evt.f9 hn.out hk.out (show¬(m<0∨1000000<m∨(0<m∧k≠2∧k≠3)) by omega);have g4: ¬0<m:=by omega
  clear q4;go_enter func92,ntmps92
  go_wp2_with fail;refine(HN _).mono ?_;rintro e w1 ⟨⟨y,rfl,hy⟩,b1⟩;obtain⟨c0,c1,c2⟩:=V0.bE b1;have b1:=bt A0 b1;obtain rfl:y=true:=hy.2 hn.out;clear hy HN V0;go_wp2_with fail;go_ret
  exact⟨aH (by rw[H.out];rfl),b1⟩
 have g4:0<m:=by omega
 by_cases q5:k=2
 ·have H:Hid (Evt.aB ⟨nb s,k,m⟩=0):=Evt.f9 hn.out hk.out (show¬(m<0∨1000000<m∨(0<m∧k≠2∧k≠3)) by omega);have g5:(k !=2)=false:=by rw[q5];rfl
  clear q5;go_enter func92,ntmps92
  go_wp2_with fail;refine(HN _).mono ?_;rintro e w1 ⟨⟨y,rfl,hy⟩,b1⟩;obtain⟨c0,c1,c2⟩:=V0.bE b1;have b1:=bt A0 b1;obtain rfl:y=true:=hy.2 hn.out;clear hy HN V0;go_wp2_with fail;go_ret
  exact⟨aH (by rw[H.out];rfl),b1⟩
 have g5:(k !=2)=true:=by rw[bne_iff_ne];exact q5
 by_cases q6:k=3
 ·have H:Hid (Evt.aB ⟨nb s,k,m⟩=0):=Evt.f9 hn.out hk.out (show¬(m<0∨1000000<m∨(0<m∧k≠2∧k≠3)) by omega);have g6:(k !=3)=false:=by rw[q6];rfl
  clear q6;go_enter func92,ntmps92
  go_wp2_with fail;refine(HN _).mono ?_;rintro e w1 ⟨⟨y,rfl,hy⟩,b1⟩;obtain⟨c0,c1,c2⟩:=V0.bE b1;have b1:=bt A0 b1;obtain rfl:y=true:=hy.2 hn.out;clear hy HN V0;go_wp2_with fail;go_ret
  exact⟨aH (by rw[H.out];rfl),b1⟩
 have g6:(k !=3)=true:=by rw[bne_iff_ne];exact q6
 have H:Hid (Evt.aB ⟨nb s,k,m⟩=3):=Evt.gA hn.out hk.out (Or.inr (Or.inr ⟨g4,q5,q6⟩));clear q5 q6;go_enter func92,ntmps92
 go_wp2_with fail;refine(HN _).mono ?_;rintro e w1 ⟨⟨y,rfl,hy⟩,b1⟩;obtain⟨c0,c1,c2⟩:=V0.bE b1;have b1:=bt A0 b1;obtain rfl:y=true:=hy.2 hn.out;clear hy HN V0;go_wp2_with fail;go_ret
 exact⟨aH (by rw[H.out];rfl),b1⟩
def a7E(w:World)(b o:Nat)(e:Evt.Ev):Prop:= ∃s:ByteArray,s.size≤9223372036854775807∧nb s=e.name∧w.cell? (aD b o)=some (.string s)∧w.cell? (aD b (o+1))=some (iV e.kind)∧w.cell? (aD b (o+2))=some (iV e.num)
theorem a7E.bE{e:Evt.Ev}(h:a7E w b o e)(hb:Bl w w'):a7E w' b o e:=by
 obtain⟨s,h1,h2,c0,c1,c2⟩:=h;have hp:b<w.heap.size:=World.block_lt_of_cell? _ _ c0;exact⟨s,h1,h2,(hb.cell (p:=⟨b,o,none⟩) hp).trans c0,(hb.cell (p:=⟨b,o+1,none⟩) hp).trans c1,(hb.cell (p:=⟨b,o+2,none⟩) hp).trans c2⟩
def Evs(w:World)(v:Value)(es:List Evt.Ev):Prop:= ∃A cap,v=.slice A es.length cap∧es.length≤cap∧cap≤maxLen∧ ∀i e,es[i]?=some e→ ∃b o,A=some (aD b o)∧a7E w b (o+i*3) e
theorem Evs.bE{es:List Evt.Ev}(h:Evs w v es)(hb:Bl w w'):Evs w' v es:=by
 obtain⟨A,A0,hv,h1,h2,h3⟩:=h;refine⟨A,A0,hv,h1,h2,fun i e he=>?_⟩;obtain⟨b,o,hA,hi⟩:=h3 i e he;exact⟨b,o,hA,hi.bE hb⟩
theorem Evs.some{es:List Evt.Ev}(h:Evs w v es)(hn:1≤es.length): ∃b o cap,v=.slice (some (aD b o)) es.length cap∧es.length≤cap∧cap≤9223372036854775807∧ ∀i e,es[i]?=some e→a7E w b (o+i*3) e:=by
 obtain⟨A,cap,hv,h1,h2,h3⟩:=h;obtain⟨b,o,rfl,_⟩:=h3 0 es[0] (c9F hn);refine⟨b,o,cap,hv,h1,h2,fun i e he=>?_⟩;obtain⟨b',o',e1,e2⟩:=h3 i e he;cases e1
 exact e2
def oO(w:World)(b o:Nat)(x:Evt.Bat):Prop:= ∃v,w.cell? (aD b o)=some (iV x.cmd)∧w.cell? (aD b (o+1))=some v∧Evs w v x.evs
theorem oO.bE{x:Evt.Bat}(h:oO w b o x)(hb:Bl w w'):oO w' b o x:=by
 obtain⟨v,c0,c1,he⟩:=h;have hp:b<w.heap.size:=World.block_lt_of_cell? _ _ c0;exact⟨v,(hb.cell (p:=⟨b,o,none⟩) hp).trans c0,(hb.cell (p:=⟨b,o+1,none⟩) hp).trans c1,he.bE hb⟩
def eS(w:World)(v:Value)(l:List Evt.Bat):Prop:= ∃A cap,v=.slice A l.length cap∧l.length≤cap∧cap≤maxLen∧ ∀i x,l[i]?=some x→ ∃b o,A=some (aD b o)∧oO w b (o+i*2) x
theorem eS.bE{l:List Evt.Bat}(h:eS w v l)(hb:Bl w w'):eS w' v l:=by
 obtain⟨A,A0,hv,h1,h2,h3⟩:=h;refine⟨A,A0,hv,h1,h2,fun i e he=>?_⟩;obtain⟨b,o,hA,hi⟩:=h3 i e he;exact⟨b,o,hA,hi.bE hb⟩
theorem eS.some{l:List Evt.Bat}(h:eS w v l)(hn:1≤l.length): ∃b o cap,v=.slice (some (aD b o)) l.length cap∧l.length≤cap∧cap≤9223372036854775807∧ ∀i x,l[i]?=some x→oO w b (o+i*2) x:=by
 obtain⟨A,cap,hv,h1,h2,h3⟩:=h;obtain⟨b,o,rfl,_⟩:=h3 0 l[0] (c9F hn);refine⟨b,o,cap,hv,h1,h2,fun i e he=>?_⟩;obtain⟨b',o',e1,e2⟩:=h3 i e he;cases e1
 exact e2
theorem Evs.sE{es:List Evt.Ev}(h:Evs w v es): ∃A C,v=.slice A es.length C:=by
 obtain⟨A,C,hv,_⟩:=h;exact⟨A,C,hv⟩
structure dU(w:World)(p:Nat)(a b:Value):Prop where
 c0:w.cell? (aD p 0)=some a
 c1:w.cell? (aD p 1)=some b
 fr: ∀i,w.frozen? (aD p i)=false
theorem aO(w:World)(t:TypeId)(a b:Value):dU (w.alloc (.cells #[a,b] t)) w.heap.size a b:=by
 have hr:=World.rowIs_alloc w #[a,b] t (fun k=>#[a,b].getD k a) (fun i hi=>by simp only[Array.getElem?_eq_getElem hi,Array.getD,hi,dif_pos];rfl);exact⟨hr.cell (i:=0) (by simp),hr.cell (i:=1) (by simp),fun i=>hr.frozen i⟩
theorem dU.bE{a b:Value}(h:dU w p a b)(hb:Bl w w'):dU w' p a b:=by
 have hp:p<w.heap.size:=World.block_lt_of_cell? _ _ h.c0
 exact⟨(hb.cell (p:=⟨p,0,none⟩) hp).trans h.c0,(hb.cell (p:=⟨p,1,none⟩) hp).trans h.c1,fun i=>by
  rw[←h.fr i]
  exact World.frozen?_of_block (hb.block p hp)⟩
theorem lR(c:Int)(vs:Value)(es:List Evt.Ev)(w:World)(h:Evs w vs es):
  Calls prog 59 #[.agg #[iV c,vs]] w fun e w'=>e=.returned (.agg #[iV ((Evt.aA ⟨c,es⟩).1:Nat),iV ((Evt.aA ⟨c,es⟩).2:Nat)])∧Bl w w':=by
 obtain⟨A,C,rfl⟩:=h.sE;have A0:=aB8 w (.cells #[iV c,.slice A es.length C] 47);have A6:Bl w ((w.alloc (.cells #[iV c,.slice A es.length C] 47)).alloc (.cells #[iV 0,iV 0] 78)):=A0.alloc A0.size _;by_cases q0:c<1
 ·have H:Hid (Evt.aA ⟨c,es⟩=(3,0)):=Evt.bI (Or.inl q0);go_enter func59,ntmps59
  go_wp2_with fail;refine bodyPost_ret (v:=.agg #[iV 3,iV 0]) (by simp[results,results59,go_sem]) rfl ⟨by rw[H.out];rfl,?_⟩;exact A0.alloc A0.size _
 by_cases q1:1000000<c
 ·have H:Hid (Evt.aA ⟨c,es⟩=(3,0)):=Evt.bI (Or.inr q1);go_enter func59,ntmps59
  go_wp2_with fail;refine bodyPost_ret (v:=.agg #[iV 3,iV 0]) (by simp[results,results59,go_sem]) rfl ⟨by rw[H.out];rfl,?_⟩;exact A0.alloc A0.size _
 have hk:Hid (¬(c<1∨1000000<c)):=show¬(_∨_) by omega
 by_cases q2:es.length=0
 ·have H:Hid (Evt.aA ⟨c,es⟩=(5,0)):=Evt.eB hk.out (Or.inl q2);have g2:((es.length:Int)==0)=true:=by rw[beq_iff_eq];omega
  clear q2;go_enter func59,ntmps59
  go_wp2_with fail;refine bodyPost_ret (v:=.agg #[iV 5,iV 0]) (by simp[results,results59,go_sem]) rfl ⟨by rw[H.out];rfl,?_⟩;exact A0.alloc A0.size _
 have g2:((es.length:Int)==0)=false:=by rw[beq_eq_false_iff_ne];omega
 by_cases q3:10<es.length
 ·have H:Hid (Evt.aA ⟨c,es⟩=(5,0)):=Evt.eB hk.out (Or.inr q3);have g3:(10:Int)<(es.length:Int):=by omega
  go_enter func59,ntmps59
  go_wp2_with fail;refine bodyPost_ret (v:=.agg #[iV 5,iV 0]) (by simp[results,results59,go_sem]) rfl ⟨by rw[H.out];rfl,?_⟩;exact A0.alloc A0.size _
 have g3: ¬(10:Int)<(es.length:Int):=by omega
 have HE:Hid (Evt.aA ⟨c,es⟩=Evt.gV es 0):=Evt.pE hk.out (show¬(es.length=0∨10<es.length) by omega);obtain⟨b,o,C',hv,Ae,Af,hc⟩:=h.some (by omega);cases hv
 have VF:=aO (w.alloc (.cells #[iV c,.slice (some (aD b o)) es.length C] 47)) 78 (iV 0) (iV 0);have A7:(w.alloc (.cells #[iV c,.slice (some (aD b o)) es.length C] 47)).heap.size=w.heap.size+1:=by simp
 rw[A7]at VF;clear A7;go_enter func59,ntmps59
 go_wp2_with fail;generalize (w.alloc (.cells #[iV c,.slice (some (aD b o)) es.length C] 47)).alloc (.cells #[iV 0,iV 0] 78)=W0 at A6 VF⊢;go_loopw [29] (fun x wr=> ∃k:Nat,k≤es.length∧x=iV k∧Hid (∀j,j<k→ ∃e,es[j]?=some e∧Evt.aB e=0)∧Bl W0 wr) (fun x _=>es.length-(intOf x).toNat)
 case atStart=>exact⟨0,c9D _,rfl,fun j hj=>absurd hj (c9L j),Below.refl _ _⟩
 case round=>
  obtain⟨k,Ag,rfl,HS,A1⟩:=hrel;have bz:=bt A6 A1;by_cases A9:k<es.length
  ·have Aa:(k:Int)<(es.length:Int):=by omega
   obtain⟨ev,A2⟩: ∃ev,es[k]?=some ev:=⟨es[k],c9F A9⟩;have A5:=hd8 A2;obtain⟨s,Ab,A3,d0,d1,d2⟩:=(hc k ev A2).bE bz;have Ad:=hd8 A3;have HW:=qJ s ev.kind ev.num (wr.alloc (.cells #[.string s,iV ev.kind,iV ev.num] 83)) Ab;have HQ:Hid (Evt.aB ⟨nb s,ev.kind,ev.num⟩=Evt.aB ev):=by
    show Evt.aB _=_;rw[A3]
   clear A2 A3 hc;rw[HQ.out]at HW;have bA:=aB8 wr (.cells #[.string s,iV ev.kind,iV ev.num] 83);by_cases hE:Evt.aB ev=0
   ·have A8:=hd8 hE;rw[hE]at HW;clear hE;go_wp2_with fail;refine HW.mono ?_;rintro e w1 ⟨rfl,b1⟩;have b1:=bt bA b1;clear HW;go_wp2_with fail;refine⟨⟨k+1,by omega,by go_num,fun j hj=>?_,bt A1 b1⟩,by simp[intOf];omega⟩;by_cases e:j=k
    ·rw[e];exact⟨ev,A5.out,A8.out⟩
    ·exact HS.out j (by omega)
   ·have A4:=hd8 (Evt.wF es k ev A5.out hE HS.out);generalize Evt.aB ev=x at HW A4 hE;have Ac:((x:Int)==0)=false:=by rw[beq_eq_false_iff_ne];omega
    have Ah:((x:Int) !=0)=true:=by rw[bne,Ac];rfl
    clear hE;go_wp2_with fail;refine HW.mono ?_;rintro e w1 ⟨rfl,b1⟩;have b1:=bt bA b1;obtain⟨c0,c1,fr⟩:=(VF.bE A1).bE b1;have f0:=fr 0;have f1:=fr 1;clear HW;go_wp2_with fail;refine bodyPost_ret (v:=.agg #[iV x,iV k]) (by simp[results,results59,go_sem,c0,c1]) rfl ⟨by rw[HE.out,A4.out],?_⟩;exact((bt bz b1).setCell (c9O _) _).setCell (c9O _) _
  ·obtain rfl:k=es.length:=by omega
   have HZ:Hid (Evt.gV es 0=(0,0)):=Evt.vG es 0 (fun e he=>by
    obtain⟨j,hj,rfl⟩:=d1P.1 he;obtain⟨e',h1,h2⟩:=HS.out j hj;rw[c9F hj,Option.some.injEq]at h1;rw[h1]
    exact h2)
   obtain⟨c0,c1,fr⟩:=VF.bE A1;have f0:=fr 0;have f1:=fr 1;clear hc;go_wp2_with fail;refine bodyPost_ret (v:=.agg #[iV 0,iV 0]) (by simp[results,results59,go_sem,c0,c1]) rfl ⟨by rw[HE.out,HZ.out];rfl,?_⟩;exact(bz.setCell (c9O _) _).setCell (c9O _) _
theorem b6W(x:Nat)(w:World)(hx:x<256):Calls prog 85 #[.int .u8 x] w fun e w'=>rM e (Evt.eR x=true)∧w'=w:=by
 by_cases q0:97≤x∧x≤122
 ·have H:Hid (Evt.eR x=true):=by
   show Evt.eR _=true;rw[Evt.eO];omega
  have f1:(97:Int)≤(x:Int):=by omega
  have f2:(x:Int)≤122:=by omega
  go_enter func85,ntmps85
  go_wp2_with fail;go_ret
  exact⟨gP H.out,rfl⟩
 by_cases q1:48≤x∧x≤57
 ·have H:Hid (Evt.eR x=true):=by
   show Evt.eR _=true;rw[Evt.eO];omega
  have f1: ¬(97:Int)≤(x:Int):=by omega
  have f3:(48:Int)≤(x:Int):=by omega
  have f4:(x:Int)≤57:=by omega
  go_enter func85,ntmps85
  go_wp2_with fail;go_ret
  exact⟨gP H.out,rfl⟩
 have H:Hid (¬Evt.eR x=true):=by
  show¬Evt.eR _=true;rw[Evt.eO];omega
 by_cases q2:x<48
 ·have f1: ¬(97:Int)≤(x:Int):=by omega
  have f3: ¬(48:Int)≤(x:Int):=by omega
  go_enter func85,ntmps85
  go_wp2_with fail;go_ret
  exact⟨cZ H.out,rfl⟩
 have f3:(48:Int)≤(x:Int):=by omega
 have f4: ¬(x:Int)≤57:=by omega
 by_cases q3:122<x
 ·have f1:(97:Int)≤(x:Int):=by omega
  have f2: ¬(x:Int)≤122:=by omega
  go_enter func85,ntmps85
  go_wp2_with fail;go_ret
  exact⟨cZ H.out,rfl⟩
 ·have f1: ¬(97:Int)≤(x:Int):=by omega
  go_enter func85,ntmps85
  go_wp2_with fail;go_ret
  exact⟨cZ H.out,rfl⟩
theorem c8X(s:ByteArray)(h:k<s.size):ch s k=s[k].toNat:=by
 have h':k<s.data.size:=h;unfold ch;have e:s.data.toList[k]?=some s.data[k]:=by simp
 rw[c9R,e];rfl
theorem uX(s:ByteArray)(w:World)(hs:s.size≤9223372036854775807):
  Calls prog 48 #[.string s] w fun e w'=>rM e (Evt.cV (nb s))∧w'=w:=by
 by_cases p0:s.size<1
 ·have HN:Hid (¬Evt.cV (nb s)):=fun q=>by
   have:=q.2.1;rw[gF]at this;omega
  have A1:(s.size:Int)<1:=by omega
  go_enter func48,ntmps48
  go_wp2_with fail;go_ret
  exact⟨cZ HN.out,rfl⟩
 have A1: ¬(s.size:Int)<1:=by omega
 by_cases p1:10<s.size
 ·have HN:Hid (¬Evt.cV (nb s)):=fun q=>by
   have:=q.2.2;rw[gF]at this;omega
  have A2:(10:Int)<(s.size:Int):=by omega
  go_enter func48,ntmps48
  go_wp2_with fail;go_ret
  exact⟨cZ HN.out,rfl⟩
 have A2: ¬(10:Int)<(s.size:Int):=by omega
 go_enter func48,ntmps48
 go_wp2_with fail;go_loop [14] (fun x=> ∃k:Nat,k≤s.size∧x=iV k∧Hid (∀j,j<k→Evt.eR (ch s j)=true)) (fun x=>s.size-(intOf x).toNat)
 case atStart=>exact⟨0,c9D _,rfl,fun j hj=>absurd hj (c9L j)⟩
 case round=>
  obtain⟨k,hk,rfl,HS⟩:=hrel;by_cases A0:k<s.size
  ·have A3:(k:Int)<(s.size:Int):=by omega
   have HC:=hd8 (c8X s A0);have HP:=b6W s[k].toNat w (UInt8.toNat_lt _);by_cases hL:Evt.eR s[k].toNat=true
   ·have HL:Hid (Evt.eR (ch s k)=true):=by
     show Evt.eR _=true;rw[HC.out];exact hL
    go_wp2_with fail;refine HP.mono ?_;rintro e w1 ⟨⟨y,rfl,hy⟩,rfl⟩;obtain rfl:y=true:=hy.2 hL;clear hy HP hL;go_wp2_with fail;refine⟨⟨k+1,by omega,by go_num,fun j hj=>?_⟩,by simp[intOf];omega⟩;by_cases e:j=k
    ·rw[e];exact HL.out
    ·exact HS.out j (by omega)
   ·have HN:Hid (¬Evt.cV (nb s)):=qC A0 (by rw[HC.out];exact hL);go_wp2_with fail;refine HP.mono ?_;rintro e w1 ⟨⟨y,rfl,hy⟩,rfl⟩;obtain rfl:y=false:=by cases y with|false=>rfl|true=>exact absurd (hy.1 rfl) hL
    clear hy HP hL;go_wp2_with fail;go_ret
    exact⟨cZ HN.out,rfl⟩
  ·obtain rfl:k=s.size:=by omega
   have HY:Hid (Evt.cV (nb s)):=(a1Q s HS.out).2 ⟨by omega,by omega⟩;go_wp2_with fail;go_ret
   exact⟨gP HY.out,rfl⟩
def a5O(k:Int):Int:=if k=2∨k=3 then 1000000 else 0
theorem c2A(k:Int)(w:World):Calls prog 101 #[iV k] w fun e w'=>e=.returned (.tuple #[iV (a5O k),.bool (decide (1≤k∧k≤4))])∧w'=w:=by
 by_cases q1:k=1
 ·subst q1;go_enter func101,ntmps101
  go_wp2_with fail;go_ret2
  exact⟨rfl,rfl⟩
 by_cases q4:k=4
 ·subst q4;go_enter func101,ntmps101
  go_wp2_with fail;go_ret2
  exact⟨rfl,rfl⟩
 by_cases q2:k=2
 ·subst q2;go_enter func101,ntmps101
  go_wp2_with fail;go_ret2
  exact⟨rfl,rfl⟩
 by_cases q3:k=3
 ·subst q3;go_enter func101,ntmps101
  go_wp2_with fail;go_ret2
  exact⟨rfl,rfl⟩
 have e1:(k==1)=false:=by rw[beq_eq_false_iff_ne];exact q1
 have e2:(k==2)=false:=by rw[beq_eq_false_iff_ne];exact q2
 have e3:(k==3)=false:=by rw[beq_eq_false_iff_ne];exact q3
 have e4:(k==4)=false:=by rw[beq_eq_false_iff_ne];exact q4
 have HM:Hid (a5O k=0):=if_neg (by omega);have HD:Hid (decide (1≤k∧k≤4)=false):=decide_eq_false (by omega);clear q1 q2 q3 q4;go_enter func101,ntmps101
 go_wp2_with fail;go_ret2
 exact⟨by rw[HM.out,HD.out];rfl,rfl⟩
theorem yD(s:ByteArray)(k m:Int)(w:World)(hs:s.size≤9223372036854775807):
  Calls prog 69 #[.agg #[.string s,iV k,iV m]] w fun e w'=>e=.returned (iV (Evt.aB ⟨nb s,k,m⟩:Nat))∧Bl w w':=by
 have HN:=fun w'=>uX s w' hs;have HM:=fun w'=>c2A k w';have A0:=aB8 w (.cells #[.string s,iV k,iV m] 83);obtain⟨c0,c1,c2⟩:=iF w (.string s) (iV k) (iV m);by_cases A1:Evt.cV (nb s)
 case neg=>
  have hn:=hd8 A1;have H:Hid (Evt.aB ⟨nb s,k,m⟩=7):=Evt.pK A1;clear A1;go_enter func69,ntmps69
  go_wp2_with fail;refine(HN _).mono ?_;rintro e w1 ⟨⟨y,rfl,hy⟩,rfl⟩;obtain rfl:y=false:=by cases y with|false=>rfl|true=>exact absurd (hy.1 rfl) hn.out
  clear hy HN HM;go_wp2_with fail;go_ret
  exact⟨aH (by rw[H.out];rfl),A0⟩
 have hn:=hd8 A1;clear A1;by_cases q0:k<1∨4<k
 ·have H:Hid (Evt.aB ⟨nb s,k,m⟩=1):=Evt.lD hn.out q0;have hd:decide (1≤k∧k≤4)=false:=decide_eq_false (by omega);rw[hd]at HM;clear hd q0;go_enter func69,ntmps69
  go_wp2_with fail;refine(HN _).mono ?_;rintro e w1 ⟨⟨y,rfl,hy⟩,rfl⟩;obtain rfl:y=true:=hy.2 hn.out;clear hy HN;go_wp2_with fail;refine(HM _).mono ?_;rintro e w1 ⟨rfl,rfl⟩;clear HM;go_wp2_with fail;go_ret
  exact⟨aH (by rw[H.out];rfl),A0⟩
 have hk:=hd8 q0;have hd:decide (1≤k∧k≤4)=true:=decide_eq_true (by omega);rw[hd]at HM;clear hd q0;have HQ:Hid ((m<0∨1000000<m∨(0<m∧k≠2∧k≠3))↔(m<0∨a5O k<m)):=by
  show _↔_;unfold a5O;by_cases e:k=2∨k=3
  ·rw[if_pos e];omega
  ·rw[if_neg e];omega
 generalize a5O k=M at HM HQ;by_cases q2:m<0
 ·have H:Hid (Evt.aB ⟨nb s,k,m⟩=3):=Evt.gA hn.out hk.out (HQ.out.2 (Or.inl q2));go_enter func69,ntmps69
  go_wp2_with fail;refine(HN _).mono ?_;rintro e w1 ⟨⟨y,rfl,hy⟩,rfl⟩;obtain rfl:y=true:=hy.2 hn.out;clear hy HN;go_wp2_with fail;refine(HM _).mono ?_;rintro e w1 ⟨rfl,rfl⟩;clear HM;go_wp2_with fail;go_ret
  exact⟨aH (by rw[H.out];rfl),A0⟩
 by_cases q3:M<m
 ·have H:Hid (Evt.aB ⟨nb s,k,m⟩=3):=Evt.gA hn.out hk.out (HQ.out.2 (Or.inr q3));go_enter func69,ntmps69
  go_wp2_with fail;refine(HN _).mono ?_;rintro e w1 ⟨⟨y,rfl,hy⟩,rfl⟩;obtain rfl:y=true:=hy.2 hn.out;clear hy HN;go_wp2_with fail;refine(HM _).mono ?_;rintro e w1 ⟨rfl,rfl⟩;clear HM;go_wp2_with fail;go_ret
  exact⟨aH (by rw[H.out];rfl),A0⟩
 ·have H:Hid (Evt.aB ⟨nb s,k,m⟩=0):=Evt.f9 hn.out hk.out (fun q=>by have:=HQ.out.1 q;omega);go_enter func69,ntmps69
  go_wp2_with fail;refine(HN _).mono ?_;rintro e w1 ⟨⟨y,rfl,hy⟩,rfl⟩;obtain rfl:y=true:=hy.2 hn.out;clear hy HN;go_wp2_with fail;refine(HM _).mono ?_;rintro e w1 ⟨rfl,rfl⟩;clear HM;go_wp2_with fail;go_ret
  exact⟨aH (by rw[H.out];rfl),A0⟩
end Go.Proofs.YtmcaejooaaahdaaGreat
