import Derived.Test.YtmcaejooaaahdaaGreatZ25
import Derived.Test.YtmcaejooaaahdaaGreatZ28
import Derived.Test.YtmcaejooaaahdaaGreatZ29
import Derived.Test.YtmcaejooaaahdaaGreatZ30
import Derived.Deep.CutBlock
set_option maxHeartbeats 8000000
set_option maxRecDepth 100000
namespace Go.Proofs.YtmcaejooaaahdaaGreat
open Go.Proofs.Tryz
variable {A A2 A3 N c i k m n s segs:Nat} {L:Nat→Nat} {r r':List Nat} {t:TypeId} {v:Value} {w:World} {xs:List Value}
open Go.RowKit
theorem sJ(v:Value)(s h z:Int)(n:Nat)(f:Nat→Nat)(w:World)(hx:Blk w v s h z n f):
  Calls prog 95 #[v] w fun e w'=> ∃v',e=.returned (.tuple #[v',iV (Crc.aA s h z n:Nat)])∧c1J w' w.heap.size (Crc.aA s h z n) v' (n+11) (a3W s h z n f)∧Bl w w':=by
 obtain⟨d,rfl,hd⟩:=hx;by_cases hE:Crc.aA s h z n=0
 ·have hi:=Crc.bN hE;obtain⟨S,rfl⟩:=d0I hi.1.1;obtain⟨H,rfl⟩:=d0I hi.1.2.2.1;obtain⟨Z,rfl⟩:=d0I hi.1.2.2.2.2.1;refine(a6B S H Z d n f w hd hE).mono ?_;rintro e w' ⟨v',rfl,hm,hb⟩;exact⟨v',by rw[hE];rfl,Or.inl ⟨hE,hm⟩,hb⟩
 ·obtain⟨_,A,A0,rfl,_⟩:=hd;refine(a4K s h z A n A0 w hE).mono ?_;rintro e w' ⟨rfl,hb⟩;exact⟨_,rfl,Or.inr ⟨hE,rfl⟩,hb⟩
theorem b7E{b o cap e:Nat}{g:Nat→Nat}(h:cA w (.slice (some (aD b o)) n cap) n g)(he:n=e+4)(h8:8≤e):cA w (.slice (some (aD b (o+7))) (e-7) (cap-7)) (e-7) (fun k=>g (k+7)):=by
 obtain⟨bd,A,C,hv,h1,h2,hc⟩:=h;cases hv
 refine⟨fun k=>bd _,some (aD b (o+7)),cap-7,rfl,by omega,by omega,fun i hi=>⟨b,o+7,rfl,?_⟩⟩;obtain⟨b',o',e1,e2⟩:=hc (i+7) (by omega);cases e1
 rw[show o+7+i=o+(i+7) by omega];exact e2
theorem a8M(v:Value)(n:Nat)(g:Nat→Nat)(w:World)(hx:cA w v n g)(h0:Crc.aL g n=0):
  Calls prog 96 #[v] w fun e w'=> ∃A C,e=.returned (.tuple #[.agg #[iV (g 1:Nat),iV (g 2:Nat),iV (g 3*256+g 4:Nat),.slice A (n-11) C],iV 0])∧(∀W,cA W v n g→cA W (.slice A (n-11) C) (n-11) (fun k=>g (k+7)))∧Bl w w':=by
 have hF: ¬cW g n:=fun q=>by rw[Crc.nB q]at h0;cases h0
 have hn:12≤n:=by unfold cW at hF;omega
 obtain⟨b,o,A0,rfl,A1,_,_⟩:=hx.some (by omega);obtain⟨e,rfl⟩: ∃e,n=e+4:=⟨n-4,by omega⟩;have hs:Crc.sum g e=Crc.oD g e:=by
  refine Classical.byContradiction fun q=>?_;rw[Crc.pS hF (by rw[d2N];exact q)]at h0;cases h0
 have hE:Crc.aL g (e+4)=Crc.aA (g 1) (g 2) (g 3*256+g 4:Nat) (e-7):=by
  rw[Crc.nM hF (by rw[d2N];exact hs),show e+4-11=e-7 by omega]
 refine(qO b o (e+4) e A0 g w hx rfl (by omega) hF hs).mono ?_;rintro r w' ⟨v',rfl,hv,hb⟩;rw[←hE,h0]at hv⊢;rw[show e+4-11=e-7 by omega];rcases hv with⟨_,d,rfl,rfl,_⟩|⟨q,_⟩
 ·exact⟨_,_,rfl,fun W hW=>b7E hW rfl (by omega),hb⟩
 ·exact absurd rfl q
theorem a4U(v:Value)(n:Nat)(g:Nat→Nat)(w:World)(hx:cA w v n g):
  Calls prog 96 #[v] w fun e w'=> ∃v',e=.returned (.tuple #[v',iV (Crc.aL g n:Nat)])∧
   Blk w' v' (pk (Crc.aL g n) (g 1):Nat) (pk (Crc.aL g n) (g 2):Nat) (pk (Crc.aL g n) (g 3*256+g 4):Nat) (pk (Crc.aL g n) (n-11)) (fun k=>g (k+7))∧Bl w w':=by
 have A2:=hx.bd;have A0:Bd (fun k=>g (k+7)):=fun k=>A2 _;by_cases hF:cW g n
 ·have hE:=Crc.nB hF;refine(a5A v n g w hx hF).mono ?_;rintro e w' ⟨rfl,hb⟩;exact⟨_,by rw[hE];rfl,mK (by omega) _ _ _ _ A0,hb⟩
 ·have hn:12≤n:=by unfold cW at hF;omega
  obtain⟨b,o,A1,rfl,A3,_,_⟩:=hx.some (by omega);obtain⟨e,rfl⟩: ∃e,n=e+4:=⟨n-4,by omega⟩;by_cases hs:Crc.sum g e=Crc.oD g e
  ·have hE:Crc.aL g (e+4)=Crc.aA (g 1) (g 2) (g 3*256+g 4:Nat) (e-7):=by
    rw[Crc.nM hF (by rw[d2N];exact hs),show e+4-11=e-7 by omega]
   refine(qO b o (e+4) e A1 g w hx rfl (by omega) hF hs).mono ?_;rintro r w' ⟨v',rfl,hv,hb⟩;rw[←hE]at hv⊢;rw[show e+4-11=e-7 by omega];rcases hv with⟨h0,d,rfl,_,hd⟩|⟨h0,rfl⟩
   ·rw[nR h0,nR h0,nR h0,nR h0];exact⟨_,rfl,⟨d,rfl,hd.bE hb⟩,hb⟩
   ·exact⟨_,rfl,mK h0 _ _ _ _ A0,hb⟩
  ·have hE:Crc.aL g (e+4)=9:=Crc.pS hF (by rw[d2N];exact hs);refine(a0R b o (e+4) e A1 g w hx rfl hF hs).mono ?_;rintro r w' ⟨rfl,hb⟩;exact⟨_,by rw[hE];rfl,mK (by omega) _ _ _ _ A0,hb⟩
theorem rW(v:Value)(n:Nat)(g:Nat→Nat)(s:Int)(i:Nat)(w:World)(h:cA w v n g):
  Calls prog 68 #[v,iV s,iV i] w fun e w'=>rM e (Crc.aL g n=0∧((g 1:Nat):Int)=s∧g 2=i)∧Bl w w':=by
 have H1:=a4U v n g w h;by_cases hE:Crc.aL g n=0
 ·rw[hE,nR rfl,nR rfl,nR rfl,nR rfl]at H1;have HE:=hd8 hE;generalize g 3*256+g 4=z at H1;by_cases h1:((g 1:Nat):Int)=s
  ·by_cases h2:g 2=i
   ·have t1:(((g 1:Nat):Int)==s)=true:=by rw[beq_iff_eq];exact h1
    have t2:(((g 2:Nat):Int)==(i:Int))=true:=by rw[beq_iff_eq];omega
    have HY:Hid (Crc.aL g n=0∧((g 1:Nat):Int)=s∧g 2=i):=⟨hE,h1,h2⟩;clear hE h1 h2;go_enter func68,ntmps68
    go_wp2_with fail;refine H1.mono ?_;rintro e w1 ⟨v1,rfl,⟨d,rfl,hd⟩,b1⟩;obtain⟨A,C,rfl⟩:=hd.sE;have b2:Bl w (w1.alloc (.cells #[iV (g 1:Nat),iV (g 2:Nat),iV z,.slice A (n-11) C] 137)):=b1.alloc b1.size _;clear H1 hd;go_wp2_with fail;go_ret
    exact⟨gP HY.out,b2⟩
   ·have t1:(((g 1:Nat):Int)==s)=true:=by rw[beq_iff_eq];exact h1
    have t2:(((g 2:Nat):Int)==(i:Int))=false:=by rw[beq_eq_false_iff_ne];omega
    have HN:Hid (¬(Crc.aL g n=0∧((g 1:Nat):Int)=s∧g 2=i)):=fun q=>h2 q.2.2;clear hE h1 h2;go_enter func68,ntmps68
    go_wp2_with fail;refine H1.mono ?_;rintro e w1 ⟨v1,rfl,⟨d,rfl,hd⟩,b1⟩;obtain⟨A,C,rfl⟩:=hd.sE;have b2:Bl w (w1.alloc (.cells #[iV (g 1:Nat),iV (g 2:Nat),iV z,.slice A (n-11) C] 137)):=b1.alloc b1.size _;clear H1 hd;go_wp2_with fail;go_ret
    exact⟨cZ HN.out,b2⟩
  ·have t1:(((g 1:Nat):Int)==s)=false:=by rw[beq_eq_false_iff_ne];exact h1
   have HN:Hid (¬(Crc.aL g n=0∧((g 1:Nat):Int)=s∧g 2=i)):=fun q=>h1 q.2.1;clear hE h1;go_enter func68,ntmps68
   go_wp2_with fail;refine H1.mono ?_;rintro e w1 ⟨v1,rfl,⟨d,rfl,hd⟩,b1⟩;obtain⟨A,C,rfl⟩:=hd.sE;have b2:Bl w (w1.alloc (.cells #[iV (g 1:Nat),iV (g 2:Nat),iV z,.slice A (n-11) C] 137)):=b1.alloc b1.size _;clear H1 hd;go_wp2_with fail;go_ret
   exact⟨cZ HN.out,b2⟩
 ·have HN:Hid (¬(Crc.aL g n=0∧((g 1:Nat):Int)=s∧g 2=i)):=fun q=>hE q.1;rw[nU hE,nU hE,nU hE,nU hE]at H1;have A0:(((Crc.aL g n:Nat):Int)==0)=false:=by rw[beq_eq_false_iff_ne];omega
  obtain⟨P,hP⟩: ∃P:Prop,P=(Crc.aL g n=0∧((g 1:Nat):Int)=s∧g 2=i):=⟨_,rfl⟩;rw[←hP]at HN⊢;clear hP;generalize Crc.aL g n=E at H1 A0;clear hE;go_enter func68,ntmps68
  go_wp2_with fail;refine H1.mono ?_;rintro e w1 ⟨v1,rfl,⟨d,rfl,hd⟩,b1⟩;obtain⟨A,C,rfl⟩:=hd.sE;have b2:Bl w (w1.alloc (.cells #[iV 0,iV 0,iV 0,.slice A 0 C] 137)):=b1.alloc b1.size _;clear H1 hd;go_wp2_with fail;go_ret
  exact⟨cZ HN.out,b2⟩
theorem a5V(v:Value)(N:Nat)(L:Nat→Nat)(g:Nat→Nat→Nat)(s:Int)(w:World)(h:Lls w v N L g)(hN:(N+1)*8≤140737488355328):
  Calls prog 37 #[v,iV s] w fun e w'=> ∃v',e=.returned v'∧iQ w' w.heap.size v' (Seg.kI s L g N)∧Bl w w':=by
 obtain⟨i1,A6,A2⟩:=c9J.1 Tryz.infoInt;simp only[Prod.mk.injEq]at A2;obtain⟨A9,Aa,Ab⟩:=A2;obtain⟨A,C,rfl⟩:=h.sE;have HL:Hid (∀w',Bl w w'→ ∀r,r<N→ ∃b o R K,A=some (aD b o)∧w'.cell? (aD b (o+r))=some (.slice R (L r) K)∧cA w' (.slice R (L r) K) (L r) (g r)):=fun w' hb r hr=>(h.bE hb).at hr;clear h;go_enter func37,ntmps37
 go_wp2_with fail;go_loopw [5,9] (fun y x wr=> ∃k:Nat,k≤N∧x=iV k∧iQ wr w.heap.size y (Seg.kI s L g k)∧Bl w wr) (fun _ x _=>N-(intOf x).toNat)
 case atStart=>exact⟨0,c9D _,rfl,iQ.nil _ _,Below.refl _ _⟩
 case round=>
  obtain⟨k,hk,rfl,BN,hb⟩:=hrel;by_cases A7:k<N
  ·have A8:(k:Int)<(N:Int):=by omega
   obtain⟨b,o,R,K,rfl,d0,hy⟩:=HL.out wr hb k A7;have HR:=rW _ _ (g k) s k wr hy;have Ac:=zZ s L g k;obtain⟨P,hP⟩: ∃P:Prop,P=(Crc.aL (g k) (L k)=0∧((g k 1:Nat):Int)=s∧g k 2=k):=⟨_,rfl⟩;have A5:Hid (P→Seg.kI s L g (k+1)=Seg.kI s L g k):=fun q=>Seg.b3T (by rw[hP]at q;exact q);have A4:Hid (¬P→Seg.kI s L g (k+1)=Seg.kI s L g k++[k]):=fun q=>Seg.a6N (fun r=>q (by rw[hP];exact r));rw[←hP]at HR;clear hy hP;by_cases hp:P
   ·have A0:Hid P:=hp;clear hp;go_wp2_with fail;refine HR.mono ?_;rintro e w1 ⟨⟨y,rfl,A1⟩,b1⟩;obtain rfl:y=true:=A1.2 A0.out;have BN:=BN.bE b1;have b1:=bt hb b1;rw[←A5.out A0.out]at BN;clear HR A1;go_wp2_with fail;exact⟨⟨k+1,by omega,by go_num,BN,b1⟩,by simp[intOf];omega⟩
   ·have A0:=hd8 hp;clear hp;go_wp2_with fail;refine HR.mono ?_;rintro e w1 ⟨⟨y,rfl,A1⟩,b1⟩;obtain rfl:y=false:=by cases y with|false=>rfl|true=>exact absurd (A1.1 rfl) A0.out
    have BN:=BN.bE b1;have b1:=bt hb b1;have bX:=aB8 w1 (.cells #[iV k] 3);have BX:=BN.bE bX;have b2:=bt b1 bX;have cn:=eE w1 #[iV k] 3;have A3:=BX.lt;clear HR A1 BN;go_wp2_with (at_builtin;go_loud (refine wpList_append_own _ rfl (.tmp 20) (.tmp 22) 27 rfl w.heap.size 3 i1 (iV 0) 1 8 underlying27 A6 A9 Aa Ab rfl (by decide) _ _ _ rfl BX (aD w1.heap.size 0) 1 1 [iV k] rfl rfl cn (by intro u hu;simp at hu;rw[hu];rfl) (by unfold maxLen;omega) (by omega) b2.size ?_;intro v3 w3 hown3 hgrow3 _));have B3:=iQ.one hown3;rw[←A4.out A0.out]at B3;have b3:=b2.grown hgrow3 b2.size (fun y hy=>(A3 y hy).1);exact⟨⟨k+1,by omega,by go_num,B3,b3⟩,by simp[intOf];omega⟩
  ·obtain rfl:k=N:=by omega
   go_wp2_with fail;go_ret
   exact⟨_,rfl,BN,hb⟩
theorem b1L(ho:w.ownsRow N t 1 v n xs): ∃A cap,v=.slice A n cap:=by
 rcases ho.2 with⟨rfl,rfl⟩|⟨g,cap,_,rfl,_⟩
 ·exact⟨none,0,rfl⟩
 ·exact⟨_,cap,rfl⟩
theorem c8D(hk:k<N)(h:0<L k): ∃p,p<(there L N).length∧thr L N p=k:=by
 obtain⟨p,hp,e⟩:=List.getElem_of_mem (pT.2 ⟨hk,h⟩:k∈there L N);exact⟨p,hp,by unfold thr;simp[List.getD,hp,e]⟩
theorem a8V(hk:k<N)(h:400<L k∨(0<L k∧L k≠L (thr L N 0))): ¬oS L N:=fun hf=>by
 obtain⟨p,hp,e⟩:=c8D hk (show 0<L k by omega)
 have h1:=hf.2 p hp
 rw[e]at h1
 have:=hf.1
 omega
theorem b5U(hm:1≤(there L N).length)(h: ∀i,i<N→ ¬(400<L i∨(0<L i∧L i≠L (thr L N 0)))):oS L N:=by
 have h0:=fI (show 0<(there L N).length by omega);refine⟨?_,fun p hp=>?_⟩
 ·have:=h _ h0.1;omega
 ·have h1:=fI hp;have:=h _ h1.1;omega
theorem a6E(v:Value)(N:Nat)(A:Option Addr)(cap:Nat)(hv:v=.slice A N cap)(d:Int)(w:World)(hN:N≤maxLen)(h:bZ d ((N:Int)-d)≠0):
  Calls prog 97 #[v,iV d] w fun e w'=>e=.returned (.tuple #[nS,iV 5])∧Bl w w':=by
 subst hv;unfold maxLen at hN;have H:Hid (∀w,Calls prog 123 #[iV d,iV (wrap64 ((N:Int)-d))] w fun e w'=>e=.returned (.tuple #[nS,iV 5])∧Bl w w'):=fun w=>by
  refine vZ d _ w ?_;unfold bZ at h;split at h
  ·rename_i hb;unfold wrap64;omega
  ·exact absurd rfl h
 clear h hN;go_enter func97,ntmps97
 go_wp2_with fail;refine(H.out _).mono ?_;rintro e w1 ⟨rfl,b1⟩;go_wp2_with fail;go_ret2
 exact⟨rfl,b1⟩
def c6J(n s:Nat)(L:Nat→Nat)(f:Nat→Nat→Nat)(e:Ending)(w':World):Prop:= ∃v r,e=.returned (.tuple #[v,iV (eG n (n+s) L:Nat)])∧(eG n (n+s) L=0→Gf.Bd2 r∧Gf.Und n (fun p=>Gf.bH n (thr L (n+s) p)) r)∧
 Out w' (eG n (n+s) L) v (n+s) (L (thr L (n+s) 0)) (Gf.mm n (Gf.bH n) (Gf.mm n r (fun p=>f (thr L (n+s) p))))
theorem tZ{E:Nat}{f:Nat→Nat→Nat}{w':World}(h:eG n (n+s) L=E)(h0:E≠0):c6J n s L f (.returned (.tuple #[nS,iV E])) w':=
 ⟨_,f,by rw[h],fun h'=>absurd (h.symm.trans h') h0,by rw[h];exact Or.inr ⟨Or.inl h0,rfl⟩⟩
theorem a6J(A:Option Addr)(cap n s:Nat)(L:Nat→Nat)(f:Nat→Nat→Nat)(w:World)(h:Arg w (.slice A (n+s) cap) (n+s) L f)(h1:1≤n)(h2:n≤8)(h3:s≤4):
  Calls prog 97 #[.slice A (n+s) cap,iV n] w fun e w'=>c6J n s L f e w'∧Bl w w':=by
 have HR:=fun w=>lK n s w h1 h2 h3;have Bq:(n:Int)+(s:Int)-(n:Int)=(s:Int):=by omega
 have bf:=h.bd;obtain⟨A',Bb,R,C,hv,hr⟩:=h.lies;cases hv
 obtain⟨b,o,rfl,_,_⟩:=hr 0 (by omega);have HC:Hid (∀r,r<n+s→w.cell? (aD b (o+r))=some (.slice (R r) (L r) (C r))∧ ∀k,k<L r→ ∃b' o',R r=some (aD b' o')∧w.cell? (aD b' (o'+k))=some (.int .u8 (f r k:Nat))):=fun r hrn=>by
  obtain⟨b',o',e1,e2,e3⟩:=hr r hrn;cases e1
  exact⟨e2,e3⟩
 clear hr h;obtain⟨i0,hi,hh⟩:=c9J.1 Tryz.infoRow;simp only[Prod.mk.injEq]at hh;obtain⟨B3,B4,B5⟩:=hh;obtain⟨i2,Bk,Ay⟩:=c9J.1 Tryz.infoInt;simp only[Prod.mk.injEq]at Ay;obtain⟨Bu,Bv,Bw⟩:=Ay;have HW:Hid (bZ n (((n+s:Nat):Int)-n)=0):=cO (by omega);go_enter func97,ntmps97
 go_wp2_with fail;refine(HR _).mono ?_;rintro e w1 ⟨g,cp,rfl,By,⟨G,K,hm⟩,b1⟩;clear HR;go_wp2_with fail;go_loopw [8,40] (fun v x wr=> ∃k:Nat,k≤n+s∧x=iV k∧wr.ownsRow w1.heap.size 3 1 v (there L k).length ((there L k).map fun(r:Nat)=>Value.int .i64 r)∧Bl w1 wr) (fun _ x _=>(n+s)-(intOf x).toNat)
 case atStart=>exact⟨0,c9D _,rfl,World.ownsRow_nil _ _ _ 1,Below.refl _ _⟩
 case round=>
  obtain⟨k,hk,rfl,A0,hb⟩:=hrel;have A6:=bt b1 hb;by_cases Ab:k<n+s
  ·have Ap:(k:Int)<(n:Int)+(s:Int):=by omega
   have Ai:=(HC.out k Ab).1;have Ax:=cB8 A6 Ai;clear Ai;by_cases hy:0<L k
   ·have Bx:(0:Int)<(L k:Int):=by omega
    have HT:=hd8 (a2B hy);have Ao:=mF L k;have A3:=(Below.refl wr.heap.size wr).alloc (c9C _) (.cells #[iV k] 3);have ox:=aK A0 A3;have bX:=bt hb A3;go_wp2_with (at_builtin;refine wpList_append_own _ rfl (.tmp 48) (.tmp 50) 27 rfl w1.heap.size 3 i2 (iV 0) 1 8 underlying27 Bk Bu Bv Bw rfl (by decide) _ _ _ rfl ox (aD wr.heap.size 0) 1 1 [iV k] rfl rfl dD (by intro u hu;simp at hu;subst hu;rfl) (by unfold maxLen;omega) (by omega) bX.size ?_;intro v2 w2 hown2 hgrow2 _);have b2:=bX.grown hgrow2 bX.size (fun x hx=>(ox.lt x hx).1);have q2:w2.ownsRow w1.heap.size 3 1 v2 (there L (k+1)).length ((there L (k+1)).map fun(r:Nat)=>Value.int .i64 r):=by
     rw[HT.out,c9I,c9U];exact hown2
    clear A0 ox hown2 hgrow2 bX A3 Ax;go_wp2_with fail;exact⟨⟨k+1,by omega,by go_num,q2,b2⟩,by simp[intOf];omega⟩
   ·have Bx: ¬(0:Int)<(L k:Int):=by omega
    have HT:=hd8 (a8F hy);go_wp2_with fail;exact⟨⟨k+1,by omega,by go_num,by rw[HT.out];exact A0,hb⟩,by simp[intOf];omega⟩
  ·have e8:k=n+s:=by omega
   subst e8;obtain⟨w3,rfl⟩: ∃x,x=wr:=⟨wr,rfl⟩;have Ao:=mF L (n+s);by_cases hl:(there L (n+s)).length<n
   ·have Bn:((there L (n+s)).length:Int)<(n:Int):=by omega
    have HE:Hid (eG n (n+s) L=10):=(if_neg (by rw[HW.out];simp)).trans (if_pos hl);obtain⟨A8,c8,rfl⟩:=b1L A0;clear A0;go_wp2_with fail;go_ret2
    exact⟨tZ HE.out (by decide),A6⟩
   ·have Bn: ¬((there L (n+s)).length:Int)<(n:Int):=by omega
    obtain⟨gu,cu,rfl,C0,Bz,B2⟩:=eD A0 (by omega);have hu:aZ w3 gu 3 (there L (n+s)).length (fun j=>iV (thr L (n+s) j:Int)):=B2.congr (fun j hj=>by unfold thr;simp[List.getD,hj]);clear A0 B2;have u0:=hu.cell (show 0<(there L (n+s)).length by omega);have As:=(fI (show 0<(there L (n+s)).length by omega)).1;have Aj:(thr L (n+s) 0:Int)<(n:Int)+(s:Int):=by omega
    have Bp:(0:Int)<((there L (n+s)).length:Int):=by omega
    have Aw:=(HC.out _ As).1;have ct:=cB8 A6 Aw;clear Aw;go_wp2_with fail;clear u0 ct Bp Aj;generalize hcc:L (thr L (n+s) 0)=c;have Aa:Hid (L (thr L (n+s) 0)=c):=hcc;clear hcc;go_loop [66] (fun x=> ∃k:Nat,k≤n+s∧x=iV k∧Hid (∀i,i<k→ ¬(400<L i∨(0<L i∧L i≠c)))) (fun x=>(n+s)-(intOf x).toNat)
    case atStart=>exact⟨0,c9D _,rfl,fun i hi=>absurd hi (c9L i)⟩
    case round=>
     obtain⟨k,hk,rfl,HF⟩:=hrel;by_cases Ab:k<n+s
     ·have Ap:(k:Int)<(n:Int)+(s:Int):=by omega
      have Ai:=(HC.out k Ab).1;have Ax:=cB8 A6 Ai;clear Ai;by_cases h4:400<L k
      ·have Bc:(400:Int)<(L k:Int):=by omega
       have HE:Hid (eG n (n+s) L=2):=(if_neg (by rw[HW.out];simp)).trans ((if_neg (by simp;omega)).trans (if_neg (a8V Ab (Or.inl h4))));go_wp2_with fail;go_ret2
       exact⟨tZ HE.out (by decide),A6⟩
      ·have Bc: ¬(400:Int)<(L k:Int):=by omega
       by_cases h5:0<L k
       ·have Be:(0:Int)<(L k:Int):=by omega
        by_cases h6:L k=c
        ·have HK:Hid (¬(400<L k∨(0<L k∧L k≠c))):=by show¬_;omega
         have An:((L k:Int)==(c:Int))=true:=by rw[beq_iff_eq];omega
         have Bf:((L k:Int) !=(c:Int))=false:=by rw[bne,An];rfl
         clear h6;go_wp2_with fail;refine⟨⟨k+1,by omega,by go_num,fun i hi=>?_⟩,by simp[intOf];omega⟩;by_cases e:i=k
         ·rw[e];exact HK.out
         ·exact HF.out i (by omega)
        ·have An:((L k:Int)==(c:Int))=false:=by rw[beq_eq_false_iff_ne];omega
         have Bf:((L k:Int) !=(c:Int))=true:=by rw[bne,An];rfl
         have HE:Hid (eG n (n+s) L=2):=(if_neg (by rw[HW.out];simp)).trans ((if_neg (by simp;omega)).trans (if_neg (a8V Ab (Or.inr ⟨h5,by rw[Aa.out];exact h6⟩))));clear h6;go_wp2_with fail;go_ret2
         exact⟨tZ HE.out (by decide),A6⟩
       ·have Be: ¬(0:Int)<(L k:Int):=by omega
        have HK:Hid (¬(400<L k∨(0<L k∧L k≠c))):=by show¬_;omega
        go_wp2_with fail;refine⟨⟨k+1,by omega,by go_num,fun i hi=>?_⟩,by simp[intOf];omega⟩;by_cases e:i=k
        ·rw[e];exact HK.out
        ·exact HF.out i (by omega)
     ·have e8:k=n+s:=by omega
      subst e8;have Av:Hid (oS L (n+s)):=b5U (by omega) (by rw[Aa.out];exact HF.out);have HE:Hid (eG n (n+s) L=0):=(if_neg (by rw[HW.out];simp)).trans ((if_neg (by simp;omega)).trans (if_pos Av.out));have Bi:(n:Int)≤(cu:Int):=by omega
      clear HF Ab;have Ak:=hm.bE hb;go_wp2_with fail;go_loopw [14,89] (fun v x wr=> ∃p:Nat,p≤n∧x=iV p∧wr.ownsRow w3.heap.size 59 1 v p ((List.range p).map fun q=> .slice (some ⟨G (thr L (n+s) q),0,none⟩) n (K (thr L (n+s) q)))∧Bl w3 wr) (fun _ x _=>n-(intOf x).toNat)
      case atStart=>exact⟨0,c9D _,rfl,World.ownsRow_nil _ _ _ 1,Below.refl _ _⟩
      case round=>
       obtain⟨p,hp,rfl,A2,A5⟩:=hrel;have Ag:=bt A6 A5;by_cases Aq:p<n
       ·have Bo:(p:Int)<(n:Int):=by omega
        have Bt:=(hu.bE A5).cell (show p<(there L (n+s)).length by omega);have Br:=(fI (show p<(there L (n+s)).length by omega)).1;have Ar:(thr L (n+s) p:Int)<(n:Int)+(s:Int):=by omega
        have tk:=(Ak.bE A5).top _ Br;rw[c9G]at tk;have A3:=(Below.refl wr.heap.size wr).alloc (c9C _) (.cells #[.slice (some ⟨G (thr L (n+s) p),0,none⟩) n (K (thr L (n+s) p))] 59);have ox:=aK A2 A3;have bX:=bt A5 A3;go_wp2_with (at_builtin;refine wpList_append_own _ rfl (.tmp 93) (.tmp 98) 169 rfl w3.heap.size 59 i0 nS 1 24 underlying169 hi B3 B4 B5 rfl (by decide) _ _ _ rfl ox (aD wr.heap.size 0) 1 1 [.slice (some ⟨G (thr L (n+s) p),0,none⟩) n (K (thr L (n+s) p))] rfl rfl dD (by intro u hu;simp at hu;subst hu;rfl) (by unfold maxLen;omega) (by omega) bX.size ?_;intro v4 w4 hown4 hgrow4 _);have b4:=bX.grown hgrow4 bX.size (fun x hx=>(ox.lt x hx).1);have q4:w4.ownsRow w3.heap.size 59 1 v4 (p+1) ((List.range (p+1)).map fun q=> .slice (some ⟨G (thr L (n+s) q),0,none⟩) n (K (thr L (n+s) q))):=by
         rw[d1G,c9U];exact hown4
        clear A2 ox hown4 hgrow4 bX A3 Bt tk;go_wp2_with fail;exact⟨⟨p+1,by omega,by go_num,q4,b4⟩,by simp[intOf];omega⟩
       ·have ep:n=p:=by omega
        subst ep;obtain⟨g5,Ac,rfl,_,_,A7⟩:=eD A2 h1;have mM:Mx wr (.slice (some (aD g5 0)) n Ac) n n (fun q=>Gf.bH n (thr L (n+s) q)):=by
         refine⟨fun q=>Gf.eM n _,⟨h1,by omega,h1,by omega⟩,g5,0,Ac,fun q=>G (thr L (n+s) q),fun _=>0,fun q=>K (thr L (n+s) q),rfl,fun q hq=>?_,fun q hq j hj=>?_⟩
         ·rw[c9G,A7.cell hq];simp[List.getD,hq]
         ·exact(Ak.bE A5).row _ (fI (show q<(there L (n+s)).length by omega)).1 j hj
        have hU:=a9J _ n _ wr mM;have hF:=Av.out;have Ah:c≤400:=by rw[←Aa.out];exact hF.1
        have Bh:1≤c:=by rw[←Aa.out];exact(fI (show 0<(there L (n+s)).length by omega)).2
        have B9:Hid (∀q,q<n→L (thr L (n+s) q)=c):=fun q hq=>by rw[hF.2 q (by omega),Aa.out]
        have B1:=run_make_row' (P:=prog) 59 5 (.int .u8 0) 1 underlying59 Tryz.infoByte rfl .i64 .i64 c (by omega) (by omega);clear A2 A7 mM hF;go_wp2_with fail;refine hU.mono ?_;rintro e w5 ⟨Bj,b5⟩;rcases Bj with⟨vB,r,rfl,mB,Ad⟩|⟨_,hs⟩
        ·have B0:=(Ak.bE A5).bE b5;have Bs:=(hu.bE A5).bE b5;have Am:=bt Ag b5;have rB:=mB.bd;obtain⟨bB,oB,pB,GB,OB,KB,rfl,hB⟩:=mB.lies;have B8:Hid (∀q,q<n→w5.cell? ⟨b,o+thr L (n+s) q,none⟩=some (.slice (R (thr L (n+s) q)) c (C (thr L (n+s) q)))∧ ∀k,k<c→ ∃b' o',R (thr L (n+s) q)=some (aD b' o')∧w5.cell? (aD b' (o'+k))=some (.int .u8 (f (thr L (n+s) q) k:Nat))):=fun q hq=>by
          obtain⟨e1,e2⟩:=HC.out _ (fI (show q<(there L (n+s)).length by omega)).1;rw[B9.out q hq]at e1 e2;refine⟨cB8 Am e1,fun k hk=>?_⟩;obtain⟨b',o',e3,e4⟩:=e2 k hk;exact⟨b',o',e3,cB8 Am e4⟩
         have Al:=hd8 Ad;obtain⟨D,hD⟩: ∃D,D=Gf.mm n r (fun p=>f (thr L (n+s) p)):=⟨_,rfl⟩;have Au:=hd8 hD;have bD:Gf.Bd2 D:=by rw[hD];exact Gf.oN rB n _
         clear hU Ad hm Ak hu A5 A6 Ag hb b1 b5 mB hD;go_wp2_with fail;go_loopw [18,111] (fun v x wr=> ∃i:Nat,i≤n+s∧x=iV i∧(∃G2 K2,Acc wr w5.heap.size v i c G2 K2 (Gf.mm n (Gf.bH n) D))∧Bl w5 wr) (fun _ x _=>(n+s)-(intOf x).toNat)
         case atStart=>exact⟨0,c9D _,rfl,⟨fun _=>0,fun _=>0,Acc.start w5 _ c _ _ _⟩,Below.refl _ _⟩
         case round=>
          obtain⟨i,C1,rfl,⟨G2,K2,hA⟩,Af⟩:=hrel;obtain⟨wo,rfl⟩: ∃x,x=wr:=⟨wr,rfl⟩;by_cases Az:i<n+s
          ·have Bm:(i:Int)<(n:Int)+(s:Int):=by omega
           go_wp2_with fail;clear B1;go_loopw [118] (fun x wm=> ∃k:Nat,k≤c∧x=iV k∧wm.rowIs wo.heap.size 5 c (fun y=> .int .u8 (dW k (Gf.mm n (Gf.bH n) D i) (fun _=>0) y:Nat))∧Bl wo wm) (fun x _=>c-(intOf x).toNat)
           case atStart=>exact⟨0,c9D _,rfl,(World.rowIs_made wo (.int .u8 0) c 5).congr (fun j _=>by rw[show dW 0 (Gf.mm n (Gf.bH n) D i) (fun _=>0) j=0 from if_neg (c9L _)];rfl),aB8 _ _⟩
           case round=>
            obtain⟨k,C5,rfl,hR,Ae⟩:=hrel;obtain⟨wm,rfl⟩: ∃x,x=wr:=⟨wr,rfl⟩;by_cases hk:k<c
            ·have C4:(k:Int)<(c:Int):=by omega
             go_wp2_with fail;go_loopw [22] (fun x wi=> ∃j:Nat,j≤n∧x=iV j∧wi.rowIs wo.heap.size 5 c (fun y=> .int .u8 (wL k (Gf.dot j (Gf.bH n i) (fun l=>D l k)) (Gf.mm n (Gf.bH n) D i) y:Nat))∧Bl wo wi) (fun x _=>n-(intOf x).toNat)
             case atStart=>exact⟨0,c9D _,rfl,hR.congr (fun y _=>by rw[show Gf.dot 0 (Gf.bH n i) (fun l=>D l k)=0 from rfl,xZ]),Ae⟩
             case round=>
              clear hR Ae;obtain⟨j,C3,rfl,hJ,A4⟩:=hrel;obtain⟨wi,rfl⟩: ∃x,x=wr:=⟨wr,rfl⟩;by_cases hj:j<n
              ·have C2:(j:Int)<(n:Int):=by omega
               go_wp2_with fail;go_loopw [23,130] (fun z x wp=> ∃p:Nat,p≤n∧x=iV p∧z=.int .u8 (Gf.dot p (r j) (fun q=>f (thr L (n+s) q) k):Nat)∧wp.rowIs wo.heap.size 5 c (fun y=> .int .u8 (wL k (Gf.dot j (Gf.bH n i) (fun l=>D l k)) (Gf.mm n (Gf.bH n) D i) y:Nat))∧Bl wo wp) (fun _ x _=>n-(intOf x).toNat)
               case atStart=>exact⟨0,c9D _,rfl,rfl,hJ,A4⟩
               case round=>
                clear hJ A4;obtain⟨p,hp,rfl,rfl,hJ,A4⟩:=hrel;have A9:=Af.trans (A4.mono Af.size);by_cases Aq:p<n
                ·have Bo:(p:Int)<(n:Int):=by omega
                 obtain⟨e1,e2⟩:=B8.out p Aq;obtain⟨b',o',e3,e4⟩:=e2 k hk;rw[e3]at e1;have r1:=(hB.bE A9).top j hj;have r2:=(hB.bE A9).row j hj p Aq;have r3:=cB8 A9 e1;have r4:=cB8 A9 e4;have r5:=(Bs.bE A9).cell (show p<(there L (n+s)).length by omega);have Ar:(thr L (n+s) p:Int)<(n:Int)+(s:Int):=by have:=(fI (show p<(there L (n+s)).length by omega)).1;omega
                 have At:=pQ (Gf.mQ (rB j) (fun q=>f (thr L (n+s) q) k) p) (Gf.dN (f (thr L (n+s) p) k) (rB j p));have HS:Hid (Gf.dot p (r j) (fun q=>f (thr L (n+s) q) k)^^^Gf.mul (r j p) (f (thr L (n+s) p) k)=Gf.dot (p+1) (r j) (fun q=>f (thr L (n+s) q) k)):=rfl;clear e1 e2 e3 e4;go_wp2_with fail;go_quiet (first|(go_at_call 125;refine Calls.quiet_of_same (jO _ _ _ (rB j p) (bf (thr L (n+s) p) k))))
                 go_wp2_with fail;exact⟨⟨p+1,by omega,by go_num,cB (by rw[HS.out]),hJ,⟨A4.os,A4.tape,A4.output,A4.size,A4.block⟩⟩,by simp[intOf];omega⟩
                ·have ep:n=p:=by omega
                 subst ep;have HX:Hid (Gf.dot n (r j) (fun q=>f (thr L (n+s) q) k)=D j k):=by rw[Au.out];rfl
                 rw[HX.out];have u1:=hJ.cell hk;rw[a2P]at u1;have z1:=hJ.frozen k;have u2:=(B0.bE A9).top i Az;have u3:=(B0.bE A9).row i Az j hj;rw[c9G]at u2 u3;have At:=pQ (Gf.mQ (Gf.eM n i) (fun l=>D l k) j) (Gf.dN (D j k) (Gf.eM n i j));have HP:=a2V (d':=Gf.dot j (Gf.bH n i) (fun l=>D l k)^^^Gf.mul (Gf.bH n i j) (D j k)) hJ;have Bg:=A4.setCell (p:=⟨wo.heap.size,k,none⟩) (c9C _) (.int .u8 ((Gf.dot j (Gf.bH n i) (fun l=>D l k)^^^Gf.mul (Gf.bH n i j) (D j k):Nat):Int));have v1:({wr with drawn:=wr.drawn+1}:World).cell? (aD wo.heap.size k)=some (.int .u8 (Gf.dot j (Gf.bH n i) (fun l=>D l k):Nat)):=u1;have v2:({wr with drawn:=wr.drawn+1}:World).cell? (aD g i)=some (.slice (some ⟨G i,0,none⟩) n (K i)):=u2;have v3:({wr with drawn:=wr.drawn+1}:World).cell? ⟨G i,j,none⟩=some (.int .u8 (Gf.bH n i j:Nat)):=u3;clear hJ;go_wp2_with fail;refine wp_region_still_tail 17 (by kernel_rfl) (by kernel_rfl) ?_;simp only[List.take_succ_cons,List.take_zero,List.drop_succ_cons,List.drop_zero];iterate 14 still_step
                 still_call (jO _ _ _ (Gf.eM n i j) (bD j k))
                 iterate 2 still_step
                 refine wpStill_nil ?_;go_wp2_with fail;exact⟨⟨j+1,by omega,by go_num,HP.drew,Bg.drew⟩,by simp[intOf];omega⟩
              ·have ej:n=j:=by omega
               subst ej;have B7:wi.rowIs wo.heap.size 5 c (fun y=> .int .u8 (dW (k+1) (Gf.mm n (Gf.bH n) D i) (fun _=>0) y:Nat)):=hJ.congr (fun y _=>by rw[←a2X];rfl);clear hJ;go_wp2_with fail;exact⟨⟨k+1,by omega,by go_num,B7,A4⟩,by simp[intOf];omega⟩
            ·have ek:c=k:=by omega
             subst ek;have hF:aZ wm wo.heap.size 5 c (fun y=> .int .u8 (Gf.mm n (Gf.bH n) D i y:Nat)):=iL (hR.congr (fun y hy=>by rw[show dW c (Gf.mm n (Gf.bH n) D i) (fun _=>0) y=Gf.mm n (Gf.bH n) D i y from if_pos hy]));have A3:=(Below.refl wm.heap.size wm).alloc (c9C _) (.cells #[.slice (some (aD wo.heap.size 0)) c c] 59);have AX:=(hA.bE Ae).bE A3;have rX:=hF.alloc (.cells #[.slice (some (aD wo.heap.size 0)) c c] 59);have bX:=bt (bt Af Ae) A3;clear hR hF hA;go_wp2_with (at_builtin;refine wpList_append_own _ rfl (.tmp 171) (.tmp 173) 86 rfl w5.heap.size 59 i0 nS 1 24 underlying86 hi B3 B4 B5 rfl (by decide) _ _ _ rfl AX.own (aD wm.heap.size 0) 1 1 [.slice (some (aD wo.heap.size 0)) c c] rfl rfl dD (by intro u hu;simp at hu;subst hu;rfl) (by unfold maxLen;omega) (by omega) bX.size ?_;intro v1 w6 hown1 hgrow1 _);have A1:=AX.step ⟨Af.size,rX⟩ hown1 hgrow1;have b6:=bX.grown hgrow1 bX.size (fun x hx=>(AX.own.lt x hx).1);clear hown1 hgrow1 AX rX bX A3 Ae;go_wp2_with fail;exact⟨⟨i+1,by omega,by go_num,⟨_,_,A1⟩,b6⟩,by simp[intOf];omega⟩
          ·have ei:i=n+s:=by omega
           subst ei;have B6:Mx wo _ (n+s) c (Gf.mm n (Gf.bH n) D):=hA.mx (Gf.oN (Gf.eM n) n D) ⟨by omega,by omega,Bh,Ah⟩;have Ba:=hd8 B6;clear hA B1 B6;go_wp2_with fail;go_ret2
           exact⟨⟨_,r,by rw[HE.out];rfl,fun _=>⟨rB,Al.out⟩,by rw[HE.out,Aa.out,←Au.out];exact Or.inl ⟨rfl,Ba.out⟩⟩,bt Am Af⟩
        ·exact(Gf.lQ (by omega) (fun p hp=>by have:=(fI (show p<(there L (n+s)).length by omega)).1;omega) (fun p q hp hq hne=>a5I (by omega) (by omega) hne) hs).elim
theorem b9K(v:Value)(N:Nat)(L:Nat→Nat)(f:Nat→Nat→Nat)(d:Int)(w:World)(h:Arg w v N L f)(hN:N≤maxLen):
  Calls prog 97 #[v,iV d] w fun e w'=> ∃v' r,e=.returned (.tuple #[v',iV (eG d N L:Nat)])∧(eG d N L=0→Gf.Bd2 r∧Gf.Und d.toNat (fun p=>Gf.bH d.toNat (thr L N p)) r)∧
   Out w' (eG d N L) v' N (L (thr L N 0)) (Gf.mm d.toNat (Gf.bH d.toNat) (Gf.mm d.toNat r (fun p=>f (thr L N p))))∧Bl w w':=by
 obtain⟨A,A0,R,C,hv,_⟩:=h.lies;subst hv;by_cases hw:bZ d ((N:Int)-d)≠0
 ·rw[show eG d N L=5 from if_pos hw];exact(a6E _ N A A0 rfl d w hN hw).mono fun e w' ⟨h1,h2⟩=>⟨_,f,h1,fun h=>absurd h (by decide),Or.inr ⟨Or.inl (by decide),rfl⟩,h2⟩
 ·have A1: ¬(d<1∨8<d∨(N:Int)-d<0∨4<(N:Int)-d):=fun h=>hw (by rw[cE h];decide);obtain⟨n,rfl⟩:=d0I (show 0≤d by omega);obtain⟨s,rfl⟩: ∃s,N=n+s:=⟨N-n,by omega⟩;exact(a6J A A0 n s L f w h (by omega) (by omega) (by omega)).mono fun e w' ⟨⟨v',r,h1,h2,h3⟩,h4⟩=>⟨v',r,h1,h2,h3,h4⟩
open Evt (Ev Bat)
section
variable {X : Sto.Six} {c : Sto.Cfg} {l : List Sto.Do} {k : Nat} {d : Sto.Do} {M M' : Nat → Bool}
end
end Go.Proofs.YtmcaejooaaahdaaGreat
namespace Go.Proofs.YtmcaejooaaahdaaGreat.Sto
open Go.Proofs.Tryz
variable {A A2 A3 N c i k m n s segs:Nat} {L:Nat→Nat} {r r':List Nat} {t:TypeId} {v:Value} {w:World} {xs:List Value}
open Evt (Ev Bat)
section
variable {X : Six} {c : Cfg} {bs : List (List Nat)} {k i : Nat}
theorem a7G{α:Type}(p q:α→Bool)(hpq: ∀x,p x=true→q x=false): ∀l:List α,(l.filter p).length+(l.filter q).length≤l.length
 |[]=>c9C _
 |x::l=>by
  have h:=a7G p q hpq l
  by_cases hp:p x=true
  ·rw[d1W hp,d1N (by rw[hpq x hp];exact Bool.false_ne_true),d0E,d0E]
   omega
  ·rw[d1N hp]
   by_cases hq:q x=true
   ·rw[d1W hq,d0E,d0E]
    omega
   ·rw[d1N hq,d0E]
    omega
theorem b9F(hX:dE X)(hl:bs.length=c.d+c.s)(h:(X.mend bs k c).1=0):(X.bad bs k).length≤c.s∧ ∃r,Evt.bP r∧X.lay r k c=(0,(X.mend bs k c).2):=by
 rw[hX.mend]at h⊢;by_cases q:(X.read bs k c).1≠0
 ·rw[if_pos q]at h;exact absurd h q
 rw[if_neg q]at h⊢;have q0:=d2J.1 q;have he:=hX.err bs k c;rw[q0,hl]at he;have hR:cS k c.d (c.d+c.s) (fO bs) (eK bs)=0:=he.symm;unfold cS at hR;split at hR
 ·cases hR
 rename_i w0;split at hR
 ·cases hR
 split at hR
 ·rename_i w2;exact absurd hR w2
 rename_i w2;have w2:=d2J.1 w2;unfold eG at w2;split at w2
 ·cases w2
 split at w2
 ·cases w2
 rename_i wt;have wt:c.d≤(Go.Proofs.YtmcaejooaaahdaaGreat.there (Seg.rl k (fO bs) (eK bs)) (c.d+c.s)).length:=by
  rw[c9Q]at wt;omega
 refine⟨?_,(X.read bs k c).2,?_,?_⟩
 ·rw[hX.bad,hl];unfold Seg.kI;unfold Go.Proofs.YtmcaejooaaahdaaGreat.there at wt;have:=a7G (fun r=>decide (0<Seg.rl k (fO bs) (eK bs) r)) (fun i=>decide (¬Seg.right k (fO bs) (eK bs) i)) (fun x hx=>decide_eq_false fun z=>z (Seg.yJ (of_decide_eq_true hx))) (List.range (c.d+c.s));rw[d1E]at this;omega
 ·have A0:=d2J.1 w0;have hd8:c.d+c.s≤256:=by
   unfold bZ at A0;split at A0
   ·cases A0
   ·omega
  have hu: ∃r',Gf.Bd2 r'∧Gf.Und c.d (fun p=>Gf.bH c.d (thr (Seg.rl k (fO bs) (eK bs)) (c.d+c.s) p)) r':=by
   rcases Gf.a6S (n:=c.d) (m:=fun p=>Gf.bH c.d (thr (Seg.rl k (fO bs) (eK bs)) (c.d+c.s) p)) (fun p=>Gf.eM c.d _)with q|q
   ·exact q
   ·exact(Gf.lQ (by omega) (fun p hp=>by have:=(fI (show p<(Go.Proofs.YtmcaejooaaahdaaGreat.there (Seg.rl k (fO bs) (eK bs)) (c.d+c.s)).length by omega)).1;omega) (fun p q hp hq hne=>a5I (by omega) (by omega) hne) q).elim
  obtain⟨r',r1,r2⟩:=hu;have hr:=hX.told bs k c q0 r' r1 (by rw[hl];exact r2);rw[hr];intro x hx;unfold bl at hx;obtain⟨j,_,rfl⟩:=d0G.1 hx;exact Gf.c1P (fun p=>Gf.eM c.d p) _ _ _ _
 ·rw[hX.lay];exact Prod.ext h rfl
end
structure SI(c:Cfg)(segs:Nat)(ds:List aM):Prop where
 dl:ds.length=c.d+c.s
 up: ∀(i:Nat) (d:aM),ds[i]?=some d→Up d.bl∧(∀h,h∈d.bl→0≤h.1∧h.1<(segs:Int))∧(d.gone=true→d.bl=[])
section
variable {X : Six} {c : Cfg} {segs : Nat} {ds : List aM}
theorem c0B(c:Cfg):SI c 0 (start c).disks:=⟨List.length_replicate,fun i d hd=>by
 obtain rfl:=d2X (c9N (l:=List.replicate (c.d+c.s) (⟨false,[]⟩:aM)) hd)
 exact⟨List.Pairwise.nil,fun h hh=>(by cases hh),fun _=>rfl⟩⟩
theorem SI.more(h:SI c segs ds):SI c (segs+1) ds:=⟨h.dl,fun i d hd=>⟨(h.up i d hd).1,fun x hx=>by
 have:=(h.up i d hd).2.1 x hx
 omega,(h.up i d hd).2.2⟩⟩
theorem SI.write(h:SI c segs ds)(hk:k<segs)(L:List (List Nat)):SI c segs (Sto.write k L 0 ds):=by
 refine⟨by rw[cK];exact h.dl,fun i d hd=>?_⟩;rw[kQ]at hd;obtain⟨e,he,rfl⟩:=c9J.1 hd;obtain⟨u1,u2,u3⟩:=h.up i e he;by_cases q:e.gone=true
 ·rw[if_pos q];exact⟨u1,u2,u3⟩
 ·rw[if_neg q];refine⟨yM u1,fun x hx=>?_,fun z=>by cases z⟩;rcases a4W u1 hx with rfl|z
  ·show 0≤(k:Int)∧(k:Int)<segs;omega
  ·exact u2 x z.1
theorem SI.set(h:SI c segs ds)(i:Nat)(x:aM)(hx:Up x.bl∧(∀h,h∈x.bl→0≤h.1∧h.1<(segs:Int))∧(x.gone=true→x.bl=[])):SI c segs (ds.set i x):=by
 refine⟨by rw[d0B];exact h.dl,fun j d hd=>?_⟩;by_cases q:i=j
 ·subst q;have hl:i<ds.length:=by
   have:=(c9H.1 hd).1;rw[d0B]at this;exact this
  rw[d0O hl]at hd;cases hd
  exact hx
 ·rw[d0P q]at hd;exact h.up j d hd
theorem tB: ∀(m k:Nat) (ds:List aM) (e n:Nat),SI c segs ds→k+m=segs→SI c segs (aN X c m k ds e n).1
 |0,_,_,_,_,h,_=>h
 |m+1,k,ds,e,n,h,hk=>by
  rw[aN]
  split
  ·exact tB m (k+1) ds e n h (by omega)
  ·split
   ·exact tB m (k+1) ds _ n h (by omega)
   ·exact tB m (k+1) _ e _ (h.write (by omega) _) (by omega)
theorem b3E{s:St}(h:SI c s.segs s.disks)(d:Do):SI c (step X c s d).1.segs (step X c s d).1.disks:=by
 unfold step;by_cases k1:d.kind=1
 ·rw[if_pos k1];unfold put;split
  ·exact h
  ·split
   ·exact h
   ·split
    ·exact h
    ·split
     ·exact h
     ·split
      ·exact h
      ·unfold eU;dsimp only;split
       ·exact h
       ·split
        ·exact h
        ·split
         ·exact h
         ·exact h.more.write (d1F _) _
 rw[if_neg k1];by_cases k2:d.kind=2∨d.kind=3∨d.kind=4
 ·rw[if_pos k2];exact h
 rw[if_neg k2];by_cases k3:d.kind=5∨d.kind=6∨d.kind=7
 ·rw[if_pos k3];unfold nZ;split
  ·exact h
  ·rename_i x hx;split
   ·exact h
   ·split
    ·exact h
    ·split
     ·exact h.set _ _ ⟨List.Pairwise.nil,fun y hy=>(by cases hy),fun _=>rfl⟩
     ·split
      ·exact h
      ·split
       ·exact h
       ·obtain⟨u1,u2,u3⟩:=h.up _ x hx;refine h.set _ _ ⟨c1B u1,fun y hy=>?_,fun z=>?_⟩
        ·have A0:y.1∈(mJ d.seg d.pos.toNat d.turn x.bl).map (·.1):=d0G.2 ⟨y,hy,rfl⟩
         rw[rJ]at A0;obtain⟨z,hz,e⟩:=d0G.1 A0;rw[←e];exact u2 z hz
        ·show mJ d.seg d.pos.toNat d.turn x.bl=[];rw[u3 z];rfl
 rw[if_neg k3];by_cases k8:d.kind=8
 ·rw[if_pos k8];exact tB s.segs 0 s.disks 0 0 h (c9G _)
 rw[if_neg k8];by_cases k9:d.kind=9
 ·rw[if_pos k9];exact h
 ·rw[if_neg k9];exact h
end
end Go.Proofs.YtmcaejooaaahdaaGreat.Sto
namespace Go.Proofs.YtmcaejooaaahdaaGreat
open Go.Proofs.Tryz
variable {A A2 A3 N c i k m n s segs:Nat} {L:Nat→Nat} {r r':List Nat} {t:TypeId} {v:Value} {w:World} {xs:List Value}
open Go.RowKit
def nT(ds:List Sto.aM):Prop:= ∀(i:Nat) (d:Sto.aM),ds[i]?=some d→ ∀h,h∈d.bl→1≤h.2.length∧h.2.length≤1000
structure WfJ(c:Sto.Cfg)(s:Sto.St):Prop where
 d1:1≤c.d
 d8:c.d≤8
 s4:c.s≤4
 b1:1≤c.b
 b10:c.b≤10
 si:Sto.SI c s.segs s.disks
 segs:s.segs≤40
 tail:s.tail.length<c.b
 bats: ∀b,b∈s.tail→(Evt.aA b).1=0
 len:nT s.disks
 cmds:(s.seen.length:Int)≤s.u
 right:Vw.iS s.u s.acc
theorem WfJ.dl{c:Sto.Cfg}{s:Sto.St}(h:WfJ c s):s.disks.length=c.d+c.s:=h.si.dl
theorem WfJ.n12{c:Sto.Cfg}{s:Sto.St}(h:WfJ c s):s.disks.length≤12:=by
 have:=h.dl;have:=h.d8;have:=h.s4;omega
theorem WfJ.n1{c:Sto.Cfg}{s:Sto.St}(h:WfJ c s):1≤s.disks.length:=by
 have:=h.dl;have:=h.d1;omega
theorem WfJ.bl{c:Sto.Cfg}{s:Sto.St}(h:WfJ c s){d:Sto.aM}(hd:s.disks[i]?=some d):d.bl.length≤100:=by
 obtain⟨q1,q2,_⟩:=h.si.up i d hd
 have:=xB (a:=0) (m:=(s.segs:Int)) (Sto.oW.1 q1) (fun x hx=>by
  obtain⟨y,hy,rfl⟩:=d0G.1 hx
  exact q2 y hy) (by omega)
 rw[c9M]at this;have:=h.segs;omega
theorem WfJ.seen{c:Sto.Cfg}{s:Sto.St}(h:WfJ c s):s.seen.length≤150:=by
 have:=h.cmds;have:=h.right.hi;omega
theorem b7T{c:Sto.Cfg}(d1:1≤c.d)(d8:c.d≤8)(s4:c.s≤4)(b1:1≤c.b)(b10:c.b≤10):WfJ c (Sto.start c):=
 ⟨d1,d8,s4,b1,b10,Sto.c0B c,c9D _,b1,(fun _ h=>by cases h),(fun i d hd h hh=>by
  have e:=(List.mem_replicate.1 (c9N hd)).2
  subst e
  cases hh),Int.le_refl _,Vw.b7A⟩
theorem b3K{X:Sto.Six}(hX:Sto.dE X){c:Sto.Cfg}{L:List (List Nat)}(h:X.lay r k c=(0,L))(hi:i<c.d+c.s):1≤(L.getD i []).length∧(L.getD i []).length≤1000:=by
 rw[hX.lay]at h;obtain⟨⟨q1,_,_,_,q5⟩,_,q3⟩:=Sto.oE h;rw[q3 i hi,Sto.l5];have:=Seg.nF (L:=r.length) q1 q5;omega
theorem a1M{c:Sto.Cfg}{ds:List Sto.aM}{L:List (List Nat)}{k:Int}(hs:Sto.SI c segs ds)(h:nT ds)(hL: ∀i,i<c.d+c.s→1≤(L.getD i []).length∧(L.getD i []).length≤1000):nT (Sto.write k L 0 ds):=fun i d hd x hx=>by
 rw[Sto.kQ]at hd
 obtain⟨e,he,rfl⟩:=c9J.1 hd
 have hi:i<c.d+c.s:=by
  rw[←hs.dl];exact(c9H.1 he).1
 by_cases q:e.gone=true
 ·rw[if_pos q]at hx;exact h i e he x hx
 ·rw[if_neg q,c9G]at hx;rcases Sto.a4W (hs.up i e he).1 hx with rfl|⟨z,_⟩
  ·exact hL i hi
  ·exact h i e he x z
theorem qA{X:Sto.Six}(hX:Sto.dE X){c:Sto.Cfg}: ∀(m k:Nat) (ds:List Sto.aM) (e n:Nat),k+m=segs→Sto.SI c segs ds→nT ds→nT (Sto.aN X c m k ds e n).1
 |0,_,_,_,_,_,_,h=>h
 |m+1,k,ds,e,n,hk,hs,h=>by
  rw[Sto.aN]
  by_cases q1:X.bad (Sto.aI ds k) k=[]
  ·rw[if_pos q1]
   exact qA hX m (k+1) ds e n (by omega) hs h
  ·rw[if_neg q1]
   by_cases q2:(X.mend (Sto.aI ds k) k c).1≠0
   ·rw[if_pos q2]
    exact qA hX m (k+1) ds _ n (by omega) hs h
   ·rw[if_neg q2]
    have q2:=d2J.1 q2
    obtain⟨_,r,_,hr⟩:=Sto.b9F hX (by rw[Sto.aI,c9M,hs.dl]) q2
    exact qA hX m (k+1) _ e _ (by omega) (hs.write (by omega) _) (a1M hs h fun i hi=>b3K hX hr hi)
theorem a2T(k:Int)(p y:Nat): ∀(l:List (Int×List Nat)) (x:Int×List Nat),x∈Sto.mJ k p y l→ ∃z,z∈l∧z.2.length=x.2.length
 |[],x,h=>by cases h
 |h::t,x,hx=>by
  rw[Sto.mJ]at hx
  by_cases q:h.1=k
  ·rw[if_pos q]at hx
   rcases List.mem_cons.1 hx with rfl|z
   ·exact⟨h,c9W,by show _=(h.2.set p _).length;rw[d0B]⟩
   ·exact⟨x,c9Y _ z,rfl⟩
  ·rw[if_neg q]at hx
   rcases List.mem_cons.1 hx with rfl|z
   ·exact⟨x,c9W,rfl⟩
   ·obtain⟨w,h1,h2⟩:=a2T k p y t x z
    exact⟨w,c9Y _ h1,h2⟩
theorem b4M{ds:List Sto.aM}(h:nT ds)(n:Nat)(x:Sto.aM)(hx: ∀z,z∈x.bl→1≤z.2.length∧z.2.length≤1000):nT (ds.set n x):=fun i d hd z hz=>by
 by_cases e:i=n
 ·subst e
  rw[List.getElem?_set_self']at hd
  obtain⟨_,_,rfl⟩:=c9J.1 hd
  exact hx z hz
 ·rw[d0P (fun y=>e y.symm)]at hd
  exact h i d hd z hz
theorem c0D{s:Sto.St}(h:nT s.disks)(d:Sto.Do):nT (Sto.nZ s d).1.disks:=by
 unfold Sto.nZ;split
 ·exact h
 ·rename_i x hx;split
  ·exact h
  ·split
   ·exact h
   ·split
    ·exact b4M h _ _ fun z hz=>by cases hz
    ·split
     ·exact h
     ·split
      ·exact h
      ·refine b4M h _ _ fun z hz=>?_;obtain⟨y,h1,h2⟩:=a2T _ _ _ _ _ hz;rw[←h2];exact h _ _ hx y h1
theorem c6H{X:Sto.Six}(hX:Sto.dE X){c:Sto.Cfg}{s:Sto.St}(h:WfJ c s)(d:Sto.Do)(hk:d.kind=1):WfJ c (Sto.put X c s d).1:=by
 have A1:=Sto.b3E (X:=X) h.si d;rw[Sto.zF hk]at A1;unfold Sto.put at A1⊢;by_cases h1:(Evt.aA d.bat).1≠0
 ·rw[if_pos h1];exact h
 rw[if_neg h1]at A1⊢;have h1:=d2J.1 h1;by_cases h2:d.bat.cmd∈s.seen
 ·rw[if_pos h2];exact h
 rw[if_neg h2]at A1⊢;by_cases h3:0≤d.ver∧d.ver≠(Vw.get s.acc d.name).cnt
 ·rw[if_pos h3];exact h
 rw[if_neg h3]at A1⊢;by_cases h4:(Vw.cD s.u s.acc d.bat.evs).1.1≠0
 ·rw[if_pos h4];exact h
 rw[if_neg h4]at A1⊢;have h4:=d2J.1 h4;by_cases h5:(Sto.eU X c s d.bat (Vw.cD s.u s.acc d.bat.evs).2).1≠0
 ·rw[if_pos h5];exact h
 rw[if_neg h5]at A1⊢;have h5:=d2J.1 h5;obtain⟨k1,k2,_⟩:=Vw.rG h4;have he:=(Evt.bN h1).2.2.1;obtain⟨q1,q2,q3⟩:=Sto.c5O h5;have A4:(Sto.eU X c s d.bat (Vw.cD s.u s.acc d.bat.evs).2).2.seen.length=s.seen.length+1:=by
  rw[q1,c9I,d0E];have:=congrArg List.length (d2Q (Sto.below d.bat.cmd s.seen) s.seen);rw[c9I]at this;omega
 have A3:((Sto.eU X c s d.bat (Vw.cD s.u s.acc d.bat.evs).2).2.seen.length:Int)≤(Sto.eU X c s d.bat (Vw.cD s.u s.acc d.bat.evs).2).2.u:=by
  rw[A4,q2,k2];have:=h.cmds;omega
 have hr:Vw.iS (Sto.eU X c s d.bat (Vw.cD s.u s.acc d.bat.evs).2).2.u (Sto.eU X c s d.bat (Vw.cD s.u s.acc d.bat.evs).2).2.acc:=by
  rw[q2,q3];exact k1
 have A2: ∀b,b∈s.tail++[d.bat]→(Evt.aA b).1=0:=fun b hb=>by
  rcases List.mem_append.1 hb with z|z
  ·exact h.bats b z
  ·rw[d1Z.1 z];exact h1
 have A0:(Sto.eU X c s d.bat (Vw.cD s.u s.acc d.bat.evs).2).2.segs≤40∧(Sto.eU X c s d.bat (Vw.cD s.u s.acc d.bat.evs).2).2.tail.length<c.b∧(∀b,b∈(Sto.eU X c s d.bat (Vw.cD s.u s.acc d.bat.evs).2).2.tail→(Evt.aA b).1=0)∧nT (Sto.eU X c s d.bat (Vw.cD s.u s.acc d.bat.evs).2).2.disks:=by
  unfold Sto.eU at h5⊢;dsimp only at h5⊢;by_cases p1:(s.tail++[d.bat]).length<c.b
  ·rw[if_pos p1];exact⟨h.segs,p1,A2,h.len⟩
  ·rw[if_neg p1]at h5⊢;by_cases p2:(Evt.aF (s.tail++[d.bat])).1≠0
   ·rw[if_pos p2]at h5;exact absurd h5 p2
   ·rw[if_neg p2]at h5⊢;by_cases p3:(X.lay (Evt.iK (s.tail++[d.bat])) s.segs c).1≠0
    ·rw[if_pos p3]at h5;exact absurd h5 p3
    ·rw[if_neg p3];have p3:=d2J.1 p3;have hl:X.lay (Evt.iK (s.tail++[d.bat])) s.segs c=(0,(X.lay (Evt.iK (s.tail++[d.bat])) s.segs c).2):=by rw[←p3]
     have A5:s.segs≤39:=by
      have hl:=hl;rw[hX.lay]at hl;exact(Sto.oE hl).1.2.2.2.1
     exact⟨by show s.segs+1≤40;omega,h.b1,(fun _ z=>by cases z),a1M h.si h.len fun i hi=>b3K hX hl hi⟩
 exact⟨h.d1,h.d8,h.s4,h.b1,h.b10,A1,A0.1,A0.2.1,A0.2.2.1,A0.2.2.2,A3,hr⟩
theorem c2R{X:Sto.Six}(hX:Sto.dE X){c:Sto.Cfg}{s:Sto.St}(h:WfJ c s)(d:Sto.Do):WfJ c (Sto.step X c s d).1:=by
 by_cases k1:d.kind=1
 ·rw[Sto.zF k1];exact c6H hX h d k1
 ·have A0:=Sto.b3E (X:=X) h.si d;have hs:=Sto.b7L (X:=X) (c:=c) (s:=s) k1;have hl:nT (Sto.step X c s d).1.disks:=by
   unfold Sto.step;rw[if_neg k1];split
   ·exact h.len
   ·split
    ·exact c0D h.len d
    ·split
     ·exact qA hX s.segs 0 s.disks 0 0 (by omega) h.si h.len
     ·split
      ·exact h.len
      ·exact h.len
  exact⟨h.d1,h.d8,h.s4,h.b1,h.b10,A0,by rw[hs.segs];exact h.segs,by rw[hs.tail];exact h.tail,by rw[hs.tail];exact h.bats,hl,by rw[hs.seen,hs.u];exact h.cmds,by rw[hs.u,hs.acc];exact h.right⟩
theorem Tryz.enters_num: ∀args w,(callFunc 98 args).run Tryz.prog w=.ok (.enter 98 args) w:=enters_of Tryz.func98 (by kernel_rfl) rfl
abbrev c5A:=Int×Value×List EvC
def pr(t:c5A):Int×Value:=(t.1,t.2.1)
def vY(t:c5A):Evt.Bat:=⟨t.1,t.2.2.map aY⟩
def OS(W0 w:World)(v:Value)(g:Nat→Nat)(N n:Nat)(vo:Value)(i:Nat):Prop:=
 ∃(L:List c5A) (A:Nat) (ok:Bool),sT w (W0.heap.size+3) vo (L.map pr)∧(∀t,t∈L→cH w (W0.heap.size+3) t.2.1 t.2.2)∧PS W0 w v N A ok∧i≤n∧L.length=i∧(ok=true→A≤1+i*70000)∧
  ((ok=true∧Evt.eC n ((bl g N).drop 1)=a2C (L.map vY) (Evt.eC (n-i) ((bl g N).drop A)))∨(ok=false∧Evt.eC n ((bl g N).drop 1)=none))
theorem c3G(h:Evt.num 1 0 r=some (n,r'))(h2:Evt.eC n r'=none):Evt.aL r=2∧Evt.dA r=[]:=by
 have:Evt.tU r=none:=by
  unfold Evt.tU;rw[h];show(match Evt.eC n r' with|none=>none|some (l,r)=>if r=[]then some l else none)=none;rw[h2]
 unfold Evt.aL Evt.dA;rw[this];exact⟨rfl,rfl⟩
theorem b5D{r2:List Nat}{l:List Evt.Bat}(h:Evt.num 1 0 r=some (n,r'))(h2:Evt.eC n r'=some (l,r2))(h3:r2≠[]):Evt.aL r=2∧Evt.dA r=[]:=by
 have:Evt.tU r=none:=by
  unfold Evt.tU;rw[h];show(match Evt.eC n r' with|none=>none|some (l,r)=>if r=[]then some l else none)=none;rw[h2];exact if_neg h3
 unfold Evt.aL Evt.dA;rw[this];exact⟨rfl,rfl⟩
theorem b7Z{l:List Evt.Bat}(h:Evt.num 1 0 r=some (n,r'))(h2:Evt.eC n r'=some (l,[])):Evt.aL r=(Evt.aF l).1∧Evt.dA r=if (Evt.aF l).1=0 then l else[]:=by
 have:Evt.tU r=some l:=by
  unfold Evt.tU;rw[h];show(match Evt.eC n r' with|none=>none|some (l,r)=>if r=[]then some l else none)=_;rw[h2];exact if_pos rfl
 unfold Evt.aL Evt.dA;rw[this];exact⟨rfl,rfl⟩
theorem b4W{M:Nat}(h:w.ownsRow N t s v n xs)(hM:M≤N):w.ownsRow M t s v n xs:=by
 obtain⟨hl,h⟩:=h;refine⟨hl,h.imp id ?_⟩;rintro⟨g,A0,A1,rfl,hN,hr⟩;exact⟨g,A0,A1,rfl,c9E hM hN,hr⟩
theorem c8A{g:Nat→Nat}{A4 lg kd A6 nm A7:Nat}{ok4 ok6 ok7:Bool}{S:ByteArray}(hg:Bd g)(h6:(ok4=true∧A4=A3+1∧lg=g A3∧A3+1≤N)∨(ok4=false∧A4=N∧lg=0∧N≤A3))
  (h9:(ok6=true∧ok4=true∧A6=A4+lg+1∧A4+lg+1≤N∧kd=g (A4+lg))∨(ok6=false∧A6=N∧(ok4=true→N<A4+lg+1))) (h0:(ok7=true∧ok6=true∧A7=A6+3∧A6+3≤N∧nm=gB g A6 3)∨(ok7=false∧(ok6=true→N<A6+3))) (hS:S=uJ (fun k=>g (A4+k)) lg):
  (ok7=true∧Evt.qX ((bl g N).drop A3)=some (aY (S,(kd:Int),(nm:Int)),(bl g N).drop A7)∧A7≤A3+260)∨(ok7=false∧Evt.qX ((bl g N).drop A3)=none):=by
 have A0:=hg A3;rcases h0 with⟨q1,q2,q3,q4,q5⟩|⟨q1,q2⟩
 ·rcases h9 with⟨_,r2,r3,r4,r5⟩|⟨r1,_⟩
  ·rcases h6 with⟨_,s2,s3,s4⟩|⟨s1,_⟩
   ·refine Or.inl ⟨q1,?_,by omega⟩;have e1:A6=A3+2+g A3:=by omega
    have e2:A7=A3+5+g A3:=by omega
    rw[b6X (by omega),e2,q5,e1,r5,s3,s2];have e3:nb S=c0W g A3:=by
     rw[hS,a4D (fun k=>hg _),s3,s2];rfl
    show _=some ((⟨nb S,_,_⟩:Evt.Ev),_);rw[e3]
   ·rw[r2]at s1;cases s1
  ·rw[q2]at r1;cases r1
 ·refine Or.inr ⟨q1,a1E ?_⟩;rcases h6 with⟨s1,s2,s3,s4⟩|⟨s1,s2,s3,s4⟩
  ·rcases h9 with⟨r1,r2,r3,r4,r5⟩|⟨r1,r2,r3⟩
   ·have:=q2 r1;omega
   ·have:=r3 s1;omega
  ·exact Or.inr s4
theorem uD{g:Nat→Nat}{ok2:Bool}(h:(ok2=true∧A2=A+4∧A+4≤N∧c=gB g A 3∧m=g (A+3))∨(ok2=false∧A2=N∧m=0∧N<A+4))(h2:ok2=true→Evt.eF m ((bl g N).drop A2)=none):Evt.l6 ((bl g N).drop A)=none:=by
 rcases h with⟨h1,rfl,h3,_,h5⟩|⟨_,_,_,h4⟩
 ·rw[a2N h3 h5.symm,h2 h1]
 ·exact b5C h4
theorem b7X{g:Nat→Nat}{A3:Nat}{ok2 ok3:Bool}{es:List EvC}(h:(ok2=true∧A2=A+4∧A+4≤N∧c=gB g A 3∧m=g (A+3))∨(ok2=false∧A2=N∧m=0∧N<A+4))
  (h2:(ok3=true∧ok2=true∧Evt.eF m ((bl g N).drop A2)=yW (es.map aY) (Evt.eF (m-m) ((bl g N).drop A3)))∨(ok3=false∧(ok2=true→Evt.eF m ((bl g N).drop A2)=none))):
  (ok3=true∧Evt.l6 ((bl g N).drop A)=some (⟨(c:Nat),es.map aY⟩,(bl g N).drop A3))∨(ok3=false∧Evt.l6 ((bl g N).drop A)=none):=by
 rcases h2 with⟨q1,q2,q3⟩|⟨q1,q2⟩
 ·rcases h with⟨h1,rfl,h3,rfl,h5⟩|⟨h1,_⟩
  ·refine Or.inl ⟨q1,?_⟩;rw[a2N h3 h5.symm,q3,d1L];show some ((⟨((gB g A 3:Nat):Int),es.map aY++[]⟩:Evt.Bat),(bl g N).drop A3)=_;rw[d0W]
  ·rw[q2]at h1;cases h1
 ·exact Or.inr ⟨q1,uD h q2⟩
theorem c1R(X:Option Addr)(C:Nat)(W0 w:World)(h:PS W0 w (.slice X 0 C) 0 0 true):
  Calls prog 98 #[iV 1,.pointer (some (aD (W0.heap.size+1) 0)),.pointer (some (aD W0.heap.size 0)),.pointer (some (aD (W0.heap.size+1+1) 0))] w fun e w'=>e=.returned (iV 0)∧PS W0 w' (.slice X 0 C) 0 0 false:=by
 have HP:=hd8 h.setNo;have c0:w.cell? (aD (W0.heap.size+1) 0)=some (iV 0):=h.at_;have c1:=h.b_;have c2:=h.ok_;have f1:=h.fo;clear h;go_enter func98,ntmps98
 go_wp2_with fail;refine wp_loop_rounds 1 ?_;rw[rounds_succ];go_wp2_with fail;go_ret
 exact⟨rfl,HP.out⟩
theorem vJ(g:Nat→Nat):Evt.aL (bl g 0)=2∧Evt.dA (bl g 0)=[]:=⟨rfl,rfl⟩
theorem c5E{A:Option Addr}{C:Nat}{l:List Vw.Acc}(h:bG w (.slice A n C) l): ∀i a,l[i]?=some a→ ∃b o,A=some (aD b o)∧b6F w b (o+i*4) a:=by
 obtain⟨_,_,hv,_,_,hc⟩:=h;cases hv
 exact hc
end Go.Proofs.YtmcaejooaaahdaaGreat
