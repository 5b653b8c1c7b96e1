import Derived.Test.YtmcaejooaaahdaaGreatZ04
import Derived.Lib.SliceRun
import Derived.Laws.ResultCell
import Derived.Deep.Cut
import Derived.Deep.CutRange
set_option maxHeartbeats 8000000
set_option maxRecDepth 100000
namespace Go.Proofs.YtmcaejooaaahdaaGreat
open Go.Proofs.Tryz
variable {B M N b c g i j k m n o p x:Nat} {G K L:Nat→Nat} {a' b' c' v y:Value} {f f':Nat→Nat→Nat} {h:Int} {w w' w0 w3 wX wr:World}
open Go.RowKit
theorem uK(s h z:Int)(A:Option Addr)(n cap:Nat)(w:World):
  Calls prog 152 #[.agg #[iV s,iV h,iV z,.slice A n cap]] w fun e w'=>e=.returned (iV (Crc.aA s h z n:Nat))∧Bl w w':=by
 by_cases c0:s<0
 ·have H:Hid (Crc.aA s h z n=3):=Crc.bG (by omega);go_enter func152,ntmps152
  go_wp2_with fail;go_ret
  exact⟨aH (by rw[H.out];rfl),aB8 _ _⟩
 by_cases c1:39<s
 ·have H:Hid (Crc.aA s h z n=3):=Crc.bG (by omega);go_enter func152,ntmps152
  go_wp2_with fail;go_ret
  exact⟨aH (by rw[H.out];rfl),aB8 _ _⟩
 by_cases c2:h<0
 ·have H:Hid (Crc.aA s h z n=3):=Crc.bG (by omega);go_enter func152,ntmps152
  go_wp2_with fail;go_ret
  exact⟨aH (by rw[H.out];rfl),aB8 _ _⟩
 by_cases c3:11<h
 ·have H:Hid (Crc.aA s h z n=3):=Crc.bG (by omega);go_enter func152,ntmps152
  go_wp2_with fail;go_ret
  exact⟨aH (by rw[H.out];rfl),aB8 _ _⟩
 by_cases c4:z<0
 ·have H:Hid (Crc.aA s h z n=3):=Crc.bG (by omega);go_enter func152,ntmps152
  go_wp2_with fail;go_ret
  exact⟨aH (by rw[H.out];rfl),aB8 _ _⟩
 by_cases c5:3200<z
 ·have H:Hid (Crc.aA s h z n=3):=Crc.bG (by omega);go_enter func152,ntmps152
  go_wp2_with fail;go_ret
  exact⟨aH (by rw[H.out];rfl),aB8 _ _⟩
 by_cases c6:n<1
 ·have H:Hid (Crc.aA s h z n=5):=Crc.eB (by omega) (by omega);have A0:n=0:=by omega
  subst A0;go_enter func152,ntmps152
  go_wp2_with fail;go_ret
  exact⟨aH (by rw[H.out];rfl),aB8 _ _⟩
 by_cases c7:400<n
 ·have H:Hid (Crc.aA s h z n=5):=Crc.eB (by omega) (by omega);have A1:(400:Int)<(n:Int):=by omega
  have A2: ¬(n:Int)<1:=by omega
  have A3:((n:Int)==0)=false:=by rw[beq_eq_false_iff_ne];omega
  go_enter func152,ntmps152
  go_wp2_with fail;go_ret
  exact⟨aH (by rw[H.out];rfl),aB8 _ _⟩
 have H:Hid (Crc.aA s h z n=0):=Crc.kC (by omega) (by omega);have A1: ¬(400:Int)<(n:Int):=by omega
 have A2: ¬(n:Int)<1:=by omega
 have A3:((n:Int)==0)=false:=by rw[beq_eq_false_iff_ne];omega
 go_enter func152,ntmps152
 go_wp2_with fail;go_ret
 exact⟨aH (by rw[H.out];rfl),aB8 _ _⟩
theorem mY(s h z:Int)(A:Option Addr)(n cap:Nat)(w:World):
  Calls prog 126 #[.agg #[iV s,iV h,iV z,.slice A n cap]] w fun e w'=>e=.returned (iV (Crc.aA s h z n:Nat))∧Bl w w':=by
 by_cases c0:s<0
 ·have H:Hid (Crc.aA s h z n=3):=Crc.bG (by omega);go_enter func126,ntmps126
  go_wp2_with fail;go_ret
  exact⟨aH (by rw[H.out];rfl),aB8 _ _⟩
 by_cases c1:39<s
 ·have H:Hid (Crc.aA s h z n=3):=Crc.bG (by omega);go_enter func126,ntmps126
  go_wp2_with fail;go_ret
  exact⟨aH (by rw[H.out];rfl),aB8 _ _⟩
 by_cases c2:h<0
 ·have H:Hid (Crc.aA s h z n=3):=Crc.bG (by omega);go_enter func126,ntmps126
  go_wp2_with fail;go_ret
  exact⟨aH (by rw[H.out];rfl),aB8 _ _⟩
 by_cases c3:11<h
 ·have H:Hid (Crc.aA s h z n=3):=Crc.bG (by omega);go_enter func126,ntmps126
  go_wp2_with fail;go_ret
  exact⟨aH (by rw[H.out];rfl),aB8 _ _⟩
 by_cases c4:z<0
 ·have H:Hid (Crc.aA s h z n=3):=Crc.bG (by omega);go_enter func126,ntmps126
  go_wp2_with fail;go_ret
  exact⟨aH (by rw[H.out];rfl),aB8 _ _⟩
 by_cases c5:3200<z
 ·have H:Hid (Crc.aA s h z n=3):=Crc.bG (by omega);go_enter func126,ntmps126
  go_wp2_with fail;go_ret
  exact⟨aH (by rw[H.out];rfl),aB8 _ _⟩
 by_cases c6:n<1
 ·have H:Hid (Crc.aA s h z n=5):=Crc.eB (by omega) (by omega);have A0:n=0:=by omega
  subst A0;go_enter func126,ntmps126
  go_wp2_with fail;go_ret
  exact⟨aH (by rw[H.out];rfl),aB8 _ _⟩
 by_cases c7:400<n
 ·have H:Hid (Crc.aA s h z n=5):=Crc.eB (by omega) (by omega);have A1:(400:Int)<(n:Int):=by omega
  have A2: ¬(n:Int)<1:=by omega
  have A3:((n:Int)==0)=false:=by rw[beq_eq_false_iff_ne];omega
  go_enter func126,ntmps126
  go_wp2_with fail;go_ret
  exact⟨aH (by rw[H.out];rfl),aB8 _ _⟩
 have H:Hid (Crc.aA s h z n=0):=Crc.kC (by omega) (by omega);have A1: ¬(400:Int)<(n:Int):=by omega
 have A2: ¬(n:Int)<1:=by omega
 have A3:((n:Int)==0)=false:=by rw[beq_eq_false_iff_ne];omega
 go_enter func126,ntmps126
 go_wp2_with fail;go_ret
 exact⟨aH (by rw[H.out];rfl),aB8 _ _⟩
theorem tB(b o n cap p:Nat)(f:Nat→Nat)(w:World)(hf:Bd f)(hn:n≤9223372036854775807)(hp:p+1<n)(hc: ∀i,i<n→w.cell? (aD b (o+i))=some (.int .u8 (f i:Nat))):
  Calls prog 150 #[.slice (some (aD b o)) n cap,iV p] w fun e w'=>e=.returned (iV ((f p*256+f (p+1):Nat):Int))∧Bl w w':=by
 have t1:=hc p (by omega);have t2:=hc (p+1) hp;have f1:=hf p;have f2:=hf (p+1);have h1:(p:Int)<(n:Int):=by omega
 have h2:(p:Int)+1<(n:Int):=by omega
 clear hc;go_enter func150,ntmps150
 go_wp2_with fail;go_quiet (fail)
 go_wp2_with fail;go_ret
 refine⟨aH (?_:bits .or .i64 ((f p:Nat)*256) (f (p+1):Nat)=_),⟨rfl,rfl,rfl,c9C _,fun _ _=>rfl⟩⟩;rw[show((f p:Nat):Int)*256=((f p*256:Nat):Int) by omega,c0K _ _ (by omega) (by omega),nat_join 8 _ _ (by omega) (by omega)]
theorem sS(i x y:Nat)(hx:x<2^i)(hy:y%2^i=0)(h1:x<4294967296)(h2:y<4294967296):bits .or .u32 (x:Int) (y:Int)=((x+y:Nat):Int):=by
 rw[u32_or_nat _ _ h1 h2,Nat.or_comm,nat_join i _ _ hy hx,Nat.add_comm]
theorem or4(a b c d:Nat)(ha:a<256)(hb:b<256)(hc:c<256)(hd:d<256):
  bits .or .u32 (bits .or .u32 (bits .or .u32 (bits .or .u32 0 (a:Int)) ((b:Int)*256)) ((c:Int)*65536)) ((d:Int)*16777216)=((a+b*256+c*65536+d*16777216:Nat):Int):=by
 rw[show(0:Int)=((0:Nat):Int)from rfl,sS 0 0 a (by decide) (by omega) (by decide) (by omega),c9G,show(b:Int)*256=((b*256:Nat):Int) by omega,sS 8 a (b*256) (by omega) (by omega) (by omega) (by omega),
  show(c:Int)*65536=((c*65536:Nat):Int) by omega,sS 16 (a+b*256) (c*65536) (by omega) (by omega) (by omega) (by omega),
  show(d:Int)*16777216=((d*16777216:Nat):Int) by omega,sS 24 (a+b*256+c*65536) (d*16777216) (by omega) (by omega) (by omega) (by omega)]
theorem a1B(b o n cap p:Nat)(f:Nat→Nat)(w:World)(hf:Bd f)(hn:n≤9223372036854775807)(hp:p+4=n)(hc: ∀i,i<n→w.cell? (aD b (o+i))=some (.int .u8 (f i:Nat))):
  Calls prog 149 #[.slice (some (aD b o)) n cap,iV p] w fun e w'=>e=.returned (.int .u32 (Crc.oC f p:Nat))∧Bl w w':=by
 have t0:=hc p (by omega);have t1:=hc (p+1) (by omega);have t2:=hc (p+2) (by omega);have t3:=hc (p+3) (by omega);have f0:=hf p;have f1:=hf (p+1);have f2:=hf (p+2);have f3:=hf (p+3);have A0:(n:Int)=(p:Int)+4:=by omega
 subst hp;clear hc;go_enter func149,ntmps149
 go_wp2_with fail;refine wp_loop_rounds 5 ?_;iterate 5
  rw[rounds_succ];go_wp2_with fail
 go_ret
 exact⟨aH (or4 (f p) (f (p+1)) (f (p+2)) (f (p+3)) f0 f1 f2 f3),Below.refl _ _⟩
def cU(g:Nat→Nat)(n:Nat):Prop:=n<12∨g 0≠83∨n≠11+(g 5*256+g 6)
theorem kV(v:Value)(n:Nat)(g:Nat→Nat)(w:World)(h:cF w v n g):
  Calls prog 147 #[v] w fun e w'=>qW e (¬cU g n)∧Bl w w':=by
 by_cases hn:n<12
 ·have H:Hid (cU g n):=Or.inl hn;obtain⟨_,A,A1,rfl,_⟩:=h;have A2:(n:Int)<12:=by omega
  go_enter func147,ntmps147
  go_wp2_with fail;go_ret
  exact⟨cV (fun k=>k H.out),Below.refl _ _⟩
 ·have A2: ¬(n:Int)<12:=by omega
  have A0:=h.bd;have hl:=h.len;obtain⟨b,o,A1,rfl,_,_,hc⟩:=h.some (by omega);have t0:w.cell? (aD b o)=some (.int .u8 (g 0:Nat)):=by simpa using hc 0 (by omega)
  have A3:(0:Int)<(n:Int):=by omega
  by_cases h0:g 0=83
  ·have H2:=fun w' (hb':Bl w w')=>tB b o n A1 5 g w' A0 hl (by omega) (fun i hi=>cB8 hb' (hc i hi));have e0:(((g 0:Nat):Int) !=83)=false:=by rw[h0];rfl
   have b5:=A0 5;have b6:=A0 6;have HX:Hid (¬cU g n↔(n:Int)=7+((g 5*256+g 6:Nat):Int)+4):=by
    unfold cU;constructor
    ·intro k;omega
    ·intro k;omega
   have hq:g 5*256+g 6≤65535:=by omega
   generalize g 5*256+g 6=q at H2 HX hq;clear hc h0 h;go_enter func147,ntmps147
   go_wp2_with fail;refine(H2 _ (Below.refl _ _)).mono ?_;rintro e w1 ⟨rfl,b1⟩;clear H2;go_wp2_with fail;go_ret
   exact⟨c4L (by rw[beq_iff_eq];exact HX.out.symm),b1⟩
  ·have H:Hid (cU g n):=Or.inr (Or.inl h0);have e0:(((g 0:Nat):Int) !=83)=true:=by rw[bne_iff_ne];omega
   clear hc h0 h;go_enter func147,ntmps147
   go_wp2_with fail;go_ret
   exact⟨cV (fun k=>k H.out),Below.refl _ _⟩
def cellsOf(f:Nat→Nat)(n:Nat):List Value:=(List.range n).map fun k=> .int .u8 (f k:Nat)
theorem a3O(f:Nat→Nat)(n j:Nat)(h:j<n)(d:Value):(cellsOf f n).getD j d=.int .u8 (f j:Nat):=by simp[cellsOf,List.getD,h]
theorem jG{f g:Nat→Nat}(h: ∀k,k<n→f k=g k):cellsOf f n=cellsOf g n:=d1H (fun k hk=>by rw[h k (d0D.1 hk)])
theorem lH(f:Nat→Nat)(n m:Nat):cellsOf f (n+m)=cellsOf f n++cellsOf (fun k=>f (n+k)) m:=by
 unfold cellsOf;rw[List.range_add,c9U,List.map_map];rfl
theorem jK(f:Nat→Nat)(n:Nat): ∀u∈cellsOf f n,u.oneCell'=true:=fun u hu=>by
 obtain⟨k,_,rfl⟩:=d0G.1 hu
 rfl
def Buf(w:World)(N:Nat)(v:Value)(n:Nat)(f:Nat→Nat):Prop:=w.ownsRow N 5 1 v n (cellsOf f n)
theorem Buf.below{f:Nat→Nat}(h:Buf w N v n f)(hb:Bl w w'):Buf w' N v n f:=aK h hb
theorem Buf.congr{f g:Nat→Nat}(h:Buf w N v n f)(e: ∀k,k<n→f k=g k):Buf w N v n g:=by
 unfold Buf at h⊢;rw[←jG e];exact h
theorem Buf.byts{f:Nat→Nat}(h:Buf w N v n f)(hf:Bd f)(hn:1≤n): ∃g cap,v=.slice (some (aD g 0)) n cap∧N≤g∧n≤cap∧cap≤maxLen∧aY w g 5 n (fun j=> .int .u8 (f j:Nat))∧cF w v n f:=by
 obtain⟨hl,h'⟩:=h;rcases h' with⟨_,h0⟩|⟨g,cap,A3,hv,hN,hg,hc,hm,hs,ht⟩
 ·omega
 ·obtain⟨g',A2,A1,A4,A5,hr⟩:=eD (w:=w) (N:=N) (t:=5) (v:=v) (n:=n) (xs:=cellsOf f n) ⟨hl,Or.inr ⟨g,cap,A3,hv,hN,hg,hc,hm,hs,ht⟩⟩ hn;rw[hv]at A1;cases A1
  have A0:=hr.congr (fun j hj=>a3O f n j hj _);exact⟨g,cap,hv,hN,hc,hm,A0,by rw[hv];exact lN hf A0 hc hm⟩
def put(f:Nat→Nat)(n x:Nat)(k:Nat):Nat:=if k=n then x else f k
theorem yE(N n x:Nat)(v:Value)(f:Nat→Nat)(w:World)(h:Buf w N v n f)(hN:N≤w.heap.size)(hn:n≤1000)(hx:x<65536):
  Calls prog 165 #[v,iV x] w fun e w'=> ∃v',e=.returned v'∧Buf w' N v' (n+2) (put (put f n (x/256)) (n+1) (x%256))∧Below N w w':=by
 obtain⟨i1,A3,A1⟩:=c9J.1 Tryz.infoByte;simp only[Prod.mk.injEq]at A1;obtain⟨A5,A2,A4⟩:=A1;go_enter func165,ntmps165
 have HO:=h.below (aB8 _ _);have A0:Below N w (w.alloc (.cells #[.int .u8 ((x:Int)/256),.int .u8 ((x:Int)%256)] 5)):=(Below.refl _ _).alloc hN _;have HL:=h.lt;have cn:=eE w #[.int .u8 ((x:Int)/256),.int .u8 ((x:Int)%256)] 5;have sX:=A0.size;go_wp2_with (at_builtin;go_loud (refine wpList_append_own _ rfl (.tmp 5) (.tmp 11) 59 rfl N 5 i1 (.int .u8 0) 1 1 underlying59 A3 A5 A2 A4 rfl (by decide) _ _ _ rfl HO (aD w.heap.size 0) 2 2 [.int .u8 ((x:Int)/256),.int .u8 ((x:Int)%256)] rfl rfl cn (by intro u hu;simp at hu;rcases hu with rfl|rfl<;>rfl) (by unfold maxLen;omega) (by omega) (c9E hN sX) ?_;intro v1 w1 hown1 hgrow1 _));go_ret
 refine⟨_,rfl,?_,A0.grown hgrow1 (c9E hN sX) (fun y hy=>(HL y hy).1)⟩;have e:cellsOf (put (put f n (x/256)) (n+1) (x%256)) (n+2)=cellsOf f n++[.int .u8 ((x:Int)/256),.int .u8 ((x:Int)%256)]:=by
  rw[lH];refine congr (congrArg _ ?_) ?_
  ·exact jG (fun k hk=>by unfold put;rw[if_neg (by omega),if_neg (by omega)])
  ·show[Value.int .u8 ((put (put f n (x/256)) (n+1) (x%256) (n+0):Nat):Int),Value.int .u8 ((put (put f n (x/256)) (n+1) (x%256) (n+1):Nat):Int)]=_;unfold put;rw[if_neg (by omega),if_pos (by omega),if_pos rfl];rfl
 unfold Buf;rw[e];exact hown1
theorem b4J{y:Nat}{f:Nat→Nat}{a:Int}(h:w.ownsRow N 5 1 v (n+1) (cellsOf f n++[.int .u8 a]))(e:a=(y:Int))(ey:f n=y):Buf w N v (n+1) f:=by
 unfold Buf;rw[lH];show w.ownsRow N 5 1 v (n+1) (cellsOf f n++[Value.int .u8 ((f n:Nat):Int)]);rw[ey,←e];exact h
def oF(f:Nat→Nat)(n x k:Nat):Nat:=if k<n then f k else Crc.low x (k-n)
theorem b1Q(N n x:Nat)(v:Value)(f:Nat→Nat)(w:World)(h:Buf w N v n f)(hN:N≤w.heap.size)(hn:n≤1000)(_hx:x<4294967296):
  Calls prog 166 #[v,.int .u32 (x:Int)] w fun e w'=> ∃v',e=.returned v'∧Buf w' N v' (n+4) (oF f n x)∧Below N w w':=by
 obtain⟨i1,A5,A1⟩:=c9J.1 Tryz.infoByte;simp only[Prod.mk.injEq]at A1;obtain⟨A3,A4,A2⟩:=A1;go_enter func166,ntmps166
 go_wp2_with fail;go_loopw [0,6] (fun u y wr=> ∃k:Nat,k≤4∧y=iV k∧Buf wr N u (n+k) (oF f n x)∧Below N w wr) (fun _ y _=>4-(intOf y).toNat)
 case atStart=>exact⟨0,c9D _,rfl,h.congr (fun k hk=>by unfold oF;rw[if_pos hk]),Below.refl _ _⟩
 case round=>
  obtain⟨k,hk,rfl,HB,hb⟩:=hrel;by_cases A7:k<4
  ·have A6:(k:Int)<4:=by omega
   have HO:=HB.below ((Below.refl _ _).alloc (c9C _) (.cells #[.int .u8 ((x:Int)/2^(8*k)%256)] 5));have A0:=hb.alloc (c9E hN hb.size) _;have HL:=HB.lt;have cn:=eE wr #[.int .u8 ((x:Int)/2^(8*k)%256)] 5;have sX:=c9E hN A0.size;go_wp2_with (at_builtin;go_loud (refine wpList_append_own _ rfl (.tmp 9) (.tmp 15) 59 rfl N 5 i1 (.int .u8 0) 1 1 underlying59 A5 A3 A4 A2 rfl (by decide) _ _ _ rfl HO (aD wr.heap.size 0) 1 1 [.int .u8 ((x:Int)/2^(8*k)%256)] rfl rfl cn (by intro u hu;simp at hu;subst hu;rfl) (by unfold maxLen;omega) (by omega) sX ?_;intro v1 w1 hown1 hgrow1 _));refine⟨⟨k+1,by omega,by go_num,b4J (n:=n+k) hown1 (y:=Crc.low x k) ?_ ?_,A0.grown hgrow1 sX (fun y hy=>(HL y hy).1)⟩,by simp[intOf];omega⟩
   ·unfold Crc.low;rw[show(256:Nat)^k=2^(8*k) by rw[Nat.pow_mul]];simp
   ·unfold oF;rw[if_neg (by omega),d2G]
  ·have e8:k=4:=by omega
   subst e8;go_wp2_with fail;go_ret
   exact⟨_,rfl,HB,hb⟩
theorem b5G(w:World)(b o L C:Nat)(f:Nat→Nat)(hL:L≤100000)(hc: ∀k,k<L→w.cell? (aD b (o+k))=some (.int .u8 (f k:Nat))):
  ∃v' w',(Builtin.append_ #[59,59] 59 #[.slice (some (aD w.heap.size 0)) 0 0,.slice (some (aD b o)) L C]).run prog (w.alloc (.cells #[] 5))=.ok v' w'∧Buf w' w.heap.size v' L f∧Bl w w':=by
 obtain⟨i1,A6,A3⟩:=c9J.1 Tryz.infoByte;simp only[Prod.mk.injEq]at A3;obtain⟨A7,A4,A5⟩:=A3;have A1:=(Below.refl w.heap.size w).alloc (c9C _) (.cells #[] 5);have A0:(w.alloc (.cells #[] 5)).ownsRow w.heap.size 5 1 (.slice (some (aD w.heap.size 0)) 0 0) 0 []:=World.ownsRow_made w #[] 0 (c9C _) (by unfold maxLen;omega) rfl;have hn: ∀j u,(cellsOf f L)[j]?=some u→(w.alloc (.cells #[] 5)).cell? ((⟨b,o,none⟩:Addr).add j)=some u:=fun j u hj=>by
  rcases Nat.lt_or_ge j L with h|h
  ·simp[cellsOf,h]at hj;rw[WideShapes.add_plain,cB8 A1 (hc j h),←hj]
  ·simp[List.getElem?_eq_none (show(cellsOf f L).length≤j by simpa [cellsOf]using h)]at hj
 obtain⟨v',w',A2,ho,hg,_⟩:=run_append_own (P:=prog) (w.alloc (.cells #[] 5)) w.heap.size 59 59 5 i1 (.int .u8 0) 1 1 underlying59 A6 A7 A4 A5 rfl (by decide) _ 0 [] A0 (aD b o) L C (cellsOf f L) (by simp[cellsOf]) hn (jK f L) (by unfold maxLen;omega) (by omega) A1.size;rw[c9G,d1C]at ho;exact⟨v',w',A2,ho,A1.grown hg A1.size (fun x hx=>(A0.lt x hx).1)⟩
theorem b5X(b o L C:Nat)(f:Nat→Nat)(w:World)(hL:L≤100000)(hc: ∀k,k<L→w.cell? (aD b (o+k))=some (.int .u8 (f k:Nat))):
  Calls prog 151 #[.slice (some (aD b o)) L C] w fun e w'=> ∃v',e=.returned v'∧Buf w' w.heap.size v' L f∧Bl w w':=by
 obtain⟨v',w',A0,HB,hb⟩:=b5G w b o L C f hL hc;have HX:=hd8 HB;have hq:=fun w=>Lib.run_eql_slice_nil (P:=prog) w 59 5 (some (aD b o)) L C 0 0 underlying59;clear HB hc;go_enter func151,ntmps151
 go_wp2_with (at_builtin;refine Lib.wpList_append_run _ rfl (.tmp 5) (.tmp 6) 59 59 rfl _ _ rfl rfl _ _ A0 ?_);go_ret
 exact⟨_,rfl,HX.out,hb⟩
def kK(w:World)(N:Nat)(v:Value)(m:Nat)(f:Nat→Nat):Prop:= ∃g cap,v=.slice (some (aD g 0)) m cap∧N≤g∧m≤cap∧cap≤maxLen∧aY w g 5 m (fun j=> .int .u8 (f j:Nat))
theorem kK.byts{f:Nat→Nat}(h:kK w N v m f)(hf:Bd f):cF w v m f:=by
 obtain⟨g,A0,rfl,_,h1,h2,hr⟩:=h;exact lN hf hr h1 h2
theorem kK.lower{f:Nat→Nat}(h:kK w N v m f)(hM:M≤N):kK w M v m f:=by
 obtain⟨g,A0,hv,hN,h1,h2,hr⟩:=h;exact⟨g,A0,hv,c9E hM hN,h1,h2,hr⟩
theorem Buf.made{f:Nat→Nat}(h:Buf w N v n f)(hf:Bd f)(hn:1≤n):kK w N v n f:=by
 obtain⟨g,A0,hv,hN,h1,h2,hr,_⟩:=h.byts hf hn;exact⟨g,A0,hv,hN,h1,h2,hr⟩
theorem a9I(w:World)(c:Array Value)(t:TypeId)(hm:c.size≤maxLen):(w.alloc (.cells c t)).ownsRow w.heap.size t 1 (.slice (some (aD w.heap.size 0)) c.size c.size) c.size c.toList:=
 ⟨by simp,.inr ⟨w.heap.size,c.size,c,rfl,c9C _,Deep.blk_alloc_new _ _,c9C _,hm,by simp,by rw[d1X];exact List.take_of_length_le (by simp)⟩⟩
theorem c7X(s h z n:Nat)(f:Nat→Nat): ∀k,k<5→put (put (Crc.hd s h z n f) 3 (z/256)) 4 (z%256) k=Crc.hd s h z n f k:=fun k hk=>by
 unfold put
 by_cases e:k=4
 ·rw[if_pos e,e];rfl
 ·rw[if_neg e]
  by_cases e:k=3
  ·rw[if_pos e,e];rfl
  ·rw[if_neg e]
theorem c6P(s h z n:Nat)(f:Nat→Nat): ∀k,k<7→put (put (Crc.hd s h z n f) 5 (n/256)) 6 (n%256) k=Crc.hd s h z n f k:=fun k hk=>by
 unfold put
 by_cases e:k=6
 ·rw[if_pos e,e];rfl
 ·rw[if_neg e]
  by_cases e:k=5
  ·rw[if_pos e,e];rfl
  ·rw[if_neg e]
theorem b3L(s h z n:Nat)(f:Nat→Nat):cellsOf (Crc.hd s h z n f) (7+n)=cellsOf (Crc.hd s h z n f) 7++cellsOf f n:=by
 rw[lH];congr 1;refine jG (fun k _=>?_);rw[Nat.add_comm];rfl
theorem a2Q(s h z n:Nat)(f:Nat→Nat): ∀k,oF (Crc.hd s h z n f) (7+n) (Crc.sum (Crc.hd s h z n f) (7+n)) k=Crc.enc s h z n f k:=fun k=>by
 unfold oF Crc.enc
 rw[Nat.add_comm 7 n]
theorem b5H(s h z:Int)(A:Option Addr)(n cap:Nat)(w:World)(hx:Crc.aA s h z n≠0):
  Calls prog 138 #[.agg #[iV s,iV h,iV z,.slice A n cap]] w fun e w'=>e=.returned (.tuple #[nS,iV (Crc.aA s h z n:Nat)])∧Bl w w':=by
 have H1:=fun w'=>uK s h z A n cap w';generalize Crc.aA s h z n=x at H1 hx;have A1:((x:Int)==0)=false:=by rw[beq_eq_false_iff_ne];omega
 have A2:((x:Int) !=0)=true:=by rw[bne,A1];rfl
 have A0:=aB8 w (.cells #[iV s,iV h,iV z,.slice A n cap] 137);clear hx;go_enter func138,ntmps138
 go_wp2_with fail;refine(H1 _).mono ?_;rintro e w1 ⟨rfl,b1⟩;have b1:=bt A0 b1;clear H1;go_wp2_with fail;go_ret2
 exact⟨rfl,b1⟩
theorem c3K(s h z:Nat)(v:Value)(n:Nat)(f:Nat→Nat)(w:World)(hd:cF w v n f)(hx:Crc.aA s h z n=0):
  Calls prog 138 #[.agg #[iV s,iV h,iV z,v]] w fun e w'=> ∃v',e=.returned (.tuple #[v',iV 0])∧kK w' w.heap.size v' (n+11) (Crc.enc s h z n f)∧Bl w w':=by
 obtain⟨⟨_,hs,_,hh,_,hz⟩,Aj,Ak⟩:=Crc.bN hx;have hf:=hd.bd;have A3:Hid (Bd (Crc.hd s h z n f)):=Crc.c2R (by omega) (by omega) (by omega) (by omega) hf;have Ah:Hid (Bd (Crc.enc s h z n f)):=Crc.a5C (by omega) (by omega) (by omega) (by omega) hf;obtain⟨b,o,A2,rfl,_,_,hc⟩:=hd.some Aj;obtain⟨i1,Ai,A6⟩:=c9J.1 Tryz.infoByte;simp only[Prod.mk.injEq]at A6;obtain⟨Af,Ag,Ac⟩:=A6;have H1:=fun w'=>uK s h z (some (aD b o)) n A2 w';rw[hx]at H1;have A4:=aB8 w (.cells #[iV s,iV h,iV z,.slice (some (aD b o)) n A2] 137);have kc:=eE w #[iV s,iV h,iV z,.slice (some (aD b o)) n A2] 137;have k0:=kc 0 _ rfl;have k1:=kc 1 _ rfl;have k2:=kc 2 _ rfl;have k3:=kc 3 _ rfl;rw[WideShapes.add_plain]at k0 k1 k2 k3;have Ae:(w.alloc (.cells #[iV s,iV h,iV z,.slice (some (aD b o)) n A2] 137)).heap.size=w.heap.size+1:=by simp
 clear kc hd hx;go_enter func138,ntmps138
 go_wp2_with fail;refine(H1 _).mono ?_;rintro e w1 ⟨rfl,b1⟩;have A5:w.heap.size<w1.heap.size:=by have:=b1.size;omega
 have K0:=(b1.cell (p:=⟨w.heap.size,0,none⟩) (by show w.heap.size<_;omega)).trans k0;have K1:=(b1.cell (p:=⟨w.heap.size,0+1,none⟩) (by show w.heap.size<_;omega)).trans k1;have K2:=(b1.cell (p:=⟨w.heap.size,0+2,none⟩) (by show w.heap.size<_;omega)).trans k2;have K3:=(b1.cell (p:=⟨w.heap.size,0+3,none⟩) (by show w.heap.size<_;omega)).trans k3;rw[c9G]at K1 K2 K3;have b1:=bt A4 b1;clear H1 k0 k1 k2 k3 A4 Ae;have X2:=aB8 w1 (.cells #[.int .u8 83,.int .u8 s,.int .u8 h] 5);have B2:Buf (w1.alloc (.cells #[.int .u8 83,.int .u8 s,.int .u8 h] 5)) w1.heap.size (.slice (some (aD w1.heap.size 0)) 3 3) 3 (Crc.hd s h z n f):=a9I w1 #[.int .u8 83,.int .u8 s,.int .u8 h] 5 (by unfold maxLen;simp);have H2:=yE w1.heap.size 3 z _ _ _ B2 X2.size (by omega) (by omega);clear B2;go_wp2_with fail;refine H2.mono ?_;rintro e w2 ⟨v2,rfl,B3,Aa⟩;have c2:=X2.trans Aa;have B3:=B3.congr (c7X s h z n f);have K3:=(c2.cell (p:=⟨w.heap.size,3,none⟩) A5).trans K3;have H3:=yE w1.heap.size 5 n _ _ _ B3 c2.size (by omega) (by omega);clear H2 B3 X2 Aa;go_wp2_with fail;refine H3.mono ?_;rintro e w3 ⟨v3,rfl,B4,A9⟩;have K3:=(A9.cell (p:=⟨w.heap.size,3,none⟩) A5).trans K3;have c3:=c2.trans A9;have B4:=B4.congr (c6P s h z n f);have b3:=b1.trans (c3.mono b1.size);have A0: ∀j u,(cellsOf f n)[j]?=some u→w3.cell? ((⟨b,o,none⟩:Addr).add j)=some u:=fun j u hj=>by
  rcases Nat.lt_or_ge j n with h|h
  ·simp[cellsOf,h]at hj;rw[WideShapes.add_plain,cB8 b3 (hc j h),←hj]
  ·simp[List.getElem?_eq_none (show(cellsOf f n).length≤j by simpa [cellsOf]using h)]at hj
 have Ab:=jK f n;have A1:(cellsOf f n).length=n*1:=by simp[cellsOf]
 have HL:=B4.lt;have A8:=hd8 (b3L s h z n f);have s3:=c3.size;clear hc;go_wp2_with (at_builtin;go_loud (refine wpList_append_own _ rfl (.tmp 27) (.tmp 29) 59 rfl w1.heap.size 5 i1 (.int .u8 0) 1 1 underlying59 Ai Af Ag Ac rfl (by decide) _ _ _ rfl B4 (aD b o) n A2 (cellsOf f n) rfl A1 A0 Ab (by unfold maxLen;omega) (by omega) s3 ?_;intro v4 w4 hown4 hgrow4 _));have B5:Buf w4 w1.heap.size v4 (7+n) (Crc.hd s h z n f):=by
  unfold Buf;rw[A8.out];exact hown4
 have c4:=c3.grown hgrow4 s3 (fun y hy=>(HL y hy).1);have Y4:=(B5.made A3.out (by omega)).byts A3.out;have H5:=c4K v4 (7+n) _ w4 Y4;have A7:=Crc.c2Y A3.out _;have H6:=b1Q w1.heap.size (7+n) (Crc.sum (Crc.hd s h z n f) (7+n)) v4 _ w4 B5 c4.size (by omega) A7;have HE:=hd8 (a2Q s h z n f);generalize Crc.sum (Crc.hd s h z n f) (7+n)=S at H5 H6 A7 HE;clear hown4 B5 Y4 A8 H3 B4 A0 K3 hgrow4 HL Ab A1;refine H5.mono ?_;rintro e w5 ⟨rfl,rfl⟩;go_wp2_with fail;refine H6.mono ?_;rintro e w6 ⟨v6,rfl,B7,Ad⟩;have c6:=c4.trans Ad;have HM:Hid (kK w6 w.heap.size v6 (n+11) (Crc.enc s h z n f)):=by
  have:=(B7.congr (fun k _=>HE.out k)).made Ah.out (by omega);rw[show 7+n+4=n+11 by omega]at this;exact this.lower b1.size
 clear H5 H6 B7;go_wp2_with fail;go_ret2
 exact⟨v6,rfl,HM.out,b1.trans (c6.mono b1.size)⟩
theorem a4X(s h z:Int)(A:Option Addr)(n cap:Nat)(w:World)(hx:Crc.aA s h z n≠0):
  Calls prog 95 #[.agg #[iV s,iV h,iV z,.slice A n cap]] w fun e w'=>e=.returned (.tuple #[nS,iV (Crc.aA s h z n:Nat)])∧Bl w w':=by
 have H1:=fun w'=>mY s h z A n cap w';generalize Crc.aA s h z n=x at H1 hx;have A1:((x:Int)==0)=false:=by rw[beq_eq_false_iff_ne];omega
 have A2:((x:Int) !=0)=true:=by rw[bne,A1];rfl
 have A0:=aB8 w (.cells #[iV s,iV h,iV z,.slice A n cap] 137);clear hx;go_enter func95,ntmps95
 go_wp2_with fail;refine(H1 _).mono ?_;rintro e w1 ⟨rfl,b1⟩;have b1:=bt A0 b1;clear H1;go_wp2_with fail;go_ret2
 exact⟨rfl,b1⟩
structure sO(w:World)(p:Nat)(a b c d:Value):Prop where
 c0:w.cell? (aD p 0)=some a
 c1:w.cell? (aD p 1)=some b
 c2:w.cell? (aD p 2)=some c
 c3:w.cell? (aD p 3)=some d
 fr: ∀i,w.frozen? (aD p i)=false
theorem fK(w:World)(a b c d:Value):sO (w.alloc (.cells #[a,b,c,d] 137)) w.heap.size a b c d:=by
 have hr:=World.rowIs_alloc w #[a,b,c,d] 137 (fun k=>#[a,b,c,d].getD k a) (fun i hi=>by simp only[Array.getElem?_eq_getElem hi,Array.getD,hi,dif_pos];rfl);exact⟨hr.cell (i:=0) (by simp),hr.cell (i:=1) (by simp),hr.cell (i:=2) (by simp),hr.cell (i:=3) (by simp),fun i=>hr.frozen i⟩
theorem sO.below{a b c d:Value}(h:sO w p a b c d)(hb:Bl w w'):sO w' p a b c d:=by
 have hp:p<w.heap.size:=World.block_lt_of_cell? _ _ h.c0
 exact⟨(hb.cell (p:=⟨p,0,none⟩) hp).trans h.c0,(hb.cell (p:=⟨p,1,none⟩) hp).trans h.c1,(hb.cell (p:=⟨p,2,none⟩) hp).trans h.c2,(hb.cell (p:=⟨p,3,none⟩) hp).trans h.c3,fun i=>by
  rw[←h.fr i]
  exact World.frozen?_of_block (hb.block p hp)⟩
theorem b6U(v:Value)(n:Nat)(g:Nat→Nat)(w:World)(h:cF w v n g)(hx:cU g n):
  Calls prog 120 #[v] w fun e w'=>e=.returned (.tuple #[.agg #[iV 0,iV 0,iV 0,nS],iV 2])∧Bl w w':=by
 have H1:=fun w' (hb':Bl w w')=>kV v n g w' (h.below hb');have HX:=hd8 hx;clear hx;go_enter func120,ntmps120
 go_wp2_with fail;refine(H1 _ (aB8 _ _)).mono ?_;rintro e w1 ⟨⟨y,rfl,hy⟩,b1⟩;have bx:=bt ((Below.refl _ w).alloc (c9C _) _) b1;obtain⟨c0,c1,c2,c3,fr⟩:=(fK w (iV 0) (iV 0) (iV 0) nS).below b1;have A0:y=false:=by
  cases y with
  |false=>rfl
  |true=>exact absurd HX.out (hy.1 rfl)
 subst A0;have f0:=fr 0;have f1:=fr 1;have f2:=fr 2;have f3:=fr 3;clear hy H1;go_wp2_with fail;refine bodyPost_ret (v:=.tuple #[.agg #[iV 0,iV 0,iV 0,nS],iV 2]) (by simp[results,results120,go_sem,c0,c1,c2,c3]) rfl ⟨rfl,?_⟩;exact(((bx.setCell (c9C _) _).setCell (c9C _) _).setCell (c9C _) _).setCell (c9C _) _
theorem b0E(b o e cap:Nat)(g:Nat→Nat)(w:World)(h:cF w (.slice (some (aD b o)) (e+4) cap) (e+4) g)(hcap:e+4≤cap)(hx: ¬cU g (e+4))(hs:Crc.sum g e≠Crc.oC g e):
  Calls prog 120 #[.slice (some (aD b o)) (e+4) cap] w fun r w'=>r=.returned (.tuple #[.agg #[iV 0,iV 0,iV 0,nS],iV 9])∧Bl w w':=by
 have hl:=h.len;have he:8≤e:=by unfold cU at hx;omega
 have H1:=fun w' (hb':Bl w w')=>kV _ (e+4) g w' (h.below hb');obtain⟨b',o',A2,hv,_,_,hc⟩:=h.some (by omega);cases hv
 have A0:=h.bd;have H2:=fun w' (hb':Bl w w')=>zE b o e cap g w' A0 (by omega) (fun i hi=>(hb'.cell (p:=⟨b,o+i,none⟩) (World.block_lt_of_cell? _ _ (hc i (by omega)))).trans (hc i (by omega)));have H3:=fun w' (hb':Bl w w')=>a1B b o (e+4) cap e g w' A0 hl rfl (fun i hi=>(hb'.cell (p:=⟨b,o+i,none⟩) (World.block_lt_of_cell? _ _ (hc i (by omega)))).trans (hc i (by omega)));have A1:(((Crc.sum g e:Nat):Int) !=((Crc.oC g e:Nat):Int))=true:=by rw[bne_iff_ne];omega
 have HX:=hd8 hx;have A4:(e:Int)≤(cap:Int):=by omega
 generalize Crc.sum g e=S at H2 A1;generalize Crc.oC g e=F at H3 A1;clear hx hs hc h;go_enter func120,ntmps120
 go_wp2_with fail;refine(H1 _ (aB8 _ _)).mono ?_;rintro e1 w1 ⟨⟨y,rfl,hy⟩,b1⟩;have bx:=bt ((Below.refl _ w).alloc (c9C _) _) b1;have V1:=(fK w (iV 0) (iV 0) (iV 0) nS).below b1;have A3:=hy.2 HX.out;subst A3;clear hy H1 b1;go_wp2_with fail;refine(H2 _ bx).mono ?_;rintro e2 w2 ⟨rfl,rfl⟩;go_wp2_with fail;refine(H3 _ bx).mono ?_;rintro e3 w3 ⟨rfl,b3⟩;obtain⟨c0,c1,c2,c3,fr⟩:=V1.below b3;have bx:=bt bx b3;have f0:=fr 0;have f1:=fr 1;have f2:=fr 2;have f3:=fr 3;clear H2 H3 V1 b3;go_wp2_with fail;refine bodyPost_ret (v:=.tuple #[.agg #[iV 0,iV 0,iV 0,nS],iV 9]) (by simp[results,results120,go_sem,c0,c1,c2,c3]) rfl ⟨rfl,?_⟩;exact(((bx.setCell (c9C _) _).setCell (c9C _) _).setCell (c9C _) _).setCell (c9C _) _
theorem sO.drew{a b c d:Value}(h:sO w p a b c d):sO w.drew p a b c d:=⟨h.c0,h.c1,h.c2,h.c3,h.fr⟩
theorem yQ{y:Nat}{ob:Obj}(h:wX.cell? (aD b (o+1))=some (.int .u8 x)∧wX.cell? (aD b (o+2))=some (.int .u8 y)∧Bl w0 wX):
  (wX.alloc ob).cell? (aD b (o+1))=some (.int .u8 x)∧(wX.alloc ob).cell? (aD b (o+2))=some (.int .u8 y)∧Bl w0 (wX.alloc ob):=
 ⟨(World.cell?_alloc_lt _ _ _ (World.block_lt_of_cell? _ _ h.1)).trans h.1,(World.cell?_alloc_lt _ _ _ (World.block_lt_of_cell? _ _ h.2.1)).trans h.2.1,h.2.2.alloc h.2.2.size _⟩
theorem b4K{a b c d d':Value}(h:sO wX B a b c d):sO ((((wX.setCell (aD B 0) a').setCell (aD B 1) b').setCell (aD B 2) c').setCell (aD B 3) d') B a' b' c' d':=by
 have c0:=h.c0;have c1:=h.c1;have c2:=h.c2;have c3:=h.c3;have fr:=h.fr
 exact⟨by go_simp,by go_simp,by go_simp,by go_simp,fun i=>by
  have:=fr i
  go_simp⟩
theorem fA{d':Value}(h:Below N w0 wX)(hB:N≤B):Below N w0 ((((wX.setCell (aD B 0) a').setCell (aD B 1) b').setCell (aD B 2) c').setCell (aD B 3) d'):=
 (((h.setCell hB _).setCell hB _).setCell hB _).setCell hB _
theorem b4Y{y:Nat}{a' b' c' d':Value}(h:wX.cell? (aD b (o+1))=some (.int .u8 x)∧wX.cell? (aD b (o+2))=some (.int .u8 y)∧Bl w0 wX)(hB:w0.heap.size≤B)(hb:b<w0.heap.size):
  ((((wX.setCell (aD B 0) a').setCell (aD B 1) b').setCell (aD B 2) c').setCell (aD B 3) d').cell? (aD b (o+1))=some (.int .u8 x)∧((((wX.setCell (aD B 0) a').setCell (aD B 1) b').setCell (aD B 2) c').setCell (aD B 3) d').cell? (aD b (o+2))=some (.int .u8 y)∧
   Bl w0 ((((wX.setCell (aD B 0) a').setCell (aD B 1) b').setCell (aD B 2) c').setCell (aD B 3) d'):=by
 have A0: ∀i j,(⟨B,i,none⟩:Addr)≠(aD b j):=fun i j e=>by
  have:=congrArg Addr.block e;simp at this;omega
 refine⟨?_,?_,fA h.2.2 hB⟩
 ·rw[World.cell?_setCell_other _ _ _ _ (A0 _ _),World.cell?_setCell_other _ _ _ _ (A0 _ _),World.cell?_setCell_other _ _ _ _ (A0 _ _),World.cell?_setCell_other _ _ _ _ (A0 _ _)];exact h.1
 ·rw[World.cell?_setCell_other _ _ _ _ (A0 _ _),World.cell?_setCell_other _ _ _ _ (A0 _ _),World.cell?_setCell_other _ _ _ _ (A0 _ _),World.cell?_setCell_other _ _ _ _ (A0 _ _)];exact h.2.1
theorem uQ{y:Nat}(b3:Bl wX w3)(h:wX.cell? (aD b (o+1))=some (.int .u8 x)∧wX.cell? (aD b (o+2))=some (.int .u8 y)∧Bl w0 wX):
  w3.cell? (aD b (o+1))=some (.int .u8 x)∧w3.cell? (aD b (o+2))=some (.int .u8 y)∧Bl w0 w3:=
 ⟨(b3.cell (p:=⟨b,o+1,none⟩) (World.block_lt_of_cell? _ _ h.1)).trans h.1,(b3.cell (p:=⟨b,o+2,none⟩) (World.block_lt_of_cell? _ _ h.2.1)).trans h.2.1,bt h.2.2 b3⟩
theorem c3Z{F:Nat→Value}{a b c d:Value}(h:aY w g 5 n F)(hB:g≠B):aY ((((w.setCell (aD B 0) a).setCell (aD B 1) b).setCell (aD B 2) c).setCell (aD B 3) d) g 5 n F:=
 (((h.setOther hB _).setOther hB _).setOther hB _).setOther hB _
theorem a8R{y:Nat}{ob:Obj}(h:wX.drew.cell? (aD b (o+1))=some (.int .u8 x)∧wX.drew.cell? (aD b (o+2))=some (.int .u8 y)∧Bl w0 wX.drew):
  (wX.alloc ob).drew.cell? (aD b (o+1))=some (.int .u8 x)∧(wX.alloc ob).drew.cell? (aD b (o+2))=some (.int .u8 y)∧Bl w0 (wX.alloc ob).drew:=
 yQ (wX:=wX.drew) h
theorem yB(b o n e cap:Nat)(g:Nat→Nat)(w:World)(h:cF w (.slice (some (aD b o)) n cap) n g)(hne4:n=e+4)(he8:8≤e)(hx: ¬cU g n)(hs:Crc.sum g e=Crc.oC g e):
  Calls prog 120 #[.slice (some (aD b o)) n cap] w fun r w'=> ∃v',r=.returned (.tuple #[v',iV (Crc.aA (g 1) (g 2) (g 3*256+g 4:Nat) (e-7):Nat)])∧
   ((Crc.aA (g 1) (g 2) (g 3*256+g 4:Nat) (e-7)=0∧ ∃d,v'=.agg #[iV (g 1:Nat),iV (g 2:Nat),iV (g 3*256+g 4:Nat),d]∧kK w' w.heap.size d (e-7) (fun k=>g (k+7)))∨(Crc.aA (g 1) (g 2) (g 3*256+g 4:Nat) (e-7)≠0∧v'=.agg #[iV 0,iV 0,iV 0,nS]))∧Bl w w':=by
 have hl:=h.len;have Af:e≤65542:=by
  have h5:=h.bd 5;have h6:=h.bd 6;unfold cU at hx;omega
 have H1:=fun w' (hb':Bl w w')=>kV _ n g w' (h.below hb');obtain⟨b',o',Aa,hv,Ae,Ag,hc⟩:=h.some (by omega);cases hv
 have A1:=h.bd;have HC:Hid (∀w',Bl w w'→ ∀i,i<n→w'.cell? (aD b (o+i))=some (.int .u8 (g i:Nat))):=fun w' hb' i hi=>(hb'.cell (p:=⟨b,o+i,none⟩) (World.block_lt_of_cell? _ _ (hc i (by omega)))).trans (hc i (by omega));have H2:=fun w' (hb':Bl w w')=>zE b o e cap g w' A1 (by omega) (fun i hi=>HC.out w' hb' i (by omega));have H3:=fun w' (hb':Bl w w')=>a1B b o n cap e g w' A1 hl hne4.symm (HC.out w' hb');have H4:=fun w' (hb':Bl w w')=>tB b o n cap 3 g w' A1 hl (by omega) (HC.out w' hb');have H5:=fun C w' (hb':Bl w w')=>b5X b (o+7) (e-7) C (fun k=>g (k+7)) w' (by omega) (fun k hk=>by rw[show o+7+k=o+(k+7) by omega];exact HC.out w' hb' (k+7) (by omega));have A6:(((Crc.sum g e:Nat):Int) !=((Crc.oC g e:Nat):Int))=false:=by rw[hs];simp
 have HX:=hd8 hx;have Ai:(e:Int)≤(cap:Int):=by omega
 have A9:(n:Int)-4=(e:Int):=by omega
 have a1:(1:Int)<(n:Int):=by omega
 have a2:(2:Int)<(n:Int):=by omega
 have n1:1<n:=by omega
 have n2:2<n:=by omega
 have a7:(7:Int)≤(e:Int):=by omega
 have n7:7≤e:=by omega
 have Ah:e≤cap:=by omega
 have Al:IntKind.i64.wrap ((g 1:Nat):Int)=(g 1:Nat):=by have:=A1 1;rw[IntKind.wrap_i64];omega
 have Am:IntKind.i64.wrap ((g 2:Nat):Int)=(g 2:Nat):=by have:=A1 2;rw[IntKind.wrap_i64];omega
 have Ab:1≤e-7:=by omega
 have A5:=fun k=>A1 _;have HW:=fun(A:Option Addr) (C:Nat) w'=>uK (g 1:Nat) (g 2:Nat) (g 3*256+g 4:Nat) A (e-7) C w';clear hne4 he8 Af;generalize Crc.sum g (e)=S at H2 A6;generalize Crc.oC g (e)=F at H3 A6;generalize hq:g 3*256+g 4=q at H4 HW⊢;clear hx hs hc h hq;go_enter func120,ntmps120
 go_wp2_with fail;refine(H1 _ (aB8 _ _)).mono ?_;rintro e1 w1 ⟨⟨y,rfl,hy⟩,b1⟩;have bx:=bt ((Below.refl _ w).alloc (c9C _) _) b1;have V1:=(fK w (iV 0) (iV 0) (iV 0) nS).below b1;have Ac:=hy.2 HX.out;subst Ac;clear hy H1 b1;go_wp2_with fail;refine(H2 _ bx).mono ?_;rintro e2 w2 ⟨rfl,rfl⟩;go_wp2_with fail;refine(H3 _ bx).mono ?_;rintro e3 w3 ⟨rfl,b3⟩;have V1:=V1.below b3;have bx:=bt bx b3;clear H2 H3 b3;go_wp2_with fail;have T1:=HC.out w3 bx 1 n1;have T2:=HC.out w3 bx 2 n2;have TD:w3.drew.cell? (aD b (o+1))=some (.int .u8 (g 1:Nat))∧w3.drew.cell? (aD b (o+2))=some (.int .u8 (g 2:Nat))∧Bl w3 w3.drew:=⟨T1,T2,(Below.refl _ _).drew⟩;have Ad:b<w3.heap.size:=World.block_lt_of_cell? _ _ T1;have H4:=fun w' (hS:w'.cell? (aD b (o+1))=some (.int .u8 (g 1:Nat))∧w'.cell? (aD b (o+2))=some (.int .u8 (g 2:Nat))∧Bl w3 w')=>H4 w' (bt bx hS.2.2);have H5:=fun C w' (hS:w'.cell? (aD b (o+1))=some (.int .u8 (g 1:Nat))∧w'.cell? (aD b (o+2))=some (.int .u8 (g 2:Nat))∧Bl w3 w')=>H5 C w' (bt bx hS.2.2);go_cut [5]from 23 to 37 (fun p5 wx=> ∃B d,p5=.pointer (some (aD B 0))∧sO wx B (iV (g 1:Nat)) (iV (g 2:Nat)) (iV q) d∧w3.heap.size≤B∧kK wx w3.heap.size d (e-7) (fun k=>g (k+7))∧Bl w3 wx)
 case first=>
  go_region_held3 (fun w'=>w'.cell? (aD b (o+1))=some (.int .u8 (g 1:Nat))∧w'.cell? (aD b (o+2))=some (.int .u8 (g 2:Nat))∧Bl w3 w')
   (first|A0 exact TD|A0 exact uQ (by assumption) (by assumption)|A0 exact yQ (by assumption)|A0 exact a8R (by assumption)|A0 exact b4Y (by assumption) (by first|exact S5.2.2.size|exact S4.2.2.size|exact c9C _) Ad)
   (first|(go_at_call 150;refine(H4 _ (by assumption)).mono ?_;rintro e4 w4 ⟨rfl,b4⟩;have S4:=uQ b4 (by assumption);try (have V4:=(sO.drew (fK w3 _ _ _ _)).below b4))|(go_at_call 151;refine(H5 _ _ (by assumption)).mono ?_;rintro e5 w5 ⟨v5,rfl,Y5,b5⟩;have Z5:=Y5.made A5 Ab;obtain⟨g5,C5,rfl,A2,A4,A3,R5⟩:=Z5;have S5:=uQ b5 (by assumption);(first|(have V5:=V4.below b5;obtain⟨c0,c1,c2,c3,fr⟩:=V5;have f0:=fr 0;have f1:=fr 1;have f2:=fr 2;have f3:=fr 3)|(have V5:=(fK w4 _ _ _ _).below b5;obtain⟨c0,c1,c2,c3,fr⟩:=V5;have f0:=fr 0;have f1:=fr 1;have f2:=fr 2;have f3:=fr 3)|skip)))
  all_goals go_wp2_with fail
  all_goals go_meet
  all_goals first|exact⟨w5.heap.size,_,rfl,fK w5 _ _ _ _,S5.2.2.size,⟨g5,C5,rfl,c9E S4.2.2.size A2,A4,A3,R5.alloc _⟩,S5.2.2.alloc S5.2.2.size _⟩|exact⟨w4.heap.size,_,rfl,b4K ⟨c0,c1,c2,c3,fr⟩,S4.2.2.size,⟨g5,C5,rfl,c9E S4.2.2.size (c9E (by simp) A2),A4,A3,c3Z R5 (fun e=>by simp at A2;omega)⟩,fA S5.2.2 S4.2.2.size⟩|exact⟨w3.heap.size,_,rfl,b4K ⟨c0,c1,c2,c3,fr⟩,c9C _,⟨g5,C5,rfl,c9E S4.2.2.size A2,A4,A3,c3Z R5 (fun e=>by have:=World.block_lt_of_cell? _ _ V4.c0;simp at this;omega)⟩,fA S5.2.2 (c9C _)⟩
 case rest=>
  obtain⟨B,d,rfl,VB,hB,YD,bc⟩:=hcut;have V2:=V1.below bc;have A7:=bt bx bc;obtain⟨g5,C5,rfl,A2,A4,A3,R5⟩:=YD;have Ak:w.heap.size<w3.heap.size:=World.block_lt_of_cell? _ _ V1.c0;have HW:=HW (some (aD g5 0)) C5 wc;obtain⟨k0,k1,k2,k3,kf⟩:=VB;have VB:Hid (sO wc B (iV (g 1:Nat)) (iV (g 2:Nat)) (iV q) (.slice (some (aD g5 0)) (e-7) C5)):=⟨k0,k1,k2,k3,kf⟩;clear kf H4 H5 T1 T2 TD bc V1 bx;by_cases hE:Crc.aA (g 1) (g 2) (q:Nat) (e-7)=0
  ·have HE:=hd8 hE;rw[hE]at HW;clear hE;go_wp2_with fail;refine HW.mono ?_;rintro e6 w6 ⟨rfl,b6⟩;obtain⟨c0,c1,c2,c3,fr⟩:=V2.below b6;obtain⟨m0,m1,m2,m3,_⟩:=VB.out.below b6;have f0:=fr 0;have f1:=fr 1;have f2:=fr 2;have f3:=fr 3;have R6:=R5.below b6;have bz:=bt A7 b6;clear HW V2 k0 k1 k2 k3 R5;go_wp2_with fail;refine bodyPost_ret (v:=.tuple #[.agg #[iV (g 1:Nat),iV (g 2:Nat),iV q,.slice (some (aD g5 0)) (e-7) C5],iV 0]) (by simp[results,results120,go_sem,c0,c1,c2,c3]) rfl ⟨_,by rw[HE.out];rfl,Or.inl ⟨HE.out,_,rfl,?_⟩,?_⟩
   ·exact⟨g5,C5,rfl,by omega,A4,A3,c3Z R6 (by omega)⟩
   ·exact(((bz.setCell (c9C _) _).setCell (c9C _) _).setCell (c9C _) _).setCell (c9C _) _
  ·have HE:=hd8 hE;have A8:(((Crc.aA (g 1) (g 2) (q:Nat) (e-7):Nat):Int)==0)=false:=by rw[beq_eq_false_iff_ne];omega
   have Aj:(((Crc.aA (g 1) (g 2) (q:Nat) (e-7):Nat):Int) !=0)=true:=by rw[bne,A8];rfl
   clear hE;go_wp2_with fail;refine HW.mono ?_;rintro e6 w6 ⟨rfl,b6⟩;obtain⟨c0,c1,c2,c3,fr⟩:=V2.below b6;have f0:=fr 0;have f1:=fr 1;have f2:=fr 2;have f3:=fr 3;have bz:=bt A7 b6;clear HW V2 k0 k1 k2 k3;go_wp2_with fail;refine bodyPost_ret (v:=.tuple #[.agg #[iV 0,iV 0,iV 0,nS],iV (Crc.aA (g 1) (g 2) (q:Nat) (e-7):Nat)]) (by simp[results,results120,go_sem,c0,c1,c2,c3]) rfl ⟨_,rfl,Or.inr ⟨HE.out,rfl⟩,?_⟩;exact(((bz.setCell (c9C _) _).setCell (c9C _) _).setCell (c9C _) _).setCell (c9C _) _
def Blk(w:World)(v:Value)(s h z:Int)(n:Nat)(f:Nat→Nat):Prop:= ∃d,v=.agg #[iV s,iV h,iV z,d]∧cF w d n f
def pk(E x:Nat):Nat:=if E=0 then x else 0
theorem nT{E:Nat}(h:E=0)(x:Nat):pk E x=x:=if_pos h
theorem nQ{E:Nat}(h:E≠0)(x:Nat):pk E x=0:=if_neg h
def c3C(w:World)(N E:Nat)(v:Value)(m:Nat)(F:Nat→Nat):Prop:=(E=0∧kK w N v m F)∨(E≠0∧v=nS)
def a3M(s h z:Int)(n:Nat)(f:Nat→Nat):Nat→Nat:=Crc.enc s.toNat h.toNat z.toNat n f
theorem b3F{s z:Int}{f:Nat→Nat}(hf:Bd f)(e:Crc.aA s h z n=0):Bd (a3M s h z n f):=by
 have:=Crc.bN e;exact Crc.a5C (by omega) (by omega) (by omega) (by omega) hf
theorem a1I(v:Value)(s h z:Int)(n:Nat)(f:Nat→Nat)(w:World)(hx:Blk w v s h z n f):
  Calls prog 138 #[v] w fun e w'=> ∃v',e=.returned (.tuple #[v',iV (Crc.aA s h z n:Nat)])∧c3C w' w.heap.size (Crc.aA s h z n) v' (n+11) (a3M s h z n f)∧Bl w w':=by
 obtain⟨d,rfl,hd⟩:=hx;by_cases hE:Crc.aA s h z n=0
 ·have hi:=Crc.bN hE;obtain⟨S,rfl⟩:=d0I hi.1.1;obtain⟨H,rfl⟩:=d0I hi.1.2.2.1;obtain⟨Z,rfl⟩:=d0I hi.1.2.2.2.2.1;refine(c3K S H Z d n f w hd hE).mono ?_;rintro e w' ⟨v',rfl,hm,hb⟩;exact⟨v',by rw[hE];rfl,Or.inl ⟨hE,hm⟩,hb⟩
 ·obtain⟨_,A,A0,rfl,_⟩:=hd;refine(b5H s h z A n A0 w hE).mono ?_;rintro e w' ⟨rfl,hb⟩;exact⟨_,rfl,Or.inr ⟨hE,rfl⟩,hb⟩
theorem l9{E:Nat}(hE:E≠0)(a b c n:Nat){f:Nat→Nat}(hf:Bd f):Blk w (.agg #[iV 0,iV 0,iV 0,nS]) (pk E a:Nat) (pk E b:Nat) (pk E c:Nat) (pk E n) f:=by
 rw[nQ hE,nQ hE,nQ hE,nQ hE];exact⟨_,rfl,hf,none,0,rfl,c9C _,c9D _,fun i hi=>absurd hi (c9L i)⟩
theorem b5W(v:Value)(n:Nat)(g:Nat→Nat)(w:World)(hx:cF w v n g):
  Calls prog 120 #[v] w fun e w'=> ∃v',e=.returned (.tuple #[v',iV (Crc.aM g n:Nat)])∧
   Blk w' v' (pk (Crc.aM g n) (g 1):Nat) (pk (Crc.aM g n) (g 2):Nat) (pk (Crc.aM g n) (g 3*256+g 4):Nat) (pk (Crc.aM g n) (n-11)) (fun k=>g (k+7))∧Bl w w':=by
 have A3:=hx.bd;have A0:=fun k=>A3 _;by_cases hF:cU g n
 ·have hE:=Crc.nO hF;refine(b6U v n g w hx hF).mono ?_;rintro e w' ⟨rfl,hb⟩;exact⟨_,by rw[hE];rfl,l9 (by omega) _ _ _ _ A0,hb⟩
 ·have hn:12≤n:=by unfold cU at hF;omega
  obtain⟨b,o,A2,rfl,A1,_,_⟩:=hx.some (by omega);obtain⟨e,rfl⟩: ∃e,n=e+4:=⟨n-4,by omega⟩;by_cases hs:Crc.sum g e=Crc.oC g e
  ·have hE:Crc.aM g (e+4)=Crc.aA (g 1) (g 2) (g 3*256+g 4:Nat) (e-7):=by
    rw[Crc.mW hF (by rw[d2N];exact hs),show e+4-11=e-7 by omega]
   refine(yB b o (e+4) e A2 g w hx rfl (by omega) hF hs).mono ?_;rintro r w' ⟨v',rfl,hv,hb⟩;rw[←hE]at hv⊢;rw[show e+4-11=e-7 by omega];rcases hv with⟨h0,d,rfl,hd⟩|⟨h0,rfl⟩
   ·rw[nT h0,nT h0,nT h0,nT h0];exact⟨_,rfl,⟨d,rfl,hd.byts A0⟩,hb⟩
   ·exact⟨_,rfl,l9 h0 _ _ _ _ A0,hb⟩
  ·have hE:Crc.aM g (e+4)=9:=Crc.pZ hF (by rw[d2N];exact hs);refine(b0E b o e A2 g w hx A1 hF hs).mono ?_;rintro r w' ⟨rfl,hb⟩;exact⟨_,by rw[hE];rfl,l9 (by omega) _ _ _ _ A0,hb⟩
theorem b1F(v:Value)(n:Nat)(g:Nat→Nat)(w:World)(hx:cF w v n g)(hE:Crc.aM g n=0):
  Calls prog 120 #[v] w fun e w'=> ∃d,e=.returned (.tuple #[.agg #[iV (g 1:Nat),iV (g 2:Nat),iV (g 3*256+g 4:Nat),d],iV 0])∧kK w' w.heap.size d (n-11) (fun k=>g (k+7))∧Bl w w':=by
 have hF: ¬cU g n:=fun q=>by
  rw[Crc.nO q]at hE;cases hE
 have hn:12≤n:=by unfold cU at hF;omega
 obtain⟨b,o,A1,rfl,A0,_,_⟩:=hx.some (by omega);obtain⟨e,rfl⟩: ∃e,n=e+4:=⟨n-4,by omega⟩;have hs:Crc.sum g e=Crc.oC g e:=Classical.byContradiction fun q=>by
  rw[Crc.pZ hF (by rw[d2N];exact q)]at hE;cases hE
 have hW:Crc.aA (g 1) (g 2) (g 3*256+g 4:Nat) (e-7)=0:=by
  rw[Crc.mW hF (by rw[d2N];exact hs),show e+4-11=e-7 by omega]at hE;exact hE
 refine(yB b o (e+4) e A1 g w hx rfl (by omega) hF hs).mono ?_;rintro r w' ⟨v',rfl,hv,hb⟩;rw[show e+4-11=e-7 by omega];rcases hv with⟨_,d,rfl,hd⟩|⟨h0,_⟩
 ·exact⟨d,by rw[hW];rfl,hd,hb⟩
 ·exact absurd hW h0
def iP(w:World)(N:Nat)(v:Value)(l:List Nat):Prop:=w.ownsRow N 3 1 v l.length (l.map fun x:Nat=>Value.int .i64 x)
theorem Tryz.infoInt:(Tryz.prog.info? 3).map (fun i=>(i.zero,i.size,i.bytes))=some (some (iV 0),1,8):=by kernel_rfl
theorem iP.nil(w:World)(N:Nat):iP w N nS []:=World.ownsRow_nil w N _ 1
theorem iP.below{l:List Nat}(h:iP w N v l)(hb:Bl w w'):iP w' N v l:=aK h hb
theorem iP.one{l:List Nat}(h:w.ownsRow N 3 1 v (l.length+1) ((l.map fun x:Nat=>Value.int .i64 x)++[iV x])):iP w N v (l++[x]):=by
 unfold iP;rw[c9I,c9U];exact h
theorem yG(s:Int)(L:Nat→Nat)(g:Nat→Nat→Nat)(k:Nat):(Seg.kT s L g k).length≤k:=by
 unfold Seg.kT;exact c9E (d2P _ _) (by simp)
theorem Acc.lls(h:Acc w N v k c G K f)(bd:Gf.Bd2 f)(hK: ∀i,i<k→c≤K i∧K i≤maxLen):Lls w v k (fun _=>c) f:=by
 rcases h.own.2 with⟨rfl,h0⟩|⟨g,A0,A1,rfl,_,_,h1,h2,_,_⟩
 ·subst h0;exact⟨bd,none,0,rfl,c9C _,c9D _,fun r hr=>absurd hr (c9L r)⟩
 ·refine⟨bd,some (aD g 0),A0,rfl,h1,h2,fun r hr=>⟨g,0,.slice (some ⟨G r,0,none⟩) c (K r),rfl,?_,?_⟩⟩
  ·have:=h.own.cells (g:=g) rfl r (.slice (some ⟨G r,0,none⟩) c (K r)) (by simp[hr]);rw[WideShapes.add_plain]at this;exact this
  ·exact lN (bd r) (h.row r hr).2 (hK r hr).1 (hK r hr).2
theorem c2S(w:World)(N:Nat)(v:Value)(d s c:Nat)(G K G' K':Nat→Nat)(f f':Nat→Nat→Nat)(N':Nat)(vm:Value)(hds:d+s≤1000)(hN:N≤w.heap.size)(hNN:N≤N')(hA:Acc w N v d c G K f)(hM:Acc w N' vm s c G' K' f')(hs:1≤s):
  ∃v' w',(Builtin.append_ #[86,86] 86 #[v,vm]).run prog w=.ok v' w'∧Below N w w'∧Acc w' N v' (d+s) c (fun i=>if i<d then G i else G' (i-d)) (fun i=>if i<d then K i else K' (i-d)) (fun i=>if i<d then f i else f' (i-d)):=by
 obtain⟨i0,hi,hh⟩:=c9J.1 Tryz.infoRow;simp only[Prod.mk.injEq]at hh;obtain⟨A2,A4,A3⟩:=hh;obtain⟨gm,cm,rfl,_,_,hr⟩:=eD hM.own hs
 obtain⟨v',w',A1,ho,hg,_⟩:=run_append_own (P:=prog) w N 86 86 59 i0 nS 1 24 underlying86 hi A2 A4 A3 rfl (by decide) v d _ hA.own (aD gm 0) s cm ((List.range s).map fun i=> .slice (some ⟨G' i,0,none⟩) c (K' i)) (by simp) (fun j u hj=>hM.own.cells (g:=gm) rfl j u hj) (fun u hu=>by
  obtain⟨_,_,rfl⟩:=d0G.1 hu
  rfl) (by unfold maxLen;omega) (by omega) hN
 have A0: ∀x F,aY w x 5 c F→aY w' x 5 c F:=fun x F hx=>hx.of_block (hg.block x hx.lt (fun e=>by
  obtain⟨F2,h2⟩:=fH hA.own e.symm
  exact hx.ne h2 (by decide) rfl))
 refine⟨v',w',A1,(Below.refl N w).grown hg hN (fun x hx=>(hA.own.lt x hx).1),?_,fun i hi=>?_⟩
 ·have e:(List.range (d+s)).map (fun i=>Value.slice (some ⟨if i<d then G i else G' (i-d),0,none⟩) c (if i<d then K i else K' (i-d)))=((List.range d).map fun i=> .slice (some ⟨G i,0,none⟩) c (K i))++((List.range s).map fun i=> .slice (some ⟨G' i,0,none⟩) c (K' i)):=by
   rw[List.range_add,c9U,List.map_map];refine congr (congrArg _ ?_) ?_
   ·refine d1H (fun i hi=>?_);have:=d0D.1 hi;rw[if_pos this,if_pos this]
   ·refine d1H (fun i _=>?_);show Value.slice (some ⟨if d+i<d then G (d+i)else G' (d+i-d),0,none⟩) c (if d+i<d then K (d+i)else K' (d+i-d))=_;rw[if_neg (by omega),if_neg (by omega),d2G]
  rw[e];exact ho
 ·by_cases e:i<d
  ·simp only[if_pos e];exact⟨(hA.row i e).1,A0 _ _ (hA.row i e).2⟩
  ·simp only[if_neg e];exact⟨c9E hNN (hM.row (i-d) (by omega)).1,A0 _ _ (hM.row (i-d) (by omega)).2⟩
theorem mO{d:Nat}{D:Nat→Nat→Nat}(hD:Gf.Bd2 D)(hi:i<d)(k:Nat):Gf.mm d (Gf.bH d) D i k=D i k:=by
 refine Eq.trans (Gf.mC (a':=Gf.one) (b':=D) (fun j _=>if_pos hi) (fun _ _=>rfl)) (Gf.b0Q hD k hi)
theorem pW(h:Lls w v n L f)(bd:Gf.Bd2 f')(e: ∀i,i<n→ ∀k,k<L i→f i k=f' i k):Lls w v n L f':=by
 obtain⟨A,A0,hv,h1,h2,hr⟩:=h.lies;refine⟨bd,A,A0,hv,h1,h2,fun r hrn=>?_⟩;obtain⟨b,o,u,e1,e2,_,A',C',e3,e4,e5,e6⟩:=hr r hrn;refine⟨b,o,u,e1,e2,bd r,A',C',e3,e4,e5,fun k hk=>?_⟩;obtain⟨b',o',e7,e8⟩:=e6 k hk;exact⟨b',o',e7,by rw[←e r hrn k hk];exact e8⟩
def c9B(w:World)(E:Nat)(v:Value)(N m:Nat)(F:Nat→Nat→Nat):Prop:=(E=0∧Lls w v N (fun _=>m) F)∨(E≠0∧v=nS)
theorem b4C{L seg d s:Nat}(h1:1≤d)(h2:d≤8)(h3:s≤4)(h4:seg≤39)(h5:L≤400*d):Seg.gU L seg d s=0:=by
 unfold Seg.gU;rw[if_neg (by omega),if_neg (by omega),if_neg (by omega)]
def cR(seg:Int)(d:Int)(N:Nat)(L:Nat→Nat)(g:Nat→Nat→Nat):Nat:=
 if bP d ((N:Int)-d)≠0 then 5 else if¬Seg.a9B seg L g N then 8 else if eG d N (Seg.rl seg L g)≠0 then eG d N (Seg.rl seg L g)
 else if d.toNat*Seg.rl seg L g (thr (Seg.rl seg L g) N 0)<Seg.rz g (thr (Seg.rl seg L g) N 0)then 8 else 0
def a8O(w:World)(E:Nat)(v:Value)(n N:Nat)(L:Nat→Nat)(f:Nat→Nat→Nat)(z:Nat):Prop:=
 (E=0∧ ∃r,Gf.Bd2 r∧Gf.Und n (fun p=>Gf.bH n (thr L N p)) r∧cF w v z (fun k=>Gf.mm n (Gf.bH n) (Gf.mm n r (fun p=>f (thr L N p))) (k/L (thr L N 0)) (k%L (thr L N 0))))∨(E≠0∧v=nS)
def b8Q{α:Type}(Q:Nat→α)(k:Nat)(e:α)(i:Nat):α:=if i=k then e else Q i
theorem sG{α:Type}(Q:Nat→α)(k:Nat)(e:α):b8Q Q k e k=e:=if_pos rfl
theorem rZ{α:Type}(Q:Nat→α)(e:α)(h:i≠k):b8Q Q k e i=Q i:=if_neg h
theorem pS(U:Nat→Value)(k:Nat)(u:Value):(List.range (k+1)).map (b8Q U k u)=(List.range k).map U++[u]:=by
 rw[d1G,c9U];refine congr (congrArg _ ?_) ?_
 ·refine d1H (fun i hi=>rZ _ _ ?_);have:=d0D.1 hi;omega
 ·show[b8Q U k u k]=[u];rw[sG]
theorem cF.none(w:World){f:Nat→Nat}(hf:Bd f):cF w (.slice Option.none 0 0) 0 f:=⟨hf,Option.none,0,rfl,c9C _,c9D _,fun i hi=>absurd hi (c9L i)⟩
theorem b2X{U:Nat→Value}(ho:wr.ownsRow N 59 1 y n ((List.range n).map U))(hU: ∀i,i<n→cF w (U i) (L i) (f i))(hb:Bl w wr)(bd:Gf.Bd2 f):Lls wr y n L f:=by
 rcases ho.2 with⟨rfl,h0⟩|⟨g,A0,A1,rfl,_,_,h1,h2,_,_⟩
 ·subst h0;exact⟨bd,none,0,rfl,c9C _,c9D _,fun r hr=>absurd hr (c9L r)⟩
 ·refine⟨bd,some (aD g 0),A0,rfl,h1,h2,fun r hr=>⟨g,0,U r,rfl,?_,(hU r hr).below hb⟩⟩;have:=ho.cells (g:=g) rfl r (U r) (by simp[hr]);rw[WideShapes.add_plain]at this;exact this
theorem c5L(F:Nat→Nat→Nat)(n c j:Nat)(hc:1≤c)(hj:j<n*c):((List.range n).flatMap (fun p=>(List.range c).map (F p))).getD j 0=F (j/c) (j%c):=by
 have h1:j/c<n:=by
  rw[Nat.div_lt_iff_lt_mul (by omega)];exact hj
 have h2:j%c<c:=Nat.mod_lt _ (by omega);have h3:=dQ (fun p=>(List.range c).map (F p)) c (List.range n) (fun _ _=>by simp) (j/c) (j%c) h2 (j/c) (by simp[h1]);rw[show j/c*c+j%c=j by rw[Nat.mul_comm];exact Nat.div_add_mod j c]at h3;rw[c9R,h3];simp[h2]
theorem b0A{l:List Nat}{z:Nat}(hb: ∀x,x∈l→x<256)(hz:z≤l.length)(hj:j<z):(((fF l).extract 0 z).data.toList.getD j 0).toNat=l.getD j 0:=by
 have h1:(fF l).data.toList=l.map UInt8.ofNat:=by rw[←d2C];exact l7 l
 have h2:((fF l).extract 0 z).data.toList=(l.map UInt8.ofNat).take z:=by
  rw[ByteArray.data_extract,Array.toList_extract,h1];simp
 have A0:j<l.length:=by omega
 rw[h2,c9R,d0C,if_pos hj,c9S,c9F A0];have:=hb _ (List.getElem_mem A0);simp[List.getD,A0];omega
def a1O(n N:Nat)(L:Nat→Nat)(f r:Nat→Nat→Nat)(k:Nat):Nat:=Gf.mm n (Gf.bH n) (Gf.mm n r (fun p=>f (thr L N p))) (k/L (thr L N 0)) (k%L (thr L N 0))
section
variable {r : Nat → Nat} {L seg d s : Nat} {M : Nat → Bool} {Ls : Nat → Nat} {g : Nat → Nat → Nat}
end
def nb(s:ByteArray):List Nat:=s.data.toList.map fun b=>b.toNat
def ch(s:ByteArray)(k:Nat):Nat:=(s.data.toList.getD k 0).toNat
theorem gE(s:ByteArray):(nb s).length=s.size:=by simp[nb]
theorem c8Z(s:ByteArray)(k:Nat):ch s k<256:=UInt8.toNat_lt _
theorem c0Q(s:ByteArray)(h:k<s.size):(nb s)[k]?=some (ch s k):=by
 have h':k<s.data.toList.length:=by simpa using h
 unfold nb ch;generalize s.data.toList=l at h';simp[List.getD,h']
theorem c7V{s:ByteArray}(h:c∈nb s): ∃k,k<s.size∧c=ch s k:=by
 obtain⟨k,hk,e⟩:=d1P.1 h;rw[gE]at hk;refine⟨k,hk,?_⟩;have:=c0Q s hk;rw[c9F (by rw[gE];exact hk),Option.some.injEq]at this;rw[←e,this]
theorem qC{s:ByteArray}(hk:k<s.size)(h: ¬Evt.eS (ch s k)=true): ¬Evt.dC (nb s):=fun q=>
 h (List.all_eq_true.1 q.1 _ (c9N (c0Q s hk)))
theorem a2I(s:ByteArray)(h: ∀j,j<s.size→Evt.eS (ch s j)=true):Evt.dC (nb s)↔1≤s.size∧s.size≤10:=by
 unfold Evt.dC;rw[gE];refine⟨fun q=>q.2,fun q=>⟨List.all_eq_true.2 (fun c hc=>?_),q⟩⟩;obtain⟨k,hk,rfl⟩:=c7V hc;exact h k hk
theorem mN(s:ByteArray)(w:World)(hs:s.size≤9223372036854775807):
  Calls prog 35 #[.string s] w fun e w'=>qW e (Evt.dC (nb s))∧Bl w w':=by
 have A2:=Lib.run_convert_string_bytes (P:=prog) w 9 59 5 s underlying9 underlying59 underlying5;have A0:=mF w 5 s;have A3:=Lib.bytesWorld_cell w 5 s;generalize Lib.bytesWorld w 5 s=W at A2 A0 A3;generalize grownCap w s.size 0 5=C at A2;go_enter func35,ntmps35
 go_wp2_with fail;clear A2;go_loop [8] (fun x=> ∃k:Nat,k≤s.size∧x=iV k∧Hid (∀j,j<k→Evt.eS (ch s j)=true)) (fun x=>s.size-(intOf x).toNat)
 case atStart=>exact⟨0,c9D _,rfl,fun j hj=>absurd hj (c9L j)⟩
 case round=>
  obtain⟨k,hk,rfl,HS⟩:=hrel;by_cases A1:k<s.size
  ·have A8:(k:Int)<(s.size:Int):=by omega
   have t:=A3 k A1;obtain⟨x,A4⟩: ∃x,ch s k=x:=⟨_,rfl⟩;have A7:=c8Z s k;have HX:=hd8 A4;rw[A4]at t A7;by_cases q0:97≤x∧x≤122
   ·have HL:Hid (Evt.eS (ch s k)=true):=by
     show Evt.eS _=true;rw[Evt.eO,HX.out];omega
    have f1:(97:Int)≤(x:Int):=by omega
    have f2:(x:Int)≤122:=by omega
    have f3:(48:Int)≤(x:Int):=by omega
    have f4: ¬(x:Int)≤57:=by omega
    go_wp2_with fail;refine⟨⟨k+1,by omega,by go_num,fun j hj=>?_⟩,by simp[intOf];omega⟩;by_cases e:j=k
    ·rw[e];exact HL.out
    ·exact HS.out j (by omega)
   by_cases q1:48≤x∧x≤57
   ·have HL:Hid (Evt.eS (ch s k)=true):=by
     show Evt.eS _=true;rw[Evt.eO,HX.out];omega
    have f1: ¬(97:Int)≤(x:Int):=by omega
    have f2:(x:Int)≤122:=by omega
    have f3:(48:Int)≤(x:Int):=by omega
    have f4:(x:Int)≤57:=by omega
    go_wp2_with fail;refine⟨⟨k+1,by omega,by go_num,fun j hj=>?_⟩,by simp[intOf];omega⟩;by_cases e:j=k
    ·rw[e];exact HL.out
    ·exact HS.out j (by omega)
   by_cases q2:x<48
   ·have HN:Hid (¬Evt.dC (nb s)):=qC A1 (by rw[Evt.eO,HX.out];omega);have f1: ¬(97:Int)≤(x:Int):=by omega
    have f2:(x:Int)≤122:=by omega
    have f3: ¬(48:Int)≤(x:Int):=by omega
    have f4:(x:Int)≤57:=by omega
    go_wp2_with fail;go_ret
    exact⟨cV HN.out,A0⟩
   by_cases q3:122<x
   ·have HN:Hid (¬Evt.dC (nb s)):=qC A1 (by rw[Evt.eO,HX.out];omega);have f1:(97:Int)≤(x:Int):=by omega
    have f2: ¬(x:Int)≤122:=by omega
    have f3:(48:Int)≤(x:Int):=by omega
    have f4: ¬(x:Int)≤57:=by omega
    go_wp2_with fail;go_ret
    exact⟨cV HN.out,A0⟩
   ·have HN:Hid (¬Evt.dC (nb s)):=qC A1 (by rw[Evt.eO,HX.out];omega);have f1: ¬(97:Int)≤(x:Int):=by omega
    have f2:(x:Int)≤122:=by omega
    have f3:(48:Int)≤(x:Int):=by omega
    have f4: ¬(x:Int)≤57:=by omega
    go_wp2_with fail;go_ret
    exact⟨cV HN.out,A0⟩
  ·obtain rfl:k=s.size:=by omega
   have HI:=a2I s HS.out;by_cases p1:1≤s.size
   ·have A5:(0:Int)<(s.size:Int):=by omega
    by_cases p2:s.size≤10
    ·have A6:(s.size:Int)≤10:=by omega
     have HY:=hd8 (HI.2 ⟨p1,p2⟩);clear HI;go_wp2_with fail;go_ret
     exact⟨gL HY.out,A0⟩
    ·have A6: ¬(s.size:Int)≤10:=by omega
     have HN:=hd8 fun q=>p2 (HI.1 q).2;clear HI;go_wp2_with fail;go_ret
     exact⟨cV HN.out,A0⟩
   ·have A5: ¬(0:Int)<(s.size:Int):=by omega
    have HN:=hd8 fun q=>p1 (HI.1 q).1;clear HI;go_wp2_with fail;go_ret
    exact⟨cV HN.out,A0⟩
end Go.Proofs.YtmcaejooaaahdaaGreat
