import Derived.Test.YtmcaejooaaahdaaGreatZ03
import Derived.Maps.AppendAt
import Derived.Lib.AppendZeros
import Derived.Lib.ConvBytes
set_option maxHeartbeats 8000000
set_option maxRecDepth 100000
namespace Go.Proofs.YtmcaejooaaahdaaGreat.Seg
open Go.Proofs.Tryz
variable {G K L:Nat→Nat} {N b c cap cap' g i k m n p q x:Nat} {a' v:Value} {f f':Nat→Nat→Nat} {seg:Int} {t:TypeId} {w:World} {xs:List Value}
def dF(L d:Nat):Nat:=if L≤d then 1 else(L+d-1)/d
theorem pK(L d:Nat)(hd:1≤d):1≤dF L d:=by
 unfold dF;split
 ·exact c9C _
 ·rw[Nat.le_div_iff_mul_le (by omega)];omega
theorem uC(L d:Nat)(hd:1≤d):L≤dF L d*d:=by
 unfold dF;split
 ·omega
 ·have:=Nat.div_add_mod (L+d-1) d;have h2:=Nat.mod_lt (L+d-1) (show d>0 by omega);rw[Nat.mul_comm]at this;omega
theorem qX{L d:Nat}(hd:1≤d)(h1:1≤n)(h:L≤n*d):dF L d≤n:=by
 unfold dF;split
 ·exact h1
 ·have h3:(L+d-1)/d<n+1:=by
   rw[Nat.div_lt_iff_lt_mul (by omega),d0F];omega
  omega
theorem nA{L d:Nat}(hd:1≤d)(h:L≤400*d):dF L d≤400:=qX hd (by decide) h
def eT(r:Nat→Nat)(L n i k:Nat):Nat:=if k<n∧i*n+k<L then r (i*n+k)else 0
theorem b4F{r:Nat→Nat}{L:Nat}(hk:k<n)(h:i*n+k<L):eT r L n i k=r (i*n+k):=if_pos ⟨hk,h⟩
theorem a7Y{r:Nat→Nat}{L:Nat}(h: ¬i*n+k<L):eT r L n i k=0:=if_neg (fun q=>h q.2)
theorem wU{r:Nat→Nat}(hr: ∀k,r k<256)(L n:Nat):Gf.Bd2 (eT r L n):=fun i k=>by
 show eT r L n i k<256
 unfold eT
 split
 ·exact hr _
 ·decide
def gU(L:Nat)(seg d s:Int):Nat:=if d<1∨8<d∨s<0∨4<s then 5 else if seg<0∨39<seg then 3 else if 400*d<(L:Int)then 4 else 0
def lA(r:Nat→Nat)(L d:Nat):Nat→Nat→Nat:=Gf.mm d (Gf.bH d) (eT r L (dF L d))
def blk(r:Nat→Nat)(L seg d i:Nat):Nat→Nat:=if i<12 then Crc.enc seg i L (dF L d) (lA r L d i)else fun _=>0
theorem a4C{r:Nat→Nat}{L seg d:Nat}(hi:i<12):blk r L seg d i=Crc.enc seg i L (dF L d) (lA r L d i):=if_pos hi
theorem b0X{r:Nat→Nat}{L seg d:Nat}(hd:1≤d)(hL:L≤400*d)(hs:seg≤39)(hd8:d≤8):Gf.Bd2 (blk r L seg d):=fun i k=>by
 have h2:=nA hd hL
 have hb:=fun k=>Gf.c2K (fun p=>Gf.eK d p) _ _ _ _
 unfold blk
 by_cases h:i<12
 ·rw[if_pos h]
  exact Crc.a5C (by omega) (by omega) (by omega) (by omega) hb k
 ·rw[if_neg h]
  decide
abbrev right(seg:Int)(L:Nat→Nat)(g:Nat→Nat→Nat)(i:Nat):Prop:=Crc.aM (g i) (L i)=0∧((g i 1:Nat):Int)=seg∧g i 2=i
def kT(seg:Int)(L:Nat→Nat)(g:Nat→Nat→Nat)(k:Nat):List Nat:=(List.range k).filter (fun i=>decide (¬right seg L g i))
theorem a7A{g:Nat→Nat→Nat}(h: ¬right seg L g k):kT seg L g (k+1)=kT seg L g k++[k]:=by
 unfold kT;rw[d1G,d1O];congr 1;exact d1W (p:=fun i=>decide (¬right seg L g i)) (decide_eq_true h)
theorem b4M{g:Nat→Nat→Nat}(h:right seg L g k):kT seg L g (k+1)=kT seg L g k:=by
 unfold kT;rw[d1G,d1O];have e:List.filter (fun i=>decide (¬right seg L g i)) [k]=[]:=d1N (p:=fun i=>decide (¬right seg L g i)) (fun q=>(of_decide_eq_true q) h);rw[e,d0W]
def rl(seg:Int)(L:Nat→Nat)(g:Nat→Nat→Nat)(i:Nat):Nat:=if right seg L g i then L i-11 else 0
def rf(g:Nat→Nat→Nat)(i k:Nat):Nat:=g i (k+7)
def rz(g:Nat→Nat→Nat)(i:Nat):Nat:=g i 3*256+g i 4
theorem a9S{g:Nat→Nat→Nat}(h:right seg L g i):rl seg L g i=L i-11:=if_pos h
theorem c2T{g:Nat→Nat→Nat}(h: ¬right seg L g i):rl seg L g i=0:=if_neg h
theorem xP{g:Nat→Nat→Nat}(h:0<rl seg L g i):right seg L g i:=by
 refine Classical.byContradiction fun q=>?_;rw[c2T q]at h;omega
abbrev a9B(seg:Int)(L:Nat→Nat)(g:Nat→Nat→Nat)(N:Nat):Prop:= ∀i,i<N→ ∀j,j<N→right seg L g i→right seg L g j→rz g i=rz g j
end Go.Proofs.YtmcaejooaaahdaaGreat.Seg
namespace Go.Proofs.YtmcaejooaaahdaaGreat
open Go.Proofs.Tryz
variable {G K L:Nat→Nat} {N b c cap cap' g i k m n p q x:Nat} {a' v:Value} {f f':Nat→Nat→Nat} {seg:Int} {t:TypeId} {w:World} {xs:List Value}
open Go.RowKit
def bP(d s:Int):Nat:=if d<1∨8<d∨s<0∨4<s then 5 else 0
theorem cC{d s:Int}(h:d<1∨8<d∨s<0∨4<s):bP d s=5:=if_pos h
theorem cN{d s:Int}(h: ¬(d<1∨8<d∨s<0∨4<s)):bP d s=0:=if_neg h
theorem d9(d s:Int)(w:World):
  Calls prog 12 #[iV d,iV s] w fun e w'=>e=.returned (iV (bP d s:Nat))∧Bl w w':=by
 by_cases h1:d<1
 ·have H:Hid (bP d s=5):=cC (by omega);go_enter func12,ntmps12
  go_wp2_with fail;go_ret
  exact⟨aH (by rw[H.out];rfl),Below.refl _ _⟩
 by_cases h2:8<d
 ·have H:Hid (bP d s=5):=cC (by omega);go_enter func12,ntmps12
  go_wp2_with fail;go_ret
  exact⟨aH (by rw[H.out];rfl),Below.refl _ _⟩
 by_cases h3:s<0
 ·have H:Hid (bP d s=5):=cC (by omega);go_enter func12,ntmps12
  go_wp2_with fail;go_ret
  exact⟨aH (by rw[H.out];rfl),Below.refl _ _⟩
 by_cases h4:4<s
 ·have H:Hid (bP d s=5):=cC (by omega);go_enter func12,ntmps12
  go_wp2_with fail;go_ret
  exact⟨aH (by rw[H.out];rfl),Below.refl _ _⟩
 have H:Hid (bP d s=0):=cN (by omega);go_enter func12,ntmps12
 go_wp2_with fail;go_ret
 exact⟨aH (by rw[H.out];rfl),Below.refl _ _⟩
theorem a1N(h:x<256):IntKind.u8.wrap (x:Int)=(x:Int):=by
 rw[IntKind.wrap_u8];omega
theorem a3R(i n:Nat)(w:World)(hi:i<256)(hn:n≤8):
  Calls prog 159 #[iV i,iV n] w fun e w'=>
   e=.returned (.slice (some (aD w.heap.size 0)) n n)∧w'.rowIs w.heap.size 5 n (fun j=> .int .u8 (Gf.inv (i^^^j):Nat))∧Bl w w':=by
 have A3:=run_make_row' (P:=prog) 59 5 (.int .u8 0) 1 underlying59 Tryz.infoByte rfl .i64 .i64 n (by omega) (by omega);go_enter func159,ntmps159
 go_wp2_with fail;clear A3;go_loopw [11] (fun x wr=> ∃k:Nat,k≤n∧x=iV k∧wr.rowIs w.heap.size 5 n (fun j=> .int .u8 (dV k (fun j=>Gf.inv (i^^^j)) (fun _=>0) j:Nat))∧Bl w wr) (fun x _=>n-(intOf x).toNat)
 case atStart=>exact⟨0,c9D _,rfl,(World.rowIs_made w (.int .u8 0) n 5).congr (fun j _=>by rw[show dV 0 (fun j=>Gf.inv (i^^^j)) (fun _=>0) j=0 from if_neg (c9L _)];rfl),aB8 _ _⟩
 case round=>
  obtain⟨k,hk,rfl,hw,hb⟩:=hrel;by_cases A1:k<n
  ·have A4:(k:Int)<(n:Int):=by omega
   have hx:i^^^k<256:=Gf.fE hi (by omega);have A5:bits .xor .i64 (i:Int) (k:Int)=((i^^^k:Nat):Int):=by
    rw[wW _ _ (by omega) (by omega) (by omega) (by omega),c9Q,c9Q]
   have A7:=a1N hx;have hc:=hw.cell A1;have A9:=hw.frozen k;go_wp2_with fail;refine(b4Q _ _ hx).mono ?_;rintro e w1 ⟨rfl,A2⟩;have A0:=eC hw A2;have A8:=A0.cell A1;have A6:=A0.frozen k;go_wp2_with fail;exact⟨⟨k+1,by omega,by go_num,lU (h:=fun j=>Gf.inv (i^^^j)) A0,(hb.trans (A2.mono hb.size)).setCell (p:=⟨w.heap.size,k,none⟩) (c9C _) _⟩,by simp[intOf];omega⟩
  ·have e8:k=n:=by omega
   subst e8;go_wp2_with fail;go_ret
   exact⟨rfl,hw.congr (fun j hj=>by rw[show dV k (fun j=>Gf.inv (i^^^j)) (fun _=>0) j=Gf.inv (i^^^j)from if_pos hj]),hb⟩
theorem a5L(d s:Int)(w:World)(h:d<1∨8<d∨s<0∨4<s):
  Calls prog 135 #[iV d,iV s] w fun e w'=>e=.returned (.tuple #[nS,iV 5])∧Bl w w':=by
 have H:=d9 d s;rw[cC h]at H;clear h;go_enter func135,ntmps135
 go_wp2_with fail;refine(H _).mono ?_;rintro e w1 ⟨rfl,b1⟩;go_wp2_with fail;go_ret2
 exact⟨rfl,b1⟩
theorem a0Q{F:Nat→Value}(h:w.rowIs b t n F)(hN:N≤b)(hm:n≤maxLen):w.ownsRow N t 1 (.slice (some (aD b 0)) n n) n ((List.range n).map F):=by
 obtain⟨c,h1,h2,h3⟩:=h;refine⟨by simp,.inr ⟨b,n,c,rfl,hN,h1,c9C _,hm,by omega,?_⟩⟩;bK d1I;intro i;rcases Nat.lt_or_ge i n with h|h
 ·rw[d0C,if_pos (by omega)];simp[h,h3 i h]
 ·rw[c9Z (by simp;omega),c9Z (by simpa using h)]
theorem Own.acc(h:Own w N b n c G f)(hn:n≤1000):Acc w N (.slice (some (aD b 0)) n n) n c G (fun _=>c) f:=
 ⟨a0Q h.top h.lob (by unfold maxLen;omega),fun i hi=>⟨h.low i hi,iE (h.row i hi)⟩⟩
theorem Acc.congr(h:Acc w N v k c G K f)(he: ∀i,i<k→ ∀j,j<c→f i j=f' i j):Acc w N v k c G K f':=
 ⟨h.own,fun i hi=>⟨(h.row i hi).1,(h.row i hi).2.congr (fun j hj=>by rw[he i hi j hj])⟩⟩
theorem Acc.mat(h:Acc w N v k c G K f)(hk:1≤k): ∃g cap,v=.slice (some (aD g 0)) k cap∧N≤g∧k≤cap∧jV w g 0 k c G (fun _=>0) K f:=by
 obtain⟨g,cap,hv,hN,hc,hr⟩:=eD h.own hk;refine⟨g,cap,hv,hN,hc,fun r hr'=>?_,fun r hr' j hj=>?_⟩
 ·rw[c9G,hr.cell hr'];simp[List.getD,hr']
 ·rw[c9G];exact(h.row r hr').2.cell hj
theorem cZ(j:Nat)(u:Value)(hj:[v][j]?=some u):(w.alloc (.cells #[v] t)).cell? ((⟨w.heap.size,0,none⟩:Addr).add j)=some u:=by
 match j,hj with
 |0,hj=>
  simp at hj;subst hj;simp[Addr.add]
 |j+1,hj=>simp at hj
theorem iD(n s:Nat)(w:World)(h1:1≤n)(h2:n≤8)(h3:s≤4):
  Calls prog 135 #[iV n,iV s] w fun e w'=>
   ∃g A0,e=.returned (.tuple #[.slice (some (aD g 0)) (n+s) A0,iV 0])∧n+s≤A0∧(∃G K,jV w' g 0 (n+s) n G (fun _=>0) K (Gf.bH n))∧Bl w w':=by
 have H:=d9 n s;rw[cN (show¬((n:Int)<1∨8<(n:Int)∨(s:Int)<0∨4<(s:Int)) by omega)]at H;have HO:=fun w=>c6E n w h1 (by omega);obtain⟨i0,hi,hh⟩:=c9J.1 Tryz.infoRow;simp only[Prod.mk.injEq]at hh;obtain⟨A6,Aa,A7⟩:=hh;have A9:IntKind.i64.wrap ((n:Int)+(s:Int))=((n+s:Nat):Int):=by rw[IntKind.wrap_i64];omega
 go_enter func135,ntmps135
 go_wp2_with fail;refine(H _).mono ?_;rintro e w1 ⟨rfl,b1⟩;clear H;go_wp2_with fail;refine(HO _).mono ?_;rintro e w2 ⟨rfl,⟨G0,ho⟩,b2⟩;have A2:=((ho.lower b1.size).acc (by omega)).congr (f':=Gf.bH n) (fun i hi j _=>(Gf.oK hi j).symm);have b2:=bt b1 b2;clear HO ho b1;go_wp2_with fail;go_loopw [7,9] (fun v x wr=> ∃k:Nat,n≤k∧k≤n+s∧x=iV k∧(∃G K,Acc wr w.heap.size v k n G K (Gf.bH n))∧Bl w wr) (fun _ x _=>(n+s)-(intOf x).toNat)
 case atStart=>exact⟨n,c9C _,Nat.le_add_right _ _,rfl,⟨_,_,A2⟩,b2⟩
 case round=>
  clear A2 b2;obtain⟨k,A5,hk,rfl,⟨G,K,hA⟩,hb⟩:=hrel;by_cases A4:k<n+s
  ·have A8:(k:Int)<(n:Int)+(s:Int):=by omega
   have hS:=a3R k n wr (by omega) h2;go_wp2_with fail;refine hS.mono ?_;rintro e w3 ⟨rfl,A3,b3⟩;have bX:=b3.alloc b3.size (.cells #[.slice (some (aD wr.heap.size 0)) n n] 59);have AX:=hA.below bX;have rX:aY (w3.alloc (.cells #[.slice (some (aD wr.heap.size 0)) n n] 59)) wr.heap.size 5 n (fun j=> .int .u8 (Gf.bH n k j:Nat)):=((iE A3).congr (fun j _=>by rw[Gf.zT A5])).alloc _;have sX:=c9E hb.size bX.size;clear hS A3 b3;go_wp2_with (at_builtin;refine wpList_append_own _ rfl (.tmp 32) (.tmp 36) 169 rfl w.heap.size 59 i0 nS 1 24 underlying169 hi A6 Aa A7 rfl (by decide) _ _ _ rfl AX.own (aD w3.heap.size 0) 1 1 [.slice (some (aD wr.heap.size 0)) n n] rfl rfl cZ (by intro u hu;simp at hu;subst hu;rfl) (by unfold maxLen;omega) (by omega) sX ?_;intro v1 w4 hown1 hgrow1 _);have A1:=AX.step ⟨hb.size,rX⟩ hown1 hgrow1;have b4:Bl w w4:=(hb.trans (bX.mono hb.size)).grown hgrow1 sX (fun x hx=>(AX.own.lt x hx).1);clear hown1 hgrow1 AX rX bX hA;go_wp2_with fail;exact⟨⟨k+1,by omega,by omega,by go_num,⟨_,_,A1⟩,b4⟩,by simp[intOf];omega⟩
  ·have e8:k=n+s:=by omega
   subst e8;have Ab: ¬((n+s:Nat):Int)<(n:Int)+(s:Int):=by omega
   obtain⟨g,A0,rfl,_,hc,hm⟩:=hA.mat (by omega);clear hA A4;go_wp2_with fail;go_ret2
   exact⟨g,A0,rfl,hc,⟨G,K,hm⟩,hb⟩
theorem b2C(g b o n cap:Nat)(l:Value)(V:Nat→Value)(p:Nat→Bool)(w:World)(eg: ∀args w,(callFunc g args).run prog w=.ok (.enter g args) w)
  (hc: ∀r,r<n→w.cell? (aD b (o+r))=some (V r)) (hp:uE g l n V p w) (hn:n≤10000):
  Calls prog 180 #[.slice (some (aD b o)) n cap,.func (.func g) #[] #[l]] w fun e w'=> ∃i:Int,e=.returned (iV i)∧a4L n p i∧Bl w w':=by
 go_enter func180,ntmps180
 go_wp2_with fail;go_loopw [8] (fun i wr=> ∃k:Nat,k≤n∧i=iV k∧(∀s,s<k→p s=false)∧Bl w wr) (fun i _=>n-(intOf i).toNat)
 case atStart=>exact⟨0,c9D _,rfl,fun s hs=>absurd hs (c9L s),Below.refl _ _⟩
 case round=>
  obtain⟨k,hk,rfl,hs,hb⟩:=hrel;have HS:=hd8 hs;clear hs;by_cases A1:k<n
  ·have A6:(k:Int)<(n:Int):=by omega
   have A2:=hc k A1;have A5:=World.block_lt_of_cell? _ _ A2;have A7:=(hb.cell (p:=⟨b,o+k,none⟩) A5).trans A2;have HC:=hd8 hc;clear hc A2;have A0:=hp k A1 wr hb;by_cases hy:p k=true
   ·rw[hy]at A0;go_wp2_with fail;refine A0.mono ?_;rintro e w1 ⟨rfl,A3⟩;go_wp2_with fail;go_ret
    exact⟨_,rfl,Or.inr ⟨k,A1,rfl,hy,HS.out⟩,hb.trans (A3.mono hb.size)⟩
   ·have A4:p k=false:=by simpa using hy
    rw[A4]at A0;clear hy;go_wp2_with fail;refine A0.mono ?_;rintro e w1 ⟨rfl,A3⟩;go_wp2_with fail;refine⟨⟨k+1,by omega,by go_num,fun s hs=>?_,hb.trans (A3.mono hb.size)⟩,by simp[intOf];omega⟩;by_cases e:s=k
    ·rw[e];exact A4
    ·exact HS.out s (by omega)
  ·have e8:k=n:=by omega
   subst e8;go_wp2_with fail;go_ret
   exact⟨_,rfl,Or.inl ⟨rfl,HS.out⟩,hb⟩
theorem a0E(g b o n cap:Nat)(l:Value)(V:Nat→Value)(p:Nat→Bool)(w:World)(eg: ∀args w,(callFunc g args).run prog w=.ok (.enter g args) w)
  (hc: ∀r,r<n→w.cell? (aD b (o+r))=some (V r)) (hp:uE g l n V p w) (hn:n≤10000):
  Calls prog 168 #[.slice (some (aD b o)) n cap,.func (.func g) #[] #[l]] w fun e w'=> ∃y:Bool,e=.returned (.bool y)∧(y=true↔ ∃r,r<n∧p r=true)∧Bl w w':=by
 go_enter func168,ntmps168
 go_wp2_with fail;refine(b2C g b o n cap l V p w eg hc hp hn).mono ?_;rintro e w1 ⟨i,rfl,hi,hb⟩;clear hc hp;go_wp2_with fail;go_ret
 refine⟨_,rfl,?_,hb⟩;rcases hi with⟨rfl,h⟩|⟨r,hr,rfl,h,_⟩
 ·exact⟨fun e=>absurd e (by decide),fun⟨r,hr,he⟩=>by rw[h r hr]at he;exact absurd he (by decide)⟩
 ·exact⟨fun _=>⟨r,hr,h⟩,fun _=>by simp⟩
theorem a0C(A:Option Addr)(l c B m:Nat)(w:World)(hc:w.cell? (aD B 0)=some (iV m)):
  Calls prog 167 #[.slice A l c,.pointer (some (aD B 0))] w fun e w'=>e=.returned (.bool (decide (l≠m)))∧Bl w w':=by
 by_cases h:l=m
 ·subst h;have H:Hid (decide (l≠l)=false):=by show decide (l≠l)=false;simp
  go_enter func167,ntmps167
  go_wp2_with fail;go_ret
  exact⟨jP H.out.symm,Below.refl _ _⟩
 ·have H:Hid (decide (l≠m)=true):=by show decide (l≠m)=true;simpa using h
  have h':((l:Int)==(m:Int))=false:=by rw[beq_eq_false_iff_ne];omega
  clear h;go_enter func167,ntmps167
  go_wp2_with fail;go_ret
  exact⟨jP (by rw[H.out];simp[bne,h']),Below.refl _ _⟩
theorem Tryz.enters_otherLenS: ∀args w,(callFunc 167 args).run Tryz.prog w=.ok (.enter 167 args) w:=enters_of Tryz.func167 (by kernel_rfl) rfl
theorem pF(v:Value)(m:Nat)(L:Nat→Nat)(f:Nat→Nat→Nat)(w:World)(h:Arg w v m L f)(h1:1≤m)(h2:m≤10000):
  Calls prog 142 #[v] w fun e w'=> ∃y:Bool,e=.returned (.bool y)∧(y=true↔L 0≤400∧ ∀p,p<m→L p=L 0)∧Bl w w':=by
 obtain⟨A,A4,R,C,rfl,hr⟩:=h.lies;clear h;obtain⟨b,o,rfl,A0,_⟩:=hr 0 (by omega);have hc: ∀r,r<m→w.cell? (aD b (o+r))=some (.slice (R r) (L r) (C r)):=fun r hrn=>by
  obtain⟨b',o',e1,e2,_⟩:=hr r hrn;cases e1
  exact e2
 clear hr;have A1:=World.block_lt_of_cell? _ _ A0;have A7:(0:Int)<(m:Int):=by omega
 have A3:w.cell? (aD b o)=some (.slice (R 0) (L 0) (C 0)):=by simpa using A0
 clear A0;have HC:=hd8 hc;clear hc;by_cases h4:L 0≤400
 ·have A2:(L 0:Int)≤400:=by omega
  go_enter func142,ntmps142
  go_wp2_with fail;refine(a0E 167 b o m A4 _ (fun r=> .slice (R r) (L r) (C r)) (fun r=>decide (L r≠L 0)) _ Tryz.enters_otherLenS ?_ ?_ h2).mono ?_
  ·intro r hr;exact(((Below.refl w.heap.size w).alloc (c9C _) _).cell (p:=⟨b,o+r,none⟩) A1).trans (HC.out r hr)
  ·intro r hr W hW;refine a0C (R r) (L r) (C r) w.heap.size (L 0) W ?_;rw[hW.cell (p:=⟨w.heap.size,0,none⟩) (by simp)];simp
  rintro e w1 ⟨y,rfl,hy,A6⟩;have A5:Bl w w1:=((Below.refl w.heap.size w).alloc (c9C _) _).trans (A6.mono (by simp));have HY:=hd8 hy;clear hy;go_wp2_with fail;go_ret
  refine⟨_,rfl,?_,A5⟩;have hy:=HY.out;cases y with
  |true=>
   obtain⟨r,hr,he⟩:=hy.1 rfl;exact⟨fun h=>absurd h (by decide),fun h=>absurd (h.2 r hr) (of_decide_eq_true he)⟩
  |false=>exact⟨fun _=>⟨h4,fun r hr=>Classical.byContradiction fun hne=>absurd (hy.2 ⟨r,hr,decide_eq_true hne⟩) (by decide)⟩,fun _=>rfl⟩
 ·have A2: ¬(L 0:Int)≤400:=by omega
  go_enter func142,ntmps142
  go_wp2_with fail;go_ret
  exact⟨rfl,aB8 _ _⟩
def there(L:Nat→Nat)(k:Nat):List Nat:=(List.range k).filter (fun r=>decide (0<L r))
theorem a2C(h:0<L k):there L (k+1)=there L k++[k]:=by
 unfold there;rw[d1G,d1O,d1W (by simpa using h)];rfl
theorem a6Y(h: ¬0<L k):there L (k+1)=there L k:=by
 unfold there;rw[d1G,d1O,d1N (by simpa using h)];simp
theorem qB{r:Nat}:r∈there L k↔r<k∧0<L r:=by
 unfold there;rw[d0Z,d0D,decide_eq_true_iff]
theorem a6I(L:Nat→Nat)(k:Nat):(there L k).Nodup:=List.nodup_range.filter _
theorem mG(L:Nat→Nat)(k:Nat):(there L k).length≤k:=by
 have:=d2P (fun r=>decide (0<L r)) (List.range k);rw[d1E]at this;exact this
def Dis(a b:Value):Prop:=a.ownBlock=none∨b.ownBlock=none∨a.ownBlock≠b.ownBlock
theorem Dis.symm{a b:Value}(h:Dis a b):Dis b a:=by
 rcases h with h|h|h
 ·exact Or.inr (Or.inl h)
 ·exact Or.inl h
 ·exact Or.inr (Or.inr h.symm)
theorem Dis.kept{a b:Value}(h:Dis a b):b.ownBlock=none∨b.ownBlock≠a.ownBlock:=by
 rcases h with h|h|h
 ·cases hb:b.ownBlock with
  |none=>exact Or.inl rfl
  |some x=>exact Or.inr (by rw[h];simp)
 ·exact Or.inl h
 ·exact Or.inr h.symm
theorem Dis.next{a b:Value}(h:Dis a b)(hl:a'.ownBlock=a.ownBlock∨a'.ownBlock=some w.heap.size)(hb: ∀x,b.ownBlock=some x→x<w.heap.size):Dis a' b:=by
 rcases hl with hl|hl
 ·unfold Dis;rw[hl];exact h
 ·cases e:b.ownBlock with
  |none=>exact Or.inr (Or.inl e)
  |some x=>exact Or.inr (Or.inr (by
    have:=hb x e;rw[hl,e];simp
    omega))
theorem vY{T:List Nat}(R:Nat→Option Addr)(L C:Nat→Nat)(f:Nat→Nat→Nat)(bd:Gf.Bd2 f)(h:w.ownsRow N 59 1 v T.length (T.map fun r=> .slice (R r) (L r) (C r)))
  (hr: ∀r,r∈T→ ∀k,k<L r→ ∃b' o',R r=some (aD b' o')∧w.cell? (aD b' (o'+k))=some (.int .u8 (f r k:Nat))):Arg w v T.length (fun p=>L (T.getD p 0)) (fun p=>f (T.getD p 0)):=by
 refine⟨fun p=>bd _,?_⟩;by_cases h0:1≤T.length
 ·obtain⟨g,A0,hv,_,_,A1⟩:=eD h h0;refine⟨some (aD g 0),A0,fun p=>R (T.getD p 0),fun p=>C (T.getD p 0),hv,fun p hp=>⟨g,0,rfl,?_,hr (T.getD p 0) ?_⟩⟩
  ·rw[c9G,A1.cell hp];simp[List.getD,hp]
  ·simp[List.getD,hp]
 ·have e:T.length=0:=by omega
  rw[e]at h⊢;rcases h.2 with⟨hv,_⟩|⟨g,A0,_,hv,_⟩
  ·exact⟨none,0,fun _=>none,fun _=>0,hv,fun r hr=>absurd hr (c9L r)⟩
  ·exact⟨_,A0,fun _=>none,fun _=>0,hv,fun r hr=>absurd hr (c9L r)⟩
def Cap(v:Value):Prop:= ∃A n cap,v=.slice A n cap∧n≤cap
theorem vL(h:w.ownsRow N t 1 v n xs):Cap v:=by
 rcases h.2 with⟨hv,_⟩|⟨g,A0,_,hv,_,_,hc,_⟩
 ·exact⟨_,_,_,hv,c9C _⟩
 ·exact⟨_,_,_,hv,hc⟩
theorem kH(A:Option Addr)(cap N n:Nat)(L:Nat→Nat)(f:Nat→Nat→Nat)(br capr:Nat)(Gr Or' Kr:Nat→Nat)(g:Nat→Nat→Nat)(w:World)(h:Arg w (.slice A N cap) N L f)(bg:Gf.Bd2 g)(hm:jV w br 0 N n Gr Or' Kr g)(h1:1≤N)(h2:N≤12):
  Calls prog 141 #[.slice A N cap,.slice (some (aD br 0)) N capr] w fun e w'=> ∃v4 v5,e=.returned (.tuple #[v4,v5])∧
   Arg w' v4 (there L N).length (fun p=>L ((there L N).getD p 0)) (fun p=>f ((there L N).getD p 0))∧Arg w' v5 (there L N).length (fun _=>n) (fun p=>g ((there L N).getD p 0))∧Cap v4∧Cap v5∧Bl w w':=by
 obtain⟨A',Ag,R,C,hv,hr⟩:=h.lies;have bf:=h.bd;cases hv
 clear h;obtain⟨b,o,rfl,_,_⟩:=hr 0 (by omega);have HC:Hid (∀r,r<N→w.cell? (aD b (o+r))=some (.slice (R r) (L r) (C r))∧ ∀k,k<L r→ ∃b' o',R r=some (aD b' o')∧w.cell? (aD b' (o'+k))=some (.int .u8 (f r k:Nat))):=fun r hrn=>by
  obtain⟨b',o',e1,e2,e3⟩:=hr r hrn;cases e1
  exact⟨e2,e3⟩
 clear hr;obtain⟨i0,hi,hh⟩:=c9J.1 Tryz.infoRow;simp only[Prod.mk.injEq]at hh;obtain⟨Aa,Af,Ac⟩:=hh;go_enter func141,ntmps141
 go_wp2_with fail
 go_loopw [4,5,10] (fun v4 v5 x wr=> ∃k:Nat,k≤N∧x=iV k∧wr.ownsRow w.heap.size 59 1 v4 (there L k).length ((there L k).map fun r=> .slice (R r) (L r) (C r))∧
  wr.ownsRow w.heap.size 59 1 v5 (there L k).length ((there L k).map fun r=> .slice (some ⟨Gr r,Or' r,none⟩) n (Kr r))∧Dis v4 v5∧Bl w wr) (fun _ _ x _=>N-(intOf x).toNat)
 case atStart=>exact⟨0,c9D _,rfl,World.ownsRow_nil w _ _ 1,World.ownsRow_nil w _ _ 1,Or.inl rfl,Below.refl _ _⟩
 case round=>
  obtain⟨k,hk,rfl,o4,o5,hd,hb⟩:=hrel;by_cases A7:k<N
  ·have Am:(k:Int)<(N:Int):=by omega
   have Ad:=(HC.out k A7).1;have Ai:=cB8 hb Ad;clear Ad;by_cases hy:0<L k
   ·have An:(0:Int)<(L k:Int):=by omega
    have HT:=hd8 (a2C hy);have Ah:=mG L k;have A8:=hm.top k A7;have A0:=(Below.refl wr.heap.size wr).alloc (c9C _) (.cells #[.slice (R k) (L k) (C k)] 59);have A6:=aK o4 A0;have A3:=aK o5 A0;have sX:=c9E hb.size A0.size;go_wp2_with (first|(at_builtin;refine wpList_append_own_at _ rfl (.tmp 18) (.tmp 20) 169 rfl w.heap.size 59 i0 nS 1 24 underlying169 hi Aa Af Ac rfl (by decide) _ _ _ rfl A6 (aD wr.heap.size 0) 1 1 [.slice (R k) (L k) (C k)] rfl rfl cZ (by intro u hu;simp at hu;subst hu;rfl) (by unfold maxLen;omega) (by omega) sX ?_;intro v41 w1 hown41 hgrow41 _ hloc41;have b1:Bl w w1:=(hb.trans (A0.mono hb.size)).grown hgrow41 sX (fun x hx=>(A6.lt x hx).1);have A9:=A3.kept hgrow41 hd.kept;have A2:=hd.next hloc41 (fun x hx=>(A3.lt x hx).2);have Ab:=cB8 b1 A8;have A1:=(Below.refl w1.heap.size w1).alloc (c9C _) (.cells #[.slice (some ⟨Gr k,Or' k,none⟩) n (Kr k)] 59);have A5:=aK hown41 A1;have A4:=aK A9 A1;have sY:=c9E b1.size A1.size;rw[c9G]at Ab)|(at_builtin;refine wpList_append_own_at _ rfl (.tmp 22) (.tmp 27) 169 rfl w.heap.size 59 i0 nS 1 24 underlying169 hi Aa Af Ac rfl (by decide) _ _ _ rfl A4 (aD w1.heap.size 0) 1 1 [.slice (some ⟨Gr k,Or' k,none⟩) n (Kr k)] rfl rfl cZ (by intro u hu;simp at hu;subst hu;rfl) (by unfold maxLen;omega) (by omega) sY ?_;intro v52 w2 hown52 hgrow52 _ hloc52));have b2:Bl w w2:=(b1.trans (A1.mono b1.size)).grown hgrow52 sY (fun x hx=>(A4.lt x hx).1);have Ae:=A5.kept hgrow52 A2.symm.kept;have Aj:=(A2.symm.next hloc52 (fun x hx=>(A5.lt x hx).2)).symm;have q4:w2.ownsRow w.heap.size 59 1 v41 (there L (k+1)).length ((there L (k+1)).map fun r=> .slice (R r) (L r) (C r)):=by
     rw[HT.out,c9I,c9U];exact Ae
    have q5:w2.ownsRow w.heap.size 59 1 v52 (there L (k+1)).length ((there L (k+1)).map fun r=> .slice (some ⟨Gr r,Or' r,none⟩) n (Kr r)):=by
     rw[HT.out,c9I,c9U];exact hown52
    clear o4 o5 hd A6 A3 hown41 hgrow41 hloc41 A9 A2 Ab A5 A4 hown52 hgrow52 hloc52 Ae b1 A0 A1 Ai A8;go_wp2_with fail;exact⟨⟨k+1,by omega,by go_num,q4,q5,Aj,b2⟩,by simp[intOf];omega⟩
   ·have An: ¬(0:Int)<(L k:Int):=by omega
    have HT:=hd8 (a6Y hy);go_wp2_with fail;refine⟨⟨k+1,by omega,by go_num,?_,?_,hd,hb⟩,by simp[intOf];omega⟩
    ·rw[HT.out];exact o4
    ·rw[HT.out];exact o5
  ·have e8:k=N:=by omega
   subst e8
   have Ak:Hid (Arg wr _ (there L k).length (fun p=>L ((there L k).getD p 0)) (fun p=>f ((there L k).getD p 0))):=vY R L C f bf o4 (fun r hr j hj=>by
    obtain⟨h1,h2⟩:=qB.1 hr;obtain⟨b',o',e1,e2⟩:=(HC.out r h1).2 j hj
    exact⟨b',o',e1,cB8 hb e2⟩)
   have Al:=hd8 (vY (fun r=>some ⟨Gr r,Or' r,none⟩) (fun _=>n) Kr g bg o5 (fun r hr j hj=>⟨Gr r,Or' r,rfl,(hm.below hb).row r (qB.1 hr).1 j hj⟩));have c4:=vL o4;have c5:=vL o5;clear o4 o5 hd hm;go_wp2_with fail;go_ret2
   exact⟨_,_,rfl,Ak.out,Al.out,c4,c5,hb⟩
def Out(w:World)(E:Nat)(v:Value)(n c:Nat)(f:Nat→Nat→Nat):Prop:=(E=0∧Mx w v n c f)∨((E≠0∨n=0)∧v=nS)
def uJ(n:Nat)(L:Nat→Nat)(s:Int):Nat:=if bP n s≠0 then 5 else aB n L
def cP(n i:Nat):Nat→Nat:=Gf.bH n (n+i)
theorem gZ(n:Nat):Gf.Bd2 (cP n):=fun i=>Gf.eK n (n+i)
theorem jV.spare{s:Nat}(h:jV w g 0 (n+s) n G (fun _=>0) K (Gf.bH n)):jV w g n s n (fun r=>G (n+r)) (fun _=>0) (fun r=>K (n+r)) (cP n):=
 ⟨fun r hr=>by have:=h.top (n+r) (by omega);rw[c9G]at this;exact this,fun r hr k hk=>h.row (n+r) (by omega) k hk⟩
theorem xJ(v:Value)(n:Nat)(L:Nat→Nat)(f:Nat→Nat→Nat)(w:World)(h:Arg w v n L f)(h1:1≤n)(h2:n≤8)(hx:aB n L=0):
  Calls prog 111 #[v,iV 0] w fun e w'=>e=.returned (.tuple #[nS,iV 0])∧Bl w w':=by
 have HW:=fun w' hb'=>l8 v n L f w' (h.below (w':=w') hb');have HR:=fun w=>iD n 0 w h1 h2 (by omega);obtain⟨A,A0,R,C,rfl,_⟩:=h.lies;rw[hx]at HW;clear h hx;go_enter func111,ntmps111
 go_wp2_with fail;refine(HR _).mono ?_;rintro e w1 ⟨g,cp,rfl,_,_,b1⟩;go_wp2_with fail;refine(HW _ b1).mono ?_;rintro e w2 ⟨rfl,b2⟩;go_wp2_with fail;go_ret2
 exact⟨rfl,bt b1 b2⟩
theorem a2Y(v:Value)(n s c:Nat)(f:Nat→Nat→Nat)(w:World)(h:Mx w v n c f)(h2:n≤8)(h3:1≤s)(h4:s≤4):
  Calls prog 111 #[v,iV s] w fun e w'=> ∃b G,e=.returned (.tuple #[.slice (some (aD b 0)) s s,iV 0])∧Own w' w.heap.size b s c G (Gf.mm n (cP n) f)∧Bl w w':=by
 obtain⟨d1,d2,d3,d4⟩:=h.dim;have HW:=fun w' hb'=>l8 v n _ f w' (h.below (w':=w') hb').arg;have HR:=fun w=>iD n s w d1 h2 h4;rw[h.ok]at HW;have HM:=fun w' hb'=>h.below (w':=w') hb';obtain⟨bb,ob,pb,Gb,Ob,Kb,rfl,_⟩:=h.lies;have A3:((s:Int)==0)=false:=by rw[beq_eq_false_iff_ne];omega
 clear h;go_enter func111,ntmps111
 go_wp2_with fail;refine(HR _).mono ?_;rintro e w1 ⟨g,cp,rfl,A4,⟨G,K,hm⟩,b1⟩;go_wp2_with fail;refine(HW _ b1).mono ?_;rintro e w2 ⟨rfl,b2⟩;have hm:=(hm.below b2).spare;have b2:=bt b1 b2;have A2: ¬cp=n:=by omega
 have A1:(n:Int)≤((n+s:Nat):Int):=by omega
 have A0:Mx w2 (.slice (some (aD g n)) s (cp-n)) s n (cP n):=⟨gZ n,⟨h3,by omega,d1,by omega⟩,g,n,cp-n,_,_,_,rfl,hm⟩;clear HR HW hm b1;go_wp2_with fail;refine(a6A _ _ s n n c (cP n) f _ A0 (HM _ b2) rfl).mono ?_;rintro e w3 ⟨b,G3,rfl,ho,b3⟩;go_wp2_with fail;go_ret2
 exact⟨b,G3,rfl,ho.lower b2.size,bt b2 b3⟩
theorem a6J(v:Value)(n s:Nat)(L:Nat→Nat)(f:Nat→Nat→Nat)(w:World)(h:Arg w v n L f)(h1:1≤n)(h2:n≤8)(hx:aB n L=0)(hs:s=0):
  Calls prog 111 #[v,iV s] w fun e w'=>e=.returned (.tuple #[nS,iV 0])∧Bl w w':=by
 subst hs;exact xJ v n L f w h h1 h2 hx
theorem c4C(W:World)(t tx:TypeId)(ht:prog.underlying t=some (.slice 59))(htx:prog.underlying tx=some (.slice 59))(b o n p:Nat)(F:Nat→Value)(b' o' m p':Nat)(F':Nat→Value)
  (hF: ∀r,r<n→W.cell? (aD b (o+r))=some (F r)) (hF': ∀r,r<m→W.cell? (aD b' (o'+r))=some (F' r)) (h1: ∀r,r<m→(F' r).oneCell'=true) (hp:p<n+m) (hn:n+m≤1000):
  ∃(C:Array Value) (q:Nat),n+m≤q∧(∀r,r<n→C[r]?=some (F r))∧(∀r,r<m→C[n+r]?=some (F' r))∧
   ∀ty,(Builtin.append_ #[t,tx] ty #[.slice (some (aD b o)) n p,.slice (some (aD b' o')) m p']).run prog W=.ok (.slice (some (aD W.heap.size 0)) (n+m) q) (W.drew.alloc (.cells C 59)):=by
 obtain⟨i,hi,hh⟩:=c9J.1 Tryz.infoRow;simp only[Prod.mk.injEq]at hh;obtain⟨hz,hs,hb⟩:=hh;have A1:Src prog i.size tx (.slice (some (aD b' o')) m p') m ((List.range m).map F') W:=by
  refine Src.ofSlice W htx _ m p' _ (by simp[hs]) (fun j u hj=>?_) (fun u hu=>?_)
  ·rcases Nat.lt_or_ge j m with h|h
   ·simp[h]at hj;rw[WideShapes.add_plain,hF' j h,←hj]
   ·simp[List.getElem?_eq_none (show((List.range m).map F').length≤j by simpa using h)]at hj
  ·obtain⟨r,hr,rfl⟩:=d0G.1 hu;exact h1 r (d0D.1 hr)
 have A2:(Builtin.firstCells i.size n (.slice (some (aD b o)) n p)).run prog W.drew=.ok ((List.range n).map F).toArray W.drew:=
  run_firstCells_some W.drew i.size n (aD b o) n p ((List.range n).map F) (by simp[hs]) (fun j u hj=>by
   rcases Nat.lt_or_ge j n with h|h
   ·simp[h]at hj;rw[WideShapes.add_plain,show W.drew.cell? (aD b (o+j))=W.cell? (aD b (o+j))from rfl,hF j h,←hj]
   ·simp[List.getElem?_eq_none (show((List.range n).map F).length≤j by simpa using h)]at hj)
 have A3:=growslice_fits (need:=n+m) (old:=p) (bytes:=i.bytes) (by omega) (by rw[hb];omega);have A0:=fun ty=>run_append_grow_src (P:=prog) W t tx ty 59 i nS ht hi hz (some (aD b o)) n p ((List.range n).map F) A2 _ m _ A1 hp (by omega) (by omega);refine⟨_,_,grownCap_ge W (n+m) p 59,fun r hr=>?_,fun r hr=>?_,A0⟩
 ·rw[Array.getElem?_append_left (by simp;omega)];simp[List.getElem?_append_left,hr]
 ·rw[Array.getElem?_append_left (by simp;omega)];simp[hr]
theorem a3E(W:World)(t tx:TypeId)(ht:prog.underlying t=some (.slice 59))(htx:prog.underlying tx=some (.slice 59))(b o n p:Nat)(hp:n≤p)(ty:TypeId):
  (Builtin.append_ #[t,tx] ty #[.slice (some (aD b o)) n p,nS]).run prog W=.ok (.slice (some (aD b o)) n p) W:=by
 obtain⟨i,hi,hh⟩:=c9J.1 Tryz.infoRow;simp only[Prod.mk.injEq]at hh;exact run_append_room_src (P:=prog) W t tx ty 59 i ht hi b o n p _ 0 [] (Src.ofNil W htx 0) (by omega) (fun j hj=>by cases hj) (fun j hj=>by cases hj)
def thr(L:Nat→Nat)(N p:Nat):Nat:=(there L N).getD p 0
theorem fG(h:p<(there L N).length):thr L N p<N∧0<L (thr L N p):=by
 refine qB.1 ?_;unfold thr;simp[List.getD,h]
theorem a5N(hp:p<(there L N).length)(hq:q<(there L N).length)(hne:p≠q):thr L N p≠thr L N q:=fun e=>by
 unfold thr at e
 simp only[List.getD,List.getElem?_eq_getElem hp,List.getElem?_eq_getElem hq,Option.getD_some]at e
 exact hne ((List.getElem_inj (a6I L N)).1 e)
abbrev oU(L:Nat→Nat)(N:Nat):Prop:=L (thr L N 0)≤400∧ ∀p,p<(there L N).length→L (thr L N p)=L (thr L N 0)
def eG(d:Int)(N:Nat)(L:Nat→Nat):Nat:=if bP d ((N:Int)-d)≠0 then 5 else if (there L N).length<d.toNat then 10 else if oU L N then 0 else 2
theorem Arg.take{A:Option Addr}(h:Arg w (.slice A m cap) m L f)(hn:n≤m):Arg w (.slice A n cap') n L f:=by
 obtain⟨A',c,R,C,hv,hr⟩:=h.lies;cases hv
 exact⟨h.bd,A,cap',R,C,rfl,fun r hr'=>hr r (by omega)⟩
theorem c2G(v:Value)(N:Nat)(A:Option Addr)(cap:Nat)(hv:v=.slice A N cap)(d:Int)(w:World)(hN:N≤maxLen)(h:bP d ((N:Int)-d)≠0):
  Calls prog 117 #[v,iV d] w fun e w'=>e=.returned (.tuple #[nS,iV 5])∧Bl w w':=by
 subst hv;unfold maxLen at hN;have H:Hid (∀w,Calls prog 135 #[iV d,iV (wrap64 ((N:Int)-d))] w fun e w'=>e=.returned (.tuple #[nS,iV 5])∧Bl w w'):=fun w=>by
  refine a5L d _ w ?_;unfold bP at h;split at h
  ·rename_i hb;unfold wrap64;omega
  ·exact absurd rfl h
 clear h hN;go_enter func117,ntmps117
 go_wp2_with fail;refine(H.out _).mono ?_;rintro e w1 ⟨rfl,b1⟩;go_wp2_with fail;go_ret2
 exact⟨rfl,b1⟩
theorem b8L(A:Option Addr)(cap n s:Nat)(L:Nat→Nat)(f:Nat→Nat→Nat)(w:World)(h:Arg w (.slice A (n+s) cap) (n+s) L f)(h1:1≤n)(h2:n≤8)(h3:s≤4)(hl:(there L (n+s)).length<n):
  Calls prog 117 #[.slice A (n+s) cap,iV n] w fun e w'=>e=.returned (.tuple #[nS,iV 10])∧Bl w w':=by
 have HR:=fun w=>iD n s w h1 h2 h3;have A0:(n:Int)+(s:Int)-(n:Int)=(s:Int):=by omega
 have A1:((there L (n+s)).length:Int)<(n:Int):=by omega
 go_enter func117,ntmps117
 go_wp2_with fail;refine(HR _).mono ?_;rintro e w1 ⟨g,cp,rfl,_,⟨G,K,hm⟩,b1⟩;have HT:=kH A cap (n+s) n L f g cp G (fun _=>0) K (Gf.bH n) w1 (h.below b1) (Gf.eK n) hm (by omega) (by omega);clear HR h;go_wp2_with fail;refine HT.mono ?_;rintro e w2 ⟨v4,v5,rfl,a4,a5,c4,c5,b2⟩;obtain⟨A4,p4,R4,C4,rfl,_⟩:=a4.lies;obtain⟨A5,p5,R5,C5,rfl,_⟩:=a5.lies;clear HT a4 a5;go_wp2_with fail;go_ret2
 exact⟨rfl,bt b1 b2⟩
theorem b7W(A:Option Addr)(cap n s:Nat)(L:Nat→Nat)(f:Nat→Nat→Nat)(w:World)(h:Arg w (.slice A (n+s) cap) (n+s) L f)(h1:1≤n)(h2:n≤8)(h3:s≤4)(hl:n≤(there L (n+s)).length)(hf: ¬oU L (n+s)):
  Calls prog 117 #[.slice A (n+s) cap,iV n] w fun e w'=>e=.returned (.tuple #[nS,iV 2])∧Bl w w':=by
 have HR:=fun w=>iD n s w h1 h2 h3;have A2:(n:Int)+(s:Int)-(n:Int)=(s:Int):=by omega
 have A3: ¬((there L (n+s)).length:Int)<(n:Int):=by omega
 have A1:=mG L (n+s);have HF:=hd8 hf;clear hf;go_enter func117,ntmps117
 go_wp2_with fail;refine(HR _).mono ?_;rintro e w1 ⟨g,cp,rfl,_,⟨G,K,hm⟩,b1⟩;have HT:=kH A cap (n+s) n L f g cp G (fun _=>0) K (Gf.bH n) w1 (h.below b1) (Gf.eK n) hm (by omega) (by omega);clear HR h;go_wp2_with fail;refine HT.mono ?_;rintro e w2 ⟨v4,v5,rfl,a4,a5,c4,c5,b2⟩;have A0:=pF v4 _ _ _ w2 a4 (by omega) (by omega);obtain⟨A4,p4,R4,C4,rfl,_⟩:=a4.lies;obtain⟨A5,p5,R5,C5,rfl,_⟩:=a5.lies;have b2:=bt b1 b2;clear HT a4 a5;go_wp2_with fail;refine A0.mono ?_;rintro e w3 ⟨y,rfl,hy,b3⟩;cases y with
 |true=>exact absurd (hy.1 rfl) HF.out
 |false=>
  clear hy A0;go_wp2_with fail;go_ret2
  exact⟨rfl,bt b2 b3⟩
theorem a1Z{D:Nat→Nat→Nat}(hD:Gf.Bd2 D)(hi:i<n)(k:Nat):Gf.mm n (Gf.bH n) D i k=D i k:=by
 rw[show Gf.mm n (Gf.bH n) D i k=Gf.mm n Gf.one D i k from Gf.mC (fun l _=>Gf.oK hi l) (fun _ _=>rfl),Gf.b0Q hD k hi]
theorem c4D(A:Option Addr)(cap n s:Nat)(L:Nat→Nat)(f:Nat→Nat→Nat)(w:World)(h:Arg w (.slice A (n+s) cap) (n+s) L f)(h1:1≤n)(h2:n≤8)(h3:s≤4)(hl:n≤(there L (n+s)).length)(hf:oU L (n+s)):
  Calls prog 117 #[.slice A (n+s) cap,iV n] w fun e w'=> ∃v r,e=.returned (.tuple #[v,iV 0])∧Cap v∧Gf.Bd2 r∧Gf.Und n (fun p=>Gf.bH n (thr L (n+s) p)) r∧
   Mx w' v (n+s) (L (thr L (n+s) 0)) (Gf.mm n (Gf.bH n) (Gf.mm n r (fun p=>f (thr L (n+s) p))))∧Bl w w':=by
 have HR:=fun w=>iD n s w h1 h2 h3;have An:(n:Int)+(s:Int)-(n:Int)=(s:Int):=by omega
 have Au: ¬((there L (n+s)).length:Int)<(n:Int):=by omega
 have As:=mG L (n+s);have HF:Hid (oU L (n+s)):=hf;clear hf;have Ao:Hid (∀w v,Arg w v n (fun _=>n) (fun p=>Gf.bH n (thr L (n+s) p))→Calls prog 143 #[v] w fun e w'=> ∃v' r,e=.returned (.tuple #[v',iV 0])∧Mx w' v' n n r∧Gf.Und n (fun p=>Gf.bH n (thr L (n+s) p)) r∧Bl w w'):=fun w v ha=>by
  have mx:=ha.mx (gB h1 (by omega) h1 (by omega) (fun _ _=>rfl));refine(c0S v n _ w mx).mono fun e w' ⟨hh,hb⟩=>?_;rcases hh with⟨v',r,q1,q2,q3⟩|⟨_,hs⟩
  ·exact⟨v',r,q1,q2,q3,hb⟩
  ·exact(Gf.lT (by omega) (fun p hp=>by have:=(fG (show p<(there L (n+s)).length by omega)).1;omega) (fun p q hp hq hne=>a5N (by omega) (by omega) hne) hs).elim
 go_enter func117,ntmps117
 go_wp2_with fail;refine(HR _).mono ?_;rintro e w1 ⟨g,cp,rfl,_,⟨G,K,hm⟩,b1⟩;have HT:=kH A cap (n+s) n L f g cp G (fun _=>0) K (Gf.bH n) w1 (h.below b1) (Gf.eK n) hm (by omega) (by omega);clear HR h hm;go_wp2_with fail;refine HT.mono ?_;rintro e w2 ⟨v4,v5,rfl,a4,a5,c4,c5,b2⟩;have Al:=pF v4 _ _ _ w2 a4 (by omega) (by omega);have b2:=bt b1 b2;obtain⟨A4,p4,R4,C4,Ar,Am⟩:=a4.lies;subst Ar;obtain⟨A5,p5,R5,C5,At,Ag⟩:=a5.lies;subst At;obtain⟨b4,o4,rfl,_,_⟩:=Am 0 (by omega);obtain⟨b5,o5,rfl,_,_⟩:=Ag 0 (by omega);obtain⟨_,_,_,Ap,k4⟩:=c4;cases Ap
 obtain⟨_,_,_,Aq,k5⟩:=c5;cases Aq
 have t4:=a4.take (n:=n) (cap':=p4) hl;have t5:=a5.take (n:=n) (cap':=p5) hl;have f4:(n:Int)≤(p4:Int):=by omega
 have f5:(n:Int)≤(p5:Int):=by omega
 clear HT a4 a5 Am Ag b1;go_wp2_with fail;refine Al.mono ?_;rintro e w3 ⟨y,rfl,hy,b3⟩;cases y with
 |false=>exact absurd (hy.2 HF.out) (by decide)
 |true=>
  have t4:=t4.below b3;have t5:=t5.below b3;have b3:=bt b2 b3;clear hy Al b2;go_wp2_with fail;refine(Ao.out _ _ t5).mono ?_;rintro e w4 ⟨vU,r,rfl,mU,hU,A9⟩;have t4:=t4.below A9;have A9:=bt b3 A9;have hF:=HF.out;have mT:Mx w4 (.slice (some (aD b4 o4)) n p4) n (L (thr L (n+s) 0)) (fun p=>f (thr L (n+s) p)):=t4.mx (gB h1 (by omega) (fG (show 0<(there L (n+s)).length by omega)).2 hF.1 (fun p hp=>hF.2 p (by omega)));have rU:=mU.bd;have HU:Hid (Gf.Und n (fun p=>Gf.bH n (thr L (n+s) p)) r):=hU;have A1:=a6A vU _ n n n _ r _ w4 mU mT rfl;have Aa:Gf.Bd2 (Gf.mm n r (fun p=>f (thr L (n+s) p))):=Gf.oS rU n _;have Ah:=mT.dim;clear t4 t5 b3 hU mU mT hF;generalize hall:Gf.mm n r (fun p=>f (thr L (n+s) p))=all at A1 Aa;generalize hcc:L (thr L (n+s) 0)=c at A1 Ah;have A8:Hid (Gf.mm n r (fun p=>f (thr L (n+s) p))=all):=hall;have Af:Hid (L (thr L (n+s) 0)=c):=hcc;obtain⟨_,d2,d3,d4⟩:=Ah;clear hall hcc;go_wp2_with fail;refine A1.mono ?_;rintro e w5 ⟨bA,G5,rfl,A0,Ab⟩;have Ab:=bt A9 Ab;have mA:=A0.mx Aa ⟨h1,d2,d3,d4⟩;clear A1 A9;go_wp2_with fail;by_cases hs:s=0
  ·refine(a6J _ n s (fun _=>c) all w5 mA.arg h1 h2 mA.ok hs).mono ?_;rintro e w6 ⟨rfl,b6⟩;have A0:=A0.below b6;have b6:=bt Ab b6
   have A3:Hid (Mx w6 (.slice (some (aD bA 0)) n n) (n+s) c (Gf.mm n (Gf.bH n) all)):=⟨Gf.oS (Gf.eK n) n all,⟨by omega,by omega,d3,d4⟩,bA,0,n,G5,fun _=>0,fun _=>c,by rw[hs];rfl,fun i hi=>A0.mat.top i (by omega),fun i hi k hk=>by
    rw[a1Z Aa (show i<n by omega)]
    exact A0.mat.row i (by omega) k hk⟩
   have A7:=fun W ty=>a3E W 169 86 underlying169 underlying86 bA 0 n n (c9C _) ty;clear A0 mA hs;go_wp2_with (at_builtin;refine Lib.wpList_append_run _ rfl (.tmp 70) (.tmp 71) 169 86 rfl _ _ rfl rfl _ _ (A7 _ _) ?_);go_wp2_with fail;go_ret2
   exact⟨_,r,rfl,⟨_,_,_,rfl,c9C _⟩,rU,HU.out,by rw[A8.out,Af.out];exact A3.out,b6⟩
  ·refine(a2Y _ n s c all w5 mA h2 (by omega) h3).mono ?_;rintro e w6 ⟨bS,G6,rfl,Ac,b6⟩;have A0:=A0.below b6;have b6:=bt Ab b6;obtain⟨C,q,hq,Aj,Ai,A7⟩:=c4C w6 169 86 underlying169 underlying86 bA 0 n n (fun i=> .slice (some ⟨G5 i,0,none⟩) c c) bS 0 s s (fun i=> .slice (some ⟨G6 i,0,none⟩) c c)
    (fun i hi=>A0.mat.top i hi) (fun i hi=>Ac.mat.top i hi) (fun _ _=>rfl) (by omega) (by omega)
   have b7:Bl w6 (w6.drew.alloc (.cells C 59)):=(Below.refl _ _).drew.alloc (c9C _) _;have Ae:=A0.below b7;have Ak:=Ac.below b7;have A6:=World.rowIs_alloc w6.drew C 59 (fun i=>C.getD i nS) (fun i hi=>by simp[hi]);have A3:Hid (Mx (w6.drew.alloc (.cells C 59)) (.slice (some (aD w6.heap.size 0)) (n+s) q) (n+s) c (Gf.mm n (Gf.bH n) all)):=by
    refine⟨Gf.oS (Gf.eK n) n all,⟨by omega,by omega,d3,d4⟩,w6.heap.size,0,q,fun i=>if i<n then G5 i else G6 (i-n),fun _=>0,fun _=>c,rfl,fun i hi=>?_,fun i hi k hk=>?_⟩
    ·by_cases A2:i<n
     ·have h8:=Aj i A2;obtain⟨h9,Ad⟩:=d1M.1 h8;rw[c9G,if_pos A2];refine(A6.cell h9).trans ?_;simp[h9,Ad]
     ·obtain⟨j,rfl⟩: ∃j,i=n+j:=⟨i-n,by omega⟩;have h8:=Ai j (by omega);obtain⟨h9,Ad⟩:=d1M.1 h8;rw[c9G,if_neg A2,d2G];refine(A6.cell h9).trans ?_;simp[h9,Ad]
    ·by_cases A2:i<n
     ·rw[if_pos A2,a1Z Aa A2];exact Ae.mat.row i A2 k hk
     ·obtain⟨j,rfl⟩: ∃j,i=n+j:=⟨i-n,by omega⟩;rw[if_neg A2,d2G];exact Ak.mat.row j (by omega) k hk
   have b7:=bt b6 b7;clear A0 mA Ac Aj Ai Ae Ak A6;go_wp2_with (at_builtin;refine Lib.wpList_append_run _ rfl (.tmp 70) (.tmp 71) 169 86 rfl _ _ rfl rfl _ _ (A7 _) ?_);go_wp2_with fail;go_ret2
   exact⟨_,r,rfl,⟨_,_,_,rfl,hq⟩,rU,HU.out,by rw[A8.out,Af.out];exact A3.out,b7⟩
theorem c8I(v:Value)(N:Nat)(L:Nat→Nat)(f:Nat→Nat→Nat)(d:Int)(w:World)(h:Arg w v N L f)(hN:N≤maxLen):
  Calls prog 117 #[v,iV d] w fun e w'=> ∃v' r,e=.returned (.tuple #[v',iV (eG d N L:Nat)])∧Cap v'∧(eG d N L=0→Gf.Bd2 r∧Gf.Und d.toNat (fun p=>Gf.bH d.toNat (thr L N p)) r)∧
   Out w' (eG d N L) v' N (L (thr L N 0)) (Gf.mm d.toNat (Gf.bH d.toNat) (Gf.mm d.toNat r (fun p=>f (thr L N p))))∧Bl w w':=by
 obtain⟨A,A0,R,C,hv,_⟩:=h.lies;subst hv;by_cases hw:bP d ((N:Int)-d)≠0
 ·rw[show eG d N L=5 from if_pos hw];exact(c2G _ N A A0 rfl d w hN hw).mono fun e w' ⟨h1,h2⟩=>⟨_,f,h1,⟨_,_,_,rfl,c9C _⟩,fun h=>absurd h (by decide),Or.inr ⟨Or.inl (by decide),rfl⟩,h2⟩
 ·have A1: ¬(d<1∨8<d∨(N:Int)-d<0∨4<(N:Int)-d):=fun h=>hw (by rw[cC h];decide);obtain⟨n,rfl⟩:=d0I (show 0≤d by omega);obtain⟨s,rfl⟩: ∃s,N=n+s:=⟨N-n,by omega⟩;by_cases hl:(there L (n+s)).length<n
  ·rw[show eG n (n+s) L=10 from(if_neg hw).trans (if_pos hl)];exact(b8L A A0 n s L f w h (by omega) (by omega) (by omega) hl).mono fun e w' ⟨h1,h2⟩=>⟨_,f,h1,⟨_,_,_,rfl,c9C _⟩,fun h=>absurd h (by decide),Or.inr ⟨Or.inl (by decide),rfl⟩,h2⟩
  ·by_cases hf:oU L (n+s)
   ·rw[show eG n (n+s) L=0 from(if_neg hw).trans ((if_neg hl).trans (if_pos hf))];exact(c4D A A0 n s L f w h (by omega) (by omega) (by omega) (by omega) hf).mono fun e w' ⟨v',r,h1,h2,h3,h4,h5,h6⟩=>⟨v',r,h1,h2,fun _=>⟨h3,h4⟩,Or.inl ⟨rfl,h5⟩,h6⟩
   ·rw[show eG n (n+s) L=2 from(if_neg hw).trans ((if_neg hl).trans (if_neg hf))];exact(b7W A A0 n s L f w h (by omega) (by omega) (by omega) (by omega) hf).mono fun e w' ⟨h1,h2⟩=>⟨_,f,h1,⟨_,_,_,rfl,c9C _⟩,fun h=>absurd h (by decide),Or.inr ⟨Or.inl (by decide),rfl⟩,h2⟩
theorem cF.shape{f:Nat→Nat}(h:cF w v n f): ∃A C,v=.slice A n C:=by
 obtain⟨_,A,C,hv,_⟩:=h;exact⟨A,C,hv⟩
def uT(f:Nat→Nat)(n:Nat):ByteArray:=strOfNums ((List.range n).map fun k=>(f k:Int))
theorem a2H(w:World)(A:Option Addr)(cap:Nat):(convert 59 9 (.slice A 0 cap)).run prog w=.ok (.string ByteArray.empty) w:=by
 rw[run_convert_bytes_string w 59 9 5 _ 0 cap underlying59 underlying5 underlying9];cases A with
 |none=>simp[Conv.bytesToString]
 |some x=>simp[Conv.bytesToString,loadCells];rfl
theorem a8W{f:Nat→Nat}(h:cF w v n f):(convert 59 9 v).run prog w=.ok (.string (uT f n)) w:=by
 by_cases hn:1≤n
 ·obtain⟨b,o,A0,rfl,_,_,hc⟩:=h.some hn;exact run_convert_bytes_arg (P:=prog) w 59 5 underlying59 underlying5 b o n A0 ((List.range n).map fun j=>(f j:Int)) (by simp) (fun i hi=>by rw[yM _ _ _ hi];exact hc i hi) 9 underlying9
 ·obtain rfl:n=0:=by omega
  obtain⟨A,A0,rfl⟩:=h.zero;exact a2H w A A0
theorem eE(w:World)(c:Array Value)(t:TypeId): ∀j u,c.toList[j]?=some u→(w.alloc (.cells c t)).cell? ((⟨w.heap.size,0,none⟩:Addr).add j)=some u:=fun j u hj=>by
 have hj':c[j]?=some u:=by simpa using hj
 obtain⟨A0,he⟩:=d1M.1 hj';have hr:=World.rowIs_alloc w c t (fun i=>c.getD i nS) (fun i hi=>by simp[hi]);rw[WideShapes.add_plain,c9G,hr.cell A0];simp[Array.getD,A0,he]
def fF(t:List Nat):ByteArray:=uT (fun k=>t.getD k 0) t.length
theorem l7(t:List Nat):(fF t).toList=t.map UInt8.ofNat:=by
 unfold fF uT;rw[a8A];bK d1I;intro i;by_cases hi:i<t.length
 ·simp[hi,List.getD]
 ·rw[c9Z (by simpa using hi),c9Z (by simpa using hi)]
theorem a0U(t:List Nat):(fF t).size=t.length:=by
 have h:=congrArg List.length (l7 t);rw[c9M,d2C,d1B]at h;exact h
theorem c2V(a b:List Nat):(fF a++fF b).toList=(fF (a++b)).toList:=by
 rw[l7,c9U,←l7,←l7];simp only[ByteArray.toList_eq,ByteArray.data_append,Array.toList_append]
theorem b9R(a b:List Nat):fF a++fF b=fF (a++b):=by
 refine ByteArray.ext (Array.ext' ?_);rw[←d2C,←d2C];exact c2V a b
theorem b4X(g:Nat→Nat)(n:Nat):uT g n=fF ((List.range n).map g):=by
 unfold fF uT;rw[c9M,d1E];congr 1;refine d1H (fun k hk=>?_);have:=d0D.1 hk;simp[List.getD,this]
theorem dQ{α β:Type}(f:α→List β)(m:Nat): ∀(l:List α),(∀a,a∈l→(f a).length=m)→ ∀(i t:Nat),t<m→ ∀a,l[i]?=some a→(l.flatMap f)[i*m+t]?=(f a)[t]?
 |[],_,i,t,_,a,h=>by cases h
 |x::l,hm,0,t,ht,a,h=>by
  cases h
  rw[d0K,Nat.zero_mul,c9G,d0M (by rw[hm x c9W];exact ht)]
 |x::l,hm,i+1,t,ht,a,h=>by
  have hx:=hm x c9W
  rw[d0K,d0S (by rw[hx,d0F];omega),hx,show(i+1)*m+t-m=i*m+t by rw[d0F];omega]
  exact dQ f m l (fun a ha=>hm a (c9Y _ ha)) i t ht a (by simpa using h)
theorem fJ{α β:Type}(f:α→List β)(m:Nat): ∀(l:List α),(∀a,a∈l→(f a).length=m)→(l.flatMap f).length=l.length*m
 |[],_=>by simp
 |x::l,hm=>by
  rw[d0K,c9I,hm x c9W,fJ f m l (fun a ha=>hm a (c9Y _ ha)),d0E,d0F]
  omega
theorem mF(w:World)(e:TypeId)(s:ByteArray):Bl w (Lib.bytesWorld w e s):=
 ⟨rfl,rfl,rfl,by rw[Lib.bytesWorld_size];omega,fun k hk=>Lib.bytesWorld_at_old w e s k hk⟩
theorem a7B(a b:Nat)(ha:a<4294967296)(hb:b<4294967296):bits .xor .u32 (a:Int) (b:Int)=((a^^^b:Nat):Int):=u32_xor_nat a b ha hb
theorem a3A(h: ¬c%2=1):Crc.nI c=c/2:=by unfold Crc.nI;rw[if_neg h,d0R]
theorem a7C(h:c%2=1):Crc.nI c=c/2^^^2197175160:=by unfold Crc.nI;rw[if_pos h];rfl
theorem a9A(c:Nat)(w:World)(hc:c<4294967296):
  Calls prog 174 #[.int .u32 (c:Int)] w fun e w'=>e=.returned (.int .u32 (Crc.nI c:Nat))∧w'=w:=by
 have h1:bits .and .u32 (c:Int) 1=((c%2:Nat):Int):=by
  rw[show(1:Int)=((1:Nat):Int)from rfl,u32_and_nat c 1 hc (by decide),nat_mask1]
 by_cases ho:c%2=1
 ·have h2:bits .xor .u32 ((c:Int)/2) 2197175160=((Crc.nI c:Nat):Int):=by
   rw[a7C ho,←a7B (c/2) 2197175160 (by omega) (by decide)];rfl
  have h3:(((c%2:Nat):Int)==1)=true:=by rw[ho];rfl
  generalize Crc.nI c=y at h2;generalize c%2=z at h1 h3;clear ho;go_enter func174,ntmps174
  go_wp2_with fail;go_ret
  exact⟨rfl,rfl⟩
 ·have h2:(Crc.nI c:Int)=(c:Int)/2:=by
   rw[a3A ho];rfl
  have h3:(((c%2:Nat):Int)==1)=false:=by rw[beq_eq_false_iff_ne];omega
  have H:=hd8 h2;generalize c%2=z at h1 h3;clear ho h2;go_enter func174,ntmps174
  go_wp2_with fail;go_ret
  exact⟨aH H.out.symm,rfl⟩
theorem zE(b o n cap:Nat)(f:Nat→Nat)(w:World)(hf:Bd f)(hn:n≤9223372036854775807)(hc: ∀i,i<n→w.cell? (aD b (o+i))=some (.int .u8 (f i:Nat))):
  Calls prog 148 #[.slice (some (aD b o)) n cap] w fun e w'=>e=.returned (.int .u32 (Crc.sum f n:Nat))∧w'=w:=by
 go_enter func148,ntmps148
 go_wp2_with fail;go_loop [3,8] (fun c x=> ∃k:Nat,k≤n∧x=iV k∧c=.int .u32 (Crc.run f k:Nat)) (fun _ x=>n-(intOf x).toNat)
 case atStart=>exact⟨0,c9D _,rfl,rfl⟩
 case round=>
  obtain⟨k,hk,rfl,rfl⟩:=hrel;by_cases A1:k<n
  ·have A2:(k:Int)<(n:Int):=by omega
   have t:=hc k A1;have A3:=hf k;have hx:=a7B (Crc.run f k) (f k) (Crc.qY hf k) (by omega);have hy:Crc.run f k^^^f k<4294967296:=Crc.b4D (Crc.qY hf k) (by omega);have HZ:Hid (Crc.run f (k+1)=Crc.fO 8 (Crc.run f k^^^f k)):=rfl;generalize Crc.run f k^^^f k=y at hx hy HZ;clear hc;go_wp2_with fail;go_loop [3,16] (fun c x=> ∃j:Nat,j≤8∧x=iV j∧c=.int .u32 (Crc.fO j y:Nat)) (fun _ x=>8-(intOf x).toNat)
   case atStart=>exact⟨0,c9D _,rfl,rfl⟩
   case round=>
    obtain⟨j,hj,rfl,rfl⟩:=hrel;by_cases A4:j<8
    ·have A0:(j:Int)<8:=by omega
     go_wp2_with fail;refine(a9A _ _ (Crc.l6 hy j)).mono ?_;rintro e w1 ⟨rfl,rfl⟩;go_wp2_with fail;exact⟨⟨j+1,by omega,by go_num,rfl⟩,by simp[intOf];omega⟩
    ·have e8:j=8:=by omega
     subst e8;go_wp2_with fail;exact⟨⟨k+1,by omega,by go_num,by rw[HZ.out]⟩,by simp[intOf];omega⟩
  ·have e8:k=n:=by omega
   subst e8;clear hc;go_wp2_with fail;go_ret
   refine⟨aH (?_:bits .xor .u32 IntKind.u32.max (Crc.run f k:Nat)=_),rfl⟩;rw[show IntKind.u32.max=((4294967295:Nat):Int) by decide,a7B _ _ (by decide) (Crc.qY hf k),Nat.xor_comm];rfl
theorem c1I(A:Option Addr)(cap:Nat)(f:Nat→Nat)(w:World):
  Calls prog 148 #[.slice A 0 cap] w fun e w'=>e=.returned (.int .u32 (Crc.sum f 0:Nat))∧w'=w:=by
 go_enter func148,ntmps148
 go_wp2_with fail;refine wp_loop_rounds 1 ?_;rw[rounds_succ];go_wp2_with fail;go_ret
 refine⟨aH (?_:bits .xor .u32 IntKind.u32.max 4294967295=_),rfl⟩;rw[show Crc.sum f 0=0 from c9V 4294967295];decide
theorem c4K(v:Value)(n:Nat)(f:Nat→Nat)(w:World)(h:cF w v n f):
  Calls prog 148 #[v] w fun e w'=>e=.returned (.int .u32 (Crc.sum f n:Nat))∧w'=w:=by
 by_cases hn:1≤n
 ·obtain⟨b,o,A0,rfl,_,_,hc⟩:=h.some hn;exact zE b o n A0 f w h.bd h.len hc
 ·obtain rfl:n=0:=by omega
  obtain⟨A,A0,rfl⟩:=h.zero;exact c1I A A0 f w
theorem c3F(c:Nat)(hc:c<4294967296):bits .xor .u32 ((c:Int)/2) ((c:Int)%2*2197175160)=((Crc.nI c:Nat):Int):=by
 rcases Nat.mod_two_eq_zero_or_one c with e|e
 ·rw[a3A (by omega),show(c:Int)%2*2197175160=((0:Nat):Int) by omega,show(c:Int)/2=((c/2:Nat):Int) by omega,a7B _ _ (by omega) (by decide),d0R]
 ·rw[a7C e,show(c:Int)%2*2197175160=((2197175160:Nat):Int) by omega,show(c:Int)/2=((c/2:Nat):Int) by omega,a7B _ _ (by omega) (by decide)]
theorem oG(b o n cap:Nat)(f:Nat→Nat)(w:World)(hf:Bd f)(hn:n≤9223372036854775807)(hc: ∀i,i<n→w.cell? (aD b (o+i))=some (.int .u8 (f i:Nat))):
  Calls prog 127 #[.slice (some (aD b o)) n cap] w fun e w'=>e=.returned (.int .u32 (Crc.sum f n:Nat))∧w'=w:=by
 go_enter func127,ntmps127
 go_wp2_with fail;go_loop [3,10] (fun c x=> ∃k:Nat,k≤n∧x=iV k∧c=.int .u32 (Crc.run f k:Nat)) (fun _ x=>n-(intOf x).toNat)
 case atStart=>exact⟨0,c9D _,rfl,rfl⟩
 case round=>
  obtain⟨k,hk,rfl,rfl⟩:=hrel;by_cases A2:k<n
  ·have A4:(k:Int)<(n:Int):=by omega
   have t:=hc k A2;have A6:=hf k;have A1:=Crc.qY hf k;have hx:=a7B (Crc.run f k) (f k) A1 (by omega);have hy:Crc.run f k^^^f k<4294967296:=Crc.b4D A1 (by omega);have HZ:Hid (Crc.run f (k+1)=Crc.run f k/256^^^Crc.fO 8 ((Crc.run f k^^^f k)%256)):=by
    show Crc.step (Crc.run f k) (f k)=_;rw[Crc.b0P,Nat.xor_comm];congr 1;have h8:(Crc.run f k^^^f k)/2^8=Crc.run f k/2^8^^^f k/2^8:=Nat.xor_div_two_pow;rw[show f k/2^8=0 by omega,d0R]at h8;exact h8
   have hm:bits .and .u32 ((Crc.run f k^^^f k:Nat):Int) 255=(((Crc.run f k^^^f k)%256:Nat):Int):=by
    rw[show(255:Int)=((255:Nat):Int)from rfl,u32_and_nat _ 255 hy (by decide),nat_mask8]
   have hl:(Crc.run f k^^^f k)%256<4294967296:=by omega
   generalize Crc.run f k^^^f k=y at hx hy HZ hm hl;generalize y%256=z at HZ hm hl;clear hc;go_wp2_with fail;go_loop [6,7] (fun c x=> ∃j:Nat,j≤8∧x=iV j∧c=.int .u32 (Crc.fO j z:Nat)) (fun _ x=>8-(intOf x).toNat)
   case atStart=>exact⟨0,c9D _,rfl,rfl⟩
   case round=>
    obtain⟨j,hj,rfl,rfl⟩:=hrel;by_cases A7:j<8
    ·have A5:(j:Int)<8:=by omega
     have hq:=Crc.l6 hl j;have A8:bits .and .u32 ((Crc.fO j z:Nat):Int) 1=((Crc.fO j z%2:Nat):Int):=by
      rw[show(1:Int)=((1:Nat):Int)from rfl,u32_and_nat _ 1 hq (by decide),nat_mask1]
     have HM:=hd8 (c3F _ hq);go_wp2_with fail;exact⟨⟨j+1,by omega,by go_num,cA HM.out⟩,by simp[intOf];omega⟩
    ·have e8:j=8:=by omega
     subst e8;have hq:=Crc.l6 hl 8;have A3:bits .xor .u32 ((Crc.run f k:Int)/256) ((Crc.fO 8 z:Nat):Int)=((Crc.run f (k+1):Nat):Int):=by
      rw[HZ.out,←a7B _ _ (by omega) hq];rfl
     have HE: ∃r',r'=Crc.run f (k+1):=⟨_,rfl⟩;obtain⟨r',A0⟩:=HE;rw[←A0]at A3;have HR:=hd8 A0;clear A0;go_wp2_with fail;exact⟨⟨k+1,by omega,by go_num,cA (by rw[HR.out])⟩,by simp[intOf];omega⟩
  ·have e8:k=n:=by omega
   subst e8;clear hc;have hz:bits .xor .u32 ((Crc.run f k:Nat):Int) 4294967295=((Crc.sum f k:Nat):Int):=a7B _ 4294967295 (Crc.qY hf k) (by decide);go_wp2_with fail;go_ret
   exact⟨rfl,rfl⟩
theorem a9J(A:Option Addr)(cap:Nat)(f:Nat→Nat)(w:World):
  Calls prog 127 #[.slice A 0 cap] w fun e w'=>e=.returned (.int .u32 (Crc.sum f 0:Nat))∧w'=w:=by
 go_enter func127,ntmps127
 go_wp2_with fail;refine wp_loop_rounds 1 ?_;rw[rounds_succ];go_wp2_with fail;go_ret
 refine⟨aH (?_:bits .xor .u32 4294967295 4294967295=_),rfl⟩;rw[show Crc.sum f 0=0 from c9V 4294967295];decide
theorem b1B(v:Value)(n:Nat)(f:Nat→Nat)(w:World)(h:cF w v n f):
  Calls prog 127 #[v] w fun e w'=>e=.returned (.int .u32 (Crc.sum f n:Nat))∧w'=w:=by
 by_cases hn:1≤n
 ·obtain⟨b,o,A0,rfl,_,_,hc⟩:=h.some hn;exact oG b o n A0 f w h.bd h.len hc
 ·obtain rfl:n=0:=by omega
  obtain⟨A,A0,rfl⟩:=h.zero;exact a9J A A0 f w
end Go.Proofs.YtmcaejooaaahdaaGreat
