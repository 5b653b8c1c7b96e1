import Derived.Test.YtmcaejooaaahdaaGreatZ03
import Derived.Test.YtmcaejooaaahdaaGreatZ05
import Derived.Deep.RegionHeld3
import Derived.Deep.Matrix
set_option maxHeartbeats 8000000
set_option maxRecDepth 100000
namespace Go.Proofs.YtmcaejooaaahdaaGreat
open Go.Proofs.Tryz
variable {G K L:Nat→Nat} {N a b c cols j k n rows:Nat} {f f':Nat→Nat→Nat} {t:TypeId} {v:Value} {w w':World}
open Go.RowKit
theorem c4L(a:Int)(w:World)(h0:0≤a)(h1:a≤255):
  Calls prog 177 #[.int .u8 a] w fun e w'=>e=.returned (.int .u8 (Gf.nJ a 254))∧Bl w w':=by
 go_enter func177,ntmps177
 go_wp2_with fail;refine(b5S _ _ _ h0 h1 (by decide) (by decide)).mono ?_;rintro e w1 ⟨rfl,hb⟩;go_wp2_with fail;go_ret
 exact⟨rfl,hb⟩
theorem uK{S:Nat→Prop}{f:Nat→Value}(h:w.rowIs b t n f)(o:Off S w w')(hb: ¬S b):w'.rowIs b t n f:=h.of_block (o.block b h.lt hb)
theorem d9{f:Nat→Value}(h:w.rowIs b t n f)(o:Bl w w'):w'.rowIs b t n f:=h.of_block (o.block b h.lt)
structure jW(w:World)(b o n c:Nat)(G O K:Nat→Nat)(f:Nat→Nat→Nat):Prop where
 top: ∀r,r<n→w.cell? (aD b (o+r))=some (.slice (some ⟨G r,O r,none⟩) c (K r))
 row: ∀r,r<n→ ∀k,k<c→w.cell? ⟨G r,O r+k,none⟩=some (.int .u8 (f r k:Nat))
theorem jW.bE{o:Nat}{O:Nat→Nat}(h:jW w b o n c G O K f)(hb:Bl w w'):jW w' b o n c G O K f:=
  ⟨fun r hr=>by rw[hb.cell (p:=⟨b,o+r,none⟩) (World.block_lt_of_cell? _ _ (h.top r hr))];exact h.top r hr,
   fun r hr k hk=>by rw[hb.cell (p:=⟨G r,O r+k,none⟩) (World.block_lt_of_cell? _ _ (h.row r hr k hk))];exact h.row r hr k hk⟩
structure Own(w:World)(N b n c:Nat)(G:Nat→Nat)(f:Nat→Nat→Nat):Prop where
 top:w.rowIs b 59 n (fun r=> .slice (some ⟨G r,0,none⟩) c c)
 row: ∀r,r<n→w.rowIs (G r) 5 c (fun k=> .int .u8 (f r k:Nat))
 lob:N≤b
 low: ∀r,r<n→N≤G r
 apart: ∀r,r<n→G r≠b
 inj: ∀r s,r<n→s<n→r≠s→G r≠G s
theorem Own.bE(h:Own w N b n c G f)(hb:Bl w w'):Own w' N b n c G f:=
 ⟨d9 h.top hb,fun r hr=>d9 (h.row r hr) hb,h.lob,h.low,h.apart,h.inj⟩
theorem Own.lower{M:Nat}(h:Own w N b n c G f)(hM:M≤N):Own w M b n c G f:=
 ⟨h.top,h.row,c9E hM h.lob,fun r hr=>c9E hM (h.low r hr),h.apart,h.inj⟩
theorem Own.mat(h:Own w N b n c G f):jW w b 0 n c G (fun _=>0) (fun _=>c) f:=
 ⟨fun r hr=>by rw[c9G];exact h.top.cell hr,fun r hr k hk=>by rw[c9G];exact(h.row r hr).cell hk⟩
def wH(b n:Nat)(G:Nat→Nat)(k:Nat):Prop:=k=b∨ ∃r,r<n∧k=G r
theorem a5Q(a b:Nat):Gf.nX (a:Int) (b:Int)=((Gf.mul a b:Nat):Int):=by
 unfold Gf.nX;rw[c9Q,c9Q]
theorem pQ(ha:a<256)(hb:b<256):bits .xor .u8 (a:Int) (b:Int)=((a^^^b:Nat):Int):=by
 rw[u8_xor _ _ (by omega) (by omega) (by omega) (by omega),c9Q,c9Q]
theorem a3L(a b:Nat)(w:World)(ha:a<256)(hb:b<256):
  Calls prog 164 #[.int .u8 a,.int .u8 b] w fun e w'=>e=.returned (.int .u8 ((Gf.mul a b:Nat):Int))∧Bl w w':=by
 rw[←a5Q];exact a4O _ _ _ (by omega) (by omega) (by omega) (by omega)
theorem b4L(a:Nat)(w:World)(ha:a<256):
  Calls prog 177 #[.int .u8 a] w fun e w'=>e=.returned (.int .u8 ((Gf.inv a:Nat):Int))∧Bl w w':=by
 have h:Gf.nJ (a:Int) 254=((Gf.inv a:Nat):Int):=by
  unfold Gf.nJ Gf.inv;rw[c9Q];rfl
 rw[←h];exact c4L _ _ (by omega) (by omega)
theorem wB(i j:Nat)(w:World):
  Calls prog 170 #[iV i,iV j] w fun e w'=>e=.returned (.int .u8 ((Gf.one i j:Nat):Int))∧Bl w w':=by
 by_cases h:i=j
 ·subst h;have H:=hd8 (Gf.kT i);go_enter func170,ntmps170
  go_wp2_with fail;go_ret
  exact⟨aH (by rw[H.out];rfl),Below.refl _ _⟩
 ·have H:=hd8 (Gf.gU h);have h':((i:Int)==(j:Int))=false:=by rw[beq_eq_false_iff_ne];omega
  clear h;go_enter func170,ntmps170
  go_wp2_with fail;go_ret
  exact⟨aH (by rw[H.out];rfl),Below.refl _ _⟩
def dW(k:Nat)(g f:Nat→Nat)(j:Nat):Nat:=if j<k then g j else f j
theorem a2F(k:Nat)(g f:Nat→Nat)(j:Nat):dW (k+1) g f j=if j=k then g k else dW k g f j:=by
 unfold dW;by_cases h:j=k
 ·subst h;rw[if_pos (by omega),if_pos rfl]
 ·rw[if_neg h];by_cases h':j<k
  ·rw[if_pos h',if_pos (by omega)]
  ·rw[if_neg h',if_neg (by omega)]
theorem pZ(k:Nat)(g f:Nat→Nat):dW k g f k=f k:=if_neg (d0V _)
theorem mI{g:Nat}{f h:Nat→Nat}(hr:w.rowIs g t n (fun j=> .int .u8 (dW k h f j:Nat))):
  (w.setCell (aD g k) (.int .u8 (h k:Nat))).rowIs g t n (fun j=> .int .u8 (dW (k+1) h f j:Nat)):=
 (hr.set k _).congr (fun j _=>by
  rw[a2F]
  by_cases e:j=k
  ·rw[if_pos e,if_pos e]
  ·rw[if_neg e,if_neg e])
theorem b5F(g n x:Nat)(f:Nat→Nat)(w:World)(hr:w.rowIs g 5 n (fun k=> .int .u8 (f k:Nat)))(hf:Gf.Bd f)(hx:x<256)(hn:n≤10000):
  Calls prog 182 #[.slice (some (aD g 0)) n n,.int .u8 x] w fun e w'=>e=.returned (.tuple #[])∧w'.rowIs g 5 n (fun k=> .int .u8 (Gf.mul (f k) x:Nat))∧Off (fun k=>k=g) w w':=by
 go_enter func182,ntmps182
 go_wp2_with fail;go_loopw [7] (fun i wr=> ∃k:Nat,k≤n∧i=iV k∧wr.rowIs g 5 n (fun j=> .int .u8 (dW k (fun j=>Gf.mul (f j) x) f j:Nat))∧Off (fun k=>k=g) w wr) (fun i _=>n-(intOf i).toNat)
 case atStart=>exact⟨0,c9D _,rfl,hr,Off.refl _ _⟩
 case round=>
  obtain⟨k,hk,rfl,hw,ho⟩:=hrel;by_cases A2:k<n
  ·have A4:(k:Int)<(n:Int):=by omega
   have hc:=hw.cell A2;have A6:=hw.frozen k;rw[pZ]at hc;go_wp2_with fail;refine(a3L _ _ _ (hf k) hx).mono ?_;rintro e w1 ⟨rfl,A1⟩;have A0:=d9 hw A1;have A5:=A0.cell A2;have A3:=A0.frozen k;go_wp2_with fail;exact⟨⟨k+1,by omega,by go_num,mI A0,(ho.trans (Off.oE A1)).set rfl _⟩,by simp[intOf];omega⟩
  ·have e8:k=n:=by omega
   subst e8;go_wp2_with fail;go_end0
   exact⟨rfl,hw.congr (fun j hj=>by rw[show dW k (fun j=>Gf.mul (f j) x) f j=Gf.mul (f j) x from if_pos hj]),ho⟩
theorem a3V(g q n x:Nat)(f p:Nat→Nat)(w:World)(hr:w.rowIs g 5 n (fun k=> .int .u8 (f k:Nat)))(hp:w.rowIs q 5 n (fun k=> .int .u8 (p k:Nat)))(hne:g≠q)(hf:Gf.Bd f)(hpb:Gf.Bd p)(hx:x<256)(hn:n≤10000):
  Calls prog 183 #[.slice (some (aD g 0)) n n,.slice (some (aD q 0)) n n,.int .u8 x] w fun e w'=>e=.returned (.tuple #[])∧w'.rowIs g 5 n (fun k=> .int .u8 (f k^^^Gf.mul (p k) x:Nat))∧Off (fun k=>k=g) w w':=by
 go_enter func183,ntmps183
 go_wp2_with fail;go_loopw [9] (fun i wr=> ∃k:Nat,k≤n∧i=iV k∧wr.rowIs g 5 n (fun j=> .int .u8 (dW k (fun j=>f j^^^Gf.mul (p j) x) f j:Nat))∧Off (fun k=>k=g) w wr) (fun i _=>n-(intOf i).toNat)
 case atStart=>exact⟨0,c9D _,rfl,hr,Off.refl _ _⟩
 case round=>
  obtain⟨k,hk,rfl,hw,ho⟩:=hrel;by_cases A0:k<n
  ·have A5:(k:Int)<(n:Int):=by omega
   have hc:=hw.cell A0;have A8:=hw.frozen k;rw[pZ]at hc;have hq:=uK hp ho (fun e=>hne e.symm);have A7:=hq.cell A0;have A6:=pQ (hf k) (Gf.dN x (hpb k));go_wp2_with fail;go_region_with (go_at_call 164;refine(a3L _ _ _ (hpb k) hx).mono ?_;rintro e w1 ⟨rfl,A2⟩;have A1:=d9 hw.drew A2;have A3:=A1.cell A0;have A4:=A1.frozen k;rw[pZ]at A3)
   all_goals go_wp2_with fail
   all_goals exact⟨⟨k+1,by omega,by go_num,mI (h:=fun j=>f j^^^Gf.mul (p j) x) A1,(ho.drew.trans (Off.oE A2)).set rfl _⟩,by simp[intOf];omega⟩
  ·have e8:k=n:=by omega
   subst e8;go_wp2_with fail;go_end0
   exact⟨rfl,hw.congr (fun j hj=>by rw[show dW k (fun j=>f j^^^Gf.mul (p j) x) f j=f j^^^Gf.mul (p j) x from if_pos hj]),ho⟩
theorem jN{a b:Bool}(h:a=b):Ending.returned (.bool a)=.returned (.bool b):=by rw[h]
def uV(g:Nat)(l:Value)(n:Nat)(V:Nat→Value)(p:Nat→Bool)(w:World):Prop:=
 ∀r,r<n→ ∀W,Bl w W→Calls prog g #[V r,l] W fun e w'=>e=.returned (.bool (p r))∧Bl W w'
def a4H(n:Nat)(p:Nat→Bool)(i:Int):Prop:=(i= -1∧ ∀r,r<n→p r=false)∨ ∃r:Nat,r<n∧i=(r:Int)∧p r=true∧ ∀s,s<r→p s=false
theorem rA(g b o n cap:Nat)(l:Value)(V:Nat→Value)(p:Nat→Bool)(w:World)(eg: ∀args w,(callFunc g args).run prog w=.ok (.enter g args) w)
  (hc: ∀r,r<n→w.cell? (aD b (o+r))=some (V r)) (hp:uV g l n V p w) (hn:n≤10000):
  Calls prog 178 #[.slice (some (aD b o)) n cap,.func (.func g) #[] #[l]] w fun e w'=> ∃i:Int,e=.returned (iV i)∧a4H n p i∧Bl w w':=by
 go_enter func178,ntmps178
 go_wp2_with fail;go_loopw [8] (fun i wr=> ∃k:Nat,k≤n∧i=iV k∧(∀s,s<k→p s=false)∧Bl w wr) (fun i _=>n-(intOf i).toNat)
 case atStart=>exact⟨0,c9D _,rfl,fun s hs=>absurd hs (c9L s),Below.refl _ _⟩
 case round=>
  obtain⟨k,hk,rfl,hs,hb⟩:=hrel;have HS:=hd8 hs;clear hs;by_cases A3:k<n
  ·have A6:(k:Int)<(n:Int):=by omega
   have A2:=hc k A3;have A5:=World.block_lt_of_cell? _ _ A2;have A7:=(hb.cell (p:=⟨b,o+k,none⟩) A5).trans A2;have HC:=hd8 hc;clear hc A2;have A0:=hp k A3 wr hb;by_cases hy:p k=true
   ·rw[hy]at A0;go_wp2_with fail;refine A0.mono ?_;rintro e w1 ⟨rfl,A1⟩;go_wp2_with fail;go_ret
    exact⟨_,rfl,Or.inr ⟨k,A3,rfl,hy,HS.out⟩,hb.trans (A1.mono hb.size)⟩
   ·have A4:p k=false:=by simpa using hy
    rw[A4]at A0;clear hy;go_wp2_with fail;refine A0.mono ?_;rintro e w1 ⟨rfl,A1⟩;go_wp2_with fail;refine⟨⟨k+1,by omega,by go_num,fun s hs=>?_,hb.trans (A1.mono hb.size)⟩,by simp[intOf];omega⟩;by_cases e:s=k
    ·rw[e];exact A4
    ·exact HS.out s (by omega)
  ·have e8:k=n:=by omega
   subst e8;go_wp2_with fail;go_ret
   exact⟨_,rfl,Or.inl ⟨rfl,HS.out⟩,hb⟩
theorem a0E(g b o n cap:Nat)(l:Value)(V:Nat→Value)(p:Nat→Bool)(w:World)(eg: ∀args w,(callFunc g args).run prog w=.ok (.enter g args) w)
  (hc: ∀r,r<n→w.cell? (aD b (o+r))=some (V r)) (hp:uV g l n V p w) (hn:n≤10000):
  Calls prog 161 #[.slice (some (aD b o)) n cap,.func (.func g) #[] #[l]] w fun e w'=> ∃y:Bool,e=.returned (.bool y)∧(y=true↔ ∃r,r<n∧p r=true)∧Bl w w':=by
 go_enter func161,ntmps161
 go_wp2_with fail;refine(rA g b o n cap l V p w eg hc hp hn).mono ?_;rintro e w1 ⟨i,rfl,hi,hb⟩;clear hc hp;go_wp2_with fail;go_ret
 refine⟨_,rfl,?_,hb⟩;rcases hi with⟨rfl,h⟩|⟨r,hr,rfl,h,_⟩
 ·exact⟨fun e=>absurd e (by decide),fun⟨r,hr,he⟩=>by rw[h r hr]at he;exact absurd he (by decide)⟩
 ·exact⟨fun _=>⟨r,hr,h⟩,fun _=>by simp⟩
structure Arg(w:World)(v:Value)(n:Nat)(L:Nat→Nat)(f:Nat→Nat→Nat):Prop where
 bd:Gf.Bd2 f
 lies: ∃(A:Option Addr) (cap:Nat) (R:Nat→Option Addr) (C:Nat→Nat),v=.slice A n cap∧
  ∀r,r<n→ ∃b o,A=some (aD b o)∧w.cell? (aD b (o+r))=some (.slice (R r) (L r) (C r))∧ ∀k,k<L r→ ∃b' o',R r=some (aD b' o')∧w.cell? (aD b' (o'+k))=some (.int .u8 (f r k:Nat))
theorem Arg.bE(h:Arg w v n L f)(hb:Bl w w'):Arg w' v n L f:=by
 obtain⟨A,A0,R,C,hv,hr⟩:=h.lies;refine⟨h.bd,A,A0,R,C,hv,fun r hrn=>?_⟩;obtain⟨b,o,h1,h2,h3⟩:=hr r hrn;refine⟨b,o,h1,by rw[hb.cell (p:=⟨b,o+r,none⟩) (World.block_lt_of_cell? _ _ h2)];exact h2,fun k hk=>?_⟩;obtain⟨b',o',h4,h5⟩:=h3 k hk;exact⟨b',o',h4,by rw[hb.cell (p:=⟨b',o'+k,none⟩) (World.block_lt_of_cell? _ _ h5)];exact h5⟩
def aB(n:Nat)(L:Nat→Nat):Nat:=if n<1∨12<n∨L 0<1∨400<L 0 then 5 else if∀r,r<n→L r=L 0 then 0 else 2
theorem a8Y(h:aB n L=0):1≤n∧n≤12∧1≤L 0∧L 0≤400∧ ∀r,r<n→L r=L 0:=by
 unfold aB at h;split at h
 ·cases h
 ·split at h
  ·rename_i h1 h2;exact⟨by omega,by omega,by omega,by omega,h2⟩
  ·cases h
theorem f9(h1:1≤n)(h2:n≤12)(h3:1≤L 0)(h4:L 0≤400)(h5: ∀r,r<n→L r=L 0):aB n L=0:=by
 unfold aB;rw[if_neg (by omega),if_pos h5]
theorem a3H(A:Option Addr)(l c B m:Nat)(w:World)(hc:w.cell? (aD B 0)=some (iV m)):
  Calls prog 160 #[.slice A l c,.pointer (some (aD B 0))] w fun e w'=>e=.returned (.bool (decide (l≠m)))∧Bl w w':=by
 by_cases h:l=m
 ·subst h;have H:Hid (decide (l≠l)=false):=by show decide (l≠l)=false;simp
  go_enter func160,ntmps160
  go_wp2_with fail;go_ret
  exact⟨jN H.out.symm,Below.refl _ _⟩
 ·have H:Hid (decide (l≠m)=true):=by show decide (l≠m)=true;simpa using h
  have h':((l:Int)==(m:Int))=false:=by rw[beq_eq_false_iff_ne];omega
  clear h;go_enter func160,ntmps160
  go_wp2_with fail;go_ret
  exact⟨jN (by rw[H.out];simp[bne,h']),Below.refl _ _⟩
theorem Tryz.enters_otherLen: ∀args w,(callFunc 160 args).run Tryz.prog w=.ok (.enter 160 args) w:=enters_of Tryz.func160 (by kernel_rfl) rfl
theorem lW(v:Value)(n:Nat)(L:Nat→Nat)(f:Nat→Nat→Nat)(w:World)(h:Arg w v n L f):
  Calls prog 136 #[v] w fun e w'=>e=.returned (iV (aB n L:Nat))∧Below w.heap.size w w':=by
 obtain⟨A,A4,R,C,rfl,hr⟩:=h.lies;clear h;by_cases h1:n<1
 ·have H:Hid (aB n L=5):=by show aB n L=5;unfold aB;rw[if_pos (Or.inl h1)]
  have A1:(n:Int)<1:=by omega
  clear hr h1;go_enter func136,ntmps136
  go_wp2_with fail;go_ret
  exact⟨aH (by rw[H.out];rfl),Below.refl _ _⟩
 by_cases h2:12<n
 ·have H:Hid (aB n L=5):=by show aB n L=5;unfold aB;rw[if_pos (Or.inr (Or.inl h2))]
  have A1: ¬(n:Int)<1:=by omega
  have A5:(12:Int)<(n:Int):=by omega
  clear hr h1 h2;go_enter func136,ntmps136
  go_wp2_with fail;go_ret
  exact⟨aH (by rw[H.out];rfl),Below.refl _ _⟩
 obtain⟨b,o,rfl,A0,_⟩:=hr 0 (by omega);have hc: ∀r,r<n→w.cell? (aD b (o+r))=some (.slice (R r) (L r) (C r)):=fun r hrn=>by
  obtain⟨b',o',e1,e2,_⟩:=hr r hrn;cases e1
  exact e2
 clear hr;have A7:=World.block_lt_of_cell? _ _ A0;have A1: ¬(n:Int)<1:=by omega
 have A5: ¬(12:Int)<(n:Int):=by omega
 have Aa:(0:Int)<(n:Int):=by omega
 have A9:w.cell? (aD b o)=some (.slice (R 0) (L 0) (C 0)):=by simpa using A0
 clear A0;by_cases h3:L 0<1
 ·have H:Hid (aB n L=5):=by show aB n L=5;unfold aB;rw[if_pos (Or.inr (Or.inr (Or.inl h3)))]
  have A2:(L 0:Int)<1:=by omega
  clear h1 h2 h3 hc;go_enter func136,ntmps136
  go_wp2_with fail;go_ret
  exact⟨aH (by rw[H.out];rfl),aB8 _ _⟩
 by_cases h4:400<L 0
 ·have H:Hid (aB n L=5):=by show aB n L=5;unfold aB;rw[if_pos (Or.inr (Or.inr (Or.inr h4)))]
  have A2: ¬(L 0:Int)<1:=by omega
  have A6:(400:Int)<(L 0:Int):=by omega
  clear h1 h2 h3 h4 hc;go_enter func136,ntmps136
  go_wp2_with fail;go_ret
  exact⟨aH (by rw[H.out];rfl),aB8 _ _⟩
 have A2: ¬(L 0:Int)<1:=by omega
 have A6: ¬(400:Int)<(L 0:Int):=by omega
 have hn:n≤10000:=by omega
 have HL:Hid (¬(n<1∨12<n∨L 0<1∨400<L 0)):=by show¬_;omega
 have HC:=hd8 hc;clear h1 h2 h3 h4 hc;go_enter func136,ntmps136
 go_wp2_with fail;refine(a0E 160 b o n A4 _ (fun r=> .slice (R r) (L r) (C r)) (fun r=>decide (L r≠L 0)) _ Tryz.enters_otherLen ?_ ?_ hn).mono ?_
 ·intro r hr;exact(((Below.refl w.heap.size w).alloc (c9C _) _).cell (p:=⟨b,o+r,none⟩) A7).trans (HC.out r hr)
 ·intro r hr W hW;refine a3H (R r) (L r) (C r) w.heap.size (L 0) W ?_;rw[hW.cell (p:=⟨w.heap.size,0,none⟩) (by simp)];simp
 rintro e w1 ⟨y,rfl,hy,A8⟩;have A3:Below w.heap.size w w1:=((Below.refl w.heap.size w).alloc (c9C _) _).trans (A8.mono (by simp));cases y with
 |true=>
  have H:Hid (aB n L=2):=by
   obtain⟨r,hr,he⟩:=hy.1 rfl;show aB n L=2;unfold aB;rw[if_neg HL.out,if_neg (fun h=>of_decide_eq_true he (h r hr))]
  clear hy;go_wp2_with fail;go_ret
  exact⟨aH (by rw[H.out];rfl),A3⟩
 |false=>
  have H:Hid (aB n L=0):=by
   show aB n L=0;unfold aB;rw[if_neg HL.out,if_pos (fun r hr=>Classical.byContradiction fun hne=>absurd (hy.2 ⟨r,hr,decide_eq_true hne⟩) (by decide))]
  clear hy;go_wp2_with fail;go_ret
  exact⟨aH (by rw[H.out];rfl),A3⟩
theorem Tryz.infoRow:(Tryz.prog.info? 59).map (fun i=>(i.zero,i.size,i.bytes))=some (some nS,1,24):=by kernel_rfl
def a1B(r cols:Nat)(G:Nat→Nat)(i:Nat):Value:=if i<r then .slice (some ⟨G i,0,none⟩) cols cols else nS
def lS(G:Nat→Nat)(r g i:Nat):Nat:=if i=r then g else G i
structure c0P(w:World)(b rows cols r:Nat)(G:Nat→Nat)(f:Nat→Nat→Nat):Prop where
 top:w.rowIs b 59 rows (a1B r cols G)
 row: ∀i,i<r→w.rowIs (G i) 5 cols (fun k=> .int .u8 (f i k:Nat))
 low: ∀i,i<r→b<G i
 inj: ∀i j,i<r→j<r→i≠j→G i≠G j
structure xD(w:World)(b rows cols r j:Nat)(G:Nat→Nat)(f:Nat→Nat→Nat):Prop where
 top:w.rowIs b 59 rows (a1B (r+1) cols G)
 row: ∀i,i<r→w.rowIs (G i) 5 cols (fun k=> .int .u8 (f i k:Nat))
 cur:w.rowIs (G r) 5 cols (fun k=> .int .u8 (dW j (f r) (fun _=>0) k:Nat))
 low: ∀i,i<r+1→b<G i
 inj: ∀i j,i<r+1→j<r+1→i≠j→G i≠G j
theorem a9T(w:World)(rows cols:Nat)(G:Nat→Nat)(f:Nat→Nat→Nat):c0P (w.alloc (.cells (madeCells #[nS] rows) 59)) w.heap.size rows cols 0 G f:=
 ⟨(World.rowIs_made w _ rows 59).congr (fun j _=>by unfold a1B;rw[if_neg (c9L _)]),fun i hi=>absurd hi (c9L _),fun i hi=>absurd hi (c9L _),fun i _ hi=>absurd hi (c9L _)⟩
theorem b2I{r:Nat}(h:c0P w b rows cols r G f):
  xD ((w.setCell (aD b r) (.slice (some (aD w.heap.size 0)) cols cols)).alloc (.cells (madeCells #[.int .u8 0] cols) 5)) b rows cols r 0 (lS G r w.heap.size) f:=by
 have A0:=World.rowIs_made (w.setCell (aD b r) (.slice (some (aD w.heap.size 0)) cols cols)) (.int .u8 0) cols 5;rw[Deep.nblk_setCell]at A0;have A2:=h.top.lt;have e1: ∀i,i<r→lS G r w.heap.size i=G i:=fun i hi=>if_neg (by omega);have e2:lS G r w.heap.size r=w.heap.size:=if_pos rfl;refine⟨((h.top.set r _).alloc _).congr (fun j _=>?_),fun i hi=>?_,?_,fun i hi=>?_,fun i j hi hj hne=>?_⟩
 ·unfold a1B;by_cases e:j=r
  ·subst e;rw[if_pos rfl,if_pos (by omega),e2]
  ·rw[if_neg e];by_cases A1:j<r
   ·rw[if_pos A1,if_pos (by omega),e1 j A1]
   ·rw[if_neg A1,if_neg (by omega)]
 ·rw[e1 i hi];exact((h.row i hi).setOther (by have:=h.low i hi;show G i≠b;omega) _).alloc _
 ·rw[e2];exact A0.congr (fun k _=>by show _=Value.int .u8 ((dW 0 (f r) (fun _=>0) k:Nat):Int);unfold dW;rw[if_neg (c9L _)];rfl)
 ·by_cases e:i=r
  ·rw[e,e2];exact A2
  ·rw[e1 i (by omega)];exact h.low i (by omega)
 ·by_cases ei:i=r
  ·rw[ei,e2,e1 j (by omega)];have:=(h.row j (by omega)).lt;omega
  ·by_cases ej:j=r
   ·rw[ej,e2,e1 i (by omega)];have:=(h.row i (by omega)).lt;omega
   ·rw[e1 i (by omega),e1 j (by omega)];exact h.inj i j (by omega) (by omega) hne
theorem xD.bE{r:Nat}(h:xD w b rows cols r j G f)(hb:Bl w w'):xD w' b rows cols r j G f:=
 ⟨d9 h.top hb,fun i hi=>d9 (h.row i hi) hb,d9 h.cur hb,h.low,h.inj⟩
theorem xD.drew{r:Nat}(h:xD w b rows cols r j G f):xD w.drew b rows cols r j G f:=⟨h.top,h.row,h.cur,h.low,h.inj⟩
theorem b7C{r:Nat}(h:xD w b rows cols r j G f):xD (w.setCell ⟨G r,j,none⟩ (.int .u8 (f r j:Nat))) b rows cols r (j+1) G f:=
 ⟨h.top.setOther (by have:=h.low r (by omega);show b≠G r;omega) _,fun i hi=>(h.row i hi).setOther (h.inj i r (by omega) (by omega) (by omega)) _,mI h.cur,h.low,h.inj⟩
theorem b6Q{r:Nat}(h:xD w b rows cols r cols G f):c0P w b rows cols (r+1) G f:=
 ⟨h.top,fun i hi=>by
  by_cases e:i=r
  ·rw[e]
   exact h.cur.congr (fun k hk=>by rw[show dW cols (f r) (fun _=>0) k=f r k from if_pos hk])
  ·exact h.row i (by omega),h.low,h.inj⟩
theorem c3B(h:c0P w b rows cols rows G f):Own w b b rows cols G f:=
 ⟨h.top.congr (fun i hi=>if_pos hi),h.row,c9C _,fun r hr=>d2B (h.low r hr),fun r hr=>by have:=h.low r hr;omega,h.inj⟩
def c0G(g:Nat)(lb:Array Value)(rows cols:Nat)(f:Nat→Nat→Nat)(w:World):Prop:=
 ∀i,i<rows→ ∀j,j<cols→ ∀W,Bl w W→Calls prog g (#[iV i,iV j]++lb) W fun e w'=>e=.returned (.int .u8 (f i j:Nat))∧Bl W w'
theorem mS(g rows cols:Nat)(lb:Array Value)(f:Nat→Nat→Nat)(w:World)(eg: ∀args w,(callFunc g args).run prog w=.ok (.enter g args) w)
  (hcell:c0G g lb rows cols f w) (hr:rows≤1000) (hc:cols≤1000):
  Calls prog 162 #[iV rows,iV cols,.func (.func g) #[] lb] w fun e w'=>
   e=.returned (.slice (some (aD w.heap.size 0)) rows rows)∧(∃G,Own w' w.heap.size w.heap.size rows cols G f)∧Bl w w':=by
 have A6:=run_make_row' (P:=prog) 169 59 nS 24 underlying169 Tryz.infoRow rfl .i64 .i64 rows (by omega) (by omega);have A1:=run_make_row' (P:=prog) 59 5 (.int .u8 0) 1 underlying59 Tryz.infoByte rfl .i64 .i64 cols (by omega) (by omega);go_enter func162,ntmps162
 go_wp2_with fail;clear A6;go_loopw [14] (fun i wr=> ∃r:Nat,r≤rows∧i=iV r∧(∃G,c0P wr w.heap.size rows cols r G f)∧Bl w wr) (fun i _=>rows-(intOf i).toNat)
 case atStart=>exact⟨0,c9D _,rfl,⟨fun _=>0,a9T w rows cols _ f⟩,aB8 _ _⟩
 case round=>
  obtain⟨r,Ah,rfl,⟨G,hp⟩,hb⟩:=hrel;by_cases A3:r<rows
  ·have Ab:(r:Int)<(rows:Int):=by omega
   have Aa:=hp.top.frozen r;have A4:=hp.top.cell A3;have Ac:=hp.top.lt;obtain⟨wo,rfl⟩: ∃x,x=wr:=⟨wr,rfl⟩;have HF:=b2I hp;obtain⟨G',A7⟩: ∃G',G'=lS G r wo.heap.size:=⟨_,rfl⟩;rw[←A7]at HF;clear hp A7;go_wp2_with fail;clear Aa A4 A1;go_loopw [27] (fun i wi=> ∃j:Nat,j≤cols∧i=iV j∧xD wi w.heap.size rows cols r j G' f∧Bl w wi) (fun i _=>cols-(intOf i).toNat)
   case atStart=>exact⟨0,c9D _,rfl,HF,(hb.setCell (p:=⟨w.heap.size,r,none⟩) (c9C _) _).alloc (by rw[Deep.nblk_setCell];exact hb.size) _⟩
   case round=>
    obtain⟨j,Ag,rfl,hF,A2⟩:=hrel;clear HF;by_cases hj:j<cols
    ·have Af:(j:Int)<(cols:Int):=by omega
     have A4:=hF.top.cell A3;rw[show a1B (r+1) cols G' r=.slice (some ⟨G' r,0,none⟩) cols cols from if_pos (by omega)]at A4;have A9:=hcell r A3 j hj _ A2.drew;go_wp2_with fail;go_region_with (go_at_fn g;refine A9.mono ?_;rintro e w1 ⟨rfl,A8⟩;have A0:=hF.drew.bE A8;have A5:=A0.top.cell A3;rw[show a1B (r+1) cols G' r=.slice (some ⟨G' r,0,none⟩) cols cols from if_pos (by omega)]at A5;have Ad:=A0.cur.cell hj;have Ae:=A0.cur.frozen j)
     all_goals go_wp2_with fail
     all_goals exact⟨⟨j+1,by omega,by go_num,b7C A0,(A2.drew.trans (A8.mono A2.size)).setCell (d2B (A0.low r (by omega))) _⟩,by simp[intOf];omega⟩
    ·have e9:j=cols:=by omega
     subst e9;go_wp2_with fail;exact⟨⟨r+1,by omega,by go_num,⟨_,b6Q hF⟩,A2⟩,by simp[intOf];omega⟩
  ·have e8:r=rows:=by omega
   subst e8;clear A1;go_wp2_with fail;go_ret
   exact⟨rfl,⟨G,c3B hp⟩,hb⟩
structure Mx(w:World)(v:Value)(n c:Nat)(f:Nat→Nat→Nat):Prop where
 bd:Gf.Bd2 f
 dim:1≤n∧n≤12∧1≤c∧c≤400
 lies: ∃(b o cap:Nat) (G O K:Nat→Nat),v=.slice (some (aD b o)) n cap∧jW w b o n c G O K f
theorem Mx.bE(h:Mx w v n c f)(hb:Bl w w'):Mx w' v n c f:=by
 obtain⟨b,o,A0,G,O,K,hv,hm⟩:=h.lies;exact⟨h.bd,h.dim,b,o,A0,G,O,K,hv,hm.bE hb⟩
theorem Mx.arg(h:Mx w v n c f):Arg w v n (fun _=>c) f:=by
 obtain⟨b,o,A0,G,O,K,hv,hm⟩:=h.lies;exact⟨h.bd,some (aD b o),A0,fun r=>some ⟨G r,O r,none⟩,K,hv,fun r hr=>⟨b,o,rfl,hm.top r hr,fun k hk=>⟨G r,O r,rfl,hm.row r hr k hk⟩⟩⟩
theorem Mx.ok(h:Mx w v n c f):aB n (fun _=>c)=0:=
 f9 h.dim.1 h.dim.2.1 h.dim.2.2.1 h.dim.2.2.2 (fun _ _=>rfl)
theorem Arg.mx(h:Arg w v n L f)(h0:aB n L=0):Mx w v n (L 0) f:=by
 obtain⟨d1,d2,d3,d4,d5⟩:=a8Y h0;obtain⟨A,A1,R,C,hv,hr⟩:=h.lies;obtain⟨b,o,rfl,_,_⟩:=hr 0 (by omega);have A0: ∀r,r<n→ ∃x:Nat×Nat,R r=some (aD x.1 x.2)∧w.cell? (aD b (o+r))=some (.slice (R r) (L 0) (C r))∧ ∀k,k<L 0→w.cell? (aD x.1 (x.2+k))=some (.int .u8 (f r k:Nat)):=fun r hrn=>by
  obtain⟨b',o',e1,e2,e3⟩:=hr r hrn;cases e1
  rw[d5 r hrn]at e2 e3;obtain⟨b2,o2,e4,_⟩:=e3 0 (by omega);refine⟨(b2,o2),e4,e2,fun k hk=>?_⟩;obtain⟨b3,o3,e5,e6⟩:=e3 k hk;rw[e4]at e5;cases e5
  exact e6
 obtain⟨x,hx⟩:=Deep.choose_lt A0;refine⟨h.bd,⟨d1,d2,d3,d4⟩,b,o,A1,fun r=>(x r).1,fun r=>(x r).2,C,hv,fun r hrn=>?_,fun r hrn=>(hx r hrn).2.2⟩;rw[(hx r hrn).2.1,(hx r hrn).1]
theorem Own.mx(h:Own w N b n c G f)(bd:Gf.Bd2 f)(dim:1≤n∧n≤12∧1≤c∧c≤400):Mx w (.slice (some (aD b 0)) n n) n c f:=
 ⟨bd,dim,b,0,n,G,_,_,rfl,h.mat⟩
theorem Tryz.enters_cellOne: ∀args w,(callFunc 170 args).run Tryz.prog w=.ok (.enter 170 args) w:=enters_of Tryz.func170 (by kernel_rfl) rfl
theorem c3L(n:Nat)(w:World)(h1:1≤n)(h2:n≤12):
  Calls prog 158 #[iV n] w fun e w'=>e=.returned (.tuple #[.slice (some (aD w.heap.size 0)) n n,iV 0])∧(∃G,Own w' w.heap.size w.heap.size n n G Gf.one)∧Bl w w':=by
 have A0: ¬(n:Int)<1:=by omega
 have A1: ¬(12:Int)<(n:Int):=by omega
 go_enter func158,ntmps158
 go_wp2_with fail;refine(mS 170 n n #[] Gf.one _ Tryz.enters_cellOne (fun i _ j _ W _=>by simpa using wB i j W) (by omega) (by omega)).mono ?_;rintro e w1 ⟨rfl,ho,hb⟩;go_wp2_with fail;go_ret2
 exact⟨rfl,ho,hb⟩
theorem a8B(i j Ba Bb:Nat)(ba oa na pa ca bb ob nb pb cb:Nat)(Ga Oa Ka Gb Ob Kb:Nat→Nat)(fa fb:Nat→Nat→Nat)(w:World)
  (ha:w.cell? (aD Ba 0)=some (.slice (some (aD ba oa)) na pa)) (hb:w.cell? (aD Bb 0)=some (.slice (some (aD bb ob)) nb pb))
  (hma:jW w ba oa na ca Ga Oa Ka fa) (hmb:jW w bb ob nb cb Gb Ob Kb fb) (hbda:Gf.Bd2 fa) (hbdb:Gf.Bd2 fb) (hab:ca=nb) (hi:i<na) (hj:j<cb) (hca:ca≤1000):
  Calls prog 163 #[iV i,iV j,.pointer (some (aD Ba 0)),.pointer (some (aD Bb 0))] w fun e w'=>e=.returned (.int .u8 (Gf.mm ca fa fb i j:Nat))∧Bl w w':=by
 subst hab;have A6:=hma.top i hi;have A8:(i:Int)<(na:Int):=by omega
 have A9:(j:Int)<(cb:Int):=by omega
 have la:=World.block_lt_of_cell? _ _ ha;have lb:=World.block_lt_of_cell? _ _ hb;go_enter func163,ntmps163
 go_wp2_with fail;go_loopw [7,15] (fun s x wr=> ∃k:Nat,k≤ca∧x=iV k∧s=.int .u8 (Gf.dot k (fa i) (fun l=>fb l j):Nat)∧Bl w wr) (fun _ x _=>ca-(intOf x).toNat)
 case atStart=>exact⟨0,c9D _,rfl,rfl,Below.refl _ _⟩
 case round=>
  obtain⟨k,hk,rfl,rfl,A1⟩:=hrel;by_cases A3:k<ca
  ·have A5:(k:Int)<(ca:Int):=by omega
   have A2:=hma.bE A1;have A0:=hmb.bE A1;have r1:=A2.row i hi k A3;have r2:=A0.top k A3;have r3:=A0.row k A3 j hj;have r4:=(A1.cell (p:=⟨Bb,0,none⟩) lb).trans hb;have A7:=pQ (Gf.mQ (hbda i) (fun l=>fb l j) k) (Gf.dN (fb k j) (hbda i k));have HS:Hid (Gf.dot k (fa i) (fun l=>fb l j)^^^Gf.mul (fa i k) (fb k j)=Gf.dot (k+1) (fa i) (fun l=>fb l j)):=rfl;clear A2 A0 ha hb A6;go_wp2_with fail;refine(a3L _ _ _ (hbda i k) (hbdb k j)).mono ?_;rintro e w1 ⟨rfl,A4⟩;go_wp2_with fail;exact⟨⟨k+1,by omega,by go_num,cB (by rw[HS.out]),A1.trans (A4.mono A1.size)⟩,by simp[intOf];omega⟩
  ·have e8:k=ca:=by omega
   subst e8;go_wp2_with fail;go_ret
   exact⟨rfl,A1⟩
theorem Tryz.enters_mulCell: ∀args w,(callFunc 163 args).run Tryz.prog w=.ok (.enter 163 args) w:=enters_of Tryz.func163 (by kernel_rfl) rfl
def oZ(w:World)(x y:Value):World:=((w.alloc (.cells #[x] 169)).alloc (.cells #[y] 169)).alloc (.cells #[x,y] 169)
theorem a3K(w:World)(x y:Value):Bl w (oZ w x y):=
 ((aB8 _ _).alloc (by simp) _).alloc (by simp;omega) _
theorem vS(w:World)(x y:Value):(oZ w x y).heap.size=w.heap.size+3:=by
 unfold oZ;simp
theorem a3M(w:World)(x y:Value):(oZ w x y).cell? (aD w.heap.size 0)=some x∧(oZ w x y).cell? (aD (w.heap.size+1) 0)=some y∧(oZ w x y).cell? (aD (w.heap.size+2) 0)=some x∧(oZ w x y).cell? (aD (w.heap.size+2) 1)=some y:=by
 unfold oZ;go_simp
theorem a9E(va vb:Value)(na ca nb cb:Nat)(fa fb:Nat→Nat→Nat)(w:World)(ha:Mx w va na ca fa)(hb:Mx w vb nb cb fb)(hab:ca=nb):
  Calls prog 137 #[va,vb] w fun e w'=> ∃b G,e=.returned (.tuple #[.slice (some (aD b 0)) na na,iV 0])∧Own w' w.heap.size b na cb G (Gf.mm ca fa fb)∧Bl w w':=by
 have Ag:=ha.ok;have Ah:=hb.ok;have H1:=fun w' hb'=>lW va na _ fa w' (ha.bE (w':=w') hb').arg;have H2:=fun w' hb'=>lW vb nb _ fb w' (hb.bE (w':=w') hb').arg;rw[Ag]at H1;rw[Ah]at H2;obtain⟨d1,d2,d3,d4⟩:=ha.dim;obtain⟨f1,f2,f3,f4⟩:=hb.dim;obtain⟨ba,oa,pa,Ga,Oa,Ka,rfl,Ad⟩:=ha.lies;obtain⟨bb,ob,pb,Gb,Ob,Kb,rfl,Ae⟩:=hb.lies;have A9:=ha.bd;have Aa:=hb.bd;subst hab;have Ab:=a3K w (.slice (some (aD ba oa)) na pa) (.slice (some (aD bb ob)) ca pb);have A8:=a3M w (.slice (some (aD ba oa)) na pa) (.slice (some (aD bb ob)) ca pb);have Ak:(0:Int)<(na:Int):=by omega
 have Al:(0:Int)<(ca:Int):=by omega
 have An:0<ca:=by omega
 have Am: ¬ca=0:=by omega
 clear Ag Ah ha hb;go_enter func137,ntmps137
 go_wp2_with fail;refine wp_loop_rounds 3 ?_;rw[rounds_succ];go_wp2_with fail;refine(H1 _ Ab).mono ?_;rintro e w1 ⟨rfl,A3⟩;rw[vS]at A3;have k1:=(A3.cell (p:=⟨w.heap.size,0,none⟩) (by show w.heap.size<w.heap.size+3;omega)).trans A8.1;have k2:=(A3.cell (p:=⟨w.heap.size+1,0,none⟩) (by show w.heap.size+1<w.heap.size+3;omega)).trans A8.2.1;have k3:=(A3.cell (p:=⟨w.heap.size+2,1,none⟩) (by show w.heap.size+2<w.heap.size+3;omega)).trans A8.2.2.2;have A1:Bl w w1:=Ab.trans (A3.mono (by omega));have z1:w.heap.size+3≤w1.heap.size:=by have:=A3.size;rw[vS]at this;omega
 clear Ab A8 A3;go_wp2_with fail;rw[rounds_succ];go_wp2_with fail;refine(H2 _ A1).mono ?_;rintro e w2 ⟨rfl,A6⟩;have k1:=(A6.cell (p:=⟨w.heap.size,0,none⟩) (by show w.heap.size<w1.heap.size;omega)).trans k1;have k2:=(A6.cell (p:=⟨w.heap.size+1,0,none⟩) (by show w.heap.size+1<w1.heap.size;omega)).trans k2;have A0:=A1.trans (A6.mono A1.size);have z2:=c9E z1 A6.size;clear A6 k3 z1 A1 H1 H2;go_wp2_with fail;rw[rounds_succ];go_wp2_with fail;have A4:=Ad.bE A0;have A5:=Ae.bE A0;have Ao:w2.cell? (aD ba oa)=some (.slice (some ⟨Ga 0,Oa 0,none⟩) ca (Ka 0)):=by simpa using A4.top 0 (by omega)
 have Af:w2.cell? (aD bb ob)=some (.slice (some ⟨Gb 0,Ob 0,none⟩) cb (Kb 0)):=by simpa using A5.top 0 (by omega)
 have Ac: ∀W0,Bl w2 W0→c0G 163 #[.pointer (some (aD w.heap.size 0)),.pointer (some (aD (w.heap.size+1) 0))] na cb (Gf.mm ca fa fb) W0:=by
  intro W0 hW0 i hi j hj W hW;have A7:=hW0.trans (hW.mono hW0.size);exact a8B i j w.heap.size (w.heap.size+1) ba oa na pa ca bb ob ca pb cb Ga Oa Ka Gb Ob Kb fa fb W ((A7.cell (p:=⟨w.heap.size,0,none⟩) (by show w.heap.size<w2.heap.size;omega)).trans k1)
   ((A7.cell (p:=⟨w.heap.size+1,0,none⟩) (by show w.heap.size+1<w2.heap.size;omega)).trans k2) (A4.bE A7) (A5.bE A7) A9 Aa rfl hi hj (by omega)
 have Ai:=fun W0 hW0=>mS 163 na cb #[.pointer (some (aD w.heap.size 0)),.pointer (some (aD (w.heap.size+1) 0))] (Gf.mm ca fa fb) W0 Tryz.enters_mulCell (Ac W0 hW0) (by omega) (by omega);clear Ad Ae A4 A5 Ac;go_region
 all_goals go_wp2_with fail
 go_region_held3 (fun w'=>w'.cell? (aD w.heap.size 0)=some (.slice (some (aD ba oa)) na pa)∧w'.cell? (aD (w.heap.size+1) 0)=some (.slice (some (aD bb ob)) ca pb)∧w'.cell? (aD bb ob)=some (.slice (some ⟨Gb 0,Ob 0,none⟩) cb (Kb 0))) (first|exact⟨k1,k2,Af⟩|exact⟨(A2.cell (p:=⟨w.heap.size,0,none⟩) (c9P (by omega:w.heap.size<w.heap.size+3) z2)).trans k1,(A2.cell (p:=⟨w.heap.size+1,0,none⟩) (c9P (by omega:w.heap.size+1<w.heap.size+3) z2)).trans k2,cB8 A2 Af⟩)
  (first|(go_at_call 162;refine(Ai _ ?_).mono ?_;exact((Below.refl _ _).drew).drew;rintro e w3 ⟨rfl,⟨G3,Aj⟩,A2⟩))
 all_goals go_wp2_with fail
 all_goals go_ret2
 all_goals exact⟨_,G3,rfl,Aj.lower A0.size,A0.trans (Below.mono (w:=w2) ⟨A2.os,A2.tape,A2.output,A2.size,A2.block⟩ A0.size)⟩
theorem Tryz.enters_notZero: ∀args w,(callFunc 181 args).run Tryz.prog w=.ok (.enter 181 args) w:=enters_of Tryz.func181 (by kernel_rfl) rfl
theorem vH(g c a B:Nat)(f:Nat→Nat)(w:World)(hr:w.rowIs g 5 c (fun k=> .int .u8 (f k:Nat)))(hB:w.cell? (aD B 0)=some (iV a))(ha:a<c):
  Calls prog 181 #[.slice (some (aD g 0)) c c,.pointer (some (aD B 0))] w fun e w'=>e=.returned (.bool (decide (f a≠0)))∧Bl w w':=by
 have hc:=hr.cell ha;have A0:(a:Int)<(c:Int):=by omega
 by_cases h:f a=0
 ·have H:Hid (decide (f a≠0)=false):=by show decide (f a≠0)=false;simpa using h
  rw[h]at hc;clear h hr;go_enter func181,ntmps181
  go_wp2_with fail;go_ret
  exact⟨jN (by rw[H.out]),Below.refl _ _⟩
 ·have H:Hid (decide (f a≠0)=true):=by show decide (f a≠0)=true;simpa using h
  have h':((f a:Int)==0)=false:=by rw[beq_eq_false_iff_ne];omega
  clear h hr;go_enter func181,ntmps181
  go_wp2_with fail;go_ret
  exact⟨jN (by rw[H.out];simp[bne,h']),Below.refl _ _⟩
def nY(a p:Nat)(G:Nat→Nat)(i:Nat):Nat:=if i=a then G p else if i=p then G a else G i
theorem Own.swap{p:Nat}(h:Own w N b n c G f)(ha:a<n)(hp:p<n):
  Own ((w.setCell (aD b a) (.slice (some ⟨G p,0,none⟩) c c)).setCell (aD b p) (.slice (some ⟨G a,0,none⟩) c c)) N b n c (nY a p G) (Gf.swp a p f):=by
 have es: ∀i,i<n→ ∃s,s<n∧nY a p G i=G s∧Gf.swp a p f i=f s∧s=(if i=a then p else if i=p then a else i):=fun i hi=>by
  unfold nY Gf.swp;by_cases h1:i=a
  ·exact⟨p,hp,by rw[if_pos h1],by rw[if_pos h1],by rw[if_pos h1]⟩
  ·by_cases h2:i=p
   ·exact⟨a,ha,by rw[if_neg h1,if_pos h2],by rw[if_neg h1,if_pos h2],by rw[if_neg h1,if_pos h2]⟩
   ·exact⟨i,hi,by rw[if_neg h1,if_neg h2],by rw[if_neg h1,if_neg h2],by rw[if_neg h1,if_neg h2]⟩
 refine⟨((h.top.set a _).set p _).congr (fun i _=>?_),fun i hi=>?_,h.lob,fun i hi=>?_,fun i hi=>?_,fun i j hi hj hne=>?_⟩
 ·unfold nY;by_cases h2:i=p
  ·rw[if_pos h2];by_cases h1:i=a
   ·rw[if_pos h1,←h1,←h2]
   ·rw[if_neg h1,if_pos h2]
  ·rw[if_neg h2];by_cases h1:i=a
   ·rw[if_pos h1,if_pos h1]
   ·rw[if_neg h1,if_neg h1,if_neg h2]
 ·obtain⟨s,hs,e1,e2,_⟩:=es i hi;rw[e1,e2];exact((h.row s hs).setOther (h.apart s hs) _).setOther (h.apart s hs) _
 ·obtain⟨s,hs,e1,_,_⟩:=es i hi;rw[e1];exact h.low s hs
 ·obtain⟨s,hs,e1,_,_⟩:=es i hi;rw[e1];exact h.apart s hs
 ·obtain⟨s,hs,e1,_,e3⟩:=es i hi;obtain⟨t,ht,d1,_,d3⟩:=es j hj;rw[e1,d1];refine h.inj s t hs ht ?_;rw[e3,d3]
  (repeat' split)<;>omega
theorem Own.put(h:Own w N b n c G f)(hk:k<n)(hr:w'.rowIs (G k) 5 c (fun j=> .int .u8 (f' k j:Nat)))(ho:Off (fun x=>x=G k) w w')(he: ∀i,i≠k→f' i=f i):Own w' N b n c G f':=
 ⟨uK h.top ho (fun e=>h.apart k hk e.symm),fun i hi=>by
  by_cases e:i=k
  ·rw[e]
   exact hr
  ·rw[he i e]
   exact uK (h.row i hi) ho (h.inj i k hi hk e),h.lob,h.low,h.apart,h.inj⟩
theorem Own.congr(h:Own w N b n c G f)(he: ∀i,i<n→ ∀j,j<c→f i j=f' i j):Own w N b n c G f':=
 ⟨h.top,fun i hi=>(h.row i hi).congr (fun j hj=>by rw[he i hi j hj]),h.lob,h.low,h.apart,h.inj⟩
theorem Own.drew(h:Own w N b n c G f):Own w.drew N b n c G f:=⟨h.top,h.row,h.lob,h.low,h.apart,h.inj⟩
def qH(a k:Nat)(W:Nat→Nat→Nat)(i:Nat):Nat→Nat:=if i<k then Gf.add a W i else W i
theorem b8R(N b n c a:Nat)(G:Nat→Nat)(f:Nat→Nat→Nat)(w:World)(h:Own w N b n c G f)(ha:a<n)(hac:a<c)(hn:n≤100)(hz: ∀r,a≤r→r<n→f r a=0):
  Calls prog 171 #[.slice (some (aD b 0)) n n,iV a] w fun e w'=>e=.returned (.bool false)∧Bl w w':=by
 have A3:(a:Int)≤(n:Int):=by omega
 go_enter func171,ntmps171
 go_wp2_with fail;refine(rA 181 b a (n-a) (n-a) _ (fun r=> .slice (some ⟨G (a+r),0,none⟩) c c) (fun r=>decide (f (a+r) a≠0)) _ Tryz.enters_notZero ?_ ?_ (by omega)).mono ?_
 ·intro r hr;rw[((Below.refl w.heap.size w).alloc (c9C _) _).cell (p:=⟨b,a+r,none⟩) h.top.lt];exact h.top.cell (by omega)
 ·intro r hr W hW;have A0:Bl w W:=((Below.refl w.heap.size w).alloc (c9C _) _).trans (hW.mono (by simp));refine vH (G (a+r)) c a w.heap.size (f (a+r)) W (d9 (h.row (a+r) (by omega)) A0) ?_ hac;rw[hW.cell (p:=⟨w.heap.size,0,none⟩) (by simp)];simp
 rintro e w1 ⟨i,rfl,hi,A1⟩;have A2:Bl w w1:=((Below.refl w.heap.size w).alloc (c9C _) _).trans (A1.mono (by simp));rcases hi with⟨rfl,hi⟩|⟨r,hr,rfl,hy,_⟩
 ·clear hi h hz;go_wp2_with fail;go_ret
  exact⟨rfl,A2⟩
 ·exact absurd (hz (a+r) (by omega) (by omega)) (of_decide_eq_true hy)
theorem b7Y(N b n c a:Nat)(G:Nat→Nat)(f:Nat→Nat→Nat)(w:World)(h:Own w N b n c G f)(hf:Gf.Bd2 f)(ha:a<n)(hac:a<c)(hn:n≤100)(hcc:c≤1000)(hz: ¬ ∀r,a≤r→r<n→f r a=0):
  Calls prog 171 #[.slice (some (aD b 0)) n n,iV a] w fun e w'=>e=.returned (.bool true)∧(∃p G',a≤p∧p<n∧f p a≠0∧Own w' N b n c G' (Gf.clr a p f)∧ ∀r,r<n→wH b n G (G' r))∧Off (wH b n G) w w':=by
 have B5:(a:Int)≤(n:Int):=by omega
 have HZ:=hd8 hz;clear hz;go_enter func171,ntmps171
 go_wp2_with fail;refine(rA 181 b a (n-a) (n-a) _ (fun r=> .slice (some ⟨G (a+r),0,none⟩) c c) (fun r=>decide (f (a+r) a≠0)) _ Tryz.enters_notZero ?_ ?_ (by omega)).mono ?_
 ·intro r hr;rw[((Below.refl w.heap.size w).alloc (c9C _) _).cell (p:=⟨b,a+r,none⟩) h.top.lt];exact h.top.cell (by omega)
 ·intro r hr W hW;have Az:Bl w W:=((Below.refl w.heap.size w).alloc (c9C _) _).trans (hW.mono (by simp));refine vH (G (a+r)) c a w.heap.size (f (a+r)) W (d9 (h.row (a+r) (by omega)) Az) ?_ hac;rw[hW.cell (p:=⟨w.heap.size,0,none⟩) (by simp)];simp
 rintro e w1 ⟨i,rfl,hi,Ah⟩;have Aj:Bl w w1:=((Below.refl w.heap.size w).alloc (c9C _) _).trans (Ah.mono (by simp));have hB:w1.cell? (aD w.heap.size 0)=some (iV a):=by
  rw[Ah.cell (p:=⟨w.heap.size,0,none⟩) (by simp)];simp
 rcases hi with⟨_,hi⟩|⟨q,hq,rfl,hy,_⟩
 ·exact absurd (fun r h1 h2=>by have:=of_decide_eq_false (hi (r-a) (by omega));rw[Nat.add_sub_cancel' h1]at this;omega) HZ.out
 clear HZ;have Al:=of_decide_eq_true hy;have HY:Hid (f (a+q) a≠0):=Al;have Av:=hd8 Al;have h1:=h.bE Aj;have A0:b<w.heap.size∧ ∀r,r<n→G r<w.heap.size:=⟨h.top.lt,fun r hr=>(h.row r hr).lt⟩;have As:w.heap.size<w1.heap.size:=World.block_lt_of_cell? _ _ hB;have HO:=h1.swap ha (show a+q<n by omega);obtain⟨wS,hS⟩: ∃wS,wS=(w1.setCell (aD b a) (.slice (some ⟨G (a+q),0,none⟩) c c)).setCell (aD b (a+q)) (.slice (some ⟨G a,0,none⟩) c c):=⟨_,rfl⟩;rw[←hS]at HO;have Ac:wS.cell? (aD w.heap.size 0)=some (iV a):=by
  have Aw:Off (fun k=>k=b) w1 wS:=by rw[hS];exact Off.set (S:=fun k=>k=b) (p:=⟨b,a+q,none⟩) (Off.set (S:=fun k=>k=b) (p:=⟨b,a,none⟩) (Off.refl (fun k=>k=b) w1) rfl _) rfl _
  rw[World.cell?_of_block (w:=w1) (Aw.block w.heap.size As (fun e=>by have:=A0.1;omega))];exact hB
 have An:Off (wH b n G) w wS:=by rw[hS];exact Off.set (p:=⟨b,a+q,none⟩) (Off.set (p:=⟨b,a,none⟩) (Off.oE Aj) (Or.inl rfl) _) (Or.inl rfl) _
 have Ar:w.heap.size<wS.heap.size:=World.block_lt_of_cell? _ _ Ac;have HS:=hd8 hS;clear hS;have t1:=h1.top.cell ha;have t2:=h1.top.cell (show a+q<n by omega);have z1:=h1.top.frozen a;have z2:=h1.top.frozen (a+q);obtain⟨v3,t3⟩: ∃v3,(w1.setCell (aD b a) (.slice (some ⟨G (a+q),0,none⟩) c c)).cell? (aD b (a+q))=some v3:=⟨_,(h1.top.set a _).cell (by omega)⟩;have z3:=(h1.top.set a (.slice (some ⟨G (a+q),0,none⟩) c c)).frozen (a+q);have B7:IntKind.i64.wrap ((a:Int)+(q:Int))=(a:Int)+(q:Int):=by rw[IntKind.wrap_i64];omega
 have Ay:(a:Int)+(q:Int)<(n:Int):=by omega
 have B6:(a:Int)<(n:Int):=by omega
 clear h h1 hy Al Ah;go_wp2_with fail;go_region
 rw[←HS.out];clear HS t1 t2 z1 z2 t3 z3 hB Aj Ay As;have Ag: ∀r,r<n→nY a (a+q) G r<w.heap.size:=fun r hr=>by
  unfold nY;split
  ·exact A0.2 _ (by omega)
  ·split
   ·exact A0.2 _ ha
   ·exact A0.2 _ hr
 have A1: ∀r,r<n→wH b n G (nY a (a+q) G r):=fun r hr=>by
  unfold nY;split
  ·exact Or.inr ⟨_,by omega,rfl⟩
  ·split
   ·exact Or.inr ⟨_,ha,rfl⟩
   ·exact Or.inr ⟨_,hr,rfl⟩
 have e0:Gf.swp a (a+q) f a a=f (a+q) a:=by
  unfold Gf.swp;rw[if_pos rfl]
 have A6:Gf.Bd2 (Gf.swp a (a+q) f):=Gf.uN hf;have HD:Hid (Gf.add a (Gf.scl a (Gf.inv (f (a+q) a)) (Gf.swp a (a+q) f))=Gf.clr a (a+q) f):=rfl;have A3:=hf (a+q) a;generalize nY a (a+q) G=G' at HO Ag A1;generalize Gf.swp a (a+q) f=W0 at HO e0 A6 HD;generalize f (a+q) a=x at e0 HD HY A3;have u1:=HO.top.cell ha;have u2:=(HO.row a ha).cell hac;rw[e0]at u2;have Ax:(a:Int)<(c:Int):=by omega
 go_wp2_with fail;refine(b4L _ _ A3).mono ?_;rintro e w2 ⟨rfl,A8⟩;have Ae:=HO.drew.bE A8;have Ab:=(A8.cell (p:=⟨w.heap.size,0,none⟩) Ar).trans Ac;have A4:Off (wH b n G) w w2:=An.drew.trans (Off.oE A8);have Aq:w.heap.size<w2.heap.size:=World.block_lt_of_cell? _ _ Ab;clear A8 Ac An Ar u1 u2 HO;go_wp2_with fail;refine(b5F (G' a) c (Gf.inv x) (W0 a) _ (Ae.row a ha) (A6 a) (Gf.jH x) (by omega)).mono ?_;rintro e w3 ⟨rfl,Ao,A9⟩;have Af:Own w3 N b n c G' (Gf.scl a (Gf.inv x) W0):=Ae.put ha (Ao.congr (fun j _=>by rw[show Gf.scl a (Gf.inv x) W0 a j=Gf.mul (W0 a j) (Gf.inv x)from if_pos rfl])) A9 (fun i hi=>by funext j;exact if_neg hi);have Am:w3.cell? (aD w.heap.size 0)=some (iV a):=(World.cell?_of_block (w:=w2) (A9.block w.heap.size Aq (fun e=>by have:=Ag a ha;omega))).trans Ab;have A5:Off (wH b n G) w w3:=A4.trans (A9.wider (fun k e=>by rw[e];exact A1 a ha));have A7:Gf.Bd2 (Gf.scl a (Gf.inv x) W0):=Gf.yO A6;clear Ao A9 Ae Ab A4 Aq e0 A6;generalize Gf.scl a (Gf.inv x) W0=W1 at Af A7 HD;go_wp2_with fail;go_loopw [47] (fun i wr=> ∃k:Nat,k≤n∧i=iV k∧Own wr N b n c G' (qH a k W1)∧wr.cell? (aD w.heap.size 0)=some (iV a)∧Off (wH b n G) w wr) (fun i _=>n-(intOf i).toNat)
 case atStart=>exact⟨0,c9D _,rfl,Af.congr (fun i _ j _=>by unfold qH;rw[if_neg (c9L _)]),Am,A5⟩
 case round=>
  clear Af Am A5;obtain⟨k,hk,rfl,A2,Ad,Ai⟩:=hrel;have B4:w.heap.size<wr.heap.size:=World.block_lt_of_cell? _ _ Ad;by_cases A0:k<n
  ·have B3:(k:Int)<(n:Int):=by omega
   have u1:=A2.top.cell A0;by_cases Ak:k=a
   ·subst Ak;go_wp2_with fail;refine⟨⟨k+1,by omega,by go_num,A2.congr (fun i _ j _=>?_),Ad,Ai⟩,by simp[intOf];omega⟩;unfold qH;by_cases hi:i<k
    ·rw[if_pos hi,if_pos (by omega)]
    ·rw[if_neg hi];by_cases B1:i=k
     ·rw[if_pos (by omega),B1];exact(if_pos rfl).symm
     ·rw[if_neg (by omega)]
   ·have B2:((k:Int)==(a:Int))=false:=by rw[beq_eq_false_iff_ne];omega
    have ek:qH a k W1 k=W1 k:=if_neg (d0V _);have ea: ∀j,qH a k W1 a j=W1 a j:=fun j=>by
     unfold qH;split
     ·exact if_pos rfl
     ·rfl
    have r1:=A2.row k A0;rw[ek]at r1;have r2:=(A2.row a ha).congr (g:=fun j=> .int .u8 (W1 a j:Nat)) (fun j _=>by rw[ea]);have u2:=r1.cell hac;have HE:=hd8 Ak;clear Ak ek ea;go_wp2_with fail;refine(a3V (G' k) (G' a) c (W1 k a) (W1 k) (W1 a) _ r1 r2 (A2.inj k a A0 ha HE.out) (A7 k) (A7 a) (A7 k a) (by omega)).mono ?_;rintro e w4 ⟨rfl,Ap,Aa⟩
    have Au:Own w4 N b n c G' (qH a (k+1) W1):=A2.put A0 (Ap.congr (fun j _=>by
     rw[show qH a (k+1) W1 k=Gf.add a W1 k from if_pos (d1F _),show Gf.add a W1 k j=W1 k j^^^Gf.mul (W1 a j) (W1 k a)from if_neg HE.out])) Aa (fun i hi=>by
     unfold qH;by_cases h1:i<k
     ·rw[if_pos h1,if_pos (by omega)]
     ·rw[if_neg h1,if_neg (by omega)])
    have At:w4.cell? (aD w.heap.size 0)=some (iV a):=(World.cell?_of_block (w:=wr) (Aa.block w.heap.size B4 (fun e=>by have:=Ag k A0;omega))).trans Ad;have B0:Off (wH b n G) w w4:=Ai.trans (Aa.wider (fun x e=>by rw[e];exact A1 k A0));clear Ap Aa r1 r2 u1 u2 A2;go_wp2_with fail;exact⟨⟨k+1,by omega,by go_num,Au,At,B0⟩,by simp[intOf];omega⟩
  ·have e8:k=n:=by omega
   subst e8;go_wp2_with fail;go_ret
   exact⟨rfl,⟨a+q,G',by omega,by omega,Av.out,A2.congr (fun i hi j _=>by rw[←HD.out];unfold qH;rw[if_pos hi]),A1⟩,Ai⟩
theorem Tryz.enters_inv1: ∀args w,(callFunc 169 args).run Tryz.prog w=.ok (.enter 169 args) w:=enters_of Tryz.func169 (by kernel_rfl) rfl
theorem Tryz.enters_inv2: ∀args w,(callFunc 172 args).run Tryz.prog w=.ok (.enter 172 args) w:=enters_of Tryz.func172 (by kernel_rfl) rfl
theorem c3K(i j n B1 B2 b o p:Nat)(G O K:Nat→Nat)(f:Nat→Nat→Nat)(w:World)(h1:w.cell? (aD B1 0)=some (iV n))(h2:w.cell? (aD B2 0)=some (.slice (some (aD b o)) n p))
  (hm:jW w b o n n G O K f) (hi:i<n) (hj:j<n+n) (hn:n≤100):
  Calls prog 169 #[iV i,iV j,.pointer (some (aD B1 0)),.pointer (some (aD B2 0))] w fun e w'=>e=.returned (.int .u8 (Gf.kP n f i j:Nat))∧Bl w w':=by
 have A0:(i:Int)<(n:Int):=by omega
 by_cases h:j<n
 ·have h':(j:Int)<(n:Int):=by omega
  have H:Hid (Gf.kP n f i j=f i j):=if_pos h;have t1:=hm.top i hi;have t2:=hm.row i hi j h;clear hm;go_enter func169,ntmps169
  go_wp2_with fail;go_ret
  exact⟨aH (by rw[H.out]),Below.refl _ _⟩
 ·have h': ¬(j:Int)<(n:Int):=by omega
  have H:Hid (Gf.kP n f i j=Gf.one i (j-n)):=if_neg h;have hs:(j:Int)-(n:Int)=((j-n:Nat):Int):=by omega
  clear hm;go_enter func169,ntmps169
  go_wp2_with fail;refine(wB i (j-n) _).mono ?_;rintro e w1 ⟨rfl,hb⟩;go_wp2_with fail;go_ret
  exact⟨aH (by rw[H.out]),hb⟩
theorem c1X(i j n c B1 B2 b:Nat)(G:Nat→Nat)(N:Nat)(f:Nat→Nat→Nat)(w:World)(h1:w.cell? (aD B1 0)=some (.slice (some (aD b 0)) n n))(h2:w.cell? (aD B2 0)=some (iV n))
  (hm:Own w N b n c G f) (hi:i<n) (hj:n+j<c) (hn:c≤1000):
  Calls prog 172 #[iV i,iV j,.pointer (some (aD B1 0)),.pointer (some (aD B2 0))] w fun e w'=>e=.returned (.int .u8 (f i (n+j):Nat))∧Bl w w':=by
 have A0:(i:Int)<(n:Int):=by omega
 have hw:IntKind.i64.wrap ((n:Int)+(j:Int))=(n:Int)+(j:Int):=by rw[IntKind.wrap_i64];omega
 have A1:(n:Int)+(j:Int)<(c:Int):=by omega
 have t1:=hm.top.cell hi;have t2:=(hm.row i hi).cell hj;clear hm;go_enter func172,ntmps172
 go_wp2_with fail;go_region
 go_wp2_with fail;go_ret
 exact⟨rfl,(Below.refl _ _).drew⟩
theorem c2D(v:Value)(n:Nat)(f:Nat→Nat→Nat)(w:World)(h:Mx w v n n f):
  Calls prog 143 #[v] w fun e w'=>((∃v' r,e=.returned (.tuple #[v',iV 0])∧Mx w' v' n n r∧Gf.Und n f r)∨(e=.returned (.tuple #[nS,iV 6])∧Gf.a5U n f))∧Bl w w':=by
 have ok:=h.ok;have H1:=fun w' hb'=>lW v n _ f w' (h.bE (w':=w') hb').arg;rw[ok]at H1;have Al:=h.bd;obtain⟨d1,d2,d3,d4⟩:=h.dim;obtain⟨b,o,p,G,O,K,rfl,hm⟩:=h.lies;have h0:(0:Int)<(n:Int):=by omega
 have B3:0<n:=by omega
 clear h ok;go_enter func143,ntmps143
 go_wp2_with fail;refine(H1 _ (aB8 _ _)).mono ?_;rintro e w1 ⟨rfl,Ab⟩;have A0:Bl w w1:=((Below.refl w.heap.size w).alloc (c9C _) _).trans (Ab.mono (by simp));have k1:w1.cell? (aD w.heap.size 0)=some (.slice (some (aD b o)) n p):=by
  rw[Ab.cell (p:=⟨w.heap.size,0,none⟩) (by simp)];simp
 have Af:=hm.bE A0;have t1:w1.cell? (aD b o)=some (.slice (some ⟨G 0,O 0,none⟩) n (K 0)):=by simpa using Af.top 0 (by omega)
 have l1:=World.block_lt_of_cell? _ _ k1;have l2:=World.block_lt_of_cell? _ _ t1;clear hm H1 Ab;go_wp2_with fail;go_region
 obtain⟨w2,A5⟩: ∃w2,w2=(w1.alloc (.cells #[iV n] 3)).drew:=⟨_,rfl⟩;have A6:Bl w1 w2:=by rw[A5];exact(aB8 _ _).drew
 have z2:w2.heap.size=w1.heap.size+1:=by rw[A5];simp
 have c1:w2.cell? (aD w1.heap.size 0)=some (iV n):=by rw[A5];simp
 have c0:=(A6.cell (p:=⟨w.heap.size,0,none⟩) l1).trans k1;have An:=Af.bE A6;have A1:=A0.trans (A6.mono A0.size);have A4:=mS 169 n (n+n) #[.pointer (some (aD w1.heap.size 0)),.pointer (some (aD w.heap.size 0))] (Gf.kP n f) w2 Tryz.enters_inv1
  (fun i hi j hj W hW=>c3K i j n w1.heap.size w.heap.size b o p G O K f W (cB8 hW c1) (cB8 hW c0) (An.bE hW) hi hj (by omega)) (by omega) (by omega)
 rw[show((n+n:Nat):Int)=2*(n:Int) by omega]at A4;have Az:w1.heap.size<w2.heap.size:=by omega
 rw[←A5];clear A5 Af An k1 t1 l1 l2 A6 A0 c0 z2;go_wp2_with fail;refine A4.mono ?_;rintro e w3 ⟨rfl,⟨G3,A9⟩,Ac⟩;have c1:=(Ac.cell (p:=⟨w1.heap.size,0,none⟩) Az).trans c1;have A2:=A1.trans (Ac.mono A1.size);have Ar:=World.block_lt_of_cell? _ _ c1;clear A4 Ac;have Ah:(w3.alloc (.cells #[.slice (some (aD w2.heap.size 0)) n n] 169)).cell? (aD w1.heap.size 0)=some (iV n):=(((Below.refl w3.heap.size w3).alloc (c9C _) _).cell (p:=⟨w1.heap.size,0,none⟩) Ar).trans c1;have Ai:(w3.alloc (.cells #[.slice (some (aD w2.heap.size 0)) n n] 169)).cell? (aD w3.heap.size 0)=some (.slice (some (aD w2.heap.size 0)) n n):=by simp
 have Ao:Own (w3.alloc (.cells #[.slice (some (aD w2.heap.size 0)) n n] 169)) w2.heap.size w2.heap.size n (n+n) G3 (Gf.kP n f):=A9.bE (aB8 _ _);have Aj: ∀r,r<n→G3 r<w3.heap.size:=fun r hr=>(A9.row r hr).lt;have Ax:w2.heap.size<w3.heap.size:=A9.top.lt;have Am:Bl w (w3.alloc (.cells #[.slice (some (aD w2.heap.size 0)) n n] 169)):=A2.alloc A2.size _;have B4:=A1.size;clear A9 A2 A1;go_wp2_with fail;clear c1 Ar;go_loopw [28] (fun i wr=> ∃k:Nat,k≤n∧i=iV k∧(∃G W,Own wr w2.heap.size w2.heap.size n (n+n) G W∧(∀r,r<n→G r<w3.heap.size)∧Gf.oY n f (fun j=>j<k) W)∧wr.cell? (aD w1.heap.size 0)=some (iV n)∧wr.cell? (aD w3.heap.size 0)=some (.slice (some (aD w2.heap.size 0)) n n)∧Bl w wr) (fun i _=>n-(intOf i).toNat)
 case atStart=>exact⟨0,c9D _,rfl,⟨G3,_,Ao,Aj,Gf.oY.start Al (fun j=>c9L j)⟩,Ah,Ai,Am⟩
 case round=>
  clear Ah Ai Ao Aj Am;obtain⟨k,hk,rfl,⟨G',W,HO,hG,HE⟩,c1,c2,A3⟩:=hrel;have l2:=World.block_lt_of_cell? _ _ c2;by_cases A8:k<n
  ·have B0:(k:Int)<(n:Int):=by omega
   by_cases hz: ∀r,k≤r→r<n→W r k=0
   ·have HS:Hid (Gf.a5U n f):=HE.fails A8 (d0V k) (fun i hi hd=>hz i (by omega) hi);have A7:=b8R w2.heap.size w2.heap.size n (n+n) k G' W wr HO A8 (by omega) (by omega) hz;clear hz HE HO;go_wp2_with fail;refine A7.mono ?_;rintro e w4 ⟨rfl,Ad⟩;go_wp2_with fail;go_ret2
    exact⟨Or.inr ⟨rfl,HS.out⟩,A3.trans (Ad.mono A3.size)⟩
   ·have A7:=b7Y w2.heap.size w2.heap.size n (n+n) k G' W wr HO HE.bd A8 (by omega) (by omega) (by omega) hz;have Ag:=hd8 HE;clear hz HE;go_wp2_with fail;refine A7.mono ?_;rintro e w4 ⟨rfl,⟨p',G4,B2,Ap,Aq,At,Ak⟩,Aa⟩;have Au:w4.cell? (aD w1.heap.size 0)=some (iV n):=by
     refine(World.cell?_of_block (w:=wr) (Aa.block w1.heap.size (World.block_lt_of_cell? _ _ c1) (fun e=>?_))).trans c1;rcases e with e|⟨r,hr,e⟩
     ·omega
     ·have:=HO.low r hr;omega
    have Av:w4.cell? (aD w3.heap.size 0)=some (.slice (some (aD w2.heap.size 0)) n n):=by
     refine(World.cell?_of_block (w:=wr) (Aa.block w3.heap.size l2 (fun e=>?_))).trans c2;rcases e with e|⟨r,hr,e⟩
     ·omega
     ·have:=hG r hr;omega
    have Ad:Bl w w4:=A3.trans (Aa.bE A3.size (fun x e=>by
     rcases e with e|⟨r,hr,e⟩
     ·omega
     ·have:=HO.low r hr
      omega))
    have Aw: ∀r,r<n→G4 r<w3.heap.size:=fun r hr=>by
     rcases Ak r hr with e|⟨s,hs,e⟩
     ·omega
     ·have:=hG s hs;omega
    have As:Hid (Gf.oY n f (fun j=>j<k+1) (Gf.clr k p' W)):=Ag.out.step A8 Ap (d0V k) (show¬p'<k by omega) Aq (fun j hj=>by omega);clear A7 B2 Ap Aq Ak Aa HO hG c1 c2 Ag;go_wp2_with fail;exact⟨⟨k+1,by omega,by go_num,⟨G4,_,At,Aw,As.out⟩,Au,Av,Ad⟩,by simp[intOf];omega⟩
  ·have e8:k=n:=by omega
   subst e8;have HU:=hd8 (HE.done Al (fun j hj=>hj));have A4:=mS 172 k k #[.pointer (some (aD w3.heap.size 0)),.pointer (some (aD w1.heap.size 0))] (fun i j=>W i (k+j)) wr Tryz.enters_inv2
    (fun i hi j hj X hX=>c1X i j k (k+k) w3.heap.size w1.heap.size w2.heap.size G' w2.heap.size W X ((hX.cell (p:=⟨w3.heap.size,0,none⟩) l2).trans c2) (cB8 hX c1) (HO.bE hX) hi (by omega) (by omega)) (by omega) (by omega)
   have Ae:=HE.bd;clear HE HO;go_wp2_with fail;refine A4.mono ?_;rintro e w5 ⟨rfl,⟨G5,B1⟩,Ay⟩;go_wp2_with fail;go_ret2
   exact⟨Or.inl ⟨_,_,rfl,B1.mx (fun i j=>Ae i (k+j)) ⟨d1,d2,d3,d4⟩,HU.out⟩,A3.trans (Ay.mono A3.size)⟩
open Go.ChangeShapes Go.WideShapes Go.ChangeAt Go.RowKit
theorem wP(a b:Int)(h1:0≤a)(h2:a<9223372036854775808)(h3:0≤b)(h4:b<9223372036854775808):bits .xor .i64 a b=((a.toNat^^^b.toNat:Nat):Int):=by
 obtain⟨A,rfl⟩:=d0I h1;obtain⟨B,rfl⟩:=d0I h3;have hx:A^^^B<2^63:=d2A (by omega) (by omega);show IntKind.i64.wrap ((BitVec.ofInt 64 (A:Int)^^^BitVec.ofInt 64 (B:Int)).toNat:Int)=_;rw[BitVec.toNat_xor,ofInt_u64 A (by omega),ofInt_u64 B (by omega),IntKind.wrap_i64,c9Q,c9Q];omega
structure Acc(w:World)(N:Nat)(v:Value)(k c:Nat)(G K:Nat→Nat)(f:Nat→Nat→Nat):Prop where
 own:w.ownsRow N 59 1 v k ((List.range k).map fun i=> .slice (some ⟨G i,0,none⟩) c (K i))
 row: ∀i,i<k→N≤G i∧aZ w (G i) 5 c (fun j=> .int .u8 (f i j:Nat))
theorem Acc.bE(h:Acc w N v k c G K f)(hb:Bl w w'):Acc w' N v k c G K f:=
 ⟨aK h.own hb,fun i hi=>⟨(h.row i hi).1,(h.row i hi).2.bE hb⟩⟩
theorem Acc.start(w:World)(N c:Nat)(G K:Nat→Nat)(f:Nat→Nat→Nat):Acc w N nS 0 c G K f:=
 ⟨World.ownsRow_nil w N _ 1,fun i hi=>absurd hi (c9L i)⟩
theorem Acc.step{w':World}{v':Value}{gk Kk:Nat}(h:Acc w N v k c G K f)(hr:N≤gk∧aZ w gk 5 c (fun j=> .int .u8 (f k j:Nat)))
  (ho:w'.ownsRow N 59 1 v' (k+1) (((List.range k).map fun i=> .slice (some ⟨G i,0,none⟩) c (K i))++[.slice (some (aD gk 0)) c Kk])) (hg:w.grownBy w' v.ownBlock):Acc w' N v' (k+1) c (lS G k gk) (lS K k Kk) f:=by
 have A0: ∀x F,aZ w x 5 c F→aZ w' x 5 c F:=fun x F hx=>hx.of_block (hg.block x hx.lt (fun e=>by
  obtain⟨F2,h2⟩:=fL h.own e.symm
  exact hx.ne h2 (by decide) rfl))
 refine⟨?_,fun i hi=>?_⟩
 ·have e:(List.range (k+1)).map (fun i=>Value.slice (some ⟨lS G k gk i,0,none⟩) c (lS K k Kk i))=((List.range k).map fun i=> .slice (some ⟨G i,0,none⟩) c (K i))++[.slice (some (aD gk 0)) c Kk]:=by
   rw[d1G,c9U];congr 1
   ·refine d1H (fun i hi=>?_);have:=d0D.1 hi;unfold lS;rw[if_neg (by omega),if_neg (by omega)]
   ·unfold lS;simp
  rw[e];exact ho
 ·unfold lS;by_cases e:i=k
  ·rw[if_pos e,e];exact⟨hr.1,A0 _ _ hr.2⟩
  ·rw[if_neg e];exact⟨(h.row i (by omega)).1,A0 _ _ (h.row i (by omega)).2⟩
theorem Acc.mx(h:Acc w N v k c G K f)(bd:Gf.Bd2 f)(dim:1≤k∧k≤12∧1≤c∧c≤400):Mx w v k c f:=by
 obtain⟨g,A0,hv,_,_,hr⟩:=eD h.own dim.1;refine⟨bd,dim,g,0,A0,G,fun _=>0,K,hv,fun r hr'=>?_,fun r hr' j hj=>?_⟩
 ·rw[c9G,hr.cell hr'];simp[List.getD,hr']
 ·rw[c9G];exact(h.row r hr').2.cell hj
def bZ(d s:Int):Nat:=if d<1∨8<d∨s<0∨4<s then 5 else 0
theorem cE{d s:Int}(h:d<1∨8<d∨s<0∨4<s):bZ d s=5:=if_pos h
theorem cO{d s:Int}(h: ¬(d<1∨8<d∨s<0∨4<s)):bZ d s=0:=if_neg h
theorem dY(d s:Int)(w:World):
  Calls prog 12 #[iV d,iV s] w fun e w'=>e=.returned (iV (bZ d s:Nat))∧Bl w w':=by
 by_cases h1:d<1
 ·have H:Hid (bZ d s=5):=cE (by omega);go_enter func12,ntmps12
  go_wp2_with fail;go_ret
  exact⟨aH (by rw[H.out];rfl),Below.refl _ _⟩
 by_cases h2:8<d
 ·have H:Hid (bZ d s=5):=cE (by omega);go_enter func12,ntmps12
  go_wp2_with fail;go_ret
  exact⟨aH (by rw[H.out];rfl),Below.refl _ _⟩
 by_cases h3:s<0
 ·have H:Hid (bZ d s=5):=cE (by omega);go_enter func12,ntmps12
  go_wp2_with fail;go_ret
  exact⟨aH (by rw[H.out];rfl),Below.refl _ _⟩
 by_cases h4:4<s
 ·have H:Hid (bZ d s=5):=cE (by omega);go_enter func12,ntmps12
  go_wp2_with fail;go_ret
  exact⟨aH (by rw[H.out];rfl),Below.refl _ _⟩
 have H:Hid (bZ d s=0):=cO (by omega);go_enter func12,ntmps12
 go_wp2_with fail;go_ret
 exact⟨aH (by rw[H.out];rfl),Below.refl _ _⟩
theorem a2L{x:Nat}(h:x<256):IntKind.u8.wrap (x:Int)=(x:Int):=by
 rw[IntKind.wrap_u8];omega
theorem a4Q(i n:Nat)(w:World)(hi:i<256)(hn:n≤8):
  Calls prog 159 #[iV i,iV n] w fun e w'=>
   e=.returned (.slice (some (aD w.heap.size 0)) n n)∧w'.rowIs w.heap.size 5 n (fun j=> .int .u8 (Gf.inv (i^^^j):Nat))∧Bl w w':=by
 have A5:=run_make_row' (P:=prog) 59 5 (.int .u8 0) 1 underlying59 Tryz.infoByte rfl .i64 .i64 n (by omega) (by omega);go_enter func159,ntmps159
 go_wp2_with fail;clear A5;go_loopw [11] (fun x wr=> ∃k:Nat,k≤n∧x=iV k∧wr.rowIs w.heap.size 5 n (fun j=> .int .u8 (dW k (fun j=>Gf.inv (i^^^j)) (fun _=>0) j:Nat))∧Bl w wr) (fun x _=>n-(intOf x).toNat)
 case atStart=>exact⟨0,c9D _,rfl,(World.rowIs_made w (.int .u8 0) n 5).congr (fun j _=>by rw[show dW 0 (fun j=>Gf.inv (i^^^j)) (fun _=>0) j=0 from if_neg (c9L _)];rfl),aB8 _ _⟩
 case round=>
  obtain⟨k,hk,rfl,hw,hb⟩:=hrel;by_cases A2:k<n
  ·have A4:(k:Int)<(n:Int):=by omega
   have hx:i^^^k<256:=Gf.fG hi (by omega);have A6:bits .xor .i64 (i:Int) (k:Int)=((i^^^k:Nat):Int):=by
    rw[wP _ _ (by omega) (by omega) (by omega) (by omega),c9Q,c9Q]
   have A9:=a2L hx;have hc:=hw.cell A2;have A8:=hw.frozen k;go_wp2_with fail;refine(b4L _ _ hx).mono ?_;rintro e w1 ⟨rfl,A1⟩;have A0:=d9 hw A1;have A7:=A0.cell A2;have A3:=A0.frozen k;go_wp2_with fail;exact⟨⟨k+1,by omega,by go_num,mI (h:=fun j=>Gf.inv (i^^^j)) A0,(hb.trans (A1.mono hb.size)).setCell (p:=⟨w.heap.size,k,none⟩) (c9C _) _⟩,by simp[intOf];omega⟩
  ·have e8:k=n:=by omega
   subst e8;go_wp2_with fail;go_ret
   exact⟨rfl,hw.congr (fun j hj=>by rw[show dW k (fun j=>Gf.inv (i^^^j)) (fun _=>0) j=Gf.inv (i^^^j)from if_pos hj]),hb⟩
theorem a3E(d s:Int)(w:World)(h:d<1∨8<d∨s<0∨4<s):
  Calls prog 135 #[iV d,iV s] w fun e w'=>e=.returned (.tuple #[nS,iV 5])∧Bl w w':=by
 have H:=dY d s;rw[cE h]at H;clear h;go_enter func135,ntmps135
 go_wp2_with fail;refine(H _).mono ?_;rintro e w1 ⟨rfl,b1⟩;go_wp2_with fail;go_ret2
 exact⟨rfl,b1⟩
theorem a0L{F:Nat→Value}(h:w.rowIs b t n F)(hN:N≤b)(hm:n≤maxLen):w.ownsRow N t 1 (.slice (some (aD b 0)) n n) n ((List.range n).map F):=by
 obtain⟨c,h1,h2,h3⟩:=h;refine⟨by simp,.inr ⟨b,n,c,rfl,hN,h1,c9C _,hm,by omega,?_⟩⟩;apply d1I;intro i;rcases Nat.lt_or_ge i n with h|h
 ·rw[d0C,if_pos (by omega)];simp[h,h3 i h]
 ·rw[c9Z (by simp;omega),c9Z (by simpa using h)]
theorem Own.acc(h:Own w N b n c G f)(hn:n≤1000):Acc w N (.slice (some (aD b 0)) n n) n c G (fun _=>c) f:=
 ⟨a0L h.top h.lob (by unfold maxLen;omega),fun i hi=>⟨h.low i hi,iL (h.row i hi)⟩⟩
theorem Acc.congr(h:Acc w N v k c G K f)(he: ∀i,i<k→ ∀j,j<c→f i j=f' i j):Acc w N v k c G K f':=
 ⟨h.own,fun i hi=>⟨(h.row i hi).1,(h.row i hi).2.congr (fun j hj=>by rw[he i hi j hj])⟩⟩
theorem Acc.mat(h:Acc w N v k c G K f)(hk:1≤k): ∃g cap,v=.slice (some (aD g 0)) k cap∧N≤g∧k≤cap∧jW w g 0 k c G (fun _=>0) K f:=by
 obtain⟨g,cap,hv,hN,hc,hr⟩:=eD h.own hk;refine⟨g,cap,hv,hN,hc,fun r hr'=>?_,fun r hr' j hj=>?_⟩
 ·rw[c9G,hr.cell hr'];simp[List.getD,hr']
 ·rw[c9G];exact(h.row r hr').2.cell hj
theorem dD(j:Nat)(u:Value)(hj:[v][j]?=some u):(w.alloc (.cells #[v] t)).cell? ((⟨w.heap.size,0,none⟩:Addr).add j)=some u:=by
 match j,hj with
 |0,hj=>
  simp at hj;subst hj;simp[Addr.add]
 |j+1,hj=>simp at hj
theorem iO(n s:Nat)(w:World)(h1:1≤n)(h2:n≤8)(h3:s≤4):
  Calls prog 135 #[iV n,iV s] w fun e w'=>
   ∃g A0,e=.returned (.tuple #[.slice (some (aD g 0)) (n+s) A0,iV 0])∧n+s≤A0∧(∃G K,jW w' g 0 (n+s) n G (fun _=>0) K (Gf.bH n))∧Bl w w':=by
 have H:=dY n s;rw[cO (show¬((n:Int)<1∨8<(n:Int)∨(s:Int)<0∨4<(s:Int)) by omega)]at H;have HO:=fun w=>c3L n w h1 (by omega);obtain⟨i0,hi,hh⟩:=c9J.1 Tryz.infoRow;simp only[Prod.mk.injEq]at hh;obtain⟨A8,A9,Aa⟩:=hh;have A7:IntKind.i64.wrap ((n:Int)+(s:Int))=((n+s:Nat):Int):=by rw[IntKind.wrap_i64];omega
 go_enter func135,ntmps135
 go_wp2_with fail;refine(H _).mono ?_;rintro e w1 ⟨rfl,b1⟩;clear H;go_wp2_with fail;refine(HO _).mono ?_;rintro e w2 ⟨rfl,⟨G0,ho⟩,b2⟩;have A2:=((ho.lower b1.size).acc (by omega)).congr (f':=Gf.bH n) (fun i hi j _=>(Gf.oV hi j).symm);have b2:=bt b1 b2;clear HO ho b1;go_wp2_with fail;go_loopw [7,9] (fun v x wr=> ∃k:Nat,n≤k∧k≤n+s∧x=iV k∧(∃G K,Acc wr w.heap.size v k n G K (Gf.bH n))∧Bl w wr) (fun _ x _=>(n+s)-(intOf x).toNat)
 case atStart=>exact⟨n,c9C _,Nat.le_add_right _ _,rfl,⟨_,_,A2⟩,b2⟩
 case round=>
  clear A2 b2;obtain⟨k,A6,hk,rfl,⟨G,K,hA⟩,hb⟩:=hrel;by_cases A4:k<n+s
  ·have A5:(k:Int)<(n:Int)+(s:Int):=by omega
   have hS:=a4Q k n wr (by omega) h2;go_wp2_with fail;refine hS.mono ?_;rintro e w3 ⟨rfl,A3,b3⟩;have bX:=b3.alloc b3.size (.cells #[.slice (some (aD wr.heap.size 0)) n n] 59);have AX:=hA.bE bX;have rX:aZ (w3.alloc (.cells #[.slice (some (aD wr.heap.size 0)) n n] 59)) wr.heap.size 5 n (fun j=> .int .u8 (Gf.bH n k j:Nat)):=((iL A3).congr (fun j _=>by rw[Gf.xT A6])).alloc _;have sX:=c9E hb.size bX.size;clear hS A3 b3;go_wp2_with (at_builtin;refine wpList_append_own _ rfl (.tmp 32) (.tmp 36) 169 rfl w.heap.size 59 i0 nS 1 24 underlying169 hi A8 A9 Aa rfl (by decide) _ _ _ rfl AX.own (aD w3.heap.size 0) 1 1 [.slice (some (aD wr.heap.size 0)) n n] rfl rfl dD (by intro u hu;simp at hu;subst hu;rfl) (by unfold maxLen;omega) (by omega) sX ?_;intro v1 w4 hown1 hgrow1 _);have A1:=AX.step ⟨hb.size,rX⟩ hown1 hgrow1;have b4:Bl w w4:=(hb.trans (bX.mono hb.size)).grown hgrow1 sX (fun x hx=>(AX.own.lt x hx).1);clear hown1 hgrow1 AX rX bX hA;go_wp2_with fail;exact⟨⟨k+1,by omega,by omega,by go_num,⟨_,_,A1⟩,b4⟩,by simp[intOf];omega⟩
  ·have e8:k=n+s:=by omega
   subst e8;have Ab: ¬((n+s:Nat):Int)<(n:Int)+(s:Int):=by omega
   obtain⟨g,A0,rfl,_,hc,hm⟩:=hA.mat (by omega);clear hA A4;go_wp2_with fail;go_ret2
   exact⟨g,A0,rfl,hc,⟨G,K,hm⟩,hb⟩
end Go.Proofs.YtmcaejooaaahdaaGreat
