import Derived.Test.YtmcaejooaaahdaaGreatZ19
set_option maxHeartbeats 8000000
set_option maxRecDepth 100000
namespace Go.Proofs.YtmcaejooaaahdaaGreat.Gf
open Go.Proofs.Tryz
variable {G K:Nat→Nat} {N a b c g i j k n p x:Nat} {f f':Nat→Nat→Nat} {t:TypeId} {w w':World}
def fW(a b:Nat):Nat→Nat
 |0=>0
 |k+1=>fW a b k^^^sel b k (a*2^k)
def iR(n:Nat):Nat→Nat
 |0=>n
 |j+1=>iR n j^^^sel (iR n j) (14-j) (285*2^(6-j))
def eM(a b:Nat):Nat:=iR (fW a b 8) 7%256
theorem xE(b:Nat)(h:a<256):(k:Nat)→k≤8→fW a b k<2^15
 |0,_=>Nat.two_pow_pos 15
 |k+1,hk=>by
  refine d2A (xE b h k (by omega)) ?_
  unfold sel
  split
  ·have h2:2^k≤2^7:=d2U (by decide) (by omega)
   have h3:a*2^k≤255*2^7:=d0Y (by omega) h2
   omega
  ·decide
theorem a6U(h:n<2^15):(j:Nat)→j≤7→iR n j<2^15
 |0,_=>h
 |j+1,hj=>by
  refine d2A (a6U h j (by omega)) ?_
  unfold sel
  split
  ·have h2:2^(6-j)≤2^6:=d2U (by decide) (by omega)
   have h3:285*2^(6-j)≤285*2^6:=Nat.mul_le_mul_left 285 h2
   omega
  ·decide
theorem b5R(a b k:Nat):(a^^^b)*2^k=a*2^k^^^b*2^k:=by
 have h:=Nat.shiftLeft_xor_distrib (i:=k) (a:=a) (b:=b);rw[Nat.shiftLeft_eq,Nat.shiftLeft_eq,Nat.shiftLeft_eq]at h;exact h
theorem yH(a b c:Nat):(k:Nat)→fW (a^^^b) c k=fW a c k^^^fW b c k
 |0=>(c9V 0).symm
 |k+1=>by
  show fW (a^^^b) c k^^^sel c k ((a^^^b)*2^k)=(fW a c k^^^sel c k (a*2^k))^^^(fW b c k^^^sel c k (b*2^k))
  rw[yH a b c k,b5R,b4B,gH]
theorem vE(a b c:Nat):(k:Nat)→fW a (b^^^c) k=fW a b k^^^fW a c k
 |0=>(c9V 0).symm
 |k+1=>by
  show fW a (b^^^c) k^^^sel (b^^^c) k (a*2^k)=(fW a b k^^^sel b k (a*2^k))^^^(fW a c k^^^sel c k (a*2^k))
  rw[vE a b c k,xI,gH]
theorem uN(x y:Nat):(j:Nat)→iR (x^^^y) j=iR x j^^^iR y j
 |0=>rfl
 |j+1=>by
  show iR (x^^^y) j^^^sel (iR (x^^^y) j) (14-j) (285*2^(6-j))=(iR x j^^^sel (iR x j) (14-j) (285*2^(6-j)))^^^(iR y j^^^sel (iR y j) (14-j) (285*2^(6-j)))
  rw[uN x y j,xI,gH]
theorem vT(a b c:Nat):eM (a^^^b) c=eM a c^^^eM b c:=by
 unfold eM;rw[yH,uN];exact Nat.xor_mod_two_pow (n:=8)
theorem sZ(a b c:Nat):eM a (b^^^c)=eM a b^^^eM a c:=by
 unfold eM;rw[vE,uN];exact Nat.xor_mod_two_pow (n:=8)
theorem c2E(a:Nat):Lin (fun b=>eM a b):=by
 refine⟨?_,fun x y _ _=>sZ a x y⟩;have h:=sZ a 0 0;rw[c9V,c9V]at h;exact h
theorem b8R(c:Nat):Lin (fun b=>eM b c):=by
 refine⟨?_,fun x y _ _=>vT x y c⟩;have h:=vT 0 0 c;rw[c9V,c9V]at h;exact h
theorem oQ(h0:eM 1 j=mul 1 j)(h1:eM 2 j=mul 2 j)(h2:eM 4 j=mul 4 j)(h3:eM 8 j=mul 8 j)(h4:eM 16 j=mul 16 j)(h5:eM 32 j=mul 32 j)(h6:eM 64 j=mul 64 j)(h7:eM 128 j=mul 128 j)
  {a:Nat} (ha:a<256):eM a j=mul a j:=
 pQ (b8R j) (tJ j) h0 h1 h2 h3 h4 h5 h6 h7 ha
theorem b8H(ha:a<256)(hb:b<256):eM a b=mul a b:=
 pQ (c2E a) (tF a)
  (oQ (by decide) (by decide) (by decide) (by decide) (by decide) (by decide) (by decide) (by decide) ha)
  (oQ (by decide) (by decide) (by decide) (by decide) (by decide) (by decide) (by decide) (by decide) ha)
  (oQ (by decide) (by decide) (by decide) (by decide) (by decide) (by decide) (by decide) (by decide) ha)
  (oQ (by decide) (by decide) (by decide) (by decide) (by decide) (by decide) (by decide) (by decide) ha)
  (oQ (by decide) (by decide) (by decide) (by decide) (by decide) (by decide) (by decide) (by decide) ha)
  (oQ (by decide) (by decide) (by decide) (by decide) (by decide) (by decide) (by decide) (by decide) ha)
  (oQ (by decide) (by decide) (by decide) (by decide) (by decide) (by decide) (by decide) (by decide) ha)
  (oQ (by decide) (by decide) (by decide) (by decide) (by decide) (by decide) (by decide) (by decide) ha) hb
def iN(a b:Int)(k:Nat):Int:=(fW a.toNat b.toNat k:Nat)
def eI(a b:Int)(j:Nat):Int:=(iR (fW a.toNat b.toNat 8) j:Nat)
theorem b7E{a:Int}(b:Int)(h0:0≤a)(h1:a≤255)(hk:k≤8):0≤iN a b k∧iN a b k<32768:=by
 have:=xE (a:=a.toNat) b.toNat (by omega) k hk;unfold iN;omega
theorem a1L{a:Int}(b:Int)(h0:0≤a)(h1:a≤255)(hj:j≤7):0≤eI a b j∧eI a b j<32768:=by
 have:=a6U (xE (a:=a.toNat) b.toNat (by omega) 8 (c9C 8)) j hj;unfold eI;omega
theorem a4A{a b:Int}(h0:0≤a)(h1:a≤255)(g0:0≤b)(g1:b≤255):eI a b 7%256=nZ a b:=by
 have h:=b8H (a:=a.toNat) (b:=b.toNat) (by omega) (by omega);unfold eI nZ;rw[←h];unfold eM;omega
theorem a9T(a b:Int)(k:Nat)(hb:b.toNat/2^k%2=1):iN a b (k+1)=(((iN a b k).toNat^^^a.toNat*2^k:Nat):Int):=by
 unfold iN;rw[c9Q];show((fW a.toNat b.toNat k^^^sel b.toNat k (a.toNat*2^k):Nat):Int)=_;unfold sel;rw[if_pos hb]
theorem b8P(a b:Int)(k:Nat)(hb: ¬b.toNat/2^k%2=1):iN a b (k+1)=iN a b k:=by
 unfold iN;show((fW a.toNat b.toNat k^^^sel b.toNat k (a.toNat*2^k):Nat):Int)=_;unfold sel;rw[if_neg hb,d0R]
theorem b2J(a b:Int)(j:Nat)(h:(eI a b j).toNat/2^(14-j)%2=1):eI a b (j+1)=(((eI a b j).toNat^^^285*2^(6-j):Nat):Int):=by
 unfold eI at h⊢;rw[c9Q]at h⊢;show((iR (fW a.toNat b.toNat 8) j^^^sel (iR (fW a.toNat b.toNat 8) j) (14-j) (285*2^(6-j)):Nat):Int)=_;unfold sel;rw[if_pos h]
theorem b5A(a b:Int)(j:Nat)(h: ¬(eI a b j).toNat/2^(14-j)%2=1):eI a b (j+1)=eI a b j:=by
 unfold eI at h⊢;rw[c9Q]at h;show((iR (fW a.toNat b.toNat 8) j^^^sel (iR (fW a.toNat b.toNat 8) j) (14-j) (285*2^(6-j)):Nat):Int)=_;unfold sel;rw[if_neg h,d0R]
end Go.Proofs.YtmcaejooaaahdaaGreat.Gf
namespace Go.Proofs.YtmcaejooaaahdaaGreat
open Go.Proofs.Tryz
variable {G K:Nat→Nat} {N a b c g i j k n p x:Nat} {f f':Nat→Nat→Nat} {t:TypeId} {w w':World}
open Go.RowKit
theorem a7E(b:Int)(k:Nat)(g0:0≤b)(g1:b<32768):(bits .and .i64 (b/2^k) 1==1)=decide (b.toNat/2^k%2=1):=by
 have hd:=b2L b k g0;rw[b4I _ _ hd.1 (by omega) (by decide) (by decide),a4E b k g0,show(1:Int).toNat=1 from rfl,nat_mask1];generalize b.toNat/2^k%2=m;rw[Bool.eq_iff_iff,beq_iff_eq,decide_eq_true_iff];omega
theorem a1E(a:Int)(k:Nat)(h0:0≤a)(h1:a≤285)(hk:k≤7):wrap64 (a*2^k)=((a.toNat*2^k:Nat):Int)∧a.toNat*2^k<65536:=by
 obtain⟨A,rfl⟩:=d0I h0;have h2:2^k≤2^7:=d2U (by decide) hk;have h3:A*2^k≤285*2^7:=d0Y (by omega) h2;have e:((A:Int)*2^k)=((A*2^k:Nat):Int):=by simp
 rw[e,c9Q];generalize A*2^k=m at*;unfold wrap64;omega
theorem c4I(a b:Int)(k:Nat)(hk:k<8)(h0:0≤a)(h1:a≤255)(g0:0≤b)(g1:b≤255)(h:(bits .and .u8 (b/2^k) 1==1)=true):
  bits .xor .i64 (Gf.iN a b k) (wrap64 (a*2^k))=Gf.iN a b (k+1):=by
 rw[a5D b k g0 g1]at h;have r:=Gf.b7E b h0 h1 (d2B hk);have s:=a1E a k h0 (by omega) (by omega);rw[s.1,wW _ _ r.1 (by omega) (by omega) (by omega),Gf.a9T a b k (of_decide_eq_true h),c9Q]
theorem c7O(a b:Int)(k:Nat)(g0:0≤b)(g1:b≤255)(h:(bits .and .u8 (b/2^k) 1==1)=false):
  Gf.iN a b k=Gf.iN a b (k+1):=by
 rw[a5D b k g0 g1]at h;rw[Gf.b8P a b k (of_decide_eq_false h)]
theorem c3Y(a b:Int)(j:Nat)(hj:j<7)(h0:0≤a)(h1:a≤255)(h:(bits .and .i64 (Gf.eI a b j/2^(14-j)) 1==1)=true):
  bits .xor .i64 (Gf.eI a b j) (wrap64 (285*2^(14-j-8)))=Gf.eI a b (j+1):=by
 have r:=Gf.a1L b h0 h1 (d2B hj);rw[a7E _ _ r.1 r.2]at h;have s:=a1E 285 (14-j-8) (by decide) (by decide) (by omega);rw[s.1,wW _ _ r.1 (by omega) (by omega) (by omega),Gf.b2J a b j (of_decide_eq_true h),c9Q,show 14-j-8=6-j by omega];rfl
theorem c6S(a b:Int)(j:Nat)(hj:j<7)(h0:0≤a)(h1:a≤255)(h:(bits .and .i64 (Gf.eI a b j/2^(14-j)) 1==1)=false):
  Gf.eI a b j=Gf.eI a b (j+1):=by
 have r:=Gf.a1L b h0 h1 (d2B hj);rw[a7E _ _ r.1 r.2]at h;rw[Gf.b5A a b j (of_decide_eq_false h)]
theorem rD(a b:Int)(w:World)(h0:0≤a)(h1:a≤255)(g0:0≤b)(g1:b≤255):
  Calls prog 125 #[.int .u8 a,.int .u8 b] w fun e w'=>e=.returned (.int .u8 (Gf.nZ a b))∧w=w':=by
 go_enter func125,ntmps125
 go_wp2_with fail;go_loop [6,7] (fun s i=> ∃k:Nat,k≤8∧i=iV k∧s=iV (Gf.iN a b k)) (fun _ i=>8-(intOf i).toNat)
 case atStart=>exact⟨0,c9D _,rfl,rfl⟩
 case round=>
  obtain⟨k,hk,rfl,rfl⟩:=hrel;by_cases A0:k<8
  ·go_wp2
   ·have hy:(bits BinOp.and IntKind.u8 (b/2^k) 1==1)=true:=by assumption
    exact⟨⟨k+1,by omega,by go_num,cA (c4I a b k A0 h0 h1 g0 g1 hy)⟩,by simp[intOf];omega⟩
   ·have hy:(bits BinOp.and IntKind.u8 (b/2^k) 1==1)=false:=by assumption
    exact⟨⟨k+1,by omega,by go_num,cA (c7O a b k g0 g1 hy)⟩,by simp[intOf];omega⟩
  ·have e8:k=8:=by omega
   subst e8;go_wp2
   go_loop [6,8] (fun s i=> ∃j:Nat,j≤7∧i=iV (14-(j:Int))∧s=iV (Gf.eI a b j)) (fun _ i=>(intOf i).toNat-7)
   case atStart=>exact⟨0,c9D _,rfl,rfl⟩
   case round=>
    obtain⟨j,hj,rfl,rfl⟩:=hrel;by_cases A0:j<7
    ·go_wp2
     ·have hy:(bits BinOp.and IntKind.i64 (Gf.eI a b j/2^(14-j)) 1==1)=true:=by assumption
      exact⟨⟨j+1,by omega,cA (by omega),cA (c3Y a b j A0 h0 h1 hy)⟩,by simp[intOf];omega⟩
     ·have hy:(bits BinOp.and IntKind.i64 (Gf.eI a b j/2^(14-j)) 1==1)=false:=by assumption
      exact⟨⟨j+1,by omega,cA (by omega),cA (c6S a b j A0 h0 h1 hy)⟩,by simp[intOf];omega⟩
    ·have e7:j=7:=by omega
     subst e7;go_wp2
     go_ret
     exact⟨aH (Gf.a4A h0 h1 g0 g1),rfl⟩
theorem b9G{a b:Int}(h0:0≤a)(h1:a≤255)(g0:0≤b)(g1:b≤255)(h:(Gf.nZ a b==1)=true):b=Gf.mS a 254:=by
 have e:Gf.nZ a b=1:=by simpa using h
 have u:=Gf.c1H (a:=a.toNat) (b:=b.toNat) (by omega) (by omega) (by unfold Gf.nZ at e;omega);show b=((Gf.inv a.toNat:Nat):Int);omega
theorem b7N{a:Int}(h0:0≤a)(h1:a≤255)(h: ∀c:Nat,1≤c→c<256→Gf.nZ a c≠1):Gf.mS a 254=0:=by
 by_cases ha:a=0
 ·rw[ha];show((Gf.inv 0:Nat):Int)=0;rw[Gf.b9W];rfl
 ·exfalso;have i:=Gf.iW a.toNat;have n:=Gf.a3U (a:=a.toNat) (by omega) (by omega);refine h (Gf.inv a.toNat) (by omega) i ?_;unfold Gf.nZ;rw[c9Q,Gf.nK (by omega) (by omega)];rfl
theorem b0U(a:Int)(w:World)(h0:0≤a)(h1:a≤255):
  Calls prog 154 #[.int .u8 a] w fun e w'=>e=.returned (.int .u8 (Gf.mS a 254))∧w=w':=by
 go_enter func154,ntmps154
 go_wp2_with fail;go_loop [3] (fun i=> ∃k:Nat,1≤k∧k≤256∧i=iV k∧Hid (∀c:Nat,1≤c→c<k→Gf.nZ a c≠1)) (fun i=>256-(intOf i).toNat)
 case atStart=>exact⟨1,by omega,by omega,rfl,fun c h g=>absurd g (by omega)⟩
 case round=>
  obtain⟨k,A2,hk,rfl,HN⟩:=hrel;by_cases A3:k<256
  ·have l1:(k:Int)≤255:=by omega
   by_cases hh:(Gf.nZ a k==1)=true
   ·go_wp2_with fail;refine(rD _ _ _ h0 h1 (by omega) (by omega)).mono ?_;rintro e w1 ⟨rfl,rfl⟩;go_wp2_with fail;go_ret
    exact⟨aH (b9G h0 h1 (by omega) l1 hh),rfl⟩
   ·have A1:(Gf.nZ a k==1)=false:=by simpa using hh
    clear hh;go_wp2_with fail;refine(rD _ _ _ h0 h1 (by omega) (by omega)).mono ?_;rintro e w1 ⟨rfl,rfl⟩;go_wp2_with fail;refine⟨⟨k+1,by omega,by omega,by go_num,?_⟩,by simp[intOf];omega⟩;intro c hc1 hc2;by_cases A0:c=k
    ·subst A0;simpa using A1
    ·exact HN.out c hc1 (by omega)
  ·have e8:k=256:=by omega
   subst e8;go_wp2_with fail;go_ret
   exact⟨aH (b7N h0 h1 HN.out).symm,rfl⟩
theorem b0W(a b:Nat)(w:World)(ha:a<256)(hb:b<256):
  Calls prog 125 #[.int .u8 a,.int .u8 b] w fun e w'=>e=.returned (.int .u8 ((Gf.mul a b:Nat):Int))∧w=w':=by
 rw[←a5P];exact rD _ _ _ (by omega) (by omega) (by omega) (by omega)
theorem zW(a:Nat)(w:World)(ha:a<256):
  Calls prog 154 #[.int .u8 a] w fun e w'=>e=.returned (.int .u8 ((Gf.inv a:Nat):Int))∧w=w':=by
 have h:Gf.mS (a:Int) 254=((Gf.inv a:Nat):Int):=by
  unfold Gf.mS Gf.inv;rw[c9Q];rfl
 rw[←h];exact b0U _ _ (by omega) (by omega)
theorem jW(v:Value)(n:Nat)(L:Nat→Nat)(f:Nat→Nat→Nat)(w:World)(h:Arg w v n L f):
  Calls prog 124 #[v] w fun e w'=>e=.returned (iV (aB n L:Nat))∧Bl w w':=by
 obtain⟨A,A9,R,C,rfl,hr⟩:=h.lies;clear h;by_cases h1:n<1
 ·have H:Hid (aB n L=5):=by show aB n L=5;unfold aB;rw[if_pos (Or.inl h1)]
  have A3:n=0:=by omega
  subst A3;clear hr h1;go_enter func124,ntmps124
  go_wp2_with fail;go_ret
  exact⟨aH (by rw[H.out];rfl),Below.refl _ _⟩
 have A3:((n:Int)==0)=false:=by rw[beq_eq_false_iff_ne];omega
 by_cases h2:12<n
 ·have H:Hid (aB n L=5):=by show aB n L=5;unfold aB;rw[if_pos (Or.inr (Or.inl h2))]
  have A6:(12:Int)<(n:Int):=by omega
  clear hr h1 h2;go_enter func124,ntmps124
  go_wp2_with fail;go_ret
  exact⟨aH (by rw[H.out];rfl),Below.refl _ _⟩
 obtain⟨b,o,rfl,A4,_⟩:=hr 0 (by omega);have hc: ∀r,r<n→w.cell? (aD b (o+r))=some (.slice (R r) (L r) (C r)):=fun r hrn=>by
  obtain⟨b',o',e1,e2,_⟩:=hr r hrn;cases e1
  exact e2
 clear hr;have A6: ¬(12:Int)<(n:Int):=by omega
 have Aa:(0:Int)<(n:Int):=by omega
 have A8:0<n:=by omega
 have A0:w.cell? (aD b o)=some (.slice (R 0) (L 0) (C 0)):=by simpa using A4
 clear A4;by_cases h3:L 0<1
 ·have H:Hid (aB n L=5):=by show aB n L=5;unfold aB;rw[if_pos (Or.inr (Or.inr (Or.inl h3)))]
  have A1:L 0=0:=by omega
  rw[A1]at A0;clear h1 h2 h3 hc A1;go_enter func124,ntmps124
  go_wp2_with fail;go_ret
  exact⟨aH (by rw[H.out];rfl),Below.refl _ _⟩
 have A1:((L 0:Int)==0)=false:=by rw[beq_eq_false_iff_ne];omega
 by_cases h4:400<L 0
 ·have H:Hid (aB n L=5):=by show aB n L=5;unfold aB;rw[if_pos (Or.inr (Or.inr (Or.inr h4)))]
  have A5:(400:Int)<(L 0:Int):=by omega
  clear h1 h2 h3 h4 hc;go_enter func124,ntmps124
  go_wp2_with fail;go_ret
  exact⟨aH (by rw[H.out];rfl),Below.refl _ _⟩
 have A5: ¬(400:Int)<(L 0:Int):=by omega
 have HL:Hid (¬(n<1∨12<n∨L 0<1∨400<L 0)):=by show¬_;omega
 have HC:=hd8 hc;clear h1 h2 h3 h4 hc;go_enter func124,ntmps124
 go_wp2_with fail;go_loopw [28] (fun i wr=> ∃k:Nat,k≤n∧i=iV k∧Hid (∀r,r<k→L r=L 0)∧Bl w wr) (fun i _=>n-(intOf i).toNat)
 case atStart=>exact⟨0,c9D _,rfl,fun r hr=>absurd hr (c9L r),Below.refl _ _⟩
 case round=>
  obtain⟨k,hk,rfl,HS,hb⟩:=hrel;have c0:=cB8 hb A0;clear A0;by_cases A2:k<n
  ·have A7:(k:Int)<(n:Int):=by omega
   have ck:=cB8 hb (HC.out k A2);by_cases hy:L k=L 0
   ·rw[hy]at ck;have HY:=hd8 hy;clear hy;go_wp2_with fail;go_region
    go_wp2_with fail;refine⟨⟨k+1,by omega,by go_num,fun r hr=>?_,hb.drew⟩,by simp[intOf];omega⟩;by_cases e:r=k
    ·rw[e];exact HY.out
    ·exact HS.out r (by omega)
   ·have Ab:((L k:Int)==(L 0:Int))=false:=by rw[beq_eq_false_iff_ne];omega
    have H:Hid (aB n L=2):=by
     show aB n L=2;unfold aB;rw[if_neg HL.out,if_neg (fun h=>hy (h k A2))]
    clear hy;go_wp2_with fail;go_region
    go_wp2_with fail;go_ret
    exact⟨aH (by rw[H.out];rfl),hb.drew⟩
  ·have e8:k=n:=by omega
   subst e8;have H:Hid (aB k L=0):=by
    show aB k L=0;unfold aB;rw[if_neg HL.out,if_pos HS.out]
   go_wp2_with fail;go_ret
   exact⟨aH (by rw[H.out];rfl),hb⟩
theorem jL(a b:Nat)(w:World)(ha:a<256)(hb:b<256):
  Calls prog 125 #[.int .u8 a,.int .u8 b] w fun e w'=>e=.returned (.int .u8 ((Gf.mul a b:Nat):Int))∧w'=w:=
 (b0W a b w ha hb).mono fun _ _ ⟨h1,h2⟩=>⟨h1,h2.symm⟩
def vN(f:Nat→Nat)(j:Nat):List Value:=(List.range j).map fun l=> .int .u8 (f l:Nat)
theorem a9H{x:Value}: ∀j u,[x][j]?=some u→(w.alloc (.cells #[x] t)).cell? ((⟨w.heap.size,0,none⟩:Addr).add j)=some u:=by
 intro j u hj;match j,hj with
 |0,hj=>
  simp at hj;subst hj;simp[Addr.add]
 |j+1,hj=>simp at hj
theorem dY(d s:Int)(w:World):
  Calls prog 13 #[iV d,iV s] w fun e w'=>e=.returned (iV (bP d s:Nat))∧Bl w w':=by
 by_cases h1:d<1
 ·have H:Hid (bP d s=5):=cC (by omega);go_enter func13,ntmps13
  go_wp2_with fail;go_ret
  exact⟨aH (by rw[H.out];rfl),Below.refl _ _⟩
 by_cases h2:8<d
 ·have H:Hid (bP d s=5):=cC (by omega);go_enter func13,ntmps13
  go_wp2_with fail;go_ret
  exact⟨aH (by rw[H.out];rfl),Below.refl _ _⟩
 by_cases h3:s<0
 ·have H:Hid (bP d s=5):=cC (by omega);go_enter func13,ntmps13
  go_wp2_with fail;go_ret
  exact⟨aH (by rw[H.out];rfl),Below.refl _ _⟩
 by_cases h4:4<s
 ·have H:Hid (bP d s=5):=cC (by omega);go_enter func13,ntmps13
  go_wp2_with fail;go_ret
  exact⟨aH (by rw[H.out];rfl),Below.refl _ _⟩
 have H:Hid (bP d s=0):=cN (by omega);go_enter func13,ntmps13
 go_wp2_with fail;go_ret
 exact⟨aH (by rw[H.out];rfl),Below.refl _ _⟩
theorem wH(d s:Int)(w:World)(h:d<1∨8<d∨s<0∨4<s):
  Calls prog 123 #[iV d,iV s] w fun e w'=>e=.returned (.tuple #[nS,iV 5])∧Bl w w':=by
 have H:=dY d s;rw[cC h]at H;clear h;go_enter func123,ntmps123
 go_wp2_with fail;refine(H _).mono ?_;rintro e w1 ⟨rfl,b1⟩;go_wp2_with fail;go_ret2
 exact⟨rfl,b1⟩
theorem b2K{f h:Nat→Nat}(hr:w.rowIs g t n (fun j=> .int .u8 (dV k h f j:Nat)))(e:h k=f k):w.rowIs g t n (fun j=> .int .u8 (dV (k+1) h f j:Nat)):=
 hr.congr (fun j _=>by
  rw[a1M]
  by_cases ej:j=k
  ·rw[if_pos ej,ej,pU,e]
  ·rw[if_neg ej])
theorem lJ(n s:Nat)(w:World)(h1:1≤n)(h2:n≤8)(h3:s≤4):
  Calls prog 123 #[iV n,iV s] w fun e w'=>
   ∃g A2,e=.returned (.tuple #[.slice (some (aD g 0)) (n+s) A2,iV 0])∧n+s≤A2∧(∃G K,jV w' g 0 (n+s) n G (fun _=>0) K (Gf.bH n))∧Bl w w':=by
 have H:=dY n s;rw[cN (show¬((n:Int)<1∨8<(n:Int)∨(s:Int)<0∨4<(s:Int)) by omega)]at H;obtain⟨i0,hi,hh⟩:=c9J.1 Tryz.infoRow;simp only[Prod.mk.injEq]at hh;obtain⟨Aa,Ae,Ab⟩:=hh;have A6:=run_make_row' (P:=prog) 59 5 (.int .u8 0) 1 underlying59 Tryz.infoByte rfl .i64 .i64 n (by omega) (by omega);go_enter func123,ntmps123
 go_wp2_with fail;refine(H _).mono ?_;rintro e w1 ⟨rfl,b1⟩;clear H;go_wp2_with fail;go_loopw [7,8] (fun v x wr=> ∃k:Nat,k≤n+s∧x=iV k∧(∃G K,Acc wr w.heap.size v k n G K (Gf.bH n))∧Bl w wr) (fun _ x _=>(n+s)-(intOf x).toNat)
 case atStart=>exact⟨0,c9D _,rfl,⟨fun _=>0,fun _=>0,Acc.start w1 _ n _ _ _⟩,b1⟩
 case round=>
  clear b1;obtain⟨k,hk,rfl,⟨G,K,hA⟩,hb⟩:=hrel;obtain⟨wo,rfl⟩: ∃x,x=wr:=⟨wr,rfl⟩;by_cases A7:k<n+s
  ·have Ac:(k:Int)<(n:Int)+(s:Int):=by omega
   go_wp2_with fail;go_loopw [28] (fun z wi=> ∃j:Nat,j≤n∧z=iV j∧wi.rowIs wo.heap.size 5 n (fun x=> .int .u8 (dV j (Gf.bH n k) (fun _=>0) x:Nat))∧Bl wo wi) (fun z _=>n-(intOf z).toNat)
   case atStart=>exact⟨0,c9D _,rfl,(World.rowIs_made wo (.int .u8 0) n 5).congr (fun j _=>by rw[show dV 0 (Gf.bH n k) (fun _=>0) j=0 from if_neg (c9L _)];rfl),aB8 _ _⟩
   case round=>
    obtain⟨j,hj,rfl,hw,A0⟩:=hrel;by_cases Ad:j<n
    ·have Ai:(j:Int)<(n:Int):=by omega
     have hc:=hw.cell Ad;have Aj:=hw.frozen j;by_cases A9:n≤k
     ·have A4:(n:Int)≤(k:Int):=by omega
      have hx:k^^^j<256:=Gf.fE (by omega) (by omega);have Af:bits .xor .i64 (k:Int) (j:Int)=((k^^^j:Nat):Int):=by
       rw[wW _ _ (by omega) (by omega) (by omega) (by omega),c9Q,c9Q]
      have Ag:=a1N hx;have HP:=lU (h:=Gf.bH n k) hw;rw[show Gf.bH n k j=Gf.inv (k^^^j)from Gf.zT A9 j]at HP;clear hw;go_wp2_with fail;refine(zW _ _ hx).mono ?_;rintro e w2 ⟨rfl,rfl⟩;go_wp2_with fail;exact⟨⟨j+1,by omega,by go_num,HP,A0.setCell (p:=⟨wo.heap.size,j,none⟩) (c9C _) _⟩,by simp[intOf];omega⟩
     ·have A4: ¬(n:Int)≤(k:Int):=by omega
      by_cases A3:k=j
      ·subst A3;have HP:=lU (h:=Gf.bH n k) hw;rw[show Gf.bH n k k=1 from(Gf.oK (by omega) k).trans (Gf.kU k)]at HP;clear hw;go_wp2_with fail;exact⟨⟨k+1,by omega,by go_num,HP,A0.setCell (p:=⟨wo.heap.size,k,none⟩) (c9C _) _⟩,by simp[intOf];omega⟩
      ·have A8:((k:Int)==(j:Int))=false:=by rw[beq_eq_false_iff_ne];omega
       have HP:=b2K hw ((Gf.oK (by omega) j).trans (Gf.gQ A3));clear hw A3;go_wp2_with fail;exact⟨⟨j+1,by omega,by go_num,HP,A0⟩,by simp[intOf];omega⟩
    ·have ej:j=n:=by omega
     subst ej;have hF:aY wr wo.heap.size 5 j (fun x=> .int .u8 (Gf.bH j k x:Nat)):=iE (hw.congr (fun x hx=>by rw[show dV j (Gf.bH j k) (fun _=>0) x=Gf.bH j k x from if_pos hx]));have A5:=(Below.refl wr.heap.size wr).alloc (c9C _) (.cells #[.slice (some (aD wo.heap.size 0)) j j] 59);have AX:=(hA.below A0).below A5;have rX:=hF.alloc (.cells #[.slice (some (aD wo.heap.size 0)) j j] 59);have bX:=bt (bt hb A0) A5;clear hw hF hA A6;go_wp2_with (at_builtin;refine wpList_append_own _ rfl (.tmp 49) (.tmp 51) 169 rfl w.heap.size 59 i0 nS 1 24 underlying169 hi Aa Ae Ab rfl (by decide) _ _ _ rfl AX.own (aD wr.heap.size 0) 1 1 [.slice (some (aD wo.heap.size 0)) j j] rfl rfl cZ (by intro u hu;simp at hu;subst hu;rfl) (by unfold maxLen;omega) (by omega) bX.size ?_;intro v1 w4 hown1 hgrow1 _);have A1:=AX.step ⟨hb.size,rX⟩ hown1 hgrow1;have b4:Bl w w4:=bX.grown hgrow1 bX.size (fun x hx=>(AX.own.lt x hx).1);clear hown1 hgrow1 AX rX bX A5 A0;go_wp2_with fail;exact⟨⟨k+1,by omega,by go_num,⟨_,_,A1⟩,b4⟩,by simp[intOf];omega⟩
  ·have e8:k=n+s:=by omega
   subst e8;have Ah: ¬((n+s:Nat):Int)<(n:Int)+(s:Int):=by omega
   obtain⟨g,A2,rfl,_,hc,hm⟩:=hA.mat (by omega);clear hA A7 A6;go_wp2_with fail;go_ret2
   exact⟨g,A2,rfl,hc,⟨G,K,hm⟩,hb⟩
theorem a0O(v:Value)(n:Nat)(A:Option Addr)(cap:Nat)(hv:v=.slice A n cap)(s:Int)(w:World)(h:(n:Int)<1∨8<(n:Int)∨s<0∨4<s):
  Calls prog 94 #[v,iV s] w fun e w'=>e=.returned (.tuple #[nS,iV 5])∧Bl w w':=by
 subst hv;have H:=fun w=>wH n s w h;clear h;go_enter func94,ntmps94
 go_wp2_with fail;refine(H _).mono ?_;rintro e w1 ⟨rfl,b1⟩;go_wp2_with fail;go_ret2
 exact⟨rfl,b1⟩
theorem a0R(v:Value)(n s:Nat)(L:Nat→Nat)(f:Nat→Nat→Nat)(w:World)(h:Arg w v n L f)(h1:1≤n)(h2:n≤8)(h3:s≤4)(hx:aB n L≠0):
  Calls prog 94 #[v,iV s] w fun e w'=>e=.returned (.tuple #[nS,iV (aB n L:Nat)])∧Bl w w':=by
 have HW:=fun w' hb'=>jW v n L f w' (h.below (w':=w') hb');have HR:=fun w=>lJ n s w h1 h2 h3;obtain⟨A,A0,R,C,rfl,_⟩:=h.lies;generalize aB n L=x at HW hx;have A1:((x:Int)==0)=false:=by rw[beq_eq_false_iff_ne];omega
 clear h hx;go_enter func94,ntmps94
 go_wp2_with fail;refine(HR _).mono ?_;rintro e w1 ⟨g,cp,rfl,_,_,b1⟩;go_wp2_with fail;refine(HW _ b1).mono ?_;rintro e w2 ⟨rfl,b2⟩;go_wp2_with fail;go_ret2
 exact⟨rfl,bt b1 b2⟩
theorem a0G(v:Value)(n:Nat)(L:Nat→Nat)(f:Nat→Nat→Nat)(w:World)(h:Arg w v n L f)(h1:1≤n)(h2:n≤8)(hx:aB n L=0):
  Calls prog 94 #[v,iV 0] w fun e w'=>e=.returned (.tuple #[nS,iV 0])∧Bl w w':=by
 have HW:=fun w' hb'=>jW v n L f w' (h.below (w':=w') hb');have HR:=fun w=>lJ n 0 w h1 h2 (by omega);obtain⟨A,A1,R,C,rfl,_⟩:=h.lies;rw[hx]at HW;clear h hx;go_enter func94,ntmps94
 go_wp2_with fail;refine(HR _).mono ?_;rintro e w1 ⟨g,cp,rfl,A2,_,b1⟩;go_wp2_with fail;refine(HW _ b1).mono ?_;rintro e w2 ⟨rfl,b2⟩;have b2:=bt b1 b2;by_cases A0:cp=n
 ·subst A0;go_wp2_with fail;refine wp_loop_rounds 1 ?_;rw[rounds_succ];go_wp2_with fail;go_ret2
  exact⟨rfl,b2⟩
 ·go_wp2_with fail;refine wp_loop_rounds 1 ?_;rw[rounds_succ];go_wp2_with fail;go_ret2
  exact⟨rfl,b2⟩
def wL(k d:Nat)(M:Nat→Nat)(x:Nat):Nat:=if x<k then M x else if x=k then d else 0
theorem xK(k:Nat)(M:Nat→Nat)(x:Nat):wL k 0 M x=dV k M (fun _=>0) x:=by
 unfold wL dV;by_cases h:x<k
 ·rw[if_pos h,if_pos h]
 ·rw[if_neg h,if_neg h];split<;>rfl
theorem a1C(k:Nat)(M:Nat→Nat)(x:Nat):wL k (M k) M x=dV (k+1) M (fun _=>0) x:=by
 unfold wL dV;by_cases h:x<k
 ·rw[if_pos h,if_pos (by omega)]
 ·rw[if_neg h];by_cases e:x=k
  ·rw[if_pos e,if_pos (by omega),e]
  ·rw[if_neg e,if_neg (by omega)]
theorem a1H(k d:Nat)(M:Nat→Nat):wL k d M k=d:=by
 unfold wL;rw[if_neg (d0V _),if_pos rfl]
theorem a2M{d d':Nat}{M:Nat→Nat}(h:w.rowIs g t c (fun x=> .int .u8 (wL k d M x:Nat))):(w.setCell (aD g k) (.int .u8 d')).rowIs g t c (fun x=> .int .u8 (wL k d' M x:Nat)):=
 (h.set k _).congr (fun x _=>by
  unfold wL
  by_cases e:x=k
  ·rw[if_pos e,if_neg (by omega),if_pos e]
  ·rw[if_neg e,if_neg e,if_neg e])
theorem tG(v:Value)(n s c:Nat)(f:Nat→Nat→Nat)(w:World)(h:Mx w v n c f)(h2:n≤8)(h3:1≤s)(h4:s≤4):
  Calls prog 94 #[v,iV s] w fun e w'=> ∃v' N G K,e=.returned (.tuple #[v',iV 0])∧w.heap.size≤N∧Acc w' N v' s c G K (Gf.mm n (cP n) f)∧(∀j,j<s→K j=c)∧Bl w w':=by
 obtain⟨d1,d2,d3,d4⟩:=h.dim;have HW:=fun w' hb'=>jW v n _ f w' (h.below (w':=w') hb').arg;have HR:=fun w=>lJ n s w d1 h2 h4;rw[h.ok]at HW;have Ah:=h.bd;obtain⟨bb,ob,pb,Gb,Ob,Kb,rfl,A9⟩:=h.lies;obtain⟨i0,hi,hh⟩:=c9J.1 Tryz.infoRow;simp only[Prod.mk.injEq]at hh;obtain⟨Ab,Ae,Af⟩:=hh;have Aa:=run_make_row' (P:=prog) 59 5 (.int .u8 0) 1 underlying59 Tryz.infoByte rfl .i64 .i64 c (by omega) (by omega);have Aj:(0:Int)<(n:Int):=by omega
 clear h;go_enter func94,ntmps94
 go_wp2_with fail;refine(HR _).mono ?_;rintro e w1 ⟨g,cp,rfl,Ap,⟨G,K,hm⟩,b1⟩;go_wp2_with fail;refine(HW _ b1).mono ?_;rintro e w2 ⟨rfl,b2⟩;have hm:=(hm.below b2).spare;have b2:=bt b1 b2;have Aq: ¬cp=n:=by omega
 have Ao:(n:Int)≤((n+s:Nat):Int):=by omega
 clear HR HW b1;go_wp2_with fail;go_loopw [9,35] (fun v x wr=> ∃i:Nat,i≤s∧x=iV i∧(∃G K,Acc wr w2.heap.size v i c G K (Gf.mm n (cP n) f)∧Hid (∀j,j<i→K j=c))∧Bl w2 wr) (fun _ x _=>s-(intOf x).toNat)
 case atStart=>exact⟨0,c9D _,rfl,⟨fun _=>0,fun _=>0,Acc.start w2 _ c _ _ _,fun j hj=>absurd hj (c9L j)⟩,Below.refl _ _⟩
 case round=>
  obtain⟨i,Am,rfl,⟨G2,K2,hA,HK⟩,A2⟩:=hrel;obtain⟨wo,rfl⟩: ∃x,x=wr:=⟨wr,rfl⟩;by_cases A8:i<s
  ·have Ac:(i:Int)<(s:Int):=by omega
   have t1:=(hm.below A2).top i A8;have t2:wo.cell? (aD bb ob)=some (.slice (some ⟨Gb 0,Ob 0,none⟩) c (Kb 0)):=by simpa using(A9.below (bt b2 A2)).top 0 (by omega)
   go_wp2_with fail;clear t1 t2 Aa;go_loopw [46] (fun x wm=> ∃k:Nat,k≤c∧x=iV k∧wm.rowIs wo.heap.size 5 c (fun y=> .int .u8 (dV k (Gf.mm n (cP n) f i) (fun _=>0) y:Nat))∧Bl wo wm) (fun x _=>c-(intOf x).toNat)
   case atStart=>exact⟨0,c9D _,rfl,(World.rowIs_made wo (.int .u8 0) c 5).congr (fun j _=>by rw[show dV 0 (Gf.mm n (cP n) f i) (fun _=>0) j=0 from if_neg (c9L _)];rfl),aB8 _ _⟩
   case round=>
    obtain⟨k,Al,rfl,hR,A3⟩:=hrel;obtain⟨wm,rfl⟩: ∃x,x=wr:=⟨wr,rfl⟩;by_cases hk:k<c
    ·have An:(k:Int)<(c:Int):=by omega
     go_wp2_with fail;go_loopw [51] (fun x wi=> ∃j:Nat,j≤n∧x=iV j∧wi.rowIs wo.heap.size 5 c (fun y=> .int .u8 (wL k (Gf.dot j (cP n i) (fun l=>f l k)) (Gf.mm n (cP n) f i) y:Nat))∧Bl wo wi) (fun x _=>n-(intOf x).toNat)
     case atStart=>exact⟨0,c9D _,rfl,hR.congr (fun y _=>by rw[show Gf.dot 0 (cP n i) (fun l=>f l k)=0 from rfl,xK]),A3⟩
     case round=>
      clear hR A3;obtain⟨j,Ai,rfl,hJ,A4⟩:=hrel;by_cases hj:j<n
      ·have Ak:(j:Int)<(n:Int):=by omega
       have A7:=(hm.below A2).below A4;have A6:=(A9.below (bt b2 A2)).below A4;have u1:=hJ.cell hk;rw[a1H]at u1;have z1:=hJ.frozen k;have u2:=A7.row i A8 j hj;have u3:=A6.top j hj;have u4:=A6.row j hj k hk;rw[c9G]at u2;have Ag:=pO (Gf.mR (gZ n i) (fun l=>f l k) j) (Gf.dO (f j k) (gZ n i j));have HP:=a2M (d':=Gf.dot j (cP n i) (fun l=>f l k)^^^Gf.mul (cP n i j) (f j k)) hJ;have Ad:=A4.setCell (p:=⟨wo.heap.size,k,none⟩) (c9C _) (.int .u8 ((Gf.dot j (cP n i) (fun l=>f l k)^^^Gf.mul (cP n i j) (f j k):Nat):Int));have v1:({wr with A0:=wr.drawn+1}:World).cell? (aD wo.heap.size k)=some (.int .u8 (Gf.dot j (cP n i) (fun l=>f l k):Nat)):=u1;have v2:({wr with A0:=wr.drawn+1}:World).cell? ⟨G (n+i),j,none⟩=some (.int .u8 (cP n i j:Nat)):=u2;have v3:({wr with A0:=wr.drawn+1}:World).cell? (aD bb (ob+j))=some (.slice (some ⟨Gb j,Ob j,none⟩) c (Kb j)):=u3;have v4:({wr with A0:=wr.drawn+1}:World).cell? ⟨Gb j,Ob j+k,none⟩=some (.int .u8 (f j k:Nat)):=u4;clear A7 A6 hJ;go_wp2_with fail;refine wp_region_still_tail 20 (by kernel_rfl) (by kernel_rfl) ?_;simp only[List.take_succ_cons,List.take_zero,List.drop_succ_cons,List.drop_zero];iterate 17 still_step
       still_call (jL _ _ _ (gZ n i j) (Ah j k))
       iterate 2 still_step
       refine wpStill_nil ?_;go_wp2_with fail;exact⟨⟨j+1,by omega,by go_num,HP.drew,Ad.drew⟩,by simp[intOf];omega⟩
      ·have ej:j=n:=by omega
       subst ej;have HD:wr.rowIs wo.heap.size 5 c (fun y=> .int .u8 (dV (k+1) (Gf.mm j (cP j) f i) (fun _=>0) y:Nat)):=hJ.congr (fun y _=>by rw[←a1C];rfl);clear hJ;go_wp2_with fail;exact⟨⟨k+1,by omega,by go_num,HD,A4⟩,by simp[intOf];omega⟩
    ·have ek:k=c:=by omega
     subst ek;have hF:aY wm wo.heap.size 5 k (fun y=> .int .u8 (Gf.mm n (cP n) f i y:Nat)):=iE (hR.congr (fun y hy=>by rw[show dV k (Gf.mm n (cP n) f i) (fun _=>0) y=Gf.mm n (cP n) f i y from if_pos hy]));have A5:=(Below.refl wm.heap.size wm).alloc (c9C _) (.cells #[.slice (some (aD wo.heap.size 0)) k k] 59);have AX:=(hA.below A3).below A5;have rX:=hF.alloc (.cells #[.slice (some (aD wo.heap.size 0)) k k] 59);have bX:=bt (bt A2 A3) A5;clear hR hF hA;go_wp2_with (at_builtin;refine wpList_append_own _ rfl (.tmp 76) (.tmp 78) 86 rfl w2.heap.size 59 i0 nS 1 24 underlying86 hi Ab Ae Af rfl (by decide) _ _ _ rfl AX.own (aD wm.heap.size 0) 1 1 [.slice (some (aD wo.heap.size 0)) k k] rfl rfl cZ (by intro u hu;simp at hu;subst hu;rfl) (by unfold maxLen;omega) (by omega) bX.size ?_;intro v1 w4 hown1 hgrow1 _);have A1:=AX.step ⟨A2.size,rX⟩ hown1 hgrow1;have b4:Bl w2 w4:=bX.grown hgrow1 bX.size (fun x hx=>(AX.own.lt x hx).1);clear hown1 hgrow1 AX rX bX A5 A3;go_wp2_with fail
     exact⟨⟨i+1,by omega,by go_num,⟨_,_,A1,fun j hj=>by
      unfold lO;by_cases e:j=i
      ·rw[if_pos e]
      ·rw[if_neg e];exact HK.out j (by omega)⟩,b4⟩,by simp[intOf];omega⟩
  ·have ei:i=s:=by omega
   subst ei;have HA:=hd8 hA;clear hA Aa;go_wp2_with fail;go_ret2
   exact⟨_,w2.heap.size,_,_,rfl,b2.size,HA.out,HK.out,bt b2 A2⟩
theorem a7M(v:Value)(n s c:Nat)(f:Nat→Nat→Nat)(w:World)(h:Mx w v n c f)(h2:n≤8)(h3:1≤s)(h4:s≤4):
  Calls prog 94 #[v,iV s] w fun e w'=> ∃v',e=.returned (.tuple #[v',iV 0])∧Mx w' v' s c (Gf.mm n (cP n) f)∧Bl w w':=by
 obtain⟨_,_,d3,d4⟩:=h.dim;refine(tG v n s c f w h h2 h3 h4).mono ?_;rintro e w' ⟨v',N,G,K,rfl,_,hA,_,hb⟩;exact⟨v',rfl,hA.mx (Gf.oS (gZ n) n f) ⟨h3,by omega,d3,d4⟩,hb⟩
theorem b6G(v:Value)(n:Nat)(L:Nat→Nat)(f:Nat→Nat→Nat)(s:Int)(w:World)(h:Arg w v n L f):
  Calls prog 94 #[v,iV s] w fun e w'=> ∃v',e=.returned (.tuple #[v',iV (uJ n L s:Nat)])∧Out w' (uJ n L s) v' s.toNat (L 0) (Gf.mm n (cP n) f)∧Bl w w':=by
 by_cases hc:(n:Int)<1∨8<(n:Int)∨s<0∨4<s
 ·rw[show uJ n L s=5 from if_pos (by rw[cC hc];decide)];obtain⟨A,A0,R,C,hv,_⟩:=h.lies;exact(a0O v n A A0 hv s w hc).mono fun e w' ⟨h1,h2⟩=>⟨_,h1,Or.inr ⟨Or.inl (by decide),rfl⟩,h2⟩
 ·rw[show uJ n L s=aB n L from if_neg (by rw[cN hc];simp)];obtain⟨m,rfl⟩:=d0I (show 0≤s by omega);by_cases hw:aB n L=0
  ·rw[hw];rcases Nat.eq_zero_or_pos m with rfl|hm
   ·exact(a0G v n L f w h (by omega) (by omega) hw).mono fun e w' ⟨h1,h2⟩=>⟨_,h1,Or.inr ⟨Or.inr rfl,rfl⟩,h2⟩
   ·exact(a7M v n m (L 0) f w (h.mx hw) (by omega) hm (by omega)).mono fun e w' ⟨v',h1,h2,h3⟩=>⟨v',h1,Or.inl ⟨rfl,h2⟩,h3⟩
  ·exact(a0R v n m L f w h (by omega) (by omega) (by omega) hw).mono fun e w' ⟨h1,h2⟩=>⟨_,h1,Or.inr ⟨Or.inl hw,rfl⟩,h2⟩
theorem qM(N:Nat)(v:Value)(d s n:Nat)(G K:Nat→Nat)(D:Nat→Nat→Nat)(w:World)(hA:Acc w N v d n G K D)(HK: ∀j,j<d→K j=n)(bd:Gf.Bd2 D)(h1:1≤d)(h2:d≤8)(h3:s≤4)(hn1:1≤n)(hn2:n≤400)(hN:N≤w.heap.size):
  Calls prog 94 #[v,iV s] w fun e w'=> ∃vm v9 w5,e=.returned (.tuple #[vm,iV 0])∧(Builtin.append_ #[86,86] 86 #[v,vm]).run prog w'=.ok v9 w5∧Lls w5 v9 (d+s) (fun _=>n) (Gf.mm d (Gf.bH d) D)∧Below N w w5:=by
 have hM:=hA.mx bd ⟨h1,by omega,hn1,hn2⟩;have A1:=Gf.oS (Gf.eK d) d D;by_cases hs:1≤s
 ·refine(tG v d s n D w hM h2 hs h3).mono ?_;rintro e w' ⟨vm,N',G',K',rfl,A3,A4,A2,hb⟩;obtain⟨v9,w5,r9,b9,A9⟩:=c2S w' N v d s n G K G' K' D _ N' vm (by omega) (c9E hN hb.size) (c9E hN A3) (hA.below hb) A4 hs;refine⟨vm,v9,w5,rfl,r9,?_,(hb.mono hN).trans b9⟩;refine pW (A9.lls (fun i k=>?_) (fun i hi=>?_)) A1 (fun i hi k _=>?_)
  ·show(if i<d then D i else Gf.mm d (cP d) D (i-d)) k<256;by_cases e:i<d
   ·rw[if_pos e];exact bd i k
   ·rw[if_neg e];exact Gf.oS (gZ d) d D (i-d) k
  ·show n≤(if i<d then K i else K' (i-d))∧(if i<d then K i else K' (i-d))≤maxLen;by_cases e:i<d
   ·rw[if_pos e,HK i e];exact⟨c9C _,by unfold maxLen;omega⟩
   ·rw[if_neg e,A2 (i-d) (by omega)];exact⟨c9C _,by unfold maxLen;omega⟩
  ·show(if i<d then D i else Gf.mm d (cP d) D (i-d)) k=_;by_cases e:i<d
   ·rw[if_pos e,mO bd e]
   ·rw[if_neg e];have e2:cP d (i-d)=Gf.bH d i:=by
     show Gf.bH d (d+(i-d))=_;rw[show d+(i-d)=i by omega]
    show Gf.dot d (cP d (i-d)) _=Gf.dot d (Gf.bH d i) _;rw[e2]
 ·obtain rfl:s=0:=by omega
  have hE:uJ d (fun _=>n) ((0:Nat):Int)=0:=by
   unfold uJ;rw[if_neg (fun q=>q (cN (by omega)))];exact hM.ok
  refine(b6G v d (fun _=>n) D ((0:Nat):Int) w hM.arg).mono ?_;rintro e w' ⟨vm,rfl,hO,hb⟩;rw[hE]at hO⊢;obtain rfl:vm=nS:=by
   rcases hO with⟨_,hx⟩|⟨_,hx⟩
   ·exact absurd hx.dim.1 (by decide)
   ·exact hx
  obtain⟨g,A5,rfl,_,A0,_⟩:=eD hA.own h1;refine⟨_,_,_,rfl,a3E w' 86 86 underlying86 underlying86 g 0 d A5 A0 86,?_,hb.mono hN⟩;refine pW ((hA.below hb).lls bd (fun i hi=>?_)) A1 (fun i hi k _=>(mO bd hi k).symm);rw[HK i hi];exact⟨c9C _,by unfold maxLen;omega⟩
theorem b3I(k:Nat)(M N:Nat→Nat):dV k M N k=N k:=if_neg (d0V k)
theorem a8N{M N:Nat→Nat}(h:M k=x)(y:Nat):(if y=k then Value.int .u8 ((x:Nat):Int)else .int .u8 ((dV k M N y:Nat):Int))=.int .u8 ((dV (k+1) M N y:Nat):Int):=by
 unfold dV;by_cases e:y=k
 ·rw[if_pos e,if_pos (by omega),e,h]
 ·rw[if_neg e];by_cases e2:y<k
  ·rw[if_pos e2,if_pos (by omega)]
  ·rw[if_neg e2,if_neg (by omega)]
theorem a2Z{M:Nat→Nat}(h:M k=0)(y:Nat):Value.int .u8 ((dV k M (fun _=>0) y:Nat):Int)=.int .u8 ((dV (k+1) M (fun _=>0) y:Nat):Int):=by
 unfold dV;by_cases e:y<k
 ·rw[if_pos e,if_pos (by omega)]
 ·rw[if_neg e];by_cases e2:y<k+1
  ·rw[if_pos e2,show y=k by omega,h]
  ·rw[if_neg e2]
theorem b5U(v:Value)(L:Nat)(r:Nat→Nat)(seg d s:Nat)(w:World)(h:cF w v L r)(h1:1≤d)(h2:d≤8)(h3:s≤4)(h4:seg≤39)(h5:L≤400*d):
  Calls prog 62 #[v,iV seg,iV d,iV s] w fun e w'=> ∃v',e=.returned (.tuple #[v',iV 0])∧Lls w' v' (d+s) (fun _=>Seg.dF L d+11) (Seg.blk r L seg d)∧Bl w w':=by
 have Al:=Seg.pK L d h1;have An:=Seg.nA h1 h5;have HW:=fun w'=>dY (d:Int) (s:Int) w';rw[cN (by omega)]at HW;have Bc: ¬400*(d:Int)<(L:Int):=by omega
 have Bi:(seg:Int)≤39:=by omega
 have Be:Hid (∀w',Bl w w'→cF w' v L r):=fun w' hb=>h.below hb;have Ao:Hid (L≤Seg.dF L d*d):=Seg.uC L d h1;have Ae:Hid (∀n,1≤n→L≤n*d→Seg.dF L d≤n):=fun n q1 q2=>Seg.qX h1 q1 q2;have Az:Hid (Gf.Bd2 (Seg.eT r L (Seg.dF L d))):=Seg.wU h.bd L _;obtain⟨A,C,rfl⟩:=h.shape;have B6:Hid (∀w',Bl w w'→ ∀k,k<L→ ∃b o,A=some (aD b o)∧w'.cell? (aD b (o+k))=some (.int .u8 (r k:Nat))):=fun w' hb k hk=>by
  obtain⟨_,A',C',hv,_,_,hc⟩:=h.below hb;cases hv
  exact hc k hk
 obtain⟨i0,Am,hh⟩:=c9J.1 Tryz.infoRow;simp only[Prod.mk.injEq]at hh;obtain⟨Ag,Ai,Ak⟩:=hh;clear h;go_enter func62,ntmps62
 go_wp2_with fail;refine(HW _).mono ?_;rintro e w1 ⟨rfl,b1⟩;clear HW;go_wp2_with fail;go_loop [11] (fun x=> ∃n:Nat,1≤n∧n≤Seg.dF L d∧x=iV n) (fun x=>Seg.dF L d-(intOf x).toNat)
 case atStart=>exact⟨1,c9C _,Al,rfl⟩
 case round=>
  obtain⟨n,q1,q2,rfl⟩:=hrel;have A2:n*d≤400*8:=d0Y (by omega) h2;have A0:(n:Int)*(d:Int)=((n*d:Nat):Int):=by rw[Int.natCast_mul]
  have hw:IntKind.i64.wrap ((n:Int)*(d:Int))=(n:Int)*(d:Int):=by rw[A0,IntKind.wrap_i64];omega
  have B0: -9223372036854775808≤(n:Int)*(d:Int):=by rw[A0];omega
  have B3:(n:Int)*(d:Int)≤9223372036854775807:=by rw[A0];omega
  by_cases Aj:n*d<L
  ·have A5:(n:Int)*(d:Int)<(L:Int):=by rw[A0];omega
   have B5:Hid (n<Seg.dF L d):=by
    show n<_;refine Nat.lt_of_not_le (fun q=>?_);have:=Ao.out;have h9:=d1J d q;omega
   clear A0 Aj A2;go_wp2_with fail;have:=B5.out;exact⟨⟨n+1,by omega,by omega,by go_num⟩,by simp[intOf];omega⟩
  ·have A5: ¬(n:Int)*(d:Int)<(L:Int):=by rw[A0];omega
   obtain rfl:n=Seg.dF L d:=Nat.le_antisymm q2 (Ae.out n q1 (by omega));generalize hnn:Seg.dF L d=n at*;clear A0 Aj A2 q1 q2 Ao Ae;go_wp2_with fail;clear hw B0 B3 A5;go_loopw [12,13] (fun y x wr=> ∃i:Nat,i≤d∧x=iV i∧(∃G K,Acc wr w1.heap.size y i n G K (Seg.eT r L n)∧Hid (∀j,j<i→K j=n))∧Bl w1 wr) (fun _ x _=>d-(intOf x).toNat)
   case atStart=>exact⟨0,c9D _,rfl,⟨fun _=>0,fun _=>0,Acc.start w1 _ n _ _ _,fun j hj=>absurd hj (c9L j)⟩,Below.refl _ _⟩
   case round=>
    obtain⟨i,B8,rfl,⟨G2,K2,hA,HK⟩,A6⟩:=hrel;obtain⟨wo,rfl⟩: ∃x,x=wr:=⟨wr,rfl⟩;by_cases hi:i<d
    ·have Bh:(i:Int)<(d:Int):=by omega
     have A2:i*n≤8*400:=d0Y (by omega) An;have A0:(i:Int)*(n:Int)=((i*n:Nat):Int):=by rw[Int.natCast_mul]
     have hw:IntKind.i64.wrap ((i:Int)*(n:Int))=(i:Int)*(n:Int):=by rw[A0,IntKind.wrap_i64];omega
     have B4:=run_make_row' (P:=prog) 59 5 (.int .u8 0) 1 underlying59 Tryz.infoByte rfl .i64 .i64 n (by omega) (by omega);have Bb:=hd8 A0;obtain⟨q,hq⟩: ∃q,i*n=q:=⟨_,rfl⟩;rw[hq]at A0 A2;have HQ:=hd8 hq;have As:=hd8 A0;clear A0 hq;go_wp2_with fail;clear B4;go_loopw [57] (fun x wm=> ∃k:Nat,k≤n∧x=iV k∧wm.rowIs wo.heap.size 5 n (fun y=> .int .u8 (dV k (Seg.eT r L n i) (fun _=>0) y:Nat))∧Bl wo wm) (fun x _=>n-(intOf x).toNat)
     case atStart=>exact⟨0,c9D _,rfl,(World.rowIs_made wo (.int .u8 0) n 5).congr (fun j _=>by rw[show dV 0 (Seg.eT r L n i) (fun _=>0) j=0 from if_neg (c9L _)];rfl),aB8 _ _⟩
     case round=>
      obtain⟨k,Bf,rfl,hR,A4⟩:=hrel;by_cases hk:k<n
      ·have Bg:(k:Int)<(n:Int):=by omega
       have Ba:=As.out;have z1:=hR.frozen k;have u1:=hR.cell hk;rw[b3I]at u1;by_cases Ac:q+k<L
       ·have Ad:(q:Int)+(k:Int)<(L:Int):=by omega
        have HD:Hid (Seg.eT r L n i k=r (q+k)):=by
         show Seg.eT r L n i k=r (q+k);rw[Seg.b4F hk (by rw[HQ.out];exact Ac),HQ.out]
        obtain⟨bb,ob,rfl,t1⟩:=B6.out wr (bt (bt b1 A6) A4) (q+k) Ac;have HP:=hd8 ((hR.set k _).congr (fun y _=>a8N HD.out y));have Ah:=A4.setCell (p:=⟨wo.heap.size,k,none⟩) (c9C _) (.int .u8 ((r (q+k):Nat):Int));generalize r (q+k)=x at t1 HP Ah;clear hR;go_wp2_with fail;exact⟨⟨k+1,by omega,by go_num,HP.out,Ah⟩,by simp[intOf];omega⟩
       ·have Ad: ¬(q:Int)+(k:Int)<(L:Int):=by omega
        have HP:Hid (wr.rowIs wo.heap.size 5 n (fun y=> .int .u8 (dV (k+1) (Seg.eT r L n i) (fun _=>0) y:Nat))):=hR.congr (fun y _=>a2Z (Seg.a7Y (by rw[HQ.out];exact Ac)) y);clear hR;go_wp2_with fail;exact⟨⟨k+1,by omega,by go_num,HP.out,A4⟩,by simp[intOf];omega⟩
      ·obtain rfl:k=n:=by omega
       have hF:aY wr wo.heap.size 5 k (fun y=> .int .u8 (Seg.eT r L k i y:Nat)):=iE (hR.congr (fun y hy=>by rw[show dV k (Seg.eT r L k i) (fun _=>0) y=Seg.eT r L k i y from if_pos hy]));have A3:=(Below.refl wr.heap.size wr).alloc (c9C _) (.cells #[.slice (some (aD wo.heap.size 0)) k k] 59);have AX:=(hA.below A4).below A3;have rX:=hF.alloc (.cells #[.slice (some (aD wo.heap.size 0)) k k] 59);have bX:=bt (bt A6 A4) A3;clear hR hF hA;go_wp2_with (at_builtin;refine wpList_append_own _ rfl (.tmp 80) (.tmp 82) 86 rfl w1.heap.size 59 i0 nS 1 24 underlying86 Am Ag Ai Ak rfl (by decide) _ _ _ rfl AX.own (aD wr.heap.size 0) 1 1 [.slice (some (aD wo.heap.size 0)) k k] rfl rfl cZ (by intro u hu;simp at hu;subst hu;rfl) (by unfold maxLen;omega) (by omega) bX.size ?_;intro v4 w4 hown1 hgrow1 _);have A1:=AX.step ⟨A6.size,rX⟩ hown1 hgrow1;have b4:Bl w1 w4:=bX.grown hgrow1 bX.size (fun x hx=>(AX.own.lt x hx).1);clear hown1 hgrow1 AX rX bX A3 A4;go_wp2_with fail
       exact⟨⟨i+1,by omega,by go_num,⟨_,_,A1,fun j hj=>by
        unfold lO;by_cases e:j=i
        ·rw[if_pos e]
        ·rw[if_neg e];exact HK.out j (by omega)⟩,b4⟩,by simp[intOf];omega⟩
    ·obtain rfl:i=d:=by omega
     have HS:=qM w1.heap.size u12 i s n G2 K2 (Seg.eT r L n) wo hA HK.out Az.out h1 h2 h3 Al An A6.size;have Au:Hid (Gf.mm i (Gf.bH i) (Seg.eT r L n)=Seg.lA r L i):=by
      show _=Seg.lA r L i;unfold Seg.lA;rw[hnn]
     clear hA;go_wp2_with fail;refine HS.mono ?_;rintro e w2 ⟨vm,v9,w5,rfl,r9,L9,b5⟩;rw[Au.out]at L9;have b5:=A6.trans b5;obtain⟨A9,C9,rfl⟩:=L9.shape;have Ay:=bt b1 b5;have B9:i+s≤12:=by omega
     clear HS;go_wp2_with (at_builtin;refine Lib.wpList_append_run _ rfl (.tmp 90) (.tmp 91) 86 86 rfl _ _ rfl rfl _ _ r9 ?_);clear r9;have B2:=hd8 fun w' hb j hj=>(L9.below hb).at hj;have Ax:Hid (∀j,j<i+s→Crc.aA seg j L n=0):=fun j hj=>Crc.kC (by omega) (by omega);have Ar:Hid (∀j,j<i+s→a3M (seg:Int) (j:Int) (L:Int) n (Seg.lA r L i j)=Seg.blk r L seg i j):=fun j hj=>by
      unfold a3M;rw[Seg.a4C (by omega),hnn];rfl
     clear L9;go_loopw [18,94] (fun y x wr=> ∃j:Nat,j≤i+s∧x=iV j∧(∃G K,Acc wr w5.heap.size y j (n+11) G K (Seg.blk r L seg i)∧Hid (∀t,t<j→n+11≤K t∧K t≤maxLen))∧Bl w5 wr) (fun _ x _=>i+s-(intOf x).toNat)
     case atStart=>exact⟨0,c9D _,rfl,⟨fun _=>0,fun _=>0,Acc.start w5 _ (n+11) _ _ _,fun j hj=>absurd hj (c9L j)⟩,Below.refl _ _⟩
     case round=>
      obtain⟨j,hj,rfl,⟨G3,K3,A8,Af⟩,A7⟩:=hrel;by_cases Ab:j<i+s
      ·have B7:(j:Int)<(i:Int)+(s:Int):=by omega
       have B1:(j:Int)<((i+s:Nat):Int):=by omega
       obtain⟨b9,o9,R9,K9,rfl,t9,y9⟩:=B2.out wr A7 j Ab;have Aa:=sP (.agg #[iV seg,iV j,iV L,.slice R9 n K9]) seg j L n (Seg.lA r L i j) wr ⟨_,rfl,y9⟩;rw[Ax.out j Ab,Ar.out j Ab]at Aa;clear y9;go_wp2_with fail;refine Aa.mono ?_;rintro e w6 ⟨v6,rfl,O6,b6⟩;have At:kK w6 wr.heap.size v6 (n+11) (Seg.blk r L seg i j):=by
        rcases O6 with⟨_,q⟩|⟨q,_⟩
        ·exact q
        ·exact absurd rfl q
       obtain⟨g6,c6,rfl,Av,Ap,Aw,R6⟩:=At;have A3:=(Below.refl w6.heap.size w6).alloc (c9C _) (.cells #[.slice (some (aD g6 0)) (n+11) c6] 59);have AX:=(A8.below b6).below A3;have rX:=R6.alloc (.cells #[.slice (some (aD g6 0)) (n+11) c6] 59);have bX:=bt (bt A7 b6) A3;have Aq:=hd8 (c9E A7.size Av);clear Aa O6 A8 R6;go_wp2_with (at_builtin;refine wpList_append_own _ rfl (.tmp 109) (.tmp 111) 86 rfl w5.heap.size 59 i0 nS 1 24 underlying86 Am Ag Ai Ak rfl (by decide) _ _ _ rfl AX.own (aD w6.heap.size 0) 1 1 [.slice (some (aD g6 0)) (n+11) c6] rfl rfl cZ (by intro u hu;simp at hu;subst hu;rfl) (by unfold maxLen;omega) (by omega) bX.size ?_;intro v7 w7 hown1 hgrow1 _);have A1:=AX.step ⟨Aq.out,rX⟩ hown1 hgrow1;have b7:Bl w5 w7:=bX.grown hgrow1 bX.size (fun x hx=>(AX.own.lt x hx).1);clear hown1 hgrow1 AX rX bX A3
       exact⟨⟨j+1,by omega,by go_num,⟨_,_,A1,fun t ht=>by
        unfold lO;by_cases e:t=j
        ·rw[if_pos e];exact⟨Ap,Aw⟩
        ·rw[if_neg e];exact Af.out t (by omega)⟩,b7⟩,by simp[intOf];omega⟩
      ·obtain rfl:j=i+s:=by omega
       have HR:Hid (Lls wr u18 (i+s) (fun _=>Seg.dF L i+11) (Seg.blk r L seg i)):=by
        show Lls wr u18 (i+s) (fun _=>Seg.dF L i+11) (Seg.blk r L seg i);rw[hnn];exact A8.lls (Seg.b0X h1 h5 h4 h2) Af.out
       have bz:=bt Ay A7;clear A8;go_wp2_with fail;go_ret2
       exact⟨_,rfl,HR.out,bz⟩
theorem b1E(v:Value)(L:Nat)(r:Nat→Nat)(seg d s:Int)(w:World)(h:cF w v L r):
  Calls prog 62 #[v,iV seg,iV d,iV s] w fun e w'=> ∃v',e=.returned (.tuple #[v',iV (Seg.gU L seg d s:Nat)])∧c9B w' (Seg.gU L seg d s) v' (d.toNat+s.toNat) (Seg.dF L d.toNat+11) (Seg.blk r L seg.toNat d.toNat)∧Bl w w':=by
 have hL:=h.len;have HW:=fun w'=>dY d s w';by_cases q1:d<1∨8<d∨s<0∨4<s
 ·have HE:Hid (Seg.gU L seg d s=5):=if_pos q1;rw[cC q1]at HW;clear q1;go_enter func62,ntmps62
  go_wp2_with fail;refine(HW _).mono ?_;rintro e w1 ⟨rfl,b1⟩;clear HW;go_wp2_with fail;go_ret2
  exact⟨_,by rw[HE.out];rfl,Or.inr ⟨by rw[HE.out];decide,rfl⟩,b1⟩
 rw[cN q1]at HW;by_cases q2:seg<0∨39<seg
 ·have HE:Hid (Seg.gU L seg d s=3):=by
   show Seg.gU L seg d s=3;unfold Seg.gU;rw[if_neg q1,if_pos q2]
  by_cases q3:seg<0
  ·clear q1 q2;go_enter func62,ntmps62
   go_wp2_with fail;refine(HW _).mono ?_;rintro e w1 ⟨rfl,b1⟩;clear HW;go_wp2_with fail;go_ret2
   exact⟨_,by rw[HE.out];rfl,Or.inr ⟨by rw[HE.out];decide,rfl⟩,b1⟩
  ·have q4:39<seg:=by omega
   clear q1 q2;go_enter func62,ntmps62
   go_wp2_with fail;refine(HW _).mono ?_;rintro e w1 ⟨rfl,b1⟩;clear HW;go_wp2_with fail;go_ret2
   exact⟨_,by rw[HE.out];rfl,Or.inr ⟨by rw[HE.out];decide,rfl⟩,b1⟩
 by_cases q3:400*d<(L:Int)
 ·have HE:Hid (Seg.gU L seg d s=4):=by
   show Seg.gU L seg d s=4;unfold Seg.gU;rw[if_neg q1,if_neg q2,if_pos q3]
  obtain⟨A,C,rfl⟩:=h.shape;have p1: ¬seg<0:=by omega
  have p2: ¬39<seg:=by omega
  have p3:1≤d:=by omega
  have p4:d≤8:=by omega
  clear q1 q2 h;go_enter func62,ntmps62
  go_wp2_with fail;refine(HW _).mono ?_;rintro e w1 ⟨rfl,b1⟩;clear HW;go_wp2_with fail;go_ret2
  exact⟨_,by rw[HE.out];rfl,Or.inr ⟨by rw[HE.out];decide,rfl⟩,b1⟩
 ·obtain⟨d',rfl⟩:=d0I (show 0≤d by omega);obtain⟨s',rfl⟩:=d0I (show 0≤s by omega);obtain⟨g',rfl⟩:=d0I (show 0≤seg by omega);have HE:Seg.gU L g' d' s'=0:=b4C (by omega) (by omega) (by omega) (by omega) (by omega);refine(b5U v L r g' d' s' w h (by omega) (by omega) (by omega) (by omega) (by omega)).mono ?_;rintro e w' ⟨v',rfl,hl,hb⟩;exact⟨v',by rw[HE];rfl,Or.inl ⟨HE,hl⟩,hb⟩
theorem qR(z:Value)(h:z.cells=#[z])(m:Nat):(Builtin.zeroCells z.cells m).toList=List.replicate m z:=by
 rw[h];bK d1I;intro i;simp only[Builtin.zeroCells];by_cases hi:i<m
 ·simp[hi,Nat.mod_one]
 ·simp[hi]
theorem uO{P:Program}(w:World)(N:Nat)(t tn ty e:TypeId)(i:TypeInfo)(z:Value)(bytes:Nat)(k kn:IntKind)(ht:P.underlying t=some (.slice e))(htn:P.underlying tn=some (.int kn))(hi:P.info? e=some i)(hz:i.zero=some z)
  (hsize:i.size=1) (hby:i.bytes=bytes) (hzc:z.cells=#[z]) (hz1:z.oneCell'=true) (v:Value) (n:Nat) (xs:List Value) (hown:w.ownsRow N e 1 v n xs) (hn:1≤n) (m:Nat) (hm:1≤m)
  (h63:n+m≤1000000) (hb:bytes≤1000) (hN:N≤w.heap.size):
  ∃v' w',(Builtin.append_ #[t,tn] ty #[v,.int k m]).run P w=.ok v' w'∧w'.ownsRow N e 1 v' (n+m) (xs++List.replicate m z)∧w.grownBy w' v.ownBlock:=by
 subst hby
 have hw:IntKind.i64.wrap (m:Int)=m:=by rw[IntKind.wrap_i64];omega
 have A5: ¬((m:Int)<0):=by omega
 have Ac:m≠0:=by omega
 have Ak:m*i.bytes≤1000000*1000:=d0Y (by omega) hb;have Aj:(n+m)*i.bytes≤1000000*1000:=d0Y h63 hb;have A4: ¬(281474976710656<(m:Int)*(i.bytes:Int)):=by
  rw[←Int.natCast_mul];omega
 have A3:=hown;obtain⟨hl,hv⟩:=hown;rcases hv with⟨_,h0⟩|⟨g,A0,A6,rfl,Ad,hg,hc,Af,Ai,Ae⟩
 ·omega
 have A1:xs.length=n:=by omega
 by_cases A2:n+m≤A0
 ·have Aa:=run_storeCells_at P g (n*i.size) e (List.replicate m z) 0 A6 w hg (by rw[hsize];simp;omega) (fun u hu=>by rw[d2X hu];exact hz1);simp only[Nat.add_zero]at Aa;refine⟨.slice (some (aD g 0)) (n+m) A0,w.setRow g (A6.toList.take (n*i.size)++List.replicate m z++A6.toList.drop (n*i.size+(List.replicate m z).length)).toArray,?_,?_,?_⟩
  ·simp[Builtin.append_,run_underlying ht,run_underlying htn,sizeOf,typeInfo,zeroValue,hi,hz,asInt,asIntOf,hw,Ac,A5,A4,A2,hsize,qR z hzc,Addr.add_lit];simp[hsize]at Aa;rw[Aa];simp
  ·refine⟨by simp[A1],.inr ⟨g,A0,_,rfl,Ad,setRow_heap w g A6 _ e _ hg,A2,Af,?_,?_⟩⟩
   ·simp only[List.size_toArray,List.length_append,List.length_take,List.length_drop,Array.length_toList,List.length_replicate,hsize];omega
   ·rw[hsize,Ae];have e1:(xs++List.replicate m z).length=(n+m)*1:=by simp[A1]
    rw[←e1];exact List.take_left
  ·exact⟨rfl,rfl,rfl,by simp,fun x _ hx=>setRow_other w g x _ (fun e=>hx (by simp[Value.ownBlock,e]))⟩
 ·have Ag:=grownCap_ge w (n+m) A0 e;have A8:grownCap w (n+m) A0 e≤maxLen:=grownCap_le_maxLen w (n+m) A0 e (by unfold maxLen;omega);have A7:(Builtin.firstCells 1 n (.slice (some (aD g 0)) n A0)).run P w.drew=.ok xs.toArray w.drew:=
   run_firstCells_some w.drew 1 n (aD g 0) n A0 xs (by omega) (fun j u hj=>by rw[show w.drew.cell? ((⟨g,0,none⟩:Addr).add j)=w.cell? ((⟨g,0,none⟩:Addr).add j)from rfl];exact A3.cells (g:=g) rfl j u hj)
  have A9: ¬(9223372036854775807<((n:Int)+(m:Int))):=by omega
  have Ah:=growslice_fits (need:=n+m) (old:=A0) (bytes:=i.bytes) (by omega) (by omega);have Ab: ¬(281474976710656<Builtin.nextslicecap (n+m) A0*i.bytes):=by omega
  refine⟨.slice (some (aD w.heap.size 0)) (n+m) (grownCap w (n+m) A0 e),w.drew.alloc (.cells (xs.toArray++(Builtin.zeroCells z.cells m++Builtin.zeroCells z.cells (grownCap w (n+m) A0 e-(n+m)))) e),?_,?_,?_⟩
  ·simp[Builtin.append_,run_underlying ht,run_underlying htn,sizeOf,typeInfo,zeroValue,hi,hz,asInt,asIntOf,hw,Ac,A5,A4,A2,hsize,A9,Ab,Question.forced,A7,newRow,grownCap]
  ·refine⟨by simp[A1],.inr ⟨w.heap.size,_,_,rfl,hN,heap_alloc_new w.drew _,Ag,A8,?_,?_⟩⟩
   ·simp only[Array.size_append,List.size_toArray,size_zeroCells,hzc,A1];simp;omega
   ·simp only[Array.toList_append,qR z hzc];have e1:(xs++List.replicate m z).length=(n+m)*1:=by simp[A1]
    rw[←c9X,←e1];exact List.take_left
  ·exact⟨rfl,rfl,rfl,by simp,fun x hx _=>Deep.blk_alloc_lt w.drew _ x hx⟩
structure j4(w:World)(N b n c:Nat)(G K:Nat→Nat)(f:Nat→Nat→Nat):Prop where
 top:aY w b 59 n (fun r=> .slice (some ⟨G r,0,none⟩) c (K r))
 row: ∀r,r<n→aY w (G r) 5 c (fun k=> .int .u8 (f r k:Nat))
 lob:N≤b
 low: ∀r,r<n→N≤G r
 inj: ∀r s,r<n→s<n→r≠s→G r≠G s
theorem j4.apart(h:j4 w N b n c G K f)(r:Nat)(hr:r<n):G r≠b:=(h.row r hr).ne h.top (by decide)
theorem j4.below(h:j4 w N b n c G K f)(hb:Bl w w'):j4 w' N b n c G K f:=
 ⟨h.top.below hb,fun r hr=>(h.row r hr).below hb,h.lob,h.low,h.inj⟩
theorem j4.drew(h:j4 w N b n c G K f):j4 w.drew N b n c G K f:=⟨h.top,h.row,h.lob,h.low,h.inj⟩
theorem j4.congr(h:j4 w N b n c G K f)(he: ∀i,i<n→ ∀j,j<c→f i j=f' i j):j4 w N b n c G K f':=
 ⟨h.top,fun i hi=>(h.row i hi).congr (fun j hj=>by rw[he i hi j hj]),h.lob,h.low,h.inj⟩
theorem j4.swap(h:j4 w N b n c G K f)(ha:a<n)(hp:p<n):
  j4 ((w.setCell (aD b a) (.slice (some ⟨G p,0,none⟩) c (K p))).setCell (aD b p) (.slice (some ⟨G a,0,none⟩) c (K a))) N b n c (nW a p G) (nW a p K) (Gf.swp a p f):=by
 have es: ∀i,i<n→ ∃s,s<n∧nW a p G i=G s∧Gf.swp a p f i=f s∧s=(if i=a then p else if i=p then a else i):=fun i hi=>by
  unfold nW Gf.swp;by_cases h1:i=a
  ·exact⟨p,hp,by rw[if_pos h1],by rw[if_pos h1],by rw[if_pos h1]⟩
  ·by_cases h2:i=p
   ·exact⟨a,ha,by rw[if_neg h1,if_pos h2],by rw[if_neg h1,if_pos h2],by rw[if_neg h1,if_pos h2]⟩
   ·exact⟨i,hi,by rw[if_neg h1,if_neg h2],by rw[if_neg h1,if_neg h2],by rw[if_neg h1,if_neg h2]⟩
 refine⟨((h.top.set a _).set p _).congr (fun i _=>?_),fun i hi=>?_,h.lob,fun i hi=>?_,fun i j hi hj hne=>?_⟩
 ·unfold nW;by_cases h2:i=p
  ·rw[if_pos h2];by_cases h1:i=a
   ·rw[if_pos h1,if_pos h1,←h1,←h2]
   ·rw[if_neg h1,if_pos h2,if_neg h1,if_pos h2]
  ·rw[if_neg h2];by_cases h1:i=a
   ·rw[if_pos h1,if_pos h1,if_pos h1]
   ·rw[if_neg h1,if_neg h1,if_neg h2,if_neg h1,if_neg h2]
 ·obtain⟨s,hs,e1,e2,_⟩:=es i hi;rw[e1,e2];exact((h.row s hs).setOther (h.apart s hs) _).setOther (h.apart s hs) _
 ·obtain⟨s,hs,e1,_,_⟩:=es i hi;rw[e1];exact h.low s hs
 ·obtain⟨s,hs,e1,_,e3⟩:=es i hi;obtain⟨t,ht,d1,_,d3⟩:=es j hj;rw[e1,d1];refine h.inj s t hs ht ?_;rw[e3,d3]
  (repeat' split)<;>omega
theorem j4.put(h:j4 w N b n c G K f)(hi:i<n)(_hk:k<c)(he: ∀r j,r<n→j<c→f' r j=if r=i∧j=k then x else f r j):
  j4 (w.setCell ⟨G i,k,none⟩ (.int .u8 x)) N b n c G K f':=
 ⟨h.top.setOther (fun e=>h.apart i hi e.symm) _,fun r hr=>by
  by_cases e:r=i
  ·subst e
   refine((h.row r hr).set k _).congr (fun j hj=>?_)
   show(if j=k then _ else _)=_
   rw[he r j hr hj]
   by_cases ej:j=k
   ·rw[if_pos ej,if_pos ⟨rfl,ej⟩]
   ·rw[if_neg ej,if_neg (fun h=>ej h.2)]
  ·refine((h.row r hr).setOther (h.inj r i hr hi e) _).congr (fun j hj=>?_)
   rw[he r j hr hj,if_neg (fun h=>e h.1)],h.lob,h.low,h.inj⟩
theorem c0E(a p:Nat)(W:Nat→Nat→Nat):Gf.swp a p W=Gf.swp p a W:=by
 funext i
 unfold Gf.swp;by_cases h1:i=a
 ·by_cases h2:i=p
  ·rw[if_pos h1,if_pos h2,←h1,←h2]
  ·rw[if_pos h1,if_neg h2,if_pos h1]
 ·by_cases h2:i=p
  ·rw[if_neg h1,if_pos h2,if_pos h2]
  ·rw[if_neg h1,if_neg h2,if_neg h2,if_neg h1]
def vI(c t x:Nat)(W:Nat→Nat→Nat)(i j:Nat):Nat:=if i=c∧j<t then Gf.mul (W i j) x else W i j
theorem b1G(c t x:Nat)(W:Nat→Nat→Nat)(i j:Nat):vI c (t+1) x W i j=if i=c∧j=t then Gf.mul (W c t) x else vI c t x W i j:=by
 unfold vI;by_cases h:i=c∧j=t
 ·rw[if_pos h,if_pos ⟨h.1,by omega⟩,h.1,h.2]
 ·rw[if_neg h];by_cases h2:i=c∧j<t
  ·rw[if_pos h2,if_pos ⟨h2.1,by omega⟩]
  ·rw[if_neg h2,if_neg (fun h3=>h2 ⟨h3.1,by
    have:j≠t:=fun e=>h ⟨h3.1,e⟩
    omega⟩)]
def lC(c i t:Nat)(W:Nat→Nat→Nat)(r j:Nat):Nat:=if r<i∨(r=i∧j<t)then Gf.add c W r j else W r j
theorem yO(c i t:Nat)(W:Nat→Nat→Nat)(r j:Nat):lC c i (t+1) W r j=if r=i∧j=t then Gf.add c W i t else lC c i t W r j:=by
 unfold lC;by_cases h:r=i∧j=t
 ·rw[if_pos h,if_pos (Or.inr ⟨h.1,by omega⟩),h.1,h.2]
 ·rw[if_neg h];by_cases h2:r<i∨(r=i∧j<t)
  ·rw[if_pos h2,if_pos (by omega)]
  ·rw[if_neg h2,if_neg (by omega)]
end Go.Proofs.YtmcaejooaaahdaaGreat
