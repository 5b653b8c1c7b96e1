import Derived.Test.YtmcaejooaaahdaaGreatZ06
import Derived.Test.YtmcaejooaaahdaaGreatZ07
import Derived.Maps.AppendAt
set_option maxHeartbeats 8000000
set_option maxRecDepth 100000
namespace Go.Proofs.YtmcaejooaaahdaaGreat
open Go.Proofs.Tryz
variable {L:Nat→Nat} {N a j k n p:Nat} {v:Value} {w:World}
open Go.RowKit
theorem b1B(g b o n cap:Nat)(l:Value)(V:Nat→Value)(p:Nat→Bool)(w:World)(eg: ∀args w,(callFunc g args).run prog w=.ok (.enter g args) w)
  (hc: ∀r,r<n→w.cell? (aD b (o+r))=some (V r)) (hp:uV g l n V p w) (hn:n≤10000):
  Calls prog 180 #[.slice (some (aD b o)) n cap,.func (.func g) #[] #[l]] w fun e w'=> ∃i:Int,e=.returned (iV i)∧a4H n p i∧Bl w w':=by
 go_enter func180,ntmps180
 go_wp2_with fail;go_loopw [8] (fun i wr=> ∃k:Nat,k≤n∧i=iV k∧(∀s,s<k→p s=false)∧Bl w wr) (fun i _=>n-(intOf i).toNat)
 case atStart=>exact⟨0,c9D _,rfl,fun s hs=>absurd hs (c9L s),Below.refl _ _⟩
 case round=>
  obtain⟨k,hk,rfl,hs,hb⟩:=hrel;have HS:=hd8 hs;clear hs;by_cases A3:k<n
  ·have A6:(k:Int)<(n:Int):=by omega
   have A2:=hc k A3;have A5:=World.block_lt_of_cell? _ _ A2;have A7:=(hb.cell (p:=⟨b,o+k,none⟩) A5).trans A2;have HC:=hd8 hc;clear hc A2;have A0:=hp k A3 wr hb;by_cases hy:p k=true
   ·rw[hy]at A0;go_wp2_with fail;refine A0.mono ?_;rintro e w1 ⟨rfl,A1⟩;go_wp2_with fail;go_ret
    exact⟨_,rfl,Or.inr ⟨k,A3,rfl,hy,HS.out⟩,hb.trans (A1.mono hb.size)⟩
   ·have A4:p k=false:=by simpa using hy
    rw[A4]at A0;clear hy;go_wp2_with fail;refine A0.mono ?_;rintro e w1 ⟨rfl,A1⟩;go_wp2_with fail;refine⟨⟨k+1,by omega,by go_num,fun s hs=>?_,hb.trans (A1.mono hb.size)⟩,by simp[intOf];omega⟩;by_cases e:s=k
    ·rw[e];exact A4
    ·exact HS.out s (by omega)
  ·have e8:k=n:=by omega
   subst e8;go_wp2_with fail;go_ret
   exact⟨_,rfl,Or.inl ⟨rfl,HS.out⟩,hb⟩
theorem a0F(g b o n cap:Nat)(l:Value)(V:Nat→Value)(p:Nat→Bool)(w:World)(eg: ∀args w,(callFunc g args).run prog w=.ok (.enter g args) w)
  (hc: ∀r,r<n→w.cell? (aD b (o+r))=some (V r)) (hp:uV g l n V p w) (hn:n≤10000):
  Calls prog 168 #[.slice (some (aD b o)) n cap,.func (.func g) #[] #[l]] w fun e w'=> ∃y:Bool,e=.returned (.bool y)∧(y=true↔ ∃r,r<n∧p r=true)∧Bl w w':=by
 go_enter func168,ntmps168
 go_wp2_with fail;refine(b1B g b o n cap l V p w eg hc hp hn).mono ?_;rintro e w1 ⟨i,rfl,hi,hb⟩;clear hc hp;go_wp2_with fail;go_ret
 refine⟨_,rfl,?_,hb⟩;rcases hi with⟨rfl,h⟩|⟨r,hr,rfl,h,_⟩
 ·exact⟨fun e=>absurd e (by decide),fun⟨r,hr,he⟩=>by rw[h r hr]at he;exact absurd he (by decide)⟩
 ·exact⟨fun _=>⟨r,hr,h⟩,fun _=>by simp⟩
theorem a0P(A:Option Addr)(l c B m:Nat)(w:World)(hc:w.cell? (aD B 0)=some (iV m)):
  Calls prog 167 #[.slice A l c,.pointer (some (aD B 0))] w fun e w'=>e=.returned (.bool (decide (l≠m)))∧Bl w w':=by
 by_cases h:l=m
 ·subst h;have H:Hid (decide (l≠l)=false):=by show decide (l≠l)=false;simp
  go_enter func167,ntmps167
  go_wp2_with fail;go_ret
  exact⟨jN H.out.symm,Below.refl _ _⟩
 ·have H:Hid (decide (l≠m)=true):=by show decide (l≠m)=true;simpa using h
  have h':((l:Int)==(m:Int))=false:=by rw[beq_eq_false_iff_ne];omega
  clear h;go_enter func167,ntmps167
  go_wp2_with fail;go_ret
  exact⟨jN (by rw[H.out];simp[bne,h']),Below.refl _ _⟩
theorem Tryz.enters_otherLenS: ∀args w,(callFunc 167 args).run Tryz.prog w=.ok (.enter 167 args) w:=enters_of Tryz.func167 (by kernel_rfl) rfl
theorem oP(v:Value)(m:Nat)(L:Nat→Nat)(f:Nat→Nat→Nat)(w:World)(h:Arg w v m L f)(h1:1≤m)(h2:m≤10000):
  Calls prog 142 #[v] w fun e w'=> ∃y:Bool,e=.returned (.bool y)∧(y=true↔L 0≤400∧ ∀p,p<m→L p=L 0)∧Bl w w':=by
 obtain⟨A,A1,R,C,rfl,hr⟩:=h.lies;clear h;obtain⟨b,o,rfl,A0,_⟩:=hr 0 (by omega);have hc: ∀r,r<m→w.cell? (aD b (o+r))=some (.slice (R r) (L r) (C r)):=fun r hrn=>by
  obtain⟨b',o',e1,e2,_⟩:=hr r hrn;cases e1
  exact e2
 clear hr;have A3:=World.block_lt_of_cell? _ _ A0;have A7:(0:Int)<(m:Int):=by omega
 have A6:w.cell? (aD b o)=some (.slice (R 0) (L 0) (C 0)):=by simpa using A0
 clear A0;have HC:=hd8 hc;clear hc;by_cases h4:L 0≤400
 ·have A2:(L 0:Int)≤400:=by omega
  go_enter func142,ntmps142
  go_wp2_with fail;refine(a0F 167 b o m A1 _ (fun r=> .slice (R r) (L r) (C r)) (fun r=>decide (L r≠L 0)) _ Tryz.enters_otherLenS ?_ ?_ h2).mono ?_
  ·intro r hr;exact(((Below.refl w.heap.size w).alloc (c9C _) _).cell (p:=⟨b,o+r,none⟩) A3).trans (HC.out r hr)
  ·intro r hr W hW;refine a0P (R r) (L r) (C r) w.heap.size (L 0) W ?_;rw[hW.cell (p:=⟨w.heap.size,0,none⟩) (by simp)];simp
  rintro e w1 ⟨y,rfl,hy,A4⟩;have A5:Bl w w1:=((Below.refl w.heap.size w).alloc (c9C _) _).trans (A4.mono (by simp));have HY:=hd8 hy;clear hy;go_wp2_with fail;go_ret
  refine⟨_,rfl,?_,A5⟩;have hy:=HY.out;cases y with
  |true=>
   obtain⟨r,hr,he⟩:=hy.1 rfl;exact⟨fun h=>absurd h (by decide),fun h=>absurd (h.2 r hr) (of_decide_eq_true he)⟩
  |false=>exact⟨fun _=>⟨h4,fun r hr=>Classical.byContradiction fun hne=>absurd (hy.2 ⟨r,hr,decide_eq_true hne⟩) (by decide)⟩,fun _=>rfl⟩
 ·have A2: ¬(L 0:Int)≤400:=by omega
  go_enter func142,ntmps142
  go_wp2_with fail;go_ret
  exact⟨rfl,aB8 _ _⟩
def there(L:Nat→Nat)(k:Nat):List Nat:=(List.range k).filter (fun r=>decide (0<L r))
theorem a2B(h:0<L k):there L (k+1)=there L k++[k]:=by
 unfold there;rw[d1G,d1O,d1W (by simpa using h)];rfl
theorem a8F(h: ¬0<L k):there L (k+1)=there L k:=by
 unfold there;rw[d1G,d1O,d1N (by simpa using h)];simp
theorem pT{r:Nat}:r∈there L k↔r<k∧0<L r:=by
 unfold there;rw[d0Z,d0D,decide_eq_true_iff]
theorem a7Q(L:Nat→Nat)(k:Nat):(there L k).Nodup:=List.nodup_range.filter _
theorem mF(L:Nat→Nat)(k:Nat):(there L k).length≤k:=by
 have:=d2P (fun r=>decide (0<L r)) (List.range k);rw[d1E]at this;exact this
def Dis(a b:Value):Prop:=a.ownBlock=none∨b.ownBlock=none∨a.ownBlock≠b.ownBlock
theorem Dis.symm{a b:Value}(h:Dis a b):Dis b a:=by
 rcases h with h|h|h
 ·exact Or.inr (Or.inl h)
 ·exact Or.inl h
 ·exact Or.inr (Or.inr h.symm)
theorem Dis.kept{a b:Value}(h:Dis a b):b.ownBlock=none∨b.ownBlock≠a.ownBlock:=by
 rcases h with h|h|h
 ·cases hb:b.ownBlock with
  |none=>exact Or.inl rfl
  |some x=>exact Or.inr (by rw[h];simp)
 ·exact Or.inl h
 ·exact Or.inr h.symm
theorem Dis.next{a a' b:Value}(h:Dis a b)(hl:a'.ownBlock=a.ownBlock∨a'.ownBlock=some w.heap.size)(hb: ∀x,b.ownBlock=some x→x<w.heap.size):Dis a' b:=by
 rcases hl with hl|hl
 ·unfold Dis;rw[hl];exact h
 ·cases e:b.ownBlock with
  |none=>exact Or.inr (Or.inl e)
  |some x=>exact Or.inr (Or.inr (by
    have:=hb x e;rw[hl,e];simp
    omega))
theorem vE{T:List Nat}(R:Nat→Option Addr)(L C:Nat→Nat)(f:Nat→Nat→Nat)(bd:Gf.Bd2 f)(h:w.ownsRow N 59 1 v T.length (T.map fun r=> .slice (R r) (L r) (C r)))
  (hr: ∀r,r∈T→ ∀k,k<L r→ ∃b' o',R r=some (aD b' o')∧w.cell? (aD b' (o'+k))=some (.int .u8 (f r k:Nat))):Arg w v T.length (fun p=>L (T.getD p 0)) (fun p=>f (T.getD p 0)):=by
 refine⟨fun p=>bd _,?_⟩;by_cases h0:1≤T.length
 ·obtain⟨g,A0,hv,_,_,A1⟩:=eD h h0;refine⟨some (aD g 0),A0,fun p=>R (T.getD p 0),fun p=>C (T.getD p 0),hv,fun p hp=>⟨g,0,rfl,?_,hr (T.getD p 0) ?_⟩⟩
  ·rw[c9G,A1.cell hp];simp[List.getD,hp]
  ·simp[List.getD,hp]
 ·have e:T.length=0:=by omega
  rw[e]at h⊢;rcases h.2 with⟨hv,_⟩|⟨g,A0,_,hv,_⟩
  ·exact⟨none,0,fun _=>none,fun _=>0,hv,fun r hr=>absurd hr (c9L r)⟩
  ·exact⟨_,A0,fun _=>none,fun _=>0,hv,fun r hr=>absurd hr (c9L r)⟩
def Cap(v:Value):Prop:= ∃A n cap,v=.slice A n cap∧n≤cap
theorem vN{t:TypeId}{xs:List Value}(h:w.ownsRow N t 1 v n xs):Cap v:=by
 rcases h.2 with⟨hv,_⟩|⟨g,A0,_,hv,_,_,hc,_⟩
 ·exact⟨_,_,_,hv,c9C _⟩
 ·exact⟨_,_,_,hv,hc⟩
theorem kY(A:Option Addr)(cap N n:Nat)(L:Nat→Nat)(f:Nat→Nat→Nat)(br capr:Nat)(Gr Or' Kr:Nat→Nat)(g:Nat→Nat→Nat)(w:World)(h:Arg w (.slice A N cap) N L f)(bg:Gf.Bd2 g)(hm:jW w br 0 N n Gr Or' Kr g)(h1:1≤N)(h2:N≤12):
  Calls prog 141 #[.slice A N cap,.slice (some (aD br 0)) N capr] w fun e w'=> ∃v4 v5,e=.returned (.tuple #[v4,v5])∧
   Arg w' v4 (there L N).length (fun p=>L ((there L N).getD p 0)) (fun p=>f ((there L N).getD p 0))∧Arg w' v5 (there L N).length (fun _=>n) (fun p=>g ((there L N).getD p 0))∧Cap v4∧Cap v5∧Bl w w':=by
 obtain⟨A',Ai,R,C,hv,hr⟩:=h.lies;have bf:=h.bd;cases hv
 clear h;obtain⟨b,o,rfl,_,_⟩:=hr 0 (by omega);have HC:Hid (∀r,r<N→w.cell? (aD b (o+r))=some (.slice (R r) (L r) (C r))∧ ∀k,k<L r→ ∃b' o',R r=some (aD b' o')∧w.cell? (aD b' (o'+k))=some (.int .u8 (f r k:Nat))):=fun r hrn=>by
  obtain⟨b',o',e1,e2,e3⟩:=hr r hrn;cases e1
  exact⟨e2,e3⟩
 clear hr;obtain⟨i0,hi,hh⟩:=c9J.1 Tryz.infoRow;simp only[Prod.mk.injEq]at hh;obtain⟨Aa,Ab,Ac⟩:=hh;go_enter func141,ntmps141
 go_wp2_with fail
 go_loopw [4,5,10] (fun v4 v5 x wr=> ∃k:Nat,k≤N∧x=iV k∧wr.ownsRow w.heap.size 59 1 v4 (there L k).length ((there L k).map fun r=> .slice (R r) (L r) (C r))∧
  wr.ownsRow w.heap.size 59 1 v5 (there L k).length ((there L k).map fun r=> .slice (some ⟨Gr r,Or' r,none⟩) n (Kr r))∧Dis v4 v5∧Bl w wr) (fun _ _ x _=>N-(intOf x).toNat)
 case atStart=>exact⟨0,c9D _,rfl,World.ownsRow_nil w _ _ 1,World.ownsRow_nil w _ _ 1,Or.inl rfl,Below.refl _ _⟩
 case round=>
  obtain⟨k,hk,rfl,o4,o5,hd,hb⟩:=hrel;by_cases A8:k<N
  ·have Am:(k:Int)<(N:Int):=by omega
   have A7:=(HC.out k A8).1;have Aj:=cB8 hb A7;clear A7;by_cases hy:0<L k
   ·have An:(0:Int)<(L k:Int):=by omega
    have HT:=hd8 (a2B hy);have Al:=mF L k;have A9:=hm.top k A8;have A0:=(Below.refl wr.heap.size wr).alloc (c9C _) (.cells #[.slice (R k) (L k) (C k)] 59);have A3:=aK o4 A0;have A4:=aK o5 A0;have sX:=c9E hb.size A0.size;go_wp2_with (first|(at_builtin;refine wpList_append_own_at _ rfl (.tmp 18) (.tmp 20) 169 rfl w.heap.size 59 i0 nS 1 24 underlying169 hi Aa Ab Ac rfl (by decide) _ _ _ rfl A3 (aD wr.heap.size 0) 1 1 [.slice (R k) (L k) (C k)] rfl rfl dD (by intro u hu;simp at hu;subst hu;rfl) (by unfold maxLen;omega) (by omega) sX ?_;intro v41 w1 hown41 hgrow41 _ hloc41;have b1:Bl w w1:=(hb.trans (A0.mono hb.size)).grown hgrow41 sX (fun x hx=>(A3.lt x hx).1);have Ae:=A4.kept hgrow41 hd.kept;have A2:=hd.next hloc41 (fun x hx=>(A4.lt x hx).2);have Af:=cB8 b1 A9;have A1:=(Below.refl w1.heap.size w1).alloc (c9C _) (.cells #[.slice (some ⟨Gr k,Or' k,none⟩) n (Kr k)] 59);have A5:=aK hown41 A1;have A6:=aK Ae A1;have sY:=c9E b1.size A1.size;rw[c9G]at Af)|(at_builtin;refine wpList_append_own_at _ rfl (.tmp 22) (.tmp 27) 169 rfl w.heap.size 59 i0 nS 1 24 underlying169 hi Aa Ab Ac rfl (by decide) _ _ _ rfl A6 (aD w1.heap.size 0) 1 1 [.slice (some ⟨Gr k,Or' k,none⟩) n (Kr k)] rfl rfl dD (by intro u hu;simp at hu;subst hu;rfl) (by unfold maxLen;omega) (by omega) sY ?_;intro v52 w2 hown52 hgrow52 _ hloc52));have b2:Bl w w2:=(b1.trans (A1.mono b1.size)).grown hgrow52 sY (fun x hx=>(A6.lt x hx).1);have Ad:=A5.kept hgrow52 A2.symm.kept;have Ak:=(A2.symm.next hloc52 (fun x hx=>(A5.lt x hx).2)).symm;have q4:w2.ownsRow w.heap.size 59 1 v41 (there L (k+1)).length ((there L (k+1)).map fun r=> .slice (R r) (L r) (C r)):=by
     rw[HT.out,c9I,c9U];exact Ad
    have q5:w2.ownsRow w.heap.size 59 1 v52 (there L (k+1)).length ((there L (k+1)).map fun r=> .slice (some ⟨Gr r,Or' r,none⟩) n (Kr r)):=by
     rw[HT.out,c9I,c9U];exact hown52
    clear o4 o5 hd A3 A4 hown41 hgrow41 hloc41 Ae A2 Af A5 A6 hown52 hgrow52 hloc52 Ad b1 A0 A1 Aj A9;go_wp2_with fail;exact⟨⟨k+1,by omega,by go_num,q4,q5,Ak,b2⟩,by simp[intOf];omega⟩
   ·have An: ¬(0:Int)<(L k:Int):=by omega
    have HT:=hd8 (a8F hy);go_wp2_with fail;refine⟨⟨k+1,by omega,by go_num,?_,?_,hd,hb⟩,by simp[intOf];omega⟩
    ·rw[HT.out];exact o4
    ·rw[HT.out];exact o5
  ·have e8:k=N:=by omega
   subst e8
   have Ag:Hid (Arg wr _ (there L k).length (fun p=>L ((there L k).getD p 0)) (fun p=>f ((there L k).getD p 0))):=vE R L C f bf o4 (fun r hr j hj=>by
    obtain⟨h1,h2⟩:=pT.1 hr;obtain⟨b',o',e1,e2⟩:=(HC.out r h1).2 j hj
    exact⟨b',o',e1,cB8 hb e2⟩)
   have Ah:=hd8 (vE (fun r=>some ⟨Gr r,Or' r,none⟩) (fun _=>n) Kr g bg o5 (fun r hr j hj=>⟨Gr r,Or' r,rfl,(hm.bE hb).row r (pT.1 hr).1 j hj⟩));have c4:=vN o4;have c5:=vN o5;clear o4 o5 hd hm;go_wp2_with fail;go_ret2
   exact⟨_,_,rfl,Ag.out,Ah.out,c4,c5,hb⟩
def Out(w:World)(E:Nat)(v:Value)(n c:Nat)(f:Nat→Nat→Nat):Prop:=(E=0∧Mx w v n c f)∨((E≠0∨n=0)∧v=nS)
def vD(n:Nat)(L:Nat→Nat)(s:Int):Nat:=if bZ n s≠0 then 5 else aB n L
def cQ(n i:Nat):Nat→Nat:=Gf.bH n (n+i)
theorem iB(n:Nat):Gf.Bd2 (cQ n):=fun i=>Gf.eM n (n+i)
theorem jW.spare{g s:Nat}{G K:Nat→Nat}(h:jW w g 0 (n+s) n G (fun _=>0) K (Gf.bH n)):jW w g n s n (fun r=>G (n+r)) (fun _=>0) (fun r=>K (n+r)) (cQ n):=
 ⟨fun r hr=>by have:=h.top (n+r) (by omega);rw[c9G]at this;exact this,fun r hr k hk=>h.row (n+r) (by omega) k hk⟩
theorem xW(v:Value)(n:Nat)(L:Nat→Nat)(f:Nat→Nat→Nat)(w:World)(h:Arg w v n L f)(h1:1≤n)(h2:n≤8)(hx:aB n L=0):
  Calls prog 111 #[v,iV 0] w fun e w'=>e=.returned (.tuple #[nS,iV 0])∧Bl w w':=by
 have HW:=fun w' hb'=>lW v n L f w' (h.bE (w':=w') hb');have HR:=fun w=>iO n 0 w h1 h2 (by omega);obtain⟨A,A0,R,C,rfl,_⟩:=h.lies;rw[hx]at HW;clear h hx;go_enter func111,ntmps111
 go_wp2_with fail;refine(HR _).mono ?_;rintro e w1 ⟨g,cp,rfl,_,_,b1⟩;go_wp2_with fail;refine(HW _ b1).mono ?_;rintro e w2 ⟨rfl,b2⟩;go_wp2_with fail;go_ret2
 exact⟨rfl,bt b1 b2⟩
theorem a1L(v:Value)(n s c:Nat)(f:Nat→Nat→Nat)(w:World)(h:Mx w v n c f)(h2:n≤8)(h3:1≤s)(h4:s≤4):
  Calls prog 111 #[v,iV s] w fun e w'=> ∃b G,e=.returned (.tuple #[.slice (some (aD b 0)) s s,iV 0])∧Own w' w.heap.size b s c G (Gf.mm n (cQ n) f)∧Bl w w':=by
 obtain⟨d1,d2,d3,d4⟩:=h.dim;have HW:=fun w' hb'=>lW v n _ f w' (h.bE (w':=w') hb').arg;have HR:=fun w=>iO n s w d1 h2 h4;rw[h.ok]at HW;have HM:=fun w' hb'=>h.bE (w':=w') hb';obtain⟨bb,ob,pb,Gb,Ob,Kb,rfl,_⟩:=h.lies;have A4:((s:Int)==0)=false:=by rw[beq_eq_false_iff_ne];omega
 clear h;go_enter func111,ntmps111
 go_wp2_with fail;refine(HR _).mono ?_;rintro e w1 ⟨g,cp,rfl,A2,⟨G,K,hm⟩,b1⟩;go_wp2_with fail;refine(HW _ b1).mono ?_;rintro e w2 ⟨rfl,b2⟩;have hm:=(hm.bE b2).spare;have b2:=bt b1 b2;have A1: ¬cp=n:=by omega
 have A3:(n:Int)≤((n+s:Nat):Int):=by omega
 have A0:Mx w2 (.slice (some (aD g n)) s (cp-n)) s n (cQ n):=⟨iB n,⟨h3,by omega,d1,by omega⟩,g,n,cp-n,_,_,_,rfl,hm⟩;clear HR HW hm b1;go_wp2_with fail;refine(a9E _ _ s n n c (cQ n) f _ A0 (HM _ b2) rfl).mono ?_;rintro e w3 ⟨b,G3,rfl,ho,b3⟩;go_wp2_with fail;go_ret2
 exact⟨b,G3,rfl,ho.lower b2.size,bt b2 b3⟩
theorem a8Q(v:Value)(n s:Nat)(L:Nat→Nat)(f:Nat→Nat→Nat)(w:World)(h:Arg w v n L f)(h1:1≤n)(h2:n≤8)(hx:aB n L=0)(hs:s=0):
  Calls prog 111 #[v,iV s] w fun e w'=>e=.returned (.tuple #[nS,iV 0])∧Bl w w':=by
 subst hs;exact xW v n L f w h h1 h2 hx
theorem c5Z(W:World)(t tx:TypeId)(ht:prog.underlying t=some (.slice 59))(htx:prog.underlying tx=some (.slice 59))(b o n p:Nat)(F:Nat→Value)(b' o' m p':Nat)(F':Nat→Value)
  (hF: ∀r,r<n→W.cell? (aD b (o+r))=some (F r)) (hF': ∀r,r<m→W.cell? (aD b' (o'+r))=some (F' r)) (h1: ∀r,r<m→(F' r).oneCell'=true) (hp:p<n+m) (hn:n+m≤1000):
  ∃(C:Array Value) (q:Nat),n+m≤q∧(∀r,r<n→C[r]?=some (F r))∧(∀r,r<m→C[n+r]?=some (F' r))∧
   ∀ty,(Builtin.append_ #[t,tx] ty #[.slice (some (aD b o)) n p,.slice (some (aD b' o')) m p']).run prog W=.ok (.slice (some (aD W.heap.size 0)) (n+m) q) (W.drew.alloc (.cells C 59)):=by
 obtain⟨i,hi,hh⟩:=c9J.1 Tryz.infoRow;simp only[Prod.mk.injEq]at hh;obtain⟨hz,hs,hb⟩:=hh;have A2:Src prog i.size tx (.slice (some (aD b' o')) m p') m ((List.range m).map F') W:=by
  refine Src.ofSlice W htx _ m p' _ (by simp[hs]) (fun j u hj=>?_) (fun u hu=>?_)
  ·rcases Nat.lt_or_ge j m with h|h
   ·simp[h]at hj;rw[WideShapes.add_plain,hF' j h,←hj]
   ·simp[List.getElem?_eq_none (show((List.range m).map F').length≤j by simpa using h)]at hj
  ·obtain⟨r,hr,rfl⟩:=d0G.1 hu;exact h1 r (d0D.1 hr)
 have A0:(Builtin.firstCells i.size n (.slice (some (aD b o)) n p)).run prog W.drew=.ok ((List.range n).map F).toArray W.drew:=
  run_firstCells_some W.drew i.size n (aD b o) n p ((List.range n).map F) (by simp[hs]) (fun j u hj=>by
   rcases Nat.lt_or_ge j n with h|h
   ·simp[h]at hj;rw[WideShapes.add_plain,show W.drew.cell? (aD b (o+j))=W.cell? (aD b (o+j))from rfl,hF j h,←hj]
   ·simp[List.getElem?_eq_none (show((List.range n).map F).length≤j by simpa using h)]at hj)
 have A3:=growslice_fits (need:=n+m) (old:=p) (bytes:=i.bytes) (by omega) (by rw[hb];omega);have A1:=fun ty=>run_append_grow_src (P:=prog) W t tx ty 59 i nS ht hi hz (some (aD b o)) n p ((List.range n).map F) A0 _ m _ A2 hp (by omega) (by omega);refine⟨_,_,grownCap_ge W (n+m) p 59,fun r hr=>?_,fun r hr=>?_,A1⟩
 ·rw[Array.getElem?_append_left (by simp;omega)];simp[List.getElem?_append_left,hr]
 ·rw[Array.getElem?_append_left (by simp;omega)];simp[hr]
theorem a4T(W:World)(t tx:TypeId)(ht:prog.underlying t=some (.slice 59))(htx:prog.underlying tx=some (.slice 59))(b o n p:Nat)(hp:n≤p)(ty:TypeId):
  (Builtin.append_ #[t,tx] ty #[.slice (some (aD b o)) n p,nS]).run prog W=.ok (.slice (some (aD b o)) n p) W:=by
 obtain⟨i,hi,hh⟩:=c9J.1 Tryz.infoRow;simp only[Prod.mk.injEq]at hh;exact run_append_room_src (P:=prog) W t tx ty 59 i ht hi b o n p _ 0 [] (Src.ofNil W htx 0) (by omega) (fun j hj=>by cases hj) (fun j hj=>by cases hj)
def thr(L:Nat→Nat)(N p:Nat):Nat:=(there L N).getD p 0
theorem fI(h:p<(there L N).length):thr L N p<N∧0<L (thr L N p):=by
 refine pT.1 ?_;unfold thr;simp[List.getD,h]
theorem a5I{q:Nat}(hp:p<(there L N).length)(hq:q<(there L N).length)(hne:p≠q):thr L N p≠thr L N q:=fun e=>by
 unfold thr at e
 simp only[List.getD,List.getElem?_eq_getElem hp,List.getElem?_eq_getElem hq,Option.getD_some]at e
 exact hne ((List.getElem_inj (a7Q L N)).1 e)
abbrev oS(L:Nat→Nat)(N:Nat):Prop:=L (thr L N 0)≤400∧ ∀p,p<(there L N).length→L (thr L N p)=L (thr L N 0)
def eG(d:Int)(N:Nat)(L:Nat→Nat):Nat:=if bZ d ((N:Int)-d)≠0 then 5 else if (there L N).length<d.toNat then 10 else if oS L N then 0 else 2
theorem Arg.take{A:Option Addr}{m cap cap':Nat}{f:Nat→Nat→Nat}(h:Arg w (.slice A m cap) m L f)(hn:n≤m):Arg w (.slice A n cap') n L f:=by
 obtain⟨A',c,R,C,hv,hr⟩:=h.lies;cases hv
 exact⟨h.bd,A,cap',R,C,rfl,fun r hr'=>hr r (by omega)⟩
theorem c0L(v:Value)(N:Nat)(A:Option Addr)(cap:Nat)(hv:v=.slice A N cap)(d:Int)(w:World)(hN:N≤maxLen)(h:bZ d ((N:Int)-d)≠0):
  Calls prog 117 #[v,iV d] w fun e w'=>e=.returned (.tuple #[nS,iV 5])∧Bl w w':=by
 subst hv;unfold maxLen at hN;have H:Hid (∀w,Calls prog 135 #[iV d,iV (wrap64 ((N:Int)-d))] w fun e w'=>e=.returned (.tuple #[nS,iV 5])∧Bl w w'):=fun w=>by
  refine a3E d _ w ?_;unfold bZ at h;split at h
  ·rename_i hb;unfold wrap64;omega
  ·exact absurd rfl h
 clear h hN;go_enter func117,ntmps117
 go_wp2_with fail;refine(H.out _).mono ?_;rintro e w1 ⟨rfl,b1⟩;go_wp2_with fail;go_ret2
 exact⟨rfl,b1⟩
theorem b8H(A:Option Addr)(cap n s:Nat)(L:Nat→Nat)(f:Nat→Nat→Nat)(w:World)(h:Arg w (.slice A (n+s) cap) (n+s) L f)(h1:1≤n)(h2:n≤8)(h3:s≤4)(hl:(there L (n+s)).length<n):
  Calls prog 117 #[.slice A (n+s) cap,iV n] w fun e w'=>e=.returned (.tuple #[nS,iV 10])∧Bl w w':=by
 have HR:=fun w=>iO n s w h1 h2 h3;have A0:(n:Int)+(s:Int)-(n:Int)=(s:Int):=by omega
 have A1:((there L (n+s)).length:Int)<(n:Int):=by omega
 go_enter func117,ntmps117
 go_wp2_with fail;refine(HR _).mono ?_;rintro e w1 ⟨g,cp,rfl,_,⟨G,K,hm⟩,b1⟩;have HT:=kY A cap (n+s) n L f g cp G (fun _=>0) K (Gf.bH n) w1 (h.bE b1) (Gf.eM n) hm (by omega) (by omega);clear HR h;go_wp2_with fail;refine HT.mono ?_;rintro e w2 ⟨v4,v5,rfl,a4,a5,c4,c5,b2⟩;obtain⟨A4,p4,R4,C4,rfl,_⟩:=a4.lies;obtain⟨A5,p5,R5,C5,rfl,_⟩:=a5.lies;clear HT a4 a5;go_wp2_with fail;go_ret2
 exact⟨rfl,bt b1 b2⟩
theorem b6K(A:Option Addr)(cap n s:Nat)(L:Nat→Nat)(f:Nat→Nat→Nat)(w:World)(h:Arg w (.slice A (n+s) cap) (n+s) L f)(h1:1≤n)(h2:n≤8)(h3:s≤4)(hl:n≤(there L (n+s)).length)(hf: ¬oS L (n+s)):
  Calls prog 117 #[.slice A (n+s) cap,iV n] w fun e w'=>e=.returned (.tuple #[nS,iV 2])∧Bl w w':=by
 have HR:=fun w=>iO n s w h1 h2 h3;have A2:(n:Int)+(s:Int)-(n:Int)=(s:Int):=by omega
 have A3: ¬((there L (n+s)).length:Int)<(n:Int):=by omega
 have A1:=mF L (n+s);have HF:=hd8 hf;clear hf;go_enter func117,ntmps117
 go_wp2_with fail;refine(HR _).mono ?_;rintro e w1 ⟨g,cp,rfl,_,⟨G,K,hm⟩,b1⟩;have HT:=kY A cap (n+s) n L f g cp G (fun _=>0) K (Gf.bH n) w1 (h.bE b1) (Gf.eM n) hm (by omega) (by omega);clear HR h;go_wp2_with fail;refine HT.mono ?_;rintro e w2 ⟨v4,v5,rfl,a4,a5,c4,c5,b2⟩;have A0:=oP v4 _ _ _ w2 a4 (by omega) (by omega);obtain⟨A4,p4,R4,C4,rfl,_⟩:=a4.lies;obtain⟨A5,p5,R5,C5,rfl,_⟩:=a5.lies;have b2:=bt b1 b2;clear HT a4 a5;go_wp2_with fail;refine A0.mono ?_;rintro e w3 ⟨y,rfl,hy,b3⟩;cases y with
 |true=>exact absurd (hy.1 rfl) HF.out
 |false=>
  clear hy A0;go_wp2_with fail;go_ret2
  exact⟨rfl,bt b2 b3⟩
theorem a1P{D:Nat→Nat→Nat}(hD:Gf.Bd2 D){i:Nat}(hi:i<n)(k:Nat):Gf.mm n (Gf.bH n) D i k=D i k:=by
 rw[show Gf.mm n (Gf.bH n) D i k=Gf.mm n Gf.one D i k from Gf.mE (fun l _=>Gf.oV hi l) (fun _ _=>rfl),Gf.b1V hD k hi]
theorem c5S(A:Option Addr)(cap n s:Nat)(L:Nat→Nat)(f:Nat→Nat→Nat)(w:World)(h:Arg w (.slice A (n+s) cap) (n+s) L f)(h1:1≤n)(h2:n≤8)(h3:s≤4)(hl:n≤(there L (n+s)).length)(hf:oS L (n+s)):
  Calls prog 117 #[.slice A (n+s) cap,iV n] w fun e w'=> ∃v r,e=.returned (.tuple #[v,iV 0])∧Cap v∧Gf.Bd2 r∧Gf.Und n (fun p=>Gf.bH n (thr L (n+s) p)) r∧
   Mx w' v (n+s) (L (thr L (n+s) 0)) (Gf.mm n (Gf.bH n) (Gf.mm n r (fun p=>f (thr L (n+s) p))))∧Bl w w':=by
 have HR:=fun w=>iO n s w h1 h2 h3;have Ar:(n:Int)+(s:Int)-(n:Int)=(s:Int):=by omega
 have Au: ¬((there L (n+s)).length:Int)<(n:Int):=by omega
 have Aq:=mF L (n+s);have HF:Hid (oS L (n+s)):=hf;clear hf;have An:Hid (∀w v,Arg w v n (fun _=>n) (fun p=>Gf.bH n (thr L (n+s) p))→Calls prog 143 #[v] w fun e w'=> ∃v' r,e=.returned (.tuple #[v',iV 0])∧Mx w' v' n n r∧Gf.Und n (fun p=>Gf.bH n (thr L (n+s) p)) r∧Bl w w'):=fun w v ha=>by
  have mx:=ha.mx (f9 h1 (by omega) h1 (by omega) (fun _ _=>rfl));refine(c2D v n _ w mx).mono fun e w' ⟨hh,hb⟩=>?_;rcases hh with⟨v',r,q1,q2,q3⟩|⟨_,hs⟩
  ·exact⟨v',r,q1,q2,q3,hb⟩
  ·exact(Gf.lQ (by omega) (fun p hp=>by have:=(fI (show p<(there L (n+s)).length by omega)).1;omega) (fun p q hp hq hne=>a5I (by omega) (by omega) hne) hs).elim
 go_enter func117,ntmps117
 go_wp2_with fail;refine(HR _).mono ?_;rintro e w1 ⟨g,cp,rfl,_,⟨G,K,hm⟩,b1⟩;have HT:=kY A cap (n+s) n L f g cp G (fun _=>0) K (Gf.bH n) w1 (h.bE b1) (Gf.eM n) hm (by omega) (by omega);clear HR h hm;go_wp2_with fail;refine HT.mono ?_;rintro e w2 ⟨v4,v5,rfl,a4,a5,c4,c5,b2⟩;have Ai:=oP v4 _ _ _ w2 a4 (by omega) (by omega);have b2:=bt b1 b2;obtain⟨A4,p4,R4,C4,As,Aj⟩:=a4.lies;subst As;obtain⟨A5,p5,R5,C5,At,Ak⟩:=a5.lies;subst At;obtain⟨b4,o4,rfl,_,_⟩:=Aj 0 (by omega);obtain⟨b5,o5,rfl,_,_⟩:=Ak 0 (by omega);obtain⟨_,_,_,Ao,k4⟩:=c4;cases Ao
 obtain⟨_,_,_,Ap,k5⟩:=c5;cases Ap
 have t4:=a4.take (n:=n) (cap':=p4) hl;have t5:=a5.take (n:=n) (cap':=p5) hl;have f4:(n:Int)≤(p4:Int):=by omega
 have f5:(n:Int)≤(p5:Int):=by omega
 clear HT a4 a5 Aj Ak b1;go_wp2_with fail;refine Ai.mono ?_;rintro e w3 ⟨y,rfl,hy,b3⟩;cases y with
 |false=>exact absurd (hy.2 HF.out) (by decide)
 |true=>
  have t4:=t4.bE b3;have t5:=t5.bE b3;have b3:=bt b2 b3;clear hy Ai b2;go_wp2_with fail;refine(An.out _ _ t5).mono ?_;rintro e w4 ⟨vU,r,rfl,mU,hU,A9⟩;have t4:=t4.bE A9;have A9:=bt b3 A9;have hF:=HF.out;have mT:Mx w4 (.slice (some (aD b4 o4)) n p4) n (L (thr L (n+s) 0)) (fun p=>f (thr L (n+s) p)):=t4.mx (f9 h1 (by omega) (fI (show 0<(there L (n+s)).length by omega)).2 hF.1 (fun p hp=>hF.2 p (by omega)));have rU:=mU.bd;have HU:Hid (Gf.Und n (fun p=>Gf.bH n (thr L (n+s) p)) r):=hU;have A1:=a9E vU _ n n n _ r _ w4 mU mT rfl;have Ab:Gf.Bd2 (Gf.mm n r (fun p=>f (thr L (n+s) p))):=Gf.oN rU n _;have Af:=mT.dim;clear t4 t5 b3 hU mU mT hF;generalize hall:Gf.mm n r (fun p=>f (thr L (n+s) p))=all at A1 Ab;generalize hcc:L (thr L (n+s) 0)=c at A1 Af;have A8:Hid (Gf.mm n r (fun p=>f (thr L (n+s) p))=all):=hall;have Ae:Hid (L (thr L (n+s) 0)=c):=hcc;obtain⟨_,d2,d3,d4⟩:=Af;clear hall hcc;go_wp2_with fail;refine A1.mono ?_;rintro e w5 ⟨bA,G5,rfl,A0,Aa⟩;have Aa:=bt A9 Aa;have mA:=A0.mx Ab ⟨h1,d2,d3,d4⟩;clear A1 A9;go_wp2_with fail;by_cases hs:s=0
  ·refine(a8Q _ n s (fun _=>c) all w5 mA.arg h1 h2 mA.ok hs).mono ?_;rintro e w6 ⟨rfl,b6⟩;have A0:=A0.bE b6;have b6:=bt Aa b6
   have A3:Hid (Mx w6 (.slice (some (aD bA 0)) n n) (n+s) c (Gf.mm n (Gf.bH n) all)):=⟨Gf.oN (Gf.eM n) n all,⟨by omega,by omega,d3,d4⟩,bA,0,n,G5,fun _=>0,fun _=>c,by rw[hs];rfl,fun i hi=>A0.mat.top i (by omega),fun i hi k hk=>by
    rw[a1P Ab (show i<n by omega)]
    exact A0.mat.row i (by omega) k hk⟩
   have A7:=fun W ty=>a4T W 169 86 underlying169 underlying86 bA 0 n n (c9C _) ty;clear A0 mA hs;go_wp2_with (at_builtin;refine Lib.wpList_append_run _ rfl (.tmp 70) (.tmp 71) 169 86 rfl _ _ rfl rfl _ _ (A7 _ _) ?_);go_wp2_with fail;go_ret2
   exact⟨_,r,rfl,⟨_,_,_,rfl,c9C _⟩,rU,HU.out,by rw[A8.out,Ae.out];exact A3.out,b6⟩
  ·refine(a1L _ n s c all w5 mA h2 (by omega) h3).mono ?_;rintro e w6 ⟨bS,G6,rfl,Ad,b6⟩;have A0:=A0.bE b6;have b6:=bt Aa b6;obtain⟨C,q,hq,Ag,Ah,A7⟩:=c5Z w6 169 86 underlying169 underlying86 bA 0 n n (fun i=> .slice (some ⟨G5 i,0,none⟩) c c) bS 0 s s (fun i=> .slice (some ⟨G6 i,0,none⟩) c c)
    (fun i hi=>A0.mat.top i hi) (fun i hi=>Ad.mat.top i hi) (fun _ _=>rfl) (by omega) (by omega)
   have b7:Bl w6 (w6.drew.alloc (.cells C 59)):=(Below.refl _ _).drew.alloc (c9C _) _;have Al:=A0.bE b7;have Am:=Ad.bE b7;have A6:=World.rowIs_alloc w6.drew C 59 (fun i=>C.getD i nS) (fun i hi=>by simp[hi]);have A3:Hid (Mx (w6.drew.alloc (.cells C 59)) (.slice (some (aD w6.heap.size 0)) (n+s) q) (n+s) c (Gf.mm n (Gf.bH n) all)):=by
    refine⟨Gf.oN (Gf.eM n) n all,⟨by omega,by omega,d3,d4⟩,w6.heap.size,0,q,fun i=>if i<n then G5 i else G6 (i-n),fun _=>0,fun _=>c,rfl,fun i hi=>?_,fun i hi k hk=>?_⟩
    ·by_cases A2:i<n
     ·have h8:=Ag i A2;obtain⟨h9,Ac⟩:=d1M.1 h8;rw[c9G,if_pos A2];refine(A6.cell h9).trans ?_;simp[h9,Ac]
     ·obtain⟨j,rfl⟩: ∃j,i=n+j:=⟨i-n,by omega⟩;have h8:=Ah j (by omega);obtain⟨h9,Ac⟩:=d1M.1 h8;rw[c9G,if_neg A2,d2G];refine(A6.cell h9).trans ?_;simp[h9,Ac]
    ·by_cases A2:i<n
     ·rw[if_pos A2,a1P Ab A2];exact Al.mat.row i A2 k hk
     ·obtain⟨j,rfl⟩: ∃j,i=n+j:=⟨i-n,by omega⟩;rw[if_neg A2,d2G];exact Am.mat.row j (by omega) k hk
   have b7:=bt b6 b7;clear A0 mA Ad Ag Ah Al Am A6;go_wp2_with (at_builtin;refine Lib.wpList_append_run _ rfl (.tmp 70) (.tmp 71) 169 86 rfl _ _ rfl rfl _ _ (A7 _) ?_);go_wp2_with fail;go_ret2
   exact⟨_,r,rfl,⟨_,_,_,rfl,hq⟩,rU,HU.out,by rw[A8.out,Ae.out];exact A3.out,b7⟩
theorem c8T(v:Value)(N:Nat)(L:Nat→Nat)(f:Nat→Nat→Nat)(d:Int)(w:World)(h:Arg w v N L f)(hN:N≤maxLen):
  Calls prog 117 #[v,iV d] w fun e w'=> ∃v' r,e=.returned (.tuple #[v',iV (eG d N L:Nat)])∧Cap v'∧(eG d N L=0→Gf.Bd2 r∧Gf.Und d.toNat (fun p=>Gf.bH d.toNat (thr L N p)) r)∧
   Out w' (eG d N L) v' N (L (thr L N 0)) (Gf.mm d.toNat (Gf.bH d.toNat) (Gf.mm d.toNat r (fun p=>f (thr L N p))))∧Bl w w':=by
 obtain⟨A,A0,R,C,hv,_⟩:=h.lies;subst hv;by_cases hw:bZ d ((N:Int)-d)≠0
 ·rw[show eG d N L=5 from if_pos hw];exact(c0L _ N A A0 rfl d w hN hw).mono fun e w' ⟨h1,h2⟩=>⟨_,f,h1,⟨_,_,_,rfl,c9C _⟩,fun h=>absurd h (by decide),Or.inr ⟨Or.inl (by decide),rfl⟩,h2⟩
 ·have A1: ¬(d<1∨8<d∨(N:Int)-d<0∨4<(N:Int)-d):=fun h=>hw (by rw[cE h];decide);obtain⟨n,rfl⟩:=d0I (show 0≤d by omega);obtain⟨s,rfl⟩: ∃s,N=n+s:=⟨N-n,by omega⟩;by_cases hl:(there L (n+s)).length<n
  ·rw[show eG n (n+s) L=10 from(if_neg hw).trans (if_pos hl)];exact(b8H A A0 n s L f w h (by omega) (by omega) (by omega) hl).mono fun e w' ⟨h1,h2⟩=>⟨_,f,h1,⟨_,_,_,rfl,c9C _⟩,fun h=>absurd h (by decide),Or.inr ⟨Or.inl (by decide),rfl⟩,h2⟩
  ·by_cases hf:oS L (n+s)
   ·rw[show eG n (n+s) L=0 from(if_neg hw).trans ((if_neg hl).trans (if_pos hf))];exact(c5S A A0 n s L f w h (by omega) (by omega) (by omega) (by omega) hf).mono fun e w' ⟨v',r,h1,h2,h3,h4,h5,h6⟩=>⟨v',r,h1,h2,fun _=>⟨h3,h4⟩,Or.inl ⟨rfl,h5⟩,h6⟩
   ·rw[show eG n (n+s) L=2 from(if_neg hw).trans ((if_neg hl).trans (if_neg hf))];exact(b6K A A0 n s L f w h (by omega) (by omega) (by omega) (by omega) hf).mono fun e w' ⟨h1,h2⟩=>⟨_,f,h1,⟨_,_,_,rfl,c9C _⟩,fun h=>absurd h (by decide),Or.inr ⟨Or.inl (by decide),rfl⟩,h2⟩
end Go.Proofs.YtmcaejooaaahdaaGreat
namespace Go.Proofs.YtmcaejooaaahdaaGreat.Gf
open Go.Proofs.Tryz
variable {L:Nat→Nat} {N a j k n p:Nat} {v:Value} {w:World}
def fN(a b:Nat):Nat→Nat
 |0=>0
 |k+1=>fN a b k^^^sel b k (a*2^k)
def iR(n:Nat):Nat→Nat
 |0=>n
 |j+1=>iR n j^^^sel (iR n j) (14-j) (285*2^(6-j))
def eP(a b:Nat):Nat:=iR (fN a b 8) 7%256
theorem xI(b:Nat)(h:a<256):(k:Nat)→k≤8→fN a b k<2^15
 |0,_=>Nat.two_pow_pos 15
 |k+1,hk=>by
  refine d2A (xI b h k (by omega)) ?_
  unfold sel
  split
  ·have h2:2^k≤2^7:=d2U (by decide) (by omega)
   have h3:a*2^k≤255*2^7:=d0Y (by omega) h2
   omega
  ·decide
theorem a6I(h:n<2^15):(j:Nat)→j≤7→iR n j<2^15
 |0,_=>h
 |j+1,hj=>by
  refine d2A (a6I h j (by omega)) ?_
  unfold sel
  split
  ·have h2:2^(6-j)≤2^6:=d2U (by decide) (by omega)
   have h3:285*2^(6-j)≤285*2^6:=Nat.mul_le_mul_left 285 h2
   omega
  ·decide
theorem b6G(a b k:Nat):(a^^^b)*2^k=a*2^k^^^b*2^k:=by
 have h:=Nat.shiftLeft_xor_distrib (i:=k) (a:=a) (b:=b);rw[Nat.shiftLeft_eq,Nat.shiftLeft_eq,Nat.shiftLeft_eq]at h;exact h
theorem yK(a b c:Nat):(k:Nat)→fN (a^^^b) c k=fN a c k^^^fN b c k
 |0=>(c9V 0).symm
 |k+1=>by
  show fN (a^^^b) c k^^^sel c k ((a^^^b)*2^k)=(fN a c k^^^sel c k (a*2^k))^^^(fN b c k^^^sel c k (b*2^k))
  rw[yK a b c k,b6G,b3I,gL]
theorem vM(a b c:Nat):(k:Nat)→fN a (b^^^c) k=fN a b k^^^fN a c k
 |0=>(c9V 0).symm
 |k+1=>by
  show fN a (b^^^c) k^^^sel (b^^^c) k (a*2^k)=(fN a b k^^^sel b k (a*2^k))^^^(fN a c k^^^sel c k (a*2^k))
  rw[vM a b c k,yX,gL]
theorem uH(x y:Nat):(j:Nat)→iR (x^^^y) j=iR x j^^^iR y j
 |0=>rfl
 |j+1=>by
  show iR (x^^^y) j^^^sel (iR (x^^^y) j) (14-j) (285*2^(6-j))=(iR x j^^^sel (iR x j) (14-j) (285*2^(6-j)))^^^(iR y j^^^sel (iR y j) (14-j) (285*2^(6-j)))
  rw[uH x y j,yX,gL]
theorem vQ(a b c:Nat):eP (a^^^b) c=eP a c^^^eP b c:=by
 unfold eP;rw[yK,uH];exact Nat.xor_mod_two_pow (n:=8)
theorem tJ(a b c:Nat):eP a (b^^^c)=eP a b^^^eP a c:=by
 unfold eP;rw[vM,uH];exact Nat.xor_mod_two_pow (n:=8)
theorem c3D(a:Nat):Lin (fun b=>eP a b):=by
 refine⟨?_,fun x y _ _=>tJ a x y⟩;have h:=tJ a 0 0;rw[c9V,c9V]at h;exact h
theorem c2B(c:Nat):Lin (fun b=>eP b c):=by
 refine⟨?_,fun x y _ _=>vQ x y c⟩;have h:=vQ 0 0 c;rw[c9V,c9V]at h;exact h
theorem pJ(h0:eP 1 j=mul 1 j)(h1:eP 2 j=mul 2 j)(h2:eP 4 j=mul 4 j)(h3:eP 8 j=mul 8 j)(h4:eP 16 j=mul 16 j)(h5:eP 32 j=mul 32 j)(h6:eP 64 j=mul 64 j)(h7:eP 128 j=mul 128 j)
  {a:Nat} (ha:a<256):eP a j=mul a j:=
 pV (c2B j) (tC j) h0 h1 h2 h3 h4 h5 h6 h7 ha
theorem b8I{b:Nat}(ha:a<256)(hb:b<256):eP a b=mul a b:=
 pV (c3D a) (sR a)
  (pJ (by decide) (by decide) (by decide) (by decide) (by decide) (by decide) (by decide) (by decide) ha)
  (pJ (by decide) (by decide) (by decide) (by decide) (by decide) (by decide) (by decide) (by decide) ha)
  (pJ (by decide) (by decide) (by decide) (by decide) (by decide) (by decide) (by decide) (by decide) ha)
  (pJ (by decide) (by decide) (by decide) (by decide) (by decide) (by decide) (by decide) (by decide) ha)
  (pJ (by decide) (by decide) (by decide) (by decide) (by decide) (by decide) (by decide) (by decide) ha)
  (pJ (by decide) (by decide) (by decide) (by decide) (by decide) (by decide) (by decide) (by decide) ha)
  (pJ (by decide) (by decide) (by decide) (by decide) (by decide) (by decide) (by decide) (by decide) ha)
  (pJ (by decide) (by decide) (by decide) (by decide) (by decide) (by decide) (by decide) (by decide) ha) hb
def iM(a b:Int)(k:Nat):Int:=(fN a.toNat b.toNat k:Nat)
def eJ(a b:Int)(j:Nat):Int:=(iR (fN a.toNat b.toNat 8) j:Nat)
theorem b5M{a:Int}(b:Int)(h0:0≤a)(h1:a≤255)(hk:k≤8):0≤iM a b k∧iM a b k<32768:=by
 have:=xI (a:=a.toNat) b.toNat (by omega) k hk;unfold iM;omega
theorem a3B{a:Int}(b:Int)(h0:0≤a)(h1:a≤255)(hj:j≤7):0≤eJ a b j∧eJ a b j<32768:=by
 have:=a6I (xI (a:=a.toNat) b.toNat (by omega) 8 (c9C 8)) j hj;unfold eJ;omega
theorem a4R{a b:Int}(h0:0≤a)(h1:a≤255)(g0:0≤b)(g1:b≤255):eJ a b 7%256=nX a b:=by
 have h:=b8I (a:=a.toNat) (b:=b.toNat) (by omega) (by omega);unfold eJ nX;rw[←h];unfold eP;omega
theorem b0F(a b:Int)(k:Nat)(hb:b.toNat/2^k%2=1):iM a b (k+1)=(((iM a b k).toNat^^^a.toNat*2^k:Nat):Int):=by
 unfold iM;rw[c9Q];show((fN a.toNat b.toNat k^^^sel b.toNat k (a.toNat*2^k):Nat):Int)=_;unfold sel;rw[if_pos hb]
theorem b5I(a b:Int)(k:Nat)(hb: ¬b.toNat/2^k%2=1):iM a b (k+1)=iM a b k:=by
 unfold iM;show((fN a.toNat b.toNat k^^^sel b.toNat k (a.toNat*2^k):Nat):Int)=_;unfold sel;rw[if_neg hb,d0R]
theorem b1I(a b:Int)(j:Nat)(h:(eJ a b j).toNat/2^(14-j)%2=1):eJ a b (j+1)=(((eJ a b j).toNat^^^285*2^(6-j):Nat):Int):=by
 unfold eJ at h⊢;rw[c9Q]at h⊢;show((iR (fN a.toNat b.toNat 8) j^^^sel (iR (fN a.toNat b.toNat 8) j) (14-j) (285*2^(6-j)):Nat):Int)=_;unfold sel;rw[if_pos h]
theorem b6C(a b:Int)(j:Nat)(h: ¬(eJ a b j).toNat/2^(14-j)%2=1):eJ a b (j+1)=eJ a b j:=by
 unfold eJ at h⊢;rw[c9Q]at h;show((iR (fN a.toNat b.toNat 8) j^^^sel (iR (fN a.toNat b.toNat 8) j) (14-j) (285*2^(6-j)):Nat):Int)=_;unfold sel;rw[if_neg h,d0R]
end Go.Proofs.YtmcaejooaaahdaaGreat.Gf
namespace Go.Proofs.YtmcaejooaaahdaaGreat
open Go.Proofs.Tryz
variable {L:Nat→Nat} {N a j k n p:Nat} {v:Value} {w:World}
open Go.RowKit
theorem a8G(b:Int)(k:Nat)(g0:0≤b)(g1:b<32768):(bits .and .i64 (b/2^k) 1==1)=decide (b.toNat/2^k%2=1):=by
 have hd:=b1J b k g0;rw[b3H _ _ hd.1 (by omega) (by decide) (by decide),a5E b k g0,show(1:Int).toNat=1 from rfl,nat_mask1];generalize b.toNat/2^k%2=m;rw[Bool.eq_iff_iff,beq_iff_eq,decide_eq_true_iff];omega
theorem a2A(a:Int)(k:Nat)(h0:0≤a)(h1:a≤285)(hk:k≤7):wrap64 (a*2^k)=((a.toNat*2^k:Nat):Int)∧a.toNat*2^k<65536:=by
 obtain⟨A,rfl⟩:=d0I h0;have h2:2^k≤2^7:=d2U (by decide) hk;have h3:A*2^k≤285*2^7:=d0Y (by omega) h2;have e:((A:Int)*2^k)=((A*2^k:Nat):Int):=by simp
 rw[e,c9Q];generalize A*2^k=m at*;unfold wrap64;omega
theorem c4X(a b:Int)(k:Nat)(hk:k<8)(h0:0≤a)(h1:a≤255)(g0:0≤b)(g1:b≤255)(h:(bits .and .u8 (b/2^k) 1==1)=true):
  bits .xor .i64 (Gf.iM a b k) (wrap64 (a*2^k))=Gf.iM a b (k+1):=by
 rw[a3J b k g0 g1]at h;have r:=Gf.b5M b h0 h1 (d2B hk);have s:=a2A a k h0 (by omega) (by omega);rw[s.1,wP _ _ r.1 (by omega) (by omega) (by omega),Gf.b0F a b k (of_decide_eq_true h),c9Q]
theorem c7E(a b:Int)(k:Nat)(g0:0≤b)(g1:b≤255)(h:(bits .and .u8 (b/2^k) 1==1)=false):
  Gf.iM a b k=Gf.iM a b (k+1):=by
 rw[a3J b k g0 g1]at h;rw[Gf.b5I a b k (of_decide_eq_false h)]
theorem c4F(a b:Int)(j:Nat)(hj:j<7)(h0:0≤a)(h1:a≤255)(h:(bits .and .i64 (Gf.eJ a b j/2^(14-j)) 1==1)=true):
  bits .xor .i64 (Gf.eJ a b j) (wrap64 (285*2^(14-j-8)))=Gf.eJ a b (j+1):=by
 have r:=Gf.a3B b h0 h1 (d2B hj);rw[a8G _ _ r.1 r.2]at h;have s:=a2A 285 (14-j-8) (by decide) (by decide) (by omega);rw[s.1,wP _ _ r.1 (by omega) (by omega) (by omega),Gf.b1I a b j (of_decide_eq_true h),c9Q,show 14-j-8=6-j by omega];rfl
theorem c7L(a b:Int)(j:Nat)(hj:j<7)(h0:0≤a)(h1:a≤255)(h:(bits .and .i64 (Gf.eJ a b j/2^(14-j)) 1==1)=false):
  Gf.eJ a b j=Gf.eJ a b (j+1):=by
 have r:=Gf.a3B b h0 h1 (d2B hj);rw[a8G _ _ r.1 r.2]at h;rw[Gf.b6C a b j (of_decide_eq_false h)]
theorem q9(a b:Int)(w:World)(h0:0≤a)(h1:a≤255)(g0:0≤b)(g1:b≤255):
  Calls prog 125 #[.int .u8 a,.int .u8 b] w fun e w'=>e=.returned (.int .u8 (Gf.nX a b))∧w=w':=by
 go_enter func125,ntmps125
 go_wp2_with fail;go_loop [6,7] (fun s i=> ∃k:Nat,k≤8∧i=iV k∧s=iV (Gf.iM a b k)) (fun _ i=>8-(intOf i).toNat)
 case atStart=>exact⟨0,c9D _,rfl,rfl⟩
 case round=>
  obtain⟨k,hk,rfl,rfl⟩:=hrel;by_cases A0:k<8
  ·go_wp2
   ·have hy:(bits BinOp.and IntKind.u8 (b/2^k) 1==1)=true:=by assumption
    exact⟨⟨k+1,by omega,by go_num,cB (c4X a b k A0 h0 h1 g0 g1 hy)⟩,by simp[intOf];omega⟩
   ·have hy:(bits BinOp.and IntKind.u8 (b/2^k) 1==1)=false:=by assumption
    exact⟨⟨k+1,by omega,by go_num,cB (c7E a b k g0 g1 hy)⟩,by simp[intOf];omega⟩
  ·have e8:k=8:=by omega
   subst e8;go_wp2
   go_loop [6,8] (fun s i=> ∃j:Nat,j≤7∧i=iV (14-(j:Int))∧s=iV (Gf.eJ a b j)) (fun _ i=>(intOf i).toNat-7)
   case atStart=>exact⟨0,c9D _,rfl,rfl⟩
   case round=>
    obtain⟨j,hj,rfl,rfl⟩:=hrel;by_cases A0:j<7
    ·go_wp2
     ·have hy:(bits BinOp.and IntKind.i64 (Gf.eJ a b j/2^(14-j)) 1==1)=true:=by assumption
      exact⟨⟨j+1,by omega,cB (by omega),cB (c4F a b j A0 h0 h1 hy)⟩,by simp[intOf];omega⟩
     ·have hy:(bits BinOp.and IntKind.i64 (Gf.eJ a b j/2^(14-j)) 1==1)=false:=by assumption
      exact⟨⟨j+1,by omega,cB (by omega),cB (c7L a b j A0 h0 h1 hy)⟩,by simp[intOf];omega⟩
    ·have e7:j=7:=by omega
     subst e7;go_wp2
     go_ret
     exact⟨aH (Gf.a4R h0 h1 g0 g1),rfl⟩
theorem c1W{a b:Int}(h0:0≤a)(h1:a≤255)(g0:0≤b)(g1:b≤255)(h:(Gf.nX a b==1)=true):b=Gf.nJ a 254:=by
 have e:Gf.nX a b=1:=by simpa using h
 have u:=Gf.b9Y (a:=a.toNat) (b:=b.toNat) (by omega) (by omega) (by unfold Gf.nX at e;omega);show b=((Gf.inv a.toNat:Nat):Int);omega
theorem b5H{a:Int}(h0:0≤a)(h1:a≤255)(h: ∀c:Nat,1≤c→c<256→Gf.nX a c≠1):Gf.nJ a 254=0:=by
 by_cases ha:a=0
 ·rw[ha];show((Gf.inv 0:Nat):Int)=0;rw[Gf.c2T];rfl
 ·exfalso;have i:=Gf.jH a.toNat;have n:=Gf.a4F (a:=a.toNat) (by omega) (by omega);refine h (Gf.inv a.toNat) (by omega) i ?_;unfold Gf.nX;rw[c9Q,Gf.mR (by omega) (by omega)];rfl
theorem a9R(a:Int)(w:World)(h0:0≤a)(h1:a≤255):
  Calls prog 154 #[.int .u8 a] w fun e w'=>e=.returned (.int .u8 (Gf.nJ a 254))∧w=w':=by
 go_enter func154,ntmps154
 go_wp2_with fail;go_loop [3] (fun i=> ∃k:Nat,1≤k∧k≤256∧i=iV k∧Hid (∀c:Nat,1≤c→c<k→Gf.nX a c≠1)) (fun i=>256-(intOf i).toNat)
 case atStart=>exact⟨1,by omega,by omega,rfl,fun c h g=>absurd g (by omega)⟩
 case round=>
  obtain⟨k,A2,hk,rfl,HN⟩:=hrel;by_cases A3:k<256
  ·have l1:(k:Int)≤255:=by omega
   by_cases hh:(Gf.nX a k==1)=true
   ·go_wp2_with fail;refine(q9 _ _ _ h0 h1 (by omega) (by omega)).mono ?_;rintro e w1 ⟨rfl,rfl⟩;go_wp2_with fail;go_ret
    exact⟨aH (c1W h0 h1 (by omega) l1 hh),rfl⟩
   ·have A1:(Gf.nX a k==1)=false:=by simpa using hh
    clear hh;go_wp2_with fail;refine(q9 _ _ _ h0 h1 (by omega) (by omega)).mono ?_;rintro e w1 ⟨rfl,rfl⟩;go_wp2_with fail;refine⟨⟨k+1,by omega,by omega,by go_num,?_⟩,by simp[intOf];omega⟩;intro c hc1 hc2;by_cases A0:c=k
    ·subst A0;simpa using A1
    ·exact HN.out c hc1 (by omega)
  ·have e8:k=256:=by omega
   subst e8;go_wp2_with fail;go_ret
   exact⟨aH (b5H h0 h1 HN.out).symm,rfl⟩
theorem b2G(a b:Nat)(w:World)(ha:a<256)(hb:b<256):
  Calls prog 125 #[.int .u8 a,.int .u8 b] w fun e w'=>e=.returned (.int .u8 ((Gf.mul a b:Nat):Int))∧w=w':=by
 rw[←a5Q];exact q9 _ _ _ (by omega) (by omega) (by omega) (by omega)
theorem zC(a:Nat)(w:World)(ha:a<256):
  Calls prog 154 #[.int .u8 a] w fun e w'=>e=.returned (.int .u8 ((Gf.inv a:Nat):Int))∧w=w':=by
 have h:Gf.nJ (a:Int) 254=((Gf.inv a:Nat):Int):=by
  unfold Gf.nJ Gf.inv;rw[c9Q];rfl
 rw[←h];exact a9R _ _ (by omega) (by omega)
theorem jX(v:Value)(n:Nat)(L:Nat→Nat)(f:Nat→Nat→Nat)(w:World)(h:Arg w v n L f):
  Calls prog 124 #[v] w fun e w'=>e=.returned (iV (aB n L:Nat))∧Bl w w':=by
 obtain⟨A,A8,R,C,rfl,hr⟩:=h.lies;clear h;by_cases h1:n<1
 ·have H:Hid (aB n L=5):=by show aB n L=5;unfold aB;rw[if_pos (Or.inl h1)]
  have A2:n=0:=by omega
  subst A2;clear hr h1;go_enter func124,ntmps124
  go_wp2_with fail;go_ret
  exact⟨aH (by rw[H.out];rfl),Below.refl _ _⟩
 have A2:((n:Int)==0)=false:=by rw[beq_eq_false_iff_ne];omega
 by_cases h2:12<n
 ·have H:Hid (aB n L=5):=by show aB n L=5;unfold aB;rw[if_pos (Or.inr (Or.inl h2))]
  have A5:(12:Int)<(n:Int):=by omega
  clear hr h1 h2;go_enter func124,ntmps124
  go_wp2_with fail;go_ret
  exact⟨aH (by rw[H.out];rfl),Below.refl _ _⟩
 obtain⟨b,o,rfl,A3,_⟩:=hr 0 (by omega);have hc: ∀r,r<n→w.cell? (aD b (o+r))=some (.slice (R r) (L r) (C r)):=fun r hrn=>by
  obtain⟨b',o',e1,e2,_⟩:=hr r hrn;cases e1
  exact e2
 clear hr;have A5: ¬(12:Int)<(n:Int):=by omega
 have A9:(0:Int)<(n:Int):=by omega
 have Aa:0<n:=by omega
 have A0:w.cell? (aD b o)=some (.slice (R 0) (L 0) (C 0)):=by simpa using A3
 clear A3;by_cases h3:L 0<1
 ·have H:Hid (aB n L=5):=by show aB n L=5;unfold aB;rw[if_pos (Or.inr (Or.inr (Or.inl h3)))]
  have A1:L 0=0:=by omega
  rw[A1]at A0;clear h1 h2 h3 hc A1;go_enter func124,ntmps124
  go_wp2_with fail;go_ret
  exact⟨aH (by rw[H.out];rfl),Below.refl _ _⟩
 have A1:((L 0:Int)==0)=false:=by rw[beq_eq_false_iff_ne];omega
 by_cases h4:400<L 0
 ·have H:Hid (aB n L=5):=by show aB n L=5;unfold aB;rw[if_pos (Or.inr (Or.inr (Or.inr h4)))]
  have A6:(400:Int)<(L 0:Int):=by omega
  clear h1 h2 h3 h4 hc;go_enter func124,ntmps124
  go_wp2_with fail;go_ret
  exact⟨aH (by rw[H.out];rfl),Below.refl _ _⟩
 have A6: ¬(400:Int)<(L 0:Int):=by omega
 have HL:Hid (¬(n<1∨12<n∨L 0<1∨400<L 0)):=by show¬_;omega
 have HC:=hd8 hc;clear h1 h2 h3 h4 hc;go_enter func124,ntmps124
 go_wp2_with fail;go_loopw [28] (fun i wr=> ∃k:Nat,k≤n∧i=iV k∧Hid (∀r,r<k→L r=L 0)∧Bl w wr) (fun i _=>n-(intOf i).toNat)
 case atStart=>exact⟨0,c9D _,rfl,fun r hr=>absurd hr (c9L r),Below.refl _ _⟩
 case round=>
  obtain⟨k,hk,rfl,HS,hb⟩:=hrel;have c0:=cB8 hb A0;clear A0;by_cases A4:k<n
  ·have A7:(k:Int)<(n:Int):=by omega
   have ck:=cB8 hb (HC.out k A4);by_cases hy:L k=L 0
   ·rw[hy]at ck;have HY:=hd8 hy;clear hy;go_wp2_with fail;go_region
    go_wp2_with fail;refine⟨⟨k+1,by omega,by go_num,fun r hr=>?_,hb.drew⟩,by simp[intOf];omega⟩;by_cases e:r=k
    ·rw[e];exact HY.out
    ·exact HS.out r (by omega)
   ·have Ab:((L k:Int)==(L 0:Int))=false:=by rw[beq_eq_false_iff_ne];omega
    have H:Hid (aB n L=2):=by
     show aB n L=2;unfold aB;rw[if_neg HL.out,if_neg (fun h=>hy (h k A4))]
    clear hy;go_wp2_with fail;go_region
    go_wp2_with fail;go_ret
    exact⟨aH (by rw[H.out];rfl),hb.drew⟩
  ·have e8:k=n:=by omega
   subst e8;have H:Hid (aB k L=0):=by
    show aB k L=0;unfold aB;rw[if_neg HL.out,if_pos HS.out]
   go_wp2_with fail;go_ret
   exact⟨aH (by rw[H.out];rfl),hb⟩
end Go.Proofs.YtmcaejooaaahdaaGreat
