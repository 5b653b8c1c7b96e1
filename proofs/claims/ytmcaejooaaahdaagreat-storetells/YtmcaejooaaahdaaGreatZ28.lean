import Derived.Test.YtmcaejooaaahdaaGreatZ20
import Derived.StillTailTactics
set_option maxHeartbeats 8000000
set_option maxRecDepth 100000
namespace Go.Proofs.YtmcaejooaaahdaaGreat
open Go.Proofs.Tryz
open Go.RowKit
theorem a0Q(v:Value)(n:Nat)(A:Option Addr)(cap:Nat)(hv:v=.slice A n cap)(s:Int)(w:World)(h:(n:Int)<1∨8<(n:Int)∨s<0∨4<s):
  Calls prog 94 #[v,iV s] w fun e w'=>e=.returned (.tuple #[nS,iV 5])∧Bl w w':=by
 subst hv;have H:=fun w=>vZ n s w h;clear h;go_enter func94,ntmps94
 go_wp2_with fail;refine(H _).mono ?_;rintro e w1 ⟨rfl,b1⟩;go_wp2_with fail;go_ret2
 exact⟨rfl,b1⟩
theorem a0D(v:Value)(n s:Nat)(L:Nat→Nat)(f:Nat→Nat→Nat)(w:World)(h:Arg w v n L f)(h1:1≤n)(h2:n≤8)(h3:s≤4)(hx:aB n L≠0):
  Calls prog 94 #[v,iV s] w fun e w'=>e=.returned (.tuple #[nS,iV (aB n L:Nat)])∧Bl w w':=by
 have HW:=fun w' hb'=>jX v n L f w' (h.bE (w':=w') hb');have HR:=fun w=>lK n s w h1 h2 h3;obtain⟨A,A0,R,C,rfl,_⟩:=h.lies;generalize aB n L=x at HW hx;have A1:((x:Int)==0)=false:=by rw[beq_eq_false_iff_ne];omega
 clear h hx;go_enter func94,ntmps94
 go_wp2_with fail;refine(HR _).mono ?_;rintro e w1 ⟨g,cp,rfl,_,_,b1⟩;go_wp2_with fail;refine(HW _ b1).mono ?_;rintro e w2 ⟨rfl,b2⟩;go_wp2_with fail;go_ret2
 exact⟨rfl,bt b1 b2⟩
theorem a0O(v:Value)(n:Nat)(L:Nat→Nat)(f:Nat→Nat→Nat)(w:World)(h:Arg w v n L f)(h1:1≤n)(h2:n≤8)(hx:aB n L=0):
  Calls prog 94 #[v,iV 0] w fun e w'=>e=.returned (.tuple #[nS,iV 0])∧Bl w w':=by
 have HW:=fun w' hb'=>jX v n L f w' (h.bE (w':=w') hb');have HR:=fun w=>lK n 0 w h1 h2 (by omega);obtain⟨A,A1,R,C,rfl,_⟩:=h.lies;rw[hx]at HW;clear h hx;go_enter func94,ntmps94
 go_wp2_with fail;refine(HR _).mono ?_;rintro e w1 ⟨g,cp,rfl,A2,_,b1⟩;go_wp2_with fail;refine(HW _ b1).mono ?_;rintro e w2 ⟨rfl,b2⟩;have b2:=bt b1 b2;by_cases A0:cp=n
 ·subst A0;go_wp2_with fail;refine wp_loop_rounds 1 ?_;rw[rounds_succ];go_wp2_with fail;go_ret2
  exact⟨rfl,b2⟩
 ·go_wp2_with fail;refine wp_loop_rounds 1 ?_;rw[rounds_succ];go_wp2_with fail;go_ret2
  exact⟨rfl,b2⟩
def wL(k d:Nat)(M:Nat→Nat)(x:Nat):Nat:=if x<k then M x else if x=k then d else 0
theorem xZ(k:Nat)(M:Nat→Nat)(x:Nat):wL k 0 M x=dW k M (fun _=>0) x:=by
 unfold wL dW;by_cases h:x<k
 ·rw[if_pos h,if_pos h]
 ·rw[if_neg h,if_neg h];split<;>rfl
theorem a2X(k:Nat)(M:Nat→Nat)(x:Nat):wL k (M k) M x=dW (k+1) M (fun _=>0) x:=by
 unfold wL dW;by_cases h:x<k
 ·rw[if_pos h,if_pos (by omega)]
 ·rw[if_neg h];by_cases e:x=k
  ·rw[if_pos e,if_pos (by omega),e]
  ·rw[if_neg e,if_neg (by omega)]
theorem a2P(k d:Nat)(M:Nat→Nat):wL k d M k=d:=by
 unfold wL;rw[if_neg (d0V _),if_pos rfl]
theorem a2V{w:World}{g:Nat}{t:TypeId}{c k d d':Nat}{M:Nat→Nat}(h:w.rowIs g t c (fun x=> .int .u8 (wL k d M x:Nat))):(w.setCell (aD g k) (.int .u8 d')).rowIs g t c (fun x=> .int .u8 (wL k d' M x:Nat)):=
 (h.set k _).congr (fun x _=>by
  unfold wL
  by_cases e:x=k
  ·rw[if_pos e,if_neg (by omega),if_pos e]
  ·rw[if_neg e,if_neg e,if_neg e])
theorem tN(v:Value)(n s c:Nat)(f:Nat→Nat→Nat)(w:World)(h:Mx w v n c f)(h2:n≤8)(h3:1≤s)(h4:s≤4):
  Calls prog 94 #[v,iV s] w fun e w'=> ∃v' N G K,e=.returned (.tuple #[v',iV 0])∧w.heap.size≤N∧Acc w' N v' s c G K (Gf.mm n (cQ n) f)∧(∀j,j<s→K j=c)∧Bl w w':=by
 obtain⟨d1,d2,d3,d4⟩:=h.dim;have HW:=fun w' hb'=>jX v n _ f w' (h.bE (w':=w') hb').arg;have HR:=fun w=>lK n s w d1 h2 h4;rw[h.ok]at HW;have Ab:=h.bd;obtain⟨bb,ob,pb,Gb,Ob,Kb,rfl,A8⟩:=h.lies;obtain⟨i0,hi,hh⟩:=c9J.1 Tryz.infoRow;simp only[Prod.mk.injEq]at hh;obtain⟨Ae,Af,Ag⟩:=hh;have A7:=run_make_row' (P:=prog) 59 5 (.int .u8 0) 1 underlying59 Tryz.infoByte rfl .i64 .i64 c (by omega) (by omega);have Ah:(0:Int)<(n:Int):=by omega
 clear h;go_enter func94,ntmps94
 go_wp2_with fail;refine(HR _).mono ?_;rintro e w1 ⟨g,cp,rfl,Aj,⟨G,K,hm⟩,b1⟩;go_wp2_with fail;refine(HW _ b1).mono ?_;rintro e w2 ⟨rfl,b2⟩;have hm:=(hm.bE b2).spare;have b2:=bt b1 b2;have Ai: ¬cp=n:=by omega
 have Ap:(n:Int)≤((n+s:Nat):Int):=by omega
 clear HR HW b1;go_wp2_with fail;go_loopw [9,35] (fun v x wr=> ∃i:Nat,i≤s∧x=iV i∧(∃G K,Acc wr w2.heap.size v i c G K (Gf.mm n (cQ n) f)∧Hid (∀j,j<i→K j=c))∧Bl w2 wr) (fun _ x _=>s-(intOf x).toNat)
 case atStart=>exact⟨0,c9D _,rfl,⟨fun _=>0,fun _=>0,Acc.start w2 _ c _ _ _,fun j hj=>absurd hj (c9L j)⟩,Below.refl _ _⟩
 case round=>
  obtain⟨i,Ak,rfl,⟨G2,K2,hA,HK⟩,A0⟩:=hrel;obtain⟨wo,rfl⟩: ∃x,x=wr:=⟨wr,rfl⟩;by_cases A6:i<s
  ·have Ac:(i:Int)<(s:Int):=by omega
   have t1:=(hm.bE A0).top i A6;have t2:wo.cell? (aD bb ob)=some (.slice (some ⟨Gb 0,Ob 0,none⟩) c (Kb 0)):=by simpa using(A8.bE (bt b2 A0)).top 0 (by omega)
   go_wp2_with fail;clear t1 t2 A7;go_loopw [46] (fun x wm=> ∃k:Nat,k≤c∧x=iV k∧wm.rowIs wo.heap.size 5 c (fun y=> .int .u8 (dW k (Gf.mm n (cQ n) f i) (fun _=>0) y:Nat))∧Bl wo wm) (fun x _=>c-(intOf x).toNat)
   case atStart=>exact⟨0,c9D _,rfl,(World.rowIs_made wo (.int .u8 0) c 5).congr (fun j _=>by rw[show dW 0 (Gf.mm n (cQ n) f i) (fun _=>0) j=0 from if_neg (c9L _)];rfl),aB8 _ _⟩
   case round=>
    obtain⟨k,Ao,rfl,hR,A2⟩:=hrel;obtain⟨wm,rfl⟩: ∃x,x=wr:=⟨wr,rfl⟩;by_cases hk:k<c
    ·have An:(k:Int)<(c:Int):=by omega
     go_wp2_with fail;go_loopw [51] (fun x wi=> ∃j:Nat,j≤n∧x=iV j∧wi.rowIs wo.heap.size 5 c (fun y=> .int .u8 (wL k (Gf.dot j (cQ n i) (fun l=>f l k)) (Gf.mm n (cQ n) f i) y:Nat))∧Bl wo wi) (fun x _=>n-(intOf x).toNat)
     case atStart=>exact⟨0,c9D _,rfl,hR.congr (fun y _=>by rw[show Gf.dot 0 (cQ n i) (fun l=>f l k)=0 from rfl,xZ]),A2⟩
     case round=>
      clear hR A2;obtain⟨j,Am,rfl,hJ,A3⟩:=hrel;by_cases hj:j<n
      ·have Al:(j:Int)<(n:Int):=by omega
       have A9:=(hm.bE A0).bE A3;have A5:=(A8.bE (bt b2 A0)).bE A3;have u1:=hJ.cell hk;rw[a2P]at u1;have z1:=hJ.frozen k;have u2:=A9.row i A6 j hj;have u3:=A5.top j hj;have u4:=A5.row j hj k hk;rw[c9G]at u2;have Ad:=pQ (Gf.mQ (iB n i) (fun l=>f l k) j) (Gf.dN (f j k) (iB n i j));have HP:=a2V (d':=Gf.dot j (cQ n i) (fun l=>f l k)^^^Gf.mul (cQ n i j) (f j k)) hJ;have Aa:=A3.setCell (p:=⟨wo.heap.size,k,none⟩) (c9C _) (.int .u8 ((Gf.dot j (cQ n i) (fun l=>f l k)^^^Gf.mul (cQ n i j) (f j k):Nat):Int));have v1:({wr with drawn:=wr.drawn+1}:World).cell? (aD wo.heap.size k)=some (.int .u8 (Gf.dot j (cQ n i) (fun l=>f l k):Nat)):=u1;have v2:({wr with drawn:=wr.drawn+1}:World).cell? ⟨G (n+i),j,none⟩=some (.int .u8 (cQ n i j:Nat)):=u2;have v3:({wr with drawn:=wr.drawn+1}:World).cell? (aD bb (ob+j))=some (.slice (some ⟨Gb j,Ob j,none⟩) c (Kb j)):=u3;have v4:({wr with drawn:=wr.drawn+1}:World).cell? ⟨Gb j,Ob j+k,none⟩=some (.int .u8 (f j k:Nat)):=u4;clear A9 A5 hJ;go_wp2_with fail;refine wp_region_still_tail 20 (by kernel_rfl) (by kernel_rfl) ?_;simp only[List.take_succ_cons,List.take_zero,List.drop_succ_cons,List.drop_zero];iterate 17 still_step
       still_call (jO _ _ _ (iB n i j) (Ab j k))
       iterate 2 still_step
       refine wpStill_nil ?_;go_wp2_with fail;exact⟨⟨j+1,by omega,by go_num,HP.drew,Aa.drew⟩,by simp[intOf];omega⟩
      ·have ej:j=n:=by omega
       subst ej;have HD:wr.rowIs wo.heap.size 5 c (fun y=> .int .u8 (dW (k+1) (Gf.mm j (cQ j) f i) (fun _=>0) y:Nat)):=hJ.congr (fun y _=>by rw[←a2X];rfl);clear hJ;go_wp2_with fail;exact⟨⟨k+1,by omega,by go_num,HD,A3⟩,by simp[intOf];omega⟩
    ·have ek:k=c:=by omega
     subst ek;have hF:aZ wm wo.heap.size 5 k (fun y=> .int .u8 (Gf.mm n (cQ n) f i y:Nat)):=iL (hR.congr (fun y hy=>by rw[show dW k (Gf.mm n (cQ n) f i) (fun _=>0) y=Gf.mm n (cQ n) f i y from if_pos hy]));have A4:=(Below.refl wm.heap.size wm).alloc (c9C _) (.cells #[.slice (some (aD wo.heap.size 0)) k k] 59);have AX:=(hA.bE A2).bE A4;have rX:=hF.alloc (.cells #[.slice (some (aD wo.heap.size 0)) k k] 59);have bX:=bt (bt A0 A2) A4;clear hR hF hA;go_wp2_with (at_builtin;refine wpList_append_own _ rfl (.tmp 76) (.tmp 78) 86 rfl w2.heap.size 59 i0 nS 1 24 underlying86 hi Ae Af Ag rfl (by decide) _ _ _ rfl AX.own (aD wm.heap.size 0) 1 1 [.slice (some (aD wo.heap.size 0)) k k] rfl rfl dD (by intro u hu;simp at hu;subst hu;rfl) (by unfold maxLen;omega) (by omega) bX.size ?_;intro v1 w4 hown1 hgrow1 _);have A1:=AX.step ⟨A0.size,rX⟩ hown1 hgrow1;have b4:Bl w2 w4:=bX.grown hgrow1 bX.size (fun x hx=>(AX.own.lt x hx).1);clear hown1 hgrow1 AX rX bX A4 A2;go_wp2_with fail
     exact⟨⟨i+1,by omega,by go_num,⟨_,_,A1,fun j hj=>by
      unfold lS;by_cases e:j=i
      ·rw[if_pos e]
      ·rw[if_neg e];exact HK.out j (by omega)⟩,b4⟩,by simp[intOf];omega⟩
  ·have ei:i=s:=by omega
   subst ei;have HA:=hd8 hA;clear hA A7;go_wp2_with fail;go_ret2
   exact⟨_,w2.heap.size,_,_,rfl,b2.size,HA.out,HK.out,bt b2 A0⟩
theorem a9A(v:Value)(n s c:Nat)(f:Nat→Nat→Nat)(w:World)(h:Mx w v n c f)(h2:n≤8)(h3:1≤s)(h4:s≤4):
  Calls prog 94 #[v,iV s] w fun e w'=> ∃v',e=.returned (.tuple #[v',iV 0])∧Mx w' v' s c (Gf.mm n (cQ n) f)∧Bl w w':=by
 obtain⟨_,_,d3,d4⟩:=h.dim;refine(tN v n s c f w h h2 h3 h4).mono ?_;rintro e w' ⟨v',N,G,K,rfl,_,hA,_,hb⟩;exact⟨v',rfl,hA.mx (Gf.oN (iB n) n f) ⟨h3,by omega,d3,d4⟩,hb⟩
theorem b8B(v:Value)(n:Nat)(L:Nat→Nat)(f:Nat→Nat→Nat)(s:Int)(w:World)(h:Arg w v n L f):
  Calls prog 94 #[v,iV s] w fun e w'=> ∃v',e=.returned (.tuple #[v',iV (vD n L s:Nat)])∧Out w' (vD n L s) v' s.toNat (L 0) (Gf.mm n (cQ n) f)∧Bl w w':=by
 by_cases hc:(n:Int)<1∨8<(n:Int)∨s<0∨4<s
 ·rw[show vD n L s=5 from if_pos (by rw[cE hc];decide)];obtain⟨A,A0,R,C,hv,_⟩:=h.lies;exact(a0Q v n A A0 hv s w hc).mono fun e w' ⟨h1,h2⟩=>⟨_,h1,Or.inr ⟨Or.inl (by decide),rfl⟩,h2⟩
 ·rw[show vD n L s=aB n L from if_neg (by rw[cO hc];simp)];obtain⟨m,rfl⟩:=d0I (show 0≤s by omega);by_cases hw:aB n L=0
  ·rw[hw];rcases Nat.eq_zero_or_pos m with rfl|hm
   ·exact(a0O v n L f w h (by omega) (by omega) hw).mono fun e w' ⟨h1,h2⟩=>⟨_,h1,Or.inr ⟨Or.inr rfl,rfl⟩,h2⟩
   ·exact(a9A v n m (L 0) f w (h.mx hw) (by omega) hm (by omega)).mono fun e w' ⟨v',h1,h2,h3⟩=>⟨v',h1,Or.inl ⟨rfl,h2⟩,h3⟩
  ·exact(a0D v n m L f w h (by omega) (by omega) (by omega) hw).mono fun e w' ⟨h1,h2⟩=>⟨_,h1,Or.inr ⟨Or.inl hw,rfl⟩,h2⟩
end Go.Proofs.YtmcaejooaaahdaaGreat
