import Derived.Test.YtmcaejooaaahdaaGreatZ09
import Derived.Test.YtmcaejooaaahdaaGreatZ11
import Derived.Laws.ResultCell
import Derived.Deep.RegionHeld3
import Derived.Deep.Cut
import Derived.Deep.CutRange
import Derived.Lib.AppendStr
set_option maxHeartbeats 8000000
set_option maxRecDepth 100000
namespace Go.Proofs.YtmcaejooaaahdaaGreat
open Go.Proofs.Tryz
variable {B C M N b g k m n o p x:Nat} {S:Nat→Prop} {W0 w w' w0 wX:World} {a' b' c' d d' v:Value} {bs r:List Nat} {t:TypeId}
open Go.RowKit
def kX(w:World)(N:Nat)(v:Value)(m:Nat)(f:Nat→Nat):Prop:= ∃g cap,v=.slice (some (aD g 0)) m cap∧N≤g∧m≤cap∧cap≤maxLen∧aZ w g 5 m (fun j=> .int .u8 (f j:Nat))
theorem kX.byts{f:Nat→Nat}(h:kX w N v m f)(hf:Bd f):cA w v m f:=by
 obtain⟨g,A0,rfl,_,h1,h2,hr⟩:=h;exact lE hf hr h1 h2
theorem kX.lower{f:Nat→Nat}(h:kX w N v m f)(hM:M≤N):kX w M v m f:=by
 obtain⟨g,A0,hv,hN,h1,h2,hr⟩:=h;exact⟨g,A0,hv,c9E hM hN,h1,h2,hr⟩
theorem Buf.made{f:Nat→Nat}(h:Buf w N v n f)(hf:Bd f)(hn:1≤n):kX w N v n f:=by
 obtain⟨g,A0,hv,hN,h1,h2,hr,_⟩:=h.byts hf hn;exact⟨g,A0,hv,hN,h1,h2,hr⟩
theorem a8L(w:World)(c:Array Value)(t:TypeId)(hm:c.size≤maxLen):(w.alloc (.cells c t)).ownsRow w.heap.size t 1 (.slice (some (aD w.heap.size 0)) c.size c.size) c.size c.toList:=
 ⟨by simp,.inr ⟨w.heap.size,c.size,c,rfl,c9C _,Deep.blk_alloc_new _ _,c9C _,hm,by simp,by rw[d1X];exact List.take_of_length_le (by simp)⟩⟩
theorem c7F(s h z n:Nat)(f:Nat→Nat): ∀k,k<5→put (put (Crc.hd s h z n f) 3 (z/256)) 4 (z%256) k=Crc.hd s h z n f k:=fun k hk=>by
 unfold put
 by_cases e:k=4
 ·rw[if_pos e,e];rfl
 ·rw[if_neg e]
  by_cases e:k=3
  ·rw[if_pos e,e];rfl
  ·rw[if_neg e]
theorem c8B(s h z n:Nat)(f:Nat→Nat): ∀k,k<7→put (put (Crc.hd s h z n f) 5 (n/256)) 6 (n%256) k=Crc.hd s h z n f k:=fun k hk=>by
 unfold put
 by_cases e:k=6
 ·rw[if_pos e,e];rfl
 ·rw[if_neg e]
  by_cases e:k=5
  ·rw[if_pos e,e];rfl
  ·rw[if_neg e]
theorem b4R(s h z n:Nat)(f:Nat→Nat):cellsOf (Crc.hd s h z n f) (7+n)=cellsOf (Crc.hd s h z n f) 7++cellsOf f n:=by
 rw[lH];congr 1;refine jJ (fun k _=>?_);rw[Nat.add_comm];rfl
theorem a3A(s h z n:Nat)(f:Nat→Nat): ∀k,mC (Crc.hd s h z n f) (7+n) (Crc.sum (Crc.hd s h z n f) (7+n)) k=Crc.enc s h z n f k:=fun k=>by
 unfold mC Crc.enc
 rw[Nat.add_comm 7 n]
theorem b8A(s h z:Int)(A:Option Addr)(n cap:Nat)(w:World)(hx:Crc.aA s h z n≠0):
  Calls prog 138 #[.agg #[iV s,iV h,iV z,.slice A n cap]] w fun e w'=>e=.returned (.tuple #[nS,iV (Crc.aA s h z n:Nat)])∧Bl w w':=by
 have H1:=fun w'=>tP s h z A n cap w';generalize Crc.aA s h z n=x at H1 hx;have A1:((x:Int)==0)=false:=by rw[beq_eq_false_iff_ne];omega
 have A2:((x:Int) !=0)=true:=by rw[bne,A1];rfl
 have A0:=aB8 w (.cells #[iV s,iV h,iV z,.slice A n cap] 137);clear hx;go_enter func138,ntmps138
 go_wp2_with fail;refine(H1 _).mono ?_;rintro e w1 ⟨rfl,b1⟩;have b1:=bt A0 b1;clear H1;go_wp2_with fail;go_ret2
 exact⟨rfl,b1⟩
theorem c1D(s h z:Nat)(v:Value)(n:Nat)(f:Nat→Nat)(w:World)(hd:cA w v n f)(hx:Crc.aA s h z n=0):
  Calls prog 138 #[.agg #[iV s,iV h,iV z,v]] w fun e w'=> ∃v',e=.returned (.tuple #[v',iV 0])∧kX w' w.heap.size v' (n+11) (Crc.enc s h z n f)∧Bl w w':=by
 obtain⟨⟨_,hs,_,hh,_,hz⟩,Af,Ak⟩:=Crc.bN hx;have hf:=hd.bd;have A3:Hid (Bd (Crc.hd s h z n f)):=Crc.c2O (by omega) (by omega) (by omega) (by omega) hf;have Ac:Hid (Bd (Crc.enc s h z n f)):=Crc.a4S (by omega) (by omega) (by omega) (by omega) hf;obtain⟨b,o,A0,rfl,_,_,hc⟩:=hd.some Af;obtain⟨i1,Ae,A9⟩:=c9J.1 Tryz.infoByte;simp only[Prod.mk.injEq]at A9;obtain⟨Ag,Ah,Ai⟩:=A9;have H1:=fun w'=>tP s h z (some (aD b o)) n A0 w';rw[hx]at H1;have A8:=aB8 w (.cells #[iV s,iV h,iV z,.slice (some (aD b o)) n A0] 137);have kc:=eE w #[iV s,iV h,iV z,.slice (some (aD b o)) n A0] 137;have k0:=kc 0 _ rfl;have k1:=kc 1 _ rfl;have k2:=kc 2 _ rfl;have k3:=kc 3 _ rfl;rw[WideShapes.add_plain]at k0 k1 k2 k3;have Aj:(w.alloc (.cells #[iV s,iV h,iV z,.slice (some (aD b o)) n A0] 137)).heap.size=w.heap.size+1:=by simp
 clear kc hd hx;go_enter func138,ntmps138
 go_wp2_with fail;refine(H1 _).mono ?_;rintro e w1 ⟨rfl,b1⟩;have K0:=cB8 b1 k0;have Aa:=World.block_lt_of_cell? _ _ K0;have K1:=cB8 b1 k1;have K2:=cB8 b1 k2;have K3:=cB8 b1 k3;rw[c9G]at K1 K2 K3;have b1:=bt A8 b1;clear H1 k0 k1 k2 k3 A8 Aj;have X2:Bl w1 (w1.alloc (.cells #[.int .u8 83,.int .u8 s,.int .u8 h] 5)):=(Below.refl _ _).alloc (c9C _) _;have B2:Buf (w1.alloc (.cells #[.int .u8 83,.int .u8 s,.int .u8 h] 5)) w1.heap.size (.slice (some (aD w1.heap.size 0)) 3 3) 3 (Crc.hd s h z n f):=a8L w1 #[.int .u8 83,.int .u8 s,.int .u8 h] 5 (by unfold maxLen;simp);have H2:=yA w1.heap.size 3 z _ _ _ B2 X2.size (by omega) (by omega);clear B2;go_wp2_with fail;refine H2.mono ?_;rintro e w2 ⟨v2,rfl,B3,A6⟩;have c2:=X2.trans A6;have B3:=B3.congr (c7F s h z n f);have K3:=(c2.cell (p:=⟨w.heap.size,3,none⟩) Aa).trans K3;have H3:=yA w1.heap.size 5 n _ _ _ B3 c2.size (by omega) (by omega);clear H2 B3 X2 A6;go_wp2_with fail;refine H3.mono ?_;rintro e w3 ⟨v3,rfl,B4,A7⟩;have K3:=(A7.cell (p:=⟨w.heap.size,3,none⟩) Aa).trans K3;have c3:=c2.trans A7;have B4:=B4.congr (c8B s h z n f);have b3:=b1.trans (c3.mono b1.size);have A2: ∀j u,(cellsOf f n)[j]?=some u→w3.cell? ((⟨b,o,none⟩:Addr).add j)=some u:=fun j u hj=>by
  rcases Nat.lt_or_ge j n with h|h
  ·simp[cellsOf,h]at hj;rw[WideShapes.add_plain,cB8 b3 (hc j h),←hj]
  ·simp[List.getElem?_eq_none (show(cellsOf f n).length≤j by simpa [cellsOf]using h)]at hj
 have A5:=jR f n;have A1:(cellsOf f n).length=n*1:=by simp[cellsOf]
 have HL:=B4.lt;have A4:=hd8 (b4R s h z n f);have s3:=c3.size;clear hc;go_wp2_with (at_builtin;go_loud (refine wpList_append_own _ rfl (.tmp 27) (.tmp 29) 59 rfl w1.heap.size 5 i1 (.int .u8 0) 1 1 underlying59 Ae Ag Ah Ai rfl (by decide) _ _ _ rfl B4 (aD b o) n A0 (cellsOf f n) rfl A1 A2 A5 (by unfold maxLen;omega) (by omega) s3 ?_;intro v4 w4 hown4 hgrow4 _));have B5:Buf w4 w1.heap.size v4 (7+n) (Crc.hd s h z n f):=by
  unfold Buf;rw[A4.out];exact hown4
 have c4:=c3.grown hgrow4 s3 (fun y hy=>(HL y hy).1);have Y4:=(B5.made A3.out (by omega)).byts A3.out;have H5:=c4K v4 (7+n) _ w4 Y4;have Ab:Crc.sum (Crc.hd s h z n f) (7+n)<4294967296:=Crc.c2E A3.out _;have H6:=a9Y w1.heap.size (7+n) (Crc.sum (Crc.hd s h z n f) (7+n)) v4 _ w4 B5 c4.size (by omega) Ab;have HE:=hd8 (a3A s h z n f);generalize Crc.sum (Crc.hd s h z n f) (7+n)=S at H5 H6 Ab HE;clear hown4 B5 Y4 A4 H3 B4 A2 K3 hgrow4 HL A5 A1;refine H5.mono ?_;rintro e w5 ⟨rfl,rfl⟩;go_wp2_with fail;refine H6.mono ?_;rintro e w6 ⟨v6,rfl,B7,Ad⟩;have c6:=c4.trans Ad;have HM:Hid (kX w6 w.heap.size v6 (n+11) (Crc.enc s h z n f)):=by
  have:=(B7.congr (fun k _=>HE.out k)).made Ac.out (by omega);rw[show 7+n+4=n+11 by omega]at this;exact this.lower b1.size
 clear H5 H6 B7;go_wp2_with fail;go_ret2
 exact⟨v6,rfl,HM.out,b1.trans (c6.mono b1.size)⟩
theorem a4K(s h z:Int)(A:Option Addr)(n cap:Nat)(w:World)(hx:Crc.aA s h z n≠0):
  Calls prog 95 #[.agg #[iV s,iV h,iV z,.slice A n cap]] w fun e w'=>e=.returned (.tuple #[nS,iV (Crc.aA s h z n:Nat)])∧Bl w w':=by
 have H1:=fun w'=>m7 s h z A n cap w';generalize Crc.aA s h z n=x at H1 hx;have A1:((x:Int)==0)=false:=by rw[beq_eq_false_iff_ne];omega
 have A2:((x:Int) !=0)=true:=by rw[bne,A1];rfl
 have A0:=aB8 w (.cells #[iV s,iV h,iV z,.slice A n cap] 137);clear hx;go_enter func95,ntmps95
 go_wp2_with fail;refine(H1 _).mono ?_;rintro e w1 ⟨rfl,b1⟩;have b1:=bt A0 b1;clear H1;go_wp2_with fail;go_ret2
 exact⟨rfl,b1⟩
structure sK(w:World)(p:Nat)(a b c d:Value):Prop where
 c0:w.cell? (aD p 0)=some a
 c1:w.cell? (aD p 1)=some b
 c2:w.cell? (aD p 2)=some c
 c3:w.cell? (aD p 3)=some d
 fr: ∀i,w.frozen? (aD p i)=false
theorem fW(w:World)(a b c d:Value):sK (w.alloc (.cells #[a,b,c,d] 137)) w.heap.size a b c d:=by
 have hr:=World.rowIs_alloc w #[a,b,c,d] 137 (fun k=>#[a,b,c,d].getD k a) (fun i hi=>by simp only[Array.getElem?_eq_getElem hi,Array.getD,hi,dif_pos];rfl);exact⟨hr.cell (i:=0) (by simp),hr.cell (i:=1) (by simp),hr.cell (i:=2) (by simp),hr.cell (i:=3) (by simp),fun i=>hr.frozen i⟩
theorem sK.bE{a b c:Value}(h:sK w p a b c d)(hb:Bl w w'):sK w' p a b c d:=by
 have hp:p<w.heap.size:=World.block_lt_of_cell? _ _ h.c0
 exact⟨(hb.cell (p:=⟨p,0,none⟩) hp).trans h.c0,(hb.cell (p:=⟨p,1,none⟩) hp).trans h.c1,(hb.cell (p:=⟨p,2,none⟩) hp).trans h.c2,(hb.cell (p:=⟨p,3,none⟩) hp).trans h.c3,fun i=>by
  rw[←h.fr i]
  exact World.frozen?_of_block (hb.block p hp)⟩
theorem b4Z(v:Value)(n:Nat)(g:Nat→Nat)(w:World)(h:cA w v n g)(hx:cW g n):
  Calls prog 120 #[v] w fun e w'=>e=.returned (.tuple #[.agg #[iV 0,iV 0,iV 0,nS],iV 2])∧Bl w w':=by
 have H1:=fun w' (hb':Bl w w')=>kW v n g w' (h.bE hb');have HX:=hd8 hx;clear hx;go_enter func120,ntmps120
 go_wp2_with fail;refine(H1 _ (aB8 _ _)).mono ?_;rintro e w1 ⟨⟨y,rfl,hy⟩,b1⟩;have bx:=bt ((Below.refl _ w).alloc (c9C _) _) b1;obtain⟨c0,c1,c2,c3,fr⟩:=(fW w (iV 0) (iV 0) (iV 0) nS).bE b1;have A0:y=false:=by
  cases y with
  |false=>rfl
  |true=>exact absurd HX.out (hy.1 rfl)
 subst A0;have f0:=fr 0;have f1:=fr 1;have f2:=fr 2;have f3:=fr 3;clear hy H1;go_wp2_with fail;refine bodyPost_ret (v:=.tuple #[.agg #[iV 0,iV 0,iV 0,nS],iV 2]) (by simp[results,results120,go_sem,c0,c1,c2,c3]) rfl ⟨rfl,?_⟩;exact(((bx.setCell (c9C _) _).setCell (c9C _) _).setCell (c9C _) _).setCell (c9C _) _
theorem b0O(b o e cap:Nat)(g:Nat→Nat)(w:World)(h:cA w (.slice (some (aD b o)) (e+4) cap) (e+4) g)(hcap:e+4≤cap)(hx: ¬cW g (e+4))(hs:Crc.sum g e≠Crc.oD g e):
  Calls prog 120 #[.slice (some (aD b o)) (e+4) cap] w fun r w'=>r=.returned (.tuple #[.agg #[iV 0,iV 0,iV 0,nS],iV 9])∧Bl w w':=by
 have hl:=h.len;have he:8≤e:=by unfold cW at hx;omega
 have H1:=fun w' (hb':Bl w w')=>kW _ (e+4) g w' (h.bE hb');obtain⟨b',o',A2,hv,_,_,hc⟩:=h.some (by omega);cases hv
 have A0:=h.bd;have H2:=fun w' (hb':Bl w w')=>yI b o e cap g w' A0 (by omega) (fun i hi=>(hb'.cell (p:=⟨b,o+i,none⟩) (World.block_lt_of_cell? _ _ (hc i (by omega)))).trans (hc i (by omega)));have H3:=fun w' (hb':Bl w w')=>a0W b o (e+4) cap e g w' A0 hl rfl (fun i hi=>(hb'.cell (p:=⟨b,o+i,none⟩) (World.block_lt_of_cell? _ _ (hc i (by omega)))).trans (hc i (by omega)));have A1:(((Crc.sum g e:Nat):Int) !=((Crc.oD g e:Nat):Int))=true:=by rw[bne_iff_ne];omega
 have HX:=hd8 hx;have A4:(e:Int)≤(cap:Int):=by omega
 generalize Crc.sum g e=S at H2 A1;generalize Crc.oD g e=F at H3 A1;clear hx hs hc h;go_enter func120,ntmps120
 go_wp2_with fail;refine(H1 _ (aB8 _ _)).mono ?_;rintro e1 w1 ⟨⟨y,rfl,hy⟩,b1⟩;have bx:=bt ((Below.refl _ w).alloc (c9C _) _) b1;have V1:=(fW w (iV 0) (iV 0) (iV 0) nS).bE b1;have A3:=hy.2 HX.out;subst A3;clear hy H1 b1;go_wp2_with fail;refine(H2 _ bx).mono ?_;rintro e2 w2 ⟨rfl,rfl⟩;go_wp2_with fail;refine(H3 _ bx).mono ?_;rintro e3 w3 ⟨rfl,b3⟩;obtain⟨c0,c1,c2,c3,fr⟩:=V1.bE b3;have bx:=bt bx b3;have f0:=fr 0;have f1:=fr 1;have f2:=fr 2;have f3:=fr 3;clear H2 H3 V1 b3;go_wp2_with fail;refine bodyPost_ret (v:=.tuple #[.agg #[iV 0,iV 0,iV 0,nS],iV 9]) (by simp[results,results120,go_sem,c0,c1,c2,c3]) rfl ⟨rfl,?_⟩;exact(((bx.setCell (c9C _) _).setCell (c9C _) _).setCell (c9C _) _).setCell (c9C _) _
theorem sK.drew{a b c:Value}(h:sK w p a b c d):sK w.drew p a b c d:=⟨h.c0,h.c1,h.c2,h.c3,h.fr⟩
theorem xP{y:Nat}{ob:Obj}(h:wX.cell? (aD b (o+1))=some (.int .u8 x)∧wX.cell? (aD b (o+2))=some (.int .u8 y)∧Bl w0 wX):
  (wX.alloc ob).cell? (aD b (o+1))=some (.int .u8 x)∧(wX.alloc ob).cell? (aD b (o+2))=some (.int .u8 y)∧Bl w0 (wX.alloc ob):=
 ⟨(World.cell?_alloc_lt _ _ _ (World.block_lt_of_cell? _ _ h.1)).trans h.1,(World.cell?_alloc_lt _ _ _ (World.block_lt_of_cell? _ _ h.2.1)).trans h.2.1,h.2.2.alloc h.2.2.size _⟩
theorem b4D{a b c:Value}(h:sK wX B a b c d):sK ((((wX.setCell (aD B 0) a').setCell (aD B 1) b').setCell (aD B 2) c').setCell (aD B 3) d') B a' b' c' d':=by
 have c0:=h.c0;have c1:=h.c1;have c2:=h.c2;have c3:=h.c3;have fr:=h.fr
 exact⟨by go_simp,by go_simp,by go_simp,by go_simp,fun i=>by
  have:=fr i
  go_simp⟩
theorem eY(h:Below N w0 wX)(hB:N≤B):Below N w0 ((((wX.setCell (aD B 0) a').setCell (aD B 1) b').setCell (aD B 2) c').setCell (aD B 3) d'):=
 (((h.setCell hB _).setCell hB _).setCell hB _).setCell hB _
theorem b6M{y:Nat}{a' b' c' d':Value}(h:wX.cell? (aD b (o+1))=some (.int .u8 x)∧wX.cell? (aD b (o+2))=some (.int .u8 y)∧Bl w0 wX)(hB:w0.heap.size≤B)(hb:b<w0.heap.size):
  ((((wX.setCell (aD B 0) a').setCell (aD B 1) b').setCell (aD B 2) c').setCell (aD B 3) d').cell? (aD b (o+1))=some (.int .u8 x)∧((((wX.setCell (aD B 0) a').setCell (aD B 1) b').setCell (aD B 2) c').setCell (aD B 3) d').cell? (aD b (o+2))=some (.int .u8 y)∧
   Bl w0 ((((wX.setCell (aD B 0) a').setCell (aD B 1) b').setCell (aD B 2) c').setCell (aD B 3) d'):=by
 have A0: ∀i j,(⟨B,i,none⟩:Addr)≠(aD b j):=fun i j e=>by
  have:=congrArg Addr.block e;simp at this;omega
 refine⟨?_,?_,eY h.2.2 hB⟩
 ·rw[World.cell?_setCell_other _ _ _ _ (A0 _ _),World.cell?_setCell_other _ _ _ _ (A0 _ _),World.cell?_setCell_other _ _ _ _ (A0 _ _),World.cell?_setCell_other _ _ _ _ (A0 _ _)];exact h.1
 ·rw[World.cell?_setCell_other _ _ _ _ (A0 _ _),World.cell?_setCell_other _ _ _ _ (A0 _ _),World.cell?_setCell_other _ _ _ _ (A0 _ _),World.cell?_setCell_other _ _ _ _ (A0 _ _)];exact h.2.1
theorem uF{w3:World}{y:Nat}(b3:Bl wX w3)(h:wX.cell? (aD b (o+1))=some (.int .u8 x)∧wX.cell? (aD b (o+2))=some (.int .u8 y)∧Bl w0 wX):
  w3.cell? (aD b (o+1))=some (.int .u8 x)∧w3.cell? (aD b (o+2))=some (.int .u8 y)∧Bl w0 w3:=
 ⟨(b3.cell (p:=⟨b,o+1,none⟩) (World.block_lt_of_cell? _ _ h.1)).trans h.1,(b3.cell (p:=⟨b,o+2,none⟩) (World.block_lt_of_cell? _ _ h.2.1)).trans h.2.1,bt h.2.2 b3⟩
theorem c5P{F:Nat→Value}{a b c:Value}(h:aZ w g 5 n F)(hB:g≠B):aZ ((((w.setCell (aD B 0) a).setCell (aD B 1) b).setCell (aD B 2) c).setCell (aD B 3) d) g 5 n F:=
 (((h.setOther hB _).setOther hB _).setOther hB _).setOther hB _
theorem a8S{y:Nat}{ob:Obj}(h:wX.drew.cell? (aD b (o+1))=some (.int .u8 x)∧wX.drew.cell? (aD b (o+2))=some (.int .u8 y)∧Bl w0 wX.drew):
  (wX.alloc ob).drew.cell? (aD b (o+1))=some (.int .u8 x)∧(wX.alloc ob).drew.cell? (aD b (o+2))=some (.int .u8 y)∧Bl w0 (wX.alloc ob).drew:=
 xP (wX:=wX.drew) h
theorem zX(b o n e cap:Nat)(g:Nat→Nat)(w:World)(h:cA w (.slice (some (aD b o)) n cap) n g)(hne4:n=e+4)(he8:8≤e)(hx: ¬cW g n)(hs:Crc.sum g e=Crc.oD g e):
  Calls prog 120 #[.slice (some (aD b o)) n cap] w fun r w'=> ∃v',r=.returned (.tuple #[v',iV (Crc.aA (g 1) (g 2) (g 3*256+g 4:Nat) (e-7):Nat)])∧
   ((Crc.aA (g 1) (g 2) (g 3*256+g 4:Nat) (e-7)=0∧ ∃d,v'=.agg #[iV (g 1:Nat),iV (g 2:Nat),iV (g 3*256+g 4:Nat),d]∧kX w' w.heap.size d (e-7) (fun k=>g (k+7)))∨(Crc.aA (g 1) (g 2) (g 3*256+g 4:Nat) (e-7)≠0∧v'=.agg #[iV 0,iV 0,iV 0,nS]))∧Bl w w':=by
 have hl:=h.len;have Ab:e≤65542:=by
  have h5:=h.bd 5;have h6:=h.bd 6;unfold cW at hx;omega
 have H1:=fun w' (hb':Bl w w')=>kW _ n g w' (h.bE hb');obtain⟨b',o',A7,hv,Aa,Af,hc⟩:=h.some (by omega);cases hv
 have A0:=h.bd;have HC:Hid (∀w',Bl w w'→ ∀i,i<n→w'.cell? (aD b (o+i))=some (.int .u8 (g i:Nat))):=fun w' hb' i hi=>(hb'.cell (p:=⟨b,o+i,none⟩) (World.block_lt_of_cell? _ _ (hc i (by omega)))).trans (hc i (by omega));have H2:=fun w' (hb':Bl w w')=>yI b o e cap g w' A0 (by omega) (fun i hi=>HC.out w' hb' i (by omega));have H3:=fun w' (hb':Bl w w')=>a0W b o n cap e g w' A0 hl hne4.symm (HC.out w' hb');have H4:=fun w' (hb':Bl w w')=>sU b o n cap 3 g w' A0 hl (by omega) (HC.out w' hb');have H5:=fun C w' (hb':Bl w w')=>b7V b (o+7) (e-7) C (fun k=>g (k+7)) w' (by omega) (fun k hk=>by rw[show o+7+k=o+(k+7) by omega];exact HC.out w' hb' (k+7) (by omega));have A6:(((Crc.sum g e:Nat):Int) !=((Crc.oD g e:Nat):Int))=false:=by rw[hs];simp
 have HX:=hd8 hx;have Ag:(e:Int)≤(cap:Int):=by omega
 have Ac:(n:Int)-4=(e:Int):=by omega
 have a1:(1:Int)<(n:Int):=by omega
 have a2:(2:Int)<(n:Int):=by omega
 have n1:1<n:=by omega
 have n2:2<n:=by omega
 have a7:(7:Int)≤(e:Int):=by omega
 have n7:7≤e:=by omega
 have Al:e≤cap:=by omega
 have Ah:IntKind.i64.wrap ((g 1:Nat):Int)=(g 1:Nat):=by have:=A0 1;rw[IntKind.wrap_i64];omega
 have Ai:IntKind.i64.wrap ((g 2:Nat):Int)=(g 2:Nat):=by have:=A0 2;rw[IntKind.wrap_i64];omega
 have A8:1≤e-7:=by omega
 have A4:Bd (fun k=>g (k+7)):=fun k=>A0 _;have HW:=fun(A:Option Addr) (C:Nat) w'=>tP (g 1:Nat) (g 2:Nat) (g 3*256+g 4:Nat) A (e-7) C w';clear hne4 he8 Ab;generalize Crc.sum g (e)=S at H2 A6;generalize Crc.oD g (e)=F at H3 A6;generalize hq:g 3*256+g 4=q at H4 HW⊢;clear hx hs hc h hq;go_enter func120,ntmps120
 go_wp2_with fail;refine(H1 _ (aB8 _ _)).mono ?_;rintro e1 w1 ⟨⟨y,rfl,hy⟩,b1⟩;have bx:=bt ((Below.refl _ w).alloc (c9C _) _) b1;have V1:=(fW w (iV 0) (iV 0) (iV 0) nS).bE b1;have Ae:=hy.2 HX.out;subst Ae;clear hy H1 b1;go_wp2_with fail;refine(H2 _ bx).mono ?_;rintro e2 w2 ⟨rfl,rfl⟩;go_wp2_with fail;refine(H3 _ bx).mono ?_;rintro e3 w3 ⟨rfl,b3⟩;have V1:=V1.bE b3;have bx:=bt bx b3;clear H2 H3 b3;go_wp2_with fail;have T1:=HC.out w3 bx 1 n1;have T2:=HC.out w3 bx 2 n2;have TD:w3.drew.cell? (aD b (o+1))=some (.int .u8 (g 1:Nat))∧w3.drew.cell? (aD b (o+2))=some (.int .u8 (g 2:Nat))∧Bl w3 w3.drew:=⟨T1,T2,(Below.refl _ _).drew⟩;have A9:b<w3.heap.size:=World.block_lt_of_cell? _ _ T1;have H4:=fun w' (hS:w'.cell? (aD b (o+1))=some (.int .u8 (g 1:Nat))∧w'.cell? (aD b (o+2))=some (.int .u8 (g 2:Nat))∧Bl w3 w')=>H4 w' (bt bx hS.2.2);have H5:=fun C w' (hS:w'.cell? (aD b (o+1))=some (.int .u8 (g 1:Nat))∧w'.cell? (aD b (o+2))=some (.int .u8 (g 2:Nat))∧Bl w3 w')=>H5 C w' (bt bx hS.2.2);go_cut [5]from 23 to 37 (fun p5 wx=> ∃B d,p5=.pointer (some (aD B 0))∧sK wx B (iV (g 1:Nat)) (iV (g 2:Nat)) (iV q) d∧w3.heap.size≤B∧kX wx w3.heap.size d (e-7) (fun k=>g (k+7))∧Bl w3 wx)
 case first=>
  go_region_held3 (fun w'=>w'.cell? (aD b (o+1))=some (.int .u8 (g 1:Nat))∧w'.cell? (aD b (o+2))=some (.int .u8 (g 2:Nat))∧Bl w3 w')
   (first|with_reducible exact TD|with_reducible exact uF (by assumption) (by assumption)|with_reducible exact xP (by assumption)|with_reducible exact a8S (by assumption)|with_reducible exact b6M (by assumption) (by first|exact S5.2.2.size|exact S4.2.2.size|exact c9C _) A9)
   (first|(go_at_call 150;refine(H4 _ (by assumption)).mono ?_;rintro e4 w4 ⟨rfl,b4⟩;have S4:=uF b4 (by assumption);try (have V4:=(sK.drew (fW w3 _ _ _ _)).bE b4))|(go_at_call 151;refine(H5 _ _ (by assumption)).mono ?_;rintro e5 w5 ⟨v5,rfl,Y5,b5⟩;have Z5:=Y5.made A4 A8;obtain⟨g5,C5,rfl,A3,A1,A2,R5⟩:=Z5;have S5:=uF b5 (by assumption);(first|(have V5:=V4.bE b5;obtain⟨c0,c1,c2,c3,fr⟩:=V5;have f0:=fr 0;have f1:=fr 1;have f2:=fr 2;have f3:=fr 3)|(have V5:=(fW w4 _ _ _ _).bE b5;obtain⟨c0,c1,c2,c3,fr⟩:=V5;have f0:=fr 0;have f1:=fr 1;have f2:=fr 2;have f3:=fr 3)|skip)))
  all_goals go_wp2_with fail
  all_goals go_meet
  all_goals first|exact⟨w5.heap.size,_,rfl,fW w5 _ _ _ _,S5.2.2.size,⟨g5,C5,rfl,c9E S4.2.2.size A3,A1,A2,R5.alloc _⟩,S5.2.2.alloc S5.2.2.size _⟩|exact⟨w4.heap.size,_,rfl,b4D ⟨c0,c1,c2,c3,fr⟩,S4.2.2.size,⟨g5,C5,rfl,c9E S4.2.2.size (c9E (by simp) A3),A1,A2,c5P R5 (fun e=>by simp at A3;omega)⟩,eY S5.2.2 S4.2.2.size⟩|exact⟨w3.heap.size,_,rfl,b4D ⟨c0,c1,c2,c3,fr⟩,c9C _,⟨g5,C5,rfl,c9E S4.2.2.size A3,A1,A2,c5P R5 (fun e=>by have:=World.block_lt_of_cell? _ _ V4.c0;simp at this;omega)⟩,eY S5.2.2 (c9C _)⟩
 case rest=>
  obtain⟨B,d,rfl,VB,hB,YD,bc⟩:=hcut;have V2:=V1.bE bc;have A5:=bt bx bc;obtain⟨g5,C5,rfl,A3,A1,A2,R5⟩:=YD;have Aj:w.heap.size<w3.heap.size:=World.block_lt_of_cell? _ _ V1.c0;have HW:=HW (some (aD g5 0)) C5 wc;obtain⟨k0,k1,k2,k3,kf⟩:=VB;have VB:Hid (sK wc B (iV (g 1:Nat)) (iV (g 2:Nat)) (iV q) (.slice (some (aD g5 0)) (e-7) C5)):=⟨k0,k1,k2,k3,kf⟩;clear kf H4 H5 T1 T2 TD bc V1 bx;by_cases hE:Crc.aA (g 1) (g 2) (q:Nat) (e-7)=0
  ·have HE:=hd8 hE;rw[hE]at HW;clear hE;go_wp2_with fail;refine HW.mono ?_;rintro e6 w6 ⟨rfl,b6⟩;obtain⟨c0,c1,c2,c3,fr⟩:=V2.bE b6;obtain⟨m0,m1,m2,m3,_⟩:=VB.out.bE b6;have f0:=fr 0;have f1:=fr 1;have f2:=fr 2;have f3:=fr 3;have R6:=R5.bE b6;have bz:=bt A5 b6;clear HW V2 k0 k1 k2 k3 R5;go_wp2_with fail;refine bodyPost_ret (v:=.tuple #[.agg #[iV (g 1:Nat),iV (g 2:Nat),iV q,.slice (some (aD g5 0)) (e-7) C5],iV 0]) (by simp[results,results120,go_sem,c0,c1,c2,c3]) rfl ⟨_,by rw[HE.out];rfl,Or.inl ⟨HE.out,_,rfl,?_⟩,?_⟩
   ·exact⟨g5,C5,rfl,by omega,A1,A2,c5P R6 (by omega)⟩
   ·exact(((bz.setCell (c9C _) _).setCell (c9C _) _).setCell (c9C _) _).setCell (c9C _) _
  ·have HE:=hd8 hE;have Ad:(((Crc.aA (g 1) (g 2) (q:Nat) (e-7):Nat):Int)==0)=false:=by rw[beq_eq_false_iff_ne];omega
   have Ak:(((Crc.aA (g 1) (g 2) (q:Nat) (e-7):Nat):Int) !=0)=true:=by rw[bne,Ad];rfl
   clear hE;go_wp2_with fail;refine HW.mono ?_;rintro e6 w6 ⟨rfl,b6⟩;obtain⟨c0,c1,c2,c3,fr⟩:=V2.bE b6;have f0:=fr 0;have f1:=fr 1;have f2:=fr 2;have f3:=fr 3;have bz:=bt A5 b6;clear HW V2 k0 k1 k2 k3;go_wp2_with fail;refine bodyPost_ret (v:=.tuple #[.agg #[iV 0,iV 0,iV 0,nS],iV (Crc.aA (g 1) (g 2) (q:Nat) (e-7):Nat)]) (by simp[results,results120,go_sem,c0,c1,c2,c3]) rfl ⟨_,rfl,Or.inr ⟨HE.out,rfl⟩,?_⟩;exact(((bz.setCell (c9C _) _).setCell (c9C _) _).setCell (c9C _) _).setCell (c9C _) _
theorem tA(w:World)(N:Nat):cT w N nS []:=World.ownsRow_nil w N _ 1
theorem sE(w:World)(x:Value): ∀j u,[x][j]?=some u→(w.alloc (.cells #[x] 5)).cell? ((⟨w.heap.size,0,none⟩:Addr).add j)=some u:=eE w #[x] 5
theorem a4L(a:Int): ∀u∈[Value.int .u8 a],u.oneCell'=true:=by
 intro u hu;simp at hu;rw[hu];rfl
theorem cT.one{a:Int}(h:w.ownsRow N 5 1 v (bs.length+1) (clB bs++[.int .u8 a]))(e:a=(x:Int)):cT w N v (bs++[x]):=
 cT.more h (by rw[e];rfl) rfl
def dJ(N:Nat)(w w':World):Prop:=Off (fun k=>N≤k∧ ∃c z,w.heap[k]?=some (.cells c 5 z)) w w'
theorem dJ.refl(N:Nat)(w:World):dJ N w w:=Off.refl _ _
theorem dJ.trans{a b c:World}(h:dJ N a b)(k:dJ N b c):dJ N a c:=Off.past h k (fun y hy hl=>by
 refine Classical.byContradiction fun hn=>hn ⟨hy.1,?_⟩
 obtain⟨_,c,z,e⟩:=hy
 exact⟨c,z,by rw[←h.block y hl hn];exact e⟩)
theorem dJ.oE{a b:World}(h:Bl a b):dJ N a b:=Off.oE h
theorem dJ.grown{xs:List Value}(h:w.ownsRow N 5 1 v n xs)(hg:w.grownBy w' v.ownBlock):dJ N w w':=
 (cI hg).wider (fun k hk=>⟨(h.lt k hk).1,by
  obtain⟨c,e⟩:=iY h hk
  exact⟨c,_,e⟩⟩)
theorem dJ.bE(h:dJ N w w')(hN:N≤w.heap.size):Below N w w':=Off.bE h hN (fun _ hk=>hk.1)
structure Box(w:World)(p:Nat)(cs:Array Value)(t:TypeId):Prop where
 hp:w.heap[p]?=some (.cells cs t (0,0))
 ht:t≠5
theorem Box.lt{cs:Array Value}(h:Box w p cs t):p<w.heap.size:=(d1M.1 h.hp).1
theorem Box.off{cs:Array Value}(h:Box w p cs t)(ho:dJ N w w'):Box w' p cs t:=
 ⟨by
  rw[ho.block p h.lt (fun q=>by
   obtain⟨_,c,z,e⟩:=q
   rw[h.hp]at e
   cases e
   exact h.ht rfl)]
  exact h.hp,h.ht⟩
theorem pU(w:World)(cs:Array Value)(t:TypeId)(ht:t≠5):Box (w.alloc (.cells cs t)) w.heap.size cs t:=⟨Deep.blk_alloc_new _ _,ht⟩
theorem Box.cell{cs:Array Value}(h:Box w p cs t)(i:Nat)(u:Value)(hu:cs[i]?=some u):w.cell? (aD p i)=some u:=by
 obtain⟨hi,rfl⟩:=d1M.1 hu;have hr:w.rowIs p t cs.size (fun j=>cs.getD j nS):=⟨cs,h.hp,rfl,fun i hi=>by simp[hi]⟩;rw[hr.cell hi];simp[Array.getD,hi]
theorem Box.frozen{cs:Array Value}(h:Box w p cs t)(i:Nat):w.frozen? (aD p i)=false:=by
 have hr:w.rowIs p t cs.size (fun j=>cs.getD j nS):=⟨cs,h.hp,rfl,fun i hi=>by simp[hi]⟩;exact hr.frozen i
theorem rZ(N n:Nat)(v:Value)(bs:List Nat)(w:World)(h:cT w N v bs)(hN:N≤w.heap.size)(hb:bs.length≤1000000)(hn:n<256):
  Calls prog 108 #[v,iV n,iV 1] w fun e w'=> ∃v',e=.returned v'∧cT w' N v' (bs++[n])∧dJ N w w':=by
 obtain⟨i1,A1,A0⟩:=c9J.1 Tryz.infoByte;simp only[Prod.mk.injEq]at A0;obtain⟨A2,A3,A4⟩:=A0;have X1:=aB8 w (.cells #[.int .u8 n] 5);have HO:=h.bE X1;have sX:=c9E hN X1.size;go_enter func108,ntmps108
 go_wp2_with fail;refine wp_loop_rounds 2 ?_;rw[rounds_succ];go_wp2_with (at_builtin;go_loud (refine wpList_append_own _ rfl (.tmp 14) (.tmp 20) 59 rfl N 5 i1 (.int .u8 0) 1 1 underlying59 A1 A2 A3 A4 rfl (by decide) _ _ _ rfl HO (aD w.heap.size 0) 1 1 [.int .u8 n] rfl rfl (sE w _) (a4L _) (by unfold maxLen;omega) (by omega) sX ?_;intro v1 w1 hown1 hgrow1 _));have HB:=hd8 (cT.one hown1 rfl);have HW:=hd8 ((dJ.oE X1).trans (dJ.grown HO hgrow1));clear hown1 hgrow1 HO;rw[rounds_succ];go_wp2_with fail;go_ret
 exact⟨_,rfl,HB.out,HW.out⟩
theorem a9B(N n:Nat)(v:Value)(bs:List Nat)(w:World)(h:cT w N v bs)(hN:N≤w.heap.size)(hb:bs.length≤1000000)(hn:n<16777216):
  Calls prog 108 #[v,iV n,iV 3] w fun e w'=> ∃v',e=.returned v'∧cT w' N v' (bs++Evt.dL n)∧dJ N w w':=by
 obtain⟨i1,A0,A4⟩:=c9J.1 Tryz.infoByte;simp only[Prod.mk.injEq]at A4;obtain⟨A1,A2,A3⟩:=A4;have X1:=aB8 w (.cells #[.int .u8 ((n:Int)/65536)] 5);have HO:=h.bE X1;have sX:=c9E hN X1.size;go_enter func108,ntmps108
 go_wp2_with fail;refine wp_loop_rounds 4 ?_;rw[rounds_succ];go_wp2_with (at_builtin;go_loud (refine wpList_append_own _ rfl (.tmp 14) (.tmp 20) 59 rfl N 5 i1 (.int .u8 0) 1 1 underlying59 A0 A1 A2 A3 rfl (by decide) _ _ _ rfl HO (aD w.heap.size 0) 1 1 [.int .u8 ((n:Int)/65536)] rfl rfl (sE w _) (a4L _) (by unfold maxLen;omega) (by omega) sX ?_;intro v1 w1 hown1 hgrow1 _));have B1:cT w1 N v1 (bs++[n/65536]):=cT.one hown1 (by omega);have W1:=(dJ.oE X1).trans (dJ.grown HO hgrow1);have L1:(bs++[n/65536]).length=bs.length+1:=by simp
 have A5:=c9E sX hgrow1.size;clear hown1 hgrow1 HO X1 sX h;have X2:=aB8 w1 (.cells #[.int .u8 ((n:Int)/256%256)] 5);have HO:=B1.bE X2;have sX:=c9E A5 X2.size;rw[rounds_succ];go_wp2_with (at_builtin;go_loud (refine wpList_append_own _ rfl (.tmp 14) (.tmp 20) 59 rfl N 5 i1 (.int .u8 0) 1 1 underlying59 A0 A1 A2 A3 rfl (by decide) _ _ _ rfl HO (aD w1.heap.size 0) 1 1 [.int .u8 ((n:Int)/256%256)] rfl rfl (sE w1 _) (a4L _) (by unfold maxLen;omega) (by omega) sX ?_;intro v2 w2 hown2 hgrow2 _));have B2:cT w2 N v2 (bs++[n/65536]++[n/256%256]):=cT.one hown2 (by omega);have W2:=W1.trans ((dJ.oE X2).trans (dJ.grown HO hgrow2));have L2:(bs++[n/65536]++[n/256%256]).length=bs.length+2:=by simp
 have A6:=c9E sX hgrow2.size;clear hown2 hgrow2 HO X2 sX B1 L1 W1;have X3:=aB8 w2 (.cells #[.int .u8 ((n:Int)%256)] 5);have HO:=B2.bE X3;have sX:=c9E A6 X3.size;rw[rounds_succ];go_wp2_with (at_builtin;go_loud (refine wpList_append_own _ rfl (.tmp 14) (.tmp 20) 59 rfl N 5 i1 (.int .u8 0) 1 1 underlying59 A0 A1 A2 A3 rfl (by decide) _ _ _ rfl HO (aD w2.heap.size 0) 1 1 [.int .u8 ((n:Int)%256)] rfl rfl (sE w2 _) (a4L _) (by unfold maxLen;omega) (by omega) sX ?_;intro v3 w3 hown3 hgrow3 _));have B3:Hid (cT w3 N v3 (bs++Evt.dL n)):=by
  have:=cT.one (x:=n%256) hown3 (by omega);rw[c9X,c9X]at this;exact this
 have W3:=hd8 (W2.trans ((dJ.oE X3).trans (dJ.grown HO hgrow3)));clear hown3 hgrow3 HO X3 sX B2 L2 W2;rw[rounds_succ];go_wp2_with fail;go_ret
 exact⟨_,rfl,B3.out,W3.out⟩
theorem vK(s:ByteArray):Lib.strCells s=clB (nb s):=by
 unfold Lib.strCells clB nb;rw[List.map_map];rfl
theorem c2L(N:Nat)(s:ByteArray)(k m:Int)(v:Value)(bs:List Nat)(w:World)(h:cT w N v bs)(hN:N≤w.heap.size)(hb:bs.length≤900000)(hE:Evt.aB ⟨nb s,k,m⟩=0):
  Calls prog 134 #[v,.agg #[.string s,iV k,iV m]] w fun e w'=> ∃v',e=.returned v'∧cT w' N v' (bs++Evt.iI ⟨nb s,k,m⟩)∧dJ N w w':=by
 obtain⟨⟨_,_,hn⟩,k1,k2,m1,m2⟩:=Evt.eN hE;rw[show(⟨nb s,k,m⟩:Evt.Ev).name=nb s from rfl,gF]at hn;have k1:1≤k:=k1;have k2:k≤4:=k2;have m1:0≤m:=m1;have m2:m≤1000000:=m2;obtain⟨k',rfl⟩: ∃k':Nat,k=k':=⟨k.toNat,by omega⟩;obtain⟨m',rfl⟩: ∃m':Nat,m=m':=⟨m.toNat,by omega⟩;obtain⟨i1,A4,A2⟩:=c9J.1 Tryz.infoByte;simp only[Prod.mk.injEq]at A2;obtain⟨A5,A6,A7⟩:=A2;have X0:=aB8 w (.cells #[.string s,iV k',iV m'] 83);have V0:=pU w #[.string s,iV k',iV m'] 83 (by decide);have c0:=V0.cell 0 _ rfl;have c1:=V0.cell 1 _ rfl;have c2:=V0.cell 2 _ rfl;have H1:=rZ N s.size v bs _ (h.bE X0) (c9E hN X0.size) (by omega) (by omega);clear hE h;go_enter func134,ntmps134
 go_wp2_with fail;refine H1.mono ?_;rintro e w1 ⟨v1,rfl,B1,O1⟩;have V1:=V0.off O1;have c0:=V1.cell 0 _ rfl;have O1:=(dJ.oE X0 (N:=N)).trans O1;have A0:=c9E hN O1.size;have L1:(bs++[s.size]).length=bs.length+1:=by simp
 have HO:w1.ownsRow N 5 1 v1 (bs++[s.size]).length (clB (bs++[s.size])):=B1;clear H1 V0 X0 c1 c2 B1;go_wp2_with (at_builtin;go_loud (refine Lib.wpList_append_own_string _ rfl (.tmp 10) (.tmp 12) 59 9 rfl N 5 i1 underlying59 underlying9 A4 A5 A6 A7 _ _ _ rfl HO s rfl (by unfold maxLen;omega) (by omega) A0 ?_;intro v2 w2 hown2 hgrow2 _;have V2:=V1.off (dJ.grown HO hgrow2);have c1:=V2.cell 1 _ rfl));have B2:cT w2 N v2 (bs++[s.size]++nb s):=cT.more hown2 (vK s) (gF s);have L2:(bs++[s.size]++nb s).length=bs.length+1+s.size:=by simp[gF];omega
 have O2:=O1.trans (dJ.grown HO hgrow2);have A1:=c9E hN O2.size;have H3:=rZ N k' v2 _ _ B2 A1 (by omega) (by omega);clear hown2 hgrow2 HO B2 V1 c0 O1 L1 A0;refine H3.mono ?_;rintro e w3 ⟨v3,rfl,B3,O3⟩;have V3:=V2.off O3;have c2:=V3.cell 2 _ rfl;have O3:=O2.trans O3;have A3:=c9E hN O3.size;have H4:=a9B N m' v3 _ _ B3 A3 (by rw[c9I,L2];simp;omega) (by omega);clear H3 V2 O2 B3 A1;go_wp2_with fail;refine H4.mono ?_;rintro e w4 ⟨v4,rfl,B4,O4⟩;have HB:Hid (cT w4 N v4 (bs++Evt.iI ⟨nb s,k',m'⟩)):=by
  have e:bs++[s.size]++nb s++[k']++Evt.dL m'=bs++Evt.iI ⟨nb s,k',m'⟩:=by
   unfold Evt.iI;rw[gF];simp
  rw[e]at B4;exact B4
 have HW:=hd8 (O3.trans O4);clear H4 B4 O4 V3;go_wp2_with fail;go_ret
 exact⟨_,rfl,HB.out,HW.out⟩
theorem zG{e:Evt.Ev}(h:Evt.aB e=0):(Evt.iI e).length≤15:=by
 obtain⟨⟨_,_,hn⟩,_⟩:=Evt.eN h;unfold Evt.iI Evt.dL;simp;omega
theorem xA{α:Type}(f:α→List Nat)(c:Nat): ∀(l:List α),(∀a,a∈l→(f a).length≤c)→(l.flatMap f).length≤l.length*c
 |[],_=>by simp
 |x::l,h=>by
  rw[d0K,c9I,d0E,d0F]
  have h1:=h x c9W
  have h2:=xA f c l (fun a ha=>h a (c9Y _ ha))
  omega
theorem a7P{b:Evt.Bat}(h:(Evt.aA b).1=0):(Evt.jS b).length≤154:=by
 obtain⟨_,_,_,h4,h5⟩:=Evt.bN h;have:=xA Evt.iI 15 b.evs (fun e he=>zG (h5 e he));unfold Evt.jS Evt.dL;simp only[List.length_append,List.length_cons,List.length_nil];omega
theorem qB{α:Type}(f:α→List Nat)(l:List α)(k:Nat)(a:α)(h:l[k]?=some a):(l.take (k+1)).flatMap f=(l.take k).flatMap f++f a:=by
 rw[d1Y,h,d0H];simp
theorem oQ{α:Type}(f:α→List Nat)(c k:Nat)(l:List α)(h: ∀a,a∈l→(f a).length≤c):((l.take k).flatMap f).length≤l.length*c:=by
 refine c9E (xA f c (l.take k) (fun a ha=>h a (d2T ha))) (d1J c ?_);simp;omega
theorem c0R(W0:World)(c:Int)(vs:Value)(es:List Evt.Ev)(hes:Evs W0 vs es)(v:Value)(bs:List Nat)(w:World)(hW:Bl W0 w)(h:cT w W0.heap.size v bs)(hb:bs.length≤800000)(hE:(Evt.aA ⟨c,es⟩).1=0):
  Calls prog 109 #[v,.agg #[iV c,vs]] w fun e w'=> ∃v',e=.returned v'∧cT w' W0.heap.size v' (bs++Evt.jS ⟨c,es⟩)∧dJ W0.heap.size w w':=by
 obtain⟨h1,h2,h3,h4,h5⟩:=Evt.bN hE;have h1:1≤c:=h1;have h2:c≤1000000:=h2;have h3:1≤es.length:=h3;have h4:es.length≤10:=h4;have HA:=hd8 h5;obtain⟨c',rfl⟩: ∃c':Nat,c=c':=⟨c.toNat,by omega⟩;obtain⟨b,o,C,rfl,_,_,hc⟩:=hes.some h3;have HC:=hd8 hc;have hN:=hW.size;have X0:=aB8 w (.cells #[iV c',.slice (some (aD b o)) es.length C] 47);have V0:=pU w #[iV c',.slice (some (aD b o)) es.length C] 47 (by decide);have c0:=V0.cell 0 _ rfl;have c1:=V0.cell 1 _ rfl;have H1:=a9B W0.heap.size c' v bs _ (h.bE X0) (c9E hN X0.size) (by omega) (by omega);clear hE h5 h hc hes;go_enter func109,ntmps109
 go_wp2_with fail;refine H1.mono ?_;rintro e w1 ⟨v1,rfl,B1,O1⟩;have V1:=V0.off O1;have c1:=V1.cell 1 _ rfl;have O1:=(dJ.oE X0 (N:=W0.heap.size)).trans O1;have A2:=c9E hN O1.size;have L1:(bs++Evt.dL c').length=bs.length+3:=by simp[Evt.dL]
 have H2:=rZ W0.heap.size es.length v1 _ _ B1 A2 (by omega) (by omega);clear H1 V0 X0 c0 B1;go_wp2_with fail;refine H2.mono ?_;rintro e w2 ⟨v2,rfl,B2,O2⟩;have V2:=V1.off O2;have c1:=V2.cell 1 _ rfl;have O2:=O1.trans O2;have A3:=c9E hN O2.size;have L2:(bs++Evt.dL c'++[es.length]).length=bs.length+4:=by simp[Evt.dL]
 have b2:=hW.trans (O2.bE hN);clear H2 V1 O1 L1 A2;go_wp2_with fail;clear c1 V2;go_loopw [0,19] (fun y x wr=> ∃k:Nat,k≤es.length∧x=iV k∧cT wr W0.heap.size y (bs++Evt.dL c'++[es.length]++(es.take k).flatMap Evt.iI)∧dJ W0.heap.size w2 wr) (fun _ x _=>es.length-(intOf x).toNat)
 case atStart=>exact⟨0,c9D _,rfl,by simpa using B2,dJ.refl _ _⟩
 case round=>
  obtain⟨k,hk,rfl,BR,OR⟩:=hrel;have A5:=c9E A3 OR.size;have br:=b2.trans (OR.bE A3);by_cases A6:k<es.length
  ·have A7:(k:Int)<(es.length:Int):=by omega
   obtain⟨ev,A0⟩: ∃ev,es[k]?=some ev:=⟨es[k],c9F A6⟩;have HT:=hd8 (qB Evt.iI es k ev A0);have HZ:=oQ Evt.iI 15 k es (fun e he=>zG (HA.out e he));obtain⟨s,A8,A1,d0,d1,d2⟩:=(HC.out k ev A0).bE br;have A4:Evt.aB ⟨nb s,ev.kind,ev.num⟩=0:=by
    rw[A1];exact HA.out ev (c9N A0)
   have HQ:Hid ((⟨nb s,ev.kind,ev.num⟩:Evt.Ev)=ev):=by
    show(⟨nb s,ev.kind,ev.num⟩:Evt.Ev)=ev;rw[A1]
   have bA:=aB8 wr (.cells #[.string s,iV ev.kind,iV ev.num] 83);have HW:=c2L W0.heap.size s ev.kind ev.num u0 _ _ (BR.bE bA) (c9E A5 bA.size) (by rw[c9I,L2];omega) A4;rw[HQ.out]at HW;clear A0 A1 BR HZ A4;go_wp2_with fail;refine HW.mono ?_;rintro e w3 ⟨v3,rfl,B3,O3⟩;have O3:=(dJ.oE bA (N:=W0.heap.size)).trans O3;have HB:Hid (cT w3 W0.heap.size v3 (bs++Evt.dL c'++[es.length]++(es.take (k+1)).flatMap Evt.iI)):=by
    have:=B3;rw[c9X,←HT.out]at this;exact this
   clear HW B3 bA;go_wp2_with fail;exact⟨⟨k+1,by omega,by go_num,HB.out,OR.trans O3⟩,by simp[intOf];omega⟩
  ·obtain rfl:k=es.length:=by omega
   have HB:Hid (cT wr W0.heap.size u0 (bs++Evt.jS ⟨c',es⟩)):=by
    have:=BR;rw[d0L]at this;have e:bs++Evt.dL c'++[es.length]++es.flatMap Evt.iI=bs++Evt.jS ⟨c',es⟩:=by
     unfold Evt.jS;simp
    rw[e]at this;exact this
   have HO:=hd8 (O2.trans OR);clear BR OR;go_wp2_with fail;go_ret
   exact⟨_,rfl,HB.out,HO.out⟩
def rE(l:List Evt.Bat):List Nat:=if (Evt.aF l).1=0 then Evt.iK l else[]
theorem wZ{l:List Evt.Bat}(h:(Evt.aF l).1=0):rE l=Evt.iK l:=if_pos h
theorem wV{l:List Evt.Bat}(h:(Evt.aF l).1≠0):rE l=[]:=if_neg h
theorem b0C(v:Value)(l:List Evt.Bat)(w:World)(h:eS w v l)(hE:(Evt.aF l).1≠0):
  Calls prog 78 #[v] w fun e w'=> ∃v',e=.returned (.tuple #[v',.agg #[iV ((Evt.aF l).1:Nat),iV ((Evt.aF l).2:Nat)]])∧cT w' w.heap.size v' (rE l)∧Bl w w':=by
 rw[wV hE];have X0:=aB8 w (.cells #[iV 0,iV 0] 78);have V0:=aO w 78 (iV 0) (iV 0);have H1:=qV v l _ (h.bE X0);obtain⟨A,C,rfl⟩:=h.sE;generalize (Evt.aF l).1=x at H1 hE⊢;generalize (Evt.aF l).2=y at H1⊢;have A0:((x:Int)==0)=false:=by rw[beq_eq_false_iff_ne];omega
 have A1:((x:Int) !=0)=true:=by rw[bne,A0];rfl
 clear h hE;go_enter func78,ntmps78
 go_wp2_with fail;refine H1.mono ?_;rintro e w1 ⟨rfl,b1⟩;have bA:=aB8 w1 (.cells #[iV x,iV y] 78);obtain⟨c0,c1,fr⟩:=(V0.bE b1).bE bA;have f0:=fr 0;have f1:=fr 1;have bz:=bt (bt X0 b1) bA;clear H1 V0 X0 b1;go_wp2_with fail;go_region
 go_wp2_with fail;refine bodyPost_ret (v:=.tuple #[nS,.agg #[iV x,iV y]]) (by simp[results,results78,go_sem,c0,c1]) rfl ⟨_,rfl,tA _ _,?_⟩;exact((bz.setCell (c9C _) _).setCell (c9C _) _).drew
theorem b4F{A:Option Addr}{l:List Evt.Bat}(h:eS w (.slice A n C) l): ∀i x,l[i]?=some x→ ∃b o,A=some (aD b o)∧oO w b (o+i*2) x:=by
 obtain⟨A',C',hv,_,_,hc⟩:=h;cases hv
 exact hc
theorem b2E{l:List Evt.Bat}(h:(Evt.aF l).1=0):(Evt.aF l).2=0:=by
 obtain⟨h1,h2⟩:=Evt.kG h;rw[lG (by omega),Evt.lI l 0 h2]
theorem b5Y(v:Value)(l:List Evt.Bat)(w:World)(h:eS w v l)(hE:(Evt.aF l).1=0):
  Calls prog 78 #[v] w fun e w'=> ∃v',e=.returned (.tuple #[v',.agg #[iV ((Evt.aF l).1:Nat),iV ((Evt.aF l).2:Nat)]])∧cT w' w.heap.size v' (rE l)∧Bl w w':=by
 rw[wZ hE];obtain⟨hl,h5⟩:=Evt.kG hE;have HA:=hd8 h5;have X0:=aB8 w (.cells #[iV 0,iV 0] 78);have V0:=pU w #[iV 0,iV 0] 78 (by decide);have H1:=qV v l _ (h.bE X0);obtain⟨A,C,rfl⟩:=h.sE;have HC:=hd8 (b4F h);rw[b2E hE,hE]at H1⊢;clear h hE h5;go_enter func78,ntmps78
 go_wp2_with fail;refine H1.mono ?_;rintro e w1 ⟨rfl,b1⟩;have bA:=aB8 w1 (.cells #[iV 0,iV 0] 78);have V1:=(V0.off (N:=w.heap.size) (dJ.oE b1)).off (N:=w.heap.size) (dJ.oE bA);have bz:=bt (bt X0 b1) bA;have H2:=rZ w.heap.size l.length nS [] _ (tA _ _) bz.size (c9D _) (by omega);clear H1 V0 X0 b1;go_wp2_with fail;refine H2.mono ?_;rintro e w2 ⟨v2,rfl,B2,O2⟩;have B2:cT w2 w.heap.size v2 [l.length]:=B2;have V2:=V1.off O2;have b2:=bz.trans (O2.bE bz.size);have A2:=b2.size;clear H2 V1 O2 bA bz;go_wp2_with fail;go_loopw [5,19] (fun y x wr=> ∃k:Nat,k≤l.length∧x=iV k∧cT wr w.heap.size y ([l.length]++(l.take k).flatMap Evt.jS)∧dJ w.heap.size w2 wr) (fun _ x _=>l.length-(intOf x).toNat)
 case atStart=>exact⟨0,c9D _,rfl,by simpa using B2,dJ.refl _ _⟩
 case round=>
  obtain⟨k,hk,rfl,BR,OR⟩:=hrel;have A5:=c9E A2 OR.size;have br:=b2.trans (OR.bE A2);by_cases A7:k<l.length
  ·have A8:(k:Int)<(l.length:Int):=by omega
   obtain⟨x,hx⟩: ∃x,l[k]?=some x:=⟨l[k],c9F A7⟩;have HT:=hd8 (qB Evt.jS l k x hx);have HZ:=oQ Evt.jS 154 k l (fun e he=>a7P (HA.out e he));obtain⟨b,o,rfl,A6⟩:=HC.out k x hx;obtain⟨A4,A0,A1,he⟩:=A6;have d0:=cB8 br A0;have d1:=cB8 br A1;have A3:=HA.out x (c9N hx);have bA:=aB8 wr (.cells #[iV x.cmd,A4] 47);have HW:=c0R w x.cmd A4 x.evs he u5 _ _ (br.trans (bA.mono A5)) (BR.bE bA) (by rw[c9I];simp only[List.length_cons,List.length_nil];omega) A3;have HQ:Hid ((⟨x.cmd,x.evs⟩:Evt.Bat)=x):=rfl;rw[HQ.out]at HW;obtain⟨As,Cs,rfl⟩:=he.sE;clear hx BR HZ A3 he A0 A1;go_wp2_with fail;refine HW.mono ?_;rintro e w3 ⟨v3,rfl,B3,O3⟩;have O3:=(dJ.oE bA (N:=w.heap.size)).trans O3;have HB:Hid (cT w3 w.heap.size v3 ([l.length]++(l.take (k+1)).flatMap Evt.jS)):=by
    have:=B3;rw[c9X,←HT.out]at this;exact this
   clear HW B3 bA;go_wp2_with fail;exact⟨⟨k+1,by omega,by go_num,HB.out,OR.trans O3⟩,by simp[intOf];omega⟩
  ·obtain rfl:k=l.length:=by omega
   have HB:cT wr w.heap.size u5 (Evt.iK l):=by
    have:=BR;rw[d0L]at this;exact this
   have VZ:=V2.off OR;have c0:=VZ.cell 0 _ rfl;have c1:=VZ.cell 1 _ rfl;have f0:=VZ.frozen 0;have f1:=VZ.frozen 1;clear BR OR;go_wp2_with fail;refine bodyPost_ret (v:=.tuple #[u5,.agg #[iV 0,iV 0]]) (by simp[results,results78,go_sem,c0,c1]) rfl ⟨_,rfl,?_,?_⟩
   ·refine cT.off (S:=fun k=>k=w.heap.size) HB (((Off.refl (fun k=>k=w.heap.size) _).set (p:=⟨w.heap.size,0,none⟩) rfl _).set (p:=⟨w.heap.size,1,none⟩) rfl _) (fun g hg e=>?_);obtain⟨c,hc⟩:=iY HB hg;rw[e,VZ.hp]at hc;cases hc
   ·exact(br.setCell (c9C _) _).setCell (c9C _) _
theorem a9V(v:Value)(l:List Evt.Bat)(w:World)(h:eS w v l):
  Calls prog 78 #[v] w fun e w'=> ∃v',e=.returned (.tuple #[v',.agg #[iV ((Evt.aF l).1:Nat),iV ((Evt.aF l).2:Nat)]])∧cT w' w.heap.size v' (rE l)∧Bl w w':=by
 by_cases hE:(Evt.aF l).1=0
 ·exact b5Y v l w h hE
 ·exact b0C v l w h hE
def cU(w:World)(v:Value)(r:List Nat):Prop:=Evt.bP r∧ ∃A cap,v=.slice A r.length cap∧r.length≤cap∧cap≤maxLen∧ ∀i x,r[i]?=some x→ ∃b o,A=some ⟨b,o,none⟩∧w.cell? ⟨b,o+i,none⟩=some (.int .u8 (x:Nat))
theorem cU.bE(h:cU w v r)(hb:Below w.heap.size w w'):cU w' v r:=by
 obtain⟨h0,A,A0,hv,h1,h2,hc⟩:=h
 refine⟨h0,A,A0,hv,h1,h2,fun i x hx=>?_⟩
 obtain⟨b,o,e1,e2⟩:=hc i x hx
 exact⟨b,o,e1,(hb.cell (p:=⟨b,o+i,none⟩) (World.block_lt_of_cell? _ _ e2)).trans e2⟩
theorem cU.nil(w:World):cU w (.slice none 0 0) []:=⟨Evt.bP.nil,none,0,rfl,c9C _,c9D _,fun i x hx=>by cases hx⟩
theorem cA.list{g:Nat→Nat}(h:cA w v n g):cU w v (bl g n):=by
 obtain⟨bd,A,A0,hv,h1,h2,hc⟩:=h
 refine⟨a8W bd n,A,A0,by rw[kU];exact hv,by rw[kU];exact h1,h2,fun i x hx=>?_⟩
 have hi:i<n:=by
  have:=(c9H.1 hx).1
  rwa[kU]at this
 rw[mV g hi]at hx
 cases hx
 exact hc i hi
theorem cU.byts(h:cU w v r):cA w v r.length (fun k=>r.getD k 0):=by
 obtain⟨h0,A,A0,hv,h1,h2,hc⟩:=h
 refine⟨fun k=>?_,A,A0,hv,h1,h2,fun i hi=>?_⟩
 ·show r.getD k 0<256
  by_cases hk:k<r.length
  ·have:r.getD k 0∈r:=by simp[List.getD,hk]
   exact h0 _ this
  ·simp[List.getD,hk]
 ·have e:r[i]?=some (r.getD i 0):=by simp[List.getD,hi]
  exact hc i _ e
theorem cT.bytL(h:cT w N v bs)(hb:Evt.bP bs):cU w v bs:=by
 have:=(h.byts hb).list;rw[show bl (fun k=>bs.getD k 0) bs.length=bs from ?_]at this
 ·exact this
 ·apply d1I;intro i;by_cases hi:i<bs.length
  ·rw[mV _ hi];simp[List.getD,hi]
  ·rw[c9Z (by rw[kU];omega),c9Z (by omega)]
structure Rd(W0 w:World)(p:Nat)(st:Evt.St):Prop where
 c0: ∃v,w.cell? (aD p 0)=some v∧cU W0 v st.1
 c1:w.cell? (aD p 1)=some (.bool st.2)
 fr: ∀i,w.frozen? (aD p i)=false
 bel:Bl W0 w
 le:W0.heap.size≤p
theorem Rd.bytes{st:Evt.St}(h:Rd W0 w p st):Evt.bP st.1:=by
 obtain⟨v,_,h0,_⟩:=h.c0
 exact h0
theorem Rd.lt{st:Evt.St}(h:Rd W0 w p st):p<w.heap.size:=World.block_lt_of_cell? _ _ h.c1
theorem Rd.off{st:Evt.St}(h:Rd W0 w p st)(ho:Off S w w')(hS: ¬S p)(hW: ∀k,S k→W0.heap.size≤k):Rd W0 w' p st:=by
 have hb:=ho.block p h.lt hS;obtain⟨v,e1,e2⟩:=h.c0;exact⟨⟨v,(World.cell?_of_block (w:=w) (a:=⟨p,0,none⟩) hb).trans e1,e2⟩,(World.cell?_of_block (w:=w) (a:=⟨p,1,none⟩) hb).trans h.c1,fun i=>(World.frozen?_of_block (w:=w) (a:=⟨p,i,none⟩) hb).trans (h.fr i),h.bel.trans (ho.bE h.bel.size hW),h.le⟩
theorem Rd.set{st:Evt.St}(h:Rd W0 w p st)(hv:cU W0 v r):Rd W0 (w.setCell (aD p 0) v) p (r,st.2):=by
 obtain⟨⟨v0,c0,_⟩,c1,fr,A0,le⟩:=h;exact⟨⟨v,by go_simp,hv⟩,by go_simp,fun i=>by have:=fr i;go_simp,A0.setCell le _,le⟩
theorem Rd.fail{st:Evt.St}(h:Rd W0 w p st):Rd W0 ((w.setCell (aD p 0) nS).setCell (aD p 1) (.bool true)) p ([],true):=by
 obtain⟨⟨v0,c0,_⟩,c1,fr,A0,le⟩:=h;exact⟨⟨nS,by go_simp,cU.nil _⟩,by go_simp,fun i=>by have:=fr i;go_simp,(A0.setCell le _).setCell le _,le⟩
theorem b8J{A:Option Addr}(h:cU w (.slice A r.length C) r)(hn:n≤r.length):cU w (.slice A n C) (r.take n):=by
 obtain⟨h0,A',A0,hv,h1,h2,hc⟩:=h
 cases hv
 have hl:(r.take n).length=n:=by simp;omega
 refine⟨h0.take n,A,C,by rw[hl],by omega,h2,fun i x hx=>?_⟩
 have hi:i<n:=by
  have:=(c9H.1 hx).1
  omega
 rw[d0C,if_pos hi]at hx
 exact hc i x hx
theorem b6Y(h:cU w (.slice (some ⟨b,o,none⟩) r.length C) r)(hn:n≤r.length):cU w (.slice (some ⟨b,o+n,none⟩) (r.length-n) (C-n)) (r.drop n):=by
 obtain⟨h0,A',A0,hv,h1,h2,hc⟩:=h
 cases hv
 have hl:(r.drop n).length=r.length-n:=by simp
 refine⟨h0.drop n,some ⟨b,o+n,none⟩,C-n,by rw[hl],by omega,by omega,fun i x hx=>?_⟩
 rw[d0J]at hx
 obtain⟨b',o',e1,e2⟩:=hc (n+i) x hx
 cases e1
 exact⟨b,o+n,rfl,by rw[show o+n+i=o+(n+i) by omega];exact e2⟩
theorem uL(w:World)(A:Option Addr)(hC:C≤maxLen):cU w (.slice A 0 C) []:=⟨Evt.bP.nil,A,C,rfl,c9D _,hC,fun i x hx=>by cases hx⟩
theorem c3Z{st:Evt.St}(h:st.1.length<n):Evt.gH n st=([],([],true)):=if_pos h
theorem c0Y{st:Evt.St}(h: ¬st.1.length<n):Evt.gH n st=(st.1.take n,(st.1.drop n,st.2)):=if_neg h
theorem a6G(W0:World)(p n:Nat)(st:Evt.St)(w:World)(h:Rd W0 w p st)(hn:n≤1000000):
  Calls prog 173 #[.pointer (some (aD p 0)),iV n] w fun e w'=> ∃t,e=.returned t∧cU W0 t (Evt.gH n st).1∧Rd W0 w' p (Evt.gH n st).2∧Off (fun k=>k=p) w w':=by
 obtain⟨r,fl⟩:=st
 obtain⟨v,k0,hv⟩:=h.c0
 have hv:cU W0 v r:=hv
 have f0:=h.fr 0
 have f1:=h.fr 1
 have k1:=h.c1
 have A1:=hv
 obtain⟨h0,A,C,rfl,h1,h2,hc⟩:=A1
 unfold maxLen at h2
 by_cases q:r.length<n
 ·have q':(r.length:Int)<(n:Int):=by omega
  rw[c3Z (st:=(r,fl)) q]
  have HF:Hid (Rd W0 ((w.setCell (aD p 0) nS).setCell (aD p 1) (.bool true)) p ([],true)):=h.fail
  clear h hv hc h0
  go_enter func173,ntmps173
  go_wp2_with fail
  go_ret
  exact⟨_,rfl,cU.nil _,HF.out,((Off.refl (fun k=>k=p) _).set (p:=⟨p,0,none⟩) rfl _).set (p:=⟨p,1,none⟩) rfl _⟩
 have q': ¬(r.length:Int)<(n:Int):=by omega
 rw[c0Y (st:=(r,fl)) q]
 have HT:Hid (cU W0 (.slice A n C) (r.take n)):=b8J hv (by omega)
 by_cases q0:1≤r.length
 case neg=>
  obtain rfl:r=[]:=d0N (by omega)
  obtain rfl:n=0:=by simpa using q
  have HS:Hid (∀A',Rd W0 (w.setCell (aD p 0) (.slice A' 0 C)) p ([],fl)):=fun A'=>h.set (uL W0 A' (by unfold maxLen;omega))
  have HU:Hid (∀A',cU W0 (.slice A' 0 C) []):=fun A'=>uL W0 A' (by unfold maxLen;omega)
  clear h hv hc h0 q' q0 q HT
  simp only[List.length_nil]at k0 h1
  cases A with
  |none=>
   go_enter func173,ntmps173
   go_wp2_with fail
   go_ret
   exact⟨_,rfl,HU.out _,HS.out _,(Off.refl (fun k=>k=p) _).set (p:=⟨p,0,none⟩) rfl _⟩
  |some a=>
   go_enter func173,ntmps173
   go_wp2_with fail
   go_ret
   exact⟨_,rfl,HU.out _,HS.out _,(Off.refl (fun k=>k=p) _).set (p:=⟨p,0,none⟩) rfl _⟩
 obtain⟨b,o,rfl,hz⟩:=hc 0 r[0] (c9F q0)
 by_cases A0:C=n
 ·obtain rfl:r.length=n:=by omega
  subst A0
  have HS:Hid (Rd W0 (w.setCell (aD p 0) (.slice (some (aD b o)) 0 0)) p ([],fl)):=h.set (uL W0 _ (c9D _))
  have HT:Hid (cU W0 (.slice (some (aD b o)) r.length r.length) r):=hv
  clear h hv hc h0 q0 q hz
  go_enter func173,ntmps173
  go_wp2_with fail
  go_ret
  exact⟨_,rfl,HT.out,HS.out,(Off.refl (fun k=>k=p) _).set (p:=⟨p,0,none⟩) rfl _⟩
 ·have HS:Hid (Rd W0 (w.setCell (aD p 0) (.slice (some (aD b (o+n))) (r.length-n) (C-n))) p (r.drop n,fl)):=h.set (b6Y hv (by omega))
  have A2: ¬C=0:=by omega
  clear h hv hc h0 hz q0
  go_enter func173,ntmps173
  go_wp2_with fail
  go_ret
  exact⟨_,rfl,HT.out,HS.out,(Off.refl (fun k=>k=p) _).set (p:=⟨p,0,none⟩) rfl _⟩
theorem c0A(t:List Nat)(k x:Nat)(h:t[k]?=some x):Evt.val (t.take (k+1))=256*Evt.val (t.take k)+x:=by
 unfold Evt.val;rw[d1Y,h,List.foldl_append];rfl
theorem c5D{t:List Nat}(hb:Evt.bP t)(k:Nat)(hk:k≤3):Evt.val (t.take k)<16777216∧(k≤2→Evt.val (t.take k)<65536):=by
 have h1:=Evt.b2Q (t.take k) 0 0 (hb.take k) (by decide);have h2:(t.take k).length≤k:=by simp;omega
 constructor
 ·refine c9P h1 (c9E (d2U (by decide) (show 0+(t.take k).length≤3 by omega)) (by decide))
 ·intro hk2;refine c9P h1 (c9E (d2U (by decide) (show 0+(t.take k).length≤2 by omega)) (by decide))
theorem jD(W0:World)(p s:Nat)(st:Evt.St)(w:World)(h:Rd W0 w p st)(hs:s≤3):
  Calls prog 145 #[.pointer (some ⟨p,0,none⟩),.int .i64 (s:Int)] w fun e w'=>e=.returned (.int .i64 ((Evt.cP s st).1:Nat))∧Rd W0 w' p (Evt.cP s st).2∧Off (fun k=>k=p) w w':=by
 have H1:=a6G W0 p s st w h (by omega)
 have A1:=Evt.zB s st
 rw[Evt.a6F]
 generalize (Evt.gH s st).1=t at H1 A1⊢
 generalize (Evt.gH s st).2=st' at H1⊢
 clear h
 go_enter func145,ntmps145
 go_wp2_with fail
 refine H1.mono ?_
 rintro e w1 ⟨v,rfl,⟨hb,A,C,rfl,_,_,hc⟩,R1,O1⟩
 have HC:Hid (∀i x,t[i]?=some x→ ∃b o,A=some ⟨b,o,none⟩∧W0.cell? ⟨b,o+i,none⟩=some (.int .u8 (x:Nat))):=hc
 have br:=R1.bel
 have HR:Hid (Rd W0 w1 p st'):=R1
 have HB:Hid (Evt.bP t):=hb
 clear H1 R1 hc hb
 go_wp2_with fail
 go_loop [5,12] (fun y x=> ∃k:Nat,k≤t.length∧x=.int .i64 k∧y=.int .i64 (Evt.val (t.take k):Nat)) (fun _ x=>t.length-(intOf x).toNat)
 case atStart=>exact⟨0,c9D _,rfl,rfl⟩
 case round=>
  obtain⟨k,hk,rfl,rfl⟩:=hrel
  by_cases A2:k<t.length
  ·have A3:(k:Int)<(t.length:Int):=by omega
   obtain⟨x,hx⟩: ∃x,t[k]?=some x:=⟨t[k],c9F A2⟩
   obtain⟨b,o,rfl,A0⟩:=HC.out k x hx
   have d0:=(br.cell (p:=⟨b,o+k,none⟩) (World.block_lt_of_cell? _ _ A0)).trans A0
   have A4:x<256:=HB.out x (c9N hx)
   have HV:Hid (Evt.val (t.take (k+1))=256*Evt.val (t.take k)+x):=c0A t k x hx
   have hv:=(c5D HB.out k (by omega)).2 (by omega)
   generalize Evt.val (t.take k)=n at HV hv
   have HJ:Hid (bits .or .i64 ((n:Int)*256) (x:Int)=((256*n+x:Nat):Int)):=by
    show bits .or .i64 ((n:Int)*256) (x:Int)=_
    rw[show(n:Int)*256=((n*256:Nat):Int) by omega,c2F _ _ (by omega) (by omega),nat_join 8 _ _ (by omega) (by omega),Nat.mul_comm]
   clear hx A0
   go_wp2_with fail
   exact⟨⟨k+1,by omega,by go_num,cB (by rw[HV.out];exact HJ.out)⟩,by simp[intOf];omega⟩
  ·obtain rfl:k=t.length:=by omega
   go_wp2_with fail
   go_ret
   exact⟨rfl,HR.out,O1⟩
structure jV(w:World)(g m:Nat)(Q:Nat→EvC):Prop where
 cs: ∀i,i<m→w.cell? (aD g (i*3))=some (.string (Q i).1)∧w.cell? (aD g (i*3+1))=some (iV (Q i).2.1)∧w.cell? (aD g (i*3+2))=some (iV (Q i).2.2)
 sz: ∀i,i<m→(Q i).1.size≤9223372036854775807
 fr: ∀i,w.frozen? (aD g i)=false
 lt:g<w.heap.size
theorem jV.off{Q:Nat→EvC}(h:jV w g m Q)(ho:Off S w w')(hS: ¬S g):jV w' g m Q:=by
 have hb:=ho.block g h.lt hS;exact⟨fun i hi=>⟨(World.cell?_of_block (w:=w) (a:=⟨g,i*3,none⟩) hb).trans (h.cs i hi).1,(World.cell?_of_block (w:=w) (a:=⟨g,i*3+1,none⟩) hb).trans (h.cs i hi).2.1,(World.cell?_of_block (w:=w) (a:=⟨g,i*3+2,none⟩) hb).trans (h.cs i hi).2.2⟩,h.sz,fun i=>(World.frozen?_of_block (w:=w) (a:=⟨g,i,none⟩) hb).trans (h.fr i),c9P h.lt ho.size⟩
theorem jV.set0{Q:Nat→EvC}(h:jV w g m Q)(hk:k<m)(s:ByteArray)(hs:s.size≤9223372036854775807):jV (w.setCell (aD g (k*3)) (.string s)) g m (upd Q k (s,(Q k).2)):=by
 refine⟨fun i hi=>?_,fun i hi=>?_,fun i=>(World.frozen?_setCell _ _ _ _).trans (h.fr i),by rw[Deep.nblk_setCell];exact h.lt⟩
 ·obtain⟨e0,e1,e2⟩:=h.cs i hi;rw[World.cell?_setCell_other _ _ _ _ (gC (show k*3≠i*3+1 by omega)),World.cell?_setCell_other _ _ _ _ (gC (show k*3≠i*3+2 by omega))];by_cases e:i=k
  ·subst e;rw[World.cell?_setCell_same _ _ _ e0,bM];exact⟨rfl,e1,e2⟩
  ·rw[World.cell?_setCell_other _ _ _ _ (gC (show k*3≠i*3 by omega)),aW _ _ e];exact⟨e0,e1,e2⟩
 ·by_cases e:i=k
  ·rw[e,bM];exact hs
  ·rw[aW _ _ e];exact h.sz i hi
theorem jV.set1{Q:Nat→EvC}(h:jV w g m Q)(hk:k<m)(n:Int):jV (w.setCell (aD g (k*3+1)) (iV n)) g m (upd Q k ((Q k).1,n,(Q k).2.2)):=by
 refine⟨fun i hi=>?_,fun i hi=>?_,fun i=>(World.frozen?_setCell _ _ _ _).trans (h.fr i),by rw[Deep.nblk_setCell];exact h.lt⟩
 ·obtain⟨e0,e1,e2⟩:=h.cs i hi;rw[World.cell?_setCell_other _ _ _ _ (gC (show k*3+1≠i*3 by omega)),World.cell?_setCell_other _ _ _ _ (gC (show k*3+1≠i*3+2 by omega))];by_cases e:i=k
  ·subst e;rw[World.cell?_setCell_same _ _ _ e1,bM];exact⟨e0,rfl,e2⟩
  ·rw[World.cell?_setCell_other _ _ _ _ (gC (show k*3+1≠i*3+1 by omega)),aW _ _ e];exact⟨e0,e1,e2⟩
 ·by_cases e:i=k
  ·rw[e,bM];exact h.sz k hk
  ·rw[aW _ _ e];exact h.sz i hi
theorem jV.set2{Q:Nat→EvC}(h:jV w g m Q)(hk:k<m)(n:Int):jV (w.setCell (aD g (k*3+2)) (iV n)) g m (upd Q k ((Q k).1,(Q k).2.1,n)):=by
 refine⟨fun i hi=>?_,fun i hi=>?_,fun i=>(World.frozen?_setCell _ _ _ _).trans (h.fr i),by rw[Deep.nblk_setCell];exact h.lt⟩
 ·obtain⟨e0,e1,e2⟩:=h.cs i hi;rw[World.cell?_setCell_other _ _ _ _ (gC (show k*3+2≠i*3 by omega)),World.cell?_setCell_other _ _ _ _ (gC (show k*3+2≠i*3+1 by omega))];by_cases e:i=k
  ·subst e;rw[World.cell?_setCell_same _ _ _ e2,bM];exact⟨e0,e1,rfl⟩
  ·rw[World.cell?_setCell_other _ _ _ _ (gC (show k*3+2≠i*3+2 by omega)),aW _ _ e];exact⟨e0,e1,e2⟩
 ·by_cases e:i=k
  ·rw[e,bM];exact h.sz k hk
  ·rw[aW _ _ e];exact h.sz i hi
theorem b9J(w:World)(m:Nat)(hm:m<256): ∃w',(Instr.makeSlice 40 (iV m) (iV m)).run prog w=.ok (.slice (some (aD w.heap.size 0)) m m) w'∧jV w' w.heap.size m (fun _=>(ByteArray.empty,0,0))∧Bl w w':=by
 obtain⟨i3,A3,A2⟩:=c9J.1 Tryz.infoEvent;simp only[Prod.mk.injEq]at A2;obtain⟨A4,A5,A6⟩:=A2;obtain⟨w',A1,A0,hg⟩:=run_make_full (P:=prog) w w.heap.size 40 83 i3 _ 3 underlying40 A3 A4 A5 .i64 .i64 m (by rw[A6];omega) (by unfold maxLen;omega) (c9C _);have hc: ∀j u,(madeCells (Value.agg #[.string ByteArray.empty,iV 0,iV 0]).cells (m*3)).toList[j]?=some u→w'.cell? (aD w.heap.size j)=some u:=fun j u hj=>by
  have:=A0.cells (g:=w.heap.size) rfl j u hj;rw[WideShapes.add_plain,c9G]at this;exact this
 refine⟨w',A1,⟨fun i hi=>⟨?_,?_,?_⟩,fun i _=>c9D _,lB A0 rfl,(A0.lt _ rfl).2⟩,⟨hg.os,hg.tape,hg.output,hg.size,fun k hk=>hg.block k hk (by simp)⟩⟩
 ·exact hc _ _ (mP _ _ _ (by omega) _ (by rw[show(Value.agg #[.string ByteArray.empty,iV 0,iV 0]).cells=#[.string ByteArray.empty,iV 0,iV 0]from rfl,show(i*3)%(#[Value.string ByteArray.empty,iV 0,iV 0]).size=0 from show i*3%3=0 by omega];rfl))
 ·exact hc _ _ (mP _ _ _ (by omega) _ (by rw[show(Value.agg #[.string ByteArray.empty,iV 0,iV 0]).cells=#[.string ByteArray.empty,iV 0,iV 0]from rfl,show(i*3+1)%(#[Value.string ByteArray.empty,iV 0,iV 0]).size=1 from show(i*3+1)%3=1 by omega];rfl))
 ·exact hc _ _ (mP _ _ _ (by omega) _ (by rw[show(Value.agg #[.string ByteArray.empty,iV 0,iV 0]).cells=#[.string ByteArray.empty,iV 0,iV 0]from rfl,show(i*3+2)%(#[Value.string ByteArray.empty,iV 0,iV 0]).size=2 from show(i*3+2)%3=2 by omega];rfl))
theorem jV.evs{Q:Nat→EvC}(h:jV w g m Q)(hm:m<256):Evs w (.slice (some (aD g 0)) m m) ((List.range m).map fun i=>aY (Q i)):=by
 refine⟨some (aD g 0),m,by simp,by simp,by unfold maxLen;omega,fun i e he=>⟨g,0,rfl,?_⟩⟩;have hi:i<m:=by
  have:=(c9H.1 he).1;simpa using this
 simp[hi]at he;subst he;obtain⟨e0,e1,e2⟩:=h.cs i hi;rw[c9G];exact⟨(Q i).1,h.sz i hi,rfl,e0,e1,e2⟩
theorem c3M{t:List Nat}(h:Evt.bP t):nb (fF t)=t:=by
 unfold fF;rw[a4D]
 ·apply d1I;intro i;by_cases hi:i<t.length
  ·rw[mV _ hi];simp[List.getD,hi]
  ·rw[c9Z (by rw[kU];omega),c9Z (by omega)]
 ·intro k;show t.getD k 0<256;by_cases hk:k<t.length
  ·have:t.getD k 0∈t:=by simp[List.getD,hk]
   exact h _ this
  ·simp[List.getD,hk]
theorem b9N{t:List Nat}(h:cU w v t):(convert 59 9 v).run prog w=.ok (.string (fF t)) w:=a6P h.byts
theorem b0R(W0:World)(p:Nat)(st:Evt.St)(w:World)(h:Rd W0 w p st):
  Calls prog 146 #[.pointer (some (aD p 0))] w fun e w'=> ∃g m,e=.returned (.slice (some (aD g 0)) m m)∧w.heap.size≤g∧Evs w' (.slice (some (aD g 0)) m m) (Evt.uI st).1∧Rd W0 w' p (Evt.uI st).2∧Off (fun k=>k=p) w w':=by
 have H1:=jD W0 p 1 st w h (by omega);have hm:=Evt.a4V 1 h.bytes;unfold Evt.uI;generalize (Evt.cP 1 st).1=m at H1 hm⊢;generalize (Evt.cP 1 st).2=st1 at H1⊢;clear h;go_enter func146,ntmps146
 go_wp2_with fail;refine H1.mono ?_;rintro e w1 ⟨rfl,R1,O1⟩;obtain⟨w2,A9,E2,b2⟩:=b9J w1 m hm;have O2:=O1.trans (Off.oE b2);have R2:=R1.off (S:=fun _=>False) (Off.oE b2) (fun h=>h) (fun k h=>h.elim);have A8:w.heap.size≤w1.heap.size:=O1.size;have A0:w1.heap.size≠p:=fun e=>by have:=R1.lt;omega
 have A2:W0.heap.size≤w1.heap.size:=R1.bel.size;generalize w1.heap.size=g at A9 E2 A8 A0 A2;clear H1 R1 O1 b2;go_wp2_with fail;clear A9;go_loopw [10] (fun x wr=> ∃(k:Nat) (Q:Nat→EvC),k≤m∧x=iV k∧jV wr g m Q∧Hid ((List.range k).map (fun i=>aY (Q i))=(Evt.jF k st1).1)∧Rd W0 wr p (Evt.jF k st1).2∧Off (fun k=>k=p) w wr) (fun x _=>m-(intOf x).toNat)
 case atStart=>exact⟨0,_,c9D _,rfl,E2,rfl,R2,O2⟩
 case round=>
  obtain⟨k,Q,hk,rfl,ER,HS,RR,OR⟩:=hrel;by_cases A1:k<m
  ·have Ac:(k:Int)<(m:Int):=by omega
   have HN:=hd8 (Evt.a2J k st1);generalize (Evt.jF k st1).2=s0 at RR HN;have K1:=jD W0 p 1 s0 wr RR (by omega);have Ad:=Evt.a4V 1 RR.bytes;have HE:Hid (Evt.evS s0=(⟨(Evt.gH (Evt.cP 1 s0).1 (Evt.cP 1 s0).2).1,((Evt.cP 1 (Evt.gH (Evt.cP 1 s0).1 (Evt.cP 1 s0).2).2).1:Nat),((Evt.cP 3 (Evt.cP 1 (Evt.gH (Evt.cP 1 s0).1 (Evt.cP 1 s0).2).2).2).1:Nat)⟩,(Evt.cP 3 (Evt.cP 1 (Evt.gH (Evt.cP 1 s0).1 (Evt.cP 1 s0).2).2).2).2)):=rfl;generalize (Evt.cP 1 s0).1=a1 at K1 Ad HE;generalize (Evt.cP 1 s0).2=s1 at K1 HE;clear RR;go_wp2_with fail;refine K1.mono ?_;rintro e w3 ⟨rfl,R3,O3⟩;have E3:=ER.off O3 A0;have O3:=OR.trans O3;have K2:=a6G W0 p a1 s1 w3 R3 (by omega);have ht:=Evt.zB a1 s1;generalize (Evt.gH a1 s1).1=t at K2 HE ht;generalize (Evt.gH a1 s1).2=s2 at K2 HE;clear K1 ER OR R3;go_wp2_with fail;refine K2.mono ?_;rintro e w4 ⟨v4,rfl,T4,R4,O4⟩;have E4:=E3.off O4 A0;have O4:=O3.trans O4;have A7:=b9N (T4.bE R4.bel);have A6:=hd8 (c3M T4.1);have Aa:(fF t).size≤9223372036854775807:=by
    rw[←gF,A6.out];omega
   obtain⟨d0,d1,d2⟩:=E4.cs k A1;have f0:=E4.fr (k*3);have f1:=E4.fr (k*3+1);have f2:=E4.fr (k*3+2);generalize fF t=S at A7 A6 Aa;have E5:=E4.set0 A1 S Aa;have R5:=R4.off (aG w4 (aD g (k*3)) (.string S)) (fun e=>A0 e.symm) (fun j e=>by rw[e];exact A2);have O5:Off (fun k=>k=p) w (w4.setCell (aD g (k*3)) (.string S)):=O4.past (aG w4 (aD g (k*3)) (.string S)) (fun y e hl=>by rw[e]at hl;exact absurd hl (by show¬g<_;omega));obtain⟨Q1,A3⟩: ∃Q1,Hid (Q1=upd Q k (S,(Q k).2)):=⟨_,rfl⟩;rw[←A3.out]at E5;have K3:=jD W0 p 1 s2 _ R5 (by omega);generalize (Evt.cP 1 s2).1=a3 at K3 HE;generalize (Evt.cP 1 s2).2=s3 at K3 HE;clear K2 E3 O3 T4 E4 R4 O4 R5;go_wp2_with fail;refine K3.mono ?_;rintro e w5 ⟨rfl,R5,O6⟩;have E6:=E5.off O6 A0;have O6:=O5.trans O6;obtain⟨d0,d1,d2⟩:=E6.cs k A1;have f0:=E6.fr (k*3);have f1:=E6.fr (k*3+1);have f2:=E6.fr (k*3+2);have E7:=E6.set1 A1 (a3:Int);have R7:=R5.off (aG w5 (aD g (k*3+1)) (iV a3)) (fun e=>A0 e.symm) (fun j e=>by rw[e];exact A2);have O7:Off (fun k=>k=p) w (w5.setCell (aD g (k*3+1)) (iV a3)):=O6.past (aG w5 (aD g (k*3+1)) (iV a3)) (fun y e hl=>by rw[e]at hl;exact absurd hl (by show¬g<_;omega));obtain⟨Q2,A4⟩: ∃Q2,Hid (Q2=upd Q1 k ((Q1 k).1,(a3:Int),(Q1 k).2.2)):=⟨_,rfl⟩;rw[←A4.out]at E7;have K4:=jD W0 p 3 s3 _ R7 (by omega);generalize (Evt.cP 3 s3).1=a4 at K4 HE;generalize (Evt.cP 3 s3).2=s4 at K4 HE;clear K3 E5 O5 E6 R5 O6 R7 A7;go_wp2_with fail;refine K4.mono ?_;rintro e w6 ⟨rfl,R8,O8⟩;have E8:=E7.off O8 A0;have O8:=O7.trans O8;obtain⟨d0,d1,d2⟩:=E8.cs k A1;have f0:=E8.fr (k*3);have f1:=E8.fr (k*3+1);have f2:=E8.fr (k*3+2);have E9:=E8.set2 A1 (a4:Int);have R9:Hid (Rd W0 (w6.setCell (aD g (k*3+2)) (iV a4)) p s4):=R8.off (aG w6 (aD g (k*3+2)) (iV a4)) (fun e=>A0 e.symm) (fun j e=>by rw[e];exact A2);have O9:Hid (Off (fun k=>k=p) w (w6.setCell (aD g (k*3+2)) (iV a4))):=O8.past (aG w6 (aD g (k*3+2)) (iV a4)) (fun y e hl=>by rw[e]at hl;exact absurd hl (by show¬g<_;omega));obtain⟨Q3,A5⟩: ∃Q3,Hid (Q3=upd Q2 k ((Q2 k).1,(Q2 k).2.1,(a4:Int))):=⟨_,rfl⟩;rw[←A5.out]at E9;have HZ:=hd8 E9;have HF:Hid ((List.range (k+1)).map (fun i=>aY (Q3 i))=(Evt.jF (k+1) st1).1):=by
    show(List.range (k+1)).map (fun i=>aY (Q3 i))=(Evt.jF (k+1) st1).1;rw[HN.out,HE.out,d1G,c9U,←HS.out];congr 1
    ·refine d1H (fun i hi=>?_);have hi:i≠k:=by have:=d0D.1 hi;omega
     rw[A5.out,aW _ _ hi,A4.out,aW _ _ hi,A3.out,aW _ _ hi]
    ·show[aY (Q3 k)]=_;rw[A5.out,bM,A4.out,bM,A3.out,bM];show[(⟨nb S,(a3:Int),(a4:Int)⟩:Evt.Ev)]=_;rw[A6.out]
   have Ab:Hid (Rd W0 (w6.setCell (aD g (k*3+2)) (iV a4)) p (Evt.jF (k+1) st1).2):=by
    show Rd W0 _ p (Evt.jF (k+1) st1).2;rw[HN.out,HE.out];exact R9.out
   clear K4 E7 O7 E8 O8 R8 E9;go_wp2_with fail;exact⟨⟨k+1,Q3,by omega,by go_num,HZ.out,HF.out,Ab.out,O9.out⟩,by simp[intOf];omega⟩
  ·obtain rfl:k=m:=by omega
   have HE:Hid (Evs wr (.slice (some (aD g 0)) k k) (Evt.jF k st1).1):=by
    have:=ER.evs hm;rw[HS.out]at this;exact this
   clear ER;go_wp2_with fail;go_ret
   exact⟨g,k,rfl,A8,HE.out,RR,OR⟩
theorem b2T{es:List Evt.Ev}(h:Evs w (.slice (some (aD g 0)) m C) es)(ho:Off S w w')(hS: ¬S g):Evs w' (.slice (some (aD g 0)) m C) es:=by
 obtain⟨A,A0,hv,h1,h2,hc⟩:=h;cases hv
 refine⟨_,_,rfl,h1,h2,fun i e he=>?_⟩;obtain⟨b,o,e1,s,x1,x2,c0,c1,c2⟩:=hc i e he;cases e1
 have hb:=ho.block g (World.block_lt_of_cell? _ _ c0) hS;exact⟨g,0,rfl,s,x1,x2,(World.cell?_of_block (w:=w) (a:=⟨g,0+i*3,none⟩) hb).trans c0,(World.cell?_of_block (w:=w) (a:=⟨g,0+i*3+1,none⟩) hb).trans c1,(World.cell?_of_block (w:=w) (a:=⟨g,0+i*3+2,none⟩) hb).trans c2⟩
def a3G(w:World)(N:Nat)(v:Value)(es:List Evt.Ev):Prop:= ∃g m,v=.slice (some (aD g 0)) m m∧N≤g∧Evs w v es
theorem a3G.off{es:List Evt.Ev}(h:a3G w N v es)(ho:Off S w w')(hS: ∀k,S k→k<N):a3G w' N v es:=by
 obtain⟨g,m,rfl,hN,he⟩:=h;exact⟨g,m,rfl,hN,b2T he ho (fun k=>by have:=hS g k;omega)⟩
def gN(w:World)(M:Nat)(v:Value)(l:List Evt.Bat):Prop:= ∃A cap,v=.slice A l.length cap∧l.length≤cap∧cap≤maxLen∧ ∀i x,l[i]?=some x→ ∃b o,A=some (aD b o)∧M≤b∧ ∃ve,w.cell? (aD b (o+i*2))=some (iV x.cmd)∧w.cell? (aD b (o+i*2+1))=some ve∧Evs w ve x.evs∧ ∀g,ve.ownBlock=some g→M≤g
theorem gN.bats{l:List Evt.Bat}(h:gN w M v l):eS w v l:=by
 obtain⟨A,A0,hv,h1,h2,h3⟩:=h;refine⟨A,A0,hv,h1,h2,fun i x hx=>?_⟩;obtain⟨b,o,e1,_,ve,c0,c1,he,_⟩:=h3 i x hx;exact⟨b,o,e1,ve,c0,c1,he⟩
theorem gN.bE{l:List Evt.Bat}(h:gN w M v l)(hb:Bl w w'):gN w' M v l:=by
 obtain⟨A,A0,hv,h1,h2,h3⟩:=h;refine⟨A,A0,hv,h1,h2,fun i x hx=>?_⟩;obtain⟨b,o,e1,e2,ve,c0,c1,he,e3⟩:=h3 i x hx;have hp:b<w.heap.size:=World.block_lt_of_cell? _ _ c0;exact⟨b,o,e1,e2,ve,(hb.cell (p:=⟨b,o+i*2,none⟩) hp).trans c0,(hb.cell (p:=⟨b,o+i*2+1,none⟩) hp).trans c1,he.bE hb,e3⟩
theorem gN.lower{K:Nat}{l:List Evt.Bat}(h:gN w M v l)(hK:K≤M):gN w K v l:=by
 obtain⟨A,A0,hv,h1,h2,h3⟩:=h;refine⟨A,A0,hv,h1,h2,fun i x hx=>?_⟩;obtain⟨b,o,e1,e2,ve,c0,c1,he,e3⟩:=h3 i x hx;exact⟨b,o,e1,c9E hK e2,ve,c0,c1,he,fun g hg=>c9E hK (e3 g hg)⟩
theorem eX(w:World)(M:Nat):gN w M nS []:=⟨none,0,rfl,c9C _,c9D _,fun i e he=>by cases he⟩
structure jC(w:World)(g m:Nat)(Q:Nat→Int×Value):Prop where
 cs: ∀i,i<m→w.cell? (aD g (i*2))=some (iV (Q i).1)∧w.cell? (aD g (i*2+1))=some (Q i).2
 fr: ∀i,w.frozen? (aD g i)=false
 lt:g<w.heap.size
theorem jC.off{Q:Nat→Int×Value}(h:jC w g m Q)(ho:Off S w w')(hS: ¬S g):jC w' g m Q:=by
 have hb:=ho.block g h.lt hS;exact⟨fun i hi=>⟨(World.cell?_of_block (w:=w) (a:=⟨g,i*2,none⟩) hb).trans (h.cs i hi).1,(World.cell?_of_block (w:=w) (a:=⟨g,i*2+1,none⟩) hb).trans (h.cs i hi).2⟩,fun i=>(World.frozen?_of_block (w:=w) (a:=⟨g,i,none⟩) hb).trans (h.fr i),c9P h.lt ho.size⟩
theorem jC.set0{Q:Nat→Int×Value}(h:jC w g m Q)(n:Int):jC (w.setCell (aD g (k*2)) (iV n)) g m (upd Q k (n,(Q k).2)):=by
 refine⟨fun i hi=>?_,fun i=>(World.frozen?_setCell _ _ _ _).trans (h.fr i),by rw[Deep.nblk_setCell];exact h.lt⟩;obtain⟨e0,e1⟩:=h.cs i hi;rw[World.cell?_setCell_other _ _ _ _ (gC (show k*2≠i*2+1 by omega))];by_cases e:i=k
 ·subst e;rw[World.cell?_setCell_same _ _ _ e0,bM];exact⟨rfl,e1⟩
 ·rw[World.cell?_setCell_other _ _ _ _ (gC (show k*2≠i*2 by omega)),aW _ _ e];exact⟨e0,e1⟩
theorem jC.set1{Q:Nat→Int×Value}(h:jC w g m Q)(v:Value):jC (w.setCell (aD g (k*2+1)) v) g m (upd Q k ((Q k).1,v)):=by
 refine⟨fun i hi=>?_,fun i=>(World.frozen?_setCell _ _ _ _).trans (h.fr i),by rw[Deep.nblk_setCell];exact h.lt⟩;obtain⟨e0,e1⟩:=h.cs i hi;rw[World.cell?_setCell_other _ _ _ _ (gC (show k*2+1≠i*2 by omega))];by_cases e:i=k
 ·subst e;rw[World.cell?_setCell_same _ _ _ e1,bM];exact⟨e0,rfl⟩
 ·rw[World.cell?_setCell_other _ _ _ _ (gC (show k*2+1≠i*2+1 by omega)),aW _ _ e];exact⟨e0,e1⟩
theorem b8N(w:World)(m:Nat)(hm:m<256): ∃w',(Instr.makeSlice 26 (iV m) (iV m)).run prog w=.ok (.slice (some (aD w.heap.size 0)) m m) w'∧jC w' w.heap.size m (fun _=>(0,nS))∧Bl w w':=by
 obtain⟨i3,A3,A2⟩:=c9J.1 Tryz.infoBatch;simp only[Prod.mk.injEq]at A2;obtain⟨A4,A5,A6⟩:=A2;obtain⟨w',A1,A0,hg⟩:=run_make_full (P:=prog) w w.heap.size 26 47 i3 _ 2 underlying26 A3 A4 A5 .i64 .i64 m (by rw[A6];omega) (by unfold maxLen;omega) (c9C _);have hc: ∀j u,(madeCells (Value.agg #[iV 0,nS]).cells (m*2)).toList[j]?=some u→w'.cell? (aD w.heap.size j)=some u:=fun j u hj=>by
  have:=A0.cells (g:=w.heap.size) rfl j u hj;rw[WideShapes.add_plain,c9G]at this;exact this
 refine⟨w',A1,⟨fun i hi=>⟨?_,?_⟩,lB A0 rfl,(A0.lt _ rfl).2⟩,⟨hg.os,hg.tape,hg.output,hg.size,fun k hk=>hg.block k hk (by simp)⟩⟩
 ·exact hc _ _ (mP _ _ _ (by omega) _ (by rw[show(Value.agg #[iV 0,nS]).cells=#[iV 0,nS]from rfl,show(i*2)%(#[Value.int .i64 0,nS]).size=0 from show i*2%2=0 by omega];rfl))
 ·exact hc _ _ (mP _ _ _ (by omega) _ (by rw[show(Value.agg #[iV 0,nS]).cells=#[iV 0,nS]from rfl,show(i*2+1)%(#[Value.int .i64 0,nS]).size=1 from show(i*2+1)%2=1 by omega];rfl))
theorem jC.bats{Q:Nat→Int×Value}{l:List Evt.Bat}(h:jC w g m Q)(hm:m<256)(hl:l.length=m)(hgN:g≤N)(hs: ∀(i:Nat) (x:Evt.Bat),l[i]?=some x→x.cmd=(Q i).1∧a3G w N (Q i).2 x.evs):gN w g (.slice (some (aD g 0)) m m) l:=by
 refine⟨some (aD g 0),m,by rw[hl],by omega,by unfold maxLen;omega,fun i x hx=>⟨g,0,rfl,c9C _,?_⟩⟩;have hi:i<m:=by
  have:=(c9H.1 hx).1;omega
 obtain⟨e0,e1⟩:=h.cs i hi;obtain⟨h1,g',m',hq,hN,he⟩:=hs i x hx;rw[c9G];refine⟨(Q i).2,by rw[h1];exact e0,e1,he,fun b hb=>?_⟩;rw[hq]at hb;cases hb
 exact c9E hgN hN
theorem a7C(W0:World)(p:Nat)(st:Evt.St)(w:World)(h:Rd W0 w p st):
  Calls prog 119 #[.pointer (some (aD p 0))] w fun e w'=> ∃g m,e=.returned (.slice (some (aD g 0)) m m)∧gN w' w.heap.size (.slice (some (aD g 0)) m m) (Evt.fH st).1∧Rd W0 w' p (Evt.fH st).2∧Off (fun k=>k=p) w w':=by
 have H1:=jD W0 p 1 st w h (by omega);have hm:=Evt.a4V 1 h.bytes;unfold Evt.fH;generalize (Evt.cP 1 st).1=m at H1 hm⊢;generalize (Evt.cP 1 st).2=st1 at H1⊢;clear h;go_enter func119,ntmps119
 go_wp2_with fail;refine H1.mono ?_;rintro e w1 ⟨rfl,R1,O1⟩;obtain⟨w2,Ab,E2,b2⟩:=b8N w1 m hm;have O2:=O1.trans (Off.oE b2);have R2:=R1.off (S:=fun _=>False) (Off.oE b2) (fun h=>h) (fun k h=>h.elim);have A8:w.heap.size≤w1.heap.size:=O1.size;have Ae:p<w1.heap.size:=R1.lt;have A0:w1.heap.size≠p:=fun e=>by omega
 have A7:W0.heap.size≤w1.heap.size:=R1.bel.size;generalize w1.heap.size=g at Ab E2 A8 A0 Ae A7;clear H1 R1 O1 b2;go_wp2_with fail;clear Ab;go_loopw [10] (fun x wr=> ∃(k:Nat) (Q:Nat→Int×Value),k≤m∧x=iV k∧jC wr g m Q∧Hid (∀(i:Nat) (x:Evt.Bat),(Evt.dR k st1).1[i]?=some x→x.cmd=(Q i).1∧a3G wr (g+1) (Q i).2 x.evs)∧Rd W0 wr p (Evt.dR k st1).2∧Off (fun k=>k=p) w wr) (fun x _=>m-(intOf x).toNat)
 case atStart=>exact⟨0,_,c9D _,rfl,E2,(fun i x hx=>by cases hx),R2,O2⟩
 case round=>
  obtain⟨k,Q,hk,rfl,ER,HS,RR,OR⟩:=hrel;by_cases Aa:k<m
  ·have Ad:(k:Int)<(m:Int):=by omega
   have HN:=hd8 (Evt.zM k st1);have A1:=hd8 (Evt.uZ k st1);generalize (Evt.dR k st1).1=L at HS HN A1;generalize (Evt.dR k st1).2=s0 at RR HN;have K1:=jD W0 p 3 s0 wr RR (by omega);have HE:Hid (Evt.nA s0=(⟨((Evt.cP 3 s0).1:Nat),(Evt.uI (Evt.cP 3 s0).2).1⟩,(Evt.uI (Evt.cP 3 s0).2).2)):=rfl;generalize (Evt.cP 3 s0).1=a1 at K1 HE;generalize (Evt.cP 3 s0).2=s1 at K1 HE;clear RR;go_wp2_with fail;refine K1.mono ?_;rintro e w3 ⟨rfl,R3,O3⟩;have E3:=ER.off O3 A0;have A4:Hid (∀(i:Nat) (x:Evt.Bat),L[i]?=some x→x.cmd=(Q i).1∧a3G w3 (g+1) (Q i).2 x.evs):=fun i x hx=>⟨(HS.out i x hx).1,(HS.out i x hx).2.off O3 (fun j e=>by omega)⟩;have O3:=OR.trans O3;obtain⟨d0,d1⟩:=E3.cs k Aa;have f0:=E3.fr (k*2);have f1:=E3.fr (k*2+1);have E5:=E3.set0 (k:=k) (a1:Int);have R5:=R3.off (aG w3 (aD g (k*2)) (iV a1)) (fun e=>A0 e.symm) (fun j e=>by rw[e];exact A7);have A5:Hid (∀(i:Nat) (x:Evt.Bat),L[i]?=some x→x.cmd=(Q i).1∧a3G (w3.setCell (aD g (k*2)) (iV a1)) (g+1) (Q i).2 x.evs):=fun i x hx=>⟨(A4.out i x hx).1,(A4.out i x hx).2.off (aG w3 (aD g (k*2)) (iV a1)) (fun j e=>by rw[e];exact d1F g)⟩;have O5:Off (fun k=>k=p) w (w3.setCell (aD g (k*2)) (iV a1)):=O3.past (aG w3 (aD g (k*2)) (iV a1)) (fun y e hl=>by rw[e]at hl;exact absurd hl (by show¬g<_;omega));have Ag:g+1≤(w3.setCell (aD g (k*2)) (iV a1)).heap.size:=E5.lt;obtain⟨Q1,A2⟩: ∃Q1,Hid (Q1=upd Q k ((a1:Int),(Q k).2)):=⟨_,rfl⟩;rw[←A2.out]at E5;have K3:=b0R W0 p s1 _ R5;generalize (Evt.uI s1).1=es at K3 HE;generalize (Evt.uI s1).2=s3 at K3 HE;clear K1 ER OR R3 E3 HS A4 O3 R5;go_wp2_with fail;refine K3.mono ?_;rintro e w5 ⟨g5,m5,rfl,Af,V5,R6,O6⟩;have E6:=E5.off O6 A0;have A6:Hid (∀(i:Nat) (x:Evt.Bat),L[i]?=some x→x.cmd=(Q i).1∧a3G w5 (g+1) (Q i).2 x.evs):=fun i x hx=>⟨(A5.out i x hx).1,(A5.out i x hx).2.off O6 (fun j e=>by omega)⟩;have O6:=O5.trans O6;obtain⟨d0,d1⟩:=E6.cs k Aa;have f0:=E6.fr (k*2);have f1:=E6.fr (k*2+1);have E7:=E6.set1 (k:=k) (.slice (some (aD g5 0)) m5 m5);have R7:Hid (Rd W0 (w5.setCell (aD g (k*2+1)) (.slice (some (aD g5 0)) m5 m5)) p s3):=R6.off (aG w5 (aD g (k*2+1)) (.slice (some (aD g5 0)) m5 m5)) (fun e=>A0 e.symm) (fun j e=>by rw[e];exact A7);have O7:Hid (Off (fun k=>k=p) w (w5.setCell (aD g (k*2+1)) (.slice (some (aD g5 0)) m5 m5))):=O6.past (aG w5 (aD g (k*2+1)) (.slice (some (aD g5 0)) m5 m5)) (fun y e hl=>by rw[e]at hl;exact absurd hl (by show¬g<_;omega));obtain⟨Q2,A3⟩: ∃Q2,Hid (Q2=upd Q1 k ((Q1 k).1,.slice (some (aD g5 0)) m5 m5)):=⟨_,rfl⟩;rw[←A3.out]at E7;have HZ:=hd8 E7;have HF:Hid (∀(i:Nat) (x:Evt.Bat),(Evt.dR (k+1) st1).1[i]?=some x→x.cmd=(Q2 i).1∧a3G (w5.setCell (aD g (k*2+1)) (.slice (some (aD g5 0)) m5 m5)) (g+1) (Q2 i).2 x.evs):=by
    show∀(i:Nat) (x:Evt.Bat),(Evt.dR (k+1) st1).1[i]?=some x→_;rw[HN.out,HE.out];intro i x hx;by_cases hi:i<L.length
    ·have A9:i≠k:=by have:=A1.out;omega
     have hx:(L++[_])[i]?=some x:=hx;rw[d0M hi]at hx;rw[A3.out,aW _ _ A9,A2.out,aW _ _ A9];exact⟨(A6.out i x hx).1,(A6.out i x hx).2.off (aG w5 (aD g (k*2+1)) (.slice (some (aD g5 0)) m5 m5)) (fun j e=>by rw[e];exact d1F g)⟩
    ·have hx:(L++[(⟨(a1:Int),es⟩:Evt.Bat)])[i]?=some x:=hx;rw[d0S (by omega)]at hx;obtain rfl:i=k:=by
      have h1:=(c9H.1 hx).1;have h2:=A1.out;simp at h1;omega
     rw[A1.out,d1L]at hx;cases hx
     rw[A3.out,bM,A2.out,bM];exact⟨rfl,g5,m5,rfl,by omega,b2T V5 (aG w5 (aD g (i*2+1)) (.slice (some (aD g5 0)) m5 m5)) (fun e=>by have e:g5=g:=e;omega)⟩
   have Ac:Hid (Rd W0 (w5.setCell (aD g (k*2+1)) (.slice (some (aD g5 0)) m5 m5)) p (Evt.dR (k+1) st1).2):=by
    show Rd W0 _ p (Evt.dR (k+1) st1).2;rw[HN.out,HE.out];exact R7.out
   clear K3 E5 O5 E6 R6 O6 V5 A5 A6 E7;go_wp2_with fail;exact⟨⟨k+1,Q2,by omega,by go_num,HZ.out,HF.out,Ac.out,O7.out⟩,by simp[intOf];omega⟩
  ·obtain rfl:k=m:=by omega
   have HE:=hd8 ((ER.bats hm (Evt.uZ k st1) (c9O g) HS.out).lower A8);clear ER;go_wp2_with fail;go_ret
   exact⟨g,k,rfl,HE.out,RR,OR⟩
theorem b0G(v:Value)(r:List Nat)(w:World)(h:cU w v r):
  Calls prog 83 #[v] w fun e w'=> ∃v',e=.returned (.tuple #[v',iV (Evt.aL r:Nat)])∧gN w' w.heap.size v' (Evt.dA r)∧Bl w w':=by
 have X0:=aB8 w (.cells #[v,.bool false] 165);have V0:=aO w 165 v (.bool false);have R0:Rd w (w.alloc (.cells #[v,.bool false] 165)) w.heap.size (r,false):=⟨⟨v,V0.c0,h⟩,V0.c1,V0.fr,X0,c9C _⟩;have H1:=a7C w w.heap.size (r,false) _ R0;obtain⟨A,C,hv⟩:=h.byts.sE;have A1:Hid ((Evt.fH (r,false)).2.2=true∨(Evt.fH (r,false)).2.1≠[]→Evt.aL r=2∧Evt.dA r=[]):=fun q=>Evt.b5A q;have A2:Hid ((Evt.fH (r,false)).2.2=false→(Evt.fH (r,false)).2.1=[]→Evt.aL r=(Evt.aF (Evt.fH (r,false)).1).1∧Evt.dA r=if (Evt.aF (Evt.fH (r,false)).1).1=0 then(Evt.fH (r,false)).1 else[]):=fun q q'=>Evt.a6O q q';generalize (Evt.fH (r,false)).1=l at H1 A1 A2;generalize (Evt.fH (r,false)).2=st at H1 A1 A2;obtain⟨rr,fl⟩:=st;subst hv;clear h V0 R0;go_enter func83,ntmps83
 go_wp2_with fail;refine H1.mono ?_;rintro e w1 ⟨g,m,rfl,B1,R1,O1⟩;have B1:=B1.lower X0.size;obtain⟨vr,k0,A4⟩:=R1.c0;have k1:w1.cell? (aD w.heap.size 1)=some (.bool fl):=R1.c1;have b1:=R1.bel;obtain⟨Ar,Cr,rfl⟩:=A4.byts.sE;have A5:rr.length≤9223372036854775807:=A4.byts.len;clear H1 R1 O1 A4 X0;cases fl with
 |true=>
  have HQ:Hid (Evt.aL r=2∧Evt.dA r=[]):=A1.out (Or.inl rfl);go_wp2_with fail;go_ret2
  exact⟨_,by rw[HQ.out.1];rfl,by rw[HQ.out.2];exact eX _ _,b1⟩
 |false=>
  cases rr with
  |cons x rr=>
   have HQ:Hid (Evt.aL r=2∧Evt.dA r=[]):=A1.out (Or.inr (fun e=>by cases e));have A3:(0:Int)<((x::rr).length:Int):=by rw[d0E];omega
   have k0:w1.cell? (aD w.heap.size 0)=some (.slice Ar (x::rr).length Cr):=k0;generalize (x::rr).length=q at k0 A3 A5;go_wp2_with fail;go_ret2
   exact⟨_,by rw[HQ.out.1];rfl,by rw[HQ.out.2];exact eX _ _,b1⟩
  |nil=>
   have k0:w1.cell? (aD w.heap.size 0)=some (.slice Ar 0 Cr):=k0;have HQ:=hd8 (A2.out rfl rfl);have H2:=qV _ l w1 B1.bats;have HB:Hid (∀w',Bl w1 w'→gN w' w.heap.size (.slice (some (aD g 0)) m m) l):=fun w' hb=>B1.bE hb;clear B1;by_cases hE:(Evt.aF l).1=0
   ·rw[hE]at H2;have A0:Hid (Evt.aL r=0∧Evt.dA r=l):=⟨by rw[HQ.out.1,hE],by rw[HQ.out.2,if_pos hE]⟩;generalize (Evt.aF l).2=y at H2;clear hE HQ;go_wp2_with fail;refine H2.mono ?_;rintro e w2 ⟨rfl,b2⟩;have b3:=bt b2 ((Below.refl w2.heap.size w2).alloc (c9C _) (.cells #[iV 0,iV y] 78));clear H2;go_wp2_with fail;go_ret2
    exact⟨_,by rw[A0.out.1];rfl,by rw[A0.out.2];exact HB.out _ b3,bt b1 b3⟩
   ·have A0:Hid (Evt.aL r=(Evt.aF l).1∧Evt.dA r=[]):=⟨HQ.out.1,by rw[HQ.out.2,if_neg hE]⟩;generalize (Evt.aF l).1=x1 at H2 A0 hE;generalize (Evt.aF l).2=y at H2;have A6:((x1:Int)==0)=false:=by rw[beq_eq_false_iff_ne];omega
    have A7:((x1:Int) !=0)=true:=by rw[bne,A6];rfl
    clear hE HQ;go_wp2_with fail;refine H2.mono ?_;rintro e w2 ⟨rfl,b2⟩;have b3:=bt b2 ((Below.refl w2.heap.size w2).alloc (c9C _) (.cells #[iV x1,iV y] 78));clear H2;go_wp2_with fail;go_quiet (fail)
    go_wp2_with fail;go_ret2
    exact⟨_,by rw[A0.out.1];rfl,by rw[A0.out.2];exact eX _ _,⟨(bt b1 b3).os,(bt b1 b3).tape,(bt b1 b3).output,(bt b1 b3).size,(bt b1 b3).block⟩⟩
end Go.Proofs.YtmcaejooaaahdaaGreat
