import Derived.Test.YtmcaejooaaahdaaGreatZ31
import Derived.Test.YtmcaejooaaahdaaGreatZ34
import Derived.Maps.Own
import Derived.Maps.Views
set_option maxHeartbeats 8000000
set_option maxRecDepth 100000
namespace Go.Proofs.YtmcaejooaaahdaaGreat
open Go.Proofs.Tryz
variable {B O P:Nat} {ov vs:Value} {u:Int} {w w' wr:World}
open Go.RowKit Go.Maps
theorem KV.off{S:Nat→Prop}{W0:World}{N:Nat}{s:ByteArray}{k m:Int}(h:KV W0 w N u vs s k m)(ho:Off S w w')(hS: ∀j,S j→N+1+1<j)(hW:W0.heap.size≤N:=by exact c9C _):KV W0 w' N u vs s k m:=by
 have h0:N<w.heap.size:=World.block_lt_of_cell? _ _ h.v0;have h1:N+1<w.heap.size:=World.block_lt_of_cell? _ _ h.e0;have h2:N+1+1<w.heap.size:=World.block_lt_of_cell? _ _ h.r0;have hb: ∀j,j≤N+1+1→w'.heap[j]?=w.heap[j]?:=fun j hj=>ho.block j (by omega) (fun q=>by have:=hS j q;omega);refine⟨(World.cell?_of_block (w:=w) (a:=⟨N,0,none⟩) (hb N (by omega))).trans h.v0,(World.cell?_of_block (w:=w) (a:=⟨N,1,none⟩) (hb N (by omega))).trans h.v1,(World.cell?_of_block (w:=w) (a:=⟨N+1,0,none⟩) (hb (N+1) (by omega))).trans h.e0,(World.cell?_of_block (w:=w) (a:=⟨N+1,1,none⟩) (hb (N+1) (by omega))).trans h.e1,(World.cell?_of_block (w:=w) (a:=⟨N+1,2,none⟩) (hb (N+1) (by omega))).trans h.e2,(World.cell?_of_block (w:=w) (a:=⟨N+1+1,0,none⟩) (hb (N+1+1) (by omega))).trans h.r0,(World.cell?_of_block (w:=w) (a:=⟨N+1+1,1,none⟩) (hb (N+1+1) (by omega))).trans h.r1,fun i=>(World.frozen?_of_block (w:=w) (a:=⟨N+1+1,i,none⟩) (hb (N+1+1) (by omega))).trans (h.fr i),?_⟩;exact h.bel.trans (ho.bE (by omega) (fun j hj=>by have:=hS j hj;omega))
theorem Tryz.zeroInt(w:World):(zeroValue 3).run Tryz.prog w=.ok (iV 0) w:=by kernel_rfl
theorem Tryz.mapIntInt:Tryz.prog.underlying 150=some (.map 3 3):=by kernel_rfl
theorem b0T:Keyed prog 3:=int_keyed underlying3
def qF(k:Int):Int:=if k=2 then 1 else if k=3 then -1 else 0
theorem map7(w:World): ∃W1 W2,(Instr.mapUpdate 150 (.map (some w.heap.size)) (.int .i64 2) (.int .i64 1)).run prog (w.alloc (.map #[] 0))=.ok () W1∧(Instr.mapUpdate 150 (.map (some w.heap.size)) (.int .i64 3) (.int .i64 (-1))).run prog W1=.ok () W2∧
  (∀k:Int,1≤k→k≤4→(Instr.lookup 150 (.map (some w.heap.size)) (.int .i64 k) false).run prog W2=.ok (.int .i64 (qF k)) W2)∧Below w.heap.size w W2:=by
 have h0:(w.alloc (.map #[] 0)).ownsMap (H:=Unit) prog 3 (plainElem prog 3) w.heap.size 0 (.map []):=World.ownsMap_made _ _ _ _
 have A2: ∀k:Int,1≤k→k≤4→keyOf prog 3 (.int .i64 k)=some (.int .i64 k):=fun k h1 h2=>keyOf_int_mk underlying3 (WalkArith.wf_i64 (by omega))
 obtain⟨W1,r1,o1,g1⟩:=h0.update b0T Tryz.mapIntInt (by unfold maxLen;omega) (A2 2 (by omega) (by omega)) (plainElem_int underlying3 (a:=1) (WalkArith.wf_i64 (by omega)))
 obtain⟨W2,r2,o2,g2⟩:=o1.update b0T Tryz.mapIntInt (by unfold maxLen;omega) (A2 3 (by omega) (by omega)) (plainElem_int underlying3 (a:= -1) (WalkArith.wf_i64 (by omega)))
 have b0:Below w.heap.size w (w.alloc (.map #[] 0)):=(Below.refl _ _).alloc (c9C _) _
 have b1:=b0.grown g1 b0.size (fun x hx=>by cases hx;exact c9C _)
 have b2:=b1.grown g2 b1.size (fun x hx=>by cases hx;exact c9C _)
 refine⟨W1,W2,r1,r2,fun k k1 k4=>?_,b2⟩
 obtain⟨c,A1,A0,_⟩:=o2.lookup_int b0T Tryz.mapIntInt underlying3 (Tryz.zeroInt W2) (A2 k k1 k4)
 have A4:IsMap ((DataW.map []:DataW Unit).put (.int .i64 2) (.lit (.int .i64 1))):=by
  obtain⟨es,A3,_,_,_,hD⟩:=o1
  exact⟨_,hD⟩
 rw[A1]
 unfold qF
 by_cases h3:k=3
 ·subst h3
  rw[atKey_put_same (k:=.int .i64 3) A4 trivial]at A0
  simp at A0
  rw[←A0]
  rfl
 ·rw[atKey_put_other (fun q=>by simp at q;omega)]at A0
  by_cases h2:k=2
  ·subst h2
   rw[atKey_put_same (k:=.int .i64 2) ⟨_,rfl⟩ trivial]at A0
   simp at A0
   rw[←A0]
   rfl
  ·rw[atKey_put_other (fun q=>by simp at q;omega)]at A0
   rw[if_neg h2,if_neg h3]
   have A0:(DataW.lit (Lit.int .i64 0):DataW Unit)=.lit (.int .i64 c):=A0
   simp at A0
   rw[A0]
structure AS(w wr:World)(P O B:Nat)(u:Int)(vs:Value)(s:ByteArray)(k m:Int)(q:AcC)(ov:Value)(os:List AcC):Prop where
 kv:KV w wr w.heap.size u vs s k m
 va:pG wr P (.string q.1) (iV q.2.1) (iV q.2.2.1) (.bool q.2.2.2)
 vo:dU wr O (iV (u+1)) ov
 bu:eV wr B ov os
 lo:w.heap.size+1+1<P
 po:P<O
 ob:O<B
 bl:B≤wr.heap.size
theorem AS.bE{s:ByteArray}{k m:Int}{q:AcC}{os:List AcC}(h:AS w wr P O B u vs s k m q ov os)(hb:Bl wr w'):AS w w' P O B u vs s k m q ov os:=
 ⟨h.kv.bE hb,h.va.bE hb,h.vo.bE hb,h.bu.bE hb,h.lo,h.po,h.ob,c9E h.bl hb.size⟩
theorem AS.app{s:ByteArray}{k m:Int}{q:AcC}{os:List AcC}(h:AS w wr P O B u vs s k m q ov os)(x:AcC)(hx:x.1.size≤9223372036854775807)(hn:os.length≤1000):
  ∃v' w',(Builtin.append_ #[28,28] 28 #[ov,.slice (some (aD wr.heap.size 0)) 1 1]).run prog (wr.alloc (.cells #[.string x.1,iV x.2.1,iV x.2.2.1,.bool x.2.2.2] 93))=.ok v' w'∧dU w' O (iV (u+1)) ov∧AS w (w'.setCell (aD O 1) v') P O B u vs s k m q v' (os++[x])∧ ∀X a b c d,pG wr X a b c d→ov.ownBlock≠some X→X≠O→pG (w'.setCell (aD O 1) v') X a b c d:=by
 have bA:=aB8 wr (.cells #[.string x.1,iV x.2.1,iV x.2.2.1,.bool x.2.2.2] 93);have h1:=h.bE bA;obtain⟨i4,A4,A3⟩:=c9J.1 Tryz.infoAccount;simp only[Prod.mk.injEq]at A3;obtain⟨A5,A6,A7⟩:=A3;obtain⟨v',w',A2,A0,hg,_⟩:=run_append_own (P:=prog) _ B 28 28 93 i4 _ 4 40 underlying28 A4 A5 A6 A7 rfl (by decide) ov os.length _ h1.bu.1 (aD wr.heap.size 0) 1 1 ([x].flatMap aP) rfl (eE wr _ 93) (tW [x]) (by unfold maxLen;omega) (by omega) h1.bl;have ho:=cI hg;have A1: ∀g,ov.ownBlock=some g→B≤g:=fun g hg=>(h.bu.1.lt g hg).1;have lo:=h.lo;have po:=h.po;have ob:=h.ob;have k1:=h1.kv.off ho (fun j hj=>by have:=A1 j hj;omega);have a1:=h1.va.off ho (fun e=>by have:=A1 P e;omega);have o1:=h1.vo.off ho (fun e=>by have:=A1 O e;omega);have hs:=aG w' (aD O 1) v';refine⟨v',w',A2,o1,⟨k1.off hs (fun j hj=>by have hj:j=O:=hj;omega),a1.off hs (fun e=>by have e:P=O:=e;omega),o1.set1 v',⟨?_,fun e he=>?_⟩,lo,po,ob,?_⟩,fun X a b c d hX hne hXO=>((hX.bE bA).off ho hne).off hs hXO⟩
 ·rw[c9I,d0H];exact bC A0 hs (fun g hg e=>by have h2:=(A0.lt g hg).1;have e:g=O:=e;omega)
 ·rcases List.mem_append.1 he with q|q
  ·exact h.bu.2 e q
  ·rw[d1Z.1 q];exact hx
 ·rw[Deep.nblk_setCell];exact c9E h1.bl hg.size
theorem AS.tell{s:ByteArray}{k m:Int}{q:AcC}{os:List AcC}(h:AS w wr P O B u vs s k m q ov os)(a b:Value):bG ((wr.setCell (aD (w.heap.size+1+1) 0) a).setCell (aD (w.heap.size+1+1) 1) b) ov (os.map gG):=by
 have ho:=((Off.refl (fun j=>j=w.heap.size+1+1) wr).set (p:=⟨w.heap.size+1+1,0,none⟩) rfl a).set (p:=⟨w.heap.size+1+1,1,none⟩) rfl b;have lo:=h.lo;have po:=h.po;have ob:=h.ob
 exact eV.accs ⟨bC h.bu.1 ho (fun g hg e=>by
  have:=(h.bu.1.lt g hg).1
  omega),h.bu.2⟩
theorem AS.past{s:ByteArray}{k m:Int}{q:AcC}{os:List AcC}(h:AS w wr P O B u vs s k m q ov os):kN w.heap.size ov:=h.bu.past.mono (by
 have lo:=h.lo
 have po:=h.po
 have ob:=h.ob
 omega)
theorem AS.slice{s:ByteArray}{k m:Int}{q:AcC}{os:List AcC}(h:AS w wr P O B u vs s k m q ov os): ∃Q n C,ov=.slice Q n C:=by
 obtain⟨Q,C,e⟩:=h.bu.accs.sE;exact⟨Q,_,C,e⟩
theorem a3I(u:Int)(vs:Value)(l:List Vw.Acc)(s:ByteArray)(k m:Int)(w:World)(h:bG w vs l)(hs:s.size≤9223372036854775807):
  Calls prog 67 #[.agg #[iV u,vs],.agg #[.string s,iV k,iV m]] w fun e w'=>ApO e w' w.heap.size (Vw.apply u l ⟨nb s,k,m⟩)∧Bl w w':=by
 obtain⟨A,C,rfl⟩:=h.sE;have K0:=b8U w u (.slice A l.length C) s k m;have HA:Hid (∀w',Bl w w'→bG w' (.slice A l.length C) l):=fun w' hb=>h.bE hb;clear h;have HW:=fun w' (hb:Bl w w')=>qP u (.slice A l.length C) l w' (HA.out w' hb);have HE:=fun w'=>qJ s k m w' hs;obtain⟨x,hx⟩: ∃x,(Vw.aR u l).1=x:=⟨_,rfl⟩;obtain⟨y,hy⟩: ∃y,(Vw.aR u l).2=y:=⟨_,rfl⟩;have HX:Hid ((Vw.aR u l).1=x):=hx;unfold jU at HW;rw[hx,hy]at HW;obtain⟨z,hz⟩: ∃z,Evt.aB ⟨nb s,k,m⟩=z:=⟨_,rfl⟩;have HZ:Hid (Evt.aB ⟨nb s,k,m⟩=z):=hz;rw[hz]at HE;clear hx hy hz;go_enter func67,ntmps67
 go_wp2_with fail;generalize ((w.alloc (.cells #[iV u,.slice A l.length C] 30)).alloc (.cells #[.string s,iV k,iV m] 83)).alloc (.cells #[iV 0,nS] 30)=W0 at K0⊢;refine(HW _ K0.bel).mono ?_;rintro e w1 ⟨rfl,b1⟩;have K1:=K0.bE b1;have bF:=aB8 w1 (.cells #[iV x,iV y] 78);have VF:=aO w1 78 (iV x) (iV y);have K2:=K1.bE bF;have Ax:w.heap.size+1+1<w1.heap.size:=World.block_lt_of_cell? _ _ K1.r0;clear K0 K1 HW b1;by_cases Af:x=0
 case neg=>
  have HF:Hid (Vw.apply u l ⟨nb s,k,m⟩=(x,0,[])):=by
   show _=_;rw[Vw.rI (by rw[HX.out];exact Af),HX.out]
  have Bp:((x:Int) !=0)=true:=by rw[bne_iff_ne];omega
  clear HE Af;go_wp2_with fail;generalize w1.alloc (.cells #[iV x,iV y] 78)=w2 at K2 VF⊢;have c0:=VF.c0;have r0:=K2.r0;have r1:=K2.r1;have f0:=K2.fr 0;have f1:=K2.fr 1;have bb:=K2.bel;have Be:w1.heap.size≠w.heap.size+1+1:=by omega
  have Ap:w.heap.size+1+1≠w1.heap.size:=by omega
  clear K2 VF bF Ax;go_region
  go_wp2_with fail;refine bodyPost_ret (v:=.tuple #[.agg #[iV 0,nS],iV x]) (by simp[results,results67,go_sem,r0,r1]) rfl ⟨by rw[HF.out];exact lC _ _ x,?_⟩;exact(bb.drew.setCell (by show w.heap.size≤w.heap.size+1+1;omega) _).setCell (by show w.heap.size≤w.heap.size+1+1;omega) _
 have HX:=hd8 (HX.out.trans Af);subst Af;have Ad:Hid (KV w (w1.alloc (.cells #[iV 0,iV y] 78)) w.heap.size u (.slice A l.length C) s k m):=K2;clear K2;obtain⟨v0,v1,e0,e1,e2,_,_,_,_⟩:=Ad.out;clear VF Ax;by_cases Ag:z=0
 case neg=>
  have HF:Hid (Vw.apply u l ⟨nb s,k,m⟩=(z,0,[])):=by
   show _=_;rw[Vw.oR HX.out (by rw[HZ.out];exact Ag),HZ.out]
  have Bq:((z:Int) !=0)=true:=by rw[bne_iff_ne];omega
  clear Ag;go_wp2_with fail;refine(HE _).mono ?_;rintro e w3 ⟨rfl,b3⟩;have K3:=Ad.out.bE b3;clear HE b3 e0 e1 e2 v0 v1;have r0:=K3.r0;have r1:=K3.r1;have f0:=K3.fr 0;have f1:=K3.fr 1;have bb:=K3.bel;clear K3;go_wp2_with fail;refine bodyPost_ret (v:=.tuple #[.agg #[iV 0,nS],iV z]) (by simp[results,results67,go_sem,r0,r1]) rfl ⟨by rw[HF.out];exact lC _ _ z,?_⟩;exact(bb.setCell (by show w.heap.size≤w.heap.size+1+1;omega) _).setCell (by show w.heap.size≤w.heap.size+1+1;omega) _
 have HZ:=hd8 (HZ.out.trans Ag);subst Ag;by_cases hu:u=150
 ·have HF:Hid (Vw.apply u l ⟨nb s,k,m⟩=(5,0,[])):=Vw.rN HX.out HZ.out hu;have Bf:(150:Int)≤u:=by omega
  clear hu;go_wp2_with fail;refine(HE _).mono ?_;rintro e w3 ⟨rfl,b3⟩;have K3:=Ad.out.bE b3;clear HE b3 e0 e1 e2 v0 v1;have v0:=K3.v0;have r0:=K3.r0;have r1:=K3.r1;have f0:=K3.fr 0;have f1:=K3.fr 1;have bb:=K3.bel;clear K3;go_wp2_with fail;refine bodyPost_ret (v:=.tuple #[.agg #[iV 0,nS],iV 5]) (by simp[results,results67,go_sem,r0,r1]) rfl ⟨by rw[HF.out];exact lC _ _ 5,?_⟩;exact(bb.setCell (by show w.heap.size≤w.heap.size+1+1;omega) _).setCell (by show w.heap.size≤w.heap.size+1+1;omega) _
 have Bf: ¬(150:Int)≤u:=by
  have:=(Vw.iE HX.out).hi;omega
 have HU:=hd8 hu;clear hu;go_wp2_with fail;refine(HE _).mono ?_;rintro e w3 ⟨rfl,b3⟩;have K3:=Ad.out.bE b3;clear HE b3 e0 e1 e2 v0 v1;have v0:=K3.v0;have v1:=K3.v1;have e0:=K3.e0;have B6:=Vw.oX l (nb s);have HG:=zO u s (.slice A l.length C) l w3 (HA.out w3 K3.bel) hs;obtain⟨y,hy⟩: ∃y,Vw.may (Vw.get l (nb s)) ⟨nb s,k,m⟩=y:=⟨_,rfl⟩;have HY:=hd8 hy;obtain⟨a,ha⟩: ∃a,Vw.get l (nb s)=a:=⟨_,rfl⟩;have A7:=hd8 ha;rw[ha]at HG hy B6;clear ha;have HM: ∀sg:ByteArray,nb sg=a.name→ ∀w',Calls prog 100 #[.agg #[.string sg,iV a.sum,iV a.cnt,.bool a.opn],.agg #[.string s,iV k,iV m]] w' fun e w''=>e=.returned (.bool y)∧Bl w' w'':=fun sg hg w'=>by
  have h:=a9L sg s a.sum a.cnt k m a.opn w';rw[hg]at h;rw[←hy];exact h
 clear hy;go_wp2_with fail;refine HG.mono ?_;rintro e w5 ⟨⟨v5,rfl,sg,An,Av,rfl⟩,b5⟩;have K5:=K3.bE b5;have bA:=aB8 w5 (.cells #[.string sg,iV a.sum,iV a.cnt,.bool a.opn] 93);have VA:=iJ w5 93 (.string sg) (iV a.sum) (iV a.cnt) (.bool a.opn);have Bk:w.heap.size+1+1<w5.heap.size:=World.block_lt_of_cell? _ _ K5.r0;have K6:=K5.bE bA;have HM:=HM sg Av (w5.alloc (.cells #[.string sg,iV a.sum,iV a.cnt,.bool a.opn] 93));clear HG K3 K5 v0 v1 e0;have e0:=K6.e0;have e1:=K6.e1;have e2:=K6.e2;go_wp2_with fail;generalize w5.alloc (.cells #[.string sg,iV a.sum,iV a.cnt,.bool a.opn] 93)=w6 at HM K6 VA bA e0 e1 e2⊢;refine HM.mono ?_;rintro e w7 ⟨rfl,b7⟩;have K7:=K6.bE b7;have VA:=VA.bE b7;clear HM K6 e0 e1 e2;cases y with
 |false=>
  have HF:=hd8 (Vw.uT HX.out HZ.out HU.out HY.out);have r0:=K7.r0;have r1:=K7.r1;have f0:=K7.fr 0;have f1:=K7.fr 1;have bb:=K7.bel;clear K7;go_wp2_with fail;refine bodyPost_ret (v:=.tuple #[.agg #[iV 0,nS],iV 8]) (by simp[results,results67,go_sem,r0,r1]) rfl ⟨by rw[HF.out];exact lC _ _ 8,?_⟩;exact(bb.setCell (by show w.heap.size≤w.heap.size+1+1;omega) _).setCell (by show w.heap.size≤w.heap.size+1+1;omega) _
 |true=>
  have HF:=hd8 (Vw.xK HX.out HZ.out HU.out HY.out);obtain⟨_,k1,k4,m0,m1⟩:=Evt.eN HZ.out;have k1:1≤k:=k1;have k4:k≤4:=k4;have m0:0≤m:=m0;have m1:m≤1000000:=m1;obtain⟨a1,a2,a3,a4⟩:0≤a.cnt∧a.cnt≤150∧ -150000000≤a.sum∧a.sum≤150000000:=by
   have hr:=Vw.iE HX.out;rcases Vw.wQ l (nb s)with q|q
   ·rw[A7.out]at q;obtain⟨_,r1,r2,r3,r4⟩:=Vw.fK (hr.acc a q);have:=hr.hi;omega
   ·rw[A7.out]at q;rw[q];show 0≤(0:Int)∧(0:Int)≤150∧ -150000000≤(0:Int)∧(0:Int)≤150000000;omega
  have hw:wrap64 (a.cnt+1)=a.cnt+1:=by
   unfold wrap64;omega
  have Bc:=@run_makeMap prog;obtain⟨g0,g1,g2,g3,gf⟩:=VA;have B2:=gf 1;have B3:=gf 2;have B4:=gf 3;have e0:=K7.e0;have e1:=K7.e1;have e2:=K7.e2;have Be:w5.heap.size≠w.heap.size+1:=by omega
  have Ap:w.heap.size+1≠w5.heap.size:=by omega
  have v0:=K7.v0;have v1:=K7.v1;have n7:w5.heap.size<w7.heap.size:=World.block_lt_of_cell? _ _ g0;have At:=hd8 K7;obtain⟨X,hX⟩: ∃X,X=(w7.setCell (aD w5.heap.size 2) (iV (a.cnt+1))).setCell (aD w5.heap.size 3) (.bool (k !=4)):=⟨_,rfl⟩;have Ay:Off (fun j=>j=w5.heap.size) w7 X:=by
   rw[hX];exact((Off.refl (fun j=>j=w5.heap.size) w7).set (p:=⟨w5.heap.size,2,none⟩) rfl _).set (p:=⟨w5.heap.size,3,none⟩) rfl _
  have VX:pG X w5.heap.size (.string sg) (iV a.sum) (iV (a.cnt+1)) (.bool (k !=4)):=by
   rw[hX];exact⟨by go_simp,by go_simp,by go_simp,by go_simp,fun i=>by have:=gf i;go_simp⟩
  have KX:KV w X w.heap.size u (.slice A l.length C) s k m:=At.out.off Ay (fun j hj=>by omega);go_upto_region 14 with fail
  rw[←hX];clear g0 g1 g2 g3 gf B2 B3 B4 e0 e1 e2 v0 v1 K7 hX Ay At;obtain⟨W1,W2,Ba,Bb,Ao,bm⟩:=map7 X;have Ao:=Ao k k1 k4;have hp: -1000000≤m*qF k∧m*qF k≤1000000:=by
   unfold qF;by_cases q2:k=2
   ·rw[if_pos q2];omega
   ·rw[if_neg q2];by_cases q3:k=3
    ·rw[if_pos q3];omega
    ·rw[if_neg q3];omega
  have A9:Hid (a.sum+m*qF k=(Vw.chg a ⟨nb s,k,m⟩).sum):=by
   show a.sum+m*qF k=if k=2 then a.sum+m else if k=3 then a.sum-m else a.sum;unfold qF;by_cases q2:k=2
   ·rw[if_pos q2,if_pos q2];omega
   ·rw[if_neg q2,if_neg q2];by_cases q3:k=3
    ·rw[if_pos q3,if_pos q3];omega
    ·rw[if_neg q3,if_neg q3];omega
  have A8:Hid ((k !=4)=(Vw.chg a ⟨nb s,k,m⟩).opn):=by
   have A4:Vw.may a ⟨nb s,k,m⟩=true:=by rw[←A7.out];exact HY.out
   show(k !=4)=if k=1 then true else if k=4 then false else a.opn;rcases(show k=1∨k=2∨k=3∨k=4 by omega)with rfl|rfl|rfl|rfl
   ·rfl
   ·rw[yS (Or.inl rfl)]at A4;rw[show a.opn=true from A4];rfl
   ·rw[c3C rfl,Bool.and_eq_true]at A4;rw[show a.opn=true from A4.1];rfl
   ·rfl
  have KM:=KX.bE bm;have VM:=VX.bE bm;have Bg:wrap64 (m*qF k)=m*qF k:=by
   unfold wrap64;omega
  have Bh:wrap64 (a.sum+m*qF k)=a.sum+m*qF k:=by
   unfold wrap64;omega
  have VS:pG (W2.setCell (aD w5.heap.size 1) (iV (a.sum+m*qF k))) w5.heap.size (.string sg) (iV (a.sum+m*qF k)) (iV (a.cnt+1)) (.bool (k !=4)):=by
   obtain⟨c0,c1,c2,c3,cf⟩:=VM;exact⟨by go_simp,by go_simp,by go_simp,by go_simp,fun i=>by have:=cf i;go_simp⟩
  have KS:KV w (W2.setCell (aD w5.heap.size 1) (iV (a.sum+m*qF k))) w.heap.size u (.slice A l.length C) s k m:=KM.off (aG W2 (aD w5.heap.size 1) _) (fun j hj=>by have hj:j=w5.heap.size:=hj;omega);have x1:=VX.c1;have y2:=KX.e2;have z1:=KM.e1;have c1:=VM.c1;have B1:=VM.fr 1;clear bm;go_upto_region 15 with fail
  generalize W2.setCell (aD w5.heap.size 1) (iV (a.sum+m*qF k))=WS at VS KS⊢;rw[A9.out,A8.out,show a.cnt+1=(Vw.chg a ⟨nb s,k,m⟩).cnt from rfl]at VS;have As:Hid (Vw.put l ⟨nb s,k,m⟩=Vw.rest (nb s) (Vw.chg a ⟨nb s,k,m⟩) false l):=by
   show _=_;rw[←A7.out];exact(Vw.a8N (e:=⟨nb s,k,m⟩) (Vw.iE HX.out).srt).symm
  have Am:nb sg=(Vw.chg a ⟨nb s,k,m⟩).name:=Av;have Bn:=(Vw.iE HX.out).lo;have Aw:=(Vw.iE HX.out).len;clear x1 y2 z1 c1 B1 Bg Bh VX KX VM KM Ba Bb Ao hp A9 A8 HY A7 hw Bc;generalize Vw.chg a ⟨nb s,k,m⟩=ca at VS As Am;have Bo:wrap64 (u+1)=u+1:=by
   unfold wrap64;omega
  have s5:w5.heap.size<WS.heap.size:=World.block_lt_of_cell? _ _ VS.c0;have bO:=aB8 WS (.cells #[iV (u+1),nS] 30);have S0:AS w (WS.alloc (.cells #[iV (u+1),nS] 30)) w5.heap.size WS.heap.size (WS.heap.size+1) u (.slice A l.length C) s k m (sg,ca.sum,ca.cnt,ca.opn) nS []:=
   ⟨KS.bE bO,VS.bE bO,aO WS 30 _ _,eV.nil _ _,by omega,s5,d1F _,by simp⟩
  have v0:=KS.v0;have v1:=S0.kv.v1;go_upto_region 18 with fail
  generalize WS.alloc (.cells #[iV (u+1),nS] 30)=WO at S0 v1 bO⊢;clear v0 v1 KS VS bO;go_loopw [10,67] (fun yd z wr=> ∃(d:Bool) (i:Nat) (ov:Value) (os:List AcC),i≤l.length∧z=iV i∧yd=.bool d∧AS w wr w5.heap.size WS.heap.size (WS.heap.size+1) u (.slice A l.length C) s k m (sg,ca.sum,ca.cnt,ca.opn) ov os∧os.length≤2*i∧Hid (Vw.put l ⟨nb s,k,m⟩=os.map gG++Vw.rest (nb s) ca d (l.drop i))) (fun _ z _=>l.length-(intOf z).toNat)
  case atStart=>exact⟨false,0,_,[],c9D _,rfl,rfl,S0,c9C _,As.out⟩
  case round=>
   obtain⟨d,i,ov,os,hi,rfl,rfl,SR,Bm,HR⟩:=hrel;clear S0;obtain⟨Qv,nv,Cv,rfl⟩:=SR.slice;have AL:=HA.out wr SR.kv.bel;by_cases B8:i<l.length
   ·have B9:(i:Int)<(l.length:Int):=by omega
    obtain⟨x,hx⟩: ∃x,l[i]?=some x:=⟨l[i],c9F B8⟩;obtain⟨b,o,rfl,B7⟩:=c5E AL i x hx;obtain⟨sx,Aq,Ar,d0,d1,d2,d3⟩:=B7;have HD:=hd8 (Vw.sZ hx);have Ak:Hid (gG (sx,x.sum,x.cnt,x.opn)=x):=by
     show(⟨nb sx,_,_,_⟩:Vw.Acc)=x;rw[Ar]
    have Ac:Hid (gG (sg,ca.sum,ca.cnt,ca.opn)=ca):=by
     show(⟨nb sg,_,_,_⟩:Vw.Acc)=ca;rw[Am]
    have A5:=wW sx s;have A0:=nD sx s;rw[Ar]at A5 A0;have bX:=aB8 wr (.cells #[.string sx,iV x.sum,iV x.cnt,.bool x.opn] 93);have SX:=SR.bE bX;have VX:=iJ wr 93 (.string sx) (iV x.sum) (iV x.cnt) (.bool x.opn);have Aa:(Value.slice Qv nv Cv).ownBlock≠some wr.heap.size:=fun e=>by
     have:=(SR.bu.1.lt _ e).2;omega
    have Ae:(wr.alloc (.cells #[.string sx,iV x.sum,iV x.cnt,.bool x.opn] 93)).heap.size=wr.heap.size+1:=by simp
    have Bj:=SR.bl;have Au:wr.heap.size≠WS.heap.size:=by omega
    clear hx Ar SR;obtain⟨L,hL⟩: ∃L,Vw.lt x.name (nb s)=L:=⟨_,rfl⟩;rw[hL]at A5;by_cases hq:x.name=nb s
    ·have Ab:(sx.toList==s.toList)=true:=by
      rw[A0];simpa using hq
     have B5:L=false:=by rw[←hL,hq,Vw.lt_irrefl]
     subst B5;cases d with
     |true=>
      have HN:Hid (AS w (wr.alloc (.cells #[.string sx,iV x.sum,iV x.cnt,.bool x.opn] 93)) w5.heap.size WS.heap.size (WS.heap.size+1) u (.slice (some (aD b o)) l.length C) s k m (sg,ca.sum,ca.cnt,ca.opn) (.slice Qv nv Cv) os∧Vw.put l ⟨nb s,k,m⟩=os.map gG++Vw.rest (nb s) ca true (l.drop (i+1))):=⟨SX,by
       rw[HR.out,HD.out,Vw.rest,if_neg (fun q=>by cases q.1),if_pos hq]
       rfl⟩
      have y0:=SX.kv.e0;obtain⟨g0,_,_,_,_⟩:=VX;clear SX hL hq A0;go_wp2_with fail;exact⟨⟨true,i+1,_,_,by omega,by go_num,rfl,HN.out.1,by omega,HN.out.2⟩,by simp[intOf];omega⟩
     |false=>
      obtain⟨v1,A6,A2,A3,S1,A1⟩:=SX.app (sg,ca.sum,ca.cnt,ca.opn) An (by omega);have Al:=A1 _ _ _ _ _ VX Aa Au
      have HN:Hid (AS w (A6.setCell (aD WS.heap.size 1) v1) w5.heap.size WS.heap.size (WS.heap.size+1) u (.slice (some (aD b o)) l.length C) s k m (sg,ca.sum,ca.cnt,ca.opn) v1 (os++[(sg,ca.sum,ca.cnt,ca.opn)])∧Vw.put l ⟨nb s,k,m⟩=(os++[(sg,ca.sum,ca.cnt,ca.opn)]).map gG++Vw.rest (nb s) ca true (l.drop (i+1))):=⟨S1,by
       rw[HR.out,HD.out,Vw.rest,if_pos ⟨rfl,hL⟩,if_pos hq,hL,c9U];show _=(os.map gG++[gG (sg,ca.sum,ca.cnt,ca.opn)])++_;rw[Ac.out,c9X]
       rfl⟩
      rw[Ae]at A2;have y0:=SX.kv.e0;have y1:=S1.kv.e0;obtain⟨g0,_,_,_,_⟩:=VX;obtain⟨h0,_,_,_,_⟩:=Al;obtain⟨a0,a1,a2,a3,_⟩:=SX.va;have o1:=SX.vo.c1;obtain⟨p0,p1,pf⟩:=A3;have Ah:=pf 1;obtain⟨Q1,n1,C1,rfl⟩:=S1.slice;clear SX S1 hL hq A1 pf A0;go_wp2_with (at_builtin;refine Lib.wpList_append_run _ rfl _ _ _ _ rfl _ _ rfl rfl _ _ A2 ?_);exact⟨⟨true,i+1,_,_,by omega,by go_num,rfl,HN.out.1,by simp;omega,HN.out.2⟩,by simp[intOf];omega⟩
    ·have Ab:(sx.toList==s.toList)=false:=by
      rw[A0];simpa using hq
     cases d with
     |true=>
      obtain⟨v1,A6,A2,A3,S1,A1⟩:=SX.app (sx,x.sum,x.cnt,x.opn) Aq (by omega)
      have HN:Hid (AS w (A6.setCell (aD WS.heap.size 1) v1) w5.heap.size WS.heap.size (WS.heap.size+1) u (.slice (some (aD b o)) l.length C) s k m (sg,ca.sum,ca.cnt,ca.opn) v1 (os++[(sx,x.sum,x.cnt,x.opn)])∧Vw.put l ⟨nb s,k,m⟩=(os++[(sx,x.sum,x.cnt,x.opn)]).map gG++Vw.rest (nb s) ca true (l.drop (i+1))):=⟨S1,by
       rw[HR.out,HD.out,Vw.rest,if_neg (fun q=>by cases q.1),if_neg hq,hL,List.map_append];show _=(os.map gG++[gG (sx,x.sum,x.cnt,x.opn)])++_;rw[Ak.out,c9X]
       rfl⟩
      rw[Ae]at A2;have y0:=SX.kv.e0;obtain⟨g0,g1,g2,g3,_⟩:=VX;have o1:=SX.vo.c1;obtain⟨p0,p1,pf⟩:=A3;have Ah:=pf 1;obtain⟨Q1,n1,C1,rfl⟩:=S1.slice;clear SX S1 hL hq A1 pf A0;go_wp2_with (at_builtin;refine Lib.wpList_append_run _ rfl _ _ _ _ rfl _ _ rfl rfl _ _ A2 ?_);exact⟨⟨true,i+1,_,_,by omega,by go_num,rfl,HN.out.1,by simp;omega,HN.out.2⟩,by simp[intOf];omega⟩
     |false=>
      cases L with
      |true=>
       obtain⟨v1,A6,A2,A3,S1,A1⟩:=SX.app (sx,x.sum,x.cnt,x.opn) Aq (by omega)
       have HN:Hid (AS w (A6.setCell (aD WS.heap.size 1) v1) w5.heap.size WS.heap.size (WS.heap.size+1) u (.slice (some (aD b o)) l.length C) s k m (sg,ca.sum,ca.cnt,ca.opn) v1 (os++[(sx,x.sum,x.cnt,x.opn)])∧Vw.put l ⟨nb s,k,m⟩=(os++[(sx,x.sum,x.cnt,x.opn)]).map gG++Vw.rest (nb s) ca false (l.drop (i+1))):=⟨S1,by
        rw[HR.out,HD.out,Vw.rest,if_neg (fun q=>by rw[hL]at q;cases q.2),if_neg hq,hL,List.map_append];show _=(os.map gG++[gG (sx,x.sum,x.cnt,x.opn)])++_;rw[Ak.out,c9X]
        rfl⟩
       rw[Ae]at A2;have y0:=SX.kv.e0;obtain⟨g0,g1,g2,g3,_⟩:=VX;have o1:=SX.vo.c1;obtain⟨p0,p1,pf⟩:=A3;have Ah:=pf 1;obtain⟨Q1,n1,C1,rfl⟩:=S1.slice;clear SX S1 hL hq A1 pf A0;go_wp2_with (at_builtin;refine Lib.wpList_append_run _ rfl _ _ _ _ rfl _ _ rfl rfl _ _ A2 ?_);exact⟨⟨false,i+1,_,_,by omega,by go_num,rfl,HN.out.1,by simp;omega,HN.out.2⟩,by simp[intOf];omega⟩
      |false=>
       obtain⟨v1,A6,A2,A3,S1,A1⟩:=SX.app (sg,ca.sum,ca.cnt,ca.opn) An (by omega);have Al:=A1 _ _ _ _ _ VX Aa Au;obtain⟨v2,Bi,Az,B0,S2,_⟩:=S1.app (sx,x.sum,x.cnt,x.opn) Aq (by simp;omega)
       have HN:Hid (AS w (Bi.setCell (aD WS.heap.size 1) v2) w5.heap.size WS.heap.size (WS.heap.size+1) u (.slice (some (aD b o)) l.length C) s k m (sg,ca.sum,ca.cnt,ca.opn) v2 (os++[(sg,ca.sum,ca.cnt,ca.opn)]++[(sx,x.sum,x.cnt,x.opn)])∧Vw.put l ⟨nb s,k,m⟩=(os++[(sg,ca.sum,ca.cnt,ca.opn)]++[(sx,x.sum,x.cnt,x.opn)]).map gG++Vw.rest (nb s) ca true (l.drop (i+1))):=⟨S2,by
        rw[HR.out,HD.out,Vw.rest,if_pos ⟨rfl,hL⟩,if_neg hq,hL,c9U,c9U];show _=(os.map gG++[gG (sg,ca.sum,ca.cnt,ca.opn)]++[gG (sx,x.sum,x.cnt,x.opn)])++_;rw[Ac.out,Ak.out,c9X,c9X]
        rfl⟩
       rw[Ae]at A2;rw[Deep.nblk_setCell]at Az;have y0:=SX.kv.e0;have y1:=S1.kv.e0;obtain⟨g0,_,_,_,_⟩:=VX;obtain⟨h0,h1,h2,h3,_⟩:=Al;obtain⟨a0,a1,a2,a3,_⟩:=SX.va;have o1:=SX.vo.c1;have o2:=S1.vo.c1;obtain⟨p0,p1,pf⟩:=A3;have Ah:=pf 1;obtain⟨q0,q1,qf⟩:=B0;have Bs:=qf 1;obtain⟨Q1,n1,C1,rfl⟩:=S1.slice;obtain⟨Q2,n2,C2,rfl⟩:=S2.slice;clear SX S1 S2 hL hq A1 pf qf A0;go_wp2_with (first|(at_builtin;refine Lib.wpList_append_run _ rfl _ _ _ _ rfl _ _ rfl rfl _ _ A2 ?_)|(at_builtin;refine Lib.wpList_append_run _ rfl _ _ _ _ rfl _ _ rfl rfl _ _ Az ?_));exact⟨⟨true,i+1,_,_,by omega,by go_num,rfl,HN.out.1,by simp;omega,HN.out.2⟩,by simp[intOf];omega⟩
   ·obtain rfl:i=l.length:=by omega
    rw[d0T]at HR;cases d with
    |true=>
     have Aj:Hid (os.map gG=Vw.put l ⟨nb s,k,m⟩):=by
      show _=_;rw[HR.out];simp[Vw.rest]
     have HT:=hd8 fun a b=>SR.tell a b;have Ai:=hd8 SR.past;have bb:=SR.kv.bel;have r0:=SR.kv.r0;have r1:=SR.kv.r1;have f0:=SR.kv.fr 0;have f1:=SR.kv.fr 1;have o0:=SR.vo.c0;have o1:=SR.vo.c1;clear SR AL;go_wp2_with fail;refine bodyPost_ret (v:=.tuple #[.agg #[iV (u+1),.slice Qv nv Cv],iV 0]) (by simp[results,results67,go_sem,r0,r1]) rfl ⟨by rw[HF.out,←Aj.out];exact⟨_,rfl,HT.out _ _,Ai.out⟩,?_⟩;exact(bb.setCell (by show w.heap.size≤w.heap.size+1+1;omega) _).setCell (by show w.heap.size≤w.heap.size+1+1;omega) _
    |false=>
     have Ac:Hid (gG (sg,ca.sum,ca.cnt,ca.opn)=ca):=by
      show(⟨nb sg,_,_,_⟩:Vw.Acc)=ca;rw[Am]
     obtain⟨v1,A6,A2,A3,S1,_⟩:=SR.app (sg,ca.sum,ca.cnt,ca.opn) An (by omega);obtain⟨Q1,n1,C1,rfl⟩:=S1.slice;have Aj:Hid ((os++[(sg,ca.sum,ca.cnt,ca.opn)]).map gG=Vw.put l ⟨nb s,k,m⟩):=by
      show _=_;rw[HR.out,c9U];show os.map gG++[gG (sg,ca.sum,ca.cnt,ca.opn)]=_;rw[Ac.out];simp[Vw.rest]
     have HT:=hd8 fun a b=>S1.tell a b;have Ai:=hd8 S1.past;have bb:=S1.kv.bel;have r0:=S1.kv.r0;have r1:=S1.kv.r1;have f0:=S1.kv.fr 0;have f1:=S1.kv.fr 1;have o0:=S1.vo.c0;have o1:=S1.vo.c1;have Br:=SR.vo.c1;obtain⟨a0,a1,a2,a3,_⟩:=SR.va;obtain⟨p0,p1,pf⟩:=A3;have Ah:=pf 1;clear SR AL S1 pf;go_wp2_with (at_builtin;refine Lib.wpList_append_run _ rfl _ _ _ _ rfl _ _ rfl rfl _ _ A2 ?_);refine bodyPost_ret (v:=.tuple #[.agg #[iV (u+1),.slice Q1 n1 C1],iV 0]) (by simp[results,results67,go_sem,r0,r1]) rfl ⟨by rw[HF.out,←Aj.out];exact⟨_,rfl,HT.out _ _,Ai.out⟩,?_⟩;exact(bb.setCell (by show w.heap.size≤w.heap.size+1+1;omega) _).setCell (by show w.heap.size≤w.heap.size+1+1;omega) _
end Go.Proofs.YtmcaejooaaahdaaGreat
