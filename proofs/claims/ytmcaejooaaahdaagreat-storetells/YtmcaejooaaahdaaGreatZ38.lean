import Derived.Test.YtmcaejooaaahdaaGreatZ35
import Derived.Test.YtmcaejooaaahdaaGreatZ37
set_option maxHeartbeats 8000000
set_option maxRecDepth 100000
namespace Go.Proofs.YtmcaejooaaahdaaGreat
open Go.Proofs.Tryz
variable {N k:Nat} {S:Nat→Prop} {dc st:List Value} {t:TypeId} {u:Int} {v v':Value} {w w' w1 w2 wr:World}
open Go.RowKit
def FoR(e:Ending)(w':World)(N:Nat)(vs:Value)(l:List Vw.Acc)(r:(Nat×Nat)×Int×List Vw.Acc):Prop:= ∃v,e=.returned (.tuple #[.agg #[iV r.2.1,v],jU r.1])∧bG w' v r.2.2∧(kN N v∨(v=vs∧r.2.2=l))
theorem b3W(w':World)(N:Nat)(vs:Value)(l:List Vw.Acc)(x y:Nat):FoR (.returned (.tuple #[.agg #[iV 0,nS],.agg #[iV x,iV y]])) w' N vs l ((x,y),0,[]):=⟨_,rfl,bG.nil w',Or.inl (xY N)⟩
def Far(N:Nat)(v:Value)(l:List Vw.Acc):Prop:=l≠[]→ ∀g,v.ownBlock=some g→g<N∨N+1+1<g
theorem kN.far(h:kN (N+1+1+1) v)(l:List Vw.Acc):Far N v l:=fun _ g hg=>Or.inr (h g hg)
theorem c7J{l:List Vw.Acc}(h:bG w v l):Far w.heap.size v l:=fun hl g hg=>by
 obtain⟨b,o,cap,rfl,_,_,h3⟩:=h.some (List.length_pos_iff.2 hl)
 obtain⟨s,_,_,c0,_⟩:=h3 0 _ (c9F (List.length_pos_iff.2 hl))
 have hp:b<w.heap.size:=World.block_lt_of_cell? _ _ c0
 have e:some b=some g:=hg
 cases e
 exact Or.inl hp
theorem bG.far{l:List Vw.Acc}(h:bG w v l)(hf:Far N v l)(ho:Off S w w')(hS: ∀j,S j→N≤j∧j≤N+1+1):bG w' v l:=by
 by_cases hl:l=[]
 ·subst hl;obtain⟨A,A0,hv,h1,h2,_⟩:=h;exact⟨A,A0,hv,h1,h2,fun _ _ he=>(by cases he)⟩
 ·exact h.off ho (fun g hg q=>by
   have:=hS g q;have:=hf hl g hg
   omega)
theorem FS.put'{u':Int}{l l':List Vw.Acc}(h:FS w wr u v l)(ha:bG wr v' l')(hp:Far w.heap.size v' l'):FS w ((wr.setCell (aD w.heap.size 0) (iV u')).setCell (aD w.heap.size 1) v') u' v' l':=by
 have ho:=pO wr w.heap.size (iV u') v';exact⟨h.vv.set2 _ _,h.vr.off ho (by omega),h.vf.off ho (by omega),ha.far hp ho (fun j hj=>by omega),(h.bel.setCell (c9C _) _).setCell (c9C _) _⟩
theorem FS.told'{l:List Vw.Acc}(h:FS w wr u v l)(hp:Far w.heap.size v l)(a b c d:Value):bG ((((wr.setCell (aD (w.heap.size+1) 0) a).setCell (aD (w.heap.size+1) 1) b).setCell (aD (w.heap.size+1+1) 0) c).setCell (aD (w.heap.size+1+1) 1) d) v l:=
 (h.ac.far hp (pO wr (w.heap.size+1) a b) (fun j hj=>by omega)).far hp (pO _ (w.heap.size+1+1) c d) (fun j hj=>by omega)
theorem vL(u:Int)(vs ve:Value)(l:List Vw.Acc)(es:List Evt.Ev)(w:World)(h:bG w vs l)(he:Evs w ve es):
  Calls prog 34 #[.agg #[iV u,vs],ve] w fun e w'=>FoR e w' w.heap.size vs l (Vw.cD u l es)∧Bl w w':=by
 obtain⟨A,C,rfl⟩:=h.sE;have Ar:es.length≤9223372036854775807:=by
  obtain⟨_,_,_,q1,q2,_⟩:=he;unfold maxLen at q2;omega
 obtain⟨E,D,rfl,_,_,hE⟩:=he;have HA:Hid (∀w',Bl w w'→bG w' (.slice A l.length C) l):=fun w' hb=>h.bE hb;have F0:=c7J h;have Ag:=hd8 hE;clear h hE;have h1:=aB8 w (.cells #[iV u,.slice A l.length C] 30);have h2:=h1.alloc h1.size (.cells #[iV 0,nS] 30);have h3:=h2.alloc h2.size (.cells #[iV 0,iV 0] 78);have A9:=aB8 (w.alloc (.cells #[iV u,.slice A l.length C] 30)) (.cells #[iV 0,nS] 30);have A7:=aB8 ((w.alloc (.cells #[iV u,.slice A l.length C] 30)).alloc (.cells #[iV 0,nS] 30)) (.cells #[iV 0,iV 0] 78);have VV:=((aO w 30 (iV u) (.slice A l.length C)).bE A9).bE A7;have VR:=(aO (w.alloc (.cells #[iV u,.slice A l.length C] 30)) 30 (iV 0) nS).bE A7;have VF:=aO ((w.alloc (.cells #[iV u,.slice A l.length C] 30)).alloc (.cells #[iV 0,nS] 30)) 78 (iV 0) (iV 0);have z1:(w.alloc (.cells #[iV u,.slice A l.length C] 30)).heap.size=w.heap.size+1:=by simp
 have z2:((w.alloc (.cells #[iV u,.slice A l.length C] 30)).alloc (.cells #[iV 0,nS] 30)).heap.size=w.heap.size+1+1:=by simp
 rw[z1]at VR;rw[z2]at VF;clear z1 z2 A9 A7 h1 h2;have HW:=fun w' (hb:Bl w w')=>qP u (.slice A l.length C) l w' (HA.out w' hb);obtain⟨x,hx⟩: ∃x,(Vw.aR u l).1=x:=⟨_,rfl⟩;obtain⟨y,hy⟩: ∃y,(Vw.aR u l).2=y:=⟨_,rfl⟩;have HX:=hd8 hx;unfold jU at HW;rw[hx,hy]at HW;clear hx hy;go_enter func34,ntmps34
 go_wp2_with fail;generalize ((w.alloc (.cells #[iV u,.slice A l.length C] 30)).alloc (.cells #[iV 0,nS] 30)).alloc (.cells #[iV 0,iV 0] 78)=W0 at h3 VV VR VF⊢;refine(HW _ h3).mono ?_;rintro e w1 ⟨rfl,b1⟩;have bF:=aB8 w1 (.cells #[iV x,iV y] 78);have VX:=aO w1 78 (iV x) (iV y);have VV:=(VV.bE b1).bE bF;have A6:=VR.bE b1;have VR:=A6.bE bF;have A3:=VF.bE b1;have VF:=A3.bE bF;have Ab:w.heap.size+1<w1.heap.size:=World.block_lt_of_cell? _ _ A6.c0;have Ac:w.heap.size+1+1<w1.heap.size:=World.block_lt_of_cell? _ _ A3.c0;have h4:=bt (bt h3 b1) bF;clear HW A6 A3 h3 b1;by_cases A0:x=0
 case neg=>
  have HF:Hid (Vw.cD u l es=((x,0),0,[])):=by
   show _=_;rw[Vw.sC (by rw[HX.out];exact A0),HX.out]
  have Af:((x:Int) !=0)=true:=by rw[bne_iff_ne];omega
  clear A0;go_wp2_with fail;generalize w1.alloc (.cells #[iV x,iV y] 78)=w2 at VV VR VF VX h4⊢;obtain⟨c0,_,_⟩:=VX;obtain⟨r0,r1,fr⟩:=VR;obtain⟨q0,q1,fq⟩:=VF;have f0:=fr 0;have f1:=fr 1;have f2:=fq 0;have f3:=fq 1;have As:w1.heap.size≠w.heap.size+1+1:=by omega
  have Am:w.heap.size+1+1≠w1.heap.size:=by omega
  have An:w1.heap.size≠w.heap.size+1:=by omega
  have Ao:w.heap.size+1≠w1.heap.size:=by omega
  clear bF Ab Ac VV fr fq;go_region
  go_wp2_with fail;refine bodyPost_ret (v:=.tuple #[.agg #[iV 0,nS],.agg #[iV x,iV 0]]) (by simp[results,results34,go_sem,r0,r1,q0,q1]) rfl ⟨by rw[HF.out];exact b3W _ _ _ _ x 0,?_⟩;exact((((h4.setCell (by show w.heap.size≤w.heap.size+1;omega) _).setCell (by show w.heap.size≤w.heap.size+1;omega) _).setCell (by show w.heap.size≤w.heap.size+1+1;omega) _).setCell (by show w.heap.size≤w.heap.size+1+1;omega) _).drew
 have HX:=hd8 (HX.out.trans A0);subst A0;have Ah:Hid (Vw.cD u l es=Vw.fB u l 0 es):=Vw.pW HX.out;have h4:Bl w (w1.alloc (.cells #[iV 0,iV y] 78)):=h4;have S3:FS w (w1.alloc (.cells #[iV 0,iV y] 78)) u (.slice A l.length C) l:=⟨VV,VR,VF,HA.out _ h4,h4⟩;clear VX bF Ab Ac VV VR VF h4;go_wp2_with fail;generalize w1.alloc (.cells #[iV 0,iV y] 78)=w2 at S3⊢;go_loopw [22] (fun x wr=> ∃(k:Nat) (uk:Int) (vk:Value) (lk:List Vw.Acc),k≤es.length∧x=iV k∧FS w wr uk vk lk∧(Far w.heap.size vk lk∧Hid (kN w.heap.size vk∨(vk=.slice A l.length C∧lk=l)))∧Hid (Vw.cD u l es=Vw.fB uk lk k (es.drop k))) (fun x _=>es.length-(intOf x).toNat)
 case atStart=>exact⟨0,u,_,l,c9D _,rfl,S3,⟨F0,Or.inr ⟨rfl,rfl⟩⟩,Ah.out⟩
 case round=>
  obtain⟨k,uk,vk,lk,hk,rfl,SK,⟨PK,PV⟩,HK⟩:=hrel;clear S3 F0;obtain⟨Ak,Ck,rfl⟩:=SK.ac.sE;by_cases Aj:k<es.length
  ·have Al:(k:Int)<(es.length:Int):=by omega
   obtain⟨ev,A8⟩: ∃ev,es[k]?=some ev:=⟨es[k],c9F Aj⟩;obtain⟨b,o,rfl,Aa⟩:=Ag.out k ev A8;obtain⟨s,Ap,Ae,d0,d1,d2⟩:=Aa.bE SK.bel;have HD:=hd8 (a7Z A8);obtain⟨wo,rfl⟩: ∃y,y=wr:=⟨wr,rfl⟩;have bA:=aB8 wo (.cells #[.string s,iV ev.kind,iV ev.num] 83);have SA:=SK.bE bA;have VE:=iF wo (.string s) (iV ev.kind) (iV ev.num);have A2:=a3I uk (.slice Ak lk.length Ck) lk s ev.kind ev.num _ SA.ac Ap;rw[Ae]at A2;have Ad:=SK.room;have A1:(⟨ev.name,ev.kind,ev.num⟩:Evt.Ev)=ev:=rfl;rw[A1]at A2;clear A8 Ae Aa SK A1;have v0:=SA.vv.c0;have v1:=SA.vv.c1;obtain⟨g0,g1,g2⟩:=VE;go_wp2_with fail;refine A2.mono ?_;rintro e w4 ⟨⟨v4,rfl,A4,P4⟩,b4⟩;have S4:=SA.bE b4;have P4:kN (w.heap.size+1+1+1) v4:=P4.mono (by have:=bA.size;omega);have HN:Hid (Vw.cD u l es=if (Vw.apply uk lk ev).1=0 then Vw.fB (Vw.apply uk lk ev).2.1 (Vw.apply uk lk ev).2.2 (k+1) (es.drop (k+1))else(((Vw.apply uk lk ev).1,k),0,[])):=by
    show _=_;rw[HK.out,HD.out,Vw.fB]
   obtain⟨Q4,C4,rfl⟩:=A4.sE;generalize (Vw.apply uk lk ev).2.1=u' at HN;generalize (Vw.apply uk lk ev).2.2=l' at HN A4 P4;generalize (Vw.apply uk lk ev).1=x' at HN;clear A2 SA v0 v1 g0 g1 g2 b4 bA d0 d1 d2;have bV:=aB8 w4 (.cells #[iV u',.slice Q4 l'.length C4] 30);have S5:=S4.bE bV;have A5:=A4.bE bV;have VN:=aO w4 30 (iV u') (.slice Q4 l'.length C4);have Aq:=S4.room;clear S4 A4;by_cases A0:x'=0
   ·have HN:Hid (Vw.cD u l es=Vw.fB u' l' (k+1) (es.drop (k+1))):=by
     show _=_;rw[HN.out,if_pos A0]
    have Af:((x':Int) !=0)=false:=by rw[bne_eq_false_iff_eq];omega
    have Ai:Hid (FS w (((w4.alloc (.cells #[iV u',.slice Q4 l'.length C4] 30)).setCell (aD w.heap.size 0) (iV u')).setCell (aD w.heap.size 1) (.slice Q4 l'.length C4)) u' (.slice Q4 l'.length C4) l'):=S5.put' A5 (P4.far _);obtain⟨c0,c1,fr⟩:=S5.vv;have f0:=fr 0;have f1:=fr 1;obtain⟨n0,n1,_⟩:=VN;clear S5 A5 A0;go_wp2_with fail;exact⟨⟨k+1,u',_,l',by omega,by go_num,Ai.out,⟨P4.far _,Or.inl (P4.mono (by omega))⟩,HN.out⟩,by simp[intOf];omega⟩
   ·have HN:Hid (Vw.cD u l es=((x',k),0,[])):=by
     show _=_;rw[HN.out,if_neg A0]
    have Af:((x':Int) !=0)=true:=by rw[bne_iff_ne];omega
    have bb:=S5.bel;obtain⟨c0,c1,fr⟩:=S5.vr;have f0:=fr 0;have f1:=fr 1;obtain⟨q0,q1,fq⟩:=S5.vf;have f2:=fq 0;have f3:=fq 1;clear S5 A5 A0 VN;go_wp2_with fail;refine bodyPost_ret (v:=.tuple #[.agg #[iV 0,nS],.agg #[iV x',iV k]]) (by simp[results,results34,go_sem,c0,c1,q0,q1]) rfl ⟨by rw[HN.out];exact b3W _ _ _ _ x' k,?_⟩;exact nN bb _ _ _ _
  ·obtain rfl:k=es.length:=by omega
   have HN:Hid (Vw.cD u l es=((0,0),uk,lk)):=by
    show _=_;rw[HK.out,d0T];rfl
   have HT:=SK.told' PK (iV uk) (.slice Ak lk.length Ck) (iV 0) (iV 0);have HT:=hd8 HT;have bb:=SK.bel;have v0:=SK.vv.c0;have v1:=SK.vv.c1;obtain⟨c0,c1,fr⟩:=SK.vr;have f0:=fr 0;have f1:=fr 1;obtain⟨q0,q1,fq⟩:=SK.vf;have f2:=fq 0;have f3:=fq 1;clear SK;go_wp2_with fail;refine bodyPost_ret (v:=.tuple #[.agg #[iV uk,.slice Ak lk.length Ck],.agg #[iV 0,iV 0]]) (by simp[results,results34,go_sem,c0,c1,q0,q1]) rfl ⟨by rw[HN.out];exact⟨_,rfl,HT.out,PV.out⟩,?_⟩;exact nN bb _ _ _ _
structure PJ(w w1:World)(st dc:List Value):Prop where
 st:aV w1 w.heap.size 32 st
 dc:aV w1 (w.heap.size+1) 49 dc
 x2:tV w1 (w.heap.size+1+1) 32 jE
 x3:tV w1 (w.heap.size+1+1+1) 42 nC
 bel:Bl w w1
theorem PJ.bE(h:PJ w w1 st dc)(hb:Bl w1 w2):PJ w w2 st dc:=⟨h.st.bE hb,h.dc.bE hb,h.x2.bE hb,h.x3.bE hb,bt h.bel hb⟩
theorem b9G(w:World)(st dc:Array Value):PJ w ((((w.alloc (.cells st 32)).alloc (.cells dc 49)).alloc (.cells jE 32)).alloc (.cells nC 42)) st.toList dc.toList:=by
 have bA: ∀(w':World) o,Bl w' (w'.alloc o):=fun w' o=>(Below.refl _ _).alloc (c9C _) o;have hs: ∀(w':World) o,(w'.alloc o).heap.size=w'.heap.size+1:=fun w' o=>d2K _;have V1:=(((aC w st 32).bE (bA _ (.cells dc 49))).bE (bA _ (.cells jE 32))).bE (bA _ (.cells nC 42));have V2:=((aC (w.alloc (.cells st 32)) dc 49).bE (bA _ (.cells jE 32))).bE (bA _ (.cells nC 42));have X2:=(lY ((w.alloc (.cells st 32)).alloc (.cells dc 49)) jE 32).bE (bA _ (.cells nC 42));have X3:=lY (((w.alloc (.cells st 32)).alloc (.cells dc 49)).alloc (.cells jE 32)) nC 42;simp only[hs]at V2 X2 X3;exact⟨V1,V2,X2,X3,bt (bt (bt (bA w _) (bA _ _)) (bA _ _)) (bA _ _)⟩
theorem aV.c9{P:Nat}{a0 a1 a2 a3 a4 a5 a6 a7 a8:Value}(h:aV w P t [a0,a1,a2,a3,a4,a5,a6,a7,a8]):w.cell? (aD P 0)=some a0∧w.cell? (aD P 1)=some a1∧w.cell? (aD P 2)=some a2∧w.cell? (aD P 3)=some a3∧w.cell? (aD P 4)=some a4∧w.cell? (aD P 5)=some a5∧w.cell? (aD P 6)=some a6∧w.cell? (aD P 7)=some a7∧w.cell? (aD P 8)=some a8:=⟨h.q0,h.q1,h.q2,h.q3,h.q4,h.q5,h.q6,h.q7,h.q8⟩
theorem PJ.res(h:PJ w w1 st dc):w1.cell? (aD (w.heap.size+1+1) 0)=some (iV 0)∧w1.cell? (aD (w.heap.size+1+1) 1)=some (iV 0)∧w1.cell? (aD (w.heap.size+1+1) 2)=some (iV 0)∧w1.cell? (aD (w.heap.size+1+1) 3)=some nS∧w1.cell? (aD (w.heap.size+1+1) 4)=some (iV 0)∧w1.cell? (aD (w.heap.size+1+1) 5)=some nS∧w1.cell? (aD (w.heap.size+1+1) 6)=some nS∧w1.cell? (aD (w.heap.size+1+1) 7)=some (iV 0)∧w1.cell? (aD (w.heap.size+1+1) 8)=some nS∧w1.frozen? (aD (w.heap.size+1+1) 0)=false∧w1.frozen? (aD (w.heap.size+1+1) 1)=false∧w1.frozen? (aD (w.heap.size+1+1) 2)=false∧w1.frozen? (aD (w.heap.size+1+1) 3)=false∧w1.frozen? (aD (w.heap.size+1+1) 4)=false∧w1.frozen? (aD (w.heap.size+1+1) 5)=false∧w1.frozen? (aD (w.heap.size+1+1) 6)=false∧w1.frozen? (aD (w.heap.size+1+1) 7)=false∧w1.frozen? (aD (w.heap.size+1+1) 8)=false∧w1.cell? (aD (w.heap.size+1+1+1) 0)=some (iV 0)∧w1.cell? (aD (w.heap.size+1+1+1) 1)=some (iV 0)∧w1.cell? (aD (w.heap.size+1+1+1) 2)=some nS∧w1.cell? (aD (w.heap.size+1+1+1) 3)=some (iV 0)∧w1.cell? (aD (w.heap.size+1+1+1) 4)=some nS∧w1.frozen? (aD (w.heap.size+1+1+1) 0)=false∧w1.frozen? (aD (w.heap.size+1+1+1) 1)=false∧w1.frozen? (aD (w.heap.size+1+1+1) 2)=false∧w1.frozen? (aD (w.heap.size+1+1+1) 3)=false∧w1.frozen? (aD (w.heap.size+1+1+1) 4)=false:=
 ⟨h.x2.var.q0,h.x2.var.q1,h.x2.var.q2,h.x2.var.q3,h.x2.var.q4,h.x2.var.q5,h.x2.var.q6,h.x2.var.q7,h.x2.var.q8,h.x2.var.frozen 0,h.x2.var.frozen 1,h.x2.var.frozen 2,h.x2.var.frozen 3,h.x2.var.frozen 4,h.x2.var.frozen 5,h.x2.var.frozen 6,h.x2.var.frozen 7,h.x2.var.frozen 8,h.x3.var.q0,h.x3.var.q1,h.x3.var.q2,h.x3.var.q3,h.x3.var.q4,h.x3.var.frozen 0,h.x3.var.frozen 1,h.x3.var.frozen 2,h.x3.var.frozen 3,h.x3.var.frozen 4⟩
theorem Off.down{T:Nat→Prop}(hb:Bl w w1)(ho:Off S w1 w2)(h: ∀k,k<w.heap.size→S k→T k):Off T w w2:=
 ⟨ho.os.trans hb.os,ho.tape.trans hb.tape,ho.output.trans hb.output,c9E hb.size ho.size,fun k hk hn=>(ho.block k (c9P hk hb.size) (fun z=>hn (h k hk z))).trans (hb.block k hk)⟩
abbrev stL(c:Sto.Cfg)(vd:Value)(g:Int)(vt vs:Value)(u:Int)(va:Value):List Value:=[iV c.d,iV c.s,iV c.b,vd,iV g,vt,vs,iV u,va]
theorem PJ.off(h:PJ w w1 st dc)(ho:Off S w1 w2)(hS: ∀k,S k→w.heap.size+1+1+1<k):PJ w w2 st dc:=
 ⟨h.st.off ho (fun z=>by have:=hS _ z;omega),h.dc.off ho (fun z=>by have:=hS _ z;omega),h.x2.off ho (fun z=>by have:=hS _ z;omega),h.x3.off ho (fun z=>by have:=hS _ z;omega),h.bel.trans (ho.bE h.bel.size fun k z=>by have:=hS k z;omega)⟩
theorem b8D{w10 wf wx:World}{tc:List (Int×Value)}{l:List Evt.Bat}{b:Evt.Bat}{ve:Value}{n:Nat}(hR:RG w10 wf 47 2 v (n+1) (tc.flatMap dG++[iV b.cmd,ve]))(ho:Off S wf wx)(hQ: ∀k,S k→k<w10.heap.size)(hb:fC w wx)(h1:tc.length=l.length)(h2: ∀(i:Nat) (x:Int×Value) (b:Evt.Bat),tc[i]?=some x→l[i]?=some b→b.cmd=x.1∧Evs w x.2 b.evs)(hn:n=l.length)(he:Evs w ve b.evs):eS wx v (l++[b]):=by
 have A0:wx.ownsRow w10.heap.size 47 2 v (n+1) (tc.flatMap dG++[iV b.cmd,ve]):=bC hR.own ho fun g hg z=>by
  have:=(hR.own.lt g hg).1;have:=hQ g z;omega
 have hB:sT wx w10.heap.size v (tc++[(b.cmd,ve)]):=by
  unfold sT;rw[d0H,c9I,h1,←hn];exact A0
 refine sT.bats hB (by rw[c9I,c9I,h1];rfl) fun i x y hx hy=>?_;by_cases q:i<l.length
 ·rw[d0M (by omega)]at hx;rw[d0M q]at hy;obtain⟨e1,e2⟩:=h2 i x y hx hy;exact⟨e1,e2.sub hb⟩
 ·rw[d0S (by omega)]at hx hy;rw[h1]at hx;have hz:i-l.length=0:=by
   have:=(c9H.1 hy).1;simp at this;omega
  rw[hz]at hx hy;cases hx
  cases hy
  exact⟨rfl,he.sub hb⟩
theorem PJ.size(h:PJ w w1 st dc):w.heap.size+1+1+1<w1.heap.size:=h.x3.lt
theorem cC{ops:Array Oper}{o:Oper}{a:Act}{w0:World}{K:Act→World→Prop}{Q:Exit→Act→World→Prop}{E:Prop}{u:Value}(hr:(Builtin.append_ #[t,t] t #[v,u]).run prog w0=.ok v' w')(s x:Operand)(hw:w=w0)(hop:o.op=Op.call {callee:=Callee.builtin Builtin.append,args:=#[s,x],argTypes:=#[t,t]})(hty:o.type=t)(hg:o.guard=none)(hs:a.eval s=v)(hx:a.eval x=u)(hK:K (a.put o.dst v') w'):
  if Region.wanted o (yielded ops a.tmps)=true then Oper.wp prog o a w K Q else E:=by
 subst hw;subst hty;exact b2P hg s x _ hop hs hx hr hK
theorem c0U{bs:List Nat}(h:cT w N v bs)(hb:Evt.bP bs):cU w v bs:=by
 obtain⟨A,C,hv,h1,h2,h3⟩:=bJ h;refine⟨hb,A,C,hv,h1,h2,fun i x hx=>?_⟩;obtain⟨g,rfl⟩:=h3 (by have:=(c9H.1 hx).1;omega);have:=h.cells (g:=g) (by rw[hv];rfl) i (.int .u8 x) (by unfold clB;rw[c9S,hx];rfl);rw[WideShapes.add_plain]at this;exact⟨g,0,rfl,this⟩
section
variable {X : Sto.Six} {c : Sto.Cfg} {s : Sto.St} {b : Evt.Bat} {v : Int × List Vw.Acc}
theorem b9R(h:s.tail.length+1<c.b):Sto.eU X c s b v=(0,⟨s.disks,s.segs,s.tail++[b],s.seen.take (Sto.below b.cmd s.seen)++b.cmd::s.seen.drop (Sto.below b.cmd s.seen),v.1,v.2⟩):=by
 unfold Sto.eU;dsimp only;rw[if_pos (by rw[c9I];exact h)]
theorem b1Q(h: ¬s.tail.length+1<c.b)(h1:(Evt.aF (s.tail++[b])).1≠0):Sto.eU X c s b v=((Evt.aF (s.tail++[b])).1,s):=by
 unfold Sto.eU;dsimp only;rw[if_neg (by rw[c9I];exact h),if_pos h1]
theorem b5R(h: ¬s.tail.length+1<c.b)(h1:(Evt.aF (s.tail++[b])).1=0)(h2:(X.lay (Evt.iK (s.tail++[b])) s.segs c).1≠0):Sto.eU X c s b v=((X.lay (Evt.iK (s.tail++[b])) s.segs c).1,s):=by
 unfold Sto.eU;dsimp only;rw[if_neg (by rw[c9I];exact h),if_neg (fun z=>z h1),if_pos h2]
theorem b7P(h: ¬s.tail.length+1<c.b)(h1:(Evt.aF (s.tail++[b])).1=0)(h2:(X.lay (Evt.iK (s.tail++[b])) s.segs c).1=0):Sto.eU X c s b v=(0,⟨Sto.write s.segs (X.lay (Evt.iK (s.tail++[b])) s.segs c).2 0 s.disks,s.segs+1,[],s.seen.take (Sto.below b.cmd s.seen)++b.cmd::s.seen.drop (Sto.below b.cmd s.seen),v.1,v.2⟩):=by
 unfold Sto.eU;dsimp only;rw[if_neg (by rw[c9I];exact h),if_neg (fun z=>z h1),if_neg (fun z=>z h2)]
end
theorem DkJ.offS{S:Nat→Bool}{D:Nat}{V:Nat→Value}{ds:List Sto.aM}{T:Nat→Prop}(h:DkJ w S D V ds)(ho:Off T w w')(hT: ∀k,T k→S k=true∧k≠D):DkJ w' S D V ds:=
 ⟨h.sD,h.row.of_block (ho.block D h.row.lt fun z=>(hT D z).2 rfl),fun i d hd=>(h.hes i d hd).sub (tY (ho.wider fun k hk=>(hT k hk).1))⟩
theorem a2W(w2:World)(P Q:Nat)(a b c d e f g i j k l m n o:Value):Off (fun q=>q=P∨q=Q) w2 ((((((((((((((w2.setCell (aD P 0) a).setCell (aD P 1) b).setCell (aD P 2) c).setCell (aD P 3) d).setCell (aD P 4) e).setCell (aD P 5) f).setCell (aD P 6) g).setCell (aD P 7) i).setCell (aD P 8) j).setCell (aD Q 0) k).setCell (aD Q 1) l).setCell (aD Q 2) m).setCell (aD Q 3) n).setCell (aD Q 4) o).drew:=
 (((fE w2 P a b c d e f g i j).wider fun _ z=>Or.inl z).trans ((aT _ Q k l m n o).wider fun _ z=>Or.inr z)).trans (Off.oE (Below.refl _ _).drew)
theorem a0Y{b o C:Nat}{l:List Int}(h:Nms w (.slice (some (aD b o)) k C) l)(m:Nat): ∀a:Addr,some (⟨b,o+m,none⟩:Addr)=some a→ ∀j u,((l.drop m).flatMap aE)[j]?=some u→w.cell? (a.add j)=some u:=fun a ha j u hj=>by
 cases ha
 obtain⟨A,C',q1,_,_,q4⟩:=h
 cases q1
 have hm: ∀l:List Int,l.flatMap aE=l.map fun x=>Value.int .i64 x:=fun l=>by
  induction l with
  |nil=>rfl
  |cons x r ih=>rw[d0K,ih];rfl
 rw[hm,c9S,d0J]at hj
 obtain⟨x,hx,rfl⟩:=c9J.1 hj
 obtain⟨b',o',e,hc⟩:=q4 _ x hx
 cases e
 rw[WideShapes.add_plain,Nat.add_assoc]
 exact hc
theorem tX(W:World)(A:Option Addr)(m c:Nat)(hA:A=none→m=0)(p:List Int)(hp:p.length=m)(hc: ∀a,A=some a→ ∀j u,(p.flatMap aE)[j]?=some u→W.cell? (a.add j)=some u)(x:Int)(A':Option Addr)(m' c':Nat)(hA':A'=none→m'=0)(q:List Int)(hq:q.length=m')(hc': ∀a,A'=some a→ ∀j u,(q.flatMap aE)[j]?=some u→W.cell? (a.add j)=some u)(hm:m≤1000)(hm':m'≤1000):
  (∃A6 n6 C6 w6 A7 n7 C7 w7 A8 n8 C8 w8,(Builtin.append_ #[27,27] 27 #[.slice (some (aD W.heap.size 0)) 0 0,.slice A m c]).run prog (W.alloc (.cells #[] 3)).drew=.ok (.slice A6 n6 C6) w6∧Bl W w6∧(Builtin.append_ #[27,27] 27 #[.slice A6 n6 C6,.slice (some (aD w6.heap.size 0)) 1 1]).run prog (w6.alloc (.cells #[iV x] 3))=.ok (.slice A7 n7 C7) w7∧Bl W w7∧(Builtin.append_ #[27,27] 27 #[.slice A7 n7 C7,.slice A' m' c']).run prog w7=.ok (.slice A8 n8 C8) w8∧RG W w8 3 1 (.slice A8 n8 C8) (m+1+m') ((p++x::q).flatMap aE))∧
  (∃A6 n6 C6 w6 A7 n7 C7 w7 A8 n8 C8 w8,(Builtin.append_ #[27,27] 27 #[.slice (some (aD W.heap.size 0)) 0 0,.slice A m c]).run prog ((W.alloc (.cells #[] 3)).alloc (.cells #[iV x] 3)).drew=.ok (.slice A6 n6 C6) w6∧Bl W w6∧(Builtin.append_ #[27,27] 27 #[.slice A6 n6 C6,.slice (some (aD (W.heap.size+1) 0)) 1 1]).run prog w6=.ok (.slice A7 n7 C7) w7∧Bl W w7∧(Builtin.append_ #[27,27] 27 #[.slice A7 n7 C7,.slice A' m' c']).run prog w7=.ok (.slice A8 n8 C8) w8∧RG W w8 3 1 (.slice A8 n8 C8) (m+1+m') ((p++x::q).flatMap aE))∧
  (∃A6 n6 C6 w6 A7 n7 C7 w7 A8 n8 C8 w8,(Builtin.append_ #[27,27] 27 #[.slice (some (aD (W.heap.size+1) 0)) 0 0,.slice A m c]).run prog ((W.alloc (.cells #[iV x] 3)).alloc (.cells #[] 3)).drew=.ok (.slice A6 n6 C6) w6∧Bl W w6∧(Builtin.append_ #[27,27] 27 #[.slice A6 n6 C6,.slice (some (aD W.heap.size 0)) 1 1]).run prog w6=.ok (.slice A7 n7 C7) w7∧Bl W w7∧(Builtin.append_ #[27,27] 27 #[.slice A7 n7 C7,.slice A' m' c']).run prog w7=.ok (.slice A8 n8 C8) w8∧RG W w8 3 1 (.slice A8 n8 C8) (m+1+m') ((p++x::q).flatMap aE)):=by
 have A0: ∀{v:Value} {w7:World},RG W w7 3 1 v (m+1) (p.flatMap aE++#[Value.int .i64 x].toList)→ ∃A8 n8 C8 w8,(Builtin.append_ #[27,27] 27 #[v,.slice A' m' c']).run prog w7=.ok (.slice A8 n8 C8) w8∧RG W w8 3 1 (.slice A8 n8 C8) (m+1+m') ((p++x::q).flatMap aE):=fun {v w7} hR=>by
  obtain⟨v8,w8,r8,R8,_⟩:=hR.app underlying27 Tryz.infoI rfl (by decide) (by decide) A' m' c' hA' (q.flatMap aE) (by rw[rL,hq,d1X]) (fun a ha j u hj=>(hR.bel.cell (p:=a.add j) (World.block_lt_of_cell? _ _ (hc' a ha j u hj))).trans (hc' a ha j u hj)) (rO q) (by omega);obtain⟨A8,C8,e8,_⟩:=bJ R8.own;subst e8;refine⟨A8,_,C8,w8,r8,?_⟩;have e:(p++x::q).flatMap aE=p.flatMap aE++#[Value.int .i64 x].toList++q.flatMap aE:=by
   rw[d0H,d0K,c9X];rfl
  rw[e];exact R8
 obtain⟨⟨A1,n1,C1,x1,A2,n2,C2,y1,r1,B1,r2,R2⟩,⟨A3,n3,C3,x3,A4,n4,C4,y3,r3,B3,r4,R4⟩,⟨A5,n5,C5,x5,A6,n6,C6,y5,r5,B5,r6,R6⟩⟩:=yU (t:=27) underlying27 Tryz.infoI rfl (by decide) (by decide) W A m c hA (p.flatMap aE) (by rw[rL,hp,d1X]) hc (rO p) hm #[iV x] rfl (by simp[Value.oneCell']);obtain⟨a1,a2,a3,a4,a5,a6⟩:=A0 R2;obtain⟨b1,b2,b3,b4,b5,b6⟩:=A0 R4;obtain⟨c1,c2,c3,c4,c5,c6⟩:=A0 R6;exact⟨⟨A1,n1,C1,x1,A2,n2,C2,y1,a1,a2,a3,a4,r1,B1,r2,R2.bel,a5,a6⟩,⟨A3,n3,C3,x3,A4,n4,C4,y3,b1,b2,b3,b4,r3,B3,r4,R4.bel,b5,b6⟩,⟨A5,n5,C5,x5,A6,n6,C6,y5,c1,c2,c3,c4,r5,B5,r6,R6.bel,c5,c6⟩⟩
theorem a9M{l:List Evt.Bat}(h:eS w v l): ∃tc:List (Int×Value),tc.length=l.length∧(∀(i:Nat) (x:Int×Value) (b:Evt.Bat),tc[i]?=some x→l[i]?=some b→b.cmd=x.1∧Evs w x.2 b.evs)∧(∀u,u∈tc.flatMap dG→u.oneCell'=true)∧ ∀A n C,v=.slice A n C→n=l.length∧(A=none→n=0)∧ ∀a,A=some a→ ∀j u,(tc.flatMap dG)[j]?=some u→w.cell? (a.add j)=some u:=by
 obtain⟨A,C,hv,h1,h2,h3⟩:=h;have hV: ∀i,∃ve,∀b,l[i]?=some b→Evs w ve b.evs∧ ∃p o,A=some (aD p o)∧w.cell? (aD p (o+i*2))=some (iV b.cmd)∧w.cell? (aD p (o+i*2+1))=some ve:=fun i=>by
  cases hb:l[i]? with
  |none=>exact⟨nS,fun b e=>by cases e⟩
  |some b=>
   obtain⟨p,o,e,ve,q1,q2,q3⟩:=h3 i b hb;exact⟨ve,fun b' e'=>by cases e';exact⟨q3,p,o,e,q1,q2⟩⟩
 obtain⟨V,hV⟩:=Classical.skolem.1 hV;have hl:((List.range l.length).map fun i=>(((l.getD i ⟨0,[]⟩).cmd,V i):Int×Value)).length=l.length:=by rw[c9M,d1E]
 have A1: ∀(i:Nat) (x:Int×Value),((List.range l.length).map fun i=>(((l.getD i ⟨0,[]⟩).cmd,V i):Int×Value))[i]?=some x→ ∃b,l[i]?=some b∧x=(b.cmd,V i):=fun i x hx=>by
  rw[c9S]at hx;obtain⟨j,hj,rfl⟩:=c9J.1 hx;obtain⟨A0,hj⟩:=c9H.1 hj;rw[List.getElem_range]at hj;subst hj;rw[d1E]at A0;exact⟨l[i],c9F A0,by rw[c9R,c9F A0];rfl⟩
 refine⟨(List.range l.length).map fun i=>((l.getD i ⟨0,[]⟩).cmd,V i),hl,fun i x b hx hb=>?_,fun u hu=>?_,fun A' n C' e=>?_⟩
 ·obtain⟨b',A2,rfl⟩:=A1 i x hx;rw[hb]at A2;cases A2
  exact⟨rfl,(hV i b hb).1⟩
 ·obtain⟨x,hx,hu⟩:=d2H.1 hu;obtain⟨i,hi⟩:=d1K.1 hx;obtain⟨b,hb,rfl⟩:=A1 i x hi;simp only[dG,List.mem_cons,List.not_mem_nil,or_false]at hu;rcases hu with rfl|rfl
  ·rfl
  ·obtain⟨A9,C9,h9⟩:=(hV i b hb).1.sE;rw[h9];rfl
 ·rw[hv]at e;cases e
  refine⟨rfl,fun e=>?_,fun a e j u hj=>?_⟩
  ·cases hb:l[0]? with
   |none=>exact Nat.le_zero.1 (List.getElem?_eq_none_iff.1 hb)
   |some b=>
    obtain⟨_,p,o,e2,_⟩:=hV 0 b hb;rw[e]at e2;cases e2
  ·have A0:j<((List.range l.length).map fun i=>(((l.getD i ⟨0,[]⟩).cmd,V i):Int×Value)).length*2:=by
    have:=(c9H.1 hj).1;rw[fX dG 2 _ (fun _ _=>rfl)]at this;exact this
   obtain⟨x,hx⟩: ∃x,((List.range l.length).map fun i=>(((l.getD i ⟨0,[]⟩).cmd,V i):Int×Value))[j/2]?=some x:=⟨_,c9F (by omega)⟩;have hf:=dQ dG 2 _ (fun _ _=>rfl) (j/2) (j%2) (Nat.mod_lt _ (by decide)) x hx;rw[show j/2*2+j%2=j by omega]at hf;rw[hf]at hj;obtain⟨b,hb,rfl⟩:=A1 _ x hx;obtain⟨_,p,o,e2,q1,q2⟩:=hV _ b hb;rw[e]at e2;cases e2
   rw[WideShapes.add_plain];by_cases z:j%2=0
   ·rw[z]at hj;cases hj
    rw[show o+j=o+j/2*2 by omega];exact q1
   ·rw[show j%2=1 by omega]at hj;cases hj
    rw[show o+j=o+j/2*2+1 by omega];exact q2
theorem b1E{cmd x:Int}{l:List Int}(h:l[k]?=some x):Sto.below cmd (l.take (k+1))=Sto.below cmd (l.take k)+if x<cmd then 1 else 0:=by
 unfold Sto.below;rw[d1Y,h,d1O,c9I];show _+([x].filter _).length=_;by_cases q:x<cmd
 ·rw[if_pos q];simp[q]
 ·rw[if_neg q];simp[q]
theorem c0M{X:Sto.Six}{c:Sto.Cfg}{s:Sto.St}{d:Sto.Do}(h1:(Evt.aA d.bat).1=0)(h2:d.bat.cmd∈s.seen):Sto.put X c s d=(s,Sto.told s.u):=by
 unfold Sto.put;rw[if_neg (fun z=>z h1),if_pos h2]
theorem b5L{X:Sto.Six}{c:Sto.Cfg}{s:Sto.St}{d:Sto.Do}(h1:(Evt.aA d.bat).1≠0):Sto.put X c s d=(s,Sto.no (Evt.aA d.bat).1):=by
 unfold Sto.put;rw[if_pos h1]
theorem c6C{X:Sto.Six}{c:Sto.Cfg}{s:Sto.St}{d:Sto.Do}(h1:(Evt.aA d.bat).1=0)(h2:d.bat.cmd∉s.seen)(h3:0≤d.ver∧d.ver≠(Vw.get s.acc d.name).cnt):Sto.put X c s d=(s,Sto.no 11):=by
 unfold Sto.put;rw[if_neg (fun z=>z h1),if_neg h2,if_pos h3]
theorem c5X{X:Sto.Six}{c:Sto.Cfg}{s:Sto.St}{d:Sto.Do}(h1:(Evt.aA d.bat).1=0)(h2:d.bat.cmd∉s.seen)(h3: ¬(0≤d.ver∧d.ver≠(Vw.get s.acc d.name).cnt))(h4:(Vw.cD s.u s.acc d.bat.evs).1.1≠0):Sto.put X c s d=(s,Sto.no (Vw.cD s.u s.acc d.bat.evs).1.1):=by
 unfold Sto.put;rw[if_neg (fun z=>z h1),if_neg h2,if_neg h3,if_pos h4]
theorem c1C{X:Sto.Six}{c:Sto.Cfg}{s:Sto.St}{d:Sto.Do}(h1:(Evt.aA d.bat).1=0)(h2:d.bat.cmd∉s.seen)(h3: ¬(0≤d.ver∧d.ver≠(Vw.get s.acc d.name).cnt))(h4:(Vw.cD s.u s.acc d.bat.evs).1.1=0):Sto.put X c s d=if (Sto.eU X c s d.bat (Vw.cD s.u s.acc d.bat.evs).2).1≠0 then(s,Sto.no (Sto.eU X c s d.bat (Vw.cD s.u s.acc d.bat.evs).2).1)else((Sto.eU X c s d.bat (Vw.cD s.u s.acc d.bat.evs).2).2,Sto.told (Vw.cD s.u s.acc d.bat.evs).2.1):=by
 unfold Sto.put;rw[if_neg (fun z=>z h1),if_neg h2,if_neg h3,if_neg (fun z=>z h4)]
end Go.Proofs.YtmcaejooaaahdaaGreat
