import Derived.Test.YtmcaejooaaahdaaGreatZ20
set_option maxHeartbeats 8000000
set_option maxRecDepth 100000
namespace Go.Proofs.YtmcaejooaaahdaaGreat
open Go.Proofs.Tryz
open Go.RowKit
theorem a0R(b o n e cap:Nat)(g:Nat→Nat)(w:World)(h:cA w (.slice (some (aD b o)) n cap) n g)(hne4:n=e+4)(hx: ¬cW g n)(hs:Crc.sum g e≠Crc.oD g e):
  Calls prog 96 #[.slice (some (aD b o)) n cap] w fun r w'=>r=.returned (.tuple #[.agg #[iV 0,iV 0,iV 0,nS],iV 9])∧Bl w w':=by
 have hl:=h.len;have A1:=h.bd;have A3:g 0=83∧n=11+(g 5*256+g 6)∧12≤n:=by unfold cW at hx;omega
 have A0:=aB8 w (.cells #[iV 0,iV 0,iV 0,nS] 137);have V0:=fW w (iV 0) (iV 0) (iV 0) nS;have A9: ¬(n:Int)<12:=by omega
 have Ac:decide ((n:Int)<12)=false:=by simp;omega
 obtain⟨b',o',A4,hv,A5,A7,hc⟩:=h.some (by omega);cases hv
 have HC:Hid (∀w',Bl w w'→ ∀i,i<n→w'.cell? (aD b (o+i))=some (.int .u8 (g i:Nat))):=fun w' hb' i hi=>cB8 hb' (hc i hi);have H2:=fun w' (hb':Bl w w')=>oM b o e cap g w' A1 (by omega) (fun i hi=>HC.out w' hb' i (by omega));have t0:=HC.out _ A0 0 (by omega);have t5:=HC.out _ A0 5 (by omega);have t6:=HC.out _ A0 6 (by omega);rw[d0X]at t0;have u0:=HC.out _ A0 e (by omega);have u1:=HC.out _ A0 (e+1) (by omega);have u2:=HC.out _ A0 (e+2) (by omega);have u3:=HC.out _ A0 (e+3) (by omega);have Ad:(0:Int)<(n:Int):=by omega
 have e0:(((g 0:Nat):Int) !=83)=false:=by rw[A3.1];rfl
 have b5:=A1 5;have b6:=A1 6;have v0:=A1 e;have v1:=A1 (e+1);have v2:=A1 (e+2);have v3:=A1 (e+3);have Aa:(5:Int)<(n:Int):=by omega
 have Ab:(6:Int)<(n:Int):=by omega
 have A6:((256*((g 5:Nat):Int)+((g 6:Nat):Int)) !=(n:Int)-11)=false:=by
  rw[bne_eq_false_iff_eq];omega
 have s1:(n:Int)-1=(e:Int)+3:=by omega
 have s2:(n:Int)-2=(e:Int)+2:=by omega
 have s3:(n:Int)-3=(e:Int)+1:=by omega
 have s4:(n:Int)-4=(e:Int):=by omega
 have r0:(e:Int)<(n:Int):=by omega
 have r1:(e:Int)+1<(n:Int):=by omega
 have r2:(e:Int)+2<(n:Int):=by omega
 have r3:(e:Int)+3<(n:Int):=by omega
 have A8:(e:Int)≤(cap:Int):=by omega
 have A2:((256*(256*(256*((g (e+3):Nat):Int)+((g (e+2):Nat):Int))+((g (e+1):Nat):Int))+((g e:Nat):Int)) !=((Crc.sum g e:Nat):Int))=true:=by
  rw[bne_iff_ne];unfold Crc.oD at hs;omega
 generalize Crc.sum g e=S at H2 A2 hs;clear hc h A3 hx hne4 hs;go_enter func96,ntmps96
 go_wp2_with fail;go_quiet (fail)
 go_wp2_with fail;refine wp_loop_rounds 5 ?_;iterate 5
  rw[rounds_succ];go_wp2_with fail
 have bq:=bdn A0 nq;have Vq:sK ((w.alloc (.cells #[iV 0,iV 0,iV 0,nS] 137)).drewN nq) w.heap.size (iV 0) (iV 0) (iV 0) nS:=⟨V0.c0,V0.c1,V0.c2,V0.c3,V0.fr⟩;clear t0 t5 t6 u0 u1 u2 u3 V0 A0;generalize (w.alloc (.cells #[iV 0,iV 0,iV 0,nS] 137)).drewN nq=wq at bq Vq⊢;refine(H2 _ bq).mono ?_;rintro e2 w2 ⟨rfl,rfl⟩;clear H2;obtain⟨c0,c1,c2,c3,fr⟩:=Vq;have f0:=fr 0;have f1:=fr 1;have f2:=fr 2;have f3:=fr 3;go_wp2_with fail;refine bodyPost_ret (v:=.tuple #[.agg #[iV 0,iV 0,iV 0,nS],iV 9]) (by simp[results,results96,go_sem,c0,c1,c2,c3]) rfl ⟨rfl,?_⟩;exact eY bq (c9C _)
theorem qO(b o n e cap:Nat)(g:Nat→Nat)(w:World)(h:cA w (.slice (some (aD b o)) n cap) n g)(hne4:n=e+4)(he8:8≤e)(hx: ¬cW g n)(hs:Crc.sum g e=Crc.oD g e):
  Calls prog 96 #[.slice (some (aD b o)) n cap] w fun r w'=> ∃v',r=.returned (.tuple #[v',iV (Crc.aA (g 1) (g 2) (g 3*256+g 4:Nat) (e-7):Nat)])∧
   ((Crc.aA (g 1) (g 2) (g 3*256+g 4:Nat) (e-7)=0∧ ∃d,v'=.agg #[iV (g 1:Nat),iV (g 2:Nat),iV (g 3*256+g 4:Nat),d]∧d=.slice (some (aD b (o+7))) (e-7) (cap-7)∧cA w d (e-7) (fun k=>g (k+7)))∨(Crc.aA (g 1) (g 2) (g 3*256+g 4:Nat) (e-7)≠0∧v'=.agg #[iV 0,iV 0,iV 0,nS]))∧Bl w w':=by
 have hl:=h.len;have A0:=h.bd;have A6:g 0=83∧n=11+(g 5*256+g 6)∧12≤n:=by unfold cW at hx;omega
 have A1:=aB8 w (.cells #[iV 0,iV 0,iV 0,nS] 137);have V0:=fW w (iV 0) (iV 0) (iV 0) nS;have An: ¬(n:Int)<12:=by omega
 have Aq:decide ((n:Int)<12)=false:=by simp;omega
 obtain⟨b',o',A8,hv,Aa,Ak,hc⟩:=h.some (by omega);cases hv
 have HC:Hid (∀w',Bl w w'→ ∀i,i<n→w'.cell? (aD b (o+i))=some (.int .u8 (g i:Nat))):=fun w' hb' i hi=>cB8 hb' (hc i hi);have H2:=fun w' (hb':Bl w w')=>oM b o e cap g w' A0 (by omega) (fun i hi=>HC.out w' hb' i (by omega));have t0:=HC.out _ A1 0 (by omega);have t5:=HC.out _ A1 5 (by omega);have t6:=HC.out _ A1 6 (by omega);rw[d0X]at t0;have u0:=HC.out _ A1 e (by omega);have u1:=HC.out _ A1 (e+1) (by omega);have u2:=HC.out _ A1 (e+2) (by omega);have u3:=HC.out _ A1 (e+3) (by omega);have Ar:(0:Int)<(n:Int):=by omega
 have e0:(((g 0:Nat):Int) !=83)=false:=by rw[A6.1];rfl
 have b5:=A0 5;have b6:=A0 6;have v0:=A0 e;have v1:=A0 (e+1);have v2:=A0 (e+2);have v3:=A0 (e+3);have Ao:(5:Int)<(n:Int):=by omega
 have Ap:(6:Int)<(n:Int):=by omega
 have Ad:((256*((g 5:Nat):Int)+((g 6:Nat):Int)) !=(n:Int)-11)=false:=by
  rw[bne_eq_false_iff_eq];omega
 have s1:(n:Int)-1=(e:Int)+3:=by omega
 have s2:(n:Int)-2=(e:Int)+2:=by omega
 have s3:(n:Int)-3=(e:Int)+1:=by omega
 have s4:(n:Int)-4=(e:Int):=by omega
 have r0:(e:Int)<(n:Int):=by omega
 have r1:(e:Int)+1<(n:Int):=by omega
 have r2:(e:Int)+2<(n:Int):=by omega
 have r3:(e:Int)+3<(n:Int):=by omega
 have Al:(e:Int)≤(cap:Int):=by omega
 have A4:((256*(256*(256*((g (e+3):Nat):Int)+((g (e+2):Nat):Int))+((g (e+1):Nat):Int))+((g e:Nat):Int)) !=((Crc.sum g e:Nat):Int))=false:=by
  rw[bne_eq_false_iff_eq];unfold Crc.oD at hs;omega
 generalize Crc.sum g e=S at H2 A4 hs;have a1:(1:Int)<(n:Int):=by omega
 have a2:(2:Int)<(n:Int):=by omega
 have a3:(3:Int)<(n:Int):=by omega
 have a4:(4:Int)<(n:Int):=by omega
 have n1:1<n:=by omega
 have n2:2<n:=by omega
 have n3:3<n:=by omega
 have n4:4<n:=by omega
 have a7:(7:Int)≤(e:Int):=by omega
 have n7:7≤e:=by omega
 have Au:e≤cap:=by omega
 have Aj: ¬cap=7:=by omega
 have q1:=A0 1;have q2:=A0 2;have q3:=A0 3;have q4:=A0 4;have Ae:IntKind.i64.wrap ((g 1:Nat):Int)=(g 1:Nat):=by rw[IntKind.wrap_i64];omega
 have Af:IntKind.i64.wrap ((g 2:Nat):Int)=(g 2:Nat):=by rw[IntKind.wrap_i64];omega
 have Ag:IntKind.i64.wrap ((g 3:Nat):Int)=(g 3:Nat):=by rw[IntKind.wrap_i64];omega
 have Ah:IntKind.i64.wrap ((g 4:Nat):Int)=(g 4:Nat):=by rw[IntKind.wrap_i64];omega
 have Ab:IntKind.i64.wrap (256*((g 3:Nat):Int))=256*((g 3:Nat):Int):=by rw[IntKind.wrap_i64];omega
 have Ac:IntKind.i64.wrap (256*((g 3:Nat):Int)+((g 4:Nat):Int))=256*((g 3:Nat):Int)+((g 4:Nat):Int):=by rw[IntKind.wrap_i64];omega
 have Am:IntKind.i64.wrap (e:Int)=(e:Int):=by rw[IntKind.wrap_i64];omega
 have A3:Bd (fun k=>g (k+7)):=fun k=>A0 _;have HD:Hid (∀w',Bl w w'→cA w' (.slice (some (aD b (o+7))) (e-7) (cap-7)) (e-7) (fun k=>g (k+7))):=fun w' hb'=>
  ⟨A3,some (aD b (o+7)),cap-7,rfl,by omega,by unfold maxLen;omega,fun k hk=>⟨b,o+7,rfl,by rw[show o+7+k=o+(k+7) by omega];exact HC.out w' hb' (k+7) (by omega)⟩⟩
 have HW:=fun w'=>m7 (g 1:Nat) (g 2:Nat) (g 3*256+g 4:Nat) (some (aD b (o+7))) (e-7) (cap-7) w';have A9:b<w.heap.size:=World.block_lt_of_cell? _ _ (hc 0 (by omega));have A7:g 3*256+g 4≤65535:=by omega
 have HQ:Hid (256*((g 3:Nat):Int)+((g 4:Nat):Int)=((g 3*256+g 4:Nat):Int)):=show _=_ by omega
 generalize g 3*256+g 4=q at HW HQ A7⊢;clear hc h A6 hx hne4 hs he8;go_enter func96,ntmps96
 go_wp2_with fail;go_quiet (fail)
 go_wp2_with fail;refine wp_loop_rounds 5 ?_;iterate 5
  rw[rounds_succ];go_wp2_with fail
 have bq:=bdn A1 nq;have Vq:sK ((w.alloc (.cells #[iV 0,iV 0,iV 0,nS] 137)).drewN nq) w.heap.size (iV 0) (iV 0) (iV 0) nS:=⟨V0.c0,V0.c1,V0.c2,V0.c3,V0.fr⟩;clear t0 t5 t6 u0 u1 u2 u3 V0 A1;generalize (w.alloc (.cells #[iV 0,iV 0,iV 0,nS] 137)).drewN nq=wq at bq Vq⊢;refine(H2 _ bq).mono ?_;rintro e2 w2 ⟨rfl,rfl⟩;clear H2;go_wp2_with fail;have T1:=HC.out w2 bq 1 n1;have T2:=HC.out w2 bq 2 n2;have T3:=HC.out w2 bq 3 n3;have T4:=HC.out w2 bq 4 n4;have A2:=c9P A9 bq.size;have TD:w2.drew.cell? (aD b (o+1))=some (.int .u8 (g 1:Nat))∧w2.drew.cell? (aD b (o+2))=some (.int .u8 (g 2:Nat))∧w2.drew.cell? (aD b (o+3))=some (.int .u8 (g 3:Nat))∧w2.drew.cell? (aD b (o+4))=some (.int .u8 (g 4:Nat)):=⟨T1,T2,T3,T4⟩;have TA: ∀ob,(w2.alloc ob).drew.cell? (aD b (o+1))=some (.int .u8 (g 1:Nat))∧(w2.alloc ob).drew.cell? (aD b (o+2))=some (.int .u8 (g 2:Nat))∧(w2.alloc ob).drew.cell? (aD b (o+3))=some (.int .u8 (g 3:Nat))∧(w2.alloc ob).drew.cell? (aD b (o+4))=some (.int .u8 (g 4:Nat)):=fun ob=>
  ⟨(World.cell?_alloc_lt _ _ _ A2).trans T1,(World.cell?_alloc_lt _ _ _ A2).trans T2,(World.cell?_alloc_lt _ _ _ A2).trans T3,(World.cell?_alloc_lt _ _ _ A2).trans T4⟩
 go_region_held3 (fun w'=>w'.cell? (aD b (o+1))=some (.int .u8 (g 1:Nat))∧w'.cell? (aD b (o+2))=some (.int .u8 (g 2:Nat))∧w'.cell? (aD b (o+3))=some (.int .u8 (g 3:Nat))∧w'.cell? (aD b (o+4))=some (.int .u8 (g 4:Nat)))
  (first|with_reducible exact TD|with_reducible exact TA _)
  (fail)
 have As:=HQ.out;have VX:=(fW w2 (iV (g 1:Nat)) (iV (g 2:Nat)) (iV q) (.slice (some (aD b (o+7))) (e-7) (cap-7))).drew;have V2:=(Vq.bE ((Below.refl _ _).alloc (c9C _) (.cells #[iV (g 1:Nat),iV (g 2:Nat),iV q,.slice (some (aD b (o+7))) (e-7) (cap-7)] 137))).drew;have A5:=(bq.alloc bq.size (.cells #[iV (g 1:Nat),iV (g 2:Nat),iV q,.slice (some (aD b (o+7))) (e-7) (cap-7)] 137)).drew;have HW:=HW (w2.alloc (.cells #[iV (g 1:Nat),iV (g 2:Nat),iV q,.slice (some (aD b (o+7))) (e-7) (cap-7)] 137)).drew;have VX:=hd8 VX;clear T1 T2 T3 T4 TD TA Vq Ab Ac Ae Af Ag Ah;by_cases hE:Crc.aA (g 1) (g 2) (q:Nat) (e-7)=0
 ·have HE:=hd8 hE;rw[hE]at HW;clear hE;go_wp2_with fail;refine HW.mono ?_;rintro e6 w6 ⟨rfl,b6⟩;obtain⟨c0,c1,c2,c3,fr⟩:=V2.bE b6;obtain⟨m0,m1,m2,m3,_⟩:=VX.out.bE b6;have f0:=fr 0;have f1:=fr 1;have f2:=fr 2;have f3:=fr 3;have bz:=bt A5 b6;clear HW V2;go_wp2_with fail;refine bodyPost_ret (v:=.tuple #[.agg #[iV (g 1:Nat),iV (g 2:Nat),iV q,.slice (some (aD b (o+7))) (e-7) (cap-7)],iV 0]) (by simp[results,results96,go_sem,c0,c1,c2,c3]) rfl ⟨_,by rw[HE.out];rfl,Or.inl ⟨HE.out,_,rfl,rfl,?_⟩,?_⟩
  ·exact HD.out _ (Below.refl _ _)
  ·exact eY bz (c9C _)
 ·have HE:=hd8 hE;have Ai:(((Crc.aA (g 1) (g 2) (q:Nat) (e-7):Nat):Int)==0)=false:=by rw[beq_eq_false_iff_ne];omega
  have At:(((Crc.aA (g 1) (g 2) (q:Nat) (e-7):Nat):Int) !=0)=true:=by rw[bne,Ai];rfl
  clear hE;go_wp2_with fail;refine HW.mono ?_;rintro e6 w6 ⟨rfl,b6⟩;obtain⟨c0,c1,c2,c3,fr⟩:=V2.bE b6;have f0:=fr 0;have f1:=fr 1;have f2:=fr 2;have f3:=fr 3;have bz:=bt A5 b6;clear HW V2;go_wp2_with fail;refine bodyPost_ret (v:=.tuple #[.agg #[iV 0,iV 0,iV 0,nS],iV (Crc.aA (g 1) (g 2) (q:Nat) (e-7):Nat)]) (by simp[results,results96,go_sem,c0,c1,c2,c3]) rfl ⟨_,rfl,Or.inr ⟨HE.out,rfl⟩,?_⟩;exact eY bz (c9C _)
end Go.Proofs.YtmcaejooaaahdaaGreat
