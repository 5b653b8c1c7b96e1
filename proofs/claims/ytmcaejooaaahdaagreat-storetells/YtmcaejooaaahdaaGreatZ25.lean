import Derived.Test.YtmcaejooaaahdaaGreatZ19
import Derived.Test.YtmcaejooaaahdaaGreatZ21
import Derived.Test.YtmcaejooaaahdaaGreatZ24
set_option maxHeartbeats 8000000
set_option maxRecDepth 100000
namespace Go.Proofs.YtmcaejooaaahdaaGreat
open Go.Proofs.Tryz
variable {E E' S:Nat→Prop} {N cap g i n p q:Nat} {v:Value} {w w':World}
open Go.RowKit
theorem iD.lower{M:Nat}{L:List (List Nat)}{Y:Nat→Sl}(h:iD w N v L Y)(hM:M≤N):iD w M v L Y:=
 ⟨qZ h.own hM,fun i hi=>(h.byt i hi).lower hM,h.sep⟩
theorem iD.start(w:World)(N:Nat)(Y:Nat→Sl):iD w N nS [] Y:=
 ⟨World.ownsRow_nil w N _ 1,fun i hi=>absurd hi (c9L i),fun i _ _ hi=>absurd hi (c9L i)⟩
theorem iD.lt{L:List (List Nat)}{Y:Nat→Sl}(h:iD w N v L Y)(hi:i<L.length)(hg:(slV (Y i)).ownBlock=some g):g<w.heap.size:=((h.byt i hi).ty hg).lt
theorem iD.step{w':World}{v':Value}{L:List (List Nat)}{Y:Nat→Sl}{y:Sl}{r:List Nat}(h:iD w N v L Y)(hr:eQ w N (slV y) r)(hne: ∀i g,i<L.length→(slV (Y i)).ownBlock=some g→(slV y).ownBlock≠some g)
  (ho:w'.ownsRow N 59 1 v' (L.length+1) (((List.range L.length).map fun i=>slV (Y i))++[slV y])) (hg:w.grownBy w' v.ownBlock):iD w' N v' (L++[r]) (upd Y L.length y):=by
 have A2:=cI hg;have A1: ∀{u:Value} {t:List Nat},eQ w N u t→eQ w' N u t:=fun {u t} hu=>hu.off A2 fun g hb s=>(hu.ty hb).ne (aU h.own s) (by decide) rfl;have A0:(L++[r]).length=L.length+1:=by rw[c9I];rfl
 refine⟨?_,fun i hi=>?_,fun i j g hi hj h1 h2=>?_⟩
 ·rw[A0];have e:((List.range (L.length+1)).map fun i=>slV (upd Y L.length y i))=((List.range L.length).map fun i=>slV (Y i))++[slV y]:=by
   rw[d1G,c9U];refine congr (congrArg _ ?_) ?_
   ·refine d1H fun i hi=>?_;rw[aW _ _ (by have:=d0D.1 hi;omega)]
   ·show[slV (upd Y L.length y L.length)]=[slV y];rw[bM]
  rw[e];exact ho
 ·rw[A0]at hi;by_cases e:i=L.length
  ·subst e;rw[bM,c9R,d0S (c9C _),d1L];exact A1 hr
  ·rw[aW _ _ e,c9R,d0M (by omega),←c9R];exact A1 (h.byt i (by omega))
 ·rw[A0]at hi hj;by_cases e:i=L.length
  ·by_cases e2:j=L.length
   ·rw[e,e2]
   ·subst e;rw[bM]at h1;rw[aW _ _ e2]at h2;exact absurd h1 (hne j g (by omega) h2)
  ·rw[aW _ _ e]at h1;by_cases e2:j=L.length
   ·subst e2;rw[bM]at h2;exact absurd h2 (hne i g (by omega) h1)
   ·rw[aW _ _ e2]at h2;exact h.sep i j g (by omega) (by omega) h1 h2
def zV(seg L n:Nat)(F:Nat→Nat→Nat)(j:Nat):List (List Nat):=(List.range j).map fun i=>bl (Crc.enc seg i L n (F i)) (n+11)
theorem a6M(seg L n:Nat)(F:Nat→Nat→Nat)(j:Nat):(zV seg L n F j).length=j:=by
 unfold zV;rw[c9M,d1E]
theorem b5V(seg L n:Nat)(F:Nat→Nat→Nat)(j:Nat):zV seg L n F (j+1)=zV seg L n F j++[bl (Crc.enc seg j L n (F j)) (n+11)]:=by
 unfold zV;rw[d1G,c9U];rfl
theorem a9N(v:Value)(m n:Nat)(F:Nat→Nat→Nat)(seg L:Nat)(w:World)(h:Lls w v m (fun _=>n) F)(hm:m≤12)(hW: ∀j,j<m→Crc.aA seg j L n=0):
  Calls prog 112 #[v,iV seg,iV L] w fun e w'=> ∃v' Y,e=.returned (.tuple #[v',iV 0])∧iD w' w.heap.size v' (zV seg L n F m) Y∧Bl w w':=by
 obtain⟨A,C,rfl⟩:=h.sE;have bd:=h.bd;have HL:Hid (∀w',Bl w w'→ ∀r,r<m→ ∃b o R K,A=some (aD b o)∧w'.cell? (aD b (o+r))=some (.slice R n K)∧cA w' (.slice R n K) n (F r)):=fun w' hb r hr=>(h.bE hb).at hr;have HW:=hd8 hW;have HE:Hid (∀j:Nat,a3W (seg:Int) (j:Int) (L:Int) n (F j)=Crc.enc seg j L n (F j)):=fun j=>rfl;have A7:Hid (∀j,j<m→Bd (Crc.enc seg j L n (F j))):=fun j hj=>b2Z (s:=(seg:Int)) (h:=(j:Int)) (z:=(L:Int)) (bd j) (hW j hj);obtain⟨i0,Ad,hh⟩:=c9J.1 Tryz.infoRow;simp only[Prod.mk.injEq]at hh;obtain⟨Af,Ag,Ah⟩:=hh;clear h hW;go_enter func112,ntmps112
 go_wp2_with fail;go_loopw [8,15] (fun y x wr=> ∃(j:Nat) (Y:Nat→Sl),j≤m∧x=iV j∧iD wr w.heap.size y (zV seg L n F j) Y∧Bl w wr) (fun _ x _=>m-(intOf x).toNat)
 case atStart=>exact⟨0,fun _=>(none,0,0),c9D _,rfl,iD.start _ _ _,Below.refl _ _⟩
 case round=>
  obtain⟨j,Y,hj,rfl,hP,hb⟩:=hrel;by_cases A3:j<m
  ·have Ae:(j:Int)<(m:Int):=by omega
   obtain⟨b9,o9,R9,K9,rfl,t9,y9⟩:=HL.out wr hb j A3;have A2:=a0T (.agg #[iV seg,iV j,iV L,.slice R9 n K9]) seg j L n (F j) wr ⟨_,rfl,y9⟩;rw[HW.out j A3,HE.out j]at A2;clear y9;go_wp2_with fail;refine A2.mono ?_;rintro e w6 ⟨v6,rfl,O6,b6⟩;have Ab:kX w6 wr.heap.size v6 (n+11) (Crc.enc seg j L n (F j)):=by
    rcases O6 with⟨_,q⟩|⟨q,_⟩
    ·exact q
    ·exact absurd rfl q
   obtain⟨g6,c6,rfl,Ac,q1,q2,q3⟩:=Ab;have A5:eQ w6 w.heap.size (slV (some (aD g6 0),n+11,c6)) (bl (Crc.enc seg j L n (F j)) (n+11)):=by
    refine⟨a8W (A7.out j A3) _,g6,c6,by rw[Sto.l5];rfl,c9E hb.size Ac,by rw[Sto.l5];exact q1,q2,?_⟩;rw[Sto.l5];refine q3.congr fun i hi=>?_;show Value.int .u8 ((Crc.enc seg j L n (F j) i:Nat):Int)=Value.int .u8 (((bl (Crc.enc seg j L n (F j)) (n+11)).getD i 0:Nat):Int);rw[Sto.c8Z _ hi]
   have A1:=(Below.refl w6.heap.size w6).alloc (c9C _) (.cells #[.slice (some (aD g6 0)) (n+11) c6] 59);have A9:Hid (∀i g,i<(zV seg L n F j).length→(slV (Y i)).ownBlock=some g→(slV (some (aD g6 0),n+11,c6)).ownBlock≠some g):=fun i g hi hg e=>by
    have:=hP.lt hi hg;cases e
    have:g6<wr.heap.size:=this;omega
   have A0:=(hP.bE b6).bE A1;have HP:=hd8 A0;have Aa:=hd8 (A5.bE A1);have bX:=bt (bt hb b6) A1;have A8:=A0.own.lt;have A4:=A0.own;rw[a6M]at A4;clear A2 O6 A1 hP A0 A5 q3;go_wp2_with (at_builtin;go_loud (refine wpList_append_own _ rfl (.tmp 32) (.tmp 34) 86 rfl w.heap.size 59 i0 nS 1 24 underlying86 Ad Af Ag Ah rfl (by decide) _ _ _ rfl A4 (aD w6.heap.size 0) 1 1 [.slice (some (aD g6 0)) (n+11) c6] rfl rfl dD (by intro u hu;simp at hu;subst hu;rfl) (by unfold maxLen;omega) (by omega) bX.size ?_;intro v7 w7 hown1 hgrow1 _));have b7:=bX.grown hgrow1 bX.size (fun x hx=>(A8 x hx).1);have A6:=HP.out.step Aa.out A9.out (by rw[a6M];exact hown1) hgrow1;rw[←b5V]at A6;exact⟨⟨j+1,_,by omega,by go_num,A6,b7⟩,by simp[intOf];omega⟩
  ·obtain rfl:j=m:=by omega
   go_wp2_with fail;go_ret2
   exact⟨_,_,rfl,hP,hb⟩
theorem c4W(v:Value)(L:Nat)(r:Nat→Nat)(seg d s:Nat)(w:World)(h:cA w v L r)(h1:1≤d)(h2:d≤8)(h3:s≤4)(h4:seg≤39)(h5:L≤400*d):
  Calls prog 79 #[v,iV seg,iV d,iV s] w fun e w'=> ∃v' Y,e=.returned (.tuple #[v',iV 0])∧iD w' w.heap.size v' (zV seg L (Seg.dF L d) (Seg.jP r L d) (d+s)) Y∧Bl w w':=by
 have HW:=fun w'=>dY (d:Int) (s:Int) w';rw[cO (by omega)]at HW;have hL:=h.len;have A0:=hd8 fun w' hb=>xM v L r d w' (h.bE hb) h1 h2 h5;have A4:=Seg.oH L d h1;have A5:=Seg.nF h1 h5;have A1:Hid (Gf.Bd2 (Seg.eT r L (Seg.dF L d))):=Seg.wR h.bd L _;have A3:Hid (∀j,j<d+s→Crc.aA seg j L (Seg.dF L d)=0):=fun j hj=>Crc.j8 (by omega) (by omega);obtain⟨A,C,rfl⟩:=h.sE;have q1: ¬40≤(seg:Int):=by omega
 have q2: ¬400*(d:Int)<(L:Int):=by omega
 have q3: ¬(d:Int)*400<(L:Int):=by omega
 clear h h5;go_enter func79,ntmps79
 go_wp2_with fail;refine(HW _).mono ?_;rintro e w1 ⟨rfl,b1⟩;clear HW;go_wp2_with fail;refine(A0.out _ b1).mono ?_;rintro e w2 ⟨v2,U2,rfl,P2,b2⟩;have HJ:=xX w1.heap.size v2 d s _ U2 _ w2 P2 A1.out h1 h2 h3 A4 A5 b2.size;clear A0 P2;go_wp2_with fail;refine HJ.mono ?_;rintro e w3 ⟨vm,v9,w5,rfl,r9,L9,b5⟩;have HB:=a9N v9 (d+s) (Seg.dF L d) _ seg L w5 L9 (by omega) A3.out;have b5:=bt b1 (b2.trans b5);clear HJ L9;go_wp2_with (at_builtin;refine Lib.wpList_append_run _ rfl (.tmp 43) (.tmp 44) 86 86 rfl _ _ rfl rfl _ _ r9 ?_);refine HB.mono ?_;rintro e w6 ⟨v6,Y6,rfl,P6,b6⟩;have bz:=bt b5 b6;have P6:=P6.lower b5.size;have A2:=hd8 P6;clear HB r9 P6;go_wp2_with fail;go_ret2
 exact⟨_,_,rfl,A2.out,bz⟩
section
variable {X : Sto.Six}
def b5G(e:Ending)(w':World)(N:Nat)(y:Nat×List (List Nat)):Prop:= ∃v',e=.returned (.tuple #[v',iV y.1])∧((y.1=0∧ ∃Y,iD w' N v' y.2 Y)∨(y.1≠0∧v'=nS))
theorem a7D(v:Value)(r:List Nat)(seg:Nat)(c:Sto.Cfg)(w:World)(h:cU w v r):
  Calls prog 79 #[v,iV seg,iV c.d,iV c.s] w fun e w'=>b5G e w' w.heap.size (Sto.lX r seg c)∧Bl w w':=by
 by_cases hE:Seg.gW r.length seg c.d c.s=0
 ·obtain⟨h1,h2,h3,h4,h5⟩:=Sto.yB hE;refine(c4W v r.length (fun j=>r.getD j 0) seg c.d c.s w h.byts h1 h2 h3 h4 h5).mono ?_;rintro e w' ⟨v',Y,rfl,hl,hb⟩;have hx:Sto.lX r seg c=(0,zV seg r.length (Seg.dF r.length c.d) (Seg.jP (fun j=>r.getD j 0) r.length c.d) (c.d+c.s)):=by
   unfold Sto.lX zV;rw[if_pos hE];congr 1;refine d1H fun i hi=>?_;rw[Seg.a5K (by have:=d0D.1 hi;omega)]
  rw[hx];exact⟨⟨v',rfl,Or.inl ⟨rfl,Y,hl⟩⟩,hb⟩
 ·refine(c5V v r.length (fun j=>r.getD j 0) seg c.d c.s w h.byts).mono ?_;rintro e w' ⟨v',rfl,hl,hb⟩;have hx:Sto.lX r seg c=(Seg.gW r.length seg c.d c.s,[]):=if_neg hE;rw[hx];rcases hl with⟨q,_⟩|⟨_,rfl⟩
  ·exact absurd q hE
  ·exact⟨⟨_,rfl,Or.inr ⟨hE,rfl⟩⟩,hb⟩
theorem a1X(hX:Sto.dE X)(v:Value)(bs:List (List Nat))(seg:Nat)(c:Sto.Cfg)(w:World)(h:Lls w v bs.length (Sto.fO bs) (Sto.eK bs)):
  Calls prog 82 #[v,iV seg,iV c.d] w fun e w'=> ∃v',e=.returned (.tuple #[v',iV ((X.read bs seg c).1:Nat)])∧cU w' v' (X.read bs seg c).2∧Bl w w':=by
 refine(c3A v bs.length (Sto.fO bs) (Sto.eK bs) seg c.d w h).mono ?_;rintro e w' ⟨v',rfl,hO,hb⟩;have he:=hX.err bs seg c;rw[←he]at hO⊢;refine⟨v',rfl,?_,hb⟩;rcases hO with⟨q,r,r1,r2,hy⟩|⟨q,rfl⟩
 ·rw[c9Q]at r2 hy;rw[hX.told bs seg c q r r1 r2];exact hy.list
 ·rw[hX.none bs seg c q];exact cU.nil w'
theorem a6C(hX:Sto.dE X)(v:Value)(bs:List (List Nat))(seg:Nat)(w:World)(h:Lls w v bs.length (Sto.fO bs) (Sto.eK bs))(hl:bs.length≤12):
  Calls prog 53 #[v,iV seg] w fun e w'=> ∃v',e=.returned v'∧iQ w' w.heap.size v' (X.bad bs seg)∧Bl w w':=by
 rw[hX.bad];exact c5Y v bs.length (Sto.fO bs) (Sto.eK bs) seg w h (by omega)
theorem b7I(hX:Sto.dE X)(v:Value)(bs:List (List Nat))(seg:Nat)(c:Sto.Cfg)(w:World)(h:Lls w v bs.length (Sto.fO bs) (Sto.eK bs))(hl:bs.length=c.d+c.s)(h8:c.d≤8)(h4:c.s≤4):
  Calls prog 54 #[v,iV seg,iV c.d] w fun e w'=>b5G e w' w.heap.size (X.mend bs seg c)∧Bl w w':=by
 have HR:=a1X hX v bs seg c w h;obtain⟨A,C,rfl⟩:=h.sE;have HM:=hX.mend bs seg c;by_cases hE:(X.read bs seg c).1=0
 case neg=>
  rw[if_pos hE]at HM;generalize (X.read bs seg c).1=x at HR HM hE;have HP:Hid (∀w',b5G (.returned (.tuple #[nS,iV x])) w' w.heap.size (X.mend bs seg c)):=fun w'=>by
   show b5G _ _ _ _;rw[HM];exact⟨_,rfl,Or.inr ⟨hE,rfl⟩⟩
  have A2:((x:Int)==0)=false:=by rw[beq_eq_false_iff_ne];omega
  have A5:((x:Int) !=0)=true:=by rw[bne,A2];rfl
  clear hE h HM hl h8 h4;go_enter func54,ntmps54
  go_wp2_with fail;refine HR.mono ?_;rintro e w1 ⟨v1,rfl,_,b1⟩;clear HR;go_wp2_with fail;go_ret2
  exact⟨HP.out _,b1⟩
 case pos=>
  rw[if_neg (fun q=>q hE)]at HM;rw[hE]at HR;have A0:Hid (∀v1 w1,cU w1 v1 (X.read bs seg c).2→Calls prog 79 #[v1,iV seg,iV c.d,iV (((bs.length:Nat):Int)-(c.d:Int))] w1 fun e w'=>b5G e w' w1.heap.size (X.mend bs seg c)∧Bl w1 w'):=fun v1 w1 q=>by
   have:=a7D v1 (X.read bs seg c).2 seg c w1 q;rw[←HM]at this;rw[show((bs.length:Nat):Int)-(c.d:Int)=(c.s:Int) by omega];exact this
  obtain⟨N,hN⟩: ∃N,N=bs.length:=⟨_,rfl⟩;rw[←hN]at HR A0;rw[←hN];have A3:N≤12:=by omega
  have A4:c.d≤N:=by omega
  clear HM hE h hl hN;go_enter func54,ntmps54
  go_wp2_with fail;refine HR.mono ?_;rintro e w1 ⟨v1,rfl,hy,b1⟩;have HL:=A0.out v1 w1 hy;obtain⟨A1,C1,rfl⟩:=hy.byts.sE;clear HR A0 hy;go_wp2_with fail;refine HL.mono ?_;rintro e w2 ⟨⟨v2,rfl,hO⟩,b2⟩;have HP:Hid (b5G (.returned (.tuple #[v2,iV ((X.mend bs seg c).1:Nat)])) w2 w.heap.size (X.mend bs seg c)):=by
   refine⟨v2,rfl,?_⟩;rcases hO with⟨q,Y,hY⟩|q
   ·exact Or.inl ⟨q,Y,hY.lower b1.size⟩
   ·exact Or.inr q
  have b2:=bt b1 b2;clear HL hO;go_wp2_with fail;go_ret2
  exact⟨HP.out,b2⟩
end
def a0K(w:World)(E:Nat→Prop)(v:Value)(es:List Evt.Ev):Prop:=Evs w v es∧ ∀g,v.ownBlock=some g→es≠[]→E g
def a0S(w:World)(E:Nat→Prop)(v:Value)(l:List Vw.Acc):Prop:=bG w v l∧ ∀g,v.ownBlock=some g→l≠[]→E g
theorem a0K.move{es:List Evt.Ev}(h:a0K w E v es)(hk: ∀k,k<w.heap.size→E k→w'.heap[k]?=w.heap[k]?)(hE: ∀k,k<w.heap.size→E k→E' k):a0K w' E' v es:=by
 obtain⟨⟨A,A0,rfl,h1,h2,h3⟩,h4⟩:=h;refine⟨⟨A,A0,rfl,h1,h2,fun i e he=>?_⟩,fun g hg hne=>?_⟩
 ·obtain⟨b,o,rfl,t,q1,q2,c0,c1,c2⟩:=h3 i e he;have hp:b<w.heap.size:=World.block_lt_of_cell? _ _ c0;have hb:=hk b hp (h4 b rfl (fun z=>by rw[z]at he;cases he));exact⟨b,o,rfl,t,q1,q2,(World.cell?_of_block (w:=w) (a:=⟨b,o+i*3,none⟩) hb).trans c0,(World.cell?_of_block (w:=w) (a:=⟨b,o+i*3+1,none⟩) hb).trans c1,(World.cell?_of_block (w:=w) (a:=⟨b,o+i*3+2,none⟩) hb).trans c2⟩
 ·cases es with
  |nil=>exact absurd rfl hne
  |cons e r=>
   obtain⟨b,o,rfl,t,_,_,c0,_⟩:=h3 0 e rfl;cases hg
   exact hE b (World.block_lt_of_cell? _ _ c0) (h4 b rfl hne)
theorem a0S.move{l:List Vw.Acc}(h:a0S w E v l)(hk: ∀k,k<w.heap.size→E k→w'.heap[k]?=w.heap[k]?)(hE: ∀k,k<w.heap.size→E k→E' k):a0S w' E' v l:=by
 obtain⟨⟨A,A0,rfl,h1,h2,h3⟩,h4⟩:=h;refine⟨⟨A,A0,rfl,h1,h2,fun i e he=>?_⟩,fun g hg hne=>?_⟩
 ·obtain⟨b,o,rfl,t,q1,q2,c0,c1,c2,c3⟩:=h3 i e he;have hp:b<w.heap.size:=World.block_lt_of_cell? _ _ c0;have hb:=hk b hp (h4 b rfl (fun z=>by rw[z]at he;cases he));exact⟨b,o,rfl,t,q1,q2,(World.cell?_of_block (w:=w) (a:=⟨b,o+i*4,none⟩) hb).trans c0,(World.cell?_of_block (w:=w) (a:=⟨b,o+i*4+1,none⟩) hb).trans c1,(World.cell?_of_block (w:=w) (a:=⟨b,o+i*4+2,none⟩) hb).trans c2,(World.cell?_of_block (w:=w) (a:=⟨b,o+i*4+3,none⟩) hb).trans c3⟩
 ·cases l with
  |nil=>exact absurd rfl hne
  |cons e r=>
   obtain⟨b,o,rfl,t,_,_,c0,_⟩:=h3 0 e rfl;cases hg
   exact hE b (World.block_lt_of_cell? _ _ c0) (h4 b rfl hne)
theorem a5Z(w:World)(E:Nat→Prop):a0K w E nS []:=⟨⟨none,0,rfl,c9C _,c9D _,fun i e he=>by cases he⟩,fun _ _ h=>absurd rfl h⟩
theorem pC(w:World)(E:Nat→Prop):a0S w E nS []:=⟨bG.nil w,fun _ _ h=>absurd rfl h⟩
structure dS(w w':World)(F F' E E':Nat→Prop):Prop where
 off:Off F w w'
 growF: ∀k,F' k→F k∨w.heap.size≤k
 growE: ∀k,E' k→E k∨w.heap.size≤k
theorem dS.oE(F E:Nat→Prop)(h:Bl w w'):dS w w' F F E E:=⟨Off.oE h,fun _ h=>Or.inl h,fun _ h=>Or.inl h⟩
theorem dS.trans{a b c:World}{F G H I J:Nat→Prop}(h:dS a b F G E I)(k:dS b c G H I J):dS a c F H E J:=
 ⟨h.off.past k.off fun y s hy=>by
  rcases h.growF y s with q|q
  ·exact q
  ·omega,fun y s=>by
  rcases k.growF y s with q|q
  ·exact h.growF y q
  ·exact Or.inr (c9E h.off.size q),fun y s=>by
  rcases k.growE y s with q|q
  ·exact h.growE y q
  ·exact Or.inr (c9E h.off.size q)⟩
structure WfS(c:Sto.Cfg)(s:Sto.St):Prop where
 len:s.disks.length=c.d+c.s
 d1:1≤c.d
 d8:c.d≤8
 s4:c.s≤4
 b1:1≤c.b
 b10:c.b≤10
 wd:WfD s.disks 100
 segs:s.segs≤40
 tail:s.tail.length<c.b
 bats: ∀b,b∈s.tail→(Evt.aA b).1=0
 up:UpI s.seen
 cmds:(s.seen.length:Int)≤s.u
 right:Vw.iS s.u s.acc
def j6(c:Sto.Cfg)(D n segs:Nat)(vt vs:Value)(u:Int)(va:Value):List Value:=[iV c.d,iV c.s,iV c.b,.slice (some (aD D 0)) n n,iV segs,vt,vs,iV u,va]
def wY(x:Int×Sl):List Value:=[iV x.1,slV x.2]
structure a0M(w:World)(N:Nat)(E:Nat→Prop)(vt:Value)(tc:List (Int×Sl))(l:List Evt.Bat):Prop where
 own:w.ownsRow N 47 2 vt l.length (tc.flatMap wY)
 len:tc.length=l.length
 evs: ∀(i:Nat) (x:Int×Sl) (b:Evt.Bat),tc[i]?=some x→l[i]?=some b→b.cmd=x.1∧a0K w E (slV x.2) b.evs
structure StP(w:World)(N R:Nat)(F E:Nat→Prop)(c:Sto.Cfg)(s:Sto.St)(D:Nat)(V:Nat→Value)(U:Nat→List HeC)(vt vs va:Value)(tc:List (Int×Sl)):Prop where
 var:aV w R 45 (j6 c D s.disks.length s.segs vt vs s.u va)
 ge:N≤R
 dk:dM w N D V U s.disks
 tail:a0M w N E vt tc s.tail
 seen:w.ownsRow N 3 1 vs s.seen.length (s.seen.flatMap aE)
 acc:a0S w E va s.acc
 fR:F R
 fD:F D
 fV: ∀i g,i<s.disks.length→(V i).ownBlock=some g→F g
 fU: ∀(i:Nat) (x:HeC) (g:Nat),i<s.disks.length→x∈U i→(slV x.2.1).ownBlock=some g→F g
 fT: ∀g,vt.ownBlock=some g→F g
 fS: ∀g,vs.ownBlock=some g→F g
 lt: ∀k,F k→N≤k∧k<w.heap.size
 dis: ∀k,E k→ ¬F k∧k<w.heap.size
 wf:WfS c s
def uQ(w:World)(N R:Nat)(F E:Nat→Prop)(c:Sto.Cfg)(s:Sto.St):Prop:= ∃D V U vt vs va tc,StP w N R F E c s D V U vt vs va tc
theorem a0M.move{vt:Value}{tc:List (Int×Sl)}{l:List Evt.Bat}(h:a0M w N E vt tc l)(hk: ∀k,k<w.heap.size→E k→w'.heap[k]?=w.heap[k]?)(hE: ∀k,k<w.heap.size→E k→E' k)(ho:Off S w w')(hS: ∀g,vt.ownBlock=some g→ ¬S g):a0M w' N E' vt tc l:=
 ⟨bC h.own ho hS,h.len,fun i x b hx hb=>⟨(h.evs i x b hx hb).1,(h.evs i x b hx hb).2.move hk hE⟩⟩
section
variable {w w' : World} {N R D : Nat} {F F' E : Nat → Prop} {c : Sto.Cfg} {s : Sto.St} {V : Nat → Value} {U : Nat → List HeC} {vt vs va : Value} {tc : List (Int × Sl)}
theorem StP.out(h:StP w N R F E c s D V U vt vs va tc)(ho:Off S w w')(hS: ∀k,S k→ ¬F k∧ ¬E k):StP w' N R F E c s D V U vt vs va tc:=by
 have A0: ∀k,k<w.heap.size→F k∨E k→w'.heap[k]?=w.heap[k]?:=fun k hk hf=>ho.block k hk fun q=>by
  rcases hf with z|z
  ·exact(hS k q).1 z
  ·exact(hS k q).2 z
 have A1: ∀k,k<w.heap.size→E k→w'.heap[k]?=w.heap[k]?:=fun k hk he=>A0 k hk (Or.inr he);have A2:dM w' N D V U s.disks:=by
  refine⟨h.dk.row.of_block (A0 D h.dk.row.lt (Or.inl h.fD)),h.dk.ge,fun i hi=>bC (h.dk.own i hi) ho fun g hg q=>(hS g q).1 (h.fV i g hi hg),h.dk.bl,fun i x hi hx=>(h.dk.byt i x hi hx).off ho fun g hg q=>(hS g q).1 (h.fU i x g hi hx hg),h.dk.sepV,h.dk.sepU⟩
 exact⟨h.var.off ho fun q=>(hS R q).1 h.fR,h.ge,A2,h.tail.move A1 (fun _ _ q=>q) ho fun g hg q=>(hS g q).1 (h.fT g hg),bC h.seen ho fun g hg q=>(hS g q).1 (h.fS g hg),h.acc.move A1 fun _ _ q=>q,h.fR,h.fD,h.fV,h.fU,h.fT,h.fS,fun k hk=>⟨(h.lt k hk).1,c9P (h.lt k hk).2 ho.size⟩,fun k hk=>⟨(h.dis k hk).1,c9P (h.dis k hk).2 ho.size⟩,h.wf⟩
theorem StP.bE(h:StP w N R F E c s D V U vt vs va tc)(hb:Bl w w'):StP w' N R F E c s D V U vt vs va tc:=h.out (Off.oE (S:=fun _=>False) hb) fun _ q=>q.elim
theorem uQ.out(h:uQ w N R F E c s)(ho:Off S w w')(hS: ∀k,S k→ ¬F k∧ ¬E k):uQ w' N R F E c s:=by
 obtain⟨D,V,U,vt,vs,va,tc,h⟩:=h;exact⟨D,V,U,vt,vs,va,tc,h.out ho hS⟩
theorem uQ.lt(h:uQ w N R F E c s){k:Nat}(hk:F k∨E k):k<w.heap.size:=by
 obtain⟨D,V,U,vt,vs,va,tc,h⟩:=h;rcases hk with q|q
 ·exact(h.lt k q).2
 ·exact(h.dis k q).2
theorem StP.disks(h:StP w N R F E c s D V U vt vs va tc)(ho:Off S w w')(hS: ∀k,S k→F k∧ ∃t,TyB w k t∧(t=58∨t=61∨t=5)){V':Nat→Value}{U':Nat→List HeC}{ds':List Sto.aM}(hdk:dM w' N D V' U' ds')(hlen:ds'.length=s.disks.length)
  (hF: ∀k,F k→F' k) (hF': ∀k,F' k→F k∨(w.heap.size≤k∧k<w'.heap.size)) (hNw:N≤w.heap.size) (hV: ∀i g,i<s.disks.length→(V' i).ownBlock=some g→F' g) (hU: ∀(i:Nat) (x:HeC) (g:Nat),i<s.disks.length→x∈U' i→(slV x.2.1).ownBlock=some g→F' g) (hwf:WfS c {s with disks:=ds'}):
  StP w' N R F' E c {s with disks:=ds'} D V' U' vt vs va tc∧dS w w' F F' E E:=by
 have hf:dS w w' F F' E E:=⟨ho.wider fun k q=>(hS k q).1,fun k q=>(hF' k q).imp id (·.1),fun _ q=>Or.inl q⟩
 have A1:=fun k hk he=>ho.block k hk fun q=>(h.dis k he).1 (hS k q).1;have no: ∀{g:Nat} {t:TypeId},TyB w g t→t≠58→t≠61→t≠5→ ¬S g:=fun {g t} ht n1 n2 n3 q=>by
  obtain⟨_,t',A0,z⟩:=hS g q;rcases z with rfl|rfl|rfl
  ·exact ht.ne A0 n1 rfl
  ·exact ht.ne A0 n2 rfl
  ·exact ht.ne A0 n3 rfl
 refine⟨⟨?_,h.ge,hdk,h.tail.move A1 (fun _ _ q=>q) ho fun g hg=>no (aU h.tail.own hg) (by decide) (by decide) (by decide),bC h.seen ho fun g hg=>no (aU h.seen hg) (by decide) (by decide) (by decide),h.acc.move A1 fun _ _ q=>q,hF _ h.fR,hF _ h.fD,fun i g hi=>hV i g (by rw[←hlen];exact hi),fun i x g hi=>hU i x g (by rw[←hlen];exact hi),fun g hg=>hF _ (h.fT g hg),fun g hg=>hF _ (h.fS g hg),fun k hk=>?_,fun k hk=>⟨fun q=>?_,c9P (h.dis k hk).2 ho.size⟩,hwf⟩,hf⟩
 ·show aV w' R _ (j6 c D ds'.length s.segs vt vs s.u va);rw[hlen];exact h.var.off ho (no h.var.ty (by decide) (by decide) (by decide))
 ·rcases hF' k hk with q|⟨q1,q2⟩
  ·exact⟨(h.lt k q).1,c9P (h.lt k q).2 ho.size⟩
  ·exact⟨c9E hNw q1,q2⟩
 ·rcases hF' k q with z|⟨z,_⟩
  ·exact(h.dis k hk).1 z
  ·exact absurd (h.dis k hk).2 (Nat.not_lt.2 z)
theorem StP.c3(h:StP w N R F E c s D V U vt vs va tc):w.cell? (aD R 3)=some (.slice (some (aD D 0)) s.disks.length s.disks.length):=h.var.cell rfl
end
def qG(w:World)(E:Nat→Prop)(v:Value)(a:Sto.Ans):Prop:= ∃ve va,v=.agg #[iV a.err,iV a.n,ve,iV a.vu,va]∧a0K w E ve a.evs∧a0S w E va a.vl
theorem qG.move{a:Sto.Ans}(h:qG w E v a)(hk: ∀k,k<w.heap.size→E k→w'.heap[k]?=w.heap[k]?)(hE: ∀k,k<w.heap.size→E k→E' k):qG w' E' v a:=by
 obtain⟨ve,va,hv,h1,h2⟩:=h;exact⟨ve,va,hv,h1.move hk hE,h2.move hk hE⟩
theorem fJ(w:World)(E:Nat→Prop)(x:Nat)(n:Int):qG w E (.agg #[iV x,iV n,nS,iV 0,nS]) ⟨x,n,[],0,[]⟩:=⟨_,_,rfl,a5Z w E,pC w E⟩
theorem WfD.set{ds:List Sto.aM}{m:Nat}(h:WfD ds m)(q:Nat){d':Sto.aM}(hd:Sto.Up d'.bl∧(∀h,h∈d'.bl→0≤h.1∧h.1<(m:Int))∧(d'.gone=true→d'.bl=[])):WfD (ds.set q d') m:=fun i d hi=>by
 by_cases e:i=q
 ·subst e
  rw[List.getElem?_set_self']at hi
  obtain⟨_,_,rfl⟩:=c9J.1 hi
  exact hd
 ·rw[d0P (fun z=>e z.symm)]at hi
  exact h i d hi
theorem WfS.disk{c:Sto.Cfg}{s:Sto.St}(h:WfS c s)(q:Nat){d':Sto.aM}(hd:Sto.Up d'.bl∧(∀h,h∈d'.bl→0≤h.1∧h.1<((100:Nat):Int))∧(d'.gone=true→d'.bl=[])):WfS c {s with disks:=s.disks.set q d'}:=
 ⟨by show(s.disks.set q d').length=_;rw[d0B];exact h.len,h.d1,h.d8,h.s4,h.b1,h.b10,h.wd.set q hd,h.segs,h.tail,h.bats,h.up,h.cmds,h.right⟩
section
variable {w : World} {N R D : Nat} {F E : Nat → Prop} {c : Sto.Cfg} {s : Sto.St} {V : Nat → Value} {U : Nat → List HeC} {vt vs va : Value} {tc : List (Int × Sl)} {ds : List Sto.aM}
theorem dM.swap(h:dM w N D V U ds){d:Sto.aM}(hq:ds[q]?=some d)(b:Bool):dM ((w.setCell (aD D (q*2)) (.bool b)).setCell (aD D (q*2+1)) nS) N D (upd V q nS) (upd U q []) (ds.set q ⟨b,[]⟩):=by
 have hl:=(c9H.1 hq).1;refine h.put hl ⟨b,[]⟩ nS [] ?_ (((Off.refl _ w).set (p:=⟨D,q*2,none⟩) (Or.inl rfl) _).set (p:=⟨D,q*2+1,none⟩) (Or.inl rfl) _) (World.ownsRow_nil _ N _ 2) rfl (fun x hx=>by cases hx) (fun g hg=>by cases hg) (fun a x g ha=>by cases ha) (fun a _ x _ g ha=>by cases ha);refine((h.row.set (q*2) (.bool b)).set (q*2+1) nS).congr fun j hj=>?_;rw[wU hq _ j];by_cases e:j=q*2
 ·rw[if_pos e,if_neg (by omega),if_pos e]
 ·rw[if_neg e];by_cases e2:j=q*2+1
  ·rw[if_pos e2,if_neg e]
  ·rw[if_neg e2,if_neg e]
theorem dM.spoilt(h:dM w N D V U ds){y:Nat}{d:Sto.aM}{x:HeC}(hq:ds[q]?=some d)(hx:(U q)[i]?=some x)(hv:slV x.2.1=.slice (some (aD g 0)) n cap)(hp:p<x.2.2.length)(hy:y<256):
  dM (w.setCell (aD g p) (.int .u8 ((y:Nat):Int))) N D V (upd U q ((U q).set i (x.1,x.2.1,x.2.2.set p y))) (ds.set q ⟨d.gone,d.bl.set i (x.1,x.2.2.set p y)⟩):=by
 have hl:=(c9H.1 hq).1;have A1:=(c9H.1 hx).1;have A2:=c9N hx;have hB:=h.byt q x hl A2;have A0:(slV x.2.1).ownBlock=some g:=by rw[hv];rfl
 have A3:=hB.ty A0;have ho:=aG w (aD g p) (.int .u8 ((y:Nat):Int));have H:=h.put (w':=w.setCell (aD g p) (.int .u8 ((y:Nat):Int))) hl ⟨d.gone,d.bl.set i (x.1,x.2.2.set p y)⟩ (V q) ((U q).set i (x.1,x.2.1,x.2.2.set p y)) ?_ (ho.wider fun k e=>Or.inr (Or.inr ⟨x,A2,by rw[A0,e]⟩)) ?_ ?_ (fun z hz=>?_) (fun b hb=>Or.inl hb) (fun a z b ha hb=>?_) (fun a b z z' e ha hb h1 h2=>?_)
 ·rw[oL]at H;exact H
 ·refine(h.row.of_block (ho.block D h.row.lt fun e=>h.row.ty.ne A3 (by decide) e)).congr fun j hj=>?_;rw[wU hq (V q) j];by_cases e:j=q*2
  ·rw[if_pos e,e];unfold dkF;rw[if_pos (by omega),show q*2/2=q by omega,c9R,hq];rfl
  ·rw[if_neg e];by_cases e2:j=q*2+1
   ·rw[if_pos e2,e2];unfold dkF;rw[if_neg (by omega),show(q*2+1)/2=q by omega]
   ·rw[if_neg e2]
 ·rw[d0B];have e:((U q).set i (x.1,x.2.1,x.2.2.set p y)).flatMap aJ=(U q).flatMap aJ:=by
   have h1:=uP (U q) i 0 x (x.1,x.2.1,x.2.2.set p y) (iV x.1) (by decide) hx rfl;rw[←h1];have h2:=dQ aJ 2 (U q) (fun _ _=>rfl) i 0 (by decide) x hx;obtain⟨h3,h4⟩:=c9H.1 (show((U q).flatMap aJ)[i*2+0]?=some (iV x.1)from h2);conv=>lhs;rw[←h4]
   exact List.set_getElem_self h3
  rw[e];exact bC (h.own q hl) ho fun b hb e=>(aU (h.own q hl) hb).ne A3 (by decide) e
 ·show d.bl.set i (x.1,x.2.2.set p y)=((U q).set i (x.1,x.2.1,x.2.2.set p y)).map kV;rw[List.map_set,h.bl q d hq];rfl
 ·obtain⟨a,ha⟩:=d1K.1 hz;by_cases e:a=i
  ·subst e;rw[d0O A1]at ha;cases ha
   show eQ _ N (slV x.2.1) (x.2.2.set p y);rw[hv]at hB⊢;exact hB.set hp hy
  ·rw[d0P (fun z=>e z.symm)]at ha;exact(h.byt q z hl (c9N ha)).off ho fun b hb e2=>e (h.sepU q q a i z x g hl hl ha hx (by rw[hb,e2]) A0).2
 ·by_cases e:a=i
  ·subst e;rw[d0O A1]at ha;cases ha
   exact Or.inl ⟨x,A2,hb⟩
  ·rw[d0P (fun z=>e z.symm)]at ha;exact Or.inl ⟨z,c9N ha,hb⟩
 ·have A4: ∀(a:Nat) (z:HeC),((U q).set i (x.1,x.2.1,x.2.2.set p y))[a]?=some z→ ∃z0,(U q)[a]?=some z0∧z0.2.1=z.2.1:=fun a z ha=>by
   by_cases e:a=i
   ·subst e;rw[d0O A1]at ha;cases ha
    exact⟨x,hx,rfl⟩
   ·rw[d0P (fun z=>e z.symm)]at ha;exact⟨z,ha,rfl⟩
  obtain⟨z0,q1,q2⟩:=A4 a z ha;obtain⟨z1,q3,q4⟩:=A4 b z' hb;exact(h.sepU q q a b z0 z1 e hl hl q1 q3 (by rw[q2];exact h1) (by rw[q4];exact h2)).2
def gJ(w w':World)(N R:Nat)(F E:Nat→Prop)(c:Sto.Cfg)(s:Sto.St)(D:Nat)(vt vs va:Value)(tc:List (Int×Sl))(ds':List Sto.aM):Prop:= ∃V' U',StP w' N R F E c {s with disks:=ds'} D V' U' vt vs va tc∧dS w w' F F E E
theorem gJ.same(h:StP w N R F E c s D V U vt vs va tc)(hb:Bl w w'):gJ w w' N R F E c s D vt vs va tc s.disks:=⟨V,U,h.bE hb,dS.oE F E hb⟩
theorem StP.swap(h:StP w N R F E c s D V U vt vs va tc){d:Sto.aM}(hq:s.disks[q]?=some d)(b:Bool)(hNw:N≤w.heap.size):gJ w ((w.setCell (aD D (q*2)) (.bool b)).setCell (aD D (q*2+1)) nS) N R F E c s D vt vs va tc (s.disks.set q ⟨b,[]⟩):=by
 have ho:Off (fun k=>k=D) w ((w.setCell (aD D (q*2)) (.bool b)).setCell (aD D (q*2+1)) nS):=((Off.refl (fun k=>k=D) w).set (p:=⟨D,q*2,none⟩) rfl _).set (p:=⟨D,q*2+1,none⟩) rfl _;refine⟨_,_,h.disks ho (fun k e=>⟨by rw[e];exact h.fD,_,by rw[e];exact h.dk.row.ty,Or.inl rfl⟩) (h.dk.swap hq b) (d0B ..) (fun _ z=>z) (fun _ z=>Or.inl z) hNw (fun i g hi hg=>?_) (fun i x g hi hx hg=>?_) (h.wf.disk q ⟨List.Pairwise.nil,fun _ hh=>(by cases hh),fun _=>rfl⟩)⟩
 ·by_cases e:i=q
  ·rw[e,bM]at hg;cases hg
  ·rw[aW _ _ e]at hg;exact h.fV i g hi hg
 ·by_cases e:i=q
  ·rw[e,bM]at hx;cases hx
  ·rw[aW _ _ e]at hx;exact h.fU i x g hi hx hg
theorem StP.spoilt(h:StP w N R F E c s D V U vt vs va tc){y:Nat}{d:Sto.aM}{x:HeC}(hq:s.disks[q]?=some d)(hx:(U q)[i]?=some x)(hv:slV x.2.1=.slice (some (aD g 0)) n cap)(hp:p<x.2.2.length)(hy:y<256)(hNw:N≤w.heap.size):
  gJ w (w.setCell (aD g p) (.int .u8 ((y:Nat):Int))) N R F E c s D vt vs va tc (s.disks.set q ⟨d.gone,d.bl.set i (x.1,x.2.2.set p y)⟩):=by
 have hl:=(c9H.1 hq).1;have A1:=c9N hx;have A4:(slV x.2.1).ownBlock=some g:=by rw[hv];rfl
 have A2:=h.wf.wd q d hq;have A3:=h.dk.bl q d hq;have A0:(d.bl.set i (x.1,x.2.2.set p y)).map (·.1)=d.bl.map (·.1):=by
  rw[List.map_set];have h1:(d.bl.map (·.1))[i]?=some x.1:=by
   rw[A3,gR,c9S,hx];rfl
  obtain⟨h3,h4⟩:=c9H.1 h1;show(d.bl.map (·.1)).set i x.1=_
  conv=>lhs;rw[←h4]
  exact List.set_getElem_self h3
 refine⟨_,_,h.disks (aG w (aD g p) (.int .u8 ((y:Nat):Int))) (fun k e=>⟨?_,_,?_,Or.inr (Or.inr rfl)⟩) (h.dk.spoilt hq hx hv hp hy) (d0B ..) (fun _ z=>z) (fun _ z=>Or.inl z) hNw (fun i g hi hg=>h.fV i g hi hg) (fun j z b hj hz hb=>?_) (h.wf.disk q ⟨?_,fun z hz=>?_,fun hgone=>?_⟩)⟩
 ·have e:k=g:=e;rw[e];exact h.fU q x g hl A1 A4
 ·have e:k=g:=e;rw[e];exact(h.dk.byt q x hl A1).ty A4
 ·by_cases e:j=q
  ·subst e;rw[bM]at hz;rcases List.mem_or_eq_of_mem_set hz with z1|rfl
   ·exact h.fU j z b hj z1 hb
   ·exact h.fU j x b hj A1 hb
  ·rw[aW _ _ e]at hz;exact h.fU j z b hj hz hb
 ·rw[Sto.oW];show UpI ((d.bl.set i (x.1,x.2.2.set p y)).map (·.1))
  rw[A0];exact Sto.oW.1 A2.1
 ·have A5:z.1∈(d.bl.set i (x.1,x.2.2.set p y)).map (·.1):=List.mem_map_of_mem hz
  rw[A0]at A5;obtain⟨z',A6,e⟩:=d0G.1 A5;rw[←e];exact A2.2.1 z' A6
 ·have:=A2.2.2 hgone;rw[A3]at this;have:U q=[]:=List.map_eq_nil_iff.1 this;rw[this]at A1;cases A1
end
def a6X(e:Ending)(w w':World)(N R:Nat)(F E:Nat→Prop)(c:Sto.Cfg)(s:Sto.St)(D:Nat)(vt vs va:Value)(tc:List (Int×Sl))(x:Nat)(ds':List Sto.aM):Prop:=e=.returned (iV x)∧gJ w w' N R F E c s D vt vs va tc ds'
section
variable {N R D : Nat} {F E : Nat → Prop} {c : Sto.Cfg} {s : Sto.St} {V : Nat → Value} {U : Nat → List HeC} {vt vs va : Value} {tc : List (Int × Sl)}
theorem Tryz.enters_lose: ∀args w,(callFunc 25 args).run Tryz.prog w=.ok (.enter 25 args) w:=enters_of Tryz.func25 (by kernel_rfl) rfl
theorem Tryz.enters_swap: ∀args w,(callFunc 26 args).run Tryz.prog w=.ok (.enter 26 args) w:=enters_of Tryz.func26 (by kernel_rfl) rfl
theorem c1I(q:Nat)(d:Sto.aM)(w:World)(h:StP w N R F E c s D V U vt vs va tc)(hq:s.disks[q]?=some d)(hNw:N≤w.heap.size):
  Calls prog 25 #[.pointer (some (aD D (q*2)))] w fun e w'=>a6X e w w' N R F E c s D vt vs va tc (if d.gone then 8 else 0) (if d.gone then s.disks else s.disks.set q ⟨true,[]⟩):=by
 have g0:=h.dk.gone hq;have g1:=h.dk.held (c9H.1 hq).1;have f0:=h.dk.row.frozen (q*2);have f1:=h.dk.row.frozen (q*2+1);cases hg:d.gone with
 |true=>
  have HH:=hd8 (gJ.same h (Below.refl _ _));rw[hg]at g0;clear h hg;go_enter func25,ntmps25
  go_wp2_with fail;go_ret
  exact⟨rfl,HH.out⟩
 |false=>
  have HH:=hd8 (h.swap hq true hNw);rw[hg]at g0;clear h hg;go_enter func25,ntmps25
  go_wp2_with fail;go_ret
  exact⟨rfl,HH.out⟩
theorem c1L(q:Nat)(d:Sto.aM)(w:World)(h:StP w N R F E c s D V U vt vs va tc)(hq:s.disks[q]?=some d)(hNw:N≤w.heap.size):
  Calls prog 26 #[.pointer (some (aD D (q*2)))] w fun e w'=>a6X e w w' N R F E c s D vt vs va tc 0 (s.disks.set q ⟨false,[]⟩):=by
 have g0:=h.dk.gone hq;have g1:=h.dk.held (c9H.1 hq).1;have f0:=h.dk.row.frozen (q*2);have f1:=h.dk.row.frozen (q*2+1);have HH:=hd8 (h.swap hq false hNw);clear h;go_enter func26,ntmps26
 go_wp2_with fail;go_ret
 exact⟨rfl,HH.out⟩
def dO(ds:List Sto.aM)(q:Nat)(d:Sto.aM)(k p:Int)(y:Nat):Nat×List Sto.aM:=match d.bl.find? (fun h=>decide (h.1=k))with
 |none=>(6,ds)
 |some h=>if p<0∨(h.2.length:Int)≤p then(3,ds)else(0,ds.set q ⟨d.gone,Sto.mJ k p.toNat y d.bl⟩)
theorem b7M(q:Nat)(d:Sto.aM)(k p:Int)(y:Nat)(w:World)(h:StP w N R F E c s D V U vt vs va tc)(hq:s.disks[q]?=some d)(hNw:N≤w.heap.size)(hy:y<256):
  Calls prog 28 #[.pointer (some (aD D (q*2))),iV k,iV p,.int .u8 y] w fun e w'=>a6X e w w' N R F E c s D vt vs va tc (dO s.disks q d k p y).1 (dO s.disks q d k p y).2:=by
 have hl:=(c9H.1 hq).1;have g1:=h.dk.held hl;obtain⟨Ai,Al⟩:=h.dk.up h.wf.wd hl;have Ah:=h.wf.segs;have Af:=h.dk.bl q d hq;have HE:=h.dk.heIn hl;have HF:=zN k (V q) (U q) w HE Ai (by omega);have HP:=hd8 h;have HQ:=hd8 hq;have HU:=hd8 ((h.wf.wd q d hq).1);have HB:=hd8 Af;obtain⟨A,C,hV,An,Ae,A1⟩:=HE;rw[hV]at g1 HF;have Ak:=mL8 Ae;have Aj:=hd8 A1;clear h hq Ai Af hV A1 Ae;go_enter func28,ntmps28
 go_wp2_with fail;refine HF.mono ?_;rintro e w1 ⟨⟨i,z,rfl,hcut,hz⟩,b1⟩;have HC:Hid (kZ (d.bl.map (·.1)) k i):=by
  show kZ (d.bl.map (·.1)) k i
  rw[HB.out,gR];exact hcut
 have A7:(d.bl.map (·.1))=(U q).map (·.1):=by rw[HB.out,gR]
 have g1:=cB8 b1 g1;clear HF hcut;cases z with
 |false=>
  have HN:Hid (dO s.disks q d k p y=(6,s.disks)):=by
   show dO s.disks q d k p y=(6,s.disks);unfold dO;rw[Sto.b8T HU.out HC.out fun z=>absurd (hz.2 (by rw[←A7];exact z)) (by decide)]
  have HH:=hd8 (gJ.same HP.out b1);clear hz A7;go_wp2_with fail;go_ret
  exact⟨by rw[HN.out];rfl,by rw[HN.out];exact HH.out⟩
 |true=>
  have hk:=hz.1 rfl;rw[c9S]at hk;obtain⟨x,hx,A4⟩:=c9J.1 hk;have A6:d.bl[i]?=some (kV x):=by
   rw[HB.out,c9S,hx];rfl
  have A0:=Sto.a9S HU.out HC.out A6 A4;obtain⟨b,o,rfl,_,d1⟩:=Aj.out i x hx;have d1:=cB8 b1 d1;have A5:=HP.out.bE b1;have hB:=A5.dk.byt q x hl (c9N hx);obtain⟨gx,cx,A9,_,A2,Ac,A8⟩:=hB.at;have Ag:=mL8 Ac;obtain⟨nx,A3⟩: ∃nx,nx=x.2.2.length:=⟨_,rfl⟩;have Ao:(i:Int)<((U q).length:Int):=by
   have:=(c9H.1 hx).1;omega
  rw[A9,←A3]at d1;by_cases hp:p<0∨(x.2.2.length:Int)≤p
  ·have HN:Hid (dO s.disks q d k p y=(3,s.disks)):=by
    show dO s.disks q d k p y=(3,s.disks);unfold dO;rw[A0];exact if_pos hp
   have HH:=hd8 (gJ.same HP.out b1);rw[←A3]at hp A2;clear hz A7 hk hx A4 A6 A0 A5 hB A9 A8 A3;by_cases Ap:p<0
   ·clear hp;go_wp2_with fail;go_ret
    exact⟨by rw[HN.out];rfl,by rw[HN.out];exact HH.out⟩
   ·have Aq:(nx:Int)≤p:=by omega
    clear hp;go_wp2_with fail;go_ret
    exact⟨by rw[HN.out];rfl,by rw[HN.out];exact HH.out⟩
  ·obtain⟨p',rfl⟩: ∃p':Nat,p=(p':Int):=⟨p.toNat,by omega⟩;have Ad:p'<x.2.2.length:=by omega
   have Aa:=Sto.kH hB.1 p';have dx:=A8.cell Ad;have fx:=A8.frozen p';obtain⟨bx,Ab⟩: ∃bx,bx=x.2.2.getD p' 0:=⟨_,rfl⟩;rw[←Ab]at dx Aa;have Am:=d2A (n:=8) Aa hy;have HN:Hid (dO s.disks q d k p' y=(0,s.disks.set q ⟨d.gone,d.bl.set i (x.1,x.2.2.set p' (bx^^^y))⟩)):=by
    show dO s.disks q d k p' y=_;unfold dO;rw[A0];show(if (p':Int)<0∨(x.2.2.length:Int)≤(p':Int)then _ else _)=_;rw[if_neg hp,c9Q,Sto.pD HU.out A6 A4,Ab,A4];rfl
   have HH:Hid (gJ w (w1.setCell (aD gx p') (.int .u8 ((bx^^^y:Nat):Int))) N R F E c s D vt vs va tc (s.disks.set q ⟨d.gone,d.bl.set i (x.1,x.2.2.set p' (bx^^^y))⟩)):=by
    obtain⟨V',U',q1,q2⟩:=A5.spoilt HQ.out hx A9 Ad Am (c9E hNw b1.size);exact⟨V',U',q1,(dS.oE F E b1).trans q2⟩
   have hX:=u8_xor_nat bx y Aa hy;have Ar:(p':Int)<(nx:Int):=by omega
   have As:p'<nx:=by omega
   rw[←A3]at A2;clear hz A7 hk hx A4 A6 A0 A5 hB A9 A8 A3 hp Ad Ab;go_wp2_with fail;go_ret
   exact⟨by rw[HN.out];rfl,by rw[HN.out];exact HH.out⟩
end
abbrev dI(x:Int)(n:Int):Value:=.agg #[iV x,iV n,nS,iV 0,nS]
abbrev cJ(x n:Int):Array Value:=#[iV x,iV n,nS,iV 0,nS]
section
variable {N R D : Nat} {F E : Nat → Prop} {c : Sto.Cfg} {s : Sto.St} {V : Nat → Value} {U : Nat → List HeC} {vt vs va : Value} {tc : List (Int × Sl)}
def ChP(e:Ending)(w w':World)(N R:Nat)(F E:Nat→Prop)(c:Sto.Cfg)(s:Sto.St)(D:Nat)(vt vs va:Value)(tc:List (Int×Sl))(x:Nat)(ds':List Sto.aM):Prop:=e=.returned (dI (x:Nat) 0)∧gJ w w' N R F E c s D vt vs va tc ds'
theorem gJ.local{w1 w2 w3:World}{ds':List Sto.aM}{B:Nat}(hb:Bl w w1)(h:gJ w1 w2 N R F E c s D vt vs va tc ds')(ho:Off (fun k=>k=B) w2 w3)(hB:w.heap.size≤B)(hF: ∀k,F k∨E k→k<w.heap.size):gJ w w3 N R F E c s D vt vs va tc ds':=by
 obtain⟨V',U',q1,q2⟩:=h;have q3:=(dS.oE F E hb).trans q2;refine⟨V',U',q1.out ho fun k e=>⟨fun z=>?_,fun z=>?_⟩,q3.off.past ho fun k e hk=>?_,q3.growF,q3.growE⟩
 ·have:=hF k (Or.inl z);omega
 ·have:=hF k (Or.inr z);omega
 ·omega
theorem aT(w:World)(B:Nat)(a b c d e:Value):Off (fun k=>k=B) w (((((w.setCell (aD B 0) a).setCell (aD B 1) b).setCell (aD B 2) c).setCell (aD B 3) d).setCell (aD B 4) e):=
 (((((Off.refl (fun k=>k=B) w).set (p:=⟨B,0,none⟩) rfl a).set (p:=⟨B,1,none⟩) rfl b).set (p:=⟨B,2,none⟩) rfl c).set (p:=⟨B,3,none⟩) rfl d).set (p:=⟨B,4,none⟩) rfl e
def c8K(g:Nat)(caps:Array Value)(N R:Nat)(F E:Nat→Prop)(c:Sto.Cfg)(s:Sto.St)(D:Nat)(vt vs va:Value)(tc:List (Int×Sl))(w:World)(q x:Nat)(ds':List Sto.aM):Prop:=
 ∀w' V U,Bl w w'→StP w' N R F E c s D V U vt vs va tc→Calls prog g (#[.pointer (some (aD D (q*2)))]++caps) w' fun e w''=>a6X e w' w'' N R F E c s D vt vs va tc x ds'
theorem tO(g:Nat)(n:Int)(w:World)(h:StP w N R F E c s D V U vt vs va tc)(hn:n<0∨(s.disks.length:Int)≤n):
  Calls prog 24 #[.pointer (some (aD R 0)),iV n,.func (.func g) #[] #[]] w fun e w'=>ChP e w w' N R F E c s D vt vs va tc 6 s.disks:=by
 have bA:=aB8 w (.cells (cJ 0 0) 42);have c3:=(bA.cell (p:=⟨R,3,none⟩) (World.block_lt_of_cell? _ _ h.c3)).trans h.c3;have HH:Hid (gJ w (w.alloc (.cells (cJ 6 0) 42)) N R F E c s D vt vs va tc s.disks):=gJ.same h (aB8 _ _);have A0:s.disks.length≤12:=by have:=h.wf.len;have:=h.wf.d8;have:=h.wf.s4;omega
 obtain⟨L,hL⟩: ∃L,L=s.disks.length:=⟨_,rfl⟩;rw[←hL]at c3 hn A0;clear h bA hL;by_cases A1:n<0
 ·clear hn;go_enter func24,ntmps24
  go_wp2_with fail;refine bodyPost_ret (v:=dI 6 0) (by simp[results,results24,go_sem]) rfl ⟨rfl,?_⟩;exact HH.out
 ·have A2:(L:Int)≤n:=by omega
  clear hn;go_enter func24,ntmps24
  go_wp2_with fail;refine bodyPost_ret (v:=dI 6 0) (by simp[results,results24,go_sem]) rfl ⟨rfl,?_⟩;exact HH.out
theorem sI(g:Nat)(eg: ∀args w,(callFunc g args).run prog w=.ok (.enter g args) w)(q x:Nat)(ds':List Sto.aM)(w:World)(h:StP w N R F E c s D V U vt vs va tc)(hq:q<s.disks.length)(HG:c8K g #[] N R F E c s D vt vs va tc w q x ds'):
  Calls prog 24 #[.pointer (some (aD R 0)),iV q,.func (.func g) #[] #[]] w fun e w'=>ChP e w w' N R F E c s D vt vs va tc x ds':=by
 have bA:=aB8 w (.cells (cJ 0 0) 42);have VB:=aC w (cJ 0 0) 42;have c3:=(bA.cell (p:=⟨R,3,none⟩) (World.block_lt_of_cell? _ _ h.c3)).trans h.c3;have HC:=HG _ V U bA (h.bE bA);have A1:s.disks.length≤12:=by have:=h.wf.len;have:=h.wf.d8;have:=h.wf.s4;omega
 have A2:Hid (∀k,F k∨E k→k<w.heap.size):=fun k hk=>(show uQ w N R F E c s from⟨_,_,_,_,_,_,_,h⟩).lt hk;have A4:=hd8 VB;have A3:=hd8 bA;obtain⟨L,hL⟩: ∃L,L=s.disks.length:=⟨_,rfl⟩;rw[←hL]at c3 hq A1;have A5:(q:Int)<(L:Int):=by omega
 have A6: ¬(q:Int)<0:=by omega
 clear h bA VB hL HG;go_enter func24,ntmps24
 go_wp2_with fail;refine HC.mono ?_;rintro e w2 ⟨rfl,hP⟩;have A0:aV w2 w.heap.size 42 (cJ 0 0).toList:=by
  obtain⟨V',U',q1,q2⟩:=hP;exact A4.out.off q2.off fun z=>by
   have:=A2.out _ (Or.inl z);omega
 have HH:Hid (∀a b d e f,gJ w (((((w2.setCell (aD w.heap.size 0) a).setCell (aD w.heap.size 1) b).setCell (aD w.heap.size 2) d).setCell (aD w.heap.size 3) e).setCell (aD w.heap.size 4) f) N R F E c s D vt vs va tc ds'):=fun a b d e f=>
  gJ.local A3.out hP (aT _ _ a b d e f) (c9C _) A2.out
 have b0:=A0.q0;have b1:=A0.q1;have b2:=A0.q2;have b3:=A0.q3;have b4:=A0.q4;have f0:=A0.frozen 0;have f1:=A0.frozen 1;have f2:=A0.frozen 2;have f3:=A0.frozen 3;have f4:=A0.frozen 4;clear HC hP A0;go_wp2_with fail;refine bodyPost_ret (v:=dI (x:Nat) 0) (by simp[results,results24,go_sem,b0,b1,b2,b3,b4]) rfl ⟨rfl,?_⟩;exact HH.out _ _ _ _ _
theorem a3N(g:Nat)(k:Value)(n:Int)(w:World)(h:StP w N R F E c s D V U vt vs va tc)(hn:n<0∨(s.disks.length:Int)≤n):
  Calls prog 24 #[.pointer (some (aD R 0)),iV n,.func (.func g) #[] #[k]] w fun e w'=>ChP e w w' N R F E c s D vt vs va tc 6 s.disks:=by
 have bA:=aB8 w (.cells (cJ 0 0) 42);have c3:=(bA.cell (p:=⟨R,3,none⟩) (World.block_lt_of_cell? _ _ h.c3)).trans h.c3;have HH:Hid (gJ w (w.alloc (.cells (cJ 6 0) 42)) N R F E c s D vt vs va tc s.disks):=gJ.same h (aB8 _ _);have A0:s.disks.length≤12:=by have:=h.wf.len;have:=h.wf.d8;have:=h.wf.s4;omega
 obtain⟨L,hL⟩: ∃L,L=s.disks.length:=⟨_,rfl⟩;rw[←hL]at c3 hn A0;clear h bA hL;by_cases A1:n<0
 ·clear hn;go_enter func24,ntmps24
  go_wp2_with fail;refine bodyPost_ret (v:=dI 6 0) (by simp[results,results24,go_sem]) rfl ⟨rfl,?_⟩;exact HH.out
 ·have A2:(L:Int)≤n:=by omega
  clear hn;go_enter func24,ntmps24
  go_wp2_with fail;refine bodyPost_ret (v:=dI 6 0) (by simp[results,results24,go_sem]) rfl ⟨rfl,?_⟩;exact HH.out
theorem a4Z(g:Nat)(k:Value)(eg: ∀args w,(callFunc g args).run prog w=.ok (.enter g args) w)(q x:Nat)(ds':List Sto.aM)(w:World)(h:StP w N R F E c s D V U vt vs va tc)(hq:q<s.disks.length)(HG:c8K g #[k] N R F E c s D vt vs va tc w q x ds'):
  Calls prog 24 #[.pointer (some (aD R 0)),iV q,.func (.func g) #[] #[k]] w fun e w'=>ChP e w w' N R F E c s D vt vs va tc x ds':=by
 have bA:=aB8 w (.cells (cJ 0 0) 42);have VB:=aC w (cJ 0 0) 42;have c3:=(bA.cell (p:=⟨R,3,none⟩) (World.block_lt_of_cell? _ _ h.c3)).trans h.c3;have HC:=HG _ V U bA (h.bE bA);have A1:s.disks.length≤12:=by have:=h.wf.len;have:=h.wf.d8;have:=h.wf.s4;omega
 have A2:Hid (∀k,F k∨E k→k<w.heap.size):=fun k hk=>(show uQ w N R F E c s from⟨_,_,_,_,_,_,_,h⟩).lt hk;have A4:=hd8 VB;have A3:=hd8 bA;obtain⟨L,hL⟩: ∃L,L=s.disks.length:=⟨_,rfl⟩;rw[←hL]at c3 hq A1;have A5:(q:Int)<(L:Int):=by omega
 have A6: ¬(q:Int)<0:=by omega
 clear h bA VB hL HG;go_enter func24,ntmps24
 go_wp2_with fail;refine HC.mono ?_;rintro e w2 ⟨rfl,hP⟩;have A0:aV w2 w.heap.size 42 (cJ 0 0).toList:=by
  obtain⟨V',U',q1,q2⟩:=hP;exact A4.out.off q2.off fun z=>by
   have:=A2.out _ (Or.inl z);omega
 have HH:Hid (∀a b d e f,gJ w (((((w2.setCell (aD w.heap.size 0) a).setCell (aD w.heap.size 1) b).setCell (aD w.heap.size 2) d).setCell (aD w.heap.size 3) e).setCell (aD w.heap.size 4) f) N R F E c s D vt vs va tc ds'):=fun a b d e f=>
  gJ.local A3.out hP (aT _ _ a b d e f) (c9C _) A2.out
 have b0:=A0.q0;have b1:=A0.q1;have b2:=A0.q2;have b3:=A0.q3;have b4:=A0.q4;have f0:=A0.frozen 0;have f1:=A0.frozen 1;have f2:=A0.frozen 2;have f3:=A0.frozen 3;have f4:=A0.frozen 4;clear HC hP A0;go_wp2_with fail;refine bodyPost_ret (v:=dI (x:Nat) 0) (by simp[results,results24,go_sem,b0,b1,b2,b3,b4]) rfl ⟨rfl,?_⟩;exact HH.out _ _ _ _ _
end
end Go.Proofs.YtmcaejooaaahdaaGreat
