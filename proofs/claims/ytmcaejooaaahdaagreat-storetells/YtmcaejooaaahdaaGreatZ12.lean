import Derived.Test.YtmcaejooaaahdaaGreatZ11
set_option maxHeartbeats 8000000
set_option maxRecDepth 100000
namespace Go.Proofs.YtmcaejooaaahdaaGreat
open Go.Proofs.Tryz
variable {M N g i k:Nat} {r:List Nat} {v:Value} {w:World}
open Go.RowKit
theorem iB.lower{L:List (List Nat)}{Y:Nat→Sl}(h:iB w N v L Y)(hM:M≤N):iB w M v L Y:=
 ⟨rS h.own hM,fun i hi=>(h.byt i hi).lower hM,h.sep⟩
theorem iB.start(w:World)(N:Nat)(Y:Nat→Sl):iB w N nS [] Y:=
 ⟨World.ownsRow_nil w N _ 1,fun i hi=>absurd hi (c9L i),fun i _ _ hi=>absurd hi (c9L i)⟩
theorem iB.lt{L:List (List Nat)}{Y:Nat→Sl}(h:iB w N v L Y)(hi:i<L.length)(hg:(slV (Y i)).ownBlock=some g):g<w.heap.size:=((h.byt i hi).ty hg).lt
theorem iB.step{w':World}{v':Value}{L:List (List Nat)}{Y:Nat→Sl}{y:Sl}(h:iB w N v L Y)(hr:eQ w N (slV y) r)(hne: ∀i g,i<L.length→(slV (Y i)).ownBlock=some g→(slV y).ownBlock≠some g)
  (ho:w'.ownsRow N 59 1 v' (L.length+1) (((List.range L.length).map fun i=>slV (Y i))++[slV y])) (hg:w.grownBy w' v.ownBlock):iB w' N v' (L++[r]) (upd Y L.length y):=by
 have A2:=cJ hg;have A1: ∀{u:Value} {t:List Nat},eQ w N u t→eQ w' N u t:=fun {u t} hu=>hu.off A2 fun g hb s=>(hu.ty hb).ne (aU h.own s) (by decide) rfl;have A0:(L++[r]).length=L.length+1:=by rw[c9I];rfl
 refine⟨?_,fun i hi=>?_,fun i j g hi hj h1 h2=>?_⟩
 ·rw[A0];have e:((List.range (L.length+1)).map fun i=>slV (upd Y L.length y i))=((List.range L.length).map fun i=>slV (Y i))++[slV y]:=by
   rw[d1G,c9U];refine congr (congrArg _ ?_) ?_
   ·refine d1H fun i hi=>?_;rw[aV _ _ (by have:=d0D.1 hi;omega)]
   ·show[slV (upd Y L.length y L.length)]=[slV y];rw[bM]
  rw[e];exact ho
 ·rw[A0]at hi;by_cases e:i=L.length
  ·subst e;rw[bM,c9R,d0S (c9C _),d1L];exact A1 hr
  ·rw[aV _ _ e,c9R,d0M (by omega),←c9R];exact A1 (h.byt i (by omega))
 ·rw[A0]at hi hj;by_cases e:i=L.length
  ·by_cases e2:j=L.length
   ·rw[e,e2]
   ·subst e;rw[bM]at h1;rw[aV _ _ e2]at h2;exact absurd h1 (hne j g (by omega) h2)
  ·rw[aV _ _ e]at h1;by_cases e2:j=L.length
   ·subst e2;rw[bM]at h2;exact absurd h2 (hne i g (by omega) h1)
   ·rw[aV _ _ e2]at h2;exact h.sep i j g (by omega) (by omega) h1 h2
def zI(seg L n:Nat)(F:Nat→Nat→Nat)(j:Nat):List (List Nat):=(List.range j).map fun i=>bl (Crc.enc seg i L n (F i)) (n+11)
theorem a8Y(seg L n:Nat)(F:Nat→Nat→Nat)(j:Nat):(zI seg L n F j).length=j:=by
 unfold zI;rw[c9M,d1E]
theorem b8E(seg L n:Nat)(F:Nat→Nat→Nat)(j:Nat):zI seg L n F (j+1)=zI seg L n F j++[bl (Crc.enc seg j L n (F j)) (n+11)]:=by
 unfold zI;rw[d1G,c9U];rfl
theorem b2Q(v:Value)(m n:Nat)(F:Nat→Nat→Nat)(seg L:Nat)(w:World)(h:Lls w v m (fun _=>n) F)(hm:m≤12)(hW: ∀j,j<m→Crc.aA seg j L n=0):
  Calls prog 112 #[v,iV seg,iV L] w fun e w'=> ∃v' Y,e=.returned (.tuple #[v',iV 0])∧iB w' w.heap.size v' (zI seg L n F m) Y∧Bl w w':=by
 obtain⟨A,C,rfl⟩:=h.shape;have bd:=h.bd;have HL:=hd8 fun w' hb r hr=>(h.below hb).at hr;have HW:=hd8 hW;have HE:Hid (∀j:Nat,a3M (seg:Int) (j:Int) (L:Int) n (F j)=Crc.enc seg j L n (F j)):=fun j=>rfl;have Ad:=hd8 fun j hj=>b3F (s:=(seg:Int)) (h:=(j:Int)) (z:=(L:Int)) (bd j) (hW j hj);obtain⟨i0,Ae,hh⟩:=c9J.1 Tryz.infoRow;simp only[Prod.mk.injEq]at hh;obtain⟨A8,Ah,Aa⟩:=hh;clear h hW;go_enter func112,ntmps112
 go_wp2_with fail;go_loopw [8,15] (fun y x wr=> ∃(j:Nat) (Y:Nat→Sl),j≤m∧x=iV j∧iB wr w.heap.size y (zI seg L n F j) Y∧Bl w wr) (fun _ x _=>m-(intOf x).toNat)
 case atStart=>exact⟨0,fun _=>(none,0,0),c9D _,rfl,iB.start _ _ _,Below.refl _ _⟩
 case round=>
  obtain⟨j,Y,hj,rfl,hP,hb⟩:=hrel;by_cases A2:j<m
  ·have Ab:(j:Int)<(m:Int):=by omega
   obtain⟨b9,o9,R9,K9,rfl,t9,y9⟩:=HL.out wr hb j A2;have A3:=a1I (.agg #[iV seg,iV j,iV L,.slice R9 n K9]) seg j L n (F j) wr ⟨_,rfl,y9⟩;rw[HW.out j A2,HE.out j]at A3;clear y9;go_wp2_with fail;refine A3.mono ?_;rintro e w6 ⟨v6,rfl,O6,b6⟩;have Ag:kK w6 wr.heap.size v6 (n+11) (Crc.enc seg j L n (F j)):=by
    rcases O6 with⟨_,q⟩|⟨q,_⟩
    ·exact q
    ·exact absurd rfl q
   obtain⟨g6,c6,rfl,Af,q1,q2,q3⟩:=Ag;have A5:eQ w6 w.heap.size (slV (some (aD g6 0),n+11,c6)) (bl (Crc.enc seg j L n (F j)) (n+11)):=by
    refine⟨a6X (Ad.out j A2) _,g6,c6,by rw[Sto.lY];rfl,c9E hb.size Af,by rw[Sto.lY];exact q1,q2,?_⟩;rw[Sto.lY];refine q3.congr fun i hi=>?_;show Value.int .u8 ((Crc.enc seg j L n (F j) i:Nat):Int)=Value.int .u8 (((bl (Crc.enc seg j L n (F j)) (n+11)).getD i 0:Nat):Int);rw[Sto.c8H _ hi]
   have A0:=(Below.refl w6.heap.size w6).alloc (c9C _) (.cells #[.slice (some (aD g6 0)) (n+11) c6] 59);have A7:Hid (∀i g,i<(zI seg L n F j).length→(slV (Y i)).ownBlock=some g→(slV (some (aD g6 0),n+11,c6)).ownBlock≠some g):=fun i g hi hg e=>by
    have:=hP.lt hi hg;cases e
    have:g6<wr.heap.size:=this;omega
   have A1:=(hP.below b6).below A0;have HP:=hd8 A1;have A9:=hd8 (A5.below A0);have bX:=bt (bt hb b6) A0;have Ac:=A1.own.lt;have A4:=A1.own;rw[a8Y]at A4;clear A3 O6 A0 hP A1 A5 q3;go_wp2_with (at_builtin;go_loud (refine wpList_append_own _ rfl (.tmp 32) (.tmp 34) 86 rfl w.heap.size 59 i0 nS 1 24 underlying86 Ae A8 Ah Aa rfl (by decide) _ _ _ rfl A4 (aD w6.heap.size 0) 1 1 [.slice (some (aD g6 0)) (n+11) c6] rfl rfl cZ (by intro u hu;simp at hu;subst hu;rfl) (by unfold maxLen;omega) (by omega) bX.size ?_;intro v7 w7 hown1 hgrow1 _));have b7:=bX.grown hgrow1 bX.size (fun x hx=>(Ac x hx).1);have A6:=HP.out.step A9.out A7.out (by rw[a8Y];exact hown1) hgrow1;rw[←b8E]at A6;exact⟨⟨j+1,_,by omega,by go_num,A6,b7⟩,by simp[intOf];omega⟩
  ·obtain rfl:j=m:=by omega
   go_wp2_with fail;go_ret2
   exact⟨_,_,rfl,hP,hb⟩
theorem c6G(v:Value)(L:Nat)(r:Nat→Nat)(seg d s:Nat)(w:World)(h:cF w v L r)(h1:1≤d)(h2:d≤8)(h3:s≤4)(h4:seg≤39)(h5:L≤400*d):
  Calls prog 79 #[v,iV seg,iV d,iV s] w fun e w'=> ∃v' Y,e=.returned (.tuple #[v',iV 0])∧iB w' w.heap.size v' (zI seg L (Seg.dF L d) (Seg.lA r L d) (d+s)) Y∧Bl w w':=by
 have HW:=fun w'=>d9 (d:Int) (s:Int) w';rw[cN (by omega)]at HW;have hL:=h.len;have A0:=hd8 fun w' hb=>zZ v L r d w' (h.below hb) h1 h2 h5;have A2:=Seg.pK L d h1;have A4:=Seg.nA h1 h5;have A3:Hid (Gf.Bd2 (Seg.eT r L (Seg.dF L d))):=Seg.wU h.bd L _;have A1:Hid (∀j,j<d+s→Crc.aA seg j L (Seg.dF L d)=0):=fun j hj=>Crc.kC (by omega) (by omega);obtain⟨A,C,rfl⟩:=h.shape;have q1: ¬40≤(seg:Int):=by omega
 have q2: ¬400*(d:Int)<(L:Int):=by omega
 have q3: ¬(d:Int)*400<(L:Int):=by omega
 clear h h5;go_enter func79,ntmps79
 go_wp2_with fail;refine(HW _).mono ?_;rintro e w1 ⟨rfl,b1⟩;clear HW;go_wp2_with fail;refine(A0.out _ b1).mono ?_;rintro e w2 ⟨v2,U2,rfl,P2,b2⟩;have HJ:=xH w1.heap.size v2 d s _ U2 _ w2 P2 A3.out h1 h2 h3 A2 A4 b2.size;clear A0 P2;go_wp2_with fail;refine HJ.mono ?_;rintro e w3 ⟨vm,v9,w5,rfl,r9,L9,b5⟩;have HB:=b2Q v9 (d+s) (Seg.dF L d) _ seg L w5 L9 (by omega) A1.out;have b5:=bt b1 (b2.trans b5);clear HJ L9;go_wp2_with (at_builtin;refine Lib.wpList_append_run _ rfl (.tmp 43) (.tmp 44) 86 86 rfl _ _ rfl rfl _ _ r9 ?_);refine HB.mono ?_;rintro e w6 ⟨v6,Y6,rfl,P6,b6⟩;have bz:=bt b5 b6;have P6:=P6.lower b5.size;have A5:=hd8 P6;clear HB r9 P6;go_wp2_with fail;go_ret2
 exact⟨_,_,rfl,A5.out,bz⟩
section
variable {X : Sto.Six}
def b7L(e:Ending)(w':World)(N:Nat)(y:Nat×List (List Nat)):Prop:= ∃v',e=.returned (.tuple #[v',iV y.1])∧((y.1=0∧ ∃Y,iB w' N v' y.2 Y)∨(y.1≠0∧v'=nS))
theorem a7Q(v:Value)(r:List Nat)(seg:Nat)(c:Sto.Cfg)(w:World)(h:cW w v r):
  Calls prog 79 #[v,iV seg,iV c.d,iV c.s] w fun e w'=>b7L e w' w.heap.size (Sto.lZ r seg c)∧Bl w w':=by
 by_cases hE:Seg.gU r.length seg c.d c.s=0
 ·obtain⟨h1,h2,h3,h4,h5⟩:=Sto.xG hE;refine(c6G v r.length (fun j=>r.getD j 0) seg c.d c.s w h.byts h1 h2 h3 h4 h5).mono ?_;rintro e w' ⟨v',Y,rfl,hl,hb⟩;have hx:Sto.lZ r seg c=(0,zI seg r.length (Seg.dF r.length c.d) (Seg.lA (fun j=>r.getD j 0) r.length c.d) (c.d+c.s)):=by
   unfold Sto.lZ zI;rw[if_pos hE];congr 1;refine d1H fun i hi=>?_;rw[Seg.a4C (by have:=d0D.1 hi;omega)]
  rw[hx];exact⟨⟨v',rfl,Or.inl ⟨rfl,Y,hl⟩⟩,hb⟩
 ·refine(c4Y v r.length (fun j=>r.getD j 0) seg c.d c.s w h.byts).mono ?_;rintro e w' ⟨v',rfl,hl,hb⟩;have hx:Sto.lZ r seg c=(Seg.gU r.length seg c.d c.s,[]):=if_neg hE;rw[hx];rcases hl with⟨q,_⟩|⟨_,rfl⟩
  ·exact absurd q hE
  ·exact⟨⟨_,rfl,Or.inr ⟨hE,rfl⟩⟩,hb⟩
theorem a2S(hX:Sto.dE X)(v:Value)(bs:List (List Nat))(seg:Nat)(c:Sto.Cfg)(w:World)(h:Lls w v bs.length (Sto.f9 bs) (Sto.eP bs)):
  Calls prog 82 #[v,iV seg,iV c.d] w fun e w'=> ∃v',e=.returned (.tuple #[v',iV ((X.read bs seg c).1:Nat)])∧cW w' v' (X.read bs seg c).2∧Bl w w':=by
 refine(b9L v bs.length (Sto.f9 bs) (Sto.eP bs) seg c.d w h).mono ?_;rintro e w' ⟨v',rfl,hO,hb⟩;have he:=hX.err bs seg c;rw[←he]at hO⊢;refine⟨v',rfl,?_,hb⟩;rcases hO with⟨q,r,r1,r2,hy⟩|⟨q,rfl⟩
 ·rw[c9Q]at r2 hy;rw[hX.told bs seg c q r r1 r2];exact hy.list
 ·rw[hX.none bs seg c q];exact cW.nil w'
theorem a9C(hX:Sto.dE X)(v:Value)(bs:List (List Nat))(seg:Nat)(w:World)(h:Lls w v bs.length (Sto.f9 bs) (Sto.eP bs))(hl:bs.length≤12):
  Calls prog 53 #[v,iV seg] w fun e w'=> ∃v',e=.returned v'∧iP w' w.heap.size v' (X.bad bs seg)∧Bl w w':=by
 rw[hX.bad];exact c5I v bs.length (Sto.f9 bs) (Sto.eP bs) seg w h (by omega)
theorem b6B(hX:Sto.dE X)(v:Value)(bs:List (List Nat))(seg:Nat)(c:Sto.Cfg)(w:World)(h:Lls w v bs.length (Sto.f9 bs) (Sto.eP bs))(hl:bs.length=c.d+c.s)(h8:c.d≤8)(h4:c.s≤4):
  Calls prog 54 #[v,iV seg,iV c.d] w fun e w'=>b7L e w' w.heap.size (X.mend bs seg c)∧Bl w w':=by
 have HR:=a2S hX v bs seg c w h;obtain⟨A,C,rfl⟩:=h.shape;have HM:=hX.mend bs seg c;by_cases hE:(X.read bs seg c).1=0
 case neg=>
  rw[if_pos hE]at HM;generalize (X.read bs seg c).1=x at HR HM hE;have HP:Hid (∀w',b7L (.returned (.tuple #[nS,iV x])) w' w.heap.size (X.mend bs seg c)):=fun w'=>by
   show b7L _ _ _ _;rw[HM];exact⟨_,rfl,Or.inr ⟨hE,rfl⟩⟩
  have A2:((x:Int)==0)=false:=by rw[beq_eq_false_iff_ne];omega
  have A3:((x:Int) !=0)=true:=by rw[bne,A2];rfl
  clear hE h HM hl h8 h4;go_enter func54,ntmps54
  go_wp2_with fail;refine HR.mono ?_;rintro e w1 ⟨v1,rfl,_,b1⟩;clear HR;go_wp2_with fail;go_ret2
  exact⟨HP.out _,b1⟩
 case pos=>
  rw[if_neg (fun q=>q hE)]at HM;rw[hE]at HR;have A0:Hid (∀v1 w1,cW w1 v1 (X.read bs seg c).2→Calls prog 79 #[v1,iV seg,iV c.d,iV (((bs.length:Nat):Int)-(c.d:Int))] w1 fun e w'=>b7L e w' w1.heap.size (X.mend bs seg c)∧Bl w1 w'):=fun v1 w1 q=>by
   have:=a7Q v1 (X.read bs seg c).2 seg c w1 q;rw[←HM]at this;rw[show((bs.length:Nat):Int)-(c.d:Int)=(c.s:Int) by omega];exact this
  obtain⟨N,hN⟩: ∃N,N=bs.length:=⟨_,rfl⟩;rw[←hN]at HR A0;rw[←hN];have A4:N≤12:=by omega
  have A5:c.d≤N:=by omega
  clear HM hE h hl hN;go_enter func54,ntmps54
  go_wp2_with fail;refine HR.mono ?_;rintro e w1 ⟨v1,rfl,hy,b1⟩;have HL:=A0.out v1 w1 hy;obtain⟨A1,C1,rfl⟩:=hy.byts.shape;clear HR A0 hy;go_wp2_with fail;refine HL.mono ?_;rintro e w2 ⟨⟨v2,rfl,hO⟩,b2⟩;have HP:Hid (b7L (.returned (.tuple #[v2,iV ((X.mend bs seg c).1:Nat)])) w2 w.heap.size (X.mend bs seg c)):=by
   refine⟨v2,rfl,?_⟩;rcases hO with⟨q,Y,hY⟩|q
   ·exact Or.inl ⟨q,Y,hY.lower b1.size⟩
   ·exact Or.inr q
  have b2:=bt b1 b2;clear HL hO;go_wp2_with fail;go_ret2
  exact⟨HP.out,b2⟩
end
def c1N(e:Ending)(w w':World)(B:Nat)(v:Value)(es:List Int):Prop:= ∃v',e=.returned v'∧w'.ownsRow B 3 1 v' es.length (es.flatMap aE)∧Off (fun k=>v.ownBlock=some k) w w'∧(v'.ownBlock=v.ownBlock∨ ∀g,v'.ownBlock=some g→w.heap.size≤g)
theorem zU(es:List Int)(i:Nat)(h:i≤es.length):(es.flatMap aE).take i=(es.take i).flatMap aE:=by
 have:=jB aE 1 es i (fun _ _=>rfl) h;rwa[d1X]at this
theorem yP(es:List Int)(i:Nat)(h:i≤es.length):(es.flatMap aE).drop i=(es.drop i).flatMap aE:=by
 have:=kD aE 1 es i (fun _ _=>rfl) h;rwa[d1X]at this
theorem Tryz.sizeI:(Tryz.prog.info? 3).map (·.size)=some 1:=by kernel_rfl
theorem mK(w:World)(ty:TypeId)(g o dLen dCap:Nat)(a:Addr)(sLen sCap n:Nat)(cur:Array Value)(cs:List Value)(hn:n=Nat.min sLen dLen)(hl:cs.length=n)
  (hg:w.heap[g]?=some (.cells cur 3 (0,0))) (hsrc: ∀j v,cs[j]?=some v→w.cell? (a.add j)=some v) (hfit:o+cs.length≤cur.size) (h1: ∀v∈cs,v.oneCell'=true):
  (Builtin.copy_ #[27,27] ty #[.slice (some (aD g o)) dLen dCap,.slice (some a) sLen sCap]).run prog w=.ok (goInt n) (w.setRow g (cur.toList.take o++cs++cur.toList.drop (o+cs.length)).toArray):=by
 have A1:=run_loadCells_list (P:=prog) w a cs hsrc;have A0:=run_storeCells_at prog g o 3 cs 0 cur w hg (by simpa using hfit) h1;have hu:=underlying27;cases hq:prog.info? 3 with
 |none=>
  have:=Tryz.sizeI;simp[hq]at this
 |some i=>
  have hi:i.size=1:=by
   have:=Tryz.sizeI;simpa [hq]using this
  simp[Builtin.copy_,run_underlying hu,Builtin.lenOf,Builtin.firstCells,sizeOf,typeInfo,hq,hi,←hn,←hl,A1,A0]
abbrev c4G(w:World)(vb:Nat)(x:Int):Prop:=w.heap[vb]?=some (.cells (aE x).toArray 3 (0,0))
theorem b2M(g cap i vb:Nat)(cur:Array Value)(es:List Int)(x:Int)(w:World)(hi:i<es.length)(hcap:es.length+1≤cap)(hm:cap≤9223372036854775807)(hcs:cur.size=cap)
  (hg:w.heap[g]?=some (.cells cur 3 (0,0))) (htk:cur.toList.take (es.length)=es.flatMap aE) (hv:c4G w vb x) (hne:vb≠g):
  Calls prog 46 #[.slice (some (aD g 0)) es.length cap,iV i,.slice (some (aD vb 0)) 1 1] w fun e w'=>e=.returned (.slice (some (aD g 0)) (es.length+1) cap)∧ ∃arr:Array Value,w'=w.drew.setRow g arr∧arr.size=cap∧arr.toList.take ((es.length+1))=(es.take i++x::es.drop i).flatMap aE:=by
 obtain⟨n,hn⟩: ∃n,n=es.length:=⟨_,rfl⟩;rw[←hn]at hi hcap htk⊢;have HN:=hd8 hn;clear hn;have Ah: ∀w,(Go.sizeOf 3).run prog w=.ok 1 w:=Tryz.sizeOf3;have Ag: ∀lb cb,(callFunc 80 #[.slice (some (aD vb 0)) 1 1,.slice (some ⟨g,(i+1),none⟩) lb cb]).run prog w=.ok (.value (.bool false)) w:=fun lb cb=>by
  rw[run_callFunc_extern func80 (by kernel_rfl) (by kernel_rfl) (by kernel_rfl) (e:=Extern.SlicesOverlaps.overlaps #[27,27] #[4]) (by kernel_rfl),
   Lib.run_overlaps_apart w 27 4 3 underlying27 1 Ah (aD vb 0) ⟨g,(i+1),none⟩ 1 1 lb cb hne 3 3 1 (cap) (by simp[World.shape?,hv,aE]) (by simp[World.shape?,hg,hcs]) (by omega) (by simp[World.frozen?,hv]) (by simp[World.frozen?,hv])]
  rfl
 have An: ¬((i:Int)=(n:Int)):=by omega
 have Aj:IntKind.i64.wrap ((i:Int)+1)=(i:Int)+1:=by rw[IntKind.wrap_i64];omega
 have Ai:i≤n:=by omega
 have Ao: ¬(cap=i):=by omega
 have Am: ¬(cap=i+1):=by omega
 have Ap:(0:Int)≤(i:Int)+1:=by omega
 have Al:((i:Int)+1).toNat=i+1:=by omega
 have Ak:(i:Int)≤(n:Int)+1:=by omega
 have Ab:cur.toList.length=cap:=by rw[d1B];exact hcs
 obtain⟨A0,A6,A8,Ad⟩:=qZ cur.toList (es.flatMap aE) (aE x) (i) (n) 1 htk (by omega) (by omega) rfl;have Af:(cur.toList.drop (i)).take (n-i)=(es.flatMap aE).drop (i):=by rw[←htk,List.drop_take]
 have A4:((es.flatMap aE).drop (i)).length=(n-i):=by
  rw[d0A,rQ,←HN.out]
 rw[Af]at A6;have A1: ∀j v,((es.flatMap aE).drop (i))[j]?=some v→w.drew.cell? ((⟨g,i,none⟩:Addr).add j)=some v:=fun j v hj=>by
  rw[WideShapes.add_plain];rw[←htk,d0J,d0C]at hj;split at hj
  ·simp only[World.cell?,World.drew,hg];simpa using hj
  ·cases hj
 have A7: ∀ty dc sc,(Builtin.copy_ #[27,27] ty #[.slice (some ⟨g,(i+1),none⟩) (n+1-(i+1)) dc,.slice (some (aD g i)) (n+1-i) sc]).run prog w.drew=.ok (goInt (n-i:Nat)) (w.drew.setRow g A0.toArray):=fun ty dc sc=>by
  rw[mK w.drew ty g ((i+1)) (n+1-(i+1)) dc (aD g i) (n+1-i) sc (n-i) cur ((es.flatMap aE).drop (i)) (by simp only[Nat.min_def];split<;>omega) A4 hg A1 (by rw[A4];omega) (fun v hv=>rF es v (d1S hv)),A6,A4,show(i+1)=i+1 by omega,show(n-i)=n-i by omega]
 have Ac:(w.drew.setRow g A0.toArray).heap[g]?=some (.cells A0.toArray 3 (0,0)):=setRow_heap w.drew g cur _ 3 _ hg;have Ae:(w.drew.setRow g A0.toArray).heap[vb]?=some (.cells (aE x).toArray 3 (0,0)):=by
  rw[setRow_other _ _ _ _ hne];exact hv
 have Aa: ∀j v,(aE x)[j]?=some v→(w.drew.setRow g A0.toArray).cell? ((⟨vb,0,none⟩:Addr).add j)=some v:=fun j v hj=>by
  rw[WideShapes.add_plain,c9G];simp only[World.cell?,Ae];simpa using hj
 have A3: ∀ty dc,(Builtin.copy_ #[27,27] ty #[.slice (some (aD g i)) (n+1-i) dc,.slice (some (aD vb 0)) 1 1]).run prog (w.drew.setRow g A0.toArray)=.ok (goInt (1:Nat)) (w.drew.setRow g ((A0.take (i)++aE x++A0.drop (i+1))).toArray):=fun ty dc=>by
  rw[mK (w.drew.setRow g A0.toArray) ty g (i) (n+1-i) dc (aD vb 0) 1 1 1 A0.toArray (aE x) (by simp only[Nat.min_def];split<;>omega) rfl Ac Aa (by show i+1≤A0.toArray.size;rw[d0Q,A8];omega) (fun v hv=>by
   have:=rF [x] v (by simpa using hv)
   exact this),setRow_setRow]
  rfl
 obtain⟨A2,A5⟩: ∃A2:Array Value,A2=(A0.take (i)++aE x++A0.drop (i+1)).toArray:=⟨_,rfl⟩;rw[←A5]at A3;have HF:Hid (∃arr:Array Value,w.drew.setRow g A2=w.drew.setRow g arr∧arr.size=cap∧arr.toList.take ((n+1))=(es.take i++x::es.drop i).flatMap aE):=by
  refine⟨_,rfl,?_,?_⟩
  ·rw[A5,d0Q];simp only[List.length_append,List.length_take,List.length_drop,A8,Ab];show min (i) (cap)+1+(cap-(i+1))=cap;omega
  ·rw[A5];show(A0.take (i)++aE x++A0.drop (i+1)).take ((n+1))=_;rw[Ad,d0H,d0K,←zU es i (by rw[←HN.out];omega),←yP es i (by rw[←HN.out];omega)]
   exact d2I (by
    simp only[List.length_append,List.length_take,rQ,A4];show min (i) (es.length)+(1+(n-i))=(n+1);rw[←HN.out]
    omega)
 clear A5 A6 A8 Ad Af A4 A1 Ac Ae Aa htk hg hv Ab hcs;have A9:prog.follows Departure.mixedOrders=true:=by kernel_rfl
 go_enter func46,ntmps46
 go_wp2_with (simp only[Ag]);go_region_law_o (go_loud (refine step_copy_runI rfl _ _ 27 27 rfl (.slice (some ⟨g,(i+1),none⟩) (n+1-(i+1)) (cap-(i+1))) (.slice (some (aD g i)) (n+1-i) (cap-i)) (by simp[Act.eval,Act.put]) (by simp[Act.eval,Act.put]) (A7 3 (cap-(i+1)) (cap-i)) ?_))
 go_wp2_with (at_builtin;refine wpList_copy_runI _ rfl _ _ 27 27 rfl _ _ rfl rfl (A3 _ _) ?_);go_ret
 exact⟨rfl,HF.out⟩
theorem b6X(g cap i vb:Nat)(cur:Array Value)(es:List Int)(x:Int)(w:World)(hi:i<es.length)(hcap:es.length≤cap)(hcap2:cap<es.length+1)(hsm:es.length≤100000)
  (hg:w.heap[g]?=some (.cells cur 3 (0,0))) (htk:cur.toList.take (es.length)=es.flatMap aE) (hv:c4G w vb x):
  Calls prog 46 #[.slice (some (aD g 0)) es.length cap,iV i,.slice (some (aD vb 0)) 1 1] w fun e w'=> ∃(G:Nat) (arr:Array Value),e=.returned (.slice (some (aD w.heap.size 0)) (es.length+1) G)∧es.length+1≤G∧G≤maxLen∧w'.heap[w.heap.size]?=some (.cells arr 3 (0,0))∧arr.size=G∧arr.toList.take ((es.length+1))=(es.take i++x::es.drop i).flatMap aE∧Bl w w':=by
 obtain⟨n,hn⟩: ∃n,n=es.length:=⟨_,rfl⟩;rw[←hn]at hi hcap hcap2 htk hsm⊢;have HN:=hd8 hn;clear hn;have Ax:g<w.heap.size:=(d1M.1 hg).1;have Az:vb<w.heap.size:=(d1M.1 hv).1;obtain⟨i4,As,Ai⟩:=c9J.1 Tryz.infoI;simp only[Prod.mk.injEq]at Ai;obtain⟨Ak,Al,Aa⟩:=Ai;have A1:(es.flatMap aE).length=n:=by rw[rQ,←HN.out]
 have A4:(Builtin.firstCells i4.size i (.slice (some (aD g 0)) i cap)).run prog w.drew=.ok ((es.flatMap aE).take (i)).toArray w.drew:=by
  rw[Al];refine run_firstCells_some w.drew 1 i (aD g 0) i cap _ (by rw[c9K,A1];omega) (fun j v hj=>?_);rw[WideShapes.add_plain,c9G];rw[d0C]at hj;split at hj
  ·rw[←htk,d0C]at hj;split at hj
   ·simp only[World.cell?,World.drew,hg];simpa using hj
   ·cases hj
  ·cases hj
 have Aq:(n:Int)+1-(i:Int)=((n+1-i:Nat):Int):=by omega
 have Ad:i+(n+1-i)=n+1:=by omega
 obtain⟨G,hG⟩: ∃G,G=grownCap w (n+1) cap 3:=⟨_,rfl⟩;have Ay:n+1≤G:=by rw[hG];exact grownCap_ge w _ _ _
 have A3:G≤maxLen:=by
  rw[hG];exact grownCap_le_maxLen w (n+1) cap 3 (by unfold maxLen;omega)
 obtain⟨A0,A2⟩: ∃A0:Array Value,A0=((es.flatMap aE).take (i)).toArray++Builtin.zeroCells (Value.int .i64 0).cells (n+1-i)++Builtin.zeroCells (Value.int .i64 0).cells (G-(n+1)):=⟨_,rfl⟩;have Aj: ∀ty,(Builtin.append_ #[27,3] ty #[.slice (some (aD g 0)) i cap,iV ((n:Int)+1-(i:Int))]).run prog w=.ok (.slice (some (aD w.heap.size 0)) (n+1) G) (w.drew.alloc (.cells A0 3)):=fun ty=>by
  have h:=Lib.run_append_grow_zeros (P:=prog) w 27 3 ty 3 i4 _ .i64 .i64 underlying27 underlying3 As Ak (some (aD g 0)) i cap _ A4 (n+1-i) (by omega) (by omega) (by omega) (by omega) (by rw[Aa];omega) (by rw[Aa,Ad];exact growslice_fits (by omega) (by omega));rw[Ad,←hG,←A2]at h;rw[Aq];exact h
 have Ab: ∀k,(Builtin.zeroCells (Value.int .i64 0).cells k).size=k:=fun k=>by
  simp[Builtin.zeroCells,Value.cells]
 have A7:A0.toList.length=G:=by
  rw[d1B,A2,d2R,d2R,Ab,Ab,d0Q,c9K,A1];omega
 have Ah:A0.toList.take (i)=(es.flatMap aE).take (i):=by
  rw[A2,d2M,d2M,c9X];exact d2I (by rw[c9K,A1];omega)
 obtain⟨A,An,Ap,Af⟩:=vC A0.toList (es.flatMap aE) (aE x) (i) (n) 1 (by omega) (by omega) Ah rfl;obtain⟨B,hB⟩: ∃B:Array Value,B=(A.take (i+1)++(es.flatMap aE).drop (i)++A.drop (i+1+(n-i))).toArray:=⟨_,rfl⟩;have A8:((es.flatMap aE).drop (i)).length=(n-i):=by
  rw[d0A,A1]
 have A5: ∀(W:World),W.heap[w.heap.size]?=some (.cells A0 3 (0,0))→W.heap[vb]?=w.heap[vb]?→ ∀ty dc,(Builtin.copy_ #[27,27] ty #[.slice (some (aD w.heap.size i)) (n+1-i) dc,.slice (some (aD vb 0)) 1 1]).run prog W=.ok (goInt (1:Nat)) (W.setRow w.heap.size A.toArray):=fun W hW1 hW2 ty dc=>by
  rw[mK W ty w.heap.size (i) (n+1-i) dc (aD vb 0) 1 1 1 A0 (aE x) (by simp only[Nat.min_def];split<;>omega) rfl hW1 (fun j v hj=>by
   rw[WideShapes.add_plain,c9G];rw[hv]at hW2;simp only[World.cell?,hW2]
   simpa using hj) (by show i+1≤A0.size;rw[←d1B,A7];omega) (fun v hv=>rF [x] v (by simpa using hv)),An]
  rfl
 have A6: ∀(W:World),W.heap[w.heap.size]?=some (.cells A.toArray 3 (0,0))→W.heap[g]?=w.heap[g]?→ ∀ty dc sc,(Builtin.copy_ #[27,27] ty #[.slice (some ⟨w.heap.size,(i+1),none⟩) (n+1-(i+1)) dc,.slice (some (aD g i)) (n-i) sc]).run prog W=.ok (goInt (n-i:Nat)) (W.setRow w.heap.size B):=fun W hW1 hW2 ty dc sc=>by
  rw[mK W ty w.heap.size ((i+1)) (n+1-(i+1)) dc (aD g i) (n-i) sc (n-i) A.toArray ((es.flatMap aE).drop (i)) (by simp only[Nat.min_def];split<;>omega) A8 hW1 (fun j v hj=>by
   rw[WideShapes.add_plain];rw[←htk,d0J,d0C]at hj;split at hj
   ·rw[hg]at hW2;simp only[World.cell?,hW2];simpa using hj
   ·cases hj) (by rw[A8,List.size_toArray,Ap,A7];omega) (fun v hv=>rF es v (d1S hv)),A8,hB,show(i+1)=i+1 by omega,show(n-i)=n-i by omega]
 have Av:Hid (B.size=G):=by
  show B.size=G;rw[hB,d0Q,Af];simp only[List.length_append,List.length_take,List.length_drop,A1,A7];show min (i) (n)+(1+(n-i))+(G-(n+1))=G;omega
 have Au:Hid (B.toList.take ((n+1))=(es.take i++x::es.drop i).flatMap aE):=by
  show B.toList.take ((n+1))=_;rw[hB];show(A.take (i+1)++(es.flatMap aE).drop (i)++A.drop (i+1+(n-i))).take ((n+1))=_;rw[Af,d0H,d0K,←zU es i (by rw[←HN.out];omega),←yP es i (by rw[←HN.out];omega)]
  exact d2I (by
   simp only[List.length_append,List.length_take,List.length_drop,A1];show min (i) (n)+(1+(n-i))=(n+1)
   omega)
 have h0:(w.drew.alloc (.cells A0 3)).heap[w.heap.size]?=some (.cells A0 3 (0,0)):=heap_alloc_new w.drew _;have Ao:(w.drew.alloc (.cells A0 3)).heap[vb]?=w.heap[vb]?:=Deep.blk_alloc_lt w.drew _ _ Az;have At:(w.drew.alloc (.cells A0 3)).heap[g]?=w.heap[g]?:=Deep.blk_alloc_lt w.drew _ _ Ax;have Ae:=A5 (w.drew.alloc (.cells A0 3)) h0 Ao;have h1:((w.drew.alloc (.cells A0 3)).setRow w.heap.size A.toArray).heap[w.heap.size]?=some (.cells A.toArray 3 (0,0)):=setRow_heap _ _ A0 _ 3 _ h0;have Am:((w.drew.alloc (.cells A0 3)).setRow w.heap.size A.toArray).heap[g]?=w.heap[g]?:=by
  rw[setRow_other _ _ _ _ (by omega)];exact At
 have Ac:=A6 ((w.drew.alloc (.cells A0 3)).setRow w.heap.size A.toArray).drew h1 Am;have h2:(((w.drew.alloc (.cells A0 3)).setRow w.heap.size A.toArray).drew.setRow w.heap.size B).heap[w.heap.size]?=some (.cells B 3 (0,0)):=setRow_heap _ _ A.toArray _ 3 _ h1;have A9:Bl w (((w.drew.alloc (.cells A0 3)).setRow w.heap.size A.toArray).drew.setRow w.heap.size B):=by
  have b0:Bl w w.drew:=⟨rfl,rfl,rfl,c9C _,fun _ _=>rfl⟩;have b1:=b0.alloc (c9C _) (.cells A0 3);have b2:=below_setRow b1 (c9C _) A.toArray;exact below_setRow (w:=((w.drew.alloc (.cells A0 3)).setRow w.heap.size A.toArray).drew) ⟨b2.os,b2.tape,b2.output,b2.size,b2.block⟩ (c9C _) B
 generalize hW1:w.drew.alloc (.cells A0 3)=W1 at Aj Ae Ac h2 A9;generalize hW2:W1.setRow w.heap.size A.toArray=W2 at Ae Ac h2 A9;have HF:Hid (Bl w (W2.drew.setRow w.heap.size B)∧(W2.drew.setRow w.heap.size B).heap[w.heap.size]?=some (.cells B 3 (0,0))):=⟨A9,h2⟩;clear hW1 hW2 A9 h2 h1 Am h0 Ao At A5 A6 hB An Ap Af Ah A7 Ab A2 A4 A8 htk hg hv As Ak Al Aa Aq Ad hG A1;have B4: ¬((i:Int)=(n:Int)):=by omega
 have B8:(cap:Int)<(n:Int)+1:=by omega
 have B1:IntKind.i64.wrap ((i:Int)+1)=(i:Int)+1:=by rw[IntKind.wrap_i64];omega
 have B0:i≤n:=by omega
 have B7:(0:Int)≤(i:Int)+1:=by omega
 have B3:((i:Int)+1).toNat=i+1:=by omega
 have B2:(i:Int)≤(n:Int):=by omega
 have B5: ¬(G=i):=by omega
 have Aw: ¬(G=i+1):=by omega
 have B6: ¬(cap=i):=by omega
 have Ar:G≤9223372036854775807:=by unfold maxLen at A3;omega
 have Ag:prog.follows Departure.mixedOrders=true:=by kernel_rfl
 go_enter func46,ntmps46
 go_wp2_with (first|(at_builtin;refine Lib.wpList_append_run _ rfl _ _ _ _ rfl _ _ rfl rfl _ _ (Aj _) ?_)|(at_builtin;refine wpList_copy_runI _ rfl _ _ 27 27 rfl _ _ rfl rfl (Ae _ _) ?_));go_region_law_o (go_loud (refine step_copy_runI rfl _ _ 27 27 rfl (.slice (some ⟨w.heap.size,(i+1),none⟩) (n+1-(i+1)) (G-(i+1))) (.slice (some (aD g i)) (n-i) (cap-i)) (by simp[Act.eval,Act.put]) (by simp[Act.eval,Act.put]) (Ac 3 (G-(i+1)) (cap-i)) ?_))
 go_wp2_with fail;go_ret
 exact⟨G,B,rfl,Ay,A3,HF.out.2,Av.out,Au.out,HF.out.1⟩
theorem b9Z(B vb:Nat)(v:Value)(es:List Int)(x:Int)(w:World)(h:w.ownsRow B 3 1 v es.length (es.flatMap aE))(hB:B≤w.heap.size)(hn:es.length≤100000)(hv:c4G w vb x):
  Calls prog 46 #[v,iV es.length,.slice (some (aD vb 0)) 1 1] w fun e w'=>c1N e w w' B v (es++[x]):=by
 obtain⟨i4,A8,A1⟩:=c9J.1 Tryz.infoI;simp only[Prod.mk.injEq]at A1;obtain⟨A4,A5,A3⟩:=A1
 obtain⟨v',w',A0,ho,hg,_,A2⟩:=run_append_own_at (P:=prog) w B 27 27 3 i4 _ 1 8 underlying27 A8 A4 A5 A3 rfl (by decide) v es.length _ h (aD vb 0) 1 1 (aE x) rfl (fun j u hj=>by
  rw[WideShapes.add_plain,c9G];simp only[World.cell?,hv]
  simpa using hj) (fun u hu=>rF [x] u (by simpa using hu)) (by unfold maxLen;omega) (by omega) hB
 have HR:Hid (c1N (.returned v') w w' B v (es++[x])):=by
  refine⟨v',rfl,?_,cJ hg,?_⟩
  ·rw[c9I,d0H,List.length_singleton,d0K,List.flatMap_nil,d0W];exact ho
  ·rcases A2 with q|q
   ·exact Or.inl q
   ·refine Or.inr fun g hg=>?_;rw[q]at hg;cases hg
    exact c9C _
 clear ho hg A2;rcases h.2 with⟨rfl,h0⟩|⟨g,A7,A9,rfl,_,_,hc,hm,_⟩
 ·rw[h0];clear h hv;go_enter func46,ntmps46
  go_wp2_with (at_builtin;refine Lib.wpList_append_run _ rfl _ _ _ _ rfl _ _ rfl rfl _ _ A0 ?_);go_ret
  exact HR.out
 ·clear h hv;unfold maxLen at hm;by_cases A6:A7=es.length
  ·subst A6;go_enter func46,ntmps46
   go_wp2_with (at_builtin;refine Lib.wpList_append_run _ rfl _ _ _ _ rfl _ _ rfl rfl _ _ A0 ?_);go_ret
   exact HR.out
  ·go_enter func46,ntmps46
   go_wp2_with (at_builtin;refine Lib.wpList_append_run _ rfl _ _ _ _ rfl _ _ rfl rfl _ _ A0 ?_);go_ret
   exact HR.out
theorem c1K(B i vb:Nat)(v:Value)(es:List Int)(x:Int)(w:World)(h:w.ownsRow B 3 1 v es.length (es.flatMap aE))(hB:B≤w.heap.size)(hi:i≤es.length)(hn:es.length≤100000)(hv:c4G w vb x)(hne:v.ownBlock≠some vb):
  Calls prog 46 #[v,iV i,.slice (some (aD vb 0)) 1 1] w fun e w'=>c1N e w w' B v (es.take i++x::es.drop i):=by
 have A0:(es.take i++x::es.drop i).length=es.length+1:=by
  simp;omega
 by_cases he:i=es.length
 ·subst he;have H:=b9Z B vb v es x w h hB hn hv;rw[d0L,d0T];exact H
 ·rcases h.2 with⟨_,h0⟩|⟨g,A3,A4,rfl,A9,hg,hc,hm,Aa,A8⟩
  ·omega
  ·by_cases A1:es.length+1≤A3
   ·refine(b2M g A3 i vb A4 es x w (by omega) A1 (by unfold maxLen at hm;exact hm) (by simpa using Aa) hg (by simpa using A8) hv (fun e=>hne (by rw[e];rfl))).mono ?_;rintro e w' ⟨rfl,A2,rfl,A5,A7⟩;have A6:(w.drew.setRow g A2).heap[g]?=some (.cells A2 3 (0,0)):=setRow_heap w.drew g A4 _ 3 _ hg;refine⟨_,rfl,?_,?_,Or.inl rfl⟩
    ·rw[A0];exact⟨by rw[rQ,A0,d1X],Or.inr ⟨g,A3,A2,rfl,A9,A6,A1,hm,by simpa using A5,by simpa using A7⟩⟩
    ·exact zV w g A2
   ·refine(b6X g A3 i vb A4 es x w (by omega) hc (by omega) hn hg (by simpa using A8) hv).mono ?_;rintro e w' ⟨G,A2,rfl,Ad,Ac,A6,A5,A7,Ab⟩;refine⟨_,rfl,?_,Off.of_below Ab,Or.inr fun x hx=>?_⟩
    ·rw[A0];exact⟨by rw[rQ,A0,d1X],Or.inr ⟨w.heap.size,G,A2,rfl,hB,A6,Ad,Ac,by simpa using A5,by simpa using A7⟩⟩
    ·cases hx
     exact c9C _
theorem a3K(s:ByteArray)(k m:Int)(b:Bool)(u:Int)(w:World)(hs:s.size≤9223372036854775807)(hu:u≤150):
  Calls prog 103 #[.agg #[.string s,iV k,iV m,.bool b],iV u] w fun e w'=>e=.returned (iV (Vw.cH u ⟨nb s,k,m,b⟩:Nat))∧Bl w w':=by
 have HN:=fun w'=>tY s w' hs;have A0:=aB8 w (.cells #[.string s,iV k,iV m,.bool b] 93);obtain⟨c0,c1,c2,c3,_⟩:=iF w 93 (.string s) (iV k) (iV m) (.bool b);by_cases A1:Evt.dC (nb s)
 case neg=>
  have hn:Hid (¬Evt.dC (nb s)):=A1;have H:Hid (Vw.cH u ⟨nb s,k,m,b⟩=7):=Vw.oO A1;clear A1;go_enter func103,ntmps103
  go_wp2_with fail;refine(HN _).mono ?_;rintro e w1 ⟨⟨y,rfl,hy⟩,rfl⟩;obtain rfl:y=false:=by cases y with|false=>rfl|true=>exact absurd (hy.1 rfl) hn.out
  clear hy HN;go_wp2_with fail;go_ret
  exact⟨aH (by rw[H.out];rfl),A0⟩
 have hn:Hid (Evt.dC (nb s)):=A1;clear A1;by_cases q0:m<1
 ·have H:Hid (Vw.cH u ⟨nb s,k,m,b⟩=3):=Vw.dU hn.out (Or.inl q0);go_enter func103,ntmps103
  go_wp2_with fail;refine(HN _).mono ?_;rintro e w1 ⟨⟨y,rfl,hy⟩,rfl⟩;obtain rfl:y=true:=hy.2 hn.out;clear hy HN;go_wp2_with fail;go_ret
  exact⟨aH (by rw[H.out];rfl),A0⟩
 by_cases q1:u<m
 ·have H:Hid (Vw.cH u ⟨nb s,k,m,b⟩=3):=Vw.dU hn.out (Or.inr (Or.inl q1));go_enter func103,ntmps103
  go_wp2_with fail;refine(HN _).mono ?_;rintro e w1 ⟨⟨y,rfl,hy⟩,rfl⟩;obtain rfl:y=true:=hy.2 hn.out;clear hy HN;go_wp2_with fail;go_ret
  exact⟨aH (by rw[H.out];rfl),A0⟩
 have m1:1≤m:=by omega
 have m2:m≤150:=by omega
 by_cases q2:k< -(1000000*m)
 ·have H:Hid (Vw.cH u ⟨nb s,k,m,b⟩=3):=Vw.dU hn.out (Or.inr (Or.inr (Or.inr q2)));go_enter func103,ntmps103
  go_wp2_with fail;refine(HN _).mono ?_;rintro e w1 ⟨⟨y,rfl,hy⟩,rfl⟩;obtain rfl:y=true:=hy.2 hn.out;clear hy HN;go_wp2_with fail;go_ret
  exact⟨aH (by rw[H.out];rfl),A0⟩
 by_cases q3:1000000*m<k
 ·have H:Hid (Vw.cH u ⟨nb s,k,m,b⟩=3):=Vw.dU hn.out (Or.inr (Or.inr (Or.inl q3)));go_enter func103,ntmps103
  go_wp2_with fail;refine(HN _).mono ?_;rintro e w1 ⟨⟨y,rfl,hy⟩,rfl⟩;obtain rfl:y=true:=hy.2 hn.out;clear hy HN;go_wp2_with fail;go_ret
  exact⟨aH (by rw[H.out];rfl),A0⟩
 ·have H:Hid (Vw.cH u ⟨nb s,k,m,b⟩=0):=Vw.pV hn.out (show¬(m<1∨u<m∨1000000*m<k∨k< -(1000000*m)) by omega);go_enter func103,ntmps103
  go_wp2_with fail;refine(HN _).mono ?_;rintro e w1 ⟨⟨y,rfl,hy⟩,rfl⟩;obtain rfl:y=true:=hy.2 hn.out;clear hy HN;go_wp2_with fail;go_ret
  exact⟨aH (by rw[H.out];rfl),A0⟩
abbrev jQ(p:Nat×Nat):Value:=.agg #[iV p.1,iV p.2]
theorem qO(u:Int)(vs:Value)(l:List Vw.Acc)(w:World)(h:bJ w vs l):
  Calls prog 74 #[.agg #[iV u,vs]] w fun e w'=>e=.returned (jQ (Vw.aR u l))∧Bl w w':=by
 obtain⟨A,C,rfl,An,Aj,hc⟩:=h;unfold maxLen at Aj;have A4:Bl w (w.alloc (.cells #[iV u,.slice A l.length C] 30)):=(Below.refl _ _).alloc (c9C _) _;have Ab:Bl w ((w.alloc (.cells #[iV u,.slice A l.length C] 30)).alloc (.cells #[iV 0,iV 0] 78)):=A4.alloc A4.size _;by_cases q0:u<0
 ·have H:Hid (Vw.aR u l=(3,0)):=Vw.iH (Or.inl q0);go_enter func74,ntmps74
  go_wp2_with fail;refine bodyPost_ret (v:=.agg #[iV 3,iV 0]) (by simp[results,results74,go_sem]) rfl ⟨by rw[H.out];rfl,?_⟩;exact A4.alloc A4.size _
 by_cases q1:150<u
 ·have H:Hid (Vw.aR u l=(3,0)):=Vw.iH (Or.inr q1);go_enter func74,ntmps74
  go_wp2_with fail;refine bodyPost_ret (v:=.agg #[iV 3,iV 0]) (by simp[results,results74,go_sem]) rfl ⟨by rw[H.out];rfl,?_⟩;exact A4.alloc A4.size _
 have HE:Hid (Vw.aR u l=Vw.aF u 0 none 0 l):=Vw.lF (by omega);have VV:=(aO w 30 (iV u) (.slice A l.length C)).below (A4.mono (c9C _)|>fun _=>((Below.refl _ _).alloc (c9C _) (.cells #[iV 0,iV 0] 78)));have VF:=aO (w.alloc (.cells #[iV u,.slice A l.length C] 30)) 78 (iV 0) (iV 0);have Aa:(w.alloc (.cells #[iV u,.slice A l.length C] 30)).heap.size=w.heap.size+1:=by simp
 rw[Aa]at VF;clear Aa;go_enter func74,ntmps74
 obtain⟨v0,v1,_⟩:=VV;go_wp2_with fail;generalize (w.alloc (.cells #[iV u,.slice A l.length C] 30)).alloc (.cells #[iV 0,iV 0] 78)=W0 at Ab VF v0 v1⊢;go_loopw [3,19] (fun y x wr=> ∃(k:Nat) (s:Int),k≤l.length∧x=iV k∧y=iV s∧0≤s∧s≤u∧Hid (Vw.aR u l=Vw.aF u k (Vw.yV l k) s (l.drop k))∧Bl W0 wr) (fun _ x _=>l.length-(intOf x).toNat)
 case atStart=>exact⟨0,0,c9D _,rfl,rfl,d1Q 0,by omega,HE.out,Below.refl _ _⟩
 case round=>
  obtain⟨k,s,Ap,rfl,rfl,s0,s1,HS,A1⟩:=hrel;have bz:=bt Ab A1;have v0:=cB8 A1 v0;have v1:=cB8 A1 v1;by_cases Ai:k<l.length
  ·have Ah:(k:Int)<(l.length:Int):=by omega
   obtain⟨a,ha⟩: ∃a,l[k]?=some a:=⟨l[k],c9F Ai⟩;obtain⟨b,o,rfl,Al⟩:=hc k a ha;obtain⟨st,Ag,A8,d0,d1,d2,d3⟩:=Al.below bz;have Ak:=hd8 A8;have HD:=hd8 (Vw.tK ha);have HP:=hd8 (Vw.pN ha);have HW:=a3K st a.sum a.cnt a.opn u (wr.alloc (.cells #[.string st,iV a.sum,iV a.cnt,.bool a.opn] 93)) Ag q1;rw[A8]at HW;have bA:=aB8 wr (.cells #[.string st,iV a.sum,iV a.cnt,.bool a.opn] 93);have VA:=iF wr 93 (.string st) (iV a.sum) (iV a.cnt) (.bool a.opn);have Ar:=cB8 bA v0;clear A8;by_cases hE:Vw.cH u a=0
   ·have A3:=hd8 hE;rw[hE]at HW;clear hE;obtain⟨m1,m2⟩:1≤a.cnt∧a.cnt≤u:=⟨(Vw.fL A3.out).2.1,(Vw.fL A3.out).2.2.1⟩;rcases Nat.eq_zero_or_pos k with A7|A7
    ·have Ad:Hid (Vw.nV (Vw.yV l k) a.name=true):=by
      show _=_;rw[A7];rfl
     clear hc;subst A7;simp only[Nat.zero_mul,Nat.add_zero]at d0 d1 d2 d3;go_wp2_with fail;refine HW.mono ?_;rintro e w1 ⟨rfl,A2⟩;have b1:=bt bA A2;obtain⟨c0,c1,fr⟩:=(VF.below A1).below b1;have f0:=fr 0;have f1:=fr 1;obtain⟨g0,_,g2,_,_⟩:=VA.below A2;have v0:=cB8 b1 v0;have v1:=cB8 b1 v1;clear HW VA fr;go_wp2_with fail;go_quiet (fail)
     by_cases A0:s+a.cnt≤u
     ·have HN:Hid (Vw.aR u l=Vw.aF u (0+1) (Vw.yV l (0+1)) (s+a.cnt) (l.drop (0+1))):=by
       show _=_;rw[HS.out,HD.out,HP.out];exact Vw.iA A3.out Ad.out A0
      go_wp2_with fail;exact⟨⟨0+1,s+a.cnt,by omega,by go_num,cA (by omega),by omega,A0,HN.out,bdn (bt A1 b1) _⟩,by simp[intOf];omega⟩
     ·have HZ:Hid (Vw.aR u l=(8,0)):=by
       show _=_;rw[HS.out,HD.out];exact Vw.kO A3.out Ad.out A0
      have A6:u<s+a.cnt:=by omega
      go_wp2_with fail;refine bodyPost_ret (v:=.agg #[iV 8,iV ((0:Nat):Int)]) (by simp[results,results74,go_sem,c0,c1]) rfl ⟨by rw[HZ.out];rfl,?_⟩;exact((bdn (bt bz b1) _).setCell (c9O _) _).setCell (c9O _) _
    ·obtain⟨j,rfl⟩: ∃j,k=j+1:=⟨k-1,by omega⟩;obtain⟨p,hp⟩: ∃p,l[j]?=some p:=⟨l[j],c9F (by omega)⟩;obtain⟨b',o',Am,A9⟩:=hc j p hp;cases Am
     obtain⟨sp,Ao,Ac,e0,_,_,_⟩:=A9.below bz;have HL:Hid (Vw.nV (Vw.yV l (j+1)) a.name=Op.bytesLess sp.toList st.toList):=by
      show _=_;rw[Vw.pN hp,wQ,Ac,Ak.out];rfl
     clear hc Ac;generalize hy:Op.bytesLess sp.toList st.toList=y at HL;cases y with
     |true=>
      go_wp2_with fail;refine HW.mono ?_;rintro e w1 ⟨rfl,A2⟩;have b1:=bt bA A2;obtain⟨c0,c1,fr⟩:=(VF.below A1).below b1;have f0:=fr 0;have f1:=fr 1;obtain⟨g0,_,g2,_,_⟩:=VA.below A2;have v0:=cB8 b1 v0;have v1:=cB8 b1 v1;have e0:=cB8 b1 e0;clear HW VA fr;go_wp2_with fail;go_quiet (fail)
      by_cases A0:s+a.cnt≤u
      ·have HN:Hid (Vw.aR u l=Vw.aF u ((j+1)+1) (Vw.yV l ((j+1)+1)) (s+a.cnt) (l.drop ((j+1)+1))):=by
        show _=_;rw[HS.out,HD.out,HP.out];exact Vw.iA A3.out HL.out A0
       go_wp2_with fail;exact⟨⟨(j+1)+1,s+a.cnt,by omega,by go_num,cA (by omega),by omega,A0,HN.out,bdn (bt A1 b1) _⟩,by simp[intOf];omega⟩
      ·have HZ:Hid (Vw.aR u l=(8,(j+1))):=by
        show _=_;rw[HS.out,HD.out];exact Vw.kO A3.out HL.out A0
       have A6:u<s+a.cnt:=by omega
       go_wp2_with fail;refine bodyPost_ret (v:=.agg #[iV 8,iV (((j+1):Nat):Int)]) (by simp[results,results74,go_sem,c0,c1]) rfl ⟨by rw[HZ.out];rfl,?_⟩;exact((bdn (bt bz b1) _).setCell (c9O _) _).setCell (c9O _) _
     |false=>
      have HZ:Hid (Vw.aR u l=(2,j+1)):=by
       show _=_;rw[HS.out,HD.out];exact Vw.oD A3.out HL.out
      go_wp2_with fail;refine HW.mono ?_;rintro e w1 ⟨rfl,A2⟩;have b1:=bt bA A2;obtain⟨c0,c1,fr⟩:=(VF.below A1).below b1;have f0:=fr 0;have f1:=fr 1;obtain⟨g0,_,g2,_,_⟩:=VA.below A2;have v0:=cB8 b1 v0;have v1:=cB8 b1 v1;have e0:=cB8 b1 e0;clear HW VA fr;go_wp2_with fail;go_quiet (fail)
      go_wp2_with fail;refine bodyPost_ret (v:=.agg #[iV 2,iV ((j+1:Nat):Int)]) (by simp[results,results74,go_sem,c0,c1]) rfl ⟨by rw[HZ.out];rfl,?_⟩;exact((bdn (bt bz b1) _).setCell (c9O _) _).setCell (c9O _) _
   ·have HR:Hid (Vw.aR u l=(Vw.cH u a,k)):=by
     show _=_;rw[HS.out,HD.out];exact Vw.gS hE
    generalize Vw.cH u a=x at HW HR hE;have Ae:((x:Int)==0)=false:=by rw[beq_eq_false_iff_ne];omega
    have Aq:((x:Int) !=0)=true:=by rw[bne,Ae];rfl
    clear hE hc;go_wp2_with fail;refine HW.mono ?_;rintro e w1 ⟨rfl,b1⟩;have b1:=bt bA b1;obtain⟨c0,c1,fr⟩:=(VF.below A1).below b1;have f0:=fr 0;have f1:=fr 1;clear HW;go_wp2_with fail;refine bodyPost_ret (v:=.agg #[iV x,iV k]) (by simp[results,results74,go_sem,c0,c1]) rfl ⟨by rw[HR.out],?_⟩;exact((bt bz b1).setCell (c9O _) _).setCell (c9O _) _
  ·obtain rfl:k=l.length:=by omega
   obtain⟨c0,c1,fr⟩:=VF.below A1;have f0:=fr 0;have f1:=fr 1;clear hc;by_cases A5:s=u
   ·have HZ:Hid (Vw.aR u l=(0,0)):=by
     show _=_;rw[HS.out,d0T,Vw.aF,if_pos A5]
    have Af:(s !=u)=false:=by rw[bne_eq_false_iff_eq];exact A5
    clear A5;go_wp2_with fail;refine bodyPost_ret (v:=.agg #[iV 0,iV 0]) (by simp[results,results74,go_sem,c0,c1]) rfl ⟨by rw[HZ.out];rfl,?_⟩;exact(bz.setCell (c9O _) _).setCell (c9O _) _
   ·have HZ:Hid (Vw.aR u l=(8,l.length)):=by
     show _=_;rw[HS.out,d0T,Vw.aF,if_neg A5]
    have Af:(s !=u)=true:=by rw[bne_iff_ne];exact A5
    clear A5;go_wp2_with fail;refine bodyPost_ret (v:=.agg #[iV 8,iV l.length]) (by simp[results,results74,go_sem,c0,c1]) rfl ⟨by rw[HZ.out];rfl,?_⟩;exact(bz.setCell (c9O _) _).setCell (c9O _) _
theorem Tryz.enters_getEq: ∀args w,(callFunc 73 args).run Tryz.prog w=.ok (.enter 73 args) w:=enters_of Tryz.func73 (by kernel_rfl) rfl
theorem b4W(p:Nat)(s t:ByteArray)(k m:Int)(b:Bool)(w:World)(hc:w.cell? (aD p 0)=some (.string t)):
  Calls prog 73 #[.agg #[.string s,iV k,iV m,.bool b],.pointer (some (aD p 0))] w fun e w'=>e=.returned (.bool (s.toList==t.toList))∧Bl w w':=by
 have A0:=aB8 w (.cells #[.string s,iV k,iV m,.bool b] 93);have A1:=cB8 A0 hc;obtain⟨c0,_,_,_,_⟩:=iF w 93 (.string s) (iV k) (iV m) (.bool b);go_enter func73,ntmps73
 go_wp2_with fail;go_ret
 exact⟨rfl,A0⟩
def b2S(l:List Vw.Acc)(n:List Nat)(i:Int):Prop:=(i= -1∧Vw.get l n=Vw.fresh n)∨ ∃(r:Nat) (a:Vw.Acc),l[r]?=some a∧i=(r:Int)∧Vw.get l n=a
theorem zS: ∀{l:List Vw.Acc} {n:List Nat} {k:Nat},(∀j a,j<k→l[j]?=some a→a.name≠n)→Vw.get l n=Vw.get (l.drop k) n
 |_,_,0,_=>rfl
 |[],_,k+1,_=>rfl
 |x::r,n,k+1,h=>by
  rw[Vw.get,if_neg (h 0 x (Nat.succ_pos k) rfl),d2W]
  exact zS (fun j a hj ha=>h (j+1) a (by omega) (by simpa using ha))
theorem c7K{l:List Vw.Acc}{n:List Nat}{a:Vw.Acc}(h: ∀j a,j<k→l[j]?=some a→a.name≠n)(ha:l[k]?=some a)(hn:a.name=n):Vw.get l n=a:=by
 rw[zS h,Vw.tK ha,Vw.get,if_pos hn]
theorem a9K(p:Nat)(t:ByteArray)(vs:Value)(l:List Vw.Acc)(w:World)(h:bJ w vs l)(hc:w.cell? (aD p 0)=some (.string t)):
  Calls prog 72 #[vs,.func (.func 73) #[] #[.pointer (some (aD p 0))]] w fun e w'=> ∃i:Int,e=.returned (iV i)∧b2S l (nb t) i∧Bl w w':=by
 have A7:=h.len;have eg:=Tryz.enters_getEq;obtain⟨A,C,rfl,_,_,ha⟩:=h;go_enter func72,ntmps72
 go_wp2_with fail;go_loopw [8] (fun i wr=> ∃k:Nat,k≤l.length∧i=iV k∧Hid (∀j a,j<k→l[j]?=some a→a.name≠nb t)∧Bl w wr) (fun i _=>l.length-(intOf i).toNat)
 case atStart=>exact⟨0,c9D _,rfl,fun j a hj=>absurd hj (c9L j),Below.refl _ _⟩
 case round=>
  obtain⟨k,hk,rfl,HS,hb⟩:=hrel;by_cases A4:k<l.length
  ·have A5:(k:Int)<(l.length:Int):=by omega
   obtain⟨a,A0⟩: ∃a,l[k]?=some a:=⟨l[k],c9F A4⟩;obtain⟨b,o,rfl,A3⟩:=ha k a A0;obtain⟨s,A6,A2,d0,d1,d2,d3⟩:=A3.below hb;have HK:Hid (l[k]?=some a∧nb s=a.name):=⟨A0,A2⟩;have HC:=b4W p s t a.sum a.cnt a.opn wr (cB8 hb hc);have HY:=hd8 (mV s t);clear ha A0 A2 A3;generalize (s.toList==t.toList)=y at HC HY;cases y with
   |true=>
    have HF:Hid (b2S l (nb t) (k:Int)):=Or.inr ⟨k,a,HK.out.1,rfl,c7K HS.out HK.out.1 (HK.out.2.symm.trans (of_decide_eq_true HY.out.symm))⟩;go_wp2_with fail;refine HC.mono ?_;rintro e w1 ⟨rfl,A1⟩;clear HC;go_wp2_with fail;go_ret
    exact⟨_,rfl,HF.out,bt hb A1⟩
   |false=>
    have HN:=hd8 fun e=>of_decide_eq_false HY.out.symm (HK.out.2.trans e);go_wp2_with fail;refine HC.mono ?_;rintro e w1 ⟨rfl,A1⟩;clear HC;go_wp2_with fail;refine⟨⟨k+1,by omega,by go_num,fun j x hj hx=>?_,bt hb A1⟩,by simp[intOf];omega⟩;by_cases e:j=k
    ·rw[e,HK.out.1]at hx;cases hx
     exact HN.out
    ·exact HS.out j x (by omega) hx
  ·obtain rfl:k=l.length:=by omega
   have HF:Hid (b2S l (nb t) (-1)):=Or.inl ⟨rfl,by rw[zS HS.out,d0T];rfl⟩;clear ha;go_wp2_with fail;go_ret
   exact⟨_,rfl,HF.out,hb⟩
def c4X(e:Ending)(a:Vw.Acc):Prop:= ∃v,e=.returned v∧AcV v a
theorem b4N(u:Int)(t:ByteArray)(vs:Value)(l:List Vw.Acc)(w:World)(h:bJ w vs l)(ht:t.size≤9223372036854775807):
  Calls prog 43 #[.agg #[iV u,vs],.string t] w fun e w'=>c4X e (Vw.get l (nb t))∧Bl w w':=by
 obtain⟨A,C,rfl⟩:=h.shape;have h1:=aB8 w (.cells #[iV u,.slice A l.length C] 30);have h2:=h1.alloc h1.size (.cells #[.string t] 9);have h3:=h2.alloc h2.size (.cells #[.string (ByteArray.mk #[]),iV 0,iV 0,.bool false] 93);have hA:=h.below h3;have v1:(((w.alloc (.cells #[iV u,.slice A l.length C] 30)).alloc (.cells #[.string t] 9)).alloc (.cells #[.string (ByteArray.mk #[]),iV 0,iV 0,.bool false] 93)).cell? (aD w.heap.size 1)=some (.slice A l.length C):=by go_simp
 have t0:(((w.alloc (.cells #[iV u,.slice A l.length C] 30)).alloc (.cells #[.string t] 9)).alloc (.cells #[.string (ByteArray.mk #[]),iV 0,iV 0,.bool false] 93)).cell? (aD (w.heap.size+1) 0)=some (.string t):=by go_simp
 have VA:=iF ((w.alloc (.cells #[iV u,.slice A l.length C] 30)).alloc (.cells #[.string t] 9)) 93 (.string (ByteArray.mk #[])) (iV 0) (iV 0) (.bool false);have A1:((w.alloc (.cells #[iV u,.slice A l.length C] 30)).alloc (.cells #[.string t] 9)).heap.size=w.heap.size+1+1:=by simp
 rw[A1]at VA;clear A1 h1 h2 h;go_enter func43,ntmps43
 go_wp2_with fail;generalize ((w.alloc (.cells #[iV u,.slice A l.length C] 30)).alloc (.cells #[.string t] 9)).alloc (.cells #[.string (ByteArray.mk #[]),iV 0,iV 0,.bool false] 93)=W at h3 hA v1 t0 VA⊢;refine(a9K (w.heap.size+1) t (.slice A l.length C) l W hA t0).mono ?_;rintro e w1 ⟨i,rfl,HF,b1⟩;have hA:=hA.below b1;have v1:=cB8 b1 v1;have t0:=cB8 b1 t0;obtain⟨g0,g1,g2,g3,fr⟩:=VA.below b1;have f0:=fr 0;have f1:=fr 1;have f2:=fr 2;have f3:=fr 3;clear VA fr;rcases HF with⟨rfl,hg⟩|⟨r,a,hr,rfl,hg⟩
 ·have HG:=hd8 hg;clear hg hA;go_wp2_with fail;refine bodyPost_ret (v:=.agg #[.string t,iV 0,iV 0,.bool false]) (by simp[results,results43,go_sem,g0,g1,g2,g3]) rfl ⟨⟨_,rfl,?_⟩,?_⟩
  ·rw[HG.out];exact⟨t,ht,rfl,rfl⟩
  ·exact((((bt h3 b1).setCell (by show w.heap.size≤w.heap.size+1+1;omega) _).setCell (by show w.heap.size≤w.heap.size+1+1;omega) _).setCell (by show w.heap.size≤w.heap.size+1+1;omega) _).setCell (by show w.heap.size≤w.heap.size+1+1;omega) _
 ·have HG:=hd8 hg;have A6:r<l.length:=(c9H.1 hr).1;have A7:=hA.len;obtain⟨b,o,C',hv,_,_,A2⟩:=hA.some (by omega);cases hv
  obtain⟨s,A3,A0,d0,d1,d2,d3⟩:=A2 r a hr;have HN:=hd8 A0;have A5: ¬(r:Int)<0:=by omega
  have A4:(r:Int)<(l.length:Int):=by omega
  clear hg hA hr A0 A2;go_wp2_with fail;refine bodyPost_ret (v:=.agg #[.string s,iV a.sum,iV a.cnt,.bool a.opn]) (by simp[results,results43,go_sem,g0,g1,g2,g3]) rfl ⟨⟨_,rfl,?_⟩,?_⟩
  ·rw[HG.out];exact⟨s,A3,HN.out,rfl⟩
  ·exact((((bt h3 b1).setCell (by show w.heap.size≤w.heap.size+1+1;omega) _).setCell (by show w.heap.size≤w.heap.size+1+1;omega) _).setCell (by show w.heap.size≤w.heap.size+1+1;omega) _).setCell (by show w.heap.size≤w.heap.size+1+1;omega) _
theorem c6M{a:Vw.Acc}{e:Evt.Ev}(h:e.kind=1):Vw.may a e=!a.opn:=if_pos h
theorem zL{a:Vw.Acc}{e:Evt.Ev}(h:e.kind=2∨e.kind=4):Vw.may a e=a.opn:=by unfold Vw.may;rw[if_neg (by omega),if_pos h]
theorem b8Y{a:Vw.Acc}{e:Evt.Ev}(h:e.kind=3):Vw.may a e=(a.opn&&decide (e.num≤a.sum)):=by unfold Vw.may;rw[if_neg (by omega),if_neg (by omega),if_pos h]
theorem c3I{a:Vw.Acc}{e:Evt.Ev}(h1:e.kind≠1)(h2:e.kind≠2)(h3:e.kind≠3)(h4:e.kind≠4):Vw.may a e=false:=by unfold Vw.may;rw[if_neg h1,if_neg (by omega),if_neg h3]
theorem c5W(s s':ByteArray)(S c k m:Int)(b:Bool)(w:World):
  Calls prog 104 #[.agg #[.string s,iV S,iV c,.bool b],.agg #[.string s',iV k,iV m]] w fun e w'=>e=.returned (.bool (Vw.may ⟨nb s,S,c,b⟩ ⟨nb s',k,m⟩))∧Bl w w':=by
 have h1:=aB8 w (.cells #[.string s,iV S,iV c,.bool b] 93);have h2:=h1.alloc h1.size (.cells #[.string s',iV k,iV m] 83);by_cases q1:k=1
 ·have H:=hd8 (c6M q1);subst q1;go_enter func104,ntmps104
  go_wp2_with fail;go_ret
  exact⟨by rw[H.out];rfl,h2⟩
 have e1:(k==1)=false:=by rw[beq_eq_false_iff_ne];exact q1
 by_cases q2:k=2
 ·have H:Hid (Vw.may ⟨nb s,S,c,b⟩ ⟨nb s',k,m⟩=b):=zL (Or.inl q2);subst q2;clear q1 e1;go_enter func104,ntmps104
  go_wp2_with fail;go_ret
  exact⟨by rw[H.out];rfl,h2⟩
 have e2:(k==2)=false:=by rw[beq_eq_false_iff_ne];exact q2
 by_cases q4:k=4
 ·have H:Hid (Vw.may ⟨nb s,S,c,b⟩ ⟨nb s',k,m⟩=b):=zL (Or.inr q4);subst q4;clear q1 e1 q2 e2;go_enter func104,ntmps104
  go_wp2_with fail;go_ret
  exact⟨by rw[H.out];rfl,h2⟩
 have e4:(k==4)=false:=by rw[beq_eq_false_iff_ne];exact q4
 by_cases q3:k=3
 ·have H:=hd8 (b8Y q3);subst q3;clear q1 e1 q2 e2 q4 e4;cases b with
  |false=>
   go_enter func104,ntmps104
   go_wp2_with fail;go_ret
   exact⟨by rw[H.out];rfl,h2⟩
  |true=>
   go_enter func104,ntmps104
   go_wp2_with fail;go_ret
   exact⟨by rw[H.out];rfl,h2⟩
 have e3:(k==3)=false:=by rw[beq_eq_false_iff_ne];exact q3
 have H:=hd8 (c3I q1 q2 q3 q4);clear q1 q2 q3 q4;go_enter func104,ntmps104
 go_wp2_with fail;go_ret
 exact⟨by rw[H.out];rfl,h2⟩
end Go.Proofs.YtmcaejooaaahdaaGreat
