import Derived.Test.YtmcaejooaaahdaaGreatZ16
import Derived.Test.YtmcaejooaaahdaaGreatZ17
import Derived.Test.YtmcaejooaaahdaaGreatZ18
set_option maxHeartbeats 8000000
set_option maxRecDepth 100000
namespace Go.Proofs.YtmcaejooaaahdaaGreat.Sto
open Go.Proofs.Tryz
variable {N cap g i n q:Nat} {v:Value} {w w':World}
section
variable {bl : List (Int × List Nat)} {k : Int} {i : Nat}
theorem oW:Up bl↔UpI (bl.map (·.1)):=a5L
theorem rP{h:Int×List Nat}(hi:bl[i]?=some h):(bl.map (·.1))[i]?=some h.1:=by
 rw[c9S,hi];rfl
theorem zD(hu:Up bl)(hc:kZ (bl.map (·.1)) k i){j:Nat}{h:Int×List Nat}(hj:bl[j]?=some h)(hk:h.1=k):j=i:=by
 have h1:=rP hj;by_cases q:j<i
 ·have:=hc.2.1 j _ q h1;omega
 ·by_cases e:j=i
  ·exact e
  ·obtain⟨hl,rfl⟩:=c9H.1 hj;have hi:i<bl.length:=by omega
   have h2:=hc.2.2 i _ (c9C i) (rP (c9F hi));have h3:=d2Y.1 hu i j hi hl (by omega);omega
theorem a5C(hu:Up bl)(hc:kZ (bl.map (·.1)) k i)(hn:(bl.map (·.1))[i]?≠some k): ∀h,h∈bl→h.1≠k:=fun h hm e=>by
 obtain⟨j,hj⟩:=d1K.1 hm
 have:=zD hu hc hj e
 subst this
 exact hn (by rw[rP hj,e])
theorem b8T(hu:Up bl)(hc:kZ (bl.map (·.1)) k i)(hn:(bl.map (·.1))[i]?≠some k):bl.find? (fun h=>decide (h.1=k))=none:=by
 rw[List.find?_eq_none];intro h hm;simpa using a5C hu hc hn h hm
theorem a9S(hu:Up bl)(hc:kZ (bl.map (·.1)) k i){h:Int×List Nat}(hi:bl[i]?=some h)(hk:h.1=k):bl.find? (fun h=>decide (h.1=k))=some h:=by
 cases hf:bl.find? (fun h=>decide (h.1=k))with
 |none=>
  rw[List.find?_eq_none]at hf;exact absurd hk (by simpa using hf h (c9N hi))
 |some y=>
  have h1:y.1=k:=by simpa using List.find?_some hf
  obtain⟨j,hj⟩:=d1K.1 (List.mem_of_find?_eq_some hf);have:=zD hu hc hj h1;subst this;rw[hj]at hi;cases hi
  rfl
theorem sN(hc:kZ (bl.map (·.1)) k i):bl.filter (fun h=>decide (h.1<k))=bl.take i:=by
 conv=>lhs;rw[←d2Q i bl]
 rw[d1O];have h1:(bl.take i).filter (fun h=>decide (h.1<k))=bl.take i:=by
  rw[d2S];intro h hm;obtain⟨j,hj⟩:=d1K.1 hm;have A0:j<i:=by
   have:=(c9H.1 hj).1;rw[c9K]at this;omega
  rw[d0C,if_pos A0]at hj;exact decide_eq_true (hc.2.1 j _ A0 (rP hj))
 have h2:(bl.drop i).filter (fun h=>decide (h.1<k))=[]:=by
  rw[List.filter_eq_nil_iff];intro h hm;obtain⟨j,hj⟩:=d1K.1 hm;rw[d0J]at hj;have:=hc.2.2 (i+j) _ (Nat.le_add_right i j) (rP hj);simpa using this
 rw[h1,h2,d0W]
theorem sV(hc:kZ (bl.map (·.1)) k i):bl.filter (fun h=>decide (k<h.1))=(bl.drop i).filter (fun h=>decide (k<h.1)):=by
 conv=>lhs;rw[←d2Q i bl]
 rw[d1O];have h1:(bl.take i).filter (fun h=>decide (k<h.1))=[]:=by
  rw[List.filter_eq_nil_iff];intro h hm;obtain⟨j,hj⟩:=d1K.1 hm;have A0:j<i:=by
   have:=(c9H.1 hj).1;rw[c9K]at this;omega
  rw[d0C,if_pos A0]at hj;have:=hc.2.1 j _ A0 (rP hj);simp;omega
 rw[h1,d1C]
theorem b7W(hu:Up bl)(hc:kZ (bl.map (·.1)) k i){h:Int×List Nat}(hi:bl[i]?=some h)(hk:h.1=k)(x:List Nat):ins k x false bl=bl.set i (k,x):=by
 obtain⟨hl,rfl⟩:=c9H.1 hi;rw[xH hu,sN hc,sV hc,List.set_eq_take_append_cons_drop,if_pos hl,d2L hl,d1N (by rw[hk];simp)];congr 2;rw[d2S];intro y hm;obtain⟨j,hj⟩:=d1K.1 hm;rw[d0J]at hj;obtain⟨A0,rfl⟩:=c9H.1 hj;have:=d2Y.1 hu i (i+1+j) hl A0 (by omega);rw[hk]at this;exact decide_eq_true this
theorem c4B(hu:Up bl)(hc:kZ (bl.map (·.1)) k i)(hn:(bl.map (·.1))[i]?≠some k)(x:List Nat):ins k x false bl=bl.take i++(k,x)::bl.drop i:=by
 rw[xH hu,sN hc,sV hc];congr 2;rw[d2S];intro y hm;have A0:=d1S hm;obtain⟨j,hj⟩:=d1K.1 hm;rw[d0J]at hj;have h1:=hc.2.2 (i+j) _ (Nat.le_add_right i j) (rP hj);have h2:=a5C hu hc hn y A0;exact decide_eq_true (by omega)
end
theorem pD{k:Int}{p y:Nat}: ∀{bl:List (Int×List Nat)} {i:Nat} {h:Int×List Nat},Up bl→bl[i]?=some h→h.1=k→mJ k p y bl=bl.set i (k,h.2.set p (h.2.getD p 0^^^y))
 |[],_,_,_,hi,_=>by cases hi
 |x::t,0,h,hu,hi,hk=>by
  cases hi
  rw[mJ,if_pos hk]
  rfl
 |x::t,i+1,h,hu,hi,hk=>by
  obtain⟨h1,h2⟩:=d1A.1 hu
  have hi:t[i]?=some h:=hi
  have:=h1 h (c9N hi)
  rw[mJ,if_neg (by omega),pD h2 hi hk]
  rfl
end Go.Proofs.YtmcaejooaaahdaaGreat.Sto
namespace Go.Proofs.YtmcaejooaaahdaaGreat
open Go.Proofs.Tryz
variable {N cap g i n q:Nat} {v:Value} {w w':World}
open Go.RowKit
def WfD(ds:List Sto.aM)(m:Nat):Prop:= ∀(i:Nat) (d:Sto.aM),ds[i]?=some d→Sto.Up d.bl∧(∀h,h∈d.bl→0≤h.1∧h.1<(m:Int))∧(d.gone=true→d.bl=[])
theorem xB: ∀{l:List Int} {a m:Int},UpI l→(∀x,x∈l→a≤x∧x<m)→a≤m→(l.length:Int)≤m-a
 |[],a,m,_,_,h=>by
  simp
  omega
 |x::r,a,m,hu,hm,h=>by
  obtain⟨h1,h2⟩:=d1A.1 hu
  have hx:=hm x c9W
  have:=xB (a:=x+1) (m:=m) h2 (fun y hy=>⟨by have:=h1 y hy;omega,(hm y (c9Y _ hy)).2⟩) (by omega)
  rw[d0E]
  omega
theorem gR(hs:List HeC):(hs.map kV).map (·.1)=hs.map (·.1):=by
 rw[List.map_map];rfl
section
variable {w : World} {N D m : Nat} {V : Nat → Value} {U : Nat → List HeC} {ds : List Sto.aM}
theorem dM.up(h:dM w N D V U ds)(hw:WfD ds m)(hi:i<ds.length):UpI ((U i).map (·.1))∧(U i).length≤m:=by
 obtain⟨q1,q2,_⟩:=hw i ds[i] (c9F hi);have hb:=h.bl i ds[i] (c9F hi);rw[hb]at q1 q2;have hu:UpI ((U i).map (·.1)):=by
  have:=Sto.oW.1 q1;rw[gR]at this;exact this
 refine⟨hu,?_⟩
 have:=xB (a:=0) (m:=(m:Int)) hu (fun x hx=>by
  obtain⟨y,hy,rfl⟩:=d0G.1 hx
  exact q2 (kV y) (List.mem_map_of_mem hy)) (by omega)
 rw[c9M]at this;omega
theorem dM.heIn(h:dM w N D V U ds)(hi:i<ds.length):a8A w (V i) (U i):=c3R (h.own i hi)
end
def bvV(hs:List HeC)(k:Int):Value:=match hs.find? (fun h=>decide (h.1=k))with
 |some h=>slV h.2.1
 |none=>nS
theorem b4X{hs:List HeC}{k:Int}(hu:UpI (hs.map (·.1)))(hc:kZ (hs.map (·.1)) k i){h:HeC}(hi:hs[i]?=some h)(hk:h.1=k):bvV hs k=slV h.2.1:=by
 have hf:hs.find? (fun h=>decide (h.1=k))=some h:=by
  cases hf:hs.find? (fun h=>decide (h.1=k))with
  |none=>
   rw[List.find?_eq_none]at hf;exact absurd hk (by simpa using hf h (c9N hi))
  |some y=>
   have h1:y.1=k:=by simpa using List.find?_some hf
   obtain⟨j,hj⟩:=d1K.1 (List.mem_of_find?_eq_some hf);have A0:(hs.map kV)[j]?=some (kV y):=by rw[c9S,hj];rfl
   have:=Sto.zD (bl:=hs.map kV) (i:=i) (k:=k) (Sto.oW.2 (by rw[gR];exact hu)) (by rw[gR];exact hc) A0 h1;subst this;rw[hj]at hi;cases hi
   rfl
 unfold bvV;rw[hf]
theorem c4T{hs:List HeC}{k:Int}(hu:UpI (hs.map (·.1)))(hc:kZ (hs.map (·.1)) k i)(hn:(hs.map (·.1))[i]?≠some k):bvV hs k=nS:=by
 have hf:hs.find? (fun h=>decide (h.1=k))=none:=by
  rw[List.find?_eq_none];intro h hm;have:=Sto.a5C (bl:=hs.map kV) (i:=i) (k:=k) (Sto.oW.2 (by rw[gR];exact hu)) (by rw[gR];exact hc) (by rw[gR];exact hn) (kV h) (List.mem_map_of_mem hm);simpa using(show¬h.1=k from this)
 unfold bvV;rw[hf]
theorem a1Y{hs:List HeC}{k:Int}(hu:UpI (hs.map (·.1)))(hb: ∀x:HeC,x∈hs→eQ w N (slV x.2.1) x.2.2):cU w (bvV hs k) (Sto.lF k (hs.map kV) []):=by
 unfold bvV;cases hf:hs.find? (fun h=>decide (h.1=k))with
 |none=>
  rw[Sto.rH fun h hm e=>?_]
  ·exact cU.nil w
  ·obtain⟨x,hx,rfl⟩:=d0G.1 hm;rw[List.find?_eq_none]at hf;exact absurd (show x.1=k from e) (by simpa using hf x hx)
 |some y=>
  have h1:y.1=k:=by simpa using List.find?_some hf
  have hm:=List.mem_of_find?_eq_some hf;rw[Sto.a7B (h:=kV y) (Sto.oW.2 (by rw[gR];exact hu)) (List.mem_map_of_mem hm) h1];exact(hb y hm).bytL
def c5U(e:Ending)(w':World)(bs:List (List Nat)):Prop:= ∃v',e=.returned v'∧Lls w' v' bs.length (Sto.fO bs) (Sto.eK bs)
theorem vW{ds:List Sto.aM}{m:Nat}(hw:WfD ds m){k:Int}{d:Sto.aM}(hd:ds[i]?=some d):(Sto.aI ds k).getD i []=Sto.lF k d.bl []:=by
 rw[c9R,Sto.aI,c9S,hd];show(if d.gone then[]else Sto.lF k d.bl [])=_;by_cases q:d.gone=true
 ·rw[if_pos q,(hw i d hd).2.2 q];rfl
 ·rw[if_neg q]
theorem c1E{α:Type}(B:Nat→α)(z:α)(n q:Nat):((List.range n).map fun j=>if j<q then B j else z).set q (B q)=(List.range n).map fun j=>if j<q+1 then B j else z:=by
 apply d1I;intro i;by_cases hi:i<n
 ·by_cases e:i=q
  ·subst e;rw[d0O (by simpa using hi)];simp[hi]
  ·rw[d0P (fun z=>e z.symm)];simp[hi,show i<q↔i<q+1 by omega]
 ·rw[c9Z (by simpa using hi),c9Z (by simpa using hi)]
theorem b8X{α:Type}(B:Nat→α)(z:α)(n q:Nat)(h:B q=z):((List.range n).map fun j=>if j<q then B j else z)=(List.range n).map fun j=>if j<q+1 then B j else z:=by
 refine d1H fun i _=>?_;by_cases e:i=q
 ·subst e;rw[if_neg (d0V i),if_pos (by omega),h]
 ·by_cases g:i<q
  ·rw[if_pos g,if_pos (by omega)]
  ·rw[if_neg g,if_neg (by omega)]
theorem a7Y(R D n N m:Nat)(k:Int)(V:Nat→Value)(U:Nat→List HeC)(ds:List Sto.aM)(w:World)(c3:w.cell? (aD R 3)=some (.slice (some (aD D 0)) n n))(hd:dM w N D V U ds)(hn:ds.length=n)(h12:n≤12)(hw:WfD ds m)(hm:m≤100000):
  Calls prog 52 #[.pointer (some (aD R 0)),iV k] w fun e w'=>c5U e w' (Sto.aI ds k)∧Bl w w':=by
 have At:=run_make_row' (P:=prog) 86 59 nS 24 underlying86 Tryz.infoRow rfl .i64 .i64 n (by omega) (by omega);have A5:=aB8 w (.cells (madeCells #[nS] n) 59);have Ah:=cB8 A5 c3;have HD:=hd8 hd;have HN:=hd8 hn;have HW:=hd8 hw;have R0:(w.alloc (.cells (madeCells #[nS] n) 59)).ownsRow w.heap.size 59 1 (.slice (some (aD w.heap.size 0)) n n) n ((List.range n).map fun j=>if j<0 then bvV (U j) k else nS):=by
  have:=World.ownsRow_lit w (madeCells #[nS] n) n (e:=59) (size:=1) (c9C w.heap.size) (by unfold maxLen;omega) (by simp[madeCells]);rw[show(madeCells #[Value.slice none 0 0] n).toList=(List.range n).map fun j=>if j<0 then bvV (U j) k else Value.slice none 0 0 from ?_]at this
  ·exact this
  ·rw[toList_madeCells_one];apply d1I;intro i;by_cases hi:i<n
   ·simp[hi]
   ·simp[hi]
 clear hd hn hw;go_enter func52,ntmps52
 go_wp2_with fail;generalize w.alloc (.cells (madeCells #[nS] n) 59)=W0 at A5 Ah R0⊢;go_loopw [23] (fun x wr=> ∃q:Nat,q≤n∧x=iV q∧wr.ownsRow w.heap.size 59 1 (.slice (some (aD w.heap.size 0)) n n) n ((List.range n).map fun j=>if j<q then bvV (U j) k else nS)∧Bl w wr) (fun x _=>n-(intOf x).toNat)
 case atStart=>exact⟨0,c9D _,rfl,R0,A5⟩
 case round=>
  obtain⟨q,hq,rfl,hR,hb⟩:=hrel;by_cases Ae:q<n
  ·have Am:(q:Int)<(n:Int):=by omega
   have DK:=HD.out.bE hb;have A4:q<ds.length:=by rw[HN.out];exact Ae
   obtain⟨d,Ac⟩: ∃d,ds[q]?=some d:=⟨ds[q],c9F A4⟩;have g0:=DK.gone Ac;have g1:=DK.held A4;have HE:=DK.heIn A4;obtain⟨A6,Al⟩:=DK.up HW.out A4;have A9:=hd8 A6;obtain⟨A,C,hV,Ap,Aa,A0⟩:=HE;have HF:=fun w' (hb':Bl wr w')=>zN k (V q) (U q) w' ((DK.heIn A4).bE hb') A6 (by omega);rw[hV]at g1 HF;have Ai:=mL8 Aa;have bA:=aB8 wr (.cells #[.bool d.gone,.slice A (U q).length C] 58);have VD:=aO wr 58 (.bool d.gone) (.slice A (U q).length C);have Af:=hd8 A0;clear DK Ac hV A0 A6 Aa;go_wp2_with fail;refine(HF _ bA).mono ?_;rintro e w1 ⟨⟨i,y,rfl,hcut,hy⟩,b1⟩;have A7:=hd8 hcut;have b2:=bt bA b1;have A1:=aK hR b2;have As:=(A1.lt w.heap.size rfl).2;obtain⟨v0,v1,_⟩:=VD.bE b1;clear HF VD bA b1 hcut;cases y with
   |true=>
    have hk:=hy.1 rfl;rw[c9S]at hk;obtain⟨h,hh,Ad⟩:=c9J.1 hk;have Ar:i<(U q).length:=(c9H.1 hh).1;obtain⟨b,o,rfl,_,d1⟩:=Af.out i h hh;have d1:=cB8 b2 d1;have HB:=hd8 (b4X A9.out A7.out hh Ad);have Ab:=A1.stored q (slV h.2.1);have A8:Hid ((w1.setCell (aD w.heap.size q) (slV h.2.1)).ownsRow w.heap.size 59 1 (.slice (some (aD w.heap.size 0)) n n) n ((List.range n).map fun j=>if j<q+1 then bvV (U j) k else nS)):=by
     have:=Ab.1;rw[←HB.out,c1E]at this;rw[←HB.out];exact this
    have Ak:(i:Int)<((U q).length:Int):=by omega
    have Aq:=A1.frozenAt q;obtain⟨u0,Au⟩: ∃u0,w1.cell? (aD w.heap.size q)=some u0:=by
     obtain⟨g,Ao,hv,_,_,_,_,hc⟩:=dC A1 (by omega);cases hv
     exact⟨_,hc q _ (by rw[c9S,List.getElem?_range Ae];rfl)⟩
    unfold slV at d1 A8;clear hy hk hh Ad Ab hR A1 HB;go_wp2_with fail;refine⟨⟨q+1,by omega,by go_num,A8.out,(bt hb b2).setCell (c9C _) _⟩,by simp[intOf];omega⟩
   |false=>
    have Ag:Hid (bvV (U q) k=nS):=c4T A9.out A7.out fun z=>absurd (hy.2 z) (by decide);rw[b8X (fun j=>bvV (U j) k) nS n q Ag.out]at A1;clear hy hR;go_wp2_with fail;exact⟨⟨q+1,by omega,by go_num,A1,bt hb b2⟩,by simp[intOf];omega⟩
  ·obtain rfl:q=n:=by omega
   have HL:Hid (c5U (.returned (.slice (some (aD w.heap.size 0)) q q)) wr (Sto.aI ds k)):=by
    have hl:(Sto.aI ds k).length=q:=by
     unfold Sto.aI;rw[c9M,HN.out]
    have DK:=HD.out.bE hb;refine⟨_,rfl,?_⟩;rw[hl];have Aj:wr.ownsRow w.heap.size 59 1 (.slice (some (aD w.heap.size 0)) q q) q ((List.range q).map fun j=>bvV (U j) k):=by
     rw[show((List.range q).map fun j=>bvV (U j) k)=(List.range q).map fun j=>if j<q then bvV (U j) k else nS from d1H fun j hj=>by rw[if_pos (d0D.1 hj)]];exact hR
    refine b3O Aj (fun j hj=>?_) (Below.refl _ _) (fun j kk=>?_)
    ·have A2:j<ds.length:=by rw[HN.out];exact hj
     have A3:=c9F A2;have:=(a1Y (k:=k) (DK.up HW.out A2).1 fun x hx=>DK.byt j x A2 hx).byts;unfold Sto.fO Sto.eK;rw[vW HW.out A3,DK.bl j _ A3];exact this
    ·unfold Sto.eK;by_cases A2:j<ds.length
     ·have A3:=c9F A2;rw[vW HW.out A3,DK.bl j _ A3];exact Sto.kH (a1Y (k:=k) (DK.up HW.out A2).1 fun x hx=>DK.byt j x A2 hx).1 kk
     ·have An:(Sto.aI ds k)[j]?=none:=c9Z (by rw[hl,←HN.out];omega);rw[c9R (l:=Sto.aI ds k),An];simp
   clear hR;go_wp2_with fail;go_ret
   exact⟨HL.out,hb⟩
theorem wT{α:Type}(l:List α)(x:α)(hi:i≤l.length)(a:Nat):(l.take i++x::l.drop i)[a]?=if a<i then l[a]? else if a=i then some x else l[a-1]?:=by
 by_cases h:a<i
 ·rw[if_pos h,d0M (by rw[c9K];omega),d0C,if_pos h]
 ·rw[if_neg h,d0S (by rw[c9K];omega),c9K,show min i l.length=i by omega];by_cases e:a=i
  ·subst e;rw[if_pos rfl,d1L];rfl
  ·rw[if_neg e,show a-i=(a-i-1)+1 by omega,List.getElem?_cons_succ,d0J,show i+(a-i-1)=a-1 by omega]
theorem oL{α:Type}(Q:Nat→α)(k:Nat):upd Q k (Q k)=Q:=funext fun i=>by
 unfold upd
 split
 ·rename_i h
  rw[h]
 ·rfl
theorem wU{V:Nat→Value}{ds:List Sto.aM}{d d':Sto.aM}(hq:ds[q]?=some d)(v':Value)(j:Nat):dkF (upd V q v') (ds.set q d') j=if j=q*2 then .bool d'.gone else if j=q*2+1 then v' else dkF V ds j:=by
 have hl:=(c9H.1 hq).1;unfold dkF;by_cases e:j%2=0
 ·rw[if_pos e,if_pos e,if_neg (show¬j=q*2+1 by omega),c9R,c9R];by_cases g:j=q*2
  ·rw[if_pos g,show j/2=q by omega,d0O hl];rfl
  ·rw[if_neg g,d0P (show q≠j/2 by omega)]
 ·rw[if_neg e,if_neg e,if_neg (show¬j=q*2 by omega)];by_cases g:j=q*2+1
  ·rw[if_pos g,show j/2=q by omega,bM]
  ·rw[if_neg g,aW _ _ (show j/2≠q by omega)]
theorem uP: ∀(l:List HeC) (i t:Nat) (a a':HeC) (u:Value),t<2→l[i]?=some a→aJ a'=(aJ a).set t u→(l.flatMap aJ).set (i*2+t) u=(l.set i a').flatMap aJ:=
 fun l i t a a' u ht h hf=>tI aJ 2 l i t a a' u (fun _ _=>rfl) ht h hf
section
variable {w : World} {N D : Nat} {V : Nat → Value} {U : Nat → List HeC} {ds : List Sto.aM}
theorem dM.Vlt(h:dM w N D V U ds)(hi:i<ds.length)(hg:(V i).ownBlock=some g):g<w.heap.size:=((h.own i hi).lt g hg).2
theorem dM.there(h:dM w N D V U ds){d:Sto.aM}{x:HeC}(hq:ds[q]?=some d)(hV:V q=.slice (some (aD g 0)) n cap)(hx:(U q)[i]?=some x)(y:Sl)(r:List Nat)(hY:eQ w N (slV y) r)
  (hsep: ∀(j:Nat) (z:HeC) (b:Nat),j<ds.length→z∈U j→(slV y).ownBlock=some b→(slV z.2.1).ownBlock≠some b):
  dM (w.setCell (aD g (i*2+1)) (slV y)) N D V (upd U q ((U q).set i (x.1,y,r))) (ds.set q ⟨d.gone,d.bl.set i (x.1,r)⟩):=by
 have hl:=(c9H.1 hq).1;have ho:=aG w (aD g (i*2+1)) (slV y);have A0:=h.own q hl;have A2:(V q).ownBlock=some g:=by rw[hV];rfl
 have A1:=aU A0 A2;have hn:n=(U q).length:=by
  rcases A0.2 with⟨e,_⟩|⟨_,_,_,e,_⟩
  ·rw[hV]at e;cases e
  ·rw[hV]at e;cases e
   rfl
 have A4:eQ (w.setCell (aD g (i*2+1)) (slV y)) N (slV y) r:=hY.off ho fun b hb s=>(hY.ty hb).ne A1 (by decide) s;have H:=h.put (w':=w.setCell (aD g (i*2+1)) (slV y)) hl ⟨d.gone,d.bl.set i (x.1,r)⟩ (V q) ((U q).set i (x.1,y,r)) ?_ (ho.wider fun k s=>Or.inr (Or.inl (by rw[A2,s]))) ?_ ?_ (fun z hz=>?_) (fun b hb=>Or.inl hb) (fun a z b ha hb=>?_) (fun a b z z' c ha hb h1 h2=>?_)
 ·rw[oL]at H;exact H
 ·refine(h.row.of_block (ho.block D h.row.lt fun s=>h.row.ty.ne A1 (by decide) s)).congr fun j hj=>?_;rw[wU hq (V q) j];by_cases e:j=q*2
  ·rw[if_pos e,e];unfold dkF;rw[if_pos (by omega),show q*2/2=q by omega,c9R,hq];rfl
  ·rw[if_neg e];by_cases e2:j=q*2+1
   ·rw[if_pos e2,e2];unfold dkF;rw[if_neg (by omega),show(q*2+1)/2=q by omega]
   ·rw[if_neg e2]
 ·rw[hV]at A0⊢;subst hn;rw[d0B,←uP (U q) i 1 x (x.1,y,r) (slV y) (by decide) hx rfl];exact(A0.stored (i*2+1) (slV y)).1
 ·show d.bl.set i (x.1,r)=((U q).set i (x.1,y,r)).map kV;rw[List.map_set,h.bl q d hq];rfl
 ·rcases List.mem_or_eq_of_mem_set hz with k|rfl
  ·exact(h.byt q z hl k).off ho fun b hb s=>((h.byt q z hl k).ty hb).ne A1 (by decide) s
  ·exact A4
 ·by_cases e:a=i
  ·subst e;rw[d0O (c9H.1 hx).1]at ha;cases ha
   exact Or.inr fun j z1 hj hz1=>hsep j z1 b hj hz1 hb
  ·rw[d0P (fun z=>e z.symm)]at ha;exact Or.inl ⟨z,c9N ha,hb⟩
 ·have A3:=(c9H.1 hx).1;by_cases e:a=i
  ·by_cases e2:b=i
   ·rw[e,e2]
   ·subst e;rw[d0O A3]at ha;rw[d0P (fun z=>e2 z.symm)]at hb;cases ha
    exact absurd h2 (hsep q z' c hl (c9N hb) h1)
  ·rw[d0P (fun z=>e z.symm)]at ha;by_cases e2:b=i
   ·subst e2;rw[d0O A3]at hb;cases hb
    exact absurd h1 (hsep q z c hl (c9N ha) h2)
   ·rw[d0P (fun z=>e2 z.symm)]at hb;exact(h.sepU q q a b z z' c hl hl ha hb h1 h2).2
theorem dM.fresh(h:dM w N D V U ds){w1:World}{g n cap:Nat}{d:Sto.aM}(hq:ds[q]?=some d)(k:Int)(hi:i≤(U q).length)(y:Sl)(r:List Nat)(hY:eQ w N (slV y) r)
  (hown:w1.ownsRow N 61 2 (.slice (some (aD g 0)) n cap) ((U q).length+1) (((U q).take i++(k,((none,0,0):Sl),([]:List Nat))::(U q).drop i).flatMap aJ)) (ho:Off (fun k=>(V q).ownBlock=some k) w w1) (hat:(V q).ownBlock=some g∨w.heap.size≤g)
  (hsep: ∀(j:Nat) (z:HeC) (b:Nat),j<ds.length→z∈U j→(slV y).ownBlock=some b→(slV z.2.1).ownBlock≠some b):
  dM ((w1.setCell (aD D (q*2+1)) (.slice (some (aD g 0)) n cap)).setCell (aD g (i*2+1)) (slV y)) N D (upd V q (.slice (some (aD g 0)) n cap)) (upd U q ((U q).take i++(k,y,r)::(U q).drop i)) (ds.set q ⟨d.gone,d.bl.take i++(k,r)::d.bl.drop i⟩):=by
 have hl:=(c9H.1 hq).1;have A0:=h.own q hl;have hn:n=(U q).length+1:=by
  rcases hown.2 with⟨e,_⟩|⟨_,_,_,e,_⟩
  ·cases e
  ·cases e
   rfl
 subst hn;have A2:TyB w1 g 61:=aU hown rfl;have A1:TyB w1 D 58:=h.row.ty.of_block (ho.block D h.row.lt fun s=>h.row.ty.ne (aU A0 s) (by decide) rfl);have A9:D≠g:=A1.ne A2 (by decide);have A4:aZ w1 D 58 (ds.length*2) (dkF V ds):=h.row.of_block (ho.block D h.row.lt fun s=>h.row.ty.ne (aU A0 s) (by decide) rfl);have oA:=aG w1 (aD D (q*2+1)) (.slice (some (aD g 0)) ((U q).length+1) cap);have oB:=aG (w1.setCell (aD D (q*2+1)) (.slice (some (aD g 0)) ((U q).length+1) cap)) (aD g (i*2+1)) (slV y);have Ab:Off (fun k=>k=D∨(V q).ownBlock=some k∨ ∃x,x∈U q∧(slV x.2.1).ownBlock=some k) w ((w1.setCell (aD D (q*2+1)) (.slice (some (aD g 0)) ((U q).length+1) cap)).setCell (aD g (i*2+1)) (slV y)):=by
  refine((ho.wider fun k s=>Or.inr (Or.inl s)).past oA fun k s _=>Or.inl s).past oB fun k s hk=>?_;have s:k=g:=s;rcases hat with z|z
  ·exact Or.inr (Or.inl (by rw[s];exact z))
  ·omega
 have A7: ∀{u:Value} {t:List Nat},eQ w N u t→eQ ((w1.setCell (aD D (q*2+1)) (.slice (some (aD g 0)) ((U q).length+1) cap)).setCell (aD g (i*2+1)) (slV y)) N u t:=fun {u t} hu=>by
  refine hu.of_block fun b hb=>?_;have Aa:=(hu.ty hb).lt;have h1:w1.heap[b]?=w.heap[b]?:=ho.block b Aa fun s=>(hu.ty hb).ne (aU A0 s) (by decide) rfl;have A5:=(hu.ty hb).of_block h1;rw[oB.block b (by simpa using A5.lt) (fun s=>A5.ne A2 (by decide) s),oA.block b A5.lt (fun s=>A5.ne A1 (by decide) s)];exact h1
 refine h.put hl ⟨d.gone,d.bl.take i++(k,r)::d.bl.drop i⟩ _ ((U q).take i++(k,y,r)::(U q).drop i) ?_ Ab ?_ ?_ (fun z hz=>?_) (fun b hb=>?_) (fun a z b ha hb=>?_) (fun a b z z' c ha hb h1 h2=>?_)
 ·refine((A4.set (q*2+1) (.slice (some (aD g 0)) ((U q).length+1) cap)).setOther A9 (slV y)).congr fun j hj=>?_;rw[wU hq _ j];by_cases e:j=q*2
  ·rw[if_pos e,if_neg (by omega),e];unfold dkF;rw[if_pos (by omega),show q*2/2=q by omega,c9R,hq];rfl
  ·rw[if_neg e]
 ·have hx:((U q).take i++(k,((none,0,0):Sl),([]:List Nat))::(U q).drop i)[i]?=some (k,(none,0,0),[]):=by
   rw[wT _ _ hi,if_neg (d0V i),if_pos rfl]
  have A3:(w1.setCell (aD D (q*2+1)) (.slice (some (aD g 0)) ((U q).length+1) cap)).ownsRow N 61 2 (.slice (some (aD g 0)) ((U q).length+1) cap) ((U q).length+1) (((U q).take i++(k,((none,0,0):Sl),([]:List Nat))::(U q).drop i).flatMap aJ):=bC hown oA fun b hb s=>by
   cases hb
   exact A9 s.symm
  have:=(A3.stored (i*2+1) (slV y)).1;rw[uP _ i 1 _ (k,y,r) (slV y) (by decide) hx rfl]at this;have e:((U q).take i++(k,((none,0,0):Sl),([]:List Nat))::(U q).drop i).set i (k,y,r)=(U q).take i++(k,y,r)::(U q).drop i:=by
   rw[List.set_append_right _ _ (by rw[c9K];omega),c9K,show i-min i (U q).length=0 by omega,List.set_cons_zero]
  rw[e]at this;have A8:((U q).take i++(k,y,r)::(U q).drop i).length=(U q).length+1:=by
   simp;omega
  rw[A8];exact this
 ·show d.bl.take i++(k,r)::d.bl.drop i=((U q).take i++(k,y,r)::(U q).drop i).map kV;rw[c9U,d1R,List.map_take,List.map_drop,h.bl q d hq];rfl
 ·rcases List.mem_append.1 hz with z1|z1
  ·exact A7 (h.byt q z hl (d2T z1))
  ·rcases List.mem_cons.1 z1 with rfl|z1
   ·exact A7 hY
   ·exact A7 (h.byt q z hl (d1S z1))
 ·cases hb
  rcases hat with z|z
  ·exact Or.inl z
  ·exact Or.inr fun j hj e=>by
    have:g<w.heap.size:=h.Vlt hj e;omega
 ·rw[wT _ _ hi]at ha;by_cases e:a<i
  ·rw[if_pos e]at ha;exact Or.inl ⟨z,c9N ha,hb⟩
  ·rw[if_neg e]at ha;by_cases e2:a=i
   ·rw[if_pos e2]at ha;cases ha
    exact Or.inr fun j z1 hj hz1=>hsep j z1 b hj hz1 hb
   ·rw[if_neg e2]at ha;exact Or.inl ⟨z,c9N ha,hb⟩
 ·rw[wT _ _ hi]at ha hb;have A6: ∀(a:Nat) (z:HeC),a≠i→(if a<i then(U q)[a]? else if a=i then some (k,y,r)else(U q)[a-1]?)=some z→(U q)[if a<i then a else a-1]?=some z:=fun a z hne h=>by
   by_cases e:a<i
   ·rw[if_pos e]at h⊢;exact h
   ·rw[if_neg e,if_neg hne]at h;rw[if_neg e];exact h
  by_cases e:a=i
  ·by_cases e2:b=i
   ·rw[e,e2]
   ·rw[if_neg (by omega),if_pos e]at ha;cases ha
    exact absurd h2 (hsep q z' c hl (c9N (A6 b z' e2 hb)) h1)
  ·by_cases e2:b=i
   ·rw[if_neg (by omega),if_pos e2]at hb;cases hb
    exact absurd h1 (hsep q z c hl (c9N (A6 a z e ha)) h2)
   ·have:=(h.sepU q q _ _ z z' c hl hl (A6 a z e ha) (A6 b z' e2 hb) h1 h2).2;split at this<;>split at this<;>omega
end
structure iD(w:World)(N:Nat)(v:Value)(L:List (List Nat))(Y:Nat→Sl):Prop where
 own:w.ownsRow N 59 1 v L.length ((List.range L.length).map fun i=>slV (Y i))
 byt: ∀i,i<L.length→eQ w N (slV (Y i)) (L.getD i [])
 sep: ∀i j g,i<L.length→j<L.length→(slV (Y i)).ownBlock=some g→(slV (Y j)).ownBlock=some g→i=j
theorem iD.off{S:Nat→Prop}{L:List (List Nat)}{Y:Nat→Sl}(h:iD w N v L Y)(ho:Off S w w')(hS: ∀k,S k→ ∃t,TyB w k t∧t≠59∧t≠5):iD w' N v L Y:=
 ⟨bC h.own ho fun g hg s=>by
  obtain⟨t,ht,q,_⟩:=hS g s
  exact ht.ne (aU h.own hg) q rfl,fun i hi=>(h.byt i hi).off ho fun g hg s=>by
  obtain⟨t,ht,_,q⟩:=hS g s
  exact ht.ne ((h.byt i hi).ty hg) q rfl,h.sep⟩
theorem iD.bE{L:List (List Nat)}{Y:Nat→Sl}(h:iD w N v L Y)(hb:Bl w w'):iD w' N v L Y:=
 h.off (Off.oE (S:=fun _=>False) hb) fun _ s=>s.elim
theorem iD.at{L:List (List Nat)}{Y:Nat→Sl}(h:iD w N v L Y)(hn:1≤L.length): ∃b cap,v=.slice (some (aD b 0)) L.length cap∧L.length≤cap∧cap≤maxLen∧TyB w b 59∧ ∀i,i<L.length→w.cell? (aD b i)=some (slV (Y i)):=by
 obtain⟨g,cap,rfl,_,h1,h2,_,hc⟩:=dC h.own hn;exact⟨g,cap,rfl,h1,h2,aU h.own rfl,fun i hi=>hc i _ (by rw[c9S,List.getElem?_range hi];rfl)⟩
theorem b5E{α:Type}{a b:List α}(hl:a.length=b.length){x:α}(hx:a[q]?=some x):(a.take q++b.drop q).set q x=a.take (q+1)++b.drop (q+1):=by
 obtain⟨hq,rfl⟩:=c9H.1 hx;have A0:q<b.length:=by omega
 rw[List.set_append_right _ _ (by rw[c9K];omega),c9K,show q-min q a.length=0 by omega,d2L A0,List.set_cons_zero,List.take_succ_eq_append_getElem hq,c9X];rfl
theorem c4U{α:Type}{a b:List α}(hl:a.length=b.length)(hq:q≤a.length):(a.take q++b.drop q)[q]?=b[q]?:=by
 rw[d0S (by rw[c9K];omega),c9K,show q-min q a.length=0 by omega,d0J,d0X]
theorem yH{α:Type}{a b:List α}(hl:a.length=b.length)(q:Nat):(a.take q++b.drop q).length=b.length:=by
 simp;omega
structure kS(w wr:World)(N D:Nat)(k:Int)(n q:Nat)(V:Nat→Value)(U:Nat→List HeC)(ds:List Sto.aM)(L:List (List Nat))(Y:Nat→Sl)(V':Nat→Value)(U':Nat→List HeC):Prop where
 dk:dM wr N D V' U' ((Sto.write k L 0 ds).take q++ds.drop q)
 off:Off (fun b=>b=D∨ ∃i,i<n∧(V i).ownBlock=some b) w wr
 newV: ∀i g,i<n→(V' i).ownBlock=some g→(V i).ownBlock=some g∨w.heap.size≤g
 newU: ∀(i:Nat) (x:HeC) (g:Nat),i<n→x∈U' i→(slV x.2.1).ownBlock=some g→(∃y,y∈U i∧(slV y.2.1).ownBlock=some g)∨(i<q∧(slV (Y i)).ownBlock=some g)
 same: ∀i,q≤i→V' i=V i∧U' i=U i
def c8Y(w w':World)(N D:Nat)(k:Int)(n:Nat)(V:Nat→Value)(U:Nat→List HeC)(ds:List Sto.aM)(L:List (List Nat))(Y:Nat→Sl):Prop:= ∃V' U',kS w w' N D k n n V U ds L Y V' U'
section
variable {w wr : World} {N D n q : Nat} {k : Int} {V : Nat → Value} {U : Nat → List HeC} {ds : List Sto.aM} {L : List (List Nat)} {Y : Nat → Sl} {V' : Nat → Value} {U' : Nat → List HeC}
theorem kS.typed(h:kS w wr N D k n q V U ds L Y V' U')(hd:dM w N D V U ds)(hn:ds.length=n): ∀b,(b=D∨ ∃i,i<n∧(V i).ownBlock=some b)→ ∃t,TyB w b t∧(t=58∨t=61):=fun b s=>by
 rcases s with rfl|⟨i,hi,hb⟩
 ·exact⟨_,hd.row.ty,Or.inl rfl⟩
 ·exact⟨_,aU (hd.own i (by omega)) hb,Or.inr rfl⟩
theorem kS.start(hd:dM w N D V U ds):kS w w N D k n 0 V U ds L Y V U:=
 ⟨by rw[d2F,d2E];exact hd,Off.refl _ _,fun _ _ _ h=>Or.inl h,fun i x g _ hx hg=>Or.inl ⟨x,hx,hg⟩,fun _ _=>⟨rfl,rfl⟩⟩
theorem kS.next(h:kS w wr N D k n q V U ds L Y V' U')(hq:q<n){w':World}{d':Sto.aM}(hd':(Sto.write k L 0 ds)[q]?=some d')(v':Value)(hs':List HeC)
  (hk:dM w' N D (upd V' q v') (upd U' q hs') (((Sto.write k L 0 ds).take q++ds.drop q).set q d')) (ho:Off (fun b=>b=D∨(V q).ownBlock=some b) wr w') (hv: ∀g,v'.ownBlock=some g→(V q).ownBlock=some g∨w.heap.size≤g)
  (hu: ∀(x:HeC) (g:Nat),x∈hs'→(slV x.2.1).ownBlock=some g→(∃y,y∈U q∧(slV y.2.1).ownBlock=some g)∨(slV (Y q)).ownBlock=some g):kS w w' N D k n (q+1) V U ds L Y (upd V' q v') (upd U' q hs'):=by
 have A0:=Sto.cK k L ds 0;refine⟨?_,h.off.past ho fun b s _=>?_,fun i g hi hg=>?_,fun i x g hi hx hg=>?_,fun i hi=>?_⟩
 ·rw[←b5E A0 hd'];exact hk
 ·rcases s with s|s
  ·exact Or.inl s
  ·exact Or.inr ⟨q,hq,s⟩
 ·by_cases e:i=q
  ·subst e;rw[bM]at hg;exact hv g hg
  ·rw[aW _ _ e]at hg;exact h.newV i g hi hg
 ·by_cases e:i=q
  ·subst e;rw[bM]at hx;rcases hu x g hx hg with z|z
   ·exact Or.inl z
   ·exact Or.inr ⟨by omega,z⟩
  ·rw[aW _ _ e]at hx;rcases h.newU i x g hi hx hg with z|⟨z1,z2⟩
   ·exact Or.inl z
   ·exact Or.inr ⟨by omega,z2⟩
 ·rw[aW _ _ (by omega),aW _ _ (by omega)];exact h.same i (by omega)
theorem kS.sep(h:kS w wr N D k n q V U ds L Y V' U')(hn:ds.length=n)(hq:q<n)(hLn:L.length=n){M:Nat}(hL:iD w M v L Y)
  (hf: ∀(i j:Nat) (x:HeC) (g:Nat),i<n→j<n→x∈U i→(slV x.2.1).ownBlock=some g→(slV (Y j)).ownBlock≠some g):
  ∀(j:Nat) (z:HeC) (b:Nat),j<((Sto.write k L 0 ds).take q++ds.drop q).length→z∈U' j→(slV (Y q)).ownBlock=some b→(slV z.2.1).ownBlock≠some b:=fun j z b hj hz hb e=>by
 rw[yH (Sto.cK k L ds 0)]at hj
 rcases h.newU j z b (by omega) hz e with⟨y,hy,hyb⟩|⟨hjq,hyb⟩
 ·exact hf j q y b (by omega) hq hy hyb hb
 ·have:=hL.sep j q b (by omega) (by omega) hyb hb
  omega
end
theorem c0V(R D n N m:Nat)(k:Int)(V:Nat→Value)(U:Nat→List HeC)(ds:List Sto.aM)(L:List (List Nat))(Y:Nat→Sl)(vl:Value)(M:Nat)(w:World)(tR:TyB w R 45)(c3:w.cell? (aD R 3)=some (.slice (some (aD D 0)) n n))(hd:dM w N D V U ds)(hn:ds.length=n)(h1:1≤n)(h12:n≤12)(hw:WfD ds m)(hm:m≤100000)
  (hL:iD w M vl L Y) (hLn:L.length=n) (hNM:N≤M) (hNw:N≤w.heap.size) (hf: ∀(i j:Nat) (x:HeC) (g:Nat),i<n→j<n→x∈U i→(slV x.2.1).ownBlock=some g→(slV (Y j)).ownBlock≠some g):
  Calls prog 56 #[.pointer (some (aD R 0)),iV k,vl] w fun e w'=>e=.returned (.tuple #[])∧c8Y w w' N D k n V U ds L Y:=by
 have HD:=hd8 hd;have HN:=hd8 hn;have HW:=hd8 hw;have HL:=hd8 hL;have A7:Hid (L.length=n):=hLn;have Ba:=hd8 hf;have Ay:=hd8 tR;obtain⟨bL,cL,Bp,B3,Ak,_,_⟩:=hL.at (by omega);rw[hLn]at Bp B3;subst Bp;have Bi:=mL8 Ak;clear hd hn hw hL hLn hf tR Ak;go_enter func56,ntmps56
 go_wp2_with fail;go_loopw [16] (fun x wr=> ∃q:Nat,q≤n∧x=iV q∧Hid (∃V' U',kS w wr N D k n q V U ds L Y V' U')) (fun x _=>n-(intOf x).toNat)
 case atStart=>exact⟨0,c9D _,rfl,V,U,kS.start HD.out⟩
 case round=>
  obtain⟨q,hq,rfl,HS⟩:=hrel;by_cases A6:q<n
  ·have C4:(q:Int)<(n:Int):=by omega
   obtain⟨V',U',hS⟩:=HS.out;have At:=Sto.cK k L ds 0;have B7:q<ds.length:=by rw[HN.out];exact A6
   obtain⟨d,Ag⟩: ∃d,ds[q]?=some d:=⟨ds[q],c9F B7⟩;have A5:((Sto.write k L 0 ds).take q++ds.drop q)[q]?=some d:=by
    rw[c4U At (by omega)];exact Ag
   have Ap:q<((Sto.write k L 0 ds).take q++ds.drop q).length:=by
    rw[yH At];exact B7
   have DK:=hS.dk;have g0:=DK.gone A5;have g1:=DK.held Ap;obtain⟨A2,A4⟩:=hS.same q (c9C q);rw[A2]at g1;have B1:wr.heap[R]?=w.heap[R]?:=hS.off.block R Ay.out.lt fun s=>by
    obtain⟨t,ht,z⟩:=hS.typed HD.out HN.out R s;rcases z with rfl|rfl
    ·exact ht.ne Ay.out (by decide) rfl
    ·exact ht.ne Ay.out (by decide) rfl
   have Bv:=(World.cell?_of_block (w:=w) (a:=⟨R,3,none⟩) B1).trans c3;have Ah:(Sto.write k L 0 ds)[q]?=some (if d.gone then d else⟨false,Sto.ins k (L.getD q []) false d.bl⟩):=by
    rw[Sto.kQ,Ag,c9G];rfl
   cases hg:d.gone with
   |true=>
    rw[hg]at g0 Ah
    have Ad:Hid (∃V' U',kS w wr N D k n (q+1) V U ds L Y V' U'):=⟨_,_,hS.next A6 (d':=d) Ah (V' q) (U' q) (by
     rw[oL,oL,show((Sto.write k L 0 ds).take q++ds.drop q).set q d=(Sto.write k L 0 ds).take q++ds.drop q from by
      obtain⟨h1,h2⟩:=c9H.1 A5;rw[←h2]
      exact List.set_getElem_self h1]
     exact DK) (Off.refl _ _) (fun g hg=>Or.inl (by rw[←A2];exact hg)) (fun x g hx hg=>Or.inl ⟨x,by rw[←A4];exact hx,hg⟩)⟩
    clear hS DK A5 Ap Ah Ag At A2 A4 B1;go_wp2_with fail;exact⟨⟨q+1,by omega,by go_num,Ad.out⟩,by simp[intOf];omega⟩
   |false=>
    rw[hg]at g0 Ah;obtain⟨Bk,C3⟩:=HD.out.up HW.out B7;have HE:a8A wr (V q) (U q):=by
     have:=DK.heIn Ap;rw[A2,A4]at this;exact this
    have HF:=zN k (V q) (U q) wr HE Bk (by omega);obtain⟨A,C,hV,Cb,Be,_⟩:=HE;rw[hV]at HF g1;have Bw:=mL8 Be;have Ao:wr.ownsRow N 61 2 (.slice A (U q).length C) (U q).length ((U q).flatMap aJ):=by
     have:=DK.own q Ap;rw[A2,A4,hV]at this;exact this
    have LB:=HL.out.off hS.off fun b s=>by
     obtain⟨t,ht,z⟩:=hS.typed HD.out HN.out b s;rcases z with rfl|rfl
     ·exact⟨_,ht,by decide,by decide⟩
     ·exact⟨_,ht,by decide,by decide⟩
    have Bg:=HD.out.bl q d Ag;have Av:=hd8 Bg;have Bb:=hd8 ((HW.out q d Ag).1);have Br:=hd8 DK;have Af:=hd8 hS;have Az:Hid (V' q=V q∧U' q=U q∧V q=.slice A (U q).length C):=⟨A2,A4,hV⟩;have Ai:=hd8 A5;have Bc:=hd8 Ah;have HG:=hd8 hg;have Bt:=hd8 LB;clear hS DK A5 Ap Ah Ag At A2 A4 hV B1 Bg Bk Be hg LB;go_wp2_with fail;refine HF.mono ?_;rintro e w1 ⟨⟨i,y,rfl,hcut,hy⟩,b1⟩;have B9:Hid (kZ (d.bl.map (·.1)) k i):=by
     show kZ (d.bl.map (·.1)) k i
     rw[Av.out,gR];exact hcut
    have B5:i≤(U q).length:=by
     have:=hcut.1;rw[c9M]at this;exact this
    have Bs:Hid ((d.bl.map (·.1))[i]?=((U q).map (·.1))[i]?):=by
     show(d.bl.map (·.1))[i]?=_
     rw[Av.out,gR]
    have A0:=aK Ao b1;have A8:=hd8 (Br.out.bE b1);have A9:=hd8 (Bt.out.bE b1);have By:w1.cell? (aD bL q)=some (slV (Y q)):=by
     obtain⟨b',c',Bm,_,_,_,Bz⟩:=A9.out.at (by rw[A7.out];omega);rw[A7.out]at Bm;cases Bm
     exact Bz q (by rw[A7.out];exact A6)
    have g0:=cB8 b1 g0;have g1:=cB8 b1 g1;have C5:D<w1.heap.size:=World.block_lt_of_cell? _ _ g0;have fD:=A8.out.row.frozen (q*2+1);have Aq:=hd8 b1;unfold slV at By;clear HF hcut Ao Bv b1;cases y with
    |true=>
     have hk:=hy.1 rfl;rw[c9S]at hk;obtain⟨x,hx,B8⟩:=c9J.1 hk;have C2:i<(U q).length:=(c9H.1 hx).1;obtain⟨g,cap,C7,_,_,_,_,An⟩:=dC A0 (by omega);cases C7
     have d1:=An (i*2+1) _ (dQ aJ 2 (U q) (fun _ _=>rfl) i 1 (by decide) x hx);have fg:=A0.frozenAt (i*2+1);have bD:Bl w1 w1.drew:=(Below.refl _ _).drew;have Ad:Hid (∃V' U',kS w (w1.drew.setCell (aD g (i*2+1)) (slV (Y q))) N D k n (q+1) V U ds L Y V' U'):=by
      obtain⟨A2,A4,hV⟩:=Az.out;have C8:(U' q)[i]?=some x:=by rw[A4];exact hx
      have hT:=(A8.out.bE bD).there (q:=q) (i:=i) Ai.out (by rw[A2];exact hV) C8 (Y q) (L.getD q []) (((A9.out.bE bD).byt q (by rw[A7.out];exact A6)).lower hNM) (Af.out.sep HN.out A6 A7.out HL.out Ba.out);have C0:d.bl[i]?=some (kV x):=by
       rw[Av.out,c9S,hx];rfl
      rw[B8,HG.out,←Sto.b7W Bb.out B9.out C0 B8 (L.getD q [])]at hT;refine⟨_,_,Af.out.next A6 Bc.out (V' q) ((U' q).set i (k,Y q,L.getD q [])) (by rw[oL];exact hT) ?_ (fun b hb=>Or.inl (by rw[←A2];exact hb)) (fun z b hz hb=>?_)⟩
      ·exact((Off.oE Aq.out).trans (Off.oE bD)).set (p:=⟨g,i*2+1,none⟩) (Or.inr (by rw[hV];rfl)) _
      ·rcases List.mem_or_eq_of_mem_set hz with z1|rfl
       ·exact Or.inl ⟨z,by rw[←A4];exact z1,hb⟩
       ·exact Or.inr hb
     have B6:(i:Int)<((U q).length:Int):=by omega
     unfold slV at d1 Ad;clear hy hk hx B8 A0 An;go_wp2_with fail;go_region
     go_wp2_with fail;exact⟨⟨q+1,by omega,by go_num,Ad.out⟩,by simp[intOf];omega⟩
    |false=>
     have bA:=aB8 w1 (.cells #[iV k,nS] 61);have Bj: ∀b,(Value.slice A (U q).length C).ownBlock=some b→b<w1.heap.size:=fun b hb=>(A0.lt b hb).2
     have HI:=c2M N i w1.heap.size (.slice A (U q).length C) (U q) (k,(none,0,0),[]) (w1.alloc (.cells #[iV k,nS] 61)) (aK A0 bA) (c9E (c9E (c9E hNw Af.out.off.size) Aq.out.size) bA.size) B5 (by omega) (heap_alloc_new w1 _) (fun e=>by
      have:=Bj _ e
      omega)
     have Bu:Hid ((d.bl.map (·.1))[i]?≠some k):=fun z=>by
      rw[Bs.out]at z;exact absurd (hy.2 z) (by decide)
     have Aj:Hid (dM (w1.alloc (.cells #[iV k,nS] 61)) N D V' U' ((Sto.write k L 0 ds).take q++ds.drop q)):=A8.out.bE bA;have Aw:Hid (iD (w1.alloc (.cells #[iV k,nS] 61)) M (.slice (some (aD bL 0)) n cL) L Y):=A9.out.bE bA;have Au:Hid (Bl wr (w1.alloc (.cells #[iV k,nS] 61))):=bt Aq.out bA;have Ax:=hd8 (c9E Af.out.off.size Aq.out.size);clear hy A0 A8 A9 Bj;go_wp2_with fail;generalize w1.alloc (.cells #[iV k,nS] 61)=wa at HI Aj Aw Au bA;refine HI.mono ?_;rintro e w2 ⟨v2,rfl,A1,A3,Aa⟩;obtain⟨g,cap,Bn,Ce,Al,Am,Cf,An⟩:=dC A1 (by rw[c9I,d0E];omega);have Ab:((U q).take i++(k,((none,0,0):Sl),([]:List Nat))::(U q).drop i).length=(U q).length+1:=by
      simp;omega
     rw[Ab]at Bn A1 Al;subst Bn;have Bq:((U q).take i++(k,((none,0,0):Sl),([]:List Nat))::(U q).drop i)[i]?=some (k,(none,0,0),[]):=by
      rw[wT _ _ B5,if_neg (d0V i),if_pos rfl]
     have d1:=An (i*2+1) _ (dQ aJ 2 _ (fun _ _=>rfl) i 1 (by decide) _ Bq);have fg:=A1.frozenAt (i*2+1);have C1:TyB w2 g 61:=aU A1 rfl;have Ac:=Aj.out.own q (by rw[yH (Sto.cK k L ds 0),HN.out];exact A6);have Ae: ∀b t,TyB wa b t→t≠61→w2.heap[b]?=wa.heap[b]?:=fun b t ht hne=>A3.block b ht.lt fun s=>by
      obtain⟨A2,_,hV⟩:=Az.out;rw[←hV,←A2]at s;exact ht.ne (aU Ac s) hne rfl
     have As:=Aj.out.row.ty;have Ar:=Ae D _ As (by decide);have Bx:D≠g:=(As.of_block Ar).ne C1 (by decide);have Cd:g≠D:=fun e=>Bx e.symm;obtain⟨b9,c9,Bo,_,_,B2,Bh⟩:=Aw.out.at (by rw[A7.out];omega);rw[A7.out]at Bo;cases Bo
     have Bf:=Ae bL _ B2 (by decide);have Cc:bL≠D:=B2.ne As (by decide);have B0:w2.cell? (aD bL q)=some (slV (Y q)):=(World.cell?_of_block (w:=wa) (a:=⟨bL,q,none⟩) Bf).trans (Bh q (by rw[A7.out];exact A6));have Ca:=(World.cell?_of_block (w:=wa) (a:=⟨D,q*2+1,none⟩) Ar).trans ((bA.cell (p:=⟨D,q*2+1,none⟩) C5).trans g1);have C9:=(World.frozen?_of_block (w:=wa) (a:=⟨D,q*2+1,none⟩) Ar).trans (Aj.out.row.frozen _);have B4:=mL8 Am;have Ad:Hid (∃V' U',kS w ((w2.drew.setCell (aD D (q*2+1)) (.slice (some (aD g 0)) ((U q).length+1) cap)).setCell (aD g (i*2+1)) (slV (Y q))) N D k n (q+1) V U ds L Y V' U'):=by
      obtain⟨A2,A4,hV⟩:=Az.out;have C6:Off (fun k=>(V' q).ownBlock=some k) wa w2.drew:=by
       rw[A2,hV];exact A3.drew
      have hT:=Aj.out.fresh (w1:=w2.drew) (q:=q) (i:=i) (g:=g) (cap:=cap) (n:=(U q).length+1) Ai.out k (by rw[A4];exact B5) (Y q) (L.getD q []) ((Aw.out.byt q (by rw[A7.out];exact A6)).lower hNM) (by rw[A4];exact A1) C6 (by
       rw[A2,hV];rcases Aa with z|z
       ·exact Or.inl z.symm
       ·exact Or.inr (z g rfl)) (Af.out.sep HN.out A6 A7.out HL.out Ba.out)
      rw[A4,HG.out,←Sto.c4B Bb.out B9.out Bu.out (L.getD q [])]at hT;refine⟨_,_,Af.out.next A6 Bc.out _ _ hT ?_ (fun b hb=>?_) (fun z b hz hb=>?_)⟩
      ·have o1:Off (fun b=>b=D∨(V q).ownBlock=some b) wr w2.drew:=(Off.oE Au.out).trans ((A3.wider fun b s=>Or.inr (by rw[hV];exact s)).drew);refine(o1.set (p:=⟨D,q*2+1,none⟩) (Or.inl rfl) _).past (aG _ (aD g (i*2+1)) (slV (Y q))) fun b s hb=>?_;have s:b=g:=s;rcases Aa with z|z
       ·exact Or.inr (by rw[hV,s];exact z.symm)
       ·have:=z g rfl;have:=Au.out.size;omega
      ·cases hb
       rcases Aa with z|z
       ·exact Or.inl (by rw[hV];exact z.symm)
       ·refine Or.inr ?_;show w.heap.size≤g;have:=z g rfl;have:=Ax.out;have:=bA.size;omega
      ·rcases List.mem_append.1 hz with z1|z1
       ·exact Or.inl ⟨z,d2T z1,hb⟩
       ·rcases List.mem_cons.1 z1 with rfl|z1
        ·exact Or.inr hb
        ·exact Or.inl ⟨z,d1S z1,hb⟩
     have B6:(i:Int)<(((U q).length+1:Nat):Int):=by omega
     unfold slV at B0 Ad;have d1:w2.cell? (aD g (i*2+1))=some nS:=d1;clear HI A1 An Bq A3 Aa Ae As Ar Bf B2 Bh Ac Ab;go_wp2_with fail;go_region
     go_wp2_with fail;exact⟨⟨q+1,by omega,by go_num,Ad.out⟩,by simp[intOf];omega⟩
  ·obtain rfl:q=n:=by omega
   go_wp2_with fail;go_end0
   exact⟨rfl,HS.out⟩
end Go.Proofs.YtmcaejooaaahdaaGreat
