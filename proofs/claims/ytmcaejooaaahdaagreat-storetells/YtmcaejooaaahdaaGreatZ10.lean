import Derived.Test.YtmcaejooaaahdaaGreatZ09
set_option maxHeartbeats 8000000
set_option maxRecDepth 100000
namespace Go.Proofs.YtmcaejooaaahdaaGreat
open Go.Proofs.Tryz
variable {L:Nat→Nat} {M N cap g i k m n o q:Nat} {S:Nat→Prop} {V:Nat→Value} {d':Sto.Disk} {ds:List Sto.Disk} {f:Nat→Nat→Nat} {t:TypeId} {v y:Value} {w w':World} {xs:List Value}
open Go.RowKit
theorem xB{α:Type}(l:List α)(x:α)(hi:i≤l.length)(a:Nat):(l.take i++x::l.drop i)[a]?=if a<i then l[a]? else if a=i then some x else l[a-1]?:=by
 by_cases h:a<i
 ·rw[if_pos h,d0M (by rw[c9K];omega),d0C,if_pos h]
 ·rw[if_neg h,d0S (by rw[c9K];omega),c9K,show min i l.length=i by omega];by_cases e:a=i
  ·subst e;rw[if_pos rfl,d1L];rfl
  ·rw[if_neg e,show a-i=(a-i-1)+1 by omega,List.getElem?_cons_succ,d0J,show i+(a-i-1)=a-1 by omega]
theorem oT{α:Type}(Q:Nat→α)(k:Nat):upd Q k (Q k)=Q:=funext fun i=>by
 unfold upd
 split
 ·rename_i h
  rw[h]
 ·rfl
theorem wZ{d:Sto.aL}(hq:ds[q]?=some d)(v':Value)(j:Nat):dkF (upd V q v') (ds.set q d') j=if j=q*2 then .bool d'.gone else if j=q*2+1 then v' else dkF V ds j:=by
 have hl:=(c9H.1 hq).1;unfold dkF;by_cases e:j%2=0
 ·rw[if_pos e,if_pos e,if_neg (show¬j=q*2+1 by omega),c9R,c9R];by_cases g:j=q*2
  ·rw[if_pos g,show j/2=q by omega,d0O hl];rfl
  ·rw[if_neg g,d0P (show q≠j/2 by omega)]
 ·rw[if_neg e,if_neg e,if_neg (show¬j=q*2 by omega)];by_cases g:j=q*2+1
  ·rw[if_pos g,show j/2=q by omega,bM]
  ·rw[if_neg g,aV _ _ (show j/2≠q by omega)]
theorem uZ: ∀(l:List HeC) (i t:Nat) (a a':HeC) (u:Value),t<2→l[i]?=some a→aI a'=(aI a).set t u→(l.flatMap aI).set (i*2+t) u=(l.set i a').flatMap aI:=
 fun l i t a a' u ht h hf=>sW aI 2 l i t a a' u (fun _ _=>rfl) ht h hf
section
variable {w : World} {N D : Nat} {V : Nat → Value} {U : Nat → List HeC} {ds : List Sto.aL}
theorem dM.Vlt(h:dM w N D V U ds)(hi:i<ds.length)(hg:(V i).ownBlock=some g):g<w.heap.size:=((h.own i hi).lt g hg).2
theorem dM.there(h:dM w N D V U ds){d:Sto.aL}{x:HeC}(hq:ds[q]?=some d)(hV:V q=.slice (some (aD g 0)) n cap)(hx:(U q)[i]?=some x)(y:Sl)(r:List Nat)(hY:eQ w N (slV y) r)
  (hsep: ∀(j:Nat) (z:HeC) (b:Nat),j<ds.length→z∈U j→(slV y).ownBlock=some b→(slV z.2.1).ownBlock≠some b):
  dM (w.setCell (aD g (i*2+1)) (slV y)) N D V (upd U q ((U q).set i (x.1,y,r))) (ds.set q ⟨d.gone,d.bl.set i (x.1,r)⟩):=by
 have hl:=(c9H.1 hq).1;have ho:=aG w (aD g (i*2+1)) (slV y);have A0:=h.own q hl;have A3:(V q).ownBlock=some g:=by rw[hV];rfl
 have A1:=aU A0 A3;have hn:n=(U q).length:=by
  rcases A0.2 with⟨e,_⟩|⟨_,_,_,e,_⟩
  ·rw[hV]at e;cases e
  ·rw[hV]at e;cases e
   rfl
 have A4:eQ (w.setCell (aD g (i*2+1)) (slV y)) N (slV y) r:=hY.off ho fun b hb s=>(hY.ty hb).ne A1 (by decide) s;have H:=h.put (w':=w.setCell (aD g (i*2+1)) (slV y)) hl ⟨d.gone,d.bl.set i (x.1,r)⟩ (V q) ((U q).set i (x.1,y,r)) ?_ (ho.wider fun k s=>Or.inr (Or.inl (by rw[A3,s]))) ?_ ?_ (fun z hz=>?_) (fun b hb=>Or.inl hb) (fun a z b ha hb=>?_) (fun a b z z' c ha hb h1 h2=>?_)
 ·rw[oT]at H;exact H
 ·refine(h.row.of_block (ho.block D h.row.lt fun s=>h.row.ty.ne A1 (by decide) s)).congr fun j hj=>?_;rw[wZ hq (V q) j];by_cases e:j=q*2
  ·rw[if_pos e,e];unfold dkF;rw[if_pos (by omega),show q*2/2=q by omega,c9R,hq];rfl
  ·rw[if_neg e];by_cases e2:j=q*2+1
   ·rw[if_pos e2,e2];unfold dkF;rw[if_neg (by omega),show(q*2+1)/2=q by omega]
   ·rw[if_neg e2]
 ·rw[hV]at A0⊢;subst hn;rw[d0B,←uZ (U q) i 1 x (x.1,y,r) (slV y) (by decide) hx rfl];exact(A0.stored (i*2+1) (slV y)).1
 ·show d.bl.set i (x.1,r)=((U q).set i (x.1,y,r)).map kQ;rw[List.map_set,h.bl q d hq];rfl
 ·rcases List.mem_or_eq_of_mem_set hz with k|rfl
  ·exact(h.byt q z hl k).off ho fun b hb s=>((h.byt q z hl k).ty hb).ne A1 (by decide) s
  ·exact A4
 ·by_cases e:a=i
  ·subst e;rw[d0O (c9H.1 hx).1]at ha;cases ha
   exact Or.inr fun j z1 hj hz1=>hsep j z1 b hj hz1 hb
  ·rw[d0P (fun z=>e z.symm)]at ha;exact Or.inl ⟨z,c9N ha,hb⟩
 ·have A2:=(c9H.1 hx).1;by_cases e:a=i
  ·by_cases e2:b=i
   ·rw[e,e2]
   ·subst e;rw[d0O A2]at ha;rw[d0P (fun z=>e2 z.symm)]at hb;cases ha
    exact absurd h2 (hsep q z' c hl (c9N hb) h1)
  ·rw[d0P (fun z=>e z.symm)]at ha;by_cases e2:b=i
   ·subst e2;rw[d0O A2]at hb;cases hb
    exact absurd h1 (hsep q z c hl (c9N ha) h2)
   ·rw[d0P (fun z=>e2 z.symm)]at hb;exact(h.sepU q q a b z z' c hl hl ha hb h1 h2).2
theorem dM.fresh(h:dM w N D V U ds){w1:World}{g n cap:Nat}{d:Sto.aL}(hq:ds[q]?=some d)(k:Int)(hi:i≤(U q).length)(y:Sl)(r:List Nat)(hY:eQ w N (slV y) r)
  (hown:w1.ownsRow N 61 2 (.slice (some (aD g 0)) n cap) ((U q).length+1) (((U q).take i++(k,((none,0,0):Sl),([]:List Nat))::(U q).drop i).flatMap aI)) (ho:Off (fun k=>(V q).ownBlock=some k) w w1) (hat:(V q).ownBlock=some g∨w.heap.size≤g)
  (hsep: ∀(j:Nat) (z:HeC) (b:Nat),j<ds.length→z∈U j→(slV y).ownBlock=some b→(slV z.2.1).ownBlock≠some b):
  dM ((w1.setCell (aD D (q*2+1)) (.slice (some (aD g 0)) n cap)).setCell (aD g (i*2+1)) (slV y)) N D (upd V q (.slice (some (aD g 0)) n cap)) (upd U q ((U q).take i++(k,y,r)::(U q).drop i)) (ds.set q ⟨d.gone,d.bl.take i++(k,r)::d.bl.drop i⟩):=by
 have hl:=(c9H.1 hq).1;have A0:=h.own q hl;have hn:n=(U q).length+1:=by
  rcases hown.2 with⟨e,_⟩|⟨_,_,_,e,_⟩
  ·cases e
  ·cases e
   rfl
 subst hn;have A4:TyB w1 g 61:=aU hown rfl;have A3:TyB w1 D 58:=h.row.ty.of_block (ho.block D h.row.lt fun s=>h.row.ty.ne (aU A0 s) (by decide) rfl);have A9:D≠g:=A3.ne A4 (by decide);have A2:aY w1 D 58 (ds.length*2) (dkF V ds):=h.row.of_block (ho.block D h.row.lt fun s=>h.row.ty.ne (aU A0 s) (by decide) rfl);have oA:=aG w1 (aD D (q*2+1)) (.slice (some (aD g 0)) ((U q).length+1) cap);have oB:=aG (w1.setCell (aD D (q*2+1)) (.slice (some (aD g 0)) ((U q).length+1) cap)) (aD g (i*2+1)) (slV y);have Ab:Off (fun k=>k=D∨(V q).ownBlock=some k∨ ∃x,x∈U q∧(slV x.2.1).ownBlock=some k) w ((w1.setCell (aD D (q*2+1)) (.slice (some (aD g 0)) ((U q).length+1) cap)).setCell (aD g (i*2+1)) (slV y)):=by
  refine((ho.wider fun k s=>Or.inr (Or.inl s)).past oA fun k s _=>Or.inl s).past oB fun k s hk=>?_;have s:k=g:=s;rcases hat with z|z
  ·exact Or.inr (Or.inl (by rw[s];exact z))
  ·omega
 have A7: ∀{u:Value} {t:List Nat},eQ w N u t→eQ ((w1.setCell (aD D (q*2+1)) (.slice (some (aD g 0)) ((U q).length+1) cap)).setCell (aD g (i*2+1)) (slV y)) N u t:=fun {u t} hu=>by
  refine hu.of_block fun b hb=>?_;have Aa:=(hu.ty hb).lt;have h1:w1.heap[b]?=w.heap[b]?:=ho.block b Aa fun s=>(hu.ty hb).ne (aU A0 s) (by decide) rfl;have A6:=(hu.ty hb).of_block h1;rw[oB.block b (by simpa using A6.lt) (fun s=>A6.ne A4 (by decide) s),oA.block b A6.lt (fun s=>A6.ne A3 (by decide) s)];exact h1
 refine h.put hl ⟨d.gone,d.bl.take i++(k,r)::d.bl.drop i⟩ _ ((U q).take i++(k,y,r)::(U q).drop i) ?_ Ab ?_ ?_ (fun z hz=>?_) (fun b hb=>?_) (fun a z b ha hb=>?_) (fun a b z z' c ha hb h1 h2=>?_)
 ·refine((A2.set (q*2+1) (.slice (some (aD g 0)) ((U q).length+1) cap)).setOther A9 (slV y)).congr fun j hj=>?_;rw[wZ hq _ j];by_cases e:j=q*2
  ·rw[if_pos e,if_neg (by omega),e];unfold dkF;rw[if_pos (by omega),show q*2/2=q by omega,c9R,hq];rfl
  ·rw[if_neg e]
 ·have hx:((U q).take i++(k,((none,0,0):Sl),([]:List Nat))::(U q).drop i)[i]?=some (k,(none,0,0),[]):=by
   rw[xB _ _ hi,if_neg (d0V i),if_pos rfl]
  have A1:(w1.setCell (aD D (q*2+1)) (.slice (some (aD g 0)) ((U q).length+1) cap)).ownsRow N 61 2 (.slice (some (aD g 0)) ((U q).length+1) cap) ((U q).length+1) (((U q).take i++(k,((none,0,0):Sl),([]:List Nat))::(U q).drop i).flatMap aI):=bC hown oA fun b hb s=>by
   cases hb
   exact A9 s.symm
  have:=(A1.stored (i*2+1) (slV y)).1;rw[uZ _ i 1 _ (k,y,r) (slV y) (by decide) hx rfl]at this;have e:((U q).take i++(k,((none,0,0):Sl),([]:List Nat))::(U q).drop i).set i (k,y,r)=(U q).take i++(k,y,r)::(U q).drop i:=by
   rw[List.set_append_right _ _ (by rw[c9K];omega),c9K,show i-min i (U q).length=0 by omega,List.set_cons_zero]
  rw[e]at this;have A8:((U q).take i++(k,y,r)::(U q).drop i).length=(U q).length+1:=by
   simp;omega
  rw[A8];exact this
 ·show d.bl.take i++(k,r)::d.bl.drop i=((U q).take i++(k,y,r)::(U q).drop i).map kQ;rw[c9U,d1R,List.map_take,List.map_drop,h.bl q d hq];rfl
 ·rcases List.mem_append.1 hz with z1|z1
  ·exact A7 (h.byt q z hl (d2T z1))
  ·rcases List.mem_cons.1 z1 with rfl|z1
   ·exact A7 hY
   ·exact A7 (h.byt q z hl (d1S z1))
 ·cases hb
  rcases hat with z|z
  ·exact Or.inl z
  ·exact Or.inr fun j hj e=>by
    have:g<w.heap.size:=h.Vlt hj e;omega
 ·rw[xB _ _ hi]at ha;by_cases e:a<i
  ·rw[if_pos e]at ha;exact Or.inl ⟨z,c9N ha,hb⟩
  ·rw[if_neg e]at ha;by_cases e2:a=i
   ·rw[if_pos e2]at ha;cases ha
    exact Or.inr fun j z1 hj hz1=>hsep j z1 b hj hz1 hb
   ·rw[if_neg e2]at ha;exact Or.inl ⟨z,c9N ha,hb⟩
 ·rw[xB _ _ hi]at ha hb;have A5: ∀(a:Nat) (z:HeC),a≠i→(if a<i then(U q)[a]? else if a=i then some (k,y,r)else(U q)[a-1]?)=some z→(U q)[if a<i then a else a-1]?=some z:=fun a z hne h=>by
   by_cases e:a<i
   ·rw[if_pos e]at h⊢;exact h
   ·rw[if_neg e,if_neg hne]at h;rw[if_neg e];exact h
  by_cases e:a=i
  ·by_cases e2:b=i
   ·rw[e,e2]
   ·rw[if_neg (by omega),if_pos e]at ha;cases ha
    exact absurd h2 (hsep q z' c hl (c9N (A5 b z' e2 hb)) h1)
  ·by_cases e2:b=i
   ·rw[if_neg (by omega),if_pos e2]at hb;cases hb
    exact absurd h1 (hsep q z c hl (c9N (A5 a z e ha)) h2)
   ·have:=(h.sepU q q _ _ z z' c hl hl (A5 a z e ha) (A5 b z' e2 hb) h1 h2).2;split at this<;>split at this<;>omega
end
structure iB(w:World)(N:Nat)(v:Value)(L:List (List Nat))(Y:Nat→Sl):Prop where
 own:w.ownsRow N 59 1 v L.length ((List.range L.length).map fun i=>slV (Y i))
 byt: ∀i,i<L.length→eQ w N (slV (Y i)) (L.getD i [])
 sep: ∀i j g,i<L.length→j<L.length→(slV (Y i)).ownBlock=some g→(slV (Y j)).ownBlock=some g→i=j
theorem iB.off{L:List (List Nat)}{Y:Nat→Sl}(h:iB w N v L Y)(ho:Off S w w')(hS: ∀k,S k→ ∃t,TyB w k t∧t≠59∧t≠5):iB w' N v L Y:=
 ⟨bC h.own ho fun g hg s=>by
  obtain⟨t,ht,q,_⟩:=hS g s
  exact ht.ne (aU h.own hg) q rfl,fun i hi=>(h.byt i hi).off ho fun g hg s=>by
  obtain⟨t,ht,_,q⟩:=hS g s
  exact ht.ne ((h.byt i hi).ty hg) q rfl,h.sep⟩
theorem iB.below{L:List (List Nat)}{Y:Nat→Sl}(h:iB w N v L Y)(hb:Bl w w'):iB w' N v L Y:=
 h.off (Off.of_below (S:=fun _=>False) hb) fun _ s=>s.elim
theorem iB.at{L:List (List Nat)}{Y:Nat→Sl}(h:iB w N v L Y)(hn:1≤L.length): ∃b cap,v=.slice (some (aD b 0)) L.length cap∧L.length≤cap∧cap≤maxLen∧TyB w b 59∧ ∀i,i<L.length→w.cell? (aD b i)=some (slV (Y i)):=by
 obtain⟨g,cap,rfl,_,h1,h2,_,hc⟩:=dB h.own hn;exact⟨g,cap,rfl,h1,h2,aU h.own rfl,fun i hi=>hc i _ (by rw[c9S,List.getElem?_range hi];rfl)⟩
theorem b7R{α:Type}{a b:List α}(hl:a.length=b.length){x:α}(hx:a[q]?=some x):(a.take q++b.drop q).set q x=a.take (q+1)++b.drop (q+1):=by
 obtain⟨hq,rfl⟩:=c9H.1 hx;have A0:q<b.length:=by omega
 rw[List.set_append_right _ _ (by rw[c9K];omega),c9K,show q-min q a.length=0 by omega,d2L A0,List.set_cons_zero,List.take_succ_eq_append_getElem hq,c9X];rfl
theorem c5D{α:Type}{a b:List α}(hl:a.length=b.length)(hq:q≤a.length):(a.take q++b.drop q)[q]?=b[q]?:=by
 rw[d0S (by rw[c9K];omega),c9K,show q-min q a.length=0 by omega,d0J,d0X]
theorem xL{α:Type}{a b:List α}(hl:a.length=b.length)(q:Nat):(a.take q++b.drop q).length=b.length:=by
 simp;omega
structure kN(w wr:World)(N D:Nat)(k:Int)(n q:Nat)(V:Nat→Value)(U:Nat→List HeC)(ds:List Sto.aL)(L:List (List Nat))(Y:Nat→Sl)(V':Nat→Value)(U':Nat→List HeC):Prop where
 dk:dM wr N D V' U' ((Sto.write k L 0 ds).take q++ds.drop q)
 off:Off (fun b=>b=D∨ ∃i,i<n∧(V i).ownBlock=some b) w wr
 newV: ∀i g,i<n→(V' i).ownBlock=some g→(V i).ownBlock=some g∨w.heap.size≤g
 newU: ∀(i:Nat) (x:HeC) (g:Nat),i<n→x∈U' i→(slV x.2.1).ownBlock=some g→(∃y,y∈U i∧(slV y.2.1).ownBlock=some g)∨(i<q∧(slV (Y i)).ownBlock=some g)
 same: ∀i,q≤i→V' i=V i∧U' i=U i
def c8G(w w':World)(N D:Nat)(k:Int)(n:Nat)(V:Nat→Value)(U:Nat→List HeC)(ds:List Sto.aL)(L:List (List Nat))(Y:Nat→Sl):Prop:= ∃V' U',kN w w' N D k n n V U ds L Y V' U'
section
variable {w wr : World} {N D n q : Nat} {k : Int} {V : Nat → Value} {U : Nat → List HeC} {ds : List Sto.aL} {L : List (List Nat)} {Y : Nat → Sl} {V' : Nat → Value} {U' : Nat → List HeC}
theorem kN.typed(h:kN w wr N D k n q V U ds L Y V' U')(hd:dM w N D V U ds)(hn:ds.length=n): ∀b,(b=D∨ ∃i,i<n∧(V i).ownBlock=some b)→ ∃t,TyB w b t∧(t=58∨t=61):=fun b s=>by
 rcases s with rfl|⟨i,hi,hb⟩
 ·exact⟨_,hd.row.ty,Or.inl rfl⟩
 ·exact⟨_,aU (hd.own i (by omega)) hb,Or.inr rfl⟩
theorem kN.start(hd:dM w N D V U ds):kN w w N D k n 0 V U ds L Y V U:=
 ⟨by rw[d2F,d2E];exact hd,Off.refl _ _,fun _ _ _ h=>Or.inl h,fun i x g _ hx hg=>Or.inl ⟨x,hx,hg⟩,fun _ _=>⟨rfl,rfl⟩⟩
theorem kN.next(h:kN w wr N D k n q V U ds L Y V' U')(hq:q<n){w':World}(hd':(Sto.write k L 0 ds)[q]?=some d')(v':Value)(hs':List HeC)
  (hk:dM w' N D (upd V' q v') (upd U' q hs') (((Sto.write k L 0 ds).take q++ds.drop q).set q d')) (ho:Off (fun b=>b=D∨(V q).ownBlock=some b) wr w') (hv: ∀g,v'.ownBlock=some g→(V q).ownBlock=some g∨w.heap.size≤g)
  (hu: ∀(x:HeC) (g:Nat),x∈hs'→(slV x.2.1).ownBlock=some g→(∃y,y∈U q∧(slV y.2.1).ownBlock=some g)∨(slV (Y q)).ownBlock=some g):kN w w' N D k n (q+1) V U ds L Y (upd V' q v') (upd U' q hs'):=by
 have A0:=Sto.cI k L ds 0;refine⟨?_,h.off.past ho fun b s _=>?_,fun i g hi hg=>?_,fun i x g hi hx hg=>?_,fun i hi=>?_⟩
 ·rw[←b7R A0 hd'];exact hk
 ·rcases s with s|s
  ·exact Or.inl s
  ·exact Or.inr ⟨q,hq,s⟩
 ·by_cases e:i=q
  ·subst e;rw[bM]at hg;exact hv g hg
  ·rw[aV _ _ e]at hg;exact h.newV i g hi hg
 ·by_cases e:i=q
  ·subst e;rw[bM]at hx;rcases hu x g hx hg with z|z
   ·exact Or.inl z
   ·exact Or.inr ⟨by omega,z⟩
  ·rw[aV _ _ e]at hx;rcases h.newU i x g hi hx hg with z|⟨z1,z2⟩
   ·exact Or.inl z
   ·exact Or.inr ⟨by omega,z2⟩
 ·rw[aV _ _ (by omega),aV _ _ (by omega)];exact h.same i (by omega)
theorem kN.sep(h:kN w wr N D k n q V U ds L Y V' U')(hn:ds.length=n)(hq:q<n)(hLn:L.length=n)(hL:iB w M v L Y)
  (hf: ∀(i j:Nat) (x:HeC) (g:Nat),i<n→j<n→x∈U i→(slV x.2.1).ownBlock=some g→(slV (Y j)).ownBlock≠some g):
  ∀(j:Nat) (z:HeC) (b:Nat),j<((Sto.write k L 0 ds).take q++ds.drop q).length→z∈U' j→(slV (Y q)).ownBlock=some b→(slV z.2.1).ownBlock≠some b:=fun j z b hj hz hb e=>by
 rw[xL (Sto.cI k L ds 0)]at hj
 rcases h.newU j z b (by omega) hz e with⟨y,hy,hyb⟩|⟨hjq,hyb⟩
 ·exact hf j q y b (by omega) hq hy hyb hb
 ·have:=hL.sep j q b (by omega) (by omega) hyb hb
  omega
end
theorem c0T(R D n N m:Nat)(k:Int)(V:Nat→Value)(U:Nat→List HeC)(ds:List Sto.aL)(L:List (List Nat))(Y:Nat→Sl)(vl:Value)(M:Nat)(w:World)(tR:TyB w R 45)(c3:w.cell? (aD R 3)=some (.slice (some (aD D 0)) n n))(hd:dM w N D V U ds)(hn:ds.length=n)(h1:1≤n)(h12:n≤12)(hw:WfD ds m)(hm:m≤100000)
  (hL:iB w M vl L Y) (hLn:L.length=n) (hNM:N≤M) (hNw:N≤w.heap.size) (hf: ∀(i j:Nat) (x:HeC) (g:Nat),i<n→j<n→x∈U i→(slV x.2.1).ownBlock=some g→(slV (Y j)).ownBlock≠some g):
  Calls prog 56 #[.pointer (some (aD R 0)),iV k,vl] w fun e w'=>e=.returned (.tuple #[])∧c8G w w' N D k n V U ds L Y:=by
 have HD:=hd8 hd;have HN:=hd8 hn;have HW:=hd8 hw;have HL:=hd8 hL;have A7:Hid (L.length=n):=hLn;have Ba:=hd8 hf;have B2:=hd8 tR;obtain⟨bL,cL,Bn,B1,Ap,_,_⟩:=hL.at (by omega);rw[hLn]at Bn B1;subst Bn;have Bp:=mL8 Ap;clear hd hn hw hL hLn hf tR Ap;go_enter func56,ntmps56
 go_wp2_with fail;go_loopw [16] (fun x wr=> ∃q:Nat,q≤n∧x=iV q∧Hid (∃V' U',kN w wr N D k n q V U ds L Y V' U')) (fun x _=>n-(intOf x).toNat)
 case atStart=>exact⟨0,c9D _,rfl,V,U,kN.start HD.out⟩
 case round=>
  obtain⟨q,hq,rfl,HS⟩:=hrel;by_cases A6:q<n
  ·have Bv:(q:Int)<(n:Int):=by omega
   obtain⟨V',U',hS⟩:=HS.out;have Ar:=Sto.cI k L ds 0;have Az:q<ds.length:=by rw[HN.out];exact A6
   obtain⟨d,Af⟩: ∃d,ds[q]?=some d:=⟨ds[q],c9F Az⟩;have A5:((Sto.write k L 0 ds).take q++ds.drop q)[q]?=some d:=by
    rw[c5D Ar (by omega)];exact Af
   have An:q<((Sto.write k L 0 ds).take q++ds.drop q).length:=by
    rw[xL Ar];exact Az
   have DK:=hS.dk;have g0:=DK.gone A5;have g1:=DK.held An;obtain⟨A2,A4⟩:=hS.same q (c9C q);rw[A2]at g1;have B7:wr.heap[R]?=w.heap[R]?:=hS.off.block R B2.out.lt fun s=>by
    obtain⟨t,ht,z⟩:=hS.typed HD.out HN.out R s;rcases z with rfl|rfl
    ·exact ht.ne B2.out (by decide) rfl
    ·exact ht.ne B2.out (by decide) rfl
   have C6:=(World.cell?_of_block (w:=w) (a:=⟨R,3,none⟩) B7).trans c3;have Ag:(Sto.write k L 0 ds)[q]?=some (if d.gone then d else⟨false,Sto.ins k (L.getD q []) false d.bl⟩):=by
    rw[Sto.kW,Af,c9G];rfl
   cases hg:d.gone with
   |true=>
    rw[hg]at g0 Ag
    have Ad:Hid (∃V' U',kN w wr N D k n (q+1) V U ds L Y V' U'):=⟨_,_,hS.next A6 (d':=d) Ag (V' q) (U' q) (by
     rw[oT,oT,show((Sto.write k L 0 ds).take q++ds.drop q).set q d=(Sto.write k L 0 ds).take q++ds.drop q from by
      obtain⟨h1,h2⟩:=c9H.1 A5;rw[←h2]
      exact List.set_getElem_self h1]
     exact DK) (Off.refl _ _) (fun g hg=>Or.inl (by rw[←A2];exact hg)) (fun x g hx hg=>Or.inl ⟨x,by rw[←A4];exact hx,hg⟩)⟩
    clear hS DK A5 An Ag Af Ar A2 A4 B7;go_wp2_with fail;exact⟨⟨q+1,by omega,by go_num,Ad.out⟩,by simp[intOf];omega⟩
   |false=>
    rw[hg]at g0 Ag;obtain⟨Bi,C4⟩:=HD.out.up HW.out Az;have HE:a6N wr (V q) (U q):=by
     have:=DK.heIn An;rw[A2,A4]at this;exact this
    have HF:=yZ k (V q) (U q) wr HE Bi (by omega);obtain⟨A,C,hV,Cc,Bh,_⟩:=HE;rw[hV]at HF g1;have C2:=mL8 Bh;have Am:wr.ownsRow N 61 2 (.slice A (U q).length C) (U q).length ((U q).flatMap aI):=by
     have:=DK.own q An;rw[A2,A4,hV]at this;exact this
    have LB:=HL.out.off hS.off fun b s=>by
     obtain⟨t,ht,z⟩:=hS.typed HD.out HN.out b s;rcases z with rfl|rfl
     ·exact⟨_,ht,by decide,by decide⟩
     ·exact⟨_,ht,by decide,by decide⟩
    have Bm:=HD.out.bl q d Af;have Aw:=hd8 Bm;have Bf:=hd8 ((HW.out q d Af).1);have Bw:=hd8 DK;have Ah:=hd8 hS;have Av:Hid (V' q=V q∧U' q=U q∧V q=.slice A (U q).length C):=⟨A2,A4,hV⟩;have Ai:=hd8 A5;have Be:=hd8 Ag;have HG:=hd8 hg;have Bz:=hd8 LB;clear hS DK A5 An Ag Af Ar A2 A4 hV B7 Bm Bi Bh hg LB;go_wp2_with fail;refine HF.mono ?_;rintro e w1 ⟨⟨i,y,rfl,hcut,hy⟩,b1⟩;have Bj:Hid (kX (d.bl.map (·.1)) k i):=by
     show kX (d.bl.map (·.1)) k i
     rw[Aw.out,gP];exact hcut
    have B0:i≤(U q).length:=by
     have:=hcut.1;rw[c9M]at this;exact this
    have Bs:Hid ((d.bl.map (·.1))[i]?=((U q).map (·.1))[i]?):=by
     show(d.bl.map (·.1))[i]?=_
     rw[Aw.out,gP]
    have A0:=aK Am b1;have Aa:=hd8 (Bw.out.below b1);have A9:=hd8 (Bz.out.below b1);have C1:w1.cell? (aD bL q)=some (slV (Y q)):=by
     obtain⟨b',c',Bc,_,_,_,Bu⟩:=A9.out.at (by rw[A7.out];omega);rw[A7.out]at Bc;cases Bc
     exact Bu q (by rw[A7.out];exact A6)
    have g0:=cB8 b1 g0;have g1:=cB8 b1 g1;have C8:D<w1.heap.size:=World.block_lt_of_cell? _ _ g0;have fD:=Aa.out.row.frozen (q*2+1);have At:=hd8 b1;unfold slV at C1;clear HF hcut Am C6 b1;cases y with
    |true=>
     have hk:=hy.1 rfl;rw[c9S]at hk;obtain⟨x,hx,Ay⟩:=c9J.1 hk;have C5:i<(U q).length:=(c9H.1 hx).1;obtain⟨g,cap,C7,_,_,_,_,Ao⟩:=dB A0 (by omega);cases C7
     have d1:=Ao (i*2+1) _ (dQ aI 2 (U q) (fun _ _=>rfl) i 1 (by decide) x hx);have fg:=A0.frozenAt (i*2+1);have bD:Bl w1 w1.drew:=(Below.refl _ _).drew;have Ad:Hid (∃V' U',kN w (w1.drew.setCell (aD g (i*2+1)) (slV (Y q))) N D k n (q+1) V U ds L Y V' U'):=by
      obtain⟨A2,A4,hV⟩:=Av.out;have Br:(U' q)[i]?=some x:=by rw[A4];exact hx
      have hT:=(Aa.out.below bD).there (q:=q) (i:=i) Ai.out (by rw[A2];exact hV) Br (Y q) (L.getD q []) (((A9.out.below bD).byt q (by rw[A7.out];exact A6)).lower hNM) (Ah.out.sep HN.out A6 A7.out HL.out Ba.out);have C3:d.bl[i]?=some (kQ x):=by
       rw[Aw.out,c9S,hx];rfl
      rw[Ay,HG.out,←Sto.b6S Bf.out Bj.out C3 Ay (L.getD q [])]at hT;refine⟨_,_,Ah.out.next A6 Be.out (V' q) ((U' q).set i (k,Y q,L.getD q [])) (by rw[oT];exact hT) ?_ (fun b hb=>Or.inl (by rw[←A2];exact hb)) (fun z b hz hb=>?_)⟩
      ·exact((Off.of_below At.out).trans (Off.of_below bD)).set (p:=⟨g,i*2+1,none⟩) (Or.inr (by rw[hV];rfl)) _
      ·rcases List.mem_or_eq_of_mem_set hz with z1|rfl
       ·exact Or.inl ⟨z,by rw[←A4];exact z1,hb⟩
       ·exact Or.inr hb
     have Au:(i:Int)<((U q).length:Int):=by omega
     unfold slV at d1 Ad;clear hy hk hx Ay A0 Ao;go_wp2_with fail;go_region
     go_wp2_with fail;exact⟨⟨q+1,by omega,by go_num,Ad.out⟩,by simp[intOf];omega⟩
    |false=>
     have bA:=aB8 w1 (.cells #[iV k,nS] 61);have Bk: ∀b,(Value.slice A (U q).length C).ownBlock=some b→b<w1.heap.size:=fun b hb=>(A0.lt b hb).2
     have HI:=c0U N i w1.heap.size (.slice A (U q).length C) (U q) (k,(none,0,0),[]) (w1.alloc (.cells #[iV k,nS] 61)) (aK A0 bA) (c9E (c9E (c9E hNw Ah.out.off.size) At.out.size) bA.size) B0 (by omega) (heap_alloc_new w1 _) (fun e=>by
      have:=Bk _ e
      omega)
     have C0:Hid ((d.bl.map (·.1))[i]?≠some k):=fun z=>by
      rw[Bs.out]at z;exact absurd (hy.2 z) (by decide)
     have Al:Hid (dM (w1.alloc (.cells #[iV k,nS] 61)) N D V' U' ((Sto.write k L 0 ds).take q++ds.drop q)):=Aa.out.below bA;have B5:Hid (iB (w1.alloc (.cells #[iV k,nS] 61)) M (.slice (some (aD bL 0)) n cL) L Y):=A9.out.below bA;have B6:Hid (Bl wr (w1.alloc (.cells #[iV k,nS] 61))):=bt At.out bA;have B4:=hd8 (c9E Ah.out.off.size At.out.size);clear hy A0 Aa A9 Bk;go_wp2_with fail;generalize w1.alloc (.cells #[iV k,nS] 61)=wa at HI Al B5 B6 bA;refine HI.mono ?_;rintro e w2 ⟨v2,rfl,A1,A3,A8⟩;obtain⟨g,cap,B9,Cd,Ak,Aj,Cf,Ao⟩:=dB A1 (by rw[c9I,d0E];omega);have Ab:((U q).take i++(k,((none,0,0):Sl),([]:List Nat))::(U q).drop i).length=(U q).length+1:=by
      simp;omega
     rw[Ab]at B9 A1 Ak;subst B9;have Bq:((U q).take i++(k,((none,0,0):Sl),([]:List Nat))::(U q).drop i)[i]?=some (k,(none,0,0),[]):=by
      rw[xB _ _ B0,if_neg (d0V i),if_pos rfl]
     have d1:=Ao (i*2+1) _ (dQ aI 2 _ (fun _ _=>rfl) i 1 (by decide) _ Bq);have fg:=A1.frozenAt (i*2+1);have Bt:TyB w2 g 61:=aU A1 rfl;have Ac:=Al.out.own q (by rw[xL (Sto.cI k L ds 0),HN.out];exact A6);have Ae: ∀b t,TyB wa b t→t≠61→w2.heap[b]?=wa.heap[b]?:=fun b t ht hne=>A3.block b ht.lt fun s=>by
      obtain⟨A2,_,hV⟩:=Av.out;rw[←hV,←A2]at s;exact ht.ne (aU Ac s) hne rfl
     have As:=Al.out.row.ty;have Aq:=Ae D _ As (by decide);have By:D≠g:=(As.of_block Aq).ne Bt (by decide);have Cb:g≠D:=fun e=>By e.symm;obtain⟨b9,c9,Bg,_,_,B8,Bb⟩:=B5.out.at (by rw[A7.out];omega);rw[A7.out]at Bg;cases Bg
     have Bo:=Ae bL _ B8 (by decide);have C9:bL≠D:=B8.ne As (by decide);have B3:w2.cell? (aD bL q)=some (slV (Y q)):=(World.cell?_of_block (w:=wa) (a:=⟨bL,q,none⟩) Bo).trans (Bb q (by rw[A7.out];exact A6));have Ce:=(World.cell?_of_block (w:=wa) (a:=⟨D,q*2+1,none⟩) Aq).trans ((bA.cell (p:=⟨D,q*2+1,none⟩) C8).trans g1);have Ca:=(World.frozen?_of_block (w:=wa) (a:=⟨D,q*2+1,none⟩) Aq).trans (Al.out.row.frozen _);have Ax:=mL8 Aj;have Ad:Hid (∃V' U',kN w ((w2.drew.setCell (aD D (q*2+1)) (.slice (some (aD g 0)) ((U q).length+1) cap)).setCell (aD g (i*2+1)) (slV (Y q))) N D k n (q+1) V U ds L Y V' U'):=by
      obtain⟨A2,A4,hV⟩:=Av.out;have Bx:Off (fun k=>(V' q).ownBlock=some k) wa w2.drew:=by
       rw[A2,hV];exact A3.drew
      have hT:=Al.out.fresh (w1:=w2.drew) (q:=q) (i:=i) (g:=g) (cap:=cap) (n:=(U q).length+1) Ai.out k (by rw[A4];exact B0) (Y q) (L.getD q []) ((B5.out.byt q (by rw[A7.out];exact A6)).lower hNM) (by rw[A4];exact A1) Bx (by
       rw[A2,hV];rcases A8 with z|z
       ·exact Or.inl z.symm
       ·exact Or.inr (z g rfl)) (Ah.out.sep HN.out A6 A7.out HL.out Ba.out)
      rw[A4,HG.out,←Sto.c4Q Bf.out Bj.out C0.out (L.getD q [])]at hT;refine⟨_,_,Ah.out.next A6 Be.out _ _ hT ?_ (fun b hb=>?_) (fun z b hz hb=>?_)⟩
      ·have o1:Off (fun b=>b=D∨(V q).ownBlock=some b) wr w2.drew:=(Off.of_below B6.out).trans ((A3.wider fun b s=>Or.inr (by rw[hV];exact s)).drew);refine(o1.set (p:=⟨D,q*2+1,none⟩) (Or.inl rfl) _).past (aG _ (aD g (i*2+1)) (slV (Y q))) fun b s hb=>?_;have s:b=g:=s;rcases A8 with z|z
       ·exact Or.inr (by rw[hV,s];exact z.symm)
       ·have:=z g rfl;have:=B6.out.size;omega
      ·cases hb
       rcases A8 with z|z
       ·exact Or.inl (by rw[hV];exact z.symm)
       ·refine Or.inr ?_;show w.heap.size≤g;have:=z g rfl;have:=B4.out;have:=bA.size;omega
      ·rcases List.mem_append.1 hz with z1|z1
       ·exact Or.inl ⟨z,d2T z1,hb⟩
       ·rcases List.mem_cons.1 z1 with rfl|z1
        ·exact Or.inr hb
        ·exact Or.inl ⟨z,d1S z1,hb⟩
     have Au:(i:Int)<(((U q).length+1:Nat):Int):=by omega
     unfold slV at B3 Ad;have d1:w2.cell? (aD g (i*2+1))=some nS:=d1;clear HI A1 Ao Bq A3 A8 Ae As Aq Bo B8 Bb Ac Ab;go_wp2_with fail;go_region
     go_wp2_with fail;exact⟨⟨q+1,by omega,by go_num,Ad.out⟩,by simp[intOf];omega⟩
  ·obtain rfl:q=n:=by omega
   go_wp2_with fail;go_end0
   exact⟨rfl,HS.out⟩
theorem a0L{f:Nat→Nat}(h:cF w (.slice (some (aD g o)) n cap) n f)(e:w'.heap[g]?=w.heap[g]?):cF w' (.slice (some (aD g o)) n cap) n f:=by
 obtain⟨bd,A,C,hv,h1,h2,hc⟩:=h;refine⟨bd,A,C,hv,h1,h2,fun k hk=>?_⟩;obtain⟨b',o',e1,e2⟩:=hc k hk;cases hv
 cases e1
 exact⟨g,o,rfl,(World.cell?_of_block (a:=⟨g,o+k,none⟩) e).trans e2⟩
theorem b8J{f:Nat→Nat}(h:cF w v 0 f):cF w' v 0 f:=by
 obtain⟨bd,A,C,hv,h1,h2,_⟩:=h;exact⟨bd,A,C,hv,h1,h2,fun k hk=>absurd hk (c9L k)⟩
structure Pce(w:World)(N:Nat)(v:Value)(n:Nat)(f:Nat→Nat):Prop where
 byts:cF w v n f
 own:n=0∨ ∃g o cap m F,v=.slice (some (aD g o)) n cap∧N≤g∧aY w g 5 m F
theorem Pce.of_block{f:Nat→Nat}(h:Pce w N v n f)(hb: ∀g m F,N≤g→aY w g 5 m F→w'.heap[g]?=w.heap[g]?):Pce w' N v n f:=by
 rcases h.own with rfl|⟨g,o,A0,m,F,rfl,hg,hr⟩
 ·exact⟨b8J h.byts,Or.inl rfl⟩
 ·exact⟨a0L h.byts (hb g m F hg hr),Or.inr ⟨g,o,A0,m,F,rfl,hg,hr.of_block (hb g m F hg hr)⟩⟩
theorem Pce.below{f:Nat→Nat}(h:Pce w N v n f)(hb:Bl w w'):Pce w' N v n f:=h.of_block (fun g _ _ _ hr=>hb.block g hr.lt)
theorem Pce.kept{f:Nat→Nat}(h:Pce w N v n f)(ht:5≠t)(ho:w.ownsRow M t 1 y k xs)(hg:w.grownBy w' y.ownBlock):Pce w' N v n f:=
 h.of_block (fun g m F _ hr=>hg.block g hr.lt (fun e=>by
  obtain⟨F2,h2⟩:=fH ho e.symm
  exact hr.ne h2 ht rfl))
theorem Pce.lower{f:Nat→Nat}(h:Pce w N v n f)(hM:M≤N):Pce w M v n f:=
 ⟨h.byts,h.own.imp id (fun⟨g,o,cap,m,F,e,hg,hr⟩=>⟨g,o,cap,m,F,e,c9E hM hg,hr⟩)⟩
theorem Pce.nil(w:World)(N:Nat){f:Nat→Nat}(hf:Bd f):Pce w N nS 0 f:=⟨cF.none w hf,Or.inl rfl⟩
theorem kK.pce{f:Nat→Nat}(h:kK w N v n f)(hf:Bd f):Pce w N v n f:=by
 refine⟨h.byts hf,?_⟩;obtain⟨g,A0,rfl,hg,_,_,hr⟩:=h;exact Or.inr ⟨g,0,A0,_,_,rfl,hg,hr⟩
structure Pcs(w:World)(N:Nat)(v:Value)(k:Nat)(U:Nat→Value)(L:Nat→Nat)(f:Nat→Nat→Nat):Prop where
 own:w.ownsRow N 59 1 v k ((List.range k).map U)
 row: ∀i,i<k→Pce w N (U i) (L i) (f i)
theorem Pcs.below{U:Nat→Value}(h:Pcs w N v k U L f)(hb:Bl w w'):Pcs w' N v k U L f:=
 ⟨aK h.own hb,fun i hi=>(h.row i hi).below hb⟩
theorem Pcs.start(w:World)(N:Nat)(U:Nat→Value)(L:Nat→Nat)(f:Nat→Nat→Nat):Pcs w N nS 0 U L f:=
 ⟨World.ownsRow_nil w N _ 1,fun i hi=>absurd hi (c9L i)⟩
theorem Pcs.step{w':World}{v' u:Value}{U:Nat→Value}(h:Pcs w N v k U L f)(hr:Pce w N u (L k) (f k))
  (ho:w'.ownsRow N 59 1 v' (k+1) ((List.range k).map U++[u])) (hg:w.grownBy w' v.ownBlock):Pcs w' N v' (k+1) (b8Q U k u) L f:=by
 refine⟨by rw[pS];exact ho,fun i hi=>?_⟩;by_cases e:i=k
 ·rw[e,sG];exact hr.kept (by decide) h.own hg
 ·rw[rZ _ _ e];exact(h.row i (by omega)).kept (by decide) h.own hg
theorem Pcs.lls{U:Nat→Value}(h:Pcs w N v k U L f)(bd:Gf.Bd2 f):Lls w v k L f:=by
 rcases h.own.2 with⟨rfl,h0⟩|⟨g,A0,A1,rfl,_,_,h1,h2,_,_⟩
 ·subst h0;exact⟨bd,none,0,rfl,c9C _,c9D _,fun r hr=>absurd hr (c9L r)⟩
 ·refine⟨bd,some (aD g 0),A0,rfl,h1,h2,fun r hr=>⟨g,0,U r,rfl,?_,(h.row r hr).byts⟩⟩;have:=h.own.cells (g:=g) rfl r (U r) (by simp[hr]);rw[WideShapes.add_plain]at this;exact this
theorem Pcs.kept{U:Nat→Value}(h:Pcs w N v k U L f)(ht:5≠t)(ht2:59≠t)(ho:w.ownsRow M t 1 y m xs)(hg:w.grownBy w' y.ownBlock):Pcs w' N v k U L f:=by
 refine⟨h.own.kept hg ?_,fun i hi=>(h.row i hi).kept ht ho hg⟩;cases hv:v.ownBlock with
 |none=>exact Or.inl rfl
 |some x=>
  refine Or.inr (fun e=>?_);obtain⟨F1,h1⟩:=fH h.own hv;obtain⟨F2,h2⟩:=fH ho e.symm;exact h1.ne h2 ht2 rfl
theorem iP.kept{l:List Nat}(h:iP w N v l)(ht:3≠t)(ho:w.ownsRow M t 1 y m xs)(hg:w.grownBy w' y.ownBlock):iP w' N v l:=by
 refine World.ownsRow.kept h hg ?_;cases hv:v.ownBlock with
 |none=>exact Or.inl rfl
 |some x=>
  refine Or.inr (fun e=>?_);obtain⟨F1,h1⟩:=fH h hv;obtain⟨F2,h2⟩:=fH ho e.symm;exact h1.ne h2 ht rfl
def c7A(w:World)(N:Nat)(v:Value)(y:Bool)(P:Prop)(n:Nat)(g:Nat→Nat):Prop:=
 (P∧y=true∧ ∃d,v=.agg #[iV (g 1:Nat),iV (g 2:Nat),iV (g 3*256+g 4:Nat),d]∧kK w N d (n-11) (fun k=>g (k+7)))∨
 (¬P∧y=false∧v=.agg #[iV 0,iV 0,iV 0,nS])
theorem pJ(v:Value)(n:Nat)(g:Nat→Nat)(s:Int)(i:Nat)(w:World)(h:cF w v n g):
  Calls prog 90 #[v,iV s,iV i] w fun e w'=> ∃v' y,e=.returned (.tuple #[v',.bool y])∧c7A w' w.heap.size v' y (Crc.aM g n=0∧((g 1:Nat):Int)=s∧g 2=i) n g∧Bl w w':=by
 obtain⟨A0,C0,rfl⟩:=h.shape;have bA:=aB8 w (.cells #[iV 0,iV 0,iV 0,nS] 137);have V0:=fK w (iV 0) (iV 0) (iV 0) nS;by_cases hE:Crc.aM g n=0
 ·have H1:=b1F _ n g _ (h.below bA) hE;clear h;have HE:=hd8 hE;generalize hz:g 3*256+g 4=z at H1;have HZ:=hd8 hz;clear hz;by_cases h1:((g 1:Nat):Int)=s
  ·by_cases h2:g 2=i
   ·have t1:(((g 1:Nat):Int)==s)=true:=by rw[beq_iff_eq];exact h1
    have t2:(((g 2:Nat):Int)==(i:Int))=true:=by rw[beq_iff_eq];omega
    have n1:(((g 1:Nat):Int) !=s)=false:=by rw[bne,t1];rfl
    have n2:(((g 2:Nat):Int) !=(i:Int))=false:=by rw[bne,t2];rfl
    have HY:Hid (Crc.aM g n=0∧((g 1:Nat):Int)=s∧g 2=i):=⟨hE,h1,h2⟩;clear hE h1 h2;go_enter func90,ntmps90
    go_wp2_with fail;refine H1.mono ?_;rintro e w1 ⟨d,rfl,hd,b1⟩;obtain⟨g5,c5,rfl,A3,A4,A5,R5⟩:=hd;have V1:=V0.below b1;have bz:=bt bA b1;have bX:=aB8 w1 (.cells #[iV (g 1:Nat),iV (g 2:Nat),iV z,.slice (some (aD g5 0)) (n-11) c5] 137);obtain⟨c0,c1,c2,c3,fr⟩:=V1.below bX;have f0:=fr 0;have f1:=fr 1;have f2:=fr 2;have f3:=fr 3;have R6:=R5.below bX;have bz:=bt bz bX;have A6:w.heap.size<g5:=c9P (by simp) A3;clear H1 V0 V1 R5 bX b1;go_wp2_with fail;refine bodyPost_ret (v:=.tuple #[.agg #[iV (g 1:Nat),iV (g 2:Nat),iV z,.slice (some (aD g5 0)) (n-11) c5],.bool true]) (by simp[results,results90,go_sem,c0,c1,c2,c3]) rfl ⟨_,_,rfl,Or.inl ⟨HY.out,rfl,_,by rw[HZ.out],⟨g5,c5,rfl,by omega,A4,A5,c3Z R6 (by omega)⟩⟩,?_⟩;exact(((bz.setCell (c9C _) _).setCell (c9C _) _).setCell (c9C _) _).setCell (c9C _) _
   ·have t1:(((g 1:Nat):Int)==s)=true:=by rw[beq_iff_eq];exact h1
    have t2:(((g 2:Nat):Int)==(i:Int))=false:=by rw[beq_eq_false_iff_ne];omega
    have n1:(((g 1:Nat):Int) !=s)=false:=by rw[bne,t1];rfl
    have n2:(((g 2:Nat):Int) !=(i:Int))=true:=by rw[bne,t2];rfl
    have HN:=hd8 fun q=>h2 q.2.2;clear hE h1 h2;go_enter func90,ntmps90
    go_wp2_with fail;refine H1.mono ?_;rintro e w1 ⟨d,rfl,hd,b1⟩;obtain⟨g5,c5,rfl,_,_,_,_⟩:=hd;have V1:=V0.below b1;have bz:=bt bA b1;have bX:=aB8 w1 (.cells #[iV (g 1:Nat),iV (g 2:Nat),iV z,.slice (some (aD g5 0)) (n-11) c5] 137);obtain⟨c0,c1,c2,c3,fr⟩:=V1.below bX;have f0:=fr 0;have f1:=fr 1;have f2:=fr 2;have f3:=fr 3;have bz:=bt bz bX;clear H1 V0 V1 bX b1;go_wp2_with fail;refine bodyPost_ret (v:=.tuple #[.agg #[iV 0,iV 0,iV 0,nS],.bool false]) (by simp[results,results90,go_sem,c0,c1,c2,c3]) rfl ⟨_,_,rfl,Or.inr ⟨HN.out,rfl,rfl⟩,?_⟩;exact(((bz.setCell (c9C _) _).setCell (c9C _) _).setCell (c9C _) _).setCell (c9C _) _
  ·have t1:(((g 1:Nat):Int)==s)=false:=by rw[beq_eq_false_iff_ne];exact h1
   have n1:(((g 1:Nat):Int) !=s)=true:=by rw[bne,t1];rfl
   have HN:=hd8 fun q=>h1 q.2.1;clear hE h1;go_enter func90,ntmps90
   go_wp2_with fail;refine H1.mono ?_;rintro e w1 ⟨d,rfl,hd,b1⟩;obtain⟨g5,c5,rfl,_,_,_,_⟩:=hd;have V1:=V0.below b1;have bz:=bt bA b1;have bX:=aB8 w1 (.cells #[iV (g 1:Nat),iV (g 2:Nat),iV z,.slice (some (aD g5 0)) (n-11) c5] 137);obtain⟨c0,c1,c2,c3,fr⟩:=V1.below bX;have f0:=fr 0;have f1:=fr 1;have f2:=fr 2;have f3:=fr 3;have bz:=bt bz bX;clear H1 V0 V1 bX b1;go_wp2_with fail;refine bodyPost_ret (v:=.tuple #[.agg #[iV 0,iV 0,iV 0,nS],.bool false]) (by simp[results,results90,go_sem,c0,c1,c2,c3]) rfl ⟨_,_,rfl,Or.inr ⟨HN.out,rfl,rfl⟩,?_⟩;exact(((bz.setCell (c9C _) _).setCell (c9C _) _).setCell (c9C _) _).setCell (c9C _) _
 ·have HN:=hd8 fun q=>hE q.1;have H1:=b5W _ n g _ (h.below bA);rw[nQ hE,nQ hE,nQ hE,nQ hE]at H1;have A1:(((Crc.aM g n:Nat):Int)==0)=false:=by rw[beq_eq_false_iff_ne];omega
  have A2:(((Crc.aM g n:Nat):Int) !=0)=true:=by rw[bne,A1];rfl
  obtain⟨P,hP⟩: ∃P:Prop,P=(Crc.aM g n=0∧((g 1:Nat):Int)=s∧g 2=i):=⟨_,rfl⟩;rw[←hP]at HN⊢;clear hP h;generalize Crc.aM g n=E at H1 A1 A2;clear hE;go_enter func90,ntmps90
  go_wp2_with fail;refine H1.mono ?_;rintro e w1 ⟨v1,rfl,⟨d,rfl,hd⟩,b1⟩;obtain⟨A,C,rfl⟩:=hd.shape;have V1:=V0.below b1;have bz:=bt bA b1;have bX:=aB8 w1 (.cells #[iV 0,iV 0,iV 0,.slice A 0 C] 137);obtain⟨c0,c1,c2,c3,fr⟩:=V1.below bX;have f0:=fr 0;have f1:=fr 1;have f2:=fr 2;have f3:=fr 3;have bz:=bt bz bX;clear hd;clear H1 V0 V1 bX b1;go_wp2_with fail;refine bodyPost_ret (v:=.tuple #[.agg #[iV 0,iV 0,iV 0,nS],.bool false]) (by simp[results,results90,go_sem,c0,c1,c2,c3]) rfl ⟨_,_,rfl,Or.inr ⟨HN.out,rfl,rfl⟩,?_⟩;exact(((bz.setCell (c9C _) _).setCell (c9C _) _).setCell (c9C _) _).setCell (c9C _) _
theorem c5I(v:Value)(N:Nat)(L:Nat→Nat)(g:Nat→Nat→Nat)(s:Int)(w:World)(h:Lls w v N L g)(hN:(N+1)*8≤140737488355328):
  Calls prog 53 #[v,iV s] w fun e w'=> ∃v',e=.returned v'∧iP w' w.heap.size v' (Seg.kT s L g N)∧Bl w w':=by
 obtain⟨i1,A8,A0⟩:=c9J.1 Tryz.infoInt;simp only[Prod.mk.injEq]at A0;obtain⟨A5,A7,A2⟩:=A0;obtain⟨A,C,rfl⟩:=h.shape;have HL:=hd8 fun w' hb r hr=>(h.below hb).at hr;clear h;go_enter func53,ntmps53
 go_wp2_with fail;go_loopw [5,12] (fun y x wr=> ∃k:Nat,k≤N∧x=iV k∧iP wr w.heap.size y (Seg.kT s L g k)∧Bl w wr) (fun _ x _=>N-(intOf x).toNat)
 case atStart=>exact⟨0,c9D _,rfl,iP.nil _ _,Below.refl _ _⟩
 case round=>
  obtain⟨k,hk,rfl,BN,hb⟩:=hrel;by_cases A3:k<N
  ·have A9:(k:Int)<(N:Int):=by omega
   obtain⟨b,o,R,K,rfl,d0,hy⟩:=HL.out wr hb k A3;have HR:=pJ _ _ (g k) s k wr hy;have Ac:=yG s L g k;obtain⟨P,hP⟩: ∃P:Prop,P=(Crc.aM (g k) (L k)=0∧((g k 1:Nat):Int)=s∧g k 2=k):=⟨_,rfl⟩;have A4:Hid (P→Seg.kT s L g (k+1)=Seg.kT s L g k):=fun q=>Seg.b4M (by rw[hP]at q;exact q);have A6:Hid (¬P→Seg.kT s L g (k+1)=Seg.kT s L g k++[k]):=fun q=>Seg.a7A (fun r=>q (by rw[hP];exact r));rw[←hP]at HR;clear hy hP;go_wp2_with fail;refine HR.mono ?_;rintro e w1 ⟨v1,y,rfl,hO,b1⟩;have BN:=BN.below b1;have b1:=bt hb b1;rcases hO with⟨hp,rfl,d,rfl,g5,c5,rfl,_⟩|⟨hp,rfl,rfl⟩
   ·have bX:=aB8 w1 (.cells #[iV (g k 1:Nat),iV (g k 2:Nat),iV (g k 3*256+g k 4:Nat),.slice (some (aD g5 0)) (L k-11) c5] 137);have BN:=BN.below bX;have b1:=bt b1 bX;rw[←A4.out hp]at BN;clear HR hp bX;go_wp2_with fail;exact⟨⟨k+1,by omega,by go_num,BN,b1⟩,by simp[intOf];omega⟩
   ·have Ab:=hd8 hp;have bV:=aB8 w1 (.cells #[iV 0,iV 0,iV 0,nS] 137);have BN:=BN.below bV;have b1:=bt b1 bV;have A1:(w1.alloc (.cells #[iV 0,iV 0,iV 0,nS] 137)).heap.size=w1.heap.size+1:=by simp
    have bX:=(Below.refl (w1.alloc (.cells #[iV 0,iV 0,iV 0,nS] 137)).heap.size (w1.alloc (.cells #[iV 0,iV 0,iV 0,nS] 137))).alloc (c9C _) (.cells #[iV k] 3);have BX:=BN.below bX;have b2:=bt b1 bX;have cn: ∀j u,[Value.int .i64 k][j]?=some u→((w1.alloc (.cells #[iV 0,iV 0,iV 0,nS] 137)).alloc (.cells #[iV k] 3)).cell? ((⟨w1.heap.size+1,0,none⟩:Addr).add j)=some u:=by
     have q:=eE (w1.alloc (.cells #[iV 0,iV 0,iV 0,nS] 137)) #[iV k] 3;rw[A1]at q;exact q
    have Aa:=BX.lt;clear HR hp bV BN bX A1;go_wp2_with (at_builtin;go_loud (refine wpList_append_own _ rfl (.tmp 26) (.tmp 28) 27 rfl w.heap.size 3 i1 (iV 0) 1 8 underlying27 A8 A5 A7 A2 rfl (by decide) _ _ _ rfl BX (aD (w1.heap.size+1) 0) 1 1 [iV k] rfl rfl cn (by intro u hu;simp at hu;rw[hu];rfl) (by unfold maxLen;omega) (by omega) b2.size ?_;intro v3 w3 hown3 hgrow3 _));have B3:=iP.one hown3;rw[←A6.out Ab.out]at B3;have b3:=b2.grown hgrow3 b2.size (fun y hy=>(Aa y hy).1);exact⟨⟨k+1,by omega,by go_num,B3,b3⟩,by simp[intOf];omega⟩
  ·obtain rfl:k=N:=by omega
   go_wp2_with fail;go_ret
   exact⟨_,rfl,BN,hb⟩
end Go.Proofs.YtmcaejooaaahdaaGreat
