import Derived.Test.YtmcaejooaaahdaaGreatZ07
import Derived.Laws.CopyRow
import Derived.Laws.CopyOwn
import Derived.Deep.SlicePairs
set_option maxHeartbeats 8000000
set_option maxRecDepth 100000
namespace Go.Proofs.YtmcaejooaaahdaaGreat
open Go.Proofs.Tryz
variable {D M N cap g i j k k' m n p x:Nat} {S:Nat→Prop} {U:Nat→List HeC} {V:Nat→Value} {cs xs:List Value} {ds:List Sto.Disk} {hs:List HeC} {r:List Nat} {t t':TypeId} {v:Value} {w w':World}
open Go.RowKit
def TyB(w:World)(k:Nat)(t:TypeId):Prop:= ∃F,aY w k t 0 F
theorem aY.ty{F:Nat→Value}(h:aY w g t n F):TyB w g t:=by
 obtain⟨m,F',hr,hm,_⟩:=h;exact⟨F,m,F',hr,c9D _,fun j hj=>absurd hj (c9L j)⟩
theorem TyB.lt(h:TyB w k t):k<w.heap.size:=by
 obtain⟨F,h⟩:=h;exact h.lt
theorem TyB.ne(h:TyB w k t)(h':TyB w k' t')(ht:t≠t'):k≠k':=by
 obtain⟨F,h⟩:=h;obtain⟨F',h'⟩:=h';exact h.ne h' ht
theorem TyB.of_block(h:TyB w k t)(e:w'.heap[k]?=w.heap[k]?):TyB w' k t:=by
 obtain⟨F,h⟩:=h;exact⟨F,h.of_block e⟩
theorem TyB.below(h:TyB w k t)(hb:Bl w w'):TyB w' k t:=h.of_block (hb.block k h.lt)
theorem aU{s:Nat}(h:w.ownsRow N t s v n xs)(hg:v.ownBlock=some g):TyB w g t:=by
 obtain⟨A0,e⟩:=i9 h hg;exact⟨fun j=>A0.getD j nS,A0.size,fun j=>A0.getD j nS,⟨A0,e,rfl,fun i hi=>by simp[hi]⟩,c9D _,fun j hj=>absurd hj (c9L j)⟩
theorem zV(w:World)(g:Nat)(a:Array Value):Off (fun k=>(Value.slice (some (aD g 0)) 0 0).ownBlock=some k) w (w.drew.setRow g a):=
 ⟨rfl,rfl,rfl,(below_setRow (w0:=w) (w:=w.drew) (B:=0) ⟨rfl,rfl,rfl,c9C _,fun _ _=>rfl⟩ (c9D _) a).size,fun k _ hk=>by
  have hne:k≠g:=fun e=>hk (by rw[e];rfl)
  rw[setRow_other _ _ _ _ hne]
  rfl⟩
def aW(w:World)(p:Nat)(t:TypeId)(cs:List Value):Prop:=aY w p t cs.length (fun j=>cs.getD j nS)
theorem aW.cell(h:aW w p t cs){u:Value}(hi:cs[i]?=some u):w.cell? (aD p i)=some u:=by
 rw[aY.cell h (c9H.1 hi).1,c9R,hi];rfl
theorem aW.frozen(h:aW w p t cs)(i:Nat):w.frozen? (aD p i)=false:=aY.frozen h i
theorem aW.set(h:aW w p t cs)(i:Nat)(v:Value)(hi:i<cs.length):aW (w.setCell (aD p i) v) p t (cs.set i v):=by
 unfold aW;rw[d0B];refine(aY.set h i v).congr fun j hj=>?_;rw[c9R,c9R];by_cases e:j=i
 ·subst e;rw[if_pos rfl,d0O hi];rfl
 ·rw[if_neg e,d0P (fun z=>e z.symm)]
theorem aW.off(h:aW w p t cs)(ho:Off S w w')(hS: ¬S p):aW w' p t cs:=aY.of_block h (ho.block p (aY.lt h) hS)
theorem aW.below(h:aW w p t cs)(hb:Bl w w'):aW w' p t cs:=aY.below h hb
theorem aW.ty(h:aW w p t cs):TyB w p t:=aY.ty h
theorem aC(w:World)(cs:Array Value)(t:TypeId):aW (w.alloc (.cells cs t)) w.heap.size t cs.toList:=by
 have hr:=World.rowIs_alloc w cs t (fun i=>cs.getD i nS) (fun i hi=>by simp[hi])
 exact⟨_,_,hr,by simp,fun j hj=>by
  have hj:j<cs.size:=by simpa using hj
  simp[List.getD,Array.getD,hj]⟩
abbrev Sl:=Option Addr×Nat×Nat
def slV(q:Sl):Value:=.slice q.1 q.2.1 q.2.2
abbrev HeC:=Int×Sl×List Nat
def aI(h:HeC):List Value:=[iV h.1,slV h.2.1]
theorem uD(es:List HeC): ∀u∈es.flatMap aI,u.oneCell'=true:=fun u hu=>by
 obtain⟨x,_,hx⟩:=d2H.1 hu
 simp only[aI,List.mem_cons,List.not_mem_nil,or_false]at hx
 rcases hx with rfl|rfl<;>rfl
def kQ(h:HeC):Int×List Nat:=(h.1,h.2.2)
theorem Tryz.infoH:(Tryz.prog.info? 61).map (fun i=>(i.zero,i.size,i.bytes))=some (some (.agg #[iV 0,nS]),2,32):=by kernel_rfl
theorem zJ(es:List HeC):(es.flatMap aI).length=es.length*2:=fJ aI 2 _ (fun _ _=>rfl)
def aE(x:Int):List Value:=[iV x]
theorem Tryz.infoI:(Tryz.prog.info? 3).map (fun i=>(i.zero,i.size,i.bytes))=some (some (iV 0),1,8):=by kernel_rfl
theorem rQ(es:List Int):(es.flatMap aE).length=es.length:=(fJ aE 1 _ (fun _ _=>rfl)).trans (d1X _)
theorem rF(es:List Int): ∀u∈es.flatMap aE,u.oneCell'=true:=fun u hu=>by
 obtain⟨x,_,hx⟩:=d2H.1 hu
 simp only[aE,List.mem_cons,List.not_mem_nil,or_false]at hx
 subst hx
 rfl
def eQ(w:World)(N:Nat)(u:Value)(r:List Nat):Prop:=Evt.bZ r∧kK w N u r.length (fun j=>r.getD j 0)
theorem eQ.bytL{u:Value}(h:eQ w N u r):cW w u r:=by
 have:=(h.2.byts (Sto.kJ h.1)).list;rw[Sto.b2W]at this;exact this
theorem eQ.at{u:Value}(h:eQ w N u r): ∃g cap,u=.slice (some (aD g 0)) r.length cap∧N≤g∧r.length≤cap∧cap≤maxLen∧aY w g 5 r.length (fun j=> .int .u8 ((r.getD j 0:Nat):Int)):=h.2
theorem eQ.ty{u:Value}(h:eQ w N u r)(hg:u.ownBlock=some g):TyB w g 5:=by
 obtain⟨g',A0,rfl,_,_,_,hr⟩:=h.at;cases hg
 exact hr.ty
theorem eQ.of_block{u:Value}(h:eQ w N u r)(e: ∀g,u.ownBlock=some g→w'.heap[g]?=w.heap[g]?):eQ w' N u r:=by
 obtain⟨h0,g,A0,rfl,h1,h2,h3,hr⟩:=h;exact⟨h0,g,A0,rfl,h1,h2,h3,hr.of_block (e g rfl)⟩
theorem eQ.off{u:Value}(h:eQ w N u r)(ho:Off S w w')(hS: ∀g,u.ownBlock=some g→ ¬S g):eQ w' N u r:=
 h.of_block fun g hg=>ho.block g (h.ty hg).lt (hS g hg)
theorem eQ.below{u:Value}(h:eQ w N u r)(hb:Bl w w'):eQ w' N u r:=h.of_block fun g hg=>hb.block g (h.ty hg).lt
theorem eQ.lower{u:Value}(h:eQ w N u r)(hM:M≤N):eQ w M u r:=by
 obtain⟨h0,g,A0,hv,h1,h⟩:=h;exact⟨h0,g,A0,hv,c9E hM h1,h⟩
theorem eQ.ge{u:Value}(h:eQ w N u r)(hg:u.ownBlock=some g):N≤g:=by
 obtain⟨g',A0,rfl,h1,_⟩:=h.at;cases hg
 exact h1
theorem eQ.set(h:eQ w N (.slice (some (aD g 0)) n cap) r)(hp:p<r.length)(hx:x<256):eQ (w.setCell (aD g p) (.int .u8 ((x:Nat):Int))) N (.slice (some (aD g 0)) n cap) (r.set p x):=by
 obtain⟨h0,g',A0,hv,h1,h2,h3,hr⟩:=h;cases hv
 refine⟨fun y hy=>?_,g,cap,by rw[d0B],h1,by rw[d0B];exact h2,h3,?_⟩
 ·rcases List.mem_or_eq_of_mem_set hy with q|rfl
  ·exact h0 y q
  ·exact hx
 ·rw[d0B];refine(hr.set p _).congr fun j hj=>?_;show(if j=p then Value.int .u8 ((x:Nat):Int)else Value.int .u8 ((r.getD j 0:Nat):Int))=Value.int .u8 (((r.set p x).getD j 0:Nat):Int);rw[c9R,c9R];by_cases e:j=p
  ·subst e;rw[if_pos rfl,d0O hp];rfl
  ·rw[if_neg e,d0P (fun z=>e z.symm)]
def dkF(V:Nat→Value)(ds:List Sto.aL)(j:Nat):Value:=if j%2=0 then .bool (ds.getD (j/2) ⟨false,[]⟩).gone else V (j/2)
structure dM(w:World)(N D:Nat)(V:Nat→Value)(U:Nat→List HeC)(ds:List Sto.aL):Prop where
 row:aY w D 58 (ds.length*2) (dkF V ds)
 ge:N≤D
 own: ∀i,i<ds.length→w.ownsRow N 61 2 (V i) (U i).length ((U i).flatMap aI)
 bl: ∀i d,ds[i]?=some d→d.bl=(U i).map kQ
 byt: ∀(i:Nat) (x:HeC),i<ds.length→x∈U i→eQ w N (slV x.2.1) x.2.2
 sepV: ∀i j g,i<ds.length→j<ds.length→(V i).ownBlock=some g→(V j).ownBlock=some g→i=j
 sepU: ∀(i j a b:Nat) (x x':HeC) (g:Nat),i<ds.length→j<ds.length→(U i)[a]?=some x→(U j)[b]?=some x'→(slV x.2.1).ownBlock=some g→(slV x'.2.1).ownBlock=some g→i=j∧a=b
theorem dM.off(h:dM w N D V U ds)(ho:Off S w w')(hS: ∀k,S k→ ∃t,TyB w k t∧t≠58∧t≠61∧t≠5):dM w' N D V U ds:=by
 refine⟨h.row.of_block (ho.block D h.row.lt fun s=>?_),h.ge,fun i hi=>bC (h.own i hi) ho fun g hg s=>?_,h.bl,fun i x hi hx=>(h.byt i x hi hx).off ho fun g hg s=>?_,h.sepV,h.sepU⟩
 ·obtain⟨t,ht,q,_,_⟩:=hS D s;exact ht.ne h.row.ty q rfl
 ·obtain⟨t,ht,_,q,_⟩:=hS g s;exact ht.ne (aU (h.own i hi) hg) q rfl
 ·obtain⟨t,ht,_,_,q⟩:=hS g s;exact ht.ne ((h.byt i x hi hx).ty hg) q rfl
theorem dM.below(h:dM w N D V U ds)(hb:Bl w w'):dM w' N D V U ds:=
 h.off (Off.of_below (S:=fun _=>False) hb) fun _ s=>s.elim
theorem dM.gone(h:dM w N D V U ds){d:Sto.aL}(hi:ds[i]?=some d):w.cell? (aD D (i*2))=some (.bool d.gone):=by
 have hl:i<ds.length:=(c9H.1 hi).1;rw[h.row.cell (show i*2<ds.length*2 by omega)];unfold dkF;rw[if_pos (by omega),show i*2/2=i by omega,c9R,hi];rfl
theorem dM.held(h:dM w N D V U ds)(hi:i<ds.length):w.cell? (aD D (i*2+1))=some (V i):=by
 rw[h.row.cell (show i*2+1<ds.length*2 by omega)];unfold dkF;rw[if_neg (by omega),show(i*2+1)/2=i by omega]
theorem dM.put{w':World}(h:dM w N D V U ds)(hi:i<ds.length)(d':Sto.aL)(v':Value)(hs':List HeC)
  (hrow:aY w' D 58 (ds.length*2) (dkF (upd V i v') (ds.set i d')))
  (ho:Off (fun k=>k=D∨(V i).ownBlock=some k∨ ∃x,x∈U i∧(slV x.2.1).ownBlock=some k) w w')
  (hown:w'.ownsRow N 61 2 v' hs'.length (hs'.flatMap aI)) (hbl:d'.bl=hs'.map kQ) (hbyt: ∀x:HeC,x∈hs'→eQ w' N (slV x.2.1) x.2.2)
  (hv: ∀g,v'.ownBlock=some g→(V i).ownBlock=some g∨ ∀j,j<ds.length→(V j).ownBlock≠some g)
  (hu: ∀(a:Nat) (x:HeC) (g:Nat),hs'[a]?=some x→(slV x.2.1).ownBlock=some g→(∃x0,x0∈U i∧(slV x0.2.1).ownBlock=some g)∨ ∀(j:Nat) (x1:HeC),j<ds.length→x1∈U j→(slV x1.2.1).ownBlock≠some g)
  (hu2: ∀(a b:Nat) (x x':HeC) (g:Nat),hs'[a]?=some x→hs'[b]?=some x'→(slV x.2.1).ownBlock=some g→(slV x'.2.1).ownBlock=some g→a=b):
  dM w' N D (upd V i v') (upd U i hs') (ds.set i d'):=by
 have A0: ∀(j:Nat) (x x0:HeC) (g:Nat),j≠i→j<ds.length→x∈U j→x0∈U i→(slV x.2.1).ownBlock=some g→(slV x0.2.1).ownBlock=some g→False:=fun j x x0 g hj hl hx A2 h1 h2=>by
  obtain⟨a,ha⟩:=d1K.1 hx;obtain⟨b,hb⟩:=d1K.1 A2;exact hj (h.sepU j i a b x x0 g hl hi ha hb h1 h2).1
 refine⟨by rw[d0B];exact hrow,h.ge,fun j hj=>?_,fun j d hd=>?_,fun j x hj hx=>?_,fun j l g hj hl h1 h2=>?_,fun j l a b x x' g hj hl ha hb h1 h2=>?_⟩
 ·rw[d0B]at hj;by_cases e:j=i
  ·subst e;rw[bM,bM];exact hown
  ·rw[aV _ _ e,aV _ _ e];refine bC (h.own j hj) ho fun g hg s=>?_;have A1:=aU (h.own j hj) hg;rcases s with s|s|⟨x,hx,s⟩
   ·exact A1.ne h.row.ty (by decide) s
   ·exact e (h.sepV j i g hj hi hg s)
   ·exact A1.ne ((h.byt i x hi hx).ty s) (by decide) rfl
 ·by_cases e:j=i
  ·subst e;rw[d0O hi]at hd;cases hd
   rw[bM];exact hbl
  ·rw[d0P (fun z=>e z.symm)]at hd;rw[aV _ _ e];exact h.bl j d hd
 ·rw[d0B]at hj;by_cases e:j=i
  ·subst e;rw[bM]at hx;exact hbyt x hx
  ·rw[aV _ _ e]at hx;refine(h.byt j x hj hx).off ho fun g hg s=>?_;have A1:=(h.byt j x hj hx).ty hg;rcases s with s|s|⟨x0,A2,s⟩
   ·exact A1.ne h.row.ty (by decide) s
   ·exact A1.ne (aU (h.own i hi) s) (by decide) rfl
   ·exact A0 j x x0 g e hj hx A2 hg s
 ·rw[d0B]at hj hl;by_cases e:j=i
  ·by_cases e2:l=i
   ·rw[e,e2]
   ·subst e;rw[bM]at h1;rw[aV _ _ e2]at h2;rcases hv g h1 with q|q
    ·exact h.sepV j l g hj hl q h2
    ·exact absurd h2 (q l hl)
  ·rw[aV _ _ e]at h1;by_cases e2:l=i
   ·subst e2;rw[bM]at h2;rcases hv g h2 with q|q
    ·exact h.sepV j l g hj hl h1 q
    ·exact absurd h1 (q j hj)
   ·rw[aV _ _ e2]at h2;exact h.sepV j l g hj hl h1 h2
 ·rw[d0B]at hj hl;by_cases e:j=i
  ·by_cases e2:l=i
   ·subst e;subst e2;rw[bM]at ha hb;exact⟨rfl,hu2 a b x x' g ha hb h1 h2⟩
   ·subst e;rw[bM]at ha;rw[aV _ _ e2]at hb;rcases hu a x g ha h1 with⟨x0,q1,q2⟩|q
    ·exact(A0 l x' x0 g e2 hl (c9N hb) q1 h2 q2).elim
    ·exact absurd h2 (q l x' hl (c9N hb))
  ·rw[aV _ _ e]at ha;by_cases e2:l=i
   ·subst e2;rw[bM]at hb;rcases hu b x' g hb h2 with⟨x0,q1,q2⟩|q
    ·exact(A0 j x x0 g e hj (c9N ha) q1 h1 q2).elim
    ·exact absurd h1 (q j x hj (c9N ha))
   ·rw[aV _ _ e2]at hb;exact h.sepU j l a b x x' g hj hl ha hb h1 h2
def kX(l:List Int)(x:Int)(i:Nat):Prop:=i≤l.length∧(∀k a,k<i→l[k]?=some a→a<x)∧ ∀k a,i≤k→l[k]?=some a→x≤a
abbrev UpI(l:List Int):Prop:=l.Pairwise (· <·)
theorem a3Z{l:List Int}(h:UpI l){a b:Int}(hi:l[i]?=some a)(hj:l[j]?=some b)(hij:i≤j):a≤b:=by
 by_cases e:i=j
 ·subst e;rw[hi]at hj;cases hj
  exact d1Q _
 ·obtain⟨h1,rfl⟩:=c9H.1 hi;obtain⟨h2,rfl⟩:=c9H.1 hj;exact Int.le_of_lt (d2Y.1 h i j h1 h2 (by omega))
def pE(e:Ending)(l:List Int)(x:Int):Prop:= ∃(i:Nat) (y:Bool),e=.returned (.tuple #[iV i,.bool y])∧kX l x i∧(y=true↔l[i]?=some x)
theorem yA(s:Int)(w:World):Calls prog 102 #[iV s] w fun e w'=>e=.returned (.bool false)∧w'=w:=by
 go_enter func102,ntmps102
 go_wp2_with fail;go_ret
 exact⟨by simp,rfl⟩
def mH(a b:Int):Int:=if a<b then -1 else if b<a then 1 else 0
theorem c1A{a b:Int}:mH a b<0↔a<b:=by
 unfold mH;by_cases h:a<b
 ·rw[if_pos h];simp[h]
 ·rw[if_neg h];by_cases e:b<a
  ·rw[if_pos e];simp[h]
  ·rw[if_neg e];simp[h]
theorem b5M{a b:Int}:mH a b=0↔a=b:=by
 unfold mH;by_cases h:a<b
 ·rw[if_pos h];constructor
  ·intro q;omega
  ·intro q;omega
 ·rw[if_neg h];by_cases e:b<a
  ·rw[if_pos e];constructor
   ·intro q;omega
   ·intro q;omega
  ·rw[if_neg e];constructor
   ·intro q;omega
   ·intro q;rfl
theorem b1H(a b:Int): -1≤mH a b∧mH a b≤1:=by
 unfold mH;split
 ·omega
 ·split
  ·omega
  ·omega
theorem a4K(a b:Int)(w:World):Calls prog 89 #[iV a,iV b] w fun e w'=>e=.returned (iV (mH a b))∧w'=w:=by
 have H1:=yA a w;have H2:=yA b w;by_cases q:a<b
 ·have H:Hid (mH a b= -1):=if_pos q;go_enter func89,ntmps89
  go_wp2_with fail;refine H1.mono ?_;rintro e w1 ⟨rfl,rfl⟩;clear H1;go_wp2_with fail;refine H2.mono ?_;rintro e w1 ⟨rfl,rfl⟩;clear H2;go_wp2_with fail;go_ret
  exact⟨by rw[H.out];rfl,rfl⟩
 ·by_cases r:b<a
  ·have H:Hid (mH a b=1):=by
    show mH a b=1;unfold mH;rw[if_neg q,if_pos r]
   go_enter func89,ntmps89
   go_wp2_with fail;refine H1.mono ?_;rintro e w1 ⟨rfl,rfl⟩;clear H1;go_wp2_with fail;refine H2.mono ?_;rintro e w1 ⟨rfl,rfl⟩;clear H2;go_wp2_with fail;go_ret
   exact⟨by rw[H.out];rfl,rfl⟩
  ·have H:Hid (mH a b=0):=by
    show mH a b=0;unfold mH;rw[if_neg q,if_neg r]
   go_enter func89,ntmps89
   go_wp2_with fail;refine H1.mono ?_;rintro e w1 ⟨rfl,rfl⟩;clear H1;go_wp2_with fail;refine H2.mono ?_;rintro e w1 ⟨rfl,rfl⟩;clear H2;go_wp2_with fail;go_ret
   exact⟨by rw[H.out];rfl,rfl⟩
theorem a7N(a b:Int)(q:Value)(w:World):Calls prog 88 #[.agg #[iV a,q],iV b] w fun e w'=>e=.returned (iV (mH a b))∧Bl w w':=by
 have A0:=aB8 w (.cells #[iV a,q] 61);have V:=aO w 61 (iV a) q;obtain⟨c0,_,_⟩:=V;have H:=a4K a b (w.alloc (.cells #[iV a,q] 61));go_enter func88,ntmps88
 go_wp2_with fail;refine H.mono ?_;rintro e w1 ⟨rfl,rfl⟩;clear H;go_wp2_with fail;go_ret
 exact⟨rfl,A0⟩
theorem Tryz.enters_cmpH: ∀args w,(callFunc 88 args).run Tryz.prog w=.ok (.enter 88 args) w:=enters_of Tryz.func88 (by kernel_rfl) rfl
def a6N(w:World)(v:Value)(hs:List HeC):Prop:= ∃A cap,v=.slice A hs.length cap∧hs.length≤cap∧cap≤maxLen∧ ∀(i:Nat) (x:HeC),hs[i]?=some x→ ∃b o,A=some (aD b o)∧w.cell? (aD b (o+i*2))=some (iV x.1)∧w.cell? (aD b (o+i*2+1))=some (slV x.2.1)
theorem a6N.below(h:a6N w v hs)(hb:Bl w w'):a6N w' v hs:=by
 obtain⟨A,A0,hv,h1,h2,h3⟩:=h;refine⟨A,A0,hv,h1,h2,fun i x hx=>?_⟩;obtain⟨b,o,e,c0,c1⟩:=h3 i x hx;have hp:b<w.heap.size:=World.block_lt_of_cell? _ _ c0;exact⟨b,o,e,(hb.cell (p:=⟨b,o+i*2,none⟩) hp).trans c0,(hb.cell (p:=⟨b,o+i*2+1,none⟩) hp).trans c1⟩
theorem c3L(h:w.ownsRow N 61 2 v hs.length (hs.flatMap aI)):a6N w v hs:=by
 by_cases hn:1≤hs.length
 ·obtain⟨g,A0,rfl,_,h1,h2,_,hc⟩:=dB h hn;refine⟨some (aD g 0),A0,rfl,h1,h2,fun i x hx=>?_⟩;have hf:=fun t ht=>dQ aI 2 hs (fun _ _=>rfl) i t ht x hx;exact⟨g,0,rfl,by rw[c9G];exact hc _ _ (hf 0 (by decide)),by rw[c9G];exact hc _ _ (hf 1 (by decide))⟩
 ·obtain rfl:hs=[]:=d0N (by omega);rcases h.2 with⟨rfl,_⟩|⟨g,A0,A1,rfl,_,_,hc,hm,_⟩
  ·exact⟨none,0,rfl,c9C _,c9D _,fun i e he=>by cases he⟩
  ·exact⟨_,A0,rfl,hc,hm,fun i e he=>by cases he⟩
theorem a6L(t:Int)(vs:Value)(hs:List HeC)(w:World)(h:a6N w vs hs)(hup:UpI (hs.map (·.1)))(hn:hs.length≤100000):
  Calls prog 87 #[vs,iV t,.func (.func 88) #[] #[]] w fun e w'=>pE e (hs.map (·.1)) t∧Bl w w':=by
 have eg:=Tryz.enters_cmpH;have A8:=hd8 hup;obtain⟨A,C,rfl,_,_,ha⟩:=h;have HK:Hid (∀(i:Nat) (x:HeC),hs[i]?=some x→(hs.map (·.1))[i]?=some x.1):=fun i x hx=>by
  show(hs.map (·.1))[i]?=some x.1
  rw[c9S,hx];rfl
 have A1:=hd8 (c9M ..);clear hup;go_enter func87,ntmps87
 go_wp2_with fail;go_loopw [9,10] (fun x y wr=> ∃i j:Nat,i≤j∧j≤hs.length∧x=iV i∧y=iV j∧Hid (∀k a,k<i→(hs.map (·.1))[k]?=some a→a<t)∧Hid (∀k a,j≤k→(hs.map (·.1))[k]?=some a→t≤a)∧Bl w wr) (fun x y _=>(intOf y).toNat-(intOf x).toNat)
 case atStart=>exact⟨0,hs.length,c9D _,c9C _,rfl,rfl,fun k a hk=>absurd hk (c9L k),fun k a hk ha=>absurd (c9H.1 ha).1 (by rw[A1.out];omega),Below.refl _ _⟩
 case round=>
  obtain⟨i,j,Af,A4,rfl,rfl,A6,A2,hb⟩:=hrel;by_cases Ae:i<j
  ·have Ad:(i:Int)<(j:Int):=by omega
   obtain⟨q,hq⟩: ∃q,q=(i+j)/2:=⟨_,rfl⟩;have Ab:i≤q:=by omega
   have Ag:q<j:=by omega
   obtain⟨a,A0⟩: ∃a,hs[q]?=some a:=⟨hs[q],c9F (by omega)⟩;obtain⟨b,o,rfl,d0,d1⟩:=ha q a A0;have hp:b<w.heap.size:=World.block_lt_of_cell? _ _ d0;have d0:=(hb.cell (p:=⟨b,o+q*2,none⟩) hp).trans d0;have d1:=(hb.cell (p:=⟨b,o+q*2+1,none⟩) hp).trans d1;have A9:=hd8 (HK.out q a A0);have HC:=a7N a.1 t (slV a.2.1) wr;have A5:=hd8 c1A;have HR:=b1H a.1 t;generalize mH a.1 t=c at HC A5 HR;have HQ:=hd8 hq;rw[hq]at d0 d1;obtain⟨z,hz⟩: ∃z:Value,z=slV a.2.1:=⟨_,rfl⟩;rw[←hz]at d1 HC;clear ha A0 hq hp hz;by_cases hc:c<0
   ·have A7:=hd8 (A5.out.1 hc);go_wp2_with fail;refine HC.mono ?_;rintro e w1 ⟨rfl,b1⟩;clear HC;go_wp2_with fail;refine⟨⟨q+1,j,by omega,A4,cA (by have:=HQ.out;omega),rfl,fun k x hk hx=>?_,A2.out,bt hb b1⟩,?_⟩
    ·exact Int.lt_of_le_of_lt (a3Z A8.out hx A9.out (by omega)) A7.out
    ·have:=HQ.out;simp[intOf];omega
   ·have A7:=hd8 (Int.not_lt.1 fun z=>hc (A5.out.2 z));go_wp2_with fail;refine HC.mono ?_;rintro e w1 ⟨rfl,b1⟩;clear HC;go_wp2_with fail;refine⟨⟨i,q,Ab,by omega,rfl,cA (by have:=HQ.out;omega),A6.out,fun k x hk hx=>?_,bt hb b1⟩,?_⟩
    ·exact Int.le_trans A7.out (a3Z A8.out A9.out hx hk)
    ·have:=HQ.out;simp[intOf];omega
  ·obtain rfl:i=j:=by omega
   by_cases Ac:i<hs.length
   ·have A3:(i:Int)<(hs.length:Int):=by omega
    obtain⟨a,A0⟩: ∃a,hs[i]?=some a:=⟨hs[i],c9F Ac⟩;obtain⟨b,o,rfl,d0,d1⟩:=ha i a A0;have hp:b<w.heap.size:=World.block_lt_of_cell? _ _ d0;have d0:=(hb.cell (p:=⟨b,o+i*2,none⟩) hp).trans d0;have d1:=(hb.cell (p:=⟨b,o+i*2+1,none⟩) hp).trans d1;have HC:=a7N a.1 t (slV a.2.1) wr
    have Aa:Hid (pE (.returned (.tuple #[iV i,.bool (mH a.1 t==0)])) (hs.map (·.1)) t):=⟨i,mH a.1 t==0,rfl,⟨by rw[A1.out];exact A4,A6.out,A2.out⟩,by
     rw[beq_iff_eq,b5M,HK.out i a A0,Option.some.injEq]⟩
    obtain⟨z,hz⟩: ∃z:Value,z=slV a.2.1:=⟨_,rfl⟩;rw[←hz]at d1 HC;clear ha A0 hp hz;generalize mH a.1 t=c at HC Aa;go_wp2_with fail;refine HC.mono ?_;rintro e w1 ⟨rfl,b1⟩;clear HC;go_wp2_with fail;go_ret2
    exact⟨Aa.out,bt hb b1⟩
   ·have A3: ¬(i:Int)<(hs.length:Int):=by omega
    have HF:Hid (pE (.returned (.tuple #[iV i,.bool false])) (hs.map (·.1)) t):=⟨i,false,rfl,⟨by rw[A1.out];exact A4,A6.out,A2.out⟩,⟨fun e=>absurd e (by decide),fun hx=>absurd (c9H.1 hx).1 (by rw[A1.out];omega)⟩⟩
    clear ha;go_wp2_with fail;go_ret2
    exact⟨HF.out,hb⟩
theorem yZ(t:Int)(vs:Value)(hs:List HeC)(w:World)(h:a6N w vs hs)(hup:UpI (hs.map (·.1)))(hn:hs.length≤100000):
  Calls prog 51 #[vs,iV t] w fun e w'=>pE e (hs.map (·.1)) t∧Bl w w':=by
 have H:=a6L t vs hs w h hup hn;clear h hup;go_enter func51,ntmps51
 go_wp2_with fail;refine H.mono ?_;rintro e w1 ⟨⟨i,y,rfl,hF⟩,b1⟩;have HF:Hid (pE (.returned (.tuple #[iV i,.bool y])) (hs.map (·.1)) t):=⟨i,y,rfl,hF⟩
 clear H hF;go_wp2_with fail;go_ret2
 exact⟨HF.out,b1⟩
end Go.Proofs.YtmcaejooaaahdaaGreat
namespace Go.Proofs.YtmcaejooaaahdaaGreat.Sto
open Go.Proofs.Tryz
variable {D M N cap g i j k k' m n p x:Nat} {S:Nat→Prop} {U:Nat→List HeC} {V:Nat→Value} {cs xs:List Value} {ds:List Sto.Disk} {hs:List HeC} {r:List Nat} {t t':TypeId} {v:Value} {w w':World}
section
variable {bl : List (Int × List Nat)} {k : Int} {i : Nat}
theorem oI:Up bl↔UpI (bl.map (·.1)):=a4J
theorem qV{h:Int×List Nat}(hi:bl[i]?=some h):(bl.map (·.1))[i]?=some h.1:=by
 rw[c9S,hi];rfl
theorem xO(hu:Up bl)(hc:kX (bl.map (·.1)) k i){h:Int×List Nat}(hj:bl[j]?=some h)(hk:h.1=k):j=i:=by
 have h1:=qV hj;by_cases q:j<i
 ·have:=hc.2.1 j _ q h1;omega
 ·by_cases e:j=i
  ·exact e
  ·obtain⟨hl,rfl⟩:=c9H.1 hj;have hi:i<bl.length:=by omega
   have h2:=hc.2.2 i _ (c9C i) (qV (c9F hi));have h3:=d2Y.1 hu i j hi hl (by omega);omega
theorem a4Q(hu:Up bl)(hc:kX (bl.map (·.1)) k i)(hn:(bl.map (·.1))[i]?≠some k): ∀h,h∈bl→h.1≠k:=fun h hm e=>by
 obtain⟨j,hj⟩:=d1K.1 hm
 have:=xO hu hc hj e
 subst this
 exact hn (by rw[qV hj,e])
theorem c1S(hu:Up bl)(hc:kX (bl.map (·.1)) k i)(hn:(bl.map (·.1))[i]?≠some k):bl.find? (fun h=>decide (h.1=k))=none:=by
 rw[List.find?_eq_none];intro h hm;simpa using a4Q hu hc hn h hm
theorem a9X(hu:Up bl)(hc:kX (bl.map (·.1)) k i){h:Int×List Nat}(hi:bl[i]?=some h)(hk:h.1=k):bl.find? (fun h=>decide (h.1=k))=some h:=by
 cases hf:bl.find? (fun h=>decide (h.1=k))with
 |none=>
  rw[List.find?_eq_none]at hf;exact absurd hk (by simpa using hf h (c9N hi))
 |some y=>
  have h1:y.1=k:=by simpa using List.find?_some hf
  obtain⟨j,hj⟩:=d1K.1 (List.mem_of_find?_eq_some hf);have:=xO hu hc hj h1;subst this;rw[hj]at hi;cases hi
  rfl
theorem tO(hc:kX (bl.map (·.1)) k i):bl.filter (fun h=>decide (h.1<k))=bl.take i:=by
 conv=>lhs;rw[←d2Q i bl]
 rw[d1O];have h1:(bl.take i).filter (fun h=>decide (h.1<k))=bl.take i:=by
  rw[d2S];intro h hm;obtain⟨j,hj⟩:=d1K.1 hm;have A0:j<i:=by
   have:=(c9H.1 hj).1;rw[c9K]at this;omega
  rw[d0C,if_pos A0]at hj;exact decide_eq_true (hc.2.1 j _ A0 (qV hj))
 have h2:(bl.drop i).filter (fun h=>decide (h.1<k))=[]:=by
  rw[List.filter_eq_nil_iff];intro h hm;obtain⟨j,hj⟩:=d1K.1 hm;rw[d0J]at hj;have:=hc.2.2 (i+j) _ (Nat.le_add_right i j) (qV hj);simpa using this
 rw[h1,h2,d0W]
theorem sQ(hc:kX (bl.map (·.1)) k i):bl.filter (fun h=>decide (k<h.1))=(bl.drop i).filter (fun h=>decide (k<h.1)):=by
 conv=>lhs;rw[←d2Q i bl]
 rw[d1O];have h1:(bl.take i).filter (fun h=>decide (k<h.1))=[]:=by
  rw[List.filter_eq_nil_iff];intro h hm;obtain⟨j,hj⟩:=d1K.1 hm;have A0:j<i:=by
   have:=(c9H.1 hj).1;rw[c9K]at this;omega
  rw[d0C,if_pos A0]at hj;have:=hc.2.1 j _ A0 (qV hj);simp;omega
 rw[h1,d1C]
theorem b6S(hu:Up bl)(hc:kX (bl.map (·.1)) k i){h:Int×List Nat}(hi:bl[i]?=some h)(hk:h.1=k)(x:List Nat):ins k x false bl=bl.set i (k,x):=by
 obtain⟨hl,rfl⟩:=c9H.1 hi;rw[xY hu,tO hc,sQ hc,List.set_eq_take_append_cons_drop,if_pos hl,d2L hl,d1N (by rw[hk];simp)];congr 2;rw[d2S];intro y hm;obtain⟨j,hj⟩:=d1K.1 hm;rw[d0J]at hj;obtain⟨A0,rfl⟩:=c9H.1 hj;have:=d2Y.1 hu i (i+1+j) hl A0 (by omega);rw[hk]at this;exact decide_eq_true this
theorem c4Q(hu:Up bl)(hc:kX (bl.map (·.1)) k i)(hn:(bl.map (·.1))[i]?≠some k)(x:List Nat):ins k x false bl=bl.take i++(k,x)::bl.drop i:=by
 rw[xY hu,tO hc,sQ hc];congr 2;rw[d2S];intro y hm;have A0:=d1S hm;obtain⟨j,hj⟩:=d1K.1 hm;rw[d0J]at hj;have h1:=hc.2.2 (i+j) _ (Nat.le_add_right i j) (qV hj);have h2:=a4Q hu hc hn y A0;exact decide_eq_true (by omega)
end
theorem oE{k:Int}{y:Nat}: ∀{bl:List (Int×List Nat)} {i:Nat} {h:Int×List Nat},Up bl→bl[i]?=some h→h.1=k→lX k p y bl=bl.set i (k,h.2.set p (h.2.getD p 0^^^y))
 |[],_,_,_,hi,_=>by cases hi
 |x::t,0,h,hu,hi,hk=>by
  cases hi
  rw[lX,if_pos hk]
  rfl
 |x::t,i+1,h,hu,hi,hk=>by
  obtain⟨h1,h2⟩:=d1A.1 hu
  have hi:t[i]?=some h:=hi
  have:=h1 h (c9N hi)
  rw[lX,if_neg (by omega),oE h2 hi hk]
  rfl
end Go.Proofs.YtmcaejooaaahdaaGreat.Sto
namespace Go.Proofs.YtmcaejooaaahdaaGreat
open Go.Proofs.Tryz
variable {D M N cap g i j k k' m n p x:Nat} {S:Nat→Prop} {U:Nat→List HeC} {V:Nat→Value} {cs xs:List Value} {ds:List Sto.Disk} {hs:List HeC} {r:List Nat} {t t':TypeId} {v:Value} {w w':World}
open Go.RowKit
def WfD(ds:List Sto.aL)(m:Nat):Prop:= ∀(i:Nat) (d:Sto.aL),ds[i]?=some d→Sto.Up d.bl∧(∀h,h∈d.bl→0≤h.1∧h.1<(m:Int))∧(d.gone=true→d.bl=[])
theorem xA: ∀{l:List Int} {a m:Int},UpI l→(∀x,x∈l→a≤x∧x<m)→a≤m→(l.length:Int)≤m-a
 |[],a,m,_,_,h=>by
  simp
  omega
 |x::r,a,m,hu,hm,h=>by
  obtain⟨h1,h2⟩:=d1A.1 hu
  have hx:=hm x c9W
  have:=xA (a:=x+1) (m:=m) h2 (fun y hy=>⟨by have:=h1 y hy;omega,(hm y (c9Y _ hy)).2⟩) (by omega)
  rw[d0E]
  omega
theorem gP(hs:List HeC):(hs.map kQ).map (·.1)=hs.map (·.1):=by
 rw[List.map_map];rfl
section
variable {w : World} {N D m : Nat} {V : Nat → Value} {U : Nat → List HeC} {ds : List Sto.aL}
theorem dM.up(h:dM w N D V U ds)(hw:WfD ds m)(hi:i<ds.length):UpI ((U i).map (·.1))∧(U i).length≤m:=by
 obtain⟨q1,q2,_⟩:=hw i ds[i] (c9F hi);have hb:=h.bl i ds[i] (c9F hi);rw[hb]at q1 q2;have hu:UpI ((U i).map (·.1)):=by
  have:=Sto.oI.1 q1;rw[gP]at this;exact this
 refine⟨hu,?_⟩
 have:=xA (a:=0) (m:=(m:Int)) hu (fun x hx=>by
  obtain⟨y,hy,rfl⟩:=d0G.1 hx
  exact q2 (kQ y) (List.mem_map_of_mem hy)) (by omega)
 rw[c9M]at this;omega
theorem dM.heIn(h:dM w N D V U ds)(hi:i<ds.length):a6N w (V i) (U i):=c3L (h.own i hi)
end
def bvV(hs:List HeC)(k:Int):Value:=match hs.find? (fun h=>decide (h.1=k))with
 |some h=>slV h.2.1
 |none=>nS
theorem b5C{k:Int}(hu:UpI (hs.map (·.1)))(hc:kX (hs.map (·.1)) k i){h:HeC}(hi:hs[i]?=some h)(hk:h.1=k):bvV hs k=slV h.2.1:=by
 have hf:hs.find? (fun h=>decide (h.1=k))=some h:=by
  cases hf:hs.find? (fun h=>decide (h.1=k))with
  |none=>
   rw[List.find?_eq_none]at hf;exact absurd hk (by simpa using hf h (c9N hi))
  |some y=>
   have h1:y.1=k:=by simpa using List.find?_some hf
   obtain⟨j,hj⟩:=d1K.1 (List.mem_of_find?_eq_some hf);have A0:(hs.map kQ)[j]?=some (kQ y):=by rw[c9S,hj];rfl
   have:=Sto.xO (bl:=hs.map kQ) (i:=i) (k:=k) (Sto.oI.2 (by rw[gP];exact hu)) (by rw[gP];exact hc) A0 h1;subst this;rw[hj]at hi;cases hi
   rfl
 unfold bvV;rw[hf]
theorem c5X{k:Int}(hu:UpI (hs.map (·.1)))(hc:kX (hs.map (·.1)) k i)(hn:(hs.map (·.1))[i]?≠some k):bvV hs k=nS:=by
 have hf:hs.find? (fun h=>decide (h.1=k))=none:=by
  rw[List.find?_eq_none];intro h hm;have:=Sto.a4Q (bl:=hs.map kQ) (i:=i) (k:=k) (Sto.oI.2 (by rw[gP];exact hu)) (by rw[gP];exact hc) (by rw[gP];exact hn) (kQ h) (List.mem_map_of_mem hm);simpa using(show¬h.1=k from this)
 unfold bvV;rw[hf]
theorem a2L{k:Int}(hu:UpI (hs.map (·.1)))(hb: ∀x:HeC,x∈hs→eQ w N (slV x.2.1) x.2.2):cW w (bvV hs k) (Sto.lI k (hs.map kQ) []):=by
 unfold bvV;cases hf:hs.find? (fun h=>decide (h.1=k))with
 |none=>
  rw[Sto.rL fun h hm e=>?_]
  ·exact cW.nil w
  ·obtain⟨x,hx,rfl⟩:=d0G.1 hm;rw[List.find?_eq_none]at hf;exact absurd (show x.1=k from e) (by simpa using hf x hx)
 |some y=>
  have h1:y.1=k:=by simpa using List.find?_some hf
  have hm:=List.mem_of_find?_eq_some hf;rw[Sto.a5O (h:=kQ y) (Sto.oI.2 (by rw[gP];exact hu)) (List.mem_map_of_mem hm) h1];exact(hb y hm).bytL
def c3V(e:Ending)(w':World)(bs:List (List Nat)):Prop:= ∃v',e=.returned v'∧Lls w' v' bs.length (Sto.f9 bs) (Sto.eP bs)
theorem vK(hw:WfD ds m){k:Int}{d:Sto.aL}(hd:ds[i]?=some d):(Sto.aJ ds k).getD i []=Sto.lI k d.bl []:=by
 rw[c9R,Sto.aJ,c9S,hd];show(if d.gone then[]else Sto.lI k d.bl [])=_;by_cases q:d.gone=true
 ·rw[if_pos q,(hw i d hd).2.2 q];rfl
 ·rw[if_neg q]
theorem b9E{α:Type}(B:Nat→α)(z:α)(n q:Nat):((List.range n).map fun j=>if j<q then B j else z).set q (B q)=(List.range n).map fun j=>if j<q+1 then B j else z:=by
 bK d1I;intro i;by_cases hi:i<n
 ·by_cases e:i=q
  ·subst e;rw[d0O (by simpa using hi)];simp[hi]
  ·rw[d0P (fun z=>e z.symm)];simp[hi,show i<q↔i<q+1 by omega]
 ·rw[c9Z (by simpa using hi),c9Z (by simpa using hi)]
theorem c1Y{α:Type}(B:Nat→α)(z:α)(n q:Nat)(h:B q=z):((List.range n).map fun j=>if j<q then B j else z)=(List.range n).map fun j=>if j<q+1 then B j else z:=by
 refine d1H fun i _=>?_;by_cases e:i=q
 ·subst e;rw[if_neg (d0V i),if_pos (by omega),h]
 ·by_cases g:i<q
  ·rw[if_pos g,if_pos (by omega)]
  ·rw[if_neg g,if_neg (by omega)]
theorem a7Z(R D n N m:Nat)(k:Int)(V:Nat→Value)(U:Nat→List HeC)(ds:List Sto.aL)(w:World)(c3:w.cell? (aD R 3)=some (.slice (some (aD D 0)) n n))(hd:dM w N D V U ds)(hn:ds.length=n)(h12:n≤12)(hw:WfD ds m)(hm:m≤100000):
  Calls prog 52 #[.pointer (some (aD R 0)),iV k] w fun e w'=>c3V e w' (Sto.aJ ds k)∧Bl w w':=by
 have At:=run_make_row' (P:=prog) 86 59 nS 24 underlying86 Tryz.infoRow rfl .i64 .i64 n (by omega) (by omega);have A5:=aB8 w (.cells (madeCells #[nS] n) 59);have Al:=cB8 A5 c3;have HD:=hd8 hd;have HN:=hd8 hn;have HW:=hd8 hw;have R0:(w.alloc (.cells (madeCells #[nS] n) 59)).ownsRow w.heap.size 59 1 (.slice (some (aD w.heap.size 0)) n n) n ((List.range n).map fun j=>if j<0 then bvV (U j) k else nS):=by
  have:=World.ownsRow_lit w (madeCells #[nS] n) n (e:=59) (size:=1) (c9C w.heap.size) (by unfold maxLen;omega) (by simp[madeCells]);rw[show(madeCells #[Value.slice none 0 0] n).toList=(List.range n).map fun j=>if j<0 then bvV (U j) k else Value.slice none 0 0 from ?_]at this
  ·exact this
  ·rw[toList_madeCells_one];bK d1I;intro i;by_cases hi:i<n
   ·simp[hi]
   ·simp[hi]
 clear hd hn hw;go_enter func52,ntmps52
 go_wp2_with fail;generalize w.alloc (.cells (madeCells #[nS] n) 59)=W0 at A5 Al R0⊢;go_loopw [23] (fun x wr=> ∃q:Nat,q≤n∧x=iV q∧wr.ownsRow w.heap.size 59 1 (.slice (some (aD w.heap.size 0)) n n) n ((List.range n).map fun j=>if j<q then bvV (U j) k else nS)∧Bl w wr) (fun x _=>n-(intOf x).toNat)
 case atStart=>exact⟨0,c9D _,rfl,R0,A5⟩
 case round=>
  obtain⟨q,hq,rfl,hR,hb⟩:=hrel;by_cases A9:q<n
  ·have Ag:(q:Int)<(n:Int):=by omega
   have DK:=HD.out.below hb;have A3:q<ds.length:=by rw[HN.out];exact A9
   obtain⟨d,Ab⟩: ∃d,ds[q]?=some d:=⟨ds[q],c9F A3⟩;have g0:=DK.gone Ab;have g1:=DK.held A3;have HE:=DK.heIn A3;obtain⟨A6,An⟩:=DK.up HW.out A3;have A8:=hd8 A6;obtain⟨A,C,hV,Ao,Aa,A0⟩:=HE;have HF:=fun w' (hb':Bl wr w')=>yZ k (V q) (U q) w' ((DK.heIn A3).below hb') A6 (by omega);rw[hV]at g1 HF;have Aj:=mL8 Aa;have bA:=aB8 wr (.cells #[.bool d.gone,.slice A (U q).length C] 58);have VD:=aO wr 58 (.bool d.gone) (.slice A (U q).length C);have Am:=hd8 A0;clear DK Ab hV A0 A6 Aa;go_wp2_with fail;refine(HF _ bA).mono ?_;rintro e w1 ⟨⟨i,y,rfl,hcut,hy⟩,b1⟩;have Ac:=hd8 hcut;have b2:=bt bA b1;have A1:=aK hR b2;have Au:=(A1.lt w.heap.size rfl).2;obtain⟨v0,v1,_⟩:=VD.below b1;clear HF VD bA b1 hcut;cases y with
   |true=>
    have hk:=hy.1 rfl;rw[c9S]at hk;obtain⟨h,hh,Ae⟩:=c9J.1 hk;have Aq:i<(U q).length:=(c9H.1 hh).1;obtain⟨b,o,rfl,_,d1⟩:=Am.out i h hh;have d1:=cB8 b2 d1;have HB:=hd8 (b5C A8.out Ac.out hh Ae);have A7:=A1.stored q (slV h.2.1);have Ad:Hid ((w1.setCell (aD w.heap.size q) (slV h.2.1)).ownsRow w.heap.size 59 1 (.slice (some (aD w.heap.size 0)) n n) n ((List.range n).map fun j=>if j<q+1 then bvV (U j) k else nS)):=by
     have:=A7.1;rw[←HB.out,b9E]at this;rw[←HB.out];exact this
    have Ak:(i:Int)<((U q).length:Int):=by omega
    have Ap:=A1.frozenAt q;obtain⟨u0,As⟩: ∃u0,w1.cell? (aD w.heap.size q)=some u0:=by
     obtain⟨g,Ar,hv,_,_,_,_,hc⟩:=dB A1 (by omega);cases hv
     exact⟨_,hc q _ (by rw[c9S,List.getElem?_range A9];rfl)⟩
    unfold slV at d1 Ad;clear hy hk hh Ae A7 hR A1 HB;go_wp2_with fail;refine⟨⟨q+1,by omega,by go_num,Ad.out,(bt hb b2).setCell (c9C _) _⟩,by simp[intOf];omega⟩
   |false=>
    have Af:Hid (bvV (U q) k=nS):=c5X A8.out Ac.out fun z=>absurd (hy.2 z) (by decide);rw[c1Y (fun j=>bvV (U j) k) nS n q Af.out]at A1;clear hy hR;go_wp2_with fail;exact⟨⟨q+1,by omega,by go_num,A1,bt hb b2⟩,by simp[intOf];omega⟩
  ·obtain rfl:q=n:=by omega
   have HL:Hid (c3V (.returned (.slice (some (aD w.heap.size 0)) q q)) wr (Sto.aJ ds k)):=by
    have hl:(Sto.aJ ds k).length=q:=by
     unfold Sto.aJ;rw[c9M,HN.out]
    have DK:=HD.out.below hb;refine⟨_,rfl,?_⟩;rw[hl];have Ai:wr.ownsRow w.heap.size 59 1 (.slice (some (aD w.heap.size 0)) q q) q ((List.range q).map fun j=>bvV (U j) k):=by
     rw[show((List.range q).map fun j=>bvV (U j) k)=(List.range q).map fun j=>if j<q then bvV (U j) k else nS from d1H fun j hj=>by rw[if_pos (d0D.1 hj)]];exact hR
    refine b2X Ai (fun j hj=>?_) (Below.refl _ _) (fun j kk=>?_)
    ·have A2:j<ds.length:=by rw[HN.out];exact hj
     have A4:=c9F A2;have:=(a2L (k:=k) (DK.up HW.out A2).1 fun x hx=>DK.byt j x A2 hx).byts;unfold Sto.f9 Sto.eP;rw[vK HW.out A4,DK.bl j _ A4];exact this
    ·unfold Sto.eP;by_cases A2:j<ds.length
     ·have A4:=c9F A2;rw[vK HW.out A4,DK.bl j _ A4];exact Sto.kJ (a2L (k:=k) (DK.up HW.out A2).1 fun x hx=>DK.byt j x A2 hx).1 kk
     ·have Ah:(Sto.aJ ds k)[j]?=none:=c9Z (by rw[hl,←HN.out];omega);rw[c9R (l:=Sto.aJ ds k),Ah];simp
   clear hR;go_wp2_with fail;go_ret
   exact⟨HL.out,hb⟩
theorem a1J(s:ByteArray)(w:World):Calls prog 155 #[.string s] w fun e w'=>e=.returned (.bool false)∧w'=w:=by
 go_enter func155,ntmps155
 go_wp2_with fail;go_ret
 exact⟨by simp,rfl⟩
def nX(a b:List Nat):Int:=if Vw.lt a b=true then -1 else if a=b then 0 else 1
theorem c1Q{a b:List Nat}:nX a b<0↔Vw.lt a b=true:=by
 unfold nX;by_cases h:Vw.lt a b=true
 ·rw[if_pos h];simp[h]
 ·rw[if_neg h];by_cases e:a=b
  ·rw[if_pos e];simp[h]
  ·rw[if_neg e];simp[h]
theorem a2U{a b:List Nat}:nX a b=0↔a=b:=by
 unfold nX;by_cases h:Vw.lt a b=true
 ·rw[if_pos h];simp[Vw.vW h]
 ·rw[if_neg h];by_cases e:a=b
  ·simp[e]
  ·rw[if_neg e];simp[e]
theorem a9L(a b:List Nat): -1≤nX a b∧nX a b≤1:=by
 unfold nX;by_cases h:Vw.lt a b=true
 ·rw[if_pos h];omega
 ·rw[if_neg h];by_cases e:a=b
  ·rw[if_pos e];omega
  ·rw[if_neg e];omega
theorem a6G(s t:ByteArray)(w:World):Calls prog 131 #[.string s,.string t] w fun e w'=>e=.returned (iV (nX (nb s) (nb t)))∧w'=w:=by
 have H1:=a1J s w;have H2:=a1J t w;have hl:=wQ s t;have he:=mV s t;by_cases q:Vw.lt (nb s) (nb t)=true
 ·have H:Hid (nX (nb s) (nb t)= -1):=if_pos q;rw[q]at hl;clear q he;go_enter func131,ntmps131
  go_wp2_with fail;refine H1.mono ?_;rintro e w1 ⟨rfl,rfl⟩;clear H1;go_wp2_with fail;refine H2.mono ?_;rintro e w1 ⟨rfl,rfl⟩;clear H2;go_wp2_with fail;go_ret
  exact⟨by rw[H.out];rfl,rfl⟩
 ·have q':Vw.lt (nb s) (nb t)=false:=by simpa using q
  by_cases r:nb s=nb t
  ·have H:Hid (nX (nb s) (nb t)=0):=a2U.2 r;rw[q']at hl;rw[decide_eq_true r]at he;clear q q' r;go_enter func131,ntmps131
   go_wp2_with fail;refine H1.mono ?_;rintro e w1 ⟨rfl,rfl⟩;clear H1;go_wp2_with fail;refine H2.mono ?_;rintro e w1 ⟨rfl,rfl⟩;clear H2;go_wp2_with fail;go_ret
   exact⟨by rw[H.out];rfl,rfl⟩
  ·have H:Hid (nX (nb s) (nb t)=1):=by
    show nX _ _=1;unfold nX;rw[if_neg q,if_neg r]
   rw[q']at hl;rw[decide_eq_false r]at he;clear q q' r;go_enter func131,ntmps131
   go_wp2_with fail;refine H1.mono ?_;rintro e w1 ⟨rfl,rfl⟩;clear H1;go_wp2_with fail;refine H2.mono ?_;rintro e w1 ⟨rfl,rfl⟩;clear H2;go_wp2_with fail;go_ret
   exact⟨by rw[H.out];rfl,rfl⟩
theorem Tryz.enters_cmpA: ∀args w,(callFunc 130 args).run Tryz.prog w=.ok (.enter 130 args) w:=enters_of Tryz.func130 (by kernel_rfl) rfl
theorem a8C(s t:ByteArray)(k m:Int)(b:Bool)(w:World):Calls prog 130 #[.agg #[.string s,iV k,iV m,.bool b],.string t] w fun e w'=>e=.returned (iV (nX (nb s) (nb t)))∧Bl w w':=by
 have A0:=aB8 w (.cells #[.string s,iV k,iV m,.bool b] 93);have H:=a6G s t (w.alloc (.cells #[.string s,iV k,iV m,.bool b] 93));go_enter func130,ntmps130
 go_wp2_with fail;refine H.mono ?_;rintro e w1 ⟨rfl,rfl⟩;clear H;go_wp2_with fail;go_ret
 exact⟨rfl,A0⟩
def b1S(e:Ending)(l:List Vw.Acc)(n:List Nat):Prop:= ∃(i:Nat) (y:Bool),e=.returned (.tuple #[iV i,.bool y])∧Vw.Cut l n i∧(y=true↔ ∃a,l[i]?=some a∧a.name=n)
theorem b1A(t:ByteArray)(vs:Value)(l:List Vw.Acc)(w:World)(h:bJ w vs l)(hs:Vw.lQ l)(hn:l.length≤150):
  Calls prog 129 #[vs,.string t,.func (.func 130) #[] #[]] w fun e w'=>b1S e l (nb t)∧Bl w w':=by
 have eg:=Tryz.enters_cmpA;have A9:=hd8 hs;obtain⟨A,C,rfl,_,_,ha⟩:=h;clear hs;go_enter func129,ntmps129
 go_wp2_with fail;go_loopw [9,10] (fun x y wr=> ∃i j:Nat,i≤j∧j≤l.length∧x=iV i∧y=iV j∧Hid (∀k a,k<i→l[k]?=some a→Vw.lt a.name (nb t)=true)∧Hid (∀k a,j≤k→l[k]?=some a→Vw.lt a.name (nb t)=false)∧Bl w wr) (fun x y _=>(intOf y).toNat-(intOf x).toNat)
 case atStart=>exact⟨0,l.length,c9D _,c9C _,rfl,rfl,fun k a hk=>absurd hk (c9L k),fun k a hk ha=>absurd (c9H.1 ha).1 (by omega),Below.refl _ _⟩
 case round=>
  obtain⟨i,j,Ag,A5,rfl,rfl,A7,A3,hb⟩:=hrel;by_cases Af:i<j
  ·have Ae:(i:Int)<(j:Int):=by omega
   obtain⟨q,hq⟩: ∃q,q=(i+j)/2:=⟨_,rfl⟩;have Ac:i≤q:=by omega
   have Ah:q<j:=by omega
   obtain⟨a,A0⟩: ∃a,l[q]?=some a:=⟨l[q],c9F (by omega)⟩;obtain⟨b,o,rfl,A1⟩:=ha q a A0;obtain⟨s,Ad,A2,d0,d1,d2,d3⟩:=A1.below hb;have HK:Hid (l[q]?=some a):=A0;have HC:=a8C s t a.sum a.cnt a.opn wr;rw[A2]at HC;have A6:Hid (nX a.name (nb t)<0↔Vw.lt a.name (nb t)=true):=c1Q;have HR:=a9L a.name (nb t);generalize nX a.name (nb t)=c at HC A6 HR;have HQ:Hid (q=(i+j)/2):=hq;rw[hq]at d0 d1 d2 d3;clear ha A0 A2 A1 hq;by_cases hc:c<0
   ·have A8:=hd8 (A6.out.1 hc);go_wp2_with fail;refine HC.mono ?_;rintro e w1 ⟨rfl,b1⟩;clear HC;go_wp2_with fail;refine⟨⟨q+1,j,by omega,A5,cA (by have:=HQ.out;omega),rfl,fun k x hk hx=>?_,A3.out,bt hb b1⟩,?_⟩
    ·exact Vw.a2W A9.out hx HK.out (by omega) A8.out
    ·have:=HQ.out;simp[intOf];omega
   ·have A8:Hid (Vw.lt a.name (nb t)=false):=by
     cases h:Vw.lt a.name (nb t)with
     |false=>rfl
     |true=>exact absurd (A6.out.2 h) hc
    go_wp2_with fail;refine HC.mono ?_;rintro e w1 ⟨rfl,b1⟩;clear HC;go_wp2_with fail;refine⟨⟨i,q,Ac,by omega,rfl,cA (by have:=HQ.out;omega),A7.out,fun k x hk hx=>?_,bt hb b1⟩,?_⟩
    ·cases h:Vw.lt x.name (nb t)with
     |false=>rfl
     |true=>
      have:=Vw.a2W A9.out HK.out hx hk h;rw[A8.out]at this;cases this
    ·have:=HQ.out;simp[intOf];omega
  ·obtain rfl:i=j:=by omega
   by_cases A1:i<l.length
   ·have A4:(i:Int)<(l.length:Int):=by omega
    obtain⟨a,A0⟩: ∃a,l[i]?=some a:=⟨l[i],c9F A1⟩;obtain⟨b,o,rfl,A1⟩:=ha i a A0;obtain⟨s,Ad,A2,d0,d1,d2,d3⟩:=A1.below hb;have HC:=a8C s t a.sum a.cnt a.opn wr;rw[A2]at HC
    have HF:Hid (∀c:Int,c=nX a.name (nb t)→b1S (.returned (.tuple #[iV i,.bool (c==0)])) l (nb t)):=fun c hc=>⟨i,c==0,rfl,⟨A5,A7.out,A3.out⟩,by
     rw[beq_iff_eq,hc,a2U];refine⟨fun e=>⟨a,A0,e⟩,fun⟨x,hx,e⟩=>?_⟩;rw[A0]at hx;cases hx
     exact e⟩
    have Aa:=HF.out _ rfl;have Ab:=hd8 Aa;clear ha A0 A2 A1 HF Aa;generalize nX a.name (nb t)=c at HC Ab;go_wp2_with fail;refine HC.mono ?_;rintro e w1 ⟨rfl,b1⟩;clear HC;go_wp2_with fail;go_ret2
    exact⟨Ab.out,bt hb b1⟩
   ·have A4: ¬(i:Int)<(l.length:Int):=by omega
    have HF:Hid (b1S (.returned (.tuple #[iV i,.bool false])) l (nb t)):=⟨i,false,rfl,⟨A5,A7.out,A3.out⟩,⟨fun e=>absurd e (by decide),fun⟨x,hx,_⟩=>absurd (c9H.1 hx).1 A1⟩⟩;clear ha;go_wp2_with fail;go_ret2
    exact⟨HF.out,hb⟩
theorem b1X{l:List Vw.Acc}(h:bJ w v l):
  ∃es:List AcC,es.map gD=l∧(∀e,e∈es→e.1.size≤9223372036854775807)∧ ∀A C,v=.slice (some A) l.length C→ ∀j u,(es.flatMap aP)[j]?=some u→w.cell? (A.add j)=some u:=by
 by_cases h0:1≤l.length
 ·obtain⟨b,o,C,rfl,_,_,hc⟩:=h.some h0;have A0: ∀i,i<l.length→ ∃q:AcC,∀x,l[i]?=some x→gD q=x∧q.1.size≤9223372036854775807∧w.cell? (aD b (o+i*4))=some (.string q.1)∧w.cell? (aD b (o+i*4+1))=some (iV q.2.1)∧w.cell? (aD b (o+i*4+2))=some (iV q.2.2.1)∧w.cell? (aD b (o+i*4+3))=some (.bool q.2.2.2):=by
   intro i hi;obtain⟨s,h1,h2,c0,c1,c2,c3⟩:=hc i l[i] (c9F hi);refine⟨(s,l[i].sum,l[i].cnt,l[i].opn),fun x hx=>?_⟩;rw[c9F hi,Option.some.injEq]at hx;subst hx;refine⟨?_,h1,c0,c1,c2,c3⟩;show(⟨nb s,_,_,_⟩:Vw.Acc)=_;rw[h2]
  obtain⟨q,hq⟩:=Deep.choose_lt (α:=AcC) A0;have hL: ∀i,i<l.length→((List.range l.length).map q)[i]?=some (q i):=fun i hi=>by simp[hi]
  refine⟨(List.range l.length).map q,?_,fun e he=>?_,fun A C' hv j u hj=>?_⟩
  ·bK d1I;intro i;by_cases hi:i<l.length
   ·rw[c9S,hL i hi,c9F hi,Option.map_some,(hq i hi l[i] (c9F hi)).1]
   ·rw[c9Z (by simpa using hi),c9Z (by omega)]
  ·obtain⟨i,hi,rfl⟩:=d0G.1 he;have hi:=d0D.1 hi;exact(hq i hi l[i] (c9F hi)).2.1
  ·cases hv
   have A1:(((List.range l.length).map q).flatMap aP).length=l.length*4:=by
    rw[fJ aP 4 _ (fun _ _=>rfl)];simp
   have A2:j<l.length*4:=by
    have:=(c9H.1 hj).1;omega
   have hi:j/4<l.length:=by omega
   have hf:=dQ aP 4 ((List.range l.length).map q) (fun _ _=>rfl) (j/4) (j%4) (by omega) (q (j/4)) (hL _ hi);rw[show j/4*4+j%4=j by omega,hj]at hf;obtain⟨_,_,c0,c1,c2,c3⟩:=hq (j/4) hi l[j/4] (c9F hi);rw[WideShapes.add_plain];rcases(show j%4=0∨j%4=1∨j%4=2∨j%4=3 by omega)with e|e|e|e
   ·rw[e]at hf;cases hf
    rw[show o+j=o+j/4*4 by omega];exact c0
   ·rw[e]at hf;cases hf
    rw[show o+j=o+j/4*4+1 by omega];exact c1
   ·rw[e]at hf;cases hf
    rw[show o+j=o+j/4*4+2 by omega];exact c2
   ·rw[e]at hf;cases hf
    rw[show o+j=o+j/4*4+3 by omega];exact c3
 ·obtain rfl:l=[]:=d0N (by omega);exact⟨[],rfl,fun e he=>(by cases he),fun A C _ j u hj=>(by cases hj)⟩
theorem uM(es:List AcC): ∀u∈es.flatMap aP,u.oneCell'=true:=fun u hu=>by
 obtain⟨x,_,hx⟩:=d2H.1 hu
 simp only[aP,List.mem_cons,List.not_mem_nil,or_false]at hx
 rcases hx with rfl|rfl|rfl|rfl<;>rfl
theorem uI(es:List AcC):(es.flatMap aP).length=es.length*4:=fJ aP 4 _ (fun _ _=>rfl)
theorem b3Q(w:World)(N:Nat)(v:Value)(es0 es:List AcC)(h0:eV w N v es0)(hN:N≤w.heap.size)(a:Addr)(C:Nat)(hc: ∀j u,(es.flatMap aP)[j]?=some u→w.cell? (a.add j)=some u)(hz: ∀e,e∈es→e.1.size≤9223372036854775807)(hsz:es0.length+es.length≤4000000):
  ∃v' w',(Builtin.append_ #[28,28] 28 #[v,.slice (some a) es.length C]).run prog w=.ok v' w'∧eV w' N v' (es0++es)∧Below N w w'∧(v'=nS↔v=nS∧es.length=0):=by
 obtain⟨i4,A4,A2⟩:=c9J.1 Tryz.infoAccount;simp only[Prod.mk.injEq]at A2;obtain⟨A5,A6,A3⟩:=A2;obtain⟨v',w',A0,ho,hg,A1⟩:=run_append_own (P:=prog) w N 28 28 93 i4 _ 4 40 underlying28 A4 A5 A6 A3 rfl (by decide) v es0.length _ h0.1 a es.length C (es.flatMap aP) (uI es) hc (uM es) (by unfold maxLen;omega) (by omega) hN;refine⟨v',w',A0,⟨?_,fun e he=>?_⟩,(Below.refl N w).grown hg hN (fun x hx=>(h0.1.lt x hx).1),A1⟩
 ·rw[c9I,d0H];exact ho
 ·rcases List.mem_append.1 he with q|q
  ·exact h0.2 e q
  ·exact hz e q
def b0V(e:Ending)(w':World)(N:Nat)(l:List Vw.Acc):Prop:= ∃v es,e=.returned v∧es.map gD=l∧eV w' N v es
theorem xQ(vs:Value)(l:List Vw.Acc)(w:World)(h:bJ w vs l)(hn:l.length≤2000000):
  Calls prog 75 #[vs] w fun e w'=>b0V e w' w.heap.size l∧Bl w w':=by
 obtain⟨es,A1,A8,A3⟩:=b1X h;have A5:es.length=l.length:=by rw[←A1,c9M]
 have HE:=hd8 A1;obtain⟨A,C,rfl,_,_,A4⟩:=h;have hq:=fun w=>Lib.run_eql_slice_nil (P:=prog) w 28 93 A l.length C 0 0 underlying28;cases A with
 |none=>
  have A6:l=[]:=by
   cases l with
   |A9=>rfl
   |cons a r=>
    obtain⟨_,_,e,_⟩:=A4 0 a rfl;cases e
  have HR:Hid (b0V (.returned nS) w w.heap.size l):=⟨_,[],rfl,A6.symm,eV.nil w _⟩;clear A1 A3 A5 HE A4 A6;go_enter func75,ntmps75
  go_wp2_with fail;go_ret
  exact⟨HR.out,Below.refl _ _⟩
 |some a=>
  have A2:=aB8 w (.cells #[] 93);have h0:eV (w.alloc (.cells #[] 93)) w.heap.size (.slice (some (aD w.heap.size 0)) 0 0) []:=⟨World.ownsRow_made w #[] 0 (c9C _) (by unfold maxLen;omega) rfl,fun e he=>(by cases he)⟩
  obtain⟨v',w',A0,hB,A7,_⟩:=b3Q (w.alloc (.cells #[] 93)) w.heap.size _ [] es h0 A2.size a C (fun j u hj=>by
   have h1:=A3 a C rfl j u hj
   exact(A2.cell (World.block_lt_of_cell? _ _ h1)).trans h1) A8 (by simp;omega)
  rw[A5]at A0;have HR:Hid (b0V (.returned v') w' w.heap.size l):=⟨v',es,rfl,HE.out,by rw[d1C]at hB;exact hB⟩;have HB:=hd8 (A2.trans A7);clear A1 A3 hB A7 h0 A4;go_enter func75,ntmps75
  go_wp2_with (at_builtin;refine Lib.wpList_append_run _ rfl (.tmp 5) (.tmp 6) 28 28 rfl _ _ rfl rfl _ _ A0 ?_);go_ret
  exact⟨HR.out,HB.out⟩
end Go.Proofs.YtmcaejooaaahdaaGreat
