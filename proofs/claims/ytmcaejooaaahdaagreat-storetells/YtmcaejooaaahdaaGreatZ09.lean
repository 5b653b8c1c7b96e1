import Derived.Test.YtmcaejooaaahdaaGreatZ07
import Derived.Test.YtmcaejooaaahdaaGreatZ08
import Derived.Laws.StructEq
import Derived.Laws.OwnMore
import Derived.Deep.RegionLaw
set_option maxHeartbeats 8000000
set_option maxRecDepth 100000
namespace Go.Proofs.YtmcaejooaaahdaaGreat
open Go.Proofs.Tryz
variable {A N b g i m n p s:Nat} {S:Nat→Prop} {W0 w w':World} {bs r r':List Nat} {s':ByteArray} {t:TypeId} {v v':Value} {xs:List Value}
open Go.RowKit
theorem b1O{s:ByteArray}:nb s=nb s'↔s.toList=s'.toList:=by
 unfold nb;rw[d2C,d2C];constructor
 ·intro h;exact List.map_inj_right (fun a b e=>UInt8.toNat_inj.1 e)|>.1 h
 ·intro h;rw[h]
theorem c6S(s s':ByteArray)(k k' m m':Int)(w:World):(binOp .neq 83 (.agg #[.string s,iV k,iV m]) (.agg #[.string s',iV k',iV m'])).run prog w=.ok (.bool (!(s.toList==s'.toList&&(k==k'&&m==m')))) w:=by
 have u3:=underlying3;have u9:=underlying9;have a3:=Tryz.isAgg3;have z3:=Tryz.sizeOf3;have a9:=Tryz.isAgg9;have z9:=Tryz.sizeOf9;have hS:prog.underlying 83=some (.struct (prog.fieldsOf 83)):=by kernel_rfl
 have hp:prog.stoodInHeld 83=false:=by kernel_rfl
 rw[run_neq_struct,show(10000:Nat)=9999+1 from rfl,run_equalIn_agg w 9999 83 _ _ hS hp];simp only[Program.fieldsOf,underlying83];go_simp
 by_cases h1:s.toList=s'.toList<;>by_cases h2:k=k'<;>by_cases h3:m=m'<;>simp[h1,h2,h3]
theorem c8J{s:ByteArray}{e e':Evt.Ev}(h:nb s=e.name)(h':nb s'=e'.name):(s.toList==s'.toList&&(e.kind==e'.kind&&e.num==e'.num))=true↔e=e':=by
 rw[Bool.and_eq_true,Bool.and_eq_true,beq_iff_eq,beq_iff_eq,beq_iff_eq,←b1O,h,h'];obtain⟨n,k,m⟩:=e;obtain⟨n',k',m'⟩:=e';simp
theorem vC(w:World)(m q:Nat):(w.drewN m).drewN q=w.drewN (m+q):=by
 simp[World.drewN,Nat.add_assoc]
theorem rR{α:Type}{l l':List α}(hl:l.length=l'.length)(h: ∀j,j<l.length→l[j]?=l'[j]?):l=l':=by
 apply d1I;intro j;by_cases hj:j<l.length
 ·exact h j hj
 ·rw[c9Z (by omega),c9Z (by omega)]
theorem a6H(b o b' o' n C C':Nat)(es es':List Evt.Ev)(w:World)(hn:n≤9223372036854775807)(h: ∀i e,es[i]?=some e→a7E w b (o+i*3) e)(h': ∀i e,es'[i]?=some e→a7E w b' (o'+i*3) e)(hl:es.length=n)(hl':es'.length=n):
  Calls prog 16 #[.slice (some (aD b o)) n C,.slice (some (aD b' o')) n C'] w fun e w'=>rM e (es=es')∧ ∃m,w'=w.drewN m:=by
 have HL:Hid (es.length=n∧es'.length=n):=⟨hl,hl'⟩;have Ab:prog.eqGuardType prog.depth 83=false:=by kernel_rfl
 go_enter func16,ntmps16
 go_wp2_with fail;go_loopw [13] (fun x wr=> ∃k:Nat,k≤n∧x=iV k∧Hid (∀j,j<k→es[j]?=es'[j]?)∧ ∃m,wr=w.drewN m) (fun x _=>n-(intOf x).toNat)
 case atStart=>exact⟨0,c9D _,rfl,fun j hj=>absurd hj (c9L j),0,rfl⟩
 case round=>
  obtain⟨k,hk,rfl,HS,m,rfl⟩:=hrel;by_cases Ac:k<n
  ·have A6:(k:Int)<(n:Int):=by omega
   obtain⟨ev,A3⟩: ∃ev,es[k]?=some ev:=⟨es[k],c9F (by omega)⟩;obtain⟨A1,A0⟩: ∃ev,es'[k]?=some ev:=⟨es'[k],c9F (by omega)⟩;obtain⟨s,A7,A5,d0,d1,d2⟩:=h k ev A3;obtain⟨s',A4,A2,A8,A9,Aa⟩:=h' k A1 A0;have HE:Hid (es[k]?=some ev∧es'[k]?=some A1):=⟨A3,A0⟩;have HQ:=c8J A5 A2;have hq:=c6S s s' ev.kind A1.kind ev.num A1.num;generalize (s.toList==s'.toList&&(ev.kind==A1.kind&&ev.num==A1.num))=y at HQ hq;clear h h' A3 A0 A5 A2 hl hl' A7 A4;cases y with
   |true=>
    have HR:=hd8 (HQ.1 rfl);clear HQ;go_wp2_with fail;go_quiet (fail)
    go_wp2_with fail;refine⟨⟨k+1,by omega,by go_num,fun j hj=>?_,_,rfl⟩,by simp[intOf];omega⟩;by_cases e:j=k
    ·rw[e,HE.out.1,HE.out.2,HR.out]
    ·exact HS.out j (by omega)
   |false=>
    have HN:Hid (¬es=es'):=fun e=>by
     have h1:=HE.out.1;rw[e,HE.out.2,Option.some.injEq]at h1;exact absurd (HQ.2 h1.symm) (by decide)
    clear HQ;go_wp2_with fail;go_quiet (fail)
    go_wp2_with fail;go_ret
    exact⟨cZ HN.out,_,vC w m _⟩
  ·obtain rfl:k=n:=by omega
   have HY:Hid (es=es'):=rR (by omega) (fun j hj=>HS.out j (by omega));clear h h' hl hl';go_wp2_with fail;go_ret
   exact⟨gP HY.out,_,rfl⟩
theorem a0A(v v':Value)(es es':List Evt.Ev)(w:World)(h:Evs w v es)(h':Evs w v' es'):
  Calls prog 16 #[v,v'] w fun e w'=>rM e (es=es')∧ ∃m,w'=w.drewN m:=by
 by_cases hl:es.length=es'.length
 ·by_cases h0:1≤es.length
  ·obtain⟨b,o,C,rfl,q1,q2,q3⟩:=h.some h0;obtain⟨b',o',C',rfl,A2,A3,A0⟩:=h'.some (by omega);rw[←hl];exact a6H b o b' o' es.length C C' es es' w (by omega) q3 A0 rfl hl.symm
  ·obtain⟨A,C,rfl⟩:=h.sE;obtain⟨A',C',rfl⟩:=h'.sE;obtain rfl:es=[]:=d0N (by omega);obtain rfl:es'=[]:=d0N (by simpa using hl.symm);clear hl h0 h h';simp only[List.length_nil];go_enter func16,ntmps16
   go_wp2_with fail;refine wp_loop_rounds 1 ?_;rw[rounds_succ];go_wp2_with fail;go_ret
   exact⟨gP trivial,0,rfl⟩
 ·obtain⟨A,C,rfl⟩:=h.sE;obtain⟨A',C',rfl⟩:=h'.sE;have A1:((es.length:Int) !=(es'.length:Int))=true:=by rw[bne_iff_ne];omega
  have H:Hid (¬es=es'):=fun e=>hl (by rw[e]);clear hl h h';go_enter func16,ntmps16
  go_wp2_with fail;go_ret
  exact⟨cZ H.out,0,rfl⟩
theorem dP(w:World)(m:Nat):Bl w (w.drewN m):=⟨rfl,rfl,rfl,c9C _,fun _ _=>rfl⟩
theorem sO{wr:World}(h: ∃m,wr=w.drewN m)(q:Nat): ∃m,wr.drewN q=w.drewN m:=by
 obtain⟨m,rfl⟩:=h;exact⟨_,vC w m q⟩
theorem a9I{es es':List Evt.Ev}(h:Evs w v es)(h':Evs w v' es')(y:Bool)(hy:y=true↔es=es')(n:Nat):
  Calls prog 16 #[v,v'] (w.drewN n) fun e w''=>e=.returned (.bool y)∧ ∃m,w''=w.drewN m:=by
 refine(a0A v v' es es' (w.drewN n) (h.bE (dP w n)) (h'.bE (dP w n))).mono ?_;rintro e w'' ⟨⟨x,rfl,hx⟩,m,rfl⟩;have:x=y:=by
  rw[Bool.eq_iff_iff];exact hx.trans hy.symm
 rw[this];exact⟨rfl,_,vC w n m⟩
theorem b0S(b o b' o' n C C':Nat)(l l':List Evt.Bat)(w:World)(hn:n≤9223372036854775807)(h: ∀i e,l[i]?=some e→oO w b (o+i*2) e)(h': ∀i e,l'[i]?=some e→oO w b' (o'+i*2) e)(hl:l.length=n)(hl':l'.length=n):
  Calls prog 14 #[.slice (some (aD b o)) n C,.slice (some (aD b' o')) n C'] w fun e w'=>rM e (l=l')∧ ∃m,w'=w.drewN m:=by
 have HL:Hid (l.length=n∧l'.length=n):=⟨hl,hl'⟩;go_enter func14,ntmps14
 go_wp2_with fail;go_loopw [13] (fun x wr=> ∃k:Nat,k≤n∧x=iV k∧Hid (∀j,j<k→l[j]?=l'[j]?)∧Hid (∃m,wr=w.drewN m)) (fun x _=>n-(intOf x).toNat)
 case atStart=>exact⟨0,c9D _,rfl,fun j hj=>absurd hj (c9L j),⟨0,rfl⟩⟩
 case round=>
  obtain⟨k,hk,rfl,HS,HM⟩:=hrel;have A3:Bl w wr:=by
   obtain⟨m,e⟩:=HM.out;rw[e];exact dP w m
  by_cases A8:k<n
  ·have A5:(k:Int)<(n:Int):=by omega
   obtain⟨x,hx⟩: ∃ev,l[k]?=some ev:=⟨l[k],c9F (by omega)⟩;obtain⟨x',A1⟩: ∃ev,l'[k]?=some ev:=⟨l'[k],c9F (by omega)⟩;obtain⟨u,d0,d1,he⟩:=(h k x hx).bE A3;obtain⟨u',A6,A7,A0⟩:=(h' k x' A1).bE A3;have HE:Hid (l[k]?=some x∧l'[k]?=some x'):=⟨hx,A1⟩;have A2:Hid (¬x=x'→ ¬l=l'):=fun q e=>by
    rw[e,A1,Option.some.injEq]at hx;exact q hx.symm
   clear h h' hx A1 hl hl';by_cases hc:x.cmd=x'.cmd
   ·have A4:(x.cmd !=x'.cmd)=false:=by rw[bne_eq_false_iff_eq];exact hc
    have HC:=hd8 hc;clear hc;by_cases hv:x.evs=x'.evs
    ·have HQ:=a9I he A0 true ⟨fun _=>hv,fun _=>rfl⟩;have HR:Hid (x=x'):=by
      obtain⟨c1,e1⟩:=x;obtain⟨c2,e2⟩:=x';have:=HC.out;simp at this hv;show _=_;rw[this,hv]
     clear hv he A0;go_wp2_with fail;go_quiet ((go_at_call 16;refine HQ _))
     go_wp2_with fail;refine⟨⟨k+1,by omega,by go_num,fun j hj=>?_,sO HM.out _⟩,by simp[intOf];omega⟩;by_cases e:j=k
     ·rw[e,HE.out.1,HE.out.2,HR.out]
     ·exact HS.out j (by omega)
    ·have HQ:=a9I he A0 false ⟨fun q=>absurd q (by decide),fun q=>absurd q hv⟩;have HN:Hid (¬l=l'):=A2.out (fun q=>hv (by rw[q]));clear hv he A0;go_wp2_with fail;go_quiet ((go_at_call 16;refine HQ _))
     go_wp2_with fail;go_ret
     exact⟨cZ HN.out,sO HM.out _⟩
   ·have A4:(x.cmd !=x'.cmd)=true:=by rw[bne_iff_ne];exact hc
    have HN:Hid (¬l=l'):=A2.out (fun q=>hc (by rw[q]));clear hc he A0;go_wp2_with fail;go_quiet (fail)
    go_wp2_with fail;go_ret
    exact⟨cZ HN.out,sO HM.out _⟩
  ·obtain rfl:k=n:=by omega
   have HY:Hid (l=l'):=rR (by omega) (fun j hj=>HS.out j (by omega));clear h h' hl hl';go_wp2_with fail;go_ret
   exact⟨gP HY.out,HM.out⟩
theorem a8E(v v':Value)(l l':List Evt.Bat)(w:World)(h:eS w v l)(h':eS w v' l'):
  Calls prog 14 #[v,v'] w fun e w'=>rM e (l=l')∧ ∃m,w'=w.drewN m:=by
 by_cases hl:l.length=l'.length
 ·by_cases h0:1≤l.length
  ·obtain⟨b,o,C,rfl,q1,q2,q3⟩:=h.some h0;obtain⟨b',o',C',rfl,A2,A3,A0⟩:=h'.some (by omega);rw[←hl];exact b0S b o b' o' l.length C C' l l' w (by omega) q3 A0 rfl hl.symm
  ·obtain⟨A,C,rfl,_⟩:=h;obtain⟨A',C',rfl,_⟩:=h';obtain rfl:l=[]:=d0N (by omega);obtain rfl:l'=[]:=d0N (by simpa using hl.symm);clear hl h0;simp only[List.length_nil];go_enter func14,ntmps14
   go_wp2_with fail;refine wp_loop_rounds 1 ?_;rw[rounds_succ];go_wp2_with fail;go_ret
   exact⟨gP trivial,0,rfl⟩
 ·obtain⟨A,C,rfl,_⟩:=h;obtain⟨A',C',rfl,_⟩:=h';have A1:((l.length:Int) !=(l'.length:Int))=true:=by rw[bne_iff_ne];omega
  have H:Hid (¬l=l'):=fun e=>hl (by rw[e]);clear hl;go_enter func14,ntmps14
  go_wp2_with fail;go_ret
  exact⟨cZ H.out,0,rfl⟩
theorem dC{size:Nat}(h:w.ownsRow N t size v n xs)(hn:1≤n):
  ∃g cap,v=.slice (some (aD g 0)) n cap∧N≤g∧n≤cap∧cap≤maxLen∧g<w.heap.size∧ ∀j u,xs[j]?=some u→w.cell? (aD g j)=some u:=by
 have h0:=h;obtain⟨hl,h'⟩:=h;rcases h' with⟨_,h1⟩|⟨g,cap,A0,rfl,hN,hg,hc,hm,hs,ht⟩
 ·omega
 ·refine⟨g,cap,rfl,hN,hc,hm,(h0.lt g rfl).2,fun j u hj=>?_⟩;have:=h0.cells (g:=g) rfl j u hj;rw[WideShapes.add_plain,c9G]at this;exact this
theorem Tryz.infoBatch:(Tryz.prog.info? 47).map (fun i=>(i.zero,i.size,i.bytes))=some (some (.agg #[iV 0,nS]),2,32):=by kernel_rfl
theorem Tryz.infoEvent:(Tryz.prog.info? 83).map (fun i=>(i.zero,i.size,i.bytes))=some (some (.agg #[.string ByteArray.empty,iV 0,iV 0]),3,32):=by kernel_rfl
abbrev EvC:=ByteArray×Int×Int
def eH(e:EvC):List Value:=[.string e.1,iV e.2.1,iV e.2.2]
def aY(e:EvC):Evt.Ev:=⟨nb e.1,e.2.1,e.2.2⟩
def cH(w:World)(N:Nat)(v:Value)(es:List EvC):Prop:=w.ownsRow N 83 3 v es.length (es.flatMap eH)∧ ∀e,e∈es→e.1.size≤9223372036854775807
theorem cH.nil(w:World)(N:Nat):cH w N nS []:=⟨World.ownsRow_nil w N _ 3,fun e he=>by cases he⟩
theorem cH.bE{es:List EvC}(h:cH w N v es)(hb:Bl w w'):cH w' N v es:=⟨aK h.1 hb,h.2⟩
theorem cH.evs{es:List EvC}(h:cH w N v es):Evs w v (es.map aY):=by
 by_cases hn:1≤es.length
 ·obtain⟨g,A0,rfl,_,h1,h2,_,hc⟩:=dC h.1 hn;refine⟨some (aD g 0),A0,by rw[c9M],by rw[c9M];exact h1,h2,fun i e he=>?_⟩;rw[c9S]at he;obtain⟨x,hx,rfl⟩:=c9J.1 he;have hf:=fun t ht=>dQ eH 3 es (fun _ _=>rfl) i t ht x hx;exact⟨g,0,rfl,x.1,h.2 x (c9N hx),rfl,by rw[c9G];exact hc _ _ (hf 0 (by decide)),by rw[c9G];exact hc _ _ (hf 1 (by decide)),by rw[c9G];exact hc _ _ (hf 2 (by decide))⟩
 ·obtain rfl:es=[]:=d0N (by omega);rcases h.1.2 with⟨rfl,_⟩|⟨g,A0,A1,rfl,_,_,hc,hm,_⟩
  ·exact⟨none,0,rfl,c9C _,c9D _,fun i e he=>by cases he⟩
  ·exact⟨_,A0,rfl,hc,hm,fun i e he=>by cases he⟩
def dG(x:Int×Value):List Value:=[iV x.1,x.2]
def sT(w:World)(N:Nat)(v:Value)(l:List (Int×Value)):Prop:=w.ownsRow N 47 2 v l.length (l.flatMap dG)
theorem sT.nil(w:World)(N:Nat):sT w N nS []:=World.ownsRow_nil w N _ 2
theorem sT.bats{l:List (Int×Value)}{bs:List Evt.Bat}(h:sT w N v l)(hl:bs.length=l.length)(he: ∀(i:Nat) (x:Int×Value) (b:Evt.Bat),l[i]?=some x→bs[i]?=some b→b.cmd=x.1∧Evs w x.2 b.evs):eS w v bs:=by
 by_cases hn:1≤l.length
 ·obtain⟨g,A0,rfl,_,h1,h2,_,hc⟩:=dC h hn;refine⟨some (aD g 0),A0,by rw[hl],by rw[hl];exact h1,h2,fun i b hb=>?_⟩;obtain⟨x,hx⟩: ∃x,l[i]?=some x:=by
   have:i<l.length:=by
    rw[←hl];exact(c9H.1 hb).1
   exact⟨l[i],c9F this⟩
  have hf:=fun t ht=>dQ dG 2 l (fun _ _=>rfl) i t ht x hx;obtain⟨e1,e2⟩:=he i x b hx hb;exact⟨g,0,rfl,x.2,by rw[c9G,e1];exact hc _ _ (hf 0 (by decide)),by rw[c9G];exact hc _ _ (hf 1 (by decide)),e2⟩
 ·obtain rfl:l=[]:=d0N (by omega);obtain rfl:bs=[]:=d0N (by simpa using hl);rcases h.2 with⟨rfl,_⟩|⟨g,A0,A1,rfl,_,_,hc,hm,_⟩
  ·exact⟨none,0,rfl,c9C _,c9D _,fun i e he=>by cases he⟩
  ·exact⟨_,A0,rfl,hc,hm,fun i e he=>by cases he⟩
structure PS(W0 w:World)(v:Value)(N A:Nat)(ok:Bool):Prop where
 at_:w.cell? ⟨W0.heap.size+1,0,none⟩=some (.int .i64 (A:Nat))
 b_:w.cell? ⟨W0.heap.size,0,none⟩=some v
 ok_:w.cell? ⟨W0.heap.size+1+1,0,none⟩=some (.bool ok)
 fa:w.frozen? ⟨W0.heap.size+1,0,none⟩=false
 fo:w.frozen? ⟨W0.heap.size+1+1,0,none⟩=false
 bel:Below W0.heap.size W0 w
 le:A≤N
theorem PS.setAt{ok:Bool}(h:PS W0 w v N A ok){A':Nat}{a:Int}(e:a=(A':Int))(hA:A'≤N):PS W0 (w.setCell (aD (W0.heap.size+1) 0) (iV a)) v N A' ok:=by
 have c0:=h.at_;have c1:=h.b_;have c2:=h.ok_;have f0:=h.fa;have f1:=h.fo;subst e;exact⟨by go_simp,by go_simp,by go_simp,by go_simp,by go_simp,h.bel.setCell (c9O _) _,hA⟩
theorem PS.setNo{ok:Bool}(h:PS W0 w v N A ok):PS W0 (w.setCell ⟨W0.heap.size+1+1,0,none⟩ (.bool false)) v N A false:=by
 have c0:=h.at_
 have c1:=h.b_
 have c2:=h.ok_
 have f0:=h.fa
 have f1:=h.fo
 exact⟨by go_simp,by go_simp,by go_simp,by go_simp,by go_simp,h.bel.setCell (by show W0.heap.size≤W0.heap.size+1+1;omega) _,h.le⟩
theorem PS.keep{ok:Bool}(h:PS W0 w v N A ok)(hb:Below (W0.heap.size+3) w w'):PS W0 w' v N A ok:=
 ⟨(hb.cell (p:=⟨W0.heap.size+1,0,none⟩) (by show W0.heap.size+1<_;omega)).trans h.at_,(hb.cell (p:=⟨W0.heap.size,0,none⟩) (by show W0.heap.size<_;omega)).trans h.b_,(hb.cell (p:=⟨W0.heap.size+1+1,0,none⟩) (by show W0.heap.size+1+1<_;omega)).trans h.ok_,
  (hb.frozen (p:=⟨W0.heap.size+1,0,none⟩) (by show W0.heap.size+1<_;omega)).trans h.fa,(hb.frozen (p:=⟨W0.heap.size+1+1,0,none⟩) (by show W0.heap.size+1+1<_;omega)).trans h.fo,h.bel.trans (hb.mono (by omega)),h.le⟩
theorem PS.room{ok:Bool}(h:PS W0 w v N A ok):W0.heap.size+3≤w.heap.size:=by
 have:W0.heap.size+1+1<w.heap.size:=World.block_lt_of_cell? _ _ h.ok_;omega
def gB(g:Nat→Nat)(A:Nat):Nat→Nat
 |0=>0
 |k+1=>256*gB g A k+g (A+k)
theorem b4B{g:Nat→Nat}(hg:Bd g)(A:Nat): ∀k,k≤3→gB g A k<16777216∧(k≤2→gB g A k<65536)
 |0,_=>⟨show 0<16777216 by decide,fun _=>show 0<65536 by decide⟩
 |1,_=>by
  have:=hg (A+0)
  exact⟨show 256*0+g (A+0)<_ by omega,fun _=>show 256*0+g (A+0)<_ by omega⟩
 |2,_=>by
  have h0:=hg (A+0)
  have h1:=hg (A+1)
  exact⟨show 256*(256*0+g (A+0))+g (A+1)<_ by omega,fun _=>show 256*(256*0+g (A+0))+g (A+1)<_ by omega⟩
 |3,_=>by
  have h0:=hg (A+0)
  have h1:=hg (A+1)
  have h2:=hg (A+2)
  exact⟨show 256*(256*(256*0+g (A+0))+g (A+1))+g (A+2)<_ by omega,fun h=>absurd h (by decide)⟩
 |k+4,h=>absurd h (by omega)
def c7H(W0 w w':World)(v:Value)(N A:Nat)(ok:Bool)(g:Nat→Nat)(s:Nat)(e:Ending):Prop:=
 (A+s≤N∧e=.returned (iV (gB g A s:Nat))∧PS W0 w' v N (A+s) ok∧Off (fun k=>k=W0.heap.size+1∨k=W0.heap.size+1+1) w w')∨
 (N<A+s∧e=.returned (iV 0)∧PS W0 w' v N N false∧Off (fun k=>k=W0.heap.size+1∨k=W0.heap.size+1+1) w w')
theorem b9S(s b o cap N A:Nat)(ok:Bool)(g:Nat→Nat)(W0 w:World)(hs:s≤3)(hy:cA W0 (.slice (some (aD b o)) N cap) N g)(hc: ∀i,i<N→W0.cell? (aD b (o+i))=some (.int .u8 (g i:Nat)))(h:PS W0 w (.slice (some (aD b o)) N cap) N A ok):
  Calls prog 98 #[iV s,.pointer (some (aD (W0.heap.size+1) 0)),.pointer (some (aD W0.heap.size 0)),.pointer (some (aD (W0.heap.size+1+1) 0))] w fun e w'=>c7H W0 w w' (.slice (some (aD b o)) N cap) N A ok g s e:=by
 have hN:=hy.len;have hg:=hy.bd;have hA:=h.le;go_enter func98,ntmps98
 go_wp2_with fail;go_loopw [6,7] (fun y x wr=> ∃k:Nat,k≤s∧A+k≤N∧x=iV k∧y=iV (gB g A k:Nat)∧PS W0 wr (.slice (some (aD b o)) N cap) N (A+k) ok∧Off (fun k=>k=W0.heap.size+1∨k=W0.heap.size+1+1) w wr) (fun _ x _=>s-(intOf x).toNat)
 case atStart=>exact⟨0,c9D _,hA,rfl,rfl,h,Off.refl _ _⟩
 case round=>
  obtain⟨k,hk,A3,rfl,rfl,hp,ho⟩:=hrel;have c0:=hp.at_;have c1:=hp.b_;have c2:=hp.ok_;have f0:=hp.fa;have f1:=hp.fo;have hv:=b4B hg A k (by omega);by_cases A6:k<s
  ·have A4:(k:Int)<(s:Int):=by omega
   by_cases A1:A+k<N
   ·have A2:((A+k:Nat):Int)<(N:Int):=by omega
    have A0: ¬(N:Int)≤((A+k:Nat):Int):=by omega
    have t:=(hp.bel.cell (p:=⟨b,o+(A+k),none⟩) (World.block_lt_of_cell? _ _ (hc (A+k) A1))).trans (hc (A+k) A1);have gk:=hg (A+k);have HV:Hid (gB g A (k+1)=256*gB g A k+g (A+k)):=rfl;have HP:Hid (∀a:Int,a=((A+k:Nat):Int)+1→PS W0 (wr.setCell (aD (W0.heap.size+1) 0) (iV a)) (.slice (some (aD b o)) N cap) N (A+(k+1)) ok):=fun a e=>hp.setAt (by omega) (by omega);have HO:Hid (∀a,Off (fun k=>k=W0.heap.size+1∨k=W0.heap.size+1+1) w (wr.setCell (aD (W0.heap.size+1) 0) a)):=fun a=>ho.set (p:=⟨W0.heap.size+1,0,none⟩) (Or.inl rfl) a;have A5:=hv.2 (by omega);obtain⟨q,hq⟩: ∃q,A+k=q:=⟨_,rfl⟩;generalize gB g A k=n at hv A5 HV;clear hc hp h ho;rw[hq]at c0 t A1 A2 A0 gk HV HP;generalize g q=x at t gk HV;have HK:=hd8 hq;clear hq;go_wp2_with fail;refine⟨⟨k+1,by omega,by have:=HK.out;omega,by go_num,cB (by rw[HV.out];omega),HP.out _ rfl,HO.out _⟩,by simp[intOf];omega⟩
   ·obtain⟨q,hq⟩: ∃q,A+k=q:=⟨_,rfl⟩
    have HR:Hid (c7H W0 w (wr.setCell (aD (W0.heap.size+1+1) 0) (.bool false)) (.slice (some (aD b o)) N cap) N A ok g s (.returned (iV 0))):=Or.inr ⟨by omega,rfl,by
     have h3:=hp.setNo;rw[show A+k=N by omega]at h3
     exact h3,ho.set (p:=⟨W0.heap.size+1+1,0,none⟩) (Or.inr rfl) _⟩
    rw[hq]at c0;have A0:(N:Int)≤(q:Int):=by omega
    clear hc hp h ho hq;go_wp2_with fail;go_ret
    exact HR.out
  ·obtain rfl:k=s:=by omega
   have HR:Hid (c7H W0 w wr (.slice (some (aD b o)) N cap) N A ok g k (.returned (iV (gB g A k:Nat)))):=Or.inl ⟨A3,rfl,hp,ho⟩;clear hc hp h ho;go_wp2_with fail;go_ret
   exact HR.out
def bl(g:Nat→Nat)(N:Nat):List Nat:=(List.range N).map g
theorem kU(g:Nat→Nat)(N:Nat):(bl g N).length=N:=by simp[bl]
theorem mV(g:Nat→Nat)(h:i<N):(bl g N)[i]?=some (g i):=by simp[bl,h]
theorem a8W{g:Nat→Nat}(hg:Bd g)(N:Nat):Evt.bP (bl g N):=fun x hx=>by
 obtain⟨k,_,rfl⟩:=d0G.1 hx
 exact hg k
theorem jB(g:Nat→Nat)(h:A<N):(bl g N).drop A=g A::(bl g N).drop (A+1):=by
 have hl:A<(bl g N).length:=by rw[kU];exact h
 rw[d2L hl];congr 1;have:=mV g h;rw[c9F hl,Option.some.injEq]at this;exact this
theorem lZ(g:Nat→Nat)(h:N≤A):(bl g N).drop A=[]:=List.drop_eq_nil_of_le (by rw[kU];exact h)
theorem mD(g:Nat→Nat)(h:A+1≤N):Evt.num 1 0 ((bl g N).drop A)=some (gB g A 1,(bl g N).drop (A+1)):=by
 rw[jB g (by omega),Evt.c3S];show _=some (256*0+g A,_);rw[d1U,c9G]
theorem a4X(g:Nat→Nat)(h:N<A+1):Evt.num 1 0 ((bl g N).drop A)=none:=by
 rw[lZ g (by omega)];rfl
theorem zL(g:Nat→Nat)(h:A+3≤N):Evt.num 3 0 ((bl g N).drop A)=some (gB g A 3,(bl g N).drop (A+3)):=by
 rw[jB g (by omega),jB g (show A+1<N by omega),jB g (show A+1+1<N by omega)];rfl
theorem b3X(g:Nat→Nat)(h:N<A+3):Evt.num 3 0 ((bl g N).drop A)=none:=by
 by_cases h1:A<N
 ·rw[jB g h1];by_cases h2:A+1<N
  ·rw[jB g h2,lZ g (by omega)];rfl
  ·rw[lZ g (by omega)];rfl
 ·rw[lZ g (by omega)];rfl
def c0W(g:Nat→Nat)(A:Nat):List Nat:=bl (fun k=>g (A+1+k)) (g A)
theorem b6I(g:Nat→Nat)(h:A+n≤N):((bl g N).drop A).take n=bl (fun k=>g (A+k)) n:=by
 apply d1I;intro i;rw[d0C];by_cases hi:i<n
 ·rw[if_pos hi,d0J,mV g (by omega),mV _ hi]
 ·rw[if_neg hi,c9Z (by rw[kU];omega)]
theorem a4D{f:Nat→Nat}(hf:Bd f)(n:Nat):nb (uJ f n)=bl f n:=by
 unfold nb bl;rw[←d2C];unfold uJ;rw[a8R,List.map_map];apply d1H;intro k _;have:=hf k;show(UInt8.ofNat (f k)).toNat=f k;rw[UInt8.toNat_ofNat'];omega
theorem b6X{g:Nat→Nat}(h:A+5+g A≤N):Evt.qX ((bl g N).drop A)=some (⟨c0W g A,(g (A+1+g A):Nat),(gB g (A+2+g A) 3:Nat)⟩,(bl g N).drop (A+5+g A)):=by
 unfold Evt.qX;rw[mD g (by omega)];have e1:gB g A 1=g A:=by
  show 256*0+g (A+0)=_;rw[d1U,c9G,d0X]
 rw[e1];show(if ((bl g N).drop (A+1)).length<g A then none else _)=_;rw[if_neg (by rw[d0A,kU];omega),List.drop_drop,mD g (by omega)];have e2:gB g (A+1+g A) 1=g (A+1+g A):=by
  show 256*0+g (A+1+g A+0)=_;rw[d1U,c9G,d0X]
 rw[e2];show(match Evt.num 3 0 ((bl g N).drop (A+1+g A+1))with|none=>none|some (m,r'')=>some ((⟨((bl g N).drop (A+1)).take (g A),((g (A+1+g A):Nat):Int),(m:Int)⟩:Evt.Ev),r''))=_;rw[show A+1+g A+1=A+2+g A by omega,zL g (by omega),b6I g (by omega),show A+2+g A+3=A+5+g A by omega];rfl
theorem a1E{g:Nat→Nat}(h:N<A+5+g A∨N≤A):Evt.qX ((bl g N).drop A)=none:=by
 unfold Evt.qX;by_cases h1:A+1≤N
 ·rw[mD g h1];have e1:gB g A 1=g A:=by
   show 256*0+g (A+0)=_;rw[d1U,c9G,d0X]
  rw[e1];show(if ((bl g N).drop (A+1)).length<g A then none else match Evt.num 1 0 (((bl g N).drop (A+1)).drop (g A))with|none=>none|some (k,r')=>match Evt.num 3 0 r' with|none=>none|some (m,r'')=>some ((⟨((bl g N).drop (A+1)).take (g A),(k:Int),(m:Int)⟩:Evt.Ev),r''))=none;by_cases h2:((bl g N).drop (A+1)).length<g A
  ·rw[if_pos h2]
  ·rw[if_neg h2,List.drop_drop];rw[d0A,kU]at h2;by_cases h3:A+1+g A+1≤N
   ·rw[mD g h3];show(match Evt.num 3 0 ((bl g N).drop (A+1+g A+1))with|none=>none|some (m,r'')=>some ((⟨((bl g N).drop (A+1)).take (g A),((gB g (A+1+g A) 1:Nat):Int),(m:Int)⟩:Evt.Ev),r''))=none;rw[b3X g (by omega)]
   ·rw[a4X g (by omega)]
 ·rw[a4X g (by omega)]
theorem bC(h:w.ownsRow N t s v n xs)(ho:Off S w w')(hS: ∀g,v.ownBlock=some g→ ¬S g):w'.ownsRow N t s v n xs:=by
 have A2:=h.lt;obtain⟨hl,h⟩:=h;refine⟨hl,h.imp id ?_⟩;rintro⟨g,A0,A1,rfl,hN,hg,hr⟩;refine⟨g,A0,A1,rfl,hN,?_,hr⟩;rw[ho.block g (A2 g rfl).2 (hS g rfl)];exact hg
theorem iY(h:w.ownsRow N t s v n xs)(hg:v.ownBlock=some g): ∃cur,w.heap[g]?=some (.cells cur t (0,0)):=by
 rcases h.2 with⟨rfl,_⟩|⟨g',A0,cur,rfl,_,h1,_⟩
 ·simp[Value.ownBlock]at hg
 ·simp[Value.ownBlock]at hg;subst hg;exact⟨cur,h1⟩
theorem c5F{N':Nat}{t':TypeId}{s':Nat}{n':Nat}{xs':List Value}(h:w.ownsRow N t s v n xs)(h':w.ownsRow N' t' s' v' n' xs')(ht:t≠t'): ∀g,v.ownBlock=some g→ ¬v'.ownBlock=some g:=fun g hg hg'=>by
 obtain⟨c,e1⟩:=iY h hg
 obtain⟨c',e2⟩:=iY h' hg'
 rw[e1]at e2
 cases e2
 exact ht rfl
theorem cH.off{es:List EvC}(h:cH w N v es)(ho:Off S w w')(hS: ∀g,v.ownBlock=some g→ ¬S g):cH w' N v es:=⟨bC h.1 ho hS,h.2⟩
theorem cI{row:Option Nat}(h:w.grownBy w' row):Off (fun k=>row=some k) w w':=⟨h.os,h.tape,h.output,h.size,fun k hk hn=>h.block k hk (fun e=>hn e.symm)⟩
theorem dU.off{a b:Value}(h:dU w p a b)(ho:Off S w w')(hS: ¬S p):dU w' p a b:=by
 have hp:p<w.heap.size:=World.block_lt_of_cell? _ _ h.c0;have hb:=ho.block p hp hS;exact⟨(World.cell?_of_block (w:=w) (a:=⟨p,0,none⟩) hb).trans h.c0,(World.cell?_of_block (w:=w) (a:=⟨p,1,none⟩) hb).trans h.c1,fun i=>(World.frozen?_of_block (w:=w) (a:=⟨p,i,none⟩) hb).trans (h.fr i)⟩
structure mZ(w:World)(p:Nat)(a b c:Value):Prop where
 c0:w.cell? (aD p 0)=some a
 c1:w.cell? (aD p 1)=some b
 c2:w.cell? (aD p 2)=some c
 fr: ∀i,w.frozen? (aD p i)=false
theorem c2N(w:World)(t:TypeId)(a b c:Value):mZ (w.alloc (.cells #[a,b,c] t)) w.heap.size a b c:=by
 have hr:=World.rowIs_alloc w #[a,b,c] t (fun k=>#[a,b,c].getD k a) (fun i hi=>by simp only[Array.getElem?_eq_getElem hi,Array.getD,hi,dif_pos];rfl);exact⟨hr.cell (i:=0) (by simp),hr.cell (i:=1) (by simp),hr.cell (i:=2) (by simp),fun i=>hr.frozen i⟩
theorem mZ.off{a b c:Value}(h:mZ w p a b c)(ho:Off S w w')(hS: ¬S p):mZ w' p a b c:=by
 have hp:p<w.heap.size:=World.block_lt_of_cell? _ _ h.c0;have hb:=ho.block p hp hS;exact⟨(World.cell?_of_block (w:=w) (a:=⟨p,0,none⟩) hb).trans h.c0,(World.cell?_of_block (w:=w) (a:=⟨p,1,none⟩) hb).trans h.c1,(World.cell?_of_block (w:=w) (a:=⟨p,2,none⟩) hb).trans h.c2,fun i=>(World.frozen?_of_block (w:=w) (a:=⟨p,i,none⟩) hb).trans (h.fr i)⟩
theorem mZ.set0{a b c:Value}(h:mZ w p a b c)(x:Value):mZ (w.setCell (aD p 0) x) p x b c:=by
 have c0:=h.c0;have c1:=h.c1;have c2:=h.c2;exact⟨by go_simp,by go_simp,by go_simp,fun i=>by have:=h.fr i;go_simp⟩
theorem mZ.set1{a b c:Value}(h:mZ w p a b c)(x:Value):mZ (w.setCell (aD p 1) x) p a x c:=by
 have c0:=h.c0;have c1:=h.c1;have c2:=h.c2;exact⟨by go_simp,by go_simp,by go_simp,fun i=>by have:=h.fr i;go_simp⟩
theorem mZ.set2{a b c:Value}(h:mZ w p a b c)(x:Value):mZ (w.setCell (aD p 2) x) p a b x:=by
 have c0:=h.c0;have c1:=h.c1;have c2:=h.c2;exact⟨by go_simp,by go_simp,by go_simp,fun i=>by have:=h.fr i;go_simp⟩
theorem dU.set1{a b:Value}(h:dU w p a b)(x:Value):dU (w.setCell (aD p 1) x) p a x:=by
 have c0:=h.c0;have c1:=h.c1;exact⟨by go_simp,by go_simp,fun i=>by have:=h.fr i;go_simp⟩
theorem Off.past{T:Nat→Prop}{a b c:World}(h:Off S a b)(k:Off T b c)(hT: ∀y,T y→y<a.heap.size→S y):Off S a c:=
 ⟨k.os.trans h.os,k.tape.trans h.tape,k.output.trans h.output,c9E h.size k.size,fun i hi hs=>(k.block i (c9P hi h.size) (fun q=>hs (hT i q hi))).trans (h.block i hi hs)⟩
theorem aG(w:World)(a:Addr)(x:Value):Off (fun k=>k=a.block) w (w.setCell a x):=(Off.refl (fun k=>k=a.block) w).set (p:=a) rfl x
def upd{α:Type}(Q:Nat→α)(k:Nat)(e:α)(i:Nat):α:=if i=k then e else Q i
theorem bM{α:Type}(Q:Nat→α)(k:Nat)(e:α):upd Q k e k=e:=if_pos rfl
theorem aW{α:Type}(Q:Nat→α){k:Nat}(e:α)(h:i≠k):upd Q k e i=Q i:=if_neg h
theorem gC{a:Nat}(h:a≠b):(⟨g,a,none⟩:Addr)≠(aD g b):=fun e=>by
 cases e
 exact h rfl
theorem lB(h:w.ownsRow N t s v n xs)(hg:v.ownBlock=some g)(i:Nat):w.frozen? (aD g i)=false:=by
 obtain⟨A0,e⟩:=iY h hg;have hr:w.rowIs g t A0.size (fun j=>A0.getD j nS):=⟨A0,e,rfl,fun i hi=>by simp[hi]⟩;exact hr.frozen i
theorem mP(z:Array Value)(n j:Nat)(hj:j<n)(u:Value)(hu:z[j%z.size]! =u):(madeCells z n).toList[j]?=some u:=by
 simp[madeCells,hj,hu]
def a2C(l:List Evt.Bat):Option (List Evt.Bat×List Nat)→Option (List Evt.Bat×List Nat)
 |none=>none
 |some (l',r)=>some (l++l',r)
def yW(l:List Evt.Ev):Option (List Evt.Ev×List Nat)→Option (List Evt.Ev×List Nat)
 |none=>none
 |some (l',r)=>some (l++l',r)
theorem b0Y{b:Evt.Bat}(h:Evt.l6 r=some (b,r'))(l:List Evt.Bat):a2C l (Evt.eC (m+1) r)=a2C (l++[b]) (Evt.eC m r'):=by
 have e:Evt.eC (m+1) r=match Evt.eC m r' with|none=>none|some (l,r)=>some (b::l,r):=by
  show(match Evt.l6 r with|none=>none|some (e,r)=>match Evt.eC m r with|none=>none|some (l,r)=>some (e::l,r))=_;rw[h]
 rw[e];cases Evt.eC m r' with
 |none=>rfl
 |some p=>show some (l++b::p.1,p.2)=some (l++[b]++p.1,p.2);rw[c9X];rfl
theorem b1T(h:Evt.l6 r=none)(l:List Evt.Bat):a2C l (Evt.eC (m+1) r)=none:=by
 have e:Evt.eC (m+1) r=none:=by
  show(match Evt.l6 r with|none=>none|some (e,r)=>match Evt.eC m r with|none=>none|some (l,r)=>some (e::l,r))=_;rw[h]
 rw[e];rfl
theorem b1P{b:Evt.Ev}(h:Evt.qX r=some (b,r'))(l:List Evt.Ev):yW l (Evt.eF (m+1) r)=yW (l++[b]) (Evt.eF m r'):=by
 have e:Evt.eF (m+1) r=match Evt.eF m r' with|none=>none|some (l,r)=>some (b::l,r):=by
  show(match Evt.qX r with|none=>none|some (e,r)=>match Evt.eF m r with|none=>none|some (l,r)=>some (e::l,r))=_;rw[h]
 rw[e];cases Evt.eF m r' with
 |none=>rfl
 |some p=>show some (l++b::p.1,p.2)=some (l++[b]++p.1,p.2);rw[c9X];rfl
theorem xJ(h:Evt.qX r=none)(l:List Evt.Ev):yW l (Evt.eF (m+1) r)=none:=by
 have e:Evt.eF (m+1) r=none:=by
  show(match Evt.qX r with|none=>none|some (e,r)=>match Evt.eF m r with|none=>none|some (l,r)=>some (e::l,r))=_;rw[h]
 rw[e];rfl
theorem a2N{g:Nat→Nat}(h:A+4≤N)(hm:g (A+3)=m):Evt.l6 ((bl g N).drop A)=match Evt.eF m ((bl g N).drop (A+4))with|none=>none|some (l,r)=>some (⟨(gB g A 3:Nat),l⟩,r):=by
 unfold Evt.l6;rw[zL g (by omega)];show(match Evt.num 1 0 ((bl g N).drop (A+3))with|none=>none|some (m,r)=>match Evt.eF m r with|none=>none|some (l,r)=>some ((⟨((gB g A 3:Nat):Int),l⟩:Evt.Bat),r))=_;rw[mD g (by omega)];have e1:gB g (A+3) 1=m:=by
  show 256*0+g (A+3)=_;rw[d1U,c9G,hm]
 rw[e1]
theorem b5C{g:Nat→Nat}(h:N<A+4):Evt.l6 ((bl g N).drop A)=none:=by
 unfold Evt.l6;by_cases h1:A+3≤N
 ·rw[zL g h1];show(match Evt.num 1 0 ((bl g N).drop (A+3))with|none=>none|some (m,r)=>match Evt.eF m r with|none=>none|some (l,r)=>some ((⟨((gB g A 3:Nat):Int),l⟩:Evt.Bat),r))=_;rw[a4X g (by omega)]
 ·rw[b3X g (by omega)]
theorem a3T(n:Nat)(w:World)(hn:n<16777216):
  Calls prog 93 #[iV n] w fun e w'=>e=.returned (.slice (some (aD w.heap.size 0)) 3 3)∧w'=w.alloc (.cells #[.int .u8 ((n:Int)/65536),.int .u8 ((n:Int)/256%256),.int .u8 ((n:Int)%256)] 5):=by
 go_enter func93,ntmps93
 go_wp2_with fail;go_ret
 exact⟨rfl,rfl⟩
def clB(bs:List Nat):List Value:=bs.map fun x=> .int .u8 (x:Nat)
def cT(w:World)(N:Nat)(v:Value)(bs:List Nat):Prop:=w.ownsRow N 5 1 v bs.length (clB bs)
theorem cT.bE(h:cT w N v bs)(hb:Bl w w'):cT w' N v bs:=aK h hb
theorem cT.off(h:cT w N v bs)(ho:Off S w w')(hS: ∀g,v.ownBlock=some g→ ¬S g):cT w' N v bs:=bC h ho hS
theorem cT.more{cs:List Nat}{ns:List Value}(h:w.ownsRow N 5 1 v (bs.length+m) (clB bs++ns))(hn:ns=clB cs)(hm:cs.length=m):cT w N v (bs++cs):=by
 unfold cT
 rw[c9I,hm]
 unfold clB at hn h⊢
 rw[c9U,←hn]
 exact h
theorem cT.byts(h:cT w N v bs)(hb:Evt.bP bs):cA w v bs.length (fun k=>bs.getD k 0):=by
 have A1:Bd (fun k=>bs.getD k 0):=fun k=>by
  show bs.getD k 0<256
  by_cases hk:k<bs.length
  ·have:bs.getD k 0∈bs:=by simp[List.getD,hk]
   exact hb _ this
  ·simp[List.getD,hk]
 by_cases hn:1≤bs.length
 ·obtain⟨g,A0,rfl,_,h1,h2,_,hc⟩:=dC h hn
  refine⟨A1,some ⟨g,0,none⟩,A0,rfl,h1,h2,fun i hi=>⟨g,0,rfl,?_⟩⟩
  rw[c9G]
  refine hc i _ ?_
  simp[clB,List.getD,hi]
 ·obtain rfl:bs=[]:=d0N (by omega)
  rcases h.2 with⟨rfl,_⟩|⟨g,A0,A2,rfl,_,_,hc,hm,_⟩
  ·exact⟨A1,none,0,rfl,c9C _,c9D _,fun i hi=>absurd hi (c9L i)⟩
  ·exact⟨A1,_,A0,rfl,hc,hm,fun i hi=>absurd hi (c9L i)⟩
theorem a2O: ∀a b:List UInt8,Op.bytesLess a b=Vw.lt (a.map fun x=>x.toNat) (b.map fun x=>x.toNat)
 |[],[]=>rfl
 |_::_,[]=>rfl
 |[],_::_=>rfl
 |a::r,b::s=>by
  show(decide (a<b)||(a==b&&Op.bytesLess r s))=(decide (a.toNat<b.toNat)||(decide (a.toNat=b.toNat)&&Vw.lt (r.map fun x=>x.toNat) (s.map fun x=>x.toNat)))
  rw[a2O r s]
  have h1:decide (a<b)=decide (a.toNat<b.toNat):=decide_eq_decide.2 UInt8.lt_iff_toNat_lt
  have h2:(a==b)=decide (a.toNat=b.toNat):=by
   rw[Bool.eq_iff_iff,beq_iff_eq,decide_eq_true_iff];exact UInt8.toNat_inj.symm
  rw[h1,h2]
theorem wW(s t:ByteArray):Op.bytesLess s.toList t.toList=Vw.lt (nb s) (nb t):=by
 rw[a2O,d2C,d2C];rfl
theorem nD(s t:ByteArray):(s.toList==t.toList)=decide (nb s=nb t):=by
 rw[Bool.eq_iff_iff,beq_iff_eq,decide_eq_true_iff];exact b1O.symm
def b6F(w:World)(b o:Nat)(a:Vw.Acc):Prop:= ∃s:ByteArray,s.size≤9223372036854775807∧nb s=a.name∧w.cell? (aD b o)=some (.string s)∧w.cell? (aD b (o+1))=some (iV a.sum)∧w.cell? (aD b (o+2))=some (iV a.cnt)∧w.cell? (aD b (o+3))=some (.bool a.opn)
theorem b6F.bE{o:Nat}{a:Vw.Acc}(h:b6F w b o a)(hb:Bl w w'):b6F w' b o a:=by
 obtain⟨s,h1,h2,c0,c1,c2,c3⟩:=h;have hp:b<w.heap.size:=World.block_lt_of_cell? _ _ c0;exact⟨s,h1,h2,(hb.cell (p:=⟨b,o,none⟩) hp).trans c0,(hb.cell (p:=⟨b,o+1,none⟩) hp).trans c1,(hb.cell (p:=⟨b,o+2,none⟩) hp).trans c2,(hb.cell (p:=⟨b,o+3,none⟩) hp).trans c3⟩
def bG(w:World)(v:Value)(l:List Vw.Acc):Prop:= ∃A cap,v=.slice A l.length cap∧l.length≤cap∧cap≤maxLen∧ ∀i a,l[i]?=some a→ ∃b o,A=some (aD b o)∧b6F w b (o+i*4) a
theorem bG.bE{l:List Vw.Acc}(h:bG w v l)(hb:Bl w w'):bG w' v l:=by
 obtain⟨A,A0,hv,h1,h2,h3⟩:=h;refine⟨A,A0,hv,h1,h2,fun i e he=>?_⟩;obtain⟨b,o,hA,hi⟩:=h3 i e he;exact⟨b,o,hA,hi.bE hb⟩
theorem bG.nil(w:World):bG w nS []:=⟨none,0,rfl,c9C _,c9D _,fun _ _ he=>(by cases he)⟩
theorem bG.sE{l:List Vw.Acc}(h:bG w v l): ∃A C,v=.slice A l.length C:=by
 obtain⟨A,C,hv,_⟩:=h;exact⟨A,C,hv⟩
theorem bG.len{l:List Vw.Acc}(h:bG w v l):l.length≤9223372036854775807:=by
 obtain⟨A,C,_,h1,h2,_⟩:=h;unfold maxLen at h2;omega
theorem bG.some{l:List Vw.Acc}(h:bG w v l)(hn:1≤l.length): ∃b o cap,v=.slice (some (aD b o)) l.length cap∧l.length≤cap∧cap≤9223372036854775807∧ ∀i e,l[i]?=some e→b6F w b (o+i*4) e:=by
 obtain⟨A,cap,hv,h1,h2,h3⟩:=h;obtain⟨b,o,rfl,_⟩:=h3 0 l[0] (c9F hn);refine⟨b,o,cap,hv,h1,h2,fun i e he=>?_⟩;obtain⟨b',o',e1,e2⟩:=h3 i e he;cases e1
 exact e2
theorem bG.off{l:List Vw.Acc}(h:bG w v l)(ho:Off S w w')(hS: ∀g,v.ownBlock=Option.some g→ ¬S g):bG w' v l:=by
 obtain⟨A,A0,rfl,h1,h2,h3⟩:=h;refine⟨A,A0,rfl,h1,h2,fun i e he=>?_⟩;obtain⟨b,o,rfl,s,q1,q2,c0,c1,c2,c3⟩:=h3 i e he;have hp:b<w.heap.size:=World.block_lt_of_cell? _ _ c0;have hb:=ho.block b hp (hS b rfl);exact⟨b,o,rfl,s,q1,q2,(World.cell?_of_block (w:=w) (a:=⟨b,o+i*4,none⟩) hb).trans c0,(World.cell?_of_block (w:=w) (a:=⟨b,o+i*4+1,none⟩) hb).trans c1,(World.cell?_of_block (w:=w) (a:=⟨b,o+i*4+2,none⟩) hb).trans c2,(World.cell?_of_block (w:=w) (a:=⟨b,o+i*4+3,none⟩) hb).trans c3⟩
def kN(N:Nat)(v:Value):Prop:= ∀g,v.ownBlock=some g→N≤g
theorem xY(N:Nat):kN N nS:=fun _ hg=>(by cases hg)
theorem kN.mono{M:Nat}(h:kN N v)(hM:M≤N):kN M v:=fun g hg=>c9E hM (h g hg)
def AcV(v:Value)(a:Vw.Acc):Prop:= ∃s:ByteArray,s.size≤9223372036854775807∧nb s=a.name∧v=.agg #[.string s,iV a.sum,iV a.cnt,.bool a.opn]
theorem Tryz.infoAccount:(Tryz.prog.info? 93).map (fun i=>(i.zero,i.size,i.bytes))=some (some (.agg #[.string ByteArray.empty,iV 0,iV 0,.bool false]),4,40):=by kernel_rfl
abbrev AcC:=ByteArray×Int×Int×Bool
def aP(e:AcC):List Value:=[.string e.1,iV e.2.1,iV e.2.2.1,.bool e.2.2.2]
def gG(e:AcC):Vw.Acc:=⟨nb e.1,e.2.1,e.2.2.1,e.2.2.2⟩
def eV(w:World)(N:Nat)(v:Value)(es:List AcC):Prop:=w.ownsRow N 93 4 v es.length (es.flatMap aP)∧ ∀e,e∈es→e.1.size≤9223372036854775807
theorem eV.nil(w:World)(N:Nat):eV w N nS []:=⟨World.ownsRow_nil w N _ 4,fun e he=>by cases he⟩
theorem eV.bE{es:List AcC}(h:eV w N v es)(hb:Bl w w'):eV w' N v es:=⟨aK h.1 hb,h.2⟩
theorem eV.past{es:List AcC}(h:eV w N v es):kN N v:=fun g hg=>(h.1.lt g hg).1
theorem eV.accs{es:List AcC}(h:eV w N v es):bG w v (es.map gG):=by
 by_cases hn:1≤es.length
 ·obtain⟨g,A0,rfl,_,h1,h2,_,hc⟩:=dC h.1 hn;refine⟨some (aD g 0),A0,by rw[c9M],by rw[c9M];exact h1,h2,fun i e he=>?_⟩;rw[c9S]at he;obtain⟨x,hx,rfl⟩:=c9J.1 he;have hf:=fun t ht=>dQ aP 4 es (fun _ _=>rfl) i t ht x hx;exact⟨g,0,rfl,x.1,h.2 x (c9N hx),rfl,by rw[c9G];exact hc _ _ (hf 0 (by decide)),by rw[c9G];exact hc _ _ (hf 1 (by decide)),by rw[c9G];exact hc _ _ (hf 2 (by decide)),by rw[c9G];exact hc _ _ (hf 3 (by decide))⟩
 ·obtain rfl:es=[]:=d0N (by omega);rcases h.1.2 with⟨rfl,_⟩|⟨g,A0,A1,rfl,_,_,hc,hm,_⟩
  ·exact bG.nil w
  ·exact⟨_,A0,rfl,hc,hm,fun i e he=>by cases he⟩
theorem a1C(s s':ByteArray)(k k' m m':Int)(b b':Bool)(w:World):(Op.equalIn 10000 93 (.agg #[.string s,iV k,iV m,.bool b]) (.agg #[.string s',iV k',iV m',.bool b'])).run prog w=.ok (s.toList==s'.toList&&(k==k'&&(m==m'&&b==b'))) w:=by
 have u3:=underlying3;have u9:=underlying9;have u4:=underlying4;have a3:=Tryz.isAgg3;have z3:=Tryz.sizeOf3;have a9:=Tryz.isAgg9;have z9:=Tryz.sizeOf9;have a4:=Tryz.isAgg4;have z4:=Tryz.sizeOf4;have hS:prog.underlying 93=some (.struct (prog.fieldsOf 93)):=by kernel_rfl
 have hp:prog.stoodInHeld 93=false:=by kernel_rfl
 rw[show(10000:Nat)=9999+1 from rfl,run_equalIn_agg w 9999 93 _ _ hS hp];simp only[Program.fieldsOf,underlying93];go_simp
 by_cases h1:s.toList=s'.toList<;>by_cases h2:k=k'<;>by_cases h3:m=m'<;>by_cases h4:b=b'<;>simp[h1,h2,h3,h4]
theorem c7S{a a':Vw.Acc}(h:AcV v a)(h':AcV v' a'): ∃y:Bool,(y=true↔a=a')∧(∀w,(binOp .eql 93 v v').run prog w=.ok (.bool y) w)∧ ∀w,(binOp .neq 93 v v').run prog w=.ok (.bool !y) w:=by
 obtain⟨s,_,h2,rfl⟩:=h;obtain⟨s',_,A0,rfl⟩:=h';refine⟨s.toList==s'.toList&&(a.sum==a'.sum&&(a.cnt==a'.cnt&&a.opn==a'.opn)),?_,fun w=>?_,fun w=>?_⟩
 ·rw[Bool.and_eq_true,Bool.and_eq_true,Bool.and_eq_true,beq_iff_eq,beq_iff_eq,beq_iff_eq,beq_iff_eq,←b1O,h2,A0];obtain⟨n,k,m,b⟩:=a;obtain⟨n',k',m',b'⟩:=a';simp
 ·rw[run_eql_struct,a1C];rfl
 ·rw[run_neq_struct,a1C];rfl
theorem xS(s:ByteArray)(k m:Int)(b:Bool)(w:World):(Instr.field 93 (.agg #[.string s,iV k,iV m,.bool b]) 2).run prog w=.ok (iV m) w:=by
 have u:=underlying93;have a3:=Tryz.isAgg3;have z3:=Tryz.sizeOf3;unfold Instr.field;simp[run_underlying u,asAgg,part,a3,z3]
structure pG(w:World)(p:Nat)(a b c d:Value):Prop where
 c0:w.cell? (aD p 0)=some a
 c1:w.cell? (aD p 1)=some b
 c2:w.cell? (aD p 2)=some c
 c3:w.cell? (aD p 3)=some d
 fr: ∀i,w.frozen? (aD p i)=false
theorem iJ(w:World)(t:TypeId)(a b c d:Value):pG (w.alloc (.cells #[a,b,c,d] t)) w.heap.size a b c d:=by
 have hr:=World.rowIs_alloc w #[a,b,c,d] t (fun k=>#[a,b,c,d].getD k a) (fun i hi=>by simp only[Array.getElem?_eq_getElem hi,Array.getD,hi,dif_pos];rfl);exact⟨hr.cell (i:=0) (by simp),hr.cell (i:=1) (by simp),hr.cell (i:=2) (by simp),hr.cell (i:=3) (by simp),fun i=>hr.frozen i⟩
theorem pG.bE{a b c d:Value}(h:pG w p a b c d)(hb:Bl w w'):pG w' p a b c d:=by
 have hp:p<w.heap.size:=World.block_lt_of_cell? _ _ h.c0
 exact⟨(hb.cell (p:=⟨p,0,none⟩) hp).trans h.c0,(hb.cell (p:=⟨p,1,none⟩) hp).trans h.c1,(hb.cell (p:=⟨p,2,none⟩) hp).trans h.c2,(hb.cell (p:=⟨p,3,none⟩) hp).trans h.c3,fun i=>by
  rw[←h.fr i]
  exact World.frozen?_of_block (hb.block p hp)⟩
end Go.Proofs.YtmcaejooaaahdaaGreat
namespace Go.Proofs.YtmcaejooaaahdaaGreat.Sto
open Go.Proofs.Tryz
variable {A N b g i m n p s:Nat} {S:Nat→Prop} {W0 w w':World} {bs r r':List Nat} {s':ByteArray} {t:TypeId} {v v':Value} {xs:List Value}
open Evt (Ev Bat)
theorem b0V(k:Int)(l:List (List Nat))(ds:List aM)(i:Nat):((write k l 0 ds)[i]?).map aM.gone=(ds[i]?).map aM.gone:=by
 rw[kQ,Option.map_map];congr 1;funext d
 show(if d.gone then d else _:aM).gone=d.gone;by_cases q:d.gone=true
 ·rw[if_pos q]
 ·rw[if_neg q];exact(by simpa using q:d.gone=false).symm
end Go.Proofs.YtmcaejooaaahdaaGreat.Sto
