import Derived.Test.YtmcaejooaaahdaaGreatZ06
import Derived.Test.YtmcaejooaaahdaaGreatZ10
import Derived.Test.YtmcaejooaaahdaaGreatZ12
import Derived.Shelf.Spec.SlicesInsertGrow
import Derived.Laws.CopyRow
import Derived.Lib.AppendZerosOnto
import Derived.Lib.Overlaps
import Derived.Laws.CopyOwn
set_option maxHeartbeats 8000000
set_option maxRecDepth 100000
namespace Go.Proofs.YtmcaejooaaahdaaGreat
open Go.Proofs.Tryz
variable {L:Nat→Nat} {f:Nat→Nat→Nat} {n:Nat} {v:Value} {w:World}
open Go.ChangeShapes Go.WideShapes Go.ChangeAt Go.RowKit
structure Lls(w:World)(v:Value)(n:Nat)(L:Nat→Nat)(f:Nat→Nat→Nat):Prop where
 bd:Gf.Bd2 f
 lies: ∃(A:Option Addr) (cap:Nat),v=.slice A n cap∧n≤cap∧cap≤maxLen∧ ∀r,r<n→ ∃b o u,A=some (aD b o)∧w.cell? (aD b (o+r))=some u∧cA w u (L r) (f r)
theorem Lls.bE{w':World}(h:Lls w v n L f)(hb:Bl w w'):Lls w' v n L f:=by
 obtain⟨A,A0,hv,h1,h2,hr⟩:=h.lies;refine⟨h.bd,A,A0,hv,h1,h2,fun r hrn=>?_⟩;obtain⟨b,o,u,e1,e2,e3⟩:=hr r hrn;exact⟨b,o,u,e1,cB8 hb e2,e3.bE hb⟩
theorem Lls.sE(h:Lls w v n L f): ∃A C,v=.slice A n C:=by
 obtain⟨A,C,hv,_⟩:=h.lies;exact⟨A,C,hv⟩
theorem Lls.len(h:Lls w v n L f):n≤9223372036854775807:=by
 obtain⟨A,C,_,h1,h2,_⟩:=h.lies;unfold maxLen at h2;omega
theorem Lls.at{A:Option Addr}{C:Nat}(h:Lls w (.slice A n C) n L f){r:Nat}(hr:r<n): ∃b o R K,A=Option.some ⟨b,o,Option.none⟩∧w.cell? ⟨b,o+r,Option.none⟩=Option.some (.slice R (L r) K)∧cA w (.slice R (L r) K) (L r) (f r):=by
 obtain⟨A',C',hv,_,_,hc⟩:=h.lies;cases hv
 obtain⟨b,o,u,e1,e2,e3⟩:=hc r hr;obtain⟨R,K,rfl⟩: ∃R K,u=.slice R (L r) K:=by
  obtain⟨_,R,K,hv,_⟩:=e3;exact⟨R,K,hv⟩
 exact⟨b,o,R,K,e1,e2,e3⟩
theorem Lls.arg(h:Lls w v n L f):Arg w v n L f:=by
 obtain⟨A,C,rfl⟩:=h.sE;have A0: ∀r,r<n→ ∃q:Option Addr×Nat,∃b o,A=some (aD b o)∧w.cell? (aD b (o+r))=some (.slice q.1 (L r) q.2)∧cA w (.slice q.1 (L r) q.2) (L r) (f r):=fun r hr=>by
  obtain⟨b,o,R,K,e1,e2,e3⟩:=h.at hr;exact⟨(R,K),b,o,e1,e2,e3⟩
 obtain⟨q,hq⟩:=Deep.choose_lt A0;refine⟨h.bd,A,C,fun r=>(q r).1,fun r=>(q r).2,rfl,fun r hr=>?_⟩;obtain⟨b,o,e1,e2,e3⟩:=hq r hr;refine⟨b,o,e1,e2,fun k hk=>?_⟩;obtain⟨_,A',C',hv,_,_,hc⟩:=e3;cases hv
 exact hc k hk
open Go.RowKit
def Blk(w:World)(v:Value)(s h z:Int)(n:Nat)(f:Nat→Nat):Prop:= ∃d,v=.agg #[iV s,iV h,iV z,d]∧cA w d n f
def pk(E x:Nat):Nat:=if E=0 then x else 0
theorem nR{E:Nat}(h:E=0)(x:Nat):pk E x=x:=if_pos h
theorem nU{E:Nat}(h:E≠0)(x:Nat):pk E x=0:=if_neg h
def c1J(w:World)(N E:Nat)(v:Value)(m:Nat)(F:Nat→Nat):Prop:=(E=0∧kX w N v m F)∨(E≠0∧v=nS)
def a3W(s h z:Int)(n:Nat)(f:Nat→Nat):Nat→Nat:=Crc.enc s.toNat h.toNat z.toNat n f
theorem b2Z{s h z:Int}{f:Nat→Nat}(hf:Bd f)(e:Crc.aA s h z n=0):Bd (a3W s h z n f):=by
 have:=Crc.bN e;exact Crc.a4S (by omega) (by omega) (by omega) (by omega) hf
theorem a0T(v:Value)(s h z:Int)(n:Nat)(f:Nat→Nat)(w:World)(hx:Blk w v s h z n f):
  Calls prog 138 #[v] w fun e w'=> ∃v',e=.returned (.tuple #[v',iV (Crc.aA s h z n:Nat)])∧c1J w' w.heap.size (Crc.aA s h z n) v' (n+11) (a3W s h z n f)∧Bl w w':=by
 obtain⟨d,rfl,hd⟩:=hx;by_cases hE:Crc.aA s h z n=0
 ·have hi:=Crc.bN hE;obtain⟨S,rfl⟩:=d0I hi.1.1;obtain⟨H,rfl⟩:=d0I hi.1.2.2.1;obtain⟨Z,rfl⟩:=d0I hi.1.2.2.2.2.1;refine(c1D S H Z d n f w hd hE).mono ?_;rintro e w' ⟨v',rfl,hm,hb⟩;exact⟨v',by rw[hE];rfl,Or.inl ⟨hE,hm⟩,hb⟩
 ·obtain⟨_,A,A0,rfl,_⟩:=hd;refine(b8A s h z A n A0 w hE).mono ?_;rintro e w' ⟨rfl,hb⟩;exact⟨_,rfl,Or.inr ⟨hE,rfl⟩,hb⟩
theorem mK{E:Nat}(hE:E≠0)(a b c n:Nat){f:Nat→Nat}(hf:Bd f):Blk w (.agg #[iV 0,iV 0,iV 0,nS]) (pk E a:Nat) (pk E b:Nat) (pk E c:Nat) (pk E n) f:=by
 rw[nU hE,nU hE,nU hE,nU hE];exact⟨_,rfl,hf,none,0,rfl,c9C _,c9D _,fun i hi=>absurd hi (c9L i)⟩
theorem b7U(v:Value)(n:Nat)(g:Nat→Nat)(w:World)(hx:cA w v n g):
  Calls prog 120 #[v] w fun e w'=> ∃v',e=.returned (.tuple #[v',iV (Crc.aL g n:Nat)])∧
   Blk w' v' (pk (Crc.aL g n) (g 1):Nat) (pk (Crc.aL g n) (g 2):Nat) (pk (Crc.aL g n) (g 3*256+g 4):Nat) (pk (Crc.aL g n) (n-11)) (fun k=>g (k+7))∧Bl w w':=by
 have A3:=hx.bd;have A0:Bd (fun k=>g (k+7)):=fun k=>A3 _;by_cases hF:cW g n
 ·have hE:=Crc.nB hF;refine(b4Z v n g w hx hF).mono ?_;rintro e w' ⟨rfl,hb⟩;exact⟨_,by rw[hE];rfl,mK (by omega) _ _ _ _ A0,hb⟩
 ·have hn:12≤n:=by unfold cW at hF;omega
  obtain⟨b,o,A2,rfl,A1,_,_⟩:=hx.some (by omega);obtain⟨e,rfl⟩: ∃e,n=e+4:=⟨n-4,by omega⟩;by_cases hs:Crc.sum g e=Crc.oD g e
  ·have hE:Crc.aL g (e+4)=Crc.aA (g 1) (g 2) (g 3*256+g 4:Nat) (e-7):=by
    rw[Crc.nM hF (by rw[d2N];exact hs),show e+4-11=e-7 by omega]
   refine(zX b o (e+4) e A2 g w hx rfl (by omega) hF hs).mono ?_;rintro r w' ⟨v',rfl,hv,hb⟩;rw[←hE]at hv⊢;rw[show e+4-11=e-7 by omega];rcases hv with⟨h0,d,rfl,hd⟩|⟨h0,rfl⟩
   ·rw[nR h0,nR h0,nR h0,nR h0];exact⟨_,rfl,⟨d,rfl,hd.byts A0⟩,hb⟩
   ·exact⟨_,rfl,mK h0 _ _ _ _ A0,hb⟩
  ·have hE:Crc.aL g (e+4)=9:=Crc.pS hF (by rw[d2N];exact hs);refine(b0O b o e A2 g w hx A1 hF hs).mono ?_;rintro r w' ⟨rfl,hb⟩;exact⟨_,by rw[hE];rfl,mK (by omega) _ _ _ _ A0,hb⟩
theorem b0A(v:Value)(n:Nat)(g:Nat→Nat)(w:World)(hx:cA w v n g)(hE:Crc.aL g n=0):
  Calls prog 120 #[v] w fun e w'=> ∃d,e=.returned (.tuple #[.agg #[iV (g 1:Nat),iV (g 2:Nat),iV (g 3*256+g 4:Nat),d],iV 0])∧kX w' w.heap.size d (n-11) (fun k=>g (k+7))∧Bl w w':=by
 have hF: ¬cW g n:=fun q=>by
  rw[Crc.nB q]at hE;cases hE
 have hn:12≤n:=by unfold cW at hF;omega
 obtain⟨b,o,A0,rfl,A1,_,_⟩:=hx.some (by omega);obtain⟨e,rfl⟩: ∃e,n=e+4:=⟨n-4,by omega⟩;have hs:Crc.sum g e=Crc.oD g e:=Classical.byContradiction fun q=>by
  rw[Crc.pS hF (by rw[d2N];exact q)]at hE;cases hE
 have hW:Crc.aA (g 1) (g 2) (g 3*256+g 4:Nat) (e-7)=0:=by
  rw[Crc.nM hF (by rw[d2N];exact hs),show e+4-11=e-7 by omega]at hE;exact hE
 refine(zX b o (e+4) e A0 g w hx rfl (by omega) hF hs).mono ?_;rintro r w' ⟨v',rfl,hv,hb⟩;rw[show e+4-11=e-7 by omega];rcases hv with⟨_,d,rfl,hd⟩|⟨h0,_⟩
 ·exact⟨d,by rw[hW];rfl,hd,hb⟩
 ·exact absurd hW h0
theorem iZ{α β:Type}(f:α→List β)(m:Nat): ∀(l:List α) (i:Nat),(∀a,a∈l→(f a).length=m)→i≤l.length→(l.flatMap f).take (i*m)=(l.take i).flatMap f
 |_,0,_,_=>by simp
 |[],i+1,_,h=>absurd h (by simp)
 |x::l,i+1,hm,h=>by
  have hx:=hm x c9W
  rw[d0K,List.take_succ_cons,d0K,List.take_append,hx,d0F,List.take_of_length_le (by omega),show i*m+m-m=i*m by omega,iZ f m l i (fun a ha=>hm a (c9Y _ ha)) (by simpa using h)]
theorem kC{α β:Type}(f:α→List β)(m:Nat): ∀(l:List α) (i:Nat),(∀a,a∈l→(f a).length=m)→i≤l.length→(l.flatMap f).drop (i*m)=(l.drop i).flatMap f
 |_,0,_,_=>by simp
 |[],i+1,_,h=>absurd h (by simp)
 |x::l,i+1,hm,h=>by
  have hx:=hm x c9W
  rw[d0K,d2W,List.drop_append,hx,d0F,List.drop_eq_nil_of_le (by omega),d1C,show i*m+m-m=i*m by omega,kC f m l i (fun a ha=>hm a (c9Y _ ha)) (by simpa using h)]
theorem qY(c E xs:List Value)(p n m:Nat)(hE:c.take n=E)(hp:p≤n)(hc:n+m≤c.length)(hx:xs.length=m):
  ∃arr1,arr1=c.take (p+m)++(c.drop p).take (n-p)++c.drop (p+m+(n-p))∧arr1.length=c.length∧arr1.take p++xs++arr1.drop (p+m)=(E.take p++(xs++E.drop p))++c.drop (n+m):=by
 have h1:(c.drop p).take (n-p)=E.drop p:=by
  rw[←hE,List.drop_take]
 refine⟨_,rfl,?_,?_⟩
 ·simp;omega
 ·rw[h1,show p+m+(n-p)=n+m by omega];have e1:(c.take (p+m)++E.drop p++c.drop (n+m)).take p=E.take p:=by
   rw[c9X,List.take_append_of_le_length (by simp;omega),List.take_take,←hE,List.take_take,show min p (p+m)=min p n by omega]
  have e2:(c.take (p+m)++E.drop p++c.drop (n+m)).drop (p+m)=E.drop p++c.drop (n+m):=by
   rw[c9X,List.drop_append,List.drop_eq_nil_of_le (by simp;omega),d1C,c9K,show p+m-min (p+m) c.length=0 by omega,d2E]
  rw[e1,e2,c9X,c9X,c9X]
theorem Tryz.sizeAccount:(Tryz.prog.info? 93).map (·.size)=some 4:=by kernel_rfl
theorem j4(w:World)(ty:TypeId)(g o dLen dCap:Nat)(a:Addr)(sLen sCap n:Nat)(cur:Array Value)(cs:List Value)(hn:n=Nat.min sLen dLen)(hl:cs.length=n*4)
  (hg:w.heap[g]?=some (.cells cur 93 (0,0))) (hsrc: ∀j v,cs[j]?=some v→w.cell? (a.add j)=some v) (hfit:o+cs.length≤cur.size) (h1: ∀v∈cs,v.oneCell'=true):
  (Builtin.copy_ #[28,28] ty #[.slice (some (aD g o)) dLen dCap,.slice (some a) sLen sCap]).run prog w=.ok (goInt n) (w.setRow g (cur.toList.take o++cs++cur.toList.drop (o+cs.length)).toArray):=by
 have A0:=run_loadCells_list (P:=prog) w a cs hsrc;have A1:=run_storeCells_at prog g o 93 cs 0 cur w hg (by simpa using hfit) h1;have hu:=underlying28;cases hq:prog.info? 93 with
 |none=>
  have:=Tryz.sizeAccount;simp[hq]at this
 |some i=>
  have hi:i.size=4:=by
   have:=Tryz.sizeAccount;simpa [hq]using this
  simp[Builtin.copy_,run_underlying hu,Builtin.lenOf,Builtin.firstCells,sizeOf,typeInfo,hq,hi,←hn,←hl,A0,A1]
abbrev c0I(w:World)(vb:Nat)(x:AcC):Prop:=w.heap[vb]?=some (.cells (aP x).toArray 93 (0,0))
theorem a5D(g cap i vb:Nat)(cur:Array Value)(es:List AcC)(x:AcC)(w:World)(hi:i<es.length)(hcap:es.length+1≤cap)(hm:cap≤9223372036854775807)(hcs:cur.size=cap*4)
  (hg:w.heap[g]?=some (.cells cur 93 (0,0))) (htk:cur.toList.take (es.length*4)=es.flatMap aP) (hv:c0I w vb x) (hne:vb≠g):
  Calls prog 132 #[.slice (some (aD g 0)) es.length cap,iV i,.slice (some (aD vb 0)) 1 1] w fun e w'=>e=.returned (.slice (some (aD g 0)) (es.length+1) cap)∧ ∃arr:Array Value,w'=w.drew.setRow g arr∧arr.size=cap*4∧arr.toList.take ((es.length+1)*4)=(es.take i++x::es.drop i).flatMap aP:=by
 obtain⟨n,hn⟩: ∃n,n=es.length:=⟨_,rfl⟩;rw[←hn]at hi hcap htk⊢;have HN:=hd8 hn;clear hn;have Ah: ∀w,(Go.sizeOf 93).run prog w=.ok 4 w:=Tryz.sizeOf93;have Ag: ∀lb cb,(callFunc 156 #[.slice (some (aD vb 0)) 1 1,.slice (some ⟨g,(i+1)*4,none⟩) lb cb]).run prog w=.ok (.value (.bool false)) w:=fun lb cb=>by
  rw[run_callFunc_extern func156 (by kernel_rfl) (by kernel_rfl) (by kernel_rfl) (e:=Extern.SlicesOverlaps.overlaps #[28,28] #[4]) (by kernel_rfl),
   Lib.run_overlaps_apart w 28 4 93 underlying28 4 Ah (aD vb 0) ⟨g,(i+1)*4,none⟩ 1 1 lb cb hne 93 93 4 (cap*4) (by simp[World.shape?,hv,aP]) (by simp[World.shape?,hg,hcs]) (by omega) (by simp[World.frozen?,hv]) (by simp[World.frozen?,hv])]
  rfl
 have Ap: ¬((i:Int)=(n:Int)):=by omega
 have Ao:IntKind.i64.wrap ((i:Int)+1)=(i:Int)+1:=by rw[IntKind.wrap_i64];omega
 have Am:i≤n:=by omega
 have Al: ¬(cap=i):=by omega
 have Aj: ¬(cap=i+1):=by omega
 have Ai:(0:Int)≤(i:Int)+1:=by omega
 have An:((i:Int)+1).toNat=i+1:=by omega
 have Ak:(i:Int)≤(n:Int)+1:=by omega
 have Ab:cur.toList.length=cap*4:=by rw[d1B];exact hcs
 obtain⟨A0,A6,A7,Aa⟩:=qY cur.toList (es.flatMap aP) (aP x) (i*4) (n*4) 4 htk (by omega) (by omega) rfl;have A9:(cur.toList.drop (i*4)).take (n*4-i*4)=(es.flatMap aP).drop (i*4):=by rw[←htk,List.drop_take]
 have A3:((es.flatMap aP).drop (i*4)).length=(n-i)*4:=by
  rw[d0A,uC,←HN.out];omega
 rw[A9]at A6;have A1: ∀j v,((es.flatMap aP).drop (i*4))[j]?=some v→w.drew.cell? ((⟨g,i*4,none⟩:Addr).add j)=some v:=fun j v hj=>by
  rw[WideShapes.add_plain];rw[←htk,d0J,d0C]at hj;split at hj
  ·simp only[World.cell?,World.drew,hg];simpa using hj
  ·cases hj
 have A8: ∀ty dc sc,(Builtin.copy_ #[28,28] ty #[.slice (some ⟨g,(i+1)*4,none⟩) (n+1-(i+1)) dc,.slice (some (aD g (i*4))) (n+1-i) sc]).run prog w.drew=.ok (goInt (n-i:Nat)) (w.drew.setRow g A0.toArray):=fun ty dc sc=>by
  rw[j4 w.drew ty g ((i+1)*4) (n+1-(i+1)) dc (aD g (i*4)) (n+1-i) sc (n-i) cur ((es.flatMap aP).drop (i*4)) (by simp only[Nat.min_def];split<;>omega) A3 hg A1 (by rw[A3];omega) (fun v hv=>tW es v (d1S hv)),A6,A3,show(i+1)*4=i*4+4 by omega,show(n-i)*4=n*4-i*4 by omega]
 have Ac:(w.drew.setRow g A0.toArray).heap[g]?=some (.cells A0.toArray 93 (0,0)):=setRow_heap w.drew g cur _ 93 _ hg;have Ad:(w.drew.setRow g A0.toArray).heap[vb]?=some (.cells (aP x).toArray 93 (0,0)):=by
  rw[setRow_other _ _ _ _ hne];exact hv
 have Ae: ∀j v,(aP x)[j]?=some v→(w.drew.setRow g A0.toArray).cell? ((⟨vb,0,none⟩:Addr).add j)=some v:=fun j v hj=>by
  rw[WideShapes.add_plain,c9G];simp only[World.cell?,Ad];simpa using hj
 have A4: ∀ty dc,(Builtin.copy_ #[28,28] ty #[.slice (some (aD g (i*4))) (n+1-i) dc,.slice (some (aD vb 0)) 1 1]).run prog (w.drew.setRow g A0.toArray)=.ok (goInt (1:Nat)) (w.drew.setRow g ((A0.take (i*4)++aP x++A0.drop (i*4+4))).toArray):=fun ty dc=>by
  rw[j4 (w.drew.setRow g A0.toArray) ty g (i*4) (n+1-i) dc (aD vb 0) 1 1 1 A0.toArray (aP x) (by simp only[Nat.min_def];split<;>omega) rfl Ac Ae (by show i*4+4≤A0.toArray.size;rw[d0Q,A7];omega) (fun v hv=>by
   have:=tW [x] v (by simpa using hv)
   exact this),setRow_setRow]
  rfl
 obtain⟨A2,A5⟩: ∃A2:Array Value,A2=(A0.take (i*4)++aP x++A0.drop (i*4+4)).toArray:=⟨_,rfl⟩;rw[←A5]at A4;have HF:Hid (∃arr:Array Value,w.drew.setRow g A2=w.drew.setRow g arr∧arr.size=cap*4∧arr.toList.take ((n+1)*4)=(es.take i++x::es.drop i).flatMap aP):=by
  refine⟨_,rfl,?_,?_⟩
  ·rw[A5,d0Q];simp only[List.length_append,List.length_take,List.length_drop,A7,Ab];show min (i*4) (cap*4)+4+(cap*4-(i*4+4))=cap*4;omega
  ·rw[A5];show(A0.take (i*4)++aP x++A0.drop (i*4+4)).take ((n+1)*4)=_;rw[Aa,d0H,d0K,←iZ aP 4 es i (fun _ _=>rfl) (by rw[←HN.out];omega),←kC aP 4 es i (fun _ _=>rfl) (by rw[←HN.out];omega)]
   exact d2I (by
    simp only[List.length_append,List.length_take,uC,A3];show min (i*4) (es.length*4)+(4+(n-i)*4)=(n+1)*4;rw[←HN.out]
    omega)
 clear A5 A6 A7 Aa A9 A3 A1 Ac Ad Ae htk hg hv Ab hcs;have Af:prog.follows Departure.mixedOrders=true:=by kernel_rfl
 go_enter func132,ntmps132
 go_wp2_with (simp only[Ag]);go_region_law_o (go_loud (refine step_copy_runI rfl _ _ 28 28 rfl (.slice (some ⟨g,(i+1)*4,none⟩) (n+1-(i+1)) (cap-(i+1))) (.slice (some (aD g (i*4))) (n+1-i) (cap-i)) (by simp[Act.eval,Act.put]) (by simp[Act.eval,Act.put]) (A8 3 (cap-(i+1)) (cap-i)) ?_))
 go_wp2_with (at_builtin;refine wpList_copy_runI _ rfl _ _ 28 28 rfl _ _ rfl rfl (A4 _ _) ?_);go_ret
 exact⟨rfl,HF.out⟩
theorem uA(R E xs:List Value)(p n m:Nat)(hp:p≤n)(hR:n+m≤R.length)(hR2:R.take p=E.take p)(hx:xs.length=m):
  ∃A,A=R.take p++xs++R.drop (p+m)∧A.length=R.length∧A.take (p+m)++E.drop p++A.drop (p+m+(n-p))=(E.take p++(xs++E.drop p))++R.drop (n+m):=by
 refine⟨_,rfl,?_,?_⟩
 ·simp;omega
 ·have hl:(R.take p++xs).length=p+m:=by
   simp;omega
  have e1:(R.take p++xs++R.drop (p+m)).take (p+m)=R.take p++xs:=by
   rw[List.take_append_of_le_length (by omega),List.take_of_length_le (by omega)]
  have e2:(R.take p++xs++R.drop (p+m)).drop (p+m+(n-p))=R.drop (n+m):=by
   rw[List.drop_append,List.drop_eq_nil_of_le (by omega),d1C,hl,List.drop_drop];congr 1;omega
  rw[e1,e2,hR2];simp only[List.append_assoc]
theorem a8X(g cap i vb:Nat)(cur:Array Value)(es:List AcC)(x:AcC)(w:World)(hi:i<es.length)(hcap:es.length≤cap)(hcap2:cap<es.length+1)(hsm:es.length≤100000)
  (hg:w.heap[g]?=some (.cells cur 93 (0,0))) (htk:cur.toList.take (es.length*4)=es.flatMap aP) (hv:c0I w vb x):
  Calls prog 132 #[.slice (some (aD g 0)) es.length cap,iV i,.slice (some (aD vb 0)) 1 1] w fun e w'=> ∃(G:Nat) (arr:Array Value),e=.returned (.slice (some (aD w.heap.size 0)) (es.length+1) G)∧es.length+1≤G∧G≤maxLen∧w'.heap[w.heap.size]?=some (.cells arr 93 (0,0))∧arr.size=G*4∧arr.toList.take ((es.length+1)*4)=(es.take i++x::es.drop i).flatMap aP∧Bl w w':=by
 obtain⟨n,hn⟩: ∃n,n=es.length:=⟨_,rfl⟩;rw[←hn]at hi hcap hcap2 htk hsm⊢;have HN:=hd8 hn;clear hn;have Ay:g<w.heap.size:=(d1M.1 hg).1;have Az:vb<w.heap.size:=(d1M.1 hv).1;obtain⟨i4,Ao,An⟩:=c9J.1 Tryz.infoAccount;simp only[Prod.mk.injEq]at An;obtain⟨Ar,As,Ae⟩:=An;have A1:(es.flatMap aP).length=n*4:=by rw[uC,←HN.out]
 have A6:(Builtin.firstCells i4.size i (.slice (some (aD g 0)) i cap)).run prog w.drew=.ok ((es.flatMap aP).take (i*4)).toArray w.drew:=by
  rw[As];refine run_firstCells_some w.drew 4 i (aD g 0) i cap _ (by rw[c9K,A1];omega) (fun j v hj=>?_);rw[WideShapes.add_plain,c9G];rw[d0C]at hj;split at hj
  ·rw[←htk,d0C]at hj;split at hj
   ·simp only[World.cell?,World.drew,hg];simpa using hj
   ·cases hj
  ·cases hj
 have Ap:(n:Int)+1-(i:Int)=((n+1-i:Nat):Int):=by omega
 have Ad:i+(n+1-i)=n+1:=by omega
 obtain⟨G,hG⟩: ∃G,G=grownCap w (n+1) cap 93:=⟨_,rfl⟩;have Ax:n+1≤G:=by rw[hG];exact grownCap_ge w _ _ _
 have A3:G≤maxLen:=by
  rw[hG];exact grownCap_le_maxLen w (n+1) cap 93 (by unfold maxLen;omega)
 obtain⟨A0,A2⟩: ∃A0:Array Value,A0=((es.flatMap aP).take (i*4)).toArray++Builtin.zeroCells (Value.agg #[.string ByteArray.empty,iV 0,iV 0,.bool false]).cells (n+1-i)++Builtin.zeroCells (Value.agg #[.string ByteArray.empty,iV 0,iV 0,.bool false]).cells (G-(n+1)):=⟨_,rfl⟩;have Aq: ∀ty,(Builtin.append_ #[28,3] ty #[.slice (some (aD g 0)) i cap,iV ((n:Int)+1-(i:Int))]).run prog w=.ok (.slice (some (aD w.heap.size 0)) (n+1) G) (w.drew.alloc (.cells A0 93)):=fun ty=>by
  have h:=Lib.run_append_grow_zeros (P:=prog) w 28 3 ty 93 i4 _ .i64 .i64 underlying28 underlying3 Ao Ar (some (aD g 0)) i cap _ A6 (n+1-i) (by omega) (by omega) (by omega) (by omega) (by rw[Ae];omega) (by rw[Ae,Ad];exact growslice_fits (by omega) (by omega));rw[Ad,←hG,←A2]at h;rw[Ap];exact h
 have Af: ∀k,(Builtin.zeroCells (Value.agg #[.string ByteArray.empty,iV 0,iV 0,.bool false]).cells k).size=k*4:=fun k=>by
  simp[Builtin.zeroCells,Value.cells]
 have A8:A0.toList.length=G*4:=by
  rw[d1B,A2,d2R,d2R,Af,Af,d0Q,c9K,A1];omega
 have Am:A0.toList.take (i*4)=(es.flatMap aP).take (i*4):=by
  rw[A2,d2M,d2M,c9X];exact d2I (by rw[c9K,A1];omega)
 obtain⟨A,Aj,Ak,Aa⟩:=uA A0.toList (es.flatMap aP) (aP x) (i*4) (n*4) 4 (by omega) (by omega) Am rfl;obtain⟨B,hB⟩: ∃B:Array Value,B=(A.take (i*4+4)++(es.flatMap aP).drop (i*4)++A.drop (i*4+4+(n*4-i*4))).toArray:=⟨_,rfl⟩;have A7:((es.flatMap aP).drop (i*4)).length=(n-i)*4:=by
  rw[d0A,A1];omega
 have A4: ∀(W:World),W.heap[w.heap.size]?=some (.cells A0 93 (0,0))→W.heap[vb]?=w.heap[vb]?→ ∀ty dc,(Builtin.copy_ #[28,28] ty #[.slice (some (aD w.heap.size (i*4))) (n+1-i) dc,.slice (some (aD vb 0)) 1 1]).run prog W=.ok (goInt (1:Nat)) (W.setRow w.heap.size A.toArray):=fun W hW1 hW2 ty dc=>by
  rw[j4 W ty w.heap.size (i*4) (n+1-i) dc (aD vb 0) 1 1 1 A0 (aP x) (by simp only[Nat.min_def];split<;>omega) rfl hW1 (fun j v hj=>by
   rw[WideShapes.add_plain,c9G];rw[hv]at hW2;simp only[World.cell?,hW2]
   simpa using hj) (by show i*4+4≤A0.size;rw[←d1B,A8];omega) (fun v hv=>tW [x] v (by simpa using hv)),Aj]
  rfl
 have A5: ∀(W:World),W.heap[w.heap.size]?=some (.cells A.toArray 93 (0,0))→W.heap[g]?=w.heap[g]?→ ∀ty dc sc,(Builtin.copy_ #[28,28] ty #[.slice (some ⟨w.heap.size,(i+1)*4,none⟩) (n+1-(i+1)) dc,.slice (some (aD g (i*4))) (n-i) sc]).run prog W=.ok (goInt (n-i:Nat)) (W.setRow w.heap.size B):=fun W hW1 hW2 ty dc sc=>by
  rw[j4 W ty w.heap.size ((i+1)*4) (n+1-(i+1)) dc (aD g (i*4)) (n-i) sc (n-i) A.toArray ((es.flatMap aP).drop (i*4)) (by simp only[Nat.min_def];split<;>omega) A7 hW1 (fun j v hj=>by
   rw[WideShapes.add_plain];rw[←htk,d0J,d0C]at hj;split at hj
   ·rw[hg]at hW2;simp only[World.cell?,hW2];simpa using hj
   ·cases hj) (by rw[A7,List.size_toArray,Ak,A8];omega) (fun v hv=>tW es v (d1S hv)),A7,hB,show(i+1)*4=i*4+4 by omega,show(n-i)*4=n*4-i*4 by omega]
 have Au:Hid (B.size=G*4):=by
  show B.size=G*4;rw[hB,d0Q,Aa];simp only[List.length_append,List.length_take,List.length_drop,A1,A8];show min (i*4) (n*4)+(4+(n*4-i*4))+(G*4-(n*4+4))=G*4;omega
 have Av:Hid (B.toList.take ((n+1)*4)=(es.take i++x::es.drop i).flatMap aP):=by
  show B.toList.take ((n+1)*4)=_;rw[hB];show(A.take (i*4+4)++(es.flatMap aP).drop (i*4)++A.drop (i*4+4+(n*4-i*4))).take ((n+1)*4)=_;rw[Aa,d0H,d0K,←iZ aP 4 es i (fun _ _=>rfl) (by rw[←HN.out];omega),←kC aP 4 es i (fun _ _=>rfl) (by rw[←HN.out];omega)]
  exact d2I (by
   simp only[List.length_append,List.length_take,List.length_drop,A1];show min (i*4) (n*4)+(4+(n*4-i*4))=(n+1)*4
   omega)
 have h0:(w.drew.alloc (.cells A0 93)).heap[w.heap.size]?=some (.cells A0 93 (0,0)):=heap_alloc_new w.drew _;have Ah:(w.drew.alloc (.cells A0 93)).heap[vb]?=w.heap[vb]?:=Deep.blk_alloc_lt w.drew _ _ Az;have Ag:(w.drew.alloc (.cells A0 93)).heap[g]?=w.heap[g]?:=Deep.blk_alloc_lt w.drew _ _ Ay;have Ab:=A4 (w.drew.alloc (.cells A0 93)) h0 Ah;have h1:((w.drew.alloc (.cells A0 93)).setRow w.heap.size A.toArray).heap[w.heap.size]?=some (.cells A.toArray 93 (0,0)):=setRow_heap _ _ A0 _ 93 _ h0;have Ai:((w.drew.alloc (.cells A0 93)).setRow w.heap.size A.toArray).heap[g]?=w.heap[g]?:=by
  rw[setRow_other _ _ _ _ (by omega)];exact Ag
 have Ac:=A5 ((w.drew.alloc (.cells A0 93)).setRow w.heap.size A.toArray).drew h1 Ai;have h2:(((w.drew.alloc (.cells A0 93)).setRow w.heap.size A.toArray).drew.setRow w.heap.size B).heap[w.heap.size]?=some (.cells B 93 (0,0)):=setRow_heap _ _ A.toArray _ 93 _ h1;have A9:Bl w (((w.drew.alloc (.cells A0 93)).setRow w.heap.size A.toArray).drew.setRow w.heap.size B):=by
  have b0:Bl w w.drew:=⟨rfl,rfl,rfl,c9C _,fun _ _=>rfl⟩;have b1:=b0.alloc (c9C _) (.cells A0 93);have b2:=below_setRow b1 (c9C _) A.toArray;exact below_setRow (w:=((w.drew.alloc (.cells A0 93)).setRow w.heap.size A.toArray).drew) ⟨b2.os,b2.tape,b2.output,b2.size,b2.block⟩ (c9C _) B
 generalize hW1:w.drew.alloc (.cells A0 93)=W1 at Aq Ab Ac h2 A9;generalize hW2:W1.setRow w.heap.size A.toArray=W2 at Ab Ac h2 A9;have HF:Hid (Bl w (W2.drew.setRow w.heap.size B)∧(W2.drew.setRow w.heap.size B).heap[w.heap.size]?=some (.cells B 93 (0,0))):=⟨A9,h2⟩;clear hW1 hW2 A9 h2 h1 Ai h0 Ah Ag A4 A5 hB Aj Ak Aa Am A8 Af A2 A6 A7 htk hg hv Ao Ar As Ae Ap Ad hG A1;have B7: ¬((i:Int)=(n:Int)):=by omega
 have B8:(cap:Int)<(n:Int)+1:=by omega
 have B6:IntKind.i64.wrap ((i:Int)+1)=(i:Int)+1:=by rw[IntKind.wrap_i64];omega
 have B4:i≤n:=by omega
 have B1:(0:Int)≤(i:Int)+1:=by omega
 have B5:((i:Int)+1).toNat=i+1:=by omega
 have B2:(i:Int)≤(n:Int):=by omega
 have B0: ¬(G=i):=by omega
 have Aw: ¬(G=i+1):=by omega
 have B3: ¬(cap=i):=by omega
 have Al:G≤9223372036854775807:=by unfold maxLen at A3;omega
 have At:prog.follows Departure.mixedOrders=true:=by kernel_rfl
 go_enter func132,ntmps132
 go_wp2_with (first|(at_builtin;refine Lib.wpList_append_run _ rfl _ _ _ _ rfl _ _ rfl rfl _ _ (Aq _) ?_)|(at_builtin;refine wpList_copy_runI _ rfl _ _ 28 28 rfl _ _ rfl rfl (Ab _ _) ?_));go_region_law_o (go_loud (refine step_copy_runI rfl _ _ 28 28 rfl (.slice (some ⟨w.heap.size,(i+1)*4,none⟩) (n+1-(i+1)) (G-(i+1))) (.slice (some (aD g (i*4))) (n-i) (cap-i)) (by simp[Act.eval,Act.put]) (by simp[Act.eval,Act.put]) (Ac 3 (G-(i+1)) (cap-i)) ?_))
 go_wp2_with fail;go_ret
 exact⟨G,B,rfl,Ax,A3,HF.out.2,Au.out,Av.out,HF.out.1⟩
def c6X(e:Ending)(w':World)(B:Nat)(es:List AcC):Prop:= ∃v,e=.returned v∧eV w' B v es
theorem b1W(B vb:Nat)(v:Value)(es:List AcC)(x:AcC)(w:World)(h:eV w B v es)(hB:B≤w.heap.size)(hn:es.length≤100000)(hv:c0I w vb x)(hx:x.1.size≤9223372036854775807):
  Calls prog 132 #[v,iV es.length,.slice (some (aD vb 0)) 1 1] w fun e w'=>c6X e w' B (es++[x])∧Below B w w':=by
 obtain⟨v',w',A2,A1,A3,_⟩:=b4J w B v es [x] h hB (aD vb 0) 1 (fun j u hj=>by
  rw[WideShapes.add_plain,c9G];simp only[World.cell?,hv]
  simpa using hj) (fun e he=>by rw[d1Z.1 he];exact hx) (by simp;omega)
 have HR:Hid (c6X (.returned v') w' B (es++[x])∧Below B w w'):=⟨⟨v',rfl,A1⟩,A3⟩;have A0:(Builtin.append_ #[28,28] 28 #[v,.slice (some (aD vb 0)) 1 1]).run prog w=.ok v' w':=A2;clear A2 A1 A3;rcases h.1.2 with⟨rfl,h0⟩|⟨g,A4,A6,rfl,_,_,hc,hm,_⟩
 ·rw[h0];clear h hv;go_enter func132,ntmps132
  go_wp2_with (at_builtin;refine Lib.wpList_append_run _ rfl _ _ _ _ rfl _ _ rfl rfl _ _ A0 ?_);go_ret
  exact HR.out
 ·clear h hv;unfold maxLen at hm;by_cases A5:A4=es.length
  ·subst A5;go_enter func132,ntmps132
   go_wp2_with (at_builtin;refine Lib.wpList_append_run _ rfl _ _ _ _ rfl _ _ rfl rfl _ _ A0 ?_);go_ret
   exact HR.out
  ·go_enter func132,ntmps132
   go_wp2_with (at_builtin;refine Lib.wpList_append_run _ rfl _ _ _ _ rfl _ _ rfl rfl _ _ A0 ?_);go_ret
   exact HR.out
theorem b0U(B i vb:Nat)(v:Value)(es:List AcC)(x:AcC)(w:World)(h:eV w B v es)(hB:B≤w.heap.size)(hi:i≤es.length)(hn:es.length≤100000)(hv:c0I w vb x)(hne:v.ownBlock≠some vb)(hx:x.1.size≤9223372036854775807):
  Calls prog 132 #[v,iV i,.slice (some (aD vb 0)) 1 1] w fun e w'=>c6X e w' B (es.take i++x::es.drop i)∧Below B w w':=by
 have A9: ∀e,e∈es.take i++x::es.drop i→e.1.size≤9223372036854775807:=fun e he=>by
  rcases List.mem_append.1 he with q|q
  ·exact h.2 e (d2T q)
  ·rcases List.mem_cons.1 q with rfl|q
   ·exact hx
   ·exact h.2 e (d1S q)
 have A0:(es.take i++x::es.drop i).length=es.length+1:=by
  simp;omega
 by_cases he:i=es.length
 ·subst he;have H:=b1W B vb v es x w h hB hn hv hx;rw[d0L,d0T];exact H
 ·rcases h.1.2 with⟨_,h0⟩|⟨g,A3,A4,rfl,A8,hg,hc,hm,Ae,Aa⟩
  ·omega
  ·by_cases A1:es.length+1≤A3
   ·refine(a5D g A3 i vb A4 es x w (by omega) A1 (by unfold maxLen at hm;exact hm) Ae hg Aa hv (fun e=>hne (by rw[e];rfl))).mono ?_;rintro e w' ⟨rfl,A2,rfl,A5,A6⟩;have A7:(w.drew.setRow g A2).heap[g]?=some (.cells A2 93 (0,0)):=setRow_heap w.drew g A4 _ 93 _ hg;refine⟨⟨_,rfl,⟨?_,A9⟩⟩,?_⟩
    ·rw[A0];exact⟨by rw[uC,A0],Or.inr ⟨g,A3,A2,rfl,A8,A7,A1,hm,A5,A6⟩⟩
    ·exact below_setRow (w0:=w) (w:=w.drew) ⟨rfl,rfl,rfl,c9C _,fun _ _=>rfl⟩ A8 A2
   ·refine(a8X g A3 i vb A4 es x w (by omega) hc (by omega) hn hg Aa hv).mono ?_;rintro e w' ⟨G,A2,rfl,Ab,Ac,A7,A5,A6,Ad⟩;refine⟨⟨_,rfl,⟨?_,A9⟩⟩,Ad.mono hB⟩;rw[A0];exact⟨by rw[uC,A0],Or.inr ⟨w.heap.size,G,A2,rfl,hB,A7,Ab,Ac,A5,A6⟩⟩
theorem a6B(s h z:Nat)(v:Value)(n:Nat)(f:Nat→Nat)(w:World)(hd:cA w v n f)(hx:Crc.aA s h z n=0):
  Calls prog 95 #[.agg #[iV s,iV h,iV z,v]] w fun e w'=> ∃v',e=.returned (.tuple #[v',iV 0])∧kX w' w.heap.size v' (n+11) (Crc.enc s h z n f)∧Bl w w':=by
 obtain⟨⟨_,hs,_,hh,_,hz⟩,Al,Ao⟩:=Crc.bN hx;have hf:=hd.bd;have A4:Hid (Bd (Crc.hd s h z n f)):=Crc.c2O (by omega) (by omega) (by omega) (by omega) hf;have Ag:Hid (Bd (Crc.enc s h z n f)):=Crc.a4S (by omega) (by omega) (by omega) (by omega) hf;obtain⟨b,o,A0,rfl,_,_,hc⟩:=hd.some Al;obtain⟨i1,Aa,A9⟩:=c9J.1 Tryz.infoByte;simp only[Prod.mk.injEq]at A9;obtain⟨Ac,Ad,Ae⟩:=A9;have H1:=fun w'=>m7 s h z (some (aD b o)) n A0 w';rw[hx]at H1;have A1:=aB8 w (.cells #[iV s,iV h,iV z,.slice (some (aD b o)) n A0] 137);have kc:=eE w #[iV s,iV h,iV z,.slice (some (aD b o)) n A0] 137;have k0:=kc 0 _ rfl;have k1:=kc 1 _ rfl;have k2:=kc 2 _ rfl;have k3:=kc 3 _ rfl;rw[WideShapes.add_plain]at k0 k1 k2 k3;have Am:(w.alloc (.cells #[iV s,iV h,iV z,.slice (some (aD b o)) n A0] 137)).heap.size=w.heap.size+1:=by simp
 clear kc hd hx;go_enter func95,ntmps95
 go_wp2_with fail;refine(H1 _).mono ?_;rintro e w1 ⟨rfl,b1⟩;have K0:=cB8 b1 k0;have Ak:=World.block_lt_of_cell? _ _ K0;have K1:=cB8 b1 k1;have K2:=cB8 b1 k2;have K3:=cB8 b1 k3;rw[c9G]at K1 K2 K3;have Ah:=K3;have b1:=bt A1 b1;clear H1 k0 k1 k2 k3 A1 Am;have X2:=aB8 w1 (.cells #[.int .u8 83,.int .u8 s,.int .u8 h,.int .u8 ((z:Int)/256),.int .u8 ((z:Int)%256),.int .u8 ((n:Int)/256),.int .u8 ((n:Int)%256)] 5);have B4:Buf (w1.alloc (.cells #[.int .u8 83,.int .u8 s,.int .u8 h,.int .u8 ((z:Int)/256),.int .u8 ((z:Int)%256),.int .u8 ((n:Int)/256),.int .u8 ((n:Int)%256)] 5)) w1.heap.size (.slice (some (aD w1.heap.size 0)) 7 7) 7 (Crc.hd s h z n f):=a8L w1 #[.int .u8 83,.int .u8 s,.int .u8 h,.int .u8 ((z:Int)/256),.int .u8 ((z:Int)%256),.int .u8 ((n:Int)/256),.int .u8 ((n:Int)%256)] 5 (by unfold maxLen;simp);have b3:=b1.trans (X2.mono b1.size);have K3:=(X2.cell (p:=⟨w.heap.size,3,none⟩) Ak).trans Ah;have A3: ∀j u,(cellsOf f n)[j]?=some u→(w1.alloc (.cells #[.int .u8 83,.int .u8 s,.int .u8 h,.int .u8 ((z:Int)/256),.int .u8 ((z:Int)%256),.int .u8 ((n:Int)/256),.int .u8 ((n:Int)%256)] 5)).cell? ((⟨b,o,none⟩:Addr).add j)=some u:=fun j u hj=>by
  rcases Nat.lt_or_ge j n with h|h
  ·simp[cellsOf,h]at hj;rw[WideShapes.add_plain,cB8 b3 (hc j h),←hj]
  ·simp[List.getElem?_eq_none (show(cellsOf f n).length≤j by simpa [cellsOf]using h)]at hj
 have A8:=jR f n;have A2:(cellsOf f n).length=n*1:=by simp[cellsOf]
 have HL:=B4.lt;have A5:=hd8 (b4R s h z n f);have s3:=X2.size;clear hc;go_wp2_with (at_builtin;go_loud (refine wpList_append_own _ rfl (.tmp 38) (.tmp 40) 59 rfl w1.heap.size 5 i1 (.int .u8 0) 1 1 underlying59 Aa Ac Ad Ae rfl (by decide) _ _ _ rfl B4 (aD b o) n A0 (cellsOf f n) rfl A2 A3 A8 (by unfold maxLen;omega) (by omega) s3 ?_;intro v4 w4 hown4 hgrow4 _));have B5:Buf w4 w1.heap.size v4 (7+n) (Crc.hd s h z n f):=by
  unfold Buf;rw[A5.out];exact hown4
 have c4:=X2.grown hgrow4 s3 (fun y hy=>(HL y hy).1);have Y4:=(B5.made A4.out (by omega)).byts A4.out;have H5:=b1G v4 (7+n) _ w4 Y4;have Ab:Crc.sum (Crc.hd s h z n f) (7+n)<4294967296:=Crc.c2E A4.out _;have HE:=hd8 (a3A s h z n f);generalize Crc.sum (Crc.hd s h z n f) (7+n)=S at H5 Ab HE;have Af:Hid (Buf w4 w1.heap.size v4 (7+n) (mC (Crc.hd s h z n f) (7+n) S)):=B5.congr (fun k hk=>by unfold mC;rw[if_pos hk]);clear hown4 B5 Y4 A5 B4 A3 K3 hgrow4 HL A8 A2;refine H5.mono ?_;rintro e w5 ⟨rfl,rfl⟩;clear H5;go_wp2_with fail;go_loopw [5,6,7] (fun u y x wr=> ∃k:Nat,k≤4∧x=iV k∧y=.int .u32 (S/256^k:Nat)∧Buf wr w1.heap.size u (7+n+k) (mC (Crc.hd s h z n f) (7+n) S)∧Bl w1 wr) (fun _ _ x _=>4-(intOf x).toNat)
 case atStart=>exact⟨0,c9D _,rfl,by rw[Nat.pow_zero,Nat.div_one],Af.out,c4⟩
 case round=>
  obtain⟨k,hk,rfl,rfl,HB,hb⟩:=hrel;by_cases An:k<4
  ·have Aj:(k:Int)<4:=by omega
   have A6:Hid (Crc.low S k=S/256^k%256):=rfl;have A7:Hid (S/256^k/256=S/256^(k+1)):=by
    show S/256^k/256=_;rw[Nat.div_div_eq_div_mul,Nat.pow_succ]
   have Ai:S/256^k<4294967296:=Nat.lt_of_le_of_lt (Nat.div_le_self _ _) Ab;generalize S/256^k=x at A6 A7 Ai;have HO:=HB.bE ((Below.refl _ _).alloc (c9C _) (.cells #[.int .u8 ((x:Int)%256)] 5));have A1:Bl w1 (wr.alloc (.cells #[.int .u8 ((x:Int)%256)] 5)):=hb.alloc hb.size _;have HL:=HB.lt;have cn:=eE wr #[.int .u8 ((x:Int)%256)] 5;have sX:=A1.size;go_wp2_with (at_builtin;go_loud (refine wpList_append_own _ rfl (.tmp 48) (.tmp 52) 59 rfl w1.heap.size 5 i1 (.int .u8 0) 1 1 underlying59 Aa Ac Ad Ae rfl (by decide) _ _ _ rfl HO (aD wr.heap.size 0) 1 1 [.int .u8 ((x:Int)%256)] rfl rfl cn (by intro u hu;simp at hu;subst hu;rfl) (by unfold maxLen;omega) (by omega) sX ?_;intro v6 w6 hown6 hgrow6 _));refine⟨⟨k+1,by omega,by go_num,cB (by rw[←A7.out];rfl),b3U (n:=7+n+k) hown6 (y:=Crc.low S k) (by rw[A6.out];rfl) ?_,A1.grown hgrow6 sX (fun y hy=>(HL y hy).1)⟩,by simp[intOf];omega⟩;unfold mC;rw[if_neg (by omega),d2G]
  ·have e8:k=4:=by omega
   subst e8;have HM:Hid (∀v' w',Buf w' w1.heap.size v' (7+n+4) (mC (Crc.hd s h z n f) (7+n) S)→kX w' w.heap.size v' (n+11) (Crc.enc s h z n f)):=fun v' w' B7=>by
    have:=(B7.congr (fun k _=>HE.out k)).made Ag.out (by omega);rw[show 7+n+4=n+11 by omega]at this;exact this.lower b1.size
   go_wp2_with fail;go_ret2
   exact⟨_,rfl,HM.out _ _ HB,b1.trans (hb.mono b1.size)⟩
end Go.Proofs.YtmcaejooaaahdaaGreat
