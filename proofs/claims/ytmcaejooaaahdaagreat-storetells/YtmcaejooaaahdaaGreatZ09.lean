import Derived.Test.YtmcaejooaaahdaaGreatZ08
import Derived.Shelf.Spec.SlicesInsertGrow
import Derived.Lib.AppendZerosOnto
import Derived.Lib.Overlaps
set_option maxHeartbeats 8000000
set_option maxRecDepth 100000
namespace Go.Proofs.YtmcaejooaaahdaaGreat
open Go.Proofs.Tryz
variable {B cap g i n:Nat} {w:World}
open Go.RowKit
theorem jB{α β:Type}(f:α→List β)(m:Nat): ∀(l:List α) (i:Nat),(∀a,a∈l→(f a).length=m)→i≤l.length→(l.flatMap f).take (i*m)=(l.take i).flatMap f
 |_,0,_,_=>by simp
 |[],i+1,_,h=>absurd h (by simp)
 |x::l,i+1,hm,h=>by
  have hx:=hm x c9W
  rw[d0K,List.take_succ_cons,d0K,List.take_append,hx,d0F,List.take_of_length_le (by omega),show i*m+m-m=i*m by omega,jB f m l i (fun a ha=>hm a (c9Y _ ha)) (by simpa using h)]
theorem kD{α β:Type}(f:α→List β)(m:Nat): ∀(l:List α) (i:Nat),(∀a,a∈l→(f a).length=m)→i≤l.length→(l.flatMap f).drop (i*m)=(l.drop i).flatMap f
 |_,0,_,_=>by simp
 |[],i+1,_,h=>absurd h (by simp)
 |x::l,i+1,hm,h=>by
  have hx:=hm x c9W
  rw[d0K,d2W,List.drop_append,hx,d0F,List.drop_eq_nil_of_le (by omega),d1C,show i*m+m-m=i*m by omega,kD f m l i (fun a ha=>hm a (c9Y _ ha)) (by simpa using h)]
theorem qZ(c E xs:List Value)(p n m:Nat)(hE:c.take n=E)(hp:p≤n)(hc:n+m≤c.length)(hx:xs.length=m):
  ∃arr1,arr1=c.take (p+m)++(c.drop p).take (n-p)++c.drop (p+m+(n-p))∧arr1.length=c.length∧arr1.take p++xs++arr1.drop (p+m)=(E.take p++(xs++E.drop p))++c.drop (n+m):=by
 have h1:(c.drop p).take (n-p)=E.drop p:=by
  rw[←hE,List.drop_take]
 refine⟨_,rfl,?_,?_⟩
 ·simp;omega
 ·rw[h1,show p+m+(n-p)=n+m by omega];have e1:(c.take (p+m)++E.drop p++c.drop (n+m)).take p=E.take p:=by
   rw[c9X,List.take_append_of_le_length (by simp;omega),List.take_take,←hE,List.take_take,show min p (p+m)=min p n by omega]
  have e2:(c.take (p+m)++E.drop p++c.drop (n+m)).drop (p+m)=E.drop p++c.drop (n+m):=by
   rw[c9X,List.drop_append,List.drop_eq_nil_of_le (by simp;omega),d1C,c9K,show p+m-min (p+m) c.length=0 by omega,d2E]
  rw[e1,e2,c9X,c9X,c9X]
theorem Tryz.sizeAccount:(Tryz.prog.info? 93).map (·.size)=some 4:=by kernel_rfl
theorem jY(w:World)(ty:TypeId)(g o dLen dCap:Nat)(a:Addr)(sLen sCap n:Nat)(cur:Array Value)(cs:List Value)(hn:n=Nat.min sLen dLen)(hl:cs.length=n*4)
  (hg:w.heap[g]?=some (.cells cur 93 (0,0))) (hsrc: ∀j v,cs[j]?=some v→w.cell? (a.add j)=some v) (hfit:o+cs.length≤cur.size) (h1: ∀v∈cs,v.oneCell'=true):
  (Builtin.copy_ #[28,28] ty #[.slice (some (aD g o)) dLen dCap,.slice (some a) sLen sCap]).run prog w=.ok (goInt n) (w.setRow g (cur.toList.take o++cs++cur.toList.drop (o+cs.length)).toArray):=by
 have A1:=run_loadCells_list (P:=prog) w a cs hsrc;have A0:=run_storeCells_at prog g o 93 cs 0 cur w hg (by simpa using hfit) h1;have hu:=underlying28;cases hq:prog.info? 93 with
 |none=>
  have:=Tryz.sizeAccount;simp[hq]at this
 |some i=>
  have hi:i.size=4:=by
   have:=Tryz.sizeAccount;simpa [hq]using this
  simp[Builtin.copy_,run_underlying hu,Builtin.lenOf,Builtin.firstCells,sizeOf,typeInfo,hq,hi,←hn,←hl,A1,A0]
abbrev c1U(w:World)(vb:Nat)(x:AcC):Prop:=w.heap[vb]?=some (.cells (aP x).toArray 93 (0,0))
theorem a4P(g cap i vb:Nat)(cur:Array Value)(es:List AcC)(x:AcC)(w:World)(hi:i<es.length)(hcap:es.length+1≤cap)(hm:cap≤9223372036854775807)(hcs:cur.size=cap*4)
  (hg:w.heap[g]?=some (.cells cur 93 (0,0))) (htk:cur.toList.take (es.length*4)=es.flatMap aP) (hv:c1U w vb x) (hne:vb≠g):
  Calls prog 132 #[.slice (some (aD g 0)) es.length cap,iV i,.slice (some (aD vb 0)) 1 1] w fun e w'=>e=.returned (.slice (some (aD g 0)) (es.length+1) cap)∧ ∃arr:Array Value,w'=w.drew.setRow g arr∧arr.size=cap*4∧arr.toList.take ((es.length+1)*4)=(es.take i++x::es.drop i).flatMap aP:=by
 obtain⟨n,hn⟩: ∃n,n=es.length:=⟨_,rfl⟩;rw[←hn]at hi hcap htk⊢;have HN:=hd8 hn;clear hn;have Ah: ∀w,(Go.sizeOf 93).run prog w=.ok 4 w:=Tryz.sizeOf93;have Ag: ∀lb cb,(callFunc 156 #[.slice (some (aD vb 0)) 1 1,.slice (some ⟨g,(i+1)*4,none⟩) lb cb]).run prog w=.ok (.value (.bool false)) w:=fun lb cb=>by
  rw[run_callFunc_extern func156 (by kernel_rfl) (by kernel_rfl) (by kernel_rfl) (e:=Extern.SlicesOverlaps.overlaps #[28,28] #[4]) (by kernel_rfl),
   Lib.run_overlaps_apart w 28 4 93 underlying28 4 Ah (aD vb 0) ⟨g,(i+1)*4,none⟩ 1 1 lb cb hne 93 93 4 (cap*4) (by simp[World.shape?,hv,aP]) (by simp[World.shape?,hg,hcs]) (by omega) (by simp[World.frozen?,hv]) (by simp[World.frozen?,hv])]
  rfl
 have An: ¬((i:Int)=(n:Int)):=by omega
 have Aj:IntKind.i64.wrap ((i:Int)+1)=(i:Int)+1:=by rw[IntKind.wrap_i64];omega
 have Ai:i≤n:=by omega
 have Ao: ¬(cap=i):=by omega
 have Am: ¬(cap=i+1):=by omega
 have Ap:(0:Int)≤(i:Int)+1:=by omega
 have Al:((i:Int)+1).toNat=i+1:=by omega
 have Ak:(i:Int)≤(n:Int)+1:=by omega
 have Ab:cur.toList.length=cap*4:=by rw[d1B];exact hcs
 obtain⟨A0,A6,A8,Ad⟩:=qZ cur.toList (es.flatMap aP) (aP x) (i*4) (n*4) 4 htk (by omega) (by omega) rfl;have Af:(cur.toList.drop (i*4)).take (n*4-i*4)=(es.flatMap aP).drop (i*4):=by rw[←htk,List.drop_take]
 have A4:((es.flatMap aP).drop (i*4)).length=(n-i)*4:=by
  rw[d0A,uI,←HN.out];omega
 rw[Af]at A6;have A1: ∀j v,((es.flatMap aP).drop (i*4))[j]?=some v→w.drew.cell? ((⟨g,i*4,none⟩:Addr).add j)=some v:=fun j v hj=>by
  rw[WideShapes.add_plain];rw[←htk,d0J,d0C]at hj;split at hj
  ·simp only[World.cell?,World.drew,hg];simpa using hj
  ·cases hj
 have A7: ∀ty dc sc,(Builtin.copy_ #[28,28] ty #[.slice (some ⟨g,(i+1)*4,none⟩) (n+1-(i+1)) dc,.slice (some (aD g (i*4))) (n+1-i) sc]).run prog w.drew=.ok (goInt (n-i:Nat)) (w.drew.setRow g A0.toArray):=fun ty dc sc=>by
  rw[jY w.drew ty g ((i+1)*4) (n+1-(i+1)) dc (aD g (i*4)) (n+1-i) sc (n-i) cur ((es.flatMap aP).drop (i*4)) (by simp only[Nat.min_def];split<;>omega) A4 hg A1 (by rw[A4];omega) (fun v hv=>uM es v (d1S hv)),A6,A4,show(i+1)*4=i*4+4 by omega,show(n-i)*4=n*4-i*4 by omega]
 have Ac:(w.drew.setRow g A0.toArray).heap[g]?=some (.cells A0.toArray 93 (0,0)):=setRow_heap w.drew g cur _ 93 _ hg;have Ae:(w.drew.setRow g A0.toArray).heap[vb]?=some (.cells (aP x).toArray 93 (0,0)):=by
  rw[setRow_other _ _ _ _ hne];exact hv
 have Aa: ∀j v,(aP x)[j]?=some v→(w.drew.setRow g A0.toArray).cell? ((⟨vb,0,none⟩:Addr).add j)=some v:=fun j v hj=>by
  rw[WideShapes.add_plain,c9G];simp only[World.cell?,Ae];simpa using hj
 have A3: ∀ty dc,(Builtin.copy_ #[28,28] ty #[.slice (some (aD g (i*4))) (n+1-i) dc,.slice (some (aD vb 0)) 1 1]).run prog (w.drew.setRow g A0.toArray)=.ok (goInt (1:Nat)) (w.drew.setRow g ((A0.take (i*4)++aP x++A0.drop (i*4+4))).toArray):=fun ty dc=>by
  rw[jY (w.drew.setRow g A0.toArray) ty g (i*4) (n+1-i) dc (aD vb 0) 1 1 1 A0.toArray (aP x) (by simp only[Nat.min_def];split<;>omega) rfl Ac Aa (by show i*4+4≤A0.toArray.size;rw[d0Q,A8];omega) (fun v hv=>by
   have:=uM [x] v (by simpa using hv)
   exact this),setRow_setRow]
  rfl
 obtain⟨A2,A5⟩: ∃A2:Array Value,A2=(A0.take (i*4)++aP x++A0.drop (i*4+4)).toArray:=⟨_,rfl⟩;rw[←A5]at A3;have HF:Hid (∃arr:Array Value,w.drew.setRow g A2=w.drew.setRow g arr∧arr.size=cap*4∧arr.toList.take ((n+1)*4)=(es.take i++x::es.drop i).flatMap aP):=by
  refine⟨_,rfl,?_,?_⟩
  ·rw[A5,d0Q];simp only[List.length_append,List.length_take,List.length_drop,A8,Ab];show min (i*4) (cap*4)+4+(cap*4-(i*4+4))=cap*4;omega
  ·rw[A5];show(A0.take (i*4)++aP x++A0.drop (i*4+4)).take ((n+1)*4)=_;rw[Ad,d0H,d0K,←jB aP 4 es i (fun _ _=>rfl) (by rw[←HN.out];omega),←kD aP 4 es i (fun _ _=>rfl) (by rw[←HN.out];omega)]
   exact d2I (by
    simp only[List.length_append,List.length_take,uI,A4];show min (i*4) (es.length*4)+(4+(n-i)*4)=(n+1)*4;rw[←HN.out]
    omega)
 clear A5 A6 A8 Ad Af A4 A1 Ac Ae Aa htk hg hv Ab hcs;have A9:prog.follows Departure.mixedOrders=true:=by kernel_rfl
 go_enter func132,ntmps132
 go_wp2_with (simp only[Ag]);go_region_law_o (go_loud (refine step_copy_runI rfl _ _ 28 28 rfl (.slice (some ⟨g,(i+1)*4,none⟩) (n+1-(i+1)) (cap-(i+1))) (.slice (some (aD g (i*4))) (n+1-i) (cap-i)) (by simp[Act.eval,Act.put]) (by simp[Act.eval,Act.put]) (A7 3 (cap-(i+1)) (cap-i)) ?_))
 go_wp2_with (at_builtin;refine wpList_copy_runI _ rfl _ _ 28 28 rfl _ _ rfl rfl (A3 _ _) ?_);go_ret
 exact⟨rfl,HF.out⟩
theorem vC(R E xs:List Value)(p n m:Nat)(hp:p≤n)(hR:n+m≤R.length)(hR2:R.take p=E.take p)(hx:xs.length=m):
  ∃A,A=R.take p++xs++R.drop (p+m)∧A.length=R.length∧A.take (p+m)++E.drop p++A.drop (p+m+(n-p))=(E.take p++(xs++E.drop p))++R.drop (n+m):=by
 refine⟨_,rfl,?_,?_⟩
 ·simp;omega
 ·have hl:(R.take p++xs).length=p+m:=by
   simp;omega
  have e1:(R.take p++xs++R.drop (p+m)).take (p+m)=R.take p++xs:=by
   rw[List.take_append_of_le_length (by omega),List.take_of_length_le (by omega)]
  have e2:(R.take p++xs++R.drop (p+m)).drop (p+m+(n-p))=R.drop (n+m):=by
   rw[List.drop_append,List.drop_eq_nil_of_le (by omega),d1C,hl,List.drop_drop];congr 1;omega
  rw[e1,e2,hR2];simp only[List.append_assoc]
theorem a7D(g cap i vb:Nat)(cur:Array Value)(es:List AcC)(x:AcC)(w:World)(hi:i<es.length)(hcap:es.length≤cap)(hcap2:cap<es.length+1)(hsm:es.length≤100000)
  (hg:w.heap[g]?=some (.cells cur 93 (0,0))) (htk:cur.toList.take (es.length*4)=es.flatMap aP) (hv:c1U w vb x):
  Calls prog 132 #[.slice (some (aD g 0)) es.length cap,iV i,.slice (some (aD vb 0)) 1 1] w fun e w'=> ∃(G:Nat) (arr:Array Value),e=.returned (.slice (some (aD w.heap.size 0)) (es.length+1) G)∧es.length+1≤G∧G≤maxLen∧w'.heap[w.heap.size]?=some (.cells arr 93 (0,0))∧arr.size=G*4∧arr.toList.take ((es.length+1)*4)=(es.take i++x::es.drop i).flatMap aP∧Bl w w':=by
 obtain⟨n,hn⟩: ∃n,n=es.length:=⟨_,rfl⟩;rw[←hn]at hi hcap hcap2 htk hsm⊢;have HN:=hd8 hn;clear hn;have Ax:g<w.heap.size:=(d1M.1 hg).1;have Az:vb<w.heap.size:=(d1M.1 hv).1;obtain⟨i4,As,Ai⟩:=c9J.1 Tryz.infoAccount;simp only[Prod.mk.injEq]at Ai;obtain⟨Ak,Al,Aa⟩:=Ai;have A1:(es.flatMap aP).length=n*4:=by rw[uI,←HN.out]
 have A4:(Builtin.firstCells i4.size i (.slice (some (aD g 0)) i cap)).run prog w.drew=.ok ((es.flatMap aP).take (i*4)).toArray w.drew:=by
  rw[Al];refine run_firstCells_some w.drew 4 i (aD g 0) i cap _ (by rw[c9K,A1];omega) (fun j v hj=>?_);rw[WideShapes.add_plain,c9G];rw[d0C]at hj;split at hj
  ·rw[←htk,d0C]at hj;split at hj
   ·simp only[World.cell?,World.drew,hg];simpa using hj
   ·cases hj
  ·cases hj
 have Aq:(n:Int)+1-(i:Int)=((n+1-i:Nat):Int):=by omega
 have Ad:i+(n+1-i)=n+1:=by omega
 obtain⟨G,hG⟩: ∃G,G=grownCap w (n+1) cap 93:=⟨_,rfl⟩;have Ay:n+1≤G:=by rw[hG];exact grownCap_ge w _ _ _
 have A3:G≤maxLen:=by
  rw[hG];exact grownCap_le_maxLen w (n+1) cap 93 (by unfold maxLen;omega)
 obtain⟨A0,A2⟩: ∃A0:Array Value,A0=((es.flatMap aP).take (i*4)).toArray++Builtin.zeroCells (Value.agg #[.string ByteArray.empty,iV 0,iV 0,.bool false]).cells (n+1-i)++Builtin.zeroCells (Value.agg #[.string ByteArray.empty,iV 0,iV 0,.bool false]).cells (G-(n+1)):=⟨_,rfl⟩;have Aj: ∀ty,(Builtin.append_ #[28,3] ty #[.slice (some (aD g 0)) i cap,iV ((n:Int)+1-(i:Int))]).run prog w=.ok (.slice (some (aD w.heap.size 0)) (n+1) G) (w.drew.alloc (.cells A0 93)):=fun ty=>by
  have h:=Lib.run_append_grow_zeros (P:=prog) w 28 3 ty 93 i4 _ .i64 .i64 underlying28 underlying3 As Ak (some (aD g 0)) i cap _ A4 (n+1-i) (by omega) (by omega) (by omega) (by omega) (by rw[Aa];omega) (by rw[Aa,Ad];exact growslice_fits (by omega) (by omega));rw[Ad,←hG,←A2]at h;rw[Aq];exact h
 have Ab: ∀k,(Builtin.zeroCells (Value.agg #[.string ByteArray.empty,iV 0,iV 0,.bool false]).cells k).size=k*4:=fun k=>by
  simp[Builtin.zeroCells,Value.cells]
 have A7:A0.toList.length=G*4:=by
  rw[d1B,A2,d2R,d2R,Ab,Ab,d0Q,c9K,A1];omega
 have Ah:A0.toList.take (i*4)=(es.flatMap aP).take (i*4):=by
  rw[A2,d2M,d2M,c9X];exact d2I (by rw[c9K,A1];omega)
 obtain⟨A,An,Ap,Af⟩:=vC A0.toList (es.flatMap aP) (aP x) (i*4) (n*4) 4 (by omega) (by omega) Ah rfl;obtain⟨B,hB⟩: ∃B:Array Value,B=(A.take (i*4+4)++(es.flatMap aP).drop (i*4)++A.drop (i*4+4+(n*4-i*4))).toArray:=⟨_,rfl⟩;have A8:((es.flatMap aP).drop (i*4)).length=(n-i)*4:=by
  rw[d0A,A1];omega
 have A5: ∀(W:World),W.heap[w.heap.size]?=some (.cells A0 93 (0,0))→W.heap[vb]?=w.heap[vb]?→ ∀ty dc,(Builtin.copy_ #[28,28] ty #[.slice (some (aD w.heap.size (i*4))) (n+1-i) dc,.slice (some (aD vb 0)) 1 1]).run prog W=.ok (goInt (1:Nat)) (W.setRow w.heap.size A.toArray):=fun W hW1 hW2 ty dc=>by
  rw[jY W ty w.heap.size (i*4) (n+1-i) dc (aD vb 0) 1 1 1 A0 (aP x) (by simp only[Nat.min_def];split<;>omega) rfl hW1 (fun j v hj=>by
   rw[WideShapes.add_plain,c9G];rw[hv]at hW2;simp only[World.cell?,hW2]
   simpa using hj) (by show i*4+4≤A0.size;rw[←d1B,A7];omega) (fun v hv=>uM [x] v (by simpa using hv)),An]
  rfl
 have A6: ∀(W:World),W.heap[w.heap.size]?=some (.cells A.toArray 93 (0,0))→W.heap[g]?=w.heap[g]?→ ∀ty dc sc,(Builtin.copy_ #[28,28] ty #[.slice (some ⟨w.heap.size,(i+1)*4,none⟩) (n+1-(i+1)) dc,.slice (some (aD g (i*4))) (n-i) sc]).run prog W=.ok (goInt (n-i:Nat)) (W.setRow w.heap.size B):=fun W hW1 hW2 ty dc sc=>by
  rw[jY W ty w.heap.size ((i+1)*4) (n+1-(i+1)) dc (aD g (i*4)) (n-i) sc (n-i) A.toArray ((es.flatMap aP).drop (i*4)) (by simp only[Nat.min_def];split<;>omega) A8 hW1 (fun j v hj=>by
   rw[WideShapes.add_plain];rw[←htk,d0J,d0C]at hj;split at hj
   ·rw[hg]at hW2;simp only[World.cell?,hW2];simpa using hj
   ·cases hj) (by rw[A8,List.size_toArray,Ap,A7];omega) (fun v hv=>uM es v (d1S hv)),A8,hB,show(i+1)*4=i*4+4 by omega,show(n-i)*4=n*4-i*4 by omega]
 have Av:Hid (B.size=G*4):=by
  show B.size=G*4;rw[hB,d0Q,Af];simp only[List.length_append,List.length_take,List.length_drop,A1,A7];show min (i*4) (n*4)+(4+(n*4-i*4))+(G*4-(n*4+4))=G*4;omega
 have Au:Hid (B.toList.take ((n+1)*4)=(es.take i++x::es.drop i).flatMap aP):=by
  show B.toList.take ((n+1)*4)=_;rw[hB];show(A.take (i*4+4)++(es.flatMap aP).drop (i*4)++A.drop (i*4+4+(n*4-i*4))).take ((n+1)*4)=_;rw[Af,d0H,d0K,←jB aP 4 es i (fun _ _=>rfl) (by rw[←HN.out];omega),←kD aP 4 es i (fun _ _=>rfl) (by rw[←HN.out];omega)]
  exact d2I (by
   simp only[List.length_append,List.length_take,List.length_drop,A1];show min (i*4) (n*4)+(4+(n*4-i*4))=(n+1)*4
   omega)
 have h0:(w.drew.alloc (.cells A0 93)).heap[w.heap.size]?=some (.cells A0 93 (0,0)):=heap_alloc_new w.drew _;have Ao:(w.drew.alloc (.cells A0 93)).heap[vb]?=w.heap[vb]?:=Deep.blk_alloc_lt w.drew _ _ Az;have At:(w.drew.alloc (.cells A0 93)).heap[g]?=w.heap[g]?:=Deep.blk_alloc_lt w.drew _ _ Ax;have Ae:=A5 (w.drew.alloc (.cells A0 93)) h0 Ao;have h1:((w.drew.alloc (.cells A0 93)).setRow w.heap.size A.toArray).heap[w.heap.size]?=some (.cells A.toArray 93 (0,0)):=setRow_heap _ _ A0 _ 93 _ h0;have Am:((w.drew.alloc (.cells A0 93)).setRow w.heap.size A.toArray).heap[g]?=w.heap[g]?:=by
  rw[setRow_other _ _ _ _ (by omega)];exact At
 have Ac:=A6 ((w.drew.alloc (.cells A0 93)).setRow w.heap.size A.toArray).drew h1 Am;have h2:(((w.drew.alloc (.cells A0 93)).setRow w.heap.size A.toArray).drew.setRow w.heap.size B).heap[w.heap.size]?=some (.cells B 93 (0,0)):=setRow_heap _ _ A.toArray _ 93 _ h1;have A9:Bl w (((w.drew.alloc (.cells A0 93)).setRow w.heap.size A.toArray).drew.setRow w.heap.size B):=by
  have b0:Bl w w.drew:=⟨rfl,rfl,rfl,c9C _,fun _ _=>rfl⟩;have b1:=b0.alloc (c9C _) (.cells A0 93);have b2:=below_setRow b1 (c9C _) A.toArray;exact below_setRow (w:=((w.drew.alloc (.cells A0 93)).setRow w.heap.size A.toArray).drew) ⟨b2.os,b2.tape,b2.output,b2.size,b2.block⟩ (c9C _) B
 generalize hW1:w.drew.alloc (.cells A0 93)=W1 at Aj Ae Ac h2 A9;generalize hW2:W1.setRow w.heap.size A.toArray=W2 at Ae Ac h2 A9;have HF:Hid (Bl w (W2.drew.setRow w.heap.size B)∧(W2.drew.setRow w.heap.size B).heap[w.heap.size]?=some (.cells B 93 (0,0))):=⟨A9,h2⟩;clear hW1 hW2 A9 h2 h1 Am h0 Ao At A5 A6 hB An Ap Af Ah A7 Ab A2 A4 A8 htk hg hv As Ak Al Aa Aq Ad hG A1;have B4: ¬((i:Int)=(n:Int)):=by omega
 have B8:(cap:Int)<(n:Int)+1:=by omega
 have B1:IntKind.i64.wrap ((i:Int)+1)=(i:Int)+1:=by rw[IntKind.wrap_i64];omega
 have B0:i≤n:=by omega
 have B7:(0:Int)≤(i:Int)+1:=by omega
 have B3:((i:Int)+1).toNat=i+1:=by omega
 have B2:(i:Int)≤(n:Int):=by omega
 have B5: ¬(G=i):=by omega
 have Aw: ¬(G=i+1):=by omega
 have B6: ¬(cap=i):=by omega
 have Ar:G≤9223372036854775807:=by unfold maxLen at A3;omega
 have Ag:prog.follows Departure.mixedOrders=true:=by kernel_rfl
 go_enter func132,ntmps132
 go_wp2_with (first|(at_builtin;refine Lib.wpList_append_run _ rfl _ _ _ _ rfl _ _ rfl rfl _ _ (Aj _) ?_)|(at_builtin;refine wpList_copy_runI _ rfl _ _ 28 28 rfl _ _ rfl rfl (Ae _ _) ?_));go_region_law_o (go_loud (refine step_copy_runI rfl _ _ 28 28 rfl (.slice (some ⟨w.heap.size,(i+1)*4,none⟩) (n+1-(i+1)) (G-(i+1))) (.slice (some (aD g (i*4))) (n-i) (cap-i)) (by simp[Act.eval,Act.put]) (by simp[Act.eval,Act.put]) (Ac 3 (G-(i+1)) (cap-i)) ?_))
 go_wp2_with fail;go_ret
 exact⟨G,B,rfl,Ay,A3,HF.out.2,Av.out,Au.out,HF.out.1⟩
def c7G(e:Ending)(w':World)(B:Nat)(es:List AcC):Prop:= ∃v,e=.returned v∧eV w' B v es
theorem a9M(B vb:Nat)(v:Value)(es:List AcC)(x:AcC)(w:World)(h:eV w B v es)(hB:B≤w.heap.size)(hn:es.length≤100000)(hv:c1U w vb x)(hx:x.1.size≤9223372036854775807):
  Calls prog 132 #[v,iV es.length,.slice (some (aD vb 0)) 1 1] w fun e w'=>c7G e w' B (es++[x])∧Below B w w':=by
 obtain⟨v',w',A1,A2,A3,_⟩:=b3Q w B v es [x] h hB (aD vb 0) 1 (fun j u hj=>by
  rw[WideShapes.add_plain,c9G];simp only[World.cell?,hv]
  simpa using hj) (fun e he=>by rw[d1Z.1 he];exact hx) (by simp;omega)
 have HR:Hid (c7G (.returned v') w' B (es++[x])∧Below B w w'):=⟨⟨v',rfl,A2⟩,A3⟩;have A0:(Builtin.append_ #[28,28] 28 #[v,.slice (some (aD vb 0)) 1 1]).run prog w=.ok v' w':=A1;clear A1 A2 A3;rcases h.1.2 with⟨rfl,h0⟩|⟨g,A5,A6,rfl,_,_,hc,hm,_⟩
 ·rw[h0];clear h hv;go_enter func132,ntmps132
  go_wp2_with (at_builtin;refine Lib.wpList_append_run _ rfl _ _ _ _ rfl _ _ rfl rfl _ _ A0 ?_);go_ret
  exact HR.out
 ·clear h hv;unfold maxLen at hm;by_cases A4:A5=es.length
  ·subst A4;go_enter func132,ntmps132
   go_wp2_with (at_builtin;refine Lib.wpList_append_run _ rfl _ _ _ _ rfl _ _ rfl rfl _ _ A0 ?_);go_ret
   exact HR.out
  ·go_enter func132,ntmps132
   go_wp2_with (at_builtin;refine Lib.wpList_append_run _ rfl _ _ _ _ rfl _ _ rfl rfl _ _ A0 ?_);go_ret
   exact HR.out
theorem b1M(B i vb:Nat)(v:Value)(es:List AcC)(x:AcC)(w:World)(h:eV w B v es)(hB:B≤w.heap.size)(hi:i≤es.length)(hn:es.length≤100000)(hv:c1U w vb x)(hne:v.ownBlock≠some vb)(hx:x.1.size≤9223372036854775807):
  Calls prog 132 #[v,iV i,.slice (some (aD vb 0)) 1 1] w fun e w'=>c7G e w' B (es.take i++x::es.drop i)∧Below B w w':=by
 have Aa: ∀e,e∈es.take i++x::es.drop i→e.1.size≤9223372036854775807:=fun e he=>by
  rcases List.mem_append.1 he with q|q
  ·exact h.2 e (d2T q)
  ·rcases List.mem_cons.1 q with rfl|q
   ·exact hx
   ·exact h.2 e (d1S q)
 have A0:(es.take i++x::es.drop i).length=es.length+1:=by
  simp;omega
 by_cases he:i=es.length
 ·subst he;have H:=a9M B vb v es x w h hB hn hv hx;rw[d0L,d0T];exact H
 ·rcases h.1.2 with⟨_,h0⟩|⟨g,A3,A4,rfl,A8,hg,hc,hm,Ab,A9⟩
  ·omega
  ·by_cases A1:es.length+1≤A3
   ·refine(a4P g A3 i vb A4 es x w (by omega) A1 (by unfold maxLen at hm;exact hm) Ab hg A9 hv (fun e=>hne (by rw[e];rfl))).mono ?_;rintro e w' ⟨rfl,A2,rfl,A5,A7⟩;have A6:(w.drew.setRow g A2).heap[g]?=some (.cells A2 93 (0,0)):=setRow_heap w.drew g A4 _ 93 _ hg;refine⟨⟨_,rfl,⟨?_,Aa⟩⟩,?_⟩
    ·rw[A0];exact⟨by rw[uI,A0],Or.inr ⟨g,A3,A2,rfl,A8,A6,A1,hm,A5,A7⟩⟩
    ·exact below_setRow (w0:=w) (w:=w.drew) ⟨rfl,rfl,rfl,c9C _,fun _ _=>rfl⟩ A8 A2
   ·refine(a7D g A3 i vb A4 es x w (by omega) hc (by omega) hn hg A9 hv).mono ?_;rintro e w' ⟨G,A2,rfl,Ae,Ad,A6,A5,A7,Ac⟩;refine⟨⟨_,rfl,⟨?_,Aa⟩⟩,Ac.mono hB⟩;rw[A0];exact⟨by rw[uI,A0],Or.inr ⟨w.heap.size,G,A2,rfl,hB,A6,Ae,Ad,A5,A7⟩⟩
def c0V(e:Ending)(w w':World)(B:Nat)(v:Value)(es:List HeC):Prop:= ∃v',e=.returned v'∧w'.ownsRow B 61 2 v' es.length (es.flatMap aI)∧Off (fun k=>v.ownBlock=some k) w w'∧(v'.ownBlock=v.ownBlock∨ ∀g,v'.ownBlock=some g→w.heap.size≤g)
theorem Tryz.sizeH:(Tryz.prog.info? 61).map (·.size)=some 2:=by kernel_rfl
theorem mX(w:World)(ty:TypeId)(g o dLen dCap:Nat)(a:Addr)(sLen sCap n:Nat)(cur:Array Value)(cs:List Value)(hn:n=Nat.min sLen dLen)(hl:cs.length=n*2)
  (hg:w.heap[g]?=some (.cells cur 61 (0,0))) (hsrc: ∀j v,cs[j]?=some v→w.cell? (a.add j)=some v) (hfit:o+cs.length≤cur.size) (h1: ∀v∈cs,v.oneCell'=true):
  (Builtin.copy_ #[56,56] ty #[.slice (some (aD g o)) dLen dCap,.slice (some a) sLen sCap]).run prog w=.ok (goInt n) (w.setRow g (cur.toList.take o++cs++cur.toList.drop (o+cs.length)).toArray):=by
 have A1:=run_loadCells_list (P:=prog) w a cs hsrc;have A0:=run_storeCells_at prog g o 61 cs 0 cur w hg (by simpa using hfit) h1;have hu:=underlying56;cases hq:prog.info? 61 with
 |none=>
  have:=Tryz.sizeH;simp[hq]at this
 |some i=>
  have hi:i.size=2:=by
   have:=Tryz.sizeH;simpa [hq]using this
  simp[Builtin.copy_,run_underlying hu,Builtin.lenOf,Builtin.firstCells,sizeOf,typeInfo,hq,hi,←hn,←hl,A1,A0]
abbrev c4E(w:World)(vb:Nat)(x:HeC):Prop:=w.heap[vb]?=some (.cells (aI x).toArray 61 (0,0))
theorem b1J(g cap i vb:Nat)(cur:Array Value)(es:List HeC)(x:HeC)(w:World)(hi:i<es.length)(hcap:es.length+1≤cap)(hm:cap≤9223372036854775807)(hcs:cur.size=cap*2)
  (hg:w.heap[g]?=some (.cells cur 61 (0,0))) (htk:cur.toList.take (es.length*2)=es.flatMap aI) (hv:c4E w vb x) (hne:vb≠g):
  Calls prog 91 #[.slice (some (aD g 0)) es.length cap,iV i,.slice (some (aD vb 0)) 1 1] w fun e w'=>e=.returned (.slice (some (aD g 0)) (es.length+1) cap)∧ ∃arr:Array Value,w'=w.drew.setRow g arr∧arr.size=cap*2∧arr.toList.take ((es.length+1)*2)=(es.take i++x::es.drop i).flatMap aI:=by
 obtain⟨n,hn⟩: ∃n,n=es.length:=⟨_,rfl⟩;rw[←hn]at hi hcap htk⊢;have HN:=hd8 hn;clear hn;have Ah: ∀w,(Go.sizeOf 61).run prog w=.ok 2 w:=Tryz.sizeOf61;have Ag: ∀lb cb,(callFunc 121 #[.slice (some (aD vb 0)) 1 1,.slice (some ⟨g,(i+1)*2,none⟩) lb cb]).run prog w=.ok (.value (.bool false)) w:=fun lb cb=>by
  rw[run_callFunc_extern func121 (by kernel_rfl) (by kernel_rfl) (by kernel_rfl) (e:=Extern.SlicesOverlaps.overlaps #[56,56] #[4]) (by kernel_rfl),
   Lib.run_overlaps_apart w 56 4 61 underlying56 2 Ah (aD vb 0) ⟨g,(i+1)*2,none⟩ 1 1 lb cb hne 61 61 2 (cap*2) (by simp[World.shape?,hv,aI]) (by simp[World.shape?,hg,hcs]) (by omega) (by simp[World.frozen?,hv]) (by simp[World.frozen?,hv])]
  rfl
 have An: ¬((i:Int)=(n:Int)):=by omega
 have Aj:IntKind.i64.wrap ((i:Int)+1)=(i:Int)+1:=by rw[IntKind.wrap_i64];omega
 have Ai:i≤n:=by omega
 have Ao: ¬(cap=i):=by omega
 have Am: ¬(cap=i+1):=by omega
 have Ap:(0:Int)≤(i:Int)+1:=by omega
 have Al:((i:Int)+1).toNat=i+1:=by omega
 have Ak:(i:Int)≤(n:Int)+1:=by omega
 have Ab:cur.toList.length=cap*2:=by rw[d1B];exact hcs
 obtain⟨A0,A6,A8,Ad⟩:=qZ cur.toList (es.flatMap aI) (aI x) (i*2) (n*2) 2 htk (by omega) (by omega) rfl;have Af:(cur.toList.drop (i*2)).take (n*2-i*2)=(es.flatMap aI).drop (i*2):=by rw[←htk,List.drop_take]
 have A4:((es.flatMap aI).drop (i*2)).length=(n-i)*2:=by
  rw[d0A,zJ,←HN.out];omega
 rw[Af]at A6;have A1: ∀j v,((es.flatMap aI).drop (i*2))[j]?=some v→w.drew.cell? ((⟨g,i*2,none⟩:Addr).add j)=some v:=fun j v hj=>by
  rw[WideShapes.add_plain];rw[←htk,d0J,d0C]at hj;split at hj
  ·simp only[World.cell?,World.drew,hg];simpa using hj
  ·cases hj
 have A7: ∀ty dc sc,(Builtin.copy_ #[56,56] ty #[.slice (some ⟨g,(i+1)*2,none⟩) (n+1-(i+1)) dc,.slice (some (aD g (i*2))) (n+1-i) sc]).run prog w.drew=.ok (goInt (n-i:Nat)) (w.drew.setRow g A0.toArray):=fun ty dc sc=>by
  rw[mX w.drew ty g ((i+1)*2) (n+1-(i+1)) dc (aD g (i*2)) (n+1-i) sc (n-i) cur ((es.flatMap aI).drop (i*2)) (by simp only[Nat.min_def];split<;>omega) A4 hg A1 (by rw[A4];omega) (fun v hv=>uD es v (d1S hv)),A6,A4,show(i+1)*2=i*2+2 by omega,show(n-i)*2=n*2-i*2 by omega]
 have Ac:(w.drew.setRow g A0.toArray).heap[g]?=some (.cells A0.toArray 61 (0,0)):=setRow_heap w.drew g cur _ 61 _ hg;have Ae:(w.drew.setRow g A0.toArray).heap[vb]?=some (.cells (aI x).toArray 61 (0,0)):=by
  rw[setRow_other _ _ _ _ hne];exact hv
 have Aa: ∀j v,(aI x)[j]?=some v→(w.drew.setRow g A0.toArray).cell? ((⟨vb,0,none⟩:Addr).add j)=some v:=fun j v hj=>by
  rw[WideShapes.add_plain,c9G];simp only[World.cell?,Ae];simpa using hj
 have A3: ∀ty dc,(Builtin.copy_ #[56,56] ty #[.slice (some (aD g (i*2))) (n+1-i) dc,.slice (some (aD vb 0)) 1 1]).run prog (w.drew.setRow g A0.toArray)=.ok (goInt (1:Nat)) (w.drew.setRow g ((A0.take (i*2)++aI x++A0.drop (i*2+2))).toArray):=fun ty dc=>by
  rw[mX (w.drew.setRow g A0.toArray) ty g (i*2) (n+1-i) dc (aD vb 0) 1 1 1 A0.toArray (aI x) (by simp only[Nat.min_def];split<;>omega) rfl Ac Aa (by show i*2+2≤A0.toArray.size;rw[d0Q,A8];omega) (fun v hv=>by
   have:=uD [x] v (by simpa using hv)
   exact this),setRow_setRow]
  rfl
 obtain⟨A2,A5⟩: ∃A2:Array Value,A2=(A0.take (i*2)++aI x++A0.drop (i*2+2)).toArray:=⟨_,rfl⟩;rw[←A5]at A3;have HF:Hid (∃arr:Array Value,w.drew.setRow g A2=w.drew.setRow g arr∧arr.size=cap*2∧arr.toList.take ((n+1)*2)=(es.take i++x::es.drop i).flatMap aI):=by
  refine⟨_,rfl,?_,?_⟩
  ·rw[A5,d0Q];simp only[List.length_append,List.length_take,List.length_drop,A8,Ab];show min (i*2) (cap*2)+2+(cap*2-(i*2+2))=cap*2;omega
  ·rw[A5];show(A0.take (i*2)++aI x++A0.drop (i*2+2)).take ((n+1)*2)=_;rw[Ad,d0H,d0K,←jB aI 2 es i (fun _ _=>rfl) (by rw[←HN.out];omega),←kD aI 2 es i (fun _ _=>rfl) (by rw[←HN.out];omega)]
   exact d2I (by
    simp only[List.length_append,List.length_take,zJ,A4];show min (i*2) (es.length*2)+(2+(n-i)*2)=(n+1)*2;rw[←HN.out]
    omega)
 clear A5 A6 A8 Ad Af A4 A1 Ac Ae Aa htk hg hv Ab hcs;have A9:prog.follows Departure.mixedOrders=true:=by kernel_rfl
 go_enter func91,ntmps91
 go_wp2_with (simp only[Ag]);go_region_law_o (go_loud (refine step_copy_runI rfl _ _ 56 56 rfl (.slice (some ⟨g,(i+1)*2,none⟩) (n+1-(i+1)) (cap-(i+1))) (.slice (some (aD g (i*2))) (n+1-i) (cap-i)) (by simp[Act.eval,Act.put]) (by simp[Act.eval,Act.put]) (A7 3 (cap-(i+1)) (cap-i)) ?_))
 go_wp2_with (at_builtin;refine wpList_copy_runI _ rfl _ _ 56 56 rfl _ _ rfl rfl (A3 _ _) ?_);go_ret
 exact⟨rfl,HF.out⟩
theorem b6W(g cap i vb:Nat)(cur:Array Value)(es:List HeC)(x:HeC)(w:World)(hi:i<es.length)(hcap:es.length≤cap)(hcap2:cap<es.length+1)(hsm:es.length≤100000)
  (hg:w.heap[g]?=some (.cells cur 61 (0,0))) (htk:cur.toList.take (es.length*2)=es.flatMap aI) (hv:c4E w vb x):
  Calls prog 91 #[.slice (some (aD g 0)) es.length cap,iV i,.slice (some (aD vb 0)) 1 1] w fun e w'=> ∃(G:Nat) (arr:Array Value),e=.returned (.slice (some (aD w.heap.size 0)) (es.length+1) G)∧es.length+1≤G∧G≤maxLen∧w'.heap[w.heap.size]?=some (.cells arr 61 (0,0))∧arr.size=G*2∧arr.toList.take ((es.length+1)*2)=(es.take i++x::es.drop i).flatMap aI∧Bl w w':=by
 obtain⟨n,hn⟩: ∃n,n=es.length:=⟨_,rfl⟩;rw[←hn]at hi hcap hcap2 htk hsm⊢;have HN:=hd8 hn;clear hn;have Ax:g<w.heap.size:=(d1M.1 hg).1;have Az:vb<w.heap.size:=(d1M.1 hv).1;obtain⟨i4,As,Ai⟩:=c9J.1 Tryz.infoH;simp only[Prod.mk.injEq]at Ai;obtain⟨Ak,Al,Aa⟩:=Ai;have A1:(es.flatMap aI).length=n*2:=by rw[zJ,←HN.out]
 have A4:(Builtin.firstCells i4.size i (.slice (some (aD g 0)) i cap)).run prog w.drew=.ok ((es.flatMap aI).take (i*2)).toArray w.drew:=by
  rw[Al];refine run_firstCells_some w.drew 2 i (aD g 0) i cap _ (by rw[c9K,A1];omega) (fun j v hj=>?_);rw[WideShapes.add_plain,c9G];rw[d0C]at hj;split at hj
  ·rw[←htk,d0C]at hj;split at hj
   ·simp only[World.cell?,World.drew,hg];simpa using hj
   ·cases hj
  ·cases hj
 have Aq:(n:Int)+1-(i:Int)=((n+1-i:Nat):Int):=by omega
 have Ad:i+(n+1-i)=n+1:=by omega
 obtain⟨G,hG⟩: ∃G,G=grownCap w (n+1) cap 61:=⟨_,rfl⟩;have Ay:n+1≤G:=by rw[hG];exact grownCap_ge w _ _ _
 have A3:G≤maxLen:=by
  rw[hG];exact grownCap_le_maxLen w (n+1) cap 61 (by unfold maxLen;omega)
 obtain⟨A0,A2⟩: ∃A0:Array Value,A0=((es.flatMap aI).take (i*2)).toArray++Builtin.zeroCells (Value.agg #[iV 0,nS]).cells (n+1-i)++Builtin.zeroCells (Value.agg #[iV 0,nS]).cells (G-(n+1)):=⟨_,rfl⟩;have Aj: ∀ty,(Builtin.append_ #[56,3] ty #[.slice (some (aD g 0)) i cap,iV ((n:Int)+1-(i:Int))]).run prog w=.ok (.slice (some (aD w.heap.size 0)) (n+1) G) (w.drew.alloc (.cells A0 61)):=fun ty=>by
  have h:=Lib.run_append_grow_zeros (P:=prog) w 56 3 ty 61 i4 _ .i64 .i64 underlying56 underlying3 As Ak (some (aD g 0)) i cap _ A4 (n+1-i) (by omega) (by omega) (by omega) (by omega) (by rw[Aa];omega) (by rw[Aa,Ad];exact growslice_fits (by omega) (by omega));rw[Ad,←hG,←A2]at h;rw[Aq];exact h
 have Ab: ∀k,(Builtin.zeroCells (Value.agg #[iV 0,nS]).cells k).size=k*2:=fun k=>by
  simp[Builtin.zeroCells,Value.cells]
 have A7:A0.toList.length=G*2:=by
  rw[d1B,A2,d2R,d2R,Ab,Ab,d0Q,c9K,A1];omega
 have Ah:A0.toList.take (i*2)=(es.flatMap aI).take (i*2):=by
  rw[A2,d2M,d2M,c9X];exact d2I (by rw[c9K,A1];omega)
 obtain⟨A,An,Ap,Af⟩:=vC A0.toList (es.flatMap aI) (aI x) (i*2) (n*2) 2 (by omega) (by omega) Ah rfl;obtain⟨B,hB⟩: ∃B:Array Value,B=(A.take (i*2+2)++(es.flatMap aI).drop (i*2)++A.drop (i*2+2+(n*2-i*2))).toArray:=⟨_,rfl⟩;have A8:((es.flatMap aI).drop (i*2)).length=(n-i)*2:=by
  rw[d0A,A1];omega
 have A5: ∀(W:World),W.heap[w.heap.size]?=some (.cells A0 61 (0,0))→W.heap[vb]?=w.heap[vb]?→ ∀ty dc,(Builtin.copy_ #[56,56] ty #[.slice (some (aD w.heap.size (i*2))) (n+1-i) dc,.slice (some (aD vb 0)) 1 1]).run prog W=.ok (goInt (1:Nat)) (W.setRow w.heap.size A.toArray):=fun W hW1 hW2 ty dc=>by
  rw[mX W ty w.heap.size (i*2) (n+1-i) dc (aD vb 0) 1 1 1 A0 (aI x) (by simp only[Nat.min_def];split<;>omega) rfl hW1 (fun j v hj=>by
   rw[WideShapes.add_plain,c9G];rw[hv]at hW2;simp only[World.cell?,hW2]
   simpa using hj) (by show i*2+2≤A0.size;rw[←d1B,A7];omega) (fun v hv=>uD [x] v (by simpa using hv)),An]
  rfl
 have A6: ∀(W:World),W.heap[w.heap.size]?=some (.cells A.toArray 61 (0,0))→W.heap[g]?=w.heap[g]?→ ∀ty dc sc,(Builtin.copy_ #[56,56] ty #[.slice (some ⟨w.heap.size,(i+1)*2,none⟩) (n+1-(i+1)) dc,.slice (some (aD g (i*2))) (n-i) sc]).run prog W=.ok (goInt (n-i:Nat)) (W.setRow w.heap.size B):=fun W hW1 hW2 ty dc sc=>by
  rw[mX W ty w.heap.size ((i+1)*2) (n+1-(i+1)) dc (aD g (i*2)) (n-i) sc (n-i) A.toArray ((es.flatMap aI).drop (i*2)) (by simp only[Nat.min_def];split<;>omega) A8 hW1 (fun j v hj=>by
   rw[WideShapes.add_plain];rw[←htk,d0J,d0C]at hj;split at hj
   ·rw[hg]at hW2;simp only[World.cell?,hW2];simpa using hj
   ·cases hj) (by rw[A8,List.size_toArray,Ap,A7];omega) (fun v hv=>uD es v (d1S hv)),A8,hB,show(i+1)*2=i*2+2 by omega,show(n-i)*2=n*2-i*2 by omega]
 have Av:Hid (B.size=G*2):=by
  show B.size=G*2;rw[hB,d0Q,Af];simp only[List.length_append,List.length_take,List.length_drop,A1,A7];show min (i*2) (n*2)+(2+(n*2-i*2))+(G*2-(n*2+2))=G*2;omega
 have Au:Hid (B.toList.take ((n+1)*2)=(es.take i++x::es.drop i).flatMap aI):=by
  show B.toList.take ((n+1)*2)=_;rw[hB];show(A.take (i*2+2)++(es.flatMap aI).drop (i*2)++A.drop (i*2+2+(n*2-i*2))).take ((n+1)*2)=_;rw[Af,d0H,d0K,←jB aI 2 es i (fun _ _=>rfl) (by rw[←HN.out];omega),←kD aI 2 es i (fun _ _=>rfl) (by rw[←HN.out];omega)]
  exact d2I (by
   simp only[List.length_append,List.length_take,List.length_drop,A1];show min (i*2) (n*2)+(2+(n*2-i*2))=(n+1)*2
   omega)
 have h0:(w.drew.alloc (.cells A0 61)).heap[w.heap.size]?=some (.cells A0 61 (0,0)):=heap_alloc_new w.drew _;have Ao:(w.drew.alloc (.cells A0 61)).heap[vb]?=w.heap[vb]?:=Deep.blk_alloc_lt w.drew _ _ Az;have At:(w.drew.alloc (.cells A0 61)).heap[g]?=w.heap[g]?:=Deep.blk_alloc_lt w.drew _ _ Ax;have Ae:=A5 (w.drew.alloc (.cells A0 61)) h0 Ao;have h1:((w.drew.alloc (.cells A0 61)).setRow w.heap.size A.toArray).heap[w.heap.size]?=some (.cells A.toArray 61 (0,0)):=setRow_heap _ _ A0 _ 61 _ h0;have Am:((w.drew.alloc (.cells A0 61)).setRow w.heap.size A.toArray).heap[g]?=w.heap[g]?:=by
  rw[setRow_other _ _ _ _ (by omega)];exact At
 have Ac:=A6 ((w.drew.alloc (.cells A0 61)).setRow w.heap.size A.toArray).drew h1 Am;have h2:(((w.drew.alloc (.cells A0 61)).setRow w.heap.size A.toArray).drew.setRow w.heap.size B).heap[w.heap.size]?=some (.cells B 61 (0,0)):=setRow_heap _ _ A.toArray _ 61 _ h1;have A9:Bl w (((w.drew.alloc (.cells A0 61)).setRow w.heap.size A.toArray).drew.setRow w.heap.size B):=by
  have b0:Bl w w.drew:=⟨rfl,rfl,rfl,c9C _,fun _ _=>rfl⟩;have b1:=b0.alloc (c9C _) (.cells A0 61);have b2:=below_setRow b1 (c9C _) A.toArray;exact below_setRow (w:=((w.drew.alloc (.cells A0 61)).setRow w.heap.size A.toArray).drew) ⟨b2.os,b2.tape,b2.output,b2.size,b2.block⟩ (c9C _) B
 generalize hW1:w.drew.alloc (.cells A0 61)=W1 at Aj Ae Ac h2 A9;generalize hW2:W1.setRow w.heap.size A.toArray=W2 at Ae Ac h2 A9;have HF:Hid (Bl w (W2.drew.setRow w.heap.size B)∧(W2.drew.setRow w.heap.size B).heap[w.heap.size]?=some (.cells B 61 (0,0))):=⟨A9,h2⟩;clear hW1 hW2 A9 h2 h1 Am h0 Ao At A5 A6 hB An Ap Af Ah A7 Ab A2 A4 A8 htk hg hv As Ak Al Aa Aq Ad hG A1;have B4: ¬((i:Int)=(n:Int)):=by omega
 have B8:(cap:Int)<(n:Int)+1:=by omega
 have B1:IntKind.i64.wrap ((i:Int)+1)=(i:Int)+1:=by rw[IntKind.wrap_i64];omega
 have B0:i≤n:=by omega
 have B7:(0:Int)≤(i:Int)+1:=by omega
 have B3:((i:Int)+1).toNat=i+1:=by omega
 have B2:(i:Int)≤(n:Int):=by omega
 have B5: ¬(G=i):=by omega
 have Aw: ¬(G=i+1):=by omega
 have B6: ¬(cap=i):=by omega
 have Ar:G≤9223372036854775807:=by unfold maxLen at A3;omega
 have Ag:prog.follows Departure.mixedOrders=true:=by kernel_rfl
 go_enter func91,ntmps91
 go_wp2_with (first|(at_builtin;refine Lib.wpList_append_run _ rfl _ _ _ _ rfl _ _ rfl rfl _ _ (Aj _) ?_)|(at_builtin;refine wpList_copy_runI _ rfl _ _ 56 56 rfl _ _ rfl rfl (Ae _ _) ?_));go_region_law_o (go_loud (refine step_copy_runI rfl _ _ 56 56 rfl (.slice (some ⟨w.heap.size,(i+1)*2,none⟩) (n+1-(i+1)) (G-(i+1))) (.slice (some (aD g (i*2))) (n-i) (cap-i)) (by simp[Act.eval,Act.put]) (by simp[Act.eval,Act.put]) (Ac 3 (G-(i+1)) (cap-i)) ?_))
 go_wp2_with fail;go_ret
 exact⟨G,B,rfl,Ay,A3,HF.out.2,Av.out,Au.out,HF.out.1⟩
theorem b8U(B vb:Nat)(v:Value)(es:List HeC)(x:HeC)(w:World)(h:w.ownsRow B 61 2 v es.length (es.flatMap aI))(hB:B≤w.heap.size)(hn:es.length≤100000)(hv:c4E w vb x):
  Calls prog 91 #[v,iV es.length,.slice (some (aD vb 0)) 1 1] w fun e w'=>c0V e w w' B v (es++[x]):=by
 obtain⟨i4,A8,A1⟩:=c9J.1 Tryz.infoH;simp only[Prod.mk.injEq]at A1;obtain⟨A4,A5,A3⟩:=A1
 obtain⟨v',w',A0,ho,hg,_,A2⟩:=run_append_own_at (P:=prog) w B 56 56 61 i4 _ 2 32 underlying56 A8 A4 A5 A3 rfl (by decide) v es.length _ h (aD vb 0) 1 1 (aI x) rfl (fun j u hj=>by
  rw[WideShapes.add_plain,c9G];simp only[World.cell?,hv]
  simpa using hj) (fun u hu=>uD [x] u (by simpa using hu)) (by unfold maxLen;omega) (by omega) hB
 have HR:Hid (c0V (.returned v') w w' B v (es++[x])):=by
  refine⟨v',rfl,?_,cJ hg,?_⟩
  ·rw[c9I,d0H,List.length_singleton,d0K,List.flatMap_nil,d0W];exact ho
  ·rcases A2 with q|q
   ·exact Or.inl q
   ·refine Or.inr fun g hg=>?_;rw[q]at hg;cases hg
    exact c9C _
 clear ho hg A2;rcases h.2 with⟨rfl,h0⟩|⟨g,A7,A9,rfl,_,_,hc,hm,_⟩
 ·rw[h0];clear h hv;go_enter func91,ntmps91
  go_wp2_with (at_builtin;refine Lib.wpList_append_run _ rfl _ _ _ _ rfl _ _ rfl rfl _ _ A0 ?_);go_ret
  exact HR.out
 ·clear h hv;unfold maxLen at hm;by_cases A6:A7=es.length
  ·subst A6;go_enter func91,ntmps91
   go_wp2_with (at_builtin;refine Lib.wpList_append_run _ rfl _ _ _ _ rfl _ _ rfl rfl _ _ A0 ?_);go_ret
   exact HR.out
  ·go_enter func91,ntmps91
   go_wp2_with (at_builtin;refine Lib.wpList_append_run _ rfl _ _ _ _ rfl _ _ rfl rfl _ _ A0 ?_);go_ret
   exact HR.out
theorem c0U(B i vb:Nat)(v:Value)(es:List HeC)(x:HeC)(w:World)(h:w.ownsRow B 61 2 v es.length (es.flatMap aI))(hB:B≤w.heap.size)(hi:i≤es.length)(hn:es.length≤100000)(hv:c4E w vb x)(hne:v.ownBlock≠some vb):
  Calls prog 91 #[v,iV i,.slice (some (aD vb 0)) 1 1] w fun e w'=>c0V e w w' B v (es.take i++x::es.drop i):=by
 have A0:(es.take i++x::es.drop i).length=es.length+1:=by
  simp;omega
 by_cases he:i=es.length
 ·subst he;have H:=b8U B vb v es x w h hB hn hv;rw[d0L,d0T];exact H
 ·rcases h.2 with⟨_,h0⟩|⟨g,A3,A4,rfl,A9,hg,hc,hm,Aa,A8⟩
  ·omega
  ·by_cases A1:es.length+1≤A3
   ·refine(b1J g A3 i vb A4 es x w (by omega) A1 (by unfold maxLen at hm;exact hm) Aa hg A8 hv (fun e=>hne (by rw[e];rfl))).mono ?_;rintro e w' ⟨rfl,A2,rfl,A5,A7⟩;have A6:(w.drew.setRow g A2).heap[g]?=some (.cells A2 61 (0,0)):=setRow_heap w.drew g A4 _ 61 _ hg;refine⟨_,rfl,?_,?_,Or.inl rfl⟩
    ·rw[A0];exact⟨by rw[zJ,A0],Or.inr ⟨g,A3,A2,rfl,A9,A6,A1,hm,A5,A7⟩⟩
    ·exact zV w g A2
   ·refine(b6W g A3 i vb A4 es x w (by omega) hc (by omega) hn hg A8 hv).mono ?_;rintro e w' ⟨G,A2,rfl,Ad,Ac,A6,A5,A7,Ab⟩;refine⟨_,rfl,?_,Off.of_below Ab,Or.inr fun x hx=>?_⟩
    ·rw[A0];exact⟨by rw[zJ,A0],Or.inr ⟨w.heap.size,G,A2,rfl,hB,A6,Ad,Ac,A5,A7⟩⟩
    ·cases hx
     exact c9C _
theorem sW{α β:Type}(f:α→List β)(m:Nat): ∀(l:List α) (i t:Nat) (a a':α) (u:β),(∀a,a∈l→(f a).length=m)→t<m→l[i]?=some a→f a'=(f a).set t u→(l.flatMap f).set (i*m+t) u=(l.set i a').flatMap f
 |[],i,t,a,a',u,_,_,h,_=>by cases h
 |x::l,0,t,a,a',u,hm,ht,h,hf=>by
  cases h
  rw[d0K,List.set_cons_zero,d0K,Nat.zero_mul,c9G,List.set_append_left _ _ (by rw[hm x c9W];exact ht),hf]
 |x::l,i+1,t,a,a',u,hm,ht,h,hf=>by
  have hx:=hm x c9W
  rw[d0K,List.set_cons_succ,d0K,List.set_append_right _ _ (by rw[hx,d0F];omega),hx,show(i+1)*m+t-m=i*m+t by rw[d0F];omega,sW f m l i t a a' u (fun a ha=>hm a (c9Y _ ha)) ht (by simpa using h) hf]
theorem eV.store{es:List AcC}(h:eV w B (.slice (some (aD g 0)) n cap) es)(hn:n=es.length){q:AcC}(hi:es[i]?=some q)(t:Nat)(ht:t<4)(u:Value)(q':AcC)(hq:aP q'=(aP q).set t u)(hs:q'.1.size≤9223372036854775807):
  eV (w.setCell (aD g (i*4+t)) u) B (.slice (some (aD g 0)) n cap) (es.set i q')∧Below B w (w.setCell (aD g (i*4+t)) u):=by
 subst hn;have hB:=(h.1.lt g rfl).1;obtain⟨h1,_⟩:=h.1.stored (i*4+t) u;refine⟨⟨?_,fun e he=>?_⟩,(Below.refl B w).setCell hB u⟩
 ·rw[d0B,←sW aP 4 es i t q q' u (fun _ _=>rfl) ht hi hq];exact h1
 ·rcases List.mem_or_eq_of_mem_set he with k|rfl
  ·exact h.2 e k
  ·exact hs
theorem eV.at{es:List AcC}(h:eV w B (.slice (some (aD g 0)) n cap) es){q:AcC}(hi:es[i]?=some q):
  w.cell? (aD g (i*4))=some (.string q.1)∧w.cell? (aD g (i*4+1))=some (iV q.2.1)∧w.cell? (aD g (i*4+2))=some (iV q.2.2.1)∧w.cell? (aD g (i*4+3))=some (.bool q.2.2.2)∧ ∀j,w.frozen? (aD g j)=false:=by
 have hc: ∀j u,(es.flatMap aP)[j]?=some u→w.cell? (aD g j)=some u:=fun j u hj=>by
  have:=h.1.cells (g:=g) rfl j u hj;rw[WideShapes.add_plain,c9G]at this;exact this
 have hf:=fun t ht=>dQ aP 4 es (fun _ _=>rfl) i t ht q hi;exact⟨hc _ _ (hf 0 (by decide)),hc _ _ (hf 1 (by decide)),hc _ _ (hf 2 (by decide)),hc _ _ (hf 3 (by decide)),kZ h.1 rfl⟩
def a6B(q:AcC)(k m:Int):AcC:=(q.1,if k=2 then q.2.1+m else if k=3 then q.2.1-m else q.2.1,q.2.2.1+1,if k=1 then true else if k=4 then false else q.2.2.2)
theorem b3K(q:AcC)(n:List Nat)(k m:Int):gD (a6B q k m)=Vw.chg (gD q) ⟨n,k,m⟩:=rfl
def ChgO(e:Ending)(w w':World)(B:Nat)(v:Value)(es:List AcC):Prop:=e=.returned (.tuple #[])∧eV w' B v es∧Below B w w'
theorem Tryz.enters_chg: ∀args w,(callFunc 133 args).run Tryz.prog w=.ok (.enter 133 args) w:=enters_of Tryz.func133 (by kernel_rfl) rfl
theorem b4L(B g n cap i p:Nat)(es:List AcC)(q:AcC)(k m:Int)(w:World)(h:eV w B (.slice (some (aD g 0)) n cap) es)(hn:n=es.length)(hi:es[i]?=some q)(hpB:p<B)
  (e1:w.cell? (aD p 1)=some (iV k)) (e2:w.cell? (aD p 2)=some (iV m)) (hk1:1≤k) (hk4:k≤4) (hm0:0≤m) (hm1:m≤1000000)
  (hc0:0≤q.2.2.1) (hc1:q.2.2.1≤150) (hs0: -150000000≤q.2.1) (hs1:q.2.1≤150000000):
  Calls prog 133 #[.pointer (some (aD g (i*4))),.pointer (some (aD p 0))] w fun e w'=>ChgO e w w' B (.slice (some (aD g 0)) n cap) (es.set i (a6B q k m)):=by
 obtain⟨s0,S,c,b⟩:=q;have A3:=h.2 _ (c9N hi);have hB:=(h.1.lt g rfl).1;have A7:p≠g:=by omega
 obtain⟨d0,d1,d2,d3,fr⟩:=h.at hi;have f1:=fr (i*4+1);have f2:=fr (i*4+2);have f3:=fr (i*4+3);obtain⟨A1,b1⟩:=h.store hn hi 2 (by decide) (iV (c+1)) (s0,S,c+1,b) rfl A3;have A4:i<es.length:=(c9H.1 hi).1;have A0:(es.set i (s0,S,c+1,b))[i]?=some (s0,S,c+1,b):=by simp[A4]
 have hc0:0≤c:=hc0;have hc1:c≤150:=hc1;have hs0: -150000000≤S:=hs0;have hs1:S≤150000000:=hs1;have hw:wrap64 (c+1)=c+1:=by
  unfold wrap64;omega
 have A6:wrap64 (S+m)=S+m:=by
  unfold wrap64;omega
 have A5:wrap64 (S-m)=S-m:=by
  unfold wrap64;omega
 rcases(show k=1∨k=2∨k=3∨k=4 by omega)with rfl|rfl|rfl|rfl
 ·obtain⟨A2,b2⟩:=eV.store A1 (by rw[d0B];exact hn) A0 3 (by decide) (.bool true) (s0,S,c+1,true) rfl A3;rw[List.set_set]at A2;have HA:Hid (eV ((w.setCell (aD g (i*4+2)) (iV (c+1))).setCell (aD g (i*4+3)) (.bool true)) B (.slice (some (aD g 0)) n cap) (es.set i (a6B (s0,S,c,b) 1 m))∧Below B w ((w.setCell (aD g (i*4+2)) (iV (c+1))).setCell (aD g (i*4+3)) (.bool true))):=⟨A2,b1.trans b2⟩;clear h hi A1 A2 b1 b2 A0 hn fr;go_enter func133,ntmps133
  go_wp2_with fail;go_end0
  exact⟨rfl,HA.out.1,HA.out.2⟩
 ·obtain⟨A2,b2⟩:=eV.store (show eV (w.setCell (aD g (i*4+2)) (iV (c+1))).drew B (.slice (some (aD g 0)) n cap) _ from A1) (by rw[d0B];exact hn) A0 1 (by decide) (iV (S+m)) (s0,S+m,c+1,b) rfl A3;rw[List.set_set]at A2;have HA:Hid (eV ((w.setCell (aD g (i*4+2)) (iV (c+1))).drew.setCell (aD g (i*4+1)) (iV (S+m))) B (.slice (some (aD g 0)) n cap) (es.set i (a6B (s0,S,c,b) 2 m))∧Below B w ((w.setCell (aD g (i*4+2)) (iV (c+1))).drew.setCell (aD g (i*4+1)) (iV (S+m)))):=⟨A2,(show Below B w (w.setCell (aD g (i*4+2)) (iV (c+1))).drew from⟨b1.os,b1.tape,b1.output,b1.size,b1.block⟩).trans b2⟩;clear h hi A1 A2 b1 b2 A0 hn fr;go_enter func133,ntmps133
  go_wp2_with fail;go_region
  go_wp2_with fail;go_end0
  exact⟨rfl,HA.out.1,HA.out.2⟩
 ·obtain⟨A2,b2⟩:=eV.store (show eV (w.setCell (aD g (i*4+2)) (iV (c+1))).drew B (.slice (some (aD g 0)) n cap) _ from A1) (by rw[d0B];exact hn) A0 1 (by decide) (iV (S-m)) (s0,S-m,c+1,b) rfl A3;rw[List.set_set]at A2;have HA:Hid (eV ((w.setCell (aD g (i*4+2)) (iV (c+1))).drew.setCell (aD g (i*4+1)) (iV (S-m))) B (.slice (some (aD g 0)) n cap) (es.set i (a6B (s0,S,c,b) 3 m))∧Below B w ((w.setCell (aD g (i*4+2)) (iV (c+1))).drew.setCell (aD g (i*4+1)) (iV (S-m)))):=⟨A2,(show Below B w (w.setCell (aD g (i*4+2)) (iV (c+1))).drew from⟨b1.os,b1.tape,b1.output,b1.size,b1.block⟩).trans b2⟩;clear h hi A1 A2 b1 b2 A0 hn fr;go_enter func133,ntmps133
  go_wp2_with fail;go_region
  go_wp2_with fail;go_end0
  exact⟨rfl,HA.out.1,HA.out.2⟩
 ·obtain⟨A2,b2⟩:=eV.store A1 (by rw[d0B];exact hn) A0 3 (by decide) (.bool false) (s0,S,c+1,false) rfl A3;rw[List.set_set]at A2;have HA:Hid (eV ((w.setCell (aD g (i*4+2)) (iV (c+1))).setCell (aD g (i*4+3)) (.bool false)) B (.slice (some (aD g 0)) n cap) (es.set i (a6B (s0,S,c,b) 4 m))∧Below B w ((w.setCell (aD g (i*4+2)) (iV (c+1))).setCell (aD g (i*4+3)) (.bool false))):=⟨A2,b1.trans b2⟩;clear h hi A1 A2 b1 b2 A0 hn fr;go_enter func133,ntmps133
  go_wp2_with fail;go_end0
  exact⟨rfl,HA.out.1,HA.out.2⟩
def PutO(e:Ending)(w':World)(N:Nat)(l:List Vw.Acc):Prop:= ∃v es,e=.returned v∧es.map gD=l∧eV w' N v es
theorem a6K(u:Int)(t s:ByteArray)(k m:Int)(p:Nat)(vs:Value)(l:List Vw.Acc)(w:World)(h:bJ w vs l)(hr:Vw.iQ u l)(ht:t.size≤9223372036854775807)
  (e0:w.cell? (aD p 0)=some (.string s)) (e1:w.cell? (aD p 1)=some (iV k)) (e2:w.cell? (aD p 2)=some (iV m)) (hk1:1≤k) (hk4:k≤4) (hm0:0≤m) (hm1:m≤1000000):
  Calls prog 105 #[vs,.string t,.func (.func 133) #[] #[.pointer (some (aD p 0))]] w fun e w'=>PutO e w' w.heap.size (Vw.put l ⟨nb t,k,m⟩)∧Bl w w':=by
 have eg:=Tryz.enters_chg;have At:=hr.len;have A3:p<w.heap.size:=World.block_lt_of_cell? _ _ e0;have H1:=b1A t vs l w h hr.srt hr.len;have HR:=hd8 hr;clear hr;go_enter func105,ntmps105
 go_wp2_with fail;refine H1.mono ?_;rintro e w1 ⟨⟨i,y,rfl,Ac,Ah⟩,b1⟩;have Au:i≤l.length:=Ac.1;have HC:=hd8 Ac;have HY:=hd8 Ah;clear Ac Ah;have H2:=xQ vs l w1 (h.below b1) (by omega);clear H1;go_wp2_with fail;refine H2.mono ?_;rintro e w2 ⟨⟨v2,es,rfl,Ad,Aa⟩,b2⟩;have A9:=bt b1 b2;have A4:eV w2 w.heap.size v2 es:=⟨⟨Aa.1.1,Aa.1.2.imp id (fun⟨g,A7,cur,q1,q2,q3⟩=>⟨g,A7,cur,q1,c9E b1.size q2,q3⟩)⟩,Aa.2⟩;have A2:es.length=l.length:=by rw[←Ad,c9M]
 have HE:=hd8 Ad;have Aj:=hd8 A2;clear H2 Ad A2 Aa;cases y with
 |true=>
  have A2:=Aj.out;obtain⟨a,A5,Ai⟩:=HY.out.1 rfl;have A6:i<es.length:=by
   rw[A2];exact(c9H.1 A5).1
  obtain⟨q,hq⟩: ∃q,es[i]?=some q:=⟨es[i],c9F A6⟩;have Ab:gD q=a:=by
   have:=HE.out;rw[←this,c9S,hq]at A5;exact Option.some.inj A5
  obtain⟨r1,r2,r3,r4⟩:0≤q.2.2.1∧q.2.2.1≤150∧ -150000000≤q.2.1∧q.2.1≤150000000:=by
   obtain⟨_,r1,r2,r3,r4⟩:=Vw.fL (HR.out.acc a (c9N A5));have ru:=HR.out.hi;rw[←Ab]at r1 r2 r3 r4;have r1:1≤q.2.2.1:=r1;have r2:q.2.2.1≤u:=r2;have r3:q.2.1≤1000000*q.2.2.1:=r3;have r4: -(1000000*q.2.2.1)≤q.2.1:=r4;omega
  have HP:Hid ((es.set i (a6B q k m)).map gD=Vw.put l ⟨nb t,k,m⟩):=by
   show _=_;rw[Vw.a3B (e:=⟨nb t,k,m⟩) HC.out A5 Ai,List.map_set,HE.out,b3K q (nb t) k m,Ab]
  obtain⟨g,A7,As,Al,Ar,Ag,Aq,An⟩:=dB A4.1 (by omega);subst As;unfold maxLen at Ag;clear An;have H3:=b4L w.heap.size g es.length A7 i p es q k m w2 A4 rfl hq A3 ((A9.cell (p:=⟨p,1,none⟩) A3).trans e1) ((A9.cell (p:=⟨p,2,none⟩) A3).trans e2) hk1 hk4 hm0 hm1 r1 r2 r3 r4;have Ae:(i:Int)<(es.length:Int):=by omega
  clear A2 A6 A4 hq Ab A5 Ai r1 r2 r3 r4;go_wp2_with fail;refine H3.mono ?_;rintro e w3 ⟨rfl,A8,b3⟩;clear H3;go_wp2_with fail;go_ret
  exact⟨⟨_,_,rfl,HP.out,A8⟩,A9.trans b3⟩
 |false=>
  have HN:Hid (∀a,l[i]?=some a→a.name≠nb t):=fun a ha e=>absurd (HY.out.2 ⟨a,ha,e⟩) (by decide);have Ak:c1U (w2.alloc (.cells #[.string t,iV 0,iV 0,.bool false] 93)) w2.heap.size (t,0,0,false):=heap_alloc_new w2 _;have Af:=aB8 w2 (.cells #[.string t,iV 0,iV 0,.bool false] 93);have A2:=Aj.out
  have H3:=b1M w.heap.size i w2.heap.size v2 es (t,0,0,false) _ (A4.below Af) (c9E A9.size Af.size) (by omega) (by omega) Ak (fun e=>by
   have:=(A4.1.lt _ e).2
   omega) ht
  have Am:=bt A9 Af;obtain⟨A1,A0⟩: ∃A1,A1=es.take i++((t,0,0,false):AcC)::es.drop i:=⟨_,rfl⟩;rw[←A0]at H3;have Ae:i<A1.length:=by
   rw[A0];simp;omega
  have hq:A1[i]?=some (t,0,0,false):=by
   rw[A0,d0S (by rw[c9K];omega),c9K,show i-min i es.length=0 by omega];rfl
  have HP:Hid ((A1.set i (a6B (t,0,0,false) k m)).map gD=Vw.put l ⟨nb t,k,m⟩):=by
   show _=_;rw[Vw.b3A (e:=⟨nb t,k,m⟩) HC.out HN.out,A0,List.set_append_right _ _ (by rw[c9K];omega),c9K,show i-min i es.length=0 by omega,List.set_cons_zero,c9U,d1R,List.map_take,List.map_drop,HE.out,b3K _ (nb t) k m];rfl
  clear Ak A4 A2 A0;go_wp2_with fail;refine H3.mono ?_;rintro e w3 ⟨⟨v3,rfl,A8⟩,b3⟩;have b3:=Am.trans b3;obtain⟨g,A7,rfl,Al,Ar,Ag,Aq,_⟩:=dB A8.1 (by omega);unfold maxLen at Ag;have H4:=b4L w.heap.size g A1.length A7 i p A1 (t,0,0,false) k m w3 A8 rfl hq A3 ((b3.cell (p:=⟨p,1,none⟩) A3).trans e1) ((b3.cell (p:=⟨p,2,none⟩) A3).trans e2) hk1 hk4 hm0 hm1 (d1Q 0) (by show(0:Int)≤150;omega) (by show -150000000≤(0:Int);omega) (by show(0:Int)≤150000000;omega);have Ap:(i:Int)<(A1.length:Int):=by omega
  clear H3 A8 hq;go_wp2_with fail;refine H4.mono ?_;rintro e w4 ⟨rfl,Ao,b4⟩;clear H4;go_wp2_with fail;go_ret
  exact⟨⟨_,_,rfl,HP.out,Ao⟩,b3.trans b4⟩
end Go.Proofs.YtmcaejooaaahdaaGreat
