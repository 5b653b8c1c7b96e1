import Derived.Test.YtmcaejooaaahdaaGreatZ15
set_option maxHeartbeats 8000000
set_option maxRecDepth 100000
namespace Go.Proofs.YtmcaejooaaahdaaGreat
open Go.Proofs.Tryz
variable {a0 a1 a2 a3 a4 a5 a6 a7:Value} {l:List Value} {p:Nat} {t:TypeId} {w:World}
open Go.RowKit
def c0N(e:Ending)(w w':World)(B:Nat)(v:Value)(es:List Int):Prop:= ∃v',e=.returned v'∧w'.ownsRow B 3 1 v' es.length (es.flatMap aE)∧Off (fun k=>v.ownBlock=some k) w w'∧(v'.ownBlock=v.ownBlock∨ ∀g,v'.ownBlock=some g→w.heap.size≤g)
theorem xE(es:List Int)(i:Nat)(h:i≤es.length):(es.flatMap aE).take i=(es.take i).flatMap aE:=by
 have:=iZ aE 1 es i (fun _ _=>rfl) h;rwa[d1X]at this
theorem zE(es:List Int)(i:Nat)(h:i≤es.length):(es.flatMap aE).drop i=(es.drop i).flatMap aE:=by
 have:=kC aE 1 es i (fun _ _=>rfl) h;rwa[d1X]at this
theorem Tryz.sizeI:(Tryz.prog.info? 3).map (·.size)=some 1:=by kernel_rfl
theorem mN(w:World)(ty:TypeId)(g o dLen dCap:Nat)(a:Addr)(sLen sCap n:Nat)(cur:Array Value)(cs:List Value)(hn:n=Nat.min sLen dLen)(hl:cs.length=n)
  (hg:w.heap[g]?=some (.cells cur 3 (0,0))) (hsrc: ∀j v,cs[j]?=some v→w.cell? (a.add j)=some v) (hfit:o+cs.length≤cur.size) (h1: ∀v∈cs,v.oneCell'=true):
  (Builtin.copy_ #[27,27] ty #[.slice (some (aD g o)) dLen dCap,.slice (some a) sLen sCap]).run prog w=.ok (goInt n) (w.setRow g (cur.toList.take o++cs++cur.toList.drop (o+cs.length)).toArray):=by
 have A0:=run_loadCells_list (P:=prog) w a cs hsrc;have A1:=run_storeCells_at prog g o 3 cs 0 cur w hg (by simpa using hfit) h1;have hu:=underlying27;cases hq:prog.info? 3 with
 |none=>
  have:=Tryz.sizeI;simp[hq]at this
 |some i=>
  have hi:i.size=1:=by
   have:=Tryz.sizeI;simpa [hq]using this
  simp[Builtin.copy_,run_underlying hu,Builtin.lenOf,Builtin.firstCells,sizeOf,typeInfo,hq,hi,←hn,←hl,A0,A1]
abbrev c3V(w:World)(vb:Nat)(x:Int):Prop:=w.heap[vb]?=some (.cells (aE x).toArray 3 (0,0))
theorem a9O(g cap i vb:Nat)(cur:Array Value)(es:List Int)(x:Int)(w:World)(hi:i<es.length)(hcap:es.length+1≤cap)(hm:cap≤9223372036854775807)(hcs:cur.size=cap)
  (hg:w.heap[g]?=some (.cells cur 3 (0,0))) (htk:cur.toList.take (es.length)=es.flatMap aE) (hv:c3V w vb x) (hne:vb≠g):
  Calls prog 46 #[.slice (some (aD g 0)) es.length cap,iV i,.slice (some (aD vb 0)) 1 1] w fun e w'=>e=.returned (.slice (some (aD g 0)) (es.length+1) cap)∧ ∃arr:Array Value,w'=w.drew.setRow g arr∧arr.size=cap∧arr.toList.take ((es.length+1))=(es.take i++x::es.drop i).flatMap aE:=by
 obtain⟨n,hn⟩: ∃n,n=es.length:=⟨_,rfl⟩;rw[←hn]at hi hcap htk⊢;have HN:=hd8 hn;clear hn;have Ah: ∀w,(Go.sizeOf 3).run prog w=.ok 1 w:=Tryz.sizeOf3;have Ag: ∀lb cb,(callFunc 80 #[.slice (some (aD vb 0)) 1 1,.slice (some ⟨g,(i+1),none⟩) lb cb]).run prog w=.ok (.value (.bool false)) w:=fun lb cb=>by
  rw[run_callFunc_extern func80 (by kernel_rfl) (by kernel_rfl) (by kernel_rfl) (e:=Extern.SlicesOverlaps.overlaps #[27,27] #[4]) (by kernel_rfl),
   Lib.run_overlaps_apart w 27 4 3 underlying27 1 Ah (aD vb 0) ⟨g,(i+1),none⟩ 1 1 lb cb hne 3 3 1 (cap) (by simp[World.shape?,hv,aE]) (by simp[World.shape?,hg,hcs]) (by omega) (by simp[World.frozen?,hv]) (by simp[World.frozen?,hv])]
  rfl
 have Ap: ¬((i:Int)=(n:Int)):=by omega
 have Ao:IntKind.i64.wrap ((i:Int)+1)=(i:Int)+1:=by rw[IntKind.wrap_i64];omega
 have Am:i≤n:=by omega
 have Al: ¬(cap=i):=by omega
 have Aj: ¬(cap=i+1):=by omega
 have Ai:(0:Int)≤(i:Int)+1:=by omega
 have An:((i:Int)+1).toNat=i+1:=by omega
 have Ak:(i:Int)≤(n:Int)+1:=by omega
 have Ab:cur.toList.length=cap:=by rw[d1B];exact hcs
 obtain⟨A0,A6,A7,Aa⟩:=qY cur.toList (es.flatMap aE) (aE x) (i) (n) 1 htk (by omega) (by omega) rfl;have A9:(cur.toList.drop (i)).take (n-i)=(es.flatMap aE).drop (i):=by rw[←htk,List.drop_take]
 have A3:((es.flatMap aE).drop (i)).length=(n-i):=by
  rw[d0A,rL,←HN.out]
 rw[A9]at A6;have A1: ∀j v,((es.flatMap aE).drop (i))[j]?=some v→w.drew.cell? ((⟨g,i,none⟩:Addr).add j)=some v:=fun j v hj=>by
  rw[WideShapes.add_plain];rw[←htk,d0J,d0C]at hj;split at hj
  ·simp only[World.cell?,World.drew,hg];simpa using hj
  ·cases hj
 have A8: ∀ty dc sc,(Builtin.copy_ #[27,27] ty #[.slice (some ⟨g,(i+1),none⟩) (n+1-(i+1)) dc,.slice (some (aD g i)) (n+1-i) sc]).run prog w.drew=.ok (goInt (n-i:Nat)) (w.drew.setRow g A0.toArray):=fun ty dc sc=>by
  rw[mN w.drew ty g ((i+1)) (n+1-(i+1)) dc (aD g i) (n+1-i) sc (n-i) cur ((es.flatMap aE).drop (i)) (by simp only[Nat.min_def];split<;>omega) A3 hg A1 (by rw[A3];omega) (fun v hv=>rO es v (d1S hv)),A6,A3,show(i+1)=i+1 by omega,show(n-i)=n-i by omega]
 have Ac:(w.drew.setRow g A0.toArray).heap[g]?=some (.cells A0.toArray 3 (0,0)):=setRow_heap w.drew g cur _ 3 _ hg;have Ad:(w.drew.setRow g A0.toArray).heap[vb]?=some (.cells (aE x).toArray 3 (0,0)):=by
  rw[setRow_other _ _ _ _ hne];exact hv
 have Ae: ∀j v,(aE x)[j]?=some v→(w.drew.setRow g A0.toArray).cell? ((⟨vb,0,none⟩:Addr).add j)=some v:=fun j v hj=>by
  rw[WideShapes.add_plain,c9G];simp only[World.cell?,Ad];simpa using hj
 have A4: ∀ty dc,(Builtin.copy_ #[27,27] ty #[.slice (some (aD g i)) (n+1-i) dc,.slice (some (aD vb 0)) 1 1]).run prog (w.drew.setRow g A0.toArray)=.ok (goInt (1:Nat)) (w.drew.setRow g ((A0.take (i)++aE x++A0.drop (i+1))).toArray):=fun ty dc=>by
  rw[mN (w.drew.setRow g A0.toArray) ty g (i) (n+1-i) dc (aD vb 0) 1 1 1 A0.toArray (aE x) (by simp only[Nat.min_def];split<;>omega) rfl Ac Ae (by show i+1≤A0.toArray.size;rw[d0Q,A7];omega) (fun v hv=>by
   have:=rO [x] v (by simpa using hv)
   exact this),setRow_setRow]
  rfl
 obtain⟨A2,A5⟩: ∃A2:Array Value,A2=(A0.take (i)++aE x++A0.drop (i+1)).toArray:=⟨_,rfl⟩;rw[←A5]at A4;have HF:Hid (∃arr:Array Value,w.drew.setRow g A2=w.drew.setRow g arr∧arr.size=cap∧arr.toList.take ((n+1))=(es.take i++x::es.drop i).flatMap aE):=by
  refine⟨_,rfl,?_,?_⟩
  ·rw[A5,d0Q];simp only[List.length_append,List.length_take,List.length_drop,A7,Ab];show min (i) (cap)+1+(cap-(i+1))=cap;omega
  ·rw[A5];show(A0.take (i)++aE x++A0.drop (i+1)).take ((n+1))=_;rw[Aa,d0H,d0K,←xE es i (by rw[←HN.out];omega),←zE es i (by rw[←HN.out];omega)]
   exact d2I (by
    simp only[List.length_append,List.length_take,rL,A3];show min (i) (es.length)+(1+(n-i))=(n+1);rw[←HN.out]
    omega)
 clear A5 A6 A7 Aa A9 A3 A1 Ac Ad Ae htk hg hv Ab hcs;have Af:prog.follows Departure.mixedOrders=true:=by kernel_rfl
 go_enter func46,ntmps46
 go_wp2_with (simp only[Ag]);go_region_law_o (go_loud (refine step_copy_runI rfl _ _ 27 27 rfl (.slice (some ⟨g,(i+1),none⟩) (n+1-(i+1)) (cap-(i+1))) (.slice (some (aD g i)) (n+1-i) (cap-i)) (by simp[Act.eval,Act.put]) (by simp[Act.eval,Act.put]) (A8 3 (cap-(i+1)) (cap-i)) ?_))
 go_wp2_with (at_builtin;refine wpList_copy_runI _ rfl _ _ 27 27 rfl _ _ rfl rfl (A4 _ _) ?_);go_ret
 exact⟨rfl,HF.out⟩
theorem b4S(g cap i vb:Nat)(cur:Array Value)(es:List Int)(x:Int)(w:World)(hi:i<es.length)(hcap:es.length≤cap)(hcap2:cap<es.length+1)(hsm:es.length≤100000)
  (hg:w.heap[g]?=some (.cells cur 3 (0,0))) (htk:cur.toList.take (es.length)=es.flatMap aE) (hv:c3V w vb x):
  Calls prog 46 #[.slice (some (aD g 0)) es.length cap,iV i,.slice (some (aD vb 0)) 1 1] w fun e w'=> ∃(G:Nat) (arr:Array Value),e=.returned (.slice (some (aD w.heap.size 0)) (es.length+1) G)∧es.length+1≤G∧G≤maxLen∧w'.heap[w.heap.size]?=some (.cells arr 3 (0,0))∧arr.size=G∧arr.toList.take ((es.length+1))=(es.take i++x::es.drop i).flatMap aE∧Bl w w':=by
 obtain⟨n,hn⟩: ∃n,n=es.length:=⟨_,rfl⟩;rw[←hn]at hi hcap hcap2 htk hsm⊢;have HN:=hd8 hn;clear hn;have Ay:g<w.heap.size:=(d1M.1 hg).1;have Az:vb<w.heap.size:=(d1M.1 hv).1;obtain⟨i4,Ao,An⟩:=c9J.1 Tryz.infoI;simp only[Prod.mk.injEq]at An;obtain⟨Ar,As,Ae⟩:=An;have A1:(es.flatMap aE).length=n:=by rw[rL,←HN.out]
 have A6:(Builtin.firstCells i4.size i (.slice (some (aD g 0)) i cap)).run prog w.drew=.ok ((es.flatMap aE).take (i)).toArray w.drew:=by
  rw[As];refine run_firstCells_some w.drew 1 i (aD g 0) i cap _ (by rw[c9K,A1];omega) (fun j v hj=>?_);rw[WideShapes.add_plain,c9G];rw[d0C]at hj;split at hj
  ·rw[←htk,d0C]at hj;split at hj
   ·simp only[World.cell?,World.drew,hg];simpa using hj
   ·cases hj
  ·cases hj
 have Ap:(n:Int)+1-(i:Int)=((n+1-i:Nat):Int):=by omega
 have Ad:i+(n+1-i)=n+1:=by omega
 obtain⟨G,hG⟩: ∃G,G=grownCap w (n+1) cap 3:=⟨_,rfl⟩;have Ax:n+1≤G:=by rw[hG];exact grownCap_ge w _ _ _
 have A3:G≤maxLen:=by
  rw[hG];exact grownCap_le_maxLen w (n+1) cap 3 (by unfold maxLen;omega)
 obtain⟨A0,A2⟩: ∃A0:Array Value,A0=((es.flatMap aE).take (i)).toArray++Builtin.zeroCells (Value.int .i64 0).cells (n+1-i)++Builtin.zeroCells (Value.int .i64 0).cells (G-(n+1)):=⟨_,rfl⟩;have Aq: ∀ty,(Builtin.append_ #[27,3] ty #[.slice (some (aD g 0)) i cap,iV ((n:Int)+1-(i:Int))]).run prog w=.ok (.slice (some (aD w.heap.size 0)) (n+1) G) (w.drew.alloc (.cells A0 3)):=fun ty=>by
  have h:=Lib.run_append_grow_zeros (P:=prog) w 27 3 ty 3 i4 _ .i64 .i64 underlying27 underlying3 Ao Ar (some (aD g 0)) i cap _ A6 (n+1-i) (by omega) (by omega) (by omega) (by omega) (by rw[Ae];omega) (by rw[Ae,Ad];exact growslice_fits (by omega) (by omega));rw[Ad,←hG,←A2]at h;rw[Ap];exact h
 have Af: ∀k,(Builtin.zeroCells (Value.int .i64 0).cells k).size=k:=fun k=>by
  simp[Builtin.zeroCells,Value.cells]
 have A8:A0.toList.length=G:=by
  rw[d1B,A2,d2R,d2R,Af,Af,d0Q,c9K,A1];omega
 have Am:A0.toList.take (i)=(es.flatMap aE).take (i):=by
  rw[A2,d2M,d2M,c9X];exact d2I (by rw[c9K,A1];omega)
 obtain⟨A,Aj,Ak,Aa⟩:=uA A0.toList (es.flatMap aE) (aE x) (i) (n) 1 (by omega) (by omega) Am rfl;obtain⟨B,hB⟩: ∃B:Array Value,B=(A.take (i+1)++(es.flatMap aE).drop (i)++A.drop (i+1+(n-i))).toArray:=⟨_,rfl⟩;have A7:((es.flatMap aE).drop (i)).length=(n-i):=by
  rw[d0A,A1]
 have A4: ∀(W:World),W.heap[w.heap.size]?=some (.cells A0 3 (0,0))→W.heap[vb]?=w.heap[vb]?→ ∀ty dc,(Builtin.copy_ #[27,27] ty #[.slice (some (aD w.heap.size i)) (n+1-i) dc,.slice (some (aD vb 0)) 1 1]).run prog W=.ok (goInt (1:Nat)) (W.setRow w.heap.size A.toArray):=fun W hW1 hW2 ty dc=>by
  rw[mN W ty w.heap.size (i) (n+1-i) dc (aD vb 0) 1 1 1 A0 (aE x) (by simp only[Nat.min_def];split<;>omega) rfl hW1 (fun j v hj=>by
   rw[WideShapes.add_plain,c9G];rw[hv]at hW2;simp only[World.cell?,hW2]
   simpa using hj) (by show i+1≤A0.size;rw[←d1B,A8];omega) (fun v hv=>rO [x] v (by simpa using hv)),Aj]
  rfl
 have A5: ∀(W:World),W.heap[w.heap.size]?=some (.cells A.toArray 3 (0,0))→W.heap[g]?=w.heap[g]?→ ∀ty dc sc,(Builtin.copy_ #[27,27] ty #[.slice (some ⟨w.heap.size,(i+1),none⟩) (n+1-(i+1)) dc,.slice (some (aD g i)) (n-i) sc]).run prog W=.ok (goInt (n-i:Nat)) (W.setRow w.heap.size B):=fun W hW1 hW2 ty dc sc=>by
  rw[mN W ty w.heap.size ((i+1)) (n+1-(i+1)) dc (aD g i) (n-i) sc (n-i) A.toArray ((es.flatMap aE).drop (i)) (by simp only[Nat.min_def];split<;>omega) A7 hW1 (fun j v hj=>by
   rw[WideShapes.add_plain];rw[←htk,d0J,d0C]at hj;split at hj
   ·rw[hg]at hW2;simp only[World.cell?,hW2];simpa using hj
   ·cases hj) (by rw[A7,List.size_toArray,Ak,A8];omega) (fun v hv=>rO es v (d1S hv)),A7,hB,show(i+1)=i+1 by omega,show(n-i)=n-i by omega]
 have Au:Hid (B.size=G):=by
  show B.size=G;rw[hB,d0Q,Aa];simp only[List.length_append,List.length_take,List.length_drop,A1,A8];show min (i) (n)+(1+(n-i))+(G-(n+1))=G;omega
 have Av:Hid (B.toList.take ((n+1))=(es.take i++x::es.drop i).flatMap aE):=by
  show B.toList.take ((n+1))=_;rw[hB];show(A.take (i+1)++(es.flatMap aE).drop (i)++A.drop (i+1+(n-i))).take ((n+1))=_;rw[Aa,d0H,d0K,←xE es i (by rw[←HN.out];omega),←zE es i (by rw[←HN.out];omega)]
  exact d2I (by
   simp only[List.length_append,List.length_take,List.length_drop,A1];show min (i) (n)+(1+(n-i))=(n+1)
   omega)
 have h0:(w.drew.alloc (.cells A0 3)).heap[w.heap.size]?=some (.cells A0 3 (0,0)):=heap_alloc_new w.drew _;have Ah:(w.drew.alloc (.cells A0 3)).heap[vb]?=w.heap[vb]?:=Deep.blk_alloc_lt w.drew _ _ Az;have Ag:(w.drew.alloc (.cells A0 3)).heap[g]?=w.heap[g]?:=Deep.blk_alloc_lt w.drew _ _ Ay;have Ab:=A4 (w.drew.alloc (.cells A0 3)) h0 Ah;have h1:((w.drew.alloc (.cells A0 3)).setRow w.heap.size A.toArray).heap[w.heap.size]?=some (.cells A.toArray 3 (0,0)):=setRow_heap _ _ A0 _ 3 _ h0;have Ai:((w.drew.alloc (.cells A0 3)).setRow w.heap.size A.toArray).heap[g]?=w.heap[g]?:=by
  rw[setRow_other _ _ _ _ (by omega)];exact Ag
 have Ac:=A5 ((w.drew.alloc (.cells A0 3)).setRow w.heap.size A.toArray).drew h1 Ai;have h2:(((w.drew.alloc (.cells A0 3)).setRow w.heap.size A.toArray).drew.setRow w.heap.size B).heap[w.heap.size]?=some (.cells B 3 (0,0)):=setRow_heap _ _ A.toArray _ 3 _ h1;have A9:Bl w (((w.drew.alloc (.cells A0 3)).setRow w.heap.size A.toArray).drew.setRow w.heap.size B):=by
  have b0:Bl w w.drew:=⟨rfl,rfl,rfl,c9C _,fun _ _=>rfl⟩;have b1:=b0.alloc (c9C _) (.cells A0 3);have b2:=below_setRow b1 (c9C _) A.toArray;exact below_setRow (w:=((w.drew.alloc (.cells A0 3)).setRow w.heap.size A.toArray).drew) ⟨b2.os,b2.tape,b2.output,b2.size,b2.block⟩ (c9C _) B
 generalize hW1:w.drew.alloc (.cells A0 3)=W1 at Aq Ab Ac h2 A9;generalize hW2:W1.setRow w.heap.size A.toArray=W2 at Ab Ac h2 A9;have HF:Hid (Bl w (W2.drew.setRow w.heap.size B)∧(W2.drew.setRow w.heap.size B).heap[w.heap.size]?=some (.cells B 3 (0,0))):=⟨A9,h2⟩;clear hW1 hW2 A9 h2 h1 Ai h0 Ah Ag A4 A5 hB Aj Ak Aa Am A8 Af A2 A6 A7 htk hg hv Ao Ar As Ae Ap Ad hG A1;have B7: ¬((i:Int)=(n:Int)):=by omega
 have B8:(cap:Int)<(n:Int)+1:=by omega
 have B6:IntKind.i64.wrap ((i:Int)+1)=(i:Int)+1:=by rw[IntKind.wrap_i64];omega
 have B4:i≤n:=by omega
 have B1:(0:Int)≤(i:Int)+1:=by omega
 have B5:((i:Int)+1).toNat=i+1:=by omega
 have B2:(i:Int)≤(n:Int):=by omega
 have B0: ¬(G=i):=by omega
 have Aw: ¬(G=i+1):=by omega
 have B3: ¬(cap=i):=by omega
 have Al:G≤9223372036854775807:=by unfold maxLen at A3;omega
 have At:prog.follows Departure.mixedOrders=true:=by kernel_rfl
 go_enter func46,ntmps46
 go_wp2_with (first|(at_builtin;refine Lib.wpList_append_run _ rfl _ _ _ _ rfl _ _ rfl rfl _ _ (Aq _) ?_)|(at_builtin;refine wpList_copy_runI _ rfl _ _ 27 27 rfl _ _ rfl rfl (Ab _ _) ?_));go_region_law_o (go_loud (refine step_copy_runI rfl _ _ 27 27 rfl (.slice (some ⟨w.heap.size,(i+1),none⟩) (n+1-(i+1)) (G-(i+1))) (.slice (some (aD g i)) (n-i) (cap-i)) (by simp[Act.eval,Act.put]) (by simp[Act.eval,Act.put]) (Ac 3 (G-(i+1)) (cap-i)) ?_))
 go_wp2_with fail;go_ret
 exact⟨G,B,rfl,Ax,A3,HF.out.2,Au.out,Av.out,HF.out.1⟩
theorem c1H(B vb:Nat)(v:Value)(es:List Int)(x:Int)(w:World)(h:w.ownsRow B 3 1 v es.length (es.flatMap aE))(hB:B≤w.heap.size)(hn:es.length≤100000)(hv:c3V w vb x):
  Calls prog 46 #[v,iV es.length,.slice (some (aD vb 0)) 1 1] w fun e w'=>c0N e w w' B v (es++[x]):=by
 obtain⟨i4,A5,A2⟩:=c9J.1 Tryz.infoI;simp only[Prod.mk.injEq]at A2;obtain⟨A6,A7,A8⟩:=A2
 obtain⟨v',w',A0,ho,hg,_,A1⟩:=run_append_own_at (P:=prog) w B 27 27 3 i4 _ 1 8 underlying27 A5 A6 A7 A8 rfl (by decide) v es.length _ h (aD vb 0) 1 1 (aE x) rfl (fun j u hj=>by
  rw[WideShapes.add_plain,c9G];simp only[World.cell?,hv]
  simpa using hj) (fun u hu=>rO [x] u (by simpa using hu)) (by unfold maxLen;omega) (by omega) hB
 have HR:Hid (c0N (.returned v') w w' B v (es++[x])):=by
  refine⟨v',rfl,?_,cI hg,?_⟩
  ·rw[c9I,d0H,List.length_singleton,d0K,List.flatMap_nil,d0W];exact ho
  ·rcases A1 with q|q
   ·exact Or.inl q
   ·refine Or.inr fun g hg=>?_;rw[q]at hg;cases hg
    exact c9C _
 clear ho hg A1;rcases h.2 with⟨rfl,h0⟩|⟨g,A3,A9,rfl,_,_,hc,hm,_⟩
 ·rw[h0];clear h hv;go_enter func46,ntmps46
  go_wp2_with (at_builtin;refine Lib.wpList_append_run _ rfl _ _ _ _ rfl _ _ rfl rfl _ _ A0 ?_);go_ret
  exact HR.out
 ·clear h hv;unfold maxLen at hm;by_cases A4:A3=es.length
  ·subst A4;go_enter func46,ntmps46
   go_wp2_with (at_builtin;refine Lib.wpList_append_run _ rfl _ _ _ _ rfl _ _ rfl rfl _ _ A0 ?_);go_ret
   exact HR.out
  ·go_enter func46,ntmps46
   go_wp2_with (at_builtin;refine Lib.wpList_append_run _ rfl _ _ _ _ rfl _ _ rfl rfl _ _ A0 ?_);go_ret
   exact HR.out
theorem c2Y(B i vb:Nat)(v:Value)(es:List Int)(x:Int)(w:World)(h:w.ownsRow B 3 1 v es.length (es.flatMap aE))(hB:B≤w.heap.size)(hi:i≤es.length)(hn:es.length≤100000)(hv:c3V w vb x)(hne:v.ownBlock≠some vb):
  Calls prog 46 #[v,iV i,.slice (some (aD vb 0)) 1 1] w fun e w'=>c0N e w w' B v (es.take i++x::es.drop i):=by
 have A0:(es.take i++x::es.drop i).length=es.length+1:=by
  simp;omega
 by_cases he:i=es.length
 ·subst he;have H:=c1H B vb v es x w h hB hn hv;rw[d0L,d0T];exact H
 ·rcases h.2 with⟨_,h0⟩|⟨g,A3,A4,rfl,A9,hg,hc,hm,Ad,A8⟩
  ·omega
  ·by_cases A1:es.length+1≤A3
   ·refine(a9O g A3 i vb A4 es x w (by omega) A1 (by unfold maxLen at hm;exact hm) (by simpa using Ad) hg (by simpa using A8) hv (fun e=>hne (by rw[e];rfl))).mono ?_;rintro e w' ⟨rfl,A2,rfl,A5,A6⟩;have A7:(w.drew.setRow g A2).heap[g]?=some (.cells A2 3 (0,0)):=setRow_heap w.drew g A4 _ 3 _ hg;refine⟨_,rfl,?_,?_,Or.inl rfl⟩
    ·rw[A0];exact⟨by rw[rL,A0,d1X],Or.inr ⟨g,A3,A2,rfl,A9,A7,A1,hm,by simpa using A5,by simpa using A6⟩⟩
    ·exact zR w g A2
   ·refine(b4S g A3 i vb A4 es x w (by omega) hc (by omega) hn hg (by simpa using A8) hv).mono ?_;rintro e w' ⟨G,A2,rfl,Aa,Ab,A7,A5,A6,Ac⟩;refine⟨_,rfl,?_,Off.oE Ac,Or.inr fun x hx=>?_⟩
    ·rw[A0];exact⟨by rw[rL,A0,d1X],Or.inr ⟨w.heap.size,G,A2,rfl,hB,A7,Aa,Ab,by simpa using A5,by simpa using A6⟩⟩
    ·cases hx
     exact c9C _
theorem aV.q0(h:aV w p t (a0::l)):w.cell? ⟨p,0,none⟩=some a0:=h.cell (i:=0) rfl
theorem aV.q1(h:aV w p t (a0::a1::l)):w.cell? ⟨p,1,none⟩=some a1:=h.cell (i:=1) rfl
theorem aV.q2(h:aV w p t (a0::a1::a2::l)):w.cell? ⟨p,2,none⟩=some a2:=h.cell (i:=2) rfl
theorem aV.q3(h:aV w p t (a0::a1::a2::a3::l)):w.cell? ⟨p,3,none⟩=some a3:=h.cell (i:=3) rfl
theorem aV.q4(h:aV w p t (a0::a1::a2::a3::a4::l)):w.cell? ⟨p,4,none⟩=some a4:=h.cell (i:=4) rfl
theorem aV.q5(h:aV w p t (a0::a1::a2::a3::a4::a5::l)):w.cell? ⟨p,5,none⟩=some a5:=h.cell (i:=5) rfl
theorem aV.q6(h:aV w p t (a0::a1::a2::a3::a4::a5::a6::l)):w.cell? ⟨p,6,none⟩=some a6:=h.cell (i:=6) rfl
theorem aV.q7(h:aV w p t (a0::a1::a2::a3::a4::a5::a6::a7::l)):w.cell? ⟨p,7,none⟩=some a7:=h.cell (i:=7) rfl
theorem aV.q8{a8:Value}(h:aV w p t (a0::a1::a2::a3::a4::a5::a6::a7::a8::l)):w.cell? ⟨p,8,none⟩=some a8:=h.cell (i:=8) rfl
theorem a5A(v:Value)(n:Nat)(g:Nat→Nat)(w:World)(h:cA w v n g)(hx:cW g n):
  Calls prog 96 #[v] w fun e w'=>e=.returned (.tuple #[.agg #[iV 0,iV 0,iV 0,nS],iV 2])∧Bl w w':=by
 have hl:=h.len;have A1:=h.bd;have A0:=aB8 w (.cells #[iV 0,iV 0,iV 0,nS] 137);by_cases hn:n<12
 ·obtain⟨A,C,rfl⟩:=h.sE;have A2:(n:Int)<12:=by omega
  clear hx h;go_enter func96,ntmps96
  go_wp2_with fail;go_quiet (fail)
  go_wp2_with fail;refine bodyPost_ret (v:=.tuple #[.agg #[iV 0,iV 0,iV 0,nS],iV 2]) (by simp[results,results96,go_sem]) rfl ⟨rfl,?_⟩;exact eY (bdn A0 _) (c9C _)
 have A2: ¬(n:Int)<12:=by omega
 have A6:decide ((n:Int)<12)=false:=by simp;omega
 obtain⟨b,o,A3,rfl,_,_,hc⟩:=h.some (by omega);have hc:=fun i hi=>cB8 A0 (hc i hi);have t0:=hc 0 (by omega);rw[d0X]at t0;have A8:(0:Int)<(n:Int):=by omega
 by_cases h0:g 0=83
 ·have e0:(((g 0:Nat):Int) !=83)=false:=by rw[h0];rfl
  have t5:=hc 5 (by omega);have t6:=hc 6 (by omega);have b5:=A1 5;have b6:=A1 6;have A4:(5:Int)<(n:Int):=by omega
  have A5:(6:Int)<(n:Int):=by omega
  have A7:((256*((g 5:Nat):Int)+((g 6:Nat):Int)) !=(n:Int)-11)=true:=by
   rw[bne_iff_ne];unfold cW at hx;omega
  clear hx h hc;go_enter func96,ntmps96
  go_wp2_with fail;go_quiet (fail)
  go_wp2_with fail;refine bodyPost_ret (v:=.tuple #[.agg #[iV 0,iV 0,iV 0,nS],iV 2]) (by simp[results,results96,go_sem]) rfl ⟨rfl,?_⟩;exact eY (bdn A0 _) (c9C _)
 ·have e0:(((g 0:Nat):Int) !=83)=true:=by rw[bne_iff_ne];omega
  clear hx h hc;go_enter func96,ntmps96
  go_wp2_with fail;go_quiet (fail)
  go_wp2_with fail;refine bodyPost_ret (v:=.tuple #[.agg #[iV 0,iV 0,iV 0,nS],iV 2]) (by simp[results,results96,go_sem]) rfl ⟨rfl,?_⟩;exact eY (bdn A0 _) (c9C _)
theorem jO(a b:Nat)(w:World)(ha:a<256)(hb:b<256):
  Calls prog 125 #[.int .u8 a,.int .u8 b] w fun e w'=>e=.returned (.int .u8 ((Gf.mul a b:Nat):Int))∧w'=w:=
 (b2G a b w ha hb).mono fun _ _ ⟨h1,h2⟩=>⟨h1,h2.symm⟩
def vV(f:Nat→Nat)(j:Nat):List Value:=(List.range j).map fun l=> .int .u8 (f l:Nat)
theorem a8T{x:Value}: ∀j u,[x][j]?=some u→(w.alloc (.cells #[x] t)).cell? ((⟨w.heap.size,0,none⟩:Addr).add j)=some u:=by
 intro j u hj;match j,hj with
 |0,hj=>
  simp at hj;subst hj;simp[Addr.add]
 |j+1,hj=>simp at hj
theorem dZ(d s:Int)(w:World):
  Calls prog 13 #[iV d,iV s] w fun e w'=>e=.returned (iV (bZ d s:Nat))∧Bl w w':=by
 by_cases h1:d<1
 ·have H:Hid (bZ d s=5):=cE (by omega);go_enter func13,ntmps13
  go_wp2_with fail;go_ret
  exact⟨aH (by rw[H.out];rfl),Below.refl _ _⟩
 by_cases h2:8<d
 ·have H:Hid (bZ d s=5):=cE (by omega);go_enter func13,ntmps13
  go_wp2_with fail;go_ret
  exact⟨aH (by rw[H.out];rfl),Below.refl _ _⟩
 by_cases h3:s<0
 ·have H:Hid (bZ d s=5):=cE (by omega);go_enter func13,ntmps13
  go_wp2_with fail;go_ret
  exact⟨aH (by rw[H.out];rfl),Below.refl _ _⟩
 by_cases h4:4<s
 ·have H:Hid (bZ d s=5):=cE (by omega);go_enter func13,ntmps13
  go_wp2_with fail;go_ret
  exact⟨aH (by rw[H.out];rfl),Below.refl _ _⟩
 have H:Hid (bZ d s=0):=cO (by omega);go_enter func13,ntmps13
 go_wp2_with fail;go_ret
 exact⟨aH (by rw[H.out];rfl),Below.refl _ _⟩
theorem vZ(d s:Int)(w:World)(h:d<1∨8<d∨s<0∨4<s):
  Calls prog 123 #[iV d,iV s] w fun e w'=>e=.returned (.tuple #[nS,iV 5])∧Bl w w':=by
 have H:=dZ d s;rw[cE h]at H;clear h;go_enter func123,ntmps123
 go_wp2_with fail;refine(H _).mono ?_;rintro e w1 ⟨rfl,b1⟩;go_wp2_with fail;go_ret2
 exact⟨rfl,b1⟩
theorem b1C{g:Nat}{n k:Nat}{f h:Nat→Nat}(hr:w.rowIs g t n (fun j=> .int .u8 (dW k h f j:Nat)))(e:h k=f k):w.rowIs g t n (fun j=> .int .u8 (dW (k+1) h f j:Nat)):=
 hr.congr (fun j _=>by
  rw[a2F]
  by_cases ej:j=k
  ·rw[if_pos ej,ej,pZ,e]
  ·rw[if_neg ej])
theorem lK(n s:Nat)(w:World)(h1:1≤n)(h2:n≤8)(h3:s≤4):
  Calls prog 123 #[iV n,iV s] w fun e w'=>
   ∃g A2,e=.returned (.tuple #[.slice (some (aD g 0)) (n+s) A2,iV 0])∧n+s≤A2∧(∃G K,jW w' g 0 (n+s) n G (fun _=>0) K (Gf.bH n))∧Bl w w':=by
 have H:=dZ n s;rw[cO (show¬((n:Int)<1∨8<(n:Int)∨(s:Int)<0∨4<(s:Int)) by omega)]at H;obtain⟨i0,hi,hh⟩:=c9J.1 Tryz.infoRow;simp only[Prod.mk.injEq]at hh;obtain⟨Ad,Ae,Af⟩:=hh;have A6:=run_make_row' (P:=prog) 59 5 (.int .u8 0) 1 underlying59 Tryz.infoByte rfl .i64 .i64 n (by omega) (by omega);go_enter func123,ntmps123
 go_wp2_with fail;refine(H _).mono ?_;rintro e w1 ⟨rfl,b1⟩;clear H;go_wp2_with fail;go_loopw [7,8] (fun v x wr=> ∃k:Nat,k≤n+s∧x=iV k∧(∃G K,Acc wr w.heap.size v k n G K (Gf.bH n))∧Bl w wr) (fun _ x _=>(n+s)-(intOf x).toNat)
 case atStart=>exact⟨0,c9D _,rfl,⟨fun _=>0,fun _=>0,Acc.start w1 _ n _ _ _⟩,b1⟩
 case round=>
  clear b1;obtain⟨k,hk,rfl,⟨G,K,hA⟩,hb⟩:=hrel;obtain⟨wo,rfl⟩: ∃x,x=wr:=⟨wr,rfl⟩;by_cases Aa:k<n+s
  ·have Ab:(k:Int)<(n:Int)+(s:Int):=by omega
   go_wp2_with fail;go_loopw [28] (fun z wi=> ∃j:Nat,j≤n∧z=iV j∧wi.rowIs wo.heap.size 5 n (fun x=> .int .u8 (dW j (Gf.bH n k) (fun _=>0) x:Nat))∧Bl wo wi) (fun z _=>n-(intOf z).toNat)
   case atStart=>exact⟨0,c9D _,rfl,(World.rowIs_made wo (.int .u8 0) n 5).congr (fun j _=>by rw[show dW 0 (Gf.bH n k) (fun _=>0) j=0 from if_neg (c9L _)];rfl),aB8 _ _⟩
   case round=>
    obtain⟨j,hj,rfl,hw,A0⟩:=hrel;by_cases A7:j<n
    ·have Ah:(j:Int)<(n:Int):=by omega
     have hc:=hw.cell A7;have Ag:=hw.frozen j;by_cases A9:n≤k
     ·have A5:(n:Int)≤(k:Int):=by omega
      have hx:k^^^j<256:=Gf.fG (by omega) (by omega);have Ac:bits .xor .i64 (k:Int) (j:Int)=((k^^^j:Nat):Int):=by
       rw[wP _ _ (by omega) (by omega) (by omega) (by omega),c9Q,c9Q]
      have Aj:=a2L hx;have HP:=mI (h:=Gf.bH n k) hw;rw[show Gf.bH n k j=Gf.inv (k^^^j)from Gf.xT A9 j]at HP;clear hw;go_wp2_with fail;refine(zC _ _ hx).mono ?_;rintro e w2 ⟨rfl,rfl⟩;go_wp2_with fail;exact⟨⟨j+1,by omega,by go_num,HP,A0.setCell (p:=⟨wo.heap.size,j,none⟩) (c9C _) _⟩,by simp[intOf];omega⟩
     ·have A5: ¬(n:Int)≤(k:Int):=by omega
      by_cases A4:k=j
      ·subst A4;have HP:=mI (h:=Gf.bH n k) hw;rw[show Gf.bH n k k=1 from(Gf.oV (by omega) k).trans (Gf.kT k)]at HP;clear hw;go_wp2_with fail;exact⟨⟨k+1,by omega,by go_num,HP,A0.setCell (p:=⟨wo.heap.size,k,none⟩) (c9C _) _⟩,by simp[intOf];omega⟩
      ·have A8:((k:Int)==(j:Int))=false:=by rw[beq_eq_false_iff_ne];omega
       have HP:=b1C hw ((Gf.oV (by omega) j).trans (Gf.gU A4));clear hw A4;go_wp2_with fail;exact⟨⟨j+1,by omega,by go_num,HP,A0⟩,by simp[intOf];omega⟩
    ·have ej:j=n:=by omega
     subst ej;have hF:aZ wr wo.heap.size 5 j (fun x=> .int .u8 (Gf.bH j k x:Nat)):=iL (hw.congr (fun x hx=>by rw[show dW j (Gf.bH j k) (fun _=>0) x=Gf.bH j k x from if_pos hx]));have A3:=(Below.refl wr.heap.size wr).alloc (c9C _) (.cells #[.slice (some (aD wo.heap.size 0)) j j] 59);have AX:=(hA.bE A0).bE A3;have rX:=hF.alloc (.cells #[.slice (some (aD wo.heap.size 0)) j j] 59);have bX:=bt (bt hb A0) A3;clear hw hF hA A6;go_wp2_with (at_builtin;refine wpList_append_own _ rfl (.tmp 49) (.tmp 51) 169 rfl w.heap.size 59 i0 nS 1 24 underlying169 hi Ad Ae Af rfl (by decide) _ _ _ rfl AX.own (aD wr.heap.size 0) 1 1 [.slice (some (aD wo.heap.size 0)) j j] rfl rfl dD (by intro u hu;simp at hu;subst hu;rfl) (by unfold maxLen;omega) (by omega) bX.size ?_;intro v1 w4 hown1 hgrow1 _);have A1:=AX.step ⟨hb.size,rX⟩ hown1 hgrow1;have b4:Bl w w4:=bX.grown hgrow1 bX.size (fun x hx=>(AX.own.lt x hx).1);clear hown1 hgrow1 AX rX bX A3 A0;go_wp2_with fail;exact⟨⟨k+1,by omega,by go_num,⟨_,_,A1⟩,b4⟩,by simp[intOf];omega⟩
  ·have e8:k=n+s:=by omega
   subst e8;have Ai: ¬((n+s:Nat):Int)<(n:Int)+(s:Int):=by omega
   obtain⟨g,A2,rfl,_,hc,hm⟩:=hA.mat (by omega);clear hA Aa A6;go_wp2_with fail;go_ret2
   exact⟨g,A2,rfl,hc,⟨G,K,hm⟩,hb⟩
theorem qM(z:Value)(h:z.cells=#[z])(m:Nat):(Builtin.zeroCells z.cells m).toList=List.replicate m z:=by
 rw[h];apply d1I;intro i;simp only[Builtin.zeroCells];by_cases hi:i<m
 ·simp[hi,Nat.mod_one]
 ·simp[hi]
theorem uW{P:Program}(w:World)(N:Nat)(t tn ty e:TypeId)(i:TypeInfo)(z:Value)(bytes:Nat)(k kn:IntKind)(ht:P.underlying t=some (.slice e))(htn:P.underlying tn=some (.int kn))(hi:P.info? e=some i)(hz:i.zero=some z)
  (hsize:i.size=1) (hby:i.bytes=bytes) (hzc:z.cells=#[z]) (hz1:z.oneCell'=true) (v:Value) (n:Nat) (xs:List Value) (hown:w.ownsRow N e 1 v n xs) (hn:1≤n) (m:Nat) (hm:1≤m)
  (h63:n+m≤1000000) (hb:bytes≤1000) (hN:N≤w.heap.size):
  ∃v' w',(Builtin.append_ #[t,tn] ty #[v,.int k m]).run P w=.ok v' w'∧w'.ownsRow N e 1 v' (n+m) (xs++List.replicate m z)∧w.grownBy w' v.ownBlock:=by
 subst hby
 have hw:IntKind.i64.wrap (m:Int)=m:=by rw[IntKind.wrap_i64];omega
 have A4: ¬((m:Int)<0):=by omega
 have Ac:m≠0:=by omega
 have Aj:m*i.bytes≤1000000*1000:=d0Y (by omega) hb;have Ak:(n+m)*i.bytes≤1000000*1000:=d0Y h63 hb;have A3: ¬(281474976710656<(m:Int)*(i.bytes:Int)):=by
  rw[←Int.natCast_mul];omega
 have A5:=hown;obtain⟨hl,hv⟩:=hown;rcases hv with⟨_,h0⟩|⟨g,A0,A6,rfl,Ad,hg,hc,Ae,Ai,Ah⟩
 ·omega
 have A1:xs.length=n:=by omega
 by_cases A2:n+m≤A0
 ·have Ab:=run_storeCells_at P g (n*i.size) e (List.replicate m z) 0 A6 w hg (by rw[hsize];simp;omega) (fun u hu=>by rw[d2X hu];exact hz1);simp only[Nat.add_zero]at Ab;refine⟨.slice (some (aD g 0)) (n+m) A0,w.setRow g (A6.toList.take (n*i.size)++List.replicate m z++A6.toList.drop (n*i.size+(List.replicate m z).length)).toArray,?_,?_,?_⟩
  ·simp[Builtin.append_,run_underlying ht,run_underlying htn,sizeOf,typeInfo,zeroValue,hi,hz,asInt,asIntOf,hw,Ac,A4,A3,A2,hsize,qM z hzc,Addr.add_lit];simp[hsize]at Ab;rw[Ab];simp
  ·refine⟨by simp[A1],.inr ⟨g,A0,_,rfl,Ad,setRow_heap w g A6 _ e _ hg,A2,Ae,?_,?_⟩⟩
   ·simp only[List.size_toArray,List.length_append,List.length_take,List.length_drop,Array.length_toList,List.length_replicate,hsize];omega
   ·rw[hsize,Ah];have e1:(xs++List.replicate m z).length=(n+m)*1:=by simp[A1]
    rw[←e1];exact List.take_left
  ·exact⟨rfl,rfl,rfl,by simp,fun x _ hx=>setRow_other w g x _ (fun e=>hx (by simp[Value.ownBlock,e]))⟩
 ·have Ag:=grownCap_ge w (n+m) A0 e;have A9:grownCap w (n+m) A0 e≤maxLen:=grownCap_le_maxLen w (n+m) A0 e (by unfold maxLen;omega);have Aa:(Builtin.firstCells 1 n (.slice (some (aD g 0)) n A0)).run P w.drew=.ok xs.toArray w.drew:=
   run_firstCells_some w.drew 1 n (aD g 0) n A0 xs (by omega) (fun j u hj=>by rw[show w.drew.cell? ((⟨g,0,none⟩:Addr).add j)=w.cell? ((⟨g,0,none⟩:Addr).add j)from rfl];exact A5.cells (g:=g) rfl j u hj)
  have A8: ¬(9223372036854775807<((n:Int)+(m:Int))):=by omega
  have Af:=growslice_fits (need:=n+m) (old:=A0) (bytes:=i.bytes) (by omega) (by omega);have A7: ¬(281474976710656<Builtin.nextslicecap (n+m) A0*i.bytes):=by omega
  refine⟨.slice (some (aD w.heap.size 0)) (n+m) (grownCap w (n+m) A0 e),w.drew.alloc (.cells (xs.toArray++(Builtin.zeroCells z.cells m++Builtin.zeroCells z.cells (grownCap w (n+m) A0 e-(n+m)))) e),?_,?_,?_⟩
  ·simp[Builtin.append_,run_underlying ht,run_underlying htn,sizeOf,typeInfo,zeroValue,hi,hz,asInt,asIntOf,hw,Ac,A4,A3,A2,hsize,A8,A7,Question.forced,Aa,newRow,grownCap]
  ·refine⟨by simp[A1],.inr ⟨w.heap.size,_,_,rfl,hN,heap_alloc_new w.drew _,Ag,A9,?_,?_⟩⟩
   ·simp only[Array.size_append,List.size_toArray,size_zeroCells,hzc,A1];simp;omega
   ·simp only[Array.toList_append,qM z hzc];have e1:(xs++List.replicate m z).length=(n+m)*1:=by simp[A1]
    rw[←c9X,←e1];exact List.take_left
  ·exact⟨rfl,rfl,rfl,by simp,fun x hx _=>Deep.blk_alloc_lt w.drew _ x hx⟩
end Go.Proofs.YtmcaejooaaahdaaGreat
