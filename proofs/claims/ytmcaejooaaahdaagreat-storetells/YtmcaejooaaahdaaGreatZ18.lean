import Derived.Test.YtmcaejooaaahdaaGreatZ15
import Derived.Lib.MinMax
import Derived.Deep.Strs
set_option maxHeartbeats 8000000
set_option maxRecDepth 100000
namespace Go.Proofs.YtmcaejooaaahdaaGreat
open Go.Proofs.Tryz
variable {L:Nat→Nat} {M N base fuel g k m n:Nat} {U:Nat→Value} {W w w':World} {f:Nat→Nat→Nat} {sp:Nat→Bool} {t:TypeId} {v y:Value} {xs:List Value}
open Go.RowKit
def b9B(e:Ending)(w w':World)(B:Nat)(v:Value)(es:List HeC):Prop:= ∃v',e=.returned v'∧w'.ownsRow B 61 2 v' es.length (es.flatMap aJ)∧Off (fun k=>v.ownBlock=some k) w w'∧(v'.ownBlock=v.ownBlock∨ ∀g,v'.ownBlock=some g→w.heap.size≤g)
theorem Tryz.sizeH:(Tryz.prog.info? 61).map (·.size)=some 2:=by kernel_rfl
theorem nI(w:World)(ty:TypeId)(g o dLen dCap:Nat)(a:Addr)(sLen sCap n:Nat)(cur:Array Value)(cs:List Value)(hn:n=Nat.min sLen dLen)(hl:cs.length=n*2)
  (hg:w.heap[g]?=some (.cells cur 61 (0,0))) (hsrc: ∀j v,cs[j]?=some v→w.cell? (a.add j)=some v) (hfit:o+cs.length≤cur.size) (h1: ∀v∈cs,v.oneCell'=true):
  (Builtin.copy_ #[56,56] ty #[.slice (some (aD g o)) dLen dCap,.slice (some a) sLen sCap]).run prog w=.ok (goInt n) (w.setRow g (cur.toList.take o++cs++cur.toList.drop (o+cs.length)).toArray):=by
 have A0:=run_loadCells_list (P:=prog) w a cs hsrc;have A1:=run_storeCells_at prog g o 61 cs 0 cur w hg (by simpa using hfit) h1;have hu:=underlying56;cases hq:prog.info? 61 with
 |none=>
  have:=Tryz.sizeH;simp[hq]at this
 |some i=>
  have hi:i.size=2:=by
   have:=Tryz.sizeH;simpa [hq]using this
  simp[Builtin.copy_,run_underlying hu,Builtin.lenOf,Builtin.firstCells,sizeOf,typeInfo,hq,hi,←hn,←hl,A0,A1]
abbrev c6B(w:World)(vb:Nat)(x:HeC):Prop:=w.heap[vb]?=some (.cells (aJ x).toArray 61 (0,0))
theorem b0K(g cap i vb:Nat)(cur:Array Value)(es:List HeC)(x:HeC)(w:World)(hi:i<es.length)(hcap:es.length+1≤cap)(hm:cap≤9223372036854775807)(hcs:cur.size=cap*2)
  (hg:w.heap[g]?=some (.cells cur 61 (0,0))) (htk:cur.toList.take (es.length*2)=es.flatMap aJ) (hv:c6B w vb x) (hne:vb≠g):
  Calls prog 91 #[.slice (some (aD g 0)) es.length cap,iV i,.slice (some (aD vb 0)) 1 1] w fun e w'=>e=.returned (.slice (some (aD g 0)) (es.length+1) cap)∧ ∃arr:Array Value,w'=w.drew.setRow g arr∧arr.size=cap*2∧arr.toList.take ((es.length+1)*2)=(es.take i++x::es.drop i).flatMap aJ:=by
 obtain⟨n,hn⟩: ∃n,n=es.length:=⟨_,rfl⟩;rw[←hn]at hi hcap htk⊢;have HN:=hd8 hn;clear hn;have Ah: ∀w,(Go.sizeOf 61).run prog w=.ok 2 w:=Tryz.sizeOf61;have Ag: ∀lb cb,(callFunc 121 #[.slice (some (aD vb 0)) 1 1,.slice (some ⟨g,(i+1)*2,none⟩) lb cb]).run prog w=.ok (.value (.bool false)) w:=fun lb cb=>by
  rw[run_callFunc_extern func121 (by kernel_rfl) (by kernel_rfl) (by kernel_rfl) (e:=Extern.SlicesOverlaps.overlaps #[56,56] #[4]) (by kernel_rfl),
   Lib.run_overlaps_apart w 56 4 61 underlying56 2 Ah (aD vb 0) ⟨g,(i+1)*2,none⟩ 1 1 lb cb hne 61 61 2 (cap*2) (by simp[World.shape?,hv,aJ]) (by simp[World.shape?,hg,hcs]) (by omega) (by simp[World.frozen?,hv]) (by simp[World.frozen?,hv])]
  rfl
 have Ap: ¬((i:Int)=(n:Int)):=by omega
 have Ao:IntKind.i64.wrap ((i:Int)+1)=(i:Int)+1:=by rw[IntKind.wrap_i64];omega
 have Am:i≤n:=by omega
 have Al: ¬(cap=i):=by omega
 have Aj: ¬(cap=i+1):=by omega
 have Ai:(0:Int)≤(i:Int)+1:=by omega
 have An:((i:Int)+1).toNat=i+1:=by omega
 have Ak:(i:Int)≤(n:Int)+1:=by omega
 have Ab:cur.toList.length=cap*2:=by rw[d1B];exact hcs
 obtain⟨A0,A6,A7,Aa⟩:=qY cur.toList (es.flatMap aJ) (aJ x) (i*2) (n*2) 2 htk (by omega) (by omega) rfl;have A9:(cur.toList.drop (i*2)).take (n*2-i*2)=(es.flatMap aJ).drop (i*2):=by rw[←htk,List.drop_take]
 have A3:((es.flatMap aJ).drop (i*2)).length=(n-i)*2:=by
  rw[d0A,xR,←HN.out];omega
 rw[A9]at A6;have A1: ∀j v,((es.flatMap aJ).drop (i*2))[j]?=some v→w.drew.cell? ((⟨g,i*2,none⟩:Addr).add j)=some v:=fun j v hj=>by
  rw[WideShapes.add_plain];rw[←htk,d0J,d0C]at hj;split at hj
  ·simp only[World.cell?,World.drew,hg];simpa using hj
  ·cases hj
 have A8: ∀ty dc sc,(Builtin.copy_ #[56,56] ty #[.slice (some ⟨g,(i+1)*2,none⟩) (n+1-(i+1)) dc,.slice (some (aD g (i*2))) (n+1-i) sc]).run prog w.drew=.ok (goInt (n-i:Nat)) (w.drew.setRow g A0.toArray):=fun ty dc sc=>by
  rw[nI w.drew ty g ((i+1)*2) (n+1-(i+1)) dc (aD g (i*2)) (n+1-i) sc (n-i) cur ((es.flatMap aJ).drop (i*2)) (by simp only[Nat.min_def];split<;>omega) A3 hg A1 (by rw[A3];omega) (fun v hv=>tS es v (d1S hv)),A6,A3,show(i+1)*2=i*2+2 by omega,show(n-i)*2=n*2-i*2 by omega]
 have Ac:(w.drew.setRow g A0.toArray).heap[g]?=some (.cells A0.toArray 61 (0,0)):=setRow_heap w.drew g cur _ 61 _ hg;have Ad:(w.drew.setRow g A0.toArray).heap[vb]?=some (.cells (aJ x).toArray 61 (0,0)):=by
  rw[setRow_other _ _ _ _ hne];exact hv
 have Ae: ∀j v,(aJ x)[j]?=some v→(w.drew.setRow g A0.toArray).cell? ((⟨vb,0,none⟩:Addr).add j)=some v:=fun j v hj=>by
  rw[WideShapes.add_plain,c9G];simp only[World.cell?,Ad];simpa using hj
 have A4: ∀ty dc,(Builtin.copy_ #[56,56] ty #[.slice (some (aD g (i*2))) (n+1-i) dc,.slice (some (aD vb 0)) 1 1]).run prog (w.drew.setRow g A0.toArray)=.ok (goInt (1:Nat)) (w.drew.setRow g ((A0.take (i*2)++aJ x++A0.drop (i*2+2))).toArray):=fun ty dc=>by
  rw[nI (w.drew.setRow g A0.toArray) ty g (i*2) (n+1-i) dc (aD vb 0) 1 1 1 A0.toArray (aJ x) (by simp only[Nat.min_def];split<;>omega) rfl Ac Ae (by show i*2+2≤A0.toArray.size;rw[d0Q,A7];omega) (fun v hv=>by
   have:=tS [x] v (by simpa using hv)
   exact this),setRow_setRow]
  rfl
 obtain⟨A2,A5⟩: ∃A2:Array Value,A2=(A0.take (i*2)++aJ x++A0.drop (i*2+2)).toArray:=⟨_,rfl⟩;rw[←A5]at A4;have HF:Hid (∃arr:Array Value,w.drew.setRow g A2=w.drew.setRow g arr∧arr.size=cap*2∧arr.toList.take ((n+1)*2)=(es.take i++x::es.drop i).flatMap aJ):=by
  refine⟨_,rfl,?_,?_⟩
  ·rw[A5,d0Q];simp only[List.length_append,List.length_take,List.length_drop,A7,Ab];show min (i*2) (cap*2)+2+(cap*2-(i*2+2))=cap*2;omega
  ·rw[A5];show(A0.take (i*2)++aJ x++A0.drop (i*2+2)).take ((n+1)*2)=_;rw[Aa,d0H,d0K,←iZ aJ 2 es i (fun _ _=>rfl) (by rw[←HN.out];omega),←kC aJ 2 es i (fun _ _=>rfl) (by rw[←HN.out];omega)]
   exact d2I (by
    simp only[List.length_append,List.length_take,xR,A3];show min (i*2) (es.length*2)+(2+(n-i)*2)=(n+1)*2;rw[←HN.out]
    omega)
 clear A5 A6 A7 Aa A9 A3 A1 Ac Ad Ae htk hg hv Ab hcs;have Af:prog.follows Departure.mixedOrders=true:=by kernel_rfl
 go_enter func91,ntmps91
 go_wp2_with (simp only[Ag]);go_region_law_o (go_loud (refine step_copy_runI rfl _ _ 56 56 rfl (.slice (some ⟨g,(i+1)*2,none⟩) (n+1-(i+1)) (cap-(i+1))) (.slice (some (aD g (i*2))) (n+1-i) (cap-i)) (by simp[Act.eval,Act.put]) (by simp[Act.eval,Act.put]) (A8 3 (cap-(i+1)) (cap-i)) ?_))
 go_wp2_with (at_builtin;refine wpList_copy_runI _ rfl _ _ 56 56 rfl _ _ rfl rfl (A4 _ _) ?_);go_ret
 exact⟨rfl,HF.out⟩
theorem b7O(g cap i vb:Nat)(cur:Array Value)(es:List HeC)(x:HeC)(w:World)(hi:i<es.length)(hcap:es.length≤cap)(hcap2:cap<es.length+1)(hsm:es.length≤100000)
  (hg:w.heap[g]?=some (.cells cur 61 (0,0))) (htk:cur.toList.take (es.length*2)=es.flatMap aJ) (hv:c6B w vb x):
  Calls prog 91 #[.slice (some (aD g 0)) es.length cap,iV i,.slice (some (aD vb 0)) 1 1] w fun e w'=> ∃(G:Nat) (arr:Array Value),e=.returned (.slice (some (aD w.heap.size 0)) (es.length+1) G)∧es.length+1≤G∧G≤maxLen∧w'.heap[w.heap.size]?=some (.cells arr 61 (0,0))∧arr.size=G*2∧arr.toList.take ((es.length+1)*2)=(es.take i++x::es.drop i).flatMap aJ∧Bl w w':=by
 obtain⟨n,hn⟩: ∃n,n=es.length:=⟨_,rfl⟩;rw[←hn]at hi hcap hcap2 htk hsm⊢;have HN:=hd8 hn;clear hn;have Ay:g<w.heap.size:=(d1M.1 hg).1;have Az:vb<w.heap.size:=(d1M.1 hv).1;obtain⟨i4,Ao,An⟩:=c9J.1 Tryz.infoH;simp only[Prod.mk.injEq]at An;obtain⟨Ar,As,Ae⟩:=An;have A1:(es.flatMap aJ).length=n*2:=by rw[xR,←HN.out]
 have A6:(Builtin.firstCells i4.size i (.slice (some (aD g 0)) i cap)).run prog w.drew=.ok ((es.flatMap aJ).take (i*2)).toArray w.drew:=by
  rw[As];refine run_firstCells_some w.drew 2 i (aD g 0) i cap _ (by rw[c9K,A1];omega) (fun j v hj=>?_);rw[WideShapes.add_plain,c9G];rw[d0C]at hj;split at hj
  ·rw[←htk,d0C]at hj;split at hj
   ·simp only[World.cell?,World.drew,hg];simpa using hj
   ·cases hj
  ·cases hj
 have Ap:(n:Int)+1-(i:Int)=((n+1-i:Nat):Int):=by omega
 have Ad:i+(n+1-i)=n+1:=by omega
 obtain⟨G,hG⟩: ∃G,G=grownCap w (n+1) cap 61:=⟨_,rfl⟩;have Ax:n+1≤G:=by rw[hG];exact grownCap_ge w _ _ _
 have A3:G≤maxLen:=by
  rw[hG];exact grownCap_le_maxLen w (n+1) cap 61 (by unfold maxLen;omega)
 obtain⟨A0,A2⟩: ∃A0:Array Value,A0=((es.flatMap aJ).take (i*2)).toArray++Builtin.zeroCells (Value.agg #[iV 0,nS]).cells (n+1-i)++Builtin.zeroCells (Value.agg #[iV 0,nS]).cells (G-(n+1)):=⟨_,rfl⟩;have Aq: ∀ty,(Builtin.append_ #[56,3] ty #[.slice (some (aD g 0)) i cap,iV ((n:Int)+1-(i:Int))]).run prog w=.ok (.slice (some (aD w.heap.size 0)) (n+1) G) (w.drew.alloc (.cells A0 61)):=fun ty=>by
  have h:=Lib.run_append_grow_zeros (P:=prog) w 56 3 ty 61 i4 _ .i64 .i64 underlying56 underlying3 Ao Ar (some (aD g 0)) i cap _ A6 (n+1-i) (by omega) (by omega) (by omega) (by omega) (by rw[Ae];omega) (by rw[Ae,Ad];exact growslice_fits (by omega) (by omega));rw[Ad,←hG,←A2]at h;rw[Ap];exact h
 have Af: ∀k,(Builtin.zeroCells (Value.agg #[iV 0,nS]).cells k).size=k*2:=fun k=>by
  simp[Builtin.zeroCells,Value.cells]
 have A8:A0.toList.length=G*2:=by
  rw[d1B,A2,d2R,d2R,Af,Af,d0Q,c9K,A1];omega
 have Am:A0.toList.take (i*2)=(es.flatMap aJ).take (i*2):=by
  rw[A2,d2M,d2M,c9X];exact d2I (by rw[c9K,A1];omega)
 obtain⟨A,Aj,Ak,Aa⟩:=uA A0.toList (es.flatMap aJ) (aJ x) (i*2) (n*2) 2 (by omega) (by omega) Am rfl;obtain⟨B,hB⟩: ∃B:Array Value,B=(A.take (i*2+2)++(es.flatMap aJ).drop (i*2)++A.drop (i*2+2+(n*2-i*2))).toArray:=⟨_,rfl⟩;have A7:((es.flatMap aJ).drop (i*2)).length=(n-i)*2:=by
  rw[d0A,A1];omega
 have A4: ∀(W:World),W.heap[w.heap.size]?=some (.cells A0 61 (0,0))→W.heap[vb]?=w.heap[vb]?→ ∀ty dc,(Builtin.copy_ #[56,56] ty #[.slice (some (aD w.heap.size (i*2))) (n+1-i) dc,.slice (some (aD vb 0)) 1 1]).run prog W=.ok (goInt (1:Nat)) (W.setRow w.heap.size A.toArray):=fun W hW1 hW2 ty dc=>by
  rw[nI W ty w.heap.size (i*2) (n+1-i) dc (aD vb 0) 1 1 1 A0 (aJ x) (by simp only[Nat.min_def];split<;>omega) rfl hW1 (fun j v hj=>by
   rw[WideShapes.add_plain,c9G];rw[hv]at hW2;simp only[World.cell?,hW2]
   simpa using hj) (by show i*2+2≤A0.size;rw[←d1B,A8];omega) (fun v hv=>tS [x] v (by simpa using hv)),Aj]
  rfl
 have A5: ∀(W:World),W.heap[w.heap.size]?=some (.cells A.toArray 61 (0,0))→W.heap[g]?=w.heap[g]?→ ∀ty dc sc,(Builtin.copy_ #[56,56] ty #[.slice (some ⟨w.heap.size,(i+1)*2,none⟩) (n+1-(i+1)) dc,.slice (some (aD g (i*2))) (n-i) sc]).run prog W=.ok (goInt (n-i:Nat)) (W.setRow w.heap.size B):=fun W hW1 hW2 ty dc sc=>by
  rw[nI W ty w.heap.size ((i+1)*2) (n+1-(i+1)) dc (aD g (i*2)) (n-i) sc (n-i) A.toArray ((es.flatMap aJ).drop (i*2)) (by simp only[Nat.min_def];split<;>omega) A7 hW1 (fun j v hj=>by
   rw[WideShapes.add_plain];rw[←htk,d0J,d0C]at hj;split at hj
   ·rw[hg]at hW2;simp only[World.cell?,hW2];simpa using hj
   ·cases hj) (by rw[A7,List.size_toArray,Ak,A8];omega) (fun v hv=>tS es v (d1S hv)),A7,hB,show(i+1)*2=i*2+2 by omega,show(n-i)*2=n*2-i*2 by omega]
 have Au:Hid (B.size=G*2):=by
  show B.size=G*2;rw[hB,d0Q,Aa];simp only[List.length_append,List.length_take,List.length_drop,A1,A8];show min (i*2) (n*2)+(2+(n*2-i*2))+(G*2-(n*2+2))=G*2;omega
 have Av:Hid (B.toList.take ((n+1)*2)=(es.take i++x::es.drop i).flatMap aJ):=by
  show B.toList.take ((n+1)*2)=_;rw[hB];show(A.take (i*2+2)++(es.flatMap aJ).drop (i*2)++A.drop (i*2+2+(n*2-i*2))).take ((n+1)*2)=_;rw[Aa,d0H,d0K,←iZ aJ 2 es i (fun _ _=>rfl) (by rw[←HN.out];omega),←kC aJ 2 es i (fun _ _=>rfl) (by rw[←HN.out];omega)]
  exact d2I (by
   simp only[List.length_append,List.length_take,List.length_drop,A1];show min (i*2) (n*2)+(2+(n*2-i*2))=(n+1)*2
   omega)
 have h0:(w.drew.alloc (.cells A0 61)).heap[w.heap.size]?=some (.cells A0 61 (0,0)):=heap_alloc_new w.drew _;have Ah:(w.drew.alloc (.cells A0 61)).heap[vb]?=w.heap[vb]?:=Deep.blk_alloc_lt w.drew _ _ Az;have Ag:(w.drew.alloc (.cells A0 61)).heap[g]?=w.heap[g]?:=Deep.blk_alloc_lt w.drew _ _ Ay;have Ab:=A4 (w.drew.alloc (.cells A0 61)) h0 Ah;have h1:((w.drew.alloc (.cells A0 61)).setRow w.heap.size A.toArray).heap[w.heap.size]?=some (.cells A.toArray 61 (0,0)):=setRow_heap _ _ A0 _ 61 _ h0;have Ai:((w.drew.alloc (.cells A0 61)).setRow w.heap.size A.toArray).heap[g]?=w.heap[g]?:=by
  rw[setRow_other _ _ _ _ (by omega)];exact Ag
 have Ac:=A5 ((w.drew.alloc (.cells A0 61)).setRow w.heap.size A.toArray).drew h1 Ai;have h2:(((w.drew.alloc (.cells A0 61)).setRow w.heap.size A.toArray).drew.setRow w.heap.size B).heap[w.heap.size]?=some (.cells B 61 (0,0)):=setRow_heap _ _ A.toArray _ 61 _ h1;have A9:Bl w (((w.drew.alloc (.cells A0 61)).setRow w.heap.size A.toArray).drew.setRow w.heap.size B):=by
  have b0:Bl w w.drew:=⟨rfl,rfl,rfl,c9C _,fun _ _=>rfl⟩;have b1:=b0.alloc (c9C _) (.cells A0 61);have b2:=below_setRow b1 (c9C _) A.toArray;exact below_setRow (w:=((w.drew.alloc (.cells A0 61)).setRow w.heap.size A.toArray).drew) ⟨b2.os,b2.tape,b2.output,b2.size,b2.block⟩ (c9C _) B
 generalize hW1:w.drew.alloc (.cells A0 61)=W1 at Aq Ab Ac h2 A9;generalize hW2:W1.setRow w.heap.size A.toArray=W2 at Ab Ac h2 A9;have HF:Hid (Bl w (W2.drew.setRow w.heap.size B)∧(W2.drew.setRow w.heap.size B).heap[w.heap.size]?=some (.cells B 61 (0,0))):=⟨A9,h2⟩;clear hW1 hW2 A9 h2 h1 Ai h0 Ah Ag A4 A5 hB Aj Ak Aa Am A8 Af A2 A6 A7 htk hg hv Ao Ar As Ae Ap Ad hG A1;have B7: ¬((i:Int)=(n:Int)):=by omega
 have B8:(cap:Int)<(n:Int)+1:=by omega
 have B6:IntKind.i64.wrap ((i:Int)+1)=(i:Int)+1:=by rw[IntKind.wrap_i64];omega
 have B4:i≤n:=by omega
 have B1:(0:Int)≤(i:Int)+1:=by omega
 have B5:((i:Int)+1).toNat=i+1:=by omega
 have B2:(i:Int)≤(n:Int):=by omega
 have B0: ¬(G=i):=by omega
 have Aw: ¬(G=i+1):=by omega
 have B3: ¬(cap=i):=by omega
 have Al:G≤9223372036854775807:=by unfold maxLen at A3;omega
 have At:prog.follows Departure.mixedOrders=true:=by kernel_rfl
 go_enter func91,ntmps91
 go_wp2_with (first|(at_builtin;refine Lib.wpList_append_run _ rfl _ _ _ _ rfl _ _ rfl rfl _ _ (Aq _) ?_)|(at_builtin;refine wpList_copy_runI _ rfl _ _ 56 56 rfl _ _ rfl rfl (Ab _ _) ?_));go_region_law_o (go_loud (refine step_copy_runI rfl _ _ 56 56 rfl (.slice (some ⟨w.heap.size,(i+1)*2,none⟩) (n+1-(i+1)) (G-(i+1))) (.slice (some (aD g (i*2))) (n-i) (cap-i)) (by simp[Act.eval,Act.put]) (by simp[Act.eval,Act.put]) (Ac 3 (G-(i+1)) (cap-i)) ?_))
 go_wp2_with fail;go_ret
 exact⟨G,B,rfl,Ax,A3,HF.out.2,Au.out,Av.out,HF.out.1⟩
theorem c2P(B vb:Nat)(v:Value)(es:List HeC)(x:HeC)(w:World)(h:w.ownsRow B 61 2 v es.length (es.flatMap aJ))(hB:B≤w.heap.size)(hn:es.length≤100000)(hv:c6B w vb x):
  Calls prog 91 #[v,iV es.length,.slice (some (aD vb 0)) 1 1] w fun e w'=>b9B e w w' B v (es++[x]):=by
 obtain⟨i4,A5,A2⟩:=c9J.1 Tryz.infoH;simp only[Prod.mk.injEq]at A2;obtain⟨A6,A7,A8⟩:=A2
 obtain⟨v',w',A0,ho,hg,_,A1⟩:=run_append_own_at (P:=prog) w B 56 56 61 i4 _ 2 32 underlying56 A5 A6 A7 A8 rfl (by decide) v es.length _ h (aD vb 0) 1 1 (aJ x) rfl (fun j u hj=>by
  rw[WideShapes.add_plain,c9G];simp only[World.cell?,hv]
  simpa using hj) (fun u hu=>tS [x] u (by simpa using hu)) (by unfold maxLen;omega) (by omega) hB
 have HR:Hid (b9B (.returned v') w w' B v (es++[x])):=by
  refine⟨v',rfl,?_,cI hg,?_⟩
  ·rw[c9I,d0H,List.length_singleton,d0K,List.flatMap_nil,d0W];exact ho
  ·rcases A1 with q|q
   ·exact Or.inl q
   ·refine Or.inr fun g hg=>?_;rw[q]at hg;cases hg
    exact c9C _
 clear ho hg A1;rcases h.2 with⟨rfl,h0⟩|⟨g,A3,A9,rfl,_,_,hc,hm,_⟩
 ·rw[h0];clear h hv;go_enter func91,ntmps91
  go_wp2_with (at_builtin;refine Lib.wpList_append_run _ rfl _ _ _ _ rfl _ _ rfl rfl _ _ A0 ?_);go_ret
  exact HR.out
 ·clear h hv;unfold maxLen at hm;by_cases A4:A3=es.length
  ·subst A4;go_enter func91,ntmps91
   go_wp2_with (at_builtin;refine Lib.wpList_append_run _ rfl _ _ _ _ rfl _ _ rfl rfl _ _ A0 ?_);go_ret
   exact HR.out
  ·go_enter func91,ntmps91
   go_wp2_with (at_builtin;refine Lib.wpList_append_run _ rfl _ _ _ _ rfl _ _ rfl rfl _ _ A0 ?_);go_ret
   exact HR.out
theorem c2M(B i vb:Nat)(v:Value)(es:List HeC)(x:HeC)(w:World)(h:w.ownsRow B 61 2 v es.length (es.flatMap aJ))(hB:B≤w.heap.size)(hi:i≤es.length)(hn:es.length≤100000)(hv:c6B w vb x)(hne:v.ownBlock≠some vb):
  Calls prog 91 #[v,iV i,.slice (some (aD vb 0)) 1 1] w fun e w'=>b9B e w w' B v (es.take i++x::es.drop i):=by
 have A0:(es.take i++x::es.drop i).length=es.length+1:=by
  simp;omega
 by_cases he:i=es.length
 ·subst he;have H:=c2P B vb v es x w h hB hn hv;rw[d0L,d0T];exact H
 ·rcases h.2 with⟨_,h0⟩|⟨g,A3,A4,rfl,A9,hg,hc,hm,Ad,A8⟩
  ·omega
  ·by_cases A1:es.length+1≤A3
   ·refine(b0K g A3 i vb A4 es x w (by omega) A1 (by unfold maxLen at hm;exact hm) Ad hg A8 hv (fun e=>hne (by rw[e];rfl))).mono ?_;rintro e w' ⟨rfl,A2,rfl,A5,A6⟩;have A7:(w.drew.setRow g A2).heap[g]?=some (.cells A2 61 (0,0)):=setRow_heap w.drew g A4 _ 61 _ hg;refine⟨_,rfl,?_,?_,Or.inl rfl⟩
    ·rw[A0];exact⟨by rw[xR,A0],Or.inr ⟨g,A3,A2,rfl,A9,A7,A1,hm,A5,A6⟩⟩
    ·exact zR w g A2
   ·refine(b7O g A3 i vb A4 es x w (by omega) hc (by omega) hn hg A8 hv).mono ?_;rintro e w' ⟨G,A2,rfl,Aa,Ab,A7,A5,A6,Ac⟩;refine⟨_,rfl,?_,Off.oE Ac,Or.inr fun x hx=>?_⟩
    ·rw[A0];exact⟨by rw[xR,A0],Or.inr ⟨w.heap.size,G,A2,rfl,hB,A7,Aa,Ab,A5,A6⟩⟩
    ·cases hx
     exact c9C _
theorem a0C{o cap:Nat}{f:Nat→Nat}(h:cA w (.slice (some (aD g o)) n cap) n f)(e:w'.heap[g]?=w.heap[g]?):cA w' (.slice (some (aD g o)) n cap) n f:=by
 obtain⟨bd,A,C,hv,h1,h2,hc⟩:=h;refine⟨bd,A,C,hv,h1,h2,fun k hk=>?_⟩;obtain⟨b',o',e1,e2⟩:=hc k hk;cases hv
 cases e1
 exact⟨g,o,rfl,(World.cell?_of_block (a:=⟨g,o+k,none⟩) e).trans e2⟩
theorem b7N{f:Nat→Nat}(h:cA w v 0 f):cA w' v 0 f:=by
 obtain⟨bd,A,C,hv,h1,h2,_⟩:=h;exact⟨bd,A,C,hv,h1,h2,fun k hk=>absurd hk (c9L k)⟩
structure Pce(w:World)(N:Nat)(v:Value)(n:Nat)(f:Nat→Nat):Prop where
 byts:cA w v n f
 own:n=0∨ ∃g o cap m F,v=.slice (some (aD g o)) n cap∧N≤g∧aZ w g 5 m F
theorem Pce.of_block{f:Nat→Nat}(h:Pce w N v n f)(hb: ∀g m F,N≤g→aZ w g 5 m F→w'.heap[g]?=w.heap[g]?):Pce w' N v n f:=by
 rcases h.own with rfl|⟨g,o,A0,m,F,rfl,hg,hr⟩
 ·exact⟨b7N h.byts,Or.inl rfl⟩
 ·exact⟨a0C h.byts (hb g m F hg hr),Or.inr ⟨g,o,A0,m,F,rfl,hg,hr.of_block (hb g m F hg hr)⟩⟩
theorem Pce.bE{f:Nat→Nat}(h:Pce w N v n f)(hb:Bl w w'):Pce w' N v n f:=h.of_block (fun g _ _ _ hr=>hb.block g hr.lt)
theorem Pce.kept{f:Nat→Nat}(h:Pce w N v n f)(ht:5≠t)(ho:w.ownsRow M t 1 y k xs)(hg:w.grownBy w' y.ownBlock):Pce w' N v n f:=
 h.of_block (fun g m F _ hr=>hg.block g hr.lt (fun e=>by
  obtain⟨F2,h2⟩:=fL ho e.symm
  exact hr.ne h2 ht rfl))
theorem Pce.lower{f:Nat→Nat}(h:Pce w N v n f)(hM:M≤N):Pce w M v n f:=
 ⟨h.byts,h.own.imp id (fun⟨g,o,cap,m,F,e,hg,hr⟩=>⟨g,o,cap,m,F,e,c9E hM hg,hr⟩)⟩
theorem Pce.nil(w:World)(N:Nat){f:Nat→Nat}(hf:Bd f):Pce w N nS 0 f:=⟨cA.none w hf,Or.inl rfl⟩
theorem kX.pce{f:Nat→Nat}(h:kX w N v n f)(hf:Bd f):Pce w N v n f:=by
 refine⟨h.byts hf,?_⟩;obtain⟨g,A0,rfl,hg,_,_,hr⟩:=h;exact Or.inr ⟨g,0,A0,_,_,rfl,hg,hr⟩
structure Pcs(w:World)(N:Nat)(v:Value)(k:Nat)(U:Nat→Value)(L:Nat→Nat)(f:Nat→Nat→Nat):Prop where
 own:w.ownsRow N 59 1 v k ((List.range k).map U)
 row: ∀i,i<k→Pce w N (U i) (L i) (f i)
theorem Pcs.bE(h:Pcs w N v k U L f)(hb:Bl w w'):Pcs w' N v k U L f:=
 ⟨aK h.own hb,fun i hi=>(h.row i hi).bE hb⟩
theorem Pcs.start(w:World)(N:Nat)(U:Nat→Value)(L:Nat→Nat)(f:Nat→Nat→Nat):Pcs w N nS 0 U L f:=
 ⟨World.ownsRow_nil w N _ 1,fun i hi=>absurd hi (c9L i)⟩
theorem Pcs.step{w':World}{v' u:Value}(h:Pcs w N v k U L f)(hr:Pce w N u (L k) (f k))
  (ho:w'.ownsRow N 59 1 v' (k+1) ((List.range k).map U++[u])) (hg:w.grownBy w' v.ownBlock):Pcs w' N v' (k+1) (b8W U k u) L f:=by
 refine⟨by rw[pR];exact ho,fun i hi=>?_⟩;by_cases e:i=k
 ·rw[e,sF];exact hr.kept (by decide) h.own hg
 ·rw[sH _ _ e];exact(h.row i (by omega)).kept (by decide) h.own hg
theorem Pcs.lls(h:Pcs w N v k U L f)(bd:Gf.Bd2 f):Lls w v k L f:=by
 rcases h.own.2 with⟨rfl,h0⟩|⟨g,A0,A1,rfl,_,_,h1,h2,_,_⟩
 ·subst h0;exact⟨bd,none,0,rfl,c9C _,c9D _,fun r hr=>absurd hr (c9L r)⟩
 ·refine⟨bd,some (aD g 0),A0,rfl,h1,h2,fun r hr=>⟨g,0,U r,rfl,?_,(h.row r hr).byts⟩⟩;have:=h.own.cells (g:=g) rfl r (U r) (by simp[hr]);rw[WideShapes.add_plain]at this;exact this
theorem Pcs.kept(h:Pcs w N v k U L f)(ht:5≠t)(ht2:59≠t)(ho:w.ownsRow M t 1 y m xs)(hg:w.grownBy w' y.ownBlock):Pcs w' N v k U L f:=by
 refine⟨h.own.kept hg ?_,fun i hi=>(h.row i hi).kept ht ho hg⟩;cases hv:v.ownBlock with
 |none=>exact Or.inl rfl
 |some x=>
  refine Or.inr (fun e=>?_);obtain⟨F1,h1⟩:=fL h.own hv;obtain⟨F2,h2⟩:=fL ho e.symm;exact h1.ne h2 ht2 rfl
theorem iQ.kept{l:List Nat}(h:iQ w N v l)(ht:3≠t)(ho:w.ownsRow M t 1 y m xs)(hg:w.grownBy w' y.ownBlock):iQ w' N v l:=by
 refine World.ownsRow.kept h hg ?_;cases hv:v.ownBlock with
 |none=>exact Or.inl rfl
 |some x=>
  refine Or.inr (fun e=>?_);obtain⟨F1,h1⟩:=fL h hv;obtain⟨F2,h2⟩:=fL ho e.symm;exact h1.ne h2 ht rfl
def c7Y(w:World)(N:Nat)(v:Value)(y:Bool)(P:Prop)(n:Nat)(g:Nat→Nat):Prop:=
 (P∧y=true∧ ∃d,v=.agg #[iV (g 1:Nat),iV (g 2:Nat),iV (g 3*256+g 4:Nat),d]∧kX w N d (n-11) (fun k=>g (k+7)))∨
 (¬P∧y=false∧v=.agg #[iV 0,iV 0,iV 0,nS])
theorem oJ(v:Value)(n:Nat)(g:Nat→Nat)(s:Int)(i:Nat)(w:World)(h:cA w v n g):
  Calls prog 90 #[v,iV s,iV i] w fun e w'=> ∃v' y,e=.returned (.tuple #[v',.bool y])∧c7Y w' w.heap.size v' y (Crc.aL g n=0∧((g 1:Nat):Int)=s∧g 2=i) n g∧Bl w w':=by
 obtain⟨A0,C0,rfl⟩:=h.sE;have bA:=aB8 w (.cells #[iV 0,iV 0,iV 0,nS] 137);have V0:=fW w (iV 0) (iV 0) (iV 0) nS;by_cases hE:Crc.aL g n=0
 ·have H1:=b0A _ n g _ (h.bE bA) hE;clear h;have HE:=hd8 hE;generalize hz:g 3*256+g 4=z at H1;have HZ:=hd8 hz;clear hz;by_cases h1:((g 1:Nat):Int)=s
  ·by_cases h2:g 2=i
   ·have t1:(((g 1:Nat):Int)==s)=true:=by rw[beq_iff_eq];exact h1
    have t2:(((g 2:Nat):Int)==(i:Int))=true:=by rw[beq_iff_eq];omega
    have n1:(((g 1:Nat):Int) !=s)=false:=by rw[bne,t1];rfl
    have n2:(((g 2:Nat):Int) !=(i:Int))=false:=by rw[bne,t2];rfl
    have HY:Hid (Crc.aL g n=0∧((g 1:Nat):Int)=s∧g 2=i):=⟨hE,h1,h2⟩;clear hE h1 h2;go_enter func90,ntmps90
    go_wp2_with fail;refine H1.mono ?_;rintro e w1 ⟨d,rfl,hd,b1⟩;obtain⟨g5,c5,rfl,A3,A2,A4,R5⟩:=hd;have V1:=V0.bE b1;have bz:=bt bA b1;have bX:=aB8 w1 (.cells #[iV (g 1:Nat),iV (g 2:Nat),iV z,.slice (some (aD g5 0)) (n-11) c5] 137);obtain⟨c0,c1,c2,c3,fr⟩:=V1.bE bX;have f0:=fr 0;have f1:=fr 1;have f2:=fr 2;have f3:=fr 3;have R6:=R5.bE bX;have bz:=bt bz bX;have A6:w.heap.size<g5:=c9P (by simp) A3;clear H1 V0 V1 R5 bX b1;go_wp2_with fail;refine bodyPost_ret (v:=.tuple #[.agg #[iV (g 1:Nat),iV (g 2:Nat),iV z,.slice (some (aD g5 0)) (n-11) c5],.bool true]) (by simp[results,results90,go_sem,c0,c1,c2,c3]) rfl ⟨_,_,rfl,Or.inl ⟨HY.out,rfl,_,by rw[HZ.out],⟨g5,c5,rfl,by omega,A2,A4,c5P R6 (by omega)⟩⟩,?_⟩;exact(((bz.setCell (c9C _) _).setCell (c9C _) _).setCell (c9C _) _).setCell (c9C _) _
   ·have t1:(((g 1:Nat):Int)==s)=true:=by rw[beq_iff_eq];exact h1
    have t2:(((g 2:Nat):Int)==(i:Int))=false:=by rw[beq_eq_false_iff_ne];omega
    have n1:(((g 1:Nat):Int) !=s)=false:=by rw[bne,t1];rfl
    have n2:(((g 2:Nat):Int) !=(i:Int))=true:=by rw[bne,t2];rfl
    have HN:Hid (¬(Crc.aL g n=0∧((g 1:Nat):Int)=s∧g 2=i)):=fun q=>h2 q.2.2;clear hE h1 h2;go_enter func90,ntmps90
    go_wp2_with fail;refine H1.mono ?_;rintro e w1 ⟨d,rfl,hd,b1⟩;obtain⟨g5,c5,rfl,_,_,_,_⟩:=hd;have V1:=V0.bE b1;have bz:=bt bA b1;have bX:=aB8 w1 (.cells #[iV (g 1:Nat),iV (g 2:Nat),iV z,.slice (some (aD g5 0)) (n-11) c5] 137);obtain⟨c0,c1,c2,c3,fr⟩:=V1.bE bX;have f0:=fr 0;have f1:=fr 1;have f2:=fr 2;have f3:=fr 3;have bz:=bt bz bX;clear H1 V0 V1 bX b1;go_wp2_with fail;refine bodyPost_ret (v:=.tuple #[.agg #[iV 0,iV 0,iV 0,nS],.bool false]) (by simp[results,results90,go_sem,c0,c1,c2,c3]) rfl ⟨_,_,rfl,Or.inr ⟨HN.out,rfl,rfl⟩,?_⟩;exact(((bz.setCell (c9C _) _).setCell (c9C _) _).setCell (c9C _) _).setCell (c9C _) _
  ·have t1:(((g 1:Nat):Int)==s)=false:=by rw[beq_eq_false_iff_ne];exact h1
   have n1:(((g 1:Nat):Int) !=s)=true:=by rw[bne,t1];rfl
   have HN:Hid (¬(Crc.aL g n=0∧((g 1:Nat):Int)=s∧g 2=i)):=fun q=>h1 q.2.1;clear hE h1;go_enter func90,ntmps90
   go_wp2_with fail;refine H1.mono ?_;rintro e w1 ⟨d,rfl,hd,b1⟩;obtain⟨g5,c5,rfl,_,_,_,_⟩:=hd;have V1:=V0.bE b1;have bz:=bt bA b1;have bX:=aB8 w1 (.cells #[iV (g 1:Nat),iV (g 2:Nat),iV z,.slice (some (aD g5 0)) (n-11) c5] 137);obtain⟨c0,c1,c2,c3,fr⟩:=V1.bE bX;have f0:=fr 0;have f1:=fr 1;have f2:=fr 2;have f3:=fr 3;have bz:=bt bz bX;clear H1 V0 V1 bX b1;go_wp2_with fail;refine bodyPost_ret (v:=.tuple #[.agg #[iV 0,iV 0,iV 0,nS],.bool false]) (by simp[results,results90,go_sem,c0,c1,c2,c3]) rfl ⟨_,_,rfl,Or.inr ⟨HN.out,rfl,rfl⟩,?_⟩;exact(((bz.setCell (c9C _) _).setCell (c9C _) _).setCell (c9C _) _).setCell (c9C _) _
 ·have HN:Hid (¬(Crc.aL g n=0∧((g 1:Nat):Int)=s∧g 2=i)):=fun q=>hE q.1;have H1:=b7U _ n g _ (h.bE bA);rw[nU hE,nU hE,nU hE,nU hE]at H1;have A1:(((Crc.aL g n:Nat):Int)==0)=false:=by rw[beq_eq_false_iff_ne];omega
  have A5:(((Crc.aL g n:Nat):Int) !=0)=true:=by rw[bne,A1];rfl
  obtain⟨P,hP⟩: ∃P:Prop,P=(Crc.aL g n=0∧((g 1:Nat):Int)=s∧g 2=i):=⟨_,rfl⟩;rw[←hP]at HN⊢;clear hP h;generalize Crc.aL g n=E at H1 A1 A5;clear hE;go_enter func90,ntmps90
  go_wp2_with fail;refine H1.mono ?_;rintro e w1 ⟨v1,rfl,⟨d,rfl,hd⟩,b1⟩;obtain⟨A,C,rfl⟩:=hd.sE;have V1:=V0.bE b1;have bz:=bt bA b1;have bX:=aB8 w1 (.cells #[iV 0,iV 0,iV 0,.slice A 0 C] 137);obtain⟨c0,c1,c2,c3,fr⟩:=V1.bE bX;have f0:=fr 0;have f1:=fr 1;have f2:=fr 2;have f3:=fr 3;have bz:=bt bz bX;clear hd;clear H1 V0 V1 bX b1;go_wp2_with fail;refine bodyPost_ret (v:=.tuple #[.agg #[iV 0,iV 0,iV 0,nS],.bool false]) (by simp[results,results90,go_sem,c0,c1,c2,c3]) rfl ⟨_,_,rfl,Or.inr ⟨HN.out,rfl,rfl⟩,?_⟩;exact(((bz.setCell (c9C _) _).setCell (c9C _) _).setCell (c9C _) _).setCell (c9C _) _
theorem c5Y(v:Value)(N:Nat)(L:Nat→Nat)(g:Nat→Nat→Nat)(s:Int)(w:World)(h:Lls w v N L g)(hN:(N+1)*8≤140737488355328):
  Calls prog 53 #[v,iV s] w fun e w'=> ∃v',e=.returned v'∧iQ w' w.heap.size v' (Seg.kI s L g N)∧Bl w w':=by
 obtain⟨i1,A6,A0⟩:=c9J.1 Tryz.infoInt;simp only[Prod.mk.injEq]at A0;obtain⟨A9,Aa,Ab⟩:=A0;obtain⟨A,C,rfl⟩:=h.sE;have HL:Hid (∀w',Bl w w'→ ∀r,r<N→ ∃b o R K,A=some (aD b o)∧w'.cell? (aD b (o+r))=some (.slice R (L r) K)∧cA w' (.slice R (L r) K) (L r) (g r)):=fun w' hb r hr=>(h.bE hb).at hr;clear h;go_enter func53,ntmps53
 go_wp2_with fail;go_loopw [5,12] (fun y x wr=> ∃k:Nat,k≤N∧x=iV k∧iQ wr w.heap.size y (Seg.kI s L g k)∧Bl w wr) (fun _ x _=>N-(intOf x).toNat)
 case atStart=>exact⟨0,c9D _,rfl,iQ.nil _ _,Below.refl _ _⟩
 case round=>
  obtain⟨k,hk,rfl,BN,hb⟩:=hrel;by_cases A7:k<N
  ·have A8:(k:Int)<(N:Int):=by omega
   obtain⟨b,o,R,K,rfl,d0,hy⟩:=HL.out wr hb k A7;have HR:=oJ _ _ (g k) s k wr hy;have Ac:=zZ s L g k;obtain⟨P,hP⟩: ∃P:Prop,P=(Crc.aL (g k) (L k)=0∧((g k 1:Nat):Int)=s∧g k 2=k):=⟨_,rfl⟩;have A5:Hid (P→Seg.kI s L g (k+1)=Seg.kI s L g k):=fun q=>Seg.b3T (by rw[hP]at q;exact q);have A4:Hid (¬P→Seg.kI s L g (k+1)=Seg.kI s L g k++[k]):=fun q=>Seg.a6N (fun r=>q (by rw[hP];exact r));rw[←hP]at HR;clear hy hP;go_wp2_with fail;refine HR.mono ?_;rintro e w1 ⟨v1,y,rfl,hO,b1⟩;have BN:=BN.bE b1;have b1:=bt hb b1;rcases hO with⟨hp,rfl,d,rfl,g5,c5,rfl,_⟩|⟨hp,rfl,rfl⟩
   ·have bX:=aB8 w1 (.cells #[iV (g k 1:Nat),iV (g k 2:Nat),iV (g k 3*256+g k 4:Nat),.slice (some (aD g5 0)) (L k-11) c5] 137);have BN:=BN.bE bX;have b1:=bt b1 bX;rw[←A5.out hp]at BN;clear HR hp bX;go_wp2_with fail;exact⟨⟨k+1,by omega,by go_num,BN,b1⟩,by simp[intOf];omega⟩
   ·have A3:=hd8 hp;have bV:=aB8 w1 (.cells #[iV 0,iV 0,iV 0,nS] 137);have BN:=BN.bE bV;have b1:=bt b1 bV;have A1:(w1.alloc (.cells #[iV 0,iV 0,iV 0,nS] 137)).heap.size=w1.heap.size+1:=by simp
    have bX:=(Below.refl (w1.alloc (.cells #[iV 0,iV 0,iV 0,nS] 137)).heap.size (w1.alloc (.cells #[iV 0,iV 0,iV 0,nS] 137))).alloc (c9C _) (.cells #[iV k] 3);have BX:=BN.bE bX;have b2:=bt b1 bX;have cn: ∀j u,[Value.int .i64 k][j]?=some u→((w1.alloc (.cells #[iV 0,iV 0,iV 0,nS] 137)).alloc (.cells #[iV k] 3)).cell? ((⟨w1.heap.size+1,0,none⟩:Addr).add j)=some u:=by
     have q:=eE (w1.alloc (.cells #[iV 0,iV 0,iV 0,nS] 137)) #[iV k] 3;rw[A1]at q;exact q
    have A2:=BX.lt;clear HR hp bV BN bX A1;go_wp2_with (at_builtin;go_loud (refine wpList_append_own _ rfl (.tmp 26) (.tmp 28) 27 rfl w.heap.size 3 i1 (iV 0) 1 8 underlying27 A6 A9 Aa Ab rfl (by decide) _ _ _ rfl BX (aD (w1.heap.size+1) 0) 1 1 [iV k] rfl rfl cn (by intro u hu;simp at hu;rw[hu];rfl) (by unfold maxLen;omega) (by omega) b2.size ?_;intro v3 w3 hown3 hgrow3 _));have B3:=iQ.one hown3;rw[←A4.out A3.out]at B3;have b3:=b2.grown hgrow3 b2.size (fun y hy=>(A2 y hy).1);exact⟨⟨k+1,by omega,by go_num,B3,b3⟩,by simp[intOf];omega⟩
  ·obtain rfl:k=N:=by omega
   go_wp2_with fail;go_ret
   exact⟨_,rfl,BN,hb⟩
theorem b8Y{L d:Nat}(hd:1≤d):Nat.max 1 ((L+d-1)/d)=Seg.dF L d:=by
 show max 1 ((L+d-1)/d)=_;unfold Seg.dF;split
 ·rename_i h;have:(L+d-1)/d<2:=by
   rw[Nat.div_lt_iff_lt_mul (by omega)];omega
  omega
 ·rename_i h;have:1≤(L+d-1)/d:=by
   rw[Nat.le_div_iff_mul_le (by omega)];omega
  omega
def spr(r:Nat→Nat)(L k:Nat):Nat:=if k<L then r k else 0
theorem c3X{F:Nat→Nat}(hmn:n≤m)(h:w.heap[g]?=some (.cells (splice (madeCells #[.int .u8 0] m).toList 0 (cellsOf F n)).toArray 5 (0,0))):aZ w g 5 m (fun j=> .int .u8 (spr F n j:Nat)):=by
 have hl:(cellsOf F n).length=n:=by simp[cellsOf]
 have A1:(madeCells #[Value.int .u8 0] m).toList.length=m:=by simp[madeCells]
 refine iL ⟨_,h,?_,fun i hi=>?_⟩
 ·rw[d0Q,length_splice _ _ _ (by rw[hl,A1];omega),A1]
 ·have hi:i<m:=hi;simp only[List.getElem?_toArray,splice,List.take_zero,List.nil_append,Nat.zero_add];unfold spr;by_cases A0:i<n
  ·rw[if_pos A0,d0M (by rw[hl];exact A0)];simp[cellsOf,A0]
  ·rw[if_neg A0,d0S (by rw[hl];omega),d0J,hl,show n+(i-n)=i by omega];simp[madeCells,hi,Nat.mod_one]
theorem a6R{r:Nat→Nat}{L i:Nat}(hk:k<n):Seg.eT r L n i k=spr r L (i*n+k):=by
 unfold Seg.eT spr;by_cases h:i*n+k<L
 ·rw[if_pos ⟨hk,h⟩,if_pos h]
 ·rw[if_neg (fun q=>h q.2),if_neg h]
theorem xM(v:Value)(L:Nat)(r:Nat→Nat)(d:Nat)(w:World)(h:cA w v L r)(h1:1≤d)(h2:d≤8)(h5:L≤400*d):
  Calls prog 110 #[v,iV d] w fun e w'=> ∃v' U,e=.returned v'∧Pcs w' w.heap.size v' d U (fun _=>Seg.dF L d) (Seg.eT r L (Seg.dF L d))∧Bl w w':=by
 have B2:=Seg.oH L d h1;have At:=Seg.nF h1 h5;have Ac:=Seg.uO L d h1;obtain⟨A,C,rfl⟩:=h.sE;have hL:=h.len;obtain⟨q,hq⟩: ∃q,q=(L+d-1)/d:=⟨_,rfl⟩;have B1:q≤400*8+8:=by
  have:=Nat.div_le_self (L+d-1) d;omega
 have A3:(((L:Int)+(d:Int)-1).tdiv (d:Int))=(q:Int):=by
  rw[show(L:Int)+(d:Int)-1=((L+d-1:Nat):Int) by omega,hq];rfl
 have Au:IntKind.i64.wrap (q:Int)=(q:Int):=by rw[IntKind.wrap_i64];omega
 have A4:max (1:Int) (q:Int)=((Seg.dF L d:Nat):Int):=by
  have:=b8Y (L:=L) h1;rw[←hq]at this;have e:Nat.max 1 q=max 1 q:=rfl;omega
 have Az: ¬(d:Int)=0:=by omega
 have Ao:(L:Int)+(d:Int)≤9223372036854775807:=by omega
 clear hq;generalize hnn:Seg.dF L d=n at*;have Ar:=d0Y h2 At;obtain⟨m,hm⟩: ∃m,m=d*n:=⟨_,rfl⟩;have A2:L≤m:=by rw[hm,Nat.mul_comm];exact Ac
 have B0:(d:Int)*(n:Int)=(m:Int):=by rw[hm,Int.natCast_mul]
 have Af:Hid (∀i,i<d→i*n+n≤m):=fun i hi=>by
  have:=d1J n (show i+1≤d by omega);rw[d0F]at this;rw[hm];exact this
 have Ae:Hid (Bd (fun k=>spr r L k)):=fun k=>by
  show spr r L k<256;unfold spr;split
  ·exact h.bd k
  ·decide
 rw[←hm]at Ar;have As:=run_make_row' (P:=prog) 59 5 (.int .u8 0) 1 underlying59 Tryz.infoByte rfl .i64 .i64 m (by omega) (by omega);have Ad:(prog.info? 5).map (·.size)=some 1:=by
  obtain⟨i1,Am,Aa⟩:=c9J.1 Tryz.infoByte;simp only[Prod.mk.injEq]at Aa;rw[Am];simp[Aa.2.1]
 have Ab:(cellsOf r L).length=Nat.min L m:=by
  rw[show Nat.min L m=L from Nat.min_eq_left A2];simp[cellsOf]
 have A7:=jR r L;have A8:0<(cellsOf r L).length→ ∃ad,A=some ad∧ ∀j v,(cellsOf r L)[j]?=some v→(w.alloc (.cells (madeCells #[.int .u8 0] m) 5)).cell? (ad.add j)=some v:=fun h0=>by
  have Ai:0<L:=by simpa [cellsOf]using h0
  obtain⟨b,o,Ay,hv,_,_,hc⟩:=h.some Ai;cases hv
  refine⟨_,rfl,fun j v hj=>?_⟩;rcases Nat.lt_or_ge j L with h|h
  ·simp[cellsOf,h]at hj;rw[WideShapes.add_plain,((Below.refl w.heap.size w).alloc (c9C _) _).cell (p:=⟨b,o+j,none⟩) (World.block_lt_of_cell? _ _ (hc j h)),hc j h,←hj]
  ·simp[List.getElem?_eq_none (show(cellsOf r L).length≤j by simpa [cellsOf]using h)]at hj
 have A9:(w.alloc (.cells (madeCells #[.int .u8 0] m) 5)).heap[w.heap.size]?=some (.cells (madeCells #[.int .u8 0] m).toList.toArray 5 (0,0)):=by
  rw[Array.toArray_toList];exact Deep.blk_alloc_new _ _
 have A1:0+(cellsOf r L).length≤(madeCells #[Value.int .u8 0] m).toList.length:=by
  have h6:(madeCells #[Value.int .u8 0] m).toList.length=m:=by simp[madeCells]
  have h7:(cellsOf r L).length=L:=by simp[cellsOf]
  omega
 have A6:=(Below.refl w.heap.size w).alloc (c9C _) (.cells (madeCells #[.int .u8 0] m) 5);have HR:=hd8 A2;obtain⟨i0,Al,hh⟩:=c9J.1 Tryz.infoRow;simp only[Prod.mk.injEq]at hh;obtain⟨Av,Aw,Ax⟩:=hh;clear Ac h hm A2;go_enter func110,ntmps110
 go_upto_region 3 with fail
 clear A3 Au A4 Ao;go_wp2_with (refine wpList_copy_splice rfl (.tmp 21) (.tmp 22) 59 59 rfl 5 underlying59 Ad _ _ _ _ _ _ rfl rfl w.heap.size 0 _ _ A9 _ Ab (fun h0=>⟨rfl,A8 h0⟩) A1 A7 w.heap.size w A6 (c9C _) ?_;intro u3 HG b3);have R3:=c3X HR.out HG.out;clear HG A9 A1 A8 As Ad Ab A7 A6;go_loopw [7,25] (fun y x wr=> ∃(i:Nat) (U:Nat→Value),i≤d∧x=iV i∧Pcs wr w.heap.size y i U (fun _=>n) (Seg.eT r L n)∧aZ wr w.heap.size 5 m (fun j=> .int .u8 (spr r L j:Nat))∧Bl w wr) (fun _ x _=>d-(intOf x).toNat)
 case atStart=>exact⟨0,fun _=>nS,c9D _,rfl,Pcs.start _ _ _ _ _,R3,b3⟩
 case round=>
  obtain⟨i,U,hi,rfl,hP,hR,hb⟩:=hrel;by_cases Ap:i<d
  ·have Aq:(i:Int)<(d:Int):=by omega
   have An:=Af.out i Ap;obtain⟨p,hp⟩: ∃p,i*n=p:=⟨_,rfl⟩;rw[hp]at An;have q1:(i:Int)*(n:Int)=(p:Int):=by rw[←hp,Int.natCast_mul]
   have q2:((i:Int)+1)*(n:Int)=(p:Int)+(n:Int):=by rw[Int.add_mul,q1,Int.one_mul]
   have A5:Pce wr w.heap.size (.slice (some (aD w.heap.size p)) n (m-p)) n (Seg.eT r L n i):=by
    refine⟨⟨fun k=>?_,_,_,rfl,by omega,by unfold maxLen;omega,fun k hk=>⟨w.heap.size,p,rfl,?_⟩⟩,Or.inr ⟨_,p,_,_,_,rfl,c9C _,hR⟩⟩
    ·by_cases e:k<n
     ·rw[a6R e];exact Ae.out _
     ·show Seg.eT r L n i k<256;unfold Seg.eT;rw[if_neg (fun q=>e q.1)];decide
    ·rw[hR.cell (by omega),a6R hk,hp]
   have A0:=(Below.refl wr.heap.size wr).alloc (c9C _) (.cells #[.slice (some (aD w.heap.size p)) n (m-p)] 59);have hP:=hP.bE A0;have A5:=A5.bE A0;have hR:=hR.bE A0;have bX:=bt hb A0;have Ag:=hP.own.lt;have Ah:=hP.own;clear A0;go_wp2_with (at_builtin;go_loud (refine wpList_append_own _ rfl (.tmp 28) (.tmp 38) 86 rfl w.heap.size 59 i0 nS 1 24 underlying86 Al Av Aw Ax rfl (by decide) _ _ _ rfl Ah (aD wr.heap.size 0) 1 1 [.slice (some (aD w.heap.size p)) n (m-p)] rfl rfl dD (by intro u hu;simp at hu;subst hu;rfl) (by unfold maxLen;omega) (by omega) bX.size ?_;intro v7 w7 hown1 hgrow1 _));have b7:=bX.grown hgrow1 bX.size (fun x hx=>(Ag x hx).1);have Aj:=hP.step A5 hown1 hgrow1
   have Ak:aZ w7 w.heap.size 5 m (fun j=> .int .u8 (spr r L j:Nat)):=hR.of_block (hgrow1.block _ hR.lt (fun e=>by
    obtain⟨F2,h2⟩:=fL hP.own e.symm
    exact hR.ne h2 (by decide) rfl))
   exact⟨⟨i+1,_,by omega,by go_num,Aj,Ak,b7⟩,by simp[intOf];omega⟩
  ·obtain rfl:i=d:=by omega
   go_wp2_with fail;go_ret
   exact⟨_,_,rfl,hP,hb⟩
theorem qZ(h:w.ownsRow N t 1 v n xs)(hM:M≤N):w.ownsRow M t 1 v n xs:=
 ⟨h.1,h.2.imp id (fun⟨g,cap,cur,e,hg,r⟩=>⟨g,cap,cur,e,c9E hM hg,r⟩)⟩
theorem Pcs.congr{f':Nat→Nat→Nat}(h:Pcs w N v k U L f)(e: ∀i,i<k→f i=f' i):Pcs w N v k U L f':=
 ⟨h.own,fun i hi=>by rw[←e i hi];exact h.row i hi⟩
theorem b1M(v:Value)(m n:Nat)(F:Nat→Nat→Nat)(seg L:Nat)(w:World)(h:Lls w v m (fun _=>n) F)(hm:m≤12)(hW: ∀j,j<m→Crc.aA seg j L n=0):
  Calls prog 112 #[v,iV seg,iV L] w fun e w'=> ∃v' U,e=.returned (.tuple #[v',iV 0])∧Pcs w' w.heap.size v' m U (fun _=>n+11) (fun j=>Crc.enc seg j L n (F j))∧Bl w w':=by
 obtain⟨A,C,rfl⟩:=h.sE;have bd:=h.bd;have HL:Hid (∀w',Bl w w'→ ∀r,r<m→ ∃b o R K,A=some (aD b o)∧w'.cell? (aD b (o+r))=some (.slice R n K)∧cA w' (.slice R n K) n (F r)):=fun w' hb r hr=>(h.bE hb).at hr;have HW:Hid (∀j,j<m→Crc.aA seg j L n=0):=hW;have HE:Hid (∀j:Nat,a3W (seg:Int) (j:Int) (L:Int) n (F j)=Crc.enc seg j L n (F j)):=fun j=>rfl;have A5:Hid (∀j,j<m→Bd (Crc.enc seg j L n (F j))):=fun j hj=>b2Z (s:=(seg:Int)) (h:=(j:Int)) (z:=(L:Int)) (bd j) (hW j hj);obtain⟨i0,A9,hh⟩:=c9J.1 Tryz.infoRow;simp only[Prod.mk.injEq]at hh;obtain⟨Ab,Ac,Ad⟩:=hh;clear h hW;go_enter func112,ntmps112
 go_wp2_with fail;go_loopw [8,15] (fun y x wr=> ∃(j:Nat) (U:Nat→Value),j≤m∧x=iV j∧Pcs wr w.heap.size y j U (fun _=>n+11) (fun j=>Crc.enc seg j L n (F j))∧Bl w wr) (fun _ x _=>m-(intOf x).toNat)
 case atStart=>exact⟨0,fun _=>nS,c9D _,rfl,Pcs.start _ _ _ _ _,Below.refl _ _⟩
 case round=>
  obtain⟨j,U,hj,rfl,hP,hb⟩:=hrel;by_cases A2:j<m
  ·have Aa:(j:Int)<(m:Int):=by omega
   obtain⟨b9,o9,R9,K9,rfl,t9,y9⟩:=HL.out wr hb j A2;have A1:=a0T (.agg #[iV seg,iV j,iV L,.slice R9 n K9]) seg j L n (F j) wr ⟨_,rfl,y9⟩;rw[HW.out j A2,HE.out j]at A1;clear y9;go_wp2_with fail;refine A1.mono ?_;rintro e w6 ⟨v6,rfl,O6,b6⟩;have A4:kX w6 wr.heap.size v6 (n+11) (Crc.enc seg j L n (F j)):=by
    rcases O6 with⟨_,q⟩|⟨q,_⟩
    ·exact q
    ·exact absurd rfl q
   have A3:=(A4.pce (A5.out j A2)).lower hb.size;obtain⟨g6,c6,rfl,_⟩:=A4;have A0:=(Below.refl w6.heap.size w6).alloc (c9C _) (.cells #[.slice (some (aD g6 0)) (n+11) c6] 59);have hP:=(hP.bE b6).bE A0;have A3:=A3.bE A0;have bX:=bt (bt hb b6) A0;have A6:=hP.own.lt;have A7:=hP.own;clear A1 O6 A0;go_wp2_with (at_builtin;go_loud (refine wpList_append_own _ rfl (.tmp 32) (.tmp 34) 86 rfl w.heap.size 59 i0 nS 1 24 underlying86 A9 Ab Ac Ad rfl (by decide) _ _ _ rfl A7 (aD w6.heap.size 0) 1 1 [.slice (some (aD g6 0)) (n+11) c6] rfl rfl dD (by intro u hu;simp at hu;subst hu;rfl) (by unfold maxLen;omega) (by omega) bX.size ?_;intro v7 w7 hown1 hgrow1 _));have b7:=bX.grown hgrow1 bX.size (fun x hx=>(A6 x hx).1);have A8:=hP.step A3 hown1 hgrow1;exact⟨⟨j+1,_,by omega,by go_num,A8,b7⟩,by simp[intOf];omega⟩
  ·obtain rfl:j=m:=by omega
   go_wp2_with fail;go_ret2
   exact⟨_,_,rfl,hP,hb⟩
theorem c3U(w:World)(N:Nat)(v:Value)(d s n:Nat)(U U':Nat→Value)(f f':Nat→Nat→Nat)(b cap:Nat)(hds:d+s≤1000)(hN:N≤w.heap.size)(hP:Pcs w N v d U (fun _=>n) f)(hc: ∀r,r<s→w.cell? (aD b (0+r))=some (U' r))(hQ: ∀r,r<s→Pce w N (U' r) n (f' r)):
  ∃v' w',(Builtin.append_ #[86,86] 86 #[v,.slice (some (aD b 0)) s cap]).run prog w=.ok v' w'∧Below N w w'∧Pcs w' N v' (d+s) (fun i=>if i<d then U i else U' (i-d)) (fun _=>n) (fun i=>if i<d then f i else f' (i-d)):=by
 obtain⟨i0,hi,hh⟩:=c9J.1 Tryz.infoRow;simp only[Prod.mk.injEq]at hh;obtain⟨A1,A2,A3⟩:=hh
 obtain⟨v',w',A0,ho,hg,_⟩:=run_append_own (P:=prog) w N 86 86 59 i0 nS 1 24 underlying86 hi A1 A2 A3 rfl (by decide) v d _ hP.own (aD b 0) s cap ((List.range s).map U') (by simp) (fun j u hj=>by
  rcases Nat.lt_or_ge j s with h|h
  ·simp[h]at hj;rw[WideShapes.add_plain,hc j h,←hj]
  ·simp[List.getElem?_eq_none (show((List.range s).map U').length≤j by simpa using h)]at hj) (fun u hu=>by
  obtain⟨r,hr,rfl⟩:=d0G.1 hu;obtain⟨_,A,C,e,_⟩:=(hQ r (d0D.1 hr)).byts;rw[e]
  rfl) (by unfold maxLen;omega) (by omega) hN
 refine⟨v',w',A0,(Below.refl N w).grown hg hN (fun x hx=>(hP.own.lt x hx).1),?_,fun i hi=>?_⟩
 ·have e:(List.range (d+s)).map (fun i=>if i<d then U i else U' (i-d))=(List.range d).map U++(List.range s).map U':=by
   rw[List.range_add,c9U,List.map_map];refine congr (congrArg _ ?_) ?_
   ·refine d1H (fun i hi=>?_);rw[if_pos (d0D.1 hi)]
   ·refine d1H (fun i _=>?_);show(if d+i<d then U (d+i)else U' (d+i-d))=_;rw[if_neg (by omega),d2G]
  rw[e];exact ho
 ·by_cases e:i<d
  ·simp only[if_pos e];exact(hP.row i e).kept (by decide) hP.own hg
  ·simp only[if_neg e];exact(hQ (i-d) (by omega)).kept (by decide) hP.own hg
theorem xX(N:Nat)(v:Value)(d s n:Nat)(U:Nat→Value)(D:Nat→Nat→Nat)(w:World)(hP:Pcs w N v d U (fun _=>n) D)(bd:Gf.Bd2 D)(h1:1≤d)(h2:d≤8)(h3:s≤4)(hn1:1≤n)(hn2:n≤400)(hN:N≤w.heap.size):
  Calls prog 111 #[v,iV s] w fun e w'=> ∃vm v9 w5,e=.returned (.tuple #[vm,iV 0])∧(Builtin.append_ #[86,86] 86 #[v,vm]).run prog w'=.ok v9 w5∧Lls w5 v9 (d+s) (fun _=>n) (Gf.mm d (Gf.bH d) D)∧Below N w w5:=by
 have hA:=(hP.lls bd).arg;have hx:aB d (fun _=>n)=0:=f9 h1 (by omega) hn1 hn2 (fun _ _=>rfl);have A1:=Gf.oN (Gf.eM d) d D;have hM:=hA.mx hx;by_cases hs:1≤s
 ·refine(a1L v d s n D w hM h2 hs h3).mono ?_;rintro e w' ⟨b,G,rfl,ho,hb⟩;have ho:=ho.lower hN;obtain⟨v9,w5,r9,b9,A9⟩:=c3U w' N v d s n U (fun r=> .slice (some ⟨G r,0,none⟩) n n) D (Gf.mm d (cQ d) D) b s (by omega) (c9E hN hb.size) (hP.bE hb) (fun r hr=>by rw[c9G];exact ho.top.cell hr) (fun r hr=>⟨lE (Gf.oN (iB d) d D r) (iL (ho.row r hr)) (c9C _) (by unfold maxLen;omega),Or.inr ⟨_,_,_,_,_,rfl,ho.low r hr,iL (ho.row r hr)⟩⟩);refine⟨_,v9,w5,rfl,r9,?_,(hb.mono hN).trans b9⟩;refine qD (A9.lls (fun i k=>?_)) A1 (fun i hi k _=>?_)
  ·show(if i<d then D i else Gf.mm d (cQ d) D (i-d)) k<256;by_cases e:i<d
   ·rw[if_pos e];exact bd i k
   ·rw[if_neg e];exact Gf.oN (iB d) d D (i-d) k
  ·show(if i<d then D i else Gf.mm d (cQ d) D (i-d)) k=_;by_cases e:i<d
   ·rw[if_pos e,mX bd e]
   ·rw[if_neg e];have e2:cQ d (i-d)=Gf.bH d i:=by
     show Gf.bH d (d+(i-d))=_;rw[show d+(i-d)=i by omega]
    show Gf.dot d (cQ d (i-d)) _=Gf.dot d (Gf.bH d i) _;rw[e2]
 ·obtain rfl:s=0:=by omega
  refine(xW v d (fun _=>n) D w hA h1 h2 hx).mono ?_;rintro e w' ⟨rfl,hb⟩;obtain⟨g,A2,rfl,_,A0,_⟩:=eD hP.own h1;refine⟨_,_,_,rfl,a4T w' 86 86 underlying86 underlying86 g 0 d A2 A0 86,?_,hb.mono hN⟩;exact qD ((hP.bE hb).lls bd) A1 (fun i hi k _=>(mX bd hi k).symm)
theorem c7T(v:Value)(L:Nat)(r:Nat→Nat)(seg d s:Nat)(w:World)(h:cA w v L r)(h1:1≤d)(h2:d≤8)(h3:s≤4)(h4:seg≤39)(h5:L≤400*d):
  Calls prog 79 #[v,iV seg,iV d,iV s] w fun e w'=> ∃v' U,e=.returned (.tuple #[v',iV 0])∧Pcs w' w.heap.size v' (d+s) U (fun _=>Seg.dF L d+11) (Seg.blk r L seg d)∧Bl w w':=by
 have HW:=fun w'=>dY (d:Int) (s:Int) w';rw[cO (by omega)]at HW;have hL:=h.len;have A0:Hid (∀w',Bl w w'→Calls prog 110 #[v,iV d] w' fun e w2=> ∃v' U,e=.returned v'∧Pcs w2 w'.heap.size v' d U (fun _=>Seg.dF L d) (Seg.eT r L (Seg.dF L d))∧Bl w' w2):=fun w' hb=>xM v L r d w' (h.bE hb) h1 h2 h5;have A4:=Seg.oH L d h1;have A5:=Seg.nF h1 h5;have A1:Hid (Gf.Bd2 (Seg.eT r L (Seg.dF L d))):=Seg.wR h.bd L _;have A3:Hid (∀j,j<d+s→Crc.aA seg j L (Seg.dF L d)=0):=fun j hj=>Crc.j8 (by omega) (by omega);have A2:Hid (∀j,j<d+s→Crc.enc seg j L (Seg.dF L d) (Gf.mm d (Gf.bH d) (Seg.eT r L (Seg.dF L d)) j)=Seg.blk r L seg d j):=fun j hj=>by
  rw[Seg.a5K (by omega)];rfl
 obtain⟨A,C,rfl⟩:=h.sE;have q1: ¬40≤(seg:Int):=by omega
 have q2: ¬400*(d:Int)<(L:Int):=by omega
 have q3: ¬(d:Int)*400<(L:Int):=by omega
 clear h h5;go_enter func79,ntmps79
 go_wp2_with fail;refine(HW _).mono ?_;rintro e w1 ⟨rfl,b1⟩;clear HW;go_wp2_with fail;refine(A0.out _ b1).mono ?_;rintro e w2 ⟨v2,U2,rfl,P2,b2⟩;have HJ:=xX w1.heap.size v2 d s _ U2 _ w2 P2 A1.out h1 h2 h3 A4 A5 b2.size;clear A0 P2;go_wp2_with fail;refine HJ.mono ?_;rintro e w3 ⟨vm,v9,w5,rfl,r9,L9,b5⟩;have HB:=b1M v9 (d+s) (Seg.dF L d) _ seg L w5 L9 (by omega) A3.out;have b5:=bt b1 (b2.trans b5);clear HJ L9;go_wp2_with (at_builtin;refine Lib.wpList_append_run _ rfl (.tmp 43) (.tmp 44) 86 86 rfl _ _ rfl rfl _ _ r9 ?_);refine HB.mono ?_;rintro e w6 ⟨v6,U6,rfl,P6,b6⟩;have P6:=P6.congr A2.out;have bz:=bt b5 b6;have P6:Pcs w6 w.heap.size v6 (d+s) U6 (fun _=>Seg.dF L d+11) (Seg.blk r L seg d):=⟨qZ P6.own b5.size,fun i hi=>(P6.row i hi).lower b5.size⟩;clear HB r9;go_wp2_with fail;go_ret2
 exact⟨_,_,rfl,P6,bz⟩
theorem c5V(v:Value)(L:Nat)(r:Nat→Nat)(seg d s:Int)(w:World)(h:cA w v L r):
  Calls prog 79 #[v,iV seg,iV d,iV s] w fun e w'=> ∃v',e=.returned (.tuple #[v',iV (Seg.gW L seg d s:Nat)])∧c8N w' (Seg.gW L seg d s) v' (d.toNat+s.toNat) (Seg.dF L d.toNat+11) (Seg.blk r L seg.toNat d.toNat)∧Bl w w':=by
 have hL:=h.len;have HW:=fun w'=>dY d s w';by_cases q1:d<1∨8<d∨s<0∨4<s
 ·have HE:Hid (Seg.gW L seg d s=5):=if_pos q1;rw[cE q1]at HW;clear q1;go_enter func79,ntmps79
  go_wp2_with fail;refine(HW _).mono ?_;rintro e w1 ⟨rfl,b1⟩;clear HW;go_wp2_with fail;go_ret2
  exact⟨_,by rw[HE.out];rfl,Or.inr ⟨by rw[HE.out];decide,rfl⟩,b1⟩
 rw[cO q1]at HW;by_cases q2:seg<0∨39<seg
 ·have HE:Hid (Seg.gW L seg d s=3):=by
   show Seg.gW L seg d s=3;unfold Seg.gW;rw[if_neg q1,if_pos q2]
  by_cases q3:seg<0
  ·clear q1 q2;go_enter func79,ntmps79
   go_wp2_with fail;refine(HW _).mono ?_;rintro e w1 ⟨rfl,b1⟩;clear HW;go_wp2_with fail;go_ret2
   exact⟨_,by rw[HE.out];rfl,Or.inr ⟨by rw[HE.out];decide,rfl⟩,b1⟩
  ·have q4:40≤seg:=by omega
   clear q1 q2;go_enter func79,ntmps79
   go_wp2_with fail;refine(HW _).mono ?_;rintro e w1 ⟨rfl,b1⟩;clear HW;go_wp2_with fail;go_ret2
   exact⟨_,by rw[HE.out];rfl,Or.inr ⟨by rw[HE.out];decide,rfl⟩,b1⟩
 by_cases q3:400*d<(L:Int)
 ·have HE:Hid (Seg.gW L seg d s=4):=by
   show Seg.gW L seg d s=4;unfold Seg.gW;rw[if_neg q1,if_neg q2,if_pos q3]
  obtain⟨A,C,rfl⟩:=h.sE;have p1: ¬seg<0:=by omega
  have p2: ¬40≤seg:=by omega
  have p5:d*400<(L:Int):=by omega
  have p3:1≤d:=by omega
  have p4:d≤8:=by omega
  clear q1 q2 h;go_enter func79,ntmps79
  go_wp2_with fail;refine(HW _).mono ?_;rintro e w1 ⟨rfl,b1⟩;clear HW;go_wp2_with fail;go_ret2
  exact⟨_,by rw[HE.out];rfl,Or.inr ⟨by rw[HE.out];decide,rfl⟩,b1⟩
 ·obtain⟨d',rfl⟩:=d0I (show 0≤d by omega);obtain⟨s',rfl⟩:=d0I (show 0≤s by omega);obtain⟨g',rfl⟩:=d0I (show 0≤seg by omega);have HE:Seg.gW L g' d' s'=0:=b4A (by omega) (by omega) (by omega) (by omega) (by omega);refine(c7T v L r g' d' s' w h (by omega) (by omega) (by omega) (by omega) (by omega)).mono ?_;rintro e w' ⟨v',U,rfl,hl,hb⟩;exact⟨v',by rw[HE];rfl,Or.inl ⟨HE,hl.lls (Seg.b0B (by omega) (by omega) (by omega) (by omega))⟩,hb⟩
open Go.ChangeShapes Go.WideShapes Go.ChangeAt Go.RowKit
theorem c2C{H:Type}{enc:TypeId×Value→H}{hd:Bool}{y:DataW H×List MemPlace}(h:DataW.trod enc prog W base sp hd fuel 9 [v]=some y): ∃s:ByteArray,v=.string s∧s.size≤maxLen:=by
 obtain⟨s,e,_,hs⟩:=DataW.trod_string underlying9 h;simp only[List.cons.injEq,and_true]at e;exact⟨s,e,hs⟩
theorem mW{H:Type}{enc:TypeId×Value→H}{hd:Bool}{y:DataW H×List MemPlace}(h:DataW.trod enc prog W base sp hd fuel 3 [v]=some y): ∃n,v=iV n:=by
 obtain⟨n,e,_,_⟩:=DataW.trod_int underlying3 h;simp only[List.cons.injEq,and_true]at e;exact⟨n,e⟩
theorem c8C{H:Type}{enc:TypeId×Value→H}{y:DataW H×List MemPlace}(hf:DataW.trod enc prog W 0 (fun _=>true) true fuel 40 [v]=some y): ∃es,Evs W v es:=by
 have ce:prog.cellsOf 83=3:=by kernel_rfl
 rcases Deep.open_slice underlying40 hf with⟨A1,_⟩|⟨a,A7,A9,m,n,D,Pl,A1,_,hl,hm,A6,_,hx⟩
 ·simp only[List.cons.injEq,and_true]at A1;subst A1;exact⟨[],none,0,rfl,c9C _,c9D _,fun i e he=>by cases he⟩
 ·simp only[List.cons.injEq,and_true]at A1;subst A1;simp only[if_true]at A6;subst A6;have A3: ∀i,i<m→ ∃q:ByteArray×Int×Int,q.1.size≤maxLen∧W.cell? (a.add (i*3))=some (.string q.1)∧W.cell? (a.add (i*3+1))=some (iV q.2.1)∧W.cell? (a.add (i*3+2))=some (iV q.2.2):=by
   intro i hi;obtain⟨A8,h1,h2⟩:=hx i hi;rw[ce]at h1;obtain⟨_,A4,A0⟩:=World.cells?_some h1;obtain⟨y0,y1,y2,k,_,_,g0,g1,g2⟩:=Deep.trod_struct3 underlying83 h2;match A8,A4 with
   |[v0,v1,v2],_=>
    have e0:=A0 0 (by omega);have e1:=A0 1 (by omega);have e2:=A0 2 (by omega);rw[Deep.add_add]at e0 e1 e2;have c3:prog.cellsOf 3=1:=by kernel_rfl
    have c9:prog.cellsOf 9=1:=by kernel_rfl
    simp[c3,c9]at g0 g1 g2;obtain⟨s,rfl,hs⟩:=c2C g0;obtain⟨k1,rfl⟩:=mW g1;obtain⟨k2,rfl⟩:=mW g2;exact⟨(s,k1,k2),hs,by simpa using e0,by simpa using e1,by simpa using e2⟩
  obtain⟨q,hq⟩:=Deep.choose_lt A3;refine⟨(List.range A7).map fun i=>⟨nb (q i).1,(q i).2.1,(q i).2.2⟩,some a,m,by simp,by simpa using hl,hm,fun i e he=>?_⟩;have hi:i<A7:=by
   have:=(c9H.1 he).1;simpa using this
  simp[hi]at he;subst he;obtain⟨b,o,A5⟩:=a;obtain⟨z0,z1,z2,z3⟩:=hq i (by omega);have A2:A5=none:=by simpa [Addr.add]using World.cell?_spot (hq 0 (by omega)).2.1
  subst A2;rw[WideShapes.add_plain]at z1 z2 z3;exact⟨b,o,rfl,(q i).1,z0,rfl,z1,z2,z3⟩
theorem jM(h:n<16777216):Evt.bP (Evt.dL n):=fun x hx=>by
 unfold Evt.dL at hx
 simp at hx
 omega
theorem a2E{a b:List Nat}(ha:Evt.bP a)(hb:Evt.bP b):Evt.bP (a++b):=fun x hx=>(d0U.1 hx).elim (ha x) (hb x)
theorem fA{a:Nat}{b:List Nat}(ha:a<256)(hb:Evt.bP b):Evt.bP (a::b):=fun x hx=>by
 rcases List.mem_cons.1 hx with rfl|h
 ·exact ha
 ·exact hb x h
theorem yV{α:Type}{f:α→List Nat}{l:List α}(h: ∀a,a∈l→Evt.bP (f a)):Evt.bP (l.flatMap f):=fun x hx=>by
 obtain⟨a,ha,hx⟩:=d2H.1 hx
 exact h a ha x hx
theorem rQ{e:Evt.Ev}(h:Evt.aB e=0):Evt.bP (Evt.iI e):=by
 obtain⟨⟨hl,h1,h2⟩,h3,h4,h5,h6⟩:=Evt.eN h;unfold Evt.iI;refine a2E (fA (by omega) ?_) (fA (by omega) (jM (by omega)));intro x hx;have:=(Evt.eO x).1 (List.all_eq_true.1 hl x hx);omega
theorem rK{b:Evt.Bat}(h:(Evt.aA b).1=0):Evt.bP (Evt.jS b):=by
 obtain⟨h1,h2,h3,h4,h5⟩:=Evt.bN h;unfold Evt.jS;exact a2E (jM (by omega)) (fA (by omega) (yV (fun e he=>rQ (h5 e he))))
theorem qU{l:List Evt.Bat}(h:(Evt.aF l).1=0):Evt.bP (Evt.iK l):=by
 obtain⟨h1,h2⟩:=Evt.kG h;unfold Evt.iK;exact fA (by omega) (yV (fun e he=>rK (h2 e he)))
theorem b0P(l:List Evt.Bat):Evt.bP (rE l):=by
 by_cases h:(Evt.aF l).1=0
 ·rw[wZ h];exact qU h
 ·rw[wV h];exact Evt.bP.nil
theorem a5W(v:Value)(l:List Evt.Bat)(w:World)(h:eS w v l):
  Calls prog 78 #[v] w fun e w'=> ∃A C,e=.returned (.tuple #[.slice A (rE l).length C,.agg #[iV ((Evt.aF l).1:Nat),iV ((Evt.aF l).2:Nat)]])∧cU w' (.slice A (rE l).length C) (rE l)∧Bl w w':=by
 refine(a9V v l w h).mono ?_;rintro e w' ⟨v',rfl,hb,hw⟩;have hy:=hb.bytL (b0P l);obtain⟨A,C,rfl⟩:=hy.byts.sE;exact⟨A,C,rfl,hy,hw⟩
end Go.Proofs.YtmcaejooaaahdaaGreat
