import Derived.Test.YtmcaejooaaahdaaGreatZ01
import Derived.WalkLawsBesides
import Derived.Laws.BitsAllLaws
import Derived.Laws.BytesArg
import Derived.FnLit
import Derived.Deep.RegionWith
import Derived.Deep.Slices
import Derived.Deep.AppendSrc
import Derived.BigRegion
import Derived.BigQuiet
import Derived.Deep.QuietTactic
import Derived.Lib.Bytes
import Derived.Lib.SmallJoins
import Derived.ProofKit
import Derived.OpenShut
import Derived.Carry
set_option maxHeartbeats 8000000
set_option maxRecDepth 100000
namespace Go.Proofs.YtmcaejooaaahdaaGreat
open Go.Proofs.Tryz
open Go.RowKit
theorem aH{k:IntKind}{a b:Int}(h:a=b):Ending.returned (.int k a)=.returned (.int k b):=by rw[h]
theorem cB{k:IntKind}{a b:Int}(h:a=b):Value.int k a=Value.int k b:=by rw[h]
theorem Tryz.infoByte:(Tryz.prog.info? 5).map (fun i=>(i.zero,i.size,i.bytes))=some (some (.int .u8 0),1,1):=by kernel_rfl
theorem Tryz.laidOut:laidOutB Tryz.prog=true:=by kernel_rfl
theorem bt{a b c:World}(h:Bl a b)(k:Bl b c):Bl a c:=h.trans (k.mono h.size)
def Bd(f:Nat→Nat):Prop:= ∀k,f k<256
structure Off(S:Nat→Prop)(w w':World):Prop where
 os:w'.os=w.os
 tape:w'.tape=w.tape
 output:w'.output=w.output
 size:w.heap.size≤w'.heap.size
 block: ∀k,k<w.heap.size→ ¬S k→w'.heap[k]?=w.heap[k]?
theorem Off.refl(S:Nat→Prop)(w:World):Off S w w:=⟨rfl,rfl,rfl,c9C _,fun _ _ _=>rfl⟩
theorem Off.trans{S:Nat→Prop}{a b c:World}(h:Off S a b)(k:Off S b c):Off S a c:=
 ⟨k.os.trans h.os,k.tape.trans h.tape,k.output.trans h.output,c9E h.size k.size,fun i hi hs=>(k.block i (c9P hi h.size) hs).trans (h.block i hi hs)⟩
theorem Off.oE{S:Nat→Prop}{a b:World}(h:Bl a b):Off S a b:=⟨h.os,h.tape,h.output,h.size,fun k hk _=>h.block k hk⟩
theorem Off.wider{S T:Nat→Prop}{a b:World}(h:Off S a b)(hs: ∀k,S k→T k):Off T a b:=⟨h.os,h.tape,h.output,h.size,fun k hk hn=>h.block k hk (fun s=>hn (hs k s))⟩
theorem Off.set{S:Nat→Prop}{a b:World}(h:Off S a b){p:Addr}(hp:S p.block)(v:Value):Off S a (b.setCell p v):=
 h.trans ⟨rfl,rfl,rfl,by rw[Deep.nblk_setCell];exact c9C _,fun k _ hk=>Deep.blk_setCell_other _ _ _ _ (fun e=>hk (e▸hp))⟩
theorem Off.drew{S:Nat→Prop}{a b:World}(h:Off S a b):Off S a b.drew:=⟨h.os,h.tape,h.output,h.size,h.block⟩
theorem Off.bE{S:Nat→Prop}{a b:World}{B:Nat}(h:Off S a b)(hB:B≤a.heap.size)(hs: ∀k,S k→B≤k):Below B a b:=
 ⟨h.os,h.tape,h.output,h.size,fun k hk=>h.block k (c9P hk hB) (fun s=>absurd (hs k s) (by omega))⟩
def aZ(w:World)(g:Nat)(t:TypeId)(n:Nat)(F:Nat→Value):Prop:= ∃m F',w.rowIs g t m F'∧n≤m∧ ∀j,j<n→F' j=F j
namespace aZ
open Go.Proofs.Tryz
variable {w : World} {g : Nat} {t : TypeId} {n : Nat} {F : Nat → Value}
theorem cell(h:aZ w g t n F){j:Nat}(hj:j<n):w.cell? (aD g j)=some (F j):=by
 obtain⟨m,F',hr,hm,he⟩:=h;rw[hr.cell (c9P hj hm),he j hj]
theorem frozen(h:aZ w g t n F)(j:Nat):w.frozen? (aD g j)=false:=by
 obtain⟨m,F',hr,_,_⟩:=h;exact hr.frozen j
theorem lt(h:aZ w g t n F):g<w.heap.size:=by
 obtain⟨m,F',hr,_,_⟩:=h;exact hr.lt
theorem congr{F2:Nat→Value}(h:aZ w g t n F)(e: ∀j,j<n→F j=F2 j):aZ w g t n F2:=by
 obtain⟨m,F',hr,hm,he⟩:=h;exact⟨m,F',hr,hm,fun j hj=>(he j hj).trans (e j hj)⟩
theorem of_block{w':World}(h:aZ w g t n F)(e:w'.heap[g]?=w.heap[g]?):aZ w' g t n F:=by
 obtain⟨m,F',hr,hm,he⟩:=h;exact⟨m,F',hr.of_block e,hm,he⟩
theorem set(h:aZ w g t n F)(i:Nat)(v:Value):aZ (w.setCell (aD g i) v) g t n (fun j=>if j=i then v else F j):=by
 obtain⟨m,F',hr,hm,he⟩:=h;refine⟨m,_,hr.set i v,hm,fun j hj=>?_⟩;show(if j=i then v else F' j)=(if j=i then v else F j);by_cases e:j=i
 ·rw[if_pos e,if_pos e]
 ·rw[if_neg e,if_neg e,he j hj]
theorem setOther(h:aZ w g t n F){a:Addr}(ha:g≠a.block)(v:Value):aZ (w.setCell a v) g t n F:=h.of_block (Deep.blk_setCell_other _ _ _ _ ha)
theorem alloc(h:aZ w g t n F)(o:Obj):aZ (w.alloc o) g t n F:=h.of_block (Deep.blk_alloc_lt _ _ _ h.lt)
theorem bE{w':World}(h:aZ w g t n F)(hb:Bl w w'):aZ w' g t n F:=h.of_block (hb.block g h.lt)
theorem ne{g':Nat}{t':TypeId}{n':Nat}{F2:Nat→Value}(h:aZ w g t n F)(h':aZ w g' t' n' F2)(ht:t≠t'):g≠g':=fun e=>by
 obtain⟨_,_,⟨c,h1,_,_⟩,_,_⟩:=h
 obtain⟨_,_,⟨c',h2,_,_⟩,_,_⟩:=h'
 rw[e,h2]at h1
 cases h1
 exact ht rfl
end aZ
theorem iL{w:World}{g:Nat}{t:TypeId}{n:Nat}{F:Nat→Value}(h:w.rowIs g t n F):aZ w g t n F:=⟨n,F,h,c9C _,fun _ _=>rfl⟩
theorem eD{w:World}{N:Nat}{t:TypeId}{v:Value}{n:Nat}{xs:List Value}(h:w.ownsRow N t 1 v n xs)(hn:1≤n):
  ∃g cap,v=.slice (some (aD g 0)) n cap∧N≤g∧n≤cap∧aZ w g t n (fun j=>xs.getD j nS):=by
 obtain⟨hl,h⟩:=h;rcases h with⟨_,h0⟩|⟨g,cap,A0,hv,hN,hg,hc,_,hs,ht⟩
 ·omega
 ·refine⟨g,cap,hv,hN,hc,A0.size,fun j=>A0.getD j nS,⟨A0,hg,rfl,fun i hi=>by simp[hi]⟩,by omega,fun j hj=>?_⟩;have A1:j<A0.size:=by omega
  have:xs[j]?=A0[j]?:=by
   rw[←ht,d0C,if_pos (by omega)];simp
  simp[List.getD,this,A1]
theorem zU{w w':World}(h:Bl w w')(row:Option Nat):w.grownBy w' row:=⟨h.os,h.tape,h.output,h.size,fun k hk _=>h.block k hk⟩
theorem aK{w w':World}{N:Nat}{t:TypeId}{s:Nat}{v:Value}{n:Nat}{xs:List Value}(h:w.ownsRow N t s v n xs)(hb:Bl w w'):w'.ownsRow N t s v n xs:=
 h.kept (zU hb none) (by cases hv:v.ownBlock<;>simp)
theorem fL{w:World}{N:Nat}{t:TypeId}{v:Value}{n x:Nat}{xs:List Value}(h:w.ownsRow N t 1 v n xs)(hx:v.ownBlock=some x): ∃F,aZ w x t 0 F:=by
 rcases h.2 with⟨rfl,_⟩|⟨g,A1,A0,rfl,_,hg,_⟩
 ·simp[Value.ownBlock]at hx
 ·simp[Value.ownBlock]at hx;subst hx;exact⟨fun j=>A0.getD j nS,A0.size,fun j=>A0.getD j nS,⟨A0,hg,rfl,fun i hi=>by simp[hi]⟩,c9D _,fun j hj=>absurd hj (c9L j)⟩
theorem xQ(f:Nat→Nat)(c i:Nat)(h:i<c):((List.range c).map fun k=>(f k:Int)).getD i 0=(f i:Int):=by
 simp[List.getD,h]
def rM(e:Ending)(P:Prop):Prop:= ∃y:Bool,e=.returned (.bool y)∧(y=true↔P)
theorem c5Q{y:Bool}{P:Prop}(h:y=true↔P):rM (.returned (.bool y)) P:=⟨y,rfl,h⟩
theorem gP{P:Prop}(h:P):rM (.returned (.bool true)) P:=⟨true,rfl,⟨fun _=>h,fun _=>rfl⟩⟩
theorem cZ{P:Prop}(h: ¬P):rM (.returned (.bool false)) P:=⟨false,rfl,⟨fun h=>absurd h (by decide),fun h'=>absurd h' h⟩⟩
theorem a8R(c:Nat)(f:Nat→Nat):(strOfNums ((List.range c).map fun k=>(f k:Int))).toList=(List.range c).map fun k=>UInt8.ofNat (f k):=by
 rw[Lib.strOfNums_toList];unfold Lib.bytesOf;rw[List.map_map];rfl
structure cA(w:World)(v:Value)(n:Nat)(f:Nat→Nat):Prop where
 bd:Bd f
 lies: ∃(A:Option Addr) (cap:Nat),v=.slice A n cap∧n≤cap∧cap≤maxLen∧ ∀i,i<n→ ∃b o,A=some (aD b o)∧w.cell? (aD b (o+i))=some (.int .u8 (f i:Nat))
theorem cA.bE{w w':World}{v:Value}{n:Nat}{f:Nat→Nat}(h:cA w v n f)(hb:Bl w w'):cA w' v n f:=by
 obtain⟨bd,A,A0,hv,h1,h2,hc⟩:=h;refine⟨bd,A,A0,hv,h1,h2,fun i hi=>?_⟩;obtain⟨b,o,e1,e2⟩:=hc i hi;exact⟨b,o,e1,cB8 hb e2⟩
theorem cA.len{w:World}{v:Value}{n:Nat}{f:Nat→Nat}(h:cA w v n f):n≤9223372036854775807:=by
 obtain⟨_,A,A0,_,h1,h2,_⟩:=h;unfold maxLen at h2;omega
theorem cA.some{w:World}{v:Value}{n:Nat}{f:Nat→Nat}(h:cA w v n f)(hn:1≤n):
  ∃b o cap,v=.slice (some (aD b o)) n cap∧n≤cap∧cap≤9223372036854775807∧ ∀i,i<n→w.cell? (aD b (o+i))=some (.int .u8 (f i:Nat)):=by
 obtain⟨_,A,cap,hv,h1,h2,hc⟩:=h;obtain⟨b,o,rfl,_⟩:=hc 0 hn;refine⟨b,o,cap,hv,h1,by unfold maxLen at h2;exact h2,fun i hi=>?_⟩;obtain⟨b',o',e1,e2⟩:=hc i hi;cases e1
 exact e2
theorem cA.zero{w:World}{v:Value}{f:Nat→Nat}(h:cA w v 0 f): ∃A cap,v=.slice A 0 cap:=by
 obtain⟨_,A,cap,hv,_⟩:=h;exact⟨A,cap,hv⟩
theorem lE{w:World}{g n cap:Nat}{f:Nat→Nat}(hf:Bd f)(h:aZ w g 5 n (fun j=> .int .u8 (f j:Nat)))(h1:n≤cap)(h2:cap≤maxLen):cA w (.slice (some (aD g 0)) n cap) n f:=
 ⟨hf,some (aD g 0),cap,rfl,h1,h2,fun i hi=>⟨g,0,rfl,by rw[c9G];exact h.cell hi⟩⟩
theorem c2F(A B:Nat)(h2:A<9223372036854775808)(h4:B<9223372036854775808):bits .or .i64 (A:Int) (B:Int)=((A|||B:Nat):Int):=by
 have hx:A|||B<2^63:=Nat.or_lt_two_pow (by omega) (by omega)
 show IntKind.i64.wrap ((BitVec.ofInt 64 (A:Int)|||BitVec.ofInt 64 (B:Int)).toNat:Int)=_;rw[BitVec.toNat_or,ofInt_u64 A (by omega),ofInt_u64 B (by omega),IntKind.wrap_i64];omega
theorem bdn{B:Nat}{a w:World}(h:Below B a w)(m:Nat):Below B a (w.drewN m):=⟨h.os,h.tape,h.output,h.size,h.block⟩
end Go.Proofs.YtmcaejooaaahdaaGreat
