import Derived.Test.YtmcaejooaaahdaaGreatRows
import Derived.WalkKit
import Derived.WalkSpells
import Derived.Shelf.Abstract
import Derived.Deep.OwnRows
import Derived.WalkLawsBesides
import Derived.Laws.BitsAllLaws
import Derived.Laws.BytesArg
import Derived.FnLit
import Derived.Deep.RegionWith
import Derived.Deep.Slices
import Derived.Deep.AppendSrc
import Derived.BigRegion
import Derived.BigQuiet
import Derived.Deep.QuietTactic
import Derived.Lib.Bytes
import Derived.Lib.SmallJoins
import Derived.ProofKit
import Derived.OpenShut
import Derived.Carry
set_option maxHeartbeats 8000000
set_option maxRecDepth 100000
namespace Go.Proofs.YtmcaejooaaahdaaGreat
open Go.Proofs.Tryz
variable {C a b i j k p x:Nat} {r:List Nat} {u:Int} {w w':World}
open Go.RowKit
abbrev iV(x:Int):Value:=.int .i64 x
abbrev c9C:=@Nat.le_refl
abbrev c9D:=@Nat.zero_le
abbrev c9E:=@Nat.le_trans
abbrev c9F:=@List.getElem?_eq_getElem
abbrev c9G:=@Nat.zero_add
abbrev c9H:=@List.getElem?_eq_some_iff
abbrev c9I:=@List.length_append
abbrev c9J:=@Option.map_eq_some_iff
abbrev c9K:=@List.length_take
abbrev c9L:=@Nat.not_lt_zero
abbrev c9M:=@List.length_map
abbrev c9N:=@List.mem_of_getElem?
abbrev c9O:=@Nat.le_succ
abbrev c9P:=@Nat.lt_of_lt_of_le
abbrev c9Q:=@Int.toNat_natCast
abbrev c9R:=@List.getD_eq_getElem?_getD
abbrev c9S:=@List.getElem?_map
abbrev c9T:=@List.mem_cons
abbrev c9U:=@List.map_append
abbrev c9V:=@Nat.xor_self
abbrev c9W:=@List.mem_cons_self
abbrev c9X:=@List.append_assoc
abbrev c9Y:=@List.mem_cons_of_mem
abbrev c9Z:=@List.getElem?_eq_none
abbrev d0A:=@List.length_drop
abbrev d0B:=@List.length_set
abbrev d0C:=@List.getElem?_take
abbrev d0D:=@List.mem_range
abbrev d0E:=@List.length_cons
abbrev d0F:=@Nat.succ_mul
abbrev d0G:=@List.mem_map
abbrev d0H:=@List.flatMap_append
abbrev d0I:=@Int.eq_ofNat_of_zero_le
abbrev d0J:=@List.getElem?_drop
abbrev d0K:=@List.flatMap_cons
abbrev d0L:=@List.take_length
abbrev d0M:=@List.getElem?_append_left
abbrev d0N:=@List.eq_nil_of_length_eq_zero
abbrev d0O:=@List.getElem?_set_self
abbrev d0P:=@List.getElem?_set_ne
abbrev d0Q:=@List.size_toArray
abbrev d0R:=@Nat.xor_zero
abbrev d0S:=@List.getElem?_append_right
abbrev d0T:=@List.drop_length
abbrev d0U:=@List.mem_append
abbrev d0V:=@Nat.lt_irrefl
abbrev d0W:=@List.append_nil
abbrev d0X:=@Nat.add_zero
abbrev d0Y:=@Nat.mul_le_mul
abbrev d0Z:=@List.mem_filter
abbrev d1A:=@List.pairwise_cons
abbrev d1B:=@Array.length_toList
abbrev d1C:=@List.nil_append
abbrev d1D:=@Nat.xor_assoc
abbrev d1E:=@List.length_range
abbrev d1F:=@Nat.lt_succ_self
abbrev d1G:=@List.range_succ
abbrev d1H:=@List.map_congr_left
abbrev d1I:=@List.ext_getElem?
abbrev d1J:=@Nat.mul_le_mul_right
abbrev d1K:=@List.mem_iff_getElem?
abbrev d1L:=@Nat.sub_self
abbrev d1M:=@Array.getElem?_eq_some_iff
abbrev d1N:=@List.filter_cons_of_neg
abbrev d1O:=@List.filter_append
abbrev d1P:=@List.mem_iff_getElem
abbrev d1Q:=@Int.le_refl
abbrev d1R:=@List.map_cons
abbrev d1S:=@List.mem_of_mem_drop
abbrev d1T:=@Nat.min_def
abbrev d1U:=@Nat.mul_zero
abbrev d1V:=@Nat.lt_or_ge
abbrev d1W:=@List.filter_cons_of_pos
abbrev d1X:=@Nat.mul_one
abbrev d1Y:=@List.take_add_one
abbrev d1Z:=@List.mem_singleton
abbrev d2A:=@Nat.xor_lt_two_pow
abbrev d2B:=@Nat.le_of_lt
abbrev d2C:=@ByteArray.toList_eq
abbrev d2D:=@List.not_mem_nil
abbrev d2E:=@List.drop_zero
abbrev d2F:=@List.take_zero
abbrev d2G:=@Nat.add_sub_cancel_left
abbrev d2H:=@List.mem_flatMap
abbrev d2I:=@List.take_left'
abbrev d2J:=@Decidable.not_not
abbrev d2K:=@Array.size_push
abbrev d2L:=@List.drop_eq_getElem_cons
abbrev d2M:=@Array.toList_append
abbrev d2N:=@Nat.add_sub_cancel
abbrev d2O:=@List.length_nil
abbrev d2P:=@List.length_filter_le
abbrev d2Q:=@List.take_append_drop
abbrev d2R:=@Array.size_append
abbrev d2S:=@List.filter_eq_self
abbrev d2T:=@List.mem_of_mem_take
abbrev d2U:=@Nat.pow_le_pow_right
abbrev d2V:=@List.mem_or_eq_of_mem_set
abbrev d2W:=@List.drop_succ_cons
abbrev d2X:=@List.eq_of_mem_replicate
abbrev d2Y:=@List.pairwise_iff_getElem
abbrev d2Z:=@Array.getElem?_eq_getElem
abbrev nS:Value:=.slice none 0 0
abbrev aD(b o:Nat):Addr:=⟨b,o,none⟩
abbrev Bl(a b:World):Prop:=Below a.heap.size a b
theorem aB8(w:World)(o:Obj):Below w.heap.size w (w.alloc o):=(Below.refl _ _).alloc (c9C _) _
theorem cB8{p:Addr}{u:Value}(h:Below w.heap.size w w')(c:w.cell? p=some u):w'.cell? p=some u:=(h.cell (p:=p) (World.block_lt_of_cell? _ _ c)).trans c
theorem hd8{p:Prop}(h:p):Hid p:=h
theorem mL8(h:C≤maxLen):C≤9223372036854775807:=h
end Go.Proofs.YtmcaejooaaahdaaGreat
namespace Go.Proofs.YtmcaejooaaahdaaGreat.Evt
open Go.Proofs.Tryz
variable {C a b i j k p x:Nat} {r:List Nat} {u:Int} {w w':World}
structure Ev where
 name:List Nat
 kind:Int
 num:Int
structure Bat where
 cmd:Int
 evs:List Ev
def eS(c:Nat):Bool:=decide ((97≤c∧c≤122)∨(48≤c∧c≤57))
theorem eO(c:Nat):eS c=true↔(97≤c∧c≤122)∨(48≤c∧c≤57):=decide_eq_true_iff
abbrev dC(s:List Nat):Prop:=s.all eS=true∧1≤s.length∧s.length≤10
def aB(e:Ev):Nat:=if¬dC e.name then 7 else if e.kind<1∨4<e.kind then 1 else if e.num<0∨1000000<e.num∨(0<e.num∧e.kind≠2∧e.kind≠3)then 3 else 0
theorem oZ{e:Ev}(h: ¬dC e.name):aB e=7:=if_pos h
theorem kY{e:Ev}(h:dC e.name)(h2:e.kind<1∨4<e.kind):aB e=1:=by unfold aB;rw[if_neg (fun k=>k h),if_pos h2]
theorem fZ{e:Ev}(h:dC e.name)(h2: ¬(e.kind<1∨4<e.kind))(h3:e.num<0∨1000000<e.num∨(0<e.num∧e.kind≠2∧e.kind≠3)):aB e=3:=by unfold aB;rw[if_neg (fun k=>k h),if_neg h2,if_pos h3]
theorem gB{e:Ev}(h:dC e.name)(h2: ¬(e.kind<1∨4<e.kind))(h3: ¬(e.num<0∨1000000<e.num∨(0<e.num∧e.kind≠2∧e.kind≠3))):aB e=0:=by unfold aB;rw[if_neg (fun k=>k h),if_neg h2,if_neg h3]
theorem eN{e:Ev}(h:aB e=0):dC e.name∧1≤e.kind∧e.kind≤4∧0≤e.num∧e.num≤1000000:=by
 by_cases h1:dC e.name
 ·by_cases h2:e.kind<1∨4<e.kind
  ·rw[kY h1 h2]at h;cases h
  ·by_cases h3:e.num<0∨1000000<e.num∨(0<e.num∧e.kind≠2∧e.kind≠3)
   ·rw[fZ h1 h2 h3]at h;cases h
   ·exact⟨h1,by omega,by omega,by omega,by omega⟩
 ·rw[oZ h1]at h;cases h
def gT:List Ev→Nat→Nat×Nat
 |[],_=>(0,0)
 |e::r,i=>if aB e=0 then gT r (i+1)else(aB e,i)
theorem uF: ∀(l:List Ev) (i k:Nat),(∀j,j<k→ ∃e,l[j]?=some e∧aB e=0)→gT l i=gT (l.drop k) (i+k)
 |l,i,0,_=>rfl
 |[],i,k+1,h=>by
  obtain⟨e,he,_⟩:=h 0 (Nat.succ_pos k)
  cases he
 |x::l,i,k+1,h=>by
  obtain⟨e,he,hw⟩:=h 0 (Nat.succ_pos k)
  cases he
  show(if aB x=0 then gT l (i+1)else _)=gT (l.drop k) (i+(k+1))
  rw[if_pos hw,show i+(k+1)=i+1+k by omega]
  exact uF l (i+1) k (fun j hj=>by simpa using h (j+1) (by omega))
theorem wG(l:List Ev)(i:Nat)(h: ∀e,e∈l→aB e=0):gT l i=(0,0):=by
 rw[uF l i l.length (fun j hj=>⟨l[j],c9F hj,h _ (List.getElem_mem hj)⟩),d0T];rfl
theorem vV(l:List Ev)(k:Nat)(e:Ev)(he:l[k]?=some e)(hw:aB e≠0)(h: ∀j,j<k→ ∃e,l[j]?=some e∧aB e=0):gT l 0=(aB e,k):=by
 rw[uF l 0 k h,c9G];obtain⟨hk,rfl⟩:=c9H.1 he;rw[d2L hk];exact if_neg hw
theorem a1T: ∀{l:List Ev} {i:Nat},(gT l i).1=0→ ∀e,e∈l→aB e=0
 |[],_,_,e,he=>by cases he
 |x::l,i,h,e,he=>by
  have h:(if aB x=0 then gT l (i+1)else(aB x,i)).1=0:=h
  by_cases hx:aB x=0
  ·rw[if_pos hx]at h
   rcases List.mem_cons.1 he with rfl|he
   ·exact hx
   ·exact a1T h e he
  ·rw[if_neg hx]at h
   exact absurd h hx
def aA(b:Bat):Nat×Nat:=if b.cmd<1∨1000000<b.cmd then(3,0)else if b.evs.length=0∨10<b.evs.length then(5,0)else gT b.evs 0
theorem bG{b:Bat}(h:b.cmd<1∨1000000<b.cmd):aA b=(3,0):=if_pos h
theorem eB{b:Bat}(h: ¬(b.cmd<1∨1000000<b.cmd))(h2:b.evs.length=0∨10<b.evs.length):aA b=(5,0):=by unfold aA;rw[if_neg h,if_pos h2]
theorem pC{b:Bat}(h: ¬(b.cmd<1∨1000000<b.cmd))(h2: ¬(b.evs.length=0∨10<b.evs.length)):aA b=gT b.evs 0:=by unfold aA;rw[if_neg h,if_neg h2]
theorem bN{b:Bat}(h:(aA b).1=0):1≤b.cmd∧b.cmd≤1000000∧1≤b.evs.length∧b.evs.length≤10∧ ∀e,e∈b.evs→aB e=0:=by
 by_cases h1:b.cmd<1∨1000000<b.cmd
 ·rw[bG h1]at h;cases h
 ·by_cases h2:b.evs.length=0∨10<b.evs.length
  ·rw[eB h1 h2]at h;cases h
  ·rw[pC h1 h2]at h;exact⟨by omega,by omega,by omega,by omega,a1T h⟩
def gR:List Bat→Nat→Nat×Nat
 |[],_=>(0,0)
 |b::r,i=>if (aA b).1=0 then gR r (i+1)else((aA b).1,i)
theorem uR: ∀(l:List Bat) (i k:Nat),(∀j,j<k→ ∃e,l[j]?=some e∧(aA e).1=0)→gR l i=gR (l.drop k) (i+k)
 |l,i,0,_=>rfl
 |[],i,k+1,h=>by
  obtain⟨e,he,_⟩:=h 0 (Nat.succ_pos k)
  cases he
 |x::l,i,k+1,h=>by
  obtain⟨e,he,hw⟩:=h 0 (Nat.succ_pos k)
  cases he
  show(if (aA x).1=0 then gR l (i+1)else _)=gR (l.drop k) (i+(k+1))
  rw[if_pos hw,show i+(k+1)=i+1+k by omega]
  exact uR l (i+1) k (fun j hj=>by simpa using h (j+1) (by omega))
theorem lG(l:List Bat)(i:Nat)(h: ∀e,e∈l→(aA e).1=0):gR l i=(0,0):=by
 rw[uR l i l.length (fun j hj=>⟨l[j],c9F hj,h _ (List.getElem_mem hj)⟩),d0T];rfl
theorem o8(l:List Bat)(k:Nat)(e:Bat)(he:l[k]?=some e)(hw:(aA e).1≠0)(h: ∀j,j<k→ ∃e,l[j]?=some e∧(aA e).1=0):gR l 0=((aA e).1,k):=by
 rw[uR l 0 k h,c9G];obtain⟨hk,rfl⟩:=c9H.1 he;rw[d2L hk];exact if_neg hw
theorem a1W: ∀{l:List Bat} {i:Nat},(gR l i).1=0→ ∀e,e∈l→(aA e).1=0
 |[],_,_,e,he=>by cases he
 |x::l,i,h,e,he=>by
  have h:(if (aA x).1=0 then gR l (i+1)else((aA x).1,i)).1=0:=h
  by_cases hx:(aA x).1=0
  ·rw[if_pos hx]at h
   rcases List.mem_cons.1 he with rfl|he
   ·exact hx
   ·exact a1W h e he
  ·rw[if_neg hx]at h
   exact absurd h hx
def aF(l:List Bat):Nat×Nat:=if 150<l.length then(5,0)else gR l 0
theorem kR{l:List Bat}(h:(aF l).1=0):l.length≤150∧ ∀b,b∈l→(aA b).1=0:=by
 unfold aF at h;split at h
 ·cases h
 ·exact⟨by omega,a1W h⟩
def dK(n:Nat):List Nat:=[n/65536,n/256%256,n%256]
def iM(e:Ev):List Nat:=e.name.length::e.name++(e.kind.toNat::dK e.num.toNat)
def jS(b:Bat):List Nat:=dK b.cmd.toNat++(b.evs.length::b.evs.flatMap iM)
def iK(l:List Bat):List Nat:=l.length::l.flatMap jS
def num:Nat→Nat→List Nat→Option (Nat×List Nat)
 |0,acc,r=>some (acc,r)
 |_+1,_,[]=>none
 |k+1,acc,x::r=>num k (256*acc+x) r
def rM(r:List Nat):Option (Ev×List Nat):=
 match num 1 0 r with
 |none=>none
 |some (n,r)=>if r.length<n then none else
  match num 1 0 (r.drop n)with
  |none=>none
  |some (k,r')=>match num 3 0 r' with
   |none=>none
   |some (m,r'')=>some (⟨r.take n,k,m⟩,r'')
def eF:Nat→List Nat→Option (List Ev×List Nat)
 |0,r=>some ([],r)
 |m+1,r=>match rM r with
  |none=>none
  |some (e,r)=>match eF m r with
   |none=>none
   |some (l,r)=>some (e::l,r)
def mI(r:List Nat):Option (Bat×List Nat):=
 match num 3 0 r with
 |none=>none
 |some (c,r)=>match num 1 0 r with
  |none=>none
  |some (m,r)=>match eF m r with
   |none=>none
   |some (l,r)=>some (⟨c,l⟩,r)
def dZ:Nat→List Nat→Option (List Bat×List Nat)
 |0,r=>some ([],r)
 |m+1,r=>match mI r with
  |none=>none
  |some (e,r)=>match dZ m r with
   |none=>none
   |some (l,r)=>some (e::l,r)
def vA(r:List Nat):Option (List Bat):=
 match num 1 0 r with
 |none=>none
 |some (m,r)=>match dZ m r with
  |none=>none
  |some (l,r)=>if r=[]then some l else none
def aM(r:List Nat):Nat:=match vA r with|none=>2|some l=>(aF l).1
def dD(r:List Nat):List Bat:=match vA r with|none=>[]|some l=>if (aF l).1=0 then l else[]
theorem c3M(x:Nat)(r:List Nat):num 1 0 (x::r)=some (x,r):=by
 show some (256*0+x,r)=_;rw[d1U,c9G]
def bZ(r:List Nat):Prop:= ∀x,x∈r→x<256
theorem bZ.tail(h:bZ (x::r)):bZ r:=fun y hy=>h y (c9Y _ hy)
end Go.Proofs.YtmcaejooaaahdaaGreat.Evt
namespace Go.Proofs.YtmcaejooaaahdaaGreat.Vw
open Go.Proofs.Tryz
variable {C a b i j k p x:Nat} {r:List Nat} {u:Int} {w w':World}
open Evt
structure Acc where
 name:List Nat
 sum:Int
 cnt:Int
 opn:Bool
def lt:List Nat→List Nat→Bool
 |_,[]=>false
 |[],_::_=>true
 |a::r,b::s=>decide (a<b)||(decide (a=b)&&lt r s)
theorem a5E{s:List Nat}:lt (a::r) (b::s)=true↔a<b∨(a=b∧lt r s=true):=by
 show(decide (a<b)||(decide (a=b)&&lt r s))=true↔_;simp
theorem lt_irrefl: ∀a,lt a a=false
 |[]=>rfl
 |a::r=>by
  show(decide (a<a)||(decide (a=a)&&lt r r))=false
  rw[lt_irrefl r]
  simp
theorem lt_trans: ∀{a b c:List Nat},lt a b=true→lt b c=true→lt a c=true
 |[],[],_,h,_=>by cases h
 |_::_,[],_,h,_=>by cases h
 |_,_::_,[],_,h=>by cases h
 |[],_::_,_::_,_,_=>rfl
 |a::r,b::s,c::t,h,k=>by
  rw[a5E]at h k⊢
  rcases h with h|⟨rfl,h⟩
  ·rcases k with k|⟨rfl,_⟩
   ·exact Or.inl (Nat.lt_trans h k)
   ·exact Or.inl h
  ·rcases k with k|⟨rfl,k⟩
   ·exact Or.inl k
   ·exact Or.inr ⟨rfl,lt_trans h k⟩
theorem b0L: ∀a b:List Nat,lt a b=true∨a=b∨lt b a=true
 |[],[]=>Or.inr (Or.inl rfl)
 |[],_::_=>Or.inl rfl
 |_::_,[]=>Or.inr (Or.inr rfl)
 |a::r,b::s=>by
  rw[a5E,a5E]
  rcases Nat.lt_trichotomy a b with h|rfl|h
  ·exact Or.inl (Or.inl h)
  ·rcases b0L r s with h|rfl|h
   ·exact Or.inl (Or.inr ⟨rfl,h⟩)
   ·exact Or.inr (Or.inl rfl)
   ·exact Or.inr (Or.inr (Or.inr ⟨rfl,h⟩))
  ·exact Or.inr (Or.inr (Or.inl h))
theorem vW{a b:List Nat}(h:lt a b=true):a≠b:=fun e=>by
 rw[e,lt_irrefl]at h
 cases h
theorem c3X{a b:List Nat}(h:lt a b=true):lt b a=false:=by
 cases q:lt b a with
 |false=>rfl
 |true=>
  have:=lt_trans h q;rw[lt_irrefl]at this;cases this
theorem uA{a b:List Nat}(h:lt a b=false)(hn:a≠b):lt b a=true:=by
 rcases b0L a b with q|q|q
 ·rw[h]at q;cases q
 ·exact absurd q hn
 ·exact q
def cH(u:Int)(a:Acc):Nat:=if¬dC a.name then 7 else if a.cnt<1∨u<a.cnt∨1000000*a.cnt<a.sum∨a.sum< -(1000000*a.cnt)then 3 else 0
theorem oO{a:Acc}(h: ¬dC a.name):cH u a=7:=if_pos h
theorem dU{a:Acc}(h:dC a.name)(h2:a.cnt<1∨u<a.cnt∨1000000*a.cnt<a.sum∨a.sum< -(1000000*a.cnt)):cH u a=3:=by
 unfold cH;rw[if_neg (fun k=>k h),if_pos h2]
theorem pV{a:Acc}(h:dC a.name)(h2: ¬(a.cnt<1∨u<a.cnt∨1000000*a.cnt<a.sum∨a.sum< -(1000000*a.cnt))):cH u a=0:=by
 unfold cH;rw[if_neg (fun k=>k h),if_neg h2]
theorem fL{a:Acc}(h:cH u a=0):dC a.name∧1≤a.cnt∧a.cnt≤u∧a.sum≤1000000*a.cnt∧ -(1000000*a.cnt)≤a.sum:=by
 by_cases h1:dC a.name
 ·by_cases h2:a.cnt<1∨u<a.cnt∨1000000*a.cnt<a.sum∨a.sum< -(1000000*a.cnt)
  ·rw[dU h1 h2]at h;cases h
  ·exact⟨h1,by omega,by omega,by omega,by omega⟩
 ·rw[oO h1]at h;cases h
def nV:Option (List Nat)→List Nat→Bool
 |none,_=>true
 |some q,n=>lt q n
def aF(u:Int):Nat→Option (List Nat)→Int→List Acc→Nat×Nat
 |i,_,s,[]=>if s=u then(0,0)else(8,i)
 |i,p,s,a::r=>if cH u a=0 then(if nV p a.name=true then(if s+a.cnt≤u then aF u (i+1) (some a.name) (s+a.cnt) r else(8,i))else(2,i))else(cH u a,i)
theorem gS{p:Option (List Nat)}{s:Int}{a:Acc}{r:List Acc}(h:cH u a≠0):aF u i p s (a::r)=(cH u a,i):=by rw[aF,if_neg h]
theorem oD{p:Option (List Nat)}{s:Int}{a:Acc}{r:List Acc}(h:cH u a=0)(h2:nV p a.name=false):aF u i p s (a::r)=(2,i):=by rw[aF,if_pos h,if_neg (by rw[h2];decide)]
theorem kO{p:Option (List Nat)}{s:Int}{a:Acc}{r:List Acc}(h:cH u a=0)(h2:nV p a.name=true)(h3: ¬s+a.cnt≤u):aF u i p s (a::r)=(8,i):=by rw[aF,if_pos h,if_pos h2,if_neg h3]
theorem iA{p:Option (List Nat)}{s:Int}{a:Acc}{r:List Acc}(h:cH u a=0)(h2:nV p a.name=true)(h3:s+a.cnt≤u):aF u i p s (a::r)=aF u (i+1) (some a.name) (s+a.cnt) r:=by rw[aF,if_pos h,if_pos h2,if_pos h3]
def aR(u:Int)(l:List Acc):Nat×Nat:=if u<0∨150<u then(3,0)else aF u 0 none 0 l
theorem iH{l:List Acc}(h:u<0∨150<u):aR u l=(3,0):=if_pos h
theorem lF{l:List Acc}(h: ¬(u<0∨150<u)):aR u l=aF u 0 none 0 l:=if_neg h
def iS:List Acc→Int
 |[]=>0
 |a::r=>a.cnt+iS r
def b9V:Option (List Nat)→List Acc→Prop
 |_,[]=>True
 |p,a::r=>nV p a.name=true∧b9V (some a.name) r
abbrev lQ(l:List Acc):Prop:=l.Pairwise (fun a b=>lt a.name b.name=true)
theorem b4P: ∀{p:Option (List Nat)} {l:List Acc},(∀a,a∈l→nV p a.name=true)→lQ l→b9V p l
 |_,[],_,_=>trivial
 |_,a::_,h,hs=>⟨h a c9W,b4P (fun b hb=>(d1A.1 hs).1 b hb) (d1A.1 hs).2⟩
theorem b3R: ∀{p:Option (List Nat)} {l:List Acc},b9V p l→(∀a,a∈l→nV p a.name=true)∧lQ l
 |_,[],_=>⟨fun _ ha=>(by cases ha),List.Pairwise.nil⟩
 |p,a::r,h=>by
  obtain⟨h1,h2⟩:=b3R h.2
  refine⟨fun b hb=>?_,d1A.2 ⟨fun b hb=>h1 b hb,h2⟩⟩
  rcases List.mem_cons.1 hb with rfl|hb
  ·exact h.1
  ·cases p with
   |none=>rfl
   |some q=>exact lt_trans h.1 (h1 b hb)
theorem sR: ∀{l:List Acc} {u:Int},(∀a,a∈l→cH u a=0)→0≤iS l
 |[],_,_=>d1Q 0
 |a::r,u,h=>by
  have h1:=(fL (h a c9W)).2.1
  have h2:=sR (l:=r) (fun b hb=>h b (c9Y _ hb))
  show 0≤a.cnt+iS r
  omega
theorem a2B: ∀{l:List Acc} {u:Int},(∀a,a∈l→cH u a=0)→(l.length:Int)≤iS l
 |[],_,_=>d1Q 0
 |a::r,u,h=>by
  have h1:=(fL (h a c9W)).2.1
  have h2:=a2B (l:=r) (fun b hb=>h b (c9Y _ hb))
  show((r.length+1:Nat):Int)≤a.cnt+iS r
  omega
theorem a0Z: ∀{l:List Acc} {u:Int} {i:Nat} {p:Option (List Nat)} {s:Int},(aF u i p s l).1=0→(∀a,a∈l→cH u a=0)∧b9V p l∧s+iS l=u
 |[],u,i,p,s,h=>by
  refine⟨fun _ ha=>(by cases ha),trivial,?_⟩
  show s+0=u
  by_cases e:s=u
  ·omega
  ·rw[aF,if_neg e]at h
   cases h
 |a::r,u,i,p,s,h=>by
  by_cases h1:cH u a=0
  ·by_cases h2:nV p a.name=true
   ·by_cases h3:s+a.cnt≤u
    ·rw[iA h1 h2 h3]at h
     obtain⟨k1,k2,k3⟩:=a0Z h
     refine⟨fun b hb=>?_,⟨h2,k2⟩,?_⟩
     ·rcases List.mem_cons.1 hb with rfl|hb
      ·exact h1
      ·exact k1 b hb
     ·show s+(a.cnt+iS r)=u
      omega
    ·rw[kO h1 h2 h3]at h
     cases h
   ·rw[oD h1 (by simpa using h2)]at h
    cases h
  ·rw[gS h1]at h
   exact absurd h h1
theorem a1D: ∀{l:List Acc} {u:Int} {i:Nat} {p:Option (List Nat)} {s:Int},(∀a,a∈l→cH u a=0)→b9V p l→s+iS l=u→aF u i p s l=(0,0)
 |[],u,i,p,s,_,_,h=>by
  have h:s+0=u:=h
  rw[aF,if_pos (by omega)]
 |a::r,u,i,p,s,h1,h2,h3=>by
  have h3:s+(a.cnt+iS r)=u:=h3
  have hr:=fun b hb=>h1 b (c9Y _ hb)
  have hn:=sR hr
  rw[iA (h1 a c9W) h2.1 (by omega)]
  exact a1D hr h2.2 (by omega)
structure iQ(u:Int)(l:List Acc):Prop where
 lo:0≤u
 hi:u≤150
 acc: ∀a,a∈l→cH u a=0
 srt:lQ l
 tot:iS l=u
theorem iO{l:List Acc}(h:(aR u l).1=0):iQ u l:=by
 by_cases q:u<0∨150<u
 ·rw[iH q]at h;cases h
 ·rw[lF q]at h;obtain⟨h1,h2,h3⟩:=a0Z h;exact⟨by omega,by omega,h1,(b3R h2).2,by omega⟩
theorem iQ.ok{l:List Acc}(h:iQ u l):aR u l=(0,0):=by
 have h1:=h.lo;have h2:=h.hi;rw[lF (by omega)];exact a1D h.acc (b4P (fun _ _=>rfl) h.srt) (by have:=h.tot;omega)
theorem iQ.len{l:List Acc}(h:iQ u l):l.length≤150:=by
 have h1:=a2B h.acc;have h2:=h.tot;have h3:=h.hi;omega
theorem b7I:iQ 0 []:=⟨d1Q 0,by omega,fun _ ha=>(by cases ha),List.Pairwise.nil,rfl⟩
def yV(l:List Acc):Nat→Option (List Nat)
 |0=>none
 |k+1=>(l[k]?).map (·.name)
theorem pN{l:List Acc}{a:Acc}(h:l[k]?=some a):yV l (k+1)=some a.name:=by
 show(l[k]?).map (·.name)=_
 rw[h];rfl
theorem tK{l:List Acc}{a:Acc}(h:l[k]?=some a):l.drop k=a::l.drop (k+1):=by
 obtain⟨hk,rfl⟩:=c9H.1 h;exact d2L hk
def fresh(n:List Nat):Acc:=⟨n,0,0,false⟩
def get:List Acc→List Nat→Acc
 |[],n=>fresh n
 |a::r,n=>if a.name=n then a else get r n
def may(a:Acc)(e:Ev):Bool:=if e.kind=1 then !a.opn else if e.kind=2∨e.kind=4 then a.opn else if e.kind=3 then a.opn&&decide (e.num≤a.sum)else false
def chg(a:Acc)(e:Ev):Acc:=⟨a.name,if e.kind=2 then a.sum+e.num else if e.kind=3 then a.sum-e.num else a.sum,a.cnt+1,if e.kind=1 then true else if e.kind=4 then false else a.opn⟩
def put:List Acc→Ev→List Acc
 |[],e=>[chg (fresh e.name) e]
 |a::r,e=>if lt a.name e.name=true then a::put r e else if a.name=e.name then chg a e::r else chg (fresh e.name) e::a::r
def bK(u:Int)(l:List Acc)(e:Ev):Nat×Int×List Acc:=
 if (aR u l).1=0 then(if aB e=0 then(if u=150 then(5,0,[])else if may (get l e.name) e=true then(0,u+1,put l e)else(8,0,[]))else(aB e,0,[]))else((aR u l).1,0,[])
theorem rR{l:List Acc}{e:Ev}(h:(aR u l).1≠0):bK u l e=((aR u l).1,0,[]):=if_neg h
theorem oL{l:List Acc}{e:Ev}(h:(aR u l).1=0)(h2:aB e≠0):bK u l e=(aB e,0,[]):=by unfold bK;rw[if_pos h,if_neg h2]
theorem rK{l:List Acc}{e:Ev}(h:(aR u l).1=0)(h2:aB e=0)(h3:u=150):bK u l e=(5,0,[]):=by unfold bK;rw[if_pos h,if_pos h2,if_pos h3]
theorem vD{l:List Acc}{e:Ev}(h:(aR u l).1=0)(h2:aB e=0)(h3:u≠150)(h4:may (get l e.name) e=false):bK u l e=(8,0,[]):=by unfold bK;rw[if_pos h,if_pos h2,if_neg h3,if_neg (by rw[h4];decide)]
theorem xX{l:List Acc}{e:Ev}(h:(aR u l).1=0)(h2:aB e=0)(h3:u≠150)(h4:may (get l e.name) e=true):bK u l e=(0,u+1,put l e):=by unfold bK;rw[if_pos h,if_pos h2,if_neg h3,if_pos h4]
theorem b4V{l:List Acc}{e:Ev}(h:(bK u l e).1=0):iQ u l∧aB e=0∧u≠150∧may (get l e.name) e=true∧bK u l e=(0,u+1,put l e):=by
 by_cases h1:(aR u l).1=0
 ·by_cases h2:aB e=0
  ·by_cases h3:u=150
   ·rw[rK h1 h2 h3]at h;cases h
   ·cases h4:may (get l e.name) e with
    |false=>
     rw[vD h1 h2 h3 h4]at h;cases h
    |true=>exact⟨iO h1,h2,h3,rfl,xX h1 h2 h3 h4⟩
  ·rw[oL h1 h2]at h;exact absurd h h2
 ·rw[rR h1]at h;exact absurd h h1
theorem oH: ∀(l:List Acc) (n:List Nat),(get l n).name=n
 |[],_=>rfl
 |a::r,n=>by
  rw[get]
  by_cases h:a.name=n
  ·rw[if_pos h]
   exact h
  ·rw[if_neg h]
   exact oH r n
theorem xZ: ∀{l:List Acc} {n:List Nat},(∀a,a∈l→a.name≠n)→get l n=fresh n
 |[],_,_=>rfl
 |a::r,n,h=>by
  rw[get,if_neg (h a c9W)]
  exact xZ (fun b hb=>h b (c9Y _ hb))
theorem wO: ∀(l:List Acc) (n:List Nat),get l n∈l∨get l n=fresh n
 |[],_=>Or.inr rfl
 |a::r,n=>by
  rw[get]
  by_cases h:a.name=n
  ·rw[if_pos h]
   exact Or.inl c9W
  ·rw[if_neg h]
   rcases wO r n with q|q
   ·exact Or.inl (c9Y _ q)
   ·exact Or.inr q
theorem a4U: ∀{l:List Acc} {e:Ev},lQ l→ ∀a,a∈put l e→a∈l∨a=chg (get l e.name) e
 |[],e,_,a,ha=>Or.inr (d1Z.1 ha)
 |x::r,e,hs,a,ha=>by
  have hs':=d1A.1 hs
  rw[put]at ha
  by_cases h1:lt x.name e.name=true
  ·rw[if_pos h1]at ha
   rw[get,if_neg (vW h1)]
   rcases List.mem_cons.1 ha with rfl|ha
   ·exact Or.inl c9W
   ·rcases a4U hs'.2 a ha with q|q
    ·exact Or.inl (c9Y _ q)
    ·exact Or.inr q
  ·rw[if_neg h1]at ha
   by_cases h2:x.name=e.name
   ·rw[if_pos h2]at ha
    rw[get,if_pos h2]
    rcases List.mem_cons.1 ha with rfl|ha
    ·exact Or.inr rfl
    ·exact Or.inl (c9Y _ ha)
   ·rw[if_neg h2]at ha
    have h3:=uA (by simpa using h1) h2
    rw[xZ (n:=e.name) (l:=x::r) (fun b hb q=>by
     rcases List.mem_cons.1 hb with rfl|hb
     ·exact h2 q
     ·have:=lt_trans h3 (hs'.1 b hb)
      exact vW this q.symm)]
    rcases List.mem_cons.1 ha with rfl|ha
    ·exact Or.inr rfl
    ·exact Or.inl ha
theorem b2Z: ∀{l:List Acc} {e:Ev} {n:List Nat},(∀a,a∈l→lt n a.name=true)→lt n e.name=true→ ∀a,a∈put l e→lt n a.name=true
 |[],e,n,_,h,a,ha=>by
  rw[d1Z.1 ha]
  exact h
 |x::r,e,n,hl,h,a,ha=>by
  rw[put]at ha
  by_cases h1:lt x.name e.name=true
  ·rw[if_pos h1]at ha
   rcases List.mem_cons.1 ha with rfl|ha
   ·exact hl a c9W
   ·exact b2Z (fun b hb=>hl b (c9Y _ hb)) h a ha
  ·rw[if_neg h1]at ha
   by_cases h2:x.name=e.name
   ·rw[if_pos h2]at ha
    rcases List.mem_cons.1 ha with rfl|ha
    ·exact hl x c9W
    ·exact hl a (c9Y _ ha)
   ·rw[if_neg h2]at ha
    rcases List.mem_cons.1 ha with rfl|ha
    ·exact h
    ·exact hl a ha
theorem xD: ∀{l:List Acc} {e:Ev},lQ l→lQ (put l e)
 |[],e,_=>List.pairwise_singleton _ _
 |x::r,e,hs=>by
  have hs':=d1A.1 hs
  rw[put]
  by_cases h1:lt x.name e.name=true
  ·rw[if_pos h1]
   exact d1A.2 ⟨b2Z hs'.1 h1,xD hs'.2⟩
  ·rw[if_neg h1]
   by_cases h2:x.name=e.name
   ·rw[if_pos h2]
    exact d1A.2 ⟨fun b hb=>hs'.1 b hb,hs'.2⟩
   ·rw[if_neg h2]
    have h3:=uA (by simpa using h1) h2
    refine d1A.2 ⟨fun b hb=>?_,hs⟩
    rcases List.mem_cons.1 hb with rfl|hb
    ·exact h3
    ·exact lt_trans h3 (hs'.1 b hb)
theorem a3C: ∀(l:List Acc) (e:Ev),iS (put l e)=iS l+1
 |[],e=>rfl
 |x::r,e=>by
  rw[put]
  by_cases h1:lt x.name e.name=true
  ·rw[if_pos h1]
   show x.cnt+iS (put r e)=x.cnt+iS r+1
   rw[a3C r e]
   omega
  ·rw[if_neg h1]
   by_cases h2:x.name=e.name
   ·rw[if_pos h2]
    show x.cnt+1+iS r=x.cnt+iS r+1
    omega
   ·rw[if_neg h2]
    show 0+1+(x.cnt+iS r)=x.cnt+iS r+1
    omega
theorem a5Q{a:Acc}(h:cH u a=0):cH (u+1) a=0:=by
 obtain⟨h1,h2,h3,h4,h5⟩:=fL h;exact pV h1 (by omega)
theorem b6J{a:Acc}{e:Ev}(hu:0≤u)(hn:dC a.name)(h:cH u a=0∨a=fresh a.name)(he:aB e=0):cH (u+1) (chg a e)=0:=by
 obtain⟨_,_,_,k1,k2⟩:=eN he;have hb:0≤a.cnt∧a.cnt≤u∧a.sum≤1000000*a.cnt∧ -(1000000*a.cnt)≤a.sum:=by
  rcases h with h|h
  ·obtain⟨_,h2,h3,h4,h5⟩:=fL h;exact⟨by omega,h3,h4,h5⟩
  ·have e1:a.cnt=0:=by rw[h];rfl
   have e2:a.sum=0:=by rw[h];rfl
   exact⟨by omega,by omega,by omega,by omega⟩
 refine pV hn ?_;show¬(a.cnt+1<1∨u+1<a.cnt+1∨1000000*(a.cnt+1)<(if e.kind=2 then a.sum+e.num else if e.kind=3 then a.sum-e.num else a.sum)∨(if e.kind=2 then a.sum+e.num else if e.kind=3 then a.sum-e.num else a.sum)< -(1000000*(a.cnt+1)));by_cases q:e.kind=2
 ·rw[if_pos q];omega
 ·rw[if_neg q];by_cases q2:e.kind=3
  ·rw[if_pos q2];omega
  ·rw[if_neg q2];omega
theorem b7S{l:List Acc}{e:Ev}(h:iQ u l)(he:aB e=0)(hu:u≠150):iQ (u+1) (put l e):=by
 have h1:=h.lo;have h2:=h.hi;refine⟨by omega,by omega,fun a ha=>?_,xD h.srt,by rw[a3C,h.tot]⟩;rcases a4U h.srt a ha with q|rfl
 ·exact a5Q (h.acc a q)
 ·refine b6J h1 (by rw[oH];exact(eN he).1) ?_ he;rcases wO l e.name with q|q
  ·exact Or.inl (h.acc _ q)
  ·refine Or.inr ?_;rw[oH];exact q
theorem b9K{l:List Acc}{e:Ev}(hs:lQ l)(he:aB e=0)(hm:may (get l e.name) e=true)(h: ∀a,a∈l→0≤a.sum): ∀a,a∈put l e→0≤a.sum:=by
 intro a ha;rcases a4U hs a ha with q|rfl
 ·exact h a q
 ·have h0:0≤(get l e.name).sum:=by
   rcases wO l e.name with q|q
   ·exact h _ q
   ·rw[q];exact d1Q 0
  obtain⟨_,_,_,k1,k2⟩:=eN he;generalize get l e.name=x at hm h0;show 0≤(if e.kind=2 then x.sum+e.num else if e.kind=3 then x.sum-e.num else x.sum);by_cases q:e.kind=2
  ·rw[if_pos q];omega
  ·rw[if_neg q];by_cases q2:e.kind=3
   ·rw[if_pos q2];unfold may at hm;rw[if_neg (by omega),if_neg (by omega),if_pos q2]at hm;simp at hm;omega
   ·rw[if_neg q2];exact h0
def Cut(l:List Acc)(n:List Nat)(i:Nat):Prop:=i≤l.length∧(∀j a,j<i→l[j]?=some a→lt a.name n=true)∧ ∀j a,i≤j→l[j]?=some a→lt a.name n=false
theorem Cut.tail{x:Acc}{r:List Acc}{n:List Nat}(h:Cut (x::r) n (i+1)):Cut r n i:=
 ⟨by have:=h.1;simp at this;omega,fun j a hj ha=>h.2.1 (j+1) a (by omega) (by simpa using ha),fun j a hj ha=>h.2.2 (j+1) a (by omega) (by simpa using ha)⟩
theorem a3B: ∀{l:List Acc} {e:Ev} {i:Nat} {a:Acc},Cut l e.name i→l[i]?=some a→a.name=e.name→put l e=l.set i (chg a e)
 |[],e,i,a,_,h,_=>by cases h
 |x::r,e,0,a,hc,h,hn=>by
  cases h
  rw[put,if_neg (by rw[hc.2.2 0 x (c9C _) rfl];decide),if_pos hn]
  rfl
 |x::r,e,i+1,a,hc,h,hn=>by
  rw[put,if_pos (hc.2.1 0 x (by omega) rfl),a3B hc.tail (by simpa using h) hn]
  rfl
theorem b3A: ∀{l:List Acc} {e:Ev} {i:Nat},Cut l e.name i→(∀a,l[i]?=some a→a.name≠e.name)→put l e=l.take i++chg (fresh e.name) e::l.drop i
 |[],e,i,hc,_=>by simp[put]
 |x::r,e,0,hc,h=>by
  rw[put,if_neg (by rw[hc.2.2 0 x (c9C _) rfl];decide),if_neg (h x rfl)]
  rfl
 |x::r,e,i+1,hc,h=>by
  rw[put,if_pos (hc.2.1 0 x (by omega) rfl),b3A hc.tail (fun a ha=>h a (by simpa using ha))]
  rfl
theorem a2W{l:List Acc}(hs:lQ l){a b:Acc}(hj:l[j]?=some a)(hk:l[k]?=some b)(h:j≤k){n:List Nat}(hb:lt b.name n=true):lt a.name n=true:=by
 rcases Nat.lt_or_ge j k with q|q
 ·obtain⟨h1,rfl⟩:=c9H.1 hj;obtain⟨h2,rfl⟩:=c9H.1 hk;exact lt_trans (d2Y.1 hs j k h1 h2 q) hb
 ·obtain rfl:j=k:=by omega
  rw[hj]at hk;cases hk
  exact hb
def rest(n:List Nat)(a:Acc):Bool→List Acc→List Acc
 |d,[]=>if d=true then[]else[a]
 |d,x::r=>(if d=false∧lt x.name n=false then[a]else[])++((if x.name=n then[]else[x])++rest n a (d||!lt x.name n) r)
theorem tV: ∀{l:List Acc} {n:List Nat} {a:Acc},(∀x,x∈l→x.name≠n)→rest n a true l=l
 |[],_,_,_=>rfl
 |x::r,n,a,h=>by
  rw[rest,if_neg (fun q=>by cases q.1),if_neg (h x List.mem_cons_self),Bool.true_or,tV (fun y hy=>h y (List.mem_cons_of_mem _ hy))]
  rfl
theorem a6C: ∀{l:List Acc} {e:Ev},lQ l→rest e.name (chg (get l e.name) e) false l=put l e
 |[],e,_=>rfl
 |x::r,e,hs=>by
  have hs':=d1A.1 hs
  rw[rest,put,get]
  by_cases h1:lt x.name e.name=true
  ·rw[if_neg (fun q=>by rw[h1]at q;cases q.2),if_neg (vW h1),if_neg (vW h1),if_pos h1,h1]
   show x::rest e.name _ false r=_
   rw[a6C hs'.2]
  ·have h1':lt x.name e.name=false:=by simpa using h1
   rw[if_pos ⟨rfl,h1'⟩,if_neg h1,h1'];by_cases h2:x.name=e.name
   ·rw[if_pos h2,if_pos h2,if_pos h2];show chg x e::rest e.name (chg x e) true r=_
    rw[tV (fun y hy q=>by
     have:=hs'.1 y hy
     exact vW this (h2.trans q.symm))]
   ·have h3:=uA h1' h2;have hn: ∀y,y∈r→y.name≠e.name:=fun y hy q=>vW (lt_trans h3 (hs'.1 y hy)) q.symm;rw[if_neg h2,if_neg h2,if_neg h2,xZ hn];show chg (fresh e.name) e::x::rest e.name _ true r=_;rw[tV hn]
def fP:Int→List Acc→Nat→List Ev→(Nat×Nat)×Int×List Acc
 |u,l,_,[]=>((0,0),u,l)
 |u,l,i,e::r=>if (bK u l e).1=0 then fP (bK u l e).2.1 (bK u l e).2.2 (i+1) r else(((bK u l e).1,i),0,[])
theorem xV{l:List Acc}{e:Ev}{r:List Ev}(h:(bK u l e).1=0):fP u l i (e::r)=fP (bK u l e).2.1 (bK u l e).2.2 (i+1) r:=by rw[fP,if_pos h]
theorem a0V{l:List Acc}{e:Ev}{r:List Ev}(h:(bK u l e).1≠0):fP u l i (e::r)=(((bK u l e).1,i),0,[]):=by rw[fP,if_neg h]
def cD(u:Int)(l:List Acc)(es:List Ev):(Nat×Nat)×Int×List Acc:=if (aR u l).1=0 then fP u l 0 es else(((aR u l).1,0),0,[])
theorem sA{l:List Acc}{es:List Ev}(h:(aR u l).1≠0):cD u l es=(((aR u l).1,0),0,[]):=if_neg h
theorem pY{l:List Acc}{es:List Ev}(h:(aR u l).1=0):cD u l es=fP u l 0 es:=if_pos h
theorem b1W{l:List Acc}{es:List Ev}(h:(cD u l es).1.1=0):iQ u l:=by
 by_cases q:(aR u l).1=0
 ·exact iO q
 ·rw[sA q]at h;exact absurd h q
theorem wC: ∀{es:List Ev} {u:Int} {l:List Acc} {i:Nat},iQ u l→(fP u l i es).1.1=0→iQ (fP u l i es).2.1 (fP u l i es).2.2∧(fP u l i es).2.1=u+es.length∧((∀a,a∈l→0≤a.sum)→ ∀a,a∈(fP u l i es).2.2→0≤a.sum)
 |[],u,l,i,hr,_=>⟨hr,by show u=u+(0:Nat);omega,fun h=>h⟩
 |e::r,u,l,i,hr,h=>by
  by_cases q:(bK u l e).1=0
  ·rw[xV q]at h⊢
   obtain⟨_,h2,h3,h4,h5⟩:=b4V q
   rw[h5]at h⊢
   obtain⟨k1,k2,k3⟩:=wC (b7S hr h2 h3) h
   refine⟨k1,?_,fun hs=>k3 (b9K hr.srt h2 h4 hs)⟩
   rw[k2,d0E]
   omega
  ·rw[a0V q]at h
   exact absurd h q
theorem qU{l:List Acc}{es:List Ev}(h:(cD u l es).1.1=0):iQ (cD u l es).2.1 (cD u l es).2.2∧(cD u l es).2.1=u+es.length∧((∀a,a∈l→0≤a.sum)→ ∀a,a∈(cD u l es).2.2→0≤a.sum):=by
 have hr:=b1W h;have hw:(aR u l).1=0:=by rw[hr.ok]
 rw[pY hw]at h⊢;exact wC hr h
end Go.Proofs.YtmcaejooaaahdaaGreat.Vw
namespace Go.Proofs.YtmcaejooaaahdaaGreat.Sto
open Go.Proofs.Tryz
variable {C a b i j k p x:Nat} {r:List Nat} {u:Int} {w w':World}
open Evt (Ev Bat)
structure aL where
 gone:Bool
 bl:List (Int×List Nat)
structure St where
 disks:List aL
 segs:Nat
 tail:List Bat
 seen:List Int
 u:Int
 acc:List Vw.Acc
structure Cfg where
 d:Nat
 s:Nat
 b:Nat
structure Do where
 kind:Int
 n:Int
 seg:Int
 pos:Int
 turn:Nat
 bat:Bat
 name:List Nat
 ver:Int
structure Ans where
 err:Nat
 n:Int
 evs:List Ev
 vu:Int
 vl:List Vw.Acc
def no(e:Nat):Ans:=⟨e,0,[],0,[]⟩
def told(n:Int):Ans:=⟨0,n,[],0,[]⟩
structure Six where
 lay:List Nat→Nat→Cfg→Nat×List (List Nat)
 read:List (List Nat)→Nat→Cfg→Nat×List Nat
 bad:List (List Nat)→Nat→List Nat
 mend:List (List Nat)→Nat→Cfg→Nat×List (List Nat)
def lI(k:Int):List (Int×List Nat)→List Nat→List Nat
 |[],r=>r
 |h::t,r=>lI k t (if h.1=k then h.2 else r)
def aJ(ds:List aL)(k:Int):List (List Nat):=ds.map fun d=>if d.gone then[]else lI k d.bl []
def ins(k:Int)(x:List Nat):Bool→List (Int×List Nat)→List (Int×List Nat)
 |f,[]=>if f then[]else[(k,x)]
 |f,h::t=>(if k≤h.1∧f=false then[(k,x)]else[])++((if h.1=k then[]else[h])++ins k x (f||decide (k≤h.1)) t)
def write(k:Int)(l:List (List Nat)):Nat→List aL→List aL
 |_,[]=>[]
 |i,d::r=>(if d.gone then d else⟨false,ins k (l.getD i []) false d.bl⟩)::write k l (i+1) r
def cE(l:List Bat):List Ev:=l.flatMap (·.evs)
def jA(X:Six)(c:Cfg)(ds:List aL):Nat→Nat→List Ev→Nat×List Ev
 |0,_,out=>(0,out)
 |m+1,k,out=>
  if (X.read (aJ ds k) k c).1≠0 then((X.read (aJ ds k) k c).1,[])
  else if Evt.aM (X.read (aJ ds k) k c).2≠0 then(Evt.aM (X.read (aJ ds k) k c).2,[])
  else jA X c ds m (k+1) (out++cE (Evt.dD (X.read (aJ ds k) k c).2))
def all(X:Six)(c:Cfg)(s:St):Nat×List Ev:=
 if (jA X c s.disks s.segs 0 []).1≠0 then((jA X c s.disks s.segs 0 []).1,[])else(0,(jA X c s.disks s.segs 0 []).2++cE s.tail)
def below(c:Int)(l:List Int):Nat:=(l.filter fun x=>decide (x<c)).length
def eR(X:Six)(c:Cfg)(s:St)(b:Bat)(v:Int×List Vw.Acc):Nat×St:=
 let seen:=s.seen.take (below b.cmd s.seen)++b.cmd::s.seen.drop (below b.cmd s.seen)
 if (s.tail++[b]).length<c.b then(0,⟨s.disks,s.segs,s.tail++[b],seen,v.1,v.2⟩)
 else if (Evt.aF (s.tail++[b])).1≠0 then((Evt.aF (s.tail++[b])).1,s)
 else if (X.lay (Evt.iK (s.tail++[b])) s.segs c).1≠0 then((X.lay (Evt.iK (s.tail++[b])) s.segs c).1,s)
 else(0,⟨write s.segs (X.lay (Evt.iK (s.tail++[b])) s.segs c).2 0 s.disks,s.segs+1,[],seen,v.1,v.2⟩)
def put(X:Six)(c:Cfg)(s:St)(d:Do):St×Ans:=
 if (Evt.aA d.bat).1≠0 then(s,no (Evt.aA d.bat).1)
 else if d.bat.cmd∈s.seen then(s,told s.u)
 else if 0≤d.ver∧d.ver≠(Vw.get s.acc d.name).cnt then(s,no 11)
 else if (Vw.cD s.u s.acc d.bat.evs).1.1≠0 then(s,no (Vw.cD s.u s.acc d.bat.evs).1.1)
 else if (eR X c s d.bat (Vw.cD s.u s.acc d.bat.evs).2).1≠0 then(s,no (eR X c s d.bat (Vw.cD s.u s.acc d.bat.evs).2).1)
 else((eR X c s d.bat (Vw.cD s.u s.acc d.bat.evs).2).2,told (Vw.cD s.u s.acc d.bat.evs).2.1)
def b3G(X:Six)(c:Cfg)(s:St)(d:Do):Ans:=
 if (all X c s).1≠0 then no (all X c s).1
 else if d.kind=4 then⟨(Vw.cD 0 [] (all X c s).2).1.1,(Vw.cD 0 [] (all X c s).2).2.1,[],(Vw.cD 0 [] (all X c s).2).2.1,(Vw.cD 0 [] (all X c s).2).2.2⟩
 else if d.kind=3 then(if d.n<0∨((all X c s).2.length:Int)<d.n then no 3 else⟨0,(all X c s).2.length,(all X c s).2.drop d.n.toNat,0,[]⟩)
 else if¬Evt.dC d.name then no 7
 else⟨0,((all X c s).2.filter fun e=>decide (e.name=d.name)).length,(all X c s).2.filter fun e=>decide (e.name=d.name),0,[]⟩
def lX(k:Int)(p:Nat)(y:Nat):List (Int×List Nat)→List (Int×List Nat)
 |[]=>[]
 |h::t=>if h.1=k then(k,h.2.set p (h.2.getD p 0^^^y))::t else h::lX k p y t
def nY(s:St)(d:Do):St×Ans:=
 match s.disks[d.n.toNat]? with
 |none=>(s,no 6)
 |some x=>
  if d.n<0 then(s,no 6)
  else if d.kind=5∧x.gone=true then(s,no 8)
  else if d.kind=5∨d.kind=6 then({s with disks:=s.disks.set d.n.toNat ⟨decide (d.kind=5),[]⟩},told 0)
  else match x.bl.find? (fun h=>decide (h.1=d.seg))with
   |none=>(s,no 6)
   |some h=>if d.pos<0∨(h.2.length:Int)≤d.pos then(s,no 3)else({s with disks:=s.disks.set d.n.toNat ⟨x.gone,lX d.seg d.pos.toNat d.turn x.bl⟩},told 0)
def there(ds:List aL)(l:List Nat):Nat:=(l.filter fun i=>match ds[i]? with|some d=>!d.gone|none=>false).length
def aN(X:Six)(c:Cfg):Nat→Nat→List aL→Nat→Nat→List aL×Nat×Nat
 |0,_,ds,e,n=>(ds,e,n)
 |m+1,k,ds,e,n=>
  if X.bad (aJ ds k) k=[]then aN X c m (k+1) ds e n
  else if (X.mend (aJ ds k) k c).1≠0 then aN X c m (k+1) ds (if e=0 then(X.mend (aJ ds k) k c).1 else e) n
  else aN X c m (k+1) (write k (X.mend (aJ ds k) k c).2 0 ds) e (n+there ds (X.bad (aJ ds k) k))
def eJ(X:Six)(ds:List aL):Nat→Nat→Nat→Nat
 |0,_,n=>n
 |m+1,k,n=>eJ X ds m (k+1) (n+(X.bad (aJ ds k) k).length)
def step(X:Six)(c:Cfg)(s:St)(d:Do):St×Ans:=
 if d.kind=1 then put X c s d
 else if d.kind=2∨d.kind=3∨d.kind=4 then(s,b3G X c s d)
 else if d.kind=5∨d.kind=6∨d.kind=7 then nY s d
 else if d.kind=8 then({s with disks:=(aN X c s.segs 0 s.disks 0 0).1},⟨(aN X c s.segs 0 s.disks 0 0).2.1,(aN X c s.segs 0 s.disks 0 0).2.2,[],0,[]⟩)
 else if d.kind=9 then(s,told (eJ X s.disks s.segs 0 0))
 else(s,no 1)
def aX(X:Six)(c:Cfg):St→List Do→St×List Ans
 |s,[]=>(s,[])
 |s,d::r=>((aX X c (step X c s d).1 r).1,(step X c s d).2::(aX X c (step X c s d).1 r).2)
def start(c:Cfg):St:=⟨List.replicate (c.d+c.s) ⟨false,[]⟩,0,[],[],0,[]⟩
theorem nG(X:Six)(c:Cfg): ∀(a b:List Do) (s:St),aX X c s (a++b)=((aX X c (aX X c s a).1 b).1,(aX X c s a).2++(aX X c (aX X c s a).1 b).2)
 |[],_,_=>rfl
 |d::a,b,s=>by
  rw[List.cons_append,aX,nG X c a b,aX]
  rfl
theorem nE(X:Six)(c:Cfg): ∀(l:List Do) (s:St),(aX X c s l).2.length=l.length
 |[],_=>rfl
 |d::r,s=>by
  rw[aX]
  show(aX X c (step X c s d).1 r).2.length+1=r.length+1
  rw[nE X c r]
theorem b9N{X:Six}{c:Cfg}: ∀{l:List Do} {s:St} {i:Nat} {d:Do},l[i]?=some d→(aX X c s l).2[i]?=some (step X c (aX X c s (l.take i)).1 d).2
 |[],_,_,_,h=>by cases h
 |x::r,s,0,d,h=>by
  have h:some x=some d:=h
  cases h
  rfl
 |x::r,s,i+1,d,h=>by
  have h:r[i]?=some d:=h
  show(aX X c (step X c s x).1 r).2[i]?=some (step X c (aX X c (step X c s x).1 (r.take i)).1 d).2
  exact b9N h
theorem rP{X:Six}{c:Cfg}: ∀{l:List Do} {s:St} {i:Nat} {d:Do},l[i]?=some d→(aX X c s (l.take (i+1))).1=(step X c (aX X c s (l.take i)).1 d).1
 |[],_,_,_,h=>by cases h
 |x::r,s,0,d,h=>by
  have h:some x=some d:=h
  cases h
  rfl
 |x::r,s,i+1,d,h=>by
  have h:r[i]?=some d:=h
  show(aX X c (step X c s x).1 (r.take (i+1))).1=(step X c (aX X c (step X c s x).1 (r.take i)).1 d).1
  exact rP h
structure wK(s t:St):Prop where
 seen:t.seen=s.seen
 u:t.u=s.u
 acc:t.acc=s.acc
 tail:t.tail=s.tail
 segs:t.segs=s.segs
theorem wK.refl(s:St):wK s s:=⟨rfl,rfl,rfl,rfl,rfl⟩
theorem b5B(s:St)(d:Do):wK s (nY s d).1:=by
 unfold nY;split
 ·exact wK.refl s
 ·split
  ·exact wK.refl s
  ·split
   ·exact wK.refl s
   ·split
    ·exact⟨rfl,rfl,rfl,rfl,rfl⟩
    ·split
     ·exact wK.refl s
     ·split
      ·exact wK.refl s
      ·exact⟨rfl,rfl,rfl,rfl,rfl⟩
theorem b7M{X:Six}{c:Cfg}{s:St}{d:Do}(h:d.kind≠1):wK s (step X c s d).1:=by
 unfold step;rw[if_neg h];split
 ·exact wK.refl s
 ·split
  ·exact b5B s d
  ·split
   ·exact⟨rfl,rfl,rfl,rfl,rfl⟩
   ·split
    ·exact wK.refl s
    ·exact wK.refl s
theorem xS{X:Six}{c:Cfg}{s:St}{d:Do}(h:d.kind=1):step X c s d=put X c s d:=if_pos h
theorem c5J{X:Six}{c:Cfg}{s:St}{b:Bat}{v:Int×List Vw.Acc}(h:(eR X c s b v).1=0):
  (eR X c s b v).2.seen=s.seen.take (below b.cmd s.seen)++b.cmd::s.seen.drop (below b.cmd s.seen)∧(eR X c s b v).2.u=v.1∧(eR X c s b v).2.acc=v.2:=by
 unfold eR at h⊢;dsimp only at h⊢;split
 ·exact⟨rfl,rfl,rfl⟩
 ·rename_i h1;rw[if_neg h1]at h;split
  ·rename_i h2;rw[if_pos h2]at h;exact absurd h h2
  ·rename_i h2;rw[if_neg h2]at h;split
   ·rename_i h3;rw[if_pos h3]at h;exact absurd h h3
   ·exact⟨rfl,rfl,rfl⟩
abbrev Up(l:List (Int×List Nat)):Prop:=l.Pairwise fun a b=>a.1<b.1
theorem rL{k:Int}: ∀{l:List (Int×List Nat)} {r:List Nat},(∀h,h∈l→h.1≠k)→lI k l r=r
 |[],_,_=>rfl
 |h::t,r,q=>by
  rw[lI,if_neg (q h (c9W ..))]
  exact rL fun x hx=>q x (c9Y _ hx)
theorem a5O{k:Int}: ∀{l:List (Int×List Nat)} {h:Int×List Nat} {r:List Nat},Up l→h∈l→h.1=k→lI k l r=h.2
 |x::t,h,r,hu,hm,hk=>by
  rw[lI]
  obtain⟨h1,h2⟩:=d1A.1 hu
  rcases List.mem_cons.1 hm with rfl|hm
  ·rw[if_pos hk]
   exact rL fun y hy=>by
    have:=h1 y hy
    omega
  ·exact a5O h2 hm hk
theorem a5W{k:Int}{x:List Nat}: ∀{l:List (Int×List Nat)},(∀h,h∈l→h.1≠k)→ins k x true l=l
 |[],_=>rfl
 |h::t,q=>by
  rw[ins,if_neg (fun z=>by cases z.2),if_neg (q h (List.mem_cons_self ..)),Bool.true_or,a5W fun y hy=>q y (List.mem_cons_of_mem _ hy)]
  rfl
theorem xY{k:Int}{x:List Nat}: ∀{l:List (Int×List Nat)},Up l→ins k x false l=(l.filter fun h=>decide (h.1<k))++(k,x)::l.filter fun h=>decide (k<h.1)
 |[],_=>rfl
 |h::t,hu=>by
  obtain⟨h1,h2⟩:=d1A.1 hu
  rw[ins]
  by_cases q:h.1<k
  ·rw[if_neg (fun z=>by have:=z.1;omega),if_neg (show¬h.1=k by omega),show(false||decide (k≤h.1))=false by simp;omega,xY h2]
   simp[q,show¬k<h.1 by omega]
  ·have hd:(false||decide (k≤h.1))=true:=by simp;omega
   have ht: ∀y,y∈t→y.1≠k:=fun y hy=>by
    have:=h1 y hy;omega
   have hf:(h::t).filter (fun h=>decide (h.1<k))=[]:=by
    rw[List.filter_eq_nil_iff];intro y hy;rcases List.mem_cons.1 hy with rfl|hy
    ·simpa using Int.not_lt.1 q
    ·have:=h1 y hy;simp;omega
   have hg:t.filter (fun h=>decide (k<h.1))=t:=by
    rw[d2S];intro y hy;have:=h1 y hy;simp;omega
   rw[if_pos ⟨by omega,rfl⟩,hd,a5W ht,hf];by_cases e:h.1=k
   ·rw[if_pos e];simp[show¬k<h.1 by omega,hg]
   ·rw[if_neg e];simp[show k<h.1 by omega,hg]
theorem zP{k:Int}{x:List Nat}{l:List (Int×List Nat)}(hu:Up l):Up (ins k x false l):=by
 rw[xY hu];refine List.pairwise_append.2 ⟨hu.filter _,d1A.2 ⟨fun y hy=>?_,hu.filter _⟩,fun a ha b hb=>?_⟩
 ·simpa using(d0Z.1 hy).2
 ·have h1:a.1<k:=by simpa using(d0Z.1 ha).2
  rcases List.mem_cons.1 hb with rfl|hb
  ·exact h1
  ·have h2:k<b.1:=by simpa using(d0Z.1 hb).2
   omega
theorem a3J{k:Int}{x:List Nat}{l:List (Int×List Nat)}(hu:Up l){h:Int×List Nat}(hm:h∈ins k x false l):h=(k,x)∨(h∈l∧h.1≠k):=by
 rw[xY hu]at hm;rcases List.mem_append.1 hm with q|q
 ·obtain⟨q1,q2⟩:=d0Z.1 q;have q2:h.1<k:=by simpa using q2
  exact Or.inr ⟨q1,by omega⟩
 ·rcases List.mem_cons.1 q with rfl|q
  ·exact Or.inl rfl
  ·obtain⟨q1,q2⟩:=d0Z.1 q;have q2:k<h.1:=by simpa using q2
   exact Or.inr ⟨q1,by omega⟩
theorem q9(k:Int)(p y:Nat): ∀l:List (Int×List Nat),(lX k p y l).map (·.1)=l.map (·.1)
 |[]=>rfl
 |h::t=>by
  rw[lX]
  by_cases q:h.1=k
  ·rw[if_pos q,d1R,d1R,q]
  ·rw[if_neg q,d1R,d1R,q9 k p y t]
theorem a4J{l:List (Int×List Nat)}:Up l↔(l.map (·.1)).Pairwise (· <·):=by rw[List.pairwise_map]
theorem b9D{k:Int}{y:Nat}{l:List (Int×List Nat)}(hu:Up l):Up (lX k p y l):=by
 rw[a4J,q9,←a4J];exact hu
theorem cI(k:Int)(l:List (List Nat)): ∀(ds:List aL) (i:Nat),(write k l i ds).length=ds.length
 |[],_=>rfl
 |d::r,i=>by
  rw[write,d0E,cI k l r,d0E]
theorem kW(k:Int)(l:List (List Nat)): ∀(ds:List aL) (i j:Nat),(write k l i ds)[j]?=(ds[j]?).map fun d=>if d.gone then d else⟨false,ins k (l.getD (i+j) []) false d.bl⟩
 |[],_,_=>rfl
 |d::r,i,0=>rfl
 |d::r,i,j+1=>by
  rw[write,List.getElem?_cons_succ,List.getElem?_cons_succ,kW k l r,show i+1+j=i+(j+1) by omega]
theorem sE(a b:List Bat):cE (a++b)=cE a++cE b:=by
 unfold cE;rw[d0H]
end Go.Proofs.YtmcaejooaaahdaaGreat.Sto
namespace Go.Proofs.YtmcaejooaaahdaaGreat
open Go.Proofs.Tryz
open Go.RowKit
theorem aH{k:IntKind}{a b:Int}(h:a=b):Ending.returned (.int k a)=.returned (.int k b):=by rw[h]
theorem cA{k:IntKind}{a b:Int}(h:a=b):Value.int k a=Value.int k b:=by rw[h]
theorem Tryz.infoByte:(Tryz.prog.info? 5).map (fun i=>(i.zero,i.size,i.bytes))=some (some (.int .u8 0),1,1):=by kernel_rfl
theorem Tryz.laidOut:laidOutB Tryz.prog=true:=by kernel_rfl
theorem bt{a b c:World}(h:Bl a b)(k:Bl b c):Bl a c:=h.trans (k.mono h.size)
def Bd(f:Nat→Nat):Prop:= ∀k,f k<256
structure Off(S:Nat→Prop)(w w':World):Prop where
 os:w'.os=w.os
 tape:w'.tape=w.tape
 output:w'.output=w.output
 size:w.heap.size≤w'.heap.size
 block: ∀k,k<w.heap.size→ ¬S k→w'.heap[k]?=w.heap[k]?
theorem Off.refl(S:Nat→Prop)(w:World):Off S w w:=⟨rfl,rfl,rfl,c9C _,fun _ _ _=>rfl⟩
theorem Off.trans{S:Nat→Prop}{a b c:World}(h:Off S a b)(k:Off S b c):Off S a c:=
 ⟨k.os.trans h.os,k.tape.trans h.tape,k.output.trans h.output,c9E h.size k.size,fun i hi hs=>(k.block i (c9P hi h.size) hs).trans (h.block i hi hs)⟩
theorem Off.of_below{S:Nat→Prop}{a b:World}(h:Bl a b):Off S a b:=⟨h.os,h.tape,h.output,h.size,fun k hk _=>h.block k hk⟩
theorem Off.wider{S T:Nat→Prop}{a b:World}(h:Off S a b)(hs: ∀k,S k→T k):Off T a b:=⟨h.os,h.tape,h.output,h.size,fun k hk hn=>h.block k hk (fun s=>hn (hs k s))⟩
theorem Off.set{S:Nat→Prop}{a b:World}(h:Off S a b){p:Addr}(hp:S p.block)(v:Value):Off S a (b.setCell p v):=
 h.trans ⟨rfl,rfl,rfl,by rw[Deep.nblk_setCell];exact c9C _,fun k _ hk=>Deep.blk_setCell_other _ _ _ _ (fun e=>hk (e▸hp))⟩
theorem Off.drew{S:Nat→Prop}{a b:World}(h:Off S a b):Off S a b.drew:=⟨h.os,h.tape,h.output,h.size,h.block⟩
theorem Off.below{S:Nat→Prop}{a b:World}{B:Nat}(h:Off S a b)(hB:B≤a.heap.size)(hs: ∀k,S k→B≤k):Below B a b:=
 ⟨h.os,h.tape,h.output,h.size,fun k hk=>h.block k (c9P hk hB) (fun s=>absurd (hs k s) (by omega))⟩
def aY(w:World)(g:Nat)(t:TypeId)(n:Nat)(F:Nat→Value):Prop:= ∃m F',w.rowIs g t m F'∧n≤m∧ ∀j,j<n→F' j=F j
namespace aY
open Go.Proofs.Tryz
variable {w : World} {g : Nat} {t : TypeId} {n : Nat} {F : Nat → Value}
theorem cell(h:aY w g t n F){j:Nat}(hj:j<n):w.cell? (aD g j)=some (F j):=by
 obtain⟨m,F',hr,hm,he⟩:=h;rw[hr.cell (c9P hj hm),he j hj]
theorem frozen(h:aY w g t n F)(j:Nat):w.frozen? (aD g j)=false:=by
 obtain⟨m,F',hr,_,_⟩:=h;exact hr.frozen j
theorem lt(h:aY w g t n F):g<w.heap.size:=by
 obtain⟨m,F',hr,_,_⟩:=h;exact hr.lt
theorem congr{F2:Nat→Value}(h:aY w g t n F)(e: ∀j,j<n→F j=F2 j):aY w g t n F2:=by
 obtain⟨m,F',hr,hm,he⟩:=h;exact⟨m,F',hr,hm,fun j hj=>(he j hj).trans (e j hj)⟩
theorem of_block{w':World}(h:aY w g t n F)(e:w'.heap[g]?=w.heap[g]?):aY w' g t n F:=by
 obtain⟨m,F',hr,hm,he⟩:=h;exact⟨m,F',hr.of_block e,hm,he⟩
theorem set(h:aY w g t n F)(i:Nat)(v:Value):aY (w.setCell (aD g i) v) g t n (fun j=>if j=i then v else F j):=by
 obtain⟨m,F',hr,hm,he⟩:=h;refine⟨m,_,hr.set i v,hm,fun j hj=>?_⟩;show(if j=i then v else F' j)=(if j=i then v else F j);by_cases e:j=i
 ·rw[if_pos e,if_pos e]
 ·rw[if_neg e,if_neg e,he j hj]
theorem setOther(h:aY w g t n F){a:Addr}(ha:g≠a.block)(v:Value):aY (w.setCell a v) g t n F:=h.of_block (Deep.blk_setCell_other _ _ _ _ ha)
theorem alloc(h:aY w g t n F)(o:Obj):aY (w.alloc o) g t n F:=h.of_block (Deep.blk_alloc_lt _ _ _ h.lt)
theorem below{w':World}(h:aY w g t n F)(hb:Bl w w'):aY w' g t n F:=h.of_block (hb.block g h.lt)
theorem ne{g':Nat}{t':TypeId}{n':Nat}{F2:Nat→Value}(h:aY w g t n F)(h':aY w g' t' n' F2)(ht:t≠t'):g≠g':=fun e=>by
 obtain⟨_,_,⟨c,h1,_,_⟩,_,_⟩:=h
 obtain⟨_,_,⟨c',h2,_,_⟩,_,_⟩:=h'
 rw[e,h2]at h1
 cases h1
 exact ht rfl
end aY
theorem iE{w:World}{g:Nat}{t:TypeId}{n:Nat}{F:Nat→Value}(h:w.rowIs g t n F):aY w g t n F:=⟨n,F,h,c9C _,fun _ _=>rfl⟩
theorem eD{w:World}{N:Nat}{t:TypeId}{v:Value}{n:Nat}{xs:List Value}(h:w.ownsRow N t 1 v n xs)(hn:1≤n):
  ∃g cap,v=.slice (some (aD g 0)) n cap∧N≤g∧n≤cap∧aY w g t n (fun j=>xs.getD j nS):=by
 obtain⟨hl,h⟩:=h;rcases h with⟨_,h0⟩|⟨g,cap,A0,hv,hN,hg,hc,_,hs,ht⟩
 ·omega
 ·refine⟨g,cap,hv,hN,hc,A0.size,fun j=>A0.getD j nS,⟨A0,hg,rfl,fun i hi=>by simp[hi]⟩,by omega,fun j hj=>?_⟩;have A1:j<A0.size:=by omega
  have:xs[j]?=A0[j]?:=by
   rw[←ht,d0C,if_pos (by omega)];simp
  simp[List.getD,this,A1]
theorem zA{w w':World}(h:Bl w w')(row:Option Nat):w.grownBy w' row:=⟨h.os,h.tape,h.output,h.size,fun k hk _=>h.block k hk⟩
theorem aK{w w':World}{N:Nat}{t:TypeId}{s:Nat}{v:Value}{n:Nat}{xs:List Value}(h:w.ownsRow N t s v n xs)(hb:Bl w w'):w'.ownsRow N t s v n xs:=
 h.kept (zA hb none) (by cases hv:v.ownBlock<;>simp)
theorem fH{w:World}{N:Nat}{t:TypeId}{v:Value}{n x:Nat}{xs:List Value}(h:w.ownsRow N t 1 v n xs)(hx:v.ownBlock=some x): ∃F,aY w x t 0 F:=by
 rcases h.2 with⟨rfl,_⟩|⟨g,A1,A0,rfl,_,hg,_⟩
 ·simp[Value.ownBlock]at hx
 ·simp[Value.ownBlock]at hx;subst hx;exact⟨fun j=>A0.getD j nS,A0.size,fun j=>A0.getD j nS,⟨A0,hg,rfl,fun i hi=>by simp[hi]⟩,c9D _,fun j hj=>absurd hj (c9L j)⟩
theorem yM(f:Nat→Nat)(c i:Nat)(h:i<c):((List.range c).map fun k=>(f k:Int)).getD i 0=(f i:Int):=by
 simp[List.getD,h]
def qW(e:Ending)(P:Prop):Prop:= ∃y:Bool,e=.returned (.bool y)∧(y=true↔P)
theorem c4L{y:Bool}{P:Prop}(h:y=true↔P):qW (.returned (.bool y)) P:=⟨y,rfl,h⟩
theorem gL{P:Prop}(h:P):qW (.returned (.bool true)) P:=⟨true,rfl,⟨fun _=>h,fun _=>rfl⟩⟩
theorem cV{P:Prop}(h: ¬P):qW (.returned (.bool false)) P:=⟨false,rfl,⟨fun h=>absurd h (by decide),fun h'=>absurd h' h⟩⟩
theorem a8A(c:Nat)(f:Nat→Nat):(strOfNums ((List.range c).map fun k=>(f k:Int))).toList=(List.range c).map fun k=>UInt8.ofNat (f k):=by
 rw[Lib.strOfNums_toList];unfold Lib.bytesOf;rw[List.map_map];rfl
structure cF(w:World)(v:Value)(n:Nat)(f:Nat→Nat):Prop where
 bd:Bd f
 lies: ∃(A:Option Addr) (cap:Nat),v=.slice A n cap∧n≤cap∧cap≤maxLen∧ ∀i,i<n→ ∃b o,A=some (aD b o)∧w.cell? (aD b (o+i))=some (.int .u8 (f i:Nat))
theorem cF.below{w w':World}{v:Value}{n:Nat}{f:Nat→Nat}(h:cF w v n f)(hb:Bl w w'):cF w' v n f:=by
 obtain⟨bd,A,A0,hv,h1,h2,hc⟩:=h;refine⟨bd,A,A0,hv,h1,h2,fun i hi=>?_⟩;obtain⟨b,o,e1,e2⟩:=hc i hi;exact⟨b,o,e1,cB8 hb e2⟩
theorem cF.len{w:World}{v:Value}{n:Nat}{f:Nat→Nat}(h:cF w v n f):n≤9223372036854775807:=by
 obtain⟨_,A,A0,_,h1,h2,_⟩:=h;unfold maxLen at h2;omega
theorem cF.some{w:World}{v:Value}{n:Nat}{f:Nat→Nat}(h:cF w v n f)(hn:1≤n):
  ∃b o cap,v=.slice (some (aD b o)) n cap∧n≤cap∧cap≤9223372036854775807∧ ∀i,i<n→w.cell? (aD b (o+i))=some (.int .u8 (f i:Nat)):=by
 obtain⟨_,A,cap,hv,h1,h2,hc⟩:=h;obtain⟨b,o,rfl,_⟩:=hc 0 hn;refine⟨b,o,cap,hv,h1,by unfold maxLen at h2;exact h2,fun i hi=>?_⟩;obtain⟨b',o',e1,e2⟩:=hc i hi;cases e1
 exact e2
theorem cF.zero{w:World}{v:Value}{f:Nat→Nat}(h:cF w v 0 f): ∃A cap,v=.slice A 0 cap:=by
 obtain⟨_,A,cap,hv,_⟩:=h;exact⟨A,cap,hv⟩
theorem lN{w:World}{g n cap:Nat}{f:Nat→Nat}(hf:Bd f)(h:aY w g 5 n (fun j=> .int .u8 (f j:Nat)))(h1:n≤cap)(h2:cap≤maxLen):cF w (.slice (some (aD g 0)) n cap) n f:=
 ⟨hf,some (aD g 0),cap,rfl,h1,h2,fun i hi=>⟨g,0,rfl,by rw[c9G];exact h.cell hi⟩⟩
theorem c0K(A B:Nat)(h2:A<9223372036854775808)(h4:B<9223372036854775808):bits .or .i64 (A:Int) (B:Int)=((A|||B:Nat):Int):=by
 have hx:A|||B<2^63:=Nat.or_lt_two_pow (by omega) (by omega)
 show IntKind.i64.wrap ((BitVec.ofInt 64 (A:Int)|||BitVec.ofInt 64 (B:Int)).toNat:Int)=_;rw[BitVec.toNat_or,ofInt_u64 A (by omega),ofInt_u64 B (by omega),IntKind.wrap_i64];omega
theorem bdn{B:Nat}{a w:World}(h:Below B a w)(m:Nat):Below B a (w.drewN m):=⟨h.os,h.tape,h.output,h.size,h.block⟩
end Go.Proofs.YtmcaejooaaahdaaGreat
namespace Go.Proofs.YtmcaejooaaahdaaGreat.Gf
open Go.Proofs.Tryz
variable {C a b i j k p x:Nat} {r:List Nat} {u:Int} {w w':World}
def tx(a:Nat):Nat:=if a/128=0 then a*2%256 else(a*2%256)^^^29
theorem c6I(a:Nat):tx a<256:=by
 unfold tx;split
 ·omega
 ·exact d2A (n:=8) (by omega) (by omega)
def txk:Nat→Nat→Nat
 |0,a=>a
 |k+1,a=>tx (txk k a)
theorem xW(h:a<256):(k:Nat)→txk k a<256
 |0=>h
 |_+1=>c6I _
def sel(b k x:Nat):Nat:=if b/2^k%2=1 then x else 0
theorem c2B(b k:Nat)(h:x<256):sel b k x<256:=by
 unfold sel;split<;>omega
def gC(a b:Nat):Nat→Nat
 |0=>0
 |k+1=>gC a b k^^^sel b k (txk k a)
theorem yD(b:Nat)(h:a<256):(k:Nat)→gC a b k<256
 |0=>Nat.zero_lt_succ 255
 |k+1=>d2A (n:=8) (yD b h k) (c2B b k (xW h k))
def mul(a b:Nat):Nat:=gC a b 8
theorem dO(b:Nat)(h:a<256):mul a b<256:=yD b h 8
def txI(a:Int):Int:=(tx a.toNat:Nat)
def wM(k:Nat)(a:Int):Int:=(txk k a.toNat:Nat)
def iG(a b:Int)(k:Nat):Int:=(gC a.toNat b.toNat k:Nat)
def nZ(a b:Int):Int:=(mul a.toNat b.toNat:Nat)
theorem c2L(a:Int):0≤txI a∧txI a≤255:=by
 have:=c6I a.toNat;unfold txI;omega
theorem c4N(k:Nat)(a:Int)(h0:0≤a)(h1:a≤255):0≤wM k a∧wM k a≤255:=by
 have:=xW (a:=a.toNat) (by omega) k;unfold wM;omega
theorem gX(a:Int)(h0:0≤a):wM 0 a=a:=by
 unfold wM txk;omega
theorem jC(k:Nat)(a:Int):wM (k+1) a=txI (wM k a):=by
 unfold wM txI;rw[c9Q];rfl
theorem b7G(a b:Int)(k:Nat)(h0:0≤a)(h1:a≤255):0≤iG a b k∧iG a b k≤255:=by
 have:=yD (a:=a.toNat) b.toNat (by omega) k;unfold iG;omega
theorem b0K(a b:Int)(k:Nat)(hb:b.toNat/2^k%2=1):iG a b (k+1)=(((iG a b k).toNat^^^(wM k a).toNat:Nat):Int):=by
 unfold iG wM;rw[c9Q,c9Q];show((gC a.toNat b.toNat k^^^sel b.toNat k (txk k a.toNat):Nat):Int)=_;unfold sel;rw[if_pos hb]
theorem b5S(a b:Int)(k:Nat)(hb: ¬b.toNat/2^k%2=1):iG a b (k+1)=iG a b k:=by
 unfold iG;show((gC a.toNat b.toNat k^^^sel b.toNat k (txk k a.toNat):Nat):Int)=_;unfold sel;rw[if_neg hb,d0R]
def sqk:Nat→Nat→Nat
 |0,a=>a
 |k+1,a=>mul (sqk k a) (sqk k a)
theorem c3B(h:a<256):(k:Nat)→sqk k a<256
 |0=>h
 |k+1=>dO _ (c3B h k)
def jH(a n:Nat):Nat→Nat
 |0=>1
 |k+1=>if n/2^k%2=1 then mul (jH a n k) (sqk k a)else jH a n k
theorem mQ(a n:Nat):(k:Nat)→jH a n k<256
 |0=>Nat.lt_of_sub_pos (Nat.zero_lt_succ 254)
 |k+1=>by
  unfold jH
  split
  ·exact dO _ (mQ a n k)
  ·exact mQ a n k
def c2O(a n:Nat):Nat:=jH a n 8
theorem c1T(a n:Nat):c2O a n<256:=mQ a n 8
def fQ(k:Nat)(a:Int):Int:=(sqk k a.toNat:Nat)
def gN(a n:Int)(k:Nat):Int:=(jH a.toNat n.toNat k:Nat)
def mS(a n:Int):Int:=(c2O a.toNat n.toNat:Nat)
theorem b3N(k:Nat)(a:Int)(h0:0≤a)(h1:a≤255):0≤fQ k a∧fQ k a≤255:=by
 have:=c3B (a:=a.toNat) (by omega) k;unfold fQ;omega
theorem b6D(a:Int)(h0:0≤a):fQ 0 a=a:=by
 unfold fQ sqk;omega
theorem b7B(k:Nat)(a:Int):fQ (k+1) a=nZ (fQ k a) (fQ k a):=by
 unfold fQ nZ;rw[c9Q];rfl
theorem a6R(a n:Int)(k:Nat):0≤gN a n k∧gN a n k≤255:=by
 have:=mQ a.toNat n.toNat k;unfold gN;omega
theorem a4Y(a n:Int)(k:Nat)(h:n.toNat/2^k%2=1):gN a n (k+1)=nZ (gN a n k) (fQ k a):=by
 unfold gN nZ fQ;rw[c9Q,c9Q];show((if n.toNat/2^k%2=1 then mul (jH a.toNat n.toNat k) (sqk k a.toNat)else jH a.toNat n.toNat k:Nat):Int)=_;rw[if_pos h]
theorem a6P(a n:Int)(k:Nat)(h: ¬n.toNat/2^k%2=1):gN a n (k+1)=gN a n k:=by
 unfold gN;show((if n.toNat/2^k%2=1 then mul (jH a.toNat n.toNat k) (sqk k a.toNat)else jH a.toNat n.toNat k:Nat):Int)=_;rw[if_neg h]
end Go.Proofs.YtmcaejooaaahdaaGreat.Gf
