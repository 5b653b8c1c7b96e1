import Derived.Test.YtmcaejooaaahdaaGreatRows
import Derived.WalkKit
import Derived.WalkSpells
import Derived.Shelf.Abstract
import Derived.Deep.OwnRows
set_option maxHeartbeats 8000000
set_option maxRecDepth 100000
namespace Go.Proofs.YtmcaejooaaahdaaGreat
open Go.Proofs.Tryz
variable {a:Nat}
open Go.RowKit
abbrev iV(x:Int):Value:=.int .i64 x
abbrev c9C:=@Nat.le_refl
abbrev c9D:=@Nat.zero_le
abbrev c9E:=@Nat.le_trans
abbrev c9F:=@List.getElem?_eq_getElem
abbrev c9G:=@Nat.zero_add
abbrev c9H:=@List.getElem?_eq_some_iff
abbrev c9I:=@List.length_append
abbrev c9J:=@Option.map_eq_some_iff
abbrev c9K:=@List.length_take
abbrev c9L:=@Nat.not_lt_zero
abbrev c9M:=@List.length_map
abbrev c9N:=@List.mem_of_getElem?
abbrev c9O:=@Nat.le_succ
abbrev c9P:=@Nat.lt_of_lt_of_le
abbrev c9Q:=@Int.toNat_natCast
abbrev c9R:=@List.getD_eq_getElem?_getD
abbrev c9S:=@List.getElem?_map
abbrev c9T:=@List.mem_cons
abbrev c9U:=@List.map_append
abbrev c9V:=@Nat.xor_self
abbrev c9W:=@List.mem_cons_self
abbrev c9X:=@List.append_assoc
abbrev c9Y:=@List.mem_cons_of_mem
abbrev c9Z:=@List.getElem?_eq_none
abbrev d0A:=@List.length_drop
abbrev d0B:=@List.length_set
abbrev d0C:=@List.getElem?_take
abbrev d0D:=@List.mem_range
abbrev d0E:=@List.length_cons
abbrev d0F:=@Nat.succ_mul
abbrev d0G:=@List.mem_map
abbrev d0H:=@List.flatMap_append
abbrev d0I:=@Int.eq_ofNat_of_zero_le
abbrev d0J:=@List.getElem?_drop
abbrev d0K:=@List.flatMap_cons
abbrev d0L:=@List.take_length
abbrev d0M:=@List.getElem?_append_left
abbrev d0N:=@List.eq_nil_of_length_eq_zero
abbrev d0O:=@List.getElem?_set_self
abbrev d0P:=@List.getElem?_set_ne
abbrev d0Q:=@List.size_toArray
abbrev d0R:=@Nat.xor_zero
abbrev d0S:=@List.getElem?_append_right
abbrev d0T:=@List.drop_length
abbrev d0U:=@List.mem_append
abbrev d0V:=@Nat.lt_irrefl
abbrev d0W:=@List.append_nil
abbrev d0X:=@Nat.add_zero
abbrev d0Y:=@Nat.mul_le_mul
abbrev d0Z:=@List.mem_filter
abbrev d1A:=@List.pairwise_cons
abbrev d1B:=@Array.length_toList
abbrev d1C:=@List.nil_append
abbrev d1D:=@Nat.xor_assoc
abbrev d1E:=@List.length_range
abbrev d1F:=@Nat.lt_succ_self
abbrev d1G:=@List.range_succ
abbrev d1H:=@List.map_congr_left
abbrev d1I:=@List.ext_getElem?
abbrev d1J:=@Nat.mul_le_mul_right
abbrev d1K:=@List.mem_iff_getElem?
abbrev d1L:=@Nat.sub_self
abbrev d1M:=@Array.getElem?_eq_some_iff
abbrev d1N:=@List.filter_cons_of_neg
abbrev d1O:=@List.filter_append
abbrev d1P:=@List.mem_iff_getElem
abbrev d1Q:=@Int.le_refl
abbrev d1R:=@List.map_cons
abbrev d1S:=@List.mem_of_mem_drop
abbrev d1T:=@Nat.min_def
abbrev d1U:=@Nat.mul_zero
abbrev d1V:=@Nat.lt_or_ge
abbrev d1W:=@List.filter_cons_of_pos
abbrev d1X:=@Nat.mul_one
abbrev d1Y:=@List.take_add_one
abbrev d1Z:=@List.mem_singleton
abbrev d2A:=@Nat.xor_lt_two_pow
abbrev d2B:=@Nat.le_of_lt
abbrev d2C:=@ByteArray.toList_eq
abbrev d2D:=@List.not_mem_nil
abbrev d2E:=@List.drop_zero
abbrev d2F:=@List.take_zero
abbrev d2G:=@Nat.add_sub_cancel_left
abbrev d2H:=@List.mem_flatMap
abbrev d2I:=@List.take_left'
abbrev d2J:=@Decidable.not_not
abbrev d2K:=@Array.size_push
abbrev d2L:=@List.drop_eq_getElem_cons
abbrev d2M:=@Array.toList_append
abbrev d2N:=@Nat.add_sub_cancel
abbrev d2O:=@List.length_nil
abbrev d2P:=@List.length_filter_le
abbrev d2Q:=@List.take_append_drop
abbrev d2R:=@Array.size_append
abbrev d2S:=@List.filter_eq_self
abbrev d2T:=@List.mem_of_mem_take
abbrev d2U:=@Nat.pow_le_pow_right
abbrev d2V:=@List.mem_or_eq_of_mem_set
abbrev d2W:=@List.drop_succ_cons
abbrev d2X:=@List.eq_of_mem_replicate
abbrev d2Y:=@List.pairwise_iff_getElem
abbrev d2Z:=@Array.getElem?_eq_getElem
abbrev nS:Value:=.slice none 0 0
abbrev aD(b o:Nat):Addr:=⟨b,o,none⟩
abbrev Bl(a b:World):Prop:=Below a.heap.size a b
theorem aB8(w:World)(o:Obj):Below w.heap.size w (w.alloc o):=(Below.refl _ _).alloc (c9C _) _
theorem cB8{w w':World}{p:Addr}{u:Value}(h:Below w.heap.size w w')(c:w.cell? p=some u):w'.cell? p=some u:=(h.cell (p:=p) (World.block_lt_of_cell? _ _ c)).trans c
theorem hd8{p:Prop}(h:p):Hid p:=h
theorem mL8{C:Nat}(h:C≤maxLen):C≤9223372036854775807:=h
end Go.Proofs.YtmcaejooaaahdaaGreat
namespace Go.Proofs.YtmcaejooaaahdaaGreat.Gf
open Go.Proofs.Tryz
variable {a:Nat}
def tx(a:Nat):Nat:=if a/128=0 then a*2%256 else(a*2%256)^^^29
theorem c6I(a:Nat):tx a<256:=by
 unfold tx;split
 ·omega
 ·exact d2A (n:=8) (by omega) (by omega)
def txk:Nat→Nat→Nat
 |0,a=>a
 |k+1,a=>tx (txk k a)
theorem zI(h:a<256):(k:Nat)→txk k a<256
 |0=>h
 |_+1=>c6I _
def sel(b k x:Nat):Nat:=if b/2^k%2=1 then x else 0
theorem b9M{x:Nat}(b k:Nat)(h:x<256):sel b k x<256:=by
 unfold sel;split<;>omega
def gD(a b:Nat):Nat→Nat
 |0=>0
 |k+1=>gD a b k^^^sel b k (txk k a)
theorem yN(b:Nat)(h:a<256):(k:Nat)→gD a b k<256
 |0=>Nat.zero_lt_succ 255
 |k+1=>d2A (n:=8) (yN b h k) (b9M b k (zI h k))
def mul(a b:Nat):Nat:=gD a b 8
theorem dN(b:Nat)(h:a<256):mul a b<256:=yN b h 8
def txI(a:Int):Int:=(tx a.toNat:Nat)
def wK(k:Nat)(a:Int):Int:=(txk k a.toNat:Nat)
def iP(a b:Int)(k:Nat):Int:=(gD a.toNat b.toNat k:Nat)
def nX(a b:Int):Int:=(mul a.toNat b.toNat:Nat)
theorem c1G(a:Int):0≤txI a∧txI a≤255:=by
 have:=c6I a.toNat;unfold txI;omega
theorem c5T(k:Nat)(a:Int)(h0:0≤a)(h1:a≤255):0≤wK k a∧wK k a≤255:=by
 have:=zI (a:=a.toNat) (by omega) k;unfold wK;omega
theorem gZ(a:Int)(h0:0≤a):wK 0 a=a:=by
 unfold wK txk;omega
theorem jA(k:Nat)(a:Int):wK (k+1) a=txI (wK k a):=by
 unfold wK txI;rw[c9Q];rfl
theorem b6B(a b:Int)(k:Nat)(h0:0≤a)(h1:a≤255):0≤iP a b k∧iP a b k≤255:=by
 have:=yN (a:=a.toNat) b.toNat (by omega) k;unfold iP;omega
theorem b0N(a b:Int)(k:Nat)(hb:b.toNat/2^k%2=1):iP a b (k+1)=(((iP a b k).toNat^^^(wK k a).toNat:Nat):Int):=by
 unfold iP wK;rw[c9Q,c9Q];show((gD a.toNat b.toNat k^^^sel b.toNat k (txk k a.toNat):Nat):Int)=_;unfold sel;rw[if_pos hb]
theorem b6V(a b:Int)(k:Nat)(hb: ¬b.toNat/2^k%2=1):iP a b (k+1)=iP a b k:=by
 unfold iP;show((gD a.toNat b.toNat k^^^sel b.toNat k (txk k a.toNat):Nat):Int)=_;unfold sel;rw[if_neg hb,d0R]
def sqk:Nat→Nat→Nat
 |0,a=>a
 |k+1,a=>mul (sqk k a) (sqk k a)
theorem c1F(h:a<256):(k:Nat)→sqk k a<256
 |0=>h
 |k+1=>dN _ (c1F h k)
def jL(a n:Nat):Nat→Nat
 |0=>1
 |k+1=>if n/2^k%2=1 then mul (jL a n k) (sqk k a)else jL a n k
theorem nO(a n:Nat):(k:Nat)→jL a n k<256
 |0=>Nat.lt_of_sub_pos (Nat.zero_lt_succ 254)
 |k+1=>by
  unfold jL
  split
  ·exact dN _ (nO a n k)
  ·exact nO a n k
def b8V(a n:Nat):Nat:=jL a n 8
theorem c2W(a n:Nat):b8V a n<256:=nO a n 8
def fQ(k:Nat)(a:Int):Int:=(sqk k a.toNat:Nat)
def gO(a n:Int)(k:Nat):Int:=(jL a.toNat n.toNat k:Nat)
def nJ(a n:Int):Int:=(b8V a.toNat n.toNat:Nat)
theorem b4E(k:Nat)(a:Int)(h0:0≤a)(h1:a≤255):0≤fQ k a∧fQ k a≤255:=by
 have:=c1F (a:=a.toNat) (by omega) k;unfold fQ;omega
theorem b8C(a:Int)(h0:0≤a):fQ 0 a=a:=by
 unfold fQ sqk;omega
theorem b7D(k:Nat)(a:Int):fQ (k+1) a=nX (fQ k a) (fQ k a):=by
 unfold fQ nX;rw[c9Q];rfl
theorem a7A(a n:Int)(k:Nat):0≤gO a n k∧gO a n k≤255:=by
 have:=nO a.toNat n.toNat k;unfold gO;omega
theorem a5B(a n:Int)(k:Nat)(h:n.toNat/2^k%2=1):gO a n (k+1)=nX (gO a n k) (fQ k a):=by
 unfold gO nX fQ;rw[c9Q,c9Q];show((if n.toNat/2^k%2=1 then mul (jL a.toNat n.toNat k) (sqk k a.toNat)else jL a.toNat n.toNat k:Nat):Int)=_;rw[if_pos h]
theorem a7W(a n:Int)(k:Nat)(h: ¬n.toNat/2^k%2=1):gO a n (k+1)=gO a n k:=by
 unfold gO;show((if n.toNat/2^k%2=1 then mul (jL a.toNat n.toNat k) (sqk k a.toNat)else jL a.toNat n.toNat k:Nat):Int)=_;rw[if_neg h]
end Go.Proofs.YtmcaejooaaahdaaGreat.Gf
