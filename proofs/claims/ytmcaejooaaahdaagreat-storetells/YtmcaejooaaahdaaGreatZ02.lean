import Derived.Test.YtmcaejooaaahdaaGreatZ01
set_option maxHeartbeats 8000000
set_option maxRecDepth 100000
namespace Go.Proofs.YtmcaejooaaahdaaGreat
open Go.Proofs.Tryz
variable {B M N a b c g i j k n o p x:Nat} {D' S:Nat→Prop} {G K L g':Nat→Nat} {f:Nat→Nat→Nat} {t:TypeId} {v:Value} {w w':World}
open Go.RowKit
theorem a4E(n:Int)(k:Nat)(h0:0≤n):(n/2^k).toNat=n.toNat/2^k:=by
 obtain⟨m,rfl⟩:=d0I h0;have e:((2:Int)^k)=((2^k:Nat):Int):=by simp
 rw[e,←Int.natCast_ediv,c9Q,c9Q]
theorem b2L(n:Int)(k:Nat)(h0:0≤n):0≤n/2^k∧n/2^k≤n:=
 ⟨Int.ediv_nonneg h0 (Int.pow_nonneg (by decide)),Int.ediv_le_self _ h0⟩
theorem a5D(b:Int)(k:Nat)(g0:0≤b)(g1:b≤255):(bits .and .u8 (b/2^k) 1==1)=decide (b.toNat/2^k%2=1):=by
 have hd:=b2L b k g0;rw[u8_and _ _ hd.1 (by omega) (by decide) (by decide),a4E b k g0,show(1:Int).toNat=1 from rfl,nat_mask1];generalize b.toNat/2^k%2=m;rw[Bool.eq_iff_iff,beq_iff_eq,decide_eq_true_iff];omega
theorem c6X(a:Int)(w:World)(h0:0≤a)(h1:a≤255):
  Calls prog 186 #[.int .u8 a] w fun e w'=>e=.returned (.int .u8 (Gf.txI a))∧w'=w:=by
 go_enter func186,ntmps186
 go_wp2
 ·have hz:(a/128==0)=true:=by assumption
  go_ret
  refine⟨aH (?_:a*2%256=_),rfl⟩;have A0:a/128=0:=by simpa using hz
  unfold Gf.txI Gf.tx;rw[if_pos (by omega)];omega
 ·have hz:(a/128==0)=false:=by assumption
  go_ret
  refine⟨aH (?_:bits BinOp.xor IntKind.u8 (a*2%256) 29=_),rfl⟩;have A0: ¬a/128=0:=by simpa using hz
  rw[u8_xor _ _ (by omega) (by omega) (by omega) (by omega)];unfold Gf.txI Gf.tx;rw[if_neg (by omega),show(a*2%256).toNat=a.toNat*2%256 by omega];rfl
theorem c2J(a:Int)(w:World)(h0:0≤a)(h1:a≤255):
  Calls prog 179 #[.int .u8 a] w fun e w'=>e=.returned (.agg #[.int .u8 a,.int .u8 (Gf.txI a),.int .u8 (Gf.txI (Gf.txI a)),.int .u8 (Gf.txI (Gf.txI (Gf.txI a))),.int .u8 (Gf.txI (Gf.txI (Gf.txI (Gf.txI a)))),.int .u8 (Gf.txI (Gf.txI (Gf.txI (Gf.txI (Gf.txI a))))),.int .u8 (Gf.txI (Gf.txI (Gf.txI (Gf.txI (Gf.txI (Gf.txI a)))))),.int .u8 (Gf.txI (Gf.txI (Gf.txI (Gf.txI (Gf.txI (Gf.txI (Gf.txI a)))))))])∧Bl w w':=by
 go_enter func179,ntmps179
 go_wp2
 refine wp_loop_rounds 9 ?_;iterate 8
  rw[rounds_succ];go_wp2_with fail;refine(c6X _ _ ?_ ?_).mono ?_
  ·first|assumption|exact(Gf.c2L _).1
  ·first|assumption|exact(Gf.c2L _).2
  rintro e w' ⟨rfl,rfl⟩;go_wp2_with fail
 rw[rounds_succ];go_wp2_with fail;exact bodyPost_ret (v:=.agg #[.int .u8 a,.int .u8 (Gf.txI a),.int .u8 (Gf.txI (Gf.txI a)),.int .u8 (Gf.txI (Gf.txI (Gf.txI a))),.int .u8 (Gf.txI (Gf.txI (Gf.txI (Gf.txI a)))),.int .u8 (Gf.txI (Gf.txI (Gf.txI (Gf.txI (Gf.txI a))))),.int .u8 (Gf.txI (Gf.txI (Gf.txI (Gf.txI (Gf.txI (Gf.txI a)))))),.int .u8 (Gf.txI (Gf.txI (Gf.txI (Gf.txI (Gf.txI (Gf.txI (Gf.txI a)))))))]) (by simp[results,results179,go_sem]) rfl ⟨rfl,(aB8 _ _).alloc (by simp) _⟩
theorem b8S(a:Int)(w:World)(h0:0≤a)(k:Nat)(hk:k<8):
  (w.alloc (.cells #[.int .u8 a,.int .u8 (Gf.txI a),.int .u8 (Gf.txI (Gf.txI a)),.int .u8 (Gf.txI (Gf.txI (Gf.txI a))),.int .u8 (Gf.txI (Gf.txI (Gf.txI (Gf.txI a)))),.int .u8 (Gf.txI (Gf.txI (Gf.txI (Gf.txI (Gf.txI a))))),.int .u8 (Gf.txI (Gf.txI (Gf.txI (Gf.txI (Gf.txI (Gf.txI a)))))),.int .u8 (Gf.txI (Gf.txI (Gf.txI (Gf.txI (Gf.txI (Gf.txI (Gf.txI a)))))))] 212)).cell? (aD w.heap.size k)=some (.int .u8 (Gf.wM k a)):=by
 rw[cell_of_row _ _ k _ 212 (0,0) (heap_alloc_new w _)];match k,hk with
 |0,_=>simp[Gf.gX a h0]
 |1,_=>simp[Gf.jC,Gf.gX a h0]
 |2,_=>simp[Gf.jC,Gf.gX a h0]
 |3,_=>simp[Gf.jC,Gf.gX a h0]
 |4,_=>simp[Gf.jC,Gf.gX a h0]
 |5,_=>simp[Gf.jC,Gf.gX a h0]
 |6,_=>simp[Gf.jC,Gf.gX a h0]
 |7,_=>simp[Gf.jC,Gf.gX a h0]
theorem b7A(a b:Int)(k:Nat)(h0:0≤a)(h1:a≤255)(g0:0≤b)(g1:b≤255)(h:(bits .and .u8 (b/2^k) 1==1)=true):
  bits .xor .u8 (Gf.iG a b k) (Gf.wM k a)=Gf.iG a b (k+1):=by
 rw[a5D b k g0 g1]at h;have m:=Gf.b7G a b k h0 h1;have t:=Gf.c4N k a h0 h1;rw[u8_xor _ _ m.1 (by omega) t.1 (by omega),Gf.b0K a b k (of_decide_eq_true h)]
theorem c1M(a b:Int)(k:Nat)(g0:0≤b)(g1:b≤255)(h:(bits .and .u8 (b/2^k) 1==1)=false):
  Gf.iG a b k=Gf.iG a b (k+1):=by
 rw[a5D b k g0 g1]at h;rw[Gf.b5S a b k (of_decide_eq_false h)]
theorem a4B(a b:Int)(w:World)(h0:0≤a)(h1:a≤255)(g0:0≤b)(g1:b≤255):
  Calls prog 164 #[.int .u8 a,.int .u8 b] w fun e w'=>e=.returned (.int .u8 (Gf.nZ a b))∧Bl w w':=by
 go_enter func164,ntmps164
 go_wp2_with fail;refine(c2J a _ h0 h1).mono ?_;rintro e w1 ⟨rfl,hb⟩;go_wp2_with fail;have A0:=b8S a w1 h0;go_loop [6,10] (fun s i=> ∃k:Nat,k≤8∧i=iV k∧s=.int .u8 (Gf.iG a b k)) (fun _ i=>8-(intOf i).toNat)
 case atStart=>exact⟨0,c9D _,rfl,rfl⟩
 case round=>
  obtain⟨k,hk,rfl,rfl⟩:=hrel;by_cases A1:k<8
  ·have hc:=A0 k A1;clear A0;go_wp2
   ·have hy:(bits BinOp.and IntKind.u8 (b/2^k) 1==1)=true:=by assumption
    exact⟨⟨k+1,by omega,by go_num,cA (b7A a b k h0 h1 g0 g1 hy)⟩,by simp[intOf];omega⟩
   ·have hy:(bits BinOp.and IntKind.u8 (b/2^k) 1==1)=false:=by assumption
    exact⟨⟨k+1,by omega,by go_num,cA (c1M a b k g0 g1 hy)⟩,by simp[intOf];omega⟩
  ·clear A0;have e8:k=8:=by omega
   subst e8;go_wp2
   go_ret
   exact⟨rfl,hb.alloc hb.size _⟩
def Row(w:World)(g:Nat)(f:Nat→Int):Prop:=
 w.heap[g]?=some (.cells #[.int .u8 (f 0),.int .u8 (f 1),.int .u8 (f 2),.int .u8 (f 3),.int .u8 (f 4),.int .u8 (f 5),.int .u8 (f 6),.int .u8 (f 7)] 212)
theorem Row.cell{f:Nat→Int}(h:Row w g f)(k:Nat)(hk:k<8):w.cell? (aD g k)=some (.int .u8 (f k)):=by
 rw[cell_of_row _ _ k _ 212 (0,0) h];match k,hk with
 |0,_=>rfl
 |1,_=>rfl
 |2,_=>rfl
 |3,_=>rfl
 |4,_=>rfl
 |5,_=>rfl
 |6,_=>rfl
 |7,_=>rfl
theorem Row.frozen{f:Nat→Int}(h:Row w g f)(k:Nat):w.frozen? (aD g k)=false:=frozen_of_row w g k _ 212 h
theorem Row.lt{f:Nat→Int}(h:Row w g f):g<w.heap.size:=by
 unfold Row at h;exact(d1M.1 h).1
theorem Row.below{f:Nat→Int}(h:Row w g f)(hb:Below B w w')(hg:g<B):Row w' g f:=by
 unfold Row;rw[hb.block g hg];exact h
theorem Row.other{f:Nat→Int}(h:Row w g f)(a:Addr)(v:Value)(hg:g≠a.block):Row (w.setCell a v) g f:=by
 unfold Row;rw[heap_setCell_other w a g v hg];exact h
theorem Row.put{f f':Nat→Int}(h:Row w g f)(k:Nat)(hk:k<8)(x:Int)(hx:f' k=x)(ho: ∀j,j≠k→f' j=f j):Row (w.setCell (aD g k) (.int .u8 x)) g f':=by
 unfold Row;rw[heap_setCell_same w g k _ 212 _ h,←hx];match k,hk with
 |0,_=>rw[ho 1 (by decide),ho 2 (by decide),ho 3 (by decide),ho 4 (by decide),ho 5 (by decide),ho 6 (by decide),ho 7 (by decide)];rfl
 |1,_=>rw[ho 0 (by decide),ho 2 (by decide),ho 3 (by decide),ho 4 (by decide),ho 5 (by decide),ho 6 (by decide),ho 7 (by decide)];rfl
 |2,_=>rw[ho 1 (by decide),ho 0 (by decide),ho 3 (by decide),ho 4 (by decide),ho 5 (by decide),ho 6 (by decide),ho 7 (by decide)];rfl
 |3,_=>rw[ho 1 (by decide),ho 2 (by decide),ho 0 (by decide),ho 4 (by decide),ho 5 (by decide),ho 6 (by decide),ho 7 (by decide)];rfl
 |4,_=>rw[ho 1 (by decide),ho 2 (by decide),ho 3 (by decide),ho 0 (by decide),ho 5 (by decide),ho 6 (by decide),ho 7 (by decide)];rfl
 |5,_=>rw[ho 1 (by decide),ho 2 (by decide),ho 3 (by decide),ho 4 (by decide),ho 0 (by decide),ho 6 (by decide),ho 7 (by decide)];rfl
 |6,_=>rw[ho 1 (by decide),ho 2 (by decide),ho 3 (by decide),ho 4 (by decide),ho 5 (by decide),ho 0 (by decide),ho 7 (by decide)];rfl
 |7,_=>rw[ho 1 (by decide),ho 2 (by decide),ho 3 (by decide),ho 4 (by decide),ho 5 (by decide),ho 6 (by decide),ho 0 (by decide)];rfl
def a7J(a:Int)(k:Nat)(j:Nat):Int:=if j<k then Gf.fQ j a else 0
theorem b5T(a:Int)(k:Nat):a7J a (k+1) k=Gf.fQ k a:=by
 unfold a7J;rw[if_pos (by omega)]
theorem b5L(a:Int)(k j:Nat)(h:j≠k):a7J a (k+1) j=a7J a k j:=by
 unfold a7J;by_cases hj:j<k
 ·rw[if_pos (by omega),if_pos hj]
 ·rw[if_neg (by omega),if_neg hj]
theorem b2T(w:World)(a:Int):
  Row ((w.alloc (.cells #[.int .u8 0,.int .u8 0,.int .u8 0,.int .u8 0,.int .u8 0,.int .u8 0,.int .u8 0,.int .u8 0] 212)).alloc (.cells #[.int .u8 0,.int .u8 0,.int .u8 0,.int .u8 0,.int .u8 0,.int .u8 0,.int .u8 0,.int .u8 0] 212)) w.heap.size (fun _=>0)∧
  Row ((w.alloc (.cells #[.int .u8 0,.int .u8 0,.int .u8 0,.int .u8 0,.int .u8 0,.int .u8 0,.int .u8 0,.int .u8 0] 212)).alloc (.cells #[.int .u8 0,.int .u8 0,.int .u8 0,.int .u8 0,.int .u8 0,.int .u8 0,.int .u8 0,.int .u8 0] 212)) (w.heap.size+1) (a7J a 0):=
 ⟨heap_alloc2_old w _ _,heap_alloc2_new w _ _⟩
theorem c6R(a:Int)(w:World)(h0:0≤a)(h1:a≤255):
  Calls prog 187 #[.int .u8 a] w fun e w'=>e=.returned (.agg #[.int .u8 (Gf.fQ 0 a),.int .u8 (Gf.fQ 1 a),.int .u8 (Gf.fQ 2 a),.int .u8 (Gf.fQ 3 a),.int .u8 (Gf.fQ 4 a),.int .u8 (Gf.fQ 5 a),.int .u8 (Gf.fQ 6 a),.int .u8 (Gf.fQ 7 a)])∧Bl w w':=by
 go_enter func187,ntmps187
 go_wp2
 go_loopw [0,5] (fun x i wr=> ∃k:Nat,k≤8∧i=iV k∧x=.int .u8 (Gf.fQ k a)∧Row wr w.heap.size (fun _=>0)∧Row wr (w.heap.size+1) (a7J a k)∧Bl w wr) (fun _ i _=>8-(intOf i).toNat)
 case atStart=>exact⟨0,c9D _,rfl,cA (Gf.b6D a h0).symm,(b2T w a).1,(b2T w a).2,(aB8 _ _).alloc (by simp) _⟩
 case round=>
  obtain⟨k,hk,rfl,rfl,A1,A0,hb⟩:=hrel;have hs:=Gf.b3N k a h0 h1;by_cases A3:k<8
  ·have hc:=A0.cell k A3;have hf:=A0.frozen k;go_wp2_with fail;refine(a4B _ _ _ hs.1 hs.2 hs.1 hs.2).mono ?_;rintro e w1 ⟨rfl,A2⟩;go_wp2_with fail;have A4:=A1.lt;have A5:=A0.lt;have q0:=(A1.other (aD (w.heap.size+1) k) (.int .u8 (Gf.fQ k a)) (by simp)).below A2 (by simpa using A4);have q1:=(A0.put k A3 (Gf.fQ k a) (b5T a k) (b5L a k)).below A2 (by simpa using A5);have qb:=(hb.setCell (p:=⟨w.heap.size+1,k,none⟩) (c9O _) (.int .u8 (Gf.fQ k a))).trans (A2.mono (by simp;omega));exact⟨⟨k+1,by omega,by go_num,cA (Gf.b7B k a).symm,q0,q1,qb⟩,by simp[intOf];omega⟩
  ·have e8:k=8:=by omega
   subst e8;have c0:=A0.cell 0 (by decide);have c1:=A0.cell 1 (by decide);have c2:=A0.cell 2 (by decide);have c3:=A0.cell 3 (by decide);have c4:=A0.cell 4 (by decide);have c5:=A0.cell 5 (by decide);have c6:=A0.cell 6 (by decide);have c7:=A0.cell 7 (by decide);simp only[a7J,Nat.reduceLT,if_true]at c0 c1 c2 c3 c4 c5 c6 c7;have d0:=A1.cell 0 (by decide);have d1:=A1.cell 1 (by decide);have d2:=A1.cell 2 (by decide);have d3:=A1.cell 3 (by decide);have d4:=A1.cell 4 (by decide);have d5:=A1.cell 5 (by decide);have d6:=A1.cell 6 (by decide);have d7:=A1.cell 7 (by decide);have f0:=A1.frozen;clear A1 A0;go_wp2
   exact bodyPost_ret (v:=.agg #[.int .u8 (Gf.fQ 0 a),.int .u8 (Gf.fQ 1 a),.int .u8 (Gf.fQ 2 a),.int .u8 (Gf.fQ 3 a),.int .u8 (Gf.fQ 4 a),.int .u8 (Gf.fQ 5 a),.int .u8 (Gf.fQ 6 a),.int .u8 (Gf.fQ 7 a)]) (by simp[results,results187,go_sem,d0,d1,d2,d3,d4,d5,d6,d7]) rfl
    ⟨rfl,(((((((hb.setCell (c9C _) _).setCell (c9C _) _).setCell (c9C _) _).setCell (c9C _) _).setCell (c9C _) _).setCell (c9C _) _).setCell (c9C _) _).setCell (c9C _) _⟩
theorem b4I(a b:Int)(h1:0≤a)(h2:a<9223372036854775808)(h3:0≤b)(h4:b<9223372036854775808):bits .and .i64 a b=((a.toNat&&&b.toNat:Nat):Int):=by
 obtain⟨A,rfl⟩:=d0I h1;obtain⟨B,rfl⟩:=d0I h3;have hx:A&&&B<2^63:=Nat.and_lt_two_pow _ (by omega);show IntKind.i64.wrap ((BitVec.ofInt 64 (A:Int)&&&BitVec.ofInt 64 (B:Int)).toNat:Int)=_;rw[BitVec.toNat_and,ofInt_u64 A (by omega),ofInt_u64 B (by omega),IntKind.wrap_i64,c9Q,c9Q];omega
theorem b3X(b:Int)(k:Nat)(g0:0≤b)(g1:b≤255):(bits .and .i64 (b/2^k) 1==1)=decide (b.toNat/2^k%2=1):=by
 have hd:=b2L b k g0;rw[b4I _ _ hd.1 (by omega) (by decide) (by decide),a4E b k g0,show(1:Int).toNat=1 from rfl,nat_mask1];generalize b.toNat/2^k%2=m;rw[Bool.eq_iff_iff,beq_iff_eq,decide_eq_true_iff];omega
theorem c3W(w:World)(f:Nat→Int):
  Row (w.alloc (.cells #[.int .u8 (f 0),.int .u8 (f 1),.int .u8 (f 2),.int .u8 (f 3),.int .u8 (f 4),.int .u8 (f 5),.int .u8 (f 6),.int .u8 (f 7)] 212)) w.heap.size f:=
 heap_alloc_new w _
theorem b6F(a n:Int)(w:World)(h0:0≤a)(h1:a≤255)(g0:0≤n)(g1:n≤255):
  Calls prog 185 #[.int .u8 a,iV n] w fun e w'=>e=.returned (.int .u8 (Gf.mS a n))∧Bl w w':=by
 go_enter func185,ntmps185
 go_wp2_with fail;refine(c6R a _ h0 h1).mono ?_;rintro e w1 ⟨rfl,hb⟩;go_wp2_with fail;go_loopw [6,10] (fun s i wr=> ∃k:Nat,k≤8∧i=iV k∧s=.int .u8 (Gf.gN a n k)∧Row wr w1.heap.size (fun j=>Gf.fQ j a)∧Bl w wr) (fun _ i _=>8-(intOf i).toNat)
 case atStart=>exact⟨0,c9D _,rfl,rfl,c3W w1 (fun j=>Gf.fQ j a),hb.alloc hb.size _⟩
 case round=>
  obtain⟨k,hk,rfl,rfl,hr,A2⟩:=hrel;have hs:=Gf.b3N k a h0 h1;have hp:=Gf.a6R a n k;by_cases A4:k<8
  ·have hc:=hr.cell k A4;have hl:=hr.lt;by_cases A0:(bits BinOp.and IntKind.i64 (n/2^k) 1==1)=true
   ·have hy:n.toNat/2^k%2=1:=by
     rw[b3X n k g0 g1]at A0;exact of_decide_eq_true A0
    have HY:=hd8 hy;clear hy;go_wp2_with fail;refine(a4B _ _ _ hp.1 hp.2 hs.1 hs.2).mono ?_;rintro e w2 ⟨rfl,A3⟩;go_wp2_with fail;exact⟨⟨k+1,by omega,by go_num,cA (Gf.a4Y a n k HY.out).symm,hr.below A3 hl,A2.trans (A3.mono A2.size)⟩,by simp[intOf];omega⟩
   ·have A1:(bits BinOp.and IntKind.i64 (n/2^k) 1==1)=false:=by simpa using A0
    have hy: ¬n.toNat/2^k%2=1:=by
     rw[b3X n k g0 g1]at A1;exact of_decide_eq_false A1
    have HY:=hd8 hy;clear hy A0;go_wp2_with fail;exact⟨⟨k+1,by omega,by go_num,cA (Gf.a6P a n k HY.out).symm,hr,A2⟩,by simp[intOf];omega⟩
  ·have e8:k=8:=by omega
   subst e8;go_wp2
   go_ret
   exact⟨rfl,A2⟩
theorem c5V(a:Int)(w:World)(h0:0≤a)(h1:a≤255):
  Calls prog 177 #[.int .u8 a] w fun e w'=>e=.returned (.int .u8 (Gf.mS a 254))∧Bl w w':=by
 go_enter func177,ntmps177
 go_wp2_with fail;refine(b6F _ _ _ h0 h1 (by decide) (by decide)).mono ?_;rintro e w1 ⟨rfl,hb⟩;go_wp2_with fail;go_ret
 exact⟨rfl,hb⟩
end Go.Proofs.YtmcaejooaaahdaaGreat
namespace Go.Proofs.YtmcaejooaaahdaaGreat.Gf
open Go.Proofs.Tryz
variable {B M N a b c g i j k n o p x:Nat} {D' S:Nat→Prop} {G K L g':Nat→Nat} {f:Nat→Nat→Nat} {t:TypeId} {v:Value} {w w':World}
def b8Z(n:Nat)(p:Nat→Bool):Bool:=(List.range n).all p
theorem a3W{p:Nat→Bool}(h:b8Z n p=true)(a:Nat)(ha:a<n):p a=true:=by
 unfold b8Z at h;rw[List.all_eq_true]at h;exact h a (d0D.2 ha)
theorem fE(ha:a<256)(hb:b<256):a^^^b<256:=d2A (n:=8) ha hb
theorem gH(a b c d:Nat):(a^^^b)^^^(c^^^d)=(a^^^c)^^^(b^^^d):=by
 rw[d1D,d1D,←d1D b c d,Nat.xor_comm b c,d1D c b d]
theorem b4B(c k x y:Nat):sel c k (x^^^y)=sel c k x^^^sel c k y:=by
 unfold sel;split
 ·rfl
 ·rw[d0R]
theorem xI(b c k x:Nat):sel (b^^^c) k x=sel b k x^^^sel c k x:=by
 unfold sel;have e: ∀n:Nat,(n/2^k%2=1)↔n.testBit k=true:=fun n=>by
  rw[Nat.testBit_eq_decide_div_mod_eq,decide_eq_true_iff]
 simp only[e,Nat.testBit_xor];cases b.testBit k<;>cases c.testBit k<;>simp
theorem c0M(a:Nat):tx a=(a*2%256)^^^(if a/128=0 then 0 else 29):=by
 unfold tx;split
 ·rw[d0R]
 ·rfl
theorem a5G(ha:a<256)(hb:b<256):tx (a^^^b)=tx a^^^tx b:=by
 have e1:(a^^^b)*2%256=(a*2%256)^^^(b*2%256):=by
  have h:=Nat.shiftLeft_xor_distrib (i:=1) (a:=a) (b:=b);rw[Nat.shiftLeft_eq,Nat.shiftLeft_eq,Nat.shiftLeft_eq]at h;rw[show(a^^^b)*2=(a^^^b)*2^1 from rfl,h];exact Nat.xor_mod_two_pow (n:=8)
 have e2:(a^^^b)/128=(a/128)^^^(b/128):=by
  have h:=Nat.shiftRight_xor_distrib (i:=7) (a:=a) (b:=b);rw[Nat.shiftRight_eq_div_pow,Nat.shiftRight_eq_div_pow,Nat.shiftRight_eq_div_pow]at h;exact h
 have da:a/128=0∨a/128=1:=by omega
 have db:b/128=0∨b/128=1:=by omega
 rw[c0M,c0M a,c0M b,e1,e2,gH];rcases da with da|da<;>rcases db with db|db<;>rw[da,db]<;>rfl
theorem b3V(ha:a<256)(hb:b<256):(k:Nat)→txk k (a^^^b)=txk k a^^^txk k b
 |0=>rfl
 |k+1=>by
  show tx (txk k (a^^^b))=tx (txk k a)^^^tx (txk k b)
  rw[b3V ha hb k,a5G (xW ha k) (xW hb k)]
theorem oM(c:Nat)(ha:a<256)(hb:b<256):(k:Nat)→gC (a^^^b) c k=gC a c k^^^gC b c k
 |0=>(c9V 0).symm
 |k+1=>by
  show gC (a^^^b) c k^^^sel c k (txk k (a^^^b))=(gC a c k^^^sel c k (txk k a))^^^(gC b c k^^^sel c k (txk k b))
  rw[oM c ha hb k,b3V ha hb k,b4B,gH]
theorem eX(c:Nat)(ha:a<256)(hb:b<256):mul (a^^^b) c=mul a c^^^mul b c:=oM c ha hb 8
theorem nU(a b c:Nat):(k:Nat)→gC a (b^^^c) k=gC a b k^^^gC a c k
 |0=>(c9V 0).symm
 |k+1=>by
  show gC a (b^^^c) k^^^sel (b^^^c) k (txk k a)=(gC a b k^^^sel b k (txk k a))^^^(gC a c k^^^sel c k (txk k a))
  rw[nU a b c k,xI,gH]
theorem cY(a b c:Nat):mul a (b^^^c)=mul a b^^^mul a c:=nU a b c 8
theorem aQ(a:Nat):mul a 0=0:=by
 have h:=cY a 0 0;rw[c9V,c9V]at h;exact h
theorem cK(c:Nat):mul 0 c=0:=by
 have h:=eX (a:=0) (b:=0) c (by decide) (by decide);rw[c9V,c9V]at h;exact h
theorem a3X:tx 0=0:=rfl
def dec(b:Nat):Nat:=sel b 0 1^^^(sel b 1 2^^^(sel b 2 4^^^(sel b 3 8^^^(sel b 4 16^^^(sel b 5 32^^^(sel b 6 64^^^sel b 7 128))))))
theorem c3N:(b8Z 256 fun b=>dec b==b)=true:=by decide+kernel
theorem c7C(hb:b<256):dec b=b:=by simpa using a3W c3N b hb
def Lin(f:Nat→Nat):Prop:=f 0=0∧ ∀x y,x<256→y<256→f (x^^^y)=f x^^^f y
theorem Lin.sel{f:Nat→Nat}(h:Lin f)(b k x:Nat):f (Gf.sel b k x)=Gf.sel b k (f x):=by
 unfold Gf.sel;split
 ·rfl
 ·exact h.1
theorem Lin.dec{f:Nat→Nat}(h:Lin f)(b:Nat):
  f (Gf.dec b)=Gf.sel b 0 (f 1)^^^(Gf.sel b 1 (f 2)^^^(Gf.sel b 2 (f 4)^^^(Gf.sel b 3 (f 8)^^^(Gf.sel b 4 (f 16)^^^(Gf.sel b 5 (f 32)^^^(Gf.sel b 6 (f 64)^^^Gf.sel b 7 (f 128))))))):=by
 have s:=fun k x hx=>c2B b k hx;have s7:=s 7 128 (by decide);have s6:=s 6 64 (by decide);have s5:=s 5 32 (by decide);have s4:=s 4 16 (by decide);have s3:=s 3 8 (by decide);have s2:=s 2 4 (by decide);have s1:=s 1 2 (by decide);have s0:=s 0 1 (by decide);have t6:=fE s6 s7;have t5:=fE s5 t6;have t4:=fE s4 t5;have t3:=fE s3 t4;have t2:=fE s2 t3;have t1:=fE s1 t2;unfold Gf.dec;rw[h.2 _ _ s0 t1,h.2 _ _ s1 t2,h.2 _ _ s2 t3,h.2 _ _ s3 t4,h.2 _ _ s4 t5,h.2 _ _ s5 t6,h.2 _ _ s6 s7];rw[h.sel,h.sel,h.sel,h.sel,h.sel,h.sel,h.sel,h.sel]
theorem pQ{f g:Nat→Nat}(hf:Lin f)(hg:Lin g)(h0:f 1=g 1)(h1:f 2=g 2)(h2:f 4=g 4)(h3:f 8=g 8)(h4:f 16=g 16)(h5:f 32=g 32)(h6:f 64=g 64)(h7:f 128=g 128)
  {b:Nat} (hb:b<256):f b=g b:=by
 rw[←c7C hb,hf.dec,hg.dec,h0,h1,h2,h3,h4,h5,h6,h7]
theorem tF(a:Nat):Lin (fun b=>mul a b):=⟨aQ a,fun x y _ _=>cY a x y⟩
theorem tJ(c:Nat):Lin (fun b=>mul b c):=⟨cK c,fun _ _ hx hy=>eX c hx hy⟩
theorem b2I(a:Nat):Lin (fun b=>mul a (tx b)):=
 ⟨by show mul a (tx 0)=0;rw[a3X,aQ],fun x y hx hy=>by show mul a (tx (x^^^y))=_;rw[a5G hx hy,cY]⟩
theorem a8U(ha:a<256):Lin (fun b=>tx (mul a b)):=
 ⟨by show tx (mul a 0)=0;rw[aQ,a3X],fun x y _ _=>by show tx (mul a (x^^^y))=_;rw[cY,a5G (dO x ha) (dO y ha)]⟩
theorem a7G(c:Nat):Lin (fun b=>tx (mul b c)):=
 ⟨by show tx (mul 0 c)=0;rw[cK,a3X],fun x y hx hy=>by show tx (mul (x^^^y) c)=_;rw[eX c hx hy,a5G (dO c hx) (dO c hy)]⟩
theorem lL(h0:mul 1 j=mul j 1)(h1:mul 2 j=mul j 2)(h2:mul 4 j=mul j 4)(h3:mul 8 j=mul j 8)(h4:mul 16 j=mul j 16)(h5:mul 32 j=mul j 32)(h6:mul 64 j=mul j 64)(h7:mul 128 j=mul j 128)
  {a:Nat} (ha:a<256):mul a j=mul j a:=
 pQ (tJ j) (tF j) h0 h1 h2 h3 h4 h5 h6 h7 ha
theorem mul_comm(ha:a<256)(hb:b<256):mul a b=mul b a:=
 pQ (tF a) (tJ a)
  (lL (by decide) (by decide) (by decide) (by decide) (by decide) (by decide) (by decide) (by decide) ha)
  (lL (by decide) (by decide) (by decide) (by decide) (by decide) (by decide) (by decide) (by decide) ha)
  (lL (by decide) (by decide) (by decide) (by decide) (by decide) (by decide) (by decide) (by decide) ha)
  (lL (by decide) (by decide) (by decide) (by decide) (by decide) (by decide) (by decide) (by decide) ha)
  (lL (by decide) (by decide) (by decide) (by decide) (by decide) (by decide) (by decide) (by decide) ha)
  (lL (by decide) (by decide) (by decide) (by decide) (by decide) (by decide) (by decide) (by decide) ha)
  (lL (by decide) (by decide) (by decide) (by decide) (by decide) (by decide) (by decide) (by decide) ha)
  (lL (by decide) (by decide) (by decide) (by decide) (by decide) (by decide) (by decide) (by decide) ha) hb
theorem oN(h0:mul 1 (tx j)=tx (mul 1 j))(h1:mul 2 (tx j)=tx (mul 2 j))(h2:mul 4 (tx j)=tx (mul 4 j))(h3:mul 8 (tx j)=tx (mul 8 j))(h4:mul 16 (tx j)=tx (mul 16 j))(h5:mul 32 (tx j)=tx (mul 32 j))(h6:mul 64 (tx j)=tx (mul 64 j))(h7:mul 128 (tx j)=tx (mul 128 j))
  {a:Nat} (ha:a<256):mul a (tx j)=tx (mul a j):=
 pQ (tJ (tx j)) (a7G j) h0 h1 h2 h3 h4 h5 h6 h7 ha
theorem c7F(ha:a<256)(hb:b<256):mul a (tx b)=tx (mul a b):=
 pQ (b2I a) (a8U ha)
  (oN (by decide) (by decide) (by decide) (by decide) (by decide) (by decide) (by decide) (by decide) ha)
  (oN (by decide) (by decide) (by decide) (by decide) (by decide) (by decide) (by decide) (by decide) ha)
  (oN (by decide) (by decide) (by decide) (by decide) (by decide) (by decide) (by decide) (by decide) ha)
  (oN (by decide) (by decide) (by decide) (by decide) (by decide) (by decide) (by decide) (by decide) ha)
  (oN (by decide) (by decide) (by decide) (by decide) (by decide) (by decide) (by decide) (by decide) ha)
  (oN (by decide) (by decide) (by decide) (by decide) (by decide) (by decide) (by decide) (by decide) ha)
  (oN (by decide) (by decide) (by decide) (by decide) (by decide) (by decide) (by decide) (by decide) ha)
  (oN (by decide) (by decide) (by decide) (by decide) (by decide) (by decide) (by decide) (by decide) ha) hb
theorem b3W(ha:a<256)(hb:b<256):(k:Nat)→mul a (txk k b)=txk k (mul a b)
 |0=>rfl
 |k+1=>by
  show mul a (tx (txk k b))=tx (txk k (mul a b))
  rw[c7F ha (xW hb k),b3W ha hb k]
theorem vJ(c:Nat)(ha:a<256)(hb:b<256):(k:Nat)→gC (mul a b) c k=mul a (gC b c k)
 |0=>(aQ a).symm
 |k+1=>by
  show gC (mul a b) c k^^^sel c k (txk k (mul a b))=mul a (gC b c k^^^sel c k (txk k b))
  rw[cY,vJ c ha hb k,(tF a).sel,b3W ha hb k]
theorem mul_assoc(c:Nat)(ha:a<256)(hb:b<256):mul (mul a b) c=mul a (mul b c):=vJ c ha hb 8
theorem c4Z:(b8Z 256 fun a=>mul a 1==a)=true:=by decide+kernel
theorem mul_one(ha:a<256):mul a 1=a:=by simpa using a3W c4Z a ha
theorem one_mul(ha:a<256):mul 1 a=a:=by rw[mul_comm (by decide) ha,mul_one ha]
def inv(a:Nat):Nat:=c2O a 254
theorem iW(a:Nat):inv a<256:=c1T a 254
theorem c5E:(b8Z 255 fun a=>mul (a+1) (inv (a+1))==1)=true:=by decide+kernel
theorem b9W:inv 0=0:=by decide+kernel
theorem nK(ha:a<256)(h0:a≠0):mul a (inv a)=1:=by
 have h:=a3W c5E (a-1) (by omega);rw[Nat.sub_add_cancel (by omega)]at h;simpa using h
theorem c2U(ha:a<256)(hb:b<256)(h0:b≠0):mul (mul a b) (inv b)=a:=by
 rw[mul_assoc _ ha hb,nK hb h0,mul_one ha]
theorem c1H(ha:a<256)(hb:b<256)(h:mul a b=1):b=inv a:=by
 have h0:a≠0:=fun e=>by rw[e,cK]at h;exact absurd h (by decide)
 rw[←one_mul hb,←nK ha h0,mul_comm ha (iW a),mul_assoc _ (iW a) ha,h,mul_one (iW a)]
theorem a3U(ha:a<256)(h0:a≠0):inv a≠0:=fun e=>by
 have h:=nK ha h0
 rw[e,aQ]at h
 exact absurd h (by decide)
theorem jO(ha:a<256)(hb:b<256):mul a b=0↔a=0∨b=0:=by
 refine⟨fun h=>?_,fun h=>?_⟩
 ·by_cases h0:b=0
  ·exact Or.inr h0
  ·refine Or.inl ?_;rw[←c2U ha hb h0,h,cK]
 ·rcases h with h|h
  ·rw[h,cK]
  ·rw[h,aQ]
def dot:Nat→(Nat→Nat)→(Nat→Nat)→Nat
 |0,_,_=>0
 |n+1,f,g=>dot n f g^^^mul (f n) (g n)
def Bd(f:Nat→Nat):Prop:= ∀k,f k<256
def Bd2(m:Nat→Nat→Nat):Prop:= ∀i,Bd (m i)
theorem mR{f:Nat→Nat}(hf:Bd f)(g:Nat→Nat):(n:Nat)→dot n f g<256
 |0=>Nat.zero_lt_succ 255
 |n+1=>fE (mR hf g n) (dO _ (hf n))
theorem dI{f f' g:Nat→Nat}:(n:Nat)→(∀k,k<n→f k=f' k)→(∀k,k<n→g k=g' k)→dot n f g=dot n f' g'
 |0,_,_=>rfl
 |n+1,hf,hg=>by
  show dot n f g^^^mul (f n) (g n)=dot n f' g'^^^mul (f' n) (g' n)
  rw[dI n (fun k hk=>hf k (by omega)) (fun k hk=>hg k (by omega)),hf n (by omega),hg n (by omega)]
theorem qJ(g:Nat→Nat):(n:Nat)→dot n (fun _=>0) g=0
 |0=>rfl
 |n+1=>by
  show dot n (fun _=>0) g^^^mul 0 (g n)=0
  rw[qJ g n,cK,c9V]
theorem oR(f:Nat→Nat):(n:Nat)→dot n f (fun _=>0)=0
 |0=>rfl
 |n+1=>by
  show dot n f (fun _=>0)^^^mul (f n) 0=0
  rw[oR f n,aQ,c9V]
theorem yN{f g:Nat→Nat}(n:Nat)(h: ∀k,k<n→g k=0):dot n f g=0:=by
 rw[dI (f':=f) (g':=fun _=>0) n (fun _ _=>rfl) h,oR]
theorem nJ{f f':Nat→Nat}(hf:Bd f)(hf':Bd f')(g:Nat→Nat):(n:Nat)→dot n (fun k=>f k^^^f' k) g=dot n f g^^^dot n f' g
 |0=>(c9V 0).symm
 |n+1=>by
  show dot n (fun k=>f k^^^f' k) g^^^mul (f n^^^f' n) (g n)=(dot n f g^^^mul (f n) (g n))^^^(dot n f' g^^^mul (f' n) (g n))
  rw[nJ hf hf' g n,eX _ (hf n) (hf' n),gH]
theorem qI(f g g':Nat→Nat):(n:Nat)→dot n f (fun k=>g k^^^g' k)=dot n f g^^^dot n f g'
 |0=>(c9V 0).symm
 |n+1=>by
  show dot n f (fun k=>g k^^^g' k)^^^mul (f n) (g n^^^g' n)=(dot n f g^^^mul (f n) (g n))^^^(dot n f g'^^^mul (f n) (g' n))
  rw[qI f g g' n,cY,gH]
theorem jX{f:Nat→Nat}(hc:c<256)(hf:Bd f)(g:Nat→Nat):(n:Nat)→dot n (fun k=>mul c (f k)) g=mul c (dot n f g)
 |0=>(aQ c).symm
 |n+1=>by
  show dot n (fun k=>mul c (f k)) g^^^mul (mul c (f n)) (g n)=mul c (dot n f g^^^mul (f n) (g n))
  rw[jX hc hf g n,mul_assoc _ hc (hf n),cY]
theorem qA(f g:Nat→Nat)(a:Nat):(b:Nat)→dot (a+b) f g=dot a f g^^^dot b (fun k=>f (a+k)) (fun k=>g (a+k))
 |0=>(d0R _).symm
 |b+1=>by
  show dot (a+b) f g^^^mul (f (a+b)) (g (a+b))=dot a f g^^^(dot b (fun k=>f (a+k)) (fun k=>g (a+k))^^^mul (f (a+b)) (g (a+b)))
  rw[qA f g a b,d1D]
def one(i j:Nat):Nat:=if i=j then 1 else 0
theorem xU(i j:Nat):one i j<256:=by
 unfold one;split<;>omega
theorem kU(i:Nat):one i i=1:=if_pos rfl
theorem gQ(h:i≠j):one i j=0:=if_neg h
theorem xR(i j:Nat):one i j=one j i:=by
 by_cases h:i=j
 ·rw[h]
 ·rw[gQ h,gQ (fun e=>h e.symm)]
theorem rW{g:Nat→Nat}(hg:Bd g)(i:Nat):(n:Nat)→dot n (one i) g=if i<n then g i else 0
 |0=>rfl
 |n+1=>by
  show dot n (one i) g^^^mul (one i n) (g n)=_
  rw[rW hg i n]
  by_cases h:i=n
  ·subst h
   rw[if_neg (d0V _),kU,one_mul (hg i),Nat.zero_xor,if_pos (d1F _)]
  ·rw[gQ h,cK,d0R]
   by_cases h':i<n
   ·rw[if_pos h',if_pos (by omega)]
   ·rw[if_neg h',if_neg (by omega)]
theorem gI{f:Nat→Nat}(hf:Bd f)(j:Nat):(n:Nat)→dot n f (one j)=if j<n then f j else 0
 |0=>rfl
 |n+1=>by
  show dot n f (one j)^^^mul (f n) (one j n)=_
  rw[gI hf j n]
  by_cases h:j=n
  ·subst h
   rw[if_neg (d0V _),kU,mul_one (hf j),Nat.zero_xor,if_pos (d1F _)]
  ·rw[gQ h,aQ,d0R]
   by_cases h':j<n
   ·rw[if_pos h',if_pos (by omega)]
   ·rw[if_neg h',if_neg (by omega)]
theorem yF{f:Nat→Nat}(hf:Bd f)(h:j<n):dot n f (fun k=>one k j)=f j:=by
 rw[dI (f':=f) (g':=one j) n (fun _ _=>rfl) (fun k _=>xR k j),gI hf,if_pos h]
theorem gJ{g:Nat→Nat}(hg:Bd g)(h:i<n):dot n (one i) g=g i:=by
 rw[rW hg,if_pos h]
def mm(n:Nat)(a b:Nat→Nat→Nat)(i j:Nat):Nat:=dot n (a i) (fun k=>b k j)
theorem c2K{a:Nat→Nat→Nat}(ha:Bd2 a)(n:Nat)(b:Nat→Nat→Nat)(i j:Nat):mm n a b i j<256:=mR (ha i) _ n
theorem oS{a:Nat→Nat→Nat}(ha:Bd2 a)(n:Nat)(b:Nat→Nat→Nat):Bd2 (mm n a b):=c2K ha n b
theorem mC{a a' b b':Nat→Nat→Nat}(ha: ∀k,k<n→a i k=a' i k)(hb: ∀k,k<n→b k j=b' k j):mm n a b i j=mm n a' b' i j:=dI n ha hb
theorem a2G{f:Nat→Nat}{b:Nat→Nat→Nat}(hf:Bd f)(hb:Bd2 b)(g:Nat→Nat)(q:Nat):(p:Nat)→dot q (fun l=>dot p f (fun k=>b k l)) g=dot p f (fun k=>dot q (b k) g)
 |0=>qJ g q
 |p+1=>by
  show dot q (fun l=>dot p f (fun k=>b k l)^^^mul (f p) (b p l)) g=dot p f (fun k=>dot q (b k) g)^^^mul (f p) (dot q (b p) g)
  rw[nJ (f:=fun l=>dot p f (fun k=>b k l)) (f':=fun l=>mul (f p) (b p l)) (fun l=>mR hf _ p) (fun l=>dO _ (hf p)),a2G hf hb g q p,jX (hf p) (hb p)]
theorem b9J{a b:Nat→Nat→Nat}(ha:Bd2 a)(hb:Bd2 b)(c:Nat→Nat→Nat)(p q i j:Nat):mm q (mm p a b) c i j=mm p a (mm q b c) i j:=
 a2G (ha i) hb (fun l=>c l j) q p
theorem b0Q{a:Nat→Nat→Nat}(ha:Bd2 a)(j:Nat)(h:i<n):mm n one a i j=a i j:=gJ (fun k=>ha k j) h
theorem c7Q{a:Nat→Nat→Nat}(ha:Bd2 a)(i:Nat)(h:j<n):mm n a one i j=a i j:=yF (ha i) h
def Und(n:Nat)(m r:Nat→Nat→Nat):Prop:= ∀i j,i<n→j<n→mm n m r i j=one i j∧mm n r m i j=one i j
def a6O(n:Nat)(m:Nat→Nat→Nat):Prop:= ∃x,Bd x∧(∀i,i<n→dot n (m i) x=0)∧ ∃c,c<n∧x c≠0
theorem Und.uniq{m r s:Nat→Nat→Nat}(hm:Bd2 m)(hr:Bd2 r)(hs:Bd2 s)(h:Und n m r)(k:Und n m s)(i j:Nat)(hi:i<n)(hj:j<n):r i j=s i j:=by
 have e1:mm n r (mm n m s) i j=r i j:=by
  rw[mC (a':=r) (b':=one) (fun _ _=>rfl) (fun l hl=>(k l j hl hj).1),c7Q hr i hj]
 have e2:mm n (mm n r m) s i j=s i j:=by
  rw[mC (a':=one) (b':=s) (fun l hl=>(h i l hi hl).2) (fun _ _=>rfl),b0Q hs j hi]
 rw[←e1,←b9J hr hm,e2]
def lM(n:Nat)(m:Nat→Nat→Nat)(i j:Nat):Nat:=if j<n then m i j else one i (j-n)
theorem c1Z{m:Nat→Nat→Nat}(hm:Bd2 m):Bd2 (lM n m):=fun i j=>by
 show(if j<n then m i j else one i (j-n))<256
 split
 ·exact hm i j
 ·exact xU _ _
def Ker(n N:Nat)(W:Nat→Nat→Nat)(x:Nat→Nat):Prop:= ∀i,i<n→dot N (W i) x=0
def swp(c p:Nat)(W:Nat→Nat→Nat)(i:Nat):Nat→Nat:=if i=c then W p else if i=p then W c else W i
def scl(c x:Nat)(W:Nat→Nat→Nat)(i j:Nat):Nat:=if i=c then mul (W i j) x else W i j
def add(c:Nat)(W:Nat→Nat→Nat)(i j:Nat):Nat:=if i=c then W i j else W i j^^^mul (W c j) (W i c)
def clr(c p:Nat)(W:Nat→Nat→Nat):Nat→Nat→Nat:=add c (scl c (inv (W p c)) (swp c p W))
theorem tQ{W:Nat→Nat→Nat}(h:Bd2 W):Bd2 (swp c p W):=fun i=>by
 unfold swp
 split
 ·exact h p
 ·split
  ·exact h c
  ·exact h i
theorem xN{W:Nat→Nat→Nat}(h:Bd2 W):Bd2 (scl c x W):=fun i j=>by
 unfold scl
 split
 ·exact dO _ (h i j)
 ·exact h i j
theorem c7T{W:Nat→Nat→Nat}(h:Bd2 W):Bd2 (add c W):=fun i j=>by
 unfold add
 split
 ·exact h i j
 ·exact fE (h i j) (dO _ (h c j))
theorem c8D{W:Nat→Nat→Nat}(h:Bd2 W):Bd2 (clr c p W):=c7T (xN (tQ h))
theorem c5A{W:Nat→Nat→Nat}{x:Nat→Nat}(hc:c<n)(hp:p<n):Ker n N (swp c p W) x↔Ker n N W x:=by
 refine⟨fun k i hi=>?_,fun k i hi=>?_⟩
 ·by_cases h1:i=c
  ·have:=k p hp;unfold swp at this;by_cases h2:p=c
   ·rw[if_pos h2]at this;rw[h1,←h2];exact this
   ·rw[if_neg h2,if_pos rfl]at this;rw[h1];exact this
  ·by_cases h2:i=p
   ·have:=k c hc;unfold swp at this;rw[if_pos rfl]at this;rw[h2];exact this
   ·have:=k i hi;unfold swp at this;rw[if_neg h1,if_neg h2]at this;exact this
 ·unfold swp;by_cases h1:i=c
  ·rw[if_pos h1];exact k p hp
  ·rw[if_neg h1];by_cases h2:i=p
   ·rw[if_pos h2];exact k c hc
   ·rw[if_neg h2];exact k i hi
theorem c5N{W:Nat→Nat→Nat}{y:Nat→Nat}(hW:Bd2 W)(hx:x<256)(h0:x≠0):Ker n N (scl c x W) y↔Ker n N W y:=by
 have e:dot N (scl c x W c) y=mul x (dot N (W c) y):=by
  rw[←jX hx (hW c)];refine dI N (fun k _=>?_) (fun _ _=>rfl);show(if c=c then mul (W c k) x else W c k)=_;rw[if_pos rfl,mul_comm (hW c k) hx]
 have e': ∀i,i≠c→dot N (scl c x W i) y=dot N (W i) y:=fun i hi=>by
  refine dI N (fun k _=>?_) (fun _ _=>rfl);show(if i=c then mul (W i k) x else W i k)=_;rw[if_neg hi]
 refine⟨fun k i hi=>?_,fun k i hi=>?_⟩
 ·by_cases h:i=c
  ·subst h;have h1:=k i hi;rw[e]at h1;exact((jO hx (mR (hW i) y N)).1 h1).resolve_left h0
  ·rw[←e' i h];exact k i hi
 ·by_cases h:i=c
  ·subst h;rw[e,k i hi,aQ]
  ·rw[e' i h];exact k i hi
theorem c4A{W:Nat→Nat→Nat}{y:Nat→Nat}(hW:Bd2 W)(hc:c<n):Ker n N (add c W) y↔Ker n N W y:=by
 have ec:dot N (add c W c) y=dot N (W c) y:=by
  refine dI N (fun k _=>?_) (fun _ _=>rfl);show(if c=c then W c k else _)=_;rw[if_pos rfl]
 have e': ∀i,i≠c→dot N (add c W i) y=dot N (W i) y^^^mul (W i c) (dot N (W c) y):=fun i hi=>by
  rw[←jX (hW i c) (hW c),←nJ (hW i) (fun k=>dO _ (hW i c))];refine dI N (fun k _=>?_) (fun _ _=>rfl);show(if i=c then W i k else W i k^^^mul (W c k) (W i c))=_;rw[if_neg hi,mul_comm (hW c k) (hW i c)]
 refine⟨fun k i hi=>?_,fun k i hi=>?_⟩
 ·have h0:=k c hc;rw[ec]at h0;by_cases h:i=c
  ·rw[h];exact h0
  ·have h1:=k i hi;rw[e' i h,h0,aQ,d0R]at h1;exact h1
 ·by_cases h:i=c
  ·rw[h,ec];exact k c hc
  ·rw[e' i h,k c hc,aQ,d0R];exact k i hi
theorem c4O{W:Nat→Nat→Nat}{y:Nat→Nat}(hW:Bd2 W)(hc:c<n)(hp:p<n)(h0:W p c≠0):Ker n N (clr c p W) y↔Ker n N W y:=by
 unfold clr;rw[c4A (xN (tQ hW)) hc,c5N (tQ hW) (iW _) (a3U (hW p c) h0),c5A hc hp]
structure pG(n:Nat)(m:Nat→Nat→Nat)(D:Nat→Prop)(W:Nat→Nat→Nat):Prop where
 bd:Bd2 W
 ker: ∀x,Ker n (n+n) W x↔Ker n (n+n) (lM n m) x
 unit: ∀j,D j→j<n∧ ∀i,i<n→W i j=one i j
theorem pG.start{m:Nat→Nat→Nat}{D:Nat→Prop}(hm:Bd2 m)(hD: ∀j,¬D j):pG n m D (lM n m):=
 ⟨c1Z hm,fun _=>Iff.rfl,fun j h=>absurd h (hD j)⟩
theorem pG.step{m W:Nat→Nat→Nat}{D:Nat→Prop}(h:pG n m D W)(hc:c<n)(hp:p<n)(nc: ¬D c)(np: ¬D p)(h0:W p c≠0)(hD: ∀j,D' j→D j∨j=c):pG n m D' (clr c p W):=by
 refine⟨c8D h.bd,fun x=>(c4O h.bd hc hp h0).trans (h.ker x),fun j hj=>?_⟩;rcases hD j hj with hj|rfl
 ·obtain⟨A0,hu⟩:=h.unit j hj;refine⟨A0,fun i hi=>?_⟩;have jc:c≠j:=fun e=>nc (e▸hj);have jp:p≠j:=fun e=>np (e▸hj);have zc:W c j=0:=by rw[hu c hc,gQ jc]
  have zp:W p j=0:=by rw[hu p hp,gQ jp]
  have sw: ∀i,i<n→swp c p W i j=one i j:=fun i hi=>by
   unfold swp;by_cases h1:i=c
   ·rw[if_pos h1,zp,h1,gQ jc]
   ·rw[if_neg h1];by_cases h2:i=p
    ·rw[if_pos h2,zc,h2,gQ jp]
    ·rw[if_neg h2,hu i hi]
  have sc: ∀i,i<n→scl c (inv (W p c)) (swp c p W) i j=one i j:=fun i hi=>by
   show(if i=c then mul (swp c p W i j) (inv (W p c))else swp c p W i j)=_;rw[sw i hi];split
   ·rename_i h1;rw[h1,gQ jc,cK]
   ·rfl
  show(if i=c then scl c (inv (W p c)) (swp c p W) i j else scl c (inv (W p c)) (swp c p W) i j^^^mul (scl c (inv (W p c)) (swp c p W) c j) (scl c (inv (W p c)) (swp c p W) i c))=_;rw[sc i hi,sc c hc,gQ jc,cK,d0R];split<;>rfl
 ·refine⟨hc,fun i hi=>?_⟩;have sj:scl j (inv (W p j)) (swp j p W) j j=1:=by
   show(if j=j then mul (swp j p W j j) (inv (W p j))else swp j p W j j)=1;rw[if_pos rfl];show mul ((if j=j then W p else if j=p then W j else W j) j) (inv (W p j))=1;rw[if_pos rfl,nK (h.bd p j) h0]
  show(if i=j then scl j (inv (W p j)) (swp j p W) i j else scl j (inv (W p j)) (swp j p W) i j^^^mul (scl j (inv (W p j)) (swp j p W) j j) (scl j (inv (W p j)) (swp j p W) i j))=_;by_cases h1:i=j
  ·rw[if_pos h1,h1,sj,kU]
  ·rw[if_neg h1,sj,one_mul (xN (tQ h.bd) i j),c9V,gQ h1]
theorem b9X{W:Nat→Nat→Nat}(i:Nat)(x:Nat→Nat)(hx: ∀k,n≤k→x k=0):dot (n+n) (W i) x=dot n (W i) x:=by
 rw[qA,yN (g:=fun k=>x (n+k)) n (fun k _=>hx _ (Nat.le_add_right _ _)),d0R]
theorem pG.fails{m W:Nat→Nat→Nat}{D:Nat→Prop}(h:pG n m D W)(hc:c<n)(nc: ¬D c)(h0: ∀i,i<n→ ¬D i→W i c=0):a6O n m:=by
 classical;refine⟨fun j=>(if D j then W j c else 0)^^^one c j,fun j=>fE (by split;exact h.bd j c;omega) (xU _ _),?_,c,hc,?_⟩
 ·have A0:Ker n (n+n) W (fun j=>(if D j then W j c else 0)^^^one c j):=fun i hi=>by
   rw[qI (W i) (fun j=>if D j then W j c else 0) (one c),gI (h.bd i),if_pos (by omega)];have yb:Bd (fun j=>if D j then W j c else 0):=fun j=>by
    show(if D j then W j c else 0)<256;split
    ·exact h.bd j c
    ·omega
   have e:dot (n+n) (W i) (fun j=>if D j then W j c else 0)=if D i then W i c else 0:=by
    rw[←gJ (i:=i) (n:=n+n) yb (by omega)];have A1: ∀k N,N≤n+n→k=N→dot k (W i) (fun j=>if D j then W j c else 0)=dot k (one i) (fun j=>if D j then W j c else 0):=by
     intro k N hN hk;clear hk;induction k with
     |A3=>rfl
     |succ k ih=>
      show dot k (W i) _^^^mul (W i k) (if D k then W k c else 0)=dot k (one i) _^^^mul (one i k) (if D k then W k c else 0);rw[ih];by_cases hd:D k
      ·rw[(h.unit k hd).2 i hi]
      ·rw[if_neg hd,aQ,aQ]
    exact A1 _ _ (c9C _) rfl
   rw[e];by_cases hd:D i
   ·rw[if_pos hd,c9V]
   ·rw[if_neg hd,h0 i hi hd,c9V]
  have A2:=(h.ker _).1 A0;intro i hi;have hz:=A2 i hi
  rw[b9X (W:=lM n m) i _ (fun k hk=>by
   show(if D k then W k c else 0)^^^one c k=0
   rw[if_neg (fun hd=>by have:=(h.unit k hd).1;omega),gQ (by omega),c9V])]at hz
  refine Eq.trans (dI n (fun k hk=>?_) (fun _ _=>rfl)) hz;show m i k=if k<n then m i k else _;rw[if_pos hk]
 ·show(if D c then W c c else 0)^^^one c c≠0;rw[if_neg nc,kU];decide
theorem pG.done{m W:Nat→Nat→Nat}{D:Nat→Prop}(h:pG n m D W)(hm:Bd2 m)(hD: ∀j,j<n→D j):Und n m (fun i j=>W i (n+j)):=by
 have hl: ∀(u v:Nat→Nat),Bd u→ ∀i,i<n→dot (n+n) (W i) (fun k=>if k<n then u k else v (k-n))=u i^^^dot n (fun k=>W i (n+k)) v:=fun u v hu i hi=>by
  rw[qA];congr 1
  ·rw[dI (f':=one i) (g':=u) n (fun k hk=>(h.unit k (hD k hk)).2 i hi) (fun k hk=>if_pos hk),gJ hu hi]
  ·refine dI n (fun _ _=>rfl) (fun k _=>?_);show(if n+k<n then u (n+k)else v (n+k-n))=v k;rw[if_neg (by omega),d2G]
 have hr: ∀(u v:Nat→Nat),Bd v→ ∀i,i<n→dot (n+n) (lM n m i) (fun k=>if k<n then u k else v (k-n))=dot n (m i) u^^^v i:=fun u v hv i hi=>by
  rw[qA];congr 1
  ·refine dI n (fun k hk=>if_pos hk) (fun k hk=>if_pos hk)
  ·rw[dI (f':=one i) (g':=v) n (fun k _=>?_) (fun k _=>?_),gJ hv hi]
   ·show(if n+k<n then m i (n+k)else one i (n+k-n))=one i k;rw[if_neg (by omega),d2G]
   ·show(if n+k<n then u (n+k)else v (n+k-n))=v k;rw[if_neg (by omega),d2G]
 intro i j hi hj;constructor
 ·have hk:Ker n (n+n) W (fun k=>if k<n then W k (n+j)else one j (k-n)):=fun a ha=>by
   rw[hl (fun k=>W k (n+j)) (one j) (fun k=>h.bd k (n+j)) a ha,gI (fun k=>h.bd a (n+k)),if_pos hj,c9V]
  have:=(h.ker _).1 hk i hi;rw[hr (fun k=>W k (n+j)) (one j) (xU j) i hi]at this;show dot n (m i) (fun k=>W k (n+j))=one i j;rw[xR i j];have e:=congrArg (fun z=>z^^^one j i) this;simpa [d1D,c9V]using e
 ·have hk:Ker n (n+n) (lM n m) (fun k=>if k<n then one j k else m (k-n) j):=fun a ha=>by
   rw[hr (one j) (fun k=>m k j) (fun k=>hm k j) a ha,gI (hm a),if_pos hj,c9V]
  have:=(h.ker _).2 hk i hi;rw[hl (one j) (fun k=>m k j) (xU j) i hi]at this;show dot n (fun k=>W i (n+k)) (fun k=>m k j)=one i j;rw[xR i j];have e:=congrArg (fun z=>one j i^^^z) this;simpa [←d1D,c9V]using e
end Go.Proofs.YtmcaejooaaahdaaGreat.Gf
namespace Go.Proofs.YtmcaejooaaahdaaGreat
open Go.Proofs.Tryz
variable {B M N a b c g i j k n o p x:Nat} {D' S:Nat→Prop} {G K L g':Nat→Nat} {f:Nat→Nat→Nat} {t:TypeId} {v:Value} {w w':World}
open Go.RowKit
theorem tZ{f:Nat→Value}(h:w.rowIs b t n f)(o:Off S w w')(hb: ¬S b):w'.rowIs b t n f:=h.of_block (o.block b h.lt hb)
theorem eC{f:Nat→Value}(h:w.rowIs b t n f)(o:Bl w w'):w'.rowIs b t n f:=h.of_block (o.block b h.lt)
structure jV(w:World)(b o n c:Nat)(G O K:Nat→Nat)(f:Nat→Nat→Nat):Prop where
 top: ∀r,r<n→w.cell? (aD b (o+r))=some (.slice (some ⟨G r,O r,none⟩) c (K r))
 row: ∀r,r<n→ ∀k,k<c→w.cell? ⟨G r,O r+k,none⟩=some (.int .u8 (f r k:Nat))
theorem jV.below{O:Nat→Nat}(h:jV w b o n c G O K f)(hb:Bl w w'):jV w' b o n c G O K f:=
  ⟨fun r hr=>by rw[hb.cell (p:=⟨b,o+r,none⟩) (World.block_lt_of_cell? _ _ (h.top r hr))];exact h.top r hr,
   fun r hr k hk=>by rw[hb.cell (p:=⟨G r,O r+k,none⟩) (World.block_lt_of_cell? _ _ (h.row r hr k hk))];exact h.row r hr k hk⟩
structure Own(w:World)(N b n c:Nat)(G:Nat→Nat)(f:Nat→Nat→Nat):Prop where
 top:w.rowIs b 59 n (fun r=> .slice (some ⟨G r,0,none⟩) c c)
 row: ∀r,r<n→w.rowIs (G r) 5 c (fun k=> .int .u8 (f r k:Nat))
 lob:N≤b
 low: ∀r,r<n→N≤G r
 apart: ∀r,r<n→G r≠b
 inj: ∀r s,r<n→s<n→r≠s→G r≠G s
theorem Own.below(h:Own w N b n c G f)(hb:Bl w w'):Own w' N b n c G f:=
 ⟨eC h.top hb,fun r hr=>eC (h.row r hr) hb,h.lob,h.low,h.apart,h.inj⟩
theorem Own.lower(h:Own w N b n c G f)(hM:M≤N):Own w M b n c G f:=
 ⟨h.top,h.row,c9E hM h.lob,fun r hr=>c9E hM (h.low r hr),h.apart,h.inj⟩
theorem Own.mat(h:Own w N b n c G f):jV w b 0 n c G (fun _=>0) (fun _=>c) f:=
 ⟨fun r hr=>by rw[c9G];exact h.top.cell hr,fun r hr k hk=>by rw[c9G];exact(h.row r hr).cell hk⟩
def vF(b n:Nat)(G:Nat→Nat)(k:Nat):Prop:=k=b∨ ∃r,r<n∧k=G r
theorem a5P(a b:Nat):Gf.nZ (a:Int) (b:Int)=((Gf.mul a b:Nat):Int):=by
 unfold Gf.nZ;rw[c9Q,c9Q]
theorem pO(ha:a<256)(hb:b<256):bits .xor .u8 (a:Int) (b:Int)=((a^^^b:Nat):Int):=by
 rw[u8_xor _ _ (by omega) (by omega) (by omega) (by omega),c9Q,c9Q]
theorem a5M(a b:Nat)(w:World)(ha:a<256)(hb:b<256):
  Calls prog 164 #[.int .u8 a,.int .u8 b] w fun e w'=>e=.returned (.int .u8 ((Gf.mul a b:Nat):Int))∧Bl w w':=by
 rw[←a5P];exact a4B _ _ _ (by omega) (by omega) (by omega) (by omega)
theorem b4Q(a:Nat)(w:World)(ha:a<256):
  Calls prog 177 #[.int .u8 a] w fun e w'=>e=.returned (.int .u8 ((Gf.inv a:Nat):Int))∧Bl w w':=by
 have h:Gf.mS (a:Int) 254=((Gf.inv a:Nat):Int):=by
  unfold Gf.mS Gf.inv;rw[c9Q];rfl
 rw[←h];exact c5V _ _ (by omega) (by omega)
theorem vZ(i j:Nat)(w:World):
  Calls prog 170 #[iV i,iV j] w fun e w'=>e=.returned (.int .u8 ((Gf.one i j:Nat):Int))∧Bl w w':=by
 by_cases h:i=j
 ·subst h;have H:=hd8 (Gf.kU i);go_enter func170,ntmps170
  go_wp2_with fail;go_ret
  exact⟨aH (by rw[H.out];rfl),Below.refl _ _⟩
 ·have H:=hd8 (Gf.gQ h);have h':((i:Int)==(j:Int))=false:=by rw[beq_eq_false_iff_ne];omega
  clear h;go_enter func170,ntmps170
  go_wp2_with fail;go_ret
  exact⟨aH (by rw[H.out];rfl),Below.refl _ _⟩
def dV(k:Nat)(g f:Nat→Nat)(j:Nat):Nat:=if j<k then g j else f j
theorem a1M(k:Nat)(g f:Nat→Nat)(j:Nat):dV (k+1) g f j=if j=k then g k else dV k g f j:=by
 unfold dV;by_cases h:j=k
 ·subst h;rw[if_pos (by omega),if_pos rfl]
 ·rw[if_neg h];by_cases h':j<k
  ·rw[if_pos h',if_pos (by omega)]
  ·rw[if_neg h',if_neg (by omega)]
theorem pU(k:Nat)(g f:Nat→Nat):dV k g f k=f k:=if_neg (d0V _)
theorem lU{f h:Nat→Nat}(hr:w.rowIs g t n (fun j=> .int .u8 (dV k h f j:Nat))):
  (w.setCell (aD g k) (.int .u8 (h k:Nat))).rowIs g t n (fun j=> .int .u8 (dV (k+1) h f j:Nat)):=
 (hr.set k _).congr (fun j _=>by
  rw[a1M]
  by_cases e:j=k
  ·rw[if_pos e,if_pos e]
  ·rw[if_neg e,if_neg e])
theorem b6I(g n x:Nat)(f:Nat→Nat)(w:World)(hr:w.rowIs g 5 n (fun k=> .int .u8 (f k:Nat)))(hf:Gf.Bd f)(hx:x<256)(hn:n≤10000):
  Calls prog 182 #[.slice (some (aD g 0)) n n,.int .u8 x] w fun e w'=>e=.returned (.tuple #[])∧w'.rowIs g 5 n (fun k=> .int .u8 (Gf.mul (f k) x:Nat))∧Off (fun k=>k=g) w w':=by
 go_enter func182,ntmps182
 go_wp2_with fail;go_loopw [7] (fun i wr=> ∃k:Nat,k≤n∧i=iV k∧wr.rowIs g 5 n (fun j=> .int .u8 (dV k (fun j=>Gf.mul (f j) x) f j:Nat))∧Off (fun k=>k=g) w wr) (fun i _=>n-(intOf i).toNat)
 case atStart=>exact⟨0,c9D _,rfl,hr,Off.refl _ _⟩
 case round=>
  obtain⟨k,hk,rfl,hw,ho⟩:=hrel;by_cases A2:k<n
  ·have A3:(k:Int)<(n:Int):=by omega
   have hc:=hw.cell A2;have A6:=hw.frozen k;rw[pU]at hc;go_wp2_with fail;refine(a5M _ _ _ (hf k) hx).mono ?_;rintro e w1 ⟨rfl,A1⟩;have A0:=eC hw A1;have A5:=A0.cell A2;have A4:=A0.frozen k;go_wp2_with fail;exact⟨⟨k+1,by omega,by go_num,lU A0,(ho.trans (Off.of_below A1)).set rfl _⟩,by simp[intOf];omega⟩
  ·have e8:k=n:=by omega
   subst e8;go_wp2_with fail;go_end0
   exact⟨rfl,hw.congr (fun j hj=>by rw[show dV k (fun j=>Gf.mul (f j) x) f j=Gf.mul (f j) x from if_pos hj]),ho⟩
theorem a3P(g q n x:Nat)(f p:Nat→Nat)(w:World)(hr:w.rowIs g 5 n (fun k=> .int .u8 (f k:Nat)))(hp:w.rowIs q 5 n (fun k=> .int .u8 (p k:Nat)))(hne:g≠q)(hf:Gf.Bd f)(hpb:Gf.Bd p)(hx:x<256)(hn:n≤10000):
  Calls prog 183 #[.slice (some (aD g 0)) n n,.slice (some (aD q 0)) n n,.int .u8 x] w fun e w'=>e=.returned (.tuple #[])∧w'.rowIs g 5 n (fun k=> .int .u8 (f k^^^Gf.mul (p k) x:Nat))∧Off (fun k=>k=g) w w':=by
 go_enter func183,ntmps183
 go_wp2_with fail;go_loopw [9] (fun i wr=> ∃k:Nat,k≤n∧i=iV k∧wr.rowIs g 5 n (fun j=> .int .u8 (dV k (fun j=>f j^^^Gf.mul (p j) x) f j:Nat))∧Off (fun k=>k=g) w wr) (fun i _=>n-(intOf i).toNat)
 case atStart=>exact⟨0,c9D _,rfl,hr,Off.refl _ _⟩
 case round=>
  obtain⟨k,hk,rfl,hw,ho⟩:=hrel;by_cases A0:k<n
  ·have A4:(k:Int)<(n:Int):=by omega
   have hc:=hw.cell A0;have A7:=hw.frozen k;rw[pU]at hc;have hq:=tZ hp ho (fun e=>hne e.symm);have A8:=hq.cell A0;have A5:=pO (hf k) (Gf.dO x (hpb k));go_wp2_with fail;go_region_with (go_at_call 164;refine(a5M _ _ _ (hpb k) hx).mono ?_;rintro e w1 ⟨rfl,A2⟩;have A1:=eC hw.drew A2;have A3:=A1.cell A0;have A6:=A1.frozen k;rw[pU]at A3)
   all_goals go_wp2_with fail
   all_goals exact⟨⟨k+1,by omega,by go_num,lU (h:=fun j=>f j^^^Gf.mul (p j) x) A1,(ho.drew.trans (Off.of_below A2)).set rfl _⟩,by simp[intOf];omega⟩
  ·have e8:k=n:=by omega
   subst e8;go_wp2_with fail;go_end0
   exact⟨rfl,hw.congr (fun j hj=>by rw[show dV k (fun j=>f j^^^Gf.mul (p j) x) f j=f j^^^Gf.mul (p j) x from if_pos hj]),ho⟩
theorem jP{a b:Bool}(h:a=b):Ending.returned (.bool a)=.returned (.bool b):=by rw[h]
def uE(g:Nat)(l:Value)(n:Nat)(V:Nat→Value)(p:Nat→Bool)(w:World):Prop:=
 ∀r,r<n→ ∀W,Bl w W→Calls prog g #[V r,l] W fun e w'=>e=.returned (.bool (p r))∧Bl W w'
def a4L(n:Nat)(p:Nat→Bool)(i:Int):Prop:=(i= -1∧ ∀r,r<n→p r=false)∨ ∃r:Nat,r<n∧i=(r:Int)∧p r=true∧ ∀s,s<r→p s=false
theorem rO(g b o n cap:Nat)(l:Value)(V:Nat→Value)(p:Nat→Bool)(w:World)(eg: ∀args w,(callFunc g args).run prog w=.ok (.enter g args) w)
  (hc: ∀r,r<n→w.cell? (aD b (o+r))=some (V r)) (hp:uE g l n V p w) (hn:n≤10000):
  Calls prog 178 #[.slice (some (aD b o)) n cap,.func (.func g) #[] #[l]] w fun e w'=> ∃i:Int,e=.returned (iV i)∧a4L n p i∧Bl w w':=by
 go_enter func178,ntmps178
 go_wp2_with fail;go_loopw [8] (fun i wr=> ∃k:Nat,k≤n∧i=iV k∧(∀s,s<k→p s=false)∧Bl w wr) (fun i _=>n-(intOf i).toNat)
 case atStart=>exact⟨0,c9D _,rfl,fun s hs=>absurd hs (c9L s),Below.refl _ _⟩
 case round=>
  obtain⟨k,hk,rfl,hs,hb⟩:=hrel;have HS:=hd8 hs;clear hs;by_cases A1:k<n
  ·have A6:(k:Int)<(n:Int):=by omega
   have A2:=hc k A1;have A5:=World.block_lt_of_cell? _ _ A2;have A7:=(hb.cell (p:=⟨b,o+k,none⟩) A5).trans A2;have HC:=hd8 hc;clear hc A2;have A0:=hp k A1 wr hb;by_cases hy:p k=true
   ·rw[hy]at A0;go_wp2_with fail;refine A0.mono ?_;rintro e w1 ⟨rfl,A3⟩;go_wp2_with fail;go_ret
    exact⟨_,rfl,Or.inr ⟨k,A1,rfl,hy,HS.out⟩,hb.trans (A3.mono hb.size)⟩
   ·have A4:p k=false:=by simpa using hy
    rw[A4]at A0;clear hy;go_wp2_with fail;refine A0.mono ?_;rintro e w1 ⟨rfl,A3⟩;go_wp2_with fail;refine⟨⟨k+1,by omega,by go_num,fun s hs=>?_,hb.trans (A3.mono hb.size)⟩,by simp[intOf];omega⟩;by_cases e:s=k
    ·rw[e];exact A4
    ·exact HS.out s (by omega)
  ·have e8:k=n:=by omega
   subst e8;go_wp2_with fail;go_ret
   exact⟨_,rfl,Or.inl ⟨rfl,HS.out⟩,hb⟩
theorem a0N(g b o n cap:Nat)(l:Value)(V:Nat→Value)(p:Nat→Bool)(w:World)(eg: ∀args w,(callFunc g args).run prog w=.ok (.enter g args) w)
  (hc: ∀r,r<n→w.cell? (aD b (o+r))=some (V r)) (hp:uE g l n V p w) (hn:n≤10000):
  Calls prog 161 #[.slice (some (aD b o)) n cap,.func (.func g) #[] #[l]] w fun e w'=> ∃y:Bool,e=.returned (.bool y)∧(y=true↔ ∃r,r<n∧p r=true)∧Bl w w':=by
 go_enter func161,ntmps161
 go_wp2_with fail;refine(rO g b o n cap l V p w eg hc hp hn).mono ?_;rintro e w1 ⟨i,rfl,hi,hb⟩;clear hc hp;go_wp2_with fail;go_ret
 refine⟨_,rfl,?_,hb⟩;rcases hi with⟨rfl,h⟩|⟨r,hr,rfl,h,_⟩
 ·exact⟨fun e=>absurd e (by decide),fun⟨r,hr,he⟩=>by rw[h r hr]at he;exact absurd he (by decide)⟩
 ·exact⟨fun _=>⟨r,hr,h⟩,fun _=>by simp⟩
structure Arg(w:World)(v:Value)(n:Nat)(L:Nat→Nat)(f:Nat→Nat→Nat):Prop where
 bd:Gf.Bd2 f
 lies: ∃(A:Option Addr) (cap:Nat) (R:Nat→Option Addr) (C:Nat→Nat),v=.slice A n cap∧
  ∀r,r<n→ ∃b o,A=some (aD b o)∧w.cell? (aD b (o+r))=some (.slice (R r) (L r) (C r))∧ ∀k,k<L r→ ∃b' o',R r=some (aD b' o')∧w.cell? (aD b' (o'+k))=some (.int .u8 (f r k:Nat))
theorem Arg.below(h:Arg w v n L f)(hb:Bl w w'):Arg w' v n L f:=by
 obtain⟨A,A0,R,C,hv,hr⟩:=h.lies;refine⟨h.bd,A,A0,R,C,hv,fun r hrn=>?_⟩;obtain⟨b,o,h1,h2,h3⟩:=hr r hrn;refine⟨b,o,h1,by rw[hb.cell (p:=⟨b,o+r,none⟩) (World.block_lt_of_cell? _ _ h2)];exact h2,fun k hk=>?_⟩;obtain⟨b',o',h4,h5⟩:=h3 k hk;exact⟨b',o',h4,by rw[hb.cell (p:=⟨b',o'+k,none⟩) (World.block_lt_of_cell? _ _ h5)];exact h5⟩
def aB(n:Nat)(L:Nat→Nat):Nat:=if n<1∨12<n∨L 0<1∨400<L 0 then 5 else if∀r,r<n→L r=L 0 then 0 else 2
theorem a6Q(h:aB n L=0):1≤n∧n≤12∧1≤L 0∧L 0≤400∧ ∀r,r<n→L r=L 0:=by
 unfold aB at h;split at h
 ·cases h
 ·split at h
  ·rename_i h1 h2;exact⟨by omega,by omega,by omega,by omega,h2⟩
  ·cases h
theorem gB(h1:1≤n)(h2:n≤12)(h3:1≤L 0)(h4:L 0≤400)(h5: ∀r,r<n→L r=L 0):aB n L=0:=by
 unfold aB;rw[if_neg (by omega),if_pos h5]
theorem a5I(A:Option Addr)(l c B m:Nat)(w:World)(hc:w.cell? (aD B 0)=some (iV m)):
  Calls prog 160 #[.slice A l c,.pointer (some (aD B 0))] w fun e w'=>e=.returned (.bool (decide (l≠m)))∧Bl w w':=by
 by_cases h:l=m
 ·subst h;have H:Hid (decide (l≠l)=false):=by show decide (l≠l)=false;simp
  go_enter func160,ntmps160
  go_wp2_with fail;go_ret
  exact⟨jP H.out.symm,Below.refl _ _⟩
 ·have H:Hid (decide (l≠m)=true):=by show decide (l≠m)=true;simpa using h
  have h':((l:Int)==(m:Int))=false:=by rw[beq_eq_false_iff_ne];omega
  clear h;go_enter func160,ntmps160
  go_wp2_with fail;go_ret
  exact⟨jP (by rw[H.out];simp[bne,h']),Below.refl _ _⟩
theorem Tryz.enters_otherLen: ∀args w,(callFunc 160 args).run Tryz.prog w=.ok (.enter 160 args) w:=enters_of Tryz.func160 (by kernel_rfl) rfl
theorem l8(v:Value)(n:Nat)(L:Nat→Nat)(f:Nat→Nat→Nat)(w:World)(h:Arg w v n L f):
  Calls prog 136 #[v] w fun e w'=>e=.returned (iV (aB n L:Nat))∧Bl w w':=by
 obtain⟨A,A7,R,C,rfl,hr⟩:=h.lies;clear h;by_cases h1:n<1
 ·have H:Hid (aB n L=5):=by show aB n L=5;unfold aB;rw[if_pos (Or.inl h1)]
  have A1:(n:Int)<1:=by omega
  clear hr h1;go_enter func136,ntmps136
  go_wp2_with fail;go_ret
  exact⟨aH (by rw[H.out];rfl),Below.refl _ _⟩
 by_cases h2:12<n
 ·have H:Hid (aB n L=5):=by show aB n L=5;unfold aB;rw[if_pos (Or.inr (Or.inl h2))]
  have A1: ¬(n:Int)<1:=by omega
  have A8:(12:Int)<(n:Int):=by omega
  clear hr h1 h2;go_enter func136,ntmps136
  go_wp2_with fail;go_ret
  exact⟨aH (by rw[H.out];rfl),Below.refl _ _⟩
 obtain⟨b,o,rfl,A0,_⟩:=hr 0 (by omega);have hc: ∀r,r<n→w.cell? (aD b (o+r))=some (.slice (R r) (L r) (C r)):=fun r hrn=>by
  obtain⟨b',o',e1,e2,_⟩:=hr r hrn;cases e1
  exact e2
 clear hr;have A4:=World.block_lt_of_cell? _ _ A0;have A1: ¬(n:Int)<1:=by omega
 have A8: ¬(12:Int)<(n:Int):=by omega
 have Aa:(0:Int)<(n:Int):=by omega
 have A6:w.cell? (aD b o)=some (.slice (R 0) (L 0) (C 0)):=by simpa using A0
 clear A0;by_cases h3:L 0<1
 ·have H:Hid (aB n L=5):=by show aB n L=5;unfold aB;rw[if_pos (Or.inr (Or.inr (Or.inl h3)))]
  have A2:(L 0:Int)<1:=by omega
  clear h1 h2 h3 hc;go_enter func136,ntmps136
  go_wp2_with fail;go_ret
  exact⟨aH (by rw[H.out];rfl),aB8 _ _⟩
 by_cases h4:400<L 0
 ·have H:Hid (aB n L=5):=by show aB n L=5;unfold aB;rw[if_pos (Or.inr (Or.inr (Or.inr h4)))]
  have A2: ¬(L 0:Int)<1:=by omega
  have A5:(400:Int)<(L 0:Int):=by omega
  clear h1 h2 h3 h4 hc;go_enter func136,ntmps136
  go_wp2_with fail;go_ret
  exact⟨aH (by rw[H.out];rfl),aB8 _ _⟩
 have A2: ¬(L 0:Int)<1:=by omega
 have A5: ¬(400:Int)<(L 0:Int):=by omega
 have hn:n≤10000:=by omega
 have HL:Hid (¬(n<1∨12<n∨L 0<1∨400<L 0)):=by show¬_;omega
 have HC:=hd8 hc;clear h1 h2 h3 h4 hc;go_enter func136,ntmps136
 go_wp2_with fail;refine(a0N 160 b o n A7 _ (fun r=> .slice (R r) (L r) (C r)) (fun r=>decide (L r≠L 0)) _ Tryz.enters_otherLen ?_ ?_ hn).mono ?_
 ·intro r hr;exact(((Below.refl w.heap.size w).alloc (c9C _) _).cell (p:=⟨b,o+r,none⟩) A4).trans (HC.out r hr)
 ·intro r hr W hW;refine a5I (R r) (L r) (C r) w.heap.size (L 0) W ?_;rw[hW.cell (p:=⟨w.heap.size,0,none⟩) (by simp)];simp
 rintro e w1 ⟨y,rfl,hy,A9⟩;have A3:Bl w w1:=((Below.refl w.heap.size w).alloc (c9C _) _).trans (A9.mono (by simp));cases y with
 |true=>
  have H:Hid (aB n L=2):=by
   obtain⟨r,hr,he⟩:=hy.1 rfl;show aB n L=2;unfold aB;rw[if_neg HL.out,if_neg (fun h=>of_decide_eq_true he (h r hr))]
  clear hy;go_wp2_with fail;go_ret
  exact⟨aH (by rw[H.out];rfl),A3⟩
 |false=>
  have H:Hid (aB n L=0):=by
   show aB n L=0;unfold aB;rw[if_neg HL.out,if_pos (fun r hr=>Classical.byContradiction fun hne=>absurd (hy.2 ⟨r,hr,decide_eq_true hne⟩) (by decide))]
  clear hy;go_wp2_with fail;go_ret
  exact⟨aH (by rw[H.out];rfl),A3⟩
end Go.Proofs.YtmcaejooaaahdaaGreat
