import Derived.Test.YtmcaejooaaahdaaGreatZ02
set_option maxHeartbeats 8000000
set_option maxRecDepth 100000
namespace Go.Proofs.YtmcaejooaaahdaaGreat
open Go.Proofs.Tryz
variable {g:Nat} {w:World}
open Go.RowKit
theorem a5E(n:Int)(k:Nat)(h0:0≤n):(n/2^k).toNat=n.toNat/2^k:=by
 obtain⟨m,rfl⟩:=d0I h0;have e:((2:Int)^k)=((2^k:Nat):Int):=by simp
 rw[e,←Int.natCast_ediv,c9Q,c9Q]
theorem b1J(n:Int)(k:Nat)(h0:0≤n):0≤n/2^k∧n/2^k≤n:=
 ⟨Int.ediv_nonneg h0 (Int.pow_nonneg (by decide)),Int.ediv_le_self _ h0⟩
theorem a3J(b:Int)(k:Nat)(g0:0≤b)(g1:b≤255):(bits .and .u8 (b/2^k) 1==1)=decide (b.toNat/2^k%2=1):=by
 have hd:=b1J b k g0;rw[u8_and _ _ hd.1 (by omega) (by decide) (by decide),a5E b k g0,show(1:Int).toNat=1 from rfl,nat_mask1];generalize b.toNat/2^k%2=m;rw[Bool.eq_iff_iff,beq_iff_eq,decide_eq_true_iff];omega
theorem c7N(a:Int)(w:World)(h0:0≤a)(h1:a≤255):
  Calls prog 186 #[.int .u8 a] w fun e w'=>e=.returned (.int .u8 (Gf.txI a))∧w'=w:=by
 go_enter func186,ntmps186
 go_wp2
 ·have hz:(a/128==0)=true:=by assumption
  go_ret
  refine⟨aH (?_:a*2%256=_),rfl⟩;have A0:a/128=0:=by simpa using hz
  unfold Gf.txI Gf.tx;rw[if_pos (by omega)];omega
 ·have hz:(a/128==0)=false:=by assumption
  go_ret
  refine⟨aH (?_:bits BinOp.xor IntKind.u8 (a*2%256) 29=_),rfl⟩;have A0: ¬a/128=0:=by simpa using hz
  rw[u8_xor _ _ (by omega) (by omega) (by omega) (by omega)];unfold Gf.txI Gf.tx;rw[if_neg (by omega),show(a*2%256).toNat=a.toNat*2%256 by omega];rfl
theorem c0X(a:Int)(w:World)(h0:0≤a)(h1:a≤255):
  Calls prog 179 #[.int .u8 a] w fun e w'=>e=.returned (.agg #[.int .u8 a,.int .u8 (Gf.txI a),.int .u8 (Gf.txI (Gf.txI a)),.int .u8 (Gf.txI (Gf.txI (Gf.txI a))),.int .u8 (Gf.txI (Gf.txI (Gf.txI (Gf.txI a)))),.int .u8 (Gf.txI (Gf.txI (Gf.txI (Gf.txI (Gf.txI a))))),.int .u8 (Gf.txI (Gf.txI (Gf.txI (Gf.txI (Gf.txI (Gf.txI a)))))),.int .u8 (Gf.txI (Gf.txI (Gf.txI (Gf.txI (Gf.txI (Gf.txI (Gf.txI a)))))))])∧Bl w w':=by
 go_enter func179,ntmps179
 go_wp2
 refine wp_loop_rounds 9 ?_;iterate 8
  rw[rounds_succ];go_wp2_with fail;refine(c7N _ _ ?_ ?_).mono ?_
  ·first|assumption|exact(Gf.c1G _).1
  ·first|assumption|exact(Gf.c1G _).2
  rintro e w' ⟨rfl,rfl⟩;go_wp2_with fail
 rw[rounds_succ];go_wp2_with fail;exact bodyPost_ret (v:=.agg #[.int .u8 a,.int .u8 (Gf.txI a),.int .u8 (Gf.txI (Gf.txI a)),.int .u8 (Gf.txI (Gf.txI (Gf.txI a))),.int .u8 (Gf.txI (Gf.txI (Gf.txI (Gf.txI a)))),.int .u8 (Gf.txI (Gf.txI (Gf.txI (Gf.txI (Gf.txI a))))),.int .u8 (Gf.txI (Gf.txI (Gf.txI (Gf.txI (Gf.txI (Gf.txI a)))))),.int .u8 (Gf.txI (Gf.txI (Gf.txI (Gf.txI (Gf.txI (Gf.txI (Gf.txI a)))))))]) (by simp[results,results179,go_sem]) rfl ⟨rfl,(aB8 _ _).alloc (by simp) _⟩
theorem c0K(a:Int)(w:World)(h0:0≤a)(k:Nat)(hk:k<8):
  (w.alloc (.cells #[.int .u8 a,.int .u8 (Gf.txI a),.int .u8 (Gf.txI (Gf.txI a)),.int .u8 (Gf.txI (Gf.txI (Gf.txI a))),.int .u8 (Gf.txI (Gf.txI (Gf.txI (Gf.txI a)))),.int .u8 (Gf.txI (Gf.txI (Gf.txI (Gf.txI (Gf.txI a))))),.int .u8 (Gf.txI (Gf.txI (Gf.txI (Gf.txI (Gf.txI (Gf.txI a)))))),.int .u8 (Gf.txI (Gf.txI (Gf.txI (Gf.txI (Gf.txI (Gf.txI (Gf.txI a)))))))] 212)).cell? (aD w.heap.size k)=some (.int .u8 (Gf.wK k a)):=by
 rw[cell_of_row _ _ k _ 212 (0,0) (heap_alloc_new w _)];match k,hk with
 |0,_=>simp[Gf.gZ a h0]
 |1,_=>simp[Gf.jA,Gf.gZ a h0]
 |2,_=>simp[Gf.jA,Gf.gZ a h0]
 |3,_=>simp[Gf.jA,Gf.gZ a h0]
 |4,_=>simp[Gf.jA,Gf.gZ a h0]
 |5,_=>simp[Gf.jA,Gf.gZ a h0]
 |6,_=>simp[Gf.jA,Gf.gZ a h0]
 |7,_=>simp[Gf.jA,Gf.gZ a h0]
theorem b6D(a b:Int)(k:Nat)(h0:0≤a)(h1:a≤255)(g0:0≤b)(g1:b≤255)(h:(bits .and .u8 (b/2^k) 1==1)=true):
  bits .xor .u8 (Gf.iP a b k) (Gf.wK k a)=Gf.iP a b (k+1):=by
 rw[a3J b k g0 g1]at h;have m:=Gf.b6B a b k h0 h1;have t:=Gf.c5T k a h0 h1;rw[u8_xor _ _ m.1 (by omega) t.1 (by omega),Gf.b0N a b k (of_decide_eq_true h)]
theorem b9U(a b:Int)(k:Nat)(g0:0≤b)(g1:b≤255)(h:(bits .and .u8 (b/2^k) 1==1)=false):
  Gf.iP a b k=Gf.iP a b (k+1):=by
 rw[a3J b k g0 g1]at h;rw[Gf.b6V a b k (of_decide_eq_false h)]
theorem a4O(a b:Int)(w:World)(h0:0≤a)(h1:a≤255)(g0:0≤b)(g1:b≤255):
  Calls prog 164 #[.int .u8 a,.int .u8 b] w fun e w'=>e=.returned (.int .u8 (Gf.nX a b))∧Bl w w':=by
 go_enter func164,ntmps164
 go_wp2_with fail;refine(c0X a _ h0 h1).mono ?_;rintro e w1 ⟨rfl,hb⟩;go_wp2_with fail;have A0:=c0K a w1 h0;go_loop [6,10] (fun s i=> ∃k:Nat,k≤8∧i=iV k∧s=.int .u8 (Gf.iP a b k)) (fun _ i=>8-(intOf i).toNat)
 case atStart=>exact⟨0,c9D _,rfl,rfl⟩
 case round=>
  obtain⟨k,hk,rfl,rfl⟩:=hrel;by_cases A1:k<8
  ·have hc:=A0 k A1;clear A0;go_wp2
   ·have hy:(bits BinOp.and IntKind.u8 (b/2^k) 1==1)=true:=by assumption
    exact⟨⟨k+1,by omega,by go_num,cB (b6D a b k h0 h1 g0 g1 hy)⟩,by simp[intOf];omega⟩
   ·have hy:(bits BinOp.and IntKind.u8 (b/2^k) 1==1)=false:=by assumption
    exact⟨⟨k+1,by omega,by go_num,cB (b9U a b k g0 g1 hy)⟩,by simp[intOf];omega⟩
  ·clear A0;have e8:k=8:=by omega
   subst e8;go_wp2
   go_ret
   exact⟨rfl,hb.alloc hb.size _⟩
def Row(w:World)(g:Nat)(f:Nat→Int):Prop:=
 w.heap[g]?=some (.cells #[.int .u8 (f 0),.int .u8 (f 1),.int .u8 (f 2),.int .u8 (f 3),.int .u8 (f 4),.int .u8 (f 5),.int .u8 (f 6),.int .u8 (f 7)] 212)
theorem Row.cell{f:Nat→Int}(h:Row w g f)(k:Nat)(hk:k<8):w.cell? (aD g k)=some (.int .u8 (f k)):=by
 rw[cell_of_row _ _ k _ 212 (0,0) h];match k,hk with
 |0,_=>rfl
 |1,_=>rfl
 |2,_=>rfl
 |3,_=>rfl
 |4,_=>rfl
 |5,_=>rfl
 |6,_=>rfl
 |7,_=>rfl
theorem Row.frozen{f:Nat→Int}(h:Row w g f)(k:Nat):w.frozen? (aD g k)=false:=frozen_of_row w g k _ 212 h
theorem Row.lt{f:Nat→Int}(h:Row w g f):g<w.heap.size:=by
 unfold Row at h;exact(d1M.1 h).1
theorem Row.bE{w':World}{B:Nat}{f:Nat→Int}(h:Row w g f)(hb:Below B w w')(hg:g<B):Row w' g f:=by
 unfold Row;rw[hb.block g hg];exact h
theorem Row.other{f:Nat→Int}(h:Row w g f)(a:Addr)(v:Value)(hg:g≠a.block):Row (w.setCell a v) g f:=by
 unfold Row;rw[heap_setCell_other w a g v hg];exact h
theorem Row.put{f f':Nat→Int}(h:Row w g f)(k:Nat)(hk:k<8)(x:Int)(hx:f' k=x)(ho: ∀j,j≠k→f' j=f j):Row (w.setCell (aD g k) (.int .u8 x)) g f':=by
 unfold Row;rw[heap_setCell_same w g k _ 212 _ h,←hx];match k,hk with
 |0,_=>rw[ho 1 (by decide),ho 2 (by decide),ho 3 (by decide),ho 4 (by decide),ho 5 (by decide),ho 6 (by decide),ho 7 (by decide)];rfl
 |1,_=>rw[ho 0 (by decide),ho 2 (by decide),ho 3 (by decide),ho 4 (by decide),ho 5 (by decide),ho 6 (by decide),ho 7 (by decide)];rfl
 |2,_=>rw[ho 1 (by decide),ho 0 (by decide),ho 3 (by decide),ho 4 (by decide),ho 5 (by decide),ho 6 (by decide),ho 7 (by decide)];rfl
 |3,_=>rw[ho 1 (by decide),ho 2 (by decide),ho 0 (by decide),ho 4 (by decide),ho 5 (by decide),ho 6 (by decide),ho 7 (by decide)];rfl
 |4,_=>rw[ho 1 (by decide),ho 2 (by decide),ho 3 (by decide),ho 0 (by decide),ho 5 (by decide),ho 6 (by decide),ho 7 (by decide)];rfl
 |5,_=>rw[ho 1 (by decide),ho 2 (by decide),ho 3 (by decide),ho 4 (by decide),ho 0 (by decide),ho 6 (by decide),ho 7 (by decide)];rfl
 |6,_=>rw[ho 1 (by decide),ho 2 (by decide),ho 3 (by decide),ho 4 (by decide),ho 5 (by decide),ho 0 (by decide),ho 7 (by decide)];rfl
 |7,_=>rw[ho 1 (by decide),ho 2 (by decide),ho 3 (by decide),ho 4 (by decide),ho 5 (by decide),ho 6 (by decide),ho 0 (by decide)];rfl
def a6T(a:Int)(k:Nat)(j:Nat):Int:=if j<k then Gf.fQ j a else 0
theorem b5O(a:Int)(k:Nat):a6T a (k+1) k=Gf.fQ k a:=by
 unfold a6T;rw[if_pos (by omega)]
theorem b6E(a:Int)(k j:Nat)(h:j≠k):a6T a (k+1) j=a6T a k j:=by
 unfold a6T;by_cases hj:j<k
 ·rw[if_pos (by omega),if_pos hj]
 ·rw[if_neg (by omega),if_neg hj]
theorem b3F(w:World)(a:Int):
  Row ((w.alloc (.cells #[.int .u8 0,.int .u8 0,.int .u8 0,.int .u8 0,.int .u8 0,.int .u8 0,.int .u8 0,.int .u8 0] 212)).alloc (.cells #[.int .u8 0,.int .u8 0,.int .u8 0,.int .u8 0,.int .u8 0,.int .u8 0,.int .u8 0,.int .u8 0] 212)) w.heap.size (fun _=>0)∧
  Row ((w.alloc (.cells #[.int .u8 0,.int .u8 0,.int .u8 0,.int .u8 0,.int .u8 0,.int .u8 0,.int .u8 0,.int .u8 0] 212)).alloc (.cells #[.int .u8 0,.int .u8 0,.int .u8 0,.int .u8 0,.int .u8 0,.int .u8 0,.int .u8 0,.int .u8 0] 212)) (w.heap.size+1) (a6T a 0):=
 ⟨heap_alloc2_old w _ _,heap_alloc2_new w _ _⟩
theorem c6R(a:Int)(w:World)(h0:0≤a)(h1:a≤255):
  Calls prog 187 #[.int .u8 a] w fun e w'=>e=.returned (.agg #[.int .u8 (Gf.fQ 0 a),.int .u8 (Gf.fQ 1 a),.int .u8 (Gf.fQ 2 a),.int .u8 (Gf.fQ 3 a),.int .u8 (Gf.fQ 4 a),.int .u8 (Gf.fQ 5 a),.int .u8 (Gf.fQ 6 a),.int .u8 (Gf.fQ 7 a)])∧Bl w w':=by
 go_enter func187,ntmps187
 go_wp2
 go_loopw [0,5] (fun x i wr=> ∃k:Nat,k≤8∧i=iV k∧x=.int .u8 (Gf.fQ k a)∧Row wr w.heap.size (fun _=>0)∧Row wr (w.heap.size+1) (a6T a k)∧Bl w wr) (fun _ i _=>8-(intOf i).toNat)
 case atStart=>exact⟨0,c9D _,rfl,cB (Gf.b8C a h0).symm,(b3F w a).1,(b3F w a).2,(aB8 _ _).alloc (by simp) _⟩
 case round=>
  obtain⟨k,hk,rfl,rfl,A1,A0,hb⟩:=hrel;have hs:=Gf.b4E k a h0 h1;by_cases A3:k<8
  ·have hc:=A0.cell k A3;have hf:=A0.frozen k;go_wp2_with fail;refine(a4O _ _ _ hs.1 hs.2 hs.1 hs.2).mono ?_;rintro e w1 ⟨rfl,A2⟩;go_wp2_with fail;have A4:=A1.lt;have A5:=A0.lt;have q0:=(A1.other (aD (w.heap.size+1) k) (.int .u8 (Gf.fQ k a)) (by simp)).bE A2 (by simpa using A4);have q1:=(A0.put k A3 (Gf.fQ k a) (b5O a k) (b6E a k)).bE A2 (by simpa using A5);have qb:=(hb.setCell (p:=⟨w.heap.size+1,k,none⟩) (c9O _) (.int .u8 (Gf.fQ k a))).trans (A2.mono (by simp;omega));exact⟨⟨k+1,by omega,by go_num,cB (Gf.b7D k a).symm,q0,q1,qb⟩,by simp[intOf];omega⟩
  ·have e8:k=8:=by omega
   subst e8;have c0:=A0.cell 0 (by decide);have c1:=A0.cell 1 (by decide);have c2:=A0.cell 2 (by decide);have c3:=A0.cell 3 (by decide);have c4:=A0.cell 4 (by decide);have c5:=A0.cell 5 (by decide);have c6:=A0.cell 6 (by decide);have c7:=A0.cell 7 (by decide);simp only[a6T,Nat.reduceLT,if_true]at c0 c1 c2 c3 c4 c5 c6 c7;have d0:=A1.cell 0 (by decide);have d1:=A1.cell 1 (by decide);have d2:=A1.cell 2 (by decide);have d3:=A1.cell 3 (by decide);have d4:=A1.cell 4 (by decide);have d5:=A1.cell 5 (by decide);have d6:=A1.cell 6 (by decide);have d7:=A1.cell 7 (by decide);have f0:=A1.frozen;clear A1 A0;go_wp2
   exact bodyPost_ret (v:=.agg #[.int .u8 (Gf.fQ 0 a),.int .u8 (Gf.fQ 1 a),.int .u8 (Gf.fQ 2 a),.int .u8 (Gf.fQ 3 a),.int .u8 (Gf.fQ 4 a),.int .u8 (Gf.fQ 5 a),.int .u8 (Gf.fQ 6 a),.int .u8 (Gf.fQ 7 a)]) (by simp[results,results187,go_sem,d0,d1,d2,d3,d4,d5,d6,d7]) rfl
    ⟨rfl,(((((((hb.setCell (c9C _) _).setCell (c9C _) _).setCell (c9C _) _).setCell (c9C _) _).setCell (c9C _) _).setCell (c9C _) _).setCell (c9C _) _).setCell (c9C _) _⟩
theorem b3H(a b:Int)(h1:0≤a)(h2:a<9223372036854775808)(h3:0≤b)(h4:b<9223372036854775808):bits .and .i64 a b=((a.toNat&&&b.toNat:Nat):Int):=by
 obtain⟨A,rfl⟩:=d0I h1;obtain⟨B,rfl⟩:=d0I h3;have hx:A&&&B<2^63:=Nat.and_lt_two_pow _ (by omega);show IntKind.i64.wrap ((BitVec.ofInt 64 (A:Int)&&&BitVec.ofInt 64 (B:Int)).toNat:Int)=_;rw[BitVec.toNat_and,ofInt_u64 A (by omega),ofInt_u64 B (by omega),IntKind.wrap_i64,c9Q,c9Q];omega
theorem b2X(b:Int)(k:Nat)(g0:0≤b)(g1:b≤255):(bits .and .i64 (b/2^k) 1==1)=decide (b.toNat/2^k%2=1):=by
 have hd:=b1J b k g0;rw[b3H _ _ hd.1 (by omega) (by decide) (by decide),a5E b k g0,show(1:Int).toNat=1 from rfl,nat_mask1];generalize b.toNat/2^k%2=m;rw[Bool.eq_iff_iff,beq_iff_eq,decide_eq_true_iff];omega
theorem c4C(w:World)(f:Nat→Int):
  Row (w.alloc (.cells #[.int .u8 (f 0),.int .u8 (f 1),.int .u8 (f 2),.int .u8 (f 3),.int .u8 (f 4),.int .u8 (f 5),.int .u8 (f 6),.int .u8 (f 7)] 212)) w.heap.size f:=
 heap_alloc_new w _
theorem b5S(a n:Int)(w:World)(h0:0≤a)(h1:a≤255)(g0:0≤n)(g1:n≤255):
  Calls prog 185 #[.int .u8 a,iV n] w fun e w'=>e=.returned (.int .u8 (Gf.nJ a n))∧Bl w w':=by
 go_enter func185,ntmps185
 go_wp2_with fail;refine(c6R a _ h0 h1).mono ?_;rintro e w1 ⟨rfl,hb⟩;go_wp2_with fail;go_loopw [6,10] (fun s i wr=> ∃k:Nat,k≤8∧i=iV k∧s=.int .u8 (Gf.gO a n k)∧Row wr w1.heap.size (fun j=>Gf.fQ j a)∧Bl w wr) (fun _ i _=>8-(intOf i).toNat)
 case atStart=>exact⟨0,c9D _,rfl,rfl,c4C w1 (fun j=>Gf.fQ j a),hb.alloc hb.size _⟩
 case round=>
  obtain⟨k,hk,rfl,rfl,hr,A2⟩:=hrel;have hs:=Gf.b4E k a h0 h1;have hp:=Gf.a7A a n k;by_cases A4:k<8
  ·have hc:=hr.cell k A4;have hl:=hr.lt;by_cases A0:(bits BinOp.and IntKind.i64 (n/2^k) 1==1)=true
   ·have hy:n.toNat/2^k%2=1:=by
     rw[b2X n k g0 g1]at A0;exact of_decide_eq_true A0
    have HY:=hd8 hy;clear hy;go_wp2_with fail;refine(a4O _ _ _ hp.1 hp.2 hs.1 hs.2).mono ?_;rintro e w2 ⟨rfl,A3⟩;go_wp2_with fail;exact⟨⟨k+1,by omega,by go_num,cB (Gf.a5B a n k HY.out).symm,hr.bE A3 hl,A2.trans (A3.mono A2.size)⟩,by simp[intOf];omega⟩
   ·have A1:(bits BinOp.and IntKind.i64 (n/2^k) 1==1)=false:=by simpa using A0
    have hy: ¬n.toNat/2^k%2=1:=by
     rw[b2X n k g0 g1]at A1;exact of_decide_eq_false A1
    have HY:=hd8 hy;clear hy A0;go_wp2_with fail;exact⟨⟨k+1,by omega,by go_num,cB (Gf.a7W a n k HY.out).symm,hr,A2⟩,by simp[intOf];omega⟩
  ·have e8:k=8:=by omega
   subst e8;go_wp2
   go_ret
   exact⟨rfl,A2⟩
end Go.Proofs.YtmcaejooaaahdaaGreat
