import Derived.Test.YtmcaejooaaahdaaGreatZ01
set_option maxHeartbeats 8000000
set_option maxRecDepth 100000
namespace Go.Proofs.YtmcaejooaaahdaaGreat.Gf
open Go.Proofs.Tryz
variable {a b j:Nat}
def c1Z(n:Nat)(p:Nat→Bool):Bool:=(List.range n).all p
theorem a3F{n:Nat}{p:Nat→Bool}(h:c1Z n p=true)(a:Nat)(ha:a<n):p a=true:=by
 unfold c1Z at h;rw[List.all_eq_true]at h;exact h a (d0D.2 ha)
theorem fG(ha:a<256)(hb:b<256):a^^^b<256:=d2A (n:=8) ha hb
theorem gL(a b c d:Nat):(a^^^b)^^^(c^^^d)=(a^^^c)^^^(b^^^d):=by
 rw[d1D,d1D,←d1D b c d,Nat.xor_comm b c,d1D c b d]
theorem b3I(c k x y:Nat):sel c k (x^^^y)=sel c k x^^^sel c k y:=by
 unfold sel;split
 ·rfl
 ·rw[d0R]
theorem yX(b c k x:Nat):sel (b^^^c) k x=sel b k x^^^sel c k x:=by
 unfold sel;have e: ∀n:Nat,(n/2^k%2=1)↔n.testBit k=true:=fun n=>by
  rw[Nat.testBit_eq_decide_div_mod_eq,decide_eq_true_iff]
 simp only[e,Nat.testBit_xor];cases b.testBit k<;>cases c.testBit k<;>simp
theorem c1N(a:Nat):tx a=(a*2%256)^^^(if a/128=0 then 0 else 29):=by
 unfold tx;split
 ·rw[d0R]
 ·rfl
theorem a4N(ha:a<256)(hb:b<256):tx (a^^^b)=tx a^^^tx b:=by
 have e1:(a^^^b)*2%256=(a*2%256)^^^(b*2%256):=by
  have h:=Nat.shiftLeft_xor_distrib (i:=1) (a:=a) (b:=b);rw[Nat.shiftLeft_eq,Nat.shiftLeft_eq,Nat.shiftLeft_eq]at h;rw[show(a^^^b)*2=(a^^^b)*2^1 from rfl,h];exact Nat.xor_mod_two_pow (n:=8)
 have e2:(a^^^b)/128=(a/128)^^^(b/128):=by
  have h:=Nat.shiftRight_xor_distrib (i:=7) (a:=a) (b:=b);rw[Nat.shiftRight_eq_div_pow,Nat.shiftRight_eq_div_pow,Nat.shiftRight_eq_div_pow]at h;exact h
 have da:a/128=0∨a/128=1:=by omega
 have db:b/128=0∨b/128=1:=by omega
 rw[c1N,c1N a,c1N b,e1,e2,gL];rcases da with da|da<;>rcases db with db|db<;>rw[da,db]<;>rfl
theorem b4K(ha:a<256)(hb:b<256):(k:Nat)→txk k (a^^^b)=txk k a^^^txk k b
 |0=>rfl
 |k+1=>by
  show tx (txk k (a^^^b))=tx (txk k a)^^^tx (txk k b)
  rw[b4K ha hb k,a4N (zI ha k) (zI hb k)]
theorem oG(c:Nat)(ha:a<256)(hb:b<256):(k:Nat)→gD (a^^^b) c k=gD a c k^^^gD b c k
 |0=>(c9V 0).symm
 |k+1=>by
  show gD (a^^^b) c k^^^sel c k (txk k (a^^^b))=(gD a c k^^^sel c k (txk k a))^^^(gD b c k^^^sel c k (txk k b))
  rw[oG c ha hb k,b4K ha hb k,b3I,gL]
theorem eZ(c:Nat)(ha:a<256)(hb:b<256):mul (a^^^b) c=mul a c^^^mul b c:=oG c ha hb 8
theorem nV(a b c:Nat):(k:Nat)→gD a (b^^^c) k=gD a b k^^^gD a c k
 |0=>(c9V 0).symm
 |k+1=>by
  show gD a (b^^^c) k^^^sel (b^^^c) k (txk k a)=(gD a b k^^^sel b k (txk k a))^^^(gD a c k^^^sel c k (txk k a))
  rw[nV a b c k,yX,gL]
theorem dB(a b c:Nat):mul a (b^^^c)=mul a b^^^mul a c:=nV a b c 8
theorem aQ(a:Nat):mul a 0=0:=by
 have h:=dB a 0 0;rw[c9V,c9V]at h;exact h
theorem cM(c:Nat):mul 0 c=0:=by
 have h:=eZ (a:=0) (b:=0) c (by decide) (by decide);rw[c9V,c9V]at h;exact h
theorem a3X:tx 0=0:=rfl
def dec(b:Nat):Nat:=sel b 0 1^^^(sel b 1 2^^^(sel b 2 4^^^(sel b 3 8^^^(sel b 4 16^^^(sel b 5 32^^^(sel b 6 64^^^sel b 7 128))))))
theorem c5C:(c1Z 256 fun b=>dec b==b)=true:=by decide+kernel
theorem c6W(hb:b<256):dec b=b:=by simpa using a3F c5C b hb
def Lin(f:Nat→Nat):Prop:=f 0=0∧ ∀x y,x<256→y<256→f (x^^^y)=f x^^^f y
theorem Lin.sel{f:Nat→Nat}(h:Lin f)(b k x:Nat):f (Gf.sel b k x)=Gf.sel b k (f x):=by
 unfold Gf.sel;split
 ·rfl
 ·exact h.1
theorem Lin.dec{f:Nat→Nat}(h:Lin f)(b:Nat):
  f (Gf.dec b)=Gf.sel b 0 (f 1)^^^(Gf.sel b 1 (f 2)^^^(Gf.sel b 2 (f 4)^^^(Gf.sel b 3 (f 8)^^^(Gf.sel b 4 (f 16)^^^(Gf.sel b 5 (f 32)^^^(Gf.sel b 6 (f 64)^^^Gf.sel b 7 (f 128))))))):=by
 have s: ∀k x,x<256→Gf.sel b k x<256:=fun k x hx=>b9M b k hx;have s7:=s 7 128 (by decide);have s6:=s 6 64 (by decide);have s5:=s 5 32 (by decide);have s4:=s 4 16 (by decide);have s3:=s 3 8 (by decide);have s2:=s 2 4 (by decide);have s1:=s 1 2 (by decide);have s0:=s 0 1 (by decide);have t6:=fG s6 s7;have t5:=fG s5 t6;have t4:=fG s4 t5;have t3:=fG s3 t4;have t2:=fG s2 t3;have t1:=fG s1 t2;unfold Gf.dec;rw[h.2 _ _ s0 t1,h.2 _ _ s1 t2,h.2 _ _ s2 t3,h.2 _ _ s3 t4,h.2 _ _ s4 t5,h.2 _ _ s5 t6,h.2 _ _ s6 s7];rw[h.sel,h.sel,h.sel,h.sel,h.sel,h.sel,h.sel,h.sel]
theorem pV{f g:Nat→Nat}(hf:Lin f)(hg:Lin g)(h0:f 1=g 1)(h1:f 2=g 2)(h2:f 4=g 4)(h3:f 8=g 8)(h4:f 16=g 16)(h5:f 32=g 32)(h6:f 64=g 64)(h7:f 128=g 128)
  {b:Nat} (hb:b<256):f b=g b:=by
 rw[←c6W hb,hf.dec,hg.dec,h0,h1,h2,h3,h4,h5,h6,h7]
theorem sR(a:Nat):Lin (fun b=>mul a b):=⟨aQ a,fun x y _ _=>dB a x y⟩
theorem tC(c:Nat):Lin (fun b=>mul b c):=⟨cM c,fun _ _ hx hy=>eZ c hx hy⟩
theorem b0Q(a:Nat):Lin (fun b=>mul a (tx b)):=
 ⟨by show mul a (tx 0)=0;rw[a3X,aQ],fun x y hx hy=>by show mul a (tx (x^^^y))=_;rw[a4N hx hy,dB]⟩
theorem a6W(ha:a<256):Lin (fun b=>tx (mul a b)):=
 ⟨by show tx (mul a 0)=0;rw[aQ,a3X],fun x y _ _=>by show tx (mul a (x^^^y))=_;rw[dB,a4N (dN x ha) (dN y ha)]⟩
theorem a7R(c:Nat):Lin (fun b=>tx (mul b c)):=
 ⟨by show tx (mul 0 c)=0;rw[cM,a3X],fun x y hx hy=>by show tx (mul (x^^^y) c)=_;rw[eZ c hx hy,a4N (dN c hx) (dN c hy)]⟩
theorem lL(h0:mul 1 j=mul j 1)(h1:mul 2 j=mul j 2)(h2:mul 4 j=mul j 4)(h3:mul 8 j=mul j 8)(h4:mul 16 j=mul j 16)(h5:mul 32 j=mul j 32)(h6:mul 64 j=mul j 64)(h7:mul 128 j=mul j 128)
  {a:Nat} (ha:a<256):mul a j=mul j a:=
 pV (tC j) (sR j) h0 h1 h2 h3 h4 h5 h6 h7 ha
theorem mul_comm(ha:a<256)(hb:b<256):mul a b=mul b a:=
 pV (sR a) (tC a)
  (lL (by decide) (by decide) (by decide) (by decide) (by decide) (by decide) (by decide) (by decide) ha)
  (lL (by decide) (by decide) (by decide) (by decide) (by decide) (by decide) (by decide) (by decide) ha)
  (lL (by decide) (by decide) (by decide) (by decide) (by decide) (by decide) (by decide) (by decide) ha)
  (lL (by decide) (by decide) (by decide) (by decide) (by decide) (by decide) (by decide) (by decide) ha)
  (lL (by decide) (by decide) (by decide) (by decide) (by decide) (by decide) (by decide) (by decide) ha)
  (lL (by decide) (by decide) (by decide) (by decide) (by decide) (by decide) (by decide) (by decide) ha)
  (lL (by decide) (by decide) (by decide) (by decide) (by decide) (by decide) (by decide) (by decide) ha)
  (lL (by decide) (by decide) (by decide) (by decide) (by decide) (by decide) (by decide) (by decide) ha) hb
theorem oI(h0:mul 1 (tx j)=tx (mul 1 j))(h1:mul 2 (tx j)=tx (mul 2 j))(h2:mul 4 (tx j)=tx (mul 4 j))(h3:mul 8 (tx j)=tx (mul 8 j))(h4:mul 16 (tx j)=tx (mul 16 j))(h5:mul 32 (tx j)=tx (mul 32 j))(h6:mul 64 (tx j)=tx (mul 64 j))(h7:mul 128 (tx j)=tx (mul 128 j))
  {a:Nat} (ha:a<256):mul a (tx j)=tx (mul a j):=
 pV (tC (tx j)) (a7R j) h0 h1 h2 h3 h4 h5 h6 h7 ha
theorem c7I(ha:a<256)(hb:b<256):mul a (tx b)=tx (mul a b):=
 pV (b0Q a) (a6W ha)
  (oI (by decide) (by decide) (by decide) (by decide) (by decide) (by decide) (by decide) (by decide) ha)
  (oI (by decide) (by decide) (by decide) (by decide) (by decide) (by decide) (by decide) (by decide) ha)
  (oI (by decide) (by decide) (by decide) (by decide) (by decide) (by decide) (by decide) (by decide) ha)
  (oI (by decide) (by decide) (by decide) (by decide) (by decide) (by decide) (by decide) (by decide) ha)
  (oI (by decide) (by decide) (by decide) (by decide) (by decide) (by decide) (by decide) (by decide) ha)
  (oI (by decide) (by decide) (by decide) (by decide) (by decide) (by decide) (by decide) (by decide) ha)
  (oI (by decide) (by decide) (by decide) (by decide) (by decide) (by decide) (by decide) (by decide) ha)
  (oI (by decide) (by decide) (by decide) (by decide) (by decide) (by decide) (by decide) (by decide) ha) hb
theorem b3P(ha:a<256)(hb:b<256):(k:Nat)→mul a (txk k b)=txk k (mul a b)
 |0=>rfl
 |k+1=>by
  show mul a (tx (txk k b))=tx (txk k (mul a b))
  rw[c7I ha (zI hb k),b3P ha hb k]
theorem wJ(c:Nat)(ha:a<256)(hb:b<256):(k:Nat)→gD (mul a b) c k=mul a (gD b c k)
 |0=>(aQ a).symm
 |k+1=>by
  show gD (mul a b) c k^^^sel c k (txk k (mul a b))=mul a (gD b c k^^^sel c k (txk k b))
  rw[dB,wJ c ha hb k,(sR a).sel,b3P ha hb k]
theorem mul_assoc(c:Nat)(ha:a<256)(hb:b<256):mul (mul a b) c=mul a (mul b c):=wJ c ha hb 8
theorem c4H:(c1Z 256 fun a=>mul a 1==a)=true:=by decide+kernel
theorem mul_one(ha:a<256):mul a 1=a:=by simpa using a3F c4H a ha
theorem one_mul(ha:a<256):mul 1 a=a:=by rw[mul_comm (by decide) ha,mul_one ha]
def inv(a:Nat):Nat:=b8V a 254
theorem jH(a:Nat):inv a<256:=c2W a 254
theorem c5N:(c1Z 255 fun a=>mul (a+1) (inv (a+1))==1)=true:=by decide+kernel
theorem c2T:inv 0=0:=by decide+kernel
theorem mR(ha:a<256)(h0:a≠0):mul a (inv a)=1:=by
 have h:=a3F c5N (a-1) (by omega);rw[Nat.sub_add_cancel (by omega)]at h;simpa using h
theorem b9C(ha:a<256)(hb:b<256)(h0:b≠0):mul (mul a b) (inv b)=a:=by
 rw[mul_assoc _ ha hb,mR hb h0,mul_one ha]
theorem b9Y(ha:a<256)(hb:b<256)(h:mul a b=1):b=inv a:=by
 have h0:a≠0:=fun e=>by rw[e,cM]at h;exact absurd h (by decide)
 rw[←one_mul hb,←mR ha h0,mul_comm ha (jH a),mul_assoc _ (jH a) ha,h,mul_one (jH a)]
theorem a4F(ha:a<256)(h0:a≠0):inv a≠0:=fun e=>by
 have h:=mR ha h0
 rw[e,aQ]at h
 exact absurd h (by decide)
theorem jQ(ha:a<256)(hb:b<256):mul a b=0↔a=0∨b=0:=by
 refine⟨fun h=>?_,fun h=>?_⟩
 ·by_cases h0:b=0
  ·exact Or.inr h0
  ·refine Or.inl ?_;rw[←b9C ha hb h0,h,cM]
 ·rcases h with h|h
  ·rw[h,cM]
  ·rw[h,aQ]
end Go.Proofs.YtmcaejooaaahdaaGreat.Gf
