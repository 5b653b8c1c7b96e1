import Derived.Test.YtmcaejooaaahdaaGreatZ02
import Derived.Test.YtmcaejooaaahdaaGreatZ04
import Derived.Lib.ConvBytes
set_option maxHeartbeats 8000000
set_option maxRecDepth 100000
namespace Go.Proofs.YtmcaejooaaahdaaGreat.Evt
open Go.Proofs.Tryz
variable {N a b c i j n p s x:Nat} {g':Nat→Nat} {h:Int} {v:Value} {w:World}
structure Ev where
 name:List Nat
 kind:Int
 num:Int
structure Bat where
 cmd:Int
 evs:List Ev
def eR(c:Nat):Bool:=decide ((97≤c∧c≤122)∨(48≤c∧c≤57))
theorem eO(c:Nat):eR c=true↔(97≤c∧c≤122)∨(48≤c∧c≤57):=decide_eq_true_iff
abbrev cV(s:List Nat):Prop:=s.all eR=true∧1≤s.length∧s.length≤10
def aB(e:Ev):Nat:=if¬cV e.name then 7 else if e.kind<1∨4<e.kind then 1 else if e.num<0∨1000000<e.num∨(0<e.num∧e.kind≠2∧e.kind≠3)then 3 else 0
theorem pK{e:Ev}(h: ¬cV e.name):aB e=7:=if_pos h
theorem lD{e:Ev}(h:cV e.name)(h2:e.kind<1∨4<e.kind):aB e=1:=by unfold aB;rw[if_neg (fun k=>k h),if_pos h2]
theorem gA{e:Ev}(h:cV e.name)(h2: ¬(e.kind<1∨4<e.kind))(h3:e.num<0∨1000000<e.num∨(0<e.num∧e.kind≠2∧e.kind≠3)):aB e=3:=by unfold aB;rw[if_neg (fun k=>k h),if_neg h2,if_pos h3]
theorem f9{e:Ev}(h:cV e.name)(h2: ¬(e.kind<1∨4<e.kind))(h3: ¬(e.num<0∨1000000<e.num∨(0<e.num∧e.kind≠2∧e.kind≠3))):aB e=0:=by unfold aB;rw[if_neg (fun k=>k h),if_neg h2,if_neg h3]
theorem eN{e:Ev}(h:aB e=0):cV e.name∧1≤e.kind∧e.kind≤4∧0≤e.num∧e.num≤1000000:=by
 by_cases h1:cV e.name
 ·by_cases h2:e.kind<1∨4<e.kind
  ·rw[lD h1 h2]at h;cases h
  ·by_cases h3:e.num<0∨1000000<e.num∨(0<e.num∧e.kind≠2∧e.kind≠3)
   ·rw[gA h1 h2 h3]at h;cases h
   ·exact⟨h1,by omega,by omega,by omega,by omega⟩
 ·rw[pK h1]at h;cases h
def gV:List Ev→Nat→Nat×Nat
 |[],_=>(0,0)
 |e::r,i=>if aB e=0 then gV r (i+1)else(aB e,i)
theorem uM: ∀(l:List Ev) (i k:Nat),(∀j,j<k→ ∃e,l[j]?=some e∧aB e=0)→gV l i=gV (l.drop k) (i+k)
 |l,i,0,_=>rfl
 |[],i,k+1,h=>by
  obtain⟨e,he,_⟩:=h 0 (Nat.succ_pos k)
  cases he
 |x::l,i,k+1,h=>by
  obtain⟨e,he,hw⟩:=h 0 (Nat.succ_pos k)
  cases he
  show(if aB x=0 then gV l (i+1)else _)=gV (l.drop k) (i+(k+1))
  rw[if_pos hw,show i+(k+1)=i+1+k by omega]
  exact uM l (i+1) k (fun j hj=>by simpa using h (j+1) (by omega))
theorem vG(l:List Ev)(i:Nat)(h: ∀e,e∈l→aB e=0):gV l i=(0,0):=by
 rw[uM l i l.length (fun j hj=>⟨l[j],c9F hj,h _ (List.getElem_mem hj)⟩),d0T];rfl
theorem wF(l:List Ev)(k:Nat)(e:Ev)(he:l[k]?=some e)(hw:aB e≠0)(h: ∀j,j<k→ ∃e,l[j]?=some e∧aB e=0):gV l 0=(aB e,k):=by
 rw[uM l 0 k h,c9G];obtain⟨hk,rfl⟩:=c9H.1 he;rw[d2L hk];exact if_neg hw
theorem a2H: ∀{l:List Ev} {i:Nat},(gV l i).1=0→ ∀e,e∈l→aB e=0
 |[],_,_,e,he=>by cases he
 |x::l,i,h,e,he=>by
  have h:(if aB x=0 then gV l (i+1)else(aB x,i)).1=0:=h
  by_cases hx:aB x=0
  ·rw[if_pos hx]at h
   rcases List.mem_cons.1 he with rfl|he
   ·exact hx
   ·exact a2H h e he
  ·rw[if_neg hx]at h
   exact absurd h hx
def aA(b:Bat):Nat×Nat:=if b.cmd<1∨1000000<b.cmd then(3,0)else if b.evs.length=0∨10<b.evs.length then(5,0)else gV b.evs 0
theorem bI{b:Bat}(h:b.cmd<1∨1000000<b.cmd):aA b=(3,0):=if_pos h
theorem eB{b:Bat}(h: ¬(b.cmd<1∨1000000<b.cmd))(h2:b.evs.length=0∨10<b.evs.length):aA b=(5,0):=by unfold aA;rw[if_neg h,if_pos h2]
theorem pE{b:Bat}(h: ¬(b.cmd<1∨1000000<b.cmd))(h2: ¬(b.evs.length=0∨10<b.evs.length)):aA b=gV b.evs 0:=by unfold aA;rw[if_neg h,if_neg h2]
theorem bN{b:Bat}(h:(aA b).1=0):1≤b.cmd∧b.cmd≤1000000∧1≤b.evs.length∧b.evs.length≤10∧ ∀e,e∈b.evs→aB e=0:=by
 by_cases h1:b.cmd<1∨1000000<b.cmd
 ·rw[bI h1]at h;cases h
 ·by_cases h2:b.evs.length=0∨10<b.evs.length
  ·rw[eB h1 h2]at h;cases h
  ·rw[pE h1 h2]at h;exact⟨by omega,by omega,by omega,by omega,a2H h⟩
def gT:List Bat→Nat→Nat×Nat
 |[],_=>(0,0)
 |b::r,i=>if (aA b).1=0 then gT r (i+1)else((aA b).1,i)
theorem uR: ∀(l:List Bat) (i k:Nat),(∀j,j<k→ ∃e,l[j]?=some e∧(aA e).1=0)→gT l i=gT (l.drop k) (i+k)
 |l,i,0,_=>rfl
 |[],i,k+1,h=>by
  obtain⟨e,he,_⟩:=h 0 (Nat.succ_pos k)
  cases he
 |x::l,i,k+1,h=>by
  obtain⟨e,he,hw⟩:=h 0 (Nat.succ_pos k)
  cases he
  show(if (aA x).1=0 then gT l (i+1)else _)=gT (l.drop k) (i+(k+1))
  rw[if_pos hw,show i+(k+1)=i+1+k by omega]
  exact uR l (i+1) k (fun j hj=>by simpa using h (j+1) (by omega))
theorem lI(l:List Bat)(i:Nat)(h: ∀e,e∈l→(aA e).1=0):gT l i=(0,0):=by
 rw[uR l i l.length (fun j hj=>⟨l[j],c9F hj,h _ (List.getElem_mem hj)⟩),d0T];rfl
theorem oT(l:List Bat)(k:Nat)(e:Bat)(he:l[k]?=some e)(hw:(aA e).1≠0)(h: ∀j,j<k→ ∃e,l[j]?=some e∧(aA e).1=0):gT l 0=((aA e).1,k):=by
 rw[uR l 0 k h,c9G];obtain⟨hk,rfl⟩:=c9H.1 he;rw[d2L hk];exact if_neg hw
theorem a0Z: ∀{l:List Bat} {i:Nat},(gT l i).1=0→ ∀e,e∈l→(aA e).1=0
 |[],_,_,e,he=>by cases he
 |x::l,i,h,e,he=>by
  have h:(if (aA x).1=0 then gT l (i+1)else((aA x).1,i)).1=0:=h
  by_cases hx:(aA x).1=0
  ·rw[if_pos hx]at h
   rcases List.mem_cons.1 he with rfl|he
   ·exact hx
   ·exact a0Z h e he
  ·rw[if_neg hx]at h
   exact absurd h hx
def aF(l:List Bat):Nat×Nat:=if 150<l.length then(5,0)else gT l 0
theorem kG{l:List Bat}(h:(aF l).1=0):l.length≤150∧ ∀b,b∈l→(aA b).1=0:=by
 unfold aF at h;split at h
 ·cases h
 ·exact⟨by omega,a0Z h⟩
def dL(n:Nat):List Nat:=[n/65536,n/256%256,n%256]
def iI(e:Ev):List Nat:=e.name.length::e.name++(e.kind.toNat::dL e.num.toNat)
def jS(b:Bat):List Nat:=dL b.cmd.toNat++(b.evs.length::b.evs.flatMap iI)
def iK(l:List Bat):List Nat:=l.length::l.flatMap jS
def num:Nat→Nat→List Nat→Option (Nat×List Nat)
 |0,acc,r=>some (acc,r)
 |_+1,_,[]=>none
 |k+1,acc,x::r=>num k (256*acc+x) r
def qX(r:List Nat):Option (Ev×List Nat):=
 match num 1 0 r with
 |none=>none
 |some (n,r)=>if r.length<n then none else
  match num 1 0 (r.drop n)with
  |none=>none
  |some (k,r')=>match num 3 0 r' with
   |none=>none
   |some (m,r'')=>some (⟨r.take n,k,m⟩,r'')
def eF:Nat→List Nat→Option (List Ev×List Nat)
 |0,r=>some ([],r)
 |m+1,r=>match qX r with
  |none=>none
  |some (e,r)=>match eF m r with
   |none=>none
   |some (l,r)=>some (e::l,r)
def l6(r:List Nat):Option (Bat×List Nat):=
 match num 3 0 r with
 |none=>none
 |some (c,r)=>match num 1 0 r with
  |none=>none
  |some (m,r)=>match eF m r with
   |none=>none
   |some (l,r)=>some (⟨c,l⟩,r)
def eC:Nat→List Nat→Option (List Bat×List Nat)
 |0,r=>some ([],r)
 |m+1,r=>match l6 r with
  |none=>none
  |some (e,r)=>match eC m r with
   |none=>none
   |some (l,r)=>some (e::l,r)
def tU(r:List Nat):Option (List Bat):=
 match num 1 0 r with
 |none=>none
 |some (m,r)=>match eC m r with
  |none=>none
  |some (l,r)=>if r=[]then some l else none
def aL(r:List Nat):Nat:=match tU r with|none=>2|some l=>(aF l).1
def dA(r:List Nat):List Bat:=match tU r with|none=>[]|some l=>if (aF l).1=0 then l else[]
theorem c3S(x:Nat)(r:List Nat):num 1 0 (x::r)=some (x,r):=by
 show some (256*0+x,r)=_;rw[d1U,c9G]
def bP(r:List Nat):Prop:= ∀x,x∈r→x<256
theorem bP.tail{r:List Nat}(h:bP (x::r)):bP r:=fun y hy=>h y (c9Y _ hy)
end Go.Proofs.YtmcaejooaaahdaaGreat.Evt
namespace Go.Proofs.YtmcaejooaaahdaaGreat.Gf
open Go.Proofs.Tryz
variable {N a b c i j n p s x:Nat} {g':Nat→Nat} {h:Int} {v:Value} {w:World}
def dot:Nat→(Nat→Nat)→(Nat→Nat)→Nat
 |0,_,_=>0
 |n+1,f,g=>dot n f g^^^mul (f n) (g n)
def Bd(f:Nat→Nat):Prop:= ∀k,f k<256
def Bd2(m:Nat→Nat→Nat):Prop:= ∀i,Bd (m i)
theorem mQ{f:Nat→Nat}(hf:Bd f)(g:Nat→Nat):(n:Nat)→dot n f g<256
 |0=>Nat.zero_lt_succ 255
 |n+1=>fG (mQ hf g n) (dN _ (hf n))
theorem dH{f f' g:Nat→Nat}:(n:Nat)→(∀k,k<n→f k=f' k)→(∀k,k<n→g k=g' k)→dot n f g=dot n f' g'
 |0,_,_=>rfl
 |n+1,hf,hg=>by
  show dot n f g^^^mul (f n) (g n)=dot n f' g'^^^mul (f' n) (g' n)
  rw[dH n (fun k hk=>hf k (by omega)) (fun k hk=>hg k (by omega)),hf n (by omega),hg n (by omega)]
theorem qQ(g:Nat→Nat):(n:Nat)→dot n (fun _=>0) g=0
 |0=>rfl
 |n+1=>by
  show dot n (fun _=>0) g^^^mul 0 (g n)=0
  rw[qQ g n,cM,c9V]
theorem oU(f:Nat→Nat):(n:Nat)→dot n f (fun _=>0)=0
 |0=>rfl
 |n+1=>by
  show dot n f (fun _=>0)^^^mul (f n) 0=0
  rw[oU f n,aQ,c9V]
theorem yC{f g:Nat→Nat}(n:Nat)(h: ∀k,k<n→g k=0):dot n f g=0:=by
 rw[dH (f':=f) (g':=fun _=>0) n (fun _ _=>rfl) h,oU]
theorem nK{f f':Nat→Nat}(hf:Bd f)(hf':Bd f')(g:Nat→Nat):(n:Nat)→dot n (fun k=>f k^^^f' k) g=dot n f g^^^dot n f' g
 |0=>(c9V 0).symm
 |n+1=>by
  show dot n (fun k=>f k^^^f' k) g^^^mul (f n^^^f' n) (g n)=(dot n f g^^^mul (f n) (g n))^^^(dot n f' g^^^mul (f' n) (g n))
  rw[nK hf hf' g n,eZ _ (hf n) (hf' n),gL]
theorem qS(f g g':Nat→Nat):(n:Nat)→dot n f (fun k=>g k^^^g' k)=dot n f g^^^dot n f g'
 |0=>(c9V 0).symm
 |n+1=>by
  show dot n f (fun k=>g k^^^g' k)^^^mul (f n) (g n^^^g' n)=(dot n f g^^^mul (f n) (g n))^^^(dot n f g'^^^mul (f n) (g' n))
  rw[qS f g g' n,dB,gL]
theorem jZ{f:Nat→Nat}(hc:c<256)(hf:Bd f)(g:Nat→Nat):(n:Nat)→dot n (fun k=>mul c (f k)) g=mul c (dot n f g)
 |0=>(aQ c).symm
 |n+1=>by
  show dot n (fun k=>mul c (f k)) g^^^mul (mul c (f n)) (g n)=mul c (dot n f g^^^mul (f n) (g n))
  rw[jZ hc hf g n,mul_assoc _ hc (hf n),dB]
theorem pY(f g:Nat→Nat)(a:Nat):(b:Nat)→dot (a+b) f g=dot a f g^^^dot b (fun k=>f (a+k)) (fun k=>g (a+k))
 |0=>(d0R _).symm
 |b+1=>by
  show dot (a+b) f g^^^mul (f (a+b)) (g (a+b))=dot a f g^^^(dot b (fun k=>f (a+k)) (fun k=>g (a+k))^^^mul (f (a+b)) (g (a+b)))
  rw[pY f g a b,d1D]
def one(i j:Nat):Nat:=if i=j then 1 else 0
theorem yY(i j:Nat):one i j<256:=by
 unfold one;split<;>omega
theorem kT(i:Nat):one i i=1:=if_pos rfl
theorem gU(h:i≠j):one i j=0:=if_neg h
theorem yE(i j:Nat):one i j=one j i:=by
 by_cases h:i=j
 ·rw[h]
 ·rw[gU h,gU (fun e=>h e.symm)]
theorem tM{g:Nat→Nat}(hg:Bd g)(i:Nat):(n:Nat)→dot n (one i) g=if i<n then g i else 0
 |0=>rfl
 |n+1=>by
  show dot n (one i) g^^^mul (one i n) (g n)=_
  rw[tM hg i n]
  by_cases h:i=n
  ·subst h
   rw[if_neg (d0V _),kT,one_mul (hg i),Nat.zero_xor,if_pos (d1F _)]
  ·rw[gU h,cM,d0R]
   by_cases h':i<n
   ·rw[if_pos h',if_pos (by omega)]
   ·rw[if_neg h',if_neg (by omega)]
theorem gI{f:Nat→Nat}(hf:Bd f)(j:Nat):(n:Nat)→dot n f (one j)=if j<n then f j else 0
 |0=>rfl
 |n+1=>by
  show dot n f (one j)^^^mul (f n) (one j n)=_
  rw[gI hf j n]
  by_cases h:j=n
  ·subst h
   rw[if_neg (d0V _),kT,mul_one (hf j),Nat.zero_xor,if_pos (d1F _)]
  ·rw[gU h,aQ,d0R]
   by_cases h':j<n
   ·rw[if_pos h',if_pos (by omega)]
   ·rw[if_neg h',if_neg (by omega)]
theorem zH{f:Nat→Nat}(hf:Bd f)(h:j<n):dot n f (fun k=>one k j)=f j:=by
 rw[dH (f':=f) (g':=one j) n (fun _ _=>rfl) (fun k _=>yE k j),gI hf,if_pos h]
theorem gQ{g:Nat→Nat}(hg:Bd g)(h:i<n):dot n (one i) g=g i:=by
 rw[tM hg,if_pos h]
def mm(n:Nat)(a b:Nat→Nat→Nat)(i j:Nat):Nat:=dot n (a i) (fun k=>b k j)
theorem c1P{a:Nat→Nat→Nat}(ha:Bd2 a)(n:Nat)(b:Nat→Nat→Nat)(i j:Nat):mm n a b i j<256:=mQ (ha i) _ n
theorem oN{a:Nat→Nat→Nat}(ha:Bd2 a)(n:Nat)(b:Nat→Nat→Nat):Bd2 (mm n a b):=c1P ha n b
theorem mE{a a' b b':Nat→Nat→Nat}(ha: ∀k,k<n→a i k=a' i k)(hb: ∀k,k<n→b k j=b' k j):mm n a b i j=mm n a' b' i j:=dH n ha hb
theorem a2S{f:Nat→Nat}{b:Nat→Nat→Nat}(hf:Bd f)(hb:Bd2 b)(g:Nat→Nat)(q:Nat):(p:Nat)→dot q (fun l=>dot p f (fun k=>b k l)) g=dot p f (fun k=>dot q (b k) g)
 |0=>qQ g q
 |p+1=>by
  show dot q (fun l=>dot p f (fun k=>b k l)^^^mul (f p) (b p l)) g=dot p f (fun k=>dot q (b k) g)^^^mul (f p) (dot q (b p) g)
  rw[nK (f:=fun l=>dot p f (fun k=>b k l)) (f':=fun l=>mul (f p) (b p l)) (fun l=>mQ hf _ p) (fun l=>dN _ (hf p)),a2S hf hb g q p,jZ (hf p) (hb p)]
theorem c1T{a b:Nat→Nat→Nat}(ha:Bd2 a)(hb:Bd2 b)(c:Nat→Nat→Nat)(p q i j:Nat):mm q (mm p a b) c i j=mm p a (mm q b c) i j:=
 a2S (ha i) hb (fun l=>c l j) q p
theorem b1V{a:Nat→Nat→Nat}(ha:Bd2 a)(j:Nat)(h:i<n):mm n one a i j=a i j:=gQ (fun k=>ha k j) h
theorem c7A{a:Nat→Nat→Nat}(ha:Bd2 a)(i:Nat)(h:j<n):mm n a one i j=a i j:=zH (ha i) h
def Und(n:Nat)(m r:Nat→Nat→Nat):Prop:= ∀i j,i<n→j<n→mm n m r i j=one i j∧mm n r m i j=one i j
def a5U(n:Nat)(m:Nat→Nat→Nat):Prop:= ∃x,Bd x∧(∀i,i<n→dot n (m i) x=0)∧ ∃c,c<n∧x c≠0
theorem Und.uniq{m r s:Nat→Nat→Nat}(hm:Bd2 m)(hr:Bd2 r)(hs:Bd2 s)(h:Und n m r)(k:Und n m s)(i j:Nat)(hi:i<n)(hj:j<n):r i j=s i j:=by
 have e1:mm n r (mm n m s) i j=r i j:=by
  rw[mE (a':=r) (b':=one) (fun _ _=>rfl) (fun l hl=>(k l j hl hj).1),c7A hr i hj]
 have e2:mm n (mm n r m) s i j=s i j:=by
  rw[mE (a':=one) (b':=s) (fun l hl=>(h i l hi hl).2) (fun _ _=>rfl),b1V hs j hi]
 rw[←e1,←c1T hr hm,e2]
def kP(n:Nat)(m:Nat→Nat→Nat)(i j:Nat):Nat:=if j<n then m i j else one i (j-n)
theorem c2J{m:Nat→Nat→Nat}(hm:Bd2 m):Bd2 (kP n m):=fun i j=>by
 show(if j<n then m i j else one i (j-n))<256
 split
 ·exact hm i j
 ·exact yY _ _
def Ker(n N:Nat)(W:Nat→Nat→Nat)(x:Nat→Nat):Prop:= ∀i,i<n→dot N (W i) x=0
def swp(c p:Nat)(W:Nat→Nat→Nat)(i:Nat):Nat→Nat:=if i=c then W p else if i=p then W c else W i
def scl(c x:Nat)(W:Nat→Nat→Nat)(i j:Nat):Nat:=if i=c then mul (W i j) x else W i j
def add(c:Nat)(W:Nat→Nat→Nat)(i j:Nat):Nat:=if i=c then W i j else W i j^^^mul (W c j) (W i c)
def clr(c p:Nat)(W:Nat→Nat→Nat):Nat→Nat→Nat:=add c (scl c (inv (W p c)) (swp c p W))
theorem uN{W:Nat→Nat→Nat}(h:Bd2 W):Bd2 (swp c p W):=fun i=>by
 unfold swp
 split
 ·exact h p
 ·split
  ·exact h c
  ·exact h i
theorem yO{W:Nat→Nat→Nat}(h:Bd2 W):Bd2 (scl c x W):=fun i j=>by
 unfold scl
 split
 ·exact dN _ (h i j)
 ·exact h i j
theorem c7C{W:Nat→Nat→Nat}(h:Bd2 W):Bd2 (add c W):=fun i j=>by
 unfold add
 split
 ·exact h i j
 ·exact fG (h i j) (dN _ (h c j))
theorem c6T{W:Nat→Nat→Nat}(h:Bd2 W):Bd2 (clr c p W):=c7C (yO (uN h))
theorem c3N{W:Nat→Nat→Nat}{x:Nat→Nat}(hc:c<n)(hp:p<n):Ker n N (swp c p W) x↔Ker n N W x:=by
 refine⟨fun k i hi=>?_,fun k i hi=>?_⟩
 ·by_cases h1:i=c
  ·have:=k p hp;unfold swp at this;by_cases h2:p=c
   ·rw[if_pos h2]at this;rw[h1,←h2];exact this
   ·rw[if_neg h2,if_pos rfl]at this;rw[h1];exact this
  ·by_cases h2:i=p
   ·have:=k c hc;unfold swp at this;rw[if_pos rfl]at this;rw[h2];exact this
   ·have:=k i hi;unfold swp at this;rw[if_neg h1,if_neg h2]at this;exact this
 ·unfold swp;by_cases h1:i=c
  ·rw[if_pos h1];exact k p hp
  ·rw[if_neg h1];by_cases h2:i=p
   ·rw[if_pos h2];exact k c hc
   ·rw[if_neg h2];exact k i hi
theorem c3P{W:Nat→Nat→Nat}{y:Nat→Nat}(hW:Bd2 W)(hx:x<256)(h0:x≠0):Ker n N (scl c x W) y↔Ker n N W y:=by
 have e:dot N (scl c x W c) y=mul x (dot N (W c) y):=by
  rw[←jZ hx (hW c)];refine dH N (fun k _=>?_) (fun _ _=>rfl);show(if c=c then mul (W c k) x else W c k)=_;rw[if_pos rfl,mul_comm (hW c k) hx]
 have e': ∀i,i≠c→dot N (scl c x W i) y=dot N (W i) y:=fun i hi=>by
  refine dH N (fun k _=>?_) (fun _ _=>rfl);show(if i=c then mul (W i k) x else W i k)=_;rw[if_neg hi]
 refine⟨fun k i hi=>?_,fun k i hi=>?_⟩
 ·by_cases h:i=c
  ·subst h;have h1:=k i hi;rw[e]at h1;exact((jQ hx (mQ (hW i) y N)).1 h1).resolve_left h0
  ·rw[←e' i h];exact k i hi
 ·by_cases h:i=c
  ·subst h;rw[e,k i hi,aQ]
  ·rw[e' i h];exact k i hi
theorem c4Z{W:Nat→Nat→Nat}{y:Nat→Nat}(hW:Bd2 W)(hc:c<n):Ker n N (add c W) y↔Ker n N W y:=by
 have ec:dot N (add c W c) y=dot N (W c) y:=by
  refine dH N (fun k _=>?_) (fun _ _=>rfl);show(if c=c then W c k else _)=_;rw[if_pos rfl]
 have e': ∀i,i≠c→dot N (add c W i) y=dot N (W i) y^^^mul (W i c) (dot N (W c) y):=fun i hi=>by
  rw[←jZ (hW i c) (hW c),←nK (hW i) (fun k=>dN _ (hW i c))];refine dH N (fun k _=>?_) (fun _ _=>rfl);show(if i=c then W i k else W i k^^^mul (W c k) (W i c))=_;rw[if_neg hi,mul_comm (hW c k) (hW i c)]
 refine⟨fun k i hi=>?_,fun k i hi=>?_⟩
 ·have h0:=k c hc;rw[ec]at h0;by_cases h:i=c
  ·rw[h];exact h0
  ·have h1:=k i hi;rw[e' i h,h0,aQ,d0R]at h1;exact h1
 ·by_cases h:i=c
  ·rw[h,ec];exact k c hc
  ·rw[e' i h,k c hc,aQ,d0R];exact k i hi
theorem c5J{W:Nat→Nat→Nat}{y:Nat→Nat}(hW:Bd2 W)(hc:c<n)(hp:p<n)(h0:W p c≠0):Ker n N (clr c p W) y↔Ker n N W y:=by
 unfold clr;rw[c4Z (yO (uN hW)) hc,c3P (uN hW) (jH _) (a4F (hW p c) h0),c3N hc hp]
structure oY(n:Nat)(m:Nat→Nat→Nat)(D:Nat→Prop)(W:Nat→Nat→Nat):Prop where
 bd:Bd2 W
 ker: ∀x,Ker n (n+n) W x↔Ker n (n+n) (kP n m) x
 unit: ∀j,D j→j<n∧ ∀i,i<n→W i j=one i j
theorem oY.start{m:Nat→Nat→Nat}{D:Nat→Prop}(hm:Bd2 m)(hD: ∀j,¬D j):oY n m D (kP n m):=
 ⟨c2J hm,fun _=>Iff.rfl,fun j h=>absurd h (hD j)⟩
theorem oY.step{m W:Nat→Nat→Nat}{D D':Nat→Prop}(h:oY n m D W)(hc:c<n)(hp:p<n)(nc: ¬D c)(np: ¬D p)(h0:W p c≠0)(hD: ∀j,D' j→D j∨j=c):oY n m D' (clr c p W):=by
 refine⟨c6T h.bd,fun x=>(c5J h.bd hc hp h0).trans (h.ker x),fun j hj=>?_⟩;rcases hD j hj with hj|rfl
 ·obtain⟨A0,hu⟩:=h.unit j hj;refine⟨A0,fun i hi=>?_⟩;have jc:c≠j:=fun e=>nc (e▸hj);have jp:p≠j:=fun e=>np (e▸hj);have zc:W c j=0:=by rw[hu c hc,gU jc]
  have zp:W p j=0:=by rw[hu p hp,gU jp]
  have sw: ∀i,i<n→swp c p W i j=one i j:=fun i hi=>by
   unfold swp;by_cases h1:i=c
   ·rw[if_pos h1,zp,h1,gU jc]
   ·rw[if_neg h1];by_cases h2:i=p
    ·rw[if_pos h2,zc,h2,gU jp]
    ·rw[if_neg h2,hu i hi]
  have sc: ∀i,i<n→scl c (inv (W p c)) (swp c p W) i j=one i j:=fun i hi=>by
   show(if i=c then mul (swp c p W i j) (inv (W p c))else swp c p W i j)=_;rw[sw i hi];split
   ·rename_i h1;rw[h1,gU jc,cM]
   ·rfl
  show(if i=c then scl c (inv (W p c)) (swp c p W) i j else scl c (inv (W p c)) (swp c p W) i j^^^mul (scl c (inv (W p c)) (swp c p W) c j) (scl c (inv (W p c)) (swp c p W) i c))=_;rw[sc i hi,sc c hc,gU jc,cM,d0R];split<;>rfl
 ·refine⟨hc,fun i hi=>?_⟩;have sj:scl j (inv (W p j)) (swp j p W) j j=1:=by
   show(if j=j then mul (swp j p W j j) (inv (W p j))else swp j p W j j)=1;rw[if_pos rfl];show mul ((if j=j then W p else if j=p then W j else W j) j) (inv (W p j))=1;rw[if_pos rfl,mR (h.bd p j) h0]
  show(if i=j then scl j (inv (W p j)) (swp j p W) i j else scl j (inv (W p j)) (swp j p W) i j^^^mul (scl j (inv (W p j)) (swp j p W) j j) (scl j (inv (W p j)) (swp j p W) i j))=_;by_cases h1:i=j
  ·rw[if_pos h1,h1,sj,kT]
  ·rw[if_neg h1,sj,one_mul (yO (uN h.bd) i j),c9V,gU h1]
theorem c0S{W:Nat→Nat→Nat}(i:Nat)(x:Nat→Nat)(hx: ∀k,n≤k→x k=0):dot (n+n) (W i) x=dot n (W i) x:=by
 rw[pY,yC (g:=fun k=>x (n+k)) n (fun k _=>hx _ (Nat.le_add_right _ _)),d0R]
theorem oY.fails{m W:Nat→Nat→Nat}{D:Nat→Prop}(h:oY n m D W)(hc:c<n)(nc: ¬D c)(h0: ∀i,i<n→ ¬D i→W i c=0):a5U n m:=by
 classical
 refine⟨fun j=>(if D j then W j c else 0)^^^one c j,fun j=>fG (by split;exact h.bd j c;omega) (yY _ _),?_,c,hc,?_⟩
 ·have A0:Ker n (n+n) W (fun j=>(if D j then W j c else 0)^^^one c j):=fun i hi=>by
   rw[qS (W i) (fun j=>if D j then W j c else 0) (one c),gI (h.bd i),if_pos (by omega)]
   have yb:Bd (fun j=>if D j then W j c else 0):=fun j=>by
    show(if D j then W j c else 0)<256
    split
    ·exact h.bd j c
    ·omega
   have e:dot (n+n) (W i) (fun j=>if D j then W j c else 0)=if D i then W i c else 0:=by
    rw[←gQ (i:=i) (n:=n+n) yb (by omega)]
    have A2: ∀k N,N≤n+n→k=N→dot k (W i) (fun j=>if D j then W j c else 0)=dot k (one i) (fun j=>if D j then W j c else 0):=by
     intro k N hN hk
     clear hk
     induction k with
     |zero=>rfl
     |succ k ih=>
      show dot k (W i) _^^^mul (W i k) (if D k then W k c else 0)=dot k (one i) _^^^mul (one i k) (if D k then W k c else 0)
      rw[ih]
      by_cases hd:D k
      ·rw[(h.unit k hd).2 i hi]
      ·rw[if_neg hd,aQ,aQ]
    exact A2 _ _ (c9C _) rfl
   rw[e]
   by_cases hd:D i
   ·rw[if_pos hd,c9V]
   ·rw[if_neg hd,h0 i hi hd,c9V]
  have A1:=(h.ker _).1 A0
  intro i hi
  have hz:=A1 i hi
  rw[c0S (W:=kP n m) i _ (fun k hk=>by
   show(if D k then W k c else 0)^^^one c k=0
   rw[if_neg (fun hd=>by have:=(h.unit k hd).1;omega),gU (by omega),c9V])]at hz
  refine Eq.trans (dH n (fun k hk=>?_) (fun _ _=>rfl)) hz
  show m i k=if k<n then m i k else _
  rw[if_pos hk]
 ·show(if D c then W c c else 0)^^^one c c≠0
  rw[if_neg nc,kT]
  decide
theorem oY.done{m W:Nat→Nat→Nat}{D:Nat→Prop}(h:oY n m D W)(hm:Bd2 m)(hD: ∀j,j<n→D j):Und n m (fun i j=>W i (n+j)):=by
 have hl: ∀(u v:Nat→Nat),Bd u→ ∀i,i<n→dot (n+n) (W i) (fun k=>if k<n then u k else v (k-n))=u i^^^dot n (fun k=>W i (n+k)) v:=fun u v hu i hi=>by
  rw[pY];congr 1
  ·rw[dH (f':=one i) (g':=u) n (fun k hk=>(h.unit k (hD k hk)).2 i hi) (fun k hk=>if_pos hk),gQ hu hi]
  ·refine dH n (fun _ _=>rfl) (fun k _=>?_);show(if n+k<n then u (n+k)else v (n+k-n))=v k;rw[if_neg (by omega),d2G]
 have hr: ∀(u v:Nat→Nat),Bd v→ ∀i,i<n→dot (n+n) (kP n m i) (fun k=>if k<n then u k else v (k-n))=dot n (m i) u^^^v i:=fun u v hv i hi=>by
  rw[pY];congr 1
  ·refine dH n (fun k hk=>if_pos hk) (fun k hk=>if_pos hk)
  ·rw[dH (f':=one i) (g':=v) n (fun k _=>?_) (fun k _=>?_),gQ hv hi]
   ·show(if n+k<n then m i (n+k)else one i (n+k-n))=one i k;rw[if_neg (by omega),d2G]
   ·show(if n+k<n then u (n+k)else v (n+k-n))=v k;rw[if_neg (by omega),d2G]
 intro i j hi hj;constructor
 ·have hk:Ker n (n+n) W (fun k=>if k<n then W k (n+j)else one j (k-n)):=fun a ha=>by
   rw[hl (fun k=>W k (n+j)) (one j) (fun k=>h.bd k (n+j)) a ha,gI (fun k=>h.bd a (n+k)),if_pos hj,c9V]
  have:=(h.ker _).1 hk i hi;rw[hr (fun k=>W k (n+j)) (one j) (yY j) i hi]at this;show dot n (m i) (fun k=>W k (n+j))=one i j;rw[yE i j];have e:=congrArg (fun z=>z^^^one j i) this;simpa [d1D,c9V]using e
 ·have hk:Ker n (n+n) (kP n m) (fun k=>if k<n then one j k else m (k-n) j):=fun a ha=>by
   rw[hr (one j) (fun k=>m k j) (fun k=>hm k j) a ha,gI (hm a),if_pos hj,c9V]
  have:=(h.ker _).2 hk i hi;rw[hl (one j) (fun k=>m k j) (yY j) i hi]at this;show dot n (fun k=>W i (n+k)) (fun k=>m k j)=one i j;rw[yE i j];have e:=congrArg (fun z=>one j i^^^z) this;simpa [←d1D,c9V]using e
def bH(n i j:Nat):Nat:=if i<n then one i j else inv (i^^^j)
theorem eM(n:Nat):Bd2 (bH n):=fun i j=>by
 unfold bH
 split
 ·exact yY _ _
 ·exact jH _
theorem oV(h:i<n)(j:Nat):bH n i j=one i j:=if_pos h
theorem xT(h:n≤i)(j:Nat):bH n i j=inv (i^^^j):=if_neg (by omega)
theorem uS(h:a≠b):a^^^b≠0:=fun e=>h (by
 have h1:a^^^b^^^b=0^^^b:=by rw[e]
 rw[d1D,c9V,d0R,Nat.zero_xor]at h1
 exact h1)
theorem a3P(a b c:Nat):a^^^b=(a^^^c)^^^(c^^^b):=by
 rw[d1D,←d1D c c b,c9V,Nat.zero_xor]
theorem b7R{u v d A B Y:Nat}(hu:u<256)(hv:v<256)(hd:d<256)(hA:A<256)(hB:B<256)(hY:Y<256)(h1:mul u A=1)(h2:mul v B=1):
  mul (u^^^v) (mul A (mul (mul Y d) B))=mul (u^^^d) (mul A Y)^^^mul (v^^^d) (mul B Y):=by
 have hZ:mul Y d<256:=dN _ hY;have e1:mul u (mul A (mul (mul Y d) B))=mul (mul Y d) B:=by rw[←mul_assoc _ hu hA,h1,one_mul (dN _ hZ)]
 have e2:mul v (mul A (mul (mul Y d) B))=mul A (mul Y d):=by
  rw[mul_comm hv (dN _ hA),mul_assoc _ hA (dN _ hZ),mul_assoc _ hZ hB,mul_comm hB hv,h2,mul_one hZ]
 have e3:mul u (mul A Y)=Y:=by rw[←mul_assoc _ hu hA,h1,one_mul hY]
 have e4:mul v (mul B Y)=Y:=by rw[←mul_assoc _ hv hB,h2,one_mul hY]
 have e5:mul d (mul A Y)=mul A (mul Y d):=by rw[mul_comm hd (dN _ hA),mul_assoc _ hA hY]
 have e6:mul d (mul B Y)=mul (mul Y d) B:=by rw[mul_comm hd (dN _ hB),mul_assoc _ hB hY,mul_comm hB hZ]
 rw[eZ _ hu hv,eZ _ hu hd,eZ _ hv hd,e1,e2,e3,e4,e5,e6,gL,c9V,Nat.zero_xor,Nat.xor_comm]
theorem b3J{f g f' f2 g2:Nat→Nat}:(n:Nat)→(∀k,k<n→mul a (mul (f k) (g k))=mul b (mul (f' k) (g' k))^^^mul c (mul (f2 k) (g2 k)))→mul a (dot n f g)=mul b (dot n f' g')^^^mul c (dot n f2 g2)
 |0,_=>by
  show mul a 0=mul b 0^^^mul c 0
  rw[aQ,aQ,aQ,c9V]
 |n+1,h=>by
  show mul a (dot n f g^^^mul (f n) (g n))=mul b (dot n f' g'^^^mul (f' n) (g' n))^^^mul c (dot n f2 g2^^^mul (f2 n) (g2 n))
  rw[dB,dB,dB,b3J n (fun k hk=>h k (by omega)),h n (by omega),gL]
theorem a6Y{f g:Nat→Nat}:(n:Nat)→(∀k,k<n→k≠j→g k=0)→dot n f g=if j<n then mul (f j) (g j)else 0
 |0,_=>rfl
 |n+1,h=>by
  show dot n f g^^^mul (f n) (g n)=_
  rw[a6Y n (fun k hk=>h k (by omega))]
  by_cases e:j=n
  ·rw[if_neg (by omega),if_pos (by omega),Nat.zero_xor,e]
  ·rw[h n (by omega) (fun h=>e h.symm),aQ,d0R]
   by_cases h':j<n
   ·rw[if_pos h',if_pos (by omega)]
   ·rw[if_neg h',if_neg (by omega)]
theorem c0C(hn:n≤256):(J T:List Nat)→(y:Nat→Nat)→Bd y→J.length≤T.length→T.Nodup→(∀t,t∈T→t<256∧n≤t)→(∀j,j∈J→j<n)→(∀j,j<n→j∉J→y j=0)→(∀t,t∈T→dot n (fun j=>inv (t^^^j)) y=0)→ ∀j,j<n→y j=0
 |[],_,y,_,_,_,_,_,h0,_,j,hj=>h0 j hj (fun h=>by cases h)
 |j0::J,[],_,_,hl,_,_,_,_,_,_,_=>by simp at hl
 |j0::J,t0::T,y,hy,hl,hnd,hT,hJ,h0,hd,j,hj=>by
  obtain⟨ht0,hnT⟩:=List.nodup_cons.1 hnd
  obtain⟨t1,t2⟩:=hT t0 (c9W ..)
  have hj0:=hJ j0 (c9W ..)
  have ih:=c0C hn J T (fun j=>mul (mul (y j) (j^^^j0)) (inv (t0^^^j))) (fun j=>dN _ (dN _ (hy j))) (by simpa using hl) hnT (fun t ht=>hT t (c9Y _ ht)) (fun j hj=>hJ j (c9Y _ hj))
   (fun j hj hn=>by
    show mul (mul (y j) (j^^^j0)) (inv (t0^^^j))=0
    by_cases e:j=j0
    ·rw[e,c9V,aQ,cM]
    ·rw[h0 j hj (fun h=>by rcases List.mem_cons.1 h with h|h;exact e h;exact hn h),cM,cM])
   (fun t ht=>by
    obtain⟨u1,u2⟩:=hT t (c9Y _ ht)
    have hne:t≠t0:=fun e=>ht0 (e▸ht)
    have key:=b3J (a:=t^^^t0) (b:=t^^^j0) (c:=t0^^^j0) (f:=fun j=>inv (t^^^j)) (g:=fun j=>mul (mul (y j) (j^^^j0)) (inv (t0^^^j))) (f':=fun j=>inv (t^^^j)) (g':=y) (f2:=fun j=>inv (t0^^^j)) (g2:=y) n (fun k hk=>by
     have q1:t^^^k<256:=fG u1 (by omega)
     have q2:t0^^^k<256:=fG t1 (by omega)
     have q3:k^^^j0<256:=fG (by omega) (by omega)
     have e:=b7R q1 q2 q3 (jH (t^^^k)) (jH (t0^^^k)) (hy k) (mR q1 (uS (by omega))) (mR q2 (uS (by omega)))
     rw[a3P t t0 k,a3P t j0 k,a3P t0 j0 k,Nat.xor_comm k t0]
     exact e)
    rw[hd t (c9Y _ ht),hd t0 (c9W ..),aQ,aQ,c9V]at key
    exact((jQ (fG u1 t1) (mQ (fun j=>jH _) _ n)).1 key).resolve_left (uS hne))
  have hz: ∀k,k<n→k≠j0→y k=0:=fun k hk hne=>by
   have h1:=ih k hk
   have q3:k^^^j0<256:=fG (by omega) (by omega)
   have q2:t0^^^k<256:=fG t1 (by omega)
   rcases(jQ (dN _ (hy k)) (jH _)).1 h1 with h|h
   ·exact((jQ (hy k) q3).1 h).resolve_right (uS hne)
   ·exact absurd h (a4F q2 (uS (by omega)))
  by_cases e:j=j0
  ·have h1:=hd t0 (c9W ..)
   rw[a6Y (j:=j0) n hz,if_pos hj0]at h1
   rw[e]
   exact((jQ (jH _) (hy j0)).1 h1).resolve_left (a4F (fG t1 (by omega)) (uS (by omega)))
  ·exact hz j hj e
theorem a1H{α:Type}[DecidableEq α]:(l m:List α)→l.Nodup→(∀a,a∈l→a∈m)→l.length≤m.length
 |[],_,_,_=>c9D _
 |a::l,m,hn,hs=>by
  obtain⟨h1,h2⟩:=List.nodup_cons.1 hn
  have ha:=hs a (c9W ..)
  have ih:=a1H l (m.erase a) h2 (fun b hb=>(List.mem_erase_of_ne (fun e=>by rw[e]at hb;exact h1 hb)).2 (hs b (c9Y _ hb)))
  rw[List.length_erase_of_mem ha]at ih
  have:0<m.length:=List.length_pos_of_mem ha
  simp only[List.length_cons]
  omega
theorem xG(n:Nat):(P:List Nat)→(P.filter (fun k=>decide (k<n))).length+(P.filter (fun k=>decide (n≤k))).length=P.length
 |[]=>rfl
 |a::P=>by
  have ih:=xG n P
  by_cases h:a<n
  ·rw[d1W (by simpa using h),d1N (by simpa using h)]
   simp only[List.length_cons]
   omega
  ·rw[d1N (by simpa using h),d1W (by simpa using h)]
   simp only[List.length_cons]
   omega
theorem lQ{pick:Nat→Nat}(hn:n≤256)(hp: ∀p,p<n→pick p<256)(inj: ∀p q,p<n→q<n→p≠q→pick p≠pick q)(hs:a5U n (fun p=>bH n (pick p))):False:=by
 obtain⟨x,hx,h0,c,hc,A5⟩:=hs;refine A5 ?_;have hP:((List.range n).map pick).Nodup:=by
  rw[List.nodup_iff_pairwise_ne,List.pairwise_map];refine List.Pairwise.imp_of_mem (fun {a b} ha hb hab=>?_) (List.nodup_iff_pairwise_ne.1 List.nodup_range);exact inj a b (d0D.1 ha) (d0D.1 hb) hab
 have A0: ∀k,k∈(List.range n).map pick→ ∃p,p<n∧pick p=k:=fun k hk=>by
  obtain⟨p,h1,h2⟩:=d0G.1 hk;exact⟨p,d0D.1 h1,h2⟩
 have A1:((List.range n).map pick).length=n:=by simp
 generalize (List.range n).map pick=P at hP A0 A1;have A2:=xG n P;rw[A1]at A2;have A6: ∀k,k∈P.filter (fun k=>decide (k<n))→x k=0:=fun k hk=>by
  obtain⟨h1,h2⟩:=d0Z.1 hk;have A3:k<n:=by simpa using h2
  obtain⟨p,h3,rfl⟩:=A0 k h1;have h4:=h0 p h3;rw[←gQ hx A3,←dH (f:=bH n (pick p)) (f':=one (pick p)) (g:=x) (g':=x) n (fun k _=>oV A3 k) (fun _ _=>rfl)];exact h4
 have A4:((List.range n).filter (fun j=>decide (j∉P.filter (fun k=>decide (k<n))))).length≤(P.filter (fun k=>decide (n≤k))).length:=by
  have h1:=a1H (P.filter (fun k=>decide (k<n))++(List.range n).filter (fun j=>decide (j∉P.filter (fun k=>decide (k<n))))) (List.range n) (by
   rw[List.nodup_append];refine⟨hP.filter _,List.nodup_range.filter _,fun a ha b hb e=>?_⟩;have:=(d0Z.1 hb).2;rw[decide_eq_true_iff]at this
   exact this (e▸ha)) (fun a ha=>by
   rcases List.mem_append.1 ha with h|h
   ·have:=(d0Z.1 h).2;exact d0D.2 (by simpa using this)
   ·exact(d0Z.1 h).1)
  rw[c9I,d1E]at h1;omega
 refine c0C hn ((List.range n).filter (fun j=>decide (j∉P.filter (fun k=>decide (k<n))))) (P.filter (fun k=>decide (n≤k))) x hx A4 (hP.filter _) (fun t ht=>?_) (fun j hj=>d0D.1 (d0Z.1 hj).1) (fun j hj hn'=>?_) (fun t ht=>?_) c hc
 ·obtain⟨h1,h2⟩:=d0Z.1 ht;obtain⟨p,h3,rfl⟩:=A0 t h1;exact⟨hp p h3,by simpa using h2⟩
 ·refine A6 j ?_;refine Decidable.byContradiction (fun h=>hn' (d0Z.2 ⟨d0D.2 hj,?_⟩));rw[decide_eq_true_iff];exact h
 ·obtain⟨h1,h2⟩:=d0Z.1 ht;obtain⟨p,h3,rfl⟩:=A0 t h1;have h4:=h0 p h3;rw[←dH (f:=bH n (pick p)) (f':=fun j=>inv (pick p^^^j)) (g:=x) (g':=x) n (fun k _=>xT (by simpa using h2) k) (fun _ _=>rfl)];exact h4
end Go.Proofs.YtmcaejooaaahdaaGreat.Gf
namespace Go.Proofs.YtmcaejooaaahdaaGreat.Crc
open Go.Proofs.Tryz
variable {N a b c i j n p s x:Nat} {g':Nat→Nat} {h:Int} {v:Value} {w:World}
def c7V:Nat:=2197175160
def nH(c:Nat):Nat:=c/2^^^(if c%2=1 then c7V else 0)
def fY:Nat→Nat→Nat
 |0,c=>c
 |k+1,c=>nH (fY k c)
def step(c x:Nat):Nat:=fY 8 (c^^^x)
def run(f:Nat→Nat):Nat→Nat
 |0=>4294967295
 |n+1=>step (run f n) (f n)
def sum(f:Nat→Nat)(n:Nat):Nat:=run f n^^^4294967295
theorem c5K(h:c<2^32):nH c<2^32:=by
 unfold nH;refine d2A (by omega) ?_;split
 ·decide
 ·decide
theorem lV(h:c<2^32):(k:Nat)→fY k c<2^32
 |0=>h
 |k+1=>c5K (lV h k)
theorem b3Y(ha:a<2^32)(hb:b<2^32):a^^^b<2^32:=d2A ha hb
theorem c4R(h:c<2^32)(hx:x<256):step c x<2^32:=lV (b3Y h (by omega)) 8
theorem qT{f:Nat→Nat}(hf: ∀k,f k<256):(n:Nat)→run f n<2^32
 |0=>show 4294967295<2^32 by decide
 |n+1=>c4R (qT hf n) (hf n)
theorem c2E{f:Nat→Nat}(hf: ∀k,f k<256)(n:Nat):sum f n<2^32:=b3Y (qT hf n) (by decide)
theorem c2H(a b:Nat):nH (a^^^b)=nH a^^^nH b:=by
 unfold nH;have h1:(a^^^b)/2=a/2^^^b/2:=Nat.xor_div_two_pow (n:=1);have h2:(a^^^b)%2=(a%2^^^b%2):=Nat.xor_mod_two_pow (n:=1);rw[h1,h2];rcases Nat.mod_two_eq_zero_or_one a with ea|ea<;>rcases Nat.mod_two_eq_zero_or_one b with eb|eb<;>rw[ea,eb]
 ·simp
 ·simp[Nat.xor_assoc]
 ·simp;rw[d1D,d1D,Nat.xor_comm c7V]
 ·simp;rw[d1D,Nat.xor_comm c7V,d1D,c9V,d0R]
theorem xC(a b:Nat):(k:Nat)→fY k (a^^^b)=fY k a^^^fY k b
 |0=>rfl
 |k+1=>by
  show nH (fY k (a^^^b))=_
  rw[xC a b k,c2H]
  rfl
theorem vI(y:Nat):(k:Nat)→(j:Nat)→fY k (y*2^(k+j))=y*2^j
 |0,j=>by rw[c9G];rfl
 |k+1,j=>by
  show nH (fY k (y*2^(k+1+j)))=_
  rw[show k+1+j=k+(j+1) by omega,vI y k (j+1)]
  unfold nH
  rw[if_neg (by rw[Nat.pow_succ,←Nat.mul_assoc];omega),d0R,Nat.pow_succ,←Nat.mul_assoc,Nat.mul_div_cancel _ (by decide)]
theorem c6Q(c:Nat):c=c%256^^^(c/256)*2^8:=by
 apply Nat.eq_of_testBit_eq;intro i;rw[Nat.testBit_xor,show c%256=c%2^8 from rfl,Nat.testBit_mod_two_pow,Nat.testBit_mul_two_pow,show c/256=c/2^8 from rfl,Nat.testBit_div_two_pow];by_cases h:i<8
 ·simp[h,show¬8≤i by omega]
 ·simp[h,show 8≤i by omega]
theorem a9P(c x:Nat):step c x=fY 8 ((c^^^x)%256)^^^(c^^^x)/256:=by
 unfold step;conv=>lhs;rw[c6Q (c^^^x)]
 rw[xC];congr 1;have:=vI ((c^^^x)/256) 8 0;rw[Nat.pow_zero,d1X]at this;exact this
def aA(s h z:Int)(n:Nat):Nat:=if s<0∨39<s∨h<0∨11<h∨z<0∨3200<z then 3 else if n<1∨400<n then 5 else 0
theorem bI{s z:Int}(e:s<0∨39<s∨h<0∨11<h∨z<0∨3200<z):aA s h z n=3:=if_pos e
theorem eB{s z:Int}(e: ¬(s<0∨39<s∨h<0∨11<h∨z<0∨3200<z))(e2:n<1∨400<n):aA s h z n=5:=by unfold aA;rw[if_neg e,if_pos e2]
theorem j8{s z:Int}(e: ¬(s<0∨39<s∨h<0∨11<h∨z<0∨3200<z))(e2: ¬(n<1∨400<n)):aA s h z n=0:=by unfold aA;rw[if_neg e,if_neg e2]
theorem bN{s z:Int}(e:aA s h z n=0):(0≤s∧s≤39∧0≤h∧h≤11∧0≤z∧z≤3200)∧1≤n∧n≤400:=by
 unfold aA at e;split at e
 ·cases e
 ·split at e
  ·cases e
  ·omega
def hd(s h z n:Nat)(f:Nat→Nat):Nat→Nat
 |0=>83
 |1=>s
 |2=>h
 |3=>z/256
 |4=>z%256
 |5=>n/256
 |6=>n%256
 |k+7=>f k
theorem c2O{h z:Nat}{f:Nat→Nat}(h1:s<256)(h2:h<256)(h3:z<65536)(h4:n<65536)(hf: ∀k,f k<256): ∀k,hd s h z n f k<256
 |0=>show 83<256 by decide
 |1=>h1
 |2=>h2
 |3=>show z/256<256 by omega
 |4=>show z%256<256 by omega
 |5=>show n/256<256 by omega
 |6=>show n%256<256 by omega
 |k+7=>hf k
def low(x k:Nat):Nat:=x/256^k%256
theorem c7O(x k:Nat):low x k<256:=Nat.mod_lt _ (by decide)
def oD(g:Nat→Nat)(o:Nat):Nat:=g o+g (o+1)*256+g (o+2)*65536+g (o+3)*16777216
def enc(s h z n:Nat)(f:Nat→Nat)(k:Nat):Nat:=if k<n+7 then hd s h z n f k else low (sum (hd s h z n f) (n+7)) (k-(n+7))
theorem a4S{h z:Nat}{f:Nat→Nat}(h1:s<256)(h2:h<256)(h3:z<65536)(h4:n<65536)(hf: ∀k,f k<256)(k:Nat):enc s h z n f k<256:=by
 unfold enc;split
 ·exact c2O h1 h2 h3 h4 hf k
 ·exact c7O _ _
def aL(g:Nat→Nat)(n:Nat):Nat:=if n<12∨g 0≠83∨n≠11+(g 5*256+g 6)then 2 else if sum g (n-4)≠oD g (n-4)then 9 else aA (g 1) (g 2) (g 3*256+g 4:Nat) (n-11)
theorem nB{g:Nat→Nat}(h:n<12∨g 0≠83∨n≠11+(g 5*256+g 6)):aL g n=2:=if_pos h
theorem pS{g:Nat→Nat}(h: ¬(n<12∨g 0≠83∨n≠11+(g 5*256+g 6)))(h2:sum g (n-4)≠oD g (n-4)):aL g n=9:=by unfold aL;rw[if_neg h,if_pos h2]
theorem nM{g:Nat→Nat}(h: ¬(n<12∨g 0≠83∨n≠11+(g 5*256+g 6)))(h2:sum g (n-4)=oD g (n-4)):aL g n=aA (g 1) (g 2) (g 3*256+g 4:Nat) (n-11):=by unfold aL;rw[if_neg h,if_neg (fun k=>k h2)]
end Go.Proofs.YtmcaejooaaahdaaGreat.Crc
namespace Go.Proofs.YtmcaejooaaahdaaGreat
open Go.Proofs.Tryz
variable {N a b c i j n p s x:Nat} {g':Nat→Nat} {h:Int} {v:Value} {w:World}
open Go.RowKit
theorem cA.sE{f:Nat→Nat}(h:cA w v n f): ∃A C,v=.slice A n C:=by
 obtain⟨_,A,C,hv,_⟩:=h;exact⟨A,C,hv⟩
def uJ(f:Nat→Nat)(n:Nat):ByteArray:=strOfNums ((List.range n).map fun k=>(f k:Int))
theorem a1O(w:World)(A:Option Addr)(cap:Nat):(convert 59 9 (.slice A 0 cap)).run prog w=.ok (.string ByteArray.empty) w:=by
 rw[run_convert_bytes_string w 59 9 5 _ 0 cap underlying59 underlying5 underlying9];cases A with
 |none=>simp[Conv.bytesToString]
 |some x=>simp[Conv.bytesToString,loadCells];rfl
theorem a6P{f:Nat→Nat}(h:cA w v n f):(convert 59 9 v).run prog w=.ok (.string (uJ f n)) w:=by
 by_cases hn:1≤n
 ·obtain⟨b,o,A0,rfl,_,_,hc⟩:=h.some hn;exact run_convert_bytes_arg (P:=prog) w 59 5 underlying59 underlying5 b o n A0 ((List.range n).map fun j=>(f j:Int)) (by simp) (fun i hi=>by rw[xQ _ _ _ hi];exact hc i hi) 9 underlying9
 ·obtain rfl:n=0:=by omega
  obtain⟨A,A0,rfl⟩:=h.zero;exact a1O w A A0
theorem eE(w:World)(c:Array Value)(t:TypeId): ∀j u,c.toList[j]?=some u→(w.alloc (.cells c t)).cell? ((⟨w.heap.size,0,none⟩:Addr).add j)=some u:=fun j u hj=>by
 have hj':c[j]?=some u:=by simpa using hj
 obtain⟨A0,he⟩:=d1M.1 hj';have hr:=World.rowIs_alloc w c t (fun i=>c.getD i nS) (fun i hi=>by simp[hi]);rw[WideShapes.add_plain,c9G,hr.cell A0];simp[Array.getD,A0,he]
def fF(t:List Nat):ByteArray:=uJ (fun k=>t.getD k 0) t.length
theorem l7(t:List Nat):(fF t).toList=t.map UInt8.ofNat:=by
 unfold fF uJ;rw[a8R];apply d1I;intro i;by_cases hi:i<t.length
 ·simp[hi,List.getD]
 ·rw[c9Z (by simpa using hi),c9Z (by simpa using hi)]
theorem a2M(t:List Nat):(fF t).size=t.length:=by
 have h:=congrArg List.length (l7 t);rw[c9M,d2C,d1B]at h;exact h
theorem c3H(a b:List Nat):(fF a++fF b).toList=(fF (a++b)).toList:=by
 rw[l7,c9U,←l7,←l7];simp only[ByteArray.toList_eq,ByteArray.data_append,Array.toList_append]
theorem c3J(a b:List Nat):fF a++fF b=fF (a++b):=by
 refine ByteArray.ext (Array.ext' ?_);rw[←d2C,←d2C];exact c3H a b
theorem b8M(g:Nat→Nat)(n:Nat):uJ g n=fF ((List.range n).map g):=by
 unfold fF uJ;rw[c9M,d1E];congr 1;refine d1H (fun k hk=>?_);have:=d0D.1 hk;simp[List.getD,this]
theorem dQ{α β:Type}(f:α→List β)(m:Nat): ∀(l:List α),(∀a,a∈l→(f a).length=m)→ ∀(i t:Nat),t<m→ ∀a,l[i]?=some a→(l.flatMap f)[i*m+t]?=(f a)[t]?
 |[],_,i,t,_,a,h=>by cases h
 |x::l,hm,0,t,ht,a,h=>by
  cases h
  rw[d0K,Nat.zero_mul,c9G,d0M (by rw[hm x c9W];exact ht)]
 |x::l,hm,i+1,t,ht,a,h=>by
  have hx:=hm x c9W
  rw[d0K,d0S (by rw[hx,d0F];omega),hx,show(i+1)*m+t-m=i*m+t by rw[d0F];omega]
  exact dQ f m l (fun a ha=>hm a (c9Y _ ha)) i t ht a (by simpa using h)
theorem fX{α β:Type}(f:α→List β)(m:Nat): ∀(l:List α),(∀a,a∈l→(f a).length=m)→(l.flatMap f).length=l.length*m
 |[],_=>by simp
 |x::l,hm=>by
  rw[d0K,c9I,hm x c9W,fX f m l (fun a ha=>hm a (c9Y _ ha)),d0E,d0F]
  omega
theorem l9(w:World)(e:TypeId)(s:ByteArray):Bl w (Lib.bytesWorld w e s):=
 ⟨rfl,rfl,rfl,by rw[Lib.bytesWorld_size];omega,fun k hk=>Lib.bytesWorld_at_old w e s k hk⟩
theorem a5R(a b:Nat)(ha:a<4294967296)(hb:b<4294967296):bits .xor .u32 (a:Int) (b:Int)=((a^^^b:Nat):Int):=u32_xor_nat a b ha hb
theorem a2K(h: ¬c%2=1):Crc.nH c=c/2:=by unfold Crc.nH;rw[if_neg h,d0R]
theorem a6Z(h:c%2=1):Crc.nH c=c/2^^^2197175160:=by unfold Crc.nH;rw[if_pos h];rfl
theorem a9H(c:Nat)(w:World)(hc:c<4294967296):
  Calls prog 174 #[.int .u32 (c:Int)] w fun e w'=>e=.returned (.int .u32 (Crc.nH c:Nat))∧w'=w:=by
 have h1:bits .and .u32 (c:Int) 1=((c%2:Nat):Int):=by
  rw[show(1:Int)=((1:Nat):Int)from rfl,u32_and_nat c 1 hc (by decide),nat_mask1]
 by_cases ho:c%2=1
 ·have h2:bits .xor .u32 ((c:Int)/2) 2197175160=((Crc.nH c:Nat):Int):=by
   rw[a6Z ho,←a5R (c/2) 2197175160 (by omega) (by decide)];rfl
  have h3:(((c%2:Nat):Int)==1)=true:=by rw[ho];rfl
  generalize Crc.nH c=y at h2;generalize c%2=z at h1 h3;clear ho;go_enter func174,ntmps174
  go_wp2_with fail;go_ret
  exact⟨rfl,rfl⟩
 ·have h2:(Crc.nH c:Int)=(c:Int)/2:=by
   rw[a2K ho];rfl
  have h3:(((c%2:Nat):Int)==1)=false:=by rw[beq_eq_false_iff_ne];omega
  have H:=hd8 h2;generalize c%2=z at h1 h3;clear ho h2;go_enter func174,ntmps174
  go_wp2_with fail;go_ret
  exact⟨aH H.out.symm,rfl⟩
theorem yI(b o n cap:Nat)(f:Nat→Nat)(w:World)(hf:Bd f)(hn:n≤9223372036854775807)(hc: ∀i,i<n→w.cell? (aD b (o+i))=some (.int .u8 (f i:Nat))):
  Calls prog 148 #[.slice (some (aD b o)) n cap] w fun e w'=>e=.returned (.int .u32 (Crc.sum f n:Nat))∧w'=w:=by
 go_enter func148,ntmps148
 go_wp2_with fail;go_loop [3,8] (fun c x=> ∃k:Nat,k≤n∧x=iV k∧c=.int .u32 (Crc.run f k:Nat)) (fun _ x=>n-(intOf x).toNat)
 case atStart=>exact⟨0,c9D _,rfl,rfl⟩
 case round=>
  obtain⟨k,hk,rfl,rfl⟩:=hrel;by_cases A1:k<n
  ·have A2:(k:Int)<(n:Int):=by omega
   have t:=hc k A1;have A3:=hf k;have hx:=a5R (Crc.run f k) (f k) (Crc.qT hf k) (by omega);have hy:Crc.run f k^^^f k<4294967296:=Crc.b3Y (Crc.qT hf k) (by omega);have HZ:Hid (Crc.run f (k+1)=Crc.fY 8 (Crc.run f k^^^f k)):=rfl;generalize Crc.run f k^^^f k=y at hx hy HZ;clear hc;go_wp2_with fail;go_loop [3,16] (fun c x=> ∃j:Nat,j≤8∧x=iV j∧c=.int .u32 (Crc.fY j y:Nat)) (fun _ x=>8-(intOf x).toNat)
   case atStart=>exact⟨0,c9D _,rfl,rfl⟩
   case round=>
    obtain⟨j,hj,rfl,rfl⟩:=hrel;by_cases A4:j<8
    ·have A0:(j:Int)<8:=by omega
     go_wp2_with fail;refine(a9H _ _ (Crc.lV hy j)).mono ?_;rintro e w1 ⟨rfl,rfl⟩;go_wp2_with fail;exact⟨⟨j+1,by omega,by go_num,rfl⟩,by simp[intOf];omega⟩
    ·have e8:j=8:=by omega
     subst e8;go_wp2_with fail;exact⟨⟨k+1,by omega,by go_num,by rw[HZ.out]⟩,by simp[intOf];omega⟩
  ·have e8:k=n:=by omega
   subst e8;clear hc;go_wp2_with fail;go_ret
   refine⟨aH (?_:bits .xor .u32 IntKind.u32.max (Crc.run f k:Nat)=_),rfl⟩;rw[show IntKind.u32.max=((4294967295:Nat):Int) by decide,a5R _ _ (by decide) (Crc.qT hf k),Nat.xor_comm];rfl
theorem c0F(A:Option Addr)(cap:Nat)(f:Nat→Nat)(w:World):
  Calls prog 148 #[.slice A 0 cap] w fun e w'=>e=.returned (.int .u32 (Crc.sum f 0:Nat))∧w'=w:=by
 go_enter func148,ntmps148
 go_wp2_with fail;refine wp_loop_rounds 1 ?_;rw[rounds_succ];go_wp2_with fail;go_ret
 refine⟨aH (?_:bits .xor .u32 IntKind.u32.max 4294967295=_),rfl⟩;rw[show Crc.sum f 0=0 from c9V 4294967295];decide
theorem c4K(v:Value)(n:Nat)(f:Nat→Nat)(w:World)(h:cA w v n f):
  Calls prog 148 #[v] w fun e w'=>e=.returned (.int .u32 (Crc.sum f n:Nat))∧w'=w:=by
 by_cases hn:1≤n
 ·obtain⟨b,o,A0,rfl,_,_,hc⟩:=h.some hn;exact yI b o n A0 f w h.bd h.len hc
 ·obtain rfl:n=0:=by omega
  obtain⟨A,A0,rfl⟩:=h.zero;exact c0F A A0 f w
theorem c2S(c:Nat)(hc:c<4294967296):bits .xor .u32 ((c:Int)/2) ((c:Int)%2*2197175160)=((Crc.nH c:Nat):Int):=by
 rcases Nat.mod_two_eq_zero_or_one c with e|e
 ·rw[a2K (by omega),show(c:Int)%2*2197175160=((0:Nat):Int) by omega,show(c:Int)/2=((c/2:Nat):Int) by omega,a5R _ _ (by omega) (by decide),d0R]
 ·rw[a6Z e,show(c:Int)%2*2197175160=((2197175160:Nat):Int) by omega,show(c:Int)/2=((c/2:Nat):Int) by omega,a5R _ _ (by omega) (by decide)]
theorem oM(b o n cap:Nat)(f:Nat→Nat)(w:World)(hf:Bd f)(hn:n≤9223372036854775807)(hc: ∀i,i<n→w.cell? (aD b (o+i))=some (.int .u8 (f i:Nat))):
  Calls prog 127 #[.slice (some (aD b o)) n cap] w fun e w'=>e=.returned (.int .u32 (Crc.sum f n:Nat))∧w'=w:=by
 go_enter func127,ntmps127
 go_wp2_with fail;go_loop [3,10] (fun c x=> ∃k:Nat,k≤n∧x=iV k∧c=.int .u32 (Crc.run f k:Nat)) (fun _ x=>n-(intOf x).toNat)
 case atStart=>exact⟨0,c9D _,rfl,rfl⟩
 case round=>
  obtain⟨k,hk,rfl,rfl⟩:=hrel;by_cases A3:k<n
  ·have A4:(k:Int)<(n:Int):=by omega
   have t:=hc k A3;have A6:=hf k;have A1:=Crc.qT hf k;have hx:=a5R (Crc.run f k) (f k) A1 (by omega);have hy:Crc.run f k^^^f k<4294967296:=Crc.b3Y A1 (by omega);have HZ:Hid (Crc.run f (k+1)=Crc.run f k/256^^^Crc.fY 8 ((Crc.run f k^^^f k)%256)):=by
    show Crc.step (Crc.run f k) (f k)=_;rw[Crc.a9P,Nat.xor_comm];congr 1;have h8:(Crc.run f k^^^f k)/2^8=Crc.run f k/2^8^^^f k/2^8:=Nat.xor_div_two_pow;rw[show f k/2^8=0 by omega,d0R]at h8;exact h8
   have hm:bits .and .u32 ((Crc.run f k^^^f k:Nat):Int) 255=(((Crc.run f k^^^f k)%256:Nat):Int):=by
    rw[show(255:Int)=((255:Nat):Int)from rfl,u32_and_nat _ 255 hy (by decide),nat_mask8]
   have hl:(Crc.run f k^^^f k)%256<4294967296:=by omega
   generalize Crc.run f k^^^f k=y at hx hy HZ hm hl;generalize y%256=z at HZ hm hl;clear hc;go_wp2_with fail;go_loop [6,7] (fun c x=> ∃j:Nat,j≤8∧x=iV j∧c=.int .u32 (Crc.fY j z:Nat)) (fun _ x=>8-(intOf x).toNat)
   case atStart=>exact⟨0,c9D _,rfl,rfl⟩
   case round=>
    obtain⟨j,hj,rfl,rfl⟩:=hrel;by_cases A7:j<8
    ·have A2:(j:Int)<8:=by omega
     have hq:=Crc.lV hl j;have A8:bits .and .u32 ((Crc.fY j z:Nat):Int) 1=((Crc.fY j z%2:Nat):Int):=by
      rw[show(1:Int)=((1:Nat):Int)from rfl,u32_and_nat _ 1 hq (by decide),nat_mask1]
     have HM:=hd8 (c2S _ hq);go_wp2_with fail;exact⟨⟨j+1,by omega,by go_num,cB HM.out⟩,by simp[intOf];omega⟩
    ·have e8:j=8:=by omega
     subst e8;have hq:=Crc.lV hl 8;have A5:bits .xor .u32 ((Crc.run f k:Int)/256) ((Crc.fY 8 z:Nat):Int)=((Crc.run f (k+1):Nat):Int):=by
      rw[HZ.out,←a5R _ _ (by omega) hq];rfl
     have HE: ∃r',r'=Crc.run f (k+1):=⟨_,rfl⟩;obtain⟨r',A0⟩:=HE;rw[←A0]at A5;have HR:=hd8 A0;clear A0;go_wp2_with fail;exact⟨⟨k+1,by omega,by go_num,cB (by rw[HR.out])⟩,by simp[intOf];omega⟩
  ·have e8:k=n:=by omega
   subst e8;clear hc;have hz:bits .xor .u32 ((Crc.run f k:Nat):Int) 4294967295=((Crc.sum f k:Nat):Int):=a5R _ 4294967295 (Crc.qT hf k) (by decide);go_wp2_with fail;go_ret
   exact⟨rfl,rfl⟩
theorem a7K(A:Option Addr)(cap:Nat)(f:Nat→Nat)(w:World):
  Calls prog 127 #[.slice A 0 cap] w fun e w'=>e=.returned (.int .u32 (Crc.sum f 0:Nat))∧w'=w:=by
 go_enter func127,ntmps127
 go_wp2_with fail;refine wp_loop_rounds 1 ?_;rw[rounds_succ];go_wp2_with fail;go_ret
 refine⟨aH (?_:bits .xor .u32 4294967295 4294967295=_),rfl⟩;rw[show Crc.sum f 0=0 from c9V 4294967295];decide
theorem b1G(v:Value)(n:Nat)(f:Nat→Nat)(w:World)(h:cA w v n f):
  Calls prog 127 #[v] w fun e w'=>e=.returned (.int .u32 (Crc.sum f n:Nat))∧w'=w:=by
 by_cases hn:1≤n
 ·obtain⟨b,o,A0,rfl,_,_,hc⟩:=h.some hn;exact oM b o n A0 f w h.bd h.len hc
 ·obtain rfl:n=0:=by omega
  obtain⟨A,A0,rfl⟩:=h.zero;exact a7K A A0 f w
end Go.Proofs.YtmcaejooaaahdaaGreat
