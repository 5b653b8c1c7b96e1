import Derived.Test.YtmcaejooaaahdaaGreatZ05
import Derived.Lib.AppendZeros
import Derived.Lib.SliceRun
set_option maxHeartbeats 8000000
set_option maxRecDepth 100000
namespace Go.Proofs.YtmcaejooaaahdaaGreat.Vw
open Go.Proofs.Tryz
variable {L:Nat→Nat} {N a i k n s:Nat} {r:List Nat} {seg u:Int} {v:Value} {w:World}
open Evt
structure Acc where
 name:List Nat
 sum:Int
 cnt:Int
 opn:Bool
def lt:List Nat→List Nat→Bool
 |_,[]=>false
 |[],_::_=>true
 |a::r,b::s=>decide (a<b)||(decide (a=b)&&lt r s)
theorem a4C{b:Nat}{s:List Nat}:lt (a::r) (b::s)=true↔a<b∨(a=b∧lt r s=true):=by
 show(decide (a<b)||(decide (a=b)&&lt r s))=true↔_;simp
theorem lt_irrefl: ∀a,lt a a=false
 |[]=>rfl
 |a::r=>by
  show(decide (a<a)||(decide (a=a)&&lt r r))=false
  rw[lt_irrefl r]
  simp
theorem lt_trans: ∀{a b c:List Nat},lt a b=true→lt b c=true→lt a c=true
 |[],[],_,h,_=>by cases h
 |_::_,[],_,h,_=>by cases h
 |_,_::_,[],_,h=>by cases h
 |[],_::_,_::_,_,_=>rfl
 |a::r,b::s,c::t,h,k=>by
  rw[a4C]at h k⊢
  rcases h with h|⟨rfl,h⟩
  ·rcases k with k|⟨rfl,_⟩
   ·exact Or.inl (Nat.lt_trans h k)
   ·exact Or.inl h
  ·rcases k with k|⟨rfl,k⟩
   ·exact Or.inl k
   ·exact Or.inr ⟨rfl,lt_trans h k⟩
theorem b1R: ∀a b:List Nat,lt a b=true∨a=b∨lt b a=true
 |[],[]=>Or.inr (Or.inl rfl)
 |[],_::_=>Or.inl rfl
 |_::_,[]=>Or.inr (Or.inr rfl)
 |a::r,b::s=>by
  rw[a4C,a4C]
  rcases Nat.lt_trichotomy a b with h|rfl|h
  ·exact Or.inl (Or.inl h)
  ·rcases b1R r s with h|rfl|h
   ·exact Or.inl (Or.inr ⟨rfl,h⟩)
   ·exact Or.inr (Or.inl rfl)
   ·exact Or.inr (Or.inr (Or.inr ⟨rfl,h⟩))
  ·exact Or.inr (Or.inr (Or.inl h))
theorem vT{a b:List Nat}(h:lt a b=true):a≠b:=fun e=>by
 rw[e,lt_irrefl]at h
 cases h
theorem c6A{a b:List Nat}(h:lt a b=true):lt b a=false:=by
 cases q:lt b a with
 |false=>rfl
 |true=>
  have:=lt_trans h q;rw[lt_irrefl]at this;cases this
theorem vA{a b:List Nat}(h:lt a b=false)(hn:a≠b):lt b a=true:=by
 rcases b1R a b with q|q|q
 ·rw[h]at q;cases q
 ·exact absurd q hn
 ·exact q
def cF(u:Int)(a:Acc):Nat:=if¬cV a.name then 7 else if a.cnt<1∨u<a.cnt∨1000000*a.cnt<a.sum∨a.sum< -(1000000*a.cnt)then 3 else 0
theorem pH{a:Acc}(h: ¬cV a.name):cF u a=7:=if_pos h
theorem dV{a:Acc}(h:cV a.name)(h2:a.cnt<1∨u<a.cnt∨1000000*a.cnt<a.sum∨a.sum< -(1000000*a.cnt)):cF u a=3:=by
 unfold cF;rw[if_neg (fun k=>k h),if_pos h2]
theorem pX{a:Acc}(h:cV a.name)(h2: ¬(a.cnt<1∨u<a.cnt∨1000000*a.cnt<a.sum∨a.sum< -(1000000*a.cnt))):cF u a=0:=by
 unfold cF;rw[if_neg (fun k=>k h),if_neg h2]
theorem fK{a:Acc}(h:cF u a=0):cV a.name∧1≤a.cnt∧a.cnt≤u∧a.sum≤1000000*a.cnt∧ -(1000000*a.cnt)≤a.sum:=by
 by_cases h1:cV a.name
 ·by_cases h2:a.cnt<1∨u<a.cnt∨1000000*a.cnt<a.sum∨a.sum< -(1000000*a.cnt)
  ·rw[dV h1 h2]at h;cases h
  ·exact⟨h1,by omega,by omega,by omega,by omega⟩
 ·rw[pH h1]at h;cases h
def nQ:Option (List Nat)→List Nat→Bool
 |none,_=>true
 |some q,n=>lt q n
def aF(u:Int):Nat→Option (List Nat)→Int→List Acc→Nat×Nat
 |i,_,s,[]=>if s=u then(0,0)else(8,i)
 |i,p,s,a::r=>if cF u a=0 then(if nQ p a.name=true then(if s+a.cnt≤u then aF u (i+1) (some a.name) (s+a.cnt) r else(8,i))else(2,i))else(cF u a,i)
theorem gX{p:Option (List Nat)}{s:Int}{a:Acc}{r:List Acc}(h:cF u a≠0):aF u i p s (a::r)=(cF u a,i):=by rw[aF,if_neg h]
theorem pF{p:Option (List Nat)}{s:Int}{a:Acc}{r:List Acc}(h:cF u a=0)(h2:nQ p a.name=false):aF u i p s (a::r)=(2,i):=by rw[aF,if_pos h,if_neg (by rw[h2];decide)]
theorem kM{p:Option (List Nat)}{s:Int}{a:Acc}{r:List Acc}(h:cF u a=0)(h2:nQ p a.name=true)(h3: ¬s+a.cnt≤u):aF u i p s (a::r)=(8,i):=by rw[aF,if_pos h,if_pos h2,if_neg h3]
theorem iA{p:Option (List Nat)}{s:Int}{a:Acc}{r:List Acc}(h:cF u a=0)(h2:nQ p a.name=true)(h3:s+a.cnt≤u):aF u i p s (a::r)=aF u (i+1) (some a.name) (s+a.cnt) r:=by rw[aF,if_pos h,if_pos h2,if_pos h3]
def aR(u:Int)(l:List Acc):Nat×Nat:=if u<0∨150<u then(3,0)else aF u 0 none 0 l
theorem iG{l:List Acc}(h:u<0∨150<u):aR u l=(3,0):=if_pos h
theorem lN{l:List Acc}(h: ¬(u<0∨150<u)):aR u l=aF u 0 none 0 l:=if_neg h
def iT:List Acc→Int
 |[]=>0
 |a::r=>a.cnt+iT r
def c3F:Option (List Nat)→List Acc→Prop
 |_,[]=>True
 |p,a::r=>nQ p a.name=true∧c3F (some a.name) r
abbrev lU(l:List Acc):Prop:=l.Pairwise (fun a b=>lt a.name b.name=true)
theorem b4H: ∀{p:Option (List Nat)} {l:List Acc},(∀a,a∈l→nQ p a.name=true)→lU l→c3F p l
 |_,[],_,_=>trivial
 |_,a::_,h,hs=>⟨h a c9W,b4H (fun b hb=>(d1A.1 hs).1 b hb) (d1A.1 hs).2⟩
theorem b3S: ∀{p:Option (List Nat)} {l:List Acc},c3F p l→(∀a,a∈l→nQ p a.name=true)∧lU l
 |_,[],_=>⟨fun _ ha=>(by cases ha),List.Pairwise.nil⟩
 |p,a::r,h=>by
  obtain⟨h1,h2⟩:=b3S h.2
  refine⟨fun b hb=>?_,d1A.2 ⟨fun b hb=>h1 b hb,h2⟩⟩
  rcases List.mem_cons.1 hb with rfl|hb
  ·exact h.1
  ·cases p with
   |none=>rfl
   |some q=>exact lt_trans h.1 (h1 b hb)
theorem sB: ∀{l:List Acc} {u:Int},(∀a,a∈l→cF u a=0)→0≤iT l
 |[],_,_=>d1Q 0
 |a::r,u,h=>by
  have h1:=(fK (h a c9W)).2.1
  have h2:=sB (l:=r) (fun b hb=>h b (c9Y _ hb))
  show 0≤a.cnt+iT r
  omega
theorem a1N: ∀{l:List Acc} {u:Int},(∀a,a∈l→cF u a=0)→(l.length:Int)≤iT l
 |[],_,_=>d1Q 0
 |a::r,u,h=>by
  have h1:=(fK (h a c9W)).2.1
  have h2:=a1N (l:=r) (fun b hb=>h b (c9Y _ hb))
  show((r.length+1:Nat):Int)≤a.cnt+iT r
  omega
theorem a2R: ∀{l:List Acc} {u:Int} {i:Nat} {p:Option (List Nat)} {s:Int},(aF u i p s l).1=0→(∀a,a∈l→cF u a=0)∧c3F p l∧s+iT l=u
 |[],u,i,p,s,h=>by
  refine⟨fun _ ha=>(by cases ha),trivial,?_⟩
  show s+0=u
  by_cases e:s=u
  ·omega
  ·rw[aF,if_neg e]at h
   cases h
 |a::r,u,i,p,s,h=>by
  by_cases h1:cF u a=0
  ·by_cases h2:nQ p a.name=true
   ·by_cases h3:s+a.cnt≤u
    ·rw[iA h1 h2 h3]at h
     obtain⟨k1,k2,k3⟩:=a2R h
     refine⟨fun b hb=>?_,⟨h2,k2⟩,?_⟩
     ·rcases List.mem_cons.1 hb with rfl|hb
      ·exact h1
      ·exact k1 b hb
     ·show s+(a.cnt+iT r)=u
      omega
    ·rw[kM h1 h2 h3]at h
     cases h
   ·rw[pF h1 (by simpa using h2)]at h
    cases h
  ·rw[gX h1]at h
   exact absurd h h1
theorem a1R: ∀{l:List Acc} {u:Int} {i:Nat} {p:Option (List Nat)} {s:Int},(∀a,a∈l→cF u a=0)→c3F p l→s+iT l=u→aF u i p s l=(0,0)
 |[],u,i,p,s,_,_,h=>by
  have h:s+0=u:=h
  rw[aF,if_pos (by omega)]
 |a::r,u,i,p,s,h1,h2,h3=>by
  have h3:s+(a.cnt+iT r)=u:=h3
  have hr:=fun b hb=>h1 b (c9Y _ hb)
  have hn:=sB hr
  rw[iA (h1 a c9W) h2.1 (by omega)]
  exact a1R hr h2.2 (by omega)
structure iS(u:Int)(l:List Acc):Prop where
 lo:0≤u
 hi:u≤150
 acc: ∀a,a∈l→cF u a=0
 srt:lU l
 tot:iT l=u
theorem iE{l:List Acc}(h:(aR u l).1=0):iS u l:=by
 by_cases q:u<0∨150<u
 ·rw[iG q]at h;cases h
 ·rw[lN q]at h;obtain⟨h1,h2,h3⟩:=a2R h;exact⟨by omega,by omega,h1,(b3S h2).2,by omega⟩
theorem iS.ok{l:List Acc}(h:iS u l):aR u l=(0,0):=by
 have h1:=h.lo;have h2:=h.hi;rw[lN (by omega)];exact a1R h.acc (b4H (fun _ _=>rfl) h.srt) (by have:=h.tot;omega)
theorem iS.len{l:List Acc}(h:iS u l):l.length≤150:=by
 have h1:=a1N h.acc;have h2:=h.tot;have h3:=h.hi;omega
theorem b7A:iS 0 []:=⟨d1Q 0,by omega,fun _ ha=>(by cases ha),List.Pairwise.nil,rfl⟩
def yF(l:List Acc):Nat→Option (List Nat)
 |0=>none
 |k+1=>(l[k]?).map (·.name)
theorem pN{l:List Acc}{a:Acc}(h:l[k]?=some a):yF l (k+1)=some a.name:=by
 show(l[k]?).map (·.name)=_
 rw[h];rfl
theorem sZ{l:List Acc}{a:Acc}(h:l[k]?=some a):l.drop k=a::l.drop (k+1):=by
 obtain⟨hk,rfl⟩:=c9H.1 h;exact d2L hk
def fresh(n:List Nat):Acc:=⟨n,0,0,false⟩
def get:List Acc→List Nat→Acc
 |[],n=>fresh n
 |a::r,n=>if a.name=n then a else get r n
def may(a:Acc)(e:Ev):Bool:=if e.kind=1 then !a.opn else if e.kind=2∨e.kind=4 then a.opn else if e.kind=3 then a.opn&&decide (e.num≤a.sum)else false
def chg(a:Acc)(e:Ev):Acc:=⟨a.name,if e.kind=2 then a.sum+e.num else if e.kind=3 then a.sum-e.num else a.sum,a.cnt+1,if e.kind=1 then true else if e.kind=4 then false else a.opn⟩
def put:List Acc→Ev→List Acc
 |[],e=>[chg (fresh e.name) e]
 |a::r,e=>if lt a.name e.name=true then a::put r e else if a.name=e.name then chg a e::r else chg (fresh e.name) e::a::r
def apply(u:Int)(l:List Acc)(e:Ev):Nat×Int×List Acc:=
 if (aR u l).1=0 then(if aB e=0 then(if u=150 then(5,0,[])else if may (get l e.name) e=true then(0,u+1,put l e)else(8,0,[]))else(aB e,0,[]))else((aR u l).1,0,[])
theorem rI{l:List Acc}{e:Ev}(h:(aR u l).1≠0):apply u l e=((aR u l).1,0,[]):=if_neg h
theorem oR{l:List Acc}{e:Ev}(h:(aR u l).1=0)(h2:aB e≠0):apply u l e=(aB e,0,[]):=by unfold apply;rw[if_pos h,if_neg h2]
theorem rN{l:List Acc}{e:Ev}(h:(aR u l).1=0)(h2:aB e=0)(h3:u=150):apply u l e=(5,0,[]):=by unfold apply;rw[if_pos h,if_pos h2,if_pos h3]
theorem uT{l:List Acc}{e:Ev}(h:(aR u l).1=0)(h2:aB e=0)(h3:u≠150)(h4:may (get l e.name) e=false):apply u l e=(8,0,[]):=by unfold apply;rw[if_pos h,if_pos h2,if_neg h3,if_neg (by rw[h4];decide)]
theorem xK{l:List Acc}{e:Ev}(h:(aR u l).1=0)(h2:aB e=0)(h3:u≠150)(h4:may (get l e.name) e=true):apply u l e=(0,u+1,put l e):=by unfold apply;rw[if_pos h,if_pos h2,if_neg h3,if_pos h4]
theorem b5K{l:List Acc}{e:Ev}(h:(apply u l e).1=0):iS u l∧aB e=0∧u≠150∧may (get l e.name) e=true∧apply u l e=(0,u+1,put l e):=by
 by_cases h1:(aR u l).1=0
 ·by_cases h2:aB e=0
  ·by_cases h3:u=150
   ·rw[rN h1 h2 h3]at h;cases h
   ·cases h4:may (get l e.name) e with
    |false=>
     rw[uT h1 h2 h3 h4]at h;cases h
    |true=>exact⟨iE h1,h2,h3,rfl,xK h1 h2 h3 h4⟩
  ·rw[oR h1 h2]at h;exact absurd h h2
 ·rw[rI h1]at h;exact absurd h h1
theorem oX: ∀(l:List Acc) (n:List Nat),(get l n).name=n
 |[],_=>rfl
 |a::r,n=>by
  rw[get]
  by_cases h:a.name=n
  ·rw[if_pos h]
   exact h
  ·rw[if_neg h]
   exact oX r n
theorem yG: ∀{l:List Acc} {n:List Nat},(∀a,a∈l→a.name≠n)→get l n=fresh n
 |[],_,_=>rfl
 |a::r,n,h=>by
  rw[get,if_neg (h a c9W)]
  exact yG (fun b hb=>h b (c9Y _ hb))
theorem wQ: ∀(l:List Acc) (n:List Nat),get l n∈l∨get l n=fresh n
 |[],_=>Or.inr rfl
 |a::r,n=>by
  rw[get]
  by_cases h:a.name=n
  ·rw[if_pos h]
   exact Or.inl c9W
  ·rw[if_neg h]
   rcases wQ r n with q|q
   ·exact Or.inl (c9Y _ q)
   ·exact Or.inr q
theorem a3D: ∀{l:List Acc} {e:Ev},lU l→ ∀a,a∈put l e→a∈l∨a=chg (get l e.name) e
 |[],e,_,a,ha=>Or.inr (d1Z.1 ha)
 |x::r,e,hs,a,ha=>by
  have hs':=d1A.1 hs
  rw[put]at ha
  by_cases h1:lt x.name e.name=true
  ·rw[if_pos h1]at ha
   rw[get,if_neg (vT h1)]
   rcases List.mem_cons.1 ha with rfl|ha
   ·exact Or.inl c9W
   ·rcases a3D hs'.2 a ha with q|q
    ·exact Or.inl (c9Y _ q)
    ·exact Or.inr q
  ·rw[if_neg h1]at ha
   by_cases h2:x.name=e.name
   ·rw[if_pos h2]at ha
    rw[get,if_pos h2]
    rcases List.mem_cons.1 ha with rfl|ha
    ·exact Or.inr rfl
    ·exact Or.inl (c9Y _ ha)
   ·rw[if_neg h2]at ha
    have h3:=vA (by simpa using h1) h2
    rw[yG (n:=e.name) (l:=x::r) (fun b hb q=>by
     rcases List.mem_cons.1 hb with rfl|hb
     ·exact h2 q
     ·have:=lt_trans h3 (hs'.1 b hb)
      exact vT this q.symm)]
    rcases List.mem_cons.1 ha with rfl|ha
    ·exact Or.inr rfl
    ·exact Or.inl ha
theorem b3B: ∀{l:List Acc} {e:Ev} {n:List Nat},(∀a,a∈l→lt n a.name=true)→lt n e.name=true→ ∀a,a∈put l e→lt n a.name=true
 |[],e,n,_,h,a,ha=>by
  rw[d1Z.1 ha]
  exact h
 |x::r,e,n,hl,h,a,ha=>by
  rw[put]at ha
  by_cases h1:lt x.name e.name=true
  ·rw[if_pos h1]at ha
   rcases List.mem_cons.1 ha with rfl|ha
   ·exact hl a c9W
   ·exact b3B (fun b hb=>hl b (c9Y _ hb)) h a ha
  ·rw[if_neg h1]at ha
   by_cases h2:x.name=e.name
   ·rw[if_pos h2]at ha
    rcases List.mem_cons.1 ha with rfl|ha
    ·exact hl x c9W
    ·exact hl a (c9Y _ ha)
   ·rw[if_neg h2]at ha
    rcases List.mem_cons.1 ha with rfl|ha
    ·exact h
    ·exact hl a ha
theorem zA: ∀{l:List Acc} {e:Ev},lU l→lU (put l e)
 |[],e,_=>List.pairwise_singleton _ _
 |x::r,e,hs=>by
  have hs':=d1A.1 hs
  rw[put]
  by_cases h1:lt x.name e.name=true
  ·rw[if_pos h1]
   exact d1A.2 ⟨b3B hs'.1 h1,zA hs'.2⟩
  ·rw[if_neg h1]
   by_cases h2:x.name=e.name
   ·rw[if_pos h2]
    exact d1A.2 ⟨fun b hb=>hs'.1 b hb,hs'.2⟩
   ·rw[if_neg h2]
    have h3:=vA (by simpa using h1) h2
    refine d1A.2 ⟨fun b hb=>?_,hs⟩
    rcases List.mem_cons.1 hb with rfl|hb
    ·exact h3
    ·exact lt_trans h3 (hs'.1 b hb)
theorem a1G: ∀(l:List Acc) (e:Ev),iT (put l e)=iT l+1
 |[],e=>rfl
 |x::r,e=>by
  rw[put]
  by_cases h1:lt x.name e.name=true
  ·rw[if_pos h1]
   show x.cnt+iT (put r e)=x.cnt+iT r+1
   rw[a1G r e]
   omega
  ·rw[if_neg h1]
   by_cases h2:x.name=e.name
   ·rw[if_pos h2]
    show x.cnt+1+iT r=x.cnt+iT r+1
    omega
   ·rw[if_neg h2]
    show 0+1+(x.cnt+iT r)=x.cnt+iT r+1
    omega
theorem a6U{a:Acc}(h:cF u a=0):cF (u+1) a=0:=by
 obtain⟨h1,h2,h3,h4,h5⟩:=fK h;exact pX h1 (by omega)
theorem b5B{a:Acc}{e:Ev}(hu:0≤u)(hn:cV a.name)(h:cF u a=0∨a=fresh a.name)(he:aB e=0):cF (u+1) (chg a e)=0:=by
 obtain⟨_,_,_,k1,k2⟩:=eN he;have hb:0≤a.cnt∧a.cnt≤u∧a.sum≤1000000*a.cnt∧ -(1000000*a.cnt)≤a.sum:=by
  rcases h with h|h
  ·obtain⟨_,h2,h3,h4,h5⟩:=fK h;exact⟨by omega,h3,h4,h5⟩
  ·have e1:a.cnt=0:=by rw[h];rfl
   have e2:a.sum=0:=by rw[h];rfl
   exact⟨by omega,by omega,by omega,by omega⟩
 refine pX hn ?_;show¬(a.cnt+1<1∨u+1<a.cnt+1∨1000000*(a.cnt+1)<(if e.kind=2 then a.sum+e.num else if e.kind=3 then a.sum-e.num else a.sum)∨(if e.kind=2 then a.sum+e.num else if e.kind=3 then a.sum-e.num else a.sum)< -(1000000*(a.cnt+1)));by_cases q:e.kind=2
 ·rw[if_pos q];omega
 ·rw[if_neg q];by_cases q2:e.kind=3
  ·rw[if_pos q2];omega
  ·rw[if_neg q2];omega
theorem b6R{l:List Acc}{e:Ev}(h:iS u l)(he:aB e=0)(hu:u≠150):iS (u+1) (put l e):=by
 have h1:=h.lo;have h2:=h.hi;refine⟨by omega,by omega,fun a ha=>?_,zA h.srt,by rw[a1G,h.tot]⟩;rcases a3D h.srt a ha with q|rfl
 ·exact a6U (h.acc a q)
 ·refine b5B h1 (by rw[oX];exact(eN he).1) ?_ he;rcases wQ l e.name with q|q
  ·exact Or.inl (h.acc _ q)
  ·refine Or.inr ?_;rw[oX];exact q
theorem c0H{l:List Acc}{e:Ev}(hs:lU l)(he:aB e=0)(hm:may (get l e.name) e=true)(h: ∀a,a∈l→0≤a.sum): ∀a,a∈put l e→0≤a.sum:=by
 intro a ha;rcases a3D hs a ha with q|rfl
 ·exact h a q
 ·have h0:0≤(get l e.name).sum:=by
   rcases wQ l e.name with q|q
   ·exact h _ q
   ·rw[q];exact d1Q 0
  obtain⟨_,_,_,k1,k2⟩:=eN he;generalize get l e.name=x at hm h0;show 0≤(if e.kind=2 then x.sum+e.num else if e.kind=3 then x.sum-e.num else x.sum);by_cases q:e.kind=2
  ·rw[if_pos q];omega
  ·rw[if_neg q];by_cases q2:e.kind=3
   ·rw[if_pos q2];unfold may at hm;rw[if_neg (by omega),if_neg (by omega),if_pos q2]at hm;simp at hm;omega
   ·rw[if_neg q2];exact h0
def Cut(l:List Acc)(n:List Nat)(i:Nat):Prop:=i≤l.length∧(∀j a,j<i→l[j]?=some a→lt a.name n=true)∧ ∀j a,i≤j→l[j]?=some a→lt a.name n=false
theorem Cut.tail{x:Acc}{r:List Acc}{n:List Nat}(h:Cut (x::r) n (i+1)):Cut r n i:=
 ⟨by have:=h.1;simp at this;omega,fun j a hj ha=>h.2.1 (j+1) a (by omega) (by simpa using ha),fun j a hj ha=>h.2.2 (j+1) a (by omega) (by simpa using ha)⟩
theorem a2Z: ∀{l:List Acc} {e:Ev} {i:Nat} {a:Acc},Cut l e.name i→l[i]?=some a→a.name=e.name→put l e=l.set i (chg a e)
 |[],e,i,a,_,h,_=>by cases h
 |x::r,e,0,a,hc,h,hn=>by
  cases h
  rw[put,if_neg (by rw[hc.2.2 0 x (c9C _) rfl];decide),if_pos hn]
  rfl
 |x::r,e,i+1,a,hc,h,hn=>by
  rw[put,if_pos (hc.2.1 0 x (by omega) rfl),a2Z hc.tail (by simpa using h) hn]
  rfl
theorem b3N: ∀{l:List Acc} {e:Ev} {i:Nat},Cut l e.name i→(∀a,l[i]?=some a→a.name≠e.name)→put l e=l.take i++chg (fresh e.name) e::l.drop i
 |[],e,i,hc,_=>by simp[put]
 |x::r,e,0,hc,h=>by
  rw[put,if_neg (by rw[hc.2.2 0 x (c9C _) rfl];decide),if_neg (h x rfl)]
  rfl
 |x::r,e,i+1,hc,h=>by
  rw[put,if_pos (hc.2.1 0 x (by omega) rfl),b3N hc.tail (fun a ha=>h a (by simpa using ha))]
  rfl
theorem a1A{l:List Acc}(hs:lU l){j:Nat}{a b:Acc}(hj:l[j]?=some a)(hk:l[k]?=some b)(h:j≤k){n:List Nat}(hb:lt b.name n=true):lt a.name n=true:=by
 rcases Nat.lt_or_ge j k with q|q
 ·obtain⟨h1,rfl⟩:=c9H.1 hj;obtain⟨h2,rfl⟩:=c9H.1 hk;exact lt_trans (d2Y.1 hs j k h1 h2 q) hb
 ·obtain rfl:j=k:=by omega
  rw[hj]at hk;cases hk
  exact hb
def rest(n:List Nat)(a:Acc):Bool→List Acc→List Acc
 |d,[]=>if d=true then[]else[a]
 |d,x::r=>(if d=false∧lt x.name n=false then[a]else[])++((if x.name=n then[]else[x])++rest n a (d||!lt x.name n) r)
theorem uB: ∀{l:List Acc} {n:List Nat} {a:Acc},(∀x,x∈l→x.name≠n)→rest n a true l=l
 |[],_,_,_=>rfl
 |x::r,n,a,h=>by
  rw[rest,if_neg (fun q=>by cases q.1),if_neg (h x List.mem_cons_self),Bool.true_or,uB (fun y hy=>h y (List.mem_cons_of_mem _ hy))]
  rfl
theorem a8N: ∀{l:List Acc} {e:Ev},lU l→rest e.name (chg (get l e.name) e) false l=put l e
 |[],e,_=>rfl
 |x::r,e,hs=>by
  have hs':=d1A.1 hs
  rw[rest,put,get]
  by_cases h1:lt x.name e.name=true
  ·rw[if_neg (fun q=>by rw[h1]at q;cases q.2),if_neg (vT h1),if_neg (vT h1),if_pos h1,h1]
   show x::rest e.name _ false r=_
   rw[a8N hs'.2]
  ·have h1':lt x.name e.name=false:=by simpa using h1
   rw[if_pos ⟨rfl,h1'⟩,if_neg h1,h1'];by_cases h2:x.name=e.name
   ·rw[if_pos h2,if_pos h2,if_pos h2];show chg x e::rest e.name (chg x e) true r=_
    rw[uB (fun y hy q=>by
     have:=hs'.1 y hy
     exact vT this (h2.trans q.symm))]
   ·have h3:=vA h1' h2;have hn: ∀y,y∈r→y.name≠e.name:=fun y hy q=>vT (lt_trans h3 (hs'.1 y hy)) q.symm;rw[if_neg h2,if_neg h2,if_neg h2,yG hn];show chg (fresh e.name) e::x::rest e.name _ true r=_;rw[uB hn]
def fB:Int→List Acc→Nat→List Ev→(Nat×Nat)×Int×List Acc
 |u,l,_,[]=>((0,0),u,l)
 |u,l,i,e::r=>if (apply u l e).1=0 then fB (apply u l e).2.1 (apply u l e).2.2 (i+1) r else(((apply u l e).1,i),0,[])
theorem yQ{l:List Acc}{e:Ev}{r:List Ev}(h:(apply u l e).1=0):fB u l i (e::r)=fB (apply u l e).2.1 (apply u l e).2.2 (i+1) r:=by rw[fB,if_pos h]
theorem a0U{l:List Acc}{e:Ev}{r:List Ev}(h:(apply u l e).1≠0):fB u l i (e::r)=(((apply u l e).1,i),0,[]):=by rw[fB,if_neg h]
def cD(u:Int)(l:List Acc)(es:List Ev):(Nat×Nat)×Int×List Acc:=if (aR u l).1=0 then fB u l 0 es else(((aR u l).1,0),0,[])
theorem sC{l:List Acc}{es:List Ev}(h:(aR u l).1≠0):cD u l es=(((aR u l).1,0),0,[]):=if_neg h
theorem pW{l:List Acc}{es:List Ev}(h:(aR u l).1=0):cD u l es=fB u l 0 es:=if_pos h
theorem b1N{l:List Acc}{es:List Ev}(h:(cD u l es).1.1=0):iS u l:=by
 by_cases q:(aR u l).1=0
 ·exact iE q
 ·rw[sC q]at h;exact absurd h q
theorem vO: ∀{es:List Ev} {u:Int} {l:List Acc} {i:Nat},iS u l→(fB u l i es).1.1=0→iS (fB u l i es).2.1 (fB u l i es).2.2∧(fB u l i es).2.1=u+es.length∧((∀a,a∈l→0≤a.sum)→ ∀a,a∈(fB u l i es).2.2→0≤a.sum)
 |[],u,l,i,hr,_=>⟨hr,by show u=u+(0:Nat);omega,fun h=>h⟩
 |e::r,u,l,i,hr,h=>by
  by_cases q:(apply u l e).1=0
  ·rw[yQ q]at h⊢
   obtain⟨_,h2,h3,h4,h5⟩:=b5K q
   rw[h5]at h⊢
   obtain⟨k1,k2,k3⟩:=vO (b6R hr h2 h3) h
   refine⟨k1,?_,fun hs=>k3 (c0H hr.srt h2 h4 hs)⟩
   rw[k2,d0E]
   omega
  ·rw[a0U q]at h
   exact absurd h q
theorem rG{l:List Acc}{es:List Ev}(h:(cD u l es).1.1=0):iS (cD u l es).2.1 (cD u l es).2.2∧(cD u l es).2.1=u+es.length∧((∀a,a∈l→0≤a.sum)→ ∀a,a∈(cD u l es).2.2→0≤a.sum):=by
 have hr:=b1N h;have hw:(aR u l).1=0:=by rw[hr.ok]
 rw[pW hw]at h⊢;exact vO hr h
end Go.Proofs.YtmcaejooaaahdaaGreat.Vw
namespace Go.Proofs.YtmcaejooaaahdaaGreat.Sto
open Go.Proofs.Tryz
variable {L:Nat→Nat} {N a i k n s:Nat} {r:List Nat} {seg u:Int} {v:Value} {w:World}
open Evt (Ev Bat)
structure aM where
 gone:Bool
 bl:List (Int×List Nat)
structure St where
 disks:List aM
 segs:Nat
 tail:List Bat
 seen:List Int
 u:Int
 acc:List Vw.Acc
structure Cfg where
 d:Nat
 s:Nat
 b:Nat
structure Do where
 kind:Int
 n:Int
 seg:Int
 pos:Int
 turn:Nat
 bat:Bat
 name:List Nat
 ver:Int
structure Ans where
 err:Nat
 n:Int
 evs:List Ev
 vu:Int
 vl:List Vw.Acc
def no(e:Nat):Ans:=⟨e,0,[],0,[]⟩
def told(n:Int):Ans:=⟨0,n,[],0,[]⟩
structure Six where
 lay:List Nat→Nat→Cfg→Nat×List (List Nat)
 read:List (List Nat)→Nat→Cfg→Nat×List Nat
 bad:List (List Nat)→Nat→List Nat
 mend:List (List Nat)→Nat→Cfg→Nat×List (List Nat)
def lF(k:Int):List (Int×List Nat)→List Nat→List Nat
 |[],r=>r
 |h::t,r=>lF k t (if h.1=k then h.2 else r)
def aI(ds:List aM)(k:Int):List (List Nat):=ds.map fun d=>if d.gone then[]else lF k d.bl []
def ins(k:Int)(x:List Nat):Bool→List (Int×List Nat)→List (Int×List Nat)
 |f,[]=>if f then[]else[(k,x)]
 |f,h::t=>(if k≤h.1∧f=false then[(k,x)]else[])++((if h.1=k then[]else[h])++ins k x (f||decide (k≤h.1)) t)
def write(k:Int)(l:List (List Nat)):Nat→List aM→List aM
 |_,[]=>[]
 |i,d::r=>(if d.gone then d else⟨false,ins k (l.getD i []) false d.bl⟩)::write k l (i+1) r
def cG(l:List Bat):List Ev:=l.flatMap (·.evs)
def iW(X:Six)(c:Cfg)(ds:List aM):Nat→Nat→List Ev→Nat×List Ev
 |0,_,out=>(0,out)
 |m+1,k,out=>
  if (X.read (aI ds k) k c).1≠0 then((X.read (aI ds k) k c).1,[])
  else if Evt.aL (X.read (aI ds k) k c).2≠0 then(Evt.aL (X.read (aI ds k) k c).2,[])
  else iW X c ds m (k+1) (out++cG (Evt.dA (X.read (aI ds k) k c).2))
def all(X:Six)(c:Cfg)(s:St):Nat×List Ev:=
 if (iW X c s.disks s.segs 0 []).1≠0 then((iW X c s.disks s.segs 0 []).1,[])else(0,(iW X c s.disks s.segs 0 []).2++cG s.tail)
def below(c:Int)(l:List Int):Nat:=(l.filter fun x=>decide (x<c)).length
def eU(X:Six)(c:Cfg)(s:St)(b:Bat)(v:Int×List Vw.Acc):Nat×St:=
 let seen:=s.seen.take (below b.cmd s.seen)++b.cmd::s.seen.drop (below b.cmd s.seen)
 if (s.tail++[b]).length<c.b then(0,⟨s.disks,s.segs,s.tail++[b],seen,v.1,v.2⟩)
 else if (Evt.aF (s.tail++[b])).1≠0 then((Evt.aF (s.tail++[b])).1,s)
 else if (X.lay (Evt.iK (s.tail++[b])) s.segs c).1≠0 then((X.lay (Evt.iK (s.tail++[b])) s.segs c).1,s)
 else(0,⟨write s.segs (X.lay (Evt.iK (s.tail++[b])) s.segs c).2 0 s.disks,s.segs+1,[],seen,v.1,v.2⟩)
def put(X:Six)(c:Cfg)(s:St)(d:Do):St×Ans:=
 if (Evt.aA d.bat).1≠0 then(s,no (Evt.aA d.bat).1)
 else if d.bat.cmd∈s.seen then(s,told s.u)
 else if 0≤d.ver∧d.ver≠(Vw.get s.acc d.name).cnt then(s,no 11)
 else if (Vw.cD s.u s.acc d.bat.evs).1.1≠0 then(s,no (Vw.cD s.u s.acc d.bat.evs).1.1)
 else if (eU X c s d.bat (Vw.cD s.u s.acc d.bat.evs).2).1≠0 then(s,no (eU X c s d.bat (Vw.cD s.u s.acc d.bat.evs).2).1)
 else((eU X c s d.bat (Vw.cD s.u s.acc d.bat.evs).2).2,told (Vw.cD s.u s.acc d.bat.evs).2.1)
def b4Q(X:Six)(c:Cfg)(s:St)(d:Do):Ans:=
 if (all X c s).1≠0 then no (all X c s).1
 else if d.kind=4 then⟨(Vw.cD 0 [] (all X c s).2).1.1,(Vw.cD 0 [] (all X c s).2).2.1,[],(Vw.cD 0 [] (all X c s).2).2.1,(Vw.cD 0 [] (all X c s).2).2.2⟩
 else if d.kind=3 then(if d.n<0∨((all X c s).2.length:Int)<d.n then no 3 else⟨0,(all X c s).2.length,(all X c s).2.drop d.n.toNat,0,[]⟩)
 else if¬Evt.cV d.name then no 7
 else⟨0,((all X c s).2.filter fun e=>decide (e.name=d.name)).length,(all X c s).2.filter fun e=>decide (e.name=d.name),0,[]⟩
def mJ(k:Int)(p:Nat)(y:Nat):List (Int×List Nat)→List (Int×List Nat)
 |[]=>[]
 |h::t=>if h.1=k then(k,h.2.set p (h.2.getD p 0^^^y))::t else h::mJ k p y t
def nZ(s:St)(d:Do):St×Ans:=
 match s.disks[d.n.toNat]? with
 |none=>(s,no 6)
 |some x=>
  if d.n<0 then(s,no 6)
  else if d.kind=5∧x.gone=true then(s,no 8)
  else if d.kind=5∨d.kind=6 then({s with disks:=s.disks.set d.n.toNat ⟨decide (d.kind=5),[]⟩},told 0)
  else match x.bl.find? (fun h=>decide (h.1=d.seg))with
   |none=>(s,no 6)
   |some h=>if d.pos<0∨(h.2.length:Int)≤d.pos then(s,no 3)else({s with disks:=s.disks.set d.n.toNat ⟨x.gone,mJ d.seg d.pos.toNat d.turn x.bl⟩},told 0)
def there(ds:List aM)(l:List Nat):Nat:=(l.filter fun i=>match ds[i]? with|some d=>!d.gone|none=>false).length
def aN(X:Six)(c:Cfg):Nat→Nat→List aM→Nat→Nat→List aM×Nat×Nat
 |0,_,ds,e,n=>(ds,e,n)
 |m+1,k,ds,e,n=>
  if X.bad (aI ds k) k=[]then aN X c m (k+1) ds e n
  else if (X.mend (aI ds k) k c).1≠0 then aN X c m (k+1) ds (if e=0 then(X.mend (aI ds k) k c).1 else e) n
  else aN X c m (k+1) (write k (X.mend (aI ds k) k c).2 0 ds) e (n+there ds (X.bad (aI ds k) k))
def eI(X:Six)(ds:List aM):Nat→Nat→Nat→Nat
 |0,_,n=>n
 |m+1,k,n=>eI X ds m (k+1) (n+(X.bad (aI ds k) k).length)
def step(X:Six)(c:Cfg)(s:St)(d:Do):St×Ans:=
 if d.kind=1 then put X c s d
 else if d.kind=2∨d.kind=3∨d.kind=4 then(s,b4Q X c s d)
 else if d.kind=5∨d.kind=6∨d.kind=7 then nZ s d
 else if d.kind=8 then({s with disks:=(aN X c s.segs 0 s.disks 0 0).1},⟨(aN X c s.segs 0 s.disks 0 0).2.1,(aN X c s.segs 0 s.disks 0 0).2.2,[],0,[]⟩)
 else if d.kind=9 then(s,told (eI X s.disks s.segs 0 0))
 else(s,no 1)
def aX(X:Six)(c:Cfg):St→List Do→St×List Ans
 |s,[]=>(s,[])
 |s,d::r=>((aX X c (step X c s d).1 r).1,(step X c s d).2::(aX X c (step X c s d).1 r).2)
def start(c:Cfg):St:=⟨List.replicate (c.d+c.s) ⟨false,[]⟩,0,[],[],0,[]⟩
theorem mY(X:Six)(c:Cfg): ∀(a b:List Do) (s:St),aX X c s (a++b)=((aX X c (aX X c s a).1 b).1,(aX X c s a).2++(aX X c (aX X c s a).1 b).2)
 |[],_,_=>rfl
 |d::a,b,s=>by
  rw[List.cons_append,aX,mY X c a b,aX]
  rfl
theorem nG(X:Six)(c:Cfg): ∀(l:List Do) (s:St),(aX X c s l).2.length=l.length
 |[],_=>rfl
 |d::r,s=>by
  rw[aX]
  show(aX X c (step X c s d).1 r).2.length+1=r.length+1
  rw[nG X c r]
theorem c0J{X:Six}{c:Cfg}: ∀{l:List Do} {s:St} {i:Nat} {d:Do},l[i]?=some d→(aX X c s l).2[i]?=some (step X c (aX X c s (l.take i)).1 d).2
 |[],_,_,_,h=>by cases h
 |x::r,s,0,d,h=>by
  have h:some x=some d:=h
  cases h
  rfl
 |x::r,s,i+1,d,h=>by
  have h:r[i]?=some d:=h
  show(aX X c (step X c s x).1 r).2[i]?=some (step X c (aX X c (step X c s x).1 (r.take i)).1 d).2
  exact c0J h
theorem rD{X:Six}{c:Cfg}: ∀{l:List Do} {s:St} {i:Nat} {d:Do},l[i]?=some d→(aX X c s (l.take (i+1))).1=(step X c (aX X c s (l.take i)).1 d).1
 |[],_,_,_,h=>by cases h
 |x::r,s,0,d,h=>by
  have h:some x=some d:=h
  cases h
  rfl
 |x::r,s,i+1,d,h=>by
  have h:r[i]?=some d:=h
  show(aX X c (step X c s x).1 (r.take (i+1))).1=(step X c (aX X c (step X c s x).1 (r.take i)).1 d).1
  exact rD h
structure wM(s t:St):Prop where
 seen:t.seen=s.seen
 u:t.u=s.u
 acc:t.acc=s.acc
 tail:t.tail=s.tail
 segs:t.segs=s.segs
theorem wM.refl(s:St):wM s s:=⟨rfl,rfl,rfl,rfl,rfl⟩
theorem b7G(s:St)(d:Do):wM s (nZ s d).1:=by
 unfold nZ;split
 ·exact wM.refl s
 ·split
  ·exact wM.refl s
  ·split
   ·exact wM.refl s
   ·split
    ·exact⟨rfl,rfl,rfl,rfl,rfl⟩
    ·split
     ·exact wM.refl s
     ·split
      ·exact wM.refl s
      ·exact⟨rfl,rfl,rfl,rfl,rfl⟩
theorem b7L{X:Six}{c:Cfg}{s:St}{d:Do}(h:d.kind≠1):wM s (step X c s d).1:=by
 unfold step;rw[if_neg h];split
 ·exact wM.refl s
 ·split
  ·exact b7G s d
  ·split
   ·exact⟨rfl,rfl,rfl,rfl,rfl⟩
   ·split
    ·exact wM.refl s
    ·exact wM.refl s
theorem zF{X:Six}{c:Cfg}{s:St}{d:Do}(h:d.kind=1):step X c s d=put X c s d:=if_pos h
theorem c5O{X:Six}{c:Cfg}{s:St}{b:Bat}{v:Int×List Vw.Acc}(h:(eU X c s b v).1=0):
  (eU X c s b v).2.seen=s.seen.take (below b.cmd s.seen)++b.cmd::s.seen.drop (below b.cmd s.seen)∧(eU X c s b v).2.u=v.1∧(eU X c s b v).2.acc=v.2:=by
 unfold eU at h⊢;dsimp only at h⊢;split
 ·exact⟨rfl,rfl,rfl⟩
 ·rename_i h1;rw[if_neg h1]at h;split
  ·rename_i h2;rw[if_pos h2]at h;exact absurd h h2
  ·rename_i h2;rw[if_neg h2]at h;split
   ·rename_i h3;rw[if_pos h3]at h;exact absurd h h3
   ·exact⟨rfl,rfl,rfl⟩
abbrev Up(l:List (Int×List Nat)):Prop:=l.Pairwise fun a b=>a.1<b.1
theorem rH{k:Int}: ∀{l:List (Int×List Nat)} {r:List Nat},(∀h,h∈l→h.1≠k)→lF k l r=r
 |[],_,_=>rfl
 |h::t,r,q=>by
  rw[lF,if_neg (q h (c9W ..))]
  exact rH fun x hx=>q x (c9Y _ hx)
theorem a7B{k:Int}: ∀{l:List (Int×List Nat)} {h:Int×List Nat} {r:List Nat},Up l→h∈l→h.1=k→lF k l r=h.2
 |x::t,h,r,hu,hm,hk=>by
  rw[lF]
  obtain⟨h1,h2⟩:=d1A.1 hu
  rcases List.mem_cons.1 hm with rfl|hm
  ·rw[if_pos hk]
   exact rH fun y hy=>by
    have:=h1 y hy
    omega
  ·exact a7B h2 hm hk
theorem a7X{k:Int}{x:List Nat}: ∀{l:List (Int×List Nat)},(∀h,h∈l→h.1≠k)→ins k x true l=l
 |[],_=>rfl
 |h::t,q=>by
  rw[ins,if_neg (fun z=>by cases z.2),if_neg (q h (List.mem_cons_self ..)),Bool.true_or,a7X fun y hy=>q y (List.mem_cons_of_mem _ hy)]
  rfl
theorem xH{k:Int}{x:List Nat}: ∀{l:List (Int×List Nat)},Up l→ins k x false l=(l.filter fun h=>decide (h.1<k))++(k,x)::l.filter fun h=>decide (k<h.1)
 |[],_=>rfl
 |h::t,hu=>by
  obtain⟨h1,h2⟩:=d1A.1 hu
  rw[ins]
  by_cases q:h.1<k
  ·rw[if_neg (fun z=>by have:=z.1;omega),if_neg (show¬h.1=k by omega),show(false||decide (k≤h.1))=false by simp;omega,xH h2]
   simp[q,show¬k<h.1 by omega]
  ·have hd:(false||decide (k≤h.1))=true:=by simp;omega
   have ht: ∀y,y∈t→y.1≠k:=fun y hy=>by
    have:=h1 y hy;omega
   have hf:(h::t).filter (fun h=>decide (h.1<k))=[]:=by
    rw[List.filter_eq_nil_iff];intro y hy;rcases List.mem_cons.1 hy with rfl|hy
    ·simpa using Int.not_lt.1 q
    ·have:=h1 y hy;simp;omega
   have hg:t.filter (fun h=>decide (k<h.1))=t:=by
    rw[d2S];intro y hy;have:=h1 y hy;simp;omega
   rw[if_pos ⟨by omega,rfl⟩,hd,a7X ht,hf];by_cases e:h.1=k
   ·rw[if_pos e];simp[show¬k<h.1 by omega,hg]
   ·rw[if_neg e];simp[show k<h.1 by omega,hg]
theorem yM{k:Int}{x:List Nat}{l:List (Int×List Nat)}(hu:Up l):Up (ins k x false l):=by
 rw[xH hu];refine List.pairwise_append.2 ⟨hu.filter _,d1A.2 ⟨fun y hy=>?_,hu.filter _⟩,fun a ha b hb=>?_⟩
 ·simpa using(d0Z.1 hy).2
 ·have h1:a.1<k:=by simpa using(d0Z.1 ha).2
  rcases List.mem_cons.1 hb with rfl|hb
  ·exact h1
  ·have h2:k<b.1:=by simpa using(d0Z.1 hb).2
   omega
theorem a4W{k:Int}{x:List Nat}{l:List (Int×List Nat)}(hu:Up l){h:Int×List Nat}(hm:h∈ins k x false l):h=(k,x)∨(h∈l∧h.1≠k):=by
 rw[xH hu]at hm;rcases List.mem_append.1 hm with q|q
 ·obtain⟨q1,q2⟩:=d0Z.1 q;have q2:h.1<k:=by simpa using q2
  exact Or.inr ⟨q1,by omega⟩
 ·rcases List.mem_cons.1 q with rfl|q
  ·exact Or.inl rfl
  ·obtain⟨q1,q2⟩:=d0Z.1 q;have q2:k<h.1:=by simpa using q2
   exact Or.inr ⟨q1,by omega⟩
theorem rJ(k:Int)(p y:Nat): ∀l:List (Int×List Nat),(mJ k p y l).map (·.1)=l.map (·.1)
 |[]=>rfl
 |h::t=>by
  rw[mJ]
  by_cases q:h.1=k
  ·rw[if_pos q,d1R,d1R,q]
  ·rw[if_neg q,d1R,d1R,rJ k p y t]
theorem a5L{l:List (Int×List Nat)}:Up l↔(l.map (·.1)).Pairwise (· <·):=by rw[List.pairwise_map]
theorem c1B{k:Int}{p y:Nat}{l:List (Int×List Nat)}(hu:Up l):Up (mJ k p y l):=by
 rw[a5L,rJ,←a5L];exact hu
theorem cK(k:Int)(l:List (List Nat)): ∀(ds:List aM) (i:Nat),(write k l i ds).length=ds.length
 |[],_=>rfl
 |d::r,i=>by
  rw[write,d0E,cK k l r,d0E]
theorem kQ(k:Int)(l:List (List Nat)): ∀(ds:List aM) (i j:Nat),(write k l i ds)[j]?=(ds[j]?).map fun d=>if d.gone then d else⟨false,ins k (l.getD (i+j) []) false d.bl⟩
 |[],_,_=>rfl
 |d::r,i,0=>rfl
 |d::r,i,j+1=>by
  rw[write,List.getElem?_cons_succ,List.getElem?_cons_succ,kQ k l r,show i+1+j=i+(j+1) by omega]
theorem tK(a b:List Bat):cG (a++b)=cG a++cG b:=by
 unfold cG;rw[d0H]
end Go.Proofs.YtmcaejooaaahdaaGreat.Sto
namespace Go.Proofs.YtmcaejooaaahdaaGreat.Seg
open Go.Proofs.Tryz
variable {L:Nat→Nat} {N a i k n s:Nat} {r:List Nat} {seg u:Int} {v:Value} {w:World}
def dF(L d:Nat):Nat:=if L≤d then 1 else(L+d-1)/d
theorem oH(L d:Nat)(hd:1≤d):1≤dF L d:=by
 unfold dF;split
 ·exact c9C _
 ·rw[Nat.le_div_iff_mul_le (by omega)];omega
theorem uO(L d:Nat)(hd:1≤d):L≤dF L d*d:=by
 unfold dF;split
 ·omega
 ·have:=Nat.div_add_mod (L+d-1) d;have h2:=Nat.mod_lt (L+d-1) (show d>0 by omega);rw[Nat.mul_comm]at this;omega
theorem rS{L d:Nat}(hd:1≤d)(h1:1≤n)(h:L≤n*d):dF L d≤n:=by
 unfold dF;split
 ·exact h1
 ·have h3:(L+d-1)/d<n+1:=by
   rw[Nat.div_lt_iff_lt_mul (by omega),d0F];omega
  omega
theorem nF{L d:Nat}(hd:1≤d)(h:L≤400*d):dF L d≤400:=rS hd (by decide) h
def eT(r:Nat→Nat)(L n i k:Nat):Nat:=if k<n∧i*n+k<L then r (i*n+k)else 0
theorem b3L{r:Nat→Nat}{L:Nat}(hk:k<n)(h:i*n+k<L):eT r L n i k=r (i*n+k):=if_pos ⟨hk,h⟩
theorem a5X{r:Nat→Nat}{L:Nat}(h: ¬i*n+k<L):eT r L n i k=0:=if_neg (fun q=>h q.2)
theorem wR{r:Nat→Nat}(hr: ∀k,r k<256)(L n:Nat):Gf.Bd2 (eT r L n):=fun i k=>by
 show eT r L n i k<256
 unfold eT
 split
 ·exact hr _
 ·decide
def gW(L:Nat)(seg d s:Int):Nat:=if d<1∨8<d∨s<0∨4<s then 5 else if seg<0∨39<seg then 3 else if 400*d<(L:Int)then 4 else 0
def jP(r:Nat→Nat)(L d:Nat):Nat→Nat→Nat:=Gf.mm d (Gf.bH d) (eT r L (dF L d))
def blk(r:Nat→Nat)(L seg d i:Nat):Nat→Nat:=if i<12 then Crc.enc seg i L (dF L d) (jP r L d i)else fun _=>0
theorem a5K{r:Nat→Nat}{L seg d:Nat}(hi:i<12):blk r L seg d i=Crc.enc seg i L (dF L d) (jP r L d i):=if_pos hi
theorem b0B{r:Nat→Nat}{L seg d:Nat}(hd:1≤d)(hL:L≤400*d)(hs:seg≤39)(hd8:d≤8):Gf.Bd2 (blk r L seg d):=fun i k=>by
 have h2:=nF hd hL
 have hb: ∀k,jP r L d i k<256:=fun k=>Gf.c1P (fun p=>Gf.eM d p) _ _ _ _
 unfold blk
 by_cases h:i<12
 ·rw[if_pos h]
  exact Crc.a4S (by omega) (by omega) (by omega) (by omega) hb k
 ·rw[if_neg h]
  decide
abbrev right(seg:Int)(L:Nat→Nat)(g:Nat→Nat→Nat)(i:Nat):Prop:=Crc.aL (g i) (L i)=0∧((g i 1:Nat):Int)=seg∧g i 2=i
def kI(seg:Int)(L:Nat→Nat)(g:Nat→Nat→Nat)(k:Nat):List Nat:=(List.range k).filter (fun i=>decide (¬right seg L g i))
theorem a6N{g:Nat→Nat→Nat}(h: ¬right seg L g k):kI seg L g (k+1)=kI seg L g k++[k]:=by
 unfold kI;rw[d1G,d1O];congr 1;exact d1W (p:=fun i=>decide (¬right seg L g i)) (decide_eq_true h)
theorem b3T{g:Nat→Nat→Nat}(h:right seg L g k):kI seg L g (k+1)=kI seg L g k:=by
 unfold kI;rw[d1G,d1O];have e:List.filter (fun i=>decide (¬right seg L g i)) [k]=[]:=d1N (p:=fun i=>decide (¬right seg L g i)) (fun q=>(of_decide_eq_true q) h);rw[e,d0W]
def rl(seg:Int)(L:Nat→Nat)(g:Nat→Nat→Nat)(i:Nat):Nat:=if right seg L g i then L i-11 else 0
def rf(g:Nat→Nat→Nat)(i k:Nat):Nat:=g i (k+7)
def rz(g:Nat→Nat→Nat)(i:Nat):Nat:=g i 3*256+g i 4
theorem b1D{g:Nat→Nat→Nat}(h:right seg L g i):rl seg L g i=L i-11:=if_pos h
theorem c2Z{g:Nat→Nat→Nat}(h: ¬right seg L g i):rl seg L g i=0:=if_neg h
theorem yJ{g:Nat→Nat→Nat}(h:0<rl seg L g i):right seg L g i:=by
 refine Classical.byContradiction fun q=>?_;rw[c2Z q]at h;omega
abbrev a5T(seg:Int)(L:Nat→Nat)(g:Nat→Nat→Nat)(N:Nat):Prop:= ∀i,i<N→ ∀j,j<N→right seg L g i→right seg L g j→rz g i=rz g j
end Go.Proofs.YtmcaejooaaahdaaGreat.Seg
namespace Go.Proofs.YtmcaejooaaahdaaGreat
open Go.Proofs.Tryz
variable {L:Nat→Nat} {N a i k n s:Nat} {r:List Nat} {seg u:Int} {v:Value} {w:World}
open Go.RowKit
theorem tP(s h z:Int)(A:Option Addr)(n cap:Nat)(w:World):
  Calls prog 152 #[.agg #[iV s,iV h,iV z,.slice A n cap]] w fun e w'=>e=.returned (iV (Crc.aA s h z n:Nat))∧Bl w w':=by
 by_cases c0:s<0
 ·have H:Hid (Crc.aA s h z n=3):=Crc.bI (by omega);go_enter func152,ntmps152
  go_wp2_with fail;go_ret
  exact⟨aH (by rw[H.out];rfl),aB8 _ _⟩
 by_cases c1:39<s
 ·have H:Hid (Crc.aA s h z n=3):=Crc.bI (by omega);go_enter func152,ntmps152
  go_wp2_with fail;go_ret
  exact⟨aH (by rw[H.out];rfl),aB8 _ _⟩
 by_cases c2:h<0
 ·have H:Hid (Crc.aA s h z n=3):=Crc.bI (by omega);go_enter func152,ntmps152
  go_wp2_with fail;go_ret
  exact⟨aH (by rw[H.out];rfl),aB8 _ _⟩
 by_cases c3:11<h
 ·have H:Hid (Crc.aA s h z n=3):=Crc.bI (by omega);go_enter func152,ntmps152
  go_wp2_with fail;go_ret
  exact⟨aH (by rw[H.out];rfl),aB8 _ _⟩
 by_cases c4:z<0
 ·have H:Hid (Crc.aA s h z n=3):=Crc.bI (by omega);go_enter func152,ntmps152
  go_wp2_with fail;go_ret
  exact⟨aH (by rw[H.out];rfl),aB8 _ _⟩
 by_cases c5:3200<z
 ·have H:Hid (Crc.aA s h z n=3):=Crc.bI (by omega);go_enter func152,ntmps152
  go_wp2_with fail;go_ret
  exact⟨aH (by rw[H.out];rfl),aB8 _ _⟩
 by_cases c6:n<1
 ·have H:Hid (Crc.aA s h z n=5):=Crc.eB (by omega) (by omega);have A0:n=0:=by omega
  subst A0;go_enter func152,ntmps152
  go_wp2_with fail;go_ret
  exact⟨aH (by rw[H.out];rfl),aB8 _ _⟩
 by_cases c7:400<n
 ·have H:Hid (Crc.aA s h z n=5):=Crc.eB (by omega) (by omega);have A1:(400:Int)<(n:Int):=by omega
  have A2: ¬(n:Int)<1:=by omega
  have A3:((n:Int)==0)=false:=by rw[beq_eq_false_iff_ne];omega
  go_enter func152,ntmps152
  go_wp2_with fail;go_ret
  exact⟨aH (by rw[H.out];rfl),aB8 _ _⟩
 have H:Hid (Crc.aA s h z n=0):=Crc.j8 (by omega) (by omega);have A1: ¬(400:Int)<(n:Int):=by omega
 have A2: ¬(n:Int)<1:=by omega
 have A3:((n:Int)==0)=false:=by rw[beq_eq_false_iff_ne];omega
 go_enter func152,ntmps152
 go_wp2_with fail;go_ret
 exact⟨aH (by rw[H.out];rfl),aB8 _ _⟩
theorem m7(s h z:Int)(A:Option Addr)(n cap:Nat)(w:World):
  Calls prog 126 #[.agg #[iV s,iV h,iV z,.slice A n cap]] w fun e w'=>e=.returned (iV (Crc.aA s h z n:Nat))∧Bl w w':=by
 by_cases c0:s<0
 ·have H:Hid (Crc.aA s h z n=3):=Crc.bI (by omega);go_enter func126,ntmps126
  go_wp2_with fail;go_ret
  exact⟨aH (by rw[H.out];rfl),aB8 _ _⟩
 by_cases c1:39<s
 ·have H:Hid (Crc.aA s h z n=3):=Crc.bI (by omega);go_enter func126,ntmps126
  go_wp2_with fail;go_ret
  exact⟨aH (by rw[H.out];rfl),aB8 _ _⟩
 by_cases c2:h<0
 ·have H:Hid (Crc.aA s h z n=3):=Crc.bI (by omega);go_enter func126,ntmps126
  go_wp2_with fail;go_ret
  exact⟨aH (by rw[H.out];rfl),aB8 _ _⟩
 by_cases c3:11<h
 ·have H:Hid (Crc.aA s h z n=3):=Crc.bI (by omega);go_enter func126,ntmps126
  go_wp2_with fail;go_ret
  exact⟨aH (by rw[H.out];rfl),aB8 _ _⟩
 by_cases c4:z<0
 ·have H:Hid (Crc.aA s h z n=3):=Crc.bI (by omega);go_enter func126,ntmps126
  go_wp2_with fail;go_ret
  exact⟨aH (by rw[H.out];rfl),aB8 _ _⟩
 by_cases c5:3200<z
 ·have H:Hid (Crc.aA s h z n=3):=Crc.bI (by omega);go_enter func126,ntmps126
  go_wp2_with fail;go_ret
  exact⟨aH (by rw[H.out];rfl),aB8 _ _⟩
 by_cases c6:n<1
 ·have H:Hid (Crc.aA s h z n=5):=Crc.eB (by omega) (by omega);have A0:n=0:=by omega
  subst A0;go_enter func126,ntmps126
  go_wp2_with fail;go_ret
  exact⟨aH (by rw[H.out];rfl),aB8 _ _⟩
 by_cases c7:400<n
 ·have H:Hid (Crc.aA s h z n=5):=Crc.eB (by omega) (by omega);have A1:(400:Int)<(n:Int):=by omega
  have A2: ¬(n:Int)<1:=by omega
  have A3:((n:Int)==0)=false:=by rw[beq_eq_false_iff_ne];omega
  go_enter func126,ntmps126
  go_wp2_with fail;go_ret
  exact⟨aH (by rw[H.out];rfl),aB8 _ _⟩
 have H:Hid (Crc.aA s h z n=0):=Crc.j8 (by omega) (by omega);have A1: ¬(400:Int)<(n:Int):=by omega
 have A2: ¬(n:Int)<1:=by omega
 have A3:((n:Int)==0)=false:=by rw[beq_eq_false_iff_ne];omega
 go_enter func126,ntmps126
 go_wp2_with fail;go_ret
 exact⟨aH (by rw[H.out];rfl),aB8 _ _⟩
theorem sU(b o n cap p:Nat)(f:Nat→Nat)(w:World)(hf:Bd f)(hn:n≤9223372036854775807)(hp:p+1<n)(hc: ∀i,i<n→w.cell? (aD b (o+i))=some (.int .u8 (f i:Nat))):
  Calls prog 150 #[.slice (some (aD b o)) n cap,iV p] w fun e w'=>e=.returned (iV ((f p*256+f (p+1):Nat):Int))∧Bl w w':=by
 have t1:=hc p (by omega);have t2:=hc (p+1) hp;have f1:=hf p;have f2:=hf (p+1);have h1:(p:Int)<(n:Int):=by omega
 have h2:(p:Int)+1<(n:Int):=by omega
 clear hc;go_enter func150,ntmps150
 go_wp2_with fail;go_quiet (fail)
 go_wp2_with fail;go_ret
 refine⟨aH (?_:bits .or .i64 ((f p:Nat)*256) (f (p+1):Nat)=_),⟨rfl,rfl,rfl,c9C _,fun _ _=>rfl⟩⟩;rw[show((f p:Nat):Int)*256=((f p*256:Nat):Int) by omega,c2F _ _ (by omega) (by omega),nat_join 8 _ _ (by omega) (by omega)]
theorem sW(i x y:Nat)(hx:x<2^i)(hy:y%2^i=0)(h1:x<4294967296)(h2:y<4294967296):bits .or .u32 (x:Int) (y:Int)=((x+y:Nat):Int):=by
 rw[u32_or_nat _ _ h1 h2,Nat.or_comm,nat_join i _ _ hy hx,Nat.add_comm]
theorem or4(a b c d:Nat)(ha:a<256)(hb:b<256)(hc:c<256)(hd:d<256):
  bits .or .u32 (bits .or .u32 (bits .or .u32 (bits .or .u32 0 (a:Int)) ((b:Int)*256)) ((c:Int)*65536)) ((d:Int)*16777216)=((a+b*256+c*65536+d*16777216:Nat):Int):=by
 rw[show(0:Int)=((0:Nat):Int)from rfl,sW 0 0 a (by decide) (by omega) (by decide) (by omega),c9G,show(b:Int)*256=((b*256:Nat):Int) by omega,sW 8 a (b*256) (by omega) (by omega) (by omega) (by omega),
  show(c:Int)*65536=((c*65536:Nat):Int) by omega,sW 16 (a+b*256) (c*65536) (by omega) (by omega) (by omega) (by omega),
  show(d:Int)*16777216=((d*16777216:Nat):Int) by omega,sW 24 (a+b*256+c*65536) (d*16777216) (by omega) (by omega) (by omega) (by omega)]
theorem a0W(b o n cap p:Nat)(f:Nat→Nat)(w:World)(hf:Bd f)(hn:n≤9223372036854775807)(hp:p+4=n)(hc: ∀i,i<n→w.cell? (aD b (o+i))=some (.int .u8 (f i:Nat))):
  Calls prog 149 #[.slice (some (aD b o)) n cap,iV p] w fun e w'=>e=.returned (.int .u32 (Crc.oD f p:Nat))∧Bl w w':=by
 have t0:=hc p (by omega);have t1:=hc (p+1) (by omega);have t2:=hc (p+2) (by omega);have t3:=hc (p+3) (by omega);have f0:=hf p;have f1:=hf (p+1);have f2:=hf (p+2);have f3:=hf (p+3);have A0:(n:Int)=(p:Int)+4:=by omega
 subst hp;clear hc;go_enter func149,ntmps149
 go_wp2_with fail;refine wp_loop_rounds 5 ?_;iterate 5
  rw[rounds_succ];go_wp2_with fail
 go_ret
 exact⟨aH (or4 (f p) (f (p+1)) (f (p+2)) (f (p+3)) f0 f1 f2 f3),Below.refl _ _⟩
def cW(g:Nat→Nat)(n:Nat):Prop:=n<12∨g 0≠83∨n≠11+(g 5*256+g 6)
theorem kW(v:Value)(n:Nat)(g:Nat→Nat)(w:World)(h:cA w v n g):
  Calls prog 147 #[v] w fun e w'=>rM e (¬cW g n)∧Bl w w':=by
 by_cases hn:n<12
 ·have H:Hid (cW g n):=Or.inl hn;obtain⟨_,A,A1,rfl,_⟩:=h;have A2:(n:Int)<12:=by omega
  go_enter func147,ntmps147
  go_wp2_with fail;go_ret
  exact⟨cZ (fun k=>k H.out),Below.refl _ _⟩
 ·have A2: ¬(n:Int)<12:=by omega
  have A0:=h.bd;have hl:=h.len;obtain⟨b,o,A1,rfl,_,_,hc⟩:=h.some (by omega);have t0:w.cell? (aD b o)=some (.int .u8 (g 0:Nat)):=by simpa using hc 0 (by omega)
  have A3:(0:Int)<(n:Int):=by omega
  by_cases h0:g 0=83
  ·have H2:=fun w' (hb':Bl w w')=>sU b o n A1 5 g w' A0 hl (by omega) (fun i hi=>cB8 hb' (hc i hi));have e0:(((g 0:Nat):Int) !=83)=false:=by rw[h0];rfl
   have b5:=A0 5;have b6:=A0 6;have HX:Hid (¬cW g n↔(n:Int)=7+((g 5*256+g 6:Nat):Int)+4):=by
    unfold cW;constructor
    ·intro k;omega
    ·intro k;omega
   have hq:g 5*256+g 6≤65535:=by omega
   generalize g 5*256+g 6=q at H2 HX hq;clear hc h0 h;go_enter func147,ntmps147
   go_wp2_with fail;refine(H2 _ (Below.refl _ _)).mono ?_;rintro e w1 ⟨rfl,b1⟩;clear H2;go_wp2_with fail;go_ret
   exact⟨c5Q (by rw[beq_iff_eq];exact HX.out.symm),b1⟩
  ·have H:Hid (cW g n):=Or.inr (Or.inl h0);have e0:(((g 0:Nat):Int) !=83)=true:=by rw[bne_iff_ne];omega
   clear hc h0 h;go_enter func147,ntmps147
   go_wp2_with fail;go_ret
   exact⟨cZ (fun k=>k H.out),Below.refl _ _⟩
def cellsOf(f:Nat→Nat)(n:Nat):List Value:=(List.range n).map fun k=> .int .u8 (f k:Nat)
theorem a4I(f:Nat→Nat)(n j:Nat)(h:j<n)(d:Value):(cellsOf f n).getD j d=.int .u8 (f j:Nat):=by simp[cellsOf,List.getD,h]
theorem jJ{f g:Nat→Nat}(h: ∀k,k<n→f k=g k):cellsOf f n=cellsOf g n:=d1H (fun k hk=>by rw[h k (d0D.1 hk)])
theorem lH(f:Nat→Nat)(n m:Nat):cellsOf f (n+m)=cellsOf f n++cellsOf (fun k=>f (n+k)) m:=by
 unfold cellsOf;rw[List.range_add,c9U,List.map_map];rfl
theorem jR(f:Nat→Nat)(n:Nat): ∀u∈cellsOf f n,u.oneCell'=true:=fun u hu=>by
 obtain⟨k,_,rfl⟩:=d0G.1 hu
 rfl
def Buf(w:World)(N:Nat)(v:Value)(n:Nat)(f:Nat→Nat):Prop:=w.ownsRow N 5 1 v n (cellsOf f n)
theorem Buf.bE{w':World}{f:Nat→Nat}(h:Buf w N v n f)(hb:Bl w w'):Buf w' N v n f:=aK h hb
theorem Buf.congr{f g:Nat→Nat}(h:Buf w N v n f)(e: ∀k,k<n→f k=g k):Buf w N v n g:=by
 unfold Buf at h⊢;rw[←jJ e];exact h
theorem Buf.byts{f:Nat→Nat}(h:Buf w N v n f)(hf:Bd f)(hn:1≤n): ∃g cap,v=.slice (some (aD g 0)) n cap∧N≤g∧n≤cap∧cap≤maxLen∧aZ w g 5 n (fun j=> .int .u8 (f j:Nat))∧cA w v n f:=by
 obtain⟨hl,h'⟩:=h;rcases h' with⟨_,h0⟩|⟨g,cap,A3,hv,hN,hg,hc,hm,hs,ht⟩
 ·omega
 ·obtain⟨g',A2,A1,A4,A5,hr⟩:=eD (w:=w) (N:=N) (t:=5) (v:=v) (n:=n) (xs:=cellsOf f n) ⟨hl,Or.inr ⟨g,cap,A3,hv,hN,hg,hc,hm,hs,ht⟩⟩ hn;rw[hv]at A1;cases A1
  have A0:=hr.congr (fun j hj=>a4I f n j hj _);exact⟨g,cap,hv,hN,hc,hm,A0,by rw[hv];exact lE hf A0 hc hm⟩
def put(f:Nat→Nat)(n x:Nat)(k:Nat):Nat:=if k=n then x else f k
theorem yA(N n x:Nat)(v:Value)(f:Nat→Nat)(w:World)(h:Buf w N v n f)(hN:N≤w.heap.size)(hn:n≤1000)(hx:x<65536):
  Calls prog 165 #[v,iV x] w fun e w'=> ∃v',e=.returned v'∧Buf w' N v' (n+2) (put (put f n (x/256)) (n+1) (x%256))∧Below N w w':=by
 obtain⟨i1,A2,A1⟩:=c9J.1 Tryz.infoByte;simp only[Prod.mk.injEq]at A1;obtain⟨A3,A4,A5⟩:=A1;go_enter func165,ntmps165
 have HO:Buf (w.alloc (.cells #[.int .u8 ((x:Int)/256),.int .u8 ((x:Int)%256)] 5)) N v n f:=h.bE (aB8 _ _);have A0:Below N w (w.alloc (.cells #[.int .u8 ((x:Int)/256),.int .u8 ((x:Int)%256)] 5)):=(Below.refl _ _).alloc hN _;have HL:=h.lt;have cn:=eE w #[.int .u8 ((x:Int)/256),.int .u8 ((x:Int)%256)] 5;have sX:=A0.size;go_wp2_with (at_builtin;go_loud (refine wpList_append_own _ rfl (.tmp 5) (.tmp 11) 59 rfl N 5 i1 (.int .u8 0) 1 1 underlying59 A2 A3 A4 A5 rfl (by decide) _ _ _ rfl HO (aD w.heap.size 0) 2 2 [.int .u8 ((x:Int)/256),.int .u8 ((x:Int)%256)] rfl rfl cn (by intro u hu;simp at hu;rcases hu with rfl|rfl<;>rfl) (by unfold maxLen;omega) (by omega) (c9E hN sX) ?_;intro v1 w1 hown1 hgrow1 _));go_ret
 refine⟨_,rfl,?_,A0.grown hgrow1 (c9E hN sX) (fun y hy=>(HL y hy).1)⟩;have e:cellsOf (put (put f n (x/256)) (n+1) (x%256)) (n+2)=cellsOf f n++[.int .u8 ((x:Int)/256),.int .u8 ((x:Int)%256)]:=by
  rw[lH];refine congr (congrArg _ ?_) ?_
  ·exact jJ (fun k hk=>by unfold put;rw[if_neg (by omega),if_neg (by omega)])
  ·show[Value.int .u8 ((put (put f n (x/256)) (n+1) (x%256) (n+0):Nat):Int),Value.int .u8 ((put (put f n (x/256)) (n+1) (x%256) (n+1):Nat):Int)]=_;unfold put;rw[if_neg (by omega),if_pos (by omega),if_pos rfl];rfl
 unfold Buf;rw[e];exact hown1
theorem b3U{y:Nat}{f:Nat→Nat}{a:Int}(h:w.ownsRow N 5 1 v (n+1) (cellsOf f n++[.int .u8 a]))(e:a=(y:Int))(ey:f n=y):Buf w N v (n+1) f:=by
 unfold Buf;rw[lH];show w.ownsRow N 5 1 v (n+1) (cellsOf f n++[Value.int .u8 ((f n:Nat):Int)]);rw[ey,←e];exact h
def mC(f:Nat→Nat)(n x k:Nat):Nat:=if k<n then f k else Crc.low x (k-n)
theorem a9Y(N n x:Nat)(v:Value)(f:Nat→Nat)(w:World)(h:Buf w N v n f)(hN:N≤w.heap.size)(hn:n≤1000)(_hx:x<4294967296):
  Calls prog 166 #[v,.int .u32 (x:Int)] w fun e w'=> ∃v',e=.returned v'∧Buf w' N v' (n+4) (mC f n x)∧Below N w w':=by
 obtain⟨i1,A2,A1⟩:=c9J.1 Tryz.infoByte;simp only[Prod.mk.injEq]at A1;obtain⟨A4,A5,A6⟩:=A1;go_enter func166,ntmps166
 go_wp2_with fail;go_loopw [0,6] (fun u y wr=> ∃k:Nat,k≤4∧y=iV k∧Buf wr N u (n+k) (mC f n x)∧Below N w wr) (fun _ y _=>4-(intOf y).toNat)
 case atStart=>exact⟨0,c9D _,rfl,h.congr (fun k hk=>by unfold mC;rw[if_pos hk]),Below.refl _ _⟩
 case round=>
  obtain⟨k,hk,rfl,HB,hb⟩:=hrel;by_cases A7:k<4
  ·have A3:(k:Int)<4:=by omega
   have HO:=HB.bE ((Below.refl _ _).alloc (c9C _) (.cells #[.int .u8 ((x:Int)/2^(8*k)%256)] 5));have A0:Below N w (wr.alloc (.cells #[.int .u8 ((x:Int)/2^(8*k)%256)] 5)):=hb.alloc (c9E hN hb.size) _;have HL:=HB.lt;have cn:=eE wr #[.int .u8 ((x:Int)/2^(8*k)%256)] 5;have sX:=c9E hN A0.size;go_wp2_with (at_builtin;go_loud (refine wpList_append_own _ rfl (.tmp 9) (.tmp 15) 59 rfl N 5 i1 (.int .u8 0) 1 1 underlying59 A2 A4 A5 A6 rfl (by decide) _ _ _ rfl HO (aD wr.heap.size 0) 1 1 [.int .u8 ((x:Int)/2^(8*k)%256)] rfl rfl cn (by intro u hu;simp at hu;subst hu;rfl) (by unfold maxLen;omega) (by omega) sX ?_;intro v1 w1 hown1 hgrow1 _));refine⟨⟨k+1,by omega,by go_num,b3U (n:=n+k) hown1 (y:=Crc.low x k) ?_ ?_,A0.grown hgrow1 sX (fun y hy=>(HL y hy).1)⟩,by simp[intOf];omega⟩
   ·unfold Crc.low;rw[show(256:Nat)^k=2^(8*k) by rw[Nat.pow_mul]];simp
   ·unfold mC;rw[if_neg (by omega),d2G]
  ·have e8:k=4:=by omega
   subst e8;go_wp2_with fail;go_ret
   exact⟨_,rfl,HB,hb⟩
theorem b7Q(w:World)(b o L C:Nat)(f:Nat→Nat)(hL:L≤100000)(hc: ∀k,k<L→w.cell? (aD b (o+k))=some (.int .u8 (f k:Nat))):
  ∃v' w',(Builtin.append_ #[59,59] 59 #[.slice (some (aD w.heap.size 0)) 0 0,.slice (some (aD b o)) L C]).run prog (w.alloc (.cells #[] 5))=.ok v' w'∧Buf w' w.heap.size v' L f∧Bl w w':=by
 obtain⟨i1,A4,A3⟩:=c9J.1 Tryz.infoByte;simp only[Prod.mk.injEq]at A3;obtain⟨A5,A6,A7⟩:=A3;have A1:=(Below.refl w.heap.size w).alloc (c9C _) (.cells #[] 5);have A0:(w.alloc (.cells #[] 5)).ownsRow w.heap.size 5 1 (.slice (some (aD w.heap.size 0)) 0 0) 0 []:=World.ownsRow_made w #[] 0 (c9C _) (by unfold maxLen;omega) rfl;have hn: ∀j u,(cellsOf f L)[j]?=some u→(w.alloc (.cells #[] 5)).cell? ((⟨b,o,none⟩:Addr).add j)=some u:=fun j u hj=>by
  rcases Nat.lt_or_ge j L with h|h
  ·simp[cellsOf,h]at hj;rw[WideShapes.add_plain,cB8 A1 (hc j h),←hj]
  ·simp[List.getElem?_eq_none (show(cellsOf f L).length≤j by simpa [cellsOf]using h)]at hj
 obtain⟨v',w',A2,ho,hg,_⟩:=run_append_own (P:=prog) (w.alloc (.cells #[] 5)) w.heap.size 59 59 5 i1 (.int .u8 0) 1 1 underlying59 A4 A5 A6 A7 rfl (by decide) _ 0 [] A0 (aD b o) L C (cellsOf f L) (by simp[cellsOf]) hn (jR f L) (by unfold maxLen;omega) (by omega) A1.size;rw[c9G,d1C]at ho;exact⟨v',w',A2,ho,A1.grown hg A1.size (fun x hx=>(A0.lt x hx).1)⟩
theorem b7V(b o L C:Nat)(f:Nat→Nat)(w:World)(hL:L≤100000)(hc: ∀k,k<L→w.cell? (aD b (o+k))=some (.int .u8 (f k:Nat))):
  Calls prog 151 #[.slice (some (aD b o)) L C] w fun e w'=> ∃v',e=.returned v'∧Buf w' w.heap.size v' L f∧Bl w w':=by
 obtain⟨v',w',A0,HB,hb⟩:=b7Q w b o L C f hL hc;have HX:=hd8 HB;have hq:=fun w=>Lib.run_eql_slice_nil (P:=prog) w 59 5 (some (aD b o)) L C 0 0 underlying59;clear HB hc;go_enter func151,ntmps151
 go_wp2_with (at_builtin;refine Lib.wpList_append_run _ rfl (.tmp 5) (.tmp 6) 59 59 rfl _ _ rfl rfl _ _ A0 ?_);go_ret
 exact⟨_,rfl,HX.out,hb⟩
end Go.Proofs.YtmcaejooaaahdaaGreat
namespace Go.Proofs.YtmcaejooaaahdaaGreat.Evt
open Go.Proofs.Tryz
variable {L:Nat→Nat} {N a i k n s:Nat} {r:List Nat} {seg u:Int} {v:Value} {w:World}
abbrev St:=List Nat×Bool
def cP(s:Nat)(st:St):Nat×St:=match num s 0 st.1 with|some (x,r)=>(x,(r,st.2))|none=>(0,([],true))
def gH(n:Nat)(st:St):List Nat×St:=if st.1.length<n then([],([],true))else(st.1.take n,(st.1.drop n,st.2))
def evS(st:St):Ev×St:=
 (⟨(gH (cP 1 st).1 (cP 1 st).2).1,((cP 1 (gH (cP 1 st).1 (cP 1 st).2).2).1:Nat),((cP 3 (cP 1 (gH (cP 1 st).1 (cP 1 st).2).2).2).1:Nat)⟩,(cP 3 (cP 1 (gH (cP 1 st).1 (cP 1 st).2).2).2).2)
def jF:Nat→St→List Ev×St
 |0,st=>([],st)
 |m+1,st=>((evS st).1::(jF m (evS st).2).1,(jF m (evS st).2).2)
def uI(st:St):List Ev×St:=jF (cP 1 st).1 (cP 1 st).2
def nA(st:St):Bat×St:=(⟨((cP 3 st).1:Nat),(uI (cP 3 st).2).1⟩,(uI (cP 3 st).2).2)
def dR:Nat→St→List Bat×St
 |0,st=>([],st)
 |m+1,st=>((nA st).1::(dR m (nA st).2).1,(dR m (nA st).2).2)
def fH(st:St):List Bat×St:=dR (cP 1 st).1 (cP 1 st).2
theorem a2J: ∀(m:Nat) (st:St),jF (m+1) st=((jF m st).1++[(evS (jF m st).2).1],(evS (jF m st).2).2)
 |0,st=>rfl
 |m+1,st=>by
  show((evS st).1::(jF (m+1) (evS st).2).1,(jF (m+1) (evS st).2).2)=_
  rw[a2J m (evS st).2]
  rfl
theorem zM: ∀(m:Nat) (st:St),dR (m+1) st=((dR m st).1++[(nA (dR m st).2).1],(nA (dR m st).2).2)
 |0,st=>rfl
 |m+1,st=>by
  show((nA st).1::(dR (m+1) (nA st).2).1,(dR (m+1) (nA st).2).2)=_
  rw[zM m (nA st).2]
  rfl
theorem uZ: ∀(m:Nat) (st:St),(dR m st).1.length=m
 |0,_=>rfl
 |m+1,st=>by
  show(dR m (nA st).2).1.length+1=m+1
  rw[uZ m]
def qE{α:Type}(o:Option (α×List Nat))(a:α×St):Prop:=match o with|some (x,r)=>a=(x,(r,false))|none=>a.2.2=true
theorem a1S(s:Nat)(r:List Nat):qE (num s 0 r) (cP s (r,false)):=by
 unfold cP qE;cases num s 0 r with
 |none=>rfl
 |some p=>rfl
theorem gK(s:Nat)(st:St)(h:st.2=true):(cP s st).2.2=true:=by
 unfold cP;cases num s 0 st.1 with
 |none=>rfl
 |some p=>exact h
theorem a8U(s:Nat)(st:St)(h:st.2=true):(gH s st).2.2=true:=by
 unfold gH;split
 ·rfl
 ·exact h
theorem c4P(st:St)(h:st.2=true):(evS st).2.2=true:=gK _ _ (gK _ _ (a8U _ _ (gK _ _ h)))
theorem sL: ∀(m:Nat) (st:St),st.2=true→(jF m st).2.2=true
 |0,_,h=>h
 |m+1,st,h=>sL m (evS st).2 (c4P st h)
theorem a6A(st:St)(h:st.2=true):(uI st).2.2=true:=sL _ _ (gK _ _ h)
theorem c2X(st:St)(h:st.2=true):(nA st).2.2=true:=a6A _ (gK _ _ h)
theorem tT: ∀(m:Nat) (st:St),st.2=true→(dR m st).2.2=true
 |0,_,h=>h
 |m+1,st,h=>tT m (nA st).2 (c2X st h)
theorem jG{r':List Nat}{x:Nat}(h:num s 0 r=some (x,r')):cP s (r,false)=(x,(r',false)):=by
 have:=a1S s r;rw[h]at this;exact this
theorem kD(h:num s 0 r=none):(cP s (r,false)).2.2=true:=by
 have:=a1S s r;rw[h]at this;exact this
theorem b9V(r:List Nat):qE (qX r) (evS (r,false)):=by
 unfold qX;cases h1:num 1 0 r with
 |none=>exact gK _ _ (gK _ _ (a8U _ _ (kD h1)))
 |some p=>
  obtain⟨n,r1⟩:=p;have e1:=jG h1;show qE (if r1.length<n then none else _) _;unfold evS;rw[e1];by_cases h2:r1.length<n
  ·rw[if_pos h2];have e2:(gH n (r1,false)).2.2=true:=by
    unfold gH;rw[if_pos h2]
   exact gK _ _ (gK _ _ e2)
  ·rw[if_neg h2];have e2:gH n (r1,false)=(r1.take n,(r1.drop n,false)):=by
    unfold gH;rw[if_neg h2]
   show qE _ ((⟨(gH n (r1,false)).1,_,_⟩:Ev),(cP 3 (cP 1 (gH n (r1,false)).2).2).2);rw[e2];cases h3:num 1 0 (r1.drop n)with
   |none=>exact gK _ _ (kD h3)
   |some p=>
    obtain⟨k,r2⟩:=p;have e3:=jG h3;show qE _ ((⟨_,((cP 1 (r1.drop n,false)).1:Nat),((cP 3 (cP 1 (r1.drop n,false)).2).1:Nat)⟩:Ev),(cP 3 (cP 1 (r1.drop n,false)).2).2);rw[e3];show qE (match num 3 0 r2 with|none=>none|some (m,r'')=>some ((⟨r1.take n,(k:Int),(m:Int)⟩:Ev),r'')) _;cases h4:num 3 0 r2 with
    |none=>exact kD h4
    |some p=>
     obtain⟨m,r3⟩:=p;have e4:=jG h4;show((⟨r1.take n,(k:Int),((cP 3 (r2,false)).1:Nat)⟩:Ev),(cP 3 (r2,false)).2)=_;rw[e4]
theorem a1F: ∀(m:Nat) (r:List Nat),qE (eF m r) (jF m (r,false))
 |0,r=>rfl
 |m+1,r=>by
  show qE (match qX r with|none=>none|some (e,r)=>match eF m r with|none=>none|some (l,r)=>some (e::l,r)) _
  have h:=b9V r
  cases h1:qX r with
  |none=>
   rw[h1]at h;exact sL m _ h
  |some p=>
   obtain⟨e,r1⟩:=p;rw[h1]at h;have h:evS (r,false)=(e,(r1,false)):=h;show qE (match eF m r1 with|none=>none|some (l,r)=>some (e::l,r)) ((evS (r,false)).1::(jF m (evS (r,false)).2).1,(jF m (evS (r,false)).2).2);rw[h];have k:=a1F m r1;cases h2:eF m r1 with
   |none=>
    rw[h2]at k;exact k
   |some p=>
    obtain⟨l,r2⟩:=p;rw[h2]at k;have k:jF m (r1,false)=(l,(r2,false)):=k;show(e::(jF m (r1,false)).1,(jF m (r1,false)).2)=_;rw[k]
theorem b6U(r:List Nat):qE (l6 r) (nA (r,false)):=by
 unfold l6;cases h1:num 3 0 r with
 |none=>exact a6A _ (kD h1)
 |some p=>
  obtain⟨c,r1⟩:=p;have e1:=jG h1;unfold nA;rw[e1];show qE (match num 1 0 r1 with|none=>none|some (m,r)=>match eF m r with|none=>none|some (l,r)=>some ((⟨c,l⟩:Bat),r)) _;cases h2:num 1 0 r1 with
  |none=>exact sL _ _ (kD h2)
  |some p=>
   obtain⟨m,r2⟩:=p;have e2:=jG h2;show qE (match eF m r2 with|none=>none|some (l,r)=>some ((⟨c,l⟩:Bat),r)) ((⟨(c:Int),(uI (r1,false)).1⟩:Bat),(uI (r1,false)).2);unfold uI;rw[e2];have k:=a1F m r2;cases h3:eF m r2 with
   |none=>
    rw[h3]at k;exact k
   |some p=>
    obtain⟨l,r3⟩:=p;rw[h3]at k;have k:jF m (r2,false)=(l,(r3,false)):=k;show((⟨(c:Int),(jF m (r2,false)).1⟩:Bat),(jF m (r2,false)).2)=_;rw[k]
theorem qW: ∀(m:Nat) (r:List Nat),qE (eC m r) (dR m (r,false))
 |0,r=>rfl
 |m+1,r=>by
  show qE (match l6 r with|none=>none|some (e,r)=>match eC m r with|none=>none|some (l,r)=>some (e::l,r)) _
  have h:=b6U r
  cases h1:l6 r with
  |none=>
   rw[h1]at h;exact tT m _ h
  |some p=>
   obtain⟨e,r1⟩:=p;rw[h1]at h;have h:nA (r,false)=(e,(r1,false)):=h;show qE (match eC m r1 with|none=>none|some (l,r)=>some (e::l,r)) ((nA (r,false)).1::(dR m (nA (r,false)).2).1,(dR m (nA (r,false)).2).2);rw[h];have k:=qW m r1;cases h2:eC m r1 with
   |none=>
    rw[h2]at k;exact k
   |some p=>
    obtain⟨l,r2⟩:=p;rw[h2]at k;have k:dR m (r1,false)=(l,(r2,false)):=k;show(e::(dR m (r1,false)).1,(dR m (r1,false)).2)=_;rw[k]
theorem b5A(h:(fH (r,false)).2.2=true∨(fH (r,false)).2.1≠[]):aL r=2∧dA r=[]:=by
 have hg:tU r=none:=by
  unfold tU;unfold fH at h;cases h1:num 1 0 r with
  |none=>rfl
  |some p=>
   obtain⟨m,r1⟩:=p;rw[jG h1]at h;show(match eC m r1 with|none=>none|some (l,r)=>if r=[]then some l else none)=none;have k:=qW m r1;cases h2:eC m r1 with
   |none=>rfl
   |some p=>
    obtain⟨l,r2⟩:=p;rw[h2]at k;have k:dR m (r1,false)=(l,(r2,false)):=k;have h:(dR m (r1,false)).2.2=true∨(dR m (r1,false)).2.1≠[]:=h;rw[k]at h;rcases h with h|h
    ·cases h
    ·exact if_neg h
 unfold aL dA;rw[hg];exact⟨rfl,rfl⟩
theorem a9U(h:(fH (r,false)).2.2=false)(h':(fH (r,false)).2.1=[]):tU r=some (fH (r,false)).1:=by
 unfold tU;unfold fH at h h'⊢;cases h1:num 1 0 r with
 |none=>
  rw[tT _ _ (kD h1)]at h;cases h
 |some p=>
  obtain⟨m,r1⟩:=p;rw[jG h1]at h h'⊢;show(match eC m r1 with|none=>none|some (l,r)=>if r=[]then some l else none)=some (dR m (r1,false)).1;have h:(dR m (r1,false)).2.2=false:=h;have h':(dR m (r1,false)).2.1=[]:=h';have k:=qW m r1;cases h2:eC m r1 with
  |none=>
   rw[h2]at k;have k:(dR m (r1,false)).2.2=true:=k;rw[k]at h;cases h
  |some p=>
   obtain⟨l,r2⟩:=p;rw[h2]at k;have k:dR m (r1,false)=(l,(r2,false)):=k;rw[k]at h'⊢;exact if_pos h'
theorem a6O(h:(fH (r,false)).2.2=false)(h':(fH (r,false)).2.1=[]):aL r=(aF (fH (r,false)).1).1∧dA r=if (aF (fH (r,false)).1).1=0 then(fH (r,false)).1 else[]:=by
 unfold aL dA;rw[a9U h h'];exact⟨rfl,rfl⟩
theorem bP.drop(h:bP r)(n:Nat):bP (r.drop n):=fun x hx=>h x (d1S hx)
theorem bP.take(h:bP r)(n:Nat):bP (r.take n):=fun x hx=>h x (d2T hx)
theorem bP.nil:bP []:=fun x hx=>by cases hx
def val(l:List Nat):Nat:=l.foldl (fun n x=>256*n+x) 0
theorem b3Q: ∀(s acc:Nat) (r:List Nat),num s acc r=if r.length<s then none else some ((r.take s).foldl (fun n x=>256*n+x) acc,r.drop s)
 |0,acc,r=>(if_neg (c:=r.length<0) (c9L _)).symm
 |s+1,acc,[]=>(if_pos (c:=([]:List Nat).length<s+1) (Nat.succ_pos s)).symm
 |s+1,acc,x::r=>by
  show num s (256*acc+x) r=_
  rw[b3Q s]
  by_cases h:r.length<s
  ·rw[if_pos h,if_pos (by simpa using h)]
  ·rw[if_neg h,if_neg (by simpa using h)]
   rfl
theorem a6F(s:Nat)(st:St):cP s st=(val (gH s st).1,(gH s st).2):=by
 unfold cP gH;rw[b3Q];by_cases h:st.1.length<s
 ·rw[if_pos h,if_pos h];rfl
 ·rw[if_neg h,if_neg h];rfl
theorem a9Z{st:St}(s:Nat)(h:bP st.1):bP (gH s st).1∧bP (gH s st).2.1:=by
 unfold gH;split
 ·exact⟨bP.nil,bP.nil⟩
 ·exact⟨h.take s,h.drop s⟩
theorem zB(s:Nat)(st:St):(gH s st).1.length≤s:=by
 unfold gH;split
 ·exact c9D _
 ·simpa using Nat.min_le_left s st.1.length
theorem b2Q: ∀(l:List Nat) (acc k:Nat),bP l→acc<256^k→l.foldl (fun n x=>256*n+x) acc<256^(k+l.length)
 |[],acc,k,_,h=>h
 |x::l,acc,k,hb,h=>by
  show l.foldl _ (256*acc+x)<_
  rw[show k+(x::l).length=(k+1)+l.length by simp;omega]
  refine b2Q l _ (k+1) hb.tail ?_
  have:=hb x c9W
  rw[Nat.pow_succ]
  omega
theorem a4V{st:St}(s:Nat)(h:bP st.1):(cP s st).1<256^s:=by
 rw[a6F];have h1:=b2Q (gH s st).1 0 0 (a9Z s h).1 (by decide);have h2:=zB s st;refine c9P h1 (d2U (by decide) (by omega))
end Go.Proofs.YtmcaejooaaahdaaGreat.Evt
namespace Go.Proofs.YtmcaejooaaahdaaGreat.Sto
open Go.Proofs.Tryz
variable {L:Nat→Nat} {N a i k n s:Nat} {r:List Nat} {seg u:Int} {v:Value} {w:World}
open Evt (Ev Bat)
theorem jM(h:n≤1000000):Evt.bP (Evt.dL n):=fun x hx=>by
 unfold Evt.dL at hx
 simp only[List.mem_cons,List.not_mem_nil,or_false]at hx
 rcases hx with rfl|rfl|rfl<;>omega
theorem tH{a b:List Nat}(ha:Evt.bP a)(hb:Evt.bP b):Evt.bP (a++b):=fun x hx=>by
 rcases List.mem_append.1 hx with q|q
 ·exact ha x q
 ·exact hb x q
theorem fA{b:List Nat}(ha:a<256)(hb:Evt.bP b):Evt.bP (a::b):=fun x hx=>by
 rcases List.mem_cons.1 hx with rfl|q
 ·exact ha
 ·exact hb x q
theorem rQ{e:Ev}(h:Evt.aB e=0):Evt.bP (Evt.iI e):=by
 obtain⟨⟨n1,n2,n3⟩,k1,k4,m0,m1⟩:=Evt.eN h;unfold Evt.iI;refine tH (fA (by omega) fun x hx=>?_) (fA (by omega) (jM (by omega)));have:=(Evt.eO x).1 (List.all_eq_true.1 n1 x hx);omega
theorem zW{α:Type}{f:α→List Nat}{l:List α}(h: ∀x,x∈l→Evt.bP (f x)):Evt.bP (l.flatMap f):=fun y hy=>by
 obtain⟨x,hx,hy⟩:=d2H.1 hy
 exact h x hx y hy
theorem rK{b:Bat}(h:(Evt.aA b).1=0):Evt.bP (Evt.jS b):=by
 obtain⟨c1,c2,l1,l2,h5⟩:=Evt.bN h;unfold Evt.jS;exact tH (jM (by omega)) (fA (by omega) (zW fun e he=>rQ (h5 e he)))
theorem qU{l:List Bat}(h:(Evt.aF l).1=0):Evt.bP (Evt.iK l):=by
 obtain⟨h1,h2⟩:=Evt.kG h;unfold Evt.iK;exact fA (by omega) (zW fun b hb=>rK (h2 b hb))
end Go.Proofs.YtmcaejooaaahdaaGreat.Sto
