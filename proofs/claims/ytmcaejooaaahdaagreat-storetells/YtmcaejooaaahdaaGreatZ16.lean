import Derived.Test.YtmcaejooaaahdaaGreatZ15
import Derived.Deep.Strs
set_option maxHeartbeats 8000000
set_option maxRecDepth 100000
namespace Go.Proofs.YtmcaejooaaahdaaGreat
open Go.Proofs.Tryz
variable {B N R a base fuel i j k n:Nat} {S:Nat→Prop} {W w w' w0 w3 w7 wX:World} {X:Sto.Six} {a' b' v ve y z:Value} {d:Sto.Do} {s:Sto.St} {sp:Nat→Bool}
open Go.ChangeShapes Go.WideShapes Go.ChangeAt Go.RowKit
theorem c2W{H:Type}{enc:TypeId×Value→H}{hd:Bool}{y:DataW H×List MemPlace}(h:DataW.trod enc prog W base sp hd fuel 9 [v]=some y): ∃s:ByteArray,v=.string s∧s.size≤maxLen:=by
 obtain⟨s,e,_,hs⟩:=DataW.trod_string underlying9 h;simp only[List.cons.injEq,and_true]at e;exact⟨s,e,hs⟩
theorem nB{H:Type}{enc:TypeId×Value→H}{hd:Bool}{y:DataW H×List MemPlace}(h:DataW.trod enc prog W base sp hd fuel 3 [v]=some y): ∃n,v=iV n:=by
 obtain⟨n,e,_,_⟩:=DataW.trod_int underlying3 h;simp only[List.cons.injEq,and_true]at e;exact⟨n,e⟩
theorem c6T{H:Type}{enc:TypeId×Value→H}{y:DataW H×List MemPlace}(hf:DataW.trod enc prog W 0 (fun _=>true) true fuel 40 [v]=some y): ∃es,Evs W v es:=by
 have ce:prog.cellsOf 83=3:=by kernel_rfl
 rcases Deep.open_slice underlying40 hf with⟨A2,_⟩|⟨a,A7,A9,m,n,D,Pl,A2,_,hl,hm,A6,_,hx⟩
 ·simp only[List.cons.injEq,and_true]at A2;subst A2;exact⟨[],none,0,rfl,c9C _,c9D _,fun i e he=>by cases he⟩
 ·simp only[List.cons.injEq,and_true]at A2;subst A2;simp only[if_true]at A6;subst A6;have A5: ∀i,i<m→ ∃q:ByteArray×Int×Int,q.1.size≤maxLen∧W.cell? (a.add (i*3))=some (.string q.1)∧W.cell? (a.add (i*3+1))=some (iV q.2.1)∧W.cell? (a.add (i*3+2))=some (iV q.2.2):=by
   intro i hi;obtain⟨A8,h1,h2⟩:=hx i hi;rw[ce]at h1;obtain⟨_,A4,A0⟩:=World.cells?_some h1;obtain⟨y0,y1,y2,k,_,_,g0,g1,g2⟩:=Deep.trod_struct3 underlying83 h2;match A8,A4 with
   |[v0,v1,v2],_=>
    have e0:=A0 0 (by omega);have e1:=A0 1 (by omega);have e2:=A0 2 (by omega);rw[Deep.add_add]at e0 e1 e2;have c3:prog.cellsOf 3=1:=by kernel_rfl
    have c9:prog.cellsOf 9=1:=by kernel_rfl
    simp[c3,c9]at g0 g1 g2;obtain⟨s,rfl,hs⟩:=c2W g0;obtain⟨k1,rfl⟩:=nB g1;obtain⟨k2,rfl⟩:=nB g2;exact⟨(s,k1,k2),hs,by simpa using e0,by simpa using e1,by simpa using e2⟩
  obtain⟨q,hq⟩:=Deep.choose_lt A5;refine⟨(List.range A7).map fun i=>⟨nb (q i).1,(q i).2.1,(q i).2.2⟩,some a,m,by simp,by simpa using hl,hm,fun i e he=>?_⟩;have hi:i<A7:=by
   have:=(c9H.1 he).1;simpa using this
  simp[hi]at he;subst he;obtain⟨b,o,A3⟩:=a;obtain⟨z0,z1,z2,z3⟩:=hq i (by omega);have A1:A3=none:=by simpa [Addr.add]using World.cell?_spot (hq 0 (by omega)).2.1
  subst A1;rw[WideShapes.add_plain]at z1 z2 z3;exact⟨b,o,rfl,(q i).1,z0,rfl,z1,z2,z3⟩
open Go.RowKit
theorem jM(h:n<16777216):Evt.bZ (Evt.dK n):=fun x hx=>by
 unfold Evt.dK at hx
 simp at hx
 omega
theorem a2N{a b:List Nat}(ha:Evt.bZ a)(hb:Evt.bZ b):Evt.bZ (a++b):=fun x hx=>(d0U.1 hx).elim (ha x) (hb x)
theorem eZ{b:List Nat}(ha:a<256)(hb:Evt.bZ b):Evt.bZ (a::b):=fun x hx=>by
 rcases List.mem_cons.1 hx with rfl|h
 ·exact ha
 ·exact hb x h
theorem zC{α:Type}{f:α→List Nat}{l:List α}(h: ∀a,a∈l→Evt.bZ (f a)):Evt.bZ (l.flatMap f):=fun x hx=>by
 obtain⟨a,ha,hx⟩:=d2H.1 hx
 exact h a ha x hx
theorem rG{e:Evt.Ev}(h:Evt.aB e=0):Evt.bZ (Evt.iM e):=by
 obtain⟨⟨hl,h1,h2⟩,h3,h4,h5,h6⟩:=Evt.eN h;unfold Evt.iM;refine a2N (eZ (by omega) ?_) (eZ (by omega) (jM (by omega)));intro x hx;have:=(Evt.eO x).1 (List.all_eq_true.1 hl x hx);omega
theorem qT{b:Evt.Bat}(h:(Evt.aA b).1=0):Evt.bZ (Evt.jS b):=by
 obtain⟨h1,h2,h3,h4,h5⟩:=Evt.bN h;unfold Evt.jS;exact a2N (jM (by omega)) (eZ (by omega) (zC (fun e he=>rG (h5 e he))))
theorem rI{l:List Evt.Bat}(h:(Evt.aF l).1=0):Evt.bZ (Evt.iK l):=by
 obtain⟨h1,h2⟩:=Evt.kR h;unfold Evt.iK;exact eZ (by omega) (zC (fun e he=>qT (h2 e he)))
theorem b0S(l:List Evt.Bat):Evt.bZ (rN l):=by
 by_cases h:(Evt.aF l).1=0
 ·rw[wR h];exact rI h
 ·rw[wP h];exact Evt.bZ.nil
theorem a8D(v:Value)(l:List Evt.Bat)(w:World)(h:eU w v l):
  Calls prog 78 #[v] w fun e w'=> ∃A C,e=.returned (.tuple #[.slice A (rN l).length C,.agg #[iV ((Evt.aF l).1:Nat),iV ((Evt.aF l).2:Nat)]])∧cW w' (.slice A (rN l).length C) (rN l)∧Bl w w':=by
 refine(b0D v l w h).mono ?_;rintro e w' ⟨v',rfl,hb,hw⟩;have hy:=hb.bytL (b0S l);obtain⟨A,C,rfl⟩:=hy.byts.shape;exact⟨A,C,rfl,hy,hw⟩
def fM(X:Sto.Six)(c:Sto.Cfg)(s:Sto.St)(b:Evt.Bat):Nat×Sto.St:=
 if (s.tail++[b]).length<c.b then(0,{s with tail:=s.tail++[b]})
 else if (Evt.aF (s.tail++[b])).1≠0 then((Evt.aF (s.tail++[b])).1,s)
 else if (X.lay (Evt.iK (s.tail++[b])) s.segs c).1≠0 then((X.lay (Evt.iK (s.tail++[b])) s.segs c).1,s)
 else(0,{s with disks:=Sto.write s.segs (X.lay (Evt.iK (s.tail++[b])) s.segs c).2 0 s.disks,segs:=s.segs+1,tail:=[]})
theorem a1P(X:Sto.Six)(c:Sto.Cfg)(s:Sto.St)(b:Evt.Bat)(v:Int×List Vw.Acc):
  Sto.eR X c s b v=((fM X c s b).1,if (fM X c s b).1=0 then {(fM X c s b).2 with seen:=s.seen.take (Sto.below b.cmd s.seen)++b.cmd::s.seen.drop (Sto.below b.cmd s.seen),u:=v.1,acc:=v.2}else s):=by
 unfold Sto.eR fM;dsimp only;by_cases h1:(s.tail++[b]).length<c.b
 ·rw[if_pos h1,if_pos h1];rfl
 ·rw[if_neg h1,if_neg h1];by_cases h2:(Evt.aF (s.tail++[b])).1≠0
  ·rw[if_pos h2,if_pos h2];dsimp only;rw[if_neg h2]
  ·rw[if_neg h2,if_neg h2];by_cases h3:(X.lay (Evt.iK (s.tail++[b])) s.segs c).1≠0
   ·rw[if_pos h3,if_pos h3];dsimp only;rw[if_neg h3]
   ·rw[if_neg h3,if_neg h3];rfl
section
variable {w w0 : World} {N R D : Nat} {F E E1 : Nat → Prop} {c : Sto.Cfg} {s : Sto.St} {V : Nat → Value} {U : Nat → List HeC} {vt vs va v' : Value} {tc tc1 : List (Int × Sl)} {b : Evt.Bat}
theorem b9M.stored(h:b9M w0 w N R F E c s D V U vt vs va tc b v' E1 tc1)(hlt:s.tail.length+1<c.b)(hb:(Evt.aA b).1=0):
  StP (w.setCell (aD R 5) v') N R (fun k=>F k∨v'.ownBlock=some k) E1 c {s with tail:=s.tail++[b]} D V U v' vs va tc1∧dS w0 (w.setCell (aD R 5) v') F (fun k=>F k∨v'.ownBlock=some k) E E1:=by
 have hs:=h.st;have ho:Off (fun k=>k=R) w (w.setCell (aD R 5) v'):=aG w (aD R 5) v';have A2:(w.setCell (aD R 5) v').heap.size=w.heap.size:=Deep.nblk_setCell _ _ _;have A1: ∀g,v'.ownBlock=some g→TyB w g 47:=fun g hg=>aU h.tl.own hg;have A0: ∀k,E1 k→k<w.heap.size∧ ¬F k∧v'.ownBlock≠some k:=fun k q=>by
  rcases h.new k q with z|⟨z,zt⟩
  ·refine⟨(hs.dis k z).2,(hs.dis k z).1,fun e=>?_⟩;rcases h.at' k e with z1|z1
   ·exact(hs.dis k z).1 z1
   ·exact absurd (h.elt k z) (Nat.not_lt.2 z1)
  ·exact⟨zt.lt,fun q=>absurd (h.flt k q) (Nat.not_lt.2 z),fun e=>zt.ne (A1 k e) (by decide) rfl⟩
 refine⟨hs.remake (s':={s with tail:=s.tail++[b]}) ho rfl (hs.var.set 5 v' (show 5<9 by decide)) (h.tl.move (fun k hk q=>ho.block k hk fun e=>(A0 k q).2.1 (by rw[show k=R from e];exact hs.fR)) (fun _ _ q=>q) ho fun g hg e=>(A1 g hg).ne hs.var.ty (by decide) e) (bC hs.seen ho fun g hg e=>(aU hs.seen hg).ne hs.var.ty (by decide) e) ((hs.acc.move (fun k hk q=>ho.block k hk fun e=>(hs.dis k q).1 (by rw[show k=R from e];exact hs.fR)) fun k _ q=>h.up k q)) (fun _ q=>Or.inl q) (fun g hg=>Or.inr hg) (fun g hg=>Or.inl (hs.fS g hg)) (fun k q=>?_) (fun k q=>?_) ⟨hs.wf.len,hs.wf.d1,hs.wf.d8,hs.wf.s4,hs.wf.b1,hs.wf.b10,hs.wf.wd,hs.wf.segs,?_,fun x hx=>?_,hs.wf.up,hs.wf.cmds,hs.wf.right⟩,⟨h.off.trans (ho.wider fun k e=>by rw[show k=R from e];exact hs.fR),fun k q=>?_,fun k q=>?_⟩⟩
 ·rw[A2];rcases q with q|q
  ·exact hs.lt k q
  ·exact h.tl.own.lt k q
 ·rw[A2];exact⟨fun z=>z.elim (A0 k q).2.1 (A0 k q).2.2,(A0 k q).1⟩
 ·show(s.tail++[b]).length<c.b;rw[c9I];exact hlt
 ·rcases List.mem_append.1 hx with q|q
  ·exact hs.wf.bats x q
  ·rw[d1Z.1 q];exact hb
 ·rcases q with q|q
  ·exact Or.inl q
  ·exact h.at' k q
 ·exact(h.new k q).imp id (·.1)
theorem StP.laidS(hs:StP w N R F E c s D V U vt vs va tc)(hsg:s.segs≤39)(x:Value)(hx:x=iV ((s.segs+1:Nat):Int)):StP ((w.setCell (aD R 4) x).setCell (aD R 5) nS) N R F E c {s with segs:=s.segs+1,tail:=[]} D V U nS vs va []∧Off (fun k=>k=R) w ((w.setCell (aD R 4) x).setCell (aD R 5) nS):=by
 subst hx;have ho:Off (fun k=>k=R) w ((w.setCell (aD R 4) (iV ((s.segs+1:Nat):Int))).setCell (aD R 5) nS):=((Off.refl (fun k=>k=R) w).set (p:=⟨R,4,none⟩) rfl _).set (p:=⟨R,5,none⟩) rfl _;have A0:=hs.wf.b1;exact⟨hs.remake (s':={s with segs:=s.segs+1,tail:=[]}) ho rfl ((hs.var.set 4 (iV ((s.segs+1:Nat):Int)) (show 4<9 by decide)).set 5 nS (show 5<9 by decide)) ⟨World.ownsRow_nil _ _ _ _,rfl,fun i x y hx=>(by cases hx)⟩ (bC hs.seen ho fun g hg e=>(aU hs.seen hg).ne hs.var.ty (by decide) e) ((hs.acc.move (fun k hk q=>ho.block k hk fun e=>(hs.dis k q).1 (by rw[show k=R from e];exact hs.fR)) fun k _ q=>q)) (fun _ q=>q) (fun g hg=>(by cases hg)) hs.fS (fun k q=>⟨(hs.lt k q).1,Nat.lt_of_lt_of_le (hs.lt k q).2 ho.size⟩) (fun k q=>⟨(hs.dis k q).1,Nat.lt_of_lt_of_le (hs.dis k q).2 ho.size⟩) ⟨hs.wf.len,hs.wf.d1,hs.wf.d8,hs.wf.s4,hs.wf.b1,hs.wf.b10,hs.wf.wd,(show s.segs+1≤40 by omega),(show 0<c.b by omega),fun x hx=>(by cases hx),hs.wf.up,hs.wf.cmds,hs.wf.right⟩,ho⟩
end
def qK(e:Ending)(w w':World)(N R:Nat)(F E:Nat→Prop)(c:Sto.Cfg)(vs va:Value)(r:Nat×Sto.St):Prop:=e=.returned (iV r.1)∧ ∃F' E' D V U vt tc,StP w' N R F' E' c r.2 D V U vt vs va tc∧dS w w' F F' E E'
theorem c6N{x:Value}(b3:Bl wX w3)(h:wX.cell? (aD R 5)=some x∧wX.cell? (aD B 0)=some y∧wX.cell? (aD B 1)=some z):w3.cell? (aD R 5)=some x∧w3.cell? (aD B 0)=some y∧w3.cell? (aD B 1)=some z:=
 ⟨(b3.cell (p:=⟨R,5,none⟩) (World.block_lt_of_cell? _ _ h.1)).trans h.1,(b3.cell (p:=⟨B,0,none⟩) (World.block_lt_of_cell? _ _ h.2.1)).trans h.2.1,(b3.cell (p:=⟨B,1,none⟩) (World.block_lt_of_cell? _ _ h.2.2)).trans h.2.2⟩
theorem c6Y{x:Value}(ho:Off S wX w3)(hB: ¬S B)(hR:w3.cell? (aD R 5)=some x)(h:wX.cell? (aD R 5)=some x∧wX.cell? (aD B 0)=some y∧wX.cell? (aD B 1)=some z):w3.cell? (aD R 5)=some x∧w3.cell? (aD B 0)=some y∧w3.cell? (aD B 1)=some z:=
 ⟨hR,(World.cell?_of_block (a:=⟨B,0,none⟩) (ho.block B (World.block_lt_of_cell? _ _ h.2.1) hB)).trans h.2.1,(World.cell?_of_block (a:=⟨B,1,none⟩) (ho.block B (World.block_lt_of_cell? _ _ h.2.1) hB)).trans h.2.2⟩
theorem c8Q{x:Value}(b3:Bl wX w3)(h:wX.cell? (aD R 4)=some x∧wX.cell? (aD R 0)=some y∧wX.cell? (aD R 1)=some z∧Bl w0 wX):w3.cell? (aD R 4)=some x∧w3.cell? (aD R 0)=some y∧w3.cell? (aD R 1)=some z∧Bl w0 w3:=
 ⟨(b3.cell (p:=⟨R,4,none⟩) (World.block_lt_of_cell? _ _ h.1)).trans h.1,(b3.cell (p:=⟨R,0,none⟩) (World.block_lt_of_cell? _ _ h.2.1)).trans h.2.1,(b3.cell (p:=⟨R,1,none⟩) (World.block_lt_of_cell? _ _ h.2.2.1)).trans h.2.2.1,bt h.2.2.2 b3⟩
section
variable {N R D : Nat} {F E : Nat → Prop} {c : Sto.Cfg} {s : Sto.St} {V : Nat → Value} {U : Nat → List HeC} {vt vs va : Value} {tc : List (Int × Sl)} {X : Sto.Six}
theorem c1X(hX:Sto.dE X)(w:World)(h:StP w N R F E c s D V U vt vs va tc)(b:Evt.Bat)(ve:Value)(he:Evs w ve b.evs)(hb:(Evt.aA b).1=0)(hNw:N≤w.heap.size):
  Calls prog 45 #[.pointer (some (aD R 0)),.agg #[iV b.cmd,ve]] w fun e w'=>qK e w w' N R F E c vs va (fM X c s b):=by
 obtain⟨A,C,rfl⟩:=he.shape;have b1:=aB8 w (.cells #[iV b.cmd,.slice A b.evs.length C] 47);have VB:=aC w #[iV b.cmd,.slice A b.evs.length C] 47;have h1:=h.below b1;have Aw:=he.below b1;have d0:=VB.q0;have d1:=VB.q1;have c5:=h1.var.q5;have Aq:=c9E hNw b1.size;have B5:b.evs.length≤2000000:=by
  have:=(Evt.bN hb).2.2.2.1;omega
 have Ax:Hid (¬F w.heap.size):=fun q=>absurd (h.lt _ q).2 (d0V _);have B6:=hd8 b1.size;have HX:=hd8 hX;have Bb:=hd8 hb;clear h he hX hb hNw VB;go_enter func45,ntmps45
 go_upto_region 1 with fail
 generalize w.alloc (.cells #[iV b.cmd,.slice A b.evs.length C] 47)=w1 at*;have B9:=b0C (.slice A b.evs.length C) b.evs w1.drew (Aw.below (Below.refl _ _).drew) B5;have TD:w1.drew.cell? (aD R 5)=some vt∧w1.drew.cell? (aD w.heap.size 0)=some (iV b.cmd)∧w1.drew.cell? (aD w.heap.size 1)=some (.slice A b.evs.length C):=⟨c5,d0,d1⟩;go_region_held3 (fun w'=>w'.cell? (aD R 5)=some vt∧w'.cell? (aD w.heap.size 0)=some (iV b.cmd)∧w'.cell? (aD w.heap.size 1)=some (.slice A b.evs.length C))
  (first|A0 exact TD|A0 A1|A0 exact c6N (aB8 _ _) (by A1))
  (first|(go_at_call 77;refine B9.mono ?_;rintro e3 w3 ⟨⟨v3,Ap,rfl,B4,Au⟩,b3⟩;have S3:=c6N b3 TD;obtain⟨A3,C3,rfl⟩:=Au.shape)|(obtain⟨v4,w4,B8,E1,Bq,hT⟩:=c8C h1 (w:=w3.alloc (.cells #[iV b.cmd,.slice A3 Ap.length C3] 47)) (bt (bt (Below.refl _ _).drew b3) (aB8 _ _)) b (Au.below (aB8 _ _)) B4 Aq (p:=w3.heap.size) ((aC w3 #[iV b.cmd,.slice A3 Ap.length C3] 47).q0) ((aC w3 #[iV b.cmd,.slice A3 Ap.length C3] 47).q1);refine c4S rfl (.tmp 14) (.tmp 21) rfl rfl rfl rfl B8 ?_;have S4:=c6Y hT.off Ax.out (hT.st.var.q5) TD))
 have HT:=hd8 hT;have At:Hid (dS w w4 F F E E):=(dS.of_below F E b1).trans ⟨hT.off,fun _ q=>Or.inl q,fun _ q=>Or.inl q⟩;have c2:=hT.st.var.q2;have c5:=hT.st.var.q5;have Bc:=hT.st.var.frozen 5;have Ad:=a8D v4 (s.tail++[b]) w4 hT.tl.bats;obtain⟨L,hL⟩: ∃L,L=(s.tail++[b]).length:=⟨_,rfl⟩;have HL:Hid (L=s.tail.length+1):=by
  show L=s.tail.length+1;rw[hL,c9I];rfl
 obtain⟨A4,C4,Bg⟩: ∃A4 C4,v4=.slice A4 L C4:=by
  rcases hT.tl.own.2 with⟨rfl,q⟩|⟨g,Bp,Bn,rfl,_⟩
  ·exact⟨none,0,by rw[hL,q]⟩
  ·exact⟨_,_,by rw[hL]⟩
 have Af:Hid (fM X c s b=if L<c.b then(0,{s with A8:=s.tail++[b]})else if (Evt.aF (s.tail++[b])).1≠0 then((Evt.aF (s.tail++[b])).1,s)else if (X.lay (Evt.iK (s.tail++[b])) s.segs c).1≠0 then((X.lay (Evt.iK (s.tail++[b])) s.segs c).1,s)else(0,{s with A7:=Sto.write s.segs (X.lay (Evt.iK (s.tail++[b])) s.segs c).2 0 s.disks,segs:=s.segs+1,A8:=[]})):=by
  show fM X c s b=_;rw[hL];rfl
 have Az:=hd8 (c9E Aq hT.off.size);subst Bg;clear hT hL B9 TD S3 S4 B8 Au B4 b3 h1 Aw d0 d1 B5 b1 Aq Ax;by_cases Ag:L<c.b
 ·have An:(L:Int)<(c.b:Int):=by omega
  have HR:Hid (qK (.returned (iV 0)) w (w4.setCell (aD R 5) (.slice A4 L C4)) N R F E c vs va (fM X c s b)):=by
   show qK _ _ _ _ _ _ _ _ _ _ _;rw[Af.out,if_pos Ag];obtain⟨q1,q2⟩:=HT.out.stored (by rw[←HL.out];exact Ag) Bb.out
   exact⟨rfl,_,_,_,_,_,_,_,q1,⟨At.out.off.trans ((aG _ _ _).wider fun k e=>by rw[show k=R from e];exact HT.out.st.fR),fun k q=>by
    rcases q2.growF k q with z|z
    ·exact Or.inl z
    ·exact Or.inr (c9E B6.out z),fun k q=>by
    rcases q2.growE k q with z|z
    ·exact Or.inl z
    ·exact Or.inr (c9E B6.out z)⟩⟩
  clear Ad;go_wp2_with fail;go_ret
  exact HR.out
 ·have An: ¬(L:Int)<(c.b:Int):=by omega
  obtain⟨x,hx⟩: ∃x,x=(Evt.aF (s.tail++[b])).1:=⟨_,rfl⟩;obtain⟨y,hy⟩: ∃y,y=(Evt.aF (s.tail++[b])).2:=⟨_,rfl⟩;obtain⟨r,hr⟩: ∃r,r=rN (s.tail++[b]):=⟨_,rfl⟩;have B0:Hid (x=0→r=Evt.iK (s.tail++[b])):=fun q=>by rw[hr,wR (by rw[←hx];exact q)]
  have Aj:=hd8 hx;have Ar:=hd8 Ag;rw[←hx,←hy,←hr]at Ad;obtain⟨lr,B3⟩: ∃lr,lr=r.length:=⟨_,rfl⟩;rw[←B3]at Ad;clear hx hy hr B3 Ag c5 Bc;go_wp2_with fail;refine Ad.mono ?_;rintro e5 w5 ⟨A5,C5,rfl,B7,b5⟩;have bA:=aB8 w5 (.cells #[iV x,iV y] 78);have Ai:=hd8 (bt b5 bA);clear Ad;go_upto_region 6 with fail
  have f0:=(aC w5 #[iV x,iV y] 78).q0;have Am:=B7.below bA;generalize w5.alloc (.cells #[iV x,iV y] 78)=w6 at*;have A2:=hd8 (HT.out.st.below Ai.out);have Av:=hd8 (At.out.trans (dS.of_below F E Ai.out));have Bj:=hd8 (c9E Az.out Ai.out.size);clear HT At Az Ai B7 bA b5 c2;by_cases Ac:x=0
  case neg=>
   have HR:Hid (qK (.returned (iV x)) w w6 N R F E c vs va (fM X c s b)):=by
    show qK _ _ _ _ _ _ _ _ _ _ _;rw[Af.out,if_neg Ar.out,if_pos (by rw[←Aj.out];exact Ac),←Aj.out];exact⟨rfl,_,_,_,_,_,_,_,A2.out,Av.out⟩
   have Bh:((x:Int) !=0)=true:=by rw[bne_iff_ne];omega
   clear Ac Am;go_wp2_with fail;go_ret
   exact HR.out
  case pos=>
   have Bf:=hd8 (B0.out Ac);have Bh:((x:Int) !=0)=false:=by rw[bne_eq_false_iff_eq];omega
   have Bi:Hid ((Evt.aF (s.tail++[b])).1=0):=by
    show(Evt.aF (s.tail++[b])).1=0;rw[←Aj.out];exact Ac
   have A6:Hid (fM X c s b=if (Sto.lZ r s.segs c).1≠0 then((Sto.lZ r s.segs c).1,s)else(0,{s with A7:=Sto.write s.segs (Sto.lZ r s.segs c).2 0 s.disks,segs:=s.segs+1,A8:=[]})):=by
    show fM X c s b=_;rw[Af.out,if_neg Ar.out,if_neg (fun z=>z Bi.out),HX.out.lay,←Bf.out]
   have c4:=A2.out.var.q4;have c0:=A2.out.var.q0;have c1:=A2.out.var.q1;obtain⟨n,hn⟩: ∃n,n=s.segs:=⟨_,rfl⟩;have Aa:=hd8 hn;have Bk:n≤40:=by rw[hn];exact A2.out.wf.segs
   have Ah:=a7Q (.slice A5 lr C5) r s.segs c w6.drew (Am.below (Below.refl _ _).drew);obtain⟨Z,hZ⟩: ∃Z,Z=Sto.lZ r s.segs c:=⟨_,rfl⟩;have HZ:=hd8 hZ;rw[←hZ]at Ah A6;rw[←hn]at c4 Ah;clear hn hZ Af Ar B0 Aj Ac Am;have TD:w6.drew.cell? (aD R 4)=some (iV n)∧w6.drew.cell? (aD R 0)=some (iV c.d)∧w6.drew.cell? (aD R 1)=some (iV c.s)∧Bl w6 w6.drew:=⟨c4,c0,c1,(Below.refl _ _).drew⟩;go_wp2_with fail;go_region_held3 (fun w'=>w'.cell? (aD R 4)=some (iV n)∧w'.cell? (aD R 0)=some (iV c.d)∧w'.cell? (aD R 1)=some (iV c.s)∧Bl w6 w')
    (first|A0 exact TD|A0 A1)
    (first|(go_at_call 79;refine Ah.mono ?_;rintro e7 w7 ⟨⟨v7,rfl,Ab⟩,b7⟩;have S7:=c8Q b7 TD))
   have Ak:=S7.2.2.2;clear S7 TD Ah b7;obtain⟨z,LL⟩:=Z;have Ab:(z=0∧ ∃Y,iB w7 w6.heap.size v7 LL Y)∨(z≠0∧v7=nS):=Ab;by_cases Ae:z=0
   case neg=>
    have HR:Hid (qK (.returned (iV z)) w w7 N R F E c vs va (fM X c s b)):=by
     show qK _ _ _ _ _ _ _ _ _ _ _;rw[A6.out,if_pos Ae];exact⟨rfl,_,_,_,_,_,_,_,A2.out.below Ak,Av.out.trans (dS.of_below F E Ak)⟩
    obtain rfl:v7=nS:=by
     rcases Ab with⟨q,_⟩|⟨_,q⟩
     ·exact absurd q Ae
     ·exact q
    have Bm:((z:Int) !=0)=true:=by rw[bne_iff_ne];omega
    clear Ae Ab;go_wp2_with fail;go_ret
    exact HR.out
   case pos=>
    subst Ae;obtain⟨Y,hY⟩: ∃Y,iB w7 w6.heap.size v7 LL Y:=by
     rcases Ab with⟨_,q⟩|⟨q,_⟩
     ·exact q
     ·exact absurd rfl q
    obtain⟨⟨_,_,_,Ay,_⟩,qL,_⟩:=Sto.oP HZ.out.symm;have As:LL.length=s.disks.length:=by rw[qL,A2.out.wf.len]
    have Al:n≤39:=by rw[Aa.out];exact Ay
    have HH:=a2V A2.out Ak hY As n (by omega) Bj.out;have Ao:Hid (fM X c s b=(0,{s with A7:=Sto.write n LL 0 s.disks,segs:=s.segs+1,A8:=[]})):=by
     show fM X c s b=_;rw[A6.out,if_neg (fun z=>z rfl),Aa.out]
    obtain⟨b9,c9,B1,_⟩:=hY.at (by rw[As,A2.out.wf.len];have:=A2.out.wf.d1;omega);rw[B1]at HH⊢;have Be:=(A2.out.below Ak).var.q4;rw[←Aa.out]at Be;clear Ab hY B1 A6 qL Ay HZ As;go_wp2_with fail;refine HH.mono ?_;rintro e8 w8 ⟨rfl,F8,V8,U8,A9,B2⟩;have Ba:w8.cell? (aD R 4)=some (iV s.segs):=A9.var.q4;rw[←Aa.out]at Ba;have z4:=A9.var.frozen 4;have z5:=A9.var.frozen 5;have Bo:=A9.var.q5;have HR:Hid (qK (.returned (iV 0)) w ((w8.setCell (aD R 4) (iV ((n:Int)+1))).setCell (aD R 5) nS) N R F E c vs va (fM X c s b)):=by
     show qK _ _ _ _ _ _ _ _ _ _ _;rw[Ao.out];obtain⟨q1,q2⟩:=A9.laidS (by show s.segs≤39;rw[←Aa.out];exact Al) (iV ((n:Int)+1)) (by rw[Aa.out];rfl);exact⟨rfl,_,_,_,_,_,_,_,q1,(Av.out.trans B2).trans ⟨q2.wider fun k e=>by rw[show k=R from e];exact A9.fR,fun _ q=>Or.inl q,fun _ q=>Or.inl q⟩⟩
    clear A9 B2 HH;go_wp2_with fail;go_ret
    exact HR.out
end
theorem b0Y(a:Int)(w:World):Calls prog 71 #[iV a] w fun e w'=>e=.returned (.bool false)∧w'=w:=by
 go_enter func71,ntmps71
 go_wp2_with fail;go_ret
 exact⟨rfl,rfl⟩
theorem b2P(a:Int)(w:World):Calls prog 102 #[iV a] w fun e w'=>e=.returned (.bool false)∧w'=w:=by
 go_enter func102,ntmps102
 go_wp2_with fail;go_ret
 exact⟨rfl,rfl⟩
theorem b4T(a b:Int)(w:World):Calls prog 70 #[iV a,iV b] w fun e w'=>e=.returned (.bool (decide (a<b)))∧w'=w:=by
 have H:=b2P a w;go_enter func70,ntmps70
 go_wp2_with fail;refine H.mono ?_;rintro e w1 ⟨rfl,rfl⟩;clear H;go_wp2_with fail;go_ret
 exact⟨rfl,rfl⟩
def c2F(w:World)(v:Value)(l:List Int):Prop:= ∃A C,v=.slice A l.length C∧l.length≤C∧C≤maxLen∧ ∀i x,l[i]?=some x→ ∃b o,A=some (aD b o)∧w.cell? (aD b (o+i))=some (iV x)
theorem a6H{l:List Int}(h:w.ownsRow N 3 1 v l.length (l.flatMap aE)):c2F w v l:=by
 rcases h.2 with⟨rfl,h0⟩|⟨g,A0,A1,rfl,_,_,h1,h2,_⟩
 ·obtain rfl:l=[]:=d0N h0;exact⟨none,0,rfl,c9C _,c9D _,fun i x hx=>(by cases hx)⟩
 ·refine⟨_,A0,rfl,h1,h2,fun i x hx=>⟨g,0,rfl,?_⟩⟩;have hf:=dQ aE 1 l (fun _ _=>rfl) i 0 (by omega) x hx;have:=h.cells (g:=g) rfl (i*1+0) _ hf;rw[WideShapes.add_plain]at this;rw[show 0+i=0+(i*1+0) by omega];exact this
theorem c1G(t:Int)(vs:Value)(l:List Int)(w:World)(h:c2F w vs l)(hup:UpI l)(hn:l.length≤100000):
  Calls prog 42 #[vs,iV t] w fun e w'=>pE e l t∧w'=w:=by
 have Aa:=hd8 hup;obtain⟨A,C,rfl,_,hC,ha⟩:=h;have Ai:=mL8 hC;clear hup hC;go_enter func42,ntmps42
 go_wp2_with fail;go_loopw [7,8] (fun x y wr=> ∃i j:Nat,i≤j∧j≤l.length∧x=iV i∧y=iV j∧Hid (∀k a,k<i→l[k]?=some a→a<t)∧Hid (∀k a,j≤k→l[k]?=some a→t≤a)∧wr=w) (fun x y _=>(intOf y).toNat-(intOf x).toNat)
 case atStart=>exact⟨0,l.length,c9D _,c9C _,rfl,rfl,fun k a hk=>absurd hk (c9L k),fun k a hk ha=>absurd (c9H.1 ha).1 (by omega),rfl⟩
 case round=>
  obtain⟨i,j,Ag,A5,rfl,rfl,A7,A3,rfl⟩:=hrel;by_cases Af:i<j
  ·have Ae:(i:Int)<(j:Int):=by omega
   obtain⟨q,hq⟩: ∃q,q=(i+j)/2:=⟨_,rfl⟩;have Ac:i≤q:=by omega
   have Ah:q<j:=by omega
   obtain⟨a,A0⟩: ∃a,l[q]?=some a:=⟨l[q],c9F (by omega)⟩;obtain⟨b,o,rfl,d0⟩:=ha q a A0;have Ab:=hd8 A0;have HC:=b4T a t wr;have HQ:=hd8 hq;rw[hq]at d0;clear ha A0 hq;by_cases hc:a<t
   ·have A8:=hd8 hc;have A6:=decide_eq_true hc;rw[A6]at HC;go_wp2_with fail;refine HC.mono ?_;rintro e w1 ⟨rfl,rfl⟩;clear HC;go_wp2_with fail;refine⟨⟨q+1,j,by omega,A5,cA (by have:=HQ.out;omega),rfl,fun k x hk hx=>?_,A3.out,trivial⟩,?_⟩
    ·exact Int.lt_of_le_of_lt (a3Z Aa.out hx Ab.out (by omega)) A8.out
    ·have:=HQ.out;simp[intOf];omega
   ·have A8:=hd8 (Int.not_lt.1 hc);have A6:=decide_eq_false hc;rw[A6]at HC;go_wp2_with fail;refine HC.mono ?_;rintro e w1 ⟨rfl,rfl⟩;clear HC;go_wp2_with fail;refine⟨⟨i,q,Ac,by omega,rfl,cA (by have:=HQ.out;omega),A7.out,fun k x hk hx=>?_,trivial⟩,?_⟩
    ·exact Int.le_trans A8.out (a3Z Aa.out Ab.out hx hk)
    ·have:=HQ.out;simp[intOf];omega
  ·obtain rfl:i=j:=by omega
   by_cases Ad:i<l.length
   ·have A4:(i:Int)<(l.length:Int):=by omega
    obtain⟨a,A0⟩: ∃a,l[i]?=some a:=⟨l[i],c9F Ad⟩;obtain⟨b,o,rfl,d0⟩:=ha i a A0
    have A1:Hid (pE (.returned (.tuple #[iV i,.bool (a==t)])) l t):=⟨i,a==t,rfl,⟨A5,A7.out,A3.out⟩,by
     rw[beq_iff_eq,A0,Option.some.injEq]⟩
    have HC:=b0Y a wr;clear ha A0;by_cases A2:a=t
    ·have A9:=beq_iff_eq.2 A2;rw[A9]at A1;clear HC A2;go_wp2_with fail;go_ret2
     exact⟨A1.out,rfl⟩
    ·have A9:(a==t)=false:=by rw[beq_eq_false_iff_ne];exact A2
     rw[A9]at A1;clear A2;go_wp2_with fail;refine HC.mono ?_;rintro e w1 ⟨rfl,rfl⟩;clear HC;go_wp2_with fail;go_ret2
     exact⟨A1.out,rfl⟩
   ·have A4: ¬(i:Int)<(l.length:Int):=by omega
    have HF:Hid (pE (.returned (.tuple #[iV i,.bool false])) l t):=⟨i,false,rfl,⟨A5,A7.out,A3.out⟩,⟨fun e=>absurd e (by decide),fun hx=>absurd (c9H.1 hx).1 (by omega)⟩⟩;clear ha;go_wp2_with fail;go_ret2
    exact⟨HF.out,rfl⟩
def dX(d:Sto.Do)(ve:Value)(t:ByteArray):List Value:=[iV d.kind,iV d.n,iV d.seg,iV d.pos,.int .u8 d.turn,iV d.bat.cmd,ve,.string t,iV d.ver]
structure tM(w:World)(d:Sto.Do)(ve:Value)(t:ByteArray):Prop where
 evs:Evs w ve d.bat.evs
 name:nb t=d.name
 sz:t.size≤9223372036854775807
 byte:d.turn<256
theorem tM.below{t:ByteArray}(h:tM w d ve t)(hb:Bl w w'):tM w' d ve t:=⟨h.evs.below hb,h.name,h.sz,h.byte⟩
def DoO(e:Ending)(w w':World)(N R:Nat)(F E:Nat→Prop)(c:Sto.Cfg)(r:Sto.St×Sto.Ans):Prop:= ∃v F' E',e=.returned v∧uP w' N R F' E' c r.1∧dS w w' F F' E E'∧qE w' E' v r.2
structure PW(w wX:World)(N R:Nat)(F E:Nat→Prop)(c:Sto.Cfg)(s:Sto.St)(D:Nat)(V:Nat→Value)(U:Nat→List HeC)(vt vs va:Value)(tc:List (Int×Sl))(d:Sto.Do)(ve:Value)(t:ByteArray):Prop where
 st:StP wX N R F E c s D V U vt vs va tc
 bel:Bl w wX
 vd:aW wX w.heap.size 49 (dX d ve t)
 va:aW wX (w.heap.size+1) 42 (cS 0 0).toList
 din:tM wX d ve t
 lt: ∀k,F k∨E k→k<w.heap.size
section
variable {w wX w' : World} {N R D : Nat} {F E : Nat → Prop} {c : Sto.Cfg} {s : Sto.St} {V : Nat → Value} {U : Nat → List HeC} {vt vs va : Value} {tc : List (Int × Sl)} {d : Sto.Do} {ve : Value} {t : ByteArray}
theorem PW.below(h:PW w wX N R F E c s D V U vt vs va tc d ve t)(hb:Bl wX w'):PW w w' N R F E c s D V U vt vs va tc d ve t:=⟨h.st.below hb,bt h.bel hb,h.vd.below hb,h.va.below hb,h.din.below hb,h.lt⟩
theorem a6W(h:StP w N R F E c s D V U vt vs va tc)(hd:tM w d ve t):PW w ((w.alloc (.cells (dX d ve t).toArray 49)).alloc (.cells (cS 0 0) 42)) N R F E c s D V U vt vs va tc d ve t:=by
 have b1:=aB8 w (.cells (dX d ve t).toArray 49);have b2:=aB8 (w.alloc (.cells (dX d ve t).toArray 49)) (.cells (cS 0 0) 42);have V1:=aC (w.alloc (.cells (dX d ve t).toArray 49)) (cS 0 0) 42;rw[show(w.alloc (.cells (dX d ve t).toArray 49)).heap.size=w.heap.size+1 by simp]at V1;exact⟨h.below (bt b1 b2),bt b1 b2,(aC w (dX d ve t).toArray 49).below b2,V1,hd.below (bt b1 b2),fun k hk=>(show uP w N R F E c s from⟨_,_,_,_,_,_,_,h⟩).lt hk⟩
theorem PW.same(h:PW w wX N R F E c s D V U vt vs va tc d ve t)(ho:Off (fun k=>k=w.heap.size+1) wX w')(x:Nat)(n:Int):DoO (.returned (dH (x:Nat) n)) w w' N R F E c (s,⟨x,n,[],0,[]⟩):=
 ⟨_,F,E,rfl,⟨_,_,_,_,_,_,_,h.st.out ho fun k e=>⟨fun z=>by
  have:=h.lt k (Or.inl z)
  omega,fun z=>by
  have:=h.lt k (Or.inr z)
  omega⟩⟩,dS.of_below F E (h.bel.trans (ho.below h.bel.size fun k e=>by omega)),fI _ _ _ _⟩
end
def c8X(wi wx:World)(N R:Nat)(v:Value)(es:List Int):Prop:= ∃w9 v9,wx=w9.setCell (aD R 6) v9∧w9.ownsRow N 3 1 v9 es.length (es.flatMap aE)∧Off (fun k=>v.ownBlock=some k) wi w9∧(v9.ownBlock=v.ownBlock∨ ∀g,v9.ownBlock=some g→wi.heap.size≤g)
theorem b6A{c:Sto.Cfg}{b:Evt.Bat}(h:(fM X c s b).1≠0):(fM X c s b).2=s:=by
 unfold fM at h⊢;by_cases h1:(s.tail++[b]).length<c.b
 ·rw[if_pos h1]at h;exact absurd rfl h
 ·rw[if_neg h1]at h⊢;by_cases h2:(Evt.aF (s.tail++[b])).1≠0
  ·rw[if_pos h2]
  ·rw[if_neg h2]at h⊢;by_cases h3:(X.lay (Evt.iK (s.tail++[b])) s.segs c).1≠0
   ·rw[if_pos h3]
   ·rw[if_neg h3]at h;exact absurd rfl h
theorem b1Z(X:Sto.Six)(c:Sto.Cfg)(s:Sto.St)(b:Evt.Bat):(fM X c s b).2.seen=s.seen∧(fM X c s b).2.u=s.u∧(fM X c s b).2.acc=s.acc:=by
 unfold fM;split
 ·exact⟨rfl,rfl,rfl⟩
 ·split
  ·exact⟨rfl,rfl,rfl⟩
  ·split
   ·exact⟨rfl,rfl,rfl⟩
   ·exact⟨rfl,rfl,rfl⟩
section
variable {w w' : World} {N R D : Nat} {F E : Nat → Prop} {c : Sto.Cfg} {s s' : Sto.St} {V : Nat → Value} {U : Nat → List HeC} {vt vs va vs' va' : Value} {tc : List (Int × Sl)}
theorem StP.putS(h:StP w N R F E c s D V U vt vs va tc)(ho:Off (fun k=>k=R∨vs.ownBlock=some k) w w')(hd:s'.disks=s.disks)(ht:s'.tail=s.tail)(hvar:aW w' R 45 (jZ c D s'.disks.length s'.segs vt vs' s'.u va'))
  (hseen:w'.ownsRow N 3 1 vs' s'.seen.length (s'.seen.flatMap aE)) (hat:vs'.ownBlock=vs.ownBlock∨ ∀g,vs'.ownBlock=some g→w.heap.size≤g) (hacc:bJ w' va' s'.acc) (hgF: ∀g,va'.ownBlock=some g→ ¬F g∧g<w.heap.size) (hwf:WfS c s'):
  StP w' N R (fun k=>F k∨vs'.ownBlock=some k) (fun k=>E k∨va'.ownBlock=some k) c s' D V U vt vs' va' tc:=by
 have hS: ∀k,(k=R∨vs.ownBlock=some k)→F k∧ ∃t,TyB w k t∧(t=45∨t=3):=fun k q=>by
  rcases q with rfl|q
  ·exact⟨h.fR,_,h.var.ty,Or.inl rfl⟩
  ·exact⟨h.fS k q,_,aU h.seen q,Or.inr rfl⟩
 have A2:=fun k hk he=>ho.block k hk fun q=>(h.dis k he).1 (hS k q).1;have A1:dM w' N D V U s.disks:=h.dk.off ho fun k q=>by
  obtain⟨_,t,ht,z⟩:=hS k q;rcases z with rfl|rfl
  ·exact⟨_,ht,by decide,by decide,by decide⟩
  ·exact⟨_,ht,by decide,by decide,by decide⟩
 have A3:a0J w' N (fun k=>E k∨va'.ownBlock=some k) vt tc s.tail:=h.tail.move A2 (fun _ _ q=>Or.inl q) ho fun g hg q=>by
  obtain⟨_,t,ht,z⟩:=hS g q;rcases z with rfl|rfl
  ·exact ht.ne (aU h.tail.own hg) (by decide) rfl
  ·exact ht.ne (aU h.tail.own hg) (by decide) rfl
 have A0: ∀k,vs'.ownBlock=some k→F k∨w.heap.size≤k:=fun k q=>by
  rcases hat with z|z
  ·rw[z]at q;exact Or.inl (h.fS k q)
  ·exact Or.inr (z k q)
 refine⟨hvar,h.ge,by rw[hd];exact A1,by rw[ht];exact A3,hseen,⟨hacc,fun g hg _=>Or.inr hg⟩,Or.inl h.fR,Or.inl h.fD,fun i g hi hg=>Or.inl (h.fV i g (by rw[←hd];exact hi) hg),fun i x g hi hx hg=>Or.inl (h.fU i x g (by rw[←hd];exact hi) hx hg),fun g hg=>Or.inl (h.fT g hg),fun g hg=>Or.inr hg,fun k q=>?_,fun k q=>?_,hwf⟩
 ·rcases q with q|q
  ·exact⟨(h.lt k q).1,c9P (h.lt k q).2 ho.size⟩
  ·exact hseen.lt k q
 ·rcases q with q|q
  ·refine⟨fun z=>?_,c9P (h.dis k q).2 ho.size⟩;rcases z with z|z
   ·exact(h.dis k q).1 z
   ·rcases A0 k z with z|z
    ·exact(h.dis k q).1 z
    ·exact absurd (h.dis k q).2 (Nat.not_lt.2 z)
  ·refine⟨fun z=>?_,c9P (hgF k q).2 ho.size⟩;rcases z with z|z
   ·exact(hgF k q).1 z
   ·rcases A0 k z with z|z
    ·exact(hgF k q).1 z
    ·exact absurd (hgF k q).2 (Nat.not_lt.2 z)
end
theorem b4R{x:Value}(b3:Bl wX w3)(h:wX.cell? (aD R i)=some x∧wX.cell? (aD R j)=some y∧wX.cell? (aD B k)=some z∧Bl w0 wX):w3.cell? (aD R i)=some x∧w3.cell? (aD R j)=some y∧w3.cell? (aD B k)=some z∧Bl w0 w3:=
 ⟨(b3.cell (p:=⟨R,i,none⟩) (World.block_lt_of_cell? _ _ h.1)).trans h.1,(b3.cell (p:=⟨R,j,none⟩) (World.block_lt_of_cell? _ _ h.2.1)).trans h.2.1,(b3.cell (p:=⟨B,k,none⟩) (World.block_lt_of_cell? _ _ h.2.2.1)).trans h.2.2.1,bt h.2.2.2 b3⟩
theorem a3S{x:Value}{o:Obj}(h:wX.cell? (aD R i)=some x∧wX.cell? (aD R j)=some y∧wX.cell? (aD B k)=some z∧Bl w0 wX):(wX.alloc o).cell? (aD R i)=some x∧(wX.alloc o).cell? (aD R j)=some y∧(wX.alloc o).cell? (aD B k)=some z∧Bl w0 (wX.alloc o):=
 b4R ((Below.refl _ _).alloc (c9C _) o) h
theorem c6O{x:Value}{o:Obj}(h:wX.drew.cell? (aD R i)=some x∧wX.drew.cell? (aD R j)=some y∧wX.drew.cell? (aD B k)=some z∧Bl w0 wX.drew):(wX.alloc o).drew.cell? (aD R i)=some x∧(wX.alloc o).drew.cell? (aD R j)=some y∧(wX.alloc o).drew.cell? (aD B k)=some z∧Bl w0 (wX.alloc o).drew:=
 b4R (w3:=(wX.alloc o).drew) (show Below wX.drew.heap.size wX.drew (wX.drew.alloc o)from(Below.refl wX.drew.heap.size wX.drew).alloc (c9C _) o) h
theorem a4O{G:Nat}{x a b:Value}(h:wX.cell? (aD R i)=some x∧wX.cell? (aD R j)=some y∧wX.cell? (aD B k)=some z∧Bl w0 wX)(hR:R<G)(hB:B<G)(hw:w0.heap.size≤G):((wX.setCell (aD G 0) a).setCell (aD G 1) b).cell? (aD R i)=some x∧((wX.setCell (aD G 0) a).setCell (aD G 1) b).cell? (aD R j)=some y∧((wX.setCell (aD G 0) a).setCell (aD G 1) b).cell? (aD B k)=some z∧Bl w0 ((wX.setCell (aD G 0) a).setCell (aD G 1) b):=by
 obtain⟨h0,h1,h2,hb⟩:=h;have e1:R≠G:=by omega
 have e2:G≠R:=by omega
 have e3:B≠G:=by omega
 have e4:G≠B:=by omega
 exact⟨by go_simp,by go_simp,by go_simp,(hb.setCell hw _).setCell hw _⟩
theorem c8R{x:Value}(b3:Bl wX w3)(h:wX.cell? (aD R i)=some x∧wX.cell? (aD B k)=some z):w3.cell? (aD R i)=some x∧w3.cell? (aD B k)=some z:=
 ⟨(b3.cell (p:=⟨R,i,none⟩) (World.block_lt_of_cell? _ _ h.1)).trans h.1,(b3.cell (p:=⟨B,k,none⟩) (World.block_lt_of_cell? _ _ h.2)).trans h.2⟩
theorem c7U{F:Nat}(hb:Bl w0 wX)(hF:w0.heap.size≤F)(a b:Value):Bl w0 ((wX.setCell (aD F 0) a).setCell (aD F 1) b):=(hb.setCell hF _).setCell hF _
theorem b9B(w:World)(B:Nat)(p q:Value):Off (fun k=>k=B) w ((w.setCell (aD B 0) p).setCell (aD B 1) q):=((Off.refl (fun k=>k=B) w).set (p:=⟨B,0,none⟩) rfl p).set (p:=⟨B,1,none⟩) rfl q
theorem c8J{t t':TypeId}{p q c d:Value}{l:List Vw.Acc}(A7:bJ w7 v l)(hb:Bl w0 w7):
  dW ((w7.alloc (.cells #[p,q] t)).alloc (.cells #[c,d] t')) w7.heap.size p q∧dW ((w7.alloc (.cells #[p,q] t)).alloc (.cells #[c,d] t')) (w7.heap.size+1) c d∧bJ ((w7.alloc (.cells #[p,q] t)).alloc (.cells #[c,d] t')) v l∧Bl w0 ((w7.alloc (.cells #[p,q] t)).alloc (.cells #[c,d] t')):=by
 have b1:=aB8 w7 (.cells #[p,q] t);have b2:=aB8 (w7.alloc (.cells #[p,q] t)) (.cells #[c,d] t');have h:=aO (w7.alloc (.cells #[p,q] t)) t' c d;rw[show(w7.alloc (.cells #[p,q] t)).heap.size=w7.heap.size+1 by simp]at h;exact⟨(aO w7 t p q).below b2,h,A7.below (bt b1 b2),bt hb (bt b1 b2)⟩
theorem c8N{t:TypeId}{a b p q c d:Value}{l:List Vw.Acc}(W7:dW w7 B a b)(A7:bJ w7 v l)(P7:kF (B+1) v)(hb:Bl w0 w7)(hB:w0.heap.size≤B):
  dW (((w7.setCell (aD B 0) p).setCell (aD B 1) q).alloc (.cells #[c,d] t)) B p q∧dW (((w7.setCell (aD B 0) p).setCell (aD B 1) q).alloc (.cells #[c,d] t)) w7.heap.size c d∧bJ (((w7.setCell (aD B 0) p).setCell (aD B 1) q).alloc (.cells #[c,d] t)) v l∧Bl w0 (((w7.setCell (aD B 0) p).setCell (aD B 1) q).alloc (.cells #[c,d] t)):=by
 have hs:((w7.setCell (aD B 0) p).setCell (aD B 1) q).heap.size=w7.heap.size:=by rw[Deep.nblk_setCell,Deep.nblk_setCell]
 have ba:=aB8 ((w7.setCell (aD B 0) p).setCell (aD B 1) q) (.cells #[c,d] t);have h1:=aO ((w7.setCell (aD B 0) p).setCell (aD B 1) q) t c d;rw[hs]at h1;exact⟨(W7.set2 p q).below ba,h1,(A7.off (b9B w7 B p q) (fun g hg e=>by have:=P7 g hg;omega)).below ba,bt (c7U hb hB p q) ba⟩
theorem noA{G:Nat}{a b p q c d:Value}{l:List Vw.Acc}(W7:dW w7 B a b)(W8:dW w7 G a' b')(A7:bJ w7 v l)(P7:kF N v)(hb:Bl w0 w7)(hB:w0.heap.size≤B)(hG:w0.heap.size≤G)(hBG:B≠G)(hBN:B<N)(hGN:G<N):
  dW ((((w7.setCell (aD B 0) p).setCell (aD B 1) q).setCell (aD G 0) c).setCell (aD G 1) d) B p q∧dW ((((w7.setCell (aD B 0) p).setCell (aD B 1) q).setCell (aD G 0) c).setCell (aD G 1) d) G c d∧bJ ((((w7.setCell (aD B 0) p).setCell (aD B 1) q).setCell (aD G 0) c).setCell (aD G 1) d) v l∧Bl w0 ((((w7.setCell (aD B 0) p).setCell (aD B 1) q).setCell (aD G 0) c).setCell (aD G 1) d):=
 ⟨(W7.set2 p q).off (b9B _ G c d) hBG,(W8.off (b9B w7 B p q) (fun e=>hBG e.symm)).set2 c d,(A7.off (b9B w7 B p q) (fun g hg e=>by have:=P7 g hg;omega)).off (b9B _ G c d) (fun g hg e=>by have:=P7 g hg;omega),c7U (c7U hb hB p q) hG c d⟩
theorem c8K{l:Nat}{x u:Value}(b3:Bl wX w3)(h:wX.cell? (aD R i)=some x∧wX.cell? (aD R j)=some y∧wX.cell? (aD B k)=some z∧wX.cell? (aD B l)=some u∧Bl w0 wX):w3.cell? (aD R i)=some x∧w3.cell? (aD R j)=some y∧w3.cell? (aD B k)=some z∧w3.cell? (aD B l)=some u∧Bl w0 w3:=
 ⟨(b3.cell (p:=⟨R,i,none⟩) (World.block_lt_of_cell? _ _ h.1)).trans h.1,(b3.cell (p:=⟨R,j,none⟩) (World.block_lt_of_cell? _ _ h.2.1)).trans h.2.1,(b3.cell (p:=⟨B,k,none⟩) (World.block_lt_of_cell? _ _ h.2.2.1)).trans h.2.2.1,(b3.cell (p:=⟨B,l,none⟩) (World.block_lt_of_cell? _ _ h.2.2.2.1)).trans h.2.2.2.1,bt h.2.2.2.2 b3⟩
theorem tS{l:List Int}{x:Int}(h:kX l x i):Sto.below x l=i:=by
 obtain⟨h1,h2,h3⟩:=h;unfold Sto.below;have e:l.filter (fun y=>decide (y<x))=l.take i:=by
  conv=>lhs;rw[←d2Q i l,d1O]
  rw[d2S.2,List.filter_eq_nil_iff.2,d0W]
  ·intro y hy;obtain⟨k,hk,e⟩:=d1P.1 hy;have A0:l[i+k]?=some y:=by
    rw[←d0J,c9F hk,e]
   have:=h3 (i+k) y (Nat.le_add_right _ _) A0;simp;omega
  ·intro y hy;obtain⟨k,hk,e⟩:=d1P.1 hy;have A1:k<i:=by
    rw[c9K]at hk;omega
   have A0:l[k]?=some y:=by
    rw[←List.getElem?_take_of_lt A1,c9F hk,e]
   have:=h2 k y A1 A0;simp;exact this
 rw[e,c9K];omega
theorem b6L{l:List Int}{x:Int}(h:kX l x i)(hup:UpI l):l[i]?=some x↔x∈l:=by
 constructor
 ·exact c9N
 ·intro hx;obtain⟨k,hk,e⟩:=d1P.1 hx;have A0:l[k]?=some x:=by rw[c9F hk,e]
  rcases Nat.lt_trichotomy k i with q|q|q
  ·have:=h.2.1 k x q A0;omega
  ·rw[←q];exact A0
  ·have hi:i<l.length:=by omega
   have h3:=h.2.2 i l[i] (c9C _) (c9F hi);have h4:=d2Y.1 hup i k hi hk q;rw[e]at h4;omega
theorem zN: ∀(l:List Int) (x:Int),UpI l→ ∃i,kX l x i
 |[],x,_=>⟨0,c9C _,fun k a hk=>absurd hk (c9L _),fun k a _ ha=>(by cases ha)⟩
 |a::r,x,h=>by
  obtain⟨h1,h2⟩:=d1A.1 h
  by_cases q:a<x
  ·obtain⟨i,i1,i2,i3⟩:=zN r x h2
   refine⟨i+1,Nat.succ_le_succ i1,fun k b hk hb=>?_,fun k b hk hb=>?_⟩
   ·cases k with
    |zero=>
     cases hb
     exact q
    |succ k=>exact i2 k b (by omega) hb
   ·cases k with
    |zero=>omega
    |succ k=>exact i3 k b (by omega) hb
  ·refine⟨0,c9D _,fun k b hk=>absurd hk (c9L _),fun k b hk hb=>?_⟩;cases k with
   |zero=>
    cases hb
    omega
   |succ k=>
    have:=h1 b (c9N hb);omega
theorem b6P{l:List Int}{x:Int}(h:UpI l):kX l x (Sto.below x l):=by
 obtain⟨i,hi⟩:=zN l x h;rw[tS hi];exact hi
theorem b6V(t:Int)(vs:Value)(l:List Int)(w:World)(h:c2F w vs l)(hup:UpI l)(hn:l.length≤100000):
  Calls prog 42 #[vs,iV t] w fun e w'=>e=.returned (.tuple #[iV (Sto.below t l:Nat),.bool (decide (t∈l))])∧Bl w w':=by
 refine(c1G t vs l w h hup hn).mono ?_;rintro e w' ⟨⟨i,y,rfl,hc,hy⟩,rfl⟩;refine⟨?_,Below.refl _ _⟩;rw[tS hc];have:y=decide (t∈l):=by
  have hm:=b6L hc hup;by_cases q:t∈l
  ·rw[decide_eq_true q];exact hy.2 (hm.2 q)
  ·rw[decide_eq_false q];cases y with
   |false=>rfl
   |true=>exact absurd (hm.1 (hy.1 rfl)) q
 rw[this]
theorem c7Z{l:List Int}{x:Int}(h:kX l x i)(hup:UpI l)(hx:x∉l):UpI (l.take i++x::l.drop i):=by
 have A2: ∀y,y∈l.take i→y<x:=fun y hy=>by
  obtain⟨k,hk,e⟩:=d1P.1 hy;have A0:k<i:=by
   rw[c9K]at hk;omega
  exact h.2.1 k y A0 (by rw[←List.getElem?_take_of_lt A0,c9F hk,e])
 have A1: ∀y,y∈l.drop i→x<y:=fun y hy=>by
  obtain⟨k,hk,e⟩:=d1P.1 hy;have:=h.2.2 (i+k) y (Nat.le_add_right _ _) (by rw[←d0J,c9F hk,e]);rcases Int.lt_or_eq_of_le this with q|q
  ·exact q
  ·exact absurd (q▸d1S hy) hx
 have h1:(l.take i++l.drop i).Pairwise (· <·):=by
  rw[d2Q];exact hup
 obtain⟨p1,p2,p3⟩:=List.pairwise_append.1 h1;refine List.pairwise_append.2 ⟨p1,d1A.2 ⟨A1,p2⟩,fun a ha b hb=>?_⟩;rcases List.mem_cons.1 hb with rfl|q
 ·exact A2 a ha
 ·exact p3 a ha b q
end Go.Proofs.YtmcaejooaaahdaaGreat
