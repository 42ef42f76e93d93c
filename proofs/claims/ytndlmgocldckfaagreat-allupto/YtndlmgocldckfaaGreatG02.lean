import Derived.Test.YtndlmgocldckfaaGreatG01
import Derived.Laws.CopyRow
namespace Go.Proofs.YtndlmgocldckfaaGreat
open Go.RowKit
set_option linter.unusedVariables false
set_option linter.unusedSimpArgs false
set_option maxRecDepth 100000
set_option maxHeartbeats 4000000
structure Ev where
 time:Int
 number:Int
 kind:Int
 entity:Int
structure Mom where
 time:Int
 number:Int
def Ev.mom(e:Ev):Mom:=⟨e.time,e.number⟩
def bB(a b:Mom):Bool:=decide (a.time<b.time)||(decide (a.time=b.time)&&decide (a.number<b.number))
def cM(a b:Ev):Bool:=decide (a.time<b.time)||(decide (a.time=b.time)&&decide (a.number<b.number))
theorem iT(a b:Ev):cM a b=bB a.mom b.mom:=rfl
theorem iU(a b:Mom):bB a b=true↔a.time<b.time∨(a.time=b.time∧a.number<b.number):=by simp[bB]
theorem mT(a b:Mom):bB a b=false↔b.time<a.time∨(a.time=b.time∧b.number≤a.number):=by
 rw[←Bool.not_eq_true,iU];omega
theorem mF{a b:Mom}(h:bB a b=true):bB b a=false:=by
 rw[iU]at h;rw[mT];omega
theorem oN{a b c:Mom}(h:bB a b=true)(k:bB b c=true):bB a c=true:=by
 rw[iU]at *;omega
theorem fJ{a b c:Mom}(h:bB a b=false)(k:bB b c=false):bB a c=false:=by
 rw[mT]at *;omega
theorem mG(a:Mom):bB a a=false:=by rw[mT];omega
def dX(f:Nat→Mom)(i j:Nat):Nat→Mom:=fun k=>if k=i then f j else if k=j then f i else f k
def dQ(f:Nat→Mom)(i:Nat)(m:Mom):Nat→Mom:=fun k=>if k=i then m else f k
def HeapF(f:Nat→Mom)(n:Nat):Prop:=∀ j,0<j→j<n→bB (f j) (f ((j-1) / 2))=false
def RiseF(f:Nat→Mom)(n i:Nat):Prop:=
 (∀ j,0<j→j<n→j≠i→bB (f j) (f ((j-1) / 2))=false)∧(∀ j,0<i→0<j→j<n→(j-1) / 2=i→bB (f j) (f ((i-1) / 2))=false)
def SinkF(f:Nat→Mom)(n i0 i:Nat):Prop:=
 (∀ j,0<j→j<n→(j-1) / 2≠i→(j≠i0∨i≠i0)→bB (f j) (f ((j-1) / 2))=false)∧(∀ j,0<i→0<j→j<n→(j-1) / 2=i→bB (f j) (f ((i-1) / 2))=false)
theorem RiseF.swap{f:Nat→Mom}{n i:Nat}(h:RiseF f n i)(hi:0<i)(hn:i<n)(ha:bB (f i) (f ((i-1) / 2))=true):RiseF (dX f i ((i-1) / 2)) n ((i-1) / 2):=by
 obtain⟨h1,h2⟩:=h;have hp:(i-1) / 2<i:=by omega
 generalize hP:(i-1) / 2=p at *;refine⟨?_,?_⟩
 ·intro j hj hjn hjp
  by_cases hji:j=i
  ·subst hji;simp[dX,hP,show p≠j by omega]
   exact mF ha
  ·by_cases hpi:(j-1) / 2=i
   ·have:=h2 j hi hj hjn hpi;simp[dX,hji,hjp,hpi];exact this
   ·by_cases hpp:(j-1) / 2=p
    ·have:=h1 j hj hjn hji;rw[hpp]at this;simp[dX,hji,hjp,hpp,show p≠i by omega]
     rw[Bool.eq_false_iff];intro hc;rw[oN hc ha]at this;cases this
    ·simp[dX,hji,hjp,hpi,hpp];exact h1 j hj hjn hji
 ·intro j hp0 hj hjn hjp;have hg:(p-1) / 2<p:=by omega
  have hpg:=h1 p hp0 (by omega) (by omega)
  by_cases hji:j=i
  ·subst hji;simp[dX,show(p-1) / 2≠j by omega,show(p-1) / 2≠p by omega]
   exact hpg
  ·have:=h1 j hj hjn hji;rw[hjp]at this;simp[dX,hji,show j≠p by omega,show(p-1) / 2≠i by omega,show(p-1) / 2≠p by omega]
   exact fJ this hpg
theorem RiseF.done{f:Nat→Mom}{n i:Nat}(h:RiseF f n i)(he:i=0∨n≤i∨bB (f i) (f ((i-1) / 2))=false):HeapF f n:=by
 intro j hj hjn
 by_cases hji:j=i
 ·subst hji;rcases he with h0|h0|h0
  ·omega
  ·omega
  ·exact h0
 ·exact h.1 j hj hjn hji
theorem SinkF.swap{f:Nat→Mom}{n i0 i c:Nat}(h:SinkF f n i0 i)(h0:i0≤i)(hc:(c-1) / 2=i)(hc0:0<c)(hcn:c<n)(ha:bB (f c) (f i)=true)
  (hs:∀ s,0<s→s<n→(s-1) / 2=i→bB (f s) (f c)=false):SinkF (dX f i c) n i0 c:=by
 obtain⟨h1,h2⟩:=h;have hic:i<c:=by omega
 refine⟨?_,?_⟩
 ·intro j hj hjn hjc _
  by_cases hjc':j=c
  ·subst hjc';simp[dX,hc,show j≠i by omega]
   exact mF ha
  ·by_cases hji:j=i
   ·subst hji;have:=h2 c hj hc0 hcn hc;simp[dX,show(j-1) / 2≠j by omega,show(j-1) / 2≠c by omega]
    exact this
   ·by_cases hpi:(j-1) / 2=i
    ·simp[dX,hjc',hji,hpi];exact hs j hj hjn hpi
    ·simp[dX,hjc',hji,hpi,hjc];exact h1 j hj hjn hpi (by omega)
 ·intro j _ hj hjn hjc;have:=h1 j hj hjn (by omega) (by omega)
  rw[hjc]at this;simp[dX,hc,show j≠i by omega,show j≠c by omega]
  exact this
theorem SinkF.done{f:Nat→Mom}{n i0 i:Nat}(h:SinkF f n i0 i)(h0:i0≤i)(he:∀ s,0<s→s<n→(s-1) / 2=i→bB (f s) (f i)=false):RiseF f n i0:=by
 obtain⟨h1,h2⟩:=h
 by_cases hi:i=i0
 ·subst hi;refine⟨?_,h2⟩;intro j hj hjn hji
  by_cases hpi:(j-1) / 2=i
  ·rw[hpi];exact he j hj hjn hpi
  ·exact h1 j hj hjn hpi (.inl hji)
 ·have hall:∀ j,0<j→j<n→bB (f j) (f ((j-1) / 2))=false:=by
   intro j hj hjn
   by_cases hpi:(j-1) / 2=i
   ·rw[hpi];exact he j hj hjn hpi
   ·exact h1 j hj hjn hpi (.inr hi)
  refine⟨fun j hj hjn _=>hall j hj hjn,?_⟩;intro j hi0 hj hjn hp;have a:=hall j hj hjn;rw[hp]at a;exact fJ a (hall i0 hi0 (by omega))
theorem SinkF.start{f:Nat→Mom}{n i:Nat}(h:HeapF f (n+1))(hi:i<n):SinkF (dQ f i (f n)) n i i:=by
 refine⟨?_,?_⟩
 ·intro j hj hjn hp hji;have hji':j≠i:=by omega
  simp[dQ,hji',hp];exact h j hj (by omega)
 ·intro j hi0 hj hjn hp;have a:=h j hj (by omega)
  have b:=h i hi0 (by omega)
  rw[hp]at a;simp[dQ,show j≠i by omega,show(i-1) / 2≠i by omega]
  exact fJ a b
theorem HeapF.min{f:Nat→Mom}{n:Nat}(h:HeapF f n):∀ i,i<n→bB (f i) (f 0)=false:=by
 intro i
 induction i using Nat.strongRecOn with
 | _ i ih=>
  intro hi
  by_cases h0:i=0
  ·subst h0;exact mG _
  ·exact fJ (h i (by omega) hi) (ih ((i-1) / 2) (by omega) (by omega))
def InjF(f:Nat→Mom)(n:Nat):Prop:=∀ i j,i<n→j<n→f i=f j→i=j
structure MomsOf(f:Nat→Mom)(n:Nat)(q:List Ev):Prop where
 len:q.length=n
 inj:InjF f n
 sub:∀ i,i<n→∃ e,e∈q∧f i=e.mom
 sup:∀ e,e∈q→∃ i,i<n∧f i=e.mom
theorem MomsOf.swap{f:Nat→Mom}{n:Nat}{q:List Ev}(h:MomsOf f n q){i j:Nat}(hi:i<n)(hj:j<n):MomsOf (dX f i j) n q:=by
 have hg:∀ k,k<n→∃ k',k'<n∧dX f i j k=f k':=by
  intro k hk;unfold dX
  by_cases h1:k=i
  ·exact⟨j,hj,by simp[h1]⟩
  ·by_cases h2:k=j
   ·exact⟨i,hi,by simp[h1,h2];intro e;subst e;omega⟩
   ·exact⟨k,hk,by simp[h1,h2]⟩
 refine⟨h.len,?_,?_,?_⟩
 ·intro a b ha hb e;unfold dX at e;have hij:=h.inj
  by_cases a1:a=i<;>by_cases b1:b=i<;>by_cases a2:a=j<;>by_cases b2:b=j<;>simp[a1,b1,a2,b2]at e<;>(try omega)
  all_goals
   first
   | (have:=hij _ _ (by omega) (by omega) e;omega)
   | (have:=hij _ _ (by omega) (by omega) (e (by omega));omega)
   | (split at e<;>first|(have:=hij _ _ (by omega) (by omega) e;omega)|omega)
 ·intro k hk;obtain⟨k',hk',e⟩:=hg k hk;rw[e];exact h.sub k' hk'
 ·intro e he;obtain⟨k,hk,e1⟩:=h.sup e he
  by_cases h1:k=i
  ·refine⟨j,hj,?_⟩;subst h1
   by_cases hji:j=k
   ·subst hji;simp[dX,e1]
   ·simp[dX,hji,e1]
  ·by_cases h2:k=j
   ·subst h2;exact⟨i,hi,by simp[dX,e1]⟩
   ·exact⟨k,hk,by simp[dX,h1,h2,e1]⟩
theorem MomsOf.cons{f:Nat→Mom}{n:Nat}{q q':List Ev}{e:Ev}(h:MomsOf f n q)(hnew:∀ x∈q,x.number≠e.number)(hl:q'.length=n+1)(hq:∀ x,x∈q'↔x=e∨x∈q):MomsOf (dQ f n e.mom) (n+1) q':=by
 have old:∀ k,k<n→f k≠e.mom:=by
  intro k hk hc;obtain⟨x,hx,hfx⟩:=h.sub k hk;exact hnew x hx (by rw[hfx]at hc;exact congrArg Mom.number hc)
 refine⟨hl,?_,?_,?_⟩
 ·intro a b ha hb hab;unfold dQ at hab
  by_cases h1:a=n<;>by_cases h2:b=n<;>simp[h1,h2]at hab
  ·omega
  ·exact absurd hab.symm (old b (by omega))
  ·exact absurd hab (old a (by omega))
  ·exact h.inj a b (by omega) (by omega) hab
 ·intro k hk
  by_cases h1:k=n
  ·exact⟨e,(hq e).2 (.inl rfl),by simp[dQ,h1]⟩
  ·obtain⟨x,hx,hfx⟩:=h.sub k (by omega)
   exact⟨x,(hq x).2 (.inr hx),by simp[dQ,h1,hfx]⟩
 ·intro x hx;rcases (hq x).1 hx with rfl|hx
  ·exact⟨n,by omega,by simp[dQ]⟩
  ·obtain⟨k,hk,hfk⟩:=h.sup x hx;exact⟨k,by omega,by simp[dQ,show k≠n by omega,hfk]⟩
theorem MomsOf.remove{f:Nat→Mom}{n i:Nat}{q q':List Ev}{e:Ev}(h:MomsOf f (n+1) q)(hi:i<n+1)(hfi:f i=e.mom)(hnum:∀ x∈q,x.number=e.number→x=e)(hl:q'.length=n)(hq:∀ x,x∈q'↔x∈q∧x.number≠e.number):MomsOf (dQ f i (f n)) n q':=by
 refine⟨hl,?_,?_,?_⟩
 ·intro a b ha hb hab;unfold dQ at hab
  by_cases h1:a=i<;>by_cases h2:b=i<;>simp[h1,h2]at hab
  ·omega
  ·have:=h.inj _ _ (by omega) (by omega) hab;omega
  ·have:=h.inj _ _ (by omega) (by omega) hab;omega
  ·exact h.inj a b (by omega) (by omega) hab
 ·intro k hk;have key:∀ k',k'<n+1→k'≠i→∃ x,x∈q'∧f k'=x.mom:=by
   intro k' hk' hne;obtain⟨x,hx,hfx⟩:=h.sub k' hk';refine⟨x,(hq x).2 ⟨hx,fun hn=>hne ?_⟩,hfx⟩;have:x=e:=hnum x hx hn;subst this;exact h.inj _ _ hk' hi (hfx.trans hfi.symm)
  unfold dQ
  by_cases h1:k=i
  ·simp[h1];exact key n (by omega) (by omega)
  ·simp[h1];exact key k (by omega) h1
 ·intro x hx;obtain⟨hxq,hxn⟩:=(hq x).1 hx;obtain⟨k,hk,hfk⟩:=h.sup x hxq;have hki:k≠i:=by
   intro e1;subst e1;rw[hfi]at hfk;exact hxn (congrArg Mom.number hfk).symm
  by_cases hkn:k=n
  ·subst hkn;exact⟨i,by omega,by simp[dQ,hfk]⟩
  ·exact⟨k,by omega,by simp[dQ,hki,hfk]⟩
def cE(q:List Ev):Prop:=q.Pairwise (fun a b=>cM a b=true)
def Distinct(q:List Ev):Prop:=q.Pairwise (fun a b=>a.number≠b.number)
theorem Distinct.eq{q:List Ev}(h:Distinct q){a b:Ev}(ha:a∈q)(hb:b∈q)(e:a.number=b.number):a=b:=by
 induction q with
 | nil=>simp at ha
 | cons x q ih=>
  rcases List.pairwise_cons.1 h with⟨h1,h2⟩;rcases List.mem_cons.1 ha with ha'|ha'<;>rcases List.mem_cons.1 hb with hb'|hb'
  ·rw[ha',hb']
  ·exact absurd (by rw[←e,ha']) (h1 b hb')
  ·exact absurd (by rw[e,hb']) (h1 a ha')
  ·exact ih h2 ha' hb'
theorem MomsOf.first{f:Nat→Mom}{n:Nat}{e:Ev}{q:List Ev}(h:MomsOf f n (e::q))(hh:HeapF f n)(hs:cE (e::q))(hd:Distinct (e::q)):0<n∧f 0=e.mom:=by
 have hn:0<n:=by have:=h.len;simp at this;omega
 refine⟨hn,?_⟩;obtain⟨x,hx,hfx⟩:=h.sub 0 hn;rcases List.mem_cons.1 hx with rfl|hx
 ·exact hfx
 ·have h1:=(List.pairwise_cons.1 hs).1 x hx;obtain⟨k,hk,hfk⟩:=h.sup e (by simp)
  have:=hh.min k hk;rw[hfk,hfx,←iT,h1]at this;cases this
def jY(e:Ev):List Ev→Nat
 | []=>0
 | x::q=>if cM x e then jY e q+1 else 0
theorem aBb(e:Ev):∀ q,jY e q≤q.length
 | []=>Nat.le_refl _
 | x::q=>by unfold jY;split<;>simp;exact aBb e q
theorem aCn{e:Ev}{q:List Ev}{k:Nat}(h:k<q.length):jY e (q.drop k)=if cM q[k] e then jY e (q.drop (k+1))+1 else 0:=by
 rw[List.drop_eq_getElem_cons h,jY]
def dR(e:Ev)(q:List Ev):List Ev:=q.take (jY e q)++e::q.drop (jY e q)
theorem cX(e:Ev)(q:List Ev):(dR e q).length=q.length+1:=by
 have:=aBb e q;simp[dR];omega
theorem mU(e x:Ev)(q:List Ev):dR e (x::q)=if cM x e then x::dR e q else e::x::q:=by
 unfold dR;rw[jY]
 split<;>simp
theorem gT(e:Ev):∀ (q:List Ev) (x:Ev),x∈dR e q↔x=e∨x∈q
 | [],x=>by simp[dR,jY]
 | y::q,x=>by
  rw[mU]
  split
  ·have:=gT e q x;simp only[List.mem_cons,this];constructor
   ·rintro (h|h|h)<;>simp[h]
   ·rintro (h|h|h)<;>simp[h]
  ·simp[List.mem_cons]
theorem gP(e:Ev):∀ (q:List Ev),Distinct q→(∀ x∈q,x.number≠e.number)→Distinct (dR e q)
 | [],_,_=>by simp[dR,jY,Distinct]
 | y::q,h,hn=>by
  rw[mU];obtain⟨h1,h2⟩:=List.pairwise_cons.1 h
  split
  ·refine List.pairwise_cons.2 ⟨?_,gP e q h2 (fun x hx=>hn x (by simp[hx]))⟩
   intro x hx;rcases (gT e q x).1 hx with rfl|hx
   ·exact hn y (by simp)
   ·exact h1 x hx
  ·exact List.pairwise_cons.2 ⟨fun x hx=>(hn x hx).symm,h⟩
theorem jL(e:Ev):∀ (q:List Ev),cE q→(∀ x∈q,x.number≠e.number)→cE (dR e q)
 | [],_,_=>by simp[dR,jY,cE]
 | y::q,h,hn=>by
  rw[mU];obtain⟨h1,h2⟩:=List.pairwise_cons.1 h
  split
  ·rename_i hy
   refine List.pairwise_cons.2 ⟨?_,jL e q h2 (fun x hx=>hn x (by simp[hx]))⟩
   intro x hx;rcases (gT e q x).1 hx with rfl|hx
   ·exact hy
   ·exact h1 x hx
  ·rename_i hy
   have hey:cM e y=true:=by
    have hne:=hn y (by simp)
    have:cM y e=false:=by simpa using hy
    rw[iT,mT]at this;rw[iT,iU];simp only[Ev.mom]at *;omega
   refine List.pairwise_cons.2 ⟨?_,h⟩;intro x hx;rcases List.mem_cons.1 hx with rfl|hx
   ·exact hey
   ·have:=h1 x hx;rw[iT]at *;exact oN hey this
def bY(n:Int)(q:List Ev):List Ev:=q.filter (fun e=>decide (e.number≠n))
theorem iV(n:Int)(q:List Ev)(x:Ev):x∈bY n q↔x∈q∧x.number≠n:=by simp[bY]
theorem qD{n:Int}{q:List Ev}(h:cE q):cE (bY n q):=List.Pairwise.filter _ h
theorem jZ{n:Int}{q:List Ev}(h:Distinct q):Distinct (bY n q):=List.Pairwise.filter _ h
theorem pH{n:Int}{q:List Ev}(h:∀ x∈q,x.number≠n):bY n q=q:=List.filter_eq_self.2 (by simpa using h)
theorem jM{n:Int}:∀ {q:List Ev},Distinct q→∀ {e:Ev},e∈q→e.number=n→(bY n q).length+1=q.length
 | x::q,hd,e,he,hen=>by
  obtain⟨h1,h2⟩:=List.pairwise_cons.1 hd;rcases List.mem_cons.1 he with rfl|he
  ·have:bY n q=q:=pH (fun y hy=>by rw[←hen];exact(h1 y hy).symm)
   simp[bY,hen]at this ⊢;exact this
  ·have ih:=jM h2 he hen;have hx:x.number≠n:=by rw[←hen];exact h1 e he
   simp[bY,hx]at ih ⊢;omega
theorem vT{e:Ev}{q:List Ev}(h:Distinct (e::q)):bY e.number (e::q)=q:=by
 obtain⟨h1,h2⟩:=List.pairwise_cons.1 h;have:bY e.number q=q:=pH (fun y hy=>(h1 y hy).symm)
 simpa [bY]using this
structure Rec where
 e:Ev
 told:List Int
theorem Tryz.infoR:(Tryz.prog.info? 46).map (fun i=>(i.zero,i.size,i.bytes))=some (some (.agg #[.int .i64 0,.int .i64 0,.int .i64 0,.int .i64 0,.slice none 0 0]),5,56):=by kernel_rfl
structure RecC where
 e:Ev
 sa:Option Addr
 n:Nat
 sc:Nat
def RecC.v(x:RecC):Value:=.agg #[.int .i64 x.e.number,.int .i64 x.e.time,.int .i64 x.e.kind,.int .i64 x.e.entity,.slice x.sa x.n x.sc]
def RecC.cells(x:RecC):List Value:=[.int .i64 x.e.number,.int .i64 x.e.time,.int .i64 x.e.kind,.int .i64 x.e.entity,.slice x.sa x.n x.sc]
def bA(l:List RecC):List Value:=l.flatMap RecC.cells
theorem lC:∀ (l:List RecC) (i r:Nat),r<5→(bA l)[i*5+r]?=l[i]?.bind fun x=>(x.cells)[r]?
 | [],i,r,_=>by simp[bA]
 | x::l,0,r,h=>by
  have:r=0∨r=1∨r=2∨r=3∨r=4:=by omega
  rcases this with rfl|rfl|rfl|rfl|rfl<;>simp[bA,RecC.cells]
 | x::l,i+1,r,h=>by
  have ih:=lC l i r h;have e:(i+1)*5+r=(i*5+r)+1+1+1+1+1:=by omega
  rw[e]
  simpa [bA,RecC.cells]using ih
def ToldIn(w:World)(sa:Option Addr)(l:List Int):Prop:=∀ (k:Nat) t,l[k]?=some t→∃ g o,sa=some ⟨g,o,none⟩∧w.cell? ⟨g,o+k,none⟩=some (.int .i64 t)
def RecIn(w:World)(a:Option Addr)(rs:List Rec):Prop:=∀ (i:Nat) r,rs[i]?=some r→∃ b off sa sc,a=some ⟨b,off,none⟩∧w.cell? ⟨b,off+i*5,none⟩=some (.int .i64 r.e.number)∧w.cell? ⟨b,off+i*5+1,none⟩=some (.int .i64 r.e.time)∧w.cell? ⟨b,off+i*5+2,none⟩=some (.int .i64 r.e.kind)∧w.cell? ⟨b,off+i*5+3,none⟩=some (.int .i64 r.e.entity) ∧
  w.cell? ⟨b,off+i*5+4,none⟩=some (.slice sa r.told.length sc)∧ToldIn w sa r.told
theorem ToldIn.below{w w':World}{sa:Option Addr}{l:List Int}(h:ToldIn w sa l)(hb:Below w.heap.size w w'):ToldIn w' sa l:=by
 intro k t ht;obtain⟨g,o,h1,h2⟩:=h k t ht;exact⟨g,o,h1,aA hb h2 (aC h2)⟩
theorem RecIn.below{w w':World}{a:Option Addr}{rs:List Rec}(h:RecIn w a rs)(hb:Below w.heap.size w w'):RecIn w' a rs:=by
 intro i r hr;obtain⟨b,off,sa,sc,h0,c0,c1,c2,c3,c4,ct⟩:=h i r hr;exact⟨b,off,sa,sc,h0,aA hb c0 (aC c0),aA hb c1 (aC c1),aA hb c2 (aC c2),aA hb c3 (aC c3),aA hb c4 (aC c4),ct.below hb⟩
def gE(l:List Int):Bool:=l.all fun n=>inB n (-1000000000) 1000000000
def cU(ahead:Int)(r:Rec):Bool:=inB r.e.number 0 1000000000&&(inB r.e.time ahead 1000000000000&&(inB r.e.kind 0 7&&(inB r.e.entity 0 7&&(decide (r.told.length≤16)&&gE r.told))))
def aS:Int→List Rec→Bool
 | _,[]=>true
 | ahead,r::rs=>cU ahead r&&aS r.e.time rs
def fX(rs:List Rec):Bool:=decide (rs.length≤1000)&&aS 0 rs
def aI(l:List Int):List Value:=l.map (Value.int .u8)
theorem kY(a b:List Int):aI (a++b)=aI a++aI b:=by simp[aI]
theorem eA(a:List Int):(aI a).length=a.length:=by simp[aI]
theorem vM(l:List Int):∀ u∈aI l,u.oneCell'=true:=by
 intro v hv;simp[aI]at hv;obtain⟨x,_,rfl⟩:=hv;rfl
theorem Tryz.infoU8:(Tryz.prog.info? 5).map (fun i=>(i.zero,i.size,i.bytes))=some (some (.int .u8 0),1,1):=by kernel_rfl
def aG5(fz:Nat×Nat)(n:Nat):Prop:=∀ i,i<n→¬(fz.1≤i∧i<fz.2)
theorem eT{P:Program}(g o:Nat)(t:TypeId)(fz:Nat×Nat):∀ (vs:List Value) (i:Nat) (cur:Array Value) (w:World),w.heap[g]?=some (.cells cur t fz)→aG5 fz cur.size→o+i+vs.length≤cur.size→(∀ v∈vs,v.oneCell'=true) →
  (storeCells ⟨g,o,none⟩ vs i).run P w=.ok () (w.setRow g (cur.toList.take (o+i)++vs++cur.toList.drop (o+i+vs.length)).toArray)
 | [],i,cur,w,hg,_,_,_=>by
  simp only[storeCells,List.append_nil,List.length_nil,Nat.add_zero,List.take_append_drop,Array.toArray_toList];rw[setRow_self w g cur t fz hg]
  rfl
 | v::rest,i,cur,w,hg,hz,hl,h1=>by
  have hi:o+i<cur.size:=by simp at hl;omega
  have hadd:(⟨g,o,none⟩:Addr).add i=⟨g,o+i,none⟩:=by unfold Addr.add;split<;>simp_all
  have hcell:w.cell? ⟨g,o+i,none⟩=some cur[o+i]:=by simp[World.cell?,hg,hi]
  have hfro:w.frozen? ⟨g,o+i,none⟩=false:=by
   obtain⟨lo,hi'⟩:=fz;have:=hz (o+i) hi;simp only[World.frozen?,hg];simp only[Bool.and_eq_false_iff,decide_eq_false_iff_not];simp only at this;omega
  have hst:(store ((⟨g,o,none⟩:Addr).add i) v).run P w=.ok () (w.setRow g (cur.setIfInBounds (o+i) v)):=by
   rw[hadd,run_store P w _ v _ (h1 v (by simp)),hcell]
   simp[hfro,setCell_eq_setRow w g (o+i) cur t fz v hg]
  have ih:=eT (P:=P) g o t fz rest (i+1) (cur.setIfInBounds (o+i) v) (w.setRow g (cur.setIfInBounds (o+i) v)) (setRow_heap w g cur _ t _ hg) (by simpa using hz) (by simp at hl ⊢;omega) (fun x hx=>h1 x (by simp[hx]))
  simp only[storeCells,Sem.run_bind,hst,Result.andThen_ok,ih,setRow_setRow];congr 3;have e:=list_seg_step cur.toList (o+i) v rest (by simp at hl ⊢;omega)
  simpa [Array.toList_setIfInBounds,Nat.add_assoc]using e
def BRow(base:Nat)(w:World)(lv:Value)(l:List Int):Prop:=
 ∃ g cap cur fz,lv=.slice (some ⟨g,0,none⟩) l.length cap∧base≤g∧w.heap[g]?=some (.cells cur 5 fz)∧aG5 fz cur.size∧l.length≤cap∧cap≤maxLen∧cur.size=cap∧cur.toList.take l.length=aI l
theorem BRow.row{base:Nat}{w:World}{lv:Value}{l:List Int}(h:BRow base w lv l):∃ g cap,lv=.slice (some ⟨g,0,none⟩) l.length cap∧base≤g∧g<w.heap.size∧RowAt w g 0 (aI l):=by
 obtain⟨g,cap,cur,fz,rfl,hb,hg,hz,h1,h2,h3,h4⟩:=h;refine⟨g,cap,rfl,hb,(Array.getElem?_eq_some_iff.1 hg).1,fun j v hv=>?_⟩;have hj:j<l.length:=by have:=(List.getElem?_eq_some_iff.1 hv).1;simpa [aI]using this
 rw[←h4,List.getElem?_take,if_pos hj]at hv;simp only[World.cell?,hg,Nat.zero_add]
 simpa using hv
theorem BRow.keep{base:Nat}{w w':World}{lv:Value}{l:List Int}{U:Nat→Prop}(h:BRow base w lv l)(ho:Only U w w')(hU:∀ b,some b=lv.ownBlock→¬U b):BRow base w' lv l:=by
 obtain⟨g,cap,cur,fz,rfl,hb,hg,r⟩:=h;have hl:=(Array.getElem?_eq_some_iff.1 hg).1;exact⟨g,cap,cur,fz,rfl,hb,(ho.block g hl (hU g rfl)).trans hg,r⟩
theorem BRow.lt{base:Nat}{w:World}{lv:Value}{l:List Int}(h:BRow base w lv l):∀ b,some b=lv.ownBlock→base≤b∧b<w.heap.size:=by
 obtain⟨g,cap,rfl,h1,h2,_⟩:=h.row;intro b hb;simp[Value.ownBlock]at hb;omega
theorem BRow.form{base:Nat}{w:World}{lv:Value}{l:List Int}(h:BRow base w lv l):∃ g cap,lv=.slice (some ⟨g,0,none⟩) l.length cap:=by
 obtain⟨g,cap,_,_,rfl,_⟩:=h;exact⟨g,cap,rfl⟩
theorem BRow.mono{base base':Nat}{w:World}{lv:Value}{l:List Int}(h:BRow base w lv l)(hb:base'≤base):BRow base' w lv l:=by
 obtain⟨g,cap,cur,fz,rfl,h1,r⟩:=h;exact⟨g,cap,cur,fz,rfl,by omega,r⟩
theorem kZ{P:Program}{w:World}(base:Nat)(t ty:TypeId)(ht:P.underlying t=some (.slice 5))(i:TypeInfo)(hi:P.info? 5=some i)(hz:i.zero=some (.int .u8 0))(hs:i.size=1)(hby:i.bytes=1)
  (lv:Value) (l:List Int) (h:BRow base w lv l) (a:Addr) (c:Nat) (x:List Int) (hnews:∀ j u,(aI x)[j]?=some u→w.cell? (a.add j)=some u) (hbytes:l.length+x.length≤140737488355328) (hbase:base≤w.heap.size) :
  ∃ v' w',(Builtin.append_ #[t,t] ty #[lv,.slice (some a) x.length c]).run P w=.ok v' w'∧BRow base w' v' (l++x)∧w.grownBy w' lv.ownBlock∧(v'.ownBlock=lv.ownBlock∨v'.ownBlock=some w.heap.size):=by
 have hrow:=h.row;obtain⟨g,cap,cur,fz,rfl,hb,hg,hcl,h1,h2,h3,h4⟩:=h;have hl:(aI x).length=x.length*i.size:=by simp[aI,hs]
 by_cases hroom:l.length+x.length≤cap
 ·have hf:=run_firstCells_some (P:=P) w i.size x.length a x.length c (aI x) hl hnews;have hst:=eT (P:=P) g (l.length*i.size) 5 fz (aI x) 0 cur w hg hcl (by rw[hs,eA];omega) (vM x)
  simp only[Nat.add_zero]at hst;have hr:(Builtin.append_ #[t,t] ty #[.slice (some ⟨g,0,none⟩) l.length cap,.slice (some a) x.length c]).run P w=.ok (.slice (some ⟨g,0,none⟩) (l.length+x.length) cap) (w.setRow g (cur.toList.take (l.length*i.size)++aI x++cur.toList.drop (l.length*i.size+(aI x).length)).toArray):=by
   simp[Builtin.append_,run_underlying ht,sizeOf,typeInfo,hi,Builtin.lenOf,hroom,hf,Addr.add_lit,hst]
  refine⟨_,_,hr,?_,⟨rfl,rfl,rfl,by simp[World.setRow],fun k _ hk=>setRow_other w g k _ (fun e=>hk (by simp[Value.ownBlock,e]))⟩,.inl rfl⟩
  refine⟨g,cap,_,fz,by simp,hb,setRow_heap w g cur _ _ _ hg,?_,by simp;omega,h2,?_,?_⟩
  ·simp only[hs,Nat.mul_one,List.size_toArray,List.length_append,List.length_take,List.length_drop,Array.length_toList,eA];rw[show min l.length cur.size+x.length+(cur.size-(l.length+x.length))=cur.size by omega]
   exact hcl
  ·simp only[hs,Nat.mul_one,List.size_toArray,List.length_append,List.length_take,List.length_drop,Array.length_toList,eA];omega
  ·simp only[hs,Nat.mul_one,h4];rw[kY,show(l++x).length=(aI l++aI x).length by simp[aI]]
   exact List.take_left
 ·obtain⟨g',cap',he,_,_,hrw⟩:=hrow;simp only[Value.slice.injEq,Option.some.injEq,Addr.mk.injEq]at he;obtain⟨⟨rfl,_⟩,_,rfl⟩:=he;have holds:∀ (j:Nat) u,(aI l)[j]?=some u→w.cell? ((⟨g,0,none⟩:Addr).add j)=some u:=fun j u hu=>by rw[Addr.add_lit];exact hrw j u hu
  have hr:=run_append_grow (P:=P) w t ty 5 i (.int .u8 0) ht hi hz ⟨g,0,none⟩ l.length cap (aI l) (by simp[aI,hs]) holds a x.length c (aI x) hl hnews (by omega) (by omega) (growslice_fits (by omega) (by rw[hby];omega))
  refine⟨_,_,hr,?_,⟨rfl,rfl,rfl,by simp,fun k hk _=>heap_alloc_old w.drew _ hk⟩,.inr rfl⟩
  have hge:=grownCap_ge w (l.length+x.length) cap 5;have hcm:grownCap w (l.length+x.length) cap 5≤maxLen:=grownCap_le_maxLen w (l.length+x.length) cap 5 (by simp only[maxLen];omega)
  refine⟨w.heap.size,_,_,(0,0),by simp,hbase,heap_alloc_new w.drew _,by intro i hi;simp,by simp;omega,hcm,?_,?_⟩
  ·simp only[Array.size_append,List.size_toArray,size_zeroCells,eA];simp[Value.cells];omega
  ·simp only[Array.toList_append];rw[kY,show(l++x).length=(aI l++aI x).length by simp[aI]]
   exact List.take_left
theorem lM{P:Program}{w:World}{ops:Array Oper}{rest:List Oper}{o:Oper}{a:Act}{Q:Exit→Act→World→Prop}(hgd:o.guard=none)(s x:Operand)(t:TypeId)
  (ho:o.op=.call {callee:=.builtin .append,args:=#[s,x],argTypes:=#[t,t]}) (base:Nat) (ht:P.underlying t=some (.slice 5)) (hinfo:(P.info? 5).map (fun i=>(i.zero,i.size,i.bytes))=some (some (.int .u8 0),1,1))
  (lv:Value) (l:List Int) (hs:a.eval s=lv) (h:BRow base w lv l) (b off c:Nat) (y:List Int) (hx:a.eval x=.slice (some ⟨b,off,none⟩) y.length c) (hnews:RowAt w b off (aI y)) (hbytes:l.length+y.length≤140737488355328) (hbase:base≤w.heap.size)
  (hK:∀ v' w',Hid (BRow base w' v' (l++y))→Hid (w.grownBy w' lv.ownBlock)→Hid (v'.ownBlock=lv.ownBlock∨v'.ownBlock=some w.heap.size)→wpList P ops Q rest (a.put o.dst v') w'):wpList P ops Q (o::rest) a w:=by
 obtain⟨i,hi,hz,hsz,hby⟩:=info_parts hinfo;obtain⟨v',w',hr,h2,h3,h4⟩:=kZ (P:=P) base t o.type ht i hi hz hsz hby lv l h ⟨b,off,none⟩ c y (fun j u hu=>by rw[Addr.add_lit];exact hnews j u hu) hbytes hbase
 refine wpList_plain hgd fun K hK'=>?_;unfold Oper.wp;simp[execOp,ho,resolve,invoke,builtin,hs,hx,hr,Result.andThen];exact hK' _ _ (hK v' w' h2 h3 h4)
end Go.Proofs.YtndlmgocldckfaaGreat
