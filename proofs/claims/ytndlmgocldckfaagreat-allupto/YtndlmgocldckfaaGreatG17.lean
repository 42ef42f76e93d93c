import Derived.Test.YtndlmgocldckfaaGreatG16
import Derived.Test.YtndlmgocldckfaaGreatG12
import Derived.Test.YtndlmgocldckfaaGreatG13
import Derived.Test.YtndlmgocldckfaaGreatG14
import Derived.Test.YtndlmgocldckfaaGreatG15
namespace Go.Proofs.YtndlmgocldckfaaGreat
open Go.RowKit
set_option linter.unusedVariables false
set_option linter.unusedSimpArgs false
set_option maxRecDepth 100000
set_option maxHeartbeats 4000000
def aFr(e x:Ev):Prop:=e.number≠x.number∧(e.time<x.time∨(e.time=x.time∧e.number<x.number))
structure xJ(e:Ev)(s:KS):Prop where
 time:e.time≤s.clock
 num:e.number<s.next
 evs:∀ x∈s.q,aFr e x
structure QOk(s:KS):Prop where
 sorted:cE s.q
 dist:Distinct s.q
theorem iM(draws:List Int)(E:Nat)(x:Ins)(s:KS):(doI draws E x s).1.clock=s.clock∧s.taken≤(doI draws E x s).1.taken∧(doI draws E x s).1.taken≤s.taken+1∧(doI draws E x s).2.1.length≤1 ∧
  ((doI draws E x s).2.2=0∨(3≤(doI draws E x s).2.2∧(doI draws E x s).2.2≤5))∧((doI draws E x s).2.2=5→draws.length≤s.taken) ∧
  (((doI draws E x s).1.q=s.q∧(doI draws E x s).1.next=s.next)∨(∃ v,(doI draws E x s).1.q=bY v s.q∧(doI draws E x s).1.next=s.next) ∨
   (∃ t k n,s.clock≤t∧(doI draws E x s).1.q=dR ⟨t,s.next,k,n⟩ s.q∧(doI draws E x s).1.next=s.next+1)):=by
 unfold doI;simp only
 by_cases o1:x.op=1
 ·rw[if_pos o1];exact⟨rfl,by simp,by simp,by simp,by simp,by simp,.inl ⟨rfl,rfl⟩⟩
 rw[if_neg o1]
 by_cases o2:x.op=2
 ·rw[if_pos o2];exact⟨rfl,by simp,by simp,by simp,by simp,by simp,.inl ⟨rfl,rfl⟩⟩
 rw[if_neg o2]
 by_cases o3:x.op=3
 ·rw[if_pos o3];exact⟨rfl,by simp,by simp,by simp,by simp,by simp,.inl ⟨rfl,rfl⟩⟩
 rw[if_neg o3]
 by_cases o4:x.op=4
 ·rw[if_pos o4];rcases hd:draws[s.taken]? with _|d
  ·exact⟨rfl,by simp,by simp,by simp,by simp,fun _=>by simpa using hd,.inl ⟨rfl,rfl⟩⟩
  ·exact⟨rfl,by simp,by simp,by simp,by simp,by simp,.inl ⟨rfl,rfl⟩⟩
 rw[if_neg o4]
 by_cases o6:x.op=6
 ·rw[if_pos o6]
  split
  ·exact⟨rfl,by simp,by simp,by simp,by simp,by simp,.inl ⟨rfl,rfl⟩⟩
  ·split
   ·exact⟨rfl,by simp,by simp,by simp,by simp,by simp,.inl ⟨rfl,rfl⟩⟩
   ·exact⟨rfl,by simp,by simp,by simp,by simp,by simp,.inr (.inr ⟨_,_,_,by omega,rfl,rfl⟩)⟩
 rw[if_neg o6]
 by_cases o7:x.op=7
 ·rw[if_pos o7];exact⟨rfl,by simp,by simp,by simp,by simp,by simp,.inr (.inl ⟨_,rfl,rfl⟩)⟩
 rw[if_neg o7];exact⟨rfl,by simp,by simp,by simp,by simp,by simp,.inl ⟨rfl,rfl⟩⟩
theorem lG{draws:List Int}{E:Nat}(M:Ins→Prop)(P:KS→Prop)(hstep:∀ x s,M x→x.op≠5→P s→P (doI draws E x s).1):∀ (n:Nat) (l:List Ins) (s:KS) (told:List Int),l.length≤n→(∀ x∈l,M x)→P s→P (cF draws E l s told).1
 | _,[],s,told,hn,hm,h=>by rw[pA];exact h
 | 0,x::l,s,told,hn,hm,h=>by simp at hn
 | n+1,x::l,s,told,hn,hm,h=>by
  simp only[List.length_cons]at hn;rw[iP]
  by_cases h5:x.op=5
  ·rw[if_pos h5]
   split
   ·exact lG M P hstep n (l.drop x.b.toNat) s told (by simp;omega) (fun y hy=>hm y (List.mem_cons_of_mem _ (List.mem_of_mem_drop hy))) h
   ·exact lG M P hstep n l s told (by omega) (fun y hy=>hm y (List.mem_cons_of_mem _ hy)) h
  ·rw[if_neg h5];have h':=hstep x s (hm x (List.mem_cons_self ..)) h5 h;rcases hd:doI draws E x s with⟨s',t,why⟩;rw[hd]at h';simp only
   split
   ·exact lG M P hstep n l s' _ (by omega) (fun y hy=>hm y (List.mem_cons_of_mem _ hy)) h'
   ·exact h'
theorem kK{draws:List Int}{E:Nat}(M:Ins→Prop)(P:KS→Prop)(hstep:∀ x s,M x→x.op≠5→P s→P (doI draws E x s).1)(l:List Ins)(s:KS)(told:List Int)(hm:∀ x∈l,M x)(h:P s):P (cF draws E l s told).1:=
 lG M P hstep l.length l s told (Nat.le_refl _) hm h
theorem jO{draws:List Int}{E:Nat}:∀ (n:Nat) (l:List Ins) (s:KS) (told:List Int),l.length≤n→(cF draws E l s told).2.1.length≤told.length+l.length∧((cF draws E l s told).2.2=0∨(3≤(cF draws E l s told).2.2∧(cF draws E l s told).2.2≤5))∧((cF draws E l s told).2.2=5→draws.length<s.taken+l.length)
 | _,[],s,told,hn=>by rw[pA];simp
 | 0,x::l,s,told,hn=>by simp at hn
 | n+1,x::l,s,told,hn=>by
  simp only[List.length_cons]at hn;rw[iP]
  by_cases h5:x.op=5
  ·rw[if_pos h5]
   split
   ·obtain⟨h1,h2,h3⟩:=jO (draws:=draws) (E:=E) n (l.drop x.b.toNat) s told (by simp;omega)
    simp only[List.length_drop]at h1 h3;exact⟨by simp;omega,h2,fun h=>by have:=h3 h;simp;omega⟩
   ·obtain⟨h1,h2,h3⟩:=jO (draws:=draws) (E:=E) n l s told (by omega)
    exact⟨by simp;omega,h2,fun h=>by have:=h3 h;simp;omega⟩
  ·rw[if_neg h5];obtain⟨_,_,d3,d4,d5,d6,_⟩:=iM draws E x s;rcases hd:doI draws E x s with⟨s',t,why⟩;rw[hd]at d3 d4 d5 d6;simp only at d3 d4 d5 d6 ⊢
   split
   ·obtain⟨h1,h2,h3⟩:=jO (draws:=draws) (E:=E) n l s' (told++t) (by omega)
    simp only[List.length_append]at h1;exact⟨by simp;omega,h2,fun h=>by have:=h3 h;simp;omega⟩
   ·exact⟨by simp,d5,fun h=>by have:=d6 h;simp;omega⟩
theorem aAs{draws:List Int}{E:Nat}(l:List Ins)(s:KS)(told:List Int):(cF draws E l s told).2.1.length≤told.length+l.length∧((cF draws E l s told).2.2=0∨(3≤(cF draws E l s told).2.2∧(cF draws E l s told).2.2≤5))∧((cF draws E l s told).2.2=5→draws.length<s.taken+l.length):=
 jO l.length l s told (Nat.le_refl _)
theorem zF{draws:List Int}{E:Nat}{x:Ins}{s:KS}{e:Ev}(h:xJ e s):xJ e (doI draws E x s).1:=by
 obtain⟨c,_,_,_,_,_,hq⟩:=iM draws E x s;rcases hq with⟨hq,hn⟩|⟨v,hq,hn⟩|⟨t,k,n,ht,hq,hn⟩
 ·exact⟨by rw[c];exact h.time,by rw[hn];exact h.num,by rw[hq];exact h.evs⟩
 ·exact⟨by rw[c];exact h.time,by rw[hn];exact h.num,fun y hy=>by rw[hq]at hy;exact h.evs y ((iV _ _ _).1 hy).1⟩
 ·refine⟨by rw[c];exact h.time,by rw[hn];have:=h.num;omega,fun y hy=>?_⟩
  rw[hq]at hy;rcases (gT _ _ _).1 hy with rfl|hy
  ·have:=h.time;have:=h.num;refine⟨by simp;omega,?_⟩
   simp;omega
  ·exact h.evs y hy
theorem aFs{draws:List Int}{E:Nat}{x:Ins}{s:KS}(h:QOk s)(hn:∀ y∈s.q,y.number<s.next):QOk (doI draws E x s).1:=by
 obtain⟨c,_,_,_,_,_,hq⟩:=iM draws E x s;rcases hq with⟨hq,_⟩|⟨v,hq,_⟩|⟨t,k,n,ht,hq,_⟩
 ·exact⟨by rw[hq];exact h.sorted,by rw[hq];exact h.dist⟩
 ·exact⟨by rw[hq];exact qD h.sorted,by rw[hq];exact jZ h.dist⟩
 ·have hne:∀ y∈s.q,y.number≠s.next:=fun y hy=>by have:=hn y hy;omega
  exact⟨by rw[hq];exact jL _ _ h.sorted hne,by rw[hq];exact gP _ _ h.dist hne⟩
structure Fit(ents:Int)(ks:List (List Ins))(draws:List Int)(s:KS):Prop where
 ok:KOk ents ks.length draws s
 q:QOk s
def lH(ents:Int)(ks:List (List Ins)):Prop:=∀ l∈ks,l.length≤16∧∀ x∈l,aX ents ks.length x.op x.a x.b x.c=true
def mX(draws:List Int):Prop:=∀ d∈draws,0≤d∧d≤1000000000
section
variable {ents : Int} {ks : List (List Ins)} {draws : List Int} {s s' : KS} {e : Ev} {q : List Ev} {horizon : Int} {r : Rec} {why : Int}
theorem aBh(hc:lH ents ks)(K:Nat):(ks.getD K []).length≤16∧∀ x∈ks.getD K [],aX ents ks.length x.op x.a x.b x.c=true:=by
 rcases h:ks[K]? with _|l
 ·simp[List.getD,h]
 ·have:=hc l (List.mem_of_getElem? h)
  simpa [List.getD,h]using this
theorem qK(h:cE (e::q))(hd:Distinct (e::q)):∀ x∈q,aFr e x:=by
 intro x hx;have h1:=(List.pairwise_cons.1 h).1 x hx;have h2:=(List.pairwise_cons.1 hd).1 x hx;refine⟨h2,?_⟩
 simpa [cM]using h1
theorem jP(hc:lH ents ks)(hd:mX draws)(h:Fit ents ks draws s)(hq:s.q=e::q) :
  Fit ents ks draws (aV ks draws e s).1∧(aV ks draws e s).1.clock=e.time∧xJ e (aV ks draws e s).1∧(∀ p,xJ p s→xJ p (aV ks draws e s).1)∧(aV ks draws e s).2.1.length≤16∧((aV ks draws e s).2.2=0∨(3≤(aV ks draws e s).2.2∧(aV ks draws e s).2.2≤5))∧((aV ks draws e s).2.2=5→draws.length<s.taken+16):=by
 have hD:Distinct (e::q):=hq▸h.q.dist;have hS:cE (e::q):=hq▸h.q.sorted;have hout:bY e.number s.q=q:=by rw[hq];exact vT hD
 have hbef:=qK hS hD;obtain⟨hev1,hev2,hev3,hev4,hev5⟩:=h.ok.evs e (by rw[hq];exact List.mem_cons_self ..)
 obtain⟨hl,hm⟩:=aBh hc e.kind.toNat;obtain⟨k1,k2,k3,k4,k5,k6⟩:=h.ok;unfold aV;rw[hout];have h0:Fit ents ks draws {s with q:=q,clock:=e.time}:=by
  refine⟨⟨k1,⟨by simp;omega,hev2⟩,k3,k4,?_,?_⟩,⟨(List.pairwise_cons.1 hS).2,(List.pairwise_cons.1 hD).2⟩⟩
  ·intro x hx;have:=k5 x (by rw[hq];exact List.mem_cons_of_mem _ hx)
   have:=(hbef x hx).2;simp;omega
  ·rw[hq]at k6;simp at k6 ⊢;omega
 obtain⟨e1,e2,e3⟩:=aAs (draws:=draws) (E:=e.entity.toNat) (ks.getD e.kind.toNat []) {s with q:=q,clock:=e.time} [];refine⟨?_,?_,?_,?_,?_,e2,fun hh=>?_⟩
 ·exact kK (fun x=>aX ents ks.length x.op x.a x.b x.c=true) (fun st=>Fit ents ks draws st)
   (fun x st hx h5 hst=>⟨pC hst.ok hx h5 hd,aFs hst.q (fun y hy=>(hst.ok.evs y hy).2.2.2.1)⟩) _ _ _ hm h0
 ·exact kK (fun _=>True) (fun st=>st.clock=e.time) (fun x st _ _ hst=>by rw[(iM draws _ x st).1];exact hst) _ _ _ (by simp) rfl
 ·exact kK (fun _=>True) (fun st=>xJ e st) (fun x st _ _ hst=>zF hst) _ _ _ (by simp) ⟨Int.le_refl _,hev4,hbef⟩
 ·intro p hp;refine kK (fun _=>True) (fun st=>xJ p st) (fun x st _ _ hst=>zF hst) _ _ _ (by simp) ⟨?_,hp.num,fun x hx=>hp.evs x (by rw[hq];exact List.mem_cons_of_mem _ hx)⟩
  have:=hp.time;simp;omega
 ·simp only[List.length_nil,Nat.zero_add]at e1;omega
 ·have:=e3 hh;simp only at this;omega
theorem tM(hs:eN ks draws horizon s=(s',some r,why)):∃ q,s.q=r.e::q∧r.e.time≤horizon∧why=0∧aV ks draws r.e s=(s',r.told,0):=by
 unfold eN at hs
 split at hs
 ·simp at hs
 ·rename_i e q hq
  split at hs
  ·simp at hs
  ·rename_i hz
   rcases hh:aV ks draws e s with⟨t,told,w⟩;rw[hh]at hs;simp only at hs
   split at hs
   ·rename_i hw
    simp only[Prod.mk.injEq,Option.some.injEq]at hs;obtain⟨rfl,rfl,rfl⟩:=hs;exact⟨q,hq,by simpa using hz,rfl,by simpa [hw]using hh⟩
   ·simp at hs
theorem aAt(hc:lH ents ks)(hd:mX draws)(h:Fit ents ks draws s)(hs:eN ks draws horizon s=(s',none,why)):s'=s∧(1≤why∧why≤5)∧(why=1→s.q=[])∧(why=5→draws.length<s.taken+16):=by
 unfold eN at hs
 split at hs
 ·rename_i hq
  simp at hs;obtain⟨rfl,rfl⟩:=hs;exact⟨rfl,by simp,fun _=>hq,by simp⟩
 ·rename_i e q hq
  split at hs
  ·simp at hs;obtain⟨rfl,rfl⟩:=hs;exact⟨rfl,by simp,by simp,by simp⟩
  ·have hh:=jP hc hd h hq;rcases he:aV ks draws e s with⟨t,told,w⟩;rw[he]at hs hh;simp only at hs hh
   split at hs
   ·simp at hs
   ·rename_i hw
    simp at hs;obtain⟨rfl,rfl⟩:=hs;obtain⟨_,_,_,_,_,h6,h7⟩:=hh;exact⟨rfl,by omega,fun h1=>by omega,h7⟩
end
section
variable {ents : Int} {ks : List (List Ins)} {draws : List Int}
structure aGb(ents:Int)(ks:List (List Ins))(draws:List Int)(horizon:Int)(n:Nat)(s s':KS)(rs:List Rec)(why:Int):Prop where
 fit:Fit ents ks draws s'
 len:rs.length≤n
 ran:why=0↔rs.length=n
 whys:0≤why∧why≤5
 empty:why=1→s'.q=[]
 dry:why=5→draws.length<s'.taken+16
 order:rs.Pairwise (fun a b=>aFr a.e b.e)
 each:∀ r∈rs,s.clock≤r.e.time∧r.e.time≤horizon∧1≤r.e.number∧r.told.length≤16
 past:∀ p,xJ p s→xJ p s'∧∀ r∈rs,aFr p r.e
 clock:s'.clock=(rs.getLast?.map (fun r=>r.e.time)).getD s.clock
theorem zG(hc:lH ents ks)(hd:mX draws)(horizon:Int):∀ (n:Nat) (s:KS),Fit ents ks draws s →
  aGb ents ks draws horizon n s (eB ks draws horizon n s).1 (eB ks draws horizon n s).2.1 (eB ks draws horizon n s).2.2
 | 0,s,h=>by
  simp only[eB];exact⟨h,by simp,by simp,by simp,by simp,by simp,by simp,by simp,fun p hp=>⟨hp,by simp⟩,by simp⟩
 | n+1,s,h=>by
  rcases hs:eN ks draws horizon s with⟨s1,_|r,why⟩
  ·obtain⟨rfl,h2,h3,h4⟩:=aAt hc hd h hs;have hF:eB ks draws horizon (n+1) s1=(s1,[],why):=by simp only[eB,hs]
   rw[hF];exact⟨h,by simp,by simp;omega,by simp;omega,h3,h4,by simp,by simp,fun p hp=>⟨hp,by simp⟩,by simp⟩
  ·obtain⟨q,hq,hz,rfl,hh⟩:=tM hs;obtain⟨f1,f2,f3,f4,f5,f6,f7⟩:=jP hc hd h hq;rw[hh]at f1 f2 f3 f4 f5;simp only at f1 f2 f3 f4 f5;have ih:=zG hc hd horizon n s1 f1;have hev:=h.ok.evs r.e (by rw[hq];exact List.mem_cons_self ..)
   rcases hr:eB ks draws horizon n s1 with⟨s2,rs,w⟩;have hF:eB ks draws horizon (n+1) s=(s2,r::rs,w):=by simp only[eB,hs,hr]
   rw[hF];rw[hr]at ih;obtain⟨i1,i2,i3,i4,i5,i6,i7,i8,i9,i10⟩:=ih;have hp3:=i9 r.e f3;refine⟨i1,by simpa using i2,by simpa using i3,i4,i5,i6,?_,?_,?_,?_⟩
   ·exact List.pairwise_cons.2 ⟨fun x hx=>hp3.2 x hx,i7⟩
   ·intro x hx;rcases List.mem_cons.1 hx with rfl|hx
    ·exact⟨hev.1,hz,hev.2.2.1,f5⟩
    ·have:=i8 x hx;have:=hev.1;exact⟨by omega,by omega,by omega,by omega⟩
   ·intro p hp;refine⟨(i9 p (f4 p hp)).1,fun x hx=>?_⟩;rcases List.mem_cons.1 hx with rfl|hx
    ·exact hp.evs _ (by rw[hq];exact List.mem_cons_self ..)
    ·exact(i9 p (f4 p hp)).2 x hx
   ·simp only at i10 ⊢;rw[i10];rcases rs with _|⟨r2,rs⟩
    ·simp[f2]
    ·rw[List.getLast?_cons_cons];rcases hl:(r2::rs).getLast? with _|z
     ·simp at hl
     ·rfl
end
def nB(ents:Int)(s:KS):Prop:=∀ j:Nat,ents.toNat*4≤j→s.regs j=0
theorem aEr{ents:Int}{nk:Nat}{draws:List Int}{E:Nat}{x:Ins}{s:KS}(h:nB ents s)(hx:aX ents nk x.op x.a x.b x.c=true)(h5:x.op≠5)(hE:E<ents.toNat):nB ents (doI draws E x s).1:=by
 have hput:∀ (i:Nat) (v:Int),i<ents.toNat*4→nB ents {s with regs:=cD s.regs i v}:=by
  intro i v hi j hj;simp only[cD];rw[if_neg (by omega)]
  exact h j hj
 unfold aX at hx;unfold doI;simp only
 by_cases o6:x.op=6
 ·rw[if_neg (by omega),if_neg (by omega),if_neg (by omega),if_neg (by omega),if_pos o6]
  split
  ·exact hput _ _ (by omega)
  ·split
   ·exact hput _ _ (by omega)
   ·exact hput _ _ (by omega)
 ·rw[if_neg o6]at hx
  by_cases hc:x.c≠0
  ·rw[if_pos hc]at hx;cases hx
  rw[if_neg hc]at hx
  by_cases o1:x.op=1
  ·rw[if_pos o1]at hx ⊢;simp[inB]at hx;exact hput _ _ (by omega)
  rw[if_neg o1]at hx ⊢
  by_cases o2:x.op=2
  ·rw[if_pos (.inl o2)]at hx;rw[if_pos o2];simp[inB]at hx;exact hput _ _ (by omega)
  rw[if_neg o2]
  by_cases o3:x.op=3
  ·rw[if_pos (.inr o3)]at hx;rw[if_pos o3];simp[inB]at hx;exact hput _ _ (by omega)
  rw[if_neg o3];rw[if_neg (by omega)]at hx
  by_cases o4:x.op=4
  ·rw[if_pos o4]at hx ⊢;simp[inB]at hx;rcases draws[s.taken]? with _|d
   ·exact hput _ _ (by omega)
   ·exact hput _ _ (by omega)
  rw[if_neg o4,if_neg o6]
  split
  ·exact h
  ·exact h
theorem wD{ents:Int}{ks:List (List Ins)}{draws:List Int}(hc:lH ents ks)(hd:mX draws)(horizon:Int):∀ (n:Nat) (s:KS),Fit ents ks draws s→nB ents s→nB ents (eB ks draws horizon n s).1
 | 0,s,_,h=>h
 | n+1,s,hf,h=>by
  rcases hs:eN ks draws horizon s with⟨s1,_|r,why⟩
  ·simp only[eB,hs];exact h
  ·obtain⟨q,hq,hz,rfl,hh⟩:=tM hs;obtain⟨f1,_⟩:=jP hc hd hf hq;have hev:=hf.ok.evs r.e (by rw[hq];exact List.mem_cons_self ..)
   have h1:nB ents (aV ks draws r.e s).1:=by
    unfold aV;refine kK (fun x=>aX ents ks.length x.op x.a x.b x.c=true) (fun st=>nB ents st) (fun x st hx h5 hst=>aEr hst hx h5 (by omega)) _ _ _ (aBh hc r.e.kind.toNat).2 ?_
    exact h
   rw[hh]at f1 h1;rcases hr:eB ks draws horizon n s1 with⟨s2,rs,y⟩;have:=wD hc hd horizon n s1 f1 h1;rw[hr]at this;simp only[eB,hs,hr];exact this
structure Pair where
 kb:Nat
 qb:Nat
 mb:Nat
 rb:Nat
 kbs:Nat
 ov:Value
 ents:Int
 ks:List (List Ins)
 draws:List Int
 s:KS
 kR:Nat→Prop
 rR:Nat→Prop
def Pair.has(p:Pair)(b:Nat):Prop:=bG p.kb p.qb p.mb p.ov b∨b=p.rb
def Pair.own(p:Pair)(b:Nat):Prop:=p.has b∨p.kR b∨p.rR b
def cY(ents:Int)(s:KS):List Int:=(List.range (ents*4).toNat).map s.regs
structure PairOK(w:World)(p:Pair):Prop where
 ker:KerP p.kR p.kbs w p.kb p.qb p.mb p.ov p.ents p.ks p.draws p.s
 ref:RefK p.rR w p.rb p.ents p.ks p.draws p.s.taken p.s.clock p.s.next (cY p.ents p.s) p.s.q
 fit:Fit p.ents p.ks p.draws p.s
 regz:nB p.ents p.s
 kind:bE p.ents p.ks=none
 draw:cO p.draws=true
 kbs:p.kbs≤w.heap.size
 rlt:p.rb<w.heap.size
 sepr:∀ b,p.rR b→b<w.heap.size∧b≠p.rb∧¬bG p.kb p.qb p.mb p.ov b
 sepk:∀ b,p.kR b→b≠p.rb
 sep:¬bG p.kb p.qb p.mb p.ov p.rb
theorem PairOK.lt{w:World}{p:Pair}(h:PairOK w p):∀ b,p.own b→b<w.heap.size:=by
 rintro b ((hb|rfl)|hb|hb)
 ·exact h.ker.lt b hb
 ·exact h.rlt
 ·exact h.ker.rlt b hb
 ·exact(h.sepr b hb).1
theorem PairOK.only{S:Nat→Prop}{w w':World}{p:Pair}(h:PairOK w p)(ho:Only S w w')(hS:∀ b,p.own b→¬S b):PairOK w' p:=by
 have hz:=ho.size;exact⟨h.ker.only ho (fun b hb=>hS b (.inl (.inl hb))) (fun b hb=>hS b (.inr (.inl hb))),h.ref.only ho (fun b hb=>hS b (.inr (.inr hb))) (hS _ (.inl (.inr rfl))),h.fit,h.regz,h.kind,h.draw,Nat.le_trans h.kbs hz,Nat.lt_of_lt_of_le h.rlt hz,fun b hb=>⟨Nat.lt_of_lt_of_le (h.sepr b hb).1 hz,(h.sepr b hb).2⟩,h.sepk,h.sep⟩
structure BookD where
 bv:Value
 iv:Value
 rv:Value
 bs:Nat→Prop
 ok:World→Prop
def BookD.stable(bk:BookD):Prop:=∀ (w w':World) (S:Nat→Prop),bk.ok w→Only S w w'→(∀ b,bk.bs b→¬S b)→bk.ok w'
def cC(p:Pair):List Value:=[.pointer (some ⟨p.kb,0,none⟩),.pointer (some ⟨p.rb,0,none⟩)]
def cG(ps:List Pair):List Value:=ps.flatMap cC
theorem kV:∀ (ps:List Pair) (i:Nat) (p:Pair),ps[i]?=some p→(cG ps)[i*2]?=some (.pointer (some ⟨p.kb,0,none⟩))∧(cG ps)[i*2+1]?=some (.pointer (some ⟨p.rb,0,none⟩))
 | [],i,p,h=>by simp at h
 | x::ps,0,p,h=>by simp at h;subst h;simp[cG,cC]
 | x::ps,i+1,p,h=>by
  have ih:=kV ps i p (by simpa using h)
  have e:(i+1)*2=i*2+1+1:=by omega
  rw[e]
  simpa [cG,cC]using ih
structure Inv(base:Nat)(w:World)(wb:Nat)(lv:Value)(ps:List Pair)(bk:BookD):Prop where
 cell:w.cell? ⟨wb,0,none⟩=some lv
 book:w.cell? ⟨wb,1,none⟩=some bk.bv∧w.cell? ⟨wb,2,none⟩=some bk.iv∧w.cell? ⟨wb,3,none⟩=some bk.rv
 room:Room w wb 4
 owns:w.ownsRow base 52 2 lv ps.length (cG ps)
 lne:lv.ownBlock≠some wb
 blo:base≤wb
 pairs:∀ p∈ps,PairOK w p
 muts:∀ p∈ps,∀ b,p.own b→base≤b∧b≠wb∧some b≠lv.ownBlock∧¬bk.bs b
 apart:∀ (i j:Nat) p p' b,ps[i]?=some p→ps[j]?=some p'→p.own b→p'.own b→i=j
 bks:∀ b,bk.bs b→base≤b∧b<w.heap.size∧b≠wb∧some b≠lv.ownBlock
 bok:bk.ok w
 bst:bk.stable
section
variable {base : Nat} {w w' : World} {wb : Nat} {lv : Value} {ps : List Pair} {bk : BookD}
theorem Inv.wlt(h:Inv base w wb lv ps bk):wb<w.heap.size:=aC h.cell
theorem Inv.lo(h:Inv base w wb lv ps bk):base≤w.heap.size:=Nat.le_trans h.blo (Nat.le_of_lt h.wlt)
def Inv.Set(wb:Nat)(lv:Value)(ps:List Pair)(bk:BookD)(b:Nat):Prop:=b=wb∨some b=lv.ownBlock∨(∃ p∈ps,p.own b)∨bk.bs b
theorem Inv.only{S:Nat→Prop}(h:Inv base w wb lv ps bk)(ho:Only S w w')(hS:∀ b,Inv.Set wb lv ps bk b→¬S b):Inv base w' wb lv ps bk:=by
 have hz:=ho.size;have hw:=hS wb (.inl rfl);refine⟨ho.at h.cell hw,⟨ho.at h.book.1 hw,ho.at h.book.2.1 hw,ho.at h.book.2.2 hw⟩,h.room.only ho hw,?_,h.lne,h.blo,fun p hp=>(h.pairs p hp).only ho (fun b hb=>hS b (.inr (.inr (.inl ⟨p,hp,hb⟩)))),h.muts,h.apart,?_,?_,h.bst⟩
 ·obtain⟨h1,h2⟩:=h.owns;refine⟨h1,?_⟩;rcases h2 with h2|⟨g,cap,cur,hv,hg',hh,r⟩
  ·exact .inl h2
  ·refine .inr ⟨g,cap,cur,hv,hg',?_,r⟩;rw[ho.block g (Array.getElem?_eq_some_iff.1 hh).1 (hS g (.inr (.inl (by rw[hv];rfl))))];exact hh
 ·intro b hb;have:=h.bks b hb;exact⟨this.1,by omega,this.2.2⟩
 ·exact h.bst w w' S h.bok ho (fun b hb=>hS b (.inr (.inr (.inr hb))))
theorem Inv.below(h:Inv base w wb lv ps bk)(hb:Below w.heap.size w w'):Inv base w' wb lv ps bk:=h.only (Only.new (S:=fun _=>False) hb) (by simp)
theorem Inv.update{i:Nat}{p p':Pair}(h:Inv base w wb lv ps bk)(hi:ps[i]?=some p)(ho:Only p.has w w')(hk:p'.kb=p.kb)(hr:p'.rb=p.rb)(hp:PairOK w' p')(hown:∀ b,p'.own b→p.own b∨w.heap.size≤b):Inv base w' wb lv (ps.set i p') bk:=by
 have hz:=ho.size;have hw:=h.wlt;have hilt:i<ps.length:=(List.getElem?_eq_some_iff.1 hi).1;have hpm:p∈ps:=List.mem_of_getElem? hi;have hm:=h.muts p hpm;have hwn:¬p.has wb:=fun hb=>(hm wb (.inl hb)).2.1 rfl;have hbl:=h.lo;have hlt:∀ x∈ps,∀ b,x.own b→b<w.heap.size:=fun x hx b hb=>(h.pairs x hx).lt b hb;have hmem:∀ x,x∈ps.set i p'→(∃ j,j≠i∧ps[j]?=some x)∨x=p':=by
  intro x hx;obtain⟨j,hj,hjx⟩:=List.getElem_of_mem hx
  by_cases hji:j=i
  ·subst hji;simp at hjx;exact .inr hjx.symm
  ·refine .inl ⟨j,hji,?_⟩;rw[List.getElem_set_ne (Ne.symm hji)]at hjx;rw[←hjx];simp
 have hrow:cG (ps.set i p')=cG ps:=by
  unfold cG;rw[List.flatMap_def,List.flatMap_def,List.map_set];congr 1
  apply List.ext_getElem?
  intro j
  by_cases hji:j=i
  ·subst hji;rw[List.getElem?_set_self (by simpa using hilt),List.getElem?_map,hi]
   simp[cC,hk,hr]
  ·rw[List.getElem?_set_ne (Ne.symm hji)]
 refine⟨ho.at h.cell hwn,⟨ho.at h.book.1 hwn,ho.at h.book.2.1 hwn,ho.at h.book.2.2 hwn⟩,h.room.only ho hwn,?_,h.lne,h.blo,?_,?_,?_,?_,?_,h.bst⟩
 ·rw[hrow,List.length_set];obtain⟨h1,h2⟩:=h.owns;refine⟨h1,?_⟩;rcases h2 with h2|⟨g,cap,cur,hv,hg',hh,r⟩
  ·exact .inl h2
  ·refine .inr ⟨g,cap,cur,hv,hg',?_,r⟩;rw[ho.block g (Array.getElem?_eq_some_iff.1 hh).1 (fun hb=>(hm g (.inl hb)).2.2.1 (by rw[hv];rfl))];exact hh
 ·intro x hx;rcases hmem x hx with⟨j,hji,hj⟩|rfl
  ·exact(h.pairs x (List.mem_of_getElem? hj)).only ho (fun b hb hc=>hji (h.apart j i x p b hj hi hb (.inl hc)))
  ·exact hp
 ·intro x hx b hb;rcases hmem x hx with⟨j,hji,hj⟩|rfl
  ·exact h.muts x (List.mem_of_getElem? hj) b hb
  ·rcases hown b hb with hb|hb
   ·exact hm b hb
   ·refine⟨by omega,by omega,fun e=>?_,fun e=>?_⟩
    ·have:=(h.owns.lt b e.symm).2;omega
    ·have:=(h.bks b e).2.1;omega
 ·intro i' j' x y b hi' hj' hx hy;have look:∀ (a:Nat) s,(ps.set i p')[a]?=some s→s.own b→(∃ s',ps[a]?=some s'∧s'.own b)∨(a=i∧w.heap.size≤b):=by
   intro a s hs hb
   by_cases hai:a=i
   ·subst hai;rw[List.getElem?_set_self hilt]at hs;cases hs;rcases hown b hb with hb|hb
    ·exact .inl ⟨p,hi,hb⟩
    ·exact .inr ⟨rfl,hb⟩
   ·rw[List.getElem?_set_ne (Ne.symm hai)]at hs;exact .inl ⟨s,hs,hb⟩
  rcases look i' x hi' hx with⟨x',hx1,hx2⟩|⟨hx1,hx2⟩<;>rcases look j' y hj' hy with⟨y',hy1,hy2⟩|⟨hy1,hy2⟩
  ·exact h.apart i' j' x' y' b hx1 hy1 hx2 hy2
  ·have:=hlt x' (List.mem_of_getElem? hx1) b hx2;omega
  ·have:=hlt y' (List.mem_of_getElem? hy1) b hy2;omega
  ·omega
 ·intro b hb;have:=h.bks b hb;exact⟨this.1,by omega,this.2.2⟩
 ·exact h.bst w w' p.has h.bok ho (fun b hb hc=>(hm b (.inl hc)).2.2.2 hb)
theorem Inv.one{w0 w2:World}{lv2:Value}{p:Pair}(h:Inv base w0 wb lv ps bk)(hb:Below w0.heap.size w0 w)(hp:PairOK w p)(hm:∀ b,p.own b→w0.heap.size≤b)
  (W:World) (hW:Below w.heap.size w W) (hg:W.grownBy w2 lv.ownBlock) (hown:w2.ownsRow base 52 2 lv2 (ps.length+1) (cG ps++cC p)) (hwh:lv2.ownBlock=lv.ownBlock∨lv2.ownBlock=some W.heap.size) :
  Inv base (w2.setCell ⟨wb,0,none⟩ lv2) wb lv2 (ps++[p]) bk:=by
 have hz0:=hb.size;have hz1:=hW.size;have hz2:=hg.size;have hwb:=h.wlt;have hblo:=h.blo;have hlt:∀ b,lv.ownBlock=some b→b<w0.heap.size:=fun b hb=>(h.owns.lt b hb).2;have ho:Only (fun b=>some b=lv.ownBlock) w w2:=(Only.new hW).trans ⟨hg.os,hg.tape,hg.output,hg.size,fun k hk hn=>hg.block k hk hn⟩;have ho0:Only (fun b=>some b=lv.ownBlock) w0 w2:=(Only.new hb).trans ho;have hs:Only (·=wb) w2 (w2.setCell ⟨wb,0,none⟩ lv2):=Only.setCell (S:=(·=wb)) (Only.refl _ _) rfl _
 have hsz:(w2.setCell ⟨wb,0,none⟩ lv2).heap.size=w2.heap.size:=by simp[World.setCell]
 have hwl:¬some wb=lv.ownBlock:=fun e=>h.lne e.symm;have hw2:∀ b,b<w0.heap.size→some b≠lv.ownBlock→some b≠lv2.ownBlock:=by
  intro b hb1 hb2;rcases hwh with e|e<;>rw[e]
  ·exact hb2
  ·intro e';have:=Option.some.inj e';omega
 have hnew:∀ b,w0.heap.size≤b→b<w.heap.size→some b≠lv2.ownBlock:=by
  intro b hb1 hb2;rcases hwh with e|e<;>rw[e]
  ·intro e';have:=hlt b e'.symm;omega
  ·intro e';have:=Option.some.inj e';omega
 have hcell:∀ i v,i≠0→w0.cell? ⟨wb,i,none⟩=some v→(w2.setCell ⟨wb,0,none⟩ lv2).cell? ⟨wb,i,none⟩=some v:=by
  intro i v hi hv;rw[World.cell?_setCell_other _ _ _ _ (by simp;try omega)];exact ho0.at hv hwl
 have hroom:Room w2 wb 4:=h.room.only ho0 hwl;refine⟨World.cell?_setCell_same' _ _ _ (hroom 0 (by omega)).1,⟨hcell 1 _ (by omega) h.book.1,hcell 2 _ (by omega) h.book.2.1,hcell 3 _ (by omega) h.book.2.2⟩,hroom.setCell _ _,?_,fun e=>hw2 wb hwb hwl e.symm,h.blo,?_,?_,?_,?_,?_,h.bst⟩
 ·rw[List.length_append,show cG (ps++[p])=cG ps++cC p by simp[cG]]
  obtain⟨h1,h2⟩:=hown;refine⟨h1,?_⟩;rcases h2 with h2|⟨g,cap,cur,hv,hg',hh,r⟩
  ·exact .inl h2
  ·refine .inr ⟨g,cap,cur,hv,hg',?_,r⟩;rw[Below.heap_setCell _ _ _ _ ?_];exact hh;have:=hw2 wb hwb hwl;rw[hv]at this;simp[Value.ownBlock]at this;exact Ne.symm this
 ·intro x hx;rcases List.mem_append.1 hx with h1|h1
  ·exact((h.pairs x h1).only ho0 (fun b hb=>(h.muts x h1 b hb).2.2.1)).only hs (fun b hb=>(h.muts x h1 b hb).2.1)
  ·simp at h1;subst h1;refine(hp.only ho (fun b hb e=>?_)).only hs (fun b hb=>?_)
   ·have:=hlt b e.symm;have:=hm b hb;omega
   ·show ¬b=wb;have:=hm b hb;omega
 ·intro x hx b hb;rcases List.mem_append.1 hx with h1|h1
  ·have:=h.muts x h1 b hb;exact⟨this.1,this.2.1,hw2 b ((h.pairs x h1).lt b hb) this.2.2.1,this.2.2.2⟩
  ·simp at h1;subst h1;have h3:=hm b hb;have h4:=hp.lt b hb;exact⟨by omega,by omega,hnew b h3 h4,fun e=>by have:=(h.bks b e).2.1;omega⟩
 ·intro i j x y b hi hj hx hy;have look:∀ (i:Nat) s,(ps++[p])[i]?=some s→(i<ps.length∧ps[i]?=some s)∨(i=ps.length∧s=p):=by
   intro i s hs
   by_cases hi:i<ps.length
   ·rw[List.getElem?_append_left hi]at hs;exact .inl ⟨hi,hs⟩
   ·rw[List.getElem?_append_right (by omega)]at hs
    have:i-ps.length=0:=by
     have:=(List.getElem?_eq_some_iff.1 hs).1;simp at this;omega
    rw[this]at hs;simp at hs;exact .inr ⟨by omega,hs.symm⟩
  rcases look i x hi with⟨i1,i2⟩|⟨i1,rfl⟩<;>rcases look j y hj with⟨j1,j2⟩|⟨j1,rfl⟩
  ·exact h.apart i j x y b i2 j2 hx hy
  ·have:=(h.pairs x (List.mem_of_getElem? i2)).lt b hx;have:=hm b hy;omega
  ·have:=(h.pairs y (List.mem_of_getElem? j2)).lt b hy;have:=hm b hx;omega
  ·omega
 ·intro b hb;rw[hsz];have:=h.bks b hb;exact⟨this.1,by omega,this.2.2.1,hw2 b this.2.1 this.2.2.2⟩
 ·refine h.bst _ _ (·=wb) (h.bst _ _ _ h.bok ho0 (fun b hb=>(h.bks b hb).2.2.2)) hs (fun b hb=>(h.bks b hb).2.2.1)
end
theorem Tryz.info52:(Tryz.prog.info? 52).map (fun i=>(i.zero,i.size,i.bytes))=some (some (.agg #[.pointer none,.pointer none]),2,16):=by kernel_rfl
section
variable {ents : Int} {ks : List (List Ins)} {draws : List Int} {s : KS}
theorem fit0(ents:Int)(ks:List (List Ins))(draws:List Int):Fit ents ks draws ks0:=
 ⟨⟨by simp[ks0],by simp[ks0],by simp[ks0],by simp[ks0],by simp[ks0],by simp[ks0]⟩,⟨by simp[ks0,cE],by simp[ks0,Distinct]⟩⟩
def vR(s:KS)(t k e:Int):KS:={s with q:=dR ⟨t,s.next,k,e⟩ s.q,next:=s.next+1}
theorem aEb{t k e:Int}(h:Fit ents ks draws s)(ha:aA2 ents ks.length s t k e=true)(hr:s.q.length<16∧s.next<1000000000):Fit ents ks draws (vR s t k e):=by
 obtain⟨⟨k1,k2,k3,k4,k5,k6⟩,q1,q2⟩:=h;have hne:∀ y∈s.q,y.number≠s.next:=fun y hy=>by have:=(k5 y hy).2.2.2.1;omega
 simp only[aA2,inB,Bool.and_eq_true,decide_eq_true_eq]at ha;refine⟨⟨k1,k2,by simp[vR];omega,k4,?_,by simp[vR,cX];omega⟩,⟨jL _ _ q1 hne,gP _ _ q2 hne⟩⟩
 intro x hx;rcases (gT _ _ _).1 hx with rfl|hx
 ·simp[vR];omega
 ·have:=k5 x hx;simp[vR];omega
end
def oF(ents:Int)(s:KS)(ent r:Int):Int×Int:=if inB ent 0 (ents-1)&&inB r 0 3 then (s.regs (ent.toNat*4+r.toNat),0)else (0,1)
theorem aDo{R:Nat→Prop}{base:Nat}(kb qb mb:Nat)(ov:Value)(ents:Int)(ks:List (List Ins))(draws:List Int)(s:KS)(ent r:Int)(w:World)(h:KerP R base w kb qb mb ov ents ks draws s)(he:1≤ents)(he':ents≤8) :
  Calls Tryz.prog 50 #[.pointer (some ⟨kb,0,none⟩),.int .i64 ent,.int .i64 r] w fun e w'=>e=.returned (.tuple #[.int .i64 (oF ents s ent r).1,.int .i64 (oF ents s ent r).2])∧Below w.heap.size w w':=by
 obtain⟨kv,h1,h6⟩:=h.kinds;obtain⟨ka,kc,rfl⟩:=h6.form;have h0:=h.c0;have hr:=h.regs;have hbk:=aC h0;clear h h6;rcases h1':inB ent 0 (ents-1)with _|_
 ·have HE:Hid (oF ents s ent r=(0,1)):=by show _=_;simp[oF,h1']
  clear hr
  go_enter Tryz.func50,Tryz.ntmps50
  go_wp2_with (go_at_call 84;refine(eH _ _ _ _ _ _ he he').mono ?_;rintro e w2 ⟨rfl,hb2⟩;rw[h1'])
  go_ret2;exact⟨by rw[HE.out];simp,hb2⟩
 ·rcases h2':inB r 0 3 with _|_
  ·have HE:Hid (oF ents s ent r=(0,1)):=by show _=_;simp[oF,h1',h2']
   clear hr
   go_enter Tryz.func50,Tryz.ntmps50
   go_wp2_with (first|(go_at_call 84;refine(eH _ _ _ _ _ _ he he').mono ?_;rintro e w2 ⟨rfl,hb2⟩;rw[h1'])|(go_at_call 94;refine(gA _ _).mono ?_;rintro e w3 ⟨rfl,rfl⟩;rw[h2']))
   go_ret2;exact⟨by rw[HE.out];simp,hb2⟩
  ·have b1:0≤ent∧ent≤ents-1:=by simpa [inB]using h1'
   have b2:0≤r∧r≤3:=by simpa [inB]using h2'
   obtain⟨b11,b12⟩:=b1;obtain⟨b21,b22⟩:=b2;obtain⟨en,rfl⟩:=Int.eq_ofNat_of_zero_le b11;obtain⟨rn,rfl⟩:=Int.eq_ofNat_of_zero_le b21;have hcell:=hr (en*4+rn) (by omega)
   have HE:Hid (oF ents s en rn=(s.regs (en*4+rn),0)):=by show _=_;simp[oF,h1',h2']
   rw[←Nat.add_assoc]at hcell;clear hr;generalize s.regs (en*4+rn)=v at hcell HE
   go_enter Tryz.func50,Tryz.ntmps50
   go_wp2_with (first|(go_at_call 84;refine(eH _ _ _ _ _ _ he he').mono ?_;rintro e w2 ⟨rfl,hb2⟩;rw[h1'];have gcell:=aA hb2 hcell hbk)|(go_at_call 94;refine(gA _ _).mono ?_;rintro e w3 ⟨rfl,rfl⟩;rw[h2']))
   go_ret2;exact⟨by rw[HE.out];simp,hb2⟩
end Go.Proofs.YtndlmgocldckfaaGreat
