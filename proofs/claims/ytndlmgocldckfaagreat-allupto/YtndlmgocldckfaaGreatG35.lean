import Derived.Test.YtndlmgocldckfaaGreatG32
import Derived.Test.YtndlmgocldckfaaGreatG34
import Derived.Test.YtndlmgocldckfaaGreatG31
import Derived.Test.YtndlmgocldckfaaGreatG28
import Derived.Test.YtndlmgocldckfaaGreatG03
import Derived.Deep.LoopGhost
namespace Go.Proofs.YtndlmgocldckfaaGreat
open Go.RowKit
set_option linter.unusedVariables false
set_option linter.unusedSimpArgs false
set_option maxRecDepth 100000
set_option maxHeartbeats 4000000
theorem wI(rest:List Int):∀ (k:Nat) (m n p:Int) (f:Nat),0≤m→m<128 ^ (k+1)→k+1≤f→gW f n p (eK k m++rest)=(n+m*p,rest,true)
 | 0,m,n,p,f,h0,h1,hf=>by
  obtain⟨f',rfl⟩:∃ f',f=f'+1:=⟨f-1,by omega⟩
  simp only[Nat.zero_add,Int.pow_succ,Int.pow_zero,Int.one_mul]at h1;simp only[eK,List.cons_append,List.nil_append,gW];rw[if_pos (by omega),show m % 128=m by omega]
 | k+1,m,n,p,f,h0,h1,hf=>by
  obtain⟨f',rfl⟩:∃ f',f=f'+1:=⟨f-1,by omega⟩
  by_cases hm:127<m
  ·rw[eK,if_pos hm,List.cons_append,gW,if_neg (by omega)]
   rw[Int.pow_succ]at h1;rw[wI rest k (m / 128) _ _ f' (by omega) (by omega) (by omega),show(m % 128+128) % 128=m % 128 by omega]
   have hx:n+m % 128*p+m / 128*(p*128)=n+m*p:=by
    have h2:m=m / 128*128+m % 128:=by omega
    have h3:m*p=(m / 128*128+m % 128)*p:=by rw[←h2]
    rw[h3,Int.add_mul,Int.mul_assoc,Int.mul_comm 128 p];omega
   rw[hx]
  ·rw[eK,if_neg hm];simp only[List.cons_append,List.nil_append,gW];rw[if_pos (by omega),show m % 128=m by omega]
theorem aEy{v:Int}(h:0≤v∧v<562949953421312):aJ v=eK 6 v:=by
 unfold aJ;rw[kI 8 v h.1 (by simp;omega),kI 7 v h.1 (by simp;omega),kI 6 v h.1 (by simp;omega)]
theorem bW{lo hi v:Int}(h:lo≤v∧v≤hi)(hv:0≤v∧v<562949953421312)(rest:List Int):aW lo hi (aJ v++rest) false=(v,rest,false):=by
 unfold aW;rw[aEy hv,wI rest 6 v 0 1 7 hv.1 (by simpa using hv.2) (by omega)]
 have:inB v lo hi=true:=by simp[inB];omega
 simp[this]
theorem wJ{n:Int}(h:-1000000000≤n∧n≤1000000000)(rest:List Int):fM (cJ n++rest) false=(n,rest,false):=by
 have hs:0≤jE n∧jE n≤2000000000:=by unfold jE;split<;>omega
 unfold fM cJ;rw[bW hs (by omega)]
 have:lO (jE n)=n:=by
  unfold lO jE
  by_cases h0:n<0
  ·rw[if_pos h0,if_pos (by omega)];omega
  ·rw[if_neg h0,if_neg (by omega)];omega
 rw[this]
theorem aDc{l:List Int}{bad:Bool}(hb:∀ c∈l,0≤c∧c<256)(h:(fM l bad).2.2=false):bad=false∧-1000000000≤(fM l bad).1∧(fM l bad).1≤1000000000:=by
 have:=bJ h;refine⟨this.1,?_⟩;unfold fM lO;simp only;have h1:=this.2
 split<;>omega
def dM:Nat→Nat→(Nat→Int)→List Int→Bool→(Nat→Int)×List Int×Bool
 | 0,_,f,l,bad=>(f,l,bad)
 | n+1,j,f,l,bad=>if bad then (f,l,bad)else dM n (j+1) (cD f j (fM l bad).1) (fM l bad).2.1 (fM l bad).2.2
theorem mZ(n j:Nat)(f:Nat→Int)(l:List Int):dM n j f l true=(f,l,true):=by
 cases n<;>simp[dM]
theorem tU:∀ (n j:Nat) (f:Nat→Int) (l:List Int) (bad:Bool),(∀ c∈l,0≤c∧c<256)→(dM n j f l bad).2.2=false→(∀ k,-1000000000≤f k∧f k≤1000000000)→bad=false∧(∀ k,-1000000000≤(dM n j f l bad).1 k∧(dM n j f l bad).1 k≤1000000000)∧(∀ k,j+n≤k→(dM n j f l bad).1 k=f k)∧∀ c∈(dM n j f l bad).2.1,0≤c∧c<256
 | 0,j,f,l,bad,hb,h,hf=>⟨h,hf,fun k _=>rfl,hb⟩
 | n+1,j,f,l,bad,hb,h,hf=>by
  cases bad with
  | true=>rw[mZ]at h;cases h
  | false=>
   rw[dM,if_neg (by simp)]at h ⊢
   have hb':∀ c∈(fM l false).2.1,0≤c∧c<256:=bC hb;cases hx:(fM l false).2.2 with
   | true=>rw[hx,mZ]at h;cases h
   | false=>
    have hg:=aDc hb hx;have hp:∀ k,-1000000000≤cD f j (fM l false).1 k∧cD f j (fM l false).1 k≤1000000000:=by
     intro k;unfold cD
     split
     ·exact hg.2
     ·exact hf k
    rw[hx]at h;have ih:=tU n (j+1) (cD f j (fM l false).1) _ false hb' h hp;refine⟨rfl,ih.2.1,fun k hk=>?_,ih.2.2.2⟩;rw[ih.2.2.1 k (by omega)]
    unfold cD;rw[if_neg (by omega)]
theorem tV(g:Nat→Int)(hg:∀ j,-1000000000≤g j∧g j≤1000000000)(rest:List Int):∀ (n:Nat) (f:Nat→Int) (j:Nat),dM n j f ((List.range' j n).flatMap (fun k=>cJ (g k))++rest) false=(fun k=>if j≤k∧k<j+n then g k else f k,rest,false)
 | 0,f,j=>by
  simp[dM]
  funext k
  rw[if_neg (by omega)]
 | n+1,f,j=>by
  rw[List.range'_succ,List.flatMap_cons,List.append_assoc,dM,if_neg (by simp),wJ (hg j)]
  simp only;rw[tV g hg rest n _ (j+1)];refine Prod.ext ?_ rfl
  funext k
  simp only[cD]
  by_cases hk:k=j
  ·subst hk;rw[if_neg (by omega),if_pos rfl,if_pos (by omega)]
  ·by_cases hr:j+1≤k∧k<j+1+n
   ·rw[if_pos hr,if_pos (by omega)]
   ·rw[if_neg hr,if_neg hk,if_neg (by omega)]
structure aFw(ents:Int)(nk:Nat)(next clock t:Int)(q:List Ev):Prop where
 sorted:cE q
 dist:Distinct q
 evs:∀ e∈q,clock≤e.time∧e.time≤1000000000000∧1≤e.number∧e.number<next∧0≤e.kind∧e.kind<nk∧0≤e.entity∧e.entity<ents
 le:∀ e∈q,e.time<t∨(e.time=t∧e.number≤mN q)
 t:clock≤t
theorem tW(q:List Ev)(e:Ev):mN (q++[e])=e.number:=by simp[mN]
theorem aDd{q:List Ev}(h:0<q.length):∃ e∈q,e.number=mN q:=by
 have hn:q≠[]:=by intro hc;rw[hc]at h;simp at h
 refine⟨q.getLast hn,List.getLast_mem hn,?_⟩;unfold mN;rw[List.getLast?_eq_some_getLast hn]
 rfl
theorem aBj(ents:Int)(nk:Nat)(next:Int)(n:Nat)(t:Int)(q:List Ev)(l:List Int):quL ents nk next n t q l true=(q,l,true):=by
 cases n<;>simp[quL]
theorem aEz{ents:Int}{nk:Nat}{next t:Int}{l:List Int}{bad:Bool}(h:(evL ents nk next t l bad).2.2=false):bad=false∧t≤(evL ents nk next t l bad).1.time∧(1≤(evL ents nk next t l bad).1.number∧(evL ents nk next t l bad).1.number≤next-1)∧(0≤(evL ents nk next t l bad).1.kind∧(evL ents nk next t l bad).1.kind≤nk-1)∧(0≤(evL ents nk next t l bad).1.entity∧(evL ents nk next t l bad).1.entity≤ents-1):=by
 unfold evL at h ⊢;simp only at h ⊢;have h4:=bJ h;have h3:=bJ h4.1;have h2:=bJ h3.1;have h1:=bJ h2.1;exact⟨h1.1,by have:=h1.2.1;omega,h2.2,h3.2,h4.2⟩
theorem zN(ents:Int)(nk:Nat)(next clock:Int):∀ (n:Nat) (t:Int) (q:List Ev) (l:List Int) (bad:Bool),(quL ents nk next n t q l bad).2.2=false→aFw ents nk next clock t q→bad=false∧(∃ t',aFw ents nk next clock t' (quL ents nk next n t q l bad).1)∧(quL ents nk next n t q l bad).1.length=q.length+n
 | 0,t,q,l,bad,h,hq=>⟨h,⟨t,hq⟩,rfl⟩
 | n+1,t,q,l,bad,h,hq=>by
  cases bad with
  | true=>rw[aBj]at h;cases h
  | false=>
   rw[quL,if_neg (by simp)]at h ⊢
   generalize he:evL ents nk next t l false=r at h ⊢
   obtain⟨e,l1,f1⟩:=r;simp only at h ⊢;cases hx:((f1||kJ e.number q)||cZ t q e)with
   | true=>rw[hx,aBj]at h;cases h
   | false=>
    rw[hx]at h;simp only[Bool.or_eq_false_iff]at hx;obtain⟨⟨hf1,hhas⟩,hwr⟩:=hx;have hg:=aEz (ents:=ents) (nk:=nk) (next:=next) (t:=t) (l:=l) (bad:=false) (by rw[he];exact hf1)
    rw[he]at hg;simp only at hg;obtain⟨_,g1,g2,g3,g4⟩:=hg;have hnd:=lF hhas;unfold cZ at hwr;simp only[Bool.or_eq_false_iff,decide_eq_false_iff_not,Bool.and_eq_false_iff]at hwr;have hlast:0<q.length→e.time=t→mN q<e.number:=by
     intro h0 h1;obtain⟨z,hz1,hz2⟩:=aDd h0;have:=hnd z hz1;rcases hwr.2 with hc|hc|hc<;>omega
    have hahead:∀ x∈q,cM x e=true:=by
     intro x hx;have h0:0<q.length:=List.length_pos_of_mem hx;simp only[cM,Bool.or_eq_true,decide_eq_true_eq,Bool.and_eq_true];rcases hq.le x hx with hc|⟨hc,hc2⟩
     ·left;omega
     ·by_cases het:e.time=t
      ·right;have:=hlast h0 het;omega
      ·left;omega
    have hN:aFw ents nk next clock e.time (q++[e]):=by
     refine⟨?_,?_,?_,?_,by have:=hq.t;omega⟩
     ·exact List.pairwise_append.2 ⟨hq.sorted,by simp,fun x hx y hy=>by simp at hy;subst hy;exact hahead x hx⟩
     ·exact List.pairwise_append.2 ⟨hq.dist,by simp,fun x hx y hy=>by simp at hy;subst hy;exact hnd x hx⟩
     ·intro x hx;rcases List.mem_append.1 hx with hx|hx
      ·exact hq.evs x hx
      ·simp at hx;subst hx;have:=hq.t;exact⟨by omega,by have:=hwr.1;omega,by omega,by omega,by omega,by omega,by omega,by omega⟩
     ·intro x hx;rw[tW];rcases List.mem_append.1 hx with hx|hx
      ·have:=hahead x hx;simp only[cM,Bool.or_eq_true,decide_eq_true_eq,Bool.and_eq_true]at this;omega
      ·simp at hx;subst hx;right;omega
    have ih:=zN ents nk next clock n e.time (q++[e]) l1 false h hN
    refine⟨by first|rfl|trivial,ih.2.1,?_⟩
    rw[ih.2.2,List.length_append];simp;omega
theorem aFx{ents:Int}{nk:Nat}{next t:Int}{e:Ev}(h:aF9 ents nk next e)(he:ents≤8)(hk:nk≤8)(hn:next≤1000000000)(ht:0≤t∧t≤e.time)(rest:List Int) :
  evL ents nk next t (aJ (e.time-t)++(aJ e.number++(aJ e.kind++(aJ e.entity++rest)))) false=(e,rest,false):=by
 obtain⟨h1,h2,h3,h4⟩:=h;unfold evL;rw[bW (by omega) (by omega)]
 simp only;rw[bW (by omega) (by omega)]
 simp only;rw[bW (by omega) (by omega)]
 simp only;rw[bW (by omega) (by omega)]
 simp only;refine Prod.ext ?_ rfl;simp only;rw[show t+(e.time-t)=e.time by omega]
theorem aBk{ents:Int}{nk:Nat}{next:Int}(he:ents≤8)(hk:nk≤8)(hn:next≤1000000000)(rest:List Int):∀ (q q0:List Ev) (t:Int),cE (q0++q)→Distinct (q0++q)→(∀ e∈q,aF9 ents nk next e)→0≤t→(∀ e∈q,t≤e.time)→(0<q0.length→∃ z∈q0,z.number=mN q0∧z.time=t) →
  quL ents nk next q.length t q0 (evB t q++rest) false=(q0++q,rest,false)
 | [],q0,t,_,_,_,_,_,_=>by simp[quL,evB]
 | e::q,q0,t,hs,hd,hok,ht,ho,hp=>by
  have he1:=hok e (List.mem_cons_self ..);have ho1:=ho e (List.mem_cons_self ..);have hev:=aFx (t:=t) he1 he hk hn ⟨ht,ho1⟩ (evB e.time q++rest);have hsp:=List.pairwise_append.1 hs;have hdp:=List.pairwise_append.1 hd;have hh:kJ e.number q0=false:=by
   rcases hx:kJ e.number q0 with _|_
   ·rfl
   ·obtain⟨x,hx1,hx2⟩:=pL hx;exact absurd hx2 (hdp.2.2 x hx1 e (List.mem_cons_self ..))
  have hw:cZ t q0 e=false:=by
   unfold cZ;have h1:=he1.time.2;rw[decide_eq_false (by omega),Bool.false_or]
   by_cases h0:0<q0.length
   ·obtain⟨z,hz1,hz2,hzt⟩:=hp h0;have ha:=hsp.2.2 z hz1 e (List.mem_cons_self ..);simp only[cM,Bool.or_eq_true,decide_eq_true_eq,Bool.and_eq_true]at ha
    by_cases het:e.time=t
    ·have:¬e.number<mN q0:=by rw[←hz2];omega
     simp[this]
    ·simp[het]
   ·simp[show ¬0<q0.length from h0]
  simp only[List.length_cons,quL,evB,List.append_assoc];rw[if_neg (by simp),hev]
  simp only;rw[hh,hw];have:=aBk he hk hn rest q (q0++[e]) e.time (by simpa using hs) (by simpa using hd) (fun x hx=>hok x (List.mem_cons_of_mem _ hx)) (by omega) (fun x hx=>by
   have h2:=(List.pairwise_cons.1 hsp.2.1).1 x hx;simp only[cM,Bool.or_eq_true,decide_eq_true_eq,Bool.and_eq_true]at h2;omega) (fun _=>⟨e,by simp,(tW q0 e).symm,rfl⟩)
  simp only[Bool.or_false];rw[this];simp
def iZ:Nat→List Int→Bool→List Int×List Int×Bool
 | 0,l,bad=>([],l,bad)
 | n+1,l,bad=>if bad then ([],l,true)else ((fM l bad).1::(iZ n (fM l bad).2.1 (fM l bad).2.2).1,(iZ n (fM l bad).2.1 (fM l bad).2.2).2)
def pN(t:Int)(l:List Int)(bad:Bool):Rec×List Int×Bool:=
 let a:=aW 0 1000000000000 l bad
 let b:=aW 0 1000000000 a.2.1 a.2.2
 let c:=aW 0 7 b.2.1 b.2.2
 let d:=aW 0 7 c.2.1 c.2.2
 let n:=aW 0 16 d.2.1 d.2.2
 let ts:=iZ n.1.toNat n.2.1 n.2.2
 (⟨⟨t+a.1,b.1,c.1,d.1⟩,ts.1⟩,ts.2)
def kM:Nat→Int→List Int→Bool→List Rec×List Int×Bool
 | 0,_,l,bad=>([],l,bad)
 | n+1,t,l,bad=>if bad then ([],l,true)else ((pN t l bad).1::(kM n (pN t l bad).1.e.time (pN t l bad).2.1 (pN t l bad).2.2).1,(kM n (pN t l bad).1.e.time (pN t l bad).2.1 (pN t l bad).2.2).2)
def oQ(l:List Int):List Rec×List Int×Bool:=kM (aW 0 1000 l false).1.toNat 0 (aW 0 1000 l false).2.1 (aW 0 1000 l false).2.2
def oR(l:List Int):Int:=if aU [84,77,82,1] l≠0 then aU [84,77,82,1] l else if (oQ (aK l)).2.2 then 4 else if fX (oQ (aK l)).1&&decide (lE (oQ (aK l)).1=l)then 0 else 4
theorem tY:∀ (ts rest:List Int),(∀ x∈ts,-1000000000≤x∧x≤1000000000)→iZ ts.length (ts.flatMap cJ++rest) false=(ts,rest,false)
 | [],rest,_=>rfl
 | x::ts,rest,h=>by
  have ih:=tY ts rest (fun y hy=>h y (List.mem_cons_of_mem _ hy));simp only[List.length_cons,iZ,List.flatMap_cons,List.append_assoc,Bool.false_eq_true,if_false];rw[wJ (h x (by simp))]
  simp only[ih]
theorem zQ{t:Int}{r:Rec}(ht:0≤t)(h:cU t r=true)(rest:List Int):pN t (eV t r++rest) false=(r,rest,false):=by
 obtain⟨⟨o1,o2,o3,o4,o5,o6⟩,o7⟩:=fR h;obtain⟨⟨r1,r2,r3,r4⟩,l⟩:=r;simp only at o1 o2 o3 o4 o5 o6 o7;unfold pN eV;simp only[List.append_assoc];rw[bW (by omega) (by omega)]
 simp only;rw[bW (by omega) (by omega)]
 simp only;rw[bW (by omega) (by omega)]
 simp only;rw[bW (by omega) (by omega)]
 simp only;rw[bW (by omega) (by omega)]
 simp only[Int.toNat_natCast];rw[tY l rest o6];simp only[Prod.mk.injEq,Rec.mk.injEq,Ev.mk.injEq,and_true,true_and];omega
theorem tZ:∀ (rs:List Rec) (t:Int) (rest:List Int),0≤t→aS t rs=true→kM rs.length t (eY t rs++rest) false=(rs,rest,false)
 | [],t,rest,_,_=>rfl
 | r::rs,t,rest,ht,h=>by
  simp only[aS,Bool.and_eq_true]at h;have ho:=fR h.1;have ih:=tZ rs r.e.time rest (by omega) h.2
  simp only[List.length_cons,kM,eY,List.append_assoc,Bool.false_eq_true,if_false];rw[zQ ht h.1];simp only[ih]
theorem aDh{rs:List Rec}(h:fX rs=true):oQ (mI rs)=(rs,[],false):=by
 obtain⟨h1,h2⟩:=kH h;unfold oQ mI;rw[bW (by omega) (by omega)]
 simp only[Int.toNat_natCast];have:=tZ rs 0 [] (by omega) h2
 rwa [List.append_nil]at this
theorem aG1{l:List Int}(hb:∀ c∈l,0≤c∧c<256):oR l=jD l∧(jD l=0→(oQ (aK l)).1=(dP (aK l)).1):=by
 by_cases h0:jD l=0
 ·obtain⟨e1,e2⟩:=aBe hb h0;have ho:aU [84,77,82,1] l=0:=by
   unfold jD at h0
   split at h0
   ·exact h0
   ·simp_all
  have hL:aK l=mI (dP (aK l)).1:=by
   have:=oK [84,77,82,1] (mI (dP (aK l)).1) rfl;rw[←this];exact congrArg aK e2.symm
  have hd:=aDh e1;rw[←hL]at hd;refine⟨?_,fun _=>by rw[hd]⟩
  rw[h0];unfold oR;rw[if_neg (by simp[ho]),hd]
  simp[e1,e2]
 ·refine⟨?_,fun h=>absurd h h0⟩;unfold oR jD at *
  by_cases ho:aU [84,77,82,1] l≠0
  ·rw[if_pos ho,if_pos ho]
  ·rw[if_neg ho]at h0 ⊢;rw[if_neg ho];have hk:mJ (aK l)=false:=by
    rcases hk:mJ (aK l)with _|_
    ·rfl
    ·rw[hk]at h0;simp at h0
   rw[hk];simp only[Bool.false_eq_true,if_false]
   split
   ·rfl
   ·split
    ·rename_i hx
     simp only[Bool.and_eq_true,decide_eq_true_eq]at hx;have:=(aFm hx.1).1;rw[hx.2]at this;unfold jD at this;rw[if_neg ho,hk]at this;simp at this
    ·rfl
theorem wN(n:Nat)(l:List Int):iZ n l true=([],l,true):=by
 cases n<;>simp[iZ]
theorem aDi(n:Nat)(t:Int)(l:List Int):kM n t l true=([],l,true):=by
 cases n<;>simp[kM]
structure RcO(w:World)(eb:Nat)(n t k e:Int)(v:Value):Prop where
 c0:w.cell? ⟨eb,0,none⟩=some (.int .i64 n)
 c1:w.cell? ⟨eb,1,none⟩=some (.int .i64 t)
 c2:w.cell? ⟨eb,2,none⟩=some (.int .i64 k)
 c3:w.cell? ⟨eb,3,none⟩=some (.int .i64 e)
 c4:w.cell? ⟨eb,4,none⟩=some v
 room:Room w eb 5
section
variable {w wr w' : World} {db eb : Nat} {n t k e : Int} {v : Value} {all l : List Int} {bad : Bool}
theorem RcO.only{S:Nat→Prop}(h:RcO w eb n t k e v)(ho:Only S w w')(hn:¬S eb):RcO w' eb n t k e v:=
 ⟨ho.at h.c0 hn,ho.at h.c1 hn,ho.at h.c2 hn,ho.at h.c3 hn,ho.at h.c4 hn,h.room.only ho hn⟩
theorem RcO.new(w:World)(T:TypeId):RcO (w.alloc (.cells #[.int .i64 0,.int .i64 0,.int .i64 0,.int .i64 0,.slice none 0 0] T)) w.heap.size 0 0 0 0 (.slice none 0 0):=by
 refine⟨by simp[go_sem],by simp[go_sem],by simp[go_sem],by simp[go_sem],by simp[go_sem],?_⟩
 intro j hj;have:j=0∨j=1∨j=2∨j=3∨j=4:=by omega
 rcases this with rfl|rfl|rfl|rfl|rfl<;>simp[go_sem]
theorem bX{j i:Nat}{u v:Value}(hi:i≠j)(hc:w.cell? ⟨eb,i,none⟩=some v):(w.setCell ⟨eb,j,none⟩ u).cell? ⟨eb,i,none⟩=some v:=by
 rw[World.cell?_setCell_other _ _ _ _ (by simp;try omega)];exact hc
theorem RcO.set0(h:RcO w eb n t k e v)(x:Int):RcO (w.setCell ⟨eb,0,none⟩ (.int .i64 x)) eb x t k e v:=
 ⟨World.cell?_setCell_same' _ _ _ (h.room 0 (by omega)).1,bX (by omega) h.c1,bX (by omega) h.c2,bX (by omega) h.c3,bX (by omega) h.c4,h.room.setCell _ _⟩
theorem RcO.set1(h:RcO w eb n t k e v)(x:Int):RcO (w.setCell ⟨eb,1,none⟩ (.int .i64 x)) eb n x k e v:=
 ⟨bX (by omega) h.c0,World.cell?_setCell_same' _ _ _ (h.room 1 (by omega)).1,bX (by omega) h.c2,bX (by omega) h.c3,bX (by omega) h.c4,h.room.setCell _ _⟩
theorem RcO.set2(h:RcO w eb n t k e v)(x:Int):RcO (w.setCell ⟨eb,2,none⟩ (.int .i64 x)) eb n t x e v:=
 ⟨bX (by omega) h.c0,bX (by omega) h.c1,World.cell?_setCell_same' _ _ _ (h.room 2 (by omega)).1,bX (by omega) h.c3,bX (by omega) h.c4,h.room.setCell _ _⟩
theorem RcO.set3(h:RcO w eb n t k e v)(x:Int):RcO (w.setCell ⟨eb,3,none⟩ (.int .i64 x)) eb n t k x v:=
 ⟨bX (by omega) h.c0,bX (by omega) h.c1,bX (by omega) h.c2,World.cell?_setCell_same' _ _ _ (h.room 3 (by omega)).1,bX (by omega) h.c4,h.room.setCell _ _⟩
theorem RcO.set4(h:RcO w eb n t k e v)(x:Value):RcO (w.setCell ⟨eb,4,none⟩ x) eb n t k e x:=
 ⟨bX (by omega) h.c0,bX (by omega) h.c1,bX (by omega) h.c2,bX (by omega) h.c3,World.cell?_setCell_same' _ _ _ (h.room 4 (by omega)).1,h.room.setCell _ _⟩
structure RdX(wr w:World)(db eb:Nat)(all:List Int)(n t k e:Int)(v:Value)(l:List Int)(bad:Bool):Prop where
 only:Only (fun b=>b=db∨eb≤b) wr w
 rd:RdS w db all l bad
 rc:RcO w eb n t k e v
 ne:db<eb
theorem RdX.num(h:RdX wr w db eb all n t k e v l bad)(hv:∀ c∈all,0≤c∧c<256)(hl:all.length≤1000000000)(low high:Int) :
  Calls Tryz.prog 67 #[.pointer (some ⟨db,0,none⟩),.int .i64 low,.int .i64 high] w fun ex w'=>ex=.returned (.int .i64 (aW low high l bad).1)∧RdX wr w' db eb all n t k e v (aW low high l bad).2.1 (aW low high l bad).2.2:=by
 refine(mY db all l bad low high w h.rd hv hl).mono ?_;rintro ex w' ⟨rfl,ho,hr⟩;have:=h.ne;exact⟨rfl,h.only.chain ho (fun i _ hi=>.inl hi),hr,h.rc.only ho (by omega),h.ne⟩
theorem RdX.put(h:RdX wr w db eb all n t k e v l bad){j:Nat}{u:Value}{n' t' k' e':Int}{v':Value}(hc:RcO (w.setCell ⟨eb,j,none⟩ u) eb n' t' k' e' v'):RdX wr (w.setCell ⟨eb,j,none⟩ u) db eb all n' t' k' e' v' l bad:=by
 have ho:Only (·=eb) w (w.setCell ⟨eb,j,none⟩ u):=Only.setCell (S:=(·=eb)) (Only.refl _ _) rfl _
 have:=h.ne;exact⟨h.only.chain ho (fun i _ hi=>.inr (by omega)),h.rd.only ho (by omega),hc,h.ne⟩
end
structure ToJ(wr w:World)(db eb:Nat)(all:List Int)(n t k e:Int)(v:Value)(M:Nat)(RES:List Int×List Int×Bool)(j:Nat)(ts l:List Int)(bad:Bool):Prop where
 x:RdX wr w db eb all n t k e v l bad
 row:w.ownsRow (eb+1) 3 1 v ts.length (ints ts)
 len:ts.length=j
 ok:bad=false→M≤16
 res1:ts++(iZ (M-j) l bad).1=RES.1
 res2:(iZ (M-j) l bad).2=RES.2
theorem ToJ.push{wr w w1 W w2:World}{db eb:Nat}{all:List Int}{n t k e:Int}{v v2:Value}{M:Nat}{RES:List Int×List Int×Bool}{j:Nat}{ts l l':List Int}{x:Int}{b':Bool}(h:ToJ wr w db eb all n t k e v M RES j ts l false)(hj:j<M)(hes:fM l false=(x,l',b'))(ho1:Only (·=db) w w1)(hr1:RdS w1 db all l' b')
  (hW:Below w1.heap.size w1 W) (hg:W.grownBy w2 v.ownBlock) (hown:w2.ownsRow (eb+1) 3 1 v2 (ts.length+1) (ints ts++[.int .i64 x])) (hwh:v2.ownBlock=v.ownBlock∨v2.ownBlock=some W.heap.size) :
  ToJ wr (w2.setCell ⟨eb,4,none⟩ v2) db eb all n t k e v2 M RES (j+1) (ts++[x]) l' b':=by
 have hne:=h.x.ne;have hlt:=h.row.lt;have hel:eb<w.heap.size:=aC h.x.rc.c0;have hz1:=ho1.size;have hzW:=hW.size;have hz2:=hg.size;have hx1:RdX wr w1 db eb all n t k e v l' b':=⟨h.x.only.chain ho1 (fun i _ hi=>.inl hi),hr1,h.x.rc.only ho1 (by omega),hne⟩
 have ho2:Only (fun b=>some b=v.ownBlock) w1 w2:=(Only.new hW).trans (aF hg);have hnb:∀ b,some b=v.ownBlock→eb<b:=fun b hb=>by have:=(hlt b hb.symm).1;omega
 have hx2:RdX wr w2 db eb all n t k e v l' b':=⟨hx1.only.chain ho2 (fun i _ hi=>.inr (by have:=hnb i hi;omega)),hx1.rd.only ho2 (fun hc=>by have:=hnb _ hc;omega),hx1.rc.only ho2 (fun hc=>by have:=hnb _ hc;omega),hne⟩
 have hs:Only (·=eb) w2 (w2.setCell ⟨eb,4,none⟩ v2):=Only.setCell (S:=(·=eb)) (Only.refl _ _) rfl _
 refine⟨hx2.put (hx2.rc.set4 v2),?_,by simp[h.len],fun _=>h.ok rfl,?_,?_⟩
 ·rw[List.length_append];have he:ints (ts++[x])=ints ts++[.int .i64 x]:=by simp[ints]
  rw[he];refine aN hown hs (fun b hb hc=>?_);rcases hwh with e|e
  ·rw[e]at hb;have:=hnb b hb;omega
  ·rw[e]at hb;have:=Option.some.inj hb;omega
 ·have:=h.res1;rw[show M-j=(M-(j+1))+1 by omega,iZ,if_neg (by simp),hes]at this
  rw[←this];simp
 ·have:=h.res2;rw[show M-j=(M-(j+1))+1 by omega,iZ,if_neg (by simp),hes]at this
  exact this
theorem ToJ.done{wr w:World}{db eb:Nat}{all:List Int}{n t k e:Int}{v:Value}{M:Nat}{RES:List Int×List Int×Bool}{j:Nat}{ts l:List Int}{bad:Bool}(h:ToJ wr w db eb all n t k e v M RES j ts l bad)(hd:bad=true∨M≤j):RES=(ts,l,bad):=by
 have h1:=h.res1;have h2:=h.res2;obtain⟨a,b⟩:=RES;simp only at h1 h2;rcases hd with rfl|hd
 ·rw[wN]at h1 h2;rw[←h1,←h2];simp
 ·rw[show M-j=0 by omega]at h1 h2
  rw[←h1,←h2];simp[iZ]
theorem AllR.mono{w:World}{Z Z':Nat}{av:Value}{L:List RecC}{rs:List Rec}(h:AllR w Z av L rs)(hz:Z'≤Z):AllR w Z' av L rs:=
 ⟨h.len,gM h.row hz,fun j x r hx hr=>⟨(h.rec_ j x r hx hr).1,(h.rec_ j x r hx hr).2.1,gM (h.rec_ j x r hx hr).2.2 hz⟩,h.tsep⟩
structure DcI(w wr:World)(db:Nat)(all:List Int)(N:Nat)(RES:List Rec×List Int×Bool)(i:Nat)(t:Int)(lv:Value)(L:List RecC)(rs:List Rec)(l:List Int)(bad:Bool):Prop where
 bel:Below w.heap.size w wr
 dlo:w.heap.size≤db
 rd:RdS wr db all l bad
 recs:AllR wr (db+1) lv L rs
 len:L.length=i
 ok:bad=false→N≤1000∧0≤t∧t≤1000000000000*i
 res1:rs++(kM (N-i) t l bad).1=RES.1
 res2:(kM (N-i) t l bad).2=RES.2
theorem DcI.done{w wr:World}{db:Nat}{all:List Int}{N:Nat}{RES:List Rec×List Int×Bool}{i:Nat}{t:Int}{lv:Value}{L:List RecC}{rs:List Rec}{l:List Int}{bad:Bool}(h:DcI w wr db all N RES i t lv L rs l bad)(hd:bad=true∨N≤i):RES=(rs,l,bad):=by
 have h1:=h.res1;have h2:=h.res2;obtain⟨a,b⟩:=RES;simp only at h1 h2;rcases hd with rfl|hd
 ·rw[aDi]at h1 h2;rw[←h1,←h2];simp
 ·rw[show N-i=0 by omega]at h1 h2
  rw[←h1,←h2];simp[kM]
theorem DcI.push{w wr wx W w2:World}{db:Nat}{all:List Int}{N:Nat}{RES:List Rec×List Int×Bool}{i:Nat}{t:Int}{lv lv2:Value}{L:List RecC}{rs:List Rec}{l:List Int}{xn xt xk xe:Int}{sa:Option Addr}{sc:Nat}{ts l2:List Int}{b2:Bool}(h:DcI w wr db all N RES i t lv L rs l false)(hi:i<N)(hrec:pN t l false=(⟨⟨xt,xn,xk,xe⟩,ts⟩,l2,b2))(hok:b2=false→t≤xt∧xt≤t+1000000000000)
  (hx:RdX wr wx db wr.heap.size all xn xt xk xe (.slice sa ts.length sc) l2 b2) (hrow:wx.ownsRow (wr.heap.size+1) 3 1 (.slice sa ts.length sc) ts.length (ints ts))
  (hW:Below wx.heap.size wx W) (hg:W.grownBy w2 lv.ownBlock) (hown:w2.ownsRow (db+1) 46 5 lv2 (L.length+1) (bA L++(RecC.mk ⟨xt,xn,xk,xe⟩ sa ts.length sc).cells)) (hwh:lv2.ownBlock=lv.ownBlock∨lv2.ownBlock=some W.heap.size) :
  DcI w w2 db all N RES (i+1) xt lv2 (L++[⟨⟨xt,xn,xk,xe⟩,sa,ts.length,sc⟩]) (rs++[⟨⟨xt,xn,xk,xe⟩,ts⟩]) l2 b2:=by
 have hdl:=h.rd.lt;have hbel:=h.bel.size;have hd:=h.dlo;have hzx:=hx.only.size;have hzW:=hW.size;have hall:AllR W (db+1) lv L rs:=(h.recs.only hx.only (fun b hb hc=>by have:=h.recs.lt b hb;omega)).only (Only.new (S:=fun _=>False) hW) (by simp)
 have hrowW:=aN hrow (Only.new (S:=fun _=>False) hW) (by simp)
 have hlv:∀ b,some b=lv.ownBlock→db<b∧b<wr.heap.size:=fun b hb=>by have:=h.recs.lt b (.inl hb);omega
 have ho2:=aF hg;refine⟨?_,hd,?_,?_,by simp[h.len],?_,?_,?_⟩
 ·refine h.bel.trans (Below.trans (hx.only.below hbel (fun k hk hc=>by omega)) (((Only.new (S:=fun b=>some b=lv.ownBlock) hW).trans ho2).below (by omega) (fun k hk hc=>by have:=hlv k hc;omega)))
 ·exact(hx.rd.below hW).only ho2 (fun hc=>by have:=hlv _ hc;omega)
 ·exact hall.snoc (x:=⟨⟨xt,xn,xk,xe⟩,sa,ts.length,sc⟩) (r:=⟨⟨xt,xn,xk,xe⟩,ts⟩) rfl rfl (gM hrowW (by omega)) hg hown hwh (fun b hb hc=>by have:=(hrow.lt b hb.symm).1;have:=hlv b hc;omega)
 ·intro hb;have h1:=h.ok rfl;have h2:=hok hb;refine⟨h1.1,by omega,?_⟩
  have:(1000000000000:Int)*((i+1:Nat):Int)=1000000000000*(i:Int)+1000000000000:=by rw[Int.natCast_add];omega
  omega
 ·have:=h.res1;rw[show N-i=(N-(i+1))+1 by omega,kM,if_neg (by simp),hrec]at this
  rw[←this];simp
 ·have:=h.res2;rw[show N-i=(N-(i+1))+1 by omega,kM,if_neg (by simp),hrec]at this
  exact this
end Go.Proofs.YtndlmgocldckfaaGreat
