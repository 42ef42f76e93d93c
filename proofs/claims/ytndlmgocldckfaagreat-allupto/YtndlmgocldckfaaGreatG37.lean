import Derived.Test.YtndlmgocldckfaaGreatG35
import Derived.Test.YtndlmgocldckfaaGreatG18
namespace Go.Proofs.YtndlmgocldckfaaGreat
open Go.RowKit
set_option linter.unusedVariables false
set_option linter.unusedSimpArgs false
set_option maxRecDepth 100000
set_option maxHeartbeats 4000000
def gX(E nk dl:Nat)(l:List Int):KS×List Int×Bool:=
 let a1:=aW E E l false
 let a2:=aW nk nk a1.2.1 a1.2.2
 let a3:=aW 0 1000000000000 a2.2.1 a2.2.2
 let a4:=aW 1 1000000000 a3.2.1 a3.2.2
 let a5:=aW 0 dl a4.2.1 a4.2.2
 let r:=dM (E*4) 0 ks0.regs a5.2.1 a5.2.2
 if r.2.2 then (⟨a5.1.toNat,a3.1,a4.1,r.1,[]⟩,r.2.1,true)
 else
  let n:=aW 0 16 r.2.1 false
  let q:=quL E nk a4.1 n.1.toNat a3.1 [] n.2.1 n.2.2
  (⟨a5.1.toNat,a3.1,a4.1,r.1,q.1⟩,q.2.1,q.2.2)
theorem wK(E:Nat)(ks:List (List Ins))(draws:List Int)(l:List Int)(hb:∀ c∈l,0≤c∧c<256)(h:(gX E ks.length draws.length l).2.2=false):Fit (E:Int) ks draws (gX E ks.length draws.length l).1∧nB (E:Int) (gX E ks.length draws.length l).1:=by
 unfold gX at h ⊢;simp only at h ⊢
 split at h
 ·cases h
 ·rename_i hr
  rw[if_neg hr];simp only at h ⊢;simp only[Bool.not_eq_true]at hr;have b1:∀ c∈(aW E E l false).2.1,0≤c∧c<256:=bC hb;generalize e1:aW E E l false=a1 at h hr b1 ⊢;have b2:∀ c∈(aW ks.length ks.length a1.2.1 a1.2.2).2.1,0≤c∧c<256:=bC b1;generalize e2:aW ks.length ks.length a1.2.1 a1.2.2=a2 at h hr b2 ⊢;have b3:∀ c∈(aW 0 1000000000000 a2.2.1 a2.2.2).2.1,0≤c∧c<256:=bC b2;generalize e3:aW 0 1000000000000 a2.2.1 a2.2.2=a3 at h hr b3 ⊢;have b4:∀ c∈(aW 1 1000000000 a3.2.1 a3.2.2).2.1,0≤c∧c<256:=bC b3;generalize e4:aW 1 1000000000 a3.2.1 a3.2.2=a4 at h hr b4 ⊢;have b5:∀ c∈(aW 0 draws.length a4.2.1 a4.2.2).2.1,0≤c∧c<256:=bC b4;generalize e5:aW 0 draws.length a4.2.1 a4.2.2=a5 at h hr b5 ⊢;have hrg:=tU (E*4) 0 ks0.regs a5.2.1 a5.2.2 b5 hr (fun k=>by simp[ks0])
  generalize e6:dM (E*4) 0 ks0.regs a5.2.1 a5.2.2=r at h hr hrg ⊢;have g5:=bJ (lo:=0) (hi:=draws.length) (l:=a4.2.1) (bad:=a4.2.2) (by rw[e5];exact hrg.1)
  have g4:=bJ (lo:=1) (hi:=1000000000) (l:=a3.2.1) (bad:=a3.2.2) (by rw[e4];exact g5.1)
  have g3:=bJ (lo:=0) (hi:=1000000000000) (l:=a2.2.1) (bad:=a2.2.2) (by rw[e3];exact g4.1)
  rw[e5]at g5;rw[e4]at g4;rw[e3]at g3;have hq0:aFw (E:Int) ks.length a4.1 a3.1 a3.1 []:=⟨by simp[cE],by simp[Distinct],by simp,by simp,Int.le_refl _⟩
  have hq:=zN (E:Int) ks.length a4.1 a3.1 _ a3.1 [] _ _ h hq0;have gn:=bJ hq.1;generalize quL (E:Int) ks.length a4.1 (aW 0 16 r.2.1 false).1.toNat a3.1 [] (aW 0 16 r.2.1 false).2.1 (aW 0 16 r.2.1 false).2.2=q at h hq ⊢;obtain⟨_,⟨t',hq1⟩,hq2⟩:=hq;refine⟨⟨⟨?_,g3.2,g4.2,hrg.2.1,hq1.evs,?_⟩,⟨hq1.sorted,hq1.dist⟩⟩,?_⟩
  ·have:=g5.2;show a5.1.toNat≤draws.length;omega
  ·show q.1.length≤16;rw[hq2];have:=gn.2;simp only[List.length_nil];omega
  ·intro j hj;exact hrg.2.2.1 j (by simp at hj;omega)
theorem aDe(E:Nat)(ks:List (List Ins))(draws:List Int)(s:KS)(hl:ks.length≤8)(hfit:Fit (E:Int) ks draws s)(hz:nB (E:Int) s)(he:1≤E∧E≤8)(hdl:draws.length≤1000):gX E ks.length draws.length (fL (E:Int) ks.length s)=(s,[],false):=by
 obtain⟨hok,hso,hdi⟩:=hfit;obtain⟨k1,k2,k3,k4,k5,k6⟩:=hok;have E0:fL (E:Int) ks.length s=aJ (E:Int)++(aJ (ks.length:Int)++(aJ s.clock++(aJ s.next++(aJ (s.taken:Int)++(fT s (E*4)++(aJ (s.q.length:Int)++evB s.clock s.q)))))):=by
  unfold fL;rw[Int.toNat_natCast]
 have e6:dM (E*4) 0 ks0.regs (fT s (E*4)++(aJ (s.q.length:Int)++evB s.clock s.q)) false=(s.regs,aJ (s.q.length:Int)++evB s.clock s.q,false):=by
  have:=tV s.regs k4 (aJ (s.q.length:Int)++evB s.clock s.q) (E*4) ks0.regs 0;unfold fT;rw[List.range_eq_range',this];refine Prod.ext ?_ rfl
  funext j
  simp only[Nat.zero_le,true_and,Nat.zero_add]
  split
  ·rfl
  ·exact(hz j (by simp;omega)).symm
 have e7:quL (E:Int) ks.length s.next s.q.length s.clock [] (evB s.clock s.q) false=(s.q,[],false):=by
  have:=aBk (ents:=(E:Int)) (nk:=ks.length) (next:=s.next) (by omega) hl k3.2 [] s.q [] s.clock (by simpa using hso) (by simpa using hdi) (fun e he'=>by
   have:=k5 e he';exact⟨by omega,by omega,by omega,by omega⟩) k2.1 (fun e he'=>(k5 e he').1) (by simp)
  simpa using this
 unfold gX;rw[E0,bW (by omega) (by omega)]
 simp only;rw[bW (by omega) (by omega)]
 simp only;rw[bW (by omega) (by omega)]
 simp only;rw[bW (by omega) (by omega)]
 simp only;rw[bW (by omega) (by omega)]
 simp only;rw[e6];simp only[Bool.false_eq_true,if_false];rw[bW (by omega) (by omega)]
 simp only[Int.toNat_natCast];rw[e7]
theorem wL:∀ (n:Nat) (f:Nat→Int) (j:Nat) (l l1:List Int) (b:Bool) (g:Nat→Int),(∀ c∈l,0≤c∧c<256)→gU n f j l b=(g,l1,false)→b=false∧(∀ k,j≤k∧k<j+n→-1000000000≤g k∧g k≤1000000000)∧(∀ k,¬(j≤k∧k<j+n)→g k=f k)∧l=(List.range' j n).flatMap (fun k=>cJ (g k))++l1
 | 0,f,j,l,l1,b,g,hb,h=>by
  simp only[gU,Prod.mk.injEq]at h;obtain⟨rfl,rfl,rfl⟩:=h;exact⟨rfl,fun k hk=>by omega,fun k _=>rfl,by simp⟩
 | n+1,f,j,l,l1,b,g,hb,h=>by
  rw[gU]at h;generalize e:eE 1000000000 l b=r at h;obtain⟨v,l2,f2⟩:=r;simp only at h;have hf2:f2=false:=by
   cases f2 with
   | false=>rfl
   | true=>
    have:=wA n (cD f j v) (j+1) l2;rw[h]at this;cases this
  subst hf2;obtain⟨h1,h2,h3,h4⟩:=vZ hb e;have ih:=wL n (cD f j v) (j+1) l2 l1 false g (iI hb h4) h;have hgj:g j=v:=by
   rw[ih.2.2.1 j (by omega)]
   simp[cD]
  refine⟨h1,fun k hk=>?_,fun k hk=>?_,?_⟩
  ·by_cases hkj:k=j
   ·subst hkj;rw[hgj];exact⟨h2,h3⟩
   ·exact ih.2.1 k (by omega)
  ·rw[ih.2.2.1 k (by omega)]
   unfold cD;rw[if_neg (by omega)]
  ·rw[List.range'_succ,List.flatMap_cons,hgj,List.append_assoc,←ih.2.2.2];exact h4
theorem aF0{ents:Int}{nk:Nat}{next t an:Int}{l l1:List Int}{f:Bool}{e:Ev}(hb:∀ c∈l,0≤c∧c<256)(h:gY ents nk next t an l f=(e,l1,false)):f=false∧l=aJ (e.time-t)++(aJ e.number++(aJ e.kind++(aJ e.entity++l1)))∧t≤e.time∧e.time≤1000000000000∧iB (e.time-t) an≤e.number∧e.number≤next-1∧(0≤e.kind∧e.kind≤nk-1)∧(0≤e.entity∧e.entity≤ents-1):=by
 unfold gY at h;simp only at h;generalize ea:aL 0 (1000000000000-t) l f=a at h;obtain⟨v1,m1,f1⟩:=a;simp only at h;generalize eb:aL (iB v1 an) (next-1) m1 f1=b at h
 obtain⟨v2,m2,f2⟩:=b;simp only at h;generalize ec:aL 0 (nk-1) m2 f2=c at h;obtain⟨v3,m3,f3⟩:=c;simp only at h;generalize ed:aL 0 (ents-1) m3 f3=d at h;obtain⟨v4,m4,f4⟩:=d;simp only[Prod.mk.injEq]at h;obtain⟨rfl,rfl,rfl⟩:=h;have hb1:∀ c∈m1,0≤c∧c<256:=by have:=aT (low:=0) (high:=1000000000000-t) (f:=f) hb;rw[ea]at this;exact this
 have hb2:∀ c∈m2,0≤c∧c<256:=by have:=aT (low:=iB v1 an) (high:=next-1) (f:=f1) hb1;rw[eb]at this;exact this
 have hb3:∀ c∈m3,0≤c∧c<256:=by have:=aT (low:=0) (high:=nk-1) (f:=f2) hb2;rw[ec]at this;exact this
 obtain⟨q1,q2,q3,_,q4⟩:=bU hb3 ed;rw[q1]at ec;obtain⟨r1,r2,r3,_,r4⟩:=bU hb2 ec;rw[r1]at eb;obtain⟨s1,s2,s3,_,s4⟩:=bU hb1 eb;rw[s1]at ea;obtain⟨u1,u2,u3,_,u4⟩:=bU hb ea;simp only;rw[show t+v1-t=v1 by omega]
 exact⟨u1,by rw[←q4,←r4,←s4];exact u4,by omega,by omega,s2,s3,⟨r2,r3⟩,⟨q2,q3⟩⟩
theorem wM(ents:Int)(nk:Nat)(next clock:Int):∀ (n:Nat) (t an:Int) (q q':List Ev) (l l1:List Int) (f:Bool),(∀ c∈l,0≤c∧c<256)→jN ents nk next n t an q l f=(true,q',l1,false)→cE q→Distinct q→clock≤t→(∀ e∈q,e.time<t∨(e.time=t∧e.number≤an))→(∀ e∈q,clock≤e.time∧e.time≤1000000000000∧1≤e.number∧e.number<next∧0≤e.kind∧e.kind<nk∧0≤e.entity∧e.entity<ents)→0≤an →
  f=false∧cE q'∧Distinct q'∧(∀ e∈q',clock≤e.time∧e.time≤1000000000000∧1≤e.number∧e.number<next∧0≤e.kind∧e.kind<nk∧0≤e.entity∧e.entity<ents)∧∃ qs,q'=q++qs∧qs.length=n∧l=evB t qs++l1
 | 0,t,an,q,q',l,l1,f,hb,h,hs,hd,hc,hle,hev,ha=>by
  simp only[jN,Prod.mk.injEq,true_and]at h;obtain⟨rfl,rfl,rfl⟩:=h;exact⟨rfl,hs,hd,hev,[],by simp,rfl,by simp[evB]⟩
 | n+1,t,an,q,q',l,l1,f,hb,h,hs,hd,hc,hle,hev,ha=>by
  rw[jN]at h;generalize e0:gY ents nk next t an l f=r at h
  obtain⟨e,l2,f2⟩:=r;simp only at h;cases hh:kJ e.number q with
  | true=>rw[hh]at h;simp at h
  | false=>
   rw[hh,if_neg (by simp)]at h
   have hf2:f2=false:=by
    cases f2 with
    | false=>rfl
    | true=>
     have:=pK ents nk next n e.time e.number (dR e q) l2
     rw[h]at this;cases this
   subst hf2;obtain⟨i1,i2,i3,i4,i5,i6,i7,i8⟩:=aF0 hb e0;have hnd:=lF hh;have hn1:1≤e.number:=by unfold iB at i5;split at i5<;>omega
   have hahead:∀ x∈q,cM x e=true:=by
    intro x hx;simp only[cM,Bool.or_eq_true,decide_eq_true_eq,Bool.and_eq_true];rcases hle x hx with hc'|⟨hc',hc2⟩
    ·left;omega
    ·by_cases het:e.time=t
     ·right;have:iB (e.time-t) an=an+1:=by rw[iB,if_pos (by omega)]
      omega
     ·left;omega
   have hins:=pD q e hahead;rw[hins]at h;have ih:=wM ents nk next clock n e.time e.number (q++[e]) q' l2 l1 false (iI (a:=aJ (e.time-t)++(aJ e.number++(aJ e.kind++aJ e.entity))) hb (by rw[i2];simp)) h
    (List.pairwise_append.2 ⟨hs,by simp,fun x hx y hy=>by simp at hy;subst hy;exact hahead x hx⟩) (List.pairwise_append.2 ⟨hd,by simp,fun x hx y hy=>by simp at hy;subst hy;exact hnd x hx⟩) (by omega)
    (fun x hx=>by
     rcases List.mem_append.1 hx with hx|hx
     ·have:=hahead x hx;simp only[cM,Bool.or_eq_true,decide_eq_true_eq,Bool.and_eq_true]at this;omega
     ·simp at hx;subst hx;right;omega)
    (fun x hx=>by
     rcases List.mem_append.1 hx with hx|hx
     ·exact hev x hx
     ·simp at hx;subst hx;exact⟨by omega,by omega,by omega,by omega,by omega,by omega,by omega,by omega⟩) (by omega)
   obtain⟨_,j1,j2,j3,qs,j4,j5,j6⟩:=ih;refine⟨i1,j1,j2,j3,e::qs,by rw[j4];simp,by simp[j5],?_⟩
   rw[i2,j6];simp[evB]
theorem aDf(E:Nat)(ks:List (List Ins))(draws:List Int)(l:List Int)(hb:∀ c∈l,0≤c∧c<256)(h:oP E ks.length draws.length l=true):Fit (E:Int) ks draws (gI E ks.length draws.length l).2.1∧nB (E:Int) (gI E ks.length draws.length l).2.1∧l=fL (E:Int) ks.length (gI E ks.length draws.length l).2.1:=by
 unfold oP at h;simp only[Bool.and_eq_true,Bool.not_eq_true',List.isEmpty_iff]at h;obtain⟨h1,h2,h3⟩:=h;unfold gI at h1 h2 h3 ⊢;simp only at h1 h2 h3 ⊢;generalize e1:aL (E:Int) (E:Int) l false=a1 at h1 h2 h3 ⊢;obtain⟨v1,l1,f1⟩:=a1;simp only at h1 h2 h3 ⊢;generalize e2:aL (ks.length:Int) (ks.length:Int) l1 f1=a2 at h1 h2 h3 ⊢;obtain⟨v2,l2,f2⟩:=a2;simp only at h1 h2 h3 ⊢;generalize e3:aL 0 1000000000000 l2 f2=a3 at h1 h2 h3 ⊢;obtain⟨v3,l3,f3⟩:=a3;simp only at h1 h2 h3 ⊢;generalize e4:aL 1 1000000000 l3 f3=a4 at h1 h2 h3 ⊢;obtain⟨v4,l4,f4⟩:=a4;simp only at h1 h2 h3 ⊢;generalize e5:aL 0 (draws.length:Int) l4 f4=a5 at h1 h2 h3 ⊢;obtain⟨v5,l5,f5⟩:=a5;simp only at h1 h2 h3 ⊢;generalize e6:gU (E*4) ks0.regs 0 l5 f5=a6 at h1 h2 h3 ⊢;obtain⟨g,l6,f6⟩:=a6;simp only at h1 h2 h3 ⊢;generalize e7:eZ (E:Int) ks.length v4 v3 [] l6 f6=a7 at h1 h2 h3 ⊢;obtain⟨y,q,l7,f7⟩:=a7;simp only at h1 h2 h3 ⊢
 subst h1 h2 h3;unfold eZ at e7;generalize e8:aL 0 16 l6 f6=a8 at e7;obtain⟨n,l8,f8⟩:=a8;simp only at e7;have B1:∀ c∈l1,0≤c∧c<256:=by have:=aT (low:=(E:Int)) (high:=(E:Int)) (f:=false) hb;rw[e1]at this;exact this
 have B2:∀ c∈l2,0≤c∧c<256:=by have:=aT (low:=(ks.length:Int)) (high:=(ks.length:Int)) (f:=f1) B1;rw[e2]at this;exact this
 have B3:∀ c∈l3,0≤c∧c<256:=by have:=aT (low:=0) (high:=1000000000000) (f:=f2) B2;rw[e3]at this;exact this
 have B4:∀ c∈l4,0≤c∧c<256:=by have:=aT (low:=1) (high:=1000000000) (f:=f3) B3;rw[e4]at this;exact this
 have B5:∀ c∈l5,0≤c∧c<256:=by have:=aT (low:=0) (high:=(draws.length:Int)) (f:=f4) B4;rw[e5]at this;exact this
 have f8z:f8=false:=by
  cases f8 with
  | false=>rfl
  | true=>
   have:=pK (E:Int) ks.length v4 n.toNat v3 0 [] l8;rw[e7]at this;cases this
 subst f8z;have f6z:f6=false:=by
  cases f6 with
  | false=>rfl
  | true=>have:=aCu 0 16 l6;rw[e8]at this;cases this
 subst f6z;obtain⟨f5z,hg1,hg2,hl5⟩:=wL _ _ _ _ _ _ _ B5 e6;subst f5z;have B6:∀ c∈l6,0≤c∧c<256:=iI B5 hl5;obtain⟨_,n1,n2,n3,hl6⟩:=bU B6 e8;have B8:∀ c∈l8,0≤c∧c<256:=iI B6 hl6;obtain⟨f4z,c1,c2,c3,hl4⟩:=bU B4 e5;subst f4z;obtain⟨f3z,x1,x2,x3,hl3⟩:=bU B3 e4;subst f3z;obtain⟨f2z,y1,y2,y3,hl2⟩:=bU B2 e3;subst f2z;obtain⟨f1z,z1,z2,z3,hl1⟩:=bU B1 e2;subst f1z;obtain⟨_,t1,t2,t3,hl0⟩:=bU hb e1;obtain⟨_,qs1,qs2,qs3,qs,hqs,hql,hl8⟩:=wM (E:Int) ks.length v4 v3 _ v3 0 [] q l8 [] false B8 e7 (by simp[cE]) (by simp[Distinct]) (Int.le_refl _) (by simp) (by simp) (by omega)
 have hqe:q=qs:=by rw[hqs];simp
 have hregs:∀ j,-1000000000≤g j∧g j≤1000000000:=by
  intro j
  by_cases hj:0≤j∧j<0+E*4
  ·exact hg1 j hj
  ·rw[hg2 j hj];simp[ks0]
 refine⟨⟨⟨?_,⟨y1,y2⟩,⟨x1,x2⟩,hregs,qs3,?_⟩,⟨qs1,qs2⟩⟩,?_,?_⟩
 ·show v5.toNat≤draws.length;omega
 ·show q.length≤16;rw[hqe,hql];omega
 ·intro j hj;show g j=0;rw[hg2 j (by simp at hj;omega)]
  rfl
 ·have hv1:v1=(E:Int):=by omega
  have hv2:v2=(ks.length:Int):=by omega
  have hv5:((v5.toNat:Nat):Int)=v5:=by omega
  have hn:((q.length:Nat):Int)=n:=by rw[hqe,hql];omega
  unfold fL;simp only[Int.toNat_natCast];have hrb:fT ⟨v5.toNat,v3,v4,g,q⟩ (E*4)=(List.range' 0 (E*4)).flatMap (fun k=>cJ (g k)):=by
   unfold fT;rw[List.range_eq_range']
  rw[hrb,hv5,hn,←hv1,←hv2,hl0,hl1,hl2,hl3,hl4,hl5,hl6,hl8,hqe];simp
def iX(E nk dl:Nat)(l:List Int):Int:=if aU [84,77,80,1] l≠0 then aU [84,77,80,1] l else if (gX E nk dl (aK l)).2.2 then 4 else if dL (E:Int) nk (gX E nk dl (aK l)).1=l then 0 else 4
theorem qN{l:List Int}(hb:∀ c∈l,0≤c∧c<256):∀ c∈aK l,0≤c∧c<256:=fun c hc=>hb c (List.mem_of_mem_take (List.mem_of_mem_drop hc))
theorem aAw{l:List Int}(h:aU [84,77,80,1] l=0):l=([84,77,80,1]++aK l)++fE ([84,77,80,1]++aK l):=by
 obtain⟨h8,h4,hs⟩:=iW h;have e1:l.take (l.length-4)=[84,77,80,1]++aK l:=by
  unfold aK;have h5:(l.take (l.length-4)).take 4=[84,77,80,1]:=by
   rw[List.take_take,Nat.min_eq_left (by omega)];exact h4
  rw[←h5];exact(List.take_append_drop 4 _).symm
 rw[←e1,←hs];exact(List.take_append_drop _ _).symm
theorem aF1(E:Nat)(ks:List (List Ins))(draws:List Int)(l:List Int)(hl:ks.length≤8)(he:1≤E∧E≤8)(hdl:draws.length≤1000)(hb:∀ c∈l,0≤c∧c<256) :
  iX E ks.length draws.length l=jH E ks.length draws.length l∧(jH E ks.length draws.length l=0→(gX E ks.length draws.length (aK l)).1=(gI E ks.length draws.length (aK l)).2.1∧Fit (E:Int) ks draws (gX E ks.length draws.length (aK l)).1∧nB (E:Int) (gX E ks.length draws.length (aK l)).1):=by
 unfold iX jH
 by_cases h0:aU [84,77,80,1] l=0
 ·simp only[ne_eq,h0,not_true_eq_false,if_false];have hbo:=qN hb;cases hk:oP E ks.length draws.length (aK l)with
  | true=>
   obtain⟨hf,hz,hbd⟩:=aDf E ks draws (aK l) hbo hk;have hK:=aDe E ks draws _ hl hf hz he hdl;rw[←hbd]at hK;rw[hK];have hsv:dL (E:Int) ks.length (gI E ks.length draws.length (aK l)).2.1=l:=by
    unfold dL mL;rw[←hbd];exact(aAw h0).symm
   simp only[Bool.false_eq_true,if_false,if_true];rw[if_pos hsv];exact⟨by trivial,fun _=>⟨by trivial,hf,hz⟩⟩
  | false=>
   simp only[Bool.false_eq_true,if_false];cases hkl:(gX E ks.length draws.length (aK l)).2.2 with
   | true=>simp
   | false=>
    simp only[Bool.false_eq_true,if_false];obtain⟨hf,hz⟩:=wK E ks draws (aK l) hbo hkl;have hne:¬dL (E:Int) ks.length (gX E ks.length draws.length (aK l)).1=l:=by
     intro hc;have hbd:aK l=fL (E:Int) ks.length (gX E ks.length draws.length (aK l)).1:=by
      have h1:aK (dL (E:Int) ks.length (gX E ks.length draws.length (aK l)).1)=fL (E:Int) ks.length (gX E ks.length draws.length (aK l)).1:=by
       unfold dL mL;exact oK _ _ rfl
      rw[←h1,hc]
     have hkb:=rW E ks draws _ hl hf hz he hdl;rw[←hbd]at hkb;unfold oP at hk;rw[hkb]at hk;simp at hk
    rw[if_neg hne];simp
 ·simp only[ne_eq,h0,not_false_eq_true,if_true];exact⟨trivial,fun h=>False.elim h⟩
structure mB(w:World)(lo rb:Nat)(ents:Int)(ks:List (List Ins))(draws:List Int)(m:Nat):Prop where
 body:∃ gb kv dv,lo≤gb∧gb<w.heap.size∧gb≠rb∧w.cell? ⟨rb,0,none⟩=some (.int .i64 ents)∧w.cell? ⟨rb,1,none⟩=some kv∧w.cell? ⟨rb,2,none⟩=some dv∧w.cell? ⟨rb,3,none⟩=some (.int .i64 0)∧w.cell? ⟨rb,4,none⟩=some (.int .i64 0)∧w.cell? ⟨rb,5,none⟩=some (.int .i64 1)∧w.cell? ⟨rb,6,none⟩=some (.slice (some ⟨gb,0,none⟩) m m)∧w.cell? ⟨rb,7,none⟩=some (.slice none 0 0) ∧
  Room w gb m∧RowAt w gb 0 (ints (List.replicate m 0))∧KindsIn (fun b=>lo≤b∧b<w.heap.size∧b≠rb∧b≠gb) w kv ks∧IntsIn (fun b=>lo≤b∧b<w.heap.size∧b≠rb∧b≠gb) w dv draws
 room:Room w rb 8
theorem sS(X:World)(lo rb gb:Nat)(T:TypeId)(ents:Int)(kv dv:Value)(ks:List (List Ins))(draws:List Int)(m:Nat)(hrb:rb=X.heap.size)(hlo:lo≤X.heap.size)(hg:lo≤gb∧gb<X.heap.size)(hro:Room X gb m)(hrw:RowAt X gb 0 (ints (List.replicate m 0)))
  (hk:KindsIn (fun b=>(lo≤b∧b<X.heap.size)∧b≠gb) X kv ks) (hd:IntsIn (fun b=>(lo≤b∧b<X.heap.size)∧b≠gb) X dv draws) :
  mB (X.alloc (.cells #[.int .i64 ents,kv,dv,.int .i64 0,.int .i64 0,.int .i64 1,.slice (some ⟨gb,0,none⟩) m m,.slice none 0 0] T)) lo rb ents ks draws m:=by
 subst hrb;have hb:=(Below.refl X.heap.size X).alloc (Nat.le_refl _) (.cells #[.int .i64 ents,kv,dv,.int .i64 0,.int .i64 0,.int .i64 1,.slice (some ⟨gb,0,none⟩) m m,.slice none 0 0] T);have ho:=Only.new (S:=fun _=>False) hb;have hat:∀ i,(X.alloc (.cells #[.int .i64 ents,kv,dv,.int .i64 0,.int .i64 0,.int .i64 1,.slice (some ⟨gb,0,none⟩) m m,.slice none 0 0] T)).cell? ⟨X.heap.size,i,none⟩=_:=fun i=>World.cell?_alloc_at _ _ _ _ rfl;have hR:∀ b,(lo≤b∧b<X.heap.size)∧b≠gb→lo≤b∧b<(X.alloc (.cells #[.int .i64 ents,kv,dv,.int .i64 0,.int .i64 0,.int .i64 1,.slice (some ⟨gb,0,none⟩) m m,.slice none 0 0] T)).heap.size∧b≠X.heap.size∧b≠gb:=by intro b hb;simp;omega
 refine⟨⟨gb,kv,dv,hg.1,by simp;omega,by omega,(hat 0).trans rfl,(hat 1).trans rfl,(hat 2).trans rfl,(hat 3).trans rfl,(hat 4).trans rfl,(hat 5).trans rfl,(hat 6).trans rfl,(hat 7).trans rfl,hro.below hb hg.2,hrw.below hb hg.2,(hk.only ho (by simp)).mono hR,(hd.only ho (by simp)).mono hR⟩,?_⟩
 intro j hj;rw[hat,World.frozen?_alloc_at _ _ _ _ rfl];have:j=0∨j=1∨j=2∨j=3∨j=4∨j=5∨j=6∨j=7:=by omega
 rcases this with rfl|rfl|rfl|rfl|rfl|rfl|rfl|rfl<;>exact⟨rfl,rfl⟩
theorem qB{w wr w3:World}{ents:Int}{kv:Value}{dv:Value}{ks:List (List Ins)}{draws:List Int}(hbb:Below w.heap.size w wr)(hb3:Below wr.heap.size wr w3)
  (hK3:KindsIn (fun b=>wr.heap.size≤b∧b<w3.heap.size) w3 kv ks) (hd:IntsIn (fun b=>w.heap.size≤b∧b<wr.heap.size) wr dv draws) (m:Nat) (T:TypeId) (hm:m≤17592186044416) :
  Below w.heap.size w ((w3.alloc (.cells (madeCells #[.int .i64 0] m) 3)).alloc (.cells #[.int .i64 ents,kv,dv,.int .i64 0,.int .i64 0,.int .i64 1,.slice (some ⟨w3.heap.size,0,none⟩) m m,.slice none 0 0] T))∧w.heap.size≤w3.heap.size+1 ∧
  w3.heap.size+1<((w3.alloc (.cells (madeCells #[.int .i64 0] m) 3)).alloc (.cells #[.int .i64 ents,kv,dv,.int .i64 0,.int .i64 0,.int .i64 1,.slice (some ⟨w3.heap.size,0,none⟩) m m,.slice none 0 0] T)).heap.size ∧
  mB ((w3.alloc (.cells (madeCells #[.int .i64 0] m) 3)).alloc (.cells #[.int .i64 ents,kv,dv,.int .i64 0,.int .i64 0,.int .i64 1,.slice (some ⟨w3.heap.size,0,none⟩) m m,.slice none 0 0] T)) w.heap.size (w3.heap.size+1) ents ks draws m:=by
 obtain⟨X,hX⟩:∃ X,X=w3.alloc (.cells (madeCells #[.int .i64 0] m) 3):=⟨_,rfl⟩;have hXs:X.heap.size=w3.heap.size+1:=by rw[hX];simp
 have hXb:Below w3.heap.size w3 X:=by rw[hX];exact(Below.refl _ _).alloc (Nat.le_refl _) _
 have hz1:=hbb.size;have hz3:=hb3.size;have hrw:RowAt X w3.heap.size 0 (ints (List.replicate m 0)):=by rw[hX,←gC];exact mA w3 _ m _
 have hro:Room X w3.heap.size m:=by rw[hX];exact gL w3 _ m _
 rw[←hX];refine⟨hbb.trans ((hb3.mono (by omega)).trans ((hXb.mono (by omega)).trans ((Below.refl _ _).alloc (by omega) _))),by omega,by simp[hXs],?_⟩
 refine sS X w.heap.size _ w3.heap.size T ents kv dv ks draws m hXs.symm (by omega) (by omega) hro hrw ?_ ?_
 ·exact(hK3.only (Only.new (S:=fun _=>False) hXb) (by simp)).mono (by intro b hb;omega)
 ·exact((hd.only (Only.new (S:=fun _=>False) hb3) (by simp)).only (Only.new (S:=fun _=>False) hXb) (by simp)).mono (by intro b hb;omega)
theorem qC{w wr w3:World}{ents:Int}{kv:Value}{dv:Value}{ks:List (List Ins)}{draws:List Int}{m:Nat}(hbb:Below w.heap.size w wr)(hb3:Below (wr.heap.size+1) (wr.alloc (.cells (madeCells #[.int .i64 0] m) 3)) w3)
  (hK3:KindsIn (fun b=>wr.heap.size+1≤b∧b<w3.heap.size) w3 kv ks) (hd:IntsIn (fun b=>w.heap.size≤b∧b<wr.heap.size) wr dv draws) (T:TypeId) (hm:m≤17592186044416) :
  Below w.heap.size w (w3.alloc (.cells #[.int .i64 ents,kv,dv,.int .i64 0,.int .i64 0,.int .i64 1,.slice (some ⟨wr.heap.size,0,none⟩) m m,.slice none 0 0] T))∧w.heap.size≤w3.heap.size ∧
  w3.heap.size<(w3.alloc (.cells #[.int .i64 ents,kv,dv,.int .i64 0,.int .i64 0,.int .i64 1,.slice (some ⟨wr.heap.size,0,none⟩) m m,.slice none 0 0] T)).heap.size ∧
  mB (w3.alloc (.cells #[.int .i64 ents,kv,dv,.int .i64 0,.int .i64 0,.int .i64 1,.slice (some ⟨wr.heap.size,0,none⟩) m m,.slice none 0 0] T)) w.heap.size w3.heap.size ents ks draws m:=by
 have hz1:=hbb.size;have hz3:=hb3.size;rw[World.size_alloc]at hz3;have hb0:=(Below.refl wr.heap.size wr).alloc (Nat.le_refl _) (.cells (madeCells #[.int .i64 0] m) 3);have hrw:RowAt w3 wr.heap.size 0 (ints (List.replicate m 0)):=by rw[←gC];exact(mA wr _ m _).below hb3 (by omega)
 have hro:Room w3 wr.heap.size m:=(gL wr _ m _).below hb3 (by omega)
 refine⟨hbb.trans ((hb0.mono (by omega)).trans ((hb3.mono (by omega)).trans ((Below.refl _ _).alloc (by omega) _))),by omega,by simp,?_⟩
 refine sS w3 w.heap.size _ wr.heap.size T ents kv dv ks draws m rfl (by omega) (by omega) hro hrw ?_ ?_
 ·exact hK3.mono (by intro b hb;omega)
 ·exact((hd.only (Only.new (S:=fun _=>False) hb0) (by simp)).only (Only.ofBelow (S:=fun k=>wr.heap.size+1≤k) hb3 (fun k h _=>h)) (by intro b hb;omega)).mono (by intro b hb;omega)
theorem aAd(ents:Int)(b off cap:Nat)(dv:Value)(ks:List (List Ins))(draws:List Int)(w:World)(hl:ks.length≤5864062014805)(hbw:b<w.heap.size)(hK:KindsAt w.heap.size w b off ks)(hd:IntsIn (·<w.heap.size) w dv draws)(hk:bE ents ks=none) :
  Calls Tryz.prog 27 #[.agg #[.int .i64 ents,.slice (some ⟨b,off,none⟩) ks.length cap],dv] w
   fun e w'=>(dN draws=false∧e=.returned (.tuple #[.pointer none,.int .i64 1])∧Below w.heap.size w w')∨(dN draws=true∧∃ rb,e=.returned (.tuple #[.pointer (some ⟨rb,0,none⟩),.int .i64 0])∧Below w.heap.size w w'∧w.heap.size≤rb∧rb<w'.heap.size ∧
    mB w' w.heap.size rb ents ks draws (ents*4).toNat):=by
 have hents:1≤ents∧ents≤8:=by
  unfold bE at hk
  split at hk
  ·simp at hk
  ·rename_i h;simp[inB]at h;omega
 obtain⟨he1,he2⟩:=hents;have HV:Hid (bO ents ks=.tuple #[.int .i64 0,.int .i64 0,.int .i64 0]):=by show _=_;simp[bO,hk]
 clear hk;have hmk:∀ W:World,(Instr.makeSlice 24 (.int .i64 (ents*4)) (.int .i64 (ents*4))).run Tryz.prog W=.ok (.slice (some ⟨W.heap.size,0,none⟩) (ents*4).toNat (ents*4).toNat) (W.alloc (.cells (madeCells #[.int .i64 0] (ents*4).toNat) 3)):=by
  intro W;obtain⟨i,hi,hz,hsz,hby⟩:=info_parts Tryz.info3;have:=run_make (P:=Tryz.prog) W 24 3 i (.int .i64 0) Tryz.underlying24 hi hz .i64 .i64 (ents*4) (ents*4) (by omega) (Int.le_refl _) (by rw[hby];omega) (by omega)
  rw[hsz]at this;simp only[Nat.mul_one]at this;exact this
 have hwrap:IntKind.i64.wrap (ents*4)=ents*4:=by rw[IntKind.wrap_i64];omega
 obtain⟨da,dc,rfl⟩:=hd.form
 go_enter Tryz.func27,Tryz.ntmps27
 go_wp2_with fail
 have hv:KindsV w.heap.size w (.slice (some ⟨b,off,none⟩) ks.length cap) ks:=⟨hl,.inr (.inl ⟨b,off,cap,rfl,hbw,hK⟩)⟩;refine(fO ents _ ks _ ((hv.below ((Below.refl _ _).alloc (Nat.le_refl _) _)).mono (by simp))).mono ?_
 rintro e w1 ⟨rfl,hb1⟩;rw[HV.out];have hb2:Below w.heap.size w w1:=((Below.refl _ _).alloc (Nat.le_refl _) _).trans (hb1.mono (by simp))
 have hm0:w1.cell? ⟨w.heap.size,0,none⟩=some (.int .i64 ents):=aA hb1 (by simp[go_sem]) (by simp)
 have hm1:w1.cell? ⟨w.heap.size,1,none⟩=some (.slice (some ⟨b,off,none⟩) ks.length cap):=aA hb1 (by simp[go_sem]) (by simp)
 have hz1:w.heap.size<w1.heap.size:=by have:=hb1.size;simp at this;omega
 clear hb1
 by_cases hlong:draws.length≤1000
 ·have h1000:decide (1000<(draws.length:Int))=false:=by simp;omega
  have HD:Hid (dN draws=draws.all jX):=by show _=_;simp[dN,hlong]
  go_wp2
  go_loopw [9,10,11] (fun lv i _ wr=>∃ (k:Nat) (oa:Option Addr) (oc:Nat),k≤draws.length∧i=.int .i64 k∧lv=.slice oa k oc∧Below w1.heap.size w1 wr∧Hid (wr.ownsRow w1.heap.size 3 1 (.slice oa k oc) k (ints (draws.take k)))∧Hid (∀ x∈draws.take k,jX x=true)) (fun _ i _ _=>draws.length-(intOf i).toNat)
  case atStart=>exact⟨0,none,0,by omega,rfl,rfl,Below.refl _ _,World.ownsRow_nil _ _ _ _,by intro x hx;simp at hx⟩
  case round=>
   obtain⟨k,oa,oc,hkl,rfl,rfl,hbel,hown,hall⟩:=hrel
   by_cases hlt:k<draws.length
   ·obtain⟨_,⟨_,h0⟩|⟨db,doff,dcap,hde,hdb,hdr⟩⟩:=hd
    ·rw[h0]at hlt;simp at hlt
    ·simp only[Value.slice.injEq]at hde;obtain⟨rfl,-,rfl⟩:=hde;have hx:wr.cell? ⟨db,doff+k,none⟩=some (.int .i64 draws[k]):=aA hbel (aA hb2 (hdr k _ (by simp[ints,hlt])) hdb) (by omega)
     rcases hm:jX draws[k]with _|_
     ·have hm':inB draws[k] 0 1000000000=false:=hm;have HN:Hid (dN draws=false):=by
       show _=_;rw[HD.out];simp only[List.all_eq_false];exact⟨draws[k],by simp,by simp[hm]⟩
      clear hm
      go_wp2_with (go_at_call 57;refine(dF _ _ _ _).mono ?_;rintro e w' ⟨rfl,rfl⟩)
      go_ret2;exact .inl ⟨HN.out,rfl,hb2.trans (hbel.mono (by omega))⟩
     ·have hm':inB draws[k] 0 1000000000=true:=hm;have Hm:=aB hm;clear hm
      go_wp2_with (first|(go_at_call 57;refine(dF _ _ _ _).mono ?_;rintro e w' ⟨rfl,rfl⟩)|(at_builtin;refine aD rfl (.tmp 37) (.tmp 42) 24 rfl w1.heap.size 3 (.int .i64 0) 1 8 Tryz.underlying24 Tryz.info3 rfl (by omega) _ k (ints (draws.take k)) rfl (hown.out.alloc _) _ 1 [.int .i64 draws[k]] rfl (.inr (.inl ⟨_,0,_,rfl,?_⟩)) rfl (by simp[Value.oneCell']) (by omega) (by omega) (by have:=hbel.size;simp;omega) ?_))
      ·intro j u hu;have:j=0:=by have:=(List.getElem?_eq_some_iff.1 hu).1;simp at this;omega
       subst this;simp at hu;subst hu;simp[go_sem]
      intro v2 w2 hown2 hgr2 hwh2;obtain⟨sa2,sc2,rfl⟩:=bF hown2.out;have hb3:Below w1.heap.size w1 w2:=(hbel.alloc hbel.size _).grown hgr2.out (by have:=hbel.size;simp;omega) (fun b hb=>(hown.out.lt b hb).1)
      have hints:ints (draws.take k)++[.int .i64 draws[k]]=ints (draws.take (k+1)):=mC hlt;rw[hints]at hown2;clear hints
      go_wp2
      go_roundw
      case rel=>exact⟨k+1,sa2,sc2,by omega,by go_num,rfl,hb3,hown2,yH hlt hall.out Hm.out⟩
      case measure=>simp[intOf];omega
   ·have hk':k=draws.length:=by omega
    subst hk';rw[List.take_length]at hown hall;have HT:Hid (dN draws=true):=by show _=_;rw[HD.out];simpa using hall.out
    have hdr:=oT hown.out hd.1;have Hdr:=aB hdr;have gm0:=aA hbel hm0 hz1;have gm1:=aA hbel hm1 hz1;have hbb:=hb2.trans (hbel.mono (by omega))
    have hzr:w.heap.size<wr.heap.size:=by have:=hbel.size;omega
    have HK:Hid (∀ W,Below wr.heap.size wr W→KindsAt W.heap.size W b off ks):=by
     intro W hW;have:=hW.size;exact(hK.below (hbb.trans (hW.mono (by omega))) hbw (Nat.le_refl _)).mono (by omega)
    clear hm0 hm1 hdr hall
    go_wp2
    go_region_with (go_at_call 63;refine(kQ ents b off cap ks _ hl (by simp;omega) (HK.out _ (by first|exact(Below.refl _ _).drew|exact((Below.refl _ _).alloc (Nat.le_refl _) _).drew|exact((Below.refl _ _).drew).alloc (Nat.le_refl _) _))).mono ?_;rintro e w3 ⟨sa,sc,rfl,hb3,hK3⟩;have q0:w3.cell? ⟨w.heap.size,0,none⟩=some (.int .i64 ents):=aA hb3 (by first|exact gm0|exact aA ((Below.refl _ _).alloc (Nat.le_refl _) _) gm0 hzr) (by simp;omega);have q1:w3.cell? ⟨w.heap.size,1,none⟩=some (.slice (some ⟨b,off,none⟩) ks.length cap):=aA hb3 (by first|exact gm1|exact aA ((Below.refl _ _).alloc (Nat.le_refl _) _) gm1 hzr) (by simp;omega))
    all_goals
     go_wp2
     go_ret2
     first
      | (have hb3':Below wr.heap.size wr w3:=(Below.refl _ _).drew.trans hb3
         exact .inr ⟨HT.out,w3.heap.size+1,by simp[Act.put],qB hbb hb3' hK3 (Hdr.out.mono (by intro b hb;omega)) _ _ (by omega)⟩)
      | (have hb3':Below (wr.heap.size+1) (wr.alloc (.cells (madeCells #[.int .i64 0] (ents*4).toNat) 3)) w3:=(Below.refl _ _).drew.trans (by simpa using hb3)
         exact .inr ⟨HT.out,w3.heap.size,by simp[Act.put],qC hbb hb3' (by simpa using hK3) (Hdr.out.mono (by intro b hb;omega)) _ (by omega)⟩)
 ·have h1000:decide (1000<(draws.length:Int))=true:=by simp;omega
  have HD:Hid (dN draws=false):=by show _=_;simp[dN,hlong]
  go_wp2
  go_ret2;exact .inl ⟨HD.out,rfl,hb2⟩
theorem xD(ents:Int)(b off cap:Nat)(da:Addr)(dc:Nat)(ks:List (List Ins))(w:World)(hl:ks.length≤5864062014805)(hbw:b<w.heap.size)(hK:KindsAt w.heap.size w b off ks)(hk:bE ents ks=none) :
  Calls Tryz.prog 27 #[.agg #[.int .i64 ents,.slice (some ⟨b,off,none⟩) ks.length cap],.slice (some da) 0 dc] w
   fun e w'=>∃ rb,e=.returned (.tuple #[.pointer (some ⟨rb,0,none⟩),.int .i64 0])∧Below w.heap.size w w'∧w.heap.size≤rb∧rb<w'.heap.size ∧
    mB w' w.heap.size rb ents ks [] (ents*4).toNat:=by
 have hents:1≤ents∧ents≤8:=by
  unfold bE at hk
  split at hk
  ·simp at hk
  ·rename_i h;simp[inB]at h;omega
 obtain⟨he1,he2⟩:=hents;have HV:Hid (bO ents ks=.tuple #[.int .i64 0,.int .i64 0,.int .i64 0]):=by show _=_;simp[bO,hk]
 clear hk;have hmk:∀ W:World,(Instr.makeSlice 24 (.int .i64 (ents*4)) (.int .i64 (ents*4))).run Tryz.prog W=.ok (.slice (some ⟨W.heap.size,0,none⟩) (ents*4).toNat (ents*4).toNat) (W.alloc (.cells (madeCells #[.int .i64 0] (ents*4).toNat) 3)):=by
  intro W;obtain⟨i,hi,hz,hsz,hby⟩:=info_parts Tryz.info3;have:=run_make (P:=Tryz.prog) W 24 3 i (.int .i64 0) Tryz.underlying24 hi hz .i64 .i64 (ents*4) (ents*4) (by omega) (Int.le_refl _) (by rw[hby];omega) (by omega)
  rw[hsz]at this;simp only[Nat.mul_one]at this;exact this
 have hwrap:IntKind.i64.wrap (ents*4)=ents*4:=by rw[IntKind.wrap_i64];omega
 go_enter Tryz.func27,Tryz.ntmps27
 go_wp2_with fail
 have hv:KindsV w.heap.size w (.slice (some ⟨b,off,none⟩) ks.length cap) ks:=⟨hl,.inr (.inl ⟨b,off,cap,rfl,hbw,hK⟩)⟩;refine(fO ents _ ks _ ((hv.below ((Below.refl _ _).alloc (Nat.le_refl _) _)).mono (by simp))).mono ?_
 rintro e w1 ⟨rfl,hb1⟩;rw[HV.out];have hb2:Below w.heap.size w w1:=((Below.refl _ _).alloc (Nat.le_refl _) _).trans (hb1.mono (by simp))
 have hm0:w1.cell? ⟨w.heap.size,0,none⟩=some (.int .i64 ents):=aA hb1 (by simp[go_sem]) (by simp)
 have hm1:w1.cell? ⟨w.heap.size,1,none⟩=some (.slice (some ⟨b,off,none⟩) ks.length cap):=aA hb1 (by simp[go_sem]) (by simp)
 have hz1:w.heap.size<w1.heap.size:=by have:=hb1.size;simp at this;omega
 clear hb1
 go_wp2
 go_loopw [9,10,11] (fun lv i _ wr=>i=.int .i64 0∧lv=.slice none 0 0∧Below w1.heap.size w1 wr) (fun _ _ _ _=>0)
 case atStart=>exact⟨rfl,rfl,Below.refl _ _⟩
 case round=>
  obtain⟨rfl,rfl,hbel⟩:=hrel;have Hdr:Hid (IntsIn (fun b=>w.heap.size≤b∧b<wr.heap.size) wr (.slice none 0 0) []):=⟨by simp,.inl ⟨rfl,rfl⟩⟩
  have gm0:=aA hbel hm0 hz1;have gm1:=aA hbel hm1 hz1;have hbb:=hb2.trans (hbel.mono (by omega))
  have hzr:w.heap.size<wr.heap.size:=by have:=hbel.size;omega
  have HK:Hid (∀ W,Below wr.heap.size wr W→KindsAt W.heap.size W b off ks):=by
   intro W hW;have:=hW.size;exact(hK.below (hbb.trans (hW.mono (by omega))) hbw (Nat.le_refl _)).mono (by omega)
  clear hm0 hm1
  go_wp2
  go_region_with (go_at_call 63;refine(kQ ents b off cap ks _ hl (by simp;omega) (HK.out _ (by first|exact(Below.refl _ _).drew|exact((Below.refl _ _).alloc (Nat.le_refl _) _).drew|exact((Below.refl _ _).drew).alloc (Nat.le_refl _) _))).mono ?_;rintro e w3 ⟨sa,sc,rfl,hb3,hK3⟩;have q0:w3.cell? ⟨w.heap.size,0,none⟩=some (.int .i64 ents):=aA hb3 (by first|exact gm0|exact aA ((Below.refl _ _).alloc (Nat.le_refl _) _) gm0 hzr) (by simp;omega);have q1:w3.cell? ⟨w.heap.size,1,none⟩=some (.slice (some ⟨b,off,none⟩) ks.length cap):=aA hb3 (by first|exact gm1|exact aA ((Below.refl _ _).alloc (Nat.le_refl _) _) gm1 hzr) (by simp;omega))
  all_goals
   go_wp2
   go_ret2
   first
    | (have hb3':Below wr.heap.size wr w3:=(Below.refl _ _).drew.trans hb3
       exact⟨w3.heap.size+1,by simp[Act.put],qB hbb hb3' hK3 Hdr.out _ _ (by omega)⟩)
    | (have hb3':Below (wr.heap.size+1) (wr.alloc (.cells (madeCells #[.int .i64 0] (ents*4).toNat) 3)) w3:=(Below.refl _ _).drew.trans (by simpa using hb3)
       exact⟨w3.heap.size,by simp[Act.put],qC hbb hb3' (by simpa using hK3) Hdr.out _ (by omega)⟩)
theorem yG(ents:Int)(b off cap:Nat)(dv:Value)(ks:List (List Ins))(draws:List Int)(w:World)(hl:ks.length≤5864062014805)(hbw:b<w.heap.size)(hK:KindsAt w.heap.size w b off ks)(hd:IntsX w.heap.size w dv draws)(hk:bE ents ks=none) :
  Calls Tryz.prog 27 #[.agg #[.int .i64 ents,.slice (some ⟨b,off,none⟩) ks.length cap],dv] w
   fun e w'=>(dN draws=false∧e=.returned (.tuple #[.pointer none,.int .i64 1])∧Below w.heap.size w w')∨(dN draws=true∧∃ rb,e=.returned (.tuple #[.pointer (some ⟨rb,0,none⟩),.int .i64 0])∧Below w.heap.size w w'∧w.heap.size≤rb∧rb<w'.heap.size ∧
    mB w' w.heap.size rb ents ks draws (ents*4).toNat):=by
 rcases hd with hd|⟨da,dc,rfl,rfl⟩
 ·exact aAd ents b off cap dv ks draws w hl hbw hK hd hk
 ·refine(xD ents b off cap da dc ks w hl hbw hK hk).mono ?_;rintro e w' h;exact .inr ⟨rfl,h⟩
end Go.Proofs.YtndlmgocldckfaaGreat
