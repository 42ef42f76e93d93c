import Derived.Test.YtndlmgocldckfaaGreatG03
import Derived.Test.YtndlmgocldckfaaGreatG04
import Derived.Deep.LoopGhost
namespace Go.Proofs.YtndlmgocldckfaaGreat
open Go.RowKit
set_option linter.unusedVariables false
set_option linter.unusedSimpArgs false
set_option maxRecDepth 100000
set_option maxHeartbeats 4000000
attribute [local go_sem] jJ
structure RcAt(w:World)(g o:Nat)(r:Rec)(v:Value):Prop where
 c0:w.cell? ⟨g,o,none⟩=some (.int .i64 r.e.number)
 c1:w.cell? ⟨g,o+1,none⟩=some (.int .i64 r.e.time)
 c2:w.cell? ⟨g,o+2,none⟩=some (.int .i64 r.e.kind)
 c3:w.cell? ⟨g,o+3,none⟩=some (.int .i64 r.e.entity)
 c4:w.cell? ⟨g,o+4,none⟩=some v
theorem RcAt.only{S:Nat→Prop}{w w':World}{g o:Nat}{r:Rec}{v:Value}(h:RcAt w g o r v)(ho:Only S w w')(hn:¬S g):RcAt w' g o r v:=
 ⟨ho.at h.c0 hn,ho.at h.c1 hn,ho.at h.c2 hn,ho.at h.c3 hn,ho.at h.c4 hn⟩
theorem RcAt.below{B:Nat}{w w':World}{g o:Nat}{r:Rec}{v:Value}(h:RcAt w g o r v)(hb:Below B w w')(hg:g<B):RcAt w' g o r v:=
 ⟨aA hb h.c0 hg,aA hb h.c1 hg,aA hb h.c2 hg,aA hb h.c3 hg,aA hb h.c4 hg⟩
theorem IntsX.told{B:Nat}{w:World}{sa:Option Addr}{sc n:Nat}{l:List Int}(h:IntsX B w (.slice sa n sc) l):ToldIn w sa l:=by
 intro k t ht;obtain⟨_,⟨_,rfl⟩|⟨b,off,cap,e,_,hr⟩⟩|⟨a,c,e,rfl⟩:=h
 ·simp at ht
 ·simp only[Value.slice.injEq]at e;exact⟨b,off,e.1,hr k (.int .i64 t) (by simp[ints,ht])⟩
 ·simp at ht
theorem LentV.told{lo:Nat}{w:World}{v:Value}{sa:Option Addr}{sc:Nat}{l:List Int}(h:LentV lo w v sa sc l):ToldIn w sa l:=by
 intro k t ht;rcases h with⟨_,rfl,rfl,rfl⟩|⟨g,rfl,rfl,_,_,_,h6,_⟩
 ·simp at ht
 ·exact⟨g,0,rfl,vL h6 k (.int .i64 t) (by simp[Go.Proofs.YtndlmgocldckfaaGreat.ints,ht])⟩
def RecsAtX(B:Nat)(w:World)(b off:Nat)(rs:List Rec):Prop:=∀ (i:Nat) r,rs[i]?=some r→∃ v,RcAt w b (off+i*5) r v∧IntsX B w v r.told
def RecsX(B:Nat)(w:World)(v:Value)(rs:List Rec):Prop:=rs.length≤1048576∧((v=.slice none 0 0∧rs=[])∨∃ a b off cap,v=.slice (some a) rs.length cap∧(0<rs.length→a=⟨b,off,none⟩∧b<B)∧RecsAtX B w b off rs)
theorem RecsAtX.below{B:Nat}{w w':World}{b off:Nat}{rs:List Rec}(h:RecsAtX B w b off rs)(hb:Below B w w')(hl:0<rs.length→b<B):RecsAtX B w' b off rs:=by
 intro i r hr;obtain⟨v,h1,h2⟩:=h i r hr;exact⟨v,h1.below hb (hl (by have:=(List.getElem?_eq_some_iff.1 hr).1;omega)),h2.below hb⟩
theorem RecsAtX.mono{B B':Nat}{w:World}{b off:Nat}{rs:List Rec}(h:RecsAtX B w b off rs)(hB:B≤B'):RecsAtX B' w b off rs:=by
 intro i r hr;obtain⟨v,h1,h2⟩:=h i r hr;exact⟨v,h1,h2.mono hB⟩
theorem RecsX.below{B:Nat}{w w':World}{v:Value}{rs:List Rec}(h:RecsX B w v rs)(hb:Below B w w'):RecsX B w' v rs:=by
 obtain⟨h0,h|⟨a,b,off,cap,h1,h2,h4⟩⟩:=h
 ·exact⟨h0,.inl h⟩
 ·exact⟨h0,.inr ⟨a,b,off,cap,h1,h2,h4.below hb (fun hp=>(h2 hp).2)⟩⟩
theorem RecsX.mono{B B':Nat}{w:World}{v:Value}{rs:List Rec}(h:RecsX B w v rs)(hB:B≤B'):RecsX B' w v rs:=by
 obtain⟨h0,h|⟨a,b,off,cap,h1,h2,h4⟩⟩:=h
 ·exact⟨h0,.inl h⟩
 ·exact⟨h0,.inr ⟨a,b,off,cap,h1,fun hp=>⟨(h2 hp).1,by have:=(h2 hp).2;omega⟩,h4.mono hB⟩⟩
theorem RecsX.recIn{B:Nat}{w:World}{v:Value}{rs:List Rec}(h:RecsX B w v rs):∃ a cap,v=.slice a rs.length cap∧RecIn w a rs:=by
 obtain⟨h0,⟨rfl,rfl⟩|⟨a,b,off,cap,rfl,h2,h4⟩⟩:=h
 ·exact⟨none,0,rfl,fun i r hr=>by simp at hr⟩
 ·refine⟨some a,cap,rfl,fun i r hr=>?_⟩;obtain⟨v,c,hi⟩:=h4 i r hr;obtain⟨sa,sc,rfl⟩:=hi.form;exact⟨b,off,sa,sc,by rw[(h2 (by have:=(List.getElem?_eq_some_iff.1 hr).1;omega)).1],c.c0,c.c1,c.c2,c.c3,c.c4,hi.told⟩
theorem RecsX.toldLen{B:Nat}{w:World}{v:Value}{rs:List Rec}(h:RecsX B w v rs):∀ r∈rs,r.told.length≤17592186044416:=by
 intro r hr;obtain⟨i,hi⟩:=List.getElem?_of_mem hr;obtain⟨h0,⟨rfl,rfl⟩|⟨a,b,off,cap,rfl,h2,h4⟩⟩:=h
 ·simp at hr
 ·obtain⟨v,c,hv⟩:=h4 i r hi;exact hv.len
def jA(w:World)(g o:Nat)(r:Rec)(v:Value):World:=((((w.setCell ⟨g,o,none⟩ (.int .i64 r.e.number)).setCell ⟨g,o+1,none⟩ (.int .i64 r.e.time)).setCell ⟨g,o+2,none⟩ (.int .i64 r.e.kind)).setCell ⟨g,o+3,none⟩ (.int .i64 r.e.entity)).setCell ⟨g,o+4,none⟩ v
theorem kN(w:World)(g o:Nat)(r:Rec)(v:Value):Only (·=g) w (jA w g o r v):=
 (((((Only.refl (·=g) w).setCell rfl _).setCell rfl _).setCell rfl _).setCell rfl _).setCell rfl _
theorem gO{w:World}{b n:Nat}(h:Room w b n)(g o:Nat)(r:Rec)(v:Value):Room (jA w g o r v) b n:=
 ((((h.setCell _ _).setCell _ _).setCell _ _).setCell _ _).setCell _ _
theorem aDj(w:World)(g o:Nat)(r:Rec)(v:Value):(jA w g o r v).heap.size=w.heap.size:=by simp[jA,World.setCell]
theorem cI(w:World)(g o:Nat)(r:Rec)(v:Value)(b j:Nat)(h:b≠g∨j<o∨o+5≤j):(jA w g o r v).cell? ⟨b,j,none⟩=w.cell? ⟨b,j,none⟩:=by
 unfold jA;rw[World.cell?_setCell_other _ _ _ _ (by simp;omega),World.cell?_setCell_other _ _ _ _ (by simp;omega),World.cell?_setCell_other _ _ _ _ (by simp;omega),World.cell?_setCell_other _ _ _ _ (by simp;omega),World.cell?_setCell_other _ _ _ _ (by simp;omega)]
theorem aBl{w:World}{g n:Nat}(h:Room w g n)(o:Nat)(ho:o+5≤n)(r:Rec)(v:Value):RcAt (jA w g o r v) g o r v:=by
 unfold jA;refine⟨?_,?_,?_,?_,?_⟩
 ·rw[World.cell?_setCell_other _ _ _ _ (by simp),World.cell?_setCell_other _ _ _ _ (by simp),World.cell?_setCell_other _ _ _ _ (by simp),World.cell?_setCell_other _ _ _ _ (by simp)]
  exact World.cell?_setCell_same' _ _ _ (h o (by omega)).1
 ·rw[World.cell?_setCell_other _ _ _ _ (by simp),World.cell?_setCell_other _ _ _ _ (by simp),World.cell?_setCell_other _ _ _ _ (by simp)]
  exact World.cell?_setCell_same' _ _ _ ((h.setCell _ _) (o+1) (by omega)).1
 ·rw[World.cell?_setCell_other _ _ _ _ (by simp),World.cell?_setCell_other _ _ _ _ (by simp)]
  exact World.cell?_setCell_same' _ _ _ (((h.setCell _ _).setCell _ _) (o+2) (by omega)).1
 ·rw[World.cell?_setCell_other _ _ _ _ (by simp)]
  exact World.cell?_setCell_same' _ _ _ ((((h.setCell _ _).setCell _ _).setCell _ _) (o+3) (by omega)).1
 ·exact World.cell?_setCell_same' _ _ _ (((((h.setCell _ _).setCell _ _).setCell _ _).setCell _ _) (o+4) (by omega)).1
structure LentR(lo hi:Nat)(w:World)(g h b off k:Nat)(ss:List (Option Addr×Nat))(rs:List Rec):Prop where
 len:ss.length=k
 le:k≤rs.length
 row:∀ (i:Nat) s r,ss[i]?=some s→rs[i]?=some r→RcAt w g (i*5) r (.slice s.1 r.told.length s.2)∧w.cell? ⟨h,i,none⟩=some (.slice s.1 r.told.length s.2)
 room:Room w g ((rs.length+8)*5)
 roomh:Room w h rs.length
 orig:∀ (i:Nat) r,rs[i]?=some r→∃ v,RcAt w b (off+i*5) r v∧IntsX lo w v r.told∧∀ s,ss[i]?=some s→LentV hi w v s.1 s.2 r.told
 sep:∀ (i:Nat) s c,ss[i]?=some s→s.1=some ⟨c,0,none⟩→c≠g∧c≠h∧hi≤c∧c<w.heap.size
 apart:∀ (i j:Nat) s s' c,ss[i]?=some s→ss[j]?=some s'→s.1=some ⟨c,0,none⟩→s'.1=some ⟨c,0,none⟩→i=j
 lohi:lo≤hi
 glo:hi≤g
 hlo:hi≤h
 ghi:g<w.heap.size
 hhi:h<w.heap.size
 gh:g≠h
 blo:b<lo
theorem LentR.only{S:Nat→Prop}{lo hi:Nat}{w w':World}{g h b off k:Nat}{ss:List (Option Addr×Nat)}{rs:List Rec}(x:LentR lo hi w g h b off k ss rs)(ho:Only S w w')(hS:∀ k,S k→lo≤k∧k<hi):LentR lo hi w' g h b off k ss rs:=by
 have hsz:=ho.size;have nhi:∀ c,hi≤c→¬S c:=fun c hc hs=>by have:=hS c hs;omega
 have nlo:∀ c,c<lo→¬S c:=fun c hc hs=>by have:=hS c hs;omega
 have hlt:lo≤w.heap.size:=by have:=x.lohi;have:=x.glo;have:=x.ghi;omega
 refine⟨x.len,x.le,?_,x.room.only ho (nhi _ x.glo),x.roomh.only ho (nhi _ x.hlo),?_,?_,x.apart,x.lohi,x.glo,x.hlo,by have:=x.ghi;omega,by have:=x.hhi;omega,x.gh,x.blo⟩
 ·intro i s r hs hr;obtain⟨h1,h2⟩:=x.row i s r hs hr;exact⟨h1.only ho (nhi _ x.glo),ho.at h2 (nhi _ x.hlo)⟩
 ·intro i r hr;obtain⟨v,h1,h2,h3⟩:=x.orig i r hr;exact⟨v,h1.only ho (nlo _ x.blo),h2.below (ho.below hlt nlo),fun s hs=>(h3 s hs).only ho nhi⟩
 ·intro i s c hs hc;obtain⟨h1,h2,h3,h4⟩:=x.sep i s c hs hc;exact⟨h1,h2,h3,by omega⟩
theorem LentR.below{lo hi:Nat}{w w':World}{g h b off k:Nat}{ss:List (Option Addr×Nat)}{rs:List Rec}(x:LentR lo hi w g h b off k ss rs)(hb:Below w.heap.size w w'):LentR lo hi w' g h b off k ss rs:=
 x.only (Only.new (S:=fun _=>False) hb) (by simp)
theorem LentR.recIn{lo hi:Nat}{w:World}{g h b off:Nat}{ss:List (Option Addr×Nat)}{rs:List Rec}(x:LentR lo hi w g h b off rs.length ss rs):RecIn w (some ⟨g,0,none⟩) rs:=by
 intro i r hr;have hi:i<rs.length:=(List.getElem?_eq_some_iff.1 hr).1;have hs:ss[i]?=some (ss[i]'(by rw[x.len];exact hi)):=List.getElem?_eq_getElem _
 generalize ss[i]'(by rw[x.len];exact hi)=s at hs
 obtain⟨c,_⟩:=x.row i s r hs hr;obtain⟨v,_,_,h3⟩:=x.orig i r hr;refine⟨g,0,s.1,s.2,rfl,?_,?_,?_,?_,?_,(h3 s hs).told⟩
 ·rw[Nat.zero_add];exact c.c0
 ·rw[Nat.zero_add];exact c.c1
 ·rw[Nat.zero_add];exact c.c2
 ·rw[Nat.zero_add];exact c.c3
 ·rw[Nat.zero_add];exact c.c4
theorem LentR.step{lo hi:Nat}{w:World}{g h b off k:Nat}{ss:List (Option Addr×Nat)}{rs:List Rec}(x:LentR lo hi w g h b off k ss rs)(hk:k<rs.length){v:Value}{sa:Option Addr}{sc m:Nat}(hv:w.cell? ⟨b,off+k*5+4,none⟩=some v)(hl:LentV m w v sa sc rs[k].told)(hm:hi≤m)(hf:∀ c,sa=some ⟨c,0,none⟩→c≠g∧c≠h∧∀ (i:Nat) s,ss[i]?=some s→s.1≠some ⟨c,0,none⟩)(v0:Value) :
  LentR lo hi (((jA w g (k*5) rs[k] v0).setCell ⟨g,k*5+4,none⟩ (.slice sa rs[k].told.length sc)).setCell ⟨h,k,none⟩ (.slice sa rs[k].told.length sc)) g h b off (k+1) (ss++[(sa,sc)]) rs:=by
 have hgh:=x.gh;have hlohi:=x.lohi;have hblo:=x.blo;have hglo:=x.glo;have hhlo:=x.hlo;have e1:jA w g (k*5) rs[k] v0=jA w g (k*5) rs[k] v0:=rfl;obtain⟨w',hw'⟩:∃ w',w'=((jA w g (k*5) rs[k] v0).setCell ⟨g,k*5+4,none⟩ (.slice sa rs[k].told.length sc)).setCell ⟨h,k,none⟩ (.slice sa rs[k].told.length sc):=⟨_,rfl⟩;rw[←hw'];have ho:Only (fun c=>c=g∨c=h) w w':=by
  rw[hw'];exact(((kN w g (k*5) rs[k] v0).mono (fun c _ hc=>.inl hc)).setCell (.inl rfl) _).setCell (.inr rfl) _
 have hsz:w'.heap.size=w.heap.size:=by rw[hw'];simp[World.setCell,jA]
 have other:∀ (b' o':Nat),(b'≠g∨o'<k*5∨k*5+5≤o')→(b'≠h∨o'≠k)→w'.cell? ⟨b',o',none⟩=w.cell? ⟨b',o',none⟩:=by
  intro b' o' h1 h2;rw[hw',World.cell?_setCell_other _ _ _ _ (by simp;try omega),World.cell?_setCell_other _ _ _ _ (by simp;try omega)]
  exact cI _ _ _ _ _ _ _ h1
 have hroom:Room w' g ((rs.length+8)*5):=by rw[hw'];exact((gO x.room _ _ _ _).setCell _ _).setCell _ _
 have hroomh:Room w' h rs.length:=by rw[hw'];exact((gO x.roomh _ _ _ _).setCell _ _).setCell _ _
 have hnew:RcAt w' g (k*5) rs[k] (.slice sa rs[k].told.length sc):=by
  have h0:=aBl x.room (k*5) (by omega) rs[k] v0
  have hc:∀ (j:Nat) u,j<k*5+4→(jA w g (k*5) rs[k] v0).cell? ⟨g,j,none⟩=some u→w'.cell? ⟨g,j,none⟩=some u:=by
   intro j u hj hu;rw[hw',World.cell?_setCell_other _ _ _ _ (by simp;try omega),World.cell?_setCell_other _ _ _ _ (by simp;try omega)]
   exact hu
  refine⟨hc _ _ (by omega) h0.c0,hc _ _ (by omega) h0.c1,hc _ _ (by omega) h0.c2,hc _ _ (by omega) h0.c3,?_⟩
  rw[hw',World.cell?_setCell_other _ _ _ _ (by simp;try omega)]
  exact World.cell?_setCell_same' _ _ _ ((gO x.room _ _ _ _) (k*5+4) (by omega)).1
 have hnewh:w'.cell? ⟨h,k,none⟩=some (.slice sa rs[k].told.length sc):=by
  rw[hw'];exact World.cell?_setCell_same' _ _ _ (((gO x.roomh _ _ _ _).setCell _ _) k hk).1
 have hkr:∀ r,rs[k]?=some r→r=rs[k]:=fun r hr=>by rw[List.getElem?_eq_getElem hk]at hr;exact(Option.some.inj hr).symm
 have look:∀ (i:Nat) s,(ss++[(sa,sc)])[i]?=some s→(i<k∧ss[i]?=some s)∨(i=k∧s=(sa,sc)):=by
  intro i s hs
  by_cases hi:i<k
  ·rw[List.getElem?_append_left (by rw[x.len];exact hi)]at hs;exact .inl ⟨hi,hs⟩
  ·rw[List.getElem?_append_right (by rw[x.len];omega),x.len]at hs
   have:i-k=0:=by
    have:=(List.getElem?_eq_some_iff.1 hs).1;simp at this;omega
   rw[this]at hs;simp at hs;exact .inr ⟨by omega,hs.symm⟩
 have hlt:∀ c,sa=some ⟨c,0,none⟩→m≤c∧c<w.heap.size:=by
  intro c hc;rcases hl with⟨_,e,_,_⟩|⟨g',e,_,_,e1,e2,_,_⟩
  ·rw[e]at hc;cases hc
  ·rw[e]at hc;simp only[Option.some.injEq,Addr.mk.injEq,and_true]at hc;omega
 refine⟨by simp[x.len],by omega,?_,hroom,hroomh,?_,?_,?_,hlohi,hglo,hhlo,by rw[hsz];exact x.ghi,by rw[hsz];exact x.hhi,hgh,hblo⟩
 ·intro i s r hs hr;rcases look i s hs with⟨hi,hs'⟩|⟨rfl,rfl⟩
  ·obtain⟨c,h2⟩:=x.row i s r hs' hr;exact⟨⟨(other g _ (by omega) (by omega)).trans c.c0,(other g _ (by omega) (by omega)).trans c.c1,(other g _ (by omega) (by omega)).trans c.c2,(other g _ (by omega) (by omega)).trans c.c3,(other g _ (by omega) (by omega)).trans c.c4⟩,(other h i (by omega) (by omega)).trans h2⟩
  ·rw[hkr r hr];exact⟨hnew,hnewh⟩
 ·intro i r hr;obtain⟨v',h1,h2,h3⟩:=x.orig i r hr;have hbg:¬(b=g∨b=h):=by omega
  refine⟨v',h1.only ho hbg,h2.below (ho.below (by have:=x.ghi;omega) (fun c hc=>by omega)),fun s hs=>?_⟩
  have kp:∀ {u:Value} {s1:Option Addr} {s2:Nat} {tl:List Int} {m':Nat},LentV m' w u s1 s2 tl→(∀ c,s1=some ⟨c,0,none⟩→c≠g∧c≠h)→LentV m' w' u s1 s2 tl:=by
   intro u s1 s2 tl m' hL hsep;rcases hL with hL|⟨c,q1,q2,q3,q4,q5,q6,q7⟩
   ·exact .inl hL
   ·have hn:¬(c=g∨c=h):=by have:=hsep c q1;omega
    exact .inr ⟨c,q1,q2,q3,q4,by omega,q6.only ho hn,q7.only ho hn⟩
  rcases look i s hs with⟨hi,hs'⟩|⟨rfl,rfl⟩
  ·exact kp (h3 s hs') (fun c hc=>⟨(x.sep i s c hs' hc).1,(x.sep i s c hs' hc).2.1⟩)
  ·have:v'=v:=by have:=h1.c4;rw[hv]at this;exact(Option.some.inj this).symm
   subst this;rw[hkr r hr];have:=kp hl (fun c hc=>⟨(hf c hc).1,(hf c hc).2.1⟩);rcases this with hL|⟨c,q1,q2,q3,q4,q5,q6,q7⟩
   ·exact .inl hL
   ·exact .inr ⟨c,q1,q2,q3,by omega,q5,q6,q7⟩
 ·intro i s c hs hc;rw[hsz];rcases look i s hs with⟨hi,hs'⟩|⟨rfl,rfl⟩
  ·exact x.sep i s c hs' hc
  ·have:=hf c hc;have:=hlt c hc;exact⟨by omega,by omega,by omega,by omega⟩
 ·intro i j s s' c hi hj hc hc';rcases look i s hi with⟨hi1,hi'⟩|⟨hi1,hi'⟩<;>rcases look j s' hj with⟨hj1,hj'⟩|⟨hj1,hj'⟩
  ·exact x.apart i j s s' c hi' hj' hc hc'
  ·subst hj';exact absurd hc ((hf c hc').2.2 i s hi')
  ·subst hi';exact absurd hc' ((hf c hc).2.2 j s' hj')
  ·omega
theorem oS(ad:Addr)(b off cap g:Nat)(l:List Int)(w:World)(had:0<l.length→ad=⟨b,off,none⟩)(hl:l.length≤17592186044416)(hc:RowAt w b off (ints l))(hbg:b≠g)(hr:RowAt w g 0 (fG l))(hm:Room w g (l.length+8)) :
  Calls Tryz.prog 28 #[.slice (some ⟨g,0,none⟩) l.length (l.length+8),.slice (some ad) l.length cap] w fun e w'=>e=.returned (.bool true)∧Only (·=g) w w'∧w'.cell? ⟨g,0,none⟩=some (.int .i64 1):=by
 go_enter Tryz.func28,Tryz.ntmps28
 go_wp2
 go_loopw [7,8,9] (fun ok i _ wr=>∃ k:Nat,k≤l.length+8∧i=.int .i64 k∧ok=.bool true∧Only (·=g) w wr∧RowAt wr g k ((fG l).drop k)∧Room wr g (l.length+8)∧Hid (0<k→wr.cell? ⟨g,0,none⟩=some (.int .i64 1))) (fun _ i _ _=>l.length+8-(intOf i).toNat)
 case atStart=>exact⟨0,by omega,rfl,rfl,Only.refl _ _,by simpa using hr,hm,fun h=>by omega⟩
 case round=>
  obtain⟨k,hk,rfl,rfl,hon,hrw,hrm,h1⟩:=hrel
  by_cases hlt:k<l.length+8
  ·obtain⟨hs,hf⟩:=hrm k hlt;have hnext:RowAt (wr.setCell ⟨g,k,none⟩ (.int .i64 1)) g (k+1) ((fG l).drop (k+1)):=by
    intro j v hv;rw[World.cell?_setCell_other _ _ _ _ (by simp;try omega)]
    have:=hrw (j+1) v (by rw[List.getElem?_drop]at hv ⊢;rw[←hv];congr 1;omega)
    rw[←this];congr 2;omega
   have Hn:=aB hnext;have H1:Hid ((wr.setCell ⟨g,k,none⟩ (.int .i64 1)).cell? ⟨g,0,none⟩=some (.int .i64 1)):=by
    show _=_
    by_cases hk0:k=0
    ·subst hk0;exact World.cell?_setCell_same' _ _ _ hs
    ·rw[World.cell?_setCell_other _ _ _ _ (by simp;try omega)]
     exact h1.out (by omega)
   clear hnext hr hm h1
   by_cases hl2:k<l.length
   ·obtain rfl:=had (by omega)
    have hu:wr.cell? ⟨g,k,none⟩=some (.int .i64 l[k]):=hrw 0 _ (by rw[List.getElem?_drop];simpa using rX l k hl2)
    have hx:wr.cell? ⟨b,off+k,none⟩=some (.int .i64 l[k]):=hon.at (hc k _ (by simp[ints,hl2])) hbg
    go_wp2
    go_roundw
    case rel=>exact⟨k+1,by omega,by go_num,rfl,hon.setCell rfl _,Hn.out,hrm.setCell _ _,fun _=>H1.out⟩
    case measure=>simp[intOf];omega
   ·have hu:wr.cell? ⟨g,k,none⟩=some (.int .i64 77):=hrw 0 _ (by rw[List.getElem?_drop];simpa using nM l k (by omega) hlt)
    go_wp2
    go_roundw
    case rel=>exact⟨k+1,by omega,by go_num,rfl,hon.setCell rfl _,Hn.out,hrm.setCell _ _,fun _=>H1.out⟩
    case measure=>simp[intOf];omega
  ·go_wp2
   go_ret;exact⟨rfl,hon,h1.out (by omega)⟩
theorem xL(lo hi:Nat)(v:Value)(l:List Int)(sa:Option Addr)(sc:Nat)(w:World)(hv:IntsX lo w v l)(h:LentV hi w v sa sc l)(hlo:lo≤hi) :
  Calls Tryz.prog 28 #[.slice sa l.length sc,v] w fun e w'=>e=.returned (.bool true)∧Only (fun x=>sa=some ⟨x,0,none⟩) w w'∧∀ c,sa=some ⟨c,0,none⟩→w'.cell? ⟨c,0,none⟩=some (.int .i64 1):=by
 rcases h with⟨rfl,rfl,rfl,rfl⟩|⟨g,rfl,rfl,h3,h4,h5,h6,h7⟩
 ·refine(nG _ w).mono ?_;rintro e w' ⟨rfl,rfl⟩;exact⟨rfl,Only.refl _ _,by simp⟩
 ·obtain⟨hl,⟨h0,_⟩|⟨b,off,cap,rfl,hb,hc⟩⟩|⟨ea,ec,rfl,rfl⟩:=hv
  ·exact absurd h0 h3
  ·refine(oS ⟨b,off,none⟩ b off cap g l w (fun _=>rfl) hl hc (by omega) h6 h7).mono ?_
   rintro e w' ⟨rfl,ho,h1⟩;refine⟨rfl,ho.mono (fun k _ hk=>by subst hk;rfl),fun c hc=>?_⟩
   simp only[Option.some.injEq,Addr.mk.injEq,and_true]at hc;subst hc;exact h1
  ·refine(oS ea (g+1) 0 ec g [] w (fun h=>by simp at h) (by simp) (fun j v hv=>by simp[ints]at hv) (by omega) h6 h7).mono ?_
   rintro e w' ⟨rfl,ho,h1⟩;refine⟨rfl,ho.mono (fun k _ hk=>by subst hk;rfl),fun c hc=>?_⟩
   simp only[Option.some.injEq,Addr.mk.injEq,and_true]at hc;subst hc;exact h1
def aZ(n:Nat)(x:List Value):List Value:=(List.replicate n x).flatten
theorem bS(n:Nat)(x:List Value):(aZ n x).length=n*x.length:=by
 induction n with
 | zero=>simp[aZ]
 | succ n ih=>simp[aZ,List.replicate_succ]at ih ⊢;rw[Nat.add_mul];omega
theorem fF(n m:Nat)(x:List Value):aZ (n+m) x=aZ n x++aZ m x:=by
 simp[aZ,←List.replicate_append_replicate]
theorem oU(n:Nat)(x:List Value):aZ (n+1) x=x++aZ n x:=by simp[aZ,List.replicate_succ]
theorem rJ:∀ (n i r:Nat) (x:List Value),r<x.length→i<n→(aZ n x)[i*x.length+r]?=x[r]?
 | 0,i,r,x,_,h=>by omega
 | n+1,0,r,x,h,_=>by rw[oU,Nat.zero_mul,Nat.zero_add,List.getElem?_append_left h]
 | n+1,i+1,r,x,h,hi=>by
  rw[oU,List.getElem?_append_right (by rw[Nat.add_mul];omega),show(i+1)*x.length+r-x.length=i*x.length+r by rw[Nat.add_mul];omega]
  exact rJ n i r x h (by omega)
theorem kD{n:Nat}{x:List Value}(h:∀ u∈x,u.oneCell'=true):∀ u∈aZ n x,u.oneCell'=true:=by
 intro u hu;simp only[aZ,List.mem_flatten,List.mem_replicate]at hu;obtain⟨l,⟨_,rfl⟩,hu⟩:=hu;exact h u hu
def Fill(w:World)(v:Value)(n:Nat)(xs:List Value):Prop:=∃ a c,v=.slice a n c∧(n≠0→∃ b,a=some ⟨b,0,none⟩∧RowAt w b 0 xs)
theorem Fill.of_owns{w:World}{base:Nat}{e:TypeId}{k:Nat}{v:Value}{n:Nat}{xs:List Value}(h:w.ownsRow base e k v n xs):Fill w v n xs:=by
 rcases bK h with⟨rfl,rfl,rfl⟩|⟨g,cap,rfl,_,_,hr⟩
 ·exact⟨none,0,rfl,by simp⟩
 ·exact⟨_,_,rfl,fun _=>⟨g,rfl,hr⟩⟩
theorem Fill.only{w w':World}{v:Value}{n:Nat}{xs:List Value}{S:Nat→Prop}(h:Fill w v n xs)(ho:Only S w w')(hS:∀ b,some b=v.ownBlock→¬S b):Fill w' v n xs:=by
 obtain⟨a,c,rfl,hx⟩:=h;refine⟨a,c,rfl,fun hn=>?_⟩;obtain⟨b,rfl,hr⟩:=hx hn;exact⟨b,rfl,hr.only ho (hS b rfl)⟩
theorem oV{P:Program}{w:World}(base:Nat)(t ty e:TypeId)(i:TypeInfo)(z:Value)(ht:P.underlying t=some (.slice e))(hi:P.info? e=some i)(hz:i.zero=some z)
  (v:Value) (n:Nat) (xs:List Value) (hown:w.ownsRow base e i.size v n xs)
  (a:Addr) (m c:Nat) (hm:0<m) (news:List Value) (hl:news.length=m*i.size) (hnews:∀ j u,news[j]?=some u→w.cell? (a.add j)=some u) (h1:∀ u∈news,u.oneCell'=true)
  (h63:n+m≤9223372036854775807) (hbytes:(n+m)*i.bytes≤140737488355328) (v':Value) (w':World)
  (hr:(Builtin.append_ #[t,t] ty #[v,.slice (some a) m c]).run P w=.ok v' w'):w'.ownsRow base e i.size v n xs∧((v'.ownBlock=v.ownBlock∧v.ownBlock≠none)∨(Below w.heap.size w w'∧v'.ownBlock=some w.heap.size)):=by
 have hcells:=fun g=>hown.cells (g:=g);have hO:=hown;obtain⟨hx,⟨rfl,rfl⟩|⟨g,cap,cur,rfl,hbg,hg,hnc,hcm,hcs,htake⟩⟩:=hown
 ·have h0:=run_append_nil (P:=P) w t ty e i z ht hi hz a m c news hl hnews (by omega) (by omega) (by have hb:=hbytes;simp only[Nat.zero_add]at hb;omega)
  rw[h0]at hr;cases hr;exact⟨⟨hx,.inl ⟨rfl,rfl⟩⟩,.inr ⟨⟨rfl,rfl,rfl,by simp,fun k hk=>heap_alloc_old w.drew _ hk⟩,rfl⟩⟩
 ·by_cases hroom:n+m≤cap
  ·have hfit:n*i.size+news.length≤cur.size:=by rw[hl,hcs,←Nat.add_mul];exact Nat.mul_le_mul_right _ hroom
   have h0:=run_append_room (P:=P) w t ty e i ht hi g n cap cur hg a m c news hl hnews h1 hroom hfit;rw[h0]at hr;cases hr;refine⟨⟨hx,.inr ⟨g,cap,_,rfl,hbg,setRow_heap w g cur _ e _ hg,hnc,hcm,?_,?_⟩⟩,.inl ⟨rfl,by simp[Value.ownBlock]⟩⟩
   ·simp only[List.size_toArray,List.length_append,List.length_take,List.length_drop,Array.length_toList];omega
   ·rw[List.append_assoc,List.take_append_of_le_length (by simp;omega),List.take_take,Nat.min_self]
    exact htake
  ·have h0:=run_append_grow (P:=P) w t ty e i z ht hi hz ⟨g,0,none⟩ n cap xs hx (hcells g rfl) a m c news hl hnews (by omega) (by omega) (growslice_fits (by omega) hbytes)
   rw[h0]at hr;cases hr;have hb:Below w.heap.size w (w.drew.alloc (.cells (xs.toArray++news.toArray++Builtin.zeroCells z.cells (grownCap w (n+m) cap e-(n+m))) e)):=⟨rfl,rfl,rfl,by simp,fun k hk=>heap_alloc_old w.drew _ hk⟩
   exact⟨aN hO (Only.new (S:=fun _=>False) hb) (by simp),.inr ⟨hb,rfl⟩⟩
theorem cH{P:Program}{w:World}{ops:Array Oper}{rest:List Oper}{o:Oper}{a:Act}{Q:Exit→Act→World→Prop}(hgd:o.guard=none)(s x:Operand)(t:TypeId)
  (ho:o.op=.call {callee:=.builtin .append,args:=#[s,x],argTypes:=#[t,t]})
  (base:Nat) (e:TypeId) (z:Value) (size bytes:Nat) (ht:P.underlying t=some (.slice e)) (hinfo:(P.info? e).map (fun i=>(i.zero,i.size,i.bytes))=some (some z,size,bytes))
  (hzs:z.cells.size=size) (hsz:0<size)
  (v:Value) (n:Nat) (xs:List Value) (hs:a.eval s=v) (hown:w.ownsRow base e size v n xs)
  (b m c:Nat) (hm:0<m) (news:List Value) (hx:a.eval x=.slice (some ⟨b,0,none⟩) m c) (hsrc:RowAt w b 0 news) (hl:news.length=m*size) (h1:∀ u∈news,u.oneCell'=true)
  (hbytes:(n+m)*bytes≤140737488355328) (h63:n+m≤9223372036854775807) (hbase:base≤w.heap.size)
  (h:∀ v' w',Hid (w'.ownsRow base e size v' (n+m) (xs++news))→Hid (w.grownBy w' v.ownBlock)→Hid (w'.ownsRow base e size v n xs∧((v'.ownBlock=v.ownBlock∧v.ownBlock≠none)∨(Below w.heap.size w w'∧v'.ownBlock=some w.heap.size)))→wpList P ops Q rest (a.put o.dst v') w'):wpList P ops Q (o::rest) a w:=by
 obtain⟨i,hi,hz,hsz',hby⟩:=info_parts hinfo;have hnews:∀ j u,news[j]?=some u→w.cell? (Addr.add ⟨b,0,none⟩ j)=some u:=fun j u hu=>by rw[Addr.add_lit];exact hsrc j u hu
 subst hsz';subst hby;obtain⟨v',w',hr,h2,h3,h4⟩:=run_append_own (P:=P) w base t o.type e i z i.size i.bytes ht hi hz rfl rfl hzs hsz v n xs hown ⟨b,0,none⟩ m c news hl hnews h1 (by simp only[maxLen];omega) hbytes hbase
 have h5:=oV base t o.type e i z ht hi hz v n xs hown ⟨b,0,none⟩ m c hm news hl hnews h1 h63 hbytes v' w' hr;refine wpList_plain hgd fun K hK=>?_;unfold Oper.wp;simp[execOp,ho,resolve,invoke,builtin,hs,hx,hr,Result.andThen];exact hK _ _ (h v' w' h2 h3 h5)
theorem Fill.beside{w w':World}{base:Nat}{e:TypeId}{k:Nat}{l v v1:Value}{n m d:Nat}{x:List Value}(hk:x.length=k)(h1:Fill w v1 (n+m) (aZ (n+m) x))(hmd:m≤d)
  (hown:w'.ownsRow base e k v (n+d) (aZ (n+d) x)) (hg:w.grownBy w' l.ownBlock) (hor:(v.ownBlock=l.ownBlock∧l.ownBlock≠none)∨(Below w.heap.size w w'∧v.ownBlock=some w.heap.size)):Fill w' v1 (n+m) (aZ (n+m) x):=by
 rcases hor with⟨he,_⟩|⟨hb,_⟩
 ·obtain⟨a,c,rfl,hx⟩:=h1;refine⟨a,c,rfl,fun hn=>?_⟩;obtain⟨b,rfl,hr⟩:=hx hn;refine⟨b,rfl,?_⟩
  by_cases hbl:some b=l.ownBlock
  ·obtain⟨a2,c2,rfl,hx2⟩:=Fill.of_owns hown;obtain⟨b2,rfl,hr2⟩:=hx2 (by omega)
   have e2:b2=b:=by
    have:some b2=some b:=he.trans hbl.symm;exact Option.some.inj this
   subst e2;intro j u hu;refine hr2 j u ?_;rw[show n+d=(n+m)+(d-m) by omega,fF,List.getElem?_append_left (List.getElem?_eq_some_iff.1 hu).1]
   exact hu
  ·exact hr.only (aF hg) hbl
 ·exact h1.only (Only.new (S:=fun _=>False) hb) (by simp)
theorem kE{w:World}{base:Nat}{e:TypeId}{k:Nat}{g n cap:Nat}{xs:List Value}(h:w.ownsRow base e k (.slice (some ⟨g,0,none⟩) n cap) n xs)(j:Nat)(u:Value):∃ ys,(w.setCell ⟨g,j,none⟩ u).ownsRow base e k (.slice (some ⟨g,0,none⟩) n cap) n ys:=by
 obtain⟨hx,⟨hc,_⟩|⟨g',cap',cur,hv,hbg,hg,hnc,hcm,hcs,htake⟩⟩:=h
 ·simp at hc
 ·simp only[Value.slice.injEq,Option.some.injEq,Addr.mk.injEq,and_true,true_and]at hv;obtain⟨rfl,rfl⟩:=hv;have hgl:=(Array.getElem?_eq_some_iff.1 hg).1;have hnk:n*k≤cap*k:=Nat.mul_le_mul_right _ hnc;refine⟨(cur.setIfInBounds j u).toList.take (n*k),?_,.inr ⟨g,cap,cur.setIfInBounds j u,rfl,hbg,?_,hnc,hcm,by simpa using hcs,rfl⟩⟩
  ·simp;omega
  ·exact heap_setCell_same w g j cur e u hg
theorem zX{w:World}{base:Nat}{e:TypeId}{k:Nat}{g n cap:Nat}{xs ys:List Value}(h:w.ownsRow base e k (.slice (some ⟨g,0,none⟩) n cap) n xs)(hy:RowAt w g 0 ys)(hl:ys.length=n*k):w.ownsRow base e k (.slice (some ⟨g,0,none⟩) n cap) n ys:=by
 have hx:=h.1;have he:xs=ys:=by
  refine List.ext_getElem? fun j=>?_
  by_cases hj:j<n*k
  ·have a1:=h.cells (g:=g) rfl j xs[j] (List.getElem?_eq_getElem (by omega))
   have a2:=hy j ys[j] (List.getElem?_eq_getElem (by omega))
   rw[Addr.add_lit]at a1;rw[a1]at a2;rw[List.getElem?_eq_getElem (by omega),List.getElem?_eq_getElem (by omega)]
   exact a2
  ·rw[List.getElem?_eq_none (by omega),List.getElem?_eq_none (by omega)]
 rw[←he];exact h
def Free(w:World)(v:Value):Prop:=∀ b,some b=v.ownBlock→b<w.heap.size∧∀ j u,w.cell? ⟨b,j,none⟩=some u→w.frozen? ⟨b,j,none⟩=false
theorem Free.only{w w':World}{v:Value}{S:Nat→Prop}(h:Free w v)(ho:Only S w w')(hS:∀ b,some b=v.ownBlock→¬S b):Free w' v:=by
 intro b hb;obtain⟨h1,h2⟩:=h b hb;have hz:=ho.size;refine⟨by omega,fun j u hu=>?_⟩
 have hB:=ho.block b h1 (hS b hb);rw[World.frozen?_of_block (w:=w) (a:=⟨b,j,none⟩) hB];rw[World.cell?_of_block (w:=w) (a:=⟨b,j,none⟩) hB]at hu;exact h2 j u hu
def lP(i:Nat):List Value:=[.int .u8 (200+((i / 4 % 50:Nat):Int))]
def lQ(i:Nat):List Value:=[.int .i64 (-1000-((i / 4:Nat):Int))]
def lR(i:Nat):List Value:=[.int .i64 (-1000-((i / 4:Nat):Int)),.int .i64 0,.int .i64 0,.int .i64 0,.slice none 0 0]
structure BkD where
 bv:Value
 iv:Value
 rv:Value
 bl:List Value
 il:List Value
 rl:List Value
def BkD.ents(k:BkD)(b:Nat):Prop:=∃ v,(v∈k.bl∨v∈k.il∨v∈k.rl)∧some b=v.ownBlock
def BkD.rows(k:BkD)(b:Nat):Prop:=some b=k.bv.ownBlock∨some b=k.iv.ownBlock∨some b=k.rv.ownBlock
def BkD.set(k:BkD)(b:Nat):Prop:=k.ents b∨k.rows b
structure BkOK(w:World)(k:BkD):Prop where
 bown:w.ownsRow 0 56 1 k.bv k.bl.length k.bl
 iown:w.ownsRow 0 24 1 k.iv k.il.length k.il
 rown:w.ownsRow 0 39 1 k.rv k.rl.length k.rl
 bent:∀ (i:Nat) v,k.bl[i]?=some v→∃ n,n≤1000000000∧Fill w v n (aZ n (lP i))
 ient:∀ (i:Nat) v,k.il[i]?=some v→∃ n,n≤1000000000∧Fill w v n (aZ n (lQ i))
 rent:∀ (i:Nat) v,k.rl[i]?=some v→∃ n,n≤1000000000∧Fill w v n (aZ n (lR i))
 elt:∀ b,k.ents b→b<w.heap.size
 sep:∀ b,k.ents b→¬k.rows b
 bi:∀ b,some b=k.bv.ownBlock→some b≠k.iv.ownBlock
 br:∀ b,some b=k.bv.ownBlock→some b≠k.rv.ownBlock
 ir:∀ b,some b=k.iv.ownBlock→some b≠k.rv.ownBlock
 free:∀ v∈k.bl,Free w v
 bsep:∀ (i j:Nat) v u b,k.bl[i]?=some v→k.bl[j]?=some u→some b=v.ownBlock→some b=u.ownBlock→i / 4=j / 4
theorem BkOK.lt{w:World}{k:BkD}(h:BkOK w k):∀ b,k.set b→b<w.heap.size:=by
 rintro b (hb|hb|hb|hb)
 ·exact h.elt b hb
 ·exact(h.bown.lt b hb.symm).2
 ·exact(h.iown.lt b hb.symm).2
 ·exact(h.rown.lt b hb.symm).2
theorem BkOK.only{w w':World}{k:BkD}{S:Nat→Prop}(h:BkOK w k)(ho:Only S w w')(hS:∀ b,k.set b→¬S b):BkOK w' k:=by
 have hz:=ho.size;refine⟨aN h.bown ho (fun b hb=>hS b (.inr (.inl hb))),aN h.iown ho (fun b hb=>hS b (.inr (.inr (.inl hb)))),aN h.rown ho (fun b hb=>hS b (.inr (.inr (.inr hb)))),?_,?_,?_,fun b hb=>by have:=h.elt b hb;omega,h.sep,h.bi,h.br,h.ir,fun v hv=>(h.free v hv).only ho (fun b hb=>hS b (.inl ⟨v,.inl hv,hb⟩)),h.bsep⟩
 ·intro i v hv;obtain⟨n,hl,hn⟩:=h.bent i v hv;exact⟨n,hl,hn.only ho (fun b hb=>hS b (.inl ⟨v,.inl (List.mem_of_getElem? hv),hb⟩))⟩
 ·intro i v hv;obtain⟨n,hl,hn⟩:=h.ient i v hv;exact⟨n,hl,hn.only ho (fun b hb=>hS b (.inl ⟨v,.inr (.inl (List.mem_of_getElem? hv)),hb⟩))⟩
 ·intro i v hv;obtain⟨n,hl,hn⟩:=h.rent i v hv;exact⟨n,hl,hn.only ho (fun b hb=>hS b (.inl ⟨v,.inr (.inr (List.mem_of_getElem? hv)),hb⟩))⟩
end Go.Proofs.YtndlmgocldckfaaGreat
