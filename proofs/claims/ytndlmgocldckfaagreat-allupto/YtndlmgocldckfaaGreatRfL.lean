import Derived.Test.YtndlmgocldckfaaGreatG24
namespace Go.Proofs.YtndlmgocldckfaaGreat
open Go.RowKit
set_option linter.unusedVariables false
set_option linter.unusedSimpArgs false
set_option maxRecDepth 100000
set_option maxHeartbeats 4000000
structure StR(R:Nat→Prop)(w wr:World)(cb gb:Nat)(ents:Int)(ks:List (List Ins))(draws:List Int)(E:Nat)(code:List Ins)(RES:KS×List Int×Int)(ev:Ev)(i:Nat)(tv:Value)(st:KS)(told:List Int)(R':Nat→Prop):Prop where
 only:Only (fun b=>b=cb∨b=gb) w wr
 rc:RefC R' wr cb gb ents ks draws st
 sub:∀ b,R' b→R b∨w.heap.size+3≤b
 ok:KOk ents ks.length draws st
 res:cF draws E (code.drop i) st told=RES
 o0:wr.cell? ⟨w.heap.size+2,0,none⟩=some (.int .i64 ev.number)∧wr.cell? ⟨w.heap.size+2,1,none⟩=some (.int .i64 ev.time)∧wr.cell? ⟨w.heap.size+2,2,none⟩=some (.int .i64 ev.kind)∧wr.cell? ⟨w.heap.size+2,3,none⟩=some (.int .i64 ev.entity)
 o4:wr.cell? ⟨w.heap.size+2,4,none⟩=some tv
 e0:wr.cell? ⟨w.heap.size+1,0,none⟩=some (.int .i64 ev.time)∧wr.cell? ⟨w.heap.size+1,1,none⟩=some (.int .i64 ev.number)∧wr.cell? ⟨w.heap.size+1,2,none⟩=some (.int .i64 ev.kind)∧wr.cell? ⟨w.heap.size+1,3,none⟩=some (.int .i64 ev.entity)
 oroom:Room wr (w.heap.size+2) 5
 wroom:Room wr w.heap.size 5
 own:wr.ownsRow (w.heap.size+3) 3 1 tv told.length (ints told)
 nap:∀ b,some b=tv.ownBlock→¬R' b
 le:i≤40
 tl:told.length≤i
section
variable {R R' : Nat → Prop} {w wr w2 : World} {cb gb : Nat} {ents : Int} {ks : List (List Ins)} {draws : List Int} {E : Nat} {code : List Ins} {RES : KS × List Int × Int} {ev : Ev} {i j : Nat} {tv : Value} {st : KS} {told : List Int}
theorem StR.keep(h:StR R w wr cb gb ents ks draws E code RES ev i tv st told R')(ho:Only (fun _=>False) wr w2)(hres:cF draws E (code.drop j) st told=RES)(hj:j≤40)(hij:i≤j):StR R w w2 cb gb ents ks draws E code RES ev j tv st told R':=by
 exact⟨h.only.trans (ho.mono (fun _ _ hb=>hb.elim)),h.rc.only ho (fun _ _ h=>h) (fun h=>h) (fun h=>h),h.sub,h.ok,hres,⟨ho.at h.o0.1 (fun h=>h),ho.at h.o0.2.1 (fun h=>h),ho.at h.o0.2.2.1 (fun h=>h),ho.at h.o0.2.2.2 (fun h=>h)⟩,ho.at h.o4 (fun h=>h),⟨ho.at h.e0.1 (fun h=>h),ho.at h.e0.2.1 (fun h=>h),ho.at h.e0.2.2.1 (fun h=>h),ho.at h.e0.2.2.2 (fun h=>h)⟩,h.oroom.only ho (fun h=>h),h.wroom.only ho (fun h=>h),bT h.own ho (fun _ _ h=>h),h.nap,hj,Nat.le_trans h.tl hij⟩
theorem StR.next{R'':Nat→Prop}{w3:World}{v3:Value}{st':KS}{t:List Int}(h:StR R w wr cb gb ents ks draws E code RES ev i tv st told R')(hR:∀ b,R b→b<w.heap.size)(hcg:cb<w.heap.size∧gb<w.heap.size)(ho:Only (fun b=>b=cb∨b=gb) wr w2)
  (hR'':∀ b,R'' b→R' b∨(wr.heap.size≤b∧b<w2.heap.size)) (hrc:RefC R'' w2 cb gb ents ks draws st') (hok:KOk ents ks.length draws st') (hres:cF draws E (code.drop (i+1)) st' (told++t)=RES) (hi:i+1≤40) (ht:t.length≤1)
  (hgr:w2.grownBy w3 tv.ownBlock) (hown:w3.ownsRow (w.heap.size+3) 3 1 v3 (told.length+t.length) (ints told++ints t)) (hwh:v3.ownBlock=tv.ownBlock∨v3.ownBlock=some w2.heap.size) :
  StR R w (w3.setCell ⟨w.heap.size+2,4,none⟩ v3) cb gb ents ks draws E code RES ev (i+1) v3 st' (told++t) R'':=by
 have hzo:=aC h.o4;have hz2:=ho.size;have hg:Only (fun b=>some b=tv.ownBlock) w2 w3:=aF hgr;have hz3:=hg.size;have hs:Only (·=w.heap.size+2) w3 (w3.setCell ⟨w.heap.size+2,4,none⟩ v3):=(Only.refl (·=w.heap.size+2) w3).setCell (p:=⟨w.heap.size+2,4,none⟩) (show w.heap.size+2=w.heap.size+2 from rfl) _
 have htb:∀ b,some b=tv.ownBlock→w.heap.size+3≤b∧b<wr.heap.size:=fun b hb=>h.own.lt b hb.symm;have hvb:∀ b,some b=v3.ownBlock→w.heap.size+3≤b:=fun b hb=>(hown.lt b hb.symm).1;have n1:∀ k,k<w.heap.size+3→¬some k=tv.ownBlock:=fun k hk hc=>by have:=htb k hc;omega
 have hRt:∀ b,R'' b→¬some b=tv.ownBlock:=by
  intro b hb hc;rcases hR'' b hb with hb'|hb'
  ·exact h.nap b hc hb'
  ·have:=htb b hc;omega
 have hRo:∀ b,R'' b→¬b=w.heap.size+2:=by
  intro b hb hc;rcases hR'' b hb with hb'|hb'
  ·rcases h.sub b hb' with hb2|hb2
   ·have:=hR b hb2;omega
   ·omega
  ·omega
 have k2:∀ x o v,x<w.heap.size+3→w.heap.size≤x→wr.cell? ⟨x,o,none⟩=some v→w3.cell? ⟨x,o,none⟩=some v:=by
  intro x o v hx1 hx2 hv;exact hg.at (ho.at hv (by simp;omega)) (n1 x hx1)
 have k3:∀ x o v,x<w.heap.size+3→w.heap.size≤x→¬(x=w.heap.size+2∧o=4)→wr.cell? ⟨x,o,none⟩=some v→(w3.setCell ⟨w.heap.size+2,4,none⟩ v3).cell? ⟨x,o,none⟩=some v:=by
  intro x o v hx1 hx2 hne hv;rw[World.cell?_setCell_other _ _ _ _ (by simp;omega)]
  exact k2 x o v hx1 hx2 hv
 have hro:Room w3 (w.heap.size+2) 5:=(h.oroom.only ho (by simp;omega)).only hg (n1 _ (by omega))
 refine⟨?_,(hrc.only hg hRt (n1 _ (by omega)) (n1 _ (by omega))).only hs hRo (by omega) (by omega),?_,hok,hres,⟨k3 _ _ _ (by omega) (by omega) (by omega) h.o0.1,k3 _ _ _ (by omega) (by omega) (by omega) h.o0.2.1,k3 _ _ _ (by omega) (by omega) (by omega) h.o0.2.2.1,k3 _ _ _ (by omega) (by omega) (by omega) h.o0.2.2.2⟩,World.cell?_setCell_same' _ _ _ (hro 4 (by omega)).1,⟨k3 _ _ _ (by omega) (by omega) (by omega) h.e0.1,k3 _ _ _ (by omega) (by omega) (by omega) h.e0.2.1,k3 _ _ _ (by omega) (by omega) (by omega) h.e0.2.2.1,k3 _ _ _ (by omega) (by omega) (by omega) h.e0.2.2.2⟩,hro.setCell _ _,((h.wroom.only ho (by simp;omega)).only hg (n1 _ (by omega))).setCell _ _,?_,?_,hi,?_⟩
 ·exact(((h.only.trans ho).mono (S':=fun b=>b=cb∨b=gb∨w.heap.size≤b) (fun b _ hb=>by rcases hb with hb|hb;exact .inl hb;exact .inr (.inl hb))).trans ((hg.mono (S':=fun b=>b=cb∨b=gb∨w.heap.size≤b) (fun b _ hb=>.inr (.inr (by have:=htb b hb;omega)))).trans (hs.mono (fun b _ hb=>.inr (.inr (by omega)))))).mono (fun b hb hc=>by rcases hc with hc|hc|hc;exact .inl hc;exact .inr hc;omega)
 ·intro b hb;rcases hR'' b hb with hb'|hb'
  ·exact h.sub b hb'
  ·exact .inr (by omega)
 ·have e1:(told++t).length=told.length+t.length:=by simp
  have e2:ints (told++t)=ints told++ints t:=by simp[ints]
  rw[e1,e2];exact bT hown hs (fun b hb hc=>by have:=hvb b hb;omega)
 ·intro b hb hc;rcases hwh with e|e
  ·rw[e]at hb;exact hRt b hc hb
  ·rw[e]at hb;have:=Option.some.inj hb;have:=(hrc.far b hc).1;omega
 ·have:=h.tl;simp;omega
theorem aBg{w:World}{b:Nat}(h:Room w b 5):∃ u0 u1 u2 u3 u4,(w.cell? ⟨b,0,none⟩=some u0∧w.frozen? ⟨b,0,none⟩=false)∧(w.cell? ⟨b,1,none⟩=some u1∧w.frozen? ⟨b,1,none⟩=false)∧(w.cell? ⟨b,2,none⟩=some u2∧w.frozen? ⟨b,2,none⟩=false)∧(w.cell? ⟨b,3,none⟩=some u3∧w.frozen? ⟨b,3,none⟩=false)∧(w.cell? ⟨b,4,none⟩=some u4∧w.frozen? ⟨b,4,none⟩=false):=by
 obtain⟨u0,h0⟩:=Option.isSome_iff_exists.1 (h 0 (by omega)).1
 obtain⟨u1,h1⟩:=Option.isSome_iff_exists.1 (h 1 (by omega)).1
 obtain⟨u2,h2⟩:=Option.isSome_iff_exists.1 (h 2 (by omega)).1
 obtain⟨u3,h3⟩:=Option.isSome_iff_exists.1 (h 3 (by omega)).1
 obtain⟨u4,h4⟩:=Option.isSome_iff_exists.1 (h 4 (by omega)).1
 exact⟨u0,u1,u2,u3,u4,⟨h0,(h 0 (by omega)).2⟩,⟨h1,(h 1 (by omega)).2⟩,⟨h2,(h 2 (by omega)).2⟩,⟨h3,(h 3 (by omega)).2⟩,⟨h4,(h 4 (by omega)).2⟩⟩
theorem mW{S:Nat→Prop}{w w2:World}(h:Only S w w2)(v0 v1 v2 v3 v4:Value):Only S w (((((w2.setCell ⟨w.heap.size,0,none⟩ v0).setCell ⟨w.heap.size,1,none⟩ v1).setCell ⟨w.heap.size,2,none⟩ v2).setCell ⟨w.heap.size,3,none⟩ v3).setCell ⟨w.heap.size,4,none⟩ v4):=
 ((((((h.mono (S':=fun b=>S b∨w.heap.size≤b) (fun _ _ hb=>.inl hb)).setCell (p:=⟨w.heap.size,0,none⟩) (.inr (Nat.le_refl _)) v0).setCell (p:=⟨w.heap.size,1,none⟩) (.inr (Nat.le_refl _)) v1).setCell (p:=⟨w.heap.size,2,none⟩) (.inr (Nat.le_refl _)) v2).setCell (p:=⟨w.heap.size,3,none⟩) (.inr (Nat.le_refl _)) v3).setCell (p:=⟨w.heap.size,4,none⟩) (.inr (Nat.le_refl _)) v4).mono (fun b hb hc=>by
  rcases hc with hc|hc
  ·exact hc
  ·omega)
end
def aGg(R:Nat→Prop)(cb gb:Nat)(ents:Int)(ks:List (List Ins))(draws:List Int)(w:World)(ev:Ev)(F:KS×List Int×Int)(e:Ending)(w':World):Prop:=
 Only (fun b=>b=cb∨b=gb) w w'∧((F.2.2=0∧∃ ta tc R',e=.returned (.tuple #[gZ ev (.slice ta F.2.1.length tc),.int .i64 0])∧RefC R' w' cb gb ents ks draws F.1∧(∀ b,R' b→R b∨w.heap.size≤b)∧w'.ownsRow w.heap.size 3 1 (.slice ta F.2.1.length tc) F.2.1.length (ints F.2.1)∧(∀ b,some b=(Value.slice ta F.2.1.length tc).ownBlock→¬R' b)) ∨
  (F.2.2≠0∧e=.returned (.tuple #[qY,.int .i64 F.2.2])))
theorem aD5{R:Nat→Prop}(cb gb:Nat)(ents:Int)(ks:List (List Ins))(draws:List Int)(s:KS)(ev:Ev)(l:List Ev)(w:World)(h:RefC R w cb gb ents ks draws s)(hq:s.q=ev::l)(hol:bY ev.number s.q=l)(hok:KOk ents ks.length draws s)(hclk:∀ x∈s.q,ev.time≤x.time)(he:1≤ents∧ents≤8)(hk8:ks.length≤8)
  (hcode:∀ l∈ks,l.length≤16∧∀ x∈l,aX ents ks.length x.op x.a x.b x.c=true) (hdl:draws.length≤1000) (hd:∀ d∈draws,0≤d∧d≤1000000000) :
  Calls Tryz.prog 92 #[.pointer (some ⟨cb,0,none⟩)] w fun e' w'=>aGg R cb gb ents ks draws w ev (aV ks draws ev s) e' w':=by
 obtain⟨ev1,ev2,ev3,ev4,ev5,ev6,ev7,ev8⟩:=hok.evs ev (by rw[hq];simp)
 obtain⟨E,hE⟩:∃ E:Nat,ev.entity=(E:Int):=⟨ev.entity.toNat,by omega⟩
 obtain⟨K,hK⟩:∃ K:Nat,ev.kind=(K:Int):=⟨ev.kind.toNat,by omega⟩
 have hKl:K<ks.length:=by omega
 have hEl:(E:Int)<ents:=by omega
 obtain⟨code,hcd⟩:∃ code,ks[K]?=some code:=⟨ks[K],by simp[hKl]⟩
 obtain⟨RES,hRES⟩:∃ RES,RES=aV ks draws ev s:=⟨_,rfl⟩;rw[←hRES];have HRES:Hid (cF draws E code {s with q:=l,clock:=ev.time} []=RES):=by
  rw[hRES];show _=_;simp[aV,hE,hK,List.getD,hcd,hol]
 obtain⟨hcl,hcm⟩:=hcode code (List.mem_of_getElem? hcd);have Hcm:=aB hcm;obtain⟨kv,h1,hkv⟩:=h.kinds;obtain⟨hkl,⟨_,h0⟩|⟨kvb,koff,kcap,rfl,hkR,hkc⟩⟩:=hkv
 ·rw[h0]at hKl;simp at hKl
 obtain⟨cv,hcv1,hcv2⟩:=hkc K code hcd;obtain⟨ca,cc,rfl⟩:=hcv2.form;have hCR:aG4 R w ca cc code:=by
  intro i hi;obtain⟨_,⟨_,h0⟩|⟨cb,off,cap,hce,hcR,hcc⟩⟩:=hcv2
  ·rw[h0]at hi;simp at hi
  ·simp only[Value.slice.injEq]at hce;exact⟨cb,off,hce.1,hcR,hcc i code[i] (by simp[hi])⟩
 have HCR:=aB hCR;have H:=aB h;obtain⟨qv,q7,hqv⟩:=h.que;rw[hq]at hqv;obtain⟨_,h0⟩|⟨qb,qo,qc,rfl,hqc,hqc',hqR,hqcode⟩:=hqv
 ·simp at h0
 obtain⟨m0,m1,m2,m3⟩:=hqcode 0 (aR ev) (by simp)
 simp only[aR,Nat.zero_mul,Nat.add_zero]at m0 m1 m2 m3;rw[hK]at m2;rw[hE]at m3;have hql:=h.far qb hqR;have hcl':=aC q7;have hkvl:=h.far kvb hkR;have Hok:=aB hok;have Hqcode:=aB hqcode;have hgl:gb<w.heap.size:=aC (h.regs 0 (by omega))
 have f7:=(h.room 7 (by omega)).2
 have f4:=(h.room 4 (by omega)).2
 have HqR:=aB hqR;have c4:=h.c4;simp only[List.length_cons]at q7 hqc;clear hkc hcv2 hCR hcm hcode hRES h hqcode;have hl1:l.length+1-1=l.length:=by omega
 have hcs:qc=1∨1<qc:=by omega
 rcases hcs with hcs|hcs
 ·have hl0:l=[]:=List.eq_nil_of_length_eq_zero (by omega)
  have Hnv:Hid (EvsIn R w (.slice (some ⟨qb,qo,none⟩) 0 0) l):=by rw[hl0];exact .inr ⟨qb,qo,0,rfl,by simp,by omega,HqR.out,fun k x hx=>by simp at hx⟩
  have hll:l.length=0:=by rw[hl0];rfl
  rw[hll]at q7 hqc hl1;clear hl0;subst hcs
  go_enter Tryz.func92,Tryz.ntmps92
  go_wp2_with fail
  obtain⟨W1,hW1⟩:∃ W1,W1=((((w.setCell ⟨cb,7,none⟩ (.slice (some ⟨qb,qo,none⟩) 0 0)).setCell ⟨cb,4,none⟩ (.int .i64 ev.time)).alloc (.cells #[.int .i64 0,.int .i64 0,.int .i64 0,.int .i64 0,.slice none 0 0] 46)).alloc (.cells #[.int .i64 ev.time,.int .i64 ev.number,.int .i64 (K:Int),.int .i64 (E:Int)] 143)).alloc (.cells #[.int .i64 ev.number,.int .i64 ev.time,.int .i64 (K:Int),.int .i64 (E:Int),.slice none 0 0] 46):=⟨_,rfl⟩;rw[←hW1];obtain⟨W0,hW0⟩:∃ W0,W0=(w.setCell ⟨cb,7,none⟩ (.slice (some ⟨qb,qo,none⟩) 0 0)).setCell ⟨cb,4,none⟩ (.int .i64 ev.time):=⟨_,rfl⟩;rw[←hW0]at hW1;have hz0:W0.heap.size=w.heap.size:=by rw[hW0];simp[World.setCell]
  have hb01:Below W0.heap.size W0 W1:=by rw[hW1];exact(((Below.refl _ _).alloc (Nat.le_refl _) _).alloc (by simp) _).alloc (by simp;omega) _
  have H0:RefC R W0 cb gb ents ks draws {s with q:=l,clock:=ev.time}:=by rw[hW0];exact(H.out.setQueue _ l Hnv.out).setClock _
  have hO0:Only (fun b=>b=cb∨b=gb) w W0:=by rw[hW0];exact((Only.refl _ _).setCell (S:=fun b=>b=cb∨b=gb) (p:=⟨cb,7,none⟩) (.inl rfl) _).setCell (p:=⟨cb,4,none⟩) (.inl rfl) _
  have k1:W0.cell? ⟨cb,1,none⟩=some (.slice (some ⟨kvb,koff,none⟩) ks.length kcap):=by
   rw[hW0,World.cell?_setCell_other _ _ _ _ (by simp),World.cell?_setCell_other _ _ _ _ (by simp)];exact h1
  replace k1:=aA hb01 k1 (by omega)
  have kcv:=aA hb01 (hO0.at hcv1 (by simp;exact hkvl.2)) (by omega)
  have hz1:W1.heap.size=w.heap.size+3:=by rw[hW1];simp[hz0]
  have a0:W1.cell? ⟨w.heap.size+2,0,none⟩=some (.int .i64 ev.number):=by rw[hW1];simp[go_sem,hz0]
  have a1:W1.cell? ⟨w.heap.size+2,1,none⟩=some (.int .i64 ev.time):=by rw[hW1];simp[go_sem,hz0]
  have a2:W1.cell? ⟨w.heap.size+2,2,none⟩=some (.int .i64 (K:Int)):=by rw[hW1];simp[go_sem,hz0]
  have a3:W1.cell? ⟨w.heap.size+2,3,none⟩=some (.int .i64 (E:Int)):=by rw[hW1];simp[go_sem,hz0]
  have a4:W1.cell? ⟨w.heap.size+2,4,none⟩=some (.slice none 0 0):=by rw[hW1];simp[go_sem,hz0]
  have b0:W1.cell? ⟨w.heap.size+1,0,none⟩=some (.int .i64 ev.time):=by rw[hW1];simp[go_sem,hz0]
  have b1:W1.cell? ⟨w.heap.size+1,1,none⟩=some (.int .i64 ev.number):=by rw[hW1];simp[go_sem,hz0]
  have b2:W1.cell? ⟨w.heap.size+1,2,none⟩=some (.int .i64 (K:Int)):=by rw[hW1];simp[go_sem,hz0]
  have b3:W1.cell? ⟨w.heap.size+1,3,none⟩=some (.int .i64 (E:Int)):=by rw[hW1];simp[go_sem,hz0]
  have hro:Room W1 (w.heap.size+2) 5:=by
   intro j hj;have:j=0∨j=1∨j=2∨j=3∨j=4:=by omega
   rw[hW1];rcases this with rfl|rfl|rfl|rfl|rfl<;>simp[go_sem,hz0]
  have hrw:Room W1 w.heap.size 5:=by
   intro j hj;have:j=0∨j=1∨j=2∨j=3∨j=4:=by omega
   rw[hW1];rcases this with rfl|rfl|rfl|rfl|rfl<;>simp[go_sem,hz0]
  have H1:=aB (H0.only (Only.new (S:=fun _=>False) hb01) (by simp) (by simp) (by simp))
  have HO1:=aB (hO0.trans (Only.new hb01));have hKi:(K:Int)<(ks.length:Int):=by omega
  have hK0:(0:Int)≤(K:Int):=by omega
  clear hW1 hW0 hb01 H0 hO0 h1 hcv1 f7 f4 c4 q7 m0 m1 m2 m3
  go_quiet (fail)
  obtain⟨W2,hW2⟩:∃ W2,W2=W1.drewN nq:=⟨_,rfl⟩;rw[←hW2];have hb2:Below W1.heap.size W1 W2:=by rw[hW2];exact below_drewN (Below.refl _ _) _
  have HS:Hid (StR R w W2 cb gb ents ks draws E code RES ev 0 (.slice none 0 0) {s with q:=l,clock:=ev.time} [] R):=by
   refine⟨HO1.out.trans (Only.new hb2),H1.out.only (Only.new (S:=fun _=>False) hb2) (by simp) (by simp) (by simp),fun b hb=>.inl hb,?_,by rw[List.drop_zero];exact HRES.out,⟨aA hb2 a0 (by omega),aA hb2 a1 (by omega),by rw[hK];exact aA hb2 a2 (by omega),by rw[hE];exact aA hb2 a3 (by omega)⟩,aA hb2 a4 (by omega),⟨aA hb2 b0 (by omega),aA hb2 b1 (by omega),by rw[hK];exact aA hb2 b2 (by omega),by rw[hE];exact aA hb2 b3 (by omega)⟩,hro.below hb2 (by omega),hrw.below hb2 (by omega),World.ownsRow_nil _ _ _ _,by simp[Value.ownBlock],by omega,by simp⟩
   have hk:=Hok.out;refine⟨hk.taken,by have:=hk.clock;simp;omega,hk.next,hk.regs,?_,?_⟩
   ·intro x hx;have hx':x∈s.q:=by rw[hq];exact List.mem_cons_of_mem _ hx
    have:=hk.evs x hx';have:=hclk x hx';simp;omega
   ·have:=hk.len;rw[hq]at this;simp at this ⊢;omega
  have HR:=aB H.out.far;have HRl:Hid (∀ b,R b→b<w.heap.size):=fun b hb=>(H.out.far b hb).1;have HKE:Hid (ev.kind=(K:Int)∧ev.entity=(E:Int)):=⟨hK,hE⟩;clear hW2 hb2 H1 HO1 hro hrw a0 a1 a2 a3 a4 b0 b1 b2 b3 k1 kcv H Hok HRES hok hol hq hclk Hnv Hqcode HqR hqR hE hK hz1 hz0
  go_wp2_with fail
  go_loopg [7] 50 (fun g s7 wr=>∃ (i:Nat) (tv:Value) (st:KS) (told:List Int) (R':Nat→Prop),s7=.int .i64 i∧41-i+1≤g∧StR R w wr cb gb ents ks draws E code RES ev i tv st told R')
  case atStart=>exact⟨0,_,_,[],R,rfl,by omega,HS.out⟩
  case round=>
   obtain⟨i,tv,st,told,R',rfl,hg,hH⟩:=hrel;have HH:=aB hH;clear hH HS;have hi40:=HH.out.le;have hzr:=HH.out.only.size;have z4:=HH.out.o4;have hzo:=aC z4;have e3:=HH.out.e0.2.2.2;rw[HKE.out.2]at e3
   by_cases hil:i<code.length
   ·have hx:=List.getElem?_eq_getElem hil;obtain⟨xb',off,rfl,hcR,q0,q1,q2,q3⟩:=HCR.out i hil;have hmay:=Hcm.out code[i] (List.getElem_mem hil);have hfar:=HR.out xb' hcR;have hnS:¬(xb'=cb∨xb'=gb):=by simp;exact hfar.2
    have q0:=HH.out.only.at q0 hnS;have q1:=HH.out.only.at q1 hnS;have q2:=HH.out.only.at q2 hnS;have q3:=HH.out.only.at q3 hnS;generalize code[i]=x at hx hmay q0 q1 q2 q3;obtain⟨op,xa,xb,xc⟩:=x;simp only at hmay q0 q1 q2 q3;have Hx:=aB hx;clear hx;have hii:(i:Int)<(code.length:Int):=by omega
    have hi0:(0:Int)≤(i:Int):=by omega
    by_cases o5:op=5
    ·subst o5;obtain⟨a,rfl,ha⟩:∃ a:Nat,xa=(a:Int)∧a<4:=⟨xa.toNat,by simp[aX,inB]at hmay;omega,by simp[aX,inB]at hmay;omega⟩
     obtain⟨b,rfl,hb1,hb16⟩:∃ b:Nat,xb=(b:Int)∧1≤b∧b≤16:=⟨xb.toNat,by simp[aX,inB]at hmay;omega,by simp[aX,inB]at hmay;omega,by simp[aX,inB]at hmay;omega⟩
     obtain⟨cap,r1,r2,r3⟩:=HH.out.rc.c6;obtain⟨N,hN⟩:=Int.eq_ofNat_of_zero_le (show 0≤ents*4 by omega)
     have hNn:(ents*4).toNat=N:=by omega
     rw[hNn]at r1 r2;obtain⟨F,hF⟩:∃ F,F=E*4+a:=⟨_,rfl⟩;have rg:=HH.out.rc.regs F (by omega)
     rw[hF]at rg;have HF:=aB hF;have w1:IntKind.i64.wrap ((E:Int)*4)=(E:Int)*4:=by rw[IntKind.wrap_i64];omega
     have w2:IntKind.i64.wrap ((E:Int)*4+(a:Int))=(F:Int):=by rw[IntKind.wrap_i64];omega
     rw[←hF]at rg;have b1:(0:Int)≤(F:Int):=by omega
     have b2:(F:Int)<(N:Int):=by omega
     have w3:IntKind.i64.wrap ((i:Int)+(b:Int))=((i+b:Nat):Int):=by rw[IntKind.wrap_i64];omega
     have hsk:=pB Hx.out rfl HH.out.res;simp only[Int.toNat_natCast]at hsk;rw[←hF]at hsk;have Hsk:=aB hsk;clear hsk hF hN hNn;obtain⟨v,hv⟩:∃ v,v=st.regs F:=⟨_,rfl⟩;rw[←hv]at rg Hsk;clear hv
     by_cases hv0:v≤0
     ·have dv:decide (v≤0)=true:=by simpa using hv0
      go_wp2_with fail
      go_quiet (fail)
      have hbq:=below_drewN (Below.refl wr.heap.size wr) nq;have q2':=aA hbq q2 (by omega)
      go_wp2_with fail
      go_roundg (41-(i+b+1)+1)
      case measure=>omega
      case rel=>
       refine⟨i+b+1,tv,st,told,R',by go_num,Nat.le_refl _,HH.out.keep (Only.new hbq) (Hsk.out.1 hv0) (by omega) (by omega)⟩
     ·have dv:decide (v≤0)=false:=by simpa using hv0
      go_wp2_with fail
      go_quiet (fail)
      have hbq:=below_drewN (Below.refl wr.heap.size wr) nq
      go_wp2_with fail
      go_roundg (41-(i+1)+1)
      case measure=>omega
      case rel=>
       refine⟨i+1,tv,st,told,R',by go_num,Nat.le_refl _,HH.out.keep (Only.new hbq) (Hsk.out.2 hv0) (by omega) (by omega)⟩
    ·have d5:(op==5)=false:=by simpa using o5
     obtain⟨st',t,why,hdo⟩:∃ st' t why,doI draws E ⟨op,xa,xb,xc⟩ st=(st',t,why):=⟨_,_,_,rfl⟩;have hbd:Below wr.heap.size wr wr.drew:=(Below.refl _ _).drew;have HD:=aB (zE cb gb ents ks draws st ⟨op,xa,xb,xc⟩ ev.time ev.number ev.kind E wr.drew (HH.out.rc.only (Only.new (S:=fun _=>False) hbd) (by simp) (by simp) (by simp)) he hEl hmay o5 HH.out.ok hdl hd)
     rw[hdo]at HD;have hok2:=pC (E:=E) (x:=⟨op,xa,xb,xc⟩) HH.out.ok hmay o5 hd;rw[hdo]at hok2;have Hok2:=aB hok2;have Hdo:=aB hdo;have v0:=HH.out.e0.1;have v1:=HH.out.e0.2.1;have v2:=HH.out.e0.2.2.1;clear hok2 hdo hbd;have HnS:=aB hnS;have hnE:¬(w.heap.size+1=cb∨w.heap.size+1=gb):=by omega
     have HnE:=aB hnE;clear hnS hnE
     go_wp2_with fail
     go_region_held3 (fun W'=>(W'.cell? ⟨xb',off+i*4,none⟩=some (.int .i64 op)∧W'.cell? ⟨xb',off+i*4+1,none⟩=some (.int .i64 xa)∧W'.cell? ⟨xb',off+i*4+2,none⟩=some (.int .i64 xb)∧W'.cell? ⟨xb',off+i*4+3,none⟩=some (.int .i64 xc))∧W'.cell? ⟨w.heap.size+1,0,none⟩=some (.int .i64 ev.time)∧W'.cell? ⟨w.heap.size+1,1,none⟩=some (.int .i64 ev.number)∧W'.cell? ⟨w.heap.size+1,2,none⟩=some (.int .i64 ev.kind)∧W'.cell? ⟨w.heap.size+1,3,none⟩=some (.int .i64 (E:Int)))
      (first|exact⟨⟨q0,q1,q2,q3⟩,v0,v1,v2,e3⟩|exact⟨⟨ho2.at (w:=wr.drew) q0 HnS.out,ho2.at (w:=wr.drew) q1 HnS.out,ho2.at (w:=wr.drew) q2 HnS.out,ho2.at (w:=wr.drew) q3 HnS.out⟩,ho2.at (w:=wr.drew) v0 HnE.out,ho2.at (w:=wr.drew) v1 HnE.out,ho2.at (w:=wr.drew) v2 HnE.out,ho2.at (w:=wr.drew) e3 HnE.out⟩)
      (first|(go_at_call 117;refine HD.out.mono ?_;rintro e' w2 ⟨ta,tc,rfl,ho2,hif⟩))
     all_goals
      have hz2:=ho2.size;have hz2':wr.drew.heap.size=wr.heap.size:=rfl
      by_cases hw0:why=0
      ·subst hw0;obtain⟨hrc2,hti⟩:=hif rfl;have Hrc2:=aB hrc2;have Hti:Hid (eO w2 (.slice ta t.length tc) t.length (ints t)):=hti.src;have HHow:=aB HH.out.own;obtain⟨tsa,tsc,rfl⟩:=bR HH.out.own;have HO2:=aB ho2;have HHd:Hid (w2.ownsRow (w.heap.size+3) 3 1 (.slice tsa told.length tsc) told.length (ints told)):=by
        refine bT (w:=wr.drew) HH.out.own ho2 ?_;intro b hb;have:=(HH.out.own.lt b hb.symm).1;omega
       have z4':=ho2.at (w:=wr.drew) z4 (by omega)
       have hf4:=((HH.out.oroom.only (Only.new (S:=fun _=>False) (Below.refl _ _).drew) (by simp)).only ho2 (by omega) 4 (by omega)).2
       have htl:=HH.out.tl;have htl1:t.length≤1:=by
        have:=(iM draws E ⟨op,xa,xb,xc⟩ st).2.2.2.1;rw[Hdo.out]at this;exact this
       clear hif ho2 hrc2 hti HHow
       go_wp2_with (at_builtin;go_must (refine aD rfl (.tmp 97) (.tmp 98) 24 rfl (w.heap.size+3) 3 (.int .i64 0) 1 8 Tryz.underlying24 Tryz.infoI rfl (by omega) _ told.length (ints told) rfl HHd.out _ t.length (ints t) rfl Hti.out (by simp[ints]) (oB _) (by omega) (by omega) (by omega) ?_))
       intro v3 w3 hown3 hgr3 hwh3;obtain⟨sa3,sc3,rfl⟩:=bR hown3.out;have hg3:=aF hgr3.out;have hz3:=hg3.size;have hno3:¬(fun b=>some b=(Value.slice tsa told.length tsc).ownBlock) (w.heap.size+2):=by
        intro hc;have:=(HHd.out.lt _ hc.symm).1;omega
       have y4:=hg3.at z4' hno3;have hf4':=((((HH.out.oroom.only (Only.new (S:=fun _=>False) (Below.refl _ _).drew) (by simp)).only HO2.out (by omega)).only hg3 hno3) 4 (by omega)).2
       go_wp2_with fail
       go_roundg (41-(i+1)+1)
       case measure=>omega
       case rel=>
        refine⟨i+1,.slice sa3 (told.length+t.length) sc3,st',told++t,fun b=>R' b∨(wr.heap.size≤b∧b<w2.heap.size),by go_num,Nat.le_refl _,?_⟩
        exact HH.out.next HRl.out ⟨hcl',hgl⟩ ((Only.new (Below.refl _ _).drew).trans HO2.out) (fun b hb=>hb) Hrc2.out Hok2.out (eG Hx.out o5 HH.out.res Hdo.out) (by omega) htl1 hgr3.out hown3.out hwh3.out
      ·have hw1:(why != 0)=true:=by simpa using hw0
       have HO2:=aB ho2;obtain⟨u0,u1,u2,u3,u4,g0,g1,g2,g3,g4⟩:=aBg ((HH.out.wroom.only (Only.new (S:=fun _=>False) (Below.refl _ _).drew) (by simp)).only ho2 (by omega))
       clear hif ho2;have hroom5:=((HH.out.wroom.only (Only.new (S:=fun _=>False) (Below.refl _ _).drew) (by simp)).only HO2.out (by omega))
       have Hroom5:=aB hroom5;clear hroom5
       go_wp2_with fail
       obtain⟨t0,t1,t2,t3,t4⟩:=jS Hroom5.out (.int .i64 0) (.int .i64 0) (.int .i64 0) (.int .i64 0) (.slice none 0 0);unfold lJ at t0 t1 t2 t3 t4;refine bodyPost_ret (v:=.tuple #[qY,.int .i64 why]) ?_ rfl ?_
       ·rw[results_cell_tmp rfl];simp[go_sem,t0,t1,t2,t3,t4,qY]
       rw[kF Hx.out o5 HH.out.res Hdo.out hw0];refine⟨mW (HH.out.only.trans ((Only.new (Below.refl _ _).drew).trans HO2.out)) _ _ _ _ _,.inr ⟨hw0,rfl⟩⟩
   ·have hil':decide ((i:Int)<(code.length:Int))=false:=by simp;omega
    obtain⟨tsa,tsc,rfl⟩:=bR HH.out.own;have hR:=rQ (by omega) HH.out.res
    have HRs:=aB hR;clear hR;have z0:=HH.out.o0.1;have z1:=HH.out.o0.2.1;have z2:=HH.out.o0.2.2.1;have z3:=HH.out.o0.2.2.2;obtain⟨u0,u1,u2,u3,u4,g0,g1,g2,g3,g4⟩:=aBg HH.out.wroom
    go_wp2_with fail
    obtain⟨t0,t1,t2,t3,t4⟩:=jS HH.out.wroom (.int .i64 ev.number) (.int .i64 ev.time) (.int .i64 ev.kind) (.int .i64 ev.entity) (.slice tsa told.length tsc);unfold lJ at t0 t1 t2 t3 t4;refine bodyPost_ret (v:=.tuple #[gZ ev (.slice tsa told.length tsc),.int .i64 0]) ?_ rfl ?_
    ·rw[results_cell_tmp rfl];simp[go_sem,t0,t1,t2,t3,t4,gZ]
    rw[HRs.out];have hs:Only (·=w.heap.size) wr (((((wr.setCell ⟨w.heap.size,0,none⟩ (.int .i64 ev.number)).setCell ⟨w.heap.size,1,none⟩ (.int .i64 ev.time)).setCell ⟨w.heap.size,2,none⟩ (.int .i64 ev.kind)).setCell ⟨w.heap.size,3,none⟩ (.int .i64 ev.entity)).setCell ⟨w.heap.size,4,none⟩ (.slice tsa told.length tsc)):=iO _ _ _ _ _ _ _
    refine⟨mW HH.out.only _ _ _ _ _,.inl ⟨rfl,tsa,tsc,R',rfl,HH.out.rc.only hs ?_ (by omega) (by omega),?_,kL (bT HH.out.own hs ?_) (by omega),HH.out.nap⟩⟩
    ·intro b hb hc;rcases HH.out.sub b hb with hb2|hb2
     ·have:=HRl.out b hb2;omega
     ·omega
    ·intro b hb;rcases HH.out.sub b hb with hb2|hb2
     ·exact .inl hb2
     ·exact .inr (by omega)
    ·intro b hb hc;have:=(HH.out.own.lt b hb.symm).1;omega
 ·have s1:(1:Int)≤(l.length+1:Nat):=by omega
  have Hnv:Hid (EvsIn R w (.slice (some ⟨qb,qo+4,none⟩) l.length (qc-1)) l):=by
   refine .inr ⟨qb,qo+4,qc-1,rfl,by omega,by omega,HqR.out,?_⟩
   have:=Hqcode.out.drop 1
   simpa using this
  go_enter Tryz.func92,Tryz.ntmps92
  go_wp2_with fail
  obtain⟨W1,hW1⟩:∃ W1,W1=((((w.setCell ⟨cb,7,none⟩ (.slice (some ⟨qb,qo+4,none⟩) l.length (qc-1))).setCell ⟨cb,4,none⟩ (.int .i64 ev.time)).alloc (.cells #[.int .i64 0,.int .i64 0,.int .i64 0,.int .i64 0,.slice none 0 0] 46)).alloc (.cells #[.int .i64 ev.time,.int .i64 ev.number,.int .i64 (K:Int),.int .i64 (E:Int)] 143)).alloc (.cells #[.int .i64 ev.number,.int .i64 ev.time,.int .i64 (K:Int),.int .i64 (E:Int),.slice none 0 0] 46):=⟨_,rfl⟩;rw[←hW1];obtain⟨W0,hW0⟩:∃ W0,W0=(w.setCell ⟨cb,7,none⟩ (.slice (some ⟨qb,qo+4,none⟩) l.length (qc-1))).setCell ⟨cb,4,none⟩ (.int .i64 ev.time):=⟨_,rfl⟩;rw[←hW0]at hW1;have hz0:W0.heap.size=w.heap.size:=by rw[hW0];simp[World.setCell]
  have hb01:Below W0.heap.size W0 W1:=by rw[hW1];exact(((Below.refl _ _).alloc (Nat.le_refl _) _).alloc (by simp) _).alloc (by simp;omega) _
  have H0:RefC R W0 cb gb ents ks draws {s with q:=l,clock:=ev.time}:=by rw[hW0];exact(H.out.setQueue _ l Hnv.out).setClock _
  have hO0:Only (fun b=>b=cb∨b=gb) w W0:=by rw[hW0];exact((Only.refl _ _).setCell (S:=fun b=>b=cb∨b=gb) (p:=⟨cb,7,none⟩) (.inl rfl) _).setCell (p:=⟨cb,4,none⟩) (.inl rfl) _
  have k1:W0.cell? ⟨cb,1,none⟩=some (.slice (some ⟨kvb,koff,none⟩) ks.length kcap):=by
   rw[hW0,World.cell?_setCell_other _ _ _ _ (by simp),World.cell?_setCell_other _ _ _ _ (by simp)];exact h1
  replace k1:=aA hb01 k1 (by omega)
  have kcv:=aA hb01 (hO0.at hcv1 (by simp;exact hkvl.2)) (by omega)
  have hz1:W1.heap.size=w.heap.size+3:=by rw[hW1];simp[hz0]
  have a0:W1.cell? ⟨w.heap.size+2,0,none⟩=some (.int .i64 ev.number):=by rw[hW1];simp[go_sem,hz0]
  have a1:W1.cell? ⟨w.heap.size+2,1,none⟩=some (.int .i64 ev.time):=by rw[hW1];simp[go_sem,hz0]
  have a2:W1.cell? ⟨w.heap.size+2,2,none⟩=some (.int .i64 (K:Int)):=by rw[hW1];simp[go_sem,hz0]
  have a3:W1.cell? ⟨w.heap.size+2,3,none⟩=some (.int .i64 (E:Int)):=by rw[hW1];simp[go_sem,hz0]
  have a4:W1.cell? ⟨w.heap.size+2,4,none⟩=some (.slice none 0 0):=by rw[hW1];simp[go_sem,hz0]
  have b0:W1.cell? ⟨w.heap.size+1,0,none⟩=some (.int .i64 ev.time):=by rw[hW1];simp[go_sem,hz0]
  have b1:W1.cell? ⟨w.heap.size+1,1,none⟩=some (.int .i64 ev.number):=by rw[hW1];simp[go_sem,hz0]
  have b2:W1.cell? ⟨w.heap.size+1,2,none⟩=some (.int .i64 (K:Int)):=by rw[hW1];simp[go_sem,hz0]
  have b3:W1.cell? ⟨w.heap.size+1,3,none⟩=some (.int .i64 (E:Int)):=by rw[hW1];simp[go_sem,hz0]
  have hro:Room W1 (w.heap.size+2) 5:=by
   intro j hj;have:j=0∨j=1∨j=2∨j=3∨j=4:=by omega
   rw[hW1];rcases this with rfl|rfl|rfl|rfl|rfl<;>simp[go_sem,hz0]
  have hrw:Room W1 w.heap.size 5:=by
   intro j hj;have:j=0∨j=1∨j=2∨j=3∨j=4:=by omega
   rw[hW1];rcases this with rfl|rfl|rfl|rfl|rfl<;>simp[go_sem,hz0]
  have H1:=aB (H0.only (Only.new (S:=fun _=>False) hb01) (by simp) (by simp) (by simp))
  have HO1:=aB (hO0.trans (Only.new hb01));have hKi:(K:Int)<(ks.length:Int):=by omega
  have hK0:(0:Int)≤(K:Int):=by omega
  clear hW1 hW0 hb01 H0 hO0 h1 hcv1 f7 f4 c4 q7 m0 m1 m2 m3
  go_quiet (fail)
  obtain⟨W2,hW2⟩:∃ W2,W2=W1.drewN nq:=⟨_,rfl⟩;rw[←hW2];have hb2:Below W1.heap.size W1 W2:=by rw[hW2];exact below_drewN (Below.refl _ _) _
  have HS:Hid (StR R w W2 cb gb ents ks draws E code RES ev 0 (.slice none 0 0) {s with q:=l,clock:=ev.time} [] R):=by
   refine⟨HO1.out.trans (Only.new hb2),H1.out.only (Only.new (S:=fun _=>False) hb2) (by simp) (by simp) (by simp),fun b hb=>.inl hb,?_,by rw[List.drop_zero];exact HRES.out,⟨aA hb2 a0 (by omega),aA hb2 a1 (by omega),by rw[hK];exact aA hb2 a2 (by omega),by rw[hE];exact aA hb2 a3 (by omega)⟩,aA hb2 a4 (by omega),⟨aA hb2 b0 (by omega),aA hb2 b1 (by omega),by rw[hK];exact aA hb2 b2 (by omega),by rw[hE];exact aA hb2 b3 (by omega)⟩,hro.below hb2 (by omega),hrw.below hb2 (by omega),World.ownsRow_nil _ _ _ _,by simp[Value.ownBlock],by omega,by simp⟩
   have hk:=Hok.out;refine⟨hk.taken,by have:=hk.clock;simp;omega,hk.next,hk.regs,?_,?_⟩
   ·intro x hx;have hx':x∈s.q:=by rw[hq];exact List.mem_cons_of_mem _ hx
    have:=hk.evs x hx';have:=hclk x hx';simp;omega
   ·have:=hk.len;rw[hq]at this;simp at this ⊢;omega
  have HR:=aB H.out.far;have HRl:Hid (∀ b,R b→b<w.heap.size):=fun b hb=>(H.out.far b hb).1;have HKE:Hid (ev.kind=(K:Int)∧ev.entity=(E:Int)):=⟨hK,hE⟩;clear hW2 hb2 H1 HO1 hro hrw a0 a1 a2 a3 a4 b0 b1 b2 b3 k1 kcv H Hok HRES hok hol hq hclk Hnv Hqcode HqR hqR hE hK hz1 hz0
  go_wp2_with fail
  go_loopg [7] 50 (fun g s7 wr=>∃ (i:Nat) (tv:Value) (st:KS) (told:List Int) (R':Nat→Prop),s7=.int .i64 i∧41-i+1≤g∧StR R w wr cb gb ents ks draws E code RES ev i tv st told R')
  case atStart=>exact⟨0,_,_,[],R,rfl,by omega,HS.out⟩
  case round=>
   obtain⟨i,tv,st,told,R',rfl,hg,hH⟩:=hrel;have HH:=aB hH;clear hH HS;have hi40:=HH.out.le;have hzr:=HH.out.only.size;have z4:=HH.out.o4;have hzo:=aC z4;have e3:=HH.out.e0.2.2.2;rw[HKE.out.2]at e3
   by_cases hil:i<code.length
   ·have hx:=List.getElem?_eq_getElem hil;obtain⟨xb',off,rfl,hcR,q0,q1,q2,q3⟩:=HCR.out i hil;have hmay:=Hcm.out code[i] (List.getElem_mem hil);have hfar:=HR.out xb' hcR;have hnS:¬(xb'=cb∨xb'=gb):=by simp;exact hfar.2
    have q0:=HH.out.only.at q0 hnS;have q1:=HH.out.only.at q1 hnS;have q2:=HH.out.only.at q2 hnS;have q3:=HH.out.only.at q3 hnS;generalize code[i]=x at hx hmay q0 q1 q2 q3;obtain⟨op,xa,xb,xc⟩:=x;simp only at hmay q0 q1 q2 q3;have Hx:=aB hx;clear hx;have hii:(i:Int)<(code.length:Int):=by omega
    have hi0:(0:Int)≤(i:Int):=by omega
    by_cases o5:op=5
    ·subst o5;obtain⟨a,rfl,ha⟩:∃ a:Nat,xa=(a:Int)∧a<4:=⟨xa.toNat,by simp[aX,inB]at hmay;omega,by simp[aX,inB]at hmay;omega⟩
     obtain⟨b,rfl,hb1,hb16⟩:∃ b:Nat,xb=(b:Int)∧1≤b∧b≤16:=⟨xb.toNat,by simp[aX,inB]at hmay;omega,by simp[aX,inB]at hmay;omega,by simp[aX,inB]at hmay;omega⟩
     obtain⟨cap,r1,r2,r3⟩:=HH.out.rc.c6;obtain⟨N,hN⟩:=Int.eq_ofNat_of_zero_le (show 0≤ents*4 by omega)
     have hNn:(ents*4).toNat=N:=by omega
     rw[hNn]at r1 r2;obtain⟨F,hF⟩:∃ F,F=E*4+a:=⟨_,rfl⟩;have rg:=HH.out.rc.regs F (by omega)
     rw[hF]at rg;have HF:=aB hF;have w1:IntKind.i64.wrap ((E:Int)*4)=(E:Int)*4:=by rw[IntKind.wrap_i64];omega
     have w2:IntKind.i64.wrap ((E:Int)*4+(a:Int))=(F:Int):=by rw[IntKind.wrap_i64];omega
     rw[←hF]at rg;have b1:(0:Int)≤(F:Int):=by omega
     have b2:(F:Int)<(N:Int):=by omega
     have w3:IntKind.i64.wrap ((i:Int)+(b:Int))=((i+b:Nat):Int):=by rw[IntKind.wrap_i64];omega
     have hsk:=pB Hx.out rfl HH.out.res;simp only[Int.toNat_natCast]at hsk;rw[←hF]at hsk;have Hsk:=aB hsk;clear hsk hF hN hNn;obtain⟨v,hv⟩:∃ v,v=st.regs F:=⟨_,rfl⟩;rw[←hv]at rg Hsk;clear hv
     by_cases hv0:v≤0
     ·have dv:decide (v≤0)=true:=by simpa using hv0
      go_wp2_with fail
      go_quiet (fail)
      have hbq:=below_drewN (Below.refl wr.heap.size wr) nq;have q2':=aA hbq q2 (by omega)
      go_wp2_with fail
      go_roundg (41-(i+b+1)+1)
      case measure=>omega
      case rel=>
       refine⟨i+b+1,tv,st,told,R',by go_num,Nat.le_refl _,HH.out.keep (Only.new hbq) (Hsk.out.1 hv0) (by omega) (by omega)⟩
     ·have dv:decide (v≤0)=false:=by simpa using hv0
      go_wp2_with fail
      go_quiet (fail)
      have hbq:=below_drewN (Below.refl wr.heap.size wr) nq
      go_wp2_with fail
      go_roundg (41-(i+1)+1)
      case measure=>omega
      case rel=>
       refine⟨i+1,tv,st,told,R',by go_num,Nat.le_refl _,HH.out.keep (Only.new hbq) (Hsk.out.2 hv0) (by omega) (by omega)⟩
    ·have d5:(op==5)=false:=by simpa using o5
     obtain⟨st',t,why,hdo⟩:∃ st' t why,doI draws E ⟨op,xa,xb,xc⟩ st=(st',t,why):=⟨_,_,_,rfl⟩;have hbd:Below wr.heap.size wr wr.drew:=(Below.refl _ _).drew;have HD:=aB (zE cb gb ents ks draws st ⟨op,xa,xb,xc⟩ ev.time ev.number ev.kind E wr.drew (HH.out.rc.only (Only.new (S:=fun _=>False) hbd) (by simp) (by simp) (by simp)) he hEl hmay o5 HH.out.ok hdl hd)
     rw[hdo]at HD;have hok2:=pC (E:=E) (x:=⟨op,xa,xb,xc⟩) HH.out.ok hmay o5 hd;rw[hdo]at hok2;have Hok2:=aB hok2;have Hdo:=aB hdo;have v0:=HH.out.e0.1;have v1:=HH.out.e0.2.1;have v2:=HH.out.e0.2.2.1;clear hok2 hdo hbd;have HnS:=aB hnS;have hnE:¬(w.heap.size+1=cb∨w.heap.size+1=gb):=by omega
     have HnE:=aB hnE;clear hnS hnE
     go_wp2_with fail
     go_region_held3 (fun W'=>(W'.cell? ⟨xb',off+i*4,none⟩=some (.int .i64 op)∧W'.cell? ⟨xb',off+i*4+1,none⟩=some (.int .i64 xa)∧W'.cell? ⟨xb',off+i*4+2,none⟩=some (.int .i64 xb)∧W'.cell? ⟨xb',off+i*4+3,none⟩=some (.int .i64 xc))∧W'.cell? ⟨w.heap.size+1,0,none⟩=some (.int .i64 ev.time)∧W'.cell? ⟨w.heap.size+1,1,none⟩=some (.int .i64 ev.number)∧W'.cell? ⟨w.heap.size+1,2,none⟩=some (.int .i64 ev.kind)∧W'.cell? ⟨w.heap.size+1,3,none⟩=some (.int .i64 (E:Int)))
      (first|exact⟨⟨q0,q1,q2,q3⟩,v0,v1,v2,e3⟩|exact⟨⟨ho2.at (w:=wr.drew) q0 HnS.out,ho2.at (w:=wr.drew) q1 HnS.out,ho2.at (w:=wr.drew) q2 HnS.out,ho2.at (w:=wr.drew) q3 HnS.out⟩,ho2.at (w:=wr.drew) v0 HnE.out,ho2.at (w:=wr.drew) v1 HnE.out,ho2.at (w:=wr.drew) v2 HnE.out,ho2.at (w:=wr.drew) e3 HnE.out⟩)
      (first|(go_at_call 117;refine HD.out.mono ?_;rintro e' w2 ⟨ta,tc,rfl,ho2,hif⟩))
     all_goals
      have hz2:=ho2.size;have hz2':wr.drew.heap.size=wr.heap.size:=rfl
      by_cases hw0:why=0
      ·subst hw0;obtain⟨hrc2,hti⟩:=hif rfl;have Hrc2:=aB hrc2;have Hti:Hid (eO w2 (.slice ta t.length tc) t.length (ints t)):=hti.src;have HHow:=aB HH.out.own;obtain⟨tsa,tsc,rfl⟩:=bR HH.out.own;have HO2:=aB ho2;have HHd:Hid (w2.ownsRow (w.heap.size+3) 3 1 (.slice tsa told.length tsc) told.length (ints told)):=by
        refine bT (w:=wr.drew) HH.out.own ho2 ?_;intro b hb;have:=(HH.out.own.lt b hb.symm).1;omega
       have z4':=ho2.at (w:=wr.drew) z4 (by omega)
       have hf4:=((HH.out.oroom.only (Only.new (S:=fun _=>False) (Below.refl _ _).drew) (by simp)).only ho2 (by omega) 4 (by omega)).2
       have htl:=HH.out.tl;have htl1:t.length≤1:=by
        have:=(iM draws E ⟨op,xa,xb,xc⟩ st).2.2.2.1;rw[Hdo.out]at this;exact this
       clear hif ho2 hrc2 hti HHow
       go_wp2_with (at_builtin;go_must (refine aD rfl (.tmp 97) (.tmp 98) 24 rfl (w.heap.size+3) 3 (.int .i64 0) 1 8 Tryz.underlying24 Tryz.infoI rfl (by omega) _ told.length (ints told) rfl HHd.out _ t.length (ints t) rfl Hti.out (by simp[ints]) (oB _) (by omega) (by omega) (by omega) ?_))
       intro v3 w3 hown3 hgr3 hwh3;obtain⟨sa3,sc3,rfl⟩:=bR hown3.out;have hg3:=aF hgr3.out;have hz3:=hg3.size;have hno3:¬(fun b=>some b=(Value.slice tsa told.length tsc).ownBlock) (w.heap.size+2):=by
        intro hc;have:=(HHd.out.lt _ hc.symm).1;omega
       have y4:=hg3.at z4' hno3;have hf4':=((((HH.out.oroom.only (Only.new (S:=fun _=>False) (Below.refl _ _).drew) (by simp)).only HO2.out (by omega)).only hg3 hno3) 4 (by omega)).2
       go_wp2_with fail
       go_roundg (41-(i+1)+1)
       case measure=>omega
       case rel=>
        refine⟨i+1,.slice sa3 (told.length+t.length) sc3,st',told++t,fun b=>R' b∨(wr.heap.size≤b∧b<w2.heap.size),by go_num,Nat.le_refl _,?_⟩
        exact HH.out.next HRl.out ⟨hcl',hgl⟩ ((Only.new (Below.refl _ _).drew).trans HO2.out) (fun b hb=>hb) Hrc2.out Hok2.out (eG Hx.out o5 HH.out.res Hdo.out) (by omega) htl1 hgr3.out hown3.out hwh3.out
      ·have hw1:(why != 0)=true:=by simpa using hw0
       have HO2:=aB ho2;obtain⟨u0,u1,u2,u3,u4,g0,g1,g2,g3,g4⟩:=aBg ((HH.out.wroom.only (Only.new (S:=fun _=>False) (Below.refl _ _).drew) (by simp)).only ho2 (by omega))
       clear hif ho2;have hroom5:=((HH.out.wroom.only (Only.new (S:=fun _=>False) (Below.refl _ _).drew) (by simp)).only HO2.out (by omega))
       have Hroom5:=aB hroom5;clear hroom5
       go_wp2_with fail
       obtain⟨t0,t1,t2,t3,t4⟩:=jS Hroom5.out (.int .i64 0) (.int .i64 0) (.int .i64 0) (.int .i64 0) (.slice none 0 0);unfold lJ at t0 t1 t2 t3 t4;refine bodyPost_ret (v:=.tuple #[qY,.int .i64 why]) ?_ rfl ?_
       ·rw[results_cell_tmp rfl];simp[go_sem,t0,t1,t2,t3,t4,qY]
       rw[kF Hx.out o5 HH.out.res Hdo.out hw0];refine⟨mW (HH.out.only.trans ((Only.new (Below.refl _ _).drew).trans HO2.out)) _ _ _ _ _,.inr ⟨hw0,rfl⟩⟩
   ·have hil':decide ((i:Int)<(code.length:Int))=false:=by simp;omega
    obtain⟨tsa,tsc,rfl⟩:=bR HH.out.own;have hR:=rQ (by omega) HH.out.res
    have HRs:=aB hR;clear hR;have z0:=HH.out.o0.1;have z1:=HH.out.o0.2.1;have z2:=HH.out.o0.2.2.1;have z3:=HH.out.o0.2.2.2;obtain⟨u0,u1,u2,u3,u4,g0,g1,g2,g3,g4⟩:=aBg HH.out.wroom
    go_wp2_with fail
    obtain⟨t0,t1,t2,t3,t4⟩:=jS HH.out.wroom (.int .i64 ev.number) (.int .i64 ev.time) (.int .i64 ev.kind) (.int .i64 ev.entity) (.slice tsa told.length tsc);unfold lJ at t0 t1 t2 t3 t4;refine bodyPost_ret (v:=.tuple #[gZ ev (.slice tsa told.length tsc),.int .i64 0]) ?_ rfl ?_
    ·rw[results_cell_tmp rfl];simp[go_sem,t0,t1,t2,t3,t4,gZ]
    rw[HRs.out];have hs:Only (·=w.heap.size) wr (((((wr.setCell ⟨w.heap.size,0,none⟩ (.int .i64 ev.number)).setCell ⟨w.heap.size,1,none⟩ (.int .i64 ev.time)).setCell ⟨w.heap.size,2,none⟩ (.int .i64 ev.kind)).setCell ⟨w.heap.size,3,none⟩ (.int .i64 ev.entity)).setCell ⟨w.heap.size,4,none⟩ (.slice tsa told.length tsc)):=iO _ _ _ _ _ _ _
    refine⟨mW HH.out.only _ _ _ _ _,.inl ⟨rfl,tsa,tsc,R',rfl,HH.out.rc.only hs ?_ (by omega) (by omega),?_,kL (bT HH.out.own hs ?_) (by omega),HH.out.nap⟩⟩
    ·intro b hb hc;rcases HH.out.sub b hb with hb2|hb2
     ·have:=HRl.out b hb2;omega
     ·omega
    ·intro b hb;rcases HH.out.sub b hb with hb2|hb2
     ·exact .inl hb2
     ·exact .inr (by omega)
    ·intro b hb hc;have:=(HH.out.own.lt b hb.symm).1;omega
end Go.Proofs.YtndlmgocldckfaaGreat
