import Derived.Test.YtndlmgocldckfaaGreatG12
import Derived.StillTailTactics
import Derived.Deep.DeepCutAuto
namespace Go.Proofs.YtndlmgocldckfaaGreat
open Go.RowKit
set_option linter.unusedVariables false
set_option linter.unusedSimpArgs false
set_option maxRecDepth 100000
set_option maxHeartbeats 4000000
structure HapR(R:Nat→Prop)(base:Nat)(w wr:World)(kb qb mb:Nat)(ov:Value)(ents:Int)(ks:List (List Ins))(draws:List Int)(E:Nat)(code:List Ins)(RES:KS×List Int×Int)(i:Nat)(tv:Value)(ov':Value)(st:KS)(told:List Int):Prop where
 only:Only (bG kb qb mb ov) w wr
 moved:Moved w ov ov'
 ker:KerP R base wr kb qb mb ov' ents ks draws st
 ok:KOk ents ks.length draws st
 res:cF draws E (code.drop i) st told=RES
 le:i≤40
 tl:told.length≤i
 owns:wr.ownsRow w.heap.size 3 1 tv told.length (ints told)
 sep:∀ b,some b=tv.ownBlock→¬bG kb qb mb ov' b
theorem Tryz.mixed:Tryz.prog.follows .mixedOrders=true:=by kernel_rfl
theorem bT{w w':World}{base:Nat}{e:TypeId}{size:Nat}{v:Value}{n:Nat}{xs:List Value}{U:Nat→Prop}(h:w.ownsRow base e size v n xs)(ho:Only U w w')(hU:∀ b,some b=v.ownBlock→¬U b):w'.ownsRow base e size v n xs:=by
 obtain⟨h1,h2⟩:=h;refine⟨h1,?_⟩;rcases h2 with h2|⟨g,cap,cur,rfl,hg',hh,r⟩
 ·exact .inl h2
 ·exact .inr ⟨g,cap,cur,rfl,hg',(ho.block g (Array.getElem?_eq_some_iff.1 hh).1 (hU g rfl)).trans hh,r⟩
theorem fP{w:World}{kb qb mb:Nat}{ov ov':Value}(hm:Moved w ov ov'){b:Nat}(hb:b<w.heap.size)(hn:¬bG kb qb mb ov b):¬bG kb qb mb ov' b:=by
 rintro (rfl|rfl|rfl|hc)
 ·exact hn (.inl rfl)
 ·exact hn (.inr (.inl rfl))
 ·exact hn (.inr (.inr (.inl rfl)))
 ·rcases hm with e|⟨g,e,hg⟩
  ·exact hn (.inr (.inr (.inr (hc.trans e))))
  ·rw[e]at hc;simp at hc;omega
section
variable {R : Nat → Prop} {base : Nat} {w wr w2 : World} {kb qb mb : Nat} {ov ov' ov2 : Value} {ents : Int} {ks : List (List Ins)} {draws : List Int} {E : Nat} {code : List Ins} {RES : KS × List Int × Int} {i j : Nat} {tv tv2 : Value} {st st2 : KS} {told t2 : List Int}
theorem HapR.next(h:HapR R base w wr kb qb mb ov ents ks draws E code RES i tv ov' st told)(ho:Only (bG kb qb mb ov') wr w2)(hm:Moved wr ov' ov2)(hk:KerP R base w2 kb qb mb ov2 ents ks draws st2)(hok:KOk ents ks.length draws st2)(hres:cF draws E (code.drop j) st2 t2=RES)(hj:j≤40)(hl:t2.length≤j)
  (howns:w2.ownsRow w.heap.size 3 1 tv2 t2.length (ints t2)) (hsep:∀ b,some b=tv2.ownBlock→¬bG kb qb mb ov2 b):HapR R base w w2 kb qb mb ov ents ks draws E code RES j tv2 ov2 st2 t2:=by
 refine⟨⟨ho.os.trans h.only.os,ho.tape.trans h.only.tape,ho.output.trans h.only.output,Nat.le_trans h.only.size ho.size,?_⟩,h.moved.trans hm h.only.size,hk,hok,hres,hj,hl,howns,hsep⟩;intro k hk' hn;rw[ho.block k (Nat.lt_of_lt_of_le hk' h.only.size) (fP h.moved hk' hn),h.only.block k hk' hn]
theorem HapR.up(h:HapR R base w wr kb qb mb ov ents ks draws E code RES i tv ov' st told)(ho:Only (bG kb qb mb ov') wr w2):Only (bG kb qb mb ov) w w2:=by
 refine⟨ho.os.trans h.only.os,ho.tape.trans h.only.tape,ho.output.trans h.only.output,Nat.le_trans h.only.size ho.size,?_⟩;intro k hk' hn;rw[ho.block k (Nat.lt_of_lt_of_le hk' h.only.size) (fP h.moved hk' hn),h.only.block k hk' hn]
theorem HapR.same(h:HapR R base w wr kb qb mb ov ents ks draws E code RES i tv ov' st told)(ho:Only (bG kb qb mb ov') wr w2)(hm:Moved wr ov' ov2)(hk:KerP R base w2 kb qb mb ov2 ents ks draws st2)(hok:KOk ents ks.length draws st2)(hres:cF draws E (code.drop j) st2 told=RES)(hj:j≤40)(hij:i≤j):HapR R base w w2 kb qb mb ov ents ks draws E code RES j tv ov2 st2 told:=
 h.next ho hm hk hok hres hj (Nat.le_trans h.tl hij) (bT h.owns ho h.sep) (fun b hb=>fP hm (h.owns.lt b hb.symm).2 (h.sep b hb))
end
theorem iP(draws:List Int)(E:Nat)(x:Ins)(l:List Ins)(s:KS)(told:List Int):cF draws E (x::l) s told =
  if x.op=5 then
   if s.regs (E*4+x.a.toNat)≤0 then cF draws E (l.drop x.b.toNat) s told else cF draws E l s told
  else
   match doI draws E x s with
   | (s',t,why)=>if why=0 then cF draws E l s' (told++t)else (s',[],why):=by
 show lW draws E (x::l) 0 s told=_;rw[lW];simp only[rT,List.drop_zero]
theorem pA(draws:List Int)(E:Nat)(s:KS)(told:List Int):cF draws E [] s told=(s,told,0):=by simp[cF,lW]
theorem eG{draws:List Int}{E:Nat}{code:List Ins}{i:Nat}{x:Ins}{st st':KS}{told t:List Int}{RES:KS×List Int×Int}(hi:code[i]?=some x)(h5:x.op≠5)(hr:cF draws E (code.drop i) st told=RES)(hdo:doI draws E x st=(st',t,0)):cF draws E (code.drop (i+1)) st' (told++t)=RES:=by
 obtain⟨hil,hie⟩:=List.getElem?_eq_some_iff.1 hi;rw[List.drop_eq_getElem_cons hil,hie,iP,if_neg h5,hdo]at hr
 simpa using hr
theorem kF{draws:List Int}{E:Nat}{code:List Ins}{i:Nat}{x:Ins}{st st':KS}{told t:List Int}{why:Int}{RES:KS×List Int×Int}(hi:code[i]?=some x)(h5:x.op≠5)(hr:cF draws E (code.drop i) st told=RES)(hdo:doI draws E x st=(st',t,why))(hw:why≠0):RES=(st',[],why):=by
 obtain⟨hil,hie⟩:=List.getElem?_eq_some_iff.1 hi;rw[List.drop_eq_getElem_cons hil,hie,iP,if_neg h5,hdo]at hr;simp[hw]at hr;exact hr.symm
theorem pB{draws:List Int}{E:Nat}{code:List Ins}{i:Nat}{x:Ins}{st:KS}{told:List Int}{RES:KS×List Int×Int}(hi:code[i]?=some x)(h5:x.op=5)(hr:cF draws E (code.drop i) st told=RES) :
  (st.regs (E*4+x.a.toNat)≤0→cF draws E (code.drop (i+x.b.toNat+1)) st told=RES)∧(¬st.regs (E*4+x.a.toNat)≤0→cF draws E (code.drop (i+1)) st told=RES):=by
 obtain⟨hil,hie⟩:=List.getElem?_eq_some_iff.1 hi;rw[List.drop_eq_getElem_cons hil,hie,iP,if_pos h5]at hr;refine⟨fun h=>?_,fun h=>?_⟩
 ·rw[if_pos h,List.drop_drop]at hr;rw[←hr];congr 2;omega
 ·rw[if_neg h]at hr;exact hr
theorem rQ{draws:List Int}{E:Nat}{code:List Ins}{i:Nat}{st:KS}{told:List Int}{RES:KS×List Int×Int}(hi:code.length≤i)(hr:cF draws E (code.drop i) st told=RES):RES=(st,told,0):=by
 rw[List.drop_eq_nil_of_le hi,pA]at hr;exact hr.symm
def aG4(R:Nat→Prop)(w:World)(ca:Option Addr)(cc:Nat)(code:List Ins):Prop:=∀ i (h:i<code.length),∃ cb off,ca=some ⟨cb,off,none⟩∧R cb∧w.cell? ⟨cb,off+i*4,none⟩=some (.int .i64 code[i].op)∧w.cell? ⟨cb,off+i*4+1,none⟩=some (.int .i64 code[i].a)∧w.cell? ⟨cb,off+i*4+2,none⟩=some (.int .i64 code[i].b)∧w.cell? ⟨cb,off+i*4+3,none⟩=some (.int .i64 code[i].c)
theorem aA1{R:Nat→Prop}{base:Nat}(kb qb mb:Nat)(ov:Value)(ents:Int)(ks:List (List Ins))(draws:List Int)(s:KS)(e:Ev)(w:World)(h:KerP R base w kb qb mb ov ents ks draws s)(hbase:base≤w.heap.size)(hok:KOk ents ks.length draws s)(he:e∈s.q)(hclk:∀ x∈s.q,e.time≤x.time)(hents:ents≤8)(hk8:ks.length≤8)
  (hcode:∀ l∈ks,l.length≤16∧∀ x∈l,aX ents ks.length x.op x.a x.b x.c=true) (hd:∀ d∈draws,0≤d∧d≤1000000000) :
  Calls Tryz.prog 128 #[.pointer (some ⟨kb,0,none⟩),.agg #[.int .i64 e.number,.int .i64 e.time,.int .i64 e.kind,.int .i64 e.entity]] w
   fun e' w'=>∃ tv ov',e'=.returned (.tuple #[tv,.int .i64 (aV ks draws e s).2.2])∧Only (bG kb qb mb ov) w w'∧Moved w ov ov'∧KerP R base w' kb qb mb ov' ents ks draws (aV ks draws e s).1∧KOk ents ks.length draws (aV ks draws e s).1 ∧
    w'.ownsRow w.heap.size 3 1 tv (aV ks draws e s).2.1.length (ints (aV ks draws e s).2.1)∧(∀ b,some b=tv.ownBlock→¬bG kb qb mb ov' b):=by
 obtain⟨ev1,ev2,ev3,ev4,ev5,ev6,ev7,ev8⟩:=hok.evs e he;obtain⟨E,hE⟩:∃ E:Nat,e.entity=(E:Int):=⟨e.entity.toNat,by omega⟩
 obtain⟨K,hK⟩:∃ K:Nat,e.kind=(K:Int):=⟨e.kind.toNat,by omega⟩
 have hKl:K<ks.length:=by omega
 have hEl:E<8:=by omega
 obtain⟨code,hcd⟩:∃ code,ks[K]?=some code:=⟨ks[K],by simp[hKl]⟩
 have hF:aV ks draws e s=cF draws E code {s with q:=bY e.number s.q,clock:=e.time} []:=by
  simp[aV,hE,hK,List.getD,hcd]
 obtain⟨RES,hRES⟩:∃ RES,RES=aV ks draws e s:=⟨_,rfl⟩;rw[←hRES];have HRES:Hid (cF draws E code {s with q:=bY e.number s.q,clock:=e.time} []=RES):=by rw[hRES,hF];rfl
 obtain⟨hcl,hcm⟩:=hcode code (List.mem_of_getElem? hcd);have Hcm:=aB hcm;obtain⟨kv,h1,hkv⟩:=h.kinds;obtain⟨hkl,⟨_,h0⟩|⟨kvb,koff,kcap,rfl,hkR,hkc⟩⟩:=hkv
 ·rw[h0]at hKl;simp at hKl
 obtain⟨cv,hcv1,hcv2⟩:=hkc K code hcd;obtain⟨ca,cc,rfl⟩:=hcv2.form;have hCR:aG4 R w ca cc code:=by
  intro i hi;obtain⟨_,⟨_,h0⟩|⟨cb,off,cap,hce,hcR,hcc⟩⟩:=hcv2
  ·rw[h0]at hi;simp at hi
  ·simp only[Value.slice.injEq]at hce;exact⟨cb,off,hce.1,hcR,hcc i code[i] (by simp[hi])⟩
 have HCR:=aB hCR;have H:=aB h;have h3:=h.c3;have hkl':=h.klt;have Hq:=aB h.que;have Hok:=aB hok;have Hkv:=h.far kvb hkR;have hkvl:=h.rlt kvb hkR;clear hkc hcv2 hCR hcm hcode hok hF hRES h hcd;have Hdrop:Hid (∀ W:World,Below w.heap.size w W→Calls Tryz.prog 134 #[.pointer (some ⟨qb,0,none⟩),.int .i64 e.number] W fun e' w'=>∃ ov',e'=.returned (.tuple #[])∧Only (dV qb mb ov) W w'∧QueP base w' qb mb ov' (bY e.number s.q)∧ov'.ownBlock=ov.ownBlock):=fun W hW=>vV qb mb ov s.q e W (Hq.out.below hW) he;have hd0:IntKind.i64.wrap e.entity=e.entity:=by rw[IntKind.wrap_i64];omega
 rw[hE,hK]
 go_enter Tryz.func128,Tryz.ntmps128
 go_wp2_with fail
 obtain⟨W0,hW0⟩:∃ W0,W0=w.alloc (.cells #[.int .i64 e.number,.int .i64 e.time,.int .i64 (K:Int),.int .i64 (E:Int)] 171):=⟨_,rfl⟩;have hb0:Below w.heap.size w W0:=by rw[hW0];exact(Below.refl _ _).alloc (Nat.le_refl _) _
 have x0:W0.cell? ⟨w.heap.size,0,none⟩=some (.int .i64 e.number):=by rw[hW0];simp[go_sem]
 have x1:W0.cell? ⟨w.heap.size,1,none⟩=some (.int .i64 e.time):=by rw[hW0];simp[go_sem]
 have x2:W0.cell? ⟨w.heap.size,2,none⟩=some (.int .i64 (K:Int)):=by rw[hW0];simp[go_sem]
 have x3:W0.cell? ⟨w.heap.size,3,none⟩=some (.int .i64 (E:Int)):=by rw[hW0];simp[go_sem]
 have hz0:W0.heap.size=w.heap.size+1:=by rw[hW0];simp
 rw[←hW0];have g3:=aA hb0 h3 hkl';have Hnw:Hid (¬dV qb mb ov w.heap.size):=fun hc=>by have:=Hq.out.lt _ hc;omega
 have Hb0:=aB hb0;clear hb0 hW0
 go_region_held3 (fun W'=>W'.cell? ⟨kb,3,none⟩=some (.pointer (some ⟨qb,0,none⟩))∧W'.cell? ⟨w.heap.size,0,none⟩=some (.int .i64 e.number))
  (first|go_keep|exact⟨ho1.at (w:=W0.drew) g3 H.out.kq,ho1.at (w:=W0.drew) x0 Hnw.out⟩)
  (first|(go_at_call 134;refine(Hdrop.out W0.drew Hb0.out.drew).mono ?_;rintro e' w1 ⟨ov1,rfl,ho1,hq1,hm1⟩))
 have hO1:Only (dV qb mb ov) w w1:=(Only.new Hb0.out).trans ⟨ho1.os,ho1.tape,ho1.output,ho1.size,ho1.block⟩;have hz1:=ho1.size;have hz1':W0.heap.size≤w1.heap.size:=hz1;have hK1:=H.out.queue hO1 hq1 (.inl hm1);have y1:=ho1.at (w:=W0.drew) x1 Hnw.out;have y2:=ho1.at (w:=W0.drew) x2 Hnw.out;have y3:=ho1.at (w:=W0.drew) x3 Hnw.out;have k4:=hK1.c4;have kf4:=(hK1.room 4 (by omega)).2
 have HK1:=aB (hK1.setClock e.time);have HO1:=aB hO1;have k1:=hO1.at h1 (H.out.kq);have kcv:=hO1.at hcv1 Hkv.2;clear ho1 hO1 hq1 hK1 x0 x1 x2 x3 g3;have hne:kb≠w.heap.size:=by omega
 have hKi:(K:Int)<(ks.length:Int):=by omega
 have hEi:(E:Int)<8:=by omega
 have hkvk:kvb≠kb:=Hkv.1
 go_wp2_with fail
 go_quiet (fail)
 go_wp2_with fail
 go_quiet (fail)
 go_wp2_with fail
 generalize hW2:((w1.setCell ⟨kb,4,none⟩ (.int .i64 e.time)).drewN _).drewN _=W2;have hK2:KerP R base W2 kb qb mb ov1 ents ks draws {s with q:=bY e.number s.q,clock:=e.time}:=by rw[←hW2];exact(HK1.out.below (below_drewN (Below.refl _ _) _)).below (below_drewN (Below.refl _ _) _)
 have hO2:Only (bG kb qb mb ov) w W2:=by rw[←hW2];exact((((HO1.out.mono (fun k _ hk=>.inr hk)).setCell (.inl rfl) _)).trans (Only.new (below_drewN (Below.refl _ _) _))).trans (Only.new (below_drewN (Below.refl _ _) _))
 have hok2:KOk ents ks.length draws {s with q:=bY e.number s.q,clock:=e.time}:=by
  have hk:=Hok.out;refine⟨hk.taken,by have:=hk.clock;simp;omega,hk.next,hk.regs,?_,?_⟩
  ·intro x hx;have hx':=((iV _ _ _).1 hx).1;have:=hk.evs x hx';have:=hclk x hx';simp;omega
  ·have:=List.length_filter_le (fun x:Ev=>decide (x.number≠e.number)) s.q;have:=hk.len;simp only[bY];omega
 have H2:Hid (HapR R base w W2 kb qb mb ov ents ks draws E code RES 0 (.slice none 0 0) ov1 {s with q:=bY e.number s.q,clock:=e.time} []):=
  ⟨hO2,.inl hm1,hK2,hok2,by rw[List.drop_zero];exact HRES.out,by omega,by simp,World.ownsRow_nil _ _ _ _,by simp[Value.ownBlock]⟩
 have hzW:w.heap.size≤W2.heap.size:=hO2.size;have Hfar:Hid (∀ b,R b→b<w.heap.size∧¬bG kb qb mb ov b):=fun b hb=>⟨H.out.rlt b hb,fun hc=>by rcases hc with hc|hc;exact(H.out.far b hb).1 hc;exact(H.out.far b hb).2 hc⟩
 have HE':Hid (e.entity=(E:Int)):=hE;clear hW2 hK2 hO2 hok2 HK1 HO1 HRES hd0 k1 kcv k4 kf4 y1 y2 y3 hm1 Hdrop h1 hcv1 h3 hE hK
 go_loopg [8,9] 50 (fun g s8 s9 wr=>∃ (i:Nat) (ov':Value) (st:KS) (told:List Int),s9=.int .i64 i∧41-i+1≤g∧HapR R base w wr kb qb mb ov ents ks draws E code RES i s8 ov' st told)
 case atStart=>exact⟨0,ov1,_,[],rfl,by omega,H2.out⟩
 case round=>
  obtain⟨i,ov',st,told,rfl,hg,hH⟩:=hrel;have HH:=aB hH;clear hH H2;have hi40:=HH.out.le
  by_cases hil:i<code.length
  ·have hx:=List.getElem?_eq_getElem hil;obtain⟨cb,off,rfl,hcR,q0,q1,q2,q3⟩:=HCR.out i hil;have hmay:=Hcm.out code[i] (List.getElem_mem hil);obtain⟨hcw,hcn⟩:=Hfar.out cb hcR;have q0:=HH.out.only.at q0 hcn;have q1:=HH.out.only.at q1 hcn;have q2:=HH.out.only.at q2 hcn;have q3:=HH.out.only.at q3 hcn;generalize code[i]=x at hx hmay q0 q1 q2 q3;obtain⟨op,xa,xb,xc⟩:=x;simp only at hmay q0 q1 q2 q3;have Hx:=aB hx;clear hx;have hzr:=HH.out.only.size;have hkr:=HH.out.ker.klt;have hcbr:cb<wr.heap.size:=by omega
   have hii:(i:Int)<(code.length:Int):=by omega
   have hcap:True:=trivial;obtain⟨tsa,tsc,rfl⟩:∃ sa sc,u8=Value.slice sa told.length sc:=by
    obtain⟨_,⟨rfl,h0⟩|⟨g,cap,cur,rfl,_⟩⟩:=HH.out.owns
    ·exact⟨_,_,by rw[h0]⟩
    ·exact⟨_,_,rfl⟩
   by_cases o1:op=1
   ·as_aux_lemma=>
     subst o1;obtain⟨a,rfl,ha⟩:∃ a:Nat,xa=(a:Int)∧a<4:=⟨xa.toNat,by simp[aX,inB]at hmay;omega,by simp[aX,inB]at hmay;omega⟩
     obtain⟨xb1,xb2,rfl⟩:-1000000000≤xb∧xb≤1000000000∧xc=0:=by simp[aX,inB]at hmay;omega
     have hai:(a:Int)<4:=by omega
     go_wp2_with fail
     obtain⟨W1,hW1⟩:∃ W1,W1=wr.alloc (.cells #[.int .i64 1,.int .i64 (a:Int),.int .i64 xb,.int .i64 0] 59):=⟨_,rfl⟩;have hb1:Below wr.heap.size wr W1:=by rw[hW1];exact(Below.refl _ _).alloc (Nat.le_refl _) _
     have hz1:W1.heap.size=wr.heap.size+1:=by rw[hW1];simp
     have p1:W1.cell? ⟨wr.heap.size,1,none⟩=some (.int .i64 (a:Int)):=by rw[hW1];simp[go_sem]
     have p2:W1.cell? ⟨wr.heap.size,2,none⟩=some (.int .i64 xb):=by rw[hW1];simp[go_sem]
     have p3:W1.cell? ⟨wr.heap.size,3,none⟩=some (.int .i64 0):=by rw[hW1];simp[go_sem]
     rw[←hW1];have HK:=aB (HH.out.ker.below hb1);have HB1:=aB hb1;clear hb1 hW1 q0 q1 q2 q3;have r0:=HK.out.regs (E*4+a) (by omega)
     have rf:=(HK.out.room (7+(E*4+a)) (by omega)).2
     rw[←Nat.add_assoc]at r0 rf
     go_still_tail 6,Tryz.mixed
     go_wp2_with fail
     go_roundg (41-(i+1)+1)
     case measure=>omega
     case rel=>
      refine⟨i+1,ov',{st with regs:=cD st.regs (E*4+a) xb},told,by go_num,Nat.le_refl _,?_⟩
      have hk:=(HK.out.below (Below.refl _ _).drew).setReg (i:=E*4+a) (by omega) xb
      rw[←Nat.add_assoc]at hk;refine HH.out.same (((Only.new HB1.out).trans (Only.new (Below.refl _ _).drew)).setCell (.inl rfl) _) (.inl rfl) hk (HH.out.ok.reg ⟨xb1,xb2⟩) ?_ (by omega) (by omega)
      have:=eG Hx.out (by simp) HH.out.res (st':={st with regs:=cD st.regs (E*4+a) xb}) (t:=[]) (by simp[doI])
      simpa using this
   ·by_cases o2:op=2
    ·as_aux_lemma=>
      subst o2;obtain⟨a,rfl,ha⟩:∃ a:Nat,xa=(a:Int)∧a<4:=⟨xa.toNat,by simp[aX,inB]at hmay;omega,by simp[aX,inB]at hmay;omega⟩
      obtain⟨b,rfl,hbb⟩:∃ b:Nat,xb=(b:Int)∧b<4:=⟨xb.toNat,by simp[aX,inB]at hmay;omega,by simp[aX,inB]at hmay;omega⟩
      obtain rfl:xc=0:=by simp[aX,inB]at hmay;omega
      have hai:(a:Int)<4:=by omega
      have hbi:(b:Int)<4:=by omega
      go_wp2_with fail
      obtain⟨W1,hW1⟩:∃ W1,W1=wr.alloc (.cells #[.int .i64 2,.int .i64 (a:Int),.int .i64 (b:Int),.int .i64 0] 59):=⟨_,rfl⟩;have hb1:Below wr.heap.size wr W1:=by rw[hW1];exact(Below.refl _ _).alloc (Nat.le_refl _) _
      have hz1:W1.heap.size=wr.heap.size+1:=by rw[hW1];simp
      have p1:W1.cell? ⟨wr.heap.size,1,none⟩=some (.int .i64 (a:Int)):=by rw[hW1];simp[go_sem]
      have p2:W1.cell? ⟨wr.heap.size,2,none⟩=some (.int .i64 (b:Int)):=by rw[hW1];simp[go_sem]
      have p3:W1.cell? ⟨wr.heap.size,3,none⟩=some (.int .i64 0):=by rw[hW1];simp[go_sem]
      rw[←hW1];have HK:=aB (HH.out.ker.below hb1);have HB1:=aB hb1;clear hb1 hW1 q0 q1 q2 q3;have r0:=HK.out.regs (E*4+a) (by omega)
      have r1:=HK.out.regs (E*4+b) (by omega)
      have rf:=(HK.out.room (7+(E*4+a)) (by omega)).2
      have ra:=HH.out.ok.regs (E*4+a);have rb:=HH.out.ok.regs (E*4+b);rw[←Nat.add_assoc]at r0 r1 rf;obtain⟨va,hva⟩:∃ v,st.regs (E*4+a)=v:=⟨_,rfl⟩;obtain⟨vb,hvb⟩:∃ v,st.regs (E*4+b)=v:=⟨_,rfl⟩;rw[hva]at r0 ra;rw[hvb]at r1 rb;have hw:IntKind.i64.wrap (va+vb)=va+vb:=by rw[IntKind.wrap_i64];omega
      go_still_tail 18,Tryz.mixed
      still_call (aB5 _ _ (by omega))
      still_step
      refine wpStill_nil ?_
      go_wp2_with fail
      go_roundg (41-(i+1)+1)
      case measure=>omega
      case rel=>
       refine⟨i+1,ov',{st with regs:=cD st.regs (E*4+a) (fQ (va+vb))},told,by go_num,Nat.le_refl _,?_⟩
       have hk:=(HK.out.below (Below.refl _ _).drew).setReg (i:=E*4+a) (by omega) (fQ (va+vb))
       rw[←Nat.add_assoc]at hk;refine HH.out.same (((Only.new HB1.out).trans (Only.new (Below.refl _ _).drew)).setCell (.inl rfl) _) (.inl rfl) hk (HH.out.ok.reg (rF _)) ?_ (by omega) (by omega)
       have:=eG Hx.out (by simp) HH.out.res (st':={st with regs:=cD st.regs (E*4+a) (fQ (va+vb))}) (t:=[]) (by simp[doI,hva,hvb])
       simpa using this
    ·by_cases o3:op=3
     ·as_aux_lemma=>
       subst o3;obtain⟨a,rfl,ha⟩:∃ a:Nat,xa=(a:Int)∧a<4:=⟨xa.toNat,by simp[aX,inB]at hmay;omega,by simp[aX,inB]at hmay;omega⟩
       obtain⟨b,rfl,hbb⟩:∃ b:Nat,xb=(b:Int)∧b<4:=⟨xb.toNat,by simp[aX,inB]at hmay;omega,by simp[aX,inB]at hmay;omega⟩
       obtain rfl:xc=0:=by simp[aX,inB]at hmay;omega
       have hai:(a:Int)<4:=by omega
       have hbi:(b:Int)<4:=by omega
       go_wp2_with fail
       obtain⟨W1,hW1⟩:∃ W1,W1=wr.alloc (.cells #[.int .i64 3,.int .i64 (a:Int),.int .i64 (b:Int),.int .i64 0] 59):=⟨_,rfl⟩;have hb1:Below wr.heap.size wr W1:=by rw[hW1];exact(Below.refl _ _).alloc (Nat.le_refl _) _
       have hz1:W1.heap.size=wr.heap.size+1:=by rw[hW1];simp
       have p1:W1.cell? ⟨wr.heap.size,1,none⟩=some (.int .i64 (a:Int)):=by rw[hW1];simp[go_sem]
       have p2:W1.cell? ⟨wr.heap.size,2,none⟩=some (.int .i64 (b:Int)):=by rw[hW1];simp[go_sem]
       have p3:W1.cell? ⟨wr.heap.size,3,none⟩=some (.int .i64 0):=by rw[hW1];simp[go_sem]
       rw[←hW1];have HK:=aB (HH.out.ker.below hb1);have HB1:=aB hb1;clear hb1 hW1 q0 q1 q2 q3;have r0:=HK.out.regs (E*4+a) (by omega)
       have r1:=HK.out.regs (E*4+b) (by omega)
       have rf:=(HK.out.room (7+(E*4+a)) (by omega)).2
       have ra:=HH.out.ok.regs (E*4+a);have rb:=HH.out.ok.regs (E*4+b);rw[←Nat.add_assoc]at r0 r1 rf;obtain⟨va,hva⟩:∃ v,st.regs (E*4+a)=v:=⟨_,rfl⟩;obtain⟨vb,hvb⟩:∃ v,st.regs (E*4+b)=v:=⟨_,rfl⟩;rw[hva]at r0 ra;rw[hvb]at r1 rb;have hw:IntKind.i64.wrap (va-vb)=va-vb:=by rw[IntKind.wrap_i64];omega
       go_still_tail 18,Tryz.mixed
       still_call (aB5 _ _ (by omega))
       still_step
       refine wpStill_nil ?_
       go_wp2_with fail
       go_roundg (41-(i+1)+1)
       case measure=>omega
       case rel=>
        refine⟨i+1,ov',{st with regs:=cD st.regs (E*4+a) (fQ (va-vb))},told,by go_num,Nat.le_refl _,?_⟩
        have hk:=(HK.out.below (Below.refl _ _).drew).setReg (i:=E*4+a) (by omega) (fQ (va-vb))
        rw[←Nat.add_assoc]at hk;refine HH.out.same (((Only.new HB1.out).trans (Only.new (Below.refl _ _).drew)).setCell (.inl rfl) _) (.inl rfl) hk (HH.out.ok.reg (rF _)) ?_ (by omega) (by omega)
        have:=eG Hx.out (by simp) HH.out.res (st':={st with regs:=cD st.regs (E*4+a) (fQ (va-vb))}) (t:=[]) (by simp[doI,hva,hvb])
        simpa using this
     ·by_cases o5:op=5
      ·as_aux_lemma=>
        subst o5;obtain⟨a,rfl,ha⟩:∃ a:Nat,xa=(a:Int)∧a<4:=⟨xa.toNat,by simp[aX,inB]at hmay;omega,by simp[aX,inB]at hmay;omega⟩
        obtain⟨b,rfl,hb1',hb2'⟩:∃ b:Nat,xb=(b:Int)∧1≤b∧b≤16:=⟨xb.toNat,by simp[aX,inB]at hmay;omega,by simp[aX,inB]at hmay;omega,by simp[aX,inB]at hmay;omega⟩
        obtain rfl:xc=0:=by simp[aX,inB]at hmay;omega
        have hai:(a:Int)<4:=by omega
        go_wp2_with fail
        obtain⟨W1,hW1⟩:∃ W1,W1=wr.alloc (.cells #[.int .i64 5,.int .i64 (a:Int),.int .i64 (b:Int),.int .i64 0] 59):=⟨_,rfl⟩;have hb1:Below wr.heap.size wr W1:=by rw[hW1];exact(Below.refl _ _).alloc (Nat.le_refl _) _
        have hz1:W1.heap.size=wr.heap.size+1:=by rw[hW1];simp
        have p1:W1.cell? ⟨wr.heap.size,1,none⟩=some (.int .i64 (a:Int)):=by rw[hW1];simp[go_sem]
        have p2:W1.cell? ⟨wr.heap.size,2,none⟩=some (.int .i64 (b:Int)):=by rw[hW1];simp[go_sem]
        have p3:W1.cell? ⟨wr.heap.size,3,none⟩=some (.int .i64 0):=by rw[hW1];simp[go_sem]
        rw[←hW1];have HK:=aB (HH.out.ker.below hb1);have HB1:=aB hb1;clear hb1 hW1 q0 q1 q2 q3;have r0:=HK.out.regs (E*4+a) (by omega)
        rw[←Nat.add_assoc]at r0;obtain⟨va,hva⟩:∃ v,st.regs (E*4+a)=v:=⟨_,rfl⟩;rw[hva]at r0;have hsk:=pB Hx.out rfl HH.out.res;simp only[Int.toNat_natCast]at hsk;rw[hva]at hsk;have Hsk:=aB hsk;clear hsk
        by_cases hv:va≤0
        ·have hv':decide (va≤0)=true:=by simpa using hv
         go_quiet (fail)
         go_wp2_with fail
         go_roundg (41-(i+b+1)+1)
         case measure=>omega
         case rel=>
          refine⟨i+b+1,ov',st,told,by go_num,Nat.le_refl _,?_⟩
          exact HH.out.same ((Only.new HB1.out).trans (Only.new (below_drewN (Below.refl _ _) _))) (.inl rfl) (HK.out.below (below_drewN (Below.refl _ _) _)) HH.out.ok (Hsk.out.1 hv) (by omega) (by omega)
        ·have hv':decide (va≤0)=false:=by simpa using hv
         go_quiet (fail)
         go_wp2_with fail
         go_roundg (41-(i+1)+1)
         case measure=>omega
         case rel=>
          refine⟨i+1,ov',st,told,by go_num,Nat.le_refl _,?_⟩
          exact HH.out.same ((Only.new HB1.out).trans (Only.new (below_drewN (Below.refl _ _) _))) (.inl rfl) (HK.out.below (below_drewN (Below.refl _ _) _)) HH.out.ok (Hsk.out.2 hv) (by omega) (by omega)
      ·by_cases o7:op=7
       ·as_aux_lemma=>
         subst o7;obtain⟨a,rfl,ha⟩:∃ a:Nat,xa=(a:Int)∧a<4:=⟨xa.toNat,by simp[aX,inB]at hmay;omega,by simp[aX,inB]at hmay;omega⟩
         obtain⟨rfl,rfl⟩:xb=0∧xc=0:=by simp[aX,inB]at hmay;omega
         have hai:(a:Int)<4:=by omega
         go_wp2_with fail
         obtain⟨W1,hW1⟩:∃ W1,W1=wr.alloc (.cells #[.int .i64 7,.int .i64 (a:Int),.int .i64 0,.int .i64 0] 59):=⟨_,rfl⟩;have hb1:Below wr.heap.size wr W1:=by rw[hW1];exact(Below.refl _ _).alloc (Nat.le_refl _) _
         have hz1:W1.heap.size=wr.heap.size+1:=by rw[hW1];simp
         have p1:W1.cell? ⟨wr.heap.size,1,none⟩=some (.int .i64 (a:Int)):=by rw[hW1];simp[go_sem]
         have p2:W1.cell? ⟨wr.heap.size,2,none⟩=some (.int .i64 0):=by rw[hW1];simp[go_sem]
         have p3:W1.cell? ⟨wr.heap.size,3,none⟩=some (.int .i64 0):=by rw[hW1];simp[go_sem]
         rw[←hW1];have HK:=aB (HH.out.ker.below hb1);have HB1:=aB hb1;clear hb1 hW1 q0 q1 q2 q3;have r0:=HK.out.regs (E*4+a) (by omega)
         rw[←Nat.add_assoc]at r0;obtain⟨va,hva⟩:∃ v,st.regs (E*4+a)=v:=⟨_,rfl⟩;rw[hva]at r0;have c3:=HK.out.c3;have hstp:=eG Hx.out (by simp) HH.out.res (st':={st with q:=bY va st.q}) (t:=[]) (by simp[doI,hva])
         simp only[List.append_nil]at hstp;have Hstp:=aB hstp;have Hok7:Hid (KOk ents ks.length draws {st with q:=bY va st.q}):=by
          have:=pC (E:=E) (x:=⟨7,(a:Int),0,0⟩) HH.out.ok hmay (by simp) hd
          show KOk _ _ _ _
          simpa [doI,hva]using this
         clear hstp
         by_cases hex:∃ x∈st.q,x.number=va
         ·obtain⟨x,hxq,hxn⟩:=hex;have Hdr:Hid (Calls Tryz.prog 134 #[.pointer (some ⟨qb,0,none⟩),.int .i64 va] W1.drew fun e' w'=>∃ ov2,e'=.returned (.tuple #[])∧Only (dV qb mb ov') W1.drew w'∧QueP base w' qb mb ov2 (bY va st.q)∧ov2.ownBlock=ov'.ownBlock):=by
           have:=vV qb mb ov' st.q x W1.drew (HK.out.que.below (Below.refl _ _).drew) hxq;rw[hxn]at this;exact this
          go_still_tail 10,Tryz.mixed
          go_wp2_with (go_at_call 134;refine Hdr.out.mono ?_;rintro e' w2 ⟨ov2,rfl,ho2,hq2,hm2⟩)
          go_roundg (41-(i+1)+1)
          case measure=>omega
          case rel=>
           refine⟨i+1,ov2,{st with q:=bY va st.q},told,by go_num,Nat.le_refl _,?_⟩
           exact HH.out.same (((Only.new HB1.out).trans (Only.new (Below.refl _ _).drew)).trans (ho2.mono (fun k _ hk=>.inr hk))) (.inl hm2) ((HK.out.below (Below.refl _ _).drew).queue ho2 hq2 (.inl hm2)) Hok7.out Hstp.out (by omega) (by omega)
         ·have hno:∀ x∈st.q,x.number≠va:=fun x hx hc=>hex ⟨x,hx,hc⟩;have hoe:bY va st.q=st.q:=pH hno;have Hdr:Hid (Calls Tryz.prog 134 #[.pointer (some ⟨qb,0,none⟩),.int .i64 va] W1.drew fun e' w'=>e'=.returned (.tuple #[])∧Below W1.drew.heap.size W1.drew w'):=aCo qb mb ov' st.q va W1.drew (HK.out.que.below (Below.refl _ _).drew) hno;rw[hoe]at Hstp Hok7;clear hno hex
          go_still_tail 10,Tryz.mixed
          go_wp2_with (go_at_call 134;refine Hdr.out.mono ?_;rintro e' w2 ⟨rfl,hb2⟩)
          go_roundg (41-(i+1)+1)
          case measure=>omega
          case rel=>
           refine⟨i+1,ov',st,told,by go_num,Nat.le_refl _,?_⟩
           exact HH.out.same (((Only.new HB1.out).trans (Only.new (Below.refl _ _).drew)).trans (Only.new hb2)) (.inl rfl) ((HK.out.below (Below.refl _ _).drew).below hb2) HH.out.ok Hstp.out (by omega) (by omega)
       ·by_cases o4:op=4
        ·as_aux_lemma=>
          subst o4;obtain⟨a,rfl,ha⟩:∃ a:Nat,xa=(a:Int)∧a<4:=⟨xa.toNat,by simp[aX,inB]at hmay;omega,by simp[aX,inB]at hmay;omega⟩
          obtain⟨xb1,xb2,rfl⟩:1≤xb∧xb≤1000000000∧xc=0:=by simp[aX,inB]at hmay;omega
          have hai:(a:Int)<4:=by omega
          go_wp2_with fail
          obtain⟨W1,hW1⟩:∃ W1,W1=wr.alloc (.cells #[.int .i64 4,.int .i64 (a:Int),.int .i64 xb,.int .i64 0] 59):=⟨_,rfl⟩;have hb1:Below wr.heap.size wr W1:=by rw[hW1];exact(Below.refl _ _).alloc (Nat.le_refl _) _
          have hz1:W1.heap.size=wr.heap.size+1:=by rw[hW1];simp
          have p1:W1.cell? ⟨wr.heap.size,1,none⟩=some (.int .i64 (a:Int)):=by rw[hW1];simp[go_sem]
          have p2:W1.cell? ⟨wr.heap.size,2,none⟩=some (.int .i64 xb):=by rw[hW1];simp[go_sem]
          have p3:W1.cell? ⟨wr.heap.size,3,none⟩=some (.int .i64 0):=by rw[hW1];simp[go_sem]
          rw[←hW1];have HK:=aB (HH.out.ker.below hb1);have HB1:=aB hb1;clear hb1 hW1 q0 q1 q2 q3;have hnk:wr.heap.size≠kb:=by omega
          obtain⟨n,hn⟩:∃ n,(iA draws st xb).2.1=n:=⟨_,rfl⟩;obtain⟨why,hwhy⟩:∃ n,(iA draws st xb).2.2=n:=⟨_,rfl⟩;have Hdo:Hid (doI draws E ⟨4,(a:Int),xb,0⟩ st=({(iA draws st xb).1 with regs:=cD (iA draws st xb).1.regs (E*4+a) n},[],why)):=by
           show _=_;rw[←hn,←hwhy];unfold doI iA;rcases draws[st.taken]? with _|d<;>simp
          have Hdr:Hid (Calls Tryz.prog 136 #[.pointer (some ⟨kb,0,none⟩),.int .i64 xb] W1.drew fun e w'=>e=.returned (.tuple #[.int .i64 n,.int .i64 why])∧Only (·=kb) W1.drew w'∧KerP R base w' kb qb mb ov' ents ks draws (iA draws st xb).1):=by
           have:=aDp kb qb mb ov' ents ks draws st xb W1.drew (HK.out.below (Below.refl _ _).drew) ks.length HH.out.ok ⟨xb1,xb2⟩ hd;rw[hn,hwhy]at this;exact this
          have Hokd:Hid (KOk ents ks.length draws {(iA draws st xb).1 with regs:=cD (iA draws st xb).1.regs (E*4+a) n}):=by
           have:=pC (E:=E) (x:=⟨4,(a:Int),xb,0⟩) HH.out.ok hmay (by simp) hd
           rw[Hdo.out]at this;exact this
          generalize (iA draws st xb).1=sd at Hdo Hdr Hokd
          go_region_held3 (fun W'=>W'.cell? ⟨wr.heap.size,1,none⟩=some (.int .i64 (a:Int))∧W'.cell? ⟨wr.heap.size,2,none⟩=some (.int .i64 xb))
           (first|go_keep|exact⟨ho2.at (w:=W1.drew) p1 hnk,ho2.at (w:=W1.drew) p2 hnk⟩|exact⟨(World.cell?_setCell_other _ _ _ _ (by simp<;>omega)).trans (ho2.at (w:=W1.drew) p1 hnk),(World.cell?_setCell_other _ _ _ _ (by simp<;>omega)).trans (ho2.at (w:=W1.drew) p2 hnk)⟩)
           (first|(go_at_call 136;refine Hdr.out.mono ?_;rintro e' w2 ⟨rfl,ho2,hk2⟩;(have r0:=hk2.regs (E*4+a) (by omega));(have rf:=(hk2.room (7+(E*4+a)) (by omega)).2);rw[←Nat.add_assoc]at r0 rf))
          all_goals
           have hk3:=hk2.setReg (i:=E*4+a) (by omega) n
           rw[←Nat.add_assoc]at hk3;have ho3:Only (bG kb qb mb ov') wr w2:=((Only.new HB1.out).trans (Only.new (Below.refl _ _).drew)).trans (ho2.mono (fun k _ hk=>.inl hk));have Hk3:=aB hk3;have Ho3:=aB ho3;clear hk3 ho3 hk2 ho2 r0 rf
           by_cases hw0:why=0
           ·rw[hw0]at Hdo ⊢
            go_wp2_with fail
            go_roundg (41-(i+1)+1)
            case measure=>omega
            case rel=>
             refine⟨i+1,ov',_,told,by go_num,Nat.le_refl _,HH.out.same (Ho3.out.setCell (.inl rfl) _) (.inl rfl) Hk3.out Hokd.out ?_ (by omega) (by omega)⟩
             have:=eG Hx.out (by simp) HH.out.res Hdo.out
             simpa using this
           ·have hw1:(why != 0)=true:=by simpa using hw0
            go_wp2_with fail
            go_ret2;have hR:=kF Hx.out (by simp) HH.out.res Hdo.out hw0
            rw[hR];exact⟨_,ov',rfl,HH.out.up (Ho3.out.setCell (.inl rfl) _),HH.out.moved,Hk3.out,Hokd.out,World.ownsRow_nil _ _ _ _,by simp[Value.ownBlock]⟩
        ·by_cases o6:op=6
         ·as_aux_lemma=>
           subst o6;obtain⟨a,rfl,ha⟩:∃ a:Nat,xa=(a:Int)∧a<ks.length:=⟨xa.toNat,by simp[aX,inB]at hmay;omega,by simp[aX,inB]at hmay;omega⟩
           obtain⟨c,rfl,hcc⟩:∃ c:Nat,xc=(c:Int)∧c<4:=⟨xc.toNat,by simp[aX,inB]at hmay;omega,by simp[aX,inB]at hmay;omega⟩
           have hci:(c:Int)<4:=by omega
           go_wp2_with fail
           obtain⟨W1,hW1⟩:∃ W1,W1=wr.alloc (.cells #[.int .i64 6,.int .i64 (a:Int),.int .i64 xb,.int .i64 (c:Int)] 59):=⟨_,rfl⟩;have hb1:Below wr.heap.size wr W1:=by rw[hW1];exact(Below.refl _ _).alloc (Nat.le_refl _) _
           have hz1:W1.heap.size=wr.heap.size+1:=by rw[hW1];simp
           have p1:W1.cell? ⟨wr.heap.size,1,none⟩=some (.int .i64 (a:Int)):=by rw[hW1];simp[go_sem]
           have p2:W1.cell? ⟨wr.heap.size,2,none⟩=some (.int .i64 xb):=by rw[hW1];simp[go_sem]
           have p3:W1.cell? ⟨wr.heap.size,3,none⟩=some (.int .i64 (c:Int)):=by rw[hW1];simp[go_sem]
           rw[←hW1];have HK:=aB (HH.out.ker.below hb1);have HB1:=aB hb1;clear hb1 hW1 q0 q1 q2 q3;obtain⟨va,hva⟩:∃ v,st.regs (E*4+c)=v:=⟨_,rfl⟩;have r0:=HK.out.regs (E*4+c) (by omega)
           rw[←Nat.add_assoc,hva]at r0;obtain⟨n,hn⟩:∃ n,(fU st va (a:Int) xb).2.1=n:=⟨_,rfl⟩;obtain⟨why,hwhy⟩:∃ n,(fU st va (a:Int) xb).2.2=n:=⟨_,rfl⟩;have Hdo:Hid (doI draws E ⟨6,(a:Int),xb,(c:Int)⟩ st=({(fU st va (a:Int) xb).1 with regs:=cD (fU st va (a:Int) xb).1.regs (E*4+3) n},[],why)):=by
            show _=_;rw[←hn,←hwhy];unfold doI fU;simp only[Int.toNat_natCast,hva];rw[if_neg (by omega),if_neg (by omega),if_neg (by omega),if_neg (by omega)]
            simp only[if_true]
            split
            ·rfl
            ·split<;>rfl
           have Hdr:Hid (Calls Tryz.prog 137 #[.pointer (some ⟨kb,0,none⟩),.int .i64 va,.int .i64 (a:Int),.int .i64 xb] W1.drew fun e w'=>e=.returned (.tuple #[.int .i64 n,.int .i64 why])∧Only (bG kb qb mb ov') W1.drew w'∧∃ ov2,Moved W1.drew ov' ov2∧KerP R base w' kb qb mb ov2 ents ks draws (fU st va (a:Int) xb).1):=by
            have:=aA3 kb qb mb ov' ents ks draws st va (a:Int) xb W1.drew (HK.out.below (Below.refl _ _).drew) (by have:W1.drew.heap.size=W1.heap.size:=rfl;omega) ks.length HH.out.ok (by have:=HH.out.ok.regs (E*4+c);omega)
            rw[hn,hwhy]at this;exact this
           have Hokd:Hid (KOk ents ks.length draws {(fU st va (a:Int) xb).1 with regs:=cD (fU st va (a:Int) xb).1.regs (E*4+3) n}):=by
            have:=pC (E:=E) (x:=⟨6,(a:Int),xb,(c:Int)⟩) HH.out.ok hmay (by simp) hd
            rw[Hdo.out]at this;exact this
           have Hsdr:Hid ((fU st va (a:Int) xb).1.regs=st.regs):=by
            show _=_;unfold fU
            split
            ·rfl
            ·split<;>rfl
           generalize (fU st va (a:Int) xb).1=sd at Hdo Hdr Hokd Hsdr;clear hn hwhy;have hnk:wr.heap.size≠kb:=by omega
           have Hnks:Hid (¬bG kb qb mb ov' wr.heap.size):=fun hc=>by have:=HH.out.ker.lt _ hc;omega
           by_cases hc3:c=3
           ·as_aux_lemma=>
             subst hc3;have p3:W1.cell? ⟨wr.heap.size,3,none⟩=some (.int .i64 3):=p3;refine wp_region_noPanic ?_;refine wp_region_held_drew (S:=(fun W'=>W'.cell? ⟨wr.heap.size,1,none⟩=some (.int .i64 (a:Int))∧W'.cell? ⟨wr.heap.size,2,none⟩=some (.int .i64 xb)∧W'.cell? ⟨wr.heap.size,3,none⟩=some (.int .i64 3))) (by kernel_rfl) ⟨p1,p2,p3⟩ (fun hHeld=>?_)
             refine wpAnyH_take (i:=0) (oi:={dst:=some 134,op:=_,type:=_,pos:=_,after:=_,guard:=none}) (v:=?_) rfl (by kernel_rfl) (by kernel_rfl) (by kernel_rfl) (fun _ _ _ h=>h) (Or.inl ⟨by rfl,?_⟩) (by assumption) ?_
             rotate_left
             ·intro w hSw
              try dsimp only at hSw
              go_simp
              try with_reducible rfl
             try simp only[Act.put,List.setIfInBounds_toArray,List.set_cons_zero,List.set_cons_succ]
             refine wpAnyH_take (i:=1) (oi:={dst:=some 135,op:=_,type:=_,pos:=_,after:=_,guard:=none}) (v:=?_) rfl (by kernel_rfl) (by kernel_rfl) (by kernel_rfl) (fun _ _ _ h=>h) (Or.inl ⟨by rfl,?_⟩) (by assumption) ?_
             rotate_left
             ·intro w hSw
              try dsimp only at hSw
              go_simp
              try with_reducible rfl
             try simp only[Act.put,List.setIfInBounds_toArray,List.set_cons_zero,List.set_cons_succ]
             refine wpAnyH_take (i:=2) (oi:={dst:=some 136,op:=_,type:=_,pos:=_,after:=_,guard:=none}) (v:=?_) rfl (by kernel_rfl) (by kernel_rfl) (by kernel_rfl) (fun _ _ _ h=>h) (Or.inl ⟨by rfl,?_⟩) (by assumption) ?_
             rotate_left
             ·intro w hSw
              try dsimp only at hSw
              go_simp
              try with_reducible rfl
             try simp only[Act.put,List.setIfInBounds_toArray,List.set_cons_zero,List.set_cons_succ]
             refine wpAnyH_take (i:=3) (oi:={dst:=some 137,op:=_,type:=_,pos:=_,after:=_,guard:=none}) (v:=?_) rfl (by kernel_rfl) (by kernel_rfl) (by kernel_rfl) (fun _ _ _ h=>h) (Or.inl ⟨by rfl,?_⟩) (by assumption) ?_
             rotate_left
             ·intro w hSw
              try dsimp only at hSw
              go_simp
              try with_reducible rfl
             try simp only[Act.put,List.setIfInBounds_toArray,List.set_cons_zero,List.set_cons_succ]
             refine wpAnyH_take (i:=4) (oi:={dst:=some 138,op:=_,type:=_,pos:=_,after:=_,guard:=none}) (v:=?_) rfl (by kernel_rfl) (by kernel_rfl) (by kernel_rfl) (fun _ _ _ h=>h) (Or.inl ⟨by rfl,?_⟩) (by assumption) ?_
             rotate_left
             ·intro w hSw
              try dsimp only at hSw
              go_simp
              try with_reducible rfl
             try simp only[Act.put,List.setIfInBounds_toArray,List.set_cons_zero,List.set_cons_succ]
             refine wpAnyH_take (i:=5) (oi:={dst:=some 139,op:=_,type:=_,pos:=_,after:=_,guard:=none}) (v:=?_) rfl (by kernel_rfl) (by kernel_rfl) (by kernel_rfl) (fun _ _ _ h=>h) (Or.inl ⟨by rfl,?_⟩) (by assumption) ?_
             rotate_left
             ·intro w hSw
              try dsimp only at hSw
              go_simp
              try with_reducible rfl
             try simp only[Act.put,List.setIfInBounds_toArray,List.set_cons_zero,List.set_cons_succ]
             refine wpAnyH_take (i:=6) (oi:={dst:=some 140,op:=_,type:=_,pos:=_,after:=_,guard:=none}) (v:=?_) rfl (by kernel_rfl) (by kernel_rfl) (by kernel_rfl) (fun _ _ _ h=>h) (Or.inl ⟨by rfl,?_⟩) (by assumption) ?_
             rotate_left
             ·intro w hSw
              try dsimp only at hSw
              go_simp
              try with_reducible rfl
             try simp only[Act.put,List.setIfInBounds_toArray,List.set_cons_zero,List.set_cons_succ]
             refine wpAnyH_take (i:=8) (oi:={dst:=some 142,op:=_,type:=_,pos:=_,after:=_,guard:=none}) (v:=?_) rfl (by kernel_rfl) (by kernel_rfl) (by kernel_rfl) (fun _ _ _ h=>h) (Or.inl ⟨by rfl,?_⟩) (by assumption) ?_
             rotate_left
             ·intro w hSw
              try dsimp only at hSw
              go_simp
              try with_reducible rfl
             try simp only[Act.put,List.setIfInBounds_toArray,List.set_cons_zero,List.set_cons_succ]
             refine wpAnyH_take (i:=9) (oi:={dst:=some 143,op:=_,type:=_,pos:=_,after:=_,guard:=none}) (v:=?_) rfl (by kernel_rfl) (by kernel_rfl) (by kernel_rfl) (fun _ _ _ h=>h) (Or.inl ⟨by rfl,?_⟩) (by assumption) ?_
             rotate_left
             ·intro w hSw
              try dsimp only at hSw
              go_simp
              try with_reducible rfl
             try simp only[Act.put,List.setIfInBounds_toArray,List.set_cons_zero,List.set_cons_succ]
             refine wpAnyH_take (i:=10) (oi:={dst:=some 144,op:=_,type:=_,pos:=_,after:=_,guard:=none}) (v:=?_) rfl (by kernel_rfl) (by kernel_rfl) (by kernel_rfl) (fun _ _ _ h=>h) (Or.inl ⟨by rfl,?_⟩) (by assumption) ?_
             rotate_left
             ·intro w hSw
              try dsimp only at hSw
              go_simp
              try with_reducible rfl
             try simp only[Act.put,List.setIfInBounds_toArray,List.set_cons_zero,List.set_cons_succ]
             refine wpAnyH_take (i:=11) (oi:={dst:=some 145,op:=_,type:=_,pos:=_,after:=_,guard:=none}) (v:=?_) rfl (by kernel_rfl) (by kernel_rfl) (by kernel_rfl) (fun _ _ _ h=>h) (Or.inl ⟨by rfl,?_⟩) (by assumption) ?_
             rotate_left
             ·intro w hSw
              try dsimp only at hSw
              go_simp
              try with_reducible rfl
             try simp only[Act.put,List.setIfInBounds_toArray,List.set_cons_zero,List.set_cons_succ]
             refine wpAnyH_take (i:=16) (oi:={dst:=some 149,op:=_,type:=_,pos:=_,after:=_,guard:=none}) (v:=?_) rfl (by kernel_rfl) (by kernel_rfl) (by kernel_rfl) (fun _ _ _ h=>h) (Or.inl ⟨by rfl,?_⟩) (by assumption) ?_
             rotate_left
             ·intro w hSw
              try dsimp only at hSw
              go_simp
              try with_reducible rfl
             try simp only[Act.put,List.setIfInBounds_toArray,List.set_cons_zero,List.set_cons_succ]
             refine wpAnyH_ready (rs:=[7]) (by kernel_rfl) (by simp) ?_
             refine AllReadyH.cons (o:={dst:=some 141,op:=_,type:=_,pos:=_,after:=_,guard:=none}) rfl (fun K hK=>?_) AllReadyH.nil
             go_simp
             refine hK.out _ _ ⟨p1,p2,p3⟩ (fun hHeld=>?_);clear hK K
             try simp only[Act.put,List.setIfInBounds_toArray,List.set_cons_zero,List.set_cons_succ]
             refine wpAnyH_ready (rs:=[12]) (by kernel_rfl) (by simp) ?_
             refine AllReadyH.cons (o:={dst:=some 146,op:=_,type:=_,pos:=_,after:=_,guard:=none}) rfl (fun K hK=>?_) AllReadyH.nil
             go_simp
             go_at_call 137
             refine Hdr.out.mono ?_;rintro e' w2 ⟨rfl,ho2,ov2,hm2,hk2⟩;have r1:=hk2.regs (E*4+3) (by omega)
             have rf:=(hk2.room (7+(E*4+3)) (by omega)).2
             rw[←Nat.add_assoc]at r1 rf
             go_wp2_with fail
             refine hK.out _ _ ⟨ho2.at (w:=W1.drew) p1 Hnks.out,ho2.at (w:=W1.drew) p2 Hnks.out,ho2.at (w:=W1.drew) p3 Hnks.out⟩ (fun hHeld=>?_);clear hK K
             try simp only[Act.put,List.setIfInBounds_toArray,List.set_cons_zero,List.set_cons_succ]
             refine wpAnyH_take (i:=13) (oi:={dst:=some 133,op:=_,type:=_,pos:=_,after:=_,guard:=none}) (v:=?_) rfl (by kernel_rfl) (by kernel_rfl) (by kernel_rfl) (fun _ _ _ h=>h) (Or.inl ⟨by rfl,?_⟩) (by assumption) ?_
             rotate_left
             ·intro w hSw
              try dsimp only at hSw
              go_simp
              try with_reducible rfl
             try simp only[Act.put,List.setIfInBounds_toArray,List.set_cons_zero,List.set_cons_succ]
             refine wpAnyH_take (i:=14) (oi:={dst:=some 147,op:=_,type:=_,pos:=_,after:=_,guard:=none}) (v:=?_) rfl (by kernel_rfl) (by kernel_rfl) (by kernel_rfl) (fun _ _ _ h=>h) (Or.inl ⟨by rfl,?_⟩) (by assumption) ?_
             rotate_left
             ·intro w hSw
              try dsimp only at hSw
              go_simp
              try with_reducible rfl
             try simp only[Act.put,List.setIfInBounds_toArray,List.set_cons_zero,List.set_cons_succ]
             refine wpAnyH_take (i:=15) (oi:={dst:=some 148,op:=_,type:=_,pos:=_,after:=_,guard:=none}) (v:=?_) rfl (by kernel_rfl) (by kernel_rfl) (by kernel_rfl) (fun _ _ _ h=>h) (Or.inl ⟨by rfl,?_⟩) (by assumption) ?_
             rotate_left
             ·intro w hSw
              try dsimp only at hSw
              go_simp
              try with_reducible rfl
             try simp only[Act.put,List.setIfInBounds_toArray,List.set_cons_zero,List.set_cons_succ]
             refine wpAnyH_take (i:=17) (oi:={dst:=some 150,op:=_,type:=_,pos:=_,after:=_,guard:=none}) (v:=?_) rfl (by kernel_rfl) (by kernel_rfl) (by kernel_rfl) (fun _ _ _ h=>h) (Or.inl ⟨by rfl,?_⟩) (by assumption) ?_
             rotate_left
             ·intro w hSw
              try dsimp only at hSw
              go_simp
              try with_reducible rfl
             try simp only[Act.put,List.setIfInBounds_toArray,List.set_cons_zero,List.set_cons_succ]
             refine wpAnyH_ready (rs:=[18]) (by kernel_rfl) (by simp) ?_
             refine AllReadyH.cons (o:={dst:=none,op:=_,type:=_,pos:=_,after:=_,guard:=none}) rfl (fun K hK=>?_) AllReadyH.nil
             go_simp
             refine hK.out _ _ ⟨(World.cell?_setCell_other _ _ _ _ (by simp<;>omega)).trans (ho2.at (w:=W1.drew) p1 Hnks.out),(World.cell?_setCell_other _ _ _ _ (by simp<;>omega)).trans (ho2.at (w:=W1.drew) p2 Hnks.out),(World.cell?_setCell_other _ _ _ _ (by simp<;>omega)).trans (ho2.at (w:=W1.drew) p3 Hnks.out)⟩ (fun hHeld=>?_)
             clear hK K
             try simp only[Act.put,List.setIfInBounds_toArray,List.set_cons_zero,List.set_cons_succ]
             refine wpAnyH_take (i:=19) (oi:={dst:=some 10,op:=_,type:=_,pos:=_,after:=_,guard:=none}) (v:=?_) rfl (by kernel_rfl) (by kernel_rfl) (by kernel_rfl) (fun _ _ _ h=>h) (Or.inl ⟨by rfl,?_⟩) (by assumption) ?_
             rotate_left
             ·intro w hSw
              try dsimp only at hSw
              go_simp
              try with_reducible rfl
             try simp only[Act.put,List.setIfInBounds_toArray,List.set_cons_zero,List.set_cons_succ]
             refine wpAnyH_done (by kernel_rfl) ?_ _
             refine NoPanic.normal ?_
             all_goals
              have ho4:Only (bG kb qb mb ov') wr w2:=((Only.new HB1.out).trans (Only.new (Below.refl _ _).drew)).trans ho2;have hm4:Moved wr ov' ov2:=by
               rcases hm2 with e|⟨g,e,hg⟩
               ·exact .inl e
               ·exact .inr ⟨g,e,by have:W1.drew.heap.size=W1.heap.size:=rfl;omega⟩
              have hk3:=hk2.setReg (i:=E*4+3) (by omega) n
              rw[←Nat.add_assoc]at hk3;have Hk3:=aB hk3;have Ho3:=aB ho4;have Hm3:=aB hm4;clear hk3 hk2 ho2 hm2 ho4 hm4
              by_cases hw0:why=0
              ·rw[hw0]at Hdo ⊢
               go_wp2_with fail
               go_roundg (41-(i+1)+1)
               case measure=>omega
               case rel=>
                refine⟨i+1,ov2,_,told,by go_num,Nat.le_refl _,HH.out.same (Ho3.out.setCell (.inl rfl) _) Hm3.out Hk3.out Hokd.out ?_ (by omega) (by omega)⟩
                have:=eG Hx.out (by simp) HH.out.res Hdo.out
                simpa using this
              ·have hw1:(why != 0)=true:=by simpa using hw0
               go_wp2_with fail
               go_ret2;have hR:=kF Hx.out (by simp) HH.out.res Hdo.out hw0
               rw[hR];exact⟨_,ov2,rfl,HH.out.up (Ho3.out.setCell (.inl rfl) _),HH.out.moved.trans Hm3.out HH.out.only.size,Hk3.out,Hokd.out,World.ownsRow_nil _ _ _ _,by simp[Value.ownBlock]⟩
           ·have hcne:∀ x:Nat,x=7+E*4+c→¬x=7+E*4+3:=by intro x hx;omega
            go_region_held3 (fun W'=>W'.cell? ⟨wr.heap.size,1,none⟩=some (.int .i64 (a:Int))∧W'.cell? ⟨wr.heap.size,2,none⟩=some (.int .i64 xb)∧W'.cell? ⟨wr.heap.size,3,none⟩=some (.int .i64 (c:Int))∧W'.cell? ⟨kb,7+E*4+c,none⟩=some (.int .i64 va))
             (first|exact⟨p1,p2,p3,r0⟩|exact⟨ho2.at (w:=W1.drew) p1 Hnks.out,ho2.at (w:=W1.drew) p2 Hnks.out,ho2.at (w:=W1.drew) p3 Hnks.out,rc⟩|exact⟨(World.cell?_setCell_other _ _ _ _ (by simp<;>omega)).trans (ho2.at (w:=W1.drew) p1 Hnks.out),(World.cell?_setCell_other _ _ _ _ (by simp<;>omega)).trans (ho2.at (w:=W1.drew) p2 Hnks.out),(World.cell?_setCell_other _ _ _ _ (by simp<;>omega)).trans (ho2.at (w:=W1.drew) p3 Hnks.out),(World.cell?_setCell_other _ _ _ _ (by simp<;>omega)).trans rc⟩)
             (first|(go_at_call 137;refine Hdr.out.mono ?_;rintro e' w2 ⟨rfl,ho2,ov2,hm2,hk2⟩;(have r1:=hk2.regs (E*4+3) (by omega));(have rf:=(hk2.room (7+(E*4+3)) (by omega)).2);(have rc:=hk2.regs (E*4+c) (by omega));rw[←Nat.add_assoc]at r1 rf rc;rw[Hsdr.out,hva]at rc))
            all_goals
             have ho4:Only (bG kb qb mb ov') wr w2:=((Only.new HB1.out).trans (Only.new (Below.refl _ _).drew)).trans ho2;have hm4:Moved wr ov' ov2:=by
              rcases hm2 with e|⟨g,e,hg⟩
              ·exact .inl e
              ·exact .inr ⟨g,e,by have:W1.drew.heap.size=W1.heap.size:=rfl;omega⟩
             have hk3:=hk2.setReg (i:=E*4+3) (by omega) n
             rw[←Nat.add_assoc]at hk3;have Hk3:=aB hk3;have Ho3:=aB ho4;have Hm3:=aB hm4;clear hk3 hk2 ho2 hm2 ho4 hm4
             by_cases hw0:why=0
             ·rw[hw0]at Hdo ⊢
              go_wp2_with fail
              go_roundg (41-(i+1)+1)
              case measure=>omega
              case rel=>
               refine⟨i+1,ov2,_,told,by go_num,Nat.le_refl _,HH.out.same (Ho3.out.setCell (.inl rfl) _) Hm3.out Hk3.out Hokd.out ?_ (by omega) (by omega)⟩
               have:=eG Hx.out (by simp) HH.out.res Hdo.out
               simpa using this
             ·have hw1:(why != 0)=true:=by simpa using hw0
              go_wp2_with fail
              go_ret2;have hR:=kF Hx.out (by simp) HH.out.res Hdo.out hw0
              rw[hR];exact⟨_,ov2,rfl,HH.out.up (Ho3.out.setCell (.inl rfl) _),HH.out.moved.trans Hm3.out HH.out.only.size,Hk3.out,Hokd.out,World.ownsRow_nil _ _ _ _,by simp[Value.ownBlock]⟩
         ·have o8:op=8:=by
           by_cases o8:op=8
           ·exact o8
           ·simp[aX,o1,o2,o3,o4,o5,o6,o7,o8]at hmay
          subst o8;obtain⟨a,rfl,ha⟩:∃ a:Nat,xa=(a:Int)∧a<4:=⟨xa.toNat,by simp[aX,inB]at hmay;omega,by simp[aX,inB]at hmay;omega⟩
          obtain⟨rfl,rfl⟩:xb=0∧xc=0:=by simp[aX,inB]at hmay;omega
          have hai:(a:Int)<4:=by omega
          go_wp2_with fail
          obtain⟨W1,hW1⟩:∃ W1,W1=wr.alloc (.cells #[.int .i64 8,.int .i64 (a:Int),.int .i64 0,.int .i64 0] 59):=⟨_,rfl⟩;have hb1:Below wr.heap.size wr W1:=by rw[hW1];exact(Below.refl _ _).alloc (Nat.le_refl _) _
          have hz1:W1.heap.size=wr.heap.size+1:=by rw[hW1];simp
          have p1:W1.cell? ⟨wr.heap.size,1,none⟩=some (.int .i64 (a:Int)):=by rw[hW1];simp[go_sem]
          have p2:W1.cell? ⟨wr.heap.size,2,none⟩=some (.int .i64 0):=by rw[hW1];simp[go_sem]
          have p3:W1.cell? ⟨wr.heap.size,3,none⟩=some (.int .i64 0):=by rw[hW1];simp[go_sem]
          rw[←hW1];have HK:=aB (HH.out.ker.below hb1);have HB1:=aB hb1;clear hb1 hW1 q0 q1 q2 q3;have r0:=HK.out.regs (E*4+a) (by omega)
          obtain⟨va,hva⟩:∃ v,st.regs (E*4+a)=v:=⟨_,rfl⟩;rw[←Nat.add_assoc,hva]at r0;have htl:=HH.out.tl;have HT:=aB (HH.out.owns.lt);have Hown:=aB (bT HH.out.owns (Only.new (S:=fun _=>False) HB1.out) (by simp))
          have hstp:=eG Hx.out (by simp) HH.out.res (st':=st) (t:=[va]) (by simp[doI,hva])
          have Hstp:=aB hstp;clear hstp;have hbA:Below W1.heap.size W1 (W1.alloc (.cells #[.int .i64 va] 3)):=(Below.refl _ _).alloc (Nat.le_refl _) _;have Hsr:Hid (eO (W1.alloc (.cells #[.int .i64 va] 3)) (.slice (some ⟨wr.heap.size+1,0,none⟩) 1 1) 1 [.int .i64 va]):=by
           refine .inr (.inl ⟨wr.heap.size+1,0,1,rfl,?_⟩);intro j u hu;have hj:j<1:=by have:=(List.getElem?_eq_some_iff.1 hu).1;simpa using this
           obtain rfl:j=0:=by omega
           simp at hu;subst hu;rw[World.cell?_alloc_at _ _ _ _ hz1.symm];rfl
          have Hown2:=aB (Hown.out.alloc (.cells #[.int .i64 va] 3));have HbA:=aB hbA;clear hbA Hown
          go_region_held3 (fun W'=>W'.cell? ⟨wr.heap.size,1,none⟩=some (.int .i64 (a:Int))∧W'.cell? ⟨kb,7+E*4+a,none⟩=some (.int .i64 va))
           (first|go_keep|exact⟨aA HbA.out p1 (by omega),aA HbA.out r0 (by omega)⟩|exact⟨gg1,gg0⟩)
           (first|(refine cQ rfl (.tmp 166) (.tmp 173) 24 rfl w.heap.size 3 (.int .i64 0) 1 8 Tryz.underlying24 Tryz.info3 rfl (by omega) (.slice tsa told.length tsc) told.length (ints told) rfl (show World.ownsRow _ _ _ _ _ _ _ from Hown2.out) (.slice (some ⟨wr.heap.size+1,0,none⟩) 1 1) 1 [.int .i64 va] rfl (show eO _ _ _ _ from Hsr.out) rfl (by simp[Value.oneCell']) (by omega) (by omega) (by simp<;>omega) ?_;intro v4 w4 hown4 hgr4 hwh4;(have ho4:Only (fun b=>some b=(Value.slice tsa told.length tsc).ownBlock) W1 w4:=(Only.new HbA.out).trans ⟨hgr4.out.os,hgr4.out.tape,hgr4.out.output,hgr4.out.size,hgr4.out.block⟩);(have gg1:=ho4.at p1 (fun hc=>by have:=(HT.out _ hc.symm).2;omega));(have gg0:=ho4.at r0 (fun hc=>HH.out.sep _ hc (.inl rfl)))))
          all_goals
           go_wp2_with fail
           go_roundg (41-(i+1)+1)
           case measure=>omega
           case rel=>
            have hoK:Only (fun b=>some b=(Value.slice tsa told.length tsc).ownBlock) wr w4:=(Only.new HB1.out).trans ho4;have hz4:=hoK.size;refine⟨i+1,ov',st,told++[va],by go_num,Nat.le_refl _,?_⟩
            have hsep4:∀ b,some b=v4.ownBlock→¬bG kb qb mb ov' b:=by
             intro b hb hc;rcases hwh4.out with h4|h4
             ·exact HH.out.sep b (hb.trans h4) hc
             ·rw[h4]at hb;have:=HH.out.ker.lt b hc;simp at hb;omega
            refine⟨?_,HH.out.moved,HH.out.ker.only hoK (fun b hb hc=>HH.out.sep b hc hb) (fun b hb hc=>?_),HH.out.ok,Hstp.out,by omega,by simp;omega,by simpa [ints]using hown4.out,hsep4⟩
            ·refine⟨hoK.os.trans HH.out.only.os,hoK.tape.trans HH.out.only.tape,hoK.output.trans HH.out.only.output,by omega,?_⟩
             intro k hk hn;rw[hoK.block k (by omega) (fun hc=>by have:=(HT.out k hc.symm).1;omega),HH.out.only.block k hk hn]
            ·have:=(HT.out b hc.symm).1;have:=(Hfar.out b hb).1;omega
  ·have hil':decide ((i:Int)<(code.length:Int))=false:=by simp;omega
   obtain⟨tsa,tsc,rfl⟩:∃ sa sc,u8=Value.slice sa told.length sc:=by
    obtain⟨_,⟨rfl,h0⟩|⟨g,cap,cur,rfl,_⟩⟩:=HH.out.owns
    ·exact⟨_,_,by rw[h0]⟩
    ·exact⟨_,_,rfl⟩
   go_wp2_with fail
   go_ret2;have hR:=rQ (by omega) HH.out.res
   rw[hR];exact⟨_,ov',rfl,HH.out.only,HH.out.moved,HH.out.ker,HH.out.ok,HH.out.owns,HH.out.sep⟩
end Go.Proofs.YtndlmgocldckfaaGreat
