import Derived.Test.YtndlmgocldckfaaGreatG09
import Derived.RegionTactic
import Derived.Carry
import Derived.Laws.ResultCell
import Derived.Deep.RegionHeld3
import Derived.Maps.RangeWalk
import Derived.Maps.RangeRun
import Derived.Deep.LoopGhost
namespace Go.Proofs.YtndlmgocldckfaaGreat
open Go.RowKit
set_option linter.unusedVariables false
set_option linter.unusedSimpArgs false
set_option maxRecDepth 100000
set_option maxHeartbeats 4000000
structure QueP(base:Nat)(w:World)(qb mb:Nat)(ov:Value)(q:List Ev):Prop where
 c0:w.cell? ⟨qb,0,none⟩=some (.map (some mb))
 c1:w.cell? ⟨qb,1,none⟩=some ov
 thaw:w.frozen? ⟨qb,1,none⟩=false
 map:∃ es clock,w.heap[mb]?=some (.map es clock)∧MapQ es clock q
 ord:∃ f,OrdV base w ov q.length f∧HeapF f q.length∧MomsOf f q.length q
 qm:qb≠mb
 qo:some qb≠ov.ownBlock
 mo:some mb≠ov.ownBlock
 sorted:cE q
 distinct:Distinct q
 len:q.length≤16
def dV(qb mb:Nat)(ov:Value)(b:Nat):Prop:=b=qb∨b=mb∨some b=ov.ownBlock
theorem QueP.only{base:Nat}{w w':World}{qb mb:Nat}{ov:Value}{q:List Ev}{U:Nat→Prop}(h:QueP base w qb mb ov q)(ho:Only U w w')(hU:∀ b,dV qb mb ov b→¬U b):QueP base w' qb mb ov q:=by
 have hq:=hU qb (.inl rfl);have hm:=hU mb (.inr (.inl rfl));have hlt:=aC h.c1;refine⟨ho.at h.c0 hq,ho.at h.c1 hq,?_,?_,?_,h.qm,h.qo,h.mo,h.sorted,h.distinct,h.len⟩
 ·rw[World.frozen?_of_block (w:=w) (a:=⟨qb,1,none⟩) (ho.block qb hlt hq)];exact h.thaw
 ·obtain⟨es,clock,h1,h2⟩:=h.map;exact⟨es,clock,(ho.block mb (Array.getElem?_eq_some_iff.1 h1).1 hm).trans h1,h2⟩
 ·obtain⟨f,h1,h2⟩:=h.ord;exact⟨f,h1.only ho (fun b hb=>hU b (.inr (.inr hb))),h2⟩
theorem QueP.below{base:Nat}{w w':World}{qb mb:Nat}{ov:Value}{q:List Ev}(h:QueP base w qb mb ov q)(hb:Below w.heap.size w w'):QueP base w' qb mb ov q:=h.only (Only.new (S:=fun _=>False) hb) (by simp)
theorem QueP.lt{base:Nat}{w:World}{qb mb:Nat}{ov:Value}{q:List Ev}(h:QueP base w qb mb ov q):∀ b,dV qb mb ov b→b<w.heap.size:=by
 rintro b (rfl|rfl|hb)
 ·exact aC h.c0
 ·obtain⟨es,clock,h1,_⟩:=h.map;exact(Array.getElem?_eq_some_iff.1 h1).1
 ·obtain⟨f,h1,_⟩:=h.ord;exact(h1.lt b hb).2
theorem yP(w:World):Calls Tryz.prog 62 #[] w
  fun e w'=>e=.returned (.pointer (some ⟨w.heap.size+1,0,none⟩))∧w'=(w.alloc (.map #[] 0)).alloc (.cells #[.map (some w.heap.size),.slice none 0 0] 156):=by
 have hm:∀ W:World,(Instr.makeMap 152 none).run Tryz.prog W=.ok (.map (some W.heap.size)) (W.alloc (.map #[] 0)):=fun W=>run_makeMap _ W
 go_enter Tryz.func62,Tryz.ntmps62
 go_wp2
 go_ret;exact⟨rfl,rfl⟩
theorem yQ(base:Nat)(w:World)(T:Nat):QueP base ((w.alloc (.map #[] 0)).alloc (.cells #[.map (some w.heap.size),.slice none 0 0] T)) (w.heap.size+1) w.heap.size (.slice none 0 0) []:=by
 refine⟨?_,?_,?_,⟨#[],0,?_,MapQ.empty 0⟩,⟨fun _=>⟨0,0⟩,.inl ⟨rfl,rfl⟩,by intro j h1 h2;simp at h2,⟨rfl,by intro i j hi;simp at hi,by intro i hi;simp at hi,by intro e he;simp at he⟩⟩,by omega,by simp[Value.ownBlock],by simp[Value.ownBlock],List.Pairwise.nil,List.Pairwise.nil,by simp⟩
 ·simp[go_sem]
 ·simp[go_sem]
 ·exact World.frozen?_alloc_at _ _ _ _ (by simp)
 ·rw[Below.heap_alloc _ _ _ (by simp)];exact eD _ _
theorem tB{base:Nat}(qb mb:Nat)(ov:Value)(q:List Ev)(w:World)(h:QueP base w qb mb ov q) :
  Calls Tryz.prog 93 #[.pointer (some ⟨qb,0,none⟩)] w fun e w'=>e=.returned (.int .i64 q.length)∧w'=w:=by
 obtain⟨es,clock,hm,hq⟩:=h.map;have h0:=h.c0;have hs:=hq.size;have hrun:(Builtin.len_ #[152] 3 #[.map (some mb)]).run Tryz.prog w=.ok (.int .i64 q.length) w:=by
  simp[Builtin.len_,run_underlying Tryz.underlying152,MapKept.run_getObj_map hm,goInt,hs]
 clear hm hq hs h
 go_enter Tryz.func93,Tryz.ntmps93
 go_wp2
 go_ret;exact⟨rfl,rfl⟩
theorem vW{base:Nat}(qb mb:Nat)(ov:Value)(q:List Ev)(w:World)(h:QueP base w qb mb ov q) :
  Calls Tryz.prog 113 #[.pointer (some ⟨qb,0,none⟩)] w fun e w'=>e=.returned (.bool (decide (16≤(q.length:Int))))∧w'=w:=by
 go_enter Tryz.func113,Tryz.ntmps113
 go_wp2_with (go_at_call 93;refine(tB qb mb ov q _ h).mono ?_;rintro e w' ⟨rfl,rfl⟩)
 go_ret;exact⟨rfl,rfl⟩
theorem yR{base:Nat}(qb mb:Nat)(ov:Value)(w:World)(h:QueP base w qb mb ov []) :
  Calls Tryz.prog 126 #[.pointer (some ⟨qb,0,none⟩)] w fun e w'=>e=.returned (.tuple #[.agg #[.int .i64 0,.int .i64 0,.int .i64 0,.int .i64 0],.bool false])∧Below w.heap.size w w':=by
 have h0:=h.c0;have h1:=h.c1;obtain⟨f,ho,_,_⟩:=h.ord;obtain⟨sa,sc,rfl⟩:=ho.form;have hqb:=aC h0;clear h ho;simp only[List.length_nil]at h1
 go_enter Tryz.func126,Tryz.ntmps126
 go_wp2
 refine bodyPost_ret (v:=.tuple #[.agg #[.int .i64 0,.int .i64 0,.int .i64 0,.int .i64 0],.bool false]) ?_ rfl ?_
 ·rw[results_cell_tmp rfl];simp[go_sem]
 exact⟨rfl,by first|exact Below.refl _ _|exact(Below.refl _ _).alloc (Nat.le_refl _) _|exact(((Below.refl _ _).alloc (Nat.le_refl _) _).alloc (by simp) _)⟩
theorem qF{base:Nat}(qb mb:Nat)(ov:Value)(e:Ev)(q:List Ev)(w:World)(h:QueP base w qb mb ov (e::q)) :
  Calls Tryz.prog 126 #[.pointer (some ⟨qb,0,none⟩)] w fun e' w'=>e'=.returned (.tuple #[eU e,.bool true])∧Below w.heap.size w w':=by
 have h0:=h.c0;have h1:=h.c1;obtain⟨f,ho,hh,hm⟩:=h.ord;obtain⟨hn,hf⟩:=hm.first hh h.sorted h.distinct
 obtain⟨_,h00⟩|⟨b,cap,rfl,hb,hc,_,hr⟩:=ho
 ·simp at h00
 obtain⟨c0,c1,_,_⟩:=hr.cell hn;rw[hf]at c0 c1;simp only[Ev.mom,Nat.zero_mul,Nat.zero_add]at c0 c1;obtain⟨es,clock,hmm,hq⟩:=h.map;have hlk:∀ (W:World),W.heap[mb]?=w.heap[mb]?→(Instr.lookup 152 (.map (some mb)) (.int .i64 e.number) false).run Tryz.prog W=.ok (eU e) W:=by
  intro W hW;have:=fK (W:=W) (hW.trans hmm) hq (e:=e) (by simp) h.distinct false
  simpa using this
 have hl2:((q.length:Int)+1==0)=false:=by simp;omega
 have hl1:(0:Int)<(q.length:Int)+1:=by omega
 simp only[List.length_cons]at h1 hn hc;have hqb:=aC h0;have hbb:=aC c0;have hmb:mb<w.heap.size:=(Array.getElem?_eq_some_iff.1 hmm).1;have L1:=hlk (w.alloc (.cells #[.int .i64 0,.int .i64 0,.int .i64 0,.int .i64 0] 171)) (Below.heap_alloc _ _ _ hmb);have L2:=hlk (w.alloc (.cells #[.int .i64 0,.int .i64 0,.int .i64 0,.int .i64 0] 171)).drew (Below.heap_alloc _ _ _ hmb);clear hlk hq hmm hr hm hh h;simp only[eU]at L1 L2 ⊢
 go_enter Tryz.func126,Tryz.ntmps126
 go_wp2
 go_region
 all_goals
  go_wp2
  refine bodyPost_ret (v:=.tuple #[.agg #[.int .i64 e.number,.int .i64 e.time,.int .i64 e.kind,.int .i64 e.entity],.bool true]) ?_ rfl ?_
  ·rw[results_cell_tmp rfl];simp[go_sem]
  exact⟨rfl,((Below.refl _ _).alloc (Nat.le_refl _) _).drew⟩
def Moved(w:World)(ov ov':Value):Prop:=ov'.ownBlock=ov.ownBlock∨∃ g,ov'.ownBlock=some g∧w.heap.size≤g
theorem yS{base:Nat}(qb mb:Nat)(ov:Value)(q:List Ev)(e:Ev)(w:World)(h:QueP base w qb mb ov q)(hbase:base≤w.heap.size)(hl:q.length<16)(hn:∀ x∈q,x.number≠e.number) :
  Calls Tryz.prog 114 #[.pointer (some ⟨qb,0,none⟩),.agg #[.int .i64 e.number,.int .i64 e.time,.int .i64 e.kind,.int .i64 e.entity]] w
   fun e' w'=>∃ ov',e'=.returned (.tuple #[])∧Only (dV qb mb ov) w w'∧QueP base w' qb mb ov' (dR e q)∧Moved w ov ov':=by
 have H:=aB h;have h0:=h.c0;have h1:=h.c1;have ht:=h.thaw;obtain⟨es,clock,hmm,hq⟩:=h.map;obtain⟨f,ho,hh,hm⟩:=h.ord;have hqb:=aC h0;have hmb:mb<w.heap.size:=(Array.getElem?_eq_some_iff.1 hmm).1;have hqm:=h.qm;have hrun:=sY (W:=(w.alloc (.cells #[.int .i64 e.number,.int .i64 e.time,.int .i64 e.kind,.int .i64 e.entity] 171)).drew) (mb:=mb) ((Below.heap_alloc _ _ _ hmb).trans hmm) hq e hn;simp only[eU]at hrun;have HQ:=aB (hq.put hn (cX e q) (gT e q));have HM:=aB (hm.cons hn (cX e q) (gT e q));have Hh:=aB hh;obtain⟨sa,sc,rfl⟩:=ho.form;have Ho:=aB ho;have Hn:=aB hn;clear hq hm hh ho hmm h hn
 go_enter Tryz.func114,Tryz.ntmps114
 go_wp2
 go_region
 obtain⟨W0,hW0⟩:∃ W0,W0=(w.alloc (.cells #[.int .i64 e.number,.int .i64 e.time,.int .i64 e.kind,.int .i64 e.entity] 171)).drew:=⟨_,rfl⟩;have hb0:Below w.heap.size w W0:=by rw[hW0];exact((Below.refl _ _).alloc (Nat.le_refl _) _).drew
 have e0:W0.cell? ⟨w.heap.size,0,none⟩=some (.int .i64 e.number):=by rw[hW0];simp[go_sem]
 have e1:W0.cell? ⟨w.heap.size,1,none⟩=some (.int .i64 e.time):=by rw[hW0];simp[go_sem]
 have hz0:W0.heap.size=w.heap.size+1:=by rw[hW0];simp
 rw[←hW0];have ho1:Only (·=mb) W0 (cW W0 mb (es.push {key:=.int .i64 e.number,val:=.agg #[.int .i64 e.number,.int .i64 e.time,.int .i64 e.kind,.int .i64 e.entity],born:=clock}) (clock+1)):=iC _ _ _ _
 have hz1:=iD W0 mb (es.push {key:=.int .i64 e.number,val:=.agg #[.int .i64 e.number,.int .i64 e.time,.int .i64 e.kind,.int .i64 e.entity],born:=clock}) (clock+1);have hm1:=lB (W:=W0) (mb:=mb) (by omega) (es.push {key:=.int .i64 e.number,val:=.agg #[.int .i64 e.number,.int .i64 e.time,.int .i64 e.kind,.int .i64 e.entity],born:=clock}) (clock+1)
 generalize cW W0 mb (es.push {key:=.int .i64 e.number,val:=.agg #[.int .i64 e.number,.int .i64 e.time,.int .i64 e.kind,.int .i64 e.entity],born:=clock}) (clock+1)=W1 at ho1 hz1 hm1 ⊢;have Hm1:=aB hm1;have f0:=ho1.at e0 (by omega)
 have f1:=ho1.at e1 (by omega)
 have g0:=ho1.at (aA hb0 h0 hqb) hqm;have g1:=ho1.at (aA hb0 h1 hqb) hqm;have gt:W1.frozen? ⟨qb,1,none⟩=false:=by
  rw[World.frozen?_of_block (w:=W0) (a:=⟨qb,1,none⟩) (ho1.block qb (by omega) hqm),hb0.frozen (p:=⟨qb,1,none⟩) hqb];exact ht
 have Ho1:=aB ((Ho.out.below hb0).only ho1 (fun b hb hc=>by subst hc;exact H.out.mo hb))
 have hO1:Only (dV qb mb (.slice sa q.length sc)) w W1:=(Only.new hb0).trans (ho1.mono (fun k _ hk=>.inr (.inl hk)));have HO1:=aB hO1;have HB0:=aB hb0;have HHo:=aB ho1;clear hrun hm1 h0 h1 ht e0 e1 hW0 hb0 ho1 hO1;have hqo:=H.out.qo;have hmo:=H.out.mo;have Hqo:=aB hqo;have Hmo:=aB hmo;clear hqo hmo
 go_wp2
 go_region_with (go_at_call 125;refine(aEa base _ q.length f e.mom (dR e q) _ (show OrdV base W1.drew (.slice sa q.length sc) q.length f from Ho1.out) Hh.out (by omega) HM.out (by simp;omega)).mono ?_;rintro e' w2 ⟨v2,f2,rfl,hO2,hh2,hm2,ho2,hmv⟩;obtain⟨sa2,sc2,rfl⟩:=hO2.form;have k1:=ho2.at (w:=W1.drew) g1 Hqo.out;have k2:w2.frozen? ⟨qb,1,none⟩=false:=(World.frozen?_of_block (w:=W1.drew) (a:=⟨qb,1,none⟩) (ho2.block qb (by simp;omega) Hqo.out)).trans gt;have k0:=ho2.at (w:=W1.drew) g0 Hqo.out)
 all_goals
  go_end0
  have ho3:Only (fun b=>some b=(Value.slice sa q.length sc).ownBlock) W1 w2:=⟨ho2.os,ho2.tape,ho2.output,ho2.size,ho2.block⟩;have hz2:=ho3.size;have hset:Only (dV qb mb (.slice sa q.length sc)) w (w2.setCell ⟨qb,1,none⟩ (.slice sa2 (q.length+1) sc2)):=(HO1.out.trans (ho3.mono (fun k _ hk=>.inr (.inr hk)))).setCell (.inl rfl) _;have hmv':Moved w (.slice sa q.length sc) (.slice sa2 (q.length+1) sc2):=by
   rcases hmv with hmv|⟨g,hg,hgz⟩
   ·exact .inl hmv
   ·exact .inr ⟨g,hg,by have:W1.drew.heap.size=W1.heap.size:=rfl;omega⟩
  have hnq:some qb≠(Value.slice sa2 (q.length+1) sc2).ownBlock:=by
   rcases hmv' with hmv|⟨g,hg,hgz⟩
   ·rw[hmv];exact Hqo.out
   ·rw[hg];simp;omega
  have hnm:some mb≠(Value.slice sa2 (q.length+1) sc2).ownBlock:=by
   rcases hmv' with hmv|⟨g,hg,hgz⟩
   ·rw[hmv];exact Hmo.out
   ·rw[hg];simp;omega
  refine⟨_,rfl,hset,⟨?_,?_,?_,?_,?_,hqm,hnq,hnm,jL e q H.out.sorted Hn.out,gP e q H.out.distinct Hn.out,by rw[cX];omega⟩,hmv'⟩
  ·rw[World.cell?_setCell_other _ _ _ _ (by simp)];exact k0
  ·exact World.cell?_setCell_same _ _ _ k1
  ·rw[World.frozen?_setCell];exact k2
  ·refine⟨_,_,?_,HQ.out⟩;rw[Below.heap_setCell _ _ _ _ (by exact Ne.symm hqm),ho3.block mb (by omega) (fun hc=>Hmo.out hc)]
   exact Hm1.out
  ·refine⟨f2,?_,by rw[cX];exact hh2,by rw[cX];exact hm2⟩
   rw[cX];exact hO2.only (U:=(·=qb)) (Only.setCell (S:=(·=qb)) (Only.refl _ _) (p:=⟨qb,1,none⟩) rfl _) (fun b hb hc=>by subst hc;exact hnq hb)
theorem aCo{base:Nat}(qb mb:Nat)(ov:Value)(q:List Ev)(n:Int)(w:World)(h:QueP base w qb mb ov q)(hn:∀ e∈q,e.number≠n) :
  Calls Tryz.prog 134 #[.pointer (some ⟨qb,0,none⟩),.int .i64 n] w fun e w'=>e=.returned (.tuple #[])∧Below w.heap.size w w':=by
 obtain⟨es,clock,hm,hq⟩:=h.map;have h0:=h.c0;have hrun:=lN hm hq hn;clear hm hq hn h
 go_enter Tryz.func134,Tryz.ntmps134
 go_wp2
 refine bodyPost_ret (results_none rfl _ _ _) rfl ?_;exact⟨rfl,(Below.refl _ _).alloc (Nat.le_refl _) _⟩
theorem vV{base:Nat}(qb mb:Nat)(ov:Value)(q:List Ev)(e:Ev)(w:World)(h:QueP base w qb mb ov q)(he:e∈q) :
  Calls Tryz.prog 134 #[.pointer (some ⟨qb,0,none⟩),.int .i64 e.number] w
   fun e' w'=>∃ ov',e'=.returned (.tuple #[])∧Only (dV qb mb ov) w w'∧QueP base w' qb mb ov' (bY e.number q)∧ov'.ownBlock=ov.ownBlock:=by
 have H:=aB h;obtain⟨es,clock,hm,hq⟩:=h.map;obtain⟨f,ho,hh,hf⟩:=h.ord;have h0:=h.c0;have h1:=h.c1;have ht:=h.thaw;have hqm:=h.qm;have hqb:=aC h0;have hmb:mb<w.heap.size:=(Array.getElem?_eq_some_iff.1 hm).1;have hlk:=fK (W:=w) hm hq he h.distinct true;have hlen:=jM h.distinct he rfl;obtain⟨n,hn⟩:∃ n,(bY e.number q).length=n:=⟨_,rfl⟩;have hql:q.length=n+1:=by omega
 obtain⟨W0,hW0⟩:∃ W0,W0=w.alloc (.cells #[.int .i64 e.number,.int .i64 e.time,.int .i64 e.kind,.int .i64 e.entity] 171):=⟨_,rfl⟩;have hb0:Below w.heap.size w W0:=by rw[hW0];exact(Below.refl _ _).alloc (Nat.le_refl _) _
 obtain⟨es2,hdel0,hq2⟩:=aAi (W:=W0) ((hb0.block mb hmb).trans hm) hq he h.distinct 0;have hdel:∀ ty,(Builtin.delete_ #[152,3] ty #[.map (some mb),.int .i64 e.number]).run Tryz.prog W0=.ok (.tuple #[]) (cW W0 mb es2 clock):=fun ty=>hdel0;have e0:W0.cell? ⟨w.heap.size,0,none⟩=some (.int .i64 e.number):=by rw[hW0];simp[go_sem]
 have e1:W0.cell? ⟨w.heap.size,1,none⟩=some (.int .i64 e.time):=by rw[hW0];simp[go_sem]
 have hz0:W0.heap.size=w.heap.size+1:=by rw[hW0];simp
 have ho1:=iC W0 mb es2 clock;have hz1:=iD W0 mb es2 clock;have hm1:=lB (W:=W0) (mb:=mb) (by omega) es2 clock
 generalize cW W0 mb es2 clock=w1 at ho1 hz1 hm1 hdel;have g0:=ho1.at (aA hb0 h0 hqb) hqm;have g1:=ho1.at (aA hb0 h1 hqb) hqm;have gt:w1.frozen? ⟨qb,1,none⟩=false:=by
  rw[World.frozen?_of_block (w:=W0) (a:=⟨qb,1,none⟩) (ho1.block qb (by omega) hqm),hb0.frozen (p:=⟨qb,1,none⟩) hqb];exact ht
 have f0:=ho1.at e0 (by omega)
 have f1:=ho1.at e1 (by omega)
 rw[hql]at ho hh hf;obtain⟨_,h00⟩|⟨hb,cap,rfl,hbb,hc,hcm,hr⟩:=ho
 ·omega
 have hhm:hb≠mb:=fun e=>h.mo (by rw[e];rfl)
 have hhq:hb≠qb:=fun e=>h.qo (by rw[e];rfl)
 have hr1:=(hr.below hb0).only ho1 hhm;have hhl:=hr.lt;have hlt1:=hr1.lt;obtain⟨i0,hi0,hfi0⟩:=hf.sup e he;have HX:Hid (∀ W:World,Below w1.heap.size w1 W→Calls Tryz.prog 141 #[.slice (some ⟨hb,0,none⟩) (n+1) cap,.agg #[.int .i64 e.time,.int .i64 e.number]] W fun e' w'=>∃ i:Nat,i<n+1∧f i=e.mom∧e'=.returned (.int .i64 i)∧Below W.heap.size W w'):=fun W hW=>aBw hb 186 (cap*2) (n+1) cap f e.mom W (hr1.below hW) (by have:=h.len;omega) ⟨i0,hi0,hfi0⟩
 have HY:Hid (∀ (i:Nat) (W:World),i<n+1→f i=e.mom→Below w1.heap.size w1 W→Calls Tryz.prog 139 #[.slice (some ⟨hb,0,none⟩) (n+1) cap,.int .i64 i] W fun e' w'=>∃ f',e'=.returned (.slice (some ⟨hb,0,none⟩) n cap)∧OrdV base w' (.slice (some ⟨hb,0,none⟩) n cap) n f'∧HeapF f' n∧MomsOf f' n (bY e.number q)∧Only (·=hb) W w'):=fun i W hi hfi hW=>pS base hb cap n i f (bY e.number q) W hbb hc hcm (hr1.below hW) hh (by have:=h.len;omega) hi (hf.remove hi hfi (fun x hx hxe=>h.distinct.eq hx he hxe) hn (iV e.number q))
 have Hq2:=aB hq2;have Hm1:=aB hm1;have Ho1:=aB ho1;have Hb0:=aB hb0;have HW0:=aB hW0;have Hhm:=aB hhm;have Hhq:=aB hhq;have Hwh:Hid (¬w.heap.size=hb):=by show ¬_;omega
 simp only[eU]at hlk;clear hq2 hm1 ho1 hb0 hr hr1 hh hf hm hq hlen h h1 ht hdel0 e0 e1 hi0 hfi0;have h0':=aA Hb0.out h0 hqb;rw[hW0]at hdel h0';clear hW0
 go_enter Tryz.func134,Tryz.ntmps134
 go_wp2
 go_region_with (first
   | (go_at_call 141;refine(HX.out w1.drew (Below.refl _ _).drew).mono ?_;rintro e' w2 ⟨i,hi,hfi,rfl,hb2⟩;(have hbX:Below w1.heap.size w1 w2:=(Below.refl _ _).drew.trans hb2);(have k1:=aA hbX g1 (by omega));(have k0:=aA hbX g0 (by omega));(have kt:w2.frozen? ⟨qb,1,none⟩=false:=(hbX.frozen (p:=⟨qb,1,none⟩) (by simp;omega)).trans gt))
   | (go_at_call 139;refine(HY.out i _ hi hfi hbX).mono ?_;rintro e' w3 ⟨f',rfl,hO3,hh3,hm3,ho3⟩;(have j1:=ho3.at k1 (Ne.symm Hhq.out));(have jt:w3.frozen? ⟨qb,1,none⟩=false:=(World.frozen?_of_block (w:=w2) (a:=⟨qb,1,none⟩) (ho3.block qb (by have:=hbX.size;omega) (Ne.symm Hhq.out))).trans kt)))
 all_goals
  go_end0
  have hz2:=hbX.size;have hz3:=ho3.size;have hO13:Only (·=hb) w1 w3:=(Only.new hbX).trans ho3
  refine⟨.slice (some ⟨hb,0,none⟩) n cap,rfl,?_,⟨?_,?_,?_,⟨es2,clock,?_,Hq2.out⟩,⟨f',?_,by rw[hn];exact hh3,by rw[hn];exact hm3⟩,hqm,?_,?_,qD H.out.sorted,jZ H.out.distinct,by have:=H.out.len;omega⟩,rfl⟩
  ·refine((((Only.new Hb0.out).trans (Ho1.out.mono (fun k _ hk=>.inr (.inl hk)))).trans (hO13.mono (fun k _ hk=>.inr (.inr ?_))))).setCell (.inl rfl) _;rw[hk];rfl
  ·rw[World.cell?_setCell_other _ _ _ _ (by simp)];exact ho3.at k0 (Ne.symm Hhq.out)
  ·exact World.cell?_setCell_same _ _ _ j1
  ·rw[World.frozen?_setCell];exact jt
  ·rw[Below.heap_setCell _ _ _ _ (by exact Ne.symm hqm),hO13.block mb (by omega) (Ne.symm Hhm.out)];exact Hm1.out
  ·rw[hn];exact hO3.only (U:=(·=qb)) (Only.setCell (S:=(·=qb)) (Only.refl _ _) (p:=⟨qb,1,none⟩) rfl _) (fun b hb' hc=>by subst hc;simp[Value.ownBlock]at hb';exact Hhq.out hb'.symm)
  ·simp[Value.ownBlock];exact Ne.symm Hhq.out
  ·simp[Value.ownBlock];exact Ne.symm Hhm.out
end Go.Proofs.YtndlmgocldckfaaGreat

namespace Go.Proofs.YtndlmgocldckfaaGreat
open Go.RowKit
open Go.ChangeMaps (setBlock)
set_option linter.unusedVariables false
set_option linter.unusedSimpArgs false
set_option maxRecDepth 100000
set_option maxHeartbeats 4000000
theorem qE:∀ (a b:List Ev),Distinct a→Distinct b→(∀ x,x∈a↔x∈b)→a.length=b.length
 | [],b,_,_,h=>by
  cases b with
  | nil=>rfl
  | cons y b=>exact absurd ((h y).2 (by simp)) (by simp)
 | x::a,b,ha,hb,h=>by
  obtain⟨h1,h2⟩:=List.pairwise_cons.1 ha;have hx:x∈b:=(h x).1 (by simp)
  have hl:=jM hb hx rfl;have ih:=qE a (bY x.number b) h2 (jZ hb) (fun y=>by
   rw[iV];constructor
   ·intro hy;exact⟨(h y).1 (by simp[hy]),(h1 y hy).symm⟩
   ·rintro⟨hy,hn⟩;rcases List.mem_cons.1 ((h y).2 hy)with rfl|hy
    ·exact absurd rfl hn
    ·exact hy)
  simp;omega
theorem MapQ.same{es:Array MapEntry}{clock:Nat}{a b:List Ev}(h:MapQ es clock a)(ha:Distinct a)(hb:Distinct b)(hm:∀ x,x∈a↔x∈b):MapQ es clock b:=by
 refine⟨h.size.trans (qE a b ha hb hm),h.stamped,?_,?_⟩
 ·intro x hx;obtain⟨e,he,r⟩:=h.sub x hx;exact⟨e,(hm e).1 he,r⟩
 ·intro e he;exact h.sup e ((hm e).2 he)
section
variable {P : Program} {w : World} {ops : Array Oper} {rest : List Oper} {o : Oper} {a : Act} {Q : Exit → Act → World → Prop}
theorem qU(hg:o.guard=none)(m:Operand)(t k e:TypeId)(hop:o.op=Op.range t m)(ht:P.underlying t=some (.map k e))(bm:Nat)(es:Array MapEntry)(clock:Nat)(hm:a.eval m=.map (some bm))(hb:w.heap[bm]?=some (.map es clock))
  (hK:wpList P ops Q rest (a.put o.dst (.pointer (some ⟨w.heap.size,0,none⟩))) (w.alloc (.mapIter (some bm) clock #[] clock))):wpList P ops Q (o::rest) a w:=by
 refine wpList_plain hg fun K hK'=>?_;have hrun:=run_range_map (P:=P) w t k e bm es clock ht hb;unfold Oper.wp;simp[execOp,hop,hm,hrun,Result.andThen];exact hK' _ _ hK
theorem sX(hg:o.guard=none)(it:Operand)(hop:o.op=Op.next it false)(r bm since c0:Nat)(seen:Array Nat)(es:Array MapEntry)(clock:Nat)
  (hit:a.eval it=.pointer (some ⟨r,0,none⟩)) (hr:w.heap[r]?=some (.mapIter (some bm) since seen c0)) (hb:w.heap[bm]?=some (.map es clock)) (hold:∀ x∈es.toList,x.born<since) (hsc:since≤c0)
  (hDone:Hid ((leftOf es seen).size=0)→wpList P ops Q rest (a.put o.dst (.tuple #[.bool false])) w)
  (hMore:∀ e w1,Hid (e∈(leftOf es seen).toList)→Hid (w1=w∨w1=w.drew)→wpList P ops Q rest (a.put o.dst (.tuple #[.bool true,e.key,e.val])) (setBlock w1 r (.mapIter (some bm) since (seen.push e.born) clock))):wpList P ops Q (o::rest) a w:=by
 refine wpList_plain hg fun K hK'=>?_;unfold Oper.wp;rcases run_next_at (P:=P) w o.type r bm since c0 seen es clock hr hb hold hsc with⟨h0,hrun⟩|⟨e,he,w1,hw1,hrun⟩
 ·simp[execOp,hop,hit,hrun,Result.andThen];exact hK' _ _ (hDone h0)
 ·simp[execOp,hop,hit,hrun,Result.andThen];exact hK' _ _ (hMore e w1 he hw1)
end
theorem uT(W:World)(r:Nat)(o:Obj):Only (·=r) W (setBlock W r o):=
 ⟨rfl,rfl,rfl,by simp[setBlock],fun k hk hn=>by simp only[setBlock];rw[Array.getElem?_setIfInBounds_ne (fun e=>hn e.symm)]⟩
theorem yM{W:World}{r:Nat}(h:r<W.heap.size)(o:Obj):(setBlock W r o).heap[r]?=some o:=by simp[setBlock,h]
theorem leftOf_mem{es:Array MapEntry}{seen:Array Nat}{e:MapEntry}:e∈(leftOf es seen).toList↔e∈es.toList∧e.born∉seen.toList:=by
 simp[leftOf]
theorem yN{es:Array MapEntry}{seen:Array Nat}{e:MapEntry}(he:e∈(leftOf es seen).toList):(leftOf es (seen.push e.born)).size<(leftOf es seen).size:=by
 have h1:=leftOf_mem.1 he;have:=filter_lt (fun x:MapEntry=>!seen.contains x.born) (fun x:MapEntry=>!(seen.push e.born).contains x.born) (by intro x hx;simp at hx ⊢;exact fun h=>hx.1 h) e (by simpa using h1.2) (by simp) es.toList h1.1
 simpa [leftOf,←Array.length_toList]using this
theorem xF(md ms:Nat)(es:Array MapEntry)(clock cd:Nat)(q:List Ev)(w:World)(hne:md≠ms)(hd:w.heap[md]?=some (.map #[] cd))(hs:w.heap[ms]?=some (.map es clock))(hq:MapQ es clock q)(hdq:Distinct q) :
  Calls Tryz.prog 133 #[.map (some md),.map (some ms)] w fun e w'=>e=.returned (.tuple #[])∧Only (·=md) w w'∧∃ es' c',w'.heap[md]?=some (.map es' c')∧MapQ es' c' q:=by
 have hml:md<w.heap.size:=(Array.getElem?_eq_some_iff.1 hd).1;have hsl:ms<w.heap.size:=(Array.getElem?_eq_some_iff.1 hs).1;have Hd:=aB hd;have Hs:=aB hs;have Hq:=aB hq;have Hdq:=aB hdq;clear hd hs hq hdq
 go_enter Tryz.func133,Tryz.ntmps133
 go_wp2_with (at_range;refine qU rfl (.tmp 6) 152 3 171 rfl Tryz.underlying152 ms es clock rfl Hs.out ?_)
 go_wp2
 go_frame
 go_loopg [] (es.size+1) (fun g wr=>∃ (seen:Array Nat) (c0:Nat) (ed:Array MapEntry) (c1:Nat) (dq:List Ev),clock≤c0∧(leftOf es seen).size+1≤g∧Only (fun b=>b=md) w wr∧w.heap.size<wr.heap.size∧wr.heap[w.heap.size]?=some (.mapIter (some ms) clock seen c0)∧wr.heap[md]?=some (.map ed c1)∧MapQ ed c1 dq∧Distinct dq∧(∀ e∈dq,e∈q)∧(∀ x∈es.toList,x.born∈seen.toList↔∃ e∈dq,x.key=.int .i64 e.number))
 case atStart=>
  refine⟨#[],clock,#[],cd,[],Nat.le_refl _,by simp[leftOf];exact Array.size_filter_le ..,Only.new ((Below.refl _ _).alloc (Nat.le_refl _) _),by simp,eD _ _,?_,MapQ.empty cd,List.Pairwise.nil,by simp,by simp⟩
  rw[Below.heap_alloc _ _ _ hml];exact Hd.out
 case round=>
  obtain⟨seen,c0,ed,c1,dq,hc0,hg,ho,hz,hit,hmd,hmq,hdd,hsub,hseen⟩:=hrel;have hms:wr.heap[ms]?=some (.map es clock):=(ho.block ms hsl (Ne.symm hne)).trans Hs.out;have Hmd:=aB hmd;have Hmq:=aB hmq;have Hdd:=aB hdd;have Hsub:=aB hsub;have Hseen:=aB hseen;have Hit:=aB hit;have Hms:=aB hms;have Ho:=aB ho;clear hmd hmq hdd hsub hseen hit hms ho
  go_wp2_with (at_next;refine sX rfl (.tmp 7) rfl w.heap.size ms clock c0 seen es clock rfl Hit.out Hms.out Hq.out.stamped.1 hc0 ?_ ?_)
  ·intro hdone
   go_wp2
   go_end0
   refine⟨rfl,Ho.out,ed,c1,Hmd.out,Hmq.out.same Hdd.out Hdq.out ?_⟩;intro x;refine⟨Hsub.out x,fun hx=>?_⟩;obtain⟨y,hy,hk,_⟩:=Hq.out.sup x hx;have hys:y.born∈seen.toList:=by
    rcases Classical.em (y.born∈seen.toList)with h|h
    ·exact h
    ·exfalso
     have h0:y∈(leftOf es seen).toList:=leftOf_mem.2 ⟨hy,h⟩;have h1:leftOf es seen=#[]:=by simpa using hdone.out
     rw[h1]at h0;simp at h0
   obtain⟨e',he',hk'⟩:=(Hseen.out y hy).1 hys;have:e'=x:=Hdq.out.eq (Hsub.out e' he') hx (by rw[hk]at hk';simpa using hk'.symm)
   rw[←this];exact he'
  ·intro x w1 hx hw1;have hx':x∈(leftOf es seen).toList:=by simpa using hx.out
   have hlss:=yN hx';obtain⟨hx1,hx2⟩:=leftOf_mem.1 hx';obtain⟨ev,hev,hxk,hxv⟩:=Hq.out.sub x hx1;have hb1:Below wr.heap.size wr w1:=by rcases hw1.out with rfl|rfl;exact Below.refl _ _;exact(Below.refl _ _).drew
   have hz1:w1.heap.size=wr.heap.size:=by rcases hw1.out with rfl|rfl<;>rfl
   have hh1:∀ k:Nat,w1.heap[k]?=wr.heap[k]?:=by rcases hw1.out with rfl|rfl<;>intro k<;>rfl
   have hit2:=yM (W:=w1) (r:=w.heap.size) (by omega) (.mapIter (some ms) clock (seen.push x.born) clock)
   have ho2:=uT w1 w.heap.size (.mapIter (some ms) clock (seen.push x.born) clock);have hz2:(setBlock w1 w.heap.size (.mapIter (some ms) clock (seen.push x.born) clock)).heap.size=wr.heap.size:=by simp[setBlock,hz1]
   generalize setBlock w1 w.heap.size (.mapIter (some ms) clock (seen.push x.born) clock)=w2 at hit2 ho2 hz2 ⊢;have hms2:w2.heap[ms]?=some (.map es clock):=by rw[ho2.block ms (by omega) (by omega),hh1];exact Hms.out
   have hmd2:w2.heap[md]?=some (.map ed c1):=by rw[ho2.block md (by omega) (by omega),hh1];exact Hmd.out
   have hen:=run_entry_at (P:=Tryz.prog) w2 w.heap.size ms clock seen es clock x hit2 hms2 hx1 Hq.out.stamped.2.1;rw[hxk,hxv]at hen ⊢;have hnew:∀ y∈dq,y.number≠ev.number:=by
    intro y hy hc;exact hx2 ((Hseen.out x hx1).2 ⟨y,hy,by rw[hxk,hc]⟩)
   have hup:=sY (W:=w2.alloc (.cells #[.int .i64 ev.number,.int .i64 ev.time,.int .i64 ev.kind,.int .i64 ev.entity] 171)) (mb:=md) ((Below.heap_alloc _ _ _ (by omega)).trans hmd2) Hmq.out ev hnew
   simp only[eU]at hen hup ⊢;have Hnew:=aB hnew;have Hit2:=aB hit2;have Hms2:=aB hms2;have Hmd2:=aB hmd2;have Ho2:=aB ho2;have Hh1:=aB hh1;clear hnew hit2 hms2 hmd2 ho2 hh1 hb1
   go_wp2
   go_roundg ((leftOf es (seen.push x.born)).size+1)
   case measure=>omega
   case rel=>
    obtain⟨W,hW⟩:∃ W,W=w2.alloc (.cells #[.int .i64 ev.number,.int .i64 ev.time,.int .i64 ev.kind,.int .i64 ev.entity] 171):=⟨_,rfl⟩;have hbW:Below w2.heap.size w2 W:=by rw[hW];exact(Below.refl _ _).alloc (Nat.le_refl _) _
    have hzW:W.heap.size=w2.heap.size+1:=by rw[hW];simp
    rw[←hW];have how:=iC W md (ed.push {key:=.int .i64 ev.number,val:=.agg #[.int .i64 ev.number,.int .i64 ev.time,.int .i64 ev.kind,.int .i64 ev.entity],born:=c1}) (c1+1);have hmw:=lB (W:=W) (mb:=md) (by omega) (ed.push {key:=.int .i64 ev.number,val:=.agg #[.int .i64 ev.number,.int .i64 ev.time,.int .i64 ev.kind,.int .i64 ev.entity],born:=c1}) (c1+1)
    have hzw:=iD W md (ed.push {key:=.int .i64 ev.number,val:=.agg #[.int .i64 ev.number,.int .i64 ev.time,.int .i64 ev.kind,.int .i64 ev.entity],born:=c1}) (c1+1);refine⟨seen.push x.born,clock,_,_,ev::dq,Nat.le_refl _,Nat.le_refl _,?_,by rw[hzw];omega,?_,hmw,Hmq.out.put Hnew.out (by simp) (by simp),List.pairwise_cons.2 ⟨fun y hy=>(Hnew.out y hy).symm,Hdd.out⟩,?_,?_⟩
    ·refine⟨by rw[how.os,hbW.os,Ho2.out.os];rcases hw1.out with rfl|rfl<;>exact Ho.out.os,by rw[how.tape,hbW.tape,Ho2.out.tape];rcases hw1.out with rfl|rfl<;>exact Ho.out.tape,by rw[how.output,hbW.output,Ho2.out.output];rcases hw1.out with rfl|rfl<;>exact Ho.out.output,by rw[hzw];omega,?_⟩
     intro k hk hkn;rw[how.block k (by omega) hkn,hbW.block k (by omega),Ho2.out.block k (by omega) (by omega),Hh1.out,Ho.out.block k hk hkn]
    ·rw[how.block _ (by omega) (by omega),hbW.block _ (by omega)];exact Hit2.out
    ·intro e he;rcases List.mem_cons.1 he with rfl|he
     ·exact hev
     ·exact Hsub.out e he
    ·intro y hy;have hold:=Hseen.out y hy;constructor
     ·intro hyb;rcases (by simpa using hyb:y.born∈seen∨y.born=x.born)with h|h
      ·obtain⟨e,he,hk⟩:=hold.1 (by simpa using h)
       exact⟨e,by simp[he],hk⟩
      ·have:y=x:=by
        have h1:=find_born y es.toList Hq.out.stamped.2.1 hy;have h2:=find_born x es.toList Hq.out.stamped.2.1 hx1;rw[h]at h1;rw[h1]at h2;exact Option.some.inj h2
       exact⟨ev,by simp,by rw[this,hxk]⟩
     ·rintro⟨e,he,hk⟩;rcases List.mem_cons.1 he with rfl|he
      ·have:y=x:=by
        obtain⟨i,hi⟩:=List.getElem?_of_mem hy;obtain⟨j,hj⟩:=List.getElem?_of_mem hx1;have hil:i<(es.toList.map (·.key)).length:=by have:=(List.getElem?_eq_some_iff.1 hi).1;simpa using this
        have:i=j:=(List.getElem?_inj hil Hq.out.stamped.2.2).1 (by rw[List.getElem?_map,List.getElem?_map,hi,hj];simp[hk,hxk])
        subst this;rw[hi]at hj;exact Option.some.inj hj
       rw[this];simp
      ·have:=hold.2 ⟨e,he,hk⟩;simp at this ⊢;exact .inl this
end Go.Proofs.YtndlmgocldckfaaGreat
