import Derived.Test.YtndlmgocldckfaaGreatG06
import Derived.Test.YtndlmgocldckfaaGreatG05
namespace Go.Proofs.YtndlmgocldckfaaGreat
open Go.RowKit
set_option linter.unusedVariables false
set_option linter.unusedSimpArgs false
set_option maxRecDepth 100000
set_option maxHeartbeats 4000000
structure BkP(w:World)(wb:Nat)(k:BkD):Prop where
 ok:BkOK w k
 nw:¬k.set wb
 room:Room w wb 4
 c1:w.cell? ⟨wb,1,none⟩=some k.bv
 c2:w.cell? ⟨wb,2,none⟩=some k.iv
 c3:w.cell? ⟨wb,3,none⟩=some k.rv
structure BkStep(wb:Nat)(k k':BkD)(S:Nat→Prop)(w w':World):Prop where
 p:BkP w' wb k'
 only:Only (fun b=>b=wb∨k.set b∨S b) w w'
 sub:∀ b,k'.set b→k.set b∨S b∨w.heap.size≤b
 c0:∀ v,w.cell? ⟨wb,0,none⟩=some v→w'.cell? ⟨wb,0,none⟩=some v
theorem BkP.lt{w:World}{wb:Nat}{k:BkD}(h:BkP w wb k):wb<w.heap.size:=aC h.c1
theorem BkP.only{w w':World}{wb:Nat}{k:BkD}{S:Nat→Prop}(h:BkP w wb k)(ho:Only S w w')(hS:∀ b,k.set b→¬S b)(hw:¬S wb):BkP w' wb k:=
 ⟨h.ok.only ho hS,h.nw,h.room.only ho hw,ho.at h.c1 hw,ho.at h.c2 hw,ho.at h.c3 hw⟩
theorem BkP.below{w w':World}{wb:Nat}{k:BkD}(h:BkP w wb k)(hb:Below w.heap.size w w'):BkP w' wb k:=h.only (Only.new (S:=fun _=>False) hb) (by simp) (by simp)
theorem BkStep.refl{w:World}{wb:Nat}{k:BkD}{S:Nat→Prop}(h:BkP w wb k):BkStep wb k k S w w:=⟨h,Only.refl _ _,fun b hb=>.inl hb,fun v hv=>hv⟩
theorem BkStep.trans{w w' w'':World}{wb:Nat}{k k' k'':BkD}{S:Nat→Prop}(h:BkStep wb k k' S w w')(g:BkStep wb k' k'' S w' w''):BkStep wb k k'' S w w'':=by
 have hz:=h.only.size;refine⟨g.p,h.only.chain g.only ?_,?_,fun v hv=>g.c0 v (h.c0 v hv)⟩
 ·rintro b hb (e|e|e)
  ·exact .inl e
  ·rcases h.sub b e with e|e|e
   ·exact .inr (.inl e)
   ·exact .inr (.inr e)
   ·omega
  ·exact .inr (.inr e)
 ·intro b hb;rcases g.sub b hb with hb|hb|hb
  ·exact h.sub b hb
  ·exact .inr (.inl hb)
  ·exact .inr (.inr (by omega))
theorem BkStep.pre{w w' w'':World}{wb:Nat}{k k':BkD}{S:Nat→Prop}(ho:Only S w w')(hw:¬S wb)(g:BkStep wb k k' S w' w''):BkStep wb k k' S w w'':=by
 have hz:=ho.size;refine⟨g.p,(ho.mono (fun b _ hb=>.inr (.inr hb))).trans g.only,?_,fun v hv=>g.c0 v (ho.at hv hw)⟩;intro b hb;rcases g.sub b hb with hb|hb|hb
 ·exact .inl hb
 ·exact .inr (.inl hb)
 ·exact .inr (.inr (by omega))
theorem BkStep.mono{w w':World}{wb:Nat}{k k':BkD}{S S':Nat→Prop}(h:BkStep wb k k' S w w')(hS:∀ b,S b→S' b):BkStep wb k k' S' w w':=by
 refine⟨h.p,h.only.mono ?_,?_,h.c0⟩
 ·rintro b _ (e|e|e)
  ·exact .inl e
  ·exact .inr (.inl e)
  ·exact .inr (.inr (hS b e))
 ·intro b hb;rcases h.sub b hb with hb|hb|hb
  ·exact .inl hb
  ·exact .inr (.inl (hS b hb))
  ·exact .inr (.inr hb)
theorem BkP.pushI{w W w2:World}{k:BkD}{wb:Nat}{v v':Value}{n:Nat}{S:Nat→Prop}(h:BkP w wb k)(hB:Below w.heap.size w W)(hg:W.grownBy w2 k.iv.ownBlock)(hown:w2.ownsRow 0 24 1 v' (k.il.length+1) (k.il++[v]))(hwh:v'.ownBlock=k.iv.ownBlock∨v'.ownBlock=some W.heap.size)
  (hn:n≤1000000000) (hv:Fill w v n (aZ n (lQ k.il.length))) (hvs:∀ b,some b=v.ownBlock→b<w.heap.size∧¬k.rows b∧b≠wb) (hS:∀ b,some b=v.ownBlock→S b) :
  BkStep wb k {k with iv:=v',il:=k.il++[v]} S w (w2.setCell ⟨wb,2,none⟩ v')∧(∀ b,b<w.heap.size→¬k.rows b→¬({k with iv:=v',il:=k.il++[v]}:BkD).rows b)∧Only (fun b=>b=wb∨some b=k.iv.ownBlock) w (w2.setCell ⟨wb,2,none⟩ v'):=by
 obtain⟨h1,h2,h3,h4,h5⟩:=h.ok.pushI (wb:=wb) hB hg hown hwh hn hv hvs h.nw h.lt;have hoc:Only (fun b=>some b=k.iv.ownBlock) w w2:=(Only.new hB).trans (aF hg);have hwv:¬some wb=k.iv.ownBlock:=fun e=>h.nw (.inr (.inr (.inl e)));have hcell:∀ (j:Nat) u,j≠2→w.cell? ⟨wb,j,none⟩=some u→(w2.setCell ⟨wb,2,none⟩ v').cell? ⟨wb,j,none⟩=some u:=by
  intro j u hj hu;rw[World.cell?_setCell_other _ _ _ _ (by simp;try omega)]
  exact hoc.at hu hwv
 have hroom:Room w2 wb 4:=h.room.only hoc hwv;refine⟨⟨⟨h1,h4,hroom.setCell _ _,hcell 1 _ (by omega) h.c1,World.cell?_setCell_same' _ _ _ (hroom 2 (by omega)).1,hcell 3 _ (by omega) h.c3⟩,h2.mono ?_,?_,fun u hu=>hcell 0 u (by omega) hu⟩,h3,h2⟩
 ·rintro b _ (e|e)
  ·exact .inl e
  ·exact .inr (.inl (.inr (.inr (.inl e))))
 ·intro b hb;rcases h5 b hb with hb|hb|hb
  ·exact .inl hb
  ·exact .inr (.inl (hS b hb))
  ·exact .inr (.inr hb)
theorem oC{w:World}{Z:Nat}{e:TypeId}{k n c:Nat}{la:Option Addr}{xs:List Value}(h:w.ownsRow Z e k (.slice la n c) n xs)(hn:0<n):∃ g,la=some ⟨g,0,none⟩∧∀ j,j<n*k→(∃ u,w.cell? ⟨g,j,none⟩=some u)∧w.frozen? ⟨g,j,none⟩=false:=by
 obtain⟨hx,⟨hv,h0⟩|⟨g,cap,cur,hv,hb,hg,hnc,hcm,hcs,ht⟩⟩:=h
 ·omega
 ·simp only[Value.slice.injEq]at hv;refine⟨g,hv.1,fun j hj=>⟨⟨xs[j]'(by omega),?_⟩,frozen_of_row w g j cur e hg⟩⟩
  have hO:w.ownsRow Z e k (.slice (some ⟨g,0,none⟩) n cap) n xs:=⟨hx,.inr ⟨g,cap,cur,rfl,hb,hg,hnc,hcm,hcs,ht⟩⟩;have:=hO.cells (g:=g) rfl j xs[j] (List.getElem?_eq_getElem (by omega))
  rwa [Addr.add_lit,Nat.zero_add]at this
structure MarkI(w wr:World)(Z:Nat)(e:TypeId)(l:Value)(n:Nat)(x:List Value)(j:Nat):Prop where
 only:Only (fun b=>some b=l.ownBlock) w wr
 own:∃ ys,wr.ownsRow Z e x.length l n ys
 done:∀ g,l.ownBlock=some g→RowAt wr g 0 (aZ j x)
theorem MarkI.out{w wr:World}{Z:Nat}{e:TypeId}{la:Option Addr}{c n:Nat}{x:List Value}(h:MarkI w wr Z e (.slice la n c) n x n):wr.ownsRow Z e x.length (.slice la n c) n (aZ n x):=by
 obtain⟨ys,hy⟩:=h.own;rcases bK hy with⟨he,h0,h1⟩|⟨g,cap,he,_,_,_⟩
 ·subst h0;rw[h1]at hy
  simpa [aZ]using hy
 ·rw[he]at hy ⊢;exact zX hy (h.done g (by rw[he];rfl)) (bS _ _)
theorem MarkI.next1{w wr:World}{Z:Nat}{e:TypeId}{g c n j:Nat}{v:Value}(h:MarkI w wr Z e (.slice (some ⟨g,0,none⟩) n c) n [v] j)(hj:j<n):MarkI w (wr.setCell ⟨g,j,none⟩ v) Z e (.slice (some ⟨g,0,none⟩) n c) n [v] (j+1):=by
 obtain⟨ys,hy⟩:=h.own;obtain⟨g',hg',hat⟩:=oC hy (by omega)
 simp at hg';subst hg';refine⟨h.only.setCell (p:=⟨g,j,none⟩) rfl _,kE hy j v,?_⟩;intro g' hg';simp[Value.ownBlock]at hg';subst hg';intro i u hu;rw[fF]at hu
 by_cases hi:i<j
 ·rw[List.getElem?_append_left (by rw[bS];simpa using hi)]at hu
  rw[Nat.zero_add,World.cell?_setCell_other _ _ _ _ (by simp;try omega)]
  have:=h.done g rfl i u hu
  rwa [Nat.zero_add]at this
 ·rw[List.getElem?_append_right (by rw[bS];simp only[List.length_cons,List.length_nil];omega),bS]at hu
  have hi2:=(List.getElem?_eq_some_iff.1 hu).1;simp[aZ]at hi2;have hij:i=j:=by omega
  subst hij;simp[aZ]at hu;subst hu;rw[Nat.zero_add];obtain⟨⟨u,hu⟩,_⟩:=hat i (by simpa using hj)
  exact World.cell?_setCell_same' _ _ _ (by rw[hu];rfl)
structure Pend(wb:Nat)(MK:List Value)(k0 k:BkD)(S:Nat→Prop)(w0 w:World)(todo:List (Value×Nat)):Prop where
 st:BkStep wb k0 k S w0 w
 todo:∀ v n,(v,n)∈todo→n≤1000000000∧Fill w v n (aZ n MK)∧∀ b,some b=v.ownBlock→S b∧b<w.heap.size∧¬k.rows b∧b≠wb
theorem BkP.pushR{w W w2:World}{k:BkD}{wb:Nat}{v v':Value}{n:Nat}{S:Nat→Prop}(h:BkP w wb k)(hB:Below w.heap.size w W)(hg:W.grownBy w2 k.rv.ownBlock)(hown:w2.ownsRow 0 39 1 v' (k.rl.length+1) (k.rl++[v]))(hwh:v'.ownBlock=k.rv.ownBlock∨v'.ownBlock=some W.heap.size)
  (hn:n≤1000000000) (hv:Fill w v n (aZ n (lR k.rl.length))) (hvs:∀ b,some b=v.ownBlock→b<w.heap.size∧¬k.rows b∧b≠wb) (hS:∀ b,some b=v.ownBlock→S b) :
  BkStep wb k {k with rv:=v',rl:=k.rl++[v]} S w (w2.setCell ⟨wb,3,none⟩ v')∧(∀ b,b<w.heap.size→¬k.rows b→¬({k with rv:=v',rl:=k.rl++[v]}:BkD).rows b)∧Only (fun b=>b=wb∨some b=k.rv.ownBlock) w (w2.setCell ⟨wb,3,none⟩ v'):=by
 obtain⟨h1,h2,h3,h4,h5⟩:=h.ok.pushR (wb:=wb) hB hg hown hwh hn hv hvs h.nw h.lt;have hoc:Only (fun b=>some b=k.rv.ownBlock) w w2:=(Only.new hB).trans (aF hg);have hwv:¬some wb=k.rv.ownBlock:=fun e=>h.nw (.inr (.inr (.inr e)));have hcell:∀ (j:Nat) u,j≠3→w.cell? ⟨wb,j,none⟩=some u→(w2.setCell ⟨wb,3,none⟩ v').cell? ⟨wb,j,none⟩=some u:=by
  intro j u hj hu;rw[World.cell?_setCell_other _ _ _ _ (by simp;try omega)]
  exact hoc.at hu hwv
 have hroom:Room w2 wb 4:=h.room.only hoc hwv;refine⟨⟨⟨h1,h4,hroom.setCell _ _,hcell 1 _ (by omega) h.c1,hcell 2 _ (by omega) h.c2,World.cell?_setCell_same' _ _ _ (hroom 3 (by omega)).1⟩,h2.mono ?_,?_,fun u hu=>hcell 0 u (by omega) hu⟩,h3,h2⟩
 ·rintro b _ (e|e)
  ·exact .inl e
  ·exact .inr (.inl (.inr (.inr (.inr e))))
 ·intro b hb;rcases h5 b hb with hb|hb|hb
  ·exact .inl hb
  ·exact .inr (.inl (hS b hb))
  ·exact .inr (.inr hb)
theorem BkP.pushB{w W w2:World}{k:BkD}{wb:Nat}{v v':Value}{n:Nat}{S:Nat→Prop}(h:BkP w wb k)(hB:Below w.heap.size w W)(hg:W.grownBy w2 k.bv.ownBlock)(hown:w2.ownsRow 0 56 1 v' (k.bl.length+1) (k.bl++[v]))(hwh:v'.ownBlock=k.bv.ownBlock∨v'.ownBlock=some W.heap.size)
  (hn:n≤1000000000) (hv:Fill w v n (aZ n (lP k.bl.length))) (hfr:Free w v) (hsp:∀ (j:Nat) u b,k.bl[j]?=some u→some b=v.ownBlock→some b=u.ownBlock→j / 4=k.bl.length / 4) (hvs:∀ b,some b=v.ownBlock→b<w.heap.size∧¬k.rows b∧b≠wb) (hS:∀ b,some b=v.ownBlock→S b) :
  BkStep wb k {k with bv:=v',bl:=k.bl++[v]} S w (w2.setCell ⟨wb,1,none⟩ v')∧(∀ b,b<w.heap.size→¬k.rows b→¬({k with bv:=v',bl:=k.bl++[v]}:BkD).rows b)∧Only (fun b=>b=wb∨some b=k.bv.ownBlock) w (w2.setCell ⟨wb,1,none⟩ v'):=by
 obtain⟨h1,h2,h3,h4,h5⟩:=h.ok.pushB (wb:=wb) hB hg hown hwh hn hv hfr hsp hvs h.nw h.lt;have hoc:Only (fun b=>some b=k.bv.ownBlock) w w2:=(Only.new hB).trans (aF hg);have hwv:¬some wb=k.bv.ownBlock:=fun e=>h.nw (.inr (.inl e));have hcell:∀ (j:Nat) u,j≠1→w.cell? ⟨wb,j,none⟩=some u→(w2.setCell ⟨wb,1,none⟩ v').cell? ⟨wb,j,none⟩=some u:=by
  intro j u hj hu;rw[World.cell?_setCell_other _ _ _ _ (by simp;try omega)]
  exact hoc.at hu hwv
 have hroom:Room w2 wb 4:=h.room.only hoc hwv;refine⟨⟨⟨h1,h4,hroom.setCell _ _,World.cell?_setCell_same' _ _ _ (hroom 1 (by omega)).1,hcell 2 _ (by omega) h.c2,hcell 3 _ (by omega) h.c3⟩,h2.mono ?_,?_,fun u hu=>hcell 0 u (by omega) hu⟩,h3,h2⟩
 ·rintro b _ (e|e)
  ·exact .inl e
  ·exact .inr (.inl (.inr (.inl e)))
 ·intro b hb;rcases h5 b hb with hb|hb|hb
  ·exact .inl hb
  ·exact .inr (.inl (hS b hb))
  ·exact .inr (.inr hb)
theorem Pend.midB{w0 w W w2:World}{k0 k:BkD}{wb:Nat}{MK:List Value}{S:Nat→Prop}{todo:List (Value×Nat)}(h:Pend wb MK k0 k S w0 w todo)(hB:Below w.heap.size w W)(hg:W.grownBy w2 k.bv.ownBlock):w2.cell? ⟨wb,1,none⟩=some k.bv∧w2.frozen? ⟨wb,1,none⟩=false:=by
 have hoc:Only (fun b=>some b=k.bv.ownBlock) w w2:=(Only.new hB).trans (aF hg);have hwv:¬some wb=k.bv.ownBlock:=fun e=>h.st.p.nw (.inr (.inl e));exact⟨hoc.at h.st.p.c1 hwv,((h.st.p.room.only hoc hwv) 1 (by omega)).2⟩
theorem Pend.pushI{w0 w W w2:World}{k0 k:BkD}{wb:Nat}{MK:List Value}{v v':Value}{n:Nat}{S:Nat→Prop}{rest:List (Value×Nat)}(h:Pend wb MK k0 k S w0 w ((v,n)::rest))(hmk:lQ k.il.length=MK)(hB:Below w.heap.size w W)(hg:W.grownBy w2 k.iv.ownBlock)(hown:w2.ownsRow 0 24 1 v' (k.il.length+1) (k.il++[v]))(hwh:v'.ownBlock=k.iv.ownBlock∨v'.ownBlock=some W.heap.size) :
  Pend wb MK k0 {k with iv:=v',il:=k.il++[v]} S w0 (w2.setCell ⟨wb,2,none⟩ v') rest:=by
 obtain⟨hn,hv,hvs⟩:=h.todo v n List.mem_cons_self;rw[←hmk]at hv;obtain⟨h1,h2,h3⟩:=h.st.p.pushI (S:=S) hB hg hown hwh hn hv (fun b hb=>(hvs b hb).2) (fun b hb=>(hvs b hb).1);refine⟨h.st.trans h1,fun x m hx=>?_⟩;obtain⟨a1,a2,a3⟩:=h.todo x m (List.mem_cons_of_mem _ hx);have hz:=h3.size;refine⟨a1,a2.only h3 ?_,fun b hb=>?_⟩
 ·rintro b hb (e|e)
  ·exact(a3 b hb).2.2.2 e
  ·exact(a3 b hb).2.2.1 (.inr <| .inl e)
 ·obtain⟨q1,q2,q3,q4⟩:=a3 b hb;exact⟨q1,by omega,h2 b q2 q3,q4⟩
theorem Pend.midI{w0 w W w2:World}{k0 k:BkD}{wb:Nat}{MK:List Value}{S:Nat→Prop}{todo:List (Value×Nat)}(h:Pend wb MK k0 k S w0 w todo)(hB:Below w.heap.size w W)(hg:W.grownBy w2 k.iv.ownBlock):w2.cell? ⟨wb,2,none⟩=some k.iv∧w2.frozen? ⟨wb,2,none⟩=false:=by
 have hoc:Only (fun b=>some b=k.iv.ownBlock) w w2:=(Only.new hB).trans (aF hg);have hwv:¬some wb=k.iv.ownBlock:=fun e=>h.st.p.nw (.inr (.inr <| .inl e));exact⟨hoc.at h.st.p.c2 hwv,((h.st.p.room.only hoc hwv) 2 (by omega)).2⟩
theorem Pend.pushR{w0 w W w2:World}{k0 k:BkD}{wb:Nat}{MK:List Value}{v v':Value}{n:Nat}{S:Nat→Prop}{rest:List (Value×Nat)}(h:Pend wb MK k0 k S w0 w ((v,n)::rest))(hmk:lR k.rl.length=MK)(hB:Below w.heap.size w W)(hg:W.grownBy w2 k.rv.ownBlock)(hown:w2.ownsRow 0 39 1 v' (k.rl.length+1) (k.rl++[v]))(hwh:v'.ownBlock=k.rv.ownBlock∨v'.ownBlock=some W.heap.size) :
  Pend wb MK k0 {k with rv:=v',rl:=k.rl++[v]} S w0 (w2.setCell ⟨wb,3,none⟩ v') rest:=by
 obtain⟨hn,hv,hvs⟩:=h.todo v n List.mem_cons_self;rw[←hmk]at hv;obtain⟨h1,h2,h3⟩:=h.st.p.pushR (S:=S) hB hg hown hwh hn hv (fun b hb=>(hvs b hb).2) (fun b hb=>(hvs b hb).1);refine⟨h.st.trans h1,fun x m hx=>?_⟩;obtain⟨a1,a2,a3⟩:=h.todo x m (List.mem_cons_of_mem _ hx);have hz:=h3.size;refine⟨a1,a2.only h3 ?_,fun b hb=>?_⟩
 ·rintro b hb (e|e)
  ·exact(a3 b hb).2.2.2 e
  ·exact(a3 b hb).2.2.1 (.inr <| .inr e)
 ·obtain⟨q1,q2,q3,q4⟩:=a3 b hb;exact⟨q1,by omega,h2 b q2 q3,q4⟩
theorem Pend.midR{w0 w W w2:World}{k0 k:BkD}{wb:Nat}{MK:List Value}{S:Nat→Prop}{todo:List (Value×Nat)}(h:Pend wb MK k0 k S w0 w todo)(hB:Below w.heap.size w W)(hg:W.grownBy w2 k.rv.ownBlock):w2.cell? ⟨wb,3,none⟩=some k.rv∧w2.frozen? ⟨wb,3,none⟩=false:=by
 have hoc:Only (fun b=>some b=k.rv.ownBlock) w w2:=(Only.new hB).trans (aF hg);have hwv:¬some wb=k.rv.ownBlock:=fun e=>h.st.p.nw (.inr (.inr <| .inr e));exact⟨hoc.at h.st.p.c3 hwv,((h.st.p.room.only hoc hwv) 3 (by omega)).2⟩
theorem pR{wr w1 w2 w3 A1 A2 A3:World}{Z s1 s2 s3:Nat}{e:TypeId}{x:List Value}{l v1 v2 v3:Value}{j:Nat}(H0:wr.ownsRow Z e x.length l j (aZ j x))
  (hA1:Below wr.heap.size wr A1) (h1:w1.ownsRow Z e x.length v1 (j+1) (aZ (j+1) x)) (g1:A1.grownBy w1 l.ownBlock) (k1:w1.ownsRow Z e x.length l j (aZ j x)∧((v1.ownBlock=l.ownBlock∧l.ownBlock≠none)∨(Below s1 A1 w1∧v1.ownBlock=some s1))) (q1:A1.heap.size=s1)
  (hA2:Below w1.heap.size w1 A2) (h2:w2.ownsRow Z e x.length v2 (j+2) (aZ (j+2) x)) (g2:A2.grownBy w2 l.ownBlock) (k2:w2.ownsRow Z e x.length l j (aZ j x)∧((v2.ownBlock=l.ownBlock∧l.ownBlock≠none)∨(Below s2 A2 w2∧v2.ownBlock=some s2))) (q2:A2.heap.size=s2)
  (hA3:Below w2.heap.size w2 A3) (h3:w3.ownsRow Z e x.length v3 (j+3) (aZ (j+3) x)) (g3:A3.grownBy w3 l.ownBlock) (k3:w3.ownsRow Z e x.length l j (aZ j x)∧((v3.ownBlock=l.ownBlock∧l.ownBlock≠none)∨(Below s3 A3 w3∧v3.ownBlock=some s3))) (q3:A3.heap.size=s3) :
  Only (fun b=>some b=l.ownBlock) wr w3∧∀ v n,(v,n)∈[(l,j),(v1,j+1),(v2,j+2),(v3,j+3)]→Fill w3 v n (aZ n x)∧∀ b,some b=v.ownBlock→(some b=l.ownBlock∨wr.heap.size≤b)∧b<w3.heap.size:=by
 subst q1 q2 q3;have a1:=hA1.size;have a2:=hA2.size;have a3:=hA3.size;have b1:=g1.size;have b2:=g2.size;have b3:=g3.size;have ho:Only (fun b=>some b=l.ownBlock) wr w3:=((((((Only.new hA1).trans (aF g1)).trans (Only.new hA2)).trans (aF g2)).trans (Only.new hA3)).trans (aF g3));have f12:Fill w2 v1 (j+1) (aZ (j+1) x):=Fill.beside (d:=2) rfl ((Fill.of_owns h1).only (Only.new (S:=fun _=>False) hA2) (by simp)) (by omega) h2 g2 k2.2
 have f13:Fill w3 v1 (j+1) (aZ (j+1) x):=Fill.beside (d:=3) rfl (f12.only (Only.new (S:=fun _=>False) hA3) (by simp)) (by omega) h3 g3 k3.2
 have f23:Fill w3 v2 (j+2) (aZ (j+2) x):=Fill.beside (d:=3) rfl ((Fill.of_owns h2).only (Only.new (S:=fun _=>False) hA3) (by simp)) (by omega) h3 g3 k3.2
 refine⟨ho,?_⟩;intro v n hv;simp only[List.mem_cons,List.not_mem_nil,or_false,Prod.mk.injEq]at hv;rcases hv with⟨rfl,rfl⟩|⟨rfl,rfl⟩|⟨rfl,rfl⟩|⟨rfl,rfl⟩
 ·exact⟨Fill.of_owns k3.1,fun b hb=>⟨.inl hb,(k3.1.lt b hb.symm).2⟩⟩
 ·refine⟨f13,fun b hb=>⟨?_,by have:=(h1.lt b hb.symm).2;omega⟩⟩
  rcases k1.2 with⟨e,_⟩|⟨_,e⟩
  ·exact .inl (by rw[←e];exact hb)
  ·rw[e]at hb;have:=Option.some.inj hb;exact .inr (by omega)
 ·refine⟨f23,fun b hb=>⟨?_,by have:=(h2.lt b hb.symm).2;omega⟩⟩
  rcases k2.2 with⟨e,_⟩|⟨_,e⟩
  ·exact .inl (by rw[←e];exact hb)
  ·rw[e]at hb;have:=Option.some.inj hb;exact .inr (by omega)
 ·refine⟨Fill.of_owns h3,fun b hb=>⟨?_,(h3.lt b hb.symm).2⟩⟩;rcases k3.2 with⟨e,_⟩|⟨_,e⟩
  ·exact .inl (by rw[←e];exact hb)
  ·rw[e]at hb;have:=Option.some.inj hb;exact .inr (by omega)
theorem nL{w wr w3:World}{wb:Nat}{k:BkD}{x:List Value}{l v1 v2 v3:Value}{j:Nat}(h:BkP w wb k)(hj:j≤1000000)(hls:∀ b,some b=l.ownBlock→¬k.set b∧b≠wb)(ho:Only (fun b=>some b=l.ownBlock) w wr)
  (h3:Only (fun b=>some b=l.ownBlock) wr w3∧∀ v n,(v,n)∈[(l,j),(v1,j+1),(v2,j+2),(v3,j+3)]→Fill w3 v n (aZ n x)∧∀ b,some b=v.ownBlock→(some b=l.ownBlock∨wr.heap.size≤b)∧b<w3.heap.size) :
  Pend wb x k k (fun b=>some b=l.ownBlock∨w.heap.size≤b) w w3 [(l,j),(v1,j+1),(v2,j+2),(v3,j+3)]:=by
 have hz:=ho.size;have hz3:=h3.1.size;have hw3:Only (fun b=>some b=l.ownBlock) w w3:=ho.trans h3.1;have hwl:=h.lt;have hp:BkP w3 wb k:=h.only hw3 (fun b hb e=>(hls b e).1 hb) (fun e=>(hls wb e).2 rfl);refine⟨⟨hp,hw3.mono (fun b _ hb=>.inr (.inr (.inl hb))),fun b hb=>.inl hb,fun v hv=>hw3.at hv (fun e=>(hls wb e).2 rfl)⟩,?_⟩;intro v n hv;obtain⟨f,hb⟩:=h3.2 v n hv;refine⟨?_,f,fun b hbb=>?_⟩
 ·simp only[List.mem_cons,List.not_mem_nil,or_false,Prod.mk.injEq]at hv;omega
 ·obtain⟨q1,q2⟩:=hb b hbb;refine⟨?_,q2,?_,?_⟩
  ·rcases q1 with q1|q1
   ·exact .inl q1
   ·exact .inr (by omega)
  ·intro hc;rcases q1 with q1|q1
   ·exact(hls b q1).1 (.inr hc)
   ·have:=h.ok.lt b (.inr hc);omega
  ·rcases q1 with q1|q1
   ·exact(hls b q1).2
   ·omega
theorem BkStep.done{w w':World}{wb:Nat}{k k':BkD}{S:Nat→Prop}(h:BkStep wb k k' (fun b=>S b∨w.heap.size≤b) w w'):BkStep wb k k' S w w':=by
 refine⟨h.p,h.only.mono ?_,?_,h.c0⟩
 ·rintro b hb (e|e|e|e)
  ·exact .inl e
  ·exact .inr (.inl e)
  ·exact .inr (.inr e)
  ·omega
 ·intro b hb;rcases h.sub b hb with e|(e|e)|e
  ·exact .inl e
  ·exact .inr (.inl e)
  ·exact .inr (.inr e)
  ·exact .inr (.inr e)
theorem Tryz.infoBs:(Tryz.prog.info? 56).map (fun i=>(i.zero,i.size,i.bytes))=some (some (.slice none 0 0),1,24):=by kernel_rfl
theorem Tryz.infoIs:(Tryz.prog.info? 24).map (fun i=>(i.zero,i.size,i.bytes))=some (some (.slice none 0 0),1,24):=by kernel_rfl
theorem Tryz.infoRs:(Tryz.prog.info? 39).map (fun i=>(i.zero,i.size,i.bytes))=some (some (.slice none 0 0),1,24):=by kernel_rfl
theorem aBm(w:World)(a:Option Addr)(n c:Nat):(binOp .eql 39 (.slice a n c) (.slice none 0 0)).run Tryz.prog w=.ok (.bool a.isNone) w:=Lib.run_eql_slice_nil w _ _ a n c 0 0 Tryz.underlying39
attribute [local go_sem] jJ aBm
def r77:Rec:=⟨⟨0,77,0,0⟩,[]⟩
def SpareR(w:World)(g n:Nat)(k:Nat):Prop:=∀ i,n≤i→i<k→RcAt w g (i*5) r77 (.slice none 0 0)
theorem zS(W:World)(lo b off:Nat)(rs:List Rec)(T1 T2:TypeId)(z:Array Value)(hlo:lo≤W.heap.size)(hb:b<lo)(hK:RecsAtX lo W b off rs) :
  LentR lo W.heap.size ((W.alloc (.cells (madeCells z ((rs.length+8)*5)) T1)).alloc (.cells (madeCells #[.slice none 0 0] rs.length) T2)) W.heap.size (W.heap.size+1) b off 0 [] rs:=by
 have hb1:Below W.heap.size W (W.alloc (.cells (madeCells z ((rs.length+8)*5)) T1)):=(Below.refl _ _).alloc (Nat.le_refl _) _;have hb2:=(Below.refl (W.heap.size+1) (W.alloc (.cells (madeCells z ((rs.length+8)*5)) T1))).alloc (by simp) (.cells (madeCells #[.slice none 0 0] rs.length) T2)
 have hb3:=hb1.trans (hb2.mono (by omega))
 refine⟨rfl,Nat.zero_le _,by simp,(gL W _ _ T1).below hb2 (by omega),?_,?_,by simp,by simp,hlo,Nat.le_refl _,by omega,by simp;omega,by simp,by omega,hb⟩
 ·have:=gL (W.alloc (.cells (madeCells z ((rs.length+8)*5)) T1)) #[.slice none 0 0] rs.length T2
  simpa using this
 ·intro i r hr;obtain⟨v,h1,h2⟩:=hK i r hr;exact⟨v,h1.below hb3 (by omega),h2.below (hb3.mono hlo),by simp⟩
theorem LentR.spare{lo hi:Nat}{w:World}{g h b off:Nat}{ss:List (Option Addr×Nat)}{rs:List Rec}(x:LentR lo hi w g h b off rs.length ss rs)(k:Nat)(hk:rs.length≤k)(r:Rec)(v:Value):LentR lo hi (jA w g (k*5) r v) g h b off rs.length ss rs:=by
 have ho:=kN w g (k*5) r v;have hgh:=x.gh;have hlohi:=x.lohi;have hblo:=x.blo;have hglo:=x.glo;have hsz:=aDj w g (k*5) r v;refine⟨x.len,x.le,?_,gO x.room _ _ _ _,gO x.roomh _ _ _ _,?_,?_,x.apart,hlohi,hglo,x.hlo,by rw[hsz];exact x.ghi,by rw[hsz];exact x.hhi,hgh,hblo⟩
 ·intro i s q hs hq;have hi:i<rs.length:=(List.getElem?_eq_some_iff.1 hq).1;obtain⟨c,h2⟩:=x.row i s q hs hq;exact⟨⟨(cI _ _ _ _ _ _ _ (by omega)).trans c.c0,(cI _ _ _ _ _ _ _ (by omega)).trans c.c1,(cI _ _ _ _ _ _ _ (by omega)).trans c.c2,(cI _ _ _ _ _ _ _ (by omega)).trans c.c3,(cI _ _ _ _ _ _ _ (by omega)).trans c.c4⟩,(cI _ _ _ _ _ _ _ (by omega)).trans h2⟩
 ·intro i q hq;obtain⟨u,h1,h2,h3⟩:=x.orig i q hq;refine⟨u,h1.only ho (by omega),h2.below (ho.below (by have:=x.ghi;omega) (fun c hc=>by omega)),fun s hs=>?_⟩
  rcases h3 s hs with hL|⟨c,q1,q2,q3,q4,q5,q6,q7⟩
  ·exact .inl hL
  ·have hn:¬c=g:=(x.sep i s c hs q1).1;exact .inr ⟨c,q1,q2,q3,q4,by omega,q6.only ho hn,q7.only ho hn⟩
 ·intro i s c hs hc;rw[hsz];exact x.sep i s c hs hc
theorem SpareR.step{w:World}{g n k m:Nat}(h:SpareR w g n k)(hr:Room w g (m*5))(hk:k<m):SpareR (jA w g (k*5) r77 (.slice none 0 0)) g n (k+1):=by
 intro i h1 h2
 by_cases hi:i=k
 ·subst hi;exact aBl hr (i*5) (by omega) r77 _
 ·have c:=h i h1 (by omega)
  exact⟨(cI _ _ _ _ _ _ _ (by omega)).trans c.c0,(cI _ _ _ _ _ _ _ (by omega)).trans c.c1,(cI _ _ _ _ _ _ _ (by omega)).trans c.c2,(cI _ _ _ _ _ _ _ (by omega)).trans c.c3,(cI _ _ _ _ _ _ _ (by omega)).trans c.c4⟩
theorem rA(w:World):Calls Tryz.prog 37 #[.slice none 0 0] w
  fun e w'=>e=.returned (.tuple #[.slice none 0 0,.slice none 0 0])∧w'=w:=by
 go_enter Tryz.func37,Tryz.ntmps37
 go_wp2
 go_ret2;exact⟨rfl,rfl⟩
theorem rB{B:Nat}(ra:Addr)(b off cap:Nat)(rs:List Rec)(w:World)(hra:0<rs.length→ra=⟨b,off,none⟩)(hl:rs.length≤1048576)(hB:B≤w.heap.size)(hb:b<B)(hK:RecsAtX B w b off rs) :
  Calls Tryz.prog 37 #[.slice (some ra) rs.length cap] w
   fun e w'=>∃ g h ss,e=.returned (.tuple #[.slice (some ⟨g,0,none⟩) rs.length (rs.length+8),.slice (some ⟨h,0,none⟩) rs.length rs.length]) ∧
    Below w.heap.size w w'∧LentR B w.heap.size w' g h b off rs.length ss rs∧SpareR w' g rs.length (rs.length+8):=by
 have HS:=aB (zS w B b off rs 46 24 (Value.agg #[.int .i64 0,.int .i64 0,.int .i64 0,.int .i64 0,.slice none 0 0]).cells hB hb hK);have HK:=aB hK;clear hK
 go_enter Tryz.func37,Tryz.ntmps37
 go_wp2_with (first
  | (at_make;refine bL _ rfl (.tmp 15) (.tmp 15) 39 rfl 46 (.agg #[.int .i64 0,.int .i64 0,.int .i64 0,.int .i64 0,.slice none 0 0]) 5 56 Tryz.underlying39 Tryz.infoR _ _ _ _ (rs.length+8) rfl rfl (by simp) (by simp) (by omega) (by omega) ?_)
  | (at_make;refine bL _ rfl (.tmp 17) (.tmp 17) 30 rfl 24 (.slice none 0 0) 1 24 Tryz.underlying30 Tryz.infoIs _ _ _ _ rs.length rfl rfl (by simp) (by simp) (by omega) (by omega) ?_))
 go_loopg [7,8] (rs.length+3) (fun gk s7 _ wr=>∃ (k:Nat) (ss:List (Option Addr×Nat)),s7=.int .i64 k∧rs.length-k+2≤gk∧k≤rs.length∧Hid (Below w.heap.size w wr∧LentR B w.heap.size wr w.heap.size (w.heap.size+1) b off k ss rs))
 case atStart=>exact⟨0,[],rfl,by omega,by omega,((Below.refl _ _).alloc (Nat.le_refl _) _).alloc (by simp) _,HS.out⟩
 case round=>
  obtain⟨k,ss,rfl,hg,hk,hI⟩:=hrel;clear HS HK
  by_cases hlt:k<rs.length
  ·obtain rfl:=hra (by omega)
   have hkk:(k:Int)<(rs.length:Int):=by omega
   have d1:decide ((k:Int)<(rs.length:Int))=true:=by simp;omega
   have hw:IntKind.i64.wrap ((k:Int)+1)=(k:Int)+1:=by rw[IntKind.wrap_i64];omega
   obtain⟨v,hc,hv,_⟩:=hI.out.2.orig k rs[k] (by simp[hlt])
   have HLv:=aB (dZ v _ wr hv);have HC:=aB hc;obtain⟨va,vc,rfl⟩:=hv.form;have x4:=hc.c4;clear hc hv
   go_wp2_with fail
   refine HLv.out.mono ?_;rintro e w1 ⟨sa,sc,rfl,hb1,hLV⟩;have hz:=hI.out.2.hhi;have hbz:=hI.out.2.blo;have hz1:=hb1.size;have hL1:=hI.out.2.below hb1;have hC1:=HC.out.below hb1 (by omega)
   have y0:=hC1.c0;have y1:=hC1.c1;have y2:=hC1.c2;have y3:=hC1.c3;have y4:=hC1.c4;obtain⟨s0,f0⟩:=hL1.room (k*5) (by omega)
   obtain⟨s1,f1⟩:=hL1.room (k*5+1) (by omega)
   obtain⟨s2,f2⟩:=hL1.room (k*5+2) (by omega)
   obtain⟨s3,f3⟩:=hL1.room (k*5+3) (by omega)
   obtain⟨s4,f4⟩:=hL1.room (k*5+4) (by omega)
   obtain⟨s5,f5⟩:=hL1.roomh k hlt;obtain⟨u0,hu0⟩:=Option.isSome_iff_exists.1 s0;obtain⟨u1,hu1⟩:=Option.isSome_iff_exists.1 s1;obtain⟨u2,hu2⟩:=Option.isSome_iff_exists.1 s2;obtain⟨u3,hu3⟩:=Option.isSome_iff_exists.1 s3;obtain⟨u4,hu4⟩:=Option.isSome_iff_exists.1 s4;obtain⟨u5,hu5⟩:=Option.isSome_iff_exists.1 s5;have hst:=hL1.step hlt y4 hLV (by omega) (fun c hc=>by
    rcases hLV with⟨_,e,_,_⟩|⟨c',e,_,_,e1,e2,_,_⟩
    ·rw[e]at hc;cases hc
    ·rw[e]at hc;simp only[Option.some.injEq,Addr.mk.injEq,and_true]at hc;refine⟨by omega,by omega,fun i s hs hcc=>?_⟩
     have:=(hI.out.2.sep i s c hs hcc).2.2.2;omega) (.slice va rs[k].told.length vc)
   have hbb:Below w.heap.size w (((jA w1 w.heap.size (k*5) rs[k] (.slice va rs[k].told.length vc)).setCell ⟨w.heap.size,k*5+4,none⟩ (.slice sa rs[k].told.length sc)).setCell ⟨w.heap.size+1,k,none⟩ (.slice sa rs[k].told.length sc)):=by
    have h0:Below w.heap.size w (jA w1 w.heap.size (k*5) rs[k] (.slice va rs[k].told.length vc)):=(hI.out.1.trans (hb1.mono (by omega))).trans ((kN w1 w.heap.size (k*5) rs[k] (.slice va rs[k].told.length vc)).below (by omega) (fun c hc=>by omega))
    exact(h0.setCell (p:=⟨w.heap.size,k*5+4,none⟩) (Nat.le_refl _) _).setCell (p:=⟨w.heap.size+1,k,none⟩) (Nat.le_succ _) _
   have HSt:=aB (And.intro hbb hst);simp only[jA]at HSt;generalize rs[k]=r at y0 y1 y2 y3 y4 HSt;obtain⟨⟨rt,rn,rk,re⟩,tl⟩:=r;simp only at y0 y1 y2 y3 y4 HSt;clear hL1 hC1 s0 s1 s2 s3 s4 s5 hLV HLv HC x4 hst hI hbb
   go_wp2_with fail
   go_roundg (rs.length-(k+1)+2)
   case measure=>omega
   case rel=>exact⟨k+1,_,by go_num,Nat.le_refl _,by omega,HSt.out⟩
  ·have d1:decide ((k:Int)<(rs.length:Int))=false:=by simp;omega
   obtain rfl:k=rs.length:=by omega
   clear hlt
   go_wp2_with fail
   go_loopg [9] 11 (fun gk s9 wr=>∃ (k:Nat),s9=.int .i64 k∧rs.length+8-k+2≤gk∧rs.length≤k∧k≤rs.length+8∧Hid (Below w.heap.size w wr∧LentR B w.heap.size wr w.heap.size (w.heap.size+1) b off rs.length ss rs∧SpareR wr w.heap.size rs.length k))
   case atStart=>exact⟨rs.length,rfl,by omega,Nat.le_refl _,by omega,hI.out.1,hI.out.2,fun i h1 h2=>by omega⟩
   case round=>
    obtain⟨j,rfl,hgj,hj1,hj2,hJ⟩:=hrel;clear hI;rename World=>wx
    by_cases hlt:j<rs.length+8
    ·have hjj:(j:Int)<(rs.length:Int)+8:=by omega
     have d2:decide ((j:Int)<(rs.length:Int)+8)=true:=by simp;omega
     have hw:IntKind.i64.wrap ((j:Int)+1)=(j:Int)+1:=by rw[IntKind.wrap_i64];omega
     obtain⟨s0,f0⟩:=hJ.out.2.1.room (j*5) (by omega)
     obtain⟨s1,f1⟩:=hJ.out.2.1.room (j*5+1) (by omega)
     obtain⟨s2,f2⟩:=hJ.out.2.1.room (j*5+2) (by omega)
     obtain⟨s3,f3⟩:=hJ.out.2.1.room (j*5+3) (by omega)
     obtain⟨s4,f4⟩:=hJ.out.2.1.room (j*5+4) (by omega)
     obtain⟨u0,hu0⟩:=Option.isSome_iff_exists.1 s0;obtain⟨u1,hu1⟩:=Option.isSome_iff_exists.1 s1;obtain⟨u2,hu2⟩:=Option.isSome_iff_exists.1 s2;obtain⟨u3,hu3⟩:=Option.isSome_iff_exists.1 s3;obtain⟨u4,hu4⟩:=Option.isSome_iff_exists.1 s4;have HSt:Hid (Below w.heap.size w _∧LentR B w.heap.size _ w.heap.size (w.heap.size+1) b off rs.length ss rs∧SpareR _ w.heap.size rs.length (j+1)):=⟨hJ.out.1.trans ((kN wx w.heap.size (j*5) r77 (.slice none 0 0)).below (by have:=hJ.out.1.size;omega) (fun c hc=>by omega)),hJ.out.2.1.spare j hj1 r77 (.slice none 0 0),hJ.out.2.2.step hJ.out.2.1.room hlt⟩
     simp only[jA,r77]at HSt;clear s0 s1 s2 s3 s4 hJ
     go_wp2_with fail
     go_roundg (rs.length+8-(j+1)+2)
     case measure=>omega
     case rel=>exact⟨j+1,by go_num,Nat.le_refl _,by omega,by omega,HSt.out⟩
    ·have d2:decide ((j:Int)<(rs.length:Int)+8)=false:=by simp;omega
     obtain rfl:j=rs.length+8:=by omega
     clear hlt
     go_wp2_with fail
     go_ret2;exact⟨_,_,ss,rfl,hJ.out.1,hJ.out.2.1,hJ.out.2.2⟩
end Go.Proofs.YtndlmgocldckfaaGreat
