import Derived.Test.YtndlmgocldckfaaGreatG05
import Derived.Test.YtndlmgocldckfaaGreatG03
namespace Go.Proofs.YtndlmgocldckfaaGreat
open Go.RowKit
set_option linter.unusedVariables false
set_option linter.unusedSimpArgs false
set_option maxRecDepth 100000
set_option maxHeartbeats 4000000
theorem BkOK.pushB{w W w2:World}{k:BkD}{wb:Nat}{v v':Value}{n:Nat}(h:BkOK w k)(hB:Below w.heap.size w W)(hg:W.grownBy w2 k.bv.ownBlock)(hown:w2.ownsRow 0 56 1 v' (k.bl.length+1) (k.bl++[v]))(hwh:v'.ownBlock=k.bv.ownBlock∨v'.ownBlock=some W.heap.size)
  (hn:n≤1000000000) (hv:Fill w v n (aZ n (lP k.bl.length))) (hfr:Free w v) (hsp:∀ (j:Nat) u b,k.bl[j]?=some u→some b=v.ownBlock→some b=u.ownBlock→j / 4=k.bl.length / 4) (hvs:∀ b,some b=v.ownBlock→b<w.heap.size∧¬k.rows b∧b≠wb) (hwb:¬k.set wb) (hwl:wb<w.heap.size) :
  BkOK (w2.setCell ⟨wb,1,none⟩ v') {k with bv:=v',bl:=k.bl++[v]}∧Only (fun b=>b=wb∨some b=k.bv.ownBlock) w (w2.setCell ⟨wb,1,none⟩ v')∧(∀ b,b<w.heap.size→¬k.rows b→¬({k with bv:=v',bl:=k.bl++[v]}:BkD).rows b)∧¬({k with bv:=v',bl:=k.bl++[v]}:BkD).set wb ∧
  (∀ b,({k with bv:=v',bl:=k.bl++[v]}:BkD).set b→k.set b∨some b=v.ownBlock∨w.heap.size≤b):=by
 have hz:=hB.size;have hz2:=hg.size;have ho:Only (fun b=>some b=k.bv.ownBlock) w w2:=(Only.new hB).trans (aF hg);have hs:Only (·=wb) w2 (w2.setCell ⟨wb,1,none⟩ v'):=Only.setCell (S:=(·=wb)) (Only.refl _ _) rfl _
 have hoa:Only (fun b=>b=wb∨some b=k.bv.ownBlock) w (w2.setCell ⟨wb,1,none⟩ v'):=(ho.mono (fun b _ hb=>.inr hb)).trans (hs.mono (fun b _ hb=>.inl hb));have hsz:(w2.setCell ⟨wb,1,none⟩ v').heap.size=w2.heap.size:=by simp[World.setCell]
 have hmv:∀ b,b<w.heap.size→some b=v'.ownBlock→some b=k.bv.ownBlock:=by
  intro b hb e;rcases hwh with e'|e'
  ·rw[←e'];exact e
  ·rw[e']at e;have:=Option.some.inj e;omega
 have hrows:∀ b,b<w.heap.size→¬k.rows b→¬({k with bv:=v',bl:=k.bl++[v]}:BkD).rows b:=by
  intro b hb hnr hc;refine hnr ?_;rcases hc with hc|hc|hc
  ·exact .inl (hmv b hb hc)
  ·exact .inr (.inl hc)
  ·exact .inr (.inr hc)
 have hents:∀ b,({k with bv:=v',bl:=k.bl++[v]}:BkD).ents b→k.ents b∨some b=v.ownBlock:=by
  rintro b ⟨x,hx,hb⟩;rcases hx with hx|hx|hx
  ·rcases List.mem_append.1 hx with hx|hx
   ·exact .inl ⟨x,.inl hx,hb⟩
   ·simp at hx;subst hx;exact .inr hb
  ·exact .inl ⟨x,.inr (.inl hx),hb⟩
  ·exact .inl ⟨x,.inr (.inr hx),hb⟩
 have hset:∀ b,({k with bv:=v',bl:=k.bl++[v]}:BkD).set b→k.set b∨some b=v.ownBlock∨w.heap.size≤b:=by
  rintro b (hb|hb)
  ·rcases hents b hb with hb|hb
   ·exact .inl (.inl hb)
   ·exact .inr (.inl hb)
  ·by_cases hl:b<w.heap.size
   ·by_cases hr:k.rows b
    ·exact .inl (.inr hr)
    ·exact absurd hb (hrows b hl hr)
   ·exact .inr (.inr (by omega))
 have hnw:∀ b,k.set b→b≠wb:=fun b hb e=>hwb (e▸hb);have hvw:v'.ownBlock≠some wb:=by
  intro e;have:=hmv wb hwl e.symm;exact hwb (.inr (.inl this))
 have hkeep:∀ b,k.set b→some b≠k.bv.ownBlock→¬(b=wb∨some b=k.bv.ownBlock):=by
  rintro b hb hne (e|e)
  ·exact hnw b hb e
  ·exact hne e
 have hent:∀ b,k.ents b→some b≠k.bv.ownBlock:=fun b hb e=>h.sep b hb (.inl e);refine⟨⟨?_,aN h.iown hoa (fun b hb=>hkeep b (.inr (.inr (.inl hb))) (fun e=>h.bi b e hb)),aN h.rown hoa (fun b hb=>hkeep b (.inr (.inr (.inr hb))) (fun e=>h.br b e hb)),?_,?_,?_,?_,?_,?_,?_,?_,?_,?_⟩,hoa,hrows,?_,hset⟩
 ·rw[List.length_append];exact aN hown hs (fun b hb e=>hvw (by rw[←hb,e]))
 ·intro i x hx
  by_cases hi:i<k.bl.length
  ·rw[List.getElem?_append_left hi]at hx;obtain⟨n,hl,hf⟩:=h.bent i x hx;exact⟨n,hl,hf.only hoa (fun b hb=>hkeep b (.inl ⟨x,.inl (List.mem_of_getElem? hx),hb⟩) (hent b ⟨x,.inl (List.mem_of_getElem? hx),hb⟩))⟩
  ·rw[List.getElem?_append_right (by omega)]at hx
   have hi0:i-k.bl.length=0:=by
    have:=(List.getElem?_eq_some_iff.1 hx).1;simp at this;omega
   rw[hi0]at hx;simp at hx;subst hx;have hie:i=k.bl.length:=by omega
   subst hie;refine⟨n,hn,hv.only hoa ?_⟩;rintro b hb (e|e)
   ·exact(hvs b hb).2.2 e
   ·exact(hvs b hb).2.1 (.inl e)
 ·intro i x hx;obtain⟨n,hl,hf⟩:=h.ient i x hx;exact⟨n,hl,hf.only hoa (fun b hb=>hkeep b (.inl ⟨x,.inr (.inl (List.mem_of_getElem? hx)),hb⟩) (hent b ⟨x,.inr (.inl (List.mem_of_getElem? hx)),hb⟩))⟩
 ·intro i x hx;obtain⟨n,hl,hf⟩:=h.rent i x hx;exact⟨n,hl,hf.only hoa (fun b hb=>hkeep b (.inl ⟨x,.inr (.inr (List.mem_of_getElem? hx)),hb⟩) (hent b ⟨x,.inr (.inr (List.mem_of_getElem? hx)),hb⟩))⟩
 ·intro b hb;rw[hsz];rcases hents b hb with hb|hb
  ·have:=h.elt b hb;omega
  ·have:=(hvs b hb).1;omega
 ·intro b hb;rcases hents b hb with hb|hb
  ·exact hrows b (h.elt b hb) (h.sep b hb)
  ·exact hrows b (hvs b hb).1 (hvs b hb).2.1
 ·intro b hb hc;have hl:=(h.iown.lt b hc.symm).2;exact h.bi b (hmv b hl hb) hc
 ·intro b hb hc;have hl:=(h.rown.lt b hc.symm).2;exact h.br b (hmv b hl hb) hc
 ·intro b hb hc;exact h.ir b hb hc
 ·intro x hx;rcases List.mem_append.1 hx with hx|hx
  ·exact(h.free x hx).only hoa (fun b hb=>hkeep b (.inl ⟨x,.inl hx,hb⟩) (hent b ⟨x,.inl hx,hb⟩))
  ·simp at hx;subst hx;refine hfr.only hoa ?_;rintro b hb (e|e)
   ·exact(hvs b hb).2.2 e
   ·exact(hvs b hb).2.1 (.inl e)
 ·have hlast:∀ (i:Nat) x,(k.bl++[v])[i]?=some x→(i<k.bl.length∧k.bl[i]?=some x)∨(i=k.bl.length∧x=v):=by
   intro i x hx
   by_cases hi:i<k.bl.length
   ·rw[List.getElem?_append_left hi]at hx;exact .inl ⟨hi,hx⟩
   ·rw[List.getElem?_append_right (by omega)]at hx
    have hi0:i-k.bl.length=0:=by
     have:=(List.getElem?_eq_some_iff.1 hx).1;simp at this;omega
    rw[hi0]at hx;simp at hx;exact .inr ⟨by omega,hx.symm⟩
  intro i j x y b hx hy hb1 hb2;rcases hlast i x hx with⟨_,hx1⟩|⟨hx1,rfl⟩<;>rcases hlast j y hy with⟨_,hy1⟩|⟨hy1,rfl⟩
  ·exact h.bsep i j x y b hx1 hy1 hb1 hb2
  ·rw[hy1];exact hsp i x b hx1 hb2 hb1
  ·rw[hx1];exact(hsp j y b hy1 hb1 hb2).symm
  ·rw[hx1,hy1]
 ·intro hc;rcases hset wb hc with hc|hc|hc
  ·exact hwb hc
  ·exact(hvs wb hc).2.2 rfl
  ·omega
theorem BkOK.pushI{w W w2:World}{k:BkD}{wb:Nat}{v v':Value}{n:Nat}(h:BkOK w k)(hB:Below w.heap.size w W)(hg:W.grownBy w2 k.iv.ownBlock)(hown:w2.ownsRow 0 24 1 v' (k.il.length+1) (k.il++[v]))(hwh:v'.ownBlock=k.iv.ownBlock∨v'.ownBlock=some W.heap.size)
  (hn:n≤1000000000) (hv:Fill w v n (aZ n (lQ k.il.length))) (hvs:∀ b,some b=v.ownBlock→b<w.heap.size∧¬k.rows b∧b≠wb) (hwb:¬k.set wb) (hwl:wb<w.heap.size) :
  BkOK (w2.setCell ⟨wb,2,none⟩ v') {k with iv:=v',il:=k.il++[v]}∧Only (fun b=>b=wb∨some b=k.iv.ownBlock) w (w2.setCell ⟨wb,2,none⟩ v')∧(∀ b,b<w.heap.size→¬k.rows b→¬({k with iv:=v',il:=k.il++[v]}:BkD).rows b)∧¬({k with iv:=v',il:=k.il++[v]}:BkD).set wb ∧
  (∀ b,({k with iv:=v',il:=k.il++[v]}:BkD).set b→k.set b∨some b=v.ownBlock∨w.heap.size≤b):=by
 have hz:=hB.size;have hz2:=hg.size;have ho:Only (fun b=>some b=k.iv.ownBlock) w w2:=(Only.new hB).trans (aF hg);have hs:Only (·=wb) w2 (w2.setCell ⟨wb,2,none⟩ v'):=Only.setCell (S:=(·=wb)) (Only.refl _ _) rfl _
 have hoa:Only (fun b=>b=wb∨some b=k.iv.ownBlock) w (w2.setCell ⟨wb,2,none⟩ v'):=(ho.mono (fun b _ hb=>.inr hb)).trans (hs.mono (fun b _ hb=>.inl hb));have hsz:(w2.setCell ⟨wb,2,none⟩ v').heap.size=w2.heap.size:=by simp[World.setCell]
 have hmv:∀ b,b<w.heap.size→some b=v'.ownBlock→some b=k.iv.ownBlock:=by
  intro b hb e;rcases hwh with e'|e'
  ·rw[←e'];exact e
  ·rw[e']at e;have:=Option.some.inj e;omega
 have hrows:∀ b,b<w.heap.size→¬k.rows b→¬({k with iv:=v',il:=k.il++[v]}:BkD).rows b:=by
  intro b hb hnr hc;refine hnr ?_;rcases hc with hc|hc|hc
  ·exact .inl hc
  ·exact .inr (.inl (hmv b hb hc))
  ·exact .inr (.inr hc)
 have hents:∀ b,({k with iv:=v',il:=k.il++[v]}:BkD).ents b→k.ents b∨some b=v.ownBlock:=by
  rintro b ⟨x,hx,hb⟩;rcases hx with hx|hx|hx
  ·exact .inl ⟨x,.inl hx,hb⟩
  ·rcases List.mem_append.1 hx with hx|hx
   ·exact .inl ⟨x,.inr (.inl hx),hb⟩
   ·simp at hx;subst hx;exact .inr hb
  ·exact .inl ⟨x,.inr (.inr hx),hb⟩
 have hset:∀ b,({k with iv:=v',il:=k.il++[v]}:BkD).set b→k.set b∨some b=v.ownBlock∨w.heap.size≤b:=by
  rintro b (hb|hb)
  ·rcases hents b hb with hb|hb
   ·exact .inl (.inl hb)
   ·exact .inr (.inl hb)
  ·by_cases hl:b<w.heap.size
   ·by_cases hr:k.rows b
    ·exact .inl (.inr hr)
    ·exact absurd hb (hrows b hl hr)
   ·exact .inr (.inr (by omega))
 have hnw:∀ b,k.set b→b≠wb:=fun b hb e=>hwb (e▸hb);have hvw:v'.ownBlock≠some wb:=by
  intro e;have:=hmv wb hwl e.symm;exact hwb (.inr (.inr <| .inl this))
 have hkeep:∀ b,k.set b→some b≠k.iv.ownBlock→¬(b=wb∨some b=k.iv.ownBlock):=by
  rintro b hb hne (e|e)
  ·exact hnw b hb e
  ·exact hne e
 have hent:∀ b,k.ents b→some b≠k.iv.ownBlock:=fun b hb e=>h.sep b hb (.inr <| .inl e);refine⟨⟨aN h.bown hoa (fun b hb=>hkeep b (.inr (.inl hb)) (h.bi b hb)),?_,aN h.rown hoa (fun b hb=>hkeep b (.inr (.inr (.inr hb))) (fun e=>h.ir b e hb)),?_,?_,?_,?_,?_,?_,?_,?_,fun v hv=>(h.free v hv).only hoa (fun b hb=>hkeep b (.inl ⟨v,.inl hv,hb⟩) (hent b ⟨v,.inl hv,hb⟩)),h.bsep⟩,hoa,hrows,?_,hset⟩
 ·rw[List.length_append];exact aN hown hs (fun b hb e=>hvw (by rw[←hb,e]))
 ·intro i x hx;obtain⟨n,hl,hf⟩:=h.bent i x hx;exact⟨n,hl,hf.only hoa (fun b hb=>hkeep b (.inl ⟨x,.inl (List.mem_of_getElem? hx),hb⟩) (hent b ⟨x,.inl (List.mem_of_getElem? hx),hb⟩))⟩
 ·intro i x hx
  by_cases hi:i<k.il.length
  ·rw[List.getElem?_append_left hi]at hx;obtain⟨n,hl,hf⟩:=h.ient i x hx;exact⟨n,hl,hf.only hoa (fun b hb=>hkeep b (.inl ⟨x,.inr (.inl (List.mem_of_getElem? hx)),hb⟩) (hent b ⟨x,.inr (.inl (List.mem_of_getElem? hx)),hb⟩))⟩
  ·rw[List.getElem?_append_right (by omega)]at hx
   have hi0:i-k.il.length=0:=by
    have:=(List.getElem?_eq_some_iff.1 hx).1;simp at this;omega
   rw[hi0]at hx;simp at hx;subst hx;have hie:i=k.il.length:=by omega
   subst hie;refine⟨n,hn,hv.only hoa ?_⟩;rintro b hb (e|e)
   ·exact(hvs b hb).2.2 e
   ·exact(hvs b hb).2.1 (.inr <| .inl e)
 ·intro i x hx;obtain⟨n,hl,hf⟩:=h.rent i x hx;exact⟨n,hl,hf.only hoa (fun b hb=>hkeep b (.inl ⟨x,.inr (.inr (List.mem_of_getElem? hx)),hb⟩) (hent b ⟨x,.inr (.inr (List.mem_of_getElem? hx)),hb⟩))⟩
 ·intro b hb;rw[hsz];rcases hents b hb with hb|hb
  ·have:=h.elt b hb;omega
  ·have:=(hvs b hb).1;omega
 ·intro b hb;rcases hents b hb with hb|hb
  ·exact hrows b (h.elt b hb) (h.sep b hb)
  ·exact hrows b (hvs b hb).1 (hvs b hb).2.1
 ·intro b hb hc;have hl:=(h.bown.lt b hb.symm).2;exact h.bi b hb (hmv b hl hc)
 ·intro b hb hc;exact h.br b hb hc
 ·intro b hb hc;have hl:=(h.rown.lt b hc.symm).2;exact h.ir b (hmv b hl hb) hc
 ·intro hc;rcases hset wb hc with hc|hc|hc
  ·exact hwb hc
  ·exact(hvs wb hc).2.2 rfl
  ·omega
theorem BkOK.pushR{w W w2:World}{k:BkD}{wb:Nat}{v v':Value}{n:Nat}(h:BkOK w k)(hB:Below w.heap.size w W)(hg:W.grownBy w2 k.rv.ownBlock)(hown:w2.ownsRow 0 39 1 v' (k.rl.length+1) (k.rl++[v]))(hwh:v'.ownBlock=k.rv.ownBlock∨v'.ownBlock=some W.heap.size)
  (hn:n≤1000000000) (hv:Fill w v n (aZ n (lR k.rl.length))) (hvs:∀ b,some b=v.ownBlock→b<w.heap.size∧¬k.rows b∧b≠wb) (hwb:¬k.set wb) (hwl:wb<w.heap.size) :
  BkOK (w2.setCell ⟨wb,3,none⟩ v') {k with rv:=v',rl:=k.rl++[v]}∧Only (fun b=>b=wb∨some b=k.rv.ownBlock) w (w2.setCell ⟨wb,3,none⟩ v')∧(∀ b,b<w.heap.size→¬k.rows b→¬({k with rv:=v',rl:=k.rl++[v]}:BkD).rows b)∧¬({k with rv:=v',rl:=k.rl++[v]}:BkD).set wb ∧
  (∀ b,({k with rv:=v',rl:=k.rl++[v]}:BkD).set b→k.set b∨some b=v.ownBlock∨w.heap.size≤b):=by
 have hz:=hB.size;have hz2:=hg.size;have ho:Only (fun b=>some b=k.rv.ownBlock) w w2:=(Only.new hB).trans (aF hg);have hs:Only (·=wb) w2 (w2.setCell ⟨wb,3,none⟩ v'):=Only.setCell (S:=(·=wb)) (Only.refl _ _) rfl _
 have hoa:Only (fun b=>b=wb∨some b=k.rv.ownBlock) w (w2.setCell ⟨wb,3,none⟩ v'):=(ho.mono (fun b _ hb=>.inr hb)).trans (hs.mono (fun b _ hb=>.inl hb));have hsz:(w2.setCell ⟨wb,3,none⟩ v').heap.size=w2.heap.size:=by simp[World.setCell]
 have hmv:∀ b,b<w.heap.size→some b=v'.ownBlock→some b=k.rv.ownBlock:=by
  intro b hb e;rcases hwh with e'|e'
  ·rw[←e'];exact e
  ·rw[e']at e;have:=Option.some.inj e;omega
 have hrows:∀ b,b<w.heap.size→¬k.rows b→¬({k with rv:=v',rl:=k.rl++[v]}:BkD).rows b:=by
  intro b hb hnr hc;refine hnr ?_;rcases hc with hc|hc|hc
  ·exact .inl hc
  ·exact .inr (.inl hc)
  ·exact .inr (.inr (hmv b hb hc))
 have hents:∀ b,({k with rv:=v',rl:=k.rl++[v]}:BkD).ents b→k.ents b∨some b=v.ownBlock:=by
  rintro b ⟨x,hx,hb⟩;rcases hx with hx|hx|hx
  ·exact .inl ⟨x,.inl hx,hb⟩
  ·exact .inl ⟨x,.inr (.inl hx),hb⟩
  ·rcases List.mem_append.1 hx with hx|hx
   ·exact .inl ⟨x,.inr (.inr hx),hb⟩
   ·simp at hx;subst hx;exact .inr hb
 have hset:∀ b,({k with rv:=v',rl:=k.rl++[v]}:BkD).set b→k.set b∨some b=v.ownBlock∨w.heap.size≤b:=by
  rintro b (hb|hb)
  ·rcases hents b hb with hb|hb
   ·exact .inl (.inl hb)
   ·exact .inr (.inl hb)
  ·by_cases hl:b<w.heap.size
   ·by_cases hr:k.rows b
    ·exact .inl (.inr hr)
    ·exact absurd hb (hrows b hl hr)
   ·exact .inr (.inr (by omega))
 have hnw:∀ b,k.set b→b≠wb:=fun b hb e=>hwb (e▸hb);have hvw:v'.ownBlock≠some wb:=by
  intro e;have:=hmv wb hwl e.symm;exact hwb (.inr (.inr <| .inr this))
 have hkeep:∀ b,k.set b→some b≠k.rv.ownBlock→¬(b=wb∨some b=k.rv.ownBlock):=by
  rintro b hb hne (e|e)
  ·exact hnw b hb e
  ·exact hne e
 have hent:∀ b,k.ents b→some b≠k.rv.ownBlock:=fun b hb e=>h.sep b hb (.inr <| .inr e);refine⟨⟨aN h.bown hoa (fun b hb=>hkeep b (.inr (.inl hb)) (h.br b hb)),aN h.iown hoa (fun b hb=>hkeep b (.inr (.inr (.inl hb))) (h.ir b hb)),?_,?_,?_,?_,?_,?_,?_,?_,?_,fun v hv=>(h.free v hv).only hoa (fun b hb=>hkeep b (.inl ⟨v,.inl hv,hb⟩) (hent b ⟨v,.inl hv,hb⟩)),h.bsep⟩,hoa,hrows,?_,hset⟩
 ·rw[List.length_append];exact aN hown hs (fun b hb e=>hvw (by rw[←hb,e]))
 ·intro i x hx;obtain⟨n,hl,hf⟩:=h.bent i x hx;exact⟨n,hl,hf.only hoa (fun b hb=>hkeep b (.inl ⟨x,.inl (List.mem_of_getElem? hx),hb⟩) (hent b ⟨x,.inl (List.mem_of_getElem? hx),hb⟩))⟩
 ·intro i x hx;obtain⟨n,hl,hf⟩:=h.ient i x hx;exact⟨n,hl,hf.only hoa (fun b hb=>hkeep b (.inl ⟨x,.inr (.inl (List.mem_of_getElem? hx)),hb⟩) (hent b ⟨x,.inr (.inl (List.mem_of_getElem? hx)),hb⟩))⟩
 ·intro i x hx
  by_cases hi:i<k.rl.length
  ·rw[List.getElem?_append_left hi]at hx;obtain⟨n,hl,hf⟩:=h.rent i x hx;exact⟨n,hl,hf.only hoa (fun b hb=>hkeep b (.inl ⟨x,.inr (.inr (List.mem_of_getElem? hx)),hb⟩) (hent b ⟨x,.inr (.inr (List.mem_of_getElem? hx)),hb⟩))⟩
  ·rw[List.getElem?_append_right (by omega)]at hx
   have hi0:i-k.rl.length=0:=by
    have:=(List.getElem?_eq_some_iff.1 hx).1;simp at this;omega
   rw[hi0]at hx;simp at hx;subst hx;have hie:i=k.rl.length:=by omega
   subst hie;refine⟨n,hn,hv.only hoa ?_⟩;rintro b hb (e|e)
   ·exact(hvs b hb).2.2 e
   ·exact(hvs b hb).2.1 (.inr <| .inr e)
 ·intro b hb;rw[hsz];rcases hents b hb with hb|hb
  ·have:=h.elt b hb;omega
  ·have:=(hvs b hb).1;omega
 ·intro b hb;rcases hents b hb with hb|hb
  ·exact hrows b (h.elt b hb) (h.sep b hb)
  ·exact hrows b (hvs b hb).1 (hvs b hb).2.1
 ·intro b hb hc;exact h.bi b hb hc
 ·intro b hb hc;have hl:=(h.bown.lt b hb.symm).2;exact h.br b hb (hmv b hl hc)
 ·intro b hb hc;have hl:=(h.iown.lt b hb.symm).2;exact h.ir b hb (hmv b hl hc)
 ·intro hc;rcases hset wb hc with hc|hc|hc
  ·exact hwb hc
  ·exact(hvs wb hc).2.2 rfl
  ·omega
theorem aM{w:World}{base:Nat}{e:TypeId}{size:Nat}{v:Value}{n:Nat}{xs:List Value}(h:w.ownsRow base e size v n xs):∃ sa sc,v=.slice sa n sc:=by
 obtain⟨_,⟨rfl,rfl⟩|⟨g,cap,cur,rfl,_⟩⟩:=h
 ·exact⟨_,_,rfl⟩
 ·exact⟨_,_,rfl⟩
theorem bD(w:World)(T:TypeId)(xs:List Value):RowAt (w.alloc (.cells xs.toArray T)) w.heap.size 0 xs:=by
 intro j u hu;rw[Nat.zero_add,cell_of_row _ w.heap.size j xs.toArray T (0,0) (heap_alloc_new w _)]
 simpa using hu
theorem aE(w:World)(o:Obj):Below w.heap.size w (w.alloc o):=(Below.refl _ _).alloc (Nat.le_refl _) _
theorem nC{W:World}{a b:Nat}{xs:List Value}(h:a=b)(hr:RowAt W a 0 xs):RowAt W b 0 xs:=h▸hr
theorem fZ{w:World}{base:Nat}{e:TypeId}{size:Nat}{v v':Value}{n:Nat}{xs:List Value}(he:v=v')(h:w.ownsRow base e size v n xs):w.ownsRow base e size v' n xs:=he▸h
end Go.Proofs.YtndlmgocldckfaaGreat
