import Derived.Test.YtndlmgocldckfaaGreatQaZ
import Derived.RegionTactic
import Derived.Carry
import Derived.Laws.ResultCell
namespace Go.Proofs.YtndlmgocldckfaaGreat
open Go.RowKit
set_option linter.unusedVariables false
set_option linter.unusedSimpArgs false

/-- A queue of the program in which these events wait. -/
structure QueP (base : Nat) (w : World) (qb mb : Nat) (ov : Value) (q : List Ev) : Prop where
  c0 : w.cell? ⟨qb, 0, none⟩ = some (.map (some mb))
  c1 : w.cell? ⟨qb, 1, none⟩ = some ov
  thaw : w.frozen? ⟨qb, 1, none⟩ = false
  map : ∃ es clock, w.heap[mb]? = some (.map es clock) ∧ MapQ es clock q
  ord : ∃ f, OrdV base w ov q.length f ∧ HeapF f q.length ∧ MomsOf f q.length q
  qm : qb ≠ mb
  qo : some qb ≠ ov.ownBlock
  mo : some mb ≠ ov.ownBlock
  sorted : Sorted q
  distinct : Distinct q
  len : q.length ≤ 16

/-- The blocks that a queue writes into. -/
def QSet (qb mb : Nat) (ov : Value) (b : Nat) : Prop := b = qb ∨ b = mb ∨ some b = ov.ownBlock

theorem QueP.only {base : Nat} {w w' : World} {qb mb : Nat} {ov : Value} {q : List Ev} {U : Nat → Prop} (h : QueP base w qb mb ov q) (ho : Only U w w') (hU : ∀ b, QSet qb mb ov b → ¬ U b) : QueP base w' qb mb ov q := by
  have hq := hU qb (.inl rfl)
  have hm := hU mb (.inr (.inl rfl))
  have hlt := lt_of_cell h.c1
  refine ⟨ho.at h.c0 hq, ho.at h.c1 hq, ?_, ?_, ?_, h.qm, h.qo, h.mo, h.sorted, h.distinct, h.len⟩
  · rw [World.frozen?_of_block (w := w) (a := ⟨qb, 1, none⟩) (ho.block qb hlt hq)]; exact h.thaw
  · obtain ⟨es, clock, h1, h2⟩ := h.map
    exact ⟨es, clock, (ho.block mb (Array.getElem?_eq_some_iff.1 h1).1 hm).trans h1, h2⟩
  · obtain ⟨f, h1, h2⟩ := h.ord
    exact ⟨f, h1.only ho (fun b hb => hU b (.inr (.inr hb))), h2⟩
theorem QueP.below {base : Nat} {w w' : World} {qb mb : Nat} {ov : Value} {q : List Ev} (h : QueP base w qb mb ov q) (hb : Below w.heap.size w w') : QueP base w' qb mb ov q := h.only (Only.new (S := fun _ => False) hb) (by simp)
theorem QueP.lt {base : Nat} {w : World} {qb mb : Nat} {ov : Value} {q : List Ev} (h : QueP base w qb mb ov q) : ∀ b, QSet qb mb ov b → b < w.heap.size := by
  rintro b (rfl | rfl | hb)
  · exact lt_of_cell h.c0
  · obtain ⟨es, clock, h1, _⟩ := h.map; exact (Array.getElem?_eq_some_iff.1 h1).1
  · obtain ⟨f, h1, _⟩ := h.ord; exact (h1.lt b hb).2

set_option maxHeartbeats 400000 in
theorem qNew_any (w : World) : Calls Tryz.prog 62 #[] w
    fun e w' => e = .returned (.pointer (some ⟨w.heap.size + 1, 0, none⟩)) ∧ w' = (w.alloc (.map #[] 0)).alloc (.cells #[.map (some w.heap.size), .slice none 0 0] 156) := by
  have hm : ∀ W : World, (Instr.makeMap 152 none).run Tryz.prog W = .ok (.map (some W.heap.size)) (W.alloc (.map #[] 0)) := fun W => run_makeMap _ W
  go_enter Tryz.func62, Tryz.ntmps62
  go_wp2
  go_ret
  exact ⟨rfl, rfl⟩
theorem queP_new (base : Nat) (w : World) (T : Nat) : QueP base ((w.alloc (.map #[] 0)).alloc (.cells #[.map (some w.heap.size), .slice none 0 0] T)) (w.heap.size + 1) w.heap.size (.slice none 0 0) [] := by
  refine ⟨?_, ?_, ?_, ⟨#[], 0, ?_, MapQ.empty 0⟩, ⟨fun _ => ⟨0, 0⟩, .inl ⟨rfl, rfl⟩, by intro j h1 h2; simp at h2, ⟨rfl, by intro i j hi; simp at hi, by intro i hi; simp at hi, by intro e he; simp at he⟩⟩, by omega, by simp [Value.ownBlock], by simp [Value.ownBlock], List.Pairwise.nil, List.Pairwise.nil, by simp⟩
  · simp [go_sem]
  · simp [go_sem]
  · exact World.frozen?_alloc_at _ _ _ _ (by simp)
  · rw [Below.heap_alloc _ _ _ (by simp)]; exact heap_new _ _

set_option maxRecDepth 100000 in
set_option maxHeartbeats 400000 in
theorem qLen_any {base : Nat} (qb mb : Nat) (ov : Value) (q : List Ev) (w : World) (h : QueP base w qb mb ov q) :
    Calls Tryz.prog 93 #[.pointer (some ⟨qb, 0, none⟩)] w fun e w' => e = .returned (.int .i64 q.length) ∧ w' = w := by
  obtain ⟨es, clock, hm, hq⟩ := h.map
  have h0 := h.c0
  have hs := hq.size
  have hrun : (Builtin.len_ #[152] 3 #[.map (some mb)]).run Tryz.prog w = .ok (.int .i64 q.length) w := by
    simp [Builtin.len_, run_underlying Tryz.underlying152, MapKept.run_getObj_map hm, goInt, hs]
  clear hm hq hs h
  go_enter Tryz.func93, Tryz.ntmps93
  go_wp2
  go_ret
  exact ⟨rfl, rfl⟩

set_option maxHeartbeats 400000 in
theorem qFull_any {base : Nat} (qb mb : Nat) (ov : Value) (q : List Ev) (w : World) (h : QueP base w qb mb ov q) :
    Calls Tryz.prog 113 #[.pointer (some ⟨qb, 0, none⟩)] w fun e w' => e = .returned (.bool (decide (16 ≤ (q.length : Int)))) ∧ w' = w := by
  go_enter Tryz.func113, Tryz.ntmps113
  go_wp2_with (go_at_call 93; refine (qLen_any qb mb ov q _ h).mono ?_; rintro e w' ⟨rfl, rfl⟩)
  go_ret
  exact ⟨rfl, rfl⟩

set_option maxHeartbeats 400000 in
theorem qFirst_none {base : Nat} (qb mb : Nat) (ov : Value) (w : World) (h : QueP base w qb mb ov []) :
    Calls Tryz.prog 126 #[.pointer (some ⟨qb, 0, none⟩)] w fun e w' => e = .returned (.tuple #[.agg #[.int .i64 0, .int .i64 0, .int .i64 0, .int .i64 0], .bool false]) ∧ Below w.heap.size w w' := by
  have h0 := h.c0
  have h1 := h.c1
  obtain ⟨f, ho, _, _⟩ := h.ord
  obtain ⟨sa, sc, rfl⟩ := ho.form
  have hqb := lt_of_cell h0
  clear h ho
  simp only [List.length_nil] at h1
  go_enter Tryz.func126, Tryz.ntmps126
  go_wp2
  refine bodyPost_ret (v := .tuple #[.agg #[.int .i64 0, .int .i64 0, .int .i64 0, .int .i64 0], .bool false]) ?_ rfl ?_
  · rw [results_cell_tmp rfl]; simp [go_sem]
  exact ⟨rfl, by first | exact Below.refl _ _ | exact (Below.refl _ _).alloc (Nat.le_refl _) _ | exact (((Below.refl _ _).alloc (Nat.le_refl _) _).alloc (by simp) _)⟩

set_option maxRecDepth 100000 in
set_option maxHeartbeats 1000000 in
theorem qFirst_some {base : Nat} (qb mb : Nat) (ov : Value) (e : Ev) (q : List Ev) (w : World) (h : QueP base w qb mb ov (e :: q)) :
    Calls Tryz.prog 126 #[.pointer (some ⟨qb, 0, none⟩)] w fun e' w' => e' = .returned (.tuple #[evVal e, .bool true]) ∧ Below w.heap.size w w' := by
  have h0 := h.c0
  have h1 := h.c1
  obtain ⟨f, ho, hh, hm⟩ := h.ord
  obtain ⟨hn, hf⟩ := hm.first hh h.sorted h.distinct
  obtain ⟨_, h00⟩ | ⟨b, cap, rfl, hb, hc, _, hr⟩ := ho
  · simp at h00
  obtain ⟨c0, c1, _, _⟩ := hr.cell hn
  rw [hf] at c0 c1
  simp only [Ev.mom, Nat.zero_mul, Nat.zero_add] at c0 c1
  obtain ⟨es, clock, hmm, hq⟩ := h.map
  have hlk : ∀ (W : World), W.heap[mb]? = w.heap[mb]? → (Instr.lookup 152 (.map (some mb)) (.int .i64 e.number) false).run Tryz.prog W = .ok (evVal e) W := by
    intro W hW
    have := run_lookup_ok (W := W) (hW.trans hmm) hq (e := e) (by simp) h.distinct false
    simpa using this
  have hl2 : ((q.length : Int) + 1 == 0) = false := by simp; omega
  have hl1 : (0 : Int) < (q.length : Int) + 1 := by omega
  simp only [List.length_cons] at h1 hn hc
  have hqb := lt_of_cell h0
  have hbb := lt_of_cell c0
  have hmb : mb < w.heap.size := (Array.getElem?_eq_some_iff.1 hmm).1
  have L1 := hlk (w.alloc (.cells #[.int .i64 0, .int .i64 0, .int .i64 0, .int .i64 0] 171)) (Below.heap_alloc _ _ _ hmb)
  have L2 := hlk (w.alloc (.cells #[.int .i64 0, .int .i64 0, .int .i64 0, .int .i64 0] 171)).drew (Below.heap_alloc _ _ _ hmb)
  clear hlk hq hmm hr hm hh h
  simp only [evVal] at L1 L2 ⊢
  go_enter Tryz.func126, Tryz.ntmps126
  go_wp2
  go_region
  all_goals
    go_wp2
    refine bodyPost_ret (v := .tuple #[.agg #[.int .i64 e.number, .int .i64 e.time, .int .i64 e.kind, .int .i64 e.entity], .bool true]) ?_ rfl ?_
    · rw [results_cell_tmp rfl]; simp [go_sem]
    exact ⟨rfl, ((Below.refl _ _).alloc (Nat.le_refl _) _).drew⟩

/-- Where the row of moments lies: where it lay, or in a new block. -/
def Moved (w : World) (ov ov' : Value) : Prop := ov'.ownBlock = ov.ownBlock ∨ ∃ g, ov'.ownBlock = some g ∧ w.heap.size ≤ g

set_option maxRecDepth 100000 in
set_option maxHeartbeats 2000000 in
theorem qPut_any {base : Nat} (qb mb : Nat) (ov : Value) (q : List Ev) (e : Ev) (w : World) (h : QueP base w qb mb ov q) (hbase : base ≤ w.heap.size) (hl : q.length < 16) (hn : ∀ x ∈ q, x.number ≠ e.number) :
    Calls Tryz.prog 114 #[.pointer (some ⟨qb, 0, none⟩), .agg #[.int .i64 e.number, .int .i64 e.time, .int .i64 e.kind, .int .i64 e.entity]] w
      fun e' w' => ∃ ov', e' = .returned (.tuple #[]) ∧ Only (QSet qb mb ov) w w' ∧ QueP base w' qb mb ov' (insF e q) ∧ Moved w ov ov' := by
  have H := hide h
  have h0 := h.c0
  have h1 := h.c1
  have ht := h.thaw
  obtain ⟨es, clock, hmm, hq⟩ := h.map
  obtain ⟨f, ho, hh, hm⟩ := h.ord
  have hqb := lt_of_cell h0
  have hmb : mb < w.heap.size := (Array.getElem?_eq_some_iff.1 hmm).1
  have hqm := h.qm
  have hrun := run_mapPut (W := (w.alloc (.cells #[.int .i64 e.number, .int .i64 e.time, .int .i64 e.kind, .int .i64 e.entity] 171)).drew) (mb := mb) ((Below.heap_alloc _ _ _ hmb).trans hmm) hq e hn
  simp only [evVal] at hrun
  have HQ := hide (hq.put hn (insF_length e q) (insF_mem e q))
  have HM := hide (hm.cons hn (insF_length e q) (insF_mem e q))
  have Hh := hide hh
  obtain ⟨sa, sc, rfl⟩ := ho.form
  have Ho := hide ho
  have Hn := hide hn
  clear hq hm hh ho hmm h hn
  go_enter Tryz.func114, Tryz.ntmps114
  go_wp2
  go_region
  obtain ⟨W0, hW0⟩ : ∃ W0, W0 = (w.alloc (.cells #[.int .i64 e.number, .int .i64 e.time, .int .i64 e.kind, .int .i64 e.entity] 171)).drew := ⟨_, rfl⟩
  have hb0 : Below w.heap.size w W0 := by rw [hW0]; exact ((Below.refl _ _).alloc (Nat.le_refl _) _).drew
  have e0 : W0.cell? ⟨w.heap.size, 0, none⟩ = some (.int .i64 e.number) := by rw [hW0]; simp [go_sem]
  have e1 : W0.cell? ⟨w.heap.size, 1, none⟩ = some (.int .i64 e.time) := by rw [hW0]; simp [go_sem]
  have hz0 : W0.heap.size = w.heap.size + 1 := by rw [hW0]; simp
  rw [← hW0]
  have ho1 : Only (· = mb) W0 (withMap W0 mb (es.push { key := .int .i64 e.number, val := .agg #[.int .i64 e.number, .int .i64 e.time, .int .i64 e.kind, .int .i64 e.entity], born := clock }) (clock + 1)) := only_withMap _ _ _ _
  have hz1 := withMap_size W0 mb (es.push { key := .int .i64 e.number, val := .agg #[.int .i64 e.number, .int .i64 e.time, .int .i64 e.kind, .int .i64 e.entity], born := clock }) (clock + 1)
  have hm1 := withMap_at (W := W0) (mb := mb) (by omega) (es.push { key := .int .i64 e.number, val := .agg #[.int .i64 e.number, .int .i64 e.time, .int .i64 e.kind, .int .i64 e.entity], born := clock }) (clock + 1)
  generalize withMap W0 mb (es.push { key := .int .i64 e.number, val := .agg #[.int .i64 e.number, .int .i64 e.time, .int .i64 e.kind, .int .i64 e.entity], born := clock }) (clock + 1) = W1 at ho1 hz1 hm1 ⊢
  have Hm1 := hide hm1
  have f0 := ho1.at e0 (by omega)
  have f1 := ho1.at e1 (by omega)
  have g0 := ho1.at (below_at hb0 h0 hqb) hqm
  have g1 := ho1.at (below_at hb0 h1 hqb) hqm
  have gt : W1.frozen? ⟨qb, 1, none⟩ = false := by
    rw [World.frozen?_of_block (w := W0) (a := ⟨qb, 1, none⟩) (ho1.block qb (by omega) hqm), hb0.frozen (p := ⟨qb, 1, none⟩) hqb]; exact ht
  have Ho1 := hide ((Ho.out.below hb0).only ho1 (fun b hb hc => by subst hc; exact H.out.mo hb))
  have hO1 : Only (QSet qb mb (.slice sa q.length sc)) w W1 := (Only.new hb0).trans (ho1.mono (fun k _ hk => .inr (.inl hk)))
  have HO1 := hide hO1
  have HB0 := hide hb0
  have HHo := hide ho1
  clear hrun hm1 h0 h1 ht e0 e1 hW0 hb0 ho1 hO1
  have hqo := H.out.qo
  have hmo := H.out.mo
  have Hqo := hide hqo
  have Hmo := hide hmo
  clear hqo hmo
  go_wp2
  go_region_with (go_at_call 125; refine (with_any base _ q.length f e.mom (insF e q) _ (show OrdV base W1.drew (.slice sa q.length sc) q.length f from Ho1.out) Hh.out (by omega) HM.out (by simp; omega)).mono ?_; rintro e' w2 ⟨v2, f2, rfl, hO2, hh2, hm2, ho2, hmv⟩; obtain ⟨sa2, sc2, rfl⟩ := hO2.form; have k1 := ho2.at (w := W1.drew) g1 Hqo.out; have k2 : w2.frozen? ⟨qb, 1, none⟩ = false := (World.frozen?_of_block (w := W1.drew) (a := ⟨qb, 1, none⟩) (ho2.block qb (by simp; omega) Hqo.out)).trans gt; have k0 := ho2.at (w := W1.drew) g0 Hqo.out)
  all_goals
    go_end0
    have ho3 : Only (fun b => some b = (Value.slice sa q.length sc).ownBlock) W1 w2 := ⟨ho2.os, ho2.tape, ho2.output, ho2.size, ho2.block⟩
    have hz2 := ho3.size
    have hset : Only (QSet qb mb (.slice sa q.length sc)) w (w2.setCell ⟨qb, 1, none⟩ (.slice sa2 (q.length + 1) sc2)) := (HO1.out.trans (ho3.mono (fun k _ hk => .inr (.inr hk)))).setCell (.inl rfl) _
    have hmv' : Moved w (.slice sa q.length sc) (.slice sa2 (q.length + 1) sc2) := by
      rcases hmv with hmv | ⟨g, hg, hgz⟩
      · exact .inl hmv
      · exact .inr ⟨g, hg, by have : W1.drew.heap.size = W1.heap.size := rfl; omega⟩
    have hnq : some qb ≠ (Value.slice sa2 (q.length + 1) sc2).ownBlock := by
      rcases hmv' with hmv | ⟨g, hg, hgz⟩
      · rw [hmv]; exact Hqo.out
      · rw [hg]; simp; omega
    have hnm : some mb ≠ (Value.slice sa2 (q.length + 1) sc2).ownBlock := by
      rcases hmv' with hmv | ⟨g, hg, hgz⟩
      · rw [hmv]; exact Hmo.out
      · rw [hg]; simp; omega
    refine ⟨_, rfl, hset, ⟨?_, ?_, ?_, ?_, ?_, hqm, hnq, hnm, insF_sorted e q H.out.sorted Hn.out, insF_distinct e q H.out.distinct Hn.out, by rw [insF_length]; omega⟩, hmv'⟩
    · rw [World.cell?_setCell_other _ _ _ _ (by simp)]; exact k0
    · exact World.cell?_setCell_same _ _ _ k1
    · rw [World.frozen?_setCell]; exact k2
    · refine ⟨_, _, ?_, HQ.out⟩
      rw [Below.heap_setCell _ _ _ _ (by exact Ne.symm hqm), ho3.block mb (by omega) (fun hc => Hmo.out hc)]
      exact Hm1.out
    · refine ⟨f2, ?_, by rw [insF_length]; exact hh2, by rw [insF_length]; exact hm2⟩
      rw [insF_length]
      exact hO2.only (U := (· = qb)) (Only.setCell (S := (· = qb)) (Only.refl _ _) (p := ⟨qb, 1, none⟩) rfl _) (fun b hb hc => by subst hc; exact hnq hb)
end Go.Proofs.YtndlmgocldckfaaGreat
