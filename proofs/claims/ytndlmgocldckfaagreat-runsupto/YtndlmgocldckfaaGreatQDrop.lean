import Derived.Test.YtndlmgocldckfaaGreatQaZ
import Derived.Test.YtndlmgocldckfaaGreatQue
import Derived.Deep.RegionHeld3
namespace Go.Proofs.YtndlmgocldckfaaGreat
open Go.RowKit
set_option linter.unusedVariables false
set_option linter.unusedSimpArgs false

set_option maxHeartbeats 1000000 in
set_option maxRecDepth 100000 in
theorem drop_miss {base : Nat} (qb mb : Nat) (ov : Value) (q : List Ev) (n : Int) (w : World) (h : QueP base w qb mb ov q) (hn : ∀ e ∈ q, e.number ≠ n) :
    Calls Tryz.prog 134 #[.pointer (some ⟨qb, 0, none⟩), .int .i64 n] w fun e w' => e = .returned (.tuple #[]) ∧ Below w.heap.size w w' := by
  obtain ⟨es, clock, hm, hq⟩ := h.map
  have h0 := h.c0
  have hrun := run_lookup_miss hm hq hn
  clear hm hq hn h
  go_enter Tryz.func134, Tryz.ntmps134
  go_wp2
  refine bodyPost_ret (results_none rfl _ _ _) rfl ?_
  exact ⟨rfl, (Below.refl _ _).alloc (Nat.le_refl _) _⟩

set_option maxHeartbeats 16000000 in
set_option maxRecDepth 100000 in
theorem drop_some {base : Nat} (qb mb : Nat) (ov : Value) (q : List Ev) (e : Ev) (w : World) (h : QueP base w qb mb ov q) (he : e ∈ q) :
    Calls Tryz.prog 134 #[.pointer (some ⟨qb, 0, none⟩), .int .i64 e.number] w
      fun e' w' => ∃ ov', e' = .returned (.tuple #[]) ∧ Only (QSet qb mb ov) w w' ∧ QueP base w' qb mb ov' (outF e.number q) ∧ ov'.ownBlock = ov.ownBlock := by
  have H := hide h
  obtain ⟨es, clock, hm, hq⟩ := h.map
  obtain ⟨f, ho, hh, hf⟩ := h.ord
  have h0 := h.c0
  have h1 := h.c1
  have ht := h.thaw
  have hqm := h.qm
  have hqb := lt_of_cell h0
  have hmb : mb < w.heap.size := (Array.getElem?_eq_some_iff.1 hm).1
  have hlk := run_lookup_ok (W := w) hm hq he h.distinct true
  have hlen := outF_length h.distinct he rfl
  obtain ⟨n, hn⟩ : ∃ n, (outF e.number q).length = n := ⟨_, rfl⟩
  have hql : q.length = n + 1 := by omega
  obtain ⟨W0, hW0⟩ : ∃ W0, W0 = w.alloc (.cells #[.int .i64 e.number, .int .i64 e.time, .int .i64 e.kind, .int .i64 e.entity] 171) := ⟨_, rfl⟩
  have hb0 : Below w.heap.size w W0 := by rw [hW0]; exact (Below.refl _ _).alloc (Nat.le_refl _) _
  obtain ⟨es2, hdel0, hq2⟩ := run_mapOut (W := W0) ((hb0.block mb hmb).trans hm) hq he h.distinct 0
  have hdel : ∀ ty, (Builtin.delete_ #[152, 3] ty #[.map (some mb), .int .i64 e.number]).run Tryz.prog W0 = .ok (.tuple #[]) (withMap W0 mb es2 clock) := fun ty => hdel0
  have e0 : W0.cell? ⟨w.heap.size, 0, none⟩ = some (.int .i64 e.number) := by rw [hW0]; simp [go_sem]
  have e1 : W0.cell? ⟨w.heap.size, 1, none⟩ = some (.int .i64 e.time) := by rw [hW0]; simp [go_sem]
  have hz0 : W0.heap.size = w.heap.size + 1 := by rw [hW0]; simp
  have ho1 := only_withMap W0 mb es2 clock
  have hz1 := withMap_size W0 mb es2 clock
  have hm1 := withMap_at (W := W0) (mb := mb) (by omega) es2 clock
  generalize withMap W0 mb es2 clock = w1 at ho1 hz1 hm1 hdel
  have g0 := ho1.at (below_at hb0 h0 hqb) hqm
  have g1 := ho1.at (below_at hb0 h1 hqb) hqm
  have gt : w1.frozen? ⟨qb, 1, none⟩ = false := by
    rw [World.frozen?_of_block (w := W0) (a := ⟨qb, 1, none⟩) (ho1.block qb (by omega) hqm), hb0.frozen (p := ⟨qb, 1, none⟩) hqb]; exact ht
  have f0 := ho1.at e0 (by omega)
  have f1 := ho1.at e1 (by omega)
  rw [hql] at ho hh hf
  obtain ⟨_, h00⟩ | ⟨hb, cap, rfl, hbb, hc, hcm, hr⟩ := ho
  · omega
  have hhm : hb ≠ mb := fun e => h.mo (by rw [e]; rfl)
  have hhq : hb ≠ qb := fun e => h.qo (by rw [e]; rfl)
  have hr1 := (hr.below hb0).only ho1 hhm
  have hhl := hr.lt
  have hlt1 := hr1.lt
  obtain ⟨i0, hi0, hfi0⟩ := hf.sup e he
  have HX : Hid (∀ W : World, Below w1.heap.size w1 W → Calls Tryz.prog 141 #[.slice (some ⟨hb, 0, none⟩) (n + 1) cap, .agg #[.int .i64 e.time, .int .i64 e.number]] W fun e' w' => ∃ i : Nat, i < n + 1 ∧ f i = e.mom ∧ e' = .returned (.int .i64 i) ∧ Below W.heap.size W w') := fun W hW => index_any hb 186 (cap * 2) (n + 1) cap f e.mom W (hr1.below hW) (by have := h.len; omega) ⟨i0, hi0, hfi0⟩
  have HY : Hid (∀ (i : Nat) (W : World), i < n + 1 → f i = e.mom → Below w1.heap.size w1 W → Calls Tryz.prog 139 #[.slice (some ⟨hb, 0, none⟩) (n + 1) cap, .int .i64 i] W fun e' w' => ∃ f', e' = .returned (.slice (some ⟨hb, 0, none⟩) n cap) ∧ OrdV base w' (.slice (some ⟨hb, 0, none⟩) n cap) n f' ∧ HeapF f' n ∧ MomsOf f' n (outF e.number q) ∧ Only (· = hb) W w') := fun i W hi hfi hW => without_any base hb cap n i f (outF e.number q) W hbb hc hcm (hr1.below hW) hh (by have := h.len; omega) hi (hf.remove hi hfi (fun x hx hxe => h.distinct.eq hx he hxe) hn (outF_mem e.number q))
  have Hq2 := hide hq2
  have Hm1 := hide hm1
  have Ho1 := hide ho1
  have Hb0 := hide hb0
  have HW0 := hide hW0
  have Hhm := hide hhm
  have Hhq := hide hhq
  have Hwh : Hid (¬ w.heap.size = hb) := by show ¬ _; omega
  simp only [evVal] at hlk
  clear hq2 hm1 ho1 hb0 hr hr1 hh hf hm hq hlen h h1 ht hdel0 e0 e1 hi0 hfi0
  have h0' := below_at Hb0.out h0 hqb
  rw [hW0] at hdel h0'
  clear hW0
  go_enter Tryz.func134, Tryz.ntmps134
  go_wp2
  go_region_with (first
      | (go_at_call 141; refine (HX.out w1.drew (Below.refl _ _).drew).mono ?_; rintro e' w2 ⟨i, hi, hfi, rfl, hb2⟩; (have hbX : Below w1.heap.size w1 w2 := (Below.refl _ _).drew.trans hb2); (have k1 := below_at hbX g1 (by omega)); (have k0 := below_at hbX g0 (by omega)); (have kt : w2.frozen? ⟨qb, 1, none⟩ = false := (hbX.frozen (p := ⟨qb, 1, none⟩) (by simp; omega)).trans gt))
      | (go_at_call 139; refine (HY.out i _ hi hfi hbX).mono ?_; rintro e' w3 ⟨f', rfl, hO3, hh3, hm3, ho3⟩; (have j1 := ho3.at k1 (Ne.symm Hhq.out)); (have jt : w3.frozen? ⟨qb, 1, none⟩ = false := (World.frozen?_of_block (w := w2) (a := ⟨qb, 1, none⟩) (ho3.block qb (by have := hbX.size; omega) (Ne.symm Hhq.out))).trans kt)))
  all_goals
    go_end0
    have hz2 := hbX.size
    have hz3 := ho3.size
    have hO13 : Only (· = hb) w1 w3 := (Only.new hbX).trans ho3
    refine ⟨.slice (some ⟨hb, 0, none⟩) n cap, rfl, ?_, ⟨?_, ?_, ?_, ⟨es2, clock, ?_, Hq2.out⟩, ⟨f', ?_, by rw [hn]; exact hh3, by rw [hn]; exact hm3⟩, hqm, ?_, ?_, outF_sorted H.out.sorted, outF_distinct H.out.distinct, by have := H.out.len; omega⟩, rfl⟩
    · refine ((((Only.new Hb0.out).trans (Ho1.out.mono (fun k _ hk => .inr (.inl hk)))).trans (hO13.mono (fun k _ hk => .inr (.inr ?_))))).setCell (.inl rfl) _
      rw [hk]; rfl
    · rw [World.cell?_setCell_other _ _ _ _ (by simp)]; exact ho3.at k0 (Ne.symm Hhq.out)
    · exact World.cell?_setCell_same _ _ _ j1
    · rw [World.frozen?_setCell]; exact jt
    · rw [Below.heap_setCell _ _ _ _ (by exact Ne.symm hqm), hO13.block mb (by omega) (Ne.symm Hhm.out)]; exact Hm1.out
    · rw [hn]; exact hO3.only (U := (· = qb)) (Only.setCell (S := (· = qb)) (Only.refl _ _) (p := ⟨qb, 1, none⟩) rfl _) (fun b hb' hc => by subst hc; simp [Value.ownBlock] at hb'; exact Hhq.out hb'.symm)
    · simp [Value.ownBlock]; exact Ne.symm Hhq.out
    · simp [Value.ownBlock]; exact Ne.symm Hhm.out
end Go.Proofs.YtndlmgocldckfaaGreat
