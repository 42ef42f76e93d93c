import Derived.Test.YtndlmgocldckfaaKpG
import Derived.Test.YtndlmgocldckfaaRunC
namespace Go.Proofs.Ytndlmgocldckfaa
open Go.RowKit
set_option linter.unusedVariables false
set_option linter.unusedSimpArgs false

section
variable {ents : Int} {ks : List (List Ins)} {draws : List Int} {s : KS}
theorem fit0 (ents : Int) (ks : List (List Ins)) (draws : List Int) : Fit ents ks draws ks0 :=
  ⟨⟨by simp [ks0], by simp [ks0], by simp [ks0], by simp [ks0], by simp [ks0], by simp [ks0]⟩, ⟨by simp [ks0, Sorted], by simp [ks0, Distinct]⟩⟩

def planS (s : KS) (t k e : Int) : KS := { s with q := insF ⟨t, s.next, k, e⟩ s.q, next := s.next + 1 }

theorem plan_fit {t k e : Int} (h : Fit ents ks draws s) (ha : argF ents ks.length s t k e = true) (hr : s.q.length < 16 ∧ s.next < 1000000000) : Fit ents ks draws (planS s t k e) := by
  obtain ⟨⟨k1, k2, k3, k4, k5, k6⟩, q1, q2⟩ := h
  have hne : ∀ y ∈ s.q, y.number ≠ s.next := fun y hy => by have := (k5 y hy).2.2.2.1; omega
  simp only [argF, inB, Bool.and_eq_true, decide_eq_true_eq] at ha
  refine ⟨⟨k1, k2, by simp [planS]; omega, k4, ?_, by simp [planS, insF_length]; omega⟩, ⟨insF_sorted _ _ q1 hne, insF_distinct _ _ q2 hne⟩⟩
  intro x hx
  rcases (insF_mem _ _ _).1 hx with rfl | hx
  · simp [planS]; omega
  · have := k5 x hx
    simp [planS]; omega
end

def wks : List (List Ins) := [[⟨1, 0, 5, 0⟩, ⟨8, 0, 0, 0⟩, ⟨6, 0, 0, 0⟩]]
theorem wks_ok : CodesOk 1 wks := by
  intro l hl
  simp only [wks, List.mem_singleton] at hl
  subst hl
  refine ⟨by simp, fun x hx => ?_⟩
  simp only [List.mem_cons, List.not_mem_nil, or_false] at hx
  rcases hx with rfl | rfl | rfl <;> decide
theorem wks_none : kindF 1 wks = none := kindF_none (by omega) (by simp [wks]) wks_ok

theorem wks_run : ∃ s2, runF wks [] 100 2 (planS ks0 2 0 0) = (s2, [⟨⟨2, 1, 0, 0⟩, [5]⟩, ⟨⟨7, 2, 0, 0⟩, [5]⟩], 0) := by
  refine ⟨(runF wks [] 100 2 (planS ks0 2 0 0)).1, Prod.ext rfl ?_⟩
  have hmax : max (5 : Int) 0 = 5 := by decide
  simp [runF, stepF, happenF, planS, ks0, wks, insF, posF, outF, execF_cons, execF_nil, doI, putR, hmax]

set_option maxRecDepth 100000 in
set_option maxHeartbeats 4000000 in
theorem works_any (w : World) : Calls Try.prog 23 #[] w fun e w' => e = .returned (.bool true) ∧ Below w.heap.size w w' := by
  go_enter Try.func23, Try.ntmps23
  go_wp2_with fail
  obtain ⟨W, hW⟩ : ∃ W, W = ((w.alloc (.cells #[.int .i64 1, .int .i64 0, .int .i64 5, .int .i64 0, .int .i64 8, .int .i64 0, .int .i64 0, .int .i64 0, .int .i64 6, .int .i64 0, .int .i64 0, .int .i64 0] 82)).alloc (.cells #[.slice (some ⟨w.heap.size, 0, none⟩) 3 3] 80)).alloc (.cells #[.int .i64 1, .slice (some ⟨w.heap.size + 1, 0, none⟩) 1 1] 40) := ⟨_, rfl⟩
  have hb0 : Below w.heap.size w W := by rw [hW]; exact (((Below.refl _ _).alloc (Nat.le_refl _) _).alloc (by simp) _).alloc (by simp; omega) _
  have hz0 : W.heap.size = w.heap.size + 3 := by rw [hW]; simp
  have hcode : CodeAt W w.heap.size 0 [⟨1, 0, 5, 0⟩, ⟨8, 0, 0, 0⟩, ⟨6, 0, 0, 0⟩] := by
    rw [hW]
    intro i x hx
    match i, hx with
    | 0, hx => simp at hx; subst hx; simp [go_sem]
    | 1, hx => simp at hx; subst hx; simp [go_sem]
    | 2, hx => simp at hx; subst hx; simp [go_sem]
    | i + 3, hx => simp at hx
  have hK : KindsAt W.heap.size W (w.heap.size + 1) 0 wks := by
    intro i l hl
    match i, hl with
    | 0, hl =>
      simp [wks] at hl
      subst hl
      refine ⟨.slice (some ⟨w.heap.size, 0, none⟩) 3 3, by rw [hW]; simp [go_sem], by simp, .inr (.inl ⟨w.heap.size, 0, 3, rfl, by omega, hcode⟩)⟩
    | i + 1, hl => simp [wks] at hl
  rw [← hW]
  refine (tNew_yes 1 (w.heap.size + 1) 0 1 (.slice none 0 0) wks [] W (by simp [wks]) (by omega) hK ⟨by simp, .inl ⟨rfl, rfl⟩⟩ wks_none rfl).mono ?_
  rintro e w1 ⟨kb, qb, mb, rfl, hb1, hk1, hq1, hm1, hP1⟩
  clear hW hcode hK
  have hz1 := hb1.size
  generalize (fun b => W.heap.size ≤ b ∧ b < w1.heap.size ∧ b ≠ kb ∧ b ≠ qb ∧ b ≠ mb) = R at hP1
  go_wp2_with fail
  refine (tPlan_yes kb qb mb (.slice none 0 0) 1 wks [] ks0 2 0 0 w1 hP1 hz1 (fit0 _ _ _).ok (by omega) (by omega) (by simp [wks]) (by simp [argF, inB, ks0, wks])).mono ?_
  rintro e w2 ⟨ho2, ⟨hno, _⟩ | ⟨_, rfl, ov2, hmv, hP2⟩⟩
  · exact absurd (by simp [ks0]) hno
  obtain ⟨s3, hrun⟩ := wks_run
  have hfit := plan_fit (ents := 1) (ks := wks) (draws := []) (s := ks0) (t := 2) (k := 0) (e := 0) (fit0 _ _ _) (by simp [argF, inB, ks0, wks]) (by simp [ks0])
  have hz2 := ho2.size
  have HR := hide (run_ok 2 100 w2 hP2 hfit.ok (by omega) (by simp [wks]) (by omega) (by omega) wks_ok (by simp) s3 _ 0 hrun)
  have hn1 : ks0.next = 1 := rfl
  have HB2 : Hid (Below w.heap.size w w2) := (hb0.trans (hb1.mono (by omega))).trans (ho2.below (by omega) (fun k hk hc => by
    rcases hc with hc | hc | hc | hc
    · omega
    · omega
    · omega
    · simp [Value.ownBlock] at hc))
  have HKs : Hid (∀ b, KSet kb qb mb ov2 b → w.heap.size ≤ b) := by
    rintro b (hc | hc | hc | hc)
    · omega
    · omega
    · omega
    · rcases hmv with e | ⟨g, e, hg⟩
      · rw [e] at hc; simp [Value.ownBlock] at hc
      · rw [e] at hc; simp at hc; omega
  rw [hn1]
  clear hP1 hP2 hrun hfit hmv ho2
  go_wp2_with fail
  refine HR.out.mono ?_
  rintro e w3 ⟨lv, ov3, L, rfl, ho3, _, _, _, hout⟩
  obtain ⟨la, lcap, rfl, b, hat⟩ := hout.at
  have HB3 : Hid (Below w.heap.size w w3) := HB2.out.trans (ho3.below (by have := HB2.out.size; omega) (fun k hk hc => by have := HKs.out k hc; omega))
  obtain ⟨sa, sc, c0, c1, c2, c3, c4, htold⟩ := hat.cells 1 _ rfl
  have hfo := hat.form (by simp)
  obtain ⟨g, rfl, hg⟩ := htold 0 5 rfl
  simp only [List.length_cons, List.length_nil, Nat.zero_add, Nat.reduceAdd, Nat.one_mul] at c0 c1 c2 c3 c4 hfo
  simp only [Value.slice.injEq] at hfo
  obtain ⟨rfl, _⟩ := hfo
  clear hat hout ho3 htold HR
  go_wp2_with fail
  go_ret
  exact ⟨rfl, HB3.out⟩
end Go.Proofs.Ytndlmgocldckfaa
