import Derived.Test.YtndlmgocldckfaaKNew
import Derived.Test.YtndlmgocldckfaaKerA
namespace Go.Proofs.Ytndlmgocldckfaa
open Go.RowKit
set_option linter.unusedVariables false
set_option linter.unusedSimpArgs false

/-- May an event be planned so, in this state? -/
def argF (ents : Int) (nk : Nat) (s : KS) (time kind ent : Int) : Bool := (inB time s.clock 1000000000000 && inB kind 0 (nk - 1)) && inB ent 0 (ents - 1)

set_option maxRecDepth 100000 in
set_option maxHeartbeats 1000000 in
theorem tPlan_arg {R : Nat → Prop} {base : Nat} (kb qb mb : Nat) (ov : Value) (ents : Int) (ks : List (List Ins)) (draws : List Int) (s : KS) (time kind ent : Int) (w : World) (h : KerP R base w kb qb mb ov ents ks draws s) (he : 1 ≤ ents) (he' : ents ≤ 8) (hk : ks.length ≤ 8) (hno : argF ents ks.length s time kind ent = false) :
    Calls Try.prog 22 #[.pointer (some ⟨kb, 0, none⟩), .int .i64 time, .int .i64 kind, .int .i64 ent] w fun e w' => e = .returned (.tuple #[.int .i64 0, .int .i64 1]) ∧ Below w.heap.size w w' := by
  obtain ⟨kv, h1, h6⟩ := h.kinds
  obtain ⟨ka, kc, rfl⟩ := h6.form
  have h0 := h.c0
  have h4 := h.c4
  have hbk := lt_of_cell h0
  clear h h6
  unfold argF at hno
  by_cases t1 : time < s.clock
  · have t1' : decide (time < s.clock) = true := by simpa using t1
    go_enter Try.func22, Try.ntmps22
    go_wp2
    go_ret2
    exact ⟨rfl, Below.refl _ _⟩
  have t1' : decide (time < s.clock) = false := by simpa using t1
  by_cases t2 : 1000000000000 < time
  · have t2' : decide (1000000000000 < time) = true := by simpa using t2
    go_enter Try.func22, Try.ntmps22
    go_wp2
    go_ret2
    exact ⟨rfl, Below.refl _ _⟩
  have t2' : decide (1000000000000 < time) = false := by simpa using t2
  have hti : inB time s.clock 1000000000000 = true := by simp [inB]; omega
  rw [hti] at hno
  rcases hk1 : inB kind 0 (ks.length - 1) with _ | _
  · clear hno
    go_enter Try.func22, Try.ntmps22
    go_wp2_with (go_at_call 42; refine (hasKind_any _ _ _ _ _ _ hk).mono ?_; rintro e w1 ⟨rfl, hb1⟩; rw [hk1])
    go_ret2
    exact ⟨rfl, hb1⟩
  · rw [hk1] at hno
    have hen : inB ent 0 (ents - 1) = false := by simpa using hno
    clear hno
    go_enter Try.func22, Try.ntmps22
    go_wp2_with (first | (go_at_call 42; refine (hasKind_any _ _ _ _ _ _ hk).mono ?_; rintro e w1 ⟨rfl, hb1⟩; rw [hk1]; have g0 := below_at hb1 h0 hbk; have g1 := below_at hb1 h1 hbk) | (go_at_call 40; refine (hasEntity_any _ _ _ _ _ _ he he').mono ?_; rintro e w2 ⟨rfl, hb2⟩; rw [hen]))
    go_ret2
    exact ⟨rfl, hb1.trans (hb2.mono hb1.size)⟩

set_option maxRecDepth 100000 in
set_option maxHeartbeats 1000000 in
theorem tPlan_yes {R : Nat → Prop} {base : Nat} (kb qb mb : Nat) (ov : Value) (ents : Int) (ks : List (List Ins)) (draws : List Int) (s : KS) (time kind ent : Int) (w : World) (h : KerP R base w kb qb mb ov ents ks draws s) (hbase : base ≤ w.heap.size) (hok : KOk ents ks.length draws s) (he : 1 ≤ ents) (he' : ents ≤ 8) (hk : ks.length ≤ 8) (hyes : argF ents ks.length s time kind ent = true) :
    Calls Try.prog 22 #[.pointer (some ⟨kb, 0, none⟩), .int .i64 time, .int .i64 kind, .int .i64 ent] w fun e w' => Only (KSet kb qb mb ov) w w' ∧
      ((¬ (s.q.length < 16 ∧ s.next < 1000000000) ∧ e = .returned (.tuple #[.int .i64 0, .int .i64 3]) ∧ KerP R base w' kb qb mb ov ents ks draws s) ∨
       ((s.q.length < 16 ∧ s.next < 1000000000) ∧ e = .returned (.tuple #[.int .i64 s.next, .int .i64 0]) ∧ ∃ ov', Moved w ov ov' ∧ KerP R base w' kb qb mb ov' ents ks draws { s with q := insF ⟨time, s.next, kind, ent⟩ s.q, next := s.next + 1 })) := by
  have H := hide h
  obtain ⟨kv, h1, h6⟩ := h.kinds
  obtain ⟨ka, kc, rfl⟩ := h6.form
  have h0 := h.c0
  have h4 := h.c4
  have hbk := lt_of_cell h0
  clear h h6
  simp only [argF, Bool.and_eq_true] at hyes
  obtain ⟨⟨hti, hk1⟩, hen⟩ := hyes
  have hti' : s.clock ≤ time ∧ time ≤ 1000000000000 := by simpa [inB] using hti
  clear hti
  have t1' : decide (time < s.clock) = false := by simp; omega
  have t2' : decide (1000000000000 < time) = false := by simp; omega
  go_enter Try.func22, Try.ntmps22
  go_wp2_with (first | (go_at_call 42; refine (hasKind_any _ _ _ _ _ _ hk).mono ?_; rintro e w1 ⟨rfl, hb1⟩; rw [hk1]; have g0 := below_at hb1 h0 hbk; have g1 := below_at hb1 h1 hbk) | (go_at_call 40; refine (hasEntity_any _ _ _ _ _ _ he he').mono ?_; rintro e w2 ⟨rfl, hb2⟩; rw [hen]))
  have hb12 := hb1.trans (hb2.mono hb1.size)
  have hP2 := H.out.below hb12
  have hz12 := hb12.size
  refine (hasRoom_any kb qb mb ov ents ks draws s _ hP2).mono ?_
  rintro e w3 ⟨rfl, rfl⟩
  by_cases h16 : s.q.length < 16 ∧ s.next < 1000000000
  · rw [show decide (s.q.length < 16 ∧ s.next < 1000000000) = true by simpa using h16]
    go_wp2_with (go_at_call 44; refine (put_any kb qb mb ov ents ks draws s _ _ _ _ hP2 (by omega) h16.1 (fun x hx => (hok.evs x hx).2.2.2.1) ⟨hok.next.1, h16.2⟩).mono ?_; rintro e w4 ⟨ov4, rfl, ho4, hm4, hP4⟩)
    go_ret2
    refine ⟨(Only.new hb12).trans ho4, .inr ⟨h16, rfl, ov4, ?_, hP4⟩⟩
    rcases hm4 with e | ⟨g, e, hg⟩
    · exact .inl e
    · exact .inr ⟨g, e, by omega⟩
  · rw [show decide (s.q.length < 16 ∧ s.next < 1000000000) = false by simpa using h16]
    go_wp2
    go_ret2
    exact ⟨Only.new hb12, .inl ⟨h16, rfl, hP2⟩⟩

set_option maxRecDepth 100000 in
set_option maxHeartbeats 1000000 in
theorem tNow_any {R : Nat → Prop} {base : Nat} (kb qb mb : Nat) (ov : Value) (ents : Int) (ks : List (List Ins)) (draws : List Int) (s : KS) (w : World) (h : KerP R base w kb qb mb ov ents ks draws s) (ht : s.taken ≤ draws.length) :
    Calls Try.prog 12 #[.pointer (some ⟨kb, 0, none⟩)] w fun e w' => e = .returned (.tuple #[.int .i64 s.clock, .int .i64 s.q.length, .int .i64 ((draws.length : Int) - s.taken)]) ∧ Below w.heap.size w w' := by
  obtain ⟨dv, h2, h7⟩ := h.draw
  obtain ⟨da, dc, rfl⟩ := h7.form
  have hdl := h7.1
  have h3 := h.c3
  have h4 := h.c4
  have h6 := h.c6
  have Hq := hide h.que
  have hw : IntKind.i64.wrap ((draws.length : Int) - s.taken) = (draws.length : Int) - s.taken := by rw [IntKind.wrap_i64]; omega
  clear h h7
  go_enter Try.func12, Try.ntmps12
  go_wp2
  go_quiet ((go_at_call 27; exact Calls.quiet_of_same (qLen_any qb mb ov s.q _ (Hq.out.below (below_drewN (Below.refl _ _) _)))))
  go_wp2
  go_ret3
  exact ⟨rfl, below_drewN (Below.refl _ _) nq⟩
end Go.Proofs.Ytndlmgocldckfaa
