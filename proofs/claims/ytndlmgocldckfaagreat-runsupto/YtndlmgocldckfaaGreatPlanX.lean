import Derived.Test.YtndlmgocldckfaaGreatRfZ
import Derived.Test.YtndlmgocldckfaaGreatPlanS
namespace Go.Proofs.YtndlmgocldckfaaGreat
open Go.RowKit
set_option linter.unusedVariables false
set_option linter.unusedSimpArgs false

theorem rplan_any {R : Nat → Prop} (rb : Nat) (ents : Int) (ks : List (List Ins)) (draws : List Int) (taken clock next : Int) (regs : List Int) (q : List Ev) (time kind ent : Int) (w : World) (h : RefK R w rb ents ks draws taken clock next regs q)
    (hR : ∀ b, R b → b < w.heap.size ∧ b ≠ rb) (hq16 : q.length < 16) (hn0 : 0 ≤ next) (hn1 : next < 1000000000) :
    Calls Tryz.prog 88 #[.pointer (some ⟨rb, 0, none⟩), .int .i64 time, .int .i64 kind, .int .i64 ent] w fun e w' => e = .returned (.int .i64 next) ∧ Only (· = rb) w w' ∧
      RefK (fun b => R b ∨ (w.heap.size ≤ b ∧ b < w'.heap.size)) w' rb ents ks draws taken clock (next + 1) regs (insF ⟨time, next, kind, ent⟩ q) ∧ PlanMore w w' rb next (insF ⟨time, next, kind, ent⟩ q) := by
  by_cases hv7 : w.cell? ⟨rb, 7, none⟩ = some (.slice none 0 0)
  · have hq0 : q = [] := by
      obtain ⟨⟨kv, dv, rv, qv, h0, h1, h2, h3, h4, h5, h6, h7, hk, hd, hr, hq⟩, hroom⟩ := h
      rcases hq with ⟨_, h⟩ | ⟨b, off, cap, rfl, _⟩
      · exact h
      · rw [h7] at hv7; simp at hv7
    subst hq0
    exact rplan_nil rb ents ks draws taken clock next regs time kind ent w h hR hv7 hn0 hn1
  · exact rplan_some rb ents ks draws taken clock next regs q time kind ent w h hR hq16 hv7 hn0 hn1

theorem RefK.only {R S : Nat → Prop} {w w' : World} {rb : Nat} {ents : Int} {ks : List (List Ins)} {draws : List Int} {taken clock next : Int} {regs : List Int} {q : List Ev} (h : RefK R w rb ents ks draws taken clock next regs q) (ho : Only S w w') (hR : ∀ b, R b → ¬ S b) (hb : ¬ S rb) : RefK R w' rb ents ks draws taken clock next regs q := by
  obtain ⟨⟨kv, dv, rv, qv, h0, h1, h2, h3, h4, h5, h6, h7, hk, hd, hr, hq⟩, hroom⟩ := h
  exact ⟨⟨kv, dv, rv, qv, ho.at h0 hb, ho.at h1 hb, ho.at h2 hb, ho.at h3 hb, ho.at h4 hb, ho.at h5 hb, ho.at h6 hb, ho.at h7 hb, hk.only ho hR, hd.only ho hR, hr.only ho hR, hq.only ho hR⟩, hroom.only ho hb⟩
theorem RefK.mono {R R' : Nat → Prop} {w : World} {rb : Nat} {ents : Int} {ks : List (List Ins)} {draws : List Int} {taken clock next : Int} {regs : List Int} {q : List Ev} (h : RefK R w rb ents ks draws taken clock next regs q) (hR : ∀ b, R b → R' b) : RefK R' w rb ents ks draws taken clock next regs q := by
  obtain ⟨⟨kv, dv, rv, qv, h0, h1, h2, h3, h4, h5, h6, h7, hk, hd, hr, hq⟩, hroom⟩ := h
  exact ⟨⟨kv, dv, rv, qv, h0, h1, h2, h3, h4, h5, h6, h7, hk.mono hR, hd.mono hR, hr.mono hR, hq.mono hR⟩, hroom⟩

set_option maxRecDepth 100000 in
set_option maxHeartbeats 1000000 in
theorem rPlan_arg {R : Nat → Prop} (rb : Nat) (ents : Int) (ks : List (List Ins)) (draws : List Int) (taken clock next : Int) (regs : List Int) (q : List Ev) (time kind ent : Int) (w : World) (h : RefK R w rb ents ks draws taken clock next regs q) (he : 1 ≤ ents) (he' : ents ≤ 8) (hk : ks.length ≤ 8)
    (hno : ((inB time clock 1000000000000 && inB kind 0 (ks.length - 1)) && inB ent 0 (ents - 1)) = false) :
    Calls Tryz.prog 45 #[.pointer (some ⟨rb, 0, none⟩), .int .i64 time, .int .i64 kind, .int .i64 ent] w fun e w' => e = .returned (.tuple #[.int .i64 0, .int .i64 1]) ∧ w' = w := by
  obtain ⟨⟨kv, dv, rv, qv, h0, h1, h2, h3, h4, h5, h6, h7, hk', hd, hr, hq⟩, hroom⟩ := h
  obtain ⟨ka, kc, rfl⟩ := hk'.form
  clear h2 h3 h5 h6 h7 hk' hd hr hq hroom
  rcases t1 : inB time clock 1000000000000 with _ | _ <;> rcases t2 : inB kind 0 (ks.length - 1) with _ | _ <;> rcases t3 : inB ent 0 (ents - 1) with _ | _
  case true.true.true => simp [t1, t2, t3] at hno
  all_goals
    clear hno
    go_enter Tryz.func45, Tryz.ntmps45
    go_wp2_with (go_at_call 57; refine (in_any _ _ _ _).mono ?_; rintro e w1 ⟨rfl, rfl⟩)
    go_ret2
    exact ⟨rfl, rfl⟩

set_option maxRecDepth 100000 in
set_option maxHeartbeats 1000000 in
theorem rPlan_ok {R : Nat → Prop} (rb : Nat) (ents : Int) (ks : List (List Ins)) (draws : List Int) (taken clock next : Int) (regs : List Int) (q : List Ev) (time kind ent : Int) (w : World) (h : RefK R w rb ents ks draws taken clock next regs q) (he : 1 ≤ ents) (he' : ents ≤ 8) (hk : ks.length ≤ 8)
    (hR : ∀ b, R b → b < w.heap.size ∧ b ≠ rb) (hn0 : 0 ≤ next)
    (hyes : ((inB time clock 1000000000000 && inB kind 0 (ks.length - 1)) && inB ent 0 (ents - 1)) = true) :
    Calls Tryz.prog 45 #[.pointer (some ⟨rb, 0, none⟩), .int .i64 time, .int .i64 kind, .int .i64 ent] w fun e w' =>
      ((decide (q.length < 16) && decide (next < 1000000000)) = false ∧ e = .returned (.tuple #[.int .i64 0, .int .i64 3]) ∧ w' = w) ∨
      ((decide (q.length < 16) && decide (next < 1000000000)) = true ∧ e = .returned (.tuple #[.int .i64 next, .int .i64 0]) ∧ Only (· = rb) w w' ∧
        RefK (fun b => R b ∨ (w.heap.size ≤ b ∧ b < w'.heap.size)) w' rb ents ks draws taken clock (next + 1) regs (insF ⟨time, next, kind, ent⟩ q)) := by
  have hP := hide h
  obtain ⟨⟨kv, dv, rv, qv, h0, h1, h2, h3, h4, h5, h6, h7, hk', hd, hr, hq⟩, hroom⟩ := h
  obtain ⟨ka, kc, rfl⟩ := hk'.form
  clear h2 h3 h5 h6 h7 hk' hd hr hq hroom
  simp only [Bool.and_eq_true] at hyes
  obtain ⟨⟨t1, t2⟩, t3⟩ := hyes
  rcases hrm : (decide (q.length < 16) && decide (next < 1000000000)) with _ | _
  · have Hrm := hide hrm
    clear hrm
    go_enter Tryz.func45, Tryz.ntmps45
    go_wp2_with (first | (go_at_call 57; refine (in_any _ _ _ _).mono ?_; rintro e w1 ⟨rfl, rfl⟩) | (go_at_call 87; refine (room_any rb ents ks draws taken clock next regs q _ hP.out).mono ?_; rintro e w1 ⟨rfl, rfl⟩; rw [Hrm.out]))
    go_ret2
    exact .inl ⟨by trivial, rfl, rfl⟩
  · have Hrm := hide hrm
    have hrm' := hrm
    simp only [Bool.and_eq_true, decide_eq_true_eq] at hrm'
    obtain ⟨r1, r2⟩ := hrm'
    clear hrm
    go_enter Tryz.func45, Tryz.ntmps45
    go_wp2_with (first | (go_at_call 57; refine (in_any _ _ _ _).mono ?_; rintro e w1 ⟨rfl, rfl⟩) | (go_at_call 87; refine (room_any rb ents ks draws taken clock next regs q _ hP.out).mono ?_; rintro e w1 ⟨rfl, rfl⟩; rw [Hrm.out]) | (go_at_call 88; refine (rplan_any rb ents ks draws taken clock next regs q _ _ _ _ hP.out hR r1 hn0 r2).mono ?_; rintro e w2 ⟨rfl, ho2, hP2, _⟩))
    go_ret2
    exact .inr ⟨by trivial, rfl, ho2, hP2⟩
end Go.Proofs.YtndlmgocldckfaaGreat
