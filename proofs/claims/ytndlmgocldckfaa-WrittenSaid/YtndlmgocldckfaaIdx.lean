import Derived.Test.YtndlmgocldckfaaOrd
import Derived.Laws.StructEq
namespace Go.Proofs.Ytndlmgocldckfaa
open Go.RowKit
set_option linter.unusedVariables false
set_option linter.unusedSimpArgs false

def eqM (a b : Mom) : Bool := decide (a.time = b.time) && decide (a.number = b.number)
theorem eqM_iff (a b : Mom) : eqM a b = true ↔ a = b := by
  cases a; cases b; simp [eqM]

theorem eqlM (a b c d : Int) (w : World) : (binOp .eql 145 (.agg #[.int .i64 a, .int .i64 b]) (.agg #[.int .i64 c, .int .i64 d])).run Try.prog w = .ok (.bool (decide (a = c) && decide (b = d))) w := by
  have hu : Try.prog.underlying 145 = some (.struct (Try.prog.fieldsOf 145)) := by kernel_rfl
  by_cases h1 : a = c <;> by_cases h2 : b = d <;> simp [go_sem, h1, h2, Try.underlying145]

set_option maxHeartbeats 1000000 in
set_option maxRecDepth 100000 in
theorem index_any (b T S n cap : Nat) (f : Nat → Mom) (m : Mom) (w : World) (hr : RowB w b T S f n) (hn : n ≤ 17) (hin : ∃ i, i < n ∧ f i = m) :
    Calls Try.prog 87 #[.slice (some ⟨b, 0, none⟩) n cap, .agg #[.int .i64 m.time, .int .i64 m.number]] w fun e w' => ∃ i : Nat, i < n ∧ f i = m ∧ e = .returned (.int .i64 i) ∧ Below w.heap.size w w' := by
  have Hin := hide hin
  have Hr := hide hr
  clear hin hr
  go_enter Try.func87, Try.ntmps87
  go_wp2
  go_loopw [8] (fun i wr => ∃ k : Nat, k ≤ n ∧ i = .int .i64 k ∧ Below (w.heap.size + 1) (w.alloc (.cells #[.int .i64 m.time, .int .i64 m.number] 145)) wr ∧ ∀ j, j < k → f j ≠ m) (fun i _ => n - (intOf i).toNat)
  case atStart => exact ⟨0, by omega, rfl, Below.refl _ _, by intro j hj; omega⟩
  case round =>
    obtain ⟨k, hkn, rfl, hbel, hno⟩ := hrel
    have Hno := hide hno
    clear hno
    by_cases hlt : k < n
    · have hb0 := (Below.refl w.heap.size w).alloc (Nat.le_refl _) (.cells #[.int .i64 m.time, .int .i64 m.number] 145)
      have hbw : Below w.heap.size w wr := hb0.trans (hbel.mono (by omega))
      have hzr := hbel.size
      rw [World.size_alloc] at hzr
      have e0 : wr.cell? ⟨w.heap.size, 0, none⟩ = some (.int .i64 m.time) := below_at hbel (by simp [go_sem]) (by omega)
      have e1 : wr.cell? ⟨w.heap.size, 1, none⟩ = some (.int .i64 m.number) := below_at hbel (by simp [go_sem]) (by omega)
      obtain ⟨mk, hmk⟩ : ∃ x, f k = x := ⟨_, rfl⟩
      obtain ⟨c0, c1, _, _⟩ := (Hr.out.below hbw).cell hlt
      rw [hmk] at c0 c1
      have hq := eqlM m.time m.number mk.time mk.number
      rcases hE : eqM m mk with _ | _
      · have hne : f k ≠ m := by rw [hmk]; intro e; rw [← e, (eqM_iff mk mk).2 rfl] at hE; cases hE
        have Hne := hide hne
        clear hne
        simp only [eqM] at hE
        rw [hE] at hq
        go_wp2
        go_quiet (fail)
        go_wp2
        go_roundw
        case rel =>
          refine ⟨k + 1, by omega, by go_num, below_drewN hbel _, ?_⟩
          intro j hj
          by_cases hjk : j = k
          · rw [hjk]; exact Hne.out
          · exact Hno.out j (by omega)
        case measure => simp [intOf]; omega
      · have heq : f k = m := by rw [hmk]; exact ((eqM_iff m mk).1 hE).symm
        have Heq := hide heq
        clear heq
        simp only [eqM] at hE
        rw [hE] at hq
        go_wp2
        go_quiet (fail)
        go_wp2
        go_ret
        exact ⟨k, hlt, Heq.out, rfl, below_drewN hbw _⟩
    · obtain ⟨i, hi1, hi2⟩ := Hin.out
      exact absurd hi2 (Hno.out i (by omega))
end Go.Proofs.Ytndlmgocldckfaa
