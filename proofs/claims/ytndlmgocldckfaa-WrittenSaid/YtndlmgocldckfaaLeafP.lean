import Derived.Test.YtndlmgocldckfaaData
namespace Go.Proofs.Ytndlmgocldckfaa
open Go.RowKit
set_option linter.unusedVariables false
set_option linter.unusedSimpArgs false

/-! The program's own tests (package model). -/

set_option maxHeartbeats 400000 in
theorem within_any (n lo hi : Int) (w : World) :
    Calls Try.prog 61 #[.int .i64 n, .int .i64 lo, .int .i64 hi] w fun e w' => e = .returned (.bool (inB n lo hi)) ∧ w' = w := by
  by_cases h1 : lo ≤ n <;> by_cases h2 : n ≤ hi
  all_goals
    go_enter Try.func61, Try.ntmps61
    go_wp2
    go_ret
    exact ⟨by simp [inB, *], rfl⟩
set_option maxHeartbeats 400000 in
theorem isValue_any (n : Int) (w : World) :
    Calls Try.prog 85 #[.int .i64 n] w fun e w' => e = .returned (.bool (inB n (-1000000000) 1000000000)) ∧ w' = w := by
  go_enter Try.func85, Try.ntmps85
  go_wp2_with (go_at_call 61; refine (within_any _ _ _ _).mono ?_; rintro e w' ⟨rfl, rfl⟩)
  go_ret
  exact ⟨rfl, rfl⟩
set_option maxHeartbeats 400000 in
theorem isRegister_any (n : Int) (w : World) :
    Calls Try.prog 41 #[.int .i64 n] w fun e w' => e = .returned (.bool (inB n 0 3)) ∧ w' = w := by
  go_enter Try.func41, Try.ntmps41
  go_wp2_with (go_at_call 61; refine (within_any _ _ _ _).mono ?_; rintro e w' ⟨rfl, rfl⟩)
  go_ret
  exact ⟨rfl, rfl⟩
set_option maxHeartbeats 400000 in
theorem notDraw_any (n : Int) (w : World) :
    Calls Try.prog 66 #[.int .i64 n] w fun e w' => e = .returned (.bool (!inB n 0 1000000000)) ∧ w' = w := by
  go_enter Try.func66, Try.ntmps66
  go_wp2_with (go_at_call 61; refine (within_any _ _ _ _).mono ?_; rintro e w' ⟨rfl, rfl⟩)
  go_ret
  exact ⟨rfl, rfl⟩
set_option maxHeartbeats 400000 in
theorem hasKind_any (ents : Int) (sa : Option Addr) (nk cap : Nat) (n : Int) (w : World) (hk : nk ≤ 8) :
    Calls Try.prog 42 #[.agg #[.int .i64 ents, .slice sa nk cap], .int .i64 n] w fun e w' => e = .returned (.bool (inB n 0 (nk - 1))) ∧ Below w.heap.size w w' := by
  go_enter Try.func42, Try.ntmps42
  go_wp2_with (go_at_call 61; refine (within_any _ _ _ _).mono ?_; rintro e w' ⟨rfl, rfl⟩)
  go_ret
  exact ⟨rfl, (Below.refl _ _).alloc (Nat.le_refl _) _⟩
set_option maxHeartbeats 400000 in
theorem hasEntity_any (ents : Int) (sa : Option Addr) (nk cap : Nat) (n : Int) (w : World) (he : 1 ≤ ents) (he' : ents ≤ 8) :
    Calls Try.prog 40 #[.agg #[.int .i64 ents, .slice sa nk cap], .int .i64 n] w fun e w' => e = .returned (.bool (inB n 0 (ents - 1))) ∧ Below w.heap.size w w' := by
  go_enter Try.func40, Try.ntmps40
  go_wp2_with (go_at_call 61; refine (within_any _ _ _ _).mono ?_; rintro e w' ⟨rfl, rfl⟩)
  go_ret
  exact ⟨rfl, (Below.refl _ _).alloc (Nat.le_refl _) _⟩

set_option maxHeartbeats 2000000 in
theorem mayBe_other (ents : Int) (sa : Option Addr) (nk cap : Nat) (op a b c : Int) (w : World) (h6 : op ≠ 6) :
    Calls Try.prog 76 #[.agg #[.int .i64 ents, .slice sa nk cap], .agg #[.int .i64 op, .int .i64 a, .int .i64 b, .int .i64 c]] w
      fun e w' => e = .returned (.bool (mayF ents nk op a b c)) ∧ Below w.heap.size w w' := by
  have h6' : (op == 6) = false := by simpa using h6
  go_enter Try.func76, Try.ntmps76
  go_wp2_with (first | (go_at_call 41; refine (isRegister_any _ _).mono ?_; rintro e w' ⟨rfl, rfl⟩) | (go_at_call 85; refine (isValue_any _ _).mono ?_; rintro e w' ⟨rfl, rfl⟩) | (go_at_call 61; refine (within_any _ _ _ _).mono ?_; rintro e w' ⟨rfl, rfl⟩))
  all_goals
    go_ret
    refine ⟨?_, ((Below.refl _ _).alloc (Nat.le_refl _) _).alloc (by simp) _⟩
    simp_all [mayF] <;> exact Bool.eq_iff_iff.2 (by simp)

end Go.Proofs.Ytndlmgocldckfaa
