import Derived.Test.YtpkkjgcpmnoalaaRows
import Derived.WalkKit
import Derived.WalkSpells
import Derived.WalkLawsBesides
import Derived.WalkSmall
namespace Go.Proofs.Ytpkkjgcpmnoalaa
open Go.RowKit

/-! The leaves: tests on numbers, of the document's answer and of the program. -/

def inB (n lo hi : Int) : Bool := decide (lo ≤ n) && decide (n ≤ hi)

set_option maxHeartbeats 400000 in
theorem in_any (n lo hi : Int) (w : World) :
    Calls Try.prog 53 #[.int .i64 n, .int .i64 lo, .int .i64 hi] w fun e w' => e = .returned (.bool (inB n lo hi)) ∧ w' = w := by
  by_cases h1 : lo ≤ n <;> by_cases h2 : n ≤ hi
  all_goals
    go_enter Try.func53, Try.ntmps53
    go_wp2
    go_ret
    exact ⟨by simp [inB, *], rfl⟩
set_option maxHeartbeats 400000 in
theorem value_any (n : Int) (w : World) :
    Calls Try.prog 83 #[.int .i64 n] w fun e w' => e = .returned (.bool (inB n (-1000000000) 1000000000)) ∧ w' = w := by
  go_enter Try.func83, Try.ntmps83
  go_wp2_with (go_at_call 53; refine (in_any _ _ _ _).mono ?_; rintro e w' ⟨rfl, rfl⟩)
  go_ret
  exact ⟨rfl, rfl⟩
set_option maxHeartbeats 400000 in
theorem register_any (n : Int) (w : World) :
    Calls Try.prog 80 #[.int .i64 n] w fun e w' => e = .returned (.bool (inB n 0 3)) ∧ w' = w := by
  go_enter Try.func80, Try.ntmps80
  go_wp2_with (go_at_call 53; refine (in_any _ _ _ _).mono ?_; rintro e w' ⟨rfl, rfl⟩)
  go_ret
  exact ⟨rfl, rfl⟩

/-- May an instruction be, in a model of so many entities and kinds? -/
def mayF (ents : Int) (nk : Nat) (op a b c : Int) : Bool :=
  if op = 6 then (inB a 0 (nk - 1) && inB b 0 (ents - 1)) && inB c 0 3
  else if c ≠ 0 then false
  else if op = 1 then inB a 0 3 && inB b (-1000000000) 1000000000
  else if op = 2 ∨ op = 3 then inB a 0 3 && inB b 0 3
  else if op = 4 then inB a 0 3 && inB b 1 1000000000
  else if op = 5 then inB a 0 3 && inB b 1 16
  else if op = 7 ∨ op = 8 then decide (b = 0) && inB a 0 3
  else false

set_option maxHeartbeats 1000000 in
theorem may_six (ents : Int) (sa : Option Addr) (nk cap : Nat) (a b c : Int) (w : World) (he : 1 ≤ ents) (he' : ents ≤ 8) (hk : nk ≤ 8) :
    Calls Try.prog 54 #[.agg #[.int .i64 ents, .slice sa nk cap], .agg #[.int .i64 6, .int .i64 a, .int .i64 b, .int .i64 c]] w
      fun e w' => e = .returned (.bool (mayF ents nk 6 a b c)) ∧ Below w.heap.size w w' := by
  go_enter Try.func54, Try.ntmps54
  go_wp2_with (first | (go_at_call 80; refine (register_any _ _).mono ?_; rintro e w' ⟨rfl, rfl⟩) | (go_at_call 53; refine (in_any _ _ _ _).mono ?_; rintro e w' ⟨rfl, rfl⟩))
  all_goals
    go_ret
    refine ⟨?_, ((Below.refl _ _).alloc (Nat.le_refl _) _).alloc (by simp) _⟩
    simp [mayF, *]

set_option maxHeartbeats 2000000 in
theorem may_other (ents : Int) (sa : Option Addr) (nk cap : Nat) (op a b c : Int) (w : World) (h6 : op ≠ 6) :
    Calls Try.prog 54 #[.agg #[.int .i64 ents, .slice sa nk cap], .agg #[.int .i64 op, .int .i64 a, .int .i64 b, .int .i64 c]] w
      fun e w' => e = .returned (.bool (mayF ents nk op a b c)) ∧ Below w.heap.size w w' := by
  have h6' : (op != 6) = true := by simpa using h6
  by_cases hc : c = 0
  · subst hc
    go_enter Try.func54, Try.ntmps54
    go_wp2_with (first | (go_at_call 80; refine (register_any _ _).mono ?_; rintro e w' ⟨rfl, rfl⟩) | (go_at_call 83; refine (value_any _ _).mono ?_; rintro e w' ⟨rfl, rfl⟩) | (go_at_call 53; refine (in_any _ _ _ _).mono ?_; rintro e w' ⟨rfl, rfl⟩))
    all_goals
      go_ret
      refine ⟨?_, ((Below.refl _ _).alloc (Nat.le_refl _) _).alloc (by simp) _⟩
      simp_all [mayF]
  · have hc' : (c != 0) = true := by simpa using hc
    go_enter Try.func54, Try.ntmps54
    go_wp2_with (first | (go_at_call 80; refine (register_any _ _).mono ?_; rintro e w' ⟨rfl, rfl⟩) | (go_at_call 83; refine (value_any _ _).mono ?_; rintro e w' ⟨rfl, rfl⟩) | (go_at_call 53; refine (in_any _ _ _ _).mono ?_; rintro e w' ⟨rfl, rfl⟩))
    go_ret
    refine ⟨?_, ((Below.refl _ _).alloc (Nat.le_refl _) _).alloc (by simp) _⟩
    simp_all [mayF]

theorem may_any (ents : Int) (sa : Option Addr) (nk cap : Nat) (op a b c : Int) (w : World) (he : 1 ≤ ents) (he' : ents ≤ 8) (hk : nk ≤ 8) :
    Calls Try.prog 54 #[.agg #[.int .i64 ents, .slice sa nk cap], .agg #[.int .i64 op, .int .i64 a, .int .i64 b, .int .i64 c]] w
      fun e w' => e = .returned (.bool (mayF ents nk op a b c)) ∧ Below w.heap.size w w' := by
  by_cases h6 : op = 6
  · subst h6; exact may_six ents sa nk cap a b c w he he' hk
  · exact may_other ents sa nk cap op a b c w h6

end Go.Proofs.Ytpkkjgcpmnoalaa
