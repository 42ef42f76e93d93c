import Derived.Test.YtndlmgocldckfaaLeafP
namespace Go.Proofs.Ytndlmgocldckfaa
open Go.RowKit
set_option linter.unusedVariables false
set_option linter.unusedSimpArgs false

set_option maxHeartbeats 2000000 in
theorem mayBe_six (ents : Int) (sa : Option Addr) (nk cap : Nat) (a b c : Int) (w : World) (he : 1 ≤ ents) (he' : ents ≤ 8) (hk : nk ≤ 8) :
    Calls Try.prog 76 #[.agg #[.int .i64 ents, .slice sa nk cap], .agg #[.int .i64 6, .int .i64 a, .int .i64 b, .int .i64 c]] w
      fun e w' => e = .returned (.bool (mayF ents nk 6 a b c)) ∧ Below w.heap.size w w' := by
  go_enter Try.func76, Try.ntmps76
  go_wp2_with (first | (go_at_call 42; refine (hasKind_any _ _ _ _ _ _ hk).mono ?_; rintro e w' ⟨rfl, hb⟩; obtain ⟨hc, hf⟩ := bcell hb; have hz : w.heap.size + 1 < w'.heap.size := (by have := hb.size; simp at this; omega)) | (go_at_call 40; refine (hasEntity_any _ _ _ _ _ _ he he').mono ?_; rintro e w' ⟨rfl, hb2⟩; obtain ⟨hc2, hf2⟩ := bcell hb2) | (go_at_call 41; refine (isRegister_any _ _).mono ?_; rintro e w' ⟨rfl, rfl⟩))
  all_goals
    go_ret
    refine ⟨by simp_all [mayF], ?_⟩
    clear hc hf
    first
      | exact (((Below.refl _ _).alloc (Nat.le_refl _) _).alloc (by simp) _).trans ((hb.mono (by simp; omega)).trans (hb2.mono (by have := hb.size; simp at this ⊢; omega)))
      | exact (((Below.refl _ _).alloc (Nat.le_refl _) _).alloc (by simp) _).trans (hb.mono (by simp; omega))
theorem mayBe_any (ents : Int) (sa : Option Addr) (nk cap : Nat) (op a b c : Int) (w : World) (he : 1 ≤ ents) (he' : ents ≤ 8) (hk : nk ≤ 8) :
    Calls Try.prog 76 #[.agg #[.int .i64 ents, .slice sa nk cap], .agg #[.int .i64 op, .int .i64 a, .int .i64 b, .int .i64 c]] w
      fun e w' => e = .returned (.bool (mayF ents nk op a b c)) ∧ Below w.heap.size w w' := by
  by_cases h6 : op = 6
  · subst h6; exact mayBe_six ents sa nk cap a b c w he he' hk
  · exact mayBe_other ents sa nk cap op a b c w h6

end Go.Proofs.Ytndlmgocldckfaa
