import Derived.Test.YtndlmgocldckfaaKpC
namespace Go.Proofs.Ytndlmgocldckfaa
open Go.RowKit
set_option linter.unusedVariables false
set_option linter.unusedSimpArgs false

theorem instr_any (rb : Nat) (sa : Option Addr) (sc : Nat) (L : List Int) (I : Nat) (kinds ents : Int) (w : World) (h : RawP w rb sa sc L I) (hkk : 1 ≤ kinds ∧ kinds ≤ 8) (hee : 1 ≤ ents ∧ ents ≤ 8) :
    Calls Try.prog 29 #[.pointer (some ⟨rb, 0, none⟩), .int .i64 kinds, .int .i64 ents] w fun e w' => e = .returned (.agg #[.int .i64 (instrF L kinds ents I).1.op, .int .i64 (instrF L kinds ents I).1.a, .int .i64 (instrF L kinds ents I).1.b, .int .i64 (instrF L kinds ents I).1.c]) ∧ Only (· = rb) w w' ∧ RawP w' rb sa sc L (instrF L kinds ents I).2 := by
  rcases ha : nextF L I 4 with ⟨a1, b1⟩
  have hk9 := nextF_lt L b1 (n := 9) (by omega)
  rcases hk : nextF L b1 9 with ⟨k, b2⟩
  rw [hk] at hk9
  simp only at hk9
  have hc : k = 0 ∨ k = 1 ∨ k = 2 ∨ k = 3 ∨ k = 4 ∨ k = 5 ∨ k = 6 ∨ k = 7 ∨ k = 8 := by omega
  rcases hc with rfl | rfl | rfl | rfl | rfl | rfl | rfl | rfl | rfl
  · have hF : instrF L kinds ents I = (⟨1, a1, (nextF L b2 31).1 - 10, 0⟩, (nextF L b2 31).2) := by simp [instrF, ha, hk]
    rw [hF]; exact instr_0 rb sa sc L I kinds ents w h a1 b1 b2 ha hk
  · have hF : instrF L kinds ents I = (⟨2, a1, (nextF L b2 4).1, 0⟩, (nextF L b2 4).2) := by simp [instrF, ha, hk]
    rw [hF]; exact instr_1 rb sa sc L I kinds ents w h a1 b1 b2 ha hk
  · have hF : instrF L kinds ents I = (⟨3, a1, (nextF L b2 4).1, 0⟩, (nextF L b2 4).2) := by simp [instrF, ha, hk]
    rw [hF]; exact instr_2 rb sa sc L I kinds ents w h a1 b1 b2 ha hk
  · have hF : instrF L kinds ents I = (⟨4, a1, 1 + (nextF L b2 12).1, 0⟩, (nextF L b2 12).2) := by simp [instrF, ha, hk]
    rw [hF]; exact instr_3 rb sa sc L I kinds ents w h a1 b1 b2 ha hk
  · have hF : instrF L kinds ents I = (⟨5, a1, 1 + (nextF L b2 3).1, 0⟩, (nextF L b2 3).2) := by simp [instrF, ha, hk]
    rw [hF]; exact instr_4 rb sa sc L I kinds ents w h a1 b1 b2 ha hk
  · have hF : instrF L kinds ents I = (⟨7, a1, 0, 0⟩, b2) := by simp [instrF, ha, hk]
    rw [hF]; exact instr_5 rb sa sc L I kinds ents w h a1 b1 b2 ha hk
  · have hF : instrF L kinds ents I = (⟨8, a1, 0, 0⟩, b2) := by simp [instrF, ha, hk]
    rw [hF]; exact instr_6 rb sa sc L I kinds ents w h a1 b1 b2 ha hk
  · have hF : instrF L kinds ents I = (⟨6, (nextF L b2 kinds).1, (nextF L (nextF L b2 kinds).2 ents).1, a1⟩, (nextF L (nextF L b2 kinds).2 ents).2) := by simp [instrF, ha, hk]
    rw [hF]; exact instr_7 rb sa sc L I kinds ents w h a1 b1 b2 ha hk hkk hee
  · have hF : instrF L kinds ents I = (⟨6, (nextF L b2 kinds).1, (nextF L (nextF L b2 kinds).2 ents).1, a1⟩, (nextF L (nextF L b2 kinds).2 ents).2) := by simp [instrF, ha, hk]
    rw [hF]; exact instr_8 rb sa sc L I kinds ents w h a1 b1 b2 ha hk hkk hee
end Go.Proofs.Ytndlmgocldckfaa
