import Derived.Test.YtndlmgocldckfaaKPlan
namespace Go.Proofs.Ytndlmgocldckfaa
open Go.RowKit
set_option linter.unusedVariables false
set_option linter.unusedSimpArgs false

/-! The law's own small functions: which of n things a raw number speaks of. -/
def pickF (c n : Int) : Int := (if c < 0 then -(c + 1) else c) % n

theorem pickF_lt (c : Int) {n : Int} (hn : 1 ≤ n) : 0 ≤ pickF c n ∧ pickF c n < n := by
  unfold pickF
  exact ⟨Int.emod_nonneg _ (by omega), Int.emod_lt_of_pos _ (by omega)⟩

set_option maxHeartbeats 1000000 in
theorem pick_any (c n : Int) (w : World) (hc : -9223372036854775808 ≤ c ∧ c ≤ 9223372036854775807) (hn : 1 ≤ n ∧ n ≤ 9223372036854775807) :
    Calls Try.prog 10 #[.int .i64 c, .int .i64 n] w fun e w' => e = .returned (.int .i64 (pickF c n)) ∧ w' = w := by
  obtain ⟨c1, c2⟩ := hc
  obtain ⟨n1, n2⟩ := hn
  have hn0 : (n == 0) = false := by simp; omega
  have hn0' : n ≠ 0 := by omega
  have hlt := pickF_lt c n1
  by_cases h : c < 0
  · have hw1 : IntKind.i64.wrap (c + 1) = c + 1 := by rw [IntKind.wrap_i64]; omega
    have hw2 : IntKind.i64.wrap (-(c + 1)) = -(c + 1) := by rw [IntKind.wrap_i64]; omega
    have hm : (-(c + 1)).tmod n = pickF c n := by rw [Int.tmod_eq_emod_of_nonneg (by omega)]; simp [pickF, h]
    have hw3 : IntKind.i64.wrap (pickF c n) = pickF c n := by rw [IntKind.wrap_i64]; omega
    have h' : decide (c < 0) = true := by simpa using h
    go_enter Try.func10, Try.ntmps10
    go_wp2
    go_ret
    exact ⟨by simp [hw1, hw2, hm, hw3], rfl⟩
  · have hm : c.tmod n = pickF c n := by rw [Int.tmod_eq_emod_of_nonneg (by omega)]; simp [pickF, h]
    have hw3 : IntKind.i64.wrap (pickF c n) = pickF c n := by rw [IntKind.wrap_i64]; omega
    have h' : decide (c < 0) = false := by simpa using h
    go_enter Try.func10, Try.ntmps10
    go_wp2
    go_ret
    exact ⟨by simp [hm, hw3], rfl⟩

/-- Raw numbers as they are read: I of them are used. -/
structure RawP (w : World) (rb : Nat) (sa : Option Addr) (sc : Nat) (L : List Int) (I : Nat) : Prop where
  c0 : w.cell? ⟨rb, 0, none⟩ = some (.slice sa L.length sc)
  c1 : w.cell? ⟨rb, 1, none⟩ = some (.int .i64 I)
  room : Room w rb 2
  row : ∀ i (h : i < L.length), ∃ b off, sa = some ⟨b, off, none⟩ ∧ b ≠ rb ∧ w.cell? ⟨b, off + i, none⟩ = some (.int .i64 L[i])
  le : I ≤ L.length
  len : L.length ≤ 17592186044416
  vals : ∀ c ∈ L, -9223372036854775808 ≤ c ∧ c ≤ 9223372036854775807

def nextF (L : List Int) (I : Nat) (n : Int) : Int × Nat := if h : I < L.length then (pickF L[I] n, I + 1) else (0, I)

theorem nextF_lt (L : List Int) (I : Nat) {n : Int} (hn : 1 ≤ n) : 0 ≤ (nextF L I n).1 ∧ (nextF L I n).1 < n := by
  unfold nextF
  split
  · exact pickF_lt _ hn
  · simp; omega

theorem RawP.only {w w' : World} {rb : Nat} {sa : Option Addr} {sc : Nat} {L : List Int} {I : Nat} {U : Nat → Prop} (h : RawP w rb sa sc L I) (ho : Only U w w') (hr : ¬ U rb) (hU : ∀ b off, sa = some ⟨b, off, none⟩ → L ≠ [] → ¬ U b) : RawP w' rb sa sc L I := by
  refine ⟨ho.at h.c0 hr, ho.at h.c1 hr, h.room.only ho hr, fun i hi => ?_, h.le, h.len, h.vals⟩
  obtain ⟨b, off, h1, h2, h3⟩ := h.row i hi
  exact ⟨b, off, h1, h2, ho.at h3 (hU b off h1 (by intro hc; rw [hc] at hi; simp at hi))⟩

theorem RawP.step {w : World} {rb : Nat} {sa : Option Addr} {sc : Nat} {L : List Int} {I : Nat} (h : RawP w rb sa sc L I) (hI : I < L.length) : RawP (w.setCell ⟨rb, 1, none⟩ (.int .i64 ((I : Int) + 1))) rb sa sc L (I + 1) := by
  have hr := h.room 1 (by omega)
  refine ⟨(World.cell?_setCell_other _ _ _ _ (by simp)).trans h.c0, ?_, ?_, fun i hi => ?_, by omega, h.len, h.vals⟩
  · have := World.cell?_setCell_same w ⟨rb, 1, none⟩ (.int .i64 ((I : Int) + 1)) h.c1
    simpa using this
  · exact h.room.setCell _ _
  · obtain ⟨b, off, h1, h2, h3⟩ := h.row i hi
    exact ⟨b, off, h1, h2, (World.cell?_setCell_other _ _ _ _ (by simp [Ne.symm h2])).trans h3⟩

set_option maxRecDepth 100000 in
set_option maxHeartbeats 1000000 in
theorem next_any (rb : Nat) (sa : Option Addr) (sc : Nat) (L : List Int) (I : Nat) (n : Int) (w : World) (h : RawP w rb sa sc L I) (hn : 1 ≤ n ∧ n ≤ 9223372036854775807) :
    Calls Try.prog 28 #[.pointer (some ⟨rb, 0, none⟩), .int .i64 n] w fun e w' => e = .returned (.int .i64 (nextF L I n).1) ∧ Only (· = rb) w w' ∧ RawP w' rb sa sc L (nextF L I n).2 := by
  have H := hide h
  have h0 := h.c0
  have h1 := h.c1
  have hle := h.le
  have hlen := h.len
  by_cases hI : I < L.length
  · have HF : Hid (nextF L I n = (pickF L[I] n, I + 1)) := by show _ = _; simp [nextF, hI]
    obtain ⟨b, off, rfl, hb, hc⟩ := h.row I hI
    have hv := h.vals L[I] (List.getElem_mem hI)
    have hf := (h.room 1 (by omega)).2
    have hI' : decide ((L.length : Int) ≤ (I : Int)) = false := by simp; omega
    have hw1 : IntKind.i64.wrap ((I : Int) + 1) = (I : Int) + 1 := by rw [IntKind.wrap_i64]; omega
    have hw2 : IntKind.i64.wrap ((I : Int) + 1 - 1) = (I : Int) := by rw [IntKind.wrap_i64]; omega
    generalize hx : L[I] = x at hc hv HF
    clear h
    go_enter Try.func28, Try.ntmps28
    go_wp2_with fail
    go_quiet (fail)
    go_wp2_with fail
    generalize hW : (w.drewN _).setCell ⟨rb, 1, none⟩ (.int .i64 ((I : Int) + 1)) = W
    have hP : RawP W rb (some ⟨b, off, none⟩) sc L (I + 1) := by
      rw [← hW]
      exact (H.out.only (Only.new (S := fun _ => False) (below_drewN (Below.refl _ _) _)) (by simp) (by simp)).step hI
    have hO : Only (· = rb) w W := by
      rw [← hW]
      exact (Only.new (S := (· = rb)) (below_drewN (Below.refl _ _) _)).setCell (p := ⟨rb, 1, none⟩) (show rb = rb from rfl) _
    have g0 := hP.c0
    have g1 := hP.c1
    obtain ⟨b', off', hbe, hb', hc'⟩ := hP.row I hI
    simp only [Option.some.injEq, Addr.mk.injEq] at hbe
    obtain ⟨rfl, rfl, _⟩ := hbe
    rw [hx] at hc'
    have HP := hide hP
    have HO := hide hO
    clear hP hO hW h0 h1 hc H hx
    have hIi : (I : Int) < (L.length : Int) := by omega
    have g1 : W.cell? ⟨rb, 1, none⟩ = some (.int .i64 ((I : Int) + 1)) := by simpa using g1
    go_quiet ((go_at_call 10; exact Calls.quiet_of_same (pick_any _ _ _ hv hn)))
    go_wp2_with fail
    go_ret
    rw [HF.out]
    exact ⟨rfl, HO.out.trans (Only.new (below_drewN (Below.refl _ _) _)), HP.out.only (Only.new (S := fun _ => False) (below_drewN (Below.refl _ _) _)) (by simp) (by simp)⟩
  · have HF : Hid (nextF L I n = (0, I)) := by show _ = _; simp [nextF, hI]
    have hI' : decide ((L.length : Int) ≤ (I : Int)) = true := by simp; omega
    clear h
    go_enter Try.func28, Try.ntmps28
    go_wp2
    go_quiet (fail)
    go_wp2
    go_ret
    rw [HF.out]
    exact ⟨rfl, Only.new (below_drewN (Below.refl _ _) _), H.out.only (Only.new (S := fun _ => False) (below_drewN (Below.refl _ _) _)) (by simp) (by simp)⟩
end Go.Proofs.Ytndlmgocldckfaa
