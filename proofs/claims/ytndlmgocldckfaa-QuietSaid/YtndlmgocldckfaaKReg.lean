import Derived.Test.YtndlmgocldckfaaKPlan
namespace Go.Proofs.Ytndlmgocldckfaa
open Go.RowKit
set_option linter.unusedVariables false
set_option linter.unusedSimpArgs false

/-- What Register answers: the value, the error. -/
def regF (ents : Int) (s : KS) (ent r : Int) : Int × Int := if inB ent 0 (ents - 1) && inB r 0 3 then (s.regs (ent.toNat * 4 + r.toNat), 0) else (0, 1)

set_option maxRecDepth 100000 in
set_option maxHeartbeats 1000000 in
theorem tReg_any {R : Nat → Prop} {base : Nat} (kb qb mb : Nat) (ov : Value) (ents : Int) (ks : List (List Ins)) (draws : List Int) (s : KS) (ent r : Int) (w : World) (h : KerP R base w kb qb mb ov ents ks draws s) (he : 1 ≤ ents) (he' : ents ≤ 8) :
    Calls Try.prog 21 #[.pointer (some ⟨kb, 0, none⟩), .int .i64 ent, .int .i64 r] w fun e w' => e = .returned (.tuple #[.int .i64 (regF ents s ent r).1, .int .i64 (regF ents s ent r).2]) ∧ Below w.heap.size w w' := by
  obtain ⟨kv, h1, h6⟩ := h.kinds
  obtain ⟨ka, kc, rfl⟩ := h6.form
  have h0 := h.c0
  have hr := h.regs
  have hbk := lt_of_cell h0
  clear h h6
  rcases h1' : inB ent 0 (ents - 1) with _ | _
  · have HE : Hid (regF ents s ent r = (0, 1)) := by show _ = _; simp [regF, h1']
    clear hr
    go_enter Try.func21, Try.ntmps21
    go_wp2_with (go_at_call 40; refine (hasEntity_any _ _ _ _ _ _ he he').mono ?_; rintro e w2 ⟨rfl, hb2⟩; rw [h1'])
    go_ret2
    exact ⟨by rw [HE.out]; simp, hb2⟩
  · rcases h2' : inB r 0 3 with _ | _
    · have HE : Hid (regF ents s ent r = (0, 1)) := by show _ = _; simp [regF, h1', h2']
      clear hr
      go_enter Try.func21, Try.ntmps21
      go_wp2_with (first | (go_at_call 40; refine (hasEntity_any _ _ _ _ _ _ he he').mono ?_; rintro e w2 ⟨rfl, hb2⟩; rw [h1']) | (go_at_call 41; refine (isRegister_any _ _).mono ?_; rintro e w3 ⟨rfl, rfl⟩; rw [h2']))
      go_ret2
      exact ⟨by rw [HE.out]; simp, hb2⟩
    · have b1 : 0 ≤ ent ∧ ent ≤ ents - 1 := by simpa [inB] using h1'
      have b2 : 0 ≤ r ∧ r ≤ 3 := by simpa [inB] using h2'
      obtain ⟨b11, b12⟩ := b1
      obtain ⟨b21, b22⟩ := b2
      obtain ⟨en, rfl⟩ := Int.eq_ofNat_of_zero_le b11
      obtain ⟨rn, rfl⟩ := Int.eq_ofNat_of_zero_le b21
      have hcell := hr (en * 4 + rn) (by omega)
      have HE : Hid (regF ents s en rn = (s.regs (en * 4 + rn), 0)) := by show _ = _; simp [regF, h1', h2']
      rw [← Nat.add_assoc] at hcell
      clear hr
      generalize s.regs (en * 4 + rn) = v at hcell HE
      go_enter Try.func21, Try.ntmps21
      go_wp2_with (first | (go_at_call 40; refine (hasEntity_any _ _ _ _ _ _ he he').mono ?_; rintro e w2 ⟨rfl, hb2⟩; rw [h1']; have gcell := below_at hb2 hcell hbk) | (go_at_call 41; refine (isRegister_any _ _).mono ?_; rintro e w3 ⟨rfl, rfl⟩; rw [h2']))
      go_ret2
      exact ⟨by rw [HE.out]; simp, hb2⟩
end Go.Proofs.Ytndlmgocldckfaa
