import Derived.Test.YtpkkjgcpmnoalaaPlanP
namespace Go.Proofs.Ytpkkjgcpmnoalaa
open Go.RowKit
set_option linter.unusedVariables false
set_option linter.unusedSimpArgs false

set_option maxRecDepth 100000 in
set_option maxHeartbeats 1000000 in
theorem tNow_any {R : Nat → Prop} (kb mb : Nat) (ents : Int) (ks : List (List Ins)) (draws : List Int) (n : Nat) (w : World) (h : ProgK R w kb mb ents ks draws n) :
    Calls Try.prog 44 #[.pointer (some ⟨kb, 0, none⟩)] w fun e w' => e = .returned (.tuple #[.int .i64 0, .int .i64 n, .int .i64 draws.length]) ∧ Below w.heap.size w w' := by
  obtain ⟨⟨kv, dv, qb, h0, h1, h2, h3, h4, h5, h6, h7, h8, h9⟩, hr, hnx, ht, ⟨es, clock, hm, hes, hkeys⟩, hne⟩ := h
  obtain ⟨da, dc, rfl⟩ := h7.form
  have hdl := h7.1
  clear hr hnx ht h0 h1 h6 h7 hkeys
  subst hes
  go_enter Try.func44, Try.ntmps44
  go_wp2
  go_quiet ((go_at_call 78; exact Calls.quiet_of_same (qLen_any qb mb es clock _ h9 hm)))
  go_wp2
  go_ret3
  exact ⟨rfl, below_drewN (Below.refl _ _) nq⟩

/-- What Register answers. -/
def regE (ents ent r : Int) : Int := if inB ent 0 (ents - 1) && inB r 0 3 then 0 else 1

set_option maxRecDepth 100000 in
set_option maxHeartbeats 1000000 in
theorem tReg_any {R : Nat → Prop} (kb mb : Nat) (ents : Int) (ks : List (List Ins)) (draws : List Int) (n : Nat) (ent r : Int) (w : World) (h : ProgK R w kb mb ents ks draws n) (he : 1 ≤ ents) (he' : ents ≤ 8) :
    Calls Try.prog 46 #[.pointer (some ⟨kb, 0, none⟩), .int .i64 ent, .int .i64 r] w fun e w' => e = .returned (.tuple #[.int .i64 0, .int .i64 (regE ents ent r)]) ∧ Below w.heap.size w w' := by
  obtain ⟨⟨kv, dv, qb, h0, h1, h2, h3, h4, h5, h6, h7, h8, h9⟩, hr, hnx, ht, hmap, hne⟩ := h
  obtain ⟨ka, kc, rfl⟩ := h6.form
  have hbk := lt_of_cell h0
  clear h2 h3 h4 h5 h7 h9 hnx ht hmap
  rcases h1' : inB ent 0 (ents - 1) with _ | _
  · have HE : Hid (regE ents ent r = 1) := by show _ = _; simp [regE, h1']
    go_enter Try.func46, Try.ntmps46
    go_wp2_with (go_at_call 71; refine (hasEntity_any _ _ _ _ _ _ he he').mono ?_; rintro e w2 ⟨rfl, hb2⟩; rw [h1'])
    go_ret2
    exact ⟨by rw [HE.out]; simp, hb2⟩
  · rcases h2' : inB r 0 3 with _ | _
    · have HE : Hid (regE ents ent r = 1) := by show _ = _; simp [regE, h1', h2']
      go_enter Try.func46, Try.ntmps46
      go_wp2_with (first | (go_at_call 71; refine (hasEntity_any _ _ _ _ _ _ he he').mono ?_; rintro e w2 ⟨rfl, hb2⟩; rw [h1']) | (go_at_call 79; refine (isRegister_any _ _).mono ?_; rintro e w3 ⟨rfl, rfl⟩; rw [h2']))
      go_ret2
      exact ⟨by rw [HE.out]; simp, hb2⟩
    · have HE : Hid (regE ents ent r = 0) := by show _ = _; simp [regE, h1', h2']
      have b1 : 0 ≤ ent ∧ ent ≤ ents - 1 := by simpa [inB] using h1'
      have b2 : 0 ≤ r ∧ r ≤ 3 := by simpa [inB] using h2'
      obtain ⟨b11, b12⟩ := b1
      obtain ⟨b21, b22⟩ := b2
      obtain ⟨en, rfl⟩ := Int.eq_ofNat_of_zero_le b11
      obtain ⟨rn, rfl⟩ := Int.eq_ofNat_of_zero_le b21
      have hcell := hr (en * 4 + rn) (by omega)
      rw [← Nat.add_assoc] at hcell
      go_enter Try.func46, Try.ntmps46
      go_wp2_with (first | (go_at_call 71; refine (hasEntity_any _ _ _ _ _ _ he he').mono ?_; rintro e w2 ⟨rfl, hb2⟩; rw [h1']; have gcell := below_at hb2 hcell hbk) | (go_at_call 79; refine (isRegister_any _ _).mono ?_; rintro e w3 ⟨rfl, rfl⟩; rw [h2']))
      go_ret2
      exact ⟨by rw [HE.out]; simp, hb2⟩
end Go.Proofs.Ytpkkjgcpmnoalaa
