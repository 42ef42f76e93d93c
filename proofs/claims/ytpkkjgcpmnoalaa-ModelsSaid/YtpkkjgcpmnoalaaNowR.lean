import Derived.Test.YtpkkjgcpmnoalaaNewR
import Derived.BigQuiet
import Derived.Deep.QuietTactic
namespace Go.Proofs.Ytpkkjgcpmnoalaa
open Go.RowKit
set_option linter.unusedVariables false
set_option linter.unusedSimpArgs false

set_option maxRecDepth 100000 in
set_option maxHeartbeats 1000000 in
theorem rNow_any {R : Nat → Prop} (rb : Nat) (ents : Int) (ks : List (List Ins)) (draws : List Int) (taken clock next : Int) (regs : List Int) (q : List Ev) (w : World) (h : RefK R w rb ents ks draws taken clock next regs q) (ht : 0 ≤ taken) (ht' : taken ≤ 1000) :
    Calls Try.prog 45 #[.pointer (some ⟨rb, 0, none⟩)] w fun e w' => e = .returned (.tuple #[.int .i64 clock, .int .i64 q.length, .int .i64 (draws.length - taken)]) ∧ Below w.heap.size w w' := by
  obtain ⟨⟨kv, dv, rv, qv, h0, h1, h2, h3, h4, h5, h6, h7, hk, hd, hr, hq⟩, hroom⟩ := h
  obtain ⟨da, dc, rfl⟩ := hd.form
  obtain ⟨qa, qc, rfl⟩ := hq.form
  have hdl := hd.1
  clear h0 h1 h5 h6 hk hd hr hq hroom
  have hw : IntKind.i64.wrap ((draws.length : Int) - taken) = (draws.length : Int) - taken := by rw [IntKind.wrap_i64]; omega
  go_enter Try.func45, Try.ntmps45
  go_wp2
  go_quiet (fail)
  go_wp2
  go_ret3
  exact ⟨by simp [hw], below_drewN (Below.refl _ _) nq⟩

set_option maxHeartbeats 1000000 in
theorem room_any {R : Nat → Prop} (rb : Nat) (ents : Int) (ks : List (List Ins)) (draws : List Int) (taken clock next : Int) (regs : List Int) (q : List Ev) (w : World) (h : RefK R w rb ents ks draws taken clock next regs q) :
    Calls Try.prog 74 #[.pointer (some ⟨rb, 0, none⟩)] w fun e w' => e = .returned (.bool (decide (q.length < 16) && decide (next < 1000000000))) ∧ w' = w := by
  obtain ⟨⟨kv, dv, rv, qv, h0, h1, h2, h3, h4, h5, h6, h7, hk, hd, hr, hq⟩, hroom⟩ := h
  obtain ⟨qa, qc, rfl⟩ := hq.form
  clear h0 h1 h2 h3 h4 h6 hk hd hr hroom
  by_cases h16 : q.length < 16
  · have hd : decide ((q.length : Int) < 16) = true := by simp; omega
    go_enter Try.func74, Try.ntmps74
    go_wp2
    go_ret
    exact ⟨by simp [h16], rfl⟩
  · have hd : decide ((q.length : Int) < 16) = false := by simp; omega
    go_enter Try.func74, Try.ntmps74
    go_wp2
    go_ret
    exact ⟨by simp [h16], rfl⟩

set_option maxRecDepth 100000 in
set_option maxHeartbeats 1000000 in
theorem rReg_any {R : Nat → Prop} (rb : Nat) (ents : Int) (ks : List (List Ins)) (draws : List Int) (taken clock next : Int) (regs : List Int) (q : List Ev) (ent r : Int) (w : World) (h : RefK R w rb ents ks draws taken clock next regs q) (he : 1 ≤ ents) (he' : ents ≤ 8) (hrl : (regs.length : Int) = ents * 4) :
    Calls Try.prog 47 #[.pointer (some ⟨rb, 0, none⟩), .int .i64 ent, .int .i64 r] w fun e w' => w' = w ∧
      (((inB ent 0 (ents - 1) && inB r 0 3) = false ∧ e = .returned (.tuple #[.int .i64 0, .int .i64 1])) ∨ ((inB ent 0 (ents - 1) && inB r 0 3) = true ∧ ∃ x, regs[(ent * 4 + r).toNat]? = some x ∧ e = .returned (.tuple #[.int .i64 x, .int .i64 0]))) := by
  obtain ⟨⟨kv, dv, rv, qv, h0, h1, h2, h3, h4, h5, h6, h7, hk, hd, hr, hq⟩, hroom⟩ := h
  clear h1 h2 h3 h4 h5 h7 hk hd hq hroom
  rcases h1' : inB ent 0 (ents - 1) with _ | _
  · go_enter Try.func47, Try.ntmps47
    go_wp2_with (first | (go_at_call 53; refine (in_any _ _ _ _).mono ?_; rintro e w1 ⟨rfl, rfl⟩; rw [h1']) | (go_at_call 80; refine (register_any _ _).mono ?_; rintro e w1 ⟨rfl, rfl⟩))
    go_ret2
    exact ⟨rfl, .inl ⟨rfl, by simp⟩⟩
  · rcases h2' : inB r 0 3 with _ | _
    · go_enter Try.func47, Try.ntmps47
      go_wp2_with (first | (go_at_call 53; refine (in_any _ _ _ _).mono ?_; rintro e w1 ⟨rfl, rfl⟩; rw [h1']) | (go_at_call 80; refine (register_any _ _).mono ?_; rintro e w1 ⟨rfl, rfl⟩; rw [h2']))
      go_ret2
      exact ⟨rfl, .inl ⟨rfl, by simp⟩⟩
    · have b1 : 0 ≤ ent ∧ ent ≤ ents - 1 := by simpa [inB] using h1'
      have b2 : 0 ≤ r ∧ r ≤ 3 := by simpa [inB] using h2'
      obtain ⟨b11, b12⟩ := b1
      obtain ⟨b21, b22⟩ := b2
      obtain ⟨en, rfl⟩ := Int.eq_ofNat_of_zero_le b11
      obtain ⟨rn, rfl⟩ := Int.eq_ofNat_of_zero_le b21
      have hlt : en * 4 + rn < regs.length := by omega
      obtain ⟨_, ⟨_, h0'⟩ | ⟨b, off, cap, rfl, hb, hrow⟩⟩ := hr
      · rw [h0'] at hlt; simp at hlt
      · have hcell := hrow (en * 4 + rn) (.int .i64 regs[en * 4 + rn]) (by simp [ints, hlt])
        have HX : Hid (regs[((en : Int) * 4 + rn).toNat]? = some regs[en * 4 + rn]) := by
          show _ = _
          rw [show ((en : Int) * 4 + rn).toNat = en * 4 + rn by omega]; simp [hlt]
        generalize regs[en * 4 + rn] = x at hcell HX
        go_enter Try.func47, Try.ntmps47
        go_wp2_with (first | (go_at_call 53; refine (in_any _ _ _ _).mono ?_; rintro e w1 ⟨rfl, rfl⟩; rw [h1']) | (go_at_call 80; refine (register_any _ _).mono ?_; rintro e w1 ⟨rfl, rfl⟩; rw [h2']))
        go_ret2
        exact ⟨rfl, .inr ⟨rfl, x, HX.out, by simp⟩⟩
end Go.Proofs.Ytpkkjgcpmnoalaa
