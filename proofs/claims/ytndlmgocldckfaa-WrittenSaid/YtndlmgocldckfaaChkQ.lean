import Derived.Test.YtndlmgocldckfaaChkP
namespace Go.Proofs.Ytndlmgocldckfaa
open Go.RowKit
set_option linter.unusedVariables false
set_option linter.unusedSimpArgs false

set_option maxHeartbeats 400000 in
theorem mCheck_no (ents : Int) (sa : Option Addr) (nk cap : Nat) (w : World) (hno : (!inB ents 1 8 || !inB nk 1 8) = true) :
    Calls Try.prog 45 #[.agg #[.int .i64 ents, .slice sa nk cap]] w
      fun e w' => e = .returned (.tuple #[.int .i64 2, .int .i64 0, .int .i64 0]) ∧ Below w.heap.size w w' := by
  rcases h1 : inB ents 1 8 with _ | _ <;> rcases h2 : inB nk 1 8 with _ | _
  case true.true => simp [h1, h2] at hno
  all_goals
    clear hno
    go_enter Try.func45, Try.ntmps45
    go_wp2_with (go_at_call 61; refine (within_any _ _ _ _).mono ?_; rintro e w' ⟨rfl, rfl⟩)
    go_ret3
    exact ⟨rfl, (Below.refl _ _).alloc (Nat.le_refl _) _⟩

set_option maxHeartbeats 800000 in
theorem mCheck_yes (ents : Int) (b off cap : Nat) (ks : List (List Ins)) (w : World) (he : 1 ≤ ents) (he' : ents ≤ 8) (hk : 1 ≤ ks.length) (hk' : ks.length ≤ 8)
    (hbw : b < w.heap.size) (hK : KindsAt w.heap.size w b off ks) :
    Calls Try.prog 45 #[.agg #[.int .i64 ents, .slice (some ⟨b, off, none⟩) ks.length cap]] w
      fun e w' => e = .returned (checkV ents ks) ∧ Below w.heap.size w w' := by
  have h1 : inB ents 1 8 = true := by simp [inB]; omega
  have h2 : inB ks.length 1 8 = true := by simp [inB]; omega
  have hF : Hid (kindF ents ks = firstKind ents ks.length ks 0) := by show _ = _; simp [kindF, h1, h2]
  go_enter Try.func45, Try.ntmps45
  go_wp2_with (go_at_call 61; refine (within_any _ _ _ _).mono ?_; rintro e w' ⟨rfl, rfl⟩)
  go_loopw [23, 5, 6, 7, 8] (fun i _ _ _ _ wr => ∃ n : Nat, n ≤ ks.length ∧ i = .int .i64 n ∧ Hid (firstKind ents ks.length (ks.drop n) n = firstKind ents ks.length ks 0) ∧ Below w.heap.size w wr ∧ wr.cell? ⟨w.heap.size, 0, none⟩ = some (.int .i64 ents) ∧ wr.cell? ⟨w.heap.size, 1, none⟩ = some (.slice (some ⟨b, off, none⟩) ks.length cap) ∧ w.heap.size < wr.heap.size) (fun i _ _ _ _ _ => ks.length - (intOf i).toNat)
  case atStart => exact ⟨0, Nat.zero_le _, rfl, rfl, (Below.refl _ _).alloc (Nat.le_refl _) _, by simp [go_sem], by simp [go_sem], by simp⟩
  case round =>
    obtain ⟨n, hn, rfl, hfb, hbel, hc0, hc1, hsz⟩ := hrel
    by_cases hlt : n < ks.length
    · obtain ⟨v, hv0, hv⟩ := (hK.below hbel hbw (Nat.le_refl _)) n ks[n] (by simp)
      go_wp2_with fail
      refine (checkCode_any _ _ _ _ _ ks[n] _ he he' hk' (hv.mono (by omega))).mono ?_
      rintro e w1 ⟨rfl, hb1⟩
      have hd := firstKind_drop (ents := ents) (nk := ks.length) hlt
      rcases hm : codeF ents ks.length ks[n] with _ | p
      · rw [hm] at hd
        have hd' : Hid (firstKind ents ks.length (ks.drop (n + 1)) (n + 1) = firstKind ents ks.length ks 0) := by show _ = _; rw [← hfb.out, hd]
        clear hd
        go_wp2
        go_roundw
        case rel => exact ⟨n + 1, by omega, by go_num, hd', hbel.trans (hb1.mono (by omega)), below_at hb1 hc0 hsz, below_at hb1 hc1 hsz, by have := hb1.size; omega⟩
        case measure => simp [intOf]; omega
      · rw [hm] at hd
        have hd' : Hid (kindF ents ks = some (n, p)) := by show _ = _; rw [hF.out, ← hfb.out, hd]
        clear hd
        go_wp2
        go_ret3
        refine ⟨by simp [checkV, hd'.out], hbel.trans (hb1.mono (by omega))⟩
    · have hd' : Hid (kindF ents ks = none) := by
        show _ = _; rw [hF.out, ← hfb.out, List.drop_of_length_le (by omega)]; rfl
      go_wp2
      go_ret3
      exact ⟨by simp [checkV, hd'.out], hbel⟩

theorem mCheck_any (ents : Int) (v : Value) (ks : List (List Ins)) (w : World) (hv : KindsV w.heap.size w v ks) :
    Calls Try.prog 45 #[.agg #[.int .i64 ents, v]] w
      fun e w' => e = .returned (checkV ents ks) ∧ Below w.heap.size w w' := by
  rcases hno : (!inB ents 1 8 || !inB ks.length 1 8) with _ | _
  · simp [inB] at hno
    obtain ⟨_, ⟨rfl, rfl⟩ | ⟨b, off, cap', rfl, hb, hc⟩ | ⟨va, vc, rfl, rfl⟩⟩ := hv
    rotate_left
    · exact mCheck_yes ents b off cap' ks w (by omega) (by omega) (by omega) (by omega) hb hc
    · simp at hno
    · simp at hno
  · have hV : checkV ents ks = .tuple #[.int .i64 2, .int .i64 0, .int .i64 0] := by simp [checkV, kindF, hno]
    rw [hV]
    obtain ⟨_, ⟨rfl, rfl⟩ | ⟨b, off, cap', rfl, hb, hc⟩ | ⟨va, vc, rfl, rfl⟩⟩ := hv
    · exact mCheck_no ents none 0 0 w (by simpa using hno)
    · exact mCheck_no ents _ ks.length cap' w hno
    · exact mCheck_no ents _ 0 vc w (by simpa using hno)

end Go.Proofs.Ytndlmgocldckfaa
