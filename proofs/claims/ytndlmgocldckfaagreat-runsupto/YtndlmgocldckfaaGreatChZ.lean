import Derived.Test.YtndlmgocldckfaaGreatAaZ
namespace Go.Proofs.YtndlmgocldckfaaGreat
open Go.RowKit
set_option linter.unusedVariables false
set_option linter.unusedSimpArgs false

/-! The program's own tests (package model). -/

set_option maxHeartbeats 400000 in
theorem within_any (n lo hi : Int) (w : World) :
    Calls Tryz.prog 97 #[.int .i64 n, .int .i64 lo, .int .i64 hi] w fun e w' => e = .returned (.bool (inB n lo hi)) ∧ w' = w := by
  by_cases h1 : lo ≤ n <;> by_cases h2 : n ≤ hi
  all_goals
    go_enter Tryz.func97, Tryz.ntmps97
    go_wp2
    go_ret
    exact ⟨by simp [inB, *], rfl⟩
set_option maxHeartbeats 400000 in
theorem isValue_any (n : Int) (w : World) :
    Calls Tryz.prog 131 #[.int .i64 n] w fun e w' => e = .returned (.bool (inB n (-1000000000) 1000000000)) ∧ w' = w := by
  go_enter Tryz.func131, Tryz.ntmps131
  go_wp2_with (go_at_call 97; refine (within_any _ _ _ _).mono ?_; rintro e w' ⟨rfl, rfl⟩)
  go_ret
  exact ⟨rfl, rfl⟩
set_option maxHeartbeats 400000 in
theorem isRegister_any (n : Int) (w : World) :
    Calls Tryz.prog 94 #[.int .i64 n] w fun e w' => e = .returned (.bool (inB n 0 3)) ∧ w' = w := by
  go_enter Tryz.func94, Tryz.ntmps94
  go_wp2_with (go_at_call 97; refine (within_any _ _ _ _).mono ?_; rintro e w' ⟨rfl, rfl⟩)
  go_ret
  exact ⟨rfl, rfl⟩
set_option maxHeartbeats 400000 in
theorem notDraw_any (n : Int) (w : World) :
    Calls Tryz.prog 101 #[.int .i64 n] w fun e w' => e = .returned (.bool (!inB n 0 1000000000)) ∧ w' = w := by
  go_enter Tryz.func101, Tryz.ntmps101
  go_wp2_with (go_at_call 97; refine (within_any _ _ _ _).mono ?_; rintro e w' ⟨rfl, rfl⟩)
  go_ret
  exact ⟨rfl, rfl⟩
set_option maxHeartbeats 400000 in
theorem hasKind_any (ents : Int) (sa : Option Addr) (nk cap : Nat) (n : Int) (w : World) (hk : nk ≤ 8) :
    Calls Tryz.prog 83 #[.agg #[.int .i64 ents, .slice sa nk cap], .int .i64 n] w fun e w' => e = .returned (.bool (inB n 0 (nk - 1))) ∧ Below w.heap.size w w' := by
  go_enter Tryz.func83, Tryz.ntmps83
  go_wp2_with (go_at_call 97; refine (within_any _ _ _ _).mono ?_; rintro e w' ⟨rfl, rfl⟩)
  go_ret
  exact ⟨rfl, (Below.refl _ _).alloc (Nat.le_refl _) _⟩
set_option maxHeartbeats 400000 in
theorem hasEntity_any (ents : Int) (sa : Option Addr) (nk cap : Nat) (n : Int) (w : World) (he : 1 ≤ ents) (he' : ents ≤ 8) :
    Calls Tryz.prog 84 #[.agg #[.int .i64 ents, .slice sa nk cap], .int .i64 n] w fun e w' => e = .returned (.bool (inB n 0 (ents - 1))) ∧ Below w.heap.size w w' := by
  go_enter Tryz.func84, Tryz.ntmps84
  go_wp2_with (go_at_call 97; refine (within_any _ _ _ _).mono ?_; rintro e w' ⟨rfl, rfl⟩)
  go_ret
  exact ⟨rfl, (Below.refl _ _).alloc (Nat.le_refl _) _⟩

set_option maxHeartbeats 2000000 in
theorem mayBe_other (ents : Int) (sa : Option Addr) (nk cap : Nat) (op a b c : Int) (w : World) (h6 : op ≠ 6) :
    Calls Tryz.prog 119 #[.agg #[.int .i64 ents, .slice sa nk cap], .agg #[.int .i64 op, .int .i64 a, .int .i64 b, .int .i64 c]] w
      fun e w' => e = .returned (.bool (mayF ents nk op a b c)) ∧ Below w.heap.size w w' := by
  have h6' : (op == 6) = false := by simpa using h6
  go_enter Tryz.func119, Tryz.ntmps119
  go_wp2_with (first | (go_at_call 94; refine (isRegister_any _ _).mono ?_; rintro e w' ⟨rfl, rfl⟩) | (go_at_call 131; refine (isValue_any _ _).mono ?_; rintro e w' ⟨rfl, rfl⟩) | (go_at_call 97; refine (within_any _ _ _ _).mono ?_; rintro e w' ⟨rfl, rfl⟩))
  all_goals
    go_ret
    refine ⟨?_, ((Below.refl _ _).alloc (Nat.le_refl _) _).alloc (by simp) _⟩
    simp_all [mayF] <;> exact Bool.eq_iff_iff.2 (by simp)

end Go.Proofs.YtndlmgocldckfaaGreat

namespace Go.Proofs.YtndlmgocldckfaaGreat
open Go.RowKit
set_option linter.unusedVariables false
set_option linter.unusedSimpArgs false

set_option maxHeartbeats 2000000 in
theorem mayBe_six (ents : Int) (sa : Option Addr) (nk cap : Nat) (a b c : Int) (w : World) (he : 1 ≤ ents) (he' : ents ≤ 8) (hk : nk ≤ 8) :
    Calls Tryz.prog 119 #[.agg #[.int .i64 ents, .slice sa nk cap], .agg #[.int .i64 6, .int .i64 a, .int .i64 b, .int .i64 c]] w
      fun e w' => e = .returned (.bool (mayF ents nk 6 a b c)) ∧ Below w.heap.size w w' := by
  go_enter Tryz.func119, Tryz.ntmps119
  go_wp2_with (first | (go_at_call 83; refine (hasKind_any _ _ _ _ _ _ hk).mono ?_; rintro e w' ⟨rfl, hb⟩; obtain ⟨hc, hf⟩ := bcell hb; have hz : w.heap.size + 1 < w'.heap.size := (by have := hb.size; simp at this; omega)) | (go_at_call 84; refine (hasEntity_any _ _ _ _ _ _ he he').mono ?_; rintro e w' ⟨rfl, hb2⟩; obtain ⟨hc2, hf2⟩ := bcell hb2) | (go_at_call 94; refine (isRegister_any _ _).mono ?_; rintro e w' ⟨rfl, rfl⟩))
  all_goals
    go_ret
    refine ⟨by simp_all [mayF], ?_⟩
    clear hc hf
    first
      | exact (((Below.refl _ _).alloc (Nat.le_refl _) _).alloc (by simp) _).trans ((hb.mono (by simp; omega)).trans (hb2.mono (by have := hb.size; simp at this ⊢; omega)))
      | exact (((Below.refl _ _).alloc (Nat.le_refl _) _).alloc (by simp) _).trans (hb.mono (by simp; omega))
theorem mayBe_any (ents : Int) (sa : Option Addr) (nk cap : Nat) (op a b c : Int) (w : World) (he : 1 ≤ ents) (he' : ents ≤ 8) (hk : nk ≤ 8) :
    Calls Tryz.prog 119 #[.agg #[.int .i64 ents, .slice sa nk cap], .agg #[.int .i64 op, .int .i64 a, .int .i64 b, .int .i64 c]] w
      fun e w' => e = .returned (.bool (mayF ents nk op a b c)) ∧ Below w.heap.size w w' := by
  by_cases h6 : op = 6
  · subst h6; exact mayBe_six ents sa nk cap a b c w he he' hk
  · exact mayBe_other ents sa nk cap op a b c w h6

end Go.Proofs.YtndlmgocldckfaaGreat

namespace Go.Proofs.YtndlmgocldckfaaGreat
open Go.RowKit
set_option linter.unusedVariables false
set_option linter.unusedSimpArgs false

set_option maxHeartbeats 400000 in
theorem checkCode_some (ents : Int) (sa : Option Addr) (nk cap : Nat) (b off cap' : Nat) (l : List Ins) (w : World) (he : 1 ≤ ents) (he' : ents ≤ 8) (hk : nk ≤ 8)
    (hl : l.length ≤ 16) (hbw : b < w.heap.size) (hc : CodeAt w b off l) :
    Calls Tryz.prog 98 #[.agg #[.int .i64 ents, .slice sa nk cap], .slice (some ⟨b, off, none⟩) l.length cap'] w
      fun e w' => e = .returned (.tuple #[.int .i64 ((codeF ents nk l).getD 0 : Nat), .bool (codeF ents nk l).isNone]) ∧ Below w.heap.size w w' := by
  have h16 : decide (16 < (l.length : Int)) = false := by simp; omega
  have hF : Hid (codeF ents nk l = firstBad ents nk l 0) := by show _ = _; rw [codeF, if_neg (by omega)]
  go_enter Tryz.func98, Tryz.ntmps98
  go_wp2
  go_loopw [13, 7, 6] (fun i p k wr => ∃ n : Nat, n ≤ l.length ∧ i = .int .i64 n ∧ Hid (firstBad ents nk (l.drop n) n = firstBad ents nk l 0) ∧ Below w.heap.size w wr ∧ wr.cell? ⟨w.heap.size, 0, none⟩ = some (.int .i64 ents) ∧ wr.cell? ⟨w.heap.size, 1, none⟩ = some (.slice sa nk cap) ∧ w.heap.size < wr.heap.size) (fun i _ _ _ => l.length - (intOf i).toNat)
  case atStart => exact ⟨0, Nat.zero_le _, rfl, rfl, (Below.refl _ _).alloc (Nat.le_refl _) _, by simp [go_sem], by simp [go_sem], by simp⟩
  case round =>
    obtain ⟨n, hn, rfl, hfb, hbel, hc0, hc1, hsz⟩ := hrel
    by_cases hlt : n < l.length
    · obtain ⟨hx0, hx1, hx2, hx3⟩ := (hc.below hbel hbw) n l[n] (by simp)
      go_wp2_with fail
      refine (mayBe_any _ _ _ _ _ _ _ _ _ he he' hk).mono ?_
      rintro e w1 ⟨rfl, hb1⟩
      have hb2 : Below wr.heap.size wr w1 := ((Below.refl _ _).alloc (Nat.le_refl _) _).trans (hb1.mono (by simp))
      have hd := firstBad_drop (ents := ents) (nk := nk) hlt
      rcases hm : mayF ents nk l[n].op l[n].a l[n].b l[n].c with _ | _
      · rw [hm] at hd
        have hd' : Hid (codeF ents nk l = some n) := by show _ = _; rw [hF.out, ← hfb.out, hd]; rfl
        clear hd
        go_wp2
        go_ret2
        refine ⟨by rw [hd'.out]; rfl, hbel.trans (hb2.mono (by omega))⟩
      · rw [hm, if_pos rfl] at hd
        have hd' : Hid (firstBad ents nk (l.drop (n + 1)) (n + 1) = firstBad ents nk l 0) := by show _ = _; rw [← hfb.out, hd]
        clear hd
        go_wp2
        go_roundw
        case rel => exact ⟨n + 1, by omega, by go_num, hd', hbel.trans (hb2.mono (by omega)), below_at hb2 hc0 hsz, below_at hb2 hc1 hsz, by have := hb2.size; omega⟩
        case measure => simp [intOf]; omega
    · have hd' : Hid (codeF ents nk l = none) := by
        show _ = _; rw [hF.out, ← hfb.out, List.drop_of_length_le (by omega)]; rfl
      go_wp2
      go_ret2
      exact ⟨by rw [hd'.out]; rfl, hbel⟩

set_option maxHeartbeats 400000 in
theorem checkCode_long (ents : Int) (sa : Option Addr) (nk cap : Nat) (a : Option Addr) (n cap' : Nat) (w : World) (hl : 16 < n) :
    Calls Tryz.prog 98 #[.agg #[.int .i64 ents, .slice sa nk cap], .slice a n cap'] w
      fun e w' => e = .returned (.tuple #[.int .i64 0, .bool false]) ∧ Below w.heap.size w w' := by
  have h16 : decide (16 < (n : Int)) = true := by simp; omega
  go_enter Tryz.func98, Tryz.ntmps98
  go_wp2
  go_ret2
  exact ⟨rfl, (Below.refl _ _).alloc (Nat.le_refl _) _⟩

set_option maxHeartbeats 400000 in
theorem checkCode_nil (ents : Int) (sa : Option Addr) (nk cap : Nat) (va : Option Addr) (vc : Nat) (w : World)  :
    Calls Tryz.prog 98 #[.agg #[.int .i64 ents, .slice sa nk cap], .slice va 0 vc] w
      fun e w' => e = .returned (.tuple #[.int .i64 0, .bool true]) ∧ Below w.heap.size w w' := by
  go_enter Tryz.func98, Tryz.ntmps98
  go_wp2
  go_loopw [13] (fun i wr => i = .int .i64 0 ∧ Below w.heap.size w wr) (fun _ _ => 0)
  case atStart => exact ⟨rfl, (Below.refl _ _).alloc (Nat.le_refl _) _⟩
  case round =>
    obtain ⟨rfl, hbel⟩ := hrel
    go_wp2
    go_ret2
    exact ⟨rfl, hbel⟩

theorem checkCode_any (ents : Int) (sa : Option Addr) (nk cap : Nat) (v : Value) (l : List Ins) (w : World) (he : 1 ≤ ents) (he' : ents ≤ 8) (hk : nk ≤ 8)
    (hv : CodeV w.heap.size w v l) :
    Calls Tryz.prog 98 #[.agg #[.int .i64 ents, .slice sa nk cap], v] w
      fun e w' => e = .returned (.tuple #[.int .i64 ((codeF ents nk l).getD 0 : Nat), .bool (codeF ents nk l).isNone]) ∧ Below w.heap.size w w' := by
  obtain ⟨_, ⟨rfl, rfl⟩ | ⟨b, off, cap', rfl, hb, hc⟩ | ⟨va, vc, rfl, rfl⟩⟩ := hv
  rotate_left
  · by_cases hl : l.length ≤ 16
    · exact checkCode_some ents sa nk cap b off cap' l w he he' hk hl hb hc
    · refine (checkCode_long ents sa nk cap _ l.length cap' w (by omega)).mono ?_
      rintro e w' ⟨rfl, h⟩
      refine ⟨?_, h⟩
      rw [codeF, if_pos (by omega)]; rfl
  · exact checkCode_nil ents sa nk cap _ _ w
  · exact checkCode_nil ents sa nk cap _ _ w
end Go.Proofs.YtndlmgocldckfaaGreat

namespace Go.Proofs.YtndlmgocldckfaaGreat
open Go.RowKit
set_option linter.unusedVariables false
set_option linter.unusedSimpArgs false

set_option maxHeartbeats 400000 in
theorem mCheck_no (ents : Int) (sa : Option Addr) (nk cap : Nat) (w : World) (hno : (!inB ents 1 8 || !inB nk 1 8) = true) :
    Calls Tryz.prog 56 #[.agg #[.int .i64 ents, .slice sa nk cap]] w
      fun e w' => e = .returned (.tuple #[.int .i64 2, .int .i64 0, .int .i64 0]) ∧ Below w.heap.size w w' := by
  rcases h1 : inB ents 1 8 with _ | _ <;> rcases h2 : inB nk 1 8 with _ | _
  case true.true => simp [h1, h2] at hno
  all_goals
    clear hno
    go_enter Tryz.func56, Tryz.ntmps56
    go_wp2_with (go_at_call 97; refine (within_any _ _ _ _).mono ?_; rintro e w' ⟨rfl, rfl⟩)
    go_ret3
    exact ⟨rfl, (Below.refl _ _).alloc (Nat.le_refl _) _⟩

set_option maxHeartbeats 800000 in
theorem mCheck_yes (ents : Int) (b off cap : Nat) (ks : List (List Ins)) (w : World) (he : 1 ≤ ents) (he' : ents ≤ 8) (hk : 1 ≤ ks.length) (hk' : ks.length ≤ 8)
    (hbw : b < w.heap.size) (hK : KindsAt w.heap.size w b off ks) :
    Calls Tryz.prog 56 #[.agg #[.int .i64 ents, .slice (some ⟨b, off, none⟩) ks.length cap]] w
      fun e w' => e = .returned (checkV ents ks) ∧ Below w.heap.size w w' := by
  have h1 : inB ents 1 8 = true := by simp [inB]; omega
  have h2 : inB ks.length 1 8 = true := by simp [inB]; omega
  have hF : Hid (kindF ents ks = firstKind ents ks.length ks 0) := by show _ = _; simp [kindF, h1, h2]
  go_enter Tryz.func56, Tryz.ntmps56
  go_wp2_with (go_at_call 97; refine (within_any _ _ _ _).mono ?_; rintro e w' ⟨rfl, rfl⟩)
  go_loopw [23, 5, 6, 7, 8] (fun i _ _ _ _ wr => ∃ n : Nat, n ≤ ks.length ∧ i = .int .i64 n ∧ Hid (firstKind ents ks.length (ks.drop n) n = firstKind ents ks.length ks 0) ∧ Below w.heap.size w wr ∧ wr.cell? ⟨w.heap.size, 0, none⟩ = some (.int .i64 ents) ∧ wr.cell? ⟨w.heap.size, 1, none⟩ = some (.slice (some ⟨b, off, none⟩) ks.length cap) ∧ w.heap.size < wr.heap.size) (fun i _ _ _ _ _ => ks.length - (intOf i).toNat)
  case atStart => exact ⟨0, Nat.zero_le _, rfl, rfl, (Below.refl _ _).alloc (Nat.le_refl _) _, by simp [go_sem], by simp [go_sem], by simp⟩
  case round =>
    obtain ⟨n, hn, rfl, hfb, hbel, hc0, hc1, hsz⟩ := hrel
    by_cases hlt : n < ks.length
    · obtain ⟨v, hv0, hv⟩ := (hK.below hbel hbw (Nat.le_refl _)) n ks[n] (by simp)
      go_wp2_with fail
      refine (checkCode_any _ _ _ _ _ ks[n] _ he he' hk' (hv.mono (by omega))).mono ?_
      rintro e w1 ⟨rfl, hb1⟩
      have hd := firstKind_drop (ents := ents) (nk := ks.length) hlt
      rcases hm : codeF ents ks.length ks[n] with _ | p
      · rw [hm] at hd
        have hd' : Hid (firstKind ents ks.length (ks.drop (n + 1)) (n + 1) = firstKind ents ks.length ks 0) := by show _ = _; rw [← hfb.out, hd]
        clear hd
        go_wp2
        go_roundw
        case rel => exact ⟨n + 1, by omega, by go_num, hd', hbel.trans (hb1.mono (by omega)), below_at hb1 hc0 hsz, below_at hb1 hc1 hsz, by have := hb1.size; omega⟩
        case measure => simp [intOf]; omega
      · rw [hm] at hd
        have hd' : Hid (kindF ents ks = some (n, p)) := by show _ = _; rw [hF.out, ← hfb.out, hd]
        clear hd
        go_wp2
        go_ret3
        refine ⟨by simp [checkV, hd'.out], hbel.trans (hb1.mono (by omega))⟩
    · have hd' : Hid (kindF ents ks = none) := by
        show _ = _; rw [hF.out, ← hfb.out, List.drop_of_length_le (by omega)]; rfl
      go_wp2
      go_ret3
      exact ⟨by simp [checkV, hd'.out], hbel⟩

theorem mCheck_any (ents : Int) (v : Value) (ks : List (List Ins)) (w : World) (hv : KindsV w.heap.size w v ks) :
    Calls Tryz.prog 56 #[.agg #[.int .i64 ents, v]] w
      fun e w' => e = .returned (checkV ents ks) ∧ Below w.heap.size w w' := by
  rcases hno : (!inB ents 1 8 || !inB ks.length 1 8) with _ | _
  · simp [inB] at hno
    obtain ⟨_, ⟨rfl, rfl⟩ | ⟨b, off, cap', rfl, hb, hc⟩ | ⟨va, vc, rfl, rfl⟩⟩ := hv
    rotate_left
    · exact mCheck_yes ents b off cap' ks w (by omega) (by omega) (by omega) (by omega) hb hc
    · simp at hno
    · simp at hno
  · have hV : checkV ents ks = .tuple #[.int .i64 2, .int .i64 0, .int .i64 0] := by simp [checkV, kindF, hno]
    rw [hV]
    obtain ⟨_, ⟨rfl, rfl⟩ | ⟨b, off, cap', rfl, hb, hc⟩ | ⟨va, vc, rfl, rfl⟩⟩ := hv
    · exact mCheck_no ents none 0 0 w (by simpa using hno)
    · exact mCheck_no ents _ ks.length cap' w hno
    · exact mCheck_no ents _ 0 vc w (by simpa using hno)

end Go.Proofs.YtndlmgocldckfaaGreat
