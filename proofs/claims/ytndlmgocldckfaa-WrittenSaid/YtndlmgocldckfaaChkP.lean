import Derived.Test.YtndlmgocldckfaaLeafQ
namespace Go.Proofs.Ytndlmgocldckfaa
open Go.RowKit
set_option linter.unusedVariables false
set_option linter.unusedSimpArgs false

set_option maxHeartbeats 400000 in
theorem checkCode_some (ents : Int) (sa : Option Addr) (nk cap : Nat) (b off cap' : Nat) (l : List Ins) (w : World) (he : 1 ≤ ents) (he' : ents ≤ 8) (hk : nk ≤ 8)
    (hl : l.length ≤ 16) (hbw : b < w.heap.size) (hc : CodeAt w b off l) :
    Calls Try.prog 64 #[.agg #[.int .i64 ents, .slice sa nk cap], .slice (some ⟨b, off, none⟩) l.length cap'] w
      fun e w' => e = .returned (.tuple #[.int .i64 ((codeF ents nk l).getD 0 : Nat), .bool (codeF ents nk l).isNone]) ∧ Below w.heap.size w w' := by
  have h16 : decide (16 < (l.length : Int)) = false := by simp; omega
  have hF : Hid (codeF ents nk l = firstBad ents nk l 0) := by show _ = _; rw [codeF, if_neg (by omega)]
  go_enter Try.func64, Try.ntmps64
  go_wp2
  go_loopw [13, 7, 6] (fun i p k wr => ∃ n : Nat, n ≤ l.length ∧ i = .int .i64 n ∧ Hid (firstBad ents nk (l.drop n) n = firstBad ents nk l 0) ∧ Below w.heap.size w wr ∧ wr.cell? ⟨w.heap.size, 0, none⟩ = some (.int .i64 ents) ∧ wr.cell? ⟨w.heap.size, 1, none⟩ = some (.slice sa nk cap) ∧ w.heap.size < wr.heap.size) (fun i _ _ _ => l.length - (intOf i).toNat)
  case atStart => exact ⟨0, Nat.zero_le _, rfl, rfl, (Below.refl _ _).alloc (Nat.le_refl _) _, by simp [go_sem], by simp [go_sem], by simp⟩
  case round =>
    obtain ⟨n, hn, rfl, hfb, hbel, hc0, hc1, hsz⟩ := hrel
    by_cases hlt : n < l.length
    · obtain ⟨hx0, hx1, hx2, hx3⟩ := (hc.below hbel hbw) n l[n] (by simp)
      go_wp2_with fail
      refine (mayBe_any _ _ _ _ _ _ _ _ _ he he' hk).mono ?_
      rintro e w1 ⟨rfl, hb1⟩
      have hb2 : Below wr.heap.size wr w1 := ((Below.refl _ _).alloc (Nat.le_refl _) _).trans (hb1.mono (by simp))
      have hd := firstBad_drop (ents := ents) (nk := nk) hlt
      rcases hm : mayF ents nk l[n].op l[n].a l[n].b l[n].c with _ | _
      · rw [hm] at hd
        have hd' : Hid (codeF ents nk l = some n) := by show _ = _; rw [hF.out, ← hfb.out, hd]; rfl
        clear hd
        go_wp2
        go_ret2
        refine ⟨by rw [hd'.out]; rfl, hbel.trans (hb2.mono (by omega))⟩
      · rw [hm, if_pos rfl] at hd
        have hd' : Hid (firstBad ents nk (l.drop (n + 1)) (n + 1) = firstBad ents nk l 0) := by show _ = _; rw [← hfb.out, hd]
        clear hd
        go_wp2
        go_roundw
        case rel => exact ⟨n + 1, by omega, by go_num, hd', hbel.trans (hb2.mono (by omega)), below_at hb2 hc0 hsz, below_at hb2 hc1 hsz, by have := hb2.size; omega⟩
        case measure => simp [intOf]; omega
    · have hd' : Hid (codeF ents nk l = none) := by
        show _ = _; rw [hF.out, ← hfb.out, List.drop_of_length_le (by omega)]; rfl
      go_wp2
      go_ret2
      exact ⟨by rw [hd'.out]; rfl, hbel⟩

set_option maxHeartbeats 400000 in
theorem checkCode_long (ents : Int) (sa : Option Addr) (nk cap : Nat) (a : Option Addr) (n cap' : Nat) (w : World) (hl : 16 < n) :
    Calls Try.prog 64 #[.agg #[.int .i64 ents, .slice sa nk cap], .slice a n cap'] w
      fun e w' => e = .returned (.tuple #[.int .i64 0, .bool false]) ∧ Below w.heap.size w w' := by
  have h16 : decide (16 < (n : Int)) = true := by simp; omega
  go_enter Try.func64, Try.ntmps64
  go_wp2
  go_ret2
  exact ⟨rfl, (Below.refl _ _).alloc (Nat.le_refl _) _⟩

set_option maxHeartbeats 400000 in
theorem checkCode_nil (ents : Int) (sa : Option Addr) (nk cap : Nat) (va : Option Addr) (vc : Nat) (w : World)  :
    Calls Try.prog 64 #[.agg #[.int .i64 ents, .slice sa nk cap], .slice va 0 vc] w
      fun e w' => e = .returned (.tuple #[.int .i64 0, .bool true]) ∧ Below w.heap.size w w' := by
  go_enter Try.func64, Try.ntmps64
  go_wp2
  go_loopw [13] (fun i wr => i = .int .i64 0 ∧ Below w.heap.size w wr) (fun _ _ => 0)
  case atStart => exact ⟨rfl, (Below.refl _ _).alloc (Nat.le_refl _) _⟩
  case round =>
    obtain ⟨rfl, hbel⟩ := hrel
    go_wp2
    go_ret2
    exact ⟨rfl, hbel⟩

theorem checkCode_any (ents : Int) (sa : Option Addr) (nk cap : Nat) (v : Value) (l : List Ins) (w : World) (he : 1 ≤ ents) (he' : ents ≤ 8) (hk : nk ≤ 8)
    (hv : CodeV w.heap.size w v l) :
    Calls Try.prog 64 #[.agg #[.int .i64 ents, .slice sa nk cap], v] w
      fun e w' => e = .returned (.tuple #[.int .i64 ((codeF ents nk l).getD 0 : Nat), .bool (codeF ents nk l).isNone]) ∧ Below w.heap.size w w' := by
  obtain ⟨_, ⟨rfl, rfl⟩ | ⟨b, off, cap', rfl, hb, hc⟩ | ⟨va, vc, rfl, rfl⟩⟩ := hv
  rotate_left
  · by_cases hl : l.length ≤ 16
    · exact checkCode_some ents sa nk cap b off cap' l w he he' hk hl hb hc
    · refine (checkCode_long ents sa nk cap _ l.length cap' w (by omega)).mono ?_
      rintro e w' ⟨rfl, h⟩
      refine ⟨?_, h⟩
      rw [codeF, if_pos (by omega)]; rfl
  · exact checkCode_nil ents sa nk cap _ _ w
  · exact checkCode_nil ents sa nk cap _ _ w
end Go.Proofs.Ytndlmgocldckfaa
