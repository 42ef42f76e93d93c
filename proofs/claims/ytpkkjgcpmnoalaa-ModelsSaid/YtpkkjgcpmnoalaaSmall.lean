import Derived.Test.YtpkkjgcpmnoalaaLent
namespace Go.Proofs.Ytpkkjgcpmnoalaa
open Go.RowKit
set_option linter.unusedVariables false
set_option linter.unusedSimpArgs false

set_option maxHeartbeats 1000000 in
theorem looks_empty (wb : Nat) (w : World) (h1 : w.cell? ⟨wb, 1, none⟩ = some (.slice none 0 0)) (h2 : w.cell? ⟨wb, 2, none⟩ = some (.slice none 0 0)) (h3 : w.cell? ⟨wb, 3, none⟩ = some (.slice none 0 0)) :
    Calls Try.prog 8 #[.pointer (some ⟨wb, 1, none⟩)] w fun e w' => e = .returned (.bool true) ∧ w' = w := by
  go_enter Try.func8, Try.ntmps8
  go_wp2
  go_loop [3] (fun i => i = .int .i64 0) (fun _ => 0)
  case atStart => rfl
  case round =>
    obtain rfl := hrel
    go_wp2
    go_loop [6] (fun i => i = .int .i64 0) (fun _ => 0)
    case atStart => rfl
    case round =>
      obtain rfl := hrel
      go_wp2
      go_loop [8] (fun i => i = .int .i64 0) (fun _ => 0)
      case atStart => rfl
      case round =>
        obtain rfl := hrel
        go_wp2
        go_ret
        exact ⟨rfl, rfl⟩

set_option maxHeartbeats 1000000 in
theorem apart_empty (wb : Nat) (w : World) (h1 : w.cell? ⟨wb, 1, none⟩ = some (.slice none 0 0)) :
    Calls Try.prog 9 #[.pointer (some ⟨wb, 1, none⟩)] w fun e w' => e = .returned (.bool true) ∧ w' = w := by
  go_enter Try.func9, Try.ntmps9
  go_wp2
  go_loop [3] (fun i => i = .int .i64 0) (fun _ => 0)
  case atStart => rfl
  case round =>
    obtain rfl := hrel
    go_wp2
    go_ret
    exact ⟨rfl, rfl⟩

/-- Which of n things a raw number speaks of. -/
def pickF (c : Int) (n : Nat) : Nat := ((if c < 0 then -(c + 1) else c) % n).toNat
theorem pickF_lt (c : Int) (n : Nat) (h : 0 < n) : pickF c n < n := by
  unfold pickF
  have h1 := Int.emod_nonneg (if c < 0 then -(c + 1) else c) (show (n : Int) ≠ 0 by omega)
  have h2 := Int.emod_lt_of_pos (if c < 0 then -(c + 1) else c) (show 0 < (n : Int) by omega)
  omega

set_option maxHeartbeats 1000000 in
theorem pick_any (c : Int) (n : Nat) (w : World) (hn : 0 < n) (hn' : n ≤ 9223372036854775807) (hc1 : -9223372036854775808 ≤ c) (hc2 : c ≤ 9223372036854775807) :
    Calls Try.prog 14 #[.int .i64 c, .int .i64 n] w fun e w' => e = .returned (.int .i64 (pickF c n : Nat)) ∧ w' = w := by
  have hz : ((n : Int) == 0) = false := by simp; omega
  by_cases h : c < 0
  · have HP : Hid ((pickF c n : Nat) = (-(c + 1)) % (n : Int)) := by
      show _ = _
      unfold pickF
      rw [if_pos h]
      exact Int.toNat_of_nonneg (Int.emod_nonneg _ (by omega))
    go_enter Try.func14, Try.ntmps14
    go_wp2
    go_ret
    have ht : (-(c + 1)).tmod (n : Int) = -(c + 1) % (n : Int) := Int.tmod_eq_emod_of_nonneg (by omega)
    rw [Int.neg_tmod] at ht
    exact ⟨by rw [HP.out, ← ht]; simp, rfl⟩
  · have HP : Hid ((pickF c n : Nat) = c % (n : Int)) := by
      show _ = _
      unfold pickF
      rw [if_neg h]
      exact Int.toNat_of_nonneg (Int.emod_nonneg _ (by omega))
    go_enter Try.func14, Try.ntmps14
    go_wp2
    go_ret
    exact ⟨by rw [HP.out]; simp, rfl⟩

def amongF (l : List Int) (k : Int) : Bool := l.contains k

set_option maxHeartbeats 1000000 in
theorem among_any (b off cap : Nat) (l : List Int) (k : Int) (w : World) (hl : l.length ≤ 1000) (hc : RowAt w b off (ints l)) :
    Calls Try.prog 6 #[.slice (some ⟨b, off, none⟩) l.length cap, .int .i64 k] w fun e w' => e = .returned (.bool (amongF l k)) ∧ w' = w := by
  go_enter Try.func6, Try.ntmps6
  go_wp2
  go_loop [5] (fun i => ∃ j : Nat, j ≤ l.length ∧ i = .int .i64 j ∧ Hid (amongF (l.drop j) k = amongF l k)) (fun i => l.length - (intOf i).toNat)
  case atStart => exact ⟨0, by omega, rfl, rfl⟩
  case round =>
    obtain ⟨j, hj, rfl, hI⟩ := hrel
    by_cases hlt : j < l.length
    · have hx : w.cell? ⟨b, off + j, none⟩ = some (.int .i64 l[j]) := hc j _ (by simp [ints, hlt])
      have hd : amongF (l.drop j) k = (k == l[j] || amongF (l.drop (j + 1)) k) := by
        rw [List.drop_eq_getElem_cons hlt, amongF, List.contains_cons]; rfl
      by_cases he : l[j] = k
      · have he' : (l[j] == k) = true := by simpa using he
        have HT : Hid (amongF l k = true) := by show _ = _; rw [← hI.out, hd, he]; simp
        clear hd he
        go_wp2
        go_ret
        exact ⟨by rw [HT.out]; simp, rfl⟩
      · have he' : (l[j] == k) = false := by simpa using he
        have HN : Hid (amongF (l.drop (j + 1)) k = amongF l k) := by
          show _ = _; rw [← hI.out, hd]
          have : (k == l[j]) = false := by simp; exact fun e => he e.symm
          rw [this]; simp
        clear hd he
        go_wp2
        go_round
        case rel => exact ⟨j + 1, by omega, by go_num, HN⟩
        case measure => simp [intOf]; omega
    · have HN : Hid (amongF l k = false) := by
        show _ = _; rw [← hI.out, List.drop_of_length_le (by omega)]; rfl
      go_wp2
      go_ret
      exact ⟨by rw [HN.out]; simp, rfl⟩
end Go.Proofs.Ytpkkjgcpmnoalaa
