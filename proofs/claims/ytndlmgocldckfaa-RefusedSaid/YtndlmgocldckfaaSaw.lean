import Derived.Test.YtndlmgocldckfaaSav
namespace Go.Proofs.Ytndlmgocldckfaa
open Go.RowKit
set_option linter.unusedVariables false
set_option linter.unusedSimpArgs false

theorem run_index4 (w : World) (a b c d : Int) (j : Int) (v : Int) (h : (j = 0 ∧ v = a) ∨ (j = 1 ∧ v = b) ∨ (j = 2 ∧ v = c) ∨ (j = 3 ∧ v = d)) :
    (Instr.index 54 (.agg #[.int .i64 a, .int .i64 b, .int .i64 c, .int .i64 d]) (.int .i64 j)).run Try.prog w = .ok (.int .i64 v) w := by
  obtain ⟨i, hi, hz, hsz, hby⟩ := info_parts Try.info3
  rcases h with ⟨rfl, rfl⟩ | ⟨rfl, rfl⟩ | ⟨rfl, rfl⟩ | ⟨rfl, rfl⟩ <;> simp [Instr.index, run_underlying Try.underlying54, run_underlying Try.underlying3, asIntOf, part, isAgg, sizeOf, typeInfo, hi, hsz, go_sem]

set_option maxRecDepth 100000 in
set_option maxHeartbeats 4000000 in
theorem write_any {R : Nat → Prop} {base : Nat} (kb qb mb : Nat) (ov : Value) (ents : Int) (ks : List (List Ins)) (draws : List Int) (s : KS) (w wr : World) (wb : Nat) (lv : Value) (l : List Int) (h : KerP R base w kb qb mb ov ents ks draws s) (hok : KOk ents ks.length draws s) (hk8 : ks.length ≤ 8) (he : 1 ≤ ents ∧ ents ≤ 8) (hd : draws.length ≤ 1000) (hsrt : Sorted s.q) (hS : SvR w wr wb lv l) (hl : l.length ≤ 100) :
    Calls Try.prog 31 #[.pointer (some ⟨kb, 0, none⟩), .pointer (some ⟨wb, 0, none⟩)] wr fun e w' => e = .returned (.tuple #[]) ∧ ∃ lv', SvR w w' wb lv' (l ++ bodyF ents ks.length s) := by
  have H := hide h
  have HS := hide hS
  have hk := h.klt
  obtain ⟨kv, hkv, hkin⟩ := h.kinds
  obtain ⟨ka, kc, rfl⟩ := hkin.form
  have k0 := below_at hS.below h.c0 hk
  have k1 := below_at hS.below hkv hk
  have k4 := below_at hS.below h.c4 hk
  have k5 := below_at hS.below h.c5 hk
  have k6 := below_at hS.below h.c6 hk
  have h0 := h.c0
  have h4 := h.c4
  have h5 := h.c5
  have h6 := h.c6
  have hcl := hok.clock
  have hnx := hok.next
  have htk := hok.taken
  obtain ⟨E, rfl⟩ := Int.eq_ofNat_of_zero_le (show 0 ≤ ents by omega)
  clear h hS hkin
  go_enter Try.func31, Try.ntmps31
  go_wp2_with fail
  refine (sNum (E : Int) HS.out (by omega) (by omega)).mono ?_
  rintro e w2 ⟨rfl, lv2, hS2, _⟩
  have HS2 := hide hS2
  have n1 := numB_len (E : Int)
  have j1 := below_at hS2.below hkv hk
  clear hS2 k0 k1 k4 k5 k6
  go_wp2_with fail
  refine (sNum (ks.length : Int) HS2.out (by simp; omega) (by omega)).mono ?_
  rintro e w3 ⟨rfl, lv3, hS3, _⟩
  have HS3 := hide hS3
  have n2 := numB_len (ks.length : Int)
  have j4 := below_at hS3.below h4 hk
  clear hS3 j1
  go_wp2_with fail
  refine (sNum s.clock HS3.out (by simp; omega) (by omega)).mono ?_
  rintro e w4 ⟨rfl, lv4, hS4, _⟩
  have HS4 := hide hS4
  have n3 := numB_len s.clock
  have j5 := below_at hS4.below h5 hk
  clear hS4 j4
  go_wp2_with fail
  refine (sNum s.next HS4.out (by simp; omega) (by omega)).mono ?_
  rintro e w5 ⟨rfl, lv5, hS5, _⟩
  have HS5 := hide hS5
  have n4 := numB_len s.next
  have j6 := below_at hS5.below h6 hk
  clear hS5 j5
  go_wp2_with fail
  refine (sNum (s.taken : Int) HS5.out (by simp; omega) (by omega)).mono ?_
  rintro e w6 ⟨rfl, lv6, hS6, _⟩
  have n5 := numB_len (s.taken : Int)
  have j0 := below_at hS6.below h0 hk
  obtain ⟨l6, hl6⟩ : ∃ l6, l6 = l ++ numB (E : Int) ++ numB (ks.length : Int) ++ numB s.clock ++ numB s.next ++ numB (s.taken : Int) := ⟨_, rfl⟩
  have HS6 : Hid (SvR w w6 wb lv6 l6) := by rw [hl6]; exact hS6
  have hl6n : l6.length ≤ 150 := by rw [hl6]; simp; omega
  have Hl6 := hide hl6
  clear hS6 j6 hl6 HS HS2 HS3 HS4 HS5
  go_wp2_with fail
  have hE8 : E ≤ 8 := by omega
  have Hreg := hide hok.regs
  go_loopg [48] 10 (fun gf s48 wr => ∃ (i : Nat) (lvi : Value), s48 = .int .i64 i ∧ E - i + 1 ≤ gf ∧ i ≤ E ∧ Hid (SvR w wr wb lvi (l6 ++ regB s (i * 4))))
  case atStart => exact ⟨0, lv6, rfl, by omega, by omega, show SvR _ _ _ _ _ by simpa [regB] using HS6.out⟩
  case round =>
    rename World => wo
    obtain ⟨i, lvi, rfl, hgf, hi, hI⟩ := hrel
    by_cases hlt : i < E
    · have d1 : decide ((i : Int) < (E : Int)) = true := by simp; omega
      have hw : IntKind.i64.wrap ((i : Int) + 1) = (i : Int) + 1 := by rw [IntKind.wrap_i64]; omega
      have hi8 : (i : Int) < 8 := by omega
      have r0 := below_at hI.out.below (H.out.regs (i * 4) (by omega)) hk
      have r1 := below_at hI.out.below (H.out.regs (i * 4 + 1) (by omega)) hk
      have r2 := below_at hI.out.below (H.out.regs (i * 4 + 2) (by omega)) hk
      have r3 := below_at hI.out.below (H.out.regs (i * 4 + 3) (by omega)) hk
      simp only [← Nat.add_assoc] at r0 r1 r2 r3
      have v0 := Hreg.out (i * 4)
      have v1 := Hreg.out (i * 4 + 1)
      have v2 := Hreg.out (i * 4 + 2)
      have v3 := Hreg.out (i * 4 + 3)
      have HR : Hid (regB s (i * 4 + 1) = regB s (i * 4) ++ sgnB (s.regs (i * 4)) ∧ regB s (i * 4 + 2) = regB s (i * 4 + 1) ++ sgnB (s.regs (i * 4 + 1)) ∧ regB s (i * 4 + 3) = regB s (i * 4 + 2) ++ sgnB (s.regs (i * 4 + 2)) ∧ regB s (i * 4 + 4) = regB s (i * 4 + 3) ++ sgnB (s.regs (i * 4 + 3))) := ⟨regB_succ _ _, regB_succ _ _, regB_succ _ _, regB_succ _ _⟩
      have hrl : ∀ j, j ≤ 4 → (l6 ++ regB s (i * 4 + j)).length ≤ 600 := by
        intro j hj
        have := regB_len s (i * 4 + j)
        simp; omega
      have Hrl := hide hrl
      clear hrl
      generalize s.regs (i * 4) = q0 at r0 v0 HR
      generalize s.regs (i * 4 + 1) = q1 at r1 v1 HR
      generalize s.regs (i * 4 + 2) = q2 at r2 v2 HR
      generalize s.regs (i * 4 + 3) = q3 at r3 v3 HR
      go_wp2_with fail
      go_loopg [58] 6 (fun gf s58 wr => ∃ (j : Nat) (lvj : Value), s58 = .int .i64 j ∧ 4 - j + 1 ≤ gf ∧ j ≤ 4 ∧ Hid (SvR w wr wb lvj (l6 ++ regB s (i * 4 + j))))
      case atStart => exact ⟨0, lvi, rfl, by omega, by omega, hI.out⟩
      case round =>
        obtain ⟨j, lvj, rfl, hgf2, hj, hJ⟩ := hrel
        have hc : j = 0 ∨ j = 1 ∨ j = 2 ∨ j = 3 ∨ j = 4 := by omega
        have Hbl := hide (Hrl.out j hj)
        clear r0 r1 r2 r3 d1
        rcases hc with rfl | rfl | rfl | rfl | rfl
        · have L := run_index4 wr q0 q1 q2 q3 0 q0 (by simp)
          go_wp2_with (go_at_call 51; refine (sSgn q0 hJ.out (by have := Hbl.out; omega) v0).mono ?_; rintro e w7 ⟨rfl, lv7, hS7, _⟩)
          go_roundg (4 - 1 + 1)
          case measure => omega
          case rel => exact ⟨1, lv7, rfl, by omega, by omega, by rw [HR.out.1, ← List.append_assoc]; exact hS7⟩
        · have L := run_index4 wr q0 q1 q2 q3 1 q1 (by simp)
          go_wp2_with (go_at_call 51; refine (sSgn q1 hJ.out (by have := Hbl.out; omega) v1).mono ?_; rintro e w7 ⟨rfl, lv7, hS7, _⟩)
          go_roundg (4 - 2 + 1)
          case measure => omega
          case rel => exact ⟨2, lv7, rfl, by omega, by omega, by rw [HR.out.2.1, ← List.append_assoc]; exact hS7⟩
        · have L := run_index4 wr q0 q1 q2 q3 2 q2 (by simp)
          go_wp2_with (go_at_call 51; refine (sSgn q2 hJ.out (by have := Hbl.out; omega) v2).mono ?_; rintro e w7 ⟨rfl, lv7, hS7, _⟩)
          go_roundg (4 - 3 + 1)
          case measure => omega
          case rel => exact ⟨3, lv7, rfl, by omega, by omega, by rw [HR.out.2.2.1, ← List.append_assoc]; exact hS7⟩
        · have L := run_index4 wr q0 q1 q2 q3 3 q3 (by simp)
          go_wp2_with (go_at_call 51; refine (sSgn q3 hJ.out (by have := Hbl.out; omega) v3).mono ?_; rintro e w7 ⟨rfl, lv7, hS7, _⟩)
          go_roundg (4 - 4 + 1)
          case measure => omega
          case rel => exact ⟨4, lv7, rfl, by omega, by omega, by rw [HR.out.2.2.2, ← List.append_assoc]; exact hS7⟩
        · go_wp2_with fail
          go_roundg (E - (i + 1) + 1)
          case measure => omega
          case rel => exact ⟨i + 1, lvj, by go_num, Nat.le_refl _, by omega, by rw [show (i + 1) * 4 = i * 4 + 4 by omega]; exact hJ.out⟩
    · have d1 : decide ((i : Int) < (E : Int)) = false := by simp; omega
      obtain rfl : i = E := by omega
      have HI := hide hI.out
      have hrl := regB_len s (i * 4)
      clear hgf
      go_wp2_with fail
      refine (wQueue_any kb qb mb ov (i : Int) ks draws s w wo wb lvi _ H.out hok hk8 (by omega) hsrt HI.out (by simp; omega)).mono ?_
      rintro e w8 ⟨rfl, lv8, hS8⟩
      have HS8 := hide hS8
      clear hS8
      go_wp2_with fail
      go_end0
      have := HS8.out
      rw [Hl6.out] at this
      refine ⟨rfl, lv8, ?_⟩
      simpa [bodyF] using this
end Go.Proofs.Ytndlmgocldckfaa
