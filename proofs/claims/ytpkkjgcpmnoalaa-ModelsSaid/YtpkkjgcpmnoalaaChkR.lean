import Derived.Test.YtpkkjgcpmnoalaaData
import Derived.Deep.RegionWith
namespace Go.Proofs.Ytpkkjgcpmnoalaa
open Go.RowKit
set_option linter.unusedVariables false
set_option linter.unusedSimpArgs false

set_option maxHeartbeats 400000 in
theorem rCheck_no (ents : Int) (sa : Option Addr) (nk cap : Nat) (w : World) (hno : (!inB ents 1 8 || !inB nk 1 8) = true) :
    Calls Try.prog 19 #[.agg #[.int .i64 ents, .slice sa nk cap]] w
      fun e w' => e = .returned (.tuple #[.int .i64 2, .int .i64 0, .int .i64 0]) ∧ Below w.heap.size w w' := by
  rcases h1 : inB ents 1 8 with _ | _ <;> rcases h2 : inB nk 1 8 with _ | _
  case true.true => simp [h1, h2] at hno
  all_goals
    clear hno
    go_enter Try.func19, Try.ntmps19
    go_wp2_with (go_at_call 53; refine (in_any _ _ _ _).mono ?_; rintro e w' ⟨rfl, rfl⟩)
    go_ret3
    exact ⟨rfl, (Below.refl _ _).alloc (Nat.le_refl _) _⟩

set_option maxHeartbeats 800000 in
theorem rCheck_yes (ents : Int) (b off cap : Nat) (ks : List (List Ins)) (w : World) (he : 1 ≤ ents) (he' : ents ≤ 8) (hk : 1 ≤ ks.length) (hk' : ks.length ≤ 8)
    (hbw : b < w.heap.size) (hK : KindsAt w.heap.size w b off ks) :
    Calls Try.prog 19 #[.agg #[.int .i64 ents, .slice (some ⟨b, off, none⟩) ks.length cap]] w
      fun e w' => e = .returned (checkV ents ks) ∧ Below w.heap.size w w' := by
  have h1 : inB ents 1 8 = true := by simp [inB]; omega
  have h2 : inB ks.length 1 8 = true := by simp [inB]; omega
  have hF : Hid (kindF ents ks = firstKind ents ks.length ks 0) := by show _ = _; simp [kindF, h1, h2]
  go_enter Try.func19, Try.ntmps19
  go_wp2_with (go_at_call 53; refine (in_any _ _ _ _).mono ?_; rintro e w' ⟨rfl, rfl⟩)
  go_loopw [7, 8, 9] (fun i _ _ wr => ∃ n : Nat, n ≤ ks.length ∧ i = .int .i64 n ∧ Hid (firstKind ents ks.length (ks.drop n) n = firstKind ents ks.length ks 0) ∧ Below w.heap.size w wr ∧ wr.cell? ⟨w.heap.size, 0, none⟩ = some (.int .i64 ents) ∧ wr.cell? ⟨w.heap.size, 1, none⟩ = some (.slice (some ⟨b, off, none⟩) ks.length cap) ∧ w.heap.size < wr.heap.size) (fun i _ _ _ => ks.length - (intOf i).toNat)
  case atStart => exact ⟨0, Nat.zero_le _, rfl, rfl, (Below.refl _ _).alloc (Nat.le_refl _) _, by simp [go_sem], by simp [go_sem], by simp⟩
  case round =>
    obtain ⟨n, hn, rfl, hfb, hbel, hc0, hc1, hsz⟩ := hrel
    by_cases hlt : n < ks.length
    · have hKr := hK.below hbel hbw (Nat.le_refl _)
      obtain ⟨v, hv0, hv⟩ := hKr n ks[n] (by simp)
      have hd := firstKind_drop (ents := ents) (nk := ks.length) hlt
      generalize ks[n] = l at hv hd
      obtain ⟨hl, hv'⟩ := hv
      obtain ⟨sb, sc, rfl⟩ : ∃ sb sc, v = .slice sb l.length sc := by
        obtain ⟨rfl, rfl⟩ | ⟨b', off', cap', rfl, hb', hc'⟩ | ⟨va, vc, rfl, rfl⟩ := hv'
        · exact ⟨_, _, rfl⟩
        · exact ⟨_, _, rfl⟩
        · exact ⟨_, _, rfl⟩
      by_cases hl16 : l.length ≤ 16
      · have h16 : decide (16 < (l.length : Int)) = false := by simp; omega
        have hFc : codeF ents ks.length l = firstBad ents ks.length l 0 := by rw [codeF, if_neg (by omega)]
        rw [hFc] at hd
        have HD := hide hd
        clear hd hFc
        obtain ⟨w1, hw1⟩ : ∃ w1, w1 = wr := ⟨_, rfl⟩
        subst hw1
        go_wp2
        go_loopw [8, 9] (fun j _ w2 => ∃ m : Nat, m ≤ l.length ∧ j = .int .i64 m ∧ Hid (firstBad ents ks.length (l.drop m) m = firstBad ents ks.length l 0) ∧ Below w1.heap.size w1 w2) (fun j _ _ => l.length - (intOf j).toNat)
        case atStart => exact ⟨0, Nat.zero_le _, rfl, rfl, Below.refl _ _⟩
        case round =>
          obtain ⟨m, hm, rfl, hfm, hbel2⟩ := hrel
          have gc0 := below_at hbel2 hc0 hsz
          have gc1 := below_at hbel2 hc1 hsz
          have gv0 := below_at hbel2 hv0 (Nat.lt_trans hbw hsz)
          by_cases hlm : m < l.length
          · obtain ⟨_, rfl⟩ | ⟨b', off', cap', hsb, hb', hc'⟩ | ⟨va, vc, _, rfl⟩ := hv'
            rotate_left
            · simp only [Value.slice.injEq] at hsb
              obtain ⟨rfl, -, rfl⟩ := hsb
              obtain ⟨hx0, hx1, hx2, hx3⟩ := (hc'.below hbel2 (Nat.lt_trans hb' hsz)) m l[m] (by simp)
              have hbz : w.heap.size < wr.heap.size := by have := hbel2.size; omega
              have hdm := firstBad_drop (ents := ents) (nk := ks.length) hlm
              have HT : Hid (mayF ents ks.length l[m].op l[m].a l[m].b l[m].c = true → firstBad ents ks.length (l.drop (m + 1)) (m + 1) = firstBad ents ks.length l 0) := by
                intro h; rw [← hfm.out, hdm, if_pos h]
              have HN : Hid (¬ mayF ents ks.length l[m].op l[m].a l[m].b l[m].c = true → kindF ents ks = some (n, m)) := by
                intro h
                rw [if_neg h, hfm.out] at hdm
                rw [hF.out, ← hfb.out, HD.out, hdm]
              clear hdm hc' hv0 hc0 hc1
              go_wp2
              go_region_with (go_at_call 54; refine (may_any _ _ _ _ _ _ _ _ _ he he' hk').mono ?_; rintro e w3 ⟨rfl, hb3⟩)
              all_goals
                have hb4 : Below wr.heap.size wr w3 := ((Below.refl _ _).drew).trans hb3
                clear hb3
                go_wp2
                · go_ret3
                  exact ⟨by simp [checkV, HN.out (by simp_all)], hbel.trans ((hbel2.mono (by omega)).trans (hb4.mono (by omega)))⟩
                · go_roundw
                  case rel => exact ⟨m + 1, by omega, by go_num, HT.out (by simp_all), hbel2.trans (hb4.mono (by have := hbel2.size; omega))⟩
                  case measure => simp [intOf]; omega
            · simp at hlm
            · simp at hlm
          · have hdm : Hid (firstKind ents ks.length (ks.drop (n + 1)) (n + 1) = firstKind ents ks.length ks 0) := by
              show _ = _
              have := HD.out
              have hl0 : l.drop m = [] := List.drop_of_length_le (by omega)
              rw [← hfm.out, hl0] at this
              rw [← hfb.out, this]; rfl
            go_wp2
            go_roundw
            case rel => exact ⟨n + 1, by omega, by go_num, hdm, hbel.trans (hbel2.mono (by omega)), gc0, gc1, by have := hbel2.size; omega⟩
            case measure => simp [intOf]; omega
      · have h16 : decide (16 < (l.length : Int)) = true := by simp; omega
        have hd' : Hid (kindF ents ks = some (n, 0)) := by
          show _ = _; rw [codeF, if_pos (by omega)] at hd; rw [hF.out, ← hfb.out, hd]
        clear hd
        go_wp2
        go_ret3
        exact ⟨by simp [checkV, hd'.out], hbel⟩
    · have hd' : Hid (kindF ents ks = none) := by
        show _ = _; rw [hF.out, ← hfb.out, List.drop_of_length_le (by omega)]; rfl
      go_wp2
      go_ret3
      exact ⟨by simp [checkV, hd'.out], hbel⟩

theorem rCheck_any (ents : Int) (v : Value) (ks : List (List Ins)) (w : World) (hv : KindsV w.heap.size w v ks) :
    Calls Try.prog 19 #[.agg #[.int .i64 ents, v]] w
      fun e w' => e = .returned (checkV ents ks) ∧ Below w.heap.size w w' := by
  rcases hno : (!inB ents 1 8 || !inB ks.length 1 8) with _ | _
  · simp [inB] at hno
    obtain ⟨_, ⟨rfl, rfl⟩ | ⟨b, off, cap', rfl, hb, hc⟩ | ⟨va, vc, rfl, rfl⟩⟩ := hv
    rotate_left
    · exact rCheck_yes ents b off cap' ks w (by omega) (by omega) (by omega) (by omega) hb hc
    · simp at hno
    · simp at hno
  · have hV : checkV ents ks = .tuple #[.int .i64 2, .int .i64 0, .int .i64 0] := by simp [checkV, kindF, hno]
    rw [hV]
    obtain ⟨_, ⟨rfl, rfl⟩ | ⟨b, off, cap', rfl, hb, hc⟩ | ⟨va, vc, rfl, rfl⟩⟩ := hv
    · exact rCheck_no ents none 0 0 w (by simpa using hno)
    · exact rCheck_no ents _ ks.length cap' w hno
    · exact rCheck_no ents _ 0 vc w (by simpa using hno)

end Go.Proofs.Ytpkkjgcpmnoalaa
