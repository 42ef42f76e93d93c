import Derived.Test.YtndlmgocldckfaaKpI
namespace Go.Proofs.Ytndlmgocldckfaa
open Go.RowKit
set_option linter.unusedVariables false
set_option linter.unusedSimpArgs false

def lastF (rs : List Rec) : Int := (rs.getLast?.map (fun r => r.e.time)).getD 0

theorem lastF_snoc {rs : List Rec} (i : Nat) (hi : i < rs.length) : lastF (rs.take (i + 1)) = rs[i].e.time := by
  unfold lastF
  rw [List.take_succ_eq_append_getElem hi, List.getLast?_append]
  simp
theorem lastF_le {rs : List Rec} (ho : rs.Pairwise (fun a b => BefE a.e b.e)) (h0 : ∀ r ∈ rs, 0 ≤ r.e.time) (i : Nat) (hi : i < rs.length) : lastF (rs.take i) ≤ rs[i].e.time := by
  rcases Nat.eq_zero_or_pos i with rfl | hp
  · simpa [lastF] using h0 rs[0] (List.getElem_mem hi)
  · obtain ⟨k, rfl⟩ : ∃ k, i = k + 1 := ⟨i - 1, by omega⟩
    rw [lastF_snoc k (by omega)]
    have := (List.pairwise_iff_getElem.1 ho k (k + 1) (by omega) hi (by omega)).2
    omega

set_option maxRecDepth 100000 in
set_option maxHeartbeats 4000000 in
theorem ordered_any (sa da pa : Option Addr) (sc dc pc : Nat) (L D : List Int) (P : List PlanR) (steps horizon : Int) (w : World) (hL : RawL w sa L) (hD : RawL w da D) (hP : RawPl w pa P) (hs : I64 steps) :
    Calls Try.prog 3 #[.agg #[.slice sa L.length sc, .slice da D.length dc, .slice pa P.length pc], .int .i64 steps, .int .i64 horizon] w fun e w' => e = .returned (.bool true) ∧ Below w.heap.size w w' := by
  have HL := hide hL
  have HD := hide hD
  have HP := hide hP
  clear hL hD hP
  go_enter Try.func3, Try.ntmps3
  go_wp2_with fail
  obtain ⟨W0, hW0⟩ : ∃ W0, W0 = w.alloc (.cells #[.slice sa L.length sc, .slice da D.length dc, .slice pa P.length pc] 25) := ⟨_, rfl⟩
  have hb0 : Below w.heap.size w W0 := by rw [hW0]; exact (Below.refl _ _).alloc (Nat.le_refl _) _
  have hz0 : W0.heap.size = w.heap.size + 1 := by rw [hW0]; simp
  have x1 : W0.cell? ⟨w.heap.size, 1, none⟩ = some (.slice da D.length dc) := by rw [hW0]; simp [go_sem]
  rw [← hW0]
  clear hW0
  refine (begun_any sa da pa sc dc pc L D P W0 (HL.out.below hb0) (HD.out.below hb0) (HP.out.below hb0)).mono ?_
  rintro e w1 ⟨kb, qb, mb, ov, R, base, rfl, hB⟩
  have hz1 := hB.below.size
  have hbs := hB.base
  replace x1 := below_at hB.below x1 (by omega)
  have HB1 := hide (hb0.trans (hB.below.mono (by omega)))
  have HB := hide hB
  clear hB hb0
  obtain ⟨n, hn⟩ := Int.eq_ofNat_of_zero_le (pickF_lt steps (n := 301) (by omega)).1
  have hn300 : n ≤ 300 := by have := (pickF_lt steps (n := 301) (by omega)).2; omega
  have hf := begunF_facts L D P
  have hRA := runF_all (kindsF_ok L) (rdrawsF_ok D) horizon n (begunF L P) hf.1
  rcases hrun : runF (kindsF L) (rdrawsF D) horizon n (begunF L P) with ⟨s2, rs, why⟩
  rw [hrun] at hRA
  simp only at hRA
  have he := entsF_le L
  have hk := nkF_le L
  have hlk := kindsF_len L
  have HR := hide (run_ok n horizon w1 HB.out.ker hf.1.ok (by omega) (by omega) (by omega) hbs.2 (kindsF_ok L) (rdrawsF_ok D) s2 rs why hrun)
  have HRA := hide hRA
  have Hclk : Hid ((begunF L P).clock = 0) := hf.2.1
  clear hf he hk hlk hrun hRA
  go_wp2_with (go_at_call 10; refine (pick_any _ _ _ hs (by omega)).mono ?_; rintro e w2 ⟨rfl, rfl⟩; rw [hn])
  refine HR.out.mono ?_
  rintro e w3 ⟨lv, ov3, RL, rfl, ho3, hm3, hk3, hok3, hout⟩
  obtain ⟨la, lcap, rfl, b, hat⟩ := hout.at
  replace x1 := ho3.at x1 (fun hc => by have := HB.out.kset _ hc; omega)
  have HB3 : Hid (Below w.heap.size w w3) := HB1.out.trans (ho3.below (by omega) (fun k hk hc => by have := HB.out.kset _ hc; omega))
  have Hat := hide hat
  have hz3 := ho3.size
  clear hat hout HR ho3 hm3
  go_wp2_with fail
  refine (tNow_any kb qb mb ov3 (entsF L) (kindsF L) (rdrawsF D) s2 w3 hk3 hok3.taken).mono ?_
  rintro e w4 ⟨rfl, hb4⟩
  replace x1 := below_at hb4 x1 (by omega)
  have HB4 := hide (HB3.out.trans (hb4.mono (by omega)))
  have Hat4 : Hid (RecsAt w4 (.slice la rs.length lcap) rs b lcap) := by
    refine ⟨Hat.out.form, fun i r hr => ?_⟩
    obtain ⟨sa, sc, c0, c1, c2, c3, c4, ct⟩ := Hat.out.cells i r hr
    refine ⟨sa, sc, below_at hb4 c0 (lt_of_cell c0), below_at hb4 c1 (lt_of_cell c1), below_at hb4 c2 (lt_of_cell c2), below_at hb4 c3 (lt_of_cell c3), below_at hb4 c4 (lt_of_cell c4), fun k t ht => ?_⟩
    obtain ⟨g, h1, h2⟩ := ct k t ht
    exact ⟨g, h1, below_at hb4 h2 (lt_of_cell h2)⟩
  have hq16 := hok3.len
  have htk := hok3.taken
  have hrl := rdrawsF_len D
  clear hb4 hk3 hok3
  have hwl := HRA.out.whys
  have hln := HRA.out.len
  have hran := HRA.out.ran
  have hem : why = 1 → s2.q.length = 0 := fun h => by rw [HRA.out.empty h]; rfl
  have hdry : why = 5 → ((rdrawsF D).length : Int) - s2.taken < 16 := fun h => by have := HRA.out.dry h; omega
  have Hcl2 : Hid (s2.clock = lastF rs) := by
    show _ = _
    rw [HRA.out.clock, Hclk.out]; rfl
  obtain ⟨lf, hlf⟩ : ∃ lf : Int, lf = ((rdrawsF D).length : Int) - s2.taken := ⟨_, rfl⟩
  have hlf1 : 0 ≤ lf := by omega
  have hlf2 : lf ≤ D.length := by omega
  rw [← hlf] at hdry ⊢
  generalize s2.q.length = wt at hem hq16 ⊢
  generalize s2.clock = cl at Hcl2 ⊢
  have d1 : decide ((n : Int) < (rs.length : Int)) = false := by simp; omega
  have d3 : decide ((wt : Int) < 0) = false := by simp
  have d4 : decide (16 < (wt : Int)) = false := by simp; omega
  have d5 : decide (lf < 0) = false := by simp; omega
  have d6 : decide ((D.length : Int) < lf) = false := by simp; omega
  have hc6 : why = 0 ∨ why = 1 ∨ why = 2 ∨ why = 3 ∨ why = 4 ∨ why = 5 := by omega
  have HRA2 := hide (⟨HRA.out.order, HRA.out.each⟩ : rs.Pairwise (fun a b => BefE a.e b.e) ∧ _)
  clear hwl htk hrl hlf HRA HB hq16
  have hfuel : rs.length ≤ 300 := by omega
  have HB4' := HB4
  rcases hc6 with rfl | rfl | rfl | rfl | rfl | rfl
  all_goals
    first
      | (obtain rfl : n = rs.length := (hran.1 rfl).symm)
      | (have hne : rs.length ≠ n := fun h => by have := hran.2 h; omega)
    try (obtain rfl : wt = 0 := hem rfl)
    try (have d7 : decide (16 ≤ lf) = false := by have := hdry rfl; simp; omega)
    try (have d2 : ((rs.length : Int) == (n : Int)) = false := by rw [beq_eq_false_iff_ne]; omega)
    clear hem hdry hran
    go_wp2_with fail
    clear d1 d3 d4 d5 d6 hlf1 hlf2 hbs hz1 hz0 hz3 x1
    try clear d2
    try clear d7
    go_loopg [14, 15] 304 (fun g s14 s15 wr => ∃ (i : Nat), s15 = .int .i64 i ∧ s14 = .int .i64 (lastF (rs.take i)) ∧ rs.length - i + 2 ≤ g ∧ i ≤ rs.length ∧ Hid (Below w4.heap.size w4 wr))
    case atStart => exact ⟨0, rfl, by simp [lastF], by omega, by omega, Below.refl _ _⟩
    case round =>
      rename World => wo
      obtain ⟨i, rfl, rfl, hg, hi2, hI⟩ := hrel
      by_cases hi : i < rs.length
      · have f1 : decide ((i : Int) < (rs.length : Int)) = true := by simp; omega
        have hii : (i : Int) < (rs.length : Int) := by omega
        have hw : IntKind.i64.wrap ((i : Int) + 1) = (i : Int) + 1 := by rw [IntKind.wrap_i64]; omega
        obtain ⟨ra, rc, c0, c1, _, _, c4, _⟩ := Hat4.out.cells i rs[i] (List.getElem?_eq_getElem hi)
        have hla := Hat4.out.form (by intro hc; rw [hc] at hi; simp at hi)
        simp only [Value.slice.injEq] at hla
        obtain ⟨rfl, _⟩ := hla
        have HC0 := hide c0
        have HC1 := hide c1
        replace c0 := below_at hI.out c0 (lt_of_cell c0)
        replace c1 := below_at hI.out c1 (lt_of_cell c1)
        replace c4 := below_at hI.out c4 (lt_of_cell c4)
        obtain ⟨e1, e2, e3, e4⟩ := HRA2.out.2 rs[i] (List.getElem_mem hi)
        have hlast : lastF (rs.take i) ≤ rs[i].e.time := lastF_le HRA2.out.1 (fun r hr => by have := (HRA2.out.2 r hr).1; have := Hclk.out; omega) i hi
        have Hl : Hid (lastF (rs.take (i + 1)) = rs[i].e.time) := lastF_snoc i hi
        have HJ : Hid (∀ j (hj : j < i), BefE (rs[j]'(by omega)).e rs[i].e) := fun j hj => List.pairwise_iff_getElem.1 HRA2.out.1 j i (by omega) hi hj
        generalize lastF (rs.take i) = la at hlast ⊢
        generalize rs[i] = ri at HC0 HC1 c0 c1 c4 e1 e2 e3 e4 hlast Hl HJ
        obtain ⟨⟨rt, rn, rk, re⟩, told⟩ := ri
        simp only at HC0 HC1 c0 c1 c4 e1 e2 e3 e4 hlast Hl HJ
        have f2 : decide (rt < la) = false := by simp; omega
        have f3 : decide (horizon < rt) = false := by simp; omega
        have f4 : decide (rn < 1) = false := by simp; omega
        have f5 : decide (16 < (told.length : Int)) = false := by simp; omega
        go_wp2_with fail
        have hw0 := hI.out.size
        go_loopg [16] 304 (fun g s16 wr => ∃ (j : Nat), s16 = .int .i64 j ∧ i - j + 2 ≤ g ∧ j ≤ i ∧ Hid (Below w4.heap.size w4 wr))
        case atStart => exact ⟨0, rfl, by omega, by omega, by first | exact hI.out | exact hI.out.drew⟩
        case round =>
          obtain ⟨j, rfl, hg2, hj2, hJ2⟩ := hrel
          by_cases hj : j < i
          · have g1 : decide ((j : Int) < (i : Int)) = true := by simp; omega
            have hjj : (j : Int) < (rs.length : Int) := by omega
            have hw2 : IntKind.i64.wrap ((j : Int) + 1) = (j : Int) + 1 := by rw [IntKind.wrap_i64]; omega
            have hjl : j < rs.length := by omega
            obtain ⟨ja, jc, k0, k1, _, _, _, _⟩ := Hat4.out.cells j rs[j] (List.getElem?_eq_getElem hjl)
            replace k0 := below_at hJ2.out k0 (lt_of_cell k0)
            replace k1 := below_at hJ2.out k1 (lt_of_cell k1)
            have q0 := below_at hJ2.out HC0.out (lt_of_cell HC0.out)
            have q1 := below_at hJ2.out HC1.out (lt_of_cell HC1.out)
            have hbe := HJ.out j hj
            generalize rs[j] = rj at k0 k1 hbe
            obtain ⟨⟨jt, jn, jk, je⟩, jtold⟩ := rj
            simp only [BefE] at k0 k1 hbe
            have z1 : (jn == rn) = false := by rw [beq_eq_false_iff_ne]; exact hbe.1
            have z1' : decide (jn = rn) = false := by rw [decide_eq_false_iff_not]; exact hbe.1
            clear c0 c1 c4 f1 f2 f3 f4 f5
            rcases hbe.2 with hlt | ⟨heq, hlt⟩
            · have z2 : (jt == rt) = false := by rw [beq_eq_false_iff_ne]; omega
              have z2' : decide (jt = rt) = false := by rw [decide_eq_false_iff_not]; omega
              clear hbe
              go_wp2_with fail
              go_quiet (fail)
              go_wp2_with fail
              go_roundg (i - (j + 1) + 2)
              case measure => omega
              case rel => exact ⟨j + 1, by go_num, Nat.le_refl _, by omega, below_drewN hJ2.out _⟩
            · have z3 : decide (rn < jn) = false := by simp; omega
              subst heq
              clear hbe
              go_wp2_with fail
              go_quiet (fail)
              go_wp2_with fail
              go_roundg (i - (j + 1) + 2)
              case measure => omega
              case rel => exact ⟨j + 1, by go_num, Nat.le_refl _, by omega, below_drewN hJ2.out _⟩
          · have g1 : decide ((j : Int) < (i : Int)) = false := by simp; omega
            have q0 := below_at hJ2.out HC0.out (lt_of_cell HC0.out)
            have q1 := below_at hJ2.out HC1.out (lt_of_cell HC1.out)
            clear c0 c1 c4 f1 f2 f3 f4 f5
            go_wp2_with fail
            go_roundg (rs.length - (i + 1) + 2)
            case measure => omega
            case rel => exact ⟨i + 1, by go_num, by rw [Hl.out], Nat.le_refl _, by omega, by first | exact hJ2.out | exact hJ2.out.drew⟩
      · have f1 : decide ((i : Int) < (rs.length : Int)) = false := by simp; omega
        have hq : rs.take i = rs := List.take_of_length_le (by omega)
        have hz : (cl == lastF (rs.take i)) = true := by rw [beq_iff_eq, hq]; exact Hcl2.out
        have hz' : decide (cl = lastF (rs.take i)) = true := by rw [decide_eq_true_eq, hq]; exact Hcl2.out
        have hz4 := HB4.out.size
        clear hq
        go_wp2_with fail
        go_ret
        exact ⟨rfl, HB4.out.trans (hI.out.mono (by omega))⟩
end Go.Proofs.Ytndlmgocldckfaa
