import Derived.Test.YtpkkjgcpmnoalaaMadeN
import Derived.Test.YtpkkjgcpmnoalaaNewE
namespace Go.Proofs.Ytpkkjgcpmnoalaa
open Go.RowKit
set_option linter.unusedVariables false
set_option linter.unusedSimpArgs false

set_option maxRecDepth 100000 in
set_option maxHeartbeats 2000000 in
theorem made_new_model {base : Nat} (wb : Nat) (lv : Value) (ps : List Pair) (a b c d ents : Int) (ka : Addr) (kb koff kcap : Nat) (ks : List (List Ins)) (l : Value) (draws : List Int) (rv qv sv : Value) (w : World) (h : Inv base w wb lv ps) (hka : 0 < ks.length → ka = ⟨kb, koff, none⟩) (hkl : ks.length ≤ 5864062014805) (hkb : kb < base) (hK : KindsAt base w kb koff ks) (hd : IntsX base w l draws) (p : Nat × Nat) (hk : kindF ents ks = some p) :
    Calls Try.prog 11 #[.pointer (some ⟨wb, 0, none⟩), .agg #[.int .i64 2, .int .i64 a, .int .i64 b, .int .i64 c, .int .i64 d, .int .i64 ents, .slice (some ka) ks.length kcap, l, rv, qv, sv]] w
      fun e w' => e = .returned (.bool true) ∧ Below base w w' ∧ ∃ lv' ps', ps'.length ≤ ps.length + 1 ∧ Inv base w' wb lv' ps' := by
  have hbl : base ≤ w.heap.size := Nat.le_trans h.blo (Nat.le_of_lt h.wlt)
  obtain ⟨W, hW⟩ : ∃ W, W = w.alloc (.cells #[.int .i64 2, .int .i64 a, .int .i64 b, .int .i64 c, .int .i64 d, .int .i64 ents, .slice (some ka) ks.length kcap, l, rv, qv, sv] 41) := ⟨_, rfl⟩
  have hb : Below w.heap.size w W := by rw [hW]; exact (Below.refl _ _).alloc (Nat.le_refl _) _
  have hWs : W.heap.size = w.heap.size + 1 := by rw [hW]; simp
  have c0 : W.cell? ⟨w.heap.size, 0, none⟩ = some (.int .i64 2) := by rw [hW]; simp [go_sem]
  have c5 : W.cell? ⟨w.heap.size, 5, none⟩ = some (.int .i64 ents) := by rw [hW]; simp [go_sem]
  have c6 : W.cell? ⟨w.heap.size, 6, none⟩ = some (.slice (some ka) ks.length kcap) := by rw [hW]; simp [go_sem]
  have c7 : W.cell? ⟨w.heap.size, 7, none⟩ = some l := by rw [hW]; simp [go_sem]
  obtain ⟨la, lc, rfl⟩ := hd.form
  have HK : Hid (∀ W : World, Below w.heap.size w W → KindsAt W.heap.size W kb koff ks) := by
    intro W hW
    have := hW.size
    exact (hK.below (hW.mono hbl) hkb (Nat.le_refl _)).mono (by omega)
  have HD : Hid (∀ W : World, Below w.heap.size w W → IntsX base W (.slice la draws.length lc) draws) := by
    intro W hW
    exact hd.below (hW.mono hbl)
  have hdl := hd.len
  have Hdl := hide hdl
  clear hd hK hdl
  go_enter Try.func11, Try.ntmps11
  go_wp2_with fail
  rw [← hW]
  refine (lentModel_gen ents ka kb koff kcap ks _ hka hkl (by omega) (HK.out W hb)).mono ?_
  rintro e w1 ⟨g, hh, rs, rfl, hb1, hL1⟩
  have hz1 := hb1.size
  have d0 := below_at hb1 c0 (by omega)
  have d5 := below_at hb1 c5 (by omega)
  have d6 := below_at hb1 c6 (by omega)
  have d7 := below_at hb1 c7 (by omega)
  have hB1 : Below w.heap.size w w1 := hb.trans (hb1.mono (by omega))
  have hlt1 : w.heap.size < w1.heap.size := by omega
  have HL1 := hide hL1
  clear c0 c5 c6 c7 hW hL1
  go_wp2_with fail
  have hm := (Below.refl w1.heap.size w1).alloc (Nat.le_refl _) (.cells #[.int .i64 ents, .slice (some ⟨g, 0, none⟩) ks.length (ks.length + 8)] 38)
  have HLm := hide (HL1.out.below hm)
  refine (lentInts_any _ draws _ (HD.out _ (hB1.trans (hm.mono (by omega))))).mono ?_
  rintro e w2 ⟨sa, sc, rfl, hb2, hLV⟩
  have hz2 := hb2.size
  rw [World.size_alloc] at hz2
  have e0 := below_at hb2 (below_at hm d0 (by omega)) (by simp; omega)
  have e5 := below_at hb2 (below_at hm d5 (by omega)) (by simp; omega)
  have e6 := below_at hb2 (below_at hm d6 (by omega)) (by simp; omega)
  have e7 := below_at hb2 (below_at hm d7 (by omega)) (by simp; omega)
  have m0 : w2.cell? ⟨w1.heap.size, 0, none⟩ = some (.int .i64 ents) := below_at hb2 (by simp [go_sem]) (by simp)
  have m1 : w2.cell? ⟨w1.heap.size, 1, none⟩ = some (.slice (some ⟨g, 0, none⟩) ks.length (ks.length + 8)) := below_at hb2 (by simp [go_sem]) (by simp)
  have hB2 : Below w.heap.size w w2 := hB1.trans ((hm.mono (by omega)).trans (hb2.mono (by simp; omega)))
  have HL2 := hide (HLm.out.below hb2)
  have HLV := hide hLV
  rw [World.size_alloc] at HLV
  clear d0 d5 d6 d7 hLV
  go_wp2_with fail
  refine (tNew_model (B := 0) ents _ _ ks _ ⟨hkl, .inr (.inl ⟨g, 0, _, rfl, HL2.out.ghi, HL2.out.kinds⟩)⟩ p hk).mono ?_
  rintro e w3 ⟨rfl, hb3⟩
  have hz3 := hb3.size
  have f5 := below_at hb3 e5 (by omega)
  have f6 := below_at hb3 e6 (by omega)
  have f7 := below_at hb3 e7 (by omega)
  have n0 := below_at hb3 m0 (by omega)
  have n1 := below_at hb3 m1 (by omega)
  have hB3 : Below w.heap.size w w3 := hB2.trans (hb3.mono (by omega))
  have HL3 := hide (HL2.out.below hb3)
  clear e0 e5 e6 e7 m0 m1
  go_wp2_with fail
  refine (rNew_model ents _ _ ks _ (kindsV_gen hka hkl (by omega) (HK.out _ hB3)) p hk).mono ?_
  rintro e w4 ⟨rfl, hb4⟩
  have hz4 := hb4.size
  have g5 := below_at hb4 f5 (by omega)
  have g6 := below_at hb4 f6 (by omega)
  have g7 := below_at hb4 f7 (by omega)
  have p0 := below_at hb4 n0 (by omega)
  have p1 := below_at hb4 n1 (by omega)
  have hB4 : Below w.heap.size w w4 := hB3.trans (hb4.mono (by omega))
  have HL4 := hide (HL3.out.below hb4)
  clear f5 f6 f7 n0 n1
  go_wp2_with fail
  refine (wholeModel_gen ents ka _ _ g hh kb koff kcap rs ks _ hka hkl HL4.out).mono ?_
  rintro e w5 ⟨rfl, ho5⟩
  have HS5 : Hid (∀ k, (k = g ∨ ∃ i : Nat, rs[i]? = some (some k)) → w.heap.size + 1 < k ∧ k < w1.heap.size) := by
    rintro k (rfl | ⟨i, hi⟩)
    · have := HL1.out.glo; have := HL1.out.ghi; omega
    · have hilt : i < ks.length := by have := (List.getElem?_eq_some_iff.1 hi).1; rw [HL1.out.len] at this; exact this
      have := HL1.out.code i k ks[i] hi (by simp [hilt]); omega
  have hz5 := ho5.size
  have q7 := ho5.at g7 (fun hs => by have := HS5.out _ hs; omega)
  have hB5 : Below w.heap.size w w5 := hB4.trans (ho5.below (by omega) (fun k hk hs => by have := HS5.out _ hs; omega))
  have HLV5 := hide (((HLV.out.below hb3).below hb4).only ho5 (fun k hk hs => by have := HS5.out _ hs; omega))
  have Ho5 := hide ho5
  clear g5 g6 g7 p0 p1 ho5
  go_wp2_with fail
  refine (wholeInts_any (w1.heap.size + 1) w2.heap.size _ draws sa sc _ ((HD.out _ hB5).mono (by omega)) HLV5.out (by
    intro g hg
    rcases HLV.out with ⟨_, h0, _⟩ | ⟨g', h1, _, _, _, h5, _⟩
    · rw [h0] at hg; cases hg
    · rw [h1] at hg; simp at hg; omega)).mono ?_
  rintro e w6 ⟨rfl, ho6⟩
  have hB6 : Below w.heap.size w w6 := hB5.trans (ho6.below (by omega) (by intro k hk hs; omega))
  have Ho6 := hide ho6
  have hz6 := ho6.size
  clear ho6
  go_wp2_with fail
  refine (one_none wb _).mono ?_
  rintro e w7 ⟨rfl, rfl⟩
  go_wp2
  go_ret
  exact ⟨by simp, hB6.mono hbl, lv, ps, by omega, h.below hB6⟩

set_option maxRecDepth 100000 in
set_option maxHeartbeats 2000000 in
theorem made_new_draws {base : Nat} (wb : Nat) (lv : Value) (ps : List Pair) (a b c d ents : Int) (ka : Addr) (kb koff kcap : Nat) (ks : List (List Ins)) (l : Value) (draws : List Int) (rv qv sv : Value) (w : World) (h : Inv base w wb lv ps) (hka : 0 < ks.length → ka = ⟨kb, koff, none⟩) (hkl : ks.length ≤ 5864062014805) (hkb : kb < base) (hK : KindsAt base w kb koff ks) (hd : IntsX base w l draws) (hk : kindF ents ks = none) (hD : drawsF draws = false) :
    Calls Try.prog 11 #[.pointer (some ⟨wb, 0, none⟩), .agg #[.int .i64 2, .int .i64 a, .int .i64 b, .int .i64 c, .int .i64 d, .int .i64 ents, .slice (some ka) ks.length kcap, l, rv, qv, sv]] w
      fun e w' => e = .returned (.bool true) ∧ Below base w w' ∧ ∃ lv' ps', ps'.length ≤ ps.length + 1 ∧ Inv base w' wb lv' ps' := by
  have hks : 0 < ks.length := by
    cases ks with
    | nil => rw [kindF_nil] at hk; cases hk
    | cons x l => simp
  obtain rfl := hka hks
  have hbl : base ≤ w.heap.size := Nat.le_trans h.blo (Nat.le_of_lt h.wlt)
  obtain ⟨W, hW⟩ : ∃ W, W = w.alloc (.cells #[.int .i64 2, .int .i64 a, .int .i64 b, .int .i64 c, .int .i64 d, .int .i64 ents, .slice (some ⟨kb, koff, none⟩) ks.length kcap, l, rv, qv, sv] 41) := ⟨_, rfl⟩
  have hb : Below w.heap.size w W := by rw [hW]; exact (Below.refl _ _).alloc (Nat.le_refl _) _
  have hWs : W.heap.size = w.heap.size + 1 := by rw [hW]; simp
  have c0 : W.cell? ⟨w.heap.size, 0, none⟩ = some (.int .i64 2) := by rw [hW]; simp [go_sem]
  have c5 : W.cell? ⟨w.heap.size, 5, none⟩ = some (.int .i64 ents) := by rw [hW]; simp [go_sem]
  have c6 : W.cell? ⟨w.heap.size, 6, none⟩ = some (.slice (some ⟨kb, koff, none⟩) ks.length kcap) := by rw [hW]; simp [go_sem]
  have c7 : W.cell? ⟨w.heap.size, 7, none⟩ = some l := by rw [hW]; simp [go_sem]
  obtain ⟨la, lc, rfl⟩ := hd.form
  have HK : Hid (∀ W : World, Below w.heap.size w W → KindsAt W.heap.size W kb koff ks) := by
    intro W hW
    have := hW.size
    exact (hK.below (hW.mono hbl) hkb (Nat.le_refl _)).mono (by omega)
  have HD : Hid (∀ W : World, Below w.heap.size w W → IntsX base W (.slice la draws.length lc) draws) := by
    intro W hW
    exact hd.below (hW.mono hbl)
  have hdl := hd.len
  have Hdl := hide hdl
  clear hd hK hdl
  go_enter Try.func11, Try.ntmps11
  go_wp2_with fail
  rw [← hW]
  refine (lentModel_gen ents ⟨kb, koff, none⟩ kb koff kcap ks _ (fun _ => rfl) hkl (by omega) (HK.out W hb)).mono ?_
  rintro e w1 ⟨g, hh, rs, rfl, hb1, hL1⟩
  have hz1 := hb1.size
  have d0 := below_at hb1 c0 (by omega)
  have d5 := below_at hb1 c5 (by omega)
  have d6 := below_at hb1 c6 (by omega)
  have d7 := below_at hb1 c7 (by omega)
  have hB1 : Below w.heap.size w w1 := hb.trans (hb1.mono (by omega))
  have hlt1 : w.heap.size < w1.heap.size := by omega
  have HL1 := hide hL1
  clear c0 c5 c6 c7 hW hL1
  go_wp2_with fail
  have hm := (Below.refl w1.heap.size w1).alloc (Nat.le_refl _) (.cells #[.int .i64 ents, .slice (some ⟨g, 0, none⟩) ks.length (ks.length + 8)] 38)
  have HLm := hide (HL1.out.below hm)
  refine (lentInts_any _ draws _ (HD.out _ (hB1.trans (hm.mono (by omega))))).mono ?_
  rintro e w2 ⟨sa, sc, rfl, hb2, hLV⟩
  have hz2 := hb2.size
  rw [World.size_alloc] at hz2
  have e0 := below_at hb2 (below_at hm d0 (by omega)) (by simp; omega)
  have e5 := below_at hb2 (below_at hm d5 (by omega)) (by simp; omega)
  have e6 := below_at hb2 (below_at hm d6 (by omega)) (by simp; omega)
  have e7 := below_at hb2 (below_at hm d7 (by omega)) (by simp; omega)
  have m0 : w2.cell? ⟨w1.heap.size, 0, none⟩ = some (.int .i64 ents) := below_at hb2 (by simp [go_sem]) (by simp)
  have m1 : w2.cell? ⟨w1.heap.size, 1, none⟩ = some (.slice (some ⟨g, 0, none⟩) ks.length (ks.length + 8)) := below_at hb2 (by simp [go_sem]) (by simp)
  have hB2 : Below w.heap.size w w2 := hB1.trans ((hm.mono (by omega)).trans (hb2.mono (by simp; omega)))
  have HL2 := hide (HLm.out.below hb2)
  have HLV := hide hLV
  rw [World.size_alloc] at HLV
  clear d0 d5 d6 d7 hLV
  go_wp2_with fail
  refine (tNew_draws ents _ _ ks draws _ ⟨hkl, .inr (.inl ⟨g, 0, _, rfl, HL2.out.ghi, HL2.out.kinds⟩)⟩ (HLV.out.ints Hdl.out) hk hD).mono ?_
  rintro e w3 ⟨rfl, hb3⟩
  have hz3 := hb3.size
  have f5 := below_at hb3 e5 (by omega)
  have f6 := below_at hb3 e6 (by omega)
  have f7 := below_at hb3 e7 (by omega)
  have n0 := below_at hb3 m0 (by omega)
  have n1 := below_at hb3 m1 (by omega)
  have hB3 : Below w.heap.size w w3 := hB2.trans (hb3.mono (by omega))
  have HL3 := hide (HL2.out.below hb3)
  clear e0 e5 e6 e7 m0 m1
  go_wp2_with fail
  refine (rNew_restX ents kb koff kcap _ ks draws _ hkl (by omega) (HK.out _ hB3) ((HD.out _ hB3).mono (by omega)) hk).mono ?_
  rintro e w4 hr4
  rcases hr4.symm with ⟨h1, _⟩ | ⟨_, rfl, hb4⟩
  · rw [drawsR_eq, hD] at h1; cases h1
  have hz4 := hb4.size
  have g5 := below_at hb4 f5 (by omega)
  have g6 := below_at hb4 f6 (by omega)
  have g7 := below_at hb4 f7 (by omega)
  have p0 := below_at hb4 n0 (by omega)
  have p1 := below_at hb4 n1 (by omega)
  have hB4 : Below w.heap.size w w4 := hB3.trans (hb4.mono (by omega))
  have HL4 := hide (HL3.out.below hb4)
  clear f5 f6 f7 n0 n1
  go_wp2_with fail
  refine (wholeModel_gen ents ⟨kb, koff, none⟩ _ _ g hh kb koff kcap rs ks _ (fun _ => rfl) hkl HL4.out).mono ?_
  rintro e w5 ⟨rfl, ho5⟩
  have HS5 : Hid (∀ k, (k = g ∨ ∃ i : Nat, rs[i]? = some (some k)) → w.heap.size + 1 < k ∧ k < w1.heap.size) := by
    rintro k (rfl | ⟨i, hi⟩)
    · have := HL1.out.glo; have := HL1.out.ghi; omega
    · have hilt : i < ks.length := by have := (List.getElem?_eq_some_iff.1 hi).1; rw [HL1.out.len] at this; exact this
      have := HL1.out.code i k ks[i] hi (by simp [hilt]); omega
  have hz5 := ho5.size
  have q7 := ho5.at g7 (fun hs => by have := HS5.out _ hs; omega)
  have hB5 : Below w.heap.size w w5 := hB4.trans (ho5.below (by omega) (fun k hk hs => by have := HS5.out _ hs; omega))
  have HLV5 := hide (((HLV.out.below hb3).below hb4).only ho5 (fun k hk hs => by have := HS5.out _ hs; omega))
  have Ho5 := hide ho5
  clear g5 g6 g7 p0 p1 ho5
  go_wp2_with fail
  refine (wholeInts_any (w1.heap.size + 1) w2.heap.size _ draws sa sc _ ((HD.out _ hB5).mono (by omega)) HLV5.out (by
    intro g hg
    rcases HLV.out with ⟨_, h0, _⟩ | ⟨g', h1, _, _, _, h5, _⟩
    · rw [h0] at hg; cases hg
    · rw [h1] at hg; simp at hg; omega)).mono ?_
  rintro e w6 ⟨rfl, ho6⟩
  have hB6 : Below w.heap.size w w6 := hB5.trans (ho6.below (by omega) (by intro k hk hs; omega))
  have Ho6 := hide ho6
  have hz6 := ho6.size
  clear ho6
  go_wp2_with fail
  refine (one_none wb _).mono ?_
  rintro e w7 ⟨rfl, rfl⟩
  go_wp2
  go_ret
  exact ⟨by simp, hB6.mono hbl, lv, ps, by omega, h.below hB6⟩

set_option maxRecDepth 100000 in
set_option maxHeartbeats 2000000 in
theorem made_new_ok {base : Nat} (wb : Nat) (lv : Value) (ps : List Pair) (a b c d ents : Int) (ka : Addr) (kb koff kcap : Nat) (ks : List (List Ins)) (l : Value) (draws : List Int) (rv qv sv : Value) (w : World) (h : Inv base w wb lv ps) (hka : 0 < ks.length → ka = ⟨kb, koff, none⟩) (hkl : ks.length ≤ 5864062014805) (hkb : kb < base) (hK : KindsAt base w kb koff ks) (hd : IntsX base w l draws) (hk : kindF ents ks = none) (hD : drawsF draws = true) (hlen : (ps.length + 1) * 16 ≤ 140737488355328) :
    Calls Try.prog 11 #[.pointer (some ⟨wb, 0, none⟩), .agg #[.int .i64 2, .int .i64 a, .int .i64 b, .int .i64 c, .int .i64 d, .int .i64 ents, .slice (some ka) ks.length kcap, l, rv, qv, sv]] w
      fun e w' => e = .returned (.bool true) ∧ Below base w w' ∧ ∃ lv' ps', ps'.length ≤ ps.length + 1 ∧ Inv base w' wb lv' ps' := by
  have hks : 0 < ks.length := by
    cases ks with
    | nil => rw [kindF_nil] at hk; cases hk
    | cons x l => simp
  obtain rfl := hka hks
  have hbl : base ≤ w.heap.size := Nat.le_trans h.blo (Nat.le_of_lt h.wlt)
  obtain ⟨W, hW⟩ : ∃ W, W = w.alloc (.cells #[.int .i64 2, .int .i64 a, .int .i64 b, .int .i64 c, .int .i64 d, .int .i64 ents, .slice (some ⟨kb, koff, none⟩) ks.length kcap, l, rv, qv, sv] 41) := ⟨_, rfl⟩
  have hb : Below w.heap.size w W := by rw [hW]; exact (Below.refl _ _).alloc (Nat.le_refl _) _
  have hWs : W.heap.size = w.heap.size + 1 := by rw [hW]; simp
  have c0 : W.cell? ⟨w.heap.size, 0, none⟩ = some (.int .i64 2) := by rw [hW]; simp [go_sem]
  have c5 : W.cell? ⟨w.heap.size, 5, none⟩ = some (.int .i64 ents) := by rw [hW]; simp [go_sem]
  have c6 : W.cell? ⟨w.heap.size, 6, none⟩ = some (.slice (some ⟨kb, koff, none⟩) ks.length kcap) := by rw [hW]; simp [go_sem]
  have c7 : W.cell? ⟨w.heap.size, 7, none⟩ = some l := by rw [hW]; simp [go_sem]
  obtain ⟨la, lc, rfl⟩ := hd.form
  have HK : Hid (∀ W : World, Below w.heap.size w W → KindsAt W.heap.size W kb koff ks) := by
    intro W hW
    have := hW.size
    exact (hK.below (hW.mono hbl) hkb (Nat.le_refl _)).mono (by omega)
  have HD : Hid (∀ W : World, Below w.heap.size w W → IntsX base W (.slice la draws.length lc) draws) := by
    intro W hW
    exact hd.below (hW.mono hbl)
  have hdl := hd.len
  have Hdl := hide hdl
  clear hd hK hdl
  go_enter Try.func11, Try.ntmps11
  go_wp2_with fail
  rw [← hW]
  refine (lentModel_gen ents ⟨kb, koff, none⟩ kb koff kcap ks _ (fun _ => rfl) hkl (by omega) (HK.out W hb)).mono ?_
  rintro e w1 ⟨g, hh, rs, rfl, hb1, hL1⟩
  have hz1 := hb1.size
  have d0 := below_at hb1 c0 (by omega)
  have d5 := below_at hb1 c5 (by omega)
  have d6 := below_at hb1 c6 (by omega)
  have d7 := below_at hb1 c7 (by omega)
  have hB1 : Below w.heap.size w w1 := hb.trans (hb1.mono (by omega))
  have hlt1 : w.heap.size < w1.heap.size := by omega
  have HL1 := hide hL1
  clear c0 c5 c6 c7 hW hL1
  go_wp2_with fail
  have hm := (Below.refl w1.heap.size w1).alloc (Nat.le_refl _) (.cells #[.int .i64 ents, .slice (some ⟨g, 0, none⟩) ks.length (ks.length + 8)] 38)
  have HLm := hide (HL1.out.below hm)
  refine (lentInts_any _ draws _ (HD.out _ (hB1.trans (hm.mono (by omega))))).mono ?_
  rintro e w2 ⟨sa, sc, rfl, hb2, hLV⟩
  have hz2 := hb2.size
  rw [World.size_alloc] at hz2
  have e0 := below_at hb2 (below_at hm d0 (by omega)) (by simp; omega)
  have e5 := below_at hb2 (below_at hm d5 (by omega)) (by simp; omega)
  have e6 := below_at hb2 (below_at hm d6 (by omega)) (by simp; omega)
  have e7 := below_at hb2 (below_at hm d7 (by omega)) (by simp; omega)
  have m0 : w2.cell? ⟨w1.heap.size, 0, none⟩ = some (.int .i64 ents) := below_at hb2 (by simp [go_sem]) (by simp)
  have m1 : w2.cell? ⟨w1.heap.size, 1, none⟩ = some (.slice (some ⟨g, 0, none⟩) ks.length (ks.length + 8)) := below_at hb2 (by simp [go_sem]) (by simp)
  have hB2 : Below w.heap.size w w2 := hB1.trans ((hm.mono (by omega)).trans (hb2.mono (by simp; omega)))
  have HL2 := hide (HLm.out.below hb2)
  have HLV := hide hLV
  rw [World.size_alloc] at HLV
  clear d0 d5 d6 d7 hLV
  go_wp2_with fail
  refine (tNew_yes ents g 0 _ _ ks draws _ hkl HL2.out.ghi HL2.out.kinds (HLV.out.ints Hdl.out) hk hD).mono ?_
  rintro e w3 ⟨xk, xm, rfl, hb3, x1, x2, x3, x4, hPk⟩
  have HPk := hide hPk
  clear hPk
  have hz3 := hb3.size
  have f5 := below_at hb3 e5 (by omega)
  have f6 := below_at hb3 e6 (by omega)
  have f7 := below_at hb3 e7 (by omega)
  have n0 := below_at hb3 m0 (by omega)
  have n1 := below_at hb3 m1 (by omega)
  have hB3 : Below w.heap.size w w3 := hB2.trans (hb3.mono (by omega))
  have HL3 := hide (HL2.out.below hb3)
  clear e0 e5 e6 e7 m0 m1
  go_wp2_with fail
  refine (rNew_restX ents kb koff kcap _ ks draws _ hkl (by omega) (HK.out _ hB3) ((HD.out _ hB3).mono (by omega)) hk).mono ?_
  rintro e w4 hr4
  rcases hr4 with ⟨h1, _⟩ | ⟨_, xr, rfl, hb4, y1, y2, hPr⟩
  · rw [drawsR_eq, hD] at h1; cases h1
  have HPr := hide hPr
  clear hPr
  have hz4 := hb4.size
  have g5 := below_at hb4 f5 (by omega)
  have g6 := below_at hb4 f6 (by omega)
  have g7 := below_at hb4 f7 (by omega)
  have p0 := below_at hb4 n0 (by omega)
  have p1 := below_at hb4 n1 (by omega)
  have hB4 : Below w.heap.size w w4 := hB3.trans (hb4.mono (by omega))
  have HL4 := hide (HL3.out.below hb4)
  clear f5 f6 f7 n0 n1
  go_wp2_with fail
  refine (wholeModel_gen ents ⟨kb, koff, none⟩ _ _ g hh kb koff kcap rs ks _ (fun _ => rfl) hkl HL4.out).mono ?_
  rintro e w5 ⟨rfl, ho5⟩
  have HS5 : Hid (∀ k, (k = g ∨ ∃ i : Nat, rs[i]? = some (some k)) → w.heap.size + 1 < k ∧ k < w1.heap.size) := by
    rintro k (rfl | ⟨i, hi⟩)
    · have := HL1.out.glo; have := HL1.out.ghi; omega
    · have hilt : i < ks.length := by have := (List.getElem?_eq_some_iff.1 hi).1; rw [HL1.out.len] at this; exact this
      have := HL1.out.code i k ks[i] hi (by simp [hilt]); omega
  have hz5 := ho5.size
  have q7 := ho5.at g7 (fun hs => by have := HS5.out _ hs; omega)
  have hB5 : Below w.heap.size w w5 := hB4.trans (ho5.below (by omega) (fun k hk hs => by have := HS5.out _ hs; omega))
  have HLV5 := hide (((HLV.out.below hb3).below hb4).only ho5 (fun k hk hs => by have := HS5.out _ hs; omega))
  have Ho5 := hide ho5
  clear g5 g6 g7 p0 p1 ho5
  go_wp2_with fail
  refine (wholeInts_any (w1.heap.size + 1) w2.heap.size _ draws sa sc _ ((HD.out _ hB5).mono (by omega)) HLV5.out (by
    intro g hg
    rcases HLV.out with ⟨_, h0, _⟩ | ⟨g', h1, _, _, _, h5, _⟩
    · rw [h0] at hg; cases hg
    · rw [h1] at hg; simp at hg; omega)).mono ?_
  rintro e w6 ⟨rfl, ho6⟩
  have hB6 : Below w.heap.size w w6 := hB5.trans (ho6.below (by omega) (by intro k hk hs; omega))
  have Ho6 := hide ho6
  have hz6 := ho6.size
  clear ho6
  go_wp2_with fail
  have hents : 1 ≤ ents ∧ ents ≤ 8 ∧ ks.length ≤ 8 := by
    unfold kindF at hk
    split at hk
    · simp at hk
    · rename_i h; simp [inB] at h; omega
  have hdr : draws.length ≤ 1000 := by
    simp [drawsF] at hD; exact hD.1
  have hhas : ∀ x, (Pair.mk xk xm xr ents ks draws 0 []).has x → w2.heap.size ≤ x ∧ x < w4.heap.size := by
    rintro x (e | e | e)
    · have e : x = xk := e; omega
    · have e : x = xm := e; omega
    · have e : x = xr := e; omega
  have hpair : PairOK (fun b => w.heap.size ≤ b ∧ b < w6.heap.size ∧ ¬ (Pair.mk xk xm xr ents ks draws 0 []).has b) w6 (Pair.mk xk xm xr ents ks draws 0 []) := by
    have h4 : PairOK (fun b => w2.heap.size ≤ b ∧ b < w4.heap.size ∧ ¬ (Pair.mk xk xm xr ents ks draws 0 []).has b) w4 (Pair.mk xk xm xr ents ks draws 0 []) := by
      refine ⟨?_, ?_, rfl, by show 0 ≤ 16; omega, hents.1, hents.2.1, hents.2.2, hdr, ?_, ?_, ?_⟩
      · refine ((HPk.out.only (Only.new (S := fun _ => False) hb4) (by simp) (by simp) (by simp))).mono ?_
        intro x hx
        refine ⟨hx.1, by have := hx.2.1; omega, ?_⟩
        rintro (e | e | e)
        · exact hx.2.2.1 e
        · exact hx.2.2.2 e
        · have := hx.2.1; have e : x = xr := e; omega
      · have hr := HPr.out
        have e01 : ((0 : Nat) : Int) + 1 = 1 := rfl
        show RefK _ _ xr ents ks draws 0 0 (((0 : Nat) : Int) + 1) _ []
        rw [e01]
        obtain ⟨⟨kv, dv, rv', qv', h0, h1, h2, h3, h4, h5, h6, h7, hk', hd', hr', hq'⟩, hroom⟩ := hr
        have hR : ∀ x, (w3.heap.size ≤ x ∧ x < w4.heap.size ∧ x ≠ xr) → (w2.heap.size ≤ x ∧ x < w4.heap.size ∧ ¬ (Pair.mk xk xm xr ents ks draws 0 []).has x) := by
          intro x hx
          refine ⟨by omega, hx.2.1, ?_⟩
          rintro (e | e | e)
          · have e : x = xk := e; omega
          · have e : x = xm := e; omega
          · exact hx.2.2 e
        exact ⟨⟨kv, dv, rv', qv', h0, h1, h2, h3, h4, h5, h6, h7, hk'.mono hR, hd'.mono hR, hr'.mono hR, hq'.mono hR⟩, hroom⟩
      · exact HPk.out.ne
      · show xk ≠ xr; omega
      · show xm ≠ xr; omega
    refine ((h4.only Ho5.out ?_ ?_).only Ho6.out ?_ ?_).mono ?_
    · intro x hx hs; have := HS5.out x hs; omega
    · intro x hx hs; have := HS5.out x hs; have := hhas x hx; omega
    · intro x hx hs; omega
    · intro x hx hs; have := hhas x hx; omega
    · intro x hx; exact ⟨by omega, by omega, hx.2.2⟩
  refine (one_some (base := base) (w0 := w) wb lv ps (Pair.mk xk xm xr ents ks draws 0 []) _ h hB6 hpair (fun x hx => by have := hhas x hx; omega) hlen hbl).mono ?_
  rintro e w7 ⟨rfl, hB7, lv', hI7⟩
  have HI7 := hide hI7
  clear hI7
  go_wp2
  go_ret
  exact ⟨by simp, hB7, lv', _, by simp, HI7.out⟩
end Go.Proofs.Ytpkkjgcpmnoalaa
