import Derived.Test.YtpkkjgcpmnoalaaMadeH
import Derived.Test.YtpkkjgcpmnoalaaOne
namespace Go.Proofs.Ytpkkjgcpmnoalaa
open Go.RowKit
set_option linter.unusedVariables false
set_option linter.unusedSimpArgs false

theorem drawsR_eq (l : List Int) : drawsR l = drawsF l := rfl

theorem kindF_nil (ents : Int) : kindF ents [] = some (0, 0) := by
  unfold kindF
  rw [if_pos]
  simp [inB]

set_option maxRecDepth 100000 in
set_option maxHeartbeats 2000000 in
theorem made_new_nil {base : Nat} (wb : Nat) (lv : Value) (ps : List Pair) (a b c d ents : Int) (l : Value) (draws : List Int) (rv qv sv : Value) (w : World) (h : Inv base w wb lv ps) (hd : IntsX base w l draws) :
    Calls Try.prog 11 #[.pointer (some ⟨wb, 0, none⟩), .agg #[.int .i64 2, .int .i64 a, .int .i64 b, .int .i64 c, .int .i64 d, .int .i64 ents, .slice none 0 0, l, rv, qv, sv]] w
      fun e w' => e = .returned (.bool true) ∧ Below base w w' ∧ ∃ lv' ps', ps'.length ≤ ps.length + 1 ∧ Inv base w' wb lv' ps' := by
  have hbl : base ≤ w.heap.size := Nat.le_trans h.blo (Nat.le_of_lt h.wlt)
  obtain ⟨W, hW⟩ : ∃ W, W = w.alloc (.cells #[.int .i64 2, .int .i64 a, .int .i64 b, .int .i64 c, .int .i64 d, .int .i64 ents, .slice none 0 0, l, rv, qv, sv] 41) := ⟨_, rfl⟩
  have hb : Below w.heap.size w W := by rw [hW]; exact (Below.refl _ _).alloc (Nat.le_refl _) _
  have hWs : W.heap.size = w.heap.size + 1 := by rw [hW]; simp
  have c0 : W.cell? ⟨w.heap.size, 0, none⟩ = some (.int .i64 2) := by rw [hW]; simp [go_sem]
  have c5 : W.cell? ⟨w.heap.size, 5, none⟩ = some (.int .i64 ents) := by rw [hW]; simp [go_sem]
  have c6 : W.cell? ⟨w.heap.size, 6, none⟩ = some (.slice none 0 0) := by rw [hW]; simp [go_sem]
  have c7 : W.cell? ⟨w.heap.size, 7, none⟩ = some l := by rw [hW]; simp [go_sem]
  obtain ⟨la, lc, rfl⟩ := hd.form
  have HD : Hid (∀ W : World, Below w.heap.size w W → IntsX base W (.slice la draws.length lc) draws) := by
    intro W hW
    exact hd.below (hW.mono hbl)
  have hdl := hd.len
  clear hd
  have hkn : ∀ (W : World) (B : Nat), KindsV B W (.slice none 0 0) [] := fun W B => ⟨by simp, .inl ⟨rfl, rfl⟩⟩
  go_enter Try.func11, Try.ntmps11
  go_wp2_with fail
  rw [← hW]
  refine (lentModel_nil ents _).mono ?_
  rintro e w1 ⟨rfl, hb1⟩
  have hz1 := hb1.size
  have d0 := below_at hb1 c0 (by omega)
  have d5 := below_at hb1 c5 (by omega)
  have d6 := below_at hb1 c6 (by omega)
  have d7 := below_at hb1 c7 (by omega)
  have hB1 : Below w.heap.size w w1 := hb.trans (hb1.mono (by omega))
  have hlt1 : w.heap.size < w1.heap.size := by omega
  clear c0 c5 c6 c7 hW
  go_wp2_with fail
  have hm := (Below.refl w1.heap.size w1).alloc (Nat.le_refl _) (.cells #[.int .i64 ents, .slice none 0 0] 38)
  refine (lentInts_any _ draws _ (HD.out _ (hB1.trans (hm.mono (by omega))))).mono ?_
  rintro e w2 ⟨sa, sc, rfl, hb2, hLV⟩
  have hz2 := hb2.size
  rw [World.size_alloc] at hz2
  have e0 := below_at hb2 (below_at hm d0 (by omega)) (by simp; omega)
  have e5 := below_at hb2 (below_at hm d5 (by omega)) (by simp; omega)
  have e6 := below_at hb2 (below_at hm d6 (by omega)) (by simp; omega)
  have e7 := below_at hb2 (below_at hm d7 (by omega)) (by simp; omega)
  have m0 : w2.cell? ⟨w1.heap.size, 0, none⟩ = some (.int .i64 ents) := below_at hb2 (by simp [go_sem]) (by simp)
  have m1 : w2.cell? ⟨w1.heap.size, 1, none⟩ = some (.slice none 0 0) := below_at hb2 (by simp [go_sem]) (by simp)
  have hB2 : Below w.heap.size w w2 := hB1.trans ((hm.mono (by omega)).trans (hb2.mono (by simp; omega)))
  have HLV := hide hLV
  rw [World.size_alloc] at HLV
  clear d0 d5 d6 d7 hLV
  go_wp2_with fail
  refine (tNew_model (B := 0) ents _ _ [] _ (hkn _ _) (0, 0) (kindF_nil ents)).mono ?_
  rintro e w3 ⟨rfl, hb3⟩
  have hz3 := hb3.size
  have f5 := below_at hb3 e5 (by omega)
  have f6 := below_at hb3 e6 (by omega)
  have f7 := below_at hb3 e7 (by omega)
  have n0 := below_at hb3 m0 (by omega)
  have n1 := below_at hb3 m1 (by omega)
  have hB3 : Below w.heap.size w w3 := hB2.trans (hb3.mono (by omega))
  clear e0 e5 e6 e7 m0 m1
  go_wp2_with fail
  refine (rNew_model ents _ _ [] _ (hkn _ _) (0, 0) (kindF_nil ents)).mono ?_
  rintro e w4 ⟨rfl, hb4⟩
  have hz4 := hb4.size
  have g5 := below_at hb4 f5 (by omega)
  have g6 := below_at hb4 f6 (by omega)
  have g7 := below_at hb4 f7 (by omega)
  have p0 := below_at hb4 n0 (by omega)
  have p1 := below_at hb4 n1 (by omega)
  have hB4 : Below w.heap.size w w4 := hB3.trans (hb4.mono (by omega))
  clear f5 f6 f7 n0 n1
  go_wp2_with fail
  refine (wholeModel_nil ents _ _ _).mono ?_
  rintro e w5 ⟨rfl, hb5⟩
  have hz5 := hb5.size
  have q7 := below_at hb5 g7 (by omega)
  have hB5 : Below w.heap.size w w5 := hB4.trans (hb5.mono (by omega))
  clear g5 g6 g7 p0 p1
  go_wp2_with fail
  refine (wholeInts_any (w1.heap.size + 1) w5.heap.size _ draws sa sc _ ((HD.out _ hB5).mono (by omega)) (((HLV.out.below hb3).below hb4).below hb5) (by
    intro g hg
    rcases HLV.out with ⟨_, h0, _⟩ | ⟨g', h1, _, _, _, h5, _⟩
    · rw [h0] at hg; cases hg
    · rw [h1] at hg; simp at hg; omega)).mono ?_
  rintro e w6 ⟨rfl, ho6⟩
  have hB6 : Below w.heap.size w w6 := hB5.trans (ho6.below (by omega) (by intro k hk hs; omega))
  go_wp2_with fail
  refine (one_none wb _).mono ?_
  rintro e w7 ⟨rfl, rfl⟩
  go_wp2
  go_ret
  exact ⟨by simp, hB6.mono hbl, lv, ps, by omega, h.below hB6⟩
end Go.Proofs.Ytpkkjgcpmnoalaa
