import Derived.Test.YtpkkjgcpmnoalaaMadeH
import Derived.Test.YtpkkjgcpmnoalaaOne
import Derived.Test.YtpkkjgcpmnoalaaChkQ
import Derived.Test.YtpkkjgcpmnoalaaChkR
namespace Go.Proofs.Ytpkkjgcpmnoalaa
open Go.RowKit
set_option linter.unusedVariables false
set_option linter.unusedSimpArgs false

set_option maxRecDepth 100000 in
set_option maxHeartbeats 2000000 in
theorem made_check_nil {base : Nat} (wb : Nat) (lv : Value) (ps : List Pair) (a b c d ents : Int) (l rv qv sv : Value) (w : World) (h : Inv base w wb lv ps) :
    Calls Try.prog 11 #[.pointer (some ⟨wb, 0, none⟩), .agg #[.int .i64 1, .int .i64 a, .int .i64 b, .int .i64 c, .int .i64 d, .int .i64 ents, .slice none 0 0, l, rv, qv, sv]] w
      fun e w' => e = .returned (.bool true) ∧ Below base w w' ∧ ∃ lv' ps', ps'.length ≤ ps.length + 1 ∧ Inv base w' wb lv' ps' := by
  have hbl : base ≤ w.heap.size := Nat.le_trans h.blo (Nat.le_of_lt h.wlt)
  obtain ⟨W, hW⟩ : ∃ W, W = w.alloc (.cells #[.int .i64 1, .int .i64 a, .int .i64 b, .int .i64 c, .int .i64 d, .int .i64 ents, .slice none 0 0, l, rv, qv, sv] 41) := ⟨_, rfl⟩
  have hb : Below w.heap.size w W := by rw [hW]; exact (Below.refl _ _).alloc (Nat.le_refl _) _
  have hWs : W.heap.size = w.heap.size + 1 := by rw [hW]; simp
  have c0 : W.cell? ⟨w.heap.size, 0, none⟩ = some (.int .i64 1) := by rw [hW]; simp [go_sem]
  have c5 : W.cell? ⟨w.heap.size, 5, none⟩ = some (.int .i64 ents) := by rw [hW]; simp [go_sem]
  have c6 : W.cell? ⟨w.heap.size, 6, none⟩ = some (.slice none 0 0) := by rw [hW]; simp [go_sem]
  go_enter Try.func11, Try.ntmps11
  go_wp2_with fail
  rw [← hW]
  refine (lentModel_nil ents _).mono ?_
  rintro e w1 ⟨rfl, hb1⟩
  have hz1 := hb1.size
  have d0 := below_at hb1 c0 (by omega)
  have d5 := below_at hb1 c5 (by omega)
  have d6 := below_at hb1 c6 (by omega)
  have hB1 : Below w.heap.size w w1 := hb.trans (hb1.mono (by omega))
  have hlt1 : w.heap.size < w1.heap.size := by omega
  clear c0 c5 c6
  go_wp2_with fail
  have hm := (Below.refl w1.heap.size w1).alloc (Nat.le_refl _) (.cells #[.int .i64 ents, .slice none 0 0] 38)
  have hkn : ∀ (W : World) (B : Nat), KindsV B W (.slice none 0 0) [] := fun W B => ⟨by simp, .inl ⟨rfl, rfl⟩⟩
  refine (tCheck_any ents _ [] _ (hkn _ _)).mono ?_
  rintro e w2 ⟨rfl, hb2⟩
  rw [checkV_eq]
  have hz2 := hb2.size
  rw [World.size_alloc] at hz2
  have e5 := below_at hb2 (below_at hm d5 (by omega)) (by simp; omega)
  have e6 := below_at hb2 (below_at hm d6 (by omega)) (by simp; omega)
  have m0 : w2.cell? ⟨w1.heap.size, 0, none⟩ = some (.int .i64 ents) := below_at hb2 (by simp [go_sem]) (by simp)
  have m1 : w2.cell? ⟨w1.heap.size, 1, none⟩ = some (.slice none 0 0) := below_at hb2 (by simp [go_sem]) (by simp)
  have hB2 : Below w.heap.size w w2 := hB1.trans ((hm.mono (by omega)).trans (hb2.mono (by simp; omega)))
  clear d0 d5 d6
  go_wp2_with fail
  refine (rCheck_any ents _ [] _ (hkn _ _)).mono ?_
  rintro e w3 ⟨rfl, hb3⟩
  rw [checkV_eq]
  have hz3 := hb3.size
  have f5 := below_at hb3 e5 (by omega)
  have f6 := below_at hb3 e6 (by omega)
  have n0 := below_at hb3 m0 (by omega)
  have n1 := below_at hb3 m1 (by omega)
  have hB3 : Below w.heap.size w w3 := hB2.trans (hb3.mono (by omega))
  clear e5 e6 m0 m1
  generalize checkE ents [] = vE
  generalize checkK ents [] = vK
  generalize checkP ents [] = vP
  go_wp2_with fail
  refine (wholeModel_nil ents _ _ _).mono ?_
  rintro e w4 ⟨rfl, hb4⟩
  have hB4 : Below w.heap.size w w4 := hB3.trans (hb4.mono (by omega))
  go_wp2
  go_ret
  exact ⟨by simp, hB4.mono hbl, lv, ps, by omega, h.below hB4⟩

set_option maxRecDepth 100000 in
set_option maxHeartbeats 2000000 in
theorem made_check_some {base : Nat} (wb : Nat) (lv : Value) (ps : List Pair) (a b c d ents : Int) (ka : Addr) (kb koff kcap : Nat) (ks : List (List Ins)) (l rv qv sv : Value) (w : World) (h : Inv base w wb lv ps) (hka : 0 < ks.length → ka = ⟨kb, koff, none⟩) (hkl : ks.length ≤ 5864062014805) (hkb : kb < base) (hK : KindsAt base w kb koff ks) :
    Calls Try.prog 11 #[.pointer (some ⟨wb, 0, none⟩), .agg #[.int .i64 1, .int .i64 a, .int .i64 b, .int .i64 c, .int .i64 d, .int .i64 ents, .slice (some ka) ks.length kcap, l, rv, qv, sv]] w
      fun e w' => e = .returned (.bool true) ∧ Below base w w' ∧ ∃ lv' ps', ps'.length ≤ ps.length + 1 ∧ Inv base w' wb lv' ps' := by
  have hbl : base ≤ w.heap.size := Nat.le_trans h.blo (Nat.le_of_lt h.wlt)
  obtain ⟨W, hW⟩ : ∃ W, W = w.alloc (.cells #[.int .i64 1, .int .i64 a, .int .i64 b, .int .i64 c, .int .i64 d, .int .i64 ents, .slice (some ka) ks.length kcap, l, rv, qv, sv] 41) := ⟨_, rfl⟩
  have hb : Below w.heap.size w W := by rw [hW]; exact (Below.refl _ _).alloc (Nat.le_refl _) _
  have hWs : W.heap.size = w.heap.size + 1 := by rw [hW]; simp
  have c0 : W.cell? ⟨w.heap.size, 0, none⟩ = some (.int .i64 1) := by rw [hW]; simp [go_sem]
  have c5 : W.cell? ⟨w.heap.size, 5, none⟩ = some (.int .i64 ents) := by rw [hW]; simp [go_sem]
  have c6 : W.cell? ⟨w.heap.size, 6, none⟩ = some (.slice (some ka) ks.length kcap) := by rw [hW]; simp [go_sem]
  have HK : Hid (∀ W : World, Below w.heap.size w W → KindsAt W.heap.size W kb koff ks) := by
    intro W hW
    have := hW.size
    exact (hK.below (hW.mono hbl) hkb (Nat.le_refl _)).mono (by omega)
  clear hK
  go_enter Try.func11, Try.ntmps11
  go_wp2_with fail
  rw [← hW]
  refine (lentModel_gen ents ka kb koff kcap ks _ hka hkl (by omega) (HK.out W hb)).mono ?_
  rintro e w1 ⟨g, hh, rs, rfl, hb1, hL1⟩
  have hz1 := hb1.size
  have d0 := below_at hb1 c0 (by omega)
  have d5 := below_at hb1 c5 (by omega)
  have d6 := below_at hb1 c6 (by omega)
  have hB1 : Below w.heap.size w w1 := hb.trans (hb1.mono (by omega))
  have hlt1 : w.heap.size < w1.heap.size := by omega
  have HL1 := hide hL1
  clear c0 c5 c6 hL1
  go_wp2_with fail
  have hm := (Below.refl w1.heap.size w1).alloc (Nat.le_refl _) (.cells #[.int .i64 ents, .slice (some ⟨g, 0, none⟩) ks.length (ks.length + 8)] 38)
  have HLm := hide (HL1.out.below hm)
  refine (tCheck_any ents _ ks _ ⟨hkl, .inr (.inl ⟨g, 0, _, rfl, HLm.out.ghi, HLm.out.kinds⟩)⟩).mono ?_
  rintro e w2 ⟨rfl, hb2⟩
  rw [checkV_eq]
  have hz2 := hb2.size
  rw [World.size_alloc] at hz2
  have e5 := below_at hb2 (below_at hm d5 (by omega)) (by simp; omega)
  have e6 := below_at hb2 (below_at hm d6 (by omega)) (by simp; omega)
  have m0 : w2.cell? ⟨w1.heap.size, 0, none⟩ = some (.int .i64 ents) := below_at hb2 (by simp [go_sem]) (by simp)
  have m1 : w2.cell? ⟨w1.heap.size, 1, none⟩ = some (.slice (some ⟨g, 0, none⟩) ks.length (ks.length + 8)) := below_at hb2 (by simp [go_sem]) (by simp)
  have hB2 : Below w.heap.size w w2 := hB1.trans ((hm.mono (by omega)).trans (hb2.mono (by simp; omega)))
  have HL2 := hide (HLm.out.below hb2)
  clear d0 d5 d6
  go_wp2_with fail
  refine (rCheck_any ents _ ks _ (kindsV_gen hka hkl (by omega) (HK.out _ hB2))).mono ?_
  rintro e w3 ⟨rfl, hb3⟩
  rw [checkV_eq]
  have hz3 := hb3.size
  have f5 := below_at hb3 e5 (by omega)
  have f6 := below_at hb3 e6 (by omega)
  have n0 := below_at hb3 m0 (by omega)
  have n1 := below_at hb3 m1 (by omega)
  have hB3 : Below w.heap.size w w3 := hB2.trans (hb3.mono (by omega))
  have HL3 := hide (HL2.out.below hb3)
  clear e5 e6 m0 m1
  generalize checkE ents ks = vE
  generalize checkK ents ks = vK
  generalize checkP ents ks = vP
  go_wp2_with fail
  refine (wholeModel_gen ents ka _ _ g hh kb koff kcap rs ks _ hka hkl HL3.out).mono ?_
  rintro e w4 ⟨rfl, ho4⟩
  have hB4 : Below w.heap.size w w4 := hB3.trans (ho4.below (by omega) (by
    rintro k hk (rfl | ⟨i, hi⟩)
    · have := HL3.out.glo; omega
    · have hilt : i < ks.length := by have := (List.getElem?_eq_some_iff.1 hi).1; rw [HL3.out.len] at this; exact this
      have := (HL3.out.code i k ks[i] hi (by simp [hilt])).2.2.1; omega))
  go_wp2
  go_ret
  exact ⟨by simp, hB4.mono hbl, lv, ps, by omega, h.below hB4⟩
end Go.Proofs.Ytpkkjgcpmnoalaa
