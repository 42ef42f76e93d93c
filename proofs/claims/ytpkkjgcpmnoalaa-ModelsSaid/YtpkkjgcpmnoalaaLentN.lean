import Derived.Test.YtpkkjgcpmnoalaaLentM
namespace Go.Proofs.Ytpkkjgcpmnoalaa
open Go.RowKit
set_option linter.unusedVariables false
set_option linter.unusedSimpArgs false
attribute [local go_sem] eqlNilI eqlNilC eqlNilK

set_option maxHeartbeats 400000 in
theorem lentModel_nil (ents : Int) (w : World) : Calls Try.prog 17 #[.agg #[.int .i64 ents, .slice none 0 0]] w
    fun e w' => e = .returned (.tuple #[.agg #[.int .i64 ents, .slice none 0 0], .slice none 0 0]) ∧ Below w.heap.size w w' := by
  go_enter Try.func17, Try.ntmps17
  go_wp2
  refine bodyPost_ret (v := .tuple #[.agg #[.int .i64 ents, .slice none 0 0], .slice none 0 0]) (by simp [results, Try.results17, go_sem]) rfl ⟨rfl, ?_⟩
  exact (((Below.refl _ _).alloc (Nat.le_refl _) _).alloc (by simp) _).alloc (by simp; omega) _

theorem lentCode_any {B : Nat} (v : Value) (l : List Ins) (w : World) (hv : CodeV B w v l) :
    Calls Try.prog 51 #[v] w fun e w' => ∃ r sa sn sc, e = .returned (.slice sa sn sc) ∧ Hid (codeVal r l = .slice sa sn sc) ∧ Below w.heap.size w w' ∧
      ((r = none ∧ v = .slice none 0 0 ∧ l = []) ∨ ∃ c, r = some c ∧ v ≠ .slice none 0 0 ∧ w.heap.size ≤ c ∧ c < w'.heap.size ∧ CodeAt w' c 0 (lentL l) ∧ Room w' c ((l.length + 8) * 4)) := by
  obtain ⟨hl, ⟨rfl, rfl⟩ | ⟨b, off, cap, rfl, hb, hc⟩ | ⟨ea, ec, rfl, rfl⟩⟩ := hv
  · refine (lentCode_nil w).mono ?_
    rintro e w' ⟨rfl, rfl⟩
    exact ⟨none, none, 0, 0, rfl, rfl, Below.refl _ _, .inl ⟨rfl, rfl, rfl⟩⟩
  · refine (lentCode_some b off cap l w hl hc).mono ?_
    rintro e w' ⟨c, h1, h2, rfl, h3, h4, h5⟩
    exact ⟨some c, _, _, _, rfl, rfl, h3, .inr ⟨c, rfl, by simp, h1, h2, h4, h5⟩⟩
  · refine (lentCode_empty ea ec w).mono ?_
    rintro e w' ⟨c, h1, h2, rfl, h3, h4, h5⟩
    exact ⟨some c, _, _, _, rfl, rfl, h3, .inr ⟨c, rfl, by simp, h1, h2, h4, h5⟩⟩

theorem lentTo_start (W : World) (lo b off : Nat) (ks : List (List Ins)) (T : TypeId) (hlo : lo ≤ W.heap.size) (hb : b < lo) (hK : KindsAt lo W b off ks) :
    LentTo lo W.heap.size ((W.alloc (.cells (madeCells #[.slice none 0 0] (ks.length + 8)) T)).alloc (.cells (madeCells #[.slice none 0 0] ks.length) T)) W.heap.size (W.heap.size + 1) b off 0 [] ks := by
  have hb1 : Below W.heap.size W (W.alloc (.cells (madeCells #[.slice none 0 0] (ks.length + 8)) T)) := (Below.refl _ _).alloc (Nat.le_refl _) _
  have hb2 := (Below.refl (W.heap.size + 1) (W.alloc (.cells (madeCells #[.slice none 0 0] (ks.length + 8)) T))).alloc (by simp) (.cells (madeCells #[.slice none 0 0] ks.length) T)
  have hb3 := hb1.trans (hb2.mono (by omega))
  refine ⟨rfl, Nat.zero_le _, by simp, ?_, (room_made W _ _ T).below hb2 (by omega), ?_, by simp, by simp, by simp, ?_, hlo, Nat.le_refl _, by omega, by simp; omega, by simp, by omega, hb⟩
  · intro i _ hi
    have := row_made W (.slice none 0 0) (ks.length + 8) T i (.slice none 0 0) (by rw [List.getElem?_replicate, if_pos hi])
    rw [Nat.zero_add] at this
    exact below_at hb2 this (by omega)
  · have := room_made (W.alloc (.cells (madeCells #[.slice none 0 0] (ks.length + 8)) T)) #[.slice none 0 0] ks.length T
    simpa using this
  · intro i l hl
    obtain ⟨v, h1, h2⟩ := hK i l hl
    exact ⟨v, below_at hb3 h1 (by omega), h2.below (hb3.mono hlo), by simp⟩

set_option maxRecDepth 100000 in
set_option maxHeartbeats 400000 in
theorem lentModel_gen (ents : Int) (ka : Addr) (b off cap : Nat) (ks : List (List Ins)) (w : World) (hka : 0 < ks.length → ka = ⟨b, off, none⟩) (hl : ks.length ≤ 5864062014805) (hbw : b < w.heap.size) (hK : KindsAt w.heap.size w b off ks) :
    Calls Try.prog 17 #[.agg #[.int .i64 ents, .slice (some ka) ks.length cap]] w
      fun e w' => ∃ g h rs, e = .returned (.tuple #[.agg #[.int .i64 ents, .slice (some ⟨g, 0, none⟩) ks.length (ks.length + 8)], .slice (some ⟨h, 0, none⟩) ks.length ks.length]) ∧
        Below w.heap.size w w' ∧ LentTo w.heap.size (w.heap.size + 1 + 1 + 1) w' g h b off ks.length rs ks := by
  go_enter Try.func17, Try.ntmps17
  go_wp2_with (first
    | (at_make; refine wpList_make_alloc _ rfl (.tmp 21) (.tmp 21) 36 rfl 60 (.slice none 0 0) 1 24 Try.underlying36 Try.info60 _ _ _ _ (ks.length + 8) rfl rfl (by simp) (by simp) (by omega) (by omega) ?_)
    | (at_make; refine wpList_make_alloc _ rfl (.tmp 23) (.tmp 23) 36 rfl 60 (.slice none 0 0) 1 24 Try.underlying36 Try.info60 _ _ _ _ ks.length rfl rfl (by simp) (by simp) (by omega) (by omega) ?_))
  go_loopw [8, 9] (fun i _ wr => ∃ (k : Nat) (rs : List (Option Nat)), i = .int .i64 k ∧ Below w.heap.size w wr ∧ LentTo w.heap.size (w.heap.size + 1 + 1 + 1) wr (w.heap.size + 1 + 1 + 1) (w.heap.size + 1 + 1 + 1 + 1) b off k rs ks ∧
      wr.cell? ⟨w.heap.size, 1, none⟩ = some (.slice (some ka) ks.length cap) ∧ wr.cell? ⟨w.heap.size + 1 + 1, 0, none⟩ = some (.int .i64 ents) ∧ Room wr (w.heap.size + 1) 2 ∧ Room wr (w.heap.size + 1 + 1) 2) (fun i _ _ => ks.length - (intOf i).toNat)
  case atStart =>
    obtain ⟨W, hW⟩ : ∃ W, W = ((w.alloc (Obj.cells #[Value.int IntKind.i64 ents, Value.slice (some ka) ks.length cap] 38)).alloc (Obj.cells #[Value.int IntKind.i64 0, Value.slice none 0 0] 38)).alloc (Obj.cells #[Value.int IntKind.i64 ents, Value.slice none 0 0] 38) := ⟨_, rfl⟩
    have hWs : W.heap.size = w.heap.size + 1 + 1 + 1 := by rw [hW]; simp
    have hWb : Below w.heap.size w W := by rw [hW]; exact (((Below.refl _ _).alloc (Nat.le_refl _) _).alloc (by simp) _).alloc (by simp; omega) _
    have hW1 : W.cell? ⟨w.heap.size, 1, none⟩ = some (.slice (some ka) ks.length cap) := by rw [hW]; simp [go_sem]
    have hW2 : W.cell? ⟨w.heap.size + 1 + 1, 0, none⟩ = some (.int .i64 ents) := by rw [hW]; simp [go_sem]
    have hW3 : Room W (w.heap.size + 1) 2 := by
      rw [hW]; intro j hj; have : j = 0 ∨ j = 1 := by omega
      rcases this with rfl | rfl <;> simp [go_sem]
    have hW4 : Room W (w.heap.size + 1 + 1) 2 := by
      rw [hW]; intro j hj; have : j = 0 ∨ j = 1 := by omega
      rcases this with rfl | rfl <;> simp [go_sem]
    have hS := lentTo_start W w.heap.size b off ks 60 (by omega) hbw (hK.below hWb hbw (Nat.le_refl _))
    have hB := ((Below.refl W.heap.size W).alloc (Nat.le_refl _) (.cells (madeCells #[.slice none 0 0] (ks.length + 8)) 60)).alloc (by simp) (.cells (madeCells #[.slice none 0 0] ks.length) 60)
    rw [hWs] at hS hB
    rw [← hW]
    exact ⟨0, [], rfl, hWb.trans (hB.mono (by omega)), hS, below_at hB hW1 (by omega), below_at hB hW2 (by omega), hW3.below hB (by omega), hW4.below hB (by omega)⟩
  case round =>
    obtain ⟨k, rs, rfl, hbel, hL, hm1, ho0, hR1, hR2⟩ := hrel
    have hz := hL.hhi
    by_cases hlt : k < ks.length
    · obtain rfl := hka (by omega)
      obtain ⟨v, hv0, hv, _⟩ := hL.orig k ks[k] (by simp [hlt])
      go_wp2_with fail
      refine (lentCode_any v _ _ hv).mono ?_
      rintro e w1 ⟨r, sa, sn, sc, rfl, hcv, hb1, hr⟩
      have hL1 := hL.below hb1
      obtain ⟨gs0, gf0⟩ := hL1.room k (by omega)
      obtain ⟨gs1, gf1⟩ := hL1.roomh k (by omega)
      obtain ⟨u0, hu0⟩ := Option.isSome_iff_exists.1 gs0
      obtain ⟨u1, hu1⟩ := Option.isSome_iff_exists.1 gs1
      clear gs0 gs1
      go_wp2
      go_roundw
      case rel =>
        have hst := hL1.step hlt r (by
          rcases hr with ⟨rfl, rfl, h0⟩ | ⟨c, rfl, hne, h1, h2, h3, h4⟩
          · exact .inl ⟨rfl, h0, below_at hb1 hv0 (by omega)⟩
          · refine .inr ⟨c, rfl, h3, h4, by omega, h2, by omega, by omega, ?_, ?_⟩
            · intro i hi
              have hik : i < ks.length := by have := (List.getElem?_eq_some_iff.1 hi).1; rw [hL.len] at this; omega
              have := (hL.code i c ks[i] hi (by simp [hik])).2.2.2.1
              omega
            · rw [below_at hb1 hv0 (by omega)]; intro e; exact hne (Option.some.inj e))
        rw [hcv.out] at hst
        have hbz := hb1.size
        refine ⟨k + 1, rs ++ [r], by go_num, ((hbel.trans (hb1.mono (by omega))).setCell (by simp; omega) _).setCell (by simp; omega) _, hst, ?_, ?_, ?_, ?_⟩
        · rw [World.cell?_setCell_other _ _ _ _ (by simp; try omega), World.cell?_setCell_other _ _ _ _ (by simp; try omega)]; exact below_at hb1 hm1 (by omega)
        · rw [World.cell?_setCell_other _ _ _ _ (by simp; try omega), World.cell?_setCell_other _ _ _ _ (by simp; try omega)]; exact below_at hb1 ho0 (by omega)
        · exact ((hR1.below hb1 (by omega)).setCell _ _).setCell _ _
        · exact ((hR2.below hb1 (by omega)).setCell _ _).setCell _ _
      case measure => simp [intOf]; omega
    · have hk : k = ks.length := by have := hL.le; omega
      subst hk
      obtain ⟨s0, f0⟩ := hR2 1 (by omega)
      obtain ⟨s1, f1⟩ := hR1 0 (by omega)
      obtain ⟨s2, f2⟩ := hR1 1 (by omega)
      obtain ⟨u0, hu0⟩ := Option.isSome_iff_exists.1 s0
      obtain ⟨u1, hu1⟩ := Option.isSome_iff_exists.1 s1
      obtain ⟨u2, hu2⟩ := Option.isSome_iff_exists.1 s2
      clear s0 s1 s2
      go_wp2
      refine bodyPost_ret (v := .tuple #[.agg #[.int .i64 ents, .slice (some ⟨w.heap.size + 1 + 1 + 1, 0, none⟩) ks.length (ks.length + 8)], .slice (some ⟨w.heap.size + 1 + 1 + 1 + 1, 0, none⟩) ks.length ks.length]) (by simp [results, Try.results17, go_sem, hu1, hu2]) rfl ⟨_, _, rs, rfl, ?_, ?_⟩
      · exact ((hbel.setCell (by simp; omega) _).setCell (by simp) _).setCell (by simp) _
      · refine hL.only (S := fun k => k = w.heap.size + 1 ∨ k = w.heap.size + 1 + 1) ?_ (by intro k hk; omega)
        exact (((Only.refl _ _).setCell (.inr rfl) _).setCell (.inl rfl) _).setCell (.inl rfl) _
end Go.Proofs.Ytpkkjgcpmnoalaa
