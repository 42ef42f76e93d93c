import Derived.Test.YtpkkjgcpmnoalaaNewR
import Derived.Test.YtpkkjgcpmnoalaaMadeH
namespace Go.Proofs.Ytpkkjgcpmnoalaa
open Go.RowKit
set_option linter.unusedVariables false
set_option linter.unusedSimpArgs false

set_option maxRecDepth 100000 in
set_option maxHeartbeats 1000000 in
theorem rNew_emptyD (ents : Int) (b off cap : Nat) (da : Addr) (dc : Nat) (ks : List (List Ins)) (w : World) (hl : ks.length ≤ 5864062014805) (hbw : b < w.heap.size) (hK : KindsAt w.heap.size w b off ks) (hk : kindF ents ks = none) :
    Calls Try.prog 23 #[.agg #[.int .i64 ents, .slice (some ⟨b, off, none⟩) ks.length cap], .slice (some da) 0 dc] w
      fun e w' => ∃ rb, e = .returned (.tuple #[.pointer (some ⟨rb, 0, none⟩), .int .i64 0]) ∧ Below w.heap.size w w' ∧ w.heap.size ≤ rb ∧ rb < w'.heap.size ∧
        RefK (fun b => w.heap.size ≤ b ∧ b < w'.heap.size ∧ b ≠ rb) w' rb ents ks [] 0 0 1 (List.replicate (ents * 4).toNat 0) [] := by
  have hents : 1 ≤ ents ∧ ents ≤ 8 := by
    unfold kindF at hk
    split at hk
    · simp at hk
    · rename_i h; simp [inB] at h; omega
  obtain ⟨he1, he2⟩ := hents
  have HV : Hid (checkV ents ks = .tuple #[.int .i64 0, .int .i64 0, .int .i64 0]) := by show _ = _; simp [checkV, hk]
  clear hk
  have hmk : ∀ W : World, (Instr.makeSlice 24 (.int .i64 (ents * 4)) (.int .i64 (ents * 4))).run Try.prog W = .ok (.slice (some ⟨W.heap.size, 0, none⟩) (ents * 4).toNat (ents * 4).toNat) (W.alloc (.cells (madeCells #[.int .i64 0] (ents * 4).toNat) 3)) := by
    intro W
    obtain ⟨i, hi, hz, hsz, hby⟩ := info_parts Try.info3
    have := run_make (P := Try.prog) W 24 3 i (.int .i64 0) Try.underlying24 hi hz .i64 .i64 (ents * 4) (ents * 4) (by omega) (Int.le_refl _) (by rw [hby]; omega) (by omega)
    rw [hsz] at this
    simp only [Nat.mul_one] at this
    exact this
  have hwrap : IntKind.i64.wrap (ents * 4) = ents * 4 := by rw [IntKind.wrap_i64]; omega
  go_enter Try.func23, Try.ntmps23
  go_wp2_with fail
  have hv : KindsV w.heap.size w (.slice (some ⟨b, off, none⟩) ks.length cap) ks := ⟨hl, .inr (.inl ⟨b, off, cap, rfl, hbw, hK⟩)⟩
  refine (rCheck_any ents _ ks _ ((hv.below ((Below.refl _ _).alloc (Nat.le_refl _) _)).mono (by simp))).mono ?_
  rintro e w1 ⟨rfl, hb1⟩
  rw [HV.out]
  have hb2 : Below w.heap.size w w1 := ((Below.refl _ _).alloc (Nat.le_refl _) _).trans (hb1.mono (by simp))
  have hm0 : w1.cell? ⟨w.heap.size, 0, none⟩ = some (.int .i64 ents) := below_at hb1 (by simp [go_sem]) (by simp)
  have hm1 : w1.cell? ⟨w.heap.size, 1, none⟩ = some (.slice (some ⟨b, off, none⟩) ks.length cap) := below_at hb1 (by simp [go_sem]) (by simp)
  have hz1 : w.heap.size < w1.heap.size := by have := hb1.size; simp at this; omega
  clear hb1
  go_wp2
  go_loopw [9, 10, 11] (fun lv i _ wr => i = .int .i64 0 ∧ lv = .slice none 0 0 ∧ Below w1.heap.size w1 wr) (fun _ _ _ _ => 0)
  case atStart => exact ⟨rfl, rfl, Below.refl _ _⟩
  case round =>
    obtain ⟨rfl, rfl, hbel⟩ := hrel
    have Hdr : Hid (IntsIn (fun b => w.heap.size ≤ b ∧ b < wr.heap.size) wr (.slice none 0 0) []) := ⟨by simp, .inl ⟨rfl, rfl⟩⟩
    have gm0 := below_at hbel hm0 hz1
    have gm1 := below_at hbel hm1 hz1
    have hbb := hb2.trans (hbel.mono (by omega))
    have hzr : w.heap.size < wr.heap.size := by have := hbel.size; omega
    have HK : Hid (∀ W, Below wr.heap.size wr W → KindsAt W.heap.size W b off ks) := by
      intro W hW
      have := hW.size
      exact (hK.below (hbb.trans (hW.mono (by omega))) hbw (Nat.le_refl _)).mono (by omega)
    clear hm0 hm1
    go_wp2
    go_region_with (go_at_call 59; refine (rModel_any ents b off cap ks _ hl (by simp; omega) (HK.out _ (by first | exact (Below.refl _ _).drew | exact ((Below.refl _ _).alloc (Nat.le_refl _) _).drew | exact ((Below.refl _ _).drew).alloc (Nat.le_refl _) _))).mono ?_; rintro e w3 ⟨sa, sc, rfl, hb3, hK3⟩; have q0 : w3.cell? ⟨w.heap.size, 0, none⟩ = some (.int .i64 ents) := below_at hb3 (by first | exact gm0 | exact below_at ((Below.refl _ _).alloc (Nat.le_refl _) _) gm0 hzr) (by simp; omega); have q1 : w3.cell? ⟨w.heap.size, 1, none⟩ = some (.slice (some ⟨b, off, none⟩) ks.length cap) := below_at hb3 (by first | exact gm1 | exact below_at ((Below.refl _ _).alloc (Nat.le_refl _) _) gm1 hzr) (by simp; omega))
    all_goals
      go_wp2
      go_ret2
      first
        | (have hb3' : Below wr.heap.size wr w3 := (Below.refl _ _).drew.trans hb3
           exact ⟨w3.heap.size + 1, by simp [Act.put], refK_endA hbb hb3' hK3 Hdr.out _ _ (by omega)⟩)
        | (have hb3' : Below (wr.heap.size + 1) (wr.alloc (.cells (madeCells #[.int .i64 0] (ents * 4).toNat) 3)) w3 := (Below.refl _ _).drew.trans (by simpa using hb3)
           exact ⟨w3.heap.size, by simp [Act.put], refK_endB hbb hb3' (by simpa using hK3) Hdr.out _ (by omega)⟩)

theorem rNew_restX (ents : Int) (b off cap : Nat) (dv : Value) (ks : List (List Ins)) (draws : List Int) (w : World) (hl : ks.length ≤ 5864062014805) (hbw : b < w.heap.size) (hK : KindsAt w.heap.size w b off ks) (hd : IntsX w.heap.size w dv draws) (hk : kindF ents ks = none) :
    Calls Try.prog 23 #[.agg #[.int .i64 ents, .slice (some ⟨b, off, none⟩) ks.length cap], dv] w
      fun e w' => (drawsR draws = false ∧ e = .returned (.tuple #[.pointer none, .int .i64 1]) ∧ Below w.heap.size w w') ∨ (drawsR draws = true ∧ ∃ rb, e = .returned (.tuple #[.pointer (some ⟨rb, 0, none⟩), .int .i64 0]) ∧ Below w.heap.size w w' ∧ w.heap.size ≤ rb ∧ rb < w'.heap.size ∧
        RefK (fun b => w.heap.size ≤ b ∧ b < w'.heap.size ∧ b ≠ rb) w' rb ents ks draws 0 0 1 (List.replicate (ents * 4).toNat 0) []) := by
  rcases hd with hd | ⟨da, dc, rfl, rfl⟩
  · exact rNew_rest ents b off cap dv ks draws w hl hbw hK hd hk
  · refine (rNew_emptyD ents b off cap da dc ks w hl hbw hK hk).mono ?_
    rintro e w' h
    exact .inr ⟨rfl, h⟩
end Go.Proofs.Ytpkkjgcpmnoalaa
