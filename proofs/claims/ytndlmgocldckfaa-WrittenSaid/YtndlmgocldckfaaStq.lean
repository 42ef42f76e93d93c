import Derived.Test.YtndlmgocldckfaaStp
namespace Go.Proofs.Ytndlmgocldckfaa
open Go.RowKit
set_option linter.unusedVariables false
set_option linter.unusedSimpArgs false

set_option maxHeartbeats 2000000 in
set_option maxRecDepth 1000000 in
theorem step_empty {R : Nat → Prop} {base : Nat} (kb qb mb sqb : Nat) (ov : Value) (ents : Int) (ks : List (List Ins)) (draws : List Int) (s : KS) (horizon : Int) (w : World) (h : KerP R base w kb qb mb ov ents ks draws s) (hq : s.q = []) :
    Calls Try.prog 49 #[.pointer (some ⟨kb, 0, none⟩), .int .i64 horizon, .pointer (some ⟨sqb, 0, none⟩)] w fun e' w' => e' = .returned (.tuple #[rec0, .int .i64 1]) ∧ Below w.heap.size w w' := by
  have h3 := h.c3
  have hkl := h.klt
  have HQ : Hid (QueP base w qb mb ov []) := by rw [← hq]; exact h.que
  clear h hq
  go_enter Try.func49, Try.ntmps49
  go_wp2_with (go_at_call 67; refine (qFirst_none qb mb ov _ (HQ.out.below ((Below.refl _ _).alloc (Nat.le_refl _) _))).mono ?_; rintro e' w1 ⟨rfl, hb1⟩; (have z : ∀ (j : Nat) (v : Value), #[Value.int .i64 0, .int .i64 0, .int .i64 0, .int .i64 0, .slice none 0 0][j]? = some v → w1.cell? ⟨w.heap.size, j, none⟩ = some v ∧ w1.frozen? ⟨w.heap.size, j, none⟩ = false := (by intro j v hv; have hb : w1.heap[w.heap.size]? = some (.cells #[.int .i64 0, .int .i64 0, .int .i64 0, .int .i64 0, .slice none 0 0] 36 (0, 0)) := (hb1.block w.heap.size (by simp)).trans (heap_new _ _); simp only [World.cell?, World.frozen?, hb]; exact ⟨hv, rfl⟩)); obtain ⟨z0, y0⟩ := z 0 _ rfl; obtain ⟨z1, y1⟩ := z 1 _ rfl; obtain ⟨z2, y2⟩ := z 2 _ rfl; obtain ⟨z3, y3⟩ := z 3 _ rfl; obtain ⟨z4, y4⟩ := z 4 _ rfl; clear z; (have hz1 : w.heap.size < w1.heap.size := by (have := hb1.size; simp at this; omega)))
  have hroom : Room w1 w.heap.size 5 := by
    intro j hj
    have : j = 0 ∨ j = 1 ∨ j = 2 ∨ j = 3 ∨ j = 4 := by omega
    rcases this with rfl | rfl | rfl | rfl | rfl
    · exact ⟨by rw [z0]; rfl, y0⟩
    · exact ⟨by rw [z1]; rfl, y1⟩
    · exact ⟨by rw [z2]; rfl, y2⟩
    · exact ⟨by rw [z3]; rfl, y3⟩
    · exact ⟨by rw [z4]; rfl, y4⟩
  obtain ⟨t0, t1, t2, t3, t4⟩ := set5_at hroom (.int .i64 0) (.int .i64 0) (.int .i64 0) (.int .i64 0) (.slice none 0 0)
  have hoZ := only_set5 w1 w.heap.size (.int .i64 0) (.int .i64 0) (.int .i64 0) (.int .i64 0) (.slice none 0 0)
  obtain ⟨WZ, hWZ⟩ : ∃ WZ, WZ = set5 w1 w.heap.size (.int .i64 0) (.int .i64 0) (.int .i64 0) (.int .i64 0) (.slice none 0 0) := ⟨_, rfl⟩
  have hWZ' := hWZ
  unfold set5 at hWZ'
  rw [← hWZ] at t0 t1 t2 t3 t4 hoZ
  rw [← hWZ']
  clear hWZ hWZ' z0 z1 z2 z3 z4 y0 y1 y2 y3 y4
  have hzZ := hoZ.size
  have hbw : Below w.heap.size w w1 := ((Below.refl _ _).alloc (Nat.le_refl _) _).trans (hb1.mono (by simp))
  have hbZ : Below w.heap.size w WZ := hbw.trans (hoZ.below (by omega) (fun k hk hc => by omega))
  refine bodyPost_ret (v := .tuple #[.agg #[.int .i64 0, .int .i64 0, .int .i64 0, .int .i64 0, .slice none 0 0], .int .i64 1]) ?_ rfl ?_
  · rw [results_cell_tmp rfl]; simp [go_sem, t0, t1, t2, t3, t4, show w.heap.size < WZ.heap.size by omega]
  exact ⟨rfl, hbZ.alloc (by omega) _⟩

set_option maxHeartbeats 2000000 in
set_option maxRecDepth 1000000 in
theorem step_late {R : Nat → Prop} {base : Nat} (kb qb mb sqb : Nat) (ov : Value) (ents : Int) (ks : List (List Ins)) (draws : List Int) (s : KS) (horizon : Int) (e : Ev) (l : List Ev) (w : World) (h : KerP R base w kb qb mb ov ents ks draws s) (hq : s.q = e :: l) (hz : horizon < e.time) :
    Calls Try.prog 49 #[.pointer (some ⟨kb, 0, none⟩), .int .i64 horizon, .pointer (some ⟨sqb, 0, none⟩)] w fun e' w' => e' = .returned (.tuple #[rec0, .int .i64 2]) ∧ Below w.heap.size w w' := by
  have h3 := h.c3
  have hkl := h.klt
  have HQ : Hid (QueP base w qb mb ov (e :: l)) := by rw [← hq]; exact h.que
  have hz' : decide (horizon < e.time) = true := by simpa using hz
  clear h hq
  go_enter Try.func49, Try.ntmps49
  go_wp2_with (go_at_call 67; refine (qFirst_some qb mb ov e l _ (HQ.out.below ((Below.refl _ _).alloc (Nat.le_refl _) _))).mono ?_; rintro e' w1 ⟨rfl, hb1⟩; simp only [evVal]; (have z : ∀ (j : Nat) (v : Value), #[Value.int .i64 0, .int .i64 0, .int .i64 0, .int .i64 0, .slice none 0 0][j]? = some v → w1.cell? ⟨w.heap.size, j, none⟩ = some v ∧ w1.frozen? ⟨w.heap.size, j, none⟩ = false := (by intro j v hv; have hb : w1.heap[w.heap.size]? = some (.cells #[.int .i64 0, .int .i64 0, .int .i64 0, .int .i64 0, .slice none 0 0] 36 (0, 0)) := (hb1.block w.heap.size (by simp)).trans (heap_new _ _); simp only [World.cell?, World.frozen?, hb]; exact ⟨hv, rfl⟩)); obtain ⟨z0, y0⟩ := z 0 _ rfl; obtain ⟨z1, y1⟩ := z 1 _ rfl; obtain ⟨z2, y2⟩ := z 2 _ rfl; obtain ⟨z3, y3⟩ := z 3 _ rfl; obtain ⟨z4, y4⟩ := z 4 _ rfl; clear z; (have hz1 : w.heap.size < w1.heap.size := by (have := hb1.size; simp at this; omega)))
  have hroom : Room w1 w.heap.size 5 := by
    intro j hj
    have : j = 0 ∨ j = 1 ∨ j = 2 ∨ j = 3 ∨ j = 4 := by omega
    rcases this with rfl | rfl | rfl | rfl | rfl
    · exact ⟨by rw [z0]; rfl, y0⟩
    · exact ⟨by rw [z1]; rfl, y1⟩
    · exact ⟨by rw [z2]; rfl, y2⟩
    · exact ⟨by rw [z3]; rfl, y3⟩
    · exact ⟨by rw [z4]; rfl, y4⟩
  obtain ⟨t0, t1, t2, t3, t4⟩ := set5_at hroom (.int .i64 0) (.int .i64 0) (.int .i64 0) (.int .i64 0) (.slice none 0 0)
  have hoZ := only_set5 w1 w.heap.size (.int .i64 0) (.int .i64 0) (.int .i64 0) (.int .i64 0) (.slice none 0 0)
  obtain ⟨WZ, hWZ⟩ : ∃ WZ, WZ = set5 w1 w.heap.size (.int .i64 0) (.int .i64 0) (.int .i64 0) (.int .i64 0) (.slice none 0 0) := ⟨_, rfl⟩
  have hWZ' := hWZ
  unfold set5 at hWZ'
  rw [← hWZ] at t0 t1 t2 t3 t4 hoZ
  rw [← hWZ']
  clear hWZ hWZ' z0 z1 z2 z3 z4 y0 y1 y2 y3 y4
  have hzZ := hoZ.size
  have hbw : Below w.heap.size w w1 := ((Below.refl _ _).alloc (Nat.le_refl _) _).trans (hb1.mono (by simp))
  have hbZ : Below w.heap.size w WZ := hbw.trans (hoZ.below (by omega) (fun k hk hc => by omega))
  refine bodyPost_ret (v := .tuple #[.agg #[.int .i64 0, .int .i64 0, .int .i64 0, .int .i64 0, .slice none 0 0], .int .i64 2]) ?_ rfl ?_
  · rw [results_cell_tmp rfl]; simp [go_sem, t0, t1, t2, t3, t4, show w.heap.size < WZ.heap.size by omega]
  exact ⟨rfl, hbZ.alloc (by omega) _⟩

/-- How it stands behind a step, whatever it was. -/
def StepAll (R : Nat → Prop) (base base' : Nat) (w : World) (kb qb mb sqb smb : Nat) (ov sov : Value) (ents : Int) (ks : List (List Ins)) (draws : List Int) (s : KS) (F : KS × Option Rec × Int) (e' : Ending) (w' : World) : Prop :=
  ∃ ov' sov' qx', Only (Both kb qb mb sqb smb ov sov) w w' ∧ Moved w ov ov' ∧ Moved w sov sov' ∧ QueP base' w' sqb smb sov' qx' ∧ Beside R kb qb mb sqb smb ov' sov' ∧ KOk ents ks.length draws F.1 ∧ KerP R base w' kb qb mb ov' ents ks draws F.1 ∧
    ((F.2.2 ≠ 0 ∧ F.2.1 = none ∧ F.1 = s ∧ e' = .returned (.tuple #[rec0, .int .i64 F.2.2])) ∨
     (F.2.2 = 0 ∧ ∃ tv r, F.2.1 = some r ∧ e' = .returned (.tuple #[recV r.e tv, .int .i64 0]) ∧
       w'.ownsRow w.heap.size 3 1 tv r.told.length (ints r.told) ∧ ∀ b, some b = tv.ownBlock → ¬ Both kb qb mb sqb smb ov' sov' b))

theorem step_any {R : Nat → Prop} {base base' : Nat} (kb qb mb sqb smb : Nat) (ov sov : Value) (ents : Int) (ks : List (List Ins)) (draws : List Int) (s : KS) (qx : List Ev) (horizon : Int) (w : World) (h : KerP R base w kb qb mb ov ents ks draws s)
    (hs : QueP base' w sqb smb sov qx) (hbes : Beside R kb qb mb sqb smb ov sov) (hbase : base ≤ w.heap.size) (hbase' : base' ≤ w.heap.size) (hok : KOk ents ks.length draws s) (hents : ents ≤ 8) (hk8 : ks.length ≤ 8)
    (hcode : ∀ l ∈ ks, l.length ≤ 16 ∧ ∀ x ∈ l, mayF ents ks.length x.op x.a x.b x.c = true) (hd : ∀ d ∈ draws, 0 ≤ d ∧ d ≤ 1000000000) :
    Calls Try.prog 49 #[.pointer (some ⟨kb, 0, none⟩), .int .i64 horizon, .pointer (some ⟨sqb, 0, none⟩)] w (StepAll R base base' w kb qb mb sqb smb ov sov ents ks draws s (stepF ks draws horizon s)) := by
  rcases hq : s.q with _ | ⟨e, l⟩
  · have hF : stepF ks draws horizon s = (s, none, 1) := by simp [stepF, hq]
    rw [hF]
    refine (step_empty kb qb mb sqb ov ents ks draws s horizon w h hq).mono ?_
    rintro e' w' ⟨rfl, hb⟩
    exact ⟨ov, sov, qx, Only.new hb, .inl rfl, .inl rfl, hs.below hb, hbes, hok, h.below hb, .inl ⟨by simp, rfl, rfl, rfl⟩⟩
  · by_cases hz : horizon < e.time
    · have hF : stepF ks draws horizon s = (s, none, 2) := by simp [stepF, hq, hz]
      rw [hF]
      refine (step_late kb qb mb sqb ov ents ks draws s horizon e l w h hq hz).mono ?_
      rintro e' w' ⟨rfl, hb⟩
      exact ⟨ov, sov, qx, Only.new hb, .inl rfl, .inl rfl, hs.below hb, hbes, hok, h.below hb, .inl ⟨by simp, rfl, rfl, rfl⟩⟩
    · refine (step_run kb qb mb sqb smb ov sov ents ks draws s qx horizon e l w h hq hz hs hbes hbase hbase' hok hents hk8 hcode hd).mono ?_
      rintro e' w' ⟨ov', sov', qx', h1, h2, h3, h4, h5, h6⟩
      rcases hh : happenF ks draws e s with ⟨s', told, why⟩
      rw [hh] at h6
      rcases h6 with ⟨hw, rfl, hk⟩ | ⟨hw, tv, rfl, hk, hok', hown, hsep⟩
      · have hF : stepF ks draws horizon s = (s, none, why) := by
          simp only [stepF, hq]; rw [if_neg hz, hh]; simp only; rw [if_neg hw]
        rw [hF]
        exact ⟨ov', sov', qx', h1, h2, h3, h4, h5, hok, hk, .inl ⟨hw, rfl, rfl, rfl⟩⟩
      · have hF : stepF ks draws horizon s = (s', some ⟨e, told⟩, 0) := by
          simp only [stepF, hq]; rw [if_neg hz, hh]; simp only; rw [if_pos hw]
        rw [hF]
        exact ⟨ov', sov', qx', h1, h2, h3, h4, h5, hok', hk, .inr ⟨rfl, tv, ⟨e, told⟩, rfl, rfl, hown, hsep⟩⟩
end Go.Proofs.Ytndlmgocldckfaa
