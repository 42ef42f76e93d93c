import Derived.Test.YtndlmgocldckfaaGreatAaZ
import Derived.BigRegion
import Derived.BigQuiet
import Derived.Deep.QuietTactic
import Derived.Deep.LoopGhost
import Derived.RegionTactic
namespace Go.Proofs.YtndlmgocldckfaaGreat
open Go.RowKit
set_option linter.unusedVariables false
set_option linter.unusedSimpArgs false

def momV (m : Mom) : Value := .agg #[.int .i64 m.time, .int .i64 m.number]

set_option maxHeartbeats 1000000 in
theorem mAhead_any (a b : Mom) (w : World) :
    Calls Tryz.prog 140 #[.agg #[.int .i64 a.time, .int .i64 a.number], .agg #[.int .i64 b.time, .int .i64 b.number]] w fun e w' => e = .returned (.bool (aheadM a b)) ∧ Below w.heap.size w w' := by
  by_cases h1 : a.time < b.time
  · have h1' : decide (a.time < b.time) = true := by simpa using h1
    go_enter Tryz.func140, Tryz.ntmps140
    go_wp2
    go_ret
    exact ⟨by simp [aheadM, h1], ((Below.refl _ _).alloc (Nat.le_refl _) _).alloc (by simp) _⟩
  · have h1' : decide (a.time < b.time) = false := by simpa using h1
    by_cases h2 : a.time = b.time
    · have h2' : (a.time == b.time) = true := by simpa using h2
      have H2 := hide h2
      clear h2 h1
      go_enter Tryz.func140, Tryz.ntmps140
      go_wp2
      go_ret
      exact ⟨by simp [aheadM, H2.out], ((Below.refl _ _).alloc (Nat.le_refl _) _).alloc (by simp) _⟩
    · have h2' : (a.time == b.time) = false := by simpa using h2
      go_enter Tryz.func140, Tryz.ntmps140
      go_wp2
      go_ret
      exact ⟨by simp [aheadM, h1, h2], ((Below.refl _ _).alloc (Nat.le_refl _) _).alloc (by simp) _⟩

/-- A block of moments: the first n of it. -/
def MomIn (cur : Array Value) (f : Nat → Mom) (n : Nat) : Prop := ∀ i, i < n → cur[i * 2]? = some (.int .i64 (f i).time) ∧ cur[i * 2 + 1]? = some (.int .i64 (f i).number)
def RowB (w : World) (b T S : Nat) (f : Nat → Mom) (n : Nat) : Prop := ∃ cur : Array Value, w.heap[b]? = some (.cells cur T (0, 0)) ∧ cur.size = S ∧ MomIn cur f n

theorem RowB.lt {w : World} {b T S n : Nat} {f : Nat → Mom} (h : RowB w b T S f n) : b < w.heap.size := by
  obtain ⟨cur, h1, _⟩ := h
  exact (Array.getElem?_eq_some_iff.1 h1).1
theorem RowB.cell {w : World} {b T S n : Nat} {f : Nat → Mom} (h : RowB w b T S f n) {i : Nat} (hi : i < n) :
    w.cell? ⟨b, i * 2, none⟩ = some (.int .i64 (f i).time) ∧ w.cell? ⟨b, i * 2 + 1, none⟩ = some (.int .i64 (f i).number) ∧ w.frozen? ⟨b, i * 2, none⟩ = false ∧ w.frozen? ⟨b, i * 2 + 1, none⟩ = false := by
  obtain ⟨cur, h1, h2, h3⟩ := h
  obtain ⟨h4, h5⟩ := h3 i hi
  simp [World.cell?, World.frozen?, h1, h4, h5]

theorem RowB.below {w w' : World} {b T S n : Nat} {f : Nat → Mom} (h : RowB w b T S f n) (hb : Below w.heap.size w w') : RowB w' b T S f n := by
  have := h.lt
  obtain ⟨cur, h1, h2⟩ := h
  exact ⟨cur, (hb.block b this).trans h1, h2⟩
theorem RowB.only {w w' : World} {b T S n : Nat} {f : Nat → Mom} {U : Nat → Prop} (h : RowB w b T S f n) (ho : Only U w w') (hb : ¬ U b) : RowB w' b T S f n := by
  have := h.lt
  obtain ⟨cur, h1, h2⟩ := h
  exact ⟨cur, (ho.block b this hb).trans h1, h2⟩
theorem RowB.drew {w : World} {b T S n : Nat} {f : Nat → Mom} (h : RowB w b T S f n) : RowB w.drew b T S f n := h

def setM (w : World) (b i : Nat) (m : Mom) : World := (w.setCell ⟨b, i * 2, none⟩ (.int .i64 m.time)).setCell ⟨b, i * 2 + 1, none⟩ (.int .i64 m.number)
theorem Only.setM {U : Nat → Prop} {a w : World} {b : Nat} (h : Only U a w) (hb : U b) (i : Nat) (m : Mom) : Only U a (setM w b i m) := (h.setCell hb _).setCell hb _
theorem Only.drew {U : Nat → Prop} {a w : World} (h : Only U a w) : Only U a w.drew := h.trans ⟨rfl, rfl, rfl, Nat.le_refl _, fun _ _ _ => rfl⟩
theorem setM_size (w : World) (b i : Nat) (m : Mom) : (setM w b i m).heap.size = w.heap.size := by simp [setM, World.setCell]

theorem heap_setCell_at {w : World} {b o T : Nat} {cur : Array Value} (h : w.heap[b]? = some (.cells cur T (0, 0))) (v : Value) : (w.setCell ⟨b, o, none⟩ v).heap[b]? = some (.cells (cur.setIfInBounds o v) T (0, 0)) := by
  simp [World.setCell, Array.getElem?_modify, h]

theorem RowB.set {w : World} {b T S n : Nat} {f : Nat → Mom} (h : RowB w b T S f n) {i : Nat} (hi : i < n) (m : Mom) : RowB (setM w b i m) b T S (putF f i m) n := by
  obtain ⟨cur, h1, h2, h3⟩ := h
  refine ⟨(cur.setIfInBounds (i * 2) (.int .i64 m.time)).setIfInBounds (i * 2 + 1) (.int .i64 m.number), heap_setCell_at (heap_setCell_at h1 _) _, by simp [h2], ?_⟩
  have hs : i * 2 + 1 < cur.size := by
    have := (h3 i hi).2
    exact (Array.getElem?_eq_some_iff.1 this).1
  intro j hj
  obtain ⟨a, c⟩ := h3 j hj
  by_cases hji : j = i
  · subst hji
    refine ⟨?_, ?_⟩
    · rw [Array.getElem?_setIfInBounds_ne (by omega), Array.getElem?_setIfInBounds_self_of_lt (by omega)]; simp [putF]
    · rw [Array.getElem?_setIfInBounds_self_of_lt (by simp; omega)]; simp [putF]
  · refine ⟨?_, ?_⟩
    · rw [Array.getElem?_setIfInBounds_ne (by omega), Array.getElem?_setIfInBounds_ne (by omega)]; simp [putF, hji, a]
    · rw [Array.getElem?_setIfInBounds_ne (by omega), Array.getElem?_setIfInBounds_ne (by omega)]; simp [putF, hji, c]

theorem RowB.swap {w : World} {b T S n : Nat} {f : Nat → Mom} (h : RowB w b T S f n) {i j : Nat} (hi : i < n) (hj : j < n) (hij : i ≠ j) : RowB (setM (setM w b i (f j)) b j (f i)) b T S (swapF f i j) n := by
  have e : swapF f i j = putF (putF f i (f j)) j (f i) := by
    funext k
    unfold swapF putF
    by_cases h1 : k = i
    · subst h1; simp [hij]
    · by_cases h2 : k = j
      · subst h2; simp [Ne.symm hij]
      · simp [h1, h2]
  rw [e]
  exact (h.set hi _).set hj _

set_option maxHeartbeats 4000000 in
set_option maxRecDepth 1000000 in
theorem rise_any (b T S n cap i0 : Nat) (f : Nat → Mom) (w : World) (q : List Ev) (hr : RowB w b T S f n) (hi : i0 < n) (hn : n ≤ 17) (hR : RiseF f n i0) (hm : MomsOf f n q) :
    Calls Tryz.prog 132 #[.slice (some ⟨b, 0, none⟩) n cap, .int .i64 i0] w fun e w' => e = .returned (.tuple #[]) ∧ Only (· = b) w w' ∧ ∃ f', RowB w' b T S f' n ∧ HeapF f' n ∧ MomsOf f' n q := by
  go_enter Tryz.func132, Tryz.ntmps132
  go_wp2
  go_loopg [1] (i0 + 1) (fun g si wr => ∃ (i : Nat) (fk : Nat → Mom), si = .int .i64 i ∧ i < n ∧ i + 1 ≤ g ∧ Only (· = b) w wr ∧ RowB wr b T S fk n ∧ RiseF fk n i ∧ MomsOf fk n q)
  case atStart => exact ⟨i0, f, rfl, hi, Nat.le_refl _, Only.refl _ _, hr, hR, hm⟩
  case round =>
    obtain ⟨i, fk, rfl, hin, hg, ho, hrk, hRk, hmk⟩ := hrel
    have HRk := hide hRk
    have Hmk := hide hmk
    clear hr hR hm hRk hmk
    by_cases h0 : i = 0
    · subst h0
      go_wp2
      go_end0
      exact ⟨rfl, ho, fk, hrk, HRk.out.done (.inl rfl), Hmk.out⟩
    · obtain ⟨p, hp⟩ : ∃ p, p = (i - 1) / 2 := ⟨_, rfl⟩
      have hpi : p < i := by omega
      have hi0 : (0 : Int) < (i : Int) := by omega
      have hpe : ((i : Int) - 1).tdiv 2 = (p : Int) := by rw [Int.tdiv_eq_ediv_of_nonneg (by omega), hp]; omega
      obtain ⟨c0, c1, z0, z1⟩ := hrk.cell hin
      obtain ⟨d0, d1, y0, y1⟩ := hrk.cell (i := p) (by omega)
      obtain ⟨mi, hmi⟩ : ∃ m, fk i = m := ⟨_, rfl⟩
      obtain ⟨mp, hmp⟩ : ∃ m, fk p = m := ⟨_, rfl⟩
      rw [hmi] at c0 c1
      rw [hmp] at d0 d1
      have Hrk := hide hrk
      have Hp := hide hp
      clear hrk hp
      rcases hah : aheadM mi mp with _ | _
      · go_wp2
        go_region_with (go_at_call 140; refine (mAhead_any mi mp _).mono ?_; rintro e' w3 ⟨rfl, hb3⟩; rw [hah])
        all_goals
          go_wp2
          refine bodyPost_ret (results_none rfl _ _ _) rfl ?_
          have hb4 : Below wr.heap.size wr w3 := (Below.refl _ _).drew.trans hb3
          exact ⟨rfl, ho.trans (Only.new hb4), fk, Hrk.out.below hb4, HRk.out.done (.inr (.inr (by rw [← Hp.out, hmi, hmp, hah]))), Hmk.out⟩
      · go_wp2
        go_region_with (go_at_call 140; refine (mAhead_any mi mp _).mono ?_; rintro e' w3 ⟨rfl, hb3⟩; rw [hah])
        all_goals
          have hb4 : Below wr.heap.size wr w3 := (Below.refl _ _).drew.trans hb3
          clear hb3
          have Hr3 := hide (Hrk.out.below hb4)
          have Ho3 := hide (ho.trans (Only.new hb4))
          obtain ⟨c0, c1, z0, z1⟩ := Hr3.out.cell hin
          obtain ⟨d0, d1, y0, y1⟩ := Hr3.out.cell (i := p) (by omega)
          rw [hmi] at c0 c1
          rw [hmp] at d0 d1
          clear hb4 Hrk ho
          go_wp2
          go_region
          all_goals
            go_wp2
            go_roundg (p + 1)
            case measure => omega
            case rel =>
              have hA : aheadM (fk i) (fk ((i - 1) / 2)) = true := by rw [← Hp.out, hmi, hmp, hah]
              have hsw := Hr3.out.swap hin (j := p) (by omega) (by omega)
              rw [hmi, hmp] at hsw
              exact ⟨p, swapF fk i p, by go_num, by omega, Nat.le_refl _, ((Ho3.out.setM rfl _ _).setM rfl _ _).drew, hsw.drew, by have := HRk.out.swap (by omega) hin hA; rwa [← Hp.out] at this, Hmk.out.swap hin (by omega)⟩
end Go.Proofs.YtndlmgocldckfaaGreat
