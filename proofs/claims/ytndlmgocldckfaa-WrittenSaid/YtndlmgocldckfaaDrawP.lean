import Derived.Test.YtndlmgocldckfaaApp
import Derived.Test.YtndlmgocldckfaaLeafP
namespace Go.Proofs.Ytndlmgocldckfaa
open Go.RowKit
set_option linter.unusedVariables false
set_option linter.unusedSimpArgs false

def drawB (n : Int) : Bool := inB n 0 1000000000
/-- May these be draws? -/
def drawsF (l : List Int) : Bool := decide (l.length ≤ 1000) && l.all drawB
/-- The place of the first that may not, or -1. -/
def badF : List Int → Int → Int
  | [], _ => -1
  | x :: l, i => if drawB x then badF l (i + 1) else i
theorem badF_drop {l : List Int} {k : Nat} (h : k < l.length) : badF (l.drop k) k = if drawB l[k] then badF (l.drop (k + 1)) ((k + 1 : Nat) : Int) else (k : Int) := by
  rw [List.drop_eq_getElem_cons h, badF]; simp
theorem badF_all : ∀ (l : List Int) (i : Int), 0 ≤ i → decide (0 ≤ badF l i) = !l.all drawB
  | [], i, h => by simp [badF]
  | x :: l, i, h => by
    rw [badF]
    have ih := badF_all l (i + 1) (by omega)
    cases hx : drawB x
    · simp [hx, h]
    · simp [hx, ih]

set_option maxHeartbeats 400000 in
theorem indexFunc_some (b off cap : Nat) (l : List Int) (w : World) (hl : l.length ≤ 1000) (hc : RowAt w b off (ints l)) :
    Calls Try.prog 77 #[.slice (some ⟨b, off, none⟩) l.length cap, .func (.func 66) #[] #[]] w
      fun e w' => e = .returned (.int .i64 (badF l 0)) ∧ w' = w := by
  go_enter Try.func77, Try.ntmps77
  go_wp2
  go_loop [8, 5] (fun i _ => ∃ k : Nat, k ≤ l.length ∧ i = .int .i64 k ∧ Hid (badF (l.drop k) k = badF l 0)) (fun i _ => l.length - (intOf i).toNat)
  case atStart => exact ⟨0, by omega, rfl, rfl⟩
  case round =>
    obtain ⟨k, hk, rfl, hb⟩ := hrel
    by_cases hlt : k < l.length
    · have hx : w.cell? ⟨b, off + k, none⟩ = some (.int .i64 l[k]) := hc k _ (by simp [ints, hlt])
      have hd := badF_drop hlt
      rcases hm : drawB l[k] with _ | _
      · have Hd : Hid (badF l 0 = k) := by show _ = _; rw [← hb.out, hd, hm]; rfl
        have hm' : inB l[k] 0 1000000000 = false := hm
        clear hd hm
        go_wp2_with (go_at_call 66; refine (notDraw_any _ _).mono ?_; rintro e w' ⟨rfl, rfl⟩)
        go_ret
        exact ⟨by rw [Hd.out]; simp, rfl⟩
      · have Hd : Hid (badF (l.drop (k + 1)) ((k + 1 : Nat) : Int) = badF l 0) := by show _ = _; rw [← hb.out, hd, hm]; rfl
        have hm' : inB l[k] 0 1000000000 = true := hm
        clear hd hm
        go_wp2_with (go_at_call 66; refine (notDraw_any _ _).mono ?_; rintro e w' ⟨rfl, rfl⟩)
        go_round
        case rel => exact ⟨k + 1, by omega, by go_num, Hd⟩
        case measure => simp [intOf]; omega
    · have Hd : Hid (badF l 0 = -1) := by
        show _ = _; rw [← hb.out, List.drop_of_length_le (by omega)]; rfl
      go_wp2
      go_ret
      exact ⟨by rw [Hd.out]; simp, rfl⟩

set_option maxHeartbeats 400000 in
theorem indexFunc_nil (w : World) :
    Calls Try.prog 77 #[.slice none 0 0, .func (.func 66) #[] #[]] w
      fun e w' => e = .returned (.int .i64 (badF [] 0)) ∧ w' = w := by
  go_enter Try.func77, Try.ntmps77
  go_wp2
  go_loop [8] (fun i => i = .int .i64 0) (fun _ => 0)
  case atStart => rfl
  case round =>
    obtain rfl := hrel
    go_wp2
    go_ret
    exact ⟨rfl, rfl⟩

theorem indexFunc_any {R : Nat → Prop} (v : Value) (l : List Int) (w : World) (hl : l.length ≤ 1000) (hv : IntsIn R w v l) :
    Calls Try.prog 77 #[v, .func (.func 66) #[] #[]] w
      fun e w' => e = .returned (.int .i64 (badF l 0)) ∧ w' = w := by
  obtain ⟨_, ⟨rfl, rfl⟩ | ⟨b, off, cap, rfl, _, hc⟩⟩ := hv
  · exact indexFunc_nil w
  · exact indexFunc_some b off cap l w hl hc

set_option maxHeartbeats 400000 in
theorem containsFunc_any {R : Nat → Prop} (v : Value) (l : List Int) (w : World) (hl : l.length ≤ 1000) (hv : IntsIn R w v l) :
    Calls Try.prog 65 #[v, .func (.func 66) #[] #[]] w
      fun e w' => e = .returned (.bool (!l.all drawB)) ∧ w' = w := by
  have h := badF_all l 0 (Int.le_refl _)
  rw [← h]
  clear h
  go_enter Try.func65, Try.ntmps65
  go_wp2_with (go_at_call 77; refine (indexFunc_any v l _ hl hv).mono ?_; rintro e w' ⟨rfl, rfl⟩)
  go_ret
  exact ⟨rfl, rfl⟩

set_option maxHeartbeats 400000 in
theorem areDraws_any {R : Nat → Prop} (v : Value) (l : List Int) (w : World) (hv : IntsIn R w v l) :
    Calls Try.prog 46 #[v] w
      fun e w' => e = .returned (.bool (drawsF l)) ∧ w' = w := by
  obtain ⟨sa, sc, rfl⟩ := hv.form
  by_cases hl : l.length ≤ 1000
  · have h1 : decide ((l.length : Int) ≤ 1000) = true := by simp; omega
    have Hd : Hid (drawsF l = l.all drawB) := by show _ = _; simp [drawsF, hl]
    go_enter Try.func46, Try.ntmps46
    go_wp2_with (go_at_call 65; refine (containsFunc_any _ l _ hl hv).mono ?_; rintro e w' ⟨rfl, rfl⟩)
    go_ret
    exact ⟨by rw [Hd.out]; simp, rfl⟩
  · have h1 : decide ((l.length : Int) ≤ 1000) = false := by simp; omega
    have Hd : Hid (drawsF l = false) := by show _ = _; simp [drawsF, hl]
    go_enter Try.func46, Try.ntmps46
    go_wp2
    go_ret
    exact ⟨by rw [Hd.out]; simp, rfl⟩

end Go.Proofs.Ytndlmgocldckfaa
