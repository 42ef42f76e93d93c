import Derived.Test.YtpkkjgcpmnoalaaMem
namespace Go.Proofs.Ytpkkjgcpmnoalaa
open Go.RowKit
set_option linter.unusedVariables false
set_option linter.unusedSimpArgs false

theorem Try.info3 : (Try.prog.info? 3).map (fun i => (i.zero, i.size, i.bytes)) = some (some (.int .i64 0), 1, 8) := by kernel_rfl
theorem eqlNilI (w : World) (a : Option Addr) (n c : Nat) : (binOp .eql 24 (.slice a n c) (.slice none 0 0)).run Try.prog w = .ok (.bool a.isNone) w := Lib.run_eql_slice_nil w _ _ a n c 0 0 Try.underlying24
theorem eqlNilC (w : World) (a : Option Addr) (n c : Nat) : (binOp .eql 60 (.slice a n c) (.slice none 0 0)).run Try.prog w = .ok (.bool a.isNone) w := Lib.run_eql_slice_nil w _ _ a n c 0 0 Try.underlying60
theorem eqlNilK (w : World) (a : Option Addr) (n c : Nat) : (binOp .eql 36 (.slice a n c) (.slice none 0 0)).run Try.prog w = .ok (.bool a.isNone) w := Lib.run_eql_slice_nil w _ _ a n c 0 0 Try.underlying36
attribute [local go_sem] eqlNilI eqlNilC eqlNilK
theorem Try.size3 : (Try.prog.info? 3).map (·.size) = some 1 := by kernel_rfl

set_option maxHeartbeats 400000 in
theorem lentInts_nil (w : World) : Calls Try.prog 21 #[.slice none 0 0] w fun e w' => e = .returned (.slice none 0 0) ∧ w' = w := by
  go_enter Try.func21, Try.ntmps21
  go_wp2
  go_ret
  exact ⟨rfl, rfl⟩

/-- Numbers as they lie. -/
def ints (l : List Int) : List Value := l.map (Value.int .i64)
/-- What is lent: the numbers, and 77 eight times. -/
def lentI (l : List Int) : List Value := ints l ++ List.replicate 8 (Value.int .i64 77)

theorem lentI_room (l : List Int) (k : Nat) (h1 : l.length ≤ k) (h2 : k < l.length + 8) : (lentI l)[k]? = some (.int .i64 77) := by
  rw [lentI, List.getElem?_append_right (by simpa [ints] using h1), List.getElem?_replicate, if_pos (by simp [ints]; omega)]
theorem lentI_elem (l : List Int) (k : Nat) (h : k < l.length) : (lentI l)[k]? = some (.int .i64 l[k]) := by
  rw [lentI, List.getElem?_append_left (by simpa [ints] using h)]; simp [ints, h]
theorem lentI_length (l : List Int) : (lentI l).length = l.length + 8 := by simp [lentI, ints]

set_option maxRecDepth 100000 in
set_option maxHeartbeats 400000 in
theorem lentInts_at (ad : Addr) (cap : Nat) (l : List Int) (w : World) (hl : l.length ≤ 17592186044416) (hc : ∀ j v, (ints l)[j]? = some v → w.cell? (ad.add j) = some v) :
    Calls Try.prog 21 #[.slice (some ad) l.length cap] w fun e w' => ∃ g, w.heap.size ≤ g ∧ g < w'.heap.size ∧ e = .returned (.slice (some ⟨g, 0, none⟩) l.length (l.length + 8)) ∧
      Below w.heap.size w w' ∧ RowAt w' g 0 (lentI l) ∧ Room w' g (l.length + 8) := by
  go_enter Try.func21, Try.ntmps21
  go_wp2_with (first
    | (at_make; refine wpList_make_alloc _ rfl _ _ 24 rfl 3 (.int .i64 0) 1 8 Try.underlying24 Try.info3 _ _ _ _ (l.length + 8) rfl rfl (by simp) (by simp) (by omega) (by omega) ?_)
    | (refine wpList_copy_cells rfl (.tmp 13) (.tmp 14) 24 24 rfl 3 Try.underlying24 1 Try.size3 w.heap.size _ _ _ _ _ rfl rfl (by simp) _ 3 (heap_new _ _) (ints l) (by simp [ints]) ?_ ?_ ?_ ?_))
  case refine_1 => intro j v hv; exact (((Below.refl _ _).alloc (Nat.le_refl _) _).cell (lt_of_cellA (hc j v hv))).trans (hc j v hv)
  case refine_2 => simp [ints, size_madeCells]
  case refine_3 => intro v hv; simp [ints] at hv; obtain ⟨x, _, rfl⟩ := hv; rfl
  intro w1 hon hrow hroom hsz
  rw [size_madeCells] at hroom
  have hb1 : Below w.heap.size w w1 := ((Below.refl _ _).alloc (Nat.le_refl _) _).trans (hon.below (by simp) (fun k hk => by omega))
  have hlen : (lentI l).length = l.length + 8 := by simp [lentI, ints]
  have Hlen := hide hlen
  clear hlen hon
  have hz : w.heap.size < w1.heap.size := by rw [hsz]; simp
  clear hsz
  go_wp2
  go_loopw [5] (fun i wr => ∃ k : Nat, l.length ≤ k ∧ k ≤ l.length + 8 ∧ i = .int .i64 k ∧ Below w.heap.size w wr ∧ RowAt wr w.heap.size 0 ((lentI l).take k) ∧ Room wr w.heap.size (l.length + 8) ∧ w.heap.size < wr.heap.size) (fun i _ => l.length + 8 - (intOf i).toNat)
  case atStart => exact ⟨l.length, Nat.le_refl _, by omega, rfl, hb1, by rw [lentI, List.take_left' (by simp [ints])]; exact hrow, hroom, hz⟩
  case round =>
    obtain ⟨k, hk1, hk2, rfl, hbel, hrw, hrm, hzr⟩ := hrel
    clear hrow hroom hb1 hz
    by_cases hlt : k < l.length + 8
    · obtain ⟨hs, hf⟩ := hrm k hlt
      obtain ⟨u, hu⟩ := Option.isSome_iff_exists.1 hs
      go_wp2
      go_roundw
      case rel =>
        refine ⟨k + 1, by omega, by omega, by go_num, hbel.setCell (by simp) _, ?_, hrm.setCell _ _, by simp [World.setCell]; omega⟩
        have := RowAt.snoc (X := lentI l) (b := w.heap.size) (off := 0) (w := wr) (n := k) (by rw [Hlen.out]; exact hlt) hrw (.int .i64 77) (lentI_room l k hk1 hlt) (by simpa using hs)
        simpa using this
      case measure => simp [intOf]; omega
    · have hk : k = l.length + 8 := by omega
      rw [List.take_of_length_le (by rw [Hlen.out]; omega)] at hrw
      go_wp2
      go_ret
      exact ⟨w.heap.size, Nat.le_refl _, hzr, by simp, hbel, hrw, hrm⟩

theorem lentInts_some (b off cap : Nat) (l : List Int) (w : World) (hl : l.length ≤ 17592186044416) (hc : RowAt w b off (ints l)) :
    Calls Try.prog 21 #[.slice (some ⟨b, off, none⟩) l.length cap] w fun e w' => ∃ g, w.heap.size ≤ g ∧ g < w'.heap.size ∧ e = .returned (.slice (some ⟨g, 0, none⟩) l.length (l.length + 8)) ∧
      Below w.heap.size w w' ∧ RowAt w' g 0 (lentI l) ∧ Room w' g (l.length + 8) :=
  lentInts_at ⟨b, off, none⟩ cap l w hl (fun j v hv => by rw [Addr.add_lit]; exact hc j v hv)

/-- What the caller writes into what it lent. -/
def onesI (n : Nat) : List Value := List.replicate n (Value.int .i64 1)

set_option maxRecDepth 100000 in
set_option maxHeartbeats 400000 in
theorem wholeInts_gen (ad : Addr) (b off cap g cap' : Nat) (l : List Int) (w : World) (had : 0 < l.length → ad = ⟨b, off, none⟩) (hl : l.length ≤ 17592186044416) (hc : RowAt w b off (ints l)) (hbg : b ≠ g) (hr : RowAt w g 0 (lentI l)) (hm : Room w g (l.length + 8)) :
    Calls Try.prog 24 #[.slice (some ⟨g, 0, none⟩) l.length (l.length + 8), .slice (some ad) l.length cap] w fun e w' => e = .returned (.bool true) ∧ Only (· = g) w w' := by
  go_enter Try.func24, Try.ntmps24
  go_wp2

  go_loopw [7, 8, 9] (fun ok i _ wr => ∃ k : Nat, k ≤ l.length + 8 ∧ i = .int .i64 k ∧ ok = .bool true ∧ Only (· = g) w wr ∧ RowAt wr g k ((lentI l).drop k) ∧ Room wr g (l.length + 8)) (fun _ i _ _ => l.length + 8 - (intOf i).toNat)
  case atStart => exact ⟨0, by omega, rfl, rfl, Only.refl _ _, by simpa using hr, hm⟩
  case round =>
    obtain ⟨k, hk, rfl, rfl, hon, hrw, hrm⟩ := hrel
    by_cases hlt : k < l.length + 8
    · obtain ⟨hs, hf⟩ := hrm k hlt
      have hnext : RowAt (wr.setCell ⟨g, k, none⟩ (.int .i64 1)) g (k + 1) ((lentI l).drop (k + 1)) := by
        intro j v hv
        rw [World.cell?_setCell_other _ _ _ _ (by simp; try omega)]
        have := hrw (j + 1) v (by rw [List.getElem?_drop] at hv ⊢; rw [← hv]; congr 1; omega)
        rw [← this]; congr 2; omega
      have Hn := hide hnext
      clear hnext hr hm
      by_cases hl2 : k < l.length
      · obtain rfl := had (by omega)
        have hu : wr.cell? ⟨g, k, none⟩ = some (.int .i64 l[k]) := hrw 0 _ (by rw [List.getElem?_drop]; simpa using lentI_elem l k hl2)
        have hx : wr.cell? ⟨b, off + k, none⟩ = some (.int .i64 l[k]) := hon.at (hc k _ (by simp [ints, hl2])) hbg
        go_wp2
        go_roundw
        case rel => exact ⟨k + 1, by omega, by go_num, rfl, hon.setCell rfl _, Hn.out, hrm.setCell _ _⟩
        case measure => simp [intOf]; omega
      · have hu : wr.cell? ⟨g, k, none⟩ = some (.int .i64 77) := hrw 0 _ (by rw [List.getElem?_drop]; simpa using lentI_room l k (by omega) hlt)
        go_wp2
        go_roundw
        case rel => exact ⟨k + 1, by omega, by go_num, rfl, hon.setCell rfl _, Hn.out, hrm.setCell _ _⟩
        case measure => simp [intOf]; omega
    · go_wp2
      go_ret
      exact ⟨rfl, hon⟩

theorem wholeInts_some (b off cap g cap' : Nat) (l : List Int) (w : World) (hl : l.length ≤ 17592186044416) (hc : RowAt w b off (ints l)) (hbg : b ≠ g) (hr : RowAt w g 0 (lentI l)) (hm : Room w g (l.length + 8)) :
    Calls Try.prog 24 #[.slice (some ⟨g, 0, none⟩) l.length (l.length + 8), .slice (some ⟨b, off, none⟩) l.length cap] w fun e w' => e = .returned (.bool true) ∧ Only (· = g) w w' :=
  wholeInts_gen ⟨b, off, none⟩ b off cap g cap' l w (fun _ => rfl) hl hc hbg hr hm

set_option maxHeartbeats 400000 in
theorem wholeInts_nil (v : Value) (w : World) : Calls Try.prog 24 #[v, .slice none 0 0] w fun e w' => e = .returned (.bool true) ∧ w' = w := by
  go_enter Try.func24, Try.ntmps24
  go_wp2
  go_ret
  exact ⟨rfl, rfl⟩
end Go.Proofs.Ytpkkjgcpmnoalaa
