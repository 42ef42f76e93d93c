import Derived.Test.YtndlmgocldckfaaGreatG02
import Derived.Test.YtndlmgocldckfaaGreatG11
import Derived.BigQuiet
import Derived.Deep.QuietTactic
namespace Go.Proofs.YtndlmgocldckfaaGreat
open Go.RowKit
set_option linter.unusedVariables false
set_option linter.unusedSimpArgs false
set_option maxRecDepth 100000
set_option maxHeartbeats 4000000
theorem eqlNilI (w : World) (a : Option Addr) (n c : Nat) : (binOp .eql 24 (.slice a n c) (.slice none 0 0)).run Tryz.prog w = .ok (.bool a.isNone) w := Lib.run_eql_slice_nil w _ _ a n c 0 0 Tryz.underlying24
theorem eqlNilC (w : World) (a : Option Addr) (n c : Nat) : (binOp .eql 60 (.slice a n c) (.slice none 0 0)).run Tryz.prog w = .ok (.bool a.isNone) w := Lib.run_eql_slice_nil w _ _ a n c 0 0 Tryz.underlying60
theorem eqlNilK (w : World) (a : Option Addr) (n c : Nat) : (binOp .eql 36 (.slice a n c) (.slice none 0 0)).run Tryz.prog w = .ok (.bool a.isNone) w := Lib.run_eql_slice_nil w _ _ a n c 0 0 Tryz.underlying36
attribute [local go_sem] eqlNilI eqlNilC eqlNilK
theorem lentInts_nil (w : World) : Calls Tryz.prog 25 #[.slice none 0 0] w fun e w' => e = .returned (.slice none 0 0) ∧ w' = w := by
 go_enter Tryz.func25, Tryz.ntmps25
 go_wp2
 go_ret
 exact ⟨rfl, rfl⟩
def lentI (l : List Int) : List Value := ints l ++ List.replicate 8 (Value.int .i64 77)
theorem lentI_room (l : List Int) (k : Nat) (h1 : l.length ≤ k) (h2 : k < l.length + 8) : (lentI l)[k]? = some (.int .i64 77) := by
 rw [lentI, List.getElem?_append_right (by simpa [ints] using h1), List.getElem?_replicate, if_pos (by simp [ints]; omega)]
theorem lentI_elem (l : List Int) (k : Nat) (h : k < l.length) : (lentI l)[k]? = some (.int .i64 l[k]) := by
 rw [lentI, List.getElem?_append_left (by simpa [ints] using h)]; simp [ints, h]
theorem lentInts_at (ad : Addr) (cap : Nat) (l : List Int) (w : World) (hl : l.length ≤ 17592186044416) (hc : ∀ j v, (ints l)[j]? = some v → w.cell? (ad.add j) = some v) :
  Calls Tryz.prog 25 #[.slice (some ad) l.length cap] w fun e w' => ∃ g, w.heap.size ≤ g ∧ g < w'.heap.size ∧ e = .returned (.slice (some ⟨g, 0, none⟩) l.length (l.length + 8)) ∧
   Below w.heap.size w w' ∧ RowAt w' g 0 (lentI l) ∧ Room w' g (l.length + 8) := by
 go_enter Tryz.func25, Tryz.ntmps25
 go_wp2_with (first
  | (at_make; refine wpList_make_alloc _ rfl _ _ 24 rfl 3 (.int .i64 0) 1 8 Tryz.underlying24 Tryz.info3 _ _ _ _ (l.length + 8) rfl rfl (by simp) (by simp) (by omega) (by omega) ?_)
  | (refine wpList_copy_cells rfl (.tmp 13) (.tmp 14) 24 24 rfl 3 Tryz.underlying24 1 Tryz.size3 w.heap.size _ _ _ _ _ rfl rfl (by simp) _ 3 (heap_new _ _) (ints l) (by simp [ints]) ?_ ?_ ?_ ?_))
 case refine_1 => intro j v hv; exact (((Below.refl _ _).alloc (Nat.le_refl _) _).cell (lt_of_cellA (hc j v hv))).trans (hc j v hv)
 case refine_2 => simp [ints, size_madeCells]
 case refine_3 => intro v hv; simp [ints] at hv; obtain ⟨x, _, rfl⟩ := hv; rfl
 intro w1 hon hrow hroom hsz
 rw [size_madeCells] at hroom
 have hb1 : Below w.heap.size w w1 := ((Below.refl _ _).alloc (Nat.le_refl _) _).trans (hon.below (by simp) (fun k hk => by omega))
 have hlen : (lentI l).length = l.length + 8 := by simp [lentI, ints]
 have Hlen := hide hlen
 clear hlen hon
 have hz : w.heap.size < w1.heap.size := by rw [hsz]; simp
 clear hsz
 go_wp2
 go_loopw [5] (fun i wr => ∃ k : Nat, l.length ≤ k ∧ k ≤ l.length + 8 ∧ i = .int .i64 k ∧ Below w.heap.size w wr ∧ RowAt wr w.heap.size 0 ((lentI l).take k) ∧ Room wr w.heap.size (l.length + 8) ∧ w.heap.size < wr.heap.size) (fun i _ => l.length + 8 - (intOf i).toNat)
 case atStart => exact ⟨l.length, Nat.le_refl _, by omega, rfl, hb1, by rw [lentI, List.take_left' (by simp [ints])]; exact hrow, hroom, hz⟩
 case round =>
  obtain ⟨k, hk1, hk2, rfl, hbel, hrw, hrm, hzr⟩ := hrel
  clear hrow hroom hb1 hz
  by_cases hlt : k < l.length + 8
  ·obtain ⟨hs, hf⟩ := hrm k hlt
   obtain ⟨u, hu⟩ := Option.isSome_iff_exists.1 hs
   go_wp2
   go_roundw
   case rel =>
    refine ⟨k + 1, by omega, by omega, by go_num, hbel.setCell (by simp) _, ?_, hrm.setCell _ _, by simp [World.setCell]; omega⟩
    have := RowAt.snoc (X := lentI l) (b := w.heap.size) (off := 0) (w := wr) (n := k) (by rw [Hlen.out]; exact hlt) hrw (.int .i64 77) (lentI_room l k hk1 hlt) (by simpa using hs)
    simpa using this
   case measure => simp [intOf]; omega
  ·have hk : k = l.length + 8 := by omega
   rw [List.take_of_length_le (by rw [Hlen.out]; omega)] at hrw
   go_wp2
   go_ret
   exact ⟨w.heap.size, Nat.le_refl _, hzr, by simp, hbel, hrw, hrm⟩
theorem lentInts_some (b off cap : Nat) (l : List Int) (w : World) (hl : l.length ≤ 17592186044416) (hc : RowAt w b off (ints l)) :
  Calls Tryz.prog 25 #[.slice (some ⟨b, off, none⟩) l.length cap] w fun e w' => ∃ g, w.heap.size ≤ g ∧ g < w'.heap.size ∧ e = .returned (.slice (some ⟨g, 0, none⟩) l.length (l.length + 8)) ∧
   Below w.heap.size w w' ∧ RowAt w' g 0 (lentI l) ∧ Room w' g (l.length + 8) :=
 lentInts_at ⟨b, off, none⟩ cap l w hl (fun j v hv => by rw [Addr.add_lit]; exact hc j v hv)
theorem wholeInts_gen (ad : Addr) (b off cap g cap' : Nat) (l : List Int) (w : World) (had : 0 < l.length → ad = ⟨b, off, none⟩) (hl : l.length ≤ 17592186044416) (hc : RowAt w b off (ints l)) (hbg : b ≠ g) (hr : RowAt w g 0 (lentI l)) (hm : Room w g (l.length + 8)) :
  Calls Tryz.prog 28 #[.slice (some ⟨g, 0, none⟩) l.length (l.length + 8), .slice (some ad) l.length cap] w fun e w' => e = .returned (.bool true) ∧ Only (· = g) w w' := by
 go_enter Tryz.func28, Tryz.ntmps28
 go_wp2
 go_loopw [7, 8, 9] (fun ok i _ wr => ∃ k : Nat, k ≤ l.length + 8 ∧ i = .int .i64 k ∧ ok = .bool true ∧ Only (· = g) w wr ∧ RowAt wr g k ((lentI l).drop k) ∧ Room wr g (l.length + 8)) (fun _ i _ _ => l.length + 8 - (intOf i).toNat)
 case atStart => exact ⟨0, by omega, rfl, rfl, Only.refl _ _, by simpa using hr, hm⟩
 case round =>
  obtain ⟨k, hk, rfl, rfl, hon, hrw, hrm⟩ := hrel
  by_cases hlt : k < l.length + 8
  ·obtain ⟨hs, hf⟩ := hrm k hlt
   have hnext : RowAt (wr.setCell ⟨g, k, none⟩ (.int .i64 1)) g (k + 1) ((lentI l).drop (k + 1)) := by
    intro j v hv
    rw [World.cell?_setCell_other _ _ _ _ (by simp; try omega)]
    have := hrw (j + 1) v (by rw [List.getElem?_drop] at hv ⊢; rw [← hv]; congr 1; omega)
    rw [← this]; congr 2; omega
   have Hn := hide hnext
   clear hnext hr hm
   by_cases hl2 : k < l.length
   ·obtain rfl := had (by omega)
    have hu : wr.cell? ⟨g, k, none⟩ = some (.int .i64 l[k]) := hrw 0 _ (by rw [List.getElem?_drop]; simpa using lentI_elem l k hl2)
    have hx : wr.cell? ⟨b, off + k, none⟩ = some (.int .i64 l[k]) := hon.at (hc k _ (by simp [ints, hl2])) hbg
    go_wp2
    go_roundw
    case rel => exact ⟨k + 1, by omega, by go_num, rfl, hon.setCell rfl _, Hn.out, hrm.setCell _ _⟩
    case measure => simp [intOf]; omega
   ·have hu : wr.cell? ⟨g, k, none⟩ = some (.int .i64 77) := hrw 0 _ (by rw [List.getElem?_drop]; simpa using lentI_room l k (by omega) hlt)
    go_wp2
    go_roundw
    case rel => exact ⟨k + 1, by omega, by go_num, rfl, hon.setCell rfl _, Hn.out, hrm.setCell _ _⟩
    case measure => simp [intOf]; omega
  ·go_wp2
   go_ret
   exact ⟨rfl, hon⟩
theorem wholeInts_some (b off cap g cap' : Nat) (l : List Int) (w : World) (hl : l.length ≤ 17592186044416) (hc : RowAt w b off (ints l)) (hbg : b ≠ g) (hr : RowAt w g 0 (lentI l)) (hm : Room w g (l.length + 8)) :
  Calls Tryz.prog 28 #[.slice (some ⟨g, 0, none⟩) l.length (l.length + 8), .slice (some ⟨b, off, none⟩) l.length cap] w fun e w' => e = .returned (.bool true) ∧ Only (· = g) w w' :=
 wholeInts_gen ⟨b, off, none⟩ b off cap g cap' l w (fun _ => rfl) hl hc hbg hr hm
theorem wholeInts_nil (v : Value) (w : World) : Calls Tryz.prog 28 #[v, .slice none 0 0] w fun e w' => e = .returned (.bool true) ∧ w' = w := by
 go_enter Tryz.func28, Tryz.ntmps28
 go_wp2
 go_ret
 exact ⟨rfl, rfl⟩
def evIns (x : Ev) : Ins := ⟨x.time, x.number, x.kind, x.entity⟩
def EvsIn (R : Nat → Prop) (w : World) (v : Value) (q : List Ev) : Prop :=
 (v = .slice none 0 0 ∧ q = []) ∨ ∃ b off cap, v = .slice (some ⟨b, off, none⟩) q.length cap ∧ q.length ≤ cap ∧ cap ≤ 9223372036854775807 ∧ R b ∧ CodeAt w b off (q.map evIns)
theorem EvsIn.mono {R R' : Nat → Prop} {w : World} {v : Value} {q : List Ev} (h : EvsIn R w v q) (hR : ∀ b, R b → R' b) : EvsIn R' w v q := by
 obtain h | ⟨b, off, cap, rfl, hl, hm, hb, hc⟩ := h
 ·exact .inl h
 ·exact .inr ⟨b, off, cap, rfl, hl, hm, hR b hb, hc⟩
theorem EvsIn.only {R S : Nat → Prop} {w w' : World} {v : Value} {q : List Ev} (h : EvsIn R w v q) (ho : Only S w w') (hR : ∀ b, R b → ¬ S b) : EvsIn R w' v q := by
 obtain h | ⟨b, off, cap, rfl, hl, hm, hb, hc⟩ := h
 ·exact .inl h
 ·exact .inr ⟨b, off, cap, rfl, hl, hm, hb, hc.only ho (hR b hb)⟩
theorem EvsIn.form {R : Nat → Prop} {w : World} {v : Value} {q : List Ev} (h : EvsIn R w v q) : ∃ sa sc, v = .slice sa q.length sc := by
 obtain ⟨rfl, rfl⟩ | ⟨b, off, cap, rfl, _⟩ := h
 ·exact ⟨_, _, rfl⟩
 ·exact ⟨_, _, rfl⟩
structure RefK (R : Nat → Prop) (w : World) (rb : Nat) (ents : Int) (ks : List (List Ins)) (draws : List Int) (taken clock next : Int) (regs : List Int) (q : List Ev) : Prop where
 body : ∃ kv dv rv qv, w.cell? ⟨rb, 0, none⟩ = some (.int .i64 ents) ∧ w.cell? ⟨rb, 1, none⟩ = some kv ∧ w.cell? ⟨rb, 2, none⟩ = some dv ∧ w.cell? ⟨rb, 3, none⟩ = some (.int .i64 taken) ∧ w.cell? ⟨rb, 4, none⟩ = some (.int .i64 clock) ∧
  w.cell? ⟨rb, 5, none⟩ = some (.int .i64 next) ∧ w.cell? ⟨rb, 6, none⟩ = some rv ∧ w.cell? ⟨rb, 7, none⟩ = some qv ∧ KindsIn R w kv ks ∧ IntsIn R w dv draws ∧ IntsIn R w rv regs ∧ EvsIn R w qv q
 room : Room w rb 8
def drawB' (n : Int) : Bool := inB n 0 1000000000
def drawsR (l : List Int) : Bool := decide (l.length ≤ 1000) && l.all drawB'
theorem rNew_model (ents : Int) (v dv : Value) (ks : List (List Ins)) (w : World) (hv : KindsV w.heap.size w v ks) (p : Nat × Nat) (hk : kindF ents ks = some p) :
  Calls Tryz.prog 27 #[.agg #[.int .i64 ents, v], dv] w
   fun e w' => e = .returned (.tuple #[.pointer none, .int .i64 2]) ∧ Below w.heap.size w w' := by
 have hV : checkV ents ks = .tuple #[.int .i64 2, .int .i64 p.1, .int .i64 p.2] := by simp [checkV, hk]
 have HV := hide hV
 clear hV hk
 go_enter Tryz.func27, Tryz.ntmps27
 go_wp2_with fail
 refine (rCheck_any ents v ks _ ((hv.below ((Below.refl _ _).alloc (Nat.le_refl _) _)).mono (by simp))).mono ?_
 rintro e w1 ⟨rfl, hb1⟩
 rw [HV.out]
 go_wp2
 go_ret2
 exact ⟨rfl, ((Below.refl _ _).alloc (Nat.le_refl _) _).trans (hb1.mono (by simp))⟩
theorem all_take {l : List Int} {k : Nat} (h : k < l.length) (ha : ∀ x ∈ l.take k, drawB' x = true) (hx : drawB' l[k] = true) : ∀ x ∈ l.take (k + 1), drawB' x = true := by
 intro x hm
 rw [List.take_succ_eq_append_getElem h] at hm
 rcases List.mem_append.1 hm with h1 | h1
 ·exact ha x h1
 ·simp at h1; subst h1; exact hx
theorem ints_replicate (n : Nat) : List.replicate n (Value.int .i64 0) = ints (List.replicate n 0) := by simp [ints]
theorem refK_new (X : World) (lo rb : Nat) (T : TypeId) (ents : Int) (kv dv rv : Value) (ks : List (List Ins)) (draws regs : List Int) (hrb : rb = X.heap.size) (hlo : lo ≤ X.heap.size)
  (hk : KindsIn (fun b => lo ≤ b ∧ b < X.heap.size) X kv ks) (hd : IntsIn (fun b => lo ≤ b ∧ b < X.heap.size) X dv draws) (hr : IntsIn (fun b => lo ≤ b ∧ b < X.heap.size) X rv regs) :
  RefK (fun b => lo ≤ b ∧ b < (X.alloc (.cells #[.int .i64 ents, kv, dv, .int .i64 0, .int .i64 0, .int .i64 1, rv, .slice none 0 0] T)).heap.size ∧ b ≠ rb) (X.alloc (.cells #[.int .i64 ents, kv, dv, .int .i64 0, .int .i64 0, .int .i64 1, rv, .slice none 0 0] T)) rb ents ks draws 0 0 1 regs [] := by
 subst hrb
 have hb := (Below.refl X.heap.size X).alloc (Nat.le_refl _) (.cells #[.int .i64 ents, kv, dv, .int .i64 0, .int .i64 0, .int .i64 1, rv, .slice none 0 0] T)
 have ho := Only.new (S := fun _ => False) hb
 have hat : ∀ i, (X.alloc (.cells #[.int .i64 ents, kv, dv, .int .i64 0, .int .i64 0, .int .i64 1, rv, .slice none 0 0] T)).cell? ⟨X.heap.size, i, none⟩ = _ := fun i => World.cell?_alloc_at _ _ _ _ rfl
 have hR : ∀ b, lo ≤ b ∧ b < X.heap.size → lo ≤ b ∧ b < (X.alloc (.cells #[.int .i64 ents, kv, dv, .int .i64 0, .int .i64 0, .int .i64 1, rv, .slice none 0 0] T)).heap.size ∧ b ≠ X.heap.size := by intro b hb; simp; omega
 refine ⟨⟨kv, dv, rv, .slice none 0 0, (hat 0).trans rfl, (hat 1).trans rfl, (hat 2).trans rfl, (hat 3).trans rfl, (hat 4).trans rfl, (hat 5).trans rfl, (hat 6).trans rfl, (hat 7).trans rfl, (hk.only ho (by simp)).mono hR, (hd.only ho (by simp)).mono hR, (hr.only ho (by simp)).mono hR, (.inl ⟨rfl, rfl⟩)⟩, ?_⟩
 intro j hj
 rw [hat, World.frozen?_alloc_at _ _ _ _ rfl]
 have : j = 0 ∨ j = 1 ∨ j = 2 ∨ j = 3 ∨ j = 4 ∨ j = 5 ∨ j = 6 ∨ j = 7 := by omega
 rcases this with rfl | rfl | rfl | rfl | rfl | rfl | rfl | rfl <;> exact ⟨rfl, rfl⟩
theorem refK_endA {w wr w3 : World} {ents : Int} {kv : Value} {dv : Value} {ks : List (List Ins)} {draws : List Int} (hbb : Below w.heap.size w wr) (hb3 : Below wr.heap.size wr w3)
  (hK3 : KindsIn (fun b => wr.heap.size ≤ b ∧ b < w3.heap.size) w3 kv ks) (hd : IntsIn (fun b => w.heap.size ≤ b ∧ b < wr.heap.size) wr dv draws) (m : Nat) (T : TypeId) (hm : m ≤ 17592186044416) :
  Below w.heap.size w ((w3.alloc (.cells (madeCells #[.int .i64 0] m) 3)).alloc (.cells #[.int .i64 ents, kv, dv, .int .i64 0, .int .i64 0, .int .i64 1, .slice (some ⟨w3.heap.size, 0, none⟩) m m, .slice none 0 0] T)) ∧ w.heap.size ≤ w3.heap.size + 1 ∧
  w3.heap.size + 1 < ((w3.alloc (.cells (madeCells #[.int .i64 0] m) 3)).alloc (.cells #[.int .i64 ents, kv, dv, .int .i64 0, .int .i64 0, .int .i64 1, .slice (some ⟨w3.heap.size, 0, none⟩) m m, .slice none 0 0] T)).heap.size ∧
  RefK (fun b => w.heap.size ≤ b ∧ b < ((w3.alloc (.cells (madeCells #[.int .i64 0] m) 3)).alloc (.cells #[.int .i64 ents, kv, dv, .int .i64 0, .int .i64 0, .int .i64 1, .slice (some ⟨w3.heap.size, 0, none⟩) m m, .slice none 0 0] T)).heap.size ∧ b ≠ w3.heap.size + 1)
   ((w3.alloc (.cells (madeCells #[.int .i64 0] m) 3)).alloc (.cells #[.int .i64 ents, kv, dv, .int .i64 0, .int .i64 0, .int .i64 1, .slice (some ⟨w3.heap.size, 0, none⟩) m m, .slice none 0 0] T)) (w3.heap.size + 1) ents ks draws 0 0 1 (List.replicate m 0) [] := by
 obtain ⟨X, hX⟩ : ∃ X, X = w3.alloc (.cells (madeCells #[.int .i64 0] m) 3) := ⟨_, rfl⟩
 have hXs : X.heap.size = w3.heap.size + 1 := by rw [hX]; simp
 have hXb : Below w3.heap.size w3 X := by rw [hX]; exact (Below.refl _ _).alloc (Nat.le_refl _) _
 have hz1 := hbb.size
 have hz3 := hb3.size
 have hr : IntsIn (fun b => w.heap.size ≤ b ∧ b < X.heap.size) X (.slice (some ⟨w3.heap.size, 0, none⟩) m m) (List.replicate m 0) := by
  refine ⟨by simpa using hm, .inr ⟨w3.heap.size, 0, m, by simp, by omega, ?_⟩⟩
  rw [hX, ← ints_replicate]
  exact row_made w3 _ m _
 rw [← hX]
 refine ⟨hbb.trans ((hb3.mono (by omega)).trans ((hXb.mono (by omega)).trans ((Below.refl _ _).alloc (by omega) _))), by omega, by simp [hXs], ?_⟩
 refine refK_new X w.heap.size _ T ents kv dv _ ks draws _ hXs.symm (by omega) ?_ ?_ hr
 ·exact (hK3.only (Only.new (S := fun _ => False) hXb) (by simp)).mono (by intro b hb; omega)
 ·exact ((hd.only (Only.new (S := fun _ => False) hb3) (by simp)).only (Only.new (S := fun _ => False) hXb) (by simp)).mono (by intro b hb; omega)
theorem refK_endB {w wr w3 : World} {ents : Int} {kv : Value} {dv : Value} {ks : List (List Ins)} {draws : List Int} {m : Nat} (hbb : Below w.heap.size w wr) (hb3 : Below (wr.heap.size + 1) (wr.alloc (.cells (madeCells #[.int .i64 0] m) 3)) w3)
  (hK3 : KindsIn (fun b => wr.heap.size + 1 ≤ b ∧ b < w3.heap.size) w3 kv ks) (hd : IntsIn (fun b => w.heap.size ≤ b ∧ b < wr.heap.size) wr dv draws) (T : TypeId) (hm : m ≤ 17592186044416) :
  Below w.heap.size w (w3.alloc (.cells #[.int .i64 ents, kv, dv, .int .i64 0, .int .i64 0, .int .i64 1, .slice (some ⟨wr.heap.size, 0, none⟩) m m, .slice none 0 0] T)) ∧ w.heap.size ≤ w3.heap.size ∧
  w3.heap.size < (w3.alloc (.cells #[.int .i64 ents, kv, dv, .int .i64 0, .int .i64 0, .int .i64 1, .slice (some ⟨wr.heap.size, 0, none⟩) m m, .slice none 0 0] T)).heap.size ∧
  RefK (fun b => w.heap.size ≤ b ∧ b < (w3.alloc (.cells #[.int .i64 ents, kv, dv, .int .i64 0, .int .i64 0, .int .i64 1, .slice (some ⟨wr.heap.size, 0, none⟩) m m, .slice none 0 0] T)).heap.size ∧ b ≠ w3.heap.size)
   (w3.alloc (.cells #[.int .i64 ents, kv, dv, .int .i64 0, .int .i64 0, .int .i64 1, .slice (some ⟨wr.heap.size, 0, none⟩) m m, .slice none 0 0] T)) w3.heap.size ents ks draws 0 0 1 (List.replicate m 0) [] := by
 have hz1 := hbb.size
 have hz3 := hb3.size
 rw [World.size_alloc] at hz3
 have hb0 := (Below.refl wr.heap.size wr).alloc (Nat.le_refl _) (.cells (madeCells #[.int .i64 0] m) 3)
 have hr : IntsIn (fun b => w.heap.size ≤ b ∧ b < w3.heap.size) w3 (.slice (some ⟨wr.heap.size, 0, none⟩) m m) (List.replicate m 0) := by
  refine ⟨by simpa using hm, .inr ⟨wr.heap.size, 0, m, by simp, by omega, ?_⟩⟩
  rw [← ints_replicate]
  exact (row_made wr _ m _).below hb3 (by omega)
 refine ⟨hbb.trans ((hb0.mono (by omega)).trans ((hb3.mono (by omega)).trans ((Below.refl _ _).alloc (by omega) _))), by omega, by simp, ?_⟩
 refine refK_new w3 w.heap.size _ T ents kv dv _ ks draws _ rfl (by omega) ?_ ?_ hr
 ·exact hK3.mono (by intro b hb; omega)
 ·exact ((hd.only (Only.new (S := fun _ => False) hb0) (by simp)).only (Only.ofBelow (S := fun k => wr.heap.size + 1 ≤ k) hb3 (fun k h _ => h)) (by intro b hb; omega)).mono (by intro b hb; omega)
theorem ints_take_succ {l : List Int} {k : Nat} (h : k < l.length) : ints (l.take k) ++ [.int .i64 l[k]] = ints (l.take (k + 1)) := by
 rw [List.take_succ_eq_append_getElem h, ints, ints, List.map_append]; rfl
theorem rNew_rest (ents : Int) (b off cap : Nat) (dv : Value) (ks : List (List Ins)) (draws : List Int) (w : World) (hl : ks.length ≤ 5864062014805) (hbw : b < w.heap.size) (hK : KindsAt w.heap.size w b off ks) (hd : IntsIn (· < w.heap.size) w dv draws) (hk : kindF ents ks = none) :
  Calls Tryz.prog 27 #[.agg #[.int .i64 ents, .slice (some ⟨b, off, none⟩) ks.length cap], dv] w
   fun e w' => (drawsR draws = false ∧ e = .returned (.tuple #[.pointer none, .int .i64 1]) ∧ Below w.heap.size w w') ∨ (drawsR draws = true ∧ ∃ rb, e = .returned (.tuple #[.pointer (some ⟨rb, 0, none⟩), .int .i64 0]) ∧ Below w.heap.size w w' ∧ w.heap.size ≤ rb ∧ rb < w'.heap.size ∧
    RefK (fun b => w.heap.size ≤ b ∧ b < w'.heap.size ∧ b ≠ rb) w' rb ents ks draws 0 0 1 (List.replicate (ents * 4).toNat 0) []) := by
 have hents : 1 ≤ ents ∧ ents ≤ 8 := by
  unfold kindF at hk
  split at hk
  ·simp at hk
  ·rename_i h; simp [inB] at h; omega
 obtain ⟨he1, he2⟩ := hents
 have HV : Hid (checkV ents ks = .tuple #[.int .i64 0, .int .i64 0, .int .i64 0]) := by show _ = _; simp [checkV, hk]
 clear hk
 have hmk : ∀ W : World, (Instr.makeSlice 24 (.int .i64 (ents * 4)) (.int .i64 (ents * 4))).run Tryz.prog W = .ok (.slice (some ⟨W.heap.size, 0, none⟩) (ents * 4).toNat (ents * 4).toNat) (W.alloc (.cells (madeCells #[.int .i64 0] (ents * 4).toNat) 3)) := by
  intro W
  obtain ⟨i, hi, hz, hsz, hby⟩ := info_parts Tryz.info3
  have := run_make (P := Tryz.prog) W 24 3 i (.int .i64 0) Tryz.underlying24 hi hz .i64 .i64 (ents * 4) (ents * 4) (by omega) (Int.le_refl _) (by rw [hby]; omega) (by omega)
  rw [hsz] at this
  simp only [Nat.mul_one] at this
  exact this
 have hwrap : IntKind.i64.wrap (ents * 4) = ents * 4 := by rw [IntKind.wrap_i64]; omega
 obtain ⟨da, dc, rfl⟩ := hd.form
 go_enter Tryz.func27, Tryz.ntmps27
 go_wp2_with fail
 have hv : KindsV w.heap.size w (.slice (some ⟨b, off, none⟩) ks.length cap) ks := ⟨hl, .inr (.inl ⟨b, off, cap, rfl, hbw, hK⟩)⟩
 refine (rCheck_any ents _ ks _ ((hv.below ((Below.refl _ _).alloc (Nat.le_refl _) _)).mono (by simp))).mono ?_
 rintro e w1 ⟨rfl, hb1⟩
 rw [HV.out]
 have hb2 : Below w.heap.size w w1 := ((Below.refl _ _).alloc (Nat.le_refl _) _).trans (hb1.mono (by simp))
 have hm0 : w1.cell? ⟨w.heap.size, 0, none⟩ = some (.int .i64 ents) := below_at hb1 (by simp [go_sem]) (by simp)
 have hm1 : w1.cell? ⟨w.heap.size, 1, none⟩ = some (.slice (some ⟨b, off, none⟩) ks.length cap) := below_at hb1 (by simp [go_sem]) (by simp)
 have hz1 : w.heap.size < w1.heap.size := by have := hb1.size; simp at this; omega
 clear hb1
 by_cases hlong : draws.length ≤ 1000
 ·have h1000 : decide (1000 < (draws.length : Int)) = false := by simp; omega
  have HD : Hid (drawsR draws = draws.all drawB') := by show _ = _; simp [drawsR, hlong]
  go_wp2
  go_loopw [9, 10, 11] (fun lv i _ wr => ∃ (k : Nat) (oa : Option Addr) (oc : Nat), k ≤ draws.length ∧ i = .int .i64 k ∧ lv = .slice oa k oc ∧ Below w1.heap.size w1 wr ∧ Hid (wr.ownsRow w1.heap.size 3 1 (.slice oa k oc) k (ints (draws.take k))) ∧ Hid (∀ x ∈ draws.take k, drawB' x = true)) (fun _ i _ _ => draws.length - (intOf i).toNat)
  case atStart => exact ⟨0, none, 0, by omega, rfl, rfl, Below.refl _ _, World.ownsRow_nil _ _ _ _, by intro x hx; simp at hx⟩
  case round =>
   obtain ⟨k, oa, oc, hkl, rfl, rfl, hbel, hown, hall⟩ := hrel
   by_cases hlt : k < draws.length
   ·obtain ⟨_, ⟨_, h0⟩ | ⟨db, doff, dcap, hde, hdb, hdr⟩⟩ := hd
    ·rw [h0] at hlt; simp at hlt
    ·simp only [Value.slice.injEq] at hde
     obtain ⟨rfl, -, rfl⟩ := hde
     have hx : wr.cell? ⟨db, doff + k, none⟩ = some (.int .i64 draws[k]) := below_at hbel (below_at hb2 (hdr k _ (by simp [ints, hlt])) hdb) (by omega)
     rcases hm : drawB' draws[k] with _ | _
     ·have hm' : inB draws[k] 0 1000000000 = false := hm
      have HN : Hid (drawsR draws = false) := by
       show _ = _
       rw [HD.out]; simp only [List.all_eq_false]
       exact ⟨draws[k], by simp, by simp [hm]⟩
      clear hm
      go_wp2_with (go_at_call 57; refine (in_any _ _ _ _).mono ?_; rintro e w' ⟨rfl, rfl⟩)
      go_ret2
      exact .inl ⟨HN.out, rfl, hb2.trans (hbel.mono (by omega))⟩
     ·have hm' : inB draws[k] 0 1000000000 = true := hm
      have Hm := hide hm
      clear hm
      go_wp2_with (first | (go_at_call 57; refine (in_any _ _ _ _).mono ?_; rintro e w' ⟨rfl, rfl⟩) | (at_builtin; refine wpList_append_src rfl (.tmp 37) (.tmp 42) 24 rfl w1.heap.size 3 (.int .i64 0) 1 8 Tryz.underlying24 Tryz.info3 rfl (by omega) _ k (ints (draws.take k)) rfl (hown.out.alloc _) _ 1 [.int .i64 draws[k]] rfl (.inr (.inl ⟨_, 0, _, rfl, ?_⟩)) rfl (by simp [Value.oneCell']) (by omega) (by omega) (by have := hbel.size; simp; omega) ?_))
      ·intro j u hu
       have : j = 0 := by have := (List.getElem?_eq_some_iff.1 hu).1; simp at this; omega
       subst this
       simp at hu; subst hu
       simp [go_sem]
      intro v2 w2 hown2 hgr2 hwh2
      obtain ⟨sa2, sc2, rfl⟩ := owns_form hown2.out
      have hb3 : Below w1.heap.size w1 w2 := (hbel.alloc hbel.size _).grown hgr2.out (by have := hbel.size; simp; omega) (fun b hb => (hown.out.lt b hb).1)
      have hints : ints (draws.take k) ++ [.int .i64 draws[k]] = ints (draws.take (k + 1)) := ints_take_succ hlt
      rw [hints] at hown2
      clear hints
      go_wp2
      go_roundw
      case rel => exact ⟨k + 1, sa2, sc2, by omega, by go_num, rfl, hb3, hown2, all_take hlt hall.out Hm.out⟩
      case measure => simp [intOf]; omega
   ·have hk' : k = draws.length := by omega
    subst hk'
    rw [List.take_length] at hown hall
    have HT : Hid (drawsR draws = true) := by show _ = _; rw [HD.out]; simpa using hall.out
    have hdr := owns_ints hown.out hd.1
    have Hdr := hide hdr
    have gm0 := below_at hbel hm0 hz1
    have gm1 := below_at hbel hm1 hz1
    have hbb := hb2.trans (hbel.mono (by omega))
    have hzr : w.heap.size < wr.heap.size := by have := hbel.size; omega
    have HK : Hid (∀ W, Below wr.heap.size wr W → KindsAt W.heap.size W b off ks) := by
     intro W hW
     have := hW.size
     exact (hK.below (hbb.trans (hW.mono (by omega))) hbw (Nat.le_refl _)).mono (by omega)
    clear hm0 hm1 hdr hall
    go_wp2
    go_region_with (go_at_call 63; refine (rModel_any ents b off cap ks _ hl (by simp; omega) (HK.out _ (by first | exact (Below.refl _ _).drew | exact ((Below.refl _ _).alloc (Nat.le_refl _) _).drew | exact ((Below.refl _ _).drew).alloc (Nat.le_refl _) _))).mono ?_; rintro e w3 ⟨sa, sc, rfl, hb3, hK3⟩; have q0 : w3.cell? ⟨w.heap.size, 0, none⟩ = some (.int .i64 ents) := below_at hb3 (by first | exact gm0 | exact below_at ((Below.refl _ _).alloc (Nat.le_refl _) _) gm0 hzr) (by simp; omega); have q1 : w3.cell? ⟨w.heap.size, 1, none⟩ = some (.slice (some ⟨b, off, none⟩) ks.length cap) := below_at hb3 (by first | exact gm1 | exact below_at ((Below.refl _ _).alloc (Nat.le_refl _) _) gm1 hzr) (by simp; omega))
    all_goals
     go_wp2
     go_ret2
     first
      | (have hb3' : Below wr.heap.size wr w3 := (Below.refl _ _).drew.trans hb3
         exact .inr ⟨HT.out, w3.heap.size + 1, by simp [Act.put], refK_endA hbb hb3' hK3 (Hdr.out.mono (by intro b hb; omega)) _ _ (by omega)⟩)
      | (have hb3' : Below (wr.heap.size + 1) (wr.alloc (.cells (madeCells #[.int .i64 0] (ents * 4).toNat) 3)) w3 := (Below.refl _ _).drew.trans (by simpa using hb3)
         exact .inr ⟨HT.out, w3.heap.size, by simp [Act.put], refK_endB hbb hb3' (by simpa using hK3) (Hdr.out.mono (by intro b hb; omega)) _ (by omega)⟩)
 ·have h1000 : decide (1000 < (draws.length : Int)) = true := by simp; omega
  have HD : Hid (drawsR draws = false) := by show _ = _; simp [drawsR, hlong]
  go_wp2
  go_ret2
  exact .inl ⟨HD.out, rfl, hb2⟩
theorem rNow_any {R : Nat → Prop} (rb : Nat) (ents : Int) (ks : List (List Ins)) (draws : List Int) (taken clock next : Int) (regs : List Int) (q : List Ev) (w : World) (h : RefK R w rb ents ks draws taken clock next regs q) (ht : 0 ≤ taken) (ht' : taken ≤ 1000) :
  Calls Tryz.prog 49 #[.pointer (some ⟨rb, 0, none⟩)] w fun e w' => e = .returned (.tuple #[.int .i64 clock, .int .i64 q.length, .int .i64 (draws.length - taken)]) ∧ Below w.heap.size w w' := by
 obtain ⟨⟨kv, dv, rv, qv, h0, h1, h2, h3, h4, h5, h6, h7, hk, hd, hr, hq⟩, hroom⟩ := h
 obtain ⟨da, dc, rfl⟩ := hd.form
 obtain ⟨qa, qc, rfl⟩ := hq.form
 have hdl := hd.1
 clear h0 h1 h5 h6 hk hd hr hq hroom
 have hw : IntKind.i64.wrap ((draws.length : Int) - taken) = (draws.length : Int) - taken := by rw [IntKind.wrap_i64]; omega
 go_enter Tryz.func49, Tryz.ntmps49
 go_wp2
 go_quiet (fail)
 go_wp2
 go_ret3
 exact ⟨by simp [hw], below_drewN (Below.refl _ _) nq⟩
theorem room_any {R : Nat → Prop} (rb : Nat) (ents : Int) (ks : List (List Ins)) (draws : List Int) (taken clock next : Int) (regs : List Int) (q : List Ev) (w : World) (h : RefK R w rb ents ks draws taken clock next regs q) :
  Calls Tryz.prog 87 #[.pointer (some ⟨rb, 0, none⟩)] w fun e w' => e = .returned (.bool (decide (q.length < 16) && decide (next < 1000000000))) ∧ w' = w := by
 obtain ⟨⟨kv, dv, rv, qv, h0, h1, h2, h3, h4, h5, h6, h7, hk, hd, hr, hq⟩, hroom⟩ := h
 obtain ⟨qa, qc, rfl⟩ := hq.form
 clear h0 h1 h2 h3 h4 h6 hk hd hr hroom
 by_cases h16 : q.length < 16
 ·have hd : decide ((q.length : Int) < 16) = true := by simp; omega
  go_enter Tryz.func87, Tryz.ntmps87
  go_wp2
  go_ret
  exact ⟨by simp [h16], rfl⟩
 ·have hd : decide ((q.length : Int) < 16) = false := by simp; omega
  go_enter Tryz.func87, Tryz.ntmps87
  go_wp2
  go_ret
  exact ⟨by simp [h16], rfl⟩
theorem rReg_any {R : Nat → Prop} (rb : Nat) (ents : Int) (ks : List (List Ins)) (draws : List Int) (taken clock next : Int) (regs : List Int) (q : List Ev) (ent r : Int) (w : World) (h : RefK R w rb ents ks draws taken clock next regs q) (he : 1 ≤ ents) (he' : ents ≤ 8) (hrl : (regs.length : Int) = ents * 4) :
  Calls Tryz.prog 51 #[.pointer (some ⟨rb, 0, none⟩), .int .i64 ent, .int .i64 r] w fun e w' => w' = w ∧
   (((inB ent 0 (ents - 1) && inB r 0 3) = false ∧ e = .returned (.tuple #[.int .i64 0, .int .i64 1])) ∨ ((inB ent 0 (ents - 1) && inB r 0 3) = true ∧ ∃ x, regs[(ent * 4 + r).toNat]? = some x ∧ e = .returned (.tuple #[.int .i64 x, .int .i64 0]))) := by
 obtain ⟨⟨kv, dv, rv, qv, h0, h1, h2, h3, h4, h5, h6, h7, hk, hd, hr, hq⟩, hroom⟩ := h
 clear h1 h2 h3 h4 h5 h7 hk hd hq hroom
 rcases h1' : inB ent 0 (ents - 1) with _ | _
 ·go_enter Tryz.func51, Tryz.ntmps51
  go_wp2_with (first | (go_at_call 57; refine (in_any _ _ _ _).mono ?_; rintro e w1 ⟨rfl, rfl⟩; rw [h1']) | (go_at_call 95; refine (register_any _ _).mono ?_; rintro e w1 ⟨rfl, rfl⟩))
  go_ret2
  exact ⟨rfl, .inl ⟨rfl, by simp⟩⟩
 ·rcases h2' : inB r 0 3 with _ | _
  ·go_enter Tryz.func51, Tryz.ntmps51
   go_wp2_with (first | (go_at_call 57; refine (in_any _ _ _ _).mono ?_; rintro e w1 ⟨rfl, rfl⟩; rw [h1']) | (go_at_call 95; refine (register_any _ _).mono ?_; rintro e w1 ⟨rfl, rfl⟩; rw [h2']))
   go_ret2
   exact ⟨rfl, .inl ⟨rfl, by simp⟩⟩
  ·have b1 : 0 ≤ ent ∧ ent ≤ ents - 1 := by simpa [inB] using h1'
   have b2 : 0 ≤ r ∧ r ≤ 3 := by simpa [inB] using h2'
   obtain ⟨b11, b12⟩ := b1
   obtain ⟨b21, b22⟩ := b2
   obtain ⟨en, rfl⟩ := Int.eq_ofNat_of_zero_le b11
   obtain ⟨rn, rfl⟩ := Int.eq_ofNat_of_zero_le b21
   have hlt : en * 4 + rn < regs.length := by omega
   obtain ⟨_, ⟨_, h0'⟩ | ⟨b, off, cap, rfl, hb, hrow⟩⟩ := hr
   ·rw [h0'] at hlt; simp at hlt
   ·have hcell := hrow (en * 4 + rn) (.int .i64 regs[en * 4 + rn]) (by simp [ints, hlt])
    have HX : Hid (regs[((en : Int) * 4 + rn).toNat]? = some regs[en * 4 + rn]) := by
     show _ = _
     rw [show ((en : Int) * 4 + rn).toNat = en * 4 + rn by omega]; simp [hlt]
    generalize regs[en * 4 + rn] = x at hcell HX
    go_enter Tryz.func51, Tryz.ntmps51
    go_wp2_with (first | (go_at_call 57; refine (in_any _ _ _ _).mono ?_; rintro e w1 ⟨rfl, rfl⟩; rw [h1']) | (go_at_call 95; refine (register_any _ _).mono ?_; rintro e w1 ⟨rfl, rfl⟩; rw [h2']))
    go_ret2
    exact ⟨rfl, .inr ⟨rfl, x, HX.out, by simp⟩⟩
end Go.Proofs.YtndlmgocldckfaaGreat
