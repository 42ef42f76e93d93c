import Derived.Test.YtpkkjgcpmnoalaaLent
import Derived.Laws.StructEq
import Derived.BigQuiet
import Derived.Deep.QuietTactic
namespace Go.Proofs.Ytpkkjgcpmnoalaa
open Go.RowKit
set_option linter.unusedVariables false
set_option linter.unusedSimpArgs false
attribute [local go_sem] eqlNilI eqlNilC eqlNilK

theorem Try.info59 : (Try.prog.info? 59).map (fun i => (i.zero, i.size, i.bytes)) = some (some (.agg #[.int .i64 0, .int .i64 0, .int .i64 0, .int .i64 0]), 4, 32) := by kernel_rfl
theorem Try.size59 : (Try.prog.info? 59).map (·.size) = some 4 := by kernel_rfl

def cells4 (x : Ins) : List Value := [.int .i64 x.op, .int .i64 x.a, .int .i64 x.b, .int .i64 x.c]
def flat (l : List Ins) : List Value := l.flatMap cells4
theorem flat_length (l : List Ins) : (flat l).length = l.length * 4 := by
  induction l with
  | nil => rfl
  | cons x l ih => simp [flat, cells4] at ih ⊢; omega
theorem flat_get : ∀ (l : List Ins) (i r : Nat), r < 4 → (flat l)[i * 4 + r]? = l[i]?.bind fun x => (cells4 x)[r]?
  | [], i, r, _ => by simp [flat]
  | x :: l, 0, r, h => by
    have : r = 0 ∨ r = 1 ∨ r = 2 ∨ r = 3 := by omega
    rcases this with rfl | rfl | rfl | rfl <;> simp [flat, cells4]
  | x :: l, i + 1, r, h => by
    have ih := flat_get l i r h
    have e : (i + 1) * 4 + r = (i * 4 + r) + 1 + 1 + 1 + 1 := by omega
    rw [e]
    simpa [flat, cells4] using ih
theorem CodeAt.row {w : World} {b off : Nat} {l : List Ins} (h : CodeAt w b off l) : RowAt w b off (flat l) := by
  intro j v hv
  have e : j = (j / 4) * 4 + j % 4 := by omega
  rw [e, flat_get l _ _ (by omega)] at hv
  obtain ⟨x, hx, hr⟩ := Option.bind_eq_some_iff.1 hv
  obtain ⟨h0, h1, h2, h3⟩ := h _ x hx
  have : j % 4 = 0 ∨ j % 4 = 1 ∨ j % 4 = 2 ∨ j % 4 = 3 := by omega
  rcases this with h | h | h | h <;> rw [h] at hr <;> simp [cells4] at hr <;> subst hr
  · rw [← h0]; congr 2; omega
  · rw [← h1]; congr 2; omega
  · rw [← h2]; congr 2; omega
  · rw [← h3]; congr 2; omega
theorem RowAt.code {w : World} {b off : Nat} {l : List Ins} (h : RowAt w b off (flat l)) : CodeAt w b off l := by
  intro i x hx
  have g := fun r (hr : r < 4) (v : Value) (hv : (cells4 x)[r]? = some v) => h (i * 4 + r) v (by rw [flat_get l i r hr, hx]; exact hv)
  exact ⟨g 0 (by omega) _ rfl, by simpa [Nat.add_assoc] using g 1 (by omega) _ rfl, by simpa [Nat.add_assoc] using g 2 (by omega) _ rfl, by simpa [Nat.add_assoc] using g 3 (by omega) _ rfl⟩

/-- From place k on a row of instructions lies so. -/
def CodeFrom (w : World) (b off k : Nat) (l : List Ins) : Prop :=
  ∀ i x, k ≤ i → l[i]? = some x → w.cell? ⟨b, off + i * 4, none⟩ = some (.int .i64 x.op) ∧ w.cell? ⟨b, off + i * 4 + 1, none⟩ = some (.int .i64 x.a) ∧
    w.cell? ⟨b, off + i * 4 + 2, none⟩ = some (.int .i64 x.b) ∧ w.cell? ⟨b, off + i * 4 + 3, none⟩ = some (.int .i64 x.c)

def set4 (w : World) (b o : Nat) (x : Ins) : World :=
  (((w.setCell ⟨b, o, none⟩ (.int .i64 x.op)).setCell ⟨b, o + 1, none⟩ (.int .i64 x.a)).setCell ⟨b, o + 2, none⟩ (.int .i64 x.b)).setCell ⟨b, o + 3, none⟩ (.int .i64 x.c)
theorem set4_other (w : World) (b o : Nat) (x : Ins) (b' o' : Nat) (h : b' ≠ b ∨ o' < o ∨ o + 4 ≤ o') : (set4 w b o x).cell? ⟨b', o', none⟩ = w.cell? ⟨b', o', none⟩ := by
  unfold set4
  rw [World.cell?_setCell_other _ _ _ _ (by simp; omega), World.cell?_setCell_other _ _ _ _ (by simp; omega), World.cell?_setCell_other _ _ _ _ (by simp; omega), World.cell?_setCell_other _ _ _ _ (by simp; omega)]
theorem Room.set4 {w : World} {b n : Nat} (h : Room w b n) (b' o : Nat) (x : Ins) : Room (set4 w b' o x) b n := (((h.setCell _ _).setCell _ _).setCell _ _).setCell _ _
theorem Only.set4 {S : Nat → Prop} {a w : World} (h : Only S a w) {b : Nat} (hb : S b) (o : Nat) (x : Ins) : Only S a (set4 w b o x) := (((h.setCell hb _).setCell hb _).setCell hb _).setCell hb _
theorem Below.set4 {B : Nat} {a w : World} (h : Below B a w) {b : Nat} (hb : B ≤ b) (o : Nat) (x : Ins) : Below B a (set4 w b o x) := (((h.setCell hb _).setCell hb _).setCell hb _).setCell hb _
theorem set4_size (w : World) (b o : Nat) (x : Ins) : (set4 w b o x).heap.size = w.heap.size := by simp [set4, World.setCell]
theorem set4_same (w : World) (b o n : Nat) (x : Ins) (h : Room w b n) (ho : o + 4 ≤ n) :
    (set4 w b o x).cell? ⟨b, o, none⟩ = some (.int .i64 x.op) ∧ (set4 w b o x).cell? ⟨b, o + 1, none⟩ = some (.int .i64 x.a) ∧
    (set4 w b o x).cell? ⟨b, o + 2, none⟩ = some (.int .i64 x.b) ∧ (set4 w b o x).cell? ⟨b, o + 3, none⟩ = some (.int .i64 x.c) := by
  refine ⟨?_, ?_, ?_, ?_⟩
  · unfold set4
    rw [World.cell?_setCell_other _ _ _ _ (by simp), World.cell?_setCell_other _ _ _ _ (by simp), World.cell?_setCell_other _ _ _ _ (by simp)]
    exact World.cell?_setCell_same' _ _ _ (h o (by omega)).1
  · unfold set4
    rw [World.cell?_setCell_other _ _ _ _ (by simp), World.cell?_setCell_other _ _ _ _ (by simp)]
    exact World.cell?_setCell_same' _ _ _ ((h.setCell _ _) (o + 1) (by omega)).1
  · unfold set4
    rw [World.cell?_setCell_other _ _ _ _ (by simp)]
    exact World.cell?_setCell_same' _ _ _ (((h.setCell _ _).setCell _ _) (o + 2) (by omega)).1
  · unfold set4
    exact World.cell?_setCell_same' _ _ _ ((((h.setCell _ _).setCell _ _).setCell _ _) (o + 3) (by omega)).1
theorem CodeAt.snoc {w : World} {b n k : Nat} {L : List Ins} {x : Ins} (h : CodeAt w b 0 (L.take k)) (hx : L[k]? = some x) (hr : Room w b n) (hn : k * 4 + 4 ≤ n) : CodeAt (set4 w b (k * 4) x) b 0 (L.take (k + 1)) := by
  intro i y hy
  by_cases hi : i = k
  · subst hi
    rw [List.getElem?_take, if_pos (by omega), hx] at hy
    cases hy
    simpa using set4_same w b (i * 4) n x hr hn
  · have hlt : i < k + 1 := by
      have := (List.getElem?_eq_some_iff.1 hy).1
      simp at this; omega
    rw [List.getElem?_take, if_pos (by omega)] at hy
    obtain ⟨h0, h1, h2, h3⟩ := h i y (by rw [List.getElem?_take, if_pos (by omega)]; exact hy)
    refine ⟨?_, ?_, ?_, ?_⟩ <;> (rw [set4_other _ _ _ _ _ _ (by omega)]; assumption)
theorem CodeFrom.next {w : World} {b k : Nat} {L : List Ins} (h : CodeFrom w b 0 k L) (x : Ins) : CodeFrom (set4 w b (k * 4) x) b 0 (k + 1) L := by
  intro i y hi hy
  obtain ⟨h0, h1, h2, h3⟩ := h i y (by omega) hy
  refine ⟨?_, ?_, ?_, ?_⟩ <;> (rw [set4_other _ _ _ _ _ _ (by omega)]; assumption)

/-- What is lent: the instructions, and eight of number 77. -/
def lentL (l : List Ins) : List Ins := l ++ List.replicate 8 ⟨77, 0, 0, 0⟩
theorem lentL_room (l : List Ins) (k : Nat) (h1 : l.length ≤ k) (h2 : k < l.length + 8) : (lentL l)[k]? = some ⟨77, 0, 0, 0⟩ := by
  rw [lentL, List.getElem?_append_right h1, List.getElem?_replicate, if_pos (by omega)]
theorem lentL_elem (l : List Ins) (k : Nat) (h : k < l.length) : (lentL l)[k]? = some l[k] := by
  rw [lentL, List.getElem?_append_left h]; simp [h]
theorem lentL_length (l : List Ins) : (lentL l).length = l.length + 8 := by simp [lentL]

set_option maxHeartbeats 400000 in
theorem lentCode_nil (w : World) : Calls Try.prog 51 #[.slice none 0 0] w fun e w' => e = .returned (.slice none 0 0) ∧ w' = w := by
  go_enter Try.func51, Try.ntmps51
  go_wp2
  go_ret
  exact ⟨rfl, rfl⟩

set_option maxRecDepth 100000 in
set_option maxHeartbeats 400000 in
theorem lentCode_at (ad : Addr) (cap : Nat) (l : List Ins) (w : World) (hl : l.length ≤ 4398046511104) (hc : ∀ j v, (flat l)[j]? = some v → w.cell? (ad.add j) = some v) :
    Calls Try.prog 51 #[.slice (some ad) l.length cap] w fun e w' => ∃ g, w.heap.size ≤ g ∧ g < w'.heap.size ∧ e = .returned (.slice (some ⟨g, 0, none⟩) l.length (l.length + 8)) ∧
      Below w.heap.size w w' ∧ CodeAt w' g 0 (lentL l) ∧ Room w' g ((l.length + 8) * 4) := by
  go_enter Try.func51, Try.ntmps51
  go_wp2_with (first
    | (at_make; refine wpList_make_alloc _ rfl _ _ 60 rfl 59 (.agg #[.int .i64 0, .int .i64 0, .int .i64 0, .int .i64 0]) 4 32 Try.underlying60 Try.info59 _ _ _ _ (l.length + 8) rfl rfl (by simp) (by simp) (by omega) (by omega) ?_)
    | (refine wpList_copy_cells rfl (.tmp 13) (.tmp 14) 60 60 rfl 59 Try.underlying60 4 Try.size59 w.heap.size _ _ _ _ _ rfl rfl (by simp) _ 59 (heap_new _ _) (flat l) (flat_length l) ?_ ?_ ?_ ?_))
  case refine_1 => intro j v hv; exact (((Below.refl _ _).alloc (Nat.le_refl _) _).cell (lt_of_cellA (hc j v hv))).trans (hc j v hv)
  case refine_2 => simp [flat_length, size_madeCells]; omega
  case refine_3 => intro v hv; simp [flat, cells4] at hv; obtain ⟨x, _, rfl | rfl | rfl | rfl⟩ := hv <;> rfl
  intro w1 hon hrow hroom hsz
  rw [size_madeCells] at hroom
  have hb1 : Below w.heap.size w w1 := ((Below.refl _ _).alloc (Nat.le_refl _) _).trans (hon.below (by simp) (fun k hk => by omega))
  have Hlen := hide (lentL_length l)
  clear hon
  have hz : w.heap.size < w1.heap.size := by rw [hsz]; simp
  clear hsz
  have hrow := hrow.code
  go_wp2
  go_loopw [5] (fun i wr => ∃ k : Nat, l.length ≤ k ∧ k ≤ l.length + 8 ∧ i = .int .i64 k ∧ Below w.heap.size w wr ∧ CodeAt wr w.heap.size 0 ((lentL l).take k) ∧ Room wr w.heap.size ((l.length + 8) * 4) ∧ w.heap.size < wr.heap.size) (fun i _ => l.length + 8 - (intOf i).toNat)
  case atStart => exact ⟨l.length, Nat.le_refl _, by omega, rfl, hb1, by rw [lentL, List.take_left' rfl]; exact hrow, hroom, hz⟩
  case round =>
    obtain ⟨k, hk1, hk2, rfl, hbel, hrw, hrm, hzr⟩ := hrel
    clear hrow hroom hb1 hz
    by_cases hlt : k < l.length + 8
    · obtain ⟨hs0, hf0⟩ := hrm (k * 4) (by omega)
      obtain ⟨hs1, hf1⟩ := hrm (k * 4 + 1) (by omega)
      obtain ⟨hs2, hf2⟩ := hrm (k * 4 + 2) (by omega)
      obtain ⟨hs3, hf3⟩ := hrm (k * 4 + 3) (by omega)
      obtain ⟨u0, hu0⟩ := Option.isSome_iff_exists.1 hs0
      obtain ⟨u1, hu1⟩ := Option.isSome_iff_exists.1 hs1
      obtain ⟨u2, hu2⟩ := Option.isSome_iff_exists.1 hs2
      obtain ⟨u3, hu3⟩ := Option.isSome_iff_exists.1 hs3
      go_wp2
      go_roundw
      case rel =>
        have e1 := Below.set4 hbel (Nat.le_refl _) (k * 4) ⟨77, 0, 0, 0⟩
        have e2 := hrw.snoc (lentL_room l k hk1 hlt) hrm (by omega)
        have e3 := hrm.set4 w.heap.size (k * 4) ⟨77, 0, 0, 0⟩
        have e4 := set4_size wr w.heap.size (k * 4) ⟨77, 0, 0, 0⟩
        simp only [set4] at e1 e2 e3 e4
        exact ⟨k + 1, by omega, by omega, by go_num, e1, e2, e3, by rw [e4]; exact hzr⟩
      case measure => simp [intOf]; omega
    · have hk : k = l.length + 8 := by omega
      rw [List.take_of_length_le (by rw [Hlen.out]; omega)] at hrw
      go_wp2
      go_ret
      exact ⟨w.heap.size, Nat.le_refl _, hzr, by simp, hbel, hrw, hrm⟩

theorem lentCode_some (b off cap : Nat) (l : List Ins) (w : World) (hl : l.length ≤ 4398046511104) (hc : CodeAt w b off l) :
    Calls Try.prog 51 #[.slice (some ⟨b, off, none⟩) l.length cap] w fun e w' => ∃ g, w.heap.size ≤ g ∧ g < w'.heap.size ∧ e = .returned (.slice (some ⟨g, 0, none⟩) l.length (l.length + 8)) ∧
      Below w.heap.size w w' ∧ CodeAt w' g 0 (lentL l) ∧ Room w' g ((l.length + 8) * 4) :=
  lentCode_at ⟨b, off, none⟩ cap l w hl (fun j v hv => by rw [Addr.add_lit]; exact hc.row j v hv)
theorem lentCode_empty (ad : Addr) (cap : Nat) (w : World) :
    Calls Try.prog 51 #[.slice (some ad) 0 cap] w fun e w' => ∃ g, w.heap.size ≤ g ∧ g < w'.heap.size ∧ e = .returned (.slice (some ⟨g, 0, none⟩) 0 (0 + 8)) ∧
      Below w.heap.size w w' ∧ CodeAt w' g 0 (lentL []) ∧ Room w' g ((0 + 8) * 4) :=
  lentCode_at ad cap [] w (by simp) (fun j v hv => by simp [flat] at hv)

/-- What the caller writes into what it lent. -/
def one4 : Ins := ⟨1, 1, 1, 0⟩

set_option maxHeartbeats 400000 in
theorem wholeCode_nil (v : Value) (w : World) : Calls Try.prog 55 #[v, .slice none 0 0] w fun e w' => e = .returned (.bool true) ∧ w' = w := by
  go_enter Try.func55, Try.ntmps55
  go_wp2
  go_ret
  exact ⟨rfl, rfl⟩

theorem CodeFrom.below {B : Nat} {w w' : World} {b off k : Nat} {l : List Ins} (h : CodeFrom w b off k l) (hb : Below B w w') (hB : b < B) : CodeFrom w' b off k l := by
  intro i x hi hx
  obtain ⟨h1, h2, h3, h4⟩ := h i x hi hx
  exact ⟨below_at hb h1 hB, below_at hb h2 hB, below_at hb h3 hB, below_at hb h4 hB⟩

theorem whole_step {w wr wq : World} {g k n : Nat} {L : List Ins} (hon : Only (· = g) w wr) (hrw : CodeFrom wr g 0 k L) (hrm : Room wr g (n * 4)) (hones : CodeAt wr g 0 ((List.replicate n one4).take k)) (hk : k < n)
    (hgr : g < wr.heap.size) (hb : Below wr.heap.size wr wq) :
    Only (· = g) w (set4 wq g (k * 4) one4) ∧ CodeFrom (set4 wq g (k * 4) one4) g 0 (k + 1) L ∧ Room (set4 wq g (k * 4) one4) g (n * 4) ∧ CodeAt (set4 wq g (k * 4) one4) g 0 ((List.replicate n one4).take (k + 1)) :=
  ⟨(hon.trans (Only.new hb)).set4 rfl _ _, (hrw.below hb hgr).next _, (hrm.below hb hgr).set4 _ _ _, (hones.below hb hgr).snoc (by simp [List.getElem?_replicate, hk]) (hrm.below hb hgr) (by omega)⟩

set_option maxRecDepth 100000 in
set_option maxHeartbeats 1000000 in
theorem wholeCode_gen (ad : Addr) (b off cap g : Nat) (l : List Ins) (w : World) (had : 0 < l.length → ad = ⟨b, off, none⟩) (hl : l.length ≤ 4398046511104) (hc : CodeAt w b off l) (hbg : b ≠ g) (hr : CodeAt w g 0 (lentL l)) (hm : Room w g ((l.length + 8) * 4)) (hgw : g < w.heap.size) :
    Calls Try.prog 55 #[.slice (some ⟨g, 0, none⟩) l.length (l.length + 8), .slice (some ad) l.length cap] w fun e w' => e = .returned (.bool true) ∧ Only (· = g) w w' ∧ CodeAt w' g 0 (List.replicate (l.length + 8) one4) := by
  go_enter Try.func55, Try.ntmps55
  go_wp2
  go_loopw [7, 8, 9] (fun ok i _ wr => ∃ k : Nat, k ≤ l.length + 8 ∧ i = .int .i64 k ∧ ok = .bool true ∧ Only (· = g) w wr ∧ CodeFrom wr g 0 k (lentL l) ∧ Room wr g ((l.length + 8) * 4) ∧ CodeAt wr g 0 ((List.replicate (l.length + 8) one4).take k)) (fun _ i _ _ => l.length + 8 - (intOf i).toNat)
  case atStart => exact ⟨0, by omega, rfl, rfl, Only.refl _ _, fun i x _ hx => hr i x hx, hm, fun i x hx => by simp at hx⟩
  case round =>
    obtain ⟨k, hk, rfl, rfl, hon, hrw, hrm, hones⟩ := hrel
    have hgr : g < wr.heap.size := Nat.lt_of_lt_of_le hgw hon.size
    by_cases hlt : k < l.length + 8
    · obtain ⟨hs0, hf0⟩ := hrm (k * 4) (by omega)
      obtain ⟨hs1, hf1⟩ := hrm (k * 4 + 1) (by omega)
      obtain ⟨hs2, hf2⟩ := hrm (k * 4 + 2) (by omega)
      obtain ⟨hs3, hf3⟩ := hrm (k * 4 + 3) (by omega)
      clear hs0 hs1 hs2 hs3
      by_cases hl2 : k < l.length
      · obtain rfl := had (by omega)
        obtain ⟨hu0, hu1, hu2, hu3⟩ := hrw k _ (Nat.le_refl _) (lentL_elem l k hl2)
        simp only [Nat.zero_add] at hu0 hu1 hu2 hu3
        obtain ⟨hx0, hx1, hx2, hx3⟩ := hc k l[k] (by simp)
        have hx0 := hon.at hx0 hbg
        have hx1 := hon.at hx1 hbg
        have hx2 := hon.at hx2 hbg
        have hx3 := hon.at hx3 hbg
        have hbr := lt_of_cell hx0
        go_wp2
        go_quiet (fail)
        go_wp2
        go_roundw
        case rel =>
          obtain ⟨e1, e2, e3, e4⟩ := whole_step hon hrw hrm hones hlt hgr (below_drewN ((Below.refl wr.heap.size wr).alloc (Nat.le_refl _) (.cells #[.int .i64 l[k].op, .int .i64 l[k].a, .int .i64 l[k].b, .int .i64 l[k].c] 59)) nq)
          simp only [set4, one4] at e1 e2 e3 e4
          exact ⟨k + 1, by omega, by go_num, rfl, e1, e2, e3, e4⟩
        case measure => simp [intOf]; omega
      · obtain ⟨hu0, hu1, hu2, hu3⟩ := hrw k _ (Nat.le_refl _) (lentL_room l k (by omega) hlt)
        simp only [Nat.zero_add] at hu0 hu1 hu2 hu3
        go_wp2
        go_quiet (fail)
        go_wp2
        go_roundw
        case rel =>
          obtain ⟨e1, e2, e3, e4⟩ := whole_step hon hrw hrm hones hlt hgr (below_drewN ((Below.refl wr.heap.size wr).alloc (Nat.le_refl _) (.cells #[.int .i64 77, .int .i64 0, .int .i64 0, .int .i64 0] 59)) nq)
          simp only [set4, one4] at e1 e2 e3 e4
          exact ⟨k + 1, by omega, by go_num, rfl, e1, e2, e3, e4⟩
        case measure => simp [intOf]; omega
    · go_wp2
      go_ret
      refine ⟨rfl, hon, ?_⟩
      have hk' : k = l.length + 8 := by omega
      rw [List.take_of_length_le (by simp; omega)] at hones
      exact hones

theorem wholeCode_some (b off cap g : Nat) (l : List Ins) (w : World) (hl : l.length ≤ 4398046511104) (hc : CodeAt w b off l) (hbg : b ≠ g) (hr : CodeAt w g 0 (lentL l)) (hm : Room w g ((l.length + 8) * 4)) (hgw : g < w.heap.size) :
    Calls Try.prog 55 #[.slice (some ⟨g, 0, none⟩) l.length (l.length + 8), .slice (some ⟨b, off, none⟩) l.length cap] w fun e w' => e = .returned (.bool true) ∧ Only (· = g) w w' ∧ CodeAt w' g 0 (List.replicate (l.length + 8) one4) :=
  wholeCode_gen ⟨b, off, none⟩ b off cap g l w (fun _ => rfl) hl hc hbg hr hm hgw
theorem wholeCode_empty (ad : Addr) (cap g : Nat) (w : World) (hr : CodeAt w g 0 (lentL [])) (hm : Room w g ((([] : List Ins).length + 8) * 4)) (hgw : g < w.heap.size) :
    Calls Try.prog 55 #[.slice (some ⟨g, 0, none⟩) ([] : List Ins).length (([] : List Ins).length + 8), .slice (some ad) 0 cap] w fun e w' => e = .returned (.bool true) ∧ Only (· = g) w w' ∧ CodeAt w' g 0 (List.replicate (([] : List Ins).length + 8) one4) :=
  wholeCode_gen ad (g + 1) 0 cap g [] w (fun h => by simp at h) (by simp) (fun i x hx => by simp at hx) (by omega) hr hm hgw
end Go.Proofs.Ytpkkjgcpmnoalaa
