import Derived.Test.YtndlmgocldckfaaMem
namespace Go.Proofs.Ytndlmgocldckfaa
open Go.RowKit
set_option linter.unusedVariables false
set_option linter.unusedSimpArgs false

theorem Try.info3 : (Try.prog.info? 3).map (fun i => (i.zero, i.size, i.bytes)) = some (some (.int .i64 0), 1, 8) := by kernel_rfl
theorem Try.size3 : (Try.prog.info? 3).map (·.size) = some 1 := by kernel_rfl

/-- Numbers as they lie. -/
def ints (l : List Int) : List Value := l.map (Value.int .i64)
theorem Try.info59 : (Try.prog.info? 82).map (fun i => (i.zero, i.size, i.bytes)) = some (some (.agg #[.int .i64 0, .int .i64 0, .int .i64 0, .int .i64 0]), 4, 32) := by kernel_rfl
theorem Try.size59 : (Try.prog.info? 82).map (·.size) = some 4 := by kernel_rfl

def cells4 (x : Ins) : List Value := [.int .i64 x.op, .int .i64 x.a, .int .i64 x.b, .int .i64 x.c]
def flat (l : List Ins) : List Value := l.flatMap cells4
theorem flat_length (l : List Ins) : (flat l).length = l.length * 4 := by
  induction l with
  | nil => rfl
  | cons x l ih => simp [flat, cells4] at ih ⊢; omega
theorem flat_get : ∀ (l : List Ins) (i r : Nat), r < 4 → (flat l)[i * 4 + r]? = l[i]?.bind fun x => (cells4 x)[r]?
  | [], i, r, _ => by simp [flat]
  | x :: l, 0, r, h => by
    have : r = 0 ∨ r = 1 ∨ r = 2 ∨ r = 3 := by omega
    rcases this with rfl | rfl | rfl | rfl <;> simp [flat, cells4]
  | x :: l, i + 1, r, h => by
    have ih := flat_get l i r h
    have e : (i + 1) * 4 + r = (i * 4 + r) + 1 + 1 + 1 + 1 := by omega
    rw [e]
    simpa [flat, cells4] using ih
theorem CodeAt.row {w : World} {b off : Nat} {l : List Ins} (h : CodeAt w b off l) : RowAt w b off (flat l) := by
  intro j v hv
  have e : j = (j / 4) * 4 + j % 4 := by omega
  rw [e, flat_get l _ _ (by omega)] at hv
  obtain ⟨x, hx, hr⟩ := Option.bind_eq_some_iff.1 hv
  obtain ⟨h0, h1, h2, h3⟩ := h _ x hx
  have : j % 4 = 0 ∨ j % 4 = 1 ∨ j % 4 = 2 ∨ j % 4 = 3 := by omega
  rcases this with h | h | h | h <;> rw [h] at hr <;> simp [cells4] at hr <;> subst hr
  · rw [← h0]; congr 2; omega
  · rw [← h1]; congr 2; omega
  · rw [← h2]; congr 2; omega
  · rw [← h3]; congr 2; omega
theorem RowAt.code {w : World} {b off : Nat} {l : List Ins} (h : RowAt w b off (flat l)) : CodeAt w b off l := by
  intro i x hx
  have g := fun r (hr : r < 4) (v : Value) (hv : (cells4 x)[r]? = some v) => h (i * 4 + r) v (by rw [flat_get l i r hr, hx]; exact hv)
  exact ⟨g 0 (by omega) _ rfl, by simpa [Nat.add_assoc] using g 1 (by omega) _ rfl, by simpa [Nat.add_assoc] using g 2 (by omega) _ rfl, by simpa [Nat.add_assoc] using g 3 (by omega) _ rfl⟩

/-- From place k on a row of instructions lies so. -/
def CodeFrom (w : World) (b off k : Nat) (l : List Ins) : Prop :=
  ∀ i x, k ≤ i → l[i]? = some x → w.cell? ⟨b, off + i * 4, none⟩ = some (.int .i64 x.op) ∧ w.cell? ⟨b, off + i * 4 + 1, none⟩ = some (.int .i64 x.a) ∧
    w.cell? ⟨b, off + i * 4 + 2, none⟩ = some (.int .i64 x.b) ∧ w.cell? ⟨b, off + i * 4 + 3, none⟩ = some (.int .i64 x.c)

def set4 (w : World) (b o : Nat) (x : Ins) : World :=
  (((w.setCell ⟨b, o, none⟩ (.int .i64 x.op)).setCell ⟨b, o + 1, none⟩ (.int .i64 x.a)).setCell ⟨b, o + 2, none⟩ (.int .i64 x.b)).setCell ⟨b, o + 3, none⟩ (.int .i64 x.c)
theorem set4_other (w : World) (b o : Nat) (x : Ins) (b' o' : Nat) (h : b' ≠ b ∨ o' < o ∨ o + 4 ≤ o') : (set4 w b o x).cell? ⟨b', o', none⟩ = w.cell? ⟨b', o', none⟩ := by
  unfold set4
  rw [World.cell?_setCell_other _ _ _ _ (by simp; omega), World.cell?_setCell_other _ _ _ _ (by simp; omega), World.cell?_setCell_other _ _ _ _ (by simp; omega), World.cell?_setCell_other _ _ _ _ (by simp; omega)]
theorem Room.set4 {w : World} {b n : Nat} (h : Room w b n) (b' o : Nat) (x : Ins) : Room (set4 w b' o x) b n := (((h.setCell _ _).setCell _ _).setCell _ _).setCell _ _
theorem Only.set4 {S : Nat → Prop} {a w : World} (h : Only S a w) {b : Nat} (hb : S b) (o : Nat) (x : Ins) : Only S a (set4 w b o x) := (((h.setCell hb _).setCell hb _).setCell hb _).setCell hb _
theorem Below.set4 {B : Nat} {a w : World} (h : Below B a w) {b : Nat} (hb : B ≤ b) (o : Nat) (x : Ins) : Below B a (set4 w b o x) := (((h.setCell hb _).setCell hb _).setCell hb _).setCell hb _
theorem set4_size (w : World) (b o : Nat) (x : Ins) : (set4 w b o x).heap.size = w.heap.size := by simp [set4, World.setCell]
theorem set4_same (w : World) (b o n : Nat) (x : Ins) (h : Room w b n) (ho : o + 4 ≤ n) :
    (set4 w b o x).cell? ⟨b, o, none⟩ = some (.int .i64 x.op) ∧ (set4 w b o x).cell? ⟨b, o + 1, none⟩ = some (.int .i64 x.a) ∧
    (set4 w b o x).cell? ⟨b, o + 2, none⟩ = some (.int .i64 x.b) ∧ (set4 w b o x).cell? ⟨b, o + 3, none⟩ = some (.int .i64 x.c) := by
  refine ⟨?_, ?_, ?_, ?_⟩
  · unfold set4
    rw [World.cell?_setCell_other _ _ _ _ (by simp), World.cell?_setCell_other _ _ _ _ (by simp), World.cell?_setCell_other _ _ _ _ (by simp)]
    exact World.cell?_setCell_same' _ _ _ (h o (by omega)).1
  · unfold set4
    rw [World.cell?_setCell_other _ _ _ _ (by simp), World.cell?_setCell_other _ _ _ _ (by simp)]
    exact World.cell?_setCell_same' _ _ _ ((h.setCell _ _) (o + 1) (by omega)).1
  · unfold set4
    rw [World.cell?_setCell_other _ _ _ _ (by simp)]
    exact World.cell?_setCell_same' _ _ _ (((h.setCell _ _).setCell _ _) (o + 2) (by omega)).1
  · unfold set4
    exact World.cell?_setCell_same' _ _ _ ((((h.setCell _ _).setCell _ _).setCell _ _) (o + 3) (by omega)).1
theorem CodeAt.snoc {w : World} {b n k : Nat} {L : List Ins} {x : Ins} (h : CodeAt w b 0 (L.take k)) (hx : L[k]? = some x) (hr : Room w b n) (hn : k * 4 + 4 ≤ n) : CodeAt (set4 w b (k * 4) x) b 0 (L.take (k + 1)) := by
  intro i y hy
  by_cases hi : i = k
  · subst hi
    rw [List.getElem?_take, if_pos (by omega), hx] at hy
    cases hy
    simpa using set4_same w b (i * 4) n x hr hn
  · have hlt : i < k + 1 := by
      have := (List.getElem?_eq_some_iff.1 hy).1
      simp at this; omega
    rw [List.getElem?_take, if_pos (by omega)] at hy
    obtain ⟨h0, h1, h2, h3⟩ := h i y (by rw [List.getElem?_take, if_pos (by omega)]; exact hy)
    refine ⟨?_, ?_, ?_, ?_⟩ <;> (rw [set4_other _ _ _ _ _ _ (by omega)]; assumption)
theorem CodeFrom.next {w : World} {b k : Nat} {L : List Ins} (h : CodeFrom w b 0 k L) (x : Ins) : CodeFrom (set4 w b (k * 4) x) b 0 (k + 1) L := by
  intro i y hi hy
  obtain ⟨h0, h1, h2, h3⟩ := h i y (by omega) hy
  refine ⟨?_, ?_, ?_, ?_⟩ <;> (rw [set4_other _ _ _ _ _ _ (by omega)]; assumption)

theorem Try.info60 : (Try.prog.info? 80).map (fun i => (i.zero, i.size, i.bytes)) = some (some (.slice none 0 0), 1, 24) := by kernel_rfl

theorem CodeAt.setCell {w : World} {b off : Nat} {l : List Ins} (h : CodeAt w b off l) (p : Addr) (v : Value) (hp : p.block ≠ b) : CodeAt (w.setCell p v) b off l := by
  intro i x hx
  obtain ⟨h1, h2, h3, h4⟩ := h i x hx
  refine ⟨?_, ?_, ?_, ?_⟩ <;> (rw [World.cell?_setCell_other _ _ _ _ (by intro e; subst e; exact hp rfl)]; assumption)
theorem CodeV.setCell {B : Nat} {w : World} {v : Value} {l : List Ins} (h : CodeV B w v l) (p : Addr) (u : Value) (hp : B ≤ p.block) : CodeV B (w.setCell p u) v l := by
  obtain ⟨hl, h | ⟨b, off, cap, rfl, hb, hc⟩ | h⟩ := h
  · exact ⟨hl, .inl h⟩
  · exact ⟨hl, .inr (.inl ⟨b, off, cap, rfl, hb, hc.setCell _ _ (by omega)⟩)⟩
  · exact ⟨hl, .inr (.inr h)⟩

theorem CodeAt.only {S : Nat → Prop} {w w' : World} {b off : Nat} {l : List Ins} (h : CodeAt w b off l) (ho : Only S w w') (hs : ¬ S b) : CodeAt w' b off l := by
  intro i x hx
  obtain ⟨h1, h2, h3, h4⟩ := h i x hx
  exact ⟨ho.at h1 hs, ho.at h2 hs, ho.at h3 hs, ho.at h4 hs⟩

end Go.Proofs.Ytndlmgocldckfaa
