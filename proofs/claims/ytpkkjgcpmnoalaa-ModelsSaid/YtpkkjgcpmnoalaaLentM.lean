import Derived.Test.YtpkkjgcpmnoalaaLentC
namespace Go.Proofs.Ytpkkjgcpmnoalaa
open Go.RowKit
set_option linter.unusedVariables false
set_option linter.unusedSimpArgs false
attribute [local go_sem] eqlNilI eqlNilC eqlNilK

theorem Try.info60 : (Try.prog.info? 60).map (fun i => (i.zero, i.size, i.bytes)) = some (some (.slice none 0 0), 1, 24) := by kernel_rfl

def codeVal (r : Option Nat) (l : List Ins) : Value :=
  match r with
  | none => .slice none 0 0
  | some c => .slice (some ⟨c, 0, none⟩) l.length (l.length + 8)

/-- The first k kinds of a model have been lent: their blocks are rs; the list's own block is g, the caller's second list h; the model itself lies at b, off, below lo; what is lent lies from hi on. -/
structure LentTo (lo hi : Nat) (w : World) (g h b off k : Nat) (rs : List (Option Nat)) (ks : List (List Ins)) : Prop where
  len : rs.length = k
  le : k ≤ ks.length
  row : ∀ (i : Nat) (r : Option Nat) (l : List Ins), rs[i]? = some r → ks[i]? = some l → w.cell? ⟨g, i, none⟩ = some (codeVal r l) ∧ w.cell? ⟨h, i, none⟩ = some (codeVal r l)
  spare : ∀ i, k ≤ i → i < ks.length + 8 → w.cell? ⟨g, i, none⟩ = some (.slice none 0 0)
  room : Room w g (ks.length + 8)
  roomh : Room w h ks.length
  code : ∀ (i c : Nat) (l : List Ins), rs[i]? = some (some c) → ks[i]? = some l → CodeAt w c 0 (lentL l) ∧ Room w c ((l.length + 8) * 4) ∧ hi ≤ c ∧ c < w.heap.size ∧ c ≠ g ∧ c ≠ h
  none_ : ∀ (i : Nat) (l : List Ins), rs[i]? = some none → ks[i]? = some l → l = []
  apart : ∀ (i j c : Nat), rs[i]? = some (some c) → rs[j]? = some (some c) → i = j
  orig : ∀ (i : Nat) (l : List Ins), ks[i]? = some l → ∃ v, w.cell? ⟨b, off + i, none⟩ = some v ∧ CodeV lo w v l ∧ (i < k → (rs[i]? = some none ↔ v = .slice none 0 0))
  lohi : lo ≤ hi
  glo : hi ≤ g
  hlo : hi ≤ h
  ghi : g < w.heap.size
  hhi : h < w.heap.size
  gh : g ≠ h
  blo : b < lo

theorem LentTo.below {lo hi : Nat} {w w' : World} {g h b off k : Nat} {rs : List (Option Nat)} {ks : List (List Ins)} (x : LentTo lo hi w g h b off k rs ks) (hb : Below w.heap.size w w') : LentTo lo hi w' g h b off k rs ks := by
  have hlt : lo ≤ w.heap.size := Nat.le_trans x.lohi (Nat.le_trans x.glo (Nat.le_of_lt x.ghi))
  have hsz := hb.size
  refine ⟨x.len, x.le, ?_, ?_, x.room.below hb x.ghi, x.roomh.below hb x.hhi, ?_, x.none_, x.apart, ?_, x.lohi, x.glo, x.hlo, by have := x.ghi; omega, by have := x.hhi; omega, x.gh, x.blo⟩
  · intro i r l hr hl
    obtain ⟨h1, h2⟩ := x.row i r l hr hl
    exact ⟨below_at hb h1 x.ghi, below_at hb h2 x.hhi⟩
  · intro i h1 h2
    exact below_at hb (x.spare i h1 h2) x.ghi
  · intro i c l hr hl
    obtain ⟨h1, h2, h3, h4, h5, h6⟩ := x.code i c l hr hl
    exact ⟨h1.below hb h4, h2.below hb h4, h3, by omega, h5, h6⟩
  · intro i l hl
    obtain ⟨v, h1, h2, h3⟩ := x.orig i l hl
    exact ⟨v, below_at hb h1 (by have := x.blo; omega), h2.below (hb.mono hlt), h3⟩

theorem CodeAt.setCell {w : World} {b off : Nat} {l : List Ins} (h : CodeAt w b off l) (p : Addr) (v : Value) (hp : p.block ≠ b) : CodeAt (w.setCell p v) b off l := by
  intro i x hx
  obtain ⟨h1, h2, h3, h4⟩ := h i x hx
  refine ⟨?_, ?_, ?_, ?_⟩ <;> (rw [World.cell?_setCell_other _ _ _ _ (by intro e; subst e; exact hp rfl)]; assumption)
theorem CodeV.setCell {B : Nat} {w : World} {v : Value} {l : List Ins} (h : CodeV B w v l) (p : Addr) (u : Value) (hp : B ≤ p.block) : CodeV B (w.setCell p u) v l := by
  obtain ⟨hl, h | ⟨b, off, cap, rfl, hb, hc⟩ | h⟩ := h
  · exact ⟨hl, .inl h⟩
  · exact ⟨hl, .inr (.inl ⟨b, off, cap, rfl, hb, hc.setCell _ _ (by omega)⟩)⟩
  · exact ⟨hl, .inr (.inr h)⟩

theorem LentTo.step {lo hi : Nat} {w : World} {g h b off k : Nat} {rs : List (Option Nat)} {ks : List (List Ins)} (x : LentTo lo hi w g h b off k rs ks) (hk : k < ks.length) (r : Option Nat)
    (hr : (r = none ∧ ks[k] = [] ∧ w.cell? ⟨b, off + k, none⟩ = some (.slice none 0 0)) ∨ ∃ c, r = some c ∧ CodeAt w c 0 (lentL ks[k]) ∧ Room w c ((ks[k].length + 8) * 4) ∧ hi ≤ c ∧ c < w.heap.size ∧ c ≠ g ∧ c ≠ h ∧ (∀ i : Nat, rs[i]? ≠ some (some c)) ∧ w.cell? ⟨b, off + k, none⟩ ≠ some (.slice none 0 0)) :
    LentTo lo hi ((w.setCell ⟨g, k, none⟩ (codeVal r ks[k])).setCell ⟨h, k, none⟩ (codeVal r ks[k])) g h b off (k + 1) (rs ++ [r]) ks := by
  have hgh := x.gh
  have hlohi := x.lohi
  have hblo := x.blo
  have hglo := x.glo
  have hhlo := x.hlo
  have hsz : ((w.setCell ⟨g, k, none⟩ (codeVal r ks[k])).setCell ⟨h, k, none⟩ (codeVal r ks[k])).heap.size = w.heap.size := by simp [World.setCell]
  have look : ∀ (i : Nat) s, (rs ++ [r])[i]? = some s → (i < k ∧ rs[i]? = some s) ∨ (i = k ∧ s = r) := by
    intro i s hs
    by_cases hi : i < k
    · rw [List.getElem?_append_left (by rw [x.len]; exact hi)] at hs; exact .inl ⟨hi, hs⟩
    · rw [List.getElem?_append_right (by rw [x.len]; omega), x.len] at hs
      have : i - k = 0 := by
        have := (List.getElem?_eq_some_iff.1 hs).1
        simp at this; omega
      rw [this] at hs
      simp at hs
      exact .inr ⟨by omega, hs.symm⟩
  have other : ∀ (b' o' : Nat) , (b' ≠ g ∨ o' ≠ k) → (b' ≠ h ∨ o' ≠ k) → ((w.setCell ⟨g, k, none⟩ (codeVal r ks[k])).setCell ⟨h, k, none⟩ (codeVal r ks[k])).cell? ⟨b', o', none⟩ = w.cell? ⟨b', o', none⟩ := by
    intro b' o' h1 h2
    rw [World.cell?_setCell_other _ _ _ _ (by simp; omega), World.cell?_setCell_other _ _ _ _ (by simp; omega)]
  refine ⟨by simp [x.len], by omega, ?_, ?_, (x.room.setCell _ _).setCell _ _, (x.roomh.setCell _ _).setCell _ _, ?_, ?_, ?_, ?_, x.lohi, x.glo, x.hlo, by rw [hsz]; exact x.ghi, by rw [hsz]; exact x.hhi, x.gh, x.blo⟩
  · intro i s l hs hl
    rcases look i s hs with ⟨hi, hs'⟩ | ⟨rfl, rfl⟩
    · obtain ⟨h1, h2⟩ := x.row i s l hs' hl
      exact ⟨(other g i (by omega) (by omega)).trans h1, (other h i (by omega) (by omega)).trans h2⟩
    · have : l = ks[i] := by rw [List.getElem?_eq_getElem hk] at hl; exact (Option.some.inj hl).symm
      subst this
      refine ⟨?_, ?_⟩
      · rw [World.cell?_setCell_other _ _ _ _ (by simp; try omega)]
        exact World.cell?_setCell_same' _ _ _ (x.room i (by omega)).1
      · exact World.cell?_setCell_same' _ _ _ ((x.roomh.setCell _ _) i hk).1
  · intro i h1 h2
    exact (other g i (by omega) (by omega)).trans (x.spare i (by omega) h2)
  · intro i c l hs hl
    rw [hsz]
    rcases look i _ hs with ⟨hi, hs'⟩ | ⟨rfl, hs'⟩
    · obtain ⟨h1, h2, h3, h4, h5, h6⟩ := x.code i c l hs' hl
      exact ⟨(h1.setCell _ _ (Ne.symm h5)).setCell _ _ (Ne.symm h6), (h2.setCell _ _).setCell _ _, h3, h4, h5, h6⟩
    · have : l = ks[i] := by rw [List.getElem?_eq_getElem hk] at hl; exact (Option.some.inj hl).symm
      subst this
      rcases hr with ⟨rfl, _, _⟩ | ⟨c', rfl, h1, h2, h3, h4, h5, h6, h7, h8⟩
      · simp at hs'
      · simp at hs'
        subst hs'
        exact ⟨(h1.setCell _ _ (Ne.symm h5)).setCell _ _ (Ne.symm h6), (h2.setCell _ _).setCell _ _, h3, h4, h5, h6⟩
  · intro i l hs hl
    rcases look i _ hs with ⟨hi, hs'⟩ | ⟨rfl, hs'⟩
    · exact x.none_ i l hs' hl
    · have : l = ks[i] := by rw [List.getElem?_eq_getElem hk] at hl; exact (Option.some.inj hl).symm
      subst this
      rcases hr with ⟨rfl, h0, _⟩ | ⟨c', rfl, _⟩
      · exact h0
      · simp at hs'
  · intro i j c hi hj
    rcases look i _ hi with ⟨hi1, hi'⟩ | ⟨hi1, hi'⟩ <;> rcases look j _ hj with ⟨hj1, hj'⟩ | ⟨hj1, hj'⟩
    · exact x.apart i j c hi' hj'
    · rcases hr with ⟨rfl, _, _⟩ | ⟨c', rfl, h1, h2, h3, h4, h5, h6, h7, h8⟩
      · simp at hj'
      · simp at hj'; subst hj'; exact absurd hi' (h7 i)
    · rcases hr with ⟨rfl, _, _⟩ | ⟨c', rfl, h1, h2, h3, h4, h5, h6, h7, h8⟩
      · simp at hi'
      · simp at hi'; subst hi'; exact absurd hj' (h7 j)
    · omega
  · intro i l hl
    obtain ⟨v, h1, h2, h3⟩ := x.orig i l hl
    refine ⟨v, (other b (off + i) (by omega) (by omega)).trans h1, (h2.setCell _ _ (by simp; omega)).setCell _ _ (by simp; omega), fun hi => ?_⟩
    by_cases hik : i < k
    · rw [List.getElem?_append_left (by rw [x.len]; exact hik)]; exact h3 hik
    · have : i = k := by omega
      subst this
      rw [List.getElem?_append_right (by rw [x.len]; omega), x.len]
      simp
      rcases hr with ⟨rfl, _, h9⟩ | ⟨c', rfl, _, _, _, _, _, _, _, h9⟩
      · rw [h9] at h1; simp at h1; simp [h1]
      · simp
        intro e; subst e; exact h9 h1

theorem CodeAt.only {S : Nat → Prop} {w w' : World} {b off : Nat} {l : List Ins} (h : CodeAt w b off l) (ho : Only S w w') (hs : ¬ S b) : CodeAt w' b off l := by
  intro i x hx
  obtain ⟨h1, h2, h3, h4⟩ := h i x hx
  exact ⟨ho.at h1 hs, ho.at h2 hs, ho.at h3 hs, ho.at h4 hs⟩

theorem LentTo.only {S : Nat → Prop} {lo hi : Nat} {w w' : World} {g h b off k : Nat} {rs : List (Option Nat)} {ks : List (List Ins)} (x : LentTo lo hi w g h b off k rs ks) (ho : Only S w w') (hS : ∀ k, S k → lo ≤ k ∧ k < hi) : LentTo lo hi w' g h b off k rs ks := by
  have hlt : lo ≤ w.heap.size := Nat.le_trans x.lohi (Nat.le_trans x.glo (Nat.le_of_lt x.ghi))
  have hsz := ho.size
  have nhi : ∀ c, hi ≤ c → ¬ S c := fun c hc hs => by have := hS c hs; omega
  have nlo : ∀ c, c < lo → ¬ S c := fun c hc hs => by have := hS c hs; omega
  refine ⟨x.len, x.le, ?_, ?_, x.room.only ho (nhi _ x.glo), x.roomh.only ho (nhi _ x.hlo), ?_, x.none_, x.apart, ?_, x.lohi, x.glo, x.hlo, by have := x.ghi; omega, by have := x.hhi; omega, x.gh, x.blo⟩
  · intro i r l hr hl
    obtain ⟨h1, h2⟩ := x.row i r l hr hl
    exact ⟨ho.at h1 (nhi _ x.glo), ho.at h2 (nhi _ x.hlo)⟩
  · intro i h1 h2
    exact ho.at (x.spare i h1 h2) (nhi _ x.glo)
  · intro i c l hr hl
    obtain ⟨h1, h2, h3, h4, h5, h6⟩ := x.code i c l hr hl
    exact ⟨h1.only ho (nhi _ h3), h2.only ho (nhi _ h3), h3, by omega, h5, h6⟩
  · intro i l hl
    obtain ⟨v, h1, h2, h3⟩ := x.orig i l hl
    exact ⟨v, ho.at h1 (nlo _ x.blo), h2.below (ho.below hlt nlo), h3⟩
end Go.Proofs.Ytpkkjgcpmnoalaa
