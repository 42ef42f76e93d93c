import Derived.Test.YtndlmgocldckfaaRunP
import Derived.Test.YtndlmgocldckfaaRunF
namespace Go.Proofs.Ytndlmgocldckfaa
open Go.RowKit
set_option linter.unusedVariables false
set_option linter.unusedSimpArgs false

/-! The records of a run, cell by cell. -/

/-- A list of records as it lies. -/
structure RecsAt (w : World) (lv : Value) (rs : List Rec) (b cap : Nat) : Prop where
  form : rs ≠ [] → lv = .slice (some ⟨b, 0, none⟩) rs.length cap
  cells : ∀ (i : Nat) r, rs[i]? = some r → ∃ sa sc, w.cell? ⟨b, i * 5, none⟩ = some (.int .i64 r.e.number) ∧ w.cell? ⟨b, i * 5 + 1, none⟩ = some (.int .i64 r.e.time) ∧ w.cell? ⟨b, i * 5 + 2, none⟩ = some (.int .i64 r.e.kind) ∧ w.cell? ⟨b, i * 5 + 3, none⟩ = some (.int .i64 r.e.entity) ∧
    w.cell? ⟨b, i * 5 + 4, none⟩ = some (.slice sa r.told.length sc) ∧ (∀ (k : Nat) t, r.told[k]? = some t → ∃ g, sa = some ⟨g, 0, none⟩ ∧ w.cell? ⟨g, k, none⟩ = some (.int .i64 t))

theorem RunOut.at {w w' : World} {kb qb mb : Nat} {ov lv : Value} {L : List RecC} {rs : List Rec} (h : RunOut w w' kb qb mb ov lv L rs) : ∃ a cap, lv = .slice a rs.length cap ∧ ∃ b, RecsAt w' lv rs b cap := by
  have hl := h.len
  rcases owns_row h.row with ⟨rfl, h0, _⟩ | ⟨g, cap, rfl, h1, h2, h3⟩
  · have hr : rs = [] := List.eq_nil_of_length_eq_zero (by omega)
    subst hr
    exact ⟨none, 0, rfl, 0, fun hc => absurd rfl hc, by simp⟩
  · refine ⟨some ⟨g, 0, none⟩, cap, by rw [hl], g, fun _ => by rw [hl], ?_⟩
    intro i r hr
    have hi : i < L.length := by have := (List.getElem?_eq_some_iff.1 hr).1; omega
    have hx : L[i]? = some L[i] := List.getElem?_eq_getElem hi
    obtain ⟨e1, e2, e3⟩ := h.rec_ i _ r hx hr
    have hc : ∀ (j : Nat) v, j < 5 → (L[i].cells)[j]? = some v → w'.cell? ⟨g, i * 5 + j, none⟩ = some v := by
      intro j v hj hv
      have := h3 (i * 5 + j) v (by rw [recCells_get L i j hj, hx]; exact hv)
      simpa using this
    refine ⟨L[i].sa, L[i].sc, ?_, ?_, ?_, ?_, ?_, ?_⟩
    · have := hc 0 _ (by omega) rfl; rw [← e1]; simpa using this
    · have := hc 1 _ (by omega) rfl; rw [← e1]; exact this
    · have := hc 2 _ (by omega) rfl; rw [← e1]; exact this
    · have := hc 3 _ (by omega) rfl; rw [← e1]; exact this
    · have := hc 4 _ (by omega) rfl; rw [← e2]; exact this
    · intro k t ht
      rcases owns_row e3 with ⟨_, h0, _⟩ | ⟨g', cap', q1, _, _, q3⟩
      · have := (List.getElem?_eq_some_iff.1 ht).1; omega
      · simp only [Value.slice.injEq] at q1
        refine ⟨g', q1.1, ?_⟩
        have := q3 k (.int .i64 t) (by simp [ints, ht])
        simpa using this
end Go.Proofs.Ytndlmgocldckfaa
