import Derived.Test.YtndlmgocldckfaaRcA
import Derived.Test.YtndlmgocldckfaaWrZ
namespace Go.Proofs.Ytndlmgocldckfaa
open Go.RowKit
set_option linter.unusedVariables false
set_option linter.unusedSimpArgs false

/-! Records of several runs in one list. -/

def AllSet (av : Value) (L : List RecC) (b : Nat) : Prop := some b = av.ownBlock ∨ ∃ x ∈ L, some b = (Value.slice x.sa x.n x.sc).ownBlock

structure AllR (w : World) (Z : Nat) (av : Value) (L : List RecC) (rs : List Rec) : Prop where
  len : L.length = rs.length
  row : w.ownsRow Z 36 5 av L.length (recCells L)
  rec_ : ∀ (j : Nat) x r, L[j]? = some x → rs[j]? = some r → x.e = r.e ∧ x.n = r.told.length ∧ w.ownsRow Z 3 1 (.slice x.sa x.n x.sc) r.told.length (ints r.told)
  tsep : ∀ x ∈ L, ∀ b, some b = (Value.slice x.sa x.n x.sc).ownBlock → some b ≠ av.ownBlock

theorem AllR.lt {w : World} {Z : Nat} {av : Value} {L : List RecC} {rs : List Rec} (h : AllR w Z av L rs) : ∀ b, AllSet av L b → Z ≤ b ∧ b < w.heap.size := by
  rintro b (hb | ⟨x, hx, hb⟩)
  · exact h.row.lt b hb.symm
  · obtain ⟨j, hj⟩ := List.getElem?_of_mem hx
    have hl : j < rs.length := by have := (List.getElem?_eq_some_iff.1 hj).1; have := h.len; omega
    obtain ⟨_, _, h3⟩ := h.rec_ j x rs[j] hj (List.getElem?_eq_getElem hl)
    exact h3.lt b hb.symm
theorem AllR.only {w w' : World} {Z : Nat} {av : Value} {L : List RecC} {rs : List Rec} {U : Nat → Prop} (h : AllR w Z av L rs) (ho : Only U w w') (hU : ∀ b, AllSet av L b → ¬ U b) : AllR w' Z av L rs := by
  refine ⟨h.len, owns_keep h.row ho (fun b hb => hU b (.inl hb)), fun j x r hx hr => ?_, h.tsep⟩
  obtain ⟨h1, h2, h3⟩ := h.rec_ j x r hx hr
  exact ⟨h1, h2, owns_keep h3 ho (fun b hb => hU b (.inr ⟨x, List.mem_of_getElem? hx, hb⟩))⟩
theorem AllR.nil (w : World) (Z : Nat) : AllR w Z (.slice none 0 0) [] [] :=
  ⟨rfl, World.ownsRow_nil _ _ _ _, by simp, by simp⟩
theorem recCells_one (L : List RecC) : ∀ u ∈ recCells L, u.oneCell' = true := by
  intro u hu
  obtain ⟨x, _, hx⟩ := List.mem_flatMap.1 hu
  simp only [RecC.cells, List.mem_cons, List.not_mem_nil, or_false] at hx
  rcases hx with rfl | rfl | rfl | rfl | rfl <;> rfl
theorem recCells_append (A B : List RecC) : recCells (A ++ B) = recCells A ++ recCells B := by simp [recCells]
theorem AllR.app {w w' : World} {Z : Nat} {av av' lv : Value} {A B : List RecC} {ra rb : List Rec} (h : AllR w Z av A ra) (k : AllR w Z lv B rb) (hg : w.grownBy w' av.ownBlock) (hown : w'.ownsRow Z 36 5 av' (A.length + B.length) (recCells A ++ recCells B)) (hwh : av'.ownBlock = av.ownBlock ∨ av'.ownBlock = some w.heap.size) (hdis : ∀ x ∈ B, ∀ b, some b = (Value.slice x.sa x.n x.sc).ownBlock → some b ≠ av.ownBlock) : AllR w' Z av' (A ++ B) (ra ++ rb) := by
  have ho : Only (fun b => some b = av.ownBlock) w w' := only_of_grown hg
  have hla := h.len
  have hlb := k.len
  refine ⟨by simp; omega, by rw [recCells_append, List.length_append]; exact hown, fun j x r hx hr => ?_, ?_⟩
  · by_cases hj : j < A.length
    · rw [List.getElem?_append_left hj] at hx
      rw [List.getElem?_append_left (by omega)] at hr
      obtain ⟨h1, h2, h3⟩ := h.rec_ j x r hx hr
      exact ⟨h1, h2, owns_keep h3 ho (fun b hb hc => h.tsep x (List.mem_of_getElem? hx) b hb hc)⟩
    · rw [List.getElem?_append_right (by omega)] at hx
      rw [List.getElem?_append_right (by omega)] at hr
      rw [← hla] at hr
      obtain ⟨h1, h2, h3⟩ := k.rec_ _ x r hx hr
      exact ⟨h1, h2, owns_keep h3 ho (fun b hb hc => hdis x (List.mem_of_getElem? hx) b hb hc)⟩
  · intro x hx b hb
    rcases hwh with e | e
    · rw [e]
      rcases List.mem_append.1 hx with hx | hx
      · exact h.tsep x hx b hb
      · exact hdis x hx b hb
    · rw [e]
      intro hc
      simp at hc
      rcases List.mem_append.1 hx with hx | hx
      · have := (h.lt b (.inr ⟨x, hx, hb⟩)).2; omega
      · have := (k.lt b (.inr ⟨x, hx, hb⟩)).2; omega


theorem AllR.recIn {w : World} {Z : Nat} {av : Value} {L : List RecC} {rs : List Rec} (h : AllR w Z av L rs) : ∃ a cap, av = .slice a rs.length cap ∧ RecIn w a rs := by
  have hl := h.len
  rcases owns_row h.row with ⟨rfl, h0, _⟩ | ⟨g, cap, rfl, h1, h2, h3⟩
  · have hr : rs = [] := List.eq_nil_of_length_eq_zero (by omega)
    subst hr
    exact ⟨none, 0, rfl, by intro i r hr; simp at hr⟩
  · refine ⟨some ⟨g, 0, none⟩, cap, by rw [hl], ?_⟩
    intro i r hr
    have hi : i < L.length := by have := (List.getElem?_eq_some_iff.1 hr).1; omega
    have hx : L[i]? = some L[i] := List.getElem?_eq_getElem hi
    obtain ⟨e1, e2, e3⟩ := h.rec_ i _ r hx hr
    have hc : ∀ (j : Nat) v, j < 5 → (L[i].cells)[j]? = some v → w.cell? ⟨g, 0 + i * 5 + j, none⟩ = some v := by
      intro j v hj hv
      have := h3 (i * 5 + j) v (by rw [recCells_get L i j hj, hx]; exact hv)
      rw [Nat.add_assoc]; exact this
    refine ⟨g, 0, L[i].sa, L[i].sc, rfl, ?_, ?_, ?_, ?_, ?_, ?_⟩
    · have := hc 0 _ (by omega) rfl; rw [← e1]; exact this
    · have := hc 1 _ (by omega) rfl; rw [← e1]; exact this
    · have := hc 2 _ (by omega) rfl; rw [← e1]; exact this
    · have := hc 3 _ (by omega) rfl; rw [← e1]; exact this
    · have := hc 4 _ (by omega) rfl; rw [← e2]; exact this
    · intro k t ht
      rcases owns_row e3 with ⟨_, h0, _⟩ | ⟨g', cap', q1, _, _, q3⟩
      · have := (List.getElem?_eq_some_iff.1 ht).1; omega
      · simp only [Value.slice.injEq] at q1
        exact ⟨g', 0, q1.1, q3 k (.int .i64 t) (by simp [ints, ht])⟩
/-- No two of them share memory. -/
def ApartR (L : List RecC) : Prop := ∀ (j k : Nat) x y b, L[j]? = some x → L[k]? = some y → some b = (Value.slice x.sa x.n x.sc).ownBlock → some b = (Value.slice y.sa y.n y.sc).ownBlock → j = k

/-- One more record. -/
theorem AllR.snoc {w w' : World} {Z : Nat} {av av' : Value} {A : List RecC} {ra : List Rec} {x : RecC} {r : Rec} (h : AllR w Z av A ra) (he : x.e = r.e) (hn : x.n = r.told.length) (hx : w.ownsRow Z 3 1 (.slice x.sa x.n x.sc) r.told.length (ints r.told)) (hg : w.grownBy w' av.ownBlock) (hown : w'.ownsRow Z 36 5 av' (A.length + 1) (recCells A ++ x.cells)) (hwh : av'.ownBlock = av.ownBlock ∨ av'.ownBlock = some w.heap.size) (hdis : ∀ b, some b = (Value.slice x.sa x.n x.sc).ownBlock → some b ≠ av.ownBlock) : AllR w' Z av' (A ++ [x]) (ra ++ [r]) := by
  have ho : Only (fun b => some b = av.ownBlock) w w' := only_of_grown hg
  have hla := h.len
  refine ⟨by simp; omega, by rw [recCells_append, List.length_append]; simpa [recCells] using hown, fun j y q hy hq => ?_, ?_⟩
  · by_cases hj : j < A.length
    · rw [List.getElem?_append_left hj] at hy
      rw [List.getElem?_append_left (by omega)] at hq
      obtain ⟨h1, h2, h3⟩ := h.rec_ j y q hy hq
      exact ⟨h1, h2, owns_keep h3 ho (fun b hb hc => h.tsep y (List.mem_of_getElem? hy) b hb hc)⟩
    · rw [List.getElem?_append_right (by omega)] at hy
      rw [List.getElem?_append_right (by omega)] at hq
      rw [← hla] at hq
      rcases hj0 : j - A.length with _ | m
      · rw [hj0] at hy hq
        simp at hy hq
        subst hy hq
        exact ⟨he, hn, owns_keep hx ho (fun b hb hc => hdis b hb hc)⟩
      · rw [hj0] at hy
        simp at hy
  · intro y hy b hb
    rcases hwh with e | e
    · rw [e]
      rcases List.mem_append.1 hy with hy | hy
      · exact h.tsep y hy b hb
      · simp at hy; subst hy; exact hdis b hb
    · rw [e]
      intro hc
      simp at hc
      rcases List.mem_append.1 hy with hy | hy
      · have := (h.lt b (.inr ⟨y, hy, hb⟩)).2; omega
      · simp at hy; subst hy; have := (hx.lt b hb.symm).2; omega
theorem ApartR.snoc {w : World} {Z : Nat} {av : Value} {A : List RecC} {ra : List Rec} {x : RecC} (h : ApartR A) (hA : AllR w Z av A ra) (hx : ∀ b, some b = (Value.slice x.sa x.n x.sc).ownBlock → w.heap.size ≤ b) : ApartR (A ++ [x]) := by
  intro j k y z b hy hz hby hbz
  have hlt : ∀ (j : Nat) y, A[j]? = some y → some b = (Value.slice y.sa y.n y.sc).ownBlock → b < w.heap.size := fun j y hy hb => (hA.lt b (.inr ⟨y, List.mem_of_getElem? hy, hb⟩)).2
  have hlast : ∀ (j : Nat) y, ¬ j < A.length → (A ++ [x])[j]? = some y → j = A.length ∧ y = x := by
    intro j y hj hy
    rw [List.getElem?_append_right (by omega)] at hy
    rcases hj0 : j - A.length with _ | m
    · rw [hj0] at hy; simp at hy; exact ⟨by omega, hy.symm⟩
    · rw [hj0] at hy; simp at hy
  by_cases hj : j < A.length
  · rw [List.getElem?_append_left hj] at hy
    by_cases hk : k < A.length
    · rw [List.getElem?_append_left hk] at hz
      exact h j k y z b hy hz hby hbz
    · obtain ⟨_, rfl⟩ := hlast k z hk hz
      have := hlt j y hy hby
      have := hx b hbz
      omega
  · obtain ⟨e1, rfl⟩ := hlast j y hj hy
    by_cases hk : k < A.length
    · rw [List.getElem?_append_left hk] at hz
      have := hlt k z hz hbz
      have := hx b hby
      omega
    · obtain ⟨e2, _⟩ := hlast k z hk hz
      omega
end Go.Proofs.Ytndlmgocldckfaa
