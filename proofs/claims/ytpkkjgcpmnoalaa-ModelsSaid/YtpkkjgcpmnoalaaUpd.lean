import Derived.Test.YtpkkjgcpmnoalaaInv
namespace Go.Proofs.Ytpkkjgcpmnoalaa
open Go.RowKit
set_option linter.unusedVariables false
set_option linter.unusedSimpArgs false

theorem Inv.update {base : Nat} {w w' : World} {wb : Nat} {lv : Value} {ps : List Pair} {i : Nat} {p p' : Pair} (h : Inv base w wb lv ps) (hi : ps[i]? = some p) (ho : Only p.has w w')
    (hk : p'.kb = p.kb) (hm : p'.mb = p.mb) (hr : p'.rb = p.rb) (hp : PairOK (fun b => Lasts base w wb lv ps b ∨ (w.heap.size ≤ b ∧ b < w'.heap.size)) w' p') : Inv base w' wb lv (ps.set i p') := by
  have hz := ho.size
  have hw := h.wlt
  have hilt : i < ps.length := (List.getElem?_eq_some_iff.1 hi).1
  have hpm : p ∈ ps := List.mem_of_getElem? hi
  have hmp : ∀ b, p.has b → Mut ps b := fun b hb => ⟨p, hpm, hb⟩
  have hwn : ¬ p.has wb := fun hb => (h.muts wb (hmp wb hb)).2.2.1 rfl
  have hbl : base ≤ w.heap.size := Nat.le_trans h.blo (Nat.le_of_lt hw)
  have hhas : ∀ b, p'.has b ↔ p.has b := by intro b; simp [Pair.has, hk, hm, hr]
  have hmem : ∀ x, x ∈ ps.set i p' → (∃ j, j ≠ i ∧ ps[j]? = some x) ∨ x = p' := by
    intro x hx
    obtain ⟨j, hj, hjx⟩ := List.getElem_of_mem hx
    by_cases hji : j = i
    · subst hji; simp at hjx; exact .inr hjx.symm
    · refine .inl ⟨j, hji, ?_⟩
      rw [List.getElem_set_ne (Ne.symm hji)] at hjx
      rw [← hjx]; simp
  have hmut : ∀ b, Mut (ps.set i p') b ↔ Mut ps b := by
    intro b
    constructor
    · rintro ⟨x, hx, hxb⟩
      rcases hmem x hx with ⟨j, _, hj⟩ | rfl
      · exact ⟨x, List.mem_of_getElem? hj, hxb⟩
      · exact hmp b ((hhas b).1 hxb)
    · rintro ⟨x, hx, hxb⟩
      obtain ⟨j, hj, hjx⟩ := List.getElem_of_mem hx
      by_cases hji : j = i
      · subst hji
        have : x = p := by rw [← hjx]; rw [List.getElem?_eq_getElem hj] at hi; exact Option.some.inj hi
        subst this
        exact ⟨p', List.mem_set hj p', (hhas b).2 hxb⟩
      · exact ⟨x, by rw [List.mem_iff_getElem?]; exact ⟨j, by rw [List.getElem?_set_ne (Ne.symm hji), List.getElem?_eq_getElem hj, hjx]⟩, hxb⟩
  have hlast : ∀ b, Lasts base w wb lv ps b → Lasts base w' wb lv (ps.set i p') b := by
    intro b hb
    exact ⟨hb.1, by have := hb.2.1; omega, fun hc => hb.2.2.1 ((hmut b).1 hc), hb.2.2.2.1, hb.2.2.2.2⟩
  have hrow : pairsRow (ps.set i p') = pairsRow ps := by
    unfold pairsRow
    rw [List.flatMap_def, List.flatMap_def, List.map_set]
    congr 1
    apply List.ext_getElem?
    intro j
    by_cases hji : j = i
    · subst hji
      rw [List.getElem?_set_self (by simpa using hilt), List.getElem?_map, hi]
      simp [pairCells, hk, hr]
    · rw [List.getElem?_set_ne (Ne.symm hji)]
  refine ⟨ho.at h.cell hwn, ?_, h.lne, ⟨ho.at h.book.1 hwn, ho.at h.book.2.1 hwn, ho.at h.book.2.2 hwn⟩, ?_, h.blo, ?_, ?_, ?_⟩
  · rw [hrow, List.length_set]
    obtain ⟨h1, h2⟩ := h.owns
    refine ⟨h1, ?_⟩
    rcases h2 with h2 | ⟨g, cap, cur, hv, hg', hh, r⟩
    · exact .inl h2
    · refine .inr ⟨g, cap, cur, hv, hg', ?_, r⟩
      rw [ho.block g (Array.getElem?_eq_some_iff.1 hh).1 (fun hb => (h.muts g (hmp g hb)).2.2.2 (by rw [hv]; rfl))]; exact hh
  · rw [World.frozen?_of_block (w := w) (a := ⟨wb, 0, none⟩) (ho.block wb hw hwn)]; exact h.thaw
  · intro x hx
    rcases hmem x hx with ⟨j, hji, hj⟩ | rfl
    · have hx' := List.mem_of_getElem? hj
      refine ((h.pairs x hx').only ho (fun b hb hc => hb.2.2.1 (hmp b hc)) (fun b hb hc => ?_)).mono hlast
      exact hji (h.apart j i x p b hj hi hb hc)
    · refine hp.mono ?_
      rintro b (hb | hb)
      · exact hlast b hb
      · refine ⟨by omega, hb.2, fun hc => ?_, by omega, fun e => ?_⟩
        · have := (h.muts b ((hmut b).1 hc)).2.1; omega
        · have := (h.owns.lt b e.symm).2; omega
  · intro b hb
    have := h.muts b ((hmut b).1 hb)
    exact ⟨this.1, by omega, this.2.2⟩
  · intro i' j' x y b hi' hj' hx hy
    have look : ∀ (a : Nat) s, (ps.set i p')[a]? = some s → ∃ s', ps[a]? = some s' ∧ (s.has b → s'.has b) := by
      intro a s hs
      by_cases hai : a = i
      · subst hai
        rw [List.getElem?_set_self hilt] at hs
        cases hs
        exact ⟨p, hi, (hhas b).1⟩
      · rw [List.getElem?_set_ne (Ne.symm hai)] at hs
        exact ⟨s, hs, id⟩
    obtain ⟨x', hx1, hx2⟩ := look i' x hi'
    obtain ⟨y', hy1, hy2⟩ := look j' y hj'
    exact h.apart i' j' x' y' b hx1 hy1 (hx2 hx) (hy2 hy)

theorem PairOK.lt {R : Nat → Prop} {w : World} {p : Pair} (h : PairOK R w p) : ∀ b, p.has b → b < w.heap.size := by
  obtain ⟨kv, dv, qb, h0, _⟩ := h.prog.body
  obtain ⟨es, clock, hm, _⟩ := h.prog.map
  obtain ⟨kv', dv', rv, qv, h0', _⟩ := h.ref.body
  rintro b (rfl | rfl | rfl)
  · exact lt_of_cell h0
  · exact (Array.getElem?_eq_some_iff.1 hm).1
  · exact lt_of_cell h0'
end Go.Proofs.Ytpkkjgcpmnoalaa
