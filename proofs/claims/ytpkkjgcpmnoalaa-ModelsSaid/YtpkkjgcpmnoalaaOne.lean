import Derived.Test.YtpkkjgcpmnoalaaInv
namespace Go.Proofs.Ytpkkjgcpmnoalaa
open Go.RowKit
set_option linter.unusedVariables false
set_option linter.unusedSimpArgs false

set_option maxHeartbeats 400000 in
theorem one_none (wb : Nat) (w : World) :
    Calls Try.prog 25 #[.pointer (some ⟨wb, 0, none⟩), .pointer none, .pointer none] w fun e w' => e = .returned (.bool true) ∧ w' = w := by
  go_enter Try.func25, Try.ntmps25
  go_wp2
  go_ret
  exact ⟨rfl, rfl⟩

theorem Inv.one {base : Nat} {w0 w w2 : World} {wb : Nat} {lv lv2 : Value} {ps : List Pair} {p : Pair} (h : Inv base w0 wb lv ps) (hb : Below w0.heap.size w0 w)
    (hp : PairOK (fun b => w0.heap.size ≤ b ∧ b < w.heap.size ∧ ¬ p.has b) w p) (hm : ∀ b, p.has b → w0.heap.size ≤ b ∧ b < w.heap.size)
    (W : World) (hW : Below w.heap.size w W) (hg : W.grownBy w2 lv.ownBlock) (hown : w2.ownsRow base 52 2 lv2 (ps.length + 1) (pairsRow ps ++ pairCells p)) (hwh : lv2.ownBlock = lv.ownBlock ∨ lv2.ownBlock = some W.heap.size) :
    Inv base (w2.setCell ⟨wb, 0, none⟩ lv2) wb lv2 (ps ++ [p]) := by
  have hz0 := hb.size
  have hz1 := hW.size
  have hz2 := hg.size
  have hwb := h.wlt
  have hblo := h.blo
  have hlt : ∀ b, lv.ownBlock = some b → b < w0.heap.size := fun b hb => (h.owns.lt b hb).2
  have ho : Only (fun b => some b = lv.ownBlock) w w2 := (Only.new hW).trans (only_grown hg)
  have ho0 : Only (fun b => some b = lv.ownBlock) w0 w2 := (Only.new hb).trans ho
  have hs : Only (· = wb) w2 (w2.setCell ⟨wb, 0, none⟩ lv2) := Only.setCell (S := (· = wb)) (Only.refl _ _) rfl _
  have hsz : (w2.setCell ⟨wb, 0, none⟩ lv2).heap.size = w2.heap.size := by simp [World.setCell]
  have hwl : ¬ some wb = lv.ownBlock := fun e => h.lne e.symm
  have hw2 : ∀ b, b < w0.heap.size → some b ≠ lv.ownBlock → some b ≠ lv2.ownBlock := by
    intro b hb1 hb2
    rcases hwh with e | e <;> rw [e]
    · exact hb2
    · intro e'; have := Option.some.inj e'; omega
  have hnew : ∀ b, w0.heap.size ≤ b → b < w.heap.size → some b ≠ lv2.ownBlock := by
    intro b hb1 hb2
    rcases hwh with e | e <;> rw [e]
    · intro e'; have := hlt b e'.symm; omega
    · intro e'; have := Option.some.inj e'; omega
  have hcell : ∀ i v, i ≠ 0 → w0.cell? ⟨wb, i, none⟩ = some v → (w2.setCell ⟨wb, 0, none⟩ lv2).cell? ⟨wb, i, none⟩ = some v := by
    intro i v hi hv
    rw [World.cell?_setCell_other _ _ _ _ (by simp; try omega)]; exact ho0.at hv hwl
  have hmut : ∀ b, Mut (ps ++ [p]) b → Mut ps b ∨ p.has b := by
    rintro b ⟨x, hx, hxb⟩
    rcases List.mem_append.1 hx with h1 | h1
    · exact .inl ⟨x, h1, hxb⟩
    · simp at h1; subst h1; exact .inr hxb
  refine ⟨?_, ?_, ?_, ⟨hcell 1 _ (by omega) h.book.1, hcell 2 _ (by omega) h.book.2.1, hcell 3 _ (by omega) h.book.2.2⟩, ?_, h.blo, ?_, ?_, ?_⟩
  · exact World.cell?_setCell_same' _ _ _ (by rw [ho0.at h.cell hwl]; rfl)
  · rw [List.length_append, show pairsRow (ps ++ [p]) = pairsRow ps ++ pairCells p by simp [pairsRow]]
    obtain ⟨h1, h2⟩ := hown
    refine ⟨h1, ?_⟩
    rcases h2 with h2 | ⟨g, cap, cur, hv, hg', hh, r⟩
    · exact .inl h2
    · refine .inr ⟨g, cap, cur, hv, hg', ?_, r⟩
      rw [Below.heap_setCell _ _ _ _ ?_]; exact hh
      have := hw2 wb hwb hwl
      rw [hv] at this
      simp [Value.ownBlock] at this
      exact Ne.symm this
  · exact fun e => hw2 wb hwb hwl e.symm
  · rw [World.frozen?_setCell, World.frozen?_of_block (w := w0) (a := ⟨wb, 0, none⟩) (ho0.block wb hwb hwl)]; exact h.thaw
  · intro x hx
    rcases List.mem_append.1 hx with h1 | h1
    · refine (((h.pairs x h1).only ho0 (fun b hb => hb.2.2.2.2) (fun b hb => ?_)).only hs (fun b hb => hb.2.2.2.1) (fun b hb => ?_)).mono ?_
      · exact (h.muts b ⟨x, h1, hb⟩).2.2.2
      · exact (h.muts b ⟨x, h1, hb⟩).2.2.1
      · intro b hb
        refine ⟨hb.1, by rw [hsz]; have := hb.2.1; omega, ?_, hb.2.2.2.1, hw2 b hb.2.1 hb.2.2.2.2⟩
        intro hm'
        rcases hmut b hm' with h3 | h3
        · exact hb.2.2.1 h3
        · have := (hm b h3).1; have := hb.2.1; omega
    · simp at h1; subst h1
      refine ((hp.only ho (fun b hb e => ?_) (fun b hb e => ?_)).only hs (fun b hb => ?_) (fun b hb => ?_)).mono ?_
      · have := hlt b e.symm; omega
      · have := hlt b e.symm; have := hm b hb; omega
      · show ¬ b = wb; omega
      · show ¬ b = wb; have := hm b hb; omega
      · intro b hb
        have hbm := (h.owns.1)
        refine ⟨by have := hb.1; omega, by rw [hsz]; have := hb.2.1; omega, ?_, by have := hb.1; omega, hnew b hb.1 hb.2.1⟩
        intro hm'
        rcases hmut b hm' with h3 | h3
        · have := (h.muts b h3).2.1; have := hb.1; omega
        · exact hb.2.2 h3
  · intro b hb
    rw [hsz]
    rcases hmut b hb with h3 | h3
    · have := h.muts b h3
      exact ⟨this.1, by omega, this.2.2.1, hw2 b this.2.1 this.2.2.2⟩
    · have := hm b h3
      exact ⟨by omega, by omega, by omega, hnew b this.1 this.2⟩
  · intro i j x y b hi hj hx hy
    have look : ∀ (i : Nat) s, (ps ++ [p])[i]? = some s → (i < ps.length ∧ ps[i]? = some s) ∨ (i = ps.length ∧ s = p) := by
      intro i s hs
      by_cases hi : i < ps.length
      · rw [List.getElem?_append_left hi] at hs; exact .inl ⟨hi, hs⟩
      · rw [List.getElem?_append_right (by omega)] at hs
        have : i - ps.length = 0 := by
          have := (List.getElem?_eq_some_iff.1 hs).1
          simp at this; omega
        rw [this] at hs
        simp at hs
        exact .inr ⟨by omega, hs.symm⟩
    rcases look i x hi with ⟨i1, i2⟩ | ⟨i1, rfl⟩ <;> rcases look j y hj with ⟨j1, j2⟩ | ⟨j1, rfl⟩
    · exact h.apart i j x y b i2 j2 hx hy
    · have := (h.muts b ⟨x, List.mem_of_getElem? i2, hx⟩).2.1
      have := (hm b hy).1; omega
    · have := (h.muts b ⟨y, List.mem_of_getElem? j2, hy⟩).2.1
      have := (hm b hx).1; omega
    · omega

set_option maxRecDepth 100000 in
set_option maxHeartbeats 1000000 in
theorem one_some {base : Nat} {w0 : World} (wb : Nat) (lv : Value) (ps : List Pair) (p : Pair) (w : World) (h : Inv base w0 wb lv ps) (hb : Below w0.heap.size w0 w)
    (hp : PairOK (fun b => w0.heap.size ≤ b ∧ b < w.heap.size ∧ ¬ p.has b) w p) (hm : ∀ b, p.has b → w0.heap.size ≤ b ∧ b < w.heap.size) (hlen : (ps.length + 1) * 16 ≤ 140737488355328) (hbase : base ≤ w0.heap.size) :
    Calls Try.prog 25 #[.pointer (some ⟨wb, 0, none⟩), .pointer (some ⟨p.kb, 0, none⟩), .pointer (some ⟨p.rb, 0, none⟩)] w fun e w' => e = .returned (.bool true) ∧ Below base w0 w' ∧ ∃ lv', Inv base w' wb lv' (ps ++ [p]) := by
  have hw0 := h.wlt
  have hc0 := below_at hb h.cell hw0
  have hz0 := hb.size
  have hown := own_kept h.owns hb
  have Hown := hide hown
  clear hown
  obtain ⟨la, lc, rfl⟩ := owns_form h.owns
  have hf0 := (hb.frozen (p := ⟨wb, 0, none⟩) hw0).trans h.thaw
  go_enter Try.func25, Try.ntmps25
  go_wp2_with (at_builtin; refine wpList_append_src rfl (.tmp 18) (.tmp 22) 28 rfl base 52 (.agg #[.pointer none, .pointer none]) 2 16 Try.underlying28 Try.info52 rfl (by omega) _ ps.length (pairsRow ps) rfl (Hown.out.alloc _) _ 1 (pairCells p) rfl (.inr (.inl ⟨w.heap.size, 0, _, rfl, ?_⟩)) rfl (by simp [pairCells, Value.oneCell']) (by omega) (by omega) (by simp; omega) ?_)
  · intro j u hu
    have hj : j < 2 := by have := (List.getElem?_eq_some_iff.1 hu).1; simpa [pairCells] using this
    have : j = 0 ∨ j = 1 := by omega
    rcases this with rfl | rfl <;> simp [pairCells] at hu <;> subst hu <;> simp [go_sem]
  intro v2 w2 hown2 hgr2 hwh2
  obtain ⟨sa2, sc2, rfl⟩ := owns_form hown2.out
  have hW := (Below.refl w.heap.size w).alloc (Nat.le_refl _) (.cells #[.pointer (some ⟨p.kb, 0, none⟩), .pointer (some ⟨p.rb, 0, none⟩)] 52)
  have hI := h.one hb hp hm _ hW hgr2.out hown2.out (by simpa using hwh2.out)
  have ho2 := (only_grown hgr2.out)
  have hwl : ¬ some wb = (Value.slice la ps.length lc).ownBlock := fun e => h.lne e.symm
  have hc2 : w2.cell? ⟨wb, 0, none⟩ = some (.slice la ps.length lc) := ho2.at (below_at hW hc0 (by omega)) hwl
  have hf2 : w2.frozen? ⟨wb, 0, none⟩ = false := by
    rw [World.frozen?_of_block (w := w.alloc (.cells #[.pointer (some ⟨p.kb, 0, none⟩), .pointer (some ⟨p.rb, 0, none⟩)] 52)) (a := ⟨wb, 0, none⟩) (ho2.block wb (by simp; omega) hwl)]
    exact (hW.frozen (p := ⟨wb, 0, none⟩) (by show wb < _; omega)).trans hf0
  have hbb : Below base w0 w2 := (hb.mono hbase).trans ((hW.mono (by omega)).grown hgr2.out (by simp; omega) (fun b hb => (h.owns.lt b hb).1))
  have HI := hide hI
  have hblo := h.blo
  clear hI hc0 hf0
  go_wp2
  go_ret
  exact ⟨rfl, hbb.setCell (by exact hblo) _, _, HI.out⟩
end Go.Proofs.Ytpkkjgcpmnoalaa
