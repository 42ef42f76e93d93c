import Derived.Test.YtndlmgocldckfaaGreatKnZ
import Derived.Test.YtndlmgocldckfaaGreatRfZ
import Derived.Test.YtndlmgocldckfaaGreatPlanX
import Derived.Test.YtndlmgocldckfaaGreatStZ
import Derived.Test.YtndlmgocldckfaaGreatChZ
import Derived.Test.YtndlmgocldckfaaGreatLnZ
namespace Go.Proofs.YtndlmgocldckfaaGreat
open Go.RowKit
set_option linter.unusedVariables false
set_option linter.unusedSimpArgs false

/-! All that a script has made: kernels of the program beside the document's, and the book of what came out. -/

structure Pair where
  kb : Nat
  qb : Nat
  mb : Nat
  rb : Nat
  kbs : Nat
  ov : Value
  ents : Int
  ks : List (List Ins)
  draws : List Int
  s : KS
  kR : Nat → Prop
  rR : Nat → Prop

/-- What a call on it may write into. -/
def Pair.has (p : Pair) (b : Nat) : Prop := KSet p.kb p.qb p.mb p.ov b ∨ b = p.rb
/-- All that is its own. -/
def Pair.own (p : Pair) (b : Nat) : Prop := p.has b ∨ p.kR b ∨ p.rR b
def regL (ents : Int) (s : KS) : List Int := (List.range (ents * 4).toNat).map s.regs

structure PairOK (w : World) (p : Pair) : Prop where
  ker : KerP p.kR p.kbs w p.kb p.qb p.mb p.ov p.ents p.ks p.draws p.s
  ref : RefK p.rR w p.rb p.ents p.ks p.draws p.s.taken p.s.clock p.s.next (regL p.ents p.s) p.s.q
  fit : Fit p.ents p.ks p.draws p.s
  regz : RegZ p.ents p.s
  kind : kindF p.ents p.ks = none
  draw : drawsF p.draws = true
  kbs : p.kbs ≤ w.heap.size
  rlt : p.rb < w.heap.size
  sepr : ∀ b, p.rR b → b < w.heap.size ∧ b ≠ p.rb ∧ ¬ KSet p.kb p.qb p.mb p.ov b
  sepk : ∀ b, p.kR b → b ≠ p.rb
  sep : ¬ KSet p.kb p.qb p.mb p.ov p.rb

theorem PairOK.lt {w : World} {p : Pair} (h : PairOK w p) : ∀ b, p.own b → b < w.heap.size := by
  rintro b ((hb | rfl) | hb | hb)
  · exact h.ker.lt b hb
  · exact h.rlt
  · exact h.ker.rlt b hb
  · exact (h.sepr b hb).1
theorem PairOK.only {S : Nat → Prop} {w w' : World} {p : Pair} (h : PairOK w p) (ho : Only S w w') (hS : ∀ b, p.own b → ¬ S b) : PairOK w' p := by
  have hz := ho.size
  exact ⟨h.ker.only ho (fun b hb => hS b (.inl (.inl hb))) (fun b hb => hS b (.inr (.inl hb))), h.ref.only ho (fun b hb => hS b (.inr (.inr hb))) (hS _ (.inl (.inr rfl))), h.fit, h.regz, h.kind, h.draw, Nat.le_trans h.kbs hz, Nat.lt_of_lt_of_le h.rlt hz, fun b hb => ⟨Nat.lt_of_lt_of_le (h.sepr b hb).1 hz, (h.sepr b hb).2⟩, h.sepk, h.sep⟩

/-- The book: its three lists, the blocks that are the caller's, and what is said of them. -/
structure BookD where
  bv : Value
  iv : Value
  rv : Value
  bs : Nat → Prop
  ok : World → Prop
def BookD.stable (bk : BookD) : Prop := ∀ (w w' : World) (S : Nat → Prop), bk.ok w → Only S w w' → (∀ b, bk.bs b → ¬ S b) → bk.ok w'
def bookZ : BookD := ⟨.slice none 0 0, .slice none 0 0, .slice none 0 0, fun _ => False, fun _ => True⟩

def pairCells (p : Pair) : List Value := [.pointer (some ⟨p.kb, 0, none⟩), .pointer (some ⟨p.rb, 0, none⟩)]
def pairsRow (ps : List Pair) : List Value := ps.flatMap pairCells
theorem pairsRow_length (ps : List Pair) : (pairsRow ps).length = ps.length * 2 := by
  induction ps with
  | nil => rfl
  | cons x l ih => simp [pairsRow, pairCells] at ih ⊢; omega
theorem pairsRow_get : ∀ (ps : List Pair) (i : Nat) (p : Pair), ps[i]? = some p → (pairsRow ps)[i * 2]? = some (.pointer (some ⟨p.kb, 0, none⟩)) ∧ (pairsRow ps)[i * 2 + 1]? = some (.pointer (some ⟨p.rb, 0, none⟩))
  | [], i, p, h => by simp at h
  | x :: ps, 0, p, h => by simp at h; subst h; simp [pairsRow, pairCells]
  | x :: ps, i + 1, p, h => by
    have ih := pairsRow_get ps i p (by simpa using h)
    have e : (i + 1) * 2 = i * 2 + 1 + 1 := by omega
    rw [e]
    simpa [pairsRow, pairCells] using ih

structure Inv (base : Nat) (w : World) (wb : Nat) (lv : Value) (ps : List Pair) (bk : BookD) : Prop where
  cell : w.cell? ⟨wb, 0, none⟩ = some lv
  book : w.cell? ⟨wb, 1, none⟩ = some bk.bv ∧ w.cell? ⟨wb, 2, none⟩ = some bk.iv ∧ w.cell? ⟨wb, 3, none⟩ = some bk.rv
  room : Room w wb 4
  owns : w.ownsRow base 52 2 lv ps.length (pairsRow ps)
  lne : lv.ownBlock ≠ some wb
  blo : base ≤ wb
  pairs : ∀ p ∈ ps, PairOK w p
  muts : ∀ p ∈ ps, ∀ b, p.own b → base ≤ b ∧ b ≠ wb ∧ some b ≠ lv.ownBlock ∧ ¬ bk.bs b
  apart : ∀ (i j : Nat) p p' b, ps[i]? = some p → ps[j]? = some p' → p.own b → p'.own b → i = j
  bks : ∀ b, bk.bs b → base ≤ b ∧ b < w.heap.size ∧ b ≠ wb ∧ some b ≠ lv.ownBlock
  bok : bk.ok w
  bst : bk.stable

section
variable {base : Nat} {w w' : World} {wb : Nat} {lv : Value} {ps : List Pair} {bk : BookD}
theorem Inv.wlt (h : Inv base w wb lv ps bk) : wb < w.heap.size := lt_of_cell h.cell
theorem Inv.lo (h : Inv base w wb lv ps bk) : base ≤ w.heap.size := Nat.le_trans h.blo (Nat.le_of_lt h.wlt)

/-- The blocks of all that is there. -/
def Inv.Set (wb : Nat) (lv : Value) (ps : List Pair) (bk : BookD) (b : Nat) : Prop := b = wb ∨ some b = lv.ownBlock ∨ (∃ p ∈ ps, p.own b) ∨ bk.bs b

theorem Inv.only {S : Nat → Prop} (h : Inv base w wb lv ps bk) (ho : Only S w w') (hS : ∀ b, Inv.Set wb lv ps bk b → ¬ S b) : Inv base w' wb lv ps bk := by
  have hz := ho.size
  have hw := hS wb (.inl rfl)
  refine ⟨ho.at h.cell hw, ⟨ho.at h.book.1 hw, ho.at h.book.2.1 hw, ho.at h.book.2.2 hw⟩, h.room.only ho hw, ?_, h.lne, h.blo, fun p hp => (h.pairs p hp).only ho (fun b hb => hS b (.inr (.inr (.inl ⟨p, hp, hb⟩)))), h.muts, h.apart, ?_, ?_, h.bst⟩
  · obtain ⟨h1, h2⟩ := h.owns
    refine ⟨h1, ?_⟩
    rcases h2 with h2 | ⟨g, cap, cur, hv, hg', hh, r⟩
    · exact .inl h2
    · refine .inr ⟨g, cap, cur, hv, hg', ?_, r⟩
      rw [ho.block g (Array.getElem?_eq_some_iff.1 hh).1 (hS g (.inr (.inl (by rw [hv]; rfl))))]; exact hh
  · intro b hb
    have := h.bks b hb
    exact ⟨this.1, by omega, this.2.2⟩
  · exact h.bst w w' S h.bok ho (fun b hb => hS b (.inr (.inr (.inr hb))))
theorem Inv.below (h : Inv base w wb lv ps bk) (hb : Below w.heap.size w w') : Inv base w' wb lv ps bk := h.only (Only.new (S := fun _ => False) hb) (by simp)

/-- A call on one of the pairs. -/
theorem Inv.update {i : Nat} {p p' : Pair} (h : Inv base w wb lv ps bk) (hi : ps[i]? = some p) (ho : Only p.has w w') (hk : p'.kb = p.kb) (hr : p'.rb = p.rb) (hp : PairOK w' p') (hown : ∀ b, p'.own b → p.own b ∨ w.heap.size ≤ b) : Inv base w' wb lv (ps.set i p') bk := by
  have hz := ho.size
  have hw := h.wlt
  have hilt : i < ps.length := (List.getElem?_eq_some_iff.1 hi).1
  have hpm : p ∈ ps := List.mem_of_getElem? hi
  have hm := h.muts p hpm
  have hwn : ¬ p.has wb := fun hb => (hm wb (.inl hb)).2.1 rfl
  have hbl := h.lo
  have hlt : ∀ x ∈ ps, ∀ b, x.own b → b < w.heap.size := fun x hx b hb => (h.pairs x hx).lt b hb
  have hmem : ∀ x, x ∈ ps.set i p' → (∃ j, j ≠ i ∧ ps[j]? = some x) ∨ x = p' := by
    intro x hx
    obtain ⟨j, hj, hjx⟩ := List.getElem_of_mem hx
    by_cases hji : j = i
    · subst hji; simp at hjx; exact .inr hjx.symm
    · refine .inl ⟨j, hji, ?_⟩
      rw [List.getElem_set_ne (Ne.symm hji)] at hjx
      rw [← hjx]; simp
  have hrow : pairsRow (ps.set i p') = pairsRow ps := by
    unfold pairsRow
    rw [List.flatMap_def, List.flatMap_def, List.map_set]
    congr 1
    apply List.ext_getElem?
    intro j
    by_cases hji : j = i
    · subst hji
      rw [List.getElem?_set_self (by simpa using hilt), List.getElem?_map, hi]
      simp [pairCells, hk, hr]
    · rw [List.getElem?_set_ne (Ne.symm hji)]
  refine ⟨ho.at h.cell hwn, ⟨ho.at h.book.1 hwn, ho.at h.book.2.1 hwn, ho.at h.book.2.2 hwn⟩, h.room.only ho hwn, ?_, h.lne, h.blo, ?_, ?_, ?_, ?_, ?_, h.bst⟩
  · rw [hrow, List.length_set]
    obtain ⟨h1, h2⟩ := h.owns
    refine ⟨h1, ?_⟩
    rcases h2 with h2 | ⟨g, cap, cur, hv, hg', hh, r⟩
    · exact .inl h2
    · refine .inr ⟨g, cap, cur, hv, hg', ?_, r⟩
      rw [ho.block g (Array.getElem?_eq_some_iff.1 hh).1 (fun hb => (hm g (.inl hb)).2.2.1 (by rw [hv]; rfl))]; exact hh
  · intro x hx
    rcases hmem x hx with ⟨j, hji, hj⟩ | rfl
    · exact (h.pairs x (List.mem_of_getElem? hj)).only ho (fun b hb hc => hji (h.apart j i x p b hj hi hb (.inl hc)))
    · exact hp
  · intro x hx b hb
    rcases hmem x hx with ⟨j, hji, hj⟩ | rfl
    · exact h.muts x (List.mem_of_getElem? hj) b hb
    · rcases hown b hb with hb | hb
      · exact hm b hb
      · refine ⟨by omega, by omega, fun e => ?_, fun e => ?_⟩
        · have := (h.owns.lt b e.symm).2; omega
        · have := (h.bks b e).2.1; omega
  · intro i' j' x y b hi' hj' hx hy
    have look : ∀ (a : Nat) s, (ps.set i p')[a]? = some s → s.own b → (∃ s', ps[a]? = some s' ∧ s'.own b) ∨ (a = i ∧ w.heap.size ≤ b) := by
      intro a s hs hb
      by_cases hai : a = i
      · subst hai
        rw [List.getElem?_set_self hilt] at hs
        cases hs
        rcases hown b hb with hb | hb
        · exact .inl ⟨p, hi, hb⟩
        · exact .inr ⟨rfl, hb⟩
      · rw [List.getElem?_set_ne (Ne.symm hai)] at hs
        exact .inl ⟨s, hs, hb⟩
    rcases look i' x hi' hx with ⟨x', hx1, hx2⟩ | ⟨hx1, hx2⟩ <;> rcases look j' y hj' hy with ⟨y', hy1, hy2⟩ | ⟨hy1, hy2⟩
    · exact h.apart i' j' x' y' b hx1 hy1 hx2 hy2
    · have := hlt x' (List.mem_of_getElem? hx1) b hx2; omega
    · have := hlt y' (List.mem_of_getElem? hy1) b hy2; omega
    · omega
  · intro b hb
    have := h.bks b hb
    exact ⟨this.1, by omega, this.2.2⟩
  · exact h.bst w w' p.has h.bok ho (fun b hb hc => (hm b (.inl hc)).2.2.2 hb)

/-- One pair more. -/
theorem Inv.one {w0 w2 : World} {lv2 : Value} {p : Pair} (h : Inv base w0 wb lv ps bk) (hb : Below w0.heap.size w0 w) (hp : PairOK w p) (hm : ∀ b, p.own b → w0.heap.size ≤ b)
    (W : World) (hW : Below w.heap.size w W) (hg : W.grownBy w2 lv.ownBlock) (hown : w2.ownsRow base 52 2 lv2 (ps.length + 1) (pairsRow ps ++ pairCells p)) (hwh : lv2.ownBlock = lv.ownBlock ∨ lv2.ownBlock = some W.heap.size) :
    Inv base (w2.setCell ⟨wb, 0, none⟩ lv2) wb lv2 (ps ++ [p]) bk := by
  have hz0 := hb.size
  have hz1 := hW.size
  have hz2 := hg.size
  have hwb := h.wlt
  have hblo := h.blo
  have hlt : ∀ b, lv.ownBlock = some b → b < w0.heap.size := fun b hb => (h.owns.lt b hb).2
  have ho : Only (fun b => some b = lv.ownBlock) w w2 := (Only.new hW).trans ⟨hg.os, hg.tape, hg.output, hg.size, fun k hk hn => hg.block k hk hn⟩
  have ho0 : Only (fun b => some b = lv.ownBlock) w0 w2 := (Only.new hb).trans ho
  have hs : Only (· = wb) w2 (w2.setCell ⟨wb, 0, none⟩ lv2) := Only.setCell (S := (· = wb)) (Only.refl _ _) rfl _
  have hsz : (w2.setCell ⟨wb, 0, none⟩ lv2).heap.size = w2.heap.size := by simp [World.setCell]
  have hwl : ¬ some wb = lv.ownBlock := fun e => h.lne e.symm
  have hw2 : ∀ b, b < w0.heap.size → some b ≠ lv.ownBlock → some b ≠ lv2.ownBlock := by
    intro b hb1 hb2
    rcases hwh with e | e <;> rw [e]
    · exact hb2
    · intro e'; have := Option.some.inj e'; omega
  have hnew : ∀ b, w0.heap.size ≤ b → b < w.heap.size → some b ≠ lv2.ownBlock := by
    intro b hb1 hb2
    rcases hwh with e | e <;> rw [e]
    · intro e'; have := hlt b e'.symm; omega
    · intro e'; have := Option.some.inj e'; omega
  have hcell : ∀ i v, i ≠ 0 → w0.cell? ⟨wb, i, none⟩ = some v → (w2.setCell ⟨wb, 0, none⟩ lv2).cell? ⟨wb, i, none⟩ = some v := by
    intro i v hi hv
    rw [World.cell?_setCell_other _ _ _ _ (by simp; try omega)]; exact ho0.at hv hwl
  have hroom : Room w2 wb 4 := h.room.only ho0 hwl
  refine ⟨World.cell?_setCell_same' _ _ _ (hroom 0 (by omega)).1, ⟨hcell 1 _ (by omega) h.book.1, hcell 2 _ (by omega) h.book.2.1, hcell 3 _ (by omega) h.book.2.2⟩, hroom.setCell _ _, ?_, fun e => hw2 wb hwb hwl e.symm, h.blo, ?_, ?_, ?_, ?_, ?_, h.bst⟩
  · rw [List.length_append, show pairsRow (ps ++ [p]) = pairsRow ps ++ pairCells p by simp [pairsRow]]
    obtain ⟨h1, h2⟩ := hown
    refine ⟨h1, ?_⟩
    rcases h2 with h2 | ⟨g, cap, cur, hv, hg', hh, r⟩
    · exact .inl h2
    · refine .inr ⟨g, cap, cur, hv, hg', ?_, r⟩
      rw [Below.heap_setCell _ _ _ _ ?_]; exact hh
      have := hw2 wb hwb hwl
      rw [hv] at this
      simp [Value.ownBlock] at this
      exact Ne.symm this
  · intro x hx
    rcases List.mem_append.1 hx with h1 | h1
    · exact ((h.pairs x h1).only ho0 (fun b hb => (h.muts x h1 b hb).2.2.1)).only hs (fun b hb => (h.muts x h1 b hb).2.1)
    · simp at h1; subst h1
      refine (hp.only ho (fun b hb e => ?_)).only hs (fun b hb => ?_)
      · have := hlt b e.symm; have := hm b hb; omega
      · show ¬ b = wb; have := hm b hb; omega
  · intro x hx b hb
    rcases List.mem_append.1 hx with h1 | h1
    · have := h.muts x h1 b hb
      exact ⟨this.1, this.2.1, hw2 b ((h.pairs x h1).lt b hb) this.2.2.1, this.2.2.2⟩
    · simp at h1; subst h1
      have h3 := hm b hb
      have h4 := hp.lt b hb
      exact ⟨by omega, by omega, hnew b h3 h4, fun e => by have := (h.bks b e).2.1; omega⟩
  · intro i j x y b hi hj hx hy
    have look : ∀ (i : Nat) s, (ps ++ [p])[i]? = some s → (i < ps.length ∧ ps[i]? = some s) ∨ (i = ps.length ∧ s = p) := by
      intro i s hs
      by_cases hi : i < ps.length
      · rw [List.getElem?_append_left hi] at hs; exact .inl ⟨hi, hs⟩
      · rw [List.getElem?_append_right (by omega)] at hs
        have : i - ps.length = 0 := by
          have := (List.getElem?_eq_some_iff.1 hs).1
          simp at this; omega
        rw [this] at hs
        simp at hs
        exact .inr ⟨by omega, hs.symm⟩
    rcases look i x hi with ⟨i1, i2⟩ | ⟨i1, rfl⟩ <;> rcases look j y hj with ⟨j1, j2⟩ | ⟨j1, rfl⟩
    · exact h.apart i j x y b i2 j2 hx hy
    · have := (h.pairs x (List.mem_of_getElem? i2)).lt b hx
      have := hm b hy; omega
    · have := (h.pairs y (List.mem_of_getElem? j2)).lt b hy
      have := hm b hx; omega
    · omega
  · intro b hb
    rw [hsz]
    have := h.bks b hb
    exact ⟨this.1, by omega, this.2.2.1, hw2 b this.2.1 this.2.2.2⟩
  · refine h.bst _ _ (· = wb) (h.bst _ _ _ h.bok ho0 (fun b hb => (h.bks b hb).2.2.2)) hs (fun b hb => (h.bks b hb).2.2.1)
end

theorem Tryz.info52 : (Tryz.prog.info? 52).map (fun i => (i.zero, i.size, i.bytes)) = some (some (.agg #[.pointer none, .pointer none]), 2, 16) := by kernel_rfl
end Go.Proofs.YtndlmgocldckfaaGreat

namespace Go.Proofs.YtndlmgocldckfaaGreat
open Go.RowKit
set_option linter.unusedVariables false
set_option linter.unusedSimpArgs false

theorem kind_facts {ents : Int} {ks : List (List Ins)} (h : kindF ents ks = none) : (1 ≤ ents ∧ ents ≤ 8) ∧ 1 ≤ ks.length ∧ ks.length ≤ 8 := by
  unfold kindF at h
  split at h
  · simp at h
  · rename_i hn
    simp [inB] at hn
    omega
theorem draws_facts {draws : List Int} (h : drawsF draws = true) : draws.length ≤ 1000 := by
  simp [drawsF] at h; exact h.1
theorem Inv.below_has {base : Nat} {w w' : World} {wb : Nat} {lv : Value} {ps : List Pair} {bk : BookD} {p : Pair} (h : Inv base w wb lv ps bk) (hp : p ∈ ps) (ho : Only p.has w w') : Below base w w' :=
  ho.below h.lo (fun k hk hb => by have := (h.muts p hp k (.inl hb)).1; omega)

/-- What calls on the pairs may write into. -/
def MutS (ps : List Pair) (b : Nat) : Prop := ∃ p ∈ ps, p.has b

theorem regL_get (ents : Int) (s : KS) (i : Nat) (h : i < (ents * 4).toNat) : (regL ents s)[i]? = some (s.regs i) := by
  simp [regL, h]
theorem regL_length (ents : Int) (s : KS) : (regL ents s).length = (ents * 4).toNat := by simp [regL]

set_option maxRecDepth 100000 in
set_option maxHeartbeats 2000000 in
theorem asked_plan {base : Nat} (wb : Nat) (lv : Value) (ps : List Pair) (bk : BookD) (i : Nat) (p : Pair) (a b c d ents : Int) (kv l rv qv sv : Value) (w : World) (h : Inv base w wb lv ps bk) (hi : ps[i]? = some p) :
    Calls Tryz.prog 17 #[.pointer (some ⟨wb, 0, none⟩), .agg #[.pointer (some ⟨p.kb, 0, none⟩), .pointer (some ⟨p.rb, 0, none⟩)], .agg #[.int .i64 3, .int .i64 a, .int .i64 b, .int .i64 c, .int .i64 d, .int .i64 ents, kv, l, rv, qv, sv]] w
      fun e w' => e = .returned (.bool true) ∧ Only (MutS ps) w w' ∧ ∃ ps', ps'.length = ps.length ∧ Inv base w' wb lv ps' bk := by
  have hpm : p ∈ ps := List.mem_of_getElem? hi
  have hOK := h.pairs p hpm
  obtain ⟨⟨he1, he8⟩, hk1, hk8⟩ := kind_facts hOK.kind
  have hlt := hOK.lt
  have hsz := h.lo
  obtain ⟨W, hW⟩ : ∃ W, W = (w.alloc (.cells #[.pointer (some ⟨p.kb, 0, none⟩), .pointer (some ⟨p.rb, 0, none⟩)] 52)).alloc (.cells #[.int .i64 3, .int .i64 a, .int .i64 b, .int .i64 c, .int .i64 d, .int .i64 ents, kv, l, rv, qv, sv] 41) := ⟨_, rfl⟩
  have hb : Below w.heap.size w W := by rw [hW]; exact ((Below.refl _ _).alloc (Nat.le_refl _) _).alloc (by simp) _
  have hWs : W.heap.size = w.heap.size + 1 + 1 := by rw [hW]; simp
  have c1 : W.cell? ⟨w.heap.size, 1, none⟩ = some (.pointer (some ⟨p.rb, 0, none⟩)) := by rw [hW]; simp [go_sem]
  have c2 : W.cell? ⟨w.heap.size + 1, 2, none⟩ = some (.int .i64 b) := by rw [hW]; simp [go_sem]
  have c3 : W.cell? ⟨w.heap.size + 1, 3, none⟩ = some (.int .i64 c) := by rw [hW]; simp [go_sem]
  have c4 : W.cell? ⟨w.heap.size + 1, 4, none⟩ = some (.int .i64 d) := by rw [hW]; simp [go_sem]
  have HI := hide (h.below hb)
  have HO := hide (HI.out.pairs p hpm)
  have Hlt := hide hlt
  have hnx := hOK.fit.ok.next
  have HB := hide hb
  have HOK := hide hOK
  clear hlt hOK hb
  rcases hyes : argF p.ents p.ks.length p.s b c d with _ | _
  · have Hyes := hide hyes
    clear hyes
    go_enter Tryz.func17, Tryz.ntmps17
    go_wp2_with fail
    rw [← hW]
    refine (tPlan_arg p.kb p.qb p.mb p.ov p.ents p.ks p.draws p.s _ _ _ _ HO.out.ker he1 he8 hk8 Hyes.out).mono ?_
    rintro e w2 ⟨rfl, hb2⟩
    have g1 := below_at hb2 c1 (by omega)
    have g2 := below_at hb2 c2 (by omega)
    have g3 := below_at hb2 c3 (by omega)
    have g4 := below_at hb2 c4 (by omega)
    have hz2 := hb2.size
    have HI2 := hide (HI.out.below hb2)
    have HB2 := hide (HB.out.trans (hb2.mono (by omega)))
    clear c1 c2 c3 c4 hb2
    go_wp2_with fail
    refine (rPlan_arg p.rb p.ents p.ks p.draws p.s.taken p.s.clock p.s.next _ p.s.q _ _ _ _ (HI2.out.pairs p hpm).ref he1 he8 hk8 Hyes.out).mono ?_
    rintro e w3 ⟨rfl, rfl⟩
    go_wp2
    go_ret
    exact ⟨rfl, Only.new HB2.out, ps, rfl, HI2.out⟩
  · have Hyes := hide hyes
    clear hyes
    go_enter Tryz.func17, Tryz.ntmps17
    go_wp2_with fail
    rw [← hW]
    refine (tPlan_yes p.kb p.qb p.mb p.ov p.ents p.ks p.draws p.s _ _ _ _ HO.out.ker HO.out.kbs HOK.out.fit.ok he1 he8 hk8 Hyes.out).mono ?_
    rintro e w2 ⟨ho2, hres⟩
    have hnk : ∀ x, w.heap.size ≤ x → ¬ KSet p.kb p.qb p.mb p.ov x := fun x hx hc => by have := Hlt.out x (.inl (.inl hc)); omega
    have g1 := ho2.at c1 (hnk _ (by omega))
    have g2 := ho2.at c2 (hnk _ (by omega))
    have g3 := ho2.at c3 (hnk _ (by omega))
    have g4 := ho2.at c4 (hnk _ (by omega))
    have hz2 := ho2.size
    have Href : Hid (RefK p.rR w2 p.rb p.ents p.ks p.draws p.s.taken p.s.clock p.s.next (regL p.ents p.s) p.s.q) := HO.out.ref.only ho2 (fun x hx hc => (HO.out.sepr x hx).2.2 hc) HO.out.sep
    have HRw : Hid (∀ x, p.rR x → x < w2.heap.size ∧ x ≠ p.rb) := fun x hx => ⟨by have := (HO.out.sepr x hx).1; omega, (HO.out.sepr x hx).2.1⟩
    have Hres := hide hres
    have Ho2 := hide ho2
    have Hnk := hide hnk
    clear hres ho2 hnk c1 c2 c3 c4
    rcases Hres.out with ⟨hn, rfl, hP2⟩ | ⟨hn, rfl, ov', hmv, hP2⟩
    · have Hd : Hid ((decide (p.s.q.length < 16) && decide (p.s.next < 1000000000)) = false) := by
        show _ = _
        rw [Bool.and_eq_false_iff, decide_eq_false_iff_not, decide_eq_false_iff_not]
        by_cases h1 : p.s.q.length < 16
        · exact .inr (fun h2 => hn ⟨h1, h2⟩)
        · exact .inl h1
      have HP2 := hide hP2
      clear hP2 hn
      go_wp2_with fail
      refine (rPlan_ok p.rb p.ents p.ks p.draws p.s.taken p.s.clock p.s.next _ p.s.q _ _ _ _ Href.out he1 he8 hk8 HRw.out (by omega) Hyes.out).mono ?_
      rintro e w3 hr3
      rcases hr3.symm with ⟨hf, _⟩ | ⟨_, rfl, rfl⟩
      · rw [Hd.out] at hf; cases hf
      have ho23 : Only p.has W w3 := Ho2.out.mono (fun x _ e => .inl e)
      have hup : Inv base w3 wb lv (ps.set i p) bk := by
        refine HI.out.update hi ho23 rfl rfl ⟨HP2.out, Href.out, HOK.out.fit, HOK.out.regz, HOK.out.kind, HOK.out.draw, Nat.le_trans HO.out.kbs hz2, Nat.lt_of_lt_of_le HO.out.rlt hz2, fun x hx => ⟨(HRw.out x hx).1, (HO.out.sepr x hx).2⟩, HO.out.sepk, HO.out.sep⟩ (fun x hx => .inl hx)
      have HU := hide hup
      have HBB : Hid (Only (MutS ps) w _) := (Only.new HB.out).trans (ho23.mono (fun x _ hx => ⟨p, hpm, hx⟩))
      clear hup ho23
      go_wp2
      go_ret
      exact ⟨by simp, HBB.out, _, by simp, HU.out⟩
    · have Hd : Hid ((decide (p.s.q.length < 16) && decide (p.s.next < 1000000000)) = true) := by show _ = _; simp; omega
      have HP2 := hide hP2
      have Hmv := hide hmv
      have Hn := hide hn
      clear hP2 hmv hn
      go_wp2_with fail
      refine (rPlan_ok p.rb p.ents p.ks p.draws p.s.taken p.s.clock p.s.next _ p.s.q _ _ _ _ Href.out he1 he8 hk8 HRw.out (by omega) Hyes.out).mono ?_
      rintro e w3 hr3
      rcases hr3 with ⟨hf, _⟩ | ⟨_, rfl, ho3, hP3⟩
      · rw [Hd.out] at hf; cases hf
      have ho23 : Only p.has W w3 := (Ho2.out.mono (S' := p.has) (fun x _ e => .inl e)).trans (ho3.mono (fun x _ e => .inr e))
      have hz3 := ho3.size
      have hset : ∀ x, KSet p.kb p.qb p.mb ov' x → KSet p.kb p.qb p.mb p.ov x ∨ W.heap.size ≤ x := by
        rintro x (hx | hx | hx | hx)
        · exact .inl (.inl hx)
        · exact .inl (.inr (.inl hx))
        · exact .inl (.inr (.inr (.inl hx)))
        · rcases Hmv.out with e | ⟨g, e, hg⟩
          · exact .inl (.inr (.inr (.inr (hx.trans e))))
          · rw [e] at hx; simp at hx; exact .inr (by omega)
      have hklt := HP2.out.lt
      have hsep' : ¬ KSet p.kb p.qb p.mb ov' p.rb := fun hc => by
        rcases hset _ hc with hc | hc
        · exact HO.out.sep hc
        · have := HO.out.rlt; omega
      have hup : Inv base w3 wb lv (ps.set i { p with ov := ov', s := planS p.s b c d, rR := fun x => p.rR x ∨ (w2.heap.size ≤ x ∧ x < w3.heap.size) }) bk := by
        refine HI.out.update hi ho23 rfl rfl ⟨?_, ?_, plan_fit HOK.out.fit Hyes.out Hn.out, HOK.out.regz, HOK.out.kind, HOK.out.draw, by have := HO.out.kbs; show p.kbs ≤ _; omega, by have := HO.out.rlt; show p.rb < _; omega, ?_, HO.out.sepk, hsep'⟩ ?_
        · exact HP2.out.only ho3 (fun x hx hc => hsep' (hc ▸ hx)) (fun x hx hc => HO.out.sepk x hx hc)
        · exact hP3
        · rintro x (hx | hx)
          · refine ⟨by have := (HRw.out x hx).1; omega, (HRw.out x hx).2, fun hc => ?_⟩
            rcases hset x hc with hc | hc
            · exact (HO.out.sepr x hx).2.2 hc
            · have := (HO.out.sepr x hx).1; omega
          · refine ⟨hx.2, by have := HO.out.rlt; show x ≠ p.rb; omega, fun hc => by have := hklt x hc; omega⟩
        · rintro x ((hx | hx) | hx | hx | hx)
          · rcases hset x hx with hx | hx
            · exact .inl (.inl (.inl hx))
            · exact .inr hx
          · exact .inl (.inl (.inr hx))
          · exact .inl (.inr (.inl hx))
          · exact .inl (.inr (.inr hx))
          · exact .inr (by omega)
      have HU := hide hup
      have HBB : Hid (Only (MutS ps) w _) := (Only.new HB.out).trans (ho23.mono (fun x _ hx => ⟨p, hpm, hx⟩))
      clear hup ho23 hset hklt hsep' hP3 ho3
      go_wp2
      go_ret
      exact ⟨by simp, HBB.out, _, by simp, HU.out⟩

set_option maxRecDepth 100000 in
set_option maxHeartbeats 2000000 in
theorem asked_now {base : Nat} (wb : Nat) (lv : Value) (ps : List Pair) (bk : BookD) (i : Nat) (p : Pair) (a b c d ents : Int) (kv l rv qv sv : Value) (w : World) (h : Inv base w wb lv ps bk) (hi : ps[i]? = some p) :
    Calls Tryz.prog 17 #[.pointer (some ⟨wb, 0, none⟩), .agg #[.pointer (some ⟨p.kb, 0, none⟩), .pointer (some ⟨p.rb, 0, none⟩)], .agg #[.int .i64 5, .int .i64 a, .int .i64 b, .int .i64 c, .int .i64 d, .int .i64 ents, kv, l, rv, qv, sv]] w
      fun e w' => e = .returned (.bool true) ∧ Only (MutS ps) w w' ∧ ∃ ps', ps'.length = ps.length ∧ Inv base w' wb lv ps' bk := by
  have hpm : p ∈ ps := List.mem_of_getElem? hi
  have hOK := h.pairs p hpm
  have htk := hOK.fit.ok.taken
  have hdl := draws_facts hOK.draw
  have hsz := h.lo
  obtain ⟨W, hW⟩ : ∃ W, W = (w.alloc (.cells #[.pointer (some ⟨p.kb, 0, none⟩), .pointer (some ⟨p.rb, 0, none⟩)] 52)).alloc (.cells #[.int .i64 5, .int .i64 a, .int .i64 b, .int .i64 c, .int .i64 d, .int .i64 ents, kv, l, rv, qv, sv] 41) := ⟨_, rfl⟩
  have hb : Below w.heap.size w W := by rw [hW]; exact ((Below.refl _ _).alloc (Nat.le_refl _) _).alloc (by simp) _
  have hWs : W.heap.size = w.heap.size + 1 + 1 := by rw [hW]; simp
  have c1 : W.cell? ⟨w.heap.size, 1, none⟩ = some (.pointer (some ⟨p.rb, 0, none⟩)) := by rw [hW]; simp [go_sem]
  have HI := hide (h.below hb)
  have HB := hide hb
  clear hOK hb
  go_enter Tryz.func17, Tryz.ntmps17
  go_wp2_with fail
  rw [← hW]
  refine (tNow_any p.kb p.qb p.mb p.ov p.ents p.ks p.draws p.s _ (HI.out.pairs p hpm).ker htk).mono ?_
  rintro e w2 ⟨rfl, hb2⟩
  have g1 := below_at hb2 c1 (by omega)
  have hz2 := hb2.size
  have HI2 := hide (HI.out.below hb2)
  have HB2 := hide (HB.out.trans (hb2.mono (by omega)))
  clear c1 hb2
  go_wp2_with fail
  refine (rNow_any p.rb p.ents p.ks p.draws p.s.taken p.s.clock p.s.next _ p.s.q _ (HI2.out.pairs p hpm).ref (by omega) (by omega)).mono ?_
  rintro e w3 ⟨rfl, hb3⟩
  have HI3 := hide (HI2.out.below hb3)
  have HB3 := hide (HB2.out.trans (hb3.mono (by omega)))
  clear hb3
  go_wp2
  go_ret
  exact ⟨by simp, Only.new HB3.out, ps, rfl, HI3.out⟩

set_option maxRecDepth 100000 in
set_option maxHeartbeats 2000000 in
theorem asked_reg {base : Nat} (wb : Nat) (lv : Value) (ps : List Pair) (bk : BookD) (i : Nat) (p : Pair) (a b c d ents : Int) (kv l rv qv sv : Value) (w : World) (h : Inv base w wb lv ps bk) (hi : ps[i]? = some p) :
    Calls Tryz.prog 17 #[.pointer (some ⟨wb, 0, none⟩), .agg #[.pointer (some ⟨p.kb, 0, none⟩), .pointer (some ⟨p.rb, 0, none⟩)], .agg #[.int .i64 6, .int .i64 a, .int .i64 b, .int .i64 c, .int .i64 d, .int .i64 ents, kv, l, rv, qv, sv]] w
      fun e w' => e = .returned (.bool true) ∧ Only (MutS ps) w w' ∧ ∃ ps', ps'.length = ps.length ∧ Inv base w' wb lv ps' bk := by
  have hpm : p ∈ ps := List.mem_of_getElem? hi
  have hOK := h.pairs p hpm
  obtain ⟨⟨he1, he8⟩, hk1, hk8⟩ := kind_facts hOK.kind
  have hsz := h.lo
  obtain ⟨W, hW⟩ : ∃ W, W = (w.alloc (.cells #[.pointer (some ⟨p.kb, 0, none⟩), .pointer (some ⟨p.rb, 0, none⟩)] 52)).alloc (.cells #[.int .i64 6, .int .i64 a, .int .i64 b, .int .i64 c, .int .i64 d, .int .i64 ents, kv, l, rv, qv, sv] 41) := ⟨_, rfl⟩
  have hb : Below w.heap.size w W := by rw [hW]; exact ((Below.refl _ _).alloc (Nat.le_refl _) _).alloc (by simp) _
  have hWs : W.heap.size = w.heap.size + 1 + 1 := by rw [hW]; simp
  have c1 : W.cell? ⟨w.heap.size, 1, none⟩ = some (.pointer (some ⟨p.rb, 0, none⟩)) := by rw [hW]; simp [go_sem]
  have c2 : W.cell? ⟨w.heap.size + 1, 2, none⟩ = some (.int .i64 b) := by rw [hW]; simp [go_sem]
  have c3 : W.cell? ⟨w.heap.size + 1, 3, none⟩ = some (.int .i64 c) := by rw [hW]; simp [go_sem]
  have HI := hide (h.below hb)
  have Hrl : Hid (((regL p.ents p.s).length : Int) = p.ents * 4) := by (show _ = _; rw [regL_length]; omega)
  have HB := hide hb
  clear hOK hb
  go_enter Tryz.func17, Tryz.ntmps17
  go_wp2_with fail
  rw [← hW]
  refine (tReg_any p.kb p.qb p.mb p.ov p.ents p.ks p.draws p.s _ _ _ (HI.out.pairs p hpm).ker he1 he8).mono ?_
  rintro e w2 ⟨rfl, hb2⟩
  have g1 := below_at hb2 c1 (by omega)
  have g2 := below_at hb2 c2 (by omega)
  have g3 := below_at hb2 c3 (by omega)
  have hz2 := hb2.size
  have HI2 := hide (HI.out.below hb2)
  have HB2 := hide (HB.out.trans (hb2.mono (by omega)))
  clear c1 c2 c3 hb2
  go_wp2_with fail
  refine (rReg_any p.rb p.ents p.ks p.draws p.s.taken p.s.clock p.s.next _ p.s.q _ _ _ (HI2.out.pairs p hpm).ref he1 he8 Hrl.out).mono ?_
  rintro e w3 ⟨rfl, hr3⟩
  have hE : e = .returned (.tuple #[.int .i64 (regF p.ents p.s b c).1, .int .i64 (regF p.ents p.s b c).2]) := by
    rcases hr3 with ⟨h1, rfl⟩ | ⟨h1, x, hx, rfl⟩
    · simp [regF, h1]
    · have h1' := h1
      simp only [inB, Bool.and_eq_true, decide_eq_true_eq] at h1'
      rw [regL_get _ _ _ (by omega)] at hx
      have hx' := Option.some.inj hx
      rw [show (b * 4 + c).toNat = b.toNat * 4 + c.toNat by omega] at hx'
      simp [regF, h1, hx']
  subst hE
  generalize (regF p.ents p.s b c).1 = r1
  generalize (regF p.ents p.s b c).2 = r2
  clear hr3
  go_wp2
  go_ret
  exact ⟨by simp, Only.new HB2.out, ps, rfl, HI2.out⟩

/-- A step on a pair: Plan, Now, Register. -/
theorem asked_any {base : Nat} (wb : Nat) (lv : Value) (ps : List Pair) (bk : BookD) (i : Nat) (p : Pair) (k a b c d ents : Int) (kv l rv qv sv : Value) (w : World) (h : Inv base w wb lv ps bk) (hi : ps[i]? = some p) (hk : k = 3 ∨ k = 5 ∨ k = 6) :
    Calls Tryz.prog 17 #[.pointer (some ⟨wb, 0, none⟩), .agg #[.pointer (some ⟨p.kb, 0, none⟩), .pointer (some ⟨p.rb, 0, none⟩)], .agg #[.int .i64 k, .int .i64 a, .int .i64 b, .int .i64 c, .int .i64 d, .int .i64 ents, kv, l, rv, qv, sv]] w
      fun e w' => e = .returned (.bool true) ∧ Only (MutS ps) w w' ∧ ∃ ps', ps'.length = ps.length ∧ Inv base w' wb lv ps' bk := by
  rcases hk with rfl | rfl | rfl
  · exact asked_plan wb lv ps bk i p a b c d ents kv l rv qv sv w h hi
  · exact asked_now wb lv ps bk i p a b c d ents kv l rv qv sv w h hi
  · exact asked_reg wb lv ps bk i p a b c d ents kv l rv qv sv w h hi
end Go.Proofs.YtndlmgocldckfaaGreat

namespace Go.Proofs.YtndlmgocldckfaaGreat
open Go.RowKit
set_option linter.unusedVariables false
set_option linter.unusedSimpArgs false

set_option maxHeartbeats 400000 in
theorem one_none (wb : Nat) (w : World) :
    Calls Tryz.prog 29 #[.pointer (some ⟨wb, 0, none⟩), .pointer none, .pointer none] w fun e w' => e = .returned (.bool true) ∧ w' = w := by
  go_enter Tryz.func29, Tryz.ntmps29
  go_wp2
  go_ret
  exact ⟨rfl, rfl⟩

set_option maxRecDepth 100000 in
set_option maxHeartbeats 1000000 in
theorem one_some {base : Nat} {w0 : World} (wb : Nat) (lv : Value) (ps : List Pair) (p : Pair) (bk : BookD) (w : World) (h : Inv base w0 wb lv ps bk) (hb : Below w0.heap.size w0 w)
    (hp : PairOK w p) (hm : ∀ b, p.own b → w0.heap.size ≤ b) (hlen : (ps.length + 1) * 16 ≤ 140737488355328) (hbase : base ≤ w0.heap.size) :
    Calls Tryz.prog 29 #[.pointer (some ⟨wb, 0, none⟩), .pointer (some ⟨p.kb, 0, none⟩), .pointer (some ⟨p.rb, 0, none⟩)] w fun e w' => e = .returned (.bool true) ∧ Below base w0 w' ∧ ∃ lv', Inv base w' wb lv' (ps ++ [p]) bk := by
  have hw0 := h.wlt
  have hc0 := below_at hb h.cell hw0
  have hz0 := hb.size
  have hown := own_kept h.owns hb
  have Hown := hide hown
  clear hown
  obtain ⟨la, lc, rfl⟩ := owns_form h.owns
  have hf0 := (hb.frozen (p := ⟨wb, 0, none⟩) hw0).trans (h.room 0 (by omega)).2
  go_enter Tryz.func29, Tryz.ntmps29
  go_wp2_with (at_builtin; refine wpList_append_src rfl (.tmp 18) (.tmp 22) 28 rfl base 52 (.agg #[.pointer none, .pointer none]) 2 16 Tryz.underlying28 Tryz.info52 rfl (by omega) _ ps.length (pairsRow ps) rfl (Hown.out.alloc _) _ 1 (pairCells p) rfl (.inr (.inl ⟨w.heap.size, 0, _, rfl, ?_⟩)) rfl (by simp [pairCells, Value.oneCell']) (by omega) (by omega) (by simp; omega) ?_)
  · intro j u hu
    have hj : j < 2 := by have := (List.getElem?_eq_some_iff.1 hu).1; simpa [pairCells] using this
    have : j = 0 ∨ j = 1 := by omega
    rcases this with rfl | rfl <;> simp [pairCells] at hu <;> subst hu <;> simp [go_sem]
  intro v2 w2 hown2 hgr2 hwh2
  obtain ⟨sa2, sc2, rfl⟩ := owns_form hown2.out
  have hW := (Below.refl w.heap.size w).alloc (Nat.le_refl _) (.cells #[.pointer (some ⟨p.kb, 0, none⟩), .pointer (some ⟨p.rb, 0, none⟩)] 52)
  have hI := h.one hb hp hm _ hW hgr2.out hown2.out (by simpa using hwh2.out)
  have ho2 := (only_grown hgr2.out)
  have hwl : ¬ some wb = (Value.slice la ps.length lc).ownBlock := fun e => h.lne e.symm
  have hc2 : w2.cell? ⟨wb, 0, none⟩ = some (.slice la ps.length lc) := ho2.at (below_at hW hc0 (by omega)) hwl
  have hf2 : w2.frozen? ⟨wb, 0, none⟩ = false := by
    rw [World.frozen?_of_block (w := w.alloc (.cells #[.pointer (some ⟨p.kb, 0, none⟩), .pointer (some ⟨p.rb, 0, none⟩)] 52)) (a := ⟨wb, 0, none⟩) (ho2.block wb (by simp; omega) hwl)]
    exact (hW.frozen (p := ⟨wb, 0, none⟩) (by show wb < _; omega)).trans hf0
  have hbb : Below base w0 w2 := (hb.mono hbase).trans ((hW.mono (by omega)).grown hgr2.out (by simp; omega) (fun b hb => (h.owns.lt b hb).1))
  have HI := hide hI
  have hblo := h.blo
  clear hI hc0 hf0
  go_wp2
  go_ret
  exact ⟨rfl, hbb.setCell (by exact hblo) _, _, HI.out⟩
end Go.Proofs.YtndlmgocldckfaaGreat

namespace Go.Proofs.YtndlmgocldckfaaGreat
open Go.RowKit
set_option linter.unusedVariables false
set_option linter.unusedSimpArgs false

set_option maxHeartbeats 400000 in
theorem tCheck_any (ents : Int) (v : Value) (ks : List (List Ins)) (w : World) (hv : KindsV w.heap.size w v ks) :
    Calls Tryz.prog 22 #[.agg #[.int .i64 ents, v]] w
      fun e w' => e = .returned (checkV ents ks) ∧ Below w.heap.size w w' := by
  go_enter Tryz.func22, Tryz.ntmps22
  go_wp2_with fail
  refine (mCheck_any ents v ks _ ((hv.below ((Below.refl _ _).alloc (Nat.le_refl _) _)).mono (by simp))).mono ?_
  rintro e w1 ⟨rfl, hb1⟩
  rw [checkV_eq]
  go_wp2
  go_ret3
  exact ⟨by simp [checkV_eq], ((Below.refl _ _).alloc (Nat.le_refl _) _).trans (hb1.mono (by simp))⟩
end Go.Proofs.YtndlmgocldckfaaGreat

namespace Go.Proofs.YtndlmgocldckfaaGreat
open Go.RowKit
set_option linter.unusedVariables false
set_option linter.unusedSimpArgs false

set_option maxRecDepth 100000 in
set_option maxHeartbeats 2000000 in
theorem made_check_nil {base : Nat} (wb : Nat) (lv : Value) (ps : List Pair) (bk : BookD) (a b c d ents : Int) (l rv qv sv : Value) (w : World) (h : Inv base w wb lv ps bk) :
    Calls Tryz.prog 15 #[.pointer (some ⟨wb, 0, none⟩), .agg #[.int .i64 1, .int .i64 a, .int .i64 b, .int .i64 c, .int .i64 d, .int .i64 ents, .slice none 0 0, l, rv, qv, sv]] w
      fun e w' => e = .returned (.bool true) ∧ Below base w w' ∧ ∃ lv' ps', ps'.length ≤ ps.length + 1 ∧ Inv base w' wb lv' ps' bk := by
  have hbl : base ≤ w.heap.size := Nat.le_trans h.blo (Nat.le_of_lt h.wlt)
  obtain ⟨W, hW⟩ : ∃ W, W = w.alloc (.cells #[.int .i64 1, .int .i64 a, .int .i64 b, .int .i64 c, .int .i64 d, .int .i64 ents, .slice none 0 0, l, rv, qv, sv] 41) := ⟨_, rfl⟩
  have hb : Below w.heap.size w W := by rw [hW]; exact (Below.refl _ _).alloc (Nat.le_refl _) _
  have hWs : W.heap.size = w.heap.size + 1 := by rw [hW]; simp
  have c0 : W.cell? ⟨w.heap.size, 0, none⟩ = some (.int .i64 1) := by rw [hW]; simp [go_sem]
  have c5 : W.cell? ⟨w.heap.size, 5, none⟩ = some (.int .i64 ents) := by rw [hW]; simp [go_sem]
  have c6 : W.cell? ⟨w.heap.size, 6, none⟩ = some (.slice none 0 0) := by rw [hW]; simp [go_sem]
  go_enter Tryz.func15, Tryz.ntmps15
  go_wp2_with fail
  rw [← hW]
  refine (lentModel_nil ents _).mono ?_
  rintro e w1 ⟨rfl, hb1⟩
  have hz1 := hb1.size
  have d0 := below_at hb1 c0 (by omega)
  have d5 := below_at hb1 c5 (by omega)
  have d6 := below_at hb1 c6 (by omega)
  have hB1 : Below w.heap.size w w1 := hb.trans (hb1.mono (by omega))
  have hlt1 : w.heap.size < w1.heap.size := by omega
  clear c0 c5 c6
  go_wp2_with fail
  have hm := (Below.refl w1.heap.size w1).alloc (Nat.le_refl _) (.cells #[.int .i64 ents, .slice none 0 0] 38)
  have hkn : ∀ (W : World) (B : Nat), KindsV B W (.slice none 0 0) [] := fun W B => ⟨by simp, .inl ⟨rfl, rfl⟩⟩
  refine (tCheck_any ents _ [] _ (hkn _ _)).mono ?_
  rintro e w2 ⟨rfl, hb2⟩
  rw [checkV_eq]
  have hz2 := hb2.size
  rw [World.size_alloc] at hz2
  have e5 := below_at hb2 (below_at hm d5 (by omega)) (by simp; omega)
  have e6 := below_at hb2 (below_at hm d6 (by omega)) (by simp; omega)
  have m0 : w2.cell? ⟨w1.heap.size, 0, none⟩ = some (.int .i64 ents) := below_at hb2 (by simp [go_sem]) (by simp)
  have m1 : w2.cell? ⟨w1.heap.size, 1, none⟩ = some (.slice none 0 0) := below_at hb2 (by simp [go_sem]) (by simp)
  have hB2 : Below w.heap.size w w2 := hB1.trans ((hm.mono (by omega)).trans (hb2.mono (by simp; omega)))
  clear d0 d5 d6
  go_wp2_with fail
  refine (rCheck_any ents _ [] _ (hkn _ _)).mono ?_
  rintro e w3 ⟨rfl, hb3⟩
  rw [checkV_eq]
  have hz3 := hb3.size
  have f5 := below_at hb3 e5 (by omega)
  have f6 := below_at hb3 e6 (by omega)
  have n0 := below_at hb3 m0 (by omega)
  have n1 := below_at hb3 m1 (by omega)
  have hB3 : Below w.heap.size w w3 := hB2.trans (hb3.mono (by omega))
  clear e5 e6 m0 m1
  generalize checkE ents [] = vE
  generalize checkK ents [] = vK
  generalize checkP ents [] = vP
  go_wp2_with fail
  refine (wholeModel_nil ents _ _ _).mono ?_
  rintro e w4 ⟨rfl, hb4⟩
  have hB4 : Below w.heap.size w w4 := hB3.trans (hb4.mono (by omega))
  go_wp2
  go_ret
  exact ⟨by simp, hB4.mono hbl, lv, ps, by omega, h.below hB4⟩

set_option maxRecDepth 100000 in
set_option maxHeartbeats 2000000 in
theorem made_check_some {base : Nat} (wb : Nat) (lv : Value) (ps : List Pair) (bk : BookD) (a b c d ents : Int) (ka : Addr) (kb koff kcap : Nat) (ks : List (List Ins)) (l rv qv sv : Value) (w : World) (h : Inv base w wb lv ps bk) (hka : 0 < ks.length → ka = ⟨kb, koff, none⟩) (hkl : ks.length ≤ 5864062014805) (hkb : kb < base) (hK : KindsAt base w kb koff ks) :
    Calls Tryz.prog 15 #[.pointer (some ⟨wb, 0, none⟩), .agg #[.int .i64 1, .int .i64 a, .int .i64 b, .int .i64 c, .int .i64 d, .int .i64 ents, .slice (some ka) ks.length kcap, l, rv, qv, sv]] w
      fun e w' => e = .returned (.bool true) ∧ Below base w w' ∧ ∃ lv' ps', ps'.length ≤ ps.length + 1 ∧ Inv base w' wb lv' ps' bk := by
  have hbl : base ≤ w.heap.size := Nat.le_trans h.blo (Nat.le_of_lt h.wlt)
  obtain ⟨W, hW⟩ : ∃ W, W = w.alloc (.cells #[.int .i64 1, .int .i64 a, .int .i64 b, .int .i64 c, .int .i64 d, .int .i64 ents, .slice (some ka) ks.length kcap, l, rv, qv, sv] 41) := ⟨_, rfl⟩
  have hb : Below w.heap.size w W := by rw [hW]; exact (Below.refl _ _).alloc (Nat.le_refl _) _
  have hWs : W.heap.size = w.heap.size + 1 := by rw [hW]; simp
  have c0 : W.cell? ⟨w.heap.size, 0, none⟩ = some (.int .i64 1) := by rw [hW]; simp [go_sem]
  have c5 : W.cell? ⟨w.heap.size, 5, none⟩ = some (.int .i64 ents) := by rw [hW]; simp [go_sem]
  have c6 : W.cell? ⟨w.heap.size, 6, none⟩ = some (.slice (some ka) ks.length kcap) := by rw [hW]; simp [go_sem]
  have HK : Hid (∀ W : World, Below w.heap.size w W → KindsAt W.heap.size W kb koff ks) := by
    intro W hW
    have := hW.size
    exact (hK.below (hW.mono hbl) hkb (Nat.le_refl _)).mono (by omega)
  clear hK
  go_enter Tryz.func15, Tryz.ntmps15
  go_wp2_with fail
  rw [← hW]
  refine (lentModel_gen ents ka kb koff kcap ks _ hka hkl (by omega) (HK.out W hb)).mono ?_
  rintro e w1 ⟨g, hh, rs, rfl, hb1, hL1⟩
  have hz1 := hb1.size
  have d0 := below_at hb1 c0 (by omega)
  have d5 := below_at hb1 c5 (by omega)
  have d6 := below_at hb1 c6 (by omega)
  have hB1 : Below w.heap.size w w1 := hb.trans (hb1.mono (by omega))
  have hlt1 : w.heap.size < w1.heap.size := by omega
  have HL1 := hide hL1
  clear c0 c5 c6 hL1
  go_wp2_with fail
  have hm := (Below.refl w1.heap.size w1).alloc (Nat.le_refl _) (.cells #[.int .i64 ents, .slice (some ⟨g, 0, none⟩) ks.length (ks.length + 8)] 38)
  have HLm := hide (HL1.out.below hm)
  refine (tCheck_any ents _ ks _ ⟨hkl, .inr (.inl ⟨g, 0, _, rfl, HLm.out.ghi, HLm.out.kinds⟩)⟩).mono ?_
  rintro e w2 ⟨rfl, hb2⟩
  rw [checkV_eq]
  have hz2 := hb2.size
  rw [World.size_alloc] at hz2
  have e5 := below_at hb2 (below_at hm d5 (by omega)) (by simp; omega)
  have e6 := below_at hb2 (below_at hm d6 (by omega)) (by simp; omega)
  have m0 : w2.cell? ⟨w1.heap.size, 0, none⟩ = some (.int .i64 ents) := below_at hb2 (by simp [go_sem]) (by simp)
  have m1 : w2.cell? ⟨w1.heap.size, 1, none⟩ = some (.slice (some ⟨g, 0, none⟩) ks.length (ks.length + 8)) := below_at hb2 (by simp [go_sem]) (by simp)
  have hB2 : Below w.heap.size w w2 := hB1.trans ((hm.mono (by omega)).trans (hb2.mono (by simp; omega)))
  have HL2 := hide (HLm.out.below hb2)
  clear d0 d5 d6
  go_wp2_with fail
  refine (rCheck_any ents _ ks _ (kindsV_gen hka hkl (by omega) (HK.out _ hB2))).mono ?_
  rintro e w3 ⟨rfl, hb3⟩
  rw [checkV_eq]
  have hz3 := hb3.size
  have f5 := below_at hb3 e5 (by omega)
  have f6 := below_at hb3 e6 (by omega)
  have n0 := below_at hb3 m0 (by omega)
  have n1 := below_at hb3 m1 (by omega)
  have hB3 : Below w.heap.size w w3 := hB2.trans (hb3.mono (by omega))
  have HL3 := hide (HL2.out.below hb3)
  clear e5 e6 m0 m1
  generalize checkE ents ks = vE
  generalize checkK ents ks = vK
  generalize checkP ents ks = vP
  go_wp2_with fail
  refine (wholeModel_gen ents ka _ _ g hh kb koff kcap rs ks _ hka hkl HL3.out).mono ?_
  rintro e w4 ⟨rfl, ho4⟩
  have hB4 : Below w.heap.size w w4 := hB3.trans (ho4.below (by omega) (by
    rintro k hk (rfl | ⟨i, hi⟩)
    · have := HL3.out.glo; omega
    · have hilt : i < ks.length := by have := (List.getElem?_eq_some_iff.1 hi).1; rw [HL3.out.len] at this; exact this
      have := (HL3.out.code i k ks[i] hi (by simp [hilt])).2.2.1; omega))
  go_wp2
  go_ret
  exact ⟨by simp, hB4.mono hbl, lv, ps, by omega, h.below hB4⟩
end Go.Proofs.YtndlmgocldckfaaGreat

namespace Go.Proofs.YtndlmgocldckfaaGreat
open Go.RowKit
set_option linter.unusedVariables false
set_option linter.unusedSimpArgs false

theorem drawsR_eq (l : List Int) : drawsR l = drawsF l := rfl

theorem kindF_nil (ents : Int) : kindF ents [] = some (0, 0) := by
  unfold kindF
  rw [if_pos]
  simp [inB]

set_option maxRecDepth 100000 in
set_option maxHeartbeats 2000000 in
theorem made_new_nil {base : Nat} (wb : Nat) (lv : Value) (ps : List Pair) (bk : BookD) (a b c d ents : Int) (l : Value) (draws : List Int) (rv qv sv : Value) (w : World) (h : Inv base w wb lv ps bk) (hd : IntsX base w l draws) :
    Calls Tryz.prog 15 #[.pointer (some ⟨wb, 0, none⟩), .agg #[.int .i64 2, .int .i64 a, .int .i64 b, .int .i64 c, .int .i64 d, .int .i64 ents, .slice none 0 0, l, rv, qv, sv]] w
      fun e w' => e = .returned (.bool true) ∧ Below base w w' ∧ ∃ lv' ps', ps'.length ≤ ps.length + 1 ∧ Inv base w' wb lv' ps' bk := by
  have hbl : base ≤ w.heap.size := Nat.le_trans h.blo (Nat.le_of_lt h.wlt)
  obtain ⟨W, hW⟩ : ∃ W, W = w.alloc (.cells #[.int .i64 2, .int .i64 a, .int .i64 b, .int .i64 c, .int .i64 d, .int .i64 ents, .slice none 0 0, l, rv, qv, sv] 41) := ⟨_, rfl⟩
  have hb : Below w.heap.size w W := by rw [hW]; exact (Below.refl _ _).alloc (Nat.le_refl _) _
  have hWs : W.heap.size = w.heap.size + 1 := by rw [hW]; simp
  have c0 : W.cell? ⟨w.heap.size, 0, none⟩ = some (.int .i64 2) := by rw [hW]; simp [go_sem]
  have c5 : W.cell? ⟨w.heap.size, 5, none⟩ = some (.int .i64 ents) := by rw [hW]; simp [go_sem]
  have c6 : W.cell? ⟨w.heap.size, 6, none⟩ = some (.slice none 0 0) := by rw [hW]; simp [go_sem]
  have c7 : W.cell? ⟨w.heap.size, 7, none⟩ = some l := by rw [hW]; simp [go_sem]
  obtain ⟨la, lc, rfl⟩ := hd.form
  have HD : Hid (∀ W : World, Below w.heap.size w W → IntsX base W (.slice la draws.length lc) draws) := by
    intro W hW
    exact hd.below (hW.mono hbl)
  have hdl := hd.len
  clear hd
  have hkn : ∀ (W : World) (B : Nat), KindsV B W (.slice none 0 0) [] := fun W B => ⟨by simp, .inl ⟨rfl, rfl⟩⟩
  go_enter Tryz.func15, Tryz.ntmps15
  go_wp2_with fail
  rw [← hW]
  refine (lentModel_nil ents _).mono ?_
  rintro e w1 ⟨rfl, hb1⟩
  have hz1 := hb1.size
  have d0 := below_at hb1 c0 (by omega)
  have d5 := below_at hb1 c5 (by omega)
  have d6 := below_at hb1 c6 (by omega)
  have d7 := below_at hb1 c7 (by omega)
  have hB1 : Below w.heap.size w w1 := hb.trans (hb1.mono (by omega))
  have hlt1 : w.heap.size < w1.heap.size := by omega
  clear c0 c5 c6 c7 hW
  go_wp2_with fail
  have hm := (Below.refl w1.heap.size w1).alloc (Nat.le_refl _) (.cells #[.int .i64 ents, .slice none 0 0] 38)
  refine (lentInts_any _ draws _ (HD.out _ (hB1.trans (hm.mono (by omega))))).mono ?_
  rintro e w2 ⟨sa, sc, rfl, hb2, hLV⟩
  have hz2 := hb2.size
  rw [World.size_alloc] at hz2
  have e0 := below_at hb2 (below_at hm d0 (by omega)) (by simp; omega)
  have e5 := below_at hb2 (below_at hm d5 (by omega)) (by simp; omega)
  have e6 := below_at hb2 (below_at hm d6 (by omega)) (by simp; omega)
  have e7 := below_at hb2 (below_at hm d7 (by omega)) (by simp; omega)
  have m0 : w2.cell? ⟨w1.heap.size, 0, none⟩ = some (.int .i64 ents) := below_at hb2 (by simp [go_sem]) (by simp)
  have m1 : w2.cell? ⟨w1.heap.size, 1, none⟩ = some (.slice none 0 0) := below_at hb2 (by simp [go_sem]) (by simp)
  have hB2 : Below w.heap.size w w2 := hB1.trans ((hm.mono (by omega)).trans (hb2.mono (by simp; omega)))
  have HLV := hide hLV
  rw [World.size_alloc] at HLV
  clear d0 d5 d6 d7 hLV
  go_wp2_with fail
  refine (tNew_model (B := 0) ents _ _ [] _ (hkn _ _) (0, 0) (kindF_nil ents)).mono ?_
  rintro e w3 ⟨rfl, hb3⟩
  have hz3 := hb3.size
  have f5 := below_at hb3 e5 (by omega)
  have f6 := below_at hb3 e6 (by omega)
  have f7 := below_at hb3 e7 (by omega)
  have n0 := below_at hb3 m0 (by omega)
  have n1 := below_at hb3 m1 (by omega)
  have hB3 : Below w.heap.size w w3 := hB2.trans (hb3.mono (by omega))
  clear e0 e5 e6 e7 m0 m1
  go_wp2_with fail
  refine (rNew_model ents _ _ [] _ (hkn _ _) (0, 0) (kindF_nil ents)).mono ?_
  rintro e w4 ⟨rfl, hb4⟩
  have hz4 := hb4.size
  have g5 := below_at hb4 f5 (by omega)
  have g6 := below_at hb4 f6 (by omega)
  have g7 := below_at hb4 f7 (by omega)
  have p0 := below_at hb4 n0 (by omega)
  have p1 := below_at hb4 n1 (by omega)
  have hB4 : Below w.heap.size w w4 := hB3.trans (hb4.mono (by omega))
  clear f5 f6 f7 n0 n1
  go_wp2_with fail
  refine (wholeModel_nil ents _ _ _).mono ?_
  rintro e w5 ⟨rfl, hb5⟩
  have hz5 := hb5.size
  have q7 := below_at hb5 g7 (by omega)
  have hB5 : Below w.heap.size w w5 := hB4.trans (hb5.mono (by omega))
  clear g5 g6 g7 p0 p1
  go_wp2_with fail
  refine (wholeInts_any (w1.heap.size + 1) w5.heap.size _ draws sa sc _ ((HD.out _ hB5).mono (by omega)) (((HLV.out.below hb3).below hb4).below hb5) (by
    intro g hg
    rcases HLV.out with ⟨_, h0, _⟩ | ⟨g', h1, _, _, _, h5, _⟩
    · rw [h0] at hg; cases hg
    · rw [h1] at hg; simp at hg; omega)).mono ?_
  rintro e w6 ⟨rfl, ho6⟩
  have hB6 : Below w.heap.size w w6 := hB5.trans (ho6.below (by omega) (by intro k hk hs; omega))
  go_wp2_with fail
  refine (one_none wb _).mono ?_
  rintro e w7 ⟨rfl, rfl⟩
  go_wp2
  go_ret
  exact ⟨by simp, hB6.mono hbl, lv, ps, by omega, h.below hB6⟩
end Go.Proofs.YtndlmgocldckfaaGreat

namespace Go.Proofs.YtndlmgocldckfaaGreat
open Go.RowKit
set_option linter.unusedVariables false
set_option linter.unusedSimpArgs false

set_option maxRecDepth 100000 in
set_option maxHeartbeats 2000000 in
theorem made_new_model {base : Nat} (wb : Nat) (lv : Value) (ps : List Pair) (bk : BookD) (a b c d ents : Int) (ka : Addr) (kb koff kcap : Nat) (ks : List (List Ins)) (l : Value) (draws : List Int) (rv qv sv : Value) (w : World) (h : Inv base w wb lv ps bk) (hka : 0 < ks.length → ka = ⟨kb, koff, none⟩) (hkl : ks.length ≤ 5864062014805) (hkb : kb < base) (hK : KindsAt base w kb koff ks) (hd : IntsX base w l draws) (p : Nat × Nat) (hk : kindF ents ks = some p) :
    Calls Tryz.prog 15 #[.pointer (some ⟨wb, 0, none⟩), .agg #[.int .i64 2, .int .i64 a, .int .i64 b, .int .i64 c, .int .i64 d, .int .i64 ents, .slice (some ka) ks.length kcap, l, rv, qv, sv]] w
      fun e w' => e = .returned (.bool true) ∧ Below base w w' ∧ ∃ lv' ps', ps'.length ≤ ps.length + 1 ∧ Inv base w' wb lv' ps' bk := by
  have hbl : base ≤ w.heap.size := Nat.le_trans h.blo (Nat.le_of_lt h.wlt)
  obtain ⟨W, hW⟩ : ∃ W, W = w.alloc (.cells #[.int .i64 2, .int .i64 a, .int .i64 b, .int .i64 c, .int .i64 d, .int .i64 ents, .slice (some ka) ks.length kcap, l, rv, qv, sv] 41) := ⟨_, rfl⟩
  have hb : Below w.heap.size w W := by rw [hW]; exact (Below.refl _ _).alloc (Nat.le_refl _) _
  have hWs : W.heap.size = w.heap.size + 1 := by rw [hW]; simp
  have c0 : W.cell? ⟨w.heap.size, 0, none⟩ = some (.int .i64 2) := by rw [hW]; simp [go_sem]
  have c5 : W.cell? ⟨w.heap.size, 5, none⟩ = some (.int .i64 ents) := by rw [hW]; simp [go_sem]
  have c6 : W.cell? ⟨w.heap.size, 6, none⟩ = some (.slice (some ka) ks.length kcap) := by rw [hW]; simp [go_sem]
  have c7 : W.cell? ⟨w.heap.size, 7, none⟩ = some l := by rw [hW]; simp [go_sem]
  obtain ⟨la, lc, rfl⟩ := hd.form
  have HK : Hid (∀ W : World, Below w.heap.size w W → KindsAt W.heap.size W kb koff ks) := by
    intro W hW
    have := hW.size
    exact (hK.below (hW.mono hbl) hkb (Nat.le_refl _)).mono (by omega)
  have HD : Hid (∀ W : World, Below w.heap.size w W → IntsX base W (.slice la draws.length lc) draws) := by
    intro W hW
    exact hd.below (hW.mono hbl)
  have hdl := hd.len
  have Hdl := hide hdl
  clear hd hK hdl
  go_enter Tryz.func15, Tryz.ntmps15
  go_wp2_with fail
  rw [← hW]
  refine (lentModel_gen ents ka kb koff kcap ks _ hka hkl (by omega) (HK.out W hb)).mono ?_
  rintro e w1 ⟨g, hh, rs, rfl, hb1, hL1⟩
  have hz1 := hb1.size
  have d0 := below_at hb1 c0 (by omega)
  have d5 := below_at hb1 c5 (by omega)
  have d6 := below_at hb1 c6 (by omega)
  have d7 := below_at hb1 c7 (by omega)
  have hB1 : Below w.heap.size w w1 := hb.trans (hb1.mono (by omega))
  have hlt1 : w.heap.size < w1.heap.size := by omega
  have HL1 := hide hL1
  clear c0 c5 c6 c7 hW hL1
  go_wp2_with fail
  have hm := (Below.refl w1.heap.size w1).alloc (Nat.le_refl _) (.cells #[.int .i64 ents, .slice (some ⟨g, 0, none⟩) ks.length (ks.length + 8)] 38)
  have HLm := hide (HL1.out.below hm)
  refine (lentInts_any _ draws _ (HD.out _ (hB1.trans (hm.mono (by omega))))).mono ?_
  rintro e w2 ⟨sa, sc, rfl, hb2, hLV⟩
  have hz2 := hb2.size
  rw [World.size_alloc] at hz2
  have e0 := below_at hb2 (below_at hm d0 (by omega)) (by simp; omega)
  have e5 := below_at hb2 (below_at hm d5 (by omega)) (by simp; omega)
  have e6 := below_at hb2 (below_at hm d6 (by omega)) (by simp; omega)
  have e7 := below_at hb2 (below_at hm d7 (by omega)) (by simp; omega)
  have m0 : w2.cell? ⟨w1.heap.size, 0, none⟩ = some (.int .i64 ents) := below_at hb2 (by simp [go_sem]) (by simp)
  have m1 : w2.cell? ⟨w1.heap.size, 1, none⟩ = some (.slice (some ⟨g, 0, none⟩) ks.length (ks.length + 8)) := below_at hb2 (by simp [go_sem]) (by simp)
  have hB2 : Below w.heap.size w w2 := hB1.trans ((hm.mono (by omega)).trans (hb2.mono (by simp; omega)))
  have HL2 := hide (HLm.out.below hb2)
  have HLV := hide hLV
  rw [World.size_alloc] at HLV
  clear d0 d5 d6 d7 hLV
  go_wp2_with fail
  refine (tNew_model (B := 0) ents _ _ ks _ ⟨hkl, .inr (.inl ⟨g, 0, _, rfl, HL2.out.ghi, HL2.out.kinds⟩)⟩ p hk).mono ?_
  rintro e w3 ⟨rfl, hb3⟩
  have hz3 := hb3.size
  have f5 := below_at hb3 e5 (by omega)
  have f6 := below_at hb3 e6 (by omega)
  have f7 := below_at hb3 e7 (by omega)
  have n0 := below_at hb3 m0 (by omega)
  have n1 := below_at hb3 m1 (by omega)
  have hB3 : Below w.heap.size w w3 := hB2.trans (hb3.mono (by omega))
  have HL3 := hide (HL2.out.below hb3)
  clear e0 e5 e6 e7 m0 m1
  go_wp2_with fail
  refine (rNew_model ents _ _ ks _ (kindsV_gen hka hkl (by omega) (HK.out _ hB3)) p hk).mono ?_
  rintro e w4 ⟨rfl, hb4⟩
  have hz4 := hb4.size
  have g5 := below_at hb4 f5 (by omega)
  have g6 := below_at hb4 f6 (by omega)
  have g7 := below_at hb4 f7 (by omega)
  have p0 := below_at hb4 n0 (by omega)
  have p1 := below_at hb4 n1 (by omega)
  have hB4 : Below w.heap.size w w4 := hB3.trans (hb4.mono (by omega))
  have HL4 := hide (HL3.out.below hb4)
  clear f5 f6 f7 n0 n1
  go_wp2_with fail
  refine (wholeModel_gen ents ka _ _ g hh kb koff kcap rs ks _ hka hkl HL4.out).mono ?_
  rintro e w5 ⟨rfl, ho5⟩
  have HS5 : Hid (∀ k, (k = g ∨ ∃ i : Nat, rs[i]? = some (some k)) → w.heap.size + 1 < k ∧ k < w1.heap.size) := by
    rintro k (rfl | ⟨i, hi⟩)
    · have := HL1.out.glo; have := HL1.out.ghi; omega
    · have hilt : i < ks.length := by have := (List.getElem?_eq_some_iff.1 hi).1; rw [HL1.out.len] at this; exact this
      have := HL1.out.code i k ks[i] hi (by simp [hilt]); omega
  have hz5 := ho5.size
  have q7 := ho5.at g7 (fun hs => by have := HS5.out _ hs; omega)
  have hB5 : Below w.heap.size w w5 := hB4.trans (ho5.below (by omega) (fun k hk hs => by have := HS5.out _ hs; omega))
  have HLV5 := hide (((HLV.out.below hb3).below hb4).only ho5 (fun k hk hs => by have := HS5.out _ hs; omega))
  have Ho5 := hide ho5
  clear g5 g6 g7 p0 p1 ho5
  go_wp2_with fail
  refine (wholeInts_any (w1.heap.size + 1) w2.heap.size _ draws sa sc _ ((HD.out _ hB5).mono (by omega)) HLV5.out (by
    intro g hg
    rcases HLV.out with ⟨_, h0, _⟩ | ⟨g', h1, _, _, _, h5, _⟩
    · rw [h0] at hg; cases hg
    · rw [h1] at hg; simp at hg; omega)).mono ?_
  rintro e w6 ⟨rfl, ho6⟩
  have hB6 : Below w.heap.size w w6 := hB5.trans (ho6.below (by omega) (by intro k hk hs; omega))
  have Ho6 := hide ho6
  have hz6 := ho6.size
  clear ho6
  go_wp2_with fail
  refine (one_none wb _).mono ?_
  rintro e w7 ⟨rfl, rfl⟩
  go_wp2
  go_ret
  exact ⟨by simp, hB6.mono hbl, lv, ps, by omega, h.below hB6⟩

set_option maxRecDepth 100000 in
set_option maxHeartbeats 2000000 in
theorem made_new_draws {base : Nat} (wb : Nat) (lv : Value) (ps : List Pair) (bk : BookD) (a b c d ents : Int) (ka : Addr) (kb koff kcap : Nat) (ks : List (List Ins)) (l : Value) (draws : List Int) (rv qv sv : Value) (w : World) (h : Inv base w wb lv ps bk) (hka : 0 < ks.length → ka = ⟨kb, koff, none⟩) (hkl : ks.length ≤ 5864062014805) (hkb : kb < base) (hK : KindsAt base w kb koff ks) (hd : IntsX base w l draws) (hk : kindF ents ks = none) (hD : drawsF draws = false) :
    Calls Tryz.prog 15 #[.pointer (some ⟨wb, 0, none⟩), .agg #[.int .i64 2, .int .i64 a, .int .i64 b, .int .i64 c, .int .i64 d, .int .i64 ents, .slice (some ka) ks.length kcap, l, rv, qv, sv]] w
      fun e w' => e = .returned (.bool true) ∧ Below base w w' ∧ ∃ lv' ps', ps'.length ≤ ps.length + 1 ∧ Inv base w' wb lv' ps' bk := by
  have hks : 0 < ks.length := by
    cases ks with
    | nil => rw [kindF_nil] at hk; cases hk
    | cons x l => simp
  obtain rfl := hka hks
  have hbl : base ≤ w.heap.size := Nat.le_trans h.blo (Nat.le_of_lt h.wlt)
  obtain ⟨W, hW⟩ : ∃ W, W = w.alloc (.cells #[.int .i64 2, .int .i64 a, .int .i64 b, .int .i64 c, .int .i64 d, .int .i64 ents, .slice (some ⟨kb, koff, none⟩) ks.length kcap, l, rv, qv, sv] 41) := ⟨_, rfl⟩
  have hb : Below w.heap.size w W := by rw [hW]; exact (Below.refl _ _).alloc (Nat.le_refl _) _
  have hWs : W.heap.size = w.heap.size + 1 := by rw [hW]; simp
  have c0 : W.cell? ⟨w.heap.size, 0, none⟩ = some (.int .i64 2) := by rw [hW]; simp [go_sem]
  have c5 : W.cell? ⟨w.heap.size, 5, none⟩ = some (.int .i64 ents) := by rw [hW]; simp [go_sem]
  have c6 : W.cell? ⟨w.heap.size, 6, none⟩ = some (.slice (some ⟨kb, koff, none⟩) ks.length kcap) := by rw [hW]; simp [go_sem]
  have c7 : W.cell? ⟨w.heap.size, 7, none⟩ = some l := by rw [hW]; simp [go_sem]
  obtain ⟨la, lc, rfl⟩ := hd.form
  have HK : Hid (∀ W : World, Below w.heap.size w W → KindsAt W.heap.size W kb koff ks) := by
    intro W hW
    have := hW.size
    exact (hK.below (hW.mono hbl) hkb (Nat.le_refl _)).mono (by omega)
  have HD : Hid (∀ W : World, Below w.heap.size w W → IntsX base W (.slice la draws.length lc) draws) := by
    intro W hW
    exact hd.below (hW.mono hbl)
  have hdl := hd.len
  have Hdl := hide hdl
  clear hd hK hdl
  go_enter Tryz.func15, Tryz.ntmps15
  go_wp2_with fail
  rw [← hW]
  refine (lentModel_gen ents ⟨kb, koff, none⟩ kb koff kcap ks _ (fun _ => rfl) hkl (by omega) (HK.out W hb)).mono ?_
  rintro e w1 ⟨g, hh, rs, rfl, hb1, hL1⟩
  have hz1 := hb1.size
  have d0 := below_at hb1 c0 (by omega)
  have d5 := below_at hb1 c5 (by omega)
  have d6 := below_at hb1 c6 (by omega)
  have d7 := below_at hb1 c7 (by omega)
  have hB1 : Below w.heap.size w w1 := hb.trans (hb1.mono (by omega))
  have hlt1 : w.heap.size < w1.heap.size := by omega
  have HL1 := hide hL1
  clear c0 c5 c6 c7 hW hL1
  go_wp2_with fail
  have hm := (Below.refl w1.heap.size w1).alloc (Nat.le_refl _) (.cells #[.int .i64 ents, .slice (some ⟨g, 0, none⟩) ks.length (ks.length + 8)] 38)
  have HLm := hide (HL1.out.below hm)
  refine (lentInts_any _ draws _ (HD.out _ (hB1.trans (hm.mono (by omega))))).mono ?_
  rintro e w2 ⟨sa, sc, rfl, hb2, hLV⟩
  have hz2 := hb2.size
  rw [World.size_alloc] at hz2
  have e0 := below_at hb2 (below_at hm d0 (by omega)) (by simp; omega)
  have e5 := below_at hb2 (below_at hm d5 (by omega)) (by simp; omega)
  have e6 := below_at hb2 (below_at hm d6 (by omega)) (by simp; omega)
  have e7 := below_at hb2 (below_at hm d7 (by omega)) (by simp; omega)
  have m0 : w2.cell? ⟨w1.heap.size, 0, none⟩ = some (.int .i64 ents) := below_at hb2 (by simp [go_sem]) (by simp)
  have m1 : w2.cell? ⟨w1.heap.size, 1, none⟩ = some (.slice (some ⟨g, 0, none⟩) ks.length (ks.length + 8)) := below_at hb2 (by simp [go_sem]) (by simp)
  have hB2 : Below w.heap.size w w2 := hB1.trans ((hm.mono (by omega)).trans (hb2.mono (by simp; omega)))
  have HL2 := hide (HLm.out.below hb2)
  have HLV := hide hLV
  rw [World.size_alloc] at HLV
  clear d0 d5 d6 d7 hLV
  go_wp2_with fail
  refine (tNew_draws ents _ _ ks draws _ ⟨hkl, .inr (.inl ⟨g, 0, _, rfl, HL2.out.ghi, HL2.out.kinds⟩)⟩ (HLV.out.ints Hdl.out) hk hD).mono ?_
  rintro e w3 ⟨rfl, hb3⟩
  have hz3 := hb3.size
  have f5 := below_at hb3 e5 (by omega)
  have f6 := below_at hb3 e6 (by omega)
  have f7 := below_at hb3 e7 (by omega)
  have n0 := below_at hb3 m0 (by omega)
  have n1 := below_at hb3 m1 (by omega)
  have hB3 : Below w.heap.size w w3 := hB2.trans (hb3.mono (by omega))
  have HL3 := hide (HL2.out.below hb3)
  clear e0 e5 e6 e7 m0 m1
  go_wp2_with fail
  refine (rNew_restX ents kb koff kcap _ ks draws _ hkl (by omega) (HK.out _ hB3) ((HD.out _ hB3).mono (by omega)) hk).mono ?_
  rintro e w4 hr4
  rcases hr4.symm with ⟨h1, _⟩ | ⟨_, rfl, hb4⟩
  · rw [drawsR_eq, hD] at h1; cases h1
  have hz4 := hb4.size
  have g5 := below_at hb4 f5 (by omega)
  have g6 := below_at hb4 f6 (by omega)
  have g7 := below_at hb4 f7 (by omega)
  have p0 := below_at hb4 n0 (by omega)
  have p1 := below_at hb4 n1 (by omega)
  have hB4 : Below w.heap.size w w4 := hB3.trans (hb4.mono (by omega))
  have HL4 := hide (HL3.out.below hb4)
  clear f5 f6 f7 n0 n1
  go_wp2_with fail
  refine (wholeModel_gen ents ⟨kb, koff, none⟩ _ _ g hh kb koff kcap rs ks _ (fun _ => rfl) hkl HL4.out).mono ?_
  rintro e w5 ⟨rfl, ho5⟩
  have HS5 : Hid (∀ k, (k = g ∨ ∃ i : Nat, rs[i]? = some (some k)) → w.heap.size + 1 < k ∧ k < w1.heap.size) := by
    rintro k (rfl | ⟨i, hi⟩)
    · have := HL1.out.glo; have := HL1.out.ghi; omega
    · have hilt : i < ks.length := by have := (List.getElem?_eq_some_iff.1 hi).1; rw [HL1.out.len] at this; exact this
      have := HL1.out.code i k ks[i] hi (by simp [hilt]); omega
  have hz5 := ho5.size
  have q7 := ho5.at g7 (fun hs => by have := HS5.out _ hs; omega)
  have hB5 : Below w.heap.size w w5 := hB4.trans (ho5.below (by omega) (fun k hk hs => by have := HS5.out _ hs; omega))
  have HLV5 := hide (((HLV.out.below hb3).below hb4).only ho5 (fun k hk hs => by have := HS5.out _ hs; omega))
  have Ho5 := hide ho5
  clear g5 g6 g7 p0 p1 ho5
  go_wp2_with fail
  refine (wholeInts_any (w1.heap.size + 1) w2.heap.size _ draws sa sc _ ((HD.out _ hB5).mono (by omega)) HLV5.out (by
    intro g hg
    rcases HLV.out with ⟨_, h0, _⟩ | ⟨g', h1, _, _, _, h5, _⟩
    · rw [h0] at hg; cases hg
    · rw [h1] at hg; simp at hg; omega)).mono ?_
  rintro e w6 ⟨rfl, ho6⟩
  have hB6 : Below w.heap.size w w6 := hB5.trans (ho6.below (by omega) (by intro k hk hs; omega))
  have Ho6 := hide ho6
  have hz6 := ho6.size
  clear ho6
  go_wp2_with fail
  refine (one_none wb _).mono ?_
  rintro e w7 ⟨rfl, rfl⟩
  go_wp2
  go_ret
  exact ⟨by simp, hB6.mono hbl, lv, ps, by omega, h.below hB6⟩

set_option maxRecDepth 100000 in
set_option maxHeartbeats 2000000 in
theorem made_new_ok {base : Nat} (wb : Nat) (lv : Value) (ps : List Pair) (bk : BookD) (a b c d ents : Int) (ka : Addr) (kb koff kcap : Nat) (ks : List (List Ins)) (l : Value) (draws : List Int) (rv qv sv : Value) (w : World) (h : Inv base w wb lv ps bk) (hka : 0 < ks.length → ka = ⟨kb, koff, none⟩) (hkl : ks.length ≤ 5864062014805) (hkb : kb < base) (hK : KindsAt base w kb koff ks) (hd : IntsX base w l draws) (hk : kindF ents ks = none) (hD : drawsF draws = true) (hlen : (ps.length + 1) * 16 ≤ 140737488355328) :
    Calls Tryz.prog 15 #[.pointer (some ⟨wb, 0, none⟩), .agg #[.int .i64 2, .int .i64 a, .int .i64 b, .int .i64 c, .int .i64 d, .int .i64 ents, .slice (some ka) ks.length kcap, l, rv, qv, sv]] w
      fun e w' => e = .returned (.bool true) ∧ Below base w w' ∧ ∃ lv' ps', ps'.length ≤ ps.length + 1 ∧ Inv base w' wb lv' ps' bk := by
  have hks : 0 < ks.length := by
    cases ks with
    | nil => rw [kindF_nil] at hk; cases hk
    | cons x l => simp
  obtain rfl := hka hks
  have hbl : base ≤ w.heap.size := Nat.le_trans h.blo (Nat.le_of_lt h.wlt)
  obtain ⟨W, hW⟩ : ∃ W, W = w.alloc (.cells #[.int .i64 2, .int .i64 a, .int .i64 b, .int .i64 c, .int .i64 d, .int .i64 ents, .slice (some ⟨kb, koff, none⟩) ks.length kcap, l, rv, qv, sv] 41) := ⟨_, rfl⟩
  have hb : Below w.heap.size w W := by rw [hW]; exact (Below.refl _ _).alloc (Nat.le_refl _) _
  have hWs : W.heap.size = w.heap.size + 1 := by rw [hW]; simp
  have c0 : W.cell? ⟨w.heap.size, 0, none⟩ = some (.int .i64 2) := by rw [hW]; simp [go_sem]
  have c5 : W.cell? ⟨w.heap.size, 5, none⟩ = some (.int .i64 ents) := by rw [hW]; simp [go_sem]
  have c6 : W.cell? ⟨w.heap.size, 6, none⟩ = some (.slice (some ⟨kb, koff, none⟩) ks.length kcap) := by rw [hW]; simp [go_sem]
  have c7 : W.cell? ⟨w.heap.size, 7, none⟩ = some l := by rw [hW]; simp [go_sem]
  obtain ⟨la, lc, rfl⟩ := hd.form
  have HK : Hid (∀ W : World, Below w.heap.size w W → KindsAt W.heap.size W kb koff ks) := by
    intro W hW
    have := hW.size
    exact (hK.below (hW.mono hbl) hkb (Nat.le_refl _)).mono (by omega)
  have HD : Hid (∀ W : World, Below w.heap.size w W → IntsX base W (.slice la draws.length lc) draws) := by
    intro W hW
    exact hd.below (hW.mono hbl)
  have hdl := hd.len
  have Hdl := hide hdl
  clear hd hK hdl
  go_enter Tryz.func15, Tryz.ntmps15
  go_wp2_with fail
  rw [← hW]
  refine (lentModel_gen ents ⟨kb, koff, none⟩ kb koff kcap ks _ (fun _ => rfl) hkl (by omega) (HK.out W hb)).mono ?_
  rintro e w1 ⟨g, hh, rs, rfl, hb1, hL1⟩
  have hz1 := hb1.size
  have d0 := below_at hb1 c0 (by omega)
  have d5 := below_at hb1 c5 (by omega)
  have d6 := below_at hb1 c6 (by omega)
  have d7 := below_at hb1 c7 (by omega)
  have hB1 : Below w.heap.size w w1 := hb.trans (hb1.mono (by omega))
  have hlt1 : w.heap.size < w1.heap.size := by omega
  have HL1 := hide hL1
  clear c0 c5 c6 c7 hW hL1
  go_wp2_with fail
  have hm := (Below.refl w1.heap.size w1).alloc (Nat.le_refl _) (.cells #[.int .i64 ents, .slice (some ⟨g, 0, none⟩) ks.length (ks.length + 8)] 38)
  have HLm := hide (HL1.out.below hm)
  refine (lentInts_any _ draws _ (HD.out _ (hB1.trans (hm.mono (by omega))))).mono ?_
  rintro e w2 ⟨sa, sc, rfl, hb2, hLV⟩
  have hz2 := hb2.size
  rw [World.size_alloc] at hz2
  have e0 := below_at hb2 (below_at hm d0 (by omega)) (by simp; omega)
  have e5 := below_at hb2 (below_at hm d5 (by omega)) (by simp; omega)
  have e6 := below_at hb2 (below_at hm d6 (by omega)) (by simp; omega)
  have e7 := below_at hb2 (below_at hm d7 (by omega)) (by simp; omega)
  have m0 : w2.cell? ⟨w1.heap.size, 0, none⟩ = some (.int .i64 ents) := below_at hb2 (by simp [go_sem]) (by simp)
  have m1 : w2.cell? ⟨w1.heap.size, 1, none⟩ = some (.slice (some ⟨g, 0, none⟩) ks.length (ks.length + 8)) := below_at hb2 (by simp [go_sem]) (by simp)
  have hB2 : Below w.heap.size w w2 := hB1.trans ((hm.mono (by omega)).trans (hb2.mono (by simp; omega)))
  have HL2 := hide (HLm.out.below hb2)
  have HLV := hide hLV
  rw [World.size_alloc] at HLV
  clear d0 d5 d6 d7 hLV
  go_wp2_with fail
  refine (tNew_yes ents g 0 _ _ ks draws _ hkl HL2.out.ghi HL2.out.kinds (HLV.out.ints Hdl.out) hk hD).mono ?_
  rintro e w3 ⟨xk, xq, xm, rfl, hb3, x1, x2, x3, hPk⟩
  have HPk := hide hPk
  clear hPk
  have hz3 := hb3.size
  have f5 := below_at hb3 e5 (by omega)
  have f6 := below_at hb3 e6 (by omega)
  have f7 := below_at hb3 e7 (by omega)
  have n0 := below_at hb3 m0 (by omega)
  have n1 := below_at hb3 m1 (by omega)
  have hB3 : Below w.heap.size w w3 := hB2.trans (hb3.mono (by omega))
  have HL3 := hide (HL2.out.below hb3)
  clear e0 e5 e6 e7 m0 m1
  go_wp2_with fail
  refine (rNew_restX ents kb koff kcap _ ks draws _ hkl (by omega) (HK.out _ hB3) ((HD.out _ hB3).mono (by omega)) hk).mono ?_
  rintro e w4 hr4
  rcases hr4 with ⟨h1, _⟩ | ⟨_, xr, rfl, hb4, y1, y2, hPr⟩
  · rw [drawsR_eq, hD] at h1; cases h1
  have HPr := hide hPr
  clear hPr
  have hz4 := hb4.size
  have g5 := below_at hb4 f5 (by omega)
  have g6 := below_at hb4 f6 (by omega)
  have g7 := below_at hb4 f7 (by omega)
  have p0 := below_at hb4 n0 (by omega)
  have p1 := below_at hb4 n1 (by omega)
  have hB4 : Below w.heap.size w w4 := hB3.trans (hb4.mono (by omega))
  have HL4 := hide (HL3.out.below hb4)
  clear f5 f6 f7 n0 n1
  go_wp2_with fail
  refine (wholeModel_gen ents ⟨kb, koff, none⟩ _ _ g hh kb koff kcap rs ks _ (fun _ => rfl) hkl HL4.out).mono ?_
  rintro e w5 ⟨rfl, ho5⟩
  have HS5 : Hid (∀ k, (k = g ∨ ∃ i : Nat, rs[i]? = some (some k)) → w.heap.size + 1 < k ∧ k < w1.heap.size) := by
    rintro k (rfl | ⟨i, hi⟩)
    · have := HL1.out.glo; have := HL1.out.ghi; omega
    · have hilt : i < ks.length := by have := (List.getElem?_eq_some_iff.1 hi).1; rw [HL1.out.len] at this; exact this
      have := HL1.out.code i k ks[i] hi (by simp [hilt]); omega
  have hz5 := ho5.size
  have q7 := ho5.at g7 (fun hs => by have := HS5.out _ hs; omega)
  have hB5 : Below w.heap.size w w5 := hB4.trans (ho5.below (by omega) (fun k hk hs => by have := HS5.out _ hs; omega))
  have HLV5 := hide (((HLV.out.below hb3).below hb4).only ho5 (fun k hk hs => by have := HS5.out _ hs; omega))
  have Ho5 := hide ho5
  clear g5 g6 g7 p0 p1 ho5
  go_wp2_with fail
  refine (wholeInts_any (w1.heap.size + 1) w2.heap.size _ draws sa sc _ ((HD.out _ hB5).mono (by omega)) HLV5.out (by
    intro g hg
    rcases HLV.out with ⟨_, h0, _⟩ | ⟨g', h1, _, _, _, h5, _⟩
    · rw [h0] at hg; cases hg
    · rw [h1] at hg; simp at hg; omega)).mono ?_
  rintro e w6 ⟨rfl, ho6⟩
  have hB6 : Below w.heap.size w w6 := hB5.trans (ho6.below (by omega) (by intro k hk hs; omega))
  have Ho6 := hide ho6
  have hz6 := ho6.size
  clear ho6
  go_wp2_with fail
  have hlt3 := HPk.out.lt
  obtain ⟨p, hp⟩ : ∃ p : Pair, p = ⟨xk, xq, xm, xr, w2.heap.size, .slice none 0 0, ents, ks, draws, ks0, fun b => w2.heap.size ≤ b ∧ b < w3.heap.size ∧ b ≠ xk ∧ b ≠ xq ∧ b ≠ xm, fun b => w3.heap.size ≤ b ∧ b < w4.heap.size ∧ b ≠ xr⟩ := ⟨_, rfl⟩
  have hset : ∀ x, KSet xk xq xm (.slice none 0 0) x → w2.heap.size ≤ x ∧ x < w3.heap.size := by
    intro x hx
    refine ⟨?_, hlt3 x hx⟩
    rcases hx with e | e | e | e
    · omega
    · omega
    · omega
    · simp [Value.ownBlock] at e
  have hown : ∀ x, p.own x → w2.heap.size ≤ x ∧ x < w4.heap.size := by
    rw [hp]
    rintro x ((hx | hx) | hx | hx)
    · have := hset x hx; omega
    · have hx : x = xr := hx; omega
    · have hx : w2.heap.size ≤ x ∧ x < w3.heap.size ∧ _ := hx; omega
    · have hx : w3.heap.size ≤ x ∧ x < w4.heap.size ∧ _ := hx; omega
  have hpair : PairOK w6 p := by
    have h4 : PairOK w4 p := by
      rw [hp]
      refine ⟨HPk.out.below hb4, ?_, fit0 _ _ _, fun j _ => rfl, hk, hD, by show w2.heap.size ≤ _; omega, by show xr < _; omega, ?_, ?_, ?_⟩
      · show RefK _ w4 xr ents ks draws ((0 : Nat) : Int) 0 1 (regL ents ks0) []
        have e1 : regL ents ks0 = List.replicate (ents * 4).toNat 0 := by
          unfold regL
          apply List.ext_getElem?
          intro j
          by_cases hj : j < (ents * 4).toNat
          · simp [hj, ks0]
          · simp [hj]
        rw [e1]
        exact HPr.out
      · intro x hx
        have hx : w3.heap.size ≤ x ∧ x < w4.heap.size ∧ x ≠ xr := hx
        exact ⟨hx.2.1, hx.2.2, fun hc => by have := hset x hc; omega⟩
      · intro x hx
        have hx : w2.heap.size ≤ x ∧ x < w3.heap.size ∧ _ := hx
        show x ≠ xr; omega
      · intro hc
        have := hset xr hc; omega
    refine (h4.only Ho5.out ?_).only Ho6.out ?_
    · intro x hx hs; have := HS5.out x hs; have := hown x hx; omega
    · intro x hx hs; have := hown x hx; omega
  have hkb : p.kb = xk := by rw [hp]
  have hrb : p.rb = xr := by rw [hp]
  have H1 := one_some (base := base) (w0 := w) wb lv ps p bk _ h hB6 hpair (fun x hx => by have := hown x hx; omega) hlen hbl
  rw [hkb, hrb] at H1
  refine H1.mono ?_
  rintro e w7 ⟨rfl, hB7, lv', hI7⟩
  have HI7 := hide hI7
  clear hI7 hpair hown hset hlt3 H1
  go_wp2
  go_ret
  exact ⟨by simp, hB7, lv', _, by simp, HI7.out⟩
end Go.Proofs.YtndlmgocldckfaaGreat
