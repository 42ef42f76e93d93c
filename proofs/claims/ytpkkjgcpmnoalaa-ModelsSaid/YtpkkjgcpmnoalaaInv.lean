import Derived.Test.YtpkkjgcpmnoalaaQNew
import Derived.Test.YtpkkjgcpmnoalaaNewR
import Derived.Test.YtpkkjgcpmnoalaaPlanP
namespace Go.Proofs.Ytpkkjgcpmnoalaa
open Go.RowKit
set_option linter.unusedVariables false
set_option linter.unusedSimpArgs false

/-! All that a script has made: kernels of the program beside the document's. -/

structure Pair where
  kb : Nat
  mb : Nat
  rb : Nat
  ents : Int
  ks : List (List Ins)
  draws : List Int
  n : Nat
  q : List Ev

def Pair.has (p : Pair) (b : Nat) : Prop := b = p.kb ∨ b = p.mb ∨ b = p.rb
def Mut (ps : List Pair) (b : Nat) : Prop := ∃ p ∈ ps, p.has b

structure PairOK (R : Nat → Prop) (w : World) (p : Pair) : Prop where
  prog : ProgK R w p.kb p.mb p.ents p.ks p.draws p.n
  ref : RefK R w p.rb p.ents p.ks p.draws 0 0 (p.n + 1) (List.replicate (p.ents * 4).toNat 0) p.q
  len : p.q.length = p.n
  le : p.n ≤ 16
  e1 : 1 ≤ p.ents
  e8 : p.ents ≤ 8
  k8 : p.ks.length ≤ 8
  d1000 : p.draws.length ≤ 1000
  km : p.kb ≠ p.mb
  kr : p.kb ≠ p.rb
  mr : p.mb ≠ p.rb

def pairCells (p : Pair) : List Value := [.pointer (some ⟨p.kb, 0, none⟩), .pointer (some ⟨p.rb, 0, none⟩)]
def pairsRow (ps : List Pair) : List Value := ps.flatMap pairCells
theorem pairsRow_length (ps : List Pair) : (pairsRow ps).length = ps.length * 2 := by
  induction ps with
  | nil => rfl
  | cons x l ih => simp [pairsRow, pairCells] at ih ⊢; omega
theorem pairsRow_get : ∀ (ps : List Pair) (i : Nat) (p : Pair), ps[i]? = some p → (pairsRow ps)[i * 2]? = some (.pointer (some ⟨p.kb, 0, none⟩)) ∧ (pairsRow ps)[i * 2 + 1]? = some (.pointer (some ⟨p.rb, 0, none⟩))
  | [], i, p, h => by simp at h
  | x :: ps, 0, p, h => by simp at h; subst h; simp [pairsRow, pairCells]
  | x :: ps, i + 1, p, h => by
    have ih := pairsRow_get ps i p (by simpa using h)
    have e : (i + 1) * 2 = i * 2 + 1 + 1 := by omega
    rw [e]
    simpa [pairsRow, pairCells] using ih

/-- The blocks that the pairs' lasting data may lie in. -/
def Lasts (base : Nat) (w : World) (wb : Nat) (lv : Value) (ps : List Pair) (b : Nat) : Prop := base ≤ b ∧ b < w.heap.size ∧ ¬ Mut ps b ∧ b ≠ wb ∧ some b ≠ lv.ownBlock

structure Inv (base : Nat) (w : World) (wb : Nat) (lv : Value) (ps : List Pair) : Prop where
  cell : w.cell? ⟨wb, 0, none⟩ = some lv
  owns : w.ownsRow base 52 2 lv ps.length (pairsRow ps)
  lne : lv.ownBlock ≠ some wb
  book : w.cell? ⟨wb, 1, none⟩ = some (.slice none 0 0) ∧ w.cell? ⟨wb, 2, none⟩ = some (.slice none 0 0) ∧ w.cell? ⟨wb, 3, none⟩ = some (.slice none 0 0)
  thaw : w.frozen? ⟨wb, 0, none⟩ = false
  blo : base ≤ wb
  pairs : ∀ p ∈ ps, PairOK (Lasts base w wb lv ps) w p
  muts : ∀ b, Mut ps b → base ≤ b ∧ b < w.heap.size ∧ b ≠ wb ∧ some b ≠ lv.ownBlock
  apart : ∀ (i j : Nat) p p' b, ps[i]? = some p → ps[j]? = some p' → p.has b → p'.has b → i = j

theorem PairOK.mono {R R' : Nat → Prop} {w : World} {p : Pair} (h : PairOK R w p) (hR : ∀ b, R b → R' b) : PairOK R' w p := by
  obtain ⟨⟨kv, dv, rv, qv, h0, h1, h2, h3, h4, h5, h6, h7, hk, hd, hr, hq⟩, hroom⟩ := h.ref
  exact ⟨h.prog.mono hR, ⟨⟨kv, dv, rv, qv, h0, h1, h2, h3, h4, h5, h6, h7, hk.mono hR, hd.mono hR, hr.mono hR, hq.mono hR⟩, hroom⟩, h.len, h.le, h.e1, h.e8, h.k8, h.d1000, h.km, h.kr, h.mr⟩
theorem PairOK.only {R S : Nat → Prop} {w w' : World} {p : Pair} (h : PairOK R w p) (ho : Only S w w') (hR : ∀ b, R b → ¬ S b) (hp : ∀ b, p.has b → ¬ S b) : PairOK R w' p := by
  have hb := hp p.rb (.inr (.inr rfl))
  obtain ⟨⟨kv, dv, rv, qv, h0, h1, h2, h3, h4, h5, h6, h7, hk, hd, hr, hq⟩, hroom⟩ := h.ref
  exact ⟨h.prog.only ho hR (hp _ (.inl rfl)) (hp _ (.inr (.inl rfl))), ⟨⟨kv, dv, rv, qv, ho.at h0 hb, ho.at h1 hb, ho.at h2 hb, ho.at h3 hb, ho.at h4 hb, ho.at h5 hb, ho.at h6 hb, ho.at h7 hb, hk.only ho hR, hd.only ho hR, hr.only ho hR, hq.only ho hR⟩, hroom.only ho hb⟩, h.len, h.le, h.e1, h.e8, h.k8, h.d1000, h.km, h.kr, h.mr⟩

theorem Inv.wlt {base : Nat} {w : World} {wb : Nat} {lv : Value} {ps : List Pair} (h : Inv base w wb lv ps) : wb < w.heap.size := lt_of_cell h.cell

theorem Inv.below {base : Nat} {w w' : World} {wb : Nat} {lv : Value} {ps : List Pair} (h : Inv base w wb lv ps) (hb : Below w.heap.size w w') : Inv base w' wb lv ps := by
  have hz := hb.size
  have hw := h.wlt
  refine ⟨below_at hb h.cell hw, own_kept h.owns hb, h.lne, ⟨below_at hb h.book.1 hw, below_at hb h.book.2.1 hw, below_at hb h.book.2.2 hw⟩, (hb.frozen (p := ⟨wb, 0, none⟩) hw).trans h.thaw, h.blo, ?_, ?_, h.apart⟩
  · intro p hp
    refine ((h.pairs p hp).only (Only.new (S := fun _ => False) hb) (by simp) (by simp)).mono ?_
    intro b hb
    exact ⟨hb.1, by have := hb.2.1; omega, hb.2.2⟩
  · intro b hb
    have := h.muts b hb
    exact ⟨this.1, by omega, this.2.2⟩

theorem Try.info52 : (Try.prog.info? 52).map (fun i => (i.zero, i.size, i.bytes)) = some (some (.agg #[.pointer none, .pointer none]), 2, 16) := by kernel_rfl
end Go.Proofs.Ytpkkjgcpmnoalaa
