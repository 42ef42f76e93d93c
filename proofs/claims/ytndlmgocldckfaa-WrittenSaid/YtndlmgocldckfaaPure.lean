import Derived.Test.YtndlmgocldckfaaApp
namespace Go.Proofs.Ytndlmgocldckfaa
open Go.RowKit
set_option linter.unusedVariables false
set_option linter.unusedSimpArgs false

/-! Events, moments, heaps: no program. -/

structure Ev where
  time : Int
  number : Int
  kind : Int
  entity : Int

structure Mom where
  time : Int
  number : Int

def Ev.mom (e : Ev) : Mom := ⟨e.time, e.number⟩
def aheadM (a b : Mom) : Bool := decide (a.time < b.time) || (decide (a.time = b.time) && decide (a.number < b.number))
def aheadF (a b : Ev) : Bool := decide (a.time < b.time) || (decide (a.time = b.time) && decide (a.number < b.number))
theorem aheadF_mom (a b : Ev) : aheadF a b = aheadM a.mom b.mom := rfl

theorem aheadM_iff (a b : Mom) : aheadM a b = true ↔ a.time < b.time ∨ (a.time = b.time ∧ a.number < b.number) := by simp [aheadM]
theorem aheadM_no (a b : Mom) : aheadM a b = false ↔ b.time < a.time ∨ (a.time = b.time ∧ b.number ≤ a.number) := by
  rw [← Bool.not_eq_true, aheadM_iff]; omega
theorem aheadM_asym {a b : Mom} (h : aheadM a b = true) : aheadM b a = false := by
  rw [aheadM_iff] at h; rw [aheadM_no]; omega
theorem aheadM_trans {a b c : Mom} (h : aheadM a b = true) (k : aheadM b c = true) : aheadM a c = true := by
  rw [aheadM_iff] at *; omega
theorem aheadM_ntrans {a b c : Mom} (h : aheadM a b = false) (k : aheadM b c = false) : aheadM a c = false := by
  rw [aheadM_no] at *; omega
theorem aheadM_self (a : Mom) : aheadM a a = false := by rw [aheadM_no]; omega

/-- Two places of a row exchanged. -/
def swapF (f : Nat → Mom) (i j : Nat) : Nat → Mom := fun k => if k = i then f j else if k = j then f i else f k
def putF (f : Nat → Mom) (i : Nat) (m : Mom) : Nat → Mom := fun k => if k = i then m else f k

/-- None of the first n is ahead of the one above it. -/
def HeapF (f : Nat → Mom) (n : Nat) : Prop := ∀ j, 0 < j → j < n → aheadM (f j) (f ((j - 1) / 2)) = false
def RiseF (f : Nat → Mom) (n i : Nat) : Prop :=
  (∀ j, 0 < j → j < n → j ≠ i → aheadM (f j) (f ((j - 1) / 2)) = false) ∧ (∀ j, 0 < i → 0 < j → j < n → (j - 1) / 2 = i → aheadM (f j) (f ((i - 1) / 2)) = false)
def SinkF (f : Nat → Mom) (n i0 i : Nat) : Prop :=
  (∀ j, 0 < j → j < n → (j - 1) / 2 ≠ i → (j ≠ i0 ∨ i ≠ i0) → aheadM (f j) (f ((j - 1) / 2)) = false) ∧ (∀ j, 0 < i → 0 < j → j < n → (j - 1) / 2 = i → aheadM (f j) (f ((i - 1) / 2)) = false)

theorem RiseF.swap {f : Nat → Mom} {n i : Nat} (h : RiseF f n i) (hi : 0 < i) (hn : i < n) (ha : aheadM (f i) (f ((i - 1) / 2)) = true) : RiseF (swapF f i ((i - 1) / 2)) n ((i - 1) / 2) := by
  obtain ⟨h1, h2⟩ := h
  have hp : (i - 1) / 2 < i := by omega
  generalize hP : (i - 1) / 2 = p at *
  refine ⟨?_, ?_⟩
  · intro j hj hjn hjp
    by_cases hji : j = i
    · subst hji
      simp [swapF, hP, show p ≠ j by omega]
      exact aheadM_asym ha
    · by_cases hpi : (j - 1) / 2 = i
      · have := h2 j hi hj hjn hpi
        simp [swapF, hji, hjp, hpi]; exact this
      · by_cases hpp : (j - 1) / 2 = p
        · have := h1 j hj hjn hji
          rw [hpp] at this
          simp [swapF, hji, hjp, hpp, show p ≠ i by omega]
          rw [Bool.eq_false_iff]
          intro hc
          rw [aheadM_trans hc ha] at this
          cases this
        · simp [swapF, hji, hjp, hpi, hpp]
          exact h1 j hj hjn hji
  · intro j hp0 hj hjn hjp
    have hg : (p - 1) / 2 < p := by omega
    have hpg := h1 p hp0 (by omega) (by omega)
    by_cases hji : j = i
    · subst hji
      simp [swapF, show (p - 1) / 2 ≠ j by omega, show (p - 1) / 2 ≠ p by omega]
      exact hpg
    · have := h1 j hj hjn hji
      rw [hjp] at this
      simp [swapF, hji, show j ≠ p by omega, show (p - 1) / 2 ≠ i by omega, show (p - 1) / 2 ≠ p by omega]
      exact aheadM_ntrans this hpg

theorem RiseF.done {f : Nat → Mom} {n i : Nat} (h : RiseF f n i) (he : i = 0 ∨ n ≤ i ∨ aheadM (f i) (f ((i - 1) / 2)) = false) : HeapF f n := by
  intro j hj hjn
  by_cases hji : j = i
  · subst hji
    rcases he with h0 | h0 | h0
    · omega
    · omega
    · exact h0
  · exact h.1 j hj hjn hji

theorem SinkF.swap {f : Nat → Mom} {n i0 i c : Nat} (h : SinkF f n i0 i) (h0 : i0 ≤ i) (hc : (c - 1) / 2 = i) (hc0 : 0 < c) (hcn : c < n) (ha : aheadM (f c) (f i) = true)
    (hs : ∀ s, 0 < s → s < n → (s - 1) / 2 = i → aheadM (f s) (f c) = false) : SinkF (swapF f i c) n i0 c := by
  obtain ⟨h1, h2⟩ := h
  have hic : i < c := by omega
  refine ⟨?_, ?_⟩
  · intro j hj hjn hjc _
    by_cases hjc' : j = c
    · subst hjc'
      simp [swapF, hc, show j ≠ i by omega]
      exact aheadM_asym ha
    · by_cases hji : j = i
      · subst hji
        have := h2 c hj hc0 hcn hc
        simp [swapF, show (j - 1) / 2 ≠ j by omega, show (j - 1) / 2 ≠ c by omega]
        exact this
      · by_cases hpi : (j - 1) / 2 = i
        · simp [swapF, hjc', hji, hpi]
          exact hs j hj hjn hpi
        · simp [swapF, hjc', hji, hpi, hjc]
          exact h1 j hj hjn hpi (by omega)
  · intro j _ hj hjn hjc
    have := h1 j hj hjn (by omega) (by omega)
    rw [hjc] at this
    simp [swapF, hc, show j ≠ i by omega, show j ≠ c by omega]
    exact this

theorem SinkF.done {f : Nat → Mom} {n i0 i : Nat} (h : SinkF f n i0 i) (h0 : i0 ≤ i) (he : ∀ s, 0 < s → s < n → (s - 1) / 2 = i → aheadM (f s) (f i) = false) : RiseF f n i0 := by
  obtain ⟨h1, h2⟩ := h
  by_cases hi : i = i0
  · subst hi
    refine ⟨?_, h2⟩
    intro j hj hjn hji
    by_cases hpi : (j - 1) / 2 = i
    · rw [hpi]; exact he j hj hjn hpi
    · exact h1 j hj hjn hpi (.inl hji)
  · have hall : ∀ j, 0 < j → j < n → aheadM (f j) (f ((j - 1) / 2)) = false := by
      intro j hj hjn
      by_cases hpi : (j - 1) / 2 = i
      · rw [hpi]; exact he j hj hjn hpi
      · exact h1 j hj hjn hpi (.inr hi)
    refine ⟨fun j hj hjn _ => hall j hj hjn, ?_⟩
    intro j hi0 hj hjn hp
    have a := hall j hj hjn
    rw [hp] at a
    exact aheadM_ntrans a (hall i0 hi0 (by omega))

/-- The last one laid over place i, and the row made shorter by one. -/
theorem SinkF.start {f : Nat → Mom} {n i : Nat} (h : HeapF f (n + 1)) (hi : i < n) : SinkF (putF f i (f n)) n i i := by
  refine ⟨?_, ?_⟩
  · intro j hj hjn hp hji
    have hji' : j ≠ i := by omega
    simp [putF, hji', hp]
    exact h j hj (by omega)
  · intro j hi0 hj hjn hp
    have a := h j hj (by omega)
    have b := h i hi0 (by omega)
    rw [hp] at a
    simp [putF, show j ≠ i by omega, show (i - 1) / 2 ≠ i by omega]
    exact aheadM_ntrans a b

theorem HeapF.min {f : Nat → Mom} {n : Nat} (h : HeapF f n) : ∀ i, i < n → aheadM (f i) (f 0) = false := by
  intro i
  induction i using Nat.strongRecOn with
  | _ i ih =>
    intro hi
    by_cases h0 : i = 0
    · subst h0; exact aheadM_self _
    · exact aheadM_ntrans (h i (by omega) hi) (ih ((i - 1) / 2) (by omega) (by omega))

def InjF (f : Nat → Mom) (n : Nat) : Prop := ∀ i j, i < n → j < n → f i = f j → i = j
/-- The first n are just the moments of these events. -/
structure MomsOf (f : Nat → Mom) (n : Nat) (q : List Ev) : Prop where
  len : q.length = n
  inj : InjF f n
  sub : ∀ i, i < n → ∃ e, e ∈ q ∧ f i = e.mom
  sup : ∀ e, e ∈ q → ∃ i, i < n ∧ f i = e.mom

theorem MomsOf.swap {f : Nat → Mom} {n : Nat} {q : List Ev} (h : MomsOf f n q) {i j : Nat} (hi : i < n) (hj : j < n) : MomsOf (swapF f i j) n q := by
  have hg : ∀ k, k < n → ∃ k', k' < n ∧ swapF f i j k = f k' := by
    intro k hk
    unfold swapF
    by_cases h1 : k = i
    · exact ⟨j, hj, by simp [h1]⟩
    · by_cases h2 : k = j
      · exact ⟨i, hi, by simp [h1, h2]; intro e; subst e; omega⟩
      · exact ⟨k, hk, by simp [h1, h2]⟩
  refine ⟨h.len, ?_, ?_, ?_⟩
  · intro a b ha hb e
    unfold swapF at e
    have hij := h.inj
    by_cases a1 : a = i <;> by_cases b1 : b = i <;> by_cases a2 : a = j <;> by_cases b2 : b = j <;> simp [a1, b1, a2, b2] at e <;> (try omega)
    all_goals
      first
      | (have := hij _ _ (by omega) (by omega) e; omega)
      | (have := hij _ _ (by omega) (by omega) (e (by omega)); omega)
      | (split at e <;> first | (have := hij _ _ (by omega) (by omega) e; omega) | omega)
  · intro k hk
    obtain ⟨k', hk', e⟩ := hg k hk
    rw [e]; exact h.sub k' hk'
  · intro e he
    obtain ⟨k, hk, e1⟩ := h.sup e he
    by_cases h1 : k = i
    · refine ⟨j, hj, ?_⟩
      subst h1
      by_cases hji : j = k
      · subst hji; simp [swapF, e1]
      · simp [swapF, hji, e1]
    · by_cases h2 : k = j
      · subst h2; exact ⟨i, hi, by simp [swapF, e1]⟩
      · exact ⟨k, hk, by simp [swapF, h1, h2, e1]⟩

theorem MomsOf.cons {f : Nat → Mom} {n : Nat} {q q' : List Ev} {e : Ev} (h : MomsOf f n q) (hnew : ∀ x ∈ q, x.number ≠ e.number) (hl : q'.length = n + 1) (hq : ∀ x, x ∈ q' ↔ x = e ∨ x ∈ q) : MomsOf (putF f n e.mom) (n + 1) q' := by
  have old : ∀ k, k < n → f k ≠ e.mom := by
    intro k hk hc
    obtain ⟨x, hx, hfx⟩ := h.sub k hk
    exact hnew x hx (by rw [hfx] at hc; exact congrArg Mom.number hc)
  refine ⟨hl, ?_, ?_, ?_⟩
  · intro a b ha hb hab
    unfold putF at hab
    by_cases h1 : a = n <;> by_cases h2 : b = n <;> simp [h1, h2] at hab
    · omega
    · exact absurd hab.symm (old b (by omega))
    · exact absurd hab (old a (by omega))
    · exact h.inj a b (by omega) (by omega) hab
  · intro k hk
    by_cases h1 : k = n
    · exact ⟨e, (hq e).2 (.inl rfl), by simp [putF, h1]⟩
    · obtain ⟨x, hx, hfx⟩ := h.sub k (by omega)
      exact ⟨x, (hq x).2 (.inr hx), by simp [putF, h1, hfx]⟩
  · intro x hx
    rcases (hq x).1 hx with rfl | hx
    · exact ⟨n, by omega, by simp [putF]⟩
    · obtain ⟨k, hk, hfk⟩ := h.sup x hx
      exact ⟨k, by omega, by simp [putF, show k ≠ n by omega, hfk]⟩

theorem MomsOf.remove {f : Nat → Mom} {n i : Nat} {q q' : List Ev} {e : Ev} (h : MomsOf f (n + 1) q) (hi : i < n + 1) (hfi : f i = e.mom) (hnum : ∀ x ∈ q, x.number = e.number → x = e) (hl : q'.length = n) (hq : ∀ x, x ∈ q' ↔ x ∈ q ∧ x.number ≠ e.number) : MomsOf (putF f i (f n)) n q' := by
  refine ⟨hl, ?_, ?_, ?_⟩
  · intro a b ha hb hab
    unfold putF at hab
    by_cases h1 : a = i <;> by_cases h2 : b = i <;> simp [h1, h2] at hab
    · omega
    · have := h.inj _ _ (by omega) (by omega) hab; omega
    · have := h.inj _ _ (by omega) (by omega) hab; omega
    · exact h.inj a b (by omega) (by omega) hab
  · intro k hk
    have key : ∀ k', k' < n + 1 → k' ≠ i → ∃ x, x ∈ q' ∧ f k' = x.mom := by
      intro k' hk' hne
      obtain ⟨x, hx, hfx⟩ := h.sub k' hk'
      refine ⟨x, (hq x).2 ⟨hx, fun hn => hne ?_⟩, hfx⟩
      have : x = e := hnum x hx hn
      subst this
      exact h.inj _ _ hk' hi (hfx.trans hfi.symm)
    unfold putF
    by_cases h1 : k = i
    · simp [h1]; exact key n (by omega) (by omega)
    · simp [h1]; exact key k (by omega) h1
  · intro x hx
    obtain ⟨hxq, hxn⟩ := (hq x).1 hx
    obtain ⟨k, hk, hfk⟩ := h.sup x hxq
    have hki : k ≠ i := by
      intro e1; subst e1
      rw [hfi] at hfk
      exact hxn (congrArg Mom.number hfk).symm
    by_cases hkn : k = n
    · subst hkn
      exact ⟨i, by omega, by simp [putF, hfk]⟩
    · exact ⟨k, by omega, by simp [putF, hki, hfk]⟩

/-- The queue in the order in which it would happen. -/
def Sorted (q : List Ev) : Prop := q.Pairwise (fun a b => aheadF a b = true)
def Distinct (q : List Ev) : Prop := q.Pairwise (fun a b => a.number ≠ b.number)

theorem Distinct.eq {q : List Ev} (h : Distinct q) {a b : Ev} (ha : a ∈ q) (hb : b ∈ q) (e : a.number = b.number) : a = b := by
  induction q with
  | nil => simp at ha
  | cons x q ih =>
    rcases List.pairwise_cons.1 h with ⟨h1, h2⟩
    rcases List.mem_cons.1 ha with ha' | ha' <;> rcases List.mem_cons.1 hb with hb' | hb'
    · rw [ha', hb']
    · exact absurd (by rw [← e, ha']) (h1 b hb')
    · exact absurd (by rw [e, hb']) (h1 a ha')
    · exact ih h2 ha' hb'

theorem MomsOf.first {f : Nat → Mom} {n : Nat} {e : Ev} {q : List Ev} (h : MomsOf f n (e :: q)) (hh : HeapF f n) (hs : Sorted (e :: q)) (hd : Distinct (e :: q)) : 0 < n ∧ f 0 = e.mom := by
  have hn : 0 < n := by have := h.len; simp at this; omega
  refine ⟨hn, ?_⟩
  obtain ⟨x, hx, hfx⟩ := h.sub 0 hn
  rcases List.mem_cons.1 hx with rfl | hx
  · exact hfx
  · have h1 := (List.pairwise_cons.1 hs).1 x hx
    obtain ⟨k, hk, hfk⟩ := h.sup e (by simp)
    have := hh.min k hk
    rw [hfk, hfx, ← aheadF_mom, h1] at this
    cases this

def posF (e : Ev) : List Ev → Nat
  | [] => 0
  | x :: q => if aheadF x e then posF e q + 1 else 0
theorem posF_le (e : Ev) : ∀ q, posF e q ≤ q.length
  | [] => Nat.le_refl _
  | x :: q => by unfold posF; split <;> simp; exact posF_le e q
theorem posF_drop {e : Ev} {q : List Ev} {k : Nat} (h : k < q.length) : posF e (q.drop k) = if aheadF q[k] e then posF e (q.drop (k + 1)) + 1 else 0 := by
  rw [List.drop_eq_getElem_cons h, posF]
def insF (e : Ev) (q : List Ev) : List Ev := q.take (posF e q) ++ e :: q.drop (posF e q)
theorem insF_length (e : Ev) (q : List Ev) : (insF e q).length = q.length + 1 := by
  have := posF_le e q
  simp [insF]; omega
theorem insF_cons (e x : Ev) (q : List Ev) : insF e (x :: q) = if aheadF x e then x :: insF e q else e :: x :: q := by
  unfold insF
  rw [posF]
  split <;> simp
theorem insF_mem (e : Ev) : ∀ (q : List Ev) (x : Ev), x ∈ insF e q ↔ x = e ∨ x ∈ q
  | [], x => by simp [insF, posF]
  | y :: q, x => by
    rw [insF_cons]
    split
    · have := insF_mem e q x
      simp only [List.mem_cons, this]
      constructor
      · rintro (h | h | h) <;> simp [h]
      · rintro (h | h | h) <;> simp [h]
    · simp [List.mem_cons]
theorem insF_distinct (e : Ev) : ∀ (q : List Ev), Distinct q → (∀ x ∈ q, x.number ≠ e.number) → Distinct (insF e q)
  | [], _, _ => by simp [insF, posF, Distinct]
  | y :: q, h, hn => by
    rw [insF_cons]
    obtain ⟨h1, h2⟩ := List.pairwise_cons.1 h
    split
    · refine List.pairwise_cons.2 ⟨?_, insF_distinct e q h2 (fun x hx => hn x (by simp [hx]))⟩
      intro x hx
      rcases (insF_mem e q x).1 hx with rfl | hx
      · exact hn y (by simp)
      · exact h1 x hx
    · exact List.pairwise_cons.2 ⟨fun x hx => (hn x hx).symm, h⟩
theorem insF_sorted (e : Ev) : ∀ (q : List Ev), Sorted q → (∀ x ∈ q, x.number ≠ e.number) → Sorted (insF e q)
  | [], _, _ => by simp [insF, posF, Sorted]
  | y :: q, h, hn => by
    rw [insF_cons]
    obtain ⟨h1, h2⟩ := List.pairwise_cons.1 h
    split
    · rename_i hy
      refine List.pairwise_cons.2 ⟨?_, insF_sorted e q h2 (fun x hx => hn x (by simp [hx]))⟩
      intro x hx
      rcases (insF_mem e q x).1 hx with rfl | hx
      · exact hy
      · exact h1 x hx
    · rename_i hy
      have hey : aheadF e y = true := by
        have hne := hn y (by simp)
        have : aheadF y e = false := by simpa using hy
        rw [aheadF_mom, aheadM_no] at this
        rw [aheadF_mom, aheadM_iff]
        simp only [Ev.mom] at *
        omega
      refine List.pairwise_cons.2 ⟨?_, h⟩
      intro x hx
      rcases List.mem_cons.1 hx with rfl | hx
      · exact hey
      · have := h1 x hx
        rw [aheadF_mom] at *
        exact aheadM_trans hey this

/-- What is left when the event of that number is taken out. -/
def outF (n : Int) (q : List Ev) : List Ev := q.filter (fun e => decide (e.number ≠ n))
theorem outF_mem (n : Int) (q : List Ev) (x : Ev) : x ∈ outF n q ↔ x ∈ q ∧ x.number ≠ n := by simp [outF]
theorem outF_sorted {n : Int} {q : List Ev} (h : Sorted q) : Sorted (outF n q) := List.Pairwise.filter _ h
theorem outF_distinct {n : Int} {q : List Ev} (h : Distinct q) : Distinct (outF n q) := List.Pairwise.filter _ h
theorem outF_none {n : Int} {q : List Ev} (h : ∀ x ∈ q, x.number ≠ n) : outF n q = q := List.filter_eq_self.2 (by simpa using h)
theorem outF_length {n : Int} : ∀ {q : List Ev}, Distinct q → ∀ {e : Ev}, e ∈ q → e.number = n → (outF n q).length + 1 = q.length
  | x :: q, hd, e, he, hen => by
    obtain ⟨h1, h2⟩ := List.pairwise_cons.1 hd
    rcases List.mem_cons.1 he with rfl | he
    · have : outF n q = q := outF_none (fun y hy => by rw [← hen]; exact (h1 y hy).symm)
      simp [outF, hen] at this ⊢
      exact this
    · have ih := outF_length h2 he hen
      have hx : x.number ≠ n := by rw [← hen]; exact h1 e he
      simp [outF, hx] at ih ⊢
      omega
theorem outF_head {e : Ev} {q : List Ev} (h : Distinct (e :: q)) : outF e.number (e :: q) = q := by
  obtain ⟨h1, h2⟩ := List.pairwise_cons.1 h
  have : outF e.number q = q := outF_none (fun y hy => (h1 y hy).symm)
  simpa [outF] using this
end Go.Proofs.Ytndlmgocldckfaa
