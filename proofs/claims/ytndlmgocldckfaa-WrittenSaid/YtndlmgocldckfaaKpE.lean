import Derived.Test.YtndlmgocldckfaaKpD
import Derived.Test.YtndlmgocldckfaaRunF
namespace Go.Proofs.Ytndlmgocldckfaa
open Go.RowKit
set_option linter.unusedVariables false
set_option linter.unusedSimpArgs false

/-! The model that raw numbers speak of, in plain lists. -/

def codesF (L : List Int) (kinds ents : Int) : Nat → Nat → List Ins × Nat
  | 0, I => ([], I)
  | n + 1, I => ((instrF L kinds ents I).1 :: (codesF L kinds ents n (instrF L kinds ents I).2).1, (codesF L kinds ents n (instrF L kinds ents I).2).2)

def codeRF (L : List Int) (kinds ents : Int) (I : Nat) : List Ins × Nat := codesF L kinds ents (nextF L I 7).1.toNat (nextF L I 7).2

def kindsRF (L : List Int) (kinds ents : Int) : Nat → Nat → List (List Ins) × Nat
  | 0, I => ([], I)
  | n + 1, I => ((codeRF L kinds ents I).1 :: (kindsRF L kinds ents n (codeRF L kinds ents I).2).1, (kindsRF L kinds ents n (codeRF L kinds ents I).2).2)

def entsF (L : List Int) : Int := 1 + (nextF L 0 3).1
def nkF (L : List Int) : Int := 1 + (nextF L (nextF L 0 3).2 4).1
def kindsF (L : List Int) : List (List Ins) := (kindsRF L (nkF L) (entsF L) (nkF L).toNat (nextF L (nextF L 0 3).2 4).2).1

theorem entsF_le (L : List Int) : 1 ≤ entsF L ∧ entsF L ≤ 3 := by
  have := nextF_lt L 0 (n := 3) (by omega)
  unfold entsF; omega
theorem nkF_le (L : List Int) : 1 ≤ nkF L ∧ nkF L ≤ 4 := by
  have := nextF_lt L (nextF L 0 3).2 (n := 4) (by omega)
  unfold nkF; omega

theorem codesF_len (L : List Int) (kinds ents : Int) : ∀ n I, (codesF L kinds ents n I).1.length = n
  | 0, I => rfl
  | n + 1, I => by simp [codesF, codesF_len L kinds ents n]
theorem kindsRF_len (L : List Int) (kinds ents : Int) : ∀ n I, (kindsRF L kinds ents n I).1.length = n
  | 0, I => rfl
  | n + 1, I => by simp [kindsRF, kindsRF_len L kinds ents n]

theorem kindsF_len (L : List Int) : ((kindsF L).length : Int) = nkF L := by
  unfold kindsF
  rw [kindsRF_len]
  have := nkF_le L
  omega

theorem codesF_may (L : List Int) {kinds : Nat} {ents : Int} (hk : 1 ≤ kinds) (he : 1 ≤ ents) : ∀ n I, ∀ x ∈ (codesF L kinds ents n I).1, mayF ents kinds x.op x.a x.b x.c = true
  | 0, I, x, hx => by simp [codesF] at hx
  | n + 1, I, x, hx => by
    simp only [codesF, List.mem_cons] at hx
    rcases hx with rfl | hx
    · exact instrF_may L I hk he
    · exact codesF_may L hk he n _ x hx

theorem kindsRF_may (L : List Int) {kinds : Nat} {ents : Int} (hk : 1 ≤ kinds) (he : 1 ≤ ents) : ∀ n I, ∀ l ∈ (kindsRF L kinds ents n I).1, l.length ≤ 6 ∧ ∀ x ∈ l, mayF ents kinds x.op x.a x.b x.c = true
  | 0, I, l, hl => by simp [kindsRF] at hl
  | n + 1, I, l, hl => by
    simp only [kindsRF, List.mem_cons] at hl
    rcases hl with rfl | hl
    · have := nextF_lt L I (n := 7) (by omega)
      refine ⟨?_, codesF_may L hk he _ _⟩
      unfold codeRF
      rw [codesF_len]
      omega
    · exact kindsRF_may L hk he n _ l hl

theorem kindsF_ok (L : List Int) : CodesOk (entsF L) (kindsF L) := by
  have h1 := entsF_le L
  have h2 := nkF_le L
  have h3 := kindsF_len L
  intro l hl
  have hn : nkF L = ((kindsF L).length : Int) := h3.symm
  have := kindsRF_may L (kinds := (kindsF L).length) (ents := entsF L) (by omega) h1.1 (nkF L).toNat (nextF L (nextF L 0 3).2 4).2 l (by rw [← hn]; exact hl)
  exact ⟨by omega, this.2⟩

theorem firstBad_none {ents : Int} {nk : Nat} : ∀ (l : List Ins) (i : Nat), (∀ x ∈ l, mayF ents nk x.op x.a x.b x.c = true) → firstBad ents nk l i = none
  | [], i, _ => rfl
  | x :: l, i, h => by
    rw [firstBad, if_pos (h x (List.mem_cons_self ..))]
    exact firstBad_none l (i + 1) (fun y hy => h y (List.mem_cons_of_mem _ hy))
theorem firstKind_none {ents : Int} {nk : Nat} : ∀ (ks : List (List Ins)) (i : Nat), (∀ l ∈ ks, l.length ≤ 16 ∧ ∀ x ∈ l, mayF ents nk x.op x.a x.b x.c = true) → firstKind ents nk ks i = none
  | [], i, _ => rfl
  | l :: ks, i, h => by
    obtain ⟨h1, h2⟩ := h l (List.mem_cons_self ..)
    have : codeF ents nk l = none := by rw [codeF, if_neg (by omega)]; exact firstBad_none l 0 h2
    rw [firstKind, this]
    exact firstKind_none ks (i + 1) (fun y hy => h y (List.mem_cons_of_mem _ hy))
theorem kindF_none {ents : Int} {ks : List (List Ins)} (he : 1 ≤ ents ∧ ents ≤ 8) (hk : 1 ≤ ks.length ∧ ks.length ≤ 8) (h : CodesOk ents ks) : kindF ents ks = none := by
  unfold kindF
  rw [if_neg (by simp [inB]; omega)]
  exact firstKind_none ks 0 h

theorem kindsF_none (L : List Int) : kindF (entsF L) (kindsF L) = none := by
  have h1 := entsF_le L
  have h2 := nkF_le L
  have h3 := kindsF_len L
  exact kindF_none (by omega) (by omega) (kindsF_ok L)

theorem rdrawsF_ok (L : List Int) : DrawsOk (rdrawsF L) := by
  intro d hd
  obtain ⟨c, _, rfl⟩ := List.mem_map.1 hd
  have := pickF_lt c (n := 1000000001) (by omega)
  omega
theorem rdrawsF_len (L : List Int) : (rdrawsF L).length ≤ 1000 ∧ (rdrawsF L).length ≤ L.length := by
  simp [rdrawsF]; omega
theorem rdrawsF_draws (L : List Int) : drawsF (rdrawsF L) = true := by
  have h1 := rdrawsF_len L
  have h2 := rdrawsF_ok L
  simp only [drawsF, Bool.and_eq_true, decide_eq_true_eq]
  refine ⟨h1.1, List.all_eq_true.2 fun d hd => ?_⟩
  have := h2 d hd
  simp [drawB, inB]
  omega
end Go.Proofs.Ytndlmgocldckfaa
