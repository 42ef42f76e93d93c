import Derived.Test.YtpkkjgcpmnoalaaLentW
import Derived.Test.YtpkkjgcpmnoalaaApp
namespace Go.Proofs.Ytpkkjgcpmnoalaa
open Go.RowKit
set_option linter.unusedVariables false
set_option linter.unusedSimpArgs false

theorem lentL_code {w : World} {c : Nat} {l : List Ins} (h : CodeAt w c 0 (lentL l)) : CodeAt w c 0 l := by
  intro i x hx
  have hi : i < l.length := (List.getElem?_eq_some_iff.1 hx).1
  refine h i x ?_
  rw [lentL_elem l i hi]
  rw [List.getElem?_eq_getElem hi] at hx
  exact hx

theorem LentTo.kinds {lo hi : Nat} {w : World} {g h b off : Nat} {rs : List (Option Nat)} {ks : List (List Ins)} (x : LentTo lo hi w g h b off ks.length rs ks) : KindsAt w.heap.size w g 0 ks := by
  intro i l hl
  have hi : i < ks.length := (List.getElem?_eq_some_iff.1 hl).1
  have hr : rs[i]? = some (rs[i]'(by rw [x.len]; exact hi)) := by simp [x.len, hi]
  generalize rs[i]'(by rw [x.len]; exact hi) = r at hr
  obtain ⟨h1, _⟩ := x.row i r l hr hl
  obtain ⟨v, _, hv, _⟩ := x.orig i l hl
  refine ⟨_, by rw [Nat.zero_add]; exact h1, hv.1, ?_⟩
  cases r with
  | none => exact .inl ⟨rfl, x.none_ i l hr hl⟩
  | some c =>
    obtain ⟨c1, c2, c3, c4, c5, c6⟩ := x.code i c l hr hl
    exact .inr (.inl ⟨c, 0, l.length + 8, rfl, c4, lentL_code c1⟩)

theorem kindsV_gen {B : Nat} {w : World} {ka : Addr} {kb koff kcap : Nat} {ks : List (List Ins)} (hka : 0 < ks.length → ka = ⟨kb, koff, none⟩) (hkl : ks.length ≤ 5864062014805) (hkb : kb < B) (hK : KindsAt B w kb koff ks) : KindsV B w (.slice (some ka) ks.length kcap) ks := by
  by_cases h0 : 0 < ks.length
  · rw [hka h0]; exact ⟨hkl, .inr (.inl ⟨kb, koff, kcap, rfl, hkb, hK⟩)⟩
  · have : ks = [] := List.eq_nil_of_length_eq_zero (by omega)
    subst this
    exact ⟨by simp, .inr (.inr ⟨ka, kcap, rfl, rfl⟩)⟩

theorem lentI_row {w : World} {g : Nat} {l : List Int} (h : RowAt w g 0 (lentI l)) : RowAt w g 0 (ints l) := by
  intro j v hv
  refine h j v ?_
  have hj : j < (ints l).length := (List.getElem?_eq_some_iff.1 hv).1
  rw [lentI, List.getElem?_append_left hj]; exact hv

/-- A list of numbers was lent (nil stays nil): how it lies. -/
def LentV (lo : Nat) (w : World) (v : Value) (sa : Option Addr) (sc : Nat) (l : List Int) : Prop :=
  (v = .slice none 0 0 ∧ sa = none ∧ sc = 0 ∧ l = []) ∨ ∃ g, sa = some ⟨g, 0, none⟩ ∧ sc = l.length + 8 ∧ v ≠ .slice none 0 0 ∧ lo ≤ g ∧ g < w.heap.size ∧ RowAt w g 0 (lentI l) ∧ Room w g (l.length + 8)

/-- Numbers of the script: they may also be none, at any address. -/
def IntsX (B : Nat) (w : World) (v : Value) (l : List Int) : Prop := IntsIn (· < B) w v l ∨ ∃ a cap, v = .slice (some a) 0 cap ∧ l = []
theorem IntsX.form {B : Nat} {w : World} {v : Value} {l : List Int} (h : IntsX B w v l) : ∃ sa sc, v = .slice sa l.length sc := by
  rcases h with h | ⟨a, c, rfl, rfl⟩
  · exact h.form
  · exact ⟨_, _, rfl⟩
theorem IntsX.len {B : Nat} {w : World} {v : Value} {l : List Int} (h : IntsX B w v l) : l.length ≤ 17592186044416 := by
  rcases h with h | ⟨a, c, rfl, rfl⟩
  · exact h.1
  · simp
theorem IntsX.below {B : Nat} {w w' : World} {v : Value} {l : List Int} (h : IntsX B w v l) (hb : Below B w w') : IntsX B w' v l := by
  rcases h with h | h
  · exact .inl (h.only (Only.ofBelow (S := (B ≤ ·)) hb (fun k h _ => h)) (fun b hb => by omega))
  · exact .inr h
theorem IntsX.mono {B B' : Nat} {w : World} {v : Value} {l : List Int} (h : IntsX B w v l) (hB : B ≤ B') : IntsX B' w v l := by
  rcases h with h | h
  · exact .inl (h.mono (fun b hb => by omega))
  · exact .inr h

theorem lentInts_any {B : Nat} (v : Value) (l : List Int) (w : World) (hv : IntsX B w v l) :
    Calls Try.prog 21 #[v] w fun e w' => ∃ sa sc, e = .returned (.slice sa l.length sc) ∧ Below w.heap.size w w' ∧ LentV w.heap.size w' v sa sc l := by
  obtain ⟨hl, ⟨rfl, rfl⟩ | ⟨b, off, cap, rfl, hb, hc⟩⟩ | ⟨ea, ec, rfl, rfl⟩ := hv
  · refine (lentInts_nil w).mono ?_
    rintro e w' ⟨rfl, rfl⟩
    exact ⟨none, 0, rfl, Below.refl _ _, .inl ⟨rfl, rfl, rfl, rfl⟩⟩
  · refine (lentInts_some b off cap l w hl hc).mono ?_
    rintro e w' ⟨g, h1, h2, rfl, h3, h4, h5⟩
    exact ⟨_, _, rfl, h3, .inr ⟨g, rfl, rfl, by simp, h1, h2, h4, h5⟩⟩
  · refine (lentInts_at ea ec [] w (by simp) (fun j v hv => by simp [ints] at hv)).mono ?_
    rintro e w' ⟨g, h1, h2, rfl, h3, h4, h5⟩
    exact ⟨_, _, rfl, h3, .inr ⟨g, rfl, rfl, by simp, h1, h2, h4, h5⟩⟩

theorem LentV.below {lo : Nat} {w w' : World} {v : Value} {sa : Option Addr} {sc : Nat} {l : List Int} (h : LentV lo w v sa sc l) (hb : Below w.heap.size w w') : LentV lo w' v sa sc l := by
  rcases h with h | ⟨g, h1, h2, h3, h4, h5, h6, h7⟩
  · exact .inl h
  · exact .inr ⟨g, h1, h2, h3, h4, by have := hb.size; omega, h6.below hb h5, h7.below hb h5⟩
theorem LentV.only {S : Nat → Prop} {lo : Nat} {w w' : World} {v : Value} {sa : Option Addr} {sc : Nat} {l : List Int} (h : LentV lo w v sa sc l) (ho : Only S w w') (hS : ∀ b, lo ≤ b → ¬ S b) : LentV lo w' v sa sc l := by
  rcases h with h | ⟨g, h1, h2, h3, h4, h5, h6, h7⟩
  · exact .inl h
  · exact .inr ⟨g, h1, h2, h3, h4, by have := ho.size; omega, h6.only ho (hS g h4), h7.only ho (hS g h4)⟩
theorem LentV.ints {lo : Nat} {w : World} {v : Value} {sa : Option Addr} {sc : Nat} {l : List Int} (h : LentV lo w v sa sc l) (hl : l.length ≤ 17592186044416) : IntsIn (· < w.heap.size) w (.slice sa l.length sc) l := by
  rcases h with ⟨_, rfl, rfl, rfl⟩ | ⟨g, rfl, rfl, h3, h4, h5, h6, h7⟩
  · exact ⟨hl, .inl ⟨rfl, rfl⟩⟩
  · exact ⟨hl, .inr ⟨g, 0, _, rfl, h5, lentI_row h6⟩⟩

theorem wholeInts_any (lo hi : Nat) (v : Value) (l : List Int) (sa : Option Addr) (sc : Nat) (w : World) (hv : IntsX lo w v l) (h : LentV lo w v sa sc l) (hhi : ∀ g, sa = some ⟨g, 0, none⟩ → g < hi) :
    Calls Try.prog 24 #[.slice sa l.length sc, v] w fun e w' => e = .returned (.bool true) ∧ Only (fun x => lo ≤ x ∧ x < hi) w w' := by
  rcases h with ⟨rfl, rfl, rfl, rfl⟩ | ⟨g, rfl, rfl, h3, h4, h5, h6, h7⟩
  · refine (wholeInts_nil _ w).mono ?_
    rintro e w' ⟨rfl, rfl⟩
    exact ⟨rfl, Only.refl _ _⟩
  · obtain ⟨hl, ⟨h0, _⟩ | ⟨b, off, cap, rfl, hb, hc⟩⟩ | ⟨ea, ec, rfl, rfl⟩ := hv
    · exact absurd h0 h3
    · refine (wholeInts_some b off cap g 0 l w hl hc (by omega) h6 h7).mono ?_
      rintro e w' ⟨rfl, ho⟩
      refine ⟨rfl, ho.mono ?_⟩
      intro k _ hk
      subst hk
      exact ⟨h4, hhi _ rfl⟩
    · refine (wholeInts_gen ea (g + 1) 0 ec g 0 [] w (fun h => by simp at h) (by simp) (fun j v hv => by simp [ints] at hv) (by omega) h6 h7).mono ?_
      rintro e w' ⟨rfl, ho⟩
      refine ⟨rfl, ho.mono ?_⟩
      intro k _ hk
      subst hk
      exact ⟨h4, hhi _ rfl⟩
end Go.Proofs.Ytpkkjgcpmnoalaa
