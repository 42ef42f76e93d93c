import Derived.Test.YtndlmgocldckfaaGreatG36
namespace Go.Proofs.YtndlmgocldckfaaGreat
open Go.RowKit
set_option linter.unusedVariables false
set_option linter.unusedSimpArgs false
set_option maxRecDepth 100000
set_option maxHeartbeats 4000000
def kerL (E nk dl : Nat) (l : List Int) : KS × List Int × Bool :=
 let a1 := numL E E l false
 let a2 := numL nk nk a1.2.1 a1.2.2
 let a3 := numL 0 1000000000000 a2.2.1 a2.2.2
 let a4 := numL 1 1000000000 a3.2.1 a3.2.2
 let a5 := numL 0 dl a4.2.1 a4.2.2
 let r := regsL (E * 4) 0 ks0.regs a5.2.1 a5.2.2
 if r.2.2 then (⟨a5.1.toNat, a3.1, a4.1, r.1, []⟩, r.2.1, true)
 else
  let n := numL 0 16 r.2.1 false
  let q := quL E nk a4.1 n.1.toNat a3.1 [] n.2.1 n.2.2
  (⟨a5.1.toNat, a3.1, a4.1, r.1, q.1⟩, q.2.1, q.2.2)
theorem kerL_good (E : Nat) (ks : List (List Ins)) (draws : List Int) (l : List Int) (hb : ∀ c ∈ l, 0 ≤ c ∧ c < 256) (h : (kerL E ks.length draws.length l).2.2 = false) : Fit (E : Int) ks draws (kerL E ks.length draws.length l).1 ∧ RegZ (E : Int) (kerL E ks.length draws.length l).1 := by
 unfold kerL at h ⊢
 simp only at h ⊢
 split at h
 ·cases h
 ·rename_i hr
  rw [if_neg hr]
  simp only at h ⊢
  simp only [Bool.not_eq_true] at hr
  have b1 : ∀ c ∈ (numL E E l false).2.1, 0 ≤ c ∧ c < 256 := numL_bytes hb
  generalize e1 : numL E E l false = a1 at h hr b1 ⊢
  have b2 : ∀ c ∈ (numL ks.length ks.length a1.2.1 a1.2.2).2.1, 0 ≤ c ∧ c < 256 := numL_bytes b1
  generalize e2 : numL ks.length ks.length a1.2.1 a1.2.2 = a2 at h hr b2 ⊢
  have b3 : ∀ c ∈ (numL 0 1000000000000 a2.2.1 a2.2.2).2.1, 0 ≤ c ∧ c < 256 := numL_bytes b2
  generalize e3 : numL 0 1000000000000 a2.2.1 a2.2.2 = a3 at h hr b3 ⊢
  have b4 : ∀ c ∈ (numL 1 1000000000 a3.2.1 a3.2.2).2.1, 0 ≤ c ∧ c < 256 := numL_bytes b3
  generalize e4 : numL 1 1000000000 a3.2.1 a3.2.2 = a4 at h hr b4 ⊢
  have b5 : ∀ c ∈ (numL 0 draws.length a4.2.1 a4.2.2).2.1, 0 ≤ c ∧ c < 256 := numL_bytes b4
  generalize e5 : numL 0 draws.length a4.2.1 a4.2.2 = a5 at h hr b5 ⊢
  have hrg := regsL_good (E * 4) 0 ks0.regs a5.2.1 a5.2.2 b5 hr (fun k => by simp [ks0])
  generalize e6 : regsL (E * 4) 0 ks0.regs a5.2.1 a5.2.2 = r at h hr hrg ⊢
  have g5 := numL_good (lo := 0) (hi := draws.length) (l := a4.2.1) (bad := a4.2.2) (by rw [e5]; exact hrg.1)
  have g4 := numL_good (lo := 1) (hi := 1000000000) (l := a3.2.1) (bad := a3.2.2) (by rw [e4]; exact g5.1)
  have g3 := numL_good (lo := 0) (hi := 1000000000000) (l := a2.2.1) (bad := a2.2.2) (by rw [e3]; exact g4.1)
  rw [e5] at g5
  rw [e4] at g4
  rw [e3] at g3
  have hq0 : QuOk (E : Int) ks.length a4.1 a3.1 a3.1 [] := ⟨by simp [Sorted], by simp [Distinct], by simp, by simp, Int.le_refl _⟩
  have hq := quL_good (E : Int) ks.length a4.1 a3.1 _ a3.1 [] _ _ h hq0
  have gn := numL_good hq.1
  generalize quL (E : Int) ks.length a4.1 (numL 0 16 r.2.1 false).1.toNat a3.1 [] (numL 0 16 r.2.1 false).2.1 (numL 0 16 r.2.1 false).2.2 = q at h hq ⊢
  obtain ⟨_, ⟨t', hq1⟩, hq2⟩ := hq
  refine ⟨⟨⟨?_, g3.2, g4.2, hrg.2.1, hq1.evs, ?_⟩, ⟨hq1.sorted, hq1.dist⟩⟩, ?_⟩
  ·have := g5.2; show a5.1.toNat ≤ draws.length; omega
  ·show q.1.length ≤ 16
   rw [hq2]
   have := gn.2
   simp only [List.length_nil]
   omega
  ·intro j hj
   exact hrg.2.2.1 j (by simp at hj; omega)
theorem kerL_body (E : Nat) (ks : List (List Ins)) (draws : List Int) (s : KS) (hl : ks.length ≤ 8) (hfit : Fit (E : Int) ks draws s) (hz : RegZ (E : Int) s) (he : 1 ≤ E ∧ E ≤ 8) (hdl : draws.length ≤ 1000) : kerL E ks.length draws.length (bodyF (E : Int) ks.length s) = (s, [], false) := by
 obtain ⟨hok, hso, hdi⟩ := hfit
 obtain ⟨k1, k2, k3, k4, k5, k6⟩ := hok
 have E0 : bodyF (E : Int) ks.length s = numB (E : Int) ++ (numB (ks.length : Int) ++ (numB s.clock ++ (numB s.next ++ (numB (s.taken : Int) ++ (regB s (E * 4) ++ (numB (s.q.length : Int) ++ evB s.clock s.q)))))) := by
  unfold bodyF
  rw [Int.toNat_natCast]
 have e6 : regsL (E * 4) 0 ks0.regs (regB s (E * 4) ++ (numB (s.q.length : Int) ++ evB s.clock s.q)) false = (s.regs, numB (s.q.length : Int) ++ evB s.clock s.q, false) := by
  have := regsL_regB s.regs k4 (numB (s.q.length : Int) ++ evB s.clock s.q) (E * 4) ks0.regs 0
  unfold regB
  rw [List.range_eq_range', this]
  refine Prod.ext ?_ rfl
  funext j
  simp only [Nat.zero_le, true_and, Nat.zero_add]
  split
  ·rfl
  ·exact (hz j (by simp; omega)).symm
 have e7 : quL (E : Int) ks.length s.next s.q.length s.clock [] (evB s.clock s.q) false = (s.q, [], false) := by
  have := quL_evB (ents := (E : Int)) (nk := ks.length) (next := s.next) (by omega) hl k3.2 [] s.q [] s.clock (by simpa using hso) (by simpa using hdi) (fun e he' => by
   have := k5 e he'
   exact ⟨by omega, by omega, by omega, by omega⟩) k2.1 (fun e he' => (k5 e he').1) (by simp)
  simpa using this
 unfold kerL
 rw [E0, numL_numB (by omega) (by omega)]
 simp only
 rw [numL_numB (by omega) (by omega)]
 simp only
 rw [numL_numB (by omega) (by omega)]
 simp only
 rw [numL_numB (by omega) (by omega)]
 simp only
 rw [numL_numB (by omega) (by omega)]
 simp only
 rw [e6]
 simp only [Bool.false_eq_true, if_false]
 rw [numL_numB (by omega) (by omega)]
 simp only [Int.toNat_natCast]
 rw [e7]
theorem regRF_inv : ∀ (n : Nat) (f : Nat → Int) (j : Nat) (l l1 : List Int) (b : Bool) (g : Nat → Int), (∀ c ∈ l, 0 ≤ c ∧ c < 256) → regRF n f j l b = (g, l1, false) → b = false ∧ (∀ k, j ≤ k ∧ k < j + n → -1000000000 ≤ g k ∧ g k ≤ 1000000000) ∧ (∀ k, ¬ (j ≤ k ∧ k < j + n) → g k = f k) ∧ l = (List.range' j n).flatMap (fun k => sgnB (g k)) ++ l1
 | 0, f, j, l, l1, b, g, hb, h => by
  simp only [regRF, Prod.mk.injEq] at h
  obtain ⟨rfl, rfl, rfl⟩ := h
  exact ⟨rfl, fun k hk => by omega, fun k _ => rfl, by simp⟩
 | n + 1, f, j, l, l1, b, g, hb, h => by
  rw [regRF] at h
  generalize e : readS 1000000000 l b = r at h
  obtain ⟨v, l2, f2⟩ := r
  simp only at h
  have hf2 : f2 = false := by
   cases f2 with
   | false => rfl
   | true =>
    have := regRF_flt n (putR f j v) (j + 1) l2
    rw [h] at this
    cases this
  subst hf2
  obtain ⟨h1, h2, h3, h4⟩ := readS_inv hb e
  have ih := regRF_inv n (putR f j v) (j + 1) l2 l1 false g (suffix_bytes hb h4) h
  have hgj : g j = v := by
   rw [ih.2.2.1 j (by omega)]
   simp [putR]
  refine ⟨h1, fun k hk => ?_, fun k hk => ?_, ?_⟩
  ·by_cases hkj : k = j
   ·subst hkj; rw [hgj]; exact ⟨h2, h3⟩
   ·exact ih.2.1 k (by omega)
  ·rw [ih.2.2.1 k (by omega)]
   unfold putR
   rw [if_neg (by omega)]
  ·rw [List.range'_succ, List.flatMap_cons, hgj, List.append_assoc, ← ih.2.2.2]
   exact h4
theorem evRF_inv {ents : Int} {nk : Nat} {next t an : Int} {l l1 : List Int} {f : Bool} {e : Ev} (hb : ∀ c ∈ l, 0 ≤ c ∧ c < 256) (h : evRF ents nk next t an l f = (e, l1, false)) : f = false ∧ l = numB (e.time - t) ++ (numB e.number ++ (numB e.kind ++ (numB e.entity ++ l1))) ∧ t ≤ e.time ∧ e.time ≤ 1000000000000 ∧ lessF (e.time - t) an ≤ e.number ∧ e.number ≤ next - 1 ∧ (0 ≤ e.kind ∧ e.kind ≤ nk - 1) ∧ (0 ≤ e.entity ∧ e.entity ≤ ents - 1) := by
 unfold evRF at h
 simp only at h
 generalize ea : readF 0 (1000000000000 - t) l f = a at h
 obtain ⟨v1, m1, f1⟩ := a
 simp only at h
 generalize eb : readF (lessF v1 an) (next - 1) m1 f1 = b at h
 obtain ⟨v2, m2, f2⟩ := b
 simp only at h
 generalize ec : readF 0 (nk - 1) m2 f2 = c at h
 obtain ⟨v3, m3, f3⟩ := c
 simp only at h
 generalize ed : readF 0 (ents - 1) m3 f3 = d at h
 obtain ⟨v4, m4, f4⟩ := d
 simp only [Prod.mk.injEq] at h
 obtain ⟨rfl, rfl, rfl⟩ := h
 have hb1 : ∀ c ∈ m1, 0 ≤ c ∧ c < 256 := by have := readF_bytes (low := 0) (high := 1000000000000 - t) (f := f) hb; rw [ea] at this; exact this
 have hb2 : ∀ c ∈ m2, 0 ≤ c ∧ c < 256 := by have := readF_bytes (low := lessF v1 an) (high := next - 1) (f := f1) hb1; rw [eb] at this; exact this
 have hb3 : ∀ c ∈ m3, 0 ≤ c ∧ c < 256 := by have := readF_bytes (low := 0) (high := nk - 1) (f := f2) hb2; rw [ec] at this; exact this
 obtain ⟨q1, q2, q3, _, q4⟩ := readF_inv hb3 ed
 rw [q1] at ec
 obtain ⟨r1, r2, r3, _, r4⟩ := readF_inv hb2 ec
 rw [r1] at eb
 obtain ⟨s1, s2, s3, _, s4⟩ := readF_inv hb1 eb
 rw [s1] at ea
 obtain ⟨u1, u2, u3, _, u4⟩ := readF_inv hb ea
 simp only
 rw [show t + v1 - t = v1 by omega]
 exact ⟨u1, by rw [← q4, ← r4, ← s4]; exact u4, by omega, by omega, s2, s3, ⟨r2, r3⟩, ⟨q2, q3⟩⟩
theorem queRF_inv (ents : Int) (nk : Nat) (next clock : Int) : ∀ (n : Nat) (t an : Int) (q q' : List Ev) (l l1 : List Int) (f : Bool), (∀ c ∈ l, 0 ≤ c ∧ c < 256) → queRF ents nk next n t an q l f = (true, q', l1, false) → Sorted q → Distinct q → clock ≤ t → (∀ e ∈ q, e.time < t ∨ (e.time = t ∧ e.number ≤ an)) → (∀ e ∈ q, clock ≤ e.time ∧ e.time ≤ 1000000000000 ∧ 1 ≤ e.number ∧ e.number < next ∧ 0 ≤ e.kind ∧ e.kind < nk ∧ 0 ≤ e.entity ∧ e.entity < ents) → 0 ≤ an →
  f = false ∧ Sorted q' ∧ Distinct q' ∧ (∀ e ∈ q', clock ≤ e.time ∧ e.time ≤ 1000000000000 ∧ 1 ≤ e.number ∧ e.number < next ∧ 0 ≤ e.kind ∧ e.kind < nk ∧ 0 ≤ e.entity ∧ e.entity < ents) ∧ ∃ qs, q' = q ++ qs ∧ qs.length = n ∧ l = evB t qs ++ l1
 | 0, t, an, q, q', l, l1, f, hb, h, hs, hd, hc, hle, hev, ha => by
  simp only [queRF, Prod.mk.injEq, true_and] at h
  obtain ⟨rfl, rfl, rfl⟩ := h
  exact ⟨rfl, hs, hd, hev, [], by simp, rfl, by simp [evB]⟩
 | n + 1, t, an, q, q', l, l1, f, hb, h, hs, hd, hc, hle, hev, ha => by
  rw [queRF] at h
  generalize e0 : evRF ents nk next t an l f = r at h
  obtain ⟨e, l2, f2⟩ := r
  simp only at h
  cases hh : hasF e.number q with
  | true => rw [hh] at h; simp at h
  | false =>
   rw [hh, if_neg (by simp)] at h
   have hf2 : f2 = false := by
    cases f2 with
    | false => rfl
    | true =>
     have := queRF_flt ents nk next n e.time e.number (insF e q) l2
     rw [h] at this
     cases this
   subst hf2
   obtain ⟨i1, i2, i3, i4, i5, i6, i7, i8⟩ := evRF_inv hb e0
   have hnd := hasF_false hh
   have hn1 : 1 ≤ e.number := by unfold lessF at i5; split at i5 <;> omega
   have hahead : ∀ x ∈ q, aheadF x e = true := by
    intro x hx
    simp only [aheadF, Bool.or_eq_true, decide_eq_true_eq, Bool.and_eq_true]
    rcases hle x hx with hc' | ⟨hc', hc2⟩
    ·left; omega
    ·by_cases het : e.time = t
     ·right
      have : lessF (e.time - t) an = an + 1 := by rw [lessF, if_pos (by omega)]
      omega
     ·left; omega
   have hins := insF_last q e hahead
   rw [hins] at h
   have ih := queRF_inv ents nk next clock n e.time e.number (q ++ [e]) q' l2 l1 false (suffix_bytes (a := numB (e.time - t) ++ (numB e.number ++ (numB e.kind ++ numB e.entity))) hb (by rw [i2]; simp)) h
    (List.pairwise_append.2 ⟨hs, by simp, fun x hx y hy => by simp at hy; subst hy; exact hahead x hx⟩) (List.pairwise_append.2 ⟨hd, by simp, fun x hx y hy => by simp at hy; subst hy; exact hnd x hx⟩) (by omega)
    (fun x hx => by
     rcases List.mem_append.1 hx with hx | hx
     ·have := hahead x hx
      simp only [aheadF, Bool.or_eq_true, decide_eq_true_eq, Bool.and_eq_true] at this
      omega
     ·simp at hx; subst hx; right; omega)
    (fun x hx => by
     rcases List.mem_append.1 hx with hx | hx
     ·exact hev x hx
     ·simp at hx; subst hx
      exact ⟨by omega, by omega, by omega, by omega, by omega, by omega, by omega, by omega⟩) (by omega)
   obtain ⟨_, j1, j2, j3, qs, j4, j5, j6⟩ := ih
   refine ⟨i1, j1, j2, j3, e :: qs, by rw [j4]; simp, by simp [j5], ?_⟩
   rw [i2, j6]
   simp [evB]
theorem kerRF_inv (E : Nat) (ks : List (List Ins)) (draws : List Int) (l : List Int) (hb : ∀ c ∈ l, 0 ≤ c ∧ c < 256) (h : kerOk E ks.length draws.length l = true) : Fit (E : Int) ks draws (kerRF E ks.length draws.length l).2.1 ∧ RegZ (E : Int) (kerRF E ks.length draws.length l).2.1 ∧ l = bodyF (E : Int) ks.length (kerRF E ks.length draws.length l).2.1 := by
 unfold kerOk at h
 simp only [Bool.and_eq_true, Bool.not_eq_true', List.isEmpty_iff] at h
 obtain ⟨h1, h2, h3⟩ := h
 unfold kerRF at h1 h2 h3 ⊢
 simp only at h1 h2 h3 ⊢
 generalize e1 : readF (E : Int) (E : Int) l false = a1 at h1 h2 h3 ⊢
 obtain ⟨v1, l1, f1⟩ := a1
 simp only at h1 h2 h3 ⊢
 generalize e2 : readF (ks.length : Int) (ks.length : Int) l1 f1 = a2 at h1 h2 h3 ⊢
 obtain ⟨v2, l2, f2⟩ := a2
 simp only at h1 h2 h3 ⊢
 generalize e3 : readF 0 1000000000000 l2 f2 = a3 at h1 h2 h3 ⊢
 obtain ⟨v3, l3, f3⟩ := a3
 simp only at h1 h2 h3 ⊢
 generalize e4 : readF 1 1000000000 l3 f3 = a4 at h1 h2 h3 ⊢
 obtain ⟨v4, l4, f4⟩ := a4
 simp only at h1 h2 h3 ⊢
 generalize e5 : readF 0 (draws.length : Int) l4 f4 = a5 at h1 h2 h3 ⊢
 obtain ⟨v5, l5, f5⟩ := a5
 simp only at h1 h2 h3 ⊢
 generalize e6 : regRF (E * 4) ks0.regs 0 l5 f5 = a6 at h1 h2 h3 ⊢
 obtain ⟨g, l6, f6⟩ := a6
 simp only at h1 h2 h3 ⊢
 generalize e7 : queueRF (E : Int) ks.length v4 v3 [] l6 f6 = a7 at h1 h2 h3 ⊢
 obtain ⟨y, q, l7, f7⟩ := a7
 simp only at h1 h2 h3 ⊢
 subst h1 h2 h3
 unfold queueRF at e7
 generalize e8 : readF 0 16 l6 f6 = a8 at e7
 obtain ⟨n, l8, f8⟩ := a8
 simp only at e7
 have B1 : ∀ c ∈ l1, 0 ≤ c ∧ c < 256 := by have := readF_bytes (low := (E : Int)) (high := (E : Int)) (f := false) hb; rw [e1] at this; exact this
 have B2 : ∀ c ∈ l2, 0 ≤ c ∧ c < 256 := by have := readF_bytes (low := (ks.length : Int)) (high := (ks.length : Int)) (f := f1) B1; rw [e2] at this; exact this
 have B3 : ∀ c ∈ l3, 0 ≤ c ∧ c < 256 := by have := readF_bytes (low := 0) (high := 1000000000000) (f := f2) B2; rw [e3] at this; exact this
 have B4 : ∀ c ∈ l4, 0 ≤ c ∧ c < 256 := by have := readF_bytes (low := 1) (high := 1000000000) (f := f3) B3; rw [e4] at this; exact this
 have B5 : ∀ c ∈ l5, 0 ≤ c ∧ c < 256 := by have := readF_bytes (low := 0) (high := (draws.length : Int)) (f := f4) B4; rw [e5] at this; exact this
 have f8z : f8 = false := by
  cases f8 with
  | false => rfl
  | true =>
   have := queRF_flt (E : Int) ks.length v4 n.toNat v3 0 [] l8
   rw [e7] at this
   cases this
 subst f8z
 have f6z : f6 = false := by
  cases f6 with
  | false => rfl
  | true => have := readF_flt 0 16 l6; rw [e8] at this; cases this
 subst f6z
 obtain ⟨f5z, hg1, hg2, hl5⟩ := regRF_inv _ _ _ _ _ _ _ B5 e6
 subst f5z
 have B6 : ∀ c ∈ l6, 0 ≤ c ∧ c < 256 := suffix_bytes B5 hl5
 obtain ⟨_, n1, n2, n3, hl6⟩ := readF_inv B6 e8
 have B8 : ∀ c ∈ l8, 0 ≤ c ∧ c < 256 := suffix_bytes B6 hl6
 obtain ⟨f4z, c1, c2, c3, hl4⟩ := readF_inv B4 e5
 subst f4z
 obtain ⟨f3z, x1, x2, x3, hl3⟩ := readF_inv B3 e4
 subst f3z
 obtain ⟨f2z, y1, y2, y3, hl2⟩ := readF_inv B2 e3
 subst f2z
 obtain ⟨f1z, z1, z2, z3, hl1⟩ := readF_inv B1 e2
 subst f1z
 obtain ⟨_, t1, t2, t3, hl0⟩ := readF_inv hb e1
 obtain ⟨_, qs1, qs2, qs3, qs, hqs, hql, hl8⟩ := queRF_inv (E : Int) ks.length v4 v3 _ v3 0 [] q l8 [] false B8 e7 (by simp [Sorted]) (by simp [Distinct]) (Int.le_refl _) (by simp) (by simp) (by omega)
 have hqe : q = qs := by rw [hqs]; simp
 have hregs : ∀ j, -1000000000 ≤ g j ∧ g j ≤ 1000000000 := by
  intro j
  by_cases hj : 0 ≤ j ∧ j < 0 + E * 4
  ·exact hg1 j hj
  ·rw [hg2 j hj]; simp [ks0]
 refine ⟨⟨⟨?_, ⟨y1, y2⟩, ⟨x1, x2⟩, hregs, qs3, ?_⟩, ⟨qs1, qs2⟩⟩, ?_, ?_⟩
 ·show v5.toNat ≤ draws.length; omega
 ·show q.length ≤ 16; rw [hqe, hql]; omega
 ·intro j hj
  show g j = 0
  rw [hg2 j (by simp at hj; omega)]
  rfl
 ·have hv1 : v1 = (E : Int) := by omega
  have hv2 : v2 = (ks.length : Int) := by omega
  have hv5 : ((v5.toNat : Nat) : Int) = v5 := by omega
  have hn : ((q.length : Nat) : Int) = n := by rw [hqe, hql]; omega
  unfold bodyF
  simp only [Int.toNat_natCast]
  have hrb : regB ⟨v5.toNat, v3, v4, g, q⟩ (E * 4) = (List.range' 0 (E * 4)).flatMap (fun k => sgnB (g k)) := by
   unfold regB
   rw [List.range_eq_range']
  rw [hrb, hv5, hn, ← hv1, ← hv2, hl0, hl1, hl2, hl3, hl4, hl5, hl6, hl8, hqe]
  simp
def loadL (E nk dl : Nat) (l : List Int) : Int := if openE [84, 77, 80, 1] l ≠ 0 then openE [84, 77, 80, 1] l else if (kerL E nk dl (openL l)).2.2 then 4 else if saveF (E : Int) nk (kerL E nk dl (openL l)).1 = l then 0 else 4
theorem openL_bytes {l : List Int} (hb : ∀ c ∈ l, 0 ≤ c ∧ c < 256) : ∀ c ∈ openL l, 0 ≤ c ∧ c < 256 := fun c hc => hb c (List.mem_of_mem_take (List.mem_of_mem_drop hc))
theorem openE_save {l : List Int} (h : openE [84, 77, 80, 1] l = 0) : l = ([84, 77, 80, 1] ++ openL l) ++ sumB ([84, 77, 80, 1] ++ openL l) := by
 obtain ⟨h8, h4, hs⟩ := openE_zero h
 have e1 : l.take (l.length - 4) = [84, 77, 80, 1] ++ openL l := by
  unfold openL
  have h5 : (l.take (l.length - 4)).take 4 = [84, 77, 80, 1] := by
   rw [List.take_take, Nat.min_eq_left (by omega)]; exact h4
  rw [← h5]
  exact (List.take_append_drop 4 _).symm
 rw [← e1, ← hs]
 exact (List.take_append_drop _ _).symm
theorem loadL_eq (E : Nat) (ks : List (List Ins)) (draws : List Int) (l : List Int) (hl : ks.length ≤ 8) (he : 1 ≤ E ∧ E ≤ 8) (hdl : draws.length ≤ 1000) (hb : ∀ c ∈ l, 0 ≤ c ∧ c < 256) :
  loadL E ks.length draws.length l = loadE E ks.length draws.length l ∧ (loadE E ks.length draws.length l = 0 → (kerL E ks.length draws.length (openL l)).1 = (kerRF E ks.length draws.length (openL l)).2.1 ∧ Fit (E : Int) ks draws (kerL E ks.length draws.length (openL l)).1 ∧ RegZ (E : Int) (kerL E ks.length draws.length (openL l)).1) := by
 unfold loadL loadE
 by_cases h0 : openE [84, 77, 80, 1] l = 0
 ·simp only [ne_eq, h0, not_true_eq_false, if_false]
  have hbo := openL_bytes hb
  cases hk : kerOk E ks.length draws.length (openL l) with
  | true =>
   obtain ⟨hf, hz, hbd⟩ := kerRF_inv E ks draws (openL l) hbo hk
   have hK := kerL_body E ks draws _ hl hf hz he hdl
   rw [← hbd] at hK
   rw [hK]
   have hsv : saveF (E : Int) ks.length (kerRF E ks.length draws.length (openL l)).2.1 = l := by
    unfold saveF headF
    rw [← hbd]
    exact (openE_save h0).symm
   simp only [Bool.false_eq_true, if_false, if_true]
   rw [if_pos hsv]
   exact ⟨by trivial, fun _ => ⟨by trivial, hf, hz⟩⟩
  | false =>
   simp only [Bool.false_eq_true, if_false]
   cases hkl : (kerL E ks.length draws.length (openL l)).2.2 with
   | true => simp
   | false =>
    simp only [Bool.false_eq_true, if_false]
    obtain ⟨hf, hz⟩ := kerL_good E ks draws (openL l) hbo hkl
    have hne : ¬ saveF (E : Int) ks.length (kerL E ks.length draws.length (openL l)).1 = l := by
     intro hc
     have hbd : openL l = bodyF (E : Int) ks.length (kerL E ks.length draws.length (openL l)).1 := by
      have h1 : openL (saveF (E : Int) ks.length (kerL E ks.length draws.length (openL l)).1) = bodyF (E : Int) ks.length (kerL E ks.length draws.length (openL l)).1 := by
       unfold saveF headF
       exact openL_ok _ _ rfl
      rw [← h1, hc]
     have hkb := kerRF_body E ks draws _ hl hf hz he hdl
     rw [← hbd] at hkb
     unfold kerOk at hk
     rw [hkb] at hk
     simp at hk
    rw [if_neg hne]
    simp
 ·simp only [ne_eq, h0, not_false_eq_true, if_true]
  exact ⟨trivial, fun h => False.elim h⟩
end Go.Proofs.YtndlmgocldckfaaGreat
