import Derived.Test.YtndlmgocldckfaaRcZ
import Derived.Test.YtndlmgocldckfaaRunF
import Derived.Test.YtndlmgocldckfaaRdZ
import Derived.Test.YtndlmgocldckfaaRsZ
import Derived.Deep.DeepCutAuto
import Derived.Deep.CutRange
namespace Go.Proofs.Ytndlmgocldckfaa
open Go.RowKit
set_option linter.unusedVariables false
set_option linter.unusedSimpArgs false

/-! The records of a run may be written. -/

theorem doI_told (draws : List Int) (E : Nat) (x : Ins) (s : KS) : ∀ t ∈ (doI draws E x s).2.1, t = s.regs (E * 4 + x.a.toNat) := by
  unfold doI
  simp only
  split
  · simp
  split
  · simp
  split
  · simp
  split
  · split <;> simp
  split
  · split
    · simp
    · split <;> simp
  split
  · simp
  · simp

theorem execF_toldN {ents : Int} {nk : Nat} {draws : List Int} {E : Nat} (hd : ∀ d ∈ draws, 0 ≤ d ∧ d ≤ 1000000000) : ∀ (n : Nat) (l : List Ins) (s : KS) (told : List Int), l.length ≤ n → (∀ x ∈ l, mayF ents nk x.op x.a x.b x.c = true) → KOk ents nk draws s → (∀ t ∈ told, -1000000000 ≤ t ∧ t ≤ 1000000000) → ∀ t ∈ (execF draws E l s told).2.1, -1000000000 ≤ t ∧ t ≤ 1000000000
  | _, [], s, told, hn, hm, h, ht => by rw [execF_nil]; exact ht
  | 0, x :: l, s, told, hn, hm, h, ht => by simp at hn
  | n + 1, x :: l, s, told, hn, hm, h, ht => by
    simp only [List.length_cons] at hn
    rw [execF_cons]
    by_cases h5 : x.op = 5
    · rw [if_pos h5]
      split
      · exact execF_toldN hd n (l.drop x.b.toNat) s told (by simp; omega) (fun y hy => hm y (List.mem_cons_of_mem _ (List.mem_of_mem_drop hy))) h ht
      · exact execF_toldN hd n l s told (by omega) (fun y hy => hm y (List.mem_cons_of_mem _ hy)) h ht
    · rw [if_neg h5]
      have h' := doI_ok (E := E) h (hm x (List.mem_cons_self ..)) h5 hd
      have h2 := doI_told draws E x s
      rcases hdo : doI draws E x s with ⟨s', t, why⟩
      rw [hdo] at h' h2
      simp only at h' h2 ⊢
      split
      · refine execF_toldN hd n l s' _ (by omega) (fun y hy => hm y (List.mem_cons_of_mem _ hy)) h' ?_
        intro y hy
        rcases List.mem_append.1 hy with hy | hy
        · exact ht y hy
        · rw [h2 y hy]; exact h.regs _
      · simp

theorem runF_recOk {ents : Int} {ks : List (List Ins)} {draws : List Int} (hc : CodesOk ents ks) (hd : DrawsOk draws) (he : ents ≤ 8) (hk : ks.length ≤ 8) (horizon : Int) : ∀ (n : Nat) (s : KS), Fit ents ks draws s → recsOkF s.clock (runF ks draws horizon n s).2.1 = true
  | 0, s, h => by simp [runF, recsOkF]
  | n + 1, s, h => by
    rcases hs : stepF ks draws horizon s with ⟨s1, _ | r, why⟩
    · simp only [runF, hs, recsOkF]
    · obtain ⟨q, hq, hz, rfl, hh⟩ := stepF_some hs
      obtain ⟨f1, f2, f3, f4, f5, f6, f7⟩ := happenF_fit hc hd h hq
      have htold : ∀ t ∈ (happenF ks draws r.e s).2.1, -1000000000 ≤ t ∧ t ≤ 1000000000 := by
        obtain ⟨hl, hm⟩ := code_of hc r.e.kind.toNat
        unfold happenF
        refine execF_toldN (ents := ents) (nk := ks.length) hd _ _ _ _ (Nat.le_refl _) hm ?_ (by simp)
        obtain ⟨k1, k2, k3, k4, k5, k6⟩ := h.ok
        have hev := k5 r.e (by rw [hq]; exact List.mem_cons_self ..)
        have hD : Distinct (r.e :: q) := hq ▸ h.q.dist
        have hS : Sorted (r.e :: q) := hq ▸ h.q.sorted
        have hout : outF r.e.number s.q = q := by rw [hq]; exact outF_head hD
        have hbef := sorted_head hS hD
        rw [hout]
        refine ⟨k1, ⟨by simp; omega, hev.2.1⟩, k3, k4, ?_, ?_⟩
        · intro x hx
          have h1 := k5 x (by rw [hq]; exact List.mem_cons_of_mem _ hx)
          have h2 := (List.pairwise_cons.1 hS).1 x hx
          simp only [aheadF, Bool.or_eq_true, decide_eq_true_eq, Bool.and_eq_true] at h2
          exact ⟨by simp only; omega, h1.2⟩
        · rw [hq] at k6; simp at k6 ⊢; omega
      rw [hh] at f1 f2 f5 htold
      simp only at f1 f2 f5 htold
      rcases hr : runF ks draws horizon n s1 with ⟨s2, rs, y⟩
      have ih := runF_recOk hc hd he hk horizon n s1 f1
      rw [hr] at ih
      simp only at ih
      have hev := h.ok.evs r.e (by rw [hq]; exact List.mem_cons_self ..)
      have hnx := h.ok.next
      simp only [runF, hs, hr, recsOkF, Bool.and_eq_true]
      refine ⟨?_, by rw [← f2]; exact ih⟩
      simp only [recOkF, inB, valsF, Bool.and_eq_true, decide_eq_true_eq, List.all_eq_true]
      exact ⟨by omega, by omega, by omega, by omega, by omega, htold⟩

theorem recsOkF_mono {rs : List Rec} {t t' : Int} (h : recsOkF t rs = true) (ht : t' ≤ t) : recsOkF t' rs = true := by
  cases rs with
  | nil => rfl
  | cons r rs =>
    simp only [recsOkF, Bool.and_eq_true] at h ⊢
    refine ⟨?_, h.2⟩
    have := h.1
    simp only [recOkF, inB, Bool.and_eq_true, decide_eq_true_eq] at this ⊢
    obtain ⟨h1, h2, h3, h4, h5, h6⟩ := this
    exact ⟨h1, by omega, h3, h4, h5, h6⟩
end Go.Proofs.Ytndlmgocldckfaa

namespace Go.Proofs.Ytndlmgocldckfaa
open Go.RowKit
set_option linter.unusedVariables false
set_option linter.unusedSimpArgs false

/-! Bytes of which one was changed; bytes that are cut. -/

theorem mod_inv (d k : Int) (h : 33 * d = 4294967296 * k) : d = 4294967296 * (1041204193 * k - 8 * d) := by omega
theorem mod_small (d j : Int) (h : -4294967296 < d ∧ d < 4294967296) (hj : d = 4294967296 * j) : d = 0 := by omega
theorem sumS_inj {s s' c : Int} (h0 : 0 ≤ s ∧ s < 4294967296) (h1 : 0 ≤ s' ∧ s' < 4294967296) (h : sumS s c = sumS s' c) : s = s' := by
  unfold sumS at h
  have h1 : (33 * s + c) % 4294967296 = (33 * s' + c) % 4294967296 := by
    rw [← Int.emod_add_emod, h, Int.emod_add_emod]
  clear h
  obtain ⟨k, hk'⟩ := Int.dvd_of_emod_eq_zero (Int.emod_eq_emod_iff_emod_sub_eq_zero.1 h1)
  clear h1
  have hk : 33 * (s - s') = 4294967296 * k := by rw [← hk']; omega
  clear hk'
  have hd : -4294967296 < s - s' ∧ s - s' < 4294967296 := by omega
  have h0 : s - s' = 0 := mod_small _ _ hd (mod_inv _ _ hk)
  clear hk hd h1
  omega
theorem sumS_inj2 {s c c' : Int} (h0 : 0 ≤ c ∧ c < 256) (h1 : 0 ≤ c' ∧ c' < 256) (h : sumS s c = sumS s c') : c = c' := by
  unfold sumS at h; omega
theorem sumG_inj : ∀ (l : List Int) (s s' : Int), (0 ≤ s ∧ s < 4294967296) → (0 ≤ s' ∧ s' < 4294967296) → l.foldl sumS s = l.foldl sumS s' → s = s'
  | [], s, s', _, _, h => h
  | c :: l, s, s', h0, h1, h => sumS_inj h0 h1 (sumG_inj l (sumS s c) (sumS s' c) (sumS_lt _ _) (sumS_lt _ _) h)
theorem sumF_set {l : List Int} {i : Nat} {x : Int} (hi : i < l.length) (hb : 0 ≤ l[i] ∧ l[i] < 256) (hx : 0 ≤ x ∧ x < 256) (hne : x ≠ l[i]) : sumF (l.set i x) ≠ sumF l := by
  intro h
  have e1 : l = l.take i ++ l[i] :: l.drop (i + 1) := by rw [List.getElem_cons_drop, List.take_append_drop]
  have e2 : l.set i x = l.take i ++ x :: l.drop (i + 1) := by rw [List.set_eq_take_append_cons_drop, if_pos hi]
  unfold sumF at h
  rw [e2] at h
  have h' : (l.take i ++ x :: l.drop (i + 1)).foldl sumS 5381 = (l.take i ++ l[i] :: l.drop (i + 1)).foldl sumS 5381 := by rw [h, ← e1]
  simp only [List.foldl_append, List.foldl_cons] at h'
  have := sumG_inj _ _ _ (sumS_lt _ _) (sumS_lt _ _) h'
  exact hne (sumS_inj2 hx hb this)
theorem sumB_inj {a b : List Int} (h : sumB a = sumB b) : sumF a = sumF b := by
  have h1 := sumF_lt a
  have h2 := sumF_lt b
  simp only [sumB, List.cons.injEq, and_true] at h
  omega

theorem openE_zero {hd l : List Int} (h : openE hd l = 0) : 8 ≤ l.length ∧ l.take 4 = hd ∧ l.drop (l.length - 4) = sumB (l.take (l.length - 4)) := by
  unfold openE at h
  by_cases a1 : l.length < 8 ∨ l.take 4 ≠ hd
  · rw [if_pos a1] at h; simp at h
  rw [if_neg a1] at h
  by_cases a2 : l.drop (l.length - 4) ≠ sumB (l.take (l.length - 4))
  · rw [if_pos a2] at h; simp at h
  simp only [not_or, Nat.not_lt, ne_eq, Decidable.not_not] at a1 a2
  exact ⟨a1.1, a1.2, a2⟩

/-- One byte is another one: Open refuses. -/
theorem openE_set {hd l : List Int} {i : Nat} {x : Int} (h : openE hd l = 0) (hb : ∀ c ∈ l, 0 ≤ c ∧ c < 256) (hi : i < l.length) (hx : 0 ≤ x ∧ x < 256) (hne : x ≠ l[i]) : openE hd (l.set i x) ≠ 0 := by
  intro h'
  obtain ⟨a1, a2, a3⟩ := openE_zero h
  obtain ⟨b1, b2, b3⟩ := openE_zero h'
  rw [List.length_set] at b3
  by_cases hc : i < l.length - 4
  · rw [List.drop_set_of_lt (by omega), a3, List.take_set] at b3
    have hl : i < (l.take (l.length - 4)).length := by simp; omega
    refine sumF_set hl ?_ hx ?_ (sumB_inj b3).symm
    · simp only [List.getElem_take]; exact hb _ (List.getElem_mem hi)
    · simp only [List.getElem_take]; exact hne
  · have e1 : (l.set i x).take (l.length - 4) = l.take (l.length - 4) := by
      rw [List.take_set, List.set_eq_of_length_le (by simp; omega)]
    rw [e1, ← a3] at b3
    have := congrArg (fun z => z[i - (l.length - 4)]?) b3
    simp only [List.getElem?_drop] at this
    rw [show l.length - 4 + (i - (l.length - 4)) = i by omega, List.getElem?_set_self hi, List.getElem?_eq_getElem hi] at this
    simp at this
    exact hne this

theorem readF_fl (low high : Int) (l : List Int) : (readF low high l true).2.2 = true := by simp [readF]

/-- p is the beginning of l, and not all of it. -/
def Strict (p l : List Int) : Prop := ∃ t, t ≠ [] ∧ l = p ++ t

theorem numRF_pre : ∀ (p t : List Int) (f i : Nat) (acc : Int), (numRF f i acc (p ++ t)).2 ≠ 0 → ((numRF f i acc (p ++ t)).2 ≤ i + p.length → numRF f i acc p = numRF f i acc (p ++ t)) ∧ (i + p.length < (numRF f i acc (p ++ t)).2 → numRF f i acc p = (0, 0))
  | [], t, f, i, acc, h => by
    refine ⟨fun hle => ?_, fun _ => by cases f <;> rfl⟩
    rcases numRF_size f i acc ([] ++ t) with h0 | h0
    · exact absurd h0 h
    · simp only [List.nil_append, List.length_nil, Nat.add_zero] at hle h0; omega
  | c :: p, t, 0, i, acc, h => by simp [numRF] at h
  | c :: p, t, f + 1, i, acc, h => by
    rw [List.cons_append] at h ⊢
    rw [numRF] at h ⊢
    rw [numRF]
    by_cases h1 : c = 0 ∧ 0 < i
    · rw [if_pos h1] at h; simp at h
    rw [if_neg h1] at h ⊢
    rw [if_neg h1]
    by_cases h2 : c < 128
    · rw [if_pos h2] at h ⊢
      rw [if_pos h2]
      refine ⟨fun _ => rfl, fun hlt => ?_⟩
      simp at hlt
    · rw [if_neg h2] at h ⊢
      rw [if_neg h2]
      have ih := numRF_pre p t f (i + 1) (acc + c % 128 * 128 ^ i) h
      simp only [List.length_cons]
      exact ⟨fun hle => ih.1 (by omega), fun hlt => ih.2 (by omega)⟩

theorem readF_pre {low high v : Int} {l l1 p : List Int} (h : readF low high l false = (v, l1, false)) (hp : Strict p l) : (readF low high p false).2.2 = true ∨ ∃ p1, readF low high p false = (v, p1, false) ∧ Strict p1 l1 := by
  obtain ⟨t, ht, rfl⟩ := hp
  unfold readF at h
  split at h
  · simp at h
  · rename_i hn
    simp only [not_or] at hn
    simp only [Prod.mk.injEq, and_true] at h
    obtain ⟨rfl, rfl⟩ := h
    obtain ⟨k1, k2⟩ := numRF_pre p t 9 0 0 hn.2.1
    have hnr : numR (p ++ t) = numRF 9 0 0 (p ++ t) := rfl
    by_cases hc : (numR (p ++ t)).2 ≤ p.length
    · right
      have e := k1 (by rw [Nat.zero_add]; exact hc)
      have e' : numR p = numR (p ++ t) := e
      refine ⟨p.drop (numR (p ++ t)).2, ?_, t, ht, ?_⟩
      · unfold readF
        rw [e', if_neg (by simp only [not_or]; exact hn)]
      · rw [List.drop_append_of_le_length hc]
    · left
      have e := k2 (by rw [Nat.zero_add]; exact Nat.lt_of_not_le hc)
      have e' : numR p = (0, 0) := e
      unfold readF
      rw [e', if_pos (.inr (.inl rfl))]
theorem readS_flt (l : List Int) : (readS 1000000000 l true).2.2 = true := by simp [readS, readF]
theorem readS_pre {v : Int} {l l1 p : List Int} (h : readS 1000000000 l false = (v, l1, false)) (hp : Strict p l) : (readS 1000000000 p false).2.2 = true ∨ ∃ p1, readS 1000000000 p false = (v, p1, false) ∧ Strict p1 l1 := by
  unfold readS at *
  rcases hr : readF 0 (2 * 1000000000) l false with ⟨u, l', f'⟩
  rw [hr] at h
  simp only [Prod.mk.injEq] at h
  obtain ⟨rfl, rfl, rfl⟩ := h
  rcases readF_pre hr hp with h1 | ⟨p1, h1, h2⟩
  · exact .inl h1
  · right
    rw [h1]
    exact ⟨p1, rfl, h2⟩

theorem readF_noflt {low high : Int} {l : List Int} {f : Bool} (h : (readF low high l f).2.2 = false) : f = false := by
  cases f
  · rfl
  · rw [show (readF low high l true).2.2 = true by simp [readF]] at h; cases h

theorem regRF_flt : ∀ (n : Nat) (g : Nat → Int) (j : Nat) (l : List Int), (regRF n g j l true).2.2 = true
  | 0, g, j, l => rfl
  | n + 1, g, j, l => by
    rw [regRF]
    rw [readS_flt]
    exact regRF_flt n _ _ _
theorem regRF_pre : ∀ (n : Nat) (g g1 : Nat → Int) (j : Nat) (l l1 p : List Int), regRF n g j l false = (g1, l1, false) → Strict p l → (regRF n g j p false).2.2 = true ∨ ∃ p1, regRF n g j p false = (g1, p1, false) ∧ Strict p1 l1
  | 0, g, g1, j, l, l1, p, h, hp => by
    simp only [regRF, Prod.mk.injEq, and_true] at h ⊢
    obtain ⟨rfl, rfl⟩ := h
    exact .inr ⟨p, ⟨rfl, rfl⟩, hp⟩
  | n + 1, g, g1, j, l, l1, p, h, hp => by
    rw [regRF] at h ⊢
    rcases hr : readS 1000000000 l false with ⟨v, l', f'⟩
    rw [hr] at h
    simp only at h
    cases f'
    · rcases readS_pre hr hp with h1 | ⟨p1, h1, h2⟩
      · left
        rw [h1]
        exact regRF_flt n _ _ _
      · rw [h1]
        exact regRF_pre n _ g1 (j + 1) l' l1 p1 h h2
    · have := regRF_flt n (putR g j v) (j + 1) l'
      rw [h] at this
      cases this

theorem evRF_flt (ents : Int) (nk : Nat) (next t an : Int) (l : List Int) : (evRF ents nk next t an l true).2.2 = true := by
  simp only [evRF, readF_fl]
theorem evRF_pre {ents : Int} {nk : Nat} {next t an : Int} {l l1 p : List Int} {e : Ev} (h : evRF ents nk next t an l false = (e, l1, false)) (hp : Strict p l) : (evRF ents nk next t an p false).2.2 = true ∨ ∃ p1, evRF ents nk next t an p false = (e, p1, false) ∧ Strict p1 l1 := by
  unfold evRF at h
  rcases e1 : readF 0 (1000000000000 - t) l false with ⟨v1, m1, f1⟩
  rw [e1] at h
  simp only at h
  rcases e2 : readF (lessF v1 an) (next - 1) m1 f1 with ⟨v2, m2, f2⟩
  rw [e2] at h
  simp only at h
  rcases e3 : readF 0 (nk - 1) m2 f2 with ⟨v3, m3, f3⟩
  rw [e3] at h
  simp only at h
  rcases e4 : readF 0 (ents - 1) m3 f3 with ⟨v4, m4, f4⟩
  rw [e4] at h
  simp only [Prod.mk.injEq] at h
  obtain ⟨rfl, rfl, rfl⟩ := h
  obtain rfl : f3 = false := readF_noflt (by rw [e4])
  obtain rfl : f2 = false := readF_noflt (by rw [e3])
  obtain rfl : f1 = false := readF_noflt (by rw [e2])
  rcases readF_pre e1 hp with q | ⟨p1, q1, s1⟩
  · left
    simp only [evRF, q, readF_fl]
  rcases readF_pre e2 s1 with q | ⟨p2, q2, s2⟩
  · left
    simp only [evRF, q1, q, readF_fl]
  rcases readF_pre e3 s2 with q | ⟨p3, q3, s3⟩
  · left
    simp only [evRF, q1, q2, q, readF_fl]
  rcases readF_pre e4 s3 with q | ⟨p4, q4, s4⟩
  · left
    simp only [evRF, q1, q2, q3, q]
  · right
    exact ⟨p4, by simp only [evRF, q1, q2, q3, q4], s4⟩

theorem queRF_flt (ents : Int) (nk : Nat) (next : Int) : ∀ (n : Nat) (t an : Int) (q : List Ev) (l : List Int), (queRF ents nk next n t an q l true).2.2.2 = true
  | 0, t, an, q, l => rfl
  | n + 1, t, an, q, l => by
    rw [queRF]
    split
    · exact evRF_flt ents nk next t an l
    · rw [evRF_flt]
      exact queRF_flt ents nk next n _ _ _ _
theorem queRF_pre (ents : Int) (nk : Nat) (next : Int) : ∀ (n : Nat) (t an : Int) (q q1 : List Ev) (l l1 p : List Int), queRF ents nk next n t an q l false = (true, q1, l1, false) → Strict p l → (queRF ents nk next n t an q p false).2.2.2 = true ∨ ∃ p1, queRF ents nk next n t an q p false = (true, q1, p1, false) ∧ Strict p1 l1
  | 0, t, an, q, q1, l, l1, p, h, hp => by
    simp only [queRF, Prod.mk.injEq, and_true, true_and] at h ⊢
    obtain ⟨rfl, rfl⟩ := h
    exact .inr ⟨p, ⟨rfl, rfl⟩, hp⟩
  | n + 1, t, an, q, q1, l, l1, p, h, hp => by
    rw [queRF] at h ⊢
    rcases hr : evRF ents nk next t an l false with ⟨e, l', f'⟩
    rw [hr] at h
    simp only at h
    cases f'
    · by_cases hh : hasF e.number q = true
      · rw [if_pos hh] at h; simp at h
      · rw [if_neg hh] at h
        rcases evRF_pre hr hp with h1 | ⟨p1, h1, h2⟩
        · left
          split
          · exact h1
          · rw [h1]
            exact queRF_flt ents nk next n _ _ _ _
        · rw [h1]
          simp only
          rw [if_neg hh]
          exact queRF_pre ents nk next n _ _ _ q1 l' l1 p1 h h2
    · exfalso
      split at h
      · simp at h
      · have := queRF_flt ents nk next n e.time e.number (insF e q) l'
        rw [h] at this
        cases this

/-- What Kernel.read reads. -/
def kerRF (E nk dl : Nat) (l : List Int) : Bool × KS × List Int × Bool :=
  let a1 := readF E E l false
  let a2 := readF nk nk a1.2.1 a1.2.2
  let a3 := readF 0 1000000000000 a2.2.1 a2.2.2
  let a4 := readF 1 1000000000 a3.2.1 a3.2.2
  let a5 := readF 0 dl a4.2.1 a4.2.2
  let r := regRF (E * 4) ks0.regs 0 a5.2.1 a5.2.2
  let q := queueRF E nk a4.1 a3.1 [] r.2.1 r.2.2
  (q.1, ⟨a5.1.toNat, a3.1, a4.1, r.1, q.2.1⟩, q.2.2.1, q.2.2.2)
def kerOk (E nk dl : Nat) (l : List Int) : Bool := (kerRF E nk dl l).1 && (!(kerRF E nk dl l).2.2.2 && (kerRF E nk dl l).2.2.1.isEmpty)

theorem kerOk_cut {E nk dl : Nat} {l p : List Int} (h : kerOk E nk dl l = true) (hp : Strict p l) : kerOk E nk dl p = false := by
  have noend : ∀ p1, ¬ Strict p1 [] := by
    rintro p1 ⟨t, ht, hc⟩
    have := List.append_eq_nil_iff.1 hc.symm
    exact ht this.2
  have bad : ∀ p, (kerRF E nk dl p).2.2.2 = true → kerOk E nk dl p = false := by
    intro p hf
    unfold kerOk
    rw [hf]
    simp
  unfold kerOk at h
  simp only [Bool.and_eq_true, Bool.not_eq_true', List.isEmpty_iff] at h
  obtain ⟨g1, g2, g3⟩ := h
  unfold kerRF at g1 g2 g3
  rcases e1 : readF E E l false with ⟨v1, m1, f1⟩
  rw [e1] at g1 g2 g3
  simp only at g1 g2 g3
  rcases e2 : readF nk nk m1 f1 with ⟨v2, m2, f2⟩
  rw [e2] at g1 g2 g3
  simp only at g1 g2 g3
  rcases e3 : readF 0 1000000000000 m2 f2 with ⟨v3, m3, f3⟩
  rw [e3] at g1 g2 g3
  simp only at g1 g2 g3
  rcases e4 : readF 1 1000000000 m3 f3 with ⟨v4, m4, f4⟩
  rw [e4] at g1 g2 g3
  simp only at g1 g2 g3
  rcases e5 : readF 0 dl m4 f4 with ⟨v5, m5, f5⟩
  rw [e5] at g1 g2 g3
  simp only at g1 g2 g3
  rcases e6 : regRF (E * 4) ks0.regs 0 m5 f5 with ⟨rg, m6, f6⟩
  rw [e6] at g1 g2 g3
  simp only at g1 g2 g3
  unfold queueRF at g1 g2 g3
  rcases e7 : readF 0 16 m6 f6 with ⟨v7, m7, f7⟩
  rw [e7] at g1 g2 g3
  simp only at g1 g2 g3
  rcases e8 : queRF E nk v4 v7.toNat v3 0 [] m7 f7 with ⟨ok, q, m8, f8⟩
  rw [e8] at g1 g2 g3
  simp only at g1 g2 g3
  subst g1 g2 g3
  obtain rfl : f7 = false := by
    cases f7
    · rfl
    · have := queRF_flt E nk v4 v7.toNat v3 0 [] m7; rw [e8] at this; cases this
  obtain rfl : f6 = false := readF_noflt (by rw [e7])
  obtain rfl : f5 = false := by
    cases f5
    · rfl
    · have := regRF_flt (E * 4) ks0.regs 0 m5; rw [e6] at this; cases this
  obtain rfl : f4 = false := readF_noflt (by rw [e5])
  obtain rfl : f3 = false := readF_noflt (by rw [e4])
  obtain rfl : f2 = false := readF_noflt (by rw [e3])
  obtain rfl : f1 = false := readF_noflt (by rw [e2])
  refine bad p ?_
  rcases readF_pre e1 hp with q' | ⟨p1, q1, s1⟩
  · simp only [kerRF, queueRF, q', readF_fl, regRF_flt, queRF_flt]
  rcases readF_pre e2 s1 with q' | ⟨p2, q2, s2⟩
  · simp only [kerRF, queueRF, q1, q', readF_fl, regRF_flt, queRF_flt]
  rcases readF_pre e3 s2 with q' | ⟨p3, q3, s3⟩
  · simp only [kerRF, queueRF, q1, q2, q', readF_fl, regRF_flt, queRF_flt]
  rcases readF_pre e4 s3 with q' | ⟨p4, q4, s4⟩
  · simp only [kerRF, queueRF, q1, q2, q3, q', readF_fl, regRF_flt, queRF_flt]
  rcases readF_pre e5 s4 with q' | ⟨p5, q5, s5⟩
  · simp only [kerRF, queueRF, q1, q2, q3, q4, q', readF_fl, regRF_flt, queRF_flt]
  rcases regRF_pre _ _ _ _ _ _ _ e6 s5 with q' | ⟨p6, q6, s6⟩
  · simp only [kerRF, queueRF, q1, q2, q3, q4, q5, q', readF_fl, regRF_flt, queRF_flt]
  rcases readF_pre e7 s6 with q' | ⟨p7, q7, s7⟩
  · simp only [kerRF, queueRF, q1, q2, q3, q4, q5, q6, q', readF_fl, regRF_flt, queRF_flt]
  rcases queRF_pre _ _ _ _ _ _ _ _ _ _ _ e8 s7 with q' | ⟨p8, q8, s8⟩
  · simp only [kerRF, queueRF, q1, q2, q3, q4, q5, q6, q7, q', readF_fl, regRF_flt, queRF_flt]
  · exact absurd s8 (noend p8)
end Go.Proofs.Ytndlmgocldckfaa

namespace Go.Proofs.Ytndlmgocldckfaa
open Go.RowKit
set_option linter.unusedVariables false
set_option linter.unusedSimpArgs false

/-! Load, of any bytes, for a model and draws that may be. -/

def loadE (E nk dl : Nat) (l : List Int) : Int := if openE [84, 77, 80, 1] l ≠ 0 then openE [84, 77, 80, 1] l else if kerOk E nk dl (openL l) then 0 else 4

set_option maxHeartbeats 4000000 in
set_option maxRecDepth 100000 in
theorem load_any (E : Nat) (b off cap : Nat) (dv : Value) (ks : List (List Ins)) (draws : List Int) (ba : Option Addr) (bcap : Nat) (l : List Int) (w : World) (hl : ks.length ≤ 8) (hbw : b < w.heap.size) (hK : KindsAt w.heap.size w b off ks) (hd : IntsIn (· < w.heap.size) w dv draws) (hk : kindF (E : Int) ks = none) (hD : drawsF draws = true) (he : 1 ≤ E ∧ E ≤ 8) (hdl : draws.length ≤ 1000) (hB : BytesV w ba bcap l) :
    Calls Try.prog 16 #[.agg #[.int .i64 (E : Int), .slice (some ⟨b, off, none⟩) ks.length cap], dv, .slice ba l.length bcap] w fun e w' => ∃ p, e = .returned (.tuple #[.pointer p, .int .i64 (loadE E ks.length draws.length l)]) ∧ Below w.heap.size w w' ∧ (loadE E ks.length draws.length l ≠ 0 → p = none) ∧
      (loadE E ks.length draws.length l = 0 → ∃ kb qb mb ov R base, p = some ⟨kb, 0, none⟩ ∧ (w.heap.size ≤ base ∧ base ≤ w'.heap.size) ∧ (∀ x, KSet kb qb mb ov x → base ≤ x) ∧ (∀ x, R x → base ≤ x) ∧ KerP R base w' kb qb mb ov (E : Int) ks draws (kerRF E ks.length draws.length (openL l)).2.1) := by
  have HB := hide hB
  have HD := hide hd
  have HKA := hide hK
  have Hk := hide hk
  have HE : Hid (loadE E ks.length draws.length l = if openE [84, 77, 80, 1] l ≠ 0 then openE [84, 77, 80, 1] l else if kerOk E ks.length draws.length (openL l) then 0 else 4) := by show _ = _; rfl
  clear hB hd hK hk
  go_enter Try.func16, Try.ntmps16
  go_wp2_with fail
  obtain ⟨W0, hW0⟩ : ∃ W0, W0 = w.alloc (.cells #[.int .i64 (E : Int), .slice (some ⟨b, off, none⟩) ks.length cap] 40) := ⟨_, rfl⟩
  have hb0 : Below w.heap.size w W0 := by rw [hW0]; exact (Below.refl _ _).alloc (Nat.le_refl _) _
  have hz0 : W0.heap.size = w.heap.size + 1 := by rw [hW0]; simp
  rw [← hW0]
  clear hW0
  have hd0 : IntsIn (· < W0.heap.size) W0 dv draws := (HD.out.only (Only.new (S := fun _ => False) hb0) (by simp)).mono (fun x hx => by omega)
  refine (tNew_yes (E : Int) b off cap dv ks draws W0 (by omega) (by omega) ((HKA.out.below hb0 hbw (Nat.le_refl _)).mono (by omega)) hd0 Hk.out hD).mono ?_
  rintro e w1 ⟨kb, qb, mb, rfl, hb1, h1k, h1q, h1m, hP1⟩
  have hz1 := hb1.size
  have HB1 : Hid (Below w.heap.size w w1) := hb0.trans (hb1.mono (by omega))
  obtain ⟨R, hR⟩ : ∃ R : Nat → Prop, R = fun x => W0.heap.size ≤ x ∧ x < w1.heap.size ∧ x ≠ kb ∧ x ≠ qb ∧ x ≠ mb := ⟨_, rfl⟩
  rw [← hR] at hP1
  have HP1 := hide hP1
  have HRr : Hid (∀ x, R x → W0.heap.size ≤ x ∧ x < w1.heap.size) := by rw [hR]; intro x hx; exact ⟨hx.1, hx.2.1⟩
  clear hb0 hb1 hd0 hP1 hR
  go_wp2_with fail
  refine (openAny ba bcap [84, 77, 80, 1] l w1 (HB.out.below HB1.out) _ ?_ rfl (by intro b hb; simp at hb; omega)).mono ?_
  · rfl
  rintro e w2 ⟨p, rfl, hb2, hp1, hp2⟩
  have hz2 := hb2.size
  have HB2 : Hid (Below w.heap.size w w2) := HB1.out.trans (hb2.mono (by omega))
  by_cases h0 : openE [84, 77, 80, 1] l = 0
  · obtain ⟨rb, g, rfl, h2r, h2g, hrd⟩ := hp2 h0
    rw [h0] at HE ⊢
    simp only [ne_eq, not_true_eq_false, if_false] at HE
    have hKlt := HP1.out.lt
    have hgw : g < w.heap.size := by
      obtain ⟨off', e⟩ := h2g
      have hB := HB.out
      rw [e] at hB
      exact hB.glt (openE_zero h0).1
    have hLd : LdR R W0.heap.size w2 w2 kb qb mb rb g (.slice none 0 0) (.slice none 0 0) (E : Int) ks draws ks0 (openL l) false := by
      refine ⟨HP1.out.below hb2, hrd, fun hc => by have := hKlt _ hc; omega, ?_, fun hc => by have := (HRr.out _ hc).2; omega, Only.refl _ _, .inl rfl, by omega⟩
      rintro (hc | hc | hc | hc)
      · omega
      · omega
      · omega
      · simp [Value.ownBlock] at hc
    have HLd := hide hLd
    clear hrd hb2 hLd hp1 hp2
    go_wp2_with fail
    have HRD : Hid (Calls Try.prog 34 #[.pointer (some ⟨kb, 0, none⟩), .pointer (some ⟨rb, 0, none⟩)] w2 fun e w' => e = .returned (.bool (kerOk E ks.length draws.length (openL l))) ∧ ∃ ov', LdR R W0.heap.size w2 w' kb qb mb rb g (.slice none 0 0) ov' (E : Int) ks draws (kerRF E ks.length draws.length (openL l)).2.1 (kerRF E ks.length draws.length (openL l)).2.2.1 (kerRF E ks.length draws.length (openL l)).2.2.2) :=
      read_any kb qb mb rb g (.slice none 0 0) E ks draws (openL l) w2 ks0 HLd.out he hl hdl rfl _ _ _ _ _ _ _ _ _ _ _ _ _ _ _ _ _ _ _ _ _ _ rfl rfl rfl rfl rfl rfl rfl
    refine HRD.out.mono ?_
    rintro e w3 ⟨rfl, ov3, hL3⟩
    have hz3 := hL3.only.size
    have HB3 : Hid (Below w.heap.size w w3) := HB2.out.trans (hL3.only.below (by omega) (fun k hk hc => by
      rcases hc with (hc | hc | hc | hc) | hc
      · omega
      · omega
      · omega
      · simp [Value.ownBlock] at hc
      · omega))
    have Hmv : Hid (∀ x, KSet kb qb mb ov3 x → W0.heap.size ≤ x) := by
      rintro x (hc | hc | hc | hc)
      · omega
      · omega
      · omega
      · rcases hL3.moved with e | ⟨g', e, hg'⟩
        · rw [e] at hc; simp [Value.ownBlock] at hc
        · rw [e] at hc; simp at hc; omega
    have HK3 := hide hL3.ker
    clear hL3 HRD
    rcases hok : kerOk E ks.length draws.length (openL l) with _ | _
    · have hE : loadE E ks.length draws.length l = 4 := by rw [HE.out, hok]; rfl
      go_wp2_with fail
      go_ret2
      rw [hE]
      exact ⟨_, rfl, HB3.out, fun _ => rfl, fun h => by cases h⟩
    · have hE : loadE E ks.length draws.length l = 0 := by rw [HE.out, hok]; rfl
      go_wp2_with fail
      go_ret2
      rw [hE]
      exact ⟨_, rfl, HB3.out, fun h => absurd rfl h, fun _ => ⟨kb, qb, mb, ov3, R, W0.heap.size, rfl, by omega, Hmv.out, fun x hx => (HRr.out x hx).1, HK3.out⟩⟩
  · obtain rfl := hp1 h0
    have d0 : (openE [84, 77, 80, 1] l != 0) = true := by simpa using h0
    have hE : loadE E ks.length draws.length l = openE [84, 77, 80, 1] l := by rw [HE.out, if_pos h0]
    have HE2 := hide hE
    clear hp1 hp2 hb2 HE hE
    go_wp2_with fail
    go_ret2
    rw [HE2.out]
    exact ⟨_, rfl, HB2.out, fun _ => rfl, fun h => absurd h h0⟩

/-- What Save has written is read as it was. -/
theorem kerRF_body (E : Nat) (ks : List (List Ins)) (draws : List Int) (s : KS) (hl : ks.length ≤ 8) (hfit : Fit (E : Int) ks draws s) (hz : RegZ (E : Int) s) (he : 1 ≤ E ∧ E ≤ 8) (hdl : draws.length ≤ 1000) : kerRF E ks.length draws.length (bodyF (E : Int) ks.length s) = (true, s, [], false) := by
  obtain ⟨hok, hso, hdi⟩ := hfit
  obtain ⟨k1, k2, k3, k4, k5, k6⟩ := hok
  have E0 : bodyF (E : Int) ks.length s = numB (E : Int) ++ (numB (ks.length : Int) ++ (numB s.clock ++ (numB s.next ++ (numB (s.taken : Int) ++ (regB s (E * 4) ++ (numB (s.q.length : Int) ++ evB s.clock s.q)))))) := by
    unfold bodyF
    rw [Int.toNat_natCast]
  have e6 : regRF (E * 4) ks0.regs 0 (regB s (E * 4) ++ (numB (s.q.length : Int) ++ evB s.clock s.q)) false = (s.regs, numB (s.q.length : Int) ++ evB s.clock s.q, false) := by
    have := regRF_regB s.regs k4 (numB (s.q.length : Int) ++ evB s.clock s.q) (E * 4) ks0.regs 0
    unfold regB
    rw [List.range_eq_range', this]
    refine Prod.ext ?_ rfl
    funext j
    simp only [Nat.zero_le, true_and, Nat.zero_add]
    split
    · rfl
    · exact (hz j (by simp; omega)).symm
  have e7 : queueRF (E : Int) ks.length s.next s.clock [] (numB (s.q.length : Int) ++ evB s.clock s.q) false = (true, s.q, [], false) := by
    unfold queueRF
    rw [readF_numB (by omega) (by omega)]
    simp only [Int.toNat_natCast]
    have := queRF_evB (ents := (E : Int)) (nk := ks.length) (next := s.next) (by omega) hl k3.2 [] s.q [] s.clock 0 (by simpa using hso) (by simpa using hdi) (fun e he' => by
      have := k5 e he'
      exact ⟨by omega, by omega, by omega, by omega⟩) k2.1 (by omega) (fun e he' => by have := k5 e he'; exact ⟨this.1, fun _ => by omega⟩)
    simpa using this
  unfold kerRF
  rw [E0, readF_numB (by omega) (by omega)]
  simp only
  rw [readF_numB (by omega) (by omega)]
  simp only
  rw [readF_numB (by omega) (by omega)]
  simp only
  rw [readF_numB (by omega) (by omega)]
  simp only
  rw [readF_numB (by omega) (by omega)]
  simp only
  rw [e6]
  simp only
  rw [e7]
  simp

/-- What Save has written, cut: Load refuses. -/
theorem loadE_cut (E : Nat) (ks : List (List Ins)) (draws : List Int) (s : KS) (hl : ks.length ≤ 8) (hfit : Fit (E : Int) ks draws s) (hz : RegZ (E : Int) s) (he : 1 ≤ E ∧ E ≤ 8) (hdl : draws.length ≤ 1000) (m : Nat) (hm : m < (saveF (E : Int) ks.length s).length) : loadE E ks.length draws.length ((saveF (E : Int) ks.length s).take m) ≠ 0 := by
  unfold loadE
  by_cases h0 : openE [84, 77, 80, 1] ((saveF (E : Int) ks.length s).take m) = 0
  rotate_left
  · rw [if_pos h0]; exact h0
  rw [if_neg (by simpa using h0)]
  have h8 := (openE_zero h0).1
  rw [saveF_length] at hm
  have hml : ((saveF (E : Int) ks.length s).take m).length = m := by
    rw [List.length_take, saveF_length]; omega
  rw [hml] at h8
  have hb := kerRF_body E ks draws s hl hfit hz he hdl
  have hL : openL ((saveF (E : Int) ks.length s).take m) = (bodyF (E : Int) ks.length s).take (m - 8) := by
    unfold openL
    rw [hml, List.take_take, Nat.min_eq_left (by omega)]
    unfold saveF headF
    rw [List.take_append_of_le_length (by simp; omega), List.take_append, List.drop_append]
    have e1 : (([84, 77, 80, 1] : List Int).take (m - 4)).drop 4 = [] := by
      apply List.drop_eq_nil_of_le
      simp
      omega
    rw [e1, List.nil_append]
    have e2 : (([84, 77, 80, 1] : List Int).take (m - 4)).length = 4 := by simp; omega
    rw [e2, Nat.sub_self, List.drop_zero]
    simp only [List.length_cons, List.length_nil, Nat.zero_add, Nat.reduceAdd]
    rw [show m - 4 - 4 = m - 8 by omega]
  have hk : kerOk E ks.length draws.length (bodyF (E : Int) ks.length s) = true := by unfold kerOk; rw [hb]; rfl
  rw [hL, kerOk_cut hk ⟨(bodyF (E : Int) ks.length s).drop (m - 8), by
    intro hc
    have := congrArg List.length hc
    simp at this
    omega, (List.take_append_drop _ _).symm⟩]
  simp
end Go.Proofs.Ytndlmgocldckfaa

namespace Go.Proofs.Ytndlmgocldckfaa
open Go.RowKit
set_option linter.unusedVariables false
set_option linter.unusedSimpArgs false

theorem RunOut.recIn {w w' : World} {kb qb mb : Nat} {ov lv : Value} {L : List RecC} {rs : List Rec} (h : RunOut w w' kb qb mb ov lv L rs) : ∃ a cap, lv = .slice a rs.length cap ∧ RecIn w' a rs :=
  AllR.recIn (Z := w.heap.size) ⟨h.len, h.row, h.rec_, fun x hx b hb => by
    obtain ⟨j, hj⟩ := List.getElem?_of_mem hx
    exact (h.tsep j x b hj hb).2⟩

theorem BRow.at {base : Nat} {w : World} {g cap n : Nat} {l : List Int} (h : BRow base w (.slice (some ⟨g, 0, none⟩) n cap) l) {i : Nat} (hi : i < l.length) : w.cell? ⟨g, i, none⟩ = some (.int .u8 l[i]) ∧ w.frozen? ⟨g, i, none⟩ = false := by
  obtain ⟨g', cap', cur, fz, he, hb, hg, hcl, h1, h2, h3, h4⟩ := h
  simp only [Value.slice.injEq, Option.some.injEq, Addr.mk.injEq] at he
  obtain ⟨⟨rfl, _⟩, rfl, rfl⟩ := he
  have hi2 : i < cur.size := by omega
  refine ⟨?_, ?_⟩
  · have : cur.toList[i]? = some (.int .u8 l[i]) := by
      have h5 : (cur.toList.take l.length)[i]? = some (.int .u8 l[i]) := by rw [h4]; simp [byteV, hi]
      rw [List.getElem?_take, if_pos hi] at h5
      exact h5
    simp only [World.cell?, hg]
    simpa using this
  · have := hcl i hi2
    obtain ⟨lo, hi'⟩ := fz
    simp only [World.frozen?, hg]
    simp only [Bool.and_eq_false_iff, decide_eq_false_iff_not]
    simp only at this
    omega
theorem BRow.set {base : Nat} {w : World} {g cap n : Nat} {l : List Int} (h : BRow base w (.slice (some ⟨g, 0, none⟩) n cap) l) (i : Nat) (x : Int) : BRow base (w.setCell ⟨g, i, none⟩ (.int .u8 x)) (.slice (some ⟨g, 0, none⟩) n cap) (l.set i x) := by
  obtain ⟨g', cap', cur, fz, he, hb, hg, hcl, h1, h2, h3, h4⟩ := h
  simp only [Value.slice.injEq, Option.some.injEq, Addr.mk.injEq] at he
  obtain ⟨⟨rfl, _⟩, rfl, rfl⟩ := he
  refine ⟨g, cap, cur.setIfInBounds i (.int .u8 x), fz, by simp, hb, ?_, by simpa using hcl, by simpa using h1, h2, by simpa using h3, ?_⟩
  · rw [setCell_eq_setRow w g i cur _ fz _ hg]
    exact setRow_heap w g cur _ _ _ hg
  · simp only [Array.toList_setIfInBounds, List.length_set]
    rw [List.take_set, h4]
    simp [byteV, List.map_set]
theorem BRow.bytesV {base : Nat} {w : World} {g cap n : Nat} {l : List Int} (h : BRow base w (.slice (some ⟨g, 0, none⟩) n cap) l) (hb : ∀ b ∈ l, 0 ≤ b ∧ b < 256) (hl : l.length ≤ 1000000000000000) : BytesV w (some ⟨g, 0, none⟩) cap l := by
  obtain ⟨g', cap', he, hg1, hg2, hrow⟩ := h.row
  simp only [Value.slice.injEq, Option.some.injEq, Addr.mk.injEq] at he
  obtain ⟨⟨rfl, _⟩, rfl, rfl⟩ := he
  obtain ⟨_, _, cur, fz, he, _, hg, _, h1, _⟩ := h
  simp only [Value.slice.injEq, Option.some.injEq, Addr.mk.injEq] at he
  exact ⟨hl, by omega, hb, fun _ => ⟨g, 0, rfl, hrow, hg2⟩⟩

theorem xor_ne (a k : Int) (ha : 0 ≤ a ∧ a < 256) (hk : 1 ≤ k ∧ k < 256) : 0 ≤ bits .xor .u8 a k ∧ bits .xor .u8 a k < 256 ∧ bits .xor .u8 a k ≠ a := by
  obtain ⟨x, rfl⟩ := Int.eq_ofNat_of_zero_le ha.1
  obtain ⟨y, rfl⟩ := Int.eq_ofNat_of_zero_le (show 0 ≤ k by omega)
  have h1 : (BitVec.ofInt 8 (x : Int)).toNat = x := by
    rw [BitVec.ofInt_natCast, BitVec.toNat_ofNat]; exact Nat.mod_eq_of_lt (by omega)
  have h2 : (BitVec.ofInt 8 (y : Int)).toNat = y := by
    rw [BitVec.ofInt_natCast, BitVec.toNat_ofNat]; exact Nat.mod_eq_of_lt (by omega)
  have e : bits .xor .u8 (x : Int) (y : Int) = ((x ^^^ y : Nat) : Int) := by
    show IntKind.u8.wrap ((BitVec.ofInt 8 (x : Int) ^^^ BitVec.ofInt 8 (y : Int)).toNat : Int) = _
    rw [BitVec.toNat_xor, h1, h2]
    have : x ^^^ y < 2 ^ 8 := Nat.xor_lt_two_pow (by omega) (by omega)
    exact byteOf _ (by omega) (by omega)
  have hlt : x ^^^ y < 2 ^ 8 := Nat.xor_lt_two_pow (by omega) (by omega)
  rw [e]
  refine ⟨by omega, by omega, ?_⟩
  intro hc
  have hc' : x ^^^ y = x := by omega
  have : y = 0 := by
    have h3 : x ^^^ (x ^^^ y) = x ^^^ x := by rw [hc']
    rw [← Nat.xor_assoc, Nat.xor_self, Nat.zero_xor] at h3
    exact h3
  omega

set_option maxRecDepth 100000 in
set_option maxHeartbeats 4000000 in
theorem sealed_any (sa da pa : Option Addr) (sc dc pc : Nat) (L D : List Int) (P : List PlanR) (at_ by_ cut : Int) (w : World) (hL : RawL w sa L) (hD : RawL w da D) (hP : RawPl w pa P) (ha : I64 at_) (hb : I64 by_) (hc : I64 cut) :
    Calls Try.prog 7 #[.agg #[.slice sa L.length sc, .slice da D.length dc, .slice pa P.length pc], .int .i64 at_, .int .i64 by_, .int .i64 cut] w fun e w' => e = .returned (.bool true) ∧ Below w.heap.size w w' := by
  have HL := hide hL
  have HD := hide hD
  have HP := hide hP
  clear hL hD hP
  go_enter Try.func7, Try.ntmps7
  go_wp2_with fail
  obtain ⟨W0, hW0⟩ : ∃ W0, W0 = w.alloc (.cells #[.slice sa L.length sc, .slice da D.length dc, .slice pa P.length pc] 25) := ⟨_, rfl⟩
  have hb0 : Below w.heap.size w W0 := by rw [hW0]; exact (Below.refl _ _).alloc (Nat.le_refl _) _
  have hz0 : W0.heap.size = w.heap.size + 1 := by rw [hW0]; simp
  have x0 : W0.cell? ⟨w.heap.size, 0, none⟩ = some (.slice sa L.length sc) := by rw [hW0]; simp [go_sem]
  have x1 : W0.cell? ⟨w.heap.size, 1, none⟩ = some (.slice da D.length dc) := by rw [hW0]; simp [go_sem]
  have x2 : W0.cell? ⟨w.heap.size, 2, none⟩ = some (.slice pa P.length pc) := by rw [hW0]; simp [go_sem]
  rw [← hW0]
  clear hW0
  refine (begun_any sa da pa sc dc pc L D P W0 (HL.out.below hb0) (HD.out.below hb0) (HP.out.below hb0)).mono ?_
  rintro e w2 ⟨bkb, bqb, bmb, bov, bR, bbase, rfl, hB⟩
  have hz2 := hB.below.size
  have hb1 := hB.base
  have HB2 := hide (hb0.trans (hB.below.mono (by omega)))
  have z0 := below_at hB.below x0 (by omega)
  have z1 := below_at hB.below x1 (by omega)
  have HB := hide hB
  clear hB x0 x1 x2 hb0
  go_wp2_with fail
  obtain ⟨W3, hW3⟩ : ∃ W3, W3 = w2.alloc (.cells #[.slice sa L.length sc, .int .i64 0] 44) := ⟨_, rfl⟩
  have hb3 : Below w2.heap.size w2 W3 := by rw [hW3]; exact (Below.refl _ _).alloc (Nat.le_refl _) _
  have hz3 : W3.heap.size = w2.heap.size + 1 := by rw [hW3]; simp
  have HL3 := (HL.out.below HB2.out).below hb3
  have hraw : RawP W3 w2.heap.size sa sc L 0 := by
    refine ⟨by rw [hW3]; simp [go_sem], by rw [hW3]; simp [go_sem], ?_, fun i hi => ?_, by omega, HL3.1, HL3.2.1⟩
    · rw [hW3]
      intro j hj
      have : j = 0 ∨ j = 1 := by omega
      rcases this with rfl | rfl <;> simp [go_sem]
    · obtain ⟨b, off, e1, e2⟩ := HL3.2.2 i hi
      obtain ⟨b', off', e1', e2'⟩ := HL.out.2.2 i hi
      rw [e1] at e1'
      simp only [Option.some.injEq, Addr.mk.injEq] at e1'
      have := lt_of_cell e2'
      exact ⟨b, off, e1, by omega, e2⟩
  rw [← hW3]
  clear hW3
  refine (model_any w2.heap.size sa sc L W3 hraw).mono ?_
  rintro e w4 ⟨kv, rfl, ho4, hK4⟩
  have hz4 := ho4.size
  have hb24 : Below w2.heap.size w2 w4 := hb3.trans (ho4.below (by omega) (by intro k hk; omega))
  have z1' := below_at hb24 z1 (by omega)
  have hK4' := hK4
  obtain ⟨kb0, koff, kcap, hkv, hkb, hKA⟩ := hK4.at (B := w4.heap.size) (by have := nkF_le L; have := kindsF_len L; omega) (fun b hb => by omega)
  subst hkv
  have HK4 := hide hK4'
  have Hb24 := hide hb24
  clear hb3 HL3 hraw ho4 hK4 hKA hb24 z0 z1 hK4'
  have A1 : ∀ o, (w4.alloc o).cell? ⟨w.heap.size, 1, none⟩ = some (.slice da D.length dc) := fun o => below_at ((Below.refl w4.heap.size w4).alloc (Nat.le_refl _) o) z1' (by omega)
  go_wp2_with fail
  obtain ⟨W4, hW4⟩ : ∃ W4, W4 = w4.alloc (.cells #[.int .i64 (entsF L), .slice (some ⟨kb0, koff, none⟩) (kindsF L).length kcap] 40) := ⟨_, rfl⟩
  have hb4 : Below w4.heap.size w4 W4 := by rw [hW4]; exact (Below.refl _ _).alloc (Nat.le_refl _) _
  have hzW4 : W4.heap.size = w4.heap.size + 1 := by rw [hW4]; simp
  have m0 : W4.cell? ⟨w4.heap.size, 0, none⟩ = some (.int .i64 (entsF L)) := by rw [hW4]; simp [go_sem]
  have m1 : W4.cell? ⟨w4.heap.size, 1, none⟩ = some (.slice (some ⟨kb0, koff, none⟩) (kindsF L).length kcap) := by rw [hW4]; simp [go_sem]
  rw [← hW4]
  clear hW4 A1
  have Hb2W : Hid (Below w2.heap.size w2 W4) := Hb24.out.trans (hb4.mono (by omega))
  have HBW : Hid (Below w.heap.size w W4) := HB2.out.trans (Hb2W.out.mono (by omega))
  have HKW : Hid (KindsIn (fun b => W3.heap.size ≤ b ∧ b < w4.heap.size) W4 (.slice (some ⟨kb0, koff, none⟩) (kindsF L).length kcap) (kindsF L)) := HK4.out.only (Only.new (S := fun _ => False) hb4) (by simp)
  have HD4 := HD.out.below HBW.out
  refine (draws_any da dc D W4 HD4.1 HD4.2.1 HD4.2.2).mono ?_
  rintro e w5 ⟨dv, rfl, hb5, hown5⟩
  obtain ⟨da5, dc5, rfl⟩ := owns_formA hown5
  have hz5 := hb5.size
  have m0' := below_at hb5 m0 (by omega)
  have m1' := below_at hb5 m1 (by omega)
  have hdl := rdrawsF_len D
  have Hdi : Hid (IntsIn (fun b => w2.heap.size ≤ b ∧ b < w5.heap.size) w5 (.slice da5 (rdrawsF D).length dc5) (rdrawsF D)) := (owns_ints hown5 (by omega)).mono (fun b hb => by omega)
  have HK5 : Hid (KindsIn (fun b => w2.heap.size ≤ b ∧ b < w5.heap.size) w5 (.slice (some ⟨kb0, koff, none⟩) (kindsF L).length kcap) (kindsF L)) := (HKW.out.only (Only.new (S := fun _ => False) hb5) (by simp)).mono (fun b hb => by omega)
  have Hb25 : Hid (Below w2.heap.size w2 w5) := Hb2W.out.trans (hb5.mono (by omega))
  have HB5 : Hid (Below w.heap.size w w5) := HBW.out.trans (hb5.mono (by omega))
  clear hb4 HKW HD4 hb5 hown5 m0 m1 HK4 z1'
  have hE := entsF_le L
  have hNK := nkF_le L
  have hNL := kindsF_len L
  have hK8 : (kindsF L).length ≤ 8 := by omega
  obtain ⟨E, hEE⟩ := Int.eq_ofNat_of_zero_le (show 0 ≤ entsF L by omega)
  have hE8 : 1 ≤ E ∧ E ≤ 8 := by omega
  have HEE := hide hEE
  clear hEE
  have hf0 := begunF_facts L D P
  have hz25 := Hb25.out.size
  have hRA := runF_all (kindsF_ok L) (rdrawsF_ok D) 1000000 5 (begunF L P) hf0.1
  have hRO := runF_recOk (kindsF_ok L) (rdrawsF_ok D) (by omega) hK8 1000000 5 (begunF L P) hf0.1
  have hRZ := runF_regz (kindsF_ok L) (rdrawsF_ok D) 1000000 5 (begunF L P) hf0.1 (begunF_regz L P)
  rcases hrun : runF (kindsF L) (rdrawsF D) 1000000 5 (begunF L P) with ⟨s2, rs, why⟩
  rw [hrun] at hRA hRO hRZ
  simp only at hRA hRO hRZ
  have hare : areF rs = true := by
    simp only [areF, Bool.and_eq_true, decide_eq_true_eq]
    have := hRA.len
    exact ⟨by omega, recsOkF_mono hRO hf0.1.ok.clock.1⟩
  have HR := hide (run_ok 5 1000000 w5 (HB.out.ker.below Hb25.out) hf0.1.ok (by omega) hK8 (by omega) (by omega) (kindsF_ok L) (rdrawsF_ok D) s2 rs why hrun)
  have Hfit := hide hRA.fit
  have HRZ := hide hRZ
  have Hare := hide hare
  have Hks0 := hide HB.out.kset
  have hbb := hb1
  clear hrun hRA hRO hRZ hare hf0 hb1
  go_wp2_with fail
  refine HR.out.mono ?_
  rintro e w6 ⟨lv, ov6, RL, rfl, ho6, hm6, hk6, hok6, hout⟩
  obtain ⟨la, lcap, rfl, hrin⟩ := hout.recIn
  have hz6 := ho6.size
  have Hlt5 : Hid (∀ b, KSet bkb bqb bmb bov b → W0.heap.size ≤ b ∧ b < w2.heap.size) := fun b hb => ⟨by have := Hks0.out b hb; omega, HB.out.ker.lt b hb⟩
  have m0'' := ho6.at m0' (fun hc => by have := Hlt5.out _ hc; omega)
  have m1'' := ho6.at m1' (fun hc => by have := Hlt5.out _ hc; omega)
  have HK6 : Hid (KindsIn (fun b => w2.heap.size ≤ b ∧ b < w5.heap.size) w6 (.slice (some ⟨kb0, koff, none⟩) (kindsF L).length kcap) (kindsF L)) := HK5.out.only ho6 (fun b hb hc => by have := Hlt5.out _ hc; omega)
  have Hdi6 : Hid (IntsIn (fun b => w2.heap.size ≤ b ∧ b < w5.heap.size) w6 (.slice da5 (rdrawsF D).length dc5) (rdrawsF D)) := Hdi.out.only ho6 (fun b hb hc => by have := Hlt5.out _ hc; omega)
  have HB6 : Hid (Below w.heap.size w w6) := HB5.out.trans (ho6.below (by omega) (fun k hk hc => by have := Hlt5.out _ hc; omega))
  have Hk6 := hide hk6
  have Hok6 := hide hok6
  have Hrin := hide hrin
  clear ho6 hm6 hk6 hok6 hout hrin HR m0' m1' HK5 Hdi
  go_wp2_with fail
  refine (save_any bkb bqb bmb ov6 (entsF L) (kindsF L) (rdrawsF D) s2 w6 Hk6.out Hok6.out hK8 (by omega) hdl.1 Hfit.out.q.sorted).mono ?_
  rintro e w7 ⟨pv, rfl, hb7, hrow7⟩
  obtain ⟨pg, pcap, rfl⟩ := hrow7.form
  have hz7 := hb7.size
  have Hrow7 := hide hrow7
  have Hb67 := hide hb7
  have hpg := (hrow7.lt pg rfl).1
  clear hb7 hrow7
  go_wp2_with fail
  refine (encode_yes la lcap rs w7 (Hrin.out.below Hb67.out) Hare.out).mono ?_
  rintro e w8 ⟨cv, rfl, hb8, hrow8⟩
  obtain ⟨cg, ccap, rfl⟩ := hrow8.form
  have hz8 := hb8.size
  have Hrow8 := hide hrow8
  have Hb68 := hide (Hb67.out.trans (hb8.mono hz7))
  have Hrow7' := hide (Hrow7.out.keep (Only.new (S := fun _ => False) hb8) (by simp))
  have hcg := (hrow8.lt cg rfl).1
  have hpl := (Hrow7.out.lt pg rfl).2
  have hEs : Hid (openE [84, 77, 80, 1] (saveF (entsF L) (kindsF L).length s2) = 0) := openE_ok [84, 77, 80, 1] (bodyF (entsF L) (kindsF L).length s2) rfl
  have hEl : (saveF (entsF L) (kindsF L).length s2).length = (bodyF (entsF L) (kindsF L).length s2).length + 8 := saveF_length _ _ _
  have hCl := encF_len rs
  have hCs : Hid (openE [84, 77, 82, 1] (encF rs) = 0) := openE_ok [84, 77, 82, 1] (encT rs) rfl
  clear hb8 hrow8
  generalize hbl : saveF (entsF L) (kindsF L).length s2 = bl at *
  generalize hcl : encF rs = cl at *
  have hbl2 : bl.length ≤ 1000000 := by
    have h1 := hEl
    have h2 := bodyF_len (ents := entsF L) (nk := (kindsF L).length) (s := s2) (by omega) Hok6.out.len
    omega
  have hcl2 : cl.length ≤ 1000000 := by
    have h2 := encT_len Hare.out
    omega
  have g8 : (8 : Int) ≤ (bl.length : Int) := by omega
  have gc8 : (8 : Int) ≤ (cl.length : Int) := by omega
  have d1 : decide ((bl.length : Int) < 8) = false := by simp; omega
  have d2 : decide ((cl.length : Int) < 8) = false := by simp; omega
  clear hEl hCl
  go_wp2_with fail
  obtain ⟨i, hi⟩ := Int.eq_ofNat_of_zero_le (pickF_lt at_ (n := (bl.length : Int)) (by omega)).1
  have hil := (pickF_lt at_ (n := (bl.length : Int)) (by omega)).2
  rw [hi] at hil
  obtain ⟨j, hj⟩ := Int.eq_ofNat_of_zero_le (pickF_lt at_ (n := (cl.length : Int)) (by omega)).1
  have hjl := (pickF_lt at_ (n := (cl.length : Int)) (by omega)).2
  rw [hj] at hjl
  have hkl := pickF_lt by_ (n := 255) (by omega)
  obtain ⟨q, hq⟩ : ∃ q, pickF by_ 255 = q := ⟨_, rfl⟩
  rw [hq] at hkl
  have hlb : 1 ≤ (bl.length : Int) ∧ (bl.length : Int) ≤ 9223372036854775807 := by omega
  have hlc : 1 ≤ (cl.length : Int) ∧ (cl.length : Int) ≤ 9223372036854775807 := by omega
  have HPb : Hid (∀ c n W, I64 c → (1 ≤ n ∧ n ≤ 9223372036854775807) → ∀ r, pickF c n = r → Calls Try.prog 10 #[.int .i64 c, .int .i64 n] W fun e w' => e = .returned (.int .i64 r) ∧ w' = W) := fun c n W hc hn r hr => by rw [← hr]; exact pick_any c n W hc hn
  have Hi := hide hi
  have Hj := hide hj
  have Hq := hide hq
  have hi0 : (0 : Int) ≤ (i : Int) := by omega
  have hj0 : (0 : Int) ≤ (j : Int) := by omega
  have hiN : i < bl.length := by omega
  have hjN : j < cl.length := by omega
  have hq1 : IntKind.i64.wrap (1 + q) = 1 + q := by rw [IntKind.wrap_i64]; omega
  have hq2 : IntKind.u8.wrap (1 + q) = 1 + q := byteOf _ (by omega) (by omega)
  obtain ⟨u1, u2⟩ := Hrow7'.out.at hiN
  obtain ⟨u3, u4⟩ := Hrow8.out.at hjN
  obtain ⟨y, hy⟩ : ∃ y, y = bits .xor .u8 bl[i] (1 + q) := ⟨_, rfl⟩
  have Hy := hide hy
  clear hi hj hy hq
  generalize hbi : bl[i] = bi at u1 Hy
  generalize hcj : cl[j] = cj at u3
  have Hbi := hide hbi
  have Hcj := hide hcj
  clear hbi hcj
  go_cut [15] from 61 to 78 (fun s15 wx => s15 = .slice (some ⟨pg, 0, none⟩) bl.length pcap ∧ Hid (wx = (w8.setCell ⟨pg, i, none⟩ (.int .u8 y)).drew))
  case first =>
    clear HL HD HP HB HB2 Hb24 Hb2W HBW Hb25 HB5 Hks0 Hlt5 HK6 Hdi6 HB6 Hk6 Hok6 Hrin Hrow7 Hb67 Hrow8 Hb68 Hrow7' hEs hCs Hare HRZ Hfit HEE hjN hj0 hjl u3 u4 Hcj Hbi
    clear hiN hpg hcg hpl hz8 hz7 hz6 hz25 hE8 hK8 hNL hNK hE hdl hz5 hzW4 hkb hz4 hz3 hbb hz2 hz0 hkl gc8 d1 d2 hbl2 hcl2 m0'' m1'' hlc Hj hc
    go_region_with (first | (go_at_call 10; refine (HPb.out _ _ _ (by first | exact ha | exact hb) (by first | exact hlb | decide) _ (by first | exact Hi.out | exact Hq.out)).mono ?_; rintro e' w9 ⟨rfl, rfl⟩))
    all_goals (go_wp2_with fail; go_meet; case rel => exact ⟨rfl, show _ = _ by rw [Hy.out]⟩)
  case rest =>
    obtain ⟨rfl, hw9⟩ := hcut
    have hby : ∀ b ∈ bl, 0 ≤ b ∧ b < 256 := by rw [← hbl]; exact saveF_bytes Hok6.out (by omega) hK8 hdl.1 Hfit.out.q.sorted
    have hcy : ∀ b ∈ cl, 0 ≤ b ∧ b < 256 := by
      rw [← hcl]
      intro b hb'
      rcases List.mem_append.1 hb' with hb' | hb'
      · rcases List.mem_append.1 hb' with hb' | hb'
        · simp at hb'; omega
        · exact encT_bytes Hare.out b hb'
      · exact sumB_bytes _ b hb'
    have hxb := xor_ne bl[i] (1 + q) (hby _ (List.getElem_mem hiN)) (by omega)
    have hxc := xor_ne cl[j] (1 + q) (hcy _ (List.getElem_mem hjN)) (by omega)
    have hOb : Only (· = pg) w8 wc := by
      rw [hw9.out]
      exact ((Only.refl (· = pg) w8).setCell (p := ⟨pg, i, none⟩) (show pg = pg from rfl) _).trans (Only.new (Below.refl _ _).drew)
    have Hrow9 : Hid (BRow w6.heap.size wc (.slice (some ⟨pg, 0, none⟩) bl.length pcap) (bl.set i y)) := by
      rw [hw9.out]
      exact (Hrow7'.out.set i y).keep (Only.new (S := fun _ => False) (Below.refl _ _).drew) (by simp)
    have hne : pg ≠ cg := by omega
    have HrowC : Hid (BRow w7.heap.size wc (.slice (some ⟨cg, 0, none⟩) cl.length ccap) cl) := Hrow8.out.keep hOb (fun b hb' hc' => by simp [Value.ownBlock] at hb'; omega)
    obtain ⟨u5, u6⟩ := HrowC.out.at hjN
    rw [Hcj.out] at u5 hxc
    rw [Hbi.out, ← Hy.out] at hxb
    have Hxb := hide hxb
    obtain ⟨z, hz⟩ : ∃ z, z = bits .xor .u8 cj (1 + q) := ⟨_, rfl⟩
    rw [← hz] at hxc
    have Hz := hide hz
    have Hxc := hide hxc
    have HOb := hide hOb
    have Hby := hide hby
    have Hcy := hide hcy
    clear hOb hw9 hby hcy hxb hxc hz u1 u2 u3 u4
    go_wp2_with fail
    go_cut [16] from 79 to 96 (fun s16 wx => s16 = .slice (some ⟨cg, 0, none⟩) cl.length ccap ∧ Hid (wx = (wc.setCell ⟨cg, j, none⟩ (.int .u8 z)).drew))
    case first =>
      clear HL HD HP HB HB2 Hb24 Hb2W HBW Hb25 HB5 Hks0 Hlt5 HK6 Hdi6 HB6 Hk6 Hok6 Hrin Hrow7 Hb67 Hrow8 Hb68 Hrow7' hEs hCs Hare HRZ Hfit HEE Hcj Hbi Hrow9 HrowC HOb Hxb Hxc Hby Hcy
      clear hjN hpg hcg hpl hz8 hz7 hz6 hz25 hE8 hK8 hNL hNK hE hdl hz5 hzW4 hkb hz4 hz3 hbb hz2 hz0 hkl g8 d1 d2 hbl2 hcl2 m0'' m1'' hlb Hi hc hiN hi0 hil Hy
      go_region_with (first | (go_at_call 10; refine (HPb.out _ _ _ (by first | exact ha | exact hb) (by first | exact hlc | decide) _ (by first | exact Hj.out | exact Hq.out)).mono ?_; rintro e' w9 ⟨rfl, rfl⟩))
      all_goals (go_wp2_with fail; go_meet; case rel => exact ⟨rfl, show _ = _ by rw [Hz.out]⟩)
    case rest =>
      rename World => wd
      obtain ⟨rfl, hw10⟩ := hcut
      have hOc : Only (· = cg) wc wd := by
        rw [hw10.out]
        exact ((Only.refl (· = cg) wc).setCell (p := ⟨cg, j, none⟩) (show cg = cg from rfl) _).trans (Only.new (Below.refl _ _).drew)
      have hzc := HOb.out.size
      have hzd := hOc.size
      have hrowb : BRow w6.heap.size wd (.slice (some ⟨pg, 0, none⟩) bl.length pcap) (bl.set i y) := Hrow9.out.keep hOc (fun b hb' hc' => by simp [Value.ownBlock] at hb'; omega)
      have hrowc : BRow w7.heap.size wd (.slice (some ⟨cg, 0, none⟩) cl.length ccap) (cl.set j z) := by
        rw [hw10.out]
        exact (HrowC.out.set j z).keep (Only.new (S := fun _ => False) (Below.refl _ _).drew) (by simp)
      have hb6d : Below w6.heap.size w6 wd := (Hb68.out.trans (HOb.out.below (by omega) (fun k hk hc' => by omega))).trans (hOc.below (by omega) (fun k hk hc' => by omega))
      have hsb : ∀ b ∈ bl.set i y, 0 ≤ b ∧ b < 256 := by
        intro b hb'
        rcases List.mem_or_eq_of_mem_set hb' with hb' | rfl
        · exact Hby.out b hb'
        · exact ⟨Hxb.out.1, Hxb.out.2.1⟩
      have hsc : ∀ b ∈ cl.set j z, 0 ≤ b ∧ b < 256 := by
        intro b hb'
        rcases List.mem_or_eq_of_mem_set hb' with hb' | rfl
        · exact Hcy.out b hb'
        · exact ⟨Hxc.out.1, Hxc.out.2.1⟩
      have hBb : BytesV wd (some ⟨pg, 0, none⟩) pcap (bl.set i y) := hrowb.bytesV hsb (by simp; omega)
      have hBc : BytesV wd (some ⟨cg, 0, none⟩) ccap (cl.set j z) := hrowc.bytesV hsc (by simp; omega)
      have hob : openE [84, 77, 80, 1] (bl.set i y) ≠ 0 := openE_set hEs.out Hby.out hiN ⟨Hxb.out.1, Hxb.out.2.1⟩ (by rw [Hbi.out]; exact Hxb.out.2.2)
      have hoc : openE [84, 77, 82, 1] (cl.set j z) ≠ 0 := openE_set hCs.out Hcy.out hjN ⟨Hxc.out.1, Hxc.out.2.1⟩ (by rw [Hcj.out]; exact Hxc.out.2.2)
      have hle : loadE E (kindsF L).length (rdrawsF D).length (bl.set i y) ≠ 0 := by unfold loadE; rw [if_pos hob]; exact hob
      have hde : decE (cl.set j z) ≠ 0 := by unfold decE; rw [if_pos hoc]; exact hoc
      have k0 := below_at hb6d m0'' (by omega)
      have k1 := below_at hb6d m1'' (by omega)
      have HK10 : Hid (KindsIn (fun b => w2.heap.size ≤ b ∧ b < w5.heap.size) wd (.slice (some ⟨kb0, koff, none⟩) (kindsF L).length kcap) (kindsF L)) := HK6.out.only (Only.new (S := fun _ => False) hb6d) (by simp)
      have Hdi10 : Hid (IntsIn (fun b => w2.heap.size ≤ b ∧ b < w5.heap.size) wd (.slice da5 (rdrawsF D).length dc5) (rdrawsF D)) := Hdi6.out.only (Only.new (S := fun _ => False) hb6d) (by simp)
      have hz6d := hb6d.size
      obtain ⟨kb1, koff1, kcap1, hkv1, hkb1, hKA1⟩ := HK10.out.at (B := wd.heap.size) (by omega) (fun b hb' => by omega)
      simp only [Value.slice.injEq, Option.some.injEq, Addr.mk.injEq] at hkv1
      obtain ⟨⟨rfl, rfl, _⟩, _, rfl⟩ := hkv1
      have hLd := load_any E kb0 koff kcap (.slice da5 (rdrawsF D).length dc5) (kindsF L) (rdrawsF D) (some ⟨pg, 0, none⟩) pcap (bl.set i y) wd hK8 hkb1 hKA1 (Hdi10.out.mono (fun b hb' => by omega)) (by rw [← HEE.out]; exact kindsF_none L) (rdrawsF_draws D) hE8 hdl.1 hBb
      rw [List.length_set, ← HEE.out] at hLd
      have HLd := hide hLd
      have HBc := hide hBc
      have Hle := hide hle
      have Hde := hide hde
      have Hb6d := hide hb6d
      clear hOc hrowb hrowc hb6d hsb hsc hBb hBc hob hoc hle hde hKA1 hLd hw10 u5 u6
      go_wp2_with fail
      refine HLd.out.mono ?_
      rintro e w11 ⟨p1, rfl, hb11, hp1, _⟩
      obtain rfl := hp1 Hle.out
      have hz11 := hb11.size
      generalize loadE E (kindsF L).length (rdrawsF D).length (bl.set i y) = le at Hle HLd ⊢
      have d3 : (le == 0) = false := by rw [beq_eq_false_iff_ne]; exact Hle.out
      have HDc := hide (decode_any (some ⟨cg, 0, none⟩) ccap (cl.set j z) w11 (HBc.out.below hb11))
      rw [List.length_set] at HDc
      have Hb611 : Hid (Below w6.heap.size w6 w11) := Hb6d.out.trans (hb11.mono hz6d)
      have k2 := below_at hb11 k0 (by omega)
      have k3 := below_at hb11 k1 (by omega)
      clear hb11 hp1 HLd k0 k1
      go_wp2_with fail
      refine HDc.out.mono ?_
      rintro e w12 ⟨v12, rfl, hb12, hp12, _⟩
      obtain rfl := hp12 Hde.out
      have hz12 := hb12.size
      generalize decE (cl.set j z) = de at Hde HDc ⊢
      have d4 : (de == 0) = false := by rw [beq_eq_false_iff_ne]; exact Hde.out
      have Hb612 : Hid (Below w6.heap.size w6 w12) := Hb611.out.trans (hb12.mono (by omega))
      have k4 := below_at hb12 k2 (by omega)
      have k5 := below_at hb12 k3 (by omega)
      clear hb12 hp12 HDc k2 k3
      go_wp2_with fail
      refine (save_any bkb bqb bmb ov6 (entsF L) (kindsF L) (rdrawsF D) s2 w12 (Hk6.out.below Hb612.out) Hok6.out hK8 (by omega) hdl.1 Hfit.out.q.sorted).mono ?_
      rintro e w13 ⟨rv, rfl, hb13, hrow13⟩
      rw [hbl] at hrow13
      obtain ⟨rg, rcap, rfl⟩ := hrow13.form
      have hz13 := hb13.size
      have Hb613 : Hid (Below w6.heap.size w6 w13) := Hb612.out.trans (hb13.mono (by omega))
      have k6 := below_at hb13 k4 (by omega)
      have k7 := below_at hb13 k5 (by omega)
      have Hrow13 := hide hrow13
      clear hb13 hrow13 k4 k5
      obtain ⟨m, hm⟩ := Int.eq_ofNat_of_zero_le (pickF_lt cut (n := (bl.length : Int)) (by omega)).1
      have hml := (pickF_lt cut (n := (bl.length : Int)) (by omega)).2
      rw [hm] at hml
      have Hm := hide hm
      clear hm
      go_wp2_with fail
      have hlcut : loadE E (kindsF L).length (rdrawsF D).length (bl.take m) ≠ 0 := by
        have hf := Hfit.out
        have hrz := HRZ.out
        have hb' := hbl
        rw [HEE.out] at hf hrz hb'
        rw [← hb']
        exact loadE_cut E (kindsF L) (rdrawsF D) s2 hK8 hf hrz hE8 hdl.1 m (by rw [hb']; omega)
      have hdr : Below w13.heap.size w13 w13.drew := (Below.refl _ _).drew
      have hb6e : Below w6.heap.size w6 w13.drew := Hb613.out.trans (hdr.mono (by omega))
      have HK14 : KindsIn (fun b => w2.heap.size ≤ b ∧ b < w5.heap.size) w13.drew (.slice (some ⟨kb0, koff, none⟩) (kindsF L).length kcap) (kindsF L) := HK6.out.only (Only.new (S := fun _ => False) hb6e) (by simp)
      have hdi14 : IntsIn (fun b => w2.heap.size ≤ b ∧ b < w5.heap.size) w13.drew (.slice da5 (rdrawsF D).length dc5) (rdrawsF D) := Hdi6.out.only (Only.new (S := fun _ => False) hb6e) (by simp)
      have hzz : w13.drew.heap.size = w13.heap.size := rfl
      obtain ⟨kb2, koff2, kcap2, hkv2, hkb2, hKA2⟩ := HK14.at (B := w13.drew.heap.size) (by omega) (fun b hb' => by omega)
      simp only [Value.slice.injEq, Option.some.injEq, Addr.mk.injEq] at hkv2
      obtain ⟨⟨rfl, rfl, _⟩, _, rfl⟩ := hkv2
      have hrb := Hrow13.out.bytesV Hby.out (by omega)
      have hrc : bl.length ≤ rcap := hrb.cap_
      have htl : (bl.take m).length = m := by simp; omega
      have hBt : BytesV w13.drew (some ⟨rg, 0, none⟩) rcap (bl.take m) := by
        refine ⟨by omega, by omega, fun b hb' => Hby.out b (List.mem_of_mem_take hb'), fun h8 => ?_⟩
        obtain ⟨g', off', e1, e2, e3⟩ := hrb.row (by omega)
        simp only [Option.some.injEq, Addr.mk.injEq] at e1
        obtain ⟨rfl, rfl, _⟩ := e1
        refine ⟨rg, 0, rfl, fun n v hv => ?_, by omega⟩
        refine below_at hdr (e2 n v ?_) e3
        have hn := (List.getElem?_eq_some_iff.1 hv).1
        simp only [byteV, List.length_map] at hn
        rw [← hv]
        simp only [byteV, List.getElem?_map, List.getElem?_take]
        rw [if_pos (by omega)]
      have hLd2 := load_any E kb0 koff kcap (.slice da5 (rdrawsF D).length dc5) (kindsF L) (rdrawsF D) (some ⟨rg, 0, none⟩) rcap (bl.take m) w13.drew hK8 hkb2 hKA2 (hdi14.mono (fun b hb' => by omega)) (by rw [← HEE.out]; exact kindsF_none L) (rdrawsF_draws D) hE8 hdl.1 hBt
      rw [htl, ← HEE.out] at hLd2
      have HLd2 := hide hLd2
      have Hlcut := hide hlcut
      generalize loadE E (kindsF L).length (rdrawsF D).length (bl.take m) = le2 at Hlcut HLd2
      have d5 : (le2 != 0) = true := by simpa using Hlcut.out
      have hm0 : (0 : Int) ≤ (m : Int) := by omega
      have hmc : (m : Int) ≤ (rcap : Int) := by omega
      have hmlN : m ≤ bl.length := by omega
      have hmb : (m : Int) ≤ (bl.length : Int) := by omega
      have Hz6 := hide (show w6.heap.size ≤ w13.heap.size by omega)
      have HB13 : Hid (Below w.heap.size w w13) := HB6.out.trans (Hb613.out.mono (by omega))
      have hzw : w.heap.size ≤ w13.heap.size := by omega
      clear hlcut hdr hb6e HK14 hdi14 hzz hKA2 hrb hBt hLd2
      clear HL HD HP HB HB2 Hb24 Hb2W HBW Hb25 HB5 Hks0 Hlt5 HK6 Hdi6 HB6 Hk6 Hok6 Hrin Hrow7 Hb67 Hrow8 Hb68 Hrow7' hEs hCs Hare HRZ Hfit HEE Hcj Hbi Hrow9 HrowC HOb Hxb Hxc Hby Hcy Hrow13 Hb613 Hb612 Hb611 Hb6d HK10 Hdi10 Hle Hde HBc Hy Hz Hi Hj Hq
      go_region_held3 (fun W' => W'.cell? ⟨w4.heap.size, 0, none⟩ = some (.int .i64 (entsF L)) ∧ W'.cell? ⟨w4.heap.size, 1, none⟩ = some (.slice (some ⟨kb0, koff, none⟩) (kindsF L).length kcap))
        (first | exact ⟨k6, k7⟩ | exact ⟨below_at hb14 (w := w13) k6 (by omega), below_at hb14 (w := w13) k7 (by omega)⟩)
        (first | (go_at_call 10; refine (HPb.out _ _ _ hc hlb _ Hm.out).mono ?_; rintro e' w9 ⟨rfl, rfl⟩) | (go_at_call 16; refine HLd2.out.mono ?_; rintro e' w14 ⟨p2, rfl, hb14', hp2, _⟩; obtain rfl := hp2 Hlcut.out; (have hb14 : Below w13.heap.size w13 w14 := (Below.refl _ _).drew.trans hb14')))
      have HB14 : Hid (Below w.heap.size w w14) := HB13.out.trans (hb14.mono hzw)
      clear hb14 hb14' hp2 HLd2 k6 k7
      go_wp2_with fail
      go_ret
      exact ⟨rfl, HB14.out⟩
end Go.Proofs.Ytndlmgocldckfaa
