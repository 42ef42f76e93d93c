import Derived.Test.YtndlmgocldckfaaGreatG18
import Derived.Test.YtndlmgocldckfaaGreatG17
namespace Go.Proofs.YtndlmgocldckfaaGreat
open Go.RowKit
set_option linter.unusedVariables false
set_option linter.unusedSimpArgs false
set_option maxRecDepth 100000
set_option maxHeartbeats 4000000
theorem numRF_inv : ∀ (l : List Int) (f i : Nat) (acc : Int), (∀ c ∈ l, 0 ≤ c ∧ c < 256) → (numRF f i acc l).2 ≠ 0 →
  ∃ m : Int, 0 ≤ m ∧ (0 < i → 0 < m) ∧ m < 128 ^ f ∧ (numRF f i acc l).1 = acc + m * 128 ^ i ∧ i < (numRF f i acc l).2 ∧ (numRF f i acc l).2 ≤ i + l.length ∧ ∀ k, f ≤ k + 1 → numF k m = l.take ((numRF f i acc l).2 - i)
 | [], f, i, acc, _, h => by cases f <;> simp [numRF] at h
 | c :: l, 0, i, acc, _, h => by simp [numRF] at h
 | c :: l, f + 1, i, acc, hb, h => by
  have hc := hb c (List.mem_cons_self ..)
  rw [numRF] at h ⊢
  by_cases h1 : c = 0 ∧ 0 < i
  ·rw [if_pos h1] at h; simp at h
  rw [if_neg h1] at h ⊢
  by_cases h2 : c < 128
  ·rw [if_pos h2]
   have hp : (0 : Int) < 128 ^ f := Int.pow_pos (by omega)
   refine ⟨c, hc.1, fun hi => by omega, by rw [Int.pow_succ]; omega, by simp only; rw [show c % 128 = c by omega], by simp, by simp, ?_⟩
   intro k hk
   simp only [Nat.add_sub_cancel_left, List.take_succ_cons, List.take_zero]
   cases k with
   | zero => rfl
   | succ k => rw [numF, if_neg (by omega)]
  ·rw [if_neg h2] at h ⊢
   obtain ⟨m, m0, m1, m2, m3, m4, m5, m6⟩ := numRF_inv l f (i + 1) (acc + c % 128 * 128 ^ i) (fun x hx => hb x (List.mem_cons_of_mem _ hx)) h
   have m1 := m1 (by omega)
   refine ⟨c % 128 + m * 128, by omega, fun _ => by omega, ?_, ?_, by omega, by simp only [List.length_cons]; omega, ?_⟩
   ·rw [Int.pow_succ]; omega
   ·rw [m3, Int.pow_succ]
    generalize (128 : Int) ^ i = X
    rw [Int.add_mul, Int.mul_comm X 128, ← Int.mul_assoc]
    omega
   ·intro k hk
    obtain ⟨k', rfl⟩ : ∃ k', k = k' + 1 := by
     cases k with
     | zero =>
      have : f = 0 := by omega
      subst this
      exfalso
      apply h
      cases l <;> rfl
     | succ k' => exact ⟨k', rfl⟩
    rw [numF, if_pos (by omega), show (c % 128 + m * 128) % 128 + 128 = c by omega, show (c % 128 + m * 128) / 128 = m by omega, m6 k' (by omega)]
    generalize (numRF f (i + 1) (acc + c % 128 * 128 ^ i) l).2 = sz at m4 m5
    obtain ⟨d, rfl⟩ : ∃ d, sz = i + 1 + d := ⟨sz - (i + 1), by omega⟩
    rw [show i + 1 + d - i = d + 1 by omega, show i + 1 + d - (i + 1) = d by omega, List.take_succ_cons]
theorem numR_inv {l : List Int} (hb : ∀ c ∈ l, 0 ≤ c ∧ c < 256) (h : (numR l).2 ≠ 0) : 0 ≤ (numR l).1 ∧ l = numB (numR l).1 ++ l.drop (numR l).2 := by
 obtain ⟨m, m0, _, m2, m3, m4, m5, m6⟩ := numRF_inv l 9 0 0 hb h
 unfold numR at *
 rw [m3]
 simp only [Int.pow_zero, Int.mul_one, Int.zero_add]
 refine ⟨m0, ?_⟩
 have := m6 9 (by omega)
 unfold numB
 rw [this, Nat.sub_zero, List.take_append_drop]
theorem readF_inv {low high v : Int} {l l1 : List Int} {f : Bool} (hb : ∀ c ∈ l, 0 ≤ c ∧ c < 256) (h : readF low high l f = (v, l1, false)) : f = false ∧ low ≤ v ∧ v ≤ high ∧ 0 ≤ v ∧ l = numB v ++ l1 := by
 unfold readF at h
 split at h
 ·simp at h
 ·rename_i hn
  simp only [not_or] at hn
  simp only [Prod.mk.injEq, and_true] at h
  obtain ⟨rfl, rfl⟩ := h
  obtain ⟨h1, h2⟩ := numR_inv hb hn.2.1
  exact ⟨by simpa using hn.1, by omega, by omega, h1, h2⟩
theorem readS_inv {v : Int} {l l1 : List Int} {f : Bool} (hb : ∀ c ∈ l, 0 ≤ c ∧ c < 256) (h : readS 1000000000 l f = (v, l1, false)) : f = false ∧ -1000000000 ≤ v ∧ v ≤ 1000000000 ∧ l = sgnB v ++ l1 := by
 unfold readS at h
 rcases hr : readF 0 (2 * 1000000000) l f with ⟨u, l', f'⟩
 rw [hr] at h
 simp only [Prod.mk.injEq] at h
 obtain ⟨rfl, rfl, rfl⟩ := h
 obtain ⟨h1, h2, h3, h4, h5⟩ := readF_inv hb hr
 have hs : sgnI (unsI u) = u ∧ -1000000000 ≤ unsI u ∧ unsI u ≤ 1000000000 := by
  unfold sgnI unsI
  by_cases ho : u % 2 = 1
  ·rw [if_pos ho, if_pos (by omega)]; omega
  ·rw [if_neg ho, if_neg (by omega)]; omega
 exact ⟨h1, hs.2.1, hs.2.2, by rw [sgnB, hs.1]; exact h5⟩
theorem toldRF_inv : ∀ (n : Nat) (l ts l1 : List Int) (f : Bool), (∀ c ∈ l, 0 ≤ c ∧ c < 256) → toldRF n l f = (ts, l1, false) → f = false ∧ ts.length = n ∧ (∀ x ∈ ts, -1000000000 ≤ x ∧ x ≤ 1000000000) ∧ l = ts.flatMap sgnB ++ l1
 | 0, l, ts, l1, f, hb, h => by
  simp only [toldRF, Prod.mk.injEq] at h
  obtain ⟨rfl, rfl, rfl⟩ := h
  simp
 | n + 1, l, ts, l1, f, hb, h => by
  rcases hr : readS 1000000000 l f with ⟨v, l', f'⟩
  rcases ht : toldRF n l' f' with ⟨ts', l2, f2⟩
  simp only [toldRF, hr, ht, Prod.mk.injEq] at h
  obtain ⟨rfl, rfl, rfl⟩ := h
  have hb' : ∀ c ∈ l', 0 ≤ c ∧ c < 256 := by
   intro c hc
   refine hb c ?_
   unfold readS at hr
   simp only [Prod.mk.injEq] at hr
   unfold readF at hr
   split at hr
   ·simp at hr; rw [hr.2.1]; exact hc
   ·simp only [Prod.mk.injEq] at hr; rw [← hr.2.1] at hc; exact List.mem_of_mem_drop hc
  obtain ⟨rfl, q1, q2, q3⟩ := toldRF_inv n l' ts' l2 f' hb' ht
  obtain ⟨rfl, r1, r2, r3⟩ := readS_inv hb hr
  refine ⟨rfl, by simp [q1], ?_, ?_⟩
  ·intro x hx
   rcases List.mem_cons.1 hx with rfl | hx
   ·exact ⟨r1, r2⟩
   ·exact q2 x hx
  ·rw [r3, q3]; simp
theorem readF_bytes {low high : Int} {l : List Int} {f : Bool} (hb : ∀ c ∈ l, 0 ≤ c ∧ c < 256) : ∀ c ∈ (readF low high l f).2.1, 0 ≤ c ∧ c < 256 := by
 intro c hc
 refine hb c ?_
 unfold readF at hc
 split at hc
 ·exact hc
 ·exact List.mem_of_mem_drop hc
theorem recRF_inv {t : Int} {l l1 : List Int} {f : Bool} {r : Rec} (ht : 0 ≤ t) (hb : ∀ c ∈ l, 0 ≤ c ∧ c < 256) (h : recRF t l f = (r, l1, false)) : f = false ∧ recOkF t r = true ∧ l = recOne t r ++ l1 := by
 unfold recRF at h
 have b1 : ∀ c ∈ (readF 0 (1000000000000 - t) l f).2.1, 0 ≤ c ∧ c < 256 := readF_bytes hb
 rcases e1 : readF 0 (1000000000000 - t) l f with ⟨v1, m1, f1⟩
 rw [e1] at h b1
 simp only at h b1
 have b2 : ∀ c ∈ (readF 0 1000000000 m1 f1).2.1, 0 ≤ c ∧ c < 256 := readF_bytes b1
 rcases e2 : readF 0 1000000000 m1 f1 with ⟨v2, m2, f2⟩
 rw [e2] at h b2
 simp only at h b2
 have b3 : ∀ c ∈ (readF 0 7 m2 f2).2.1, 0 ≤ c ∧ c < 256 := readF_bytes b2
 rcases e3 : readF 0 7 m2 f2 with ⟨v3, m3, f3⟩
 rw [e3] at h b3
 simp only at h b3
 have b4 : ∀ c ∈ (readF 0 7 m3 f3).2.1, 0 ≤ c ∧ c < 256 := readF_bytes b3
 rcases e4 : readF 0 7 m3 f3 with ⟨v4, m4, f4⟩
 rw [e4] at h b4
 simp only at h b4
 have b5 : ∀ c ∈ (readF 0 16 m4 f4).2.1, 0 ≤ c ∧ c < 256 := readF_bytes b4
 rcases e5 : readF 0 16 m4 f4 with ⟨v5, m5, f5⟩
 rw [e5] at h b5
 simp only at h b5
 rcases e6 : toldRF v5.toNat m5 f5 with ⟨ts, m6, f6⟩
 rw [e6] at h
 simp only [Prod.mk.injEq] at h
 obtain ⟨rfl, rfl, rfl⟩ := h
 obtain ⟨rfl, q1, q2, q3⟩ := toldRF_inv _ _ _ _ _ b5 e6
 obtain ⟨rfl, r1, r2, r3, r4⟩ := readF_inv b4 e5
 obtain ⟨rfl, s1, s2, s3, s4⟩ := readF_inv b3 e4
 obtain ⟨rfl, t1, t2, t3, t4⟩ := readF_inv b2 e3
 obtain ⟨rfl, u1, u2, u3, u4⟩ := readF_inv b1 e2
 obtain ⟨rfl, w1, w2, w3, w4⟩ := readF_inv hb e1
 refine ⟨rfl, ?_, ?_⟩
 ·simp only [recOkF, inB, valsF, Bool.and_eq_true, decide_eq_true_eq, List.all_eq_true]
  exact ⟨by omega, by omega, by omega, by omega, by omega, q2⟩
 ·simp only [recOne]
  rw [w4, u4, t4, s4, r4, q3, show t + v1 - t = v1 by omega, show (ts.length : Int) = v5 by omega]
  simp
theorem recRF_bytes {t : Int} {l : List Int} {f : Bool} (hb : ∀ c ∈ l, 0 ≤ c ∧ c < 256) : ∀ c ∈ (recRF t l f).2.1, 0 ≤ c ∧ c < 256 := by
 have ht : ∀ (n : Nat) (l : List Int) (f : Bool), (∀ c ∈ l, 0 ≤ c ∧ c < 256) → ∀ c ∈ (toldRF n l f).2.1, 0 ≤ c ∧ c < 256 := by
  intro n
  induction n with
  | zero => intro l f h; exact h
  | succ n ih =>
   intro l f h
   simp only [toldRF]
   refine ih _ _ ?_
   unfold readS
   exact readF_bytes h
 unfold recRF
 exact ht _ _ _ (readF_bytes (readF_bytes (readF_bytes (readF_bytes (readF_bytes hb)))))
theorem recsRF_inv : ∀ (n : Nat) (t : Int) (l l1 : List Int) (f : Bool) (rs : List Rec), 0 ≤ t → (∀ c ∈ l, 0 ≤ c ∧ c < 256) → recsRF n t l f = (rs, l1, false) → f = false ∧ rs.length = n ∧ recsOkF t rs = true ∧ l = recB t rs ++ l1
 | 0, t, l, l1, f, rs, ht, hb, h => by
  simp only [recsRF, Prod.mk.injEq] at h
  obtain ⟨rfl, rfl, rfl⟩ := h
  simp [recsOkF, recB]
 | n + 1, t, l, l1, f, rs, ht, hb, h => by
  have hb' : ∀ c ∈ (recRF t l f).2.1, 0 ≤ c ∧ c < 256 := recRF_bytes hb
  have htt : t ≤ (recRF t l f).1.e.time := by
   have := readF_le 0 (1000000000000 - t) (by omega) l f
   simp only [recRF]
   omega
  rcases hr : recRF t l f with ⟨r, l', f'⟩
  rw [hr] at hb' htt
  simp only at hb' htt
  rcases hs : recsRF n r.e.time l' f' with ⟨rs', l2, f2⟩
  simp only [recsRF, hr, hs, Prod.mk.injEq] at h
  obtain ⟨rfl, rfl, rfl⟩ := h
  obtain ⟨rfl, q1, q2, q3⟩ := recsRF_inv n r.e.time l' l2 f' rs' (by omega) hb' hs
  obtain ⟨rfl, p1, p2⟩ := recRF_inv ht hb hr
  exact ⟨rfl, by simp [q1], by simp [recsOkF, p1, q2], by rw [p2, q3, recB]; simp⟩
theorem decRF_inv {l : List Int} (hb : ∀ c ∈ l, 0 ≤ c ∧ c < 256) (h : decOk l = true) : areF (decRF l).1 = true ∧ encT (decRF l).1 = l := by
 unfold decOk at h
 simp only [Bool.and_eq_true, Bool.not_eq_true', List.isEmpty_iff] at h
 obtain ⟨h1, h2⟩ := h
 have hb1 : ∀ c ∈ (readF 0 1000 l false).2.1, 0 ≤ c ∧ c < 256 := readF_bytes hb
 unfold decRF at *
 rcases e1 : readF 0 1000 l false with ⟨v, l1, f1⟩
 rw [e1] at h1 h2 hb1
 simp only at h1 h2 hb1 ⊢
 rcases e2 : recsRF v.toNat 0 l1 f1 with ⟨rs, l2, f2⟩
 rw [e2] at h1 h2
 simp only at h1 h2 ⊢
 subst h1 h2
 obtain ⟨rfl, q1, q2, q3⟩ := recsRF_inv _ _ _ _ _ _ (by omega) hb1 e2
 obtain ⟨_, r1, r2, r3, r4⟩ := readF_inv hb e1
 refine ⟨?_, ?_⟩
 ·simp only [areF, Bool.and_eq_true, decide_eq_true_eq]
  exact ⟨by omega, q2⟩
 ·unfold encT
  rw [r4, q3, show (rs.length : Int) = v by omega]
  simp
theorem dec_enc {l : List Int} (hb : ∀ c ∈ l, 0 ≤ c ∧ c < 256) (h : decE l = 0) : areF (decRF (openL l)).1 = true ∧ encF (decRF (openL l)).1 = l := by
 unfold decE at h
 by_cases h0 : openE [84, 77, 82, 1] l = 0
 rotate_left
 ·rw [if_pos h0] at h; exact absurd h h0
 rw [if_neg (by simpa using h0)] at h
 have hok : decOk (openL l) = true := by
  rcases hd : decOk (openL l) with _ | _
  ·rw [hd] at h; simp at h
  ·rfl
 obtain ⟨h1, h2⟩ := decRF_inv (fun c hc => hb c (by unfold openL at hc; exact List.mem_of_mem_take (List.mem_of_mem_drop hc))) hok
 refine ⟨h1, ?_⟩
 unfold openE at h0
 by_cases a1 : l.length < 8 ∨ l.take 4 ≠ [84, 77, 82, 1]
 ·rw [if_pos a1] at h0; simp at h0
 rw [if_neg a1] at h0
 by_cases a2 : l.drop (l.length - 4) ≠ sumB (l.take (l.length - 4))
 ·rw [if_pos a2] at h0; simp at h0
 simp only [not_or, Nat.not_lt, ne_eq, Decidable.not_not] at a1 a2
 have hh : encH (decRF (openL l)).1 = l.take (l.length - 4) := by
  unfold encH
  rw [h2, openL, ← a1.2]
  have e4 : l.take 4 = (l.take (l.length - 4)).take 4 := by rw [List.take_take, Nat.min_eq_left (by omega)]
  rw [e4, List.take_append_drop]
 unfold encF
 rw [hh, ← a2, List.take_append_drop]
theorem toldRF_sgnB : ∀ (ts : List Int) (rest : List Int), (∀ x ∈ ts, -1000000000 ≤ x ∧ x ≤ 1000000000) → toldRF ts.length (ts.flatMap sgnB ++ rest) false = (ts, rest, false)
 | [], rest, _ => by simp [toldRF]
 | x :: ts, rest, h => by
  have h1 := readS_sgnB (h x (List.mem_cons_self ..)) (ts.flatMap sgnB ++ rest)
  have h2 := toldRF_sgnB ts rest (fun y hy => h y (List.mem_cons_of_mem _ hy))
  simp only [List.length_cons, List.flatMap_cons, List.append_assoc, toldRF]
  rw [h1]
  simp only
  rw [h2]
theorem recRF_recOne {t : Int} {r : Rec} (ht : 0 ≤ t) (h : recOkF t r = true) (rest : List Int) : recRF t (recOne t r ++ rest) false = (r, rest, false) := by
 obtain ⟨⟨o1, o2, o3, o4, o5, o6⟩, o7⟩ := recOkF_iff h
 unfold recRF recOne
 simp only [List.append_assoc]
 rw [readF_numB (by omega) (by omega)]
 simp only
 rw [readF_numB (by omega) (by omega)]
 simp only
 rw [readF_numB (by omega) (by omega)]
 simp only
 rw [readF_numB (by omega) (by omega)]
 simp only
 rw [readF_numB (by omega) (by omega)]
 simp only [Int.toNat_natCast]
 rw [toldRF_sgnB r.told rest o6]
 simp only
 rw [show t + (r.e.time - t) = r.e.time by omega]
theorem recsRF_recB : ∀ (rs : List Rec) (t : Int) (rest : List Int), 0 ≤ t → recsOkF t rs = true → recsRF rs.length t (recB t rs ++ rest) false = (rs, rest, false)
 | [], t, rest, _, _ => by simp [recsRF, recB]
 | r :: rs, t, rest, ht, h => by
  simp only [recsOkF, Bool.and_eq_true] at h
  have h1 := recRF_recOne ht h.1 (recB r.e.time rs ++ rest)
  have h2 := recsRF_recB rs r.e.time rest (by have := (recOkF_iff h.1).2; omega) h.2
  simp only [List.length_cons, recB, List.append_assoc, recsRF]
  rw [h1]
  simp only
  rw [h2]
theorem decRF_encT {rs : List Rec} (h : areF rs = true) : decRF (encT rs) = (rs, [], false) := by
 obtain ⟨h1, h2⟩ := areF_len h
 unfold decRF encT
 rw [readF_numB (by omega) (by omega)]
 simp only [Int.toNat_natCast]
 have := recsRF_recB rs 0 [] (by omega) h2
 simpa using this
theorem enc_dec {rs : List Rec} (h : areF rs = true) : decE (encF rs) = 0 ∧ (decRF (openL (encF rs))).1 = rs := by
 have e1 : openL (encF rs) = encT rs := openL_ok [84, 77, 82, 1] (encT rs) rfl
 have e2 : openE [84, 77, 82, 1] (encF rs) = 0 := openE_ok [84, 77, 82, 1] (encT rs) rfl
 unfold decE
 rw [e1, e2, decRF_encT h]
 simp [decOk, decRF_encT h]
theorem lenF_numF (rest : List Int) : ∀ (k : Nat) (m n p : Int) (f : Nat), 0 ≤ m → m < 128 ^ (k + 1) → k + 1 ≤ f → lenF f n p (numF k m ++ rest) = (n + m * p, rest, true)
 | 0, m, n, p, f, h0, h1, hf => by
  obtain ⟨f', rfl⟩ : ∃ f', f = f' + 1 := ⟨f - 1, by omega⟩
  simp only [Nat.zero_add, Int.pow_succ, Int.pow_zero, Int.one_mul] at h1
  simp only [numF, List.cons_append, List.nil_append, lenF]
  rw [if_pos (by omega), show m % 128 = m by omega]
 | k + 1, m, n, p, f, h0, h1, hf => by
  obtain ⟨f', rfl⟩ : ∃ f', f = f' + 1 := ⟨f - 1, by omega⟩
  by_cases hm : 127 < m
  ·rw [numF, if_pos hm, List.cons_append, lenF, if_neg (by omega)]
   rw [Int.pow_succ] at h1
   rw [lenF_numF rest k (m / 128) _ _ f' (by omega) (by omega) (by omega), show (m % 128 + 128) % 128 = m % 128 by omega]
   have hx : n + m % 128 * p + m / 128 * (p * 128) = n + m * p := by
    have h2 : m = m / 128 * 128 + m % 128 := by omega
    have h3 : m * p = (m / 128 * 128 + m % 128) * p := by rw [← h2]
    rw [h3, Int.add_mul, Int.mul_assoc, Int.mul_comm 128 p]
    omega
   rw [hx]
  ·rw [numF, if_neg hm]
   simp only [List.cons_append, List.nil_append, lenF]
   rw [if_pos (by omega), show m % 128 = m by omega]
theorem numB_six {v : Int} (h : 0 ≤ v ∧ v < 562949953421312) : numB v = numF 6 v := by
 unfold numB
 rw [numF_down 8 v h.1 (by simp; omega), numF_down 7 v h.1 (by simp; omega), numF_down 6 v h.1 (by simp; omega)]
theorem numL_numB {lo hi v : Int} (h : lo ≤ v ∧ v ≤ hi) (hv : 0 ≤ v ∧ v < 562949953421312) (rest : List Int) : numL lo hi (numB v ++ rest) false = (v, rest, false) := by
 unfold numL
 rw [numB_six hv, lenF_numF rest 6 v 0 1 7 hv.1 (by simpa using hv.2) (by omega)]
 have : inB v lo hi = true := by simp [inB]; omega
 simp [this]
theorem sgnL_sgnB {n : Int} (h : -1000000000 ≤ n ∧ n ≤ 1000000000) (rest : List Int) : sgnL (sgnB n ++ rest) false = (n, rest, false) := by
 have hs : 0 ≤ sgnI n ∧ sgnI n ≤ 2000000000 := by unfold sgnI; split <;> omega
 unfold sgnL sgnB
 rw [numL_numB hs (by omega)]
 have : unsI (sgnI n) = n := by
  unfold unsI sgnI
  by_cases h0 : n < 0
  ·rw [if_pos h0, if_pos (by omega)]; omega
  ·rw [if_neg h0, if_neg (by omega)]; omega
 rw [this]
def toldL : Nat → List Int → Bool → List Int × List Int × Bool
 | 0, l, bad => ([], l, bad)
 | n + 1, l, bad => if bad then ([], l, true) else ((sgnL l bad).1 :: (toldL n (sgnL l bad).2.1 (sgnL l bad).2.2).1, (toldL n (sgnL l bad).2.1 (sgnL l bad).2.2).2)
def recL (t : Int) (l : List Int) (bad : Bool) : Rec × List Int × Bool :=
 let a := numL 0 1000000000000 l bad
 let b := numL 0 1000000000 a.2.1 a.2.2
 let c := numL 0 7 b.2.1 b.2.2
 let d := numL 0 7 c.2.1 c.2.2
 let n := numL 0 16 d.2.1 d.2.2
 let ts := toldL n.1.toNat n.2.1 n.2.2
 (⟨⟨t + a.1, b.1, c.1, d.1⟩, ts.1⟩, ts.2)
def recsL : Nat → Int → List Int → Bool → List Rec × List Int × Bool
 | 0, _, l, bad => ([], l, bad)
 | n + 1, t, l, bad => if bad then ([], l, true) else ((recL t l bad).1 :: (recsL n (recL t l bad).1.e.time (recL t l bad).2.1 (recL t l bad).2.2).1, (recsL n (recL t l bad).1.e.time (recL t l bad).2.1 (recL t l bad).2.2).2)
def decL (l : List Int) : List Rec × List Int × Bool := recsL (numL 0 1000 l false).1.toNat 0 (numL 0 1000 l false).2.1 (numL 0 1000 l false).2.2
def decN (l : List Int) : Int := if openE [84, 77, 82, 1] l ≠ 0 then openE [84, 77, 82, 1] l else if (decL (openL l)).2.2 then 4 else if areF (decL (openL l)).1 && decide (encF (decL (openL l)).1 = l) then 0 else 4
theorem toldL_sgnB : ∀ (ts rest : List Int), (∀ x ∈ ts, -1000000000 ≤ x ∧ x ≤ 1000000000) → toldL ts.length (ts.flatMap sgnB ++ rest) false = (ts, rest, false)
 | [], rest, _ => rfl
 | x :: ts, rest, h => by
  have ih := toldL_sgnB ts rest (fun y hy => h y (List.mem_cons_of_mem _ hy))
  simp only [List.length_cons, toldL, List.flatMap_cons, List.append_assoc, Bool.false_eq_true, if_false]
  rw [sgnL_sgnB (h x (by simp))]
  simp only [ih]
theorem recL_recOne {t : Int} {r : Rec} (ht : 0 ≤ t) (h : recOkF t r = true) (rest : List Int) : recL t (recOne t r ++ rest) false = (r, rest, false) := by
 obtain ⟨⟨o1, o2, o3, o4, o5, o6⟩, o7⟩ := recOkF_iff h
 obtain ⟨⟨r1, r2, r3, r4⟩, l⟩ := r
 simp only at o1 o2 o3 o4 o5 o6 o7
 unfold recL recOne
 simp only [List.append_assoc]
 rw [numL_numB (by omega) (by omega)]
 simp only
 rw [numL_numB (by omega) (by omega)]
 simp only
 rw [numL_numB (by omega) (by omega)]
 simp only
 rw [numL_numB (by omega) (by omega)]
 simp only
 rw [numL_numB (by omega) (by omega)]
 simp only [Int.toNat_natCast]
 rw [toldL_sgnB l rest o6]
 simp only [Prod.mk.injEq, Rec.mk.injEq, Ev.mk.injEq, and_true, true_and]
 omega
theorem recsL_recB : ∀ (rs : List Rec) (t : Int) (rest : List Int), 0 ≤ t → recsOkF t rs = true → recsL rs.length t (recB t rs ++ rest) false = (rs, rest, false)
 | [], t, rest, _, _ => rfl
 | r :: rs, t, rest, ht, h => by
  simp only [recsOkF, Bool.and_eq_true] at h
  have ho := recOkF_iff h.1
  have ih := recsL_recB rs r.e.time rest (by omega) h.2
  simp only [List.length_cons, recsL, recB, List.append_assoc, Bool.false_eq_true, if_false]
  rw [recL_recOne ht h.1]
  simp only [ih]
theorem decL_encT {rs : List Rec} (h : areF rs = true) : decL (encT rs) = (rs, [], false) := by
 obtain ⟨h1, h2⟩ := areF_len h
 unfold decL encT
 rw [numL_numB (by omega) (by omega)]
 simp only [Int.toNat_natCast]
 have := recsL_recB rs 0 [] (by omega) h2
 rwa [List.append_nil] at this
theorem decN_eq {l : List Int} (hb : ∀ c ∈ l, 0 ≤ c ∧ c < 256) : decN l = decE l ∧ (decE l = 0 → (decL (openL l)).1 = (decRF (openL l)).1) := by
 by_cases h0 : decE l = 0
 ·obtain ⟨e1, e2⟩ := dec_enc hb h0
  have ho : openE [84, 77, 82, 1] l = 0 := by
   unfold decE at h0
   split at h0
   ·exact h0
   ·simp_all
  have hL : openL l = encT (decRF (openL l)).1 := by
   have := openL_ok [84, 77, 82, 1] (encT (decRF (openL l)).1) rfl
   rw [← this]
   exact congrArg openL e2.symm
  have hd := decL_encT e1
  rw [← hL] at hd
  refine ⟨?_, fun _ => by rw [hd]⟩
  rw [h0]
  unfold decN
  rw [if_neg (by simp [ho]), hd]
  simp [e1, e2]
 ·refine ⟨?_, fun h => absurd h h0⟩
  unfold decN decE at *
  by_cases ho : openE [84, 77, 82, 1] l ≠ 0
  ·rw [if_pos ho, if_pos ho]
  ·rw [if_neg ho] at h0 ⊢
   rw [if_neg ho]
   have hk : decOk (openL l) = false := by
    rcases hk : decOk (openL l) with _ | _
    ·rfl
    ·rw [hk] at h0; simp at h0
   rw [hk]
   simp only [Bool.false_eq_true, if_false]
   split
   ·rfl
   ·split
    ·rename_i hx
     simp only [Bool.and_eq_true, decide_eq_true_eq] at hx
     have := (enc_dec hx.1).1
     rw [hx.2] at this
     unfold decE at this
     rw [if_neg ho, hk] at this
     simp at this
    ·rfl
end Go.Proofs.YtndlmgocldckfaaGreat
