import Derived.Test.YtndlmgocldckfaaGreatG35
import Derived.Test.YtndlmgocldckfaaGreatG32
namespace Go.Proofs.YtndlmgocldckfaaGreat
open Go.RowKit
set_option linter.unusedVariables false
set_option linter.unusedSimpArgs false
set_option maxRecDepth 100000
set_option maxHeartbeats 4000000
def loadE (E nk dl : Nat) (l : List Int) : Int := if openE [84, 77, 80, 1] l ≠ 0 then openE [84, 77, 80, 1] l else if kerOk E nk dl (openL l) then 0 else 4
theorem load_any (E : Nat) (b off cap : Nat) (dv : Value) (ks : List (List Ins)) (draws : List Int) (ba : Option Addr) (bcap : Nat) (l : List Int) (w : World) (hl : ks.length ≤ 8) (hbw : b < w.heap.size) (hK : KindsAt w.heap.size w b off ks) (hd : IntsIn (· < w.heap.size) w dv draws) (hk : kindF (E : Int) ks = none) (hD : drawsF draws = true) (he : 1 ≤ E ∧ E ≤ 8) (hdl : draws.length ≤ 1000) (hB : BytesV w ba bcap l) :
  Calls Tryz.prog 31 #[.agg #[.int .i64 (E : Int), .slice (some ⟨b, off, none⟩) ks.length cap], dv, .slice ba l.length bcap] w fun e w' => ∃ p, e = .returned (.tuple #[.pointer p, .int .i64 (loadE E ks.length draws.length l)]) ∧ Below w.heap.size w w' ∧ (loadE E ks.length draws.length l ≠ 0 → p = none) ∧
   (loadE E ks.length draws.length l = 0 → ∃ kb qb mb ov R base, p = some ⟨kb, 0, none⟩ ∧ (w.heap.size ≤ base ∧ base ≤ w'.heap.size) ∧ (∀ x, KSet kb qb mb ov x → base ≤ x) ∧ (∀ x, R x → base ≤ x) ∧ KerP R base w' kb qb mb ov (E : Int) ks draws (kerRF E ks.length draws.length (openL l)).2.1) := by
 have HB := hide hB
 have HD := hide hd
 have HKA := hide hK
 have Hk := hide hk
 have HE : Hid (loadE E ks.length draws.length l = if openE [84, 77, 80, 1] l ≠ 0 then openE [84, 77, 80, 1] l else if kerOk E ks.length draws.length (openL l) then 0 else 4) := by show _ = _; rfl
 clear hB hd hK hk
 go_enter Tryz.func31, Tryz.ntmps31
 go_wp2_with fail
 obtain ⟨W0, hW0⟩ : ∃ W0, W0 = w.alloc (.cells #[.int .i64 (E : Int), .slice (some ⟨b, off, none⟩) ks.length cap] 38) := ⟨_, rfl⟩
 have hb0 : Below w.heap.size w W0 := by rw [hW0]; exact (Below.refl _ _).alloc (Nat.le_refl _) _
 have hz0 : W0.heap.size = w.heap.size + 1 := by rw [hW0]; simp
 rw [← hW0]
 clear hW0
 have hd0 : IntsIn (· < W0.heap.size) W0 dv draws := (HD.out.only (Only.new (S := fun _ => False) hb0) (by simp)).mono (fun x hx => by omega)
 refine (tNew_yes (E : Int) b off cap dv ks draws W0 (by omega) (by omega) ((HKA.out.below hb0 hbw (Nat.le_refl _)).mono (by omega)) hd0 Hk.out hD).mono ?_
 rintro e w1 ⟨kb, qb, mb, rfl, hb1, h1k, h1q, h1m, hP1⟩
 have hz1 := hb1.size
 have HB1 : Hid (Below w.heap.size w w1) := hb0.trans (hb1.mono (by omega))
 obtain ⟨R, hR⟩ : ∃ R : Nat → Prop, R = fun x => W0.heap.size ≤ x ∧ x < w1.heap.size ∧ x ≠ kb ∧ x ≠ qb ∧ x ≠ mb := ⟨_, rfl⟩
 rw [← hR] at hP1
 have HP1 := hide hP1
 have HRr : Hid (∀ x, R x → W0.heap.size ≤ x ∧ x < w1.heap.size) := by rw [hR]; intro x hx; exact ⟨hx.1, hx.2.1⟩
 clear hb0 hb1 hd0 hP1 hR
 go_wp2_with fail
 refine (openAny ba bcap [84, 77, 80, 1] l w1 (HB.out.below HB1.out) _ ?_ rfl (by intro b hb; simp at hb; omega)).mono ?_
 ·rfl
 rintro e w2 ⟨p, rfl, hb2, hp1, hp2⟩
 have hz2 := hb2.size
 have HB2 : Hid (Below w.heap.size w w2) := HB1.out.trans (hb2.mono (by omega))
 by_cases h0 : openE [84, 77, 80, 1] l = 0
 ·obtain ⟨rb, g, rfl, h2r, h2g, hrd⟩ := hp2 h0
  rw [h0] at HE ⊢
  simp only [ne_eq, not_true_eq_false, if_false] at HE
  have hKlt := HP1.out.lt
  have hgw : g < w.heap.size := by
   obtain ⟨off', e⟩ := h2g
   have hB := HB.out
   rw [e] at hB
   exact hB.glt (openE_zero h0).1
  have hLd : LdR R W0.heap.size w2 w2 kb qb mb rb g (.slice none 0 0) (.slice none 0 0) (E : Int) ks draws ks0 (openL l) false := by
   refine ⟨HP1.out.below hb2, hrd, fun hc => by have := hKlt _ hc; omega, ?_, fun hc => by have := (HRr.out _ hc).2; omega, Only.refl _ _, .inl rfl, by omega⟩
   rintro (hc | hc | hc | hc)
   ·omega
   ·omega
   ·omega
   ·simp [Value.ownBlock] at hc
  have HLd := hide hLd
  clear hrd hb2 hLd hp1 hp2
  go_wp2_with fail
  have HRD : Hid (Calls Tryz.prog 65 #[.pointer (some ⟨kb, 0, none⟩), .pointer (some ⟨rb, 0, none⟩)] w2 fun e w' => e = .returned (.bool (kerOk E ks.length draws.length (openL l))) ∧ ∃ ov', LdR R W0.heap.size w2 w' kb qb mb rb g (.slice none 0 0) ov' (E : Int) ks draws (kerRF E ks.length draws.length (openL l)).2.1 (kerRF E ks.length draws.length (openL l)).2.2.1 (kerRF E ks.length draws.length (openL l)).2.2.2) :=
   read_any kb qb mb rb g (.slice none 0 0) E ks draws (openL l) w2 ks0 HLd.out he hl hdl rfl _ _ _ _ _ _ _ _ _ _ _ _ _ _ _ _ _ _ _ _ _ _ rfl rfl rfl rfl rfl rfl rfl
  refine HRD.out.mono ?_
  rintro e w3 ⟨rfl, ov3, hL3⟩
  have hz3 := hL3.only.size
  have HB3 : Hid (Below w.heap.size w w3) := HB2.out.trans (hL3.only.below (by omega) (fun k hk hc => by
   rcases hc with (hc | hc | hc | hc) | hc
   ·omega
   ·omega
   ·omega
   ·simp [Value.ownBlock] at hc
   ·omega))
  have Hmv : Hid (∀ x, KSet kb qb mb ov3 x → W0.heap.size ≤ x) := by
   rintro x (hc | hc | hc | hc)
   ·omega
   ·omega
   ·omega
   ·rcases hL3.moved with e | ⟨g', e, hg'⟩
    ·rw [e] at hc; simp [Value.ownBlock] at hc
    ·rw [e] at hc; simp at hc; omega
  have HK3 := hide hL3.ker
  clear hL3 HRD
  rcases hok : kerOk E ks.length draws.length (openL l) with _ | _
  ·have hE : loadE E ks.length draws.length l = 4 := by rw [HE.out, hok]; rfl
   go_wp2_with fail
   go_ret2
   rw [hE]
   exact ⟨_, rfl, HB3.out, fun _ => rfl, fun h => by cases h⟩
  ·have hE : loadE E ks.length draws.length l = 0 := by rw [HE.out, hok]; rfl
   go_wp2_with fail
   go_ret2
   rw [hE]
   exact ⟨_, rfl, HB3.out, fun h => absurd rfl h, fun _ => ⟨kb, qb, mb, ov3, R, W0.heap.size, rfl, by omega, Hmv.out, fun x hx => (HRr.out x hx).1, HK3.out⟩⟩
 ·obtain rfl := hp1 h0
  have d0 : (openE [84, 77, 80, 1] l != 0) = true := by simpa using h0
  have hE : loadE E ks.length draws.length l = openE [84, 77, 80, 1] l := by rw [HE.out, if_pos h0]
  have HE2 := hide hE
  clear hp1 hp2 hb2 HE hE
  go_wp2_with fail
  go_ret2
  rw [HE2.out]
  exact ⟨_, rfl, HB2.out, fun _ => rfl, fun h => absurd h h0⟩
theorem kerRF_body (E : Nat) (ks : List (List Ins)) (draws : List Int) (s : KS) (hl : ks.length ≤ 8) (hfit : Fit (E : Int) ks draws s) (hz : RegZ (E : Int) s) (he : 1 ≤ E ∧ E ≤ 8) (hdl : draws.length ≤ 1000) : kerRF E ks.length draws.length (bodyF (E : Int) ks.length s) = (true, s, [], false) := by
 obtain ⟨hok, hso, hdi⟩ := hfit
 obtain ⟨k1, k2, k3, k4, k5, k6⟩ := hok
 have E0 : bodyF (E : Int) ks.length s = numB (E : Int) ++ (numB (ks.length : Int) ++ (numB s.clock ++ (numB s.next ++ (numB (s.taken : Int) ++ (regB s (E * 4) ++ (numB (s.q.length : Int) ++ evB s.clock s.q)))))) := by
  unfold bodyF
  rw [Int.toNat_natCast]
 have e6 : regRF (E * 4) ks0.regs 0 (regB s (E * 4) ++ (numB (s.q.length : Int) ++ evB s.clock s.q)) false = (s.regs, numB (s.q.length : Int) ++ evB s.clock s.q, false) := by
  have := regRF_regB s.regs k4 (numB (s.q.length : Int) ++ evB s.clock s.q) (E * 4) ks0.regs 0
  unfold regB
  rw [List.range_eq_range', this]
  refine Prod.ext ?_ rfl
  funext j
  simp only [Nat.zero_le, true_and, Nat.zero_add]
  split
  ·rfl
  ·exact (hz j (by simp; omega)).symm
 have e7 : queueRF (E : Int) ks.length s.next s.clock [] (numB (s.q.length : Int) ++ evB s.clock s.q) false = (true, s.q, [], false) := by
  unfold queueRF
  rw [readF_numB (by omega) (by omega)]
  simp only [Int.toNat_natCast]
  have := queRF_evB (ents := (E : Int)) (nk := ks.length) (next := s.next) (by omega) hl k3.2 [] s.q [] s.clock 0 (by simpa using hso) (by simpa using hdi) (fun e he' => by
   have := k5 e he'
   exact ⟨by omega, by omega, by omega, by omega⟩) k2.1 (by omega) (fun e he' => by have := k5 e he'; exact ⟨this.1, fun _ => by omega⟩)
  simpa using this
 unfold kerRF
 rw [E0, readF_numB (by omega) (by omega)]
 simp only
 rw [readF_numB (by omega) (by omega)]
 simp only
 rw [readF_numB (by omega) (by omega)]
 simp only
 rw [readF_numB (by omega) (by omega)]
 simp only
 rw [readF_numB (by omega) (by omega)]
 simp only
 rw [e6]
 simp only
 rw [e7]
 simp
theorem numRF_inv : ∀ (l : List Int) (f i : Nat) (acc : Int), (∀ c ∈ l, 0 ≤ c ∧ c < 256) → (numRF f i acc l).2 ≠ 0 →
  ∃ m : Int, 0 ≤ m ∧ (0 < i → 0 < m) ∧ m < 128 ^ f ∧ (numRF f i acc l).1 = acc + m * 128 ^ i ∧ i < (numRF f i acc l).2 ∧ (numRF f i acc l).2 ≤ i + l.length ∧ ∀ k, f ≤ k + 1 → numF k m = l.take ((numRF f i acc l).2 - i)
 | [], f, i, acc, _, h => by cases f <;> simp [numRF] at h
 | c :: l, 0, i, acc, _, h => by simp [numRF] at h
 | c :: l, f + 1, i, acc, hb, h => by
  have hc := hb c (List.mem_cons_self ..)
  rw [numRF] at h ⊢
  by_cases h1 : c = 0 ∧ 0 < i
  ·rw [if_pos h1] at h; simp at h
  rw [if_neg h1] at h ⊢
  by_cases h2 : c < 128
  ·rw [if_pos h2]
   have hp : (0 : Int) < 128 ^ f := Int.pow_pos (by omega)
   refine ⟨c, hc.1, fun hi => by omega, by rw [Int.pow_succ]; omega, by simp only; rw [show c % 128 = c by omega], by simp, by simp, ?_⟩
   intro k hk
   simp only [Nat.add_sub_cancel_left, List.take_succ_cons, List.take_zero]
   cases k with
   | zero => rfl
   | succ k => rw [numF, if_neg (by omega)]
  ·rw [if_neg h2] at h ⊢
   obtain ⟨m, m0, m1, m2, m3, m4, m5, m6⟩ := numRF_inv l f (i + 1) (acc + c % 128 * 128 ^ i) (fun x hx => hb x (List.mem_cons_of_mem _ hx)) h
   have m1 := m1 (by omega)
   refine ⟨c % 128 + m * 128, by omega, fun _ => by omega, ?_, ?_, by omega, by simp only [List.length_cons]; omega, ?_⟩
   ·rw [Int.pow_succ]; omega
   ·rw [m3, Int.pow_succ]
    generalize (128 : Int) ^ i = X
    rw [Int.add_mul, Int.mul_comm X 128, ← Int.mul_assoc]
    omega
   ·intro k hk
    obtain ⟨k', rfl⟩ : ∃ k', k = k' + 1 := by
     cases k with
     | zero =>
      have : f = 0 := by omega
      subst this
      exfalso
      apply h
      cases l <;> rfl
     | succ k' => exact ⟨k', rfl⟩
    rw [numF, if_pos (by omega), show (c % 128 + m * 128) % 128 + 128 = c by omega, show (c % 128 + m * 128) / 128 = m by omega, m6 k' (by omega)]
    generalize (numRF f (i + 1) (acc + c % 128 * 128 ^ i) l).2 = sz at m4 m5
    obtain ⟨d, rfl⟩ : ∃ d, sz = i + 1 + d := ⟨sz - (i + 1), by omega⟩
    rw [show i + 1 + d - i = d + 1 by omega, show i + 1 + d - (i + 1) = d by omega, List.take_succ_cons]
theorem numR_inv {l : List Int} (hb : ∀ c ∈ l, 0 ≤ c ∧ c < 256) (h : (numR l).2 ≠ 0) : 0 ≤ (numR l).1 ∧ l = numB (numR l).1 ++ l.drop (numR l).2 := by
 obtain ⟨m, m0, _, m2, m3, m4, m5, m6⟩ := numRF_inv l 9 0 0 hb h
 unfold numR at *
 rw [m3]
 simp only [Int.pow_zero, Int.mul_one, Int.zero_add]
 refine ⟨m0, ?_⟩
 have := m6 9 (by omega)
 unfold numB
 rw [this, Nat.sub_zero, List.take_append_drop]
theorem readF_flt (low high : Int) (l : List Int) : (readF low high l true).2.2 = true := by simp [readF]
theorem readF_inv {low high v : Int} {l l1 : List Int} {f : Bool} (hb : ∀ c ∈ l, 0 ≤ c ∧ c < 256) (h : readF low high l f = (v, l1, false)) : f = false ∧ low ≤ v ∧ v ≤ high ∧ 0 ≤ v ∧ l = numB v ++ l1 := by
 unfold readF at h
 split at h
 ·simp at h
 ·rename_i hn
  simp only [not_or] at hn
  simp only [Prod.mk.injEq, and_true] at h
  obtain ⟨rfl, rfl⟩ := h
  obtain ⟨h1, h2⟩ := numR_inv hb hn.2.1
  exact ⟨by simpa using hn.1, by omega, by omega, h1, h2⟩
theorem readS_inv {v : Int} {l l1 : List Int} {f : Bool} (hb : ∀ c ∈ l, 0 ≤ c ∧ c < 256) (h : readS 1000000000 l f = (v, l1, false)) : f = false ∧ -1000000000 ≤ v ∧ v ≤ 1000000000 ∧ l = sgnB v ++ l1 := by
 unfold readS at h
 rcases hr : readF 0 (2 * 1000000000) l f with ⟨u, l', f'⟩
 rw [hr] at h
 simp only [Prod.mk.injEq] at h
 obtain ⟨rfl, rfl, rfl⟩ := h
 obtain ⟨h1, h2, h3, h4, h5⟩ := readF_inv hb hr
 have hs : sgnI (unsI u) = u ∧ -1000000000 ≤ unsI u ∧ unsI u ≤ 1000000000 := by
  unfold sgnI unsI
  by_cases ho : u % 2 = 1
  ·rw [if_pos ho, if_pos (by omega)]; omega
  ·rw [if_neg ho, if_neg (by omega)]; omega
 exact ⟨h1, hs.2.1, hs.2.2, by rw [sgnB, hs.1]; exact h5⟩
theorem suffix_bytes {a l l1 : List Int} (hb : ∀ c ∈ l, 0 ≤ c ∧ c < 256) (h : l = a ++ l1) : ∀ c ∈ l1, 0 ≤ c ∧ c < 256 := fun c hc => hb c (by rw [h]; exact List.mem_append_right _ hc)
theorem readF_bytes {low high : Int} {l : List Int} {f : Bool} (hb : ∀ c ∈ l, 0 ≤ c ∧ c < 256) : ∀ c ∈ (readF low high l f).2.1, 0 ≤ c ∧ c < 256 := by
 intro c hc
 refine hb c ?_
 unfold readF at hc
 split at hc
 ·exact hc
 ·exact List.mem_of_mem_drop hc
theorem lenF_numF (rest : List Int) : ∀ (k : Nat) (m n p : Int) (f : Nat), 0 ≤ m → m < 128 ^ (k + 1) → k + 1 ≤ f → lenF f n p (numF k m ++ rest) = (n + m * p, rest, true)
 | 0, m, n, p, f, h0, h1, hf => by
  obtain ⟨f', rfl⟩ : ∃ f', f = f' + 1 := ⟨f - 1, by omega⟩
  simp only [Nat.zero_add, Int.pow_succ, Int.pow_zero, Int.one_mul] at h1
  simp only [numF, List.cons_append, List.nil_append, lenF]
  rw [if_pos (by omega), show m % 128 = m by omega]
 | k + 1, m, n, p, f, h0, h1, hf => by
  obtain ⟨f', rfl⟩ : ∃ f', f = f' + 1 := ⟨f - 1, by omega⟩
  by_cases hm : 127 < m
  ·rw [numF, if_pos hm, List.cons_append, lenF, if_neg (by omega)]
   rw [Int.pow_succ] at h1
   rw [lenF_numF rest k (m / 128) _ _ f' (by omega) (by omega) (by omega), show (m % 128 + 128) % 128 = m % 128 by omega]
   have hx : n + m % 128 * p + m / 128 * (p * 128) = n + m * p := by
    have h2 : m = m / 128 * 128 + m % 128 := by omega
    have h3 : m * p = (m / 128 * 128 + m % 128) * p := by rw [← h2]
    rw [h3, Int.add_mul, Int.mul_assoc, Int.mul_comm 128 p]
    omega
   rw [hx]
  ·rw [numF, if_neg hm]
   simp only [List.cons_append, List.nil_append, lenF]
   rw [if_pos (by omega), show m % 128 = m by omega]
theorem numB_six {v : Int} (h : 0 ≤ v ∧ v < 562949953421312) : numB v = numF 6 v := by
 unfold numB
 rw [numF_down 8 v h.1 (by simp; omega), numF_down 7 v h.1 (by simp; omega), numF_down 6 v h.1 (by simp; omega)]
theorem numL_numB {lo hi v : Int} (h : lo ≤ v ∧ v ≤ hi) (hv : 0 ≤ v ∧ v < 562949953421312) (rest : List Int) : numL lo hi (numB v ++ rest) false = (v, rest, false) := by
 unfold numL
 rw [numB_six hv, lenF_numF rest 6 v 0 1 7 hv.1 (by simpa using hv.2) (by omega)]
 have : inB v lo hi = true := by simp [inB]; omega
 simp [this]
theorem sgnL_sgnB {n : Int} (h : -1000000000 ≤ n ∧ n ≤ 1000000000) (rest : List Int) : sgnL (sgnB n ++ rest) false = (n, rest, false) := by
 have hs : 0 ≤ sgnI n ∧ sgnI n ≤ 2000000000 := by unfold sgnI; split <;> omega
 unfold sgnL sgnB
 rw [numL_numB hs (by omega)]
 have : unsI (sgnI n) = n := by
  unfold unsI sgnI
  by_cases h0 : n < 0
  ·rw [if_pos h0, if_pos (by omega)]; omega
  ·rw [if_neg h0, if_neg (by omega)]; omega
 rw [this]
theorem sgnL_good {l : List Int} {bad : Bool} (hb : ∀ c ∈ l, 0 ≤ c ∧ c < 256) (h : (sgnL l bad).2.2 = false) : bad = false ∧ -1000000000 ≤ (sgnL l bad).1 ∧ (sgnL l bad).1 ≤ 1000000000 := by
 have := numL_good h
 refine ⟨this.1, ?_⟩
 unfold sgnL unsI
 simp only
 have h1 := this.2
 split <;> omega
def regsL : Nat → Nat → (Nat → Int) → List Int → Bool → (Nat → Int) × List Int × Bool
 | 0, _, f, l, bad => (f, l, bad)
 | n + 1, j, f, l, bad => if bad then (f, l, bad) else regsL n (j + 1) (putR f j (sgnL l bad).1) (sgnL l bad).2.1 (sgnL l bad).2.2
theorem regsL_bad (n j : Nat) (f : Nat → Int) (l : List Int) : regsL n j f l true = (f, l, true) := by
 cases n <;> simp [regsL]
theorem regsL_good : ∀ (n j : Nat) (f : Nat → Int) (l : List Int) (bad : Bool), (∀ c ∈ l, 0 ≤ c ∧ c < 256) → (regsL n j f l bad).2.2 = false → (∀ k, -1000000000 ≤ f k ∧ f k ≤ 1000000000) → bad = false ∧ (∀ k, -1000000000 ≤ (regsL n j f l bad).1 k ∧ (regsL n j f l bad).1 k ≤ 1000000000) ∧ (∀ k, j + n ≤ k → (regsL n j f l bad).1 k = f k) ∧ ∀ c ∈ (regsL n j f l bad).2.1, 0 ≤ c ∧ c < 256
 | 0, j, f, l, bad, hb, h, hf => ⟨h, hf, fun k _ => rfl, hb⟩
 | n + 1, j, f, l, bad, hb, h, hf => by
  cases bad with
  | true => rw [regsL_bad] at h; cases h
  | false =>
   rw [regsL, if_neg (by simp)] at h ⊢
   have hb' : ∀ c ∈ (sgnL l false).2.1, 0 ≤ c ∧ c < 256 := numL_bytes hb
   cases hx : (sgnL l false).2.2 with
   | true => rw [hx, regsL_bad] at h; cases h
   | false =>
    have hg := sgnL_good hb hx
    have hp : ∀ k, -1000000000 ≤ putR f j (sgnL l false).1 k ∧ putR f j (sgnL l false).1 k ≤ 1000000000 := by
     intro k
     unfold putR
     split
     ·exact hg.2
     ·exact hf k
    rw [hx] at h
    have ih := regsL_good n (j + 1) (putR f j (sgnL l false).1) _ false hb' h hp
    refine ⟨rfl, ih.2.1, fun k hk => ?_, ih.2.2.2⟩
    rw [ih.2.2.1 k (by omega)]
    unfold putR
    rw [if_neg (by omega)]
theorem regsL_regB (g : Nat → Int) (hg : ∀ j, -1000000000 ≤ g j ∧ g j ≤ 1000000000) (rest : List Int) : ∀ (n : Nat) (f : Nat → Int) (j : Nat), regsL n j f ((List.range' j n).flatMap (fun k => sgnB (g k)) ++ rest) false = (fun k => if j ≤ k ∧ k < j + n then g k else f k, rest, false)
 | 0, f, j => by
  simp [regsL]
  funext k
  rw [if_neg (by omega)]
 | n + 1, f, j => by
  rw [List.range'_succ, List.flatMap_cons, List.append_assoc, regsL, if_neg (by simp), sgnL_sgnB (hg j)]
  simp only
  rw [regsL_regB g hg rest n _ (j + 1)]
  refine Prod.ext ?_ rfl
  funext k
  simp only [putR]
  by_cases hk : k = j
  ·subst hk; rw [if_neg (by omega), if_pos rfl, if_pos (by omega)]
  ·by_cases hr : j + 1 ≤ k ∧ k < j + 1 + n
   ·rw [if_pos hr, if_pos (by omega)]
   ·rw [if_neg hr, if_neg hk, if_neg (by omega)]
structure QuOk (ents : Int) (nk : Nat) (next clock t : Int) (q : List Ev) : Prop where
 sorted : Sorted q
 dist : Distinct q
 evs : ∀ e ∈ q, clock ≤ e.time ∧ e.time ≤ 1000000000000 ∧ 1 ≤ e.number ∧ e.number < next ∧ 0 ≤ e.kind ∧ e.kind < nk ∧ 0 ≤ e.entity ∧ e.entity < ents
 le : ∀ e ∈ q, e.time < t ∨ (e.time = t ∧ e.number ≤ lastN q)
 t : clock ≤ t
theorem lastN_snoc (q : List Ev) (e : Ev) : lastN (q ++ [e]) = e.number := by simp [lastN]
theorem lastN_mem {q : List Ev} (h : 0 < q.length) : ∃ e ∈ q, e.number = lastN q := by
 have hn : q ≠ [] := by intro hc; rw [hc] at h; simp at h
 refine ⟨q.getLast hn, List.getLast_mem hn, ?_⟩
 unfold lastN
 rw [List.getLast?_eq_some_getLast hn]
 rfl
theorem quL_flt (ents : Int) (nk : Nat) (next : Int) (n : Nat) (t : Int) (q : List Ev) (l : List Int) : quL ents nk next n t q l true = (q, l, true) := by
 cases n <;> simp [quL]
theorem evL_good {ents : Int} {nk : Nat} {next t : Int} {l : List Int} {bad : Bool} (h : (evL ents nk next t l bad).2.2 = false) : bad = false ∧ t ≤ (evL ents nk next t l bad).1.time ∧ (1 ≤ (evL ents nk next t l bad).1.number ∧ (evL ents nk next t l bad).1.number ≤ next - 1) ∧ (0 ≤ (evL ents nk next t l bad).1.kind ∧ (evL ents nk next t l bad).1.kind ≤ nk - 1) ∧ (0 ≤ (evL ents nk next t l bad).1.entity ∧ (evL ents nk next t l bad).1.entity ≤ ents - 1) := by
 unfold evL at h ⊢
 simp only at h ⊢
 have h4 := numL_good h
 have h3 := numL_good h4.1
 have h2 := numL_good h3.1
 have h1 := numL_good h2.1
 exact ⟨h1.1, by have := h1.2.1; omega, h2.2, h3.2, h4.2⟩
theorem quL_good (ents : Int) (nk : Nat) (next clock : Int) : ∀ (n : Nat) (t : Int) (q : List Ev) (l : List Int) (bad : Bool), (quL ents nk next n t q l bad).2.2 = false → QuOk ents nk next clock t q → bad = false ∧ (∃ t', QuOk ents nk next clock t' (quL ents nk next n t q l bad).1) ∧ (quL ents nk next n t q l bad).1.length = q.length + n
 | 0, t, q, l, bad, h, hq => ⟨h, ⟨t, hq⟩, rfl⟩
 | n + 1, t, q, l, bad, h, hq => by
  cases bad with
  | true => rw [quL_flt] at h; cases h
  | false =>
   rw [quL, if_neg (by simp)] at h ⊢
   generalize he : evL ents nk next t l false = r at h ⊢
   obtain ⟨e, l1, f1⟩ := r
   simp only at h ⊢
   cases hx : ((f1 || hasF e.number q) || wrongF t q e) with
   | true => rw [hx, quL_flt] at h; cases h
   | false =>
    rw [hx] at h
    simp only [Bool.or_eq_false_iff] at hx
    obtain ⟨⟨hf1, hhas⟩, hwr⟩ := hx
    have hg := evL_good (ents := ents) (nk := nk) (next := next) (t := t) (l := l) (bad := false) (by rw [he]; exact hf1)
    rw [he] at hg
    simp only at hg
    obtain ⟨_, g1, g2, g3, g4⟩ := hg
    have hnd := hasF_false hhas
    unfold wrongF at hwr
    simp only [Bool.or_eq_false_iff, decide_eq_false_iff_not, Bool.and_eq_false_iff] at hwr
    have hlast : 0 < q.length → e.time = t → lastN q < e.number := by
     intro h0 h1
     obtain ⟨z, hz1, hz2⟩ := lastN_mem h0
     have := hnd z hz1
     rcases hwr.2 with hc | hc | hc <;> omega
    have hahead : ∀ x ∈ q, aheadF x e = true := by
     intro x hx
     have h0 : 0 < q.length := List.length_pos_of_mem hx
     simp only [aheadF, Bool.or_eq_true, decide_eq_true_eq, Bool.and_eq_true]
     rcases hq.le x hx with hc | ⟨hc, hc2⟩
     ·left; omega
     ·by_cases het : e.time = t
      ·right; have := hlast h0 het; omega
      ·left; omega
    have hN : QuOk ents nk next clock e.time (q ++ [e]) := by
     refine ⟨?_, ?_, ?_, ?_, by have := hq.t; omega⟩
     ·exact List.pairwise_append.2 ⟨hq.sorted, by simp, fun x hx y hy => by simp at hy; subst hy; exact hahead x hx⟩
     ·exact List.pairwise_append.2 ⟨hq.dist, by simp, fun x hx y hy => by simp at hy; subst hy; exact hnd x hx⟩
     ·intro x hx
      rcases List.mem_append.1 hx with hx | hx
      ·exact hq.evs x hx
      ·simp at hx; subst hx
       have := hq.t
       exact ⟨by omega, by have := hwr.1; omega, by omega, by omega, by omega, by omega, by omega, by omega⟩
     ·intro x hx
      rw [lastN_snoc]
      rcases List.mem_append.1 hx with hx | hx
      ·have := hahead x hx
       simp only [aheadF, Bool.or_eq_true, decide_eq_true_eq, Bool.and_eq_true] at this
       omega
      ·simp at hx; subst hx; right; omega
    have ih := quL_good ents nk next clock n e.time (q ++ [e]) l1 false h hN
    refine ⟨by first | rfl | trivial, ih.2.1, ?_⟩
    rw [ih.2.2, List.length_append]
    simp
    omega
theorem evL_evB {ents : Int} {nk : Nat} {next t : Int} {e : Ev} (h : EvOk ents nk next e) (he : ents ≤ 8) (hk : nk ≤ 8) (hn : next ≤ 1000000000) (ht : 0 ≤ t ∧ t ≤ e.time) (rest : List Int) :
  evL ents nk next t (numB (e.time - t) ++ (numB e.number ++ (numB e.kind ++ (numB e.entity ++ rest)))) false = (e, rest, false) := by
 obtain ⟨h1, h2, h3, h4⟩ := h
 unfold evL
 rw [numL_numB (by omega) (by omega)]
 simp only
 rw [numL_numB (by omega) (by omega)]
 simp only
 rw [numL_numB (by omega) (by omega)]
 simp only
 rw [numL_numB (by omega) (by omega)]
 simp only
 refine Prod.ext ?_ rfl
 simp only
 rw [show t + (e.time - t) = e.time by omega]
theorem quL_evB {ents : Int} {nk : Nat} {next : Int} (he : ents ≤ 8) (hk : nk ≤ 8) (hn : next ≤ 1000000000) (rest : List Int) : ∀ (q q0 : List Ev) (t : Int), Sorted (q0 ++ q) → Distinct (q0 ++ q) → (∀ e ∈ q, EvOk ents nk next e) → 0 ≤ t → (∀ e ∈ q, t ≤ e.time) → (0 < q0.length → ∃ z ∈ q0, z.number = lastN q0 ∧ z.time = t) →
  quL ents nk next q.length t q0 (evB t q ++ rest) false = (q0 ++ q, rest, false)
 | [], q0, t, _, _, _, _, _, _ => by simp [quL, evB]
 | e :: q, q0, t, hs, hd, hok, ht, ho, hp => by
  have he1 := hok e (List.mem_cons_self ..)
  have ho1 := ho e (List.mem_cons_self ..)
  have hev := evL_evB (t := t) he1 he hk hn ⟨ht, ho1⟩ (evB e.time q ++ rest)
  have hsp := List.pairwise_append.1 hs
  have hdp := List.pairwise_append.1 hd
  have hh : hasF e.number q0 = false := by
   rcases hx : hasF e.number q0 with _ | _
   ·rfl
   ·obtain ⟨x, hx1, hx2⟩ := hasF_true hx
    exact absurd hx2 (hdp.2.2 x hx1 e (List.mem_cons_self ..))
  have hw : wrongF t q0 e = false := by
   unfold wrongF
   have h1 := he1.time.2
   rw [decide_eq_false (by omega), Bool.false_or]
   by_cases h0 : 0 < q0.length
   ·obtain ⟨z, hz1, hz2, hzt⟩ := hp h0
    have ha := hsp.2.2 z hz1 e (List.mem_cons_self ..)
    simp only [aheadF, Bool.or_eq_true, decide_eq_true_eq, Bool.and_eq_true] at ha
    by_cases het : e.time = t
    ·have : ¬ e.number < lastN q0 := by rw [← hz2]; omega
     simp [this]
    ·simp [het]
   ·simp [show ¬ 0 < q0.length from h0]
  simp only [List.length_cons, quL, evB, List.append_assoc]
  rw [if_neg (by simp), hev]
  simp only
  rw [hh, hw]
  have := quL_evB he hk hn rest q (q0 ++ [e]) e.time (by simpa using hs) (by simpa using hd) (fun x hx => hok x (List.mem_cons_of_mem _ hx)) (by omega) (fun x hx => by
   have h2 := (List.pairwise_cons.1 hsp.2.1).1 x hx
   simp only [aheadF, Bool.or_eq_true, decide_eq_true_eq, Bool.and_eq_true] at h2
   omega) (fun _ => ⟨e, by simp, (lastN_snoc q0 e).symm, rfl⟩)
  simp only [Bool.or_false]
  rw [this]
  simp
end Go.Proofs.YtndlmgocldckfaaGreat
