import Derived.Test.YtndlmgocldckfaaWrZ
import Derived.Laws.IdiomStrings
import Derived.Test.YtndlmgocldckfaaKer
import Derived.Test.YtndlmgocldckfaaKerA
import Derived.Test.YtndlmgocldckfaaSaZ
import Derived.Test.YtndlmgocldckfaaRunF
import Derived.Test.YtndlmgocldckfaaKNew
namespace Go.Proofs.Ytndlmgocldckfaa
open Go.RowKit
set_option linter.unusedVariables false
set_option linter.unusedSimpArgs false

/-! Numbers out of bytes. -/

/-- From place i on, with what has been read so far: the number, and how many bytes it is (0: none). -/
def numRF : Nat → Nat → Int → List Int → Int × Nat
  | 0, _, _, _ => (0, 0)
  | _, _, _, [] => (0, 0)
  | f + 1, i, acc, c :: l =>
    if c = 0 ∧ 0 < i then (0, 0)
    else if c < 128 then (acc + c % 128 * 128 ^ i, i + 1)
    else numRF f (i + 1) (acc + c % 128 * 128 ^ i) l
def numR (l : List Int) : Int × Nat := numRF 9 0 0 l

theorem shl_val (i : Nat) (hi : i < 9) (x : Int) (h0 : 0 ≤ x) (h1 : x < 128) : IntKind.i64.wrap (x * 2 ^ (7 * i)) = x * 128 ^ i := by
  have hc : i = 0 ∨ i = 1 ∨ i = 2 ∨ i = 3 ∨ i = 4 ∨ i = 5 ∨ i = 6 ∨ i = 7 ∨ i = 8 := by omega
  rcases hc with rfl | rfl | rfl | rfl | rfl | rfl | rfl | rfl | rfl <;> (rw [IntKind.wrap_i64]; simp; omega)

theorem or_val (i : Nat) (hi : i < 9) (acc x : Int) (ha : 0 ≤ acc) (ha' : acc < 128 ^ i) (h0 : 0 ≤ x) (h1 : x < 128) : bits .or .i64 acc (x * 128 ^ i) = acc + x * 128 ^ i := by
  obtain ⟨a, rfl⟩ := Int.eq_ofNat_of_zero_le ha
  obtain ⟨b, rfl⟩ := Int.eq_ofNat_of_zero_le h0
  have hp : (128 : Int) ^ i = ((2 ^ (7 * i) : Nat) : Int) := by
    rw [Nat.pow_mul]; simp
  rw [hp] at ha' ⊢
  have hpb : 2 ^ (7 * i) ≤ 2 ^ 56 := Nat.pow_le_pow_right (by omega) (by omega)
  have hal : a < 2 ^ (7 * i) := by omega
  have hmul : b * 2 ^ (7 * i) ≤ 127 * 2 ^ 56 := Nat.mul_le_mul (by omega) hpb
  have e1 : ((b : Int) * ((2 ^ (7 * i) : Nat) : Int)) = ((b * 2 ^ (7 * i) : Nat) : Int) := by simp
  rw [e1]
  have hor : a ||| b * 2 ^ (7 * i) = a + b * 2 ^ (7 * i) := by
    have := Nat.two_pow_add_eq_or_of_lt hal b
    rw [Nat.mul_comm (2 ^ (7 * i)) b] at this
    rw [Nat.or_comm, ← this]; omega
  generalize b * 2 ^ (7 * i) = y at hmul hor
  have hy : y ≤ 127 * 72057594037927936 := by simpa using hmul
  have ha2 : a ≤ 72057594037927936 := by have : a < 2 ^ 56 := Nat.lt_of_lt_of_le hal hpb; simp at this; omega
  have h1 : (BitVec.ofInt 64 (a : Int)).toNat = a := by
    rw [BitVec.ofInt_natCast, BitVec.toNat_ofNat]; exact Nat.mod_eq_of_lt (by omega)
  have h2 : (BitVec.ofInt 64 (y : Int)).toNat = y := by
    rw [BitVec.ofInt_natCast, BitVec.toNat_ofNat]; exact Nat.mod_eq_of_lt (by omega)
  show IntKind.i64.wrap ((BitVec.ofInt 64 (a : Int) ||| BitVec.ofInt 64 (y : Int)).toNat : Int) = _
  rw [BitVec.toNat_or, h1, h2, hor, IntKind.wrap_i64]
  omega

theorem numRF_step (l : List Int) (i : Nat) (acc : Int) (hi : i < l.length) (h9 : i < 9) :
    numRF (9 - i) i acc (l.drop i) = if l[i] = 0 ∧ 0 < i then (0, 0) else if l[i] < 128 then (acc + l[i] % 128 * 128 ^ i, i + 1) else numRF (9 - (i + 1)) (i + 1) (acc + l[i] % 128 * 128 ^ i) (l.drop (i + 1)) := by
  rw [List.drop_eq_getElem_cons hi, show 9 - i = (9 - (i + 1)) + 1 by omega, numRF]
theorem numRF_end (l : List Int) (i : Nat) (acc : Int) (h : l.length ≤ i ∨ 9 ≤ i) : numRF (9 - i) i acc (l.drop i) = (0, 0) := by
  rcases h with h | h
  · rw [List.drop_eq_nil_of_le h]
    cases 9 - i <;> rfl
  · rw [show 9 - i = 0 by omega]
    rfl

set_option maxRecDepth 100000 in
set_option maxHeartbeats 4000000 in
theorem num_any (b off cap : Nat) (l : List Int) (w : World) (hr : RowAt w b off (byteV l)) (hl : l.length ≤ 2000000000000000) (hv : ∀ c ∈ l, 0 ≤ c ∧ c < 256) (hlc : l.length ≤ cap) :
    Calls Try.prog 71 #[.slice (some ⟨b, off, none⟩) l.length cap] w fun e w' => e = .returned (.tuple #[.int .i64 (numR l).1, .int .i64 (numR l).2]) ∧ Below w.heap.size w w' := by
  have Hr := hide hr
  have Hv := hide hv
  clear hr hv
  by_cases h9 : l.length ≤ 9
  · have hm : min (l.length : Int) 9 = (l.length : Int) := by omega
    go_enter Try.func71, Try.ntmps71
    go_wp2_with fail
    clear hm
    go_loopg [4, 13] 12 (fun g s4 s13 wr => ∃ (i : Nat) (acc : Int), s13 = .int .i64 i ∧ s4 = .int .i64 acc ∧ 9 - i + 1 ≤ g ∧ i ≤ l.length ∧ 0 ≤ acc ∧ Hid (acc < 128 ^ i ∧ numRF (9 - i) i acc (l.drop i) = numR l) ∧ Hid (Below w.heap.size w wr))
    case atStart => exact ⟨0, 0, rfl, rfl, by omega, by omega, by omega, ⟨by simp, by simp [numR]⟩, Below.refl _ _⟩
    case round =>
      obtain ⟨i, acc, rfl, rfl, hg, hi, ha0, hI, hB⟩ := hrel
      by_cases hlt : i < l.length
      · have hil : i < l.length := by omega
        have d1 : decide ((i : Int) < (l.length : Int)) = true := by simp; omega
        have hii : (i : Int) < (l.length : Int) := by omega
        have hw : IntKind.i64.wrap ((i : Int) + 1) = (i : Int) + 1 := by rw [IntKind.wrap_i64]; omega
        have hw7 : IntKind.i64.wrap (7 * (i : Int)) = 7 * (i : Int) := by rw [IntKind.wrap_i64]; omega
        have hc := Hr.out i (.int .u8 l[i]) (by simp [byteV, hil])
        have hc' := below_at hB.out hc (lt_of_cell hc)
        have hx := Hv.out l[i] (List.getElem_mem hil)
        have HF : Hid (numR l = if l[i] = 0 ∧ 0 < i then (0, 0) else if l[i] < 128 then (acc + l[i] % 128 * 128 ^ i, i + 1) else numRF (9 - (i + 1)) (i + 1) (acc + l[i] % 128 * 128 ^ i) (l.drop (i + 1))) := by
          show _ = _
          rw [← hI.out.2]; exact numRF_step l i acc hil (by omega)
        generalize l[i] = c at hc hc' hx HF
        have hs0 := shl_val i (by omega) (c % 128) (by omega) (by omega)
        have hs1 : wrap64 (c % 128 * 2 ^ (7 * i)) = c % 128 * 128 ^ i := by have := hs0; rw [IntKind.wrap_i64] at this; unfold wrap64; exact this
        have hs2 := or_val i (by omega) acc (c % 128) ha0 hI.out.1 (by omega) (by omega)
        have hnn : 0 ≤ acc + c % 128 * 128 ^ i ∧ acc + c % 128 * 128 ^ i < 128 ^ (i + 1) := by
          have h1 : (0 : Int) < 128 ^ i := Int.pow_pos (by omega)
          have h2 := hI.out.1
          rw [Int.pow_succ]
          generalize (128 : Int) ^ i = X at h1 h2
          have h3 : 0 ≤ c % 128 * X := Int.mul_nonneg (by omega) (by omega)
          have h4 : c % 128 * X ≤ 127 * X := Int.mul_le_mul_of_nonneg_right (by omega) (by omega)
          omega
        have Hnn := hide hnn
        clear hnn hc
        generalize hsh : c % 128 * 128 ^ i = sh at hs0 hs1 hs2 HF Hnn
        have Hsh := hide hsh
        have Hs2 := hide hs2
        clear hsh
        by_cases hc0 : c = 0 ∧ 0 < i
        · have hq : numR l = (0, 0) := by rw [HF.out, if_pos hc0]
          have Hq := hide hq
          obtain ⟨rfl, hi0⟩ := hc0
          clear hq
          have d2 : decide (0 < (i : Int)) = true := by rw [decide_eq_true_eq]; omega
          go_wp2_with fail
          go_ret2
          exact ⟨by rw [Hq.out]; rfl, hB.out⟩
        · by_cases hcs : c < 128
          · have d3 : decide (c < 128) = true := by simpa using hcs
            have hq := HF.out
            rw [if_neg hc0, if_pos hcs] at hq
            have Hq := hide hq
            clear hq
            by_cases hz : c = 0
            · subst hz
              obtain rfl : i = 0 := by omega
              simp only [Nat.add_zero] at hc'
              have hs3 := Hs2.out
              obtain rfl : sh = 0 := by have := Hsh.out; simp at this; omega
              go_wp2_with fail
              go_ret2
              exact ⟨by rw [Hq.out]; simp, hB.out⟩
            · have d4 : (c == 0) = false := by rw [beq_eq_false_iff_ne]; exact hz
              go_wp2_with fail
              go_ret2
              exact ⟨by rw [Hq.out]; simp, hB.out⟩
          · have d3 : decide (c < 128) = false := by simpa using hcs
            have d4 : (c == 0) = false := by rw [beq_eq_false_iff_ne]; omega
            have hq := HF.out
            rw [if_neg hc0, if_neg hcs] at hq
            have Hq := hide hq
            clear hq
            go_wp2_with fail
            go_roundg (9 - (i + 1) + 1)
            case measure => omega
            case rel => exact ⟨i + 1, acc + sh, by go_num, rfl, Nat.le_refl _, by omega, Hnn.out.1, ⟨Hnn.out.2, Hq.out.symm⟩, hB.out⟩
      · have d1 : decide ((i : Int) < (l.length : Int)) = false := by simp; omega
        have hq : numR l = (0, 0) := by rw [← hI.out.2]; exact numRF_end l i acc (by omega)
        go_wp2_with fail
        go_ret2
        exact ⟨by rw [hq]; rfl, hB.out⟩
  · have hm : min (l.length : Int) 9 = 9 := by omega
    have hcp : (9 : Int) ≤ (cap : Int) := by omega
    go_enter Try.func71, Try.ntmps71
    go_wp2_with fail
    clear hm
    go_loopg [4, 13] 12 (fun g s4 s13 wr => ∃ (i : Nat) (acc : Int), s13 = .int .i64 i ∧ s4 = .int .i64 acc ∧ 9 - i + 1 ≤ g ∧ i ≤ 9 ∧ 0 ≤ acc ∧ Hid (acc < 128 ^ i ∧ numRF (9 - i) i acc (l.drop i) = numR l) ∧ Hid (Below w.heap.size w wr))
    case atStart => exact ⟨0, 0, rfl, rfl, by omega, by omega, by omega, ⟨by simp, by simp [numR]⟩, Below.refl _ _⟩
    case round =>
      obtain ⟨i, acc, rfl, rfl, hg, hi, ha0, hI, hB⟩ := hrel
      by_cases hlt : i < 9
      · have hil : i < l.length := by omega
        have d1 : decide ((i : Int) < (9 : Int)) = true := by simp; omega
        have hii : (i : Int) < (9 : Int) := by omega
        have hw : IntKind.i64.wrap ((i : Int) + 1) = (i : Int) + 1 := by rw [IntKind.wrap_i64]; omega
        have hw7 : IntKind.i64.wrap (7 * (i : Int)) = 7 * (i : Int) := by rw [IntKind.wrap_i64]; omega
        have hc := Hr.out i (.int .u8 l[i]) (by simp [byteV, hil])
        have hc' := below_at hB.out hc (lt_of_cell hc)
        have hx := Hv.out l[i] (List.getElem_mem hil)
        have HF : Hid (numR l = if l[i] = 0 ∧ 0 < i then (0, 0) else if l[i] < 128 then (acc + l[i] % 128 * 128 ^ i, i + 1) else numRF (9 - (i + 1)) (i + 1) (acc + l[i] % 128 * 128 ^ i) (l.drop (i + 1))) := by
          show _ = _
          rw [← hI.out.2]; exact numRF_step l i acc hil (by omega)
        generalize l[i] = c at hc hc' hx HF
        have hs0 := shl_val i (by omega) (c % 128) (by omega) (by omega)
        have hs1 : wrap64 (c % 128 * 2 ^ (7 * i)) = c % 128 * 128 ^ i := by have := hs0; rw [IntKind.wrap_i64] at this; unfold wrap64; exact this
        have hs2 := or_val i (by omega) acc (c % 128) ha0 hI.out.1 (by omega) (by omega)
        have hnn : 0 ≤ acc + c % 128 * 128 ^ i ∧ acc + c % 128 * 128 ^ i < 128 ^ (i + 1) := by
          have h1 : (0 : Int) < 128 ^ i := Int.pow_pos (by omega)
          have h2 := hI.out.1
          rw [Int.pow_succ]
          generalize (128 : Int) ^ i = X at h1 h2
          have h3 : 0 ≤ c % 128 * X := Int.mul_nonneg (by omega) (by omega)
          have h4 : c % 128 * X ≤ 127 * X := Int.mul_le_mul_of_nonneg_right (by omega) (by omega)
          omega
        have Hnn := hide hnn
        clear hnn hc
        generalize hsh : c % 128 * 128 ^ i = sh at hs0 hs1 hs2 HF Hnn
        have Hsh := hide hsh
        have Hs2 := hide hs2
        clear hsh
        by_cases hc0 : c = 0 ∧ 0 < i
        · have hq : numR l = (0, 0) := by rw [HF.out, if_pos hc0]
          have Hq := hide hq
          obtain ⟨rfl, hi0⟩ := hc0
          clear hq
          have d2 : decide (0 < (i : Int)) = true := by rw [decide_eq_true_eq]; omega
          go_wp2_with fail
          go_ret2
          exact ⟨by rw [Hq.out]; rfl, hB.out⟩
        · by_cases hcs : c < 128
          · have d3 : decide (c < 128) = true := by simpa using hcs
            have hq := HF.out
            rw [if_neg hc0, if_pos hcs] at hq
            have Hq := hide hq
            clear hq
            by_cases hz : c = 0
            · subst hz
              obtain rfl : i = 0 := by omega
              simp only [Nat.add_zero] at hc'
              have hs3 := Hs2.out
              obtain rfl : sh = 0 := by have := Hsh.out; simp at this; omega
              go_wp2_with fail
              go_ret2
              exact ⟨by rw [Hq.out]; simp, hB.out⟩
            · have d4 : (c == 0) = false := by rw [beq_eq_false_iff_ne]; exact hz
              go_wp2_with fail
              go_ret2
              exact ⟨by rw [Hq.out]; simp, hB.out⟩
          · have d3 : decide (c < 128) = false := by simpa using hcs
            have d4 : (c == 0) = false := by rw [beq_eq_false_iff_ne]; omega
            have hq := HF.out
            rw [if_neg hc0, if_neg hcs] at hq
            have Hq := hide hq
            clear hq
            go_wp2_with fail
            go_roundg (9 - (i + 1) + 1)
            case measure => omega
            case rel => exact ⟨i + 1, acc + sh, by go_num, rfl, Nat.le_refl _, by omega, Hnn.out.1, ⟨Hnn.out.2, Hq.out.symm⟩, hB.out⟩
      · have d1 : decide ((i : Int) < (9 : Int)) = false := by simp; omega
        have hq : numR l = (0, 0) := by rw [← hI.out.2]; exact numRF_end l i acc (by omega)
        go_wp2_with fail
        go_ret2
        exact ⟨by rw [hq]; rfl, hB.out⟩
end Go.Proofs.Ytndlmgocldckfaa

namespace Go.Proofs.Ytndlmgocldckfaa
open Go.RowKit
set_option linter.unusedVariables false
set_option linter.unusedSimpArgs false

theorem numF_down : ∀ (k : Nat) (m : Int), 0 ≤ m → m < 128 ^ (k + 1) → numF (k + 1) m = numF k m
  | 0, m, h0, h1 => by
    simp at h1
    show (if 127 < m then (m % 128 + 128) :: numF 0 (m / 128) else [m]) = [m]
    rw [if_neg (by omega)]
  | k + 1, m, h0, h1 => by
    rw [numF]
    by_cases h : 127 < m
    · rw [if_pos h, numF_down k (m / 128) (by omega) (by rw [Int.pow_succ] at h1; omega), numF, if_pos h]
    · rw [if_neg h, numF, if_neg h]

theorem numRF_numF (rest : List Int) : ∀ (k : Nat) (m : Int) (i : Nat) (acc : Int) (f : Nat), 0 ≤ m → m < 128 ^ (k + 1) → k + 1 ≤ f → (i = 0 ∨ 0 < m) → numRF f i acc (numF k m ++ rest) = (acc + m * 128 ^ i, i + (numF k m).length)
  | 0, m, i, acc, f, h0, h1, hf, hi => by
    obtain ⟨f', rfl⟩ : ∃ f', f = f' + 1 := ⟨f - 1, by omega⟩
    simp at h1
    simp only [numF, List.cons_append, List.nil_append]
    rw [numRF, if_neg (by omega), if_pos h1, show m % 128 = m by omega]
    rfl
  | k + 1, m, i, acc, f, h0, h1, hf, hi => by
    obtain ⟨f', rfl⟩ : ∃ f', f = f' + 1 := ⟨f - 1, by omega⟩
    rw [numF]
    by_cases h : 127 < m
    · rw [if_pos h, List.cons_append, numRF, if_neg (by omega), if_neg (by omega)]
      rw [numRF_numF rest k (m / 128) (i + 1) _ f' (by omega) (by rw [Int.pow_succ] at h1; omega) (by omega) (.inr (by omega))]
      have e1 : (m % 128 + 128) % 128 = m % 128 := by omega
      rw [e1, Int.pow_succ]
      have e2 : m = m / 128 * 128 + m % 128 := by omega
      refine Prod.ext ?_ (by simp; omega)
      simp only
      generalize (128 : Int) ^ i = X
      have : m * X = (m / 128 * 128 + m % 128) * X := by rw [← e2]
      rw [this, Int.add_mul, Int.mul_assoc (m / 128) 128 X, Int.mul_comm 128 X]
      omega
    · rw [if_neg h]
      simp only [List.cons_append, List.nil_append]
      rw [numRF, if_neg (by omega), if_pos (by omega), show m % 128 = m by omega]
      rfl

/-- What was written is read. -/
theorem numR_numB (n : Int) (rest : List Int) (h : 0 ≤ n ∧ n ≤ 9223372036854775807) : numR (numB n ++ rest) = (n, (numB n).length) := by
  unfold numR numB
  rw [numF_down 8 n h.1 (by simp; omega), numRF_numF rest 8 n 0 0 9 h.1 (by simp; omega) (by omega) (.inl rfl)]
  simp

/-- A reader as it lies: what is not read yet, and whether a fault was found. -/
structure RdP (w : World) (rb g : Nat) (l : List Int) (flt : Bool) : Prop where
  cell : ∃ off cap, w.cell? ⟨rb, 0, none⟩ = some (.slice (some ⟨g, off, none⟩) l.length cap) ∧ l.length ≤ cap ∧ RowAt w g off (byteV l)
  flt : w.cell? ⟨rb, 1, none⟩ = some (.bool flt)
  room : Room w rb 2
  ne : g ≠ rb
  bytes : ∀ c ∈ l, 0 ≤ c ∧ c < 256
  len : l.length ≤ 1000000000000000
  glt : g < w.heap.size

def readF (low high : Int) (l : List Int) (flt : Bool) : Int × List Int × Bool :=
  if flt = true ∨ (numR l).2 = 0 ∨ (numR l).1 < low ∨ high < (numR l).1 then (0, l, true) else ((numR l).1, l.drop (numR l).2, false)

theorem numRF_size : ∀ (f i : Nat) (acc : Int) (l : List Int), (numRF f i acc l).2 = 0 ∨ (i < (numRF f i acc l).2 ∧ (numRF f i acc l).2 ≤ i + l.length)
  | 0, i, acc, l => by cases l <;> simp [numRF]
  | f + 1, i, acc, [] => by simp [numRF]
  | f + 1, i, acc, c :: l => by
    rw [numRF]
    split
    · simp
    · split
      · simp
      · rcases numRF_size f (i + 1) (acc + c % 128 * 128 ^ i) l with h | h
        · exact .inl h
        · refine .inr ?_
          simp only [List.length_cons]
          omega
theorem numR_size (l : List Int) : (numR l).2 ≤ l.length := by
  rcases numRF_size 9 0 0 l with h | h
  · unfold numR; omega
  · unfold numR; omega

theorem RdP.next {w w1 : World} {rb g : Nat} {l l' : List Int} {flt : Bool} (h : RdP w rb g l flt) (hm : Room w1 rb 2) (hf : w1.cell? ⟨rb, 1, none⟩ = some (.bool flt)) (off' cap' : Nat) (hc : l'.length ≤ cap') (hr : RowAt w1 g off' (byteV l')) (hsub : ∀ c ∈ l', c ∈ l) (hl : l'.length ≤ l.length) (hgl : g < w1.heap.size) :
    RdP (w1.setCell ⟨rb, 0, none⟩ (.slice (some ⟨g, off', none⟩) l'.length cap')) rb g l' flt := by
  have hne := h.ne
  refine ⟨⟨off', cap', World.cell?_setCell_same' _ _ _ (hm 0 (by omega)).1, hc, ?_⟩, (World.cell?_setCell_other _ _ _ _ (by simp)).trans hf, hm.setCell _ _, h.ne, fun c hc => h.bytes c (hsub c hc), by have := h.len; omega, by simpa [World.setCell] using hgl⟩
  exact hr.setCell _ _ (by intro j _ hc; simp only [Addr.mk.injEq] at hc; exact hne hc.1.symm)
theorem RdP.fault {w w1 : World} {rb g : Nat} {l : List Int} {flt : Bool} (h : RdP w rb g l flt) (hb : Below w.heap.size w w1) : RdP (w1.setCell ⟨rb, 1, none⟩ (.bool true)) rb g l true := by
  obtain ⟨off, cap, hc, hlc, hr⟩ := h.cell
  have hrl := lt_of_cell hc
  have hne := h.ne
  have hm := h.room.below hb hrl
  refine ⟨⟨off, cap, (World.cell?_setCell_other _ _ _ _ (by simp)).trans (below_at hb hc hrl), hlc, ?_⟩, World.cell?_setCell_same' _ _ _ (hm 1 (by omega)).1, hm.setCell _ _, h.ne, h.bytes, h.len, by have := h.glt; have := hb.size; simp [World.setCell]; omega⟩
  refine RowAt.setCell (fun j v hv => below_at hb (hr j v hv) (lt_of_cell (hr j v hv))) _ _ (by intro j _ hc; simp only [Addr.mk.injEq] at hc; exact hne hc.1.symm)

set_option maxRecDepth 100000 in
set_option maxHeartbeats 4000000 in
theorem rNum_any (rb g : Nat) (l : List Int) (flt : Bool) (low high : Int) (w : World) (h : RdP w rb g l flt) :
    Calls Try.prog 55 #[.pointer (some ⟨rb, 0, none⟩), .int .i64 low, .int .i64 high] w fun e w' => e = .returned (.int .i64 (readF low high l flt).1) ∧ Only (· = rb) w w' ∧ RdP w' rb g (readF low high l flt).2.1 (readF low high l flt).2.2 := by
  obtain ⟨off, cap, hc, hlc, hrow⟩ := h.cell
  have hf := h.flt
  have hlen := h.len
  have hrl := lt_of_cell hc
  have H := hide h
  have Hrow := hide hrow
  have HN := hide (num_any g off cap l w hrow (by omega) h.bytes hlc)
  have hsz := numR_size l
  have hz0 := (h.room 0 (by omega)).2
  have hz1 := (h.room 1 (by omega)).2
  have HF : Hid (readF low high l flt = if flt = true ∨ (numR l).2 = 0 ∨ (numR l).1 < low ∨ high < (numR l).1 then (0, l, true) else ((numR l).1, l.drop (numR l).2, false)) := by show _ = _; rfl
  clear h hrow
  go_enter Try.func55, Try.ntmps55
  go_wp2_with fail
  refine HN.out.mono ?_
  rintro e w1 ⟨rfl, hb1⟩
  have c1 := below_at hb1 hc hrl
  have f1 := below_at hb1 hf hrl
  have hm1 := H.out.room.below hb1 hrl
  have y0 := (hm1 0 (by omega)).2
  have y1 := (hm1 1 (by omega)).2
  generalize hnr : numR l = nr at HF hsz ⊢
  obtain ⟨n, sz⟩ := nr
  simp only at HF hsz ⊢
  have HB1 := hide hb1
  have Hm1 := hide hm1
  clear hb1 hc hf HN hz0 hz1 hm1
  have hsum : flt = true ∨ (flt = false ∧ (sz = 0 ∨ (sz ≠ 0 ∧ (n < low ∨ (¬ n < low ∧ (high < n ∨ ¬ high < n)))))) := by
    rcases flt with _ | _
    · refine .inr ⟨rfl, ?_⟩
      rcases Nat.eq_zero_or_pos sz with h | h
      · exact .inl h
      · refine .inr ⟨by omega, ?_⟩
        omega
    · exact .inl rfl
  have HBad : Hid ((flt = true ∨ sz = 0 ∨ n < low ∨ high < n) → readF low high l flt = (0, l, true)) := fun hb => by rw [HF.out, if_pos hb]
  have HWf : Hid (Only (· = rb) w (w1.setCell ⟨rb, 1, none⟩ (.bool true))) := (Only.new (S := (· = rb)) HB1.out).setCell (p := ⟨rb, 1, none⟩) (show rb = rb from rfl) _
  rcases hsum with rfl | ⟨rfl, hz | ⟨hz, hnl | ⟨hnl, hnh | hnh⟩⟩⟩
  · go_wp2_with fail
    go_ret
    rw [HBad.out (by simp)]
    exact ⟨rfl, HWf.out, H.out.fault HB1.out⟩
  · have d1 : ((sz : Int) == 0) = true := by rw [beq_iff_eq]; omega
    go_wp2_with fail
    go_ret
    rw [HBad.out (.inr (.inl hz))]
    exact ⟨rfl, HWf.out, H.out.fault HB1.out⟩
  · have d1 : ((sz : Int) == 0) = false := by rw [beq_eq_false_iff_ne]; omega
    have d2 : decide (n < low) = true := by simpa using hnl
    go_wp2_with fail
    go_ret
    rw [HBad.out (.inr (.inr (.inl hnl)))]
    exact ⟨rfl, HWf.out, H.out.fault HB1.out⟩
  · have d1 : ((sz : Int) == 0) = false := by rw [beq_eq_false_iff_ne]; omega
    have d2 : decide (n < low) = false := by simpa using hnl
    have d3 : decide (high < n) = true := by simpa using hnh
    go_wp2_with fail
    go_ret
    rw [HBad.out (.inr (.inr (.inr hnh)))]
    exact ⟨rfl, HWf.out, H.out.fault HB1.out⟩
  · have d1 : ((sz : Int) == 0) = false := by rw [beq_eq_false_iff_ne]; omega
    have d2 : decide (n < low) = false := by simpa using hnl
    have d3 : decide (high < n) = false := by simpa using hnh
    have hsi : (sz : Int) ≤ (l.length : Int) := by omega
    have hok : readF low high l false = (n, l.drop sz, false) := by
      rw [HF.out, if_neg]
      rintro (h | h | h | h)
      · cases h
      · exact hz h
      · exact hnl h
      · exact hnh h
    have Hok := hide hok
    have Hf1 := hide f1
    have hdl : (l.drop sz).length = l.length - sz := by simp
    have Hdl := hide hdl
    clear hok hdl
    go_wp2_with fail
    all_goals
      go_ret
      rw [Hok.out]
      refine ⟨rfl, (Only.new (S := (· = rb)) HB1.out).setCell (p := ⟨rb, 0, none⟩) (show rb = rb from rfl) _, ?_⟩
      have hrow1 : RowAt w1 g (off + sz) (byteV (l.drop sz)) := by
        intro j v hv
        have h1 := Hrow.out (sz + j) v (by rw [← hv]; simp [byteV])
        have h2 := below_at HB1.out h1 (lt_of_cell h1)
        rw [← Nat.add_assoc] at h2
        exact h2
      rw [← Hdl.out]
      first
        | exact H.out.next Hm1.out Hf1.out _ _ (by rw [Hdl.out]; omega) hrow1 (fun c hc => List.mem_of_mem_drop hc) (by rw [Hdl.out]; omega) (by have := H.out.glt; have := HB1.out.size; omega)
        | (refine H.out.next Hm1.out Hf1.out _ _ (by rw [Hdl.out]; omega) ?_ (fun c hc => List.mem_of_mem_drop hc) (by rw [Hdl.out]; omega) (by have := H.out.glt; have := HB1.out.size; omega)
           have h0 : l.drop sz = [] := List.eq_nil_of_length_eq_zero (by rw [Hdl.out]; omega)
           rw [h0]
           intro j v hv
           simp [byteV] at hv)
end Go.Proofs.Ytndlmgocldckfaa

namespace Go.Proofs.Ytndlmgocldckfaa
open Go.RowKit
set_option linter.unusedVariables false
set_option linter.unusedSimpArgs false

/-! wire.Open, of any bytes. -/

def strW (l : List Int) : ByteArray := ⟨(l.map fun b => UInt8.ofNat b.toNat).toArray⟩

theorem strW_inj {a b : List Int} (ha : ∀ c ∈ a, 0 ≤ c ∧ c < 256) (hb : ∀ c ∈ b, 0 ≤ c ∧ c < 256) (h : strW a = strW b) : a = b := by
  unfold strW at h
  have h1 : (a.map fun b => UInt8.ofNat b.toNat) = (b.map fun b => UInt8.ofNat b.toNat) := by
    have := congrArg (fun x : ByteArray => x.data.toList) h
    simpa using this
  clear h
  induction a generalizing b with
  | nil => cases b with
    | nil => rfl
    | cons y b => simp at h1
  | cons x a ih => cases b with
    | nil => simp at h1
    | cons y b =>
      simp only [List.map_cons, List.cons.injEq] at h1
      have hx := ha x (List.mem_cons_self ..)
      have hy := hb y (List.mem_cons_self ..)
      have e : x = y := by
        have := congrArg UInt8.toNat h1.1
        have e1 : (UInt8.ofNat x.toNat).toNat = x.toNat % 256 := UInt8.toNat_ofNat'
        have e2 : (UInt8.ofNat y.toNat).toNat = y.toNat % 256 := UInt8.toNat_ofNat'
        rw [e1, e2] at this
        omega
      rw [e, ih (fun c hc => ha c (List.mem_cons_of_mem _ hc)) (fun c hc => hb c (List.mem_cons_of_mem _ hc)) h1.2]

theorem strNe {a b : List Int} (ha : ∀ c ∈ a, 0 ≤ c ∧ c < 256) (hb : ∀ c ∈ b, 0 ≤ c ∧ c < 256) (h : ¬ a = b) : ((strW a).toList == (strW b).toList) = false := by
  rw [beq_eq_false_iff_ne]
  intro hc
  rw [ByteArray.toList_eq, ByteArray.toList_eq] at hc
  refine h (strW_inj ha hb ?_)
  exact ByteArray.ext (Array.ext' hc)

theorem conv_win {w : World} {g off cap : Nat} {l : List Int} (h : RowAt w g off (byteV l)) (hb : ∀ b ∈ l, 0 ≤ b ∧ b < 256) : (convert 46 9 (.slice (some ⟨g, off, none⟩) l.length cap)).run Try.prog w = .ok (.string (strW l)) w := by
  have := run_convert_bytes_back (P := Try.prog) w 46 9 5 ⟨g, off, none⟩ cap (l.map fun b => UInt8.ofNat b.toNat) Try.underlying46 Try.underlying5 Try.underlying9 (by
    intro j hj
    have hj' : j < l.length := by simpa using hj
    have hc := h j (.int .u8 l[j]) (by simp [byteV, hj'])
    have hx := hb l[j] (List.getElem_mem hj')
    rw [Addr.add_lit, hc]
    simp only [List.getElem_map]
    congr 2
    have h8 : (UInt8.ofNat l[j].toNat).toNat = l[j].toNat % 256 := UInt8.toNat_ofNat'
    rw [h8]
    omega)
  simpa [strW] using this

set_option maxHeartbeats 1000000 in
set_option maxRecDepth 100000 in
theorem bEqual_any (g1 o1 c1 g2 o2 c2 : Nat) (l l2 : List Int) (w : World) (h1 : RowAt w g1 o1 (byteV l)) (h2 : RowAt w g2 o2 (byteV l2)) (hb : ∀ b ∈ l, 0 ≤ b ∧ b < 256) (hb2 : ∀ b ∈ l2, 0 ≤ b ∧ b < 256) :
    Calls Try.prog 54 #[.slice (some ⟨g1, o1, none⟩) l.length c1, .slice (some ⟨g2, o2, none⟩) l2.length c2] w fun e w' => e = .returned (.bool (decide (l = l2))) ∧ Below w.heap.size w w' := by
  have k1 := conv_win (cap := c1) h1 hb
  have k2 := conv_win (cap := c2) h2 hb2
  have hd : decide (l = l2) = ((strW l).toList == (strW l2).toList) := by
    by_cases h : l = l2
    · subst h; simp
    · rw [strNe hb hb2 h]; simp [h]
  rw [hd]
  clear h1 h2 hd
  go_enter Try.func54, Try.ntmps54
  go_wp2
  go_ret
  exact ⟨rfl, Below.refl _ _⟩

def openE (hd l : List Int) : Int := if l.length < 8 ∨ l.take 4 ≠ hd then 4 else if l.drop (l.length - 4) ≠ sumB (l.take (l.length - 4)) then 5 else 0
def openL (l : List Int) : List Int := (l.take (l.length - 4)).drop 4

theorem openL_ok (hd body : List Int) (hhl : hd.length = 4) : openL ((hd ++ body) ++ sumB (hd ++ body)) = body := by
  unfold openL
  rw [List.length_append, sumB_len, Nat.add_sub_cancel, List.take_left, List.drop_left' hhl]
theorem openE_ok (hd body : List Int) (hhl : hd.length = 4) : openE hd ((hd ++ body) ++ sumB (hd ++ body)) = 0 := by
  unfold openE
  rw [if_neg, if_neg]
  · rw [List.length_append, sumB_len, Nat.add_sub_cancel, List.take_left, List.drop_left]
    simp
  · rintro (h | h)
    · simp [sumB_len, hhl] at h; omega
    · apply h
      rw [List.append_assoc, List.take_left' hhl]

set_option maxHeartbeats 1000000 in
set_option maxRecDepth 100000 in
theorem open_short (sa : Option Addr) (n cap : Nat) (s : ByteArray) (w : World) (hs : s.size = 4) (hn : n < 8) :
    Calls Try.prog 33 #[.string s, .slice sa n cap] w fun e w' => e = .returned (.tuple #[.pointer none, .int .i64 4]) ∧ Below w.heap.size w w' := by
  have hw1 : IntKind.i64.wrap ((n : Int) - 4) = (n : Int) - 4 := by rw [IntKind.wrap_i64]; omega
  have dd1 : decide ((n : Int) - 4 < 4) = true := by simp; omega
  go_enter Try.func33, Try.ntmps33
  go_wp2_with fail
  go_ret2
  exact ⟨rfl, Below.refl _ _⟩

set_option maxHeartbeats 4000000 in
set_option maxRecDepth 100000 in
theorem open_any (g off cap : Nat) (hd l : List Int) (w : World) (hr : RowAt w g off (byteV l)) (hcap : l.length ≤ cap) (hb : ∀ b ∈ l, 0 ≤ b ∧ b < 256) (hl : l.length ≤ 1000000000000000) (s : ByteArray) (hs : s = strW hd) (hhl : hd.length = 4) (hhb : ∀ b ∈ hd, 0 ≤ b ∧ b < 256) (hgl : g < w.heap.size) :
    Calls Try.prog 33 #[.string s, .slice (some ⟨g, off, none⟩) l.length cap] w fun e w' => ∃ p, e = .returned (.tuple #[.pointer p, .int .i64 (openE hd l)]) ∧ Below w.heap.size w w' ∧ (openE hd l ≠ 0 → p = none) ∧ (openE hd l = 0 → ∃ rb, p = some ⟨rb, 0, none⟩ ∧ w.heap.size ≤ rb ∧ RdP w' rb g (openL l) false) := by
  have hss : s.size = 4 := by rw [hs]; simp [strW, ByteArray.size, hhl]
  by_cases h8 : l.length < 8
  · have hE : openE hd l = 4 := by unfold openE; rw [if_pos (.inl h8)]
    rw [hE]
    refine (open_short _ _ _ s w hss h8).mono ?_
    rintro e w' ⟨rfl, hb⟩
    exact ⟨none, rfl, hb, fun _ => rfl, fun h => by cases h⟩
  obtain ⟨n, hn⟩ : ∃ n, l.length = n + 8 := ⟨l.length - 8, by omega⟩
  have hrow4 : RowAt w g off (byteV (l.take 4)) := by
    intro j v hv
    refine hr j v ?_
    have hj := (List.getElem?_eq_some_iff.1 hv).1
    simp only [byteV, List.length_map, List.length_take] at hj
    rw [← hv]
    simp only [byteV, List.getElem?_map, List.getElem?_take]
    rw [if_pos (by omega)]
  have hl4 : (l.take 4).length = 4 := by simp; omega
  have k1 := conv_win (cap := cap) hrow4 (fun b hb' => hb b (List.mem_of_mem_take hb'))
  rw [hl4] at k1
  have hw1 : IntKind.i64.wrap ((n : Int) + 8 - 4) = (n : Int) + 4 := by rw [IntKind.wrap_i64]; omega
  have dd1 : decide ((n : Int) + 4 < 4) = false := by simp; omega
  have hc1 : (n : Int) + 8 ≤ (cap : Int) := by omega
  have hc2 : (n : Int) + 4 ≤ (cap : Int) := by omega
  have hc4 : (4 : Int) ≤ (cap : Int) := by omega
  rw [hn]
  by_cases h4 : l.take 4 = hd
  rotate_left
  · have hE : openE hd l = 4 := by unfold openE; rw [if_pos (.inr h4)]
    have hbe : ((strW (l.take 4)).toList == s.toList) = false := by rw [hs]; exact strNe (fun b hb' => hb b (List.mem_of_mem_take hb')) hhb h4
    rw [hE]
    generalize strW (l.take 4) = s4 at k1 hbe
    clear hE h4 hrow4 hr hs
    go_enter Try.func33, Try.ntmps33
    go_wp2_with fail
    go_ret2
    exact ⟨none, rfl, Below.refl _ _, fun _ => rfl, fun h => by cases h⟩
  have hbe : strW (l.take 4) = s := by rw [hs, h4]
  rw [hbe] at k1
  obtain ⟨hd', hhd⟩ : ∃ hd', hd' = l.take (l.length - 4) := ⟨_, rfl⟩
  have hdl : hd'.length = n + 4 := by rw [hhd]; simp; omega
  have hdb : ∀ b ∈ hd', 0 ≤ b ∧ b < 256 := fun b hb' => hb b (by rw [hhd] at hb'; exact List.mem_of_mem_take hb')
  have hrow1 : RowAt w g off (byteV hd') := by
    intro j v hv
    refine hr j v ?_
    have hj := (List.getElem?_eq_some_iff.1 hv).1
    simp only [byteV, List.length_map] at hj
    rw [← hv, hhd]
    simp only [byteV, List.getElem?_map, List.getElem?_take]
    rw [if_pos (by omega)]
  obtain ⟨tl, htl⟩ : ∃ tl, tl = l.drop (l.length - 4) := ⟨_, rfl⟩
  have htll : tl.length = 4 := by rw [htl]; simp; omega
  have htb : ∀ b ∈ tl, 0 ≤ b ∧ b < 256 := fun b hb' => hb b (by rw [htl] at hb'; exact List.mem_of_mem_drop hb')
  have hrowS : RowAt w g (off + (n + 4)) (byteV tl) := by
    intro j v hv
    have := hr (n + 4 + j) v (by rw [← hv, htl]; simp only [byteV, List.getElem?_map, List.getElem?_drop]; rw [show l.length - 4 + j = n + 4 + j by omega])
    rw [← Nat.add_assoc] at this
    exact this
  have hrowB : RowAt w g (off + 4) (byteV (openL l)) := by
    intro j v hv
    have := hrow1 (4 + j) v (by rw [← hv, hhd]; simp only [openL, byteV, List.getElem?_map, List.getElem?_drop])
    rw [← Nat.add_assoc] at this
    exact this
  have hol : (openL l).length = n := by simp [openL]; omega
  have HOb : Hid (∀ b ∈ openL l, 0 ≤ b ∧ b < 256) := fun b hb' => hb b (List.mem_of_mem_take (List.mem_of_mem_drop hb'))
  have HE : Hid (openE hd l = if tl = sumB hd' then 0 else 5) := by
    show _ = _
    unfold openE
    rw [if_neg (fun h => h.elim h8 (fun h => h h4)), ← htl, ← hhd]
    by_cases h : tl = sumB hd'
    · rw [if_neg (by simpa using h), if_pos h]
    · rw [if_pos h, if_neg h]
  have HS := hide (sum_any w g off cap hd' hrow1 (by omega) hdb)
  have HrowS := hide hrowS
  have HrowB := hide hrowB
  have Htb := hide htb
  have Hhd := hide hhd
  have Htl := hide htl
  clear hr hrow4 hrow1 hrowS hrowB hb hhd hdb hs htb htl hbe h4
  go_enter Try.func33, Try.ntmps33
  go_wp2_with fail
  have HS2 := HS.out
  rw [hdl] at HS2
  refine HS2.mono ?_
  rintro e w1 ⟨rfl, hb1⟩
  have hz1 := hb1.size
  have HsB : Hid (sumB hd' = [sumF hd' / 16777216 % 256, sumF hd' / 65536 % 256, sumF hd' / 256 % 256, sumF hd' % 256]) := by show _ = _; rfl
  have HsBb := hide (sumB_bytes hd')
  generalize sumF hd' / 16777216 % 256 = z0 at HsB ⊢
  generalize sumF hd' / 65536 % 256 = z1 at HsB ⊢
  generalize sumF hd' / 256 % 256 = z2 at HsB ⊢
  generalize sumF hd' % 256 = z3 at HsB ⊢
  have HB1 := hide hb1
  clear hb1 HS HS2 k1
  go_wp2_with fail
  obtain ⟨W2, hW2⟩ : ∃ W2, W2 = w1.alloc (.cells #[.int .u8 z0, .int .u8 z1, .int .u8 z2, .int .u8 z3] 115) := ⟨_, rfl⟩
  have hb2 : Below w1.heap.size w1 W2 := by rw [hW2]; exact (Below.refl _ _).alloc (Nat.le_refl _) _
  have hz2 : W2.heap.size = w1.heap.size + 1 := by rw [hW2]; simp
  have HBW : Hid (Below w.heap.size w W2) := HB1.out.trans (hb2.mono hz1)
  have HEq : Hid (∀ c1, Calls Try.prog 54 #[.slice (some ⟨g, off + (n + 4), none⟩) 4 c1, .slice (some ⟨w1.heap.size, 0, none⟩) 4 4] W2.drew fun e w' => e = .returned (.bool (decide (tl = sumB hd'))) ∧ Below W2.heap.size W2 w') := by
    intro c1
    have h1 : RowAt W2.drew g (off + (n + 4)) (byteV tl) := by
      intro j v hv
      have := HrowS.out j v hv
      exact below_at HBW.out this (lt_of_cell this)
    have h2 : RowAt W2.drew w1.heap.size 0 (byteV (sumB hd')) := by
      rw [HsB.out]
      intro j v hv
      rw [hW2, Nat.zero_add]
      match j, hv with
      | 0, hv => simp [byteV] at hv; subst hv; simp [go_sem]
      | 1, hv => simp [byteV] at hv; subst hv; simp [go_sem]
      | 2, hv => simp [byteV] at hv; subst hv; simp [go_sem]
      | 3, hv => simp [byteV] at hv; subst hv; simp [go_sem]
      | j + 4, hv => simp [byteV] at hv
    have := bEqual_any g (off + (n + 4)) c1 w1.heap.size 0 4 tl (sumB hd') W2.drew h1 h2 Htb.out HsBb.out
    rw [htll] at this
    refine this.mono ?_
    rintro e w' ⟨rfl, hb⟩
    exact ⟨rfl, (Below.refl _ _).drew.trans hb⟩
  rw [← hW2]
  have h84 : n + 8 - (n + 4) = 4 := by omega
  have hc3 : (n : Int) + 4 ≤ (n : Int) + 8 := by omega
  have hcne : ¬ cap = n + 4 := by omega
  have hc00 : (0 : Int) ≤ (n : Int) + 4 := by omega
  have hcN : n + 4 ≤ n + 8 := by omega
  have hcN2 : n + 8 ≤ cap := by omega
  have hcN3 : n + 4 ≤ cap := by omega
  have htn : ((n : Int) + 4).toNat = n + 4 := by omega
  generalize hdec : decide (tl = sumB hd') = dec at HEq
  have Hdec := hide hdec
  clear hW2 hb2 hdec
  go_region_held3 (fun _ => True)
    (exact trivial)
    (first | (go_at_call 54; refine (HEq.out _).mono ?_; rintro e' w3 ⟨rfl, hb3⟩))
  have HB3 : Hid (Below w.heap.size w w3) := HBW.out.trans (hb3.mono (by omega))
  have hz3 := hb3.size
  clear hb3 HEq
  rcases dec with _ | _
  · have hE : openE hd l = 5 := by rw [HE.out, if_neg (by simpa using Hdec.out)]
    go_wp2_with fail
    go_ret2
    exact ⟨none, by rw [hE]; rfl, HB3.out, fun _ => rfl, fun h => by rw [hE] at h; cases h⟩
  · have hE : openE hd l = 0 := by rw [HE.out, if_pos (by simpa using Hdec.out)]
    go_wp2_with fail
    go_ret2
    obtain ⟨W4, hW4⟩ : ∃ W4, W4 = w3.alloc (.cells #[.slice (some ⟨g, off + 4, none⟩) n (cap - 4), .bool false] 119) := ⟨_, rfl⟩
    have hb4 : Below w3.heap.size w3 W4 := by rw [hW4]; exact (Below.refl _ _).alloc (Nat.le_refl _) _
    have hz4 : W4.heap.size = w3.heap.size + 1 := by rw [hW4]; simp
    have hBf : Below w.heap.size w W4 := HB3.out.trans (hb4.mono (by omega))
    have q0 : W4.cell? ⟨w3.heap.size, 0, none⟩ = some (.slice (some ⟨g, off + 4, none⟩) n (cap - 4)) := by rw [hW4]; simp [go_sem]
    have q1 : W4.cell? ⟨w3.heap.size, 1, none⟩ = some (.bool false) := by rw [hW4]; simp [go_sem]
    have qr : Room W4 w3.heap.size 2 := by
      rw [hW4]
      intro j hj
      have : j = 0 ∨ j = 1 := by omega
      rcases this with rfl | rfl <;> simp [go_sem]
    rw [← hW4]
    refine ⟨some ⟨w3.heap.size, 0, none⟩, by rw [hE]; rfl, hBf, fun h => absurd hE h, fun _ => ⟨w3.heap.size, rfl, by omega, ⟨⟨off + 4, cap - 4, by rw [hol]; exact q0, by omega, ?_⟩, q1, qr, by omega, HOb.out, by omega, by omega⟩⟩⟩
    intro j v hv
    have := HrowB.out j v hv
    exact below_at hBf this (lt_of_cell this)
end Go.Proofs.Ytndlmgocldckfaa

namespace Go.Proofs.Ytndlmgocldckfaa
open Go.RowKit
set_option linter.unusedVariables false
set_option linter.unusedSimpArgs false

theorem RdP.only {w w' : World} {rb g : Nat} {l : List Int} {flt : Bool} {U : Nat → Prop} (h : RdP w rb g l flt) (ho : Only U w w') (hr : ¬ U rb) (hg : ¬ U g) : RdP w' rb g l flt := by
  obtain ⟨off, cap, hc, hlc, hrow⟩ := h.cell
  exact ⟨⟨off, cap, ho.at hc hr, hlc, hrow.only ho hg⟩, ho.at h.flt hr, h.room.only ho hr, h.ne, h.bytes, h.len, Nat.lt_of_lt_of_le h.glt ho.size⟩
theorem RdP.lt {w : World} {rb g : Nat} {l : List Int} {flt : Bool} (h : RdP w rb g l flt) : rb < w.heap.size := lt_of_cell h.flt

theorem readF_le (low high : Int) (hl : 0 ≤ low) (l : List Int) (flt : Bool) : (readF low high l flt).1 = 0 ∨ (low ≤ (readF low high l flt).1 ∧ (readF low high l flt).1 ≤ high) := by
  unfold readF
  split
  · simp
  · rename_i h
    simp only [not_or] at h
    right; simp only; omega

def unsI (v : Int) : Int := if v % 2 = 1 then -((v + 1) / 2) else v / 2
def readS (most : Int) (l : List Int) (flt : Bool) : Int × List Int × Bool := (unsI (readF 0 (2 * most) l flt).1, (readF 0 (2 * most) l flt).2)

set_option maxRecDepth 100000 in
set_option maxHeartbeats 4000000 in
theorem rSgn_any (rb g : Nat) (l : List Int) (flt : Bool) (w : World) (h : RdP w rb g l flt) :
    Calls Try.prog 56 #[.pointer (some ⟨rb, 0, none⟩), .int .i64 1000000000] w fun e w' => e = .returned (.int .i64 (readS 1000000000 l flt).1) ∧ Only (· = rb) w w' ∧ RdP w' rb g (readS 1000000000 l flt).2.1 (readS 1000000000 l flt).2.2 := by
  have H := hide h
  have hle := readF_le 0 2000000000 (by omega) l flt
  have HS : Hid (readS 1000000000 l flt = (unsI (readF 0 2000000000 l flt).1, (readF 0 2000000000 l flt).2)) := by show _ = _; rfl
  clear h
  go_enter Try.func56, Try.ntmps56
  go_wp2_with fail
  refine (rNum_any rb g l flt 0 2000000000 w H.out).mono ?_
  rintro e w1 ⟨rfl, ho1, hr1⟩
  have HO1 := hide ho1
  have HR1 := hide hr1
  clear ho1 hr1
  generalize readF 0 2000000000 l flt = p at hle HS HR1 ⊢
  obtain ⟨v, l', f'⟩ := p
  simp only at hle HS HR1 ⊢
  have hv : 0 ≤ v ∧ v ≤ 2000000000 := by omega
  obtain ⟨hv0, hv1⟩ := hv
  have t1 : v.tmod 2 = v % 2 := Int.tmod_eq_emod_of_nonneg hv0
  have w1' : IntKind.i64.wrap (v % 2) = v % 2 := by rw [IntKind.wrap_i64]; omega
  by_cases hodd : v % 2 = 1
  · have d1 : (v % 2 == 1) = true := by rw [beq_iff_eq]; exact hodd
    have w2 : IntKind.i64.wrap (v + 1) = v + 1 := by rw [IntKind.wrap_i64]; omega
    have w3 : IntKind.i64.wrap (-(v + 1)) = -(v + 1) := by rw [IntKind.wrap_i64]; omega
    have t2 : (-(v + 1)).tdiv 2 = -((v + 1) / 2) := by
      rw [Int.neg_tdiv, Int.tdiv_eq_ediv_of_nonneg (by omega)]
    have w4 : IntKind.i64.wrap (-((v + 1) / 2)) = -((v + 1) / 2) := by rw [IntKind.wrap_i64]; omega
    go_wp2_with fail
    go_ret
    rw [HS.out]
    refine ⟨?_, HO1.out, HR1.out⟩
    simp [unsI, hodd, w2, w3, t2, w4]
  · have d1 : (v % 2 == 1) = false := by rw [beq_eq_false_iff_ne]; exact hodd
    have t2 : v.tdiv 2 = v / 2 := Int.tdiv_eq_ediv_of_nonneg hv0
    have w4 : IntKind.i64.wrap (v / 2) = v / 2 := by rw [IntKind.wrap_i64]; omega
    go_wp2_with fail
    go_ret
    rw [HS.out]
    refine ⟨?_, HO1.out, HR1.out⟩
    simp [unsI, hodd, t2, w4]

set_option maxRecDepth 100000 in
set_option maxHeartbeats 4000000 in
theorem rEnd_any (rb g : Nat) (l : List Int) (flt : Bool) (w : World) (h : RdP w rb g l flt) :
    Calls Try.prog 38 #[.pointer (some ⟨rb, 0, none⟩)] w fun e w' => e = .returned (.bool (!flt && l.isEmpty)) ∧ Below w.heap.size w w' := by
  obtain ⟨off, cap, hc, hlc, hrow⟩ := h.cell
  have hf := h.flt
  clear h hrow
  rcases flt with _ | _
  · rcases l with _ | ⟨x, l⟩
    · go_enter Try.func38, Try.ntmps38
      go_wp2
      go_ret
      exact ⟨rfl, Below.refl _ _⟩
    · have d : (((l.length : Int) + 1) == 0) = false := by rw [beq_eq_false_iff_ne]; omega
      simp only [List.length_cons] at hc
      go_enter Try.func38, Try.ntmps38
      go_wp2
      go_ret
      exact ⟨by simp [d], Below.refl _ _⟩
  · go_enter Try.func38, Try.ntmps38
    go_wp2
    go_ret
    exact ⟨rfl, Below.refl _ _⟩
end Go.Proofs.Ytndlmgocldckfaa

namespace Go.Proofs.Ytndlmgocldckfaa
open Go.RowKit
set_option linter.unusedVariables false
set_option linter.unusedSimpArgs false

def lessF (later an : Int) : Int := if later = 0 then an + 1 else 1
def evRF (ents : Int) (nk : Nat) (next t an : Int) (l : List Int) (flt : Bool) : Ev × List Int × Bool :=
  let a := readF 0 (1000000000000 - t) l flt
  let b := readF (lessF a.1 an) (next - 1) a.2.1 a.2.2
  let c := readF 0 (nk - 1) b.2.1 b.2.2
  let d := readF 0 (ents - 1) c.2.1 c.2.2
  (⟨t + a.1, b.1, c.1, d.1⟩, d.2)

set_option maxRecDepth 100000 in
set_option maxHeartbeats 4000000 in
theorem rEv_any {R : Nat → Prop} {base : Nat} (kb qb mb : Nat) (ov : Value) (ents : Int) (ks : List (List Ins)) (draws : List Int) (s : KS) (rb g : Nat) (l : List Int) (flt : Bool) (t an k0 e0 : Int) (w : World) (h : KerP R base w kb qb mb ov ents ks draws s) (he : 1 ≤ ents ∧ ents ≤ 8) (hk : ks.length ≤ 8) (hr : RdP w rb g l flt) (hne : rb ≠ kb) (ht : 0 ≤ t ∧ t ≤ 1000000000000) (ha : 0 ≤ an ∧ an ≤ 1000000000) (hnx : 0 ≤ s.next ∧ s.next ≤ 1000000000) :
    Calls Try.prog 72 #[.pointer (some ⟨kb, 0, none⟩), .pointer (some ⟨rb, 0, none⟩), .agg #[.int .i64 an, .int .i64 t, .int .i64 k0, .int .i64 e0]] w fun e w' => e = .returned (evVal (evRF ents ks.length s.next t an l flt).1) ∧ Only (· = rb) w w' ∧ RdP w' rb g (evRF ents ks.length s.next t an l flt).2.1 (evRF ents ks.length s.next t an l flt).2.2 := by
  obtain ⟨kv, hkv, hkin⟩ := h.kinds
  obtain ⟨ka, kc, rfl⟩ := hkin.form
  have c0 := h.c0
  have c5 := h.c5
  have hkl := h.klt
  have hrl := hr.lt
  have HR := hide hr
  clear h hr hkin
  have hw1 : IntKind.i64.wrap (1000000000000 - t) = 1000000000000 - t := by rw [IntKind.wrap_i64]; omega
  have hw2 : IntKind.i64.wrap (an + 1) = an + 1 := by rw [IntKind.wrap_i64]; omega
  have hw3 : IntKind.i64.wrap (s.next - 1) = s.next - 1 := by rw [IntKind.wrap_i64]; omega
  have hw4 : IntKind.i64.wrap ((ks.length : Int) - 1) = (ks.length : Int) - 1 := by rw [IntKind.wrap_i64]; omega
  have hw5 : IntKind.i64.wrap (ents - 1) = ents - 1 := by rw [IntKind.wrap_i64]; omega
  rcases ea : readF 0 (1000000000000 - t) l flt with ⟨v1, l1, f1⟩
  rcases eb : readF (lessF v1 an) (s.next - 1) l1 f1 with ⟨v2, l2, f2⟩
  rcases ec : readF 0 ((ks.length : Int) - 1) l2 f2 with ⟨v3, l3, f3⟩
  rcases ed : readF 0 (ents - 1) l3 f3 with ⟨v4, l4, f4⟩
  have HE : Hid (evRF ents ks.length s.next t an l flt = (⟨t + v1, v2, v3, v4⟩, l4, f4)) := by show _ = _; simp [evRF, ea, eb, ec, ed]
  have hl1 := readF_le 0 (1000000000000 - t) (by omega) l flt
  rw [ea] at hl1
  simp only at hl1
  have HA := hide ea
  have HBb := hide eb
  have HCc := hide ec
  have HDd := hide ed
  clear ea eb ec ed
  have hw6 : IntKind.i64.wrap (t + v1) = t + v1 := by rw [IntKind.wrap_i64]; omega
  go_enter Try.func72, Try.ntmps72
  go_wp2_with fail
  obtain ⟨W0, hW0⟩ : ∃ W0, W0 = (w.alloc (.cells #[.int .i64 an, .int .i64 t, .int .i64 k0, .int .i64 e0] 127)).alloc (.cells #[.int .i64 0, .int .i64 0, .int .i64 0, .int .i64 0] 127) := ⟨_, rfl⟩
  have hb0 : Below w.heap.size w W0 := by rw [hW0]; exact ((Below.refl _ _).alloc (Nat.le_refl _) _).alloc (by simp) _
  have hz0 : W0.heap.size = w.heap.size + 2 := by rw [hW0]; simp
  have x0 : W0.cell? ⟨w.heap.size, 0, none⟩ = some (.int .i64 an) := by rw [hW0]; simp [go_sem]
  have x1 : W0.cell? ⟨w.heap.size, 1, none⟩ = some (.int .i64 t) := by rw [hW0]; simp [go_sem]
  have xr : Room W0 (w.heap.size + 1) 4 := by
    rw [hW0]
    intro j hj
    have : j = 0 ∨ j = 1 ∨ j = 2 ∨ j = 3 := by omega
    rcases this with rfl | rfl | rfl | rfl <;> simp [go_sem]
  rw [← hW0]
  clear hW0
  have n1 := below_at hb0 hkv hkl
  have n0 := below_at hb0 c0 hkl
  have n5 := below_at hb0 c5 hkl
  have HB0 := hide hb0
  have HR0 := hide (HR.out.only (Only.new (S := fun _ => False) hb0) (by simp) (by simp))
  clear hb0 hkv c0 c5
  refine (rNum_any rb g l flt 0 (1000000000000 - t) W0 HR0.out).mono ?_
  rintro e w1 ⟨rfl, ho1, hr1⟩
  rw [HA.out] at hr1 ⊢
  simp only at hr1 ⊢
  have y0 := ho1.at x0 (by omega)
  have y1 := ho1.at x1 (by omega)
  have yr := hide (xr.only ho1 (by omega))
  have m0 := ho1.at n0 (Ne.symm hne)
  have m1 := ho1.at n1 (Ne.symm hne)
  have m5 := ho1.at n5 (Ne.symm hne)
  have hz1 := ho1.size
  have HO1 := hide ((Only.new (S := (· = rb)) HB0.out).trans ho1)
  have HR1 := hide hr1
  clear x0 x1 xr n0 n1 n5 ho1 hr1
  obtain ⟨ls, hls⟩ : ∃ ls, ls = lessF v1 an := ⟨_, rfl⟩
  rw [← hls] at HBb
  have key : ∀ (Q : Prop), (v1 = 0 → ls = an + 1 → Q) → (v1 ≠ 0 → ls = 1 → Q) → Q := by
    intro Q q1 q2
    by_cases h : v1 = 0
    · exact q1 h (by rw [hls]; simp [lessF, h])
    · exact q2 h (by rw [hls]; simp [lessF, h])
  have Hls := hide hls
  clear hls
  have hkb1 : kb < w1.heap.size := by omega
  have A5 : ∀ o, (w1.alloc o).cell? ⟨kb, 5, none⟩ = some (.int .i64 s.next) := fun o => below_at ((Below.refl w1.heap.size w1).alloc (Nat.le_refl _) o) m5 hkb1
  apply key
  all_goals
    intro hv hl
    subst hl
    first
      | (have d1 : (v1 == 0) = true := by rw [beq_iff_eq]; exact hv)
      | (have d1 : (v1 == 0) = false := by rw [beq_eq_false_iff_ne]; exact hv)
    have Hv := hide hv
    clear key hv
    go_wp2_with fail
    obtain ⟨W1, hW1⟩ : ∃ W1, W1 = w1.alloc (.cells #[.int .i64 0, .int .i64 (t + v1), .int .i64 0, .int .i64 0] 127) := ⟨_, rfl⟩
    have hb1 : Below w1.heap.size w1 W1 := by rw [hW1]; exact (Below.refl _ _).alloc (Nat.le_refl _) _
    have hzW : W1.heap.size = w1.heap.size + 1 := by rw [hW1]; simp
    have er : Room W1 w1.heap.size 4 := by
      rw [hW1]
      intro j hj
      have : j = 0 ∨ j = 1 ∨ j = 2 ∨ j = 3 := by omega
      rcases this with rfl | rfl | rfl | rfl <;> simp [go_sem]
    have e1 : W1.cell? ⟨w1.heap.size, 1, none⟩ = some (.int .i64 (t + v1)) := by rw [hW1]; simp [go_sem]
    rw [← hW1]
    clear hW1 A5
    have p0 := below_at hb1 m0 hkb1
    have p1 := below_at hb1 m1 hkb1
    have HRW := hide (HR1.out.only (Only.new (S := fun _ => False) hb1) (by simp) (by simp))
    have HOW := hide (HO1.out.trans (Only.new hb1))
    have hrr := yr.out.below hb1 (by omega)
    clear m0 m1 m5 y0 y1 hb1
    refine (rNum_any rb g l1 f1 _ (s.next - 1) W1 HRW.out).mono ?_
    rintro e w2 ⟨rfl, ho2, hr2⟩
    rw [HBb.out] at hr2 ⊢
    simp only at hr2 ⊢
    have hz2 := ho2.size
    have er2 := er.only ho2 (by omega)
    have e2 := ho2.at e1 (by omega)
    have q0 := ho2.at p0 (Ne.symm hne)
    have q1 := ho2.at p1 (Ne.symm hne)
    have hrr2 := hrr.only ho2 (by omega)
    have z20 := (er2 0 (by omega)).2
    obtain ⟨u20, hu20⟩ := Option.isSome_iff_exists.1 (er2 0 (by omega)).1
    have A1 : ∀ v, (w2.setCell ⟨w1.heap.size, 0, none⟩ v).cell? ⟨kb, 1, none⟩ = some (.slice ka ks.length kc) := fun v => by rw [World.cell?_setCell_other _ _ _ _ (by simp <;> omega)]; exact q1
    have HR2 := hide hr2
    have HO2 := hide (HOW.out.trans ho2)
    have Her2 := hide er2
    have Hrr2 := hide hrr2
    clear ho2 hr2 er e1 p0 p1 hrr HRW HOW er2 hrr2
    go_wp2_with fail
    obtain ⟨W2, hW2⟩ : ∃ W2, W2 = w2.setCell ⟨w1.heap.size, 0, none⟩ (.int .i64 v2) := ⟨_, rfl⟩
    have hoW2 : Only (· = w1.heap.size) w2 W2 := by rw [hW2]; exact (Only.refl (· = w1.heap.size) w2).setCell (p := ⟨w1.heap.size, 0, none⟩) (show w1.heap.size = w1.heap.size from rfl) _
    have k20 : W2.cell? ⟨w1.heap.size, 0, none⟩ = some (.int .i64 v2) := by rw [hW2]; exact World.cell?_setCell_same' _ _ _ (Her2.out 0 (by omega)).1
    have k21 : W2.cell? ⟨w1.heap.size, 1, none⟩ = some (.int .i64 (t + v1)) := by rw [hW2, World.cell?_setCell_other _ _ _ _ (by simp)]; exact e2
    have erW : Room W2 w1.heap.size 4 := by rw [hW2]; exact Her2.out.setCell _ _
    have hzW2 := hoW2.size
    rw [← hW2]
    clear hW2 A1
    have hgl := HR.out.glt
    have HRW2 := hide (HR2.out.only hoW2 (by omega) (by omega))
    have r0 := hoW2.at q0 (by omega)
    have HOW2 : Hid (Only (· = rb) w W2) := HO2.out.chain hoW2 (fun i hi hc => by omega)
    have hrrW := Hrr2.out.only hoW2 (by omega)
    clear hoW2 q0 q1 e2 hu20 z20
    refine (rNum_any rb g l2 f2 0 _ W2 HRW2.out).mono ?_
    rintro e w3 ⟨rfl, ho3, hr3⟩
    rw [HCc.out] at hr3 ⊢
    simp only at hr3 ⊢
    have hz3 := ho3.size
    have er3 := erW.only ho3 (by omega)
    have e30 := ho3.at k20 (by omega)
    have e31 := ho3.at k21 (by omega)
    have s0 := ho3.at r0 (Ne.symm hne)
    have hrr3 := hrrW.only ho3 (by omega)
    have z32 := (er3 2 (by omega)).2
    obtain ⟨u32, hu32⟩ := Option.isSome_iff_exists.1 (er3 2 (by omega)).1
    have A0 : ∀ v, (w3.setCell ⟨w1.heap.size, 2, none⟩ v).cell? ⟨kb, 0, none⟩ = some (.int .i64 ents) := fun v => by rw [World.cell?_setCell_other _ _ _ _ (by simp <;> omega)]; exact s0
    have HR3 := hide hr3
    have HO3 := hide (HOW2.out.trans ho3)
    have Her3 := hide er3
    have Hrr3 := hide hrr3
    clear ho3 hr3 erW r0 hrrW er3 hrr3 k20 k21
    go_wp2_with fail
    obtain ⟨W3, hW3⟩ : ∃ W3, W3 = w3.setCell ⟨w1.heap.size, 2, none⟩ (.int .i64 v3) := ⟨_, rfl⟩
    have hoW3 : Only (· = w1.heap.size) w3 W3 := by rw [hW3]; exact (Only.refl (· = w1.heap.size) w3).setCell (p := ⟨w1.heap.size, 2, none⟩) (show w1.heap.size = w1.heap.size from rfl) _
    have k30 : W3.cell? ⟨w1.heap.size, 0, none⟩ = some (.int .i64 v2) := by rw [hW3, World.cell?_setCell_other _ _ _ _ (by simp)]; exact e30
    have k31 : W3.cell? ⟨w1.heap.size, 1, none⟩ = some (.int .i64 (t + v1)) := by rw [hW3, World.cell?_setCell_other _ _ _ _ (by simp)]; exact e31
    have k32 : W3.cell? ⟨w1.heap.size, 2, none⟩ = some (.int .i64 v3) := by rw [hW3]; exact World.cell?_setCell_same' _ _ _ (Her3.out 2 (by omega)).1
    have erW3 : Room W3 w1.heap.size 4 := by rw [hW3]; exact Her3.out.setCell _ _
    have hzW3 := hoW3.size
    rw [← hW3]
    clear hW3 A0
    have HRW3 := hide (HR3.out.only hoW3 (by omega) (by omega))
    have HOW3 : Hid (Only (· = rb) w W3) := HO3.out.chain hoW3 (fun i hi hc => by omega)
    have hrrW3 := Hrr3.out.only hoW3 (by omega)
    clear hoW3 s0 e30 e31 hu32 z32
    refine (rNum_any rb g l3 f3 0 _ W3 HRW3.out).mono ?_
    rintro e w4 ⟨rfl, ho4, hr4⟩
    rw [HDd.out] at hr4 ⊢
    simp only at hr4 ⊢
    have hz4 := ho4.size
    have er4 := erW3.only ho4 (by omega)
    have e40 := ho4.at k30 (by omega)
    have e41 := ho4.at k31 (by omega)
    have e42 := ho4.at k32 (by omega)
    have hrr4 := hrrW3.only ho4 (by omega)
    have z43 := (er4 3 (by omega)).2
    obtain ⟨u43, hu43⟩ := Option.isSome_iff_exists.1 (er4 3 (by omega)).1
    obtain ⟨s0, g0⟩ := hrr4 0 (by omega)
    obtain ⟨s1, g1⟩ := hrr4 1 (by omega)
    obtain ⟨s2, g2⟩ := hrr4 2 (by omega)
    obtain ⟨s3, g3⟩ := hrr4 3 (by omega)
    obtain ⟨t0, i0⟩ := Option.isSome_iff_exists.1 s0
    obtain ⟨t1, i1⟩ := Option.isSome_iff_exists.1 s1
    obtain ⟨t2, i2⟩ := Option.isSome_iff_exists.1 s2
    obtain ⟨t3, i3⟩ := Option.isSome_iff_exists.1 s3
    have HR4 := hide hr4
    have HO4 := hide (HOW3.out.trans ho4)
    have Her4 := hide er4
    have Hrr4 := hide hrr4
    have hw1w : ¬ w1.heap.size = w.heap.size + 1 := by omega
    clear ho4 hr4 erW3 hrrW3 er4 hrr4 k30 k31 k32 s0 s1 s2 s3
    go_wp2_with fail
    obtain ⟨W4, hW4⟩ : ∃ W4, W4 = w4.setCell ⟨w1.heap.size, 3, none⟩ (.int .i64 v4) := ⟨_, rfl⟩
    have hoW4 : Only (· = w1.heap.size) w4 W4 := by rw [hW4]; exact (Only.refl (· = w1.heap.size) w4).setCell (p := ⟨w1.heap.size, 3, none⟩) (show w1.heap.size = w1.heap.size from rfl) _
    rw [← hW4]
    clear hW4
    have hrr5 := Hrr4.out.only hoW4 (by omega)
    have hzW4 := hoW4.size
    obtain ⟨WZ, hWZ⟩ : ∃ WZ, WZ = set4 W4 (w.heap.size + 1) 0 ⟨v2, t + v1, v3, v4⟩ := ⟨_, rfl⟩
    obtain ⟨t0', t1', t2', t3'⟩ := set4_same W4 (w.heap.size + 1) 0 4 ⟨v2, t + v1, v3, v4⟩ hrr5 (by omega)
    have hoZ : Only (· = w.heap.size + 1) W4 WZ := by rw [hWZ]; exact (Only.refl (· = w.heap.size + 1) W4).set4 (b := w.heap.size + 1) (show w.heap.size + 1 = w.heap.size + 1 from rfl) 0 _
    have hWZ' := hWZ
    simp only [set4, Nat.zero_add] at hWZ'
    rw [← hWZ] at t0' t1' t2' t3'
    rw [← hWZ']
    simp only [Nat.zero_add] at t1' t2' t3'
    clear hWZ hWZ'
    refine bodyPost_ret (v := .agg #[.int .i64 v2, .int .i64 (t + v1), .int .i64 v3, .int .i64 v4]) ?_ rfl ?_
    · rw [results_cell1 rfl]; simp [go_sem, t0', t1', t2', t3']
    rw [HE.out]
    refine ⟨rfl, (HO4.out.chain hoW4 (fun i hi hc => by omega)).chain hoZ (fun i hi hc => by omega), ?_⟩
    exact (HR4.out.only hoW4 (by omega) (by omega)).only hoZ (by omega) (by omega)
end Go.Proofs.Ytndlmgocldckfaa

namespace Go.Proofs.Ytndlmgocldckfaa
open Go.RowKit
set_option linter.unusedVariables false
set_option linter.unusedSimpArgs false

def hasF (n : Int) (q : List Ev) : Bool := q.any fun e => decide (e.number = n)
theorem hasF_false {n : Int} {q : List Ev} (h : hasF n q = false) : ∀ e ∈ q, e.number ≠ n := by
  intro e he hc
  have : hasF n q = true := List.any_eq_true.2 ⟨e, he, by simpa using hc⟩
  rw [h] at this; cases this
theorem hasF_true {n : Int} {q : List Ev} (h : hasF n q = true) : ∃ e ∈ q, e.number = n := by
  obtain ⟨e, he, hn⟩ := List.any_eq_true.1 h
  exact ⟨e, he, by simpa using hn⟩

set_option maxHeartbeats 1000000 in
set_option maxRecDepth 100000 in
theorem qHas_any {base : Nat} (qb mb : Nat) (ov : Value) (q : List Ev) (n : Int) (w : World) (h : QueP base w qb mb ov q) :
    Calls Try.prog 73 #[.pointer (some ⟨qb, 0, none⟩), .int .i64 n] w fun e w' => e = .returned (.bool (hasF n q)) ∧ Below w.heap.size w w' := by
  obtain ⟨es, clock, hm, hq⟩ := h.map
  have h0 := h.c0
  rcases hh : hasF n q with _ | _
  · have hrun := run_lookup_miss hm hq (hasF_false hh)
    clear hm hq h hh
    go_enter Try.func73, Try.ntmps73
    go_wp2
    go_ret
    exact ⟨rfl, (Below.refl _ _).alloc (Nat.le_refl _) _⟩
  · obtain ⟨e, he, rfl⟩ := hasF_true hh
    have hrun := run_lookup_ok (W := w) hm hq he h.distinct true
    simp only [evVal] at hrun
    clear hm hq h hh
    go_enter Try.func73, Try.ntmps73
    go_wp2
    go_ret
    exact ⟨rfl, (Below.refl _ _).alloc (Nat.le_refl _) _⟩

/-- A kernel into which is read: it and its reader. -/
structure LdR (R : Nat → Prop) (base : Nat) (w wr : World) (kb qb mb rb g : Nat) (ov0 ov : Value) (ents : Int) (ks : List (List Ins)) (draws : List Int) (s : KS) (l : List Int) (flt : Bool) : Prop where
  ker : KerP R base wr kb qb mb ov ents ks draws s
  rd : RdP wr rb g l flt
  sepr : ¬ KSet kb qb mb ov rb
  sepg : ¬ KSet kb qb mb ov g
  nr : ¬ R rb
  only : Only (fun b => KSet kb qb mb ov0 b ∨ b = rb) w wr
  moved : Moved w ov0 ov
  base : base ≤ wr.heap.size

section
variable {R : Nat → Prop} {base : Nat} {w wr w' : World} {kb qb mb rb g : Nat} {ov0 ov ov' : Value} {ents : Int} {ks : List (List Ins)} {draws : List Int} {s s' : KS} {l l' : List Int} {flt flt' : Bool}

theorem LdR.read (h : LdR R base w wr kb qb mb rb g ov0 ov ents ks draws s l flt) (ho : Only (· = rb) wr w') (hr : RdP w' rb g l' flt') : LdR R base w w' kb qb mb rb g ov0 ov ents ks draws s l' flt' := by
  have hz := ho.size
  exact ⟨h.ker.only ho (fun b hb hc => by subst hc; exact h.sepr hb) (fun b hb hc => by subst hc; exact h.nr hb), hr, h.sepr, h.sepg, h.nr, h.only.trans (ho.mono (fun k _ hk => .inr hk)), h.moved, by have := h.base; omega⟩
theorem LdR.fresh (h : LdR R base w wr kb qb mb rb g ov0 ov ents ks draws s l flt) (hb : Below wr.heap.size wr w') : LdR R base w w' kb qb mb rb g ov0 ov ents ks draws s l flt := by
  have hz := hb.size
  exact ⟨h.ker.below hb, h.rd.only (Only.new (S := fun _ => False) hb) (by simp) (by simp), h.sepr, h.sepg, h.nr, h.only.trans (Only.new hb), h.moved, by have := h.base; omega⟩
theorem LdR.put {q' : List Ev} (h : LdR R base w wr kb qb mb rb g ov0 ov ents ks draws s l flt) (ho : Only (QSet qb mb ov) wr w') (hq : QueP base w' qb mb ov' q') (hm : Moved wr ov ov') : LdR R base w w' kb qb mb rb g ov0 ov' ents ks draws { s with q := q' } l flt := by
  have hz := ho.size
  have hrl := h.rd.lt
  have hgl := h.rd.glt
  have hzw := h.only.size
  have keep : ∀ b, b < wr.heap.size → ¬ KSet kb qb mb ov b → ¬ KSet kb qb mb ov' b := by
    rintro b hb hn (hc | hc | hc | hc)
    · exact hn (.inl hc)
    · exact hn (.inr (.inl hc))
    · exact hn (.inr (.inr (.inl hc)))
    · rcases hm with e | ⟨g', e, hg'⟩
      · exact hn (.inr (.inr (.inr (hc.trans e))))
      · rw [e] at hc; simp at hc; omega
  refine ⟨h.ker.queue ho hq hm, h.rd.only ho (fun hc => h.sepr (.inr hc)) (fun hc => h.sepg (.inr hc)), keep rb hrl h.sepr, keep g hgl h.sepg, h.nr, ?_, ?_, by have := h.base; omega⟩
  · refine h.only.chain ho ?_
    rintro i hi (hc | hc | hc)
    · exact .inl (.inr (.inl hc))
    · exact .inl (.inr (.inr (.inl hc)))
    · rcases h.moved with e | ⟨g', e, hg'⟩
      · exact .inl (.inr (.inr (.inr (hc.trans e))))
      · rw [e] at hc; simp at hc; omega
  · rcases hm with e | ⟨g', e, hg'⟩
    · rcases h.moved with e' | ⟨g2, e', hg2⟩
      · exact .inl (e.trans e')
      · exact .inr ⟨g2, e.trans e', hg2⟩
    · exact .inr ⟨g', e, by omega⟩
theorem LdR.other {ab : Nat} (h : LdR R base w wr kb qb mb rb g ov0 ov ents ks draws s l flt) (ho : Only (· = ab) wr w') (h1 : ¬ KSet kb qb mb ov ab) (h2 : ¬ R ab) (h3 : ab ≠ rb) (h4 : ab ≠ g) (h5 : w.heap.size ≤ ab) : LdR R base w w' kb qb mb rb g ov0 ov ents ks draws s l flt := by
  have hz := ho.size
  exact ⟨h.ker.only ho (fun b hb hc => by subst hc; exact h1 hb) (fun b hb hc => by subst hc; exact h2 hb), h.rd.only ho (Ne.symm h3) (Ne.symm h4), h.sepr, h.sepg, h.nr, h.only.chain ho (fun i hi hc => by omega), h.moved, by have := h.base; omega⟩
/-- A cell of the kernel's own has been written. -/
theorem LdR.set (h : LdR R base w wr kb qb mb rb g ov0 ov ents ks draws s l flt) (o : Nat) (v : Value) (hk : KerP R base (wr.setCell ⟨kb, o, none⟩ v) kb qb mb ov ents ks draws s') : LdR R base w (wr.setCell ⟨kb, o, none⟩ v) kb qb mb rb g ov0 ov ents ks draws s' l flt := by
  have ho : Only (· = kb) wr (wr.setCell ⟨kb, o, none⟩ v) := (Only.refl (· = kb) wr).setCell (p := ⟨kb, o, none⟩) (show kb = kb from rfl) _
  have hz := ho.size
  exact ⟨hk, h.rd.only ho (fun hc => h.sepr (.inl hc)) (fun hc => h.sepg (.inl hc)), h.sepr, h.sepg, h.nr, h.only.trans (ho.mono (fun k _ hk => .inl (.inl hk))), h.moved, by have := h.base; omega⟩
end

def queRF (ents : Int) (nk : Nat) (next : Int) : Nat → Int → Int → List Ev → List Int → Bool → Bool × List Ev × List Int × Bool
  | 0, _, _, q, l, f => (true, q, l, f)
  | n + 1, t, an, q, l, f =>
    if hasF (evRF ents nk next t an l f).1.number q then (false, q, (evRF ents nk next t an l f).2)
    else queRF ents nk next n (evRF ents nk next t an l f).1.time (evRF ents nk next t an l f).1.number (insF (evRF ents nk next t an l f).1 q) (evRF ents nk next t an l f).2.1 (evRF ents nk next t an l f).2.2
/-- The count ahead of them, and the events. -/
def queueRF (ents : Int) (nk : Nat) (next clock : Int) (q : List Ev) (l : List Int) (f : Bool) : Bool × List Ev × List Int × Bool :=
  queRF ents nk next (readF 0 16 l f).1.toNat clock 0 q (readF 0 16 l f).2.1 (readF 0 16 l f).2.2

theorem evRF_le {ents : Int} {nk : Nat} {next t an : Int} {l : List Int} {f : Bool} (ht : 0 ≤ t ∧ t ≤ 1000000000000) (ha : 0 ≤ an) (hn : next ≤ 1000000000) : 0 ≤ (evRF ents nk next t an l f).1.time ∧ (evRF ents nk next t an l f).1.time ≤ 1000000000000 ∧ 0 ≤ (evRF ents nk next t an l f).1.number ∧ (evRF ents nk next t an l f).1.number ≤ 1000000000 := by
  have h1 := readF_le 0 (1000000000000 - t) (by omega) l f
  simp only [evRF]
  generalize readF 0 (1000000000000 - t) l f = a at h1
  have h0 : 0 ≤ lessF a.1 an := by unfold lessF; split <;> omega
  have h2 := readF_le (lessF a.1 an) (next - 1) h0 a.2.1 a.2.2
  omega

/-- Four cells of a block: an event. -/
structure EvAt (w : World) (ab : Nat) (an t k0 e0 : Int) : Prop where
  c0 : w.cell? ⟨ab, 0, none⟩ = some (.int .i64 an)
  c1 : w.cell? ⟨ab, 1, none⟩ = some (.int .i64 t)
  c2 : w.cell? ⟨ab, 2, none⟩ = some (.int .i64 k0)
  c3 : w.cell? ⟨ab, 3, none⟩ = some (.int .i64 e0)
  room : Room w ab 4
theorem EvAt.only {w w' : World} {ab : Nat} {an t k0 e0 : Int} {U : Nat → Prop} (h : EvAt w ab an t k0 e0) (ho : Only U w w') (hn : ¬ U ab) : EvAt w' ab an t k0 e0 :=
  ⟨ho.at h.c0 hn, ho.at h.c1 hn, ho.at h.c2 hn, ho.at h.c3 hn, h.room.only ho hn⟩

structure RqI (R : Nat → Prop) (base : Nat) (w wr : World) (kb qb mb rb g ab : Nat) (ov0 ov : Value) (ents : Int) (ks : List (List Ins)) (draws : List Int) (s : KS) (q : List Ev) (l : List Int) (flt : Bool) (an t k0 e0 : Int) (n : Nat) (RES : Bool × List Ev × List Int × Bool) : Prop where
  ld : LdR R base w wr kb qb mb rb g ov0 ov ents ks draws { s with q := q } l flt
  ev : EvAt wr ab an t k0 e0
  sep : ¬ KSet kb qb mb ov ab
  ne : ab ≠ rb ∧ ab ≠ g
  nr : ¬ R ab
  wlt : w.heap.size ≤ ab
  res : queRF ents ks.length s.next n t an q l flt = RES

set_option maxHeartbeats 4000000 in
set_option maxRecDepth 100000 in
theorem rQueue_any {R : Nat → Prop} {base : Nat} (kb qb mb rb g : Nat) (ov0 ov : Value) (ents : Int) (ks : List (List Ins)) (draws : List Int) (s : KS) (l : List Int) (flt : Bool) (w wr : World) (h : LdR R base w wr kb qb mb rb g ov0 ov ents ks draws s l flt) (he : 1 ≤ ents ∧ ents ≤ 8) (hk : ks.length ≤ 8) (hq : s.q = []) (hc : 0 ≤ s.clock ∧ s.clock ≤ 1000000000000) (hn : 0 ≤ s.next ∧ s.next ≤ 1000000000) :
    Calls Try.prog 57 #[.pointer (some ⟨kb, 0, none⟩), .pointer (some ⟨rb, 0, none⟩)] wr fun e w' => e = .returned (.bool (queueRF ents ks.length s.next s.clock [] l flt).1) ∧ ∃ ov', LdR R base w w' kb qb mb rb g ov0 ov' ents ks draws { s with q := (queueRF ents ks.length s.next s.clock [] l flt).2.1 } (queueRF ents ks.length s.next s.clock [] l flt).2.2.1 (queueRF ents ks.length s.next s.clock [] l flt).2.2.2 := by
  have H := hide h
  have c4 := h.ker.c4
  have hkl := h.ker.klt
  clear h
  go_enter Try.func57, Try.ntmps57
  go_wp2_with fail
  obtain ⟨W0, hW0⟩ : ∃ W0, W0 = wr.alloc (.cells #[.int .i64 0, .int .i64 s.clock, .int .i64 0, .int .i64 0] 127) := ⟨_, rfl⟩
  have hb0 : Below wr.heap.size wr W0 := by rw [hW0]; exact (Below.refl _ _).alloc (Nat.le_refl _) _
  have hz0 : W0.heap.size = wr.heap.size + 1 := by rw [hW0]; simp
  have x0 : W0.cell? ⟨wr.heap.size, 0, none⟩ = some (.int .i64 0) := by rw [hW0]; simp [go_sem]
  have x1 : W0.cell? ⟨wr.heap.size, 1, none⟩ = some (.int .i64 s.clock) := by rw [hW0]; simp [go_sem]
  have x2 : W0.cell? ⟨wr.heap.size, 2, none⟩ = some (.int .i64 0) := by rw [hW0]; simp [go_sem]
  have x3 : W0.cell? ⟨wr.heap.size, 3, none⟩ = some (.int .i64 0) := by rw [hW0]; simp [go_sem]
  have xr : Room W0 wr.heap.size 4 := by
    rw [hW0]
    intro j hj
    have : j = 0 ∨ j = 1 ∨ j = 2 ∨ j = 3 := by omega
    rcases this with rfl | rfl | rfl | rfl <;> simp [go_sem]
  rw [← hW0]
  clear hW0 c4
  have H0 := hide (H.out.fresh hb0)
  have hrl := H.out.rd.lt
  clear hb0
  have hle := readF_le 0 16 (by omega) l flt
  have HQ : Hid (queueRF ents ks.length s.next s.clock [] l flt = queRF ents ks.length s.next (readF 0 16 l flt).1.toNat s.clock 0 [] (readF 0 16 l flt).2.1 (readF 0 16 l flt).2.2) := by show _ = _; rfl
  refine (rNum_any rb g l flt 0 16 W0 H0.out.rd).mono ?_
  rintro e w1 ⟨rfl, ho1, hr1⟩
  have H1 := hide (H0.out.read ho1 hr1)
  have y0 := ho1.at x0 (by omega)
  have y1 := ho1.at x1 (by omega)
  have y2 := ho1.at x2 (by omega)
  have y3 := ho1.at x3 (by omega)
  have yr := xr.only ho1 (by omega)
  have hz1 := ho1.size
  generalize readF 0 16 l flt = p at hle HQ H1 ⊢
  obtain ⟨v, l1, f1⟩ := p
  simp only at hle HQ H1 ⊢
  obtain ⟨N, rfl⟩ := Int.eq_ofNat_of_zero_le (show 0 ≤ v by omega)
  simp only [Int.toNat_natCast] at HQ
  have hN : N ≤ 16 := by omega
  have Hab : Hid (¬ KSet kb qb mb ov wr.heap.size) := fun hc => by have := H.out.ker.lt _ hc; omega
  clear ho1 hr1 x0 x1 x2 x3 xr hle
  go_wp2_with fail
  have HI1 : Hid (RqI R base w w1 kb qb mb rb g wr.heap.size ov0 ov ents ks draws s [] l1 f1 0 s.clock 0 0 N (queueRF ents ks.length s.next s.clock [] l flt)) := by
    refine ⟨?_, ⟨y0, y1, y2, y3, yr⟩, Hab.out, ⟨by omega, by have := H.out.rd.glt; omega⟩, fun hc => by have := H.out.ker.rlt _ hc; omega, H.out.only.size, HQ.out.symm⟩
    have := H1.out
    rw [← hq]
    exact this
  generalize hRES : queueRF ents ks.length s.next s.clock [] l flt = RES at HI1 ⊢
  have HRES := hide hRES
  clear hRES
  generalize wr.heap.size = ab at *
  clear y0 y1 y2 y3 yr H0 H1 H HQ
  go_loopg [15] 20 (fun gf s15 wx => ∃ (i : Nat) (ovi : Value) (q : List Ev) (li : List Int) (fi : Bool) (an t k0 e0 : Int), s15 = .int .i64 i ∧ N - i + 1 ≤ gf ∧ i ≤ N ∧ q.length = i ∧ (0 ≤ t ∧ t ≤ 1000000000000) ∧ (0 ≤ an ∧ an ≤ 1000000000) ∧ Hid (RqI R base w wx kb qb mb rb g ab ov0 ovi ents ks draws s q li fi an t k0 e0 (N - i) RES))
  case atStart => exact ⟨0, ov, [], l1, f1, 0, s.clock, 0, 0, rfl, by omega, by omega, rfl, hc, by omega, HI1.out⟩
  case round =>
    obtain ⟨i, ovi, q, li, fi, an, t, k0, e0, rfl, hgf, hi, hql, ht, han, hI⟩ := hrel
    by_cases hlt : i < N
    · have d1 : decide ((i : Int) < (N : Int)) = true := by simp; omega
      have hw : IntKind.i64.wrap ((i : Int) + 1) = (i : Int) + 1 := by rw [IntKind.wrap_i64]; omega
      have a0 := hI.out.ev.c0
      have a1 := hI.out.ev.c1
      have a2 := hI.out.ev.c2
      have a3 := hI.out.ev.c3
      have HX := hide (rEv_any kb qb mb ovi ents ks draws { s with q := q } rb g li fi t an k0 e0 _ hI.out.ld.ker he hk hI.out.ld.rd (fun hc => hI.out.ld.sepr (.inl hc)) ht han hn)
      have Hle := hide (evRF_le (ents := ents) (nk := ks.length) (next := s.next) (l := li) (f := fi) ht han.1 hn.2)
      have HR := hide hI.out.res
      rw [show N - i = (N - (i + 1)) + 1 by omega, queRF] at HR
      go_wp2_with fail
      refine HX.out.mono ?_
      rintro e w2 ⟨rfl, ho2, hr2⟩
      simp only at hr2 ⊢
      generalize evRF ents ks.length s.next t an li fi = x at hr2 HR Hle ⊢
      obtain ⟨⟨et, en, ek, ee⟩, l2, f2⟩ := x
      simp only [evVal] at hr2 HR Hle ⊢
      have HL2 := hide (hI.out.ld.read ho2 hr2)
      have HE2 := hide (hI.out.ev.only ho2 hI.out.ne.1)
      have hz2 := ho2.size
      clear a0 a1 a2 a3 ho2 hr2 HX
      go_wp2_with fail
      obtain ⟨W3, hW3⟩ : ∃ W3, W3 = w2.alloc (.cells #[.int .i64 en, .int .i64 et, .int .i64 ek, .int .i64 ee] 127) := ⟨_, rfl⟩
      have hb3 : Below w2.heap.size w2 W3 := by rw [hW3]; exact (Below.refl _ _).alloc (Nat.le_refl _) _
      have hz3 : W3.heap.size = w2.heap.size + 1 := by rw [hW3]; simp
      have x0 : W3.cell? ⟨w2.heap.size, 0, none⟩ = some (.int .i64 en) := by rw [hW3]; simp [go_sem]
      have x1 : W3.cell? ⟨w2.heap.size, 1, none⟩ = some (.int .i64 et) := by rw [hW3]; simp [go_sem]
      have x2 : W3.cell? ⟨w2.heap.size, 2, none⟩ = some (.int .i64 ek) := by rw [hW3]; simp [go_sem]
      have x3 : W3.cell? ⟨w2.heap.size, 3, none⟩ = some (.int .i64 ee) := by rw [hW3]; simp [go_sem]
      rw [← hW3]
      clear hW3
      have HL3 := hide (HL2.out.fresh hb3)
      have HE3 := hide (HE2.out.only (Only.new (S := fun _ => False) hb3) (by simp))
      have p3 := HL3.out.ker.c3
      have hkl3 := HL3.out.ker.klt
      have HH := hide (qHas_any qb mb ovi q en W3.drew (HL3.out.ker.que.below (Below.refl _ _).drew))
      clear hb3
      go_region_held3 (fun W' => W'.cell? ⟨kb, 3, none⟩ = some (.pointer (some ⟨qb, 0, none⟩)) ∧ W'.cell? ⟨w2.heap.size, 0, none⟩ = some (.int .i64 en))
        (first | exact ⟨p3, x0⟩ | exact ⟨below_at hb4 p3 (by omega), below_at hb4 x0 (by omega)⟩)
        (first | (go_at_call 73; refine HH.out.mono ?_; rintro e' w4 ⟨rfl, hb4'⟩; (have hb4 : Below W3.heap.size W3 w4 := (Below.refl _ _).drew.trans hb4')))
      have hz4 := hb4.size
      have HL4 := hide (HL3.out.fresh hb4)
      have HE4 := hide (HE3.out.only (Only.new (S := fun _ => False) hb4) (by simp))
      have z0 := below_at hb4 x0 (by omega)
      have z1 := below_at hb4 x1 (by omega)
      have z2 := below_at hb4 x2 (by omega)
      have z3 := below_at hb4 x3 (by omega)
      clear hb4 hb4' HH x0 x1 x2 x3 p3
      rcases hh : hasF en q with _ | _
      · have p4 := HL4.out.ker.c3
        have hres := HR.out
        rw [hh, if_neg (by simp)] at hres
        have Hres := hide hres
        have HP := hide (qPut_any qb mb ovi q ⟨et, en, ek, ee⟩ w4.drew (HL4.out.ker.que.below (Below.refl _ _).drew) HL4.out.base (by omega) (hasF_false hh))
        have Hne4 : Hid (¬ QSet qb mb ovi w2.heap.size) := fun hc => by have := HL2.out.ker.lt _ (.inr hc); omega
        have Hkq := hide HL4.out.ker.kq
        clear hres
        go_wp2_with fail
        go_region_held3 (fun W' => W'.cell? ⟨kb, 3, none⟩ = some (.pointer (some ⟨qb, 0, none⟩)) ∧ W'.cell? ⟨w2.heap.size, 0, none⟩ = some (.int .i64 en) ∧ W'.cell? ⟨w2.heap.size, 1, none⟩ = some (.int .i64 et) ∧ W'.cell? ⟨w2.heap.size, 2, none⟩ = some (.int .i64 ek) ∧ W'.cell? ⟨w2.heap.size, 3, none⟩ = some (.int .i64 ee))
          (first | exact ⟨p4, z0, z1, z2, z3⟩ | exact ⟨ho5.at (w := w4.drew) p4 Hkq.out, ho5.at (w := w4.drew) z0 Hne4.out, ho5.at (w := w4.drew) z1 Hne4.out, ho5.at (w := w4.drew) z2 Hne4.out, ho5.at (w := w4.drew) z3 Hne4.out⟩)
          (first | (go_at_call 63; refine HP.out.mono ?_; rintro e' w5 ⟨ov5, rfl, ho5, hq5, hm5⟩))
        have hz5 := ho5.size
        have hO5 : Only (QSet qb mb ovi) w4 w5 := (Only.new (Below.refl _ _).drew).trans ho5
        have HL5 := hide (HL4.out.put hO5 hq5 hm5)
        have HE5 := hide (HE4.out.only hO5 (fun hc => hI.out.sep (.inr hc)))
        have u0 := hO5.at z0 Hne4.out
        have u1 := hO5.at z1 Hne4.out
        have u2 := hO5.at z2 Hne4.out
        have u3 := hO5.at z3 Hne4.out
        have hsep5 : ¬ KSet kb qb mb ov5 ab := by
          have habl := lt_of_cell HE4.out.c0
          rintro (hc | hc | hc | hc)
          · exact hI.out.sep (.inl hc)
          · exact hI.out.sep (.inr (.inl hc))
          · exact hI.out.sep (.inr (.inr (.inl hc)))
          · rcases hm5 with e | ⟨g', e, hg'⟩
            · exact hI.out.sep (.inr (.inr (.inr (hc.trans e))))
            · rw [e] at hc
              simp at hc
              have : w4.heap.size ≤ g' := hg'
              omega
        have Hsep5 := hide hsep5
        obtain ⟨s0, v0⟩ := HE5.out.room 0 (by omega)
        obtain ⟨s1, v1⟩ := HE5.out.room 1 (by omega)
        obtain ⟨s2, v2⟩ := HE5.out.room 2 (by omega)
        obtain ⟨s3, v3⟩ := HE5.out.room 3 (by omega)
        have r0 := HE5.out.c0
        have r1 := HE5.out.c1
        have r2 := HE5.out.c2
        have r3 := HE5.out.c3
        have hne2 : ¬ ab = w2.heap.size := by have := lt_of_cell HE2.out.c0; omega
        clear ho5 hq5 hm5 hO5 z0 z1 z2 z3 p4 HP hsep5 s0 s1 s2 s3
        go_wp2_with fail
        go_roundg (N - (i + 1) + 1)
        case measure => omega
        case rel =>
          have hoZ : Only (· = ab) w5 (set4 w5 ab 0 ⟨en, et, ek, ee⟩) := (Only.refl (· = ab) w5).set4 (b := ab) (show ab = ab from rfl) 0 _
          obtain ⟨q0, q1, q2, q3⟩ := set4_same w5 ab 0 4 ⟨en, et, ek, ee⟩ HE5.out.room (by omega)
          have hrm := HE5.out.room.set4 ab 0 ⟨en, et, ek, ee⟩
          obtain ⟨b1, b2, b3, b4⟩ := Hle.out
          refine ⟨i + 1, ov5, insF ⟨et, en, ek, ee⟩ q, l2, f2, en, et, ek, ee, by go_num, Nat.le_refl _, by omega, by rw [insF_length]; omega, ⟨b1, b2⟩, ⟨b3, b4⟩, ⟨?_, ⟨q0, q1, q2, q3, hrm⟩, Hsep5.out, hI.out.ne, hI.out.nr, hI.out.wlt, Hres.out⟩⟩
          exact HL5.out.other hoZ Hsep5.out hI.out.nr hI.out.ne.1 hI.out.ne.2 hI.out.wlt
      · have hres := HR.out
        rw [hh, if_pos rfl] at hres
        have Hres := hide hres
        clear hres
        go_wp2_with fail
        go_ret
        rw [HRES.out, ← Hres.out]
        exact ⟨rfl, ovi, HL4.out⟩
    · have d1 : decide ((i : Int) < (N : Int)) = false := by simp; omega
      have hres := hI.out.res
      rw [show N - i = 0 by omega, queRF] at hres
      have Hres := hide hres
      clear hres
      go_wp2_with fail
      go_ret
      rw [HRES.out, ← Hres.out]
      exact ⟨rfl, ovi, hI.out.ld⟩
end Go.Proofs.Ytndlmgocldckfaa

namespace Go.Proofs.Ytndlmgocldckfaa
open Go.RowKit
set_option linter.unusedVariables false
set_option linter.unusedSimpArgs false

def regRF : Nat → (Nat → Int) → Nat → List Int → Bool → (Nat → Int) × List Int × Bool
  | 0, f, _, l, b => (f, l, b)
  | n + 1, f, j, l, b => regRF n (putR f j (readS 1000000000 l b).1) (j + 1) (readS 1000000000 l b).2.1 (readS 1000000000 l b).2.2

set_option maxHeartbeats 4000000 in
set_option maxRecDepth 100000 in
theorem read_any {R : Nat → Prop} {base : Nat} (kb qb mb rb g : Nat) (ov0 : Value) (E : Nat) (ks : List (List Ins)) (draws : List Int) (l : List Int) (w : World) (s : KS) (h : LdR R base w w kb qb mb rb g ov0 ov0 (E : Int) ks draws s l false) (he : 1 ≤ E ∧ E ≤ 8) (hk : ks.length ≤ 8) (hd : draws.length ≤ 1000) (hq : s.q = [])
    (v1 v2 v3 v4 v5 : Int) (l1 l2 l3 l4 l5 l6 l7 : List Int) (f1 f2 f3 f4 f5 f6 f7 : Bool) (rg : Nat → Int) (qq : List Ev) (ok : Bool)
    (e1 : readF E E l false = (v1, l1, f1)) (e2 : readF ks.length ks.length l1 f1 = (v2, l2, f2)) (e3 : readF 0 1000000000000 l2 f2 = (v3, l3, f3)) (e4 : readF 1 1000000000 l3 f3 = (v4, l4, f4)) (e5 : readF 0 draws.length l4 f4 = (v5, l5, f5))
    (e6 : regRF (E * 4) s.regs 0 l5 f5 = (rg, l6, f6)) (e7 : queueRF E ks.length v4 v3 [] l6 f6 = (ok, qq, l7, f7)) :
    Calls Try.prog 34 #[.pointer (some ⟨kb, 0, none⟩), .pointer (some ⟨rb, 0, none⟩)] w fun e w' => e = .returned (.bool (ok && (!f7 && l7.isEmpty))) ∧ ∃ ov', LdR R base w w' kb qb mb rb g ov0 ov' (E : Int) ks draws ⟨v5.toNat, v3, v4, rg, qq⟩ l7 f7 := by
  have H := hide h
  obtain ⟨kv, hkv, hkin⟩ := h.ker.kinds
  obtain ⟨ka, kc, rfl⟩ := hkin.form
  obtain ⟨dv, hdv, hdin⟩ := h.ker.draw
  obtain ⟨da, dc, rfl⟩ := hdin.form
  have c0 := h.ker.c0
  have hkl := h.ker.klt
  have E1 := hide e1
  have E2 := hide e2
  have E3 := hide e3
  have E4 := hide e4
  have E5 := hide e5
  have E6 := hide e6
  have E7 := hide e7
  have g3 := readF_le 0 1000000000000 (by omega) l2 f2
  have g4 := readF_le 1 1000000000 (by omega) l3 f3
  have g5 := readF_le 0 draws.length (by omega) l4 f4
  rw [e3] at g3
  rw [e4] at g4
  rw [e5] at g5
  simp only at g3 g4 g5
  clear h hkin hdin e1 e2 e3 e4 e5 e6 e7
  go_enter Try.func34, Try.ntmps34
  go_wp2_with fail
  go_quiet (fail)
  go_wp2_with fail
  have H := hide (H.out.fresh (below_drewN (Below.refl _ _) nq))
  generalize w.drewN nq = W0 at H ⊢
  refine (rNum_any rb g l false _ _ W0 H.out.rd).mono ?_
  rintro e w1 ⟨rfl, ho1, hr1⟩
  rw [E1.out] at hr1 ⊢
  simp only at hr1 ⊢
  have H1 := hide (H.out.read ho1 hr1)
  clear ho1 hr1
  go_wp2_with fail
  refine (rNum_any rb g l1 f1 _ _ w1 H1.out.rd).mono ?_
  rintro e w2 ⟨rfl, ho2, hr2⟩
  rw [E2.out] at hr2 ⊢
  simp only at hr2 ⊢
  have H2 := hide (H1.out.read ho2 hr2)
  clear ho2 hr2
  go_wp2_with fail
  refine (rNum_any rb g l2 f2 _ _ w2 H2.out.rd).mono ?_
  rintro e w3 ⟨rfl, ho3, hr3⟩
  rw [E3.out] at hr3 ⊢
  simp only at hr3 ⊢
  have H3 := hide (H2.out.read ho3 hr3)
  have k4 := H3.out.ker.c4
  have z4 := (H3.out.ker.room 4 (by omega)).2
  clear ho3 hr3
  go_wp2_with fail
  have H3 := hide (H3.out.set 4 _ (H3.out.ker.setClock v3))
  generalize w3.setCell ⟨kb, 4, none⟩ (.int .i64 v3) = W3 at H3 ⊢
  clear k4 z4
  refine (rNum_any rb g l3 f3 _ _ W3 H3.out.rd).mono ?_
  rintro e w4 ⟨rfl, ho4, hr4⟩
  rw [E4.out] at hr4 ⊢
  simp only at hr4 ⊢
  have H4 := hide (H3.out.read ho4 hr4)
  have k5 := H4.out.ker.c5
  have z5 := (H4.out.ker.room 5 (by omega)).2
  have H4s := hide (H4.out.set 5 _ (H4.out.ker.setNext v4))
  obtain ⟨dv4, hdv4, hdin4⟩ := H4s.out.ker.draw
  obtain ⟨da4, dc4, rfl⟩ := hdin4.form
  clear ho4 hr4 hdin4
  go_wp2_with fail
  generalize w4.setCell ⟨kb, 5, none⟩ (.int .i64 v4) = W4 at H4s ⊢
  clear k5 z5 hdv4 H4
  obtain ⟨T, rfl⟩ := Int.eq_ofNat_of_zero_le (show 0 ≤ v5 by omega)
  refine (rNum_any rb g l4 f4 _ _ W4 H4s.out.rd).mono ?_
  rintro e w5 ⟨rfl, ho5, hr5⟩
  rw [E5.out] at hr5 ⊢
  simp only at hr5 ⊢
  have H5 := hide (H4s.out.read ho5 hr5)
  have k6 := H5.out.ker.c6
  have z6 := (H5.out.ker.room 6 (by omega)).2
  have H5s := hide (H5.out.set 6 _ (H5.out.ker.setTaken T))
  clear ho5 hr5
  go_wp2_with fail
  generalize w5.setCell ⟨kb, 6, none⟩ (.int .i64 T) = W5 at H5s ⊢
  clear k6 z6 H5
  have HI5 : Hid (LdR R base w W5 kb qb mb rb g ov0 ov0 (E : Int) ks draws ⟨T, v3, v4, s.regs, []⟩ l5 f5) := by
    have := H5s.out
    rw [← hq]
    exact this
  go_loopg [53] 12 (fun gf s53 wx => ∃ (i : Nat) (rg' : Nat → Int) (li : List Int) (fi : Bool), s53 = .int .i64 i ∧ E - i + 1 ≤ gf ∧ i ≤ E ∧ Hid (LdR R base w wx kb qb mb rb g ov0 ov0 (E : Int) ks draws ⟨T, v3, v4, rg', []⟩ li fi ∧ regRF (E * 4 - i * 4) rg' (i * 4) li fi = (rg, l6, f6)))
  case atStart => exact ⟨0, s.regs, l5, f5, rfl, by omega, by omega, HI5.out, by simpa using E6.out⟩
  case round =>
    rename World => wo
    obtain ⟨i, rgi, li, fi, rfl, hgf, hi, hI⟩ := hrel
    by_cases hlt : i < E
    · have d1 : decide ((i : Int) < (E : Int)) = true := by simp; omega
      have hw : IntKind.i64.wrap ((i : Int) + 1) = (i : Int) + 1 := by rw [IntKind.wrap_i64]; omega
      have hi8 : (i : Int) < 8 := by omega
      go_wp2_with fail
      go_loopg [62] 7 (fun gf s62 wx => ∃ (j : Nat) (rg' : Nat → Int) (lj : List Int) (fj : Bool), s62 = .int .i64 j ∧ 4 - j + 1 ≤ gf ∧ j ≤ 4 ∧ Hid (LdR R base w wx kb qb mb rb g ov0 ov0 (E : Int) ks draws ⟨T, v3, v4, rg', []⟩ lj fj ∧ regRF (E * 4 - (i * 4 + j)) rg' (i * 4 + j) lj fj = (rg, l6, f6)))
      case atStart => exact ⟨0, rgi, li, fi, rfl, by omega, by omega, hI.out⟩
      case round =>
        obtain ⟨j, rgj, lj, fj, rfl, hgf2, hj, hJ⟩ := hrel
        by_cases hj4 : j < 4
        · have d2 : decide ((j : Int) < 4) = true := by simp; omega
          have hj4' : (j : Int) < 4 := by omega
          have hwj : IntKind.i64.wrap ((j : Int) + 1) = (j : Int) + 1 := by rw [IntKind.wrap_i64]; omega
          have hres := hJ.out.2
          rw [show E * 4 - (i * 4 + j) = (E * 4 - (i * 4 + (j + 1))) + 1 by omega, regRF] at hres
          have Hres := hide hres
          have HX := hide (rSgn_any rb g lj fj wr.drew (hJ.out.1.rd.only (Only.new (S := fun _ => False) (Below.refl _ _).drew) (by simp) (by simp)))
          have HJ0 := hide (hJ.out.1.fresh (Below.refl _ _).drew)
          clear hres
          go_wp2_with fail
          go_region_held3 (fun _ => True)
            (exact trivial)
            (first | (go_at_call 56; refine HX.out.mono ?_; rintro e' w6 ⟨rfl, ho6, hr6⟩; (have HL6 := hide (HJ0.out.read ho6 hr6)); (have r0 := HL6.out.ker.regs (i * 4 + j) (by omega)); (have rf := (HL6.out.ker.room (7 + (i * 4 + j)) (by omega)).2); rw [← Nat.add_assoc] at r0 rf))
          have hk6 := HL6.out.ker.setReg (i := i * 4 + j) (by omega) (readS 1000000000 lj fj).1
          have HL6s := hide (HL6.out.set _ _ hk6)
          rw [← Nat.add_assoc] at HL6s
          clear hk6 ho6 hr6 r0 rf HX
          go_wp2_with fail
          go_roundg (4 - (j + 1) + 1)
          case measure => omega
          case rel => exact ⟨j + 1, _, _, _, by go_num, Nat.le_refl _, by omega, HL6s.out, Hres.out⟩
        · have d2 : decide ((j : Int) < 4) = false := by simp; omega
          obtain rfl : j = 4 := by omega
          go_wp2_with fail
          go_roundg (E - (i + 1) + 1)
          case measure => omega
          case rel => exact ⟨i + 1, rgj, lj, fj, by go_num, Nat.le_refl _, by omega, hJ.out.1, by rw [show (i + 1) * 4 = i * 4 + 4 by omega]; exact hJ.out.2⟩
    · have d1 : decide ((i : Int) < (E : Int)) = false := by simp; omega
      have hres := hI.out.2
      rw [show E * 4 - i * 4 = 0 by omega, regRF] at hres
      simp only [Prod.mk.injEq] at hres
      obtain ⟨rfl, rfl, rfl⟩ := hres
      have HI := hide hI.out.1
      go_wp2_with fail
      refine (rQueue_any kb qb mb rb g ov0 ov0 (E : Int) ks draws _ li fi w wo HI.out (by omega) hk rfl (by simp only; omega) (by simp only; omega)).mono ?_
      rintro e w7 ⟨rfl, ov7, hL7⟩
      simp only at hL7 ⊢
      rw [E7.out] at hL7 ⊢
      simp only at hL7 ⊢
      have HL7 := hide hL7
      clear hL7
      rcases ok with _ | _
      · go_wp2_with fail
        go_ret
        exact ⟨by simp, ov7, by simpa using HL7.out⟩
      · go_wp2_with fail
        refine (rEnd_any rb g l7 f7 w7 HL7.out.rd).mono ?_
        rintro e w8 ⟨rfl, hb8⟩
        have HL8 := hide (HL7.out.fresh hb8)
        clear hb8
        go_wp2_with fail
        go_ret
        exact ⟨by simp, ov7, by simpa using HL8.out⟩
end Go.Proofs.Ytndlmgocldckfaa

namespace Go.Proofs.Ytndlmgocldckfaa
open Go.RowKit
set_option linter.unusedVariables false
set_option linter.unusedSimpArgs false

theorem open_ok (g cap : Nat) (body : List Int) (w : World) (hr : RowAt w g 0 (byteV (([84, 77, 80, 1] ++ body) ++ sumB ([84, 77, 80, 1] ++ body)))) (hcap : body.length + 8 ≤ cap) (hb : ∀ b ∈ body, 0 ≤ b ∧ b < 256) (hl : body.length ≤ 10000) (s : ByteArray) (hs : s = strW [84, 77, 80, 1]) (hgl : g < w.heap.size) :
    Calls Try.prog 33 #[.string s, .slice (some ⟨g, 0, none⟩) (body.length + 8) cap] w fun e w' => ∃ rb, e = .returned (.tuple #[.pointer (some ⟨rb, 0, none⟩), .int .i64 0]) ∧ Below w.heap.size w w' ∧ w.heap.size ≤ rb ∧ RdP w' rb g body false := by
  have hl8 : (([84, 77, 80, 1] ++ body) ++ sumB ([84, 77, 80, 1] ++ body)).length = body.length + 8 := by simp [sumB_len]
  have h := open_any g 0 cap [84, 77, 80, 1] _ w hr (by rw [hl8]; exact hcap) (by
    intro b hb'
    rcases List.mem_append.1 hb' with hb' | hb'
    · rcases List.mem_append.1 hb' with hb' | hb'
      · simp at hb'; omega
      · exact hb b hb'
    · exact sumB_bytes _ b hb') (by rw [hl8]; omega) s hs rfl (by intro b hb'; simp at hb'; omega) hgl
  rw [hl8, openE_ok [84, 77, 80, 1] body rfl, openL_ok [84, 77, 80, 1] body rfl] at h
  refine h.mono ?_
  rintro e w' ⟨p, rfl, hb', _, hp⟩
  obtain ⟨rb, rfl, h1, h2⟩ := hp rfl
  exact ⟨rb, rfl, hb', h1, h2⟩
end Go.Proofs.Ytndlmgocldckfaa

namespace Go.Proofs.Ytndlmgocldckfaa
open Go.RowKit
set_option linter.unusedVariables false
set_option linter.unusedSimpArgs false

/-! What Save has written is read as it was. -/

theorem numF_ne : ∀ (k : Nat) (n : Int), numF k n ≠ []
  | 0, n => by simp [numF]
  | k + 1, n => by rw [numF]; split <;> simp

theorem readF_numB {low high n : Int} (h : low ≤ n ∧ n ≤ high) (hn : 0 ≤ n ∧ n ≤ 9223372036854775807) (rest : List Int) : readF low high (numB n ++ rest) false = (n, rest, false) := by
  unfold readF
  rw [numR_numB n rest hn]
  have hl : (numB n).length ≠ 0 := by intro hc; exact numF_ne 9 n (List.eq_nil_of_length_eq_zero hc)
  rw [if_neg]
  · simp
  · rintro (h' | h' | h' | h')
    · cases h'
    · exact hl h'
    · simp only at h'; omega
    · simp only at h'; omega
theorem readS_sgnB {n : Int} (h : -1000000000 ≤ n ∧ n ≤ 1000000000) (rest : List Int) : readS 1000000000 (sgnB n ++ rest) false = (n, rest, false) := by
  have hs : 0 ≤ sgnI n ∧ sgnI n ≤ 2000000000 := by unfold sgnI; split <;> omega
  unfold readS sgnB
  rw [readF_numB (by omega) (by omega)]
  have : unsI (sgnI n) = n := by
    unfold unsI sgnI
    by_cases h0 : n < 0
    · rw [if_pos h0, if_pos (by omega)]; omega
    · rw [if_neg h0, if_neg (by omega)]; omega
  rw [this]

theorem regRF_regB (g : Nat → Int) (hg : ∀ j, -1000000000 ≤ g j ∧ g j ≤ 1000000000) (rest : List Int) : ∀ (n : Nat) (f : Nat → Int) (j : Nat), regRF n f j ((List.range' j n).flatMap (fun k => sgnB (g k)) ++ rest) false = (fun k => if j ≤ k ∧ k < j + n then g k else f k, rest, false)
  | 0, f, j => by
    simp [regRF]
    funext k
    rw [if_neg (by omega)]
  | n + 1, f, j => by
    rw [List.range'_succ, List.flatMap_cons, List.append_assoc, regRF, readS_sgnB (hg j)]
    simp only
    rw [regRF_regB g hg rest n _ (j + 1)]
    refine Prod.ext ?_ rfl
    funext k
    simp only [putR]
    by_cases hk : k = j
    · subst hk; rw [if_neg (by omega), if_pos rfl, if_pos (by omega)]
    · by_cases hr : j + 1 ≤ k ∧ k < j + 1 + n
      · rw [if_pos hr, if_pos (by omega)]
      · rw [if_neg hr, if_neg hk, if_neg (by omega)]

theorem insF_last : ∀ (q : List Ev) (e : Ev), (∀ x ∈ q, aheadF x e = true) → insF e q = q ++ [e]
  | [], e, _ => by simp [insF, posF]
  | x :: q, e, h => by
    rw [insF_cons, if_pos (h x (List.mem_cons_self ..)), insF_last q e (fun y hy => h y (List.mem_cons_of_mem _ hy))]
    rfl

/-- An event that may stand behind (t, an). -/
structure EvOk (ents : Int) (nk : Nat) (next : Int) (e : Ev) : Prop where
  time : 0 ≤ e.time ∧ e.time ≤ 1000000000000
  num : 1 ≤ e.number ∧ e.number < next
  kind : 0 ≤ e.kind ∧ e.kind < nk
  ent : 0 ≤ e.entity ∧ e.entity < ents

theorem evRF_evB {ents : Int} {nk : Nat} {next t an : Int} {e : Ev} (h : EvOk ents nk next e) (he : ents ≤ 8) (hk : nk ≤ 8) (hn : next ≤ 1000000000) (ht : 0 ≤ t ∧ t ≤ e.time) (ha : 0 ≤ an) (ho : e.time = t → an < e.number) (rest : List Int) :
    evRF ents nk next t an (numB (e.time - t) ++ (numB e.number ++ (numB e.kind ++ (numB e.entity ++ rest)))) false = (e, rest, false) := by
  obtain ⟨h1, h2, h3, h4⟩ := h
  unfold evRF
  rw [readF_numB (by omega) (by omega)]
  simp only
  have hl : lessF (e.time - t) an ≤ e.number := by unfold lessF; split <;> omega
  rw [readF_numB (by omega) (by omega)]
  simp only
  rw [readF_numB (by omega) (by omega)]
  simp only
  rw [readF_numB (by omega) (by omega)]
  simp only
  refine Prod.ext ?_ rfl
  simp only
  rw [show t + (e.time - t) = e.time by omega]

theorem queRF_evB {ents : Int} {nk : Nat} {next : Int} (he : ents ≤ 8) (hk : nk ≤ 8) (hn : next ≤ 1000000000) (rest : List Int) : ∀ (q q0 : List Ev) (t an : Int), Sorted (q0 ++ q) → Distinct (q0 ++ q) → (∀ e ∈ q, EvOk ents nk next e) → 0 ≤ t → 0 ≤ an → (∀ e ∈ q, t ≤ e.time ∧ (e.time = t → an < e.number)) →
    queRF ents nk next q.length t an q0 (evB t q ++ rest) false = (true, q0 ++ q, rest, false)
  | [], q0, t, an, _, _, _, _, _, _ => by simp [queRF, evB]
  | e :: q, q0, t, an, hs, hd, hok, ht, ha, ho => by
    have he1 := hok e (List.mem_cons_self ..)
    have ho1 := ho e (List.mem_cons_self ..)
    have hev := evRF_evB (t := t) (an := an) he1 he hk hn ⟨ht, ho1.1⟩ ha ho1.2 (evB e.time q ++ rest)
    have hsp := List.pairwise_append.1 hs
    have hdp := List.pairwise_append.1 hd
    have hh : hasF e.number q0 = false := by
      rcases hx : hasF e.number q0 with _ | _
      · rfl
      · obtain ⟨x, hx1, hx2⟩ := hasF_true hx
        exact absurd hx2 (hdp.2.2 x hx1 e (List.mem_cons_self ..))
    have hins : insF e q0 = q0 ++ [e] := insF_last q0 e (fun x hx => hsp.2.2 x hx e (List.mem_cons_self ..))
    simp only [List.length_cons, queRF, evB, List.append_assoc]
    rw [hev]
    simp only
    rw [hh, if_neg (by simp), hins]
    have := queRF_evB he hk hn rest q (q0 ++ [e]) e.time e.number (by simpa using hs) (by simpa using hd) (fun x hx => hok x (List.mem_cons_of_mem _ hx)) (by omega) (by have := he1.num; omega) (fun x hx => by
      have h2 := (List.pairwise_cons.1 hsp.2.1).1 x hx
      simp only [aheadF, Bool.or_eq_true, decide_eq_true_eq, Bool.and_eq_true] at h2
      omega)
    rw [this]
    simp

def RegZ (ents : Int) (s : KS) : Prop := ∀ j : Nat, ents.toNat * 4 ≤ j → s.regs j = 0

theorem doI_regz {ents : Int} {nk : Nat} {draws : List Int} {E : Nat} {x : Ins} {s : KS} (h : RegZ ents s) (hx : mayF ents nk x.op x.a x.b x.c = true) (h5 : x.op ≠ 5) (hE : E < ents.toNat) : RegZ ents (doI draws E x s).1 := by
  have hput : ∀ (i : Nat) (v : Int), i < ents.toNat * 4 → RegZ ents { s with regs := putR s.regs i v } := by
    intro i v hi j hj
    simp only [putR]
    rw [if_neg (by omega)]
    exact h j hj
  unfold mayF at hx
  unfold doI
  simp only
  by_cases o6 : x.op = 6
  · rw [if_neg (by omega), if_neg (by omega), if_neg (by omega), if_neg (by omega), if_pos o6]
    split
    · exact hput _ _ (by omega)
    · split
      · exact hput _ _ (by omega)
      · exact hput _ _ (by omega)
  · rw [if_neg o6] at hx
    by_cases hc : x.c ≠ 0
    · rw [if_pos hc] at hx; cases hx
    rw [if_neg hc] at hx
    by_cases o1 : x.op = 1
    · rw [if_pos o1] at hx ⊢
      simp [inB] at hx
      exact hput _ _ (by omega)
    rw [if_neg o1] at hx ⊢
    by_cases o2 : x.op = 2
    · rw [if_pos (.inl o2)] at hx
      rw [if_pos o2]
      simp [inB] at hx
      exact hput _ _ (by omega)
    rw [if_neg o2]
    by_cases o3 : x.op = 3
    · rw [if_pos (.inr o3)] at hx
      rw [if_pos o3]
      simp [inB] at hx
      exact hput _ _ (by omega)
    rw [if_neg o3]
    rw [if_neg (by omega)] at hx
    by_cases o4 : x.op = 4
    · rw [if_pos o4] at hx ⊢
      simp [inB] at hx
      rcases draws[s.taken]? with _ | d
      · exact hput _ _ (by omega)
      · exact hput _ _ (by omega)
    rw [if_neg o4, if_neg o6]
    split
    · exact h
    · exact h

theorem runF_regz {ents : Int} {ks : List (List Ins)} {draws : List Int} (hc : CodesOk ents ks) (hd : DrawsOk draws) (horizon : Int) : ∀ (n : Nat) (s : KS), Fit ents ks draws s → RegZ ents s → RegZ ents (runF ks draws horizon n s).1
  | 0, s, _, h => h
  | n + 1, s, hf, h => by
    rcases hs : stepF ks draws horizon s with ⟨s1, _ | r, why⟩
    · simp only [runF, hs]; exact h
    · obtain ⟨q, hq, hz, rfl, hh⟩ := stepF_some hs
      obtain ⟨f1, _⟩ := happenF_fit hc hd hf hq
      have hev := hf.ok.evs r.e (by rw [hq]; exact List.mem_cons_self ..)
      have h1 : RegZ ents (happenF ks draws r.e s).1 := by
        unfold happenF
        refine execF_ind (fun x => mayF ents ks.length x.op x.a x.b x.c = true) (fun st => RegZ ents st) (fun x st hx h5 hst => doI_regz hst hx h5 (by omega)) _ _ _ (code_of hc r.e.kind.toNat).2 ?_
        exact h
      rw [hh] at f1 h1
      rcases hr : runF ks draws horizon n s1 with ⟨s2, rs, y⟩
      have := runF_regz hc hd horizon n s1 f1 h1
      rw [hr] at this
      simp only [runF, hs, hr]
      exact this
end Go.Proofs.Ytndlmgocldckfaa

namespace Go.Proofs.Ytndlmgocldckfaa
open Go.RowKit
set_option linter.unusedVariables false
set_option linter.unusedSimpArgs false

theorem saveF_length (ents : Int) (nk : Nat) (s : KS) : (saveF ents nk s).length = (bodyF ents nk s).length + 8 := by
  simp only [saveF, headF, List.length_append, sumB_len, List.length_cons, List.length_nil]
  omega

set_option maxHeartbeats 4000000 in
set_option maxRecDepth 100000 in
theorem load_ok (E : Nat) (b off cap : Nat) (dv : Value) (ks : List (List Ins)) (draws : List Int) (s : KS) (g bcap : Nat) (w : World) (hl : ks.length ≤ 8) (hbw : b < w.heap.size) (hK : KindsAt w.heap.size w b off ks) (hd : IntsIn (· < w.heap.size) w dv draws) (hk : kindF (E : Int) ks = none) (hD : drawsF draws = true) (hfit : Fit (E : Int) ks draws s) (hz : RegZ (E : Int) s) (he : 1 ≤ E ∧ E ≤ 8) (hdl : draws.length ≤ 1000)
    (hrow : RowAt w g 0 (byteV (saveF (E : Int) ks.length s))) (hcap : (bodyF (E : Int) ks.length s).length + 8 ≤ bcap) (hgl : g < w.heap.size) :
    Calls Try.prog 16 #[.agg #[.int .i64 (E : Int), .slice (some ⟨b, off, none⟩) ks.length cap], dv, .slice (some ⟨g, 0, none⟩) ((bodyF (E : Int) ks.length s).length + 8) bcap] w fun e w' => ∃ kb qb mb ov R base, e = .returned (.tuple #[.pointer (some ⟨kb, 0, none⟩), .int .i64 0]) ∧ Below w.heap.size w w' ∧ (w.heap.size ≤ base ∧ base ≤ w'.heap.size) ∧ (∀ x, KSet kb qb mb ov x → base ≤ x) ∧ (∀ x, R x → base ≤ x) ∧ KerP R base w' kb qb mb ov (E : Int) ks draws s := by
  obtain ⟨hok, hso, hdi⟩ := hfit
  have hby := bodyF_bytes hok (by omega) hl hdl hso
  have hbl := bodyF_len (ents := (E : Int)) (nk := ks.length) (s := s) (by omega) hok.len
  obtain ⟨k1, k2, k3, k4, k5, k6⟩ := hok
  have Hrow := hide hrow
  have HD := hide hd
  have HKA := hide hK
  -- what is read
  have E0 : Hid (bodyF (E : Int) ks.length s = numB (E : Int) ++ (numB (ks.length : Int) ++ (numB s.clock ++ (numB s.next ++ (numB (s.taken : Int) ++ (regB s (E * 4) ++ (numB (s.q.length : Int) ++ evB s.clock s.q))))))) := by
    show _ = _
    unfold bodyF
    rw [Int.toNat_natCast]
  have e1 := readF_numB (low := (E : Int)) (high := (E : Int)) (n := (E : Int)) (by omega) (by omega) (numB (ks.length : Int) ++ (numB s.clock ++ (numB s.next ++ (numB (s.taken : Int) ++ (regB s (E * 4) ++ (numB (s.q.length : Int) ++ evB s.clock s.q))))))
  have e2 := readF_numB (low := (ks.length : Int)) (high := (ks.length : Int)) (n := (ks.length : Int)) (by omega) (by omega) (numB s.clock ++ (numB s.next ++ (numB (s.taken : Int) ++ (regB s (E * 4) ++ (numB (s.q.length : Int) ++ evB s.clock s.q)))))
  have e3 := readF_numB (low := 0) (high := 1000000000000) (n := s.clock) (by omega) (by omega) (numB s.next ++ (numB (s.taken : Int) ++ (regB s (E * 4) ++ (numB (s.q.length : Int) ++ evB s.clock s.q))))
  have e4 := readF_numB (low := 1) (high := 1000000000) (n := s.next) (by omega) (by omega) (numB (s.taken : Int) ++ (regB s (E * 4) ++ (numB (s.q.length : Int) ++ evB s.clock s.q)))
  have e5 := readF_numB (low := 0) (high := (draws.length : Int)) (n := (s.taken : Int)) (by omega) (by omega) (regB s (E * 4) ++ (numB (s.q.length : Int) ++ evB s.clock s.q))
  have e6 : regRF (E * 4) ks0.regs 0 (regB s (E * 4) ++ (numB (s.q.length : Int) ++ evB s.clock s.q)) false = (s.regs, numB (s.q.length : Int) ++ evB s.clock s.q, false) := by
    have := regRF_regB s.regs k4 (numB (s.q.length : Int) ++ evB s.clock s.q) (E * 4) ks0.regs 0
    unfold regB
    rw [List.range_eq_range', this]
    refine Prod.ext ?_ rfl
    funext j
    simp only [Nat.zero_le, true_and, Nat.zero_add]
    split
    · rfl
    · exact (hz j (by simp; omega)).symm
  have e7 : queueRF (E : Int) ks.length s.next s.clock [] (numB (s.q.length : Int) ++ evB s.clock s.q) false = (true, s.q, [], false) := by
    unfold queueRF
    rw [readF_numB (by omega) (by omega)]
    simp only [Int.toNat_natCast]
    have := queRF_evB (ents := (E : Int)) (nk := ks.length) (next := s.next) (by omega) hl k3.2 [] s.q [] s.clock 0 (by simpa using hso) (by simpa using hdi) (fun e he' => by
      have := k5 e he'
      exact ⟨by omega, by omega, by omega, by omega⟩) k2.1 (by omega) (fun e he' => by have := k5 e he'; exact ⟨this.1, fun _ => by omega⟩)
    simpa using this
  have Hk := hide hk
  have E1 := hide e1
  have E2 := hide e2
  have E3 := hide e3
  have E4 := hide e4
  have E5 := hide e5
  have E6 := hide e6
  have E7 := hide e7
  have Hby := hide hby
  rw [saveF, headF] at Hrow
  generalize hbo : bodyF (E : Int) ks.length s = body at E0 hcap Hby hbl Hrow ⊢
  clear hk e1 e2 e3 e4 e5 e6 e7 hby hrow hd hK hbo k4 k5 hso hdi hz
  go_enter Try.func16, Try.ntmps16
  go_wp2_with fail
  obtain ⟨W0, hW0⟩ : ∃ W0, W0 = w.alloc (.cells #[.int .i64 (E : Int), .slice (some ⟨b, off, none⟩) ks.length cap] 40) := ⟨_, rfl⟩
  have hb0 : Below w.heap.size w W0 := by rw [hW0]; exact (Below.refl _ _).alloc (Nat.le_refl _) _
  have hz0 : W0.heap.size = w.heap.size + 1 := by rw [hW0]; simp
  rw [← hW0]
  clear hW0
  have hd0 : IntsIn (· < W0.heap.size) W0 dv draws := (HD.out.only (Only.new (S := fun _ => False) hb0) (by simp)).mono (fun x hx => by omega)
  refine (tNew_yes (E : Int) b off cap dv ks draws W0 (by omega) (by omega) ((HKA.out.below hb0 hbw (Nat.le_refl _)).mono (by omega)) hd0 Hk.out hD).mono ?_
  rintro e w1 ⟨kb, qb, mb, rfl, hb1, h1k, h1q, h1m, hP1⟩
  have hz1 := hb1.size
  have HB1 : Hid (Below w.heap.size w w1) := hb0.trans (hb1.mono (by omega))
  have Hrow1 : Hid (RowAt w1 g 0 (byteV (([84, 77, 80, 1] ++ body) ++ sumB ([84, 77, 80, 1] ++ body)))) := fun j v hv => by
    have := Hrow.out j v hv
    exact below_at HB1.out this (lt_of_cell this)
  obtain ⟨R, hR⟩ : ∃ R : Nat → Prop, R = fun x => W0.heap.size ≤ x ∧ x < w1.heap.size ∧ x ≠ kb ∧ x ≠ qb ∧ x ≠ mb := ⟨_, rfl⟩
  rw [← hR] at hP1
  have HP1 := hide hP1
  have HRr : Hid (∀ x, R x → W0.heap.size ≤ x ∧ x < w1.heap.size) := by rw [hR]; intro x hx; exact ⟨hx.1, hx.2.1⟩
  clear hb0 hb1 hd0 hP1 hR
  go_wp2_with fail
  refine (open_ok g bcap body w1 Hrow1.out hcap Hby.out (by omega) _ ?_ (by omega)).mono ?_
  · rfl
  rintro e w2 ⟨rb, rfl, hb2, h2r, hrd⟩
  have hz2 := hb2.size
  have hKlt := HP1.out.lt
  have hLd : LdR R W0.heap.size w2 w2 kb qb mb rb g (.slice none 0 0) (.slice none 0 0) (E : Int) ks draws ks0 body false := by
    refine ⟨HP1.out.below hb2, hrd, fun hc => by have := hKlt _ hc; omega, ?_, fun hc => by have := (HRr.out _ hc).2; omega, Only.refl _ _, .inl rfl, by omega⟩
    rintro (hc | hc | hc | hc)
    · omega
    · omega
    · omega
    · simp [Value.ownBlock] at hc
  have HLd := hide hLd
  rw [E0.out] at HLd
  have HB2 : Hid (Below w.heap.size w w2) := HB1.out.trans (hb2.mono (by omega))
  clear hrd hb2 hLd
  go_wp2_with fail
  refine (read_any kb qb mb rb g (.slice none 0 0) E ks draws _ w2 ks0 HLd.out he hl hdl rfl _ _ _ _ _ _ _ _ _ _ _ _ _ _ _ _ _ _ _ _ _ _ E1.out E2.out E3.out E4.out E5.out E6.out E7.out).mono ?_
  rintro e w3 ⟨rfl, ov3, hL3⟩
  have hz3 := hL3.only.size
  have HB3 : Hid (Below w.heap.size w w3) := HB2.out.trans (hL3.only.below (by omega) (fun k hk hc => by
    rcases hc with (hc | hc | hc | hc) | hc
    · omega
    · omega
    · omega
    · simp [Value.ownBlock] at hc
    · omega))
  have Hmv : Hid (∀ x, KSet kb qb mb ov3 x → W0.heap.size ≤ x) := by
    rintro x (hc | hc | hc | hc)
    · omega
    · omega
    · omega
    · rcases hL3.moved with e | ⟨g', e, hg'⟩
      · rw [e] at hc; simp [Value.ownBlock] at hc
      · rw [e] at hc; simp at hc; omega
  have HK3 : Hid (KerP R W0.heap.size w3 kb qb mb ov3 (E : Int) ks draws s) := by
    have := hL3.ker
    simp only [Int.toNat_natCast] at this
    exact this
  clear hL3
  go_wp2_with fail
  go_ret2
  exact ⟨kb, qb, mb, ov3, R, W0.heap.size, rfl, HB3.out, by omega, Hmv.out, fun x hx => (HRr.out x hx).1, HK3.out⟩
end Go.Proofs.Ytndlmgocldckfaa
