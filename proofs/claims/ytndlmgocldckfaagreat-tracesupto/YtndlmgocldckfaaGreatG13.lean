import Derived.Test.YtndlmgocldckfaaGreatG11
namespace Go.Proofs.YtndlmgocldckfaaGreat
open Go.RowKit
set_option linter.unusedVariables false
set_option linter.unusedSimpArgs false
set_option maxRecDepth 100000
set_option maxHeartbeats 4000000
def numRF : Nat → Nat → Int → List Int → Int × Nat
 | 0, _, _, _ => (0, 0)
 | _, _, _, [] => (0, 0)
 | f + 1, i, acc, c :: l =>
  if c = 0 ∧ 0 < i then (0, 0)
  else if c < 128 then (acc + c % 128 * 128 ^ i, i + 1)
  else numRF f (i + 1) (acc + c % 128 * 128 ^ i) l
def numR (l : List Int) : Int × Nat := numRF 9 0 0 l
theorem shl_val (i : Nat) (hi : i < 9) (x : Int) (h0 : 0 ≤ x) (h1 : x < 128) : IntKind.i64.wrap (x * 2 ^ (7 * i)) = x * 128 ^ i := by
 have hc : i = 0 ∨ i = 1 ∨ i = 2 ∨ i = 3 ∨ i = 4 ∨ i = 5 ∨ i = 6 ∨ i = 7 ∨ i = 8 := by omega
 rcases hc with rfl | rfl | rfl | rfl | rfl | rfl | rfl | rfl | rfl <;> (rw [IntKind.wrap_i64]; simp; omega)
theorem or_val (i : Nat) (hi : i < 9) (acc x : Int) (ha : 0 ≤ acc) (ha' : acc < 128 ^ i) (h0 : 0 ≤ x) (h1 : x < 128) : bits .or .i64 acc (x * 128 ^ i) = acc + x * 128 ^ i := by
 obtain ⟨a, rfl⟩ := Int.eq_ofNat_of_zero_le ha
 obtain ⟨b, rfl⟩ := Int.eq_ofNat_of_zero_le h0
 have hp : (128 : Int) ^ i = ((2 ^ (7 * i) : Nat) : Int) := by
  rw [Nat.pow_mul]; simp
 rw [hp] at ha' ⊢
 have hpb : 2 ^ (7 * i) ≤ 2 ^ 56 := Nat.pow_le_pow_right (by omega) (by omega)
 have hal : a < 2 ^ (7 * i) := by omega
 have hmul : b * 2 ^ (7 * i) ≤ 127 * 2 ^ 56 := Nat.mul_le_mul (by omega) hpb
 have e1 : ((b : Int) * ((2 ^ (7 * i) : Nat) : Int)) = ((b * 2 ^ (7 * i) : Nat) : Int) := by simp
 rw [e1]
 have hor : a ||| b * 2 ^ (7 * i) = a + b * 2 ^ (7 * i) := by
  have := Nat.two_pow_add_eq_or_of_lt hal b
  rw [Nat.mul_comm (2 ^ (7 * i)) b] at this
  rw [Nat.or_comm, ← this]; omega
 generalize b * 2 ^ (7 * i) = y at hmul hor
 have hy : y ≤ 127 * 72057594037927936 := by simpa using hmul
 have ha2 : a ≤ 72057594037927936 := by have : a < 2 ^ 56 := Nat.lt_of_lt_of_le hal hpb; simp at this; omega
 have h1 : (BitVec.ofInt 64 (a : Int)).toNat = a := by
  rw [BitVec.ofInt_natCast, BitVec.toNat_ofNat]; exact Nat.mod_eq_of_lt (by omega)
 have h2 : (BitVec.ofInt 64 (y : Int)).toNat = y := by
  rw [BitVec.ofInt_natCast, BitVec.toNat_ofNat]; exact Nat.mod_eq_of_lt (by omega)
 show IntKind.i64.wrap ((BitVec.ofInt 64 (a : Int) ||| BitVec.ofInt 64 (y : Int)).toNat : Int) = _
 rw [BitVec.toNat_or, h1, h2, hor, IntKind.wrap_i64]
 omega
theorem numRF_step (l : List Int) (i : Nat) (acc : Int) (hi : i < l.length) (h9 : i < 9) :
  numRF (9 - i) i acc (l.drop i) = if l[i] = 0 ∧ 0 < i then (0, 0) else if l[i] < 128 then (acc + l[i] % 128 * 128 ^ i, i + 1) else numRF (9 - (i + 1)) (i + 1) (acc + l[i] % 128 * 128 ^ i) (l.drop (i + 1)) := by
 rw [List.drop_eq_getElem_cons hi, show 9 - i = (9 - (i + 1)) + 1 by omega, numRF]
theorem numRF_end (l : List Int) (i : Nat) (acc : Int) (h : l.length ≤ i ∨ 9 ≤ i) : numRF (9 - i) i acc (l.drop i) = (0, 0) := by
 rcases h with h | h
 ·rw [List.drop_eq_nil_of_le h]
  cases 9 - i <;> rfl
 ·rw [show 9 - i = 0 by omega]
  rfl
theorem num_any (b off cap : Nat) (l : List Int) (w : World) (hr : RowAt w b off (byteV l)) (hl : l.length ≤ 2000000000000000) (hv : ∀ c ∈ l, 0 ≤ c ∧ c < 256) (hlc : l.length ≤ cap) :
  Calls Tryz.prog 121 #[.slice (some ⟨b, off, none⟩) l.length cap] w fun e w' => e = .returned (.tuple #[.int .i64 (numR l).1, .int .i64 (numR l).2]) ∧ Below w.heap.size w w' := by
 have Hr := hide hr
 have Hv := hide hv
 clear hr hv
 by_cases h9 : l.length ≤ 9
 ·have hm : min (l.length : Int) 9 = (l.length : Int) := by omega
  go_enter Tryz.func121, Tryz.ntmps121
  go_wp2_with fail
  clear hm
  go_loopg [4, 13] 12 (fun g s4 s13 wr => ∃ (i : Nat) (acc : Int), s13 = .int .i64 i ∧ s4 = .int .i64 acc ∧ 9 - i + 1 ≤ g ∧ i ≤ l.length ∧ 0 ≤ acc ∧ Hid (acc < 128 ^ i ∧ numRF (9 - i) i acc (l.drop i) = numR l) ∧ Hid (Below w.heap.size w wr))
  case atStart => exact ⟨0, 0, rfl, rfl, by omega, by omega, by omega, ⟨by simp, by simp [numR]⟩, Below.refl _ _⟩
  case round =>
   obtain ⟨i, acc, rfl, rfl, hg, hi, ha0, hI, hB⟩ := hrel
   by_cases hlt : i < l.length
   ·have hil : i < l.length := by omega
    have d1 : decide ((i : Int) < (l.length : Int)) = true := by simp; omega
    have hii : (i : Int) < (l.length : Int) := by omega
    have hw : IntKind.i64.wrap ((i : Int) + 1) = (i : Int) + 1 := by rw [IntKind.wrap_i64]; omega
    have hw7 : IntKind.i64.wrap (7 * (i : Int)) = 7 * (i : Int) := by rw [IntKind.wrap_i64]; omega
    have hc := Hr.out i (.int .u8 l[i]) (by simp [byteV, hil])
    have hc' := below_at hB.out hc (lt_of_cell hc)
    have hx := Hv.out l[i] (List.getElem_mem hil)
    have HF : Hid (numR l = if l[i] = 0 ∧ 0 < i then (0, 0) else if l[i] < 128 then (acc + l[i] % 128 * 128 ^ i, i + 1) else numRF (9 - (i + 1)) (i + 1) (acc + l[i] % 128 * 128 ^ i) (l.drop (i + 1))) := by
     show _ = _
     rw [← hI.out.2]; exact numRF_step l i acc hil (by omega)
    generalize l[i] = c at hc hc' hx HF
    have hs0 := shl_val i (by omega) (c % 128) (by omega) (by omega)
    have hs1 : wrap64 (c % 128 * 2 ^ (7 * i)) = c % 128 * 128 ^ i := by have := hs0; rw [IntKind.wrap_i64] at this; unfold wrap64; exact this
    have hs2 := or_val i (by omega) acc (c % 128) ha0 hI.out.1 (by omega) (by omega)
    have hnn : 0 ≤ acc + c % 128 * 128 ^ i ∧ acc + c % 128 * 128 ^ i < 128 ^ (i + 1) := by
     have h1 : (0 : Int) < 128 ^ i := Int.pow_pos (by omega)
     have h2 := hI.out.1
     rw [Int.pow_succ]
     generalize (128 : Int) ^ i = X at h1 h2
     have h3 : 0 ≤ c % 128 * X := Int.mul_nonneg (by omega) (by omega)
     have h4 : c % 128 * X ≤ 127 * X := Int.mul_le_mul_of_nonneg_right (by omega) (by omega)
     omega
    have Hnn := hide hnn
    clear hnn hc
    generalize hsh : c % 128 * 128 ^ i = sh at hs0 hs1 hs2 HF Hnn
    have Hsh := hide hsh
    have Hs2 := hide hs2
    clear hsh
    by_cases hc0 : c = 0 ∧ 0 < i
    ·have hq : numR l = (0, 0) := by rw [HF.out, if_pos hc0]
     have Hq := hide hq
     obtain ⟨rfl, hi0⟩ := hc0
     clear hq
     have d2 : decide (0 < (i : Int)) = true := by rw [decide_eq_true_eq]; omega
     go_wp2_with fail
     go_ret2
     exact ⟨by rw [Hq.out]; rfl, hB.out⟩
    ·by_cases hcs : c < 128
     ·have d3 : decide (c < 128) = true := by simpa using hcs
      have hq := HF.out
      rw [if_neg hc0, if_pos hcs] at hq
      have Hq := hide hq
      clear hq
      by_cases hz : c = 0
      ·subst hz
       obtain rfl : i = 0 := by omega
       simp only [Nat.add_zero] at hc'
       have hs3 := Hs2.out
       obtain rfl : sh = 0 := by have := Hsh.out; simp at this; omega
       go_wp2_with fail
       go_ret2
       exact ⟨by rw [Hq.out]; simp, hB.out⟩
      ·have d4 : (c == 0) = false := by rw [beq_eq_false_iff_ne]; exact hz
       go_wp2_with fail
       go_ret2
       exact ⟨by rw [Hq.out]; simp, hB.out⟩
     ·have d3 : decide (c < 128) = false := by simpa using hcs
      have d4 : (c == 0) = false := by rw [beq_eq_false_iff_ne]; omega
      have hq := HF.out
      rw [if_neg hc0, if_neg hcs] at hq
      have Hq := hide hq
      clear hq
      go_wp2_with fail
      go_roundg (9 - (i + 1) + 1)
      case measure => omega
      case rel => exact ⟨i + 1, acc + sh, by go_num, rfl, Nat.le_refl _, by omega, Hnn.out.1, ⟨Hnn.out.2, Hq.out.symm⟩, hB.out⟩
   ·have d1 : decide ((i : Int) < (l.length : Int)) = false := by simp; omega
    have hq : numR l = (0, 0) := by rw [← hI.out.2]; exact numRF_end l i acc (by omega)
    go_wp2_with fail
    go_ret2
    exact ⟨by rw [hq]; rfl, hB.out⟩
 ·have hm : min (l.length : Int) 9 = 9 := by omega
  have hcp : (9 : Int) ≤ (cap : Int) := by omega
  go_enter Tryz.func121, Tryz.ntmps121
  go_wp2_with fail
  clear hm
  go_loopg [4, 13] 12 (fun g s4 s13 wr => ∃ (i : Nat) (acc : Int), s13 = .int .i64 i ∧ s4 = .int .i64 acc ∧ 9 - i + 1 ≤ g ∧ i ≤ 9 ∧ 0 ≤ acc ∧ Hid (acc < 128 ^ i ∧ numRF (9 - i) i acc (l.drop i) = numR l) ∧ Hid (Below w.heap.size w wr))
  case atStart => exact ⟨0, 0, rfl, rfl, by omega, by omega, by omega, ⟨by simp, by simp [numR]⟩, Below.refl _ _⟩
  case round =>
   obtain ⟨i, acc, rfl, rfl, hg, hi, ha0, hI, hB⟩ := hrel
   by_cases hlt : i < 9
   ·have hil : i < l.length := by omega
    have d1 : decide ((i : Int) < (9 : Int)) = true := by simp; omega
    have hii : (i : Int) < (9 : Int) := by omega
    have hw : IntKind.i64.wrap ((i : Int) + 1) = (i : Int) + 1 := by rw [IntKind.wrap_i64]; omega
    have hw7 : IntKind.i64.wrap (7 * (i : Int)) = 7 * (i : Int) := by rw [IntKind.wrap_i64]; omega
    have hc := Hr.out i (.int .u8 l[i]) (by simp [byteV, hil])
    have hc' := below_at hB.out hc (lt_of_cell hc)
    have hx := Hv.out l[i] (List.getElem_mem hil)
    have HF : Hid (numR l = if l[i] = 0 ∧ 0 < i then (0, 0) else if l[i] < 128 then (acc + l[i] % 128 * 128 ^ i, i + 1) else numRF (9 - (i + 1)) (i + 1) (acc + l[i] % 128 * 128 ^ i) (l.drop (i + 1))) := by
     show _ = _
     rw [← hI.out.2]; exact numRF_step l i acc hil (by omega)
    generalize l[i] = c at hc hc' hx HF
    have hs0 := shl_val i (by omega) (c % 128) (by omega) (by omega)
    have hs1 : wrap64 (c % 128 * 2 ^ (7 * i)) = c % 128 * 128 ^ i := by have := hs0; rw [IntKind.wrap_i64] at this; unfold wrap64; exact this
    have hs2 := or_val i (by omega) acc (c % 128) ha0 hI.out.1 (by omega) (by omega)
    have hnn : 0 ≤ acc + c % 128 * 128 ^ i ∧ acc + c % 128 * 128 ^ i < 128 ^ (i + 1) := by
     have h1 : (0 : Int) < 128 ^ i := Int.pow_pos (by omega)
     have h2 := hI.out.1
     rw [Int.pow_succ]
     generalize (128 : Int) ^ i = X at h1 h2
     have h3 : 0 ≤ c % 128 * X := Int.mul_nonneg (by omega) (by omega)
     have h4 : c % 128 * X ≤ 127 * X := Int.mul_le_mul_of_nonneg_right (by omega) (by omega)
     omega
    have Hnn := hide hnn
    clear hnn hc
    generalize hsh : c % 128 * 128 ^ i = sh at hs0 hs1 hs2 HF Hnn
    have Hsh := hide hsh
    have Hs2 := hide hs2
    clear hsh
    by_cases hc0 : c = 0 ∧ 0 < i
    ·have hq : numR l = (0, 0) := by rw [HF.out, if_pos hc0]
     have Hq := hide hq
     obtain ⟨rfl, hi0⟩ := hc0
     clear hq
     have d2 : decide (0 < (i : Int)) = true := by rw [decide_eq_true_eq]; omega
     go_wp2_with fail
     go_ret2
     exact ⟨by rw [Hq.out]; rfl, hB.out⟩
    ·by_cases hcs : c < 128
     ·have d3 : decide (c < 128) = true := by simpa using hcs
      have hq := HF.out
      rw [if_neg hc0, if_pos hcs] at hq
      have Hq := hide hq
      clear hq
      by_cases hz : c = 0
      ·subst hz
       obtain rfl : i = 0 := by omega
       simp only [Nat.add_zero] at hc'
       have hs3 := Hs2.out
       obtain rfl : sh = 0 := by have := Hsh.out; simp at this; omega
       go_wp2_with fail
       go_ret2
       exact ⟨by rw [Hq.out]; simp, hB.out⟩
      ·have d4 : (c == 0) = false := by rw [beq_eq_false_iff_ne]; exact hz
       go_wp2_with fail
       go_ret2
       exact ⟨by rw [Hq.out]; simp, hB.out⟩
     ·have d3 : decide (c < 128) = false := by simpa using hcs
      have d4 : (c == 0) = false := by rw [beq_eq_false_iff_ne]; omega
      have hq := HF.out
      rw [if_neg hc0, if_neg hcs] at hq
      have Hq := hide hq
      clear hq
      go_wp2_with fail
      go_roundg (9 - (i + 1) + 1)
      case measure => omega
      case rel => exact ⟨i + 1, acc + sh, by go_num, rfl, Nat.le_refl _, by omega, Hnn.out.1, ⟨Hnn.out.2, Hq.out.symm⟩, hB.out⟩
   ·have d1 : decide ((i : Int) < (9 : Int)) = false := by simp; omega
    have hq : numR l = (0, 0) := by rw [← hI.out.2]; exact numRF_end l i acc (by omega)
    go_wp2_with fail
    go_ret2
    exact ⟨by rw [hq]; rfl, hB.out⟩
theorem numF_down : ∀ (k : Nat) (m : Int), 0 ≤ m → m < 128 ^ (k + 1) → numF (k + 1) m = numF k m
 | 0, m, h0, h1 => by
  simp at h1
  show (if 127 < m then (m % 128 + 128) :: numF 0 (m / 128) else [m]) = [m]
  rw [if_neg (by omega)]
 | k + 1, m, h0, h1 => by
  rw [numF]
  by_cases h : 127 < m
  ·rw [if_pos h, numF_down k (m / 128) (by omega) (by rw [Int.pow_succ] at h1; omega), numF, if_pos h]
  ·rw [if_neg h, numF, if_neg h]
theorem numRF_numF (rest : List Int) : ∀ (k : Nat) (m : Int) (i : Nat) (acc : Int) (f : Nat), 0 ≤ m → m < 128 ^ (k + 1) → k + 1 ≤ f → (i = 0 ∨ 0 < m) → numRF f i acc (numF k m ++ rest) = (acc + m * 128 ^ i, i + (numF k m).length)
 | 0, m, i, acc, f, h0, h1, hf, hi => by
  obtain ⟨f', rfl⟩ : ∃ f', f = f' + 1 := ⟨f - 1, by omega⟩
  simp at h1
  simp only [numF, List.cons_append, List.nil_append]
  rw [numRF, if_neg (by omega), if_pos h1, show m % 128 = m by omega]
  rfl
 | k + 1, m, i, acc, f, h0, h1, hf, hi => by
  obtain ⟨f', rfl⟩ : ∃ f', f = f' + 1 := ⟨f - 1, by omega⟩
  rw [numF]
  by_cases h : 127 < m
  ·rw [if_pos h, List.cons_append, numRF, if_neg (by omega), if_neg (by omega)]
   rw [numRF_numF rest k (m / 128) (i + 1) _ f' (by omega) (by rw [Int.pow_succ] at h1; omega) (by omega) (.inr (by omega))]
   have e1 : (m % 128 + 128) % 128 = m % 128 := by omega
   rw [e1, Int.pow_succ]
   have e2 : m = m / 128 * 128 + m % 128 := by omega
   refine Prod.ext ?_ (by simp; omega)
   simp only
   generalize (128 : Int) ^ i = X
   have : m * X = (m / 128 * 128 + m % 128) * X := by rw [← e2]
   rw [this, Int.add_mul, Int.mul_assoc (m / 128) 128 X, Int.mul_comm 128 X]
   omega
  ·rw [if_neg h]
   simp only [List.cons_append, List.nil_append]
   rw [numRF, if_neg (by omega), if_pos (by omega), show m % 128 = m by omega]
   rfl
theorem numR_numB (n : Int) (rest : List Int) (h : 0 ≤ n ∧ n ≤ 9223372036854775807) : numR (numB n ++ rest) = (n, (numB n).length) := by
 unfold numR numB
 rw [numF_down 8 n h.1 (by simp; omega), numRF_numF rest 8 n 0 0 9 h.1 (by simp; omega) (by omega) (.inl rfl)]
 simp
structure RdP (w : World) (rb g : Nat) (l : List Int) (flt : Bool) : Prop where
 cell : ∃ off cap, w.cell? ⟨rb, 0, none⟩ = some (.slice (some ⟨g, off, none⟩) l.length cap) ∧ l.length ≤ cap ∧ RowAt w g off (byteV l)
 flt : w.cell? ⟨rb, 1, none⟩ = some (.bool flt)
 room : Room w rb 2
 ne : g ≠ rb
 bytes : ∀ c ∈ l, 0 ≤ c ∧ c < 256
 len : l.length ≤ 1000000000000000
 glt : g < w.heap.size
def readF (low high : Int) (l : List Int) (flt : Bool) : Int × List Int × Bool :=
 if flt = true ∨ (numR l).2 = 0 ∨ (numR l).1 < low ∨ high < (numR l).1 then (0, l, true) else ((numR l).1, l.drop (numR l).2, false)
theorem numRF_size : ∀ (f i : Nat) (acc : Int) (l : List Int), (numRF f i acc l).2 = 0 ∨ (i < (numRF f i acc l).2 ∧ (numRF f i acc l).2 ≤ i + l.length)
 | 0, i, acc, l => by cases l <;> simp [numRF]
 | f + 1, i, acc, [] => by simp [numRF]
 | f + 1, i, acc, c :: l => by
  rw [numRF]
  split
  ·simp
  ·split
   ·simp
   ·rcases numRF_size f (i + 1) (acc + c % 128 * 128 ^ i) l with h | h
    ·exact .inl h
    ·refine .inr ?_
     simp only [List.length_cons]
     omega
theorem numR_size (l : List Int) : (numR l).2 ≤ l.length := by
 rcases numRF_size 9 0 0 l with h | h
 ·unfold numR; omega
 ·unfold numR; omega
theorem RdP.next {w w1 : World} {rb g : Nat} {l l' : List Int} {flt : Bool} (h : RdP w rb g l flt) (hm : Room w1 rb 2) (hf : w1.cell? ⟨rb, 1, none⟩ = some (.bool flt)) (off' cap' : Nat) (hc : l'.length ≤ cap') (hr : RowAt w1 g off' (byteV l')) (hsub : ∀ c ∈ l', c ∈ l) (hl : l'.length ≤ l.length) (hgl : g < w1.heap.size) :
  RdP (w1.setCell ⟨rb, 0, none⟩ (.slice (some ⟨g, off', none⟩) l'.length cap')) rb g l' flt := by
 have hne := h.ne
 refine ⟨⟨off', cap', World.cell?_setCell_same' _ _ _ (hm 0 (by omega)).1, hc, ?_⟩, (World.cell?_setCell_other _ _ _ _ (by simp)).trans hf, hm.setCell _ _, h.ne, fun c hc => h.bytes c (hsub c hc), by have := h.len; omega, by simpa [World.setCell] using hgl⟩
 exact hr.setCell _ _ (by intro j _ hc; simp only [Addr.mk.injEq] at hc; exact hne hc.1.symm)
theorem RdP.fault {w w1 : World} {rb g : Nat} {l : List Int} {flt : Bool} (h : RdP w rb g l flt) (hb : Below w.heap.size w w1) : RdP (w1.setCell ⟨rb, 1, none⟩ (.bool true)) rb g l true := by
 obtain ⟨off, cap, hc, hlc, hr⟩ := h.cell
 have hrl := lt_of_cell hc
 have hne := h.ne
 have hm := h.room.below hb hrl
 refine ⟨⟨off, cap, (World.cell?_setCell_other _ _ _ _ (by simp)).trans (below_at hb hc hrl), hlc, ?_⟩, World.cell?_setCell_same' _ _ _ (hm 1 (by omega)).1, hm.setCell _ _, h.ne, h.bytes, h.len, by have := h.glt; have := hb.size; simp [World.setCell]; omega⟩
 refine RowAt.setCell (fun j v hv => below_at hb (hr j v hv) (lt_of_cell (hr j v hv))) _ _ (by intro j _ hc; simp only [Addr.mk.injEq] at hc; exact hne hc.1.symm)
theorem rNum_any (rb g : Nat) (l : List Int) (flt : Bool) (low high : Int) (w : World) (h : RdP w rb g l flt) :
  Calls Tryz.prog 104 #[.pointer (some ⟨rb, 0, none⟩), .int .i64 low, .int .i64 high] w fun e w' => e = .returned (.int .i64 (readF low high l flt).1) ∧ Only (· = rb) w w' ∧ RdP w' rb g (readF low high l flt).2.1 (readF low high l flt).2.2 := by
 obtain ⟨off, cap, hc, hlc, hrow⟩ := h.cell
 have hf := h.flt
 have hlen := h.len
 have hrl := lt_of_cell hc
 have H := hide h
 have Hrow := hide hrow
 have HN := hide (num_any g off cap l w hrow (by omega) h.bytes hlc)
 have hsz := numR_size l
 have hz0 := (h.room 0 (by omega)).2
 have hz1 := (h.room 1 (by omega)).2
 have HF : Hid (readF low high l flt = if flt = true ∨ (numR l).2 = 0 ∨ (numR l).1 < low ∨ high < (numR l).1 then (0, l, true) else ((numR l).1, l.drop (numR l).2, false)) := by show _ = _; rfl
 clear h hrow
 go_enter Tryz.func104, Tryz.ntmps104
 go_wp2_with fail
 refine HN.out.mono ?_
 rintro e w1 ⟨rfl, hb1⟩
 have c1 := below_at hb1 hc hrl
 have f1 := below_at hb1 hf hrl
 have hm1 := H.out.room.below hb1 hrl
 have y0 := (hm1 0 (by omega)).2
 have y1 := (hm1 1 (by omega)).2
 generalize hnr : numR l = nr at HF hsz ⊢
 obtain ⟨n, sz⟩ := nr
 simp only at HF hsz ⊢
 have HB1 := hide hb1
 have Hm1 := hide hm1
 clear hb1 hc hf HN hz0 hz1 hm1
 have hsum : flt = true ∨ (flt = false ∧ (sz = 0 ∨ (sz ≠ 0 ∧ (n < low ∨ (¬ n < low ∧ (high < n ∨ ¬ high < n)))))) := by
  rcases flt with _ | _
  ·refine .inr ⟨rfl, ?_⟩
   rcases Nat.eq_zero_or_pos sz with h | h
   ·exact .inl h
   ·refine .inr ⟨by omega, ?_⟩
    omega
  ·exact .inl rfl
 have HBad : Hid ((flt = true ∨ sz = 0 ∨ n < low ∨ high < n) → readF low high l flt = (0, l, true)) := fun hb => by rw [HF.out, if_pos hb]
 have HWf : Hid (Only (· = rb) w (w1.setCell ⟨rb, 1, none⟩ (.bool true))) := (Only.new (S := (· = rb)) HB1.out).setCell (p := ⟨rb, 1, none⟩) (show rb = rb from rfl) _
 rcases hsum with rfl | ⟨rfl, hz | ⟨hz, hnl | ⟨hnl, hnh | hnh⟩⟩⟩
 ·go_wp2_with fail
  go_ret
  rw [HBad.out (by simp)]
  exact ⟨rfl, HWf.out, H.out.fault HB1.out⟩
 ·have d1 : ((sz : Int) == 0) = true := by rw [beq_iff_eq]; omega
  go_wp2_with fail
  go_ret
  rw [HBad.out (.inr (.inl hz))]
  exact ⟨rfl, HWf.out, H.out.fault HB1.out⟩
 ·have d1 : ((sz : Int) == 0) = false := by rw [beq_eq_false_iff_ne]; omega
  have d2 : decide (n < low) = true := by simpa using hnl
  go_wp2_with fail
  go_ret
  rw [HBad.out (.inr (.inr (.inl hnl)))]
  exact ⟨rfl, HWf.out, H.out.fault HB1.out⟩
 ·have d1 : ((sz : Int) == 0) = false := by rw [beq_eq_false_iff_ne]; omega
  have d2 : decide (n < low) = false := by simpa using hnl
  have d3 : decide (high < n) = true := by simpa using hnh
  go_wp2_with fail
  go_ret
  rw [HBad.out (.inr (.inr (.inr hnh)))]
  exact ⟨rfl, HWf.out, H.out.fault HB1.out⟩
 ·have d1 : ((sz : Int) == 0) = false := by rw [beq_eq_false_iff_ne]; omega
  have d2 : decide (n < low) = false := by simpa using hnl
  have d3 : decide (high < n) = false := by simpa using hnh
  have hsi : (sz : Int) ≤ (l.length : Int) := by omega
  have hok : readF low high l false = (n, l.drop sz, false) := by
   rw [HF.out, if_neg]
   rintro (h | h | h | h)
   ·cases h
   ·exact hz h
   ·exact hnl h
   ·exact hnh h
  have Hok := hide hok
  have Hf1 := hide f1
  have hdl : (l.drop sz).length = l.length - sz := by simp
  have Hdl := hide hdl
  clear hok hdl
  go_wp2_with fail
  all_goals
   go_ret
   rw [Hok.out]
   refine ⟨rfl, (Only.new (S := (· = rb)) HB1.out).setCell (p := ⟨rb, 0, none⟩) (show rb = rb from rfl) _, ?_⟩
   have hrow1 : RowAt w1 g (off + sz) (byteV (l.drop sz)) := by
    intro j v hv
    have h1 := Hrow.out (sz + j) v (by rw [← hv]; simp [byteV])
    have h2 := below_at HB1.out h1 (lt_of_cell h1)
    rw [← Nat.add_assoc] at h2
    exact h2
   rw [← Hdl.out]
   first
    | exact H.out.next Hm1.out Hf1.out _ _ (by rw [Hdl.out]; omega) hrow1 (fun c hc => List.mem_of_mem_drop hc) (by rw [Hdl.out]; omega) (by have := H.out.glt; have := HB1.out.size; omega)
    | (refine H.out.next Hm1.out Hf1.out _ _ (by rw [Hdl.out]; omega) ?_ (fun c hc => List.mem_of_mem_drop hc) (by rw [Hdl.out]; omega) (by have := H.out.glt; have := HB1.out.size; omega)
       have h0 : l.drop sz = [] := List.eq_nil_of_length_eq_zero (by rw [Hdl.out]; omega)
       rw [h0]
       intro j v hv
       simp [byteV] at hv)
end Go.Proofs.YtndlmgocldckfaaGreat
