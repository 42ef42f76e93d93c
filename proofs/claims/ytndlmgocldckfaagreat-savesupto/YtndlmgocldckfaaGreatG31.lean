import Derived.Test.YtndlmgocldckfaaGreatG30
import Derived.Test.YtndlmgocldckfaaGreatG12
import Derived.BigQuiet
import Derived.Deep.LoopGhost
import Derived.Test.YtndlmgocldckfaaGreatG09
import Derived.Test.YtndlmgocldckfaaGreatG10
namespace Go.Proofs.YtndlmgocldckfaaGreat
open Go.RowKit
set_option linter.unusedVariables false
set_option linter.unusedSimpArgs false
set_option maxRecDepth 100000
set_option maxHeartbeats 4000000
def lenF : Nat → Int → Int → List Int → Int × List Int × Bool
 | 0, _, _, l => (0, l, false)
 | _ + 1, _, _, [] => (0, [], false)
 | f + 1, n, p, b :: l => if b < 128 then (n + b % 128 * p, l, true) else lenF f (n + b % 128 * p) (p * 128) l
def numL (lo hi : Int) (l : List Int) (bad : Bool) : Int × List Int × Bool :=
 if (lenF 7 0 1 l).2.2 then ((lenF 7 0 1 l).1, (lenF 7 0 1 l).2.1, bad || !inB (lenF 7 0 1 l).1 lo hi) else (0, (lenF 7 0 1 l).2.1, true)
structure RdS (w : World) (rb : Nat) (all l : List Int) (bad : Bool) : Prop where
 str : w.cell? ⟨rb, 0, none⟩ = some (.string (strW all))
 pos : ∃ i : Nat, i ≤ all.length ∧ all.drop i = l ∧ w.cell? ⟨rb, 1, none⟩ = some (.int .i64 i)
 bad : w.cell? ⟨rb, 2, none⟩ = some (.bool bad)
 room : Room w rb 3
theorem RdS.only {w w' : World} {rb : Nat} {all l : List Int} {bad : Bool} {S : Nat → Prop} (h : RdS w rb all l bad) (ho : Only S w w') (hr : ¬ S rb) : RdS w' rb all l bad := by
 obtain ⟨i, h1, h2, h3⟩ := h.pos
 exact ⟨ho.at h.str hr, ⟨i, h1, h2, ho.at h3 hr⟩, ho.at h.bad hr, h.room.only ho hr⟩
theorem RdS.below {w w' : World} {rb : Nat} {all l : List Int} {bad : Bool} (h : RdS w rb all l bad) (hb : Below w.heap.size w w') : RdS w' rb all l bad := h.only (Only.new (S := fun _ => False) hb) (by simp)
theorem RdS.lt {w : World} {rb : Nat} {all l : List Int} {bad : Bool} (h : RdS w rb all l bad) : rb < w.heap.size := lt_of_cell h.str
theorem RdS.step {w : World} {rb : Nat} {all l l' : List Int} {bad : Bool} (h : RdS w rb all l bad) (i : Nat) (hi : i ≤ all.length) (hl : all.drop i = l') : RdS (w.setCell ⟨rb, 1, none⟩ (.int .i64 i)) rb all l' bad := by
 refine ⟨?_, ⟨i, hi, hl, World.cell?_setCell_same' _ _ _ (h.room 1 (by omega)).1⟩, ?_, h.room.setCell _ _⟩
 ·rw [World.cell?_setCell_other _ _ _ _ (by simp)]; exact h.str
 ·rw [World.cell?_setCell_other _ _ _ _ (by simp)]; exact h.bad
theorem RdS.mark {w : World} {rb : Nat} {all l : List Int} {bad : Bool} (h : RdS w rb all l bad) (b : Bool) : RdS (w.setCell ⟨rb, 2, none⟩ (.bool b)) rb all l b := by
 obtain ⟨i, h1, h2, h3⟩ := h.pos
 refine ⟨?_, ⟨i, h1, h2, ?_⟩, World.cell?_setCell_same' _ _ _ (h.room 2 (by omega)).1, h.room.setCell _ _⟩
 ·rw [World.cell?_setCell_other _ _ _ _ (by simp)]; exact h.str
 ·rw [World.cell?_setCell_other _ _ _ _ (by simp)]; exact h3
theorem lenF_end (n p : Int) (k : Nat) (l : List Int) (h : k = 0 ∨ l = []) : lenF k n p l = (0, l, false) := by
 rcases h with rfl | rfl
 ·rfl
 ·cases k <;> rfl
theorem rdNum_any (rb : Nat) (all l : List Int) (bad : Bool) (lo hi : Int) (w : World) (h : RdS w rb all l bad) (hv : ∀ c ∈ all, 0 ≤ c ∧ c < 256) (hl : all.length ≤ 1000000000) :
  Calls Tryz.prog 67 #[.pointer (some ⟨rb, 0, none⟩), .int .i64 lo, .int .i64 hi] w fun e w' => e = .returned (.int .i64 (numL lo hi l bad).1) ∧ Only (· = rb) w w' ∧ RdS w' rb all (numL lo hi l bad).2.1 (numL lo hi l bad).2.2 := by
 have Hv := hide hv
 have H := hide h
 have hz : (strW all).size = all.length := strW_size all
 have hrl := h.lt
 clear hv h
 go_enter Tryz.func67, Tryz.ntmps67
 go_wp2
 go_loopg [7, 8, 9, 10, 11] 9 (fun g s7 s8 s9 _ _ wr => ∃ (k : Nat) (n p : Int) (m : List Int), s7 = .int .i64 n ∧ s8 = .int .i64 p ∧ s9 = .int .i64 k ∧ 7 - k + 1 ≤ g ∧ k ≤ 7 ∧ 0 ≤ n ∧ n < p ∧ 1 ≤ p ∧ p ≤ 562949953421312 ∧ Hid (p = 128 ^ k ∧ lenF (7 - k) n p m = lenF 7 0 1 l ∧ Only (· = rb) w wr ∧ RdS wr rb all m bad))
 case atStart => exact ⟨0, 0, 1, l, rfl, rfl, rfl, by omega, by omega, by omega, by omega, by omega, by omega, by simp, rfl, Only.refl _ _, H.out⟩
 case round =>
  obtain ⟨k, n, p, m, rfl, rfl, rfl, hg, hk, hn0, hn1, hp0, hp1, hI⟩ := hrel
  obtain ⟨hp, hlen, hO, hR⟩ := hI.out
  obtain ⟨i, hile, hd, c1⟩ := hR.pos
  have c0 := hR.str
  have c2 := hR.bad
  have f1 := (hR.room 1 (by omega)).2
  have f2 := (hR.room 2 (by omega)).2
  have hzr := hO.size
  by_cases hyes : k < 7 ∧ i < all.length
  ·obtain ⟨hk7, hil⟩ := hyes
   have d1 : decide ((k : Int) < 7) = true := by simp; omega
   have d2 : decide ((i : Int) < (all.length : Int)) = true := by simp; omega
   have hgt : (i : Nat) < (strW all).size := by omega
   have hp6 : p ≤ 4398046511104 := by
    have : k = 0 ∨ k = 1 ∨ k = 2 ∨ k = 3 ∨ k = 4 ∨ k = 5 ∨ k = 6 := by omega
    rcases this with rfl | rfl | rfl | rfl | rfl | rfl | rfl <;> simp at hp <;> omega
   have HX : Hid (((strW all)[i].toNat : Int) = all[i]) := by
    have hb := Hv.out all[i] (List.getElem_mem hil)
    have e1 : (strW all)[i] = UInt8.ofNat all[i].toNat := by simp [strW, ByteArray.getElem_eq_getElem_data]
    have h8 : (UInt8.ofNat all[i].toNat).toNat = all[i].toNat % 256 := UInt8.toNat_ofNat'
    show _ = _
    rw [e1, h8]
    omega
   have hb := Hv.out all[i] (List.getElem_mem hil)
   have HF : Hid (lenF 7 0 1 l = if all[i] < 128 then (n + all[i] % 128 * p, all.drop (i + 1), true) else lenF (7 - (k + 1)) (n + all[i] % 128 * p) (p * 128) (all.drop (i + 1))) := by
    show _ = _
    rw [← hlen, ← hd, List.drop_eq_getElem_cons hil, show 7 - k = (7 - (k + 1)) + 1 by omega, lenF]
   have HP : Hid (p * 128 = 128 ^ (k + 1)) := by show _ = _; rw [hp, Int.pow_succ]
   have HOR : Hid (∀ q, Only (· = rb) w ((wr.drewN q).setCell ⟨rb, 1, none⟩ (.int .i64 ((i : Int) + 1))) ∧ RdS ((wr.drewN q).setCell ⟨rb, 1, none⟩ (.int .i64 ((i : Int) + 1))) rb all (all.drop (i + 1)) bad) := by
    intro q
    refine ⟨(hO.trans (Only.new (below_drewN (Below.refl _ _) _))).setCell (p := ⟨rb, 1, none⟩) rfl _, ?_⟩
    have := (hR.below (below_drewN (Below.refl _ _) q)).step (i + 1) (by omega) rfl
    simpa using this
   generalize all[i] = b at HX hb HF
   have hw1 : IntKind.i64.wrap ((i : Int) + 1) = (i : Int) + 1 := by rw [IntKind.wrap_i64]; omega
   have hk1 : IntKind.i64.wrap ((k : Int) + 1) = (k : Int) + 1 := by rw [IntKind.wrap_i64]; omega
   have hbp : 0 ≤ b % 128 * p ∧ b % 128 * p ≤ 127 * p := ⟨Int.mul_nonneg (by omega) (by omega), Int.mul_le_mul_of_nonneg_right (by omega) (by omega)⟩
   have m1 : wrap64 (b % 128 * p) = b % 128 * p := by simp only [wrap64]; omega
   have m2 : wrap64 (n + b % 128 * p) = n + b % 128 * p := by simp only [wrap64]; omega
   have m3 : wrap64 (p * 128) = p * 128 := by simp only [wrap64]; omega
   have m4 : Int.tmod b 128 = b % 128 := Int.tmod_eq_emod_of_nonneg hb.1
   have m5 : wrap64 b = b := by simp only [wrap64]; omega
   have hx := HX.out
   have Hbp : Hid (0 ≤ n + b % 128 * p ∧ n + b % 128 * p < p * 128) := ⟨by omega, by omega⟩
   clear hI hp hlen hO hR hd HX hbp
   by_cases hb8 : b < 128
   ·have d3 : decide (b < 128) = true := by simpa using hb8
    have HF2 : Hid (numL lo hi l bad = (n + b % 128 * p, all.drop (i + 1), bad || !inB (n + b % 128 * p) lo hi)) := by
     show _ = _
     unfold numL
     rw [HF.out, if_pos hb8]
     rfl
    clear HF
    rcases bad with _ | _
    all_goals
     go_wp2_with fail
     go_quiet (fail)
     go_wp2_with fail
     go_quiet (fail)
     go_wp2_with (go_at_call 57; refine (in_any _ _ _ _).mono ?_; rintro e w1 ⟨rfl, rfl⟩)
     go_ret
     rw [HF2.out]
     refine ⟨rfl, ?_, ?_⟩
     ·exact (HOR.out _).1.setCell (p := ⟨rb, 2, none⟩) rfl _
     ·exact (HOR.out _).2.mark _
   ·have d3 : decide (b < 128) = false := by simpa using hb8
    have HF2 : Hid (lenF (7 - (k + 1)) (n + b % 128 * p) (p * 128) (all.drop (i + 1)) = lenF 7 0 1 l) := by
     show _ = _
     rw [HF.out, if_neg hb8]
    clear HF
    go_wp2_with fail
    go_quiet (fail)
    go_wp2_with fail
    go_quiet (fail)
    go_wp2_with fail
    go_roundg (7 - (k + 1) + 1)
    case measure => omega
    case rel => exact ⟨k + 1, n + b % 128 * p, p * 128, all.drop (i + 1), congrArg (Value.int .i64) m2, rfl, by go_num, Nat.le_refl _, by omega, Hbp.out.1, Hbp.out.2, by omega, by omega, HP.out, HF2.out, (HOR.out _).1, (HOR.out _).2⟩
  ·have HF : Hid (numL lo hi l bad = (0, m, true)) := by
    show _ = _
    have he : lenF (7 - k) n p m = (0, m, false) := by
     refine lenF_end n p _ m ?_
     by_cases hk7 : k < 7
     ·right
      rw [← hd]
      exact List.drop_of_length_le (by omega)
     ·left; omega
    unfold numL
    rw [← hlen, he]
    rfl
   have HOR : Hid (∀ q, Only (· = rb) w (wr.drewN q) ∧ RdS (wr.drewN q) rb all m bad) := by
    intro q
    exact ⟨hO.trans (Only.new (below_drewN (Below.refl _ _) _)), hR.below (below_drewN (Below.refl _ _) q)⟩
   by_cases hk7 : k < 7
   ·have d1 : decide ((k : Int) < 7) = true := by simp; omega
    have d2 : decide ((i : Int) < (all.length : Int)) = false := by simp; omega
    have d3 : decide (i < all.length) = false := by simp; omega
    clear hI hp hlen hO hR hd hyes
    go_wp2_with fail
    go_quiet (fail)
    go_wp2_with fail
    go_ret
    rw [HF.out]
    exact ⟨rfl, (HOR.out _).1.setCell (p := ⟨rb, 2, none⟩) rfl _, (HOR.out _).2.mark _⟩
   ·have d1 : decide ((k : Int) < 7) = false := by simp; omega
    clear hI hp hlen hO hR hd hyes
    go_wp2_with fail
    go_quiet (fail)
    go_wp2_with fail
    go_ret
    rw [HF.out]
    exact ⟨rfl, (HOR.out _).1.setCell (p := ⟨rb, 2, none⟩) rfl _, (HOR.out _).2.mark _⟩
theorem RdP.only {w w' : World} {rb g : Nat} {l : List Int} {flt : Bool} {U : Nat → Prop} (h : RdP w rb g l flt) (ho : Only U w w') (hr : ¬ U rb) (hg : ¬ U g) : RdP w' rb g l flt := by
 obtain ⟨off, cap, hc, hlc, hrow⟩ := h.cell
 exact ⟨⟨off, cap, ho.at hc hr, hlc, hrow.only ho hg⟩, ho.at h.flt hr, h.room.only ho hr, h.ne, h.bytes, h.len, Nat.lt_of_lt_of_le h.glt ho.size⟩
theorem RdP.lt {w : World} {rb g : Nat} {l : List Int} {flt : Bool} (h : RdP w rb g l flt) : rb < w.heap.size := lt_of_cell h.flt
theorem readF_le (low high : Int) (hl : 0 ≤ low) (l : List Int) (flt : Bool) : (readF low high l flt).1 = 0 ∨ (low ≤ (readF low high l flt).1 ∧ (readF low high l flt).1 ≤ high) := by
 unfold readF
 split
 ·simp
 ·rename_i h
  simp only [not_or] at h
  right; simp only; omega
def unsI (v : Int) : Int := if v % 2 = 1 then -((v + 1) / 2) else v / 2
def readS (most : Int) (l : List Int) (flt : Bool) : Int × List Int × Bool := (unsI (readF 0 (2 * most) l flt).1, (readF 0 (2 * most) l flt).2)
theorem rSgn_any (rb g : Nat) (l : List Int) (flt : Bool) (w : World) (h : RdP w rb g l flt) :
  Calls Tryz.prog 105 #[.pointer (some ⟨rb, 0, none⟩), .int .i64 1000000000] w fun e w' => e = .returned (.int .i64 (readS 1000000000 l flt).1) ∧ Only (· = rb) w w' ∧ RdP w' rb g (readS 1000000000 l flt).2.1 (readS 1000000000 l flt).2.2 := by
 have H := hide h
 have hle := readF_le 0 2000000000 (by omega) l flt
 have HS : Hid (readS 1000000000 l flt = (unsI (readF 0 2000000000 l flt).1, (readF 0 2000000000 l flt).2)) := by show _ = _; rfl
 clear h
 go_enter Tryz.func105, Tryz.ntmps105
 go_wp2_with fail
 refine (rNum_any rb g l flt 0 2000000000 w H.out).mono ?_
 rintro e w1 ⟨rfl, ho1, hr1⟩
 have HO1 := hide ho1
 have HR1 := hide hr1
 clear ho1 hr1
 generalize readF 0 2000000000 l flt = p at hle HS HR1 ⊢
 obtain ⟨v, l', f'⟩ := p
 simp only at hle HS HR1 ⊢
 have hv : 0 ≤ v ∧ v ≤ 2000000000 := by omega
 obtain ⟨hv0, hv1⟩ := hv
 have t1 : v.tmod 2 = v % 2 := Int.tmod_eq_emod_of_nonneg hv0
 have w1' : IntKind.i64.wrap (v % 2) = v % 2 := by rw [IntKind.wrap_i64]; omega
 by_cases hodd : v % 2 = 1
 ·have d1 : (v % 2 == 1) = true := by rw [beq_iff_eq]; exact hodd
  have w2 : IntKind.i64.wrap (v + 1) = v + 1 := by rw [IntKind.wrap_i64]; omega
  have w3 : IntKind.i64.wrap (-(v + 1)) = -(v + 1) := by rw [IntKind.wrap_i64]; omega
  have t2 : (-(v + 1)).tdiv 2 = -((v + 1) / 2) := by
   rw [Int.neg_tdiv, Int.tdiv_eq_ediv_of_nonneg (by omega)]
  have w4 : IntKind.i64.wrap (-((v + 1) / 2)) = -((v + 1) / 2) := by rw [IntKind.wrap_i64]; omega
  go_wp2_with fail
  go_ret
  rw [HS.out]
  refine ⟨?_, HO1.out, HR1.out⟩
  simp [unsI, hodd, w2, w3, t2, w4]
 ·have d1 : (v % 2 == 1) = false := by rw [beq_eq_false_iff_ne]; exact hodd
  have t2 : v.tdiv 2 = v / 2 := Int.tdiv_eq_ediv_of_nonneg hv0
  have w4 : IntKind.i64.wrap (v / 2) = v / 2 := by rw [IntKind.wrap_i64]; omega
  go_wp2_with fail
  go_ret
  rw [HS.out]
  refine ⟨?_, HO1.out, HR1.out⟩
  simp [unsI, hodd, t2, w4]
theorem rEnd_any (rb g : Nat) (l : List Int) (flt : Bool) (w : World) (h : RdP w rb g l flt) :
  Calls Tryz.prog 71 #[.pointer (some ⟨rb, 0, none⟩)] w fun e w' => e = .returned (.bool (!flt && l.isEmpty)) ∧ Below w.heap.size w w' := by
 obtain ⟨off, cap, hc, hlc, hrow⟩ := h.cell
 have hf := h.flt
 clear h hrow
 rcases flt with _ | _
 ·rcases l with _ | ⟨x, l⟩
  ·go_enter Tryz.func71, Tryz.ntmps71
   go_wp2
   go_ret
   exact ⟨rfl, Below.refl _ _⟩
  ·have d : (((l.length : Int) + 1) == 0) = false := by rw [beq_eq_false_iff_ne]; omega
   simp only [List.length_cons] at hc
   go_enter Tryz.func71, Tryz.ntmps71
   go_wp2
   go_ret
   exact ⟨by simp [d], Below.refl _ _⟩
 ·go_enter Tryz.func71, Tryz.ntmps71
  go_wp2
  go_ret
  exact ⟨rfl, Below.refl _ _⟩
theorem lenF_range : ∀ (f : Nat) (n p : Int) (l : List Int), (∀ c ∈ l, 0 ≤ c ∧ c < 256) → 0 ≤ n → n < p → 0 ≤ (lenF f n p l).1 ∧ (lenF f n p l).1 < p * 128 ^ f
 | 0, n, p, l, _, h0, h1 => by simp [lenF]; omega
 | f + 1, n, p, [], _, h0, h1 => by
  simp only [lenF]
  have : (0 : Int) < 128 ^ (f + 1) := Int.pow_pos (by omega)
  exact ⟨Int.le_refl _, Int.mul_pos (by omega) this⟩
 | f + 1, n, p, b :: l, hb, h0, h1 => by
  have hbb := hb b (List.mem_cons_self ..)
  have hm : 0 ≤ b % 128 * p ∧ b % 128 * p ≤ 127 * p := ⟨Int.mul_nonneg (by omega) (by omega), Int.mul_le_mul_of_nonneg_right (by omega) (by omega)⟩
  have hpow : (1 : Int) ≤ 128 ^ f := Int.pow_pos (by omega)
  rw [lenF]
  split
  ·refine ⟨by show 0 ≤ n + b % 128 * p; omega, ?_⟩
   show n + b % 128 * p < p * 128 ^ (f + 1)
   have h2 : p * 128 * 1 ≤ p * 128 * 128 ^ f := Int.mul_le_mul_of_nonneg_left hpow (by omega)
   have h3 : p * 128 ^ (f + 1) = p * 128 * 128 ^ f := by rw [Int.pow_succ, Int.mul_assoc, Int.mul_comm (128 ^ f) 128]
   omega
  ·have ih := lenF_range f (n + b % 128 * p) (p * 128) l (fun c hc => hb c (List.mem_cons_of_mem _ hc)) (by omega) (by omega)
   have h3 : p * 128 ^ (f + 1) = p * 128 * 128 ^ f := by rw [Int.pow_succ, Int.mul_assoc, Int.mul_comm (128 ^ f) 128]
   rw [h3]
   exact ih
theorem lenF_sub : ∀ (f : Nat) (n p : Int) (l : List Int), ∃ a, l = a ++ (lenF f n p l).2.1
 | 0, n, p, l => ⟨[], rfl⟩
 | f + 1, n, p, [] => ⟨[], rfl⟩
 | f + 1, n, p, b :: l => by
  rw [lenF]
  split
  ·exact ⟨[b], rfl⟩
  ·obtain ⟨a, ha⟩ := lenF_sub f (n + b % 128 * p) (p * 128) l
   exact ⟨b :: a, by rw [List.cons_append, ← ha]⟩
theorem numL_range (lo hi : Int) (l : List Int) (bad : Bool) (hb : ∀ c ∈ l, 0 ≤ c ∧ c < 256) : 0 ≤ (numL lo hi l bad).1 ∧ (numL lo hi l bad).1 < 562949953421312 := by
 have := lenF_range 7 0 1 l hb (by omega) (by omega)
 unfold numL
 split
 ·simpa using this
 ·simp
theorem numL_sub (lo hi : Int) (l : List Int) (bad : Bool) : ∃ a, l = a ++ (numL lo hi l bad).2.1 := by
 obtain ⟨a, ha⟩ := lenF_sub 7 0 1 l
 refine ⟨a, ?_⟩
 unfold numL
 split <;> exact ha
theorem numL_bytes {lo hi : Int} {l : List Int} {bad : Bool} (hb : ∀ c ∈ l, 0 ≤ c ∧ c < 256) : ∀ c ∈ (numL lo hi l bad).2.1, 0 ≤ c ∧ c < 256 := by
 obtain ⟨a, ha⟩ := numL_sub lo hi l bad
 intro c hc
 exact hb c (by rw [ha]; exact List.mem_append_right _ hc)
theorem numL_good {lo hi : Int} {l : List Int} {bad : Bool} (h : (numL lo hi l bad).2.2 = false) : bad = false ∧ lo ≤ (numL lo hi l bad).1 ∧ (numL lo hi l bad).1 ≤ hi := by
 unfold numL at h ⊢
 split at h
 ·rename_i hs
  simp only [Bool.or_eq_false_iff, Bool.not_eq_false'] at h
  rw [if_pos hs]
  have := h.2
  simp [inB] at this
  exact ⟨h.1, this⟩
 ·simp at h
def sgnL (l : List Int) (bad : Bool) : Int × List Int × Bool := (unsI (numL 0 2000000000 l bad).1, (numL 0 2000000000 l bad).2)
theorem RdS.bytes {w : World} {rb : Nat} {all l : List Int} {bad : Bool} (h : RdS w rb all l bad) (hv : ∀ c ∈ all, 0 ≤ c ∧ c < 256) : ∀ c ∈ l, 0 ≤ c ∧ c < 256 := by
 obtain ⟨i, _, hd, _⟩ := h.pos
 intro c hc
 rw [← hd] at hc
 exact hv c (List.mem_of_mem_drop hc)
theorem rdSgn_any (rb : Nat) (all l : List Int) (bad : Bool) (w : World) (h : RdS w rb all l bad) (hv : ∀ c ∈ all, 0 ≤ c ∧ c < 256) (hl : all.length ≤ 1000000000) :
  Calls Tryz.prog 68 #[.pointer (some ⟨rb, 0, none⟩)] w fun e w' => e = .returned (.int .i64 (sgnL l bad).1) ∧ Only (· = rb) w w' ∧ RdS w' rb all (sgnL l bad).2.1 (sgnL l bad).2.2 := by
 have hN := rdNum_any rb all l bad 0 2000000000 w h hv hl
 have hr := numL_range 0 2000000000 l bad (h.bytes hv)
 unfold sgnL
 generalize numL 0 2000000000 l bad = r at hN hr
 obtain ⟨v, l1, f1⟩ := r
 simp only at hN hr ⊢
 have HN := hide hN
 clear hN
 have e1 : Int.tmod v 2 = v % 2 := Int.tmod_eq_emod_of_nonneg hr.1
 by_cases ho : v % 2 = 0
 ·have d : (v % 2 == 0) = true := by simpa using ho
  have e2 : Int.tdiv v 2 = v / 2 := Int.tdiv_eq_ediv_of_nonneg hr.1
  have hu : unsI v = v / 2 := by rw [unsI, if_neg (by omega)]
  rw [hu]
  clear hu ho
  go_enter Tryz.func68, Tryz.ntmps68
  go_wp2_with (go_at_call 67; refine HN.out.mono ?_; rintro e w1 ⟨rfl, hO, hR⟩)
  go_ret
  exact ⟨rfl, hO, hR⟩
 ·have d : (v % 2 == 0) = false := by simpa using ho
  have hu : unsI v = -((v + 1) / 2) := by rw [unsI, if_pos (by omega)]
  have e2 : Int.tdiv (-(v + 1)) 2 = -((v + 1) / 2) := by rw [Int.neg_tdiv, Int.tdiv_eq_ediv_of_nonneg (by omega)]
  have e3 : wrap64 (v + 1) = v + 1 := by simp only [wrap64]; omega
  have e4 : wrap64 (-(v + 1)) = -(v + 1) := by simp only [wrap64]; omega
  rw [hu]
  clear hu ho
  go_enter Tryz.func68, Tryz.ntmps68
  go_wp2_with (go_at_call 67; refine HN.out.mono ?_; rintro e w1 ⟨rfl, hO, hR⟩)
  go_ret
  refine ⟨?_, hO, hR⟩
  first | rfl | (simp; done) | (rw [← e2]; simp)
def lessF (later an : Int) : Int := if later = 0 then an + 1 else 1
def evRF (ents : Int) (nk : Nat) (next t an : Int) (l : List Int) (flt : Bool) : Ev × List Int × Bool :=
 let a := readF 0 (1000000000000 - t) l flt
 let b := readF (lessF a.1 an) (next - 1) a.2.1 a.2.2
 let c := readF 0 (nk - 1) b.2.1 b.2.2
 let d := readF 0 (ents - 1) c.2.1 c.2.2
 (⟨t + a.1, b.1, c.1, d.1⟩, d.2)
theorem rEv_any {R : Nat → Prop} {base : Nat} (kb qb mb : Nat) (ov : Value) (ents : Int) (ks : List (List Ins)) (draws : List Int) (s : KS) (rb g : Nat) (l : List Int) (flt : Bool) (t an k0 e0 : Int) (w : World) (h : KerP R base w kb qb mb ov ents ks draws s) (he : 1 ≤ ents ∧ ents ≤ 8) (hk : ks.length ≤ 8) (hr : RdP w rb g l flt) (hne : rb ≠ kb) (ht : 0 ≤ t ∧ t ≤ 1000000000000) (ha : 0 ≤ an ∧ an ≤ 1000000000) (hnx : 0 ≤ s.next ∧ s.next ≤ 1000000000) :
  Calls Tryz.prog 122 #[.pointer (some ⟨kb, 0, none⟩), .pointer (some ⟨rb, 0, none⟩), .agg #[.int .i64 an, .int .i64 t, .int .i64 k0, .int .i64 e0]] w fun e w' => e = .returned (evVal (evRF ents ks.length s.next t an l flt).1) ∧ Only (· = rb) w w' ∧ RdP w' rb g (evRF ents ks.length s.next t an l flt).2.1 (evRF ents ks.length s.next t an l flt).2.2 := by
 obtain ⟨kv, hkv, hkin⟩ := h.kinds
 obtain ⟨ka, kc, rfl⟩ := hkin.form
 have c0 := h.c0
 have c5 := h.c5
 have hkl := h.klt
 have hrl := hr.lt
 have HR := hide hr
 clear h hr hkin
 have hw1 : IntKind.i64.wrap (1000000000000 - t) = 1000000000000 - t := by rw [IntKind.wrap_i64]; omega
 have hw2 : IntKind.i64.wrap (an + 1) = an + 1 := by rw [IntKind.wrap_i64]; omega
 have hw3 : IntKind.i64.wrap (s.next - 1) = s.next - 1 := by rw [IntKind.wrap_i64]; omega
 have hw4 : IntKind.i64.wrap ((ks.length : Int) - 1) = (ks.length : Int) - 1 := by rw [IntKind.wrap_i64]; omega
 have hw5 : IntKind.i64.wrap (ents - 1) = ents - 1 := by rw [IntKind.wrap_i64]; omega
 rcases ea : readF 0 (1000000000000 - t) l flt with ⟨v1, l1, f1⟩
 rcases eb : readF (lessF v1 an) (s.next - 1) l1 f1 with ⟨v2, l2, f2⟩
 rcases ec : readF 0 ((ks.length : Int) - 1) l2 f2 with ⟨v3, l3, f3⟩
 rcases ed : readF 0 (ents - 1) l3 f3 with ⟨v4, l4, f4⟩
 have HE : Hid (evRF ents ks.length s.next t an l flt = (⟨t + v1, v2, v3, v4⟩, l4, f4)) := by show _ = _; simp [evRF, ea, eb, ec, ed]
 have hl1 := readF_le 0 (1000000000000 - t) (by omega) l flt
 rw [ea] at hl1
 simp only at hl1
 have HA := hide ea
 have HBb := hide eb
 have HCc := hide ec
 have HDd := hide ed
 clear ea eb ec ed
 have hw6 : IntKind.i64.wrap (t + v1) = t + v1 := by rw [IntKind.wrap_i64]; omega
 go_enter Tryz.func122, Tryz.ntmps122
 go_wp2_with fail
 obtain ⟨W0, hW0⟩ : ∃ W0, W0 = (w.alloc (.cells #[.int .i64 an, .int .i64 t, .int .i64 k0, .int .i64 e0] 171)).alloc (.cells #[.int .i64 0, .int .i64 0, .int .i64 0, .int .i64 0] 171) := ⟨_, rfl⟩
 have hb0 : Below w.heap.size w W0 := by rw [hW0]; exact ((Below.refl _ _).alloc (Nat.le_refl _) _).alloc (by simp) _
 have hz0 : W0.heap.size = w.heap.size + 2 := by rw [hW0]; simp
 have x0 : W0.cell? ⟨w.heap.size, 0, none⟩ = some (.int .i64 an) := by rw [hW0]; simp [go_sem]
 have x1 : W0.cell? ⟨w.heap.size, 1, none⟩ = some (.int .i64 t) := by rw [hW0]; simp [go_sem]
 have xr : Room W0 (w.heap.size + 1) 4 := by
  rw [hW0]
  intro j hj
  have : j = 0 ∨ j = 1 ∨ j = 2 ∨ j = 3 := by omega
  rcases this with rfl | rfl | rfl | rfl <;> simp [go_sem]
 rw [← hW0]
 clear hW0
 have n1 := below_at hb0 hkv hkl
 have n0 := below_at hb0 c0 hkl
 have n5 := below_at hb0 c5 hkl
 have HB0 := hide hb0
 have HR0 := hide (HR.out.only (Only.new (S := fun _ => False) hb0) (by simp) (by simp))
 clear hb0 hkv c0 c5
 refine (rNum_any rb g l flt 0 (1000000000000 - t) W0 HR0.out).mono ?_
 rintro e w1 ⟨rfl, ho1, hr1⟩
 rw [HA.out] at hr1 ⊢
 simp only at hr1 ⊢
 have y0 := ho1.at x0 (by omega)
 have y1 := ho1.at x1 (by omega)
 have yr := hide (xr.only ho1 (by omega))
 have m0 := ho1.at n0 (Ne.symm hne)
 have m1 := ho1.at n1 (Ne.symm hne)
 have m5 := ho1.at n5 (Ne.symm hne)
 have hz1 := ho1.size
 have HO1 := hide ((Only.new (S := (· = rb)) HB0.out).trans ho1)
 have HR1 := hide hr1
 clear x0 x1 xr n0 n1 n5 ho1 hr1
 obtain ⟨ls, hls⟩ : ∃ ls, ls = lessF v1 an := ⟨_, rfl⟩
 rw [← hls] at HBb
 have key : ∀ (Q : Prop), (v1 = 0 → ls = an + 1 → Q) → (v1 ≠ 0 → ls = 1 → Q) → Q := by
  intro Q q1 q2
  by_cases h : v1 = 0
  ·exact q1 h (by rw [hls]; simp [lessF, h])
  ·exact q2 h (by rw [hls]; simp [lessF, h])
 have Hls := hide hls
 clear hls
 have hkb1 : kb < w1.heap.size := by omega
 have A5 : ∀ o, (w1.alloc o).cell? ⟨kb, 5, none⟩ = some (.int .i64 s.next) := fun o => below_at ((Below.refl w1.heap.size w1).alloc (Nat.le_refl _) o) m5 hkb1
 apply key
 all_goals
  intro hv hl
  subst hl
  first
   | (have d1 : (v1 == 0) = true := by rw [beq_iff_eq]; exact hv)
   | (have d1 : (v1 == 0) = false := by rw [beq_eq_false_iff_ne]; exact hv)
  have Hv := hide hv
  clear key hv
  go_wp2_with fail
  obtain ⟨W1, hW1⟩ : ∃ W1, W1 = w1.alloc (.cells #[.int .i64 0, .int .i64 (t + v1), .int .i64 0, .int .i64 0] 171) := ⟨_, rfl⟩
  have hb1 : Below w1.heap.size w1 W1 := by rw [hW1]; exact (Below.refl _ _).alloc (Nat.le_refl _) _
  have hzW : W1.heap.size = w1.heap.size + 1 := by rw [hW1]; simp
  have er : Room W1 w1.heap.size 4 := by
   rw [hW1]
   intro j hj
   have : j = 0 ∨ j = 1 ∨ j = 2 ∨ j = 3 := by omega
   rcases this with rfl | rfl | rfl | rfl <;> simp [go_sem]
  have e1 : W1.cell? ⟨w1.heap.size, 1, none⟩ = some (.int .i64 (t + v1)) := by rw [hW1]; simp [go_sem]
  rw [← hW1]
  clear hW1 A5
  have p0 := below_at hb1 m0 hkb1
  have p1 := below_at hb1 m1 hkb1
  have HRW := hide (HR1.out.only (Only.new (S := fun _ => False) hb1) (by simp) (by simp))
  have HOW := hide (HO1.out.trans (Only.new hb1))
  have hrr := yr.out.below hb1 (by omega)
  clear m0 m1 m5 y0 y1 hb1
  refine (rNum_any rb g l1 f1 _ (s.next - 1) W1 HRW.out).mono ?_
  rintro e w2 ⟨rfl, ho2, hr2⟩
  rw [HBb.out] at hr2 ⊢
  simp only at hr2 ⊢
  have hz2 := ho2.size
  have er2 := er.only ho2 (by omega)
  have e2 := ho2.at e1 (by omega)
  have q0 := ho2.at p0 (Ne.symm hne)
  have q1 := ho2.at p1 (Ne.symm hne)
  have hrr2 := hrr.only ho2 (by omega)
  have z20 := (er2 0 (by omega)).2
  obtain ⟨u20, hu20⟩ := Option.isSome_iff_exists.1 (er2 0 (by omega)).1
  have A1 : ∀ v, (w2.setCell ⟨w1.heap.size, 0, none⟩ v).cell? ⟨kb, 1, none⟩ = some (.slice ka ks.length kc) := fun v => by rw [World.cell?_setCell_other _ _ _ _ (by simp <;> omega)]; exact q1
  have HR2 := hide hr2
  have HO2 := hide (HOW.out.trans ho2)
  have Her2 := hide er2
  have Hrr2 := hide hrr2
  clear ho2 hr2 er e1 p0 p1 hrr HRW HOW er2 hrr2
  go_wp2_with fail
  obtain ⟨W2, hW2⟩ : ∃ W2, W2 = w2.setCell ⟨w1.heap.size, 0, none⟩ (.int .i64 v2) := ⟨_, rfl⟩
  have hoW2 : Only (· = w1.heap.size) w2 W2 := by rw [hW2]; exact (Only.refl (· = w1.heap.size) w2).setCell (p := ⟨w1.heap.size, 0, none⟩) (show w1.heap.size = w1.heap.size from rfl) _
  have k20 : W2.cell? ⟨w1.heap.size, 0, none⟩ = some (.int .i64 v2) := by rw [hW2]; exact World.cell?_setCell_same' _ _ _ (Her2.out 0 (by omega)).1
  have k21 : W2.cell? ⟨w1.heap.size, 1, none⟩ = some (.int .i64 (t + v1)) := by rw [hW2, World.cell?_setCell_other _ _ _ _ (by simp)]; exact e2
  have erW : Room W2 w1.heap.size 4 := by rw [hW2]; exact Her2.out.setCell _ _
  have hzW2 := hoW2.size
  rw [← hW2]
  clear hW2 A1
  have hgl := HR.out.glt
  have HRW2 := hide (HR2.out.only hoW2 (by omega) (by omega))
  have r0 := hoW2.at q0 (by omega)
  have HOW2 : Hid (Only (· = rb) w W2) := HO2.out.chain hoW2 (fun i hi hc => by omega)
  have hrrW := Hrr2.out.only hoW2 (by omega)
  clear hoW2 q0 q1 e2 hu20 z20
  refine (rNum_any rb g l2 f2 0 _ W2 HRW2.out).mono ?_
  rintro e w3 ⟨rfl, ho3, hr3⟩
  rw [HCc.out] at hr3 ⊢
  simp only at hr3 ⊢
  have hz3 := ho3.size
  have er3 := erW.only ho3 (by omega)
  have e30 := ho3.at k20 (by omega)
  have e31 := ho3.at k21 (by omega)
  have s0 := ho3.at r0 (Ne.symm hne)
  have hrr3 := hrrW.only ho3 (by omega)
  have z32 := (er3 2 (by omega)).2
  obtain ⟨u32, hu32⟩ := Option.isSome_iff_exists.1 (er3 2 (by omega)).1
  have A0 : ∀ v, (w3.setCell ⟨w1.heap.size, 2, none⟩ v).cell? ⟨kb, 0, none⟩ = some (.int .i64 ents) := fun v => by rw [World.cell?_setCell_other _ _ _ _ (by simp <;> omega)]; exact s0
  have HR3 := hide hr3
  have HO3 := hide (HOW2.out.trans ho3)
  have Her3 := hide er3
  have Hrr3 := hide hrr3
  clear ho3 hr3 erW r0 hrrW er3 hrr3 k20 k21
  go_wp2_with fail
  obtain ⟨W3, hW3⟩ : ∃ W3, W3 = w3.setCell ⟨w1.heap.size, 2, none⟩ (.int .i64 v3) := ⟨_, rfl⟩
  have hoW3 : Only (· = w1.heap.size) w3 W3 := by rw [hW3]; exact (Only.refl (· = w1.heap.size) w3).setCell (p := ⟨w1.heap.size, 2, none⟩) (show w1.heap.size = w1.heap.size from rfl) _
  have k30 : W3.cell? ⟨w1.heap.size, 0, none⟩ = some (.int .i64 v2) := by rw [hW3, World.cell?_setCell_other _ _ _ _ (by simp)]; exact e30
  have k31 : W3.cell? ⟨w1.heap.size, 1, none⟩ = some (.int .i64 (t + v1)) := by rw [hW3, World.cell?_setCell_other _ _ _ _ (by simp)]; exact e31
  have k32 : W3.cell? ⟨w1.heap.size, 2, none⟩ = some (.int .i64 v3) := by rw [hW3]; exact World.cell?_setCell_same' _ _ _ (Her3.out 2 (by omega)).1
  have erW3 : Room W3 w1.heap.size 4 := by rw [hW3]; exact Her3.out.setCell _ _
  have hzW3 := hoW3.size
  rw [← hW3]
  clear hW3 A0
  have HRW3 := hide (HR3.out.only hoW3 (by omega) (by omega))
  have HOW3 : Hid (Only (· = rb) w W3) := HO3.out.chain hoW3 (fun i hi hc => by omega)
  have hrrW3 := Hrr3.out.only hoW3 (by omega)
  clear hoW3 s0 e30 e31 hu32 z32
  refine (rNum_any rb g l3 f3 0 _ W3 HRW3.out).mono ?_
  rintro e w4 ⟨rfl, ho4, hr4⟩
  rw [HDd.out] at hr4 ⊢
  simp only at hr4 ⊢
  have hz4 := ho4.size
  have er4 := erW3.only ho4 (by omega)
  have e40 := ho4.at k30 (by omega)
  have e41 := ho4.at k31 (by omega)
  have e42 := ho4.at k32 (by omega)
  have hrr4 := hrrW3.only ho4 (by omega)
  have z43 := (er4 3 (by omega)).2
  obtain ⟨u43, hu43⟩ := Option.isSome_iff_exists.1 (er4 3 (by omega)).1
  obtain ⟨s0, g0⟩ := hrr4 0 (by omega)
  obtain ⟨s1, g1⟩ := hrr4 1 (by omega)
  obtain ⟨s2, g2⟩ := hrr4 2 (by omega)
  obtain ⟨s3, g3⟩ := hrr4 3 (by omega)
  obtain ⟨t0, i0⟩ := Option.isSome_iff_exists.1 s0
  obtain ⟨t1, i1⟩ := Option.isSome_iff_exists.1 s1
  obtain ⟨t2, i2⟩ := Option.isSome_iff_exists.1 s2
  obtain ⟨t3, i3⟩ := Option.isSome_iff_exists.1 s3
  have HR4 := hide hr4
  have HO4 := hide (HOW3.out.trans ho4)
  have Her4 := hide er4
  have Hrr4 := hide hrr4
  have hw1w : ¬ w1.heap.size = w.heap.size + 1 := by omega
  clear ho4 hr4 erW3 hrrW3 er4 hrr4 k30 k31 k32 s0 s1 s2 s3
  go_wp2_with fail
  obtain ⟨W4, hW4⟩ : ∃ W4, W4 = w4.setCell ⟨w1.heap.size, 3, none⟩ (.int .i64 v4) := ⟨_, rfl⟩
  have hoW4 : Only (· = w1.heap.size) w4 W4 := by rw [hW4]; exact (Only.refl (· = w1.heap.size) w4).setCell (p := ⟨w1.heap.size, 3, none⟩) (show w1.heap.size = w1.heap.size from rfl) _
  rw [← hW4]
  clear hW4
  have hrr5 := Hrr4.out.only hoW4 (by omega)
  have hzW4 := hoW4.size
  obtain ⟨WZ, hWZ⟩ : ∃ WZ, WZ = set4 W4 (w.heap.size + 1) 0 ⟨v2, t + v1, v3, v4⟩ := ⟨_, rfl⟩
  obtain ⟨t0', t1', t2', t3'⟩ := set4_same W4 (w.heap.size + 1) 0 4 ⟨v2, t + v1, v3, v4⟩ hrr5 (by omega)
  have hoZ : Only (· = w.heap.size + 1) W4 WZ := by rw [hWZ]; exact (Only.refl (· = w.heap.size + 1) W4).set4 (b := w.heap.size + 1) (show w.heap.size + 1 = w.heap.size + 1 from rfl) 0 _
  have hWZ' := hWZ
  simp only [set4, Nat.zero_add] at hWZ'
  rw [← hWZ] at t0' t1' t2' t3'
  rw [← hWZ']
  simp only [Nat.zero_add] at t1' t2' t3'
  clear hWZ hWZ'
  refine bodyPost_ret (v := .agg #[.int .i64 v2, .int .i64 (t + v1), .int .i64 v3, .int .i64 v4]) ?_ rfl ?_
  ·rw [results_cell1 rfl]; simp [go_sem, t0', t1', t2', t3']
  rw [HE.out]
  refine ⟨rfl, (HO4.out.chain hoW4 (fun i hi hc => by omega)).chain hoZ (fun i hi hc => by omega), ?_⟩
  exact (HR4.out.only hoW4 (by omega) (by omega)).only hoZ (by omega) (by omega)
end Go.Proofs.YtndlmgocldckfaaGreat
