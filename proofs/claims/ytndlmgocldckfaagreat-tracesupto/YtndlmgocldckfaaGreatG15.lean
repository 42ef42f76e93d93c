import Derived.Test.YtndlmgocldckfaaGreatG13
import Derived.Test.YtndlmgocldckfaaGreatG07
import Derived.Test.YtndlmgocldckfaaGreatG14
import Derived.OwnWalk
import Derived.Test.YtndlmgocldckfaaGreatG11
import Derived.Test.YtndlmgocldckfaaGreatG09
import Derived.Deep.RegionHeld3
import Derived.Deep.CutRange
import Derived.Deep.DeepCutAuto
namespace Go.Proofs.YtndlmgocldckfaaGreat
open Go.RowKit
set_option linter.unusedVariables false
set_option linter.unusedSimpArgs false
set_option maxRecDepth 100000
set_option maxHeartbeats 4000000
theorem RdP.only {w w' : World} {rb g : Nat} {l : List Int} {flt : Bool} {U : Nat → Prop} (h : RdP w rb g l flt) (ho : Only U w w') (hr : ¬ U rb) (hg : ¬ U g) : RdP w' rb g l flt := by
 obtain ⟨off, cap, hc, hlc, hrow⟩ := h.cell
 exact ⟨⟨off, cap, ho.at hc hr, hlc, hrow.only ho hg⟩, ho.at h.flt hr, h.room.only ho hr, h.ne, h.bytes, h.len, Nat.lt_of_lt_of_le h.glt ho.size⟩
theorem RdP.lt {w : World} {rb g : Nat} {l : List Int} {flt : Bool} (h : RdP w rb g l flt) : rb < w.heap.size := lt_of_cell h.flt
theorem readF_le (low high : Int) (hl : 0 ≤ low) (l : List Int) (flt : Bool) : (readF low high l flt).1 = 0 ∨ (low ≤ (readF low high l flt).1 ∧ (readF low high l flt).1 ≤ high) := by
 unfold readF
 split
 ·simp
 ·rename_i h
  simp only [not_or] at h
  right; simp only; omega
def unsI (v : Int) : Int := if v % 2 = 1 then -((v + 1) / 2) else v / 2
def readS (most : Int) (l : List Int) (flt : Bool) : Int × List Int × Bool := (unsI (readF 0 (2 * most) l flt).1, (readF 0 (2 * most) l flt).2)
theorem rSgn_any (rb g : Nat) (l : List Int) (flt : Bool) (w : World) (h : RdP w rb g l flt) :
  Calls Tryz.prog 105 #[.pointer (some ⟨rb, 0, none⟩), .int .i64 1000000000] w fun e w' => e = .returned (.int .i64 (readS 1000000000 l flt).1) ∧ Only (· = rb) w w' ∧ RdP w' rb g (readS 1000000000 l flt).2.1 (readS 1000000000 l flt).2.2 := by
 have H := hide h
 have hle := readF_le 0 2000000000 (by omega) l flt
 have HS : Hid (readS 1000000000 l flt = (unsI (readF 0 2000000000 l flt).1, (readF 0 2000000000 l flt).2)) := by show _ = _; rfl
 clear h
 go_enter Tryz.func105, Tryz.ntmps105
 go_wp2_with fail
 refine (rNum_any rb g l flt 0 2000000000 w H.out).mono ?_
 rintro e w1 ⟨rfl, ho1, hr1⟩
 have HO1 := hide ho1
 have HR1 := hide hr1
 clear ho1 hr1
 generalize readF 0 2000000000 l flt = p at hle HS HR1 ⊢
 obtain ⟨v, l', f'⟩ := p
 simp only at hle HS HR1 ⊢
 have hv : 0 ≤ v ∧ v ≤ 2000000000 := by omega
 obtain ⟨hv0, hv1⟩ := hv
 have t1 : v.tmod 2 = v % 2 := Int.tmod_eq_emod_of_nonneg hv0
 have w1' : IntKind.i64.wrap (v % 2) = v % 2 := by rw [IntKind.wrap_i64]; omega
 by_cases hodd : v % 2 = 1
 ·have d1 : (v % 2 == 1) = true := by rw [beq_iff_eq]; exact hodd
  have w2 : IntKind.i64.wrap (v + 1) = v + 1 := by rw [IntKind.wrap_i64]; omega
  have w3 : IntKind.i64.wrap (-(v + 1)) = -(v + 1) := by rw [IntKind.wrap_i64]; omega
  have t2 : (-(v + 1)).tdiv 2 = -((v + 1) / 2) := by
   rw [Int.neg_tdiv, Int.tdiv_eq_ediv_of_nonneg (by omega)]
  have w4 : IntKind.i64.wrap (-((v + 1) / 2)) = -((v + 1) / 2) := by rw [IntKind.wrap_i64]; omega
  go_wp2_with fail
  go_ret
  rw [HS.out]
  refine ⟨?_, HO1.out, HR1.out⟩
  simp [unsI, hodd, w2, w3, t2, w4]
 ·have d1 : (v % 2 == 1) = false := by rw [beq_eq_false_iff_ne]; exact hodd
  have t2 : v.tdiv 2 = v / 2 := Int.tdiv_eq_ediv_of_nonneg hv0
  have w4 : IntKind.i64.wrap (v / 2) = v / 2 := by rw [IntKind.wrap_i64]; omega
  go_wp2_with fail
  go_ret
  rw [HS.out]
  refine ⟨?_, HO1.out, HR1.out⟩
  simp [unsI, hodd, t2, w4]
theorem rEnd_any (rb g : Nat) (l : List Int) (flt : Bool) (w : World) (h : RdP w rb g l flt) :
  Calls Tryz.prog 71 #[.pointer (some ⟨rb, 0, none⟩)] w fun e w' => e = .returned (.bool (!flt && l.isEmpty)) ∧ Below w.heap.size w w' := by
 obtain ⟨off, cap, hc, hlc, hrow⟩ := h.cell
 have hf := h.flt
 clear h hrow
 rcases flt with _ | _
 ·rcases l with _ | ⟨x, l⟩
  ·go_enter Tryz.func71, Tryz.ntmps71
   go_wp2
   go_ret
   exact ⟨rfl, Below.refl _ _⟩
  ·have d : (((l.length : Int) + 1) == 0) = false := by rw [beq_eq_false_iff_ne]; omega
   simp only [List.length_cons] at hc
   go_enter Tryz.func71, Tryz.ntmps71
   go_wp2
   go_ret
   exact ⟨by simp [d], Below.refl _ _⟩
 ·go_enter Tryz.func71, Tryz.ntmps71
  go_wp2
  go_ret
  exact ⟨rfl, Below.refl _ _⟩
theorem lenF_range : ∀ (f : Nat) (n p : Int) (l : List Int), (∀ c ∈ l, 0 ≤ c ∧ c < 256) → 0 ≤ n → n < p → 0 ≤ (lenF f n p l).1 ∧ (lenF f n p l).1 < p * 128 ^ f
 | 0, n, p, l, _, h0, h1 => by simp [lenF]; omega
 | f + 1, n, p, [], _, h0, h1 => by
  simp only [lenF]
  have : (0 : Int) < 128 ^ (f + 1) := Int.pow_pos (by omega)
  exact ⟨Int.le_refl _, Int.mul_pos (by omega) this⟩
 | f + 1, n, p, b :: l, hb, h0, h1 => by
  have hbb := hb b (List.mem_cons_self ..)
  have hm : 0 ≤ b % 128 * p ∧ b % 128 * p ≤ 127 * p := ⟨Int.mul_nonneg (by omega) (by omega), Int.mul_le_mul_of_nonneg_right (by omega) (by omega)⟩
  have hpow : (1 : Int) ≤ 128 ^ f := Int.pow_pos (by omega)
  rw [lenF]
  split
  ·refine ⟨by show 0 ≤ n + b % 128 * p; omega, ?_⟩
   show n + b % 128 * p < p * 128 ^ (f + 1)
   have h2 : p * 128 * 1 ≤ p * 128 * 128 ^ f := Int.mul_le_mul_of_nonneg_left hpow (by omega)
   have h3 : p * 128 ^ (f + 1) = p * 128 * 128 ^ f := by rw [Int.pow_succ, Int.mul_assoc, Int.mul_comm (128 ^ f) 128]
   omega
  ·have ih := lenF_range f (n + b % 128 * p) (p * 128) l (fun c hc => hb c (List.mem_cons_of_mem _ hc)) (by omega) (by omega)
   have h3 : p * 128 ^ (f + 1) = p * 128 * 128 ^ f := by rw [Int.pow_succ, Int.mul_assoc, Int.mul_comm (128 ^ f) 128]
   rw [h3]
   exact ih
theorem lenF_sub : ∀ (f : Nat) (n p : Int) (l : List Int), ∃ a, l = a ++ (lenF f n p l).2.1
 | 0, n, p, l => ⟨[], rfl⟩
 | f + 1, n, p, [] => ⟨[], rfl⟩
 | f + 1, n, p, b :: l => by
  rw [lenF]
  split
  ·exact ⟨[b], rfl⟩
  ·obtain ⟨a, ha⟩ := lenF_sub f (n + b % 128 * p) (p * 128) l
   exact ⟨b :: a, by rw [List.cons_append, ← ha]⟩
theorem numL_range (lo hi : Int) (l : List Int) (bad : Bool) (hb : ∀ c ∈ l, 0 ≤ c ∧ c < 256) : 0 ≤ (numL lo hi l bad).1 ∧ (numL lo hi l bad).1 < 562949953421312 := by
 have := lenF_range 7 0 1 l hb (by omega) (by omega)
 unfold numL
 split
 ·simpa using this
 ·simp
theorem numL_sub (lo hi : Int) (l : List Int) (bad : Bool) : ∃ a, l = a ++ (numL lo hi l bad).2.1 := by
 obtain ⟨a, ha⟩ := lenF_sub 7 0 1 l
 refine ⟨a, ?_⟩
 unfold numL
 split <;> exact ha
theorem numL_bytes {lo hi : Int} {l : List Int} {bad : Bool} (hb : ∀ c ∈ l, 0 ≤ c ∧ c < 256) : ∀ c ∈ (numL lo hi l bad).2.1, 0 ≤ c ∧ c < 256 := by
 obtain ⟨a, ha⟩ := numL_sub lo hi l bad
 intro c hc
 exact hb c (by rw [ha]; exact List.mem_append_right _ hc)
theorem numL_good {lo hi : Int} {l : List Int} {bad : Bool} (h : (numL lo hi l bad).2.2 = false) : bad = false ∧ lo ≤ (numL lo hi l bad).1 ∧ (numL lo hi l bad).1 ≤ hi := by
 unfold numL at h ⊢
 split at h
 ·rename_i hs
  simp only [Bool.or_eq_false_iff, Bool.not_eq_false'] at h
  rw [if_pos hs]
  have := h.2
  simp [inB] at this
  exact ⟨h.1, this⟩
 ·simp at h
def sgnL (l : List Int) (bad : Bool) : Int × List Int × Bool := (unsI (numL 0 2000000000 l bad).1, (numL 0 2000000000 l bad).2)
theorem RdS.bytes {w : World} {rb : Nat} {all l : List Int} {bad : Bool} (h : RdS w rb all l bad) (hv : ∀ c ∈ all, 0 ≤ c ∧ c < 256) : ∀ c ∈ l, 0 ≤ c ∧ c < 256 := by
 obtain ⟨i, _, hd, _⟩ := h.pos
 intro c hc
 rw [← hd] at hc
 exact hv c (List.mem_of_mem_drop hc)
theorem rdSgn_any (rb : Nat) (all l : List Int) (bad : Bool) (w : World) (h : RdS w rb all l bad) (hv : ∀ c ∈ all, 0 ≤ c ∧ c < 256) (hl : all.length ≤ 1000000000) :
  Calls Tryz.prog 68 #[.pointer (some ⟨rb, 0, none⟩)] w fun e w' => e = .returned (.int .i64 (sgnL l bad).1) ∧ Only (· = rb) w w' ∧ RdS w' rb all (sgnL l bad).2.1 (sgnL l bad).2.2 := by
 have hN := rdNum_any rb all l bad 0 2000000000 w h hv hl
 have hr := numL_range 0 2000000000 l bad (h.bytes hv)
 unfold sgnL
 generalize numL 0 2000000000 l bad = r at hN hr
 obtain ⟨v, l1, f1⟩ := r
 simp only at hN hr ⊢
 have HN := hide hN
 clear hN
 have e1 : Int.tmod v 2 = v % 2 := Int.tmod_eq_emod_of_nonneg hr.1
 by_cases ho : v % 2 = 0
 ·have d : (v % 2 == 0) = true := by simpa using ho
  have e2 : Int.tdiv v 2 = v / 2 := Int.tdiv_eq_ediv_of_nonneg hr.1
  have hu : unsI v = v / 2 := by rw [unsI, if_neg (by omega)]
  rw [hu]
  clear hu ho
  go_enter Tryz.func68, Tryz.ntmps68
  go_wp2_with (go_at_call 67; refine HN.out.mono ?_; rintro e w1 ⟨rfl, hO, hR⟩)
  go_ret
  exact ⟨rfl, hO, hR⟩
 ·have d : (v % 2 == 0) = false := by simpa using ho
  have hu : unsI v = -((v + 1) / 2) := by rw [unsI, if_pos (by omega)]
  have e2 : Int.tdiv (-(v + 1)) 2 = -((v + 1) / 2) := by rw [Int.neg_tdiv, Int.tdiv_eq_ediv_of_nonneg (by omega)]
  have e3 : wrap64 (v + 1) = v + 1 := by simp only [wrap64]; omega
  have e4 : wrap64 (-(v + 1)) = -(v + 1) := by simp only [wrap64]; omega
  rw [hu]
  clear hu ho
  go_enter Tryz.func68, Tryz.ntmps68
  go_wp2_with (go_at_call 67; refine HN.out.mono ?_; rintro e w1 ⟨rfl, hO, hR⟩)
  go_ret
  refine ⟨?_, hO, hR⟩
  first | rfl | (simp; done) | (rw [← e2]; simp)
theorem strW_eq {a b : List Int} (ha : ∀ c ∈ a, 0 ≤ c ∧ c < 256) (hb : ∀ c ∈ b, 0 ≤ c ∧ c < 256) : ((strW a).toList == (strW b).toList) = decide (a = b) := by
 by_cases h : a = b
 ·subst h; simp
 ·rw [strNe ha hb h]; simp [h]
theorem strW_cut (l : List Int) (a b : Nat) : (strW l).extract a b = strW ((l.take b).drop a) := by
 refine ByteArray.ext ?_
 simp [strW, ByteArray.data_extract, List.map_drop, List.map_take]
 rw [List.drop_take]
theorem framed_any (hd l : List Int) (w : World) (hv : ∀ c ∈ l, 0 ≤ c ∧ c < 256) (hl : l.length ≤ 1000000000) (hhl : hd.length = 4) (hhb : ∀ c ∈ hd, 0 ≤ c ∧ c < 256) :
  Calls Tryz.prog 66 #[.string (strW l), .string (strW hd)] w fun e w' => e = .returned (.int .i64 (openE hd l)) ∧ Below w.heap.size w w' := by
 have Hv := hide hv
 have Hhb := hide hhb
 have hz : (strW l).size = l.length := strW_size l
 have hz2 : (strW hd).size = 4 := by rw [strW_size, hhl]
 clear hv hhb hhl
 by_cases h8 : l.length < 8
 ·have HF : Hid (openE hd l = 4) := by show _ = _; rw [openE, if_pos (.inl h8)]
  have d1 : decide ((l.length : Int) < 8) = true := by simp; omega
  go_enter Tryz.func66, Tryz.ntmps66
  go_wp2
  go_ret
  rw [HF.out]
  exact ⟨rfl, Below.refl _ _⟩
 ·have d1 : decide ((l.length : Int) < 8) = false := by simp; omega
  have h8' : 8 ≤ l.length := by omega
  have x1 : (strW l).extract 0 4 = strW (l.take 4) := by rw [strW_cut]; rfl
  have x2 : (strW l).extract 0 (l.length - 4) = strW (l.take (l.length - 4)) := by rw [strW_cut]; rfl
  have x3 : (strW l).extract (l.length - 4) l.length = strW (l.drop (l.length - 4)) := by rw [strW_cut, List.take_length]
  have t1 : ∀ c ∈ l.take 4, 0 ≤ c ∧ c < 256 := fun c hc => Hv.out c (List.mem_of_mem_take hc)
  have t2 : ∀ c ∈ l.take (l.length - 4), 0 ≤ c ∧ c < 256 := fun c hc => Hv.out c (List.mem_of_mem_take hc)
  have t3 : ∀ c ∈ l.drop (l.length - 4), 0 ≤ c ∧ c < 256 := fun c hc => Hv.out c (List.mem_of_mem_drop hc)
  have q1 := strW_eq t1 Hhb.out
  have q2 := strW_eq (sumB_bytes (l.take (l.length - 4))) t3
  have e4 : ((l.length : Int) - 4).toNat = l.length - 4 := by omega
  have HS := hide (rSum_any (l.take (l.length - 4)) w (by simp; omega) t2)
  clear t1 t2 t3
  by_cases h4 : l.take 4 = hd
  ·have q1' : ((strW (l.take 4)).toList == (strW hd).toList) = true := by rw [q1]; simpa using h4
   have Hq1 := hide h4
   clear q1 h4
   by_cases h5 : sumB (l.take (l.length - 4)) = l.drop (l.length - 4)
   ·have q2' : ((strW (sumB (l.take (l.length - 4)))).toList == (strW (l.drop (l.length - 4))).toList) = true := by rw [q2]; simpa using h5
    have HF : Hid (openE hd l = 0) := by show _ = _; rw [openE, if_neg (by rintro (h | h); exact h8 h; exact h Hq1.out), if_neg (fun h => h h5.symm)]
    clear q2 h5
    go_enter Tryz.func66, Tryz.ntmps66
    go_wp2_with (go_at_call 81; refine HS.out.mono ?_; rintro e w1 ⟨rfl, hb1⟩)
    go_ret
    rw [HF.out]
    exact ⟨rfl, hb1⟩
   ·have q2' : ((strW (sumB (l.take (l.length - 4)))).toList == (strW (l.drop (l.length - 4))).toList) = false := by rw [q2]; simpa using h5
    have HF : Hid (openE hd l = 5) := by show _ = _; rw [openE, if_neg (by rintro (h | h); exact h8 h; exact h Hq1.out), if_pos (fun h => h5 h.symm)]
    clear q2 h5
    go_enter Tryz.func66, Tryz.ntmps66
    go_wp2_with (go_at_call 81; refine HS.out.mono ?_; rintro e w1 ⟨rfl, hb1⟩)
    go_ret
    rw [HF.out]
    exact ⟨rfl, hb1⟩
  ·have q1' : ((strW (l.take 4)).toList == (strW hd).toList) = false := by rw [q1]; simpa using h4
   have HF : Hid (openE hd l = 4) := by show _ = _; rw [openE, if_pos (.inr h4)]
   clear q1 h4
   go_enter Tryz.func66, Tryz.ntmps66
   go_wp2
   go_ret
   rw [HF.out]
   exact ⟨rfl, Below.refl _ _⟩
theorem OrdV.base {base base' : Nat} {w : World} {v : Value} {n : Nat} {f : Nat → Mom} (h : OrdV base w v n f) (hb : base' ≤ base) : OrdV base' w v n f := by
 rcases h with h | ⟨b, cap, rfl, h0, r⟩
 ·exact .inl h
 ·exact .inr ⟨b, cap, rfl, by omega, r⟩
structure SvR (w wr : World) (wb : Nat) (lv : Value) (l : List Int) : Prop where
 below : Below w.heap.size w wr
 wr : WrP w.heap.size wr wb lv l
 wlt : w.heap.size ≤ wb
theorem SvR.num {w wr w2 : World} {wb : Nat} {lv lv2 : Value} {l l2 : List Int} (h : SvR w wr wb lv l) (k : NumR w.heap.size wr w2 wb lv lv2 l2) : SvR w w2 wb lv2 l2 := by
 refine ⟨h.below.trans (k.only.below h.below.size ?_), k.wr, h.wlt⟩
 rintro b hb (hc | hc)
 ·have := h.wlt; omega
 ·have := (h.wr.row.lt b hc).1; omega
theorem SvR.bel {w wr w2 : World} {wb : Nat} {lv : Value} {l : List Int} (h : SvR w wr wb lv l) (k : Below wr.heap.size wr w2) : SvR w w2 wb lv l := by
 have hz := h.below.size
 refine ⟨h.below.trans (k.mono hz), ⟨below_at k h.wr.cell (lt_of_cell h.wr.cell), h.wr.room.below k (lt_of_cell h.wr.cell), h.wr.row.keep (Only.new (S := fun _ => False) k) (by simp), h.wr.sep⟩, h.wlt⟩
def Apart (wr : World) (wb : Nat) (lv : Value) (g : Nat) : Prop := g < wr.heap.size ∧ g ≠ wb ∧ some g ≠ lv.ownBlock
def Stay (wr : World) (wb : Nat) (lv : Value) (w' : World) (lv' : Value) : Prop := ∀ g, Apart wr wb lv g → Apart w' wb lv' g ∧ w'.heap[g]? = wr.heap[g]?
theorem Stay.refl (wr : World) (wb : Nat) (lv : Value) : Stay wr wb lv wr lv := fun g h => ⟨h, rfl⟩
theorem Stay.trans {a b c : World} {wb : Nat} {lv lv1 lv2 : Value} (h : Stay a wb lv b lv1) (k : Stay b wb lv1 c lv2) : Stay a wb lv c lv2 :=
 fun g hg => let ⟨h1, h2⟩ := h g hg; let ⟨k1, k2⟩ := k g h1; ⟨k1, k2.trans h2⟩
theorem Stay.at {a b : World} {wb : Nat} {lv lv1 : Value} (h : Stay a wb lv b lv1) {g o : Nat} {v : Value} (hg : Apart a wb lv g) (hc : a.cell? ⟨g, o, none⟩ = some v) : b.cell? ⟨g, o, none⟩ = some v :=
 (World.cell?_of_block (w := a) (a := ⟨g, o, none⟩) (h g hg).2).trans hc
theorem Stay.bel {a b c : World} {wb : Nat} {lv lv1 : Value} (h : Stay a wb lv b lv1) (k : Below b.heap.size b c) : Stay a wb lv c lv1 := by
 intro g hg
 obtain ⟨⟨h1, h2, h3⟩, h4⟩ := h g hg
 have := k.size
 exact ⟨⟨by omega, h2, h3⟩, (k.block g h1).trans h4⟩
theorem NumR.stay {base : Nat} {wr w' : World} {wb : Nat} {lv lv' : Value} {l : List Int} (h : NumR base wr w' wb lv lv' l) : Stay wr wb lv w' lv' := by
 rintro g ⟨h1, h2, h3⟩
 have hz := h.only.size
 refine ⟨⟨by omega, h2, ?_⟩, h.only.block g h1 (by rintro (hc | hc); exact h2 hc; exact h3 hc)⟩
 rcases h.moved with e | ⟨g', e, hg'⟩
 ·rw [e]; exact h3
 ·rw [e]; intro hc; simp at hc; omega
section
variable {w wr : World} {wb : Nat} {lv : Value} {l : List Int}
theorem sNum (n : Int) (h : SvR w wr wb lv l) (hl : l.length ≤ 1000000) (hn : 0 ≤ n ∧ n ≤ 9223372036854775807) :
  Calls Tryz.prog 110 #[.pointer (some ⟨wb, 0, none⟩), .int .i64 n] wr fun e w' => e = .returned (.tuple #[]) ∧ ∃ lv', SvR w w' wb lv' (l ++ numB n) ∧ Stay wr wb lv w' lv' :=
 (number_any _ wb lv l n wr h.wr h.below.size hl hn).mono (by rintro e w' ⟨rfl, lv', hN⟩; exact ⟨rfl, lv', h.num hN, hN.stay⟩)
theorem sSgn (n : Int) (h : SvR w wr wb lv l) (hl : l.length ≤ 1000000) (hn : -1000000000 ≤ n ∧ n ≤ 1000000000) :
  Calls Tryz.prog 111 #[.pointer (some ⟨wb, 0, none⟩), .int .i64 n] wr fun e w' => e = .returned (.tuple #[]) ∧ ∃ lv', SvR w w' wb lv' (l ++ sgnB n) ∧ Stay wr wb lv w' lv' :=
 (signed_any _ wb lv l n wr h.wr h.below.size hl hn).mono (by rintro e w' ⟨rfl, lv', hN⟩; exact ⟨rfl, lv', h.num hN, hN.stay⟩)
end
theorem numB_bytes {n : Int} (h : 0 ≤ n ∧ n ≤ 9223372036854775807) : ∀ b ∈ numB n, 0 ≤ b ∧ b < 256 := numF_bytes 9 n h.1 (by simp; omega)
theorem sgnB_bytes {n : Int} (h : -1000000000 ≤ n ∧ n ≤ 1000000000) : ∀ b ∈ sgnB n, 0 ≤ b ∧ b < 256 := by
 unfold sgnB
 refine numB_bytes ?_
 unfold sgnI
 split <;> omega
theorem below_held {W0 W' w1 : World} {P : Prop} (h2 : Below W'.heap.size W' w1) (h1 : Below W0.heap.size W0 W' ∧ P) : Below W0.heap.size W0 w1 := h1.1.trans (h2.mono h1.1.size)
theorem below_held' {W0 W' : World} {P : Prop} (h1 : Below W0.heap.size W0 W' ∧ P) : Below W0.heap.size W0 W'.drew := h1.1.drew
theorem held_below {W0 W' : World} {P : Prop} (h : Below W0.heap.size W0 W' ∧ P) : Below W0.heap.size W0 W' := h.1
theorem strAdd (a b : List Int) (w : World) (h : a.length + b.length ≤ 1000000000) : (Op.stringOp .add (strW a) (strW b)).run Tryz.prog w = .ok (.string (strW (a ++ b))) w := by
 have := run_string_add_sum (P := Tryz.prog) w (strW a) (strW b) (by rw [strW_size, strW_size]; omega)
 rw [strW_app] at this
 exact this
end Go.Proofs.YtndlmgocldckfaaGreat
