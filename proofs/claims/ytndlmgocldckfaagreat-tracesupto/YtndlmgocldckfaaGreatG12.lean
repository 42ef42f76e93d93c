import Derived.Test.YtndlmgocldckfaaGreatG02
import Derived.Test.YtndlmgocldckfaaGreatG07
import Derived.Test.YtndlmgocldckfaaGreatG11
import Derived.Test.YtndlmgocldckfaaGreatG10
import Derived.Test.YtndlmgocldckfaaGreatG08
import Derived.Deep.RegionHeld3
namespace Go.Proofs.YtndlmgocldckfaaGreat
open Go.RowKit
set_option linter.unusedVariables false
set_option linter.unusedSimpArgs false
set_option maxRecDepth 100000
set_option maxHeartbeats 4000000
theorem valsF_take {l : List Int} {i : Nat} (h : i < l.length) : valsF (l.take (i + 1)) = (valsF (l.take i) && inB l[i] (-1000000000) 1000000000) := by
 unfold valsF
 rw [List.take_succ_eq_append_getElem h, List.all_append]
 simp
theorem valsF_false {l : List Int} {i : Nat} (h : valsF (l.take i) = false) : valsF l = false := by
 unfold valsF at *
 rw [List.all_eq_false] at *
 obtain ⟨x, hx, hp⟩ := h
 exact ⟨x, List.mem_of_mem_take hx, hp⟩
theorem areVals_any (sa : Option Addr) (cap : Nat) (l : List Int) (w : World) (h : ToldIn w sa l) (hl : l.length ≤ 16) :
  Calls Tryz.prog 124 #[.slice sa l.length cap] w fun e w' => e = .returned (.bool (valsF l)) ∧ Below w.heap.size w w' := by
 have H := hide h
 clear h
 go_enter Tryz.func124, Tryz.ntmps124
 go_wp2_with fail
 go_loopg [7] 20 (fun g s7 wr => ∃ (i : Nat), s7 = .int .i64 i ∧ l.length - i + 2 ≤ g ∧ i ≤ l.length ∧ Hid (wr = w ∧ valsF (l.take i) = true))
 case atStart => exact ⟨0, rfl, by omega, by omega, rfl, by simp [valsF]⟩
 case round =>
  obtain ⟨i, rfl, hg, hi, hI⟩ := hrel
  obtain rfl := hI.out.1
  by_cases hlt : i < l.length
  ·have d1 : decide ((i : Int) < (l.length : Int)) = true := by simp; omega
   have hii : (i : Int) < (l.length : Int) := by omega
   have hw : IntKind.i64.wrap ((i : Int) + 1) = (i : Int) + 1 := by rw [IntKind.wrap_i64]; omega
   obtain ⟨g', o', rfl, hc⟩ := H.out i l[i] (List.getElem?_eq_getElem hlt)
   have HV := hide (valsF_take hlt)
   generalize l[i] = x at hc HV
   rcases hx : inB x (-1000000000) 1000000000 with _ | _
   ·go_wp2_with (go_at_call 131; refine (isValue_any _ _).mono ?_; rintro e w' ⟨rfl, rfl⟩)
    go_ret
    refine ⟨?_, Below.refl _ _⟩
    rw [valsF_false (i := i + 1) (by rw [HV.out, hx]; simp)]
    rfl
   ·go_wp2_with (go_at_call 131; refine (isValue_any _ _).mono ?_; rintro e w' ⟨rfl, rfl⟩)
    go_roundg (l.length - (i + 1) + 2)
    case measure => omega
    case rel => exact ⟨i + 1, by go_num, Nat.le_refl _, by omega, rfl, by rw [HV.out, hx, hI.out.2]; rfl⟩
  ·have d1 : decide ((i : Int) < (l.length : Int)) = false := by simp; omega
   have hq : l.take i = l := List.take_of_length_le (by omega)
   have hv := hI.out.2
   rw [hq] at hv
   go_wp2_with fail
   go_ret
   exact ⟨rfl, Below.refl _ _⟩
theorem isRec_any (r : Rec) (sa : Option Addr) (sc : Nat) (ahead : Int) (w : World) (h : ToldIn w sa r.told) :
  Calls Tryz.prog 109 #[.agg #[.int .i64 r.e.number, .int .i64 r.e.time, .int .i64 r.e.kind, .int .i64 r.e.entity, .slice sa r.told.length sc], .int .i64 ahead] w fun e w' => e = .returned (.bool (recOkF ahead r)) ∧ Below w.heap.size w w' := by
 have H := hide h
 have HF : Hid (recOkF ahead r = (inB r.e.number 0 1000000000 && (inB r.e.time ahead 1000000000000 && (inB r.e.kind 0 7 && (inB r.e.entity 0 7 && (decide (r.told.length ≤ 16) && valsF r.told)))))) := by show _ = _; rfl
 have hA : Below w.heap.size w (w.alloc (.cells #[.int .i64 r.e.number, .int .i64 r.e.time, .int .i64 r.e.kind, .int .i64 r.e.entity, .slice sa r.told.length sc] 46)) := (Below.refl _ _).alloc (Nat.le_refl _) _
 have HA := hide hA
 clear h hA
 rcases b1 : inB r.e.number 0 1000000000 with _ | _
 case false =>
  have hf : recOkF ahead r = false := by rw [HF.out, b1]; rfl
  rw [hf]
  go_enter Tryz.func109, Tryz.ntmps109
  go_wp2_with (go_at_call 97; refine (within_any _ _ _ _).mono ?_; rintro e w' ⟨rfl, rfl⟩)
  go_ret
  exact ⟨rfl, HA.out⟩
 rcases b2 : inB r.e.time ahead 1000000000000 with _ | _
 case false =>
  have hf : recOkF ahead r = false := by rw [HF.out, b1, b2]; rfl
  rw [hf]
  go_enter Tryz.func109, Tryz.ntmps109
  go_wp2_with (go_at_call 97; refine (within_any _ _ _ _).mono ?_; rintro e w' ⟨rfl, rfl⟩)
  go_ret
  exact ⟨rfl, HA.out⟩
 rcases b3 : inB r.e.kind 0 7 with _ | _
 case false =>
  have hf : recOkF ahead r = false := by rw [HF.out, b1, b2, b3]; rfl
  rw [hf]
  go_enter Tryz.func109, Tryz.ntmps109
  go_wp2_with (go_at_call 97; refine (within_any _ _ _ _).mono ?_; rintro e w' ⟨rfl, rfl⟩)
  go_ret
  exact ⟨rfl, HA.out⟩
 rcases b4 : inB r.e.entity 0 7 with _ | _
 case false =>
  have hf : recOkF ahead r = false := by rw [HF.out, b1, b2, b3, b4]; rfl
  rw [hf]
  go_enter Tryz.func109, Tryz.ntmps109
  go_wp2_with (go_at_call 97; refine (within_any _ _ _ _).mono ?_; rintro e w' ⟨rfl, rfl⟩)
  go_ret
  exact ⟨rfl, HA.out⟩
 by_cases h5 : r.told.length ≤ 16
 ·have d5 : decide ((r.told.length : Int) ≤ 16) = true := by simp; omega
  have hf : recOkF ahead r = valsF r.told := by rw [HF.out, b1, b2, b3, b4]; simp [h5]
  rw [hf]
  have HV := hide (areVals_any sa sc r.told _ (H.out.below HA.out) h5)
  go_enter Tryz.func109, Tryz.ntmps109
  go_wp2_with (first | (go_at_call 97; refine (within_any _ _ _ _).mono ?_; rintro e w' ⟨rfl, rfl⟩) | (go_at_call 124; refine HV.out.mono ?_; rintro e w' ⟨rfl, hb'⟩))
  go_ret
  exact ⟨rfl, HA.out.trans (hb'.mono HA.out.size)⟩
 ·have d5 : decide ((r.told.length : Int) ≤ 16) = false := by simp; omega
  have hf : recOkF ahead r = false := by rw [HF.out, b1, b2, b3, b4]; simp [h5]
  rw [hf]
  go_enter Tryz.func109, Tryz.ntmps109
  go_wp2_with (go_at_call 97; refine (within_any _ _ _ _).mono ?_; rintro e w' ⟨rfl, rfl⟩)
  go_ret
  exact ⟨rfl, HA.out⟩
theorem recsOkF_take : ∀ (rs : List Rec) (ahead : Int) (i : Nat), recsOkF ahead (rs.take i) = false → recsOkF ahead rs = false
 | [], _, _, h => by simp [recsOkF] at h
 | r :: rs, ahead, 0, h => by simp [recsOkF] at h
 | r :: rs, ahead, i + 1, h => by
  simp only [List.take_succ_cons, recsOkF, Bool.and_eq_false_iff] at h ⊢
  rcases h with h | h
  ·exact .inl h
  ·exact .inr (recsOkF_take rs _ i h)
def recT : Int → List Rec → Int
 | t, [] => t
 | _, r :: rs => recT r.e.time rs
theorem recT_snoc : ∀ (rs : List Rec) (t : Int) (r : Rec), recT t (rs ++ [r]) = r.e.time
 | [], _, _ => rfl
 | x :: rs, t, r => recT_snoc rs x.e.time r
theorem recsOkF_snoc : ∀ (rs : List Rec) (t : Int) (r : Rec), recsOkF t (rs ++ [r]) = (recsOkF t rs && recOkF (recT t rs) r)
 | [], t, r => by simp [recsOkF, recT]
 | x :: rs, t, r => by simp [recsOkF, recT, recsOkF_snoc rs x.e.time r, Bool.and_assoc]
theorem areRecs_any (a : Option Addr) (cap : Nat) (rs : List Rec) (w : World) (h : RecIn w a rs) (hl : rs.length ≤ 1000000000000000) :
  Calls Tryz.prog 74 #[.slice a rs.length cap] w fun e w' => e = .returned (.bool (areF rs)) ∧ Below w.heap.size w w' := by
 have H := hide h
 clear h
 by_cases h1000 : rs.length ≤ 1000
 rotate_left
 ·have d1 : decide (1000 < (rs.length : Int)) = true := by simp; omega
  have hf : areF rs = false := by simp [areF, h1000]
  rw [hf]
  go_enter Tryz.func74, Tryz.ntmps74
  go_wp2_with fail
  go_ret
  exact ⟨rfl, Below.refl _ _⟩
 have d1 : decide (1000 < (rs.length : Int)) = false := by simp; omega
 have hf : areF rs = recsOkF 0 rs := by simp [areF, h1000]
 rw [hf]
 go_enter Tryz.func74, Tryz.ntmps74
 go_wp2_with fail
 go_loopg [3, 11] (rs.length + 3) (fun g s3 s11 wr => ∃ (i : Nat), s11 = .int .i64 i ∧ s3 = .int .i64 (recT 0 (rs.take i)) ∧ rs.length - i + 2 ≤ g ∧ i ≤ rs.length ∧ Hid (Below w.heap.size w wr ∧ recsOkF 0 (rs.take i) = true))
 case atStart => exact ⟨0, rfl, rfl, by omega, by omega, Below.refl _ _, by simp [recsOkF]⟩
 case round =>
  obtain ⟨i, rfl, rfl, hg, hi, hI⟩ := hrel
  by_cases hlt : i < rs.length
  ·have d2 : decide ((i : Int) < (rs.length : Int)) = true := by simp; omega
   have hii : (i : Int) < (rs.length : Int) := by omega
   have hw : IntKind.i64.wrap ((i : Int) + 1) = (i : Int) + 1 := by rw [IntKind.wrap_i64]; omega
   obtain ⟨b, off, sa, sc, rfl, c0, c1, c2, c3, c4, ct⟩ := (H.out.below hI.out.1) i rs[i] (List.getElem?_eq_getElem hlt)
   have HT : Hid (recsOkF 0 (rs.take (i + 1)) = recOkF (recT 0 (rs.take i)) rs[i]) := by
    show _ = _
    rw [List.take_succ_eq_append_getElem hlt, recsOkF_snoc, hI.out.2, Bool.true_and]
   have HL : Hid (recT 0 (rs.take (i + 1)) = rs[i].e.time) := by
    show _ = _
    rw [List.take_succ_eq_append_getElem hlt, recT_snoc]
   have Hct := hide ct
   generalize rs[i] = r at c0 c1 c2 c3 c4 Hct HT HL
   obtain ⟨⟨rt, rn, rk, re⟩, told⟩ := r
   simp only at c0 c1 c2 c3 c4 Hct HL
   generalize recT 0 (rs.take i) = t at HT ⊢
   clear ct
   obtain ⟨W1, hW1⟩ : ∃ W1, W1 = wr.alloc (.cells #[.int .i64 rn, .int .i64 rt, .int .i64 rk, .int .i64 re, .slice sa told.length sc] 46) := ⟨_, rfl⟩
   have hb1 : Below wr.heap.size wr W1 := by rw [hW1]; exact (Below.refl _ _).alloc (Nat.le_refl _) _
   have hz1 : W1.heap.size = wr.heap.size + 1 := by rw [hW1]; simp
   have x1 : W1.cell? ⟨wr.heap.size, 1, none⟩ = some (.int .i64 rt) := by rw [hW1]; simp [go_sem]
   have HR := hide (isRec_any ⟨⟨rt, rn, rk, re⟩, told⟩ sa sc t W1 (Hct.out.below hb1))
   have hb0 := hI.out.1.trans (hb1.mono hI.out.1.size)
   have HB0 := hide hb0
   clear hb1 hb0
   go_wp2_with fail
   rw [← hW1]
   refine HR.out.mono ?_
   rintro e w2 ⟨rfl, hb2⟩
   have y1 := below_at hb2 x1 (by omega)
   have HB2 : Hid (Below w.heap.size w w2) := HB0.out.trans (hb2.mono HB0.out.size)
   clear hb2 hW1 x1 c0 c1 c2 c3 c4 HR
   generalize hok : recOkF t ⟨⟨rt, rn, rk, re⟩, told⟩ = ok at HT
   rcases ok with _ | _
   ·go_wp2_with fail
    go_ret
    exact ⟨by rw [recsOkF_take rs 0 (i + 1) HT.out]; rfl, HB2.out⟩
   ·go_wp2_with fail
    go_roundg (rs.length - (i + 1) + 2)
    case measure => omega
    case rel => exact ⟨i + 1, by go_num, by rw [HL.out], Nat.le_refl _, by omega, HB2.out, HT.out⟩
  ·have d2 : decide ((i : Int) < (rs.length : Int)) = false := by simp; omega
   have hq : rs.take i = rs := List.take_of_length_le (by omega)
   have hv := hI.out.2
   rw [hq] at hv
   go_wp2_with fail
   go_ret
   exact ⟨by first | rfl | rw [hv]; rfl, hI.out.1⟩
theorem rright_any (r : Rec) (sa : Option Addr) (sc : Nat) (t : Int) (w : World) (h : ToldIn w sa r.told) :
  Calls Tryz.prog 79 #[.agg #[.int .i64 r.e.number, .int .i64 r.e.time, .int .i64 r.e.kind, .int .i64 r.e.entity, .slice sa r.told.length sc], .int .i64 t] w fun e w' => e = .returned (.bool (recOkF t r)) ∧ Below w.heap.size w w' := by
 obtain ⟨⟨r1, r2, r3, r4⟩, l⟩ := r
 simp only at h ⊢
 have HF : Hid (recOkF t ⟨⟨r1, r2, r3, r4⟩, l⟩ = (inB r2 0 1000000000 && (inB r1 t 1000000000000 && (inB r3 0 7 && (inB r4 0 7 && (decide (l.length ≤ 16) && valsF l)))))) := by show _ = _; rfl
 obtain ⟨W, hW⟩ : ∃ W, W = w.alloc (.cells #[.int .i64 r2, .int .i64 r1, .int .i64 r3, .int .i64 r4, .slice sa l.length sc] 46) := ⟨_, rfl⟩
 have hA : Below w.heap.size w W := by rw [hW]; exact (Below.refl _ _).alloc (Nat.le_refl _) _
 have c4 : W.cell? ⟨w.heap.size, 4, none⟩ = some (.slice sa l.length sc) := by rw [hW]; simp [go_sem]
 have c0 : W.cell? ⟨w.heap.size, 0, none⟩ = some (.int .i64 r2) := by rw [hW]; simp [go_sem]
 have c1 : W.cell? ⟨w.heap.size, 1, none⟩ = some (.int .i64 r1) := by rw [hW]; simp [go_sem]
 have c2 : W.cell? ⟨w.heap.size, 2, none⟩ = some (.int .i64 r3) := by rw [hW]; simp [go_sem]
 have c3 : W.cell? ⟨w.heap.size, 3, none⟩ = some (.int .i64 r4) := by rw [hW]; simp [go_sem]
 have HA := hide hA
 have H := hide (h.below hA)
 have HW := hide hW
 clear h hA hW
 by_cases hyes : (inB r2 0 1000000000 && (inB r1 t 1000000000000 && (inB r3 0 7 && (inB r4 0 7 && decide (l.length ≤ 16))))) = true
 ·simp only [Bool.and_eq_true, decide_eq_true_eq] at hyes
  obtain ⟨b1, b2, b3, b4, h5⟩ := hyes
  have hf : recOkF t ⟨⟨r1, r2, r3, r4⟩, l⟩ = valsF l := by rw [HF.out, b1, b2, b3, b4]; simp [h5]
  rw [hf]
  have d5 : decide ((16 : Int) < (l.length : Int)) = false := by simp; omega
  have d5' : decide (16 < l.length) = false := by simp; omega
  go_enter Tryz.func79, Tryz.ntmps79
  go_wp2_with fail
  rw [← HW.out]
  go_wp2_with (go_at_call 57; refine (in_any _ _ _ _).mono ?_; rintro e w' ⟨rfl, hw'⟩; rw [hw']; clear hw' w')
  go_loopg [9, 10] 20 (fun g s9 s10 wr => ∃ (i : Nat), s9 = .int .i64 i ∧ l.length - i + 2 ≤ g ∧ i ≤ l.length ∧ Hid (wr = W ∧ valsF (l.take i) = true))
  case atStart => exact ⟨0, rfl, by omega, by omega, rfl, by simp [valsF]⟩
  case round =>
   obtain ⟨i, rfl, hg, hi, hI⟩ := hrel
   obtain hwr := hI.out.1
   subst hwr
   by_cases hlt : i < l.length
   ·have d1 : decide ((i : Int) < (l.length : Int)) = true := by simp; omega
    have hii : (i : Int) < (l.length : Int) := by omega
    have hw : IntKind.i64.wrap ((i : Int) + 1) = (i : Int) + 1 := by rw [IntKind.wrap_i64]; omega
    obtain ⟨g', o', rfl, hc⟩ := H.out i l[i] (List.getElem?_eq_getElem hlt)
    have HV := hide (valsF_take hlt)
    generalize l[i] = x at hc HV
    rcases hx : inB x (-1000000000) 1000000000 with _ | _
    ·go_wp2_with (go_at_call 99; refine (value_any _ _).mono ?_; rintro e w' ⟨rfl, rfl⟩)
     go_ret
     refine ⟨?_, HA.out⟩
     rw [valsF_false (i := i + 1) (by rw [HV.out, hx]; simp)]
     first | done | rfl
    ·go_wp2_with (go_at_call 99; refine (value_any _ _).mono ?_; rintro e w' ⟨rfl, rfl⟩)
     go_roundg (l.length - (i + 1) + 2)
     case measure => omega
     case rel => exact ⟨i + 1, by go_num, Nat.le_refl _, by omega, rfl, by rw [HV.out, hx, hI.out.2]; rfl⟩
   ·have d1 : decide ((i : Int) < (l.length : Int)) = false := by simp; omega
    have hq : l.take i = l := List.take_of_length_le (by omega)
    have hv := hI.out.2
    rw [hq] at hv
    go_wp2_with fail
    go_ret
    exact ⟨by first | rfl | rw [hv] | simp [hv], HA.out⟩
 ·have hf : recOkF t ⟨⟨r1, r2, r3, r4⟩, l⟩ = false := by
   rw [HF.out, ← Bool.not_eq_true]
   intro hc
   simp only [Bool.and_eq_true] at hc hyes
   exact hyes ⟨hc.1, hc.2.1, hc.2.2.1, hc.2.2.2.1, hc.2.2.2.2.1⟩
  rw [hf]
  have hno : inB r2 0 1000000000 = false ∨ (inB r2 0 1000000000 = true ∧ (inB r1 t 1000000000000 = false ∨ (inB r1 t 1000000000000 = true ∧ (inB r3 0 7 = false ∨ (inB r3 0 7 = true ∧ (inB r4 0 7 = false ∨ (inB r4 0 7 = true ∧ ¬ l.length ≤ 16))))))) := by
   revert hyes
   rcases inB r2 0 1000000000 <;> rcases inB r1 t 1000000000000 <;> rcases inB r3 0 7 <;> rcases inB r4 0 7 <;> simp
  have hd : decide ((16 : Int) < (l.length : Int)) = decide (¬ l.length ≤ 16) := by simp; omega
  clear hyes HF
  rcases hno with b1 | ⟨b1, b2 | ⟨b2, b3 | ⟨b3, b4 | ⟨b4, h5⟩⟩⟩⟩
  all_goals
   try (have d5 : decide ((16 : Int) < (l.length : Int)) = true := by (simp; omega))
   try (have d6 : decide (16 < l.length) = true := by (simp; omega))
   clear hd
   go_enter Tryz.func79, Tryz.ntmps79
   go_wp2_with fail
   rw [← HW.out]
   go_wp2_with (go_at_call 57; refine (in_any _ _ _ _).mono ?_; rintro e w' ⟨rfl, hw'⟩; rw [hw']; clear hw' w')
   go_ret
   exact ⟨rfl, HA.out⟩
theorem rcompare_any (a b : Option Addr) (ca cb : Nat) (ra rb : List Rec) (w : World) (h1 : RecIn w a ra) (h2 : RecIn w b rb) (hl : ra.length ≤ 1000000000000000) (hm : rb.length ≤ 1000000000000000) (ht : ∀ r ∈ ra, r.told.length ≤ 1000000000000000) :
  Calls Tryz.prog 43 #[.slice a ra.length ca, .slice b rb.length cb] w fun e w' => e = .returned (.int .i64 (cmpF 0 ra rb)) ∧ Below w.heap.size w w' := by
 have H1 := hide h1
 have H2 := hide h2
 have Ht := hide ht
 obtain ⟨n, hn⟩ : ∃ n, n = min ra.length rb.length := ⟨_, rfl⟩
 have hmin : min (ra.length : Int) (rb.length : Int) = (n : Int) := by omega
 have Hn := hide hn
 have hna : n ≤ ra.length := by omega
 have hnb : n ≤ rb.length := by omega
 clear h1 h2 ht hn
 have key : (ra.length ≤ rb.length ∧ n = ra.length) ∨ (rb.length < ra.length ∧ n = rb.length) := by have := Hn.out; omega
 clear hmin
 rcases key with ⟨hc, hnn⟩ | ⟨hc, hnn⟩
 all_goals
  have hci : (ra.length : Int) ≤ (rb.length : Int) ∨ (rb.length : Int) < (ra.length : Int) := by omega
  first
   | (have hmn : min (ra.length : Int) (rb.length : Int) = (ra.length : Int) := by omega)
   | (have hmn : min (ra.length : Int) (rb.length : Int) = (rb.length : Int) := by omega)
  have Hnn := hide hnn
  have Hc := hide hc
  clear hnn hci hc
  go_enter Tryz.func43, Tryz.ntmps43
  go_wp2_with fail
  clear hmn
  go_loopg [6, 7] (n + 3) (fun g s6 s7 wr => ∃ (i : Nat), s6 = .int .i64 i ∧ n - i + 2 ≤ g ∧ i ≤ n ∧ Hid (Below w.heap.size w wr ∧ cmpF i (ra.drop i) (rb.drop i) = cmpF 0 ra rb))
  case atStart => exact ⟨0, rfl, by omega, by omega, Below.refl _ _, by simp⟩
  case round =>
   obtain ⟨i, rfl, hg, hi, hI⟩ := hrel
   by_cases hlt : i < n
   ·have hla : i < ra.length := by omega
    have hlb : i < rb.length := by omega
    have d1 : decide ((i : Int) < (ra.length : Int)) = true := by simp; omega
    have d2 : decide ((i : Int) < (rb.length : Int)) = true := by simp; omega
    have hia : (i : Int) < (ra.length : Int) := by omega
    have hib : (i : Int) < (rb.length : Int) := by omega
    have hw : IntKind.i64.wrap ((i : Int) + 1) = (i : Int) + 1 := by rw [IntKind.wrap_i64]; omega
    obtain ⟨g1, o1, sa, sca, rfl, c0, c1, c2, c3, c4, ct⟩ := (H1.out.below hI.out.1) i ra[i] (List.getElem?_eq_getElem hla)
    obtain ⟨g2, o2, sb, scb, rfl, e0, e1, e2, e3, e4, et⟩ := (H2.out.below hI.out.1) i rb[i] (List.getElem?_eq_getElem hlb)
    have htl := Ht.out ra[i] (List.getElem_mem hla)
    have HS : Hid (cmpF 0 ra rb = if recEq ra[i] rb[i] then cmpF (i + 1) (ra.drop (i + 1)) (rb.drop (i + 1)) else (i : Int)) := by show _ = _; rw [← hI.out.2]; exact cmpF_step ra rb i hla hlb
    have HX := hide (rSame_any ra[i] rb[i] sa sb sca scb wr.drew (ct.below (Below.refl _ _).drew) (et.below (Below.refl _ _).drew) htl)
    generalize ra[i] = x at c0 c1 c2 c3 c4 HS HX
    generalize rb[i] = y at e0 e1 e2 e3 e4 HS HX
    obtain ⟨⟨xt, xn, xk, xe⟩, xl⟩ := x
    obtain ⟨⟨yt, yn, yk, ye⟩, yl⟩ := y
    simp only at c0 c1 c2 c3 c4 e0 e1 e2 e3 e4 HX
    generalize recEq ⟨⟨xt, xn, xk, xe⟩, xl⟩ ⟨⟨yt, yn, yk, ye⟩, yl⟩ = q at HS HX
    clear ct et htl
    go_wp2_with fail
    go_region_held3 (fun W' => W'.cell? ⟨g1, o1 + i * 5, none⟩ = some (.int .i64 xn) ∧ W'.cell? ⟨g1, o1 + i * 5 + 1, none⟩ = some (.int .i64 xt) ∧ W'.cell? ⟨g1, o1 + i * 5 + 2, none⟩ = some (.int .i64 xk) ∧ W'.cell? ⟨g1, o1 + i * 5 + 3, none⟩ = some (.int .i64 xe) ∧ W'.cell? ⟨g1, o1 + i * 5 + 4, none⟩ = some (.slice sa xl.length sca) ∧ W'.cell? ⟨g2, o2 + i * 5, none⟩ = some (.int .i64 yn) ∧ W'.cell? ⟨g2, o2 + i * 5 + 1, none⟩ = some (.int .i64 yt) ∧ W'.cell? ⟨g2, o2 + i * 5 + 2, none⟩ = some (.int .i64 yk) ∧ W'.cell? ⟨g2, o2 + i * 5 + 3, none⟩ = some (.int .i64 ye) ∧ W'.cell? ⟨g2, o2 + i * 5 + 4, none⟩ = some (.slice sb yl.length scb))
     (first | exact ⟨c0, c1, c2, c3, c4, e0, e1, e2, e3, e4⟩ | exact ⟨below_at hb2 c0 (lt_of_cell c0), below_at hb2 c1 (lt_of_cell c1), below_at hb2 c2 (lt_of_cell c2), below_at hb2 c3 (lt_of_cell c3), below_at hb2 c4 (lt_of_cell c4), below_at hb2 e0 (lt_of_cell e0), below_at hb2 e1 (lt_of_cell e1), below_at hb2 e2 (lt_of_cell e2), below_at hb2 e3 (lt_of_cell e3), below_at hb2 e4 (lt_of_cell e4)⟩)
     (first | (go_at_call 72; refine HX.out.mono ?_; rintro e' w2 ⟨rfl, hb2'⟩; (have hb2 : Below wr.heap.size wr w2 := (Below.refl _ _).drew.trans hb2')))
    have HB2 : Hid (Below w.heap.size w w2) := hI.out.1.trans (hb2.mono hI.out.1.size)
    clear hb2 hb2' HX c0 c1 c2 c3 c4 e0 e1 e2 e3 e4
    rcases q with _ | _
    ·have hq := HS.out
     simp only [Bool.false_eq_true, if_false] at hq
     have Hq := hide hq
     clear hq
     go_wp2_with fail
     go_ret
     exact ⟨by rw [Hq.out]; rfl, HB2.out⟩
    ·have hq := HS.out
     simp only [if_true] at hq
     have Hq := hide hq
     clear hq
     go_wp2_with fail
     go_roundg (n - (i + 1) + 2)
     case measure => omega
     case rel => exact ⟨i + 1, by go_num, Nat.le_refl _, by omega, HB2.out, Hq.out.symm⟩
   ·have hq := hI.out.2
    rw [cmpF_end ra rb i (by have := Hn.out; omega)] at hq
    have Hq := hide hq
    first
     | (have d1 : ¬ i < ra.length := by (have := Hnn.out; omega))
     | (have d1 : ¬ i < rb.length := by (have := Hnn.out; omega))
    have Hin : Hid (i = n) := by (show _ = _; omega)
    by_cases hab : ra.length = rb.length
    ·have d3 : ((ra.length : Int) == (rb.length : Int)) = true := by rw [beq_iff_eq]; omega
     have hz : cmpF 0 ra rb = -1 := by rw [← Hq.out, if_pos hab]
     have Hz := hide hz
     have Hab := hide hab
     clear hq hz hab
     go_wp2_with fail
     first
      | done
      | (go_ret
         exact ⟨by rw [Hz.out]; rfl, hI.out.1⟩)
    ·have d3 : ((ra.length : Int) == (rb.length : Int)) = false := by rw [beq_eq_false_iff_ne]; omega
     have hz : cmpF 0 ra rb = (n : Int) := by rw [← Hq.out, if_neg hab, Hin.out]
     have Hz := hide hz
     have Hab := hide hab
     clear hq hz hab
     go_wp2_with fail
     go_ret
     exact ⟨by rw [Hz.out, Hnn.out]; rfl, hI.out.1⟩
end Go.Proofs.YtndlmgocldckfaaGreat
