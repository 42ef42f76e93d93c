import Derived.Test.YtndlmgocldckfaaGreatG33
import Derived.Test.YtndlmgocldckfaaGreatG32
import Derived.Test.YtndlmgocldckfaaGreatG17
import Derived.Deep.RegionHeld3
import Derived.Deep.CutRange
import Derived.Deep.DeepCutAuto
namespace Go.Proofs.YtndlmgocldckfaaGreat
open Go.RowKit
set_option linter.unusedVariables false
set_option linter.unusedSimpArgs false
set_option maxRecDepth 100000
set_option maxHeartbeats 4000000
theorem run_index4 (w : World) (a b c d : Int) (j : Int) (v : Int) (h : (j = 0 ∧ v = a) ∨ (j = 1 ∧ v = b) ∨ (j = 2 ∧ v = c) ∨ (j = 3 ∧ v = d)) :
  (Instr.index 109 (.agg #[.int .i64 a, .int .i64 b, .int .i64 c, .int .i64 d]) (.int .i64 j)).run Tryz.prog w = .ok (.int .i64 v) w := by
 obtain ⟨i, hi, hz, hsz, hby⟩ := info_parts Tryz.info3
 rcases h with ⟨rfl, rfl⟩ | ⟨rfl, rfl⟩ | ⟨rfl, rfl⟩ | ⟨rfl, rfl⟩ <;> simp [Instr.index, run_underlying Tryz.underlying109, run_underlying Tryz.underlying3, asIntOf, part, isAgg, sizeOf, typeInfo, hi, hsz, go_sem]
theorem write_any {R : Nat → Prop} {base : Nat} (kb qb mb : Nat) (ov : Value) (ents : Int) (ks : List (List Ins)) (draws : List Int) (s : KS) (w wr : World) (wb : Nat) (lv : Value) (l : List Int) (h : KerP R base w kb qb mb ov ents ks draws s) (hok : KOk ents ks.length draws s) (hk8 : ks.length ≤ 8) (he : 1 ≤ ents ∧ ents ≤ 8) (hd : draws.length ≤ 1000) (hsrt : Sorted s.q) (hS : SvR w wr wb lv l) (hl : l.length ≤ 100) :
  Calls Tryz.prog 96 #[.pointer (some ⟨kb, 0, none⟩), .pointer (some ⟨wb, 0, none⟩)] wr fun e w' => e = .returned (.tuple #[]) ∧ ∃ lv', SvR w w' wb lv' (l ++ bodyF ents ks.length s) := by
 have H := hide h
 have HS := hide hS
 have hk := h.klt
 obtain ⟨kv, hkv, hkin⟩ := h.kinds
 obtain ⟨ka, kc, rfl⟩ := hkin.form
 have k0 := below_at hS.below h.c0 hk
 have k1 := below_at hS.below hkv hk
 have k4 := below_at hS.below h.c4 hk
 have k5 := below_at hS.below h.c5 hk
 have k6 := below_at hS.below h.c6 hk
 have h0 := h.c0
 have h4 := h.c4
 have h5 := h.c5
 have h6 := h.c6
 have hcl := hok.clock
 have hnx := hok.next
 have htk := hok.taken
 obtain ⟨E, rfl⟩ := Int.eq_ofNat_of_zero_le (show 0 ≤ ents by omega)
 clear h hS hkin
 go_enter Tryz.func96, Tryz.ntmps96
 go_wp2_with fail
 refine (sNum (E : Int) HS.out (by omega) (by omega)).mono ?_
 rintro e w2 ⟨rfl, lv2, hS2, _⟩
 have HS2 := hide hS2
 have n1 := numB_len (E : Int)
 have j1 := below_at hS2.below hkv hk
 clear hS2 k0 k1 k4 k5 k6
 go_wp2_with fail
 refine (sNum (ks.length : Int) HS2.out (by simp; omega) (by omega)).mono ?_
 rintro e w3 ⟨rfl, lv3, hS3, _⟩
 have HS3 := hide hS3
 have n2 := numB_len (ks.length : Int)
 have j4 := below_at hS3.below h4 hk
 clear hS3 j1
 go_wp2_with fail
 refine (sNum s.clock HS3.out (by simp; omega) (by omega)).mono ?_
 rintro e w4 ⟨rfl, lv4, hS4, _⟩
 have HS4 := hide hS4
 have n3 := numB_len s.clock
 have j5 := below_at hS4.below h5 hk
 clear hS4 j4
 go_wp2_with fail
 refine (sNum s.next HS4.out (by simp; omega) (by omega)).mono ?_
 rintro e w5 ⟨rfl, lv5, hS5, _⟩
 have HS5 := hide hS5
 have n4 := numB_len s.next
 have j6 := below_at hS5.below h6 hk
 clear hS5 j5
 go_wp2_with fail
 refine (sNum (s.taken : Int) HS5.out (by simp; omega) (by omega)).mono ?_
 rintro e w6 ⟨rfl, lv6, hS6, _⟩
 have n5 := numB_len (s.taken : Int)
 have j0 := below_at hS6.below h0 hk
 obtain ⟨l6, hl6⟩ : ∃ l6, l6 = l ++ numB (E : Int) ++ numB (ks.length : Int) ++ numB s.clock ++ numB s.next ++ numB (s.taken : Int) := ⟨_, rfl⟩
 have HS6 : Hid (SvR w w6 wb lv6 l6) := by rw [hl6]; exact hS6
 have hl6n : l6.length ≤ 150 := by rw [hl6]; simp; omega
 have Hl6 := hide hl6
 clear hS6 j6 hl6 HS HS2 HS3 HS4 HS5
 go_wp2_with fail
 have hE8 : E ≤ 8 := by omega
 have Hreg := hide hok.regs
 go_loopg [48] 10 (fun gf s48 wr => ∃ (i : Nat) (lvi : Value), s48 = .int .i64 i ∧ E - i + 1 ≤ gf ∧ i ≤ E ∧ Hid (SvR w wr wb lvi (l6 ++ regB s (i * 4))))
 case atStart => exact ⟨0, lv6, rfl, by omega, by omega, show SvR _ _ _ _ _ by simpa [regB] using HS6.out⟩
 case round =>
  rename World => wo
  obtain ⟨i, lvi, rfl, hgf, hi, hI⟩ := hrel
  by_cases hlt : i < E
  ·have d1 : decide ((i : Int) < (E : Int)) = true := by simp; omega
   have hw : IntKind.i64.wrap ((i : Int) + 1) = (i : Int) + 1 := by rw [IntKind.wrap_i64]; omega
   have hi8 : (i : Int) < 8 := by omega
   have r0 := below_at hI.out.below (H.out.regs (i * 4) (by omega)) hk
   have r1 := below_at hI.out.below (H.out.regs (i * 4 + 1) (by omega)) hk
   have r2 := below_at hI.out.below (H.out.regs (i * 4 + 2) (by omega)) hk
   have r3 := below_at hI.out.below (H.out.regs (i * 4 + 3) (by omega)) hk
   simp only [← Nat.add_assoc] at r0 r1 r2 r3
   have v0 := Hreg.out (i * 4)
   have v1 := Hreg.out (i * 4 + 1)
   have v2 := Hreg.out (i * 4 + 2)
   have v3 := Hreg.out (i * 4 + 3)
   have HR : Hid (regB s (i * 4 + 1) = regB s (i * 4) ++ sgnB (s.regs (i * 4)) ∧ regB s (i * 4 + 2) = regB s (i * 4 + 1) ++ sgnB (s.regs (i * 4 + 1)) ∧ regB s (i * 4 + 3) = regB s (i * 4 + 2) ++ sgnB (s.regs (i * 4 + 2)) ∧ regB s (i * 4 + 4) = regB s (i * 4 + 3) ++ sgnB (s.regs (i * 4 + 3))) := ⟨regB_succ _ _, regB_succ _ _, regB_succ _ _, regB_succ _ _⟩
   have hrl : ∀ j, j ≤ 4 → (l6 ++ regB s (i * 4 + j)).length ≤ 600 := by
    intro j hj
    have := regB_len s (i * 4 + j)
    simp; omega
   have Hrl := hide hrl
   clear hrl
   generalize s.regs (i * 4) = q0 at r0 v0 HR
   generalize s.regs (i * 4 + 1) = q1 at r1 v1 HR
   generalize s.regs (i * 4 + 2) = q2 at r2 v2 HR
   generalize s.regs (i * 4 + 3) = q3 at r3 v3 HR
   go_wp2_with fail
   go_loopg [58] 6 (fun gf s58 wr => ∃ (j : Nat) (lvj : Value), s58 = .int .i64 j ∧ 4 - j + 1 ≤ gf ∧ j ≤ 4 ∧ Hid (SvR w wr wb lvj (l6 ++ regB s (i * 4 + j))))
   case atStart => exact ⟨0, lvi, rfl, by omega, by omega, hI.out⟩
   case round =>
    obtain ⟨j, lvj, rfl, hgf2, hj, hJ⟩ := hrel
    have hc : j = 0 ∨ j = 1 ∨ j = 2 ∨ j = 3 ∨ j = 4 := by omega
    have Hbl := hide (Hrl.out j hj)
    clear r0 r1 r2 r3 d1
    rcases hc with rfl | rfl | rfl | rfl | rfl
    ·have L := run_index4 wr q0 q1 q2 q3 0 q0 (by simp)
     go_wp2_with (go_at_call 111; refine (sSgn q0 hJ.out (by have := Hbl.out; omega) v0).mono ?_; rintro e w7 ⟨rfl, lv7, hS7, _⟩)
     go_roundg (4 - 1 + 1)
     case measure => omega
     case rel => exact ⟨1, lv7, rfl, by omega, by omega, by rw [HR.out.1, ← List.append_assoc]; exact hS7⟩
    ·have L := run_index4 wr q0 q1 q2 q3 1 q1 (by simp)
     go_wp2_with (go_at_call 111; refine (sSgn q1 hJ.out (by have := Hbl.out; omega) v1).mono ?_; rintro e w7 ⟨rfl, lv7, hS7, _⟩)
     go_roundg (4 - 2 + 1)
     case measure => omega
     case rel => exact ⟨2, lv7, rfl, by omega, by omega, by rw [HR.out.2.1, ← List.append_assoc]; exact hS7⟩
    ·have L := run_index4 wr q0 q1 q2 q3 2 q2 (by simp)
     go_wp2_with (go_at_call 111; refine (sSgn q2 hJ.out (by have := Hbl.out; omega) v2).mono ?_; rintro e w7 ⟨rfl, lv7, hS7, _⟩)
     go_roundg (4 - 3 + 1)
     case measure => omega
     case rel => exact ⟨3, lv7, rfl, by omega, by omega, by rw [HR.out.2.2.1, ← List.append_assoc]; exact hS7⟩
    ·have L := run_index4 wr q0 q1 q2 q3 3 q3 (by simp)
     go_wp2_with (go_at_call 111; refine (sSgn q3 hJ.out (by have := Hbl.out; omega) v3).mono ?_; rintro e w7 ⟨rfl, lv7, hS7, _⟩)
     go_roundg (4 - 4 + 1)
     case measure => omega
     case rel => exact ⟨4, lv7, rfl, by omega, by omega, by rw [HR.out.2.2.2, ← List.append_assoc]; exact hS7⟩
    ·go_wp2_with fail
     go_roundg (E - (i + 1) + 1)
     case measure => omega
     case rel => exact ⟨i + 1, lvj, by go_num, Nat.le_refl _, by omega, by rw [show (i + 1) * 4 = i * 4 + 4 by omega]; exact hJ.out⟩
  ·have d1 : decide ((i : Int) < (E : Int)) = false := by simp; omega
   obtain rfl : i = E := by omega
   have HI := hide hI.out
   have hrl := regB_len s (i * 4)
   clear hgf
   go_wp2_with fail
   refine (wQueue_any kb qb mb ov (i : Int) ks draws s w wo wb lvi _ H.out hok hk8 (by omega) hsrt HI.out (by simp; omega)).mono ?_
   rintro e w8 ⟨rfl, lv8, hS8⟩
   have HS8 := hide hS8
   clear hS8
   go_wp2_with fail
   go_end0
   have := HS8.out
   rw [Hl6.out] at this
   refine ⟨rfl, lv8, ?_⟩
   simpa [bodyF] using this
theorem numB_bytes {n : Int} (h : 0 ≤ n ∧ n ≤ 9223372036854775807) : ∀ b ∈ numB n, 0 ≤ b ∧ b < 256 := numF_bytes 9 n h.1 (by simp; omega)
theorem sgnB_bytes {n : Int} (h : -1000000000 ≤ n ∧ n ≤ 1000000000) : ∀ b ∈ sgnB n, 0 ≤ b ∧ b < 256 := by
 unfold sgnB
 refine numB_bytes ?_
 unfold sgnI
 split <;> omega
theorem evB_bytes : ∀ (q : List Ev) (t : Int), Sorted q → 0 ≤ t → (∀ e ∈ q, t ≤ e.time ∧ e.time ≤ 1000000000000 ∧ 0 ≤ e.number ∧ e.number ≤ 1000000000 ∧ 0 ≤ e.kind ∧ e.kind ≤ 1000 ∧ 0 ≤ e.entity ∧ e.entity ≤ 1000) → ∀ b ∈ evB t q, 0 ≤ b ∧ b < 256
 | [], t, _, _, _, b, hb => by simp [evB] at hb
 | e :: q, t, hs, ht, h, b, hb => by
  have he := h e (List.mem_cons_self ..)
  simp only [evB, List.mem_append] at hb
  rcases hb with hb | hb | hb | hb | hb
  ·exact numB_bytes (by omega) b hb
  ·exact numB_bytes (by omega) b hb
  ·exact numB_bytes (by omega) b hb
  ·exact numB_bytes (by omega) b hb
  ·refine evB_bytes q e.time (List.pairwise_cons.1 hs).2 (by omega) (fun x hx => ?_) b hb
   have h1 := h x (List.mem_cons_of_mem _ hx)
   have h2 := (List.pairwise_cons.1 hs).1 x hx
   simp only [aheadF, Bool.or_eq_true, decide_eq_true_eq, Bool.and_eq_true] at h2
   omega
theorem bodyF_bytes {ents : Int} {nk : Nat} {draws : List Int} {s : KS} (hok : KOk ents nk draws s) (he : 1 ≤ ents ∧ ents ≤ 8) (hk : nk ≤ 8) (hd : draws.length ≤ 1000) (hs : Sorted s.q) : ∀ b ∈ bodyF ents nk s, 0 ≤ b ∧ b < 256 := by
 obtain ⟨k1, k2, k3, k4, k5, k6⟩ := hok
 intro b hb
 simp only [bodyF, List.mem_append] at hb
 rcases hb with hb | hb | hb | hb | hb | hb | hb | hb
 ·exact numB_bytes (by omega) b hb
 ·exact numB_bytes (by omega) b hb
 ·exact numB_bytes (by omega) b hb
 ·exact numB_bytes (by omega) b hb
 ·exact numB_bytes (by omega) b hb
 ·obtain ⟨j, _, hj⟩ := List.mem_flatMap.1 hb
  exact sgnB_bytes (k4 j) b hj
 ·exact numB_bytes (by omega) b hb
 ·refine evB_bytes s.q s.clock hs k2.1 (fun e he' => ?_) b hb
  have := k5 e he'
  omega
theorem bodyF_len {ents : Int} {nk : Nat} {s : KS} (he : ents ≤ 8) (hq : s.q.length ≤ 16) : (bodyF ents nk s).length ≤ 1100 := by
 have h1 := numB_len ents
 have h2 := numB_len (nk : Int)
 have h3 := numB_len s.clock
 have h4 := numB_len s.next
 have h5 := numB_len (s.taken : Int)
 have h6 := regB_len s (ents.toNat * 4)
 have h7 := numB_len (s.q.length : Int)
 have h8 := evB_len s.clock s.q
 simp only [bodyF, List.length_append]
 omega
def headF (ents : Int) (nk : Nat) (s : KS) : List Int := [84, 77, 80, 1] ++ bodyF ents nk s
def saveF (ents : Int) (nk : Nat) (s : KS) : List Int := headF ents nk s ++ sumB (headF ents nk s)
theorem save_any {R : Nat → Prop} {base : Nat} (kb qb mb : Nat) (ov : Value) (ents : Int) (ks : List (List Ins)) (draws : List Int) (s : KS) (w : World) (h : KerP R base w kb qb mb ov ents ks draws s) (hok : KOk ents ks.length draws s) (hk8 : ks.length ≤ 8) (he : 1 ≤ ents ∧ ents ≤ 8) (hd : draws.length ≤ 1000) (hsrt : Sorted s.q) :
  Calls Tryz.prog 52 #[.pointer (some ⟨kb, 0, none⟩)] w fun e w' => ∃ v, e = .returned v ∧ Below w.heap.size w w' ∧ BRow w.heap.size w' v (saveF ents ks.length s) := by
 have H := hide h
 have hby := hide (bodyF_bytes hok he hk8 hd hsrt)
 have hbl := bodyF_len (ents := ents) (nk := ks.length) (s := s) he.2 hok.len
 clear h
 go_enter Tryz.func52, Tryz.ntmps52
 go_wp2_with fail
 refine (begin_any w _ ?_).mono ?_
 ·decide
 rintro e w1 ⟨wb, lv1, rfl, hb1, hwl, hW1, hlv⟩
 have HS1 : Hid (SvR w w1 wb lv1 [84, 77, 80, 1]) := ⟨hb1, hW1, hwl⟩
 clear hb1 hW1 hwl hlv
 go_wp2_with fail
 refine (write_any kb qb mb ov ents ks draws s w w1 wb lv1 _ H.out hok hk8 he hd hsrt HS1.out (by simp)).mono ?_
 rintro e w2 ⟨rfl, lv2, hS2⟩
 have HS2 := hide hS2
 clear hS2
 go_wp2_with fail
 refine (end_any w.heap.size wb lv2 (headF ents ks.length s) w2 HS2.out.wr HS2.out.below.size (by simp [headF]; omega) ?_).mono ?_
 ·intro c hc
  rcases List.mem_append.1 hc with hc | hc
  ·simp at hc; omega
  ·exact hby.out c hc
 rintro e w3 ⟨v, rfl, ho3, hrow3⟩
 obtain ⟨g, cap, rfl⟩ := hrow3.form
 have HB3 : Hid (Below w.heap.size w w3) := HS2.out.below.trans (ho3.below HS2.out.below.size (fun k hk hc => by have := (HS2.out.wr.row.lt k hc).1; omega))
 have Hrow3 := hide hrow3
 clear hrow3 ho3
 go_wp2_with fail
 go_ret
 exact ⟨_, rfl, HB3.out, by have := Hrow3.out; simp only [List.length_append] at this; exact this⟩
theorem below_held {W0 W' w1 : World} {P : Prop} (h2 : Below W'.heap.size W' w1) (h1 : Below W0.heap.size W0 W' ∧ P) : Below W0.heap.size W0 w1 := h1.1.trans (h2.mono h1.1.size)
theorem below_held' {W0 W' : World} {P : Prop} (h1 : Below W0.heap.size W0 W' ∧ P) : Below W0.heap.size W0 W'.drew := h1.1.drew
theorem held_below {W0 W' : World} {P : Prop} (h : Below W0.heap.size W0 W' ∧ P) : Below W0.heap.size W0 W' := h.1
theorem tmp_str : (⟨#[84, 77, 80]⟩ : ByteArray) = strW [84, 77, 80] := rfl
theorem strAdd (a b : List Int) (w : World) (h : a.length + b.length ≤ 1000000000) : (Op.stringOp .add (strW a) (strW b)).run Tryz.prog w = .ok (.string (strW (a ++ b))) w := by
 have := run_string_add_sum (P := Tryz.prog) w (strW a) (strW b) (by rw [strW_size, strW_size]; omega)
 rw [strW_app] at this
 exact this
def preF (ents : Int) (nk : Nat) (s : KS) : List Int := [84, 77, 80] ++ numB 1 ++ numB ents ++ numB nk ++ numB s.clock ++ numB s.next ++ numB s.taken
theorem rsave_any {R : Nat → Prop} (rb : Nat) (ents : Int) (ks : List (List Ins)) (draws : List Int) (s : KS) (w : World) (h : RefK R w rb ents ks draws s.taken s.clock s.next (regL ents s) s.q) (hok : KOk ents ks.length draws s) (hk8 : ks.length ≤ 8) (he : 1 ≤ ents ∧ ents ≤ 8) (hd : draws.length ≤ 1000) (hsrt : Sorted s.q) :
  Calls Tryz.prog 53 #[.pointer (some ⟨rb, 0, none⟩)] w fun e w' => e = .returned (.string (strW (saveF ents ks.length s))) ∧ Below w.heap.size w w' := by
 obtain ⟨⟨kv, dv, rv, qv, h0, h1, h2, h3, h4, h5, h6, h7, hkk, hdd, hrr, hqq⟩, hroom⟩ := h
 obtain ⟨ka, kc, rfl⟩ := hkk.form
 have Hsrt := hide hsrt
 have Hok := hide hok
 have hc := hok.clock
 have hn := hok.next
 have ht := hok.taken
 have hql := hok.len
 have hrl : rb < w.heap.size := lt_of_cell h0
 have Hrr := hide hrr
 have Hqq := hide hqq
 clear hrr hqq hkk hdd hroom hok hsrt h2
 obtain ⟨p1, e1⟩ : ∃ p1, p1 = [84, 77, 80] ++ numB 1 := ⟨_, rfl⟩
 obtain ⟨p2, e2⟩ : ∃ p2, p2 = p1 ++ numB ents := ⟨_, rfl⟩
 obtain ⟨p3, e3⟩ : ∃ p3, p3 = p2 ++ numB ks.length := ⟨_, rfl⟩
 obtain ⟨p4, e4⟩ : ∃ p4, p4 = p3 ++ numB s.clock := ⟨_, rfl⟩
 obtain ⟨p5, e5⟩ : ∃ p5, p5 = p4 ++ numB s.next := ⟨_, rfl⟩
 obtain ⟨p6, e6⟩ : ∃ p6, p6 = p5 ++ numB s.taken := ⟨_, rfl⟩
 have l1 : p1.length ≤ 13 := by rw [e1, List.length_append]; have := numB_len 1; simp; omega
 have l2 : p2.length ≤ 23 := by rw [e2, List.length_append]; have := numB_len ents; omega
 have l3 : p3.length ≤ 33 := by rw [e3, List.length_append]; have := numB_len ks.length; omega
 have l4 : p4.length ≤ 43 := by rw [e4, List.length_append]; have := numB_len s.clock; omega
 have l5 : p5.length ≤ 53 := by rw [e5, List.length_append]; have := numB_len s.next; omega
 have l6 : p6.length ≤ 63 := by rw [e6, List.length_append]; have := numB_len s.taken; omega
 have a1 : ∀ W, (Op.stringOp .add ⟨#[84, 77, 80]⟩ (strW (numB 1))).run Tryz.prog W = .ok (.string (strW p1)) W := by intro W; rw [e1, tmp_str]; exact strAdd _ _ W (by have := numB_len 1; simp; omega)
 have a2 : ∀ W, (Op.stringOp .add (strW p1) (strW (numB ents))).run Tryz.prog W = .ok (.string (strW p2)) W := by intro W; rw [e2]; exact strAdd _ _ W (by have := numB_len ents; omega)
 have a3 : ∀ W, (Op.stringOp .add (strW p2) (strW (numB (ks.length : Int)))).run Tryz.prog W = .ok (.string (strW p3)) W := by intro W; rw [e3]; exact strAdd _ _ W (by have := numB_len ks.length; omega)
 have a4 : ∀ W, (Op.stringOp .add (strW p3) (strW (numB s.clock))).run Tryz.prog W = .ok (.string (strW p4)) W := by intro W; rw [e4]; exact strAdd _ _ W (by have := numB_len s.clock; omega)
 have a5 : ∀ W, (Op.stringOp .add (strW p4) (strW (numB s.next))).run Tryz.prog W = .ok (.string (strW p5)) W := by intro W; rw [e5]; exact strAdd _ _ W (by have := numB_len s.next; omega)
 have a6 : ∀ W, (Op.stringOp .add (strW p5) (strW (numB (s.taken : Int)))).run Tryz.prog W = .ok (.string (strW p6)) W := by intro W; rw [e6]; exact strAdd _ _ W (by have := numB_len s.taken; omega)
 have H6 : Hid (p6 = preF ents ks.length s) := by show _ = _; rw [e6, e5, e4, e3, e2, e1]; rfl
 clear e1 e2 e3 e4 e5 e6
 have HM : Hid (∀ W', Below w.heap.size w W' → (Below w.heap.size w W' ∧ W'.cell? ⟨rb, 0, none⟩ = some (.int .i64 ents) ∧ W'.cell? ⟨rb, 1, none⟩ = some (.slice ka ks.length kc) ∧ W'.cell? ⟨rb, 3, none⟩ = some (.int .i64 s.taken) ∧ W'.cell? ⟨rb, 4, none⟩ = some (.int .i64 s.clock) ∧ W'.cell? ⟨rb, 5, none⟩ = some (.int .i64 s.next))) :=
  fun W' hb => ⟨hb, below_at hb h0 hrl, below_at hb h1 hrl, below_at hb h3 hrl, below_at hb h4 hrl, below_at hb h5 hrl⟩
 go_enter Tryz.func53, Tryz.ntmps53
 go_wp2_with fail
 go_cut [3] (fun s3 wx => s3 = .string (strW p6) ∧ Hid (Below w.heap.size w wx))
 case first =>
  go_region_held3 (fun W' => Below w.heap.size w W' ∧ W'.cell? ⟨rb, 0, none⟩ = some (.int .i64 ents) ∧ W'.cell? ⟨rb, 1, none⟩ = some (.slice ka ks.length kc) ∧ W'.cell? ⟨rb, 3, none⟩ = some (.int .i64 s.taken) ∧ W'.cell? ⟨rb, 4, none⟩ = some (.int .i64 s.clock) ∧ W'.cell? ⟨rb, 5, none⟩ = some (.int .i64 s.next))
   (first | exact HM.out _ (Below.refl _ _).drew | exact HM.out _ (below_held (by assumption) (by assumption)) | exact HM.out _ (below_held' (by assumption)))
   (first | (go_at_call 78; refine (rnumber_any _ _ (by omega)).mono ?_; rintro e w1 ⟨rfl, hb1⟩))
  have HB1 : Hid (Below w.heap.size w w1) := held_below (by assumption)
  go_wp2_with fail
  go_meet
  exact ⟨rfl, HB1.out⟩
 case rest =>
  obtain ⟨rfl, hB⟩ := hcut
  clear a1 a2 a3 a4 a5 a6 l1 l2 l3 l4 l5 HM
  obtain ⟨N, hN⟩ : ∃ N, N = (ents * 4).toNat := ⟨_, rfl⟩
  have hNl : (regL ents s).length = N := by rw [regL_length, hN]
  obtain ⟨rg, ro, rc, hrv, hrow⟩ : ∃ b off cap, rv = .slice (some ⟨b, off, none⟩) N cap ∧ RowAt w b off (ints (regL ents s)) := by
   obtain ⟨_, ⟨_, hx⟩ | ⟨b, off, cap, hx, _, hr⟩⟩ := Hrr.out
   ·rw [hx] at hNl; simp at hNl; omega
   ·rw [hNl] at hx; exact ⟨b, off, cap, hx, hr⟩
  subst hrv
  have hN32 : N ≤ 32 := by omega
  have HNe : Hid (N = ents.toNat * 4) := by show _ = _; omega
  have HRow : Hid (∀ j, j < N → w.cell? ⟨rg, ro + j, none⟩ = some (.int .i64 (s.regs j))) := by
   intro j hj
   exact hrow j _ (by rw [ints, List.getElem?_map, regL_get ents s j (by omega)]; rfl)
  clear hrow hNl hN
  go_wp2_with fail
  go_loopg [3, 4] (N + 3) (fun g s3 s4 wr => ∃ (i : Nat) (acc : List Int), s3 = .string (strW acc) ∧ s4 = .int .i64 i ∧ N - i + 2 ≤ g ∧ i ≤ N ∧ acc.length ≤ 63 + 10 * i ∧ Hid (acc = preF ents ks.length s ++ regB s i ∧ Below w.heap.size w wr))
  case atStart => exact ⟨0, p6, rfl, rfl, by omega, by omega, by omega, by rw [H6.out]; simp [regB], hB.out⟩
  case round =>
   obtain ⟨i, acc, rfl, rfl, hg, hi, hal, hI⟩ := hrel
   have k6 := below_at hI.out.2 h6 hrl
   by_cases hlt : i < N
   ·have d1 : decide ((i : Int) < (N : Int)) = true := by simp; omega
    have hii : (i : Int) < (N : Int) := by omega
    have hw : IntKind.i64.wrap ((i : Int) + 1) = (i : Int) + 1 := by rw [IntKind.wrap_i64]; omega
    have cc := HRow.out i hlt
    have kc' := below_at hI.out.2 cc (lt_of_cell cc)
    have hrg := Hok.out.regs i
    have hsl := numB_len (sgnI (s.regs i))
    have ha : ∀ W, (Op.stringOp .add (strW acc) (strW (sgnB (s.regs i)))).run Tryz.prog W = .ok (.string (strW (acc ++ sgnB (s.regs i)))) W := fun W => strAdd _ _ W (by show acc.length + (numB (sgnI (s.regs i))).length ≤ _; omega)
    have HN : Hid (acc ++ sgnB (s.regs i) = preF ents ks.length s ++ regB s (i + 1)) := by show _ = _; rw [hI.out.1, regB_succ, List.append_assoc]
    have hl' : (acc ++ sgnB (s.regs i)).length ≤ 63 + 10 * (i + 1) := by rw [List.length_append]; show acc.length + (numB (sgnI (s.regs i))).length ≤ _; omega
    clear cc hsl
    go_wp2_with (go_at_call 80; refine (rsigned_any _ _ hrg).mono ?_; rintro e w2 ⟨rfl, hb2⟩)
    have HB2 : Hid (Below w.heap.size w w2) := hI.out.2.trans (hb2.mono hI.out.2.size)
    go_roundg (N - (i + 1) + 2)
    case measure => omega
    case rel => exact ⟨i + 1, _, rfl, by go_num, Nat.le_refl _, by omega, hl', HN.out, HB2.out⟩
   ·have d1 : decide ((i : Int) < (N : Int)) = false := by simp; omega
    have hiN : i = N := by omega
    have HA : Hid (acc = preF ents ks.length s ++ regB s N) := by have := hI.out.1; rw [hiN] at this; exact this
    clear hiN
    obtain ⟨qa, qc, rfl⟩ := Hqq.out.form
    have HQ : Hid (∀ (j : Nat) (hj : j < s.q.length), ∃ b off, qa = some ⟨b, off, none⟩ ∧ w.cell? ⟨b, off + j * 4, none⟩ = some (.int .i64 s.q[j].time) ∧ w.cell? ⟨b, off + j * 4 + 1, none⟩ = some (.int .i64 s.q[j].number) ∧ w.cell? ⟨b, off + j * 4 + 2, none⟩ = some (.int .i64 s.q[j].kind) ∧ w.cell? ⟨b, off + j * 4 + 3, none⟩ = some (.int .i64 s.q[j].entity)) := by
     intro j hj
     obtain ⟨_, hx⟩ | ⟨b, off, cap, hx, _, _, _, hc⟩ := Hqq.out
     ·rw [hx] at hj; simp at hj
     ·simp only [Value.slice.injEq] at hx
      have := hc j (evIns s.q[j]) (by simp [hj])
      exact ⟨b, off, hx.1, this⟩
    have k7 := below_at hI.out.2 h7 hrl
    have k4 := below_at hI.out.2 h4 hrl
    have hnl := numB_len (s.q.length : Int)
    have ha : ∀ W, (Op.stringOp .add (strW acc) (strW (numB (s.q.length : Int)))).run Tryz.prog W = .ok (.string (strW (acc ++ numB s.q.length))) W := fun W => strAdd _ _ W (by omega)
    have HAQ : Hid (acc ++ numB s.q.length = preF ents ks.length s ++ regB s N ++ numB s.q.length) := by show _ = _; rw [HA.out]
    have hl2 : (acc ++ numB s.q.length).length ≤ 400 := by rw [List.length_append]; omega
    have HBr : Hid (Below w.heap.size w wr) := hI.out.2
    rename World => wq
    clear hI HRow hnl
    go_wp2_with (go_at_call 78; refine (rnumber_any _ _ (by omega)).mono ?_; rintro e w3 ⟨rfl, hb3⟩; (have j4 := below_at hb3 k4 (by have := HBr.out.size; omega)))
    have HB3 : Hid (Below w.heap.size w w3) := HBr.out.trans (hb3.mono HBr.out.size)
    obtain ⟨ac1, hac1⟩ : ∃ ac1, ac1 = acc ++ numB s.q.length := ⟨_, rfl⟩
    rw [← hac1] at HAQ hl2
    rw [← hac1]
    clear hac1 ha k4 k6 k7 hb3 HA j4
    go_loopg [3, 5, 6, 7] (s.q.length + 3) (fun g s3 s5 s6 _ wr => ∃ (i : Nat) (acc : List Int) (t : Int), s3 = .string (strW acc) ∧ s5 = .int .i64 t ∧ s6 = .int .i64 i ∧ s.q.length - i + 2 ≤ g ∧ i ≤ s.q.length ∧ acc.length ≤ 400 + 40 * i ∧ Hid (acc = ac1 ++ evB s.clock (s.q.take i) ∧ t = lastT s.clock (s.q.take i) ∧ Below w.heap.size w wr))
    case atStart => exact ⟨0, ac1, s.clock, rfl, rfl, rfl, by omega, by omega, by omega, by simp [evB], by simp [lastT], HB3.out⟩
    case round =>
     obtain ⟨i, acc, t, rfl, rfl, rfl, hg, hi, hal, hI⟩ := hrel
     have k7 := below_at hI.out.2.2 h7 hrl
     have hzr := hI.out.2.2.size
     by_cases hlt : i < s.q.length
     ·have d1 : decide ((i : Int) < (s.q.length : Int)) = true := by simp; omega
      have hii : (i : Int) < (s.q.length : Int) := by omega
      have hw : IntKind.i64.wrap ((i : Int) + 1) = (i : Int) + 1 := by rw [IntKind.wrap_i64]; omega
      obtain ⟨qb, qo, rfl, b0, b1, b2, b3⟩ := HQ.out i hlt
      have c0 := below_at hI.out.2.2 b0 (lt_of_cell b0)
      have c1 := below_at hI.out.2.2 b1 (lt_of_cell b1)
      have c2 := below_at hI.out.2.2 b2 (lt_of_cell b2)
      have c3 := below_at hI.out.2.2 b3 (lt_of_cell b3)
      have hev := Hok.out.evs s.q[i] (List.getElem_mem hlt)
      have hlt2 := lastT_le Hsrt.out (fun e he => (Hok.out.evs e he).1) i hlt
      rw [← hI.out.2.1] at hlt2
      have HN : Hid (∀ a, a = acc ++ numB (s.q[i].time - t) ++ numB s.q[i].number ++ numB s.q[i].kind ++ numB s.q[i].entity → a = ac1 ++ evB s.clock (s.q.take (i + 1))) := by
       intro a ha
       rw [ha, List.take_succ_eq_append_getElem hlt, evB_snoc, ← hI.out.2.1, hI.out.1]
       simp
      have HT : Hid (s.q[i].time = lastT s.clock (s.q.take (i + 1))) := (lastT_snoc s.clock s.q i hlt).symm
      generalize s.q[i] = x at c0 c1 c2 c3 hev hlt2 HN HT
      obtain ⟨xt, xn, xk, xe⟩ := x
      simp only at c0 c1 c2 c3 hev hlt2 HN HT
      have HBr := hide hI.out.2.2
      clear b0 b1 b2 b3 hI
      obtain ⟨p1, e1⟩ : ∃ p1, p1 = acc ++ numB (xt - t) := ⟨_, rfl⟩
      obtain ⟨p2, e2⟩ : ∃ p2, p2 = p1 ++ numB xn := ⟨_, rfl⟩
      obtain ⟨p3, e3⟩ : ∃ p3, p3 = p2 ++ numB xk := ⟨_, rfl⟩
      obtain ⟨p4, e4⟩ : ∃ p4, p4 = p3 ++ numB xe := ⟨_, rfl⟩
      have l1 : p1.length ≤ acc.length + 10 := by rw [e1, List.length_append]; have := numB_len (xt - t); omega
      have l2 : p2.length ≤ acc.length + 20 := by rw [e2, List.length_append]; have := numB_len xn; omega
      have l3 : p3.length ≤ acc.length + 30 := by rw [e3, List.length_append]; have := numB_len xk; omega
      have l4 : p4.length ≤ acc.length + 40 := by rw [e4, List.length_append]; have := numB_len xe; omega
      have a1 : ∀ W, (Op.stringOp .add (strW acc) (strW (numB (xt - t)))).run Tryz.prog W = .ok (.string (strW p1)) W := by intro W; rw [e1]; exact strAdd _ _ W (by have := numB_len (xt - t); omega)
      have a2 : ∀ W, (Op.stringOp .add (strW p1) (strW (numB xn))).run Tryz.prog W = .ok (.string (strW p2)) W := by intro W; rw [e2]; exact strAdd _ _ W (by have := numB_len xn; omega)
      have a3 : ∀ W, (Op.stringOp .add (strW p2) (strW (numB xk))).run Tryz.prog W = .ok (.string (strW p3)) W := by intro W; rw [e3]; exact strAdd _ _ W (by have := numB_len xk; omega)
      have a4 : ∀ W, (Op.stringOp .add (strW p3) (strW (numB xe))).run Tryz.prog W = .ok (.string (strW p4)) W := by intro W; rw [e4]; exact strAdd _ _ W (by have := numB_len xe; omega)
      have HP : Hid (p4 = ac1 ++ evB s.clock (s.q.take (i + 1))) := HN.out p4 (by rw [e4, e3, e2, e1])
      clear e1 e2 e3 e4 HN
      have hsub : wrap64 (xt - t) = xt - t := by simp only [wrap64]; omega
      have hsub2 : IntKind.i64.wrap (xt - t) = xt - t := by rw [IntKind.wrap_i64]; omega
      obtain ⟨W4, hW4⟩ : ∃ W4, W4 = wr.alloc (.cells #[.int .i64 xt, .int .i64 xn, .int .i64 xk, .int .i64 xe] 143) := ⟨_, rfl⟩
      have hb4 : Below wr.heap.size wr W4 := by rw [hW4]; exact alloc_below _ _
      have hz4 : W4.heap.size = wr.heap.size + 1 := by rw [hW4]; simp
      have m0 : W4.cell? ⟨wr.heap.size, 0, none⟩ = some (.int .i64 xt) := by rw [hW4]; simp [go_sem]
      have m1 : W4.cell? ⟨wr.heap.size, 1, none⟩ = some (.int .i64 xn) := by rw [hW4]; simp [go_sem]
      have m2 : W4.cell? ⟨wr.heap.size, 2, none⟩ = some (.int .i64 xk) := by rw [hW4]; simp [go_sem]
      have m3 : W4.cell? ⟨wr.heap.size, 3, none⟩ = some (.int .i64 xe) := by rw [hW4]; simp [go_sem]
      have HM : Hid (∀ W', Below W4.heap.size W4 W' → (Below W4.heap.size W4 W' ∧ W'.cell? ⟨wr.heap.size, 0, none⟩ = some (.int .i64 xt) ∧ W'.cell? ⟨wr.heap.size, 1, none⟩ = some (.int .i64 xn) ∧ W'.cell? ⟨wr.heap.size, 2, none⟩ = some (.int .i64 xk) ∧ W'.cell? ⟨wr.heap.size, 3, none⟩ = some (.int .i64 xe))) :=
       fun W' hb => ⟨hb, below_at hb m0 (by omega), below_at hb m1 (by omega), below_at hb m2 (by omega), below_at hb m3 (by omega)⟩
      have HW4 := hide hW4
      have HB4 : Hid (Below w.heap.size w W4) := HBr.out.trans (hb4.mono hzr)
      clear hW4 hb4
      go_wp2_with fail
      rw [← HW4.out]
      go_region_held3 (fun W' => Below W4.heap.size W4 W' ∧ W'.cell? ⟨wr.heap.size, 0, none⟩ = some (.int .i64 xt) ∧ W'.cell? ⟨wr.heap.size, 1, none⟩ = some (.int .i64 xn) ∧ W'.cell? ⟨wr.heap.size, 2, none⟩ = some (.int .i64 xk) ∧ W'.cell? ⟨wr.heap.size, 3, none⟩ = some (.int .i64 xe))
       (first | exact HM.out _ (Below.refl _ _).drew | exact HM.out _ (below_held (by assumption) (by assumption)))
       (first | (go_at_call 78; refine (rnumber_any _ _ (by omega)).mono ?_; rintro e w5 ⟨rfl, hb5⟩))
      have hb6 : Below W4.heap.size W4 w5 := held_below (by assumption)
      have y0 := below_at hb6 m0 (by omega)
      have HB6 : Hid (Below w.heap.size w w5) := HB4.out.trans (hb6.mono (by omega))
      clear m0 m1 m2 m3 hb6 a1 a2 a3 a4
      go_wp2_with fail
      go_roundg (s.q.length - (i + 1) + 2)
      case measure => omega
      case rel => exact ⟨i + 1, p4, xt, rfl, rfl, by go_num, Nat.le_refl _, by omega, by omega, HP.out, HT.out, HB6.out⟩
     ·have d1 : decide ((i : Int) < (s.q.length : Int)) = false := by simp; omega
      have HA : Hid (acc = headF ents ks.length s) := by
       have := hI.out.1
       rw [List.take_of_length_le (by omega), HAQ.out] at this
       show _ = _
       rw [this, HNe.out]
       simp [headF, bodyF, preF, numB, numF]
      have HBr := hide hI.out.2.2
      have hv : ∀ c ∈ acc, 0 ≤ c ∧ c < 256 := by
       rw [HA.out]
       intro c hc
       rcases List.mem_append.1 hc with hc | hc
       ·simp at hc; omega
       ·exact bodyF_bytes Hok.out he hk8 hd Hsrt.out c hc
      have HS : Hid (∀ W, Calls Tryz.prog 81 #[.string (strW acc)] W fun e w' => e = .returned (.string (strW (sumB acc))) ∧ Below W.heap.size W w') := fun W => rSum_any acc W (by omega) hv
      have ha : ∀ W, (Op.stringOp .add (strW acc) (strW (sumB acc))).run Tryz.prog W = .ok (.string (strW (acc ++ sumB acc))) W := fun W => strAdd _ _ W (by rw [sumB_len]; omega)
      clear hI hv
      go_wp2_with (go_at_call 81; refine (HS.out _).mono ?_; rintro e w6 ⟨rfl, hb6⟩)
      go_ret
      refine ⟨?_, HBr.out.trans (hb6.mono hzr)⟩
      rw [saveF, ← HA.out]
      rfl
end Go.Proofs.YtndlmgocldckfaaGreat
