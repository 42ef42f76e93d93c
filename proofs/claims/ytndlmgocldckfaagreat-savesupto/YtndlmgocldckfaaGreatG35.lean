import Derived.Test.YtndlmgocldckfaaGreatG32
import Derived.Test.YtndlmgocldckfaaGreatG34
import Derived.Test.YtndlmgocldckfaaGreatG30
import Derived.Test.YtndlmgocldckfaaGreatG16
import Derived.Test.YtndlmgocldckfaaGreatG10
import Derived.Test.YtndlmgocldckfaaGreatG02
import Derived.Test.YtndlmgocldckfaaGreatG08
import Derived.Test.YtndlmgocldckfaaGreatG29
import Derived.Test.YtndlmgocldckfaaGreatG33
import Derived.Test.YtndlmgocldckfaaGreatG31
import Derived.Test.YtndlmgocldckfaaGreatG03
namespace Go.Proofs.YtndlmgocldckfaaGreat
open Go.RowKit
set_option linter.unusedVariables false
set_option linter.unusedSimpArgs false
set_option maxRecDepth 100000
set_option maxHeartbeats 4000000
def regRF : Nat → (Nat → Int) → Nat → List Int → Bool → (Nat → Int) × List Int × Bool
 | 0, f, _, l, b => (f, l, b)
 | n + 1, f, j, l, b => regRF n (putR f j (readS 1000000000 l b).1) (j + 1) (readS 1000000000 l b).2.1 (readS 1000000000 l b).2.2
theorem read_any {R : Nat → Prop} {base : Nat} (kb qb mb rb g : Nat) (ov0 : Value) (E : Nat) (ks : List (List Ins)) (draws : List Int) (l : List Int) (w : World) (s : KS) (h : LdR R base w w kb qb mb rb g ov0 ov0 (E : Int) ks draws s l false) (he : 1 ≤ E ∧ E ≤ 8) (hk : ks.length ≤ 8) (hd : draws.length ≤ 1000) (hq : s.q = [])
  (v1 v2 v3 v4 v5 : Int) (l1 l2 l3 l4 l5 l6 l7 : List Int) (f1 f2 f3 f4 f5 f6 f7 : Bool) (rg : Nat → Int) (qq : List Ev) (ok : Bool)
  (e1 : readF E E l false = (v1, l1, f1)) (e2 : readF ks.length ks.length l1 f1 = (v2, l2, f2)) (e3 : readF 0 1000000000000 l2 f2 = (v3, l3, f3)) (e4 : readF 1 1000000000 l3 f3 = (v4, l4, f4)) (e5 : readF 0 draws.length l4 f4 = (v5, l5, f5))
  (e6 : regRF (E * 4) s.regs 0 l5 f5 = (rg, l6, f6)) (e7 : queueRF E ks.length v4 v3 [] l6 f6 = (ok, qq, l7, f7)) :
  Calls Tryz.prog 65 #[.pointer (some ⟨kb, 0, none⟩), .pointer (some ⟨rb, 0, none⟩)] w fun e w' => e = .returned (.bool (ok && (!f7 && l7.isEmpty))) ∧ ∃ ov', LdR R base w w' kb qb mb rb g ov0 ov' (E : Int) ks draws ⟨v5.toNat, v3, v4, rg, qq⟩ l7 f7 := by
 have H := hide h
 obtain ⟨kv, hkv, hkin⟩ := h.ker.kinds
 obtain ⟨ka, kc, rfl⟩ := hkin.form
 obtain ⟨dv, hdv, hdin⟩ := h.ker.draw
 obtain ⟨da, dc, rfl⟩ := hdin.form
 have c0 := h.ker.c0
 have hkl := h.ker.klt
 have E1 := hide e1
 have E2 := hide e2
 have E3 := hide e3
 have E4 := hide e4
 have E5 := hide e5
 have E6 := hide e6
 have E7 := hide e7
 have g3 := readF_le 0 1000000000000 (by omega) l2 f2
 have g4 := readF_le 1 1000000000 (by omega) l3 f3
 have g5 := readF_le 0 draws.length (by omega) l4 f4
 rw [e3] at g3
 rw [e4] at g4
 rw [e5] at g5
 simp only at g3 g4 g5
 clear h hkin hdin e1 e2 e3 e4 e5 e6 e7
 go_enter Tryz.func65, Tryz.ntmps65
 go_wp2_with fail
 go_quiet (fail)
 go_wp2_with fail
 have H := hide (H.out.fresh (below_drewN (Below.refl _ _) nq))
 generalize w.drewN nq = W0 at H ⊢
 refine (rNum_any rb g l false _ _ W0 H.out.rd).mono ?_
 rintro e w1 ⟨rfl, ho1, hr1⟩
 rw [E1.out] at hr1 ⊢
 simp only at hr1 ⊢
 have H1 := hide (H.out.read ho1 hr1)
 clear ho1 hr1
 go_wp2_with fail
 refine (rNum_any rb g l1 f1 _ _ w1 H1.out.rd).mono ?_
 rintro e w2 ⟨rfl, ho2, hr2⟩
 rw [E2.out] at hr2 ⊢
 simp only at hr2 ⊢
 have H2 := hide (H1.out.read ho2 hr2)
 clear ho2 hr2
 go_wp2_with fail
 refine (rNum_any rb g l2 f2 _ _ w2 H2.out.rd).mono ?_
 rintro e w3 ⟨rfl, ho3, hr3⟩
 rw [E3.out] at hr3 ⊢
 simp only at hr3 ⊢
 have H3 := hide (H2.out.read ho3 hr3)
 have k4 := H3.out.ker.c4
 have z4 := (H3.out.ker.room 4 (by omega)).2
 clear ho3 hr3
 go_wp2_with fail
 have H3 := hide (H3.out.set 4 _ (H3.out.ker.setClock v3))
 generalize w3.setCell ⟨kb, 4, none⟩ (.int .i64 v3) = W3 at H3 ⊢
 clear k4 z4
 refine (rNum_any rb g l3 f3 _ _ W3 H3.out.rd).mono ?_
 rintro e w4 ⟨rfl, ho4, hr4⟩
 rw [E4.out] at hr4 ⊢
 simp only at hr4 ⊢
 have H4 := hide (H3.out.read ho4 hr4)
 have k5 := H4.out.ker.c5
 have z5 := (H4.out.ker.room 5 (by omega)).2
 have H4s := hide (H4.out.set 5 _ (H4.out.ker.setNext v4))
 obtain ⟨dv4, hdv4, hdin4⟩ := H4s.out.ker.draw
 obtain ⟨da4, dc4, rfl⟩ := hdin4.form
 clear ho4 hr4 hdin4
 go_wp2_with fail
 generalize w4.setCell ⟨kb, 5, none⟩ (.int .i64 v4) = W4 at H4s ⊢
 clear k5 z5 hdv4 H4
 obtain ⟨T, rfl⟩ := Int.eq_ofNat_of_zero_le (show 0 ≤ v5 by omega)
 refine (rNum_any rb g l4 f4 _ _ W4 H4s.out.rd).mono ?_
 rintro e w5 ⟨rfl, ho5, hr5⟩
 rw [E5.out] at hr5 ⊢
 simp only at hr5 ⊢
 have H5 := hide (H4s.out.read ho5 hr5)
 have k6 := H5.out.ker.c6
 have z6 := (H5.out.ker.room 6 (by omega)).2
 have H5s := hide (H5.out.set 6 _ (H5.out.ker.setTaken T))
 clear ho5 hr5
 go_wp2_with fail
 generalize w5.setCell ⟨kb, 6, none⟩ (.int .i64 T) = W5 at H5s ⊢
 clear k6 z6 H5
 have HI5 : Hid (LdR R base w W5 kb qb mb rb g ov0 ov0 (E : Int) ks draws ⟨T, v3, v4, s.regs, []⟩ l5 f5) := by
  have := H5s.out
  rw [← hq]
  exact this
 go_loopg [53] 12 (fun gf s53 wx => ∃ (i : Nat) (rg' : Nat → Int) (li : List Int) (fi : Bool), s53 = .int .i64 i ∧ E - i + 1 ≤ gf ∧ i ≤ E ∧ Hid (LdR R base w wx kb qb mb rb g ov0 ov0 (E : Int) ks draws ⟨T, v3, v4, rg', []⟩ li fi ∧ regRF (E * 4 - i * 4) rg' (i * 4) li fi = (rg, l6, f6)))
 case atStart => exact ⟨0, s.regs, l5, f5, rfl, by omega, by omega, HI5.out, by simpa using E6.out⟩
 case round =>
  rename World => wo
  obtain ⟨i, rgi, li, fi, rfl, hgf, hi, hI⟩ := hrel
  by_cases hlt : i < E
  ·have d1 : decide ((i : Int) < (E : Int)) = true := by simp; omega
   have hw : IntKind.i64.wrap ((i : Int) + 1) = (i : Int) + 1 := by rw [IntKind.wrap_i64]; omega
   have hi8 : (i : Int) < 8 := by omega
   go_wp2_with fail
   go_loopg [62] 7 (fun gf s62 wx => ∃ (j : Nat) (rg' : Nat → Int) (lj : List Int) (fj : Bool), s62 = .int .i64 j ∧ 4 - j + 1 ≤ gf ∧ j ≤ 4 ∧ Hid (LdR R base w wx kb qb mb rb g ov0 ov0 (E : Int) ks draws ⟨T, v3, v4, rg', []⟩ lj fj ∧ regRF (E * 4 - (i * 4 + j)) rg' (i * 4 + j) lj fj = (rg, l6, f6)))
   case atStart => exact ⟨0, rgi, li, fi, rfl, by omega, by omega, hI.out⟩
   case round =>
    obtain ⟨j, rgj, lj, fj, rfl, hgf2, hj, hJ⟩ := hrel
    by_cases hj4 : j < 4
    ·have d2 : decide ((j : Int) < 4) = true := by simp; omega
     have hj4' : (j : Int) < 4 := by omega
     have hwj : IntKind.i64.wrap ((j : Int) + 1) = (j : Int) + 1 := by rw [IntKind.wrap_i64]; omega
     have hres := hJ.out.2
     rw [show E * 4 - (i * 4 + j) = (E * 4 - (i * 4 + (j + 1))) + 1 by omega, regRF] at hres
     have Hres := hide hres
     have HX := hide (rSgn_any rb g lj fj wr.drew (hJ.out.1.rd.only (Only.new (S := fun _ => False) (Below.refl _ _).drew) (by simp) (by simp)))
     have HJ0 := hide (hJ.out.1.fresh (Below.refl _ _).drew)
     clear hres
     go_wp2_with fail
     go_region_held3 (fun _ => True)
      (exact trivial)
      (first | (go_at_call 105; refine HX.out.mono ?_; rintro e' w6 ⟨rfl, ho6, hr6⟩; (have HL6 := hide (HJ0.out.read ho6 hr6)); (have r0 := HL6.out.ker.regs (i * 4 + j) (by omega)); (have rf := (HL6.out.ker.room (7 + (i * 4 + j)) (by omega)).2); rw [← Nat.add_assoc] at r0 rf))
     have hk6 := HL6.out.ker.setReg (i := i * 4 + j) (by omega) (readS 1000000000 lj fj).1
     have HL6s := hide (HL6.out.set _ _ hk6)
     rw [← Nat.add_assoc] at HL6s
     clear hk6 ho6 hr6 r0 rf HX
     go_wp2_with fail
     go_roundg (4 - (j + 1) + 1)
     case measure => omega
     case rel => exact ⟨j + 1, _, _, _, by go_num, Nat.le_refl _, by omega, HL6s.out, Hres.out⟩
    ·have d2 : decide ((j : Int) < 4) = false := by simp; omega
     obtain rfl : j = 4 := by omega
     go_wp2_with fail
     go_roundg (E - (i + 1) + 1)
     case measure => omega
     case rel => exact ⟨i + 1, rgj, lj, fj, by go_num, Nat.le_refl _, by omega, hJ.out.1, by rw [show (i + 1) * 4 = i * 4 + 4 by omega]; exact hJ.out.2⟩
  ·have d1 : decide ((i : Int) < (E : Int)) = false := by simp; omega
   have hres := hI.out.2
   rw [show E * 4 - i * 4 = 0 by omega, regRF] at hres
   simp only [Prod.mk.injEq] at hres
   obtain ⟨rfl, rfl, rfl⟩ := hres
   have HI := hide hI.out.1
   go_wp2_with fail
   refine (rQueue_any kb qb mb rb g ov0 ov0 (E : Int) ks draws _ li fi w wo HI.out (by omega) hk rfl (by simp only; omega) (by simp only; omega)).mono ?_
   rintro e w7 ⟨rfl, ov7, hL7⟩
   simp only at hL7 ⊢
   rw [E7.out] at hL7 ⊢
   simp only at hL7 ⊢
   have HL7 := hide hL7
   clear hL7
   rcases ok with _ | _
   ·go_wp2_with fail
    go_ret
    exact ⟨by simp, ov7, by simpa using HL7.out⟩
   ·go_wp2_with fail
    refine (rEnd_any rb g l7 f7 w7 HL7.out.rd).mono ?_
    rintro e w8 ⟨rfl, hb8⟩
    have HL8 := hide (HL7.out.fresh hb8)
    clear hb8
    go_wp2_with fail
    go_ret
    exact ⟨by simp, ov7, by simpa using HL8.out⟩
theorem numF_ne : ∀ (k : Nat) (n : Int), numF k n ≠ []
 | 0, n => by simp [numF]
 | k + 1, n => by rw [numF]; split <;> simp
theorem readF_numB {low high n : Int} (h : low ≤ n ∧ n ≤ high) (hn : 0 ≤ n ∧ n ≤ 9223372036854775807) (rest : List Int) : readF low high (numB n ++ rest) false = (n, rest, false) := by
 unfold readF
 rw [numR_numB n rest hn]
 have hl : (numB n).length ≠ 0 := by intro hc; exact numF_ne 9 n (List.eq_nil_of_length_eq_zero hc)
 rw [if_neg]
 ·simp
 ·rintro (h' | h' | h' | h')
  ·cases h'
  ·exact hl h'
  ·simp only at h'; omega
  ·simp only at h'; omega
theorem readS_sgnB {n : Int} (h : -1000000000 ≤ n ∧ n ≤ 1000000000) (rest : List Int) : readS 1000000000 (sgnB n ++ rest) false = (n, rest, false) := by
 have hs : 0 ≤ sgnI n ∧ sgnI n ≤ 2000000000 := by unfold sgnI; split <;> omega
 unfold readS sgnB
 rw [readF_numB (by omega) (by omega)]
 have : unsI (sgnI n) = n := by
  unfold unsI sgnI
  by_cases h0 : n < 0
  ·rw [if_pos h0, if_pos (by omega)]; omega
  ·rw [if_neg h0, if_neg (by omega)]; omega
 rw [this]
theorem regRF_regB (g : Nat → Int) (hg : ∀ j, -1000000000 ≤ g j ∧ g j ≤ 1000000000) (rest : List Int) : ∀ (n : Nat) (f : Nat → Int) (j : Nat), regRF n f j ((List.range' j n).flatMap (fun k => sgnB (g k)) ++ rest) false = (fun k => if j ≤ k ∧ k < j + n then g k else f k, rest, false)
 | 0, f, j => by
  simp [regRF]
  funext k
  rw [if_neg (by omega)]
 | n + 1, f, j => by
  rw [List.range'_succ, List.flatMap_cons, List.append_assoc, regRF, readS_sgnB (hg j)]
  simp only
  rw [regRF_regB g hg rest n _ (j + 1)]
  refine Prod.ext ?_ rfl
  funext k
  simp only [putR]
  by_cases hk : k = j
  ·subst hk; rw [if_neg (by omega), if_pos rfl, if_pos (by omega)]
  ·by_cases hr : j + 1 ≤ k ∧ k < j + 1 + n
   ·rw [if_pos hr, if_pos (by omega)]
   ·rw [if_neg hr, if_neg hk, if_neg (by omega)]
theorem insF_last : ∀ (q : List Ev) (e : Ev), (∀ x ∈ q, aheadF x e = true) → insF e q = q ++ [e]
 | [], e, _ => by simp [insF, posF]
 | x :: q, e, h => by
  rw [insF_cons, if_pos (h x (List.mem_cons_self ..)), insF_last q e (fun y hy => h y (List.mem_cons_of_mem _ hy))]
  rfl
structure EvOk (ents : Int) (nk : Nat) (next : Int) (e : Ev) : Prop where
 time : 0 ≤ e.time ∧ e.time ≤ 1000000000000
 num : 1 ≤ e.number ∧ e.number < next
 kind : 0 ≤ e.kind ∧ e.kind < nk
 ent : 0 ≤ e.entity ∧ e.entity < ents
theorem evRF_evB {ents : Int} {nk : Nat} {next t an : Int} {e : Ev} (h : EvOk ents nk next e) (he : ents ≤ 8) (hk : nk ≤ 8) (hn : next ≤ 1000000000) (ht : 0 ≤ t ∧ t ≤ e.time) (ha : 0 ≤ an) (ho : e.time = t → an < e.number) (rest : List Int) :
  evRF ents nk next t an (numB (e.time - t) ++ (numB e.number ++ (numB e.kind ++ (numB e.entity ++ rest)))) false = (e, rest, false) := by
 obtain ⟨h1, h2, h3, h4⟩ := h
 unfold evRF
 rw [readF_numB (by omega) (by omega)]
 simp only
 have hl : lessF (e.time - t) an ≤ e.number := by unfold lessF; split <;> omega
 rw [readF_numB (by omega) (by omega)]
 simp only
 rw [readF_numB (by omega) (by omega)]
 simp only
 rw [readF_numB (by omega) (by omega)]
 simp only
 refine Prod.ext ?_ rfl
 simp only
 rw [show t + (e.time - t) = e.time by omega]
theorem queRF_evB {ents : Int} {nk : Nat} {next : Int} (he : ents ≤ 8) (hk : nk ≤ 8) (hn : next ≤ 1000000000) (rest : List Int) : ∀ (q q0 : List Ev) (t an : Int), Sorted (q0 ++ q) → Distinct (q0 ++ q) → (∀ e ∈ q, EvOk ents nk next e) → 0 ≤ t → 0 ≤ an → (∀ e ∈ q, t ≤ e.time ∧ (e.time = t → an < e.number)) →
  queRF ents nk next q.length t an q0 (evB t q ++ rest) false = (true, q0 ++ q, rest, false)
 | [], q0, t, an, _, _, _, _, _, _ => by simp [queRF, evB]
 | e :: q, q0, t, an, hs, hd, hok, ht, ha, ho => by
  have he1 := hok e (List.mem_cons_self ..)
  have ho1 := ho e (List.mem_cons_self ..)
  have hev := evRF_evB (t := t) (an := an) he1 he hk hn ⟨ht, ho1.1⟩ ha ho1.2 (evB e.time q ++ rest)
  have hsp := List.pairwise_append.1 hs
  have hdp := List.pairwise_append.1 hd
  have hh : hasF e.number q0 = false := by
   rcases hx : hasF e.number q0 with _ | _
   ·rfl
   ·obtain ⟨x, hx1, hx2⟩ := hasF_true hx
    exact absurd hx2 (hdp.2.2 x hx1 e (List.mem_cons_self ..))
  have hins : insF e q0 = q0 ++ [e] := insF_last q0 e (fun x hx => hsp.2.2 x hx e (List.mem_cons_self ..))
  simp only [List.length_cons, queRF, evB, List.append_assoc]
  rw [hev]
  simp only
  rw [hh, if_neg (by simp), hins]
  have := queRF_evB he hk hn rest q (q0 ++ [e]) e.time e.number (by simpa using hs) (by simpa using hd) (fun x hx => hok x (List.mem_cons_of_mem _ hx)) (by omega) (by have := he1.num; omega) (fun x hx => by
   have h2 := (List.pairwise_cons.1 hsp.2.1).1 x hx
   simp only [aheadF, Bool.or_eq_true, decide_eq_true_eq, Bool.and_eq_true] at h2
   omega)
  rw [this]
  simp
theorem saveF_length (ents : Int) (nk : Nat) (s : KS) : (saveF ents nk s).length = (bodyF ents nk s).length + 8 := by
 simp only [saveF, headF, List.length_append, sumB_len, List.length_cons, List.length_nil]
 omega
theorem openE_zero {hd l : List Int} (h : openE hd l = 0) : 8 ≤ l.length ∧ l.take 4 = hd ∧ l.drop (l.length - 4) = sumB (l.take (l.length - 4)) := by
 unfold openE at h
 by_cases a1 : l.length < 8 ∨ l.take 4 ≠ hd
 ·rw [if_pos a1] at h; simp at h
 rw [if_neg a1] at h
 by_cases a2 : l.drop (l.length - 4) ≠ sumB (l.take (l.length - 4))
 ·rw [if_pos a2] at h; simp at h
 simp only [not_or, Nat.not_lt, ne_eq, Decidable.not_not] at a1 a2
 exact ⟨a1.1, a1.2, a2⟩
theorem readF_fl (low high : Int) (l : List Int) : (readF low high l true).2.2 = true := by simp [readF]
theorem readS_flt (l : List Int) : (readS 1000000000 l true).2.2 = true := by simp [readS, readF]
theorem regRF_flt : ∀ (n : Nat) (g : Nat → Int) (j : Nat) (l : List Int), (regRF n g j l true).2.2 = true
 | 0, g, j, l => rfl
 | n + 1, g, j, l => by
  rw [regRF]
  rw [readS_flt]
  exact regRF_flt n _ _ _
theorem evRF_flt (ents : Int) (nk : Nat) (next t an : Int) (l : List Int) : (evRF ents nk next t an l true).2.2 = true := by
 simp only [evRF, readF_fl]
theorem queRF_flt (ents : Int) (nk : Nat) (next : Int) : ∀ (n : Nat) (t an : Int) (q : List Ev) (l : List Int), (queRF ents nk next n t an q l true).2.2.2 = true
 | 0, t, an, q, l => rfl
 | n + 1, t, an, q, l => by
  rw [queRF]
  split
  ·exact evRF_flt ents nk next t an l
  ·rw [evRF_flt]
   exact queRF_flt ents nk next n _ _ _ _
def kerRF (E nk dl : Nat) (l : List Int) : Bool × KS × List Int × Bool :=
 let a1 := readF E E l false
 let a2 := readF nk nk a1.2.1 a1.2.2
 let a3 := readF 0 1000000000000 a2.2.1 a2.2.2
 let a4 := readF 1 1000000000 a3.2.1 a3.2.2
 let a5 := readF 0 dl a4.2.1 a4.2.2
 let r := regRF (E * 4) ks0.regs 0 a5.2.1 a5.2.2
 let q := queueRF E nk a4.1 a3.1 [] r.2.1 r.2.2
 (q.1, ⟨a5.1.toNat, a3.1, a4.1, r.1, q.2.1⟩, q.2.2.1, q.2.2.2)
def kerOk (E nk dl : Nat) (l : List Int) : Bool := (kerRF E nk dl l).1 && (!(kerRF E nk dl l).2.2.2 && (kerRF E nk dl l).2.2.1.isEmpty)
structure RecVar (w : World) (V : Nat) (e : Ev) (sv : Value) : Prop where
 c0 : w.cell? ⟨V, 0, none⟩ = some (.int .i64 e.number)
 c1 : w.cell? ⟨V, 1, none⟩ = some (.int .i64 e.time)
 c2 : w.cell? ⟨V, 2, none⟩ = some (.int .i64 e.kind)
 c3 : w.cell? ⟨V, 3, none⟩ = some (.int .i64 e.entity)
 c4 : w.cell? ⟨V, 4, none⟩ = some sv
theorem RecVar.stay {a b : World} {wb V : Nat} {lv lv1 sv : Value} {e : Ev} (h : RecVar a V e sv) (k : Stay a wb lv b lv1) (hap : Apart a wb lv V) : RecVar b V e sv :=
 ⟨k.at hap h.c0, k.at hap h.c1, k.at hap h.c2, k.at hap h.c3, k.at hap h.c4⟩
theorem RecVar.below {a b : World} {V : Nat} {sv : Value} {e : Ev} (h : RecVar a V e sv) (k : Below a.heap.size a b) : RecVar b V e sv :=
 ⟨below_at k h.c0 (lt_of_cell h.c0), below_at k h.c1 (lt_of_cell h.c1), below_at k h.c2 (lt_of_cell h.c2), below_at k h.c3 (lt_of_cell h.c3), below_at k h.c4 (lt_of_cell h.c4)⟩
theorem RecVar.new (w : World) (e : Ev) (sv : Value) (T : TypeId) : RecVar (w.alloc (.cells #[.int .i64 e.number, .int .i64 e.time, .int .i64 e.kind, .int .i64 e.entity, sv] T)) w.heap.size e sv := by
 constructor <;> simp [go_sem]
structure WrV (w wr : World) (wb : Nat) (lv : Value) (l : List Int) (V : Nat) (e : Ev) (sv : Value) : Prop where
 s : SvR w wr wb lv l
 ap : Apart wr wb lv V
 var : RecVar wr V e sv
theorem WrV.num {w wr : World} {wb : Nat} {lv : Value} {l : List Int} {V : Nat} {e : Ev} {sv : Value} (n : Int) (h : WrV w wr wb lv l V e sv) (hl : l.length ≤ 1000000) (hn : 0 ≤ n ∧ n ≤ 9223372036854775807) :
  Calls Tryz.prog 110 #[.pointer (some ⟨wb, 0, none⟩), .int .i64 n] wr fun ed w' => ed = .returned (.tuple #[]) ∧ ∃ lv', WrV w w' wb lv' (l ++ numB n) V e sv :=
 (sNum n h.s hl hn).mono (by rintro e w' ⟨rfl, lv', h1, h2⟩; exact ⟨rfl, lv', h1, (h2 _ h.ap).1, h.var.stay h2 h.ap⟩)
structure RdV (w wr : World) (rb g C V : Nat) (l : List Int) (f : Bool) (e : Ev) (sv : Value) (ts : List Int) : Prop where
 only : Only (· = rb) w wr
 rd : RdP wr rb g l f
 var : RecVar wr V e sv
 room : Room wr V 5
 croom : Room wr C 5
 row : wr.ownsRow (V + 1) 3 1 sv ts.length (ints ts)
 rlt : rb < w.heap.size
 glt : g < w.heap.size
 cge : w.heap.size ≤ C
 vge : C < V
section
variable {w wr w' : World} {rb g C V : Nat} {l l' : List Int} {f f' : Bool} {e e' : Ev} {sv : Value} {ts : List Int}
theorem RdV.read (h : RdV w wr rb g C V l f e sv ts) (ho : Only (· = rb) wr w') (hr : RdP w' rb g l' f') : RdV w w' rb g C V l' f' e sv ts := by
 have h1 := h.rlt
 have h2 := h.cge
 have h3 := h.vge
 refine ⟨h.only.trans ho, hr, ⟨ho.at h.var.c0 (by omega), ho.at h.var.c1 (by omega), ho.at h.var.c2 (by omega), ho.at h.var.c3 (by omega), ho.at h.var.c4 (by omega)⟩, h.room.only ho (by omega), h.croom.only ho (by omega), owns_keep h.row ho ?_, h.rlt, h.glt, h.cge, h.vge⟩
 intro b hb hc
 have := (h.row.lt b hb.symm).1
 omega
theorem RdV.set (h : RdV w wr rb g C V l f e sv ts) (j : Nat) (v : Value) (hv : RecVar (wr.setCell ⟨V, j, none⟩ v) V e' sv) : RdV w (wr.setCell ⟨V, j, none⟩ v) rb g C V l f e' sv ts := by
 have h1 := h.rlt
 have h2 := h.cge
 have h3 := h.vge
 have h4 := h.glt
 have ho : Only (· = V) wr (wr.setCell ⟨V, j, none⟩ v) := (Only.refl (· = V) wr).setCell (p := ⟨V, j, none⟩) (show V = V from rfl) _
 refine ⟨h.only.chain ho (fun i hi hc => by omega), h.rd.only ho (by omega) (by omega), hv, h.room.setCell _ _, h.croom.setCell _ _, owns_keep h.row ho ?_, h.rlt, h.glt, h.cge, h.vge⟩
 intro b hb hc
 have := (h.row.lt b hb.symm).1
 omega
theorem RdV.set0 (h : RdV w wr rb g C V l f e sv ts) (n : Int) : RdV w (wr.setCell ⟨V, 0, none⟩ (.int .i64 n)) rb g C V l f ⟨e.time, n, e.kind, e.entity⟩ sv ts :=
 h.set 0 _ ⟨World.cell?_setCell_same' _ _ _ (h.room 0 (by omega)).1, (World.cell?_setCell_other _ _ _ _ (by simp)).trans h.var.c1, (World.cell?_setCell_other _ _ _ _ (by simp)).trans h.var.c2, (World.cell?_setCell_other _ _ _ _ (by simp)).trans h.var.c3, (World.cell?_setCell_other _ _ _ _ (by simp)).trans h.var.c4⟩
theorem RdV.set2 (h : RdV w wr rb g C V l f e sv ts) (n : Int) : RdV w (wr.setCell ⟨V, 2, none⟩ (.int .i64 n)) rb g C V l f ⟨e.time, e.number, n, e.entity⟩ sv ts :=
 h.set 2 _ ⟨(World.cell?_setCell_other _ _ _ _ (by simp)).trans h.var.c0, (World.cell?_setCell_other _ _ _ _ (by simp)).trans h.var.c1, World.cell?_setCell_same' _ _ _ (h.room 2 (by omega)).1, (World.cell?_setCell_other _ _ _ _ (by simp)).trans h.var.c3, (World.cell?_setCell_other _ _ _ _ (by simp)).trans h.var.c4⟩
theorem RdV.set3 (h : RdV w wr rb g C V l f e sv ts) (n : Int) : RdV w (wr.setCell ⟨V, 3, none⟩ (.int .i64 n)) rb g C V l f ⟨e.time, e.number, e.kind, n⟩ sv ts :=
 h.set 3 _ ⟨(World.cell?_setCell_other _ _ _ _ (by simp)).trans h.var.c0, (World.cell?_setCell_other _ _ _ _ (by simp)).trans h.var.c1, (World.cell?_setCell_other _ _ _ _ (by simp)).trans h.var.c2, World.cell?_setCell_same' _ _ _ (h.room 3 (by omega)).1, (World.cell?_setCell_other _ _ _ _ (by simp)).trans h.var.c4⟩
theorem RdV.drew (h : RdV w wr rb g C V l f e sv ts) : RdV w wr.drew rb g C V l f e sv ts :=
 h.read (Only.new (Below.refl _ _).drew) (h.rd.only (Only.new (S := fun _ => False) (Below.refl _ _).drew) (by simp) (by simp))
end
structure BytesV (w : World) (sa : Option Addr) (cap : Nat) (l : List Int) : Prop where
 len : l.length ≤ 1000000000000000
 cap_ : l.length ≤ cap
 bytes : ∀ b ∈ l, 0 ≤ b ∧ b < 256
 row : 8 ≤ l.length → ∃ g off, sa = some ⟨g, off, none⟩ ∧ RowAt w g off (byteV l) ∧ g < w.heap.size
theorem BytesV.below {w w' : World} {sa : Option Addr} {cap : Nat} {l : List Int} (h : BytesV w sa cap l) (hb : Below w.heap.size w w') : BytesV w' sa cap l := by
 refine ⟨h.len, h.cap_, h.bytes, fun h8 => ?_⟩
 obtain ⟨g, off, rfl, h1, h2⟩ := h.row h8
 exact ⟨g, off, rfl, h1.below hb h2, Nat.lt_of_lt_of_le h2 hb.size⟩
theorem BytesV.glt {w : World} {g off cap : Nat} {l : List Int} (h : BytesV w (some ⟨g, off, none⟩) cap l) (h8 : 8 ≤ l.length) : g < w.heap.size := by
 obtain ⟨g', off', e, _, h2⟩ := h.row h8
 simp only [Option.some.injEq, Addr.mk.injEq] at e
 omega
theorem openAny (sa : Option Addr) (cap : Nat) (hd l : List Int) (w : World) (h : BytesV w sa cap l) (s : ByteArray) (hs : s = strW hd) (hhl : hd.length = 4) (hhb : ∀ b ∈ hd, 0 ≤ b ∧ b < 256) :
  Calls Tryz.prog 64 #[.string s, .slice sa l.length cap] w fun e w' => ∃ p, e = .returned (.tuple #[.pointer p, .int .i64 (openE hd l)]) ∧ Below w.heap.size w w' ∧ (openE hd l ≠ 0 → p = none) ∧ (openE hd l = 0 → ∃ rb g, p = some ⟨rb, 0, none⟩ ∧ w.heap.size ≤ rb ∧ (∃ off, sa = some ⟨g, off, none⟩) ∧ RdP w' rb g (openL l) false) := by
 by_cases h8 : l.length < 8
 ·have hE : openE hd l = 4 := by unfold openE; rw [if_pos (.inl h8)]
  rw [hE]
  refine (open_short sa l.length cap s w (by rw [hs]; simp [strW, ByteArray.size, hhl]) h8).mono ?_
  rintro e w' ⟨rfl, hb⟩
  exact ⟨none, rfl, hb, fun _ => rfl, fun h => by cases h⟩
 ·obtain ⟨g, off, rfl, h1, h2⟩ := h.row (by omega)
  refine (open_any g off cap hd l w h1 h.cap_ h.bytes h.len s hs hhl hhb h2).mono ?_
  rintro e w' ⟨p, rfl, hb, h3, h4⟩
  refine ⟨p, rfl, hb, h3, fun h0 => ?_⟩
  obtain ⟨rb, h5, h6, h7⟩ := h4 h0
  exact ⟨rb, g, h5, h6, ⟨off, rfl⟩, h7⟩
end Go.Proofs.YtndlmgocldckfaaGreat
