import Derived.Test.YtndlmgocldckfaaGreatG12
import Derived.Test.YtndlmgocldckfaaGreatG15
import Derived.Test.YtndlmgocldckfaaGreatG16
import Derived.Deep.LoopGhost
import Derived.Test.YtndlmgocldckfaaGreatG08
import Derived.Test.YtndlmgocldckfaaGreatG03
import Derived.Test.YtndlmgocldckfaaGreatG07
import Derived.BigRegion
import Derived.BigQuiet
import Derived.Deep.RegionHeld3
import Derived.Deep.RegionLaw
import Derived.Test.YtndlmgocldckfaaGreatG14
namespace Go.Proofs.YtndlmgocldckfaaGreat
open Go.RowKit
set_option linter.unusedVariables false
set_option linter.unusedSimpArgs false
set_option maxRecDepth 100000
set_option maxHeartbeats 4000000
theorem tmr_str : (⟨#[84, 77, 82]⟩ : ByteArray) = strW [84, 77, 82] := rfl
def encS (rs : List Rec) : List Int := if areF rs then encF rs else []
def encN (rs : List Rec) : Int := if areF rs then 0 else 1
def encP (rs : List Rec) : List Int := [84, 77, 82] ++ numB 1 ++ numB rs.length
theorem encP_eq (rs : List Rec) : encP rs ++ recB 0 rs = encH rs := by
 simp [encP, encH, encT, show numB 1 = [1] from rfl]
theorem rencode_any (a : Option Addr) (cap : Nat) (rs : List Rec) (w : World) (h : RecIn w a rs) :
  Calls Tryz.prog 39 #[.slice a rs.length cap] w fun e w' => e = .returned (.tuple #[.string (strW (encS rs)), .int .i64 (encN rs)]) ∧ Below w.heap.size w w' := by
 by_cases hl : rs.length ≤ 1000
 rotate_left
 ·have ha : areF rs = false := by simp [areF, hl]
  have d1 : decide ((1000 : Int) < (rs.length : Int)) = true := by simp; omega
  have d2 : decide (1000 < rs.length) = true := by simp; omega
  have e1 : encS rs = [] := by simp [encS, ha]
  have e2 : encN rs = 1 := by simp [encN, ha]
  rw [e1, e2]
  go_enter Tryz.func39, Tryz.ntmps39
  go_wp2_with fail
  go_ret2
  exact ⟨rfl, Below.refl _ _⟩
 ·have d1 : decide ((1000 : Int) < (rs.length : Int)) = false := by simp; omega
  have d2 : decide (1000 < rs.length) = false := by simp; omega
  have H := hide h
  have Hl := hide hl
  obtain ⟨p1, e1⟩ : ∃ p1, p1 = [84, 77, 82] ++ numB 1 := ⟨_, rfl⟩
  obtain ⟨p2, e2⟩ : ∃ p2, p2 = p1 ++ numB rs.length := ⟨_, rfl⟩
  have l1 : p1.length ≤ 13 := by rw [e1, List.length_append]; have := numB_len 1; simp; omega
  have l2 : p2.length ≤ 23 := by rw [e2, List.length_append]; have := numB_len rs.length; omega
  have a1 : ∀ W, (Op.stringOp .add ⟨#[84, 77, 82]⟩ (strW (numB 1))).run Tryz.prog W = .ok (.string (strW p1)) W := by intro W; rw [e1, tmr_str]; exact strAdd _ _ W (by have := numB_len 1; simp; omega)
  have a2 : ∀ W, (Op.stringOp .add (strW p1) (strW (numB (rs.length : Int)))).run Tryz.prog W = .ok (.string (strW p2)) W := by intro W; rw [e2]; exact strAdd _ _ W (by have := numB_len rs.length; omega)
  have HP : Hid (p2 = encP rs) := by show _ = _; rw [e2, e1]; rfl
  clear h e1 e2
  go_enter Tryz.func39, Tryz.ntmps39
  go_wp2_with fail
  refine (rnumber_any 1 w (by omega)).mono ?_
  rintro e w1 ⟨rfl, hb1⟩
  go_wp2_with fail
  refine (rnumber_any rs.length w1 (by omega)).mono ?_
  rintro e w2 ⟨rfl, hb2⟩
  have HB2 : Hid (Below w.heap.size w w2) := hb1.trans (hb2.mono hb1.size)
  clear hb1 hb2
  go_wp2_with fail
  go_loopg [4, 5, 6, 7, 8, 9] (rs.length + 3) (fun g s4 s5 s6 s7 s8 s9 wr => ∃ (i : Nat) (acc : List Int) (t : Int), s4 = .string (strW acc) ∧ s5 = .int .i64 t ∧ s6 = .int .i64 i ∧ rs.length - i + 2 ≤ g ∧ i ≤ rs.length ∧ acc.length ≤ 23 + 210 * i ∧ (0 ≤ t ∧ t ≤ 1000000000000) ∧ Hid (t = recT 0 (rs.take i) ∧ acc = encP rs ++ recB 0 (rs.take i) ∧ recsOkF 0 (rs.take i) = true ∧ Below w.heap.size w wr))
  case atStart => exact ⟨0, p2, 0, rfl, rfl, rfl, by omega, by omega, by omega, by omega, by simp [recT], by rw [HP.out]; simp [recB], by simp [recsOkF], HB2.out⟩
  case round =>
   obtain ⟨i, acc, t, rfl, rfl, rfl, hg, hi, hal, ht, hI⟩ := hrel
   by_cases hlt : i < rs.length
   ·have hii : (i : Int) < (rs.length : Int) := by omega
    have dl : decide ((i : Int) < (rs.length : Int)) = true := by simp; omega
    have hw : IntKind.i64.wrap ((i : Int) + 1) = (i : Int) + 1 := by rw [IntKind.wrap_i64]; omega
    obtain ⟨g1, o1, sa, sc, rfl, c0, c1, c2, c3, c4, ct⟩ := (H.out.below (hI.out.2.2.2.mono (Nat.le_refl _))) i rs[i] (List.getElem?_eq_getElem hlt)
    have htk : rs.take (i + 1) = rs.take i ++ [rs[i]] := List.take_succ_eq_append_getElem hlt
    have HOk : Hid (recsOkF 0 (rs.take (i + 1)) = recOkF t rs[i]) := by show _ = _; rw [htk, recsOkF_snoc, hI.out.2.2.1, ← hI.out.1]; simp
    have HT : Hid (recT 0 (rs.take (i + 1)) = rs[i].e.time) := by show _ = _; rw [htk, recT_snoc]
    have HBB : Hid (recB 0 (rs.take (i + 1)) = recB 0 (rs.take i) ++ recOne t rs[i]) := by show _ = _; rw [htk, recB_snoc, ← hI.out.1]
    clear htk
    generalize rs[i] = x at c0 c1 c2 c3 c4 ct HOk HT HBB
    obtain ⟨⟨xt, xn, xk, xe⟩, xl⟩ := x
    simp only at c0 c1 c2 c3 c4 ct HT
    obtain ⟨W1, hW1⟩ : ∃ W1, W1 = wr.alloc (.cells #[.int .i64 xn, .int .i64 xt, .int .i64 xk, .int .i64 xe, .slice sa xl.length sc] 46) := ⟨_, rfl⟩
    have hbA : Below wr.heap.size wr W1 := by rw [hW1]; exact (Below.refl _ _).alloc (Nat.le_refl _) _
    have hzA : W1.heap.size = wr.heap.size + 1 := by rw [hW1]; simp
    have y0 : W1.cell? ⟨wr.heap.size, 0, none⟩ = some (.int .i64 xn) := by rw [hW1]; simp [go_sem]
    have y1 : W1.cell? ⟨wr.heap.size, 1, none⟩ = some (.int .i64 xt) := by rw [hW1]; simp [go_sem]
    have y2 : W1.cell? ⟨wr.heap.size, 2, none⟩ = some (.int .i64 xk) := by rw [hW1]; simp [go_sem]
    have y3 : W1.cell? ⟨wr.heap.size, 3, none⟩ = some (.int .i64 xe) := by rw [hW1]; simp [go_sem]
    have y4 : W1.cell? ⟨wr.heap.size, 4, none⟩ = some (.slice sa xl.length sc) := by rw [hW1]; simp [go_sem]
    have HW1 := hide hW1
    have HBA : Hid (Below w.heap.size w W1) := hI.out.2.2.2.trans (hbA.mono hI.out.2.2.2.size)
    have HCt := hide (ct.below hbA)
    have HR := hide (rright_any ⟨⟨xt, xn, xk, xe⟩, xl⟩ sa sc t W1 HCt.out)
    clear hW1 ct hbA
    go_wp2_with fail
    rw [← HW1.out]
    clear c0 c1 c2 c3 c4
    refine HR.out.mono ?_
    rintro e w3 ⟨rfl, hb3⟩
    have hz3 := hb3.size
    have z0 := below_at hb3 y0 (by omega)
    have z1 := below_at hb3 y1 (by omega)
    have z2 := below_at hb3 y2 (by omega)
    have z3 := below_at hb3 y3 (by omega)
    have z4 := below_at hb3 y4 (by omega)
    have HB3 : Hid (Below w.heap.size w w3) := HBA.out.trans (hb3.mono HBA.out.size)
    have HCt3 := hide (HCt.out.below hb3)
    clear hb3 y0 y1 y2 y3 y4 HR HCt HBA HW1
    rcases hq : recOkF t ⟨⟨xt, xn, xk, xe⟩, xl⟩ with _ | _
    ·have ha : areF rs = false := by
      have := recsOkF_take rs 0 (i + 1) (by rw [HOk.out, hq])
      simp [areF, this]
     have e1 : encS rs = [] := by simp [encS, ha]
     have e2 : encN rs = 1 := by simp [encN, ha]
     have E1 := hide e1
     have E2 := hide e2
     clear e1 e2
     go_wp2_with fail
     go_ret2
     exact ⟨by rw [E1.out, E2.out]; rfl, HB3.out⟩
    ·have hq2 := hq
     simp only [recOkF, valsF, inB, Bool.and_eq_true, decide_eq_true_eq, List.all_eq_true] at hq2
     obtain ⟨⟨n1, n2⟩, ⟨t1, t2⟩, ⟨k1, k2⟩, ⟨v1, v2⟩, hl16, hval⟩ := hq2
     have Hval := hide hval
     have hsub : IntKind.i64.wrap (xt - t) = xt - t := by rw [IntKind.wrap_i64]; omega
     obtain ⟨q1, e1⟩ : ∃ q1, q1 = acc ++ numB (xt - t) := ⟨_, rfl⟩
     obtain ⟨q2, e2⟩ : ∃ q2, q2 = q1 ++ numB xn := ⟨_, rfl⟩
     obtain ⟨q3, e3⟩ : ∃ q3, q3 = q2 ++ numB xk := ⟨_, rfl⟩
     obtain ⟨q4, e4⟩ : ∃ q4, q4 = q3 ++ numB xe := ⟨_, rfl⟩
     obtain ⟨q5, e5⟩ : ∃ q5, q5 = q4 ++ numB xl.length := ⟨_, rfl⟩
     have hli : i ≤ 1000 := by have := Hl.out; omega
     have m1 : q1.length ≤ 33 + 210 * i := by rw [e1, List.length_append]; have := numB_len (xt - t); omega
     have m2 : q2.length ≤ 43 + 210 * i := by rw [e2, List.length_append]; have := numB_len xn; omega
     have m3 : q3.length ≤ 53 + 210 * i := by rw [e3, List.length_append]; have := numB_len xk; omega
     have m4 : q4.length ≤ 63 + 210 * i := by rw [e4, List.length_append]; have := numB_len xe; omega
     have m5 : q5.length ≤ 73 + 210 * i := by rw [e5, List.length_append]; have := numB_len xl.length; omega
     have b1 : ∀ W, (Op.stringOp .add (strW acc) (strW (numB (xt - t)))).run Tryz.prog W = .ok (.string (strW q1)) W := by intro W; rw [e1]; exact strAdd _ _ W (by have := numB_len (xt - t); omega)
     have b2 : ∀ W, (Op.stringOp .add (strW q1) (strW (numB xn))).run Tryz.prog W = .ok (.string (strW q2)) W := by intro W; rw [e2]; exact strAdd _ _ W (by have := numB_len xn; omega)
     have b3 : ∀ W, (Op.stringOp .add (strW q2) (strW (numB xk))).run Tryz.prog W = .ok (.string (strW q3)) W := by intro W; rw [e3]; exact strAdd _ _ W (by have := numB_len xk; omega)
     have b4 : ∀ W, (Op.stringOp .add (strW q3) (strW (numB xe))).run Tryz.prog W = .ok (.string (strW q4)) W := by intro W; rw [e4]; exact strAdd _ _ W (by have := numB_len xe; omega)
     have b5 : ∀ W, (Op.stringOp .add (strW q4) (strW (numB (xl.length : Int)))).run Tryz.prog W = .ok (.string (strW q5)) W := by intro W; rw [e5]; exact strAdd _ _ W (by have := numB_len xl.length; omega)
     have HQ : Hid (q5 ++ xl.flatMap sgnB = acc ++ recOne t ⟨⟨xt, xn, xk, xe⟩, xl⟩) := by show _ = _; rw [e5, e4, e3, e2, e1]; simp [recOne]
     have hrb : wr.heap.size < w3.heap.size := by omega
     have HM : Hid (∀ W', Below w3.heap.size w3 W' → (Below w3.heap.size w3 W' ∧ W'.cell? ⟨wr.heap.size, 0, none⟩ = some (.int .i64 xn) ∧ W'.cell? ⟨wr.heap.size, 1, none⟩ = some (.int .i64 xt) ∧ W'.cell? ⟨wr.heap.size, 2, none⟩ = some (.int .i64 xk) ∧ W'.cell? ⟨wr.heap.size, 3, none⟩ = some (.int .i64 xe) ∧ W'.cell? ⟨wr.heap.size, 4, none⟩ = some (.slice sa xl.length sc))) :=
      fun W' hb => ⟨hb, below_at hb z0 hrb, below_at hb z1 hrb, below_at hb z2 hrb, below_at hb z3 hrb, below_at hb z4 hrb⟩
     clear e1 e2 e3 e4 e5 hval
     go_wp2_with fail
     go_cut [4] (fun s4 wx => s4 = .string (strW q5) ∧ Hid (Below w3.heap.size w3 wx))
     case first =>
      go_region_held3 (fun W' => Below w3.heap.size w3 W' ∧ W'.cell? ⟨wr.heap.size, 0, none⟩ = some (.int .i64 xn) ∧ W'.cell? ⟨wr.heap.size, 1, none⟩ = some (.int .i64 xt) ∧ W'.cell? ⟨wr.heap.size, 2, none⟩ = some (.int .i64 xk) ∧ W'.cell? ⟨wr.heap.size, 3, none⟩ = some (.int .i64 xe) ∧ W'.cell? ⟨wr.heap.size, 4, none⟩ = some (.slice sa xl.length sc))
       (first | exact HM.out _ (Below.refl _ _).drew | exact HM.out _ (below_held (by assumption) (by assumption)) | exact HM.out _ (below_held' (by assumption)))
       (first | (go_at_call 78; refine (rnumber_any _ _ (by omega)).mono ?_; rintro e w4 ⟨rfl, hb4⟩))
      have HB4 : Hid (Below w3.heap.size w3 w4) := held_below (by assumption)
      go_wp2_with fail
      go_meet
      exact ⟨rfl, HB4.out⟩
     case rest =>
      obtain ⟨rfl, hB⟩ := hcut
      clear b1 b2 b3 b4 b5 m1 m2 m3 m4 HM hsub
      go_wp2_with fail
      go_loopg [4, 9] (xl.length + 3) (fun g s4 s9 wy => ∃ (j : Nat) (ac : List Int), s4 = .string (strW ac) ∧ s9 = .int .i64 j ∧ xl.length - j + 2 ≤ g ∧ j ≤ xl.length ∧ ac.length ≤ 73 + 210 * i + 10 * j ∧ Hid (ac = q5 ++ (xl.take j).flatMap sgnB ∧ Below w3.heap.size w3 wy))
      case atStart => exact ⟨0, q5, rfl, rfl, by omega, by omega, by omega, by simp, hB.out⟩
      case round =>
       obtain ⟨j, ac, rfl, rfl, hgj, hj, hacl, hJ⟩ := hrel
       have k4 := below_at hJ.out.2 z4 hrb
       have k1 := below_at hJ.out.2 z1 hrb
       by_cases hjl : j < xl.length
       ·have dj : decide ((j : Int) < (xl.length : Int)) = true := by simp; omega
        have hjj : (j : Int) < (xl.length : Int) := by omega
        have hwj : IntKind.i64.wrap ((j : Int) + 1) = (j : Int) + 1 := by rw [IntKind.wrap_i64]; omega
        obtain ⟨tg, to_, rfl, tc⟩ := HCt3.out j xl[j] (List.getElem?_eq_getElem hjl)
        have tc' := below_at hJ.out.2 tc (lt_of_cell tc)
        have hv := Hval.out xl[j] (List.getElem_mem hjl)
        have HN : Hid (ac ++ sgnB xl[j] = q5 ++ (xl.take (j + 1)).flatMap sgnB) := by show _ = _; rw [hJ.out.1, List.take_succ_eq_append_getElem hjl, List.flatMap_append, List.append_assoc]; simp only [List.flatMap_cons, List.flatMap_nil, List.append_nil]
        have hsl := sgnB_len xl[j]
        generalize xl[j] = y at tc tc' hv HN hsl
        have ha : ∀ W, (Op.stringOp .add (strW ac) (strW (sgnB y))).run Tryz.prog W = .ok (.string (strW (ac ++ sgnB y))) W := fun W => strAdd _ _ W (by omega)
        have hl' : (ac ++ sgnB y).length ≤ 73 + 210 * i + 10 * (j + 1) := by rw [List.length_append]; omega
        clear tc hsl
        go_wp2_with (go_at_call 80; refine (rsigned_any _ _ hv).mono ?_; rintro e w5 ⟨rfl, hb5⟩)
        have HB5 : Hid (Below w3.heap.size w3 w5) := hJ.out.2.trans (hb5.mono hJ.out.2.size)
        go_roundg (xl.length - (j + 1) + 2)
        case measure => omega
        case rel => exact ⟨j + 1, _, rfl, by go_num, Nat.le_refl _, by omega, hl', HN.out, HB5.out⟩
       ·have dj : decide ((j : Int) < (xl.length : Int)) = false := by simp; omega
        have hjt : xl.take j = xl := List.take_of_length_le (by omega)
        have HAc : Hid (ac = encP rs ++ recB 0 (rs.take (i + 1))) := by
         show _ = _
         rw [hJ.out.1, hjt, HQ.out, HBB.out, hI.out.2.1]
         simp
        have HBy : Hid (Below w.heap.size w wr) := HB3.out.trans (hJ.out.2.mono HB3.out.size)
        have hjl' : ac.length ≤ 23 + 210 * (i + 1) := by omega
        clear hjt
        go_wp2_with fail
        go_roundg (rs.length - (i + 1) + 2)
        case measure => omega
        case rel => exact ⟨i + 1, ac, xt, rfl, rfl, by go_num, Nat.le_refl _, by omega, hjl', by omega, HT.out.symm, HAc.out, by rw [HOk.out]; exact hq, HBy.out⟩
   ·have dl : decide ((i : Int) < (rs.length : Int)) = false := by simp; omega
    have htk : rs.take i = rs := List.take_of_length_le (by omega)
    have hx := hI.out
    rw [htk] at hx
    have ha : areF rs = true := by simp [areF, Hl.out, hx.2.2.1]
    have HE : Hid (acc = encH rs) := by show _ = _; rw [hx.2.1, encP_eq]
    have hby : ∀ c ∈ acc, 0 ≤ c ∧ c < 256 := by
     rw [HE.out]
     intro c hc
     rcases List.mem_append.1 hc with hc | hc
     ·simp at hc; omega
     ·exact encT_bytes ha c hc
    have hli : i ≤ 1000 := by have := Hl.out; omega
    have HS := hide (rSum_any acc wr (by omega) hby)
    have e1 : encS rs = acc ++ sumB acc := by rw [HE.out]; simp [encS, ha, encF]
    have e2 : encN rs = 0 := by simp [encN, ha]
    have a3 : ∀ W, (Op.stringOp .add (strW acc) (strW (sumB acc))).run Tryz.prog W = .ok (.string (strW (acc ++ sumB acc))) W := fun W => strAdd _ _ W (by rw [sumB_len]; omega)
    have E1 := hide e1
    have E2 := hide e2
    clear hby hx htk e1 e2
    go_wp2_with fail
    refine HS.out.mono ?_
    rintro e w3 ⟨rfl, hb3⟩
    have HB3 : Hid (Below w.heap.size w w3) := hI.out.2.2.2.trans (hb3.mono hI.out.2.2.2.size)
    clear hb3
    go_wp2_with fail
    go_ret2
    exact ⟨by rw [E1.out, E2.out]; first | done | rfl, HB3.out⟩
structure LdR (R : Nat → Prop) (base : Nat) (w wr : World) (kb qb mb rb g : Nat) (ov0 ov : Value) (ents : Int) (ks : List (List Ins)) (draws : List Int) (s : KS) (l : List Int) (flt : Bool) : Prop where
 ker : KerP R base wr kb qb mb ov ents ks draws s
 rd : RdP wr rb g l flt
 sepr : ¬ KSet kb qb mb ov rb
 sepg : ¬ KSet kb qb mb ov g
 nr : ¬ R rb
 only : Only (fun b => KSet kb qb mb ov0 b ∨ b = rb) w wr
 moved : Moved w ov0 ov
 base : base ≤ wr.heap.size
section
variable {R : Nat → Prop} {base : Nat} {w wr w' : World} {kb qb mb rb g : Nat} {ov0 ov ov' : Value} {ents : Int} {ks : List (List Ins)} {draws : List Int} {s s' : KS} {l l' : List Int} {flt flt' : Bool}
theorem LdR.read (h : LdR R base w wr kb qb mb rb g ov0 ov ents ks draws s l flt) (ho : Only (· = rb) wr w') (hr : RdP w' rb g l' flt') : LdR R base w w' kb qb mb rb g ov0 ov ents ks draws s l' flt' := by
 have hz := ho.size
 exact ⟨h.ker.only ho (fun b hb hc => by subst hc; exact h.sepr hb) (fun b hb hc => by subst hc; exact h.nr hb), hr, h.sepr, h.sepg, h.nr, h.only.trans (ho.mono (fun k _ hk => .inr hk)), h.moved, by have := h.base; omega⟩
theorem LdR.put {q' : List Ev} (h : LdR R base w wr kb qb mb rb g ov0 ov ents ks draws s l flt) (ho : Only (QSet qb mb ov) wr w') (hq : QueP base w' qb mb ov' q') (hm : Moved wr ov ov') : LdR R base w w' kb qb mb rb g ov0 ov' ents ks draws { s with q := q' } l flt := by
 have hz := ho.size
 have hrl := h.rd.lt
 have hgl := h.rd.glt
 have hzw := h.only.size
 have keep : ∀ b, b < wr.heap.size → ¬ KSet kb qb mb ov b → ¬ KSet kb qb mb ov' b := by
  rintro b hb hn (hc | hc | hc | hc)
  ·exact hn (.inl hc)
  ·exact hn (.inr (.inl hc))
  ·exact hn (.inr (.inr (.inl hc)))
  ·rcases hm with e | ⟨g', e, hg'⟩
   ·exact hn (.inr (.inr (.inr (hc.trans e))))
   ·rw [e] at hc; simp at hc; omega
 refine ⟨h.ker.queue ho hq hm, h.rd.only ho (fun hc => h.sepr (.inr hc)) (fun hc => h.sepg (.inr hc)), keep rb hrl h.sepr, keep g hgl h.sepg, h.nr, ?_, ?_, by have := h.base; omega⟩
 ·refine h.only.chain ho ?_
  rintro i hi (hc | hc | hc)
  ·exact .inl (.inr (.inl hc))
  ·exact .inl (.inr (.inr (.inl hc)))
  ·rcases h.moved with e | ⟨g', e, hg'⟩
   ·exact .inl (.inr (.inr (.inr (hc.trans e))))
   ·rw [e] at hc; simp at hc; omega
 ·rcases hm with e | ⟨g', e, hg'⟩
  ·rcases h.moved with e' | ⟨g2, e', hg2⟩
   ·exact .inl (e.trans e')
   ·exact .inr ⟨g2, e.trans e', hg2⟩
  ·exact .inr ⟨g', e, by omega⟩
theorem LdR.other {ab : Nat} (h : LdR R base w wr kb qb mb rb g ov0 ov ents ks draws s l flt) (ho : Only (· = ab) wr w') (h1 : ¬ KSet kb qb mb ov ab) (h2 : ¬ R ab) (h3 : ab ≠ rb) (h4 : ab ≠ g) (h5 : w.heap.size ≤ ab) : LdR R base w w' kb qb mb rb g ov0 ov ents ks draws s l flt := by
 have hz := ho.size
 exact ⟨h.ker.only ho (fun b hb hc => by subst hc; exact h1 hb) (fun b hb hc => by subst hc; exact h2 hb), h.rd.only ho (Ne.symm h3) (Ne.symm h4), h.sepr, h.sepg, h.nr, h.only.chain ho (fun i hi hc => by omega), h.moved, by have := h.base; omega⟩
theorem LdR.set (h : LdR R base w wr kb qb mb rb g ov0 ov ents ks draws s l flt) (o : Nat) (v : Value) (hk : KerP R base (wr.setCell ⟨kb, o, none⟩ v) kb qb mb ov ents ks draws s') : LdR R base w (wr.setCell ⟨kb, o, none⟩ v) kb qb mb rb g ov0 ov ents ks draws s' l flt := by
 have ho : Only (· = kb) wr (wr.setCell ⟨kb, o, none⟩ v) := (Only.refl (· = kb) wr).setCell (p := ⟨kb, o, none⟩) (show kb = kb from rfl) _
 have hz := ho.size
 exact ⟨hk, h.rd.only ho (fun hc => h.sepr (.inl hc)) (fun hc => h.sepg (.inl hc)), h.sepr, h.sepg, h.nr, h.only.trans (ho.mono (fun k _ hk => .inl (.inl hk))), h.moved, by have := h.base; omega⟩
end
structure EvAt (w : World) (ab : Nat) (an t k0 e0 : Int) : Prop where
 c0 : w.cell? ⟨ab, 0, none⟩ = some (.int .i64 an)
 c1 : w.cell? ⟨ab, 1, none⟩ = some (.int .i64 t)
 c2 : w.cell? ⟨ab, 2, none⟩ = some (.int .i64 k0)
 c3 : w.cell? ⟨ab, 3, none⟩ = some (.int .i64 e0)
 room : Room w ab 4
theorem EvAt.only {w w' : World} {ab : Nat} {an t k0 e0 : Int} {U : Nat → Prop} (h : EvAt w ab an t k0 e0) (ho : Only U w w') (hn : ¬ U ab) : EvAt w' ab an t k0 e0 :=
 ⟨ho.at h.c0 hn, ho.at h.c1 hn, ho.at h.c2 hn, ho.at h.c3 hn, h.room.only ho hn⟩
structure LkP (R : Nat → Prop) (lo : Nat) (w : World) (rb gb : Nat) (ents : Int) (ks : List (List Ins)) (draws : List Int) (s : KS) (qv : Value) (m : Nat) : Prop where
 c0 : w.cell? ⟨rb, 0, none⟩ = some (.int .i64 ents)
 kinds : ∃ kv, w.cell? ⟨rb, 1, none⟩ = some kv ∧ KindsIn R w kv ks
 draw : ∃ dv, w.cell? ⟨rb, 2, none⟩ = some dv ∧ IntsIn R w dv draws
 c3 : w.cell? ⟨rb, 3, none⟩ = some (.int .i64 s.taken)
 c4 : w.cell? ⟨rb, 4, none⟩ = some (.int .i64 s.clock)
 c5 : w.cell? ⟨rb, 5, none⟩ = some (.int .i64 s.next)
 c6 : w.cell? ⟨rb, 6, none⟩ = some (.slice (some ⟨gb, 0, none⟩) m m)
 regs : ∀ j, j < m → w.cell? ⟨gb, j, none⟩ = some (.int .i64 (s.regs j))
 rroom : Room w gb m
 c7 : w.cell? ⟨rb, 7, none⟩ = some qv
 que : w.ownsRow lo 143 4 qv s.q.length (flat (s.q.map evIns))
 room : Room w rb 8
 far : ∀ b, R b → b < w.heap.size ∧ b ≠ rb ∧ b ≠ gb ∧ some b ≠ qv.ownBlock
 ne : rb ≠ gb
 glt : gb < w.heap.size
 qr : some rb ≠ qv.ownBlock
 qg : some gb ≠ qv.ownBlock
def LkP.Set (rb gb : Nat) (qv : Value) (b : Nat) : Prop := b = rb ∨ b = gb ∨ some b = qv.ownBlock
section
variable {R : Nat → Prop} {lo : Nat} {w w' : World} {rb gb : Nat} {ents : Int} {ks : List (List Ins)} {draws : List Int} {s : KS} {qv : Value} {m : Nat}
theorem LkP.only {S : Nat → Prop} (h : LkP R lo w rb gb ents ks draws s qv m) (ho : Only S w w') (hS : ∀ b, LkP.Set rb gb qv b → ¬ S b) (hR : ∀ b, R b → ¬ S b) : LkP R lo w' rb gb ents ks draws s qv m := by
 have hr := hS rb (.inl rfl)
 have hg := hS gb (.inr (.inl rfl))
 obtain ⟨kv, k1, k2⟩ := h.kinds
 obtain ⟨dv, d1, d2⟩ := h.draw
 have hz := ho.size
 exact ⟨ho.at h.c0 hr, ⟨kv, ho.at k1 hr, k2.only ho hR⟩, ⟨dv, ho.at d1 hr, d2.only ho hR⟩, ho.at h.c3 hr, ho.at h.c4 hr, ho.at h.c5 hr, ho.at h.c6 hr, fun j hj => ho.at (h.regs j hj) hg, h.rroom.only ho hg, ho.at h.c7 hr, owns_keep h.que ho (fun b hb => hS b (.inr (.inr hb))), h.room.only ho hr, fun b hb => ⟨Nat.lt_of_lt_of_le (h.far b hb).1 hz, (h.far b hb).2⟩, h.ne, Nat.lt_of_lt_of_le h.glt hz, h.qr, h.qg⟩
theorem LkP.below (h : LkP R lo w rb gb ents ks draws s qv m) (hb : Below w.heap.size w w') : LkP R lo w' rb gb ents ks draws s qv m := h.only (Only.new (S := fun _ => False) hb) (by simp) (by simp)
theorem LkP.rlt (h : LkP R lo w rb gb ents ks draws s qv m) : rb < w.heap.size := lt_of_cell h.c0
end
structure LdS (R : Nat → Prop) (lo : Nat) (w0 w : World) (rb gb db : Nat) (ents : Int) (ks : List (List Ins)) (draws : List Int) (s : KS) (qv : Value) (m : Nat) (all l : List Int) (bad : Bool) : Prop where
 bel : Below lo w0 w
 ker : LkP R lo w rb gb ents ks draws s qv m
 rd : RdS w db all l bad
 sep : ¬ LkP.Set rb gb qv db
 rsep : ¬ R db
 los : lo ≤ rb ∧ lo ≤ gb ∧ lo ≤ db ∧ lo ≤ w.heap.size
section
variable {R : Nat → Prop} {lo : Nat} {w0 w w' : World} {rb gb db : Nat} {ents : Int} {ks : List (List Ins)} {draws : List Int} {s : KS} {qv : Value} {m : Nat} {all l l' : List Int} {bad bad' : Bool}
theorem LdS.read (h : LdS R lo w0 w rb gb db ents ks draws s qv m all l bad) (ho : Only (· = db) w w') (hr : RdS w' db all l' bad') : LdS R lo w0 w' rb gb db ents ks draws s qv m all l' bad' := by
 have hz := ho.size
 refine ⟨h.bel.trans (ho.below h.los.2.2.2 (fun k hk hc => by have := h.los.2.2.1; omega)), h.ker.only ho (fun b hb hc => h.sep (hc ▸ hb)) (fun b hb hc => h.rsep (hc ▸ hb)), hr, h.sep, h.rsep, ⟨h.los.1, h.los.2.1, h.los.2.2.1, by have := h.los.2.2.2; omega⟩⟩
theorem LdS.push {W w2 : World} {qv2 : Value} {e : Ev} (h : LdS R lo w0 w rb gb db ents ks draws s qv m all l bad) (hW : Below w.heap.size w W) (hg : W.grownBy w2 qv.ownBlock) (hown : w2.ownsRow lo 143 4 qv2 (s.q.length + 1) (flat (s.q.map evIns) ++ flat [evIns e])) (hwh : qv2.ownBlock = qv.ownBlock ∨ qv2.ownBlock = some W.heap.size) :
  LdS R lo w0 (w2.setCell ⟨rb, 7, none⟩ qv2) rb gb db ents ks draws { s with q := s.q ++ [e] } qv2 m all l bad := by
 have hz := hW.size
 have hz2 := hg.size
 have hrl := h.ker.rlt
 have hgl := h.ker.glt
 have ho : Only (fun b => some b = qv.ownBlock) w w2 := (Only.new hW).trans (only_of_grown hg)
 have hs : Only (· = rb) w2 (w2.setCell ⟨rb, 7, none⟩ qv2) := Only.setCell (S := (· = rb)) (Only.refl _ _) rfl _
 have hnew : ∀ b, b < w.heap.size → some b ≠ qv.ownBlock → some b ≠ qv2.ownBlock := by
  intro b hb hn hc
  rcases hwh with e' | e'
  ·rw [e'] at hc; exact hn hc
  ·rw [e'] at hc; have := Option.some.inj hc; omega
 have hcell : ∀ (j : Nat) u, j ≠ 7 → w.cell? ⟨rb, j, none⟩ = some u → (w2.setCell ⟨rb, 7, none⟩ qv2).cell? ⟨rb, j, none⟩ = some u := by
  intro j u hj hu
  rw [World.cell?_setCell_other _ _ _ _ (by simp; try omega)]
  exact ho.at hu h.ker.qr
 have hroom : Room w2 rb 8 := h.ker.room.only ho h.ker.qr
 have hoa : Only (fun b => b = rb ∨ some b = qv.ownBlock) w (w2.setCell ⟨rb, 7, none⟩ qv2) := (ho.mono (fun b _ hb => .inr hb)).trans (hs.mono (fun b _ hb => .inl hb))
 have hsz : (w2.setCell ⟨rb, 7, none⟩ qv2).heap.size = w2.heap.size := by simp [World.setCell]
 obtain ⟨kv, k1, k2⟩ := h.ker.kinds
 obtain ⟨dv, d1, d2⟩ := h.ker.draw
 have hRS : ∀ b, R b → ¬ (b = rb ∨ some b = qv.ownBlock) := by
  rintro b hb (e' | e')
  ·exact (h.ker.far b hb).2.1 e'
  ·exact (h.ker.far b hb).2.2.2 e'
 have hgS : ¬ (gb = rb ∨ some gb = qv.ownBlock) := by
  rintro (e' | e')
  ·exact h.ker.ne e'.symm
  ·exact h.ker.qg e'
 have hdS : ¬ (db = rb ∨ some db = qv.ownBlock) := by
  rintro (e' | e')
  ·exact h.sep (.inl e')
  ·exact h.sep (.inr (.inr e'))
 have hdl := h.rd.lt
 have hqr2 := hnew rb hrl h.ker.qr
 have hqg2 := hnew gb hgl h.ker.qg
 have hlos := h.los
 refine ⟨?_, ⟨hcell 0 _ (by omega) h.ker.c0, ⟨kv, hcell 1 _ (by omega) k1, k2.only hoa hRS⟩, ⟨dv, hcell 2 _ (by omega) d1, d2.only hoa hRS⟩, hcell 3 _ (by omega) h.ker.c3, hcell 4 _ (by omega) h.ker.c4, hcell 5 _ (by omega) h.ker.c5, hcell 6 _ (by omega) h.ker.c6, fun j hj => hoa.at (h.ker.regs j hj) hgS, h.ker.rroom.only hoa hgS, World.cell?_setCell_same' _ _ _ (hroom 7 (by omega)).1, ?_, hroom.setCell _ _, ?_, h.ker.ne, by omega, hqr2, hqg2⟩, h.rd.only hoa hdS, ?_, h.rsep, ⟨hlos.1, hlos.2.1, hlos.2.2.1, by omega⟩⟩
 ·refine h.bel.trans (hoa.below hlos.2.2.2 ?_)
  rintro b hb (e' | e')
  ·omega
  ·have := (h.ker.que.lt b e'.symm).1; omega
 ·have he : flat ((s.q ++ [e]).map evIns) = flat (s.q.map evIns) ++ flat [evIns e] := by simp [flat]
  show World.ownsRow _ _ _ _ _ (s.q ++ [e]).length (flat ((s.q ++ [e]).map evIns))
  rw [he, List.length_append]
  exact owns_keep hown hs (fun b hb e' => hqr2 (by rw [← hb, e']))
 ·intro b hb
  have hf := h.ker.far b hb
  exact ⟨by omega, hf.2.1, hf.2.2.1, hnew b hf.1 hf.2.2.2⟩
 ·rintro (e' | e' | e')
  ·exact h.sep (.inl e')
  ·exact h.sep (.inr (.inl e'))
  ·exact hnew db hdl (fun hc => h.sep (.inr (.inr hc))) e'
end
theorem numF_ne : ∀ (k : Nat) (n : Int), numF k n ≠ []
 | 0, n => by simp [numF]
 | k + 1, n => by rw [numF]; split <;> simp
theorem readF_numB {low high n : Int} (h : low ≤ n ∧ n ≤ high) (hn : 0 ≤ n ∧ n ≤ 9223372036854775807) (rest : List Int) : readF low high (numB n ++ rest) false = (n, rest, false) := by
 unfold readF
 rw [numR_numB n rest hn]
 have hl : (numB n).length ≠ 0 := by intro hc; exact numF_ne 9 n (List.eq_nil_of_length_eq_zero hc)
 rw [if_neg]
 ·simp
 ·rintro (h' | h' | h' | h')
  ·cases h'
  ·exact hl h'
  ·simp only at h'; omega
  ·simp only at h'; omega
theorem readS_sgnB {n : Int} (h : -1000000000 ≤ n ∧ n ≤ 1000000000) (rest : List Int) : readS 1000000000 (sgnB n ++ rest) false = (n, rest, false) := by
 have hs : 0 ≤ sgnI n ∧ sgnI n ≤ 2000000000 := by unfold sgnI; split <;> omega
 unfold readS sgnB
 rw [readF_numB (by omega) (by omega)]
 have : unsI (sgnI n) = n := by
  unfold unsI sgnI
  by_cases h0 : n < 0
  ·rw [if_pos h0, if_pos (by omega)]; omega
  ·rw [if_neg h0, if_neg (by omega)]; omega
 rw [this]
theorem openE_zero {hd l : List Int} (h : openE hd l = 0) : 8 ≤ l.length ∧ l.take 4 = hd ∧ l.drop (l.length - 4) = sumB (l.take (l.length - 4)) := by
 unfold openE at h
 by_cases a1 : l.length < 8 ∨ l.take 4 ≠ hd
 ·rw [if_pos a1] at h; simp at h
 rw [if_neg a1] at h
 by_cases a2 : l.drop (l.length - 4) ≠ sumB (l.take (l.length - 4))
 ·rw [if_pos a2] at h; simp at h
 simp only [not_or, Nat.not_lt, ne_eq, Decidable.not_not] at a1 a2
 exact ⟨a1.1, a1.2, a2⟩
end Go.Proofs.YtndlmgocldckfaaGreat
