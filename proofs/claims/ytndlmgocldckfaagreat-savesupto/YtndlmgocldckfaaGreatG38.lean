import Derived.Test.YtndlmgocldckfaaGreatG37
import Derived.Deep.RegionWith
import Derived.Test.YtndlmgocldckfaaGreatG12
import Derived.Test.YtndlmgocldckfaaGreatG32
import Derived.Test.YtndlmgocldckfaaGreatG35
import Derived.Lib.BufferWrite
namespace Go.Proofs.YtndlmgocldckfaaGreat
open Go.RowKit
set_option linter.unusedVariables false
set_option linter.unusedSimpArgs false
set_option maxRecDepth 100000
set_option maxHeartbeats 4000000
theorem fresh_lk {w : World} {lo rb : Nat} {E : Nat} {ks : List (List Ins)} {draws : List Int} (h : FreshN w lo rb (E : Int) ks draws ((E : Int) * 4).toNat) (hlo : lo ≤ rb) : ∃ gb, lo ≤ gb ∧ gb < w.heap.size ∧ LkP (fun b => lo ≤ b ∧ b < w.heap.size ∧ b ≠ rb ∧ b ≠ gb) lo w rb gb (E : Int) ks draws ks0 (.slice none 0 0) ((E : Int) * 4).toNat := by
 obtain ⟨⟨gb, kv, dv, g1, g2, g3, c0, c1, c2, c3, c4, c5, c6, c7, hro, hrw, hk, hd⟩, hroom⟩ := h
 refine ⟨gb, g1, g2, c0, ⟨kv, c1, hk⟩, ⟨dv, c2, hd⟩, c3, c4, c5, c6, ?_, hro, c7, World.ownsRow_nil _ _ _ _, hroom, fun b hb => ⟨hb.2.1, hb.2.2.1, hb.2.2.2, by simp [Value.ownBlock]⟩, Ne.symm g3, g2, by simp [Value.ownBlock], by simp [Value.ownBlock]⟩
 intro j hj
 have := hrw j (.int .i64 0) (by simp [ints, hj])
 rw [Nat.zero_add] at this
 exact this
structure RgI (R : Nat → Prop) (lo : Nat) (w0 wr : World) (rb gb db : Nat) (ents : Int) (ks : List (List Ins)) (draws : List Int) (s : KS) (qv : Value) (m : Nat) (all : List Int) (RES : (Nat → Int) × List Int × Bool) (i : Nat) (f : Nat → Int) (l : List Int) (bad : Bool) : Prop where
 ld : LdS R lo w0 wr rb gb db ents ks draws { s with regs := f } qv m all l bad
 res : regsL (m - i) i f l bad = RES
theorem rload_any (E : Nat) (b off cap : Nat) (dv : Value) (ks : List (List Ins)) (draws : List Int) (l : List Int) (w : World) (hl : ks.length ≤ 8) (hbw : b < w.heap.size) (hK : KindsAt w.heap.size w b off ks) (hd : IntsX w.heap.size w dv draws) (hk : kindF (E : Int) ks = none) (hD : drawsF draws = true) (he : 1 ≤ E ∧ E ≤ 8) (hdl : draws.length ≤ 1000) (hv : ∀ c ∈ l, 0 ≤ c ∧ c < 256) (hll : l.length ≤ 1000000000) :
  Calls Tryz.prog 32 #[.agg #[.int .i64 E, .slice (some ⟨b, off, none⟩) ks.length cap], dv, .string (strW l)] w
   fun e w' => Below w.heap.size w w' ∧ ((loadL E ks.length draws.length l = 0 ∧ ∃ rb R, e = .returned (.tuple #[.pointer (some ⟨rb, 0, none⟩), .int .i64 0]) ∧ w.heap.size ≤ rb ∧ rb < w'.heap.size ∧ (∀ x, R x → w.heap.size ≤ x ∧ x < w'.heap.size ∧ x ≠ rb) ∧ RefK R w' rb (E : Int) ks draws (kerL E ks.length draws.length (openL l)).1.taken (kerL E ks.length draws.length (openL l)).1.clock (kerL E ks.length draws.length (openL l)).1.next (regL (E : Int) (kerL E ks.length draws.length (openL l)).1) (kerL E ks.length draws.length (openL l)).1.q) ∨ (loadL E ks.length draws.length l ≠ 0 ∧ e = .returned (.tuple #[.pointer none, .int .i64 (loadL E ks.length draws.length l)]))) := by
 obtain ⟨W, hW⟩ : ∃ W, W = w.alloc (.cells #[.int .i64 E, .slice (some ⟨b, off, none⟩) ks.length cap] 38) := ⟨_, rfl⟩
 have hbW : Below w.heap.size w W := by rw [hW]; exact alloc_below _ _
 have hzW : W.heap.size = w.heap.size + 1 := by rw [hW]; simp
 have m0 : W.cell? ⟨w.heap.size, 0, none⟩ = some (.int .i64 E) := by rw [hW]; simp [go_sem]
 have m1 : W.cell? ⟨w.heap.size, 1, none⟩ = some (.slice (some ⟨b, off, none⟩) ks.length cap) := by rw [hW]; simp [go_sem]
 have HNew := hide (rNewF_restX (E : Int) b off cap dv ks draws W (by omega) (by omega) ((hK.below hbW hbw (Nat.le_refl _)).mono (by omega)) ((hd.below hbW).mono (by omega)) hk)
 obtain ⟨da, dc, rfl⟩ := hd.form
 have Hv := hide hv
 have HD := hide hD
 have HW := hide hW
 have HbW := hide hbW
 have hzl : (strW l).size = l.length := strW_size l
 have HFr := hide (fun W' => framed_any [84, 77, 80, 1] l W' hv hll rfl (by simp))
 clear hK hd hv hD hW hbW hk
 go_enter Tryz.func32, Tryz.ntmps32
 go_wp2_with fail
 rw [← HW.out]
 refine HNew.out.mono ?_
 rintro e w1 hnew
 have hy : ∃ rb, e = .returned (.tuple #[.pointer (some ⟨rb, 0, none⟩), .int .i64 0]) ∧ Below W.heap.size W w1 ∧ W.heap.size ≤ rb ∧ rb < w1.heap.size ∧ FreshN w1 W.heap.size rb (E : Int) ks draws ((E : Int) * 4).toNat := by
  rcases hnew with ⟨hc, _⟩ | ⟨_, h⟩
  ·have : drawsF draws = false := hc
   rw [HD.out] at this; cases this
  ·exact h
 obtain ⟨rb, rfl, hb1, hr1, hr2, hF1⟩ := hy
 obtain ⟨gb, hg1, hg2, hLk1⟩ := fresh_lk hF1 hr1
 clear hnew hF1 HNew HD
 have n0 := below_at hb1 m0 (by omega)
 have n1 := below_at hb1 m1 (by omega)
 have hz1 := hb1.size
 have HB1 : Hid (Below w.heap.size w w1) := HbW.out.trans (hb1.mono (by omega))
 have HLk1 := hide hLk1
 have HBw : Hid (Below W.heap.size W w1) := hb1
 clear hb1 hLk1 m0 m1 HW
 by_cases h0 : openE [84, 77, 80, 1] l = 0
 rotate_left
 ·have d0 : (openE [84, 77, 80, 1] l != 0) = true := by simpa using h0
  have HE : Hid (loadL E ks.length draws.length l = openE [84, 77, 80, 1] l) := by show _ = _; rw [loadL, if_pos h0]
  have Hn0 := hide h0
  clear h0
  go_wp2_with (go_at_call 66; refine (HFr.out _).mono ?_; rintro e w2 ⟨rfl, hb2⟩)
  go_ret2
  rw [HE.out]
  exact ⟨HB1.out.trans (hb2.mono (by omega)), .inr ⟨Hn0.out, rfl⟩⟩
 ·have HZ := hide (openE_zero h0)
  have hl8 : 8 ≤ l.length := (openE_zero h0).1
  have HH := hide h0
  have x2 : (strW l).extract 0 (l.length - 4) = strW (l.take (l.length - 4)) := by rw [strW_cut]; rfl
  have e4 : ((l.length : Int) - 4).toNat = l.length - 4 := by omega
  rw [h0] at HFr
  clear h0
  go_wp2_with (go_at_call 66; refine (HFr.out _).mono ?_; rintro e w2 ⟨rfl, hb2⟩; (have o0 := below_at hb2 n0 (by omega)); (have o1 := below_at hb2 n1 (by omega)); (have hlt2 : w.heap.size < w2.heap.size := by have := hb2.size; omega))
  obtain ⟨W3, hW3⟩ : ∃ W3, W3 = w2.alloc (.cells #[.string (strW (l.take (l.length - 4))), .int .i64 4, .bool false] 125) := ⟨_, rfl⟩
  have hz2 := hb2.size
  clear hlt2
  have hb3 : Below w2.heap.size w2 W3 := by rw [hW3]; exact alloc_below _ _
  obtain ⟨db, hdb⟩ : ∃ db, db = w2.heap.size := ⟨_, rfl⟩
  have hRd : RdS W3 db (l.take (l.length - 4)) (openL l) false := by
   rw [hdb]
   refine ⟨by rw [hW3]; simp [go_sem], ⟨4, by simp; omega, rfl, by rw [hW3]; simp [go_sem]⟩, by rw [hW3]; simp [go_sem], ?_⟩
   intro j hj
   rw [hW3]
   have : j = 0 ∨ j = 1 ∨ j = 2 := by omega
   rcases this with rfl | rfl | rfl <;> simp [go_sem]
  have HL0 : Hid (LdS (fun b => W.heap.size ≤ b ∧ b < w1.heap.size ∧ b ≠ rb ∧ b ≠ gb) W.heap.size W W3 rb gb db (E : Int) ks draws ks0 (.slice none 0 0) ((E : Int) * 4).toNat (l.take (l.length - 4)) (openL l) false) := by
   refine ⟨HBw.out.trans ((hb2.mono hz1).trans (hb3.mono (by omega))), (HLk1.out.below hb2).below hb3, hRd, ?_, by rw [hdb]; omega, ⟨hr1, hg1, by omega, by have := hb3.size; omega⟩⟩
   rintro (e | e | e)
   ·omega
   ·omega
   ·simp [Value.ownBlock] at e
  have q0 := below_at hb3 o0 (by omega)
  have q1 := below_at hb3 o1 (by omega)
  have hMd : w.heap.size ≠ db := by omega
  have hMr : w.heap.size ≠ rb := by omega
  have hrd : rb ≠ db := by omega
  have hdW : w.heap.size < db := by omega
  have HVA : Hid (∀ c ∈ l.take (l.length - 4), 0 ≤ c ∧ c < 256) := fun c hc => Hv.out c (List.mem_of_mem_take hc)
  have hAl : (l.take (l.length - 4)).length ≤ 1000000000 := by simp; omega
  rw [← hW3, ← hdb]
  clear hW3 hb3 hRd hb2 HLk1 o0 o1 n0 n1 hdb HFr HBw x2 e4
  obtain ⟨A, hA⟩ : ∃ A, A = l.take (l.length - 4) := ⟨_, rfl⟩
  rw [← hA] at HL0 HVA hAl
  clear hA
  have HBytes : Hid (∀ c ∈ openL l, 0 ≤ c ∧ c < 256) := openL_bytes Hv.out
  obtain ⟨R, hR⟩ : ∃ R : Nat → Prop, R = (fun b => W.heap.size ≤ b ∧ b < w1.heap.size ∧ b ≠ rb ∧ b ≠ gb) := ⟨_, rfl⟩
  rw [← hR] at HL0
  have HR := hide hR
  clear hR
  rcases ea : numL E E (openL l) false with ⟨v1, l1, f1⟩
  have hb1 := numL_bytes (lo := E) (hi := E) (bad := false) HBytes.out
  rw [ea] at hb1
  simp only at hb1
  rcases eb : numL ks.length ks.length l1 f1 with ⟨v2, l2, f2⟩
  have hb2 := numL_bytes (lo := ks.length) (hi := ks.length) (bad := f1) hb1
  rw [eb] at hb2
  simp only at hb2
  rcases ec : numL 0 1000000000000 l2 f2 with ⟨v3, l3, f3⟩
  have hb3 := numL_bytes (lo := 0) (hi := 1000000000000) (bad := f2) hb2
  rw [ec] at hb3
  simp only at hb3
  rcases ed : numL 1 1000000000 l3 f3 with ⟨v4, l4, f4⟩
  have hb4 := numL_bytes (lo := 1) (hi := 1000000000) (bad := f3) hb3
  rw [ed] at hb4
  simp only at hb4
  rcases ee : numL 0 (draws.length : Int) l4 f4 with ⟨v5, l5, f5⟩
  have hb5 := numL_bytes (lo := 0) (hi := (draws.length : Int)) (bad := f4) hb4
  have hr5 := numL_range 0 (draws.length : Int) l4 f4 hb4
  rw [ee] at hb5 hr5
  simp only at hb5 hr5
  obtain ⟨tk, rfl⟩ : ∃ tk : Nat, v5 = tk := ⟨v5.toNat, by omega⟩
  have HKL : Hid (kerL E ks.length draws.length (openL l) = (if (regsL (E * 4) 0 ks0.regs l5 f5).2.2 then (⟨tk, v3, v4, (regsL (E * 4) 0 ks0.regs l5 f5).1, []⟩, (regsL (E * 4) 0 ks0.regs l5 f5).2.1, true) else (⟨tk, v3, v4, (regsL (E * 4) 0 ks0.regs l5 f5).1, (quL E ks.length v4 (numL 0 16 (regsL (E * 4) 0 ks0.regs l5 f5).2.1 false).1.toNat v3 [] (numL 0 16 (regsL (E * 4) 0 ks0.regs l5 f5).2.1 false).2.1 (numL 0 16 (regsL (E * 4) 0 ks0.regs l5 f5).2.1 false).2.2).1⟩, (quL E ks.length v4 (numL 0 16 (regsL (E * 4) 0 ks0.regs l5 f5).2.1 false).1.toNat v3 [] (numL 0 16 (regsL (E * 4) 0 ks0.regs l5 f5).2.1 false).2.1 (numL 0 16 (regsL (E * 4) 0 ks0.regs l5 f5).2.1 false).2.2).2))) := by
   show _ = _
   unfold kerL
   simp only [ea, eb, ec, ed, ee, Int.toNat_natCast]
  have Hgd : Hid (f5 = false → (0 ≤ v3 ∧ v3 ≤ 1000000000000) ∧ (1 ≤ v4 ∧ v4 ≤ 1000000000)) := by
   intro hf
   have g5 := numL_good (lo := 0) (hi := (draws.length : Int)) (l := l4) (bad := f4) (by rw [ee]; exact hf)
   have g4 := numL_good (lo := 1) (hi := 1000000000) (l := l3) (bad := f3) (by rw [ed]; exact g5.1)
   have g3 := numL_good (lo := 0) (hi := 1000000000000) (l := l2) (bad := f2) (by rw [ec]; exact g4.1)
   rw [ed] at g4
   rw [ec] at g3
   exact ⟨g3.2, g4.2⟩
  have HA := hide ea
  have HBb := hide eb
  have HCc := hide ec
  have HDd := hide ed
  have HEe := hide ee
  have Hb5 := hide hb5
  clear ea eb ec ed ee hb1 hb2 hb3 hb4 hb5 hr5
  refine (HL0.out.num HVA.out hAl E E).mono ?_
  rw [HA.out]
  rintro e x1 ⟨rfl, ho1, hL1⟩
  simp only at hL1 ⊢
  have p1 := ho1.at q1 hMd
  have HL1 := hide hL1
  clear ho1 hL1 HL0 q0 q1 HA
  go_wp2_with fail
  refine (HL1.out.num HVA.out hAl ks.length ks.length).mono ?_
  rw [HBb.out]
  rintro e x2 ⟨rfl, ho2, hL2⟩
  simp only at hL2 ⊢
  have HL2 := hide hL2
  clear ho2 hL2 HL1 p1 HBb
  go_wp2_with fail
  refine (HL2.out.num HVA.out hAl 0 1000000000000).mono ?_
  rw [HCc.out]
  rintro e x3 ⟨rfl, ho3, hL3⟩
  simp only at hL3 ⊢
  have y4 := hL3.ker.c4
  have g4 := (hL3.ker.room 4 (by omega)).2
  have HL3 : Hid (LdS R W.heap.size W (x3.setCell ⟨rb, 4, none⟩ (.int .i64 v3)) rb gb db (E : Int) ks draws { ks0 with clock := v3 } (.slice none 0 0) ((E : Int) * 4).toNat A l3 f3) := hL3.put (.inl rfl) (hL3.ker.setI 4 _ (by omega) _ (by omega) (fun _ => rfl) (by omega) (fun _ => rfl) (by omega) (fun _ => rfl) rfl rfl)
  clear ho3 hL3 HL2 HCc
  go_wp2_with fail
  generalize hX4 : x3.setCell ⟨rb, 4, none⟩ (.int .i64 v3) = X4 at HL3 ⊢
  clear hX4 y4 g4 x3
  refine (HL3.out.num HVA.out hAl 1 1000000000).mono ?_
  rw [HDd.out]
  rintro e x4 ⟨rfl, ho4, hL4⟩
  simp only at hL4 ⊢
  have y5 := hL4.ker.c5
  have g5 := (hL4.ker.room 5 (by omega)).2
  have HL4 : Hid (LdS R W.heap.size W (x4.setCell ⟨rb, 5, none⟩ (.int .i64 v4)) rb gb db (E : Int) ks draws { ks0 with clock := v3, next := v4 } (.slice none 0 0) ((E : Int) * 4).toNat A l4 f4) := hL4.put (.inl rfl) (hL4.ker.setI 5 _ (by omega) _ (by omega) (by omega) (fun _ => rfl) (fun _ => rfl) (fun _ => rfl) (by omega) rfl rfl)
  clear ho4 hL4 HL3 HDd
  go_wp2_with fail
  generalize hX5 : x4.setCell ⟨rb, 5, none⟩ (.int .i64 v4) = X5 at HL4 ⊢
  clear hX5 y5 g5 x4
  refine (HL4.out.num HVA.out hAl 0 (draws.length : Int)).mono ?_
  rw [HEe.out]
  rintro e x5 ⟨rfl, ho5, hL5⟩
  simp only at hL5 ⊢
  have y3 := hL5.ker.c3
  have g3 := (hL5.ker.room 3 (by omega)).2
  have HL5 : Hid (LdS R W.heap.size W (x5.setCell ⟨rb, 3, none⟩ (.int .i64 tk)) rb gb db (E : Int) ks draws { ks0 with taken := tk, clock := v3, next := v4 } (.slice none 0 0) ((E : Int) * 4).toNat A l5 f5) := hL5.put (.inl rfl) (hL5.ker.setI 3 _ (by omega) _ (fun _ => rfl) (by omega) (by omega) (by omega) (fun _ => rfl) (fun _ => rfl) rfl rfl)
  clear ho5 hL5 HL4 HEe
  go_wp2_with fail
  generalize hX6 : x5.setCell ⟨rb, 3, none⟩ (.int .i64 tk) = X6 at HL5 ⊢
  clear hX6 y3 g3 x5
  obtain ⟨M, hM⟩ : ∃ M, M = ((E : Int) * 4).toNat := ⟨_, rfl⟩
  rw [← hM] at HL5
  have HM : Hid (M = E * 4) := by show _ = _; omega
  have HM2 : Hid (M = ((E : Int) * 4).toNat) := hM
  have hM32 : M ≤ 32 := by omega
  clear hM
  obtain ⟨RES, hRES⟩ : ∃ RES, RES = regsL (E * 4) 0 ks0.regs l5 f5 := ⟨_, rfl⟩
  rw [← hRES] at HKL
  have HS : Hid (RgI R W.heap.size W X6 rb gb db (E : Int) ks draws { ks0 with taken := tk, clock := v3, next := v4 } (.slice none 0 0) M A RES 0 ks0.regs l5 f5) := ⟨HL5.out, by rw [hRES, HM.out]; rfl⟩
  have HRES := hide hRES
  clear hRES HL5
  go_loopg [11] (M + 3) (fun g s11 wr => ∃ (i : Nat) (f : Nat → Int) (lk : List Int) (bad : Bool), s11 = .int .i64 i ∧ M - i + 2 ≤ g ∧ i ≤ M ∧ Hid (RgI R W.heap.size W wr rb gb db (E : Int) ks draws { ks0 with taken := tk, clock := v3, next := v4 } (.slice none 0 0) M A RES i f lk bad))
  case atStart => exact ⟨0, ks0.regs, l5, f5, rfl, by omega, by omega, HS.out⟩
  case round =>
   obtain ⟨i, f, lk, bad, rfl, hg, hi, hI⟩ := hrel
   clear HS
   have k6 := hI.out.ld.ker.c6
   have k2 := hI.out.ld.rd.bad
   have hgr : gb ≠ rb := Ne.symm hI.out.ld.ker.ne
   have hgd : gb ≠ db := fun e => hI.out.ld.sep (.inr (.inl e.symm))
   have go : (i < M ∧ bad = false) ∨ (¬ (i < M ∧ bad = false)) := by by_cases h : i < M ∧ bad = false; exact .inl h; exact .inr h
   rcases go with ⟨hlt, rfl⟩ | hno
   ·have d1 : decide ((i : Int) < (M : Int)) = true := by simp; omega
    have hii : (i : Int) < (M : Int) := by omega
    have hw : IntKind.i64.wrap ((i : Int) + 1) = (i : Int) + 1 := by rw [IntKind.wrap_i64]; omega
    have HX := hide (rdSgn_any db A lk false wr.drew (hI.out.ld.rd.below (Below.refl _ _).drew) HVA.out hAl)
    have HJ0 := hide (hI.out.ld.fresh (Below.refl _ _).drew)
    have HRes : Hid (regsL (M - (i + 1)) (i + 1) (putR f i (sgnL lk false).1) (sgnL lk false).2.1 (sgnL lk false).2.2 = RES) := by
     have := hI.out.res
     rw [show M - i = (M - (i + 1)) + 1 by omega, regsL, if_neg (by simp)] at this
     exact this
    clear hI
    go_wp2_with fail
    go_region_held3 (fun W' => W'.cell? ⟨rb, 6, none⟩ = some (.slice (some ⟨gb, 0, none⟩) M M))
     (first | exact k6 | exact z6 | (rw [World.cell?_setCell_other _ _ _ _ (by simp [hgr])]; exact z6))
     (first | (go_at_call 68; refine HX.out.mono ?_; rintro e' w6 ⟨rfl, ho6, hr6⟩; (have HL6 := hide (HJ0.out.read ho6 hr6)); (have z6 := HL6.out.ker.c6); (have r0 := HL6.out.ker.regs i hlt); (have rf := (HL6.out.ker.rroom i hlt).2)))
    have HL7 : Hid (LdS R W.heap.size W (w6.setCell ⟨gb, i, none⟩ (.int .i64 (sgnL lk false).1)) rb gb db (E : Int) ks draws { ks0 with taken := tk, clock := v3, next := v4, regs := putR f i (sgnL lk false).1 } (.slice none 0 0) M A (sgnL lk false).2.1 (sgnL lk false).2.2) := HL6.out.put (.inr rfl) (HL6.out.ker.setR i _ hlt)
    clear ho6 hr6 r0 rf HX z6 HL6 HJ0
    go_wp2_with fail
    go_roundg (M - (i + 1) + 2)
    case measure => omega
    case rel => exact ⟨i + 1, _, _, _, by go_num, Nat.le_refl _, by omega, HL7.out, HRes.out⟩
   ·have hMi : bad = false → M ≤ i := fun hb => Nat.le_of_not_lt (fun hc => hno ⟨hc, hb⟩)
    have HRE : Hid (RES = (f, lk, bad)) := by
     show _ = _
     rw [← hI.out.res]
     cases bad with
     | true => exact regsL_bad _ _ _ _
     | false => rw [show M - i = 0 by have := hMi rfl; omega]; rfl
    have HLx := hide hI.out.ld
    have HBel : Hid (Below w.heap.size w wr) := HbW.out.trans (hI.out.ld.bel.mono (by omega))
    clear hI
    rcases bad with _ | _
    ·have hMi' := hMi rfl
     have d1 : decide ((i : Int) < (M : Int)) = false := by simp; omega
     have d1' : decide (i < M) = false := by simp; omega
     clear hno hMi
     have hf5 : f5 = false := by
      cases f5 with
      | false => rfl
      | true =>
       have h1 := HRES.out
       rw [regsL_bad, HRE.out] at h1
       simp at h1
     obtain ⟨hv3, hv4⟩ := Hgd.out hf5
     obtain ⟨RQ, hRQ⟩ : ∃ RQ, RQ = quL (E : Int) ks.length v4 (numL 0 16 lk false).1.toNat v3 [] (numL 0 16 lk false).2.1 (numL 0 16 lk false).2.2 := ⟨_, rfl⟩
     have HKK : Hid (kerL E ks.length draws.length (openL l) = (⟨tk, v3, v4, f, RQ.1⟩, RQ.2.1, RQ.2.2)) := by
      show _ = _
      rw [HKL.out, HRE.out]
      simp only [Bool.false_eq_true, if_false]
      rw [← hRQ]
     have HQ := hide (rqueue_any rb gb db (E : Int) ks draws ⟨tk, v3, v4, f, []⟩ (.slice none 0 0) M A lk wr HLx.out HVA.out hAl rfl ⟨by omega, by omega⟩ hl hv4 hv3 RQ hRQ)
     clear hRQ HKL HRE HRES Hgd hf5
     obtain ⟨q8, l8, f8⟩ := RQ
     simp only at HKK HQ
     rcases f8 with _ | _
     ·have hKf : (kerL E ks.length draws.length (openL l)).2.2 = false := by rw [HKK.out]
      obtain ⟨hfit, hz8⟩ := kerL_good E ks draws (openL l) HBytes.out hKf
      have hK1 : (kerL E ks.length draws.length (openL l)).1 = ⟨tk, v3, v4, f, q8⟩ := by rw [HKK.out]
      have HK1 := hide hK1
      have HKf := hide hKf
      rw [hK1] at hfit
      have HFit := hide hfit
      clear hK1 hKf hz8 hfit
      go_wp2_with (go_at_call 69; refine HQ.out.mono ?_; rintro e w8 ⟨rfl, qv8, hL8⟩; (have k8 := hL8.rd.bad); (have HL8 := hide hL8); clear hL8)
      have HRf : Hid (RefK (fun x => R x ∨ x = gb ∨ some x = qv8.ownBlock) w8 rb (E : Int) ks draws tk v3 v4 (regL (E : Int) ⟨tk, v3, v4, f, q8⟩) q8) := by
       have h8 := HL8.out.ker
       rw [HM2.out] at h8
       exact h8.refK ⟨by omega, by omega⟩
      have HSv := hide (rsave_any rb (E : Int) ks draws ⟨tk, v3, v4, f, q8⟩ w8 HRf.out HFit.out.ok hl ⟨by omega, by omega⟩ hdl HFit.out.q.sorted)
      refine HSv.out.mono ?_
      rintro e w9 ⟨rfl, hb9⟩
      have hsb : ∀ c ∈ saveF (E : Int) ks.length ⟨tk, v3, v4, f, q8⟩, 0 ≤ c ∧ c < 256 := by
       intro c hc
       unfold saveF headF at hc
       rcases List.mem_append.1 hc with hc | hc
       ·rcases List.mem_append.1 hc with hc | hc
        ·simp at hc; omega
        ·exact bodyF_bytes HFit.out.ok ⟨by omega, by omega⟩ hl hdl HFit.out.q.sorted c hc
       ·exact sumB_bytes _ c hc
      have hcmp := strW_eq hsb Hv.out
      have HB9 : Hid (Below w.heap.size w w9) := HbW.out.trans ((HL8.out.bel.trans (hb9.mono HL8.out.los.2.2.2)).mono (by omega))
      have HLd : Hid (loadL E ks.length draws.length l = if saveF (E : Int) ks.length ⟨tk, v3, v4, f, q8⟩ = l then 0 else 4) := by
       show _ = _
       rw [loadL, if_neg (by simpa using HH.out), HKf.out, HK1.out]
       rfl
      have HEnd : Hid (∀ x, (R x ∨ x = gb ∨ some x = qv8.ownBlock) → w.heap.size ≤ x ∧ x < w9.heap.size ∧ x ≠ rb) := by
       intro x hx
       have h9 := hb9.size
       have hlos := HL8.out.los
       rcases hx with hx | hx | hx
       ·have := HL8.out.ker.far x hx
        have h2 := hx
        rw [HR.out] at h2
        exact ⟨by omega, by omega, this.2.1⟩
       ·have := HL8.out.ker.glt
        have := HL8.out.ker.ne
        exact ⟨by omega, by omega, by omega⟩
       ·have := HL8.out.ker.que.lt x hx.symm
        refine ⟨by omega, by omega, fun e => HL8.out.ker.qr (by rw [← e]; exact hx)⟩
      have hr9 : rb < w9.heap.size := by have := HL8.out.ker.rlt; have := hb9.size; omega
      have HRf9 := hide (HRf.out.only (Only.new (S := fun _ => False) hb9) (by simp) (by simp))
      generalize hSV : saveF (E : Int) ks.length ⟨tk, v3, v4, f, q8⟩ = SV at hcmp HLd
      clear hSV hsb hb9 HSv k8 HL8 HRf
      by_cases hEq : SV = l
      ·have hcm : ((strW SV).toList == (strW l).toList) = true := by rw [hcmp]; simpa using hEq
       have hLd0 : loadL E ks.length draws.length l = 0 := by rw [HLd.out, if_pos hEq]
       have HLd0 := hide hLd0
       clear hcmp hEq hLd0
       go_wp2_with fail
       go_ret2
       rw [HK1.out]
       exact ⟨HB9.out, .inl ⟨HLd0.out, rb, _, rfl, by omega, hr9, HEnd.out, HRf9.out⟩⟩
      ·have hcm : ((strW SV).toList == (strW l).toList) = false := by rw [hcmp]; simpa using hEq
       have hLd0 : loadL E ks.length draws.length l = 4 := by rw [HLd.out, if_neg hEq]
       have HLd0 := hide hLd0
       clear hcmp hEq hLd0
       go_wp2_with fail
       go_ret2
       rw [HLd0.out]
       exact ⟨HB9.out, .inr ⟨by decide, rfl⟩⟩
     ·have HE : Hid (loadL E ks.length draws.length l = 4) := by
       show _ = _
       rw [loadL, if_neg (by simpa using HH.out), HKK.out]
       rfl
      go_wp2_with (go_at_call 69; refine HQ.out.mono ?_; rintro e w8 ⟨rfl, qv8, hL8⟩; (have k8 := hL8.rd.bad); (have HL8 := hide hL8); clear hL8)
      go_ret2
      rw [HE.out]
      exact ⟨HbW.out.trans (HL8.out.bel.mono (by omega)), .inr ⟨by decide, rfl⟩⟩
    ·have HE : Hid (loadL E ks.length draws.length l = 4) := by
      show _ = _
      rw [loadL, if_neg (by simpa using HH.out), HKL.out, HRE.out]
      rfl
     by_cases hlt : i < M
     ·have d1 : decide ((i : Int) < (M : Int)) = true := by simp; omega
      have d1' : decide (i < M) = true := by simpa using hlt
      clear hno
      go_wp2_with fail
      go_ret2
      rw [HE.out]
      exact ⟨HBel.out, .inr ⟨by decide, rfl⟩⟩
     ·have d1 : decide ((i : Int) < (M : Int)) = false := by simp; omega
      have d1' : decide (i < M) = false := by simpa using hlt
      clear hno
      go_wp2_with fail
      go_ret2
      rw [HE.out]
      exact ⟨HBel.out, .inr ⟨by decide, rfl⟩⟩
theorem eqlNilB (w : World) (a : Option Addr) (n c : Nat) : (binOp .eql 56 (.slice a n c) (.slice none 0 0)).run Tryz.prog w = .ok (.bool a.isNone) w := Lib.run_eql_slice_nil w _ _ a n c 0 0 Tryz.underlying56
attribute [local go_sem] eqlNilB
theorem byteCells_strW {l : List Int} (hb : ∀ c ∈ l, 0 ≤ c ∧ c < 256) : Lib.byteCells (strW l).data.toList = byteV l := by
 unfold Lib.byteCells byteV strW
 simp only [List.map_map]
 refine List.map_congr_left fun c hc => ?_
 have h := hb c hc
 have h8 : (UInt8.ofNat c.toNat).toNat = c.toNat % 256 := UInt8.toNat_ofNat'
 simp only [Function.comp, h8]
 congr 1
 omega
theorem wpList_copy_str {P : Program} {w : World} {ops : Array Oper} {rest : List Oper} {o : Oper} {a : Act} {Q : Exit → Act → World → Prop} (hgd : o.guard = none) (d s : Operand) (dT sT : TypeId)
  (ho : o.op = .call { callee := .builtin .copy, args := #[d, s], argTypes := #[dT, sT] }) (elem : TypeId) (hu : P.underlying dT = some (.slice elem)) (hsz : (P.info? elem).map (·.size) = some 1)
  (g dLen dCap : Nat) (l : List Int) (hb : ∀ c ∈ l, 0 ≤ c ∧ c < 256) (hd : a.eval d = .slice (some ⟨g, 0, none⟩) dLen dCap) (hs : a.eval s = .string (strW l)) (hle : l.length ≤ dLen)
  (cur : Array Value) (t : TypeId) (hg : w.heap[g]? = some (.cells cur t (0, 0))) (hfit : l.length ≤ cur.size)
  (h : ∀ w', Only (· = g) w w' → RowAt w' g 0 (byteV l) → Room w' g cur.size → w'.heap.size = w.heap.size → wpList P ops Q rest (a.put o.dst (goInt (strW l).size)) w') : wpList P ops Q (o :: rest) a w := by
 refine wpList_plain hgd fun K hK => ?_
 have hrun := Lib.run_copy_row_string (P := P) w dT sT o.type elem g 0 dLen dCap (strW l) cur t hu hsz hg (by rw [strW_size]; exact hle) (by rw [strW_size]; omega)
 rw [byteCells_strW hb, strW_size] at hrun
 simp only [List.take_zero, List.nil_append, Nat.zero_add] at hrun
 have hlb : (byteV l).length = l.length := byteV_length l
 have hH := setRow_heap w g cur (byteV l ++ cur.toList.drop l.length).toArray t _ hg
 unfold Oper.wp
 simp [execOp, ho, resolve, invoke, builtin, hd, hs, hrun, Result.andThen]
 have hh := h (w.setRow g (byteV l ++ cur.toList.drop l.length).toArray) ⟨rfl, rfl, rfl, by simp [World.setRow], fun k hk hn => setRow_other w g k _ hn⟩ ?_ ?_ (by simp [World.setRow])
 ·rw [strW_size] at hh
  exact hK _ _ hh
 ·intro j v hv
  have hj : j < (byteV l).length := (List.getElem?_eq_some_iff.1 hv).1
  simp [World.cell?, hH, List.getElem?_append, hj, ← hv]
 ·intro j hj
  have : j < (byteV l ++ cur.toList.drop l.length).length := by simp [byteV]; omega
  simp only [World.cell?, World.frozen?, hH]
  simp [byteV]
  omega
def lentY (l : List Int) : List Value := byteV (l ++ List.replicate 8 77)
theorem lentY_room (l : List Int) (k : Nat) (h1 : l.length ≤ k) (h2 : k < l.length + 8) : (lentY l)[k]? = some (.int .u8 77) := by
 rw [lentY, byteV, List.getElem?_map, List.getElem?_append_right h1, List.getElem?_replicate, if_pos (by omega)]; rfl
theorem lentY_elem (l : List Int) (k : Nat) (h : k < l.length) : (lentY l)[k]? = some (.int .u8 l[k]) := by
 rw [lentY, byteV, List.getElem?_map, List.getElem?_append_left h]; simp [h]
theorem lentY_length (l : List Int) : (lentY l).length = l.length + 8 := by simp [lentY, byteV]
theorem lentY_take (l : List Int) : (lentY l).take l.length = byteV l := by simp [lentY, byteV]
theorem strW_nil_eq (l : List Int) : ((strW l).toList == (⟨#[]⟩ : ByteArray).toList) = decide (l = []) := by
 cases l with
 | nil => simp [strW]
 | cons x l =>
  have : ¬ (strW (x :: l)).toList = (⟨#[]⟩ : ByteArray).toList := by
   rw [ByteArray.toList_eq, ByteArray.toList_eq]
   simp [strW]
  simpa using this
theorem lentBytes_some (l : List Int) (raw : Int) (w : World) (hl : l.length ≤ 1000000000) (hv : ∀ c ∈ l, 0 ≤ c ∧ c < 256) (hn : ¬ (l = [] ∧ Int.tmod raw 2 ≠ 0)) :
  Calls Tryz.prog 30 #[.string (strW l), .int .i64 raw] w fun e w' => ∃ g, w.heap.size ≤ g ∧ g < w'.heap.size ∧ e = .returned (.slice (some ⟨g, 0, none⟩) l.length (l.length + 8)) ∧ Below w.heap.size w w' ∧ RowAt w' g 0 (lentY l) ∧ Room w' g (l.length + 8) := by
 have Hv := hide hv
 have hz : (strW l).size = l.length := strW_size l
 have hq := strW_nil_eq l
 have hsz1 : (Tryz.prog.info? 5).map (·.size) = some 1 := by kernel_rfl
 have Hsz := hide hsz1
 clear hv hsz1
 have key : (strW l).toList ≠ [] ∨ ((strW l).toList = [] ∧ (Int.tmod raw 2 != 0) = false) := by
  by_cases h : l = []
  ·right
   refine ⟨by rw [h]; simp [strW], ?_⟩
   by_cases h2 : Int.tmod raw 2 = 0
   ·simpa using h2
   ·exact absurd ⟨h, h2⟩ hn
  ·left
   intro hc
   have := strW_nil_eq l
   rw [hc, decide_eq_false h] at this
   simp at this
 clear hn hq
 rcases key with hk | ⟨hk, hk2⟩
 all_goals
  go_enter Tryz.func30, Tryz.ntmps30
  go_wp2_with (first
   | (at_make; refine wpList_make_alloc _ rfl _ _ 56 rfl 5 (.int .u8 0) 1 1 Tryz.underlying56 Tryz.infoU8 _ _ _ _ (l.length + 8) rfl rfl (by simp) (by simp) (by omega) (by omega) ?_)
   | (refine wpList_copy_str rfl (.tmp 20) (.tmp 21) 56 9 rfl 5 Tryz.underlying56 Hsz.out w.heap.size (l.length + 8) (l.length + 8) l Hv.out rfl rfl (by omega) _ 5 (heap_new _ _) (by simp [size_madeCells]) ?_))
  intro w1 hon hrow hroom hsz
  rw [size_madeCells] at hroom
  have hb1 : Below w.heap.size w w1 := ((Below.refl _ _).alloc (Nat.le_refl _) _).trans (hon.below (by simp) (fun k hk => by omega))
  have Hlen := hide (lentY_length l)
  clear hon
  have hzz : w.heap.size < w1.heap.size := by rw [hsz]; simp
  clear hsz
  go_wp2
  go_loopw [7] (fun i wr => ∃ k : Nat, l.length ≤ k ∧ k ≤ l.length + 8 ∧ i = .int .i64 k ∧ Below w.heap.size w wr ∧ RowAt wr w.heap.size 0 ((lentY l).take k) ∧ Room wr w.heap.size (l.length + 8) ∧ w.heap.size < wr.heap.size) (fun i _ => l.length + 8 - (intOf i).toNat)
  case atStart => exact ⟨l.length, Nat.le_refl _, by omega, rfl, hb1, by rw [lentY_take]; exact hrow, hroom, hzz⟩
  case round =>
   obtain ⟨k, hk1, hk2', rfl, hbel, hrw, hrm, hzr⟩ := hrel
   clear hrow hroom hb1 hzz
   by_cases hlt : k < l.length + 8
   ·obtain ⟨hs, hf⟩ := hrm k hlt
    obtain ⟨u, hu⟩ := Option.isSome_iff_exists.1 hs
    go_wp2
    go_roundw
    case rel =>
     refine ⟨k + 1, by omega, by omega, by go_num, hbel.setCell (by simp) _, ?_, hrm.setCell _ _, by simp [World.setCell]; omega⟩
     have := RowAt.snoc (X := lentY l) (b := w.heap.size) (off := 0) (w := wr) (n := k) (by rw [Hlen.out]; exact hlt) hrw (.int .u8 77) (lentY_room l k hk1 hlt) (by simpa using hs)
     simpa using this
    case measure => simp [intOf]; omega
   ·have hk : k = l.length + 8 := by omega
    rw [List.take_of_length_le (by rw [Hlen.out]; omega)] at hrw
    go_wp2
    go_ret
    exact ⟨w.heap.size, Nat.le_refl _, hzr, by simp, hbel, hrw, hrm⟩
theorem lentBytes_nil (raw : Int) (w : World) (hr : Int.tmod raw 2 ≠ 0) : Calls Tryz.prog 30 #[.string (strW []), .int .i64 raw] w fun e w' => e = .returned (.slice none 0 0) ∧ w' = w := by
 have hq : (strW []).toList = [] := by simp [strW]
 have hk2 : (Int.tmod raw 2 != 0) = true := by simpa using hr
 go_enter Tryz.func30, Tryz.ntmps30
 go_wp2
 go_ret
 exact ⟨rfl, rfl⟩
theorem wholeBytes_some (g : Nat) (l : List Int) (w : World) (hl : l.length ≤ 1000000000) (hv : ∀ c ∈ l, 0 ≤ c ∧ c < 256) (hr : RowAt w g 0 (lentY l)) (hm : Room w g (l.length + 8)) :
  Calls Tryz.prog 33 #[.slice (some ⟨g, 0, none⟩) l.length (l.length + 8), .string (strW l)] w fun e w' => e = .returned (.bool true) ∧ Only (· = g) w w' := by
 have hz : (strW l).size = l.length := strW_size l
 have hrb : RowAt w g 0 (byteV l) := by
  intro j v hv
  have hj : j < l.length := by have := (List.getElem?_eq_some_iff.1 hv).1; simpa [byteV] using this
  refine hr j v ?_
  rw [lentY_elem l j hj]
  simpa [byteV, hj] using hv
 have hcv := conv_win (cap := l.length + 8) hrb hv
 clear hrb hv
 go_enter Tryz.func33, Tryz.ntmps33
 go_wp2
 go_loopw [7, 8] (fun ok i wr => ∃ k : Nat, k ≤ l.length + 8 ∧ i = .int .i64 k ∧ ok = .bool true ∧ Only (· = g) w wr ∧ RowAt wr g k ((lentY l).drop k) ∧ Room wr g (l.length + 8)) (fun _ i _ => l.length + 8 - (intOf i).toNat)
 case atStart => exact ⟨0, by omega, rfl, rfl, Only.refl _ _, by simpa using hr, hm⟩
 case round =>
  obtain ⟨k, hk, rfl, rfl, hon, hrw, hrm⟩ := hrel
  clear hcv hr hm
  by_cases hlt : k < l.length + 8
  ·obtain ⟨hs, hf⟩ := hrm k hlt
   have hnext : RowAt (wr.setCell ⟨g, k, none⟩ (.int .u8 1)) g (k + 1) ((lentY l).drop (k + 1)) := by
    intro j v hv
    rw [World.cell?_setCell_other _ _ _ _ (by simp; try omega)]
    have := hrw (j + 1) v (by rw [List.getElem?_drop] at hv ⊢; rw [← hv]; congr 1; omega)
    rw [← this]; congr 2; omega
   have Hn := hide hnext
   clear hnext
   by_cases hl2 : k < l.length
   ·have hu : wr.cell? ⟨g, k, none⟩ = some (.int .u8 l[k]) := hrw 0 _ (by rw [List.getElem?_drop]; simpa using lentY_elem l k hl2)
    go_wp2
    go_roundw
    case rel => exact ⟨k + 1, by omega, by go_num, rfl, hon.setCell rfl _, Hn.out, hrm.setCell _ _⟩
    case measure => simp [intOf]; omega
   ·have hu : wr.cell? ⟨g, k, none⟩ = some (.int .u8 77) := hrw 0 _ (by rw [List.getElem?_drop]; simpa using lentY_room l k (by omega) hlt)
    go_wp2
    go_roundw
    case rel => exact ⟨k + 1, by omega, by go_num, rfl, hon.setCell rfl _, Hn.out, hrm.setCell _ _⟩
    case measure => simp [intOf]; omega
  ·go_wp2
   go_ret
   exact ⟨rfl, hon⟩
theorem wholeBytes_nil (v : Value) (w : World) : Calls Tryz.prog 33 #[.slice none 0 0, v] w fun e w' => e = .returned (.bool true) ∧ w' = w := by
 go_enter Tryz.func33, Tryz.ntmps33
 go_wp2
 go_ret
 exact ⟨rfl, rfl⟩
end Go.Proofs.YtndlmgocldckfaaGreat
