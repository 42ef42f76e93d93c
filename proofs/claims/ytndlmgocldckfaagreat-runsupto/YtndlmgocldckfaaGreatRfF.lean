import Derived.Test.YtndlmgocldckfaaGreatRqZ
namespace Go.Proofs.YtndlmgocldckfaaGreat
open Go.RowKit
set_option linter.unusedVariables false
set_option linter.unusedSimpArgs false

set_option maxRecDepth 100000 in
set_option maxHeartbeats 4000000 in
theorem does_sub {R : Nat → Prop} (cb gb : Nat) (ents : Int) (ks : List (List Ins)) (draws : List Int) (s : KS) (a b : Nat) (ha : a < 4) (hb : b < 4) (hok : ∀ j, -1000000000 ≤ s.regs j ∧ s.regs j ≤ 1000000000) (et en ek : Int) (E : Nat) (w : World) (h : RefC R w cb gb ents ks draws s) (he : 1 ≤ ents ∧ ents ≤ 8) (hE : (E : Int) < ents) :
    Calls Tryz.prog 117 #[.pointer (some ⟨cb, 0, none⟩), .agg #[.int .i64 3, .int .i64 (a : Int), .int .i64 (b : Int), .int .i64 0], .agg #[.int .i64 et, .int .i64 en, .int .i64 ek, .int .i64 (E : Int)]] w fun e w' => DoesPost R cb gb ents ks draws w ({ s with regs := putR s.regs (E * 4 + a) (cutF (s.regs (E * 4 + a) - s.regs (E * 4 + b))) }, [], 0) e w' := by
  obtain ⟨cap, r1, r2, r3⟩ := h.c6
  have H := hide h
  have hcl := lt_of_cell r1
  have hgl := lt_of_cell (h.regs 0 (by omega))
  obtain ⟨N, hN⟩ := Int.eq_ofNat_of_zero_le (show 0 ≤ ents * 4 by omega)
  have hNn : (ents * 4).toNat = N := by omega
  have hreg := h.regs
  have hrr := h.rroom
  rw [hNn] at r1 r2 hreg hrr
  have hEN : E * 4 + 4 ≤ N := by omega
  obtain ⟨F, hF⟩ : ∃ F, F = E * 4 := ⟨_, rfl⟩
  have w1 : IntKind.i64.wrap ((E : Int) * 4) = (F : Int) := by rw [IntKind.wrap_i64]; omega
  have w2 : IntKind.i64.wrap ((F : Int) + 4) = (F : Int) + 4 := by rw [IntKind.wrap_i64]; omega
  have b1 : (0 : Int) ≤ (F : Int) := by omega
  have b2 : (F : Int) ≤ (F : Int) + 4 := by omega
  have b3 : (F : Int) + 4 ≤ (cap : Int) := by omega
  have b4 : ¬ cap = F := by omega
  have b5 : F + 4 ≤ cap := by omega
  have b6 : F ≤ F + 4 := by omega
  have t4 : ((F : Int) + 4).toNat = F + 4 := by omega
  have t5 : F + 4 - F = 4 := by omega
  obtain ⟨W1, hW1⟩ : ∃ W1, W1 = (w.alloc (.cells #[.int .i64 3, .int .i64 (a : Int), .int .i64 (b : Int), .int .i64 0] 59)).alloc (.cells #[.int .i64 et, .int .i64 en, .int .i64 ek, .int .i64 (E : Int)] 143) := ⟨_, rfl⟩
  have hb1 : Below w.heap.size w W1 := by rw [hW1]; exact ((Below.refl _ _).alloc (Nat.le_refl _) _).alloc (by simp) _
  have hzW1 : W1.heap.size = w.heap.size + 2 := by rw [hW1]; simp
  have z1 := below_at hb1 r1 hcl
  have x3 : W1.cell? ⟨w.heap.size + 1, 3, none⟩ = some (.int .i64 (E : Int)) := by rw [hW1]; simp [go_sem]
  have y0 : W1.cell? ⟨w.heap.size, 0, none⟩ = some (.int .i64 3) := by rw [hW1]; simp [go_sem]
  have y1 : W1.cell? ⟨w.heap.size, 1, none⟩ = some (.int .i64 (a : Int)) := by rw [hW1]; simp [go_sem]
  have y2 : W1.cell? ⟨w.heap.size, 2, none⟩ = some (.int .i64 (b : Int)) := by rw [hW1]; simp [go_sem]
  have y3 : W1.cell? ⟨w.heap.size, 3, none⟩ = some (.int .i64 0) := by rw [hW1]; simp [go_sem]
  have hreg1 : ∀ i, i < 4 → W1.cell? ⟨gb, F + i, none⟩ = some (.int .i64 (s.regs (E * 4 + i))) := fun i hi => by rw [hF]; exact below_at hb1 (hreg (E * 4 + i) (by omega)) hgl
  have hfro1 : ∀ i, i < 4 → W1.frozen? ⟨gb, F + i, none⟩ = false := fun i hi => by rw [hF]; exact (hb1.frozen (p := ⟨gb, E * 4 + i, none⟩) hgl).trans (hrr (E * 4 + i) (by omega)).2
  have Hreg1 := hide hreg1
  have Hfro1 := hide hfro1
  have HB1 := hide hb1
  have HF := hide hF
  have H1 := hide (H.out.only (Only.new (S := fun _ => False) hb1) (by simp) (by simp) (by simp))
  have HNn := hide hNn
  have b7 : (0 : Int) ≤ (a : Int) := by omega
  have b8 : (a : Int) < 4 := by omega
  have c7 : (0 : Int) ≤ (b : Int) := by omega
  have c8 : (b : Int) < 4 := by omega
  clear h hb1 hF hreg hrr hreg1 hfro1 hN hNn
  go_enter Tryz.func117, Tryz.ntmps117
  go_wp2_with fail
  rw [← hW1]
  clear hW1
  go_quiet (fail)
  obtain ⟨W2, hW2⟩ : ∃ W2, W2 = W1.drewN nq := ⟨_, rfl⟩
  rw [← hW2]
  have hb2 : Below W1.heap.size W1 W2 := by rw [hW2]; exact below_drewN (Below.refl _ _) _
  have hz2 := hb2.size
  replace y0 := below_at hb2 y0 (by omega)
  replace y1 := below_at hb2 y1 (by omega)
  replace y2 := below_at hb2 y2 (by omega)
  replace y3 := below_at hb2 y3 (by omega)
  have Hreg2 : Hid (∀ i, i < 4 → W2.cell? ⟨gb, F + i, none⟩ = some (.int .i64 (s.regs (E * 4 + i)))) := fun i hi => below_at hb2 (Hreg1.out i hi) (by omega)
  have Hfro2 : Hid (∀ i, i < 4 → W2.frozen? ⟨gb, F + i, none⟩ = false) := fun i hi => (hb2.frozen (p := ⟨gb, F + i, none⟩) (by show gb < _; omega)).trans (Hfro1.out i hi)
  have H2 := hide (H1.out.only (Only.new (S := fun _ => False) hb2) (by simp) (by simp) (by simp))
  have HB2 : Hid (Below w.heap.size w W2) := HB1.out.trans (hb2.mono (by omega))
  clear hW2 hb2 x3 z1
  have HS : Hid (RefC R (W2.setCell ⟨gb, F + a, none⟩ (.int .i64 (cutF (s.regs (E * 4 + a) - s.regs (E * 4 + b))))) cb gb ents ks draws { s with regs := putR s.regs (E * 4 + a) (cutF (s.regs (E * 4 + a) - s.regs (E * 4 + b))) }) := by rw [HF.out]; exact H2.out.setReg (by have := HNn.out; omega) _
  have HO : Hid (Only (fun b => b = cb ∨ b = gb) w (W2.setCell ⟨gb, F + a, none⟩ (.int .i64 (cutF (s.regs (E * 4 + a) - s.regs (E * 4 + b)))))) := (Only.new HB2.out).setCell (p := ⟨gb, F + a, none⟩) (.inr rfl) _
  have ca := Hreg2.out a ha
  have fa := Hfro2.out a ha
  have cb2 := Hreg2.out b hb
  have hka := hok (E * 4 + a)
  have hkb := hok (E * 4 + b)
  have Hcut := hide (cutR_any (s.regs (E * 4 + a) - s.regs (E * 4 + b)))
  obtain ⟨va, hva⟩ : ∃ va, va = s.regs (E * 4 + a) := ⟨_, rfl⟩
  obtain ⟨vb, hvb⟩ : ∃ vb, vb = s.regs (E * 4 + b) := ⟨_, rfl⟩
  have HQ : Hid (∀ W', W' = (W2.setCell ⟨gb, F + a, none⟩ (.int .i64 (cutF (va - vb)))).drew → DoesPost R cb gb ents ks draws w ({ s with regs := putR s.regs (E * 4 + a) (cutF (s.regs (E * 4 + a) - s.regs (E * 4 + b))) }, [], 0) (.returned (.tuple #[.slice none 0 0, .int .i64 0])) W') := by
    rintro W' rfl
    rw [hva, hvb]
    exact doesPost_plain hcl hgl (HO.out.trans (Only.new (Below.refl _ _).drew)) (HS.out.only (Only.new (S := fun _ => False) (Below.refl _ _).drew) (by simp) (by simp) (by simp))
  rw [← hva] at ca hka Hcut
  rw [← hvb] at cb2 hkb Hcut
  clear hva hvb
  clear HS HO hok H2 HB2 Hreg2 Hfro2 HNn HB1 H1 Hreg1 Hfro1 H hz2 hzW1 w1 w2 b1 b2 b3 b4 b5 b6 t4 t5 r1 r2 r3 hcl hgl he hE hEN
  have wv : IntKind.i64.wrap (va - vb) = va - vb := by rw [IntKind.wrap_i64]; omega
  clear hka hkb
  have cad : W2.drew.cell? ⟨gb, F + a, none⟩ = some (.int .i64 va) := ca
  have cbd : W2.drew.cell? ⟨gb, F + b, none⟩ = some (.int .i64 vb) := cb2
  have fad : W2.drew.frozen? ⟨gb, F + a, none⟩ = false := fa
  go_wp2_with fail
  go_region_law (first | (go_simp; go_at_call 129; refine (Hcut.out _).mono ?_; rintro e' w3 ⟨rfl, rfl⟩))
  all_goals
    go_wp2_with fail
    go_ret2
    exact HQ.out _ rfl

end Go.Proofs.YtndlmgocldckfaaGreat
