import Derived.Test.YtndlmgocldckfaaGreatG23
namespace Go.Proofs.YtndlmgocldckfaaGreat
open Go.RowKit
set_option linter.unusedVariables false
set_option linter.unusedSimpArgs false
set_option maxRecDepth 100000
set_option maxHeartbeats 4000000
section
variable {R : Nat → Prop} {w w' : World} {cb gb : Nat} {ents : Int} {ks : List (List Ins)} {draws : List Int} {s : KS}
theorem RefC.setReg (h : RefC R w cb gb ents ks draws s) {i : Nat} (hi : i < (ents * 4).toNat) (v : Int) : RefC R (w.setCell ⟨gb, i, none⟩ (.int .i64 v)) cb gb ents ks draws { s with regs := putR s.regs i v } := by
 have hne := h.ne
 have ho : Only (· = gb) w (w.setCell ⟨gb, i, none⟩ (.int .i64 v)) := (Only.refl (· = gb) w).setCell (p := ⟨gb, i, none⟩) (show gb = gb from rfl) _
 have hR : ∀ b, R b → ¬ b = gb := fun b hb => (h.far b hb).2.2
 obtain ⟨kv, k1, k2⟩ := h.kinds
 obtain ⟨dv, d1, d2⟩ := h.draw
 obtain ⟨cap, r1, r2, r3⟩ := h.c6
 obtain ⟨qv, q1, q2⟩ := h.que
 refine ⟨ho.at h.c0 hne, ⟨kv, ho.at k1 hne, k2.only ho hR⟩, ⟨dv, ho.at d1 hne, d2.only ho hR⟩, ho.at h.c3 hne, ho.at h.c4 hne, ho.at h.c5 hne, ⟨cap, ho.at r1 hne, r2, r3⟩, ?_, h.rroom.setCell _ _, ⟨qv, ho.at q1 hne, q2.only ho hR⟩, h.room.only ho hne, h.ne, fun b hb => ⟨by have := (h.far b hb).1; simpa [World.setCell] using this, (h.far b hb).2⟩⟩
 intro j hj
 by_cases hji : j = i
 ·subst hji
  simp only [putR, if_true]
  exact World.cell?_setCell_same' _ _ _ (h.rroom j hj).1
 ·rw [World.cell?_setCell_other _ _ _ _ (by simp <;> omega)]
  simp only [putR]
  rw [if_neg hji]
  exact h.regs j hj
theorem RefC.wide (h : RefC R w cb gb ents ks draws s) {z : Nat} (hc : cb < z) (hg : gb < z) : RefC (fun b => R b ∨ (z ≤ b ∧ b < w.heap.size)) w cb gb ents ks draws s := by
 obtain ⟨kv, k1, k2⟩ := h.kinds
 obtain ⟨dv, d1, d2⟩ := h.draw
 obtain ⟨qv, q1, q2⟩ := h.que
 refine ⟨h.c0, ⟨kv, k1, k2.mono (fun b hb => .inl hb)⟩, ⟨dv, d1, d2.mono (fun b hb => .inl hb)⟩, h.c3, h.c4, h.c5, h.c6, h.regs, h.rroom, ⟨qv, q1, q2.mono (fun b hb => .inl hb)⟩, h.room, h.ne, ?_⟩
 rintro b (hb | hb)
 ·exact h.far b hb
 ·exact ⟨hb.2, by omega, by omega⟩
theorem RefC.wrote (h : RefC R w cb gb ents ks draws s) {o : Nat} {v : Value} {s' : KS} (ho : o = 3 ∨ o = 4 ∨ o = 7) (hr : s'.regs = s.regs) (hn : s'.next = s.next)
  (h3 : (w.setCell ⟨cb, o, none⟩ v).cell? ⟨cb, 3, none⟩ = some (.int .i64 s'.taken)) (h4 : (w.setCell ⟨cb, o, none⟩ v).cell? ⟨cb, 4, none⟩ = some (.int .i64 s'.clock))
  (hq : ∃ qv, (w.setCell ⟨cb, o, none⟩ v).cell? ⟨cb, 7, none⟩ = some qv ∧ EvsIn R (w.setCell ⟨cb, o, none⟩ v) qv s'.q) : RefC R (w.setCell ⟨cb, o, none⟩ v) cb gb ents ks draws s' := by
 have hon : Only (· = cb) w (w.setCell ⟨cb, o, none⟩ v) := (Only.refl (· = cb) w).setCell (p := ⟨cb, o, none⟩) (show cb = cb from rfl) _
 have hR : ∀ b, R b → ¬ b = cb := fun b hb => (h.far b hb).2.1
 have oth : ∀ i u, i ≠ 3 → i ≠ 4 → i ≠ 7 → w.cell? ⟨cb, i, none⟩ = some u → (w.setCell ⟨cb, o, none⟩ v).cell? ⟨cb, i, none⟩ = some u := fun i u _ _ _ hu => (World.cell?_setCell_other _ _ _ _ (by simp <;> omega)).trans hu
 obtain ⟨kv, k1, k2⟩ := h.kinds
 obtain ⟨dv, d1, d2⟩ := h.draw
 obtain ⟨cap, r1, r2, r3⟩ := h.c6
 refine ⟨oth 0 _ (by omega) (by omega) (by omega) h.c0, ⟨kv, oth 1 _ (by omega) (by omega) (by omega) k1, k2.only hon hR⟩, ⟨dv, oth 2 _ (by omega) (by omega) (by omega) d1, d2.only hon hR⟩, h3, h4, ?_, ⟨cap, oth 6 _ (by omega) (by omega) (by omega) r1, r2, r3⟩, fun j hj => ?_, h.rroom.only hon (Ne.symm h.ne), hq, h.room.setCell _ _, h.ne, fun b hb => ⟨Nat.lt_of_lt_of_le (h.far b hb).1 hon.size, (h.far b hb).2⟩⟩
 ·rw [hn]; exact oth 5 _ (by omega) (by omega) (by omega) h.c5
 ·rw [hr]; exact hon.at (h.regs j hj) (Ne.symm h.ne)
theorem RefC.setTaken (h : RefC R w cb gb ents ks draws s) (t : Nat) : RefC R (w.setCell ⟨cb, 3, none⟩ (.int .i64 (t : Int))) cb gb ents ks draws { s with taken := t } := by
 obtain ⟨qv, q1, q2⟩ := h.que
 have hon : Only (· = cb) w (w.setCell ⟨cb, 3, none⟩ (.int .i64 (t : Int))) := (Only.refl (· = cb) w).setCell (p := ⟨cb, 3, none⟩) (show cb = cb from rfl) _
 exact h.wrote (.inl rfl) rfl rfl (World.cell?_setCell_same _ _ _ h.c3) ((World.cell?_setCell_other _ _ _ _ (by simp)).trans h.c4) ⟨qv, (World.cell?_setCell_other _ _ _ _ (by simp)).trans q1, q2.only hon (fun b hb => (h.far b hb).2.1)⟩
theorem RefC.setClock (h : RefC R w cb gb ents ks draws s) (t : Int) : RefC R (w.setCell ⟨cb, 4, none⟩ (.int .i64 t)) cb gb ents ks draws { s with clock := t } := by
 obtain ⟨qv, q1, q2⟩ := h.que
 have hon : Only (· = cb) w (w.setCell ⟨cb, 4, none⟩ (.int .i64 t)) := (Only.refl (· = cb) w).setCell (p := ⟨cb, 4, none⟩) (show cb = cb from rfl) _
 exact h.wrote (.inr (.inl rfl)) rfl rfl ((World.cell?_setCell_other _ _ _ _ (by simp)).trans h.c3) (World.cell?_setCell_same _ _ _ h.c4) ⟨qv, (World.cell?_setCell_other _ _ _ _ (by simp)).trans q1, q2.only hon (fun b hb => (h.far b hb).2.1)⟩
theorem RefC.setQueue (h : RefC R w cb gb ents ks draws s) (v : Value) (q : List Ev) (hv : EvsIn R w v q) : RefC R (w.setCell ⟨cb, 7, none⟩ v) cb gb ents ks draws { s with q := q } := by
 have hon : Only (· = cb) w (w.setCell ⟨cb, 7, none⟩ v) := (Only.refl (· = cb) w).setCell (p := ⟨cb, 7, none⟩) (show cb = cb from rfl) _
 exact h.wrote (.inr (.inr rfl)) rfl rfl ((World.cell?_setCell_other _ _ _ _ (by simp)).trans h.c3) ((World.cell?_setCell_other _ _ _ _ (by simp)).trans h.c4) ⟨v, World.cell?_setCell_same' _ _ _ (h.room 7 (by omega)).1, hv.only hon (fun b hb => (h.far b hb).2.1)⟩
theorem RefC.planned (h : RefC R w cb gb ents ks draws s) {q : List Ev} (hz : cb < w.heap.size ∧ gb < w.heap.size) (ho : Only (· = cb) w w') (hp : PlanMore w w' cb s.next q) : RefC (fun b => R b ∨ (w.heap.size ≤ b ∧ b < w'.heap.size)) w' cb gb ents ks draws { s with q := q, next := s.next + 1 } := by
 obtain ⟨hk, h5, ⟨qv, q1, q2⟩, hrm⟩ := hp
 have hR : ∀ b, R b → ¬ b = cb := fun b hb => (h.far b hb).2.1
 obtain ⟨kv, k1, k2⟩ := h.kinds
 obtain ⟨dv, d1, d2⟩ := h.draw
 obtain ⟨cap, r1, r2, r3⟩ := h.c6
 refine ⟨hk 0 _ (by omega) (by omega) h.c0, ⟨kv, hk 1 _ (by omega) (by omega) k1, (k2.only ho hR).mono (fun b hb => .inl hb)⟩, ⟨dv, hk 2 _ (by omega) (by omega) d1, (d2.only ho hR).mono (fun b hb => .inl hb)⟩, hk 3 _ (by omega) (by omega) h.c3, hk 4 _ (by omega) (by omega) h.c4, h5, ⟨cap, hk 6 _ (by omega) (by omega) r1, r2, r3⟩, fun j hj => ho.at (h.regs j hj) (Ne.symm h.ne), h.rroom.only ho (Ne.symm h.ne), ⟨qv, q1, q2.mono (fun b hb => .inr hb)⟩, hrm, h.ne, ?_⟩
 rintro b (hb | hb)
 ·exact ⟨Nat.lt_of_lt_of_le (h.far b hb).1 ho.size, (h.far b hb).2⟩
 ·exact ⟨hb.2, by omega, by omega⟩
end
def DoesPost (R : Nat → Prop) (cb gb : Nat) (ents : Int) (ks : List (List Ins)) (draws : List Int) (w : World) (F : KS × List Int × Int) (e : Ending) (w' : World) : Prop :=
 ∃ ta tc, e = .returned (.tuple #[.slice ta F.2.1.length tc, .int .i64 F.2.2]) ∧ Only (fun b => b = cb ∨ b = gb) w w' ∧ (F.2.2 = 0 → RefC (fun b => R b ∨ (w.heap.size ≤ b ∧ b < w'.heap.size)) w' cb gb ents ks draws F.1 ∧ IntsIn (fun b => w.heap.size ≤ b ∧ b < w'.heap.size) w' (.slice ta F.2.1.length tc) F.2.1)
theorem doesPost_plain {R : Nat → Prop} {cb gb : Nat} {ents : Int} {ks : List (List Ins)} {draws : List Int} {w w' : World} {s' : KS} (hc : cb < w.heap.size) (hg : gb < w.heap.size) (ho : Only (fun b => b = cb ∨ b = gb) w w') (h : RefC R w' cb gb ents ks draws s') :
  DoesPost R cb gb ents ks draws w (s', [], 0) (.returned (.tuple #[.slice none 0 0, .int .i64 0])) w' :=
 ⟨_, _, rfl, ho, fun _ => ⟨h.wide hc hg, by simp, .inl ⟨rfl, rfl⟩⟩⟩
theorem doesPost_stop {R : Nat → Prop} {cb gb : Nat} {ents : Int} {ks : List (List Ins)} {draws : List Int} {w w' : World} {s' : KS} {why : Int} (hw : why ≠ 0) (ho : Only (fun b => b = cb ∨ b = gb) w w') :
  DoesPost R cb gb ents ks draws w (s', [], why) (.returned (.tuple #[.slice none 0 0, .int .i64 why])) w' :=
 ⟨_, _, rfl, ho, fun h => absurd h hw⟩
theorem does_set {R : Nat → Prop} (cb gb : Nat) (ents : Int) (ks : List (List Ins)) (draws : List Int) (s : KS) (a : Nat) (xb : Int) (ha : a < 4) (et en ek : Int) (E : Nat) (w : World) (h : RefC R w cb gb ents ks draws s) (he : 1 ≤ ents ∧ ents ≤ 8) (hE : (E : Int) < ents) :
  Calls Tryz.prog 117 #[.pointer (some ⟨cb, 0, none⟩), .agg #[.int .i64 1, .int .i64 (a : Int), .int .i64 xb, .int .i64 0], .agg #[.int .i64 et, .int .i64 en, .int .i64 ek, .int .i64 (E : Int)]] w fun e w' => DoesPost R cb gb ents ks draws w ({ s with regs := putR s.regs (E * 4 + a) xb }, [], 0) e w' := by
 obtain ⟨cap, r1, r2, r3⟩ := h.c6
 have H := hide h
 have hcl := lt_of_cell r1
 have hgl := lt_of_cell (h.regs 0 (by omega))
 obtain ⟨N, hN⟩ := Int.eq_ofNat_of_zero_le (show 0 ≤ ents * 4 by omega)
 have hNn : (ents * 4).toNat = N := by omega
 have hreg := h.regs
 have hrr := h.rroom
 rw [hNn] at r1 r2 hreg hrr
 have hEN : E * 4 + 4 ≤ N := by omega
 obtain ⟨F, hF⟩ : ∃ F, F = E * 4 := ⟨_, rfl⟩
 have w1 : IntKind.i64.wrap ((E : Int) * 4) = (F : Int) := by rw [IntKind.wrap_i64]; omega
 have w2 : IntKind.i64.wrap ((F : Int) + 4) = (F : Int) + 4 := by rw [IntKind.wrap_i64]; omega
 have b1 : (0 : Int) ≤ (F : Int) := by omega
 have b2 : (F : Int) ≤ (F : Int) + 4 := by omega
 have b3 : (F : Int) + 4 ≤ (cap : Int) := by omega
 have b4 : ¬ cap = F := by omega
 have b5 : F + 4 ≤ cap := by omega
 have b6 : F ≤ F + 4 := by omega
 have t4 : ((F : Int) + 4).toNat = F + 4 := by omega
 have t5 : F + 4 - F = 4 := by omega
 obtain ⟨W1, hW1⟩ : ∃ W1, W1 = (w.alloc (.cells #[.int .i64 1, .int .i64 (a : Int), .int .i64 xb, .int .i64 0] 59)).alloc (.cells #[.int .i64 et, .int .i64 en, .int .i64 ek, .int .i64 (E : Int)] 143) := ⟨_, rfl⟩
 have hb1 : Below w.heap.size w W1 := by rw [hW1]; exact ((Below.refl _ _).alloc (Nat.le_refl _) _).alloc (by simp) _
 have hzW1 : W1.heap.size = w.heap.size + 2 := by rw [hW1]; simp
 have z1 := below_at hb1 r1 hcl
 have x3 : W1.cell? ⟨w.heap.size + 1, 3, none⟩ = some (.int .i64 (E : Int)) := by rw [hW1]; simp [go_sem]
 have y0 : W1.cell? ⟨w.heap.size, 0, none⟩ = some (.int .i64 1) := by rw [hW1]; simp [go_sem]
 have y1 : W1.cell? ⟨w.heap.size, 1, none⟩ = some (.int .i64 (a : Int)) := by rw [hW1]; simp [go_sem]
 have y2 : W1.cell? ⟨w.heap.size, 2, none⟩ = some (.int .i64 xb) := by rw [hW1]; simp [go_sem]
 have y3 : W1.cell? ⟨w.heap.size, 3, none⟩ = some (.int .i64 0) := by rw [hW1]; simp [go_sem]
 have hreg1 : ∀ i, i < 4 → W1.cell? ⟨gb, F + i, none⟩ = some (.int .i64 (s.regs (E * 4 + i))) := fun i hi => by rw [hF]; exact below_at hb1 (hreg (E * 4 + i) (by omega)) hgl
 have hfro1 : ∀ i, i < 4 → W1.frozen? ⟨gb, F + i, none⟩ = false := fun i hi => by rw [hF]; exact (hb1.frozen (p := ⟨gb, E * 4 + i, none⟩) hgl).trans (hrr (E * 4 + i) (by omega)).2
 have Hreg1 := hide hreg1
 have Hfro1 := hide hfro1
 have HB1 := hide hb1
 have HF := hide hF
 have H1 := hide (H.out.only (Only.new (S := fun _ => False) hb1) (by simp) (by simp) (by simp))
 have HNn := hide hNn
 have b7 : (0 : Int) ≤ (a : Int) := by omega
 have b8 : (a : Int) < 4 := by omega
 clear h hb1 hF hreg hrr hreg1 hfro1 hN hNn
 go_enter Tryz.func117, Tryz.ntmps117
 go_wp2_with fail
 rw [← hW1]
 clear hW1
 go_quiet (fail)
 obtain ⟨W2, hW2⟩ : ∃ W2, W2 = W1.drewN nq := ⟨_, rfl⟩
 rw [← hW2]
 have hb2 : Below W1.heap.size W1 W2 := by rw [hW2]; exact below_drewN (Below.refl _ _) _
 have hz2 := hb2.size
 replace y0 := below_at hb2 y0 (by omega)
 replace y1 := below_at hb2 y1 (by omega)
 replace y2 := below_at hb2 y2 (by omega)
 replace y3 := below_at hb2 y3 (by omega)
 have Hreg2 : Hid (∀ i, i < 4 → W2.cell? ⟨gb, F + i, none⟩ = some (.int .i64 (s.regs (E * 4 + i)))) := fun i hi => below_at hb2 (Hreg1.out i hi) (by omega)
 have Hfro2 : Hid (∀ i, i < 4 → W2.frozen? ⟨gb, F + i, none⟩ = false) := fun i hi => (hb2.frozen (p := ⟨gb, F + i, none⟩) (by show gb < _; omega)).trans (Hfro1.out i hi)
 have H2 := hide (H1.out.only (Only.new (S := fun _ => False) hb2) (by simp) (by simp) (by simp))
 have HB2 : Hid (Below w.heap.size w W2) := HB1.out.trans (hb2.mono (by omega))
 clear hW2 hb2 x3 z1
 have HS : Hid (RefC R (W2.setCell ⟨gb, F + a, none⟩ (.int .i64 xb)) cb gb ents ks draws { s with regs := putR s.regs (E * 4 + a) xb }) := by rw [HF.out]; exact H2.out.setReg (by have := HNn.out; omega) _
 have HO : Hid (Only (fun b => b = cb ∨ b = gb) w (W2.setCell ⟨gb, F + a, none⟩ (.int .i64 xb))) := (Only.new HB2.out).setCell (p := ⟨gb, F + a, none⟩) (.inr rfl) _
 have ca := Hreg2.out a ha
 have fa := Hfro2.out a ha
 go_wp2_with fail
 go_ret2
 exact doesPost_plain hcl hgl HO.out HS.out
theorem does_add {R : Nat → Prop} (cb gb : Nat) (ents : Int) (ks : List (List Ins)) (draws : List Int) (s : KS) (a b : Nat) (ha : a < 4) (hb : b < 4) (hok : ∀ j, -1000000000 ≤ s.regs j ∧ s.regs j ≤ 1000000000) (et en ek : Int) (E : Nat) (w : World) (h : RefC R w cb gb ents ks draws s) (he : 1 ≤ ents ∧ ents ≤ 8) (hE : (E : Int) < ents) :
  Calls Tryz.prog 117 #[.pointer (some ⟨cb, 0, none⟩), .agg #[.int .i64 2, .int .i64 (a : Int), .int .i64 (b : Int), .int .i64 0], .agg #[.int .i64 et, .int .i64 en, .int .i64 ek, .int .i64 (E : Int)]] w fun e w' => DoesPost R cb gb ents ks draws w ({ s with regs := putR s.regs (E * 4 + a) (cutF (s.regs (E * 4 + a) + s.regs (E * 4 + b))) }, [], 0) e w' := by
 obtain ⟨cap, r1, r2, r3⟩ := h.c6
 have H := hide h
 have hcl := lt_of_cell r1
 have hgl := lt_of_cell (h.regs 0 (by omega))
 obtain ⟨N, hN⟩ := Int.eq_ofNat_of_zero_le (show 0 ≤ ents * 4 by omega)
 have hNn : (ents * 4).toNat = N := by omega
 have hreg := h.regs
 have hrr := h.rroom
 rw [hNn] at r1 r2 hreg hrr
 have hEN : E * 4 + 4 ≤ N := by omega
 obtain ⟨F, hF⟩ : ∃ F, F = E * 4 := ⟨_, rfl⟩
 have w1 : IntKind.i64.wrap ((E : Int) * 4) = (F : Int) := by rw [IntKind.wrap_i64]; omega
 have w2 : IntKind.i64.wrap ((F : Int) + 4) = (F : Int) + 4 := by rw [IntKind.wrap_i64]; omega
 have b1 : (0 : Int) ≤ (F : Int) := by omega
 have b2 : (F : Int) ≤ (F : Int) + 4 := by omega
 have b3 : (F : Int) + 4 ≤ (cap : Int) := by omega
 have b4 : ¬ cap = F := by omega
 have b5 : F + 4 ≤ cap := by omega
 have b6 : F ≤ F + 4 := by omega
 have t4 : ((F : Int) + 4).toNat = F + 4 := by omega
 have t5 : F + 4 - F = 4 := by omega
 obtain ⟨W1, hW1⟩ : ∃ W1, W1 = (w.alloc (.cells #[.int .i64 2, .int .i64 (a : Int), .int .i64 (b : Int), .int .i64 0] 59)).alloc (.cells #[.int .i64 et, .int .i64 en, .int .i64 ek, .int .i64 (E : Int)] 143) := ⟨_, rfl⟩
 have hb1 : Below w.heap.size w W1 := by rw [hW1]; exact ((Below.refl _ _).alloc (Nat.le_refl _) _).alloc (by simp) _
 have hzW1 : W1.heap.size = w.heap.size + 2 := by rw [hW1]; simp
 have z1 := below_at hb1 r1 hcl
 have x3 : W1.cell? ⟨w.heap.size + 1, 3, none⟩ = some (.int .i64 (E : Int)) := by rw [hW1]; simp [go_sem]
 have y0 : W1.cell? ⟨w.heap.size, 0, none⟩ = some (.int .i64 2) := by rw [hW1]; simp [go_sem]
 have y1 : W1.cell? ⟨w.heap.size, 1, none⟩ = some (.int .i64 (a : Int)) := by rw [hW1]; simp [go_sem]
 have y2 : W1.cell? ⟨w.heap.size, 2, none⟩ = some (.int .i64 (b : Int)) := by rw [hW1]; simp [go_sem]
 have y3 : W1.cell? ⟨w.heap.size, 3, none⟩ = some (.int .i64 0) := by rw [hW1]; simp [go_sem]
 have hreg1 : ∀ i, i < 4 → W1.cell? ⟨gb, F + i, none⟩ = some (.int .i64 (s.regs (E * 4 + i))) := fun i hi => by rw [hF]; exact below_at hb1 (hreg (E * 4 + i) (by omega)) hgl
 have hfro1 : ∀ i, i < 4 → W1.frozen? ⟨gb, F + i, none⟩ = false := fun i hi => by rw [hF]; exact (hb1.frozen (p := ⟨gb, E * 4 + i, none⟩) hgl).trans (hrr (E * 4 + i) (by omega)).2
 have Hreg1 := hide hreg1
 have Hfro1 := hide hfro1
 have HB1 := hide hb1
 have HF := hide hF
 have H1 := hide (H.out.only (Only.new (S := fun _ => False) hb1) (by simp) (by simp) (by simp))
 have HNn := hide hNn
 have b7 : (0 : Int) ≤ (a : Int) := by omega
 have b8 : (a : Int) < 4 := by omega
 have c7 : (0 : Int) ≤ (b : Int) := by omega
 have c8 : (b : Int) < 4 := by omega
 clear h hb1 hF hreg hrr hreg1 hfro1 hN hNn
 go_enter Tryz.func117, Tryz.ntmps117
 go_wp2_with fail
 rw [← hW1]
 clear hW1
 go_quiet (fail)
 obtain ⟨W2, hW2⟩ : ∃ W2, W2 = W1.drewN nq := ⟨_, rfl⟩
 rw [← hW2]
 have hb2 : Below W1.heap.size W1 W2 := by rw [hW2]; exact below_drewN (Below.refl _ _) _
 have hz2 := hb2.size
 replace y0 := below_at hb2 y0 (by omega)
 replace y1 := below_at hb2 y1 (by omega)
 replace y2 := below_at hb2 y2 (by omega)
 replace y3 := below_at hb2 y3 (by omega)
 have Hreg2 : Hid (∀ i, i < 4 → W2.cell? ⟨gb, F + i, none⟩ = some (.int .i64 (s.regs (E * 4 + i)))) := fun i hi => below_at hb2 (Hreg1.out i hi) (by omega)
 have Hfro2 : Hid (∀ i, i < 4 → W2.frozen? ⟨gb, F + i, none⟩ = false) := fun i hi => (hb2.frozen (p := ⟨gb, F + i, none⟩) (by show gb < _; omega)).trans (Hfro1.out i hi)
 have H2 := hide (H1.out.only (Only.new (S := fun _ => False) hb2) (by simp) (by simp) (by simp))
 have HB2 : Hid (Below w.heap.size w W2) := HB1.out.trans (hb2.mono (by omega))
 clear hW2 hb2 x3 z1
 have HS : Hid (RefC R (W2.setCell ⟨gb, F + a, none⟩ (.int .i64 (cutF (s.regs (E * 4 + a) + s.regs (E * 4 + b))))) cb gb ents ks draws { s with regs := putR s.regs (E * 4 + a) (cutF (s.regs (E * 4 + a) + s.regs (E * 4 + b))) }) := by rw [HF.out]; exact H2.out.setReg (by have := HNn.out; omega) _
 have HO : Hid (Only (fun b => b = cb ∨ b = gb) w (W2.setCell ⟨gb, F + a, none⟩ (.int .i64 (cutF (s.regs (E * 4 + a) + s.regs (E * 4 + b)))))) := (Only.new HB2.out).setCell (p := ⟨gb, F + a, none⟩) (.inr rfl) _
 have ca := Hreg2.out a ha
 have fa := Hfro2.out a ha
 have cb2 := Hreg2.out b hb
 have hka := hok (E * 4 + a)
 have hkb := hok (E * 4 + b)
 have Hcut := hide (cutR_any (s.regs (E * 4 + a) + s.regs (E * 4 + b)))
 obtain ⟨va, hva⟩ : ∃ va, va = s.regs (E * 4 + a) := ⟨_, rfl⟩
 obtain ⟨vb, hvb⟩ : ∃ vb, vb = s.regs (E * 4 + b) := ⟨_, rfl⟩
 have HQ : Hid (∀ W', W' = (W2.setCell ⟨gb, F + a, none⟩ (.int .i64 (cutF (va + vb)))).drew → DoesPost R cb gb ents ks draws w ({ s with regs := putR s.regs (E * 4 + a) (cutF (s.regs (E * 4 + a) + s.regs (E * 4 + b))) }, [], 0) (.returned (.tuple #[.slice none 0 0, .int .i64 0])) W') := by
  rintro W' rfl
  rw [hva, hvb]
  exact doesPost_plain hcl hgl (HO.out.trans (Only.new (Below.refl _ _).drew)) (HS.out.only (Only.new (S := fun _ => False) (Below.refl _ _).drew) (by simp) (by simp) (by simp))
 rw [← hva] at ca hka Hcut
 rw [← hvb] at cb2 hkb Hcut
 clear hva hvb
 clear HS HO hok H2 HB2 Hreg2 Hfro2 HNn HB1 H1 Hreg1 Hfro1 H hz2 hzW1 w1 w2 b1 b2 b3 b4 b5 b6 t4 t5 r1 r2 r3 hcl hgl he hE hEN
 have wv : IntKind.i64.wrap (va + vb) = va + vb := by rw [IntKind.wrap_i64]; omega
 clear hka hkb
 have cad : W2.drew.cell? ⟨gb, F + a, none⟩ = some (.int .i64 va) := ca
 have cbd : W2.drew.cell? ⟨gb, F + b, none⟩ = some (.int .i64 vb) := cb2
 have fad : W2.drew.frozen? ⟨gb, F + a, none⟩ = false := fa
 go_wp2_with fail
 go_region_law (first | (go_simp; go_at_call 129; refine (Hcut.out _).mono ?_; rintro e' w3 ⟨rfl, rfl⟩))
 all_goals
  go_wp2_with fail
  go_ret2
  exact HQ.out _ rfl
theorem does_sub {R : Nat → Prop} (cb gb : Nat) (ents : Int) (ks : List (List Ins)) (draws : List Int) (s : KS) (a b : Nat) (ha : a < 4) (hb : b < 4) (hok : ∀ j, -1000000000 ≤ s.regs j ∧ s.regs j ≤ 1000000000) (et en ek : Int) (E : Nat) (w : World) (h : RefC R w cb gb ents ks draws s) (he : 1 ≤ ents ∧ ents ≤ 8) (hE : (E : Int) < ents) :
  Calls Tryz.prog 117 #[.pointer (some ⟨cb, 0, none⟩), .agg #[.int .i64 3, .int .i64 (a : Int), .int .i64 (b : Int), .int .i64 0], .agg #[.int .i64 et, .int .i64 en, .int .i64 ek, .int .i64 (E : Int)]] w fun e w' => DoesPost R cb gb ents ks draws w ({ s with regs := putR s.regs (E * 4 + a) (cutF (s.regs (E * 4 + a) - s.regs (E * 4 + b))) }, [], 0) e w' := by
 obtain ⟨cap, r1, r2, r3⟩ := h.c6
 have H := hide h
 have hcl := lt_of_cell r1
 have hgl := lt_of_cell (h.regs 0 (by omega))
 obtain ⟨N, hN⟩ := Int.eq_ofNat_of_zero_le (show 0 ≤ ents * 4 by omega)
 have hNn : (ents * 4).toNat = N := by omega
 have hreg := h.regs
 have hrr := h.rroom
 rw [hNn] at r1 r2 hreg hrr
 have hEN : E * 4 + 4 ≤ N := by omega
 obtain ⟨F, hF⟩ : ∃ F, F = E * 4 := ⟨_, rfl⟩
 have w1 : IntKind.i64.wrap ((E : Int) * 4) = (F : Int) := by rw [IntKind.wrap_i64]; omega
 have w2 : IntKind.i64.wrap ((F : Int) + 4) = (F : Int) + 4 := by rw [IntKind.wrap_i64]; omega
 have b1 : (0 : Int) ≤ (F : Int) := by omega
 have b2 : (F : Int) ≤ (F : Int) + 4 := by omega
 have b3 : (F : Int) + 4 ≤ (cap : Int) := by omega
 have b4 : ¬ cap = F := by omega
 have b5 : F + 4 ≤ cap := by omega
 have b6 : F ≤ F + 4 := by omega
 have t4 : ((F : Int) + 4).toNat = F + 4 := by omega
 have t5 : F + 4 - F = 4 := by omega
 obtain ⟨W1, hW1⟩ : ∃ W1, W1 = (w.alloc (.cells #[.int .i64 3, .int .i64 (a : Int), .int .i64 (b : Int), .int .i64 0] 59)).alloc (.cells #[.int .i64 et, .int .i64 en, .int .i64 ek, .int .i64 (E : Int)] 143) := ⟨_, rfl⟩
 have hb1 : Below w.heap.size w W1 := by rw [hW1]; exact ((Below.refl _ _).alloc (Nat.le_refl _) _).alloc (by simp) _
 have hzW1 : W1.heap.size = w.heap.size + 2 := by rw [hW1]; simp
 have z1 := below_at hb1 r1 hcl
 have x3 : W1.cell? ⟨w.heap.size + 1, 3, none⟩ = some (.int .i64 (E : Int)) := by rw [hW1]; simp [go_sem]
 have y0 : W1.cell? ⟨w.heap.size, 0, none⟩ = some (.int .i64 3) := by rw [hW1]; simp [go_sem]
 have y1 : W1.cell? ⟨w.heap.size, 1, none⟩ = some (.int .i64 (a : Int)) := by rw [hW1]; simp [go_sem]
 have y2 : W1.cell? ⟨w.heap.size, 2, none⟩ = some (.int .i64 (b : Int)) := by rw [hW1]; simp [go_sem]
 have y3 : W1.cell? ⟨w.heap.size, 3, none⟩ = some (.int .i64 0) := by rw [hW1]; simp [go_sem]
 have hreg1 : ∀ i, i < 4 → W1.cell? ⟨gb, F + i, none⟩ = some (.int .i64 (s.regs (E * 4 + i))) := fun i hi => by rw [hF]; exact below_at hb1 (hreg (E * 4 + i) (by omega)) hgl
 have hfro1 : ∀ i, i < 4 → W1.frozen? ⟨gb, F + i, none⟩ = false := fun i hi => by rw [hF]; exact (hb1.frozen (p := ⟨gb, E * 4 + i, none⟩) hgl).trans (hrr (E * 4 + i) (by omega)).2
 have Hreg1 := hide hreg1
 have Hfro1 := hide hfro1
 have HB1 := hide hb1
 have HF := hide hF
 have H1 := hide (H.out.only (Only.new (S := fun _ => False) hb1) (by simp) (by simp) (by simp))
 have HNn := hide hNn
 have b7 : (0 : Int) ≤ (a : Int) := by omega
 have b8 : (a : Int) < 4 := by omega
 have c7 : (0 : Int) ≤ (b : Int) := by omega
 have c8 : (b : Int) < 4 := by omega
 clear h hb1 hF hreg hrr hreg1 hfro1 hN hNn
 go_enter Tryz.func117, Tryz.ntmps117
 go_wp2_with fail
 rw [← hW1]
 clear hW1
 go_quiet (fail)
 obtain ⟨W2, hW2⟩ : ∃ W2, W2 = W1.drewN nq := ⟨_, rfl⟩
 rw [← hW2]
 have hb2 : Below W1.heap.size W1 W2 := by rw [hW2]; exact below_drewN (Below.refl _ _) _
 have hz2 := hb2.size
 replace y0 := below_at hb2 y0 (by omega)
 replace y1 := below_at hb2 y1 (by omega)
 replace y2 := below_at hb2 y2 (by omega)
 replace y3 := below_at hb2 y3 (by omega)
 have Hreg2 : Hid (∀ i, i < 4 → W2.cell? ⟨gb, F + i, none⟩ = some (.int .i64 (s.regs (E * 4 + i)))) := fun i hi => below_at hb2 (Hreg1.out i hi) (by omega)
 have Hfro2 : Hid (∀ i, i < 4 → W2.frozen? ⟨gb, F + i, none⟩ = false) := fun i hi => (hb2.frozen (p := ⟨gb, F + i, none⟩) (by show gb < _; omega)).trans (Hfro1.out i hi)
 have H2 := hide (H1.out.only (Only.new (S := fun _ => False) hb2) (by simp) (by simp) (by simp))
 have HB2 : Hid (Below w.heap.size w W2) := HB1.out.trans (hb2.mono (by omega))
 clear hW2 hb2 x3 z1
 have HS : Hid (RefC R (W2.setCell ⟨gb, F + a, none⟩ (.int .i64 (cutF (s.regs (E * 4 + a) - s.regs (E * 4 + b))))) cb gb ents ks draws { s with regs := putR s.regs (E * 4 + a) (cutF (s.regs (E * 4 + a) - s.regs (E * 4 + b))) }) := by rw [HF.out]; exact H2.out.setReg (by have := HNn.out; omega) _
 have HO : Hid (Only (fun b => b = cb ∨ b = gb) w (W2.setCell ⟨gb, F + a, none⟩ (.int .i64 (cutF (s.regs (E * 4 + a) - s.regs (E * 4 + b)))))) := (Only.new HB2.out).setCell (p := ⟨gb, F + a, none⟩) (.inr rfl) _
 have ca := Hreg2.out a ha
 have fa := Hfro2.out a ha
 have cb2 := Hreg2.out b hb
 have hka := hok (E * 4 + a)
 have hkb := hok (E * 4 + b)
 have Hcut := hide (cutR_any (s.regs (E * 4 + a) - s.regs (E * 4 + b)))
 obtain ⟨va, hva⟩ : ∃ va, va = s.regs (E * 4 + a) := ⟨_, rfl⟩
 obtain ⟨vb, hvb⟩ : ∃ vb, vb = s.regs (E * 4 + b) := ⟨_, rfl⟩
 have HQ : Hid (∀ W', W' = (W2.setCell ⟨gb, F + a, none⟩ (.int .i64 (cutF (va - vb)))).drew → DoesPost R cb gb ents ks draws w ({ s with regs := putR s.regs (E * 4 + a) (cutF (s.regs (E * 4 + a) - s.regs (E * 4 + b))) }, [], 0) (.returned (.tuple #[.slice none 0 0, .int .i64 0])) W') := by
  rintro W' rfl
  rw [hva, hvb]
  exact doesPost_plain hcl hgl (HO.out.trans (Only.new (Below.refl _ _).drew)) (HS.out.only (Only.new (S := fun _ => False) (Below.refl _ _).drew) (by simp) (by simp) (by simp))
 rw [← hva] at ca hka Hcut
 rw [← hvb] at cb2 hkb Hcut
 clear hva hvb
 clear HS HO hok H2 HB2 Hreg2 Hfro2 HNn HB1 H1 Hreg1 Hfro1 H hz2 hzW1 w1 w2 b1 b2 b3 b4 b5 b6 t4 t5 r1 r2 r3 hcl hgl he hE hEN
 have wv : IntKind.i64.wrap (va - vb) = va - vb := by rw [IntKind.wrap_i64]; omega
 clear hka hkb
 have cad : W2.drew.cell? ⟨gb, F + a, none⟩ = some (.int .i64 va) := ca
 have cbd : W2.drew.cell? ⟨gb, F + b, none⟩ = some (.int .i64 vb) := cb2
 have fad : W2.drew.frozen? ⟨gb, F + a, none⟩ = false := fa
 go_wp2_with fail
 go_region_law (first | (go_simp; go_at_call 129; refine (Hcut.out _).mono ?_; rintro e' w3 ⟨rfl, rfl⟩))
 all_goals
  go_wp2_with fail
  go_ret2
  exact HQ.out _ rfl
end Go.Proofs.YtndlmgocldckfaaGreat
