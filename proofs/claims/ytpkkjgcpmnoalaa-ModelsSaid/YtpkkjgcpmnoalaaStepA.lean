import Derived.Test.YtpkkjgcpmnoalaaStep
namespace Go.Proofs.Ytpkkjgcpmnoalaa
open Go.RowKit
set_option linter.unusedVariables false
set_option linter.unusedSimpArgs false

set_option maxRecDepth 100000 in
set_option maxHeartbeats 4000000 in
theorem step_asked {base : Nat} (wb : Nat) (lv : Value) (ps : List Pair) (o : OpD) (w : World) (h : Inv base w wb lv ps) (ho : OpOK base w o) (hk : o.kind = 3 ∨ o.kind = 5 ∨ o.kind = 6) (hps : 0 < ps.length) (hlen : (ps.length + 1) * 16 ≤ 140737488355328) :
    Calls Try.prog 7 #[.pointer (some ⟨wb, 0, none⟩), .agg #[.int .i64 o.kind, .int .i64 o.a, .int .i64 o.b, .int .i64 o.c, .int .i64 o.d, .int .i64 o.ents, o.kv, o.l, o.rv, o.qv, o.sv]] w
      fun e w' => e = .returned (.bool true) ∧ Below base w w' ∧ ∃ lv' ps', ps'.length ≤ ps.length + 1 ∧ Inv base w' wb lv' ps' := by
  have hbl : base ≤ w.heap.size := Nat.le_trans h.blo (Nat.le_of_lt h.wlt)
  obtain ⟨W, hW⟩ : ∃ W, W = w.alloc (.cells #[.int .i64 o.kind, .int .i64 o.a, .int .i64 o.b, .int .i64 o.c, .int .i64 o.d, .int .i64 o.ents, o.kv, o.l, o.rv, o.qv, o.sv] 41) := ⟨_, rfl⟩
  have hb : Below w.heap.size w W := by rw [hW]; exact (Below.refl _ _).alloc (Nat.le_refl _) _
  have hWs : W.heap.size = w.heap.size + 1 := by rw [hW]; simp
  have hI := h.below hb
  have c0 : W.cell? ⟨w.heap.size, 0, none⟩ = some (.int .i64 o.kind) := by rw [hW]; simp [go_sem]
  have c1 : W.cell? ⟨w.heap.size, 1, none⟩ = some (.int .i64 o.a) := by rw [hW]; simp [go_sem]
  have c2 : W.cell? ⟨w.heap.size, 2, none⟩ = some (.int .i64 o.b) := by rw [hW]; simp [go_sem]
  have c3 : W.cell? ⟨w.heap.size, 3, none⟩ = some (.int .i64 o.c) := by rw [hW]; simp [go_sem]
  have c4 : W.cell? ⟨w.heap.size, 4, none⟩ = some (.int .i64 o.d) := by rw [hW]; simp [go_sem]
  have c5 : W.cell? ⟨w.heap.size, 5, none⟩ = some (.int .i64 o.ents) := by rw [hW]; simp [go_sem]
  have c6 : W.cell? ⟨w.heap.size, 6, none⟩ = some o.kv := by rw [hW]; simp [go_sem]
  have c7 : W.cell? ⟨w.heap.size, 7, none⟩ = some o.l := by rw [hW]; simp [go_sem]
  have c8 : W.cell? ⟨w.heap.size, 8, none⟩ = some o.rv := by rw [hW]; simp [go_sem]
  have c9 : W.cell? ⟨w.heap.size, 9, none⟩ = some o.qv := by rw [hW]; simp [go_sem]
  have c10 : W.cell? ⟨w.heap.size, 10, none⟩ = some o.sv := by rw [hW]; simp [go_sem]
  have hcell := hI.cell
  have hcw := h.cell
  have hwl := h.wlt
  have howns := hI.owns
  have hpk := pickF_lt o.a ps.length hps
  obtain ⟨p, hp⟩ : ∃ p, ps[pickF o.a ps.length]? = some p := ⟨ps[pickF o.a ps.length], by simp [hpk]⟩
  obtain ⟨r0, r1⟩ := pairsRow_get ps _ p hp
  obtain ⟨hnil, hn0, _⟩ | ⟨g, cap, rfl, hgb, hglt, hrow⟩ := owns_row howns
  · omega
  have y0 := hrow _ _ r0
  have y1 := hrow _ _ r1
  simp only [Nat.zero_add] at y0 y1
  have hgm : ¬ Mut ps g := fun hm => (hI.muts g hm).2.2.2 rfl
  have hwm : ¬ Mut ps wb := fun hm => (hI.muts wb hm).2.2.1 rfl
  have hbm : ¬ Mut ps w.heap.size := fun hm => by have := (h.muts _ hm).2.1; omega
  have HA : Hid (∀ W', W'.heap = W.heap → W'.os = W.os → W'.tape = W.tape → W'.output = W.output → Calls Try.prog 13 #[.pointer (some ⟨wb, 0, none⟩), .agg #[.pointer (some ⟨p.kb, 0, none⟩), .pointer (some ⟨p.rb, 0, none⟩)], .agg #[.int .i64 o.kind, .int .i64 o.a, .int .i64 o.b, .int .i64 o.c, .int .i64 o.d, .int .i64 o.ents, o.kv, o.l, o.rv, o.qv, o.sv]] W'
      fun e w' => e = .returned (.bool true) ∧ Only (Mut ps) W w' ∧ ∃ ps', ps'.length = ps.length ∧ Inv base w' wb (.slice (some ⟨g, 0, none⟩) ps.length cap) ps') := by
    intro W' h1 h2 h3 h4
    have hbW : Below W.heap.size W W' := ⟨h2, h3, h4, by rw [h1]; exact Nat.le_refl _, fun k _ => by rw [h1]⟩
    refine (asked_any wb _ ps _ p o.kind o.a o.b o.c o.d o.ents o.kv o.l o.rv o.qv o.sv W' (hI.below hbW) hp hk).mono ?_
    rintro e w' ⟨rfl, ho, hx⟩
    exact ⟨rfl, (Only.new hbW).trans ho, hx⟩
  have k1 : (o.kind == 1) = false := by rcases hk with e | e | e <;> simp [e]
  have k2 : (o.kind == 2) = false := by rcases hk with e | e | e <;> simp [e]
  have k8 : (o.kind == 8) = false := by rcases hk with e | e | e <;> simp [e]
  have k10 : decide (10 ≤ o.kind) = false := by rcases hk with e | e | e <;> simp [e]
  have k3 : decide (o.kind < 3) = false := by rcases hk with e | e | e <;> simp [e]
  have k9 : decide (9 < o.kind) = false := by rcases hk with e | e | e <;> simp [e]
  have kl : ((ps.length : Int) == 0) = false := by simp; intro e; simp [e] at hps
  have halo := ho.alo
  have hahi := ho.ahi
  have hpl : ps.length ≤ 8796093022208 := by omega
  have HB : Hid (base ≤ w.heap.size ∧ (∀ b, Mut ps b → base ≤ b)) := ⟨hbl, fun b hb => (h.muts b hb).1⟩
  have Hpk := hide hpk
  have hpk' : (pickF o.a ps.length : Int) < (ps.length : Int) := by omega
  have hpk0 : (0 : Int) ≤ (pickF o.a ps.length : Int) := by omega
  obtain ⟨x, hx⟩ : ∃ x, x = pickF o.a ps.length := ⟨_, rfl⟩
  have HX := hide hx
  rw [← hx] at y0 y1 hpk' hpk0 r0 r1 hpk
  have HPick : Hid (∀ W', Calls Try.prog 14 #[.int .i64 o.a, .int .i64 ps.length] W' fun e w' => e = .returned (.int .i64 x) ∧ w' = W') := by
    intro W'
    have := pick_any o.a ps.length W' hps (by omega) halo hahi
    rw [← hx] at this
    exact this
  clear hx hk howns hrow r0 r1 hp h ho hI hlen halo hahi Hpk
  have HW := hide hW
  clear hW
  go_enter Try.func7, Try.ntmps7
  go_wp2_with fail
  rw [← HW.out]
  go_region_held3 (fun W' => W'.cell? ⟨wb, 0, none⟩ = some (.slice (some ⟨g, 0, none⟩) ps.length cap) ∧ W'.cell? ⟨w.heap.size, 0, none⟩ = some (.int .i64 o.kind) ∧ W'.cell? ⟨w.heap.size, 1, none⟩ = some (.int .i64 o.a) ∧ W'.cell? ⟨w.heap.size, 2, none⟩ = some (.int .i64 o.b) ∧ W'.cell? ⟨w.heap.size, 3, none⟩ = some (.int .i64 o.c) ∧ W'.cell? ⟨w.heap.size, 4, none⟩ = some (.int .i64 o.d) ∧ W'.cell? ⟨w.heap.size, 5, none⟩ = some (.int .i64 o.ents) ∧ W'.cell? ⟨w.heap.size, 6, none⟩ = some o.kv ∧ W'.cell? ⟨w.heap.size, 7, none⟩ = some o.l ∧ W'.cell? ⟨w.heap.size, 8, none⟩ = some o.rv ∧ W'.cell? ⟨w.heap.size, 9, none⟩ = some o.qv ∧ W'.cell? ⟨w.heap.size, 10, none⟩ = some o.sv ∧ W'.cell? ⟨g, x * 2, none⟩ = some (.pointer (some ⟨p.kb, 0, none⟩)) ∧ W'.cell? ⟨g, x * 2 + 1, none⟩ = some (.pointer (some ⟨p.rb, 0, none⟩)))
    (first | go_keep | exact ⟨ho2.at hcell hwm, ho2.at c0 hbm, ho2.at c1 hbm, ho2.at c2 hbm, ho2.at c3 hbm, ho2.at c4 hbm, ho2.at c5 hbm, ho2.at c6 hbm, ho2.at c7 hbm, ho2.at c8 hbm, ho2.at c9 hbm, ho2.at c10 hbm, ho2.at y0 hgm, ho2.at y1 hgm⟩)
    (first | (go_at_call 14; refine (HPick.out _).mono ?_; rintro e w1 ⟨rfl, rfl⟩) | (go_at_call 13; refine (HA.out _ (by rfl) (by rfl) (by rfl) (by rfl)).mono ?_; rintro e w2 ⟨rfl, ho2, hI2⟩))
  all_goals
    go_wp2
    go_ret
    obtain ⟨ps', hl', hI'⟩ := hI2
    exact ⟨by simp, (hb.mono hbl).trans (ho2.below (by omega) (fun k hk hm => by have := HB.out.2 k hm; omega)), _, ps', by omega, hI'⟩
end Go.Proofs.Ytpkkjgcpmnoalaa
