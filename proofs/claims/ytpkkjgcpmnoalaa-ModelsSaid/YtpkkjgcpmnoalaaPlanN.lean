import Derived.Test.YtpkkjgcpmnoalaaPlanH
namespace Go.Proofs.Ytpkkjgcpmnoalaa
open Go.RowKit
set_option linter.unusedVariables false
set_option linter.unusedSimpArgs false

set_option maxRecDepth 100000 in
set_option maxHeartbeats 2000000 in
theorem rplan_nil {R : Nat → Prop} (rb : Nat) (ents : Int) (ks : List (List Ins)) (draws : List Int) (taken clock next : Int) (regs : List Int) (time kind ent : Int) (w : World) (h : RefK R w rb ents ks draws taken clock next regs [])
    (hR : ∀ b, R b → b < w.heap.size ∧ b ≠ rb) (hv7 : w.cell? ⟨rb, 7, none⟩ = some (.slice none 0 0)) (hn0 : 0 ≤ next) (hn1 : next < 1000000000) :
    Calls Try.prog 75 #[.pointer (some ⟨rb, 0, none⟩), .int .i64 time, .int .i64 kind, .int .i64 ent] w fun e w' => e = .returned (.int .i64 next) ∧ Only (· = rb) w w' ∧
      RefK (fun b => R b ∨ (w.heap.size ≤ b ∧ b < w'.heap.size)) w' rb ents ks draws taken clock (next + 1) regs (insF ⟨time, next, kind, ent⟩ []) := by
  have hP := hide h
  obtain ⟨⟨kv, dv, rv, qv, h0, h1, h2, h3, h4, h5, h6, h7, hk, hd, hr, hq⟩, hroom⟩ := h
  have hqv : qv = .slice none 0 0 := by rw [h7] at hv7; exact Option.some.inj hv7
  subst hqv
  have hq16 : ([] : List Ev).length < 16 := by decide
  have hbk := lt_of_cell h0
  have Hk := hide hk
  have Hd := hide hd
  have Hr := hide hr
  clear h0 h1 h2 h3 h4 h6 hk hd hr hq
  obtain ⟨e, he⟩ : ∃ e : Ev, e = ⟨time, next, kind, ent⟩ := ⟨_, rfl⟩
  have HE := hide he
  clear he
  go_enter Try.func75, Try.ntmps75
  go_wp2
  go_loopw [10] (fun i wr => i = .int .i64 0 ∧ Below (w.heap.size + 1) (w.alloc (.cells #[.int .i64 time, .int .i64 next, .int .i64 kind, .int .i64 ent] 129)) wr) (fun _ _ => 0)
  case atStart => exact ⟨rfl, Below.refl _ _⟩
  case round =>
    obtain ⟨rfl, hbel⟩ := hrel
    have hzr := hbel.size
    rw [World.size_alloc] at hzr
    have hb0 := (Below.refl w.heap.size w).alloc (Nat.le_refl _) (.cells #[.int .i64 time, .int .i64 next, .int .i64 kind, .int .i64 ent] 129)
    have hbw : Below w.heap.size w wr := hb0.trans (hbel.mono (by omega))
    have g7 := below_at hbw h7 hbk
    have e0 : wr.cell? ⟨w.heap.size, 0, none⟩ = some (.int .i64 time) := below_at hbel (by simp [go_sem]) (by omega)
    have e1 : wr.cell? ⟨w.heap.size, 1, none⟩ = some (.int .i64 next) := below_at hbel (by simp [go_sem]) (by omega)
    have e2 : wr.cell? ⟨w.heap.size, 2, none⟩ = some (.int .i64 kind) := below_at hbel (by simp [go_sem]) (by omega)
    have e3 : wr.cell? ⟨w.heap.size, 3, none⟩ = some (.int .i64 ent) := below_at hbel (by simp [go_sem]) (by omega)
    have e5 := below_at hbw h5 hbk
    go_wp2
    go_quiet (fail)
    have hb4 : Below wr.heap.size wr (wr.drewN nq) := below_drewN (Below.refl _ _) nq
    generalize wr.drewN nq = w3 at hb4 ⊢
    have hb5 : Below w.heap.size w w3 := hbw.trans (hb4.mono (by omega))
    have hz3 : w.heap.size < w3.heap.size := by have := hb4.size; omega
    have f7 := below_at hb5 h7 hbk
    have f5 := below_at hb5 h5 hbk
    have f0 := below_at hb4 e0 (by omega)
    have f1 := below_at hb4 e1 (by omega)
    have f2 := below_at hb4 e2 (by omega)
    have f3 := below_at hb4 e3 (by omega)
    clear e0 e1 e2 e3 e5 g7 h5 h7
    go_wp2_with (at_builtin; refine wpList_append_src rfl (.tmp 40) (.tmp 46) 113 rfl w3.heap.size 129 (.agg #[.int .i64 0, .int .i64 0, .int .i64 0, .int .i64 0]) 4 32 Try.underlying113 Try.info129 rfl (by omega) _ 0 [] rfl (World.ownsRow_nil _ _ _ _) _ 0 [] rfl ?_ rfl (by simp) (by omega) (by omega) (Nat.le_refl _) ?_)
    · exact .inl ⟨rfl, rfl, rfl⟩
    intro v1 w4 hown1 hgr1 hwh1
    obtain ⟨sa1, sc1, rfl⟩ := owns_form hown1.out
    have hb6 : Below w3.heap.size w3 w4 := (Below.refl _ _).grown hgr1.out (Nat.le_refl _) (by intro k hk; simp [Value.ownBlock] at hk)
    have hz4 := hb6.size
    have f7 := below_at hb6 f7 (by omega)
    have f5 := below_at hb6 f5 (by omega)
    have f0 := below_at hb6 f0 (by omega)
    have f1 := below_at hb6 f1 (by omega)
    have f2 := below_at hb6 f2 (by omega)
    have f3 := below_at hb6 f3 (by omega)
    try simp only [Nat.zero_add, List.nil_append] at hown1
    go_wp2_with (at_builtin; refine wpList_append_src rfl (.tmp 48) (.tmp 50) 113 rfl w3.heap.size 129 (.agg #[.int .i64 0, .int .i64 0, .int .i64 0, .int .i64 0]) 4 32 Try.underlying113 Try.info129 rfl (by omega) _ 0 [] rfl (hown1.out.alloc _) _ 1 (flat [Ins.mk time next kind ent]) rfl (.inr (.inl ⟨w4.heap.size, 0, _, rfl, ?_⟩)) rfl (flat_one _) (by omega) (by omega) (by simp; omega) ?_)
    · intro j u hu
      have hj : j < 4 := by have := (List.getElem?_eq_some_iff.1 hu).1; simpa [flat, cells4] using this
      have : j = 0 ∨ j = 1 ∨ j = 2 ∨ j = 3 := by omega
      rcases this with rfl | rfl | rfl | rfl <;> simp [flat, cells4] at hu <;> subst hu <;> simp [go_sem]
    intro v2 w5 hown2 hgr2 hwh2
    obtain ⟨sa2, sc2, rfl⟩ := owns_form hown2.out
    have hb7 : Below w3.heap.size w4 w5 := ((Below.refl _ _).alloc (by omega) _).grown hgr2.out (by simp; omega) (fun b hb => (hown1.out.lt b hb).1)
    have hz5 := hb7.size
    have f7 := below_at hb7 f7 (by omega)
    have f5 := below_at hb7 f5 (by omega)
    have f1 := below_at hb7 f1 (by omega)
    have hb37 : Below w3.heap.size w3 w5 := hb6.trans hb7
    have z7 : w5.frozen? ⟨rb, 7, none⟩ = false := ((hroom.below (hb5.trans (hb37.mono (by omega))) hbk) 7 (by omega)).2
    have z5 : w5.frozen? ⟨rb, 5, none⟩ = false := ((hroom.below (hb5.trans (hb37.mono (by omega))) hbk) 5 (by omega)).2
    clear f0 f2 f3
    try simp only [Nat.zero_add, List.nil_append] at hown2
    go_wp2_with (at_builtin; refine wpList_append_src rfl (.tmp 53) (.tmp 59) 113 rfl w3.heap.size 129 (.agg #[.int .i64 0, .int .i64 0, .int .i64 0, .int .i64 0]) 4 32 Try.underlying113 Try.info129 rfl (by omega) _ 1 (flat [Ins.mk time next kind ent]) rfl hown2.out _ 0 [] rfl ?_ rfl (by simp) (by omega) (by omega) (by omega) ?_)
    · exact .inl ⟨rfl, rfl, rfl⟩
    intro v3 w6 hown3 hgr3 hwh3
    obtain ⟨sa3, sc3, rfl⟩ := owns_form hown3.out
    have hb8 : Below w3.heap.size w5 w6 := (Below.refl _ _).grown hgr3.out (by omega) (fun b hb => (hown2.out.lt b hb).1)
    have hz6 := hb8.size
    have f7 := below_at hb8 f7 (by omega)
    have f5 := below_at hb8 f5 (by omega)
    have f1 := below_at hb8 f1 (by omega)
    have z7 : w6.frozen? ⟨rb, 7, none⟩ = false := (hb8.frozen (p := ⟨rb, 7, none⟩) (by show rb < _; omega)).trans z7
    have z5 : w6.frozen? ⟨rb, 5, none⟩ = false := (hb8.frozen (p := ⟨rb, 5, none⟩) (by show rb < _; omega)).trans z5
    have hrb : rb ≠ w.heap.size := by omega
    go_wp2
    go_ret
    exact rplan_end hP.out hbk hR (hb5.trans ((hb37.trans hb8).mono (by omega))) HE.out (k := 0) rfl (Nat.le_refl _) rfl (by simpa [flat] using hown3.out) (by omega) (by omega)
end Go.Proofs.Ytpkkjgcpmnoalaa
