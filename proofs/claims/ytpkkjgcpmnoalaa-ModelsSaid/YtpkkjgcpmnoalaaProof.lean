import Derived.Test.YtpkkjgcpmnoalaaOpenB
import Derived.Test.YtpkkjgcpmnoalaaRows
import Derived.WalkKit
import Derived.ProofKit
import Derived.OpenShut
import Derived.ChangeOld
import Derived.SizedLaws
import Derived.Below
namespace Go.Proofs.Ytpkkjgcpmnoalaa
open Go.ChangeShapes Go.WideShapes Go.ChangeAt Go.RowKit
set_option linter.unusedVariables false
set_option linter.unusedSimpArgs false

theorem own : ownKnob Try.prog.godebug = none := by kernel_rfl
theorem laidOut : laidOutB Try.prog = true := by kernel_rfl

set_option maxRecDepth 100000 in
theorem models_any (sv : Value) (os : List OpD) (w : World) (hsrc : SrcAt w sv os.length (opsRow os)) (hos : ∀ o ∈ os, OpOK w.heap.size w o) (hone : ∀ u ∈ opsRow os, u.oneCell' = true) (hn : (os.length + 11) * 160 ≤ 140737488355328) :
    Calls Try.prog 3 #[sv] w fun e w' => e = .returned (.bool true) ∧ Below w.heap.size w w' := by
  obtain ⟨W, hW⟩ : ∃ W, W = w.alloc (.cells #[.int .i64 1, .int .i64 2, .int .i64 3, .int .i64 5, .int .i64 6] 3) := ⟨_, rfl⟩
  have hb : Below w.heap.size w W := by rw [hW]; exact (Below.refl _ _).alloc (Nat.le_refl _) _
  have hz : W.heap.size = w.heap.size + 1 := by rw [hW]; simp
  have hrow : RowAt W w.heap.size 0 (ints playM) := by
    intro j v hv
    rw [hW]
    match j, hv with
    | 0, hv => simp [ints, playM] at hv; subst hv; simp [go_sem]
    | 1, hv => simp [ints, playM] at hv; subst hv; simp [go_sem]
    | 2, hv => simp [ints, playM] at hv; subst hv; simp [go_sem]
    | 3, hv => simp [ints, playM] at hv; subst hv; simp [go_sem]
    | 4, hv => simp [ints, playM] at hv; subst hv; simp [go_sem]
    | j + 5, hv => simp [ints, playM] at hv
  have hsrc1 : SrcAt W sv os.length (opsRow os) := by
    rcases hsrc with h | ⟨b, off, c, h, hr⟩ | h
    · exact .inl h
    · refine .inr (.inl ⟨b, off, c, h, ?_⟩)
      intro j v hv
      have := hr j v hv
      exact below_at hb this (lt_of_cell this)
    · exact .inr (.inr h)
  have key := plays_any sv os w.heap.size W hsrc1 (fun o ho => ((hos o ho).below hb).mono (by omega)) hone hn hrow (by omega)
  have Key := hide key
  have HW := hide hW
  clear key hsrc hsrc1 hos hone hrow hW
  go_enter Try.func3, Try.ntmps3
  go_wp2_with fail
  rw [← HW.out]
  refine Key.out.mono ?_
  rintro e w1 ⟨rfl, hb1⟩
  go_wp2
  go_ret
  exact ⟨rfl, hb.trans (hb1.mono (by omega))⟩

set_option maxRecDepth 100000 in
theorem lifted (os : Os) (started : os.Started) (H : Type) (enc : TypeId × Value → H) :
    ReturnsInHanded {} Try.checked os 3 .any (Rows.modelsSpec.pre6 enc Try.prog Try.f3 Rows.modelsRow.domain false) (Rows.modelsSpec.post enc Try.prog Try.f3 false true false false) := by
  refine returnsInHanded_of_change_sized (C := Try.checked) own started (by kernel_rfl) Try.func3
    (ChangeSpec.witness6 (enc := enc) (C := Try.checked) false ⟨#[], #[.slice none 0 0], []⟩ 8 (by kernel_rfl) (by kernel_rfl) (by kernel_rfl) (by kernel_rfl)) ?_
  intro W base args ds gs before hval0 hW hcnd hwt0 _
  have hval : ∀ (j : Nat) t v, Try.f3.params[j]? = some t → args[j]? = some v → Value.okWide Try.prog W .any base t v := hval0
  have hwt : (DataW.weightsEach Try.prog (Try.f3.params.toList ++ DataSpec.varTypes Try.prog Rows.modelsSpec.plain) (ds ++ gs)).all (· ≤ reachBytes) = true := hwt0
  have hW' := hW
  obtain ⟨p, q, hA0, hV, rfl, hfz, hnd⟩ := hW
  have hA : DataW.TrodAll enc Try.prog W 0 (fun _ => true) true Try.f3.params.toList args.toList ds p := hA0
  rw [Try.params3] at hA hval hwt
  obtain ⟨v0, vs0, d0, ds0, p0, q0, hargs, rfl, rfl, h0, r0⟩ := trodAll_cons hA
  obtain ⟨rfl, rfl, rfl⟩ := trodAll_nil r0
  obtain rfl : args = #[v0] := by cases args; simp_all
  obtain ⟨rfl, rfl⟩ := trodVars_none hV
  obtain ⟨a0, len0, cap0, rfl⟩ := okWide_slice Try.underlying22 (hval 0 22 v0 rfl rfl)
  have k0 := h0
  have lt0 : ∀ x ∈ p0, x.block < W.heap.size := by obtain ⟨m, hm⟩ := k0; exact DataW.trod_lt m _ _ _ hm
  have wok : WOK 22 d0 := by
    intro n hn
    have := List.all_eq_true.1 hwt n (DataW.weights_mem_each (j := 0) rfl rfl n hn)
    simpa using this
  obtain ⟨os, hsrc, hos, hone, hlen⟩ : ∃ os : List OpD, SrcAt W (.slice a0 len0 cap0) os.length (opsRow os) ∧ (∀ o ∈ os, OpOK W.heap.size W o) ∧ (∀ u ∈ opsRow os, u.oneCell' = true) ∧ (os.length + 11) * 160 ≤ 140737488355328 := by
    obtain ⟨fuel, hf⟩ := h0
    exact script_open hf wok
  clear hA0 hval0 hwt0
  refine (models_any (.slice a0 len0 cap0) os W hsrc hos hone hlen).mono fun e W' ⟨he, bel⟩ => ?_
  subst he
  exact ⟨_, rfl, _, _, _, [], _, [], hW', trodAll_mk1 (shut_bool Try.underlying4 _), (trodAll_cons_mk (Below.trod laidOut (by kernel_rfl) (of_decide_eq_true (by kernel_rfl)) k0 bel lt0) trodAll_mk0), rfl, bel.frame _, fun h => by cases h⟩

theorem over : Rows.modelsRow.holds Try.pinned (OpenSpec.ofChange Rows.modelsSpec) :=
  OpenClaim.holds_of_wide 3 Try.f3 rfl rfl rfl rfl rfl rfl rfl ⟨rfl, rfl, rfl, rfl, rfl⟩ rfl rfl rfl rfl rfl (by kernel_rfl) Try.func3 (by kernel_rfl)
    (of_decide_eq_true (by kernel_rfl)) (by unfold Func.isWrapper; first | (rw [if_pos (by decide +kernel)]; kernel_rfl) | (rw [if_neg (by decide +kernel)]; exact ⟨rfl, rfl⟩))
    (fun os started H enc _ => lifted os started H enc)

theorem models_holds : Rows.ModelsSaid := over
end Go.Proofs.Ytpkkjgcpmnoalaa
