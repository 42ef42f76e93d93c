import Derived.Test.YtndlmgocldckfaaKpA
import Derived.Test.YtndlmgocldckfaaHap
namespace Go.Proofs.Ytndlmgocldckfaa
open Go.RowKit
set_option linter.unusedVariables false
set_option linter.unusedSimpArgs false

def rdrawsF (L : List Int) : List Int := (L.take 1000).map fun c => pickF c 1000000001

set_option maxRecDepth 100000 in
set_option maxHeartbeats 4000000 in
theorem draws_any (sa : Option Addr) (sc : Nat) (L : List Int) (w : World) (hl : L.length ≤ 17592186044416) (hv : ∀ c ∈ L, -9223372036854775808 ≤ c ∧ c ≤ 9223372036854775807)
    (hrow : ∀ i (h : i < L.length), ∃ b off, sa = some ⟨b, off, none⟩ ∧ w.cell? ⟨b, off + i, none⟩ = some (.int .i64 L[i])) :
    Calls Try.prog 14 #[.slice sa L.length sc] w fun e w' => ∃ v, e = .returned v ∧ Below w.heap.size w w' ∧ w'.ownsRow w.heap.size 3 1 v (rdrawsF L).length (ints (rdrawsF L)) := by
  have Hrow := hide hrow
  have Hv := hide hv
  clear hrow hv
  go_enter Try.func14, Try.ntmps14
  go_wp2_with fail
  go_loopg [3, 4] 1002 (fun g s3 s4 wr => ∃ (i : Nat), s4 = .int .i64 i ∧ 1001 - i + 1 ≤ g ∧ i ≤ 1000 ∧ i ≤ L.length ∧ Below w.heap.size w wr ∧ wr.ownsRow w.heap.size 3 1 s3 i (ints (rdrawsF (L.take i))))
  case atStart => exact ⟨0, rfl, by omega, by omega, by omega, Below.refl _ _, by simpa [rdrawsF, ints] using World.ownsRow_nil _ _ _ _⟩
  case round =>
    obtain ⟨i, rfl, hg, hi1, hi2, hb, ho⟩ := hrel
    have Ho := hide ho
    have Hb := hide hb
    have hz := hb.size
    clear ho hb
    by_cases hi : i < L.length
    · by_cases hi3 : i < 1000
      · obtain ⟨b, off, rfl, hc⟩ := Hrow.out i hi
        have hcb : b < w.heap.size := lt_of_cell hc
        have hc' := below_at Hb.out hc hcb
        have hx := Hv.out L[i] (List.getElem_mem hi)
        have Htk : Hid (rdrawsF (L.take (i + 1)) = rdrawsF (L.take i) ++ [pickF L[i] 1000000001]) := by
          show _ = _
          unfold rdrawsF
          rw [List.take_of_length_le (l := L.take (i + 1)) (by simp; omega), List.take_of_length_le (l := L.take i) (by simp; omega), List.take_succ_eq_append_getElem hi, List.map_append]
          rfl
        generalize L[i] = x at hc hc' hx Htk
        clear hc
        have d1 : decide ((i : Int) < (L.length : Int)) = true := by simp; omega
        have d2 : decide ((i : Int) < 1000) = true := by simp; omega
        have hii : (i : Int) < (L.length : Int) := by omega
        have hw : IntKind.i64.wrap ((i : Int) + 1) = (i : Int) + 1 := by rw [IntKind.wrap_i64]; omega
        go_wp2_with (first | (go_at_call 10; refine (pick_any _ _ _ hx (by omega)).mono ?_; rintro e w3 ⟨rfl, rfl⟩) | (at_builtin; refine wpList_append_src rfl (.tmp 15) (.tmp 21) 22 rfl w.heap.size 3 (.int .i64 0) 1 8 Try.underlying22 Try.infoI rfl (by omega) _ i (ints (rdrawsF (L.take i))) rfl (Ho.out.alloc _) _ 1 [.int .i64 (pickF x 1000000001)] rfl (.inr (.inl ⟨_, 0, _, rfl, ?_⟩)) rfl (by simp [Value.oneCell']) (by omega) (by omega) (by simp; omega) ?_))
        · intro j u hu
          have hj : j < 1 := by have := (List.getElem?_eq_some_iff.1 hu).1; simpa using this
          obtain rfl : j = 0 := by omega
          simp at hu
          subst hu
          rw [World.cell?_alloc_at _ _ _ _ rfl]; rfl
        intro v4 w4 hown4 hgr4 hwh4
        go_wp2_with fail
        go_roundg (1001 - (i + 1) + 1)
        case measure => omega
        case rel =>
          refine ⟨i + 1, by go_num, Nat.le_refl _, by omega, by omega, ?_, ?_⟩
          · exact (Hb.out.alloc hz _).grown hgr4.out (by simp; omega) (fun b hb => (Ho.out.lt b hb).1)
          · rw [Htk.out]
            simpa [ints] using hown4.out
      · have d1 : decide ((i : Int) < (L.length : Int)) = true := by simp; omega
        have d2 : decide ((i : Int) < 1000) = false := by simp; omega
        go_wp2_with fail
        go_ret
        refine ⟨_, rfl, Hb.out, ?_⟩
        have hq : rdrawsF L = rdrawsF (L.take i) := by
          unfold rdrawsF
          rw [List.take_take]
          congr 2
          omega
        have hn : (rdrawsF (L.take i)).length = i := by simp [rdrawsF]; omega
        rw [hq, hn]
        exact Ho.out
    · have d1 : decide ((i : Int) < (L.length : Int)) = false := by simp; omega
      go_wp2_with fail
      go_ret
      refine ⟨_, rfl, Hb.out, ?_⟩
      have hq : L.take i = L := List.take_of_length_le (by omega)
      have Ho := Ho.out
      rw [hq] at Ho
      have hn : (rdrawsF L).length = i := by simp [rdrawsF]; omega
      rw [hn]
      exact Ho
end Go.Proofs.Ytndlmgocldckfaa
