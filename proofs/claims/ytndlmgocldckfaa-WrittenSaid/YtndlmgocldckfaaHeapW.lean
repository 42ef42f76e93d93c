import Derived.Test.YtndlmgocldckfaaHeapS
import Derived.Test.YtndlmgocldckfaaOrd
namespace Go.Proofs.Ytndlmgocldckfaa
open Go.RowKit
set_option linter.unusedVariables false
set_option linter.unusedSimpArgs false

theorem RowB.less {w : World} {b T S n m : Nat} {f : Nat → Mom} (h : RowB w b T S f n) (hm : m ≤ n) : RowB w b T S f m := by
  obtain ⟨cur, h1, h2, h3⟩ := h
  exact ⟨cur, h1, h2, fun i hi => h3 i (by omega)⟩

set_option maxHeartbeats 2000000 in
set_option maxRecDepth 100000 in
theorem without_any (base b cap n i : Nat) (f : Nat → Mom) (q : List Ev) (w : World) (hb : base ≤ b) (hc : n + 1 ≤ cap) (hcm : cap ≤ maxLen) (hr : RowB w b 145 (cap * 2) f (n + 1)) (hh : HeapF f (n + 1)) (hn : n ≤ 16) (hi : i < n + 1) (hm : MomsOf (putF f i (f n)) n q) :
    Calls Try.prog 84 #[.slice (some ⟨b, 0, none⟩) (n + 1) cap, .int .i64 i] w fun e w' => ∃ f', e = .returned (.slice (some ⟨b, 0, none⟩) n cap) ∧ OrdV base w' (.slice (some ⟨b, 0, none⟩) n cap) n f' ∧ HeapF f' n ∧ MomsOf f' n q ∧ Only (· = b) w w' := by
  obtain ⟨c0, c1, z0, z1⟩ := hr.cell hi
  obtain ⟨d0, d1, y0, y1⟩ := hr.cell (i := n) (by omega)
  have hset := hr.set hi (f n)
  obtain ⟨mn, hmn⟩ : ∃ m, f n = m := ⟨_, rfl⟩
  rw [hmn] at d0 d1 hset hm
  have e1 : ((n : Int) + 1 - 1) = (n : Int) := by omega
  have hcap : (n : Int) ≤ (cap : Int) := by omega
  have Hset := hide hset
  have Hm := hide hm
  have Hh := hide hh
  have Hcm := hide hcm
  clear hr hset hm hh hcm
  have hset2 : RowB ((w.setCell ⟨b, i * 2, none⟩ (.int .i64 mn.time)).setCell ⟨b, i * 2 + 1, none⟩ (.int .i64 mn.number)) b 145 (cap * 2) (putF f i mn) n := Hset.out.less (by omega)
  have Hset2 := hide hset2
  have Hon : Hid (Only (· = b) w ((w.setCell ⟨b, i * 2, none⟩ (.int .i64 mn.time)).setCell ⟨b, i * 2 + 1, none⟩ (.int .i64 mn.number))) := ((Only.refl _ _).setCell (S := (· = b)) rfl _).setCell rfl _
  clear hset2 Hset
  by_cases hin : i < n
  · have Hs : Hid (SinkF (putF f i mn) n i i) := by rw [← hmn]; exact SinkF.start Hh.out hin
    go_enter Try.func84, Try.ntmps84
    go_wp2_with (first
      | (go_at_call 88; refine (sink_any b 145 (cap * 2) n cap i (putF f i mn) _ q Hset2.out hin (by omega) Hs.out Hm.out).mono ?_; rintro e w1 ⟨rfl, ho1, f1, hr1, hR1, hm1⟩)
      | (go_at_call 86; refine (rise_any b 145 (cap * 2) n cap i f1 _ q hr1 hin (by omega) hR1 hm1).mono ?_; rintro e w2 ⟨rfl, ho2, f2, hr2, hh2, hm2⟩))
    go_ret
    exact ⟨f2, rfl, .inr ⟨b, cap, rfl, hb, by omega, Hcm.out, hr2⟩, hh2, hm2, (Hon.out.trans ho1).trans ho2⟩
  · have hie : i = n := by omega
    subst hie
    go_enter Try.func84, Try.ntmps84
    go_wp2
    go_ret
    refine ⟨putF f i mn, rfl, .inr ⟨b, cap, rfl, hb, by omega, Hcm.out, Hset2.out⟩, ?_, Hm.out, Hon.out⟩
    intro j hj hjn
    have := Hh.out j hj (by omega)
    simp [putF, show j ≠ i by omega, show (j - 1) / 2 ≠ i by omega]
    exact this
end Go.Proofs.Ytndlmgocldckfaa
