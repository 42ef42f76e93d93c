import Derived.Test.YtndlmgocldckfaaGreatHeapP
import Derived.Deep.DeepCutAuto
import Derived.Deep.RegionHeld3
namespace Go.Proofs.YtndlmgocldckfaaGreat
open Go.RowKit
set_option linter.unusedVariables false
set_option linter.unusedSimpArgs false

set_option maxHeartbeats 16000000 in
set_option maxRecDepth 1000000 in
theorem sink_any (b T S n cap i0 : Nat) (f : Nat → Mom) (w : World) (q : List Ev) (hr : RowB w b T S f n) (hi : i0 < n) (hn : n ≤ 17) (hR : SinkF f n i0 i0) (hm : MomsOf f n q) :
    Calls Tryz.prog 142 #[.slice (some ⟨b, 0, none⟩) n cap, .int .i64 i0] w fun e w' => e = .returned (.tuple #[]) ∧ Only (· = b) w w' ∧ ∃ f', RowB w' b T S f' n ∧ RiseF f' n i0 ∧ MomsOf f' n q := by
  go_enter Tryz.func142, Tryz.ntmps142
  go_wp2
  go_loopg [1] (n - i0 + 1) (fun g si wr => ∃ (i : Nat) (fk : Nat → Mom), si = .int .i64 i ∧ i < n ∧ i0 ≤ i ∧ n - i + 1 ≤ g ∧ Only (· = b) w wr ∧ RowB wr b T S fk n ∧ SinkF fk n i0 i ∧ MomsOf fk n q)
  case atStart => exact ⟨i0, f, rfl, hi, Nat.le_refl _, Nat.le_refl _, Only.refl _ _, hr, hR, hm⟩
  case round =>
    obtain ⟨i, fk, rfl, hin, h0i, hg, ho, hrk, hRk, hmk⟩ := hrel
    have HRk := hide hRk
    have Hmk := hide hmk
    have Hrk := hide hrk
    have Ho := hide ho
    have H0i := hide h0i
    clear hr hR hm hRk hmk hrk ho h0i
    obtain ⟨c, hc⟩ : ∃ c, c = 2 * i + 1 := ⟨_, rfl⟩
    obtain ⟨d, hd⟩ : ∃ d, d = c + 1 := ⟨_, rfl⟩
    have hce : 2 * (i : Int) + 1 = (c : Int) := by omega
    have hde : (c : Int) + 1 = (d : Int) := by omega
    have Hc := hide hc
    have Hd := hide hd
    clear hc hd
    by_cases c1 : c < n
    · have hgc : decide ((n : Int) ≤ (c : Int)) = false := by simp; omega
      obtain ⟨mi, hmi⟩ : ∃ m, fk i = m := ⟨_, rfl⟩
      obtain ⟨mc, hmc⟩ : ∃ m, fk c = m := ⟨_, rfl⟩
      obtain ⟨X, hX⟩ : ∃ X : Bool, X = (decide (d < n) && aheadM (fk d) mc) := ⟨_, rfl⟩
      have HX := hide hX
      clear hX
      go_upto_region 2 with fail
      go_cut [28] (fun s wx => s = .bool X ∧ Below wr.heap.size wr wx)
      case first =>
        by_cases c2 : d < n
        · have hgd : decide ((d : Int) < (n : Int)) = true := by simp; omega
          obtain ⟨md, hmd⟩ : ∃ m, fk d = m := ⟨_, rfl⟩
          obtain ⟨a0, a1, a2, a3⟩ := Hrk.out.cell (i := d) c2
          obtain ⟨d0, d1, y0, y1⟩ := Hrk.out.cell (i := c) c1
          rw [hmd] at a0 a1
          rw [hmc] at d0 d1
          have HX2 : Hid (X = aheadM md mc) := by show _ = _; rw [HX.out, hmd]; simp [c2]
          have hbl := lt_of_cell a0
          have hwd : IntKind.i64.wrap (d : Int) = (d : Int) := by rw [IntKind.wrap_i64]; omega
          go_region_held3 (fun W' => W'.cell? ⟨b, d * 2, none⟩ = some (.int .i64 md.time) ∧ W'.cell? ⟨b, d * 2 + 1, none⟩ = some (.int .i64 md.number) ∧ W'.cell? ⟨b, c * 2, none⟩ = some (.int .i64 mc.time) ∧ W'.cell? ⟨b, c * 2 + 1, none⟩ = some (.int .i64 mc.number))
            (first | go_keep | exact ⟨below_at hb3 a0 hbl, below_at hb3 a1 hbl, below_at hb3 d0 hbl, below_at hb3 d1 hbl⟩)
            (first | (go_at_call 140; refine (mAhead_any md mc _).mono ?_; rintro e' w3 ⟨rfl, hb3⟩))
          all_goals
            go_wp2_with fail
            go_meet
            exact ⟨by rw [HX2.out], (Below.refl _ _).drew.trans hb3⟩
        · have hgd : decide ((d : Int) < (n : Int)) = false := by simp; omega
          have HX2 : Hid (X = false) := by show _ = _; rw [HX.out]; simp [c2]
          go_quiet (fail)
          go_wp2_with fail
          go_meet
          exact ⟨by rw [HX2.out], below_drewN (Below.refl _ _) _⟩
      case rest =>
        obtain ⟨rfl, hb1⟩ := hcut
        have HB1 := hide hb1
        clear hb1
        go_upto_if 28 with fail
        go_cut [4] (fun s wx => wx = wc ∧ ∃ x : Nat, s = .int .i64 x ∧ x < n ∧ 0 < x ∧ (x - 1) / 2 = i ∧ ∀ k, 0 < k → k < n → (k - 1) / 2 = i → aheadM (fk k) (fk x) = false)
        case first =>
          rcases hXe : X with _ | _
          · rw [hXe] at HX
            go_wp2_with fail
            go_meet
            refine ⟨rfl, c, by go_num, c1, by have := Hc.out; omega, by have := Hc.out; omega, ?_⟩
            intro k hk0 hkn hkp
            have hX := HX.out
            by_cases hkc : k = c
            · rw [hkc]; exact aheadM_self _
            · have hkd : k = d := by have := Hc.out; have := Hd.out; omega
              subst hkd
              simp [hkn] at hX
              rw [hmc, hX]
          · rw [hXe] at HX
            go_wp2_with fail
            go_meet
            have hX := HX.out
            simp at hX
            refine ⟨rfl, d, by go_num, hX.1, by have := Hd.out; omega, by have := Hc.out; have := Hd.out; omega, ?_⟩
            intro k hk0 hkn hkp
            by_cases hkd : k = d
            · rw [hkd]; exact aheadM_self _
            · have hkc : k = c := by have := Hc.out; have := Hd.out; omega
              rw [hkc, hmc]
              exact aheadM_asym hX.2
        case rest =>
          obtain ⟨rfl, x, rfl, hxn, hx0, hxp, hbest⟩ := hcut
          have Hbest := hide hbest
          have Hxp := hide hxp
          have hix : i < x := by omega
          clear hbest hxp hce hde
          obtain ⟨mx, hmx⟩ : ∃ m, fk x = m := ⟨_, rfl⟩
          have Hr3 := hide (Hrk.out.below HB1.out)
          have Ho3 := hide (Ho.out.trans (Only.new HB1.out))
          clear HB1
          obtain ⟨c0, c1', z0, z1⟩ := Hr3.out.cell hin
          obtain ⟨e0, e1, x0, x1⟩ := Hr3.out.cell (i := x) hxn
          rw [hmi] at c0 c1'
          rw [hmx] at e0 e1
          go_upto_region 4 with fail
          go_cut [40] (fun s wx => s = .bool (!aheadM mx mi) ∧ Below wc.heap.size wc wx)
          case first =>
            have hbl := lt_of_cell c0
            go_region_held3 (fun W' => W'.cell? ⟨b, x * 2, none⟩ = some (.int .i64 mx.time) ∧ W'.cell? ⟨b, x * 2 + 1, none⟩ = some (.int .i64 mx.number) ∧ W'.cell? ⟨b, i * 2, none⟩ = some (.int .i64 mi.time) ∧ W'.cell? ⟨b, i * 2 + 1, none⟩ = some (.int .i64 mi.number))
              (first | go_keep | exact ⟨below_at hb5 e0 hbl, below_at hb5 e1 hbl, below_at hb5 c0 hbl, below_at hb5 c1' hbl⟩)
              (first | (go_at_call 140; refine (mAhead_any mx mi _).mono ?_; rintro e' w5 ⟨rfl, hb5⟩))
            all_goals
              go_wp2_with fail
              go_meet
              exact ⟨rfl, (Below.refl _ _).drew.trans hb5⟩
          case rest =>
            obtain ⟨rfl, hb5⟩ := hcut
            have Hr5 := hide (Hr3.out.below hb5)
            have Ho5 := hide (Ho3.out.trans (Only.new hb5))
            clear hb5 c0 c1' z0 z1 e0 e1 x0 x1 Hr3 Ho3
            rcases hah : aheadM mx mi with _ | _
            · go_wp2
              refine bodyPost_ret (results_none rfl _ _ _) rfl ?_
              refine ⟨rfl, Ho5.out, fk, Hr5.out, HRk.out.done H0i.out ?_, Hmk.out⟩
              intro s hs0 hsn hsp
              have h1 := Hbest.out s hs0 hsn hsp
              rw [hmx] at h1
              rw [hmi]
              exact aheadM_ntrans h1 hah
            · obtain ⟨c0, c1', z0, z1⟩ := Hr5.out.cell hin
              obtain ⟨e0, e1, x0, x1⟩ := Hr5.out.cell (i := x) hxn
              rw [hmi] at c0 c1'
              rw [hmx] at e0 e1
              go_wp2
              go_region
              all_goals
                go_wp2
                go_roundg (n - x + 1)
                case measure => omega
                case rel =>
                  have hA : aheadM (fk x) (fk i) = true := by rw [hmi, hmx, hah]
                  have hsw := Hr5.out.swap hin (j := x) hxn (by omega)
                  rw [hmi, hmx] at hsw
                  exact ⟨x, swapF fk i x, by go_num, hxn, by have := H0i.out; omega, by omega, ((Ho5.out.setM rfl _ _).setM rfl _ _).drew, hsw.drew, HRk.out.swap H0i.out Hxp.out hx0 hxn hA Hbest.out, Hmk.out.swap hin hxn⟩
    · have hgc : decide ((n : Int) ≤ (c : Int)) = true := by simp; omega
      go_wp2
      refine bodyPost_ret (results_none rfl _ _ _) rfl ?_
      refine ⟨rfl, Ho.out, fk, Hrk.out, HRk.out.done H0i.out ?_, Hmk.out⟩
      intro s hs0 hsn hsp
      have := Hc.out
      omega
end Go.Proofs.YtndlmgocldckfaaGreat
