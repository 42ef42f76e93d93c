import Derived.Test.YtndlmgocldckfaaGreatBkY
import Derived.Deep.RegionHeld3
import Derived.Lib.SmallJoins
import Derived.BigQuiet
import Derived.Deep.LoopGhost
namespace Go.Proofs.YtndlmgocldckfaaGreat
open Go.RowKit
set_option linter.unusedVariables false
set_option linter.unusedSimpArgs false

/-! Numbers that came out, noted. -/


set_option maxRecDepth 100000 in
set_option maxHeartbeats 4000000 in
theorem keepsInts_any {Z : Nat} (wb : Nat) (k : BkD) (la : Option Addr) (n lc : Nat) (xs : List Value) (w : World) (h : BkP w wb k) (hl : w.ownsRow Z 3 1 (.slice la n lc) n xs) (hZ : Z ≤ w.heap.size) (hn : n ≤ 1000000) (h4 : k.il.length % 4 = 0) (hlen : k.il.length ≤ 1099511627776) (hls : ∀ b, some b = (Value.slice la n lc).ownBlock → ¬ k.set b ∧ b ≠ wb) :
    Calls Tryz.prog 108 #[.pointer (some ⟨wb, 1, none⟩), .slice la n lc] w fun e w' => e = .returned (.tuple #[]) ∧ ∃ k', BkStep wb k k' (fun b => some b = (Value.slice la n lc).ownBlock) w w' ∧ k'.il.length = k.il.length + 4 ∧ k'.rl = k.rl ∧ k'.bl = k.bl := by
  obtain ⟨K, hK⟩ : ∃ K : BkD, K = k := ⟨_, rfl⟩
  have HK := hide hK
  clear hK
  have hc2 := h.c2
  obtain ⟨ia, ic, hiv⟩ := owns_formK h.ok.iown
  rw [hiv] at hc2
  have H := hide h
  have Hl := hide hl
  have Hiv := hide hiv
  obtain ⟨m, hm⟩ : ∃ m : Int, m = -1000 - ((k.il.length / 4 : Nat) : Int) := ⟨_, rfl⟩
  have Hm := hide hm
  have hwl := h.lt
  clear h hl hiv hm
  go_enter Tryz.func108, Tryz.ntmps108
  go_wp2
  have hme : (-1000 - (k.il.length : Int) / 4) = m := by rw [Hm.out]; omega
  rw [hme]
  clear hme
  go_loopw [5] (fun i wr => ∃ (j : Nat), j ≤ n ∧ i = .int .i64 j ∧ Hid (MarkI w wr Z 3 (.slice la n lc) n [.int .i64 m] j)) (fun i _ => n - (intOf i).toNat)
  case atStart => exact ⟨0, Nat.zero_le _, rfl, Only.refl _ _, ⟨xs, Hl.out⟩, fun g _ i u hu => by simp [reps] at hu⟩
  case round =>
    obtain ⟨j, hj, rfl, hI⟩ := hrel
    by_cases hlt : j < n
    · have d1 : decide ((j : Int) < (n : Int)) = true := by simp; omega
      have hjj : (j : Int) < (n : Int) := by omega
      have hw : IntKind.i64.wrap ((j : Int) + 1) = (j : Int) + 1 := by rw [IntKind.wrap_i64]; omega
      obtain ⟨ys, hy⟩ := hI.out.own
      obtain ⟨g, rfl, hat⟩ := owns_at hy (by omega)
      obtain ⟨⟨u, hu⟩, hfz⟩ := hat j (by simpa using hlt)
      clear hat hy
      go_wp2_with fail
      go_roundw
      case rel => exact ⟨j + 1, by omega, by go_num, hI.out.next1 hlt⟩
      case measure => simp [intOf]; omega
    · have d1 : decide ((j : Int) < (n : Int)) = false := by simp; omega
      have hjn : j = n := by omega
      subst hjn
      rename World => wr
      have HO := hide hI.out.out
      have HOn := hide hI.out.only
      clear hI
      have hzr := HOn.out.size
      have HMK : Hid (∀ u ∈ [Value.int .i64 m], u.oneCell' = true) := by intro u hu; simp at hu; subst hu; rfl
      go_wp2_with (at_builtin; refine wpList_append_keep rfl (.tmp 26) (.tmp 28) 24 rfl Z 3 (.int .i64 0) 1 8 Tryz.underlying24 Tryz.info3 rfl (by omega) _ j (reps j [.int .i64 m]) rfl (HO.out.alloc _) wr.heap.size 1 1 (by omega) (reps 1 [.int .i64 m]) rfl (row_new wr _ (reps 1 [.int .i64 m])) (by rw [reps_length]; rfl) (reps_one HMK.out) (by omega) (by omega) (by simp; omega) ?_)
      intro v1 w1 hown1 hg1 hk1
      rw [← reps_add] at hown1
      obtain ⟨va1, vc1, rfl⟩ := owns_formK hown1.out
      have hz1 := hg1.out.size
      simp only [World.size_alloc] at hz1
      go_wp2_with (at_builtin; refine wpList_append_keep rfl (.tmp 30) (.tmp 33) 24 rfl Z 3 (.int .i64 0) 1 8 Tryz.underlying24 Tryz.info3 rfl (by omega) _ j (reps j [.int .i64 m]) rfl (hk1.out.1.alloc _) w1.heap.size 2 2 (by omega) (reps 2 [.int .i64 m]) rfl (row_new w1 _ (reps 2 [.int .i64 m])) (by rw [reps_length]; rfl) (reps_one HMK.out) (by omega) (by omega) (by simp; omega) ?_)
      intro v2 w2 hown2 hg2 hk2
      rw [← reps_add] at hown2
      obtain ⟨va2, vc2, rfl⟩ := owns_formK hown2.out
      have hz2 := hg2.out.size
      simp only [World.size_alloc] at hz2
      go_wp2_with (at_builtin; refine wpList_append_keep rfl (.tmp 35) (.tmp 39) 24 rfl Z 3 (.int .i64 0) 1 8 Tryz.underlying24 Tryz.info3 rfl (by omega) _ j (reps j [.int .i64 m]) rfl (hk2.out.1.alloc _) w2.heap.size 3 3 (by omega) (reps 3 [.int .i64 m]) rfl (row_new w2 _ (reps 3 [.int .i64 m])) (by rw [reps_length]; rfl) (reps_one HMK.out) (by omega) (by omega) (by simp; omega) ?_)
      intro v3 w3 hown3 hg3 hk3
      rw [← reps_add] at hown3
      obtain ⟨va3, vc3, rfl⟩ := owns_formK hown3.out
      have hz3 := hg3.out.size
      simp only [World.size_alloc] at hz3
      have HP0 := hide (pend_start H.out (by omega) hls HOn.out (three_lists (x := [.int .i64 m]) HO.out (alloc_below _ _) hown1.out hg1.out hk1.out (by simp) (alloc_below _ _) hown2.out hg2.out hk2.out (by simp) (alloc_below _ _) hown3.out hg3.out hk3.out (by simp)))
      clear hown1 hg1 hk1 hown2 hg2 hk2 hown3 hg3 hk3 HO HOn H hls Hl hwl
      have hL0 : Hid (k.il.length = K.il.length + 0 ∧ k.rl = K.rl ∧ k.bl = K.bl) := by rw [HK.out]; exact ⟨rfl, rfl, rfl⟩
      have e0 := HP0.out.st.p.c2
      have hw0 := HP0.out.st.p.lt
      have hmk0 : Hid (markI k.il.length = [.int .i64 m]) := by show _ = _; rw [Hm.out]; rfl
      have hlen0 : k.il.length ≤ 1099511627776 + 0 := by have := hL0.out.1; rw [HK.out] at this; omega
      go_wp2_with (at_builtin; refine wpList_append_src rfl (.tmp 45) (.tmp 47) 30 rfl 0 24 (.slice none 0 0) 1 24 Tryz.underlying30 Tryz.infoIs rfl (by omega) _ k.il.length k.il rfl (HP0.out.st.p.ok.iown.alloc _) _ 1 [(.slice la j lc)] rfl (.inr (.inl ⟨w3.heap.size, 0, 1, rfl, row_new w3 _ [(.slice la j lc)]⟩)) rfl (by intro u hu; simp at hu; subst hu; rfl) (by omega) (by omega) (by omega) ?_)
      intro u0 x0 xo0 xg0 xw0
      obtain ⟨f0, z0⟩ := HP0.out.midI (alloc_below _ _) xg0.out
      obtain ⟨ua0, uc0, rfl⟩ := owns_formK xo0.out
      have HQ0 := hide (HP0.out.pushI hmk0.out (alloc_below _ _) xg0.out xo0.out (by simpa using xw0.out))
      obtain ⟨k1, hkn0⟩ : ∃ zz : BkD, zz = { k with iv := .slice ua0 (k.il.length + 1) uc0, il := k.il ++ [(.slice la j lc)] } := ⟨_, rfl⟩
      have hL1 : Hid (k1.il.length = K.il.length + 1 ∧ k1.rl = K.rl ∧ k1.bl = K.bl) := by
        have := hL0.out
        rw [hkn0]
        exact ⟨by simp only [List.length_append, List.length_cons, List.length_nil]; omega, this.2.1, this.2.2⟩
      have hiv1 : Hid (k1.iv = .slice ua0 (k.il.length + 1) uc0) := by show _ = _; rw [hkn0]
      rw [← hkn0] at HQ0
      obtain ⟨y1, hy1⟩ : ∃ y, Hid (y = x0.setCell ⟨wb, 2, none⟩ (.slice ua0 (k.il.length + 1) uc0)) := ⟨_, rfl⟩
      have hsz1 : Hid (y1.heap.size = x0.heap.size) := by show _ = _; rw [hy1.out]; simp [World.setCell]
      have HP1 := HQ0
      rw [← hy1.out] at HP1
      clear hkn0 xo0 xg0 xw0 hmk0 HQ0 HP0 e0
      have hw1 := HP1.out.st.p.lt
      have hmk1 : Hid (markI k1.il.length = [.int .i64 m]) := by show _ = _; have q1 := hL1.out.1; have q2 := h4; rw [← HK.out] at q2; rw [Hm.out, markI, ← HK.out, q1]; congr 3; try omega
      have hlen1 : k1.il.length ≤ 1099511627776 + 1 := by have := hL1.out.1; rw [HK.out] at this; omega
      go_wp2_with (at_builtin; rw [← hy1.out]; refine wpList_append_src rfl (.tmp 55) (.tmp 57) 30 rfl 0 24 (.slice none 0 0) 1 24 Tryz.underlying30 Tryz.infoIs rfl (by omega) _ k1.il.length k1.il rfl ((own_cast hiv1.out HP1.out.st.p.ok.iown).alloc _) _ 1 [(.slice va1 (j + 1) vc1)] rfl (.inr (.inl ⟨x0.heap.size, 0, 1, rfl, sized hsz1.out (row_new y1 _ [(.slice va1 (j + 1) vc1)])⟩)) rfl (by intro u hu; simp at hu; subst hu; rfl) (by omega) (by omega) (by omega) ?_)
      intro u1 x1 xo1 xg1 xw1
      rw [← hiv1.out] at xg1 xw1
      obtain ⟨f1, z1⟩ := HP1.out.midI (alloc_below _ _) xg1.out
      obtain ⟨ua1, uc1, rfl⟩ := owns_formK xo1.out
      have HQ1 := hide (HP1.out.pushI hmk1.out (alloc_below _ _) xg1.out xo1.out (by simpa using xw1.out))
      obtain ⟨k2, hkn1⟩ : ∃ zz : BkD, zz = { k1 with iv := .slice ua1 (k1.il.length + 1) uc1, il := k1.il ++ [(.slice va1 (j + 1) vc1)] } := ⟨_, rfl⟩
      have hL2 : Hid (k2.il.length = K.il.length + 2 ∧ k2.rl = K.rl ∧ k2.bl = K.bl) := by
        have := hL1.out
        rw [hkn1]
        exact ⟨by simp only [List.length_append, List.length_cons, List.length_nil]; omega, this.2.1, this.2.2⟩
      have hiv2 : Hid (k2.iv = .slice ua1 (k1.il.length + 1) uc1) := by show _ = _; rw [hkn1]
      rw [← hkn1] at HQ1
      obtain ⟨y2, hy2⟩ : ∃ y, Hid (y = x1.setCell ⟨wb, 2, none⟩ (.slice ua1 (k1.il.length + 1) uc1)) := ⟨_, rfl⟩
      have hsz2 : Hid (y2.heap.size = x1.heap.size) := by show _ = _; rw [hy2.out]; simp [World.setCell]
      have HP2 := HQ1
      rw [← hy2.out] at HP2
      clear hkn1 xo1 xg1 xw1 hmk1 HQ1 HP1
      have hw2 := HP2.out.st.p.lt
      have hmk2 : Hid (markI k2.il.length = [.int .i64 m]) := by show _ = _; have q1 := hL2.out.1; have q2 := h4; rw [← HK.out] at q2; rw [Hm.out, markI, ← HK.out, q1]; congr 3; try omega
      have hlen2 : k2.il.length ≤ 1099511627776 + 2 := by have := hL2.out.1; rw [HK.out] at this; omega
      go_wp2_with (at_builtin; rw [← hy2.out]; refine wpList_append_src rfl (.tmp 65) (.tmp 67) 30 rfl 0 24 (.slice none 0 0) 1 24 Tryz.underlying30 Tryz.infoIs rfl (by omega) _ k2.il.length k2.il rfl ((own_cast hiv2.out HP2.out.st.p.ok.iown).alloc _) _ 1 [(.slice va2 (j + 2) vc2)] rfl (.inr (.inl ⟨x1.heap.size, 0, 1, rfl, sized hsz2.out (row_new y2 _ [(.slice va2 (j + 2) vc2)])⟩)) rfl (by intro u hu; simp at hu; subst hu; rfl) (by omega) (by omega) (by omega) ?_)
      intro u2 x2 xo2 xg2 xw2
      rw [← hiv2.out] at xg2 xw2
      obtain ⟨f2, z2⟩ := HP2.out.midI (alloc_below _ _) xg2.out
      obtain ⟨ua2, uc2, rfl⟩ := owns_formK xo2.out
      have HQ2 := hide (HP2.out.pushI hmk2.out (alloc_below _ _) xg2.out xo2.out (by simpa using xw2.out))
      obtain ⟨k3, hkn2⟩ : ∃ zz : BkD, zz = { k2 with iv := .slice ua2 (k2.il.length + 1) uc2, il := k2.il ++ [(.slice va2 (j + 2) vc2)] } := ⟨_, rfl⟩
      have hL3 : Hid (k3.il.length = K.il.length + 3 ∧ k3.rl = K.rl ∧ k3.bl = K.bl) := by
        have := hL2.out
        rw [hkn2]
        exact ⟨by simp only [List.length_append, List.length_cons, List.length_nil]; omega, this.2.1, this.2.2⟩
      have hiv3 : Hid (k3.iv = .slice ua2 (k2.il.length + 1) uc2) := by show _ = _; rw [hkn2]
      rw [← hkn2] at HQ2
      obtain ⟨y3, hy3⟩ : ∃ y, Hid (y = x2.setCell ⟨wb, 2, none⟩ (.slice ua2 (k2.il.length + 1) uc2)) := ⟨_, rfl⟩
      have hsz3 : Hid (y3.heap.size = x2.heap.size) := by show _ = _; rw [hy3.out]; simp [World.setCell]
      have HP3 := HQ2
      rw [← hy3.out] at HP3
      clear hkn2 xo2 xg2 xw2 hmk2 HQ2 HP2
      have hw3 := HP3.out.st.p.lt
      have hmk3 : Hid (markI k3.il.length = [.int .i64 m]) := by show _ = _; have q1 := hL3.out.1; have q2 := h4; rw [← HK.out] at q2; rw [Hm.out, markI, ← HK.out, q1]; congr 3; try omega
      have hlen3 : k3.il.length ≤ 1099511627776 + 3 := by have := hL3.out.1; rw [HK.out] at this; omega
      go_wp2_with (at_builtin; rw [← hy3.out]; refine wpList_append_src rfl (.tmp 75) (.tmp 77) 30 rfl 0 24 (.slice none 0 0) 1 24 Tryz.underlying30 Tryz.infoIs rfl (by omega) _ k3.il.length k3.il rfl ((own_cast hiv3.out HP3.out.st.p.ok.iown).alloc _) _ 1 [(.slice va3 (j + 3) vc3)] rfl (.inr (.inl ⟨x2.heap.size, 0, 1, rfl, sized hsz3.out (row_new y3 _ [(.slice va3 (j + 3) vc3)])⟩)) rfl (by intro u hu; simp at hu; subst hu; rfl) (by omega) (by omega) (by omega) ?_)
      intro u3 x3 xo3 xg3 xw3
      rw [← hiv3.out] at xg3 xw3
      obtain ⟨f3, z3⟩ := HP3.out.midI (alloc_below _ _) xg3.out
      obtain ⟨ua3, uc3, rfl⟩ := owns_formK xo3.out
      have HQ3 := hide (HP3.out.pushI hmk3.out (alloc_below _ _) xg3.out xo3.out (by simpa using xw3.out))
      obtain ⟨k4, hkn3⟩ : ∃ zz : BkD, zz = { k3 with iv := .slice ua3 (k3.il.length + 1) uc3, il := k3.il ++ [(.slice va3 (j + 3) vc3)] } := ⟨_, rfl⟩
      have hL4 : Hid (k4.il.length = K.il.length + 4 ∧ k4.rl = K.rl ∧ k4.bl = K.bl) := by
        have := hL3.out
        rw [hkn3]
        exact ⟨by simp only [List.length_append, List.length_cons, List.length_nil]; omega, this.2.1, this.2.2⟩
      have hiv4 : Hid (k4.iv = .slice ua3 (k3.il.length + 1) uc3) := by show _ = _; rw [hkn3]
      rw [← hkn3] at HQ3
      obtain ⟨y4, hy4⟩ : ∃ y, Hid (y = x3.setCell ⟨wb, 2, none⟩ (.slice ua3 (k3.il.length + 1) uc3)) := ⟨_, rfl⟩
      have hsz4 : Hid (y4.heap.size = x3.heap.size) := by show _ = _; rw [hy4.out]; simp [World.setCell]
      have HP4 := HQ3
      rw [← hy4.out] at HP4
      clear hkn3 xo3 xg3 xw3 hmk3 HQ3 HP3
      go_wp2_with fail
      rw [← hy4.out]
      refine bodyPost_end (results_none rfl _ _ _) rfl ?_
      exact ⟨rfl, k4, HP4.out.st.done, by rw [← HK.out]; exact hL4.out⟩
end Go.Proofs.YtndlmgocldckfaaGreat

namespace Go.Proofs.YtndlmgocldckfaaGreat
open Go.RowKit
set_option linter.unusedVariables false
set_option linter.unusedSimpArgs false

/-! Records that came out, noted. -/

structure KrI (wb : Nat) (k : BkD) (av : Value) (L : List RecC) (rs : List Rec) (Z : Nat) (w : World) (i : Nat) (kk : BkD) (wr : World) : Prop where
  st : BkStep wb k kk (AllSet av L) w wr
  il : kk.il.length ≤ k.il.length + 4 * i ∧ kk.il.length % 4 = 0 ∧ kk.rl = k.rl ∧ kk.bl = k.bl
  row : wr.ownsRow Z 46 5 av L.length (recCells L)
  rsep : ∀ b, some b = av.ownBlock → ¬ kk.set b ∧ b ≠ wb
  todo : ∀ (j : Nat) x r, i ≤ j → L[j]? = some x → rs[j]? = some r → wr.ownsRow Z 3 1 (.slice x.sa x.n x.sc) x.n (ints r.told) ∧ x.n = r.told.length ∧ ∀ b, some b = (Value.slice x.sa x.n x.sc).ownBlock → ¬ kk.set b ∧ b ≠ wb ∧ some b ≠ av.ownBlock

theorem KrI.skip {wb : Nat} {k : BkD} {av : Value} {L : List RecC} {rs : List Rec} {Z : Nat} {w : World} {i : Nat} {kk : BkD} {wr : World} (h : KrI wb k av L rs Z w i kk wr) : KrI wb k av L rs Z w (i + 1) kk wr :=
  ⟨h.st, ⟨by have := h.il.1; omega, h.il.2⟩, h.row, h.rsep, fun j x r hj hx hr => h.todo j x r (by omega) hx hr⟩
theorem KrI.next {wb : Nat} {k : BkD} {av : Value} {L : List RecC} {rs : List Rec} {Z : Nat} {w : World} {i : Nat} {kk kk' : BkD} {wr wr' : World} (h : KrI wb k av L rs Z w i kk wr) (hA : ApartR L) {x : RecC} (hx : L[i]? = some x) {r : Rec} (hr : rs[i]? = some r)
    (hs : BkStep wb kk kk' (fun b => some b = (Value.slice x.sa x.n x.sc).ownBlock) wr wr') (hl : kk'.il.length = kk.il.length + 4) (hrl : kk'.rl = kk.rl) (hbl : kk'.bl = kk.bl) : KrI wb k av L rs Z w (i + 1) kk' wr' := by
  have hto := h.todo i x r (Nat.le_refl _) hx hr
  have hkeep : ∀ b, b < wr.heap.size → ¬ kk.set b → ¬ some b = (Value.slice x.sa x.n x.sc).ownBlock → ¬ kk'.set b := by
    intro b hb h1 h2 hc
    rcases hs.sub b hc with e | e | e
    · exact h1 e
    · exact h2 e
    · omega
  have hrs : ∀ b, some b = av.ownBlock → ¬ some b = (Value.slice x.sa x.n x.sc).ownBlock := fun b hb e => (hto.2.2 b e).2.2 hb
  refine ⟨h.st.trans (hs.mono (fun b hb => .inr ⟨x, List.mem_of_getElem? hx, hb⟩)), ⟨by have := h.il.1; omega, by have := h.il.2.1; omega, hrl.trans h.il.2.2.1, hbl.trans h.il.2.2.2⟩, ?_, ?_, ?_⟩
  · refine owns_keep h.row hs.only ?_
    rintro b hb (e | e | e)
    · exact (h.rsep b hb).2 e
    · exact (h.rsep b hb).1 e
    · exact hrs b hb e
  · intro b hb
    exact ⟨hkeep b (h.row.lt b hb.symm).2 (h.rsep b hb).1 (hrs b hb), (h.rsep b hb).2⟩
  · intro j y q hj hy hq
    obtain ⟨t1, t2, t3⟩ := h.todo j y q (by omega) hy hq
    have hne : ∀ b, some b = (Value.slice y.sa y.n y.sc).ownBlock → ¬ some b = (Value.slice x.sa x.n x.sc).ownBlock := fun b hb e => by have := hA j i y x b hy hx hb e; omega
    refine ⟨owns_keep t1 hs.only ?_, t2, fun b hb => ⟨hkeep b (t1.lt b hb.symm).2 (t3 b hb).1 (hne b hb), (t3 b hb).2⟩⟩
    rintro b hb (e | e | e)
    · exact (t3 b hb).2.1 e
    · exact (t3 b hb).1 e
    · exact hne b hb e

def setR5 (w : World) (g o : Nat) (a b c d e : Value) : World := ((((w.setCell ⟨g, o, none⟩ a).setCell ⟨g, o + 1, none⟩ b).setCell ⟨g, o + 2, none⟩ c).setCell ⟨g, o + 3, none⟩ d).setCell ⟨g, o + 4, none⟩ e

theorem MarkI.next5 {w wr : World} {Z : Nat} {e : TypeId} {g c n j : Nat} {v0 v1 v2 v3 v4 : Value} (h : MarkI w wr Z e (.slice (some ⟨g, 0, none⟩) n c) n [v0, v1, v2, v3, v4] j) (hj : j < n) : MarkI w (setR5 wr g (j * 5) v0 v1 v2 v3 v4) Z e (.slice (some ⟨g, 0, none⟩) n c) n [v0, v1, v2, v3, v4] (j + 1) := by
  obtain ⟨ys, hy⟩ := h.own
  obtain ⟨g', hg', hat⟩ := owns_at hy (by omega)
  simp at hg'
  subst hg'
  simp only [List.length_cons, List.length_nil] at hat
  have hroom : ∀ i, i < 5 → (wr.cell? ⟨g, j * 5 + i, none⟩).isSome = true := by
    intro i hi
    obtain ⟨⟨u, hu⟩, _⟩ := hat (j * 5 + i) (by omega)
    rw [hu]; rfl
  refine ⟨((((h.only.setCell (p := ⟨g, j * 5, none⟩) rfl _).setCell (p := ⟨g, j * 5 + 1, none⟩) rfl _).setCell (p := ⟨g, j * 5 + 2, none⟩) rfl _).setCell (p := ⟨g, j * 5 + 3, none⟩) rfl _).setCell (p := ⟨g, j * 5 + 4, none⟩) rfl _, ?_, ?_⟩
  · obtain ⟨y1, h1⟩ := owns_set hy (j * 5) v0
    obtain ⟨y2, h2⟩ := owns_set h1 (j * 5 + 1) v1
    obtain ⟨y3, h3⟩ := owns_set h2 (j * 5 + 2) v2
    obtain ⟨y4, h4⟩ := owns_set h3 (j * 5 + 3) v3
    exact owns_set h4 (j * 5 + 4) v4
  · intro g' hg'
    simp [Value.ownBlock] at hg'
    subst hg'
    intro i u hu
    rw [reps_add] at hu
    rw [Nat.zero_add]
    by_cases hi : i < j * 5
    · rw [List.getElem?_append_left (by rw [reps_length]; simpa using hi)] at hu
      have := h.done g rfl i u hu
      rw [Nat.zero_add] at this
      unfold setR5
      rw [World.cell?_setCell_other _ _ _ _ (by simp <;> omega), World.cell?_setCell_other _ _ _ _ (by simp <;> omega), World.cell?_setCell_other _ _ _ _ (by simp <;> omega), World.cell?_setCell_other _ _ _ _ (by simp <;> omega), World.cell?_setCell_other _ _ _ _ (by simp <;> omega)]
      exact this
    · rw [List.getElem?_append_right (by rw [reps_length]; simp only [List.length_cons, List.length_nil]; omega), reps_length] at hu
      simp only [List.length_cons, List.length_nil, Nat.zero_add] at hu
      have hi2 := (List.getElem?_eq_some_iff.1 hu).1
      simp [reps] at hi2
      obtain ⟨d, hd⟩ : ∃ d, i = j * 5 + d := ⟨i - j * 5, by omega⟩
      subst hd
      rw [show j * 5 + d - j * (1 + 1 + 1 + 1 + 1) = d by omega] at hu
      have hd5 : d = 0 ∨ d = 1 ∨ d = 2 ∨ d = 3 ∨ d = 4 := by omega
      unfold setR5
      rcases hd5 with rfl | rfl | rfl | rfl | rfl <;> simp [reps] at hu <;> subst hu
      · rw [World.cell?_setCell_other _ _ _ _ (by simp), World.cell?_setCell_other _ _ _ _ (by simp), World.cell?_setCell_other _ _ _ _ (by simp), World.cell?_setCell_other _ _ _ _ (by simp)]
        exact World.cell?_setCell_same' _ _ _ (hroom 0 (by omega))
      · rw [World.cell?_setCell_other _ _ _ _ (by simp), World.cell?_setCell_other _ _ _ _ (by simp), World.cell?_setCell_other _ _ _ _ (by simp)]
        exact World.cell?_setCell_same' _ _ _ (by rw [World.cell?_setCell_other _ _ _ _ (by simp)]; exact hroom 1 (by omega))
      · rw [World.cell?_setCell_other _ _ _ _ (by simp), World.cell?_setCell_other _ _ _ _ (by simp)]
        exact World.cell?_setCell_same' _ _ _ (by rw [World.cell?_setCell_other _ _ _ _ (by simp), World.cell?_setCell_other _ _ _ _ (by simp)]; exact hroom 2 (by omega))
      · rw [World.cell?_setCell_other _ _ _ _ (by simp)]
        exact World.cell?_setCell_same' _ _ _ (by rw [World.cell?_setCell_other _ _ _ _ (by simp), World.cell?_setCell_other _ _ _ _ (by simp), World.cell?_setCell_other _ _ _ _ (by simp)]; exact hroom 3 (by omega))
      · exact World.cell?_setCell_same' _ _ _ (by rw [World.cell?_setCell_other _ _ _ _ (by simp), World.cell?_setCell_other _ _ _ _ (by simp), World.cell?_setCell_other _ _ _ _ (by simp), World.cell?_setCell_other _ _ _ _ (by simp)]; exact hroom 4 (by omega))

set_option maxRecDepth 100000 in
set_option maxHeartbeats 4000000 in
theorem keepsRecords_any {Z : Nat} (wb : Nat) (k : BkD) (la : Option Addr) (n lc : Nat) (L : List RecC) (rs : List Rec) (w : World) (h : BkP w wb k) (hl : AllR w Z (.slice la n lc) L rs) (hA : ApartR L) (hZ : Z ≤ w.heap.size) (hn : n ≤ 1000) (ht : ∀ r ∈ rs, r.told.length ≤ 1000000) (h4 : k.il.length % 4 = 0) (h4r : k.rl.length % 4 = 0) (hlen : k.il.length + 4 * n ≤ 1099511627776) (hlenr : k.rl.length ≤ 1099511627776) (hls : ∀ b, AllSet (.slice la n lc) L b → ¬ k.set b ∧ b ≠ wb) :
    Calls Tryz.prog 73 #[.pointer (some ⟨wb, 1, none⟩), .slice la n lc] w fun e w' => e = .returned (.tuple #[]) ∧ ∃ k', BkStep wb k k' (AllSet (.slice la n lc) L) w w' ∧ k'.il.length ≤ k.il.length + 4 * n ∧ k'.il.length % 4 = 0 ∧ k'.rl.length = k.rl.length + 4 ∧ k'.bl = k.bl := by
  have hnl : L.length = n := by
    obtain ⟨_, _, hc⟩ := owns_formK hl.row
    simp only [Value.slice.injEq] at hc
    exact hc.2.1.symm
  have HS : Hid (KrI wb k (.slice la n lc) L rs Z w 0 k w) := by
    refine ⟨BkStep.refl h, ⟨by omega, h4, rfl, rfl⟩, hl.row, fun b hb => hls b (.inl hb), fun j x r _ hx hr => ?_⟩
    obtain ⟨e1, e2, e3⟩ := hl.rec_ j x r hx hr
    refine ⟨by rw [e2] at e3 ⊢; exact e3, e2, fun b hb => ?_⟩
    have := hls b (.inr ⟨x, List.mem_of_getElem? hx, hb⟩)
    exact ⟨this.1, this.2, hl.tsep x (List.mem_of_getElem? hx) b hb⟩
  have HA := hide hA
  have Ht := hide ht
  have Hlr : Hid (L.length = rs.length) := hl.len
  have Hnl := hide hnl
  have Hls := hide hls
  clear h hl hA ht hnl hls
  go_enter Tryz.func73, Tryz.ntmps73
  go_wp2_with fail
  go_loopw [4] (fun i wr => ∃ (j : Nat) (kk : BkD), j ≤ n ∧ i = .int .i64 j ∧ Hid (KrI wb k (.slice la n lc) L rs Z w j kk wr)) (fun i _ => n - (intOf i).toNat)
  case atStart => exact ⟨0, k, Nat.zero_le _, rfl, HS.out⟩
  case round =>
    obtain ⟨j, kk, hj, rfl, hI⟩ := hrel
    clear HS
    rename World => wr
    by_cases hlt : j < n
    · have d1 : decide ((j : Int) < (n : Int)) = true := by simp; omega
      have hjj : (j : Int) < (n : Int) := by omega
      have hw : IntKind.i64.wrap ((j : Int) + 1) = (j : Int) + 1 := by rw [IntKind.wrap_i64]; omega
      have hjL : j < L.length := by have := Hnl.out; omega
      have hjr : j < rs.length := by have := Hlr.out; omega
      obtain ⟨x, hx⟩ : ∃ x, L[j]? = some x := ⟨L[j], List.getElem?_eq_getElem hjL⟩
      obtain ⟨r, hr⟩ : ∃ r, rs[j]? = some r := ⟨rs[j], List.getElem?_eq_getElem hjr⟩
      have hrow := hI.out.row
      rw [Hnl.out] at hrow
      obtain ⟨g, rfl, hat⟩ := owns_at hrow (by omega)
      have cT : wr.cell? ⟨g, j * 5 + 4, none⟩ = some (.slice x.sa x.n x.sc) := by
        have := hrow.cells (g := g) rfl (j * 5 + 4) (.slice x.sa x.n x.sc) (by rw [recCells_get L j 4 (by omega), hx]; rfl)
        rwa [Addr.add_lit, Nat.zero_add] at this
      obtain ⟨t1, t2, t3⟩ := hI.out.todo j x r (Nat.le_refl _) hx hr
      have hxn : x.n ≤ 1000000 := by rw [t2]; exact Ht.out r (List.mem_of_getElem? hr)
      have HX := hide hx
      have HR := hide hr
      have T1 := hide t1
      have T3 := hide t3
      clear hat hrow hx hr t1 t2 t3
      by_cases h0 : x.n = 0
      · have d2 : decide ((0 : Int) < (x.n : Int)) = false := by simp; omega
        go_wp2_with fail
        go_roundw
        case rel => exact ⟨j + 1, kk, by omega, by go_num, hI.out.skip⟩
        case measure => simp [intOf]; omega
      · have d2 : decide ((0 : Int) < (x.n : Int)) = true := by simp; omega
        have hz := hI.out.st.only.size
        have HK := hide (keepsInts_any wb kk x.sa x.n x.sc _ wr hI.out.st.p T1.out (by omega) hxn hI.out.il.2.1 (by have := hI.out.il.1; omega) (fun b hb => ⟨(T3.out b hb).1, (T3.out b hb).2.1⟩))
        go_wp2_with fail
        refine HK.out.mono ?_
        rintro e w2 ⟨rfl, kk', q1, q2, q3, q4⟩
        have HN := hide (hI.out.next HA.out HX.out HR.out q1 q2 q3 q4)
        clear q1 q2 q3 q4 HK
        go_wp2_with fail
        go_roundw
        case rel => exact ⟨j + 1, kk', by omega, by go_num, HN.out⟩
        case measure => simp [intOf]; omega
    · have d1 : decide ((j : Int) < (n : Int)) = false := by simp; omega
      have hjn : j = n := by omega
      subst hjn
      have hkr : kk.rl.length ≤ 1099511627776 := by have := congrArg List.length hI.out.il.2.2.1; omega
      have h4k : kk.rl.length % 4 = 0 := by have := congrArg List.length hI.out.il.2.2.1; omega
      have cR := hI.out.st.p.c3
      obtain ⟨ra, rc, hrv⟩ := owns_formK hI.out.st.p.ok.rown
      rw [hrv] at cR
      clear hrv
      obtain ⟨m, hm⟩ : ∃ m : Int, m = -1000 - ((kk.rl.length / 4 : Nat) : Int) := ⟨_, rfl⟩
      have Hm := hide hm
      clear hm
      obtain ⟨wo, hwo⟩ : ∃ wo, wo = wr := ⟨_, rfl⟩
      subst hwo
      go_wp2_with fail
      have hme : (-1000 - (kk.rl.length : Int) / 4) = m := by rw [Hm.out]; omega
      rw [hme]
      clear hme
      obtain ⟨W0, hW0⟩ : ∃ W0, W0 = wo.alloc (.cells #[.int .i64 m, .int .i64 0, .int .i64 0, .int .i64 0, .slice none 0 0] 46) := ⟨_, rfl⟩
      have HW0 := hide hW0
      have hzo := hI.out.st.only.size
      have hzW : W0.heap.size = wo.heap.size + 1 := by rw [hW0]; simp
      have HM00 : Hid (RowAt W0 wo.heap.size 0 [.int .i64 m, .int .i64 0, .int .i64 0, .int .i64 0, .slice none 0 0]) := by show RowAt _ _ _ _; rw [hW0]; exact row_new wo _ [_, _, _, _, _]
      obtain ⟨mb, hmb⟩ : ∃ mb, mb = wo.heap.size := ⟨_, rfl⟩
      have Hml : Hid (¬ some mb = (Value.slice la j lc).ownBlock) := by show ¬ _; intro e; have := (hI.out.row.lt mb e.symm).2; omega
      rw [← hW0, ← hmb]
      rw [← hmb] at HM00
      clear hmb
      have HO0 : Hid (W0.ownsRow Z 46 5 (.slice la j lc) j (recCells L)) := by
        have q := hI.out.row
        rw [Hnl.out] at q
        show World.ownsRow _ _ _ _ _ _ _
        rw [hW0]; exact q.alloc _
      have H : Hid (BkP W0 wb kk) := by show BkP _ _ _; rw [hW0]; exact hI.out.st.p.below (alloc_below _ _)
      have HI := hI
      clear hI hW0 cR
      go_loopw [6] (fun i wr => ∃ (q : Nat), q ≤ j ∧ i = .int .i64 q ∧ Hid (MarkI W0 wr Z 46 (.slice la j lc) j [.int .i64 m, .int .i64 0, .int .i64 0, .int .i64 0, .slice none 0 0] q)) (fun i _ => j - (intOf i).toNat)
      case atStart => exact ⟨0, Nat.zero_le _, rfl, Only.refl _ _, ⟨_, HO0.out⟩, fun g _ i u hu => by simp [reps] at hu⟩
      case round =>
        obtain ⟨q, hq, rfl, hJ⟩ := hrel
        rename World => wr
        have HM0 : Hid (RowAt wr mb 0 [.int .i64 m, .int .i64 0, .int .i64 0, .int .i64 0, .slice none 0 0]) := HM00.out.only hJ.out.only Hml.out
        have p00 := HM0.out 0 _ rfl; have p01 := HM0.out 1 _ rfl; have p02 := HM0.out 2 _ rfl; have p03 := HM0.out 3 _ rfl; have p04 := HM0.out 4 _ rfl
        simp only [Nat.zero_add] at p00 p01 p02 p03 p04
        by_cases hlt2 : q < j
        · have d2 : decide ((q : Int) < (j : Int)) = true := by simp; omega
          have hqq : (q : Int) < (j : Int) := by omega
          have hw : IntKind.i64.wrap ((q : Int) + 1) = (q : Int) + 1 := by rw [IntKind.wrap_i64]; omega
          obtain ⟨ys, hy⟩ := hJ.out.own
          obtain ⟨g, rfl, hat⟩ := owns_at hy (by omega)
          simp only [List.length_cons, List.length_nil] at hat
          obtain ⟨⟨y0, s0⟩, f0⟩ := hat (q * 5) (by omega)
          obtain ⟨⟨y1, s1⟩, f1⟩ := hat (q * 5 + 1) (by omega)
          obtain ⟨⟨y2, s2⟩, f2⟩ := hat (q * 5 + 2) (by omega)
          obtain ⟨⟨y3, s3⟩, f3⟩ := hat (q * 5 + 3) (by omega)
          obtain ⟨⟨y4, s4⟩, f4⟩ := hat (q * 5 + 4) (by omega)
          clear hat hy
          go_wp2_with fail
          go_roundw
          case rel => exact ⟨q + 1, by omega, by go_num, hJ.out.next5 hlt2⟩
          case measure => simp [intOf]; omega
        have d2 : decide ((q : Int) < (j : Int)) = false := by simp; omega
        have hqn : q = j := by omega
        subst hqn
        have HO := hide hJ.out.out
        have HOn := hide hJ.out.only
        have hzr := HOn.out.size
        have HMK : Hid (∀ u ∈ [Value.int .i64 m, .int .i64 0, .int .i64 0, .int .i64 0, .slice none 0 0], u.oneCell' = true) := by intro u hu; simp at hu; rcases hu with rfl | rfl | rfl <;> rfl
        have hls : ∀ b, some b = (Value.slice la q lc).ownBlock → ¬ kk.set b ∧ b ≠ wb := fun b hb => HI.out.rsep b hb
        obtain ⟨K, hK⟩ : ∃ K : BkD, K = kk := ⟨_, rfl⟩
        have HK := hide hK
        clear hJ hK HO0 HM00
        go_wp2_with (at_builtin; refine wpList_append_keep rfl (.tmp 48) (.tmp 50) 39 rfl Z 46 (.agg #[.int .i64 0, .int .i64 0, .int .i64 0, .int .i64 0, .slice none 0 0]) 5 56 Tryz.underlying39 Tryz.infoR rfl (by omega) _ q (reps q [.int .i64 m, .int .i64 0, .int .i64 0, .int .i64 0, .slice none 0 0]) rfl (HO.out.alloc _) wr.heap.size 1 1 (by omega) (reps 1 [.int .i64 m, .int .i64 0, .int .i64 0, .int .i64 0, .slice none 0 0]) rfl (row_new wr _ (reps 1 [.int .i64 m, .int .i64 0, .int .i64 0, .int .i64 0, .slice none 0 0])) (by rw [reps_length]; rfl) (reps_one HMK.out) (by omega) (by omega) (by simp; omega) ?_)
        intro v1 w1 hown1 hg1 hk1
        rw [← reps_add] at hown1
        obtain ⟨va1, vc1, rfl⟩ := owns_formK hown1.out
        have hz1 := hg1.out.size
        simp only [World.size_alloc] at hz1
        have hm1 : Hid (RowAt w1 mb 0 [.int .i64 m, .int .i64 0, .int .i64 0, .int .i64 0, .slice none 0 0]) := (HM0.out.only (Only.new (S := fun b => some b = (Value.slice la q lc).ownBlock) (alloc_below _ _)) Hml.out).only (only_of_grown hg1.out) Hml.out
        have p10 := hm1.out 0 _ rfl; have p11 := hm1.out 1 _ rfl; have p12 := hm1.out 2 _ rfl; have p13 := hm1.out 3 _ rfl; have p14 := hm1.out 4 _ rfl
        simp only [Nat.zero_add] at p10 p11 p12 p13 p14
        go_wp2_with (at_builtin; refine wpList_append_keep rfl (.tmp 52) (.tmp 55) 39 rfl Z 46 (.agg #[.int .i64 0, .int .i64 0, .int .i64 0, .int .i64 0, .slice none 0 0]) 5 56 Tryz.underlying39 Tryz.infoR rfl (by omega) _ q (reps q [.int .i64 m, .int .i64 0, .int .i64 0, .int .i64 0, .slice none 0 0]) rfl (hk1.out.1.alloc _) w1.heap.size 2 2 (by omega) (reps 2 [.int .i64 m, .int .i64 0, .int .i64 0, .int .i64 0, .slice none 0 0]) rfl (row_new w1 _ (reps 2 [.int .i64 m, .int .i64 0, .int .i64 0, .int .i64 0, .slice none 0 0])) (by rw [reps_length]; rfl) (reps_one HMK.out) (by omega) (by omega) (by simp; omega) ?_)
        intro v2 w2 hown2 hg2 hk2
        rw [← reps_add] at hown2
        obtain ⟨va2, vc2, rfl⟩ := owns_formK hown2.out
        have hz2 := hg2.out.size
        simp only [World.size_alloc] at hz2
        have hm2 : Hid (RowAt w2 mb 0 [.int .i64 m, .int .i64 0, .int .i64 0, .int .i64 0, .slice none 0 0]) := (hm1.out.only (Only.new (S := fun b => some b = (Value.slice la q lc).ownBlock) (alloc_below _ _)) Hml.out).only (only_of_grown hg2.out) Hml.out
        have p20 := hm2.out 0 _ rfl; have p21 := hm2.out 1 _ rfl; have p22 := hm2.out 2 _ rfl; have p23 := hm2.out 3 _ rfl; have p24 := hm2.out 4 _ rfl
        simp only [Nat.zero_add] at p20 p21 p22 p23 p24
        go_wp2_with (at_builtin; refine wpList_append_keep rfl (.tmp 57) (.tmp 61) 39 rfl Z 46 (.agg #[.int .i64 0, .int .i64 0, .int .i64 0, .int .i64 0, .slice none 0 0]) 5 56 Tryz.underlying39 Tryz.infoR rfl (by omega) _ q (reps q [.int .i64 m, .int .i64 0, .int .i64 0, .int .i64 0, .slice none 0 0]) rfl (hk2.out.1.alloc _) w2.heap.size 3 3 (by omega) (reps 3 [.int .i64 m, .int .i64 0, .int .i64 0, .int .i64 0, .slice none 0 0]) rfl (row_new w2 _ (reps 3 [.int .i64 m, .int .i64 0, .int .i64 0, .int .i64 0, .slice none 0 0])) (by rw [reps_length]; rfl) (reps_one HMK.out) (by omega) (by omega) (by simp; omega) ?_)
        intro v3 w3 hown3 hg3 hk3
        rw [← reps_add] at hown3
        obtain ⟨va3, vc3, rfl⟩ := owns_formK hown3.out
        have hz3 := hg3.out.size
        simp only [World.size_alloc] at hz3
        have hm3 : Hid (RowAt w3 mb 0 [.int .i64 m, .int .i64 0, .int .i64 0, .int .i64 0, .slice none 0 0]) := (hm2.out.only (Only.new (S := fun b => some b = (Value.slice la q lc).ownBlock) (alloc_below _ _)) Hml.out).only (only_of_grown hg3.out) Hml.out
        have p30 := hm3.out 0 _ rfl; have p31 := hm3.out 1 _ rfl; have p32 := hm3.out 2 _ rfl; have p33 := hm3.out 3 _ rfl; have p34 := hm3.out 4 _ rfl
        simp only [Nat.zero_add] at p30 p31 p32 p33 p34
        have HP0 := hide (pend_start H.out (by omega) hls HOn.out (three_lists (x := [.int .i64 m, .int .i64 0, .int .i64 0, .int .i64 0, .slice none 0 0]) HO.out (alloc_below _ _) hown1.out hg1.out hk1.out (by simp) (alloc_below _ _) hown2.out hg2.out hk2.out (by simp) (alloc_below _ _) hown3.out hg3.out hk3.out (by simp)))
        clear hown1 hg1 hk1 hown2 hg2 hk2 hown3 hg3 hk3 HO HOn H hls
        have hL0 : Hid (kk.rl.length = K.rl.length + 0 ∧ kk.il = K.il ∧ kk.bl = K.bl) := by rw [HK.out]; exact ⟨rfl, rfl, rfl⟩
        have e0 := HP0.out.st.p.c3
        have hw0 := HP0.out.st.p.lt
        have hmk0 : Hid (markR kk.rl.length = [.int .i64 m, .int .i64 0, .int .i64 0, .int .i64 0, .slice none 0 0]) := by show _ = _; rw [Hm.out]; rfl
        have hlen0 : kk.rl.length ≤ 1099511627776 + 0 := by have := hL0.out.1; rw [HK.out] at this; omega
        go_wp2_with (at_builtin; refine wpList_append_src rfl (.tmp 67) (.tmp 69) 31 rfl 0 39 (.slice none 0 0) 1 24 Tryz.underlying31 Tryz.infoRs rfl (by omega) _ kk.rl.length kk.rl rfl (HP0.out.st.p.ok.rown.alloc _) _ 1 [(.slice la q lc)] rfl (.inr (.inl ⟨w3.heap.size, 0, 1, rfl, row_new w3 _ [(.slice la q lc)]⟩)) rfl (by intro u hu; simp at hu; subst hu; rfl) (by omega) (by omega) (by omega) ?_)
        intro u0 x0 xo0 xg0 xw0
        obtain ⟨f0, z0⟩ := HP0.out.midR (alloc_below _ _) xg0.out
        obtain ⟨ua0, uc0, rfl⟩ := owns_formK xo0.out
        have HQ0 := hide (HP0.out.pushR hmk0.out (alloc_below _ _) xg0.out xo0.out (by simpa using xw0.out))
        obtain ⟨k1, hkn0⟩ : ∃ zz : BkD, zz = { kk with rv := .slice ua0 (kk.rl.length + 1) uc0, rl := kk.rl ++ [(.slice la q lc)] } := ⟨_, rfl⟩
        have hL1 : Hid (k1.rl.length = K.rl.length + 1 ∧ k1.il = K.il ∧ k1.bl = K.bl) := by
          have := hL0.out
          rw [hkn0]
          exact ⟨by simp only [List.length_append, List.length_cons, List.length_nil]; omega, this.2.1, this.2.2⟩
        have hiv1 : Hid (k1.rv = .slice ua0 (kk.rl.length + 1) uc0) := by show _ = _; rw [hkn0]
        rw [← hkn0] at HQ0
        obtain ⟨y1, hy1⟩ : ∃ y, Hid (y = x0.setCell ⟨wb, 3, none⟩ (.slice ua0 (kk.rl.length + 1) uc0)) := ⟨_, rfl⟩
        have hsz1 : Hid (y1.heap.size = x0.heap.size) := by show _ = _; rw [hy1.out]; simp [World.setCell]
        have HP1 := HQ0
        rw [← hy1.out] at HP1
        clear hkn0 xo0 xg0 xw0 hmk0 HQ0 HP0 e0
        have hw1 := HP1.out.st.p.lt
        have hmk1 : Hid (markR k1.rl.length = [.int .i64 m, .int .i64 0, .int .i64 0, .int .i64 0, .slice none 0 0]) := by show _ = _; have q1 := hL1.out.1; have q2 := h4k; rw [← HK.out] at q2; rw [Hm.out, markR, ← HK.out, q1]; congr 3; try omega
        have hlen1 : k1.rl.length ≤ 1099511627776 + 1 := by have := hL1.out.1; rw [HK.out] at this; omega
        go_wp2_with (at_builtin; rw [← hy1.out]; refine wpList_append_src rfl (.tmp 77) (.tmp 79) 31 rfl 0 39 (.slice none 0 0) 1 24 Tryz.underlying31 Tryz.infoRs rfl (by omega) _ k1.rl.length k1.rl rfl ((own_cast hiv1.out HP1.out.st.p.ok.rown).alloc _) _ 1 [(.slice va1 (q + 1) vc1)] rfl (.inr (.inl ⟨x0.heap.size, 0, 1, rfl, sized hsz1.out (row_new y1 _ [(.slice va1 (q + 1) vc1)])⟩)) rfl (by intro u hu; simp at hu; subst hu; rfl) (by omega) (by omega) (by omega) ?_)
        intro u1 x1 xo1 xg1 xw1
        rw [← hiv1.out] at xg1 xw1
        obtain ⟨f1, z1⟩ := HP1.out.midR (alloc_below _ _) xg1.out
        obtain ⟨ua1, uc1, rfl⟩ := owns_formK xo1.out
        have HQ1 := hide (HP1.out.pushR hmk1.out (alloc_below _ _) xg1.out xo1.out (by simpa using xw1.out))
        obtain ⟨k2, hkn1⟩ : ∃ zz : BkD, zz = { k1 with rv := .slice ua1 (k1.rl.length + 1) uc1, rl := k1.rl ++ [(.slice va1 (q + 1) vc1)] } := ⟨_, rfl⟩
        have hL2 : Hid (k2.rl.length = K.rl.length + 2 ∧ k2.il = K.il ∧ k2.bl = K.bl) := by
          have := hL1.out
          rw [hkn1]
          exact ⟨by simp only [List.length_append, List.length_cons, List.length_nil]; omega, this.2.1, this.2.2⟩
        have hiv2 : Hid (k2.rv = .slice ua1 (k1.rl.length + 1) uc1) := by show _ = _; rw [hkn1]
        rw [← hkn1] at HQ1
        obtain ⟨y2, hy2⟩ : ∃ y, Hid (y = x1.setCell ⟨wb, 3, none⟩ (.slice ua1 (k1.rl.length + 1) uc1)) := ⟨_, rfl⟩
        have hsz2 : Hid (y2.heap.size = x1.heap.size) := by show _ = _; rw [hy2.out]; simp [World.setCell]
        have HP2 := HQ1
        rw [← hy2.out] at HP2
        clear hkn1 xo1 xg1 xw1 hmk1 HQ1 HP1
        have hw2 := HP2.out.st.p.lt
        have hmk2 : Hid (markR k2.rl.length = [.int .i64 m, .int .i64 0, .int .i64 0, .int .i64 0, .slice none 0 0]) := by show _ = _; have q1 := hL2.out.1; have q2 := h4k; rw [← HK.out] at q2; rw [Hm.out, markR, ← HK.out, q1]; congr 3; try omega
        have hlen2 : k2.rl.length ≤ 1099511627776 + 2 := by have := hL2.out.1; rw [HK.out] at this; omega
        go_wp2_with (at_builtin; rw [← hy2.out]; refine wpList_append_src rfl (.tmp 87) (.tmp 89) 31 rfl 0 39 (.slice none 0 0) 1 24 Tryz.underlying31 Tryz.infoRs rfl (by omega) _ k2.rl.length k2.rl rfl ((own_cast hiv2.out HP2.out.st.p.ok.rown).alloc _) _ 1 [(.slice va2 (q + 2) vc2)] rfl (.inr (.inl ⟨x1.heap.size, 0, 1, rfl, sized hsz2.out (row_new y2 _ [(.slice va2 (q + 2) vc2)])⟩)) rfl (by intro u hu; simp at hu; subst hu; rfl) (by omega) (by omega) (by omega) ?_)
        intro u2 x2 xo2 xg2 xw2
        rw [← hiv2.out] at xg2 xw2
        obtain ⟨f2, z2⟩ := HP2.out.midR (alloc_below _ _) xg2.out
        obtain ⟨ua2, uc2, rfl⟩ := owns_formK xo2.out
        have HQ2 := hide (HP2.out.pushR hmk2.out (alloc_below _ _) xg2.out xo2.out (by simpa using xw2.out))
        obtain ⟨k3, hkn2⟩ : ∃ zz : BkD, zz = { k2 with rv := .slice ua2 (k2.rl.length + 1) uc2, rl := k2.rl ++ [(.slice va2 (q + 2) vc2)] } := ⟨_, rfl⟩
        have hL3 : Hid (k3.rl.length = K.rl.length + 3 ∧ k3.il = K.il ∧ k3.bl = K.bl) := by
          have := hL2.out
          rw [hkn2]
          exact ⟨by simp only [List.length_append, List.length_cons, List.length_nil]; omega, this.2.1, this.2.2⟩
        have hiv3 : Hid (k3.rv = .slice ua2 (k2.rl.length + 1) uc2) := by show _ = _; rw [hkn2]
        rw [← hkn2] at HQ2
        obtain ⟨y3, hy3⟩ : ∃ y, Hid (y = x2.setCell ⟨wb, 3, none⟩ (.slice ua2 (k2.rl.length + 1) uc2)) := ⟨_, rfl⟩
        have hsz3 : Hid (y3.heap.size = x2.heap.size) := by show _ = _; rw [hy3.out]; simp [World.setCell]
        have HP3 := HQ2
        rw [← hy3.out] at HP3
        clear hkn2 xo2 xg2 xw2 hmk2 HQ2 HP2
        have hw3 := HP3.out.st.p.lt
        have hmk3 : Hid (markR k3.rl.length = [.int .i64 m, .int .i64 0, .int .i64 0, .int .i64 0, .slice none 0 0]) := by show _ = _; have q1 := hL3.out.1; have q2 := h4k; rw [← HK.out] at q2; rw [Hm.out, markR, ← HK.out, q1]; congr 3; try omega
        have hlen3 : k3.rl.length ≤ 1099511627776 + 3 := by have := hL3.out.1; rw [HK.out] at this; omega
        go_wp2_with (at_builtin; rw [← hy3.out]; refine wpList_append_src rfl (.tmp 97) (.tmp 99) 31 rfl 0 39 (.slice none 0 0) 1 24 Tryz.underlying31 Tryz.infoRs rfl (by omega) _ k3.rl.length k3.rl rfl ((own_cast hiv3.out HP3.out.st.p.ok.rown).alloc _) _ 1 [(.slice va3 (q + 3) vc3)] rfl (.inr (.inl ⟨x2.heap.size, 0, 1, rfl, sized hsz3.out (row_new y3 _ [(.slice va3 (q + 3) vc3)])⟩)) rfl (by intro u hu; simp at hu; subst hu; rfl) (by omega) (by omega) (by omega) ?_)
        intro u3 x3 xo3 xg3 xw3
        rw [← hiv3.out] at xg3 xw3
        obtain ⟨f3, z3⟩ := HP3.out.midR (alloc_below _ _) xg3.out
        obtain ⟨ua3, uc3, rfl⟩ := owns_formK xo3.out
        have HQ3 := hide (HP3.out.pushR hmk3.out (alloc_below _ _) xg3.out xo3.out (by simpa using xw3.out))
        obtain ⟨k4, hkn3⟩ : ∃ zz : BkD, zz = { k3 with rv := .slice ua3 (k3.rl.length + 1) uc3, rl := k3.rl ++ [(.slice va3 (q + 3) vc3)] } := ⟨_, rfl⟩
        have hL4 : Hid (k4.rl.length = K.rl.length + 4 ∧ k4.il = K.il ∧ k4.bl = K.bl) := by
          have := hL3.out
          rw [hkn3]
          exact ⟨by simp only [List.length_append, List.length_cons, List.length_nil]; omega, this.2.1, this.2.2⟩
        have hiv4 : Hid (k4.rv = .slice ua3 (k3.rl.length + 1) uc3) := by show _ = _; rw [hkn3]
        rw [← hkn3] at HQ3
        obtain ⟨y4, hy4⟩ : ∃ y, Hid (y = x3.setCell ⟨wb, 3, none⟩ (.slice ua3 (k3.rl.length + 1) uc3)) := ⟨_, rfl⟩
        have hsz4 : Hid (y4.heap.size = x3.heap.size) := by show _ = _; rw [hy4.out]; simp [World.setCell]
        have HP4 := HQ3
        rw [← hy4.out] at HP4
        clear hkn3 xo3 xg3 xw3 hmk3 HQ3 HP3
        go_wp2_with fail
        rw [← hy4.out]
        refine bodyPost_end (results_none rfl _ _ _) rfl ?_
        have F1 : BkStep wb kk k4 (AllSet (.slice la q lc) L) W0 y4 := HP4.out.st.done.mono (fun b hb => .inl hb)
        have F2 : BkStep wb kk k4 (AllSet (.slice la q lc) L) wo y4 := BkStep.pre (by rw [HW0.out]; exact Only.new (alloc_below _ _)) (fun hc => (Hls.out wb hc).2 rfl) F1
        have q1 := hL4.out
        rw [HK.out] at q1
        have q2 := HI.out.il
        have q3 := congrArg List.length q2.2.2.1
        exact ⟨rfl, k4, HI.out.st.trans F2, by rw [q1.2.1]; exact q2.1, by rw [q1.2.1]; exact q2.2.1, by omega, q1.2.2.trans q2.2.2.2⟩
end Go.Proofs.YtndlmgocldckfaaGreat

namespace Go.Proofs.YtndlmgocldckfaaGreat
open Go.RowKit
set_option linter.unusedVariables false
set_option linter.unusedSimpArgs false

/-! Compare. -/

def recEq (a b : Rec) : Bool := decide (a.e.number = b.e.number) && (decide (a.e.time = b.e.time) && (decide (a.e.kind = b.e.kind) && (decide (a.e.entity = b.e.entity) && decide (a.told = b.told))))
def cmpF : Nat → List Rec → List Rec → Int
  | i, a :: l, b :: m => if recEq a b then cmpF (i + 1) l m else (i : Int)
  | _, [], [] => -1
  | i, [], _ :: _ => (i : Int)
  | i, _ :: _, [] => (i : Int)
theorem recEq_iff (a b : Rec) : recEq a b = true ↔ a = b := by
  obtain ⟨⟨a1, a2, a3, a4⟩, a5⟩ := a
  obtain ⟨⟨b1, b2, b3, b4⟩, b5⟩ := b
  simp [recEq]
  constructor
  · rintro ⟨h1, h2, h3, h4, h5⟩; exact ⟨⟨h2, h1, h3, h4⟩, h5⟩
  · rintro ⟨⟨h1, h2, h3, h4⟩, h5⟩; exact ⟨h2, h1, h3, h4, h5⟩

theorem cmpF_step (a b : List Rec) (i : Nat) (h1 : i < a.length) (h2 : i < b.length) : cmpF i (a.drop i) (b.drop i) = if recEq a[i] b[i] then cmpF (i + 1) (a.drop (i + 1)) (b.drop (i + 1)) else (i : Int) := by
  rw [List.drop_eq_getElem_cons h1, List.drop_eq_getElem_cons h2, cmpF]
theorem cmpF_end (a b : List Rec) (i : Nat) (h : i = min a.length b.length) : cmpF i (a.drop i) (b.drop i) = if a.length = b.length then (-1 : Int) else (i : Int) := by
  by_cases e : a.length = b.length
  · rw [if_pos e, List.drop_eq_nil_of_le (by omega), List.drop_eq_nil_of_le (by omega), cmpF]
  · rw [if_neg e]
    by_cases h2 : a.length < b.length
    · have e1 : a.drop i = [] := List.drop_eq_nil_of_le (by omega)
      rw [e1, List.drop_eq_getElem_cons (l := b) (by omega), cmpF]
    · have e1 : b.drop i = [] := List.drop_eq_nil_of_le (by omega)
      rw [e1, List.drop_eq_getElem_cons (l := a) (by omega), cmpF]

set_option maxRecDepth 100000 in
set_option maxHeartbeats 1000000 in
theorem eqInts_any (sa sb : Option Addr) (ca cb : Nat) (l m : List Int) (w : World) (h1 : ToldIn w sa l) (h2 : ToldIn w sb m) (hl : l.length ≤ 1000000000000000) :
    Calls Tryz.prog 112 #[.slice sa l.length ca, .slice sb m.length cb] w fun e w' => e = .returned (.bool (decide (l = m))) ∧ Below w.heap.size w w' := by
  have H1 := hide h1
  have H2 := hide h2
  clear h1 h2
  by_cases hlen : l.length = m.length
  rotate_left
  · have d0 : ((l.length : Int) != (m.length : Int)) = true := by simpa using (by omega : ¬ (l.length : Int) = (m.length : Int))
    have hne : decide (l = m) = false := by simp; intro hc; exact hlen (by rw [hc])
    rw [hne]
    go_enter Tryz.func112, Tryz.ntmps112
    go_wp2_with fail
    go_ret
    exact ⟨rfl, Below.refl _ _⟩
  rw [← hlen]
  have Hlen := hide hlen
  clear hlen
  go_enter Tryz.func112, Tryz.ntmps112
  go_wp2_with fail
  go_loopg [13] (l.length + 3) (fun g s13 wr => ∃ (i : Nat), s13 = .int .i64 i ∧ l.length - i + 2 ≤ g ∧ i ≤ l.length ∧ Hid (Below w.heap.size w wr ∧ l.take i = m.take i))
  case atStart => exact ⟨0, rfl, by omega, by omega, Below.refl _ _, by simp⟩
  case round =>
    obtain ⟨i, rfl, hg, hi, hI⟩ := hrel
    by_cases hlt : i < l.length
    · have d1 : decide ((i : Int) < (l.length : Int)) = true := by simp; omega
      have hii : (i : Int) < (l.length : Int) := by omega
      have hw : IntKind.i64.wrap ((i : Int) + 1) = (i : Int) + 1 := by rw [IntKind.wrap_i64]; omega
      have hlm : i < m.length := by have := Hlen.out; omega
      obtain ⟨g1, o1, rfl, c1⟩ := H1.out i l[i] (List.getElem?_eq_getElem hlt)
      obtain ⟨g2, o2, rfl, c2⟩ := H2.out i m[i] (List.getElem?_eq_getElem hlm)
      replace c1 := below_at hI.out.1 c1 (lt_of_cell c1)
      replace c2 := below_at hI.out.1 c2 (lt_of_cell c2)
      have HN : Hid (¬ l[i] = m[i] → decide (l = m) = false) := by
        intro hne
        simp only [decide_eq_false_iff_not]
        intro hc
        subst hc
        exact hne rfl
      have HY : Hid (l[i] = m[i] → l.take (i + 1) = m.take (i + 1)) := by
        intro he
        rw [List.take_succ_eq_append_getElem hlt, List.take_succ_eq_append_getElem hlm, hI.out.2, he]
      generalize l[i] = x at c1 HN HY
      generalize m[i] = y at c2 HN HY
      by_cases hxy : x = y
      · subst hxy
        have hT := HY.out rfl
        have HT := hide hT
        clear hT HN HY
        go_wp2_with fail
        go_quiet (fail)
        go_wp2_with fail
        go_roundg (l.length - (i + 1) + 2)
        case measure => omega
        case rel => exact ⟨i + 1, by go_num, Nat.le_refl _, by omega, below_drewN hI.out.1 _, HT.out⟩
      · have hne : (x != y) = true := by simpa using hxy
        have hF := HN.out hxy
        have HF := hide hF
        clear hF HN HY
        go_wp2_with fail
        go_quiet (fail)
        go_wp2_with fail
        go_ret
        exact ⟨by rw [HF.out]; rfl, below_drewN hI.out.1 _⟩
    · have d1 : decide ((i : Int) < (l.length : Int)) = false := by simp; omega
      have he : l = m := by
        have h1 := hI.out.2
        rw [List.take_of_length_le (by omega), List.take_of_length_le (by have := Hlen.out; omega)] at h1
        exact h1
      have hd : decide (l = m) = true := by simpa using he
      have Hd := hide hd
      clear he hd
      go_wp2_with fail
      go_ret
      exact ⟨by rw [Hd.out]; rfl, hI.out.1⟩

set_option maxRecDepth 100000 in
set_option maxHeartbeats 1000000 in
theorem sameRec_any (a b : Rec) (sa sb : Option Addr) (ca cb : Nat) (w : World) (h1 : ToldIn w sa a.told) (h2 : ToldIn w sb b.told) (hl : a.told.length ≤ 1000000000000000) :
    Calls Tryz.prog 82 #[.agg #[.int .i64 a.e.number, .int .i64 a.e.time, .int .i64 a.e.kind, .int .i64 a.e.entity, .slice sa a.told.length ca], .agg #[.int .i64 b.e.number, .int .i64 b.e.time, .int .i64 b.e.kind, .int .i64 b.e.entity, .slice sb b.told.length cb]] w fun e w' => e = .returned (.bool (recEq a b)) ∧ Below w.heap.size w w' := by
  have H1 := hide h1
  have H2 := hide h2
  obtain ⟨⟨a1, a2, a3, a4⟩, a5⟩ := a
  obtain ⟨⟨b1, b2, b3, b4⟩, b5⟩ := b
  simp only at H1 H2 hl ⊢
  have HF : Hid (recEq ⟨⟨a1, a2, a3, a4⟩, a5⟩ ⟨⟨b1, b2, b3, b4⟩, b5⟩ = (decide (a2 = b2) && (decide (a1 = b1) && (decide (a3 = b3) && (decide (a4 = b4) && decide (a5 = b5)))))) := by show _ = _; rfl
  obtain ⟨W1, hW1⟩ : ∃ W1, W1 = (w.alloc (.cells #[.int .i64 a2, .int .i64 a1, .int .i64 a3, .int .i64 a4, .slice sa a5.length ca] 46)).alloc (.cells #[.int .i64 b2, .int .i64 b1, .int .i64 b3, .int .i64 b4, .slice sb b5.length cb] 46) := ⟨_, rfl⟩
  have hb1 : Below w.heap.size w W1 := by rw [hW1]; exact ((Below.refl _ _).alloc (Nat.le_refl _) _).alloc (by simp) _
  have HB1 := hide hb1
  have HQ := hide (eqInts_any sa sb ca cb a5 b5 W1 (H1.out.below hb1) (H2.out.below hb1) hl)
  clear h1 h2 hb1
  by_cases e2 : a2 = b2
  rotate_left
  · have d : (a2 == b2) = false := by simpa using e2
    have hf : recEq ⟨⟨a1, a2, a3, a4⟩, a5⟩ ⟨⟨b1, b2, b3, b4⟩, b5⟩ = false := by rw [HF.out]; simp [e2]
    rw [hf]
    go_enter Tryz.func82, Tryz.ntmps82
    go_wp2_with fail
    go_ret
    exact ⟨rfl, by rw [← hW1]; exact HB1.out⟩
  by_cases e1 : a1 = b1
  rotate_left
  · have d : (a1 == b1) = false := by simpa using e1
    have hf : recEq ⟨⟨a1, a2, a3, a4⟩, a5⟩ ⟨⟨b1, b2, b3, b4⟩, b5⟩ = false := by rw [HF.out]; simp [e1]
    rw [hf]
    subst e2
    go_enter Tryz.func82, Tryz.ntmps82
    go_wp2_with fail
    go_ret
    exact ⟨rfl, by rw [← hW1]; exact HB1.out⟩
  by_cases e3 : a3 = b3
  rotate_left
  · have d : (a3 == b3) = false := by simpa using e3
    have hf : recEq ⟨⟨a1, a2, a3, a4⟩, a5⟩ ⟨⟨b1, b2, b3, b4⟩, b5⟩ = false := by rw [HF.out]; simp [e3]
    rw [hf]
    subst e2 e1
    go_enter Tryz.func82, Tryz.ntmps82
    go_wp2_with fail
    go_ret
    exact ⟨rfl, by rw [← hW1]; exact HB1.out⟩
  by_cases e4 : a4 = b4
  rotate_left
  · have d : (a4 == b4) = false := by simpa using e4
    have hf : recEq ⟨⟨a1, a2, a3, a4⟩, a5⟩ ⟨⟨b1, b2, b3, b4⟩, b5⟩ = false := by rw [HF.out]; simp [e4]
    rw [hf]
    subst e2 e1 e3
    go_enter Tryz.func82, Tryz.ntmps82
    go_wp2_with fail
    go_ret
    exact ⟨rfl, by rw [← hW1]; exact HB1.out⟩
  have hf : recEq ⟨⟨a1, a2, a3, a4⟩, a5⟩ ⟨⟨b1, b2, b3, b4⟩, b5⟩ = decide (a5 = b5) := by rw [HF.out]; simp [e1, e2, e3, e4]
  rw [hf]
  subst e2 e1 e3 e4
  generalize decide (a5 = b5) = q at HQ ⊢
  go_enter Tryz.func82, Tryz.ntmps82
  go_wp2_with (go_at_call 112; rw [← hW1]; refine HQ.out.mono ?_; rintro e w' ⟨rfl, hb'⟩)
  go_ret
  exact ⟨rfl, HB1.out.trans (hb'.mono HB1.out.size)⟩

set_option maxRecDepth 100000 in
set_option maxHeartbeats 1000000 in
theorem compare_any (a b : Option Addr) (ca cb : Nat) (ra rb : List Rec) (w : World) (h1 : RecIn w a ra) (h2 : RecIn w b rb) (hl : ra.length ≤ 1000000000000000) (hm : rb.length ≤ 1000000000000000) (ht : ∀ r ∈ ra, r.told.length ≤ 1000000000000000) :
    Calls Tryz.prog 42 #[.slice a ra.length ca, .slice b rb.length cb] w fun e w' => e = .returned (.int .i64 (cmpF 0 ra rb)) ∧ Below w.heap.size w w' := by
  have H1 := hide h1
  have H2 := hide h2
  have Ht := hide ht
  obtain ⟨n, hn⟩ : ∃ n, n = min ra.length rb.length := ⟨_, rfl⟩
  have hmin : min (ra.length : Int) (rb.length : Int) = (n : Int) := by omega
  have Hn := hide hn
  have hna : n ≤ ra.length := by omega
  have hnb : n ≤ rb.length := by omega
  clear h1 h2 ht hn
  have key : (ra.length ≤ rb.length ∧ n = ra.length) ∨ (rb.length < ra.length ∧ n = rb.length) := by have := Hn.out; omega
  clear hmin
  rcases key with ⟨hc, hnn⟩ | ⟨hc, hnn⟩
  all_goals
    have hci : (ra.length : Int) ≤ (rb.length : Int) ∨ (rb.length : Int) < (ra.length : Int) := by omega
    first
      | (have hmn : min (ra.length : Int) (rb.length : Int) = (ra.length : Int) := by omega)
      | (have hmn : min (ra.length : Int) (rb.length : Int) = (rb.length : Int) := by omega)
    have Hnn := hide hnn
    have Hc := hide hc
    clear hnn hci hc
    go_enter Tryz.func42, Tryz.ntmps42
    go_wp2_with fail
    clear hmn
    go_loopg [13] (n + 3) (fun g s13 wr => ∃ (i : Nat), s13 = .int .i64 i ∧ n - i + 2 ≤ g ∧ i ≤ n ∧ Hid (Below w.heap.size w wr ∧ cmpF i (ra.drop i) (rb.drop i) = cmpF 0 ra rb))
    case atStart => exact ⟨0, rfl, by omega, by omega, Below.refl _ _, by simp⟩
    case round =>
      obtain ⟨i, rfl, hg, hi, hI⟩ := hrel
      by_cases hlt : i < n
      · have hla : i < ra.length := by omega
        have hlb : i < rb.length := by omega
        have d1 : decide ((i : Int) < (ra.length : Int)) = true := by simp; omega
        have d2 : decide ((i : Int) < (rb.length : Int)) = true := by simp; omega
        have hia : (i : Int) < (ra.length : Int) := by omega
        have hib : (i : Int) < (rb.length : Int) := by omega
        have hw : IntKind.i64.wrap ((i : Int) + 1) = (i : Int) + 1 := by rw [IntKind.wrap_i64]; omega
        obtain ⟨g1, o1, sa, sca, rfl, c0, c1, c2, c3, c4, ct⟩ := (H1.out.below hI.out.1) i ra[i] (List.getElem?_eq_getElem hla)
        obtain ⟨g2, o2, sb, scb, rfl, e0, e1, e2, e3, e4, et⟩ := (H2.out.below hI.out.1) i rb[i] (List.getElem?_eq_getElem hlb)
        have htl := Ht.out ra[i] (List.getElem_mem hla)
        have HS : Hid (cmpF 0 ra rb = if recEq ra[i] rb[i] then cmpF (i + 1) (ra.drop (i + 1)) (rb.drop (i + 1)) else (i : Int)) := by show _ = _; rw [← hI.out.2]; exact cmpF_step ra rb i hla hlb
        have HX := hide (sameRec_any ra[i] rb[i] sa sb sca scb wr.drew (ct.below (Below.refl _ _).drew) (et.below (Below.refl _ _).drew) htl)
        generalize ra[i] = x at c0 c1 c2 c3 c4 HS HX
        generalize rb[i] = y at e0 e1 e2 e3 e4 HS HX
        obtain ⟨⟨xt, xn, xk, xe⟩, xl⟩ := x
        obtain ⟨⟨yt, yn, yk, ye⟩, yl⟩ := y
        simp only at c0 c1 c2 c3 c4 e0 e1 e2 e3 e4 HX
        generalize recEq ⟨⟨xt, xn, xk, xe⟩, xl⟩ ⟨⟨yt, yn, yk, ye⟩, yl⟩ = q at HS HX
        clear ct et htl
        go_wp2_with fail
        go_region_held3 (fun W' => W'.cell? ⟨g1, o1 + i * 5, none⟩ = some (.int .i64 xn) ∧ W'.cell? ⟨g1, o1 + i * 5 + 1, none⟩ = some (.int .i64 xt) ∧ W'.cell? ⟨g1, o1 + i * 5 + 2, none⟩ = some (.int .i64 xk) ∧ W'.cell? ⟨g1, o1 + i * 5 + 3, none⟩ = some (.int .i64 xe) ∧ W'.cell? ⟨g1, o1 + i * 5 + 4, none⟩ = some (.slice sa xl.length sca) ∧ W'.cell? ⟨g2, o2 + i * 5, none⟩ = some (.int .i64 yn) ∧ W'.cell? ⟨g2, o2 + i * 5 + 1, none⟩ = some (.int .i64 yt) ∧ W'.cell? ⟨g2, o2 + i * 5 + 2, none⟩ = some (.int .i64 yk) ∧ W'.cell? ⟨g2, o2 + i * 5 + 3, none⟩ = some (.int .i64 ye) ∧ W'.cell? ⟨g2, o2 + i * 5 + 4, none⟩ = some (.slice sb yl.length scb))
          (first | exact ⟨c0, c1, c2, c3, c4, e0, e1, e2, e3, e4⟩ | exact ⟨below_at hb2 c0 (lt_of_cell c0), below_at hb2 c1 (lt_of_cell c1), below_at hb2 c2 (lt_of_cell c2), below_at hb2 c3 (lt_of_cell c3), below_at hb2 c4 (lt_of_cell c4), below_at hb2 e0 (lt_of_cell e0), below_at hb2 e1 (lt_of_cell e1), below_at hb2 e2 (lt_of_cell e2), below_at hb2 e3 (lt_of_cell e3), below_at hb2 e4 (lt_of_cell e4)⟩)
          (first | (go_at_call 82; refine HX.out.mono ?_; rintro e' w2 ⟨rfl, hb2'⟩; (have hb2 : Below wr.heap.size wr w2 := (Below.refl _ _).drew.trans hb2')))
        have HB2 : Hid (Below w.heap.size w w2) := hI.out.1.trans (hb2.mono hI.out.1.size)
        clear hb2 hb2' HX c0 c1 c2 c3 c4 e0 e1 e2 e3 e4
        rcases q with _ | _
        · have hq := HS.out
          simp only [Bool.false_eq_true, if_false] at hq
          have Hq := hide hq
          clear hq
          go_wp2_with fail
          go_ret
          exact ⟨by rw [Hq.out]; rfl, HB2.out⟩
        · have hq := HS.out
          simp only [if_true] at hq
          have Hq := hide hq
          clear hq
          go_wp2_with fail
          go_roundg (n - (i + 1) + 2)
          case measure => omega
          case rel => exact ⟨i + 1, by go_num, Nat.le_refl _, by omega, HB2.out, Hq.out.symm⟩
      · have hq := hI.out.2
        rw [cmpF_end ra rb i (by have := Hn.out; omega)] at hq
        have Hq := hide hq
        first
          | (have d1 : ¬ i < ra.length := by (have := Hnn.out; omega))
          | (have d1 : ¬ i < rb.length := by (have := Hnn.out; omega))
        have Hin : Hid (i = n) := by (show _ = _; omega)
        by_cases hab : ra.length = rb.length
        · have d3 : ((ra.length : Int) == (rb.length : Int)) = true := by rw [beq_iff_eq]; omega
          have hz : cmpF 0 ra rb = -1 := by rw [← Hq.out, if_pos hab]
          have Hz := hide hz
          have Hab := hide hab
          clear hq hz hab
          go_wp2_with fail
          go_ret
          exact ⟨by rw [Hz.out]; rfl, hI.out.1⟩
        · have d3 : ((ra.length : Int) == (rb.length : Int)) = false := by rw [beq_eq_false_iff_ne]; omega
          have hz : cmpF 0 ra rb = (n : Int) := by rw [← Hq.out, if_neg hab, Hin.out]
          have Hz := hide hz
          have Hab := hide hab
          clear hq hz hab
          go_wp2_with fail
          go_ret
          exact ⟨by rw [Hz.out, Hnn.out]; rfl, hI.out.1⟩
end Go.Proofs.YtndlmgocldckfaaGreat

namespace Go.Proofs.YtndlmgocldckfaaGreat
open Go.RowKit
set_option linter.unusedVariables false
set_option linter.unusedSimpArgs false

/-! The document's Same. -/

theorem recEq_parts (a b : Rec) (h1 : a.e.number = b.e.number) (h2 : a.e.time = b.e.time) (h3 : a.e.kind = b.e.kind) (h4 : a.e.entity = b.e.entity) : recEq a b = decide (a.told = b.told) := by
  simp [recEq, h1, h2, h3, h4]

set_option maxRecDepth 100000 in
set_option maxHeartbeats 2000000 in
theorem rSame_any (a b : Rec) (sa sb : Option Addr) (ca cb : Nat) (w : World) (h1 : ToldIn w sa a.told) (h2 : ToldIn w sb b.told) (hl : a.told.length ≤ 1000000000000000) :
    Calls Tryz.prog 72 #[.agg #[.int .i64 a.e.number, .int .i64 a.e.time, .int .i64 a.e.kind, .int .i64 a.e.entity, .slice sa a.told.length ca], .agg #[.int .i64 b.e.number, .int .i64 b.e.time, .int .i64 b.e.kind, .int .i64 b.e.entity, .slice sb b.told.length cb]] w fun e w' => e = .returned (.bool (recEq a b)) ∧ Below w.heap.size w w' := by
  obtain ⟨⟨a1, a2, a3, a4⟩, l⟩ := a
  obtain ⟨⟨b1, b2, b3, b4⟩, m⟩ := b
  simp only at h1 h2 hl ⊢
  obtain ⟨W1, hW1⟩ : ∃ W1, W1 = (w.alloc (.cells #[.int .i64 a2, .int .i64 a1, .int .i64 a3, .int .i64 a4, .slice sa l.length ca] 46)).alloc (.cells #[.int .i64 b2, .int .i64 b1, .int .i64 b3, .int .i64 b4, .slice sb m.length cb] 46) := ⟨_, rfl⟩
  have hb1 : Below w.heap.size w W1 := by rw [hW1]; exact ((Below.refl _ _).alloc (Nat.le_refl _) _).alloc (by simp) _
  have hz1 : W1.heap.size = w.heap.size + 2 := by rw [hW1]; simp
  have x4 : W1.cell? ⟨w.heap.size, 4, none⟩ = some (.slice sa l.length ca) := by rw [hW1]; simp [go_sem]
  have y4 : W1.cell? ⟨w.heap.size + 1, 4, none⟩ = some (.slice sb m.length cb) := by rw [hW1]; simp [go_sem]
  have HB1 := hide hb1
  have H1 := hide (h1.below hb1)
  have H2 := hide (h2.below hb1)
  clear h1 h2 hb1
  have HF : Hid (recEq ⟨⟨a1, a2, a3, a4⟩, l⟩ ⟨⟨b1, b2, b3, b4⟩, m⟩ = (decide (a2 = b2) && (decide (a1 = b1) && (decide (a3 = b3) && (decide (a4 = b4) && decide (l = m)))))) := by show _ = _; rfl
  by_cases e2 : a2 = b2
  rotate_left
  · have d : (a2 != b2) = true := by simpa using e2
    have hf : recEq ⟨⟨a1, a2, a3, a4⟩, l⟩ ⟨⟨b1, b2, b3, b4⟩, m⟩ = false := by rw [HF.out]; simp [e2]
    rw [hf]
    go_enter Tryz.func72, Tryz.ntmps72
    go_wp2_with fail
    go_ret
    exact ⟨rfl, by rw [← hW1]; exact HB1.out⟩
  by_cases e1 : a1 = b1
  rotate_left
  · have d : (a1 != b1) = true := by simpa using e1
    have hf : recEq ⟨⟨a1, a2, a3, a4⟩, l⟩ ⟨⟨b1, b2, b3, b4⟩, m⟩ = false := by rw [HF.out]; simp [e1]
    rw [hf]
    subst e2
    go_enter Tryz.func72, Tryz.ntmps72
    go_wp2_with fail
    go_ret
    exact ⟨rfl, by rw [← hW1]; exact HB1.out⟩
  by_cases e3 : a3 = b3
  rotate_left
  · have d : (a3 != b3) = true := by simpa using e3
    have hf : recEq ⟨⟨a1, a2, a3, a4⟩, l⟩ ⟨⟨b1, b2, b3, b4⟩, m⟩ = false := by rw [HF.out]; simp [e3]
    rw [hf]
    subst e2 e1
    go_enter Tryz.func72, Tryz.ntmps72
    go_wp2_with fail
    go_ret
    exact ⟨rfl, by rw [← hW1]; exact HB1.out⟩
  by_cases e4 : a4 = b4
  rotate_left
  · have d : (a4 != b4) = true := by simpa using e4
    have hf : recEq ⟨⟨a1, a2, a3, a4⟩, l⟩ ⟨⟨b1, b2, b3, b4⟩, m⟩ = false := by rw [HF.out]; simp [e4]
    rw [hf]
    subst e2 e1 e3
    go_enter Tryz.func72, Tryz.ntmps72
    go_wp2_with fail
    go_ret
    exact ⟨rfl, by rw [← hW1]; exact HB1.out⟩
  subst e2 e1 e3 e4
  have HR : Hid (recEq ⟨⟨a1, a2, a3, a4⟩, l⟩ ⟨⟨a1, a2, a3, a4⟩, m⟩ = decide (l = m)) := by show _ = _; rw [HF.out]; simp
  clear HF
  by_cases hlen : l.length = m.length
  rotate_left
  · have d0 : ((l.length : Int) != (m.length : Int)) = true := by simpa using (by omega : ¬ (l.length : Int) = (m.length : Int))
    have hne : decide (l = m) = false := by simp; intro hc; exact hlen (by rw [hc])
    rw [HR.out, hne]
    go_enter Tryz.func72, Tryz.ntmps72
    go_wp2_with fail
    go_ret
    exact ⟨rfl, by rw [← hW1]; exact HB1.out⟩
  rw [HR.out]
  rw [← hlen] at y4 hW1
  rw [← hlen]
  have Hlen := hide hlen
  clear hlen HR
  go_enter Tryz.func72, Tryz.ntmps72
  go_wp2_with fail
  rw [← hW1]
  have HW1 := hide hW1
  clear hW1
  go_loopg [5] (l.length + 3) (fun g s9 wr => ∃ (i : Nat), s9 = .int .i64 i ∧ l.length - i + 2 ≤ g ∧ i ≤ l.length ∧ Hid (Below W1.heap.size W1 wr ∧ l.take i = m.take i))
  case atStart => exact ⟨0, rfl, by omega, by omega, Below.refl _ _, by simp⟩
  case round =>
    obtain ⟨i, rfl, hg, hi, hI⟩ := hrel
    have p4 := below_at hI.out.1 x4 (by omega)
    have q4 := below_at hI.out.1 y4 (by omega)
    by_cases hlt : i < l.length
    · have d1 : decide ((i : Int) < (l.length : Int)) = true := by simp; omega
      have hii : (i : Int) < (l.length : Int) := by omega
      have hw : IntKind.i64.wrap ((i : Int) + 1) = (i : Int) + 1 := by rw [IntKind.wrap_i64]; omega
      have hlm : i < m.length := by have := Hlen.out; omega
      obtain ⟨g1, o1, rfl, c1⟩ := H1.out i l[i] (List.getElem?_eq_getElem hlt)
      obtain ⟨g2, o2, rfl, c2⟩ := H2.out i m[i] (List.getElem?_eq_getElem hlm)
      replace c1 := below_at hI.out.1 c1 (lt_of_cell c1)
      replace c2 := below_at hI.out.1 c2 (lt_of_cell c2)
      have HN : Hid (¬ l[i] = m[i] → decide (l = m) = false) := by
        intro hne
        simp only [decide_eq_false_iff_not]
        intro hc
        subst hc
        exact hne rfl
      have HY : Hid (l[i] = m[i] → l.take (i + 1) = m.take (i + 1)) := by
        intro he
        rw [List.take_succ_eq_append_getElem hlt, List.take_succ_eq_append_getElem hlm, hI.out.2, he]
      generalize l[i] = x at c1 HN HY
      generalize m[i] = y at c2 HN HY
      clear x4 y4
      by_cases hxy : x = y
      · subst hxy
        have hT := HY.out rfl
        have HT := hide hT
        clear hT HN HY
        go_wp2_with fail
        go_quiet (fail)
        go_wp2_with fail
        go_roundg (l.length - (i + 1) + 2)
        case measure => omega
        case rel => exact ⟨i + 1, by go_num, Nat.le_refl _, by omega, below_drewN hI.out.1 _, HT.out⟩
      · have hne : (x != y) = true := by simpa using hxy
        have hF := HN.out hxy
        have HF := hide hF
        clear hF HN HY
        go_wp2_with fail
        go_quiet (fail)
        go_wp2_with fail
        go_ret
        exact ⟨by rw [HF.out]; rfl, HB1.out.trans ((below_drewN hI.out.1 _).mono (by omega))⟩
    · have d1 : decide ((i : Int) < (l.length : Int)) = false := by simp; omega
      have he : l = m := by
        have h1 := hI.out.2
        rw [List.take_of_length_le (by omega), List.take_of_length_le (by have := Hlen.out; omega)] at h1
        exact h1
      have hd : decide (l = m) = true := by simpa using he
      have Hd := hide hd
      clear he hd
      go_wp2_with fail
      go_ret
      exact ⟨by rw [Hd.out]; rfl, HB1.out.trans (hI.out.1.mono (by omega))⟩
end Go.Proofs.YtndlmgocldckfaaGreat

namespace Go.Proofs.YtndlmgocldckfaaGreat
open Go.RowKit
set_option linter.unusedVariables false
set_option linter.unusedSimpArgs false

/-! Records that came out: are they these? -/

theorem eqlNilR (w : World) (a : Option Addr) (n c : Nat) : (binOp .eql 39 (.slice a n c) (.slice none 0 0)).run Tryz.prog w = .ok (.bool a.isNone) w := Lib.run_eql_slice_nil w _ _ a n c 0 0 Tryz.underlying39
attribute [local go_sem] eqlNilR
theorem AllR.below {w w' : World} {Z : Nat} {av : Value} {L : List RecC} {rs : List Rec} (h : AllR w Z av L rs) (hb : Below w.heap.size w w') : AllR w' Z av L rs := h.only (Only.new (S := fun _ => False) hb) (by simp)
theorem recEq_self (r : Rec) : recEq r r = true := (recEq_iff r r).2 rfl

set_option maxRecDepth 100000 in
set_option maxHeartbeats 4000000 in
theorem records_any {Z : Nat} (wb : Nat) (k : BkD) (la ma : Option Addr) (n lc mc : Nat) (L : List RecC) (rs : List Rec) (e : Int) (w : World) (h : BkP w wb k) (hl : AllR w Z (.slice la n lc) L rs) (hA : ApartR L) (hm : RecIn w ma rs) (hZ : Z ≤ w.heap.size) (hn : n ≤ 1000) (ht : ∀ r ∈ rs, r.told.length ≤ 1000000) (h4 : k.il.length % 4 = 0) (h4r : k.rl.length % 4 = 0) (hlen : k.il.length + 4 * n ≤ 1099511627776) (hlenr : k.rl.length ≤ 1099511627776) (hls : ∀ b, AllSet (.slice la n lc) L b → ¬ k.set b ∧ b ≠ wb) (he : e = 0 ∨ (la = none ∧ n = 0 ∧ lc = 0)) :
    Calls Tryz.prog 36 #[.pointer (some ⟨wb, 0, none⟩), .slice la n lc, .int .i64 e, .slice ma n mc, .int .i64 e] w fun x w' => x = .returned (.bool true) ∧ ∃ k', BkStep wb k k' (AllSet (.slice la n lc) L) w w' ∧ k'.il.length ≤ k.il.length + 4 * n ∧ k'.il.length % 4 = 0 ∧ k'.rl.length = k.rl.length + 4 ∧ k'.bl = k.bl := by
  have hrn : rs.length = n := by
    obtain ⟨_, _, hc⟩ := owns_formK hl.row
    simp only [Value.slice.injEq] at hc
    rw [← hl.len]; exact hc.2.1.symm
  have HK : Hid (∀ w', Below w.heap.size w w' → Calls Tryz.prog 73 #[.pointer (some ⟨wb, 1, none⟩), .slice la n lc] w' fun e w'' => e = .returned (.tuple #[]) ∧ ∃ k', BkStep wb k k' (AllSet (.slice la n lc) L) w w'' ∧ k'.il.length ≤ k.il.length + 4 * n ∧ k'.il.length % 4 = 0 ∧ k'.rl.length = k.rl.length + 4 ∧ k'.bl = k.bl) := by
    intro w' hb
    refine (keepsRecords_any wb k la n lc L rs w' (h.below hb) (hl.below hb) hA (Nat.le_trans hZ hb.size) hn ht h4 h4r hlen hlenr hls).mono ?_
    rintro e w'' ⟨rfl, k', hs, hrest⟩
    exact ⟨rfl, k', hs.pre (Only.new hb) (fun hc => (hls wb hc).2 rfl), hrest⟩
  obtain ⟨la', lcap, hlv, hLI⟩ := hl.recIn
  rw [hrn] at hlv
  simp only [Value.slice.injEq, true_and] at hlv
  obtain ⟨rfl, rfl⟩ := hlv
  have HL := hide hLI
  have HM := hide hm
  have Ht := hide ht
  have Hrn := hide hrn
  have hwl := h.lt
  clear h hl hA hm ht hls hLI hrn h4 h4r hlen hlenr
  have hee : (e == e) = true := by simp
  have hnn : ((n : Int) == (n : Int)) = true := by simp
  have hcase : (la = none ∧ n = 0) ∨ (∃ a, la = some a) ∧ e = 0 := by
    rcases la with _ | a
    · refine .inl ⟨rfl, ?_⟩
      rcases Nat.eq_zero_or_pos n with h0 | h0
      · exact h0
      · obtain ⟨_, _, _, _, hx, _⟩ := HL.out 0 (rs[0]'(by have := Hrn.out; omega)) (List.getElem?_eq_getElem _)
        cases hx
    · rcases he with he | ⟨he, _⟩
      · exact .inr ⟨⟨a, rfl⟩, he⟩
      · cases he
  clear he
  have hn0 : (n : Int) ≤ 1000 := by omega
  rcases hcase with ⟨rfl, hn00⟩ | ⟨⟨a, rfl⟩, rfl⟩
  · have Hn00 := hide hn00
    clear hn00
    go_enter Tryz.func36, Tryz.ntmps36
    go_wp2_with fail
    go_loopg [11, 12] (n + 3) (fun g s11 s12 wr => ∃ (i : Nat), s11 = .bool true ∧ s12 = .int .i64 i ∧ n - i + 2 ≤ g ∧ i ≤ n ∧ Hid (Below w.heap.size w wr))
    case atStart => exact ⟨0, rfl, rfl, by omega, by omega, Below.refl _ _⟩
    case round =>
      obtain ⟨i, rfl, rfl, hg, hi, hI⟩ := hrel
      have hlt : ¬ i < n := by have := Hn00.out; omega
      have d1 : decide ((i : Int) < (n : Int)) = false := by simp; omega
      have HKK := hide (HK.out wr hI.out)
      go_wp2_with fail
      refine HKK.out.mono ?_
      rintro e5 w5 ⟨rfl, k', hs, hrest⟩
      have HS := hide hs
      have HR := hide hrest
      clear hs hrest HKK
      go_wp2_with fail
      go_ret
      exact ⟨rfl, k', HS.out, HR.out⟩
  · go_enter Tryz.func36, Tryz.ntmps36
    go_wp2_with fail
    go_loopg [11, 12] (n + 3) (fun g s11 s12 wr => ∃ (i : Nat), s11 = .bool true ∧ s12 = .int .i64 i ∧ n - i + 2 ≤ g ∧ i ≤ n ∧ Hid (Below w.heap.size w wr))
    case atStart => exact ⟨0, rfl, rfl, by omega, by omega, Below.refl _ _⟩
    case round =>
      obtain ⟨i, rfl, rfl, hg, hi, hI⟩ := hrel
      by_cases hlt : i < n
      · have d1 : decide ((i : Int) < (n : Int)) = true := by simp; omega
        have hii : (i : Int) < (n : Int) := by omega
        have hw : IntKind.i64.wrap ((i : Int) + 1) = (i : Int) + 1 := by rw [IntKind.wrap_i64]; omega
        have hir : i < rs.length := by have := Hrn.out; omega
        have htl := Ht.out rs[i] (List.getElem_mem hir)
        obtain ⟨g1, o1, sa, sca, hla, c0, c1, c2, c3, c4, ct⟩ := (HL.out.below hI.out) i rs[i] (List.getElem?_eq_getElem hir)
        obtain ⟨g2, o2, sb, scb, hma, e0, e1, e2, e3, e4, et⟩ := (HM.out.below hI.out) i rs[i] (List.getElem?_eq_getElem hir)
        cases hla
        cases hma
        have HX := hide (rSame_any rs[i] rs[i] sa sb sca scb wr.drew (ct.below (Below.refl _ _).drew) (et.below (Below.refl _ _).drew) (by omega))
        rw [recEq_self] at HX
        generalize rs[i] = x at c0 c1 c2 c3 c4 e0 e1 e2 e3 e4 HX
        obtain ⟨⟨xt, xn, xk, xe⟩, xl⟩ := x
        simp only at c0 c1 c2 c3 c4 e0 e1 e2 e3 e4 HX
        clear ct et htl
        go_wp2_with fail
        go_region_held3 (fun W' => W'.cell? ⟨g1, o1 + i * 5, none⟩ = some (.int .i64 xn) ∧ W'.cell? ⟨g1, o1 + i * 5 + 1, none⟩ = some (.int .i64 xt) ∧ W'.cell? ⟨g1, o1 + i * 5 + 2, none⟩ = some (.int .i64 xk) ∧ W'.cell? ⟨g1, o1 + i * 5 + 3, none⟩ = some (.int .i64 xe) ∧ W'.cell? ⟨g1, o1 + i * 5 + 4, none⟩ = some (.slice sa xl.length sca) ∧ W'.cell? ⟨g2, o2 + i * 5, none⟩ = some (.int .i64 xn) ∧ W'.cell? ⟨g2, o2 + i * 5 + 1, none⟩ = some (.int .i64 xt) ∧ W'.cell? ⟨g2, o2 + i * 5 + 2, none⟩ = some (.int .i64 xk) ∧ W'.cell? ⟨g2, o2 + i * 5 + 3, none⟩ = some (.int .i64 xe) ∧ W'.cell? ⟨g2, o2 + i * 5 + 4, none⟩ = some (.slice sb xl.length scb))
          (first | exact ⟨c0, c1, c2, c3, c4, e0, e1, e2, e3, e4⟩ | exact ⟨below_at hb2 c0 (lt_of_cell c0), below_at hb2 c1 (lt_of_cell c1), below_at hb2 c2 (lt_of_cell c2), below_at hb2 c3 (lt_of_cell c3), below_at hb2 c4 (lt_of_cell c4), below_at hb2 e0 (lt_of_cell e0), below_at hb2 e1 (lt_of_cell e1), below_at hb2 e2 (lt_of_cell e2), below_at hb2 e3 (lt_of_cell e3), below_at hb2 e4 (lt_of_cell e4)⟩)
          (first | (go_at_call 72; refine HX.out.mono ?_; rintro e' w2 ⟨rfl, hb2'⟩; (have hb2 : Below wr.heap.size wr w2 := (Below.refl _ _).drew.trans hb2')))
        have HB2 : Hid (Below w.heap.size w w2) := hI.out.trans (hb2.mono hI.out.size)
        clear hb2 hb2' HX c0 c1 c2 c3 c4 e0 e1 e2 e3 e4
        go_wp2_with fail
        go_roundg (n - (i + 1) + 2)
        case measure => omega
        case rel => exact ⟨i + 1, rfl, by go_num, Nat.le_refl _, by omega, HB2.out⟩
      · have d1 : decide ((i : Int) < (n : Int)) = false := by simp; omega
        have HKK := hide (HK.out wr hI.out)
        go_wp2_with fail
        refine HKK.out.mono ?_
        rintro e5 w5 ⟨rfl, k', hs, hrest⟩
        have HS := hide hs
        have HR := hide hrest
        clear hs hrest HKK
        go_wp2_with fail
        go_ret
        exact ⟨rfl, k', HS.out, HR.out⟩
end Go.Proofs.YtndlmgocldckfaaGreat

namespace Go.Proofs.YtndlmgocldckfaaGreat
open Go.RowKit
set_option linter.unusedVariables false
set_option linter.unusedSimpArgs false

/-! Do the lists that came out still read so? -/

set_option maxHeartbeats 1000000 in
theorem mark_any (n : Nat) (w : World) (hn : n ≤ 2199023255552) : Calls Tryz.prog 19 #[.int .i64 n] w fun e w' => e = .returned (.int .u8 (200 + ((n / 4 % 50 : Nat) : Int))) ∧ w' = w := by
  go_enter Tryz.func19, Tryz.ntmps19
  go_wp2
  go_ret
  refine ⟨?_, rfl⟩
  simp
  try omega

set_option maxHeartbeats 1000000 in
theorem lawSame_any (a b c d e f g h : Int) (x y : Value) (w : World) : Calls Tryz.prog 20 #[.agg #[.int .i64 a, .int .i64 b, .int .i64 c, .int .i64 d, x], .agg #[.int .i64 e, .int .i64 f, .int .i64 g, .int .i64 h, y]] w fun r w' => r = .returned (.bool (decide (a = e) && (decide (b = f) && (decide (c = g) && decide (d = h))))) ∧ Below w.heap.size w w' := by
  have hb : Below w.heap.size w _ := ((Below.refl w.heap.size w).alloc (Nat.le_refl _) (.cells #[.int .i64 a, .int .i64 b, .int .i64 c, .int .i64 d, x] 46)).alloc (by simp) (.cells #[.int .i64 e, .int .i64 f, .int .i64 g, .int .i64 h, y] 46)
  have HB := hide hb
  clear hb
  by_cases h1 : a = e
  rotate_left
  · have d1 : (a == e) = false := by simpa using h1
    go_enter Tryz.func20, Tryz.ntmps20
    go_wp2
    go_ret
    exact ⟨by simp [h1], HB.out⟩
  by_cases h2 : b = f
  rotate_left
  · have d1 : (b == f) = false := by simpa using h2
    subst h1
    go_enter Tryz.func20, Tryz.ntmps20
    go_wp2
    go_ret
    exact ⟨by simp [h2], HB.out⟩
  by_cases h3 : c = g
  rotate_left
  · have d1 : (c == g) = false := by simpa using h3
    subst h1 h2
    go_enter Tryz.func20, Tryz.ntmps20
    go_wp2
    go_ret
    exact ⟨by simp [h3], HB.out⟩
  subst h1 h2 h3
  go_enter Tryz.func20, Tryz.ntmps20
  go_wp2
  go_ret
  exact ⟨by simp; rfl, HB.out⟩

theorem reps_at {n j : Nat} {v : Value} (h : j < n) : (reps n [v])[j]? = some v := by
  have := reps_get n j 0 [v] (by simp) h
  simpa using this
theorem reps_at5 {n j i : Nat} {a b c d e : Value} (h : j < n) (hi : i < 5) : (reps n [a, b, c, d, e])[j * 5 + i]? = [a, b, c, d, e][i]? := reps_get n j i [a, b, c, d, e] hi h
/-- A list in the book, and where it stands there. -/
theorem list_at {w : World} {base : Nat} {e : TypeId} {v : Value} {l : List Value} (h : w.ownsRow base e 1 v l.length l) {i : Nat} {x : Value} (hx : l[i]? = some x) : ∃ g cap, v = .slice (some ⟨g, 0, none⟩) l.length cap ∧ w.cell? ⟨g, i, none⟩ = some x := by
  have hi := (List.getElem?_eq_some_iff.1 hx).1
  rcases owns_row h with ⟨_, h0, _⟩ | ⟨g, cap, rfl, _, _, hr⟩
  · omega
  · have := hr i x hx
    rw [Nat.zero_add] at this
    exact ⟨g, cap, rfl, this⟩

set_option maxRecDepth 100000 in
set_option maxHeartbeats 4000000 in
theorem looks_any (wb : Nat) (k : BkD) (w : World) (h : BkP w wb k) (hlb : k.bl.length ≤ 1099511627776) (hli : k.il.length ≤ 1099511627776) (hlr : k.rl.length ≤ 1099511627776) :
    Calls Tryz.prog 12 #[.pointer (some ⟨wb, 1, none⟩)] w fun e w' => e = .returned (.bool true) ∧ Below w.heap.size w w' := by
  have H := hide h
  have hwl := h.lt
  obtain ⟨ba, bc, hbv⟩ := owns_formK h.ok.bown
  obtain ⟨ia, ic, hiv⟩ := owns_formK h.ok.iown
  obtain ⟨ra, rc, hrv⟩ := owns_formK h.ok.rown
  have c1 := h.c1
  have c2 := h.c2
  have c3 := h.c3
  rw [hbv] at c1
  rw [hiv] at c2
  rw [hrv] at c3
  have Hbv := hide hbv
  have Hiv := hide hiv
  have Hrv := hide hrv
  clear h hbv hiv hrv
  go_enter Tryz.func12, Tryz.ntmps12
  go_wp2
  go_loopw [3, 4, 5] (fun i _ _ wr => ∃ (n : Nat), n ≤ k.bl.length ∧ i = .int .i64 n ∧ wr = w) (fun i _ _ _ => k.bl.length - (intOf i).toNat)
  case atStart => exact ⟨0, Nat.zero_le _, rfl, rfl⟩
  case round =>
    obtain ⟨n, hn, rfl, rfl⟩ := hrel
    by_cases hlt : n < k.bl.length
    · have d1 : decide ((n : Int) < (k.bl.length : Int)) = true := by simp; omega
      have hnn : (n : Int) < (k.bl.length : Int) := by omega
      have hw : IntKind.i64.wrap ((n : Int) + 1) = (n : Int) + 1 := by rw [IntKind.wrap_i64]; omega
      obtain ⟨v, hv⟩ : ∃ v, k.bl[n]? = some v := ⟨k.bl[n], List.getElem?_eq_getElem hlt⟩
      obtain ⟨g, cap, hg, cg⟩ := list_at H.out.ok.bown hv
      obtain ⟨m, hm, ea, ec, rfl, hx⟩ := H.out.ok.bent n v hv
      rw [Hbv.out] at hg
      simp only [Value.slice.injEq, true_and] at hg
      obtain ⟨rfl, rfl⟩ := hg
      have HX := hide hx
      clear hx hv
      go_wp2_with (go_at_call 19; refine (mark_any n _ (by omega)).mono ?_; rintro e w1 ⟨rfl, rfl⟩)
      rename World => wo
      go_loopw [5] (fun j wr => ∃ (q : Nat), q ≤ m ∧ j = .int .i64 q ∧ wr = wo) (fun j _ => m - (intOf j).toNat)
      case atStart => exact ⟨0, Nat.zero_le _, rfl, rfl⟩
      case round =>
        obtain ⟨q, hq, rfl, rfl⟩ := hrel
        by_cases hqt : q < m
        · have d2 : decide ((q : Int) < (m : Int)) = true := by simp; omega
          have hqq : (q : Int) < (m : Int) := by omega
          have hw2 : IntKind.i64.wrap ((q : Int) + 1) = (q : Int) + 1 := by rw [IntKind.wrap_i64]; omega
          obtain ⟨b, rfl, hr⟩ := HX.out (by omega)
          have cq := hr q _ (reps_at hqt)
          rw [Nat.zero_add] at cq
          clear hr
          go_wp2
          go_roundw
          case rel => exact ⟨q + 1, by omega, by go_num, trivial⟩
          case measure => simp [intOf]; omega
        · have d2 : decide ((q : Int) < (m : Int)) = false := by simp; omega
          go_wp2
          go_roundw
          case rel => exact ⟨n + 1, by omega, by go_num, trivial⟩
          case measure => simp [intOf]; omega
    · have d1 : decide ((n : Int) < (k.bl.length : Int)) = false := by simp; omega
      go_wp2
      clear hn hlt d1
      rename World => wo
      go_loopw [6, 7] (fun i _ wr => ∃ (n : Nat), n ≤ k.il.length ∧ i = .int .i64 n ∧ wr = wo) (fun i _ _ => k.il.length - (intOf i).toNat)
      case atStart => exact ⟨0, Nat.zero_le _, rfl, rfl⟩
      case round =>
        obtain ⟨n, hn, rfl, rfl⟩ := hrel
        by_cases hlt : n < k.il.length
        · have d1 : decide ((n : Int) < (k.il.length : Int)) = true := by simp; omega
          have hnn : (n : Int) < (k.il.length : Int) := by omega
          have hw : IntKind.i64.wrap ((n : Int) + 1) = (n : Int) + 1 := by rw [IntKind.wrap_i64]; omega
          obtain ⟨v, hv⟩ : ∃ v, k.il[n]? = some v := ⟨k.il[n], List.getElem?_eq_getElem hlt⟩
          obtain ⟨g, cap, hg, cg⟩ := list_at H.out.ok.iown hv
          obtain ⟨m, hm, ea, ec, rfl, hx⟩ := H.out.ok.ient n v hv
          rw [Hiv.out] at hg
          simp only [Value.slice.injEq, true_and] at hg
          obtain ⟨rfl, rfl⟩ := hg
          have HX := hide hx
          clear hx hv
          go_wp2_with fail
          rename World => wo
          go_loopw [7] (fun j wr => ∃ (q : Nat), q ≤ m ∧ j = .int .i64 q ∧ wr = wo) (fun j _ => m - (intOf j).toNat)
          case atStart => exact ⟨0, Nat.zero_le _, rfl, rfl⟩
          case round =>
            obtain ⟨q, hq, rfl, rfl⟩ := hrel
            by_cases hqt : q < m
            · have d2 : decide ((q : Int) < (m : Int)) = true := by simp; omega
              have hqq : (q : Int) < (m : Int) := by omega
              have hw2 : IntKind.i64.wrap ((q : Int) + 1) = (q : Int) + 1 := by rw [IntKind.wrap_i64]; omega
              obtain ⟨b, rfl, hr⟩ := HX.out (by omega)
              have cq := hr q _ (reps_at hqt)
              rw [Nat.zero_add, show (((n / 4 : Nat)) : Int) = (n : Int) / 4 by omega] at cq
              have e4 : Int.tdiv (n : Int) 4 = (n : Int) / 4 := Int.tdiv_eq_ediv_of_nonneg (by omega)
              have dn : ((-1000 - (n : Int) / 4) != (-1000 - (n : Int) / 4)) = false := by simp
              clear hr
              go_wp2
              go_roundw
              case rel => exact ⟨q + 1, by omega, by go_num, trivial⟩
              case measure => simp [intOf]; omega
            · have d2 : decide ((q : Int) < (m : Int)) = false := by simp; omega
              go_wp2
              go_roundw
              case rel => exact ⟨n + 1, by omega, by go_num, trivial⟩
              case measure => simp [intOf]; omega
        · have d1 : decide ((n : Int) < (k.il.length : Int)) = false := by simp; omega
          go_wp2
          clear hn hlt d1
          rename World => wo
          go_loopw [8, 9, 10, 11] (fun i _ _ _ wr => ∃ (n : Nat), n ≤ k.rl.length ∧ i = .int .i64 n ∧ Hid (Below wo.heap.size wo wr)) (fun i _ _ _ _ => k.rl.length - (intOf i).toNat)
          case atStart => exact ⟨0, Nat.zero_le _, rfl, Below.refl _ _⟩
          case round =>
            obtain ⟨n, hn, rfl, hB⟩ := hrel
            have c30 := c3
            have c3' := below_at hB.out c3 hwl
            clear c3
            by_cases hlt : n < k.rl.length
            · have d1 : decide ((n : Int) < (k.rl.length : Int)) = true := by simp; omega
              have hnn : (n : Int) < (k.rl.length : Int) := by omega
              have hw : IntKind.i64.wrap ((n : Int) + 1) = (n : Int) + 1 := by rw [IntKind.wrap_i64]; omega
              obtain ⟨v, hv⟩ : ∃ v, k.rl[n]? = some v := ⟨k.rl[n], List.getElem?_eq_getElem hlt⟩
              obtain ⟨g, cap, hg, cg⟩ := list_at H.out.ok.rown hv
              obtain ⟨m, hm, ea, ec, rfl, hx⟩ := H.out.ok.rent n v hv
              rw [Hrv.out] at hg
              simp only [Value.slice.injEq, true_and] at hg
              obtain ⟨rfl, rfl⟩ := hg
              have HX := hide hx
              clear hx hv
              rename World => wr
              have hzr := hB.out.size
              have e4 : Int.tdiv (n : Int) 4 = (n : Int) / 4 := Int.tdiv_eq_ediv_of_nonneg (by omega)
              obtain ⟨m0, hm0⟩ : ∃ m0 : Int, m0 = -1000 - (n : Int) / 4 := ⟨_, rfl⟩
              obtain ⟨W2, hW2⟩ : ∃ W2, W2 = wr.alloc (.cells #[.int .i64 m0, .int .i64 0, .int .i64 0, .int .i64 0, .slice none 0 0] 46) := ⟨_, rfl⟩
              have hb2 : Below wr.heap.size wr W2 := by rw [hW2]; exact alloc_below _ _
              have hz2 : W2.heap.size = wr.heap.size + 1 := by rw [hW2]; simp
              have a0 : W2.cell? ⟨wr.heap.size, 0, none⟩ = some (.int .i64 m0) := by rw [hW2]; simp [go_sem]
              have a1 : W2.cell? ⟨wr.heap.size, 1, none⟩ = some (.int .i64 0) := by rw [hW2]; simp [go_sem]
              have a2 : W2.cell? ⟨wr.heap.size, 2, none⟩ = some (.int .i64 0) := by rw [hW2]; simp [go_sem]
              have a3 : W2.cell? ⟨wr.heap.size, 3, none⟩ = some (.int .i64 0) := by rw [hW2]; simp [go_sem]
              have a4 : W2.cell? ⟨wr.heap.size, 4, none⟩ = some (.slice none 0 0) := by rw [hW2]; simp [go_sem]
              have HB2 : Hid (Below wo.heap.size wo W2) := hB.out.trans (hb2.mono hzr)
              clear hb2
              have HW2 := hide hW2
              clear hW2
              go_wp2_with fail
              rw [← hm0, ← HW2.out]
              have Hm0 : Hid (.int .i64 m0 = Value.int .i64 (-1000 - ((n / 4 : Nat) : Int))) := by show _ = _; rw [hm0]; congr 2
              clear hm0 HW2 e4
              go_loopw [10, 11] (fun j _ wx => ∃ (q : Nat), q ≤ m ∧ j = .int .i64 q ∧ Hid (Below W2.heap.size W2 wx)) (fun j _ _ => m - (intOf j).toNat)
              case atStart => exact ⟨0, Nat.zero_le _, rfl, Below.refl _ _⟩
              case round =>
                obtain ⟨q, hq, rfl, hX⟩ := hrel
                rename World => wx
                have hzx := hX.out.size
                have hoz := HB2.out.size
                have HBX : Hid (Below wo.heap.size wo wx) := HB2.out.trans (hX.out.mono (by omega))
                have k3 := below_at HBX.out c30 hwl
                have kg := below_at HBX.out cg (lt_of_cell cg)
                by_cases hqt : q < m
                · have d2 : decide ((q : Int) < (m : Int)) = true := by simp; omega
                  have hqq : (q : Int) < (m : Int) := by omega
                  have hw2 : IntKind.i64.wrap ((q : Int) + 1) = (q : Int) + 1 := by rw [IntKind.wrap_i64]; omega
                  obtain ⟨b, rfl, hr⟩ := HX.out (by omega)
                  have r0 := hr (q * 5 + 0) _ (reps_at5 hqt (by omega))
                  have r1 := hr (q * 5 + 1) _ (reps_at5 hqt (by omega))
                  have r2 := hr (q * 5 + 2) _ (reps_at5 hqt (by omega))
                  have r3 := hr (q * 5 + 3) _ (reps_at5 hqt (by omega))
                  have r4 := hr (q * 5 + 4) _ (reps_at5 hqt (by omega))
                  simp only [Nat.zero_add, Nat.add_zero] at r0 r1 r2 r3 r4
                  rw [← Hm0.out] at r0
                  have u0 := below_at HBX.out r0 (lt_of_cell r0)
                  have u1 := below_at HBX.out r1 (lt_of_cell r1)
                  have u2 := below_at HBX.out r2 (lt_of_cell r2)
                  have u3 := below_at HBX.out r3 (lt_of_cell r3)
                  have u4 := below_at HBX.out r4 (lt_of_cell r4)
                  have v0 := below_at hX.out a0 (by omega)
                  have v1 := below_at hX.out a1 (by omega)
                  have v2 := below_at hX.out a2 (by omega)
                  have v3 := below_at hX.out a3 (by omega)
                  have v4 := below_at hX.out a4 (by omega)
                  clear hr r0 r1 r2 r3 r4
                  go_wp2_with fail
                  go_region_held3 (fun W' => W'.cell? ⟨wb, 3, none⟩ = some (.slice (some ⟨g, 0, none⟩) k.rl.length rc) ∧ W'.cell? ⟨g, n, none⟩ = some (.slice (some ⟨b, 0, none⟩) m ec) ∧ W'.cell? ⟨b, q * 5, none⟩ = some (.int .i64 m0) ∧ W'.cell? ⟨b, q * 5 + 1, none⟩ = some (.int .i64 0) ∧ W'.cell? ⟨b, q * 5 + 2, none⟩ = some (.int .i64 0) ∧ W'.cell? ⟨b, q * 5 + 3, none⟩ = some (.int .i64 0) ∧ W'.cell? ⟨b, q * 5 + 4, none⟩ = some (.slice none 0 0) ∧ W'.cell? ⟨wr.heap.size, 0, none⟩ = some (.int .i64 m0) ∧ W'.cell? ⟨wr.heap.size, 1, none⟩ = some (.int .i64 0) ∧ W'.cell? ⟨wr.heap.size, 2, none⟩ = some (.int .i64 0) ∧ W'.cell? ⟨wr.heap.size, 3, none⟩ = some (.int .i64 0) ∧ W'.cell? ⟨wr.heap.size, 4, none⟩ = some (.slice none 0 0))
                    (first | exact ⟨k3, kg, u0, u1, u2, u3, u4, v0, v1, v2, v3, v4⟩ | exact ⟨below_at hb5 k3 (lt_of_cell k3), below_at hb5 kg (lt_of_cell kg), below_at hb5 u0 (lt_of_cell u0), below_at hb5 u1 (lt_of_cell u1), below_at hb5 u2 (lt_of_cell u2), below_at hb5 u3 (lt_of_cell u3), below_at hb5 u4 (lt_of_cell u4), below_at hb5 v0 (lt_of_cell v0), below_at hb5 v1 (lt_of_cell v1), below_at hb5 v2 (lt_of_cell v2), below_at hb5 v3 (lt_of_cell v3), below_at hb5 v4 (lt_of_cell v4)⟩)
                    (first | (go_at_call 20; refine (lawSame_any m0 0 0 0 m0 0 0 0 (.slice none 0 0) (.slice none 0 0) wx.drew).mono ?_; rintro e' w5 ⟨rfl, hb5'⟩; (have hb5 : Below wx.heap.size wx w5 := (Below.refl _ _).drew.trans hb5')))
                  have y3 := below_at hb5 k3 (lt_of_cell k3)
                  have yg := below_at hb5 kg (lt_of_cell kg)
                  have y4 := below_at hb5 u4 (lt_of_cell u4)
                  clear k3 kg u0 u1 u2 u3 u4 v0 v1 v2 v3 v4
                  have HB5 : Hid (Below W2.heap.size W2 w5) := hX.out.trans (hb5.mono hzx)
                  clear hb5 hb5'
                  go_wp2_with fail
                  go_roundw
                  case rel => exact ⟨q + 1, by omega, by go_num, HB5.out⟩
                  case measure => simp [intOf]; omega
                · have d2 : decide ((q : Int) < (m : Int)) = false := by simp; omega
                  go_wp2
                  go_roundw
                  case rel => exact ⟨n + 1, by omega, by go_num, HBX.out⟩
                  case measure => simp [intOf]; omega
            · have d1 : decide ((n : Int) < (k.rl.length : Int)) = false := by simp; omega
              go_wp2
              go_ret
              exact ⟨rfl, hB.out⟩
end Go.Proofs.YtndlmgocldckfaaGreat
